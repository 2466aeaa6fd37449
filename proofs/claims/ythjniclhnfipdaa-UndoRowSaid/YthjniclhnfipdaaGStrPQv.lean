/-
  The program's map of names. No condition but that the kinds lie where they are said to lie.
  The program's Check, Find and kindAt. No condition but that the grammar lies where it is said to lie.
  The program's kindAt, Text and Least. No condition but that the grammar lies where it is said to lie.
  Arrays of 201 truths, whole, out of and into blocks: single rules of the walk. No condition.
  Which rows fit: plainly. No condition.
  Stretches, found step by step: plainly. No condition.
-/
import Derived.Test.YthjniclhnfipdaaGIntsQv
import Derived.Maps.OwnSet
import Derived.Maps.OwnOps
import Derived.Test.YthjniclhnfipdaaRSameQv
import Derived.Deep.MidRow
import Derived.Deep.WholeRow
namespace Go.Proofs.Ythjniclhnfipdaa
open Go.RowKit Go.Maps

theorem strKey (s : List UInt8) : WideAt.IsKeyLit (.string s) := True.intro
/-- What the map holds behind so many kinds. -/
structure PlOk (l : List Kd) (k : Nat) (D : DataW Value) : Prop where
  tidy : Tidy D
  le : Maps.size D ≤ k
  size : Maps.size D = k ↔ apart (l.take k) = true
  has : ∀ s, Maps.has D (.string s) = !fresh (l.take k) s
  find : apart (l.take k) = true → ∀ j x, j < k → l[j]? = some x → D.atKey (.string x.name.data.toList) (.lit (.int .i64 0)) = .lit (.int .i64 (j : Int))
theorem PlOk.start (l : List Kd) : PlOk l 0 (.map []) := ⟨tidy_empty, Nat.le_refl _, ⟨fun _ => rfl, fun _ => rfl⟩, fun _ => rfl, fun _ j _ h => by omega⟩
theorem PlOk.next {l : List Kd} {k : Nat} {D : DataW Value} {x : Kd} (h : PlOk l k D) (hx : l[k]? = some x) : PlOk l (k + 1) (D.put (.string x.name.data.toList) (.lit (.int .i64 (k : Int)))) := by
  have hs := size_put (k := .string x.name.data.toList) h.tidy (.lit (.int .i64 (k : Int)))
  have hh := h.has x.name.data.toList
  refine ⟨h.tidy.put (strKey _) _, ?_, ?_, fun s => ?_, fun ha j y hj hy => ?_⟩
  · rw [hs]; have := h.le; split <;> omega
  · rw [hs, apart_take hx, hh, Bool.and_eq_true, ← h.size]
    have := h.le
    cases fresh (l.take k) x.name.data.toList
    · simp; omega
    · simp
  · by_cases e : s = x.name.data.toList
    · subst e
      rw [has_put_same h.tidy.isMap (strKey _), fresh_take hx]
      simp
    · rw [has_put_other (by simpa using e), h.has, fresh_take hx]
      have : decide (x.name.data.toList ≠ s) = true := by simpa using fun h => e h.symm
      rw [this, Bool.and_true]
  · rw [apart_take hx, Bool.and_eq_true] at ha
    by_cases e : j = k
    · subst e
      rw [hx] at hy; cases hy
      exact atKey_put_same h.tidy.isMap (strKey _) _ _
    · have hjk : j < k := by omega
      have hne := fresh_at (k := j) ha.2 (by rw [List.getElem?_take, if_pos hjk]; exact hy)
      rw [atKey_put_other (by simpa using hne)]
      exact h.find ha.1 j y hjk hy

end Go.Proofs.Ythjniclhnfipdaa
namespace Go.Proofs.Ythjniclhnfipdaa
open Go.RowKit Go.Maps

def Pair (n : Int) (b : Bool) (w : World) (e : Ending) (w' : World) : Prop := e = .returned (.tuple #[.int .i64 n, .bool b]) ∧ Below w.heap.size w w'

theorem Pair.mk {n n' : Int} {b b' : Bool} {w w' : World} (h : n = n') (h2 : b = b') (hb : Below w.heap.size w w') : Pair n b w (.returned (.tuple #[.int .i64 n', .bool b'])) w' := ⟨by rw [h, h2], hb⟩

def NoKind (w : World) (e : Ending) (w' : World) : Prop := e = .returned (.tuple #[.agg #[.string ⟨#[]⟩, .bool false, .slice none 0 0], .bool false]) ∧ Below w.heap.size w w'
end Go.Proofs.Ythjniclhnfipdaa
namespace Go.Proofs.Ythjniclhnfipdaa
open Go.RowKit Go.Maps

theorem NoKind.mk {w w' : World} (h : Below w.heap.size w w') : NoKind w (.returned (.tuple #[.agg #[.string ⟨#[]⟩, .bool false, .slice none 0 0], .bool false])) w' := ⟨rfl, h⟩
end Go.Proofs.Ythjniclhnfipdaa
namespace Go.Proofs.Ythjniclhnfipdaa
open Go.RowKit

/-- The cells of such an array. -/
def vec (f : Nat → Bool) : Array Value := ((List.range 201).map fun j => Value.bool (f j)).toArray
theorem vec_size (f : Nat → Bool) : (vec f).size = 201 := by simp [vec]
theorem vec_at (f : Nat → Bool) (j : Nat) (h : j < 201) : (vec f)[j]? = some (.bool (f j)) := by
  simp [vec, h]
theorem vec_set (f : Nat → Bool) (i : Nat) (b : Bool) : (vec f).setIfInBounds i (.bool b) = vec (fun j => if j = i then b else f j) := by
  apply Array.ext_getElem?
  intro j
  by_cases hj : j < 201
  · rw [vec_at _ j hj, Array.getElem?_setIfInBounds]
    by_cases e : i = j
    · subst e; rw [if_pos rfl, if_pos (by rw [vec_size]; exact hj), if_pos rfl]
    · rw [if_neg e, vec_at _ j hj, if_neg (fun h => e h.symm)]
  · rw [Array.getElem?_eq_none (by simp [vec_size]; omega), Array.getElem?_eq_none (by rw [vec_size]; omega)]
/-- Each is one cell. -/
def allOne (cs : Array Value) : Bool := cs.all (·.oneCell')
theorem vec_one (f : Nat → Bool) : allOne (vec f) = true := by
  refine Array.all_eq_true_iff_forall_mem.2 fun u hu => ?_
  simp only [vec, List.mem_toArray, List.mem_map] at hu
  obtain ⟨b, _, rfl⟩ := hu; rfl

/-- The cells of a block. -/
def blk (w : World) (b : Nat) : Array Value := match w.heap[b]? with
  | some (.cells cs _ _) => cs
  | _ => #[]
theorem blk_of {w : World} {b : Nat} {cs : Array Value} {t : TypeId} {fr : Nat × Nat} (h : w.heap[b]? = some (.cells cs t fr)) : blk w b = cs := by simp [blk, h]
theorem blk_alloc_new (w : World) (cs : Array Value) (t : TypeId) (n : Nat) (hn : n = w.heap.size) : blk (w.alloc (.cells cs t)) n = cs := by
  subst hn; exact blk_of (heap_alloc_new w _)
theorem blk_cell {w : World} {b : Nat} {v : Value} (j : Nat) (h : (blk w b)[j]? = some v) : w.cell? ⟨b, j, none⟩ = some v := by
  unfold blk at h
  split at h
  · rename_i cs t fr hb; rw [cell_of_row w b j cs t fr hb]; exact h
  · simp at h
theorem loadVar_blk0 {P : Program} (w : World) (b s : Nat) (ty : TypeId) (d : TypeDesc) (hu : P.underlying ty = some d) (hd : d.isRow = true) (hi : (P.info? ty).map (·.size) = some s) (h : (blk w b).size = s) :
    (loadVar ty ⟨b, 0, none⟩).run P w = .ok (.agg (blk w b)) w := by
  have := run_loadVar_mid (P := P) w b 0 ty (blk w b).toList d (fun j v hv => by
    refine blk_cell _ ?_
    rw [Nat.zero_add]; rw [Array.getElem?_toList] at hv; exact hv) hu hd (by rw [Array.length_toList, h]; exact hi)
  rw [Array.toArray_toList] at this
  exact this
theorem Try.sizeT : (Try.prog.info? 157).map (·.size) = some 201 := by kernel_rfl
/-- Where a pointer leads: its block; does it lead to the head of it? -/
def headB : Value → Nat
  | .pointer (some a) => a.block
  | _ => 0
def isHead : Value → Bool
  | .pointer (some a) => a.off == 0 && a.spot.isNone
  | _ => false
theorem headB_ptr (a : Addr) : headB (.pointer (some a)) = a.block := rfl
theorem isHead_ptr (b n : Nat) : isHead (.pointer (some ⟨b, n, none⟩)) = (n == 0) := by simp [isHead]
theorem isHead_inv {v : Value} (h : isHead v = true) : v = .pointer (some ⟨headB v, 0, none⟩) := by
  unfold isHead at h
  split at h
  · rename_i a
    obtain ⟨b, n, s⟩ := a
    simp at h
    obtain ⟨rfl, rfl⟩ := h
    rfl
  · cases h
def aggC : Value → Array Value
  | .agg cs => cs
  | _ => #[]
def isT : Value → Bool
  | .agg cs => cs.size == 201 && allOne cs
  | _ => false
theorem aggC_agg (cs : Array Value) : aggC (.agg cs) = cs := rfl
theorem isT_vec (f : Nat → Bool) : isT (.agg (vec f)) = true := by simp [isT, vec_size, vec_one]
theorem isT_inv {v : Value} (h : isT v = true) : v = .agg (aggC v) ∧ (aggC v).size = 201 ∧ allOne (aggC v) = true := by
  unfold isT at h
  split at h
  · simp at h; exact ⟨rfl, h.1, h.2⟩
  · cases h
/-- A block of 201 cells that may be written. -/
def freeRow (w : World) (b : Nat) : Bool := match w.heap[b]? with
  | some (.cells cs _ fr) => cs.size == 201 && fr == (0, 0)
  | _ => false
theorem freeRow_alloc (w : World) (c : Array Value) (t : TypeId) (n : Nat) (hn : n = w.heap.size) : freeRow (w.alloc (.cells c t)) n = (c.size == 201) := by
  subst hn
  unfold freeRow
  rw [heap_alloc_new]
  simp
theorem freeRow_inv {w : World} {b : Nat} (h : freeRow w b = true) : ∃ cs t, w.heap[b]? = some (.cells cs t (0, 0)) ∧ cs.size = 201 := by
  unfold freeRow at h
  split at h
  · rename_i cs t fr hb
    simp at h
    obtain ⟨h1, rfl⟩ := h
    exact ⟨cs, t, hb, h1⟩
  · cases h
theorem setRow_alloc_at (w : World) (c c' : Array Value) (t : TypeId) (n : Nat) (hn : n = w.heap.size) : (w.alloc (.cells c t)).setRow n c' = w.alloc (.cells c' t) := by
  subst hn; exact World.setRow_alloc_new w c c' t
def noF : Nat → Bool := fun _ => false
def onlyF : Nat → Bool := fun j => decide (j = 0)

section
variable (w : World) (ρ : Operand → Value) (a : Act) (dst : Option Tmp) (x y : Operand) (ty' : TypeId) (pos : String) (aft : Array Edge) (g : Option (Nat × Bool)) (K : Act → World → Prop) (Q : Exit → Act → World → Prop)
theorem loadT (h : isHead (ρ x) = true) (h2 : (blk w (headB (ρ x))).size = 201) : (execOp ρ ⟨dst, .load 157 x, ty', pos, aft, g⟩).run Try.prog w = .ok (.value (.agg (blk w (headB (ρ x))))) w := by
  have e := isHead_inv h
  simp only [execOp, Sem.run_bind]
  rw [e]
  simp only [Instr.loadAt, Instr.sureAddr, Sem.run_bind, Sem.run_pure, Result.andThen_ok, headB_ptr]
  rw [loadVar_blk0 (P := Try.prog) w (headB (ρ x)) 201 157 _ Try.underlying157 rfl Try.sizeT h2]
  rfl
theorem wpLoadT (h : isHead (a.eval x) = true) (h2 : (blk w (headB (a.eval x))).size = 201) : Oper.wp Try.prog ⟨dst, .load 157 x, ty', pos, aft, g⟩ a w K Q = K (a.put dst (.agg (blk w (headB (a.eval x))))) w := by
  unfold Oper.wp
  rw [loadT w a.eval dst x ty' pos aft g h h2]
  rfl
theorem storeT (h : isHead (ρ x) = true) (h2 : freeRow w (headB (ρ x)) = true) (h3 : isT (ρ y) = true) :
    (execOp ρ ⟨dst, .store 157 x y, ty', pos, aft, g⟩).run Try.prog w = .ok .skip (w.setRow (headB (ρ x)) (aggC (ρ y))) := by
  have e1 := isHead_inv h
  obtain ⟨e2, e3, e4⟩ := isT_inv h3
  obtain ⟨cs, t, hb, hs⟩ := freeRow_inv h2
  have hr := run_storeVar_row (P := Try.prog) w (headB (ρ x)) t 157 cs (aggC (ρ y)) hb (by rw [e3]; exact Try.sizeT) (by omega) e4
  simp only [execOp, Sem.run_bind]
  rw [e2, e1]
  simp only [Instr.storeAt, Instr.sureAddr, Sem.run_bind, Sem.run_pure, Result.andThen_ok, headB_ptr]
  rw [hr]
  rfl
theorem wpStoreT (h : isHead (a.eval x) = true) (h2 : freeRow w (headB (a.eval x)) = true) (h3 : isT (a.eval y) = true) :
    Oper.wp Try.prog ⟨dst, .store 157 x y, ty', pos, aft, g⟩ a w K Q = K (a.put dst undef) (w.setRow (headB (a.eval x)) (aggC (a.eval y))) := by
  unfold Oper.wp
  rw [storeT w a.eval dst x y ty' pos aft g h h2 h3]
  rfl
theorem allocT : (execOp ρ ⟨dst, .alloc 157, ty', pos, aft, g⟩).run Try.prog w = .ok (.value (.pointer (some ⟨w.heap.size, 0, none⟩))) (w.alloc (.cells (vec noF) 157)) := by kernel_rfl
theorem wpAllocT : Oper.wp Try.prog ⟨dst, .alloc 157, ty', pos, aft, g⟩ a w K Q = K (a.put dst (.pointer (some ⟨w.heap.size, 0, none⟩))) (w.alloc (.cells (vec noF) 157)) := by
  unfold Oper.wp
  rw [allocT w a.eval dst ty' pos aft g]
  rfl
theorem buildT' : (Instr.build 157 #[(0, .bool true)]).run Try.prog w = .ok (.agg (vec onlyF)) w := by kernel_rfl
theorem buildT (h : ρ x = .bool true) : (execOp ρ ⟨dst, .build 157 #[(0, x)], ty', pos, aft, g⟩).run Try.prog w = .ok (.value (.agg (vec onlyF))) w := by
  simp only [execOp, List.map_toArray, List.map_cons, List.map_nil, Sem.run_bind]
  rw [h, buildT']
  rfl
theorem wpBuildT (h : a.eval x = .bool true) : Oper.wp Try.prog ⟨dst, .build 157 #[(0, x)], ty', pos, aft, g⟩ a w K Q = K (a.put dst (.agg (vec onlyF))) w := by
  unfold Oper.wp
  rw [buildT w a.eval dst x ty' pos aft g h]
  rfl
end
end Go.Proofs.Ythjniclhnfipdaa
namespace Go.Proofs.Ythjniclhnfipdaa

/-- A stretch of slot s from b to j. -/
structure Stretch (kids : List Int) (s : Sl) (b j : Nat) : Prop where
  le : b ≤ j
  ends : j ≤ kids.length
  least : s.least ≤ ((j - b : Nat) : Int)
  most : ((j - b : Nat) : Int) ≤ s.most
  all : ∀ i x, b ≤ i → i < j → kids[i]? = some x → hasInt s.kinds x = true
def stretchB (kids : List Int) (s : Sl) (b j : Nat) : Bool :=
  decide (b ≤ j) && decide (j ≤ kids.length) && decide (s.least ≤ ((j - b : Nat) : Int)) && decide (((j - b : Nat) : Int) ≤ s.most) && ((kids.drop b).take (j - b)).all (hasInt s.kinds)
theorem stretchB_iff {kids : List Int} {s : Sl} {b j : Nat} : stretchB kids s b j = true ↔ Stretch kids s b j := by
  simp only [stretchB, Bool.and_eq_true, decide_eq_true_eq, List.all_eq_true]
  constructor
  · rintro ⟨⟨⟨⟨h1, h2⟩, h3⟩, h4⟩, h5⟩
    refine ⟨h1, h2, h3, h4, fun i x hi hj hx => h5 x ?_⟩
    rw [List.mem_iff_getElem?]
    exact ⟨i - b, by rw [List.getElem?_take, if_pos (by omega), List.getElem?_drop, show b + (i - b) = i by omega]; exact hx⟩
  · rintro ⟨h1, h2, h3, h4, h5⟩
    refine ⟨⟨⟨⟨h1, h2⟩, h3⟩, h4⟩, fun x hx => ?_⟩
    obtain ⟨i, hi⟩ := List.mem_iff_getElem?.1 hx
    rw [List.getElem?_take] at hi
    split at hi
    · rw [List.getElem?_drop] at hi
      exact h5 (b + i) x (by omega) (by omega) hi
    · cases hi

/-- Where a stretch may end, if it may begin where T is true. -/
def nextT (kids : List Int) (s : Sl) (T : Nat → Bool) : Nat → Bool := fun j => (List.range (j + 1)).any fun b => T b && stretchB kids s b j
theorem nextT_iff {kids : List Int} {s : Sl} {T : Nat → Bool} {j : Nat} : nextT kids s T j = true ↔ ∃ b, T b = true ∧ Stretch kids s b j := by
  simp only [nextT, List.any_eq_true, List.mem_range, Bool.and_eq_true, stretchB_iff]
  exact ⟨fun ⟨b, _, h⟩ => ⟨b, h⟩, fun ⟨b, h⟩ => ⟨b, by have := h.2.le; omega, h⟩⟩
/-- Which kids are of the slot's kinds. -/
def ownF (kids : List Int) (kinds : List Int) : Nat → Bool := fun i => match kids[i]? with
  | some x => hasInt kinds x
  | none => false
theorem ownF_some {kids kinds : List Int} {i : Nat} {x : Int} (h : kids[i]? = some x) : ownF kids kinds i = hasInt kinds x := by simp [ownF, h]
theorem ownF_none {kids kinds : List Int} {i : Nat} (h : kids.length ≤ i) : ownF kids kinds i = false := by simp [ownF, List.getElem?_eq_none h]
end Go.Proofs.Ythjniclhnfipdaa
namespace Go.Proofs.Ythjniclhnfipdaa

/-- f tells where stretches end that begin ahead of c. -/
def FP (kids : List Int) (s : Sl) (T : Nat → Bool) (c : Nat) (f : Nat → Bool) : Prop := ∀ j, f j = true ↔ ∃ b, b < c ∧ T b = true ∧ Stretch kids s b j
/-- .. and those that begin at c and are shorter than n. -/
def FI (kids : List Int) (s : Sl) (T : Nat → Bool) (c n : Nat) (f : Nat → Bool) : Prop := ∀ j, f j = true ↔ (∃ b, b < c ∧ T b = true ∧ Stretch kids s b j) ∨ ∃ m : Nat, m < n ∧ s.least ≤ (m : Int) ∧ j = c + m
theorem FP.start (kids : List Int) (s : Sl) (T : Nat → Bool) : FP kids s T 0 noF := fun j => ⟨fun h => by simp [noF] at h, fun ⟨b, h, _⟩ => by omega⟩
theorem FP.skip {kids : List Int} {s : Sl} {T : Nat → Bool} {c : Nat} {f : Nat → Bool} (h : FP kids s T c f) (hT : T c = false) : FP kids s T (c + 1) f := fun j => by
  rw [h j]
  constructor
  · rintro ⟨b, h1, h2⟩; exact ⟨b, by omega, h2⟩
  · rintro ⟨b, h1, h2, h3⟩
    refine ⟨b, ?_, h2, h3⟩
    by_cases e : b = c
    · subst e; rw [hT] at h2; cases h2
    · omega
theorem FP.all {kids : List Int} {s : Sl} {T : Nat → Bool} {f : Nat → Bool} (h : FP kids s T (kids.length + 1) f) : f = nextT kids s T := by
  funext j
  rw [Bool.eq_iff_iff, h j, nextT_iff]
  constructor
  · rintro ⟨b, _, h⟩; exact ⟨b, h⟩
  · rintro ⟨b, h1, h2⟩; exact ⟨b, by have := h2.le; have := h2.ends; omega, h1, h2⟩
theorem FI.start {kids : List Int} {s : Sl} {T : Nat → Bool} {c : Nat} {f : Nat → Bool} (h : FP kids s T c f) : FI kids s T c 0 f := fun j => by
  rw [h j]
  exact ⟨Or.inl, fun h => h.elim id fun ⟨m, h, _⟩ => by omega⟩
theorem FI.skip {kids : List Int} {s : Sl} {T : Nat → Bool} {c n : Nat} {f : Nat → Bool} (h : FI kids s T c n f) (hn : (n : Int) < s.least) : FI kids s T c (n + 1) f := fun j => by
  rw [h j]
  constructor
  · rintro (h | ⟨m, h1, h2⟩)
    · exact Or.inl h
    · exact Or.inr ⟨m, by omega, h2⟩
  · rintro (h | ⟨m, h1, h2, h3⟩)
    · exact Or.inl h
    · exact Or.inr ⟨m, by omega, h2, h3⟩
theorem FI.put {kids : List Int} {s : Sl} {T : Nat → Bool} {c n : Nat} {f : Nat → Bool} (h : FI kids s T c n f) (hn : s.least ≤ (n : Int)) : FI kids s T c (n + 1) (fun j => if j = c + n then true else f j) := fun j => by
  show (if j = c + n then true else f j) = true ↔ _
  by_cases e : j = c + n
  · rw [if_pos e]
    exact ⟨fun _ => Or.inr ⟨n, by omega, hn, e⟩, fun _ => rfl⟩
  · rw [if_neg e, h j]
    constructor
    · rintro (h | ⟨m, h1, h2⟩)
      · exact Or.inl h
      · exact Or.inr ⟨m, by omega, h2⟩
    · rintro (h | ⟨m, h1, h2, h3⟩)
      · exact Or.inl h
      · exact Or.inr ⟨m, by omega, h2, h3⟩
theorem own_lt {kids : List Int} {kinds : List Int} {i : Nat} (h : ownF kids kinds i = true) : i < kids.length ∧ ∀ x, kids[i]? = some x → hasInt kinds x = true := by
  by_cases hi : i < kids.length
  · refine ⟨hi, fun x hx => ?_⟩
    rw [ownF_some hx] at h; exact h
  · rw [ownF_none (by omega)] at h; cases h
/-- All lengths of one beginning are through. -/
theorem FI.done {kids : List Int} {s : Sl} {T : Nat → Bool} {c N : Nat} {f : Nat → Bool} (h : FI kids s T c N f) (hc : c ≤ kids.length) (hT : T c = true) (ho : ∀ i, c ≤ i → i + 1 < c + N → ownF kids s.kinds i = true)
    (hN : (N : Int) ≤ s.most + 1) (hend : (N : Int) = s.most + 1 ∨ 1 ≤ N ∧ ownF kids s.kinds (c + N - 1) = false) : FP kids s T (c + 1) f := fun j => by
  rw [h j]
  constructor
  · rintro (⟨b, h1, h2⟩ | ⟨m, h1, h2, h3⟩)
    · exact ⟨b, by omega, h2⟩
    · refine ⟨c, by omega, hT, by omega, ?_, ?_, ?_, fun i x hi hj hx => (own_lt (ho i hi (by omega))).2 x hx⟩
      · by_cases e : m = 0
        · omega
        · have := (own_lt (ho (c + m - 1) (by omega) (by omega))).1; omega
      · rw [show j - c = m by omega]; exact h2
      · rw [show j - c = m by omega]; omega
  · rintro ⟨b, h1, h2, h3⟩
    by_cases e : b = c
    · subst e
      refine Or.inr ⟨j - b, ?_, h3.least, by have := h3.le; omega⟩
      rcases hend with hend | ⟨h1N, hend⟩
      · have := h3.most; omega
      · by_cases hlt : j - b < N
        · exact hlt
        · exfalso
          have hj := h3.ends
          have hle := h3.le
          have hi : b + N - 1 < kids.length := by omega
          have hx := List.getElem?_eq_getElem hi
          have := h3.all (b + N - 1) _ (by omega) (by omega) hx
          rw [ownF_some hx, this] at hend
          cases hend
    · exact Or.inl ⟨b, by omega, h2, h3⟩
end Go.Proofs.Ythjniclhnfipdaa
