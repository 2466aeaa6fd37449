/-
  Whole structs and arrays out of blocks: a load of many cells as one rule of the walk. No condition.
-/
import Derived.Test.YtbhdelfiaaodmaaRep
namespace Go.Proofs.Ytbhdelfiaaodmaa
open Go.RowKit

/-- The cells of a block. -/
def blk (w : World) (b : Nat) : Array Value := match w.heap[b]? with
  | some (.cells cs _ _) => cs
  | _ => #[]
theorem blk_of {w : World} {b : Nat} {cs : Array Value} {t : TypeId} {fr : Nat × Nat} (h : w.heap[b]? = some (.cells cs t fr)) : blk w b = cs := by simp [blk, h]
theorem blk_same {w w' : World} {b : Nat} (h : w'.heap[b]? = w.heap[b]?) : blk w' b = blk w b := by simp [blk, h]
@[simp] theorem blk_drew (w : World) (b : Nat) : blk w.drew b = blk w b := rfl
theorem blk_alloc_new (w : World) (cs : Array Value) (t : TypeId) (n : Nat) (hn : n = w.heap.size) : blk (w.alloc (.cells cs t)) n = cs := by
  subst hn; exact blk_of (heap_alloc_new w _)
theorem blk_alloc_old (w : World) (o : Obj) (b : Nat) (h : b < w.heap.size) : blk (w.alloc o) b = blk w b := blk_same (Below.heap_alloc w o b h)
theorem blk_setCell_other (w : World) (a : Addr) (u : Value) (b : Nat) (h : b ≠ a.block) : blk (w.setCell a u) b = blk w b := blk_same (Below.heap_setCell w a u b h)
theorem blk_grown {w w' : World} {row : Option Nat} (hg : w.grownBy w' row) (b : Nat) (h : b < w.heap.size) (hr : some b ≠ row) : blk w' b = blk w b := blk_same (hg.block b h hr)
theorem blk_cell {w : World} {b : Nat} {v : Value} (j : Nat) (h : (blk w b)[j]? = some v) : w.cell? ⟨b, j, none⟩ = some v := by
  unfold blk at h
  split at h
  · rename_i cs t fr hb; rw [cell_of_row w b j cs t fr hb]; exact h
  · simp at h

/-- A struct or an array that lies in a block, from offset o on, is loaded. -/
theorem loadVar_blk {P : Program} (w : World) (b o s : Nat) (ty : TypeId) (d : TypeDesc) (hu : P.underlying ty = some d) (hd : d.isRow = true) (hi : (P.info? ty).map (·.size) = some s) (h : o + s ≤ (blk w b).size) :
    (loadVar ty ⟨b, o, none⟩).run P w = .ok (.agg ((blk w b).extract o (o + s))) w := by
  have hl : ((blk w b).extract o (o + s)).toList.length = s := by simp; omega
  have := run_loadVar_mid (P := P) w b o ty ((blk w b).extract o (o + s)).toList d (fun j v hv => by
    refine blk_cell _ ?_
    have hj : j < s := by
      have := (List.getElem?_eq_some_iff.1 hv).1
      rw [hl] at this; exact this
    have e : ((blk w b).extract o (o + s)).toList[j]? = ((blk w b).extract o (o + s))[j]? := Array.getElem?_toList
    rw [e, Array.getElem?_extract] at hv
    split at hv
    · exact hv
    · cases hv) hu hd (by rw [hl]; exact hi)
  rw [Array.toArray_toList] at this
  exact this

theorem loadVar_blk0 {P : Program} (w : World) (b s : Nat) (ty : TypeId) (d : TypeDesc) (hu : P.underlying ty = some d) (hd : d.isRow = true) (hi : (P.info? ty).map (·.size) = some s) (h : (blk w b).size = s) :
    (loadVar ty ⟨b, 0, none⟩).run P w = .ok (.agg (blk w b)) w := by
  have := loadVar_blk (P := P) w b 0 s ty d hu hd hi (by omega)
  rw [this]
  simp [← h]

theorem Try.sizeW : (Try.prog.info? 54).map (·.size) = some 65 := by kernel_rfl
theorem Try.sizeS : (Try.prog.info? 52).map (·.size) = some 64 := by kernel_rfl
/-- Where a pointer leads: its block; does it lead to offset o of it? -/
def headB : Value → Nat
  | .pointer (some a) => a.block
  | _ => 0
def isAt (o : Nat) : Value → Bool
  | .pointer (some a) => a.off == o && a.spot.isNone
  | _ => false
theorem headB_ptr (a : Addr) : headB (.pointer (some a)) = a.block := rfl
theorem isAt_ptr (o b n : Nat) : isAt o (.pointer (some ⟨b, n, none⟩)) = (n == o) := by simp [isAt]
theorem isAt_inv {o : Nat} {v : Value} (h : isAt o v = true) : v = .pointer (some ⟨headB v, o, none⟩) := by
  unfold isAt at h
  split at h
  · rename_i a
    obtain ⟨b, n, s⟩ := a
    simp at h
    obtain ⟨rfl, rfl⟩ := h
    rfl
  · cases h
theorem loadAt_blk {P : Program} (w : World) (v : Value) (o s : Nat) (ty : TypeId) (d : TypeDesc) (hu : P.underlying ty = some d) (hd : d.isRow = true) (hi : (P.info? ty).map (·.size) = some s) (h : isAt o v = true) (h2 : o + s ≤ (blk w (headB v)).size) :
    (Instr.loadAt ty v).run P w = .ok (.agg ((blk w (headB v)).extract o (o + s))) w := by
  have e := isAt_inv h
  rw [e]
  simp only [Instr.loadAt, Instr.sureAddr, Sem.run_bind, Sem.run_pure, Result.andThen_ok, headB_ptr]
  rw [loadVar_blk (P := P) w (headB v) o s ty d hu hd hi h2]
theorem loadAt_blk0 {P : Program} (w : World) (v : Value) (s : Nat) (ty : TypeId) (d : TypeDesc) (hu : P.underlying ty = some d) (hd : d.isRow = true) (hi : (P.info? ty).map (·.size) = some s) (h : isAt 0 v = true) (h2 : (blk w (headB v)).size = s) :
    (Instr.loadAt ty v).run P w = .ok (.agg (blk w (headB v))) w := by
  rw [loadAt_blk w v 0 s ty d hu hd hi h (by omega)]
  simp [← h2]

/-- AT THE OPERATION. -/
theorem execLoad_blk0 {P : Program} (w : World) (ρ : Operand → Value) (dst : Option Tmp) (x : Operand) (ty' : TypeId) (pos : String) (aft : Array Edge) (g : Option (Nat × Bool)) (s : Nat) (ty : TypeId) (d : TypeDesc) (hu : P.underlying ty = some d) (hd : d.isRow = true) (hi : (P.info? ty).map (·.size) = some s)
    (h : isAt 0 (ρ x) = true) (h2 : (blk w (headB (ρ x))).size = s) : (execOp ρ ⟨dst, .load ty x, ty', pos, aft, g⟩).run P w = .ok (.value (.agg (blk w (headB (ρ x))))) w := by
  simp only [execOp, Sem.run_bind, loadAt_blk0 w (ρ x) s ty d hu hd hi h h2, Result.andThen_ok, Sem.run_pure]
theorem execLoad_blk {P : Program} (w : World) (ρ : Operand → Value) (dst : Option Tmp) (x : Operand) (ty' : TypeId) (pos : String) (aft : Array Edge) (g : Option (Nat × Bool)) (o s : Nat) (ty : TypeId) (d : TypeDesc) (hu : P.underlying ty = some d) (hd : d.isRow = true) (hi : (P.info? ty).map (·.size) = some s)
    (h : isAt o (ρ x) = true) (h2 : o + s ≤ (blk w (headB (ρ x))).size) : (execOp ρ ⟨dst, .load ty x, ty', pos, aft, g⟩).run P w = .ok (.value (.agg ((blk w (headB (ρ x))).extract o (o + s)))) w := by
  simp only [execOp, Sem.run_bind, loadAt_blk w (ρ x) o s ty d hu hd hi h h2, Result.andThen_ok, Sem.run_pure]
theorem wpLoad_blk0 {P : Program} (w : World) (a : Act) (dst : Option Tmp) (x : Operand) (ty' : TypeId) (pos : String) (aft : Array Edge) (g : Option (Nat × Bool)) (K : Act → World → Prop) (Q : Exit → Act → World → Prop) (s : Nat) (ty : TypeId) (d : TypeDesc) (hu : P.underlying ty = some d) (hd : d.isRow = true) (hi : (P.info? ty).map (·.size) = some s)
    (h : isAt 0 (a.eval x) = true) (h2 : (blk w (headB (a.eval x))).size = s) : Oper.wp P ⟨dst, .load ty x, ty', pos, aft, g⟩ a w K Q = K (a.put dst (.agg (blk w (headB (a.eval x))))) w := by
  unfold Oper.wp
  rw [execLoad_blk0 w a.eval dst x ty' pos aft g s ty d hu hd hi h h2]
  rfl
theorem wpLoad_blk {P : Program} (w : World) (a : Act) (dst : Option Tmp) (x : Operand) (ty' : TypeId) (pos : String) (aft : Array Edge) (g : Option (Nat × Bool)) (K : Act → World → Prop) (Q : Exit → Act → World → Prop) (o s : Nat) (ty : TypeId) (d : TypeDesc) (hu : P.underlying ty = some d) (hd : d.isRow = true) (hi : (P.info? ty).map (·.size) = some s)
    (h : isAt o (a.eval x) = true) (h2 : o + s ≤ (blk w (headB (a.eval x))).size) : Oper.wp P ⟨dst, .load ty x, ty', pos, aft, g⟩ a w K Q = K (a.put dst (.agg ((blk w (headB (a.eval x))).extract o (o + s)))) w := by
  unfold Oper.wp
  rw [execLoad_blk w a.eval dst x ty' pos aft g o s ty d hu hd hi h h2]
  rfl

section
variable (w : World) (ρ : Operand → Value) (a : Act) (dst : Option Tmp) (x : Operand) (ty' : TypeId) (pos : String) (aft : Array Edge) (g : Option (Nat × Bool)) (K : Act → World → Prop) (Q : Exit → Act → World → Prop)
theorem loadW (h : isAt 0 (ρ x) = true) (h2 : (blk w (headB (ρ x))).size = 65) : (execOp ρ ⟨dst, .load 54 x, ty', pos, aft, g⟩).run Try.prog w = .ok (.value (.agg (blk w (headB (ρ x))))) w :=
  execLoad_blk0 w ρ dst x ty' pos aft g 65 54 _ Try.underlying54 rfl Try.sizeW h h2
theorem loadS (h : isAt 0 (ρ x) = true) (h2 : (blk w (headB (ρ x))).size = 64) : (execOp ρ ⟨dst, .load 52 x, ty', pos, aft, g⟩).run Try.prog w = .ok (.value (.agg (blk w (headB (ρ x))))) w :=
  execLoad_blk0 w ρ dst x ty' pos aft g 64 52 _ Try.underlying52 rfl Try.sizeS h h2
theorem loadWS (h : isAt 1 (ρ x) = true) (h2 : (blk w (headB (ρ x))).size = 65) : (execOp ρ ⟨dst, .load 52 x, ty', pos, aft, g⟩).run Try.prog w = .ok (.value (.agg ((blk w (headB (ρ x))).extract 1 65))) w :=
  execLoad_blk w ρ dst x ty' pos aft g 1 64 52 _ Try.underlying52 rfl Try.sizeS h (by omega)
theorem wpLoadW (h : isAt 0 (a.eval x) = true) (h2 : (blk w (headB (a.eval x))).size = 65) : Oper.wp Try.prog ⟨dst, .load 54 x, ty', pos, aft, g⟩ a w K Q = K (a.put dst (.agg (blk w (headB (a.eval x))))) w :=
  wpLoad_blk0 w a dst x ty' pos aft g K Q 65 54 _ Try.underlying54 rfl Try.sizeW h h2
theorem wpLoadS (h : isAt 0 (a.eval x) = true) (h2 : (blk w (headB (a.eval x))).size = 64) : Oper.wp Try.prog ⟨dst, .load 52 x, ty', pos, aft, g⟩ a w K Q = K (a.put dst (.agg (blk w (headB (a.eval x))))) w :=
  wpLoad_blk0 w a dst x ty' pos aft g K Q 64 52 _ Try.underlying52 rfl Try.sizeS h h2
theorem wpLoadWS (h : isAt 1 (a.eval x) = true) (h2 : (blk w (headB (a.eval x))).size = 65) : Oper.wp Try.prog ⟨dst, .load 52 x, ty', pos, aft, g⟩ a w K Q = K (a.put dst (.agg ((blk w (headB (a.eval x))).extract 1 65))) w :=
  wpLoad_blk w a dst x ty' pos aft g K Q 1 64 52 _ Try.underlying52 rfl Try.sizeS h (by omega)
end

/-! ### one wide element put into a slice of its own; a wide value stored -/
theorem foldl_fill (cs : List Value) : ∀ (pre post : List Value), (post.length = cs.length) →
    (cs.zipIdx pre.length).foldl (fun (a : Array Value) (p : Value × Nat) => a.setIfInBounds p.2 p.1) (pre ++ post).toArray = (pre ++ cs).toArray := by
  induction cs with
  | nil => intro pre post h; have : post = [] := List.eq_nil_of_length_eq_zero (by simpa using h); subst this; simp
  | cons c cs ih =>
    intro pre post h
    match post, h with
    | q :: post, h =>
      simp only [List.zipIdx_cons, List.foldl_cons]
      have e : (pre ++ q :: post).toArray.setIfInBounds pre.length c = ((pre ++ [c]) ++ post).toArray := by simp
      rw [e]
      have := ih (pre ++ [c]) post (by simpa using h)
      simp only [List.length_append, List.length_cons, List.length_nil, Nat.zero_add] at this
      rw [this]; simp
theorem fill_all (cs z : Array Value) (h : z.size = cs.size) : cs.zipIdx.foldl (fun (a : Array Value) (p : Value × Nat) => a.setIfInBounds (0 + p.2) p.1) z = cs := by
  have := foldl_fill cs.toList [] z.toList (by simpa using h)
  simp only [List.length_nil, List.nil_append, Array.toArray_toList] at this
  rw [← Array.foldl_toList, Array.toList_zipIdx]
  simp only [Nat.zero_add]
  exact this
theorem fill_one (s : Nat) (Z cs : Array Value) (hZ : Z.size = s) (hcs : cs.size = s) : Instr.fill (fun i => some (i * s, s)) Z [(0, .agg cs)] = some cs := by
  have hf := fill_all cs Z (by omega)
  unfold Instr.fill
  simp only [Value.cells, Nat.zero_mul, hcs]
  rw [if_neg (by simp [hZ])]
  rw [hf]
  rfl

def aggC : Value → Array Value
  | .agg cs => cs
  | _ => #[]
def isAggOf (s : Nat) : Value → Bool
  | .agg cs => cs.size == s
  | _ => false
theorem aggC_agg (cs : Array Value) : aggC (.agg cs) = cs := rfl
theorem isAggOf_agg (s : Nat) (cs : Array Value) : isAggOf s (.agg cs) = (cs.size == s) := rfl
theorem isAggOf_inv {s : Nat} {v : Value} (h : isAggOf s v = true) : v = .agg (aggC v) ∧ (aggC v).size = s := by
  unfold isAggOf at h
  split at h
  · exact ⟨rfl, by simpa [aggC] using h⟩
  · cases h

theorem run_buildSlice_one {P : Program} (w : World) (t e s : Nat) (cs : Array Value) (z : Value) (ht : P.underlying t = some (.slice e)) (hsz : ∀ w, (sizeOf e).run P w = .ok s w) (hzv : ∀ w, (zeroValue e).run P w = .ok z w) (h0 : 0 < s) (h1 : s ≤ 2 ^ 24) (hcs : cs.size = s) :
    (Instr.buildSlice t 1 #[(0, .agg cs)]).run P w = .ok (.slice (some ⟨w.heap.size, 0, none⟩) 1 1) (w.alloc (.cells cs e)) := by
  have h2 : ¬ (1 * s > 2 ^ 24) := by omega
  have h3 : ¬ (1 * s = 0) := by omega
  have hfill : Instr.fill (fun i => some (i * s, s)) ((Array.range (1 * s)).map (fun x => z.cells[x % z.cells.size]!)) [(0, .agg cs)] = some cs := fill_one s _ cs (by simp) hcs
  unfold Instr.buildSlice
  rw [Sem.run_bind, run_underlying ht]
  simp only [Result.andThen_ok]
  rw [Sem.run_bind, hsz]
  simp only [Result.andThen_ok]
  rw [if_neg h2, if_neg h3]
  simp only [Sem.run_bind, Sem.run_pure, hzv, Result.andThen_ok, hfill]
  rfl

theorem info_wide {P : Program} {t : TypeId} {s b n : Nat} (h : (P.info? t).map (fun i => (i.size, i.bytes, i.zero.map (fun z => z.cells.size))) = some (s, b, some n)) :
    ∃ i z, P.info? t = some i ∧ i.zero = some z ∧ i.size = s ∧ i.bytes = b ∧ z.cells.size = n := by
  cases hi : P.info? t with
  | none => simp [hi] at h
  | some i =>
    simp only [hi, Option.map_some, Option.some.injEq, Prod.mk.injEq] at h
    obtain ⟨h1, h2, h3⟩ := h
    cases hz : i.zero with
    | none => simp [hz] at h3
    | some z => exact ⟨i, z, rfl, hz, h1, h2, by simpa [hz] using h3⟩
theorem size_run {P : Program} {t : TypeId} {i : TypeInfo} {s : Nat} (hi : P.info? t = some i) (hs : i.size = s) : ∀ w, (sizeOf t).run P w = .ok s w := fun w => by simp [sizeOf, typeInfo, hi, hs]
theorem zero_run {P : Program} {t : TypeId} {i : TypeInfo} {z : Value} (hi : P.info? t = some i) (hz : i.zero = some z) : ∀ w, (zeroValue t).run P w = .ok z w := fun w => by simp [zeroValue, typeInfo, hi, hz]

theorem Try.infoW : (Try.prog.info? 54).map (fun i => (i.size, i.bytes, i.zero.map (fun z => z.cells.size))) = some (65, 72, some 65) := by kernel_rfl
theorem Try.infoS : (Try.prog.info? 52).map (fun i => (i.size, i.bytes, i.zero.map (fun z => z.cells.size))) = some (64, 64, some 64) := by kernel_rfl

section
variable (w : World) (ρ : Operand → Value) (a : Act) (dst : Option Tmp) (x : Operand) (ty' : TypeId) (pos : String) (aft : Array Edge) (g : Option (Nat × Bool)) (K : Act → World → Prop) (Q : Exit → Act → World → Prop)
theorem buildWs (h : isAggOf 65 (ρ x) = true) : (execOp ρ ⟨dst, .buildSlice 47 1 #[(0, x)], ty', pos, aft, g⟩).run Try.prog w = .ok (.value (.slice (some ⟨w.heap.size, 0, none⟩) 1 1)) (w.alloc (.cells (aggC (ρ x)) 54)) := by
  obtain ⟨e, hs⟩ := isAggOf_inv h
  obtain ⟨i0, z0, hi0, hz0, hz1, hz2, hz3⟩ := info_wide Try.infoW
  simp only [execOp, List.map_toArray, List.map_cons, List.map_nil, Sem.run_bind]
  rw [e, run_buildSlice_one w 47 54 65 (aggC (ρ x)) z0 Try.underlying47 (size_run hi0 hz1) (zero_run hi0 hz0) (by omega) (by omega) hs]
  rfl
theorem wpBuildWs (h : isAggOf 65 (a.eval x) = true) : Oper.wp Try.prog ⟨dst, .buildSlice 47 1 #[(0, x)], ty', pos, aft, g⟩ a w K Q = K (a.put dst (.slice (some ⟨w.heap.size, 0, none⟩) 1 1)) (w.alloc (.cells (aggC (a.eval x)) 54)) := by
  unfold Oper.wp
  rw [buildWs w a.eval dst x ty' pos aft g h]
  rfl
theorem buildS0 : (execOp ρ ⟨dst, .build 52 #[], ty', pos, aft, g⟩).run Try.prog w = .ok (.value (secV zeros)) w := by kernel_rfl
theorem wpBuildS0 : Oper.wp Try.prog ⟨dst, .build 52 #[], ty', pos, aft, g⟩ a w K Q = K (a.put dst (secV zeros)) w := by
  unfold Oper.wp
  rw [buildS0 w a.eval dst ty' pos aft g]
  rfl
end

theorem heap2_old (w : World) (A C : Obj) (b : Nat) (h : b < w.heap.size) : ((w.alloc A).alloc C).drew.heap[b]? = w.heap[b]? := by
  rw [heap_drew, Below.heap_alloc _ _ _ (by simp; omega), Below.heap_alloc _ _ _ h]
theorem cell2_old (w : World) (A C : Obj) (b j : Nat) (h : b < w.heap.size) : ((w.alloc A).alloc C).drew.cell? ⟨b, j, none⟩ = w.cell? ⟨b, j, none⟩ := World.cell?_of_block (heap2_old w A C b h)
theorem frozen2_old (w : World) (A C : Obj) (b j : Nat) (h : b < w.heap.size) : ((w.alloc A).alloc C).drew.frozen? ⟨b, j, none⟩ = w.frozen? ⟨b, j, none⟩ := World.frozen?_of_block (heap2_old w A C b h)

/-! ### a wide struct made, and laid into a variable of its own -/
/-- A write of 0s at sector n. -/
def wZ (n : Int) : Array Value := (.int .i64 n :: zeros.map Extern.Stop.cell).toArray
theorem wZ_size (n : Int) : (wZ n).size = 65 := by simp [wZ, zeros]
/-- Each is one cell. -/
def allOne (cs : Array Value) : Bool := cs.all (·.oneCell')
theorem wZ_one (n : Int) : allOne (wZ n) = true := by
  refine Array.all_eq_true_iff_forall_mem.2 fun u hu => ?_
  simp only [wZ, List.mem_toArray, List.mem_cons, List.mem_map] at hu
  rcases hu with rfl | ⟨b, _, rfl⟩ <;> rfl
def isI64 : Value → Bool
  | .int .i64 _ => true
  | _ => false
theorem isI64_int (n : Int) : isI64 (.int .i64 n) = true := rfl
theorem intOf_int (k : IntKind) (n : Int) : intOf (.int k n) = n := rfl
theorem isI64_inv {v : Value} (h : isI64 v = true) : v = .int .i64 (intOf v) := by
  unfold isI64 at h
  split at h
  · rfl
  · cases h
/-- A block of s cells that may be written. -/
def freeRow (w : World) (b s : Nat) : Bool := match w.heap[b]? with
  | some (.cells cs _ fr) => cs.size == s && fr == (0, 0)
  | _ => false
theorem freeRow_alloc (w : World) (c : Array Value) (t : TypeId) (n s : Nat) (hn : n = w.heap.size) : freeRow (w.alloc (.cells c t)) n s = (c.size == s) := by
  subst hn
  unfold freeRow
  rw [heap_alloc_new]
  simp
theorem freeRow_inv {w : World} {b s : Nat} (h : freeRow w b s = true) : ∃ cs t, w.heap[b]? = some (.cells cs t (0, 0)) ∧ cs.size = s := by
  unfold freeRow at h
  split at h
  · rename_i cs t fr hb
    simp at h
    obtain ⟨h1, rfl⟩ := h
    exact ⟨cs, t, hb, h1⟩
  · cases h
theorem setRow_alloc_at (w : World) (c c' : Array Value) (t : TypeId) (n : Nat) (hn : n = w.heap.size) : (w.alloc (.cells c t)).setRow n c' = w.alloc (.cells c' t) := by
  subst hn; exact World.setRow_alloc_new w c c' t

section
variable (w : World) (ρ : Operand → Value) (a : Act) (dst : Option Tmp) (x y : Operand) (ty' : TypeId) (pos : String) (aft : Array Edge) (g : Option (Nat × Bool)) (K : Act → World → Prop) (Q : Exit → Act → World → Prop)
theorem buildW1' (n : Int) : (Instr.build 54 #[(0, .int .i64 n)]).run Try.prog w = .ok (.agg (wZ n)) w := by kernel_rfl
theorem buildW1 (h : isI64 (ρ x) = true) : (execOp ρ ⟨dst, .build 54 #[(0, x)], ty', pos, aft, g⟩).run Try.prog w = .ok (.value (.agg (wZ (intOf (ρ x))))) w := by
  have e := isI64_inv h
  simp only [execOp, List.map_toArray, List.map_cons, List.map_nil, Sem.run_bind]
  rw [e, buildW1']
  rfl
theorem wpBuildW1 (h : isI64 (a.eval x) = true) : Oper.wp Try.prog ⟨dst, .build 54 #[(0, x)], ty', pos, aft, g⟩ a w K Q = K (a.put dst (.agg (wZ (intOf (a.eval x))))) w := by
  unfold Oper.wp
  rw [buildW1 w a.eval dst x ty' pos aft g h]
  rfl
theorem allocW : (execOp ρ ⟨dst, .alloc 54, ty', pos, aft, g⟩).run Try.prog w = .ok (.value (.pointer (some ⟨w.heap.size, 0, none⟩))) (w.alloc (.cells (wZ 0) 54)) := by kernel_rfl
theorem wpAllocW : Oper.wp Try.prog ⟨dst, .alloc 54, ty', pos, aft, g⟩ a w K Q = K (a.put dst (.pointer (some ⟨w.heap.size, 0, none⟩))) (w.alloc (.cells (wZ 0) 54)) := by
  unfold Oper.wp
  rw [allocW w a.eval dst ty' pos aft g]
  rfl
theorem allocS : (execOp ρ ⟨dst, .alloc 52, ty', pos, aft, g⟩).run Try.prog w = .ok (.value (.pointer (some ⟨w.heap.size, 0, none⟩))) (w.alloc (.cells (aggC (secV zeros)) 52)) := by kernel_rfl
theorem wpAllocS : Oper.wp Try.prog ⟨dst, .alloc 52, ty', pos, aft, g⟩ a w K Q = K (a.put dst (.pointer (some ⟨w.heap.size, 0, none⟩))) (w.alloc (.cells (aggC (secV zeros)) 52)) := by
  unfold Oper.wp
  rw [allocS w a.eval dst ty' pos aft g]
  rfl
theorem exec_store_row {P : Program} (s : Nat) (ty : TypeId) (hi : (P.info? ty).map (·.size) = some s) (h : isAt 0 (ρ x) = true) (h2 : freeRow w (headB (ρ x)) s = true) (h3 : isAggOf s (ρ y) = true) (h4 : allOne (aggC (ρ y)) = true) :
    (execOp ρ ⟨dst, .store ty x y, ty', pos, aft, g⟩).run P w = .ok .skip (w.setRow (headB (ρ x)) (aggC (ρ y))) := by
  have e1 := isAt_inv h
  obtain ⟨e2, e3⟩ := isAggOf_inv h3
  obtain ⟨cs, t, hb, hs⟩ := freeRow_inv h2
  have hr := run_storeVar_row (P := P) w (headB (ρ x)) t ty cs (aggC (ρ y)) hb (by rw [e3]; exact hi) (by omega) h4
  simp only [execOp, Sem.run_bind]
  rw [e2, e1]
  simp only [Instr.storeAt, Instr.sureAddr, Sem.run_bind, Sem.run_pure, Result.andThen_ok, headB_ptr]
  rw [hr]
  rfl
theorem storeW (h : isAt 0 (ρ x) = true) (h2 : freeRow w (headB (ρ x)) 65 = true) (h3 : isAggOf 65 (ρ y) = true) (h4 : allOne (aggC (ρ y)) = true) :
    (execOp ρ ⟨dst, .store 54 x y, ty', pos, aft, g⟩).run Try.prog w = .ok .skip (w.setRow (headB (ρ x)) (aggC (ρ y))) :=
  exec_store_row w ρ dst x y ty' pos aft g 65 _ Try.sizeW h h2 h3 h4
theorem wpStoreW (h : isAt 0 (a.eval x) = true) (h2 : freeRow w (headB (a.eval x)) 65 = true) (h3 : isAggOf 65 (a.eval y) = true) (h4 : allOne (aggC (a.eval y)) = true) :
    Oper.wp Try.prog ⟨dst, .store 54 x y, ty', pos, aft, g⟩ a w K Q = K (a.put dst undef) (w.setRow (headB (a.eval x)) (aggC (a.eval y))) := by
  unfold Oper.wp
  rw [storeW w a.eval dst x y ty' pos aft g h h2 h3 h4]
  rfl
theorem storeS (h : isAt 0 (ρ x) = true) (h2 : freeRow w (headB (ρ x)) 64 = true) (h3 : isAggOf 64 (ρ y) = true) (h4 : allOne (aggC (ρ y)) = true) :
    (execOp ρ ⟨dst, .store 52 x y, ty', pos, aft, g⟩).run Try.prog w = .ok .skip (w.setRow (headB (ρ x)) (aggC (ρ y))) :=
  exec_store_row w ρ dst x y ty' pos aft g 64 _ Try.sizeS h h2 h3 h4
theorem wpStoreS (h : isAt 0 (a.eval x) = true) (h2 : freeRow w (headB (a.eval x)) 64 = true) (h3 : isAggOf 64 (a.eval y) = true) (h4 : allOne (aggC (a.eval y)) = true) :
    Oper.wp Try.prog ⟨dst, .store 52 x y, ty', pos, aft, g⟩ a w K Q = K (a.put dst undef) (w.setRow (headB (a.eval x)) (aggC (a.eval y))) := by
  unfold Oper.wp
  rw [storeS w a.eval dst x y ty' pos aft g h h2 h3 h4]
  rfl
end

end Go.Proofs.Ytbhdelfiaaodmaa
