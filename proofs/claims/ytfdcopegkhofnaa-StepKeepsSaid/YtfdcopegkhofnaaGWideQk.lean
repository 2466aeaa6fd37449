/-
  The document's 'rising' and 'may'. No condition but that the row lies where it is said to lie.
  Rows of ints: Index, Contains, Equal of the library, and the document's 'may'. No condition but that the rows lie where they are said to lie.
  Arrays of 201 truths, whole, out of and into blocks: single rules of the walk. No condition.
-/
import Derived.Test.YtfdcopegkhofnaaGPlacesQk
import Derived.Deep.QuietTactic
import Derived.BigQuiet
import Derived.Deep.MidRow
import Derived.Deep.WholeRow
namespace Go.Proofs.Ytfdcopegkhofnaa
open Go.RowKit

def Ahead (l : List Int) (k : Nat) (a : Int) : Prop := (k = 0 → a = -1) ∧ ∀ m, k = m + 1 → l[m]? = some a
def RiseR (w : World) (n : Int) (l : List Int) (i : Value) (wr : World) : Prop :=
  ∃ (k : Nat) (a : Int), k ≤ l.length ∧ i = .int .i64 k ∧ -1 ≤ a ∧ Ahead l k a ∧ Below w.heap.size w wr ∧ rise n (-1) l = rise n a (l.drop k)
def rising (n : Int) (l : List Int) : Bool := rise n (-1) l && decide (0 < l.length)

set_option maxRecDepth 100000 in
set_option maxHeartbeats 1000000 in
theorem rising_any (w : World) (a : Option Addr) (cap : Nat) (l : List Int) (n : Int) (hn : n ≤ 32) (h : IntsAt w a l) (hf : l.length ≤ 1000000) : Calls Try.prog 92 #[.slice a l.length cap, .int .i64 n] w (Says (rising n l) w) := by
  have HK := Lib.hid h
  clear h
  go_enter Try.func92, Try.ntmps92
  go_wp2_with fail
  go_loopw [5] (fun i wr => RiseR w n l i wr) (fun i _ => l.length - (intOf i).toNat)
  case atStart => exact ⟨0, -1, Nat.zero_le _, rfl, by omega, ⟨fun _ => rfl, fun m h => by omega⟩, Below.refl _ _, rfl⟩
  case round =>
    obtain ⟨k, y, hkl, rfl, hy, ⟨hy0, hy1⟩, hbel, hany⟩ := hrel
    have HB := Lib.hid hbel
    have HA := Lib.hid hany
    by_cases hlt : k < l.length
    · obtain ⟨x, hx⟩ : ∃ x, l[k]? = some x := ⟨l[k], List.getElem?_eq_getElem hlt⟩
      obtain ⟨b, off, rfl, hblt, hc⟩ := (HK.out.below hbel) (by omega)
      have c0 := hc k x hx
      have HX := Lib.hid (rise_step HA.out hx)
      have hkl2 : (k : Int) < (l.length : Int) := by omega
      have hk0 : (0 : Int) ≤ (k : Int) := by omega
      have HXX := Lib.hid hx
      by_cases hx0 : x < 0
      · have hx0' : decide (x < 0) = true := by simpa using hx0
        clear hx hc hbel hany hy0 hy1
        go_wp2_with fail
        go_quiet (fail)
        go_wp2_with fail
        go_ret
        exact Says.mk (by rw [rising, HX.out]; simp; omega) (below_drewN HB.out _)
      · have hx0' : decide (x < 0) = false := by simpa using hx0
        by_cases hxn : n ≤ x
        · have hxn' : decide (n ≤ x) = true := by simpa using hxn
          clear hx hc hbel hany hy0 hy1
          go_wp2_with fail
          go_quiet (fail)
          go_wp2_with fail
          go_ret
          exact Says.mk (by rw [rising, HX.out]; simp; omega) (below_drewN HB.out _)
        · have hxn' : decide (n ≤ x) = false := by simpa using hxn
          by_cases hk1 : k = 0
          · have hka := hy0 hk1
            subst hka
            have hk2 : decide ((0 : Int) < (k : Int)) = false := by simp; omega
            have hk3 : decide (0 < k) = false := by simp; omega
            have HK1 := Lib.hid hk1
            clear hx hc hbel hany hy0 hy1 hk1
            go_wp2_with fail
            go_quiet (fail)
            go_wp2_with fail
            exact ⟨⟨k + 1, x, by omega, by go_num, by omega, ⟨fun h => by omega, fun m h => by obtain rfl : m = k := (by omega); exact HXX.out⟩, below_drewN HB.out _, by rw [HX.out]; simp; omega⟩, by simp [intOf]; omega⟩
          · obtain ⟨m, rfl⟩ : ∃ m, k = m + 1 := ⟨k - 1, by omega⟩
            have hym := hy1 m rfl
            have c1 := hc m y hym
            have hk2 : decide ((0 : Int) < ((m : Int) + 1)) = true := by rw [decide_eq_true]; omega
            have hk3 : decide (0 < m + 1) = true := by simp
            by_cases hle : x ≤ y
            · have hle' : decide (x ≤ y) = true := by simpa using hle
              clear hx hc hbel hany hy0 hy1 hym
              go_wp2_with fail
              go_quiet (fail)
              go_wp2_with fail
              go_ret
              exact Says.mk (by rw [rising, HX.out]; simp; omega) (below_drewN HB.out _)
            · have hle' : decide (x ≤ y) = false := by simpa using hle
              clear hx hc hbel hany hy0 hy1 hym
              go_wp2_with fail
              go_quiet (fail)
              go_wp2_with fail
              exact ⟨⟨m + 2, x, by omega, by go_num, by omega, ⟨fun h => by omega, fun j h => by obtain rfl : j = m + 1 := (by omega); exact HXX.out⟩, below_drewN HB.out _, by rw [HX.out]; simp; omega⟩, by simp [intOf]; omega⟩
    · have HE := Lib.hid (show rising n l = decide (0 < l.length) by rw [rising, rise_end HA.out (by omega)]; rfl)
      have hkl2 : ¬ (k : Int) < (l.length : Int) := by omega
      have hlen := rise_len n l (-1) (rise_end HA.out (by omega))
      have h32 : l.length ≤ 32 := by
        rcases hlen with h | h
        · rw [h]; simp
        · omega
      clear hbel hany hlen hy0 hy1
      by_cases h1 : 0 < l.length
      · have h1' : (1 : Int) ≤ (l.length : Int) := by omega
        have h2' : (l.length : Int) ≤ 32 := by omega
        go_wp2_with fail
        go_ret
        exact Says.mk (by rw [HE.out, decide_eq_true h1]) HB.out
      · have h1' : ¬ (1 : Int) ≤ (l.length : Int) := by omega
        go_wp2_with fail
        go_ret
        exact Says.mk (by rw [HE.out, decide_eq_false h1]) HB.out
end Go.Proofs.Ytfdcopegkhofnaa
namespace Go.Proofs.Ytfdcopegkhofnaa
open Go.RowKit

def hasInt (l : List Int) (x : Int) : Bool := l.any fun y => decide (y = x)
def IdxR (w : World) (l : List Int) (x : Int) (i : Value) (wr : World) : Prop := ∃ k : Nat, k ≤ l.length ∧ i = .int .i64 k ∧ w = wr ∧ hasInt l x = hasInt (l.drop k) x
def IdxC (b : Bool) (w : World) (e : Ending) (w' : World) : Prop := ∃ n : Int, e = .returned (.int .i64 n) ∧ (b = true → 0 ≤ n) ∧ (b = false → n < 0) ∧ w = w'
theorem IdxC.yes {b : Bool} {w : World} {k : Nat} (h : b = true) : IdxC b w (.returned (.int .i64 (k : Int))) w := ⟨k, rfl, (fun _ => by omega), (fun e => by rw [h] at e; cases e), rfl⟩
theorem IdxC.no {b : Bool} {w : World} (h : b = false) : IdxC b w (.returned (.int .i64 (-1))) w := ⟨-1, rfl, (fun e => by rw [h] at e; cases e), (fun _ => by omega), rfl⟩
theorem has_step {l : List Int} {x y : Int} {k : Nat} {r : Bool} (hr : r = hasInt (l.drop k) x) (h : l[k]? = some y) : r = (decide (y = x) || hasInt (l.drop (k + 1)) x) := any_step hr h

set_option maxRecDepth 100000 in
set_option maxHeartbeats 1000000 in
theorem index_any (w : World) (a : Option Addr) (cap : Nat) (l : List Int) (x : Int) (h : IntsAt w a l) (hf : l.length ≤ 1000000) : Calls Try.prog 164 #[.slice a l.length cap, .int .i64 x] w (IdxC (hasInt l x) w) := by
  have HK := Lib.hid h
  clear h
  go_enter Try.func164, Try.ntmps164
  go_wp2_with fail
  go_loopw [8] (fun i wr => IdxR w l x i wr) (fun i _ => l.length - (intOf i).toNat)
  case atStart => exact ⟨0, Nat.zero_le _, rfl, rfl, rfl⟩
  case round =>
    obtain ⟨k, hkl, rfl, rfl, hany⟩ := hrel
    have HA := Lib.hid hany
    clear hany
    by_cases hlt : k < l.length
    · obtain ⟨y, hy⟩ : ∃ y, l[k]? = some y := ⟨l[k], List.getElem?_eq_getElem hlt⟩
      obtain ⟨b, off, rfl, hblt, hc⟩ := HK.out (by omega)
      have c0 := hc k y hy
      have HX := Lib.hid (has_step HA.out hy)
      have hkl2 : (k : Int) < (l.length : Int) := by omega
      clear hy hc
      by_cases he : x = y
      · have HE := Lib.hid he.symm
        subst he
        go_wp2_with fail
        go_ret
        exact IdxC.yes (by rw [HX.out]; simp)
      · have HE := Lib.hid he
        go_wp2_with fail
        exact ⟨⟨k + 1, by omega, by go_num, rfl, by rw [HX.out, decide_eq_false (fun e => HE.out e.symm)]; rfl⟩, by simp [intOf]; omega⟩
    · have HE := Lib.hid (show hasInt l x = false from any_end HA.out (by omega))
      have hkl2 : ¬ (k : Int) < (l.length : Int) := by omega
      go_wp2_with fail
      go_ret
      exact IdxC.no HE.out

set_option maxRecDepth 100000 in
set_option maxHeartbeats 1000000 in
theorem contains_any (w : World) (a : Option Addr) (cap : Nat) (l : List Int) (x : Int) (h : IntsAt w a l) (hf : l.length ≤ 1000000) : Calls Try.prog 158 #[.slice a l.length cap, .int .i64 x] w fun e w' => e = .returned (.bool (hasInt l x)) ∧ w = w' := by
  have HK := Lib.hid (index_any w a cap l x h hf)
  clear h
  obtain ⟨bb, hbb⟩ : ∃ bb, hasInt l x = bb := ⟨_, rfl⟩
  rw [hbb]
  rw [hbb] at HK
  clear hbb
  go_enter Try.func158, Try.ntmps158
  cases bb
  · go_wp2_with (go_at_call 164; ((with_reducible refine HK.out.mono ?_); rintro e w2 ⟨n, rfl, _, h2, rfl⟩; have h3 := Lib.hid (h2 rfl); clear h2))
    go_ret
    exact ⟨by show Ending.returned (.bool (decide (0 ≤ n))) = _; rw [decide_eq_false (by have := h3.out; omega)], rfl⟩
  · go_wp2_with (go_at_call 164; ((with_reducible refine HK.out.mono ?_); rintro e w2 ⟨n, rfl, h2, _, rfl⟩; have h3 := h2 rfl; clear h2))
    go_ret
    exact ⟨rfl, rfl⟩

def MayR (w : World) (c : Array Value) (l : List Int) (x : Int) (i : Value) (wr : World) : Prop := ∃ k : Nat, k ≤ l.length ∧ i = .int .i64 k ∧ wr.heap[w.heap.size]? = some (.cells c 106 (0, 0)) ∧ Below w.heap.size w wr ∧ hasInt l x = hasInt (l.drop k) x
set_option maxRecDepth 100000 in
set_option maxHeartbeats 1000000 in
theorem may_any (w : World) (v : Value) (s : Sl) (x : Int) (hv : SlotV w v s) (hf : s.few) : Calls Try.prog 99 #[v, .int .i64 x] w (Says (hasInt s.kinds x) w) := by
  obtain ⟨ka, kc, rfl, hk⟩ := hv
  obtain ⟨l, lo, hi⟩ := s
  simp only at hk ⊢
  have hfl : l.length ≤ 1000000 := hf
  have HK := Lib.hid hk
  clear hf hk
  go_enter Try.func99, Try.ntmps99
  go_wp2_with fail
  go_loopw [5] (fun i wr => MayR w #[.slice ka l.length kc, .int .i64 lo, .int .i64 hi] l x i wr) (fun i _ => l.length - (intOf i).toNat)
  case atStart => exact ⟨0, Nat.zero_le _, rfl, heap_alloc_new w _, box_below _ _, rfl⟩
  case round =>
    obtain ⟨k, hkl, rfl, hb, hbel, hany⟩ := hrel
    have p0 : wr.cell? ⟨w.heap.size, 0, none⟩ = some (.slice ka l.length kc) := by rw [cell_of_row wr _ 0 _ _ _ hb]; rfl
    have HB := Lib.hid (And.intro hb hbel)
    have HA := Lib.hid hany
    by_cases hlt : k < l.length
    · obtain ⟨y, hy⟩ : ∃ y, l[k]? = some y := ⟨l[k], List.getElem?_eq_getElem hlt⟩
      obtain ⟨b, off, rfl, hblt, hc⟩ := (HK.out.below hbel) (by omega)
      have c0 := hc k y hy
      have HX := Lib.hid (has_step HA.out hy)
      have hkl2 : (k : Int) < (l.length : Int) := by omega
      clear hy hc hb hbel hany
      by_cases he : y = x
      · subst he
        go_wp2_with fail
        go_ret
        exact Says.mk (by rw [HX.out]; simp) HB.out.2
      · have HE := Lib.hid he
        go_wp2_with fail
        exact ⟨⟨k + 1, by omega, by go_num, HB.out.1, HB.out.2, by rw [HX.out, decide_eq_false HE.out]; rfl⟩, by simp [intOf]; omega⟩
    · have HE := Lib.hid (show hasInt l x = false from any_end HA.out (by omega))
      have hkl2 : ¬ (k : Int) < (l.length : Int) := by omega
      clear hb hbel hany
      go_wp2_with fail
      go_ret
      exact Says.mk HE.out HB.out.2

end Go.Proofs.Ytfdcopegkhofnaa
namespace Go.Proofs.Ytfdcopegkhofnaa
open Go.RowKit

/-- The cells of such an array. -/
def vec (f : Nat → Bool) : Array Value := ((List.range 201).map fun j => Value.bool (f j)).toArray
theorem vec_size (f : Nat → Bool) : (vec f).size = 201 := by simp [vec]
theorem vec_at (f : Nat → Bool) (j : Nat) (h : j < 201) : (vec f)[j]? = some (.bool (f j)) := by
  simp [vec, h]
theorem vec_set (f : Nat → Bool) (i : Nat) (b : Bool) : (vec f).setIfInBounds i (.bool b) = vec (fun j => if j = i then b else f j) := by
  apply Array.ext_getElem?
  intro j
  by_cases hj : j < 201
  · rw [vec_at _ j hj, Array.getElem?_setIfInBounds]
    by_cases e : i = j
    · subst e; rw [if_pos rfl, if_pos (by rw [vec_size]; exact hj), if_pos rfl]
    · rw [if_neg e, vec_at _ j hj, if_neg (fun h => e h.symm)]
  · rw [Array.getElem?_eq_none (by simp [vec_size]; omega), Array.getElem?_eq_none (by rw [vec_size]; omega)]
theorem vec_ext {f g : Nat → Bool} (h : ∀ j, j < 201 → f j = g j) : vec f = vec g := by
  apply Array.ext_getElem?
  intro j
  by_cases hj : j < 201
  · rw [vec_at _ j hj, vec_at _ j hj, h j hj]
  · rw [Array.getElem?_eq_none (by rw [vec_size]; omega), Array.getElem?_eq_none (by rw [vec_size]; omega)]
/-- Each is one cell. -/
def allOne (cs : Array Value) : Bool := cs.all (·.oneCell')
theorem vec_one (f : Nat → Bool) : allOne (vec f) = true := by
  refine Array.all_eq_true_iff_forall_mem.2 fun u hu => ?_
  simp only [vec, List.mem_toArray, List.mem_map] at hu
  obtain ⟨b, _, rfl⟩ := hu; rfl

/-- The cells of a block. -/
def blk (w : World) (b : Nat) : Array Value := match w.heap[b]? with
  | some (.cells cs _ _) => cs
  | _ => #[]
theorem blk_of {w : World} {b : Nat} {cs : Array Value} {t : TypeId} {fr : Nat × Nat} (h : w.heap[b]? = some (.cells cs t fr)) : blk w b = cs := by simp [blk, h]
theorem blk_alloc_new (w : World) (cs : Array Value) (t : TypeId) (n : Nat) (hn : n = w.heap.size) : blk (w.alloc (.cells cs t)) n = cs := by
  subst hn; exact blk_of (heap_alloc_new w _)
theorem blk_cell {w : World} {b : Nat} {v : Value} (j : Nat) (h : (blk w b)[j]? = some v) : w.cell? ⟨b, j, none⟩ = some v := by
  unfold blk at h
  split at h
  · rename_i cs t fr hb; rw [cell_of_row w b j cs t fr hb]; exact h
  · simp at h
theorem loadVar_blk0 {P : Program} (w : World) (b s : Nat) (ty : TypeId) (d : TypeDesc) (hu : P.underlying ty = some d) (hd : d.isRow = true) (hi : (P.info? ty).map (·.size) = some s) (h : (blk w b).size = s) :
    (loadVar ty ⟨b, 0, none⟩).run P w = .ok (.agg (blk w b)) w := by
  have := run_loadVar_mid (P := P) w b 0 ty (blk w b).toList d (fun j v hv => by
    refine blk_cell _ ?_
    rw [Nat.zero_add]; rw [Array.getElem?_toList] at hv; exact hv) hu hd (by rw [Array.length_toList, h]; exact hi)
  rw [Array.toArray_toList] at this
  exact this
theorem Try.sizeT : (Try.prog.info? 149).map (·.size) = some 201 := by kernel_rfl
/-- Where a pointer leads: its block; does it lead to the head of it? -/
def headB : Value → Nat
  | .pointer (some a) => a.block
  | _ => 0
def isHead : Value → Bool
  | .pointer (some a) => a.off == 0 && a.spot.isNone
  | _ => false
theorem headB_ptr (a : Addr) : headB (.pointer (some a)) = a.block := rfl
theorem isHead_ptr (b n : Nat) : isHead (.pointer (some ⟨b, n, none⟩)) = (n == 0) := by simp [isHead]
theorem isHead_inv {v : Value} (h : isHead v = true) : v = .pointer (some ⟨headB v, 0, none⟩) := by
  unfold isHead at h
  split at h
  · rename_i a
    obtain ⟨b, n, s⟩ := a
    simp at h
    obtain ⟨rfl, rfl⟩ := h
    rfl
  · cases h
def aggC : Value → Array Value
  | .agg cs => cs
  | _ => #[]
def isT : Value → Bool
  | .agg cs => cs.size == 201 && allOne cs
  | _ => false
theorem aggC_agg (cs : Array Value) : aggC (.agg cs) = cs := rfl
theorem isT_vec (f : Nat → Bool) : isT (.agg (vec f)) = true := by simp [isT, vec_size, vec_one]
theorem isT_inv {v : Value} (h : isT v = true) : v = .agg (aggC v) ∧ (aggC v).size = 201 ∧ allOne (aggC v) = true := by
  unfold isT at h
  split at h
  · simp at h; exact ⟨rfl, h.1, h.2⟩
  · cases h
/-- A block of 201 cells that may be written. -/
def freeRow (w : World) (b : Nat) : Bool := match w.heap[b]? with
  | some (.cells cs _ fr) => cs.size == 201 && fr == (0, 0)
  | _ => false
theorem freeRow_alloc (w : World) (c : Array Value) (t : TypeId) (n : Nat) (hn : n = w.heap.size) : freeRow (w.alloc (.cells c t)) n = (c.size == 201) := by
  subst hn
  unfold freeRow
  rw [heap_alloc_new]
  simp
theorem freeRow_of {w : World} {b : Nat} {cs : Array Value} {t : TypeId} (h : w.heap[b]? = some (.cells cs t (0, 0))) (hs : cs.size = 201) : freeRow w b = true := by simp [freeRow, h, hs]
theorem freeRow_inv {w : World} {b : Nat} (h : freeRow w b = true) : ∃ cs t, w.heap[b]? = some (.cells cs t (0, 0)) ∧ cs.size = 201 := by
  unfold freeRow at h
  split at h
  · rename_i cs t fr hb
    simp at h
    obtain ⟨h1, rfl⟩ := h
    exact ⟨cs, t, hb, h1⟩
  · cases h
theorem setRow_alloc_at (w : World) (c c' : Array Value) (t : TypeId) (n : Nat) (hn : n = w.heap.size) : (w.alloc (.cells c t)).setRow n c' = w.alloc (.cells c' t) := by
  subst hn; exact World.setRow_alloc_new w c c' t
def noF : Nat → Bool := fun _ => false
def onlyF : Nat → Bool := fun j => decide (j = 0)

section
variable (w : World) (ρ : Operand → Value) (a : Act) (dst : Option Tmp) (x y : Operand) (ty' : TypeId) (pos : String) (aft : Array Edge) (g : Option (Nat × Bool)) (K : Act → World → Prop) (Q : Exit → Act → World → Prop)
theorem loadT (h : isHead (ρ x) = true) (h2 : (blk w (headB (ρ x))).size = 201) : (execOp ρ ⟨dst, .load 149 x, ty', pos, aft, g⟩).run Try.prog w = .ok (.value (.agg (blk w (headB (ρ x))))) w := by
  have e := isHead_inv h
  simp only [execOp, Sem.run_bind]
  rw [e]
  simp only [Instr.loadAt, Instr.sureAddr, Sem.run_bind, Sem.run_pure, Result.andThen_ok, headB_ptr]
  rw [loadVar_blk0 (P := Try.prog) w (headB (ρ x)) 201 149 _ Try.underlying149 rfl Try.sizeT h2]
  rfl
theorem wpLoadT (h : isHead (a.eval x) = true) (h2 : (blk w (headB (a.eval x))).size = 201) : Oper.wp Try.prog ⟨dst, .load 149 x, ty', pos, aft, g⟩ a w K Q = K (a.put dst (.agg (blk w (headB (a.eval x))))) w := by
  unfold Oper.wp
  rw [loadT w a.eval dst x ty' pos aft g h h2]
  rfl
theorem storeT (h : isHead (ρ x) = true) (h2 : freeRow w (headB (ρ x)) = true) (h3 : isT (ρ y) = true) :
    (execOp ρ ⟨dst, .store 149 x y, ty', pos, aft, g⟩).run Try.prog w = .ok .skip (w.setRow (headB (ρ x)) (aggC (ρ y))) := by
  have e1 := isHead_inv h
  obtain ⟨e2, e3, e4⟩ := isT_inv h3
  obtain ⟨cs, t, hb, hs⟩ := freeRow_inv h2
  have hr := run_storeVar_row (P := Try.prog) w (headB (ρ x)) t 149 cs (aggC (ρ y)) hb (by rw [e3]; exact Try.sizeT) (by omega) e4
  simp only [execOp, Sem.run_bind]
  rw [e2, e1]
  simp only [Instr.storeAt, Instr.sureAddr, Sem.run_bind, Sem.run_pure, Result.andThen_ok, headB_ptr]
  rw [hr]
  rfl
theorem wpStoreT (h : isHead (a.eval x) = true) (h2 : freeRow w (headB (a.eval x)) = true) (h3 : isT (a.eval y) = true) :
    Oper.wp Try.prog ⟨dst, .store 149 x y, ty', pos, aft, g⟩ a w K Q = K (a.put dst undef) (w.setRow (headB (a.eval x)) (aggC (a.eval y))) := by
  unfold Oper.wp
  rw [storeT w a.eval dst x y ty' pos aft g h h2 h3]
  rfl
theorem allocT : (execOp ρ ⟨dst, .alloc 149, ty', pos, aft, g⟩).run Try.prog w = .ok (.value (.pointer (some ⟨w.heap.size, 0, none⟩))) (w.alloc (.cells (vec noF) 149)) := by kernel_rfl
theorem wpAllocT : Oper.wp Try.prog ⟨dst, .alloc 149, ty', pos, aft, g⟩ a w K Q = K (a.put dst (.pointer (some ⟨w.heap.size, 0, none⟩))) (w.alloc (.cells (vec noF) 149)) := by
  unfold Oper.wp
  rw [allocT w a.eval dst ty' pos aft g]
  rfl
theorem buildT' : (Instr.build 149 #[(0, .bool true)]).run Try.prog w = .ok (.agg (vec onlyF)) w := by kernel_rfl
theorem buildT (h : ρ x = .bool true) : (execOp ρ ⟨dst, .build 149 #[(0, x)], ty', pos, aft, g⟩).run Try.prog w = .ok (.value (.agg (vec onlyF))) w := by
  simp only [execOp, List.map_toArray, List.map_cons, List.map_nil, Sem.run_bind]
  rw [h, buildT']
  rfl
theorem wpBuildT (h : a.eval x = .bool true) : Oper.wp Try.prog ⟨dst, .build 149 #[(0, x)], ty', pos, aft, g⟩ a w K Q = K (a.put dst (.agg (vec onlyF))) w := by
  unfold Oper.wp
  rw [buildT w a.eval dst x ty' pos aft g h]
  rfl
end
end Go.Proofs.Ytfdcopegkhofnaa
