/-
  .
-/
import Derived.Test.YtonapijgfalpaaaVManyQw
import Derived.Deep.QuietTactic
import Derived.BigQuiet
import Derived.Deep.MidRow
import Derived.Deep.WholeRow

namespace Go.Proofs.Ytonapijgfalpaaa
def rise (n : Int) : Int → List Int → Bool
 | _, [] => true
 | a, x :: r => decide (a < x) && decide (x < n) && rise n x r
theorem rise_step {n a : Int} {l : List Int} {k : Nat} {x : Int} {r : Bool} (hr : r = rise n a (l.drop k)) (h : l[k]? = some x) : r = (decide (a < x) && decide (x < n) && rise n x (l.drop (k + 1))) := by rw [hr, drop_cons h]; rfl
theorem rise_end {n a : Int} {l : List Int} {k : Nat} {r : Bool} (hr : r = rise n a (l.drop k)) (h : l.length ≤ k) : r = true := by rw [hr, List.drop_eq_nil_of_le h]; rfl
def slotRest (s : Sl) : Bool := decide (0 < s.kinds.length) && decide (0 ≤ s.least) && decide (s.least ≤ s.most) && decide (s.most ≤ 1000)
def slotOk (n : Int) (s : Sl) : Bool := rise n (-1) s.kinds && slotRest s
def kindRest (k : Kd) : Bool := decide (1 ≤ k.name.size) && decide (k.name.size ≤ 40) && decide (k.slots.length ≤ 8)
def kindOk (n : Int) (k : Kd) : Bool := kindRest k && k.slots.all (slotOk n)
def fresh (l : List Kd) (s : List UInt8) : Bool := l.all fun k => decide (k.name.data.toList ≠ s)
def apart : List Kd → Bool
 | [] => true
 | k :: r => fresh r k.name.data.toList && apart r
def grRest (g : Gr) : Bool := decide (g.kinds.length ≤ 32) && decide (0 ≤ g.root) && decide (g.root < (g.kinds.length : Int))
def grOk (g : Gr) : Bool := grRest g && g.kinds.all (kindOk g.kinds.length) && apart g.kinds
theorem all_step {α : Type} {f : α → Bool} {l : List α} {k : Nat} {x : α} {r : Bool} (hr : r = (l.drop k).all f) (h : l[k]? = some x) : r = (f x && (l.drop (k + 1)).all f) := by rw [hr, drop_cons h]; rfl
theorem all_end {α : Type} {f : α → Bool} {l : List α} {k : Nat} {r : Bool} (hr : r = (l.drop k).all f) (h : l.length ≤ k) : r = true := by rw [hr, List.drop_eq_nil_of_le h]; rfl
theorem fresh_snoc (l : List Kd) (k : Kd) (s : List UInt8) : fresh (l ++ [k]) s = (fresh l s && decide (k.name.data.toList ≠ s)) := by simp [fresh]
theorem apart_snoc : ∀ (l : List Kd) (k : Kd), apart (l ++ [k]) = (apart l && fresh l k.name.data.toList)
 | [], k => by simp [apart, fresh]
 | x :: r, k => by
   rw [List.cons_append, apart, apart, apart_snoc r k, fresh_snoc]
   have e : decide (k.name.data.toList ≠ x.name.data.toList) = decide (x.name.data.toList ≠ k.name.data.toList) := by
    congr 1; simp only [ne_eq, eq_iff_iff]; exact ⟨fun h e => h e.symm, fun h e => h e.symm⟩
   rw [e]
   simp only [fresh, List.all_cons]
   cases List.all r _ <;> cases apart r <;> cases decide (x.name.data.toList ≠ k.name.data.toList) <;> simp
theorem take_snoc {α : Type} {l : List α} {k : Nat} {x : α} (h : l[k]? = some x) : l.take (k + 1) = l.take k ++ [x] := by
 rw [List.take_add_one, h]; rfl
theorem fresh_at {l : List Kd} {s : List UInt8} {k : Nat} {x : Kd} (h : fresh l s = true) (hx : l[k]? = some x) : x.name.data.toList ≠ s := by
 have := List.all_eq_true.1 h x (List.mem_of_getElem? hx)
 simpa using this
theorem fresh_take {l : List Kd} {s : List UInt8} {k : Nat} {x : Kd} (hx : l[k]? = some x) : fresh (l.take (k + 1)) s = (fresh (l.take k) s && decide (x.name.data.toList ≠ s)) := by rw [take_snoc hx, fresh_snoc]
theorem apart_take {l : List Kd} {k : Nat} {x : Kd} (hx : l[k]? = some x) : apart (l.take (k + 1)) = (apart (l.take k) && fresh (l.take k) x.name.data.toList) := by rw [take_snoc hx, apart_snoc]
end Go.Proofs.Ytonapijgfalpaaa
namespace Go.Proofs.Ytonapijgfalpaaa
open Go.RowKit
theorem slotRest_no {s : Sl} (h : ¬ (0 < s.kinds.length ∧ 0 ≤ s.least ∧ s.least ≤ s.most ∧ s.most ≤ 1000)) : slotRest s = false := by
 cases h2 : slotRest s
 · rfl
 · simp [slotRest] at h2
   exact absurd ⟨List.length_pos_iff.2 (by first | exact h2.1.1.1 | exact List.length_pos_iff.1 h2.1.1.1), h2.1.1.2, h2.1.2, h2.2⟩ h
def SlotR (w : World) (c : Array Value) (n : Int) (l : List Int) (a i : Value) (wr : World) : Prop :=
 ∃ (k : Nat) (x : Int), k ≤ l.length ∧ i = .int .i64 k ∧ a = .int .i64 x ∧ wr.heap[w.heap.size]? = some (.cells c 118 (0, 0)) ∧ Below w.heap.size w wr ∧ rise n (-1) l = rise n x (l.drop k)
set_option maxRecDepth 100000 in
set_option maxHeartbeats 1000000 in
theorem slot_any (w : World) (v : Value) (s : Sl) (n : Int) (hv : SlotV w v s) (hf : s.few) : Calls Try.prog 174 #[v, .int .i64 n] w (Says (slotOk n s) w) := by
 obtain ⟨ka, kc, rfl, hk⟩ := hv
 obtain ⟨l, lo, hi⟩ := s
 simp only at hk
 have hfl : l.length ≤ 1000000 := hf
 have HK := Lib.hid hk
 clear hf hk
 go_enter Try.func174, Try.ntmps174
 go_wp2_with fail
 go_loopw [5, 11] (fun a i wr => SlotR w #[.slice ka l.length kc, .int .i64 lo, .int .i64 hi] n l a i wr) (fun _ i _ => l.length - (intOf i).toNat)
 case atStart => exact ⟨0, -1, Nat.zero_le _, rfl, rfl, heap_alloc_new w _, box_below _ _, rfl⟩
 case round =>
  obtain ⟨k, a, hkl, rfl, rfl, hb, hbel, hany⟩ := hrel
  have HB := Lib.hid (And.intro hb hbel)
  have HA := Lib.hid hany
  by_cases hlt : k < l.length
  · obtain ⟨x, hx⟩ : ∃ x, l[k]? = some x := ⟨l[k], List.getElem?_eq_getElem hlt⟩
    obtain ⟨b, off, rfl, hblt, hc⟩ := (HK.out.below hbel) (by omega)
    have c0 := hc k x hx
    have HX := Lib.hid (rise_step HA.out hx)
    have hkl2 : (k : Int) < (l.length : Int) := by omega
    clear hx hc hb hbel hany
    by_cases h1 : x ≤ a
    · go_wp2_with fail
      go_ret
      exact Says.mk (by rw [slotOk, HX.out]; simp; intro h; omega) HB.out.2
    · by_cases h2 : n ≤ x
      · go_wp2_with fail
        go_ret
        exact Says.mk (by rw [slotOk, HX.out]; simp; intro _ h; omega) HB.out.2
      · go_wp2_with fail
        exact ⟨⟨k + 1, x, by omega, by go_num, rfl, HB.out.1, HB.out.2, by rw [HX.out]; simp; omega⟩, by simp [intOf]; omega⟩
  · have p0 : wr.cell? ⟨w.heap.size, 0, none⟩ = some (.slice ka l.length kc) := by rw [cell_of_row wr _ 0 _ _ _ hb]; rfl
    have p1 : wr.cell? ⟨w.heap.size, 1, none⟩ = some (.int .i64 lo) := by rw [cell_of_row wr _ 1 _ _ _ hb]; rfl
    have p2 : wr.cell? ⟨w.heap.size, 2, none⟩ = some (.int .i64 hi) := by rw [cell_of_row wr _ 2 _ _ _ hb]; rfl
    have HE := Lib.hid (show slotOk n ⟨l, lo, hi⟩ = slotRest ⟨l, lo, hi⟩ by rw [slotOk, rise_end HA.out (by omega)]; rfl)
    have hkl2 : ¬ (k : Int) < (l.length : Int) := by omega
    have HN : ¬ (0 < l.length ∧ 0 ≤ lo ∧ lo ≤ hi ∧ hi ≤ 1000) → slotOk n ⟨l, lo, hi⟩ = false := fun h => HE.out.trans (slotRest_no (s := ⟨l, lo, hi⟩) h)
    have HNN := Lib.hid HN
    clear HN hb hbel hany
    by_cases h1 : 0 < l.length
    · have h1' : (0 : Int) < (l.length : Int) := by omega
      by_cases h2 : 0 ≤ lo
      · by_cases h3 : lo ≤ hi
        · by_cases h4 : hi ≤ 1000
          · go_wp2_with fail
            go_ret
            exact Says.mk (by rw [HE.out]; simp [slotRest, h2, h3, h4]; omega) HB.out.2
          · go_wp2_with fail
            go_ret
            exact Says.mk (HNN.out (by omega)) HB.out.2
        · go_wp2_with fail
          go_ret
          exact Says.mk (HNN.out (by omega)) HB.out.2
      · go_wp2_with fail
        go_ret
        exact Says.mk (HNN.out (by omega)) HB.out.2
    · have h1' : ¬ (0 : Int) < (l.length : Int) := by omega
      go_wp2_with fail
      go_ret
      exact Says.mk (HNN.out (by omega)) HB.out.2
def Ahead (l : List Int) (k : Nat) (a : Int) : Prop := (k = 0 → a = -1) ∧ ∀ m, k = m + 1 → l[m]? = some a
def hasInt (l : List Int) (x : Int) : Bool := l.any fun y => decide (y = x)
def IdxR (w : World) (l : List Int) (x : Int) (i : Value) (wr : World) : Prop := ∃ k : Nat, k ≤ l.length ∧ i = .int .i64 k ∧ w = wr ∧ hasInt l x = hasInt (l.drop k) x
def IdxC (b : Bool) (w : World) (e : Ending) (w' : World) : Prop := ∃ n : Int, e = .returned (.int .i64 n) ∧ (b = true → 0 ≤ n) ∧ (b = false → n < 0) ∧ w = w'
theorem IdxC.yes {b : Bool} {w : World} {k : Nat} (h : b = true) : IdxC b w (.returned (.int .i64 (k : Int))) w := ⟨k, rfl, (fun _ => by omega), (fun e => by rw [h] at e; cases e), rfl⟩
theorem IdxC.no {b : Bool} {w : World} (h : b = false) : IdxC b w (.returned (.int .i64 (-1))) w := ⟨-1, rfl, (fun e => by rw [h] at e; cases e), (fun _ => by omega), rfl⟩
theorem has_step {l : List Int} {x y : Int} {k : Nat} {r : Bool} (hr : r = hasInt (l.drop k) x) (h : l[k]? = some y) : r = (decide (y = x) || hasInt (l.drop (k + 1)) x) := any_step hr h
set_option maxRecDepth 100000 in
set_option maxHeartbeats 1000000 in
theorem index_any (w : World) (a : Option Addr) (cap : Nat) (l : List Int) (x : Int) (h : IntsAt w a l) (hf : l.length ≤ 1000000) : Calls Try.prog 200 #[.slice a l.length cap, .int .i64 x] w (IdxC (hasInt l x) w) := by
 have HK := Lib.hid h
 clear h
 go_enter Try.func200, Try.ntmps200
 go_wp2_with fail
 go_loopw [8] (fun i wr => IdxR w l x i wr) (fun i _ => l.length - (intOf i).toNat)
 case atStart => exact ⟨0, Nat.zero_le _, rfl, rfl, rfl⟩
 case round =>
  obtain ⟨k, hkl, rfl, rfl, hany⟩ := hrel
  have HA := Lib.hid hany
  clear hany
  by_cases hlt : k < l.length
  · obtain ⟨y, hy⟩ : ∃ y, l[k]? = some y := ⟨l[k], List.getElem?_eq_getElem hlt⟩
    obtain ⟨b, off, rfl, hblt, hc⟩ := HK.out (by omega)
    have c0 := hc k y hy
    have HX := Lib.hid (has_step HA.out hy)
    have hkl2 : (k : Int) < (l.length : Int) := by omega
    clear hy hc
    by_cases he : x = y
    · have HE := Lib.hid he.symm
      subst he
      go_wp2_with fail
      go_ret
      exact IdxC.yes (by rw [HX.out]; simp)
    · have HE := Lib.hid he
      go_wp2_with fail
      exact ⟨⟨k + 1, by omega, by go_num, rfl, by rw [HX.out, decide_eq_false (fun e => HE.out e.symm)]; rfl⟩, by simp [intOf]; omega⟩
  · have HE := Lib.hid (show hasInt l x = false from any_end HA.out (by omega))
    have hkl2 : ¬ (k : Int) < (l.length : Int) := by omega
    go_wp2_with fail
    go_ret
    exact IdxC.no HE.out
set_option maxRecDepth 100000 in
set_option maxHeartbeats 1000000 in
theorem contains_any (w : World) (a : Option Addr) (cap : Nat) (l : List Int) (x : Int) (h : IntsAt w a l) (hf : l.length ≤ 1000000) : Calls Try.prog 194 #[.slice a l.length cap, .int .i64 x] w fun e w' => e = .returned (.bool (hasInt l x)) ∧ w = w' := by
 have HK := Lib.hid (index_any w a cap l x h hf)
 clear h
 obtain ⟨bb, hbb⟩ : ∃ bb, hasInt l x = bb := ⟨_, rfl⟩
 rw [hbb]
 rw [hbb] at HK
 clear hbb
 go_enter Try.func194, Try.ntmps194
 cases bb
 · go_wp2_with (go_at_call 200; ((with_reducible refine HK.out.mono ?_); rintro e w2 ⟨n, rfl, _, h2, rfl⟩; have h3 := Lib.hid (h2 rfl); clear h2))
   go_ret
   exact ⟨by show Ending.returned (.bool (decide (0 ≤ n))) = _; rw [decide_eq_false (by have := h3.out; omega)], rfl⟩
 · go_wp2_with (go_at_call 200; ((with_reducible refine HK.out.mono ?_); rintro e w2 ⟨n, rfl, h2, _, rfl⟩; have h3 := h2 rfl; clear h2))
   go_ret
   exact ⟨rfl, rfl⟩
def vec (f : Nat → Bool) : Array Value := ((List.range 201).map fun j => Value.bool (f j)).toArray
theorem vec_size (f : Nat → Bool) : (vec f).size = 201 := by simp [vec]
theorem vec_at (f : Nat → Bool) (j : Nat) (h : j < 201) : (vec f)[j]? = some (.bool (f j)) := by
 simp [vec, h]
theorem vec_set (f : Nat → Bool) (i : Nat) (b : Bool) : (vec f).setIfInBounds i (.bool b) = vec (fun j => if j = i then b else f j) := by
 apply Array.ext_getElem?
 intro j
 by_cases hj : j < 201
 · rw [vec_at _ j hj, Array.getElem?_setIfInBounds]
   by_cases e : i = j
   · subst e; rw [if_pos rfl, if_pos (by rw [vec_size]; exact hj), if_pos rfl]
   · rw [if_neg e, vec_at _ j hj, if_neg (fun h => e h.symm)]
 · rw [Array.getElem?_eq_none (by simp [vec_size]; omega), Array.getElem?_eq_none (by rw [vec_size]; omega)]
theorem vec_ext {f g : Nat → Bool} (h : ∀ j, j < 201 → f j = g j) : vec f = vec g := by
 apply Array.ext_getElem?
 intro j
 by_cases hj : j < 201
 · rw [vec_at _ j hj, vec_at _ j hj, h j hj]
 · rw [Array.getElem?_eq_none (by rw [vec_size]; omega), Array.getElem?_eq_none (by rw [vec_size]; omega)]
def allOne (cs : Array Value) : Bool := cs.all (·.oneCell')
theorem vec_one (f : Nat → Bool) : allOne (vec f) = true := by
 refine Array.all_eq_true_iff_forall_mem.2 fun u hu => ?_
 simp only [vec, List.mem_toArray, List.mem_map] at hu
 obtain ⟨b, _, rfl⟩ := hu; rfl
def blk (w : World) (b : Nat) : Array Value := match w.heap[b]? with
 | some (.cells cs _ _) => cs
 | _ => #[]
theorem blk_of {w : World} {b : Nat} {cs : Array Value} {t : TypeId} {fr : Nat × Nat} (h : w.heap[b]? = some (.cells cs t fr)) : blk w b = cs := by simp [blk, h]
theorem blk_alloc_new (w : World) (cs : Array Value) (t : TypeId) (n : Nat) (hn : n = w.heap.size) : blk (w.alloc (.cells cs t)) n = cs := by
 subst hn; exact blk_of (heap_alloc_new w _)
theorem blk_cell {w : World} {b : Nat} {v : Value} (j : Nat) (h : (blk w b)[j]? = some v) : w.cell? ⟨b, j, none⟩ = some v := by
 unfold blk at h
 split at h
 · rename_i cs t fr hb; rw [cell_of_row w b j cs t fr hb]; exact h
 · simp at h
theorem loadVar_blk0 {P : Program} (w : World) (b s : Nat) (ty : TypeId) (d : TypeDesc) (hu : P.underlying ty = some d) (hd : d.isRow = true) (hi : (P.info? ty).map (·.size) = some s) (h : (blk w b).size = s) :
 (loadVar ty ⟨b, 0, none⟩).run P w = .ok (.agg (blk w b)) w := by
 have := run_loadVar_mid (P := P) w b 0 ty (blk w b).toList d (fun j v hv => by
  refine blk_cell _ ?_
  rw [Nat.zero_add]; rw [Array.getElem?_toList] at hv; exact hv) hu hd (by rw [Array.length_toList, h]; exact hi)
 rw [Array.toArray_toList] at this
 exact this
theorem Try.sizeT : (Try.prog.info? 174).map (·.size) = some 201 := by kernel_rfl
def headB : Value → Nat
 | .pointer (some a) => a.block
 | _ => 0
def isHead : Value → Bool
 | .pointer (some a) => a.off == 0 && a.spot.isNone
 | _ => false
theorem headB_ptr (a : Addr) : headB (.pointer (some a)) = a.block := rfl
theorem isHead_ptr (b n : Nat) : isHead (.pointer (some ⟨b, n, none⟩)) = (n == 0) := by simp [isHead]
theorem isHead_inv {v : Value} (h : isHead v = true) : v = .pointer (some ⟨headB v, 0, none⟩) := by
 unfold isHead at h
 split at h
 · rename_i a
   obtain ⟨b, n, s⟩ := a
   simp at h
   obtain ⟨rfl, rfl⟩ := h
   rfl
 · cases h
def aggC : Value → Array Value
 | .agg cs => cs
 | _ => #[]
def isT : Value → Bool
 | .agg cs => cs.size == 201 && allOne cs
 | _ => false
theorem aggC_agg (cs : Array Value) : aggC (.agg cs) = cs := rfl
theorem isT_vec (f : Nat → Bool) : isT (.agg (vec f)) = true := by simp [isT, vec_size, vec_one]
theorem isT_inv {v : Value} (h : isT v = true) : v = .agg (aggC v) ∧ (aggC v).size = 201 ∧ allOne (aggC v) = true := by
 unfold isT at h
 split at h
 · simp at h; exact ⟨rfl, h.1, h.2⟩
 · cases h
def freeRow (w : World) (b : Nat) : Bool := match w.heap[b]? with
 | some (.cells cs _ fr) => cs.size == 201 && fr == (0, 0)
 | _ => false
theorem freeRow_alloc (w : World) (c : Array Value) (t : TypeId) (n : Nat) (hn : n = w.heap.size) : freeRow (w.alloc (.cells c t)) n = (c.size == 201) := by
 subst hn
 unfold freeRow
 rw [heap_alloc_new]
 simp
theorem freeRow_of {w : World} {b : Nat} {cs : Array Value} {t : TypeId} (h : w.heap[b]? = some (.cells cs t (0, 0))) (hs : cs.size = 201) : freeRow w b = true := by simp [freeRow, h, hs]
theorem freeRow_inv {w : World} {b : Nat} (h : freeRow w b = true) : ∃ cs t, w.heap[b]? = some (.cells cs t (0, 0)) ∧ cs.size = 201 := by
 unfold freeRow at h
 split at h
 · rename_i cs t fr hb
   simp at h
   obtain ⟨h1, rfl⟩ := h
   exact ⟨cs, t, hb, h1⟩
 · cases h
theorem setRow_alloc_at (w : World) (c c' : Array Value) (t : TypeId) (n : Nat) (hn : n = w.heap.size) : (w.alloc (.cells c t)).setRow n c' = w.alloc (.cells c' t) := by
 subst hn; exact World.setRow_alloc_new w c c' t
def noF : Nat → Bool := fun _ => false
def onlyF : Nat → Bool := fun j => decide (j = 0)
section
variable (w : World) (ρ : Operand → Value) (a : Act) (dst : Option Tmp) (x y : Operand) (ty' : TypeId) (pos : String) (aft : Array Edge) (g : Option (Nat × Bool)) (K : Act → World → Prop) (Q : Exit → Act → World → Prop)
theorem loadT (h : isHead (ρ x) = true) (h2 : (blk w (headB (ρ x))).size = 201) : (execOp ρ ⟨dst, .load 174 x, ty', pos, aft, g⟩).run Try.prog w = .ok (.value (.agg (blk w (headB (ρ x))))) w := by
 have e := isHead_inv h
 simp only [execOp, Sem.run_bind]
 rw [e]
 simp only [Instr.loadAt, Instr.sureAddr, Sem.run_bind, Sem.run_pure, Result.andThen_ok, headB_ptr]
 rw [loadVar_blk0 (P := Try.prog) w (headB (ρ x)) 201 174 _ Try.underlying174 rfl Try.sizeT h2]
 rfl
theorem wpLoadT (h : isHead (a.eval x) = true) (h2 : (blk w (headB (a.eval x))).size = 201) : Oper.wp Try.prog ⟨dst, .load 174 x, ty', pos, aft, g⟩ a w K Q = K (a.put dst (.agg (blk w (headB (a.eval x))))) w := by
 unfold Oper.wp
 rw [loadT w a.eval dst x ty' pos aft g h h2]
 rfl
theorem storeT (h : isHead (ρ x) = true) (h2 : freeRow w (headB (ρ x)) = true) (h3 : isT (ρ y) = true) :
 (execOp ρ ⟨dst, .store 174 x y, ty', pos, aft, g⟩).run Try.prog w = .ok .skip (w.setRow (headB (ρ x)) (aggC (ρ y))) := by
 have e1 := isHead_inv h
 obtain ⟨e2, e3, e4⟩ := isT_inv h3
 obtain ⟨cs, t, hb, hs⟩ := freeRow_inv h2
 have hr := run_storeVar_row (P := Try.prog) w (headB (ρ x)) t 174 cs (aggC (ρ y)) hb (by rw [e3]; exact Try.sizeT) (by omega) e4
 simp only [execOp, Sem.run_bind]
 rw [e2, e1]
 simp only [Instr.storeAt, Instr.sureAddr, Sem.run_bind, Sem.run_pure, Result.andThen_ok, headB_ptr]
 rw [hr]
 rfl
theorem wpStoreT (h : isHead (a.eval x) = true) (h2 : freeRow w (headB (a.eval x)) = true) (h3 : isT (a.eval y) = true) :
 Oper.wp Try.prog ⟨dst, .store 174 x y, ty', pos, aft, g⟩ a w K Q = K (a.put dst undef) (w.setRow (headB (a.eval x)) (aggC (a.eval y))) := by
 unfold Oper.wp
 rw [storeT w a.eval dst x y ty' pos aft g h h2 h3]
 rfl
theorem allocT : (execOp ρ ⟨dst, .alloc 174, ty', pos, aft, g⟩).run Try.prog w = .ok (.value (.pointer (some ⟨w.heap.size, 0, none⟩))) (w.alloc (.cells (vec noF) 174)) := by kernel_rfl
theorem wpAllocT : Oper.wp Try.prog ⟨dst, .alloc 174, ty', pos, aft, g⟩ a w K Q = K (a.put dst (.pointer (some ⟨w.heap.size, 0, none⟩))) (w.alloc (.cells (vec noF) 174)) := by
 unfold Oper.wp
 rw [allocT w a.eval dst ty' pos aft g]
 rfl
theorem buildT' : (Instr.build 174 #[(0, .bool true)]).run Try.prog w = .ok (.agg (vec onlyF)) w := by kernel_rfl
theorem buildT (h : ρ x = .bool true) : (execOp ρ ⟨dst, .build 174 #[(0, x)], ty', pos, aft, g⟩).run Try.prog w = .ok (.value (.agg (vec onlyF))) w := by
 simp only [execOp, List.map_toArray, List.map_cons, List.map_nil, Sem.run_bind]
 rw [h, buildT']
 rfl
theorem wpBuildT (h : a.eval x = .bool true) : Oper.wp Try.prog ⟨dst, .build 174 #[(0, x)], ty', pos, aft, g⟩ a w K Q = K (a.put dst (.agg (vec onlyF))) w := by
 unfold Oper.wp
 rw [buildT w a.eval dst x ty' pos aft g h]
 rfl
end
end Go.Proofs.Ytonapijgfalpaaa
