/-
  The document's own disk in memory, and what its calls do. No condition but that it lies where it is said to lie.
-/
import Derived.Test.YtbhdelfiaaodmaaLastWalk
namespace Go.Proofs.Ytbhdelfiaaodmaa
open Go.RowKit
open Extern.Stop (cell)

def putCells (p : Wr × Nat) : List Value := [.int .i64 p.1.n, .slice (some ⟨p.2, 0, none⟩) 64 64]
def refRow (l : List (Wr × Nat)) : List Value := l.flatMap putCells

/-- Block rb is the document's disk, all of which lies from block B on. -/
def RefAt (w : World) (B rb : Nat) (s : St) : Prop :=
  B ≤ rb ∧ ∃ (v : Value) (ps : List (Wr × Nat)), w.heap[rb]? = some (.cells #[v, .bool s.down, .bool s.armed, .int .i64 s.left] 30 (0, 0)) ∧
    ps.map (·.1) = s.l ∧ w.ownsRow B 57 2 v s.l.length (refRow ps) ∧ ∀ p ∈ ps, p.1.good ∧ w.heap[p.2]? = some (.cells (p.1.d.map cell).toArray 5 (0, 0))

def refObj : Obj → Bool
  | .cells _ t _ => t == 30 || t == 57
  | _ => false
def StaysR (w w' : World) : Prop := ∀ (k : Nat) (o : Obj), w.heap[k]? = some o → refObj o = false → w'.heap[k]? = some o
theorem StaysR.refl (w : World) : StaysR w w := fun _ _ h _ => h
theorem StaysR.trans {a b c : World} (h : StaysR a b) (k : StaysR b c) : StaysR a c := fun i o hi ho => k i o (h i o hi ho) ho
theorem StaysR.alloc {a w : World} (h : StaysR a w) (o : Obj) : StaysR a (w.alloc o) := fun i x hi ho => by
  have := h i x hi ho
  rw [Below.heap_alloc w o i (lt_of_heap this)]; exact this
theorem StaysR.drew {a w : World} (h : StaysR a w) : StaysR a w.drew := h
theorem StaysR.below {w w' : World} (h : Below w.heap.size w w') : StaysR w w' := fun i x hi _ => by rw [h.block i (lt_of_heap hi)]; exact hi
theorem StaysR.grown {a w w' : World} {row : Option Nat} (h : StaysR a w) (hg : w.grownBy w' row) (hr : ∀ k, row = some k → ∃ o, w.heap[k]? = some o ∧ refObj o = true) : StaysR a w' := fun i x hi ho => by
  have h1 := h i x hi ho
  rw [hg.block i (lt_of_heap h1) (fun e => by obtain ⟨o, e1, e2⟩ := hr i e.symm; rw [h1] at e1; cases e1; rw [ho] at e2; cases e2)]; exact h1
theorem StaysR.setCell {a w : World} (h : StaysR a w) {p : Addr} (hp : ∃ o, w.heap[p.block]? = some o ∧ refObj o = true) (u : Value) : StaysR a (w.setCell p u) := fun i x hi ho => by
  have h1 := h i x hi ho
  rw [Below.heap_setCell _ _ _ _ (fun e => by subst e; obtain ⟨o, e1, e2⟩ := hp; rw [h1] at e1; cases e1; rw [ho] at e2; cases e2)]; exact h1
theorem Turned.staysR {w w' : World} {b : Nat} {cs : Array Value} {t : TypeId} (h : Turned w w' b cs t) (hb : ∃ o, w.heap[b]? = some o ∧ refObj o = true) : StaysR w w' := fun k o hk ho => by
  rw [h.other k (fun e => by subst e; obtain ⟨o', e1, e2⟩ := hb; rw [hk] at e1; cases e1; rw [ho] at e2; cases e2)]; exact hk

theorem RefAt.kept {w w' : World} {B rb : Nat} {s : St} (h : RefAt w B rb s) (hs : ∀ (k : Nat) (o : Obj), w.heap[k]? = some o → diskObj o = false → w'.heap[k]? = some o) : RefAt w' B rb s := by
  obtain ⟨h0, v, ps, h1, h2, h3, h4⟩ := h
  exact ⟨h0, v, ps, hs _ _ h1 rfl, h2, owns_kept h3 (fun g cur hg _ => by rw [hs _ _ hg rfl, hg]), fun p hp => ⟨(h4 p hp).1, hs _ _ (h4 p hp).2 rfl⟩⟩
theorem RefAt.stays {w w' : World} {B rb : Nat} {s : St} (h : RefAt w B rb s) (hs : Stays w w') : RefAt w' B rb s := h.kept hs
theorem RefAt.below {w w' : World} {B rb : Nat} {s : St} (h : RefAt w B rb s) (hb : Below w.heap.size w w') : RefAt w' B rb s := h.kept (Stays.below hb)
theorem RefAt.mono {w : World} {B B' rb : Nat} {s : St} (h : RefAt w B rb s) (hB : B' ≤ B) : RefAt w B' rb s := by
  obtain ⟨h0, v, ps, h1, h2, h3, h4⟩ := h
  exact ⟨Nat.le_trans hB h0, v, ps, h1, h2, owns_mono h3 hB, h4⟩
theorem RefAt.lt {w : World} {B rb : Nat} {s : St} (h : RefAt w B rb s) : rb < w.heap.size := by
  obtain ⟨h0, v, ps, h1, _⟩ := h
  exact lt_of_heap h1
theorem DiskAt.staysR {w w' : World} {B db : Nat} {s : St} (h : DiskAt w B db s) (hs : StaysR w w') : DiskAt w' B db s := by
  obtain ⟨h0, mv, v, h1, h2, h3, h4⟩ := h
  refine ⟨h0, mv, v, hs _ _ h1 rfl, owns_kept h2 (fun g cur hg _ => by rw [hs _ _ hg rfl, hg]), h3, h4.kept (fun mb e => ?_)⟩
  subst e
  obtain ⟨es, c, hm⟩ := h4.block
  rw [hs _ _ hm rfl, hm]
theorem RefAt.cells {w : World} {B rb : Nat} {s : St} (h : RefAt w B rb s) : ∃ v ps, ps.map (·.1) = s.l ∧ w.ownsRow B 57 2 v s.l.length (refRow ps) ∧ (∀ p ∈ ps, p.1.good ∧ w.heap[p.2]? = some (.cells (p.1.d.map cell).toArray 5 (0, 0))) ∧
    w.heap[rb]? = some (.cells #[v, .bool s.down, .bool s.armed, .int .i64 s.left] 30 (0, 0)) ∧ w.cell? ⟨rb, 0, none⟩ = some v ∧ w.cell? ⟨rb, 1, none⟩ = some (.bool s.down) ∧ w.cell? ⟨rb, 2, none⟩ = some (.bool s.armed) ∧ w.cell? ⟨rb, 3, none⟩ = some (.int .i64 s.left) ∧ (∀ j, w.frozen? ⟨rb, j, none⟩ = false) := by
  obtain ⟨h0, v, ps, h1, h2, h3, h4⟩ := h
  exact ⟨v, ps, h2, h3, h4, h1, by simp [cell_of_row w rb _ _ _ _ h1], by simp [cell_of_row w rb _ _ _ _ h1], by simp [cell_of_row w rb _ _ _ _ h1], by simp [cell_of_row w rb _ _ _ _ h1], fun j => frozen_of_row w rb j _ _ h1⟩
/-- Only its own four cells have turned, and of these not the row. -/
theorem RefAt.turned {w w' : World} {B rb : Nat} {s : St} (h : RefAt w B rb s) {v : Value} (c0 : w.cell? ⟨rb, 0, none⟩ = some v) {a d : Bool} {n : Int}
    (ht : Turned w w' rb #[v, .bool d, .bool a, .int .i64 n] 30) : RefAt w' B rb ⟨s.l, a, n, d⟩ ∧ Below B w w' ∧ StaysR w w' := by
  obtain ⟨h0, v', ps, h1, h2, h3, h4⟩ := h
  have e0 : v' = v := by simpa [cell_of_row w rb _ _ _ _ h1] using c0
  subst e0
  refine ⟨⟨h0, v', ps, ht.here, h2, owns_kept h3 (fun g cur hg _ => ht.other g (fun e => by subst e; rw [h1] at hg; cases hg)), fun p hp => ⟨(h4 p hp).1, ?_⟩⟩, ht.below h0, ht.staysR ⟨_, h1, rfl⟩⟩
  rw [ht.other p.2 (fun e => by have := (h4 p hp).2; rw [e, h1] at this; simp at this)]
  exact (h4 p hp).2

/-! ### Up, Arm -/
def upR (s : St) : St := ⟨s.l, false, s.left, false⟩
set_option maxHeartbeats 400000 in
theorem ref_up (w : World) (B rb : Nat) (s : St) (h : RefAt w B rb s) : Calls Try.prog 19 #[.pointer (some ⟨rb, 0, none⟩)] w fun e w' => e = .returned (.int .i64 0) ∧ RefAt w' B rb (upR s) ∧ Below B w w' ∧ StaysR w w' := by
  obtain ⟨v, ps, hps, ho, hgs, hb, c0, c1, c2, c3, hf⟩ := h.cells
  have f1 := hf 1
  have f2 := hf 2
  have HT := Lib.hid (fun w' ht => h.turned c0 (a := false) (d := false) (n := s.left) (w' := w') ht)
  have ht := Turned.refl hb
  clear hps ho hgs hb hf h
  go_enter Try.func19, Try.ntmps19
  go_wp2
  go_ret
  exact ⟨rfl, HT.out _ ((ht.setCell 1 (.bool false)).setCell 2 (.bool false))⟩

set_option maxHeartbeats 400000 in
theorem ref_arm_down (w : World) (rb : Nat) (n : Int) (c1 : w.cell? ⟨rb, 1, none⟩ = some (.bool true)) : Calls Try.prog 17 #[.pointer (some ⟨rb, 0, none⟩), .int .i64 n] w fun e w' => e = .returned (.int .i64 5) ∧ w = w' := by
  go_enter Try.func17, Try.ntmps17
  go_wp2
  go_ret
  exact ⟨rfl, rfl⟩
set_option maxHeartbeats 400000 in
theorem ref_arm_low (w : World) (rb : Nat) (n : Int) (hn : n < 0) (c1 : w.cell? ⟨rb, 1, none⟩ = some (.bool false)) : Calls Try.prog 17 #[.pointer (some ⟨rb, 0, none⟩), .int .i64 n] w fun e w' => e = .returned (.int .i64 2) ∧ w = w' := by
  go_enter Try.func17, Try.ntmps17
  go_wp2
  go_ret
  exact ⟨rfl, rfl⟩
set_option maxHeartbeats 400000 in
theorem ref_arm_high (w : World) (rb : Nat) (n : Int) (hn : 1073741824 < n) (c1 : w.cell? ⟨rb, 1, none⟩ = some (.bool false)) : Calls Try.prog 17 #[.pointer (some ⟨rb, 0, none⟩), .int .i64 n] w fun e w' => e = .returned (.int .i64 2) ∧ w = w' := by
  go_enter Try.func17, Try.ntmps17
  go_wp2
  go_ret
  exact ⟨rfl, rfl⟩
set_option maxHeartbeats 400000 in
theorem ref_arm_ok (w : World) (B rb : Nat) (s : St) (n : Int) (h0 : 0 ≤ n) (h1 : n ≤ 1073741824) (h : RefAt w B rb s) (hd : s.down = false) : Calls Try.prog 17 #[.pointer (some ⟨rb, 0, none⟩), .int .i64 n] w fun e w' => e = .returned (.int .i64 0) ∧ RefAt w' B rb ⟨s.l, true, n, false⟩ ∧ Below B w w' ∧ StaysR w w' := by
  obtain ⟨v, ps, hps, ho, hgs, hb, c0, c1, c2, c3, hf⟩ := h.cells
  have f2 := hf 2
  have f3 := hf 3
  rw [hd] at c1 hb
  have HT := Lib.hid (fun w' ht => h.turned c0 (a := true) (d := false) (n := n) (w' := w') ht)
  have ht := Turned.refl hb
  clear hps ho hgs hb hf h hd
  go_enter Try.func17, Try.ntmps17
  go_wp2
  go_ret
  exact ⟨rfl, HT.out _ ((ht.setCell 2 (.bool true)).setCell 3 (.int .i64 n))⟩
theorem ref_arm (w : World) (B rb : Nat) (s : St) (n : Int) (h : RefAt w B rb s) : Calls Try.prog 17 #[.pointer (some ⟨rb, 0, none⟩), .int .i64 n] w fun e w' => e = .returned (.int .i64 (armE s n)) ∧ RefAt w' B rb (armS s n) ∧ Below B w w' ∧ StaysR w w' := by
  obtain ⟨v, ps, hps, ho, hgs, hb, c0, c1, c2, c3, hf⟩ := h.cells
  cases hd : s.down
  · rw [hd] at c1
    by_cases h0 : n < 0
    · refine (ref_arm_low w rb n h0 c1).mono fun e w' ⟨he, hw⟩ => ?_
      subst hw
      simp only [armE, armS, hd, h0, true_or, if_true, Bool.false_eq_true, if_false]
      exact ⟨he, h, Below.refl _ _, StaysR.refl _⟩
    · by_cases h1 : 1073741824 < n
      · refine (ref_arm_high w rb n h1 c1).mono fun e w' ⟨he, hw⟩ => ?_
        subst hw
        simp only [armE, armS, hd, h1, or_true, if_true, Bool.false_eq_true, if_false]
        exact ⟨he, h, Below.refl _ _, StaysR.refl _⟩
      · refine (ref_arm_ok w B rb s n (by omega) (by omega) h hd).mono fun e w' ⟨he, ht⟩ => ?_
        simp only [armE, armS, hd, h0, h1, or_self, Bool.false_eq_true, if_false]
        exact ⟨he, ht⟩
  · rw [hd] at c1
    refine (ref_arm_down w rb n c1).mono fun e w' ⟨he, hw⟩ => ?_
    subst hw
    simp only [armE, armS, hd, if_true]
    exact ⟨he, h, Below.refl _ _, StaysR.refl _⟩

end Go.Proofs.Ytbhdelfiaaodmaa
