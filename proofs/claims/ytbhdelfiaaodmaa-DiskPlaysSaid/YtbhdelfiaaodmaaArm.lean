/-
  What Arm and Up do. No condition but that a disk lies where it is said to lie.
-/
import Derived.Test.YtbhdelfiaaodmaaSmall
namespace Go.Proofs.Ytbhdelfiaaodmaa
open Go.RowKit

set_option maxHeartbeats 400000 in
theorem up_nil (w : World) : Calls Try.prog 18 #[.pointer none] w fun e w' => e = .returned (.int .i64 1) ∧ w = w' := by
  go_enter Try.func18, Try.ntmps18
  go_wp2
  go_ret
  exact ⟨rfl, rfl⟩

set_option maxHeartbeats 400000 in
theorem up_cells (w : World) (db : Nat) (mv v : Value) (a d : Bool) (n : Int) (hb : w.heap[db]? = some (.cells #[mv, v, .bool a, .int .i64 n, .bool d] 49 (0, 0))) :
    Calls Try.prog 18 #[.pointer (some ⟨db, 0, none⟩)] w fun e w' => e = .returned (.int .i64 0) ∧ Turned w w' db #[mv, v, .bool false, .int .i64 0, .bool false] 49 := by
  have c2 : w.cell? ⟨db, 2, none⟩ = some (.bool a) := by simp [cell_of_row w db _ _ _ _ hb]
  have c3 : w.cell? ⟨db, 3, none⟩ = some (.int .i64 n) := by simp [cell_of_row w db _ _ _ _ hb]
  have c4 : w.cell? ⟨db, 4, none⟩ = some (.bool d) := by simp [cell_of_row w db _ _ _ _ hb]
  have f2 : w.frozen? ⟨db, 2, none⟩ = false := frozen_of_row w db 2 _ _ hb
  have f3 : w.frozen? ⟨db, 3, none⟩ = false := frozen_of_row w db 3 _ _ hb
  have f4 : w.frozen? ⟨db, 4, none⟩ = false := frozen_of_row w db 4 _ _ hb
  have ht := Turned.refl hb
  clear hb
  go_enter Try.func18, Try.ntmps18
  go_wp2
  go_ret
  exact ⟨rfl, ((ht.setCell 4 (.bool false)).setCell 2 (.bool false)).setCell 3 (.int .i64 0)⟩

theorem up_any (w : World) (B db : Nat) (s : St) (h : DiskAt w B db s) : Calls Try.prog 18 #[.pointer (some ⟨db, 0, none⟩)] w fun e w' => e = .returned (.int .i64 0) ∧ DiskAt w' B db ⟨s.l, false, 0, false⟩ ∧ Below B w w' ∧ Stays w w' := by
  obtain ⟨mv, v, hm, ho, c0, c1, c2, c3, c4, hf⟩ := h.cells
  exact (up_cells w db mv v _ _ _ (h.cellsAt c0 c1)).mono fun e w' ⟨he, ht⟩ => ⟨he, h.turned c0 c1 ht⟩

set_option maxHeartbeats 400000 in
theorem arm_nil (w : World) (n : Int) : Calls Try.prog 16 #[.pointer none, .int .i64 n] w fun e w' => e = .returned (.int .i64 1) ∧ w = w' := by
  go_enter Try.func16, Try.ntmps16
  go_wp2_with (go_at_call 22; refine (ready_nil _).mono ?_; rintro e w' ⟨rfl, rfl⟩)
  go_ret
  exact ⟨rfl, rfl⟩

set_option maxHeartbeats 400000 in
theorem arm_down (w : World) (db : Nat) (n : Int) (c4 : w.cell? ⟨db, 4, none⟩ = some (.bool true)) : Calls Try.prog 16 #[.pointer (some ⟨db, 0, none⟩), .int .i64 n] w fun e w' => e = .returned (.int .i64 5) ∧ w = w' := by
  go_enter Try.func16, Try.ntmps16
  go_wp2_with (go_at_call 22; refine (ready_down _ _ c4).mono ?_; rintro e w' ⟨rfl, rfl⟩)
  go_ret
  exact ⟨rfl, rfl⟩

set_option maxHeartbeats 400000 in
theorem arm_low (w : World) (db : Nat) (n : Int) (hn : n < 0) (c4 : w.cell? ⟨db, 4, none⟩ = some (.bool false)) : Calls Try.prog 16 #[.pointer (some ⟨db, 0, none⟩), .int .i64 n] w fun e w' => e = .returned (.int .i64 2) ∧ w = w' := by
  go_enter Try.func16, Try.ntmps16
  go_wp2_with (go_at_call 22; refine (ready_up _ _ c4).mono ?_; rintro e w' ⟨rfl, rfl⟩)
  go_ret
  exact ⟨rfl, rfl⟩

set_option maxHeartbeats 400000 in
theorem arm_high (w : World) (db : Nat) (n : Int) (hn : 1073741824 < n) (c4 : w.cell? ⟨db, 4, none⟩ = some (.bool false)) : Calls Try.prog 16 #[.pointer (some ⟨db, 0, none⟩), .int .i64 n] w fun e w' => e = .returned (.int .i64 2) ∧ w = w' := by
  go_enter Try.func16, Try.ntmps16
  go_wp2_with (go_at_call 22; refine (ready_up _ _ c4).mono ?_; rintro e w' ⟨rfl, rfl⟩)
  go_ret
  exact ⟨rfl, rfl⟩

set_option maxHeartbeats 400000 in
theorem arm_cells (w : World) (db : Nat) (n : Int) (h0 : 0 ≤ n) (h1 : n ≤ 1073741824) (mv v : Value) (a : Bool) (n0 : Int) (hb : w.heap[db]? = some (.cells #[mv, v, .bool a, .int .i64 n0, .bool false] 49 (0, 0))) :
    Calls Try.prog 16 #[.pointer (some ⟨db, 0, none⟩), .int .i64 n] w fun e w' => e = .returned (.int .i64 0) ∧ Turned w w' db #[mv, v, .bool true, .int .i64 n, .bool false] 49 := by
  have c2 : w.cell? ⟨db, 2, none⟩ = some (.bool a) := by simp [cell_of_row w db _ _ _ _ hb]
  have c3 : w.cell? ⟨db, 3, none⟩ = some (.int .i64 n0) := by simp [cell_of_row w db _ _ _ _ hb]
  have c4 : w.cell? ⟨db, 4, none⟩ = some (.bool false) := by simp [cell_of_row w db _ _ _ _ hb]
  have f2 : w.frozen? ⟨db, 2, none⟩ = false := frozen_of_row w db 2 _ _ hb
  have f3 : w.frozen? ⟨db, 3, none⟩ = false := frozen_of_row w db 3 _ _ hb
  have ht := Turned.refl hb
  clear hb
  go_enter Try.func16, Try.ntmps16
  go_wp2_with (go_at_call 22; refine (ready_up _ _ c4).mono ?_; rintro e w' ⟨rfl, rfl⟩)
  go_ret
  exact ⟨rfl, (ht.setCell 2 (.bool true)).setCell 3 (.int .i64 n)⟩

/-- What Arm answers. -/
def armE (s : St) (n : Int) : Int := if s.down then 5 else if n < 0 ∨ 1073741824 < n then 2 else 0
def armS (s : St) (n : Int) : St := if s.down then s else if n < 0 ∨ 1073741824 < n then s else ⟨s.l, true, n, false⟩

theorem arm_any (w : World) (B db : Nat) (s : St) (n : Int) (h : DiskAt w B db s) : Calls Try.prog 16 #[.pointer (some ⟨db, 0, none⟩), .int .i64 n] w fun e w' => e = .returned (.int .i64 (armE s n)) ∧ DiskAt w' B db (armS s n) ∧ Below B w w' ∧ Stays w w' := by
  obtain ⟨mv, v, hm, ho, c0, c1, c2, c3, c4, hf⟩ := h.cells
  have hb := h.cellsAt c0 c1
  cases hd : s.down
  · rw [hd] at c4 hb
    by_cases h0 : n < 0
    · refine (arm_low w db n h0 c4).mono fun e w' ⟨he, hw⟩ => ?_
      subst hw
      simp only [armE, armS, hd, h0, true_or, if_true, Bool.false_eq_true, if_false]
      exact ⟨he, h, Below.refl _ _, Stays.refl _⟩
    · by_cases h1 : 1073741824 < n
      · refine (arm_high w db n h1 c4).mono fun e w' ⟨he, hw⟩ => ?_
        subst hw
        simp only [armE, armS, hd, h1, or_true, if_true, Bool.false_eq_true, if_false]
        exact ⟨he, h, Below.refl _ _, Stays.refl _⟩
      · refine (arm_cells w db n (by omega) (by omega) mv v _ _ hb).mono fun e w' ⟨he, ht⟩ => ?_
        simp only [armE, armS, hd, h0, h1, or_self, Bool.false_eq_true, if_false]
        exact ⟨he, h.turned c0 c1 ht⟩
  · rw [hd] at c4
    refine (arm_down w db n c4).mono fun e w' ⟨he, hw⟩ => ?_
    subst hw
    simp only [armE, armS, hd, if_true]
    exact ⟨he, h, Below.refl _ _, Stays.refl _⟩

end Go.Proofs.Ytbhdelfiaaodmaa
