/-
  The closure that reads a node: what it answers at every depth. No condition.
-/
import Derived.Test.YtljlijdgocfofaaCBelow
import Derived.StillTailTactics
namespace Go.Proofs.Ytljlijdgocfofaa
open Go.RowKit
open Extern.Stop (cell)

/-- It fails at once. -/
def FailsAt (w : World) (nb b : Nat) (dv : Value) (s : Rd) (e : Ending) (w' : World) : Prop := e = .panicked fell ∧ RdAt w' b dv { s with pos := s.pos, bad := true } ∧ Touched w w' (NbR b nb)
set_option maxRecDepth 100000 in
set_option maxHeartbeats 4000000 in
theorem below_fails (nb rb fb b : Nat) (dv : Value) (depth : Nat) (w : World) (s : Rd) (m : Nat) (h : NodeSt w nb rb fb b dv s m) (hm : m ≤ 200) (hd2 : depth ≤ 1000) (hbad : 40 < depth ∨ 200 < m + 1) :
    Calls Try.prog 64 #[.int .i64 (depth : Int), .pointer (some ⟨nb, 0, none⟩), .pointer (some ⟨rb, 0, none⟩), .pointer (some ⟨fb, 0, none⟩)] w (FailsAt w nb b dv s) := by
  have cn : w.cell? ⟨nb, 0, none⟩ = some (.int .i64 (m : Int)) := by rw [cell_of_row _ _ 0 _ _ _ h.n]; rfl
  have fn : w.frozen? ⟨nb, 0, none⟩ = false := frozen_of_row _ _ _ _ _ h.n
  have hnl := lt_of_heap h.n
  have hfit := h.rd.fits
  have hfew := h.rd.few
  have hst : ∀ o o' : Obj, NodeSt (((w.setCell ⟨nb, 0, none⟩ (.int .i64 ((m : Int) + 1))).alloc o).alloc o') nb rb fb b dv s (m + 1) := fun o o' => ((h.count ((m : Int) + 1) (m + 1) (by omega)).alloc o).alloc o'
  have ht0 : ∀ o o' : Obj, Touched w (((w.setCell ⟨nb, 0, none⟩ (.int .i64 ((m : Int) + 1))).alloc o).alloc o') (NbR b nb) := fun o o' => ((Touched.setCell (w := w) (S := NbR b nb) (a := ⟨nb, 0, none⟩) (Or.inr rfl) _).alloc o).alloc o'
  have hr : ∀ o o' : Obj, (((w.setCell ⟨nb, 0, none⟩ (.int .i64 ((m : Int) + 1))).alloc o).alloc o').cell? ⟨rb, 0, none⟩ = some (.pointer (some ⟨b, 0, none⟩)) := fun o o' => by rw [cell_of_row _ _ 0 _ _ _ (hst o o').r]; rfl
  have hp : ∀ o o' : Obj, (((w.setCell ⟨nb, 0, none⟩ (.int .i64 ((m : Int) + 1))).alloc o).alloc o').cell? ⟨b, 1, none⟩ = some (.int .i64 (s.pos : Int)) := fun o o' => (hst o o').rd.cells.2.1
  have r0 := hr (.cells #[.int .i64 (depth : Int)] 3) (.cells zeroN 25)
  have q0 := hp (.cells #[.int .i64 (depth : Int)] 3) (.cells zeroN 25)
  have hst0 := hst (.cells #[.int .i64 (depth : Int)] 3) (.cells zeroN 25)
  have ht00 := ht0 (.cells #[.int .i64 (depth : Int)] 3) (.cells zeroN 25)
  obtain ⟨W, hW⟩ : ∃ W, W = (((w.setCell ⟨nb, 0, none⟩ (.int .i64 ((m : Int) + 1))).alloc (.cells #[.int .i64 (depth : Int)] 3)).alloc (.cells zeroN 25)).drew := ⟨_, rfl⟩
  have HW := Lib.hid hW
  have HF : Hid (Calls Try.prog 65 #[.pointer (some ⟨b, 0, none⟩), .int .i64 (s.pos : Int)] W (FellC W b dv s s.pos)) := Lib.hid (fail_any _ b dv s (by rw [hW]; exact hst0.rd.drew) s.pos hfit)
  have HT : Hid (Touched w W (NbR b nb)) := Lib.hid (by rw [hW]; exact ht00.drew)
  have r1 : W.cell? ⟨rb, 0, none⟩ = some (.pointer (some ⟨b, 0, none⟩)) := by rw [hW]; exact r0
  have q1 : W.cell? ⟨b, 1, none⟩ = some (.int .i64 (s.pos : Int)) := by rw [hW]; exact q0
  clear h hst ht0 hr hp hfit hfew hst0 ht00 hW r0 q0
  by_cases h40 : 40 < depth
  · have h40' : (40 : Int) < (depth : Int) := by omega
    clear hbad h40
    go_enter Try.func64, Try.ntmps64
    go_wp2_with fail
    refine wp_region_still_tail 5 (by kernel_rfl) (by kernel_rfl) ?_
    simp only [List.take_succ_cons, List.take_zero, List.drop_succ_cons, List.drop_zero]
    rw [show ({ (((w.setCell ⟨nb, 0, none⟩ (.int .i64 ((m : Int) + 1))).alloc (.cells #[.int .i64 (depth : Int)] 3)).alloc (.cells zeroN 25)) with drawn := (((w.setCell ⟨nb, 0, none⟩ (.int .i64 ((m : Int) + 1))).alloc (.cells #[.int .i64 (depth : Int)] 3)).alloc (.cells zeroN 25)).drawn + 1 } : World) = W from HW.out.symm]
    repeat still_step
    try refine wpStill_nil ?_
    go_wp2_with (go_at_call 65; refine HF.out.mono ?_; rintro e w4 ⟨rfl, h1, h2⟩)
    exact ⟨rfl, rfl, h1, HT.out.trans h2 (fun k hk => Or.inl (Or.inl hk))⟩
  · have h40' : ¬ (40 : Int) < (depth : Int) := by omega
    have h200 : (200 : Int) < (m : Int) + 1 := by omega
    clear hbad h40
    go_enter Try.func64, Try.ntmps64
    go_wp2_with fail
    refine wp_region_still_tail 5 (by kernel_rfl) (by kernel_rfl) ?_
    simp only [List.take_succ_cons, List.take_zero, List.drop_succ_cons, List.drop_zero]
    rw [show ({ (((w.setCell ⟨nb, 0, none⟩ (.int .i64 ((m : Int) + 1))).alloc (.cells #[.int .i64 (depth : Int)] 3)).alloc (.cells zeroN 25)) with drawn := (((w.setCell ⟨nb, 0, none⟩ (.int .i64 ((m : Int) + 1))).alloc (.cells #[.int .i64 (depth : Int)] 3)).alloc (.cells zeroN 25)).drawn + 1 } : World) = W from HW.out.symm]
    repeat still_step
    try refine wpStill_nil ?_
    go_wp2_with (go_at_call 65; refine HF.out.mono ?_; rintro e w4 ⟨rfl, h1, h2⟩)
    exact ⟨rfl, rfl, h1, HT.out.trans h2 (fun k hk => Or.inl (Or.inl hk))⟩
end Go.Proofs.Ytljlijdgocfofaa
