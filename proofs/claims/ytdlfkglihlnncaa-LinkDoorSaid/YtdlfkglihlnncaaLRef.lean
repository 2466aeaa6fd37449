/-
  The document's door: what becomes of a message, and what is told of a client. No condition.
-/
import Derived.Test.YtdlfkglihlnncaaLTakeD
namespace Go.Proofs.Ytdlfkglihlnncaa
open Go.RowKit
open Go.Maps
set_option linter.unusedVariables false
set_option linter.unusedSimpArgs false

theorem rnew_yes (w : World) (n : Int) (h : bootB n = true) : Calls Try.prog 6 #[.int .i64 n] w (fun e w' => e = .returned (.tuple #[.pointer (some ⟨w.heap.size, 0, none⟩), .int .i64 0]) ∧ w' = w.alloc (.cells (refC n fun _ => 0) 51)) := by
  unfold bootB at h
  simp only [Bool.and_eq_true, decide_eq_true_eq] at h
  obtain ⟨h1, h2⟩ := h
  go_enter Try.func6, Try.ntmps6
  go_wp2_with fail
  go_ret2
  exact ⟨rfl, rfl⟩
theorem rnew_no (w : World) (n : Int) (h : bootB n = false) : Calls Try.prog 6 #[.int .i64 n] w (fun e w' => e = .returned (.tuple #[.pointer none, .int .i64 2]) ∧ w' = w) := by
  unfold bootB at h
  by_cases h1 : 1 ≤ n
  · have h2 : ¬ n ≤ 1125899906842624 := fun h2 => by rw [decide_eq_true h1, decide_eq_true h2] at h; cases h
    go_enter Try.func6, Try.ntmps6
    go_wp2_with fail
    go_ret2
    exact ⟨rfl, rfl⟩
  · go_enter Try.func6, Try.ntmps6
    go_wp2_with fail
    go_ret2
    exact ⟨rfl, rfl⟩
theorem ref_cell {w : World} {rb : Nat} {boot : Int} {g : Int → Int} (h : w.heap[rb]? = some (.cells (refC boot g) 51 (0, 0))) : w.cell? ⟨rb, 0, none⟩ = some (.int .i64 boot) ∧ ∀ k : Nat, k < 9 → w.cell? ⟨rb, 1 + k, none⟩ = some (.int .i64 (g (k : Int))) := by
  refine ⟨by rw [cell_of_row _ _ 0 _ _ _ h]; rfl, fun k hk => ?_⟩
  rw [cell_of_row _ _ (1 + k) _ _ _ h]
  match k, hk with
  | 0, _ => rfl
  | 1, _ => rfl
  | 2, _ => rfl
  | 3, _ => rfl
  | 4, _ => rfl
  | 5, _ => rfl
  | 6, _ => rfl
  | 7, _ => rfl
  | 8, _ => rfl
theorem of_no (w : World) (rb : Nat) (i : Int) (hi : i < 1 ∨ 8 < i) : Calls Try.prog 13 #[.pointer (some ⟨rb, 0, none⟩), .int .i64 i] w (fun e w' => e = .returned (.int .i64 0) ∧ w' = w) := by
  by_cases h1 : i < 1
  · clear hi
    go_enter Try.func13, Try.ntmps13
    go_wp2_with fail
    go_ret
    exact ⟨rfl, rfl⟩
  · have h2 : 8 < i := by omega
    clear hi
    go_enter Try.func13, Try.ntmps13
    go_wp2_with fail
    go_ret
    exact ⟨rfl, rfl⟩
theorem of_1 (w : World) (rb : Nat) (boot : Int) (g : Int → Int) (h : w.heap[rb]? = some (.cells (refC boot g) 51 (0, 0))) : Calls Try.prog 13 #[.pointer (some ⟨rb, 0, none⟩), .int .i64 1] w (fun e w' => e = .returned (.int .i64 (g 1)) ∧ w' = w) := by
  have c : w.cell? ⟨rb, 2, none⟩ = some (.int .i64 (g 1)) := (ref_cell h).2 1 (by decide)
  clear h
  go_enter Try.func13, Try.ntmps13
  go_wp2_with fail
  go_ret
  exact ⟨rfl, rfl⟩
theorem of_2 (w : World) (rb : Nat) (boot : Int) (g : Int → Int) (h : w.heap[rb]? = some (.cells (refC boot g) 51 (0, 0))) : Calls Try.prog 13 #[.pointer (some ⟨rb, 0, none⟩), .int .i64 2] w (fun e w' => e = .returned (.int .i64 (g 2)) ∧ w' = w) := by
  have c : w.cell? ⟨rb, 3, none⟩ = some (.int .i64 (g 2)) := (ref_cell h).2 2 (by decide)
  clear h
  go_enter Try.func13, Try.ntmps13
  go_wp2_with fail
  go_ret
  exact ⟨rfl, rfl⟩
theorem of_3 (w : World) (rb : Nat) (boot : Int) (g : Int → Int) (h : w.heap[rb]? = some (.cells (refC boot g) 51 (0, 0))) : Calls Try.prog 13 #[.pointer (some ⟨rb, 0, none⟩), .int .i64 3] w (fun e w' => e = .returned (.int .i64 (g 3)) ∧ w' = w) := by
  have c : w.cell? ⟨rb, 4, none⟩ = some (.int .i64 (g 3)) := (ref_cell h).2 3 (by decide)
  clear h
  go_enter Try.func13, Try.ntmps13
  go_wp2_with fail
  go_ret
  exact ⟨rfl, rfl⟩
theorem of_4 (w : World) (rb : Nat) (boot : Int) (g : Int → Int) (h : w.heap[rb]? = some (.cells (refC boot g) 51 (0, 0))) : Calls Try.prog 13 #[.pointer (some ⟨rb, 0, none⟩), .int .i64 4] w (fun e w' => e = .returned (.int .i64 (g 4)) ∧ w' = w) := by
  have c : w.cell? ⟨rb, 5, none⟩ = some (.int .i64 (g 4)) := (ref_cell h).2 4 (by decide)
  clear h
  go_enter Try.func13, Try.ntmps13
  go_wp2_with fail
  go_ret
  exact ⟨rfl, rfl⟩
theorem of_5 (w : World) (rb : Nat) (boot : Int) (g : Int → Int) (h : w.heap[rb]? = some (.cells (refC boot g) 51 (0, 0))) : Calls Try.prog 13 #[.pointer (some ⟨rb, 0, none⟩), .int .i64 5] w (fun e w' => e = .returned (.int .i64 (g 5)) ∧ w' = w) := by
  have c : w.cell? ⟨rb, 6, none⟩ = some (.int .i64 (g 5)) := (ref_cell h).2 5 (by decide)
  clear h
  go_enter Try.func13, Try.ntmps13
  go_wp2_with fail
  go_ret
  exact ⟨rfl, rfl⟩
theorem of_6 (w : World) (rb : Nat) (boot : Int) (g : Int → Int) (h : w.heap[rb]? = some (.cells (refC boot g) 51 (0, 0))) : Calls Try.prog 13 #[.pointer (some ⟨rb, 0, none⟩), .int .i64 6] w (fun e w' => e = .returned (.int .i64 (g 6)) ∧ w' = w) := by
  have c : w.cell? ⟨rb, 7, none⟩ = some (.int .i64 (g 6)) := (ref_cell h).2 6 (by decide)
  clear h
  go_enter Try.func13, Try.ntmps13
  go_wp2_with fail
  go_ret
  exact ⟨rfl, rfl⟩
theorem of_7 (w : World) (rb : Nat) (boot : Int) (g : Int → Int) (h : w.heap[rb]? = some (.cells (refC boot g) 51 (0, 0))) : Calls Try.prog 13 #[.pointer (some ⟨rb, 0, none⟩), .int .i64 7] w (fun e w' => e = .returned (.int .i64 (g 7)) ∧ w' = w) := by
  have c : w.cell? ⟨rb, 8, none⟩ = some (.int .i64 (g 7)) := (ref_cell h).2 7 (by decide)
  clear h
  go_enter Try.func13, Try.ntmps13
  go_wp2_with fail
  go_ret
  exact ⟨rfl, rfl⟩
theorem of_8 (w : World) (rb : Nat) (boot : Int) (g : Int → Int) (h : w.heap[rb]? = some (.cells (refC boot g) 51 (0, 0))) : Calls Try.prog 13 #[.pointer (some ⟨rb, 0, none⟩), .int .i64 8] w (fun e w' => e = .returned (.int .i64 (g 8)) ∧ w' = w) := by
  have c : w.cell? ⟨rb, 9, none⟩ = some (.int .i64 (g 8)) := (ref_cell h).2 8 (by decide)
  clear h
  go_enter Try.func13, Try.ntmps13
  go_wp2_with fail
  go_ret
  exact ⟨rfl, rfl⟩
theorem of_any (w : World) (rb : Nat) (boot i : Int) (g : Int → Int) (h : w.heap[rb]? = some (.cells (refC boot g) 51 (0, 0))) (ho : Only g) : Calls Try.prog 13 #[.pointer (some ⟨rb, 0, none⟩), .int .i64 i] w (fun e w' => e = .returned (.int .i64 (g i)) ∧ w' = w) := by
  by_cases hi : i < 1 ∨ 8 < i
  · rw [ho i hi]; exact of_no w rb i hi
  · have hk : i = 1 ∨ i = 2 ∨ i = 3 ∨ i = 4 ∨ i = 5 ∨ i = 6 ∨ i = 7 ∨ i = 8 := by omega
    rcases hk with rfl | rfl | rfl | rfl | rfl | rfl | rfl | rfl
    · exact of_1 w rb boot g h
    · exact of_2 w rb boot g h
    · exact of_3 w rb boot g h
    · exact of_4 w rb boot g h
    · exact of_5 w rb boot g h
    · exact of_6 w rb boot g h
    · exact of_7 w rb boot g h
    · exact of_8 w rb boot g h
def RTakeC (w : World) (rb : Nat) (boot f b s : Int) (g : Int → Int) (e : Ending) (w' : World) : Prop := e = .returned (.tuple #[.bool (takes g f b && (s == boot)), .bool (takes g f b && !(s == boot))]) ∧ w'.heap[rb]? = some (.cells (refC boot (after g f b)) 51 (0, 0)) ∧ Touched w w' (fun q => q = rb)
theorem rtakeC_no {w w' : World} {rb : Nat} {boot f b s : Int} {g : Int → Int} (ht : takes g f b = false) (hr : w.heap[rb]? = some (.cells (refC boot g) 51 (0, 0))) (hb : Below w.heap.size w w') : RTakeC w rb boot f b s g (.returned (.tuple #[.bool false, .bool false])) w' := by
  refine ⟨by rw [ht]; rfl, ?_, Below.touched hb _⟩
  unfold after
  rw [ht, if_neg (by simp)]
  exact (hb.block _ (lt_of_heap hr)).trans hr
set_option maxRecDepth 100000 in
set_option maxHeartbeats 4000000 in
theorem rtake_low (w : World) (rb : Nat) (boot a0 a1 a2 a3 a4 a5 a6 a7 a8 a9 a10 : Int) (c11 c12 c13 c14 c15 : Value) (g : Int → Int) (h : w.heap[rb]? = some (.cells (refC boot g) 51 (0, 0))) (h1 : a1 < 1) :
    Calls Try.prog 12 #[.pointer (some ⟨rb, 0, none⟩), .agg #[.int .i8 a0, .int .i64 a1, .int .i64 a2, .int .i64 a3, .int .i64 a4, .int .i64 a5, .int .i64 a6, .int .i64 a7, .int .i64 a8, .int .i64 a9, .int .i64 a10, c11, c12, c13, c14, c15]] w (RTakeC w rb boot a1 a3 a4 g) := by
  obtain ⟨B, hB⟩ : ∃ B, B = w.alloc (.cells #[.int .i8 a0, .int .i64 a1, .int .i64 a2, .int .i64 a3, .int .i64 a4, .int .i64 a5, .int .i64 a6, .int .i64 a7, .int .i64 a8, .int .i64 a9, .int .i64 a10, c11, c12, c13, c14, c15] 39) := ⟨_, rfl⟩
  have bB : Below w.heap.size w B := by rw [hB]; exact (Below.refl _ _).alloc (Nat.le_refl _) _
  have eB : B.heap[w.heap.size]? = some (.cells #[.int .i8 a0, .int .i64 a1, .int .i64 a2, .int .i64 a3, .int .i64 a4, .int .i64 a5, .int .i64 a6, .int .i64 a7, .int .i64 a8, .int .i64 a9, .int .i64 a10, c11, c12, c13, c14, c15] 39 (0, 0)) := by rw [hB]; exact heap_alloc_new _ _
  have c1 : B.cell? ⟨w.heap.size, 1, none⟩ = some (.int .i64 a1) := by rw [cell_of_row _ _ 1 _ _ _ eB]; rfl
  have c3 : B.cell? ⟨w.heap.size, 3, none⟩ = some (.int .i64 a3) := by rw [cell_of_row _ _ 3 _ _ _ eB]; rfl
  have c4 : B.cell? ⟨w.heap.size, 4, none⟩ = some (.int .i64 a4) := by rw [cell_of_row _ _ 4 _ _ _ eB]; rfl
  have hr := (bB.block _ (lt_of_heap h)).trans h
  have HE := Lib.hid (rtakeC_no (s := a4) (boot := boot) (show takes g a1 a3 = false from by unfold takes; rw [decide_eq_false (show ¬ 1 ≤ a1 by omega)]; rfl) h bB)
  have HB := Lib.hid hB
  clear h hr bB eB hB c4
  have hd := decide_eq_true h1
  go_enter Try.func12, Try.ntmps12
  go_upto_region 1 with fail
  change Code.wp _ _ _ _ (w.alloc (.cells #[.int .i8 a0, .int .i64 a1, .int .i64 a2, .int .i64 a3, .int .i64 a4, .int .i64 a5, .int .i64 a6, .int .i64 a7, .int .i64 a8, .int .i64 a9, .int .i64 a10, c11, c12, c13, c14, c15] 39))
  rw [← HB.out]
  go_wp2_with (go_quiet (fail))
  go_ret2
  exact ⟨HE.out.1, HE.out.2.1, HE.out.2.2.drewN _⟩
set_option maxRecDepth 100000 in
set_option maxHeartbeats 4000000 in
theorem rtake_high (w : World) (rb : Nat) (boot a0 a1 a2 a3 a4 a5 a6 a7 a8 a9 a10 : Int) (c11 c12 c13 c14 c15 : Value) (g : Int → Int) (h : w.heap[rb]? = some (.cells (refC boot g) 51 (0, 0))) (h1 : ¬ a1 < 1) (h2 : 8 < a1) :
    Calls Try.prog 12 #[.pointer (some ⟨rb, 0, none⟩), .agg #[.int .i8 a0, .int .i64 a1, .int .i64 a2, .int .i64 a3, .int .i64 a4, .int .i64 a5, .int .i64 a6, .int .i64 a7, .int .i64 a8, .int .i64 a9, .int .i64 a10, c11, c12, c13, c14, c15]] w (RTakeC w rb boot a1 a3 a4 g) := by
  obtain ⟨B, hB⟩ : ∃ B, B = w.alloc (.cells #[.int .i8 a0, .int .i64 a1, .int .i64 a2, .int .i64 a3, .int .i64 a4, .int .i64 a5, .int .i64 a6, .int .i64 a7, .int .i64 a8, .int .i64 a9, .int .i64 a10, c11, c12, c13, c14, c15] 39) := ⟨_, rfl⟩
  have bB : Below w.heap.size w B := by rw [hB]; exact (Below.refl _ _).alloc (Nat.le_refl _) _
  have eB : B.heap[w.heap.size]? = some (.cells #[.int .i8 a0, .int .i64 a1, .int .i64 a2, .int .i64 a3, .int .i64 a4, .int .i64 a5, .int .i64 a6, .int .i64 a7, .int .i64 a8, .int .i64 a9, .int .i64 a10, c11, c12, c13, c14, c15] 39 (0, 0)) := by rw [hB]; exact heap_alloc_new _ _
  have c1 : B.cell? ⟨w.heap.size, 1, none⟩ = some (.int .i64 a1) := by rw [cell_of_row _ _ 1 _ _ _ eB]; rfl
  have c3 : B.cell? ⟨w.heap.size, 3, none⟩ = some (.int .i64 a3) := by rw [cell_of_row _ _ 3 _ _ _ eB]; rfl
  have c4 : B.cell? ⟨w.heap.size, 4, none⟩ = some (.int .i64 a4) := by rw [cell_of_row _ _ 4 _ _ _ eB]; rfl
  have hr := (bB.block _ (lt_of_heap h)).trans h
  have HE := Lib.hid (rtakeC_no (s := a4) (boot := boot) (show takes g a1 a3 = false from by unfold takes; rw [decide_eq_false (show ¬ a1 ≤ 8 by omega)]; simp) h bB)
  have HB := Lib.hid hB
  clear h hr bB eB hB c4
  have hd := decide_eq_false h1; have hd2 := decide_eq_true h2
  go_enter Try.func12, Try.ntmps12
  go_upto_region 1 with fail
  change Code.wp _ _ _ _ (w.alloc (.cells #[.int .i8 a0, .int .i64 a1, .int .i64 a2, .int .i64 a3, .int .i64 a4, .int .i64 a5, .int .i64 a6, .int .i64 a7, .int .i64 a8, .int .i64 a9, .int .i64 a10, c11, c12, c13, c14, c15] 39))
  rw [← HB.out]
  go_wp2_with (go_quiet (fail))
  go_ret2
  exact ⟨HE.out.1, HE.out.2.1, HE.out.2.2.drewN _⟩
set_option maxRecDepth 100000 in
set_option maxHeartbeats 4000000 in
theorem rtake_none (w : World) (rb : Nat) (boot a0 a1 a2 a3 a4 a5 a6 a7 a8 a9 a10 : Int) (c11 c12 c13 c14 c15 : Value) (g : Int → Int) (h : w.heap[rb]? = some (.cells (refC boot g) 51 (0, 0))) (h1 : ¬ a1 < 1) (h2 : ¬ 8 < a1) (h3 : a3 < 1) :
    Calls Try.prog 12 #[.pointer (some ⟨rb, 0, none⟩), .agg #[.int .i8 a0, .int .i64 a1, .int .i64 a2, .int .i64 a3, .int .i64 a4, .int .i64 a5, .int .i64 a6, .int .i64 a7, .int .i64 a8, .int .i64 a9, .int .i64 a10, c11, c12, c13, c14, c15]] w (RTakeC w rb boot a1 a3 a4 g) := by
  obtain ⟨B, hB⟩ : ∃ B, B = w.alloc (.cells #[.int .i8 a0, .int .i64 a1, .int .i64 a2, .int .i64 a3, .int .i64 a4, .int .i64 a5, .int .i64 a6, .int .i64 a7, .int .i64 a8, .int .i64 a9, .int .i64 a10, c11, c12, c13, c14, c15] 39) := ⟨_, rfl⟩
  have bB : Below w.heap.size w B := by rw [hB]; exact (Below.refl _ _).alloc (Nat.le_refl _) _
  have eB : B.heap[w.heap.size]? = some (.cells #[.int .i8 a0, .int .i64 a1, .int .i64 a2, .int .i64 a3, .int .i64 a4, .int .i64 a5, .int .i64 a6, .int .i64 a7, .int .i64 a8, .int .i64 a9, .int .i64 a10, c11, c12, c13, c14, c15] 39 (0, 0)) := by rw [hB]; exact heap_alloc_new _ _
  have c1 : B.cell? ⟨w.heap.size, 1, none⟩ = some (.int .i64 a1) := by rw [cell_of_row _ _ 1 _ _ _ eB]; rfl
  have c3 : B.cell? ⟨w.heap.size, 3, none⟩ = some (.int .i64 a3) := by rw [cell_of_row _ _ 3 _ _ _ eB]; rfl
  have c4 : B.cell? ⟨w.heap.size, 4, none⟩ = some (.int .i64 a4) := by rw [cell_of_row _ _ 4 _ _ _ eB]; rfl
  have hr := (bB.block _ (lt_of_heap h)).trans h
  have HE := Lib.hid (rtakeC_no (s := a4) (boot := boot) (show takes g a1 a3 = false from by unfold takes; rw [decide_eq_false (show ¬ 1 ≤ a3 by omega)]; simp) h bB)
  have HB := Lib.hid hB
  clear h hr bB eB hB c4
  have hd := decide_eq_false h1; have hd2 := decide_eq_false h2; have hd3 := decide_eq_true h3
  go_enter Try.func12, Try.ntmps12
  go_upto_region 1 with fail
  change Code.wp _ _ _ _ (w.alloc (.cells #[.int .i8 a0, .int .i64 a1, .int .i64 a2, .int .i64 a3, .int .i64 a4, .int .i64 a5, .int .i64 a6, .int .i64 a7, .int .i64 a8, .int .i64 a9, .int .i64 a10, c11, c12, c13, c14, c15] 39))
  rw [← HB.out]
  go_wp2_with (go_quiet (fail))
  go_ret2
  exact ⟨HE.out.1, HE.out.2.1, HE.out.2.2.drewN _⟩
set_option maxRecDepth 100000 in
set_option maxHeartbeats 4000000 in
theorem rtake_less1 (w : World) (rb : Nat) (boot a0 a2 a3 a4 a5 a6 a7 a8 a9 a10 : Int) (c11 c12 c13 c14 c15 : Value) (g : Int → Int) (h : w.heap[rb]? = some (.cells (refC boot g) 51 (0, 0))) (h3 : ¬ a3 < 1) (h4 : a3 < g 1) :
    Calls Try.prog 12 #[.pointer (some ⟨rb, 0, none⟩), .agg #[.int .i8 a0, .int .i64 1, .int .i64 a2, .int .i64 a3, .int .i64 a4, .int .i64 a5, .int .i64 a6, .int .i64 a7, .int .i64 a8, .int .i64 a9, .int .i64 a10, c11, c12, c13, c14, c15]] w (RTakeC w rb boot 1 a3 a4 g) := by
  obtain ⟨B, hB⟩ : ∃ B, B = w.alloc (.cells #[.int .i8 a0, .int .i64 1, .int .i64 a2, .int .i64 a3, .int .i64 a4, .int .i64 a5, .int .i64 a6, .int .i64 a7, .int .i64 a8, .int .i64 a9, .int .i64 a10, c11, c12, c13, c14, c15] 39) := ⟨_, rfl⟩
  have bB : Below w.heap.size w B := by rw [hB]; exact (Below.refl _ _).alloc (Nat.le_refl _) _
  have eB : B.heap[w.heap.size]? = some (.cells #[.int .i8 a0, .int .i64 1, .int .i64 a2, .int .i64 a3, .int .i64 a4, .int .i64 a5, .int .i64 a6, .int .i64 a7, .int .i64 a8, .int .i64 a9, .int .i64 a10, c11, c12, c13, c14, c15] 39 (0, 0)) := by rw [hB]; exact heap_alloc_new _ _
  have c1 : B.cell? ⟨w.heap.size, 1, none⟩ = some (.int .i64 1) := by rw [cell_of_row _ _ 1 _ _ _ eB]; rfl
  have c3 : B.cell? ⟨w.heap.size, 3, none⟩ = some (.int .i64 a3) := by rw [cell_of_row _ _ 3 _ _ _ eB]; rfl
  have c4 : B.cell? ⟨w.heap.size, 4, none⟩ = some (.int .i64 a4) := by rw [cell_of_row _ _ 4 _ _ _ eB]; rfl
  have hr := (bB.block _ (lt_of_heap h)).trans h
  have ck : B.cell? ⟨rb, 2, none⟩ = some (.int .i64 (g 1)) := (ref_cell hr).2 1 (by decide)
  have HE := Lib.hid (rtakeC_no (s := a4) (boot := boot) (show takes g 1 a3 = false by unfold takes; rw [decide_eq_false (show ¬ g 1 ≤ a3 by omega)]; simp) h bB)
  have HB := Lib.hid hB
  clear h hr bB eB hB c4
  have hd3 := decide_eq_false h3; have hd4 := decide_eq_true h4
  go_enter Try.func12, Try.ntmps12
  go_upto_region 1 with fail
  change Code.wp _ _ _ _ (w.alloc (.cells #[.int .i8 a0, .int .i64 1, .int .i64 a2, .int .i64 a3, .int .i64 a4, .int .i64 a5, .int .i64 a6, .int .i64 a7, .int .i64 a8, .int .i64 a9, .int .i64 a10, c11, c12, c13, c14, c15] 39))
  rw [← HB.out]
  go_wp2_with (go_quiet (fail))
  go_ret2
  exact ⟨HE.out.1, HE.out.2.1, HE.out.2.2.drewN _⟩
set_option maxRecDepth 100000 in
set_option maxHeartbeats 4000000 in
theorem rtake_hit1 (w : World) (rb : Nat) (boot a0 a2 a3 a4 a5 a6 a7 a8 a9 a10 : Int) (c11 c12 c13 c14 c15 : Value) (g : Int → Int) (h : w.heap[rb]? = some (.cells (refC boot g) 51 (0, 0))) (h3 : ¬ a3 < 1) (h4 : ¬ a3 < g 1) :
    Calls Try.prog 12 #[.pointer (some ⟨rb, 0, none⟩), .agg #[.int .i8 a0, .int .i64 1, .int .i64 a2, .int .i64 a3, .int .i64 a4, .int .i64 a5, .int .i64 a6, .int .i64 a7, .int .i64 a8, .int .i64 a9, .int .i64 a10, c11, c12, c13, c14, c15]] w (RTakeC w rb boot 1 a3 a4 g) := by
  obtain ⟨B, hB⟩ : ∃ B, B = w.alloc (.cells #[.int .i8 a0, .int .i64 1, .int .i64 a2, .int .i64 a3, .int .i64 a4, .int .i64 a5, .int .i64 a6, .int .i64 a7, .int .i64 a8, .int .i64 a9, .int .i64 a10, c11, c12, c13, c14, c15] 39) := ⟨_, rfl⟩
  have bB : Below w.heap.size w B := by rw [hB]; exact (Below.refl _ _).alloc (Nat.le_refl _) _
  have eB : B.heap[w.heap.size]? = some (.cells #[.int .i8 a0, .int .i64 1, .int .i64 a2, .int .i64 a3, .int .i64 a4, .int .i64 a5, .int .i64 a6, .int .i64 a7, .int .i64 a8, .int .i64 a9, .int .i64 a10, c11, c12, c13, c14, c15] 39 (0, 0)) := by rw [hB]; exact heap_alloc_new _ _
  have c1 : B.cell? ⟨w.heap.size, 1, none⟩ = some (.int .i64 1) := by rw [cell_of_row _ _ 1 _ _ _ eB]; rfl
  have c3 : B.cell? ⟨w.heap.size, 3, none⟩ = some (.int .i64 a3) := by rw [cell_of_row _ _ 3 _ _ _ eB]; rfl
  have c4 : B.cell? ⟨w.heap.size, 4, none⟩ = some (.int .i64 a4) := by rw [cell_of_row _ _ 4 _ _ _ eB]; rfl
  have hr := (bB.block _ (lt_of_heap h)).trans h
  have ck : B.cell? ⟨rb, 2, none⟩ = some (.int .i64 (g 1)) := (ref_cell hr).2 1 (by decide)
  have f0 : B.frozen? ⟨rb, 2, none⟩ = false := frozen_of_row _ _ 2 _ _ hr
  obtain ⟨Z, hZ⟩ : ∃ Z, Z = B.setCell ⟨rb, 2, none⟩ (.int .i64 a3) := ⟨_, rfl⟩
  have htk : takes g 1 a3 = true := by unfold takes; rw [decide_eq_true (show 1 ≤ a3 by omega), decide_eq_true (show g 1 ≤ a3 by omega)]; rfl
  have hne : rb ≠ w.heap.size := by have := lt_of_heap h; omega
  have rZ : Z.heap[rb]? = some (.cells (refC boot (after g 1 a3)) 51 (0, 0)) := by
    rw [hZ, heap_setCell_same _ _ 2 _ _ _ hr]
    unfold after updI refC
    rw [htk]
    simp
  have tZ : Touched w Z (fun q => q = rb) := by
    rw [hZ]
    exact (Below.touched bB _).trans (Touched.setCell (S := fun q => q = rb) rfl _) fun q hq => Or.inl hq
  have mZ : Z.heap[w.heap.size]? = some (.cells #[.int .i8 a0, .int .i64 1, .int .i64 a2, .int .i64 a3, .int .i64 a4, .int .i64 a5, .int .i64 a6, .int .i64 a7, .int .i64 a8, .int .i64 a9, .int .i64 a10, c11, c12, c13, c14, c15] 39 (0, 0)) := by
    rw [hZ, Below.heap_setCell _ _ _ _ (fun e => hne e.symm)]; exact eB
  have z0 := (ref_cell rZ).1
  have z4 : Z.cell? ⟨w.heap.size, 4, none⟩ = some (.int .i64 a4) := by rw [cell_of_row _ _ 4 _ _ _ mZ]; rfl
  have HE := Lib.hid (show RTakeC w rb boot 1 a3 a4 g (.returned (.tuple #[.bool (a4 == boot), .bool (!(a4 == boot))])) Z from ⟨by rw [htk]; rfl, rZ, tZ⟩)
  have HB := Lib.hid (And.intro hB hZ)
  have HNE := Lib.hid (fun (e : w.heap.size = rb) => hne e.symm)
  clear h hr bB eB hB c4 htk hne rZ tZ mZ hZ
  have hd3 := decide_eq_false h3; have hd4 := decide_eq_false h4
  go_enter Try.func12, Try.ntmps12
  go_upto_region 1 with fail
  change Code.wp _ _ _ _ (w.alloc (.cells #[.int .i8 a0, .int .i64 1, .int .i64 a2, .int .i64 a3, .int .i64 a4, .int .i64 a5, .int .i64 a6, .int .i64 a7, .int .i64 a8, .int .i64 a9, .int .i64 a10, c11, c12, c13, c14, c15] 39))
  rw [← HB.out.1]
  go_upto_region 3 with (go_quiet (fail))
  have hWh : ((B.drewN (nq + 1)).setCell ⟨rb, 2, none⟩ (.int .i64 a3)).heap = Z.heap := by rw [HB.out.2]; rfl
  have y0 := (World.cell?_of_block (a := ⟨rb, 0, none⟩) (by rw [hWh])).trans z0
  have y4 := (World.cell?_of_block (a := ⟨w.heap.size, 4, none⟩) (by rw [hWh])).trans z4
  have tW : Touched w ((B.drewN (nq + 1)).setCell ⟨rb, 2, none⟩ (.int .i64 a3)) (fun q => q = rb) := by
    have h := HE.out.2.2
    rw [HB.out.2] at h
    exact ⟨h.os, h.tape, h.output, h.size, h.block⟩
  have rW : ((B.drewN (nq + 1)).setCell ⟨rb, 2, none⟩ (.int .i64 a3)).heap[rb]? = some (.cells (refC boot (after g 1 a3)) 51 (0, 0)) := by rw [hWh]; exact HE.out.2.1
  have HF := Lib.hid (And.intro HE.out.1 (And.intro rW tW))
  obtain ⟨SW, hSW⟩ : ∃ SW : World → Prop, SW = fun Z => Z.cell? ⟨w.heap.size, 1, none⟩ = some (.int .i64 1) ∧ Z.cell? ⟨w.heap.size, 3, none⟩ = some (.int .i64 a3) := ⟨_, rfl⟩
  have HSW := Lib.hid (fun (Z : World) (h : SW Z) => (show Z.cell? ⟨w.heap.size, 1, none⟩ = some (.int .i64 1) ∧ Z.cell? ⟨w.heap.size, 3, none⟩ = some (.int .i64 a3) by rw [hSW] at h; exact h))
  have hS0 : SW (B.drewN nq).drew := by rw [hSW]; exact ⟨c1, c3⟩
  have hS3 : SW ((B.drewN (nq + 1)).setCell ⟨rb, 2, none⟩ (.int .i64 a3)) := by
    rw [hSW]
    exact ⟨(World.cell?_of_block (a := ⟨w.heap.size, 1, none⟩) (Below.heap_setCell _ _ _ _ HNE.out)).trans c1, (World.cell?_of_block (a := ⟨w.heap.size, 3, none⟩) (Below.heap_setCell _ _ _ _ HNE.out)).trans c3⟩
  have HS3 := Lib.hid hS3
  have d5 : (B.drewN (nq + 1)).cell? ⟨rb, 2, none⟩ = some (.int .i64 (g 1)) := ck
  have d6 : (B.drewN (nq + 1)).frozen? ⟨rb, 2, none⟩ = false := f0
  clear hSW hS3 hWh tW rW HE z0 z4 ck f0 c1 c3
  refine wp_calmL ?_
  refine wp_region_held_drew (S := SW) (by kernel_rfl) hS0 (fun hHeld => ?_)
  clear hS0
  refine wpAnyH_take (i := 0) (oi := _) (v := .pointer (some ⟨rb, 0, none⟩)) rfl (by kernel_rfl) (by kernel_rfl) (by kernel_rfl) (fun _ _ _ h => by cases h.1) (Or.inl ⟨by rfl, ?_⟩) (by assumption) ?_
  · clear hHeld; intro X hSw; obtain ⟨q1, q2⟩ := HSW.out X hSw; clear hSw; go_simp
  simp only [Act.put, List.getElem_toArray, List.getElem_cons_zero, List.getElem_cons_succ, List.setIfInBounds_toArray, List.set_cons_zero, List.set_cons_succ]
  refine wpAnyH_take (i := 1) (oi := _) (v := .pointer (some ⟨w.heap.size, 1, none⟩)) rfl (by kernel_rfl) (by kernel_rfl) (by kernel_rfl) (fun _ _ _ h => by cases h.1) (Or.inl ⟨by rfl, ?_⟩) (by assumption) ?_
  · clear hHeld; intro X hSw; obtain ⟨q1, q2⟩ := HSW.out X hSw; clear hSw; go_simp
  simp only [Act.put, List.getElem_toArray, List.getElem_cons_zero, List.getElem_cons_succ, List.setIfInBounds_toArray, List.set_cons_zero, List.set_cons_succ]
  refine wpAnyH_take (i := 2) (oi := _) (v := .int .i64 1) rfl (by kernel_rfl) (by kernel_rfl) (by kernel_rfl) (fun _ _ _ h => by cases h.1) (Or.inl ⟨by rfl, ?_⟩) (by assumption) ?_
  · clear hHeld; intro X hSw; obtain ⟨q1, q2⟩ := HSW.out X hSw; clear hSw; go_simp
  simp only [Act.put, List.getElem_toArray, List.getElem_cons_zero, List.getElem_cons_succ, List.setIfInBounds_toArray, List.set_cons_zero, List.set_cons_succ]
  refine wpAnyH_take (i := 3) (oi := _) (v := .pointer (some ⟨w.heap.size, 3, none⟩)) rfl (by kernel_rfl) (by kernel_rfl) (by kernel_rfl) (fun _ _ _ h => by cases h.1) (Or.inl ⟨by rfl, ?_⟩) (by assumption) ?_
  · clear hHeld; intro X hSw; obtain ⟨q1, q2⟩ := HSW.out X hSw; clear hSw; go_simp
  simp only [Act.put, List.getElem_toArray, List.getElem_cons_zero, List.getElem_cons_succ, List.setIfInBounds_toArray, List.set_cons_zero, List.set_cons_succ]
  refine wpAnyH_take (i := 4) (oi := _) (v := .int .i64 a3) rfl (by kernel_rfl) (by kernel_rfl) (by kernel_rfl) (fun _ _ _ h => by cases h.1) (Or.inl ⟨by rfl, ?_⟩) (by assumption) ?_
  · clear hHeld; intro X hSw; obtain ⟨q1, q2⟩ := HSW.out X hSw; clear hSw; go_simp
  simp only [Act.put, List.getElem_toArray, List.getElem_cons_zero, List.getElem_cons_succ, List.setIfInBounds_toArray, List.set_cons_zero, List.set_cons_succ]
  refine wpAnyH_take (i := 5) (oi := _) (v := .pointer (some ⟨rb, 0, none⟩)) rfl (by kernel_rfl) (by kernel_rfl) (by kernel_rfl) (fun _ _ _ h => by cases h.1) (Or.inl ⟨by rfl, ?_⟩) (by assumption) ?_
  · clear hHeld; intro X hSw; obtain ⟨q1, q2⟩ := HSW.out X hSw; clear hSw; go_simp
  simp only [Act.put, List.getElem_toArray, List.getElem_cons_zero, List.getElem_cons_succ, List.setIfInBounds_toArray, List.set_cons_zero, List.set_cons_succ]
  refine wpAnyH_take (i := 6) (oi := _) (v := .pointer (some ⟨rb, 1, none⟩)) rfl (by kernel_rfl) (by kernel_rfl) (by kernel_rfl) (fun _ _ _ h => by cases h.1) (Or.inl ⟨by rfl, ?_⟩) (by assumption) ?_
  · clear hHeld; intro X hSw; obtain ⟨q1, q2⟩ := HSW.out X hSw; clear hSw; go_simp
  simp only [Act.put, List.getElem_toArray, List.getElem_cons_zero, List.getElem_cons_succ, List.setIfInBounds_toArray, List.set_cons_zero, List.set_cons_succ]
  refine wpAnyH_take (i := 7) (oi := _) (v := .pointer (some ⟨rb, 2, none⟩)) rfl (by kernel_rfl) (by kernel_rfl) (by kernel_rfl) (fun _ _ _ h => by cases h.1) (Or.inl ⟨by rfl, ?_⟩) (by assumption) ?_
  · clear hHeld; intro X hSw; obtain ⟨q1, q2⟩ := HSW.out X hSw; clear hSw; go_simp
  simp only [Act.put, List.getElem_toArray, List.getElem_cons_zero, List.getElem_cons_succ, List.setIfInBounds_toArray, List.set_cons_zero, List.set_cons_succ]
  refine wpAnyH_ready (rs := [8]) (by kernel_rfl) (by simp) ?_
  refine AllReadyH.cons (o := _) rfl (fun K hK => ?_) (AllReadyH.nil)
  rw [if_pos (by rfl)]
  simp only [List.getElem_toArray, List.getElem_cons_zero, List.getElem_cons_succ]
  have HK := Lib.hid hK
  clear hK hHeld
  go_wp2_with fail
  refine HK.out _ _ HS3.out (fun hHeld => ?_)
  clear HK
  refine wpAnyH_done (by kernel_rfl) ?_ _
  clear HSW hHeld d5 d6
  refine ⟨rfl, ?_⟩
  go_wp2_with (go_quiet (fail))
  go_ret2
  exact ⟨HF.out.1, HF.out.2.1, HF.out.2.2.drewN _⟩
set_option maxRecDepth 100000 in
set_option maxHeartbeats 4000000 in
theorem rtake_less2 (w : World) (rb : Nat) (boot a0 a2 a3 a4 a5 a6 a7 a8 a9 a10 : Int) (c11 c12 c13 c14 c15 : Value) (g : Int → Int) (h : w.heap[rb]? = some (.cells (refC boot g) 51 (0, 0))) (h3 : ¬ a3 < 1) (h4 : a3 < g 2) :
    Calls Try.prog 12 #[.pointer (some ⟨rb, 0, none⟩), .agg #[.int .i8 a0, .int .i64 2, .int .i64 a2, .int .i64 a3, .int .i64 a4, .int .i64 a5, .int .i64 a6, .int .i64 a7, .int .i64 a8, .int .i64 a9, .int .i64 a10, c11, c12, c13, c14, c15]] w (RTakeC w rb boot 2 a3 a4 g) := by
  obtain ⟨B, hB⟩ : ∃ B, B = w.alloc (.cells #[.int .i8 a0, .int .i64 2, .int .i64 a2, .int .i64 a3, .int .i64 a4, .int .i64 a5, .int .i64 a6, .int .i64 a7, .int .i64 a8, .int .i64 a9, .int .i64 a10, c11, c12, c13, c14, c15] 39) := ⟨_, rfl⟩
  have bB : Below w.heap.size w B := by rw [hB]; exact (Below.refl _ _).alloc (Nat.le_refl _) _
  have eB : B.heap[w.heap.size]? = some (.cells #[.int .i8 a0, .int .i64 2, .int .i64 a2, .int .i64 a3, .int .i64 a4, .int .i64 a5, .int .i64 a6, .int .i64 a7, .int .i64 a8, .int .i64 a9, .int .i64 a10, c11, c12, c13, c14, c15] 39 (0, 0)) := by rw [hB]; exact heap_alloc_new _ _
  have c1 : B.cell? ⟨w.heap.size, 1, none⟩ = some (.int .i64 2) := by rw [cell_of_row _ _ 1 _ _ _ eB]; rfl
  have c3 : B.cell? ⟨w.heap.size, 3, none⟩ = some (.int .i64 a3) := by rw [cell_of_row _ _ 3 _ _ _ eB]; rfl
  have c4 : B.cell? ⟨w.heap.size, 4, none⟩ = some (.int .i64 a4) := by rw [cell_of_row _ _ 4 _ _ _ eB]; rfl
  have hr := (bB.block _ (lt_of_heap h)).trans h
  have ck : B.cell? ⟨rb, 3, none⟩ = some (.int .i64 (g 2)) := (ref_cell hr).2 2 (by decide)
  have HE := Lib.hid (rtakeC_no (s := a4) (boot := boot) (show takes g 2 a3 = false by unfold takes; rw [decide_eq_false (show ¬ g 2 ≤ a3 by omega)]; simp) h bB)
  have HB := Lib.hid hB
  clear h hr bB eB hB c4
  have hd3 := decide_eq_false h3; have hd4 := decide_eq_true h4
  go_enter Try.func12, Try.ntmps12
  go_upto_region 1 with fail
  change Code.wp _ _ _ _ (w.alloc (.cells #[.int .i8 a0, .int .i64 2, .int .i64 a2, .int .i64 a3, .int .i64 a4, .int .i64 a5, .int .i64 a6, .int .i64 a7, .int .i64 a8, .int .i64 a9, .int .i64 a10, c11, c12, c13, c14, c15] 39))
  rw [← HB.out]
  go_wp2_with (go_quiet (fail))
  go_ret2
  exact ⟨HE.out.1, HE.out.2.1, HE.out.2.2.drewN _⟩
set_option maxRecDepth 100000 in
set_option maxHeartbeats 4000000 in
theorem rtake_hit2 (w : World) (rb : Nat) (boot a0 a2 a3 a4 a5 a6 a7 a8 a9 a10 : Int) (c11 c12 c13 c14 c15 : Value) (g : Int → Int) (h : w.heap[rb]? = some (.cells (refC boot g) 51 (0, 0))) (h3 : ¬ a3 < 1) (h4 : ¬ a3 < g 2) :
    Calls Try.prog 12 #[.pointer (some ⟨rb, 0, none⟩), .agg #[.int .i8 a0, .int .i64 2, .int .i64 a2, .int .i64 a3, .int .i64 a4, .int .i64 a5, .int .i64 a6, .int .i64 a7, .int .i64 a8, .int .i64 a9, .int .i64 a10, c11, c12, c13, c14, c15]] w (RTakeC w rb boot 2 a3 a4 g) := by
  obtain ⟨B, hB⟩ : ∃ B, B = w.alloc (.cells #[.int .i8 a0, .int .i64 2, .int .i64 a2, .int .i64 a3, .int .i64 a4, .int .i64 a5, .int .i64 a6, .int .i64 a7, .int .i64 a8, .int .i64 a9, .int .i64 a10, c11, c12, c13, c14, c15] 39) := ⟨_, rfl⟩
  have bB : Below w.heap.size w B := by rw [hB]; exact (Below.refl _ _).alloc (Nat.le_refl _) _
  have eB : B.heap[w.heap.size]? = some (.cells #[.int .i8 a0, .int .i64 2, .int .i64 a2, .int .i64 a3, .int .i64 a4, .int .i64 a5, .int .i64 a6, .int .i64 a7, .int .i64 a8, .int .i64 a9, .int .i64 a10, c11, c12, c13, c14, c15] 39 (0, 0)) := by rw [hB]; exact heap_alloc_new _ _
  have c1 : B.cell? ⟨w.heap.size, 1, none⟩ = some (.int .i64 2) := by rw [cell_of_row _ _ 1 _ _ _ eB]; rfl
  have c3 : B.cell? ⟨w.heap.size, 3, none⟩ = some (.int .i64 a3) := by rw [cell_of_row _ _ 3 _ _ _ eB]; rfl
  have c4 : B.cell? ⟨w.heap.size, 4, none⟩ = some (.int .i64 a4) := by rw [cell_of_row _ _ 4 _ _ _ eB]; rfl
  have hr := (bB.block _ (lt_of_heap h)).trans h
  have ck : B.cell? ⟨rb, 3, none⟩ = some (.int .i64 (g 2)) := (ref_cell hr).2 2 (by decide)
  have f0 : B.frozen? ⟨rb, 3, none⟩ = false := frozen_of_row _ _ 3 _ _ hr
  obtain ⟨Z, hZ⟩ : ∃ Z, Z = B.setCell ⟨rb, 3, none⟩ (.int .i64 a3) := ⟨_, rfl⟩
  have htk : takes g 2 a3 = true := by unfold takes; rw [decide_eq_true (show 1 ≤ a3 by omega), decide_eq_true (show g 2 ≤ a3 by omega)]; rfl
  have hne : rb ≠ w.heap.size := by have := lt_of_heap h; omega
  have rZ : Z.heap[rb]? = some (.cells (refC boot (after g 2 a3)) 51 (0, 0)) := by
    rw [hZ, heap_setCell_same _ _ 3 _ _ _ hr]
    unfold after updI refC
    rw [htk]
    simp
  have tZ : Touched w Z (fun q => q = rb) := by
    rw [hZ]
    exact (Below.touched bB _).trans (Touched.setCell (S := fun q => q = rb) rfl _) fun q hq => Or.inl hq
  have mZ : Z.heap[w.heap.size]? = some (.cells #[.int .i8 a0, .int .i64 2, .int .i64 a2, .int .i64 a3, .int .i64 a4, .int .i64 a5, .int .i64 a6, .int .i64 a7, .int .i64 a8, .int .i64 a9, .int .i64 a10, c11, c12, c13, c14, c15] 39 (0, 0)) := by
    rw [hZ, Below.heap_setCell _ _ _ _ (fun e => hne e.symm)]; exact eB
  have z0 := (ref_cell rZ).1
  have z4 : Z.cell? ⟨w.heap.size, 4, none⟩ = some (.int .i64 a4) := by rw [cell_of_row _ _ 4 _ _ _ mZ]; rfl
  have HE := Lib.hid (show RTakeC w rb boot 2 a3 a4 g (.returned (.tuple #[.bool (a4 == boot), .bool (!(a4 == boot))])) Z from ⟨by rw [htk]; rfl, rZ, tZ⟩)
  have HB := Lib.hid (And.intro hB hZ)
  have HNE := Lib.hid (fun (e : w.heap.size = rb) => hne e.symm)
  clear h hr bB eB hB c4 htk hne rZ tZ mZ hZ
  have hd3 := decide_eq_false h3; have hd4 := decide_eq_false h4
  go_enter Try.func12, Try.ntmps12
  go_upto_region 1 with fail
  change Code.wp _ _ _ _ (w.alloc (.cells #[.int .i8 a0, .int .i64 2, .int .i64 a2, .int .i64 a3, .int .i64 a4, .int .i64 a5, .int .i64 a6, .int .i64 a7, .int .i64 a8, .int .i64 a9, .int .i64 a10, c11, c12, c13, c14, c15] 39))
  rw [← HB.out.1]
  go_upto_region 3 with (go_quiet (fail))
  have hWh : ((B.drewN (nq + 1)).setCell ⟨rb, 3, none⟩ (.int .i64 a3)).heap = Z.heap := by rw [HB.out.2]; rfl
  have y0 := (World.cell?_of_block (a := ⟨rb, 0, none⟩) (by rw [hWh])).trans z0
  have y4 := (World.cell?_of_block (a := ⟨w.heap.size, 4, none⟩) (by rw [hWh])).trans z4
  have tW : Touched w ((B.drewN (nq + 1)).setCell ⟨rb, 3, none⟩ (.int .i64 a3)) (fun q => q = rb) := by
    have h := HE.out.2.2
    rw [HB.out.2] at h
    exact ⟨h.os, h.tape, h.output, h.size, h.block⟩
  have rW : ((B.drewN (nq + 1)).setCell ⟨rb, 3, none⟩ (.int .i64 a3)).heap[rb]? = some (.cells (refC boot (after g 2 a3)) 51 (0, 0)) := by rw [hWh]; exact HE.out.2.1
  have HF := Lib.hid (And.intro HE.out.1 (And.intro rW tW))
  obtain ⟨SW, hSW⟩ : ∃ SW : World → Prop, SW = fun Z => Z.cell? ⟨w.heap.size, 1, none⟩ = some (.int .i64 2) ∧ Z.cell? ⟨w.heap.size, 3, none⟩ = some (.int .i64 a3) := ⟨_, rfl⟩
  have HSW := Lib.hid (fun (Z : World) (h : SW Z) => (show Z.cell? ⟨w.heap.size, 1, none⟩ = some (.int .i64 2) ∧ Z.cell? ⟨w.heap.size, 3, none⟩ = some (.int .i64 a3) by rw [hSW] at h; exact h))
  have hS0 : SW (B.drewN nq).drew := by rw [hSW]; exact ⟨c1, c3⟩
  have hS3 : SW ((B.drewN (nq + 1)).setCell ⟨rb, 3, none⟩ (.int .i64 a3)) := by
    rw [hSW]
    exact ⟨(World.cell?_of_block (a := ⟨w.heap.size, 1, none⟩) (Below.heap_setCell _ _ _ _ HNE.out)).trans c1, (World.cell?_of_block (a := ⟨w.heap.size, 3, none⟩) (Below.heap_setCell _ _ _ _ HNE.out)).trans c3⟩
  have HS3 := Lib.hid hS3
  have d5 : (B.drewN (nq + 1)).cell? ⟨rb, 3, none⟩ = some (.int .i64 (g 2)) := ck
  have d6 : (B.drewN (nq + 1)).frozen? ⟨rb, 3, none⟩ = false := f0
  clear hSW hS3 hWh tW rW HE z0 z4 ck f0 c1 c3
  refine wp_calmL ?_
  refine wp_region_held_drew (S := SW) (by kernel_rfl) hS0 (fun hHeld => ?_)
  clear hS0
  refine wpAnyH_take (i := 0) (oi := _) (v := .pointer (some ⟨rb, 0, none⟩)) rfl (by kernel_rfl) (by kernel_rfl) (by kernel_rfl) (fun _ _ _ h => by cases h.1) (Or.inl ⟨by rfl, ?_⟩) (by assumption) ?_
  · clear hHeld; intro X hSw; obtain ⟨q1, q2⟩ := HSW.out X hSw; clear hSw; go_simp
  simp only [Act.put, List.getElem_toArray, List.getElem_cons_zero, List.getElem_cons_succ, List.setIfInBounds_toArray, List.set_cons_zero, List.set_cons_succ]
  refine wpAnyH_take (i := 1) (oi := _) (v := .pointer (some ⟨w.heap.size, 1, none⟩)) rfl (by kernel_rfl) (by kernel_rfl) (by kernel_rfl) (fun _ _ _ h => by cases h.1) (Or.inl ⟨by rfl, ?_⟩) (by assumption) ?_
  · clear hHeld; intro X hSw; obtain ⟨q1, q2⟩ := HSW.out X hSw; clear hSw; go_simp
  simp only [Act.put, List.getElem_toArray, List.getElem_cons_zero, List.getElem_cons_succ, List.setIfInBounds_toArray, List.set_cons_zero, List.set_cons_succ]
  refine wpAnyH_take (i := 2) (oi := _) (v := .int .i64 2) rfl (by kernel_rfl) (by kernel_rfl) (by kernel_rfl) (fun _ _ _ h => by cases h.1) (Or.inl ⟨by rfl, ?_⟩) (by assumption) ?_
  · clear hHeld; intro X hSw; obtain ⟨q1, q2⟩ := HSW.out X hSw; clear hSw; go_simp
  simp only [Act.put, List.getElem_toArray, List.getElem_cons_zero, List.getElem_cons_succ, List.setIfInBounds_toArray, List.set_cons_zero, List.set_cons_succ]
  refine wpAnyH_take (i := 3) (oi := _) (v := .pointer (some ⟨w.heap.size, 3, none⟩)) rfl (by kernel_rfl) (by kernel_rfl) (by kernel_rfl) (fun _ _ _ h => by cases h.1) (Or.inl ⟨by rfl, ?_⟩) (by assumption) ?_
  · clear hHeld; intro X hSw; obtain ⟨q1, q2⟩ := HSW.out X hSw; clear hSw; go_simp
  simp only [Act.put, List.getElem_toArray, List.getElem_cons_zero, List.getElem_cons_succ, List.setIfInBounds_toArray, List.set_cons_zero, List.set_cons_succ]
  refine wpAnyH_take (i := 4) (oi := _) (v := .int .i64 a3) rfl (by kernel_rfl) (by kernel_rfl) (by kernel_rfl) (fun _ _ _ h => by cases h.1) (Or.inl ⟨by rfl, ?_⟩) (by assumption) ?_
  · clear hHeld; intro X hSw; obtain ⟨q1, q2⟩ := HSW.out X hSw; clear hSw; go_simp
  simp only [Act.put, List.getElem_toArray, List.getElem_cons_zero, List.getElem_cons_succ, List.setIfInBounds_toArray, List.set_cons_zero, List.set_cons_succ]
  refine wpAnyH_take (i := 5) (oi := _) (v := .pointer (some ⟨rb, 0, none⟩)) rfl (by kernel_rfl) (by kernel_rfl) (by kernel_rfl) (fun _ _ _ h => by cases h.1) (Or.inl ⟨by rfl, ?_⟩) (by assumption) ?_
  · clear hHeld; intro X hSw; obtain ⟨q1, q2⟩ := HSW.out X hSw; clear hSw; go_simp
  simp only [Act.put, List.getElem_toArray, List.getElem_cons_zero, List.getElem_cons_succ, List.setIfInBounds_toArray, List.set_cons_zero, List.set_cons_succ]
  refine wpAnyH_take (i := 6) (oi := _) (v := .pointer (some ⟨rb, 1, none⟩)) rfl (by kernel_rfl) (by kernel_rfl) (by kernel_rfl) (fun _ _ _ h => by cases h.1) (Or.inl ⟨by rfl, ?_⟩) (by assumption) ?_
  · clear hHeld; intro X hSw; obtain ⟨q1, q2⟩ := HSW.out X hSw; clear hSw; go_simp
  simp only [Act.put, List.getElem_toArray, List.getElem_cons_zero, List.getElem_cons_succ, List.setIfInBounds_toArray, List.set_cons_zero, List.set_cons_succ]
  refine wpAnyH_take (i := 7) (oi := _) (v := .pointer (some ⟨rb, 3, none⟩)) rfl (by kernel_rfl) (by kernel_rfl) (by kernel_rfl) (fun _ _ _ h => by cases h.1) (Or.inl ⟨by rfl, ?_⟩) (by assumption) ?_
  · clear hHeld; intro X hSw; obtain ⟨q1, q2⟩ := HSW.out X hSw; clear hSw; go_simp
  simp only [Act.put, List.getElem_toArray, List.getElem_cons_zero, List.getElem_cons_succ, List.setIfInBounds_toArray, List.set_cons_zero, List.set_cons_succ]
  refine wpAnyH_ready (rs := [8]) (by kernel_rfl) (by simp) ?_
  refine AllReadyH.cons (o := _) rfl (fun K hK => ?_) (AllReadyH.nil)
  rw [if_pos (by rfl)]
  simp only [List.getElem_toArray, List.getElem_cons_zero, List.getElem_cons_succ]
  have HK := Lib.hid hK
  clear hK hHeld
  go_wp2_with fail
  refine HK.out _ _ HS3.out (fun hHeld => ?_)
  clear HK
  refine wpAnyH_done (by kernel_rfl) ?_ _
  clear HSW hHeld d5 d6
  refine ⟨rfl, ?_⟩
  go_wp2_with (go_quiet (fail))
  go_ret2
  exact ⟨HF.out.1, HF.out.2.1, HF.out.2.2.drewN _⟩
set_option maxRecDepth 100000 in
set_option maxHeartbeats 4000000 in
theorem rtake_less3 (w : World) (rb : Nat) (boot a0 a2 a3 a4 a5 a6 a7 a8 a9 a10 : Int) (c11 c12 c13 c14 c15 : Value) (g : Int → Int) (h : w.heap[rb]? = some (.cells (refC boot g) 51 (0, 0))) (h3 : ¬ a3 < 1) (h4 : a3 < g 3) :
    Calls Try.prog 12 #[.pointer (some ⟨rb, 0, none⟩), .agg #[.int .i8 a0, .int .i64 3, .int .i64 a2, .int .i64 a3, .int .i64 a4, .int .i64 a5, .int .i64 a6, .int .i64 a7, .int .i64 a8, .int .i64 a9, .int .i64 a10, c11, c12, c13, c14, c15]] w (RTakeC w rb boot 3 a3 a4 g) := by
  obtain ⟨B, hB⟩ : ∃ B, B = w.alloc (.cells #[.int .i8 a0, .int .i64 3, .int .i64 a2, .int .i64 a3, .int .i64 a4, .int .i64 a5, .int .i64 a6, .int .i64 a7, .int .i64 a8, .int .i64 a9, .int .i64 a10, c11, c12, c13, c14, c15] 39) := ⟨_, rfl⟩
  have bB : Below w.heap.size w B := by rw [hB]; exact (Below.refl _ _).alloc (Nat.le_refl _) _
  have eB : B.heap[w.heap.size]? = some (.cells #[.int .i8 a0, .int .i64 3, .int .i64 a2, .int .i64 a3, .int .i64 a4, .int .i64 a5, .int .i64 a6, .int .i64 a7, .int .i64 a8, .int .i64 a9, .int .i64 a10, c11, c12, c13, c14, c15] 39 (0, 0)) := by rw [hB]; exact heap_alloc_new _ _
  have c1 : B.cell? ⟨w.heap.size, 1, none⟩ = some (.int .i64 3) := by rw [cell_of_row _ _ 1 _ _ _ eB]; rfl
  have c3 : B.cell? ⟨w.heap.size, 3, none⟩ = some (.int .i64 a3) := by rw [cell_of_row _ _ 3 _ _ _ eB]; rfl
  have c4 : B.cell? ⟨w.heap.size, 4, none⟩ = some (.int .i64 a4) := by rw [cell_of_row _ _ 4 _ _ _ eB]; rfl
  have hr := (bB.block _ (lt_of_heap h)).trans h
  have ck : B.cell? ⟨rb, 4, none⟩ = some (.int .i64 (g 3)) := (ref_cell hr).2 3 (by decide)
  have HE := Lib.hid (rtakeC_no (s := a4) (boot := boot) (show takes g 3 a3 = false by unfold takes; rw [decide_eq_false (show ¬ g 3 ≤ a3 by omega)]; simp) h bB)
  have HB := Lib.hid hB
  clear h hr bB eB hB c4
  have hd3 := decide_eq_false h3; have hd4 := decide_eq_true h4
  go_enter Try.func12, Try.ntmps12
  go_upto_region 1 with fail
  change Code.wp _ _ _ _ (w.alloc (.cells #[.int .i8 a0, .int .i64 3, .int .i64 a2, .int .i64 a3, .int .i64 a4, .int .i64 a5, .int .i64 a6, .int .i64 a7, .int .i64 a8, .int .i64 a9, .int .i64 a10, c11, c12, c13, c14, c15] 39))
  rw [← HB.out]
  go_wp2_with (go_quiet (fail))
  go_ret2
  exact ⟨HE.out.1, HE.out.2.1, HE.out.2.2.drewN _⟩
set_option maxRecDepth 100000 in
set_option maxHeartbeats 4000000 in
theorem rtake_hit3 (w : World) (rb : Nat) (boot a0 a2 a3 a4 a5 a6 a7 a8 a9 a10 : Int) (c11 c12 c13 c14 c15 : Value) (g : Int → Int) (h : w.heap[rb]? = some (.cells (refC boot g) 51 (0, 0))) (h3 : ¬ a3 < 1) (h4 : ¬ a3 < g 3) :
    Calls Try.prog 12 #[.pointer (some ⟨rb, 0, none⟩), .agg #[.int .i8 a0, .int .i64 3, .int .i64 a2, .int .i64 a3, .int .i64 a4, .int .i64 a5, .int .i64 a6, .int .i64 a7, .int .i64 a8, .int .i64 a9, .int .i64 a10, c11, c12, c13, c14, c15]] w (RTakeC w rb boot 3 a3 a4 g) := by
  obtain ⟨B, hB⟩ : ∃ B, B = w.alloc (.cells #[.int .i8 a0, .int .i64 3, .int .i64 a2, .int .i64 a3, .int .i64 a4, .int .i64 a5, .int .i64 a6, .int .i64 a7, .int .i64 a8, .int .i64 a9, .int .i64 a10, c11, c12, c13, c14, c15] 39) := ⟨_, rfl⟩
  have bB : Below w.heap.size w B := by rw [hB]; exact (Below.refl _ _).alloc (Nat.le_refl _) _
  have eB : B.heap[w.heap.size]? = some (.cells #[.int .i8 a0, .int .i64 3, .int .i64 a2, .int .i64 a3, .int .i64 a4, .int .i64 a5, .int .i64 a6, .int .i64 a7, .int .i64 a8, .int .i64 a9, .int .i64 a10, c11, c12, c13, c14, c15] 39 (0, 0)) := by rw [hB]; exact heap_alloc_new _ _
  have c1 : B.cell? ⟨w.heap.size, 1, none⟩ = some (.int .i64 3) := by rw [cell_of_row _ _ 1 _ _ _ eB]; rfl
  have c3 : B.cell? ⟨w.heap.size, 3, none⟩ = some (.int .i64 a3) := by rw [cell_of_row _ _ 3 _ _ _ eB]; rfl
  have c4 : B.cell? ⟨w.heap.size, 4, none⟩ = some (.int .i64 a4) := by rw [cell_of_row _ _ 4 _ _ _ eB]; rfl
  have hr := (bB.block _ (lt_of_heap h)).trans h
  have ck : B.cell? ⟨rb, 4, none⟩ = some (.int .i64 (g 3)) := (ref_cell hr).2 3 (by decide)
  have f0 : B.frozen? ⟨rb, 4, none⟩ = false := frozen_of_row _ _ 4 _ _ hr
  obtain ⟨Z, hZ⟩ : ∃ Z, Z = B.setCell ⟨rb, 4, none⟩ (.int .i64 a3) := ⟨_, rfl⟩
  have htk : takes g 3 a3 = true := by unfold takes; rw [decide_eq_true (show 1 ≤ a3 by omega), decide_eq_true (show g 3 ≤ a3 by omega)]; rfl
  have hne : rb ≠ w.heap.size := by have := lt_of_heap h; omega
  have rZ : Z.heap[rb]? = some (.cells (refC boot (after g 3 a3)) 51 (0, 0)) := by
    rw [hZ, heap_setCell_same _ _ 4 _ _ _ hr]
    unfold after updI refC
    rw [htk]
    simp
  have tZ : Touched w Z (fun q => q = rb) := by
    rw [hZ]
    exact (Below.touched bB _).trans (Touched.setCell (S := fun q => q = rb) rfl _) fun q hq => Or.inl hq
  have mZ : Z.heap[w.heap.size]? = some (.cells #[.int .i8 a0, .int .i64 3, .int .i64 a2, .int .i64 a3, .int .i64 a4, .int .i64 a5, .int .i64 a6, .int .i64 a7, .int .i64 a8, .int .i64 a9, .int .i64 a10, c11, c12, c13, c14, c15] 39 (0, 0)) := by
    rw [hZ, Below.heap_setCell _ _ _ _ (fun e => hne e.symm)]; exact eB
  have z0 := (ref_cell rZ).1
  have z4 : Z.cell? ⟨w.heap.size, 4, none⟩ = some (.int .i64 a4) := by rw [cell_of_row _ _ 4 _ _ _ mZ]; rfl
  have HE := Lib.hid (show RTakeC w rb boot 3 a3 a4 g (.returned (.tuple #[.bool (a4 == boot), .bool (!(a4 == boot))])) Z from ⟨by rw [htk]; rfl, rZ, tZ⟩)
  have HB := Lib.hid (And.intro hB hZ)
  have HNE := Lib.hid (fun (e : w.heap.size = rb) => hne e.symm)
  clear h hr bB eB hB c4 htk hne rZ tZ mZ hZ
  have hd3 := decide_eq_false h3; have hd4 := decide_eq_false h4
  go_enter Try.func12, Try.ntmps12
  go_upto_region 1 with fail
  change Code.wp _ _ _ _ (w.alloc (.cells #[.int .i8 a0, .int .i64 3, .int .i64 a2, .int .i64 a3, .int .i64 a4, .int .i64 a5, .int .i64 a6, .int .i64 a7, .int .i64 a8, .int .i64 a9, .int .i64 a10, c11, c12, c13, c14, c15] 39))
  rw [← HB.out.1]
  go_upto_region 3 with (go_quiet (fail))
  have hWh : ((B.drewN (nq + 1)).setCell ⟨rb, 4, none⟩ (.int .i64 a3)).heap = Z.heap := by rw [HB.out.2]; rfl
  have y0 := (World.cell?_of_block (a := ⟨rb, 0, none⟩) (by rw [hWh])).trans z0
  have y4 := (World.cell?_of_block (a := ⟨w.heap.size, 4, none⟩) (by rw [hWh])).trans z4
  have tW : Touched w ((B.drewN (nq + 1)).setCell ⟨rb, 4, none⟩ (.int .i64 a3)) (fun q => q = rb) := by
    have h := HE.out.2.2
    rw [HB.out.2] at h
    exact ⟨h.os, h.tape, h.output, h.size, h.block⟩
  have rW : ((B.drewN (nq + 1)).setCell ⟨rb, 4, none⟩ (.int .i64 a3)).heap[rb]? = some (.cells (refC boot (after g 3 a3)) 51 (0, 0)) := by rw [hWh]; exact HE.out.2.1
  have HF := Lib.hid (And.intro HE.out.1 (And.intro rW tW))
  obtain ⟨SW, hSW⟩ : ∃ SW : World → Prop, SW = fun Z => Z.cell? ⟨w.heap.size, 1, none⟩ = some (.int .i64 3) ∧ Z.cell? ⟨w.heap.size, 3, none⟩ = some (.int .i64 a3) := ⟨_, rfl⟩
  have HSW := Lib.hid (fun (Z : World) (h : SW Z) => (show Z.cell? ⟨w.heap.size, 1, none⟩ = some (.int .i64 3) ∧ Z.cell? ⟨w.heap.size, 3, none⟩ = some (.int .i64 a3) by rw [hSW] at h; exact h))
  have hS0 : SW (B.drewN nq).drew := by rw [hSW]; exact ⟨c1, c3⟩
  have hS3 : SW ((B.drewN (nq + 1)).setCell ⟨rb, 4, none⟩ (.int .i64 a3)) := by
    rw [hSW]
    exact ⟨(World.cell?_of_block (a := ⟨w.heap.size, 1, none⟩) (Below.heap_setCell _ _ _ _ HNE.out)).trans c1, (World.cell?_of_block (a := ⟨w.heap.size, 3, none⟩) (Below.heap_setCell _ _ _ _ HNE.out)).trans c3⟩
  have HS3 := Lib.hid hS3
  have d5 : (B.drewN (nq + 1)).cell? ⟨rb, 4, none⟩ = some (.int .i64 (g 3)) := ck
  have d6 : (B.drewN (nq + 1)).frozen? ⟨rb, 4, none⟩ = false := f0
  clear hSW hS3 hWh tW rW HE z0 z4 ck f0 c1 c3
  refine wp_calmL ?_
  refine wp_region_held_drew (S := SW) (by kernel_rfl) hS0 (fun hHeld => ?_)
  clear hS0
  refine wpAnyH_take (i := 0) (oi := _) (v := .pointer (some ⟨rb, 0, none⟩)) rfl (by kernel_rfl) (by kernel_rfl) (by kernel_rfl) (fun _ _ _ h => by cases h.1) (Or.inl ⟨by rfl, ?_⟩) (by assumption) ?_
  · clear hHeld; intro X hSw; obtain ⟨q1, q2⟩ := HSW.out X hSw; clear hSw; go_simp
  simp only [Act.put, List.getElem_toArray, List.getElem_cons_zero, List.getElem_cons_succ, List.setIfInBounds_toArray, List.set_cons_zero, List.set_cons_succ]
  refine wpAnyH_take (i := 1) (oi := _) (v := .pointer (some ⟨w.heap.size, 1, none⟩)) rfl (by kernel_rfl) (by kernel_rfl) (by kernel_rfl) (fun _ _ _ h => by cases h.1) (Or.inl ⟨by rfl, ?_⟩) (by assumption) ?_
  · clear hHeld; intro X hSw; obtain ⟨q1, q2⟩ := HSW.out X hSw; clear hSw; go_simp
  simp only [Act.put, List.getElem_toArray, List.getElem_cons_zero, List.getElem_cons_succ, List.setIfInBounds_toArray, List.set_cons_zero, List.set_cons_succ]
  refine wpAnyH_take (i := 2) (oi := _) (v := .int .i64 3) rfl (by kernel_rfl) (by kernel_rfl) (by kernel_rfl) (fun _ _ _ h => by cases h.1) (Or.inl ⟨by rfl, ?_⟩) (by assumption) ?_
  · clear hHeld; intro X hSw; obtain ⟨q1, q2⟩ := HSW.out X hSw; clear hSw; go_simp
  simp only [Act.put, List.getElem_toArray, List.getElem_cons_zero, List.getElem_cons_succ, List.setIfInBounds_toArray, List.set_cons_zero, List.set_cons_succ]
  refine wpAnyH_take (i := 3) (oi := _) (v := .pointer (some ⟨w.heap.size, 3, none⟩)) rfl (by kernel_rfl) (by kernel_rfl) (by kernel_rfl) (fun _ _ _ h => by cases h.1) (Or.inl ⟨by rfl, ?_⟩) (by assumption) ?_
  · clear hHeld; intro X hSw; obtain ⟨q1, q2⟩ := HSW.out X hSw; clear hSw; go_simp
  simp only [Act.put, List.getElem_toArray, List.getElem_cons_zero, List.getElem_cons_succ, List.setIfInBounds_toArray, List.set_cons_zero, List.set_cons_succ]
  refine wpAnyH_take (i := 4) (oi := _) (v := .int .i64 a3) rfl (by kernel_rfl) (by kernel_rfl) (by kernel_rfl) (fun _ _ _ h => by cases h.1) (Or.inl ⟨by rfl, ?_⟩) (by assumption) ?_
  · clear hHeld; intro X hSw; obtain ⟨q1, q2⟩ := HSW.out X hSw; clear hSw; go_simp
  simp only [Act.put, List.getElem_toArray, List.getElem_cons_zero, List.getElem_cons_succ, List.setIfInBounds_toArray, List.set_cons_zero, List.set_cons_succ]
  refine wpAnyH_take (i := 5) (oi := _) (v := .pointer (some ⟨rb, 0, none⟩)) rfl (by kernel_rfl) (by kernel_rfl) (by kernel_rfl) (fun _ _ _ h => by cases h.1) (Or.inl ⟨by rfl, ?_⟩) (by assumption) ?_
  · clear hHeld; intro X hSw; obtain ⟨q1, q2⟩ := HSW.out X hSw; clear hSw; go_simp
  simp only [Act.put, List.getElem_toArray, List.getElem_cons_zero, List.getElem_cons_succ, List.setIfInBounds_toArray, List.set_cons_zero, List.set_cons_succ]
  refine wpAnyH_take (i := 6) (oi := _) (v := .pointer (some ⟨rb, 1, none⟩)) rfl (by kernel_rfl) (by kernel_rfl) (by kernel_rfl) (fun _ _ _ h => by cases h.1) (Or.inl ⟨by rfl, ?_⟩) (by assumption) ?_
  · clear hHeld; intro X hSw; obtain ⟨q1, q2⟩ := HSW.out X hSw; clear hSw; go_simp
  simp only [Act.put, List.getElem_toArray, List.getElem_cons_zero, List.getElem_cons_succ, List.setIfInBounds_toArray, List.set_cons_zero, List.set_cons_succ]
  refine wpAnyH_take (i := 7) (oi := _) (v := .pointer (some ⟨rb, 4, none⟩)) rfl (by kernel_rfl) (by kernel_rfl) (by kernel_rfl) (fun _ _ _ h => by cases h.1) (Or.inl ⟨by rfl, ?_⟩) (by assumption) ?_
  · clear hHeld; intro X hSw; obtain ⟨q1, q2⟩ := HSW.out X hSw; clear hSw; go_simp
  simp only [Act.put, List.getElem_toArray, List.getElem_cons_zero, List.getElem_cons_succ, List.setIfInBounds_toArray, List.set_cons_zero, List.set_cons_succ]
  refine wpAnyH_ready (rs := [8]) (by kernel_rfl) (by simp) ?_
  refine AllReadyH.cons (o := _) rfl (fun K hK => ?_) (AllReadyH.nil)
  rw [if_pos (by rfl)]
  simp only [List.getElem_toArray, List.getElem_cons_zero, List.getElem_cons_succ]
  have HK := Lib.hid hK
  clear hK hHeld
  go_wp2_with fail
  refine HK.out _ _ HS3.out (fun hHeld => ?_)
  clear HK
  refine wpAnyH_done (by kernel_rfl) ?_ _
  clear HSW hHeld d5 d6
  refine ⟨rfl, ?_⟩
  go_wp2_with (go_quiet (fail))
  go_ret2
  exact ⟨HF.out.1, HF.out.2.1, HF.out.2.2.drewN _⟩
set_option maxRecDepth 100000 in
set_option maxHeartbeats 4000000 in
theorem rtake_less4 (w : World) (rb : Nat) (boot a0 a2 a3 a4 a5 a6 a7 a8 a9 a10 : Int) (c11 c12 c13 c14 c15 : Value) (g : Int → Int) (h : w.heap[rb]? = some (.cells (refC boot g) 51 (0, 0))) (h3 : ¬ a3 < 1) (h4 : a3 < g 4) :
    Calls Try.prog 12 #[.pointer (some ⟨rb, 0, none⟩), .agg #[.int .i8 a0, .int .i64 4, .int .i64 a2, .int .i64 a3, .int .i64 a4, .int .i64 a5, .int .i64 a6, .int .i64 a7, .int .i64 a8, .int .i64 a9, .int .i64 a10, c11, c12, c13, c14, c15]] w (RTakeC w rb boot 4 a3 a4 g) := by
  obtain ⟨B, hB⟩ : ∃ B, B = w.alloc (.cells #[.int .i8 a0, .int .i64 4, .int .i64 a2, .int .i64 a3, .int .i64 a4, .int .i64 a5, .int .i64 a6, .int .i64 a7, .int .i64 a8, .int .i64 a9, .int .i64 a10, c11, c12, c13, c14, c15] 39) := ⟨_, rfl⟩
  have bB : Below w.heap.size w B := by rw [hB]; exact (Below.refl _ _).alloc (Nat.le_refl _) _
  have eB : B.heap[w.heap.size]? = some (.cells #[.int .i8 a0, .int .i64 4, .int .i64 a2, .int .i64 a3, .int .i64 a4, .int .i64 a5, .int .i64 a6, .int .i64 a7, .int .i64 a8, .int .i64 a9, .int .i64 a10, c11, c12, c13, c14, c15] 39 (0, 0)) := by rw [hB]; exact heap_alloc_new _ _
  have c1 : B.cell? ⟨w.heap.size, 1, none⟩ = some (.int .i64 4) := by rw [cell_of_row _ _ 1 _ _ _ eB]; rfl
  have c3 : B.cell? ⟨w.heap.size, 3, none⟩ = some (.int .i64 a3) := by rw [cell_of_row _ _ 3 _ _ _ eB]; rfl
  have c4 : B.cell? ⟨w.heap.size, 4, none⟩ = some (.int .i64 a4) := by rw [cell_of_row _ _ 4 _ _ _ eB]; rfl
  have hr := (bB.block _ (lt_of_heap h)).trans h
  have ck : B.cell? ⟨rb, 5, none⟩ = some (.int .i64 (g 4)) := (ref_cell hr).2 4 (by decide)
  have HE := Lib.hid (rtakeC_no (s := a4) (boot := boot) (show takes g 4 a3 = false by unfold takes; rw [decide_eq_false (show ¬ g 4 ≤ a3 by omega)]; simp) h bB)
  have HB := Lib.hid hB
  clear h hr bB eB hB c4
  have hd3 := decide_eq_false h3; have hd4 := decide_eq_true h4
  go_enter Try.func12, Try.ntmps12
  go_upto_region 1 with fail
  change Code.wp _ _ _ _ (w.alloc (.cells #[.int .i8 a0, .int .i64 4, .int .i64 a2, .int .i64 a3, .int .i64 a4, .int .i64 a5, .int .i64 a6, .int .i64 a7, .int .i64 a8, .int .i64 a9, .int .i64 a10, c11, c12, c13, c14, c15] 39))
  rw [← HB.out]
  go_wp2_with (go_quiet (fail))
  go_ret2
  exact ⟨HE.out.1, HE.out.2.1, HE.out.2.2.drewN _⟩
set_option maxRecDepth 100000 in
set_option maxHeartbeats 4000000 in
theorem rtake_hit4 (w : World) (rb : Nat) (boot a0 a2 a3 a4 a5 a6 a7 a8 a9 a10 : Int) (c11 c12 c13 c14 c15 : Value) (g : Int → Int) (h : w.heap[rb]? = some (.cells (refC boot g) 51 (0, 0))) (h3 : ¬ a3 < 1) (h4 : ¬ a3 < g 4) :
    Calls Try.prog 12 #[.pointer (some ⟨rb, 0, none⟩), .agg #[.int .i8 a0, .int .i64 4, .int .i64 a2, .int .i64 a3, .int .i64 a4, .int .i64 a5, .int .i64 a6, .int .i64 a7, .int .i64 a8, .int .i64 a9, .int .i64 a10, c11, c12, c13, c14, c15]] w (RTakeC w rb boot 4 a3 a4 g) := by
  obtain ⟨B, hB⟩ : ∃ B, B = w.alloc (.cells #[.int .i8 a0, .int .i64 4, .int .i64 a2, .int .i64 a3, .int .i64 a4, .int .i64 a5, .int .i64 a6, .int .i64 a7, .int .i64 a8, .int .i64 a9, .int .i64 a10, c11, c12, c13, c14, c15] 39) := ⟨_, rfl⟩
  have bB : Below w.heap.size w B := by rw [hB]; exact (Below.refl _ _).alloc (Nat.le_refl _) _
  have eB : B.heap[w.heap.size]? = some (.cells #[.int .i8 a0, .int .i64 4, .int .i64 a2, .int .i64 a3, .int .i64 a4, .int .i64 a5, .int .i64 a6, .int .i64 a7, .int .i64 a8, .int .i64 a9, .int .i64 a10, c11, c12, c13, c14, c15] 39 (0, 0)) := by rw [hB]; exact heap_alloc_new _ _
  have c1 : B.cell? ⟨w.heap.size, 1, none⟩ = some (.int .i64 4) := by rw [cell_of_row _ _ 1 _ _ _ eB]; rfl
  have c3 : B.cell? ⟨w.heap.size, 3, none⟩ = some (.int .i64 a3) := by rw [cell_of_row _ _ 3 _ _ _ eB]; rfl
  have c4 : B.cell? ⟨w.heap.size, 4, none⟩ = some (.int .i64 a4) := by rw [cell_of_row _ _ 4 _ _ _ eB]; rfl
  have hr := (bB.block _ (lt_of_heap h)).trans h
  have ck : B.cell? ⟨rb, 5, none⟩ = some (.int .i64 (g 4)) := (ref_cell hr).2 4 (by decide)
  have f0 : B.frozen? ⟨rb, 5, none⟩ = false := frozen_of_row _ _ 5 _ _ hr
  obtain ⟨Z, hZ⟩ : ∃ Z, Z = B.setCell ⟨rb, 5, none⟩ (.int .i64 a3) := ⟨_, rfl⟩
  have htk : takes g 4 a3 = true := by unfold takes; rw [decide_eq_true (show 1 ≤ a3 by omega), decide_eq_true (show g 4 ≤ a3 by omega)]; rfl
  have hne : rb ≠ w.heap.size := by have := lt_of_heap h; omega
  have rZ : Z.heap[rb]? = some (.cells (refC boot (after g 4 a3)) 51 (0, 0)) := by
    rw [hZ, heap_setCell_same _ _ 5 _ _ _ hr]
    unfold after updI refC
    rw [htk]
    simp
  have tZ : Touched w Z (fun q => q = rb) := by
    rw [hZ]
    exact (Below.touched bB _).trans (Touched.setCell (S := fun q => q = rb) rfl _) fun q hq => Or.inl hq
  have mZ : Z.heap[w.heap.size]? = some (.cells #[.int .i8 a0, .int .i64 4, .int .i64 a2, .int .i64 a3, .int .i64 a4, .int .i64 a5, .int .i64 a6, .int .i64 a7, .int .i64 a8, .int .i64 a9, .int .i64 a10, c11, c12, c13, c14, c15] 39 (0, 0)) := by
    rw [hZ, Below.heap_setCell _ _ _ _ (fun e => hne e.symm)]; exact eB
  have z0 := (ref_cell rZ).1
  have z4 : Z.cell? ⟨w.heap.size, 4, none⟩ = some (.int .i64 a4) := by rw [cell_of_row _ _ 4 _ _ _ mZ]; rfl
  have HE := Lib.hid (show RTakeC w rb boot 4 a3 a4 g (.returned (.tuple #[.bool (a4 == boot), .bool (!(a4 == boot))])) Z from ⟨by rw [htk]; rfl, rZ, tZ⟩)
  have HB := Lib.hid (And.intro hB hZ)
  have HNE := Lib.hid (fun (e : w.heap.size = rb) => hne e.symm)
  clear h hr bB eB hB c4 htk hne rZ tZ mZ hZ
  have hd3 := decide_eq_false h3; have hd4 := decide_eq_false h4
  go_enter Try.func12, Try.ntmps12
  go_upto_region 1 with fail
  change Code.wp _ _ _ _ (w.alloc (.cells #[.int .i8 a0, .int .i64 4, .int .i64 a2, .int .i64 a3, .int .i64 a4, .int .i64 a5, .int .i64 a6, .int .i64 a7, .int .i64 a8, .int .i64 a9, .int .i64 a10, c11, c12, c13, c14, c15] 39))
  rw [← HB.out.1]
  go_upto_region 3 with (go_quiet (fail))
  have hWh : ((B.drewN (nq + 1)).setCell ⟨rb, 5, none⟩ (.int .i64 a3)).heap = Z.heap := by rw [HB.out.2]; rfl
  have y0 := (World.cell?_of_block (a := ⟨rb, 0, none⟩) (by rw [hWh])).trans z0
  have y4 := (World.cell?_of_block (a := ⟨w.heap.size, 4, none⟩) (by rw [hWh])).trans z4
  have tW : Touched w ((B.drewN (nq + 1)).setCell ⟨rb, 5, none⟩ (.int .i64 a3)) (fun q => q = rb) := by
    have h := HE.out.2.2
    rw [HB.out.2] at h
    exact ⟨h.os, h.tape, h.output, h.size, h.block⟩
  have rW : ((B.drewN (nq + 1)).setCell ⟨rb, 5, none⟩ (.int .i64 a3)).heap[rb]? = some (.cells (refC boot (after g 4 a3)) 51 (0, 0)) := by rw [hWh]; exact HE.out.2.1
  have HF := Lib.hid (And.intro HE.out.1 (And.intro rW tW))
  obtain ⟨SW, hSW⟩ : ∃ SW : World → Prop, SW = fun Z => Z.cell? ⟨w.heap.size, 1, none⟩ = some (.int .i64 4) ∧ Z.cell? ⟨w.heap.size, 3, none⟩ = some (.int .i64 a3) := ⟨_, rfl⟩
  have HSW := Lib.hid (fun (Z : World) (h : SW Z) => (show Z.cell? ⟨w.heap.size, 1, none⟩ = some (.int .i64 4) ∧ Z.cell? ⟨w.heap.size, 3, none⟩ = some (.int .i64 a3) by rw [hSW] at h; exact h))
  have hS0 : SW (B.drewN nq).drew := by rw [hSW]; exact ⟨c1, c3⟩
  have hS3 : SW ((B.drewN (nq + 1)).setCell ⟨rb, 5, none⟩ (.int .i64 a3)) := by
    rw [hSW]
    exact ⟨(World.cell?_of_block (a := ⟨w.heap.size, 1, none⟩) (Below.heap_setCell _ _ _ _ HNE.out)).trans c1, (World.cell?_of_block (a := ⟨w.heap.size, 3, none⟩) (Below.heap_setCell _ _ _ _ HNE.out)).trans c3⟩
  have HS3 := Lib.hid hS3
  have d5 : (B.drewN (nq + 1)).cell? ⟨rb, 5, none⟩ = some (.int .i64 (g 4)) := ck
  have d6 : (B.drewN (nq + 1)).frozen? ⟨rb, 5, none⟩ = false := f0
  clear hSW hS3 hWh tW rW HE z0 z4 ck f0 c1 c3
  refine wp_calmL ?_
  refine wp_region_held_drew (S := SW) (by kernel_rfl) hS0 (fun hHeld => ?_)
  clear hS0
  refine wpAnyH_take (i := 0) (oi := _) (v := .pointer (some ⟨rb, 0, none⟩)) rfl (by kernel_rfl) (by kernel_rfl) (by kernel_rfl) (fun _ _ _ h => by cases h.1) (Or.inl ⟨by rfl, ?_⟩) (by assumption) ?_
  · clear hHeld; intro X hSw; obtain ⟨q1, q2⟩ := HSW.out X hSw; clear hSw; go_simp
  simp only [Act.put, List.getElem_toArray, List.getElem_cons_zero, List.getElem_cons_succ, List.setIfInBounds_toArray, List.set_cons_zero, List.set_cons_succ]
  refine wpAnyH_take (i := 1) (oi := _) (v := .pointer (some ⟨w.heap.size, 1, none⟩)) rfl (by kernel_rfl) (by kernel_rfl) (by kernel_rfl) (fun _ _ _ h => by cases h.1) (Or.inl ⟨by rfl, ?_⟩) (by assumption) ?_
  · clear hHeld; intro X hSw; obtain ⟨q1, q2⟩ := HSW.out X hSw; clear hSw; go_simp
  simp only [Act.put, List.getElem_toArray, List.getElem_cons_zero, List.getElem_cons_succ, List.setIfInBounds_toArray, List.set_cons_zero, List.set_cons_succ]
  refine wpAnyH_take (i := 2) (oi := _) (v := .int .i64 4) rfl (by kernel_rfl) (by kernel_rfl) (by kernel_rfl) (fun _ _ _ h => by cases h.1) (Or.inl ⟨by rfl, ?_⟩) (by assumption) ?_
  · clear hHeld; intro X hSw; obtain ⟨q1, q2⟩ := HSW.out X hSw; clear hSw; go_simp
  simp only [Act.put, List.getElem_toArray, List.getElem_cons_zero, List.getElem_cons_succ, List.setIfInBounds_toArray, List.set_cons_zero, List.set_cons_succ]
  refine wpAnyH_take (i := 3) (oi := _) (v := .pointer (some ⟨w.heap.size, 3, none⟩)) rfl (by kernel_rfl) (by kernel_rfl) (by kernel_rfl) (fun _ _ _ h => by cases h.1) (Or.inl ⟨by rfl, ?_⟩) (by assumption) ?_
  · clear hHeld; intro X hSw; obtain ⟨q1, q2⟩ := HSW.out X hSw; clear hSw; go_simp
  simp only [Act.put, List.getElem_toArray, List.getElem_cons_zero, List.getElem_cons_succ, List.setIfInBounds_toArray, List.set_cons_zero, List.set_cons_succ]
  refine wpAnyH_take (i := 4) (oi := _) (v := .int .i64 a3) rfl (by kernel_rfl) (by kernel_rfl) (by kernel_rfl) (fun _ _ _ h => by cases h.1) (Or.inl ⟨by rfl, ?_⟩) (by assumption) ?_
  · clear hHeld; intro X hSw; obtain ⟨q1, q2⟩ := HSW.out X hSw; clear hSw; go_simp
  simp only [Act.put, List.getElem_toArray, List.getElem_cons_zero, List.getElem_cons_succ, List.setIfInBounds_toArray, List.set_cons_zero, List.set_cons_succ]
  refine wpAnyH_take (i := 5) (oi := _) (v := .pointer (some ⟨rb, 0, none⟩)) rfl (by kernel_rfl) (by kernel_rfl) (by kernel_rfl) (fun _ _ _ h => by cases h.1) (Or.inl ⟨by rfl, ?_⟩) (by assumption) ?_
  · clear hHeld; intro X hSw; obtain ⟨q1, q2⟩ := HSW.out X hSw; clear hSw; go_simp
  simp only [Act.put, List.getElem_toArray, List.getElem_cons_zero, List.getElem_cons_succ, List.setIfInBounds_toArray, List.set_cons_zero, List.set_cons_succ]
  refine wpAnyH_take (i := 6) (oi := _) (v := .pointer (some ⟨rb, 1, none⟩)) rfl (by kernel_rfl) (by kernel_rfl) (by kernel_rfl) (fun _ _ _ h => by cases h.1) (Or.inl ⟨by rfl, ?_⟩) (by assumption) ?_
  · clear hHeld; intro X hSw; obtain ⟨q1, q2⟩ := HSW.out X hSw; clear hSw; go_simp
  simp only [Act.put, List.getElem_toArray, List.getElem_cons_zero, List.getElem_cons_succ, List.setIfInBounds_toArray, List.set_cons_zero, List.set_cons_succ]
  refine wpAnyH_take (i := 7) (oi := _) (v := .pointer (some ⟨rb, 5, none⟩)) rfl (by kernel_rfl) (by kernel_rfl) (by kernel_rfl) (fun _ _ _ h => by cases h.1) (Or.inl ⟨by rfl, ?_⟩) (by assumption) ?_
  · clear hHeld; intro X hSw; obtain ⟨q1, q2⟩ := HSW.out X hSw; clear hSw; go_simp
  simp only [Act.put, List.getElem_toArray, List.getElem_cons_zero, List.getElem_cons_succ, List.setIfInBounds_toArray, List.set_cons_zero, List.set_cons_succ]
  refine wpAnyH_ready (rs := [8]) (by kernel_rfl) (by simp) ?_
  refine AllReadyH.cons (o := _) rfl (fun K hK => ?_) (AllReadyH.nil)
  rw [if_pos (by rfl)]
  simp only [List.getElem_toArray, List.getElem_cons_zero, List.getElem_cons_succ]
  have HK := Lib.hid hK
  clear hK hHeld
  go_wp2_with fail
  refine HK.out _ _ HS3.out (fun hHeld => ?_)
  clear HK
  refine wpAnyH_done (by kernel_rfl) ?_ _
  clear HSW hHeld d5 d6
  refine ⟨rfl, ?_⟩
  go_wp2_with (go_quiet (fail))
  go_ret2
  exact ⟨HF.out.1, HF.out.2.1, HF.out.2.2.drewN _⟩
set_option maxRecDepth 100000 in
set_option maxHeartbeats 4000000 in
theorem rtake_less5 (w : World) (rb : Nat) (boot a0 a2 a3 a4 a5 a6 a7 a8 a9 a10 : Int) (c11 c12 c13 c14 c15 : Value) (g : Int → Int) (h : w.heap[rb]? = some (.cells (refC boot g) 51 (0, 0))) (h3 : ¬ a3 < 1) (h4 : a3 < g 5) :
    Calls Try.prog 12 #[.pointer (some ⟨rb, 0, none⟩), .agg #[.int .i8 a0, .int .i64 5, .int .i64 a2, .int .i64 a3, .int .i64 a4, .int .i64 a5, .int .i64 a6, .int .i64 a7, .int .i64 a8, .int .i64 a9, .int .i64 a10, c11, c12, c13, c14, c15]] w (RTakeC w rb boot 5 a3 a4 g) := by
  obtain ⟨B, hB⟩ : ∃ B, B = w.alloc (.cells #[.int .i8 a0, .int .i64 5, .int .i64 a2, .int .i64 a3, .int .i64 a4, .int .i64 a5, .int .i64 a6, .int .i64 a7, .int .i64 a8, .int .i64 a9, .int .i64 a10, c11, c12, c13, c14, c15] 39) := ⟨_, rfl⟩
  have bB : Below w.heap.size w B := by rw [hB]; exact (Below.refl _ _).alloc (Nat.le_refl _) _
  have eB : B.heap[w.heap.size]? = some (.cells #[.int .i8 a0, .int .i64 5, .int .i64 a2, .int .i64 a3, .int .i64 a4, .int .i64 a5, .int .i64 a6, .int .i64 a7, .int .i64 a8, .int .i64 a9, .int .i64 a10, c11, c12, c13, c14, c15] 39 (0, 0)) := by rw [hB]; exact heap_alloc_new _ _
  have c1 : B.cell? ⟨w.heap.size, 1, none⟩ = some (.int .i64 5) := by rw [cell_of_row _ _ 1 _ _ _ eB]; rfl
  have c3 : B.cell? ⟨w.heap.size, 3, none⟩ = some (.int .i64 a3) := by rw [cell_of_row _ _ 3 _ _ _ eB]; rfl
  have c4 : B.cell? ⟨w.heap.size, 4, none⟩ = some (.int .i64 a4) := by rw [cell_of_row _ _ 4 _ _ _ eB]; rfl
  have hr := (bB.block _ (lt_of_heap h)).trans h
  have ck : B.cell? ⟨rb, 6, none⟩ = some (.int .i64 (g 5)) := (ref_cell hr).2 5 (by decide)
  have HE := Lib.hid (rtakeC_no (s := a4) (boot := boot) (show takes g 5 a3 = false by unfold takes; rw [decide_eq_false (show ¬ g 5 ≤ a3 by omega)]; simp) h bB)
  have HB := Lib.hid hB
  clear h hr bB eB hB c4
  have hd3 := decide_eq_false h3; have hd4 := decide_eq_true h4
  go_enter Try.func12, Try.ntmps12
  go_upto_region 1 with fail
  change Code.wp _ _ _ _ (w.alloc (.cells #[.int .i8 a0, .int .i64 5, .int .i64 a2, .int .i64 a3, .int .i64 a4, .int .i64 a5, .int .i64 a6, .int .i64 a7, .int .i64 a8, .int .i64 a9, .int .i64 a10, c11, c12, c13, c14, c15] 39))
  rw [← HB.out]
  go_wp2_with (go_quiet (fail))
  go_ret2
  exact ⟨HE.out.1, HE.out.2.1, HE.out.2.2.drewN _⟩
set_option maxRecDepth 100000 in
set_option maxHeartbeats 4000000 in
theorem rtake_hit5 (w : World) (rb : Nat) (boot a0 a2 a3 a4 a5 a6 a7 a8 a9 a10 : Int) (c11 c12 c13 c14 c15 : Value) (g : Int → Int) (h : w.heap[rb]? = some (.cells (refC boot g) 51 (0, 0))) (h3 : ¬ a3 < 1) (h4 : ¬ a3 < g 5) :
    Calls Try.prog 12 #[.pointer (some ⟨rb, 0, none⟩), .agg #[.int .i8 a0, .int .i64 5, .int .i64 a2, .int .i64 a3, .int .i64 a4, .int .i64 a5, .int .i64 a6, .int .i64 a7, .int .i64 a8, .int .i64 a9, .int .i64 a10, c11, c12, c13, c14, c15]] w (RTakeC w rb boot 5 a3 a4 g) := by
  obtain ⟨B, hB⟩ : ∃ B, B = w.alloc (.cells #[.int .i8 a0, .int .i64 5, .int .i64 a2, .int .i64 a3, .int .i64 a4, .int .i64 a5, .int .i64 a6, .int .i64 a7, .int .i64 a8, .int .i64 a9, .int .i64 a10, c11, c12, c13, c14, c15] 39) := ⟨_, rfl⟩
  have bB : Below w.heap.size w B := by rw [hB]; exact (Below.refl _ _).alloc (Nat.le_refl _) _
  have eB : B.heap[w.heap.size]? = some (.cells #[.int .i8 a0, .int .i64 5, .int .i64 a2, .int .i64 a3, .int .i64 a4, .int .i64 a5, .int .i64 a6, .int .i64 a7, .int .i64 a8, .int .i64 a9, .int .i64 a10, c11, c12, c13, c14, c15] 39 (0, 0)) := by rw [hB]; exact heap_alloc_new _ _
  have c1 : B.cell? ⟨w.heap.size, 1, none⟩ = some (.int .i64 5) := by rw [cell_of_row _ _ 1 _ _ _ eB]; rfl
  have c3 : B.cell? ⟨w.heap.size, 3, none⟩ = some (.int .i64 a3) := by rw [cell_of_row _ _ 3 _ _ _ eB]; rfl
  have c4 : B.cell? ⟨w.heap.size, 4, none⟩ = some (.int .i64 a4) := by rw [cell_of_row _ _ 4 _ _ _ eB]; rfl
  have hr := (bB.block _ (lt_of_heap h)).trans h
  have ck : B.cell? ⟨rb, 6, none⟩ = some (.int .i64 (g 5)) := (ref_cell hr).2 5 (by decide)
  have f0 : B.frozen? ⟨rb, 6, none⟩ = false := frozen_of_row _ _ 6 _ _ hr
  obtain ⟨Z, hZ⟩ : ∃ Z, Z = B.setCell ⟨rb, 6, none⟩ (.int .i64 a3) := ⟨_, rfl⟩
  have htk : takes g 5 a3 = true := by unfold takes; rw [decide_eq_true (show 1 ≤ a3 by omega), decide_eq_true (show g 5 ≤ a3 by omega)]; rfl
  have hne : rb ≠ w.heap.size := by have := lt_of_heap h; omega
  have rZ : Z.heap[rb]? = some (.cells (refC boot (after g 5 a3)) 51 (0, 0)) := by
    rw [hZ, heap_setCell_same _ _ 6 _ _ _ hr]
    unfold after updI refC
    rw [htk]
    simp
  have tZ : Touched w Z (fun q => q = rb) := by
    rw [hZ]
    exact (Below.touched bB _).trans (Touched.setCell (S := fun q => q = rb) rfl _) fun q hq => Or.inl hq
  have mZ : Z.heap[w.heap.size]? = some (.cells #[.int .i8 a0, .int .i64 5, .int .i64 a2, .int .i64 a3, .int .i64 a4, .int .i64 a5, .int .i64 a6, .int .i64 a7, .int .i64 a8, .int .i64 a9, .int .i64 a10, c11, c12, c13, c14, c15] 39 (0, 0)) := by
    rw [hZ, Below.heap_setCell _ _ _ _ (fun e => hne e.symm)]; exact eB
  have z0 := (ref_cell rZ).1
  have z4 : Z.cell? ⟨w.heap.size, 4, none⟩ = some (.int .i64 a4) := by rw [cell_of_row _ _ 4 _ _ _ mZ]; rfl
  have HE := Lib.hid (show RTakeC w rb boot 5 a3 a4 g (.returned (.tuple #[.bool (a4 == boot), .bool (!(a4 == boot))])) Z from ⟨by rw [htk]; rfl, rZ, tZ⟩)
  have HB := Lib.hid (And.intro hB hZ)
  have HNE := Lib.hid (fun (e : w.heap.size = rb) => hne e.symm)
  clear h hr bB eB hB c4 htk hne rZ tZ mZ hZ
  have hd3 := decide_eq_false h3; have hd4 := decide_eq_false h4
  go_enter Try.func12, Try.ntmps12
  go_upto_region 1 with fail
  change Code.wp _ _ _ _ (w.alloc (.cells #[.int .i8 a0, .int .i64 5, .int .i64 a2, .int .i64 a3, .int .i64 a4, .int .i64 a5, .int .i64 a6, .int .i64 a7, .int .i64 a8, .int .i64 a9, .int .i64 a10, c11, c12, c13, c14, c15] 39))
  rw [← HB.out.1]
  go_upto_region 3 with (go_quiet (fail))
  have hWh : ((B.drewN (nq + 1)).setCell ⟨rb, 6, none⟩ (.int .i64 a3)).heap = Z.heap := by rw [HB.out.2]; rfl
  have y0 := (World.cell?_of_block (a := ⟨rb, 0, none⟩) (by rw [hWh])).trans z0
  have y4 := (World.cell?_of_block (a := ⟨w.heap.size, 4, none⟩) (by rw [hWh])).trans z4
  have tW : Touched w ((B.drewN (nq + 1)).setCell ⟨rb, 6, none⟩ (.int .i64 a3)) (fun q => q = rb) := by
    have h := HE.out.2.2
    rw [HB.out.2] at h
    exact ⟨h.os, h.tape, h.output, h.size, h.block⟩
  have rW : ((B.drewN (nq + 1)).setCell ⟨rb, 6, none⟩ (.int .i64 a3)).heap[rb]? = some (.cells (refC boot (after g 5 a3)) 51 (0, 0)) := by rw [hWh]; exact HE.out.2.1
  have HF := Lib.hid (And.intro HE.out.1 (And.intro rW tW))
  obtain ⟨SW, hSW⟩ : ∃ SW : World → Prop, SW = fun Z => Z.cell? ⟨w.heap.size, 1, none⟩ = some (.int .i64 5) ∧ Z.cell? ⟨w.heap.size, 3, none⟩ = some (.int .i64 a3) := ⟨_, rfl⟩
  have HSW := Lib.hid (fun (Z : World) (h : SW Z) => (show Z.cell? ⟨w.heap.size, 1, none⟩ = some (.int .i64 5) ∧ Z.cell? ⟨w.heap.size, 3, none⟩ = some (.int .i64 a3) by rw [hSW] at h; exact h))
  have hS0 : SW (B.drewN nq).drew := by rw [hSW]; exact ⟨c1, c3⟩
  have hS3 : SW ((B.drewN (nq + 1)).setCell ⟨rb, 6, none⟩ (.int .i64 a3)) := by
    rw [hSW]
    exact ⟨(World.cell?_of_block (a := ⟨w.heap.size, 1, none⟩) (Below.heap_setCell _ _ _ _ HNE.out)).trans c1, (World.cell?_of_block (a := ⟨w.heap.size, 3, none⟩) (Below.heap_setCell _ _ _ _ HNE.out)).trans c3⟩
  have HS3 := Lib.hid hS3
  have d5 : (B.drewN (nq + 1)).cell? ⟨rb, 6, none⟩ = some (.int .i64 (g 5)) := ck
  have d6 : (B.drewN (nq + 1)).frozen? ⟨rb, 6, none⟩ = false := f0
  clear hSW hS3 hWh tW rW HE z0 z4 ck f0 c1 c3
  refine wp_calmL ?_
  refine wp_region_held_drew (S := SW) (by kernel_rfl) hS0 (fun hHeld => ?_)
  clear hS0
  refine wpAnyH_take (i := 0) (oi := _) (v := .pointer (some ⟨rb, 0, none⟩)) rfl (by kernel_rfl) (by kernel_rfl) (by kernel_rfl) (fun _ _ _ h => by cases h.1) (Or.inl ⟨by rfl, ?_⟩) (by assumption) ?_
  · clear hHeld; intro X hSw; obtain ⟨q1, q2⟩ := HSW.out X hSw; clear hSw; go_simp
  simp only [Act.put, List.getElem_toArray, List.getElem_cons_zero, List.getElem_cons_succ, List.setIfInBounds_toArray, List.set_cons_zero, List.set_cons_succ]
  refine wpAnyH_take (i := 1) (oi := _) (v := .pointer (some ⟨w.heap.size, 1, none⟩)) rfl (by kernel_rfl) (by kernel_rfl) (by kernel_rfl) (fun _ _ _ h => by cases h.1) (Or.inl ⟨by rfl, ?_⟩) (by assumption) ?_
  · clear hHeld; intro X hSw; obtain ⟨q1, q2⟩ := HSW.out X hSw; clear hSw; go_simp
  simp only [Act.put, List.getElem_toArray, List.getElem_cons_zero, List.getElem_cons_succ, List.setIfInBounds_toArray, List.set_cons_zero, List.set_cons_succ]
  refine wpAnyH_take (i := 2) (oi := _) (v := .int .i64 5) rfl (by kernel_rfl) (by kernel_rfl) (by kernel_rfl) (fun _ _ _ h => by cases h.1) (Or.inl ⟨by rfl, ?_⟩) (by assumption) ?_
  · clear hHeld; intro X hSw; obtain ⟨q1, q2⟩ := HSW.out X hSw; clear hSw; go_simp
  simp only [Act.put, List.getElem_toArray, List.getElem_cons_zero, List.getElem_cons_succ, List.setIfInBounds_toArray, List.set_cons_zero, List.set_cons_succ]
  refine wpAnyH_take (i := 3) (oi := _) (v := .pointer (some ⟨w.heap.size, 3, none⟩)) rfl (by kernel_rfl) (by kernel_rfl) (by kernel_rfl) (fun _ _ _ h => by cases h.1) (Or.inl ⟨by rfl, ?_⟩) (by assumption) ?_
  · clear hHeld; intro X hSw; obtain ⟨q1, q2⟩ := HSW.out X hSw; clear hSw; go_simp
  simp only [Act.put, List.getElem_toArray, List.getElem_cons_zero, List.getElem_cons_succ, List.setIfInBounds_toArray, List.set_cons_zero, List.set_cons_succ]
  refine wpAnyH_take (i := 4) (oi := _) (v := .int .i64 a3) rfl (by kernel_rfl) (by kernel_rfl) (by kernel_rfl) (fun _ _ _ h => by cases h.1) (Or.inl ⟨by rfl, ?_⟩) (by assumption) ?_
  · clear hHeld; intro X hSw; obtain ⟨q1, q2⟩ := HSW.out X hSw; clear hSw; go_simp
  simp only [Act.put, List.getElem_toArray, List.getElem_cons_zero, List.getElem_cons_succ, List.setIfInBounds_toArray, List.set_cons_zero, List.set_cons_succ]
  refine wpAnyH_take (i := 5) (oi := _) (v := .pointer (some ⟨rb, 0, none⟩)) rfl (by kernel_rfl) (by kernel_rfl) (by kernel_rfl) (fun _ _ _ h => by cases h.1) (Or.inl ⟨by rfl, ?_⟩) (by assumption) ?_
  · clear hHeld; intro X hSw; obtain ⟨q1, q2⟩ := HSW.out X hSw; clear hSw; go_simp
  simp only [Act.put, List.getElem_toArray, List.getElem_cons_zero, List.getElem_cons_succ, List.setIfInBounds_toArray, List.set_cons_zero, List.set_cons_succ]
  refine wpAnyH_take (i := 6) (oi := _) (v := .pointer (some ⟨rb, 1, none⟩)) rfl (by kernel_rfl) (by kernel_rfl) (by kernel_rfl) (fun _ _ _ h => by cases h.1) (Or.inl ⟨by rfl, ?_⟩) (by assumption) ?_
  · clear hHeld; intro X hSw; obtain ⟨q1, q2⟩ := HSW.out X hSw; clear hSw; go_simp
  simp only [Act.put, List.getElem_toArray, List.getElem_cons_zero, List.getElem_cons_succ, List.setIfInBounds_toArray, List.set_cons_zero, List.set_cons_succ]
  refine wpAnyH_take (i := 7) (oi := _) (v := .pointer (some ⟨rb, 6, none⟩)) rfl (by kernel_rfl) (by kernel_rfl) (by kernel_rfl) (fun _ _ _ h => by cases h.1) (Or.inl ⟨by rfl, ?_⟩) (by assumption) ?_
  · clear hHeld; intro X hSw; obtain ⟨q1, q2⟩ := HSW.out X hSw; clear hSw; go_simp
  simp only [Act.put, List.getElem_toArray, List.getElem_cons_zero, List.getElem_cons_succ, List.setIfInBounds_toArray, List.set_cons_zero, List.set_cons_succ]
  refine wpAnyH_ready (rs := [8]) (by kernel_rfl) (by simp) ?_
  refine AllReadyH.cons (o := _) rfl (fun K hK => ?_) (AllReadyH.nil)
  rw [if_pos (by rfl)]
  simp only [List.getElem_toArray, List.getElem_cons_zero, List.getElem_cons_succ]
  have HK := Lib.hid hK
  clear hK hHeld
  go_wp2_with fail
  refine HK.out _ _ HS3.out (fun hHeld => ?_)
  clear HK
  refine wpAnyH_done (by kernel_rfl) ?_ _
  clear HSW hHeld d5 d6
  refine ⟨rfl, ?_⟩
  go_wp2_with (go_quiet (fail))
  go_ret2
  exact ⟨HF.out.1, HF.out.2.1, HF.out.2.2.drewN _⟩
set_option maxRecDepth 100000 in
set_option maxHeartbeats 4000000 in
theorem rtake_less6 (w : World) (rb : Nat) (boot a0 a2 a3 a4 a5 a6 a7 a8 a9 a10 : Int) (c11 c12 c13 c14 c15 : Value) (g : Int → Int) (h : w.heap[rb]? = some (.cells (refC boot g) 51 (0, 0))) (h3 : ¬ a3 < 1) (h4 : a3 < g 6) :
    Calls Try.prog 12 #[.pointer (some ⟨rb, 0, none⟩), .agg #[.int .i8 a0, .int .i64 6, .int .i64 a2, .int .i64 a3, .int .i64 a4, .int .i64 a5, .int .i64 a6, .int .i64 a7, .int .i64 a8, .int .i64 a9, .int .i64 a10, c11, c12, c13, c14, c15]] w (RTakeC w rb boot 6 a3 a4 g) := by
  obtain ⟨B, hB⟩ : ∃ B, B = w.alloc (.cells #[.int .i8 a0, .int .i64 6, .int .i64 a2, .int .i64 a3, .int .i64 a4, .int .i64 a5, .int .i64 a6, .int .i64 a7, .int .i64 a8, .int .i64 a9, .int .i64 a10, c11, c12, c13, c14, c15] 39) := ⟨_, rfl⟩
  have bB : Below w.heap.size w B := by rw [hB]; exact (Below.refl _ _).alloc (Nat.le_refl _) _
  have eB : B.heap[w.heap.size]? = some (.cells #[.int .i8 a0, .int .i64 6, .int .i64 a2, .int .i64 a3, .int .i64 a4, .int .i64 a5, .int .i64 a6, .int .i64 a7, .int .i64 a8, .int .i64 a9, .int .i64 a10, c11, c12, c13, c14, c15] 39 (0, 0)) := by rw [hB]; exact heap_alloc_new _ _
  have c1 : B.cell? ⟨w.heap.size, 1, none⟩ = some (.int .i64 6) := by rw [cell_of_row _ _ 1 _ _ _ eB]; rfl
  have c3 : B.cell? ⟨w.heap.size, 3, none⟩ = some (.int .i64 a3) := by rw [cell_of_row _ _ 3 _ _ _ eB]; rfl
  have c4 : B.cell? ⟨w.heap.size, 4, none⟩ = some (.int .i64 a4) := by rw [cell_of_row _ _ 4 _ _ _ eB]; rfl
  have hr := (bB.block _ (lt_of_heap h)).trans h
  have ck : B.cell? ⟨rb, 7, none⟩ = some (.int .i64 (g 6)) := (ref_cell hr).2 6 (by decide)
  have HE := Lib.hid (rtakeC_no (s := a4) (boot := boot) (show takes g 6 a3 = false by unfold takes; rw [decide_eq_false (show ¬ g 6 ≤ a3 by omega)]; simp) h bB)
  have HB := Lib.hid hB
  clear h hr bB eB hB c4
  have hd3 := decide_eq_false h3; have hd4 := decide_eq_true h4
  go_enter Try.func12, Try.ntmps12
  go_upto_region 1 with fail
  change Code.wp _ _ _ _ (w.alloc (.cells #[.int .i8 a0, .int .i64 6, .int .i64 a2, .int .i64 a3, .int .i64 a4, .int .i64 a5, .int .i64 a6, .int .i64 a7, .int .i64 a8, .int .i64 a9, .int .i64 a10, c11, c12, c13, c14, c15] 39))
  rw [← HB.out]
  go_wp2_with (go_quiet (fail))
  go_ret2
  exact ⟨HE.out.1, HE.out.2.1, HE.out.2.2.drewN _⟩
set_option maxRecDepth 100000 in
set_option maxHeartbeats 4000000 in
theorem rtake_hit6 (w : World) (rb : Nat) (boot a0 a2 a3 a4 a5 a6 a7 a8 a9 a10 : Int) (c11 c12 c13 c14 c15 : Value) (g : Int → Int) (h : w.heap[rb]? = some (.cells (refC boot g) 51 (0, 0))) (h3 : ¬ a3 < 1) (h4 : ¬ a3 < g 6) :
    Calls Try.prog 12 #[.pointer (some ⟨rb, 0, none⟩), .agg #[.int .i8 a0, .int .i64 6, .int .i64 a2, .int .i64 a3, .int .i64 a4, .int .i64 a5, .int .i64 a6, .int .i64 a7, .int .i64 a8, .int .i64 a9, .int .i64 a10, c11, c12, c13, c14, c15]] w (RTakeC w rb boot 6 a3 a4 g) := by
  obtain ⟨B, hB⟩ : ∃ B, B = w.alloc (.cells #[.int .i8 a0, .int .i64 6, .int .i64 a2, .int .i64 a3, .int .i64 a4, .int .i64 a5, .int .i64 a6, .int .i64 a7, .int .i64 a8, .int .i64 a9, .int .i64 a10, c11, c12, c13, c14, c15] 39) := ⟨_, rfl⟩
  have bB : Below w.heap.size w B := by rw [hB]; exact (Below.refl _ _).alloc (Nat.le_refl _) _
  have eB : B.heap[w.heap.size]? = some (.cells #[.int .i8 a0, .int .i64 6, .int .i64 a2, .int .i64 a3, .int .i64 a4, .int .i64 a5, .int .i64 a6, .int .i64 a7, .int .i64 a8, .int .i64 a9, .int .i64 a10, c11, c12, c13, c14, c15] 39 (0, 0)) := by rw [hB]; exact heap_alloc_new _ _
  have c1 : B.cell? ⟨w.heap.size, 1, none⟩ = some (.int .i64 6) := by rw [cell_of_row _ _ 1 _ _ _ eB]; rfl
  have c3 : B.cell? ⟨w.heap.size, 3, none⟩ = some (.int .i64 a3) := by rw [cell_of_row _ _ 3 _ _ _ eB]; rfl
  have c4 : B.cell? ⟨w.heap.size, 4, none⟩ = some (.int .i64 a4) := by rw [cell_of_row _ _ 4 _ _ _ eB]; rfl
  have hr := (bB.block _ (lt_of_heap h)).trans h
  have ck : B.cell? ⟨rb, 7, none⟩ = some (.int .i64 (g 6)) := (ref_cell hr).2 6 (by decide)
  have f0 : B.frozen? ⟨rb, 7, none⟩ = false := frozen_of_row _ _ 7 _ _ hr
  obtain ⟨Z, hZ⟩ : ∃ Z, Z = B.setCell ⟨rb, 7, none⟩ (.int .i64 a3) := ⟨_, rfl⟩
  have htk : takes g 6 a3 = true := by unfold takes; rw [decide_eq_true (show 1 ≤ a3 by omega), decide_eq_true (show g 6 ≤ a3 by omega)]; rfl
  have hne : rb ≠ w.heap.size := by have := lt_of_heap h; omega
  have rZ : Z.heap[rb]? = some (.cells (refC boot (after g 6 a3)) 51 (0, 0)) := by
    rw [hZ, heap_setCell_same _ _ 7 _ _ _ hr]
    unfold after updI refC
    rw [htk]
    simp
  have tZ : Touched w Z (fun q => q = rb) := by
    rw [hZ]
    exact (Below.touched bB _).trans (Touched.setCell (S := fun q => q = rb) rfl _) fun q hq => Or.inl hq
  have mZ : Z.heap[w.heap.size]? = some (.cells #[.int .i8 a0, .int .i64 6, .int .i64 a2, .int .i64 a3, .int .i64 a4, .int .i64 a5, .int .i64 a6, .int .i64 a7, .int .i64 a8, .int .i64 a9, .int .i64 a10, c11, c12, c13, c14, c15] 39 (0, 0)) := by
    rw [hZ, Below.heap_setCell _ _ _ _ (fun e => hne e.symm)]; exact eB
  have z0 := (ref_cell rZ).1
  have z4 : Z.cell? ⟨w.heap.size, 4, none⟩ = some (.int .i64 a4) := by rw [cell_of_row _ _ 4 _ _ _ mZ]; rfl
  have HE := Lib.hid (show RTakeC w rb boot 6 a3 a4 g (.returned (.tuple #[.bool (a4 == boot), .bool (!(a4 == boot))])) Z from ⟨by rw [htk]; rfl, rZ, tZ⟩)
  have HB := Lib.hid (And.intro hB hZ)
  have HNE := Lib.hid (fun (e : w.heap.size = rb) => hne e.symm)
  clear h hr bB eB hB c4 htk hne rZ tZ mZ hZ
  have hd3 := decide_eq_false h3; have hd4 := decide_eq_false h4
  go_enter Try.func12, Try.ntmps12
  go_upto_region 1 with fail
  change Code.wp _ _ _ _ (w.alloc (.cells #[.int .i8 a0, .int .i64 6, .int .i64 a2, .int .i64 a3, .int .i64 a4, .int .i64 a5, .int .i64 a6, .int .i64 a7, .int .i64 a8, .int .i64 a9, .int .i64 a10, c11, c12, c13, c14, c15] 39))
  rw [← HB.out.1]
  go_upto_region 3 with (go_quiet (fail))
  have hWh : ((B.drewN (nq + 1)).setCell ⟨rb, 7, none⟩ (.int .i64 a3)).heap = Z.heap := by rw [HB.out.2]; rfl
  have y0 := (World.cell?_of_block (a := ⟨rb, 0, none⟩) (by rw [hWh])).trans z0
  have y4 := (World.cell?_of_block (a := ⟨w.heap.size, 4, none⟩) (by rw [hWh])).trans z4
  have tW : Touched w ((B.drewN (nq + 1)).setCell ⟨rb, 7, none⟩ (.int .i64 a3)) (fun q => q = rb) := by
    have h := HE.out.2.2
    rw [HB.out.2] at h
    exact ⟨h.os, h.tape, h.output, h.size, h.block⟩
  have rW : ((B.drewN (nq + 1)).setCell ⟨rb, 7, none⟩ (.int .i64 a3)).heap[rb]? = some (.cells (refC boot (after g 6 a3)) 51 (0, 0)) := by rw [hWh]; exact HE.out.2.1
  have HF := Lib.hid (And.intro HE.out.1 (And.intro rW tW))
  obtain ⟨SW, hSW⟩ : ∃ SW : World → Prop, SW = fun Z => Z.cell? ⟨w.heap.size, 1, none⟩ = some (.int .i64 6) ∧ Z.cell? ⟨w.heap.size, 3, none⟩ = some (.int .i64 a3) := ⟨_, rfl⟩
  have HSW := Lib.hid (fun (Z : World) (h : SW Z) => (show Z.cell? ⟨w.heap.size, 1, none⟩ = some (.int .i64 6) ∧ Z.cell? ⟨w.heap.size, 3, none⟩ = some (.int .i64 a3) by rw [hSW] at h; exact h))
  have hS0 : SW (B.drewN nq).drew := by rw [hSW]; exact ⟨c1, c3⟩
  have hS3 : SW ((B.drewN (nq + 1)).setCell ⟨rb, 7, none⟩ (.int .i64 a3)) := by
    rw [hSW]
    exact ⟨(World.cell?_of_block (a := ⟨w.heap.size, 1, none⟩) (Below.heap_setCell _ _ _ _ HNE.out)).trans c1, (World.cell?_of_block (a := ⟨w.heap.size, 3, none⟩) (Below.heap_setCell _ _ _ _ HNE.out)).trans c3⟩
  have HS3 := Lib.hid hS3
  have d5 : (B.drewN (nq + 1)).cell? ⟨rb, 7, none⟩ = some (.int .i64 (g 6)) := ck
  have d6 : (B.drewN (nq + 1)).frozen? ⟨rb, 7, none⟩ = false := f0
  clear hSW hS3 hWh tW rW HE z0 z4 ck f0 c1 c3
  refine wp_calmL ?_
  refine wp_region_held_drew (S := SW) (by kernel_rfl) hS0 (fun hHeld => ?_)
  clear hS0
  refine wpAnyH_take (i := 0) (oi := _) (v := .pointer (some ⟨rb, 0, none⟩)) rfl (by kernel_rfl) (by kernel_rfl) (by kernel_rfl) (fun _ _ _ h => by cases h.1) (Or.inl ⟨by rfl, ?_⟩) (by assumption) ?_
  · clear hHeld; intro X hSw; obtain ⟨q1, q2⟩ := HSW.out X hSw; clear hSw; go_simp
  simp only [Act.put, List.getElem_toArray, List.getElem_cons_zero, List.getElem_cons_succ, List.setIfInBounds_toArray, List.set_cons_zero, List.set_cons_succ]
  refine wpAnyH_take (i := 1) (oi := _) (v := .pointer (some ⟨w.heap.size, 1, none⟩)) rfl (by kernel_rfl) (by kernel_rfl) (by kernel_rfl) (fun _ _ _ h => by cases h.1) (Or.inl ⟨by rfl, ?_⟩) (by assumption) ?_
  · clear hHeld; intro X hSw; obtain ⟨q1, q2⟩ := HSW.out X hSw; clear hSw; go_simp
  simp only [Act.put, List.getElem_toArray, List.getElem_cons_zero, List.getElem_cons_succ, List.setIfInBounds_toArray, List.set_cons_zero, List.set_cons_succ]
  refine wpAnyH_take (i := 2) (oi := _) (v := .int .i64 6) rfl (by kernel_rfl) (by kernel_rfl) (by kernel_rfl) (fun _ _ _ h => by cases h.1) (Or.inl ⟨by rfl, ?_⟩) (by assumption) ?_
  · clear hHeld; intro X hSw; obtain ⟨q1, q2⟩ := HSW.out X hSw; clear hSw; go_simp
  simp only [Act.put, List.getElem_toArray, List.getElem_cons_zero, List.getElem_cons_succ, List.setIfInBounds_toArray, List.set_cons_zero, List.set_cons_succ]
  refine wpAnyH_take (i := 3) (oi := _) (v := .pointer (some ⟨w.heap.size, 3, none⟩)) rfl (by kernel_rfl) (by kernel_rfl) (by kernel_rfl) (fun _ _ _ h => by cases h.1) (Or.inl ⟨by rfl, ?_⟩) (by assumption) ?_
  · clear hHeld; intro X hSw; obtain ⟨q1, q2⟩ := HSW.out X hSw; clear hSw; go_simp
  simp only [Act.put, List.getElem_toArray, List.getElem_cons_zero, List.getElem_cons_succ, List.setIfInBounds_toArray, List.set_cons_zero, List.set_cons_succ]
  refine wpAnyH_take (i := 4) (oi := _) (v := .int .i64 a3) rfl (by kernel_rfl) (by kernel_rfl) (by kernel_rfl) (fun _ _ _ h => by cases h.1) (Or.inl ⟨by rfl, ?_⟩) (by assumption) ?_
  · clear hHeld; intro X hSw; obtain ⟨q1, q2⟩ := HSW.out X hSw; clear hSw; go_simp
  simp only [Act.put, List.getElem_toArray, List.getElem_cons_zero, List.getElem_cons_succ, List.setIfInBounds_toArray, List.set_cons_zero, List.set_cons_succ]
  refine wpAnyH_take (i := 5) (oi := _) (v := .pointer (some ⟨rb, 0, none⟩)) rfl (by kernel_rfl) (by kernel_rfl) (by kernel_rfl) (fun _ _ _ h => by cases h.1) (Or.inl ⟨by rfl, ?_⟩) (by assumption) ?_
  · clear hHeld; intro X hSw; obtain ⟨q1, q2⟩ := HSW.out X hSw; clear hSw; go_simp
  simp only [Act.put, List.getElem_toArray, List.getElem_cons_zero, List.getElem_cons_succ, List.setIfInBounds_toArray, List.set_cons_zero, List.set_cons_succ]
  refine wpAnyH_take (i := 6) (oi := _) (v := .pointer (some ⟨rb, 1, none⟩)) rfl (by kernel_rfl) (by kernel_rfl) (by kernel_rfl) (fun _ _ _ h => by cases h.1) (Or.inl ⟨by rfl, ?_⟩) (by assumption) ?_
  · clear hHeld; intro X hSw; obtain ⟨q1, q2⟩ := HSW.out X hSw; clear hSw; go_simp
  simp only [Act.put, List.getElem_toArray, List.getElem_cons_zero, List.getElem_cons_succ, List.setIfInBounds_toArray, List.set_cons_zero, List.set_cons_succ]
  refine wpAnyH_take (i := 7) (oi := _) (v := .pointer (some ⟨rb, 7, none⟩)) rfl (by kernel_rfl) (by kernel_rfl) (by kernel_rfl) (fun _ _ _ h => by cases h.1) (Or.inl ⟨by rfl, ?_⟩) (by assumption) ?_
  · clear hHeld; intro X hSw; obtain ⟨q1, q2⟩ := HSW.out X hSw; clear hSw; go_simp
  simp only [Act.put, List.getElem_toArray, List.getElem_cons_zero, List.getElem_cons_succ, List.setIfInBounds_toArray, List.set_cons_zero, List.set_cons_succ]
  refine wpAnyH_ready (rs := [8]) (by kernel_rfl) (by simp) ?_
  refine AllReadyH.cons (o := _) rfl (fun K hK => ?_) (AllReadyH.nil)
  rw [if_pos (by rfl)]
  simp only [List.getElem_toArray, List.getElem_cons_zero, List.getElem_cons_succ]
  have HK := Lib.hid hK
  clear hK hHeld
  go_wp2_with fail
  refine HK.out _ _ HS3.out (fun hHeld => ?_)
  clear HK
  refine wpAnyH_done (by kernel_rfl) ?_ _
  clear HSW hHeld d5 d6
  refine ⟨rfl, ?_⟩
  go_wp2_with (go_quiet (fail))
  go_ret2
  exact ⟨HF.out.1, HF.out.2.1, HF.out.2.2.drewN _⟩
set_option maxRecDepth 100000 in
set_option maxHeartbeats 4000000 in
theorem rtake_less7 (w : World) (rb : Nat) (boot a0 a2 a3 a4 a5 a6 a7 a8 a9 a10 : Int) (c11 c12 c13 c14 c15 : Value) (g : Int → Int) (h : w.heap[rb]? = some (.cells (refC boot g) 51 (0, 0))) (h3 : ¬ a3 < 1) (h4 : a3 < g 7) :
    Calls Try.prog 12 #[.pointer (some ⟨rb, 0, none⟩), .agg #[.int .i8 a0, .int .i64 7, .int .i64 a2, .int .i64 a3, .int .i64 a4, .int .i64 a5, .int .i64 a6, .int .i64 a7, .int .i64 a8, .int .i64 a9, .int .i64 a10, c11, c12, c13, c14, c15]] w (RTakeC w rb boot 7 a3 a4 g) := by
  obtain ⟨B, hB⟩ : ∃ B, B = w.alloc (.cells #[.int .i8 a0, .int .i64 7, .int .i64 a2, .int .i64 a3, .int .i64 a4, .int .i64 a5, .int .i64 a6, .int .i64 a7, .int .i64 a8, .int .i64 a9, .int .i64 a10, c11, c12, c13, c14, c15] 39) := ⟨_, rfl⟩
  have bB : Below w.heap.size w B := by rw [hB]; exact (Below.refl _ _).alloc (Nat.le_refl _) _
  have eB : B.heap[w.heap.size]? = some (.cells #[.int .i8 a0, .int .i64 7, .int .i64 a2, .int .i64 a3, .int .i64 a4, .int .i64 a5, .int .i64 a6, .int .i64 a7, .int .i64 a8, .int .i64 a9, .int .i64 a10, c11, c12, c13, c14, c15] 39 (0, 0)) := by rw [hB]; exact heap_alloc_new _ _
  have c1 : B.cell? ⟨w.heap.size, 1, none⟩ = some (.int .i64 7) := by rw [cell_of_row _ _ 1 _ _ _ eB]; rfl
  have c3 : B.cell? ⟨w.heap.size, 3, none⟩ = some (.int .i64 a3) := by rw [cell_of_row _ _ 3 _ _ _ eB]; rfl
  have c4 : B.cell? ⟨w.heap.size, 4, none⟩ = some (.int .i64 a4) := by rw [cell_of_row _ _ 4 _ _ _ eB]; rfl
  have hr := (bB.block _ (lt_of_heap h)).trans h
  have ck : B.cell? ⟨rb, 8, none⟩ = some (.int .i64 (g 7)) := (ref_cell hr).2 7 (by decide)
  have HE := Lib.hid (rtakeC_no (s := a4) (boot := boot) (show takes g 7 a3 = false by unfold takes; rw [decide_eq_false (show ¬ g 7 ≤ a3 by omega)]; simp) h bB)
  have HB := Lib.hid hB
  clear h hr bB eB hB c4
  have hd3 := decide_eq_false h3; have hd4 := decide_eq_true h4
  go_enter Try.func12, Try.ntmps12
  go_upto_region 1 with fail
  change Code.wp _ _ _ _ (w.alloc (.cells #[.int .i8 a0, .int .i64 7, .int .i64 a2, .int .i64 a3, .int .i64 a4, .int .i64 a5, .int .i64 a6, .int .i64 a7, .int .i64 a8, .int .i64 a9, .int .i64 a10, c11, c12, c13, c14, c15] 39))
  rw [← HB.out]
  go_wp2_with (go_quiet (fail))
  go_ret2
  exact ⟨HE.out.1, HE.out.2.1, HE.out.2.2.drewN _⟩
set_option maxRecDepth 100000 in
set_option maxHeartbeats 4000000 in
theorem rtake_hit7 (w : World) (rb : Nat) (boot a0 a2 a3 a4 a5 a6 a7 a8 a9 a10 : Int) (c11 c12 c13 c14 c15 : Value) (g : Int → Int) (h : w.heap[rb]? = some (.cells (refC boot g) 51 (0, 0))) (h3 : ¬ a3 < 1) (h4 : ¬ a3 < g 7) :
    Calls Try.prog 12 #[.pointer (some ⟨rb, 0, none⟩), .agg #[.int .i8 a0, .int .i64 7, .int .i64 a2, .int .i64 a3, .int .i64 a4, .int .i64 a5, .int .i64 a6, .int .i64 a7, .int .i64 a8, .int .i64 a9, .int .i64 a10, c11, c12, c13, c14, c15]] w (RTakeC w rb boot 7 a3 a4 g) := by
  obtain ⟨B, hB⟩ : ∃ B, B = w.alloc (.cells #[.int .i8 a0, .int .i64 7, .int .i64 a2, .int .i64 a3, .int .i64 a4, .int .i64 a5, .int .i64 a6, .int .i64 a7, .int .i64 a8, .int .i64 a9, .int .i64 a10, c11, c12, c13, c14, c15] 39) := ⟨_, rfl⟩
  have bB : Below w.heap.size w B := by rw [hB]; exact (Below.refl _ _).alloc (Nat.le_refl _) _
  have eB : B.heap[w.heap.size]? = some (.cells #[.int .i8 a0, .int .i64 7, .int .i64 a2, .int .i64 a3, .int .i64 a4, .int .i64 a5, .int .i64 a6, .int .i64 a7, .int .i64 a8, .int .i64 a9, .int .i64 a10, c11, c12, c13, c14, c15] 39 (0, 0)) := by rw [hB]; exact heap_alloc_new _ _
  have c1 : B.cell? ⟨w.heap.size, 1, none⟩ = some (.int .i64 7) := by rw [cell_of_row _ _ 1 _ _ _ eB]; rfl
  have c3 : B.cell? ⟨w.heap.size, 3, none⟩ = some (.int .i64 a3) := by rw [cell_of_row _ _ 3 _ _ _ eB]; rfl
  have c4 : B.cell? ⟨w.heap.size, 4, none⟩ = some (.int .i64 a4) := by rw [cell_of_row _ _ 4 _ _ _ eB]; rfl
  have hr := (bB.block _ (lt_of_heap h)).trans h
  have ck : B.cell? ⟨rb, 8, none⟩ = some (.int .i64 (g 7)) := (ref_cell hr).2 7 (by decide)
  have f0 : B.frozen? ⟨rb, 8, none⟩ = false := frozen_of_row _ _ 8 _ _ hr
  obtain ⟨Z, hZ⟩ : ∃ Z, Z = B.setCell ⟨rb, 8, none⟩ (.int .i64 a3) := ⟨_, rfl⟩
  have htk : takes g 7 a3 = true := by unfold takes; rw [decide_eq_true (show 1 ≤ a3 by omega), decide_eq_true (show g 7 ≤ a3 by omega)]; rfl
  have hne : rb ≠ w.heap.size := by have := lt_of_heap h; omega
  have rZ : Z.heap[rb]? = some (.cells (refC boot (after g 7 a3)) 51 (0, 0)) := by
    rw [hZ, heap_setCell_same _ _ 8 _ _ _ hr]
    unfold after updI refC
    rw [htk]
    simp
  have tZ : Touched w Z (fun q => q = rb) := by
    rw [hZ]
    exact (Below.touched bB _).trans (Touched.setCell (S := fun q => q = rb) rfl _) fun q hq => Or.inl hq
  have mZ : Z.heap[w.heap.size]? = some (.cells #[.int .i8 a0, .int .i64 7, .int .i64 a2, .int .i64 a3, .int .i64 a4, .int .i64 a5, .int .i64 a6, .int .i64 a7, .int .i64 a8, .int .i64 a9, .int .i64 a10, c11, c12, c13, c14, c15] 39 (0, 0)) := by
    rw [hZ, Below.heap_setCell _ _ _ _ (fun e => hne e.symm)]; exact eB
  have z0 := (ref_cell rZ).1
  have z4 : Z.cell? ⟨w.heap.size, 4, none⟩ = some (.int .i64 a4) := by rw [cell_of_row _ _ 4 _ _ _ mZ]; rfl
  have HE := Lib.hid (show RTakeC w rb boot 7 a3 a4 g (.returned (.tuple #[.bool (a4 == boot), .bool (!(a4 == boot))])) Z from ⟨by rw [htk]; rfl, rZ, tZ⟩)
  have HB := Lib.hid (And.intro hB hZ)
  have HNE := Lib.hid (fun (e : w.heap.size = rb) => hne e.symm)
  clear h hr bB eB hB c4 htk hne rZ tZ mZ hZ
  have hd3 := decide_eq_false h3; have hd4 := decide_eq_false h4
  go_enter Try.func12, Try.ntmps12
  go_upto_region 1 with fail
  change Code.wp _ _ _ _ (w.alloc (.cells #[.int .i8 a0, .int .i64 7, .int .i64 a2, .int .i64 a3, .int .i64 a4, .int .i64 a5, .int .i64 a6, .int .i64 a7, .int .i64 a8, .int .i64 a9, .int .i64 a10, c11, c12, c13, c14, c15] 39))
  rw [← HB.out.1]
  go_upto_region 3 with (go_quiet (fail))
  have hWh : ((B.drewN (nq + 1)).setCell ⟨rb, 8, none⟩ (.int .i64 a3)).heap = Z.heap := by rw [HB.out.2]; rfl
  have y0 := (World.cell?_of_block (a := ⟨rb, 0, none⟩) (by rw [hWh])).trans z0
  have y4 := (World.cell?_of_block (a := ⟨w.heap.size, 4, none⟩) (by rw [hWh])).trans z4
  have tW : Touched w ((B.drewN (nq + 1)).setCell ⟨rb, 8, none⟩ (.int .i64 a3)) (fun q => q = rb) := by
    have h := HE.out.2.2
    rw [HB.out.2] at h
    exact ⟨h.os, h.tape, h.output, h.size, h.block⟩
  have rW : ((B.drewN (nq + 1)).setCell ⟨rb, 8, none⟩ (.int .i64 a3)).heap[rb]? = some (.cells (refC boot (after g 7 a3)) 51 (0, 0)) := by rw [hWh]; exact HE.out.2.1
  have HF := Lib.hid (And.intro HE.out.1 (And.intro rW tW))
  obtain ⟨SW, hSW⟩ : ∃ SW : World → Prop, SW = fun Z => Z.cell? ⟨w.heap.size, 1, none⟩ = some (.int .i64 7) ∧ Z.cell? ⟨w.heap.size, 3, none⟩ = some (.int .i64 a3) := ⟨_, rfl⟩
  have HSW := Lib.hid (fun (Z : World) (h : SW Z) => (show Z.cell? ⟨w.heap.size, 1, none⟩ = some (.int .i64 7) ∧ Z.cell? ⟨w.heap.size, 3, none⟩ = some (.int .i64 a3) by rw [hSW] at h; exact h))
  have hS0 : SW (B.drewN nq).drew := by rw [hSW]; exact ⟨c1, c3⟩
  have hS3 : SW ((B.drewN (nq + 1)).setCell ⟨rb, 8, none⟩ (.int .i64 a3)) := by
    rw [hSW]
    exact ⟨(World.cell?_of_block (a := ⟨w.heap.size, 1, none⟩) (Below.heap_setCell _ _ _ _ HNE.out)).trans c1, (World.cell?_of_block (a := ⟨w.heap.size, 3, none⟩) (Below.heap_setCell _ _ _ _ HNE.out)).trans c3⟩
  have HS3 := Lib.hid hS3
  have d5 : (B.drewN (nq + 1)).cell? ⟨rb, 8, none⟩ = some (.int .i64 (g 7)) := ck
  have d6 : (B.drewN (nq + 1)).frozen? ⟨rb, 8, none⟩ = false := f0
  clear hSW hS3 hWh tW rW HE z0 z4 ck f0 c1 c3
  refine wp_calmL ?_
  refine wp_region_held_drew (S := SW) (by kernel_rfl) hS0 (fun hHeld => ?_)
  clear hS0
  refine wpAnyH_take (i := 0) (oi := _) (v := .pointer (some ⟨rb, 0, none⟩)) rfl (by kernel_rfl) (by kernel_rfl) (by kernel_rfl) (fun _ _ _ h => by cases h.1) (Or.inl ⟨by rfl, ?_⟩) (by assumption) ?_
  · clear hHeld; intro X hSw; obtain ⟨q1, q2⟩ := HSW.out X hSw; clear hSw; go_simp
  simp only [Act.put, List.getElem_toArray, List.getElem_cons_zero, List.getElem_cons_succ, List.setIfInBounds_toArray, List.set_cons_zero, List.set_cons_succ]
  refine wpAnyH_take (i := 1) (oi := _) (v := .pointer (some ⟨w.heap.size, 1, none⟩)) rfl (by kernel_rfl) (by kernel_rfl) (by kernel_rfl) (fun _ _ _ h => by cases h.1) (Or.inl ⟨by rfl, ?_⟩) (by assumption) ?_
  · clear hHeld; intro X hSw; obtain ⟨q1, q2⟩ := HSW.out X hSw; clear hSw; go_simp
  simp only [Act.put, List.getElem_toArray, List.getElem_cons_zero, List.getElem_cons_succ, List.setIfInBounds_toArray, List.set_cons_zero, List.set_cons_succ]
  refine wpAnyH_take (i := 2) (oi := _) (v := .int .i64 7) rfl (by kernel_rfl) (by kernel_rfl) (by kernel_rfl) (fun _ _ _ h => by cases h.1) (Or.inl ⟨by rfl, ?_⟩) (by assumption) ?_
  · clear hHeld; intro X hSw; obtain ⟨q1, q2⟩ := HSW.out X hSw; clear hSw; go_simp
  simp only [Act.put, List.getElem_toArray, List.getElem_cons_zero, List.getElem_cons_succ, List.setIfInBounds_toArray, List.set_cons_zero, List.set_cons_succ]
  refine wpAnyH_take (i := 3) (oi := _) (v := .pointer (some ⟨w.heap.size, 3, none⟩)) rfl (by kernel_rfl) (by kernel_rfl) (by kernel_rfl) (fun _ _ _ h => by cases h.1) (Or.inl ⟨by rfl, ?_⟩) (by assumption) ?_
  · clear hHeld; intro X hSw; obtain ⟨q1, q2⟩ := HSW.out X hSw; clear hSw; go_simp
  simp only [Act.put, List.getElem_toArray, List.getElem_cons_zero, List.getElem_cons_succ, List.setIfInBounds_toArray, List.set_cons_zero, List.set_cons_succ]
  refine wpAnyH_take (i := 4) (oi := _) (v := .int .i64 a3) rfl (by kernel_rfl) (by kernel_rfl) (by kernel_rfl) (fun _ _ _ h => by cases h.1) (Or.inl ⟨by rfl, ?_⟩) (by assumption) ?_
  · clear hHeld; intro X hSw; obtain ⟨q1, q2⟩ := HSW.out X hSw; clear hSw; go_simp
  simp only [Act.put, List.getElem_toArray, List.getElem_cons_zero, List.getElem_cons_succ, List.setIfInBounds_toArray, List.set_cons_zero, List.set_cons_succ]
  refine wpAnyH_take (i := 5) (oi := _) (v := .pointer (some ⟨rb, 0, none⟩)) rfl (by kernel_rfl) (by kernel_rfl) (by kernel_rfl) (fun _ _ _ h => by cases h.1) (Or.inl ⟨by rfl, ?_⟩) (by assumption) ?_
  · clear hHeld; intro X hSw; obtain ⟨q1, q2⟩ := HSW.out X hSw; clear hSw; go_simp
  simp only [Act.put, List.getElem_toArray, List.getElem_cons_zero, List.getElem_cons_succ, List.setIfInBounds_toArray, List.set_cons_zero, List.set_cons_succ]
  refine wpAnyH_take (i := 6) (oi := _) (v := .pointer (some ⟨rb, 1, none⟩)) rfl (by kernel_rfl) (by kernel_rfl) (by kernel_rfl) (fun _ _ _ h => by cases h.1) (Or.inl ⟨by rfl, ?_⟩) (by assumption) ?_
  · clear hHeld; intro X hSw; obtain ⟨q1, q2⟩ := HSW.out X hSw; clear hSw; go_simp
  simp only [Act.put, List.getElem_toArray, List.getElem_cons_zero, List.getElem_cons_succ, List.setIfInBounds_toArray, List.set_cons_zero, List.set_cons_succ]
  refine wpAnyH_take (i := 7) (oi := _) (v := .pointer (some ⟨rb, 8, none⟩)) rfl (by kernel_rfl) (by kernel_rfl) (by kernel_rfl) (fun _ _ _ h => by cases h.1) (Or.inl ⟨by rfl, ?_⟩) (by assumption) ?_
  · clear hHeld; intro X hSw; obtain ⟨q1, q2⟩ := HSW.out X hSw; clear hSw; go_simp
  simp only [Act.put, List.getElem_toArray, List.getElem_cons_zero, List.getElem_cons_succ, List.setIfInBounds_toArray, List.set_cons_zero, List.set_cons_succ]
  refine wpAnyH_ready (rs := [8]) (by kernel_rfl) (by simp) ?_
  refine AllReadyH.cons (o := _) rfl (fun K hK => ?_) (AllReadyH.nil)
  rw [if_pos (by rfl)]
  simp only [List.getElem_toArray, List.getElem_cons_zero, List.getElem_cons_succ]
  have HK := Lib.hid hK
  clear hK hHeld
  go_wp2_with fail
  refine HK.out _ _ HS3.out (fun hHeld => ?_)
  clear HK
  refine wpAnyH_done (by kernel_rfl) ?_ _
  clear HSW hHeld d5 d6
  refine ⟨rfl, ?_⟩
  go_wp2_with (go_quiet (fail))
  go_ret2
  exact ⟨HF.out.1, HF.out.2.1, HF.out.2.2.drewN _⟩
set_option maxRecDepth 100000 in
set_option maxHeartbeats 4000000 in
theorem rtake_less8 (w : World) (rb : Nat) (boot a0 a2 a3 a4 a5 a6 a7 a8 a9 a10 : Int) (c11 c12 c13 c14 c15 : Value) (g : Int → Int) (h : w.heap[rb]? = some (.cells (refC boot g) 51 (0, 0))) (h3 : ¬ a3 < 1) (h4 : a3 < g 8) :
    Calls Try.prog 12 #[.pointer (some ⟨rb, 0, none⟩), .agg #[.int .i8 a0, .int .i64 8, .int .i64 a2, .int .i64 a3, .int .i64 a4, .int .i64 a5, .int .i64 a6, .int .i64 a7, .int .i64 a8, .int .i64 a9, .int .i64 a10, c11, c12, c13, c14, c15]] w (RTakeC w rb boot 8 a3 a4 g) := by
  obtain ⟨B, hB⟩ : ∃ B, B = w.alloc (.cells #[.int .i8 a0, .int .i64 8, .int .i64 a2, .int .i64 a3, .int .i64 a4, .int .i64 a5, .int .i64 a6, .int .i64 a7, .int .i64 a8, .int .i64 a9, .int .i64 a10, c11, c12, c13, c14, c15] 39) := ⟨_, rfl⟩
  have bB : Below w.heap.size w B := by rw [hB]; exact (Below.refl _ _).alloc (Nat.le_refl _) _
  have eB : B.heap[w.heap.size]? = some (.cells #[.int .i8 a0, .int .i64 8, .int .i64 a2, .int .i64 a3, .int .i64 a4, .int .i64 a5, .int .i64 a6, .int .i64 a7, .int .i64 a8, .int .i64 a9, .int .i64 a10, c11, c12, c13, c14, c15] 39 (0, 0)) := by rw [hB]; exact heap_alloc_new _ _
  have c1 : B.cell? ⟨w.heap.size, 1, none⟩ = some (.int .i64 8) := by rw [cell_of_row _ _ 1 _ _ _ eB]; rfl
  have c3 : B.cell? ⟨w.heap.size, 3, none⟩ = some (.int .i64 a3) := by rw [cell_of_row _ _ 3 _ _ _ eB]; rfl
  have c4 : B.cell? ⟨w.heap.size, 4, none⟩ = some (.int .i64 a4) := by rw [cell_of_row _ _ 4 _ _ _ eB]; rfl
  have hr := (bB.block _ (lt_of_heap h)).trans h
  have ck : B.cell? ⟨rb, 9, none⟩ = some (.int .i64 (g 8)) := (ref_cell hr).2 8 (by decide)
  have HE := Lib.hid (rtakeC_no (s := a4) (boot := boot) (show takes g 8 a3 = false by unfold takes; rw [decide_eq_false (show ¬ g 8 ≤ a3 by omega)]; simp) h bB)
  have HB := Lib.hid hB
  clear h hr bB eB hB c4
  have hd3 := decide_eq_false h3; have hd4 := decide_eq_true h4
  go_enter Try.func12, Try.ntmps12
  go_upto_region 1 with fail
  change Code.wp _ _ _ _ (w.alloc (.cells #[.int .i8 a0, .int .i64 8, .int .i64 a2, .int .i64 a3, .int .i64 a4, .int .i64 a5, .int .i64 a6, .int .i64 a7, .int .i64 a8, .int .i64 a9, .int .i64 a10, c11, c12, c13, c14, c15] 39))
  rw [← HB.out]
  go_wp2_with (go_quiet (fail))
  go_ret2
  exact ⟨HE.out.1, HE.out.2.1, HE.out.2.2.drewN _⟩
set_option maxRecDepth 100000 in
set_option maxHeartbeats 4000000 in
theorem rtake_hit8 (w : World) (rb : Nat) (boot a0 a2 a3 a4 a5 a6 a7 a8 a9 a10 : Int) (c11 c12 c13 c14 c15 : Value) (g : Int → Int) (h : w.heap[rb]? = some (.cells (refC boot g) 51 (0, 0))) (h3 : ¬ a3 < 1) (h4 : ¬ a3 < g 8) :
    Calls Try.prog 12 #[.pointer (some ⟨rb, 0, none⟩), .agg #[.int .i8 a0, .int .i64 8, .int .i64 a2, .int .i64 a3, .int .i64 a4, .int .i64 a5, .int .i64 a6, .int .i64 a7, .int .i64 a8, .int .i64 a9, .int .i64 a10, c11, c12, c13, c14, c15]] w (RTakeC w rb boot 8 a3 a4 g) := by
  obtain ⟨B, hB⟩ : ∃ B, B = w.alloc (.cells #[.int .i8 a0, .int .i64 8, .int .i64 a2, .int .i64 a3, .int .i64 a4, .int .i64 a5, .int .i64 a6, .int .i64 a7, .int .i64 a8, .int .i64 a9, .int .i64 a10, c11, c12, c13, c14, c15] 39) := ⟨_, rfl⟩
  have bB : Below w.heap.size w B := by rw [hB]; exact (Below.refl _ _).alloc (Nat.le_refl _) _
  have eB : B.heap[w.heap.size]? = some (.cells #[.int .i8 a0, .int .i64 8, .int .i64 a2, .int .i64 a3, .int .i64 a4, .int .i64 a5, .int .i64 a6, .int .i64 a7, .int .i64 a8, .int .i64 a9, .int .i64 a10, c11, c12, c13, c14, c15] 39 (0, 0)) := by rw [hB]; exact heap_alloc_new _ _
  have c1 : B.cell? ⟨w.heap.size, 1, none⟩ = some (.int .i64 8) := by rw [cell_of_row _ _ 1 _ _ _ eB]; rfl
  have c3 : B.cell? ⟨w.heap.size, 3, none⟩ = some (.int .i64 a3) := by rw [cell_of_row _ _ 3 _ _ _ eB]; rfl
  have c4 : B.cell? ⟨w.heap.size, 4, none⟩ = some (.int .i64 a4) := by rw [cell_of_row _ _ 4 _ _ _ eB]; rfl
  have hr := (bB.block _ (lt_of_heap h)).trans h
  have ck : B.cell? ⟨rb, 9, none⟩ = some (.int .i64 (g 8)) := (ref_cell hr).2 8 (by decide)
  have f0 : B.frozen? ⟨rb, 9, none⟩ = false := frozen_of_row _ _ 9 _ _ hr
  obtain ⟨Z, hZ⟩ : ∃ Z, Z = B.setCell ⟨rb, 9, none⟩ (.int .i64 a3) := ⟨_, rfl⟩
  have htk : takes g 8 a3 = true := by unfold takes; rw [decide_eq_true (show 1 ≤ a3 by omega), decide_eq_true (show g 8 ≤ a3 by omega)]; rfl
  have hne : rb ≠ w.heap.size := by have := lt_of_heap h; omega
  have rZ : Z.heap[rb]? = some (.cells (refC boot (after g 8 a3)) 51 (0, 0)) := by
    rw [hZ, heap_setCell_same _ _ 9 _ _ _ hr]
    unfold after updI refC
    rw [htk]
    simp
  have tZ : Touched w Z (fun q => q = rb) := by
    rw [hZ]
    exact (Below.touched bB _).trans (Touched.setCell (S := fun q => q = rb) rfl _) fun q hq => Or.inl hq
  have mZ : Z.heap[w.heap.size]? = some (.cells #[.int .i8 a0, .int .i64 8, .int .i64 a2, .int .i64 a3, .int .i64 a4, .int .i64 a5, .int .i64 a6, .int .i64 a7, .int .i64 a8, .int .i64 a9, .int .i64 a10, c11, c12, c13, c14, c15] 39 (0, 0)) := by
    rw [hZ, Below.heap_setCell _ _ _ _ (fun e => hne e.symm)]; exact eB
  have z0 := (ref_cell rZ).1
  have z4 : Z.cell? ⟨w.heap.size, 4, none⟩ = some (.int .i64 a4) := by rw [cell_of_row _ _ 4 _ _ _ mZ]; rfl
  have HE := Lib.hid (show RTakeC w rb boot 8 a3 a4 g (.returned (.tuple #[.bool (a4 == boot), .bool (!(a4 == boot))])) Z from ⟨by rw [htk]; rfl, rZ, tZ⟩)
  have HB := Lib.hid (And.intro hB hZ)
  have HNE := Lib.hid (fun (e : w.heap.size = rb) => hne e.symm)
  clear h hr bB eB hB c4 htk hne rZ tZ mZ hZ
  have hd3 := decide_eq_false h3; have hd4 := decide_eq_false h4
  go_enter Try.func12, Try.ntmps12
  go_upto_region 1 with fail
  change Code.wp _ _ _ _ (w.alloc (.cells #[.int .i8 a0, .int .i64 8, .int .i64 a2, .int .i64 a3, .int .i64 a4, .int .i64 a5, .int .i64 a6, .int .i64 a7, .int .i64 a8, .int .i64 a9, .int .i64 a10, c11, c12, c13, c14, c15] 39))
  rw [← HB.out.1]
  go_upto_region 3 with (go_quiet (fail))
  have hWh : ((B.drewN (nq + 1)).setCell ⟨rb, 9, none⟩ (.int .i64 a3)).heap = Z.heap := by rw [HB.out.2]; rfl
  have y0 := (World.cell?_of_block (a := ⟨rb, 0, none⟩) (by rw [hWh])).trans z0
  have y4 := (World.cell?_of_block (a := ⟨w.heap.size, 4, none⟩) (by rw [hWh])).trans z4
  have tW : Touched w ((B.drewN (nq + 1)).setCell ⟨rb, 9, none⟩ (.int .i64 a3)) (fun q => q = rb) := by
    have h := HE.out.2.2
    rw [HB.out.2] at h
    exact ⟨h.os, h.tape, h.output, h.size, h.block⟩
  have rW : ((B.drewN (nq + 1)).setCell ⟨rb, 9, none⟩ (.int .i64 a3)).heap[rb]? = some (.cells (refC boot (after g 8 a3)) 51 (0, 0)) := by rw [hWh]; exact HE.out.2.1
  have HF := Lib.hid (And.intro HE.out.1 (And.intro rW tW))
  obtain ⟨SW, hSW⟩ : ∃ SW : World → Prop, SW = fun Z => Z.cell? ⟨w.heap.size, 1, none⟩ = some (.int .i64 8) ∧ Z.cell? ⟨w.heap.size, 3, none⟩ = some (.int .i64 a3) := ⟨_, rfl⟩
  have HSW := Lib.hid (fun (Z : World) (h : SW Z) => (show Z.cell? ⟨w.heap.size, 1, none⟩ = some (.int .i64 8) ∧ Z.cell? ⟨w.heap.size, 3, none⟩ = some (.int .i64 a3) by rw [hSW] at h; exact h))
  have hS0 : SW (B.drewN nq).drew := by rw [hSW]; exact ⟨c1, c3⟩
  have hS3 : SW ((B.drewN (nq + 1)).setCell ⟨rb, 9, none⟩ (.int .i64 a3)) := by
    rw [hSW]
    exact ⟨(World.cell?_of_block (a := ⟨w.heap.size, 1, none⟩) (Below.heap_setCell _ _ _ _ HNE.out)).trans c1, (World.cell?_of_block (a := ⟨w.heap.size, 3, none⟩) (Below.heap_setCell _ _ _ _ HNE.out)).trans c3⟩
  have HS3 := Lib.hid hS3
  have d5 : (B.drewN (nq + 1)).cell? ⟨rb, 9, none⟩ = some (.int .i64 (g 8)) := ck
  have d6 : (B.drewN (nq + 1)).frozen? ⟨rb, 9, none⟩ = false := f0
  clear hSW hS3 hWh tW rW HE z0 z4 ck f0 c1 c3
  refine wp_calmL ?_
  refine wp_region_held_drew (S := SW) (by kernel_rfl) hS0 (fun hHeld => ?_)
  clear hS0
  refine wpAnyH_take (i := 0) (oi := _) (v := .pointer (some ⟨rb, 0, none⟩)) rfl (by kernel_rfl) (by kernel_rfl) (by kernel_rfl) (fun _ _ _ h => by cases h.1) (Or.inl ⟨by rfl, ?_⟩) (by assumption) ?_
  · clear hHeld; intro X hSw; obtain ⟨q1, q2⟩ := HSW.out X hSw; clear hSw; go_simp
  simp only [Act.put, List.getElem_toArray, List.getElem_cons_zero, List.getElem_cons_succ, List.setIfInBounds_toArray, List.set_cons_zero, List.set_cons_succ]
  refine wpAnyH_take (i := 1) (oi := _) (v := .pointer (some ⟨w.heap.size, 1, none⟩)) rfl (by kernel_rfl) (by kernel_rfl) (by kernel_rfl) (fun _ _ _ h => by cases h.1) (Or.inl ⟨by rfl, ?_⟩) (by assumption) ?_
  · clear hHeld; intro X hSw; obtain ⟨q1, q2⟩ := HSW.out X hSw; clear hSw; go_simp
  simp only [Act.put, List.getElem_toArray, List.getElem_cons_zero, List.getElem_cons_succ, List.setIfInBounds_toArray, List.set_cons_zero, List.set_cons_succ]
  refine wpAnyH_take (i := 2) (oi := _) (v := .int .i64 8) rfl (by kernel_rfl) (by kernel_rfl) (by kernel_rfl) (fun _ _ _ h => by cases h.1) (Or.inl ⟨by rfl, ?_⟩) (by assumption) ?_
  · clear hHeld; intro X hSw; obtain ⟨q1, q2⟩ := HSW.out X hSw; clear hSw; go_simp
  simp only [Act.put, List.getElem_toArray, List.getElem_cons_zero, List.getElem_cons_succ, List.setIfInBounds_toArray, List.set_cons_zero, List.set_cons_succ]
  refine wpAnyH_take (i := 3) (oi := _) (v := .pointer (some ⟨w.heap.size, 3, none⟩)) rfl (by kernel_rfl) (by kernel_rfl) (by kernel_rfl) (fun _ _ _ h => by cases h.1) (Or.inl ⟨by rfl, ?_⟩) (by assumption) ?_
  · clear hHeld; intro X hSw; obtain ⟨q1, q2⟩ := HSW.out X hSw; clear hSw; go_simp
  simp only [Act.put, List.getElem_toArray, List.getElem_cons_zero, List.getElem_cons_succ, List.setIfInBounds_toArray, List.set_cons_zero, List.set_cons_succ]
  refine wpAnyH_take (i := 4) (oi := _) (v := .int .i64 a3) rfl (by kernel_rfl) (by kernel_rfl) (by kernel_rfl) (fun _ _ _ h => by cases h.1) (Or.inl ⟨by rfl, ?_⟩) (by assumption) ?_
  · clear hHeld; intro X hSw; obtain ⟨q1, q2⟩ := HSW.out X hSw; clear hSw; go_simp
  simp only [Act.put, List.getElem_toArray, List.getElem_cons_zero, List.getElem_cons_succ, List.setIfInBounds_toArray, List.set_cons_zero, List.set_cons_succ]
  refine wpAnyH_take (i := 5) (oi := _) (v := .pointer (some ⟨rb, 0, none⟩)) rfl (by kernel_rfl) (by kernel_rfl) (by kernel_rfl) (fun _ _ _ h => by cases h.1) (Or.inl ⟨by rfl, ?_⟩) (by assumption) ?_
  · clear hHeld; intro X hSw; obtain ⟨q1, q2⟩ := HSW.out X hSw; clear hSw; go_simp
  simp only [Act.put, List.getElem_toArray, List.getElem_cons_zero, List.getElem_cons_succ, List.setIfInBounds_toArray, List.set_cons_zero, List.set_cons_succ]
  refine wpAnyH_take (i := 6) (oi := _) (v := .pointer (some ⟨rb, 1, none⟩)) rfl (by kernel_rfl) (by kernel_rfl) (by kernel_rfl) (fun _ _ _ h => by cases h.1) (Or.inl ⟨by rfl, ?_⟩) (by assumption) ?_
  · clear hHeld; intro X hSw; obtain ⟨q1, q2⟩ := HSW.out X hSw; clear hSw; go_simp
  simp only [Act.put, List.getElem_toArray, List.getElem_cons_zero, List.getElem_cons_succ, List.setIfInBounds_toArray, List.set_cons_zero, List.set_cons_succ]
  refine wpAnyH_take (i := 7) (oi := _) (v := .pointer (some ⟨rb, 9, none⟩)) rfl (by kernel_rfl) (by kernel_rfl) (by kernel_rfl) (fun _ _ _ h => by cases h.1) (Or.inl ⟨by rfl, ?_⟩) (by assumption) ?_
  · clear hHeld; intro X hSw; obtain ⟨q1, q2⟩ := HSW.out X hSw; clear hSw; go_simp
  simp only [Act.put, List.getElem_toArray, List.getElem_cons_zero, List.getElem_cons_succ, List.setIfInBounds_toArray, List.set_cons_zero, List.set_cons_succ]
  refine wpAnyH_ready (rs := [8]) (by kernel_rfl) (by simp) ?_
  refine AllReadyH.cons (o := _) rfl (fun K hK => ?_) (AllReadyH.nil)
  rw [if_pos (by rfl)]
  simp only [List.getElem_toArray, List.getElem_cons_zero, List.getElem_cons_succ]
  have HK := Lib.hid hK
  clear hK hHeld
  go_wp2_with fail
  refine HK.out _ _ HS3.out (fun hHeld => ?_)
  clear HK
  refine wpAnyH_done (by kernel_rfl) ?_ _
  clear HSW hHeld d5 d6
  refine ⟨rfl, ?_⟩
  go_wp2_with (go_quiet (fail))
  go_ret2
  exact ⟨HF.out.1, HF.out.2.1, HF.out.2.2.drewN _⟩
theorem rtake_any (w : World) (rb : Nat) (boot a0 a1 a2 a3 a4 a5 a6 a7 a8 a9 a10 : Int) (c11 c12 c13 c14 c15 : Value) (g : Int → Int) (h : w.heap[rb]? = some (.cells (refC boot g) 51 (0, 0))) :
    Calls Try.prog 12 #[.pointer (some ⟨rb, 0, none⟩), .agg #[.int .i8 a0, .int .i64 a1, .int .i64 a2, .int .i64 a3, .int .i64 a4, .int .i64 a5, .int .i64 a6, .int .i64 a7, .int .i64 a8, .int .i64 a9, .int .i64 a10, c11, c12, c13, c14, c15]] w (RTakeC w rb boot a1 a3 a4 g) := by
  by_cases h1 : a1 < 1
  · exact rtake_low w rb boot a0 a1 a2 a3 a4 a5 a6 a7 a8 a9 a10 c11 c12 c13 c14 c15 g h h1
  by_cases h2 : 8 < a1
  · exact rtake_high w rb boot a0 a1 a2 a3 a4 a5 a6 a7 a8 a9 a10 c11 c12 c13 c14 c15 g h h1 h2
  by_cases h3 : a3 < 1
  · exact rtake_none w rb boot a0 a1 a2 a3 a4 a5 a6 a7 a8 a9 a10 c11 c12 c13 c14 c15 g h h1 h2 h3
  have hk : a1 = 1 ∨ a1 = 2 ∨ a1 = 3 ∨ a1 = 4 ∨ a1 = 5 ∨ a1 = 6 ∨ a1 = 7 ∨ a1 = 8 := by omega
  rcases hk with rfl | rfl | rfl | rfl | rfl | rfl | rfl | rfl
  · by_cases h4 : a3 < g 1
    · exact rtake_less1 w rb boot a0 a2 a3 a4 a5 a6 a7 a8 a9 a10 c11 c12 c13 c14 c15 g h h3 h4
    · exact rtake_hit1 w rb boot a0 a2 a3 a4 a5 a6 a7 a8 a9 a10 c11 c12 c13 c14 c15 g h h3 h4
  · by_cases h4 : a3 < g 2
    · exact rtake_less2 w rb boot a0 a2 a3 a4 a5 a6 a7 a8 a9 a10 c11 c12 c13 c14 c15 g h h3 h4
    · exact rtake_hit2 w rb boot a0 a2 a3 a4 a5 a6 a7 a8 a9 a10 c11 c12 c13 c14 c15 g h h3 h4
  · by_cases h4 : a3 < g 3
    · exact rtake_less3 w rb boot a0 a2 a3 a4 a5 a6 a7 a8 a9 a10 c11 c12 c13 c14 c15 g h h3 h4
    · exact rtake_hit3 w rb boot a0 a2 a3 a4 a5 a6 a7 a8 a9 a10 c11 c12 c13 c14 c15 g h h3 h4
  · by_cases h4 : a3 < g 4
    · exact rtake_less4 w rb boot a0 a2 a3 a4 a5 a6 a7 a8 a9 a10 c11 c12 c13 c14 c15 g h h3 h4
    · exact rtake_hit4 w rb boot a0 a2 a3 a4 a5 a6 a7 a8 a9 a10 c11 c12 c13 c14 c15 g h h3 h4
  · by_cases h4 : a3 < g 5
    · exact rtake_less5 w rb boot a0 a2 a3 a4 a5 a6 a7 a8 a9 a10 c11 c12 c13 c14 c15 g h h3 h4
    · exact rtake_hit5 w rb boot a0 a2 a3 a4 a5 a6 a7 a8 a9 a10 c11 c12 c13 c14 c15 g h h3 h4
  · by_cases h4 : a3 < g 6
    · exact rtake_less6 w rb boot a0 a2 a3 a4 a5 a6 a7 a8 a9 a10 c11 c12 c13 c14 c15 g h h3 h4
    · exact rtake_hit6 w rb boot a0 a2 a3 a4 a5 a6 a7 a8 a9 a10 c11 c12 c13 c14 c15 g h h3 h4
  · by_cases h4 : a3 < g 7
    · exact rtake_less7 w rb boot a0 a2 a3 a4 a5 a6 a7 a8 a9 a10 c11 c12 c13 c14 c15 g h h3 h4
    · exact rtake_hit7 w rb boot a0 a2 a3 a4 a5 a6 a7 a8 a9 a10 c11 c12 c13 c14 c15 g h h3 h4
  · by_cases h4 : a3 < g 8
    · exact rtake_less8 w rb boot a0 a2 a3 a4 a5 a6 a7 a8 a9 a10 c11 c12 c13 c14 c15 g h h3 h4
    · exact rtake_hit8 w rb boot a0 a2 a3 a4 a5 a6 a7 a8 a9 a10 c11 c12 c13 c14 c15 g h h3 h4
end Go.Proofs.Ytdlfkglihlnncaa
