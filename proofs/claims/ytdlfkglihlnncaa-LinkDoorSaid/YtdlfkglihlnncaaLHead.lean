/-
  head of two that are the same, Take of nil, and what wakes of layer 15 answers: true. No condition.
-/
import Derived.Test.YtdlfkglihlnncaaLHello
import Derived.Test.YtdlfkglihlnncaaLRef
namespace Go.Proofs.Ytdlfkglihlnncaa
open Go.RowKit
open Go.Maps
set_option linter.unusedVariables false
set_option linter.unusedSimpArgs false

theorem alloc2_old (w : World) (o o2 : Obj) : ((w.alloc o).alloc o2).heap[w.heap.size]? = some o := by
  rw [Below.heap_alloc _ _ _ (by rw [World.size_alloc]; omega)]; exact heap_alloc_new w o
set_option maxRecDepth 100000 in
set_option maxHeartbeats 8000000 in
theorem head_any (w : World) (a0 a1 a2 a3 a4 a5 a6 a7 a8 a9 a10 : Int) (c11 c12 c13 c14 c15 : Value) :
    Calls Try.prog 8 #[.agg #[.int .i8 a0, .int .i64 a1, .int .i64 a2, .int .i64 a3, .int .i64 a4, .int .i64 a5, .int .i64 a6, .int .i64 a7, .int .i64 a8, .int .i64 a9, .int .i64 a10, c11, c12, c13, c14, c15], .agg #[.int .i8 a0, .int .i64 a1, .int .i64 a2, .int .i64 a3, .int .i64 a4, .int .i64 a5, .int .i64 a6, .int .i64 a7, .int .i64 a8, .int .i64 a9, .int .i64 a10, c11, c12, c13, c14, c15]] w (RetW (.bool true) w) := by
  obtain ⟨B, hB⟩ : ∃ B, B = ((w.alloc (.cells #[.int .i8 a0, .int .i64 a1, .int .i64 a2, .int .i64 a3, .int .i64 a4, .int .i64 a5, .int .i64 a6, .int .i64 a7, .int .i64 a8, .int .i64 a9, .int .i64 a10, c11, c12, c13, c14, c15] 39)).alloc (.cells #[.int .i8 a0, .int .i64 a1, .int .i64 a2, .int .i64 a3, .int .i64 a4, .int .i64 a5, .int .i64 a6, .int .i64 a7, .int .i64 a8, .int .i64 a9, .int .i64 a10, c11, c12, c13, c14, c15] 39)) := ⟨_, rfl⟩
  have bB : Below w.heap.size w B := by rw [hB]; exact ((Below.refl _ _).alloc (Nat.le_refl _) _).alloc (by rw [World.size_alloc]; omega) _
  have e0 : B.heap[w.heap.size]? = some (.cells #[.int .i8 a0, .int .i64 a1, .int .i64 a2, .int .i64 a3, .int .i64 a4, .int .i64 a5, .int .i64 a6, .int .i64 a7, .int .i64 a8, .int .i64 a9, .int .i64 a10, c11, c12, c13, c14, c15] 39 (0, 0)) := by rw [hB]; exact alloc2_old _ _ _
  have e1 : B.heap[w.heap.size + 1]? = some (.cells #[.int .i8 a0, .int .i64 a1, .int .i64 a2, .int .i64 a3, .int .i64 a4, .int .i64 a5, .int .i64 a6, .int .i64 a7, .int .i64 a8, .int .i64 a9, .int .i64 a10, c11, c12, c13, c14, c15] 39 (0, 0)) := by rw [hB]; exact alloc2_new _ _ _
  have p0 : B.cell? ⟨w.heap.size, 0, none⟩ = some (.int .i8 a0) := by rw [cell_of_row _ _ 0 _ _ _ e0]; rfl
  have q0 : B.cell? ⟨w.heap.size + 1, 0, none⟩ = some (.int .i8 a0) := by rw [cell_of_row _ _ 0 _ _ _ e1]; rfl
  have p1 : B.cell? ⟨w.heap.size, 1, none⟩ = some (.int .i64 a1) := by rw [cell_of_row _ _ 1 _ _ _ e0]; rfl
  have q1 : B.cell? ⟨w.heap.size + 1, 1, none⟩ = some (.int .i64 a1) := by rw [cell_of_row _ _ 1 _ _ _ e1]; rfl
  have p2 : B.cell? ⟨w.heap.size, 2, none⟩ = some (.int .i64 a2) := by rw [cell_of_row _ _ 2 _ _ _ e0]; rfl
  have q2 : B.cell? ⟨w.heap.size + 1, 2, none⟩ = some (.int .i64 a2) := by rw [cell_of_row _ _ 2 _ _ _ e1]; rfl
  have p3 : B.cell? ⟨w.heap.size, 3, none⟩ = some (.int .i64 a3) := by rw [cell_of_row _ _ 3 _ _ _ e0]; rfl
  have q3 : B.cell? ⟨w.heap.size + 1, 3, none⟩ = some (.int .i64 a3) := by rw [cell_of_row _ _ 3 _ _ _ e1]; rfl
  have p4 : B.cell? ⟨w.heap.size, 4, none⟩ = some (.int .i64 a4) := by rw [cell_of_row _ _ 4 _ _ _ e0]; rfl
  have q4 : B.cell? ⟨w.heap.size + 1, 4, none⟩ = some (.int .i64 a4) := by rw [cell_of_row _ _ 4 _ _ _ e1]; rfl
  have p5 : B.cell? ⟨w.heap.size, 5, none⟩ = some (.int .i64 a5) := by rw [cell_of_row _ _ 5 _ _ _ e0]; rfl
  have q5 : B.cell? ⟨w.heap.size + 1, 5, none⟩ = some (.int .i64 a5) := by rw [cell_of_row _ _ 5 _ _ _ e1]; rfl
  have p6 : B.cell? ⟨w.heap.size, 6, none⟩ = some (.int .i64 a6) := by rw [cell_of_row _ _ 6 _ _ _ e0]; rfl
  have q6 : B.cell? ⟨w.heap.size + 1, 6, none⟩ = some (.int .i64 a6) := by rw [cell_of_row _ _ 6 _ _ _ e1]; rfl
  have p7 : B.cell? ⟨w.heap.size, 7, none⟩ = some (.int .i64 a7) := by rw [cell_of_row _ _ 7 _ _ _ e0]; rfl
  have q7 : B.cell? ⟨w.heap.size + 1, 7, none⟩ = some (.int .i64 a7) := by rw [cell_of_row _ _ 7 _ _ _ e1]; rfl
  have p8 : B.cell? ⟨w.heap.size, 8, none⟩ = some (.int .i64 a8) := by rw [cell_of_row _ _ 8 _ _ _ e0]; rfl
  have q8 : B.cell? ⟨w.heap.size + 1, 8, none⟩ = some (.int .i64 a8) := by rw [cell_of_row _ _ 8 _ _ _ e1]; rfl
  have p9 : B.cell? ⟨w.heap.size, 9, none⟩ = some (.int .i64 a9) := by rw [cell_of_row _ _ 9 _ _ _ e0]; rfl
  have q9 : B.cell? ⟨w.heap.size + 1, 9, none⟩ = some (.int .i64 a9) := by rw [cell_of_row _ _ 9 _ _ _ e1]; rfl
  have p10 : B.cell? ⟨w.heap.size, 10, none⟩ = some (.int .i64 a10) := by rw [cell_of_row _ _ 10 _ _ _ e0]; rfl
  have q10 : B.cell? ⟨w.heap.size + 1, 10, none⟩ = some (.int .i64 a10) := by rw [cell_of_row _ _ 10 _ _ _ e1]; rfl
  have HB := Lib.hid (And.intro bB hB)
  clear bB e0 e1 hB
  go_enter Try.func8, Try.ntmps8
  go_upto_region 1 with fail
  change Code.wp _ _ _ _ ((w.alloc (.cells #[.int .i8 a0, .int .i64 a1, .int .i64 a2, .int .i64 a3, .int .i64 a4, .int .i64 a5, .int .i64 a6, .int .i64 a7, .int .i64 a8, .int .i64 a9, .int .i64 a10, c11, c12, c13, c14, c15] 39)).alloc (.cells #[.int .i8 a0, .int .i64 a1, .int .i64 a2, .int .i64 a3, .int .i64 a4, .int .i64 a5, .int .i64 a6, .int .i64 a7, .int .i64 a8, .int .i64 a9, .int .i64 a10, c11, c12, c13, c14, c15] 39))
  rw [← HB.out.2]
  go_wp2_with (go_quiet (fail))
  go_ret
  exact ⟨rfl, HB.out.1⟩
set_option maxRecDepth 100000 in
theorem take_nil (w : World) : Calls Try.prog 7 #[.pointer none, .agg #[.int .i8 0, .int .i64 1, .int .i64 0, .int .i64 1, .int .i64 0, .int .i64 0, .int .i64 0, .int .i64 0, .int .i64 0, .int .i64 0, .int .i64 0, .slice none 0 0, .int .i64 0, .int .i64 0, .string ⟨#[]⟩, .slice none 0 0]] w (RetW (.tuple #[.bool false, .bool false]) w) := by
  go_enter Try.func7, Try.ntmps7
  go_wp2_with fail
  go_ret2
  exact ⟨rfl, (Below.refl _ _).alloc (Nat.le_refl _) _⟩
/-- A door of a caller's own, made since W0. -/
structure OwnD (W0 : World) (db n : Nat) (boot : Int) (g : Int → Int) (w : World) : Prop where
  door : ∃ mo, DoorAt w db mo n boot g ∧ ∀ q, mo = some q → W0.heap.size ≤ q
  below : Below W0.heap.size W0 w
  new : W0.heap.size ≤ db
theorem OwnD.next {W0 w w' : World} {db n' : Nat} {mo : Option Nat} {boot : Int} {g : Int → Int} (hb : Below W0.heap.size W0 w) (hn : W0.heap.size ≤ db) (hm : ∀ q, mo = some q → W0.heap.size ≤ q) (h : DoorC w db mo n' boot g w') : OwnD W0 db n' boot g w' := by
  obtain ⟨⟨mo', h1, h2⟩, h3⟩ := h
  refine ⟨⟨mo', h1, fun q hq => ?_⟩, ⟨h3.os.trans hb.os, h3.tape.trans hb.tape, h3.output.trans hb.output, Nat.le_trans hb.size h3.size, fun q hq => (h3.block q (Nat.lt_of_lt_of_le hq hb.size) fun h4 => ?_).trans (hb.block q hq)⟩, hn⟩
  · rcases h2 with h2 | ⟨x, h4, h5⟩
    · exact hm q (h2.symm.trans hq)
    · rw [h4] at hq; cases hq; exact Nat.le_trans hb.size h5
  · rcases h4 with h4 | h4
    · omega
    · have := hm q h4; omega
def g0 : Int → Int := fun _ => 0
def g1 : Int → Int := after g0 1 1
def g2 : Int → Int := after g1 1 1
def g3 : Int → Int := after g2 1 2
theorem OwnD.make (w : World) (boot : Int) : OwnD w w.heap.size 0 boot g0 (w.alloc (.cells #[.int .i64 boot, .map none] 48)) :=
  ⟨⟨none, ⟨heap_alloc_new _ _, rfl, fun e => by cases e⟩, fun q e => by cases e⟩, (Below.refl _ _).alloc (Nat.le_refl _) _, Nat.le_refl _⟩
theorem wtake1 (W0 w : World) (db : Nat) (h : OwnD W0 db 0 5 g0 w) : Calls Try.prog 7 #[.pointer (some ⟨db, 0, none⟩), .agg #[.int .i8 0, .int .i64 1, .int .i64 0, .int .i64 1, .int .i64 0, .int .i64 0, .int .i64 0, .int .i64 0, .int .i64 0, .int .i64 0, .int .i64 0, .slice none 0 0, .int .i64 0, .int .i64 0, .string ⟨#[]⟩, .slice none 0 0]] w (fun e w' => e = .returned (.tuple #[.bool false, .bool true]) ∧ OwnD W0 db 1 5 (after g0 1 1) w') := by
  obtain ⟨⟨mo, h1, h2⟩, h3, h4⟩ := h
  refine (take_any w db 0 mo 5 0 1 0 1 0 0 0 0 0 0 0 _ _ _ _ _ g0 h1 (by unfold maxLen; omega) (by decide) (by decide)).mono ?_
  rintro e w' ⟨rfl, hd⟩
  exact ⟨rfl, OwnD.next h3 h4 h2 hd⟩
theorem wtake2 (W0 w : World) (db : Nat) (h : OwnD W0 db 1 5 g1 w) : Calls Try.prog 7 #[.pointer (some ⟨db, 0, none⟩), .agg #[.int .i8 0, .int .i64 1, .int .i64 0, .int .i64 1, .int .i64 5, .int .i64 0, .int .i64 0, .int .i64 0, .int .i64 0, .int .i64 0, .int .i64 0, .slice none 0 0, .int .i64 0, .int .i64 0, .string ⟨#[]⟩, .slice none 0 0]] w (fun e w' => e = .returned (.tuple #[.bool true, .bool false]) ∧ OwnD W0 db 2 5 (after g1 1 1) w') := by
  obtain ⟨⟨mo, h1, h2⟩, h3, h4⟩ := h
  refine (take_any w db 1 mo 5 0 1 0 1 5 0 0 0 0 0 0 _ _ _ _ _ g1 h1 (by unfold maxLen; omega) (by decide) (by decide)).mono ?_
  rintro e w' ⟨rfl, hd⟩
  exact ⟨rfl, OwnD.next h3 h4 h2 hd⟩
theorem wtake3 (W0 w : World) (db : Nat) (h : OwnD W0 db 2 5 g2 w) : Calls Try.prog 7 #[.pointer (some ⟨db, 0, none⟩), .agg #[.int .i8 0, .int .i64 1, .int .i64 0, .int .i64 2, .int .i64 5, .int .i64 0, .int .i64 0, .int .i64 0, .int .i64 0, .int .i64 0, .int .i64 0, .slice none 0 0, .int .i64 0, .int .i64 0, .string ⟨#[]⟩, .slice none 0 0]] w (fun e w' => e = .returned (.tuple #[.bool true, .bool false]) ∧ OwnD W0 db 3 5 (after g2 1 2) w') := by
  obtain ⟨⟨mo, h1, h2⟩, h3, h4⟩ := h
  refine (take_any w db 2 mo 5 0 1 0 2 5 0 0 0 0 0 0 _ _ _ _ _ g2 h1 (by unfold maxLen; omega) (by decide) (by decide)).mono ?_
  rintro e w' ⟨rfl, hd⟩
  exact ⟨rfl, OwnD.next h3 h4 h2 hd⟩
theorem wtake4 (W0 w : World) (db : Nat) (h : OwnD W0 db 3 5 g3 w) : Calls Try.prog 7 #[.pointer (some ⟨db, 0, none⟩), .agg #[.int .i8 0, .int .i64 1, .int .i64 0, .int .i64 1, .int .i64 5, .int .i64 0, .int .i64 0, .int .i64 0, .int .i64 0, .int .i64 0, .int .i64 0, .slice none 0 0, .int .i64 0, .int .i64 0, .string ⟨#[]⟩, .slice none 0 0]] w (fun e w' => e = .returned (.tuple #[.bool false, .bool false]) ∧ OwnD W0 db 4 5 (after g3 1 1) w') := by
  obtain ⟨⟨mo, h1, h2⟩, h3, h4⟩ := h
  refine (take_any w db 3 mo 5 0 1 0 1 5 0 0 0 0 0 0 _ _ _ _ _ g3 h1 (by unfold maxLen; omega) (by decide) (by decide)).mono ?_
  rintro e w' ⟨rfl, hd⟩
  exact ⟨rfl, OwnD.next h3 h4 h2 hd⟩
theorem field4_run (w : World) : (Instr.field 39 (.agg #[.int .i8 1, .int .i64 0, .int .i64 1, .int .i64 0, .int .i64 5, .int .i64 0, .int .i64 0, .int .i64 0, .int .i64 0, .int .i64 0, .int .i64 0, .slice none 0 0, .int .i64 0, .int .i64 0, .string ⟨#[]⟩, .slice none 0 0]) 4).run Try.prog w = .ok (.int .i64 5) w := by kernel_rfl
set_option maxRecDepth 100000 in
set_option maxHeartbeats 8000000 in
theorem wakes15_any (w : World) : Calls Try.prog 4 #[] w (RetW (.bool true) w) := by
  have HC := Lib.hid (newDoor_yes w 5 (by decide))
  have HO := Lib.hid (OwnD.make w 5)
  go_enter Try.func4, Try.ntmps4
  go_wp2_with fail
  refine HC.out.mono ?_
  rintro e w1 ⟨rfl, rfl⟩
  clear HC
  generalize hw1 : w.alloc (.cells #[.int .i64 5, .map none] 48) = w1 at HO ⊢
  clear hw1
  go_wp2_with fail
  refine (wtake1 w _ _ HO.out).mono ?_
  rintro e v1 ⟨rfl, ho⟩
  clear HO
  have HO := Lib.hid ho
  clear ho
  go_wp2_with fail
  refine (wtake2 w _ _ HO.out).mono ?_
  rintro e v2 ⟨rfl, ho⟩
  clear HO
  have HO := Lib.hid ho
  clear ho
  go_wp2_with fail
  refine (wtake3 w _ _ HO.out).mono ?_
  rintro e v3 ⟨rfl, ho⟩
  clear HO
  have HO := Lib.hid ho
  clear ho
  go_wp2_with fail
  refine (wtake4 w _ _ HO.out).mono ?_
  rintro e v4 ⟨rfl, ho⟩
  clear HO
  have HO := Lib.hid ho
  clear ho
  go_wp2_with fail
  obtain ⟨⟨mo, h1, h2⟩, h3, h4⟩ := HO.out
  refine (hello_any _ _ _ mo 5 1 _ h1).mono ?_
  rintro e v5 ⟨rfl, hb⟩
  have HB := Lib.hid (h3.trans (hb.mono h3.size))
  clear h1 h2 h3 h4 hb HO
  unfold helloC
  have hfd := field4_run v5
  go_wp2_with fail
  go_ret
  exact ⟨rfl, HB.out⟩
end Go.Proofs.Ytdlfkglihlnncaa
