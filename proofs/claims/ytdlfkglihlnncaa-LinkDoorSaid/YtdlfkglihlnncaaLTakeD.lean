/-
  What becomes of a message at the program's door. No condition.
-/
import Derived.Test.YtdlfkglihlnncaaLNote
namespace Go.Proofs.Ytdlfkglihlnncaa
open Go.RowKit
open Go.Maps
set_option linter.unusedVariables false
set_option linter.unusedSimpArgs false

theorem Touched.more {w w' : World} {S S' : Nat → Prop} (h : Touched w w' S) (hs : ∀ q, S q → S' q) : Touched w w' S' := ⟨h.os, h.tape, h.output, h.size, fun k h1 h2 => h.block k h1 (fun h3 => h2 (hs k h3))⟩
theorem DoorC.ahead {w B w' : World} {db n : Nat} {mo : Option Nat} {boot : Int} {g : Int → Int} (hb : Below w.heap.size w B) (h : DoorC B db mo n boot g w') : DoorC w db mo n boot g w' := by
  obtain ⟨⟨mo', h1, h2⟩, h3⟩ := h
  refine ⟨⟨mo', h1, ?_⟩, (Below.touched hb _).trans h3 fun k h => Or.inl h⟩
  rcases h2 with h2 | ⟨q, h4, h5⟩
  · exact Or.inl h2
  · exact Or.inr ⟨q, h4, Nat.le_trans hb.size h5⟩
theorem DoorC.behind {w B w' : World} {db n : Nat} {mo : Option Nat} {boot : Int} {g : Int → Int} (h : DoorC w db mo n boot g B) (hb : Below B.heap.size B w') : DoorC w db mo n boot g w' := by
  obtain ⟨⟨mo', h1, h2⟩, h3⟩ := h
  exact ⟨⟨mo', h1.on hb, h2⟩, ⟨hb.os.trans h3.os, hb.tape.trans h3.tape, hb.output.trans h3.output, Nat.le_trans h3.size hb.size, fun k h4 h5 => (hb.block k (Nat.lt_of_lt_of_le h4 h3.size)).trans (h3.block k h4 h5)⟩⟩
theorem after_noted {g : Int → Int} {f b : Int} (h1 : clientI f = true) (h2 : 1 ≤ b) : after g f b = if g f ≤ b then updI g f b else g := by
  unfold after takes
  unfold clientI at h1
  rw [h1, decide_eq_true h2, Bool.true_and, Bool.true_and]
  by_cases h : g f ≤ b
  · rw [decide_eq_true h, if_pos rfl, if_pos h]
  · rw [decide_eq_false h, if_neg (by simp), if_neg h]
theorem updI_same {g : Int → Int} {f b : Int} (h : g f = b) : updI g f b = g := by
  funext i
  unfold updI
  split
  · rename_i e; rw [e, h]
  · rfl
theorem noted_after {g : Int → Int} {f b : Int} (h1 : clientI f = true) (h2 : 1 ≤ b) : noted g f b = after g f b := by
  rw [after_noted h1 h2]
  unfold noted
  by_cases h : g f < b
  · rw [if_pos h, if_pos (by omega)]
  · rw [if_neg h]
    by_cases h3 : g f ≤ b
    · rw [if_pos h3, updI_same (by omega)]
    · rw [if_neg h3]
def TakeC (w : World) (db : Nat) (mo : Option Nat) (n : Nat) (boot f b s : Int) (g : Int → Int) (e : Ending) (w' : World) : Prop := e = .returned (.tuple #[.bool (takes g f b && (s == boot)), .bool (takes g f b && !(s == boot))]) ∧ DoorC w db mo (n + 1) boot (after g f b) w'
theorem takeC_no {w w' : World} {db : Nat} {mo : Option Nat} {n : Nat} {boot f b s : Int} {g : Int → Int} (h : takes g f b = false) (hd : DoorC w db mo (n + 1) boot g w') : TakeC w db mo n boot f b s g (.returned (.tuple #[.bool false, .bool false])) w' := by
  refine ⟨by rw [h]; rfl, ?_⟩
  unfold after
  rw [h, if_neg (by simp)]
  exact hd
set_option maxRecDepth 100000 in
set_option maxHeartbeats 4000000 in
theorem take_any (w : World) (db n : Nat) (mo : Option Nat) (boot a0 a1 a2 a3 a4 a5 a6 a7 a8 a9 a10 : Int) (c11 c12 c13 c14 c15 : Value) (g : Int → Int) (h : DoorAt w db mo n boot g) (hn : n < maxLen) (hf : (Lit.int .i64 a1).wf = true) (hb : (Lit.int .i64 a3).wf = true) :
    Calls Try.prog 7 #[.pointer (some ⟨db, 0, none⟩), .agg #[.int .i8 a0, .int .i64 a1, .int .i64 a2, .int .i64 a3, .int .i64 a4, .int .i64 a5, .int .i64 a6, .int .i64 a7, .int .i64 a8, .int .i64 a9, .int .i64 a10, c11, c12, c13, c14, c15]] w (TakeC w db mo n boot a1 a3 a4 g) := by
  obtain ⟨B, hB⟩ : ∃ B, B = w.alloc (.cells #[.int .i8 a0, .int .i64 a1, .int .i64 a2, .int .i64 a3, .int .i64 a4, .int .i64 a5, .int .i64 a6, .int .i64 a7, .int .i64 a8, .int .i64 a9, .int .i64 a10, c11, c12, c13, c14, c15] 39) := ⟨_, rfl⟩
  have bB : Below w.heap.size w B := by rw [hB]; exact (Below.refl _ _).alloc (Nat.le_refl _) _
  have eB : B.heap[w.heap.size]? = some (.cells #[.int .i8 a0, .int .i64 a1, .int .i64 a2, .int .i64 a3, .int .i64 a4, .int .i64 a5, .int .i64 a6, .int .i64 a7, .int .i64 a8, .int .i64 a9, .int .i64 a10, c11, c12, c13, c14, c15] 39 (0, 0)) := by rw [hB]; exact heap_alloc_new _ _
  have c1 : B.cell? ⟨w.heap.size, 1, none⟩ = some (.int .i64 a1) := by rw [cell_of_row _ _ 1 _ _ _ eB]; rfl
  have c3 : B.cell? ⟨w.heap.size, 3, none⟩ = some (.int .i64 a3) := by rw [cell_of_row _ _ 3 _ _ _ eB]; rfl
  have HC := Lib.hid (isClient_any B a1)
  have HN := Lib.hid (notes_any B db n mo boot a1 a3 g (h.on bB) hn hf hb)
  have H := Lib.hid (And.intro h (And.intro bB (And.intro eB hB)))
  have HNO := Lib.hid (DoorC.ahead bB (DoorC.same (h.on bB) (Below.refl _ _)))
  clear h hn hf hb bB eB hB
  go_enter Try.func7, Try.ntmps7
  go_upto_region 1 with fail
  change Code.wp _ _ _ _ (w.alloc (.cells #[.int .i8 a0, .int .i64 a1, .int .i64 a2, .int .i64 a3, .int .i64 a4, .int .i64 a5, .int .i64 a6, .int .i64 a7, .int .i64 a8, .int .i64 a9, .int .i64 a10, c11, c12, c13, c14, c15] 39))
  rw [← H.out.2.2.2]
  by_cases h1 : clientI a1 = true
  rotate_left
  · have h1f : clientI a1 = false := by simpa using h1
    rw [h1f] at HC
    have HE := Lib.hid (takeC_no (s := a4) (b := a3) (by unfold takes; unfold clientI at h1f; rw [h1f]; rfl) HNO.out)
    clear h1 h1f HN
    go_wp2_with fail
    refine HC.out.mono ?_
    rintro e w1 ⟨rfl, rfl⟩
    go_wp2_with fail
    go_ret2
    exact HE.out
  · rw [h1] at HC
    have H1 := Lib.hid h1
    clear h1
    by_cases h3 : a3 < 1
    · have HE := Lib.hid (takeC_no (g := g) (f := a1) (s := a4) (b := a3) (by unfold takes; rw [decide_eq_false (show ¬ 1 ≤ a3 by omega)]; simp) HNO.out)
      clear HN
      go_wp2_with fail
      refine HC.out.mono ?_
      rintro e w1 ⟨rfl, rfl⟩
      go_wp2_with fail
      go_ret2
      exact HE.out
    · have HT := Lib.hid (show takes g a1 a3 = decide (g a1 ≤ a3) by unfold takes; have h := H1.out; unfold clientI at h; rw [h, decide_eq_true (show 1 ≤ a3 by omega)]; rfl)
      have HA := Lib.hid (noted_after (g := g) H1.out (show 1 ≤ a3 by omega))
      go_wp2_with fail
      refine HC.out.mono ?_
      rintro e w1 ⟨rfl, rfl⟩
      clear HC
      go_wp2_with fail
      refine HN.out.mono ?_
      rintro e w2 ⟨rfl, hd⟩
      clear HN c1 c3
      by_cases h4 : g a1 ≤ a3
      rotate_left
      · have hf : decide (g a1 ≤ a3) = false := decide_eq_false h4
        have HE := Lib.hid (show TakeC w db mo n boot a1 a3 a4 g (.returned (.tuple #[.bool false, .bool false])) w2 from ⟨by rw [HT.out, hf]; rfl, by rw [← HA.out]; exact DoorC.ahead H.out.2.1 hd⟩)
        rw [hf]
        clear hf h4 hd
        go_wp2_with fail
        go_ret2
        exact HE.out
      · have hf : decide (g a1 ≤ a3) = true := decide_eq_true h4
        have hrow : w2.heap[w.heap.size]? = some (.cells #[.int .i8 a0, .int .i64 a1, .int .i64 a2, .int .i64 a3, .int .i64 a4, .int .i64 a5, .int .i64 a6, .int .i64 a7, .int .i64 a8, .int .i64 a9, .int .i64 a10, c11, c12, c13, c14, c15] 39 (0, 0)) := (hd.kept.block _ (lt_of_heap H.out.2.2.1) (fun hq => by
          rcases hq with hq | hq
          · have := lt_of_heap H.out.1.row; omega
          · have := MapV.lt H.out.1.tells _ hq; omega)).trans H.out.2.2.1
        have d4 : w2.cell? ⟨w.heap.size, 4, none⟩ = some (.int .i64 a4) := by rw [cell_of_row _ _ 4 _ _ _ hrow]; rfl
        obtain ⟨mo', hdd, hmo⟩ := hd.door
        have e0 := (row2 hdd.row).1
        have HE := Lib.hid (show TakeC w db mo n boot a1 a3 a4 g (.returned (.tuple #[.bool (a4 == boot), .bool (!(a4 == boot))])) w2 from ⟨by rw [HT.out, hf]; rfl, by rw [← HA.out]; exact DoorC.ahead H.out.2.1 hd⟩)
        rw [hf]
        clear hf h4 hd hrow hdd hmo
        go_wp2_with (go_quiet (fail))
        go_ret2
        exact ⟨HE.out.1, DoorC.behind HE.out.2 ⟨rfl, rfl, rfl, Nat.le_refl _, fun _ _ => rfl⟩⟩
end Go.Proofs.Ytdlfkglihlnncaa
