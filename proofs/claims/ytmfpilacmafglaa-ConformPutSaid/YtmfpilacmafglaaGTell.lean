/-
  The program's kindAt, Text and Least. No condition but that the grammar lies where it is said to lie.
-/
import Derived.Test.YtmfpilacmafglaaGCheck
namespace Go.Proofs.Ytmfpilacmafglaa
open Go.RowKit Go.Maps

theorem NoKind.mk {w w' : World} (h : Below w.heap.size w w') : NoKind w (.returned (.tuple #[.agg #[.string ⟨#[]⟩, .bool false, .slice none 0 0], .bool false])) w' := ⟨rfl, h⟩
theorem kindOf_none {g : Gr} {n : Int} (h : kindOf g n = none) (hg : grOk g = true) : ¬ (0 ≤ n ∧ n < (g.kinds.length : Int)) := fun ⟨h1, h2⟩ => by
  rw [kindOf, if_pos ⟨hg, h1⟩, List.getElem?_eq_none_iff] at h
  omega
theorem kindOf_some {g : Gr} {n : Int} {k : Kd} (h : kindOf g n = some k) : grOk g = true ∧ ∃ j : Nat, n = (j : Int) ∧ j < g.kinds.length ∧ g.kinds[j]? = some k := by
  unfold kindOf at h
  split at h
  · rename_i h1
    have := (List.getElem?_eq_some_iff.1 h).1
    exact ⟨h1.1, n.toNat, by omega, this, h⟩
  · cases h
/-- A block of three cells, all three of which are written. -/
theorem set3 {w : World} {b : Nat} {x0 x1 x2 : Value} {t : TypeId} (h : w.heap[b]? = some (.cells #[x0, x1, x2] t (0, 0))) (y0 y1 y2 : Value) :
    ∃ W, W = ((w.setCell ⟨b, 0, none⟩ y0).setCell ⟨b, 1, none⟩ y1).setCell ⟨b, 2, none⟩ y2 ∧ W.heap[b]? = some (.cells #[y0, y1, y2] t (0, 0)) ∧ Below b w W := by
  have b0 : Below b w (w.setCell ⟨b, 0, none⟩ y0) := (Below.refl b w).setCell (p := ⟨b, 0, none⟩) (Nat.le_refl b) y0
  have b1 : Below b w ((w.setCell ⟨b, 0, none⟩ y0).setCell ⟨b, 1, none⟩ y1) := b0.setCell (p := ⟨b, 1, none⟩) (Nat.le_refl b) y1
  refine ⟨_, rfl, ?_, b1.setCell (p := ⟨b, 2, none⟩) (Nat.le_refl b) y2⟩
  rw [heap_setCell_same _ b 2 _ _ y2 (heap_setCell_same _ b 1 _ _ y1 (heap_setCell_same w b 0 _ _ y0 h))]
  rfl
theorem row3 {w : World} {b : Nat} {x0 x1 x2 : Value} {t : TypeId} (h : w.heap[b]? = some (.cells #[x0, x1, x2] t (0, 0))) : w.cell? ⟨b, 0, none⟩ = some x0 ∧ w.cell? ⟨b, 1, none⟩ = some x1 ∧ w.cell? ⟨b, 2, none⟩ = some x2 :=
  ⟨by rw [cell_of_row w b 0 _ _ _ h]; rfl, by rw [cell_of_row w b 1 _ _ _ h]; rfl, by rw [cell_of_row w b 2 _ _ _ h]; rfl⟩

set_option maxRecDepth 100000 in
set_option maxHeartbeats 1000000 in
theorem kindAt_no (w : World) (v : Value) (g : Gr) (n : Int) (hv : GrV w v g) (hf : g.few) (hn : kindOf g n = none) : Calls Try.prog 68 #[v, .int .i64 n] w (NoKind w) := by
  obtain ⟨ka, kc, rfl, hk⟩ := hv
  obtain ⟨l, root⟩ := g
  simp only at hk
  have hfl : l.length ≤ 1000000 := hf.1
  have HF := Lib.hid hf
  have HK := Lib.hid hk
  have HN := Lib.hid (kindOf_none hn)
  clear hf hk hn
  by_cases h1 : n < 0
  · go_enter Try.func68, Try.ntmps68
    go_wp2_with fail
    exact bodyPost_ret (v := .tuple #[.agg #[.string ⟨#[]⟩, .bool false, .slice none 0 0], .bool false]) (by simp [results, Try.results68, go_sem]) rfl (NoKind.mk (two_boxes _ _ _))
  · by_cases h2 : (l.length : Int) ≤ n
    · go_enter Try.func68, Try.ntmps68
      go_wp2_with fail
      exact bodyPost_ret (v := .tuple #[.agg #[.string ⟨#[]⟩, .bool false, .slice none 0 0], .bool false]) (by simp [results, Try.results68, go_sem]) rfl (NoKind.mk (two_boxes _ _ _))
    · have HG := Lib.hid (show grOk ⟨l, root⟩ = false by
        cases h : grOk ⟨l, root⟩
        · rfl
        · exact absurd ⟨by omega, by show n < (l.length : Int); omega⟩ (HN.out h))
      go_enter Try.func68, Try.ntmps68
      go_wp2_with (go_at_call 65; ((with_reducible refine (mayBe_any _ _ _ (grV (HK.out.below (two_boxes _ _ _))) HF.out).mono ?_); rintro e w2 ⟨rfl, h2⟩; rw [HG.out]; have H2 := Lib.hid h2; have p0 := boxed2 h2 0 _ rfl; have p1 := boxed2 h2 1 _ rfl; have p2 := boxed2 h2 2 _ rfl; have q0 := boxed2_free h2; have hz : w.heap.size + 1 < w2.heap.size := boxed2_lt h2; clear h2))
      obtain ⟨W, hW, hWb, hWB⟩ := set3 (boxed2_heap H2.out) (.string { data := #[] }) (.bool false) (.slice none 0 0)
      rw [← hW]
      obtain ⟨e0, e1, e2⟩ := row3 hWb
      refine bodyPost_ret (v := .tuple #[.agg #[.string ⟨#[]⟩, .bool false, .slice none 0 0], .bool false]) (by simp [results, Try.results68, go_sem, e0, e1, e2]) rfl (NoKind.mk ?_)
      exact ((two_boxes w _ _).trans (H2.out.mono (two_boxes w _ _).size)).trans (hWB.mono (Nat.le_succ _))

set_option maxRecDepth 100000 in
set_option maxHeartbeats 1000000 in
theorem kindAt_yes (w : World) (v : Value) (g : Gr) (n : Int) (k : Kd) (hv : GrV w v g) (hf : g.few) (hn : kindOf g n = some k) : Calls Try.prog 68 #[v, .int .i64 n] w (AKind k w) := by
  obtain ⟨ka, kc, rfl, hk⟩ := hv
  obtain ⟨l, root⟩ := g
  simp only at hk
  have hfl : l.length ≤ 1000000 := hf.1
  obtain ⟨hg, j, rfl, hj, hx⟩ := kindOf_some hn
  simp only at hj hx
  obtain ⟨b, off, rfl, hblt, hc⟩ := hk (by omega)
  obtain ⟨sa, sc, c0, c1, c2, hs⟩ := hc j k hx
  have HF := Lib.hid hf
  have HK := Lib.hid hk
  have HG := Lib.hid hg
  have HS := Lib.hid hs
  have HC := Lib.hid (And.intro c0 (And.intro c1 c2))
  have hj2 : (j : Int) < (l.length : Int) := by omega
  clear hf hk hn hg hx hc hs c0 c1 c2
  go_enter Try.func68, Try.ntmps68
  go_wp2_with (go_at_call 65; ((with_reducible refine (mayBe_any _ _ _ (grV (HK.out.below (two_boxes _ _ _))) HF.out).mono ?_); rintro e w2 ⟨rfl, h2⟩; rw [HG.out]; have H2 := Lib.hid h2; have HB := Lib.hid ((two_boxes w _ _).trans (h2.mono (two_boxes w _ _).size)); have p0 := boxed1 h2 0 _ rfl; have q0 := boxed2 h2 0 _ rfl; have q1 := boxed2 h2 1 _ rfl; have q2 := boxed2 h2 2 _ rfl; have q3 := boxed2_free h2; have hz : w.heap.size + 1 < w2.heap.size := boxed2_lt h2; have d0 := (HB.out.cell hblt).trans HC.out.1; have d1 := (HB.out.cell hblt).trans HC.out.2.1; have d2 := (HB.out.cell hblt).trans HC.out.2.2; clear h2))
  obtain ⟨W, hW, hWb, hWB⟩ := set3 (boxed2_heap H2.out) (.string k.name) (.bool k.text) (.slice sa k.slots.length sc)
  rw [← hW]
  obtain ⟨e0, e1, e2⟩ := row3 hWb
  have hBW := HB.out.trans (hWB.mono (Nat.le_succ _))
  exact bodyPost_ret (v := .tuple #[.agg #[.string k.name, .bool k.text, .slice sa k.slots.length sc], .bool true]) (by simp [results, Try.results68, go_sem, e0, e1, e2]) rfl ⟨sa, sc, rfl, hBW, HS.out.below hBW⟩
end Go.Proofs.Ytmfpilacmafglaa
