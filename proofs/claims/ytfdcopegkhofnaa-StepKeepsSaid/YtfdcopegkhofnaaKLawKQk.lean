/-
  What StepKeeps answers: true. No condition but that its arguments lie in memory as they came in, and the bounds of texts and ids that a host keeps.
-/
import Derived.Deep.Cut
import Derived.Carry
import Derived.Test.YtfdcopegkhofnaaKClaimsQk
import Derived.Test.YtfdcopegkhofnaaKPlacePQk
import Derived.Test.YtfdcopegkhofnaaKMapPQk
import Derived.Test.YtfdcopegkhofnaaKApplyXQk
import Derived.Test.YtfdcopegkhofnaaVRTreeQk
import Derived.Test.YtfdcopegkhofnaaGGreatQk
namespace Go.Proofs.Ytfdcopegkhofnaa
open Go.RowKit Go.Shelf
open Go.Maps
set_option linter.unusedVariables false
set_option linter.unusedSimpArgs false

theorem great_fewK {g : Gr} (h : greatG g = false) : g.few ∧ g.kinds.length ≤ 40 := by
  simp only [greatG, Bool.or_eq_false_iff, decide_eq_false_iff_not, List.any_eq_false] at h
  refine ⟨⟨by omega, fun k hk => ?_⟩, by omega⟩
  have h1 := h.2 k hk
  simp only [greatK, Bool.or_eq_true, decide_eq_true_eq, List.any_eq_true, not_or, not_exists, not_and] at h1
  refine ⟨by omega, by omega, fun s hs => ?_⟩
  have h2 := h1.2 s hs
  simp only [greatS, decide_eq_true_eq] at h2
  show s.kinds.length ≤ 1000000
  omega
theorem foFit_szL : ∀ f : Fo, foSize f ≤ 9223372036854775807 → foFit f
  | .nil, _ => True.intro
  | .node _ _ _ l r, h => by
    have h1 := foLen_le l
    simp only [foSize] at h
    exact ⟨by omega, foFit_szL l (by omega), foFit_szL r (by omega)⟩
def YesL (w : World) (e : Ending) (w' : World) : Prop := e = .returned (.bool true) ∧ Below w.heap.size w w'
theorem doK_ok {g : Gr} {r : Tr × Int} (h : (doK g r).2 = 0) : r.2 = 0 ∧ (treeR g r.1).2 = 0 ∧ applyR (doK g r) = r.1 := by
  unfold doK at h ⊢
  by_cases h0 : r.2 = 0
  · rw [if_pos h0] at h ⊢
    by_cases h1 : (treeR g r.1).2 = 0
    · rw [if_pos h1]; exact ⟨h0, h1, by rw [applyR, if_pos rfl]⟩
    · rw [if_neg h1] at h; exact absurd h h1
  · rw [if_neg h0] at h; exact absurd h h0
set_option maxRecDepth 100000 in
set_option maxHeartbeats 32000000 in
theorem stepKeeps_any (w : World) (S Sx : Nat → Prop) (gv nv : Value) (g : Gr) (t x : Tr) (op id par at_ : Int) (tx : ByteArray) (sa : Option Addr) (sn sc : Nat) (hg : GrV w gv g) (hfg : g.fits) (hS : ∀ y, S y → y < w.heap.size) (hSx : ∀ y, Sx y → y < w.heap.size) (ht : TrAt w S nv t) (hx : TrAt w Sx (.agg #[.int .i64 x.id, .int .i64 x.kind, .string x.text, .slice sa sn sc]) x) (hlen : foLen t.kids ≤ 9223372036854775807) (hfit : foFit t.kids) (hxl : foLen x.kids ≤ 9223372036854775807) (hxf : foFit x.kids) (hok : okF (spF 1 (rootF t))) (hxk : okF (spF 1 (rootF x))) (hop : (Lit.int .i8 op).wf = true) (hid : (Lit.int .i64 id).wf = true) (htx : (tx.size : Int) ≤ 9223372036854775807) :
    Calls Try.prog 11 #[gv, nv, .agg #[.int .i8 op, .int .i64 id, .int .i64 par, .int .i64 at_, .string tx, .int .i64 x.id, .int .i64 x.kind, .string x.text, .slice sa sn sc]] w (YesL w) := by
  obtain ⟨ga, gc, rfl, hgk⟩ := hg
  obtain ⟨gn, hgn⟩ : ∃ gn, gn = g.kinds.length := ⟨_, rfl⟩
  obtain ⟨ka, tc, rfl, hcap, hk⟩ := ht
  obtain ⟨nk, hnk⟩ : ∃ nk, nk = foLen t.kids := ⟨_, rfl⟩
  rw [← hnk, ← hgn]
  obtain ⟨B, hB⟩ : ∃ B, B = allocs w [.cells #[.slice ga gn gc, .int .i64 g.root] 55, .cells #[.int .i64 t.id, .int .i64 t.kind, .string t.text, .slice ka nk tc] 24, .cells #[.int .i8 op, .int .i64 id, .int .i64 par, .int .i64 at_, .string tx, .int .i64 x.id, .int .i64 x.kind, .string x.text, .slice sa sn sc] 47] := ⟨_, rfl⟩
  have hb : Below w.heap.size w B := by rw [hB]; exact allocs_below _ _
  have hgb0 : B.heap[w.heap.size]? = some (.cells #[.slice ga gn gc, .int .i64 g.root] 55 (0, 0)) := by rw [hB]; exact allocs_at _ _ 0 _ rfl
  have ht0 : B.heap[w.heap.size + 1]? = some (.cells #[.int .i64 t.id, .int .i64 t.kind, .string t.text, .slice ka nk tc] 24 (0, 0)) := by rw [hB]; exact allocs_at _ _ 1 _ rfl
  have hs0 : B.heap[w.heap.size + 1 + 1]? = some (.cells #[.int .i8 op, .int .i64 id, .int .i64 par, .int .i64 at_, .string tx, .int .i64 x.id, .int .i64 x.kind, .string x.text, .slice sa sn sc] 47 (0, 0)) := by rw [hB]; exact allocs_at _ _ 2 _ rfl
  have hcell : ∀ X, Below B.heap.size B X → (X.cell? ⟨w.heap.size, 0, none⟩ = some (.slice ga gn gc) ∧ X.cell? ⟨w.heap.size, 1, none⟩ = some (.int .i64 g.root)) ∧ (X.cell? ⟨w.heap.size + 1, 0, none⟩ = some (.int .i64 t.id) ∧ X.cell? ⟨w.heap.size + 1, 1, none⟩ = some (.int .i64 t.kind) ∧ X.cell? ⟨w.heap.size + 1, 2, none⟩ = some (.string t.text) ∧ X.cell? ⟨w.heap.size + 1, 3, none⟩ = some (.slice ka nk tc)) ∧ X.cell? ⟨w.heap.size + 1 + 1, 0, none⟩ = some (.int .i8 op) ∧ X.cell? ⟨w.heap.size + 1 + 1, 1, none⟩ = some (.int .i64 id) ∧ X.cell? ⟨w.heap.size + 1 + 1, 2, none⟩ = some (.int .i64 par) ∧ X.cell? ⟨w.heap.size + 1 + 1, 3, none⟩ = some (.int .i64 at_) ∧ X.cell? ⟨w.heap.size + 1 + 1, 4, none⟩ = some (.string tx) ∧ X.cell? ⟨w.heap.size + 1 + 1, 5, none⟩ = some (.int .i64 x.id) ∧ X.cell? ⟨w.heap.size + 1 + 1, 6, none⟩ = some (.int .i64 x.kind) ∧ X.cell? ⟨w.heap.size + 1 + 1, 7, none⟩ = some (.string x.text) ∧ X.cell? ⟨w.heap.size + 1 + 1, 8, none⟩ = some (.slice sa sn sc) := fun X hX => by
    have eg := (hX.block _ (lt_of_heap hgb0)).trans hgb0
    have e0 := (hX.block _ (lt_of_heap ht0)).trans ht0
    have e1 := (hX.block _ (lt_of_heap hs0)).trans hs0
    exact ⟨⟨by rw [cell_of_row _ _ 0 _ _ _ eg]; rfl, by rw [cell_of_row _ _ 1 _ _ _ eg]; rfl⟩, box4 e0, by rw [cell_of_row _ _ 0 _ _ _ e1]; rfl, by rw [cell_of_row _ _ 1 _ _ _ e1]; rfl, by rw [cell_of_row _ _ 2 _ _ _ e1]; rfl, by rw [cell_of_row _ _ 3 _ _ _ e1]; rfl, by rw [cell_of_row _ _ 4 _ _ _ e1]; rfl, by rw [cell_of_row _ _ 5 _ _ _ e1]; rfl, by rw [cell_of_row _ _ 6 _ _ _ e1]; rfl, by rw [cell_of_row _ _ 7 _ _ _ e1]; rfl, by rw [cell_of_row _ _ 8 _ _ _ e1]; rfl⟩
  have hgr : ∀ X, Below B.heap.size B X → GrV X (.agg #[.slice ga gn gc, .int .i64 g.root]) g := fun X hX => ⟨ga, gc, by rw [hgn], hgk.below (hb.trans (hX.mono hb.size))⟩
  have htr : ∀ X, Below B.heap.size B X → TrAt X S (.agg #[.int .i64 t.id, .int .i64 t.kind, .string t.text, .slice ka nk tc]) t := fun X hX => ⟨ka, tc, by rw [hnk], by rw [hnk] at *; exact hcap, hk.below (hb.trans (hX.mono hb.size)) hS⟩
  have hxr : ∀ X, Below B.heap.size B X → TrAt X Sx (.agg #[.int .i64 x.id, .int .i64 x.kind, .string x.text, .slice sa sn sc]) x := fun X hX => hx.kept fun y hy => ⟨hy, (hX.block y (Nat.lt_of_lt_of_le (hSx y hy) hb.size)).trans (hb.block y (hSx y hy))⟩
  have hSX : ∀ X, Below B.heap.size B X → (∀ y, S y → y < X.heap.size) ∧ (∀ y, Sx y → y < X.heap.size) := fun X hX => ⟨fun y hy => Nat.lt_of_lt_of_le (hS y hy) (Nat.le_trans hb.size hX.size), fun y hy => Nat.lt_of_lt_of_le (hSx y hy) (Nat.le_trans hb.size hX.size)⟩
  have HTX := Lib.hid (And.intro hgr (And.intro htr (And.intro hxr hSX)))
  have HF := Lib.hid (And.intro hlen (And.intro hfit (And.intro hxl (And.intro hxf (And.intro hok (And.intro hxk (And.intro hop (And.intro hid (And.intro htx hfg)))))))))
  have HCE := Lib.hid hcell
  have HB := Lib.hid hb
  have HBB := Lib.hid (Below.refl B.heap.size B)
  have HBE := Lib.hid hB
  have hgg := great_anyV B (.agg #[.slice ga gn gc, .int .i64 g.root]) g (hgr B (Below.refl _ _)) hfg
  obtain ⟨bg, hbg⟩ : ∃ bg, bg = greatG g := ⟨_, rfl⟩
  rw [← hbg] at hgg
  have HGG := Lib.hid hgg
  have HBG := Lib.hid hbg
  obtain ⟨⟨g0, g1⟩, ⟨n0, n1, n2, n3⟩, m0, m1, m2, m3, m4, m5, m6, m7, m8⟩ := hcell B (Below.refl _ _)
  rw [hB] at g0 g1 n0 n1 n2 n3 m0 m1 m2 m3 m4 m5 m6 m7 m8
  clear hgr htr hxr hSX hcell hb hgb0 ht0 hs0 hB hS hSx hk hcap hgk hgn hnk hx hlen hfit hxl hxf hok hxk hop hid htx hfg hgg hbg
  go_enter Try.func11, Try.ntmps11
  go_wp2_with fail
  clear g0 g1 n0 n1 n2 n3 m0 m1 m2 m3 m4 m5 m6 m7 m8
  change Calls _ _ _ (allocs w [.cells #[.slice ga gn gc, .int .i64 g.root] 55, .cells #[.int .i64 t.id, .int .i64 t.kind, .string t.text, .slice ka nk tc] 24, .cells #[.int .i8 op, .int .i64 id, .int .i64 par, .int .i64 at_, .string tx, .int .i64 x.id, .int .i64 x.kind, .string x.text, .slice sa sn sc] 47]) _
  rw [← HBE.out]
  clear HBE
  refine HGG.out.mono ?_
  rintro e W1 ⟨rfl, hb1⟩
  have HBW1 := Lib.hid (HBB.out.trans (hb1.mono HBB.out.size))
  clear hb1 HGG
  obtain ⟨⟨g0, g1⟩, ⟨n0, n1, n2, n3⟩, m0, m1, m2, m3, m4, m5, m6, m7, m8⟩ := HCE.out W1 HBW1.out
  cases bg
  rotate_left
  · clear HBG HF
    go_wp2_with fail
    refine (wakes_any W1).mono ?_
    rintro e wZ ⟨rfl, hbZ⟩
    have HBwZ := Lib.hid ((HB.out.trans (HBW1.out.mono HB.out.size)).trans (hbZ.mono (HB.out.trans (HBW1.out.mono HB.out.size)).size))
    clear hbZ
    go_wp2_with fail
    go_ret
    exact ⟨rfl, HBwZ.out⟩
  have HG3 := Lib.hid (great3_any W1 S (.agg #[.int .i64 t.id, .int .i64 t.kind, .string t.text, .slice ka nk tc]) t HF.out.1 HF.out.2.1 (HTX.out.2.2.2 W1 HBW1.out).1 (HTX.out.2.1 W1 HBW1.out))
  go_wp2_with fail
  refine HG3.out.mono ?_
  rintro e W2 ⟨bt, rfl, hbt, hb2⟩
  have HBW2 := Lib.hid (HBW1.out.trans (hb2.mono HBW1.out.size))
  have HBT := Lib.hid hbt
  clear hb2 hbt HG3
  clear g0 g1 n0 n1 n2 n3 m0 m1 m2 m3 m4 m5 m6 m7 m8
  obtain ⟨⟨g0, g1⟩, ⟨n0, n1, n2, n3⟩, m0, m1, m2, m3, m4, m5, m6, m7, m8⟩ := HCE.out W2 HBW2.out
  cases bt
  rotate_left
  · clear HBG HF HBT
    go_wp2_with fail
    refine (wakes_any W2).mono ?_
    rintro e wZ ⟨rfl, hbZ⟩
    have HBwZ := Lib.hid ((HB.out.trans (HBW2.out.mono HB.out.size)).trans (hbZ.mono (HB.out.trans (HBW2.out.mono HB.out.size)).size))
    clear hbZ
    go_wp2_with fail
    go_ret
    exact ⟨rfl, HBwZ.out⟩
  obtain ⟨V2, hV2⟩ : ∃ V2, V2 = W2.alloc (.cells #[.int .i8 op, .int .i64 id, .int .i64 par, .int .i64 at_, .string tx, .int .i64 x.id, .int .i64 x.kind, .string x.text, .slice sa sn sc] 47) := ⟨_, rfl⟩
  have hbv : Below W2.heap.size W2 V2 := by rw [hV2]; exact box_below _ _
  have hv0 : V2.heap[W2.heap.size]? = some (.cells #[.int .i8 op, .int .i64 id, .int .i64 par, .int .i64 at_, .string tx, .int .i64 x.id, .int .i64 x.kind, .string x.text, .slice sa sn sc] 47 (0, 0)) := by rw [hV2]; exact heap_alloc_new _ _
  have HBV2 := Lib.hid (HBW2.out.trans (hbv.mono HBW2.out.size))
  have HGS := Lib.hid (greatS1_any V2 Sx x op id par at_ tx sa sn sc W2.heap.size (HTX.out.2.2.1 V2 HBV2.out) (HTX.out.2.2.2 V2 HBV2.out).2 HF.out.2.2.1 HF.out.2.2.2.1 HF.out.2.2.2.2.2.2.2.2.1 hv0)
  have HV2 := Lib.hid hV2
  clear hbv hv0 hV2
  go_wp2_with fail
  rw [← HV2.out]
  refine HGS.out.mono ?_
  rintro e W3 ⟨bs, rfl, hbs, hb3⟩
  have HBW3 := Lib.hid (HBV2.out.trans (hb3.mono HBV2.out.size))
  have HBS := Lib.hid hbs
  clear hb3 hbs HGS HV2
  clear g0 g1 n0 n1 n2 n3 m0 m1 m2 m3 m4 m5 m6 m7 m8
  obtain ⟨⟨g0, g1⟩, ⟨n0, n1, n2, n3⟩, m0, m1, m2, m3, m4, m5, m6, m7, m8⟩ := HCE.out W3 HBW3.out
  cases bs
  rotate_left
  · clear HBG HF HBT HBS
    go_wp2_with fail
    refine (wakes_any W3).mono ?_
    rintro e wZ ⟨rfl, hbZ⟩
    have HBwZ := Lib.hid ((HB.out.trans (HBW3.out.mono HB.out.size)).trans (hbZ.mono (HB.out.trans (HBW3.out.mono HB.out.size)).size))
    clear hbZ
    go_wp2_with fail
    go_ret
    exact ⟨rfl, HBwZ.out⟩
  have htsz := HBT.out (by trivial)
  have hxsz := HBS.out (by trivial)
  have HSZ := Lib.hid (And.intro htsz hxsz)
  have HFEW := Lib.hid (great_fewK HBG.out.symm).1
  have hrt := rtree_any W3 S (.agg #[.slice ga gn gc, .int .i64 g.root]) (.agg #[.int .i64 t.id, .int .i64 t.kind, .string t.text, .slice ka nk tc]) g t (HTX.out.1 W3 HBW3.out) HFEW.out (HTX.out.2.2.2 W3 HBW3.out).1 (HTX.out.2.1 W3 HBW3.out) HF.out.1 HF.out.2.1 (by omega) HF.out.2.2.2.2.1
  obtain ⟨c2, hc2⟩ : ∃ c2, c2 = (treeR g t).2 := ⟨_, rfl⟩
  obtain ⟨c1, hc1⟩ : ∃ c1, c1 = (treeR g t).1 := ⟨_, rfl⟩
  unfold Says2 at hrt
  rw [← hc1, ← hc2] at hrt
  have HRT := Lib.hid hrt
  have HC2 := Lib.hid hc2
  clear htsz hxsz hrt hc1 hc2 HBG HBT HBS
  go_wp2_with fail
  refine HRT.out.mono ?_
  rintro e W4 ⟨rfl, hb4⟩
  have HBW4 := Lib.hid (HBW3.out.trans (hb4.mono HBW3.out.size))
  clear hb4 HRT
  clear g0 g1 n0 n1 n2 n3 m0 m1 m2 m3 m4 m5 m6 m7 m8
  by_cases hcz : c2 = 0
  rotate_left
  · have hczb : (c2 != 0) = true := by simpa using hcz
    clear hcz HF HC2
    go_wp2_with fail
    refine (wakes_any W4).mono ?_
    rintro e wZ ⟨rfl, hbZ⟩
    have HBwZ := Lib.hid ((HB.out.trans (HBW4.out.mono HB.out.size)).trans (hbZ.mono (HB.out.trans (HBW4.out.mono HB.out.size)).size))
    clear hbZ
    go_wp2_with fail
    go_ret
    exact ⟨rfl, HBwZ.out⟩
  have hczb : (c2 != 0) = false := by simpa using hcz
  have HTD := Lib.hid (tree_dist (g := g) (t := t) (by rw [← HC2.out]; exact hcz))
  clear hcz
  obtain ⟨⟨g0, g1⟩, ⟨n0, n1, n2, n3⟩, m0, m1, m2, m3, m4, m5, m6, m7, m8⟩ := HCE.out W4 HBW4.out
  have hdo := do_any W4 S Sx (.agg #[.slice ga gn gc, .int .i64 g.root]) (.agg #[.int .i64 t.id, .int .i64 t.kind, .string t.text, .slice ka nk tc]) g t x op id par at_ tx sa sn sc (HTX.out.1 W4 HBW4.out) HFEW.out (HTX.out.2.2.2 W4 HBW4.out).1 (HTX.out.2.2.2 W4 HBW4.out).2 (HTX.out.2.1 W4 HBW4.out) (HTX.out.2.2.1 W4 HBW4.out) (by have := HSZ.out; omega) (by have := HSZ.out; omega) HF.out.2.2.2.2.2.2.1 HF.out.2.2.2.2.1 HF.out.2.2.2.2.2.1 HF.out.2.2.2.2.2.2.2.2.1
  obtain ⟨r, hr⟩ : ∃ r, r = stepK op id par at_ tx x t := ⟨_, rfl⟩
  obtain ⟨d, hd⟩ : ∃ d, d = doK g r := ⟨_, rfl⟩
  rw [← hr, ← hd] at hdo
  obtain ⟨y, hy⟩ : ∃ y, y = applyR d := ⟨_, rfl⟩
  obtain ⟨yn, hyn⟩ : ∃ yn, yn = foLen y.kids := ⟨_, rfl⟩
  obtain ⟨ye, hye⟩ : ∃ ye, ye = d.2 := ⟨_, rfl⟩
  have HDO := Lib.hid hdo
  have HY := Lib.hid (And.intro hy (And.intro hyn (And.intro hye (And.intro hd hr))))
  clear hdo hr hd hy hyn hye
  go_wp2_with fail
  refine HDO.out.mono ?_
  rintro e W5 ⟨_, rfl, ⟨yb, yc, rfl, hyc, hyk⟩, hb5⟩
  rw [← HY.out.1] at hyc hyk ⊢
  rw [← HY.out.2.1] at hyc ⊢
  rw [← HY.out.2.2.1]
  obtain ⟨W6, hW6⟩ : ∃ W6, W6 = W5.alloc (.cells #[.int .i64 y.id, .int .i64 y.kind, .string y.text, .slice yb yn yc] 24) := ⟨_, rfl⟩
  have hb56 : Below W5.heap.size W5 W6 := by rw [hW6]; exact box_below _ _
  have hy6 : W6.heap[W5.heap.size]? = some (.cells #[.int .i64 y.id, .int .i64 y.kind, .string y.text, .slice yb yn yc] 24 (0, 0)) := by rw [hW6]; exact heap_alloc_new _ _
  have HBW5 := Lib.hid (HBW4.out.trans (hb5.mono HBW4.out.size))
  have HBW6 := Lib.hid (HBW5.out.trans (hb56.mono HBW5.out.size))
  have HYA := Lib.hid (And.intro hyc (And.intro hyk hb56))
  have HW6 := Lib.hid hW6
  obtain ⟨xb, hxb⟩ : ∃ xb, xb = W5.heap.size := ⟨_, rfl⟩
  rw [← hxb] at hy6
  have HY6 := Lib.hid hy6
  clear g0 g1 n0 n1 n2 n3 m0 m1 m2 m3 m4 m5 m6 m7 m8
  clear hyc hyk hb56 hy6 hW6 hb5 HDO hczb
  go_upto_region 7 with fail
  change Code.wp _ _ _ _ (W5.alloc (.cells #[.int .i64 y.id, .int .i64 y.kind, .string y.text, .slice yb yn yc] 24))
  rw [← HW6.out, ← hxb]
  clear HW6 hxb
  by_cases hz : ye = 0
  rotate_left
  · have hzb : (ye != 0) = true := by simpa using hz
    have hy0 : y = zeroK := by rw [HY.out.1, applyR, if_neg (by rw [← HY.out.2.2.1]; exact hz)]
    have hyn0 : yn = 0 := by rw [HY.out.2.1, hy0]; rfl
    have hq := HY6.out
    rw [hyn0, hy0] at hq
    obtain ⟨y0, y1, y2, y3⟩ := box4 hq
    rw [show zeroK.id = 0 from rfl] at y0
    clear hz HF hy0 hyn0 hq HYA y1 y2
    go_wp2_with fail
    refine (wakes_any W6).mono ?_
    rintro e wZ ⟨rfl, hbZ⟩
    have HBwZ := Lib.hid ((HB.out.trans (HBW6.out.mono HB.out.size)).trans (hbZ.mono (HB.out.trans (HBW6.out.mono HB.out.size)).size))
    clear hbZ
    go_wp2_with fail
    go_ret
    exact ⟨rfl, HBwZ.out⟩
  have hzb : (ye != 0) = false := by simpa using hz
  have hdk := doK_ok (g := g) (r := r) (by rw [← HY.out.2.2.2.1, ← HY.out.2.2.1]; exact hz)
  have hyr : y = r.1 := by rw [HY.out.1, HY.out.2.2.2.1]; exact hdk.2.2
  have hfx := stepK_fx (op := op) (id := id) (par := par) (at_ := at_) (tx := tx) (x := x) (t := t) (y := y) (by rw [← HY.out.2.2.2.2, hyr]; exact Prod.ext rfl hdk.1)
  have hty : (treeR g y).2 = 0 := by rw [hyr]; exact hdk.2.1
  have hyd := tree_dist hty
  have hyok := hfx.1.ok HF.out.2.2.2.2.1 HF.out.2.2.2.2.2.1 HF.out.2.2.2.2.2.2.2.2.1
  have hyfit : foLen y.kids ≤ 9223372036854775807 ∧ foFit y.kids := ⟨by have := foLen_le y.kids; omega, foFit_szL y.kids (by omega)⟩
  have HFX := Lib.hid (And.intro hfx.1 (And.intro HTD.out.1 (And.intro hyd.1 (And.intro hyd.2 hyok))))
  have hyid : (y.id != t.id) = false := by simp [hfx.2]
  obtain ⟨SY, hSY⟩ : ∃ SY : Nat → Prop, SY = fun z => z < W5.heap.size ∧ (CellsB W5 z ∧ ((S z ∨ Sx z) ∨ W4.heap.size ≤ z)) := ⟨_, rfl⟩
  have HSY : Hid (∀ X, Below W5.heap.size W5 X → (∀ z, SY z → z < X.heap.size) ∧ TrAt X SY (.agg #[.int .i64 y.id, .int .i64 y.kind, .string y.text, .slice yb yn yc]) y) := Lib.hid fun X hX => by
    rw [hSY]
    exact ⟨fun z hz => Nat.lt_of_lt_of_le hz.1 hX.size, yb, yc, by rw [HY.out.2.1], by rw [← HY.out.2.1]; exact HYA.out.1, HYA.out.2.1.kept fun z hz => ⟨⟨hz.1.lt, hz⟩, hX.block z hz.1.lt⟩⟩
  have HL6 := Lib.hid HYA.out.2.2
  have hrty := rtree_any W6 SY (.agg #[.slice ga gn gc, .int .i64 g.root]) (.agg #[.int .i64 y.id, .int .i64 y.kind, .string y.text, .slice yb yn yc]) g y (HTX.out.1 W6 HBW6.out) HFEW.out (HSY.out W6 HL6.out).1 (HSY.out W6 HL6.out).2 hyfit.1 hyfit.2 (by omega) hyok
  obtain ⟨d1, hd1⟩ : ∃ d1, d1 = (treeR g y).1 := ⟨_, rfl⟩
  unfold Says2 at hrty
  rw [← hd1, hty] at hrty
  have HRTY := Lib.hid hrty
  subst hz
  clear hzb hdk hyr hfx hty hyd hyok hyfit hSY hrty hd1 HY HYA
  obtain ⟨⟨g0, g1⟩, ⟨n0, n1, n2, n3⟩, m0, m1, m2, m3, m4, m5, m6, m7, m8⟩ := HCE.out W6 HBW6.out
  obtain ⟨y0, y1, y2, y3⟩ := box4 HY6.out
  go_wp2_with fail
  refine HRTY.out.mono ?_
  rintro e W7 ⟨rfl, hb7⟩
  have HBW7 := Lib.hid (HBW6.out.trans (hb7.mono HBW6.out.size))
  have HL7 := Lib.hid (HL6.out.trans (hb7.mono HL6.out.size))
  have HY7 := Lib.hid ((hb7.block _ (lt_of_heap HY6.out)).trans HY6.out)
  clear hb7 HRTY y0 y1 y2 y3
  clear g0 g1 n0 n1 n2 n3 m0 m1 m2 m3 m4 m5 m6 m7 m8
  obtain ⟨⟨g0, g1⟩, ⟨n0, n1, n2, n3⟩, m0, m1, m2, m3, m4, m5, m6, m7, m8⟩ := HCE.out W7 HBW7.out
  obtain ⟨y0, y1, y2, y3⟩ := box4 HY7.out
  go_upto_region 12 with fail
  have hall : ∀ u : Tr, foSize u.kids + 1 ≤ 250 → (spF 1 (rootF u)).take 1000 = spF 1 (rootF u) := fun u hu => List.take_of_length_le (by rw [spF_length, rootF_size]; omega)
  have HIT : Hid (∀ X, Below W7.heap.size W7 X → Calls Try.prog 71 #[.agg #[.int .i64 t.id, .int .i64 t.kind, .string t.text, .slice ka nk tc]] X (IdsN X S (spF 1 (rootF t)))) := Lib.hid fun X hX => by
    have hX2 := HBW7.out.trans (hX.mono HBW7.out.size)
    have h := idsN_any X S (.agg #[.int .i64 t.id, .int .i64 t.kind, .string t.text, .slice ka nk tc]) t HF.out.1 HF.out.2.1 (HTX.out.2.2.2 X hX2).1 (HTX.out.2.1 X hX2) (fun z hz => (HF.out.2.2.2.2.1 z hz).2)
    rw [hall t (by have := HSZ.out; omega)] at h; exact h
  have HIY : Hid (∀ X, Below W7.heap.size W7 X → Calls Try.prog 71 #[.agg #[.int .i64 y.id, .int .i64 y.kind, .string y.text, .slice yb yn yc]] X (IdsN X SY (spF 1 (rootF y)))) := Lib.hid fun X hX => by
    have hX2 := HL7.out.trans (hX.mono HL7.out.size)
    have h := idsN_any X SY (.agg #[.int .i64 y.id, .int .i64 y.kind, .string y.text, .slice yb yn yc]) y (by have := foLen_le y.kids; have := HFX.out.2.2.2.1; omega) (foFit_szL y.kids (by have := HFX.out.2.2.2.1; omega)) (HSY.out X hX2).1 (HSY.out X hX2).2 (fun z hz => (HFX.out.2.2.2.2 z hz).2)
    rw [hall y (by have := HFX.out.2.2.2.1; omega)] at h; exact h
  have HIX : Hid (∀ X, Below W7.heap.size W7 X → Calls Try.prog 71 #[.agg #[.int .i64 x.id, .int .i64 x.kind, .string x.text, .slice sa sn sc]] X (IdsN X Sx (spF 1 (rootF x)))) := Lib.hid fun X hX => by
    have hX2 := HBW7.out.trans (hX.mono HBW7.out.size)
    have h := idsN_any X Sx (.agg #[.int .i64 x.id, .int .i64 x.kind, .string x.text, .slice sa sn sc]) x HF.out.2.2.1 HF.out.2.2.2.1 (HTX.out.2.2.2 X hX2).2 (HTX.out.2.2.1 X hX2) (fun z hz => (HF.out.2.2.2.2.2.1 z hz).2)
    rw [hall x (by have := HSZ.out; omega)] at h; exact h
  clear hall hyid y0 y1 y2 y3
  clear g0 g1 n0 n1 n2 n3 m0 m1 m2 m3 m4 m5 m6 m7 m8
  refine wp_region_held_drew (S := fun X => Below W7.heap.size W7 X) (by kernel_rfl) (below_drewN (Below.refl _ W7) 1) (fun hHeld => ?_)
  refine wpAnyH_take (i := 0) (oi := _) (v := .agg #[.int .i64 t.id, .int .i64 t.kind, .string t.text, .slice ka nk tc]) rfl (by kernel_rfl) (by kernel_rfl) (by kernel_rfl) (fun _ _ _ h => h) (Or.inl ⟨by rfl, ?_⟩) (by assumption) ?_
  · clear hHeld; intro X hSw; obtain ⟨⟨g0, g1⟩, ⟨n0, n1, n2, n3⟩, m0, m1, m2, m3, m4, m5, m6, m7, m8⟩ := HCE.out X (HBW7.out.trans (hSw.mono HBW7.out.size)); clear hSw; go_simp
  simp only [Act.put, List.getElem_toArray, List.getElem_cons_zero, List.getElem_cons_succ, List.setIfInBounds_toArray, List.set_cons_zero, List.set_cons_succ]
  refine wpAnyH_take (i := 2) (oi := _) (v := .agg #[.int .i64 y.id, .int .i64 y.kind, .string y.text, .slice yb yn yc]) rfl (by kernel_rfl) (by kernel_rfl) (by kernel_rfl) (fun _ _ _ h => h) (Or.inl ⟨by rfl, ?_⟩) (by assumption) ?_
  · clear hHeld; intro X hSw; obtain ⟨y0, y1, y2, y3⟩ := box4 ((hSw.block _ (lt_of_heap HY7.out)).trans HY7.out); clear hSw; go_simp
  simp only [Act.put, List.getElem_toArray, List.getElem_cons_zero, List.getElem_cons_succ, List.setIfInBounds_toArray, List.set_cons_zero, List.set_cons_succ]
  refine wpAnyH_take (i := 4) (oi := _) (v := .pointer (some ⟨w.heap.size + 1 + 1, 5, none⟩)) rfl (by kernel_rfl) (by kernel_rfl) (by kernel_rfl) (fun _ _ _ h => h) (Or.inl ⟨by rfl, ?_⟩) (by assumption) ?_
  · clear hHeld; intro X hSw; clear hSw; go_simp
  simp only [Act.put, List.getElem_toArray, List.getElem_cons_zero, List.getElem_cons_succ, List.setIfInBounds_toArray, List.set_cons_zero, List.set_cons_succ]
  refine wpAnyH_take (i := 5) (oi := _) (v := .agg #[.int .i64 x.id, .int .i64 x.kind, .string x.text, .slice sa sn sc]) rfl (by kernel_rfl) (by kernel_rfl) (by kernel_rfl) (fun _ _ _ h => h) (Or.inl ⟨by rfl, ?_⟩) (by assumption) ?_
  · clear hHeld; intro X hSw; obtain ⟨⟨g0, g1⟩, ⟨n0, n1, n2, n3⟩, m0, m1, m2, m3, m4, m5, m6, m7, m8⟩ := HCE.out X (HBW7.out.trans (hSw.mono HBW7.out.size)); clear hSw; go_simp
  simp only [Act.put, List.getElem_toArray, List.getElem_cons_zero, List.getElem_cons_succ, List.setIfInBounds_toArray, List.set_cons_zero, List.set_cons_succ]
  refine wpAnyH_ready (rs := [1]) (by kernel_rfl) (by simp) ?_
  refine AllReadyH.cons (o := _) rfl (fun K hK => ?_) AllReadyH.nil
  rw [if_pos (by rfl)]
  simp only [List.getElem_toArray, List.getElem_cons_zero, List.getElem_cons_succ]
  have HK := Lib.hid hK
  have HS := Lib.hid hHeld
  clear hK hHeld
  go_wp2_with (go_at_call 71; refine (HIT.out _ HS.out).mono ?_; rintro e W8 ⟨ma, La, rfl, hm8, hown, hvals, hb8⟩; have HO8 := Lib.hid (And.intro hown (And.intro hvals hm8)); have HS8 := Lib.hid (HS.out.trans (hb8.mono HS.out.size)); have HSS8 := Lib.hid hb8; clear hown hvals hb8 hm8)
  refine HK.out _ _ HS8.out (fun hHeld => ?_)
  clear HK HS
  refine wpAnyH_ready (rs := [3]) (by kernel_rfl) (by simp) ?_
  refine AllReadyH.cons (o := _) rfl (fun K hK => ?_) AllReadyH.nil
  rw [if_pos (by rfl)]
  simp only [List.getElem_toArray, List.getElem_cons_zero, List.getElem_cons_succ]
  have HK := Lib.hid hK
  have HS := Lib.hid hHeld
  clear hK hHeld
  go_wp2_with (go_at_call 71; refine (HIY.out _ HS.out).mono ?_; rintro e W9 ⟨mb, Lb, rfl, hm9, hown, hvals, hb9⟩; have HO9 := Lib.hid (And.intro hown (And.intro hvals hm9)); have HS9 := Lib.hid (HS.out.trans (hb9.mono HS.out.size)); have HSS9 := Lib.hid hb9; clear hown hvals hb9 hm9)
  refine HK.out _ _ HS9.out (fun hHeld => ?_)
  clear HK HS
  refine wpAnyH_ready (rs := [6]) (by kernel_rfl) (by simp) ?_
  refine AllReadyH.cons (o := _) rfl (fun K hK => ?_) AllReadyH.nil
  rw [if_pos (by rfl)]
  simp only [List.getElem_toArray, List.getElem_cons_zero, List.getElem_cons_succ]
  have HK := Lib.hid hK
  have HS := Lib.hid hHeld
  clear hK hHeld
  go_wp2_with (go_at_call 71; refine (HIX.out _ HS.out).mono ?_; rintro e W10 ⟨mm, Lm, rfl, hm10, hown, hvals, hb10⟩; have HO10 := Lib.hid (And.intro hown (And.intro hvals hm10)); have HS10 := Lib.hid (HS.out.trans (hb10.mono HS.out.size)); have HSS10 := Lib.hid hb10; clear hown hvals hb10 hm10)
  refine HK.out _ _ HS10.out (fun hHeld => ?_)
  clear HK HS
  refine wpAnyH_take (i := 7) (oi := _) (v := .map (some ma)) rfl (by kernel_rfl) (by kernel_rfl) (by kernel_rfl) (fun _ _ _ h => h) (Or.inl ⟨by rfl, ?_⟩) (by assumption) ?_
  · clear hHeld; intro X hSw; clear hSw; go_simp
  simp only [Act.put, List.getElem_toArray, List.getElem_cons_zero, List.getElem_cons_succ, List.setIfInBounds_toArray, List.set_cons_zero, List.set_cons_succ]
  refine wpAnyH_take (i := 8) (oi := _) (v := .map (some mb)) rfl (by kernel_rfl) (by kernel_rfl) (by kernel_rfl) (fun _ _ _ h => h) (Or.inl ⟨by rfl, ?_⟩) (by assumption) ?_
  · clear hHeld; intro X hSw; clear hSw; go_simp
  simp only [Act.put, List.getElem_toArray, List.getElem_cons_zero, List.getElem_cons_succ, List.setIfInBounds_toArray, List.set_cons_zero, List.set_cons_succ]
  refine wpAnyH_take (i := 9) (oi := _) (v := .map (some mm)) rfl (by kernel_rfl) (by kernel_rfl) (by kernel_rfl) (fun _ _ _ h => h) (Or.inl ⟨by rfl, ?_⟩) (by assumption) ?_
  · clear hHeld; intro X hSw; clear hSw; go_simp
  simp only [Act.put, List.getElem_toArray, List.getElem_cons_zero, List.getElem_cons_succ, List.setIfInBounds_toArray, List.set_cons_zero, List.set_cons_succ]
  refine wpAnyH_done (by kernel_rfl) ?_ _
  clear hHeld
  have HBW10 := Lib.hid (HBW7.out.trans (HS10.out.mono HBW7.out.size))
  have hoa : OwnsN W10 ma (spF 1 (rootF t)).length La := HO8.out.1.at ((HSS10.out.block _ (Nat.lt_of_lt_of_le (World.ownsMap.lt HO8.out.1) HSS9.out.size)).trans (HSS9.out.block _ (World.ownsMap.lt HO8.out.1)))
  have hob : OwnsN W10 mb (spF 1 (rootF y)).length Lb := HO9.out.1.at (HSS10.out.block _ (World.ownsMap.lt HO9.out.1))
  have hva : ValsOf W10 S (spF 1 (rootF t)) La := HO8.out.2.1.kept fun z hz => by
    have h1 := (HTX.out.2.2.2 W7 HBW7.out).1 z hz
    have h2 := HS8.out.size
    exact ⟨hz, (HSS10.out.block z (by have := HSS9.out.size; omega)).trans (HSS9.out.block z (by omega))⟩
  have HM := Lib.hid (And.intro hoa (And.intro hob (And.intro HO10.out.1 (And.intro hva (And.intro HO9.out.2.1 HO10.out.2.1)))))
  have HW7S := Lib.hid HS10.out
  clear hoa hob hva HIT HIY HIX HO8 HO9 HO10 HS8 HS9 HS10 HSS8 HSS9 HSS10 HL6 HY6
  obtain ⟨na, hna⟩ : ∃ na, na = (spF 1 (rootF t)).length := ⟨_, rfl⟩
  obtain ⟨nb, hnb⟩ : ∃ nb, nb = (spF 1 (rootF y)).length := ⟨_, rfl⟩
  obtain ⟨nm, hnm⟩ : ∃ nm, nm = (spF 1 (rootF x)).length := ⟨_, rfl⟩
  rw [← hna, ← hnb, ← hnm] at HM
  have HN := Lib.hid (And.intro hna (And.intro hnb hnm))
  clear hna hnb hnm
  -- an empty map
  obtain ⟨W11, hW11⟩ : ∃ W11, W11 = W10.alloc (.map #[] 0) := ⟨_, rfl⟩
  have hb11 : Below W10.heap.size W10 W11 := by rw [hW11]; exact box_below _ _
  have hog : OwnsN W11 W10.heap.size 0 [] := by rw [hW11]; exact World.ownsMap_made W10 Try.prog 3 heldE
  have HBW11 := Lib.hid (HBW10.out.trans (hb11.mono HBW10.out.size))
  have hmm := @run_makeMap Try.prog
  have HW11 := Lib.hid hW11
  have HOG := Lib.hid hog
  have HL11 := Lib.hid hb11
  obtain ⟨mg0, hmg0⟩ : ∃ mg0, mg0 = W10.heap.size := ⟨_, rfl⟩
  rw [← hmg0] at HOG
  clear hog hb11 hW11
  go_upto_region 14 with fail
  change Code.wp _ _ _ _ (W10.alloc (.map #[] 0))
  rw [← HW11.out, ← hmg0]
  clear hmm HW11
  have HMA := Lib.hid (show OwnsN W11 ma na La ∧ OwnsN W11 mb nb Lb ∧ OwnsN W11 mm nm Lm from ⟨HM.out.1.at (HL11.out.block _ (World.ownsMap.lt HM.out.1)), HM.out.2.1.at (HL11.out.block _ (World.ownsMap.lt HM.out.2.1)), HM.out.2.2.1.at (HL11.out.block _ (World.ownsMap.lt HM.out.2.2.1))⟩)
  clear hmg0
  obtain ⟨⟨g0, g1⟩, ⟨n0, n1, n2, n3⟩, m0, m1, m2, m3, m4, m5, m6, m7, m8⟩ := HCE.out W11 HBW11.out
  by_cases ho2 : op = 2
  · have ho2b : (op == 2) = true := by simpa using ho2
    obtain ⟨u, up, uc, hlu, htu, hgt, hus, hkeys⟩ := claim_gone ho2 HFX.out.1 HFX.out.2.1 HM.out.2.2.2.1
    unfold nodeV at hlu htu
    obtain ⟨un, hun⟩ : ∃ un, un = foLen u.kids := ⟨_, rfl⟩
    rw [← hun] at hlu htu
    have hlk := look_one HMA.out.1 HF.out.2.2.2.2.2.2.2.1 hlu
    have htu11 : TrAt W11 S (.agg #[.int .i64 u.id, .int .i64 u.kind, .string u.text, .slice up un uc]) u := htu.kept fun z hz => ⟨hz, HL11.out.block z ((HTX.out.2.2.2 W10 HBW10.out).1 z hz)⟩
    have hidu := idsN_any W11 S _ u (by have := foLen_le u.kids; have := HSZ.out; omega) (foFit_szL u.kids (by have := HSZ.out; omega)) (HTX.out.2.2.2 W11 HBW11.out).1 htu11 (fun z hz => by
      obtain ⟨z', hz', e⟩ := hkeys z hz
      rw [e]; exact (HF.out.2.2.2.2.1 z' hz').2)
    rw [show (spF 1 (rootF u)).take 1000 = spF 1 (rootF u) from List.take_of_length_le (by rw [spF_length, rootF_size]; have := HSZ.out; omega)] at hidu
    have HIU := Lib.hid hidu
    have HGT := Lib.hid hgt
    clear hlu htu hgt hus hkeys hun htu11 hidu ho2
    go_wp2_with fail
    refine HIU.out.mono ?_
    rintro e W12 ⟨mg, Lg, rfl, hmg, hog, hvg, hb12⟩
    have HBW12 := Lib.hid (HBW11.out.trans (hb12.mono HBW11.out.size))
    have HMW12 := Lib.hid (show OwnsN W12 ma na La ∧ OwnsN W12 mb nb Lb ∧ OwnsN W12 mm nm Lm from ⟨HMA.out.1.at (hb12.block _ (World.ownsMap.lt HMA.out.1)), HMA.out.2.1.at (hb12.block _ (World.ownsMap.lt HMA.out.2.1)), HMA.out.2.2.at (hb12.block _ (World.ownsMap.lt HMA.out.2.2))⟩)
    obtain ⟨ng, hng⟩ : ∃ ng, ng = (spF 1 (rootF u)).length := ⟨_, rfl⟩
    rw [← hng] at hog
    have HGN := Lib.hid hog
    have HC1 := Lib.hid (claim1 (Lg := Lg) (wg := W12) (Sg := S) HFX.out.1 HFX.out.2.1 HFX.out.2.2.1 HM.out.2.2.2.1 HM.out.2.2.2.2.1 (by rw [HGT.out]; exact hvg))
    unfold nodeV at HC1
    clear hmg hog hvg hb12 hng hlk HIU HGT HOG HMA g0 g1 n0 n1 n2 n3 m0 m1 m2 m3 m4 m5 m6 m7 m8
    obtain ⟨⟨g0, g1⟩, ⟨n0, n1, n2, n3⟩, m0, m1, m2, m3, m4, m5, m6, m7, m8⟩ := HCE.out W12 HBW12.out
    go_upto_region 16 with fail
    have HOA := Lib.hid HMW12.out.1
    go_wp2_with (at_range; refine wpList_range_own _ rfl _ 87 rfl 3 24 law7 Try.underlying87 heldE ma na (mapN La) rfl HOA.out ?_; intro W13 hrg hg13 hs13)
    go_frame
    obtain ⟨rb, hrb⟩ : ∃ rb, rb = W12.heap.size := ⟨_, rfl⟩
    have hb13 : Below W12.heap.size W12 W13 := ⟨hg13.os, hg13.tape, hg13.output, hg13.size, fun z hz => hg13.block z hz (by simp)⟩
    rw [← hrb] at hrg ⊢
    have HRB := Lib.hid hrb
    have HR0 := Lib.hid (And.intro hrg hb13)
    clear hrg hg13 hs13 hb13 hrb HOA g0 g1 n0 n1 n2 n3 m0 m1 m2 m3 m4 m5 m6 m7 m8
    go_loopw [103] (fun _ wr => ∃ left cnt, wr.ranges Try.prog 3 heldE ma rb na (mapN La) left cnt ∧ Hid (Below W12.heap.size W12 wr)) (fun _ wr => wr.rangeLeft ma rb)
    case atStart => exact ⟨_, _, HR0.out.1, Lib.hid HR0.out.2⟩
    case round =>
      obtain ⟨left, cnt, hrg, hh⟩ := hrel
      have HRG := Lib.hid hrg
      have HLEFT := Lib.hid hrg.left_eq
      clear hrg
      go_wp2_with (at_next; refine wpList_next_nodes _ rfl _ rfl ma rb na La left cnt rfl HRG.out ?_ ?_)
      · intro h0
        clear h0
        have HBwr := Lib.hid (HBW12.out.trans (hh.out.mono HBW12.out.size))
        have HMW := Lib.hid (show OwnsN wr ma na La ∧ OwnsN wr mb nb Lb ∧ OwnsN wr mm nm Lm from ⟨HMW12.out.1.at (hh.out.block _ (World.ownsMap.lt HMW12.out.1)), HMW12.out.2.1.at (hh.out.block _ (World.ownsMap.lt HMW12.out.2.1)), HMW12.out.2.2.at (hh.out.block _ (World.ownsMap.lt HMW12.out.2.2))⟩)
        obtain ⟨Y, hY⟩ : ∃ Y, Y = wr := ⟨_, rfl⟩
        rw [← hY] at HBwr HMW ⊢
        have HOB := Lib.hid HMW.out.2.1
        clear HRG HLEFT hh hY HRB HR0
        go_upto_region 23 with fail
        go_wp2_with (at_range; refine wpList_range_own _ rfl _ 87 rfl 3 24 law7 Try.underlying87 heldE mb nb (mapN Lb) rfl HOB.out ?_; intro Y1 hrg hg13 hs13)
        go_frame
        obtain ⟨rc, hrc⟩ : ∃ rc, rc = Y.heap.size := ⟨_, rfl⟩
        have hb13 : Below Y.heap.size Y Y1 := ⟨hg13.os, hg13.tape, hg13.output, hg13.size, fun z hz => hg13.block z hz (by simp)⟩
        rw [← hrc] at hrg ⊢
        have HRC := Lib.hid hrc
        have HR1 := Lib.hid (And.intro hrg hb13)
        clear hrg hg13 hs13 hb13 hrc HOB
        go_loopw [153] (fun _ wr => ∃ left cnt, wr.ranges Try.prog 3 heldE mb rc nb (mapN Lb) left cnt ∧ Hid (Below Y.heap.size Y wr)) (fun _ wr => wr.rangeLeft mb rc)
        case atStart => exact ⟨_, _, HR1.out.1, Lib.hid HR1.out.2⟩
        case round =>
          obtain ⟨left, cnt, hrg, hh⟩ := hrel
          have HRG := Lib.hid hrg
          have HLEFT := Lib.hid hrg.left_eq
          clear hrg
          go_wp2_with (at_next; refine wpList_next_nodes _ rfl _ rfl mb rc nb Lb left cnt rfl HRG.out ?_ ?_)
          · intro h0
            clear h0
            obtain ⟨Z, hZ⟩ : ∃ Z, Z = wr := ⟨_, rfl⟩
            have HBZ := Lib.hid (HBwr.out.trans (hh.out.mono HBwr.out.size))
            have hla := World.ownsMap.len (OwnsN.at HMW.out.1 (hh.out.block _ (World.ownsMap.lt HMW.out.1))) (e := 24) Try.underlying87 3
            have hlb := World.ownsMap.len (OwnsN.at HMW.out.2.1 (hh.out.block _ (World.ownsMap.lt HMW.out.2.1))) (e := 24) Try.underlying87 3
            have hlm := World.ownsMap.len (OwnsN.at HMW.out.2.2 (hh.out.block _ (World.ownsMap.lt HMW.out.2.2))) (e := 24) Try.underlying87 3
            obtain ⟨la, hla2⟩ : ∃ la, la = Maps.size (mapN La) := ⟨_, rfl⟩
            obtain ⟨lb, hlb2⟩ : ∃ lb, lb = Maps.size (mapN Lb) := ⟨_, rfl⟩
            obtain ⟨lm, hlm2⟩ : ∃ lm, lm = Maps.size (mapN Lm) := ⟨_, rfl⟩
            have hs1 : la ≤ 250 := by have := (mapN_size La).1; have := HM.out.2.2.2.1.1; have := HN.out.1; have := HSZ.out; rw [spF_length, rootF_size] at *; omega
            have hs3 : lm ≤ 250 := by have := (mapN_size Lm).1; have := HM.out.2.2.2.2.2.1; have := HN.out.2.2; have := HSZ.out; rw [spF_length, rootF_size] at *; omega
            have HSUM : Hid (op = 1 → lb = la + lm) := Lib.hid fun ho => by
              rw [hla2, hlb2, hlm2]
              exact claim3 HFX.out.1 HFX.out.2.1 HFX.out.2.2.1 HM.out.2.2.2.1 HM.out.2.2.2.2.1 HM.out.2.2.2.2.2 ho
            rw [← hla2] at hla
            rw [← hlb2] at hlb
            rw [← hlm2] at hlm
            rw [← hZ] at hla hlb hlm HBZ ⊢
            clear hla2 hlb2 hlm2 hZ HRG HLEFT hh
            obtain ⟨⟨g0, g1⟩, ⟨n0, n1, n2, n3⟩, m0, m1, m2, m3, m4, m5, m6, m7, m8⟩ := HCE.out Z HBZ.out
            by_cases ho1 : op = 1
            · subst ho1
              have hsum : lb = la + lm := HSUM.out rfl
              subst hsum
              have hcst : (((la + lm : Nat)) : Int) = (la : Int) + (lm : Int) := by omega
              rw [hcst] at hlb
              clear hcst HSUM
              go_wp2_with fail
              refine (wakes_any Z).mono ?_
              rintro e wE ⟨rfl, hbE⟩
              have HBwE := Lib.hid ((HB.out.trans (HBZ.out.mono HB.out.size)).trans (hbE.mono (HB.out.trans (HBZ.out.mono HB.out.size)).size))
              clear hbE
              go_wp2_with fail
              go_ret
              exact ⟨rfl, HBwE.out⟩
            · have ho1b : (op != 1) = true := by simpa using ho1
              clear HSUM ho1
              go_wp2_with fail
              refine (wakes_any Z).mono ?_
              rintro e wE ⟨rfl, hbE⟩
              have HBwE := Lib.hid ((HB.out.trans (HBZ.out.mono HB.out.size)).trans (hbE.mono (HB.out.trans (HBZ.out.mono HB.out.size)).size))
              clear hbE
              go_wp2_with fail
              go_ret
              exact ⟨rfl, HBwE.out⟩
          · intro i ei ek es ep en ec w1 left1 cnt1 hwi hlast hrg1 hlt hg1 hs1 hen
            have hb1 : Below Y.heap.size Y w1 := ⟨hg1.os.trans hh.out.os, hg1.tape.trans hh.out.tape, hg1.output.trans hh.out.output, by rw [hs1]; exact hh.out.size, fun z hz => (hg1.block z (Nat.lt_of_lt_of_le hz hh.out.size) (fun e => by have := HRC.out; cases e; omega)).trans (hh.out.block z hz)⟩
            have hc2 := claim2 HFX.out.1 HM.out.2.2.2.1 HM.out.2.2.2.2.1 HM.out.2.2.2.2.2 i _ hlast
            have hoa1 : OwnsN w1 ma na La := HMW.out.1.at (hb1.block _ (World.ownsMap.lt HMW.out.1))
            have HL1 := Lib.hid hb1
            have HE1 := Lib.hid (And.intro hrg1 (And.intro hlt (And.intro hs1 hwi)))
            have HBw1 := Lib.hid (HBwr.out.trans (hb1.mono HBwr.out.size))
            clear hrg1 hlt hg1 hs1 hlast hb1 HRG hwi
            rcases hc2 with ⟨ai, ak, as_, ap, an, ac, hla⟩ | ⟨hla, ho1, mi, mk, ms, mp, mn, mc, hlm⟩
            · have hlk := look_some hoa1 HE1.out.2.2.2 hla
              unfold nodeV at hlk
              obtain ⟨X1, hX1⟩ : ∃ X1, X1 = w1.alloc (.cells #[.int .i64 ai, .int .i64 ak, .string as_, .slice ap an ac] 24) := ⟨_, rfl⟩
              have hbx1 : Below w1.heap.size w1 X1 := by rw [hX1]; exact box_below _ _
              have HX1 := Lib.hid hX1
              have HLX1 := Lib.hid (HL1.out.trans (hbx1.mono HL1.out.size))
              have HW1X := Lib.hid hbx1
              have hom1 : OwnsN X1 mm nm Lm := HMW.out.2.2.at (HLX1.out.block _ (World.ownsMap.lt HMW.out.2.2))
              clear hX1 hbx1 hoa1
              go_upto_region 27 with fail
              change Code.wp _ _ _ _ (w1.alloc (.cells #[.int .i64 ai, .int .i64 ak, .string as_, .slice ap an ac] 24))
              rw [← HX1.out]
              clear hlk hen HX1
              rcases look_any HM.out.2.2.2.2.2 i with hlm | ⟨mi, mk, ms, mp, mn, mc, hlm⟩
              · have hlk2 := look_none hom1 HE1.out.2.2.2 hlm
                unfold zeroNV at hlk2
                obtain ⟨X2, hX2⟩ : ∃ X2, X2 = X1.alloc (.cells #[.int .i64 0, .int .i64 0, .string ⟨#[]⟩, .slice none 0 0] 24) := ⟨_, rfl⟩
                have hbx2 : Below X1.heap.size X1 X2 := by rw [hX2]; exact box_below _ _
                have HX2 := Lib.hid hX2
                have HLX2 := Lib.hid (HLX1.out.trans (hbx2.mono HLX1.out.size))
                have HW2X := Lib.hid (HW1X.out.trans (hbx2.mono HW1X.out.size))
                have HBX2 := Lib.hid (HBwr.out.trans (HLX2.out.mono HBwr.out.size))
                clear hX2 hbx2 hom1
                go_upto_region 28 with fail
                change Code.wp _ _ _ _ (X1.alloc (.cells #[.int .i64 0, .int .i64 0, .string ⟨#[]⟩, .slice none 0 0] 24))
                rw [← HX2.out]
                clear hlk2 HX2
                obtain ⟨⟨g0, g1⟩, ⟨n0, n1, n2, n3⟩, m0, m1, m2, m3, m4, m5, m6, m7, m8⟩ := HCE.out X2 HBX2.out
                go_wp2_with fail
                have hr2 := HE1.out.1.kept (w' := X2) (row := none) ⟨HW2X.out.os, HW2X.out.tape, HW2X.out.output, HW2X.out.size, fun z hz _ => HW2X.out.block z hz⟩ (by simp) (by simp)
                refine ⟨⟨left1, cnt1, hr2, Lib.hid HLX2.out⟩, ?_⟩
                rw [hr2.left_eq, HLEFT.out]
                exact HE1.out.2.1
              · have hlk2 := look_some hom1 HE1.out.2.2.2 hlm
                unfold nodeV at hlk2
                obtain ⟨X2, hX2⟩ : ∃ X2, X2 = X1.alloc (.cells #[.int .i64 mi, .int .i64 mk, .string ms, .slice mp mn mc] 24) := ⟨_, rfl⟩
                have hbx2 : Below X1.heap.size X1 X2 := by rw [hX2]; exact box_below _ _
                have HX2 := Lib.hid hX2
                have HLX2 := Lib.hid (HLX1.out.trans (hbx2.mono HLX1.out.size))
                have HW2X := Lib.hid (HW1X.out.trans (hbx2.mono HW1X.out.size))
                have HBX2 := Lib.hid (HBwr.out.trans (HLX2.out.mono HBwr.out.size))
                clear hX2 hbx2 hom1
                go_upto_region 28 with fail
                change Code.wp _ _ _ _ (X1.alloc (.cells #[.int .i64 mi, .int .i64 mk, .string ms, .slice mp mn mc] 24))
                rw [← HX2.out]
                clear hlk2 HX2
                obtain ⟨⟨g0, g1⟩, ⟨n0, n1, n2, n3⟩, m0, m1, m2, m3, m4, m5, m6, m7, m8⟩ := HCE.out X2 HBX2.out
                go_wp2_with fail
                have hr2 := HE1.out.1.kept (w' := X2) (row := none) ⟨HW2X.out.os, HW2X.out.tape, HW2X.out.output, HW2X.out.size, fun z hz _ => HW2X.out.block z hz⟩ (by simp) (by simp)
                refine ⟨⟨left1, cnt1, hr2, Lib.hid HLX2.out⟩, ?_⟩
                rw [hr2.left_eq, HLEFT.out]
                exact HE1.out.2.1
            · have ho1b : (op != 1) = false := by simp [ho1]
              clear ho1
              have hlk := look_none hoa1 HE1.out.2.2.2 hla
              unfold zeroNV at hlk
              obtain ⟨X1, hX1⟩ : ∃ X1, X1 = w1.alloc (.cells #[.int .i64 0, .int .i64 0, .string ⟨#[]⟩, .slice none 0 0] 24) := ⟨_, rfl⟩
              have hbx1 : Below w1.heap.size w1 X1 := by rw [hX1]; exact box_below _ _
              have HX1 := Lib.hid hX1
              have HLX1 := Lib.hid (HL1.out.trans (hbx1.mono HL1.out.size))
              have HW1X := Lib.hid hbx1
              have hom1 : OwnsN X1 mm nm Lm := HMW.out.2.2.at (HLX1.out.block _ (World.ownsMap.lt HMW.out.2.2))
              clear hX1 hbx1 hoa1
              go_upto_region 27 with fail
              change Code.wp _ _ _ _ (w1.alloc (.cells #[.int .i64 0, .int .i64 0, .string ⟨#[]⟩, .slice none 0 0] 24))
              rw [← HX1.out]
              clear hlk hen HX1
              have hlk2 := look_some hom1 HE1.out.2.2.2 hlm
              unfold nodeV at hlk2
              obtain ⟨X2, hX2⟩ : ∃ X2, X2 = X1.alloc (.cells #[.int .i64 mi, .int .i64 mk, .string ms, .slice mp mn mc] 24) := ⟨_, rfl⟩
              have hbx2 : Below X1.heap.size X1 X2 := by rw [hX2]; exact box_below _ _
              have HX2 := Lib.hid hX2
              have HLX2 := Lib.hid (HLX1.out.trans (hbx2.mono HLX1.out.size))
              have HW2X := Lib.hid (HW1X.out.trans (hbx2.mono HW1X.out.size))
              have HBX2 := Lib.hid (HBwr.out.trans (HLX2.out.mono HBwr.out.size))
              clear hX2 hbx2 hom1
              go_upto_region 28 with fail
              change Code.wp _ _ _ _ (X1.alloc (.cells #[.int .i64 mi, .int .i64 mk, .string ms, .slice mp mn mc] 24))
              rw [← HX2.out]
              clear hlk2 HX2
              obtain ⟨⟨g0, g1⟩, ⟨n0, n1, n2, n3⟩, m0, m1, m2, m3, m4, m5, m6, m7, m8⟩ := HCE.out X2 HBX2.out
              go_wp2_with fail
              have hr2 := HE1.out.1.kept (w' := X2) (row := none) ⟨HW2X.out.os, HW2X.out.tape, HW2X.out.output, HW2X.out.size, fun z hz _ => HW2X.out.block z hz⟩ (by simp) (by simp)
              refine ⟨⟨left1, cnt1, hr2, Lib.hid HLX2.out⟩, ?_⟩
              rw [hr2.left_eq, HLEFT.out]
              exact HE1.out.2.1
      · intro i ei ek es ep en ec w1 left1 cnt1 hwi hlast hrg1 hlt hg1 hs1 hen
        have hb1 : Below W12.heap.size W12 w1 := ⟨hg1.os.trans hh.out.os, hg1.tape.trans hh.out.tape, hg1.output.trans hh.out.output, by rw [hs1]; exact hh.out.size, fun z hz => (hg1.block z (Nat.lt_of_lt_of_le hz hh.out.size) (fun e => by have := HRB.out; cases e; omega)).trans (hh.out.block z hz)⟩
        have hc1 := HC1.out i ei ek es ep en ec hlast
        have HL1 := Lib.hid hb1
        have HE1 := Lib.hid (And.intro hrg1 (And.intro hlt (And.intro hs1 hwi)))
        obtain ⟨X1, hX1⟩ : ∃ X1, X1 = w1.alloc (.cells #[.int .i64 ei, .int .i64 ek, .string es, .slice ep en ec] 24) := ⟨_, rfl⟩
        have hbx1 : Below w1.heap.size w1 X1 := by rw [hX1]; exact box_below _ _
        have he1 : X1.heap[w1.heap.size]? = some (.cells #[.int .i64 ei, .int .i64 ek, .string es, .slice ep en ec] 24 (0, 0)) := by rw [hX1]; exact heap_alloc_new _ _
        have HX1 := Lib.hid hX1
        have HLX1 := Lib.hid (hb1.trans (hbx1.mono hb1.size))
        have HW1X := Lib.hid hbx1
        obtain ⟨q1, hq1⟩ : ∃ q1, q1 = w1.heap.size := ⟨_, rfl⟩
        rw [← hq1] at he1
        have HQ1 := Lib.hid he1
        have hob1 : OwnsN X1 mb nb Lb := HMW12.out.2.1.at (HLX1.out.block _ (World.ownsMap.lt HMW12.out.2.1))
        clear hrg1 hlt hg1 hs1 hlast hb1 HRG hwi hX1 hbx1 he1
        go_upto_region 19 with fail
        change Code.wp _ _ _ _ (w1.alloc (.cells #[.int .i64 ei, .int .i64 ek, .string es, .slice ep en ec] 24))
        rw [← HX1.out, ← hq1]
        clear hen HX1 hq1
        rcases hc1 with ⟨hlb, gi, gk, gs, gp, gn_, gc_, hlg⟩ | ⟨zi, zs, zp, zn, zc, hlb, hlg, hts⟩
        · have hlk := look_none hob1 HE1.out.2.2.2 hlb
          unfold zeroNV at hlk
          obtain ⟨X2, hX2⟩ : ∃ X2, X2 = X1.alloc (.cells #[.int .i64 0, .int .i64 0, .string ⟨#[]⟩, .slice none 0 0] 24) := ⟨_, rfl⟩
          have hbx2 : Below X1.heap.size X1 X2 := by rw [hX2]; exact box_below _ _
          have he2 : X2.heap[X1.heap.size]? = some (.cells #[.int .i64 0, .int .i64 0, .string ⟨#[]⟩, .slice none 0 0] 24 (0, 0)) := by rw [hX2]; exact heap_alloc_new _ _
          have HX2 := Lib.hid hX2
          have HLX2 := Lib.hid (HLX1.out.trans (hbx2.mono HLX1.out.size))
          have HW2X := Lib.hid (HW1X.out.trans (hbx2.mono HW1X.out.size))
          have hog1 : OwnsN X2 mg ng Lg := HGN.out.at (HLX2.out.block _ (World.ownsMap.lt HGN.out))
          have he12 := (hbx2.block _ (lt_of_heap HQ1.out)).trans HQ1.out
          obtain ⟨q2, hq2⟩ : ∃ q2, q2 = X1.heap.size := ⟨_, rfl⟩
          rw [← hq2] at he2
          clear hX2 hob1
          go_upto_region 20 with fail
          change Code.wp _ _ _ _ (X1.alloc (.cells #[.int .i64 0, .int .i64 0, .string ⟨#[]⟩, .slice none 0 0] 24))
          rw [← HX2.out, ← hq2]
          clear hlk HX2 hq2 hbx2
          have hlk2 := look_some hog1 HE1.out.2.2.2 hlg
          unfold nodeV at hlk2
          obtain ⟨X3, hX3⟩ : ∃ X3, X3 = X2.alloc (.cells #[.int .i64 gi, .int .i64 gk, .string gs, .slice gp gn_ gc_] 24) := ⟨_, rfl⟩
          have hbx3 : Below X2.heap.size X2 X3 := by rw [hX3]; exact box_below _ _
          have HX3 := Lib.hid hX3
          have HLX3 := Lib.hid (HLX2.out.trans (hbx3.mono HLX2.out.size))
          have HW3X := Lib.hid (HW2X.out.trans (hbx3.mono HW2X.out.size))
          have HBX3 := Lib.hid (HBW12.out.trans (HLX3.out.mono HBW12.out.size))
          obtain ⟨a0, a1, a2, a3⟩ := box4 ((hbx3.block _ (lt_of_heap he12)).trans he12)
          obtain ⟨b0, b1, b2, b3⟩ := box4 ((hbx3.block _ (lt_of_heap he2)).trans he2)
          clear hX3 hog1 he12 he2 hbx3
          go_upto_region 21 with fail
          change Code.wp _ _ _ _ (X2.alloc (.cells #[.int .i64 gi, .int .i64 gk, .string gs, .slice gp gn_ gc_] 24))
          rw [← HX3.out]
          clear hlk2 HX3
          obtain ⟨⟨g0, g1⟩, ⟨n0, n1, n2, n3⟩, m0, m1, m2, m3, m4, m5, m6, m7, m8⟩ := HCE.out X3 HBX3.out
          have hr2 := Lib.hid (HE1.out.1.kept (w' := X3) (row := none) ⟨HW3X.out.os, HW3X.out.tape, HW3X.out.output, HW3X.out.size, fun z hz _ => HW3X.out.block z hz⟩ (by simp) (by simp))
          go_wp2_with fail
          all_goals exact ⟨⟨left1, cnt1, hr2.out, Lib.hid HLX3.out⟩, by rw [hr2.out.left_eq, HLEFT.out]; exact HE1.out.2.1⟩
        · have hlk := look_some hob1 HE1.out.2.2.2 hlb
          unfold nodeV at hlk
          obtain ⟨X2, hX2⟩ : ∃ X2, X2 = X1.alloc (.cells #[.int .i64 zi, .int .i64 ek, .string zs, .slice zp zn zc] 24) := ⟨_, rfl⟩
          have hbx2 : Below X1.heap.size X1 X2 := by rw [hX2]; exact box_below _ _
          have he2 : X2.heap[X1.heap.size]? = some (.cells #[.int .i64 zi, .int .i64 ek, .string zs, .slice zp zn zc] 24 (0, 0)) := by rw [hX2]; exact heap_alloc_new _ _
          have HX2 := Lib.hid hX2
          have HLX2 := Lib.hid (HLX1.out.trans (hbx2.mono HLX1.out.size))
          have HW2X := Lib.hid (HW1X.out.trans (hbx2.mono HW1X.out.size))
          have hog1 : OwnsN X2 mg ng Lg := HGN.out.at (HLX2.out.block _ (World.ownsMap.lt HGN.out))
          have he12 := (hbx2.block _ (lt_of_heap HQ1.out)).trans HQ1.out
          obtain ⟨q2, hq2⟩ : ∃ q2, q2 = X1.heap.size := ⟨_, rfl⟩
          rw [← hq2] at he2
          clear hX2 hob1
          go_upto_region 20 with fail
          change Code.wp _ _ _ _ (X1.alloc (.cells #[.int .i64 zi, .int .i64 ek, .string zs, .slice zp zn zc] 24))
          rw [← HX2.out, ← hq2]
          clear hlk HX2 hq2 hbx2
          have hlk2 := look_none hog1 HE1.out.2.2.2 hlg
          unfold zeroNV at hlk2
          obtain ⟨X3, hX3⟩ : ∃ X3, X3 = X2.alloc (.cells #[.int .i64 0, .int .i64 0, .string ⟨#[]⟩, .slice none 0 0] 24) := ⟨_, rfl⟩
          have hbx3 : Below X2.heap.size X2 X3 := by rw [hX3]; exact box_below _ _
          have HX3 := Lib.hid hX3
          have HLX3 := Lib.hid (HLX2.out.trans (hbx3.mono HLX2.out.size))
          have HW3X := Lib.hid (HW2X.out.trans (hbx3.mono HW2X.out.size))
          have HBX3 := Lib.hid (HBW12.out.trans (HLX3.out.mono HBW12.out.size))
          obtain ⟨a0, a1, a2, a3⟩ := box4 ((hbx3.block _ (lt_of_heap he12)).trans he12)
          obtain ⟨b0, b1, b2, b3⟩ := box4 ((hbx3.block _ (lt_of_heap he2)).trans he2)
          clear hX3 hog1 he12 he2 hbx3
          go_upto_region 21 with fail
          change Code.wp _ _ _ _ (X2.alloc (.cells #[.int .i64 0, .int .i64 0, .string ⟨#[]⟩, .slice none 0 0] 24))
          rw [← HX3.out]
          clear hlk2 HX3
          obtain ⟨⟨g0, g1⟩, ⟨n0, n1, n2, n3⟩, m0, m1, m2, m3, m4, m5, m6, m7, m8⟩ := HCE.out X3 HBX3.out
          by_cases hte : zs = es
          · subst hte
            have hr2 := Lib.hid (HE1.out.1.kept (w' := X3) (row := none) ⟨HW3X.out.os, HW3X.out.tape, HW3X.out.output, HW3X.out.size, fun z hz _ => HW3X.out.block z hz⟩ (by simp) (by simp))
            go_wp2_with fail
            all_goals exact ⟨⟨left1, cnt1, hr2.out, Lib.hid HLX3.out⟩, by rw [hr2.out.left_eq, HLEFT.out]; exact HE1.out.2.1⟩
          · obtain ⟨ho4, hii⟩ : op = 4 ∧ i = id := hts.resolve_left hte
            subst ho4
            subst hii
            have hr2 := Lib.hid (HE1.out.1.kept (w' := X3) (row := none) ⟨HW3X.out.os, HW3X.out.tape, HW3X.out.output, HW3X.out.size, fun z hz _ => HW3X.out.block z hz⟩ (by simp) (by simp))
            go_wp2_with fail
            all_goals exact ⟨⟨left1, cnt1, hr2.out, Lib.hid HLX3.out⟩, by rw [hr2.out.left_eq, HLEFT.out]; exact HE1.out.2.1⟩
  · have ho2b : (op == 2) = false := by simpa using ho2
    obtain ⟨Lg, hLg⟩ : ∃ Lg : List (Int × Value), Lg = [] := ⟨_, rfl⟩
    obtain ⟨ng, hng⟩ : ∃ ng : Nat, ng = 0 := ⟨_, rfl⟩
    obtain ⟨mg, hmg⟩ : ∃ mg, mg = mg0 := ⟨_, rfl⟩
    have HGN := Lib.hid (show OwnsN W11 mg ng Lg by rw [hLg, hng, hmg]; exact HOG.out)
    have HC1 := Lib.hid (claim1 (Lg := Lg) (wg := W11) (Sg := S) HFX.out.1 HFX.out.2.1 HFX.out.2.2.1 HM.out.2.2.2.1 HM.out.2.2.2.2.1 (by rw [goneT, if_neg ho2, hLg]; exact ⟨rfl, fun k z p h => by cases h⟩))
    unfold nodeV at HC1
    have HMW11 := HMA
    rw [← hmg]
    clear ho2 hLg hng hmg HOG HMA
    go_upto_region 16 with fail
    have HOA := Lib.hid HMW11.out.1
    go_wp2_with (at_range; refine wpList_range_own _ rfl _ 87 rfl 3 24 law7 Try.underlying87 heldE ma na (mapN La) rfl HOA.out ?_; intro W13 hrg hg13 hs13)
    go_frame
    obtain ⟨rb, hrb⟩ : ∃ rb, rb = W11.heap.size := ⟨_, rfl⟩
    have hb13 : Below W11.heap.size W11 W13 := ⟨hg13.os, hg13.tape, hg13.output, hg13.size, fun z hz => hg13.block z hz (by simp)⟩
    rw [← hrb] at hrg ⊢
    have HRB := Lib.hid hrb
    have HR0 := Lib.hid (And.intro hrg hb13)
    clear hrg hg13 hs13 hb13 hrb HOA g0 g1 n0 n1 n2 n3 m0 m1 m2 m3 m4 m5 m6 m7 m8
    go_loopw [103] (fun _ wr => ∃ left cnt, wr.ranges Try.prog 3 heldE ma rb na (mapN La) left cnt ∧ Hid (Below W11.heap.size W11 wr)) (fun _ wr => wr.rangeLeft ma rb)
    case atStart => exact ⟨_, _, HR0.out.1, Lib.hid HR0.out.2⟩
    case round =>
      obtain ⟨left, cnt, hrg, hh⟩ := hrel
      have HRG := Lib.hid hrg
      have HLEFT := Lib.hid hrg.left_eq
      clear hrg
      go_wp2_with (at_next; refine wpList_next_nodes _ rfl _ rfl ma rb na La left cnt rfl HRG.out ?_ ?_)
      · intro h0
        clear h0
        have HBwr := Lib.hid (HBW11.out.trans (hh.out.mono HBW11.out.size))
        have HMW := Lib.hid (show OwnsN wr ma na La ∧ OwnsN wr mb nb Lb ∧ OwnsN wr mm nm Lm from ⟨HMW11.out.1.at (hh.out.block _ (World.ownsMap.lt HMW11.out.1)), HMW11.out.2.1.at (hh.out.block _ (World.ownsMap.lt HMW11.out.2.1)), HMW11.out.2.2.at (hh.out.block _ (World.ownsMap.lt HMW11.out.2.2))⟩)
        obtain ⟨Y, hY⟩ : ∃ Y, Y = wr := ⟨_, rfl⟩
        rw [← hY] at HBwr HMW ⊢
        have HOB := Lib.hid HMW.out.2.1
        clear HRG HLEFT hh hY HRB HR0
        go_upto_region 23 with fail
        go_wp2_with (at_range; refine wpList_range_own _ rfl _ 87 rfl 3 24 law7 Try.underlying87 heldE mb nb (mapN Lb) rfl HOB.out ?_; intro Y1 hrg hg13 hs13)
        go_frame
        obtain ⟨rc, hrc⟩ : ∃ rc, rc = Y.heap.size := ⟨_, rfl⟩
        have hb13 : Below Y.heap.size Y Y1 := ⟨hg13.os, hg13.tape, hg13.output, hg13.size, fun z hz => hg13.block z hz (by simp)⟩
        rw [← hrc] at hrg ⊢
        have HRC := Lib.hid hrc
        have HR1 := Lib.hid (And.intro hrg hb13)
        clear hrg hg13 hs13 hb13 hrc HOB
        go_loopw [153] (fun _ wr => ∃ left cnt, wr.ranges Try.prog 3 heldE mb rc nb (mapN Lb) left cnt ∧ Hid (Below Y.heap.size Y wr)) (fun _ wr => wr.rangeLeft mb rc)
        case atStart => exact ⟨_, _, HR1.out.1, Lib.hid HR1.out.2⟩
        case round =>
          obtain ⟨left, cnt, hrg, hh⟩ := hrel
          have HRG := Lib.hid hrg
          have HLEFT := Lib.hid hrg.left_eq
          clear hrg
          go_wp2_with (at_next; refine wpList_next_nodes _ rfl _ rfl mb rc nb Lb left cnt rfl HRG.out ?_ ?_)
          · intro h0
            clear h0
            obtain ⟨Z, hZ⟩ : ∃ Z, Z = wr := ⟨_, rfl⟩
            have HBZ := Lib.hid (HBwr.out.trans (hh.out.mono HBwr.out.size))
            have hla := World.ownsMap.len (OwnsN.at HMW.out.1 (hh.out.block _ (World.ownsMap.lt HMW.out.1))) (e := 24) Try.underlying87 3
            have hlb := World.ownsMap.len (OwnsN.at HMW.out.2.1 (hh.out.block _ (World.ownsMap.lt HMW.out.2.1))) (e := 24) Try.underlying87 3
            have hlm := World.ownsMap.len (OwnsN.at HMW.out.2.2 (hh.out.block _ (World.ownsMap.lt HMW.out.2.2))) (e := 24) Try.underlying87 3
            obtain ⟨la, hla2⟩ : ∃ la, la = Maps.size (mapN La) := ⟨_, rfl⟩
            obtain ⟨lb, hlb2⟩ : ∃ lb, lb = Maps.size (mapN Lb) := ⟨_, rfl⟩
            obtain ⟨lm, hlm2⟩ : ∃ lm, lm = Maps.size (mapN Lm) := ⟨_, rfl⟩
            have hs1 : la ≤ 250 := by have := (mapN_size La).1; have := HM.out.2.2.2.1.1; have := HN.out.1; have := HSZ.out; rw [spF_length, rootF_size] at *; omega
            have hs3 : lm ≤ 250 := by have := (mapN_size Lm).1; have := HM.out.2.2.2.2.2.1; have := HN.out.2.2; have := HSZ.out; rw [spF_length, rootF_size] at *; omega
            have HSUM : Hid (op = 1 → lb = la + lm) := Lib.hid fun ho => by
              rw [hla2, hlb2, hlm2]
              exact claim3 HFX.out.1 HFX.out.2.1 HFX.out.2.2.1 HM.out.2.2.2.1 HM.out.2.2.2.2.1 HM.out.2.2.2.2.2 ho
            rw [← hla2] at hla
            rw [← hlb2] at hlb
            rw [← hlm2] at hlm
            rw [← hZ] at hla hlb hlm HBZ ⊢
            clear hla2 hlb2 hlm2 hZ HRG HLEFT hh
            obtain ⟨⟨g0, g1⟩, ⟨n0, n1, n2, n3⟩, m0, m1, m2, m3, m4, m5, m6, m7, m8⟩ := HCE.out Z HBZ.out
            by_cases ho1 : op = 1
            · subst ho1
              have hsum : lb = la + lm := HSUM.out rfl
              subst hsum
              have hcst : (((la + lm : Nat)) : Int) = (la : Int) + (lm : Int) := by omega
              rw [hcst] at hlb
              clear hcst HSUM
              go_wp2_with fail
              refine (wakes_any Z).mono ?_
              rintro e wE ⟨rfl, hbE⟩
              have HBwE := Lib.hid ((HB.out.trans (HBZ.out.mono HB.out.size)).trans (hbE.mono (HB.out.trans (HBZ.out.mono HB.out.size)).size))
              clear hbE
              go_wp2_with fail
              go_ret
              exact ⟨rfl, HBwE.out⟩
            · have ho1b : (op != 1) = true := by simpa using ho1
              clear HSUM ho1
              go_wp2_with fail
              refine (wakes_any Z).mono ?_
              rintro e wE ⟨rfl, hbE⟩
              have HBwE := Lib.hid ((HB.out.trans (HBZ.out.mono HB.out.size)).trans (hbE.mono (HB.out.trans (HBZ.out.mono HB.out.size)).size))
              clear hbE
              go_wp2_with fail
              go_ret
              exact ⟨rfl, HBwE.out⟩
          · intro i ei ek es ep en ec w1 left1 cnt1 hwi hlast hrg1 hlt hg1 hs1 hen
            have hb1 : Below Y.heap.size Y w1 := ⟨hg1.os.trans hh.out.os, hg1.tape.trans hh.out.tape, hg1.output.trans hh.out.output, by rw [hs1]; exact hh.out.size, fun z hz => (hg1.block z (Nat.lt_of_lt_of_le hz hh.out.size) (fun e => by have := HRC.out; cases e; omega)).trans (hh.out.block z hz)⟩
            have hc2 := claim2 HFX.out.1 HM.out.2.2.2.1 HM.out.2.2.2.2.1 HM.out.2.2.2.2.2 i _ hlast
            have hoa1 : OwnsN w1 ma na La := HMW.out.1.at (hb1.block _ (World.ownsMap.lt HMW.out.1))
            have HL1 := Lib.hid hb1
            have HE1 := Lib.hid (And.intro hrg1 (And.intro hlt (And.intro hs1 hwi)))
            have HBw1 := Lib.hid (HBwr.out.trans (hb1.mono HBwr.out.size))
            clear hrg1 hlt hg1 hs1 hlast hb1 HRG hwi
            rcases hc2 with ⟨ai, ak, as_, ap, an, ac, hla⟩ | ⟨hla, ho1, mi, mk, ms, mp, mn, mc, hlm⟩
            · have hlk := look_some hoa1 HE1.out.2.2.2 hla
              unfold nodeV at hlk
              obtain ⟨X1, hX1⟩ : ∃ X1, X1 = w1.alloc (.cells #[.int .i64 ai, .int .i64 ak, .string as_, .slice ap an ac] 24) := ⟨_, rfl⟩
              have hbx1 : Below w1.heap.size w1 X1 := by rw [hX1]; exact box_below _ _
              have HX1 := Lib.hid hX1
              have HLX1 := Lib.hid (HL1.out.trans (hbx1.mono HL1.out.size))
              have HW1X := Lib.hid hbx1
              have hom1 : OwnsN X1 mm nm Lm := HMW.out.2.2.at (HLX1.out.block _ (World.ownsMap.lt HMW.out.2.2))
              clear hX1 hbx1 hoa1
              go_upto_region 27 with fail
              change Code.wp _ _ _ _ (w1.alloc (.cells #[.int .i64 ai, .int .i64 ak, .string as_, .slice ap an ac] 24))
              rw [← HX1.out]
              clear hlk hen HX1
              rcases look_any HM.out.2.2.2.2.2 i with hlm | ⟨mi, mk, ms, mp, mn, mc, hlm⟩
              · have hlk2 := look_none hom1 HE1.out.2.2.2 hlm
                unfold zeroNV at hlk2
                obtain ⟨X2, hX2⟩ : ∃ X2, X2 = X1.alloc (.cells #[.int .i64 0, .int .i64 0, .string ⟨#[]⟩, .slice none 0 0] 24) := ⟨_, rfl⟩
                have hbx2 : Below X1.heap.size X1 X2 := by rw [hX2]; exact box_below _ _
                have HX2 := Lib.hid hX2
                have HLX2 := Lib.hid (HLX1.out.trans (hbx2.mono HLX1.out.size))
                have HW2X := Lib.hid (HW1X.out.trans (hbx2.mono HW1X.out.size))
                have HBX2 := Lib.hid (HBwr.out.trans (HLX2.out.mono HBwr.out.size))
                clear hX2 hbx2 hom1
                go_upto_region 28 with fail
                change Code.wp _ _ _ _ (X1.alloc (.cells #[.int .i64 0, .int .i64 0, .string ⟨#[]⟩, .slice none 0 0] 24))
                rw [← HX2.out]
                clear hlk2 HX2
                obtain ⟨⟨g0, g1⟩, ⟨n0, n1, n2, n3⟩, m0, m1, m2, m3, m4, m5, m6, m7, m8⟩ := HCE.out X2 HBX2.out
                go_wp2_with fail
                have hr2 := HE1.out.1.kept (w' := X2) (row := none) ⟨HW2X.out.os, HW2X.out.tape, HW2X.out.output, HW2X.out.size, fun z hz _ => HW2X.out.block z hz⟩ (by simp) (by simp)
                refine ⟨⟨left1, cnt1, hr2, Lib.hid HLX2.out⟩, ?_⟩
                rw [hr2.left_eq, HLEFT.out]
                exact HE1.out.2.1
              · have hlk2 := look_some hom1 HE1.out.2.2.2 hlm
                unfold nodeV at hlk2
                obtain ⟨X2, hX2⟩ : ∃ X2, X2 = X1.alloc (.cells #[.int .i64 mi, .int .i64 mk, .string ms, .slice mp mn mc] 24) := ⟨_, rfl⟩
                have hbx2 : Below X1.heap.size X1 X2 := by rw [hX2]; exact box_below _ _
                have HX2 := Lib.hid hX2
                have HLX2 := Lib.hid (HLX1.out.trans (hbx2.mono HLX1.out.size))
                have HW2X := Lib.hid (HW1X.out.trans (hbx2.mono HW1X.out.size))
                have HBX2 := Lib.hid (HBwr.out.trans (HLX2.out.mono HBwr.out.size))
                clear hX2 hbx2 hom1
                go_upto_region 28 with fail
                change Code.wp _ _ _ _ (X1.alloc (.cells #[.int .i64 mi, .int .i64 mk, .string ms, .slice mp mn mc] 24))
                rw [← HX2.out]
                clear hlk2 HX2
                obtain ⟨⟨g0, g1⟩, ⟨n0, n1, n2, n3⟩, m0, m1, m2, m3, m4, m5, m6, m7, m8⟩ := HCE.out X2 HBX2.out
                go_wp2_with fail
                have hr2 := HE1.out.1.kept (w' := X2) (row := none) ⟨HW2X.out.os, HW2X.out.tape, HW2X.out.output, HW2X.out.size, fun z hz _ => HW2X.out.block z hz⟩ (by simp) (by simp)
                refine ⟨⟨left1, cnt1, hr2, Lib.hid HLX2.out⟩, ?_⟩
                rw [hr2.left_eq, HLEFT.out]
                exact HE1.out.2.1
            · have ho1b : (op != 1) = false := by simp [ho1]
              clear ho1
              have hlk := look_none hoa1 HE1.out.2.2.2 hla
              unfold zeroNV at hlk
              obtain ⟨X1, hX1⟩ : ∃ X1, X1 = w1.alloc (.cells #[.int .i64 0, .int .i64 0, .string ⟨#[]⟩, .slice none 0 0] 24) := ⟨_, rfl⟩
              have hbx1 : Below w1.heap.size w1 X1 := by rw [hX1]; exact box_below _ _
              have HX1 := Lib.hid hX1
              have HLX1 := Lib.hid (HL1.out.trans (hbx1.mono HL1.out.size))
              have HW1X := Lib.hid hbx1
              have hom1 : OwnsN X1 mm nm Lm := HMW.out.2.2.at (HLX1.out.block _ (World.ownsMap.lt HMW.out.2.2))
              clear hX1 hbx1 hoa1
              go_upto_region 27 with fail
              change Code.wp _ _ _ _ (w1.alloc (.cells #[.int .i64 0, .int .i64 0, .string ⟨#[]⟩, .slice none 0 0] 24))
              rw [← HX1.out]
              clear hlk hen HX1
              have hlk2 := look_some hom1 HE1.out.2.2.2 hlm
              unfold nodeV at hlk2
              obtain ⟨X2, hX2⟩ : ∃ X2, X2 = X1.alloc (.cells #[.int .i64 mi, .int .i64 mk, .string ms, .slice mp mn mc] 24) := ⟨_, rfl⟩
              have hbx2 : Below X1.heap.size X1 X2 := by rw [hX2]; exact box_below _ _
              have HX2 := Lib.hid hX2
              have HLX2 := Lib.hid (HLX1.out.trans (hbx2.mono HLX1.out.size))
              have HW2X := Lib.hid (HW1X.out.trans (hbx2.mono HW1X.out.size))
              have HBX2 := Lib.hid (HBwr.out.trans (HLX2.out.mono HBwr.out.size))
              clear hX2 hbx2 hom1
              go_upto_region 28 with fail
              change Code.wp _ _ _ _ (X1.alloc (.cells #[.int .i64 mi, .int .i64 mk, .string ms, .slice mp mn mc] 24))
              rw [← HX2.out]
              clear hlk2 HX2
              obtain ⟨⟨g0, g1⟩, ⟨n0, n1, n2, n3⟩, m0, m1, m2, m3, m4, m5, m6, m7, m8⟩ := HCE.out X2 HBX2.out
              go_wp2_with fail
              have hr2 := HE1.out.1.kept (w' := X2) (row := none) ⟨HW2X.out.os, HW2X.out.tape, HW2X.out.output, HW2X.out.size, fun z hz _ => HW2X.out.block z hz⟩ (by simp) (by simp)
              refine ⟨⟨left1, cnt1, hr2, Lib.hid HLX2.out⟩, ?_⟩
              rw [hr2.left_eq, HLEFT.out]
              exact HE1.out.2.1
      · intro i ei ek es ep en ec w1 left1 cnt1 hwi hlast hrg1 hlt hg1 hs1 hen
        have hb1 : Below W11.heap.size W11 w1 := ⟨hg1.os.trans hh.out.os, hg1.tape.trans hh.out.tape, hg1.output.trans hh.out.output, by rw [hs1]; exact hh.out.size, fun z hz => (hg1.block z (Nat.lt_of_lt_of_le hz hh.out.size) (fun e => by have := HRB.out; cases e; omega)).trans (hh.out.block z hz)⟩
        have hc1 := HC1.out i ei ek es ep en ec hlast
        have HL1 := Lib.hid hb1
        have HE1 := Lib.hid (And.intro hrg1 (And.intro hlt (And.intro hs1 hwi)))
        obtain ⟨X1, hX1⟩ : ∃ X1, X1 = w1.alloc (.cells #[.int .i64 ei, .int .i64 ek, .string es, .slice ep en ec] 24) := ⟨_, rfl⟩
        have hbx1 : Below w1.heap.size w1 X1 := by rw [hX1]; exact box_below _ _
        have he1 : X1.heap[w1.heap.size]? = some (.cells #[.int .i64 ei, .int .i64 ek, .string es, .slice ep en ec] 24 (0, 0)) := by rw [hX1]; exact heap_alloc_new _ _
        have HX1 := Lib.hid hX1
        have HLX1 := Lib.hid (hb1.trans (hbx1.mono hb1.size))
        have HW1X := Lib.hid hbx1
        obtain ⟨q1, hq1⟩ : ∃ q1, q1 = w1.heap.size := ⟨_, rfl⟩
        rw [← hq1] at he1
        have HQ1 := Lib.hid he1
        have hob1 : OwnsN X1 mb nb Lb := HMW11.out.2.1.at (HLX1.out.block _ (World.ownsMap.lt HMW11.out.2.1))
        clear hrg1 hlt hg1 hs1 hlast hb1 HRG hwi hX1 hbx1 he1
        go_upto_region 19 with fail
        change Code.wp _ _ _ _ (w1.alloc (.cells #[.int .i64 ei, .int .i64 ek, .string es, .slice ep en ec] 24))
        rw [← HX1.out, ← hq1]
        clear hen HX1 hq1
        rcases hc1 with ⟨hlb, gi, gk, gs, gp, gn_, gc_, hlg⟩ | ⟨zi, zs, zp, zn, zc, hlb, hlg, hts⟩
        · have hlk := look_none hob1 HE1.out.2.2.2 hlb
          unfold zeroNV at hlk
          obtain ⟨X2, hX2⟩ : ∃ X2, X2 = X1.alloc (.cells #[.int .i64 0, .int .i64 0, .string ⟨#[]⟩, .slice none 0 0] 24) := ⟨_, rfl⟩
          have hbx2 : Below X1.heap.size X1 X2 := by rw [hX2]; exact box_below _ _
          have he2 : X2.heap[X1.heap.size]? = some (.cells #[.int .i64 0, .int .i64 0, .string ⟨#[]⟩, .slice none 0 0] 24 (0, 0)) := by rw [hX2]; exact heap_alloc_new _ _
          have HX2 := Lib.hid hX2
          have HLX2 := Lib.hid (HLX1.out.trans (hbx2.mono HLX1.out.size))
          have HW2X := Lib.hid (HW1X.out.trans (hbx2.mono HW1X.out.size))
          have hog1 : OwnsN X2 mg ng Lg := HGN.out.at (HLX2.out.block _ (World.ownsMap.lt HGN.out))
          have he12 := (hbx2.block _ (lt_of_heap HQ1.out)).trans HQ1.out
          obtain ⟨q2, hq2⟩ : ∃ q2, q2 = X1.heap.size := ⟨_, rfl⟩
          rw [← hq2] at he2
          clear hX2 hob1
          go_upto_region 20 with fail
          change Code.wp _ _ _ _ (X1.alloc (.cells #[.int .i64 0, .int .i64 0, .string ⟨#[]⟩, .slice none 0 0] 24))
          rw [← HX2.out, ← hq2]
          clear hlk HX2 hq2 hbx2
          have hlk2 := look_some hog1 HE1.out.2.2.2 hlg
          unfold nodeV at hlk2
          obtain ⟨X3, hX3⟩ : ∃ X3, X3 = X2.alloc (.cells #[.int .i64 gi, .int .i64 gk, .string gs, .slice gp gn_ gc_] 24) := ⟨_, rfl⟩
          have hbx3 : Below X2.heap.size X2 X3 := by rw [hX3]; exact box_below _ _
          have HX3 := Lib.hid hX3
          have HLX3 := Lib.hid (HLX2.out.trans (hbx3.mono HLX2.out.size))
          have HW3X := Lib.hid (HW2X.out.trans (hbx3.mono HW2X.out.size))
          have HBX3 := Lib.hid (HBW11.out.trans (HLX3.out.mono HBW11.out.size))
          obtain ⟨a0, a1, a2, a3⟩ := box4 ((hbx3.block _ (lt_of_heap he12)).trans he12)
          obtain ⟨b0, b1, b2, b3⟩ := box4 ((hbx3.block _ (lt_of_heap he2)).trans he2)
          clear hX3 hog1 he12 he2 hbx3
          go_upto_region 21 with fail
          change Code.wp _ _ _ _ (X2.alloc (.cells #[.int .i64 gi, .int .i64 gk, .string gs, .slice gp gn_ gc_] 24))
          rw [← HX3.out]
          clear hlk2 HX3
          obtain ⟨⟨g0, g1⟩, ⟨n0, n1, n2, n3⟩, m0, m1, m2, m3, m4, m5, m6, m7, m8⟩ := HCE.out X3 HBX3.out
          have hr2 := Lib.hid (HE1.out.1.kept (w' := X3) (row := none) ⟨HW3X.out.os, HW3X.out.tape, HW3X.out.output, HW3X.out.size, fun z hz _ => HW3X.out.block z hz⟩ (by simp) (by simp))
          go_wp2_with fail
          all_goals exact ⟨⟨left1, cnt1, hr2.out, Lib.hid HLX3.out⟩, by rw [hr2.out.left_eq, HLEFT.out]; exact HE1.out.2.1⟩
        · have hlk := look_some hob1 HE1.out.2.2.2 hlb
          unfold nodeV at hlk
          obtain ⟨X2, hX2⟩ : ∃ X2, X2 = X1.alloc (.cells #[.int .i64 zi, .int .i64 ek, .string zs, .slice zp zn zc] 24) := ⟨_, rfl⟩
          have hbx2 : Below X1.heap.size X1 X2 := by rw [hX2]; exact box_below _ _
          have he2 : X2.heap[X1.heap.size]? = some (.cells #[.int .i64 zi, .int .i64 ek, .string zs, .slice zp zn zc] 24 (0, 0)) := by rw [hX2]; exact heap_alloc_new _ _
          have HX2 := Lib.hid hX2
          have HLX2 := Lib.hid (HLX1.out.trans (hbx2.mono HLX1.out.size))
          have HW2X := Lib.hid (HW1X.out.trans (hbx2.mono HW1X.out.size))
          have hog1 : OwnsN X2 mg ng Lg := HGN.out.at (HLX2.out.block _ (World.ownsMap.lt HGN.out))
          have he12 := (hbx2.block _ (lt_of_heap HQ1.out)).trans HQ1.out
          obtain ⟨q2, hq2⟩ : ∃ q2, q2 = X1.heap.size := ⟨_, rfl⟩
          rw [← hq2] at he2
          clear hX2 hob1
          go_upto_region 20 with fail
          change Code.wp _ _ _ _ (X1.alloc (.cells #[.int .i64 zi, .int .i64 ek, .string zs, .slice zp zn zc] 24))
          rw [← HX2.out, ← hq2]
          clear hlk HX2 hq2 hbx2
          have hlk2 := look_none hog1 HE1.out.2.2.2 hlg
          unfold zeroNV at hlk2
          obtain ⟨X3, hX3⟩ : ∃ X3, X3 = X2.alloc (.cells #[.int .i64 0, .int .i64 0, .string ⟨#[]⟩, .slice none 0 0] 24) := ⟨_, rfl⟩
          have hbx3 : Below X2.heap.size X2 X3 := by rw [hX3]; exact box_below _ _
          have HX3 := Lib.hid hX3
          have HLX3 := Lib.hid (HLX2.out.trans (hbx3.mono HLX2.out.size))
          have HW3X := Lib.hid (HW2X.out.trans (hbx3.mono HW2X.out.size))
          have HBX3 := Lib.hid (HBW11.out.trans (HLX3.out.mono HBW11.out.size))
          obtain ⟨a0, a1, a2, a3⟩ := box4 ((hbx3.block _ (lt_of_heap he12)).trans he12)
          obtain ⟨b0, b1, b2, b3⟩ := box4 ((hbx3.block _ (lt_of_heap he2)).trans he2)
          clear hX3 hog1 he12 he2 hbx3
          go_upto_region 21 with fail
          change Code.wp _ _ _ _ (X2.alloc (.cells #[.int .i64 0, .int .i64 0, .string ⟨#[]⟩, .slice none 0 0] 24))
          rw [← HX3.out]
          clear hlk2 HX3
          obtain ⟨⟨g0, g1⟩, ⟨n0, n1, n2, n3⟩, m0, m1, m2, m3, m4, m5, m6, m7, m8⟩ := HCE.out X3 HBX3.out
          by_cases hte : zs = es
          · subst hte
            have hr2 := Lib.hid (HE1.out.1.kept (w' := X3) (row := none) ⟨HW3X.out.os, HW3X.out.tape, HW3X.out.output, HW3X.out.size, fun z hz _ => HW3X.out.block z hz⟩ (by simp) (by simp))
            go_wp2_with fail
            all_goals exact ⟨⟨left1, cnt1, hr2.out, Lib.hid HLX3.out⟩, by rw [hr2.out.left_eq, HLEFT.out]; exact HE1.out.2.1⟩
          · obtain ⟨ho4, hii⟩ : op = 4 ∧ i = id := hts.resolve_left hte
            subst ho4
            subst hii
            have hr2 := Lib.hid (HE1.out.1.kept (w' := X3) (row := none) ⟨HW3X.out.os, HW3X.out.tape, HW3X.out.output, HW3X.out.size, fun z hz _ => HW3X.out.block z hz⟩ (by simp) (by simp))
            go_wp2_with fail
            all_goals exact ⟨⟨left1, cnt1, hr2.out, Lib.hid HLX3.out⟩, by rw [hr2.out.left_eq, HLEFT.out]; exact HE1.out.2.1⟩
end Go.Proofs.Ytfdcopegkhofnaa
