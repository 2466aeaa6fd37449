/-
  .
-/
import Derived.Deep.Cut
import Derived.Test.YtgkmmnihaiopaaaKRemoveQa
import Derived.Test.YtgkmmnihaiopaaaKFreshQa
import Derived.Test.YtgkmmnihaiopaaaJPgQa
set_option maxRecDepth 100000
set_option maxHeartbeats 40000000
namespace Go.Proofs.Ytgkmmnihaiopaaa
open Go.RowKit Go.Shelf
set_option linter.unusedVariables false
set_option linter.unusedSimpArgs false
structure Tc (W X : World) (R : Nat) : Prop where
 os : X.os = W.os
 tape : X.tape = W.tape
 output : X.output = W.output
 size : W.heap.size ≤ X.heap.size
 block : ∀ y, y < W.heap.size → y ≠ R → X.heap[y]? = W.heap[y]?
theorem Tc.of {W X : World} {R : Nat} (h : Below W.heap.size W X) : Tc W X R := ⟨h.os, h.tape, h.output, h.size, fun y hy _ => h.block y hy⟩
theorem Tc.then {W X Y : World} {R : Nat} (h : Tc W X R) (k : Below X.heap.size X Y) : Tc W Y R := ⟨k.os.trans h.os, k.tape.trans h.tape, k.output.trans h.output, Nat.le_trans h.size k.size, fun y hy hn => (k.block y (nL hy h.size)).trans (h.block y hy hn)⟩
theorem Tc.below {w W X : World} {R : Nat} (h : Tc W X R) (k : Below w.heap.size w W) (hR : w.heap.size ≤ R) : Below w.heap.size w X := ⟨h.os.trans k.os, h.tape.trans k.tape, h.output.trans k.output, Nat.le_trans k.size h.size, fun y hy => (h.block y (nL hy k.size) (by omega)).trans (k.block y hy)⟩
def qU (par at_ : Int) (x t : Tr) : Tr × Int := if (Zy par at_ t x).2 = 0 then ((Zy par at_ t x).1, jO (idT t) (idT x) 0) else (zB, (Zy par at_ t x).2)
theorem zcg (w : World) (S : Nat → Prop) (nv : Value) (t : Tr) (op id par at_ s1 s2 : Int) (tx s3 : ByteArray) (sa : Option Addr) (sn sc : Nat) (hS : ∀ y, S y → y < w.heap.size) (ht : zH w S nv t) (hsz : zg t.kids ≤ 100000) (Sx : Nat → Prop) (x : Tr) (hSx : ∀ y, Sx y → y < w.heap.size) (hx : zH w Sx (.agg #[.int .i64 s1, .int .i64 s2, .string s3, .slice sa sn sc]) x) (hxz : zg x.kids + 1 ≤ 2000) (htz : zg t.kids + 1 ≤ 2000) (hok : ∀ i ∈ idT t, (Lit.int .i64 i).wf = true) (hxk : ∀ i ∈ idT x, (Lit.int .i64 i).wf = true) :
 Calls Try.prog 53 #[nv, .agg #[.int .i8 op, .int .i64 id, .int .i64 par, .int .i64 at_, .string tx, .int .i64 s1, .int .i64 s2, .string s3, .slice sa sn sc]] w (je w (fun y => S y ∨ Sx y) (qU par at_ x t)) := by
 obtain ⟨ka, tc, rfl, hcap, hk⟩ := ht
 obtain ⟨nk, hnk⟩ : ∃ nk, nk = foLen t.kids := ⟨_, rfl⟩
 rw [← hnk]
 obtain ⟨B, hB⟩ : ∃ B, B = zq w [.cells #[.int .i64 t.id, .int .i64 t.kind, .string t.text, .slice ka nk tc] 27, .cells #[.int .i8 op, .int .i64 id, .int .i64 par, .int .i64 at_, .string tx, .int .i64 s1, .int .i64 s2, .string s3, .slice sa sn sc] 49, .cells #[.int .i64 0, .int .i64 0, .string ⟨#[]⟩, .slice none 0 0] 27] := ⟨_, rfl⟩
 have hb : Below w.heap.size w B := by rw [hB]; exact zm _ _
 have hs : B.heap.size = w.heap.size + 3 := by rw [hB]; exact zx _ _
 have ht0 : B.heap[w.heap.size]? = some (.cells #[.int .i64 t.id, .int .i64 t.kind, .string t.text, .slice ka nk tc] 27 (0, 0)) := by rw [hB]; exact zi _ _ 0 _ rfl
 have hs0 : B.heap[w.heap.size + 1]? = some (.cells #[.int .i8 op, .int .i64 id, .int .i64 par, .int .i64 at_, .string tx, .int .i64 s1, .int .i64 s2, .string s3, .slice sa sn sc] 49 (0, 0)) := by rw [hB]; exact zi _ _ 1 _ rfl
 have hr0 : B.heap[w.heap.size + 1 + 1]? = some (.cells #[.int .i64 0, .int .i64 0, .string ⟨#[]⟩, .slice none 0 0] 27 (0, 0)) := by rw [hB]; exact zi _ _ 2 _ rfl
 have htr : ∀ X, Below B.heap.size B X → zH X S (.agg #[.int .i64 t.id, .int .i64 t.kind, .string t.text, .slice ka nk tc]) t := fun X hX => ⟨ka, tc, by rw [hnk], by rw [hnk] at *; exact hcap, hk.below (hb.trans (hX.mono hb.size)) hS⟩
 have hSX : ∀ X, Below B.heap.size B X → ∀ y, S y → y < X.heap.size := fun X hX y hy => nL (hS y hy) (Nat.le_trans hb.size hX.size)
 have hpath : ∀ (i : Int) (X : World), Below B.heap.size B X → Calls Try.prog 88 #[.agg #[.int .i64 t.id, .int .i64 t.kind, .string t.text, .slice ka nk tc], .int .i64 i] X (zau X (zw i t)) := fun i X hX => kM X S _ t i (hSX X hX) (htr X hX) (by omega)
 have hcell : ∀ X, Below B.heap.size B X → (X.cell? ⟨w.heap.size, 0, none⟩ = some (.int .i64 t.id) ∧ X.cell? ⟨w.heap.size, 1, none⟩ = some (.int .i64 t.kind) ∧ X.cell? ⟨w.heap.size, 2, none⟩ = some (.string t.text) ∧ X.cell? ⟨w.heap.size, 3, none⟩ = some (.slice ka nk tc)) ∧ X.cell? ⟨w.heap.size + 1, 2, none⟩ = some (.int .i64 par) ∧ X.cell? ⟨w.heap.size + 1, 3, none⟩ = some (.int .i64 at_) ∧ X.cell? ⟨w.heap.size + 1, 5, none⟩ = some (.int .i64 s1) ∧ X.cell? ⟨w.heap.size + 1, 6, none⟩ = some (.int .i64 s2) ∧ X.cell? ⟨w.heap.size + 1, 7, none⟩ = some (.string s3) ∧ X.cell? ⟨w.heap.size + 1, 8, none⟩ = some (.slice sa sn sc) := fun X hX => by
  have e0 := (hX.block _ (lt_of_heap ht0)).trans ht0
  have e1 := (hX.block _ (lt_of_heap hs0)).trans hs0
  exact ⟨zF e0, by rw [cell_of_row _ _ 2 _ _ _ e1]; rfl, by rw [cell_of_row _ _ 3 _ _ _ e1]; rfl, by rw [cell_of_row _ _ 5 _ _ _ e1]; rfl, by rw [cell_of_row _ _ 6 _ _ _ e1]; rfl, by rw [cell_of_row _ _ 7 _ _ _ e1]; rfl, by rw [cell_of_row _ _ 8 _ _ _ e1]; rfl⟩
 obtain ⟨pr, hpr⟩ : ∃ pr, pr = qU par at_ x t := ⟨_, rfl⟩
 rw [← hpr]
 have HP := hH hpath
 have HCE := hH hcell
 have HTR := hH (aN htr hSX)
 have HB := hH (aN hb (aN hs hr0))
 have HSZ := hH hsz
 have HBE := hH hB
 have HSW := hH hS
 have HPR := hH hpr
 have hput := zcY B S Sx (.agg #[.int .i64 t.id, .int .i64 t.kind, .string t.text, .slice ka nk tc]) (.agg #[.int .i64 s1, .int .i64 s2, .string s3, .slice sa sn sc]) t x par at_ (hSX B (Below.refl _ _)) (fun y hy => nL (hSx y hy) hb.size) (htr B (Below.refl _ _)) (hx.kept fun y hy => ⟨hy, hb.block y (hSx y hy)⟩) (by omega)
 have hfr : ∀ X, Below w.heap.size w X → Calls Try.prog 87 #[.agg #[.int .i64 t.id, .int .i64 t.kind, .string t.text, .slice ka nk tc], .agg #[.int .i64 s1, .int .i64 s2, .string s3, .slice sa sn sc]] X _ := fun X hX => zdB X S Sx _ _ t x (fun y hy => nL (hS y hy) hX.size) (fun y hy => nL (hSx y hy) hX.size) ⟨ka, tc, by rw [hnk], by rw [hnk] at *; exact hcap, hk.below hX hS⟩ (hx.kept fun y hy => ⟨hy, hX.block y (hSx y hy)⟩) htz hxz hok hxk
 have HB2 := hH (aN ht0 hs0)
 have HFR := hH hfr
 have HPUT := hH hput
 have HSX := hH hSx
 clear hput hfr hSx hx hxz htz hok hxk HP
 clear hpath hcell htr hSX hb hs ht0 hs0 hr0 hS hk hcap hsz hnk hB hpr
 go_enter Try.func53, Try.ntmps53
 obtain ⟨⟨n0, n1, n2, n3⟩, m2, m3, m5, m6, m7, m8⟩ := HCE.out B (Below.refl _ _)
 rw [HBE.out] at n0 n1 n2 n3 m2 m3 m5 m6 m7 m8
 go_wp2_with fail
 change Calls _ _ _ (zq w [.cells #[.int .i64 t.id, .int .i64 t.kind, .string t.text, .slice ka nk tc] 27, .cells #[.int .i8 op, .int .i64 id, .int .i64 par, .int .i64 at_, .string tx, .int .i64 s1, .int .i64 s2, .string s3, .slice sa sn sc] 49, .cells #[.int .i64 0, .int .i64 0, .string ⟨#[]⟩, .slice none 0 0] 27]) _
 rw [← HBE.out]
 clear n0 n1 n2 n3 m2 m3 m5 m6 m7 m8
 refine HPUT.out.mono ?_
 rintro e W5 ⟨_, rfl, ⟨yb, yc, rfl, hyc, hyk⟩, hb5⟩
 obtain ⟨r, hr⟩ : ∃ r, r = Zy par at_ t x := ⟨_, rfl⟩
 rw [← hr] at hyc hyk ⊢
 obtain ⟨y, hy⟩ : ∃ y, y = r.1 := ⟨_, rfl⟩
 rw [← hy] at hyc hyk ⊢
 obtain ⟨yn, hyn⟩ : ∃ yn, yn = foLen y.kids := ⟨_, rfl⟩
 rw [← hyn] at hyc ⊢
 obtain ⟨ye, hye⟩ : ∃ ye, ye = r.2 := ⟨_, rfl⟩
 rw [← hye]
 obtain ⟨W6, hW6⟩ : ∃ W6, W6 = W5.alloc (.cells #[.int .i64 y.id, .int .i64 y.kind, .string y.text, .slice yb yn yc] 27) := ⟨_, rfl⟩
 have hb56 : Below W5.heap.size W5 W6 := by rw [hW6]; exact zh _ _
 have hs6 : W6.heap.size = W5.heap.size + 1 := by rw [hW6]; simp
 have hy6 : W6.heap[W5.heap.size]? = some (.cells #[.int .i64 y.id, .int .i64 y.kind, .string y.text, .slice yb yn yc] 27 (0, 0)) := by rw [hW6]; exact heap_alloc_new _ _
 have hb6 : Below B.heap.size B W6 := hb5.trans (hb56.mono hb5.size)
 have HB6 := hH hb6
 have HY := hH (aN hyc (aN hyk (aN hb56 (aN hyn (aN hye (aN hr (aN hy (aN hs6 hb5.size))))))))
 have HY6 := hH hy6
 have HW6 := hH hW6
 obtain ⟨xb, hxb⟩ : ∃ xb, xb = W5.heap.size := ⟨_, rfl⟩
 clear hyc hyk hb56 hy6 hb6 hW6 hb5 hy hyn hye hr hs6
 go_upto_region 2 with fail
 change Code.wp _ _ _ _ (W5.alloc (.cells #[.int .i64 y.id, .int .i64 y.kind, .string y.text, .slice yb yn yc] 27))
 rw [← HW6.out, ← hxb]
 rw [← hxb] at HY6
 have HXBB := hH hxb
 clear HW6 hxb
 by_cases hz : ye = 0
 · have hE : pr = (y, jO (idT t) (idT x) 0) := by rw [HPR.out, qU, ← HY.out.2.2.2.2.2.1, if_pos (by rw [← HY.out.2.2.2.2.1]; exact hz), ← HY.out.2.2.2.2.2.2.1]
   obtain ⟨fe, hfe⟩ : ∃ fe, fe = jO (idT t) (idT x) 0 := ⟨_, rfl⟩
   rw [← hfe] at hE
   have HE := hH (aN hE hfe)
   subst hz
   clear hE hfe
   go_upto_region 4 with fail
   have hRR : w.heap.size + 1 < w.heap.size + 1 + 1 := by omega
   have HXR := hH (show xb ≠ w.heap.size + 1 + 1 by have := HXBB.out; have := HB.out.2.1; have := HY.out.2.2.2.2.2.2.2.2; omega)
   have HC6 : Hid (∀ X, Tc W6 X (w.heap.size + 1 + 1) → (X.cell? ⟨w.heap.size, 0, none⟩ = some (.int .i64 t.id) ∧ X.cell? ⟨w.heap.size, 1, none⟩ = some (.int .i64 t.kind) ∧ X.cell? ⟨w.heap.size, 2, none⟩ = some (.string t.text) ∧ X.cell? ⟨w.heap.size, 3, none⟩ = some (.slice ka nk tc)) ∧ X.cell? ⟨w.heap.size + 1, 2, none⟩ = some (.int .i64 par) ∧ X.cell? ⟨w.heap.size + 1, 3, none⟩ = some (.int .i64 at_) ∧ X.cell? ⟨w.heap.size + 1, 5, none⟩ = some (.int .i64 s1) ∧ X.cell? ⟨w.heap.size + 1, 6, none⟩ = some (.int .i64 s2) ∧ X.cell? ⟨w.heap.size + 1, 7, none⟩ = some (.string s3) ∧ X.cell? ⟨w.heap.size + 1, 8, none⟩ = some (.slice sa sn sc)) := hH fun X hX => by
    have e0 := ((hX.block _ (nL (lt_of_heap HB2.out.1) HB6.out.size) (by omega)).trans (HB6.out.block _ (lt_of_heap HB2.out.1))).trans HB2.out.1
    have e1 := ((hX.block _ (nL (lt_of_heap HB2.out.2) HB6.out.size) (by omega)).trans (HB6.out.block _ (lt_of_heap HB2.out.2))).trans HB2.out.2
    exact ⟨zF e0, by rw [cell_of_row _ _ 2 _ _ _ e1]; rfl, by rw [cell_of_row _ _ 3 _ _ _ e1]; rfl, by rw [cell_of_row _ _ 5 _ _ _ e1]; rfl, by rw [cell_of_row _ _ 6 _ _ _ e1]; rfl, by rw [cell_of_row _ _ 7 _ _ _ e1]; rfl, by rw [cell_of_row _ _ 8 _ _ _ e1]; rfl⟩
   have HBW6 := hH (show Below w.heap.size w W6 from HB.out.1.trans (HB6.out.mono HB.out.1.size))
   have HZ6 := hH (show W6.drew.heap[w.heap.size + 1 + 1]? = some (.cells #[.int .i64 0, .int .i64 0, .string ⟨#[]⟩, .slice none 0 0] 27 (0, 0)) from (HB6.out.block _ (lt_of_heap HB.out.2.2)).trans HB.out.2.2)
   clear hRR
   refine wp_region_held_drew (S := fun X => Tc W6 X (w.heap.size + 1 + 1)) (by kernel_rfl) (Tc.of (below_drewN (Below.refl _ W6) 1)) (fun hHeld => ?_)
   refine tkH (i := 0) (.agg #[.int .i64 y.id, .int .i64 y.kind, .string y.text, .slice yb yn yc]) rfl (Or.inl ⟨by rfl, ?_⟩) (by assumption) ?_
   · clear hHeld; intro X hSw; obtain ⟨q0, q1, q2, q3⟩ := zF ((hSw.block _ (lt_of_heap HY6.out) HXR.out).trans HY6.out); clear hSw; go_simp
   simp only [Act.put, pg]
   refine tkH (i := 1) (.agg #[.int .i64 t.id, .int .i64 t.kind, .string t.text, .slice ka nk tc]) rfl (Or.inl ⟨by rfl, ?_⟩) (by assumption) ?_
   · clear hHeld; intro X hSw; obtain ⟨⟨n0, n1, n2, n3⟩, m2, m3, m5, m6, m7, m8⟩ := HC6.out X hSw; clear hSw; go_simp
   simp only [Act.put, pg]
   refine tkH (i := 2) (.pointer (some ⟨w.heap.size + 1, 5, none⟩)) rfl (Or.inl ⟨by rfl, fun X _ => by clear hHeld; go_simp⟩) (by assumption) ?_
   simp only [Act.put, pg]
   refine tkH (i := 3) (.agg #[.int .i64 s1, .int .i64 s2, .string s3, .slice sa sn sc]) rfl (Or.inl ⟨by rfl, ?_⟩) (by assumption) ?_
   · clear hHeld; intro X hSw; obtain ⟨⟨n0, n1, n2, n3⟩, m2, m3, m5, m6, m7, m8⟩ := HC6.out X hSw; clear hSw; go_simp
   simp only [Act.put, pg]
   refine wpAnyH_ready (rs := [4]) (by kernel_rfl) (by simp) ?_
   refine AllReadyH.cons (o := _) rfl (fun K hK => ?_) AllReadyH.nil
   rw [if_pos (by rfl)]
   simp only [pg3]
   have HK := hH hK
   have HS := hH hHeld
   clear hK hHeld
   go_wp2_with (go_at_call 87; refine (HFR.out _ (HS.out.below HBW6.out (by omega))).mono ?_; rintro e W7 ⟨rfl, hb7⟩; have HS7 := hH (HS.out.then hb7); have HZ7 := hH ((hb7.block _ (lt_of_heap HZ6.out)).trans HZ6.out); clear hb7; rw [← HE.out.2])
   refine HK.out _ _ HS7.out (fun hHeld => ?_)
   clear HK HS
   refine wpAnyH_ready (rs := [5]) (by kernel_rfl) (by simp) ?_
   refine AllReadyH.cons (o := _) rfl (fun K hK => ?_) AllReadyH.nil
   rw [if_pos (by rfl)]
   simp only [pg3]
   have HK := hH hK
   have HS := hH hHeld
   clear hK hHeld
   have hr3 := HZ7.out
   have hbz := HS7.out.below HBW6.out (by omega)
   obtain ⟨z0, z1, z2, z3⟩ := zF hr3
   have zf : ∀ j, W7.frozen? ⟨w.heap.size + 1 + 1, j, none⟩ = false := fun j => frozen_of_row _ _ j _ _ hr3
   obtain ⟨V, hV, r1, r2, r3, r4, r5, r6⟩ := zt (u0 := .int .i64 y.id) (u1 := .int .i64 y.kind) (u2 := .string y.text) (u3 := .slice yb yn yc) hr3
   have hTV : Tc W6 V (w.heap.size + 1 + 1) := ⟨r3.trans HS7.out.os, r4.trans HS7.out.tape, r5.trans HS7.out.output, by rw [r6]; exact HS7.out.size, fun z hz hn => (r2 z hn).trans (HS7.out.block z hz hn)⟩
   have HE2 := hH (aN hbz (aN hV (aN r1 (aN r2 (aN r3 (aN r4 (aN r5 (aN r6 hTV))))))))
   clear hbz hr3 hV r1 r2 r3 r4 r5 r6 hTV
   go_wp2_with fail
   rw [← HE2.out.2.1]
   clear z0 z1 z2 z3 zf
   refine HK.out _ _ HE2.out.2.2.2.2.2.2.2.2 (fun hHeld => ?_)
   clear HK HS
   refine tkH (i := 6) (.int .i64 fe) rfl (Or.inl ⟨by rfl, fun X _ => by clear hHeld; go_simp⟩) (by assumption) ?_
   simp only [Act.put, pg]
   refine wpAnyH_done (by kernel_rfl) ?_ _
   clear hHeld
   obtain ⟨hbz, hV, r1, r2, r3, r4, r5, r6, hTV⟩ := HE2.out
   obtain ⟨hyc, hyk, hb56, hyn, hye, hr, hy, hs6, hB5⟩ := HY.out
   have hok : zC V (fun z => (S z ∨ Sx z) ∨ w.heap.size ≤ z ∧ z < V.heap.size) y.kids yb := hyk.kept fun z hz => by
    have h1 := HSW.out
    have h2 := HSX.out
    have h3 := HB.out.2.1
    have h4 := HB.out.1.size
    have h5 := HS7.out.size
    have hz2 : ((S z ∨ Sx z) ∨ w.heap.size ≤ z ∧ z < V.heap.size) ∧ z < W5.heap.size ∧ z ≠ w.heap.size + 1 + 1 := by
     rcases hz with (hz | hz) | hz
     · have := h1 z hz; exact ⟨Or.inl (Or.inl hz), by omega, by omega⟩
     · have := h2 z hz; exact ⟨Or.inl (Or.inr hz), by omega, by omega⟩
     · exact ⟨Or.inr ⟨by omega, by omega⟩, by omega, by omega⟩
    exact ⟨hz2.1, (hTV.block z (by omega) hz2.2.2).trans (hb56.block z hz2.2.1)⟩
   have hEE := HE.out.1
   clear hb56 hTV HY HE2
   go_wp2_with fail
   exact step_end (p := 4) (u := 5) rfl rfl (g := w.heap.size + 1 + 1) (y := y) (m := yn) (kb := yb) (kc := yc) ⟨r3.trans hbz.os, r4.trans hbz.tape, r5.trans hbz.output, by rw [r6]; exact hbz.size, fun k hk => (r2 k (by omega)).trans (hbz.block k hk)⟩ (by omega) ⟨_, _, r1, rfl⟩ hyn (by rw [← hyn]; exact hyc) hok (by rw [hEE]) rfl (by rw [hEE]; rfl)
 · have hzb : (ye != 0) = true := by simpa using hz
   have hE0 : pr = (zB, ye) := by rw [HPR.out, qU, ← HY.out.2.2.2.2.2.1, if_neg (by rw [← HY.out.2.2.2.2.1]; exact hz), ← HY.out.2.2.2.2.1]
   clear hz
   have hb6 := HB6.out
   have hE : pr = (zB, ye) := hE0
   have hr3 := (hb6.block _ (lt_of_heap HB.out.2.2)).trans HB.out.2.2
   have hbz : Below w.heap.size w W6 := HB.out.1.trans (hb6.mono HB.out.1.size)
   obtain ⟨z0, z1, z2, z3⟩ := zF hr3
   have zf : ∀ j, W6.frozen? ⟨w.heap.size + 1 + 1, j, none⟩ = false := fun j => frozen_of_row _ _ j _ _ hr3
   obtain ⟨V, hV, r1, r2, r3, r4, r5, r6⟩ := zt (u0 := .int .i64 0) (u1 := .int .i64 0) (u2 := .string ⟨#[]⟩) (u3 := .slice none 0 0) hr3
   have HE := hH (aN hE (aN hbz (aN hr3 (aN hV (aN r1 (aN r2 (aN r3 (aN r4 (aN r5 r6)))))))))
   clear hE hbz hr3 hV r1 r2 r3 r4 r5 r6
   go_wp2_with fail
   rw [← HE.out.2.2.2.1]
   obtain ⟨hE, hbz, hr3, hV, r1, r2, r3, r4, r5, r6⟩ := HE.out
   exact step_end (p := 4) (u := 5) rfl rfl (g := w.heap.size + 1 + 1) (y := zB) (m := 0) (kb := none) (kc := 0) ⟨r3.trans hbz.os, r4.trans hbz.tape, r5.trans hbz.output, by rw [r6]; exact hbz.size, fun k hk => (r2 k (by omega)).trans (hbz.block k hk)⟩ (by omega) ⟨_, _, r1, rfl⟩ rfl (Nat.le_refl _) True.intro (by rw [hE]) rfl (by rw [hE]; rfl)
end Go.Proofs.Ytgkmmnihaiopaaa
