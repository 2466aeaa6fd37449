/-
  .
-/
import Derived.Deep.Cut
import Derived.Test.YtchccbfljamjnaaGreatWWakesQm
import Derived.Test.YtchccbfljamjnaaGreatWRStepQm
import Derived.Test.YtchccbfljamjnaaGreatERowQm
import Derived.Test.YtchccbfljamjnaaGreatJPgQm
set_option maxRecDepth 100000
set_option maxHeartbeats 40000000
namespace Go.Proofs.YtchccbfljamjnaaGreat
open Go.RowKit Go.Shelf
set_option linter.unusedVariables false
set_option linter.unusedSimpArgs false
theorem kJ (w : World) (S : Nat → Prop) (s : Sf) (sa : Option Addr) (sn sc : Nat) (t : Tr) (ka : Option Addr) (kn kc : Nat) (hS : ∀ y, S y → y < w.heap.size) (hsn : sn = foLen s.sub.kids) (hsc : foLen s.sub.kids ≤ sc) (hsk : zi w S s.sub.kids sa) (hsl : foLen s.sub.kids ≤ 9223372036854775807) (hsf : qf s.sub.kids) (hkn : kn = foLen t.kids) (hkc : foLen t.kids ≤ kc) (hkk : zi w S t.kids ka) (hkl : foLen t.kids ≤ 9223372036854775807) (hkf : qf t.kids) :
 Calls Tryz.prog 5 #[.agg #[.int .i8 s.op, .int .i64 s.id, .int .i64 s.par, .int .i64 s.at_, .string s.tx, .int .i64 s.sub.id, .int .i64 s.sub.kind, .string s.sub.text, .slice sa sn sc], .agg #[.int .i64 t.id, .int .i64 t.kind, .string t.text, .slice ka kn kc]] w (qB true w) := by
 obtain ⟨B, hB⟩ : ∃ B, B = zl w [.cells #[.int .i8 s.op, .int .i64 s.id, .int .i64 s.par, .int .i64 s.at_, .string s.tx, .int .i64 s.sub.id, .int .i64 s.sub.kind, .string s.sub.text, .slice sa sn sc] 41, .cells #[.int .i64 t.id, .int .i64 t.kind, .string t.text, .slice ka kn kc] 35] := ⟨_, rfl⟩
 have hb : Below w.heap.size w B := by rw [hB]; exact zh _ _
 have e0 : B.heap[w.heap.size]? = some (.cells #[.int .i8 s.op, .int .i64 s.id, .int .i64 s.par, .int .i64 s.at_, .string s.tx, .int .i64 s.sub.id, .int .i64 s.sub.kind, .string s.sub.text, .slice sa sn sc] 41 (0, 0)) := by rw [hB]; exact zg _ _ 0 _ rfl
 have e1 : B.heap[w.heap.size + 1]? = some (.cells #[.int .i64 t.id, .int .i64 t.kind, .string t.text, .slice ka kn kc] 35 (0, 0)) := by rw [hB]; exact zg _ _ 1 _ rfl
 obtain ⟨SW, hSW⟩ : ∃ SW : World → Prop, SW = fun Y => Below B.heap.size B Y := ⟨_, rfl⟩
 have HCE := hH (fun (Y : World) (h : SW Y) => (show (Y.cell? ⟨w.heap.size, 0, none⟩ = some (.int .i8 s.op) ∧ Y.cell? ⟨w.heap.size, 1, none⟩ = some (.int .i64 s.id) ∧ Y.cell? ⟨w.heap.size, 2, none⟩ = some (.int .i64 s.par) ∧ Y.cell? ⟨w.heap.size, 3, none⟩ = some (.int .i64 s.at_) ∧ Y.cell? ⟨w.heap.size, 4, none⟩ = some (.string s.tx) ∧ Y.cell? ⟨w.heap.size, 5, none⟩ = some (.int .i64 s.sub.id) ∧ Y.cell? ⟨w.heap.size, 6, none⟩ = some (.int .i64 s.sub.kind) ∧ Y.cell? ⟨w.heap.size, 7, none⟩ = some (.string s.sub.text) ∧ Y.cell? ⟨w.heap.size, 8, none⟩ = some (.slice sa sn sc)) ∧ Y.cell? ⟨w.heap.size + 1, 0, none⟩ = some (.int .i64 t.id) ∧ Y.cell? ⟨w.heap.size + 1, 1, none⟩ = some (.int .i64 t.kind) ∧ Y.cell? ⟨w.heap.size + 1, 2, none⟩ = some (.string t.text) ∧ Y.cell? ⟨w.heap.size + 1, 3, none⟩ = some (.slice ka kn kc) by
  rw [hSW] at h
  have e := (h.block _ (lt_of_heap e0)).trans e0
  have f := (h.block _ (lt_of_heap e1)).trans e1
  exact ⟨⟨by rw [cell_of_row _ _ 0 _ _ _ e]; rfl, by rw [cell_of_row _ _ 1 _ _ _ e]; rfl, by rw [cell_of_row _ _ 2 _ _ _ e]; rfl, by rw [cell_of_row _ _ 3 _ _ _ e]; rfl, by rw [cell_of_row _ _ 4 _ _ _ e]; rfl, by rw [cell_of_row _ _ 5 _ _ _ e]; rfl, by rw [cell_of_row _ _ 6 _ _ _ e]; rfl, by rw [cell_of_row _ _ 7 _ _ _ e]; rfl, by rw [cell_of_row _ _ 8 _ _ _ e]; rfl⟩, by rw [cell_of_row _ _ 0 _ _ _ f]; rfl, by rw [cell_of_row _ _ 1 _ _ _ f]; rfl, by rw [cell_of_row _ _ 2 _ _ _ f]; rfl, by rw [cell_of_row _ _ 3 _ _ _ f]; rfl⟩))
 have HT := hH (fun (Y Z : World) (h : SW Y) (k : Below Y.heap.size Y Z) => (show SW Z by
  rw [hSW] at h ⊢
  exact h.trans (k.mono h.size)))
 have HBW := hH (fun (Y : World) (h : SW Y) => (show Below w.heap.size w Y by
  rw [hSW] at h
  exact hb.trans (h.mono hb.size)))
 have hlt : ∀ Y, SW Y → ∀ y, S y → y < Y.heap.size := fun Y hY y hy => nL (hS y hy) (HBW.out Y hY).size
 have HSB := hH (aN hB (show SW B by rw [hSW]; exact Below.refl _ _))
 have HDR := hH (fun (Y : World) (h : SW Y) => (show SW Y.drew by
  rw [hSW] at h ⊢
  exact below_drewN h 1))
 have HG1 := hH (fun (Y : World) (h : SW Y) => jN Y S (.agg #[.int .i64 t.id, .int .i64 t.kind, .string t.text, .slice ka kn kc]) t hkl hkf (hlt Y h) ⟨ka, kc, by rw [hkn], hkc, hkk.below (HBW.out Y h) hS⟩)
 have HG2 := hH (fun (Y : World) (h : SW Y) => jN Y S (.agg #[.int .i64 s.sub.id, .int .i64 s.sub.kind, .string s.sub.text, .slice sa sn sc]) s.sub hsl hsf (hlt Y h) ⟨sa, sc, by rw [hsn], hsc, hsk.below (HBW.out Y h) hS⟩)
 have H1 := hH (fun (hz : zb s.sub.kids + 1 ≤ 2000) (Y : World) (h : SW Y) => Jf Y S s sa sn sc hsn (hlt Y h) hsc (hsk.below (HBW.out Y h) hS) (by omega))
 have H2 := hH (fun (hz : zb s.sub.kids + 1 ≤ 2000) (Y : World) (h : SW Y) => YW Y S s sa sn sc hsn (hlt Y h) hsc (hsk.below (HBW.out Y h) hS) (by omega))
 have H3 := hH (fun (Y : World) (h : SW Y) => Jg Y S t ka kn kc hkn (hlt Y h) (hkk.below (HBW.out Y h) hS))
 have H4 := hH (fun (Y : World) (h : SW Y) => j5 Y S t ka kn kc hkn (hlt Y h) (hkk.below (HBW.out Y h) hS))
 have H5 := hH (fun (Y : World) (_ : SW Y) => vD Y)
 obtain ⟨sb, hsb⟩ : ∃ sb, sb = zT s := ⟨_, rfl⟩
 obtain ⟨tb, htb⟩ : ∃ tb, tb = yH t := ⟨_, rfl⟩
 rw [← hsb] at H1 H2
 rw [← htb] at H3 H4
 clear hsb htb hS hsn hsc hsk hsl hsf hkn hkc hkk hkl hkf hlt hSW e0 e1 hb hB
 go_enter Tryz.func5, Tryz.ntmps5
 go_upto_region 1 with fail
 change Code.wp _ _ _ _ (zl w [.cells #[.int .i8 s.op, .int .i64 s.id, .int .i64 s.par, .int .i64 s.at_, .string s.tx, .int .i64 s.sub.id, .int .i64 s.sub.kind, .string s.sub.text, .slice sa sn sc] 41, .cells #[.int .i64 t.id, .int .i64 t.kind, .string t.text, .slice ka kn kc] 35])
 rw [← HSB.out.1]
 obtain ⟨⟨p0, p1, p2, p3, p4, p5, p6, p7, p8⟩, q0, q1, q2, q3⟩ := HCE.out B HSB.out.2
 go_wp2_with fail
 refine (HG1.out B HSB.out.2).mono ?_
 rintro e w1 ⟨b1, rfl, hb1, hz1⟩
 have HS1 := hH (HT.out _ _ HSB.out.2 hz1)
 clear hz1 p0 p1 p2 p3 p4 p5 p6 p7 p8 q0 q1 q2 q3 hb1 HG1
 cases b1
 · obtain ⟨⟨p0, p1, p2, p3, p4, p5, p6, p7, p8⟩, q0, q1, q2, q3⟩ := HCE.out w1 HS1.out
   go_wp2_with fail
   refine (HG2.out w1 HS1.out).mono ?_
   rintro e w2 ⟨b2, rfl, hb2, hz2⟩
   have HS2 := hH (HT.out _ _ HS1.out hz2)
   clear hz2 p0 p1 p2 p3 p4 p5 p6 p7 p8 q0 q1 q2 q3 HG2
   cases b2
   · have HZ2 := hH (hb2 rfl)
     clear hb2
     go_upto_region 3 with fail
     refine wp_region_held_drew (S := SW) (by kernel_rfl) (HDR.out _ HS2.out) (fun hHeld => ?_)
     refine tkH (i := 0) (.agg #[.int .i8 s.op, .int .i64 s.id, .int .i64 s.par, .int .i64 s.at_, .string s.tx, .int .i64 s.sub.id, .int .i64 s.sub.kind, .string s.sub.text, .slice sa sn sc]) rfl (Or.inl ⟨by rfl, ?_⟩) (by assumption) ?_
     · clear hHeld; intro Y hSw; obtain ⟨⟨p0, p1, p2, p3, p4, p5, p6, p7, p8⟩, q0, q1, q2, q3⟩ := HCE.out Y hSw; clear hSw; go_simp
     simp only [Act.put, pg]
     refine tkH (i := 2) (.agg #[.int .i8 s.op, .int .i64 s.id, .int .i64 s.par, .int .i64 s.at_, .string s.tx, .int .i64 s.sub.id, .int .i64 s.sub.kind, .string s.sub.text, .slice sa sn sc]) rfl (Or.inl ⟨by rfl, ?_⟩) (by assumption) ?_
     · clear hHeld; intro Y hSw; obtain ⟨⟨p0, p1, p2, p3, p4, p5, p6, p7, p8⟩, q0, q1, q2, q3⟩ := HCE.out Y hSw; clear hSw; go_simp
     simp only [Act.put, pg]
     refine wpAnyH_ready (rs := [1]) (by kernel_rfl) (by simp) ?_
     refine AllReadyH.cons (o := _) rfl (fun K hK => ?_) AllReadyH.nil
     rw [if_pos (by rfl)]
     simp only [pg3]
     have HK := hH hK
     have HS := hH hHeld
     clear hK hHeld
     go_wp2_with fail
     refine ((H1.out HZ2.out) _ HS.out).mono ?_
     rintro e Z ⟨rfl, hz⟩
     have hSZ : SW Z := HT.out _ _ HS.out hz
     clear hz
     go_wp2_with fail
     refine HK.out _ _ hSZ (fun hHeld => ?_)
     clear HK HS hSZ
     refine wpAnyH_ready (rs := [3]) (by kernel_rfl) (by simp) ?_
     refine AllReadyH.cons (o := _) rfl (fun K hK => ?_) AllReadyH.nil
     rw [if_pos (by rfl)]
     simp only [pg3]
     have HK := hH hK
     have HS := hH hHeld
     clear hK hHeld
     go_wp2_with fail
     refine ((H2.out HZ2.out) _ HS.out).mono ?_
     rintro e Z ⟨rfl, hz⟩
     have hSZ : SW Z := HT.out _ _ HS.out hz
     clear hz
     go_wp2_with fail
     refine HK.out _ _ hSZ (fun hHeld => ?_)
     clear HK HS hSZ
     refine tkH (i := 4) (.bool true) rfl (Or.inl ⟨by rfl, ?_⟩) (by assumption) ?_
     · clear hHeld; intro Y hSw; clear hSw; go_simp
     simp only [Act.put, pg]
     refine tkH (i := 5) (.bool true) rfl (Or.inl ⟨by rfl, ?_⟩) (by assumption) ?_
     · clear hHeld; intro Y hSw; clear hSw; go_simp
     simp only [Act.put, pg]
     refine tkH (i := 6) (.agg #[.int .i64 t.id, .int .i64 t.kind, .string t.text, .slice ka kn kc]) rfl (Or.inl ⟨by rfl, ?_⟩) (by assumption) ?_
     · clear hHeld; intro Y hSw; obtain ⟨⟨p0, p1, p2, p3, p4, p5, p6, p7, p8⟩, q0, q1, q2, q3⟩ := HCE.out Y hSw; clear hSw; go_simp
     simp only [Act.put, pg]
     refine tkH (i := 8) (.agg #[.int .i64 t.id, .int .i64 t.kind, .string t.text, .slice ka kn kc]) rfl (Or.inl ⟨by rfl, ?_⟩) (by assumption) ?_
     · clear hHeld; intro Y hSw; obtain ⟨⟨p0, p1, p2, p3, p4, p5, p6, p7, p8⟩, q0, q1, q2, q3⟩ := HCE.out Y hSw; clear hSw; go_simp
     simp only [Act.put, pg]
     refine wpAnyH_ready (rs := [7]) (by kernel_rfl) (by simp) ?_
     refine AllReadyH.cons (o := _) rfl (fun K hK => ?_) AllReadyH.nil
     rw [if_pos (by rfl)]
     simp only [pg3]
     have HK := hH hK
     have HS := hH hHeld
     clear hK hHeld
     go_wp2_with fail
     refine (H3.out _ HS.out).mono ?_
     rintro e Z ⟨rfl, hz⟩
     have hSZ : SW Z := HT.out _ _ HS.out hz
     clear hz
     go_wp2_with fail
     refine HK.out _ _ hSZ (fun hHeld => ?_)
     clear HK HS hSZ
     refine wpAnyH_ready (rs := [9]) (by kernel_rfl) (by simp) ?_
     refine AllReadyH.cons (o := _) rfl (fun K hK => ?_) AllReadyH.nil
     rw [if_pos (by rfl)]
     simp only [pg3]
     have HK := hH hK
     have HS := hH hHeld
     clear hK hHeld
     go_wp2_with fail
     refine (H4.out _ HS.out).mono ?_
     rintro e Z ⟨rfl, hz⟩
     have hSZ : SW Z := HT.out _ _ HS.out hz
     clear hz
     go_wp2_with fail
     refine HK.out _ _ hSZ (fun hHeld => ?_)
     clear HK HS hSZ
     refine tkH (i := 10) (.bool true) rfl (Or.inl ⟨by rfl, ?_⟩) (by assumption) ?_
     · clear hHeld; intro Y hSw; clear hSw; go_simp
     simp only [Act.put, pg]
     refine tkH (i := 11) (.bool true) rfl (Or.inl ⟨by rfl, ?_⟩) (by assumption) ?_
     · clear hHeld; intro Y hSw; clear hSw; go_simp
     simp only [Act.put, pg]
     refine tkH (i := 12) (.bool true) rfl (Or.inl ⟨by rfl, ?_⟩) (by assumption) ?_
     · clear hHeld; intro Y hSw; clear hSw; go_simp
     simp only [Act.put, pg]
     refine wpAnyH_ready (rs := [13]) (by kernel_rfl) (by simp) ?_
     refine AllReadyH.cons (o := _) rfl (fun K hK => ?_) AllReadyH.nil
     rw [if_pos (by rfl)]
     simp only [pg3]
     have HK := hH hK
     have HS := hH hHeld
     clear hK hHeld
     go_wp2_with fail
     refine (H5.out _ HS.out).mono ?_
     rintro e Z ⟨rfl, hz⟩
     have hSZ : SW Z := HT.out _ _ HS.out hz
     clear hz
     go_wp2_with fail
     refine HK.out _ _ hSZ (fun hHeld => ?_)
     clear HK HS hSZ
     refine tkH (i := 14) (.bool true) rfl (Or.inl ⟨by rfl, ?_⟩) (by assumption) ?_
     · clear hHeld; intro Y hSw; clear hSw; go_simp
     simp only [Act.put, pg]
     refine tkH (i := 15) (.bool true) rfl (Or.inl ⟨by rfl, ?_⟩) (by assumption) ?_
     · clear hHeld; intro Y hSw; clear hSw; go_simp
     simp only [Act.put, pg]
     refine wpAnyH_done (by kernel_rfl) ?_ _
     have HW := hH hHeld
     clear hHeld
     go_wp2_with fail
     go_ret
     exact ⟨rfl, HBW.out _ HW.out⟩
   · clear hb2
     go_wp2_with fail
     refine (vD _).mono ?_
     rintro e Z ⟨rfl, hz⟩
     have HZ := hH ((HBW.out _ HS2.out).trans (hz.mono (HBW.out _ HS2.out).size))
     clear hz
     go_wp2_with fail
     go_ret
     exact ⟨rfl, HZ.out⟩
 · go_wp2_with fail
   refine (vD _).mono ?_
   rintro e Z ⟨rfl, hz⟩
   have HZ := hH ((HBW.out _ HS1.out).trans (hz.mono (HBW.out _ HS1.out).size))
   clear hz
   go_wp2_with fail
   go_ret
   exact ⟨rfl, HZ.out⟩
end Go.Proofs.YtchccbfljamjnaaGreat
