/-
  .
-/
import Derived.Deep.Cut
import Derived.Test.YtchccbfljamjnaaGreatWWakesQn
import Derived.Test.YtchccbfljamjnaaGreatWRightEQn
import Derived.Test.YtchccbfljamjnaaGreatJPgQn
set_option maxRecDepth 100000
set_option maxHeartbeats 40000000
namespace Go.Proofs.YtchccbfljamjnaaGreat
open Go.RowKit Go.Shelf
set_option linter.unusedVariables false
set_option linter.unusedSimpArgs false
theorem YH (w : World) (a0 a1 a2 a3 a4 a5 a6 a7 a8 a9 a10 : Int) (sa ar : Option Addr) (an ac am ad : Nat) (vs : List SV) (t : Tr) (h : ZH w sa ar an am ad vs t) (ha : IntKind.i64.wrap a0 = a0) (b0 b1 b2 b3 b4 b5 b6 b7 b8 b9 b10 : Int) (sb_ br : Option Addr) (bn bc bm bd : Nat) (us : List SV) (u : Tr) (h2 : ZH w sb_ br bn bm bd us u) (hb0 : IntKind.i64.wrap b0 = b0) :
 Calls Tryz.prog 4 #[.agg #[.int .i8 a0, .int .i64 a1, .int .i64 a2, .int .i64 a3, .int .i64 a4, .int .i64 a5, .int .i64 a6, .int .i64 a7, .int .i64 a8, .int .i64 a9, .int .i64 a10, .slice sa an ac, .int .i64 t.id, .int .i64 t.kind, .string t.text, .slice ar am ad], .agg #[.int .i8 b0, .int .i64 b1, .int .i64 b2, .int .i64 b3, .int .i64 b4, .int .i64 b5, .int .i64 b6, .int .i64 b7, .int .i64 b8, .int .i64 b9, .int .i64 b10, .slice sb_ bn bc, .int .i64 u.id, .int .i64 u.kind, .string u.text, .slice br bm bd]] w (zx true w) := by
 obtain ⟨B, hB⟩ : ∃ B, B = zn w [.cells #[.int .i8 a0, .int .i64 a1, .int .i64 a2, .int .i64 a3, .int .i64 a4, .int .i64 a5, .int .i64 a6, .int .i64 a7, .int .i64 a8, .int .i64 a9, .int .i64 a10, .slice sa an ac, .int .i64 t.id, .int .i64 t.kind, .string t.text, .slice ar am ad] 37, .cells #[.int .i8 b0, .int .i64 b1, .int .i64 b2, .int .i64 b3, .int .i64 b4, .int .i64 b5, .int .i64 b6, .int .i64 b7, .int .i64 b8, .int .i64 b9, .int .i64 b10, .slice sb_ bn bc, .int .i64 u.id, .int .i64 u.kind, .string u.text, .slice br bm bd] 37] := ⟨_, rfl⟩
 have hb : Below w.heap.size w B := by rw [hB]; exact zl _ _
 have e0 : B.heap[w.heap.size]? = some (.cells #[.int .i8 a0, .int .i64 a1, .int .i64 a2, .int .i64 a3, .int .i64 a4, .int .i64 a5, .int .i64 a6, .int .i64 a7, .int .i64 a8, .int .i64 a9, .int .i64 a10, .slice sa an ac, .int .i64 t.id, .int .i64 t.kind, .string t.text, .slice ar am ad] 37 (0, 0)) := by rw [hB]; exact zg _ _ 0 _ rfl
 have e1 : B.heap[w.heap.size + 1]? = some (.cells #[.int .i8 b0, .int .i64 b1, .int .i64 b2, .int .i64 b3, .int .i64 b4, .int .i64 b5, .int .i64 b6, .int .i64 b7, .int .i64 b8, .int .i64 b9, .int .i64 b10, .slice sb_ bn bc, .int .i64 u.id, .int .i64 u.kind, .string u.text, .slice br bm bd] 37 (0, 0)) := by rw [hB]; exact zg _ _ 1 _ rfl
 obtain ⟨SW, hSW⟩ : ∃ SW : World → Prop, SW = fun Y => Below B.heap.size B Y := ⟨_, rfl⟩
 have HA := hH (fun (Y : World) (h : SW Y) => (show Y.cell? ⟨w.heap.size, 0, none⟩ = some (.int .i8 a0) ∧ Y.cell? ⟨w.heap.size, 1, none⟩ = some (.int .i64 a1) ∧ Y.cell? ⟨w.heap.size, 2, none⟩ = some (.int .i64 a2) ∧ Y.cell? ⟨w.heap.size, 3, none⟩ = some (.int .i64 a3) ∧ Y.cell? ⟨w.heap.size, 4, none⟩ = some (.int .i64 a4) ∧ Y.cell? ⟨w.heap.size, 5, none⟩ = some (.int .i64 a5) ∧ Y.cell? ⟨w.heap.size, 6, none⟩ = some (.int .i64 a6) ∧ Y.cell? ⟨w.heap.size, 7, none⟩ = some (.int .i64 a7) ∧ Y.cell? ⟨w.heap.size, 8, none⟩ = some (.int .i64 a8) ∧ Y.cell? ⟨w.heap.size, 9, none⟩ = some (.int .i64 a9) ∧ Y.cell? ⟨w.heap.size, 10, none⟩ = some (.int .i64 a10) ∧ Y.cell? ⟨w.heap.size, 11, none⟩ = some (.slice sa an ac) ∧ Y.cell? ⟨w.heap.size, 12, none⟩ = some (.int .i64 t.id) ∧ Y.cell? ⟨w.heap.size, 13, none⟩ = some (.int .i64 t.kind) ∧ Y.cell? ⟨w.heap.size, 14, none⟩ = some (.string t.text) ∧ Y.cell? ⟨w.heap.size, 15, none⟩ = some (.slice ar am ad) by
  rw [hSW] at h
  have e := (h.block _ (lt_of_heap e0)).trans e0
  exact ⟨by rw [cell_of_row _ _ 0 _ _ _ e]; rfl, by rw [cell_of_row _ _ 1 _ _ _ e]; rfl, by rw [cell_of_row _ _ 2 _ _ _ e]; rfl, by rw [cell_of_row _ _ 3 _ _ _ e]; rfl, by rw [cell_of_row _ _ 4 _ _ _ e]; rfl, by rw [cell_of_row _ _ 5 _ _ _ e]; rfl, by rw [cell_of_row _ _ 6 _ _ _ e]; rfl, by rw [cell_of_row _ _ 7 _ _ _ e]; rfl, by rw [cell_of_row _ _ 8 _ _ _ e]; rfl, by rw [cell_of_row _ _ 9 _ _ _ e]; rfl, by rw [cell_of_row _ _ 10 _ _ _ e]; rfl, by rw [cell_of_row _ _ 11 _ _ _ e]; rfl, by rw [cell_of_row _ _ 12 _ _ _ e]; rfl, by rw [cell_of_row _ _ 13 _ _ _ e]; rfl, by rw [cell_of_row _ _ 14 _ _ _ e]; rfl, by rw [cell_of_row _ _ 15 _ _ _ e]; rfl⟩))
 have HB := hH (fun (Y : World) (h : SW Y) => (show Y.cell? ⟨w.heap.size + 1, 0, none⟩ = some (.int .i8 b0) ∧ Y.cell? ⟨w.heap.size + 1, 1, none⟩ = some (.int .i64 b1) ∧ Y.cell? ⟨w.heap.size + 1, 2, none⟩ = some (.int .i64 b2) ∧ Y.cell? ⟨w.heap.size + 1, 3, none⟩ = some (.int .i64 b3) ∧ Y.cell? ⟨w.heap.size + 1, 4, none⟩ = some (.int .i64 b4) ∧ Y.cell? ⟨w.heap.size + 1, 5, none⟩ = some (.int .i64 b5) ∧ Y.cell? ⟨w.heap.size + 1, 6, none⟩ = some (.int .i64 b6) ∧ Y.cell? ⟨w.heap.size + 1, 7, none⟩ = some (.int .i64 b7) ∧ Y.cell? ⟨w.heap.size + 1, 8, none⟩ = some (.int .i64 b8) ∧ Y.cell? ⟨w.heap.size + 1, 9, none⟩ = some (.int .i64 b9) ∧ Y.cell? ⟨w.heap.size + 1, 10, none⟩ = some (.int .i64 b10) ∧ Y.cell? ⟨w.heap.size + 1, 11, none⟩ = some (.slice sb_ bn bc) ∧ Y.cell? ⟨w.heap.size + 1, 12, none⟩ = some (.int .i64 u.id) ∧ Y.cell? ⟨w.heap.size + 1, 13, none⟩ = some (.int .i64 u.kind) ∧ Y.cell? ⟨w.heap.size + 1, 14, none⟩ = some (.string u.text) ∧ Y.cell? ⟨w.heap.size + 1, 15, none⟩ = some (.slice br bm bd) by
  rw [hSW] at h
  have e := (h.block _ (lt_of_heap e1)).trans e1
  exact ⟨by rw [cell_of_row _ _ 0 _ _ _ e]; rfl, by rw [cell_of_row _ _ 1 _ _ _ e]; rfl, by rw [cell_of_row _ _ 2 _ _ _ e]; rfl, by rw [cell_of_row _ _ 3 _ _ _ e]; rfl, by rw [cell_of_row _ _ 4 _ _ _ e]; rfl, by rw [cell_of_row _ _ 5 _ _ _ e]; rfl, by rw [cell_of_row _ _ 6 _ _ _ e]; rfl, by rw [cell_of_row _ _ 7 _ _ _ e]; rfl, by rw [cell_of_row _ _ 8 _ _ _ e]; rfl, by rw [cell_of_row _ _ 9 _ _ _ e]; rfl, by rw [cell_of_row _ _ 10 _ _ _ e]; rfl, by rw [cell_of_row _ _ 11 _ _ _ e]; rfl, by rw [cell_of_row _ _ 12 _ _ _ e]; rfl, by rw [cell_of_row _ _ 13 _ _ _ e]; rfl, by rw [cell_of_row _ _ 14 _ _ _ e]; rfl, by rw [cell_of_row _ _ 15 _ _ _ e]; rfl⟩))
 have HT := hH (fun (Y Z : World) (h : SW Y) (k : Below Y.heap.size Y Z) => (show SW Z by
  rw [hSW] at h ⊢
  exact h.trans (k.mono h.size)))
 have HBW := hH (fun (Y : World) (h : SW Y) => (show Below w.heap.size w Y by
  rw [hSW] at h
  exact hb.trans (h.mono hb.size)))
 have HSB := hH (aN hB (show SW B by rw [hSW]; exact Below.refl _ _))
 have HDR := hH (fun (Y : World) (h : SW Y) => (show SW Y.drew by
  rw [hSW] at h ⊢
  exact below_drewN h 1))
 have HG1 := hH (fun (Y : World) (hY : SW Y) => ZZ Y a0 a1 a2 a3 a4 a5 a6 a7 a8 a9 a10 sa ar an ac am ad vs t (h.on (HBW.out Y hY)))
 have HG2 := hH (fun (Y : World) (hY : SW Y) => ZZ Y b0 b1 b2 b3 b4 b5 b6 b7 b8 b9 b10 sb_ br bn bc bm bd us u (h2.on (HBW.out Y hY)))
 obtain ⟨r, hr⟩ := zaI a0 a1 a2 a3 a4 a5 a6 a7 a8 a9 a10 sa ar an ac am ad vs t
 have H1 := hH (fun (hz : jf vs t) (Y : World) (hY : SW Y) => (hr Y ((h.at hz).on (HBW.out Y hY))).1)
 have H2 := hH (fun (hz : jf vs t) (Y : World) (hY : SW Y) => (hr Y ((h.at hz).on (HBW.out Y hY))).2)
 have H3 := hH (fun (hz : jf vs t) (hz2 : jf us u) (Y : World) (hY : SW Y) => (Zc Y a0 a1 a2 a3 a4 a5 a6 a7 a8 a9 a10 sa ar an ac am ad vs t ((h.at hz).on (HBW.out Y hY)) ha b0 b1 b2 b3 b4 b5 b6 b7 b8 b9 b10 sb_ br bn bc bm bd us u ((h2.at hz2).on (HBW.out Y hY)) hb0).1)
 have H4 := hH (fun (hz : jf vs t) (hz2 : jf us u) (Y : World) (hY : SW Y) => (Zc Y a0 a1 a2 a3 a4 a5 a6 a7 a8 a9 a10 sa ar an ac am ad vs t ((h.at hz).on (HBW.out Y hY)) ha b0 b1 b2 b3 b4 b5 b6 b7 b8 b9 b10 sb_ br bn bc bm bd us u ((h2.at hz2).on (HBW.out Y hY)) hb0).2)
 have H5 := hH (fun (hz : jf vs t) (Y : World) (hY : SW Y) => (Zc Y a0 a1 a2 a3 a4 a5 a6 a7 a8 a9 a10 sa ar an ac am ad vs t ((h.at hz).on (HBW.out Y hY)) ha a0 a1 a2 a3 a4 a5 a6 a7 a8 a9 a10 sa ar an ac am ad vs t ((h.at hz).on (HBW.out Y hY)) ha).1)
 rw [zaP] at H5
 obtain ⟨q, hq⟩ : ∃ q, q = JJ ⟨a0, a1, a2, a3, a4, a5, a6, a7, a8, a9, a10⟩ ⟨b0, b1, b2, b3, b4, b5, b6, b7, b8, b9, b10⟩ (steps vs) (steps us) t u := ⟨_, rfl⟩
 rw [← hq] at H3 H4
 have H6 := hH (fun (Y : World) (_ : SW Y) => kv Y)
 clear hq hr h h2 ha hb0 hSW e0 e1 hb hB
 go_enter Tryz.func4, Tryz.ntmps4
 go_upto_region 1 with fail
 change Code.wp _ _ _ _ (zn w [.cells #[.int .i8 a0, .int .i64 a1, .int .i64 a2, .int .i64 a3, .int .i64 a4, .int .i64 a5, .int .i64 a6, .int .i64 a7, .int .i64 a8, .int .i64 a9, .int .i64 a10, .slice sa an ac, .int .i64 t.id, .int .i64 t.kind, .string t.text, .slice ar am ad] 37, .cells #[.int .i8 b0, .int .i64 b1, .int .i64 b2, .int .i64 b3, .int .i64 b4, .int .i64 b5, .int .i64 b6, .int .i64 b7, .int .i64 b8, .int .i64 b9, .int .i64 b10, .slice sb_ bn bc, .int .i64 u.id, .int .i64 u.kind, .string u.text, .slice br bm bd] 37])
 rw [← HSB.out.1]
 obtain ⟨p0, p1, p2, p3, p4, p5, p6, p7, p8, p9, p10, p11, p12, p13, p14, p15⟩ := HA.out B HSB.out.2
 go_wp2_with fail
 refine (HG1.out B HSB.out.2).mono ?_
 rintro e w1 ⟨g1, rfl, hg1, hz1⟩
 have HS1 := hH (HT.out _ _ HSB.out.2 hz1)
 clear hz1 HG1 p0 p1 p2 p3 p4 p5 p6 p7 p8 p9 p10 p11 p12 p13 p14 p15
 cases g1
 · have HZ1 := hH (hg1 rfl)
   clear hg1
   as_aux_lemma =>
    obtain ⟨q0, q1, q2, q3, q4, q5, q6, q7, q8, q9, q10, q11, q12, q13, q14, q15⟩ := HB.out w1 HS1.out
    go_wp2_with fail
    refine (HG2.out w1 HS1.out).mono ?_
    rintro e w2 ⟨g2, rfl, hg2, hz2⟩
    have HS2 := hH (HT.out _ _ HS1.out hz2)
    clear hz2 HG2 q0 q1 q2 q3 q4 q5 q6 q7 q8 q9 q10 q11 q12 q13 q14 q15
    cases g2
    · as_aux_lemma =>
       have HZ2 := hH (hg2 rfl)
       clear hg2
       go_upto_region 3 with fail
       refine wp_region_held_drew (S := SW) (by kernel_rfl) (HDR.out _ HS2.out) (fun hHeld => ?_)
       refine tkH (i := 0) (.agg #[.int .i8 a0, .int .i64 a1, .int .i64 a2, .int .i64 a3, .int .i64 a4, .int .i64 a5, .int .i64 a6, .int .i64 a7, .int .i64 a8, .int .i64 a9, .int .i64 a10, .slice sa an ac, .int .i64 t.id, .int .i64 t.kind, .string t.text, .slice ar am ad]) rfl (Or.inl ⟨by rfl, ?_⟩) (by assumption) ?_
       · clear hHeld; intro Y hSw; obtain ⟨p0, p1, p2, p3, p4, p5, p6, p7, p8, p9, p10, p11, p12, p13, p14, p15⟩ := HA.out Y hSw; clear hSw; go_simp
       simp only [Act.put, pg]
       refine tkH (i := 2) (.agg #[.int .i8 a0, .int .i64 a1, .int .i64 a2, .int .i64 a3, .int .i64 a4, .int .i64 a5, .int .i64 a6, .int .i64 a7, .int .i64 a8, .int .i64 a9, .int .i64 a10, .slice sa an ac, .int .i64 t.id, .int .i64 t.kind, .string t.text, .slice ar am ad]) rfl (Or.inl ⟨by rfl, ?_⟩) (by assumption) ?_
       · clear hHeld; intro Y hSw; obtain ⟨p0, p1, p2, p3, p4, p5, p6, p7, p8, p9, p10, p11, p12, p13, p14, p15⟩ := HA.out Y hSw; clear hSw; go_simp
       simp only [Act.put, pg]
       as_aux_lemma =>
        refine wpAnyH_ready (rs := [1]) (by kernel_rfl) (by simp) ?_
        refine AllReadyH.cons (o := _) rfl (fun K hK => ?_) AllReadyH.nil
        rw [if_pos (by rfl)]
        simp only [pg3]
        have HK := hH hK
        have HS := hH hHeld
        clear hK hHeld
        go_wp2_with fail
        refine ((H1.out HZ1.out) _ HS.out).mono ?_
        rintro e Z ⟨rfl, hz⟩
        have hSZ : SW Z := HT.out _ _ HS.out hz
        clear hz
        go_wp2_with fail
        refine HK.out _ _ hSZ (fun hHeld => ?_)
        clear HK HS hSZ
        as_aux_lemma =>
         refine wpAnyH_ready (rs := [3]) (by kernel_rfl) (by simp) ?_
         refine AllReadyH.cons (o := _) rfl (fun K hK => ?_) AllReadyH.nil
         rw [if_pos (by rfl)]
         simp only [pg3]
         have HK := hH hK
         have HS := hH hHeld
         clear hK hHeld
         go_wp2_with fail
         refine ((H2.out HZ1.out) _ HS.out).mono ?_
         rintro e Z ⟨rfl, hz⟩
         have hSZ : SW Z := HT.out _ _ HS.out hz
         clear hz
         go_wp2_with fail
         refine HK.out _ _ hSZ (fun hHeld => ?_)
         clear HK HS hSZ
         refine tkH (i := 4) (.bool true) rfl (Or.inl ⟨by rfl, ?_⟩) (by assumption) ?_
         · clear hHeld; intro Y hSw; clear hSw; go_simp
         simp only [Act.put, pg]
         refine tkH (i := 5) (.bool true) rfl (Or.inl ⟨by rfl, ?_⟩) (by assumption) ?_
         · clear hHeld; intro Y hSw; clear hSw; go_simp
         simp only [Act.put, pg]
         as_aux_lemma =>
          refine tkH (i := 6) (.agg #[.int .i8 a0, .int .i64 a1, .int .i64 a2, .int .i64 a3, .int .i64 a4, .int .i64 a5, .int .i64 a6, .int .i64 a7, .int .i64 a8, .int .i64 a9, .int .i64 a10, .slice sa an ac, .int .i64 t.id, .int .i64 t.kind, .string t.text, .slice ar am ad]) rfl (Or.inl ⟨by rfl, ?_⟩) (by assumption) ?_
          · clear hHeld; intro Y hSw; obtain ⟨p0, p1, p2, p3, p4, p5, p6, p7, p8, p9, p10, p11, p12, p13, p14, p15⟩ := HA.out Y hSw; clear hSw; go_simp
          simp only [Act.put, pg]
          refine tkH (i := 7) (.agg #[.int .i8 b0, .int .i64 b1, .int .i64 b2, .int .i64 b3, .int .i64 b4, .int .i64 b5, .int .i64 b6, .int .i64 b7, .int .i64 b8, .int .i64 b9, .int .i64 b10, .slice sb_ bn bc, .int .i64 u.id, .int .i64 u.kind, .string u.text, .slice br bm bd]) rfl (Or.inl ⟨by rfl, ?_⟩) (by assumption) ?_
          · clear hHeld; intro Y hSw; obtain ⟨q0, q1, q2, q3, q4, q5, q6, q7, q8, q9, q10, q11, q12, q13, q14, q15⟩ := HB.out Y hSw; clear hSw; go_simp
          simp only [Act.put, pg]
          as_aux_lemma =>
           refine tkH (i := 9) (.agg #[.int .i8 a0, .int .i64 a1, .int .i64 a2, .int .i64 a3, .int .i64 a4, .int .i64 a5, .int .i64 a6, .int .i64 a7, .int .i64 a8, .int .i64 a9, .int .i64 a10, .slice sa an ac, .int .i64 t.id, .int .i64 t.kind, .string t.text, .slice ar am ad]) rfl (Or.inl ⟨by rfl, ?_⟩) (by assumption) ?_
           · clear hHeld; intro Y hSw; obtain ⟨p0, p1, p2, p3, p4, p5, p6, p7, p8, p9, p10, p11, p12, p13, p14, p15⟩ := HA.out Y hSw; clear hSw; go_simp
           simp only [Act.put, pg]
           refine tkH (i := 10) (.agg #[.int .i8 b0, .int .i64 b1, .int .i64 b2, .int .i64 b3, .int .i64 b4, .int .i64 b5, .int .i64 b6, .int .i64 b7, .int .i64 b8, .int .i64 b9, .int .i64 b10, .slice sb_ bn bc, .int .i64 u.id, .int .i64 u.kind, .string u.text, .slice br bm bd]) rfl (Or.inl ⟨by rfl, ?_⟩) (by assumption) ?_
           · clear hHeld; intro Y hSw; obtain ⟨q0, q1, q2, q3, q4, q5, q6, q7, q8, q9, q10, q11, q12, q13, q14, q15⟩ := HB.out Y hSw; clear hSw; go_simp
           simp only [Act.put, pg]
           as_aux_lemma =>
            refine wpAnyH_ready (rs := [8]) (by kernel_rfl) (by simp) ?_
            refine AllReadyH.cons (o := _) rfl (fun K hK => ?_) AllReadyH.nil
            rw [if_pos (by rfl)]
            simp only [pg3]
            have HK := hH hK
            have HS := hH hHeld
            clear hK hHeld
            go_wp2_with fail
            refine ((H3.out HZ1.out HZ2.out) _ HS.out).mono ?_
            rintro e Z ⟨rfl, hz⟩
            have hSZ : SW Z := HT.out _ _ HS.out hz
            clear hz
            go_wp2_with fail
            refine HK.out _ _ hSZ (fun hHeld => ?_)
            clear HK HS hSZ
            as_aux_lemma =>
             refine wpAnyH_ready (rs := [11]) (by kernel_rfl) (by simp) ?_
             refine AllReadyH.cons (o := _) rfl (fun K hK => ?_) AllReadyH.nil
             rw [if_pos (by rfl)]
             simp only [pg3]
             have HK := hH hK
             have HS := hH hHeld
             clear hK hHeld
             go_wp2_with fail
             refine ((H4.out HZ1.out HZ2.out) _ HS.out).mono ?_
             rintro e Z ⟨rfl, hz⟩
             have hSZ : SW Z := HT.out _ _ HS.out hz
             clear hz
             go_wp2_with fail
             refine HK.out _ _ hSZ (fun hHeld => ?_)
             clear HK HS hSZ
             refine tkH (i := 12) (.bool true) rfl (Or.inl ⟨by rfl, ?_⟩) (by assumption) ?_
             · clear hHeld; intro Y hSw; clear hSw; go_simp
             simp only [Act.put, pg]
             refine tkH (i := 13) (.bool true) rfl (Or.inl ⟨by rfl, ?_⟩) (by assumption) ?_
             · clear hHeld; intro Y hSw; clear hSw; go_simp
             simp only [Act.put, pg]
             refine tkH (i := 14) (.bool true) rfl (Or.inl ⟨by rfl, ?_⟩) (by assumption) ?_
             · clear hHeld; intro Y hSw; clear hSw; go_simp
             simp only [Act.put, pg]
             as_aux_lemma =>
              refine tkH (i := 15) (.agg #[.int .i8 a0, .int .i64 a1, .int .i64 a2, .int .i64 a3, .int .i64 a4, .int .i64 a5, .int .i64 a6, .int .i64 a7, .int .i64 a8, .int .i64 a9, .int .i64 a10, .slice sa an ac, .int .i64 t.id, .int .i64 t.kind, .string t.text, .slice ar am ad]) rfl (Or.inl ⟨by rfl, ?_⟩) (by assumption) ?_
              · clear hHeld; intro Y hSw; obtain ⟨p0, p1, p2, p3, p4, p5, p6, p7, p8, p9, p10, p11, p12, p13, p14, p15⟩ := HA.out Y hSw; clear hSw; go_simp
              simp only [Act.put, pg]
              refine tkH (i := 16) (.agg #[.int .i8 a0, .int .i64 a1, .int .i64 a2, .int .i64 a3, .int .i64 a4, .int .i64 a5, .int .i64 a6, .int .i64 a7, .int .i64 a8, .int .i64 a9, .int .i64 a10, .slice sa an ac, .int .i64 t.id, .int .i64 t.kind, .string t.text, .slice ar am ad]) rfl (Or.inl ⟨by rfl, ?_⟩) (by assumption) ?_
              · clear hHeld; intro Y hSw; obtain ⟨p0, p1, p2, p3, p4, p5, p6, p7, p8, p9, p10, p11, p12, p13, p14, p15⟩ := HA.out Y hSw; clear hSw; go_simp
              simp only [Act.put, pg]
              as_aux_lemma =>
               refine wpAnyH_ready (rs := [17]) (by kernel_rfl) (by simp) ?_
               refine AllReadyH.cons (o := _) rfl (fun K hK => ?_) AllReadyH.nil
               rw [if_pos (by rfl)]
               simp only [pg3]
               have HK := hH hK
               have HS := hH hHeld
               clear hK hHeld
               go_wp2_with fail
               refine ((H5.out HZ1.out) _ HS.out).mono ?_
               rintro e Z ⟨rfl, hz⟩
               have hSZ : SW Z := HT.out _ _ HS.out hz
               clear hz
               go_wp2_with fail
               refine HK.out _ _ hSZ (fun hHeld => ?_)
               clear HK HS hSZ
               refine tkH (i := 18) (.bool true) rfl (Or.inl ⟨by rfl, ?_⟩) (by assumption) ?_
               · clear hHeld; intro Y hSw; clear hSw; go_simp
               simp only [Act.put, pg]
               refine tkH (i := 19) (.bool true) rfl (Or.inl ⟨by rfl, ?_⟩) (by assumption) ?_
               · clear hHeld; intro Y hSw; clear hSw; go_simp
               simp only [Act.put, pg]
               as_aux_lemma =>
                refine wpAnyH_ready (rs := [20]) (by kernel_rfl) (by simp) ?_
                refine AllReadyH.cons (o := _) rfl (fun K hK => ?_) AllReadyH.nil
                rw [if_pos (by rfl)]
                simp only [pg3]
                have HK := hH hK
                have HS := hH hHeld
                clear hK hHeld
                go_wp2_with fail
                refine (H6.out _ HS.out).mono ?_
                rintro e Z ⟨rfl, hz⟩
                have hSZ : SW Z := HT.out _ _ HS.out hz
                clear hz
                go_wp2_with fail
                refine HK.out _ _ hSZ (fun hHeld => ?_)
                clear HK HS hSZ
                refine tkH (i := 21) (.bool true) rfl (Or.inl ⟨by rfl, ?_⟩) (by assumption) ?_
                · clear hHeld; intro Y hSw; clear hSw; go_simp
                simp only [Act.put, pg]
                refine tkH (i := 22) (.bool true) rfl (Or.inl ⟨by rfl, ?_⟩) (by assumption) ?_
                · clear hHeld; intro Y hSw; clear hSw; go_simp
                simp only [Act.put, pg]
                refine wpAnyH_done (by kernel_rfl) ?_ _
                have HW := hH hHeld
                clear hHeld
                go_wp2_with fail
                go_ret
                exact ⟨rfl, HBW.out _ HW.out⟩
    · clear hg2
      as_aux_lemma =>
       go_wp2_with fail
       refine (kv _).mono ?_
       rintro e Z ⟨rfl, hz⟩
       have HZ := hH ((HBW.out _ HS2.out).trans (hz.mono (HBW.out _ HS2.out).size))
       clear hz
       go_wp2_with fail
       go_ret
       exact ⟨rfl, HZ.out⟩
 · clear hg1
   as_aux_lemma =>
    go_wp2_with fail
    refine (kv _).mono ?_
    rintro e Z ⟨rfl, hz⟩
    have HZ := hH ((HBW.out _ HS1.out).trans (hz.mono (HBW.out _ HS1.out).size))
    clear hz
    go_wp2_with fail
    go_ret
    exact ⟨rfl, HZ.out⟩
end Go.Proofs.YtchccbfljamjnaaGreat
