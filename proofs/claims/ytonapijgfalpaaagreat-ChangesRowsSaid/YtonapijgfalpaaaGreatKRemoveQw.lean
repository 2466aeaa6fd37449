/-
  .
-/
import Derived.Deep.Cut
import Derived.Test.YtonapijgfalpaaaGreatKOpenQw
import Derived.Test.YtonapijgfalpaaaGreatJPgQw
set_option maxRecDepth 100000
set_option maxHeartbeats 40000000
namespace Go.Proofs.YtonapijgfalpaaaGreat
open Go.RowKit Go.Shelf
set_option linter.unusedVariables false
set_option linter.unusedSimpArgs false
def ql (id : Int) (t : Tr) : Tr × Int := match zM id t with
 | none => (zA, 4)
 | some p => if p = [] then (zA, 90) else ((kN t p.dropLast (p.getLastD 0)).1, 0)
theorem Zu {id : Int} {t : Tr} (h : zM id t = none) : ql id t = (zA, 4) := by unfold ql; rw [h]
theorem Zn {id : Int} {t : Tr} (h : zM id t = some []) : ql id t = (zA, 90) := by unfold ql; rw [h]; rfl
theorem Y8 {id : Int} {t u v : Tr} {p : List Nat} {i : Nat} (h : zM id t = some (p ++ [i])) (hu : atT t p = some u) (hv : zH u.kids i = some v) : ql id t = (yj t p ⟨u.id, u.kind, u.text, yG u.kids i⟩, 0) := by
 have ht : kN t p i = (yj t p ⟨u.id, u.kind, u.text, yG u.kids i⟩, v) := by unfold kN; rw [hu]; simp only; rw [hv]
 have hd : (p ++ [i]).dropLast = p := by simp
 have hl : (p ++ [i]).getLastD 0 = i := by simp [List.getLastD_eq_getLast?]
 unfold ql; rw [h]; simp only
 rw [if_neg (by simp), hd, hl, ht]
theorem zbr (w : World) (S : Nat → Prop) (nv : Value) (t : Tr) (op id par at_ s1 s2 : Int) (tx s3 : ByteArray) (sa : Option Addr) (sn sc : Nat) (hS : ∀ y, S y → y < w.heap.size) (ht : zL w S nv t) (hsz : ze t.kids ≤ 100000) :
 Calls Tryz.prog 105 #[nv, .agg #[.int .i8 op, .int .i64 id, .int .i64 par, .int .i64 at_, .string tx, .int .i64 s1, .int .i64 s2, .string s3, .slice sa sn sc]] w (YN w S (ql id t)) := by
 obtain ⟨ka, tc, rfl, hcap, hk⟩ := ht
 obtain ⟨nk, hnk⟩ : ∃ nk, nk = zb t.kids := ⟨_, rfl⟩
 rw [← hnk]
 obtain ⟨B, hB⟩ : ∃ B, B = zo w [.cells #[.int .i64 t.id, .int .i64 t.kind, .string t.text, .slice ka nk tc] 37, .cells #[.int .i8 op, .int .i64 id, .int .i64 par, .int .i64 at_, .string tx, .int .i64 s1, .int .i64 s2, .string s3, .slice sa sn sc] 49, .cells #[.int .i64 0, .int .i64 0, .string ⟨#[]⟩, .slice none 0 0] 37] := ⟨_, rfl⟩
 have hb : Below w.heap.size w B := by rw [hB]; exact zk _ _
 have hs : B.heap.size = w.heap.size + 3 := by rw [hB]; exact zx _ _
 have ht0 : B.heap[w.heap.size]? = some (.cells #[.int .i64 t.id, .int .i64 t.kind, .string t.text, .slice ka nk tc] 37 (0, 0)) := by rw [hB]; exact zg _ _ 0 _ rfl
 have hs0 : B.heap[w.heap.size + 1]? = some (.cells #[.int .i8 op, .int .i64 id, .int .i64 par, .int .i64 at_, .string tx, .int .i64 s1, .int .i64 s2, .string s3, .slice sa sn sc] 49 (0, 0)) := by rw [hB]; exact zg _ _ 1 _ rfl
 have hr0 : B.heap[w.heap.size + 1 + 1]? = some (.cells #[.int .i64 0, .int .i64 0, .string ⟨#[]⟩, .slice none 0 0] 37 (0, 0)) := by rw [hB]; exact zg _ _ 2 _ rfl
 have htr : ∀ X, Below B.heap.size B X → zL X S (.agg #[.int .i64 t.id, .int .i64 t.kind, .string t.text, .slice ka nk tc]) t := fun X hX => ⟨ka, tc, by rw [hnk], by rw [hnk] at *; exact hcap, hk.below (hb.trans (hX.mono hb.size)) hS⟩
 have hSX : ∀ X, Below B.heap.size B X → ∀ y, S y → y < X.heap.size := fun X hX y hy => nL (hS y hy) (Nat.le_trans hb.size hX.size)
 have hpath : ∀ (i : Int) (X : World), Below B.heap.size B X → Calls Tryz.prog 124 #[.agg #[.int .i64 t.id, .int .i64 t.kind, .string t.text, .slice ka nk tc], .int .i64 i] X (zco X (zM i t)) := fun i X hX => Qj X S _ t i (hSX X hX) (htr X hX) (by omega)
 have hcell : ∀ X, Below B.heap.size B X → (X.cell? ⟨w.heap.size, 0, none⟩ = some (.int .i64 t.id) ∧ X.cell? ⟨w.heap.size, 1, none⟩ = some (.int .i64 t.kind) ∧ X.cell? ⟨w.heap.size, 2, none⟩ = some (.string t.text) ∧ X.cell? ⟨w.heap.size, 3, none⟩ = some (.slice ka nk tc)) ∧ X.cell? ⟨w.heap.size + 1, 1, none⟩ = some (.int .i64 id) := fun X hX => by
  have e0 := (hX.block _ (lt_of_heap ht0)).trans ht0
  have e1 := (hX.block _ (lt_of_heap hs0)).trans hs0
  exact ⟨zJ e0, by rw [cell_of_row _ _ 1 _ _ _ e1]; rfl⟩
 obtain ⟨pr, hpr⟩ : ∃ pr, pr = ql id t := ⟨_, rfl⟩
 rw [← hpr]
 have HP := hH hpath
 have HCE := hH hcell
 have HTR := hH (aN htr hSX)
 have HB := hH (aN hb (aN hs hr0))
 have HSZ := hH hsz
 have HBE := hH hB
 have HSW := hH hS
 have HPR := hH hpr
 clear hpath hcell htr hSX hb hs ht0 hs0 hr0 hS hk hcap hsz hnk hB hpr
 go_enter Tryz.func105, Tryz.ntmps105
 go_wp2_with fail
 change Calls _ _ _ (zo w [.cells #[.int .i64 t.id, .int .i64 t.kind, .string t.text, .slice ka nk tc] 37, .cells #[.int .i8 op, .int .i64 id, .int .i64 par, .int .i64 at_, .string tx, .int .i64 s1, .int .i64 s2, .string s3, .slice sa sn sc] 49, .cells #[.int .i64 0, .int .i64 0, .string ⟨#[]⟩, .slice none 0 0] 37]) _
 rw [← HBE.out]
 refine (HP.out id B (Below.refl _ _)).mono ?_
 rintro e W2 ⟨pv, rfl, hown, hb2⟩
 cases hpi : zM id t with
 | none =>
   clear hown
   simp only [Option.isSome_none]
   have hE : pr = (zA, 4) := by rw [HPR.out, Zu hpi]
   have hr3 := (hb2.block _ (lt_of_heap HB.out.2.2)).trans HB.out.2.2
   have hbz : Below w.heap.size w W2 := HB.out.1.trans (hb2.mono HB.out.1.size)
   obtain ⟨z0, z1, z2, z3⟩ := zJ hr3
   have zf : ∀ j, W2.frozen? ⟨w.heap.size + 1 + 1, j, none⟩ = false := fun j => frozen_of_row _ _ j _ _ hr3
   obtain ⟨V, hV, r1, r2, r3, r4, r5, r6⟩ := zu (u0 := .int .i64 0) (u1 := .int .i64 0) (u2 := .string ⟨#[]⟩) (u3 := .slice none 0 0) hr3
   have HE := hH (aN hE (aN hbz (aN hr3 (aN hV (aN r1 (aN r2 (aN r3 (aN r4 (aN r5 r6)))))))))
   clear hE hbz hr3 hV r1 r2 r3 r4 r5 r6
   go_wp2_with fail
   rw [← HE.out.2.2.2.1]
   obtain ⟨hE, hbz, hr3, hV, r1, r2, r3, r4, r5, r6⟩ := HE.out
   exact step_end (p := 4) (u := 5) rfl rfl (g := w.heap.size + 1 + 1) (y := zA) (m := 0) (kb := none) (kc := 0) ⟨r3.trans hbz.os, r4.trans hbz.tape, r5.trans hbz.output, by rw [r6]; exact hbz.size, fun k hk => (r2 k (by omega)).trans (hbz.block k hk)⟩ (by omega) ⟨_, _, r1, rfl⟩ rfl (Nat.le_refl _) True.intro (by rw [hE]) rfl (by rw [hE]; rfl)
 | some p =>
   rw [hpi] at hown
   simp only [Option.getD_some] at hown
   obtain ⟨pa, pc, rfl⟩ := zw hown
   obtain ⟨m, hm⟩ : ∃ m, m = (yE p).length := ⟨_, rfl⟩
   rw [← hm] at hown ⊢
   have hpl : m = p.length := by rw [hm, zN]
   simp only [Option.isSome_some]
   by_cases hp0 : p = []
   · have hm0 : m = 0 := by rw [hpl, hp0]; rfl
     subst hm0
     have hE0 : pr = (zA, 90) := by rw [HPR.out, Zn (by rw [hpi, hp0])]
     clear hown hm hpl hp0 hpi
     have hE : pr = (zA, 90) := hE0
     have hr3 := (hb2.block _ (lt_of_heap HB.out.2.2)).trans HB.out.2.2
     have hbz : Below w.heap.size w W2 := HB.out.1.trans (hb2.mono HB.out.1.size)
     obtain ⟨z0, z1, z2, z3⟩ := zJ hr3
     have zf : ∀ j, W2.frozen? ⟨w.heap.size + 1 + 1, j, none⟩ = false := fun j => frozen_of_row _ _ j _ _ hr3
     obtain ⟨V, hV, r1, r2, r3, r4, r5, r6⟩ := zu (u0 := .int .i64 0) (u1 := .int .i64 0) (u2 := .string ⟨#[]⟩) (u3 := .slice none 0 0) hr3
     have HE := hH (aN hE (aN hbz (aN hr3 (aN hV (aN r1 (aN r2 (aN r3 (aN r4 (aN r5 r6)))))))))
     clear hE hbz hr3 hV r1 r2 r3 r4 r5 r6
     go_wp2_with fail
     rw [← HE.out.2.2.2.1]
     obtain ⟨hE, hbz, hr3, hV, r1, r2, r3, r4, r5, r6⟩ := HE.out
     exact step_end (p := 4) (u := 5) rfl rfl (g := w.heap.size + 1 + 1) (y := zA) (m := 0) (kb := none) (kc := 0) ⟨r3.trans hbz.os, r4.trans hbz.tape, r5.trans hbz.output, by rw [r6]; exact hbz.size, fun k hk => (r2 k (by omega)).trans (hbz.block k hk)⟩ (by omega) ⟨_, _, r1, rfl⟩ rfl (Nat.le_refl _) True.intro (by rw [hE]) rfl (by rw [hE]; rfl)
   · obtain ⟨p', i, rfl⟩ : ∃ p' i, p = p' ++ [i] := ⟨p.dropLast, p.getLast hp0, (List.dropLast_concat_getLast hp0).symm⟩
     have hm1 : (m : Int) ≠ 0 := by rw [hpl]; simp; omega
     obtain ⟨v, hv0, hvid⟩ := qY id t _ hpi
     obtain ⟨u, hu, hv⟩ := Zm p' i t v hv0
     have hE := Y8 hpi hu hv
     rw [← HPR.out] at hE
     have htk := zdQ W2 S (.agg #[.int .i64 t.id, .int .i64 t.kind, .string t.text, .slice ka nk tc]) t u v p' i pa m pc (HTR.out.2 W2 hb2) (HTR.out.1 W2 hb2) (by have := HSZ.out; omega) hu hv (by rw [hpl, List.length_append]; rfl) ((Q9 (l := yE (p' ++ [i])) hown).1.kept fun y hy => ⟨hy.2, rfl⟩)
     obtain ⟨y, hy⟩ : ∃ y, y = yj t p' ⟨u.id, u.kind, u.text, yG u.kids i⟩ := ⟨_, rfl⟩
     rw [← hy] at htk hE
     obtain ⟨⟨n0, n1, n2, n3⟩, m1⟩ := HCE.out W2 hb2
     have HTK := hH htk
     have HG := hH (aN hE hb2)
     clear htk hown hm hpl hp0 hpi hu hv hv0 hvid hE hb2 hy
     go_wp2_with fail
     refine HTK.out.mono ?_
     rintro e X ⟨_, _, rfl, ⟨kb, kc, rfl, hkc, hkk⟩, ⟨va, vc, rfl, _, _⟩, hbx⟩
     obtain ⟨yn, hyn⟩ : ∃ yn, yn = zb y.kids := ⟨_, rfl⟩
     obtain ⟨vn, hvn⟩ : ∃ vn, vn = zb v.kids := ⟨_, rfl⟩
     rw [← hyn, ← hvn]
     rw [← hyn] at hkc
     have hbX : Below B.heap.size B X := HG.out.2.trans (hbx.mono HG.out.2.size)
     obtain ⟨X2, hX2⟩ : ∃ X2, X2 = zo X [.cells #[.int .i64 y.id, .int .i64 y.kind, .string y.text, .slice kb yn kc] 37, .cells #[.int .i64 v.id, .int .i64 v.kind, .string v.text, .slice va vn vc] 37] := ⟨_, rfl⟩
     have hb2 : Below X.heap.size X X2 := by rw [hX2]; exact zk _ _
     have hX2s : X2.heap.size = X.heap.size + 2 := by rw [hX2]; exact zx _ _
     have hbX2 : Below B.heap.size B X2 := hbX.trans (hb2.mono hbX.size)
     have hyX : X2.heap[X.heap.size]? = some (.cells #[.int .i64 y.id, .int .i64 y.kind, .string y.text, .slice kb yn kc] 37 (0, 0)) := by rw [hX2]; exact zg _ _ 0 _ rfl
     obtain ⟨y0, y1, y2, y3⟩ := zJ hyX
     have hr3 := (hbX2.block _ (lt_of_heap HB.out.2.2)).trans HB.out.2.2
     have hbz : Below w.heap.size w X2 := HB.out.1.trans (hbX2.mono HB.out.1.size)
     obtain ⟨z0, z1, z2, z3⟩ := zJ hr3
     have zf : ∀ j, X2.frozen? ⟨w.heap.size + 1 + 1, j, none⟩ = false := fun j => frozen_of_row _ _ j _ _ hr3
     obtain ⟨V, hV, r1, r2, r3, r4, r5, r6⟩ := zu (u0 := .int .i64 y.id) (u1 := .int .i64 y.kind) (u2 := .string y.text) (u3 := .slice kb yn kc) hr3
     have hBw := HB.out.2.1
     have hWB := HG.out.2.size
     have hok : zF V (fun z => S z ∨ w.heap.size ≤ z ∧ z < V.heap.size) y.kids kb := hkk.kept fun z hz => by
      have hSz := HTR.out.2 B (Below.refl _ _)
      have hxs := hbx.size
      have hz2 : (S z ∨ w.heap.size ≤ z ∧ z < V.heap.size) ∧ z < X.heap.size ∧ z ≠ w.heap.size + 1 + 1 := by
       rcases hz with hz | hz
       · have h1 := HSW.out z hz; have h2 := hSz z hz
         exact ⟨Or.inl hz, by omega, by omega⟩
       · exact ⟨Or.inr ⟨by omega, by omega⟩, by omega, by omega⟩
      exact ⟨hz2.1, (r2 z hz2.2.2).trans (hb2.block z hz2.2.1)⟩
     have HE := hH (aN hbz (aN hV (aN r1 (aN r2 (aN r3 (aN r4 (aN r5 (aN r6 (aN hok (aN hkc hyn))))))))))
     have HX2 := hH hX2
     clear hbX hb2 hX2s hbX2 hyX hr3 hbz hV r1 r2 r3 r4 r5 r6 hBw hWB hok hkk hkc hyn hvn hbx hX2 n0 n1 n2 n3 m1
     go_upto_region 7 with fail
     change Code.wp _ _ _ _ (zo X [.cells #[.int .i64 y.id, .int .i64 y.kind, .string y.text, .slice kb yn kc] 37, .cells #[.int .i64 v.id, .int .i64 v.kind, .string v.text, .slice va vn vc] 37])
     rw [← HX2.out]
     go_wp2_with fail
     rw [← HE.out.2.1]
     obtain ⟨hbz, hV, r1, r2, r3, r4, r5, r6, hok, hkc, hyn⟩ := HE.out
     exact step_end (p := 4) (u := 5) rfl rfl (g := w.heap.size + 1 + 1) (y := y) (m := yn) (kb := kb) (kc := kc) ⟨r3.trans hbz.os, r4.trans hbz.tape, r5.trans hbz.output, by rw [r6]; exact hbz.size, fun k hk => (r2 k (by omega)).trans (hbz.block k hk)⟩ (by omega) ⟨_, _, r1, rfl⟩ hyn (by rw [← hyn]; exact hkc) hok (by rw [HG.out.1]) rfl (by rw [HG.out.1]; rfl)
end Go.Proofs.YtonapijgfalpaaaGreat
