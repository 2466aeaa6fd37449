/-
  .
-/
import Derived.Deep.Cut
import Derived.Test.YtchccbfljamjnaaGreatIPlainQm
import Derived.Test.YtchccbfljamjnaaGreatNCopyQm
import Derived.Test.YtchccbfljamjnaaGreatJPgQm
set_option maxRecDepth 100000
set_option maxHeartbeats 40000000
namespace Go.Proofs.YtchccbfljamjnaaGreat
open Go.RowKit Go.Shelf
set_option linter.unusedVariables false
set_option linter.unusedSimpArgs false
theorem Z6 (w : World) (S : Nat → Prop) (nv : Value) (t : Tr) (hS : ∀ y, S y → y < w.heap.size) (ht : qj w S nv t) (hsz : zb t.kids ≤ 100000) : Calls Tryz.prog 113 #[nv] w (vF w S t) := by
 refine (Q0 200000 w S nv t (by omega) (by omega) hS ht).mono ?_
 rintro e w' ⟨v, rfl, h, hb⟩
 exact ⟨v, rfl, h.kept fun y hy => ⟨⟨Or.inr hy.1, hy.2⟩, rfl⟩, hb⟩
theorem zav (w : World) (S : Nat → Prop) (id par at_ s1 s2 : Int) (tx s3 : ByteArray) (sa : Option Addr) (sn sc : Nat) :
 Calls Tryz.prog 67 #[.agg #[.int .i8 2, .int .i64 id, .int .i64 par, .int .i64 at_, .string tx, .int .i64 s1, .int .i64 s2, .string s3, .slice sa sn sc]] w (zU w S ⟨2, id, 0, 0, ⟨#[]⟩, ze⟩) := by
 obtain ⟨B, hB⟩ : ∃ B, B = zl w [.cells #[.int .i8 2, .int .i64 id, .int .i64 par, .int .i64 at_, .string tx, .int .i64 s1, .int .i64 s2, .string s3, .slice sa sn sc] 41, .cells #[.int .i8 0, .int .i64 0, .int .i64 0, .int .i64 0, .string ⟨#[]⟩, .int .i64 0, .int .i64 0, .string ⟨#[]⟩, .slice none 0 0] 41] := ⟨_, rfl⟩
 have hb : Below w.heap.size w B := by rw [hB]; exact zh _ _
 have hs0 : B.heap[w.heap.size]? = some (.cells #[.int .i8 2, .int .i64 id, .int .i64 par, .int .i64 at_, .string tx, .int .i64 s1, .int .i64 s2, .string s3, .slice sa sn sc] 41 (0, 0)) := by rw [hB]; exact zg _ _ 0 _ rfl
 have hr0 : B.heap[w.heap.size + 1]? = some (.cells #[.int .i8 0, .int .i64 0, .int .i64 0, .int .i64 0, .string ⟨#[]⟩, .int .i64 0, .int .i64 0, .string ⟨#[]⟩, .slice none 0 0] 41 (0, 0)) := by rw [hB]; exact zg _ _ 1 _ rfl
 obtain ⟨V9, hV9, v1, v2, v3, v4, v5, v6⟩ := yE (u0 := .int .i8 2) (u1 := .int .i64 id) (u2 := .int .i64 0) (u3 := .int .i64 0) (u4 := .string ⟨#[]⟩) (u5 := .int .i64 0) (u6 := .int .i64 0) (u7 := .string ⟨#[]⟩) (u8 := .slice none 0 0) hr0
 obtain ⟨m0, m1, m2, m3, m4, m5, m6, m7, m8⟩ := yM hs0
 obtain ⟨z0, z1, z2, z3, z4, z5, z6, z7, z8⟩ := yM hr0
 have zf : ∀ j, B.frozen? ⟨w.heap.size + 1, j, none⟩ = false := fun j => frozen_of_row _ _ j _ _ hr0
 have HEND : Hid (zU w S ⟨2, id, 0, 0, ⟨#[]⟩, ze⟩ (.returned (.agg #[.int .i8 2, .int .i64 id, .int .i64 0, .int .i64 0, .string ⟨#[]⟩, .int .i64 0, .int .i64 0, .string ⟨#[]⟩, .slice none 0 0])) V9) := hH ⟨_, rfl, ⟨none, 0, rfl, Nat.le_refl _, True.intro⟩, ⟨v3.trans hb.os, v4.trans hb.tape, v5.trans hb.output, by rw [v6]; exact hb.size, fun y hy => (v2 y (by omega)).trans (hb.block y hy)⟩⟩
 have HV9 := hH (aN hV9 v1)
 have HBE := hH hB
 clear hb hs0 hr0 hB hV9 v1 v2 v3 v4 v5 v6
 go_enter Tryz.func67, Tryz.ntmps67
 go_upto_region 1 with fail
 change Code.wp _ _ _ _ (zl w [.cells #[.int .i8 2, .int .i64 id, .int .i64 par, .int .i64 at_, .string tx, .int .i64 s1, .int .i64 s2, .string s3, .slice sa sn sc] 41, .cells #[.int .i8 0, .int .i64 0, .int .i64 0, .int .i64 0, .string ⟨#[]⟩, .int .i64 0, .int .i64 0, .string ⟨#[]⟩, .slice none 0 0] 41])
 rw [← HBE.out]
 clear HBE
 go_wp2_with fail
 rw [← HV9.out.1]
 refine bodyPost_ret (zC rfl _ _ (w.heap.size + 1) 41 _ (0, 0) _ rfl HV9.out.2 Tryz.underlying41 rfl (by kernel_rfl)) rfl ?_
 exact HEND.out
theorem zaw (w : World) (S : Nat → Prop) (id par at_ s1 s2 : Int) (tx s3 : ByteArray) (sa : Option Addr) (sn sc : Nat) :
 Calls Tryz.prog 67 #[.agg #[.int .i8 3, .int .i64 id, .int .i64 par, .int .i64 at_, .string tx, .int .i64 s1, .int .i64 s2, .string s3, .slice sa sn sc]] w (zU w S ⟨3, id, par, at_, ⟨#[]⟩, ze⟩) := by
 obtain ⟨B, hB⟩ : ∃ B, B = zl w [.cells #[.int .i8 3, .int .i64 id, .int .i64 par, .int .i64 at_, .string tx, .int .i64 s1, .int .i64 s2, .string s3, .slice sa sn sc] 41, .cells #[.int .i8 0, .int .i64 0, .int .i64 0, .int .i64 0, .string ⟨#[]⟩, .int .i64 0, .int .i64 0, .string ⟨#[]⟩, .slice none 0 0] 41] := ⟨_, rfl⟩
 have hb : Below w.heap.size w B := by rw [hB]; exact zh _ _
 have hs0 : B.heap[w.heap.size]? = some (.cells #[.int .i8 3, .int .i64 id, .int .i64 par, .int .i64 at_, .string tx, .int .i64 s1, .int .i64 s2, .string s3, .slice sa sn sc] 41 (0, 0)) := by rw [hB]; exact zg _ _ 0 _ rfl
 have hr0 : B.heap[w.heap.size + 1]? = some (.cells #[.int .i8 0, .int .i64 0, .int .i64 0, .int .i64 0, .string ⟨#[]⟩, .int .i64 0, .int .i64 0, .string ⟨#[]⟩, .slice none 0 0] 41 (0, 0)) := by rw [hB]; exact zg _ _ 1 _ rfl
 obtain ⟨V9, hV9, v1, v2, v3, v4, v5, v6⟩ := yE (u0 := .int .i8 3) (u1 := .int .i64 id) (u2 := .int .i64 par) (u3 := .int .i64 at_) (u4 := .string ⟨#[]⟩) (u5 := .int .i64 0) (u6 := .int .i64 0) (u7 := .string ⟨#[]⟩) (u8 := .slice none 0 0) hr0
 obtain ⟨m0, m1, m2, m3, m4, m5, m6, m7, m8⟩ := yM hs0
 obtain ⟨z0, z1, z2, z3, z4, z5, z6, z7, z8⟩ := yM hr0
 have zf : ∀ j, B.frozen? ⟨w.heap.size + 1, j, none⟩ = false := fun j => frozen_of_row _ _ j _ _ hr0
 have HEND : Hid (zU w S ⟨3, id, par, at_, ⟨#[]⟩, ze⟩ (.returned (.agg #[.int .i8 3, .int .i64 id, .int .i64 par, .int .i64 at_, .string ⟨#[]⟩, .int .i64 0, .int .i64 0, .string ⟨#[]⟩, .slice none 0 0])) V9) := hH ⟨_, rfl, ⟨none, 0, rfl, Nat.le_refl _, True.intro⟩, ⟨v3.trans hb.os, v4.trans hb.tape, v5.trans hb.output, by rw [v6]; exact hb.size, fun y hy => (v2 y (by omega)).trans (hb.block y hy)⟩⟩
 have HV9 := hH (aN hV9 v1)
 have HBE := hH hB
 clear hb hs0 hr0 hB hV9 v1 v2 v3 v4 v5 v6
 go_enter Tryz.func67, Tryz.ntmps67
 go_upto_region 1 with fail
 change Code.wp _ _ _ _ (zl w [.cells #[.int .i8 3, .int .i64 id, .int .i64 par, .int .i64 at_, .string tx, .int .i64 s1, .int .i64 s2, .string s3, .slice sa sn sc] 41, .cells #[.int .i8 0, .int .i64 0, .int .i64 0, .int .i64 0, .string ⟨#[]⟩, .int .i64 0, .int .i64 0, .string ⟨#[]⟩, .slice none 0 0] 41])
 rw [← HBE.out]
 clear HBE
 go_wp2_with fail
 rw [← HV9.out.1]
 refine bodyPost_ret (zC rfl _ _ (w.heap.size + 1) 41 _ (0, 0) _ rfl HV9.out.2 Tryz.underlying41 rfl (by kernel_rfl)) rfl ?_
 exact HEND.out
theorem zax (w : World) (S : Nat → Prop) (id par at_ s1 s2 : Int) (tx s3 : ByteArray) (sa : Option Addr) (sn sc : Nat) :
 Calls Tryz.prog 67 #[.agg #[.int .i8 4, .int .i64 id, .int .i64 par, .int .i64 at_, .string tx, .int .i64 s1, .int .i64 s2, .string s3, .slice sa sn sc]] w (zU w S ⟨4, id, 0, 0, tx, ze⟩) := by
 obtain ⟨B, hB⟩ : ∃ B, B = zl w [.cells #[.int .i8 4, .int .i64 id, .int .i64 par, .int .i64 at_, .string tx, .int .i64 s1, .int .i64 s2, .string s3, .slice sa sn sc] 41, .cells #[.int .i8 0, .int .i64 0, .int .i64 0, .int .i64 0, .string ⟨#[]⟩, .int .i64 0, .int .i64 0, .string ⟨#[]⟩, .slice none 0 0] 41] := ⟨_, rfl⟩
 have hb : Below w.heap.size w B := by rw [hB]; exact zh _ _
 have hs0 : B.heap[w.heap.size]? = some (.cells #[.int .i8 4, .int .i64 id, .int .i64 par, .int .i64 at_, .string tx, .int .i64 s1, .int .i64 s2, .string s3, .slice sa sn sc] 41 (0, 0)) := by rw [hB]; exact zg _ _ 0 _ rfl
 have hr0 : B.heap[w.heap.size + 1]? = some (.cells #[.int .i8 0, .int .i64 0, .int .i64 0, .int .i64 0, .string ⟨#[]⟩, .int .i64 0, .int .i64 0, .string ⟨#[]⟩, .slice none 0 0] 41 (0, 0)) := by rw [hB]; exact zg _ _ 1 _ rfl
 obtain ⟨V9, hV9, v1, v2, v3, v4, v5, v6⟩ := yE (u0 := .int .i8 4) (u1 := .int .i64 id) (u2 := .int .i64 0) (u3 := .int .i64 0) (u4 := .string tx) (u5 := .int .i64 0) (u6 := .int .i64 0) (u7 := .string ⟨#[]⟩) (u8 := .slice none 0 0) hr0
 obtain ⟨m0, m1, m2, m3, m4, m5, m6, m7, m8⟩ := yM hs0
 obtain ⟨z0, z1, z2, z3, z4, z5, z6, z7, z8⟩ := yM hr0
 have zf : ∀ j, B.frozen? ⟨w.heap.size + 1, j, none⟩ = false := fun j => frozen_of_row _ _ j _ _ hr0
 have HEND : Hid (zU w S ⟨4, id, 0, 0, tx, ze⟩ (.returned (.agg #[.int .i8 4, .int .i64 id, .int .i64 0, .int .i64 0, .string tx, .int .i64 0, .int .i64 0, .string ⟨#[]⟩, .slice none 0 0])) V9) := hH ⟨_, rfl, ⟨none, 0, rfl, Nat.le_refl _, True.intro⟩, ⟨v3.trans hb.os, v4.trans hb.tape, v5.trans hb.output, by rw [v6]; exact hb.size, fun y hy => (v2 y (by omega)).trans (hb.block y hy)⟩⟩
 have HV9 := hH (aN hV9 v1)
 have HBE := hH hB
 clear hb hs0 hr0 hB hV9 v1 v2 v3 v4 v5 v6
 go_enter Tryz.func67, Tryz.ntmps67
 go_upto_region 1 with fail
 change Code.wp _ _ _ _ (zl w [.cells #[.int .i8 4, .int .i64 id, .int .i64 par, .int .i64 at_, .string tx, .int .i64 s1, .int .i64 s2, .string s3, .slice sa sn sc] 41, .cells #[.int .i8 0, .int .i64 0, .int .i64 0, .int .i64 0, .string ⟨#[]⟩, .int .i64 0, .int .i64 0, .string ⟨#[]⟩, .slice none 0 0] 41])
 rw [← HBE.out]
 clear HBE
 go_wp2_with fail
 rw [← HV9.out.1]
 refine bodyPost_ret (zC rfl _ _ (w.heap.size + 1) 41 _ (0, 0) _ rfl HV9.out.2 Tryz.underlying41 rfl (by kernel_rfl)) rfl ?_
 exact HEND.out
theorem zau (w : World) (Sx : Nat → Prop) (x : Tr) (id par at_ : Int) (tx : ByteArray) (sa : Option Addr) (sn sc : Nat) (hSx : ∀ y, Sx y → y < w.heap.size) (hx : qj w Sx (.agg #[.int .i64 x.id, .int .i64 x.kind, .string x.text, .slice sa sn sc]) x) (hxz : zb x.kids ≤ 100000) :
 Calls Tryz.prog 67 #[.agg #[.int .i8 1, .int .i64 id, .int .i64 par, .int .i64 at_, .string tx, .int .i64 x.id, .int .i64 x.kind, .string x.text, .slice sa sn sc]] w (zU w Sx ⟨1, 0, par, at_, ⟨#[]⟩, x⟩) := by
 obtain ⟨B, hB⟩ : ∃ B, B = zl w [.cells #[.int .i8 1, .int .i64 id, .int .i64 par, .int .i64 at_, .string tx, .int .i64 x.id, .int .i64 x.kind, .string x.text, .slice sa sn sc] 41, .cells #[.int .i8 0, .int .i64 0, .int .i64 0, .int .i64 0, .string ⟨#[]⟩, .int .i64 0, .int .i64 0, .string ⟨#[]⟩, .slice none 0 0] 41] := ⟨_, rfl⟩
 have hb : Below w.heap.size w B := by rw [hB]; exact zh _ _
 have hs : B.heap.size = w.heap.size + 2 := by rw [hB]; exact yL _ _
 have hs0 : B.heap[w.heap.size]? = some (.cells #[.int .i8 1, .int .i64 id, .int .i64 par, .int .i64 at_, .string tx, .int .i64 x.id, .int .i64 x.kind, .string x.text, .slice sa sn sc] 41 (0, 0)) := by rw [hB]; exact zg _ _ 0 _ rfl
 have hr0 : B.heap[w.heap.size + 1]? = some (.cells #[.int .i8 0, .int .i64 0, .int .i64 0, .int .i64 0, .string ⟨#[]⟩, .int .i64 0, .int .i64 0, .string ⟨#[]⟩, .slice none 0 0] 41 (0, 0)) := by rw [hB]; exact zg _ _ 1 _ rfl
 have hcp : ∀ X, Tc B X (w.heap.size + 1) → Calls Tryz.prog 113 #[.agg #[.int .i64 x.id, .int .i64 x.kind, .string x.text, .slice sa sn sc]] X (vF X Sx x) := fun X hX => Z6 X Sx _ x (fun y hy => nL (hSx y hy) (Nat.le_trans hb.size hX.size)) (hx.kept fun y hy => ⟨hy, (hX.block y (by have := hSx y hy; omega) (by have := hSx y hy; omega)).trans (hb.block y (hSx y hy))⟩) hxz
 obtain ⟨m0, m1, m2, m3, m4, m5, m6, m7, m8⟩ := yM hs0
 have HCP := hH hcp
 have HST := hH hs0
 have HSX := hH hSx
 have HB := hH (aN hb (aN hs hr0))
 have HBE := hH hB
 clear hcp hs0 hb hs hr0 hB hx hSx hxz
 go_enter Tryz.func67, Tryz.ntmps67
 go_upto_region 1 with fail
 change Code.wp _ _ _ _ (zl w [.cells #[.int .i8 1, .int .i64 id, .int .i64 par, .int .i64 at_, .string tx, .int .i64 x.id, .int .i64 x.kind, .string x.text, .slice sa sn sc] 41, .cells #[.int .i8 0, .int .i64 0, .int .i64 0, .int .i64 0, .string ⟨#[]⟩, .int .i64 0, .int .i64 0, .string ⟨#[]⟩, .slice none 0 0] 41])
 rw [← HBE.out]
 clear HBE
 go_upto_region 3 with fail
 clear m0 m1 m2 m3 m4 m5 m6 m7 m8
 refine wp_region_held_drew (S := fun X => Tc B X (w.heap.size + 1)) (by kernel_rfl) (Tc.of (below_drewN (Below.refl _ B) 1)) (fun hHeld => ?_)
 refine tkH (i := 0) (.pointer (some ⟨w.heap.size, 0, none⟩)) rfl (Or.inl ⟨by rfl, fun X _ => by clear hHeld; go_simp⟩) (by assumption) ?_
 simp only [Act.put, pg]
 refine tkH (i := 1) (.int .i8 1) rfl (Or.inl ⟨by rfl, ?_⟩) (by assumption) ?_
 · clear hHeld; intro X hSw; obtain ⟨m0, m1, m2, m3, m4, m5, m6, m7, m8⟩ := yM ((hSw.block _ (lt_of_heap HST.out) (by omega)).trans HST.out); clear hSw; go_simp
 simp only [Act.put, pg]
 refine tkH (i := 2) (.pointer (some ⟨w.heap.size, 2, none⟩)) rfl (Or.inl ⟨by rfl, fun X _ => by clear hHeld; go_simp⟩) (by assumption) ?_
 simp only [Act.put, pg]
 refine tkH (i := 3) (.int .i64 par) rfl (Or.inl ⟨by rfl, ?_⟩) (by assumption) ?_
 · clear hHeld; intro X hSw; obtain ⟨m0, m1, m2, m3, m4, m5, m6, m7, m8⟩ := yM ((hSw.block _ (lt_of_heap HST.out) (by omega)).trans HST.out); clear hSw; go_simp
 simp only [Act.put, pg]
 refine tkH (i := 4) (.pointer (some ⟨w.heap.size, 3, none⟩)) rfl (Or.inl ⟨by rfl, fun X _ => by clear hHeld; go_simp⟩) (by assumption) ?_
 simp only [Act.put, pg]
 refine tkH (i := 5) (.int .i64 at_) rfl (Or.inl ⟨by rfl, ?_⟩) (by assumption) ?_
 · clear hHeld; intro X hSw; obtain ⟨m0, m1, m2, m3, m4, m5, m6, m7, m8⟩ := yM ((hSw.block _ (lt_of_heap HST.out) (by omega)).trans HST.out); clear hSw; go_simp
 simp only [Act.put, pg]
 refine tkH (i := 6) (.pointer (some ⟨w.heap.size, 5, none⟩)) rfl (Or.inl ⟨by rfl, fun X _ => by clear hHeld; go_simp⟩) (by assumption) ?_
 simp only [Act.put, pg]
 refine tkH (i := 7) (.agg #[.int .i64 x.id, .int .i64 x.kind, .string x.text, .slice sa sn sc]) rfl (Or.inl ⟨by rfl, ?_⟩) (by assumption) ?_
 · clear hHeld; intro X hSw; obtain ⟨m0, m1, m2, m3, m4, m5, m6, m7, m8⟩ := yM ((hSw.block _ (lt_of_heap HST.out) (by omega)).trans HST.out); clear hSw; go_simp
 simp only [Act.put, pg]
 refine wpAnyH_ready (rs := [8]) (by kernel_rfl) (by simp) ?_
 refine AllReadyH.cons (o := _) rfl (fun K hK => ?_) AllReadyH.nil
 rw [if_pos (by rfl)]
 simp only [pg3]
 have HK := hH hK
 have HS := hH hHeld
 clear hK hHeld
 go_wp2_with (go_at_call 113; refine (HCP.out _ HS.out).mono ?_; rintro e w5 ⟨_, rfl, ⟨yb, yc, rfl, hyc, hyk⟩, hb5⟩; have H5 := hH (aN hyc (aN hyk (aN hb5 ((hb5.block _ (lt_of_heap HB.out.2.2)).trans HB.out.2.2)))); have HS5 := hH (HS.out.then hb5); clear hyc hyk hb5)
 refine HK.out _ _ HS5.out (fun hHeld => ?_)
 clear HK HS
 obtain ⟨xn, hxn⟩ : ∃ xn, xn = foLen x.kids := ⟨_, rfl⟩
 refine tkH (i := 9) (.agg #[.int .i8 1, .int .i64 0, .int .i64 par, .int .i64 at_, .string ⟨#[]⟩, .int .i64 x.id, .int .i64 x.kind, .string x.text, .slice yb (foLen x.kids) yc]) rfl (Or.inl ⟨by rfl, fun X _ => by clear hHeld; go_simp⟩) (by assumption) ?_
 simp only [Act.put, pg]
 refine wpAnyH_ready (rs := [10]) (by kernel_rfl) (by simp) ?_
 refine AllReadyH.cons (o := _) rfl (fun K hK => ?_) AllReadyH.nil
 rw [if_pos (by rfl)]
 simp only [pg3]
 have HK := hH hK
 have HS := hH hHeld
 clear hK hHeld
 have hz := H5.out.2.2.2
 obtain ⟨z0, z1, z2, z3, z4, z5, z6, z7, z8⟩ := yM hz
 have zf : ∀ j, w5.frozen? ⟨w.heap.size + 1, j, none⟩ = false := fun j => frozen_of_row _ _ j _ _ hz
 obtain ⟨V9, hV9, v1, v2, v3, v4, v5, v6⟩ := yE (u0 := .int .i8 1) (u1 := .int .i64 0) (u2 := .int .i64 par) (u3 := .int .i64 at_) (u4 := .string ⟨#[]⟩) (u5 := .int .i64 x.id) (u6 := .int .i64 x.kind) (u7 := .string x.text) (u8 := .slice yb (foLen x.kids) yc) hz
 have hT9 : Tc B V9 (w.heap.size + 1) := ⟨v3.trans HS5.out.os, v4.trans HS5.out.tape, v5.trans HS5.out.output, by rw [v6]; exact HS5.out.size, fun y hy hn => (v2 y hn).trans (HS5.out.block y hy hn)⟩
 have hE : zU w Sx ⟨1, 0, par, at_, ⟨#[]⟩, x⟩ (.returned (.agg #[.int .i8 1, .int .i64 0, .int .i64 par, .int .i64 at_, .string ⟨#[]⟩, .int .i64 x.id, .int .i64 x.kind, .string x.text, .slice yb (foLen x.kids) yc])) V9 := ⟨_, rfl, ⟨yb, yc, rfl, H5.out.1, ?kept⟩, hT9.below HB.out.1 (by omega)⟩
 case kept =>
  exact H5.out.2.1.kept fun y hy => by
   have hy1 : Sx y ∨ B.heap.size ≤ y := hy.1
   have hne : y ≠ w.heap.size + 1 := by
    rcases hy1 with h | h
    · have := HSX.out y h; omega
    · have := HB.out.2.1; omega
   exact ⟨⟨hy1.imp (fun h => h) (fun h => by have := HB.out.2.1; omega), by rw [v6]; exact hy.2⟩, v2 y hne⟩
 have HE := hH (aN hE (aN hV9 (aN v1 hT9)))
 clear hz hV9 v1 v2 v3 v4 v5 v6 hT9 hE
 go_wp2_with fail
 rw [← HE.out.2.1]
 refine HK.out _ _ HE.out.2.2.2 (fun hHeld => ?_)
 clear HK HS z0 z1 z2 z3 z4 z5 z6 z7 z8 zf H5 HS5
 refine wpAnyH_done (by kernel_rfl) ?_ _
 clear hHeld
 go_wp2_with fail
 refine bodyPost_ret (zC rfl _ _ (w.heap.size + 1) 41 _ (0, 0) _ rfl HE.out.2.2.1 Tryz.underlying41 rfl (by kernel_rfl)) rfl ?_
 exact HE.out.1
theorem zat (w : World) (S : Nat → Prop) (op id par at_ s1 s2 : Int) (tx s3 : ByteArray) (sa : Option Addr) (sn sc : Nat) (h1 : ¬ op = 1) (h2 : ¬ op = 2) (h3 : ¬ op = 3) (h4 : ¬ op = 4) :
 Calls Tryz.prog 67 #[.agg #[.int .i8 op, .int .i64 id, .int .i64 par, .int .i64 at_, .string tx, .int .i64 s1, .int .i64 s2, .string s3, .slice sa sn sc]] w (zU w S ⟨op, 0, 0, 0, ⟨#[]⟩, ze⟩) := by
 obtain ⟨B, hB⟩ : ∃ B, B = zl w [.cells #[.int .i8 op, .int .i64 id, .int .i64 par, .int .i64 at_, .string tx, .int .i64 s1, .int .i64 s2, .string s3, .slice sa sn sc] 41, .cells #[.int .i8 0, .int .i64 0, .int .i64 0, .int .i64 0, .string ⟨#[]⟩, .int .i64 0, .int .i64 0, .string ⟨#[]⟩, .slice none 0 0] 41] := ⟨_, rfl⟩
 have hb : Below w.heap.size w B := by rw [hB]; exact zh _ _
 have hs0 : B.heap[w.heap.size]? = some (.cells #[.int .i8 op, .int .i64 id, .int .i64 par, .int .i64 at_, .string tx, .int .i64 s1, .int .i64 s2, .string s3, .slice sa sn sc] 41 (0, 0)) := by rw [hB]; exact zg _ _ 0 _ rfl
 have hr0 : B.heap[w.heap.size + 1]? = some (.cells #[.int .i8 0, .int .i64 0, .int .i64 0, .int .i64 0, .string ⟨#[]⟩, .int .i64 0, .int .i64 0, .string ⟨#[]⟩, .slice none 0 0] 41 (0, 0)) := by rw [hB]; exact zg _ _ 1 _ rfl
 obtain ⟨V9, hV9, v1, v2, v3, v4, v5, v6⟩ := yE (u0 := .int .i8 op) (u1 := .int .i64 0) (u2 := .int .i64 0) (u3 := .int .i64 0) (u4 := .string ⟨#[]⟩) (u5 := .int .i64 0) (u6 := .int .i64 0) (u7 := .string ⟨#[]⟩) (u8 := .slice none 0 0) hr0
 obtain ⟨m0, m1, m2, m3, m4, m5, m6, m7, m8⟩ := yM hs0
 obtain ⟨z0, z1, z2, z3, z4, z5, z6, z7, z8⟩ := yM hr0
 have zf : ∀ j, B.frozen? ⟨w.heap.size + 1, j, none⟩ = false := fun j => frozen_of_row _ _ j _ _ hr0
 have HEND : Hid (zU w S ⟨op, 0, 0, 0, ⟨#[]⟩, ze⟩ (.returned (.agg #[.int .i8 op, .int .i64 0, .int .i64 0, .int .i64 0, .string ⟨#[]⟩, .int .i64 0, .int .i64 0, .string ⟨#[]⟩, .slice none 0 0])) V9) := hH ⟨_, rfl, ⟨none, 0, rfl, Nat.le_refl _, True.intro⟩, ⟨v3.trans hb.os, v4.trans hb.tape, v5.trans hb.output, by rw [v6]; exact hb.size, fun y hy => (v2 y (by omega)).trans (hb.block y hy)⟩⟩
 have HV9 := hH (aN hV9 v1)
 have HBE := hH hB
 have q1 : (op == 1) = false := by simpa using h1
 have q2 : (op == 2) = false := by simpa using h2
 have q3 : (op == 3) = false := by simpa using h3
 have q4 : (op == 4) = false := by simpa using h4
 clear h1 h2 h3 h4
 clear hb hs0 hr0 hB hV9 v1 v2 v3 v4 v5 v6
 go_enter Tryz.func67, Tryz.ntmps67
 go_upto_region 1 with fail
 change Code.wp _ _ _ _ (zl w [.cells #[.int .i8 op, .int .i64 id, .int .i64 par, .int .i64 at_, .string tx, .int .i64 s1, .int .i64 s2, .string s3, .slice sa sn sc] 41, .cells #[.int .i8 0, .int .i64 0, .int .i64 0, .int .i64 0, .string ⟨#[]⟩, .int .i64 0, .int .i64 0, .string ⟨#[]⟩, .slice none 0 0] 41])
 rw [← HBE.out]
 clear HBE
 go_wp2_with fail
 rw [← HV9.out.1]
 refine bodyPost_ret (zC rfl _ _ (w.heap.size + 1) 41 _ (0, 0) _ rfl HV9.out.2 Tryz.underlying41 rfl (by kernel_rfl)) rfl ?_
 exact HEND.out
end Go.Proofs.YtchccbfljamjnaaGreat
