/-
  .
-/
import Derived.Deep.Cut
import Derived.Test.YtchccbfljamjnaaGreatIBacksQn
import Derived.StillTailTactics
import Derived.Test.YtchccbfljamjnaaGreatETSameQn
import Derived.Deep.RegionHeld
import Derived.Test.YtchccbfljamjnaaGreatICopyPQn
import Derived.Deep.QuietTactic
import Derived.BigQuiet
import Derived.Test.YtchccbfljamjnaaGreatECountNQn
import Derived.Deep.Quiet
import Derived.Test.YtchccbfljamjnaaGreatERowQn
import Derived.Test.YtchccbfljamjnaaGreatJPgQn
set_option maxRecDepth 100000
set_option maxHeartbeats 40000000
set_option linter.unusedVariables false
set_option linter.unusedSimpArgs false
namespace Go.Proofs.YtchccbfljamjnaaGreat
open Go.RowKit Go.Shelf
theorem zeG (w : World) (S : Nat → Prop) (id par at_ s1 s2 : Int) (tx s3 : ByteArray) (sa : Option Addr) (sn sc : Nat) :
 Calls Tryz.prog 112 #[.agg #[.int .i8 2, .int .i64 id, .int .i64 par, .int .i64 at_, .string tx, .int .i64 s1, .int .i64 s2, .string s3, .slice sa sn sc]] w (yK w S ⟨2, id, 0, 0, ⟨#[]⟩, zk⟩) := by
 obtain ⟨B, hB⟩ : ∃ B, B = zn w [.cells #[.int .i8 2, .int .i64 id, .int .i64 par, .int .i64 at_, .string tx, .int .i64 s1, .int .i64 s2, .string s3, .slice sa sn sc] 41, .cells #[.int .i8 0, .int .i64 0, .int .i64 0, .int .i64 0, .string ⟨#[]⟩, .int .i64 0, .int .i64 0, .string ⟨#[]⟩, .slice none 0 0] 41] := ⟨_, rfl⟩
 have hb : Below w.heap.size w B := by rw [hB]; exact zl _ _
 have hs0 : B.heap[w.heap.size]? = some (.cells #[.int .i8 2, .int .i64 id, .int .i64 par, .int .i64 at_, .string tx, .int .i64 s1, .int .i64 s2, .string s3, .slice sa sn sc] 41 (0, 0)) := by rw [hB]; exact zg _ _ 0 _ rfl
 have hr0 : B.heap[w.heap.size + 1]? = some (.cells #[.int .i8 0, .int .i64 0, .int .i64 0, .int .i64 0, .string ⟨#[]⟩, .int .i64 0, .int .i64 0, .string ⟨#[]⟩, .slice none 0 0] 41 (0, 0)) := by rw [hB]; exact zg _ _ 1 _ rfl
 obtain ⟨V9, hV9, v1, v2, v3, v4, v5, v6⟩ := qH (u0 := .int .i8 2) (u1 := .int .i64 id) (u2 := .int .i64 0) (u3 := .int .i64 0) (u4 := .string ⟨#[]⟩) (u5 := .int .i64 0) (u6 := .int .i64 0) (u7 := .string ⟨#[]⟩) (u8 := .slice none 0 0) hr0
 obtain ⟨m0, m1, m2, m3, m4, m5, m6, m7, m8⟩ := yV hs0
 obtain ⟨z0, z1, z2, z3, z4, z5, z6, z7, z8⟩ := yV hr0
 have zf : ∀ j, B.frozen? ⟨w.heap.size + 1, j, none⟩ = false := fun j => frozen_of_row _ _ j _ _ hr0
 have HEND : Hid (yK w S ⟨2, id, 0, 0, ⟨#[]⟩, zk⟩ (.returned (.agg #[.int .i8 2, .int .i64 id, .int .i64 0, .int .i64 0, .string ⟨#[]⟩, .int .i64 0, .int .i64 0, .string ⟨#[]⟩, .slice none 0 0])) V9) := hH ⟨_, rfl, ⟨none, 0, rfl, Nat.le_refl _, True.intro⟩, ⟨v3.trans hb.os, v4.trans hb.tape, v5.trans hb.output, by rw [v6]; exact hb.size, fun y hy => (v2 y (by omega)).trans (hb.block y hy)⟩⟩
 have HV9 := hH (aN hV9 v1)
 have HBE := hH hB
 clear hb hs0 hr0 hB hV9 v1 v2 v3 v4 v5 v6
 go_enter Tryz.func112, Tryz.ntmps112
 go_upto_region 1 with fail
 change Code.wp _ _ _ _ (zn w [.cells #[.int .i8 2, .int .i64 id, .int .i64 par, .int .i64 at_, .string tx, .int .i64 s1, .int .i64 s2, .string s3, .slice sa sn sc] 41, .cells #[.int .i8 0, .int .i64 0, .int .i64 0, .int .i64 0, .string ⟨#[]⟩, .int .i64 0, .int .i64 0, .string ⟨#[]⟩, .slice none 0 0] 41])
 rw [← HBE.out]
 clear HBE
 go_wp2_with fail
 rw [← HV9.out.1]
 refine bodyPost_ret (zQ rfl _ _ (w.heap.size + 1) 41 _ (0, 0) _ rfl HV9.out.2 Tryz.underlying41 rfl (by kernel_rfl)) rfl ?_
 exact HEND.out
theorem zeH (w : World) (S : Nat → Prop) (id par at_ s1 s2 : Int) (tx s3 : ByteArray) (sa : Option Addr) (sn sc : Nat) :
 Calls Tryz.prog 112 #[.agg #[.int .i8 3, .int .i64 id, .int .i64 par, .int .i64 at_, .string tx, .int .i64 s1, .int .i64 s2, .string s3, .slice sa sn sc]] w (yK w S ⟨3, id, par, at_, ⟨#[]⟩, zk⟩) := by
 obtain ⟨B, hB⟩ : ∃ B, B = zn w [.cells #[.int .i8 3, .int .i64 id, .int .i64 par, .int .i64 at_, .string tx, .int .i64 s1, .int .i64 s2, .string s3, .slice sa sn sc] 41, .cells #[.int .i8 0, .int .i64 0, .int .i64 0, .int .i64 0, .string ⟨#[]⟩, .int .i64 0, .int .i64 0, .string ⟨#[]⟩, .slice none 0 0] 41] := ⟨_, rfl⟩
 have hb : Below w.heap.size w B := by rw [hB]; exact zl _ _
 have hs0 : B.heap[w.heap.size]? = some (.cells #[.int .i8 3, .int .i64 id, .int .i64 par, .int .i64 at_, .string tx, .int .i64 s1, .int .i64 s2, .string s3, .slice sa sn sc] 41 (0, 0)) := by rw [hB]; exact zg _ _ 0 _ rfl
 have hr0 : B.heap[w.heap.size + 1]? = some (.cells #[.int .i8 0, .int .i64 0, .int .i64 0, .int .i64 0, .string ⟨#[]⟩, .int .i64 0, .int .i64 0, .string ⟨#[]⟩, .slice none 0 0] 41 (0, 0)) := by rw [hB]; exact zg _ _ 1 _ rfl
 obtain ⟨V9, hV9, v1, v2, v3, v4, v5, v6⟩ := qH (u0 := .int .i8 3) (u1 := .int .i64 id) (u2 := .int .i64 par) (u3 := .int .i64 at_) (u4 := .string ⟨#[]⟩) (u5 := .int .i64 0) (u6 := .int .i64 0) (u7 := .string ⟨#[]⟩) (u8 := .slice none 0 0) hr0
 obtain ⟨m0, m1, m2, m3, m4, m5, m6, m7, m8⟩ := yV hs0
 obtain ⟨z0, z1, z2, z3, z4, z5, z6, z7, z8⟩ := yV hr0
 have zf : ∀ j, B.frozen? ⟨w.heap.size + 1, j, none⟩ = false := fun j => frozen_of_row _ _ j _ _ hr0
 have HEND : Hid (yK w S ⟨3, id, par, at_, ⟨#[]⟩, zk⟩ (.returned (.agg #[.int .i8 3, .int .i64 id, .int .i64 par, .int .i64 at_, .string ⟨#[]⟩, .int .i64 0, .int .i64 0, .string ⟨#[]⟩, .slice none 0 0])) V9) := hH ⟨_, rfl, ⟨none, 0, rfl, Nat.le_refl _, True.intro⟩, ⟨v3.trans hb.os, v4.trans hb.tape, v5.trans hb.output, by rw [v6]; exact hb.size, fun y hy => (v2 y (by omega)).trans (hb.block y hy)⟩⟩
 have HV9 := hH (aN hV9 v1)
 have HBE := hH hB
 clear hb hs0 hr0 hB hV9 v1 v2 v3 v4 v5 v6
 go_enter Tryz.func112, Tryz.ntmps112
 go_upto_region 1 with fail
 change Code.wp _ _ _ _ (zn w [.cells #[.int .i8 3, .int .i64 id, .int .i64 par, .int .i64 at_, .string tx, .int .i64 s1, .int .i64 s2, .string s3, .slice sa sn sc] 41, .cells #[.int .i8 0, .int .i64 0, .int .i64 0, .int .i64 0, .string ⟨#[]⟩, .int .i64 0, .int .i64 0, .string ⟨#[]⟩, .slice none 0 0] 41])
 rw [← HBE.out]
 clear HBE
 go_wp2_with fail
 rw [← HV9.out.1]
 refine bodyPost_ret (zQ rfl _ _ (w.heap.size + 1) 41 _ (0, 0) _ rfl HV9.out.2 Tryz.underlying41 rfl (by kernel_rfl)) rfl ?_
 exact HEND.out
theorem zeI (w : World) (S : Nat → Prop) (id par at_ s1 s2 : Int) (tx s3 : ByteArray) (sa : Option Addr) (sn sc : Nat) :
 Calls Tryz.prog 112 #[.agg #[.int .i8 4, .int .i64 id, .int .i64 par, .int .i64 at_, .string tx, .int .i64 s1, .int .i64 s2, .string s3, .slice sa sn sc]] w (yK w S ⟨4, id, 0, 0, tx, zk⟩) := by
 obtain ⟨B, hB⟩ : ∃ B, B = zn w [.cells #[.int .i8 4, .int .i64 id, .int .i64 par, .int .i64 at_, .string tx, .int .i64 s1, .int .i64 s2, .string s3, .slice sa sn sc] 41, .cells #[.int .i8 0, .int .i64 0, .int .i64 0, .int .i64 0, .string ⟨#[]⟩, .int .i64 0, .int .i64 0, .string ⟨#[]⟩, .slice none 0 0] 41] := ⟨_, rfl⟩
 have hb : Below w.heap.size w B := by rw [hB]; exact zl _ _
 have hs0 : B.heap[w.heap.size]? = some (.cells #[.int .i8 4, .int .i64 id, .int .i64 par, .int .i64 at_, .string tx, .int .i64 s1, .int .i64 s2, .string s3, .slice sa sn sc] 41 (0, 0)) := by rw [hB]; exact zg _ _ 0 _ rfl
 have hr0 : B.heap[w.heap.size + 1]? = some (.cells #[.int .i8 0, .int .i64 0, .int .i64 0, .int .i64 0, .string ⟨#[]⟩, .int .i64 0, .int .i64 0, .string ⟨#[]⟩, .slice none 0 0] 41 (0, 0)) := by rw [hB]; exact zg _ _ 1 _ rfl
 obtain ⟨V9, hV9, v1, v2, v3, v4, v5, v6⟩ := qH (u0 := .int .i8 4) (u1 := .int .i64 id) (u2 := .int .i64 0) (u3 := .int .i64 0) (u4 := .string tx) (u5 := .int .i64 0) (u6 := .int .i64 0) (u7 := .string ⟨#[]⟩) (u8 := .slice none 0 0) hr0
 obtain ⟨m0, m1, m2, m3, m4, m5, m6, m7, m8⟩ := yV hs0
 obtain ⟨z0, z1, z2, z3, z4, z5, z6, z7, z8⟩ := yV hr0
 have zf : ∀ j, B.frozen? ⟨w.heap.size + 1, j, none⟩ = false := fun j => frozen_of_row _ _ j _ _ hr0
 have HEND : Hid (yK w S ⟨4, id, 0, 0, tx, zk⟩ (.returned (.agg #[.int .i8 4, .int .i64 id, .int .i64 0, .int .i64 0, .string tx, .int .i64 0, .int .i64 0, .string ⟨#[]⟩, .slice none 0 0])) V9) := hH ⟨_, rfl, ⟨none, 0, rfl, Nat.le_refl _, True.intro⟩, ⟨v3.trans hb.os, v4.trans hb.tape, v5.trans hb.output, by rw [v6]; exact hb.size, fun y hy => (v2 y (by omega)).trans (hb.block y hy)⟩⟩
 have HV9 := hH (aN hV9 v1)
 have HBE := hH hB
 clear hb hs0 hr0 hB hV9 v1 v2 v3 v4 v5 v6
 go_enter Tryz.func112, Tryz.ntmps112
 go_upto_region 1 with fail
 change Code.wp _ _ _ _ (zn w [.cells #[.int .i8 4, .int .i64 id, .int .i64 par, .int .i64 at_, .string tx, .int .i64 s1, .int .i64 s2, .string s3, .slice sa sn sc] 41, .cells #[.int .i8 0, .int .i64 0, .int .i64 0, .int .i64 0, .string ⟨#[]⟩, .int .i64 0, .int .i64 0, .string ⟨#[]⟩, .slice none 0 0] 41])
 rw [← HBE.out]
 clear HBE
 go_wp2_with fail
 rw [← HV9.out.1]
 refine bodyPost_ret (zQ rfl _ _ (w.heap.size + 1) 41 _ (0, 0) _ rfl HV9.out.2 Tryz.underlying41 rfl (by kernel_rfl)) rfl ?_
 exact HEND.out
theorem zeF (w : World) (Sx : Nat → Prop) (x : Tr) (id par at_ : Int) (tx : ByteArray) (sa : Option Addr) (sn sc : Nat) (hSx : ∀ y, Sx y → y < w.heap.size) (hx : qP w Sx (.agg #[.int .i64 x.id, .int .i64 x.kind, .string x.text, .slice sa sn sc]) x) (hxz : ze x.kids ≤ 100000) :
 Calls Tryz.prog 112 #[.agg #[.int .i8 1, .int .i64 id, .int .i64 par, .int .i64 at_, .string tx, .int .i64 x.id, .int .i64 x.kind, .string x.text, .slice sa sn sc]] w (yK w Sx ⟨1, 0, par, at_, ⟨#[]⟩, x⟩) := by
 obtain ⟨B, hB⟩ : ∃ B, B = zn w [.cells #[.int .i8 1, .int .i64 id, .int .i64 par, .int .i64 at_, .string tx, .int .i64 x.id, .int .i64 x.kind, .string x.text, .slice sa sn sc] 41, .cells #[.int .i8 0, .int .i64 0, .int .i64 0, .int .i64 0, .string ⟨#[]⟩, .int .i64 0, .int .i64 0, .string ⟨#[]⟩, .slice none 0 0] 41] := ⟨_, rfl⟩
 have hb : Below w.heap.size w B := by rw [hB]; exact zl _ _
 have hs : B.heap.size = w.heap.size + 2 := by rw [hB]; exact yM _ _
 have hs0 : B.heap[w.heap.size]? = some (.cells #[.int .i8 1, .int .i64 id, .int .i64 par, .int .i64 at_, .string tx, .int .i64 x.id, .int .i64 x.kind, .string x.text, .slice sa sn sc] 41 (0, 0)) := by rw [hB]; exact zg _ _ 0 _ rfl
 have hr0 : B.heap[w.heap.size + 1]? = some (.cells #[.int .i8 0, .int .i64 0, .int .i64 0, .int .i64 0, .string ⟨#[]⟩, .int .i64 0, .int .i64 0, .string ⟨#[]⟩, .slice none 0 0] 41 (0, 0)) := by rw [hB]; exact zg _ _ 1 _ rfl
 have hcp : ∀ X, Tc B X (w.heap.size + 1) → Calls Tryz.prog 153 #[.agg #[.int .i64 x.id, .int .i64 x.kind, .string x.text, .slice sa sn sc]] X (kz X Sx x) := fun X hX => zaj X Sx _ x (fun y hy => nL (hSx y hy) (Nat.le_trans hb.size hX.size)) (hx.kept fun y hy => ⟨hy, (hX.block y (by have := hSx y hy; omega) (by have := hSx y hy; omega)).trans (hb.block y (hSx y hy))⟩) hxz
 obtain ⟨m0, m1, m2, m3, m4, m5, m6, m7, m8⟩ := yV hs0
 have HCP := hH hcp
 have HST := hH hs0
 have HSX := hH hSx
 have HB := hH (aN hb (aN hs hr0))
 have HBE := hH hB
 clear hcp hs0 hb hs hr0 hB hx hSx hxz
 go_enter Tryz.func112, Tryz.ntmps112
 go_upto_region 1 with fail
 change Code.wp _ _ _ _ (zn w [.cells #[.int .i8 1, .int .i64 id, .int .i64 par, .int .i64 at_, .string tx, .int .i64 x.id, .int .i64 x.kind, .string x.text, .slice sa sn sc] 41, .cells #[.int .i8 0, .int .i64 0, .int .i64 0, .int .i64 0, .string ⟨#[]⟩, .int .i64 0, .int .i64 0, .string ⟨#[]⟩, .slice none 0 0] 41])
 rw [← HBE.out]
 clear HBE
 go_upto_region 3 with fail
 clear m0 m1 m2 m3 m4 m5 m6 m7 m8
 refine wp_region_held_drew (S := fun X => Tc B X (w.heap.size + 1)) (by kernel_rfl) (Tc.of (below_drewN (Below.refl _ B) 1)) (fun hHeld => ?_)
 refine tkH (i := 0) (.pointer (some ⟨w.heap.size, 0, none⟩)) rfl (Or.inl ⟨by rfl, fun X _ => by clear hHeld; go_simp⟩) (by assumption) ?_
 simp only [Act.put, pg]
 refine tkH (i := 1) (.int .i8 1) rfl (Or.inl ⟨by rfl, ?_⟩) (by assumption) ?_
 · clear hHeld; intro X hSw; obtain ⟨m0, m1, m2, m3, m4, m5, m6, m7, m8⟩ := yV ((hSw.block _ (lt_of_heap HST.out) (by omega)).trans HST.out); clear hSw; go_simp
 simp only [Act.put, pg]
 refine tkH (i := 2) (.pointer (some ⟨w.heap.size, 2, none⟩)) rfl (Or.inl ⟨by rfl, fun X _ => by clear hHeld; go_simp⟩) (by assumption) ?_
 simp only [Act.put, pg]
 refine tkH (i := 3) (.int .i64 par) rfl (Or.inl ⟨by rfl, ?_⟩) (by assumption) ?_
 · clear hHeld; intro X hSw; obtain ⟨m0, m1, m2, m3, m4, m5, m6, m7, m8⟩ := yV ((hSw.block _ (lt_of_heap HST.out) (by omega)).trans HST.out); clear hSw; go_simp
 simp only [Act.put, pg]
 refine tkH (i := 4) (.pointer (some ⟨w.heap.size, 3, none⟩)) rfl (Or.inl ⟨by rfl, fun X _ => by clear hHeld; go_simp⟩) (by assumption) ?_
 simp only [Act.put, pg]
 refine tkH (i := 5) (.int .i64 at_) rfl (Or.inl ⟨by rfl, ?_⟩) (by assumption) ?_
 · clear hHeld; intro X hSw; obtain ⟨m0, m1, m2, m3, m4, m5, m6, m7, m8⟩ := yV ((hSw.block _ (lt_of_heap HST.out) (by omega)).trans HST.out); clear hSw; go_simp
 simp only [Act.put, pg]
 refine tkH (i := 6) (.pointer (some ⟨w.heap.size, 5, none⟩)) rfl (Or.inl ⟨by rfl, fun X _ => by clear hHeld; go_simp⟩) (by assumption) ?_
 simp only [Act.put, pg]
 refine tkH (i := 7) (.agg #[.int .i64 x.id, .int .i64 x.kind, .string x.text, .slice sa sn sc]) rfl (Or.inl ⟨by rfl, ?_⟩) (by assumption) ?_
 · clear hHeld; intro X hSw; obtain ⟨m0, m1, m2, m3, m4, m5, m6, m7, m8⟩ := yV ((hSw.block _ (lt_of_heap HST.out) (by omega)).trans HST.out); clear hSw; go_simp
 simp only [Act.put, pg]
 refine wpAnyH_ready (rs := [8]) (by kernel_rfl) (by simp) ?_
 refine AllReadyH.cons (o := _) rfl (fun K hK => ?_) AllReadyH.nil
 rw [if_pos (by rfl)]
 simp only [pg3]
 have HK := hH hK
 have HS := hH hHeld
 clear hK hHeld
 go_wp2_with (go_at_call 153; refine (HCP.out _ HS.out).mono ?_; rintro e w5 ⟨_, rfl, ⟨yb, yc, rfl, hyc, hyk⟩, hb5⟩; have H5 := hH (aN hyc (aN hyk (aN hb5 ((hb5.block _ (lt_of_heap HB.out.2.2)).trans HB.out.2.2)))); have HS5 := hH (HS.out.then hb5); clear hyc hyk hb5)
 refine HK.out _ _ HS5.out (fun hHeld => ?_)
 clear HK HS
 obtain ⟨xn, hxn⟩ : ∃ xn, xn = foLen x.kids := ⟨_, rfl⟩
 refine tkH (i := 9) (.agg #[.int .i8 1, .int .i64 0, .int .i64 par, .int .i64 at_, .string ⟨#[]⟩, .int .i64 x.id, .int .i64 x.kind, .string x.text, .slice yb (foLen x.kids) yc]) rfl (Or.inl ⟨by rfl, fun X _ => by clear hHeld; go_simp⟩) (by assumption) ?_
 simp only [Act.put, pg]
 refine wpAnyH_ready (rs := [10]) (by kernel_rfl) (by simp) ?_
 refine AllReadyH.cons (o := _) rfl (fun K hK => ?_) AllReadyH.nil
 rw [if_pos (by rfl)]
 simp only [pg3]
 have HK := hH hK
 have HS := hH hHeld
 clear hK hHeld
 have hz := H5.out.2.2.2
 obtain ⟨z0, z1, z2, z3, z4, z5, z6, z7, z8⟩ := yV hz
 have zf : ∀ j, w5.frozen? ⟨w.heap.size + 1, j, none⟩ = false := fun j => frozen_of_row _ _ j _ _ hz
 obtain ⟨V9, hV9, v1, v2, v3, v4, v5, v6⟩ := qH (u0 := .int .i8 1) (u1 := .int .i64 0) (u2 := .int .i64 par) (u3 := .int .i64 at_) (u4 := .string ⟨#[]⟩) (u5 := .int .i64 x.id) (u6 := .int .i64 x.kind) (u7 := .string x.text) (u8 := .slice yb (foLen x.kids) yc) hz
 have hT9 : Tc B V9 (w.heap.size + 1) := ⟨v3.trans HS5.out.os, v4.trans HS5.out.tape, v5.trans HS5.out.output, by rw [v6]; exact HS5.out.size, fun y hy hn => (v2 y hn).trans (HS5.out.block y hy hn)⟩
 have hE : yK w Sx ⟨1, 0, par, at_, ⟨#[]⟩, x⟩ (.returned (.agg #[.int .i8 1, .int .i64 0, .int .i64 par, .int .i64 at_, .string ⟨#[]⟩, .int .i64 x.id, .int .i64 x.kind, .string x.text, .slice yb (foLen x.kids) yc])) V9 := ⟨_, rfl, ⟨yb, yc, rfl, H5.out.1, ?kept⟩, hT9.below HB.out.1 (by omega)⟩
 case kept =>
  exact H5.out.2.1.kept fun y hy => by
   have hy1 : Sx y ∨ B.heap.size ≤ y := hy.1
   have hne : y ≠ w.heap.size + 1 := by
    rcases hy1 with h | h
    · have := HSX.out y h; omega
    · have := HB.out.2.1; omega
   exact ⟨⟨hy1.imp (fun h => h) (fun h => by have := HB.out.2.1; omega), by rw [v6]; exact hy.2⟩, v2 y hne⟩
 have HE := hH (aN hE (aN hV9 (aN v1 hT9)))
 clear hz hV9 v1 v2 v3 v4 v5 v6 hT9 hE
 go_wp2_with fail
 rw [← HE.out.2.1]
 refine HK.out _ _ HE.out.2.2.2 (fun hHeld => ?_)
 clear HK HS z0 z1 z2 z3 z4 z5 z6 z7 z8 zf H5 HS5
 refine wpAnyH_done (by kernel_rfl) ?_ _
 clear hHeld
 go_wp2_with fail
 refine bodyPost_ret (zQ rfl _ _ (w.heap.size + 1) 41 _ (0, 0) _ rfl HE.out.2.2.1 Tryz.underlying41 rfl (by kernel_rfl)) rfl ?_
 exact HE.out.1
end Go.Proofs.YtchccbfljamjnaaGreat
namespace Go.Proofs.YtchccbfljamjnaaGreat
open Go.RowKit
def eqS (a b : Sf) : Bool := decide (a.op = b.op) && (decide (a.id = b.id) && (decide (a.par = b.par) && (decide (a.at_ = b.at_) && (decide (a.tx.toList = b.tx.toList) && zD a.sub b.sub))))
theorem zc0 (a : Sf) : eqS a a = true := by simp [eqS, jm]
def EqC (a b : Sf) (X : World) (e : Ending) (W : World) : Prop := e = .returned (.bool (eqS a b)) ∧ Below X.heap.size X W
theorem EqC.mk {a b : Sf} {w w' : World} {c : Bool} (h : eqS a b = c) (hb : Below w.heap.size w w') : EqC a b w (.returned (.bool c)) w' := ⟨by rw [h], hb⟩
theorem ze3 {X : World} {op id par at_ op2 id2 par2 at2 : Int} {tx tx2 : ByteArray} {u v : Tr} {aa ba : Option Addr} {ac bc n m : Nat} (HC : Hid (∀ w', Below X.heap.size X w' → Calls Tryz.prog 64 #[.agg #[.int .i64 u.id, .int .i64 u.kind, .string u.text, .slice aa n ac], .agg #[.int .i64 v.id, .int .i64 v.kind, .string v.text, .slice ba m bc]] w' (vL u v w'))) :
 Calls Tryz.prog 43 #[.agg #[.int .i8 op, .int .i64 id, .int .i64 par, .int .i64 at_, .string tx, .int .i64 u.id, .int .i64 u.kind, .string u.text, .slice aa n ac], .agg #[.int .i8 op2, .int .i64 id2, .int .i64 par2, .int .i64 at2, .string tx2, .int .i64 v.id, .int .i64 v.kind, .string v.text, .slice ba m bc]] X (EqC ⟨op, id, par, at_, tx, u⟩ ⟨op2, id2, par2, at2, tx2, v⟩ X) := by
 by_cases h1 : op = op2
 · have qh1 : (op == op2) = true := by simpa using h1
   by_cases h2 : id = id2
   · have qh2 : (id == id2) = true := by simpa using h2
     by_cases h3 : par = par2
     · have qh3 : (par == par2) = true := by simpa using h3
       by_cases h4 : at_ = at2
       · have qh4 : (at_ == at2) = true := by simpa using h4
         by_cases ht : tx.toList = tx2.toList
         · have HV := hH (show eqS ⟨op, id, par, at_, tx, u⟩ ⟨op2, id2, par2, at2, tx2, v⟩ = zD u v by simp [eqS, h1, h2, h3, h4, ht])
           have HC2 := HC
           clear HC h1 h2 h3 h4
           go_enter Tryz.func43, Tryz.ntmps43
           go_wp2_with fail
           refine (HC2.out _ (zy _ _ _)).mono ?_
           rintro e w2 ⟨rfl, hb⟩
           have HB := hH ((zy _ _ _).trans (hb.mono (zy _ _ _).size))
           clear hb
           go_wp2_with fail
           go_ret
           exact EqC.mk HV.out HB.out
         · have HV := hH (show eqS ⟨op, id, par, at_, tx, u⟩ ⟨op2, id2, par2, at2, tx2, v⟩ = false by simp [eqS, ht])
           have q6 : (tx.toList == tx2.toList) = false := by simpa using ht
           clear h1 h2 h3 h4
           clear HC
           go_enter Tryz.func43, Tryz.ntmps43
           go_wp2_with fail
           go_ret
           exact EqC.mk HV.out (zy _ _ _)
       · have qh4 : (at_ == at2) = false := by simpa using h4
         have HV := hH (show eqS ⟨op, id, par, at_, tx, u⟩ ⟨op2, id2, par2, at2, tx2, v⟩ = false by simp [eqS, h4])
         clear h1 h2 h3 h4
         clear HC
         go_enter Tryz.func43, Tryz.ntmps43
         go_wp2_with fail
         go_ret
         exact EqC.mk HV.out (zy _ _ _)
     · have qh3 : (par == par2) = false := by simpa using h3
       have HV := hH (show eqS ⟨op, id, par, at_, tx, u⟩ ⟨op2, id2, par2, at2, tx2, v⟩ = false by simp [eqS, h3])
       clear h1 h2 h3
       clear HC
       go_enter Tryz.func43, Tryz.ntmps43
       go_wp2_with fail
       go_ret
       exact EqC.mk HV.out (zy _ _ _)
   · have qh2 : (id == id2) = false := by simpa using h2
     have HV := hH (show eqS ⟨op, id, par, at_, tx, u⟩ ⟨op2, id2, par2, at2, tx2, v⟩ = false by simp [eqS, h2])
     clear h1 h2
     clear HC
     go_enter Tryz.func43, Tryz.ntmps43
     go_wp2_with fail
     go_ret
     exact EqC.mk HV.out (zy _ _ _)
 · have qh1 : (op == op2) = false := by simpa using h1
   have HV := hH (show eqS ⟨op, id, par, at_, tx, u⟩ ⟨op2, id2, par2, at2, tx2, v⟩ = false by simp [eqS, h1])
   clear h1
   clear HC
   go_enter Tryz.func43, Tryz.ntmps43
   go_wp2_with fail
   go_ret
   exact EqC.mk HV.out (zy _ _ _)
theorem zfr {X : World} {op id par at_ op2 id2 par2 at2 : Int} {tx tx2 : ByteArray} {u v : Tr} {aa ba : Option Addr} {ac bc n m : Nat} (HC : Hid (∀ w', Below X.heap.size X w' → Calls Tryz.prog 63 #[.agg #[.int .i64 u.id, .int .i64 u.kind, .string u.text, .slice aa n ac], .agg #[.int .i64 v.id, .int .i64 v.kind, .string v.text, .slice ba m bc]] w' (vL u v w'))) :
 Calls Tryz.prog 109 #[.agg #[.int .i8 op, .int .i64 id, .int .i64 par, .int .i64 at_, .string tx, .int .i64 u.id, .int .i64 u.kind, .string u.text, .slice aa n ac], .agg #[.int .i8 op2, .int .i64 id2, .int .i64 par2, .int .i64 at2, .string tx2, .int .i64 v.id, .int .i64 v.kind, .string v.text, .slice ba m bc]] X (EqC ⟨op, id, par, at_, tx, u⟩ ⟨op2, id2, par2, at2, tx2, v⟩ X) := by
 by_cases h1 : op = op2
 · have qh1 : (op == op2) = true := by simpa using h1
   by_cases h2 : id = id2
   · have qh2 : (id == id2) = true := by simpa using h2
     by_cases h3 : par = par2
     · have qh3 : (par == par2) = true := by simpa using h3
       by_cases h4 : at_ = at2
       · have qh4 : (at_ == at2) = true := by simpa using h4
         by_cases ht : tx.toList = tx2.toList
         · have HV := hH (show eqS ⟨op, id, par, at_, tx, u⟩ ⟨op2, id2, par2, at2, tx2, v⟩ = zD u v by simp [eqS, h1, h2, h3, h4, ht])
           have HC2 := HC
           clear HC h1 h2 h3 h4
           go_enter Tryz.func109, Tryz.ntmps109
           go_wp2_with fail
           refine (HC2.out _ (zy _ _ _)).mono ?_
           rintro e w2 ⟨rfl, hb⟩
           have HB := hH ((zy _ _ _).trans (hb.mono (zy _ _ _).size))
           clear hb
           go_wp2_with fail
           go_ret
           exact EqC.mk HV.out HB.out
         · have HV := hH (show eqS ⟨op, id, par, at_, tx, u⟩ ⟨op2, id2, par2, at2, tx2, v⟩ = false by simp [eqS, ht])
           have q6 : (tx.toList == tx2.toList) = false := by simpa using ht
           clear h1 h2 h3 h4
           clear HC
           go_enter Tryz.func109, Tryz.ntmps109
           go_wp2_with fail
           go_ret
           exact EqC.mk HV.out (zy _ _ _)
       · have qh4 : (at_ == at2) = false := by simpa using h4
         have HV := hH (show eqS ⟨op, id, par, at_, tx, u⟩ ⟨op2, id2, par2, at2, tx2, v⟩ = false by simp [eqS, h4])
         clear h1 h2 h3 h4
         clear HC
         go_enter Tryz.func109, Tryz.ntmps109
         go_wp2_with fail
         go_ret
         exact EqC.mk HV.out (zy _ _ _)
     · have qh3 : (par == par2) = false := by simpa using h3
       have HV := hH (show eqS ⟨op, id, par, at_, tx, u⟩ ⟨op2, id2, par2, at2, tx2, v⟩ = false by simp [eqS, h3])
       clear h1 h2 h3
       clear HC
       go_enter Tryz.func109, Tryz.ntmps109
       go_wp2_with fail
       go_ret
       exact EqC.mk HV.out (zy _ _ _)
   · have qh2 : (id == id2) = false := by simpa using h2
     have HV := hH (show eqS ⟨op, id, par, at_, tx, u⟩ ⟨op2, id2, par2, at2, tx2, v⟩ = false by simp [eqS, h2])
     clear h1 h2
     clear HC
     go_enter Tryz.func109, Tryz.ntmps109
     go_wp2_with fail
     go_ret
     exact EqC.mk HV.out (zy _ _ _)
 · have qh1 : (op == op2) = false := by simpa using h1
   have HV := hH (show eqS ⟨op, id, par, at_, tx, u⟩ ⟨op2, id2, par2, at2, tx2, v⟩ = false by simp [eqS, h1])
   clear h1
   clear HC
   go_enter Tryz.func109, Tryz.ntmps109
   go_wp2_with fail
   go_ret
   exact EqC.mk HV.out (zy _ _ _)
theorem Qb : ∀ (f g : Fo), foLen f ≠ foLen g → qJ f g = false
 | .nil, .nil, h => absurd rfl h
 | .nil, .node _ _ _ _ _, _ => rfl
 | .node _ _ _ _ _, .nil, _ => rfl
 | .node _ _ k l r, .node _ _ k2 l2 r2, h => by
   simp only [qJ]
   rw [Qb r r2 (fun e => h (by simp only [foLen]; omega)), Bool.and_false]
theorem zcl {t u : Tr} (h : foLen t.kids ≠ foLen u.kids) : zD t u = false := by
 unfold zD
 simp [Qb _ _ h]
theorem vg (w : World) (S1 S2 : Nat → Prop) (t u : Tr) (ka kb : Option Addr) (n m kc mc : Nat) (hn : n = foLen t.kids) (hm : m = foLen u.kids) (hS1 : ∀ x, S1 x → x < w.heap.size) (hS2 : ∀ x, S2 x → x < w.heap.size) (hcap : foLen t.kids ≤ kc) (hcap2 : foLen u.kids ≤ mc) (hk : zB w S1 t.kids ka) (hkb : zB w S2 u.kids kb) (hs1 : ze t.kids + 1 ≤ 400000) (hs2 : ze u.kids + 1 ≤ 400000) :
 Calls Tryz.prog 63 #[.agg #[.int .i64 t.id, .int .i64 t.kind, .string t.text, .slice ka n kc], .agg #[.int .i64 u.id, .int .i64 u.kind, .string u.text, .slice kb m mc]] w (vL t u w) := by
 obtain ⟨W, hW⟩ : ∃ W, W = zn w [.cells #[.int .i64 t.id, .int .i64 t.kind, .string t.text, .slice ka n kc] 35, .cells #[.int .i64 u.id, .int .i64 u.kind, .string u.text, .slice kb m mc] 35] := ⟨_, rfl⟩
 have hb : Below w.heap.size w W := by rw [hW]; exact zl _ _
 have h0 : W.heap[w.heap.size]? = some (.cells #[.int .i64 t.id, .int .i64 t.kind, .string t.text, .slice ka n kc] 35 (0, 0)) := by rw [hW]; exact zg _ _ 0 _ rfl
 have h1 : W.heap[w.heap.size + 1]? = some (.cells #[.int .i64 u.id, .int .i64 u.kind, .string u.text, .slice kb m mc] 35 (0, 0)) := by rw [hW]; exact zg _ _ 1 _ rfl
 have n0 : W.cell? ⟨w.heap.size, 0, none⟩ = some (.int .i64 t.id) := by rw [cell_of_row _ _ 0 _ _ _ h0]; rfl
 have n1 : W.cell? ⟨w.heap.size, 1, none⟩ = some (.int .i64 t.kind) := by rw [cell_of_row _ _ 1 _ _ _ h0]; rfl
 have n2 : W.cell? ⟨w.heap.size, 2, none⟩ = some (.string t.text) := by rw [cell_of_row _ _ 2 _ _ _ h0]; rfl
 have n3 : W.cell? ⟨w.heap.size, 3, none⟩ = some (.slice ka n kc) := by rw [cell_of_row _ _ 3 _ _ _ h0]; rfl
 have m0 : W.cell? ⟨w.heap.size + 1, 0, none⟩ = some (.int .i64 u.id) := by rw [cell_of_row _ _ 0 _ _ _ h1]; rfl
 have m1 : W.cell? ⟨w.heap.size + 1, 1, none⟩ = some (.int .i64 u.kind) := by rw [cell_of_row _ _ 1 _ _ _ h1]; rfl
 have m2 : W.cell? ⟨w.heap.size + 1, 2, none⟩ = some (.string u.text) := by rw [cell_of_row _ _ 2 _ _ _ h1]; rfl
 have m3 : W.cell? ⟨w.heap.size + 1, 3, none⟩ = some (.slice kb m mc) := by rw [cell_of_row _ _ 3 _ _ _ h1]; rfl
 have HC := hH (zcr W S1 S2 (.agg #[.int .i64 t.id, .int .i64 t.kind, .string t.text, .slice ka n kc]) (.agg #[.int .i64 u.id, .int .i64 u.kind, .string u.text, .slice kb m mc]) t u (fun x hx => nL (hS1 x hx) hb.size) (fun x hx => nL (hS2 x hx) hb.size) ⟨ka, kc, by rw [hn], hcap, hk.below hb hS1⟩ ⟨kb, mc, by rw [hm], hcap2, hkb.below hb hS2⟩ hs1 hs2)
 have HB := hH (aN hb hW)
 by_cases hne : n = m
 · have hq : ((n : Int) == (m : Int)) = true := by simp [hne]
   clear hb hW h0 h1 hn hm hS1 hS2 hcap hcap2 hk hkb hs1 hs2 hne
   go_enter Tryz.func63, Tryz.ntmps63
   go_upto_region 1 with fail
   change Code.wp _ _ _ _ (zn w [.cells #[.int .i64 t.id, .int .i64 t.kind, .string t.text, .slice ka n kc] 35, .cells #[.int .i64 u.id, .int .i64 u.kind, .string u.text, .slice kb m mc] 35])
   rw [← HB.out.2]
   go_wp2_with fail
   refine HC.out.mono ?_
   rintro e w2 ⟨rfl, hb2⟩
   have HB2 := hH (HB.out.1.trans (hb2.mono HB.out.1.size))
   clear hb2
   go_wp2_with fail
   go_ret
   exact ⟨rfl, HB2.out⟩
 · have hq : ((n : Int) == (m : Int)) = false := by simp; omega
   have HV := hH (show zD t u = false from zcl (by rw [← hn, ← hm]; exact hne))
   clear hb hW h0 h1 hn hm hS1 hS2 hcap hcap2 hk hkb hs1 hs2 hne HC
   go_enter Tryz.func63, Tryz.ntmps63
   go_upto_region 1 with fail
   change Code.wp _ _ _ _ (zn w [.cells #[.int .i64 t.id, .int .i64 t.kind, .string t.text, .slice ka n kc] 35, .cells #[.int .i64 u.id, .int .i64 u.kind, .string u.text, .slice kb m mc] 35])
   rw [← HB.out.2]
   go_wp2_with fail
   go_ret
   exact ⟨by rw [HV.out]; rfl, HB.out.1⟩
theorem je (w : World) (S1 S2 : Nat → Prop) (s r : Sf) (aa ba : Option Addr) (n ac m bc : Nat) (hn : n = foLen s.sub.kids) (hm : m = foLen r.sub.kids) (hS1 : ∀ x, S1 x → x < w.heap.size) (hS2 : ∀ x, S2 x → x < w.heap.size) (hc1 : foLen s.sub.kids ≤ ac) (hc2 : foLen r.sub.kids ≤ bc) (h1 : zB w S1 s.sub.kids aa) (h2 : zB w S2 r.sub.kids ba) (hz1 : ze s.sub.kids + 1 ≤ 400000) (hz2 : ze r.sub.kids + 1 ≤ 400000) :
 Calls Tryz.prog 109 #[.agg #[.int .i8 s.op, .int .i64 s.id, .int .i64 s.par, .int .i64 s.at_, .string s.tx, .int .i64 s.sub.id, .int .i64 s.sub.kind, .string s.sub.text, .slice aa n ac], .agg #[.int .i8 r.op, .int .i64 r.id, .int .i64 r.par, .int .i64 r.at_, .string r.tx, .int .i64 r.sub.id, .int .i64 r.sub.kind, .string r.sub.text, .slice ba m bc]] w (EqC s r w) :=
 zfr (hH fun w' hb => vg w' S1 S2 s.sub r.sub aa ba n m ac bc hn hm (fun x hx => nL (hS1 x hx) hb.size) (fun x hx => nL (hS2 x hx) hb.size) hc1 hc2 (h1.below hb hS1) (h2.below hb hS2) hz1 hz2)
theorem vW : ∀ f : Fo, ze f ≤ 9223372036854775807 → qQ f
 | .nil, _ => True.intro
 | .node b o k l r, h => by
   simp only [ze] at h
   exact ⟨by have := yG l; omega, vW l (by omega), vW r (by omega)⟩
theorem vF (w : World) (S1 S2 : Nat → Prop) (s r : Sf) (aa ba : Option Addr) (n ac m bc : Nat) (hn : n = foLen s.sub.kids) (hm : m = foLen r.sub.kids) (hS1 : ∀ x, S1 x → x < w.heap.size) (hS2 : ∀ x, S2 x → x < w.heap.size) (hc1 : foLen s.sub.kids ≤ ac) (hc2 : foLen r.sub.kids ≤ bc) (h1 : zB w S1 s.sub.kids aa) (h2 : zB w S2 r.sub.kids ba) (hz1 : ze s.sub.kids + 1 ≤ 400000) :
 Calls Tryz.prog 43 #[.agg #[.int .i8 s.op, .int .i64 s.id, .int .i64 s.par, .int .i64 s.at_, .string s.tx, .int .i64 s.sub.id, .int .i64 s.sub.kind, .string s.sub.text, .slice aa n ac], .agg #[.int .i8 r.op, .int .i64 r.id, .int .i64 r.par, .int .i64 r.at_, .string r.tx, .int .i64 r.sub.id, .int .i64 r.sub.kind, .string r.sub.text, .slice ba m bc]] w (EqC s r w) :=
 ze3 (hH fun w' hb => by
  subst hn; subst hm
  exact Yn 400000 w' S1 S2 _ _ s.sub r.sub (by omega) ⟨by have := yG s.sub.kids; omega, vW _ (by omega)⟩ (fun x hx => nL (hS1 x hx) hb.size) (fun x hx => nL (hS2 x hx) hb.size) ⟨aa, ac, rfl, hc1, h1.below hb hS1⟩ ⟨ba, bc, rfl, hc2, h2.below hb hS2⟩)
end Go.Proofs.YtchccbfljamjnaaGreat
namespace Go.Proofs.YtchccbfljamjnaaGreat
open Go.RowKit Go.Shelf
def qO (W : World) (f : Fo) (a : Option Addr) (c : Nat) : Prop := foLen f ≤ c ∧ zB W (fun q => q < W.heap.size) f a
theorem qO.at {W X : World} {t : Tr} {a : Option Addr} {c : Nat} (h : qO W t.kids a c) (hb : Below W.heap.size W X) : qP X (fun q => q < W.heap.size) (.agg #[.int .i64 t.id, .int .i64 t.kind, .string t.text, .slice a (foLen t.kids) c]) t := ⟨a, c, rfl, h.1, h.2.kept fun q hq => ⟨hq, hb.block q hq⟩⟩
theorem qO.on {W X : World} {f : Fo} {a : Option Addr} {c : Nat} (h : qO W f a c) (hb : Below W.heap.size W X) : qO X f a c := ⟨h.1, h.2.kept fun q hq => ⟨nL hq hb.size, hb.block q hq⟩⟩
theorem kT : ∀ f : Fo, ze f ≤ 9223372036854775807 → qQ f
 | .nil, _ => True.intro
 | .node _ _ _ l r, h => by
   have h1 := yG l
   simp only [ze] at h
   exact ⟨by omega, kT l (by omega), kT r (by omega)⟩
def zel (s : Sf) (a : Option Addr) (c : Nat) : List Value := [.int .i8 s.op, .int .i64 s.id, .int .i64 s.par, .int .i64 s.at_, .string s.tx, .int .i64 s.sub.id, .int .i64 s.sub.kind, .string s.sub.text, .slice a (foLen s.sub.kids) c]
end Go.Proofs.YtchccbfljamjnaaGreat
