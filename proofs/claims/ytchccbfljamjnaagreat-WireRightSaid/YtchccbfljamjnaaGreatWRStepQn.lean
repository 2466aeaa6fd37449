/-
  .
-/
import Derived.Deep.Cut
import Derived.StillTailTactics
import Derived.Test.YtchccbfljamjnaaGreatWStepQn
import Derived.Test.YtchccbfljamjnaaGreatWRTreeQn
import Derived.Test.YtchccbfljamjnaaGreatWRPlainQn
import Derived.Test.YtchccbfljamjnaaGreatJPgQn
set_option maxRecDepth 100000
set_option maxHeartbeats 40000000
namespace Go.Proofs.YtchccbfljamjnaaGreat
open Go.RowKit Go.Shelf
set_option linter.unusedVariables false
set_option linter.unusedSimpArgs false
theorem zeQ (w : World) (Sx : Nat → Prop) (id par at_ : Int) (tx : ByteArray) (x : Tr) (sa : Option Addr) (sn sc : Nat) (hsn : sn = foLen x.kids) (hSx : ∀ y, Sx y → y < w.heap.size) (hcap : foLen x.kids ≤ sc) (hk : zB w Sx x.kids sa) (hz : ze x.kids + 1 ≤ 100000) :
 Calls Tryz.prog 28 #[.agg #[.int .i8 1, .int .i64 id, .int .i64 par, .int .i64 at_, .string tx, .int .i64 x.id, .int .i64 x.kind, .string x.text, .slice sa sn sc]] w fun e w' => e = .returned (.bool (yD ⟨1, id, par, at_, tx, x⟩)) ∧ Below w.heap.size w w' := by
 obtain ⟨B, hB⟩ : ∃ B, B = w.alloc (.cells #[.int .i8 1, .int .i64 id, .int .i64 par, .int .i64 at_, .string tx, .int .i64 x.id, .int .i64 x.kind, .string x.text, .slice sa sn sc] 41) := ⟨_, rfl⟩
 have hb : Below w.heap.size w B := by rw [hB]; exact (Below.refl _ _).alloc (Nat.le_refl _) _
 have eB : B.heap[w.heap.size]? = some (.cells #[.int .i8 1, .int .i64 id, .int .i64 par, .int .i64 at_, .string tx, .int .i64 x.id, .int .i64 x.kind, .string x.text, .slice sa sn sc] 41 (0, 0)) := by rw [hB]; exact heap_alloc_new _ _
 have HC := hH (fun (Y : World) (hY : Below B.heap.size B Y) => jQ ((hY.block _ (lt_of_heap eB)).trans eB))
 have HB := hH (aN hb hB)
 have HST := hH (show yD ⟨1, id, par, at_, tx, x⟩ = (zh 1 1125899906842624 par && (zh 0 1125899906842624 at_ && (zT x)) && eqS ⟨1, id, par, at_, tx, x⟩ ⟨1, 0, par, at_, ⟨#[]⟩, x⟩) from rfl)
 have hpl : ∀ X, Below w.heap.size w X → Calls Tryz.prog 67 #[.agg #[.int .i8 1, .int .i64 id, .int .i64 par, .int .i64 at_, .string tx, .int .i64 x.id, .int .i64 x.kind, .string x.text, .slice sa sn sc]] X (yK X Sx ⟨1, 0, par, at_, ⟨#[]⟩, x⟩) := fun X hX => zdP X Sx x id par at_ tx sa sn sc (fun y hy => nL (hSx y hy) hX.size) ⟨sa, sc, by rw [hsn], hcap, hk.below hX hSx⟩ (by omega)
 have hsm : ∀ (X : World) (ba : Option Addr) (m bc : Nat) (S2 : Nat → Prop) (hm : m = foLen (⟨1, 0, par, at_, ⟨#[]⟩, x⟩ : Sf).sub.kids) (hX : Below w.heap.size w X) (hS2 : ∀ y, S2 y → y < X.heap.size) (h1 : m ≤ bc) (h2 : zB X S2 (⟨1, 0, par, at_, ⟨#[]⟩, x⟩ : Sf).sub.kids ba), Calls Tryz.prog 43 #[.agg #[.int .i8 1, .int .i64 id, .int .i64 par, .int .i64 at_, .string tx, .int .i64 x.id, .int .i64 x.kind, .string x.text, .slice sa sn sc], .agg #[.int .i8 (⟨1, 0, par, at_, ⟨#[]⟩, x⟩ : Sf).op, .int .i64 (⟨1, 0, par, at_, ⟨#[]⟩, x⟩ : Sf).id, .int .i64 (⟨1, 0, par, at_, ⟨#[]⟩, x⟩ : Sf).par, .int .i64 (⟨1, 0, par, at_, ⟨#[]⟩, x⟩ : Sf).at_, .string (⟨1, 0, par, at_, ⟨#[]⟩, x⟩ : Sf).tx, .int .i64 (⟨1, 0, par, at_, ⟨#[]⟩, x⟩ : Sf).sub.id, .int .i64 (⟨1, 0, par, at_, ⟨#[]⟩, x⟩ : Sf).sub.kind, .string (⟨1, 0, par, at_, ⟨#[]⟩, x⟩ : Sf).sub.text, .slice ba m bc]] X (EqC ⟨1, id, par, at_, tx, x⟩ ⟨1, 0, par, at_, ⟨#[]⟩, x⟩ X) := fun X ba m bc S2 hm hX hS2 h1 h2 => vF X Sx S2 ⟨1, id, par, at_, tx, x⟩ ⟨1, 0, par, at_, ⟨#[]⟩, x⟩ sa ba sn sc m bc hsn hm (fun y hy => nL (hSx y hy) hX.size) hS2 hcap (by rw [← hm]; exact h1) (hk.below hX hSx) h2 (by simp only; omega)
 have htr : ∀ X, Below w.heap.size w X → Calls Tryz.prog 30 #[.agg #[.int .i64 x.id, .int .i64 x.kind, .string x.text, .slice sa sn sc]] X (fun e w' => e = .returned (.bool (zT x)) ∧ Below X.heap.size X w') := fun X hX => j6 X Sx x sa sn sc hsn (fun y hy => nL (hSx y hy) hX.size) (hk.below hX hSx)
 have HPL := hH hpl
 have HSM := hH hsm
 have HTR := hH htr
 clear hb hB eB hpl hsm hsn hSx hcap hk hz htr
 obtain ⟨E, hE⟩ : ∃ E, E = eqS ⟨1, id, par, at_, tx, x⟩ ⟨1, 0, par, at_, ⟨#[]⟩, x⟩ := ⟨_, rfl⟩
 rw [← hE] at HST
 unfold EqC at HSM
 rw [← hE] at HSM
 clear hE
 go_enter Tryz.func28, Tryz.ntmps28
 go_upto_region 1 with fail
 change Code.wp _ _ _ _ (w.alloc (.cells #[.int .i8 1, .int .i64 id, .int .i64 par, .int .i64 at_, .string tx, .int .i64 x.id, .int .i64 x.kind, .string x.text, .slice sa sn sc] 41))
 rw [← HB.out.2]
 refine wp_region_held_drew (S := fun X => Below B.heap.size B X) (by kernel_rfl) (zX (Below.refl _ _) 1) (fun hHeld => ?_)
 refine tkH (i := 0) (.agg #[.int .i8 1, .int .i64 id, .int .i64 par, .int .i64 at_, .string tx, .int .i64 x.id, .int .i64 x.kind, .string x.text, .slice sa sn sc]) rfl (Or.inl ⟨by rfl, ?_⟩) (by assumption) ?_
 · clear hHeld; intro X hSw; obtain ⟨k0, k1, k2, k3, k4, k5, k6, k7, k8⟩ := HC.out X hSw; clear hSw; go_simp
 simp only [Act.put, pg]
 refine tkH (i := 1) (.agg #[.int .i8 1, .int .i64 id, .int .i64 par, .int .i64 at_, .string tx, .int .i64 x.id, .int .i64 x.kind, .string x.text, .slice sa sn sc]) rfl (Or.inl ⟨by rfl, ?_⟩) (by assumption) ?_
 · clear hHeld; intro X hSw; obtain ⟨k0, k1, k2, k3, k4, k5, k6, k7, k8⟩ := HC.out X hSw; clear hSw; go_simp
 simp only [Act.put, pg]
 refine wpAnyH_ready (rs := [2]) (by kernel_rfl) (by simp) ?_
 refine AllReadyH.cons (o := _) rfl (fun K hK => ?_) AllReadyH.nil
 rw [if_pos (by rfl)]
 simp only [pg3]
 have HK := hH hK
 have HS := hH hHeld
 clear hK hHeld
 go_wp2_with (go_at_call 67; refine (HPL.out _ (HB.out.1.trans (HS.out.mono HB.out.1.size))).mono ?_; rintro e V1 ⟨_, rfl, ⟨ya, yc, rfl, hyc, hyf⟩, hbv⟩; have HV := hH (aN (HS.out.trans (hbv.mono HS.out.size)) (aN hyc hyf)); clear hbv hyc hyf)
 obtain ⟨ym, hym⟩ : ∃ ym, ym = foLen (⟨1, 0, par, at_, ⟨#[]⟩, x⟩ : Sf).sub.kids := ⟨_, rfl⟩
 rw [← hym]
 rw [← hym] at HV
 refine HK.out _ _ HV.out.1 (fun hHeld => ?_)
 clear HK HS
 have HSC := hH (HSM.out V1 ya ym yc _ hym (HB.out.1.trans (HV.out.1.mono HB.out.1.size)) (fun y hy => hy.2) HV.out.2.1 HV.out.2.2)
 clear hym
 refine wpAnyH_ready (rs := [3]) (by kernel_rfl) (by simp) ?_
 refine AllReadyH.cons (o := _) rfl (fun K hK => ?_) AllReadyH.nil
 rw [if_pos (by rfl)]
 simp only [pg3]
 have HK := hH hK
 have HS := hH hHeld
 clear hK hHeld
 go_wp2_with (go_at_call 43; refine HSC.out.mono ?_; rintro e V2 ⟨rfl, hbv⟩; have HV2 := hH (HV.out.1.trans (hbv.mono HV.out.1.size)); clear hbv)
 refine HK.out _ _ HV2.out (fun hHeld => ?_)
 clear HK HS HSC
 refine tkH (i := 4) (.bool E) rfl (Or.inl ⟨by rfl, fun X _ => by clear hHeld; go_simp⟩) (by assumption) ?_
 simp only [Act.put, pg]
 refine wpAnyH_done (by kernel_rfl) ?_ _
 clear hHeld
 obtain ⟨k0, k1, k2, k3, k4, k5, k6, k7, k8⟩ := HC.out V2 HV2.out
 cases E
 · go_wp2_with fail
   go_ret
   exact ⟨by rw [HST.out, Bool.and_false]; rfl, (HB.out.1.trans (HV2.out.mono HB.out.1.size))⟩
 go_wp2_with fail
 refine (zw V2 par 1).mono ?_
 rintro e w' ⟨rfl, hw'⟩
 rw [hw']
 cases hb0 : zh 1 1125899906842624 par
 · clear hw'
   go_wp2_with fail
   go_ret
   exact ⟨by rw [HST.out, hb0]; rfl, (HB.out.1.trans (HV2.out.mono HB.out.1.size))⟩
 have HF0 := hH hb0
 clear hw' hb0
 go_wp2_with fail
 refine (zw V2 at_ 0).mono ?_
 rintro e w' ⟨rfl, hw'⟩
 rw [hw']
 cases hb0 : zh 0 1125899906842624 at_
 · clear hw'
   go_wp2_with fail
   go_ret
   exact ⟨by rw [HST.out, hb0, HF0.out]; rfl, (HB.out.1.trans (HV2.out.mono HB.out.1.size))⟩
 have HF1 := hH hb0
 clear hw' hb0
 go_wp2_with fail
 refine (HTR.out V2 (HB.out.1.trans (HV2.out.mono HB.out.1.size))).mono ?_
 rintro e W9 ⟨rfl, hb2⟩
 have H9 := hH (HV2.out.trans (hb2.mono HV2.out.size))
 clear hb2
 obtain ⟨q, hq⟩ : ∃ q, q = zT x := ⟨_, rfl⟩
 rw [← hq]
 rw [← hq] at HST
 clear hq k0 k1 k2 k3 k4 k5 k6 k7 k8
 go_wp2_with fail
 go_ret
 exact ⟨by rw [HST.out, HF0.out, HF1.out]; cases q <;> rfl, (HB.out.1.trans (H9.out.mono HB.out.1.size))⟩
theorem zeR (w : World) (Sx : Nat → Prop) (id par at_ : Int) (tx : ByteArray) (x : Tr) (sa : Option Addr) (sn sc : Nat) (hsn : sn = foLen x.kids) (hSx : ∀ y, Sx y → y < w.heap.size) (hcap : foLen x.kids ≤ sc) (hk : zB w Sx x.kids sa) (hz : ze x.kids + 1 ≤ 100000) :
 Calls Tryz.prog 28 #[.agg #[.int .i8 2, .int .i64 id, .int .i64 par, .int .i64 at_, .string tx, .int .i64 x.id, .int .i64 x.kind, .string x.text, .slice sa sn sc]] w fun e w' => e = .returned (.bool (yD ⟨2, id, par, at_, tx, x⟩)) ∧ Below w.heap.size w w' := by
 obtain ⟨B, hB⟩ : ∃ B, B = w.alloc (.cells #[.int .i8 2, .int .i64 id, .int .i64 par, .int .i64 at_, .string tx, .int .i64 x.id, .int .i64 x.kind, .string x.text, .slice sa sn sc] 41) := ⟨_, rfl⟩
 have hb : Below w.heap.size w B := by rw [hB]; exact (Below.refl _ _).alloc (Nat.le_refl _) _
 have eB : B.heap[w.heap.size]? = some (.cells #[.int .i8 2, .int .i64 id, .int .i64 par, .int .i64 at_, .string tx, .int .i64 x.id, .int .i64 x.kind, .string x.text, .slice sa sn sc] 41 (0, 0)) := by rw [hB]; exact heap_alloc_new _ _
 have HC := hH (fun (Y : World) (hY : Below B.heap.size B Y) => jQ ((hY.block _ (lt_of_heap eB)).trans eB))
 have HB := hH (aN hb hB)
 have HST := hH (show yD ⟨2, id, par, at_, tx, x⟩ = (zh 1 1125899906842624 id && eqS ⟨2, id, par, at_, tx, x⟩ ⟨2, id, 0, 0, ⟨#[]⟩, zk⟩) from rfl)
 have hpl : ∀ X, Below w.heap.size w X → Calls Tryz.prog 67 #[.agg #[.int .i8 2, .int .i64 id, .int .i64 par, .int .i64 at_, .string tx, .int .i64 x.id, .int .i64 x.kind, .string x.text, .slice sa sn sc]] X (yK X Sx ⟨2, id, 0, 0, ⟨#[]⟩, zk⟩) := fun X hX => zdQ X Sx id par at_ x.id x.kind tx x.text sa sn sc
 have hsm : ∀ (X : World) (ba : Option Addr) (m bc : Nat) (S2 : Nat → Prop) (hm : m = foLen (⟨2, id, 0, 0, ⟨#[]⟩, zk⟩ : Sf).sub.kids) (hX : Below w.heap.size w X) (hS2 : ∀ y, S2 y → y < X.heap.size) (h1 : m ≤ bc) (h2 : zB X S2 (⟨2, id, 0, 0, ⟨#[]⟩, zk⟩ : Sf).sub.kids ba), Calls Tryz.prog 43 #[.agg #[.int .i8 2, .int .i64 id, .int .i64 par, .int .i64 at_, .string tx, .int .i64 x.id, .int .i64 x.kind, .string x.text, .slice sa sn sc], .agg #[.int .i8 (⟨2, id, 0, 0, ⟨#[]⟩, zk⟩ : Sf).op, .int .i64 (⟨2, id, 0, 0, ⟨#[]⟩, zk⟩ : Sf).id, .int .i64 (⟨2, id, 0, 0, ⟨#[]⟩, zk⟩ : Sf).par, .int .i64 (⟨2, id, 0, 0, ⟨#[]⟩, zk⟩ : Sf).at_, .string (⟨2, id, 0, 0, ⟨#[]⟩, zk⟩ : Sf).tx, .int .i64 (⟨2, id, 0, 0, ⟨#[]⟩, zk⟩ : Sf).sub.id, .int .i64 (⟨2, id, 0, 0, ⟨#[]⟩, zk⟩ : Sf).sub.kind, .string (⟨2, id, 0, 0, ⟨#[]⟩, zk⟩ : Sf).sub.text, .slice ba m bc]] X (EqC ⟨2, id, par, at_, tx, x⟩ ⟨2, id, 0, 0, ⟨#[]⟩, zk⟩ X) := fun X ba m bc S2 hm hX hS2 h1 h2 => vF X Sx S2 ⟨2, id, par, at_, tx, x⟩ ⟨2, id, 0, 0, ⟨#[]⟩, zk⟩ sa ba sn sc m bc hsn hm (fun y hy => nL (hSx y hy) hX.size) hS2 hcap (by rw [← hm]; exact h1) (hk.below hX hSx) h2 (by simp only; omega)
 have HPL := hH hpl
 have HSM := hH hsm
 clear hb hB eB hpl hsm hsn hSx hcap hk hz
 obtain ⟨E, hE⟩ : ∃ E, E = eqS ⟨2, id, par, at_, tx, x⟩ ⟨2, id, 0, 0, ⟨#[]⟩, zk⟩ := ⟨_, rfl⟩
 rw [← hE] at HST
 unfold EqC at HSM
 rw [← hE] at HSM
 clear hE
 go_enter Tryz.func28, Tryz.ntmps28
 go_upto_region 1 with fail
 change Code.wp _ _ _ _ (w.alloc (.cells #[.int .i8 2, .int .i64 id, .int .i64 par, .int .i64 at_, .string tx, .int .i64 x.id, .int .i64 x.kind, .string x.text, .slice sa sn sc] 41))
 rw [← HB.out.2]
 refine wp_region_held_drew (S := fun X => Below B.heap.size B X) (by kernel_rfl) (zX (Below.refl _ _) 1) (fun hHeld => ?_)
 refine tkH (i := 0) (.agg #[.int .i8 2, .int .i64 id, .int .i64 par, .int .i64 at_, .string tx, .int .i64 x.id, .int .i64 x.kind, .string x.text, .slice sa sn sc]) rfl (Or.inl ⟨by rfl, ?_⟩) (by assumption) ?_
 · clear hHeld; intro X hSw; obtain ⟨k0, k1, k2, k3, k4, k5, k6, k7, k8⟩ := HC.out X hSw; clear hSw; go_simp
 simp only [Act.put, pg]
 refine tkH (i := 1) (.agg #[.int .i8 2, .int .i64 id, .int .i64 par, .int .i64 at_, .string tx, .int .i64 x.id, .int .i64 x.kind, .string x.text, .slice sa sn sc]) rfl (Or.inl ⟨by rfl, ?_⟩) (by assumption) ?_
 · clear hHeld; intro X hSw; obtain ⟨k0, k1, k2, k3, k4, k5, k6, k7, k8⟩ := HC.out X hSw; clear hSw; go_simp
 simp only [Act.put, pg]
 refine wpAnyH_ready (rs := [2]) (by kernel_rfl) (by simp) ?_
 refine AllReadyH.cons (o := _) rfl (fun K hK => ?_) AllReadyH.nil
 rw [if_pos (by rfl)]
 simp only [pg3]
 have HK := hH hK
 have HS := hH hHeld
 clear hK hHeld
 go_wp2_with (go_at_call 67; refine (HPL.out _ (HB.out.1.trans (HS.out.mono HB.out.1.size))).mono ?_; rintro e V1 ⟨_, rfl, ⟨ya, yc, rfl, hyc, hyf⟩, hbv⟩; have HV := hH (aN (HS.out.trans (hbv.mono HS.out.size)) (aN hyc hyf)); clear hbv hyc hyf)
 obtain ⟨ym, hym⟩ : ∃ ym, ym = foLen (⟨2, id, 0, 0, ⟨#[]⟩, zk⟩ : Sf).sub.kids := ⟨_, rfl⟩
 rw [← hym]
 rw [← hym] at HV
 refine HK.out _ _ HV.out.1 (fun hHeld => ?_)
 clear HK HS
 have HSC := hH (HSM.out V1 ya ym yc _ hym (HB.out.1.trans (HV.out.1.mono HB.out.1.size)) (fun y hy => hy.2) HV.out.2.1 HV.out.2.2)
 clear hym
 refine wpAnyH_ready (rs := [3]) (by kernel_rfl) (by simp) ?_
 refine AllReadyH.cons (o := _) rfl (fun K hK => ?_) AllReadyH.nil
 rw [if_pos (by rfl)]
 simp only [pg3]
 have HK := hH hK
 have HS := hH hHeld
 clear hK hHeld
 go_wp2_with (go_at_call 43; refine HSC.out.mono ?_; rintro e V2 ⟨rfl, hbv⟩; have HV2 := hH (HV.out.1.trans (hbv.mono HV.out.1.size)); clear hbv)
 refine HK.out _ _ HV2.out (fun hHeld => ?_)
 clear HK HS HSC
 refine tkH (i := 4) (.bool E) rfl (Or.inl ⟨by rfl, fun X _ => by clear hHeld; go_simp⟩) (by assumption) ?_
 simp only [Act.put, pg]
 refine wpAnyH_done (by kernel_rfl) ?_ _
 clear hHeld
 obtain ⟨k0, k1, k2, k3, k4, k5, k6, k7, k8⟩ := HC.out V2 HV2.out
 cases E
 · go_wp2_with fail
   go_ret
   exact ⟨by rw [HST.out, Bool.and_false]; rfl, (HB.out.1.trans (HV2.out.mono HB.out.1.size))⟩
 go_wp2_with fail
 refine (zw V2 id 1).mono ?_
 rintro e w' ⟨rfl, hw'⟩
 rw [hw']
 cases hb0 : zh 1 1125899906842624 id
 · clear hw'
   go_wp2_with fail
   go_ret
   exact ⟨by rw [HST.out, hb0]; rfl, (HB.out.1.trans (HV2.out.mono HB.out.1.size))⟩
 have HF0 := hH hb0
 clear hw' hb0
 go_wp2_with fail
 go_ret
 exact ⟨by rw [HST.out, HF0.out]; rfl, (HB.out.1.trans (HV2.out.mono HB.out.1.size))⟩
theorem zeS (w : World) (Sx : Nat → Prop) (id par at_ : Int) (tx : ByteArray) (x : Tr) (sa : Option Addr) (sn sc : Nat) (hsn : sn = foLen x.kids) (hSx : ∀ y, Sx y → y < w.heap.size) (hcap : foLen x.kids ≤ sc) (hk : zB w Sx x.kids sa) (hz : ze x.kids + 1 ≤ 100000) :
 Calls Tryz.prog 28 #[.agg #[.int .i8 3, .int .i64 id, .int .i64 par, .int .i64 at_, .string tx, .int .i64 x.id, .int .i64 x.kind, .string x.text, .slice sa sn sc]] w fun e w' => e = .returned (.bool (yD ⟨3, id, par, at_, tx, x⟩)) ∧ Below w.heap.size w w' := by
 obtain ⟨B, hB⟩ : ∃ B, B = w.alloc (.cells #[.int .i8 3, .int .i64 id, .int .i64 par, .int .i64 at_, .string tx, .int .i64 x.id, .int .i64 x.kind, .string x.text, .slice sa sn sc] 41) := ⟨_, rfl⟩
 have hb : Below w.heap.size w B := by rw [hB]; exact (Below.refl _ _).alloc (Nat.le_refl _) _
 have eB : B.heap[w.heap.size]? = some (.cells #[.int .i8 3, .int .i64 id, .int .i64 par, .int .i64 at_, .string tx, .int .i64 x.id, .int .i64 x.kind, .string x.text, .slice sa sn sc] 41 (0, 0)) := by rw [hB]; exact heap_alloc_new _ _
 have HC := hH (fun (Y : World) (hY : Below B.heap.size B Y) => jQ ((hY.block _ (lt_of_heap eB)).trans eB))
 have HB := hH (aN hb hB)
 have HST := hH (show yD ⟨3, id, par, at_, tx, x⟩ = (zh 1 1125899906842624 id && (zh 1 1125899906842624 par && (zh 0 1125899906842624 at_)) && eqS ⟨3, id, par, at_, tx, x⟩ ⟨3, id, par, at_, ⟨#[]⟩, zk⟩) from rfl)
 have hpl : ∀ X, Below w.heap.size w X → Calls Tryz.prog 67 #[.agg #[.int .i8 3, .int .i64 id, .int .i64 par, .int .i64 at_, .string tx, .int .i64 x.id, .int .i64 x.kind, .string x.text, .slice sa sn sc]] X (yK X Sx ⟨3, id, par, at_, ⟨#[]⟩, zk⟩) := fun X hX => zdR X Sx id par at_ x.id x.kind tx x.text sa sn sc
 have hsm : ∀ (X : World) (ba : Option Addr) (m bc : Nat) (S2 : Nat → Prop) (hm : m = foLen (⟨3, id, par, at_, ⟨#[]⟩, zk⟩ : Sf).sub.kids) (hX : Below w.heap.size w X) (hS2 : ∀ y, S2 y → y < X.heap.size) (h1 : m ≤ bc) (h2 : zB X S2 (⟨3, id, par, at_, ⟨#[]⟩, zk⟩ : Sf).sub.kids ba), Calls Tryz.prog 43 #[.agg #[.int .i8 3, .int .i64 id, .int .i64 par, .int .i64 at_, .string tx, .int .i64 x.id, .int .i64 x.kind, .string x.text, .slice sa sn sc], .agg #[.int .i8 (⟨3, id, par, at_, ⟨#[]⟩, zk⟩ : Sf).op, .int .i64 (⟨3, id, par, at_, ⟨#[]⟩, zk⟩ : Sf).id, .int .i64 (⟨3, id, par, at_, ⟨#[]⟩, zk⟩ : Sf).par, .int .i64 (⟨3, id, par, at_, ⟨#[]⟩, zk⟩ : Sf).at_, .string (⟨3, id, par, at_, ⟨#[]⟩, zk⟩ : Sf).tx, .int .i64 (⟨3, id, par, at_, ⟨#[]⟩, zk⟩ : Sf).sub.id, .int .i64 (⟨3, id, par, at_, ⟨#[]⟩, zk⟩ : Sf).sub.kind, .string (⟨3, id, par, at_, ⟨#[]⟩, zk⟩ : Sf).sub.text, .slice ba m bc]] X (EqC ⟨3, id, par, at_, tx, x⟩ ⟨3, id, par, at_, ⟨#[]⟩, zk⟩ X) := fun X ba m bc S2 hm hX hS2 h1 h2 => vF X Sx S2 ⟨3, id, par, at_, tx, x⟩ ⟨3, id, par, at_, ⟨#[]⟩, zk⟩ sa ba sn sc m bc hsn hm (fun y hy => nL (hSx y hy) hX.size) hS2 hcap (by rw [← hm]; exact h1) (hk.below hX hSx) h2 (by simp only; omega)
 have HPL := hH hpl
 have HSM := hH hsm
 clear hb hB eB hpl hsm hsn hSx hcap hk hz
 obtain ⟨E, hE⟩ : ∃ E, E = eqS ⟨3, id, par, at_, tx, x⟩ ⟨3, id, par, at_, ⟨#[]⟩, zk⟩ := ⟨_, rfl⟩
 rw [← hE] at HST
 unfold EqC at HSM
 rw [← hE] at HSM
 clear hE
 go_enter Tryz.func28, Tryz.ntmps28
 go_upto_region 1 with fail
 change Code.wp _ _ _ _ (w.alloc (.cells #[.int .i8 3, .int .i64 id, .int .i64 par, .int .i64 at_, .string tx, .int .i64 x.id, .int .i64 x.kind, .string x.text, .slice sa sn sc] 41))
 rw [← HB.out.2]
 refine wp_region_held_drew (S := fun X => Below B.heap.size B X) (by kernel_rfl) (zX (Below.refl _ _) 1) (fun hHeld => ?_)
 refine tkH (i := 0) (.agg #[.int .i8 3, .int .i64 id, .int .i64 par, .int .i64 at_, .string tx, .int .i64 x.id, .int .i64 x.kind, .string x.text, .slice sa sn sc]) rfl (Or.inl ⟨by rfl, ?_⟩) (by assumption) ?_
 · clear hHeld; intro X hSw; obtain ⟨k0, k1, k2, k3, k4, k5, k6, k7, k8⟩ := HC.out X hSw; clear hSw; go_simp
 simp only [Act.put, pg]
 refine tkH (i := 1) (.agg #[.int .i8 3, .int .i64 id, .int .i64 par, .int .i64 at_, .string tx, .int .i64 x.id, .int .i64 x.kind, .string x.text, .slice sa sn sc]) rfl (Or.inl ⟨by rfl, ?_⟩) (by assumption) ?_
 · clear hHeld; intro X hSw; obtain ⟨k0, k1, k2, k3, k4, k5, k6, k7, k8⟩ := HC.out X hSw; clear hSw; go_simp
 simp only [Act.put, pg]
 refine wpAnyH_ready (rs := [2]) (by kernel_rfl) (by simp) ?_
 refine AllReadyH.cons (o := _) rfl (fun K hK => ?_) AllReadyH.nil
 rw [if_pos (by rfl)]
 simp only [pg3]
 have HK := hH hK
 have HS := hH hHeld
 clear hK hHeld
 go_wp2_with (go_at_call 67; refine (HPL.out _ (HB.out.1.trans (HS.out.mono HB.out.1.size))).mono ?_; rintro e V1 ⟨_, rfl, ⟨ya, yc, rfl, hyc, hyf⟩, hbv⟩; have HV := hH (aN (HS.out.trans (hbv.mono HS.out.size)) (aN hyc hyf)); clear hbv hyc hyf)
 obtain ⟨ym, hym⟩ : ∃ ym, ym = foLen (⟨3, id, par, at_, ⟨#[]⟩, zk⟩ : Sf).sub.kids := ⟨_, rfl⟩
 rw [← hym]
 rw [← hym] at HV
 refine HK.out _ _ HV.out.1 (fun hHeld => ?_)
 clear HK HS
 have HSC := hH (HSM.out V1 ya ym yc _ hym (HB.out.1.trans (HV.out.1.mono HB.out.1.size)) (fun y hy => hy.2) HV.out.2.1 HV.out.2.2)
 clear hym
 refine wpAnyH_ready (rs := [3]) (by kernel_rfl) (by simp) ?_
 refine AllReadyH.cons (o := _) rfl (fun K hK => ?_) AllReadyH.nil
 rw [if_pos (by rfl)]
 simp only [pg3]
 have HK := hH hK
 have HS := hH hHeld
 clear hK hHeld
 go_wp2_with (go_at_call 43; refine HSC.out.mono ?_; rintro e V2 ⟨rfl, hbv⟩; have HV2 := hH (HV.out.1.trans (hbv.mono HV.out.1.size)); clear hbv)
 refine HK.out _ _ HV2.out (fun hHeld => ?_)
 clear HK HS HSC
 refine tkH (i := 4) (.bool E) rfl (Or.inl ⟨by rfl, fun X _ => by clear hHeld; go_simp⟩) (by assumption) ?_
 simp only [Act.put, pg]
 refine wpAnyH_done (by kernel_rfl) ?_ _
 clear hHeld
 obtain ⟨k0, k1, k2, k3, k4, k5, k6, k7, k8⟩ := HC.out V2 HV2.out
 cases E
 · go_wp2_with fail
   go_ret
   exact ⟨by rw [HST.out, Bool.and_false]; rfl, (HB.out.1.trans (HV2.out.mono HB.out.1.size))⟩
 go_wp2_with fail
 refine (zw V2 id 1).mono ?_
 rintro e w' ⟨rfl, hw'⟩
 rw [hw']
 cases hb0 : zh 1 1125899906842624 id
 · clear hw'
   go_wp2_with fail
   go_ret
   exact ⟨by rw [HST.out, hb0]; rfl, (HB.out.1.trans (HV2.out.mono HB.out.1.size))⟩
 have HF0 := hH hb0
 clear hw' hb0
 go_wp2_with fail
 refine (zw V2 par 1).mono ?_
 rintro e w' ⟨rfl, hw'⟩
 rw [hw']
 cases hb0 : zh 1 1125899906842624 par
 · clear hw'
   go_wp2_with fail
   go_ret
   exact ⟨by rw [HST.out, hb0, HF0.out]; rfl, (HB.out.1.trans (HV2.out.mono HB.out.1.size))⟩
 have HF1 := hH hb0
 clear hw' hb0
 go_wp2_with fail
 refine (zw V2 at_ 0).mono ?_
 rintro e w' ⟨rfl, hw'⟩
 rw [hw']
 cases hb0 : zh 0 1125899906842624 at_
 · clear hw'
   go_wp2_with fail
   go_ret
   exact ⟨by rw [HST.out, hb0, HF0.out, HF1.out]; rfl, (HB.out.1.trans (HV2.out.mono HB.out.1.size))⟩
 have HF2 := hH hb0
 clear hw' hb0
 go_wp2_with fail
 go_ret
 exact ⟨by rw [HST.out, HF0.out, HF1.out, HF2.out]; rfl, (HB.out.1.trans (HV2.out.mono HB.out.1.size))⟩
theorem zeT (w : World) (Sx : Nat → Prop) (id par at_ : Int) (tx : ByteArray) (x : Tr) (sa : Option Addr) (sn sc : Nat) (hsn : sn = foLen x.kids) (hSx : ∀ y, Sx y → y < w.heap.size) (hcap : foLen x.kids ≤ sc) (hk : zB w Sx x.kids sa) (hz : ze x.kids + 1 ≤ 100000) :
 Calls Tryz.prog 28 #[.agg #[.int .i8 4, .int .i64 id, .int .i64 par, .int .i64 at_, .string tx, .int .i64 x.id, .int .i64 x.kind, .string x.text, .slice sa sn sc]] w fun e w' => e = .returned (.bool (yD ⟨4, id, par, at_, tx, x⟩)) ∧ Below w.heap.size w w' := by
 obtain ⟨B, hB⟩ : ∃ B, B = w.alloc (.cells #[.int .i8 4, .int .i64 id, .int .i64 par, .int .i64 at_, .string tx, .int .i64 x.id, .int .i64 x.kind, .string x.text, .slice sa sn sc] 41) := ⟨_, rfl⟩
 have hb : Below w.heap.size w B := by rw [hB]; exact (Below.refl _ _).alloc (Nat.le_refl _) _
 have eB : B.heap[w.heap.size]? = some (.cells #[.int .i8 4, .int .i64 id, .int .i64 par, .int .i64 at_, .string tx, .int .i64 x.id, .int .i64 x.kind, .string x.text, .slice sa sn sc] 41 (0, 0)) := by rw [hB]; exact heap_alloc_new _ _
 have HC := hH (fun (Y : World) (hY : Below B.heap.size B Y) => jQ ((hY.block _ (lt_of_heap eB)).trans eB))
 have HB := hH (aN hb hB)
 have HST := hH (show yD ⟨4, id, par, at_, tx, x⟩ = (zh 1 1125899906842624 id && (decide (tx.size ≤ 40)) && eqS ⟨4, id, par, at_, tx, x⟩ ⟨4, id, 0, 0, tx, zk⟩) from rfl)
 have hpl : ∀ X, Below w.heap.size w X → Calls Tryz.prog 67 #[.agg #[.int .i8 4, .int .i64 id, .int .i64 par, .int .i64 at_, .string tx, .int .i64 x.id, .int .i64 x.kind, .string x.text, .slice sa sn sc]] X (yK X Sx ⟨4, id, 0, 0, tx, zk⟩) := fun X hX => zdS X Sx id par at_ x.id x.kind tx x.text sa sn sc
 have hsm : ∀ (X : World) (ba : Option Addr) (m bc : Nat) (S2 : Nat → Prop) (hm : m = foLen (⟨4, id, 0, 0, tx, zk⟩ : Sf).sub.kids) (hX : Below w.heap.size w X) (hS2 : ∀ y, S2 y → y < X.heap.size) (h1 : m ≤ bc) (h2 : zB X S2 (⟨4, id, 0, 0, tx, zk⟩ : Sf).sub.kids ba), Calls Tryz.prog 43 #[.agg #[.int .i8 4, .int .i64 id, .int .i64 par, .int .i64 at_, .string tx, .int .i64 x.id, .int .i64 x.kind, .string x.text, .slice sa sn sc], .agg #[.int .i8 (⟨4, id, 0, 0, tx, zk⟩ : Sf).op, .int .i64 (⟨4, id, 0, 0, tx, zk⟩ : Sf).id, .int .i64 (⟨4, id, 0, 0, tx, zk⟩ : Sf).par, .int .i64 (⟨4, id, 0, 0, tx, zk⟩ : Sf).at_, .string (⟨4, id, 0, 0, tx, zk⟩ : Sf).tx, .int .i64 (⟨4, id, 0, 0, tx, zk⟩ : Sf).sub.id, .int .i64 (⟨4, id, 0, 0, tx, zk⟩ : Sf).sub.kind, .string (⟨4, id, 0, 0, tx, zk⟩ : Sf).sub.text, .slice ba m bc]] X (EqC ⟨4, id, par, at_, tx, x⟩ ⟨4, id, 0, 0, tx, zk⟩ X) := fun X ba m bc S2 hm hX hS2 h1 h2 => vF X Sx S2 ⟨4, id, par, at_, tx, x⟩ ⟨4, id, 0, 0, tx, zk⟩ sa ba sn sc m bc hsn hm (fun y hy => nL (hSx y hy) hX.size) hS2 hcap (by rw [← hm]; exact h1) (hk.below hX hSx) h2 (by simp only; omega)
 have HPL := hH hpl
 have HSM := hH hsm
 clear hb hB eB hpl hsm hsn hSx hcap hk hz
 obtain ⟨E, hE⟩ : ∃ E, E = eqS ⟨4, id, par, at_, tx, x⟩ ⟨4, id, 0, 0, tx, zk⟩ := ⟨_, rfl⟩
 rw [← hE] at HST
 unfold EqC at HSM
 rw [← hE] at HSM
 clear hE
 go_enter Tryz.func28, Tryz.ntmps28
 go_upto_region 1 with fail
 change Code.wp _ _ _ _ (w.alloc (.cells #[.int .i8 4, .int .i64 id, .int .i64 par, .int .i64 at_, .string tx, .int .i64 x.id, .int .i64 x.kind, .string x.text, .slice sa sn sc] 41))
 rw [← HB.out.2]
 refine wp_region_held_drew (S := fun X => Below B.heap.size B X) (by kernel_rfl) (zX (Below.refl _ _) 1) (fun hHeld => ?_)
 refine tkH (i := 0) (.agg #[.int .i8 4, .int .i64 id, .int .i64 par, .int .i64 at_, .string tx, .int .i64 x.id, .int .i64 x.kind, .string x.text, .slice sa sn sc]) rfl (Or.inl ⟨by rfl, ?_⟩) (by assumption) ?_
 · clear hHeld; intro X hSw; obtain ⟨k0, k1, k2, k3, k4, k5, k6, k7, k8⟩ := HC.out X hSw; clear hSw; go_simp
 simp only [Act.put, pg]
 refine tkH (i := 1) (.agg #[.int .i8 4, .int .i64 id, .int .i64 par, .int .i64 at_, .string tx, .int .i64 x.id, .int .i64 x.kind, .string x.text, .slice sa sn sc]) rfl (Or.inl ⟨by rfl, ?_⟩) (by assumption) ?_
 · clear hHeld; intro X hSw; obtain ⟨k0, k1, k2, k3, k4, k5, k6, k7, k8⟩ := HC.out X hSw; clear hSw; go_simp
 simp only [Act.put, pg]
 refine wpAnyH_ready (rs := [2]) (by kernel_rfl) (by simp) ?_
 refine AllReadyH.cons (o := _) rfl (fun K hK => ?_) AllReadyH.nil
 rw [if_pos (by rfl)]
 simp only [pg3]
 have HK := hH hK
 have HS := hH hHeld
 clear hK hHeld
 go_wp2_with (go_at_call 67; refine (HPL.out _ (HB.out.1.trans (HS.out.mono HB.out.1.size))).mono ?_; rintro e V1 ⟨_, rfl, ⟨ya, yc, rfl, hyc, hyf⟩, hbv⟩; have HV := hH (aN (HS.out.trans (hbv.mono HS.out.size)) (aN hyc hyf)); clear hbv hyc hyf)
 obtain ⟨ym, hym⟩ : ∃ ym, ym = foLen (⟨4, id, 0, 0, tx, zk⟩ : Sf).sub.kids := ⟨_, rfl⟩
 rw [← hym]
 rw [← hym] at HV
 refine HK.out _ _ HV.out.1 (fun hHeld => ?_)
 clear HK HS
 have HSC := hH (HSM.out V1 ya ym yc _ hym (HB.out.1.trans (HV.out.1.mono HB.out.1.size)) (fun y hy => hy.2) HV.out.2.1 HV.out.2.2)
 clear hym
 refine wpAnyH_ready (rs := [3]) (by kernel_rfl) (by simp) ?_
 refine AllReadyH.cons (o := _) rfl (fun K hK => ?_) AllReadyH.nil
 rw [if_pos (by rfl)]
 simp only [pg3]
 have HK := hH hK
 have HS := hH hHeld
 clear hK hHeld
 go_wp2_with (go_at_call 43; refine HSC.out.mono ?_; rintro e V2 ⟨rfl, hbv⟩; have HV2 := hH (HV.out.1.trans (hbv.mono HV.out.1.size)); clear hbv)
 refine HK.out _ _ HV2.out (fun hHeld => ?_)
 clear HK HS HSC
 refine tkH (i := 4) (.bool E) rfl (Or.inl ⟨by rfl, fun X _ => by clear hHeld; go_simp⟩) (by assumption) ?_
 simp only [Act.put, pg]
 refine wpAnyH_done (by kernel_rfl) ?_ _
 clear hHeld
 obtain ⟨k0, k1, k2, k3, k4, k5, k6, k7, k8⟩ := HC.out V2 HV2.out
 cases E
 · go_wp2_with fail
   go_ret
   exact ⟨by rw [HST.out, Bool.and_false]; rfl, (HB.out.1.trans (HV2.out.mono HB.out.1.size))⟩
 go_wp2_with fail
 refine (zw V2 id 1).mono ?_
 rintro e w' ⟨rfl, hw'⟩
 rw [hw']
 cases hb0 : zh 1 1125899906842624 id
 · clear hw'
   go_wp2_with fail
   go_ret
   exact ⟨by rw [HST.out, hb0]; rfl, (HB.out.1.trans (HV2.out.mono HB.out.1.size))⟩
 have HF0 := hH hb0
 clear hw' hb0
 by_cases h40 : tx.size ≤ 40
 · have g40 : (tx.size : Int) ≤ 40 := by omega
   have HF9 := hH (show decide (tx.size ≤ 40) = true from decide_eq_true h40)
   clear h40
   go_wp2_with fail
   go_ret
   exact ⟨by rw [HST.out, HF0.out, HF9.out]; rfl, (HB.out.1.trans (HV2.out.mono HB.out.1.size))⟩
 · have g40 : ¬ (tx.size : Int) ≤ 40 := by omega
   have HF9 := hH (show decide (tx.size ≤ 40) = false from decide_eq_false h40)
   clear h40
   go_wp2_with fail
   go_ret
   exact ⟨by show Ending.returned (.bool (decide ((tx.size : Int) ≤ 40))) = _; rw [decide_eq_false (by omega), HST.out, HF0.out, HF9.out]; rfl, (HB.out.1.trans (HV2.out.mono HB.out.1.size))⟩
theorem zeP (w : World) (Sx : Nat → Prop) (op id par at_ : Int) (tx : ByteArray) (x : Tr) (sa : Option Addr) (sn sc : Nat) (hsn : sn = foLen x.kids) (hSx : ∀ y, Sx y → y < w.heap.size) (hcap : foLen x.kids ≤ sc) (hk : zB w Sx x.kids sa) (hz : ze x.kids + 1 ≤ 100000) (h1 : ¬ op = 1) (h2 : ¬ op = 2) (h3 : ¬ op = 3) (h4 : ¬ op = 4) :
 Calls Tryz.prog 28 #[.agg #[.int .i8 op, .int .i64 id, .int .i64 par, .int .i64 at_, .string tx, .int .i64 x.id, .int .i64 x.kind, .string x.text, .slice sa sn sc]] w fun e w' => e = .returned (.bool (yD ⟨op, id, par, at_, tx, x⟩)) ∧ Below w.heap.size w w' := by
 obtain ⟨B, hB⟩ : ∃ B, B = w.alloc (.cells #[.int .i8 op, .int .i64 id, .int .i64 par, .int .i64 at_, .string tx, .int .i64 x.id, .int .i64 x.kind, .string x.text, .slice sa sn sc] 41) := ⟨_, rfl⟩
 have hb : Below w.heap.size w B := by rw [hB]; exact (Below.refl _ _).alloc (Nat.le_refl _) _
 have eB : B.heap[w.heap.size]? = some (.cells #[.int .i8 op, .int .i64 id, .int .i64 par, .int .i64 at_, .string tx, .int .i64 x.id, .int .i64 x.kind, .string x.text, .slice sa sn sc] 41 (0, 0)) := by rw [hB]; exact heap_alloc_new _ _
 have HC := hH (fun (Y : World) (hY : Below B.heap.size B Y) => jQ ((hY.block _ (lt_of_heap eB)).trans eB))
 have HB := hH (aN hb hB)
 have HST := hH (show yD ⟨op, id, par, at_, tx, x⟩ = false by unfold yD zay; simp only; rw [if_neg h1, if_neg h2, if_neg h3, if_neg h4, Bool.false_and])
 have hpl : ∀ X, Below w.heap.size w X → Calls Tryz.prog 67 #[.agg #[.int .i8 op, .int .i64 id, .int .i64 par, .int .i64 at_, .string tx, .int .i64 x.id, .int .i64 x.kind, .string x.text, .slice sa sn sc]] X (yK X Sx ⟨op, 0, 0, 0, ⟨#[]⟩, zk⟩) := fun X hX => zdO X Sx op id par at_ x.id x.kind tx x.text sa sn sc h1 h2 h3 h4
 have hsm : ∀ (X : World) (ba : Option Addr) (m bc : Nat) (S2 : Nat → Prop) (hm : m = foLen (⟨op, 0, 0, 0, ⟨#[]⟩, zk⟩ : Sf).sub.kids) (hX : Below w.heap.size w X) (hS2 : ∀ y, S2 y → y < X.heap.size) (h1 : m ≤ bc) (h2 : zB X S2 (⟨op, 0, 0, 0, ⟨#[]⟩, zk⟩ : Sf).sub.kids ba), Calls Tryz.prog 43 #[.agg #[.int .i8 op, .int .i64 id, .int .i64 par, .int .i64 at_, .string tx, .int .i64 x.id, .int .i64 x.kind, .string x.text, .slice sa sn sc], .agg #[.int .i8 (⟨op, 0, 0, 0, ⟨#[]⟩, zk⟩ : Sf).op, .int .i64 (⟨op, 0, 0, 0, ⟨#[]⟩, zk⟩ : Sf).id, .int .i64 (⟨op, 0, 0, 0, ⟨#[]⟩, zk⟩ : Sf).par, .int .i64 (⟨op, 0, 0, 0, ⟨#[]⟩, zk⟩ : Sf).at_, .string (⟨op, 0, 0, 0, ⟨#[]⟩, zk⟩ : Sf).tx, .int .i64 (⟨op, 0, 0, 0, ⟨#[]⟩, zk⟩ : Sf).sub.id, .int .i64 (⟨op, 0, 0, 0, ⟨#[]⟩, zk⟩ : Sf).sub.kind, .string (⟨op, 0, 0, 0, ⟨#[]⟩, zk⟩ : Sf).sub.text, .slice ba m bc]] X (EqC ⟨op, id, par, at_, tx, x⟩ ⟨op, 0, 0, 0, ⟨#[]⟩, zk⟩ X) := fun X ba m bc S2 hm hX hS2 h1 h2 => vF X Sx S2 ⟨op, id, par, at_, tx, x⟩ ⟨op, 0, 0, 0, ⟨#[]⟩, zk⟩ sa ba sn sc m bc hsn hm (fun y hy => nL (hSx y hy) hX.size) hS2 hcap (by rw [← hm]; exact h1) (hk.below hX hSx) h2 (by simp only; omega)
 have HPL := hH hpl
 have HSM := hH hsm
 have q1 : (op == 1) = false := by simpa using h1
 have q2 : (op == 2) = false := by simpa using h2
 have q3 : (op == 3) = false := by simpa using h3
 have q4 : (op == 4) = false := by simpa using h4
 clear hb hB eB hpl hsm hsn hSx hcap hk hz h1 h2 h3 h4
 obtain ⟨E, hE⟩ : ∃ E, E = eqS ⟨op, id, par, at_, tx, x⟩ ⟨op, 0, 0, 0, ⟨#[]⟩, zk⟩ := ⟨_, rfl⟩
 unfold EqC at HSM
 rw [← hE] at HSM
 clear hE
 go_enter Tryz.func28, Tryz.ntmps28
 go_upto_region 1 with fail
 change Code.wp _ _ _ _ (w.alloc (.cells #[.int .i8 op, .int .i64 id, .int .i64 par, .int .i64 at_, .string tx, .int .i64 x.id, .int .i64 x.kind, .string x.text, .slice sa sn sc] 41))
 rw [← HB.out.2]
 refine wp_region_held_drew (S := fun X => Below B.heap.size B X) (by kernel_rfl) (zX (Below.refl _ _) 1) (fun hHeld => ?_)
 refine tkH (i := 0) (.agg #[.int .i8 op, .int .i64 id, .int .i64 par, .int .i64 at_, .string tx, .int .i64 x.id, .int .i64 x.kind, .string x.text, .slice sa sn sc]) rfl (Or.inl ⟨by rfl, ?_⟩) (by assumption) ?_
 · clear hHeld; intro X hSw; obtain ⟨k0, k1, k2, k3, k4, k5, k6, k7, k8⟩ := HC.out X hSw; clear hSw; go_simp
 simp only [Act.put, pg]
 refine tkH (i := 1) (.agg #[.int .i8 op, .int .i64 id, .int .i64 par, .int .i64 at_, .string tx, .int .i64 x.id, .int .i64 x.kind, .string x.text, .slice sa sn sc]) rfl (Or.inl ⟨by rfl, ?_⟩) (by assumption) ?_
 · clear hHeld; intro X hSw; obtain ⟨k0, k1, k2, k3, k4, k5, k6, k7, k8⟩ := HC.out X hSw; clear hSw; go_simp
 simp only [Act.put, pg]
 refine wpAnyH_ready (rs := [2]) (by kernel_rfl) (by simp) ?_
 refine AllReadyH.cons (o := _) rfl (fun K hK => ?_) AllReadyH.nil
 rw [if_pos (by rfl)]
 simp only [pg3]
 have HK := hH hK
 have HS := hH hHeld
 clear hK hHeld
 go_wp2_with (go_at_call 67; refine (HPL.out _ (HB.out.1.trans (HS.out.mono HB.out.1.size))).mono ?_; rintro e V1 ⟨_, rfl, ⟨ya, yc, rfl, hyc, hyf⟩, hbv⟩; have HV := hH (aN (HS.out.trans (hbv.mono HS.out.size)) (aN hyc hyf)); clear hbv hyc hyf)
 obtain ⟨ym, hym⟩ : ∃ ym, ym = foLen (⟨op, 0, 0, 0, ⟨#[]⟩, zk⟩ : Sf).sub.kids := ⟨_, rfl⟩
 rw [← hym]
 rw [← hym] at HV
 refine HK.out _ _ HV.out.1 (fun hHeld => ?_)
 clear HK HS
 have HSC := hH (HSM.out V1 ya ym yc _ hym (HB.out.1.trans (HV.out.1.mono HB.out.1.size)) (fun y hy => hy.2) HV.out.2.1 HV.out.2.2)
 clear hym
 refine wpAnyH_ready (rs := [3]) (by kernel_rfl) (by simp) ?_
 refine AllReadyH.cons (o := _) rfl (fun K hK => ?_) AllReadyH.nil
 rw [if_pos (by rfl)]
 simp only [pg3]
 have HK := hH hK
 have HS := hH hHeld
 clear hK hHeld
 go_wp2_with (go_at_call 43; refine HSC.out.mono ?_; rintro e V2 ⟨rfl, hbv⟩; have HV2 := hH (HV.out.1.trans (hbv.mono HV.out.1.size)); clear hbv)
 refine HK.out _ _ HV2.out (fun hHeld => ?_)
 clear HK HS HSC
 refine tkH (i := 4) (.bool E) rfl (Or.inl ⟨by rfl, fun X _ => by clear hHeld; go_simp⟩) (by assumption) ?_
 simp only [Act.put, pg]
 refine wpAnyH_done (by kernel_rfl) ?_ _
 clear hHeld
 obtain ⟨k0, k1, k2, k3, k4, k5, k6, k7, k8⟩ := HC.out V2 HV2.out
 go_wp2_with fail
 go_ret
 exact ⟨by rw [HST.out]; rfl, (HB.out.1.trans (HV2.out.mono HB.out.1.size))⟩
theorem zaO (w : World) (Sx : Nat → Prop) (s : Sf) (sa : Option Addr) (sn sc : Nat) (hsn : sn = foLen s.sub.kids) (hSx : ∀ y, Sx y → y < w.heap.size) (hcap : foLen s.sub.kids ≤ sc) (hk : zB w Sx s.sub.kids sa) (hz : ze s.sub.kids + 1 ≤ 100000) :
 Calls Tryz.prog 28 #[.agg #[.int .i8 s.op, .int .i64 s.id, .int .i64 s.par, .int .i64 s.at_, .string s.tx, .int .i64 s.sub.id, .int .i64 s.sub.kind, .string s.sub.text, .slice sa sn sc]] w fun e w' => e = .returned (.bool (yD s)) ∧ Below w.heap.size w w' := by
 obtain ⟨op, id, par, at_, tx, x⟩ := s
 by_cases h1 : op = 1
 · subst h1; exact zeQ w Sx id par at_ tx x sa sn sc hsn hSx hcap hk hz
 by_cases h2 : op = 2
 · subst h2; exact zeR w Sx id par at_ tx x sa sn sc hsn hSx hcap hk hz
 by_cases h3 : op = 3
 · subst h3; exact zeS w Sx id par at_ tx x sa sn sc hsn hSx hcap hk hz
 by_cases h4 : op = 4
 · subst h4; exact zeT w Sx id par at_ tx x sa sn sc hsn hSx hcap hk hz
 exact zeP w Sx op id par at_ tx x sa sn sc hsn hSx hcap hk hz h1 h2 h3 h4
end Go.Proofs.YtchccbfljamjnaaGreat
