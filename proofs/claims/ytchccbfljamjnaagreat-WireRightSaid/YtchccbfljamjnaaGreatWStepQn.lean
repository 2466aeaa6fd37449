/-
  .
-/
import Derived.Deep.Cut
import Derived.StillTailTactics
import Derived.Test.YtchccbfljamjnaaGreatWTreeBQn
import Derived.Test.YtchccbfljamjnaaGreatWSameQn
import Derived.Test.YtchccbfljamjnaaGreatJPgQn
set_option maxRecDepth 100000
set_option maxHeartbeats 40000000
namespace Go.Proofs.YtchccbfljamjnaaGreat
open Go.RowKit Go.Shelf
set_option linter.unusedVariables false
set_option linter.unusedSimpArgs false
def zeJ (s : Sf) : Sf := if s.op = 1 then ⟨1, 0, s.par, s.at_, ⟨#[]⟩, s.sub⟩ else if s.op = 2 then ⟨2, s.id, 0, 0, ⟨#[]⟩, zk⟩ else if s.op = 3 then ⟨3, s.id, s.par, s.at_, ⟨#[]⟩, zk⟩ else if s.op = 4 then ⟨4, s.id, 0, 0, s.tx, zk⟩ else ⟨s.op, 0, 0, 0, ⟨#[]⟩, zk⟩
def zay (s : Sf) : Bool := if s.op = 1 then zh 1 1125899906842624 s.par && (zh 0 1125899906842624 s.at_ && zT s.sub) else if s.op = 2 then zh 1 1125899906842624 s.id else if s.op = 3 then zh 1 1125899906842624 s.id && (zh 1 1125899906842624 s.par && zh 0 1125899906842624 s.at_) else if s.op = 4 then zh 1 1125899906842624 s.id && decide (s.tx.size ≤ 40) else false
def yD (s : Sf) : Bool := zay s && eqS s (zeJ s)
theorem jQ {w : World} {b : Nat} {c0 c1 c2 c3 c4 c5 c6 c7 c8 : Value} {T : TypeId} (h : w.heap[b]? = some (.cells #[c0, c1, c2, c3, c4, c5, c6, c7, c8] T (0, 0))) : w.cell? ⟨b, 0, none⟩ = some c0 ∧ w.cell? ⟨b, 1, none⟩ = some c1 ∧ w.cell? ⟨b, 2, none⟩ = some c2 ∧ w.cell? ⟨b, 3, none⟩ = some c3 ∧ w.cell? ⟨b, 4, none⟩ = some c4 ∧ w.cell? ⟨b, 5, none⟩ = some c5 ∧ w.cell? ⟨b, 6, none⟩ = some c6 ∧ w.cell? ⟨b, 7, none⟩ = some c7 ∧ w.cell? ⟨b, 8, none⟩ = some c8 :=
 ⟨by rw [cell_of_row _ _ 0 _ _ _ h]; rfl, by rw [cell_of_row _ _ 1 _ _ _ h]; rfl, by rw [cell_of_row _ _ 2 _ _ _ h]; rfl, by rw [cell_of_row _ _ 3 _ _ _ h]; rfl, by rw [cell_of_row _ _ 4 _ _ _ h]; rfl, by rw [cell_of_row _ _ 5 _ _ _ h]; rfl, by rw [cell_of_row _ _ 6 _ _ _ h]; rfl, by rw [cell_of_row _ _ 7 _ _ _ h]; rfl, by rw [cell_of_row _ _ 8 _ _ _ h]; rfl⟩
theorem zX {w X : World} {B : Nat} (h : Below B w X) (n : Nat) : Below B w { X with drawn := X.drawn + n } := ⟨h.os, h.tape, h.output, h.size, h.block⟩
theorem zcJ (w : World) (Sx : Nat → Prop) (id par at_ : Int) (tx : ByteArray) (x : Tr) (sa : Option Addr) (sn sc : Nat) (hsn : sn = foLen x.kids) (hSx : ∀ y, Sx y → y < w.heap.size) (hcap : foLen x.kids ≤ sc) (hk : zB w Sx x.kids sa) (hz : ze x.kids + 1 ≤ 100000) :
 Calls Tryz.prog 66 #[.agg #[.int .i8 1, .int .i64 id, .int .i64 par, .int .i64 at_, .string tx, .int .i64 x.id, .int .i64 x.kind, .string x.text, .slice sa sn sc]] w (yt (yD ⟨1, id, par, at_, tx, x⟩) w) := by
 obtain ⟨B, hB⟩ : ∃ B, B = w.alloc (.cells #[.int .i8 1, .int .i64 id, .int .i64 par, .int .i64 at_, .string tx, .int .i64 x.id, .int .i64 x.kind, .string x.text, .slice sa sn sc] 41) := ⟨_, rfl⟩
 have hb : Below w.heap.size w B := by rw [hB]; exact (Below.refl _ _).alloc (Nat.le_refl _) _
 have eB : B.heap[w.heap.size]? = some (.cells #[.int .i8 1, .int .i64 id, .int .i64 par, .int .i64 at_, .string tx, .int .i64 x.id, .int .i64 x.kind, .string x.text, .slice sa sn sc] 41 (0, 0)) := by rw [hB]; exact heap_alloc_new _ _
 have HC := hH (fun (Y : World) (hY : Below B.heap.size B Y) => jQ ((hY.block _ (lt_of_heap eB)).trans eB))
 have HB := hH (aN hb hB)
 have HST := hH (show yD ⟨1, id, par, at_, tx, x⟩ = (zh 1 1125899906842624 par && (zh 0 1125899906842624 at_ && (zT x)) && eqS ⟨1, id, par, at_, tx, x⟩ ⟨1, 0, par, at_, ⟨#[]⟩, x⟩) from rfl)
 have hpl : ∀ X, Below w.heap.size w X → Calls Tryz.prog 112 #[.agg #[.int .i8 1, .int .i64 id, .int .i64 par, .int .i64 at_, .string tx, .int .i64 x.id, .int .i64 x.kind, .string x.text, .slice sa sn sc]] X (yK X Sx ⟨1, 0, par, at_, ⟨#[]⟩, x⟩) := fun X hX => zeF X Sx x id par at_ tx sa sn sc (fun y hy => nL (hSx y hy) hX.size) ⟨sa, sc, by rw [hsn], hcap, hk.below hX hSx⟩ (by omega)
 have hsm : ∀ (X : World) (ba : Option Addr) (m bc : Nat) (S2 : Nat → Prop) (hm : m = foLen (⟨1, 0, par, at_, ⟨#[]⟩, x⟩ : Sf).sub.kids) (hX : Below w.heap.size w X) (hS2 : ∀ y, S2 y → y < X.heap.size) (h1 : m ≤ bc) (h2 : zB X S2 (⟨1, 0, par, at_, ⟨#[]⟩, x⟩ : Sf).sub.kids ba), Calls Tryz.prog 109 #[.agg #[.int .i8 1, .int .i64 id, .int .i64 par, .int .i64 at_, .string tx, .int .i64 x.id, .int .i64 x.kind, .string x.text, .slice sa sn sc], .agg #[.int .i8 (⟨1, 0, par, at_, ⟨#[]⟩, x⟩ : Sf).op, .int .i64 (⟨1, 0, par, at_, ⟨#[]⟩, x⟩ : Sf).id, .int .i64 (⟨1, 0, par, at_, ⟨#[]⟩, x⟩ : Sf).par, .int .i64 (⟨1, 0, par, at_, ⟨#[]⟩, x⟩ : Sf).at_, .string (⟨1, 0, par, at_, ⟨#[]⟩, x⟩ : Sf).tx, .int .i64 (⟨1, 0, par, at_, ⟨#[]⟩, x⟩ : Sf).sub.id, .int .i64 (⟨1, 0, par, at_, ⟨#[]⟩, x⟩ : Sf).sub.kind, .string (⟨1, 0, par, at_, ⟨#[]⟩, x⟩ : Sf).sub.text, .slice ba m bc]] X (EqC ⟨1, id, par, at_, tx, x⟩ ⟨1, 0, par, at_, ⟨#[]⟩, x⟩ X) := fun X ba m bc S2 hm hX hS2 h1 h2 => je X Sx S2 ⟨1, id, par, at_, tx, x⟩ ⟨1, 0, par, at_, ⟨#[]⟩, x⟩ sa ba sn sc m bc hsn hm (fun y hy => nL (hSx y hy) hX.size) hS2 hcap (by rw [← hm]; exact h1) (hk.below hX hSx) h2 (by simp only; omega) (by simp only; omega)
 have htr : ∀ X, Below w.heap.size w X → Calls Tryz.prog 69 #[.agg #[.int .i64 x.id, .int .i64 x.kind, .string x.text, .slice sa sn sc]] X (yt (zT x) X) := fun X hX => Zf X Sx x sa sn sc hsn (fun y hy => nL (hSx y hy) hX.size) (hk.below hX hSx)
 have HPL := hH hpl
 have HSM := hH hsm
 have HTR := hH htr
 obtain ⟨k0, k1, k2, k3, k4, k5, k6, k7, k8⟩ := HC.out B (Below.refl _ _)
 clear hb hB eB hpl hsm hsn hSx hcap hk hz htr
 obtain ⟨E, hE⟩ : ∃ E, E = eqS ⟨1, id, par, at_, tx, x⟩ ⟨1, 0, par, at_, ⟨#[]⟩, x⟩ := ⟨_, rfl⟩
 rw [← hE] at HST
 unfold EqC at HSM
 rw [← hE] at HSM
 clear hE
 go_enter Tryz.func66, Tryz.ntmps66
 go_upto_region 1 with fail
 change Code.wp _ _ _ _ (w.alloc (.cells #[.int .i8 1, .int .i64 id, .int .i64 par, .int .i64 at_, .string tx, .int .i64 x.id, .int .i64 x.kind, .string x.text, .slice sa sn sc] 41))
 rw [← HB.out.2]
 go_wp2_with fail
 refine (zU B par 1 1125899906842624).mono ?_
 intro e W1 hq
 cases hb0 : zh 1 1125899906842624 par
 · rw [hb0] at hq
   obtain ⟨rfl, hb2⟩ := hq.f
   exact ⟨rfl, yt.no (by rw [HST.out, hb0]; simp) (HB.out.1.trans (hb2.mono HB.out.1.size))⟩
 rw [hb0] at hq
 obtain ⟨rfl, hb2⟩ := hq.t
 have HF0 := hH hb0
 have H1 := hH (hb2)
 clear hq hb2 k0 k1 k2 k3 k4 k5 k6 k7 k8 hb0
 obtain ⟨k0, k1, k2, k3, k4, k5, k6, k7, k8⟩ := HC.out W1 H1.out
 go_wp2_with fail
 refine (zU W1 at_ 0 1125899906842624).mono ?_
 intro e W2 hq
 cases hb0 : zh 0 1125899906842624 at_
 · rw [hb0] at hq
   obtain ⟨rfl, hb2⟩ := hq.f
   exact ⟨rfl, yt.no (by rw [HST.out, hb0, HF0.out]; simp) (HB.out.1.trans ((H1.out.trans (hb2.mono H1.out.size)).mono HB.out.1.size))⟩
 rw [hb0] at hq
 obtain ⟨rfl, hb2⟩ := hq.t
 have HF1 := hH hb0
 have H2 := hH (H1.out.trans (hb2.mono H1.out.size))
 clear hq hb2 k0 k1 k2 k3 k4 k5 k6 k7 k8 hb0 H1
 obtain ⟨k0, k1, k2, k3, k4, k5, k6, k7, k8⟩ := HC.out W2 H2.out
 go_wp2_with fail
 refine (HTR.out W2 (HB.out.1.trans (H2.out.mono HB.out.1.size))).mono ?_
 intro e W3 hq
 cases hb0 : zT x
 · rw [hb0] at hq
   obtain ⟨rfl, hb2⟩ := hq.f
   exact ⟨rfl, yt.no (by rw [HST.out, hb0, HF0.out, HF1.out]; simp) (HB.out.1.trans ((H2.out.trans (hb2.mono H2.out.size)).mono HB.out.1.size))⟩
 rw [hb0] at hq
 obtain ⟨rfl, hb2⟩ := hq.t
 have HF2 := hH hb0
 have H3 := hH (H2.out.trans (hb2.mono H2.out.size))
 clear hq hb2 k0 k1 k2 k3 k4 k5 k6 k7 k8 hb0 H2
 obtain ⟨k0, k1, k2, k3, k4, k5, k6, k7, k8⟩ := HC.out W3 H3.out
 go_upto_region 16 with fail
 clear k0 k1 k2 k3 k4 k5 k6 k7 k8
 refine wp_region_held_drew (S := fun X => Below B.heap.size B X) (by kernel_rfl) (zX H3.out 1) (fun hHeld => ?_)
 refine tkH (i := 0) (.agg #[.int .i8 1, .int .i64 id, .int .i64 par, .int .i64 at_, .string tx, .int .i64 x.id, .int .i64 x.kind, .string x.text, .slice sa sn sc]) rfl (Or.inl ⟨by rfl, ?_⟩) (by assumption) ?_
 · clear hHeld; intro X hSw; obtain ⟨k0, k1, k2, k3, k4, k5, k6, k7, k8⟩ := HC.out X hSw; clear hSw; go_simp
 simp only [Act.put, pg]
 refine tkH (i := 1) (.agg #[.int .i8 1, .int .i64 id, .int .i64 par, .int .i64 at_, .string tx, .int .i64 x.id, .int .i64 x.kind, .string x.text, .slice sa sn sc]) rfl (Or.inl ⟨by rfl, ?_⟩) (by assumption) ?_
 · clear hHeld; intro X hSw; obtain ⟨k0, k1, k2, k3, k4, k5, k6, k7, k8⟩ := HC.out X hSw; clear hSw; go_simp
 simp only [Act.put, pg]
 refine wpAnyH_ready (rs := [2]) (by kernel_rfl) (by simp) ?_
 refine AllReadyH.cons (o := _) rfl (fun K hK => ?_) AllReadyH.nil
 rw [if_pos (by rfl)]
 simp only [pg3]
 have HK := hH hK
 have HS := hH hHeld
 clear hK hHeld
 go_wp2_with (go_at_call 112; refine (HPL.out _ (HB.out.1.trans (HS.out.mono HB.out.1.size))).mono ?_; rintro e V1 ⟨_, rfl, ⟨ya, yc, rfl, hyc, hyf⟩, hbv⟩; have HV := hH (aN (HS.out.trans (hbv.mono HS.out.size)) (aN hyc hyf)); clear hbv hyc hyf)
 obtain ⟨ym, hym⟩ : ∃ ym, ym = foLen (⟨1, 0, par, at_, ⟨#[]⟩, x⟩ : Sf).sub.kids := ⟨_, rfl⟩
 rw [← hym]
 rw [← hym] at HV
 refine HK.out _ _ HV.out.1 (fun hHeld => ?_)
 clear HK HS
 have HSC := hH (HSM.out V1 ya ym yc _ hym (HB.out.1.trans (HV.out.1.mono HB.out.1.size)) (fun y hy => hy.2) HV.out.2.1 HV.out.2.2)
 clear hym
 refine wpAnyH_ready (rs := [3]) (by kernel_rfl) (by simp) ?_
 refine AllReadyH.cons (o := _) rfl (fun K hK => ?_) AllReadyH.nil
 rw [if_pos (by rfl)]
 simp only [pg3]
 have HK := hH hK
 have HS := hH hHeld
 clear hK hHeld
 go_wp2_with (go_at_call 109; refine HSC.out.mono ?_; rintro e V2 ⟨rfl, hbv⟩; have HV2 := hH (HV.out.1.trans (hbv.mono HV.out.1.size)); clear hbv)
 refine HK.out _ _ HV2.out (fun hHeld => ?_)
 clear HK HS HSC
 refine wpAnyH_ready (rs := [4]) (by kernel_rfl) (by simp) ?_
 refine AllReadyH.cons (o := _) rfl (fun K hK => ?_) AllReadyH.nil
 rw [if_pos (by rfl)]
 simp only [pg3]
 have HK := hH hK
 have HS := hH hHeld
 clear hK hHeld
 cases E
 · go_wp2_with fail
   refine (zZ V2 false).mono ?_
   intro e V3 hq; obtain ⟨rfl, hb2⟩ := hq.f
   exact ⟨rfl, yt.no (by rw [HST.out]; simp) (HB.out.1.trans ((HV2.out.trans (hb2.mono HV2.out.size)).mono HB.out.1.size))⟩
 go_wp2_with fail
 refine (zZ V2 true).mono ?_
 intro e V3 hq; obtain ⟨rfl, hb2⟩ := hq.t
 have HV3 := hH (HV2.out.trans (hb2.mono HV2.out.size))
 clear hq hb2
 refine HK.out _ _ HV3.out (fun hHeld => ?_)
 clear HK HS
 refine wpAnyH_done (by kernel_rfl) ?_ _
 clear hHeld
 go_wp2_with fail
 go_end0
 exact yt.yes (by rw [HST.out, HF0.out, HF1.out, HF2.out]; rfl) (HB.out.1.trans (HV3.out.mono HB.out.1.size))
theorem zcK (w : World) (Sx : Nat → Prop) (id par at_ : Int) (tx : ByteArray) (x : Tr) (sa : Option Addr) (sn sc : Nat) (hsn : sn = foLen x.kids) (hSx : ∀ y, Sx y → y < w.heap.size) (hcap : foLen x.kids ≤ sc) (hk : zB w Sx x.kids sa) (hz : ze x.kids + 1 ≤ 100000) :
 Calls Tryz.prog 66 #[.agg #[.int .i8 2, .int .i64 id, .int .i64 par, .int .i64 at_, .string tx, .int .i64 x.id, .int .i64 x.kind, .string x.text, .slice sa sn sc]] w (yt (yD ⟨2, id, par, at_, tx, x⟩) w) := by
 obtain ⟨B, hB⟩ : ∃ B, B = w.alloc (.cells #[.int .i8 2, .int .i64 id, .int .i64 par, .int .i64 at_, .string tx, .int .i64 x.id, .int .i64 x.kind, .string x.text, .slice sa sn sc] 41) := ⟨_, rfl⟩
 have hb : Below w.heap.size w B := by rw [hB]; exact (Below.refl _ _).alloc (Nat.le_refl _) _
 have eB : B.heap[w.heap.size]? = some (.cells #[.int .i8 2, .int .i64 id, .int .i64 par, .int .i64 at_, .string tx, .int .i64 x.id, .int .i64 x.kind, .string x.text, .slice sa sn sc] 41 (0, 0)) := by rw [hB]; exact heap_alloc_new _ _
 have HC := hH (fun (Y : World) (hY : Below B.heap.size B Y) => jQ ((hY.block _ (lt_of_heap eB)).trans eB))
 have HB := hH (aN hb hB)
 have HST := hH (show yD ⟨2, id, par, at_, tx, x⟩ = (zh 1 1125899906842624 id && eqS ⟨2, id, par, at_, tx, x⟩ ⟨2, id, 0, 0, ⟨#[]⟩, zk⟩) from rfl)
 have hpl : ∀ X, Below w.heap.size w X → Calls Tryz.prog 112 #[.agg #[.int .i8 2, .int .i64 id, .int .i64 par, .int .i64 at_, .string tx, .int .i64 x.id, .int .i64 x.kind, .string x.text, .slice sa sn sc]] X (yK X Sx ⟨2, id, 0, 0, ⟨#[]⟩, zk⟩) := fun X hX => zeG X Sx id par at_ x.id x.kind tx x.text sa sn sc
 have hsm : ∀ (X : World) (ba : Option Addr) (m bc : Nat) (S2 : Nat → Prop) (hm : m = foLen (⟨2, id, 0, 0, ⟨#[]⟩, zk⟩ : Sf).sub.kids) (hX : Below w.heap.size w X) (hS2 : ∀ y, S2 y → y < X.heap.size) (h1 : m ≤ bc) (h2 : zB X S2 (⟨2, id, 0, 0, ⟨#[]⟩, zk⟩ : Sf).sub.kids ba), Calls Tryz.prog 109 #[.agg #[.int .i8 2, .int .i64 id, .int .i64 par, .int .i64 at_, .string tx, .int .i64 x.id, .int .i64 x.kind, .string x.text, .slice sa sn sc], .agg #[.int .i8 (⟨2, id, 0, 0, ⟨#[]⟩, zk⟩ : Sf).op, .int .i64 (⟨2, id, 0, 0, ⟨#[]⟩, zk⟩ : Sf).id, .int .i64 (⟨2, id, 0, 0, ⟨#[]⟩, zk⟩ : Sf).par, .int .i64 (⟨2, id, 0, 0, ⟨#[]⟩, zk⟩ : Sf).at_, .string (⟨2, id, 0, 0, ⟨#[]⟩, zk⟩ : Sf).tx, .int .i64 (⟨2, id, 0, 0, ⟨#[]⟩, zk⟩ : Sf).sub.id, .int .i64 (⟨2, id, 0, 0, ⟨#[]⟩, zk⟩ : Sf).sub.kind, .string (⟨2, id, 0, 0, ⟨#[]⟩, zk⟩ : Sf).sub.text, .slice ba m bc]] X (EqC ⟨2, id, par, at_, tx, x⟩ ⟨2, id, 0, 0, ⟨#[]⟩, zk⟩ X) := fun X ba m bc S2 hm hX hS2 h1 h2 => je X Sx S2 ⟨2, id, par, at_, tx, x⟩ ⟨2, id, 0, 0, ⟨#[]⟩, zk⟩ sa ba sn sc m bc hsn hm (fun y hy => nL (hSx y hy) hX.size) hS2 hcap (by rw [← hm]; exact h1) (hk.below hX hSx) h2 (by simp only; omega) (by show ze zk.kids + 1 ≤ 400000; decide)
 have HPL := hH hpl
 have HSM := hH hsm
 obtain ⟨k0, k1, k2, k3, k4, k5, k6, k7, k8⟩ := HC.out B (Below.refl _ _)
 clear hb hB eB hpl hsm hsn hSx hcap hk hz
 obtain ⟨E, hE⟩ : ∃ E, E = eqS ⟨2, id, par, at_, tx, x⟩ ⟨2, id, 0, 0, ⟨#[]⟩, zk⟩ := ⟨_, rfl⟩
 rw [← hE] at HST
 unfold EqC at HSM
 rw [← hE] at HSM
 clear hE
 go_enter Tryz.func66, Tryz.ntmps66
 go_upto_region 1 with fail
 change Code.wp _ _ _ _ (w.alloc (.cells #[.int .i8 2, .int .i64 id, .int .i64 par, .int .i64 at_, .string tx, .int .i64 x.id, .int .i64 x.kind, .string x.text, .slice sa sn sc] 41))
 rw [← HB.out.2]
 go_wp2_with fail
 refine (zU B id 1 1125899906842624).mono ?_
 intro e W1 hq
 cases hb0 : zh 1 1125899906842624 id
 · rw [hb0] at hq
   obtain ⟨rfl, hb2⟩ := hq.f
   exact ⟨rfl, yt.no (by rw [HST.out, hb0]; simp) (HB.out.1.trans (hb2.mono HB.out.1.size))⟩
 rw [hb0] at hq
 obtain ⟨rfl, hb2⟩ := hq.t
 have HF0 := hH hb0
 have H1 := hH (hb2)
 clear hq hb2 k0 k1 k2 k3 k4 k5 k6 k7 k8 hb0
 obtain ⟨k0, k1, k2, k3, k4, k5, k6, k7, k8⟩ := HC.out W1 H1.out
 go_upto_region 16 with fail
 clear k0 k1 k2 k3 k4 k5 k6 k7 k8
 refine wp_region_held_drew (S := fun X => Below B.heap.size B X) (by kernel_rfl) (zX H1.out 1) (fun hHeld => ?_)
 refine tkH (i := 0) (.agg #[.int .i8 2, .int .i64 id, .int .i64 par, .int .i64 at_, .string tx, .int .i64 x.id, .int .i64 x.kind, .string x.text, .slice sa sn sc]) rfl (Or.inl ⟨by rfl, ?_⟩) (by assumption) ?_
 · clear hHeld; intro X hSw; obtain ⟨k0, k1, k2, k3, k4, k5, k6, k7, k8⟩ := HC.out X hSw; clear hSw; go_simp
 simp only [Act.put, pg]
 refine tkH (i := 1) (.agg #[.int .i8 2, .int .i64 id, .int .i64 par, .int .i64 at_, .string tx, .int .i64 x.id, .int .i64 x.kind, .string x.text, .slice sa sn sc]) rfl (Or.inl ⟨by rfl, ?_⟩) (by assumption) ?_
 · clear hHeld; intro X hSw; obtain ⟨k0, k1, k2, k3, k4, k5, k6, k7, k8⟩ := HC.out X hSw; clear hSw; go_simp
 simp only [Act.put, pg]
 refine wpAnyH_ready (rs := [2]) (by kernel_rfl) (by simp) ?_
 refine AllReadyH.cons (o := _) rfl (fun K hK => ?_) AllReadyH.nil
 rw [if_pos (by rfl)]
 simp only [pg3]
 have HK := hH hK
 have HS := hH hHeld
 clear hK hHeld
 go_wp2_with (go_at_call 112; refine (HPL.out _ (HB.out.1.trans (HS.out.mono HB.out.1.size))).mono ?_; rintro e V1 ⟨_, rfl, ⟨ya, yc, rfl, hyc, hyf⟩, hbv⟩; have HV := hH (aN (HS.out.trans (hbv.mono HS.out.size)) (aN hyc hyf)); clear hbv hyc hyf)
 obtain ⟨ym, hym⟩ : ∃ ym, ym = foLen (⟨2, id, 0, 0, ⟨#[]⟩, zk⟩ : Sf).sub.kids := ⟨_, rfl⟩
 rw [← hym]
 rw [← hym] at HV
 refine HK.out _ _ HV.out.1 (fun hHeld => ?_)
 clear HK HS
 have HSC := hH (HSM.out V1 ya ym yc _ hym (HB.out.1.trans (HV.out.1.mono HB.out.1.size)) (fun y hy => hy.2) HV.out.2.1 HV.out.2.2)
 clear hym
 refine wpAnyH_ready (rs := [3]) (by kernel_rfl) (by simp) ?_
 refine AllReadyH.cons (o := _) rfl (fun K hK => ?_) AllReadyH.nil
 rw [if_pos (by rfl)]
 simp only [pg3]
 have HK := hH hK
 have HS := hH hHeld
 clear hK hHeld
 go_wp2_with (go_at_call 109; refine HSC.out.mono ?_; rintro e V2 ⟨rfl, hbv⟩; have HV2 := hH (HV.out.1.trans (hbv.mono HV.out.1.size)); clear hbv)
 refine HK.out _ _ HV2.out (fun hHeld => ?_)
 clear HK HS HSC
 refine wpAnyH_ready (rs := [4]) (by kernel_rfl) (by simp) ?_
 refine AllReadyH.cons (o := _) rfl (fun K hK => ?_) AllReadyH.nil
 rw [if_pos (by rfl)]
 simp only [pg3]
 have HK := hH hK
 have HS := hH hHeld
 clear hK hHeld
 cases E
 · go_wp2_with fail
   refine (zZ V2 false).mono ?_
   intro e V3 hq; obtain ⟨rfl, hb2⟩ := hq.f
   exact ⟨rfl, yt.no (by rw [HST.out]; simp) (HB.out.1.trans ((HV2.out.trans (hb2.mono HV2.out.size)).mono HB.out.1.size))⟩
 go_wp2_with fail
 refine (zZ V2 true).mono ?_
 intro e V3 hq; obtain ⟨rfl, hb2⟩ := hq.t
 have HV3 := hH (HV2.out.trans (hb2.mono HV2.out.size))
 clear hq hb2
 refine HK.out _ _ HV3.out (fun hHeld => ?_)
 clear HK HS
 refine wpAnyH_done (by kernel_rfl) ?_ _
 clear hHeld
 go_wp2_with fail
 go_end0
 exact yt.yes (by rw [HST.out, HF0.out]; rfl) (HB.out.1.trans (HV3.out.mono HB.out.1.size))
theorem zcL (w : World) (Sx : Nat → Prop) (id par at_ : Int) (tx : ByteArray) (x : Tr) (sa : Option Addr) (sn sc : Nat) (hsn : sn = foLen x.kids) (hSx : ∀ y, Sx y → y < w.heap.size) (hcap : foLen x.kids ≤ sc) (hk : zB w Sx x.kids sa) (hz : ze x.kids + 1 ≤ 100000) :
 Calls Tryz.prog 66 #[.agg #[.int .i8 3, .int .i64 id, .int .i64 par, .int .i64 at_, .string tx, .int .i64 x.id, .int .i64 x.kind, .string x.text, .slice sa sn sc]] w (yt (yD ⟨3, id, par, at_, tx, x⟩) w) := by
 obtain ⟨B, hB⟩ : ∃ B, B = w.alloc (.cells #[.int .i8 3, .int .i64 id, .int .i64 par, .int .i64 at_, .string tx, .int .i64 x.id, .int .i64 x.kind, .string x.text, .slice sa sn sc] 41) := ⟨_, rfl⟩
 have hb : Below w.heap.size w B := by rw [hB]; exact (Below.refl _ _).alloc (Nat.le_refl _) _
 have eB : B.heap[w.heap.size]? = some (.cells #[.int .i8 3, .int .i64 id, .int .i64 par, .int .i64 at_, .string tx, .int .i64 x.id, .int .i64 x.kind, .string x.text, .slice sa sn sc] 41 (0, 0)) := by rw [hB]; exact heap_alloc_new _ _
 have HC := hH (fun (Y : World) (hY : Below B.heap.size B Y) => jQ ((hY.block _ (lt_of_heap eB)).trans eB))
 have HB := hH (aN hb hB)
 have HST := hH (show yD ⟨3, id, par, at_, tx, x⟩ = (zh 1 1125899906842624 id && (zh 1 1125899906842624 par && (zh 0 1125899906842624 at_)) && eqS ⟨3, id, par, at_, tx, x⟩ ⟨3, id, par, at_, ⟨#[]⟩, zk⟩) from rfl)
 have hpl : ∀ X, Below w.heap.size w X → Calls Tryz.prog 112 #[.agg #[.int .i8 3, .int .i64 id, .int .i64 par, .int .i64 at_, .string tx, .int .i64 x.id, .int .i64 x.kind, .string x.text, .slice sa sn sc]] X (yK X Sx ⟨3, id, par, at_, ⟨#[]⟩, zk⟩) := fun X hX => zeH X Sx id par at_ x.id x.kind tx x.text sa sn sc
 have hsm : ∀ (X : World) (ba : Option Addr) (m bc : Nat) (S2 : Nat → Prop) (hm : m = foLen (⟨3, id, par, at_, ⟨#[]⟩, zk⟩ : Sf).sub.kids) (hX : Below w.heap.size w X) (hS2 : ∀ y, S2 y → y < X.heap.size) (h1 : m ≤ bc) (h2 : zB X S2 (⟨3, id, par, at_, ⟨#[]⟩, zk⟩ : Sf).sub.kids ba), Calls Tryz.prog 109 #[.agg #[.int .i8 3, .int .i64 id, .int .i64 par, .int .i64 at_, .string tx, .int .i64 x.id, .int .i64 x.kind, .string x.text, .slice sa sn sc], .agg #[.int .i8 (⟨3, id, par, at_, ⟨#[]⟩, zk⟩ : Sf).op, .int .i64 (⟨3, id, par, at_, ⟨#[]⟩, zk⟩ : Sf).id, .int .i64 (⟨3, id, par, at_, ⟨#[]⟩, zk⟩ : Sf).par, .int .i64 (⟨3, id, par, at_, ⟨#[]⟩, zk⟩ : Sf).at_, .string (⟨3, id, par, at_, ⟨#[]⟩, zk⟩ : Sf).tx, .int .i64 (⟨3, id, par, at_, ⟨#[]⟩, zk⟩ : Sf).sub.id, .int .i64 (⟨3, id, par, at_, ⟨#[]⟩, zk⟩ : Sf).sub.kind, .string (⟨3, id, par, at_, ⟨#[]⟩, zk⟩ : Sf).sub.text, .slice ba m bc]] X (EqC ⟨3, id, par, at_, tx, x⟩ ⟨3, id, par, at_, ⟨#[]⟩, zk⟩ X) := fun X ba m bc S2 hm hX hS2 h1 h2 => je X Sx S2 ⟨3, id, par, at_, tx, x⟩ ⟨3, id, par, at_, ⟨#[]⟩, zk⟩ sa ba sn sc m bc hsn hm (fun y hy => nL (hSx y hy) hX.size) hS2 hcap (by rw [← hm]; exact h1) (hk.below hX hSx) h2 (by simp only; omega) (by show ze zk.kids + 1 ≤ 400000; decide)
 have HPL := hH hpl
 have HSM := hH hsm
 obtain ⟨k0, k1, k2, k3, k4, k5, k6, k7, k8⟩ := HC.out B (Below.refl _ _)
 clear hb hB eB hpl hsm hsn hSx hcap hk hz
 obtain ⟨E, hE⟩ : ∃ E, E = eqS ⟨3, id, par, at_, tx, x⟩ ⟨3, id, par, at_, ⟨#[]⟩, zk⟩ := ⟨_, rfl⟩
 rw [← hE] at HST
 unfold EqC at HSM
 rw [← hE] at HSM
 clear hE
 go_enter Tryz.func66, Tryz.ntmps66
 go_upto_region 1 with fail
 change Code.wp _ _ _ _ (w.alloc (.cells #[.int .i8 3, .int .i64 id, .int .i64 par, .int .i64 at_, .string tx, .int .i64 x.id, .int .i64 x.kind, .string x.text, .slice sa sn sc] 41))
 rw [← HB.out.2]
 go_wp2_with fail
 refine (zU B id 1 1125899906842624).mono ?_
 intro e W1 hq
 cases hb0 : zh 1 1125899906842624 id
 · rw [hb0] at hq
   obtain ⟨rfl, hb2⟩ := hq.f
   exact ⟨rfl, yt.no (by rw [HST.out, hb0]; simp) (HB.out.1.trans (hb2.mono HB.out.1.size))⟩
 rw [hb0] at hq
 obtain ⟨rfl, hb2⟩ := hq.t
 have HF0 := hH hb0
 have H1 := hH (hb2)
 clear hq hb2 k0 k1 k2 k3 k4 k5 k6 k7 k8 hb0
 obtain ⟨k0, k1, k2, k3, k4, k5, k6, k7, k8⟩ := HC.out W1 H1.out
 go_wp2_with fail
 refine (zU W1 par 1 1125899906842624).mono ?_
 intro e W2 hq
 cases hb0 : zh 1 1125899906842624 par
 · rw [hb0] at hq
   obtain ⟨rfl, hb2⟩ := hq.f
   exact ⟨rfl, yt.no (by rw [HST.out, hb0, HF0.out]; simp) (HB.out.1.trans ((H1.out.trans (hb2.mono H1.out.size)).mono HB.out.1.size))⟩
 rw [hb0] at hq
 obtain ⟨rfl, hb2⟩ := hq.t
 have HF1 := hH hb0
 have H2 := hH (H1.out.trans (hb2.mono H1.out.size))
 clear hq hb2 k0 k1 k2 k3 k4 k5 k6 k7 k8 hb0 H1
 obtain ⟨k0, k1, k2, k3, k4, k5, k6, k7, k8⟩ := HC.out W2 H2.out
 go_wp2_with fail
 refine (zU W2 at_ 0 1125899906842624).mono ?_
 intro e W3 hq
 cases hb0 : zh 0 1125899906842624 at_
 · rw [hb0] at hq
   obtain ⟨rfl, hb2⟩ := hq.f
   exact ⟨rfl, yt.no (by rw [HST.out, hb0, HF0.out, HF1.out]; simp) (HB.out.1.trans ((H2.out.trans (hb2.mono H2.out.size)).mono HB.out.1.size))⟩
 rw [hb0] at hq
 obtain ⟨rfl, hb2⟩ := hq.t
 have HF2 := hH hb0
 have H3 := hH (H2.out.trans (hb2.mono H2.out.size))
 clear hq hb2 k0 k1 k2 k3 k4 k5 k6 k7 k8 hb0 H2
 obtain ⟨k0, k1, k2, k3, k4, k5, k6, k7, k8⟩ := HC.out W3 H3.out
 go_upto_region 16 with fail
 clear k0 k1 k2 k3 k4 k5 k6 k7 k8
 refine wp_region_held_drew (S := fun X => Below B.heap.size B X) (by kernel_rfl) (zX H3.out 1) (fun hHeld => ?_)
 refine tkH (i := 0) (.agg #[.int .i8 3, .int .i64 id, .int .i64 par, .int .i64 at_, .string tx, .int .i64 x.id, .int .i64 x.kind, .string x.text, .slice sa sn sc]) rfl (Or.inl ⟨by rfl, ?_⟩) (by assumption) ?_
 · clear hHeld; intro X hSw; obtain ⟨k0, k1, k2, k3, k4, k5, k6, k7, k8⟩ := HC.out X hSw; clear hSw; go_simp
 simp only [Act.put, pg]
 refine tkH (i := 1) (.agg #[.int .i8 3, .int .i64 id, .int .i64 par, .int .i64 at_, .string tx, .int .i64 x.id, .int .i64 x.kind, .string x.text, .slice sa sn sc]) rfl (Or.inl ⟨by rfl, ?_⟩) (by assumption) ?_
 · clear hHeld; intro X hSw; obtain ⟨k0, k1, k2, k3, k4, k5, k6, k7, k8⟩ := HC.out X hSw; clear hSw; go_simp
 simp only [Act.put, pg]
 refine wpAnyH_ready (rs := [2]) (by kernel_rfl) (by simp) ?_
 refine AllReadyH.cons (o := _) rfl (fun K hK => ?_) AllReadyH.nil
 rw [if_pos (by rfl)]
 simp only [pg3]
 have HK := hH hK
 have HS := hH hHeld
 clear hK hHeld
 go_wp2_with (go_at_call 112; refine (HPL.out _ (HB.out.1.trans (HS.out.mono HB.out.1.size))).mono ?_; rintro e V1 ⟨_, rfl, ⟨ya, yc, rfl, hyc, hyf⟩, hbv⟩; have HV := hH (aN (HS.out.trans (hbv.mono HS.out.size)) (aN hyc hyf)); clear hbv hyc hyf)
 obtain ⟨ym, hym⟩ : ∃ ym, ym = foLen (⟨3, id, par, at_, ⟨#[]⟩, zk⟩ : Sf).sub.kids := ⟨_, rfl⟩
 rw [← hym]
 rw [← hym] at HV
 refine HK.out _ _ HV.out.1 (fun hHeld => ?_)
 clear HK HS
 have HSC := hH (HSM.out V1 ya ym yc _ hym (HB.out.1.trans (HV.out.1.mono HB.out.1.size)) (fun y hy => hy.2) HV.out.2.1 HV.out.2.2)
 clear hym
 refine wpAnyH_ready (rs := [3]) (by kernel_rfl) (by simp) ?_
 refine AllReadyH.cons (o := _) rfl (fun K hK => ?_) AllReadyH.nil
 rw [if_pos (by rfl)]
 simp only [pg3]
 have HK := hH hK
 have HS := hH hHeld
 clear hK hHeld
 go_wp2_with (go_at_call 109; refine HSC.out.mono ?_; rintro e V2 ⟨rfl, hbv⟩; have HV2 := hH (HV.out.1.trans (hbv.mono HV.out.1.size)); clear hbv)
 refine HK.out _ _ HV2.out (fun hHeld => ?_)
 clear HK HS HSC
 refine wpAnyH_ready (rs := [4]) (by kernel_rfl) (by simp) ?_
 refine AllReadyH.cons (o := _) rfl (fun K hK => ?_) AllReadyH.nil
 rw [if_pos (by rfl)]
 simp only [pg3]
 have HK := hH hK
 have HS := hH hHeld
 clear hK hHeld
 cases E
 · go_wp2_with fail
   refine (zZ V2 false).mono ?_
   intro e V3 hq; obtain ⟨rfl, hb2⟩ := hq.f
   exact ⟨rfl, yt.no (by rw [HST.out]; simp) (HB.out.1.trans ((HV2.out.trans (hb2.mono HV2.out.size)).mono HB.out.1.size))⟩
 go_wp2_with fail
 refine (zZ V2 true).mono ?_
 intro e V3 hq; obtain ⟨rfl, hb2⟩ := hq.t
 have HV3 := hH (HV2.out.trans (hb2.mono HV2.out.size))
 clear hq hb2
 refine HK.out _ _ HV3.out (fun hHeld => ?_)
 clear HK HS
 refine wpAnyH_done (by kernel_rfl) ?_ _
 clear hHeld
 go_wp2_with fail
 go_end0
 exact yt.yes (by rw [HST.out, HF0.out, HF1.out, HF2.out]; rfl) (HB.out.1.trans (HV3.out.mono HB.out.1.size))
theorem zcM (w : World) (Sx : Nat → Prop) (id par at_ : Int) (tx : ByteArray) (x : Tr) (sa : Option Addr) (sn sc : Nat) (hsn : sn = foLen x.kids) (hSx : ∀ y, Sx y → y < w.heap.size) (hcap : foLen x.kids ≤ sc) (hk : zB w Sx x.kids sa) (hz : ze x.kids + 1 ≤ 100000) :
 Calls Tryz.prog 66 #[.agg #[.int .i8 4, .int .i64 id, .int .i64 par, .int .i64 at_, .string tx, .int .i64 x.id, .int .i64 x.kind, .string x.text, .slice sa sn sc]] w (yt (yD ⟨4, id, par, at_, tx, x⟩) w) := by
 obtain ⟨B, hB⟩ : ∃ B, B = w.alloc (.cells #[.int .i8 4, .int .i64 id, .int .i64 par, .int .i64 at_, .string tx, .int .i64 x.id, .int .i64 x.kind, .string x.text, .slice sa sn sc] 41) := ⟨_, rfl⟩
 have hb : Below w.heap.size w B := by rw [hB]; exact (Below.refl _ _).alloc (Nat.le_refl _) _
 have eB : B.heap[w.heap.size]? = some (.cells #[.int .i8 4, .int .i64 id, .int .i64 par, .int .i64 at_, .string tx, .int .i64 x.id, .int .i64 x.kind, .string x.text, .slice sa sn sc] 41 (0, 0)) := by rw [hB]; exact heap_alloc_new _ _
 have HC := hH (fun (Y : World) (hY : Below B.heap.size B Y) => jQ ((hY.block _ (lt_of_heap eB)).trans eB))
 have HB := hH (aN hb hB)
 have HST := hH (show yD ⟨4, id, par, at_, tx, x⟩ = (zh 1 1125899906842624 id && (decide (tx.size ≤ 40)) && eqS ⟨4, id, par, at_, tx, x⟩ ⟨4, id, 0, 0, tx, zk⟩) from rfl)
 have hpl : ∀ X, Below w.heap.size w X → Calls Tryz.prog 112 #[.agg #[.int .i8 4, .int .i64 id, .int .i64 par, .int .i64 at_, .string tx, .int .i64 x.id, .int .i64 x.kind, .string x.text, .slice sa sn sc]] X (yK X Sx ⟨4, id, 0, 0, tx, zk⟩) := fun X hX => zeI X Sx id par at_ x.id x.kind tx x.text sa sn sc
 have hsm : ∀ (X : World) (ba : Option Addr) (m bc : Nat) (S2 : Nat → Prop) (hm : m = foLen (⟨4, id, 0, 0, tx, zk⟩ : Sf).sub.kids) (hX : Below w.heap.size w X) (hS2 : ∀ y, S2 y → y < X.heap.size) (h1 : m ≤ bc) (h2 : zB X S2 (⟨4, id, 0, 0, tx, zk⟩ : Sf).sub.kids ba), Calls Tryz.prog 109 #[.agg #[.int .i8 4, .int .i64 id, .int .i64 par, .int .i64 at_, .string tx, .int .i64 x.id, .int .i64 x.kind, .string x.text, .slice sa sn sc], .agg #[.int .i8 (⟨4, id, 0, 0, tx, zk⟩ : Sf).op, .int .i64 (⟨4, id, 0, 0, tx, zk⟩ : Sf).id, .int .i64 (⟨4, id, 0, 0, tx, zk⟩ : Sf).par, .int .i64 (⟨4, id, 0, 0, tx, zk⟩ : Sf).at_, .string (⟨4, id, 0, 0, tx, zk⟩ : Sf).tx, .int .i64 (⟨4, id, 0, 0, tx, zk⟩ : Sf).sub.id, .int .i64 (⟨4, id, 0, 0, tx, zk⟩ : Sf).sub.kind, .string (⟨4, id, 0, 0, tx, zk⟩ : Sf).sub.text, .slice ba m bc]] X (EqC ⟨4, id, par, at_, tx, x⟩ ⟨4, id, 0, 0, tx, zk⟩ X) := fun X ba m bc S2 hm hX hS2 h1 h2 => je X Sx S2 ⟨4, id, par, at_, tx, x⟩ ⟨4, id, 0, 0, tx, zk⟩ sa ba sn sc m bc hsn hm (fun y hy => nL (hSx y hy) hX.size) hS2 hcap (by rw [← hm]; exact h1) (hk.below hX hSx) h2 (by simp only; omega) (by show ze zk.kids + 1 ≤ 400000; decide)
 have HPL := hH hpl
 have HSM := hH hsm
 obtain ⟨k0, k1, k2, k3, k4, k5, k6, k7, k8⟩ := HC.out B (Below.refl _ _)
 clear hb hB eB hpl hsm hsn hSx hcap hk hz
 obtain ⟨E, hE⟩ : ∃ E, E = eqS ⟨4, id, par, at_, tx, x⟩ ⟨4, id, 0, 0, tx, zk⟩ := ⟨_, rfl⟩
 rw [← hE] at HST
 unfold EqC at HSM
 rw [← hE] at HSM
 clear hE
 go_enter Tryz.func66, Tryz.ntmps66
 go_upto_region 1 with fail
 change Code.wp _ _ _ _ (w.alloc (.cells #[.int .i8 4, .int .i64 id, .int .i64 par, .int .i64 at_, .string tx, .int .i64 x.id, .int .i64 x.kind, .string x.text, .slice sa sn sc] 41))
 rw [← HB.out.2]
 go_wp2_with fail
 refine (zU B id 1 1125899906842624).mono ?_
 intro e W1 hq
 cases hb0 : zh 1 1125899906842624 id
 · rw [hb0] at hq
   obtain ⟨rfl, hb2⟩ := hq.f
   exact ⟨rfl, yt.no (by rw [HST.out, hb0]; simp) (HB.out.1.trans (hb2.mono HB.out.1.size))⟩
 rw [hb0] at hq
 obtain ⟨rfl, hb2⟩ := hq.t
 have HF0 := hH hb0
 have H1 := hH (hb2)
 clear hq hb2 k0 k1 k2 k3 k4 k5 k6 k7 k8 hb0
 obtain ⟨k0, k1, k2, k3, k4, k5, k6, k7, k8⟩ := HC.out W1 H1.out
 go_wp2_with fail
 refine (Ze W1 tx).mono ?_
 intro e W2 hq
 cases hb0 : decide (tx.size ≤ 40)
 · rw [hb0] at hq
   obtain ⟨rfl, hb2⟩ := hq.f
   exact ⟨rfl, yt.no (by rw [HST.out, hb0, HF0.out]; simp) (HB.out.1.trans ((H1.out.trans (hb2.mono H1.out.size)).mono HB.out.1.size))⟩
 rw [hb0] at hq
 obtain ⟨rfl, hb2⟩ := hq.t
 have HF1 := hH hb0
 have H2 := hH (H1.out.trans (hb2.mono H1.out.size))
 clear hq hb2 k0 k1 k2 k3 k4 k5 k6 k7 k8 hb0 H1
 obtain ⟨k0, k1, k2, k3, k4, k5, k6, k7, k8⟩ := HC.out W2 H2.out
 go_upto_region 16 with fail
 clear k0 k1 k2 k3 k4 k5 k6 k7 k8
 refine wp_region_held_drew (S := fun X => Below B.heap.size B X) (by kernel_rfl) (zX H2.out 1) (fun hHeld => ?_)
 refine tkH (i := 0) (.agg #[.int .i8 4, .int .i64 id, .int .i64 par, .int .i64 at_, .string tx, .int .i64 x.id, .int .i64 x.kind, .string x.text, .slice sa sn sc]) rfl (Or.inl ⟨by rfl, ?_⟩) (by assumption) ?_
 · clear hHeld; intro X hSw; obtain ⟨k0, k1, k2, k3, k4, k5, k6, k7, k8⟩ := HC.out X hSw; clear hSw; go_simp
 simp only [Act.put, pg]
 refine tkH (i := 1) (.agg #[.int .i8 4, .int .i64 id, .int .i64 par, .int .i64 at_, .string tx, .int .i64 x.id, .int .i64 x.kind, .string x.text, .slice sa sn sc]) rfl (Or.inl ⟨by rfl, ?_⟩) (by assumption) ?_
 · clear hHeld; intro X hSw; obtain ⟨k0, k1, k2, k3, k4, k5, k6, k7, k8⟩ := HC.out X hSw; clear hSw; go_simp
 simp only [Act.put, pg]
 refine wpAnyH_ready (rs := [2]) (by kernel_rfl) (by simp) ?_
 refine AllReadyH.cons (o := _) rfl (fun K hK => ?_) AllReadyH.nil
 rw [if_pos (by rfl)]
 simp only [pg3]
 have HK := hH hK
 have HS := hH hHeld
 clear hK hHeld
 go_wp2_with (go_at_call 112; refine (HPL.out _ (HB.out.1.trans (HS.out.mono HB.out.1.size))).mono ?_; rintro e V1 ⟨_, rfl, ⟨ya, yc, rfl, hyc, hyf⟩, hbv⟩; have HV := hH (aN (HS.out.trans (hbv.mono HS.out.size)) (aN hyc hyf)); clear hbv hyc hyf)
 obtain ⟨ym, hym⟩ : ∃ ym, ym = foLen (⟨4, id, 0, 0, tx, zk⟩ : Sf).sub.kids := ⟨_, rfl⟩
 rw [← hym]
 rw [← hym] at HV
 refine HK.out _ _ HV.out.1 (fun hHeld => ?_)
 clear HK HS
 have HSC := hH (HSM.out V1 ya ym yc _ hym (HB.out.1.trans (HV.out.1.mono HB.out.1.size)) (fun y hy => hy.2) HV.out.2.1 HV.out.2.2)
 clear hym
 refine wpAnyH_ready (rs := [3]) (by kernel_rfl) (by simp) ?_
 refine AllReadyH.cons (o := _) rfl (fun K hK => ?_) AllReadyH.nil
 rw [if_pos (by rfl)]
 simp only [pg3]
 have HK := hH hK
 have HS := hH hHeld
 clear hK hHeld
 go_wp2_with (go_at_call 109; refine HSC.out.mono ?_; rintro e V2 ⟨rfl, hbv⟩; have HV2 := hH (HV.out.1.trans (hbv.mono HV.out.1.size)); clear hbv)
 refine HK.out _ _ HV2.out (fun hHeld => ?_)
 clear HK HS HSC
 refine wpAnyH_ready (rs := [4]) (by kernel_rfl) (by simp) ?_
 refine AllReadyH.cons (o := _) rfl (fun K hK => ?_) AllReadyH.nil
 rw [if_pos (by rfl)]
 simp only [pg3]
 have HK := hH hK
 have HS := hH hHeld
 clear hK hHeld
 cases E
 · go_wp2_with fail
   refine (zZ V2 false).mono ?_
   intro e V3 hq; obtain ⟨rfl, hb2⟩ := hq.f
   exact ⟨rfl, yt.no (by rw [HST.out]; simp) (HB.out.1.trans ((HV2.out.trans (hb2.mono HV2.out.size)).mono HB.out.1.size))⟩
 go_wp2_with fail
 refine (zZ V2 true).mono ?_
 intro e V3 hq; obtain ⟨rfl, hb2⟩ := hq.t
 have HV3 := hH (HV2.out.trans (hb2.mono HV2.out.size))
 clear hq hb2
 refine HK.out _ _ HV3.out (fun hHeld => ?_)
 clear HK HS
 refine wpAnyH_done (by kernel_rfl) ?_ _
 clear hHeld
 go_wp2_with fail
 go_end0
 exact yt.yes (by rw [HST.out, HF0.out, HF1.out]; rfl) (HB.out.1.trans (HV3.out.mono HB.out.1.size))
theorem Yy (w : World) (op id par at_ xi xk : Int) (tx xt : ByteArray) (sa : Option Addr) (sn sc : Nat) (h1 : ¬ op = 1) (h2 : ¬ op = 2) (h3 : ¬ op = 3) (h4 : ¬ op = 4) :
 Calls Tryz.prog 66 #[.agg #[.int .i8 op, .int .i64 id, .int .i64 par, .int .i64 at_, .string tx, .int .i64 xi, .int .i64 xk, .string xt, .slice sa sn sc]] w (yt false w) := by
 obtain ⟨B, hB⟩ : ∃ B, B = w.alloc (.cells #[.int .i8 op, .int .i64 id, .int .i64 par, .int .i64 at_, .string tx, .int .i64 xi, .int .i64 xk, .string xt, .slice sa sn sc] 41) := ⟨_, rfl⟩
 have hb : Below w.heap.size w B := by rw [hB]; exact (Below.refl _ _).alloc (Nat.le_refl _) _
 have eB : B.heap[w.heap.size]? = some (.cells #[.int .i8 op, .int .i64 id, .int .i64 par, .int .i64 at_, .string tx, .int .i64 xi, .int .i64 xk, .string xt, .slice sa sn sc] 41 (0, 0)) := by rw [hB]; exact heap_alloc_new _ _
 have HB := hH (aN hb hB)
 obtain ⟨k0, k1, k2, k3, k4, k5, k6, k7, k8⟩ := jQ eB
 have q1 : (op == 1) = false := by simpa using h1
 have q2 : (op == 2) = false := by simpa using h2
 have q3 : (op == 3) = false := by simpa using h3
 have q4 : (op == 4) = false := by simpa using h4
 clear hb hB eB h1 h2 h3 h4
 go_enter Tryz.func66, Tryz.ntmps66
 go_upto_region 1 with fail
 change Code.wp _ _ _ _ (w.alloc (.cells #[.int .i8 op, .int .i64 id, .int .i64 par, .int .i64 at_, .string tx, .int .i64 xi, .int .i64 xk, .string xt, .slice sa sn sc] 41))
 rw [← HB.out.2]
 go_wp2_with fail
 refine (zZ B false).mono ?_
 intro e W3 hq; obtain ⟨rfl, hb2⟩ := hq.f
 exact ⟨rfl, yt.no rfl (HB.out.1.trans (hb2.mono HB.out.1.size))⟩
theorem QL (w : World) (Sx : Nat → Prop) (s : Sf) (sa : Option Addr) (sn sc : Nat) (hsn : sn = foLen s.sub.kids) (hSx : ∀ y, Sx y → y < w.heap.size) (hcap : foLen s.sub.kids ≤ sc) (hk : zB w Sx s.sub.kids sa) (hz : ze s.sub.kids + 1 ≤ 100000) :
 Calls Tryz.prog 66 #[.agg #[.int .i8 s.op, .int .i64 s.id, .int .i64 s.par, .int .i64 s.at_, .string s.tx, .int .i64 s.sub.id, .int .i64 s.sub.kind, .string s.sub.text, .slice sa sn sc]] w (yt (yD s) w) := by
 obtain ⟨op, id, par, at_, tx, x⟩ := s
 by_cases h1 : op = 1
 · subst h1; exact zcJ w Sx id par at_ tx x sa sn sc hsn hSx hcap hk hz
 by_cases h2 : op = 2
 · subst h2; exact zcK w Sx id par at_ tx x sa sn sc hsn hSx hcap hk hz
 by_cases h3 : op = 3
 · subst h3; exact zcL w Sx id par at_ tx x sa sn sc hsn hSx hcap hk hz
 by_cases h4 : op = 4
 · subst h4; exact zcM w Sx id par at_ tx x sa sn sc hsn hSx hcap hk hz
 have e : yD ⟨op, id, par, at_, tx, x⟩ = false := by
  unfold yD zay
  simp only
  rw [if_neg h1, if_neg h2, if_neg h3, if_neg h4, Bool.false_and]
 rw [e]
 exact Yy w op id par at_ x.id x.kind tx x.text sa sn sc h1 h2 h3 h4
end Go.Proofs.YtchccbfljamjnaaGreat
