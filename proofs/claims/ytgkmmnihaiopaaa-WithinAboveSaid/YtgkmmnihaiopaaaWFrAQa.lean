/-
  .
-/
import Derived.Test.YtgkmmnihaiopaaaVRSubQa
import Derived.Test.YtgkmmnihaiopaaaWinPQa
import Derived.Test.YtgkmmnihaiopaaaWakeWQa
import Derived.Test.YtgkmmnihaiopaaaSubWQa
import Derived.Test.YtgkmmnihaiopaaaJLawJQa
import Derived.Test.YtgkmmnihaiopaaaVFaultQa
import Derived.Test.YtgkmmnihaiopaaaKPlacePQa
import Derived.ProofKit
import Derived.OpenShut
import Derived.Deep.Slices
import Derived.Deep.Strs
import Derived.Lib.SmallJoins
import Derived.Laws.BytesArg
import Derived.Test.YtgkmmnihaiopaaaGOpenQa
import Derived.Test.YtgkmmnihaiopaaaJPgQa
set_option maxRecDepth 100000
set_option maxHeartbeats 40000000
set_option linter.unusedVariables false
set_option linter.unusedSimpArgs false
namespace Go.Proofs.Ytgkmmnihaiopaaa
open Go.RowKit Go.Shelf
attribute [local go_sem] Oper.semAt_some
theorem zd3 (w : World) (S : Nat → Prop) (gv nv : Value) (g : Gr) (t : Tr) (hg : GrV w gv g) (hf : g.few) (hS : ∀ x, S x → x < w.heap.size) (ht : zH w S nv t) (hlen : foLen t.kids ≤ 9223372036854775807) (hfit : vP t.kids) (hsz : zg t.kids + 1 ≤ 500000) (hok : okF (spF 1 (zl t))) :
 Calls Try.prog 17 #[gv, nv] w (ZL (ql g t) w) := by
 obtain ⟨ga, gc, rfl, hgk⟩ := hg
 obtain ⟨ka, cap, rfl, hcap, hk⟩ := ht
 obtain ⟨n, hn⟩ : ∃ n, n = foLen t.kids := ⟨_, rfl⟩
 obtain ⟨gn, hgn⟩ : ∃ gn, gn = g.kinds.length := ⟨_, rfl⟩
 rw [← hn, ← hgn]
 have kx : ((w.alloc (.cells #[.slice ga gn gc, .int .i64 g.root] 24)).alloc (.cells #[.int .i64 t.id, .int .i64 t.kind, .string t.text, .slice ka n cap] 27)).heap[w.heap.size]? = _ := zi [.cells #[.slice ga gn gc, .int .i64 g.root] 24, .cells #[.int .i64 t.id, .int .i64 t.kind, .string t.text, .slice ka n cap] 27] w 0 _ rfl
 have ky : ((w.alloc (.cells #[.slice ga gn gc, .int .i64 g.root] 24)).alloc (.cells #[.int .i64 t.id, .int .i64 t.kind, .string t.text, .slice ka n cap] 27)).heap[w.heap.size + 1]? = _ := zi [.cells #[.slice ga gn gc, .int .i64 g.root] 24, .cells #[.int .i64 t.id, .int .i64 t.kind, .string t.text, .slice ka n cap] 27] w 1 _ rfl
 have hab : Below w.heap.size w ((w.alloc (.cells #[.slice ga gn gc, .int .i64 g.root] 24)).alloc (.cells #[.int .i64 t.id, .int .i64 t.kind, .string t.text, .slice ka n cap] 27)) := zm [.cells #[.slice ga gn gc, .int .i64 g.root] 24, .cells #[.int .i64 t.id, .int .i64 t.kind, .string t.text, .slice ka n cap] 27] w
 obtain ⟨SX, hSX⟩ : ∃ SX : World → Prop, SX = fun X => Below (w.heap.size + 2) ((w.alloc (.cells #[.slice ga gn gc, .int .i64 g.root] 24)).alloc (.cells #[.int .i64 t.id, .int .i64 t.kind, .string t.text, .slice ka n cap] 27)) X := ⟨_, rfl⟩
 have HSx : ∀ X, SX X → X.cell? ⟨w.heap.size, 0, none⟩ = some (.slice ga gn gc) ∧ X.cell? ⟨w.heap.size, 1, none⟩ = some (.int .i64 g.root) ∧ X.cell? ⟨w.heap.size + 1, 0, none⟩ = some (.int .i64 t.id) ∧ X.cell? ⟨w.heap.size + 1, 1, none⟩ = some (.int .i64 t.kind) ∧ X.cell? ⟨w.heap.size + 1, 2, none⟩ = some (.string t.text) ∧ X.cell? ⟨w.heap.size + 1, 3, none⟩ = some (.slice ka n cap) := fun X h => by
  rw [hSX] at h
  obtain ⟨a0, a1⟩ := zaD ((h.block _ (by omega)).trans kx)
  obtain ⟨b0, b1, b2, b3⟩ := zb3 ((h.block _ (by omega)).trans ky)
  exact ⟨a0, a1, b0, b1, b2, b3⟩
 have HS := hH (show SX ((w.alloc (.cells #[.slice ga gn gc, .int .i64 g.root] 24)).alloc (.cells #[.int .i64 t.id, .int .i64 t.kind, .string t.text, .slice ka n cap] 27)) by rw [hSX]; exact Below.refl _ _)
 have HSB := hH (fun (X Y : World) (h : SX X) (hb : Below X.heap.size X Y) => (show SX Y by rw [hSX] at h ⊢; exact h.trans (hb.mono (by have := h.size; simp at this; omega))))
 have hwX : ∀ X, SX X → Below w.heap.size w X := fun X h => by rw [hSX] at h; exact hab.trans (h.mono (by omega))
 have hgX : ∀ X, SX X → GrV X (.agg #[.slice ga gn gc, .int .i64 g.root]) g := fun X h => ⟨ga, gc, by rw [hgn], hgk.below (hwX X h)⟩
 have htX : ∀ X, SX X → zH X S (.agg #[.int .i64 t.id, .int .i64 t.kind, .string t.text, .slice ka n cap]) t := fun X h => ⟨ka, cap, by rw [hn], hcap, hk.below (hwX X h) hS⟩
 have hSXl : ∀ X, SX X → ∀ y, S y → y < X.heap.size := fun X h y hy => nL (hS y hy) (hwX X h).size
 have HCK : Hid (∀ X, SX X → Calls Try.prog 28 #[.agg #[.slice ga gn gc, .int .i64 g.root]] X (yB (jM (yL g)) X)) := hH fun X h => zV X _ g (hgX X h) hf
 have HWA : Hid (∀ X, SX X → Calls Try.prog 6 #[.agg #[.int .i64 t.id, .int .i64 t.kind, .string t.text, .slice ka n cap], .int .i64 201] X (WalkM X S t 201)) := hH fun X h => kX 201 (by omega) X S _ t hlen hfit (hSXl X h) (htX X h)
 obtain ⟨⟨f1, f2⟩, hfr⟩ : ∃ p : Int × Int, p = qK g t := ⟨_, rfl⟩
 have HFA : Hid (∀ X, SX X → Calls Try.prog 29 #[.agg #[.slice ga gn gc, .int .i64 g.root], .agg #[.int .i64 t.id, .int .i64 t.kind, .string t.text, .slice ka n cap]] X (ZL (f1, f2) X)) := hH fun X h => by
  have := zfr X S _ _ g t (hgX X h) hf (hSXl X h) (htX X h) hlen hfit hsz hok
  rw [← hfr] at this; exact this
 have HFR := hH hfr
 have HFIN := hH hwX
 obtain ⟨ck, hck⟩ : ∃ ck, ck = yL g := ⟨_, rfl⟩
 have HK := hH hck
 rw [← hck] at HCK
 clear hS hcap hk hn hgn hf hgk hsz hok kx ky hab hSX hwX hgX htX hSXl hck hlen hfit hfr
 cases ck
 · have HB := hH (show ql g t = (0, 50) by rw [ql, ← HK.out, if_neg (by simp), qK, ← HK.out]; rfl)
   rw [show jM false = 50 from rfl] at HCK
   go_enter Try.func17, Try.ntmps17
   go_wp2_with (go_at_call 28; refine (HCK.out _ HS.out).mono ?_; rintro e w2 ⟨rfl, hb⟩; have HS2 := hH (HSB.out _ w2 HS.out hb); obtain ⟨p0, p1, p2, p3, p4, p5⟩ := HSx w2 HS2.out; clear hb)
   go_ret2
   exact ⟨by rw [HB.out]; rfl, HFIN.out _ HS2.out⟩
 rw [show jM true = 0 from rfl] at HCK
 go_enter Try.func17, Try.ntmps17
 go_wp2_with (go_at_call 28; refine (HCK.out _ HS.out).mono ?_; rintro e w2 ⟨rfl, hb⟩; have HS2 := hH (HSB.out _ w2 HS.out hb); obtain ⟨p0, p1, p2, p3, p4, p5⟩ := HSx w2 HS2.out; clear hb)
 go_at_call 6
 refine (HWA.out _ HS2.out).mono ?_
 rintro e w3 ⟨la, lc, rfl, hsp, hb⟩
 have HS3 := hH (HSB.out _ w3 HS2.out hb); obtain ⟨q0, q1, q2, q3, q4, q5⟩ := HSx w3 HS3.out; clear hb
 clear p0 p1 p2 p3 p4 p5 hsp
 obtain ⟨q, hq⟩ : ∃ q, q = ((spF 1 (zl t)).take 201).length := ⟨_, rfl⟩
 rw [← hq]
 have hqs := hq
 rw [List.length_take, yl, zI] at hqs
 by_cases h200 : 200 < q
 · have hql : (200 : Int) < (q : Int) := by omega
   have HB := hH (show ql g t = (0, 70) by
    have h2 : qK g t = (0, 70) := by rw [qK, ← HK.out, if_pos rfl, if_pos (by omega)]
    unfold ql; split
    · rfl
    · exact h2)
   clear hq hqs h200
   go_wp2_with fail
   go_ret2
   exact ⟨by rw [HB.out]; rfl, HFIN.out _ HS3.out⟩
 have hql : ¬ (200 : Int) < (q : Int) := by omega
 clear hq hqs h200
 by_cases hr : t.kind = g.root
 · have HB := hH (show ql g t = (f1, f2) by rw [ql, ← HK.out, if_neg (by simp [hr]), HFR.out])
   have hne : (t.kind != g.root) = false := by simp [hr]
   clear hr
   go_wp2_with (go_at_call 29; refine (HFA.out _ HS3.out).mono ?_; rintro e w4 ⟨rfl, hb⟩; have HS4 := hH (HSB.out _ w4 HS3.out hb); obtain ⟨r0, r1, r2, r3, r4, r5⟩ := HSx w4 HS4.out; clear hb)
   go_ret2
   exact ⟨by rw [HB.out]; rfl, HFIN.out _ HS4.out⟩
 · have HB := hH (show ql g t = (0, 70) by rw [ql, ← HK.out, if_pos ⟨rfl, hr⟩])
   have hne : (t.kind != g.root) = true := by simp [hr]
   clear hr
   go_wp2_with fail
   go_ret2
   exact ⟨by rw [HB.out]; rfl, HFIN.out _ HS3.out⟩
end Go.Proofs.Ytgkmmnihaiopaaa
namespace Go.Proofs.Ytgkmmnihaiopaaa
open Go.RowKit Go.Shelf
def zgQ (id : Int) (t : Tr) (S : Nat → Prop) (w : World) (e : Ending) (w' : World) : Prop := ∃ (z : Tr) (va : Option Addr) (vc : Nat) (b : Bool), e = .returned (.tuple #[.agg #[.int .i64 z.id, .int .i64 z.kind, .string z.text, .slice va (foLen z.kids) vc], .bool b]) ∧ foLen z.kids ≤ vc ∧ zC w' S z.kids va ∧ zg z.kids ≤ zg t.kids ∧ Below w.heap.size w w' ∧ (b = true → ∃ p, zw id t = some p ∧ atT t p = some z) ∧ (b = false → zw id t = none)
theorem QY (w : World) (S : Nat → Prop) (v : Value) (t : Tr) (id : Int) (hsz : zg t.kids + 1 ≤ 2000) (hS : ∀ k, S k → k < w.heap.size) (hv : zH w S v t) :
 Calls Try.prog 19 #[v, .int .i64 id] w (zgQ id t S w) := by
 refine (zdY w S v t id hsz hS hv).mono ?_
 rintro e w' ⟨v, rfl, ⟨va, vc, rfl, h1, h2⟩, hb⟩
 have hf := Yk id t
 refine ⟨_, va, vc, _, rfl, h1, h2, ?_, hb, fun h => ?_, fun h => ?_⟩
 · rw [hf]
   cases hp : zw id t with
   | none => simp [zbN, zg]
   | some p =>
     obtain ⟨z, hz, _⟩ := qd id t p hp
     have h3 := zcL (fun _ => true) p t z hz
     rw [zaI, zaI] at h3
     rw [Option.bind_some, hz]
     simp only [Option.getD_some]
     omega
 · have hs := kP id t
   rw [h] at hs
   obtain ⟨p, hp⟩ := Option.isSome_iff_exists.1 hs.symm
   rw [hp, Option.bind_some] at hf
   obtain ⟨z, hz, _⟩ := qd id t p hp
   refine ⟨p, hp, ?_⟩
   rw [hf, hz]; rfl
 · have hs := kP id t
   rw [h] at hs
   exact Option.isNone_iff_eq_none.1 (by cases hx : zw id t with | none => rfl | some p => rw [hx] at hs; cases hs)
theorem YX (w : World) (g : Gr) (t : Tr) (ga ta la : Option Addr) (gn gc tn tc n c : Nat) (vs : List SV) (root above : Int) (hgn : gn = g.kinds.length) (hg : GrV w (.agg #[.slice ga g.kinds.length gc, .int .i64 g.root]) g) (hf : g.fits) (htn : tn = foLen t.kids) (ht : q9 w t.kids ta tc) (hlen : foLen t.kids ≤ 9223372036854775807) (hfit : vP t.kids) (hok : okF (spF 1 (zl t))) (hn : n = vs.length) (h : JM w la vs) (hwf : ∀ x ∈ vs, (Lit.int .i64 x.s.id).wf = true ∧ (Lit.int .i64 x.s.par).wf = true) :
 Calls Try.prog 4 #[.agg #[.slice ga gn gc, .int .i64 g.root], .agg #[.int .i64 t.id, .int .i64 t.kind, .string t.text, .slice ta tn tc], .int .i64 root, .int .i64 above, .slice la n c] w (zg4 w) := by
 have HWF := hH hwf
 clear hwf
 obtain ⟨B, hB⟩ : ∃ B, B = zq w [.cells #[.slice ga gn gc, .int .i64 g.root] 24, .cells #[.int .i64 t.id, .int .i64 t.kind, .string t.text, .slice ta tn tc] 27] := ⟨_, rfl⟩
 have BW := hH (show Below w.heap.size w B by rw [hB]; exact zm _ _)
 have EG := hH (show B.heap[w.heap.size]? = some (.cells #[.slice ga gn gc, .int .i64 g.root] 24 (0, 0)) by rw [hB]; exact zi _ _ 0 _ rfl)
 have EN := hH (show B.heap[w.heap.size + 1]? = some (.cells #[.int .i64 t.id, .int .i64 t.kind, .string t.text, .slice ta tn tc] 27 (0, 0)) by rw [hB]; exact zi _ _ 1 _ rfl)
 have HBE := hH hB
 have HP := hH (aN hgn (aN hg (aN hf (aN htn (aN ht (aN hlen (aN hfit hok)))))))
 have HA := hH (aN hn h)
 clear hB hgn hg hf htn ht hlen hfit hok hn h
 go_enter Try.func4, Try.ntmps4
 go_upto_region 1 with fail
 change Code.wp _ _ _ _ (zq w [.cells #[.slice ga gn gc, .int .i64 g.root] 24, .cells #[.int .i64 t.id, .int .i64 t.kind, .string t.text, .slice ta tn tc] 27])
 rw [← HBE.out]
 clear HBE
 obtain ⟨g0, g1⟩ := vX EG.out
 obtain ⟨n0, n1, n2, n3⟩ := zF EN.out
 go_wp2_with fail
 refine (zcd B _ g (by rw [HP.out.1]; exact HP.out.2.1.below BW.out) HP.out.2.2.1).mono ?_
 rintro e W1 ⟨rfl, hb⟩
 replace EG := hH ((hb.block _ (lt_of_heap EG.out)).trans EG.out)
 replace EN := hH ((hb.block _ (lt_of_heap EN.out)).trans EN.out)
 replace BW := hH (BW.out.trans (hb.mono BW.out.size))
 clear hb
 clear g0 g1 n0 n1 n2 n3
 cases hgg : kG g
 rotate_left
 · clear hgg
   go_wp2_with fail
   refine (yM W1).mono ?_
   rintro e WZ ⟨rfl, hbz⟩
   have HZ := hH (BW.out.trans (hbz.mono BW.out.size))
   clear hbz
   go_wp2_with fail
   go_ret
   exact ⟨rfl, HZ.out⟩
 have HGF := hH (zce hgg).1
 clear hgg
 obtain ⟨g0, g1⟩ := vX EG.out
 obtain ⟨n0, n1, n2, n3⟩ := zF EN.out
 go_wp2_with fail
 refine (QE W1 _ _ t HP.out.2.2.2.2.2.1 HP.out.2.2.2.2.2.2.1 (fun q hq => nL hq BW.out.size) (by rw [HP.out.2.2.2.1]; exact HP.out.2.2.2.2.1.at BW.out)).mono ?_
 rintro e W2 ⟨b2, rfl, h2, hb⟩
 replace EG := hH ((hb.block _ (lt_of_heap EG.out)).trans EG.out)
 replace EN := hH ((hb.block _ (lt_of_heap EN.out)).trans EN.out)
 replace BW := hH (BW.out.trans (hb.mono BW.out.size))
 clear hb
 clear g0 g1 n0 n1 n2 n3
 cases b2
 rotate_left
 · clear h2
   go_wp2_with fail
   refine (yM W2).mono ?_
   rintro e WZ ⟨rfl, hbz⟩
   have HZ := hH (BW.out.trans (hbz.mono BW.out.size))
   clear hbz
   go_wp2_with fail
   go_ret
   exact ⟨rfl, HZ.out⟩
 have HW := hH (show Way t from ⟨h2 rfl, HP.out.2.2.2.2.2.2.2⟩)
 clear h2
 go_wp2_with fail
 refine (zaZ W2 la n c vs HA.out.1 (HA.out.2.on BW.out)).mono ?_
 rintro e W3 ⟨b3, rfl, h3, hb⟩
 replace EG := hH ((hb.block _ (lt_of_heap EG.out)).trans EG.out)
 replace EN := hH ((hb.block _ (lt_of_heap EN.out)).trans EN.out)
 replace BW := hH (BW.out.trans (hb.mono BW.out.size))
 clear hb
 cases b3
 rotate_left
 · clear h3
   go_wp2_with fail
   refine (yM W3).mono ?_
   rintro e WZ ⟨rfl, hbz⟩
   have HZ := hH (BW.out.trans (hbz.mono BW.out.size))
   clear hbz
   go_wp2_with fail
   go_ret
   exact ⟨rfl, HZ.out⟩
 have HR := hH (HA.out.2.row (h3 rfl))
 clear h3
 obtain ⟨g0, g1⟩ := vX EG.out
 obtain ⟨n0, n1, n2, n3⟩ := zF EN.out
 obtain ⟨d, hd⟩ : ∃ d, d = ql g t := ⟨_, rfl⟩
 have hcall := zd3 W3 (fun q => q < w.heap.size) (.agg #[.slice ga gn gc, .int .i64 g.root]) (.agg #[.int .i64 t.id, .int .i64 t.kind, .string t.text, .slice ta tn tc]) g t (by rw [HP.out.1]; exact HP.out.2.1.below BW.out) HGF.out (fun q hq => nL hq BW.out.size) (by rw [HP.out.2.2.2.1]; exact HP.out.2.2.2.2.1.at BW.out) HP.out.2.2.2.2.2.1 HP.out.2.2.2.2.2.2.1 (by have := HW.out.size; omega) HP.out.2.2.2.2.2.2.2
 rw [← hd] at hcall
 obtain ⟨d1, d2⟩ := d
 have HCALL := hH hcall
 have HD := hH hd
 clear hcall hd
 go_wp2_with fail
 refine HCALL.out.mono ?_
 rintro e W4 ⟨rfl, hb⟩
 replace EG := hH ((hb.block _ (lt_of_heap EG.out)).trans EG.out)
 replace EN := hH ((hb.block _ (lt_of_heap EN.out)).trans EN.out)
 replace BW := hH (BW.out.trans (hb.mono BW.out.size))
 clear hb
 clear g0 g1 n0 n1 n2 n3 HCALL
 by_cases hd2 : d2 = 0
 rotate_left
 · have hdb : (d2 == 0) = false := by simpa using hd2
   have hdn : (d2 != 0) = true := by simpa using hd2
   clear hd2
   go_wp2_with fail
   refine (yM W4).mono ?_
   rintro e WZ ⟨rfl, hbz⟩
   have HZ := hH (BW.out.trans (hbz.mono BW.out.size))
   clear hbz
   go_wp2_with fail
   go_ret
   exact ⟨rfl, HZ.out⟩
 subst hd2
 have HDT := hH (kW (g := g) (t := t) (by rw [← HD.out])).1
 obtain ⟨g0, g1⟩ := vX EG.out
 obtain ⟨n0, n1, n2, n3⟩ := zF EN.out
 have HAL := hH (zaq W4 g t root ga ta la gn gc tn tc n c vs HP.out.1 (HP.out.2.1.below BW.out) HGF.out HP.out.2.2.2.1 (q9.on HP.out.2.2.2.2.1 BW.out) HW.out (Qv HDT.out) HA.out.1 (HR.out.on BW.out) HWF.out)
 go_wp2_with fail
 refine HAL.out.mono ?_
 rintro e W5 ⟨at1, er1, rfl, h1, _, hb⟩
 replace EG := hH ((hb.block _ (lt_of_heap EG.out)).trans EG.out)
 replace EN := hH ((hb.block _ (lt_of_heap EN.out)).trans EN.out)
 replace BW := hH (BW.out.trans (hb.mono BW.out.size))
 clear hb
 clear g0 g1 n0 n1 n2 n3 HAL
 have H1 := hH h1
 clear h1
 obtain ⟨g0, g1⟩ := vX EG.out
 obtain ⟨n0, n1, n2, n3⟩ := zF EN.out
 have HF := hH (QY W5 (fun q => q < w.heap.size) (.agg #[.int .i64 t.id, .int .i64 t.kind, .string t.text, .slice ta tn tc]) t above (by have := HW.out.size; omega) (fun q hq => nL hq BW.out.size) (by rw [HP.out.2.2.2.1]; exact HP.out.2.2.2.2.1.at BW.out))
 go_wp2_with fail
 refine HF.out.mono ?_
 rintro e W6 ⟨z, za, zc, ok1, rfl, hzc, hzf, hzs, hb6, hy, hnn⟩
 clear g0 g1 n0 n1 n2 n3 HF
 obtain ⟨zn, hzn⟩ : ∃ zn, zn = foLen z.kids := ⟨_, rfl⟩
 rw [← hzn]
 obtain ⟨W7, hW7⟩ : ∃ W7, W7 = W6.alloc (.cells #[.int .i64 z.id, .int .i64 z.kind, .string z.text, .slice za zn zc] 27) := ⟨_, rfl⟩
 have hb : Below W5.heap.size W5 W7 := hb6.trans (by rw [hW7]; exact (Below.refl _ _).alloc hb6.size _)
 have EZ := hH (show W7.heap[W6.heap.size]? = some (.cells #[.int .i64 z.id, .int .i64 z.kind, .string z.text, .slice za zn zc] 27 (0, 0)) by rw [hW7]; exact heap_alloc_new _ _)
 have hzf7 : zC W7 (fun q => q < w.heap.size) z.kids za := hzf.kept fun q hq => ⟨hq, by rw [hW7]; exact Below.heap_alloc _ _ _ (nL hq (Nat.le_trans BW.out.size hb6.size))⟩
 have HZF := hH (aN hzf7 (aN hzc hzn))
 have HZS : Hid (zg z.kids + 1 ≤ 2000) := hH (by have := HW.out.size; omega)
 have HY := hH (aN hy hnn)
 have HW7 := hH hW7
 obtain ⟨G, hG⟩ : ∃ G, G = W6.heap.size := ⟨_, rfl⟩
 rw [← hG] at EZ
 replace EG := hH ((hb.block _ (lt_of_heap EG.out)).trans EG.out)
 replace EN := hH ((hb.block _ (lt_of_heap EN.out)).trans EN.out)
 replace BW := hH (BW.out.trans (hb.mono BW.out.size))
 clear hb
 clear hb6 hW7 hzs hzf hzf7 hzc hzn hy hnn
 go_upto_region 8 with fail
 change Code.wp _ _ _ _ (W6.alloc (.cells #[.int .i64 z.id, .int .i64 z.kind, .string z.text, .slice za zn zc] 27))
 rw [← HW7.out, ← hG]
 clear HW7 hG
 obtain ⟨z0, z1, z2, z3⟩ := zF EZ.out
 have HF := hH (QY W7 (fun q => q < w.heap.size) (.agg #[.int .i64 z.id, .int .i64 z.kind, .string z.text, .slice za zn zc]) z root HZS.out (fun q hq => nL hq BW.out.size) ⟨za, zc, by rw [HZF.out.2.2], HZF.out.2.1, HZF.out.1⟩)
 go_wp2_with fail
 refine HF.out.mono ?_
 rintro e W8 ⟨y, ya, yc, ok2, rfl, _, _, _, hb8, hy, hnn⟩
 clear z0 z1 z2 z3 HF EZ
 obtain ⟨yn, hyn⟩ : ∃ yn, yn = foLen y.kids := ⟨_, rfl⟩
 rw [← hyn]
 obtain ⟨W9, hW9⟩ : ∃ W9, W9 = W8.alloc (.cells #[.int .i64 y.id, .int .i64 y.kind, .string y.text, .slice ya yn yc] 27) := ⟨_, rfl⟩
 have hb : Below W7.heap.size W7 W9 := hb8.trans (by rw [hW9]; exact (Below.refl _ _).alloc hb8.size _)
 have HY2 := hH (aN hy hnn)
 have HW9 := hH hW9
 replace EG := hH ((hb.block _ (lt_of_heap EG.out)).trans EG.out)
 replace EN := hH ((hb.block _ (lt_of_heap EN.out)).trans EN.out)
 replace BW := hH (BW.out.trans (hb.mono BW.out.size))
 clear hb
 clear hb8 hW9 hyn hy hnn
 go_upto_region 9 with fail
 change Code.wp _ _ _ _ (W8.alloc (.cells #[.int .i64 y.id, .int .i64 y.kind, .string y.text, .slice ya yn yc] 27))
 rw [← HW9.out]
 clear HW9
 by_cases he1 : er1 = 0
 rotate_left
 · have heb : (er1 == 0) = false := by simpa using he1
   have hen : (er1 != 0) = true := by simpa using he1
   clear he1
   go_wp2_with fail
   refine (yM W9).mono ?_
   rintro e WZ ⟨rfl, hbz⟩
   have HZ := hH (BW.out.trans (hbz.mono BW.out.size))
   clear hbz
   go_wp2_with fail
   go_ret
   exact ⟨rfl, HZ.out⟩
 subst he1
 cases ok1
 · skip
   go_wp2_with fail
   refine (yM W9).mono ?_
   rintro e WZ ⟨rfl, hbz⟩
   have HZ := hH (BW.out.trans (hbz.mono BW.out.size))
   clear hbz
   go_wp2_with fail
   go_ret
   exact ⟨rfl, HZ.out⟩
 cases ok2
 · skip
   go_wp2_with fail
   refine (yM W9).mono ?_
   rintro e WZ ⟨rfl, hbz⟩
   have HZ := hH (BW.out.trans (hbz.mono BW.out.size))
   clear hbz
   go_wp2_with fail
   go_ret
   exact ⟨rfl, HZ.out⟩
 obtain ⟨_, hos, ⟨q, hq⟩, x, hx⟩ := H1.out rfl
 obtain ⟨pa, hpa, hza⟩ := HY.out.1 rfl
 obtain ⟨pr, hpr, hya⟩ := HY2.out.1 rfl
 obtain ⟨v, hv, hvid⟩ := qd root z pr hpr
 have hpath : zw root t = some (pa ++ pr) := by
  have h5 := jT (r := pa ++ pr) (v := v) HDT.out (by rw [yj, hza]; exact hv)
  rwa [hvid] at h5
 have hgo := Ju HDT.out hpa hpath hx
 have HGO := hH (aN hos (aN hpa hgo))
 clear hos hq hx hpa hza hpr hya hv hvid hpath hgo
 obtain ⟨g0, g1⟩ := vX EG.out
 obtain ⟨n0, n1, n2, n3⟩ := zF EN.out
 have HAL := hH (zaq W9 g t above ga ta la gn gc tn tc n c vs HP.out.1 (HP.out.2.1.below BW.out) HGF.out HP.out.2.2.2.1 (q9.on HP.out.2.2.2.2.1 BW.out) HW.out (Qv HDT.out) HA.out.1 (HR.out.on BW.out) HWF.out)
 go_wp2_with fail
 refine HAL.out.mono ?_
 rintro e W10 ⟨at2, er2, rfl, h1, h2, hb⟩
 replace EG := hH ((hb.block _ (lt_of_heap EG.out)).trans EG.out)
 replace EN := hH ((hb.block _ (lt_of_heap EN.out)).trans EN.out)
 replace BW := hH (BW.out.trans (hb.mono BW.out.size))
 clear hb
 clear g0 g1 n0 n1 n2 n3 HAL
 obtain rfl : er2 = 0 := h2 HGO.out.1 ⟨_, HGO.out.2.1⟩ ⟨_, HGO.out.2.2⟩
 obtain rfl : at2 = (n : Int) := by rw [(h1 rfl).1, jG, HA.out.1]
 clear h1 h2
 go_wp2_with fail
 refine (yM W10).mono ?_
 rintro e WZ ⟨rfl, hbz⟩
 have HZ := hH (BW.out.trans (hbz.mono BW.out.size))
 clear hbz
 go_wp2_with fail
 go_ret
 exact ⟨rfl, HZ.out⟩
end Go.Proofs.Ytgkmmnihaiopaaa
namespace Go.Proofs.Ytgkmmnihaiopaaa
open Go.ChangeShapes Go.WideShapes Go.ChangeAt Go.RowKit
open Extern.Stop (cell)
theorem zcK {w : World} {a : Addr} {v : Value} (h : w.cell? a = some v) : a.block < w.heap.size := block_lt_of_cell h
theorem Qi (a : Addr) (j : Nat) : (a.add j).block = a.block := by unfold Addr.add; split <;> rfl
def J3 : List Tr → Fo
 | [] => .nil
 | t :: l => .node 0 0 (t.id, t.kind, t.text) t.kids (J3 l)
theorem zaS : ∀ l : List Tr, foLen (J3 l) = l.length
 | [] => rfl
 | _ :: l => by simp [J3, foLen, zaS l]
theorem zaR : ∀ l : List Tr, (∀ t ∈ l, foLen t.kids ≤ 9223372036854775807 ∧ vP t.kids) → vP (J3 l)
 | [], _ => True.intro
 | t :: l, h => ⟨(h t (List.mem_cons_self ..)).1, (h t (List.mem_cons_self ..)).2, zaR l fun u hu => h u (List.mem_cons_of_mem _ hu)⟩
theorem zcQ {w : World} {S : Nat → Prop} {b : Nat} (hb : S b) : ∀ (l : List Tr) (off : Nat), (∀ i t, l[i]? = some t → ∃ ka cap, w.cell? ⟨b, off + i * 4, none⟩ = some (.int .i64 t.id) ∧ w.cell? ⟨b, off + i * 4 + 1, none⟩ = some (.int .i64 t.kind) ∧
 w.cell? ⟨b, off + i * 4 + 2, none⟩ = some (.string t.text) ∧ w.cell? ⟨b, off + i * 4 + 3, none⟩ = some (.slice ka (foLen t.kids) cap) ∧ foLen t.kids ≤ cap ∧ zC w S t.kids ka) → zC w S (J3 l) (some ⟨b, off, none⟩)
 | [], _, _ => True.intro
 | t :: l, off, h => by
   obtain ⟨ka, cap, h0, h1, h2, h3, hcp, hf⟩ := h 0 t rfl
   refine ⟨b, off, ka, cap, rfl, hb, by simpa using h0, by simpa using h1, by simpa using h2, by simpa using h3, hcp, hf, zcQ hb l (off + 4) fun i u hu => ?_⟩
   obtain ⟨ka, cap, h0, h1, h2, h3, hcp, hf⟩ := h (i + 1) u (by simpa using hu)
   rw [show off + (i + 1) * 4 = off + 4 + i * 4 by omega] at h0 h1 h2 h3
   exact ⟨ka, cap, h0, h1, h2, h3, hcp, hf⟩
def Old (w : World) : Nat → Prop := fun k => k < w.heap.size
def zcX (k : Int × Int × ByteArray) : Prop := (k.2.2.size : Int) ≤ 9223372036854775807 ∧ (Lit.int .i64 k.1).wf = true
def zdP : Fo → Prop
 | .nil => True
 | .node _ _ k l r => zcX k ∧ zdP l ∧ zdP r
theorem zad : ∀ (d : Nat) (f : Fo), zdP f → okF (spF d f)
 | _, .nil, _ => fun x hx => by cases hx
 | d, .node _ _ k l r, h => fun x hx => by
   simp only [spF, List.mem_cons, List.mem_append] at hx
   rcases hx with rfl | hx | hx
   · exact h.1
   · exact zad (d + 1) l h.2.1 x hx
   · exact zad d r h.2.2 x hx
def Fits (t : Tr) : Prop := foLen t.kids ≤ 9223372036854775807 ∧ vP t.kids ∧ zcX (t.id, t.kind, t.text) ∧ zdP t.kids
theorem zcW : ∀ l : List Tr, (∀ t ∈ l, zcX (t.id, t.kind, t.text) ∧ zdP t.kids) → zdP (J3 l)
 | [], _ => True.intro
 | t :: l, h => ⟨(h t (List.mem_cons_self ..)).1, (h t (List.mem_cons_self ..)).2, zcW l fun u hu => h u (List.mem_cons_of_mem _ hu)⟩
section
variable {H : Type} {enc : TypeId × Value → H} {w : World} {base : Nat} {spare : Nat → Bool} {held : Bool}
theorem open_node7 : ∀ (fuel : Nat) (cs : List Value) (x : DataW H × List MemPlace), DataW.trod enc Try.prog w base spare held fuel 27 cs = some x →
 ∃ (t : Tr) (ka : Option Addr) (cap : Nat), cs = [.int .i64 t.id, .int .i64 t.kind, .string t.text, .slice ka (foLen t.kids) cap] ∧ foLen t.kids ≤ cap ∧ zC w (Old w) t.kids ka ∧ Fits t := by
 intro fuel
 induction fuel using Nat.strongRecOn with
 | ind fuel ih =>
   intro cs x h
   obtain ⟨xs, n, hn, _, hl, hlen, hf⟩ := DataW.trod_struct Try.underlying27 h
   have h4 : Try.prog.cellsOf 27 = 4 := by kernel_rfl
   rw [h4] at hl
   match cs, hl with
   | [c0, c1, c2, c3], _ =>
     have k1 : Try.prog.cellsOf 3 = 1 := by kernel_rfl
     have k2 : Try.prog.cellsOf 9 = 1 := by kernel_rfl
     have k3 : Try.prog.cellsOf 25 = 1 := by kernel_rfl
     match xs, hlen with
     | [y0, y1, y2, y3], _ =>
       have t0 : DataW.trod enc Try.prog w base spare held n 3 (([c0, c1, c2, c3].drop 0).take (Try.prog.cellsOf 3)) = some y0 := hf 0 _ rfl
       have t1 : DataW.trod enc Try.prog w base spare held n 3 (([c0, c1, c2, c3].drop 1).take (Try.prog.cellsOf 3)) = some y1 := hf 1 _ rfl
       have t2 : DataW.trod enc Try.prog w base spare held n 9 (([c0, c1, c2, c3].drop 2).take (Try.prog.cellsOf 9)) = some y2 := hf 2 _ rfl
       have t3 : DataW.trod enc Try.prog w base spare held n 25 (([c0, c1, c2, c3].drop 3).take (Try.prog.cellsOf 25)) = some y3 := hf 3 _ rfl
       simp only [k1, k2, k3, List.drop_zero, List.take_succ_cons, List.take_zero, List.drop_succ_cons] at t0 t1 t2 t3
       obtain ⟨id, e0, _, wf0⟩ := DataW.trod_int Try.underlying3 t0
       obtain ⟨kd, e1, _, _⟩ := DataW.trod_int Try.underlying3 t1
       obtain ⟨tx, e2, _, hsz⟩ := DataW.trod_string Try.underlying9 t2
       have hkey : zcX (id, kd, tx) := ⟨by show (tx.size : Int) ≤ _; unfold maxLen at hsz; omega, wf0⟩
       simp only [List.cons.injEq, and_true] at e0 e1 e2
       subst e0; subst e1; subst e2
       rcases DataW.trod_slice Try.underlying25 t3 with ⟨e3, _⟩ | ⟨ad, len, cap, elems, rest, m, hm, e3, _, _, hlc, hcm, _, hi, _⟩
       · simp only [List.cons.injEq, and_true] at e3
         subst e3
         exact ⟨⟨id, kd, tx, .nil⟩, none, 0, rfl, Nat.le_refl _, True.intro, Nat.zero_le _, True.intro, hkey, True.intro⟩
       · simp only [List.cons.injEq, and_true] at e3
         subst e3
         rw [h4] at hi
         have each : ∀ i, i < len → ∃ (u : Tr), ∃ (ka : Option Addr) (kcap : Nat), w.cell? (ad.add (i * 4)) = some (.int .i64 u.id) ∧ w.cell? (ad.add (i * 4 + 1)) = some (.int .i64 u.kind) ∧ w.cell? (ad.add (i * 4 + 2)) = some (.string u.text) ∧
          w.cell? (ad.add (i * 4 + 3)) = some (.slice ka (foLen u.kids) kcap) ∧ foLen u.kids ≤ kcap ∧ zC w (Old w) u.kids ka ∧ Fits u := fun i hil => by
          have h1 := hi i hil
          obtain ⟨y, hy⟩ : ∃ y, elems[i]? = some y := ⟨elems[i]'(by omega), List.getElem?_eq_getElem _⟩
          rw [hy, Option.bind_eq_some_iff] at h1
          obtain ⟨cs', hc, ht⟩ := h1
          obtain ⟨_, _, hat⟩ := World.cells?_some hc
          obtain ⟨u, ka, kcap, rfl, hcp, hfo, hft⟩ := ih m (by omega) cs' y ht
          have a0 := hat 0 (by omega)
          have a1 := hat 1 (by omega)
          have a2 := hat 2 (by omega)
          have a3 := hat 3 (by omega)
          rw [Deep.add_add] at a0 a1 a2 a3
          exact ⟨u, ka, kcap, a0, a1, a2, a3, hcp, hfo, hft⟩
         obtain ⟨f, hff⟩ := Deep.choose_lt each
         have hls : foLen (J3 ((List.range len).map f)) = len := by rw [zaS]; simp
         refine ⟨⟨id, kd, tx, J3 ((List.range len).map f)⟩, some ad, cap, by rw [hls], by rw [hls]; exact hlc, ?_, ?_, ?_, hkey, ?_⟩
         · cases hl0 : len with
           | zero => exact True.intro
           | succ len' =>
             rw [← hl0]
             obtain ⟨b, off, spot⟩ := ad
             obtain ⟨_, _, hz, _⟩ := hff 0 (by omega)
             have hsp : spot = none := by simpa [Addr.add] using World.cell?_spot hz
             subst hsp
             have hlt := zcK hz
             rw [Qi] at hlt
             refine zcQ (show Old w b from hlt) _ off fun i u hu => ?_
             rw [List.getElem?_map, Option.map_eq_some_iff] at hu
             obtain ⟨j, hj, rfl⟩ := hu
             obtain ⟨hlt', rfl⟩ := List.getElem?_eq_some_iff.1 hj
             simp only [List.length_range] at hlt'
             simp only [List.getElem_range]
             obtain ⟨ka, kcap, h0, h1, h2, h3, hcp, hfo, _⟩ := hff i hlt'
             rw [Addr.add_mid] at h0 h1 h2 h3
             exact ⟨ka, kcap, h0, by rw [Nat.add_assoc]; exact h1, by rw [Nat.add_assoc]; exact h2, by rw [Nat.add_assoc]; exact h3, hcp, hfo⟩
         · show foLen (J3 ((List.range len).map f)) ≤ _
           rw [hls]; unfold maxLen at hcm; omega
         · refine zaR _ fun u hu => ?_
           simp only [List.mem_map, List.mem_range] at hu
           obtain ⟨i, hil, rfl⟩ := hu
           obtain ⟨_, _, _, _, _, _, _, _, hft⟩ := hff i hil
           exact ⟨hft.1, hft.2.1⟩
         · refine zcW _ fun u hu => ?_
           simp only [List.mem_map, List.mem_range] at hu
           obtain ⟨i, hil, rfl⟩ := hu
           obtain ⟨_, _, _, _, _, _, _, _, hft⟩ := hff i hil
           exact hft.2.2
theorem zcp (fuel : Nat) (cs : List Value) (x : DataW H × List MemPlace) (h : DataW.trod enc Try.prog w base spare held fuel 49 cs = some x) :
 ∃ (op id par at_ : Int) (tx : ByteArray) (u : Tr) (ka : Option Addr) (cap : Nat), cs = [.int .i8 op, .int .i64 id, .int .i64 par, .int .i64 at_, .string tx, .int .i64 u.id, .int .i64 u.kind, .string u.text, .slice ka (foLen u.kids) cap] ∧ foLen u.kids ≤ cap ∧ zC w (Old w) u.kids ka ∧ Fits u ∧ ((Lit.int .i8 op).wf = true ∧ (Lit.int .i64 id).wf = true ∧ (Lit.int .i64 par).wf = true ∧ (Lit.int .i64 at_).wf = true) ∧ (tx.size : Int) ≤ 9223372036854775807 := by
 obtain ⟨xs, n, _, _, hl, hlen, hf⟩ := DataW.trod_struct Try.underlying49 h
 have h9 : Try.prog.cellsOf 49 = 9 := by kernel_rfl
 rw [h9] at hl
 match cs, hl with
 | [c0, c1, c2, c3, c4, c5, c6, c7, c8], _ =>
   have k1 : Try.prog.cellsOf 3 = 1 := by kernel_rfl
   have k2 : Try.prog.cellsOf 9 = 1 := by kernel_rfl
   have k3 : Try.prog.cellsOf 27 = 4 := by kernel_rfl
   have k4 : Try.prog.cellsOf 47 = 1 := by kernel_rfl
   match xs, hlen with
   | [y0, y1, y2, y3, y4, y5], _ =>
     have t0 : DataW.trod enc Try.prog w base spare held n 47 (([c0, c1, c2, c3, c4, c5, c6, c7, c8].drop 0).take (Try.prog.cellsOf 47)) = some y0 := hf 0 _ rfl
     have t1 : DataW.trod enc Try.prog w base spare held n 3 (([c0, c1, c2, c3, c4, c5, c6, c7, c8].drop 1).take (Try.prog.cellsOf 3)) = some y1 := hf 1 _ rfl
     have t2 : DataW.trod enc Try.prog w base spare held n 3 (([c0, c1, c2, c3, c4, c5, c6, c7, c8].drop 2).take (Try.prog.cellsOf 3)) = some y2 := hf 2 _ rfl
     have t3 : DataW.trod enc Try.prog w base spare held n 3 (([c0, c1, c2, c3, c4, c5, c6, c7, c8].drop 3).take (Try.prog.cellsOf 3)) = some y3 := hf 3 _ rfl
     have t4 : DataW.trod enc Try.prog w base spare held n 9 (([c0, c1, c2, c3, c4, c5, c6, c7, c8].drop 4).take (Try.prog.cellsOf 9)) = some y4 := hf 4 _ rfl
     have t5 : DataW.trod enc Try.prog w base spare held n 27 (([c0, c1, c2, c3, c4, c5, c6, c7, c8].drop 5).take (Try.prog.cellsOf 27)) = some y5 := hf 5 _ rfl
     simp only [k1, k2, k3, k4, List.drop_zero, List.take_succ_cons, List.take_zero, List.drop_succ_cons] at t0 t1 t2 t3 t4 t5
     obtain ⟨op, e0, _, b0⟩ := DataW.trod_int Try.underlying47 t0
     obtain ⟨id, e1, _, b1⟩ := DataW.trod_int Try.underlying3 t1
     obtain ⟨pa, e2, _, b2⟩ := DataW.trod_int Try.underlying3 t2
     obtain ⟨pl, e3, _, b3⟩ := DataW.trod_int Try.underlying3 t3
     obtain ⟨tx, e4, _, b4⟩ := DataW.trod_string Try.underlying9 t4
     obtain ⟨u, ka, cap, e5, hcp, hfo, hft⟩ := open_node7 n _ y5 t5
     simp only [List.cons.injEq, and_true] at e0 e1 e2 e3 e4 e5
     obtain ⟨rfl, rfl, rfl, rfl⟩ := e5
     subst e0; subst e1; subst e2; subst e3; subst e4
     exact ⟨op, id, pa, pl, tx, u, ka, cap, rfl, hcp, hfo, hft, ⟨b0, b1, b2, b3⟩, by unfold maxLen at b4; omega⟩
end
end Go.Proofs.Ytgkmmnihaiopaaa
namespace Go.Proofs.Ytgkmmnihaiopaaa
open Go.ChangeShapes Go.WideShapes Go.ChangeAt Go.RowKit
open Extern.Stop (cell)
section
variable {H : Type} {enc : TypeId × Value → H} {w : World} {base : Nat} {spare : Nat → Bool} {held : Bool}
end
structure zbW (w : World) (v : Value) (t : Tr) : Prop where
 at_ : zH w (Old w) v t
 fit : Fits t
theorem zbW.open {w : World} {v : Value} {t : Tr} (h : zbW w v t) : ∃ ta tc, v = .agg #[.int .i64 t.id, .int .i64 t.kind, .string t.text, .slice ta (foLen t.kids) tc] ∧ q9 w t.kids ta tc ∧ foLen t.kids ≤ 9223372036854775807 ∧ vP t.kids ∧ okF (spF 1 (zl t)) := by
 obtain ⟨ta, tc, e, h1, h2⟩ := h.at_
 exact ⟨ta, tc, e, ⟨h1, h2.kept fun q hq => ⟨hq, rfl⟩⟩, h.fit.1, h.fit.2.1, zad 1 (zl t) ⟨h.fit.2.2.1, h.fit.2.2.2, True.intro⟩⟩
end Go.Proofs.Ytgkmmnihaiopaaa
namespace Go.Proofs.Ytgkmmnihaiopaaa
open Go.ChangeShapes Go.WideShapes Go.ChangeAt Go.RowKit
open Extern.Stop (cell)
section
variable {H : Type} {enc : TypeId × Value → H} {w : World} {base : Nat} {spare : Nat → Bool} {held : Bool}
theorem open_stepsW (fuel : Nat) (v : Value) (x : DataW H × List MemPlace) (h : DataW.trod enc Try.prog w base spare held fuel 28 [v] = some x) :
 ∃ (vs : List SV) (a : Option Addr) (cap : Nat), v = .slice a vs.length cap ∧ (JM w a vs ∧ ∀ x ∈ vs, (Lit.int .i64 x.s.id).wf = true ∧ (Lit.int .i64 x.s.par).wf = true) := by
 rcases Deep.open_slice Try.underlying28 h with ⟨hcs, _⟩ | ⟨ad, len, cap, m, n, D, Pl, hcs, _, hl, hm, hmm, _, hi⟩
 · simp only [List.cons.injEq, and_true] at hcs
   subst hcs
   exact ⟨[], none, 0, rfl, ⟨fun k s hs => by simp at hs, fun x hx => by simp at hx, fun x hx => by simp at hx⟩, fun x hx => by simp at hx⟩
 · simp only [List.cons.injEq, and_true] at hcs
   subst hcs
   have h9 : Try.prog.cellsOf 49 = 9 := by kernel_rfl
   have hle : len ≤ m := by rw [hmm]; split <;> omega
   rw [h9] at hi
   have each : ∀ i, i < len → ∃ (y : SV), (∀ j u, (zc2 y.s y.a y.c)[j]? = some u → w.cell? (ad.add (i * 9 + j)) = some u) ∧ ZI w y ∧ zbV y.s ∧ ((Lit.int .i64 y.s.id).wf = true ∧ (Lit.int .i64 y.s.par).wf = true) := fun i hil => by
    obtain ⟨cs', hc, ht⟩ := hi i (by omega)
    obtain ⟨_, _, hat⟩ := World.cells?_some hc
    obtain ⟨op, id, par, at_, tx, u, ka, kcap, rfl, hcp, hfo, hft, hw, htx⟩ := zcp n cs' _ ht
    refine ⟨⟨⟨op, id, par, at_, tx, u⟩, ka, kcap⟩, fun j u hj => ?_, ⟨hcp, hfo.kept fun q hq => ⟨hq, rfl⟩⟩, ⟨hw.1, hft.1, hft.2.1, zad 1 (zl u) ⟨hft.2.2.1, hft.2.2.2, True.intro⟩, htx⟩, hw.2.1, hw.2.2.1⟩
    have hj9 : j < 9 := (List.getElem?_eq_some_iff.1 hj).1
    have := hat j hj9
    rw [Deep.add_add] at this
    exact this.trans hj
   haveI : Inhabited SV := ⟨⟨zfA, none, 0⟩⟩
   obtain ⟨f, hff⟩ := Deep.choose_lt each
   have hmem : ∀ x ∈ (List.range len).map f, ZI w x ∧ zbV x.s ∧ ((Lit.int .i64 x.s.id).wf = true ∧ (Lit.int .i64 x.s.par).wf = true) := fun x hx => by
    obtain ⟨j, hj, rfl⟩ := List.mem_map.1 hx
    obtain ⟨_, h1, h2⟩ := hff j (List.mem_range.1 hj)
    exact ⟨h1, h2⟩
   refine ⟨(List.range len).map f, some ad, cap, by simp, ⟨fun k s hs => ?_, fun x hx => (hmem x hx).1, fun x hx => (hmem x hx).2.1⟩, fun x hx => (hmem x hx).2.2⟩
   rw [List.getElem?_map, Option.map_eq_some_iff] at hs
   obtain ⟨j, hj, rfl⟩ := hs
   obtain ⟨hlt', rfl⟩ := List.getElem?_eq_some_iff.1 hj
   simp only [List.length_range] at hlt'
   simp only [List.getElem_range]
   obtain ⟨hz, h1, h2⟩ := hff k hlt'
   obtain ⟨b, off, spot⟩ := ad
   obtain ⟨hz', _, _⟩ := hff 0 (by omega)
   have hz0 := hz' 0 _ rfl
   have hsp : spot = none := by simpa [Addr.add] using World.cell?_spot hz0
   subst hsp
   have hlt := zcK hz0
   rw [Qi] at hlt
   clear hz0 hz'
   refine ⟨b, off, rfl, hlt, fun j u hj => ?_⟩
   have := hz j u hj
   rw [Addr.add_mid, ← Nat.add_assoc] at this
   exact this
end
end Go.Proofs.Ytgkmmnihaiopaaa
namespace Go.Proofs.Ytgkmmnihaiopaaa
open Go.RowKit Go.Shelf
theorem withinAbove_fr (w : World) (gv : Value) (g : Gr) (nv : Value) (t : Tr) (root above : Int) (pa : List SV) (la : Option Addr) (ca : Nat) (hg : GrV w gv g) (hfg : g.fits) (ht : zH w (Old w) nv t) (hft : Fits t) (ha : JM w la pa ∧ ∀ x ∈ pa, (Lit.int .i64 x.s.id).wf = true ∧ (Lit.int .i64 x.s.par).wf = true) :
 Calls Try.prog 4 #[gv, nv, .int .i64 root, .int .i64 above, .slice la pa.length ca] w (zg4 w) := by
 obtain ⟨ga, gc, rfl, hk⟩ := hg
 obtain ⟨ta, tc, rfl, h1, h2, h3, h4⟩ := zbW.open ⟨ht, hft⟩
 exact YX w g t ga ta la _ gc _ tc _ ca pa root above rfl ⟨ga, gc, rfl, hk⟩ hfg rfl h1 h2 h3 h4 rfl ha.1 ha.2
end Go.Proofs.Ytgkmmnihaiopaaa
