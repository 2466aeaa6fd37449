/-
  .
-/
import Derived.Test.YtgkmmnihaiopaaaVFaultQa
import Derived.Test.YtgkmmnihaiopaaaGRCheckQa
import Derived.Deep.Cut
import Derived.Test.YtgkmmnihaiopaaaKApplyXQa
import Derived.Test.YtgkmmnihaiopaaaJPgQa
set_option maxRecDepth 100000
set_option maxHeartbeats 40000000
set_option linter.unusedVariables false
set_option linter.unusedSimpArgs false
namespace Go.Proofs.Ytgkmmnihaiopaaa
open Go.RowKit Go.Shelf
attribute [local go_sem] Oper.semAt_some
def qK (g : Gr) (t : Tr) : Int × Int := if yL g = true then (if 200 < zg t.kids + 1 then (0, 70) else qN g (spF 1 (zl t))) else (0, 50)
def ql (g : Gr) (t : Tr) : Int × Int := if yL g = true ∧ ¬ t.kind = g.root then (0, 70) else qK g t
theorem zf2 (w : World) (S : Nat → Prop) (gv nv : Value) (g : Gr) (t : Tr) (hg : GrV w gv g) (hf : g.few) (hS : ∀ x, S x → x < w.heap.size) (ht : zH w S nv t) (hsz : zg t.kids + 1 ≤ 500000) (hok : okF (spF 1 (zl t))) :
 Calls Try.prog 77 #[gv, nv] w (ZL (qK g t) w) := by
 obtain ⟨ga, gc, rfl, hgk⟩ := hg
 obtain ⟨ka, cap, rfl, hcap, hk⟩ := ht
 obtain ⟨n, hn⟩ : ∃ n, n = foLen t.kids := ⟨_, rfl⟩
 obtain ⟨gn, hgn⟩ : ∃ gn, gn = g.kinds.length := ⟨_, rfl⟩
 rw [← hn, ← hgn]
 have kx : ((w.alloc (.cells #[.slice ga gn gc, .int .i64 g.root] 24)).alloc (.cells #[.int .i64 t.id, .int .i64 t.kind, .string t.text, .slice ka n cap] 27)).heap[w.heap.size]? = _ := zi [.cells #[.slice ga gn gc, .int .i64 g.root] 24, .cells #[.int .i64 t.id, .int .i64 t.kind, .string t.text, .slice ka n cap] 27] w 0 _ rfl
 have ky : ((w.alloc (.cells #[.slice ga gn gc, .int .i64 g.root] 24)).alloc (.cells #[.int .i64 t.id, .int .i64 t.kind, .string t.text, .slice ka n cap] 27)).heap[w.heap.size + 1]? = _ := zi [.cells #[.slice ga gn gc, .int .i64 g.root] 24, .cells #[.int .i64 t.id, .int .i64 t.kind, .string t.text, .slice ka n cap] 27] w 1 _ rfl
 have hab : Below w.heap.size w ((w.alloc (.cells #[.slice ga gn gc, .int .i64 g.root] 24)).alloc (.cells #[.int .i64 t.id, .int .i64 t.kind, .string t.text, .slice ka n cap] 27)) := zm [.cells #[.slice ga gn gc, .int .i64 g.root] 24, .cells #[.int .i64 t.id, .int .i64 t.kind, .string t.text, .slice ka n cap] 27] w
 obtain ⟨SX, hSX⟩ : ∃ SX : World → Prop, SX = fun X => Below (w.heap.size + 2) ((w.alloc (.cells #[.slice ga gn gc, .int .i64 g.root] 24)).alloc (.cells #[.int .i64 t.id, .int .i64 t.kind, .string t.text, .slice ka n cap] 27)) X := ⟨_, rfl⟩
 have HSx : ∀ X, SX X → X.cell? ⟨w.heap.size, 0, none⟩ = some (.slice ga gn gc) ∧ X.cell? ⟨w.heap.size, 1, none⟩ = some (.int .i64 g.root) ∧ X.cell? ⟨w.heap.size + 1, 0, none⟩ = some (.int .i64 t.id) ∧ X.cell? ⟨w.heap.size + 1, 1, none⟩ = some (.int .i64 t.kind) ∧ X.cell? ⟨w.heap.size + 1, 2, none⟩ = some (.string t.text) ∧ X.cell? ⟨w.heap.size + 1, 3, none⟩ = some (.slice ka n cap) := fun X h => by
  rw [hSX] at h
  obtain ⟨a0, a1⟩ := zaD ((h.block _ (by omega)).trans kx)
  obtain ⟨b0, b1, b2, b3⟩ := zb3 ((h.block _ (by omega)).trans ky)
  exact ⟨a0, a1, b0, b1, b2, b3⟩
 have HS := hH (show SX ((w.alloc (.cells #[.slice ga gn gc, .int .i64 g.root] 24)).alloc (.cells #[.int .i64 t.id, .int .i64 t.kind, .string t.text, .slice ka n cap] 27)) by rw [hSX]; exact Below.refl _ _)
 have HSB := hH (fun (X Y : World) (h : SX X) (hb : Below X.heap.size X Y) => (show SX Y by rw [hSX] at h ⊢; exact h.trans (hb.mono (by have := h.size; simp at this; omega))))
 have hwX : ∀ X, SX X → Below w.heap.size w X := fun X h => by rw [hSX] at h; exact hab.trans (h.mono (by omega))
 have hgX : ∀ X, SX X → GrV X (.agg #[.slice ga gn gc, .int .i64 g.root]) g := fun X h => ⟨ga, gc, by rw [hgn], hgk.below (hwX X h)⟩
 have htX : ∀ X, SX X → zH X S (.agg #[.int .i64 t.id, .int .i64 t.kind, .string t.text, .slice ka n cap]) t := fun X h => ⟨ka, cap, by rw [hn], hcap, hk.below (hwX X h) hS⟩
 have hSXl : ∀ X, SX X → ∀ y, S y → y < X.heap.size := fun X h y hy => nL (hS y hy) (hwX X h).size
 have HCK : Hid (∀ X, SX X → Calls Try.prog 76 #[.agg #[.slice ga gn gc, .int .i64 g.root]] X (yB (jM (yL g)) X)) := hH fun X h => Jp X _ g (hgX X h) hf
 obtain ⟨b1, hb1⟩ : ∃ b, b = decide (200 < zg t.kids + 1) := ⟨_, rfl⟩
 obtain ⟨⟨f1, f2⟩, hfr⟩ : ∃ p : Int × Int, p = qN g (spF 1 (zl t)) := ⟨_, rfl⟩
 have HTM : Hid (∀ X, SX X → Calls Try.prog 103 #[.agg #[.int .i64 t.id, .int .i64 t.kind, .string t.text, .slice ka n cap]] X (Says b1 X)) := hH fun X h => by
  have := zbH X S _ t (hSXl X h) (htX X h) hsz
  rw [← hb1] at this; exact this
 have HFA : Hid (∀ X, SX X → Calls Try.prog 104 #[.agg #[.slice ga gn gc, .int .i64 g.root], .agg #[.int .i64 t.id, .int .i64 t.kind, .string t.text, .slice ka n cap]] X (ZL (f1, f2) X)) := hH fun X h => by
  have := zdy X S _ _ g t (hgX X h) hf (hSXl X h) (htX X h) hsz hok
  rw [← hfr] at this; exact this
 have HB1 := hH hb1
 have HFR := hH hfr
 have HFIN := hH hwX
 obtain ⟨ck, hck⟩ : ∃ ck, ck = yL g := ⟨_, rfl⟩
 have HK := hH hck
 rw [← hck] at HCK
 clear hS hcap hk hn hgn hf hgk hsz hok kx ky hab hSX hwX hgX htX hSXl hb1 hfr hck
 cases ck
 · have HB := hH (show qK g t = (0, 50) by rw [qK, ← HK.out]; rfl)
   rw [show jM false = 50 from rfl] at HCK
   go_enter Try.func77, Try.ntmps77
   go_wp2_with (go_at_call 76; refine (HCK.out _ HS.out).mono ?_; rintro e w2 ⟨rfl, hb⟩; have HS2 := hH (HSB.out _ w2 HS.out hb); obtain ⟨p0, p1, p2, p3, p4, p5⟩ := HSx w2 HS2.out; clear hb)
   go_ret2
   exact ⟨by rw [HB.out]; rfl, HFIN.out _ HS2.out⟩
 · rw [show jM true = 0 from rfl] at HCK
   cases b1
   · have HB := hH (show qK g t = (f1, f2) by rw [qK, ← HK.out, if_pos rfl, if_neg (of_decide_eq_false HB1.out.symm), HFR.out])
     go_enter Try.func77, Try.ntmps77
     go_wp2_with (first
      | (go_at_call 76; refine (HCK.out _ HS.out).mono ?_; rintro e w2 ⟨rfl, hb⟩; have HS2 := hH (HSB.out _ w2 HS.out hb); obtain ⟨p0, p1, p2, p3, p4, p5⟩ := HSx w2 HS2.out; clear hb)
      | (go_at_call 103; refine (HTM.out _ HS2.out).mono ?_; rintro e w3 ⟨rfl, hb⟩; have HS3 := hH (HSB.out _ w3 HS2.out hb); obtain ⟨q0, q1, q2, q3, q4, q5⟩ := HSx w3 HS3.out; clear hb)
      | (go_at_call 104; refine (HFA.out _ HS3.out).mono ?_; rintro e w4 ⟨rfl, hb⟩; have HS4 := hH (HSB.out _ w4 HS3.out hb); obtain ⟨r0, r1, r2, r3, r4, r5⟩ := HSx w4 HS4.out; clear hb))
     go_ret2
     exact ⟨by rw [HB.out]; rfl, HFIN.out _ HS4.out⟩
   · have HB := hH (show qK g t = (0, 70) by rw [qK, ← HK.out, if_pos rfl, if_pos (of_decide_eq_true HB1.out.symm)])
     go_enter Try.func77, Try.ntmps77
     go_wp2_with (first
      | (go_at_call 76; refine (HCK.out _ HS.out).mono ?_; rintro e w2 ⟨rfl, hb⟩; have HS2 := hH (HSB.out _ w2 HS.out hb); obtain ⟨p0, p1, p2, p3, p4, p5⟩ := HSx w2 HS2.out; clear hb)
      | (go_at_call 103; refine (HTM.out _ HS2.out).mono ?_; rintro e w3 ⟨rfl, hb⟩; have HS3 := hH (HSB.out _ w3 HS2.out hb); obtain ⟨q0, q1, q2, q3, q4, q5⟩ := HSx w3 HS3.out; clear hb))
     go_ret2
     exact ⟨by rw [HB.out]; rfl, HFIN.out _ HS3.out⟩
theorem zfw (w : World) (S : Nat → Prop) (gv nv : Value) (g : Gr) (t : Tr) (hg : GrV w gv g) (hf : g.few) (hS : ∀ x, S x → x < w.heap.size) (ht : zH w S nv t) (hsz : zg t.kids + 1 ≤ 500000) (hok : okF (spF 1 (zl t))) :
 Calls Try.prog 49 #[gv, nv] w (ZL (ql g t) w) := by
 obtain ⟨ga, gc, rfl, hgk⟩ := hg
 obtain ⟨ka, cap, rfl, hcap, hk⟩ := ht
 obtain ⟨n, hn⟩ : ∃ n, n = foLen t.kids := ⟨_, rfl⟩
 obtain ⟨gn, hgn⟩ : ∃ gn, gn = g.kinds.length := ⟨_, rfl⟩
 rw [← hn, ← hgn]
 have kx : ((w.alloc (.cells #[.slice ga gn gc, .int .i64 g.root] 24)).alloc (.cells #[.int .i64 t.id, .int .i64 t.kind, .string t.text, .slice ka n cap] 27)).heap[w.heap.size]? = _ := zi [.cells #[.slice ga gn gc, .int .i64 g.root] 24, .cells #[.int .i64 t.id, .int .i64 t.kind, .string t.text, .slice ka n cap] 27] w 0 _ rfl
 have ky : ((w.alloc (.cells #[.slice ga gn gc, .int .i64 g.root] 24)).alloc (.cells #[.int .i64 t.id, .int .i64 t.kind, .string t.text, .slice ka n cap] 27)).heap[w.heap.size + 1]? = _ := zi [.cells #[.slice ga gn gc, .int .i64 g.root] 24, .cells #[.int .i64 t.id, .int .i64 t.kind, .string t.text, .slice ka n cap] 27] w 1 _ rfl
 have hab : Below w.heap.size w ((w.alloc (.cells #[.slice ga gn gc, .int .i64 g.root] 24)).alloc (.cells #[.int .i64 t.id, .int .i64 t.kind, .string t.text, .slice ka n cap] 27)) := zm [.cells #[.slice ga gn gc, .int .i64 g.root] 24, .cells #[.int .i64 t.id, .int .i64 t.kind, .string t.text, .slice ka n cap] 27] w
 obtain ⟨SX, hSX⟩ : ∃ SX : World → Prop, SX = fun X => Below (w.heap.size + 2) ((w.alloc (.cells #[.slice ga gn gc, .int .i64 g.root] 24)).alloc (.cells #[.int .i64 t.id, .int .i64 t.kind, .string t.text, .slice ka n cap] 27)) X := ⟨_, rfl⟩
 have HSx : ∀ X, SX X → X.cell? ⟨w.heap.size, 0, none⟩ = some (.slice ga gn gc) ∧ X.cell? ⟨w.heap.size, 1, none⟩ = some (.int .i64 g.root) ∧ X.cell? ⟨w.heap.size + 1, 0, none⟩ = some (.int .i64 t.id) ∧ X.cell? ⟨w.heap.size + 1, 1, none⟩ = some (.int .i64 t.kind) ∧ X.cell? ⟨w.heap.size + 1, 2, none⟩ = some (.string t.text) ∧ X.cell? ⟨w.heap.size + 1, 3, none⟩ = some (.slice ka n cap) := fun X h => by
  rw [hSX] at h
  obtain ⟨a0, a1⟩ := zaD ((h.block _ (by omega)).trans kx)
  obtain ⟨b0, b1, b2, b3⟩ := zb3 ((h.block _ (by omega)).trans ky)
  exact ⟨a0, a1, b0, b1, b2, b3⟩
 have HS := hH (show SX ((w.alloc (.cells #[.slice ga gn gc, .int .i64 g.root] 24)).alloc (.cells #[.int .i64 t.id, .int .i64 t.kind, .string t.text, .slice ka n cap] 27)) by rw [hSX]; exact Below.refl _ _)
 have HSB := hH (fun (X Y : World) (h : SX X) (hb : Below X.heap.size X Y) => (show SX Y by rw [hSX] at h ⊢; exact h.trans (hb.mono (by have := h.size; simp at this; omega))))
 have hwX : ∀ X, SX X → Below w.heap.size w X := fun X h => by rw [hSX] at h; exact hab.trans (h.mono (by omega))
 have hgX : ∀ X, SX X → GrV X (.agg #[.slice ga gn gc, .int .i64 g.root]) g := fun X h => ⟨ga, gc, by rw [hgn], hgk.below (hwX X h)⟩
 have htX : ∀ X, SX X → zH X S (.agg #[.int .i64 t.id, .int .i64 t.kind, .string t.text, .slice ka n cap]) t := fun X h => ⟨ka, cap, by rw [hn], hcap, hk.below (hwX X h) hS⟩
 have hSXl : ∀ X, SX X → ∀ y, S y → y < X.heap.size := fun X h y hy => nL (hS y hy) (hwX X h).size
 have HCK : Hid (∀ X, SX X → Calls Try.prog 76 #[.agg #[.slice ga gn gc, .int .i64 g.root]] X (yB (jM (yL g)) X)) := hH fun X h => Jp X _ g (hgX X h) hf
 obtain ⟨⟨f1, f2⟩, hfr⟩ : ∃ p : Int × Int, p = qK g t := ⟨_, rfl⟩
 have HFA : Hid (∀ X, SX X → Calls Try.prog 77 #[.agg #[.slice ga gn gc, .int .i64 g.root], .agg #[.int .i64 t.id, .int .i64 t.kind, .string t.text, .slice ka n cap]] X (ZL (f1, f2) X)) := hH fun X h => by
  have := zf2 X S _ _ g t (hgX X h) hf (hSXl X h) (htX X h) hsz hok
  rw [← hfr] at this; exact this
 have HFR := hH hfr
 have HFIN := hH hwX
 obtain ⟨ck, hck⟩ : ∃ ck, ck = yL g := ⟨_, rfl⟩
 have HK := hH hck
 rw [← hck] at HCK
 clear hS hcap hk hn hgn hf hgk hsz hok kx ky hab hSX hwX hgX htX hSXl hfr hck
 cases ck
 · have HB := hH (show ql g t = (f1, f2) by rw [ql, ← HK.out, if_neg (by simp), HFR.out])
   rw [show jM false = 50 from rfl] at HCK
   go_enter Try.func49, Try.ntmps49
   go_wp2_with (first
    | (go_at_call 76; refine (HCK.out _ HS.out).mono ?_; rintro e w2 ⟨rfl, hb⟩; have HS2 := hH (HSB.out _ w2 HS.out hb); obtain ⟨p0, p1, p2, p3, p4, p5⟩ := HSx w2 HS2.out; clear hb)
    | (go_at_call 77; refine (HFA.out _ HS2.out).mono ?_; rintro e w3 ⟨rfl, hb⟩; have HS3 := hH (HSB.out _ w3 HS2.out hb); obtain ⟨q0, q1, q2, q3, q4, q5⟩ := HSx w3 HS3.out; clear hb))
   go_ret2
   exact ⟨by rw [HB.out]; rfl, HFIN.out _ HS3.out⟩
 · rw [show jM true = 0 from rfl] at HCK
   by_cases hr : t.kind = g.root
   · have HB := hH (show ql g t = (f1, f2) by rw [ql, ← HK.out, if_neg (by simp [hr]), HFR.out])
     have hne : (t.kind != g.root) = false := by simp [hr]
     clear hr
     go_enter Try.func49, Try.ntmps49
     go_wp2_with (first
      | (go_at_call 76; refine (HCK.out _ HS.out).mono ?_; rintro e w2 ⟨rfl, hb⟩; have HS2 := hH (HSB.out _ w2 HS.out hb); obtain ⟨p0, p1, p2, p3, p4, p5⟩ := HSx w2 HS2.out; clear hb)
      | (go_at_call 77; refine (HFA.out _ HS2.out).mono ?_; rintro e w3 ⟨rfl, hb⟩; have HS3 := hH (HSB.out _ w3 HS2.out hb); obtain ⟨q0, q1, q2, q3, q4, q5⟩ := HSx w3 HS3.out; clear hb))
     go_ret2
     exact ⟨by rw [HB.out]; rfl, HFIN.out _ HS3.out⟩
   · have HB := hH (show ql g t = (0, 70) by rw [ql, ← HK.out, if_pos ⟨rfl, hr⟩])
     go_enter Try.func49, Try.ntmps49
     go_wp2_with (go_at_call 76; refine (HCK.out _ HS.out).mono ?_; rintro e w2 ⟨rfl, hb⟩; have HS2 := hH (HSB.out _ w2 HS.out hb); obtain ⟨p0, p1, p2, p3, p4, p5⟩ := HSx w2 HS2.out; clear hb)
     go_ret2
     exact ⟨by rw [HB.out]; rfl, HFIN.out _ HS2.out⟩
end Go.Proofs.Ytgkmmnihaiopaaa
namespace Go.Proofs.Ytgkmmnihaiopaaa
open Go.RowKit Go.Shelf
def okB (k : Key) : Bool := decide ((k.2.2.size : Int) ≤ 9223372036854775807) && (Lit.int .i64 k.1).wf
theorem zab (k : Key) : okB k = true ↔ (k.2.2.size : Int) ≤ 9223372036854775807 ∧ (Lit.int .i64 k.1).wf = true := by simp [okB]
theorem zac (t : Tr) : okF (spF 1 (zl t)) ↔ yA (fun k => !okB k) t = 0 := by
 have h := zaJ (fun k => !okB k) t
 constructor
 · intro ho
   rcases Nat.eq_zero_or_pos (yA (fun k => !okB k) t) with h0 | h0
   · exact h0
   · obtain ⟨x, hx, hp⟩ := h.2 h0
     have := (zab x.2.1).2 (ho x hx)
     simp [this] at hp
 · intro h0 x hx
   have hp : okB x.2.1 = true := by
    cases hb : okB x.2.1 with
    | true => rfl
    | false =>
      have := h.1 ⟨x, hx, by simp [hb]⟩
      omega
   exact (zab _).1 hp
theorem Fx.ok {op id : Int} {tx : ByteArray} {x t y : Tr} (h : Fx op id tx x t y) (ht : okF (spF 1 (zl t))) (hx : okF (spF 1 (zl x))) (htx : (tx.size : Int) ≤ 9223372036854775807) : okF (spF 1 (zl y)) := by
 have ht0 := (zac t).1 ht
 have hx0 := (zac x).1 hx
 rw [zac]
 cases h with
 | ins ho h => rw [h _]; omega
 | del ho q v hq hv h => have := h (fun k => !okB k); omega
 | mov ho h => rw [h _]; exact ht0
 | wri ho q u hq hu h =>
   have h1 := h (fun k => !okB k)
   obtain ⟨z, hz, e⟩ := zdX hu
   have h2 := (ht z hz).2
   have h3 : okB (u.id, u.kind, tx) = true := (zab _).2 ⟨htx, by rw [← e]; exact h2⟩
   have h4 : vY (fun k => !okB k) (u.id, u.kind, tx) = 0 := by simp [vY, h3]
   omega
theorem zcB (op id par at_ : Int) (tx : ByteArray) (x t : Tr) : zg (vT op id par at_ tx x t).1.kids ≤ zg t.kids + zg x.kids + 1 := by
 unfold vT
 split
 · exact ZW par at_ x t
 · split
   · have := Z8 id t; omega
   · split
     · have := QS id par at_ t; omega
     · split
       · have := YT id tx t; omega
       · simp [zB, zg]
theorem J4 : ∀ f : Fo, idF f = vQ f
 | .nil => rfl
 | .node b o k l r => by rw [yC, idF, J4 l, J4 r]
def doK (g : Gr) (r : Tr × Int) : Tr × Int := if r.2 = 0 then (if (ql g r.1).2 = 0 then (r.1, 0) else (zB, (ql g r.1).2)) else (zB, r.2)
theorem zgC (w : World) (S Sx : Nat → Prop) (gv nv : Value) (g : Gr) (t x : Tr) (op id par at_ : Int) (tx : ByteArray) (sa : Option Addr) (sn sc : Nat) (hg : GrV w gv g) (hf : g.few) (hS : ∀ y, S y → y < w.heap.size) (hSx : ∀ y, Sx y → y < w.heap.size) (ht : zH w S nv t) (hx : zH w Sx (.agg #[.int .i64 x.id, .int .i64 x.kind, .string x.text, .slice sa sn sc]) x) (hsz : zg t.kids + 1 ≤ 2000) (hxz : zg x.kids + 1 ≤ 2000) (hop : (Lit.int .i8 op).wf = true) (hok : okF (spF 1 (zl t))) (hxk : okF (spF 1 (zl x))) (htx : (tx.size : Int) ≤ 9223372036854775807) :
 Calls Try.prog 32 #[gv, nv, .agg #[.int .i8 op, .int .i64 id, .int .i64 par, .int .i64 at_, .string tx, .int .i64 x.id, .int .i64 x.kind, .string x.text, .slice sa sn sc]] w (qL w (fun y => S y ∨ Sx y) (doK g (vT op id par at_ tx x t))) := by
 obtain ⟨ga, gc, rfl, hgk⟩ := hg
 obtain ⟨gn, hgn⟩ : ∃ gn, gn = g.kinds.length := ⟨_, rfl⟩
 obtain ⟨ka, tc, rfl, hcap, hk⟩ := ht
 obtain ⟨nk, hnk⟩ : ∃ nk, nk = foLen t.kids := ⟨_, rfl⟩
 rw [← hnk, ← hgn]
 obtain ⟨B, hB⟩ : ∃ B, B = zq w [.cells #[.slice ga gn gc, .int .i64 g.root] 24, .cells #[.int .i64 t.id, .int .i64 t.kind, .string t.text, .slice ka nk tc] 27, .cells #[.int .i8 op, .int .i64 id, .int .i64 par, .int .i64 at_, .string tx, .int .i64 x.id, .int .i64 x.kind, .string x.text, .slice sa sn sc] 49, .cells #[.int .i64 0, .int .i64 0, .string ⟨#[]⟩, .slice none 0 0] 27] := ⟨_, rfl⟩
 have hb : Below w.heap.size w B := by rw [hB]; exact zm _ _
 have hs : B.heap.size = w.heap.size + 4 := by rw [hB]; exact zx _ _
 have hgb0 : B.heap[w.heap.size]? = some (.cells #[.slice ga gn gc, .int .i64 g.root] 24 (0, 0)) := by rw [hB]; exact zi _ _ 0 _ rfl
 have ht0 : B.heap[w.heap.size + 1]? = some (.cells #[.int .i64 t.id, .int .i64 t.kind, .string t.text, .slice ka nk tc] 27 (0, 0)) := by rw [hB]; exact zi _ _ 1 _ rfl
 have hs0 : B.heap[w.heap.size + 1 + 1]? = some (.cells #[.int .i8 op, .int .i64 id, .int .i64 par, .int .i64 at_, .string tx, .int .i64 x.id, .int .i64 x.kind, .string x.text, .slice sa sn sc] 49 (0, 0)) := by rw [hB]; exact zi _ _ 2 _ rfl
 have hr0 : B.heap[w.heap.size + 1 + 1 + 1]? = some (.cells #[.int .i64 0, .int .i64 0, .string ⟨#[]⟩, .slice none 0 0] 27 (0, 0)) := by rw [hB]; exact zi _ _ 3 _ rfl
 have hcell : ∀ X, Below B.heap.size B X → (X.cell? ⟨w.heap.size, 0, none⟩ = some (.slice ga gn gc) ∧ X.cell? ⟨w.heap.size, 1, none⟩ = some (.int .i64 g.root)) ∧ (X.cell? ⟨w.heap.size + 1, 0, none⟩ = some (.int .i64 t.id) ∧ X.cell? ⟨w.heap.size + 1, 1, none⟩ = some (.int .i64 t.kind) ∧ X.cell? ⟨w.heap.size + 1, 2, none⟩ = some (.string t.text) ∧ X.cell? ⟨w.heap.size + 1, 3, none⟩ = some (.slice ka nk tc)) ∧ X.cell? ⟨w.heap.size + 1 + 1, 0, none⟩ = some (.int .i8 op) ∧ X.cell? ⟨w.heap.size + 1 + 1, 1, none⟩ = some (.int .i64 id) ∧ X.cell? ⟨w.heap.size + 1 + 1, 2, none⟩ = some (.int .i64 par) ∧ X.cell? ⟨w.heap.size + 1 + 1, 3, none⟩ = some (.int .i64 at_) ∧ X.cell? ⟨w.heap.size + 1 + 1, 4, none⟩ = some (.string tx) ∧ X.cell? ⟨w.heap.size + 1 + 1, 5, none⟩ = some (.int .i64 x.id) ∧ X.cell? ⟨w.heap.size + 1 + 1, 6, none⟩ = some (.int .i64 x.kind) ∧ X.cell? ⟨w.heap.size + 1 + 1, 7, none⟩ = some (.string x.text) ∧ X.cell? ⟨w.heap.size + 1 + 1, 8, none⟩ = some (.slice sa sn sc) := fun X hX => by
  have eg := (hX.block _ (lt_of_heap hgb0)).trans hgb0
  have e0 := (hX.block _ (lt_of_heap ht0)).trans ht0
  have e1 := (hX.block _ (lt_of_heap hs0)).trans hs0
  exact ⟨⟨by rw [cell_of_row _ _ 0 _ _ _ eg]; rfl, by rw [cell_of_row _ _ 1 _ _ _ eg]; rfl⟩, zF e0, by rw [cell_of_row _ _ 0 _ _ _ e1]; rfl, by rw [cell_of_row _ _ 1 _ _ _ e1]; rfl, by rw [cell_of_row _ _ 2 _ _ _ e1]; rfl, by rw [cell_of_row _ _ 3 _ _ _ e1]; rfl, by rw [cell_of_row _ _ 4 _ _ _ e1]; rfl, by rw [cell_of_row _ _ 5 _ _ _ e1]; rfl, by rw [cell_of_row _ _ 6 _ _ _ e1]; rfl, by rw [cell_of_row _ _ 7 _ _ _ e1]; rfl, by rw [cell_of_row _ _ 8 _ _ _ e1]; rfl⟩
 have hidk : ∀ {u : Tr}, okF (spF 1 (zl u)) → ∀ i ∈ idT u, (Lit.int .i64 i).wf = true := fun {u} hu i hi => by
  have hz : yA (zci i) u ≠ 0 := by
   rw [zfN]
   intro h0
   have h1 := (qR i (zl u)).1
   rw [ZV] at h1
   have h2 : i ∈ vQ (zl u) := by
    rw [zl, yC]
    rw [idT] at hi
    rcases List.mem_cons.1 hi with rfl | hi
    · exact List.mem_cons_self ..
    · have e : idF u.kids = vQ u.kids := J4 u.kids
      rw [e] at hi
      exact List.mem_cons_of_mem _ (List.mem_append_left _ hi)
   have := h1 h2
   omega
  obtain ⟨y, hy, hp⟩ := (zaJ (zci i) u).2 (by omega)
  have h3 := (hu y hy).2
  simp only [zci, decide_eq_true_eq] at hp
  rw [← hp]; exact h3
 have hap := zdj B S Sx (.agg #[.int .i64 t.id, .int .i64 t.kind, .string t.text, .slice ka nk tc]) t x op id par at_ tx sa sn sc (fun y hy => nL (hS y hy) hb.size) (fun y hy => nL (hSx y hy) hb.size) ⟨ka, tc, by rw [hnk], by rw [hnk] at *; exact hcap, hk.below hb hS⟩ (hx.kept fun y hy => ⟨hy, hb.block y (hSx y hy)⟩) hsz hxz hop (hidk hok) (hidk hxk)
 have hgr : ∀ X, Below w.heap.size w X → GrV X (.agg #[.slice ga gn gc, .int .i64 g.root]) g := fun X hX => ⟨ga, gc, by rw [hgn], hgk.below hX⟩
 obtain ⟨r, hr⟩ : ∃ r, r = vT op id par at_ tx x t := ⟨_, rfl⟩
 have hrs := zcB op id par at_ tx x t
 have hfx : r.2 = 0 → okF (spF 1 (zl r.1)) := fun h0 => (zbB (op := op) (id := id) (par := par) (at_ := at_) (tx := tx) (x := x) (t := t) (y := r.1) (by rw [← hr]; exact Prod.ext rfl h0)).1.ok hok hxk htx
 rw [← hr] at hap hrs ⊢
 obtain ⟨d, hd⟩ : ∃ d, d = doK g r := ⟨_, rfl⟩
 rw [← hd]
 obtain ⟨y, hy⟩ : ∃ y, y = yg r := ⟨_, rfl⟩
 obtain ⟨yn, hyn⟩ : ∃ yn, yn = foLen y.kids := ⟨_, rfl⟩
 obtain ⟨ye, hye⟩ : ∃ ye, ye = r.2 := ⟨_, rfl⟩
 have HAP := hH hap
 have HGR := hH (aN hgr hf)
 have HR := hH (aN hrs (aN hfx (aN hsz hxz)))
 have HY := hH (aN hy (aN hyn (aN hye hd)))
 have HCE := hH hcell
 have HB := hH (aN hb (aN hs hr0))
 have HBE := hH hB
 have HSS := hH (aN hS hSx)
 obtain ⟨⟨g0, g1⟩, ⟨n0, n1, n2, n3⟩, m0, m1, m2, m3, m4, m5, m6, m7, m8⟩ := hcell B (Below.refl _ _)
 rw [hB] at g0 g1 n0 n1 n2 n3 m0 m1 m2 m3 m4 m5 m6 m7 m8
 clear hap hgr hf hrs hfx hcell hb hs hgb0 ht0 hs0 hr0 hB hS hSx hk hcap hgk hgn hnk hsz hxz hop hok hxk htx hx hr hd hy hyn hye hidk
 go_enter Try.func32, Try.ntmps32
 go_wp2_with fail
 clear g0 g1 n0 n1 n2 n3 m0 m1 m2 m3 m4 m5 m6 m7 m8
 change Calls _ _ _ (zq w [.cells #[.slice ga gn gc, .int .i64 g.root] 24, .cells #[.int .i64 t.id, .int .i64 t.kind, .string t.text, .slice ka nk tc] 27, .cells #[.int .i8 op, .int .i64 id, .int .i64 par, .int .i64 at_, .string tx, .int .i64 x.id, .int .i64 x.kind, .string x.text, .slice sa sn sc] 49, .cells #[.int .i64 0, .int .i64 0, .string ⟨#[]⟩, .slice none 0 0] 27]) _
 rw [← HBE.out]
 refine HAP.out.mono ?_
 rintro e W5 ⟨_, rfl, ⟨yb, yc, rfl, hyc, hyk⟩, hb5⟩
 rw [← HY.out.1] at hyc hyk ⊢
 rw [← HY.out.2.1] at hyc ⊢
 rw [← HY.out.2.2.1]
 obtain ⟨W6, hW6⟩ : ∃ W6, W6 = W5.alloc (.cells #[.int .i64 y.id, .int .i64 y.kind, .string y.text, .slice yb yn yc] 27) := ⟨_, rfl⟩
 have hb56 : Below W5.heap.size W5 W6 := by rw [hW6]; exact zh _ _
 have hs6 : W6.heap.size = W5.heap.size + 1 := by rw [hW6]; simp
 have hy6 : W6.heap[W5.heap.size]? = some (.cells #[.int .i64 y.id, .int .i64 y.kind, .string y.text, .slice yb yn yc] 27 (0, 0)) := by rw [hW6]; exact heap_alloc_new _ _
 have HB6 := hH (hb5.trans (hb56.mono hb5.size))
 have HYA := hH (aN hyc (aN hyk (aN hb56 (aN hs6 hb5.size))))
 have HY6 := hH hy6
 have HW6 := hH hW6
 obtain ⟨xb, hxb⟩ : ∃ xb, xb = W5.heap.size := ⟨_, rfl⟩
 clear hyc hyk hb56 hy6 hW6 hb5 hs6
 go_upto_region 2 with fail
 change Code.wp _ _ _ _ (W5.alloc (.cells #[.int .i64 y.id, .int .i64 y.kind, .string y.text, .slice yb yn yc] 27))
 rw [← HW6.out, ← hxb]
 rw [← hxb] at HY6
 have HXBB := hH hxb
 clear HW6 hxb
 by_cases hz : ye = 0
 · have h0 : r.2 = 0 := by rw [← HY.out.2.2.1]; exact hz
   have hyr : y = r.1 := by rw [HY.out.1, yg, if_pos h0]
   have hyok := HR.out.2.1 h0
   have hysz := HR.out.1
   rw [← hyr] at hyok hysz
   have hbw6 : Below w.heap.size w W6 := HB.out.1.trans (HB6.out.mono HB.out.1.size)
   have htr := zfw W6 (fun z => z < W5.heap.size ∧ (zK W5 z ∧ ((S z ∨ Sx z) ∨ B.heap.size ≤ z))) (.agg #[.slice ga gn gc, .int .i64 g.root]) (.agg #[.int .i64 y.id, .int .i64 y.kind, .string y.text, .slice yb yn yc]) g y (HGR.out.1 W6 hbw6) HGR.out.2 (fun z hz => nL hz.1 HYA.out.2.2.1.size) ⟨yb, yc, by rw [HY.out.2.1], by rw [← HY.out.2.1]; exact HYA.out.1, HYA.out.2.1.kept fun z hz => ⟨⟨hz.1.lt, hz⟩, HYA.out.2.2.1.block z hz.1.lt⟩⟩ (by have := HR.out.2.2; omega) hyok
   obtain ⟨c, hc⟩ : ∃ c, c = ql g y := ⟨_, rfl⟩
   rw [← hc] at htr
   obtain ⟨c1, hc1⟩ : ∃ c1, c1 = c.1 := ⟨_, rfl⟩
   obtain ⟨c2, hc2⟩ : ∃ c2, c2 = c.2 := ⟨_, rfl⟩
   unfold ZL at htr; rw [← hc1, ← hc2] at htr
   have HTR := hH htr
   have HCC := hH (aN hc hc2)
   have HRY := hH (aN hyr h0)
   subst hz
   obtain ⟨⟨g0, g1⟩, ⟨n0, n1, n2, n3⟩, m0, m1, m2, m3, m4, m5, m6, m7, m8⟩ := HCE.out W6 HB6.out
   obtain ⟨y0, y1, y2, y3⟩ := zF HY6.out
   clear h0 hyr hyok hysz hbw6 htr hc hc1 hc2
   go_wp2_with fail
   refine HTR.out.mono ?_
   rintro e W7 ⟨rfl, hb7⟩
   have HB7 := hH (HB6.out.trans (hb7.mono HB6.out.size))
   have HL7 := hH hb7
   have hy7 := (hb7.block _ (lt_of_heap HY6.out)).trans HY6.out
   clear hb7 g0 g1 n0 n1 n2 n3 m0 m1 m2 m3 m4 m5 m6 m7 m8 y0 y1 y2 y3
   by_cases hcz : c2 = 0
   · have hd : d = (y, 0) := by rw [HY.out.2.2.2, doK, if_pos HRY.out.2, ← HRY.out.1, ← HCC.out.1, ← HCC.out.2, if_pos hcz]
     have HEQ := hH hd
     subst hcz
     obtain ⟨y0, y1, y2, y3⟩ := zF hy7
     have hr3 := (HB7.out.block _ (lt_of_heap HB.out.2.2)).trans HB.out.2.2
     have hbz : Below w.heap.size w W7 := HB.out.1.trans (HB7.out.mono HB.out.1.size)
     obtain ⟨z0, z1, z2, z3⟩ := zF hr3
     have zf : ∀ j, W7.frozen? ⟨w.heap.size + 1 + 1 + 1, j, none⟩ = false := fun j => frozen_of_row _ _ j _ _ hr3
     obtain ⟨V, hV, r1, r2, r3, r4, r5, r6⟩ := zt (u0 := .int .i64 y.id) (u1 := .int .i64 y.kind) (u2 := .string y.text) (u3 := .slice yb yn yc) hr3
     have hokV : zC V (fun z => zK V z ∧ ((S z ∨ Sx z) ∨ w.heap.size ≤ z)) y.kids yb := HYA.out.2.1.kept fun z hz => by
      obtain ⟨⟨cs, ty, fr, hcz⟩, hz2⟩ := hz
      have h1 := HB.out.2.1
      have h2 := HYA.out.2.2.2.2
      have hlt := lt_of_heap hcz
      have hne : z ≠ w.heap.size + 1 + 1 + 1 := fun e => by
       rcases hz2 with (h | h) | h
       · have := HSS.out.1 z h; omega
       · have := HSS.out.2 z h; omega
       · omega
      have e1 : V.heap[z]? = W5.heap[z]? := (r2 z hne).trans ((HL7.out.block z (by have := HYA.out.2.2.2.1; omega)).trans (HYA.out.2.2.1.block z hlt))
      exact ⟨⟨⟨cs, ty, fr, e1.trans hcz⟩, hz2.imp (fun h => h) (fun h => by omega)⟩, e1⟩
     have HE := hH (aN hbz (aN hV (aN r1 (aN r2 (aN r3 (aN r4 (aN r5 (aN r6 hokV))))))))
     clear hd hy7 hbz hr3 hV r1 r2 r3 r4 r5 r6 hokV
     go_wp2_with fail
     rw [← HE.out.2.1]
     obtain ⟨hbz, hV, r1, r2, r3, r4, r5, r6, hokV⟩ := HE.out
     exact zN (p := 6) (u := 7) rfl rfl (g := w.heap.size + 1 + 1 + 1) (y := y) ⟨r3.trans hbz.os, r4.trans hbz.tape, r5.trans hbz.output, by rw [r6]; exact hbz.size, fun k hk => (r2 k (by omega)).trans (hbz.block k hk)⟩ r1 HY.out.2.1 (by rw [← HY.out.2.1]; exact HYA.out.1) hokV (by rw [HEQ.out, yg, if_pos rfl]) rfl (by rw [HEQ.out]; rfl)
   · have hzb : (c2 != 0) = true := by simpa using hcz
     have hd : d = (zB, c2) := by rw [HY.out.2.2.2, doK, if_pos HRY.out.2, ← HRY.out.1, ← HCC.out.1, ← HCC.out.2, if_neg hcz]
     have HEQ := hH hd
     have HNE := hH hcz
     clear hd hcz hy7
     have hr3 := (HB7.out.block _ (lt_of_heap HB.out.2.2)).trans HB.out.2.2
     have hbz : Below w.heap.size w W7 := HB.out.1.trans (HB7.out.mono HB.out.1.size)
     obtain ⟨z0, z1, z2, z3⟩ := zF hr3
     have zf : ∀ j, W7.frozen? ⟨w.heap.size + 1 + 1 + 1, j, none⟩ = false := fun j => frozen_of_row _ _ j _ _ hr3
     obtain ⟨V, hV, r1, r2, r3, r4, r5, r6⟩ := zt (u0 := .int .i64 0) (u1 := .int .i64 0) (u2 := .string ⟨#[]⟩) (u3 := .slice none 0 0) hr3
     have HE := hH (aN hbz (aN hV (aN r1 (aN r2 (aN r3 (aN r4 (aN r5 r6)))))))
     clear hbz hr3 hV r1 r2 r3 r4 r5 r6
     go_wp2_with fail
     rw [← HE.out.2.1]
     obtain ⟨hbz, hV, r1, r2, r3, r4, r5, r6⟩ := HE.out
     exact zN (p := 6) (u := 7) rfl rfl (g := w.heap.size + 1 + 1 + 1) (y := zB) ⟨r3.trans hbz.os, r4.trans hbz.tape, r5.trans hbz.output, by rw [r6]; exact hbz.size, fun k hk => (r2 k (by omega)).trans (hbz.block k hk)⟩ r1 rfl (Nat.le_refl _) True.intro (by rw [HEQ.out, yg, if_neg HNE.out]) rfl (by rw [HEQ.out]; rfl)
 · have hzb : (ye != 0) = true := by simpa using hz
   have hd : d = (zB, ye) := by rw [HY.out.2.2.2, doK, if_neg (by rw [← HY.out.2.2.1]; exact hz), ← HY.out.2.2.1]
   have HEQ := hH hd
   have HNE := hH hz
   clear hd hz
   have hr3 := (HB6.out.block _ (lt_of_heap HB.out.2.2)).trans HB.out.2.2
   have hbz : Below w.heap.size w W6 := HB.out.1.trans (HB6.out.mono HB.out.1.size)
   obtain ⟨z0, z1, z2, z3⟩ := zF hr3
   have zf : ∀ j, W6.frozen? ⟨w.heap.size + 1 + 1 + 1, j, none⟩ = false := fun j => frozen_of_row _ _ j _ _ hr3
   obtain ⟨V, hV, r1, r2, r3, r4, r5, r6⟩ := zt (u0 := .int .i64 0) (u1 := .int .i64 0) (u2 := .string ⟨#[]⟩) (u3 := .slice none 0 0) hr3
   have HE := hH (aN hbz (aN hV (aN r1 (aN r2 (aN r3 (aN r4 (aN r5 r6)))))))
   clear hbz hr3 hV r1 r2 r3 r4 r5 r6
   go_wp2_with fail
   rw [← HE.out.2.1]
   obtain ⟨hbz, hV, r1, r2, r3, r4, r5, r6⟩ := HE.out
   exact zN (p := 6) (u := 7) rfl rfl (g := w.heap.size + 1 + 1 + 1) (y := zB) ⟨r3.trans hbz.os, r4.trans hbz.tape, r5.trans hbz.output, by rw [r6]; exact hbz.size, fun k hk => (r2 k (by omega)).trans (hbz.block k hk)⟩ r1 rfl (Nat.le_refl _) True.intro (by rw [HEQ.out, yg, if_neg HNE.out]) rfl (by rw [HEQ.out]; rfl)
end Go.Proofs.Ytgkmmnihaiopaaa
