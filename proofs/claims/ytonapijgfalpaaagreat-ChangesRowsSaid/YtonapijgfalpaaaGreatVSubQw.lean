/-
  .
-/
import Derived.Test.YtonapijgfalpaaaGreatVFaultQw
import Derived.Test.YtonapijgfalpaaaGreatGTellQw
import Derived.Test.YtonapijgfalpaaaGreatJPgQw
set_option maxRecDepth 100000
set_option maxHeartbeats 40000000
namespace Go.Proofs.YtonapijgfalpaaaGreat
open Go.RowKit Go.Shelf
attribute [local go_sem] Oper.semAt_some
set_option linter.unusedVariables false
set_option linter.unusedSimpArgs false
def QL (g : Gr) (t : Tr) : Int × Int := if je g = true then (if 200 < ze t.kids + 1 then (0, 70) else j4 g (spF 1 (zm t))) else (0, 50)
def jC (g : Gr) (t : Tr) : Int × Int := if je g = true ∧ ¬ t.kind = g.root then (0, 70) else QL g t
theorem zfe (w : World) (S : Nat → Prop) (gv nv : Value) (g : Gr) (t : Tr) (hg : GrV w gv g) (hf : g.few) (hS : ∀ x, S x → x < w.heap.size) (ht : zL w S nv t) (hsz : ze t.kids + 1 ≤ 500000) (hok : okF (spF 1 (zm t))) :
 Calls Tryz.prog 87 #[gv, nv] w (Jo (QL g t) w) := by
 obtain ⟨ga, gc, rfl, hgk⟩ := hg
 obtain ⟨ka, cap, rfl, hcap, hk⟩ := ht
 obtain ⟨n, hn⟩ : ∃ n, n = zb t.kids := ⟨_, rfl⟩
 obtain ⟨gn, hgn⟩ : ∃ gn, gn = g.kinds.length := ⟨_, rfl⟩
 rw [← hn, ← hgn]
 have kx : ((w.alloc (.cells #[.slice ga gn gc, .int .i64 g.root] 34)).alloc (.cells #[.int .i64 t.id, .int .i64 t.kind, .string t.text, .slice ka n cap] 37)).heap[w.heap.size]? = _ := zg [.cells #[.slice ga gn gc, .int .i64 g.root] 34, .cells #[.int .i64 t.id, .int .i64 t.kind, .string t.text, .slice ka n cap] 37] w 0 _ rfl
 have ky : ((w.alloc (.cells #[.slice ga gn gc, .int .i64 g.root] 34)).alloc (.cells #[.int .i64 t.id, .int .i64 t.kind, .string t.text, .slice ka n cap] 37)).heap[w.heap.size + 1]? = _ := zg [.cells #[.slice ga gn gc, .int .i64 g.root] 34, .cells #[.int .i64 t.id, .int .i64 t.kind, .string t.text, .slice ka n cap] 37] w 1 _ rfl
 have hab : Below w.heap.size w ((w.alloc (.cells #[.slice ga gn gc, .int .i64 g.root] 34)).alloc (.cells #[.int .i64 t.id, .int .i64 t.kind, .string t.text, .slice ka n cap] 37)) := zk [.cells #[.slice ga gn gc, .int .i64 g.root] 34, .cells #[.int .i64 t.id, .int .i64 t.kind, .string t.text, .slice ka n cap] 37] w
 obtain ⟨SX, hSX⟩ : ∃ SX : World → Prop, SX = fun X => Below (w.heap.size + 2) ((w.alloc (.cells #[.slice ga gn gc, .int .i64 g.root] 34)).alloc (.cells #[.int .i64 t.id, .int .i64 t.kind, .string t.text, .slice ka n cap] 37)) X := ⟨_, rfl⟩
 have HSx : ∀ X, SX X → X.cell? ⟨w.heap.size, 0, none⟩ = some (.slice ga gn gc) ∧ X.cell? ⟨w.heap.size, 1, none⟩ = some (.int .i64 g.root) ∧ X.cell? ⟨w.heap.size + 1, 0, none⟩ = some (.int .i64 t.id) ∧ X.cell? ⟨w.heap.size + 1, 1, none⟩ = some (.int .i64 t.kind) ∧ X.cell? ⟨w.heap.size + 1, 2, none⟩ = some (.string t.text) ∧ X.cell? ⟨w.heap.size + 1, 3, none⟩ = some (.slice ka n cap) := fun X h => by
  rw [hSX] at h
  obtain ⟨a0, a1⟩ := zeV ((h.block _ (by omega)).trans kx)
  obtain ⟨b0, b1, b2, b3⟩ := zgr ((h.block _ (by omega)).trans ky)
  exact ⟨a0, a1, b0, b1, b2, b3⟩
 have HS := hH (show SX ((w.alloc (.cells #[.slice ga gn gc, .int .i64 g.root] 34)).alloc (.cells #[.int .i64 t.id, .int .i64 t.kind, .string t.text, .slice ka n cap] 37)) by rw [hSX]; exact Below.refl _ _)
 have HSB := hH (fun (X Y : World) (h : SX X) (hb : Below X.heap.size X Y) => (show SX Y by rw [hSX] at h ⊢; exact h.trans (hb.mono (by have := h.size; simp at this; omega))))
 have hwX : ∀ X, SX X → Below w.heap.size w X := fun X h => by rw [hSX] at h; exact hab.trans (h.mono (by omega))
 have hgX : ∀ X, SX X → GrV X (.agg #[.slice ga gn gc, .int .i64 g.root]) g := fun X h => ⟨ga, gc, by rw [hgn], hgk.below (hwX X h)⟩
 have htX : ∀ X, SX X → zL X S (.agg #[.int .i64 t.id, .int .i64 t.kind, .string t.text, .slice ka n cap]) t := fun X h => ⟨ka, cap, by rw [hn], hcap, hk.below (hwX X h) hS⟩
 have hSXl : ∀ X, SX X → ∀ y, S y → y < X.heap.size := fun X h y hy => nL (hS y hy) (hwX X h).size
 have HCK : Hid (∀ X, SX X → Calls Tryz.prog 86 #[.agg #[.slice ga gn gc, .int .i64 g.root]] X (zbk (zbU (je g)) X)) := hH fun X h => Jg X _ g (hgX X h) hf
 obtain ⟨b1, hb1⟩ : ∃ b, b = decide (200 < ze t.kids + 1) := ⟨_, rfl⟩
 obtain ⟨⟨f1, f2⟩, hfr⟩ : ∃ p : Int × Int, p = j4 g (spF 1 (zm t)) := ⟨_, rfl⟩
 have HTM : Hid (∀ X, SX X → Calls Tryz.prog 109 #[.agg #[.int .i64 t.id, .int .i64 t.kind, .string t.text, .slice ka n cap]] X (Says b1 X)) := hH fun X h => by
  have := zal X S _ t (hSXl X h) (htX X h) hsz
  rw [← hb1] at this; exact this
 have HFA : Hid (∀ X, SX X → Calls Tryz.prog 110 #[.agg #[.slice ga gn gc, .int .i64 g.root], .agg #[.int .i64 t.id, .int .i64 t.kind, .string t.text, .slice ka n cap]] X (Jo (f1, f2) X)) := hH fun X h => by
  have := zc8 X S _ _ g t (hgX X h) hf (hSXl X h) (htX X h) hsz hok
  rw [← hfr] at this; exact this
 have HB1 := hH hb1
 have HFR := hH hfr
 have HFIN := hH hwX
 obtain ⟨ck, hck⟩ : ∃ ck, ck = je g := ⟨_, rfl⟩
 have HK := hH hck
 rw [← hck] at HCK
 clear hS hcap hk hn hgn hf hgk hsz hok kx ky hab hSX hwX hgX htX hSXl hb1 hfr hck
 cases ck
 · have HB := hH (show QL g t = (0, 50) by rw [QL, ← HK.out]; rfl)
   rw [show zbU false = 50 from rfl] at HCK
   go_enter Tryz.func87, Tryz.ntmps87
   go_wp2_with (go_at_call 86; refine (HCK.out _ HS.out).mono ?_; rintro e w2 ⟨rfl, hb⟩; have HS2 := hH (HSB.out _ w2 HS.out hb); obtain ⟨p0, p1, p2, p3, p4, p5⟩ := HSx w2 HS2.out; clear hb)
   go_ret2
   exact ⟨by rw [HB.out]; rfl, HFIN.out _ HS2.out⟩
 · rw [show zbU true = 0 from rfl] at HCK
   cases b1
   · have HB := hH (show QL g t = (f1, f2) by rw [QL, ← HK.out, if_pos rfl, if_neg (of_decide_eq_false HB1.out.symm), HFR.out])
     go_enter Tryz.func87, Tryz.ntmps87
     go_wp2_with (first
      | (go_at_call 86; refine (HCK.out _ HS.out).mono ?_; rintro e w2 ⟨rfl, hb⟩; have HS2 := hH (HSB.out _ w2 HS.out hb); obtain ⟨p0, p1, p2, p3, p4, p5⟩ := HSx w2 HS2.out; clear hb)
      | (go_at_call 109; refine (HTM.out _ HS2.out).mono ?_; rintro e w3 ⟨rfl, hb⟩; have HS3 := hH (HSB.out _ w3 HS2.out hb); obtain ⟨q0, q1, q2, q3, q4, q5⟩ := HSx w3 HS3.out; clear hb)
      | (go_at_call 110; refine (HFA.out _ HS3.out).mono ?_; rintro e w4 ⟨rfl, hb⟩; have HS4 := hH (HSB.out _ w4 HS3.out hb); obtain ⟨r0, r1, r2, r3, r4, r5⟩ := HSx w4 HS4.out; clear hb))
     go_ret2
     exact ⟨by rw [HB.out]; rfl, HFIN.out _ HS4.out⟩
   · have HB := hH (show QL g t = (0, 70) by rw [QL, ← HK.out, if_pos rfl, if_pos (of_decide_eq_true HB1.out.symm)])
     go_enter Tryz.func87, Tryz.ntmps87
     go_wp2_with (first
      | (go_at_call 86; refine (HCK.out _ HS.out).mono ?_; rintro e w2 ⟨rfl, hb⟩; have HS2 := hH (HSB.out _ w2 HS.out hb); obtain ⟨p0, p1, p2, p3, p4, p5⟩ := HSx w2 HS2.out; clear hb)
      | (go_at_call 109; refine (HTM.out _ HS2.out).mono ?_; rintro e w3 ⟨rfl, hb⟩; have HS3 := hH (HSB.out _ w3 HS2.out hb); obtain ⟨q0, q1, q2, q3, q4, q5⟩ := HSx w3 HS3.out; clear hb))
     go_ret2
     exact ⟨by rw [HB.out]; rfl, HFIN.out _ HS3.out⟩
theorem zdS (w : World) (S : Nat → Prop) (gv nv : Value) (g : Gr) (t : Tr) (hg : GrV w gv g) (hf : g.few) (hS : ∀ x, S x → x < w.heap.size) (ht : zL w S nv t) (hsz : ze t.kids + 1 ≤ 500000) (hok : okF (spF 1 (zm t))) :
 Calls Tryz.prog 64 #[gv, nv] w (Jo (jC g t) w) := by
 obtain ⟨ga, gc, rfl, hgk⟩ := hg
 obtain ⟨ka, cap, rfl, hcap, hk⟩ := ht
 obtain ⟨n, hn⟩ : ∃ n, n = zb t.kids := ⟨_, rfl⟩
 obtain ⟨gn, hgn⟩ : ∃ gn, gn = g.kinds.length := ⟨_, rfl⟩
 rw [← hn, ← hgn]
 have kx : ((w.alloc (.cells #[.slice ga gn gc, .int .i64 g.root] 34)).alloc (.cells #[.int .i64 t.id, .int .i64 t.kind, .string t.text, .slice ka n cap] 37)).heap[w.heap.size]? = _ := zg [.cells #[.slice ga gn gc, .int .i64 g.root] 34, .cells #[.int .i64 t.id, .int .i64 t.kind, .string t.text, .slice ka n cap] 37] w 0 _ rfl
 have ky : ((w.alloc (.cells #[.slice ga gn gc, .int .i64 g.root] 34)).alloc (.cells #[.int .i64 t.id, .int .i64 t.kind, .string t.text, .slice ka n cap] 37)).heap[w.heap.size + 1]? = _ := zg [.cells #[.slice ga gn gc, .int .i64 g.root] 34, .cells #[.int .i64 t.id, .int .i64 t.kind, .string t.text, .slice ka n cap] 37] w 1 _ rfl
 have hab : Below w.heap.size w ((w.alloc (.cells #[.slice ga gn gc, .int .i64 g.root] 34)).alloc (.cells #[.int .i64 t.id, .int .i64 t.kind, .string t.text, .slice ka n cap] 37)) := zk [.cells #[.slice ga gn gc, .int .i64 g.root] 34, .cells #[.int .i64 t.id, .int .i64 t.kind, .string t.text, .slice ka n cap] 37] w
 obtain ⟨SX, hSX⟩ : ∃ SX : World → Prop, SX = fun X => Below (w.heap.size + 2) ((w.alloc (.cells #[.slice ga gn gc, .int .i64 g.root] 34)).alloc (.cells #[.int .i64 t.id, .int .i64 t.kind, .string t.text, .slice ka n cap] 37)) X := ⟨_, rfl⟩
 have HSx : ∀ X, SX X → X.cell? ⟨w.heap.size, 0, none⟩ = some (.slice ga gn gc) ∧ X.cell? ⟨w.heap.size, 1, none⟩ = some (.int .i64 g.root) ∧ X.cell? ⟨w.heap.size + 1, 0, none⟩ = some (.int .i64 t.id) ∧ X.cell? ⟨w.heap.size + 1, 1, none⟩ = some (.int .i64 t.kind) ∧ X.cell? ⟨w.heap.size + 1, 2, none⟩ = some (.string t.text) ∧ X.cell? ⟨w.heap.size + 1, 3, none⟩ = some (.slice ka n cap) := fun X h => by
  rw [hSX] at h
  obtain ⟨a0, a1⟩ := zeV ((h.block _ (by omega)).trans kx)
  obtain ⟨b0, b1, b2, b3⟩ := zgr ((h.block _ (by omega)).trans ky)
  exact ⟨a0, a1, b0, b1, b2, b3⟩
 have HS := hH (show SX ((w.alloc (.cells #[.slice ga gn gc, .int .i64 g.root] 34)).alloc (.cells #[.int .i64 t.id, .int .i64 t.kind, .string t.text, .slice ka n cap] 37)) by rw [hSX]; exact Below.refl _ _)
 have HSB := hH (fun (X Y : World) (h : SX X) (hb : Below X.heap.size X Y) => (show SX Y by rw [hSX] at h ⊢; exact h.trans (hb.mono (by have := h.size; simp at this; omega))))
 have hwX : ∀ X, SX X → Below w.heap.size w X := fun X h => by rw [hSX] at h; exact hab.trans (h.mono (by omega))
 have hgX : ∀ X, SX X → GrV X (.agg #[.slice ga gn gc, .int .i64 g.root]) g := fun X h => ⟨ga, gc, by rw [hgn], hgk.below (hwX X h)⟩
 have htX : ∀ X, SX X → zL X S (.agg #[.int .i64 t.id, .int .i64 t.kind, .string t.text, .slice ka n cap]) t := fun X h => ⟨ka, cap, by rw [hn], hcap, hk.below (hwX X h) hS⟩
 have hSXl : ∀ X, SX X → ∀ y, S y → y < X.heap.size := fun X h y hy => nL (hS y hy) (hwX X h).size
 have HCK : Hid (∀ X, SX X → Calls Tryz.prog 86 #[.agg #[.slice ga gn gc, .int .i64 g.root]] X (zbk (zbU (je g)) X)) := hH fun X h => Jg X _ g (hgX X h) hf
 obtain ⟨⟨f1, f2⟩, hfr⟩ : ∃ p : Int × Int, p = QL g t := ⟨_, rfl⟩
 have HFA : Hid (∀ X, SX X → Calls Tryz.prog 87 #[.agg #[.slice ga gn gc, .int .i64 g.root], .agg #[.int .i64 t.id, .int .i64 t.kind, .string t.text, .slice ka n cap]] X (Jo (f1, f2) X)) := hH fun X h => by
  have := zfe X S _ _ g t (hgX X h) hf (hSXl X h) (htX X h) hsz hok
  rw [← hfr] at this; exact this
 have HFR := hH hfr
 have HFIN := hH hwX
 obtain ⟨ck, hck⟩ : ∃ ck, ck = je g := ⟨_, rfl⟩
 have HK := hH hck
 rw [← hck] at HCK
 clear hS hcap hk hn hgn hf hgk hsz hok kx ky hab hSX hwX hgX htX hSXl hfr hck
 cases ck
 · have HB := hH (show jC g t = (f1, f2) by rw [jC, ← HK.out, if_neg (by simp), HFR.out])
   rw [show zbU false = 50 from rfl] at HCK
   go_enter Tryz.func64, Tryz.ntmps64
   go_wp2_with (first
    | (go_at_call 86; refine (HCK.out _ HS.out).mono ?_; rintro e w2 ⟨rfl, hb⟩; have HS2 := hH (HSB.out _ w2 HS.out hb); obtain ⟨p0, p1, p2, p3, p4, p5⟩ := HSx w2 HS2.out; clear hb)
    | (go_at_call 87; refine (HFA.out _ HS2.out).mono ?_; rintro e w3 ⟨rfl, hb⟩; have HS3 := hH (HSB.out _ w3 HS2.out hb); obtain ⟨q0, q1, q2, q3, q4, q5⟩ := HSx w3 HS3.out; clear hb))
   go_ret2
   exact ⟨by rw [HB.out]; rfl, HFIN.out _ HS3.out⟩
 · rw [show zbU true = 0 from rfl] at HCK
   by_cases hr : t.kind = g.root
   · have HB := hH (show jC g t = (f1, f2) by rw [jC, ← HK.out, if_neg (by simp [hr]), HFR.out])
     have hne : (t.kind != g.root) = false := by simp [hr]
     clear hr
     go_enter Tryz.func64, Tryz.ntmps64
     go_wp2_with (first
      | (go_at_call 86; refine (HCK.out _ HS.out).mono ?_; rintro e w2 ⟨rfl, hb⟩; have HS2 := hH (HSB.out _ w2 HS.out hb); obtain ⟨p0, p1, p2, p3, p4, p5⟩ := HSx w2 HS2.out; clear hb)
      | (go_at_call 87; refine (HFA.out _ HS2.out).mono ?_; rintro e w3 ⟨rfl, hb⟩; have HS3 := hH (HSB.out _ w3 HS2.out hb); obtain ⟨q0, q1, q2, q3, q4, q5⟩ := HSx w3 HS3.out; clear hb))
     go_ret2
     exact ⟨by rw [HB.out]; rfl, HFIN.out _ HS3.out⟩
   · have HB := hH (show jC g t = (0, 70) by rw [jC, ← HK.out, if_pos ⟨rfl, hr⟩])
     go_enter Tryz.func64, Tryz.ntmps64
     go_wp2_with (go_at_call 86; refine (HCK.out _ HS.out).mono ?_; rintro e w2 ⟨rfl, hb⟩; have HS2 := hH (HSB.out _ w2 HS.out hb); obtain ⟨p0, p1, p2, p3, p4, p5⟩ := HSx w2 HS2.out; clear hb)
     go_ret2
     exact ⟨by rw [HB.out]; rfl, HFIN.out _ HS2.out⟩
end Go.Proofs.YtonapijgfalpaaaGreat
