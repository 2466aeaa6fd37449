/-
  .
-/
import Derived.Test.YtgkmmnihaiopaaaVRKindsQa
import Derived.Test.YtgkmmnihaiopaaaGRCheckQa
import Derived.Test.YtgkmmnihaiopaaaGRTellQa
import Derived.Test.YtgkmmnihaiopaaaGRFitsQa
import Derived.Test.YtgkmmnihaiopaaaJPgQa
set_option maxRecDepth 100000
set_option maxHeartbeats 40000000
namespace Go.Proofs.Ytgkmmnihaiopaaa
open Go.RowKit Go.Shelf
attribute [local go_sem] Oper.semAt_some
set_option linter.unusedVariables false
set_option linter.unusedSimpArgs false
theorem Zw {g : Gr} {x : Tr} (h : kindOf g x.kind = none) : vk g x = false := by
 unfold vk; rw [h]; simp [jg]
theorem zd0 (w : World) (S : Nat → Prop) (gv : Value) (g : Gr) (nv : Value) (x : Tr) (hg : GrV w gv g) (hf : g.few) (hS : ∀ y, S y → y < w.heap.size) (hx : zH w S nv x) (hn : foLen x.kids ≤ 1000000) (hts : (x.text.size : Int) ≤ 9223372036854775807) :
 Calls Try.prog 45 #[gv, nv] w (Says (vk g x) w) := by
 obtain ⟨ga, gc, rfl, hgk⟩ := hg
 obtain ⟨ka, cap, rfl, hcap, hk⟩ := hx
 obtain ⟨n, hn0⟩ : ∃ n, n = foLen x.kids := ⟨_, rfl⟩
 obtain ⟨gn, hgn⟩ : ∃ gn, gn = g.kinds.length := ⟨_, rfl⟩
 rw [← hn0, ← hgn]
 have hal := zi [.cells #[.slice ga gn gc, .int .i64 g.root] 24, .cells #[.int .i64 x.id, .int .i64 x.kind, .string x.text, .slice ka n cap] 27] w
 have hab := zm [.cells #[.slice ga gn gc, .int .i64 g.root] 24, .cells #[.int .i64 x.id, .int .i64 x.kind, .string x.text, .slice ka n cap] 27] w
 have kx := hal 0 _ rfl
 rw [Nat.add_zero] at kx
 have ky := hal 1 _ rfl
 obtain ⟨V, hV⟩ : ∃ V, V = zq w [.cells #[.slice ga gn gc, .int .i64 g.root] 24, .cells #[.int .i64 x.id, .int .i64 x.kind, .string x.text, .slice ka n cap] 27] := ⟨_, rfl⟩
 rw [← hV] at kx ky hab
 obtain ⟨SX, hSX⟩ : ∃ SX : World → Prop, SX = fun X => Below V.heap.size V X := ⟨_, rfl⟩
 have HSx : ∀ X, SX X → X.cell? ⟨w.heap.size, 0, none⟩ = some (.slice ga gn gc) ∧ X.cell? ⟨w.heap.size, 1, none⟩ = some (.int .i64 g.root) ∧ X.cell? ⟨w.heap.size + 1, 0, none⟩ = some (.int .i64 x.id) ∧ X.cell? ⟨w.heap.size + 1, 1, none⟩ = some (.int .i64 x.kind) ∧ X.cell? ⟨w.heap.size + 1, 2, none⟩ = some (.string x.text) ∧ X.cell? ⟨w.heap.size + 1, 3, none⟩ = some (.slice ka n cap) := fun X h => by
  rw [hSX] at h
  obtain ⟨a0, a1⟩ := zaD ((h.block _ (lt_of_heap kx)).trans kx)
  obtain ⟨b0, b1, b2, b3⟩ := zb3 ((h.block _ (lt_of_heap ky)).trans ky)
  exact ⟨a0, a1, b0, b1, b2, b3⟩
 have hS0 : SX V.drew := by rw [hSX]; exact ⟨rfl, rfl, rfl, Nat.le_refl _, fun _ _ => rfl⟩
 have HSB := hH (fun (X Y : World) (h : SX X) (hb : Below X.heap.size X Y) => (show SX Y by rw [hSX] at h ⊢; exact h.trans (hb.mono h.size)))
 have hwX : ∀ X, SX X → Below w.heap.size w X := fun X h => by rw [hSX] at h; exact hab.trans (h.mono hab.size)
 have hgX : ∀ X, SX X → GrV X (.agg #[.slice ga gn gc, .int .i64 g.root]) g := fun X h => ⟨ga, gc, by rw [hgn], hgk.below (hwX X h)⟩
 obtain ⟨b1, hb1⟩ : ∃ b, b = jI (kindOf g x.kind) x.text := ⟨_, rfl⟩
 obtain ⟨b2, hb2⟩ : ∃ b, b = jg (kindOf g x.kind) (yx x.kids) := ⟨_, rfl⟩
 obtain ⟨kn, hkn⟩ : ∃ kn, kn = (yx x.kids).length := ⟨_, rfl⟩
 have HTX : Hid (∀ X, SX X → Calls Try.prog 66 #[.agg #[.slice ga gn gc, .int .i64 g.root], .int .i64 x.kind, .string x.text] X (Says b1 X)) := hH fun X h => by
  have := zd2 X _ g x.kind x.text (hgX X h) hf hts
  rw [← hb1] at this; exact this
 have HKI : Hid (∀ X, SX X → Calls Try.prog 68 #[.agg #[.int .i64 x.id, .int .i64 x.kind, .string x.text, .slice ka n cap]] X (JL X x.kids)) := hH fun X h => zcv X S _ x (fun y hy => nL (hS y hy) (hwX X h).size) ⟨ka, cap, by rw [hn0], hcap, hk.below (hwX X h) hS⟩ hn
 have HFI : Hid (∀ X, SX X → ∀ xa xc, yK X xa (yx x.kids) → Calls Try.prog 67 #[.agg #[.slice ga gn gc, .int .i64 g.root], .int .i64 x.kind, .slice xa kn xc] X (Says b2 X)) := hH fun X h xa xc hi => by
  have := zdZ X _ g x.kind xa xc (yx x.kids) (hgX X h) hf hi (by rw [qo]; exact hn)
  rw [← hb2, ← hkn] at this; exact this
 have HKL := hH hkn
 obtain ⟨ck, hck⟩ : ∃ ck, ck = yL g := ⟨_, rfl⟩
 have HCK : Hid (∀ X, SX X → Calls Try.prog 28 #[.agg #[.slice ga gn gc, .int .i64 g.root]] X (yB (jM ck) X)) := hH fun X h => by
  have := zV X _ g (hgX X h) hf
  rw [← hck] at this; exact this
 have HC := hH hck
 have HGN := hH hgn
 have HBB := hH (aN hb1 hb2)
 have HB := hH (show vk g x = (b1 && b2) by rw [hb1, hb2]; rfl)
 have HFIN := hH hwX
 have HV := hH hV
 clear hS hcap hk hn hts hf hgk hn0 hgn hal hab kx ky hwX hgX hSX hV hb1 hb2 hkn hck
 cases ck
 · rw [show jM false = 50 from rfl] at HCK
   have HB := hH (show vk g x = false by rw [Zw]; unfold kindOf; rw [if_neg (by rw [← HC.out]; simp)])
   refine (callsIn_wide (n := 8)).1 ?_
   refine callsIn_of_wp_marks Try.func45 rfl trivial ?_ rfl
   simp only [Try.ntmps45, List.size_toArray, List.length_cons, List.length_nil, Nat.reduceAdd, Nat.reduceSub, Array.replicate_succ, Array.replicate_zero, List.push_toArray, List.append_toArray, List.nil_append, List.cons_append]
   gi_wp2_with fail
   change Code.wpIn _ _ _ _ _ _ (zq w [.cells #[.slice ga gn gc, .int .i64 g.root] 24, .cells #[.int .i64 x.id, .int .i64 x.kind, .string x.text, .slice ka n cap] 27])
   rw [← HV.out]
   refine qf (S := SX) (by kernel_rfl) ?_
   have hHeld := hS0
   clear hS0
   refine ze (i := 0) (oi := _) (v := (.agg #[.slice ga gn gc, .int .i64 g.root])) rfl (by kernel_rfl) (by kernel_rfl) (by kernel_rfl) (fun _ _ _ h => by cases h.1) (Or.inl ⟨by rfl, ?_⟩) hHeld ?_
   · clear hHeld; intro X hSw; obtain ⟨s0, s1, s2, s3, s4, s5⟩ := HSx X hSw; clear hSw; go_simp
   simp only [Act.put, pg]
   refine zJ (i := 1) (o := _) (by kernel_rfl) rfl fun K1 hK1 => ?_
   rw [if_pos (by rfl)]
   simp only [pg3]
   have HK1 := hH hK1
   have HH1 := hH hHeld
   clear hK1 hHeld
   gi_wp2_with (refine ⟨trivial, ?_⟩; gi_at_call 28; refine (callsIn_wide.2 (HCK.out _ HH1.out)).mono ?_; rintro e X1 ⟨rfl, hb⟩; have HX1 := hH hb; clear hb)
   have hHeld := HSB.out _ X1 HH1.out HX1.out
   refine HK1.out _ _ hHeld ?_
   clear HK1
   refine ze (i := 2) (oi := _) (v := (.bool false)) rfl (by kernel_rfl) (by kernel_rfl) (by kernel_rfl) (fun _ _ _ h => by cases h.1) (Or.inl ⟨by rfl, ?_⟩) hHeld ?_
   · clear hHeld; intro X hSw; clear hSw; go_simp
   simp only [Act.put, pg]
   refine ze (i := 3) (oi := _) (v := (.bool false)) rfl (by kernel_rfl) (by kernel_rfl) (by kernel_rfl) (fun _ _ _ h => by cases h.1) (Or.inl ⟨by rfl, ?_⟩) hHeld ?_
   · clear hHeld; intro X hSw; clear hSw; go_simp
   simp only [Act.put, pg]
   refine ze (i := 4) (oi := _) (v := undef) rfl (by kernel_rfl) (by kernel_rfl) (by kernel_rfl) (fun _ _ _ h => by cases h.1) (Or.inr ⟨by rfl, rfl⟩) hHeld ?_
   simp only [Act.put, pg]
   refine ze (i := 5) (oi := _) (v := undef) rfl (by kernel_rfl) (by kernel_rfl) (by kernel_rfl) (fun _ _ _ h => by cases h.1) (Or.inr ⟨by rfl, rfl⟩) hHeld ?_
   simp only [Act.put, pg]
   refine ze (i := 6) (oi := _) (v := undef) rfl (by kernel_rfl) (by kernel_rfl) (by kernel_rfl) (fun _ _ _ h => by cases h.1) (Or.inr ⟨by rfl, rfl⟩) hHeld ?_
   simp only [Act.put, pg]
   refine ze (i := 7) (oi := _) (v := (.bool false)) rfl (by kernel_rfl) (by kernel_rfl) (by kernel_rfl) (fun _ _ _ h => by cases h.1) (Or.inl ⟨by rfl, ?_⟩) hHeld ?_
   · clear hHeld; intro X hSw; clear hSw; go_simp
   simp only [Act.put, pg]
   refine ze (i := 8) (oi := _) (v := (.bool false)) rfl (by kernel_rfl) (by kernel_rfl) (by kernel_rfl) (fun _ _ _ h => by cases h.1) (Or.inl ⟨by rfl, ?_⟩) hHeld ?_
   · clear hHeld; intro X hSw; clear hSw; go_simp
   simp only [Act.put, pg]
   refine ze (i := 9) (oi := _) (v := undef) rfl (by kernel_rfl) (by kernel_rfl) (by kernel_rfl) (fun _ _ _ h => by cases h.1) (Or.inr ⟨by rfl, rfl⟩) hHeld ?_
   simp only [Act.put, pg]
   refine ze (i := 10) (oi := _) (v := undef) rfl (by kernel_rfl) (by kernel_rfl) (by kernel_rfl) (fun _ _ _ h => by cases h.1) (Or.inr ⟨by rfl, rfl⟩) hHeld ?_
   simp only [Act.put, pg]
   refine ze (i := 11) (oi := _) (v := undef) rfl (by kernel_rfl) (by kernel_rfl) (by kernel_rfl) (fun _ _ _ h => by cases h.1) (Or.inr ⟨by rfl, rfl⟩) hHeld ?_
   simp only [Act.put, pg]
   refine ze (i := 12) (oi := _) (v := undef) rfl (by kernel_rfl) (by kernel_rfl) (by kernel_rfl) (fun _ _ _ h => by cases h.1) (Or.inr ⟨by rfl, rfl⟩) hHeld ?_
   simp only [Act.put, pg]
   refine ze (i := 13) (oi := _) (v := undef) rfl (by kernel_rfl) (by kernel_rfl) (by kernel_rfl) (fun _ _ _ h => by cases h.1) (Or.inr ⟨by rfl, rfl⟩) hHeld ?_
   simp only [Act.put, pg]
   refine ze (i := 14) (oi := _) (v := undef) rfl (by kernel_rfl) (by kernel_rfl) (by kernel_rfl) (fun _ _ _ h => by cases h.1) (Or.inr ⟨by rfl, rfl⟩) hHeld ?_
   simp only [Act.put, pg]
   refine ze (i := 15) (oi := _) (v := (.bool false)) rfl (by kernel_rfl) (by kernel_rfl) (by kernel_rfl) (fun _ _ _ h => by cases h.1) (Or.inl ⟨by rfl, ?_⟩) hHeld ?_
   · clear hHeld; intro X hSw; clear hSw; go_simp
   simp only [Act.put, pg]
   refine ze (i := 16) (oi := _) (v := (.bool false)) rfl (by kernel_rfl) (by kernel_rfl) (by kernel_rfl) (fun _ _ _ h => by cases h.1) (Or.inl ⟨by rfl, ?_⟩) hHeld ?_
   · clear hHeld; intro X hSw; clear hSw; go_simp
   simp only [Act.put, pg]
   refine ze (i := 17) (oi := _) (v := undef) rfl (by kernel_rfl) (by kernel_rfl) (by kernel_rfl) (fun _ _ _ h => by cases h.1) (Or.inr ⟨by rfl, rfl⟩) hHeld ?_
   simp only [Act.put, pg]
   refine ze (i := 18) (oi := _) (v := undef) rfl (by kernel_rfl) (by kernel_rfl) (by kernel_rfl) (fun _ _ _ h => by cases h.1) (Or.inr ⟨by rfl, rfl⟩) hHeld ?_
   simp only [Act.put, pg]
   refine ze (i := 19) (oi := _) (v := undef) rfl (by kernel_rfl) (by kernel_rfl) (by kernel_rfl) (fun _ _ _ h => by cases h.1) (Or.inr ⟨by rfl, rfl⟩) hHeld ?_
   simp only [Act.put, pg]
   refine ze (i := 20) (oi := _) (v := undef) rfl (by kernel_rfl) (by kernel_rfl) (by kernel_rfl) (fun _ _ _ h => by cases h.1) (Or.inr ⟨by rfl, rfl⟩) hHeld ?_
   simp only [Act.put, pg]
   refine ze (i := 21) (oi := _) (v := undef) rfl (by kernel_rfl) (by kernel_rfl) (by kernel_rfl) (fun _ _ _ h => by cases h.1) (Or.inr ⟨by rfl, rfl⟩) hHeld ?_
   simp only [Act.put, pg]
   refine ze (i := 22) (oi := _) (v := undef) rfl (by kernel_rfl) (by kernel_rfl) (by kernel_rfl) (fun _ _ _ h => by cases h.1) (Or.inr ⟨by rfl, rfl⟩) hHeld ?_
   simp only [Act.put, pg]
   refine ze (i := 23) (oi := _) (v := (.bool false)) rfl (by kernel_rfl) (by kernel_rfl) (by kernel_rfl) (fun _ _ _ h => by cases h.1) (Or.inl ⟨by rfl, ?_⟩) hHeld ?_
   · clear hHeld; intro X hSw; clear hSw; go_simp
   simp only [Act.put, pg]
   refine ze (i := 24) (oi := _) (v := (.bool false)) rfl (by kernel_rfl) (by kernel_rfl) (by kernel_rfl) (fun _ _ _ h => by cases h.1) (Or.inl ⟨by rfl, ?_⟩) hHeld ?_
   · clear hHeld; intro X hSw; clear hSw; go_simp
   simp only [Act.put, pg]
   refine ze (i := 25) (oi := _) (v := undef) rfl (by kernel_rfl) (by kernel_rfl) (by kernel_rfl) (fun _ _ _ h => by cases h.1) (Or.inr ⟨by rfl, rfl⟩) hHeld ?_
   simp only [Act.put, pg]
   refine ze (i := 26) (oi := _) (v := undef) rfl (by kernel_rfl) (by kernel_rfl) (by kernel_rfl) (fun _ _ _ h => by cases h.1) (Or.inr ⟨by rfl, rfl⟩) hHeld ?_
   simp only [Act.put, pg]
   refine ze (i := 27) (oi := _) (v := undef) rfl (by kernel_rfl) (by kernel_rfl) (by kernel_rfl) (fun _ _ _ h => by cases h.1) (Or.inr ⟨by rfl, rfl⟩) hHeld ?_
   simp only [Act.put, pg]
   refine ze (i := 28) (oi := _) (v := undef) rfl (by kernel_rfl) (by kernel_rfl) (by kernel_rfl) (fun _ _ _ h => by cases h.1) (Or.inr ⟨by rfl, rfl⟩) hHeld ?_
   simp only [Act.put, pg]
   refine ze (i := 29) (oi := _) (v := undef) rfl (by kernel_rfl) (by kernel_rfl) (by kernel_rfl) (fun _ _ _ h => by cases h.1) (Or.inr ⟨by rfl, rfl⟩) hHeld ?_
   simp only [Act.put, pg]
   refine ze (i := 30) (oi := _) (v := undef) rfl (by kernel_rfl) (by kernel_rfl) (by kernel_rfl) (fun _ _ _ h => by cases h.1) (Or.inr ⟨by rfl, rfl⟩) hHeld ?_
   simp only [Act.put, pg]
   refine ze (i := 31) (oi := _) (v := (.bool false)) rfl (by kernel_rfl) (by kernel_rfl) (by kernel_rfl) (fun _ _ _ h => by cases h.1) (Or.inl ⟨by rfl, ?_⟩) hHeld ?_
   · clear hHeld; intro X hSw; clear hSw; go_simp
   simp only [Act.put, pg]
   refine ze (i := 32) (oi := _) (v := (.bool false)) rfl (by kernel_rfl) (by kernel_rfl) (by kernel_rfl) (fun _ _ _ h => by cases h.1) (Or.inl ⟨by rfl, ?_⟩) hHeld ?_
   · clear hHeld; intro X hSw; clear hSw; go_simp
   simp only [Act.put, pg]
   refine zY (by kernel_rfl) ⟨rfl, ?_⟩ _
   have HE := hH (HFIN.out _ hHeld)
   clear hHeld HSx
   gi_wp2
   exact ⟨_, results_tmp rfl _ _ _, by rw [HB.out]; rfl, HE.out⟩
 rw [show jM true = 0 from rfl] at HCK
 by_cases h0 : 0 ≤ x.kind
 case neg =>
  have HB := hH (show vk g x = false by rw [Zw]; unfold kindOf; rw [if_neg (by intro h; exact h0 h.2)])
  refine (callsIn_wide (n := 8)).1 ?_
  refine callsIn_of_wp_marks Try.func45 rfl trivial ?_ rfl
  simp only [Try.ntmps45, List.size_toArray, List.length_cons, List.length_nil, Nat.reduceAdd, Nat.reduceSub, Array.replicate_succ, Array.replicate_zero, List.push_toArray, List.append_toArray, List.nil_append, List.cons_append]
  gi_wp2_with fail
  change Code.wpIn _ _ _ _ _ _ (zq w [.cells #[.slice ga gn gc, .int .i64 g.root] 24, .cells #[.int .i64 x.id, .int .i64 x.kind, .string x.text, .slice ka n cap] 27])
  rw [← HV.out]
  refine qf (S := SX) (by kernel_rfl) ?_
  have hHeld := hS0
  clear hS0
  refine ze (i := 0) (oi := _) (v := (.agg #[.slice ga gn gc, .int .i64 g.root])) rfl (by kernel_rfl) (by kernel_rfl) (by kernel_rfl) (fun _ _ _ h => by cases h.1) (Or.inl ⟨by rfl, ?_⟩) hHeld ?_
  · clear hHeld; intro X hSw; obtain ⟨s0, s1, s2, s3, s4, s5⟩ := HSx X hSw; clear hSw; go_simp
  simp only [Act.put, pg]
  refine zJ (i := 1) (o := _) (by kernel_rfl) rfl fun K1 hK1 => ?_
  rw [if_pos (by rfl)]
  simp only [pg3]
  have HK1 := hH hK1
  have HH1 := hH hHeld
  clear hK1 hHeld
  gi_wp2_with (refine ⟨trivial, ?_⟩; gi_at_call 28; refine (callsIn_wide.2 (HCK.out _ HH1.out)).mono ?_; rintro e X1 ⟨rfl, hb⟩; have HX1 := hH hb; clear hb)
  have hHeld := HSB.out _ X1 HH1.out HX1.out
  refine HK1.out _ _ hHeld ?_
  clear HK1
  refine ze (i := 2) (oi := _) (v := (.bool true)) rfl (by kernel_rfl) (by kernel_rfl) (by kernel_rfl) (fun _ _ _ h => by cases h.1) (Or.inl ⟨by rfl, ?_⟩) hHeld ?_
  · clear hHeld; intro X hSw; clear hSw; go_simp
  simp only [Act.put, pg]
  refine ze (i := 3) (oi := _) (v := (.bool true)) rfl (by kernel_rfl) (by kernel_rfl) (by kernel_rfl) (fun _ _ _ h => by cases h.1) (Or.inl ⟨by rfl, ?_⟩) hHeld ?_
  · clear hHeld; intro X hSw; clear hSw; go_simp
  simp only [Act.put, pg]
  refine ze (i := 4) (oi := _) (v := (.pointer (some ⟨w.heap.size + 1, 1, none⟩))) rfl (by kernel_rfl) (by kernel_rfl) (by kernel_rfl) (fun _ _ _ h => by cases h.1) (Or.inl ⟨by rfl, ?_⟩) hHeld ?_
  · clear hHeld; intro X hSw; clear hSw; go_simp
  simp only [Act.put, pg]
  refine ze (i := 5) (oi := _) (v := (.int .i64 x.kind)) rfl (by kernel_rfl) (by kernel_rfl) (by kernel_rfl) (fun _ _ _ h => by cases h.1) (Or.inl ⟨by rfl, ?_⟩) hHeld ?_
  · clear hHeld; intro X hSw; obtain ⟨s0, s1, s2, s3, s4, s5⟩ := HSx X hSw; clear hSw; go_simp
  simp only [Act.put, pg]
  refine ze (i := 6) (oi := _) (v := (.bool false)) rfl (by kernel_rfl) (by kernel_rfl) (by kernel_rfl) (fun _ _ _ h => by cases h.1) (Or.inl ⟨by rfl, ?_⟩) hHeld ?_
  · clear hHeld; intro X hSw; clear hSw; go_simp
  simp only [Act.put, pg]
  refine ze (i := 7) (oi := _) (v := (.bool false)) rfl (by kernel_rfl) (by kernel_rfl) (by kernel_rfl) (fun _ _ _ h => by cases h.1) (Or.inl ⟨by rfl, ?_⟩) hHeld ?_
  · clear hHeld; intro X hSw; clear hSw; go_simp
  simp only [Act.put, pg]
  refine ze (i := 8) (oi := _) (v := (.bool false)) rfl (by kernel_rfl) (by kernel_rfl) (by kernel_rfl) (fun _ _ _ h => by cases h.1) (Or.inl ⟨by rfl, ?_⟩) hHeld ?_
  · clear hHeld; intro X hSw; clear hSw; go_simp
  simp only [Act.put, pg]
  refine ze (i := 9) (oi := _) (v := undef) rfl (by kernel_rfl) (by kernel_rfl) (by kernel_rfl) (fun _ _ _ h => by cases h.1) (Or.inr ⟨by rfl, rfl⟩) hHeld ?_
  simp only [Act.put, pg]
  refine ze (i := 10) (oi := _) (v := undef) rfl (by kernel_rfl) (by kernel_rfl) (by kernel_rfl) (fun _ _ _ h => by cases h.1) (Or.inr ⟨by rfl, rfl⟩) hHeld ?_
  simp only [Act.put, pg]
  refine ze (i := 11) (oi := _) (v := undef) rfl (by kernel_rfl) (by kernel_rfl) (by kernel_rfl) (fun _ _ _ h => by cases h.1) (Or.inr ⟨by rfl, rfl⟩) hHeld ?_
  simp only [Act.put, pg]
  refine ze (i := 12) (oi := _) (v := undef) rfl (by kernel_rfl) (by kernel_rfl) (by kernel_rfl) (fun _ _ _ h => by cases h.1) (Or.inr ⟨by rfl, rfl⟩) hHeld ?_
  simp only [Act.put, pg]
  refine ze (i := 13) (oi := _) (v := undef) rfl (by kernel_rfl) (by kernel_rfl) (by kernel_rfl) (fun _ _ _ h => by cases h.1) (Or.inr ⟨by rfl, rfl⟩) hHeld ?_
  simp only [Act.put, pg]
  refine ze (i := 14) (oi := _) (v := undef) rfl (by kernel_rfl) (by kernel_rfl) (by kernel_rfl) (fun _ _ _ h => by cases h.1) (Or.inr ⟨by rfl, rfl⟩) hHeld ?_
  simp only [Act.put, pg]
  refine ze (i := 15) (oi := _) (v := (.bool false)) rfl (by kernel_rfl) (by kernel_rfl) (by kernel_rfl) (fun _ _ _ h => by cases h.1) (Or.inl ⟨by rfl, ?_⟩) hHeld ?_
  · clear hHeld; intro X hSw; clear hSw; go_simp
  simp only [Act.put, pg]
  refine ze (i := 16) (oi := _) (v := (.bool false)) rfl (by kernel_rfl) (by kernel_rfl) (by kernel_rfl) (fun _ _ _ h => by cases h.1) (Or.inl ⟨by rfl, ?_⟩) hHeld ?_
  · clear hHeld; intro X hSw; clear hSw; go_simp
  simp only [Act.put, pg]
  refine ze (i := 17) (oi := _) (v := undef) rfl (by kernel_rfl) (by kernel_rfl) (by kernel_rfl) (fun _ _ _ h => by cases h.1) (Or.inr ⟨by rfl, rfl⟩) hHeld ?_
  simp only [Act.put, pg]
  refine ze (i := 18) (oi := _) (v := undef) rfl (by kernel_rfl) (by kernel_rfl) (by kernel_rfl) (fun _ _ _ h => by cases h.1) (Or.inr ⟨by rfl, rfl⟩) hHeld ?_
  simp only [Act.put, pg]
  refine ze (i := 19) (oi := _) (v := undef) rfl (by kernel_rfl) (by kernel_rfl) (by kernel_rfl) (fun _ _ _ h => by cases h.1) (Or.inr ⟨by rfl, rfl⟩) hHeld ?_
  simp only [Act.put, pg]
  refine ze (i := 20) (oi := _) (v := undef) rfl (by kernel_rfl) (by kernel_rfl) (by kernel_rfl) (fun _ _ _ h => by cases h.1) (Or.inr ⟨by rfl, rfl⟩) hHeld ?_
  simp only [Act.put, pg]
  refine ze (i := 21) (oi := _) (v := undef) rfl (by kernel_rfl) (by kernel_rfl) (by kernel_rfl) (fun _ _ _ h => by cases h.1) (Or.inr ⟨by rfl, rfl⟩) hHeld ?_
  simp only [Act.put, pg]
  refine ze (i := 22) (oi := _) (v := undef) rfl (by kernel_rfl) (by kernel_rfl) (by kernel_rfl) (fun _ _ _ h => by cases h.1) (Or.inr ⟨by rfl, rfl⟩) hHeld ?_
  simp only [Act.put, pg]
  refine ze (i := 23) (oi := _) (v := (.bool false)) rfl (by kernel_rfl) (by kernel_rfl) (by kernel_rfl) (fun _ _ _ h => by cases h.1) (Or.inl ⟨by rfl, ?_⟩) hHeld ?_
  · clear hHeld; intro X hSw; clear hSw; go_simp
  simp only [Act.put, pg]
  refine ze (i := 24) (oi := _) (v := (.bool false)) rfl (by kernel_rfl) (by kernel_rfl) (by kernel_rfl) (fun _ _ _ h => by cases h.1) (Or.inl ⟨by rfl, ?_⟩) hHeld ?_
  · clear hHeld; intro X hSw; clear hSw; go_simp
  simp only [Act.put, pg]
  refine ze (i := 25) (oi := _) (v := undef) rfl (by kernel_rfl) (by kernel_rfl) (by kernel_rfl) (fun _ _ _ h => by cases h.1) (Or.inr ⟨by rfl, rfl⟩) hHeld ?_
  simp only [Act.put, pg]
  refine ze (i := 26) (oi := _) (v := undef) rfl (by kernel_rfl) (by kernel_rfl) (by kernel_rfl) (fun _ _ _ h => by cases h.1) (Or.inr ⟨by rfl, rfl⟩) hHeld ?_
  simp only [Act.put, pg]
  refine ze (i := 27) (oi := _) (v := undef) rfl (by kernel_rfl) (by kernel_rfl) (by kernel_rfl) (fun _ _ _ h => by cases h.1) (Or.inr ⟨by rfl, rfl⟩) hHeld ?_
  simp only [Act.put, pg]
  refine ze (i := 28) (oi := _) (v := undef) rfl (by kernel_rfl) (by kernel_rfl) (by kernel_rfl) (fun _ _ _ h => by cases h.1) (Or.inr ⟨by rfl, rfl⟩) hHeld ?_
  simp only [Act.put, pg]
  refine ze (i := 29) (oi := _) (v := undef) rfl (by kernel_rfl) (by kernel_rfl) (by kernel_rfl) (fun _ _ _ h => by cases h.1) (Or.inr ⟨by rfl, rfl⟩) hHeld ?_
  simp only [Act.put, pg]
  refine ze (i := 30) (oi := _) (v := undef) rfl (by kernel_rfl) (by kernel_rfl) (by kernel_rfl) (fun _ _ _ h => by cases h.1) (Or.inr ⟨by rfl, rfl⟩) hHeld ?_
  simp only [Act.put, pg]
  refine ze (i := 31) (oi := _) (v := (.bool false)) rfl (by kernel_rfl) (by kernel_rfl) (by kernel_rfl) (fun _ _ _ h => by cases h.1) (Or.inl ⟨by rfl, ?_⟩) hHeld ?_
  · clear hHeld; intro X hSw; clear hSw; go_simp
  simp only [Act.put, pg]
  refine ze (i := 32) (oi := _) (v := (.bool false)) rfl (by kernel_rfl) (by kernel_rfl) (by kernel_rfl) (fun _ _ _ h => by cases h.1) (Or.inl ⟨by rfl, ?_⟩) hHeld ?_
  · clear hHeld; intro X hSw; clear hSw; go_simp
  simp only [Act.put, pg]
  refine zY (by kernel_rfl) ⟨rfl, ?_⟩ _
  have HE := hH (HFIN.out _ hHeld)
  clear hHeld HSx
  gi_wp2
  exact ⟨_, results_tmp rfl _ _ _, by rw [HB.out]; rfl, HE.out⟩
 by_cases hl : x.kind < (gn : Int)
 case neg =>
  have HB := hH (show vk g x = false by rw [Zw]; unfold kindOf; exact ite_eq_right_iff.2 fun _ => List.getElem?_eq_none (by have := HGN.out; omega))
  refine (callsIn_wide (n := 8)).1 ?_
  refine callsIn_of_wp_marks Try.func45 rfl trivial ?_ rfl
  simp only [Try.ntmps45, List.size_toArray, List.length_cons, List.length_nil, Nat.reduceAdd, Nat.reduceSub, Array.replicate_succ, Array.replicate_zero, List.push_toArray, List.append_toArray, List.nil_append, List.cons_append]
  gi_wp2_with fail
  change Code.wpIn _ _ _ _ _ _ (zq w [.cells #[.slice ga gn gc, .int .i64 g.root] 24, .cells #[.int .i64 x.id, .int .i64 x.kind, .string x.text, .slice ka n cap] 27])
  rw [← HV.out]
  refine qf (S := SX) (by kernel_rfl) ?_
  have hHeld := hS0
  clear hS0
  refine ze (i := 0) (oi := _) (v := (.agg #[.slice ga gn gc, .int .i64 g.root])) rfl (by kernel_rfl) (by kernel_rfl) (by kernel_rfl) (fun _ _ _ h => by cases h.1) (Or.inl ⟨by rfl, ?_⟩) hHeld ?_
  · clear hHeld; intro X hSw; obtain ⟨s0, s1, s2, s3, s4, s5⟩ := HSx X hSw; clear hSw; go_simp
  simp only [Act.put, pg]
  refine zJ (i := 1) (o := _) (by kernel_rfl) rfl fun K1 hK1 => ?_
  rw [if_pos (by rfl)]
  simp only [pg3]
  have HK1 := hH hK1
  have HH1 := hH hHeld
  clear hK1 hHeld
  gi_wp2_with (refine ⟨trivial, ?_⟩; gi_at_call 28; refine (callsIn_wide.2 (HCK.out _ HH1.out)).mono ?_; rintro e X1 ⟨rfl, hb⟩; have HX1 := hH hb; clear hb)
  have hHeld := HSB.out _ X1 HH1.out HX1.out
  refine HK1.out _ _ hHeld ?_
  clear HK1
  refine ze (i := 2) (oi := _) (v := (.bool true)) rfl (by kernel_rfl) (by kernel_rfl) (by kernel_rfl) (fun _ _ _ h => by cases h.1) (Or.inl ⟨by rfl, ?_⟩) hHeld ?_
  · clear hHeld; intro X hSw; clear hSw; go_simp
  simp only [Act.put, pg]
  refine ze (i := 3) (oi := _) (v := (.bool true)) rfl (by kernel_rfl) (by kernel_rfl) (by kernel_rfl) (fun _ _ _ h => by cases h.1) (Or.inl ⟨by rfl, ?_⟩) hHeld ?_
  · clear hHeld; intro X hSw; clear hSw; go_simp
  simp only [Act.put, pg]
  refine ze (i := 4) (oi := _) (v := (.pointer (some ⟨w.heap.size + 1, 1, none⟩))) rfl (by kernel_rfl) (by kernel_rfl) (by kernel_rfl) (fun _ _ _ h => by cases h.1) (Or.inl ⟨by rfl, ?_⟩) hHeld ?_
  · clear hHeld; intro X hSw; clear hSw; go_simp
  simp only [Act.put, pg]
  refine ze (i := 5) (oi := _) (v := (.int .i64 x.kind)) rfl (by kernel_rfl) (by kernel_rfl) (by kernel_rfl) (fun _ _ _ h => by cases h.1) (Or.inl ⟨by rfl, ?_⟩) hHeld ?_
  · clear hHeld; intro X hSw; obtain ⟨s0, s1, s2, s3, s4, s5⟩ := HSx X hSw; clear hSw; go_simp
  simp only [Act.put, pg]
  refine ze (i := 6) (oi := _) (v := (.bool true)) rfl (by kernel_rfl) (by kernel_rfl) (by kernel_rfl) (fun _ _ _ h => by cases h.1) (Or.inl ⟨by rfl, ?_⟩) hHeld ?_
  · clear hHeld; intro X hSw; clear hSw; go_simp
  simp only [Act.put, pg]
  refine ze (i := 7) (oi := _) (v := (.bool true)) rfl (by kernel_rfl) (by kernel_rfl) (by kernel_rfl) (fun _ _ _ h => by cases h.1) (Or.inl ⟨by rfl, ?_⟩) hHeld ?_
  · clear hHeld; intro X hSw; clear hSw; go_simp
  simp only [Act.put, pg]
  refine ze (i := 8) (oi := _) (v := (.bool true)) rfl (by kernel_rfl) (by kernel_rfl) (by kernel_rfl) (fun _ _ _ h => by cases h.1) (Or.inl ⟨by rfl, ?_⟩) hHeld ?_
  · clear hHeld; intro X hSw; clear hSw; go_simp
  simp only [Act.put, pg]
  refine ze (i := 9) (oi := _) (v := (.pointer (some ⟨w.heap.size + 1, 1, none⟩))) rfl (by kernel_rfl) (by kernel_rfl) (by kernel_rfl) (fun _ _ _ h => by cases h.1) (Or.inl ⟨by rfl, ?_⟩) hHeld ?_
  · clear hHeld; intro X hSw; clear hSw; go_simp
  simp only [Act.put, pg]
  refine ze (i := 10) (oi := _) (v := (.int .i64 x.kind)) rfl (by kernel_rfl) (by kernel_rfl) (by kernel_rfl) (fun _ _ _ h => by cases h.1) (Or.inl ⟨by rfl, ?_⟩) hHeld ?_
  · clear hHeld; intro X hSw; obtain ⟨s0, s1, s2, s3, s4, s5⟩ := HSx X hSw; clear hSw; go_simp
  simp only [Act.put, pg]
  refine ze (i := 11) (oi := _) (v := (.pointer (some ⟨w.heap.size, 0, none⟩))) rfl (by kernel_rfl) (by kernel_rfl) (by kernel_rfl) (fun _ _ _ h => by cases h.1) (Or.inl ⟨by rfl, ?_⟩) hHeld ?_
  · clear hHeld; intro X hSw; clear hSw; go_simp
  simp only [Act.put, pg]
  refine ze (i := 12) (oi := _) (v := (.slice ga gn gc)) rfl (by kernel_rfl) (by kernel_rfl) (by kernel_rfl) (fun _ _ _ h => by cases h.1) (Or.inl ⟨by rfl, ?_⟩) hHeld ?_
  · clear hHeld; intro X hSw; obtain ⟨s0, s1, s2, s3, s4, s5⟩ := HSx X hSw; clear hSw; go_simp
  simp only [Act.put, pg]
  refine ze (i := 13) (oi := _) (v := (.int .i64 (gn : Int))) rfl (by kernel_rfl) (by kernel_rfl) (by kernel_rfl) (fun _ _ _ h => by cases h.1) (Or.inl ⟨by rfl, ?_⟩) hHeld ?_
  · clear hHeld; intro X hSw; clear hSw; go_simp
  simp only [Act.put, pg]
  refine ze (i := 14) (oi := _) (v := (.bool false)) rfl (by kernel_rfl) (by kernel_rfl) (by kernel_rfl) (fun _ _ _ h => by cases h.1) (Or.inl ⟨by rfl, ?_⟩) hHeld ?_
  · clear hHeld; intro X hSw; clear hSw; go_simp
  simp only [Act.put, pg]
  refine ze (i := 15) (oi := _) (v := (.bool false)) rfl (by kernel_rfl) (by kernel_rfl) (by kernel_rfl) (fun _ _ _ h => by cases h.1) (Or.inl ⟨by rfl, ?_⟩) hHeld ?_
  · clear hHeld; intro X hSw; clear hSw; go_simp
  simp only [Act.put, pg]
  refine ze (i := 16) (oi := _) (v := (.bool false)) rfl (by kernel_rfl) (by kernel_rfl) (by kernel_rfl) (fun _ _ _ h => by cases h.1) (Or.inl ⟨by rfl, ?_⟩) hHeld ?_
  · clear hHeld; intro X hSw; clear hSw; go_simp
  simp only [Act.put, pg]
  refine ze (i := 17) (oi := _) (v := undef) rfl (by kernel_rfl) (by kernel_rfl) (by kernel_rfl) (fun _ _ _ h => by cases h.1) (Or.inr ⟨by rfl, rfl⟩) hHeld ?_
  simp only [Act.put, pg]
  refine ze (i := 18) (oi := _) (v := undef) rfl (by kernel_rfl) (by kernel_rfl) (by kernel_rfl) (fun _ _ _ h => by cases h.1) (Or.inr ⟨by rfl, rfl⟩) hHeld ?_
  simp only [Act.put, pg]
  refine ze (i := 19) (oi := _) (v := undef) rfl (by kernel_rfl) (by kernel_rfl) (by kernel_rfl) (fun _ _ _ h => by cases h.1) (Or.inr ⟨by rfl, rfl⟩) hHeld ?_
  simp only [Act.put, pg]
  refine ze (i := 20) (oi := _) (v := undef) rfl (by kernel_rfl) (by kernel_rfl) (by kernel_rfl) (fun _ _ _ h => by cases h.1) (Or.inr ⟨by rfl, rfl⟩) hHeld ?_
  simp only [Act.put, pg]
  refine ze (i := 21) (oi := _) (v := undef) rfl (by kernel_rfl) (by kernel_rfl) (by kernel_rfl) (fun _ _ _ h => by cases h.1) (Or.inr ⟨by rfl, rfl⟩) hHeld ?_
  simp only [Act.put, pg]
  refine ze (i := 22) (oi := _) (v := undef) rfl (by kernel_rfl) (by kernel_rfl) (by kernel_rfl) (fun _ _ _ h => by cases h.1) (Or.inr ⟨by rfl, rfl⟩) hHeld ?_
  simp only [Act.put, pg]
  refine ze (i := 23) (oi := _) (v := (.bool false)) rfl (by kernel_rfl) (by kernel_rfl) (by kernel_rfl) (fun _ _ _ h => by cases h.1) (Or.inl ⟨by rfl, ?_⟩) hHeld ?_
  · clear hHeld; intro X hSw; clear hSw; go_simp
  simp only [Act.put, pg]
  refine ze (i := 24) (oi := _) (v := (.bool false)) rfl (by kernel_rfl) (by kernel_rfl) (by kernel_rfl) (fun _ _ _ h => by cases h.1) (Or.inl ⟨by rfl, ?_⟩) hHeld ?_
  · clear hHeld; intro X hSw; clear hSw; go_simp
  simp only [Act.put, pg]
  refine ze (i := 25) (oi := _) (v := undef) rfl (by kernel_rfl) (by kernel_rfl) (by kernel_rfl) (fun _ _ _ h => by cases h.1) (Or.inr ⟨by rfl, rfl⟩) hHeld ?_
  simp only [Act.put, pg]
  refine ze (i := 26) (oi := _) (v := undef) rfl (by kernel_rfl) (by kernel_rfl) (by kernel_rfl) (fun _ _ _ h => by cases h.1) (Or.inr ⟨by rfl, rfl⟩) hHeld ?_
  simp only [Act.put, pg]
  refine ze (i := 27) (oi := _) (v := undef) rfl (by kernel_rfl) (by kernel_rfl) (by kernel_rfl) (fun _ _ _ h => by cases h.1) (Or.inr ⟨by rfl, rfl⟩) hHeld ?_
  simp only [Act.put, pg]
  refine ze (i := 28) (oi := _) (v := undef) rfl (by kernel_rfl) (by kernel_rfl) (by kernel_rfl) (fun _ _ _ h => by cases h.1) (Or.inr ⟨by rfl, rfl⟩) hHeld ?_
  simp only [Act.put, pg]
  refine ze (i := 29) (oi := _) (v := undef) rfl (by kernel_rfl) (by kernel_rfl) (by kernel_rfl) (fun _ _ _ h => by cases h.1) (Or.inr ⟨by rfl, rfl⟩) hHeld ?_
  simp only [Act.put, pg]
  refine ze (i := 30) (oi := _) (v := undef) rfl (by kernel_rfl) (by kernel_rfl) (by kernel_rfl) (fun _ _ _ h => by cases h.1) (Or.inr ⟨by rfl, rfl⟩) hHeld ?_
  simp only [Act.put, pg]
  refine ze (i := 31) (oi := _) (v := (.bool false)) rfl (by kernel_rfl) (by kernel_rfl) (by kernel_rfl) (fun _ _ _ h => by cases h.1) (Or.inl ⟨by rfl, ?_⟩) hHeld ?_
  · clear hHeld; intro X hSw; clear hSw; go_simp
  simp only [Act.put, pg]
  refine ze (i := 32) (oi := _) (v := (.bool false)) rfl (by kernel_rfl) (by kernel_rfl) (by kernel_rfl) (fun _ _ _ h => by cases h.1) (Or.inl ⟨by rfl, ?_⟩) hHeld ?_
  · clear hHeld; intro X hSw; clear hSw; go_simp
  simp only [Act.put, pg]
  refine zY (by kernel_rfl) ⟨rfl, ?_⟩ _
  have HE := hH (HFIN.out _ hHeld)
  clear hHeld HSx
  gi_wp2
  exact ⟨_, results_tmp rfl _ _ _, by rw [HB.out]; rfl, HE.out⟩
 cases b1
 · have HB := hH (show vk g x = false by unfold vk; rw [← HBB.out.1]; rfl)
   refine (callsIn_wide (n := 8)).1 ?_
   refine callsIn_of_wp_marks Try.func45 rfl trivial ?_ rfl
   simp only [Try.ntmps45, List.size_toArray, List.length_cons, List.length_nil, Nat.reduceAdd, Nat.reduceSub, Array.replicate_succ, Array.replicate_zero, List.push_toArray, List.append_toArray, List.nil_append, List.cons_append]
   gi_wp2_with fail
   change Code.wpIn _ _ _ _ _ _ (zq w [.cells #[.slice ga gn gc, .int .i64 g.root] 24, .cells #[.int .i64 x.id, .int .i64 x.kind, .string x.text, .slice ka n cap] 27])
   rw [← HV.out]
   refine qf (S := SX) (by kernel_rfl) ?_
   have hHeld := hS0
   clear hS0
   refine ze (i := 0) (oi := _) (v := (.agg #[.slice ga gn gc, .int .i64 g.root])) rfl (by kernel_rfl) (by kernel_rfl) (by kernel_rfl) (fun _ _ _ h => by cases h.1) (Or.inl ⟨by rfl, ?_⟩) hHeld ?_
   · clear hHeld; intro X hSw; obtain ⟨s0, s1, s2, s3, s4, s5⟩ := HSx X hSw; clear hSw; go_simp
   simp only [Act.put, pg]
   refine zJ (i := 1) (o := _) (by kernel_rfl) rfl fun K1 hK1 => ?_
   rw [if_pos (by rfl)]
   simp only [pg3]
   have HK1 := hH hK1
   have HH1 := hH hHeld
   clear hK1 hHeld
   gi_wp2_with (refine ⟨trivial, ?_⟩; gi_at_call 28; refine (callsIn_wide.2 (HCK.out _ HH1.out)).mono ?_; rintro e X1 ⟨rfl, hb⟩; have HX1 := hH hb; clear hb)
   have hHeld := HSB.out _ X1 HH1.out HX1.out
   refine HK1.out _ _ hHeld ?_
   clear HK1
   refine ze (i := 2) (oi := _) (v := (.bool true)) rfl (by kernel_rfl) (by kernel_rfl) (by kernel_rfl) (fun _ _ _ h => by cases h.1) (Or.inl ⟨by rfl, ?_⟩) hHeld ?_
   · clear hHeld; intro X hSw; clear hSw; go_simp
   simp only [Act.put, pg]
   refine ze (i := 3) (oi := _) (v := (.bool true)) rfl (by kernel_rfl) (by kernel_rfl) (by kernel_rfl) (fun _ _ _ h => by cases h.1) (Or.inl ⟨by rfl, ?_⟩) hHeld ?_
   · clear hHeld; intro X hSw; clear hSw; go_simp
   simp only [Act.put, pg]
   refine ze (i := 4) (oi := _) (v := (.pointer (some ⟨w.heap.size + 1, 1, none⟩))) rfl (by kernel_rfl) (by kernel_rfl) (by kernel_rfl) (fun _ _ _ h => by cases h.1) (Or.inl ⟨by rfl, ?_⟩) hHeld ?_
   · clear hHeld; intro X hSw; clear hSw; go_simp
   simp only [Act.put, pg]
   refine ze (i := 5) (oi := _) (v := (.int .i64 x.kind)) rfl (by kernel_rfl) (by kernel_rfl) (by kernel_rfl) (fun _ _ _ h => by cases h.1) (Or.inl ⟨by rfl, ?_⟩) hHeld ?_
   · clear hHeld; intro X hSw; obtain ⟨s0, s1, s2, s3, s4, s5⟩ := HSx X hSw; clear hSw; go_simp
   simp only [Act.put, pg]
   refine ze (i := 6) (oi := _) (v := (.bool true)) rfl (by kernel_rfl) (by kernel_rfl) (by kernel_rfl) (fun _ _ _ h => by cases h.1) (Or.inl ⟨by rfl, ?_⟩) hHeld ?_
   · clear hHeld; intro X hSw; clear hSw; go_simp
   simp only [Act.put, pg]
   refine ze (i := 7) (oi := _) (v := (.bool true)) rfl (by kernel_rfl) (by kernel_rfl) (by kernel_rfl) (fun _ _ _ h => by cases h.1) (Or.inl ⟨by rfl, ?_⟩) hHeld ?_
   · clear hHeld; intro X hSw; clear hSw; go_simp
   simp only [Act.put, pg]
   refine ze (i := 8) (oi := _) (v := (.bool true)) rfl (by kernel_rfl) (by kernel_rfl) (by kernel_rfl) (fun _ _ _ h => by cases h.1) (Or.inl ⟨by rfl, ?_⟩) hHeld ?_
   · clear hHeld; intro X hSw; clear hSw; go_simp
   simp only [Act.put, pg]
   refine ze (i := 9) (oi := _) (v := (.pointer (some ⟨w.heap.size + 1, 1, none⟩))) rfl (by kernel_rfl) (by kernel_rfl) (by kernel_rfl) (fun _ _ _ h => by cases h.1) (Or.inl ⟨by rfl, ?_⟩) hHeld ?_
   · clear hHeld; intro X hSw; clear hSw; go_simp
   simp only [Act.put, pg]
   refine ze (i := 10) (oi := _) (v := (.int .i64 x.kind)) rfl (by kernel_rfl) (by kernel_rfl) (by kernel_rfl) (fun _ _ _ h => by cases h.1) (Or.inl ⟨by rfl, ?_⟩) hHeld ?_
   · clear hHeld; intro X hSw; obtain ⟨s0, s1, s2, s3, s4, s5⟩ := HSx X hSw; clear hSw; go_simp
   simp only [Act.put, pg]
   refine ze (i := 11) (oi := _) (v := (.pointer (some ⟨w.heap.size, 0, none⟩))) rfl (by kernel_rfl) (by kernel_rfl) (by kernel_rfl) (fun _ _ _ h => by cases h.1) (Or.inl ⟨by rfl, ?_⟩) hHeld ?_
   · clear hHeld; intro X hSw; clear hSw; go_simp
   simp only [Act.put, pg]
   refine ze (i := 12) (oi := _) (v := (.slice ga gn gc)) rfl (by kernel_rfl) (by kernel_rfl) (by kernel_rfl) (fun _ _ _ h => by cases h.1) (Or.inl ⟨by rfl, ?_⟩) hHeld ?_
   · clear hHeld; intro X hSw; obtain ⟨s0, s1, s2, s3, s4, s5⟩ := HSx X hSw; clear hSw; go_simp
   simp only [Act.put, pg]
   refine ze (i := 13) (oi := _) (v := (.int .i64 (gn : Int))) rfl (by kernel_rfl) (by kernel_rfl) (by kernel_rfl) (fun _ _ _ h => by cases h.1) (Or.inl ⟨by rfl, ?_⟩) hHeld ?_
   · clear hHeld; intro X hSw; clear hSw; go_simp
   simp only [Act.put, pg]
   refine ze (i := 14) (oi := _) (v := (.bool true)) rfl (by kernel_rfl) (by kernel_rfl) (by kernel_rfl) (fun _ _ _ h => by cases h.1) (Or.inl ⟨by rfl, ?_⟩) hHeld ?_
   · clear hHeld; intro X hSw; clear hSw; go_simp
   simp only [Act.put, pg]
   refine ze (i := 15) (oi := _) (v := (.bool true)) rfl (by kernel_rfl) (by kernel_rfl) (by kernel_rfl) (fun _ _ _ h => by cases h.1) (Or.inl ⟨by rfl, ?_⟩) hHeld ?_
   · clear hHeld; intro X hSw; clear hSw; go_simp
   simp only [Act.put, pg]
   refine ze (i := 16) (oi := _) (v := (.bool true)) rfl (by kernel_rfl) (by kernel_rfl) (by kernel_rfl) (fun _ _ _ h => by cases h.1) (Or.inl ⟨by rfl, ?_⟩) hHeld ?_
   · clear hHeld; intro X hSw; clear hSw; go_simp
   simp only [Act.put, pg]
   refine ze (i := 17) (oi := _) (v := (.agg #[.slice ga gn gc, .int .i64 g.root])) rfl (by kernel_rfl) (by kernel_rfl) (by kernel_rfl) (fun _ _ _ h => by cases h.1) (Or.inl ⟨by rfl, ?_⟩) hHeld ?_
   · clear hHeld; intro X hSw; obtain ⟨s0, s1, s2, s3, s4, s5⟩ := HSx X hSw; clear hSw; go_simp
   simp only [Act.put, pg]
   refine ze (i := 18) (oi := _) (v := (.pointer (some ⟨w.heap.size + 1, 1, none⟩))) rfl (by kernel_rfl) (by kernel_rfl) (by kernel_rfl) (fun _ _ _ h => by cases h.1) (Or.inl ⟨by rfl, ?_⟩) hHeld ?_
   · clear hHeld; intro X hSw; clear hSw; go_simp
   simp only [Act.put, pg]
   refine ze (i := 19) (oi := _) (v := (.int .i64 x.kind)) rfl (by kernel_rfl) (by kernel_rfl) (by kernel_rfl) (fun _ _ _ h => by cases h.1) (Or.inl ⟨by rfl, ?_⟩) hHeld ?_
   · clear hHeld; intro X hSw; obtain ⟨s0, s1, s2, s3, s4, s5⟩ := HSx X hSw; clear hSw; go_simp
   simp only [Act.put, pg]
   refine ze (i := 20) (oi := _) (v := (.pointer (some ⟨w.heap.size + 1, 2, none⟩))) rfl (by kernel_rfl) (by kernel_rfl) (by kernel_rfl) (fun _ _ _ h => by cases h.1) (Or.inl ⟨by rfl, ?_⟩) hHeld ?_
   · clear hHeld; intro X hSw; clear hSw; go_simp
   simp only [Act.put, pg]
   refine ze (i := 21) (oi := _) (v := (.string x.text)) rfl (by kernel_rfl) (by kernel_rfl) (by kernel_rfl) (fun _ _ _ h => by cases h.1) (Or.inl ⟨by rfl, ?_⟩) hHeld ?_
   · clear hHeld; intro X hSw; obtain ⟨s0, s1, s2, s3, s4, s5⟩ := HSx X hSw; clear hSw; go_simp
   simp only [Act.put, pg]
   refine zJ (i := 22) (o := _) (by kernel_rfl) rfl fun K22 hK22 => ?_
   rw [if_pos (by rfl)]
   simp only [pg3]
   have HK22 := hH hK22
   have HH22 := hH hHeld
   clear hK22 hHeld
   gi_wp2_with (refine ⟨trivial, ?_⟩; gi_at_call 66; refine (callsIn_wide.2 (HTX.out _ HH22.out)).mono ?_; rintro e X22 ⟨rfl, hb⟩; have HX22 := hH hb; clear hb)
   have hHeld := HSB.out _ X22 HH22.out HX22.out
   refine HK22.out _ _ hHeld ?_
   clear HK22
   refine ze (i := 23) (oi := _) (v := (.bool false)) rfl (by kernel_rfl) (by kernel_rfl) (by kernel_rfl) (fun _ _ _ h => by cases h.1) (Or.inl ⟨by rfl, ?_⟩) hHeld ?_
   · clear hHeld; intro X hSw; clear hSw; go_simp
   simp only [Act.put, pg]
   refine ze (i := 24) (oi := _) (v := (.bool false)) rfl (by kernel_rfl) (by kernel_rfl) (by kernel_rfl) (fun _ _ _ h => by cases h.1) (Or.inl ⟨by rfl, ?_⟩) hHeld ?_
   · clear hHeld; intro X hSw; clear hSw; go_simp
   simp only [Act.put, pg]
   refine ze (i := 25) (oi := _) (v := undef) rfl (by kernel_rfl) (by kernel_rfl) (by kernel_rfl) (fun _ _ _ h => by cases h.1) (Or.inr ⟨by rfl, rfl⟩) hHeld ?_
   simp only [Act.put, pg]
   refine ze (i := 26) (oi := _) (v := undef) rfl (by kernel_rfl) (by kernel_rfl) (by kernel_rfl) (fun _ _ _ h => by cases h.1) (Or.inr ⟨by rfl, rfl⟩) hHeld ?_
   simp only [Act.put, pg]
   refine ze (i := 27) (oi := _) (v := undef) rfl (by kernel_rfl) (by kernel_rfl) (by kernel_rfl) (fun _ _ _ h => by cases h.1) (Or.inr ⟨by rfl, rfl⟩) hHeld ?_
   simp only [Act.put, pg]
   refine ze (i := 28) (oi := _) (v := undef) rfl (by kernel_rfl) (by kernel_rfl) (by kernel_rfl) (fun _ _ _ h => by cases h.1) (Or.inr ⟨by rfl, rfl⟩) hHeld ?_
   simp only [Act.put, pg]
   refine ze (i := 29) (oi := _) (v := undef) rfl (by kernel_rfl) (by kernel_rfl) (by kernel_rfl) (fun _ _ _ h => by cases h.1) (Or.inr ⟨by rfl, rfl⟩) hHeld ?_
   simp only [Act.put, pg]
   refine ze (i := 30) (oi := _) (v := undef) rfl (by kernel_rfl) (by kernel_rfl) (by kernel_rfl) (fun _ _ _ h => by cases h.1) (Or.inr ⟨by rfl, rfl⟩) hHeld ?_
   simp only [Act.put, pg]
   refine ze (i := 31) (oi := _) (v := (.bool false)) rfl (by kernel_rfl) (by kernel_rfl) (by kernel_rfl) (fun _ _ _ h => by cases h.1) (Or.inl ⟨by rfl, ?_⟩) hHeld ?_
   · clear hHeld; intro X hSw; clear hSw; go_simp
   simp only [Act.put, pg]
   refine ze (i := 32) (oi := _) (v := (.bool false)) rfl (by kernel_rfl) (by kernel_rfl) (by kernel_rfl) (fun _ _ _ h => by cases h.1) (Or.inl ⟨by rfl, ?_⟩) hHeld ?_
   · clear hHeld; intro X hSw; clear hSw; go_simp
   simp only [Act.put, pg]
   refine zY (by kernel_rfl) ⟨rfl, ?_⟩ _
   have HE := hH (HFIN.out _ hHeld)
   clear hHeld HSx
   gi_wp2
   exact ⟨_, results_tmp rfl _ _ _, by rw [HB.out]; rfl, HE.out⟩
 · have HB := hH (show vk g x = b2 by unfold vk; rw [← HBB.out.1, ← HBB.out.2]; rfl)
   refine (callsIn_wide (n := 8)).1 ?_
   refine callsIn_of_wp_marks Try.func45 rfl trivial ?_ rfl
   simp only [Try.ntmps45, List.size_toArray, List.length_cons, List.length_nil, Nat.reduceAdd, Nat.reduceSub, Array.replicate_succ, Array.replicate_zero, List.push_toArray, List.append_toArray, List.nil_append, List.cons_append]
   gi_wp2_with fail
   change Code.wpIn _ _ _ _ _ _ (zq w [.cells #[.slice ga gn gc, .int .i64 g.root] 24, .cells #[.int .i64 x.id, .int .i64 x.kind, .string x.text, .slice ka n cap] 27])
   rw [← HV.out]
   refine qf (S := SX) (by kernel_rfl) ?_
   have hHeld := hS0
   clear hS0
   refine ze (i := 0) (oi := _) (v := (.agg #[.slice ga gn gc, .int .i64 g.root])) rfl (by kernel_rfl) (by kernel_rfl) (by kernel_rfl) (fun _ _ _ h => by cases h.1) (Or.inl ⟨by rfl, ?_⟩) hHeld ?_
   · clear hHeld; intro X hSw; obtain ⟨s0, s1, s2, s3, s4, s5⟩ := HSx X hSw; clear hSw; go_simp
   simp only [Act.put, pg]
   refine zJ (i := 1) (o := _) (by kernel_rfl) rfl fun K1 hK1 => ?_
   rw [if_pos (by rfl)]
   simp only [pg3]
   have HK1 := hH hK1
   have HH1 := hH hHeld
   clear hK1 hHeld
   gi_wp2_with (refine ⟨trivial, ?_⟩; gi_at_call 28; refine (callsIn_wide.2 (HCK.out _ HH1.out)).mono ?_; rintro e X1 ⟨rfl, hb⟩; have HX1 := hH hb; clear hb)
   have hHeld := HSB.out _ X1 HH1.out HX1.out
   refine HK1.out _ _ hHeld ?_
   clear HK1
   refine ze (i := 2) (oi := _) (v := (.bool true)) rfl (by kernel_rfl) (by kernel_rfl) (by kernel_rfl) (fun _ _ _ h => by cases h.1) (Or.inl ⟨by rfl, ?_⟩) hHeld ?_
   · clear hHeld; intro X hSw; clear hSw; go_simp
   simp only [Act.put, pg]
   refine ze (i := 3) (oi := _) (v := (.bool true)) rfl (by kernel_rfl) (by kernel_rfl) (by kernel_rfl) (fun _ _ _ h => by cases h.1) (Or.inl ⟨by rfl, ?_⟩) hHeld ?_
   · clear hHeld; intro X hSw; clear hSw; go_simp
   simp only [Act.put, pg]
   refine ze (i := 4) (oi := _) (v := (.pointer (some ⟨w.heap.size + 1, 1, none⟩))) rfl (by kernel_rfl) (by kernel_rfl) (by kernel_rfl) (fun _ _ _ h => by cases h.1) (Or.inl ⟨by rfl, ?_⟩) hHeld ?_
   · clear hHeld; intro X hSw; clear hSw; go_simp
   simp only [Act.put, pg]
   refine ze (i := 5) (oi := _) (v := (.int .i64 x.kind)) rfl (by kernel_rfl) (by kernel_rfl) (by kernel_rfl) (fun _ _ _ h => by cases h.1) (Or.inl ⟨by rfl, ?_⟩) hHeld ?_
   · clear hHeld; intro X hSw; obtain ⟨s0, s1, s2, s3, s4, s5⟩ := HSx X hSw; clear hSw; go_simp
   simp only [Act.put, pg]
   refine ze (i := 6) (oi := _) (v := (.bool true)) rfl (by kernel_rfl) (by kernel_rfl) (by kernel_rfl) (fun _ _ _ h => by cases h.1) (Or.inl ⟨by rfl, ?_⟩) hHeld ?_
   · clear hHeld; intro X hSw; clear hSw; go_simp
   simp only [Act.put, pg]
   refine ze (i := 7) (oi := _) (v := (.bool true)) rfl (by kernel_rfl) (by kernel_rfl) (by kernel_rfl) (fun _ _ _ h => by cases h.1) (Or.inl ⟨by rfl, ?_⟩) hHeld ?_
   · clear hHeld; intro X hSw; clear hSw; go_simp
   simp only [Act.put, pg]
   refine ze (i := 8) (oi := _) (v := (.bool true)) rfl (by kernel_rfl) (by kernel_rfl) (by kernel_rfl) (fun _ _ _ h => by cases h.1) (Or.inl ⟨by rfl, ?_⟩) hHeld ?_
   · clear hHeld; intro X hSw; clear hSw; go_simp
   simp only [Act.put, pg]
   refine ze (i := 9) (oi := _) (v := (.pointer (some ⟨w.heap.size + 1, 1, none⟩))) rfl (by kernel_rfl) (by kernel_rfl) (by kernel_rfl) (fun _ _ _ h => by cases h.1) (Or.inl ⟨by rfl, ?_⟩) hHeld ?_
   · clear hHeld; intro X hSw; clear hSw; go_simp
   simp only [Act.put, pg]
   refine ze (i := 10) (oi := _) (v := (.int .i64 x.kind)) rfl (by kernel_rfl) (by kernel_rfl) (by kernel_rfl) (fun _ _ _ h => by cases h.1) (Or.inl ⟨by rfl, ?_⟩) hHeld ?_
   · clear hHeld; intro X hSw; obtain ⟨s0, s1, s2, s3, s4, s5⟩ := HSx X hSw; clear hSw; go_simp
   simp only [Act.put, pg]
   refine ze (i := 11) (oi := _) (v := (.pointer (some ⟨w.heap.size, 0, none⟩))) rfl (by kernel_rfl) (by kernel_rfl) (by kernel_rfl) (fun _ _ _ h => by cases h.1) (Or.inl ⟨by rfl, ?_⟩) hHeld ?_
   · clear hHeld; intro X hSw; clear hSw; go_simp
   simp only [Act.put, pg]
   refine ze (i := 12) (oi := _) (v := (.slice ga gn gc)) rfl (by kernel_rfl) (by kernel_rfl) (by kernel_rfl) (fun _ _ _ h => by cases h.1) (Or.inl ⟨by rfl, ?_⟩) hHeld ?_
   · clear hHeld; intro X hSw; obtain ⟨s0, s1, s2, s3, s4, s5⟩ := HSx X hSw; clear hSw; go_simp
   simp only [Act.put, pg]
   refine ze (i := 13) (oi := _) (v := (.int .i64 (gn : Int))) rfl (by kernel_rfl) (by kernel_rfl) (by kernel_rfl) (fun _ _ _ h => by cases h.1) (Or.inl ⟨by rfl, ?_⟩) hHeld ?_
   · clear hHeld; intro X hSw; clear hSw; go_simp
   simp only [Act.put, pg]
   refine ze (i := 14) (oi := _) (v := (.bool true)) rfl (by kernel_rfl) (by kernel_rfl) (by kernel_rfl) (fun _ _ _ h => by cases h.1) (Or.inl ⟨by rfl, ?_⟩) hHeld ?_
   · clear hHeld; intro X hSw; clear hSw; go_simp
   simp only [Act.put, pg]
   refine ze (i := 15) (oi := _) (v := (.bool true)) rfl (by kernel_rfl) (by kernel_rfl) (by kernel_rfl) (fun _ _ _ h => by cases h.1) (Or.inl ⟨by rfl, ?_⟩) hHeld ?_
   · clear hHeld; intro X hSw; clear hSw; go_simp
   simp only [Act.put, pg]
   refine ze (i := 16) (oi := _) (v := (.bool true)) rfl (by kernel_rfl) (by kernel_rfl) (by kernel_rfl) (fun _ _ _ h => by cases h.1) (Or.inl ⟨by rfl, ?_⟩) hHeld ?_
   · clear hHeld; intro X hSw; clear hSw; go_simp
   simp only [Act.put, pg]
   refine ze (i := 17) (oi := _) (v := (.agg #[.slice ga gn gc, .int .i64 g.root])) rfl (by kernel_rfl) (by kernel_rfl) (by kernel_rfl) (fun _ _ _ h => by cases h.1) (Or.inl ⟨by rfl, ?_⟩) hHeld ?_
   · clear hHeld; intro X hSw; obtain ⟨s0, s1, s2, s3, s4, s5⟩ := HSx X hSw; clear hSw; go_simp
   simp only [Act.put, pg]
   refine ze (i := 18) (oi := _) (v := (.pointer (some ⟨w.heap.size + 1, 1, none⟩))) rfl (by kernel_rfl) (by kernel_rfl) (by kernel_rfl) (fun _ _ _ h => by cases h.1) (Or.inl ⟨by rfl, ?_⟩) hHeld ?_
   · clear hHeld; intro X hSw; clear hSw; go_simp
   simp only [Act.put, pg]
   refine ze (i := 19) (oi := _) (v := (.int .i64 x.kind)) rfl (by kernel_rfl) (by kernel_rfl) (by kernel_rfl) (fun _ _ _ h => by cases h.1) (Or.inl ⟨by rfl, ?_⟩) hHeld ?_
   · clear hHeld; intro X hSw; obtain ⟨s0, s1, s2, s3, s4, s5⟩ := HSx X hSw; clear hSw; go_simp
   simp only [Act.put, pg]
   refine ze (i := 20) (oi := _) (v := (.pointer (some ⟨w.heap.size + 1, 2, none⟩))) rfl (by kernel_rfl) (by kernel_rfl) (by kernel_rfl) (fun _ _ _ h => by cases h.1) (Or.inl ⟨by rfl, ?_⟩) hHeld ?_
   · clear hHeld; intro X hSw; clear hSw; go_simp
   simp only [Act.put, pg]
   refine ze (i := 21) (oi := _) (v := (.string x.text)) rfl (by kernel_rfl) (by kernel_rfl) (by kernel_rfl) (fun _ _ _ h => by cases h.1) (Or.inl ⟨by rfl, ?_⟩) hHeld ?_
   · clear hHeld; intro X hSw; obtain ⟨s0, s1, s2, s3, s4, s5⟩ := HSx X hSw; clear hSw; go_simp
   simp only [Act.put, pg]
   refine zJ (i := 22) (o := _) (by kernel_rfl) rfl fun K22 hK22 => ?_
   rw [if_pos (by rfl)]
   simp only [pg3]
   have HK22 := hH hK22
   have HH22 := hH hHeld
   clear hK22 hHeld
   gi_wp2_with (refine ⟨trivial, ?_⟩; gi_at_call 66; refine (callsIn_wide.2 (HTX.out _ HH22.out)).mono ?_; rintro e X22 ⟨rfl, hb⟩; have HX22 := hH hb; clear hb)
   have hHeld := HSB.out _ X22 HH22.out HX22.out
   refine HK22.out _ _ hHeld ?_
   clear HK22
   refine ze (i := 23) (oi := _) (v := (.bool true)) rfl (by kernel_rfl) (by kernel_rfl) (by kernel_rfl) (fun _ _ _ h => by cases h.1) (Or.inl ⟨by rfl, ?_⟩) hHeld ?_
   · clear hHeld; intro X hSw; clear hSw; go_simp
   simp only [Act.put, pg]
   refine ze (i := 24) (oi := _) (v := (.bool true)) rfl (by kernel_rfl) (by kernel_rfl) (by kernel_rfl) (fun _ _ _ h => by cases h.1) (Or.inl ⟨by rfl, ?_⟩) hHeld ?_
   · clear hHeld; intro X hSw; clear hSw; go_simp
   simp only [Act.put, pg]
   refine ze (i := 25) (oi := _) (v := (.agg #[.slice ga gn gc, .int .i64 g.root])) rfl (by kernel_rfl) (by kernel_rfl) (by kernel_rfl) (fun _ _ _ h => by cases h.1) (Or.inl ⟨by rfl, ?_⟩) hHeld ?_
   · clear hHeld; intro X hSw; obtain ⟨s0, s1, s2, s3, s4, s5⟩ := HSx X hSw; clear hSw; go_simp
   simp only [Act.put, pg]
   refine ze (i := 26) (oi := _) (v := (.pointer (some ⟨w.heap.size + 1, 1, none⟩))) rfl (by kernel_rfl) (by kernel_rfl) (by kernel_rfl) (fun _ _ _ h => by cases h.1) (Or.inl ⟨by rfl, ?_⟩) hHeld ?_
   · clear hHeld; intro X hSw; clear hSw; go_simp
   simp only [Act.put, pg]
   refine ze (i := 27) (oi := _) (v := (.int .i64 x.kind)) rfl (by kernel_rfl) (by kernel_rfl) (by kernel_rfl) (fun _ _ _ h => by cases h.1) (Or.inl ⟨by rfl, ?_⟩) hHeld ?_
   · clear hHeld; intro X hSw; obtain ⟨s0, s1, s2, s3, s4, s5⟩ := HSx X hSw; clear hSw; go_simp
   simp only [Act.put, pg]
   refine ze (i := 28) (oi := _) (v := (.agg #[.int .i64 x.id, .int .i64 x.kind, .string x.text, .slice ka n cap])) rfl (by kernel_rfl) (by kernel_rfl) (by kernel_rfl) (fun _ _ _ h => by cases h.1) (Or.inl ⟨by rfl, ?_⟩) hHeld ?_
   · clear hHeld; intro X hSw; obtain ⟨s0, s1, s2, s3, s4, s5⟩ := HSx X hSw; clear hSw; go_simp
   simp only [Act.put, pg]
   refine zJ (i := 29) (o := _) (by kernel_rfl) rfl fun K29 hK29 => ?_
   rw [if_pos (by rfl)]
   simp only [pg3]
   have HK29 := hH hK29
   have HH29 := hH hHeld
   clear hK29 hHeld
   gi_wp2_with (refine ⟨trivial, ?_⟩; gi_at_call 68; refine (callsIn_wide.2 (HKI.out _ HH29.out)).mono ?_; rintro e X29 ⟨xa, xc, rfl, hxi, hb⟩; rw [← HKL.out]; have HX29 := hH (aN hxi hb); clear hxi hb)
   have hHeld := HSB.out _ X29 HH29.out HX29.out.2
   refine HK29.out _ _ hHeld ?_
   clear HK29
   refine zJ (i := 30) (o := _) (by kernel_rfl) rfl fun K30 hK30 => ?_
   rw [if_pos (by rfl)]
   simp only [pg3]
   have HK30 := hH hK30
   have HH30 := hH hHeld
   clear hK30 hHeld
   gi_wp2_with (refine ⟨trivial, ?_⟩; gi_at_call 67; refine (callsIn_wide.2 (HFI.out _ HH30.out xa xc HX29.out.1)).mono ?_; rintro e X30 ⟨rfl, hb⟩; have HX30 := hH hb; clear hb)
   have hHeld := HSB.out _ X30 HH30.out HX30.out
   refine HK30.out _ _ hHeld ?_
   clear HK30
   refine ze (i := 31) (oi := _) (v := (.bool b2)) rfl (by kernel_rfl) (by kernel_rfl) (by kernel_rfl) (fun _ _ _ h => by cases h.1) (Or.inl ⟨by rfl, ?_⟩) hHeld ?_
   · clear hHeld; intro X hSw; clear hSw; go_simp
   simp only [Act.put, pg]
   refine ze (i := 32) (oi := _) (v := (.bool b2)) rfl (by kernel_rfl) (by kernel_rfl) (by kernel_rfl) (fun _ _ _ h => by cases h.1) (Or.inl ⟨by rfl, ?_⟩) hHeld ?_
   · clear hHeld; intro X hSw; clear hSw; go_simp
   simp only [Act.put, pg]
   refine zY (by kernel_rfl) ⟨rfl, ?_⟩ _
   have HE := hH (HFIN.out _ hHeld)
   clear hHeld HSx
   gi_wp2
   exact ⟨_, results_tmp rfl _ _ _, by rw [HB.out]; rfl, HE.out⟩
end Go.Proofs.Ytgkmmnihaiopaaa
