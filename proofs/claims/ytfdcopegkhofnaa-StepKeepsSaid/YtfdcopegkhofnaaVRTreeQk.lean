/-
  The document's Tree. No condition but the bounds of texts and ids that a host keeps, and that there are not too many nodes.
-/
import Derived.Test.YtfdcopegkhofnaaVRSubQk
namespace Go.Proofs.Ytfdcopegkhofnaa
open Go.RowKit Go.Shelf
attribute [local go_sem] Oper.semAt_some
set_option linter.unusedVariables false
set_option linter.unusedSimpArgs false

set_option maxRecDepth 100000 in
set_option maxHeartbeats 4000000 in
theorem rtree_any (w : World) (S : Nat → Prop) (gv nv : Value) (g : Gr) (t : Tr) (hg : GrV w gv g) (hf : g.few) (hS : ∀ x, S x → x < w.heap.size) (ht : TrAt w S nv t) (hlen : foLen t.kids ≤ 9223372036854775807) (hfit : foFit t.kids) (hsz : foSize t.kids + 1 ≤ 500000) (hok : okF (spF 1 (rootF t))) :
    Calls Try.prog 45 #[gv, nv] w (Says2 (treeR g t) w) := by
  obtain ⟨ga, gc, rfl, hgk⟩ := hg
  obtain ⟨ka, cap, rfl, hcap, hk⟩ := ht
  obtain ⟨n, hn⟩ : ∃ n, n = foLen t.kids := ⟨_, rfl⟩
  obtain ⟨gn, hgn⟩ : ∃ gn, gn = g.kinds.length := ⟨_, rfl⟩
  rw [← hn, ← hgn]
  have kx : ((w.alloc (.cells #[.slice ga gn gc, .int .i64 g.root] 55)).alloc (.cells #[.int .i64 t.id, .int .i64 t.kind, .string t.text, .slice ka n cap] 24)).heap[w.heap.size]? = _ := allocs_at [.cells #[.slice ga gn gc, .int .i64 g.root] 55, .cells #[.int .i64 t.id, .int .i64 t.kind, .string t.text, .slice ka n cap] 24] w 0 _ rfl
  have ky : ((w.alloc (.cells #[.slice ga gn gc, .int .i64 g.root] 55)).alloc (.cells #[.int .i64 t.id, .int .i64 t.kind, .string t.text, .slice ka n cap] 24)).heap[w.heap.size + 1]? = _ := allocs_at [.cells #[.slice ga gn gc, .int .i64 g.root] 55, .cells #[.int .i64 t.id, .int .i64 t.kind, .string t.text, .slice ka n cap] 24] w 1 _ rfl
  have hab : Below w.heap.size w ((w.alloc (.cells #[.slice ga gn gc, .int .i64 g.root] 55)).alloc (.cells #[.int .i64 t.id, .int .i64 t.kind, .string t.text, .slice ka n cap] 24)) := allocs_below [.cells #[.slice ga gn gc, .int .i64 g.root] 55, .cells #[.int .i64 t.id, .int .i64 t.kind, .string t.text, .slice ka n cap] 24] w
  obtain ⟨SX, hSX⟩ : ∃ SX : World → Prop, SX = fun X => Below (w.heap.size + 2) ((w.alloc (.cells #[.slice ga gn gc, .int .i64 g.root] 55)).alloc (.cells #[.int .i64 t.id, .int .i64 t.kind, .string t.text, .slice ka n cap] 24)) X := ⟨_, rfl⟩
  have HSx : ∀ X, SX X → X.cell? ⟨w.heap.size, 0, none⟩ = some (.slice ga gn gc) ∧ X.cell? ⟨w.heap.size, 1, none⟩ = some (.int .i64 g.root) ∧ X.cell? ⟨w.heap.size + 1, 0, none⟩ = some (.int .i64 t.id) ∧ X.cell? ⟨w.heap.size + 1, 1, none⟩ = some (.int .i64 t.kind) ∧ X.cell? ⟨w.heap.size + 1, 2, none⟩ = some (.string t.text) ∧ X.cell? ⟨w.heap.size + 1, 3, none⟩ = some (.slice ka n cap) := fun X h => by
    rw [hSX] at h
    obtain ⟨a0, a1⟩ := boxG ((h.block _ (by omega)).trans kx)
    obtain ⟨b0, b1, b2, b3⟩ := boxN ((h.block _ (by omega)).trans ky)
    exact ⟨a0, a1, b0, b1, b2, b3⟩
  have HS := Lib.hid (show SX ((w.alloc (.cells #[.slice ga gn gc, .int .i64 g.root] 55)).alloc (.cells #[.int .i64 t.id, .int .i64 t.kind, .string t.text, .slice ka n cap] 24)) by rw [hSX]; exact Below.refl _ _)
  have HSB := Lib.hid (fun (X Y : World) (h : SX X) (hb : Below X.heap.size X Y) => (show SX Y by rw [hSX] at h ⊢; exact h.trans (hb.mono (by have := h.size; simp at this; omega))))
  have hwX : ∀ X, SX X → Below w.heap.size w X := fun X h => by rw [hSX] at h; exact hab.trans (h.mono (by omega))
  have hgX : ∀ X, SX X → GrV X (.agg #[.slice ga gn gc, .int .i64 g.root]) g := fun X h => ⟨ga, gc, by rw [hgn], hgk.below (hwX X h)⟩
  have htX : ∀ X, SX X → TrAt X S (.agg #[.int .i64 t.id, .int .i64 t.kind, .string t.text, .slice ka n cap]) t := fun X h => ⟨ka, cap, by rw [hn], hcap, hk.below (hwX X h) hS⟩
  have hSXl : ∀ X, SX X → ∀ y, S y → y < X.heap.size := fun X h y hy => Nat.lt_of_lt_of_le (hS y hy) (hwX X h).size
  have HCK : Hid (∀ X, SX X → Calls Try.prog 34 #[.agg #[.slice ga gn gc, .int .i64 g.root]] X (Counts (errN (grOk g)) X)) := Lib.hid fun X h => rcheck_any X _ g (hgX X h) hf
  have HWA : Hid (∀ X, SX X → Calls Try.prog 28 #[.agg #[.int .i64 t.id, .int .i64 t.kind, .string t.text, .slice ka n cap], .int .i64 201] X (WalkM X S t 201)) := Lib.hid fun X h => walkM_any 201 (by omega) X S _ t hlen hfit (hSXl X h) (htX X h)
  obtain ⟨⟨f1, f2⟩, hfr⟩ : ∃ p : Int × Int, p = subR g t := ⟨_, rfl⟩
  have HFA : Hid (∀ X, SX X → Calls Try.prog 47 #[.agg #[.slice ga gn gc, .int .i64 g.root], .agg #[.int .i64 t.id, .int .i64 t.kind, .string t.text, .slice ka n cap]] X (Says2 (f1, f2) X)) := Lib.hid fun X h => by
    have := rsub_any X S _ _ g t (hgX X h) hf (hSXl X h) (htX X h) hlen hfit hsz hok
    rw [← hfr] at this; exact this
  have HFR := Lib.hid hfr
  have HFIN := Lib.hid hwX
  obtain ⟨ck, hck⟩ : ∃ ck, ck = grOk g := ⟨_, rfl⟩
  have HK := Lib.hid hck
  rw [← hck] at HCK
  clear hS hcap hk hn hgn hf hgk hsz hok kx ky hab hSX hwX hgX htX hSXl hck hlen hfit hfr
  cases ck
  · have HB := Lib.hid (show treeR g t = (0, 50) by rw [treeR, ← HK.out, if_neg (by simp), subR, ← HK.out]; rfl)
    rw [show errN false = 50 from rfl] at HCK
    go_enter Try.func45, Try.ntmps45
    go_wp2_with (go_at_call 34; refine (HCK.out _ HS.out).mono ?_; rintro e w2 ⟨rfl, hb⟩; have HS2 := Lib.hid (HSB.out _ w2 HS.out hb); obtain ⟨p0, p1, p2, p3, p4, p5⟩ := HSx w2 HS2.out; clear hb)
    go_ret2
    exact ⟨by rw [HB.out]; rfl, HFIN.out _ HS2.out⟩
  rw [show errN true = 0 from rfl] at HCK
  go_enter Try.func45, Try.ntmps45
  go_wp2_with (go_at_call 34; refine (HCK.out _ HS.out).mono ?_; rintro e w2 ⟨rfl, hb⟩; have HS2 := Lib.hid (HSB.out _ w2 HS.out hb); obtain ⟨p0, p1, p2, p3, p4, p5⟩ := HSx w2 HS2.out; clear hb)
  go_at_call 28
  refine (HWA.out _ HS2.out).mono ?_
  rintro e w3 ⟨la, lc, rfl, hsp, hb⟩
  have HS3 := Lib.hid (HSB.out _ w3 HS2.out hb); obtain ⟨q0, q1, q2, q3, q4, q5⟩ := HSx w3 HS3.out; clear hb
  clear p0 p1 p2 p3 p4 p5 hsp
  obtain ⟨q, hq⟩ : ∃ q, q = ((spF 1 (rootF t)).take 201).length := ⟨_, rfl⟩
  rw [← hq]
  have hqs := hq
  rw [List.length_take, spF_length, rootF_size] at hqs
  by_cases h200 : 200 < q
  · have hql : (200 : Int) < (q : Int) := by omega
    have HB := Lib.hid (show treeR g t = (0, 70) by
      have h2 : subR g t = (0, 70) := by rw [subR, ← HK.out, if_pos rfl, if_pos (by omega)]
      unfold treeR; split
      · rfl
      · exact h2)
    clear hq hqs h200
    go_wp2_with fail
    go_ret2
    exact ⟨by rw [HB.out]; rfl, HFIN.out _ HS3.out⟩
  have hql : ¬ (200 : Int) < (q : Int) := by omega
  clear hq hqs h200
  by_cases hr : t.kind = g.root
  · have HB := Lib.hid (show treeR g t = (f1, f2) by rw [treeR, ← HK.out, if_neg (by simp [hr]), HFR.out])
    have hne : (t.kind != g.root) = false := by simp [hr]
    clear hr
    go_wp2_with (go_at_call 47; refine (HFA.out _ HS3.out).mono ?_; rintro e w4 ⟨rfl, hb⟩; have HS4 := Lib.hid (HSB.out _ w4 HS3.out hb); obtain ⟨r0, r1, r2, r3, r4, r5⟩ := HSx w4 HS4.out; clear hb)
    go_ret2
    exact ⟨by rw [HB.out]; rfl, HFIN.out _ HS4.out⟩
  · have HB := Lib.hid (show treeR g t = (0, 70) by rw [treeR, ← HK.out, if_pos ⟨rfl, hr⟩])
    have hne : (t.kind != g.root) = true := by simp [hr]
    clear hr
    go_wp2_with fail
    go_ret2
    exact ⟨by rw [HB.out]; rfl, HFIN.out _ HS3.out⟩
end Go.Proofs.Ytfdcopegkhofnaa
