/-
  ConformTells: the program and the document say the same of any grammar and any tree. No condition but the bounds of texts and ids that a host keeps.
-/
import Derived.Test.YtmfpilacmafglaaVRTree
import Derived.Test.YtmfpilacmafglaaVOpen
namespace Go.Proofs.Ytmfpilacmafglaa
open Go.RowKit Go.Shelf
attribute [local go_sem] Oper.semAt_some
set_option linter.unusedVariables false
set_option linter.unusedSimpArgs false

set_option maxRecDepth 100000 in
set_option maxHeartbeats 8000000 in
theorem tells_any (w : World) (S : Nat → Prop) (gv nv : Value) (g : Gr) (t : Tr) (hg : GrV w gv g) (hfg : g.fits) (hS : ∀ x, S x → x < w.heap.size) (ht : TrAt w S nv t) (hlen : foLen t.kids ≤ 9223372036854775807) (hfit : foFit t.kids) (hok : okF (spF 1 (rootF t))) :
    Calls Try.prog 6 #[gv, nv] w (Says true w) := by
  obtain ⟨ga, gc, rfl, hgk⟩ := hg
  obtain ⟨ka, cap, rfl, hcap, hk⟩ := ht
  obtain ⟨n, hn⟩ : ∃ n, n = foLen t.kids := ⟨_, rfl⟩
  obtain ⟨gn, hgn⟩ : ∃ gn, gn = g.kinds.length := ⟨_, rfl⟩
  rw [← hn, ← hgn]
  have kx : ((w.alloc (.cells #[.slice ga gn gc, .int .i64 g.root] 55)).alloc (.cells #[.int .i64 t.id, .int .i64 t.kind, .string t.text, .slice ka n cap] 24)).heap[w.heap.size]? = _ := allocs_at [.cells #[.slice ga gn gc, .int .i64 g.root] 55, .cells #[.int .i64 t.id, .int .i64 t.kind, .string t.text, .slice ka n cap] 24] w 0 _ rfl
  have ky : ((w.alloc (.cells #[.slice ga gn gc, .int .i64 g.root] 55)).alloc (.cells #[.int .i64 t.id, .int .i64 t.kind, .string t.text, .slice ka n cap] 24)).heap[w.heap.size + 1]? = _ := allocs_at [.cells #[.slice ga gn gc, .int .i64 g.root] 55, .cells #[.int .i64 t.id, .int .i64 t.kind, .string t.text, .slice ka n cap] 24] w 1 _ rfl
  have hab : Below w.heap.size w ((w.alloc (.cells #[.slice ga gn gc, .int .i64 g.root] 55)).alloc (.cells #[.int .i64 t.id, .int .i64 t.kind, .string t.text, .slice ka n cap] 24)) := allocs_below [.cells #[.slice ga gn gc, .int .i64 g.root] 55, .cells #[.int .i64 t.id, .int .i64 t.kind, .string t.text, .slice ka n cap] 24] w
  obtain ⟨SX, hSX⟩ : ∃ SX : World → Prop, SX = fun X => Below (w.heap.size + 2) ((w.alloc (.cells #[.slice ga gn gc, .int .i64 g.root] 55)).alloc (.cells #[.int .i64 t.id, .int .i64 t.kind, .string t.text, .slice ka n cap] 24)) X := ⟨_, rfl⟩
  have HSx : ∀ X, SX X → X.cell? ⟨w.heap.size, 0, none⟩ = some (.slice ga gn gc) ∧ X.cell? ⟨w.heap.size, 1, none⟩ = some (.int .i64 g.root) ∧ X.cell? ⟨w.heap.size + 1, 0, none⟩ = some (.int .i64 t.id) ∧ X.cell? ⟨w.heap.size + 1, 1, none⟩ = some (.int .i64 t.kind) ∧ X.cell? ⟨w.heap.size + 1, 2, none⟩ = some (.string t.text) ∧ X.cell? ⟨w.heap.size + 1, 3, none⟩ = some (.slice ka n cap) := fun X h => by
    rw [hSX] at h
    obtain ⟨a0, a1⟩ := boxG ((h.block _ (by omega)).trans kx)
    obtain ⟨b0, b1, b2, b3⟩ := boxN ((h.block _ (by omega)).trans ky)
    exact ⟨a0, a1, b0, b1, b2, b3⟩
  have HS := Lib.hid (show SX ((w.alloc (.cells #[.slice ga gn gc, .int .i64 g.root] 55)).alloc (.cells #[.int .i64 t.id, .int .i64 t.kind, .string t.text, .slice ka n cap] 24)) by rw [hSX]; exact Below.refl _ _)
  have HSB := Lib.hid (fun (X Y : World) (h : SX X) (hb : Below X.heap.size X Y) => (show SX Y by rw [hSX] at h ⊢; exact h.trans (hb.mono (by have := h.size; simp at this; omega))))
  have hwX : ∀ X, SX X → Below w.heap.size w X := fun X h => by rw [hSX] at h; exact hab.trans (h.mono (by omega))
  have hgX : ∀ X, SX X → GrV X (.agg #[.slice ga gn gc, .int .i64 g.root]) g := fun X h => ⟨ga, gc, by rw [hgn], hgk.below (hwX X h)⟩
  have htX : ∀ X, SX X → TrAt X S (.agg #[.int .i64 t.id, .int .i64 t.kind, .string t.text, .slice ka n cap]) t := fun X h => ⟨ka, cap, by rw [hn], hcap, hk.below (hwX X h) hS⟩
  have hSXl : ∀ X, SX X → ∀ y, S y → y < X.heap.size := fun X h y hy => Nat.lt_of_lt_of_le (hS y hy) (hwX X h).size
  have HFIN := Lib.hid hwX
  have HG5 : Hid (∀ X, SX X → Calls Try.prog 25 #[.agg #[.slice ga gn gc, .int .i64 g.root]] X (Says (greatG g) X)) := Lib.hid fun X h => great_any X _ g (hgX X h) hfg
  have HG3 : Hid (∀ X, SX X → Calls Try.prog 9 #[.agg #[.int .i64 t.id, .int .i64 t.kind, .string t.text, .slice ka n cap]] X (GreatC3 X t)) := Lib.hid fun X h => great3_any X S _ t hlen hfit (hSXl X h) (htX X h)
  have HWK : Hid (∀ X, SX X → Calls Try.prog 39 #[] X (Says true X)) := Lib.hid fun X h => wakes7_any X
  obtain ⟨gb, hgb⟩ : ∃ gb, gb = greatG g := ⟨_, rfl⟩
  rw [← hgb] at HG5
  have HGB := Lib.hid hgb
  obtain ⟨⟨f1, f2⟩, hfr⟩ : ∃ p : Int × Int, p = treeR g t := ⟨_, rfl⟩
  obtain ⟨⟨f3, f4⟩, hfs⟩ : ∃ p : Int × Int, p = subR g t := ⟨_, rfl⟩
  obtain ⟨nb, hnb⟩ : ∃ nb, nb = nodeB g t := ⟨_, rfl⟩
  obtain ⟨kn, hkn⟩ : ∃ kn, kn = (kindsF t.kids).length := ⟨_, rfl⟩
  have HKL := Lib.hid hkn
  have HCALLS : Hid (g.few → foSize t.kids + 1 ≤ 250 → ∀ X, SX X → Calls Try.prog 40 #[.agg #[.slice ga gn gc, .int .i64 g.root], .agg #[.int .i64 t.id, .int .i64 t.kind, .string t.text, .slice ka n cap]] X (Says2 (f1, f2) X) ∧ Calls Try.prog 41 #[.agg #[.slice ga gn gc, .int .i64 g.root], .agg #[.int .i64 t.id, .int .i64 t.kind, .string t.text, .slice ka n cap]] X (Says2 (f1, f2) X) ∧ Calls Try.prog 42 #[.agg #[.slice ga gn gc, .int .i64 g.root], .agg #[.int .i64 t.id, .int .i64 t.kind, .string t.text, .slice ka n cap]] X (Says2 (f3, f4) X) ∧ Calls Try.prog 43 #[.agg #[.slice ga gn gc, .int .i64 g.root], .agg #[.int .i64 t.id, .int .i64 t.kind, .string t.text, .slice ka n cap]] X (Says2 (f3, f4) X) ∧ Calls Try.prog 44 #[.agg #[.slice ga gn gc, .int .i64 g.root], .agg #[.int .i64 t.id, .int .i64 t.kind, .string t.text, .slice ka n cap]] X (Says nb X) ∧ Calls Try.prog 45 #[.agg #[.slice ga gn gc, .int .i64 g.root], .agg #[.int .i64 t.id, .int .i64 t.kind, .string t.text, .slice ka n cap]] X (Says nb X) ∧ Calls Try.prog 46 #[.agg #[.int .i64 t.id, .int .i64 t.kind, .string t.text, .slice ka n cap]] X (KindsC X t.kids) ∧ Calls Try.prog 47 #[.agg #[.int .i64 t.id, .int .i64 t.kind, .string t.text, .slice ka n cap]] X (KindsC X t.kids)) := Lib.hid fun hf hsz X h => by
    have h1 := tree_any X S _ _ g t (hgX X h) hf (hSXl X h) (htX X h) (by omega) hok
    have h2 := rtree_any X S _ _ g t (hgX X h) hf (hSXl X h) (htX X h) hlen hfit (by omega) hok
    have h3 := sub_any X S _ _ g t (hgX X h) hf (hSXl X h) (htX X h) (by omega) hok
    have h4 := rsub_any X S _ _ g t (hgX X h) hf (hSXl X h) (htX X h) hlen hfit (by omega) hok
    have hl := foLen_le t.kids
    have hts := (hok (1, (t.id, t.kind, t.text), t.kids) (by simp [rootF, spF])).1
    have h5 := node_any X S _ g _ t (hgX X h) hf (hSXl X h) (htX X h) (by omega) hts
    have h6 := rnode_any X S _ g _ t (hgX X h) hf (hSXl X h) (htX X h) (by omega) hts
    have h7 := kinds_any X S _ t (hSXl X h) (htX X h) (by omega)
    have h8 := rkinds_any X S _ t (hSXl X h) (htX X h) (by omega)
    rw [← hfr] at h1 h2; rw [← hfs] at h3 h4; rw [← hnb] at h5 h6
    exact ⟨h1, h2, h3, h4, h5, h6, h7, h8⟩
  obtain ⟨p0, p1, p2, p3, p4, p5⟩ := HSx _ HS.out
  clear hS hcap hk hn hgn hfg hlen hfit hok kx ky hab hSX hwX hgX htX hSXl hfr hfs hnb hkn hgb
  refine (callsIn_wide (n := 8)).1 ?_
  refine callsIn_of_wp_marks Try.func6 rfl trivial ?_ rfl
  simp only [Try.ntmps6, List.size_toArray, List.length_cons, List.length_nil, Nat.reduceAdd, Nat.reduceSub, Array.replicate_succ, Array.replicate_zero, List.push_toArray, List.append_toArray, List.nil_append, List.cons_append]
  gi_wp2_with fail
  refine ⟨trivial, ?_⟩
  gi_at_call 25
  refine (callsIn_wide.2 (HG5.out _ HS.out)).mono ?_
  rintro e w2 ⟨rfl, hb⟩
  have HS2 := Lib.hid (HSB.out _ w2 HS.out hb)
  obtain ⟨q0, q1, q2, q3, q4, q5⟩ := HSx w2 HS2.out
  clear hb
  clear p0 p1 p2 p3 p4 p5
  cases gb
  case true =>
    gi_wp2_with fail
    refine ⟨trivial, ?_⟩
    gi_wp2_with fail
    refine ⟨trivial, ?_⟩
    gi_at_call 39
    refine (callsIn_wide.2 (HWK.out _ HS2.out)).mono ?_
    rintro e w3 ⟨rfl, hb⟩
    have HS3 := Lib.hid (HSB.out _ w3 HS2.out hb)
    obtain ⟨r0, r1, r2, r3, r4, r5⟩ := HSx w3 HS3.out
    clear hb
    gi_wp2_with fail
    exact ⟨_, results_tmp rfl _ _ _, rfl, HFIN.out _ HS3.out⟩
  have HFEW := Lib.hid (great_few HGB.out.symm).1
  gi_wp2_with fail
  refine ⟨trivial, ?_⟩
  gi_at_call 9
  refine (callsIn_wide.2 (HG3.out _ HS2.out)).mono ?_
  rintro e w3 ⟨b3, rfl, hb3, hb⟩
  have HS3 := Lib.hid (HSB.out _ w3 HS2.out hb)
  obtain ⟨r0, r1, r2, r3, r4, r5⟩ := HSx w3 HS3.out
  clear hb
  clear q0 q1 q2 q3 q4 q5
  cases b3
  case true =>
    clear hb3
    gi_wp2_with fail
    refine ⟨trivial, ?_⟩
    gi_at_call 39
    refine (callsIn_wide.2 (HWK.out _ HS3.out)).mono ?_
    rintro e w4 ⟨rfl, hb⟩
    have HS4 := Lib.hid (HSB.out _ w4 HS3.out hb)
    obtain ⟨p0, p1, p2, p3, p4, p5⟩ := HSx w4 HS4.out
    clear hb
    gi_wp2_with fail
    exact ⟨_, results_tmp rfl _ _ _, rfl, HFIN.out _ HS4.out⟩
  have HC := Lib.hid (HCALLS.out HFEW.out (hb3 rfl))
  have hkm : kn ≤ 250 := by rw [HKL.out, kindsF_length]; have h1 := foLen_le t.kids; have h2 := hb3 rfl; omega
  have HKM := Lib.hid hkm
  clear hb3 HCALLS hkm
  have HT1 := Lib.hid (fun X h => (HC.out X h).1)
  have HT2 := Lib.hid (fun X h => (HC.out X h).2.1)
  have HT3 := Lib.hid (fun X h => (HC.out X h).2.2.1)
  have HT4 := Lib.hid (fun X h => (HC.out X h).2.2.2.1)
  have HN1 := Lib.hid (fun X h => (HC.out X h).2.2.2.2.1)
  have HN2 := Lib.hid (fun X h => (HC.out X h).2.2.2.2.2.1)
  have HKA := Lib.hid (fun X h => (HC.out X h).2.2.2.2.2.2.1)
  have HKB := Lib.hid (fun X h => (HC.out X h).2.2.2.2.2.2.2)
  clear HC HG5 HG3
  gi_wp2_with fail
  refine ⟨trivial, ?_⟩
  gi_at_call 40
  refine (callsIn_wide.2 (HT1.out _ HS3.out)).mono ?_
  rintro e w4 ⟨rfl, hb⟩
  have HS4 := Lib.hid (HSB.out _ w4 HS3.out hb)
  obtain ⟨p0, p1, p2, p3, p4, p5⟩ := HSx w4 HS4.out
  clear hb
  clear r0 r1 r2 r3 r4 r5
  gi_wp2_with fail
  refine ⟨trivial, ?_⟩
  gi_at_call 41
  refine (callsIn_wide.2 (HT2.out _ HS4.out)).mono ?_
  rintro e w5 ⟨rfl, hb⟩
  have HS5 := Lib.hid (HSB.out _ w5 HS4.out hb)
  obtain ⟨q0, q1, q2, q3, q4, q5⟩ := HSx w5 HS5.out
  clear hb
  clear p0 p1 p2 p3 p4 p5
  gi_wp2_with fail
  refine ⟨trivial, ?_⟩
  gi_at_call 42
  refine (callsIn_wide.2 (HT3.out _ HS5.out)).mono ?_
  rintro e w6 ⟨rfl, hb⟩
  have HS6 := Lib.hid (HSB.out _ w6 HS5.out hb)
  obtain ⟨r0, r1, r2, r3, r4, r5⟩ := HSx w6 HS6.out
  clear hb
  clear q0 q1 q2 q3 q4 q5
  gi_wp2_with fail
  refine ⟨trivial, ?_⟩
  gi_at_call 43
  refine (callsIn_wide.2 (HT4.out _ HS6.out)).mono ?_
  rintro e w7 ⟨rfl, hb⟩
  have HS7 := Lib.hid (HSB.out _ w7 HS6.out hb)
  obtain ⟨p0, p1, p2, p3, p4, p5⟩ := HSx w7 HS7.out
  clear hb
  clear r0 r1 r2 r3 r4 r5
  gi_wp2_with fail
  refine region_calm (S := SX) (by kernel_rfl) ?_
  have HSD := Lib.hid (fun (X : World) (h : SX X) => HSB.out X X.drew h ⟨rfl, rfl, rfl, Nat.le_refl _, fun _ _ => rfl⟩)
  have hHeld := HSD.out _ HS7.out
  clear p0 p1 p2 p3 p4 p5
  refine anyIn_take (i := 0) (oi := _) (v := (.int .i64 f1)) rfl (by kernel_rfl) (by kernel_rfl) (by kernel_rfl) (fun _ _ _ h => by cases h.1) (Or.inl ⟨by rfl, ?_⟩) hHeld ?_
  · clear hHeld; intro X hSw; clear hSw; go_simp
  simp only [Act.put, List.getElem_toArray, List.getElem_cons_zero, List.getElem_cons_succ, List.setIfInBounds_toArray, List.set_cons_zero, List.set_cons_succ]
  refine anyIn_take (i := 1) (oi := _) (v := (.int .i64 f1)) rfl (by kernel_rfl) (by kernel_rfl) (by kernel_rfl) (fun _ _ _ h => by cases h.1) (Or.inl ⟨by rfl, ?_⟩) hHeld ?_
  · clear hHeld; intro X hSw; clear hSw; go_simp
  simp only [Act.put, List.getElem_toArray, List.getElem_cons_zero, List.getElem_cons_succ, List.setIfInBounds_toArray, List.set_cons_zero, List.set_cons_succ]
  refine anyIn_take (i := 2) (oi := _) (v := (.bool false)) rfl (by kernel_rfl) (by kernel_rfl) (by kernel_rfl) (fun _ _ _ h => by cases h.1) (Or.inl ⟨by rfl, ?_⟩) hHeld ?_
  · clear hHeld; intro X hSw; clear hSw; go_simp
  simp only [Act.put, List.getElem_toArray, List.getElem_cons_zero, List.getElem_cons_succ, List.setIfInBounds_toArray, List.set_cons_zero, List.set_cons_succ]
  refine anyIn_take (i := 3) (oi := _) (v := (.bool false)) rfl (by kernel_rfl) (by kernel_rfl) (by kernel_rfl) (fun _ _ _ h => by cases h.1) (Or.inl ⟨by rfl, ?_⟩) hHeld ?_
  · clear hHeld; intro X hSw; clear hSw; go_simp
  simp only [Act.put, List.getElem_toArray, List.getElem_cons_zero, List.getElem_cons_succ, List.setIfInBounds_toArray, List.set_cons_zero, List.set_cons_succ]
  refine anyIn_take (i := 4) (oi := _) (v := (.int .i64 f2)) rfl (by kernel_rfl) (by kernel_rfl) (by kernel_rfl) (fun _ _ _ h => by cases h.1) (Or.inl ⟨by rfl, ?_⟩) hHeld ?_
  · clear hHeld; intro X hSw; clear hSw; go_simp
  simp only [Act.put, List.getElem_toArray, List.getElem_cons_zero, List.getElem_cons_succ, List.setIfInBounds_toArray, List.set_cons_zero, List.set_cons_succ]
  refine anyIn_take (i := 5) (oi := _) (v := (.int .i64 f2)) rfl (by kernel_rfl) (by kernel_rfl) (by kernel_rfl) (fun _ _ _ h => by cases h.1) (Or.inl ⟨by rfl, ?_⟩) hHeld ?_
  · clear hHeld; intro X hSw; clear hSw; go_simp
  simp only [Act.put, List.getElem_toArray, List.getElem_cons_zero, List.getElem_cons_succ, List.setIfInBounds_toArray, List.set_cons_zero, List.set_cons_succ]
  refine anyIn_take (i := 6) (oi := _) (v := (.bool false)) rfl (by kernel_rfl) (by kernel_rfl) (by kernel_rfl) (fun _ _ _ h => by cases h.1) (Or.inl ⟨by rfl, ?_⟩) hHeld ?_
  · clear hHeld; intro X hSw; clear hSw; go_simp
  simp only [Act.put, List.getElem_toArray, List.getElem_cons_zero, List.getElem_cons_succ, List.setIfInBounds_toArray, List.set_cons_zero, List.set_cons_succ]
  refine anyIn_take (i := 7) (oi := _) (v := (.bool false)) rfl (by kernel_rfl) (by kernel_rfl) (by kernel_rfl) (fun _ _ _ h => by cases h.1) (Or.inl ⟨by rfl, ?_⟩) hHeld ?_
  · clear hHeld; intro X hSw; clear hSw; go_simp
  simp only [Act.put, List.getElem_toArray, List.getElem_cons_zero, List.getElem_cons_succ, List.setIfInBounds_toArray, List.set_cons_zero, List.set_cons_succ]
  refine anyIn_take (i := 8) (oi := _) (v := (.bool false)) rfl (by kernel_rfl) (by kernel_rfl) (by kernel_rfl) (fun _ _ _ h => by cases h.1) (Or.inl ⟨by rfl, ?_⟩) hHeld ?_
  · clear hHeld; intro X hSw; clear hSw; go_simp
  simp only [Act.put, List.getElem_toArray, List.getElem_cons_zero, List.getElem_cons_succ, List.setIfInBounds_toArray, List.set_cons_zero, List.set_cons_succ]
  refine anyIn_take (i := 9) (oi := _) (v := (.int .i64 f3)) rfl (by kernel_rfl) (by kernel_rfl) (by kernel_rfl) (fun _ _ _ h => by cases h.1) (Or.inl ⟨by rfl, ?_⟩) hHeld ?_
  · clear hHeld; intro X hSw; clear hSw; go_simp
  simp only [Act.put, List.getElem_toArray, List.getElem_cons_zero, List.getElem_cons_succ, List.setIfInBounds_toArray, List.set_cons_zero, List.set_cons_succ]
  refine anyIn_take (i := 10) (oi := _) (v := (.int .i64 f3)) rfl (by kernel_rfl) (by kernel_rfl) (by kernel_rfl) (fun _ _ _ h => by cases h.1) (Or.inl ⟨by rfl, ?_⟩) hHeld ?_
  · clear hHeld; intro X hSw; clear hSw; go_simp
  simp only [Act.put, List.getElem_toArray, List.getElem_cons_zero, List.getElem_cons_succ, List.setIfInBounds_toArray, List.set_cons_zero, List.set_cons_succ]
  refine anyIn_take (i := 11) (oi := _) (v := (.bool false)) rfl (by kernel_rfl) (by kernel_rfl) (by kernel_rfl) (fun _ _ _ h => by cases h.1) (Or.inl ⟨by rfl, ?_⟩) hHeld ?_
  · clear hHeld; intro X hSw; clear hSw; go_simp
  simp only [Act.put, List.getElem_toArray, List.getElem_cons_zero, List.getElem_cons_succ, List.setIfInBounds_toArray, List.set_cons_zero, List.set_cons_succ]
  refine anyIn_take (i := 12) (oi := _) (v := (.bool false)) rfl (by kernel_rfl) (by kernel_rfl) (by kernel_rfl) (fun _ _ _ h => by cases h.1) (Or.inl ⟨by rfl, ?_⟩) hHeld ?_
  · clear hHeld; intro X hSw; clear hSw; go_simp
  simp only [Act.put, List.getElem_toArray, List.getElem_cons_zero, List.getElem_cons_succ, List.setIfInBounds_toArray, List.set_cons_zero, List.set_cons_succ]
  refine anyIn_take (i := 13) (oi := _) (v := (.bool false)) rfl (by kernel_rfl) (by kernel_rfl) (by kernel_rfl) (fun _ _ _ h => by cases h.1) (Or.inl ⟨by rfl, ?_⟩) hHeld ?_
  · clear hHeld; intro X hSw; clear hSw; go_simp
  simp only [Act.put, List.getElem_toArray, List.getElem_cons_zero, List.getElem_cons_succ, List.setIfInBounds_toArray, List.set_cons_zero, List.set_cons_succ]
  refine anyIn_take (i := 14) (oi := _) (v := (.int .i64 f4)) rfl (by kernel_rfl) (by kernel_rfl) (by kernel_rfl) (fun _ _ _ h => by cases h.1) (Or.inl ⟨by rfl, ?_⟩) hHeld ?_
  · clear hHeld; intro X hSw; clear hSw; go_simp
  simp only [Act.put, List.getElem_toArray, List.getElem_cons_zero, List.getElem_cons_succ, List.setIfInBounds_toArray, List.set_cons_zero, List.set_cons_succ]
  refine anyIn_take (i := 15) (oi := _) (v := (.int .i64 f4)) rfl (by kernel_rfl) (by kernel_rfl) (by kernel_rfl) (fun _ _ _ h => by cases h.1) (Or.inl ⟨by rfl, ?_⟩) hHeld ?_
  · clear hHeld; intro X hSw; clear hSw; go_simp
  simp only [Act.put, List.getElem_toArray, List.getElem_cons_zero, List.getElem_cons_succ, List.setIfInBounds_toArray, List.set_cons_zero, List.set_cons_succ]
  refine anyIn_take (i := 16) (oi := _) (v := (.bool false)) rfl (by kernel_rfl) (by kernel_rfl) (by kernel_rfl) (fun _ _ _ h => by cases h.1) (Or.inl ⟨by rfl, ?_⟩) hHeld ?_
  · clear hHeld; intro X hSw; clear hSw; go_simp
  simp only [Act.put, List.getElem_toArray, List.getElem_cons_zero, List.getElem_cons_succ, List.setIfInBounds_toArray, List.set_cons_zero, List.set_cons_succ]
  refine anyIn_take (i := 17) (oi := _) (v := (.bool false)) rfl (by kernel_rfl) (by kernel_rfl) (by kernel_rfl) (fun _ _ _ h => by cases h.1) (Or.inl ⟨by rfl, ?_⟩) hHeld ?_
  · clear hHeld; intro X hSw; clear hSw; go_simp
  simp only [Act.put, List.getElem_toArray, List.getElem_cons_zero, List.getElem_cons_succ, List.setIfInBounds_toArray, List.set_cons_zero, List.set_cons_succ]
  refine anyIn_take (i := 18) (oi := _) (v := (.bool false)) rfl (by kernel_rfl) (by kernel_rfl) (by kernel_rfl) (fun _ _ _ h => by cases h.1) (Or.inl ⟨by rfl, ?_⟩) hHeld ?_
  · clear hHeld; intro X hSw; clear hSw; go_simp
  simp only [Act.put, List.getElem_toArray, List.getElem_cons_zero, List.getElem_cons_succ, List.setIfInBounds_toArray, List.set_cons_zero, List.set_cons_succ]
  refine anyIn_take (i := 19) (oi := _) (v := (.agg #[.slice ga gn gc, .int .i64 g.root])) rfl (by kernel_rfl) (by kernel_rfl) (by kernel_rfl) (fun _ _ _ h => by cases h.1) (Or.inl ⟨by rfl, ?_⟩) hHeld ?_
  · clear hHeld; intro X hSw; obtain ⟨s0, s1, s2, s3, s4, s5⟩ := HSx X hSw; clear hSw; go_simp
  simp only [Act.put, List.getElem_toArray, List.getElem_cons_zero, List.getElem_cons_succ, List.setIfInBounds_toArray, List.set_cons_zero, List.set_cons_succ]
  refine anyIn_take (i := 20) (oi := _) (v := (.agg #[.int .i64 t.id, .int .i64 t.kind, .string t.text, .slice ka n cap])) rfl (by kernel_rfl) (by kernel_rfl) (by kernel_rfl) (fun _ _ _ h => by cases h.1) (Or.inl ⟨by rfl, ?_⟩) hHeld ?_
  · clear hHeld; intro X hSw; obtain ⟨s0, s1, s2, s3, s4, s5⟩ := HSx X hSw; clear hSw; go_simp
  simp only [Act.put, List.getElem_toArray, List.getElem_cons_zero, List.getElem_cons_succ, List.setIfInBounds_toArray, List.set_cons_zero, List.set_cons_succ]
  refine anyIn_take (i := 22) (oi := _) (v := (.agg #[.slice ga gn gc, .int .i64 g.root])) rfl (by kernel_rfl) (by kernel_rfl) (by kernel_rfl) (fun _ _ _ h => by cases h.1) (Or.inl ⟨by rfl, ?_⟩) hHeld ?_
  · clear hHeld; intro X hSw; obtain ⟨s0, s1, s2, s3, s4, s5⟩ := HSx X hSw; clear hSw; go_simp
  simp only [Act.put, List.getElem_toArray, List.getElem_cons_zero, List.getElem_cons_succ, List.setIfInBounds_toArray, List.set_cons_zero, List.set_cons_succ]
  refine anyIn_take (i := 23) (oi := _) (v := (.agg #[.int .i64 t.id, .int .i64 t.kind, .string t.text, .slice ka n cap])) rfl (by kernel_rfl) (by kernel_rfl) (by kernel_rfl) (fun _ _ _ h => by cases h.1) (Or.inl ⟨by rfl, ?_⟩) hHeld ?_
  · clear hHeld; intro X hSw; obtain ⟨s0, s1, s2, s3, s4, s5⟩ := HSx X hSw; clear hSw; go_simp
  simp only [Act.put, List.getElem_toArray, List.getElem_cons_zero, List.getElem_cons_succ, List.setIfInBounds_toArray, List.set_cons_zero, List.set_cons_succ]
  refine anyIn_one (i := 21) (o := _) (by kernel_rfl) rfl fun K21 hK21 => ?_
  rw [if_pos (by rfl)]
  simp only [List.getElem_toArray, List.getElem_cons_zero, List.getElem_cons_succ]
  have HK21 := Lib.hid hK21
  have HH21 := Lib.hid hHeld
  clear hK21 hHeld
  gi_wp2_with (refine ⟨trivial, ?_⟩; gi_at_call 44; refine (callsIn_wide.2 (HN1.out _ HH21.out)).mono ?_; rintro e X21 ⟨rfl, hb⟩; have HX21 := Lib.hid hb; clear hb)
  have hHeld := HSB.out _ X21 HH21.out HX21.out
  refine HK21.out _ _ hHeld ?_
  clear HK21
  refine anyIn_one (i := 24) (o := _) (by kernel_rfl) rfl fun K24 hK24 => ?_
  rw [if_pos (by rfl)]
  simp only [List.getElem_toArray, List.getElem_cons_zero, List.getElem_cons_succ]
  have HK24 := Lib.hid hK24
  have HH24 := Lib.hid hHeld
  clear hK24 hHeld
  gi_wp2_with (refine ⟨trivial, ?_⟩; gi_at_call 45; refine (callsIn_wide.2 (HN2.out _ HH24.out)).mono ?_; rintro e X24 ⟨rfl, hb⟩; have HX24 := Lib.hid hb; clear hb)
  have hHeld := HSB.out _ X24 HH24.out HX24.out
  refine HK24.out _ _ hHeld ?_
  clear HK24
  refine anyIn_take (i := 25) (oi := _) (v := (.bool false)) rfl (by kernel_rfl) (by kernel_rfl) (by kernel_rfl) (fun _ _ _ h => by cases h.1) (Or.inl ⟨by rfl, ?_⟩) hHeld ?_
  · clear hHeld; intro X hSw; clear hSw; go_simp
  simp only [Act.put, List.getElem_toArray, List.getElem_cons_zero, List.getElem_cons_succ, List.setIfInBounds_toArray, List.set_cons_zero, List.set_cons_succ]
  refine anyIn_take (i := 26) (oi := _) (v := (.bool false)) rfl (by kernel_rfl) (by kernel_rfl) (by kernel_rfl) (fun _ _ _ h => by cases h.1) (Or.inl ⟨by rfl, ?_⟩) hHeld ?_
  · clear hHeld; intro X hSw; clear hSw; go_simp
  simp only [Act.put, List.getElem_toArray, List.getElem_cons_zero, List.getElem_cons_succ, List.setIfInBounds_toArray, List.set_cons_zero, List.set_cons_succ]
  refine anyIn_done (by kernel_rfl) ⟨rfl, ?_⟩ _
  have HS8 := Lib.hid hHeld
  clear hHeld HX21 HX24 HH21 HH24
  gi_wp2_with fail
  refine region_calm (S := SX) (by kernel_rfl) ?_
  have hHeld := HSD.out _ HS8.out
  refine anyIn_take (i := 0) (oi := _) (v := (.agg #[.int .i64 t.id, .int .i64 t.kind, .string t.text, .slice ka n cap])) rfl (by kernel_rfl) (by kernel_rfl) (by kernel_rfl) (fun _ _ _ h => by cases h.1) (Or.inl ⟨by rfl, ?_⟩) hHeld ?_
  · clear hHeld; intro X hSw; obtain ⟨s0, s1, s2, s3, s4, s5⟩ := HSx X hSw; clear hSw; go_simp
  simp only [Act.put, List.getElem_toArray, List.getElem_cons_zero, List.getElem_cons_succ, List.setIfInBounds_toArray, List.set_cons_zero, List.set_cons_succ]
  refine anyIn_take (i := 2) (oi := _) (v := (.agg #[.int .i64 t.id, .int .i64 t.kind, .string t.text, .slice ka n cap])) rfl (by kernel_rfl) (by kernel_rfl) (by kernel_rfl) (fun _ _ _ h => by cases h.1) (Or.inl ⟨by rfl, ?_⟩) hHeld ?_
  · clear hHeld; intro X hSw; obtain ⟨s0, s1, s2, s3, s4, s5⟩ := HSx X hSw; clear hSw; go_simp
  simp only [Act.put, List.getElem_toArray, List.getElem_cons_zero, List.getElem_cons_succ, List.setIfInBounds_toArray, List.set_cons_zero, List.set_cons_succ]
  refine anyIn_one (i := 1) (o := _) (by kernel_rfl) rfl fun K1 hK1 => ?_
  rw [if_pos (by rfl)]
  simp only [List.getElem_toArray, List.getElem_cons_zero, List.getElem_cons_succ]
  have HK1 := Lib.hid hK1
  have HH1 := Lib.hid hHeld
  clear hK1 hHeld
  gi_wp2_with (refine ⟨trivial, ?_⟩; gi_at_call 46; refine (callsIn_wide.2 (HKA.out _ HH1.out)).mono ?_; rintro e X1 ⟨xa, xc, rfl, hxi, hb⟩; rw [← HKL.out]; have HX1 := Lib.hid (And.intro hxi hb); clear hxi hb)
  have hHeld := HSB.out _ X1 HH1.out HX1.out.2
  refine HK1.out _ _ hHeld ?_
  clear HK1
  refine anyIn_one (i := 3) (o := _) (by kernel_rfl) rfl fun K3 hK3 => ?_
  rw [if_pos (by rfl)]
  simp only [List.getElem_toArray, List.getElem_cons_zero, List.getElem_cons_succ]
  have HK3 := Lib.hid hK3
  have HH3 := Lib.hid hHeld
  clear hK3 hHeld
  gi_wp2_with (refine ⟨trivial, ?_⟩; gi_at_call 47; refine (callsIn_wide.2 (HKB.out _ HH3.out)).mono ?_; rintro e X3 ⟨ya, yc, rfl, hyi, hb⟩; rw [← HKL.out]; have HX3 := Lib.hid (And.intro hyi hb); clear hyi hb)
  have hHeld := HSB.out _ X3 HH3.out HX3.out.2
  refine HK3.out _ _ hHeld ?_
  clear HK3
  refine anyIn_take (i := 4) (oi := _) (v := (.slice xa kn xc)) rfl (by kernel_rfl) (by kernel_rfl) (by kernel_rfl) (fun _ _ _ h => by cases h.1) (Or.inl ⟨by rfl, ?_⟩) hHeld ?_
  · clear hHeld; intro X hSw; clear hSw; go_simp
  simp only [Act.put, List.getElem_toArray, List.getElem_cons_zero, List.getElem_cons_succ, List.setIfInBounds_toArray, List.set_cons_zero, List.set_cons_succ]
  refine anyIn_take (i := 5) (oi := _) (v := (.slice ya kn yc)) rfl (by kernel_rfl) (by kernel_rfl) (by kernel_rfl) (fun _ _ _ h => by cases h.1) (Or.inl ⟨by rfl, ?_⟩) hHeld ?_
  · clear hHeld; intro X hSw; clear hSw; go_simp
  simp only [Act.put, List.getElem_toArray, List.getElem_cons_zero, List.getElem_cons_succ, List.setIfInBounds_toArray, List.set_cons_zero, List.set_cons_succ]
  refine anyIn_done (by kernel_rfl) ⟨rfl, ?_⟩ _
  have HS9 := Lib.hid hHeld
  have HI := Lib.hid (And.intro (HX1.out.1.below HX3.out.2) HX3.out.1)
  clear hHeld HX1 HX3 HH1 HH3 HSx
  gi_wp2_with fail
  gi_loopw [15, 85] (fun _ i wr => ∃ j : Nat, j ≤ kn ∧ i = .int .i64 (j : Int) ∧ Hid (Below X3.heap.size X3 wr)) (fun _ i _ => kn - (intOf i).toNat)
  case atStart => exact ⟨0, Nat.zero_le _, rfl, Lib.hid (Below.refl _ _)⟩
  case round =>
    obtain ⟨j, hj, rfl, hr⟩ := hrel
    by_cases hlt : j < kn
    · obtain ⟨xb, xo, rfl, hxb, hxc⟩ := HI.out.1 (by rw [← HKL.out]; omega)
      obtain ⟨yb, yo, rfl, hyb, hyc⟩ := HI.out.2 (by rw [← HKL.out]; omega)
      obtain ⟨z, hz⟩ : ∃ z, (kindsF t.kids)[j]? = some z := ⟨_, List.getElem?_eq_getElem (by rw [← HKL.out]; exact hlt)⟩
      have z1 := hxc j z hz
      have z2 := hyc j z hz
      have HJx := Lib.hid (fun (X : World) (h : Below X3.heap.size X3 X) => (show X.cell? ⟨xb, xo + j, none⟩ = some (.int .i64 z) ∧ X.cell? ⟨yb, yo + j, none⟩ = some (.int .i64 z) from ⟨(h.cell (p := ⟨xb, xo + j, none⟩) hxb).trans z1, (h.cell (p := ⟨yb, yo + j, none⟩) hyb).trans z2⟩))
      have hjl : (j : Int) < (kn : Int) := by omega
      have HLT := Lib.hid hlt
      have hkm := HKM.out
      have hHeld : Below X3.heap.size X3 wr.drew := below_drewN hr.out 1
      clear hr hz z1 z2 hxc hyc hxb hyb hlt hj
      gi_wp2_with fail
      refine region_calm (S := fun X => Below X3.heap.size X3 X) (by kernel_rfl) ?_
      refine anyIn_take (i := 0) (oi := _) (v := (.slice (some ⟨xb, xo, none⟩) kn xc)) rfl (by kernel_rfl) (by kernel_rfl) (by kernel_rfl) (fun _ _ _ h => by cases h.1) (Or.inl ⟨by rfl, ?_⟩) hHeld ?_
      · clear hHeld; intro X hSw; clear hSw; go_simp
      simp only [Act.put, List.getElem_toArray, List.getElem_cons_zero, List.getElem_cons_succ, List.setIfInBounds_toArray, List.set_cons_zero, List.set_cons_succ]
      refine anyIn_take (i := 1) (oi := _) (v := (.int .i64 (j : Int))) rfl (by kernel_rfl) (by kernel_rfl) (by kernel_rfl) (fun _ _ _ h => by cases h.1) (Or.inl ⟨by rfl, ?_⟩) hHeld ?_
      · clear hHeld; intro X hSw; clear hSw; go_simp
      simp only [Act.put, List.getElem_toArray, List.getElem_cons_zero, List.getElem_cons_succ, List.setIfInBounds_toArray, List.set_cons_zero, List.set_cons_succ]
      refine anyIn_take (i := 2) (oi := _) (v := (.pointer (some ⟨xb, xo + j, none⟩))) rfl (by kernel_rfl) (by kernel_rfl) (by kernel_rfl) (fun _ _ _ h => by cases h.1) (Or.inl ⟨by rfl, ?_⟩) hHeld ?_
      · clear hHeld; intro X hSw; clear hSw; go_simp
      simp only [Act.put, List.getElem_toArray, List.getElem_cons_zero, List.getElem_cons_succ, List.setIfInBounds_toArray, List.set_cons_zero, List.set_cons_succ]
      refine anyIn_take (i := 3) (oi := _) (v := (.int .i64 z)) rfl (by kernel_rfl) (by kernel_rfl) (by kernel_rfl) (fun _ _ _ h => by cases h.1) (Or.inl ⟨by rfl, ?_⟩) hHeld ?_
      · clear hHeld; intro X hSw; obtain ⟨s0, s1⟩ := HJx.out X hSw; clear hSw; go_simp
      simp only [Act.put, List.getElem_toArray, List.getElem_cons_zero, List.getElem_cons_succ, List.setIfInBounds_toArray, List.set_cons_zero, List.set_cons_succ]
      refine anyIn_take (i := 4) (oi := _) (v := (.slice (some ⟨yb, yo, none⟩) kn yc)) rfl (by kernel_rfl) (by kernel_rfl) (by kernel_rfl) (fun _ _ _ h => by cases h.1) (Or.inl ⟨by rfl, ?_⟩) hHeld ?_
      · clear hHeld; intro X hSw; clear hSw; go_simp
      simp only [Act.put, List.getElem_toArray, List.getElem_cons_zero, List.getElem_cons_succ, List.setIfInBounds_toArray, List.set_cons_zero, List.set_cons_succ]
      refine anyIn_take (i := 5) (oi := _) (v := (.int .i64 (j : Int))) rfl (by kernel_rfl) (by kernel_rfl) (by kernel_rfl) (fun _ _ _ h => by cases h.1) (Or.inl ⟨by rfl, ?_⟩) hHeld ?_
      · clear hHeld; intro X hSw; clear hSw; go_simp
      simp only [Act.put, List.getElem_toArray, List.getElem_cons_zero, List.getElem_cons_succ, List.setIfInBounds_toArray, List.set_cons_zero, List.set_cons_succ]
      refine anyIn_take (i := 6) (oi := _) (v := (.pointer (some ⟨yb, yo + j, none⟩))) rfl (by kernel_rfl) (by kernel_rfl) (by kernel_rfl) (fun _ _ _ h => by cases h.1) (Or.inl ⟨by rfl, ?_⟩) hHeld ?_
      · clear hHeld; intro X hSw; clear hSw; go_simp
      simp only [Act.put, List.getElem_toArray, List.getElem_cons_zero, List.getElem_cons_succ, List.setIfInBounds_toArray, List.set_cons_zero, List.set_cons_succ]
      refine anyIn_take (i := 7) (oi := _) (v := (.int .i64 z)) rfl (by kernel_rfl) (by kernel_rfl) (by kernel_rfl) (fun _ _ _ h => by cases h.1) (Or.inl ⟨by rfl, ?_⟩) hHeld ?_
      · clear hHeld; intro X hSw; obtain ⟨s0, s1⟩ := HJx.out X hSw; clear hSw; go_simp
      simp only [Act.put, List.getElem_toArray, List.getElem_cons_zero, List.getElem_cons_succ, List.setIfInBounds_toArray, List.set_cons_zero, List.set_cons_succ]
      refine anyIn_take (i := 8) (oi := _) (v := (.bool false)) rfl (by kernel_rfl) (by kernel_rfl) (by kernel_rfl) (fun _ _ _ h => by cases h.1) (Or.inl ⟨by rfl, ?_⟩) hHeld ?_
      · clear hHeld; intro X hSw; clear hSw; go_simp
      simp only [Act.put, List.getElem_toArray, List.getElem_cons_zero, List.getElem_cons_succ, List.setIfInBounds_toArray, List.set_cons_zero, List.set_cons_succ]
      refine anyIn_done (by kernel_rfl) ⟨rfl, ?_⟩ _
      have HR := Lib.hid hHeld
      clear hHeld HJx
      gi_wp2_with fail
      exact ⟨⟨j + 1, HLT.out, by go_num, HR⟩, by have := HLT.out; simp [intOf]; omega⟩
    · have hjl : ¬ (j : Int) < (kn : Int) := by omega
      have HS10 := Lib.hid (HSB.out _ _ HS9.out hr.out)
      clear hr hlt hj
      gi_wp2_with fail
      refine ⟨trivial, ?_⟩
      gi_at_call 39
      refine (callsIn_wide.2 (HWK.out _ HS10.out)).mono ?_
      rintro e w11 ⟨rfl, hb⟩
      have HS11 := Lib.hid (HSB.out _ w11 HS10.out hb)
      clear hb
      gi_wp2_with fail
      exact ⟨_, results_tmp rfl _ _ _, rfl, HFIN.out _ HS11.out⟩
theorem tells_fr (w : World) (gv : Value) (g : Gr) (nv : Value) (t : Tr) (hg : GrV w gv g) (hfg : g.fits) (ht : TrAt w (Old w) nv t) (hft : Fits t) : Calls Try.prog 6 #[gv, nv] w (Says true w) :=
  tells_any w (Old w) gv nv g t hg hfg (fun _ h => h) ht hft.1 hft.2.1 (okF_of 1 (rootF t) ⟨hft.2.2.1, hft.2.2.2, True.intro⟩)
end Go.Proofs.Ytmfpilacmafglaa
