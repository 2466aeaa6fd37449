/-
  put: a tree with another in the place of the k-th node of its walk: the whole function. No condition but that there are not too many nodes.
-/
import Derived.Test.YtmfpilacmafglaaVPut
namespace Go.Proofs.Ytmfpilacmafglaa
open Go.RowKit Go.Shelf
attribute [local go_sem] Oper.semAt_some
set_option linter.unusedVariables false
set_option linter.unusedSimpArgs false

section
variable {n : Nat} {P : Program}
/-- Two may come up. -/
theorem anyIn_two {ops : Array Oper} {Q : Exit → Act → World → Prop} {md : Region.Mode} {S : World → Prop} {i j : Nat} {o o' : Oper} {fuel : Nat} {listed : Array Bool} {a : Act} {w : World} (hr : Region.ready md ops listed = [i, j]) (ho : ops[i]? = some o) (ho' : ops[j]? = some o')
    (h : ∀ K : Act → World → Prop, (∀ a' w', S w' → AnyIn n P md ops Q S fuel (listed.setIfInBounds i true) a' w' → K a' w') → if Region.wanted o (yielded ops a.tmps) = true then Oper.wpIn Fence.wide n P o a w K Q else K (a.put o.dst undef) w)
    (h' : ∀ K : Act → World → Prop, (∀ a' w', S w' → AnyIn n P md ops Q S fuel (listed.setIfInBounds j true) a' w' → K a' w') → if Region.wanted o' (yielded ops a.tmps) = true then Oper.wpIn Fence.wide n P o' a w K Q else K (a.put o'.dst undef) w) : AnyIn n P md ops Q S (fuel + 1) listed a w := by
  have one : ∀ (k : Nat) (o : Oper), ops[k]? = some o → (∀ K : Act → World → Prop, (∀ a' w', S w' → AnyIn n P md ops Q S fuel (listed.setIfInBounds k true) a' w' → K a' w') → if Region.wanted o (yielded ops a.tmps) = true then Oper.wpIn Fence.wide n P o a w K Q else K (a.put o.dst undef) w) → wpOpIn Fence.wide n P ops Q k (fun a' w' => S w' ∧ AnyIn n P md ops Q S fuel (listed.setIfInBounds k true) a' w') a w := fun k o ho h => by
    unfold wpOpIn
    rw [ho]
    have := h (fun a' w' => S w' ∧ AnyIn n P md ops Q S fuel (listed.setIfInBounds k true) a' w') (fun a' w' h1 h2 => ⟨h1, h2⟩)
    show if Region.wanted o (yielded ops a.tmps) = true then _ else _
    split
    · rename_i hw; rw [if_pos hw] at this; exact this
    · rename_i hw; rw [if_neg hw] at this; exact ⟨fun _ _ => trivial, this⟩
  refine ⟨fun h0 => (by rw [hr] at h0; cases h0), fun k hk => ?_⟩
  rw [hr] at hk
  simp only [List.mem_cons, List.not_mem_nil, or_false] at hk
  rcases hk with rfl | rfl
  · exact one _ _ ho h
  · exact one _ _ ho' h'
end
theorem Try.infoNode7 : (Try.prog.info? 24).map (fun i => (i.size, i.bytes, i.zero.map (fun z => z.cells.size))) = some (4, 56, some 4) := by kernel_rfl
set_option maxRecDepth 100000 in
set_option maxHeartbeats 8000000 in
theorem put_any (nb k : Nat) (x : Tr) (xv : Value) : ∀ (m : Nat) (w : World) (S : Nat → Prop) (tv : Value) (t : Tr) (N : Nat), foSize t.kids < m → N + foSize t.kids + 1 ≤ 1000 → (∀ y, S y → y < w.heap.size ∧ y ≠ nb) → TrAt w S tv t → TrAt w S xv x → w.heap[nb]? = some (.cells #[.int .i64 (N : Int)] 3 (0, 0)) →
    Calls Try.prog 48 #[tv, xv, .int .i64 (k : Int), .pointer (some ⟨nb, 0, none⟩)] w (PutC w S nb x k N t) := by
  intro m
  induction m with
  | zero => intro w S tv t N h; omega
  | succ m ih =>
    intro w S tv t N hm hN hS ht hx hnb
    by_cases hNk : N = k
    · exact put_here w S tv xv t x nb k N hS ht hx hnb (by omega) hNk
    have HX := Lib.hid hx
    obtain ⟨ka, cap, rfl, hcap, hkt⟩ := ht
    obtain ⟨xa, xc, rfl, hxcap, hxt⟩ := hx
    obtain ⟨n, hn⟩ : ∃ n, n = foLen t.kids := ⟨_, rfl⟩
    obtain ⟨xn, hxn⟩ : ∃ xn, xn = foLen x.kids := ⟨_, rfl⟩
    have hn6 : n ≤ 1000 := by have := foLen_le t.kids; omega
    have hN6 : N ≤ 1000 := by omega
    rw [← hn, ← hxn]
    rw [← hxn] at ih HX
    obtain ⟨c0, f0, _⟩ := put_start (t := t) (x := x) (ka := ka) (xa := xa) (n := n) (cap := cap) (xn := xn) (xc := xc) hnb
    obtain ⟨_, _, a0, a1, a2, a3, _, hsz⟩ := put_start (t := t) (x := x) (ka := ka) (xa := xa) (n := n) (cap := cap) (xn := xn) (xc := xc) hnb
    obtain ⟨t0, t1, t2, t3⟩ := boxN a0
    have HZ := Lib.hid (put_zero (S := S) (t := t) (x := x) (ka := ka) (xa := xa) (n := n) (cap := cap) (xn := xn) (xc := xc) (k := k) hnb)
    have hb3 : (((((w.alloc (.cells #[.int .i64 t.id, .int .i64 t.kind, .string t.text, .slice ka n cap] 24)).alloc (.cells #[.int .i64 x.id, .int .i64 x.kind, .string x.text, .slice xa xn xc] 24)).alloc (.cells #[.int .i64 0, .int .i64 0, .string ⟨#[]⟩, .slice none 0 0] 24)).setCell ⟨nb, 0, none⟩ (.int .i64 ((N : Int) + 1))).alloc (.cells #[.int .i64 t.id, .int .i64 t.kind, .string t.text, .slice none 0 0] 24)).cell? ⟨w.heap.size, 3, none⟩ = some (.slice ka n cap) := (boxN HZ.out.b0).2.2.2
    have hNk2 : ((N : Int) == (k : Int)) = false := by rw [beq_eq_false_iff_ne]; omega
    have hlt := lt_of_heap hnb
    have H := Lib.hid (And.intro hm (And.intro hN (And.intro hS (And.intro hcap (And.intro hkt (And.intro hn (And.intro hlt hNk)))))))
    have HIH := Lib.hid ih
    obtain ⟨i0, z0, hi0, hz0, hz1, hz2, hz3⟩ := info_wide Try.infoNode7
    have HI := Lib.hid (And.intro hi0 (And.intro hz0 (And.intro hz1 (And.intro hz2 hz3))))
    clear hi0 hz0 hz1 hz2 hz3
    clear ih hm hN hS hcap hkt hxcap hxt hn hxn hnb a0 a1 a2 a3 hsz hlt hNk
    refine (callsIn_wide (n := 8)).1 ?_
    refine callsIn_of_wp_marks Try.func48 rfl trivial ?_ rfl
    simp only [Try.ntmps48, List.size_toArray, List.length_cons, List.length_nil, Nat.reduceAdd, Nat.reduceSub, Array.replicate_succ, Array.replicate_zero, List.push_toArray, List.append_toArray, List.nil_append, List.cons_append]
    gi_wp2_with fail
    gi_loopw [11, 35] (fun _ i wr => ∃ (j : Nat) (ra : Option Addr) (rc : Nat) (xs : List Value), j ≤ n ∧ i = .int .i64 (j : Int) ∧ Hid (PutI w S nb t x k N j #[.int .i64 t.id, .int .i64 t.kind, .string t.text, .slice ka n cap] #[.int .i64 x.id, .int .i64 x.kind, .string x.text, .slice xa xn xc] ra rc xs wr)) (fun _ i _ => n - (intOf i).toNat)
    case atStart => exact ⟨0, none, 0, [], Nat.zero_le _, rfl, HZ⟩
    case round =>
      obtain ⟨j, ra, rc, xs, hj, rfl, hr⟩ := hrel
      by_cases hlt : j < n
      · have hp := hr.out
        have hkw : FoAt wr S t.kids ka := H.out.2.2.2.2.1.kept fun z hz => ⟨hz, hp.tou.block z (H.out.2.2.1 z hz).1 (H.out.2.2.1 z hz).2⟩
        obtain ⟨b0, o0, ⟨ki, kk, kt⟩, l', r, hd, b, off, a1, n1, rfl, hSb, k0, k1, k2, k3, hc1, hl1⟩ := hkw.at j (by rw [← H.out.2.2.2.2.2.1]; exact hlt)
        obtain ⟨htk1, htk2⟩ := foSize_take_node j t.kids _ _ _ _ _ hd
        obtain ⟨kn, hkn⟩ : ∃ kn, kn = foLen l' := ⟨_, rfl⟩
        obtain ⟨⟨y, nj⟩, hy⟩ : ∃ p : Tr × Nat, p = putT x k (putFo x k (N + 1) (foTake j t.kids)).2 ⟨ki, kk, kt, l'⟩ := ⟨_, rfl⟩
        obtain ⟨yn, hyn⟩ : ∃ yn, yn = foLen y.kids := ⟨_, rfl⟩
        have hnl := putFo_le x k (foTake j t.kids) (N + 1)
        have hm2 := H.out.1
        have hN2 := H.out.2.1
        have hcall : ∀ X, Below wr.heap.size wr X → Calls Try.prog 48 #[(.agg #[.int .i64 ki, .int .i64 kk, .string kt, .slice a1 kn n1]), (.agg #[.int .i64 x.id, .int .i64 x.kind, .string x.text, .slice xa xn xc]), .int .i64 (k : Int), .pointer (some ⟨nb, 0, none⟩)] X fun e w' => ∃ v, e = .returned v ∧ TrAt w' (fun z => S z ∨ (X.heap.size ≤ z ∧ z < w'.heap.size)) v y ∧ w'.heap[nb]? = some (.cells #[.int .i64 (nj : Int)] 3 (0, 0)) ∧ Touched X w' (fun z => z = nb) := fun X hX => by
          have hbk : ∀ z, S z → X.heap[z]? = w.heap[z]? := fun z hz => by
            have h1 := H.out.2.2.1 z hz
            rw [hX.block z (by have := hp.tou.size; omega), hp.tou.block z h1.1 h1.2]
          have := HIH.out X S ((.agg #[.int .i64 ki, .int .i64 kk, .string kt, .slice a1 kn n1])) ⟨ki, kk, kt, l'⟩ (putFo x k (N + 1) (foTake j t.kids)).2 (by show foSize l' < m; omega) (by show _ + foSize l' + 1 ≤ 1000; omega) (fun z hz => by have h1 := H.out.2.2.1 z hz; have h2 := hp.tou.size; have h3 := hX.size; omega)
            ⟨a1, n1, by rw [hkn], hc1, hl1.kept fun z hz => ⟨hz, (hbk z hz).trans (hp.tou.block z (H.out.2.2.1 z hz).1 (H.out.2.2.1 z hz).2).symm⟩⟩ (HX.out.kept fun z hz => ⟨hz, hbk z hz⟩) ((hX.block nb (by have := hp.tou.size; have := H.out.2.2.2.2.2.2.1; omega)).trans hp.ctr)
          unfold PutC at this
          rw [← hy] at this
          exact this
        rw [← hkn] at k3
        obtain ⟨p0, p1, p2, p3⟩ := boxN hp.b0
        obtain ⟨SX, hSX⟩ : ∃ SX : World → Prop, SX = fun X => X.heap[w.heap.size]? = wr.heap[w.heap.size]? ∧ X.heap[w.heap.size + 1]? = wr.heap[w.heap.size + 1]? ∧ X.heap[b]? = wr.heap[b]? := ⟨_, rfl⟩
        have hbw := H.out.2.2.1 b hSb
        have HSx : ∀ X, SX X → X.cell? ⟨w.heap.size, 3, none⟩ = some (.slice (some ⟨b, off, none⟩) n cap) ∧ X.cell? ⟨b, off + j * 4, none⟩ = some (.int .i64 ki) ∧ X.cell? ⟨b, off + j * 4 + 1, none⟩ = some (.int .i64 kk) ∧ X.cell? ⟨b, off + j * 4 + 2, none⟩ = some (.string kt) ∧ X.cell? ⟨b, off + j * 4 + 3, none⟩ = some (.slice a1 kn n1) ∧ X.cell? ⟨w.heap.size + 1, 0, none⟩ = some (.int .i64 x.id) ∧ X.cell? ⟨w.heap.size + 1, 1, none⟩ = some (.int .i64 x.kind) ∧ X.cell? ⟨w.heap.size + 1, 2, none⟩ = some (.string x.text) ∧ X.cell? ⟨w.heap.size + 1, 3, none⟩ = some (.slice xa xn xc) := fun X h => by
          rw [hSX] at h
          obtain ⟨h1, h2, h3⟩ := h
          obtain ⟨q0, q1, q2, q3⟩ := boxN (h2.trans hp.b1)
          exact ⟨(boxN (h1.trans hp.b0)).2.2.2, (World.cell?_of_block (a := ⟨b, off + j * 4, none⟩) h3).trans k0, (World.cell?_of_block (a := ⟨b, off + j * 4 + 1, none⟩) h3).trans k1, (World.cell?_of_block (a := ⟨b, off + j * 4 + 2, none⟩) h3).trans k2, (World.cell?_of_block (a := ⟨b, off + j * 4 + 3, none⟩) h3).trans k3, q0, q1, q2, q3⟩
        have HSO := Lib.hid (show ∀ Y, Touched wr Y (fun z => z = nb) → SX Y from fun Y h => by
          have h1 := lt_of_heap hp.b1
          have h2 := H.out.2.2.2.2.2.2.1
          rw [hSX]
          exact ⟨h.block _ (by omega) (by omega), h.block _ (by omega) (by omega), h.block b (by omega) hbw.2⟩)
        have hHeld : SX wr.drew := by rw [hSX]; exact ⟨rfl, rfl, rfl⟩
        have HCALL := Lib.hid hcall
        have HD := Lib.hid hd
        have HY := Lib.hid hy.symm
        have HYN := Lib.hid hyn
        have HP := Lib.hid hp
        have HLT := Lib.hid hlt
        have hjl : (j : Int) < (n : Int) := by omega
        clear hp hr hkw hd hSb k0 k1 k2 k3 hc1 hl1 htk1 htk2 hkn hy hyn hnl hm2 hN2 hcall hSX hbw hlt hj c0 f0 t0 t1 t2 t3 hb3 hNk2
        gi_wp2_with fail
        refine region_calm (S := SX) (by kernel_rfl) ?_
        clear p0 p1 p2 p3
        refine anyIn_take (i := 0) (oi := _) (v := (.pointer (some ⟨w.heap.size, 3, none⟩))) rfl (by kernel_rfl) (by kernel_rfl) (by kernel_rfl) (fun _ _ _ h => by cases h.1) (Or.inl ⟨by rfl, ?_⟩) hHeld ?_
        · clear hHeld; intro X hSw; clear hSw; go_simp
        simp only [Act.put, List.getElem_toArray, List.getElem_cons_zero, List.getElem_cons_succ, List.setIfInBounds_toArray, List.set_cons_zero, List.set_cons_succ]
        refine anyIn_take (i := 1) (oi := _) (v := (.slice (some ⟨b, off, none⟩) n cap)) rfl (by kernel_rfl) (by kernel_rfl) (by kernel_rfl) (fun _ _ _ h => by cases h.1) (Or.inl ⟨by rfl, ?_⟩) hHeld ?_
        · clear hHeld; intro X hSw; obtain ⟨s0, s1, s2, s3, s4, s5, s6, s7, s8⟩ := HSx X hSw; clear hSw; go_simp
        simp only [Act.put, List.getElem_toArray, List.getElem_cons_zero, List.getElem_cons_succ, List.setIfInBounds_toArray, List.set_cons_zero, List.set_cons_succ]
        refine anyIn_take (i := 2) (oi := _) (v := (.int .i64 (j : Int))) rfl (by kernel_rfl) (by kernel_rfl) (by kernel_rfl) (fun _ _ _ h => by cases h.1) (Or.inl ⟨by rfl, ?_⟩) hHeld ?_
        · clear hHeld; intro X hSw; clear hSw; go_simp
        simp only [Act.put, List.getElem_toArray, List.getElem_cons_zero, List.getElem_cons_succ, List.setIfInBounds_toArray, List.set_cons_zero, List.set_cons_succ]
        refine anyIn_take (i := 3) (oi := _) (v := (.pointer (some ⟨b, off + j * 4, none⟩))) rfl (by kernel_rfl) (by kernel_rfl) (by kernel_rfl) (fun _ _ _ h => by cases h.1) (Or.inl ⟨by rfl, ?_⟩) hHeld ?_
        · clear hHeld; intro X hSw; clear hSw; go_simp
        simp only [Act.put, List.getElem_toArray, List.getElem_cons_zero, List.getElem_cons_succ, List.setIfInBounds_toArray, List.set_cons_zero, List.set_cons_succ]
        refine anyIn_take (i := 4) (oi := _) (v := (.agg #[.int .i64 ki, .int .i64 kk, .string kt, .slice a1 kn n1])) rfl (by kernel_rfl) (by kernel_rfl) (by kernel_rfl) (fun _ _ _ h => by cases h.1) (Or.inl ⟨by rfl, ?_⟩) hHeld ?_
        · clear hHeld; intro X hSw; obtain ⟨s0, s1, s2, s3, s4, s5, s6, s7, s8⟩ := HSx X hSw; clear hSw; go_simp
        simp only [Act.put, List.getElem_toArray, List.getElem_cons_zero, List.getElem_cons_succ, List.setIfInBounds_toArray, List.set_cons_zero, List.set_cons_succ]
        refine anyIn_take (i := 5) (oi := _) (v := (.agg #[.int .i64 x.id, .int .i64 x.kind, .string x.text, .slice xa xn xc])) rfl (by kernel_rfl) (by kernel_rfl) (by kernel_rfl) (fun _ _ _ h => by cases h.1) (Or.inl ⟨by rfl, ?_⟩) hHeld ?_
        · clear hHeld; intro X hSw; obtain ⟨s0, s1, s2, s3, s4, s5, s6, s7, s8⟩ := HSx X hSw; clear hSw; go_simp
        simp only [Act.put, List.getElem_toArray, List.getElem_cons_zero, List.getElem_cons_succ, List.setIfInBounds_toArray, List.set_cons_zero, List.set_cons_succ]
        refine anyIn_take (i := 6) (oi := _) (v := (.int .i64 (k : Int))) rfl (by kernel_rfl) (by kernel_rfl) (by kernel_rfl) (fun _ _ _ h => by cases h.1) (Or.inl ⟨by rfl, ?_⟩) hHeld ?_
        · clear hHeld; intro X hSw; clear hSw; go_simp
        simp only [Act.put, List.getElem_toArray, List.getElem_cons_zero, List.getElem_cons_succ, List.setIfInBounds_toArray, List.set_cons_zero, List.set_cons_succ]
        refine anyIn_take (i := 7) (oi := _) (v := (.pointer (some ⟨nb, 0, none⟩))) rfl (by kernel_rfl) (by kernel_rfl) (by kernel_rfl) (fun _ _ _ h => by cases h.1) (Or.inl ⟨by rfl, ?_⟩) hHeld ?_
        · clear hHeld; intro X hSw; clear hSw; go_simp
        simp only [Act.put, List.getElem_toArray, List.getElem_cons_zero, List.getElem_cons_succ, List.setIfInBounds_toArray, List.set_cons_zero, List.set_cons_succ]
        have HH := Lib.hid hHeld
        refine anyIn_two (i := 8) (j := 9) (o := _) (o' := _) (by kernel_rfl) rfl rfl ?_ ?_
        · intro K8 hK8
          rw [if_pos (by rfl)]
          simp only [List.getElem_toArray, List.getElem_cons_zero, List.getElem_cons_succ]
          have HK8 := Lib.hid hK8
          clear hK8 hHeld
          gi_wp2_with fail
          refine ⟨trivial, ?_⟩
          gi_at_call 48
          refine (callsIn_wide.2 (HCALL.out wr.drew ⟨rfl, rfl, rfl, Nat.le_refl _, fun _ _ => rfl⟩)).mono ?_
          rintro e w2 ⟨v, rfl, ⟨ya, yc, rfl, hyc, hyk⟩, hcc, hT2⟩
          rw [← HYN.out]
          gi_wp2_with fail
          have hT2 : Touched wr w2 (fun z => z = nb) := ⟨hT2.os, hT2.tape, hT2.output, hT2.size, hT2.block⟩
          have hHeld := HSO.out _ hT2
          refine HK8.out _ _ hHeld ?_
          clear HK8
          have HW1 := Lib.hid (And.intro hT2 (And.intro hyc (And.intro hyk hcc)))
          clear hT2 hyc hyk hcc
          refine anyIn_one (i := 9) (o := _) (by kernel_rfl) rfl fun K9 hK9 => ?_
          rw [if_pos (by rfl)]
          simp only [List.getElem_toArray, List.getElem_cons_zero, List.getElem_cons_succ]
          have HK9 := Lib.hid hK9
          clear hK9 hHeld
          gi_wp2
          have hHeld := HSO.out _ (touched_more HW1.out.1 (((Below.refl _ w2).alloc (Nat.le_refl _) (.cells #[.int .i64 0, .int .i64 0, .string ⟨#[]⟩, .slice none 0 0] 24)).mono HW1.out.1.size))
          refine HK9.out _ _ hHeld ?_
          clear HK9
          refine anyIn_one (i := 10) (o := _) (by kernel_rfl) rfl fun K10 hK10 => ?_
          rw [if_pos (by rfl)]
          simp only [List.getElem_toArray, List.getElem_cons_zero, List.getElem_cons_succ]
          have HK10 := Lib.hid hK10
          clear hK10 hHeld
          gi_wp2
          have HW2 := Lib.hid (show Touched wr (w2.alloc (.cells #[.int .i64 y.id, .int .i64 y.kind, .string y.text, .slice ya yn yc] 24)) (fun z => z = nb) ∧ (foLen y.kids ≤ yc ∧ FoAt (w2.alloc (.cells #[.int .i64 y.id, .int .i64 y.kind, .string y.text, .slice ya yn yc] 24)) (fun z => S z ∨ (wr.heap.size ≤ z ∧ z < (w2.alloc (.cells #[.int .i64 y.id, .int .i64 y.kind, .string y.text, .slice ya yn yc] 24)).heap.size)) y.kids ya) ∧ (w2.alloc (.cells #[.int .i64 y.id, .int .i64 y.kind, .string y.text, .slice ya yn yc] 24)).heap[nb]? = some (.cells #[.int .i64 (nj : Int)] 3 (0, 0)) ∧ (w2.alloc (.cells #[.int .i64 y.id, .int .i64 y.kind, .string y.text, .slice ya yn yc] 24)).heap[w2.heap.size]? = some (.cells #[.int .i64 y.id, .int .i64 y.kind, .string y.text, .slice ya yn yc] 24 (0, 0)) from by
            obtain ⟨hT2, hyc, hyk, hcc⟩ := HW1.out
            have hS2 := hT2.size
            refine ⟨touched_more hT2 (((Below.refl _ w2).alloc (Nat.le_refl _) _).mono hT2.size), ⟨hyc, hyk.kept fun z hz => ?_⟩, (Below.heap_alloc _ _ _ (lt_of_heap hcc)).trans hcc, heap_alloc_new w2 _⟩
            rcases hz with hz | ⟨hz1, hz2⟩
            · exact ⟨Or.inl hz, Below.heap_alloc _ _ _ (by have := (H.out.2.2.1 z hz).1; have := HP.out.tou.size; omega)⟩
            · exact ⟨Or.inr ⟨hz1, by rw [World.size_alloc]; omega⟩, Below.heap_alloc _ _ _ hz2⟩)
          have hHeld := HSO.out _ HW2.out.1
          refine HK10.out _ _ hHeld ?_
          clear HK10 HW1
          generalize w2.alloc (.cells #[.int .i64 y.id, .int .i64 y.kind, .string y.text, .slice ya yn yc] 24) = W2 at HW2 hHeld ⊢
          generalize w2.heap.size = yb at HW2 ⊢
          refine anyIn_done (by kernel_rfl) ⟨rfl, ?_⟩ _
          obtain ⟨hW2, hyk2, hc2, hyb2⟩ := HW2.out
          have hp := HP.out
          have g3 : W2.heap[w.heap.size + 1 + 1 + 1]? = _ := (hW2.block _ (lt_of_heap hp.b3) (by have := H.out.2.2.2.2.2.2.1; omega)).trans hp.b3
          obtain ⟨_, _, _, u3⟩ := boxN g3
          have u3 : W2.cell? ⟨w.heap.size + 3, 3, none⟩ = _ := u3
          obtain ⟨v0, v1, v2, v3⟩ := boxN hyb2
          have hownW : W2.ownsRow (w.heap.size + 4) 24 4 (.slice ra j rc) j xs := owns_kept hp.own fun g cur hg ho => hW2.block g (lt_of_heap hg) (by have h1 := (owns_bounds hp.own ho).1; have h2 := H.out.2.2.2.2.2.2.1; omega)
          have HOW := Lib.hid hownW
          have hbs : w.heap.size + 4 ≤ W2.heap.size := by have h1 := lt_of_heap hp.b3; have h2 := hW2.size; omega
          have HBS := Lib.hid hbs
          clear hW2 hyk2 hc2 hyb2 hp g3 hownW hbs hHeld HSx
          gi_wp2_with (
            gi_at_builtin
            refine wpListIn_append_own_at _ rfl (.tmp 48) (.tmp 50) _ rfl (w.heap.size + 4) 24 i0 z0 4 56 Try.underlying22 HI.out.1 HI.out.2.1 HI.out.2.2.1 HI.out.2.2.2.1 HI.out.2.2.2.2 (by omega) (.slice ra j rc) j xs rfl (HOW.out.alloc _) ⟨W2.heap.size, 0, none⟩ 1 1 [.int .i64 y.id, .int .i64 y.kind, .string y.text, .slice ya yn yc] rfl rfl (World.news_of_block (cs := #[.int .i64 y.id, .int .i64 y.kind, .string y.text, .slice ya yn yc]) (heap_alloc_new W2 _)) (by simp [Value.oneCell']) (by have := HLT.out; unfold maxLen; omega) (by have := HLT.out; omega) (by have := HBS.out; rw [World.size_alloc]; omega) ?_
            intro v8 w8 hown hgrow _ hat
            obtain ⟨ra', rc', rfl⟩ := owns_slice hown
            rw [HYN.out] at hown
            obtain ⟨n1, n2⟩ := put_next HP.out H.out.2.2.1 H.out.2.2.2.2.2.2.1 HD.out HW2.out.1 HY.out HW2.out.2.1.1 HW2.out.2.1.2 HW2.out.2.2.1 hown hgrow hat
            have HN := Lib.hid n2
            obtain ⟨_, _, _, n3⟩ := boxN n1
            have n3 : w8.cell? ⟨w.heap.size + 3, 3, none⟩ = _ := n3
            have n4 : w8.frozen? ⟨w.heap.size + 3, 3, none⟩ = false := frozen_of_row _ _ 3 _ _ n1
            clear hown hgrow hat n1 n2)
          exact ⟨⟨j + 1, ra', rc', _, HLT.out, by go_num, HN⟩, by have := HLT.out; simp [intOf]; omega⟩
        · intro K9 hK9
          rw [if_pos (by rfl)]
          simp only [List.getElem_toArray, List.getElem_cons_zero, List.getElem_cons_succ]
          have HK9 := Lib.hid hK9
          clear hK9 hHeld
          gi_wp2
          have hB1 : Below wr.heap.size wr (wr.drew.alloc (.cells #[.int .i64 0, .int .i64 0, .string ⟨#[]⟩, .slice none 0 0] 24)) := ⟨rfl, rfl, rfl, by simp, fun z hz => Below.heap_alloc wr.drew _ _ hz⟩
          have hHeld := HSO.out (wr.drew.alloc (.cells #[.int .i64 0, .int .i64 0, .string ⟨#[]⟩, .slice none 0 0] 24)) ⟨hB1.os, hB1.tape, hB1.output, hB1.size, fun z hz _ => hB1.block z hz⟩
          refine HK9.out _ _ hHeld ?_
          clear HK9
          refine anyIn_one (i := 8) (o := _) (by kernel_rfl) rfl fun K8 hK8 => ?_
          rw [if_pos (by rfl)]
          simp only [List.getElem_toArray, List.getElem_cons_zero, List.getElem_cons_succ]
          have HK8 := Lib.hid hK8
          have HB1 := Lib.hid hB1
          clear hK8 hHeld hB1
          gi_wp2_with fail
          refine ⟨trivial, ?_⟩
          gi_at_call 48
          refine (callsIn_wide.2 (HCALL.out (wr.drew.alloc (.cells #[.int .i64 0, .int .i64 0, .string ⟨#[]⟩, .slice none 0 0] 24)) HB1.out)).mono ?_
          rintro e w3 ⟨v, rfl, ⟨ya, yc, rfl, hyc, hyk⟩, hcc, hT3⟩
          rw [← HYN.out]
          gi_wp2_with fail
          have hs3 := hT3.size
          have hsd : (wr.drew.alloc (.cells #[.int .i64 0, .int .i64 0, .string ⟨#[]⟩, .slice none 0 0] 24)).heap.size = wr.heap.size + 1 := by rw [World.size_alloc]; rfl
          have hT2 : Touched wr w3 (fun z => z = nb) := ⟨hT3.os, hT3.tape, hT3.output, by omega, fun z hz hn => (hT3.block z (by omega) hn).trans (HB1.out.block z hz)⟩
          have hnw : nb < wr.heap.size := by have := H.out.2.2.2.2.2.2.1; have := HP.out.tou.size; omega
          have hzb : w3.heap[wr.heap.size]? = some (.cells #[.int .i64 0, .int .i64 0, .string ⟨#[]⟩, .slice none 0 0] 24 (0, 0)) := (hT3.block _ (by omega) (by omega)).trans (heap_alloc_new wr.drew _)
          have hHeld := HSO.out _ hT2
          refine HK8.out _ _ hHeld ?_
          clear HK8
          obtain ⟨s0, s1, r0, r1, r2, r3, r4, r5, r6, r7⟩ := set4 (.int .i64 y.id) (.int .i64 y.kind) (.string y.text) (.slice ya yn yc) hzb
          have HW2 := Lib.hid (show Touched wr ((((w3.setCell ⟨wr.heap.size, 0, none⟩ (.int .i64 y.id)).setCell ⟨wr.heap.size, 1, none⟩ (.int .i64 y.kind)).setCell ⟨wr.heap.size, 2, none⟩ (.string y.text)).setCell ⟨wr.heap.size, 3, none⟩ (.slice ya yn yc)) (fun z => z = nb) ∧ (foLen y.kids ≤ yc ∧ FoAt ((((w3.setCell ⟨wr.heap.size, 0, none⟩ (.int .i64 y.id)).setCell ⟨wr.heap.size, 1, none⟩ (.int .i64 y.kind)).setCell ⟨wr.heap.size, 2, none⟩ (.string y.text)).setCell ⟨wr.heap.size, 3, none⟩ (.slice ya yn yc)) (fun z => S z ∨ (wr.heap.size ≤ z ∧ z < ((((w3.setCell ⟨wr.heap.size, 0, none⟩ (.int .i64 y.id)).setCell ⟨wr.heap.size, 1, none⟩ (.int .i64 y.kind)).setCell ⟨wr.heap.size, 2, none⟩ (.string y.text)).setCell ⟨wr.heap.size, 3, none⟩ (.slice ya yn yc)).heap.size)) y.kids ya) ∧ ((((w3.setCell ⟨wr.heap.size, 0, none⟩ (.int .i64 y.id)).setCell ⟨wr.heap.size, 1, none⟩ (.int .i64 y.kind)).setCell ⟨wr.heap.size, 2, none⟩ (.string y.text)).setCell ⟨wr.heap.size, 3, none⟩ (.slice ya yn yc)).heap[nb]? = some (.cells #[.int .i64 (nj : Int)] 3 (0, 0)) ∧ ((((w3.setCell ⟨wr.heap.size, 0, none⟩ (.int .i64 y.id)).setCell ⟨wr.heap.size, 1, none⟩ (.int .i64 y.kind)).setCell ⟨wr.heap.size, 2, none⟩ (.string y.text)).setCell ⟨wr.heap.size, 3, none⟩ (.slice ya yn yc)).heap[wr.heap.size]? = some (.cells #[.int .i64 y.id, .int .i64 y.kind, .string y.text, .slice ya yn yc] 24 (0, 0)) from by
            have hsz4 : ((((w3.setCell ⟨wr.heap.size, 0, none⟩ (.int .i64 y.id)).setCell ⟨wr.heap.size, 1, none⟩ (.int .i64 y.kind)).setCell ⟨wr.heap.size, 2, none⟩ (.string y.text)).setCell ⟨wr.heap.size, 3, none⟩ (.slice ya yn yc)).heap.size = w3.heap.size := by simp [World.setCell]
            refine ⟨touched4 hT2 _ _ _ _ _ (Or.inr (Nat.le_refl _)), ⟨hyc, hyk.kept fun z hz => ?_⟩, (s1 nb (by omega)).trans hcc, s0⟩
            rcases hz with hz | ⟨hz1, hz2⟩
            · exact ⟨Or.inl hz, s1 z (by have := (H.out.2.2.1 z hz).1; have := HP.out.tou.size; omega)⟩
            · exact ⟨Or.inr ⟨by omega, by rw [hsz4]; exact hz2⟩, s1 z (by omega)⟩)
          clear hT2 hT3 hyc hyk hcc hs3 hsd hnw hzb s0 s1
          refine anyIn_one (i := 10) (o := _) (by kernel_rfl) rfl fun K10 hK10 => ?_
          rw [if_pos (by rfl)]
          simp only [List.getElem_toArray, List.getElem_cons_zero, List.getElem_cons_succ]
          have HK10 := Lib.hid hK10
          clear hK10 hHeld
          gi_wp2
          have hHeld := HSO.out _ HW2.out.1
          refine HK10.out _ _ hHeld ?_
          clear HK10 r0 r1 r2 r3 r4 r5 r6 r7
          generalize ((((w3.setCell ⟨wr.heap.size, 0, none⟩ (.int .i64 y.id)).setCell ⟨wr.heap.size, 1, none⟩ (.int .i64 y.kind)).setCell ⟨wr.heap.size, 2, none⟩ (.string y.text)).setCell ⟨wr.heap.size, 3, none⟩ (.slice ya yn yc)) = W2 at HW2 hHeld ⊢
          refine anyIn_done (by kernel_rfl) ⟨rfl, ?_⟩ _
          obtain ⟨hW2, hyk2, hc2, hyb2⟩ := HW2.out
          have hp := HP.out
          have g3 : W2.heap[w.heap.size + 1 + 1 + 1]? = _ := (hW2.block _ (lt_of_heap hp.b3) (by have := H.out.2.2.2.2.2.2.1; omega)).trans hp.b3
          obtain ⟨_, _, _, u3⟩ := boxN g3
          have u3 : W2.cell? ⟨w.heap.size + 3, 3, none⟩ = _ := u3
          obtain ⟨v0, v1, v2, v3⟩ := boxN hyb2
          have hownW : W2.ownsRow (w.heap.size + 4) 24 4 (.slice ra j rc) j xs := owns_kept hp.own fun g cur hg ho => hW2.block g (lt_of_heap hg) (by have h1 := (owns_bounds hp.own ho).1; have h2 := H.out.2.2.2.2.2.2.1; omega)
          have HOW := Lib.hid hownW
          have hbs : w.heap.size + 4 ≤ W2.heap.size := by have h1 := lt_of_heap hp.b3; have h2 := hW2.size; omega
          have HBS := Lib.hid hbs
          clear hW2 hyk2 hc2 hyb2 hp g3 hownW hbs hHeld HSx
          gi_wp2_with (
            gi_at_builtin
            refine wpListIn_append_own_at _ rfl (.tmp 48) (.tmp 50) _ rfl (w.heap.size + 4) 24 i0 z0 4 56 Try.underlying22 HI.out.1 HI.out.2.1 HI.out.2.2.1 HI.out.2.2.2.1 HI.out.2.2.2.2 (by omega) (.slice ra j rc) j xs rfl (HOW.out.alloc _) ⟨W2.heap.size, 0, none⟩ 1 1 [.int .i64 y.id, .int .i64 y.kind, .string y.text, .slice ya yn yc] rfl rfl (World.news_of_block (cs := #[.int .i64 y.id, .int .i64 y.kind, .string y.text, .slice ya yn yc]) (heap_alloc_new W2 _)) (by simp [Value.oneCell']) (by have := HLT.out; unfold maxLen; omega) (by have := HLT.out; omega) (by have := HBS.out; rw [World.size_alloc]; omega) ?_
            intro v8 w8 hown hgrow _ hat
            obtain ⟨ra', rc', rfl⟩ := owns_slice hown
            rw [HYN.out] at hown
            obtain ⟨n1, n2⟩ := put_next HP.out H.out.2.2.1 H.out.2.2.2.2.2.2.1 HD.out HW2.out.1 HY.out HW2.out.2.1.1 HW2.out.2.1.2 HW2.out.2.2.1 hown hgrow hat
            have HN := Lib.hid n2
            obtain ⟨_, _, _, n3⟩ := boxN n1
            have n3 : w8.cell? ⟨w.heap.size + 3, 3, none⟩ = _ := n3
            have n4 : w8.frozen? ⟨w.heap.size + 3, 3, none⟩ = false := frozen_of_row _ _ 3 _ _ n1
            clear hown hgrow hat n1 n2)
          exact ⟨⟨j + 1, ra', rc', _, HLT.out, by go_num, HN⟩, by have := HLT.out; simp [intOf]; omega⟩
      · have hjl : ¬ (j : Int) < (n : Int) := by omega
        have hjn : j = n := by omega
        subst hjn
        obtain ⟨q1, q2⟩ := put_last hr.out H.out.2.2.1 H.out.2.2.2.2.2.2.1 H.out.2.2.2.2.2.1 H.out.2.2.2.2.2.2.2 _ rfl
        have HQ := Lib.hid (And.intro q1 q2)
        obtain ⟨o0, o1, o2, o3⟩ := boxN hr.out.b3
        obtain ⟨_, _, r0, r1, r2, r3, r4, r5, r6, r7⟩ := set4 (.int .i64 t.id) (.int .i64 t.kind) (.string t.text) (.slice ra j rc) hr.out.b2
        clear hr q1 q2 hlt hj c0 f0 t0 t1 t2 t3 hb3 hNk2
        gi_wp2_with fail
        exact ⟨_, results_cellW7 rfl _ _ (w.heap.size + 1 + 1) 24 _ _ _ rfl HQ.out.1 Try.underlying24 rfl (by kernel_rfl), HQ.out.2⟩
end Go.Proofs.Ytmfpilacmafglaa
