/-
  What the program's Steps hands back: it tells the rows on the way. No condition but that the row is not too great, and that ids are numbers of 64 bits.
-/
import Derived.Test.YtpbjncljecfaeaaNStepsWQf
import Derived.Test.YtpbjncljecfaeaaNYieldQf
namespace Go.Proofs.Ytpbjncljecfaeaa
open Go.RowKit Go.Shelf
attribute [local go_sem] Oper.semAt_some
set_option linter.unusedVariables false
set_option linter.unusedSimpArgs false

def SEnd (l : List Sf) (J : Nat → World → Prop) (Jx : World → Prop) (V : World) : Prop := (∃ k, live k l ∧ (onceK (seqK k l)).2 = false ∧ J (k + 1) V) ∨ Jx V
def BodyS (P : Program) (m yl B0 : Nat) (l : List Sf) (J : Nat → World → Prop) (Jx : World → Prop) : Prop :=
  ∀ (k : Nat) (a : Option Addr) (n c : Nat) (js : List SV) (V : World), B0 ≤ V.heap.size → live k l → RowS V a n c js → steps js = seqK k l → J k V → YieldAt Fence.wide m P yl #[.slice a n c] V fun e V' => TouchS B0 V V' ∧ ((e = .returned (.bool true) ∧ J (k + 1) V') ∨ (e = .returned (.bool false) ∧ Jx V'))
theorem TouchS.mono {B B' : Nat} {V V' : World} (h : TouchS B V V') (hB : B ≤ B') : TouchS B' V V' := ⟨h.os, h.tape, h.output, h.size, fun q hq => (h.block q hq).imp id (fun k => ⟨by omega, k.2⟩)⟩
theorem TouchS.kept {B : Nat} {V V' : World} (h : TouchS B V V') {q : Nat} (hq : B ≤ q) (hl : q < V.heap.size) : V'.heap[q]? = V.heap[q]? := (h.block q hl).resolve_right (fun k => by have := k.1; omega)
set_option maxRecDepth 100000 in
set_option maxHeartbeats 8000000 in
theorem steps1_any {m yl : Nat} {vs : List SV} {J : Nat → World → Prop} {Jx : World → Prop} (W : World) (NB : Nat) (la : Option Addr) (n c : Nat) (hN : W.cell? ⟨NB, 0, none⟩ = some (.slice la n c)) (hr : RowS W la n c vs) (hn6 : n ≤ 10000) (hz : ∀ x ∈ vs, foSize x.s.sub.kids + 1 ≤ 100000) (hw : ∀ x ∈ vs, Wf64 x.s)
    (hB : BodyS Try.prog m yl W.heap.size (steps vs) J Jx) (hJ : ∀ {k : Nat} {V V' : World}, J k V → SameLow W.heap.size V V' → J k V') (hJx : ∀ {V V' : World}, Jx V → SameLow W.heap.size V V' → Jx V') (h0 : J 0 W) :
    Calls Try.prog 37 #[.func (.yield yl) #[] #[], .pointer (some ⟨NB, 0, none⟩)] W (fun e V => (∃ v, e = .returned v) ∧ SEnd (steps vs) J Jx V) := by
  obtain ⟨X, hX⟩ : ∃ X, X = (W.alloc (.cells #[.func (.yield yl) #[] #[]] 28)).alloc (.cells #[.slice la n c] 29) := ⟨_, rfl⟩
  have hb : Below W.heap.size W X := by rw [hX]; exact ((Below.refl _ _).alloc (Nat.le_refl _) _).alloc (by simp) _
  have hs : X.heap.size = W.heap.size + 2 := by rw [hX]; simp
  have e0 : X.heap[W.heap.size]? = some (.cells #[.func (.yield yl) #[] #[]] 28 (0, 0)) := by rw [hX, Below.heap_alloc _ _ _ (by simp)]; exact heap_alloc_new _ _
  have e1 : X.heap[W.heap.size + 1]? = some (.cells #[.slice la n c] 29 (0, 0)) := by
    have := heap_alloc_new (W.alloc (.cells #[.func (.yield yl) #[] #[]] 28)) (.cells #[.slice la n c] 29)
    rw [World.size_alloc] at this
    rw [hX]; exact this
  have hN1 : X.cell? ⟨W.heap.size + 1, 0, none⟩ = some (.slice la n c) := by rw [cell_of_row _ _ _ _ _ _ e1]; rfl
  have hNa : (W.alloc (.cells #[.func (.yield yl) #[] #[]] 28)).cell? ⟨NB, 0, none⟩ = some (.slice la n c) := (World.cell?_of_block (Below.heap_alloc _ _ _ (World.block_lt_of_cell? _ _ hN))).trans hN
  have HX := Lib.hid hX
  have HH := Lib.hid (And.intro hb (And.intro hs (And.intro e0 (And.intro hN1 (And.intro hr (And.intro hn6 (And.intro hz hw)))))))
  have HB := Lib.hid hB
  have HJ : Hid (∀ {k : Nat} {V V' : World}, J k V → SameLow W.heap.size V V' → J k V') := Lib.hid hJ
  have HJX : Hid (∀ {V V' : World}, Jx V → SameLow W.heap.size V V' → Jx V') := Lib.hid hJx
  have H0 := Lib.hid h0
  clear hX hb hs e0 e1 hN1 hr hn6 hz hw hB hJ hJx h0 hN
  refine (callsIn_wide (n := 9)).1 ?_
  refine callsIn_of_wp_marks Try.func37 rfl trivial ?_ rfl
  simp only [Try.ntmps37, List.size_toArray, List.length_cons, List.length_nil, Nat.reduceAdd, Nat.reduceSub, Array.replicate_succ, Array.replicate_zero, List.push_toArray, List.append_toArray, List.nil_append, List.cons_append]
  gi_wp2_with (refine ⟨trivial, ?_⟩; gi_at_call 24; refine (callsIn_wide.2 (rows_fn _ _ _ _)).mono ?_; rintro e w' ⟨rfl, rfl⟩)
  rw [← HX.out]
  clear hNa
  refine range_rows (by omega) rfl la n c vs HH.out.2.2.2.1 (HH.out.2.2.2.2.1.on HH.out.1) HH.out.2.2.2.2.2.1 HH.out.2.2.2.2.2.2.1 HH.out.2.2.2.2.2.2.2 rfl (fun k _ V => J k V ∧ V.heap[W.heap.size]? = X.heap[W.heap.size]?) (fun c V => c = .ret ∧ Jx V) ?hI ?hIx ?h0 ?rnd ?done ?stop
  case hI =>
    rintro k R V V' ⟨h1, h2⟩ hl
    have hs := HH.out.2.1
    exact ⟨HJ.out h1 (hl.mono (by omega)), (hl.block _ (by omega)).trans h2⟩
  case hIx => exact fun {c V V'} h hl => ⟨h.1, HJX.out h.2 (hl.mono (by have := HH.out.2.1; omega))⟩
  case h0 => exact fun R _ => ⟨HJ.out H0.out ⟨HH.out.1.os, HH.out.1.tape, HH.out.1.output, HH.out.1.block⟩, rfl⟩
  case done =>
    rintro D k R w0 V hD hw0 hlv hno hst ⟨h1, h2⟩ hK
    have HE : Hid (SEnd (steps vs) J Jx (V.putObj D (.deferred none))) := Lib.hid (Or.inl ⟨k, hlv, hno, HJ.out h1 (SameLow.put (by have := HH.out.2.1; omega))⟩)
    clear h1 h2 hlv hno hst hw0 HB HJ HJX H0 HH HX
    gi_wp2
    refine ⟨by simp, .inl ⟨_, _, rfl, run_takeDeferred hK, ?_⟩⟩
    exact ⟨_, results_none rfl _ _ _, ⟨_, rfl⟩, HE.out⟩
  case stop =>
    rintro D c V hD ⟨rfl, hx⟩ hK
    have HE : Hid (SEnd (steps vs) J Jx (V.putObj D (.deferred none))) := Lib.hid (Or.inr (HJX.out hx (SameLow.put (by have := HH.out.2.1; omega))))
    clear hx HB HJ HJX H0 HH HX
    gi_wp2
    refine ⟨by simp, .inl ⟨_, _, rfl, run_takeDeferred hK, ?_⟩⟩
    exact ⟨_, results_none rfl _ _ _, ⟨_, rfl⟩, HE.out⟩
  case rnd =>
    rintro l hl k R w0 V hw0 hlv hst ⟨h1, h2⟩ K hK
    have hK0 := fun a₁ => hK a₁ V (TouchS.refl _ _) rfl rfl
    have HK := Lib.hid (And.intro hK0 (And.intro hw0 (And.intro hlv (And.intro hst (And.intro h1 (And.intro h2 hl))))))
    clear hK hK0 hw0 hlv hst h1 h2 hl
    gi_wp2
    refine HK.out.1 _ fun V1 hV1 => ?_
    obtain ⟨hK0, hw0, hlv, hst, h1, h2, hl⟩ := HK.out
    obtain ⟨o', ev, o, ho, hoc⟩ := hV1
    have hs := HH.out.2.1
    have ht1 : TouchS (X.heap.size + 2) V V1 := by rw [ev]; exact touchS_put (by omega) ho hoc
    have hl1 : SameLow X.heap.size V V1 := by rw [ev]; exact SameLow.put (by omega)
    have hJ1 : J k V1.drew := HJ.out h1 ⟨hl1.os, hl1.tape, hl1.output, fun q hq => hl1.block q (by omega)⟩
    have hyc : V1.drew.cell? ⟨W.heap.size, 0, none⟩ = some (.func (.yield yl) #[] #[]) := by
      show V1.cell? _ = _
      rw [cell_of_row _ _ _ _ _ _ (((hl1.block _ (by omega)).trans h2).trans HH.out.2.2.1)]; rfl
    obtain ⟨w1, hw1, hst1⟩ := hst.rebase (V' := V1.drew) (by rw [hw0]; exact ⟨ht1.os, ht1.tape, ht1.output, ht1.size, ht1.block⟩)
    have hsz := hst1.size
    have HT := Lib.hid (And.intro (rtold_any hst1) (And.intro hyc (And.intro hJ1 (And.intro hlv (And.intro hsz (hw1.trans hw0))))))
    have HE1 := Lib.hid ((hl1.block _ (show W.heap.size < X.heap.size by omega)).trans h2)
    clear hK0 hw0 hst h1 h2 hl ev ho hoc ht1 hl1 hJ1 hw1 hst1 hsz HK hlv hs
    gi_wp2
    refine region_round (S := fun Y => Y.cell? ⟨W.heap.size, 0, none⟩ = some (.func (.yield yl) #[] #[])) (by kernel_rfl) (noDefer (by kernel_rfl)) ?_
    have hHeld := hyc
    clear hyc
    refine anyIn_take (i := 0) (oi := _) (v := .func (.yield yl) #[] #[]) rfl (by kernel_rfl) (by kernel_rfl) (by kernel_rfl) (fun _ _ _ h => h) (Or.inl ⟨by rfl, ?_⟩) hHeld ?_
    · clear hHeld; intro Y hSw; go_simp
    simp only [Act.put, List.getElem_toArray, List.getElem_cons_zero, List.getElem_cons_succ, List.setIfInBounds_toArray, List.set_cons_zero, List.set_cons_succ]
    refine anyIn_take (i := 1) (oi := _) (v := .pointer (some ⟨R, 0, none⟩)) rfl (by kernel_rfl) (by kernel_rfl) (by kernel_rfl) (fun _ _ _ h => h) (Or.inl ⟨by rfl, ?_⟩) hHeld ?_
    · clear hHeld; intro Y hSw; go_simp
    simp only [Act.put, List.getElem_toArray, List.getElem_cons_zero, List.getElem_cons_succ, List.setIfInBounds_toArray, List.set_cons_zero, List.set_cons_succ]
    refine anyIn_one (i := 2) (o := _) (by kernel_rfl) rfl fun K6 hK6 => ?_
    rw [if_pos (by rfl)]
    simp only [List.getElem_toArray, List.getElem_cons_zero, List.getElem_cons_succ]
    have HK6 := Lib.hid hK6
    clear hK6 hHeld
    gi_wp2_with (refine ⟨trivial, ?_⟩; gi_at_call 25; refine (callsIn_wide.2 HT.out.1).mono ?_; rintro e V3 ⟨ra, rn, rc, js, rfl, hrs, hjs, hb3⟩; have HV3 := Lib.hid (And.intro hrs (And.intro hjs hb3)); clear hrs hjs hb3)
    have hyc3 := (World.cell?_of_block (HV3.out.2.2.block _ (World.block_lt_of_cell? _ _ HT.out.2.1))).trans HT.out.2.1
    have hs3 : V1.heap.size ≤ V3.heap.size := HV3.out.2.2.size
    have hsV : X.heap.size + 2 ≤ V1.heap.size := by have h1 := HT.out.2.2.2.2.1; have h2 := HT.out.2.2.2.2.2; rw [h2] at h1; exact h1
    have hXs := HH.out.2.1
    have hJ3 : J k V3 := HJ.out HT.out.2.2.1 ⟨HV3.out.2.2.os, HV3.out.2.2.tape, HV3.out.2.2.output, fun q hq => HV3.out.2.2.block q (by show q < V1.heap.size; omega)⟩
    refine HK6.out _ _ hyc3 ?_
    clear HK6
    obtain ⟨fn, tmps, asg, bdy, hy, hRd⟩ := YieldAt.anyDepthW 6 (HB.out k ra rn rc js V3 (by omega) HT.out.2.2.2.1 HV3.out.1 HV3.out.2.1 hJ3)
    have HRD := Lib.hid hRd
    have HS3 := Lib.hid (And.intro hyc3 (And.intro hs3 hsV))
    clear hRd hJ3 hyc3 hs3 hsV hXs
    refine anyIn_one (i := 3) (o := _) (by kernel_rfl) rfl fun K7 hK7 => ?_
    rw [if_pos (by rfl)]
    simp only [List.getElem_toArray, List.getElem_cons_zero, List.getElem_cons_succ]
    have HK7 := Lib.hid hK7
    clear hK7
    gi_wp2
    refine HRD.out.mono ?_
    rintro e V4 ⟨ht4, hres⟩
    obtain ⟨bb, rfl, hbb⟩ : ∃ bb, e = .returned (.bool bb) ∧ ((bb = true ∧ J (k + 1) V4) ∨ (bb = false ∧ Jx V4)) := by
      rcases hres with ⟨rfl, hj⟩ | ⟨rfl, hj⟩
      · exact ⟨true, rfl, Or.inl ⟨rfl, hj⟩⟩
      · exact ⟨false, rfl, Or.inr ⟨rfl, hj⟩⟩
    have hk4 : ∀ q, W.heap.size ≤ q → q < V1.heap.size → V4.heap[q]? = V1.heap[q]? := fun q h1 h2 => (ht4.kept h1 (by have := HS3.out.2.1; omega)).trans (HV3.out.2.2.block q h2)
    have hHeld : V4.cell? ⟨W.heap.size, 0, none⟩ = some (.func (.yield yl) #[] #[]) := (World.cell?_of_block (ht4.kept (Nat.le_refl _) (World.block_lt_of_cell? _ _ HS3.out.1))).trans HS3.out.1
    refine HK7.out _ _ hHeld ?_
    clear HK7 HRD hy
    refine anyIn_take (i := 4) (oi := _) (v := .bool (!bb)) rfl (by kernel_rfl) (by kernel_rfl) (by kernel_rfl) (fun _ _ _ h => h) (Or.inl ⟨by rfl, ?_⟩) hHeld ?_
    · clear hHeld; intro Y hSw; clear hSw; go_simp
    simp only [Act.put, List.getElem_toArray, List.getElem_cons_zero, List.getElem_cons_succ, List.setIfInBounds_toArray, List.set_cons_zero, List.set_cons_succ]
    refine anyIn_done (by kernel_rfl) ?_ _
    have hXs := HH.out.2.1
    have h2 := HS3.out.2.2
    have HE : Hid (TouchS (X.heap.size + 2) V1 V4 ∧ V4.heap[X.heap.size]? = V1.heap[X.heap.size]? ∧ V4.heap[X.heap.size + 1]? = V1.heap[X.heap.size + 1]? ∧ V4.heap[W.heap.size]? = X.heap[W.heap.size]?) := Lib.hid ⟨⟨ht4.os.trans HV3.out.2.2.os, ht4.tape.trans HV3.out.2.2.tape, ht4.output.trans HV3.out.2.2.output, by have := ht4.size; have := HS3.out.2.1; omega, fun q hq => (ht4.mono (B' := X.heap.size + 2) (by omega)).block q (by have := HS3.out.2.1; omega) |>.elim (fun h => Or.inl (h.trans (HV3.out.2.2.block q hq))) (fun h => Or.inr ⟨h.1, fun cs T fr hc => h.2 cs T fr ((HV3.out.2.2.block q hq).trans hc)⟩)⟩, hk4 _ (by omega) (by omega), hk4 _ (by omega) (by omega), (hk4 _ (Nat.le_refl _) (by omega)).trans HE1.out⟩
    have HBB := Lib.hid hbb
    clear hHeld hk4 ht4 hXs h2 hres
    cases bb
    · gi_wp2
      refine ⟨HE.out.1, HE.out.2.1, HE.out.2.2.1, .inr (.inl ⟨rfl, rfl, ?_⟩)⟩
      rcases HBB.out with h | h
      · cases h.1
      · exact h.2
    · gi_wp2
      refine ⟨HE.out.1, HE.out.2.1, HE.out.2.2.1, .inl ⟨rfl, ?_, HE.out.2.2.2⟩⟩
      rcases HBB.out with h | h
      · exact h.2
      · cases h.1
end Go.Proofs.Ytpbjncljecfaeaa
