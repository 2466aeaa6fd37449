/-
  inserted: does a node of that id come in? texted: the text waits beside. No condition but that what is held is not too great.
-/
import Derived.Test.YtpbjncljecfaeaaNRulesQf
namespace Go.Proofs.Ytpbjncljecfaeaa
open Go.RowKit Go.Shelf
attribute [local go_sem] Oper.semAt_some
set_option linter.unusedVariables false
set_option linter.unusedSimpArgs false

theorem Turn.undrew {w0 V W : World} {A : Nat} {ha hb : HV} (h : Turn w0 A ha hb V.drew W) : Turn w0 A ha hb V W := ⟨h.held, h.x, ⟨h.turned.os, h.turned.tape, h.turned.output, h.turned.size, h.turned.block⟩, h.own⟩
def InsC (w0 : World) (A : Nat) (ha hb : HV) (w : World) (e : Ending) (w' : World) : Prop := ∃ m, e = .returned (.bool (wiT hb.x.s.id ⟨#[]⟩ ha.x.s.sub).2) ∧ Turn w0 A ha (ha.withM (some m)) w w'
set_option maxRecDepth 100000 in
set_option maxHeartbeats 4000000 in
theorem inserted_any {w0 V : World} {A B : Nat} {ha hb : HV} (h1 : HeldAt w0 V A ha) (h2 : HeldAt w0 V B hb) (hB : Below w0.heap.size w0 V) (hok : HeldOk ha) (hwf : (Lit.int .i64 hb.x.s.id).wf = true) (hAB : ¬ ha.own A B) : Calls Try.prog 42 #[hptr A, hptr B] V (InsC w0 A ha hb V) := by
  obtain ⟨_, b1, _⟩ := h2.box
  obtain ⟨SW, hSW⟩ : ∃ SW : World → Prop, SW = fun Z => Z.cell? ⟨B, 1, none⟩ = some (.int .i64 hb.x.s.id) := ⟨_, rfl⟩
  have HSW := Lib.hid (fun (Z : World) (h : SW Z) => (show Z.cell? ⟨B, 1, none⟩ = some (.int .i64 hb.x.s.id) by rw [hSW] at h; exact h))
  have hS0 : SW V.drew := by rw [hSW]; exact b1
  have hN := named_any (V := V.drew) (h1.kept fun _ _ => rfl) ⟨hB.os, hB.tape, hB.output, hB.size, hB.block⟩ hok
  have hSt : ∀ Z, (∃ m, Turn w0 A ha (ha.withM (some m)) V.drew Z) → SW Z := fun Z ⟨m, ht⟩ => by
    rw [hSW]
    exact (World.cell?_of_block (a := ⟨B, 1, none⟩) (ht.turned.block B (lt_of_heap h2.cells) hAB)).trans b1
  have HN := Lib.hid (And.intro hN (And.intro hSt hwf))
  simp only [hptr] at HN ⊢
  clear hSW hN hSt h1 h2 hB hok hAB b1
  go_enter Try.func42, Try.ntmps42
  go_upto_region 1 with fail
  refine wp_calm ?_
  refine wp_region_held_drew (S := SW) (by kernel_rfl) hS0 (fun hHeld => ?_)
  clear hS0
  refine wpAnyH_take (i := 0) (oi := _) (v := .pointer (some ⟨A, 0, none⟩)) rfl (by kernel_rfl) (by kernel_rfl) (by kernel_rfl) (fun _ _ _ h => by cases h.1) (Or.inl ⟨by rfl, ?_⟩) (by assumption) ?_
  · clear hHeld; intro X hSw; clear hSw; go_simp
  simp only [Act.put, List.getElem_toArray, List.getElem_cons_zero, List.getElem_cons_succ, List.setIfInBounds_toArray, List.set_cons_zero, List.set_cons_succ]
  refine wpAnyH_take (i := 2) (oi := _) (v := .pointer (some ⟨B, 0, none⟩)) rfl (by kernel_rfl) (by kernel_rfl) (by kernel_rfl) (fun _ _ _ h => by cases h.1) (Or.inl ⟨by rfl, ?_⟩) (by assumption) ?_
  · clear hHeld; intro X hSw; clear hSw; go_simp
  simp only [Act.put, List.getElem_toArray, List.getElem_cons_zero, List.getElem_cons_succ, List.setIfInBounds_toArray, List.set_cons_zero, List.set_cons_succ]
  refine wpAnyH_take (i := 3) (oi := _) (v := .pointer (some ⟨B, 0, none⟩)) rfl (by kernel_rfl) (by kernel_rfl) (by kernel_rfl) (fun _ _ _ h => by cases h.1) (Or.inl ⟨by rfl, ?_⟩) (by assumption) ?_
  · clear hHeld; intro X hSw; clear hSw; go_simp
  simp only [Act.put, List.getElem_toArray, List.getElem_cons_zero, List.getElem_cons_succ, List.setIfInBounds_toArray, List.set_cons_zero, List.set_cons_succ]
  refine wpAnyH_take (i := 4) (oi := _) (v := .pointer (some ⟨B, 0, none⟩)) rfl (by kernel_rfl) (by kernel_rfl) (by kernel_rfl) (fun _ _ _ h => by cases h.1) (Or.inl ⟨by rfl, ?_⟩) (by assumption) ?_
  · clear hHeld; intro X hSw; clear hSw; go_simp
  simp only [Act.put, List.getElem_toArray, List.getElem_cons_zero, List.getElem_cons_succ, List.setIfInBounds_toArray, List.set_cons_zero, List.set_cons_succ]
  refine wpAnyH_take (i := 5) (oi := _) (v := .pointer (some ⟨B, 1, none⟩)) rfl (by kernel_rfl) (by kernel_rfl) (by kernel_rfl) (fun _ _ _ h => by cases h.1) (Or.inl ⟨by rfl, ?_⟩) (by assumption) ?_
  · clear hHeld; intro X hSw; clear hSw; go_simp
  simp only [Act.put, List.getElem_toArray, List.getElem_cons_zero, List.getElem_cons_succ, List.setIfInBounds_toArray, List.set_cons_zero, List.set_cons_succ]
  refine wpAnyH_take (i := 6) (oi := _) (v := .int .i64 hb.x.s.id) rfl (by kernel_rfl) (by kernel_rfl) (by kernel_rfl) (fun _ _ _ h => by cases h.1) (Or.inl ⟨by rfl, ?_⟩) (by assumption) ?_
  · clear hHeld; intro X hSw; have q1 := HSW.out X hSw; clear hSw; go_simp
  simp only [Act.put, List.getElem_toArray, List.getElem_cons_zero, List.getElem_cons_succ, List.setIfInBounds_toArray, List.set_cons_zero, List.set_cons_succ]
  refine wpAnyH_ready (rs := [1]) (by kernel_rfl) (by simp) ?_
  refine AllReadyH.cons (o := _) rfl (fun K hK => ?_) (AllReadyH.nil)
  rw [if_pos (by rfl)]
  simp only [List.getElem_toArray, List.getElem_cons_zero, List.getElem_cons_succ]
  have HK := Lib.hid hK
  clear hK hHeld
  go_wp2_with fail
  refine HN.out.1.mono ?_
  rintro e V1 ⟨m, rfl, ht⟩
  have hnd := ht.held.nodes
  have hlook : (Instr.lookup 46 (.map (some m)) (.int .i64 hb.x.s.id) true).run Try.prog V1 = .ok (.tuple #[ptrO (firstA hb.x.s.id (Classical.choose (Classical.choose_spec hnd))), .bool (wiT hb.x.s.id ⟨#[]⟩ ha.x.s.sub).2]) V1 := by
    have h3 := Classical.choose_spec (Classical.choose_spec hnd)
    rw [look_ok h3.1 HN.out.2.2, h3.2]; rfl
  generalize ptrO _ = pv at hlook
  generalize hbv : (wiT hb.x.s.id ⟨#[]⟩ ha.x.s.sub).2 = bv at hlook
  have HE : Hid (InsC w0 A ha hb V (.returned (.bool bv)) V1) := Lib.hid ⟨m, by rw [hbv], ht.undrew⟩
  have hS1 : SW V1 := HN.out.2.1 V1 ⟨m, ht⟩
  have HS1 := Lib.hid hS1
  clear ht hnd hbv
  refine HK.out _ _ hS1 (fun hHeld => ?_)
  clear HK hS1
  refine wpAnyH_ready (rs := [7]) (by kernel_rfl) (by simp) ?_
  refine AllReadyH.cons (o := _) rfl (fun K hK => ?_) (AllReadyH.nil)
  rw [if_pos (by rfl)]
  simp only [List.getElem_toArray, List.getElem_cons_zero, List.getElem_cons_succ]
  have HK := Lib.hid hK
  clear hK hHeld
  go_wp2_with fail
  refine HK.out _ _ HS1.out (fun hHeld => ?_)
  clear HK hlook
  refine wpAnyH_take (i := 8) (oi := _) (v := .tuple #[pv, .bool bv]) rfl (by kernel_rfl) (by kernel_rfl) (by kernel_rfl) (fun _ _ _ h => by cases h.1) (Or.inl ⟨by rfl, ?_⟩) (by assumption) ?_
  · clear hHeld; intro X hSw; clear hSw; go_simp
  simp only [Act.put, List.getElem_toArray, List.getElem_cons_zero, List.getElem_cons_succ, List.setIfInBounds_toArray, List.set_cons_zero, List.set_cons_succ]
  refine wpAnyH_take (i := 9) (oi := _) (v := pv) rfl (by kernel_rfl) (by kernel_rfl) (by kernel_rfl) (fun _ _ _ h => by cases h.1) (Or.inl ⟨by rfl, ?_⟩) (by assumption) ?_
  · clear hHeld; intro X hSw; clear hSw; go_simp
  simp only [Act.put, List.getElem_toArray, List.getElem_cons_zero, List.getElem_cons_succ, List.setIfInBounds_toArray, List.set_cons_zero, List.set_cons_succ]
  refine wpAnyH_take (i := 10) (oi := _) (v := .bool bv) rfl (by kernel_rfl) (by kernel_rfl) (by kernel_rfl) (fun _ _ _ h => by cases h.1) (Or.inl ⟨by rfl, ?_⟩) (by assumption) ?_
  · clear hHeld; intro X hSw; clear hSw; go_simp
  simp only [Act.put, List.getElem_toArray, List.getElem_cons_zero, List.getElem_cons_succ, List.setIfInBounds_toArray, List.set_cons_zero, List.set_cons_succ]
  refine wpAnyH_take (i := 11) (oi := _) (v := pv) rfl (by kernel_rfl) (by kernel_rfl) (by kernel_rfl) (fun _ _ _ h => by cases h.1) (Or.inl ⟨by rfl, ?_⟩) (by assumption) ?_
  · clear hHeld; intro X hSw; clear hSw; go_simp
  simp only [Act.put, List.getElem_toArray, List.getElem_cons_zero, List.getElem_cons_succ, List.setIfInBounds_toArray, List.set_cons_zero, List.set_cons_succ]
  refine wpAnyH_take (i := 12) (oi := _) (v := .bool bv) rfl (by kernel_rfl) (by kernel_rfl) (by kernel_rfl) (fun _ _ _ h => by cases h.1) (Or.inl ⟨by rfl, ?_⟩) (by assumption) ?_
  · clear hHeld; intro X hSw; clear hSw; go_simp
  simp only [Act.put, List.getElem_toArray, List.getElem_cons_zero, List.getElem_cons_succ, List.setIfInBounds_toArray, List.set_cons_zero, List.set_cons_succ]
  refine wpAnyH_done (by kernel_rfl) ?_ _
  refine ⟨rfl, ?_⟩
  clear hHeld
  go_wp2_with fail
  go_ret
  exact HE.out
def HV.withT (h : HV) (x : SV) (ta : Option Addr) (tc : Nat) : HV := ⟨h.x, h.ts ++ [x], ta, tc, h.m⟩
def TextedC (w0 : World) (A : Nat) (ha hb : HV) (w : World) (e : Ending) (w' : World) : Prop := ∃ ta tc, e = .returned (hptr A) ∧ Turn w0 A ha (ha.withT hb.x ta tc) w w'
set_option maxRecDepth 100000 in
set_option maxHeartbeats 8000000 in
theorem texted_any {w0 V : World} {A B : Nat} {ha hb : HV} (h1 : HeldAt w0 V A ha) (h2 : HeldAt w0 V B hb) (hB : Below w0.heap.size w0 V) (hfew : ha.ts.length ≤ 10000) (hAB : ¬ ha.own A B) (hAA : ha.tv.ownBlock ≠ some A ∧ ha.m ≠ some A) : Calls Try.prog 43 #[hptr A, hptr B] V (TextedC w0 A ha hb V) := by
  obtain ⟨b0, b1, b2, b3, b4, b5, b6, b7, b8, _⟩ := h2.box
  obtain ⟨tn, htn⟩ : ∃ tn, tn = ha.ts.length := ⟨_, rfl⟩
  obtain ⟨sn, hsn⟩ : ∃ sn, sn = foLen hb.x.s.sub.kids := ⟨_, rfl⟩
  rw [← hsn] at b8
  have hcA := h1.cells
  rw [← htn] at hcA hfew
  obtain ⟨U, hU⟩ : ∃ U, U = (V.alloc (.cells #[.int .i8 hb.x.s.op, .int .i64 hb.x.s.id, .int .i64 hb.x.s.par, .int .i64 hb.x.s.at_, .string hb.x.s.tx, .int .i64 hb.x.s.sub.id, .int .i64 hb.x.s.sub.kind, .string hb.x.s.sub.text, .slice hb.x.a sn hb.x.c] 27)).drew := ⟨_, rfl⟩
  have hUk : ∀ q, q < V.heap.size → U.heap[q]? = V.heap[q]? := fun q hq => by rw [hU]; exact Below.heap_alloc _ _ _ hq
  have hUs : U.heap.size = V.heap.size + 1 := by rw [hU]; show (V.alloc _).heap.size = _; simp
  have hUn : U.heap[V.heap.size]? = some (.cells #[.int .i8 hb.x.s.op, .int .i64 hb.x.s.id, .int .i64 hb.x.s.par, .int .i64 hb.x.s.at_, .string hb.x.s.tx, .int .i64 hb.x.s.sub.id, .int .i64 hb.x.s.sub.kind, .string hb.x.s.sub.text, .slice hb.x.a sn hb.x.c] 27 (0, 0)) := by rw [hU]; exact heap_alloc_new _ _
  obtain ⟨i0, z0, hi0, hz0, hz1, hz2, hz3⟩ := info_wide Try.infoStI
  have htx := h1.texts
  rw [← htn] at htx
  have h2U := owns_kept (w' := U) htx (fun q cur hq _ => hUk q (lt_of_heap hq))
  have hBs := hB.size
  obtain ⟨g, cap, W, hrun, hown, hgr, hat, hlt9⟩ := run_append_lies (P := Try.prog) U 29 29 w0.heap.size 27 i0 z0 9 104 Try.underlying29 hi0 hz0 hz1 hz2 hz3 (by omega) (.slice ha.ta tn ha.tc) tn _ h2U ⟨V.heap.size, 0, none⟩ 1 1 (stepC hb.x.s hb.x.a hb.x.c) rfl (fun i u hu => by
    have hadd : (⟨V.heap.size, 0, none⟩ : Addr).add i = ⟨V.heap.size, i, none⟩ := by unfold Addr.add; split <;> simp_all
    rw [hadd, cell_of_row _ _ _ _ _ _ hUn]
    rw [hsn]
    simpa [stepC] using hu) (cells9_one [hb.x] |> fun h u hu => h u (by simpa [cells9] using hu)) (by omega) (by unfold maxLen; omega) (by omega) (by omega) U.heap.size rfl
  have hcW := (hgr.block A (by have := lt_of_heap hcA; omega) (fun e => hAA.1 (by rw [HV.tv, ← htn]; exact e.symm))).trans ((hUk A (lt_of_heap hcA)).trans hcA)
  obtain ⟨V2, e2, g2, o2, a2, t2, p2, s2⟩ := one_setN (i := 10) (u := .slice (some ⟨g, 0, none⟩) (tn + 1) cap) hcW
  have hgs := hgr.size
  have hA := lt_of_heap hcA
  have hgA : g ≠ A := fun e => by
    rcases hat with h | h
    · exact hAA.1 (by rw [HV.tv, ← htn, h, e])
    · omega
  have hk2 : ∀ q, q < V.heap.size → ¬ ha.own A q → V2.heap[q]? = V.heap[q]? := fun q hq hn => by
    rw [o2 q (fun e => hn (Or.inl e))]
    exact (hgr.block q (by omega) (fun e => hn (Or.inr (Or.inl (by rw [HV.tv, ← htn]; exact e.symm))))).trans (hUk q hq)
  have hT : Turn w0 A ha (ha.withT hb.x (some ⟨g, 0, none⟩) cap) V V2 := by
    refine ⟨⟨?_, h1.lies, ?_, ?_, h1.base, h1.mbase⟩, rfl, ⟨?_, ?_, ?_, by omega, hk2⟩, fun q hq => ?_⟩
    · simp only [HV.withT, List.length_append, List.length_cons, List.length_nil, ← htn]
      simpa using g2
    · simp only [HV.withT, List.length_append, List.length_cons, List.length_nil, ← htn]
      have e9 : cells9 (ha.ts ++ [hb.x]) = cells9 ha.ts ++ stepC hb.x.s hb.x.a hb.x.c := by simp [cells9]
      rw [e9]
      exact owns_kept hown (fun q cur hq hqo => o2 q (fun e => hgA (by have := Option.some.inj hqo; rw [← e, ← this])))
    · have h3 := h1.nodes
      unfold NodesOk at h3 ⊢
      simp only [HV.withT]
      cases hm : ha.m with
      | none => trivial
      | some mb =>
        rw [hm] at h3
        obtain ⟨n, L, h4, h5⟩ := h3
        refine ⟨n, L, h4.at ?_, h5⟩
        have hml := h4.lt
        rw [o2 mb (fun e => hAA.2 (by rw [hm, e]))]
        refine (hgr.block mb (by omega) (fun e => ?_)).trans (hUk mb hml)
        obtain ⟨cur, hc⟩ := own_typed htx e.symm
        obtain ⟨M, ⟨es, clock, hb9, _⟩, _⟩ := h4
        rw [hc] at hb9; cases hb9
    · rw [a2, hgr.os, hU]; rfl
    · rw [t2, hgr.tape, hU]; rfl
    · rw [p2, hgr.output, hU]; rfl
    · rcases hq with hq | hq | hq
      · exact Or.inl (Or.inl hq)
      · have hqg : g = q := Option.some.inj hq
        subst hqg
        rcases hat with h | h
        · exact Or.inl (Or.inr (Or.inl (by rw [HV.tv, ← htn]; exact h)))
        · exact Or.inr (by omega)
      · exact Or.inl (Or.inr (Or.inr hq))
  have HE : Hid (TextedC w0 A ha hb V (.returned (hptr A)) V2) := Lib.hid ⟨_, _, rfl, hT⟩
  obtain ⟨SW, hSW⟩ : ∃ SW : World → Prop, SW = fun Z => Z.cell? ⟨B, 0, none⟩ = some (.int .i8 hb.x.s.op) ∧ Z.cell? ⟨B, 1, none⟩ = some (.int .i64 hb.x.s.id) ∧ Z.cell? ⟨B, 2, none⟩ = some (.int .i64 hb.x.s.par) ∧ Z.cell? ⟨B, 3, none⟩ = some (.int .i64 hb.x.s.at_) ∧ Z.cell? ⟨B, 4, none⟩ = some (.string hb.x.s.tx) ∧ Z.cell? ⟨B, 5, none⟩ = some (.int .i64 hb.x.s.sub.id) ∧ Z.cell? ⟨B, 6, none⟩ = some (.int .i64 hb.x.s.sub.kind) ∧ Z.cell? ⟨B, 7, none⟩ = some (.string hb.x.s.sub.text) ∧ Z.cell? ⟨B, 8, none⟩ = some (.slice hb.x.a sn hb.x.c) := ⟨_, rfl⟩
  have HSW := Lib.hid (fun (Z : World) (h : SW Z) => (show Z.cell? ⟨B, 0, none⟩ = some (.int .i8 hb.x.s.op) ∧ Z.cell? ⟨B, 1, none⟩ = some (.int .i64 hb.x.s.id) ∧ Z.cell? ⟨B, 2, none⟩ = some (.int .i64 hb.x.s.par) ∧ Z.cell? ⟨B, 3, none⟩ = some (.int .i64 hb.x.s.at_) ∧ Z.cell? ⟨B, 4, none⟩ = some (.string hb.x.s.tx) ∧ Z.cell? ⟨B, 5, none⟩ = some (.int .i64 hb.x.s.sub.id) ∧ Z.cell? ⟨B, 6, none⟩ = some (.int .i64 hb.x.s.sub.kind) ∧ Z.cell? ⟨B, 7, none⟩ = some (.string hb.x.s.sub.text) ∧ Z.cell? ⟨B, 8, none⟩ = some (.slice hb.x.a sn hb.x.c) by rw [hSW] at h; exact h))
  have hSof : ∀ Z : World, Z.heap[B]? = V.heap[B]? → SW Z := fun Z e => by
    rw [hSW]
    refine ⟨?_, ?_, ?_, ?_, ?_, ?_, ?_, ?_, ?_⟩ <;> (refine (World.cell?_of_block e).trans ?_; assumption)
  have hBl := lt_of_heap h2.cells
  have hBg : some B ≠ (Value.slice ha.ta tn ha.tc).ownBlock := fun e => hAB (Or.inr (Or.inl (by rw [HV.tv, ← htn]; exact e.symm)))
  have hS0 : SW V.drew := hSof _ rfl
  have hSU : SW U := hSof _ (hUk B hBl)
  have hSWW : SW W := hSof _ ((hgr.block B (by omega) hBg).trans (hUk B hBl))
  have hS2 : SW V2 := hSof _ (hk2 B hBl hAB)
  have c0 : V.drew.cell? ⟨A, 10, none⟩ = some (.slice ha.ta tn ha.tc) := by show V.cell? _ = _; rw [cell_of_row _ _ _ _ _ _ hcA]; rfl
  have cU : U.cell? ⟨A, 10, none⟩ = some (.slice ha.ta tn ha.tc) := by rw [cell_of_row _ _ _ _ _ _ ((hUk A hA).trans hcA)]; rfl
  have b7' : W.cell? ⟨A, 10, none⟩ = some (.slice ha.ta tn ha.tc) := by rw [cell_of_row _ _ _ _ _ _ hcW]; rfl
  have f7 : W.frozen? ⟨A, 10, none⟩ = false := frozen_of_row _ _ _ _ _ hcW
  have HSQ := Lib.hid (And.intro hS0 (And.intro hSU (And.intro hSWW hS2)))
  have HWC := Lib.hid (And.intro c0 cU)
  have HB7 := Lib.hid (And.intro b7' f7)
  have HRUN := Lib.hid hrun
  have HU := Lib.hid hU
  have HW9 := Lib.hid e2
  simp only [hptr] at HE ⊢
  clear hT hSW hSof hBg hBl hS0 hSU hSWW hS2 c0 cU b7' f7 hrun hU e2 g2 o2 a2 t2 p2 s2 hgs hA hgA hk2 hcW hown hgr hat hlt9 h2U htx hz0 hz1 hz2 hz3 hi0 hUn hUs hUk hcA h1 h2 hB hAB hAA htn hsn b0 b1 b2 b3 b4 b5 b6 b7 b8 hBs
  go_enter Try.func43, Try.ntmps43
  go_upto_region 1 with fail
  refine wp_calm ?_
  refine wp_region_held_drew (S := SW) (by kernel_rfl) HSQ.out.1 (fun hHeld => ?_)
  refine wpAnyH_take (i := 0) (oi := _) (v := .pointer (some ⟨A, 0, none⟩)) rfl (by kernel_rfl) (by kernel_rfl) (by kernel_rfl) (fun _ _ _ h => by cases h.1) (Or.inl ⟨by rfl, ?_⟩) (by assumption) ?_
  · clear hHeld; intro X hSw; clear hSw; go_simp
  simp only [Act.put, List.getElem_toArray, List.getElem_cons_zero, List.getElem_cons_succ, List.setIfInBounds_toArray, List.set_cons_zero, List.set_cons_succ]
  refine wpAnyH_take (i := 1) (oi := _) (v := .pointer (some ⟨A, 0, none⟩)) rfl (by kernel_rfl) (by kernel_rfl) (by kernel_rfl) (fun _ _ _ h => by cases h.1) (Or.inl ⟨by rfl, ?_⟩) (by assumption) ?_
  · clear hHeld; intro X hSw; clear hSw; go_simp
  simp only [Act.put, List.getElem_toArray, List.getElem_cons_zero, List.getElem_cons_succ, List.setIfInBounds_toArray, List.set_cons_zero, List.set_cons_succ]
  refine wpAnyH_take (i := 2) (oi := _) (v := .pointer (some ⟨A, 0, none⟩)) rfl (by kernel_rfl) (by kernel_rfl) (by kernel_rfl) (fun _ _ _ h => by cases h.1) (Or.inl ⟨by rfl, ?_⟩) (by assumption) ?_
  · clear hHeld; intro X hSw; clear hSw; go_simp
  simp only [Act.put, List.getElem_toArray, List.getElem_cons_zero, List.getElem_cons_succ, List.setIfInBounds_toArray, List.set_cons_zero, List.set_cons_succ]
  refine wpAnyH_take (i := 3) (oi := _) (v := .pointer (some ⟨A, 10, none⟩)) rfl (by kernel_rfl) (by kernel_rfl) (by kernel_rfl) (fun _ _ _ h => by cases h.1) (Or.inl ⟨by rfl, ?_⟩) (by assumption) ?_
  · clear hHeld; intro X hSw; clear hSw; go_simp
  simp only [Act.put, List.getElem_toArray, List.getElem_cons_zero, List.getElem_cons_succ, List.setIfInBounds_toArray, List.set_cons_zero, List.set_cons_succ]
  refine wpAnyH_take (i := 5) (oi := _) (v := .pointer (some ⟨B, 0, none⟩)) rfl (by kernel_rfl) (by kernel_rfl) (by kernel_rfl) (fun _ _ _ h => by cases h.1) (Or.inl ⟨by rfl, ?_⟩) (by assumption) ?_
  · clear hHeld; intro X hSw; clear hSw; go_simp
  simp only [Act.put, List.getElem_toArray, List.getElem_cons_zero, List.getElem_cons_succ, List.setIfInBounds_toArray, List.set_cons_zero, List.set_cons_succ]
  refine wpAnyH_take (i := 6) (oi := _) (v := .pointer (some ⟨B, 0, none⟩)) rfl (by kernel_rfl) (by kernel_rfl) (by kernel_rfl) (fun _ _ _ h => by cases h.1) (Or.inl ⟨by rfl, ?_⟩) (by assumption) ?_
  · clear hHeld; intro X hSw; clear hSw; go_simp
  simp only [Act.put, List.getElem_toArray, List.getElem_cons_zero, List.getElem_cons_succ, List.setIfInBounds_toArray, List.set_cons_zero, List.set_cons_succ]
  refine wpAnyH_take (i := 7) (oi := _) (v := .pointer (some ⟨B, 0, none⟩)) rfl (by kernel_rfl) (by kernel_rfl) (by kernel_rfl) (fun _ _ _ h => by cases h.1) (Or.inl ⟨by rfl, ?_⟩) (by assumption) ?_
  · clear hHeld; intro X hSw; clear hSw; go_simp
  simp only [Act.put, List.getElem_toArray, List.getElem_cons_zero, List.getElem_cons_succ, List.setIfInBounds_toArray, List.set_cons_zero, List.set_cons_succ]
  refine wpAnyH_take (i := 8) (oi := _) (v := .agg #[.int .i8 hb.x.s.op, .int .i64 hb.x.s.id, .int .i64 hb.x.s.par, .int .i64 hb.x.s.at_, .string hb.x.s.tx, .int .i64 hb.x.s.sub.id, .int .i64 hb.x.s.sub.kind, .string hb.x.s.sub.text, .slice hb.x.a sn hb.x.c]) rfl (by kernel_rfl) (by kernel_rfl) (by kernel_rfl) (fun _ _ _ h => by cases h.1) (Or.inl ⟨by rfl, ?_⟩) (by assumption) ?_
  · clear hHeld; intro X hSw; obtain ⟨q0, q1, q2, q3, q4, q5, q6, q7, q8⟩ := HSW.out X hSw; clear hSw; go_simp
  simp only [Act.put, List.getElem_toArray, List.getElem_cons_zero, List.getElem_cons_succ, List.setIfInBounds_toArray, List.set_cons_zero, List.set_cons_succ]
  refine wpAnyH_ready (rs := [4, 9]) (by kernel_rfl) (by simp) ?_
  refine AllReadyH.cons (o := _) rfl (fun K hK => ?_) (AllReadyH.cons (o := _) rfl (fun K hK => ?_) (AllReadyH.nil))
  · skip
    rw [if_pos (by rfl)]
    simp only [List.getElem_toArray, List.getElem_cons_zero, List.getElem_cons_succ]
    have HK := Lib.hid hK
    clear hK hHeld
    have l0 := HWC.out.1
    go_wp2_with fail
    refine HK.out _ _ HSQ.out.1 (fun hHeld => ?_)
    clear HK l0
    refine wpAnyH_ready (rs := [9]) (by kernel_rfl) (by simp) ?_
    refine AllReadyH.cons (o := _) rfl (fun K hK => ?_) (AllReadyH.nil)
    rw [if_pos (by rfl)]
    simp only [List.getElem_toArray, List.getElem_cons_zero, List.getElem_cons_succ]
    have HK := Lib.hid hK
    clear hK hHeld
    go_wp2_with fail
    rw [← HU.out]
    refine HK.out _ _ HSQ.out.2.1 (fun hHeld => ?_)
    clear HK
    refine wpAnyH_ready (rs := [10]) (by kernel_rfl) (by simp) ?_
    refine AllReadyH.cons (o := _) rfl (fun K hK => ?_) (AllReadyH.nil)
    refine step_append_runI rfl (.tmp 9) (.tmp 14) 29 29 rfl (.slice ha.ta tn ha.tc) (.slice (some ⟨V.heap.size, 0, none⟩) 1 1) (by simp [Act.eval, Act.put]) (by simp [Act.eval, Act.put]) HRUN.out (hK _ _ HSQ.out.2.2.1 (fun hHeld => ?_))
    clear hK
    refine wpAnyH_take (i := 11) (oi := _) (v := .pointer (some ⟨A, 0, none⟩)) rfl (by kernel_rfl) (by kernel_rfl) (by kernel_rfl) (fun _ _ _ h => by cases h.1) (Or.inl ⟨by rfl, ?_⟩) (by assumption) ?_
    · clear hHeld; intro X hSw; clear hSw; go_simp
    simp only [Act.put, List.getElem_toArray, List.getElem_cons_zero, List.getElem_cons_succ, List.setIfInBounds_toArray, List.set_cons_zero, List.set_cons_succ]
    refine wpAnyH_take (i := 12) (oi := _) (v := .pointer (some ⟨A, 10, none⟩)) rfl (by kernel_rfl) (by kernel_rfl) (by kernel_rfl) (fun _ _ _ h => by cases h.1) (Or.inl ⟨by rfl, ?_⟩) (by assumption) ?_
    · clear hHeld; intro X hSw; clear hSw; go_simp
    simp only [Act.put, List.getElem_toArray, List.getElem_cons_zero, List.getElem_cons_succ, List.setIfInBounds_toArray, List.set_cons_zero, List.set_cons_succ]
    refine wpAnyH_ready (rs := [13]) (by kernel_rfl) (by simp) ?_
    refine AllReadyH.cons (o := _) rfl (fun K hK => ?_) (AllReadyH.nil)
    rw [if_pos (by rfl)]
    simp only [List.getElem_toArray, List.getElem_cons_zero, List.getElem_cons_succ]
    have HK := Lib.hid hK
    clear hK hHeld
    obtain ⟨b7, f7⟩ := HB7.out
    go_wp2_with fail
    rw [← HW9.out]
    refine HK.out _ _ HSQ.out.2.2.2 (fun hHeld => ?_)
    clear HK b7 f7
    refine wpAnyH_done (by kernel_rfl) ?_ _
    refine ⟨rfl, ?_⟩
    clear hHeld
    go_wp2_with fail
    go_ret
    exact HE.out
  · skip
    rw [if_pos (by rfl)]
    simp only [List.getElem_toArray, List.getElem_cons_zero, List.getElem_cons_succ]
    have HK := Lib.hid hK
    clear hK hHeld
    go_wp2_with fail
    rw [← HU.out]
    refine HK.out _ _ HSQ.out.2.1 (fun hHeld => ?_)
    clear HK
    refine wpAnyH_ready (rs := [4]) (by kernel_rfl) (by simp) ?_
    refine AllReadyH.cons (o := _) rfl (fun K hK => ?_) (AllReadyH.nil)
    rw [if_pos (by rfl)]
    simp only [List.getElem_toArray, List.getElem_cons_zero, List.getElem_cons_succ]
    have HK := Lib.hid hK
    clear hK hHeld
    have l0 := HWC.out.2
    go_wp2_with fail
    refine HK.out _ _ HSQ.out.2.1 (fun hHeld => ?_)
    clear HK l0
    refine wpAnyH_ready (rs := [10]) (by kernel_rfl) (by simp) ?_
    refine AllReadyH.cons (o := _) rfl (fun K hK => ?_) (AllReadyH.nil)
    refine step_append_runI rfl (.tmp 9) (.tmp 14) 29 29 rfl (.slice ha.ta tn ha.tc) (.slice (some ⟨V.heap.size, 0, none⟩) 1 1) (by simp [Act.eval, Act.put]) (by simp [Act.eval, Act.put]) HRUN.out (hK _ _ HSQ.out.2.2.1 (fun hHeld => ?_))
    clear hK
    refine wpAnyH_take (i := 11) (oi := _) (v := .pointer (some ⟨A, 0, none⟩)) rfl (by kernel_rfl) (by kernel_rfl) (by kernel_rfl) (fun _ _ _ h => by cases h.1) (Or.inl ⟨by rfl, ?_⟩) (by assumption) ?_
    · clear hHeld; intro X hSw; clear hSw; go_simp
    simp only [Act.put, List.getElem_toArray, List.getElem_cons_zero, List.getElem_cons_succ, List.setIfInBounds_toArray, List.set_cons_zero, List.set_cons_succ]
    refine wpAnyH_take (i := 12) (oi := _) (v := .pointer (some ⟨A, 10, none⟩)) rfl (by kernel_rfl) (by kernel_rfl) (by kernel_rfl) (fun _ _ _ h => by cases h.1) (Or.inl ⟨by rfl, ?_⟩) (by assumption) ?_
    · clear hHeld; intro X hSw; clear hSw; go_simp
    simp only [Act.put, List.getElem_toArray, List.getElem_cons_zero, List.getElem_cons_succ, List.setIfInBounds_toArray, List.set_cons_zero, List.set_cons_succ]
    refine wpAnyH_ready (rs := [13]) (by kernel_rfl) (by simp) ?_
    refine AllReadyH.cons (o := _) rfl (fun K hK => ?_) (AllReadyH.nil)
    rw [if_pos (by rfl)]
    simp only [List.getElem_toArray, List.getElem_cons_zero, List.getElem_cons_succ]
    have HK := Lib.hid hK
    clear hK hHeld
    obtain ⟨b7, f7⟩ := HB7.out
    go_wp2_with fail
    rw [← HW9.out]
    refine HK.out _ _ HSQ.out.2.2.2 (fun hHeld => ?_)
    clear HK b7 f7
    refine wpAnyH_done (by kernel_rfl) ?_ _
    refine ⟨rfl, ?_⟩
    clear hHeld
    go_wp2_with fail
    go_ret
    exact HE.out
end Go.Proofs.Ytpbjncljecfaeaa
