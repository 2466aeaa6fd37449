/-
  The law's own look at a walk: it goes over just these. No condition but that there are at most 2000 nodes.
-/
import Derived.Test.YtbbiemnjidfglaaDoorEFind
import Derived.Test.YtbbiemnjidfglaaDoorEWRange
import Derived.Test.YtbbiemnjidfglaaDoorESome
import Derived.Test.YtbbiemnjidfglaaDoorRWalkN
namespace Go.Proofs.YtbbiemnjidfglaaDoor
open Go.RowKit Go.Shelf
attribute [local go_sem] Oper.semAt_some
attribute [local go_sem] seq_nil
set_option linter.unusedVariables false
set_option linter.unusedSimpArgs false

def TrueB (w : World) (e : Ending) (w' : World) : Prop := e = .returned (.bool true) ∧ Below w.heap.size w w'
/-- Ahead of the next node: so many were told. -/
def WalksI (W : World) (nb : Nat) (pre : List Sp) (V : World) : Prop := Touched W V (fun y => y = nb + 4) ∧ V.heap[nb + 4]? = some (.cells #[.int .i64 (pre.length : Int)] 3 (0, 0))
/-- It was left. -/
def WalksX (W : World) (nb : Nat) (leave : Int) (c : Code) (V : World) : Prop := c = .exit 0 ∧ Touched W V (fun y => y = nb + 4) ∧ V.heap[nb + 4]? = some (.cells #[.int .i64 leave] 3 (0, 0))
theorem touched_more {W V V' : World} {S : Nat → Prop} (h : Touched W V S) (hb : Below W.heap.size V V') : Touched W V' S :=
  ⟨hb.os.trans h.os, hb.tape.trans h.tape, hb.output.trans h.output, Nat.le_trans h.size hb.size, fun k hk hn => (hb.block k hk).trans (h.block k hk hn)⟩
theorem WalksI.turn {W V V' : World} {nb : Nat} {pre : List Sp} (h : WalksI W nb pre V) (hn : nb + 4 < W.heap.size) (hb : Below W.heap.size V V') : WalksI W nb pre V' := ⟨touched_more h.1 hb, (hb.block _ hn).trans h.2⟩
theorem WalksX.turn {W V V' : World} {nb : Nat} {leave : Int} {c : Code} (h : WalksX W nb leave c V) (hn : nb + 4 < W.heap.size) (hb : Below W.heap.size V V') : WalksX W nb leave c V' := ⟨h.1, touched_more h.2.1 hb, (hb.block _ hn).trans h.2.2⟩
theorem results_cellB {P : Program} {fn : Func} {p : Tmp} {tb : TypeId} (h : fn.results = #[.cell p tb]) (tmps : Array Value) (w : World) (g : Nat) (b : Bool) (hp : tmps.getD p undef = .pointer (some ⟨g, 0, none⟩)) (hc : w.cell? ⟨g, 0, none⟩ = some (.bool b)) (hb : ∀ w, (isAgg tb).run P w = .ok false w) :
    (results fn tmps).run P w = .ok (.bool b) w := by
  have hp' : tmps[p]?.getD undef = .pointer (some ⟨g, 0, none⟩) := by simpa using hp
  have hl : (loadVar tb ⟨g, 0, none⟩).run P w = .ok (.bool b) w := by simp [go_sem, hc, hb, Result.andThen]
  simp [results, h, hp', asAddr, hl]
theorem walks_end {w X2 W V : World} {nb D : Nat} (h0 : Below w.heap.size w X2) (h1 : Below X2.heap.size X2 W) (h2 : Touched W V (fun y => y = nb + 4)) (k3 : V.heap[nb + 3]? = some (.cells #[.bool false] 4 (0, 0))) (hz : X2.heap.size = nb + 5) (hn : nb = w.heap.size) (hK : V.heap[D]? = some (.deferred (some []))) (hD : nb + 5 ≤ D) :
    (V.setCell ⟨nb + 1 + 1 + 1, 0, none⟩ (.bool true)).heap[D]? = some (.deferred (some [])) ∧ ((V.setCell ⟨nb + 1 + 1 + 1, 0, none⟩ (.bool true)).putObj D (.deferred none)).cell? ⟨nb + 1 + 1 + 1, 0, none⟩ = some (.bool true) ∧ Below w.heap.size w ((V.setCell ⟨nb + 1 + 1 + 1, 0, none⟩ (.bool true)).putObj D (.deferred none)) := by
  have hs0 := h0.size
  have hs1 := h1.size
  have hs2 := h2.size
  have hk : ∀ y, y ≠ nb + 3 → (V.setCell ⟨nb + 1 + 1 + 1, 0, none⟩ (.bool true)).heap[y]? = V.heap[y]? := fun y hy => Below.heap_setCell _ _ _ _ hy
  refine ⟨(hk D (by omega)).trans hK, ?_, h2.os.trans (h1.os.trans h0.os), h2.tape.trans (h1.tape.trans h0.tape), h2.output.trans (h1.output.trans h0.output), by simp [World.putObj, World.setCell]; omega, fun y hy => ?_⟩
  · have e : ((V.setCell ⟨nb + 1 + 1 + 1, 0, none⟩ (.bool true)).putObj D (.deferred none)).heap[nb + 1 + 1 + 1]? = some (.cells #[.bool true] 4 (0, 0)) := by
      rw [World.putObj_heap_other (by omega), heap_setCell_same V (nb + 1 + 1 + 1) 0 _ _ _ k3]; simp
    rw [cell_of_row _ _ 0 _ _ _ e]; rfl
  · rw [World.putObj_heap_other (by omega), hk y (by omega), h2.block y (by omega) (by omega), h1.block y (by omega), h0.block y hy]
theorem walks_round {W V V1 X3 X2 : World} {nb l np : Nat} {o o' : Obj} {SS : Nat → Prop} (h1 : Touched W V (fun y => y = nb + 4)) (hb : Below V1.heap.size V1 X3) (h4 : X3.heap[nb + 4]? = some (.cells #[.int .i64 (np : Int)] 3 (0, 0))) (hk1 : ∀ y, y ≠ l → y < V.heap.size → V1.heap[y]? = V.heap[y]?) (hs1 : V1.heap.size = V.heap.size + 1) (hlV : l < V.heap.size) (hlW : W.heap.size < l) (ev : V1 = (V.alloc o).putObj l o') (hz : X2.heap.size = nb + 5) (hXW : X2.heap.size ≤ W.heap.size) (hSS : ∀ y, SS y → y ≠ nb + 4) :
    (V1.heap.size ≤ (X3.setCell ⟨nb + 1 + 1 + 1 + 1, 0, none⟩ (.int .i64 ((np : Int) + 1))).heap.size ∧ ∀ y, (W.heap.size ≤ y ∨ SS y) → y < V1.heap.size → (X3.setCell ⟨nb + 1 + 1 + 1 + 1, 0, none⟩ (.int .i64 ((np : Int) + 1))).heap[y]? = V1.heap[y]?) ∧
      Touched W (X3.setCell ⟨nb + 1 + 1 + 1 + 1, 0, none⟩ (.int .i64 ((np : Int) + 1))) (fun y => y = nb + 4) ∧ (X3.setCell ⟨nb + 1 + 1 + 1 + 1, 0, none⟩ (.int .i64 ((np : Int) + 1))).heap[nb + 4]? = some (.cells #[.int .i64 ((np : Int) + 1)] 3 (0, 0)) := by
  have hk : ∀ y, y ≠ nb + 4 → (X3.setCell ⟨nb + 1 + 1 + 1 + 1, 0, none⟩ (.int .i64 ((np : Int) + 1))).heap[y]? = X3.heap[y]? := fun y hy => Below.heap_setCell _ _ _ _ hy
  have hs := hb.size
  have hsW := h1.size
  refine ⟨⟨by simp [World.setCell]; omega, fun y hy hl => ?_⟩, ⟨?_, ?_, ?_, by simp [World.setCell]; omega, fun y hy hn => ?_⟩, ?_⟩
  · have : y ≠ nb + 4 := by
      rcases hy with hy | hy
      · omega
      · exact hSS y hy
    rw [hk y this, hb.block y hl]
  · exact (hb.os.trans (by rw [ev]; rfl)).trans h1.os
  · exact (hb.tape.trans (by rw [ev]; rfl)).trans h1.tape
  · exact (hb.output.trans (by rw [ev]; rfl)).trans h1.output
  · rw [hk y hn, hb.block y (by omega), hk1 y (by omega) (by omega), h1.block y hy hn]
  · rw [heap_setCell_same X3 (nb + 1 + 1 + 1 + 1) 0 _ _ _ h4]; simp
theorem spF_fit : ∀ (d : Nat) (f : Fo), foFit f → ∀ x ∈ spF d f, foLen x.2.2 ≤ 9223372036854775807 ∧ foFit x.2.2
  | _, .nil, _, x, h => by simp [spF] at h
  | d, .node _ _ k l r, hf, x, h => by
    simp only [spF, List.mem_cons, List.mem_append] at h
    rcases h with rfl | h | h
    · exact ⟨hf.1, hf.2.1⟩
    · exact spF_fit (d + 1) l hf.2.1 x h
    · exact spF_fit d r hf.2.2 x h
set_option maxRecDepth 100000 in
set_option maxHeartbeats 4000000 in
theorem walks_any (w : World) (S S2 : Nat → Prop) (nv : Value) (t : Tr) (B : Nat) (lv : Value) (leave : Int) (hS : ∀ x, S x → CellsB w x) (ht : TrAt w S nv t) (hsz : foSize t.kids + 1 ≤ 2000) (hsp : SpotsN S2 w B lv (foSize t.kids + 1) (spF 1 (rootF t))) (hS2 : ∀ x, S2 x → CellsB w x) (hfit : foFit t.kids) :
    Calls Tryd.prog 14 #[nv, lv, .int .i64 leave] w (TrueB w) := by
  obtain ⟨ka, cap, rfl, hcap, hk⟩ := ht
  obtain ⟨n, hn⟩ : ∃ n, n = foLen t.kids := ⟨_, rfl⟩
  obtain ⟨q, hq⟩ : ∃ q, q = foSize t.kids + 1 := ⟨_, rfl⟩
  have hq5 : q ≤ 2000 := by omega
  rw [← hq] at hsp
  obtain ⟨hTl, xs, ho, hx⟩ := hsp
  obtain ⟨la, lcap, rfl⟩ := owns_slice ho
  rw [← hn]
  have HSP := Lib.hid (And.intro hTl (And.intro ho hx))
  have hal := allocs_at [.cells #[.int .i64 t.id, .int .i64 t.kind, .string t.text, .slice ka n cap] 24, .cells #[.slice la q lcap] 34, .cells #[.int .i64 leave] 3, .cells #[.bool false] 4, .cells #[.int .i64 0] 3] w
  have hab := allocs_below [.cells #[.int .i64 t.id, .int .i64 t.kind, .string t.text, .slice ka n cap] 24, .cells #[.slice la q lcap] 34, .cells #[.int .i64 leave] 3, .cells #[.bool false] 4, .cells #[.int .i64 0] 3] w
  have has := allocs_size [.cells #[.int .i64 t.id, .int .i64 t.kind, .string t.text, .slice ka n cap] 24, .cells #[.slice la q lcap] 34, .cells #[.int .i64 leave] 3, .cells #[.bool false] 4, .cells #[.int .i64 0] 3] w
  have HA := Lib.hid (And.intro hab (And.intro (hal 1 _ rfl) (And.intro (hal 2 _ rfl) (And.intro (hal 3 _ rfl) (And.intro (hal 4 _ rfl) has)))))
  have H := Lib.hid (And.intro hS (And.intro hcap (And.intro hk (And.intro hsz (And.intro hn (And.intro hq (And.intro hS2 hfit)))))))
  clear hS hcap hk hsz hn hq hS2 hfit hal hab has hTl ho hx
  refine (callsIn_wide (n := 12)).1 ?_
  refine callsIn_of_wp_marks Tryd.func14 rfl trivial ?_ rfl
  simp only [Tryd.ntmps14, List.size_toArray, List.length_cons, List.length_nil, Nat.reduceAdd, Nat.reduceSub, Array.replicate_succ, Array.replicate_zero, List.push_toArray, List.append_toArray, List.nil_append, List.cons_append]
  gi_wp2_with fail
  change Fence.wide.fn _ ∧ CallsIn Fence.wide _ _ _ _ (allocs w [.cells #[.int .i64 t.id, .int .i64 t.kind, .string t.text, .slice ka n cap] 24, .cells #[.slice la q lcap] 34, .cells #[.int .i64 leave] 3, .cells #[.bool false] 4, .cells #[.int .i64 0] 3]) _
  generalize hX : allocs w _ = X2 at HA ⊢
  obtain ⟨nb, hnb⟩ : ∃ nb, nb = w.heap.size := ⟨_, rfl⟩
  rw [← hnb]
  have HX2 := Lib.hid (show Below w.heap.size w X2 ∧ (∀ x, S x → CellsB X2 x ∧ x < nb) ∧ TrAt X2 S (.agg #[.int .i64 t.id, .int .i64 t.kind, .string t.text, .slice ka n cap]) t ∧ foSize t.kids + 1 ≤ 2000 ∧ X2.heap[nb + 1]? = some (.cells #[.slice la q lcap] 34 (0, 0)) ∧ X2.heap[nb + 2]? = some (.cells #[.int .i64 leave] 3 (0, 0)) ∧ X2.heap[nb + 3]? = some (.cells #[.bool false] 4 (0, 0)) ∧ X2.heap[nb + 4]? = some (.cells #[.int .i64 0] 3 (0, 0)) ∧ X2.heap.size = nb + 5 ∧ nb = w.heap.size from by
    obtain ⟨a1, a2, a3, a4, a5, a6⟩ := HA.out
    subst hnb
    have hk : ∀ x, x < w.heap.size → X2.heap[x]? = w.heap[x]? := a1.block
    exact ⟨a1, fun x hx => by
      obtain ⟨cs, ty, fr, hc⟩ := H.out.1 x hx
      exact ⟨⟨cs, ty, fr, (hk x (lt_of_heap hc)).trans hc⟩, lt_of_heap hc⟩, ⟨ka, cap, by rw [H.out.2.2.2.2.1], H.out.2.1, H.out.2.2.1.kept fun x hx => ⟨hx, hk x (H.out.1 x hx).lt⟩⟩, H.out.2.2.2.1, a2, a3, a4, a5, a6, rfl⟩)
  clear hX HA hnb
  refine ⟨trivial, ?_⟩
  gi_at_call 16
  refine (callsIn_wide.2 (walk_any X2 S _ t (fun x hx => (HX2.out.2.1 x hx).1) HX2.out.2.2.1 (by have := HX2.out.2.2.2.1; omega))).mono ?_
  rintro e W ⟨HBk, BBk, rfl, hb3, _, _, hwa⟩
  have HWA := Lib.hid hwa
  have HW := Lib.hid hb3
  clear hwa hb3
  gi_wp2_with fail
  refine range_walk (by omega) rfl _ t HWA.out (fun x hx => hx.1) (by have := HX2.out.2.2.2.1; omega) rfl (WalksI W nb) (WalksX W nb leave) ?hI ?hIx ⟨Touched.refl _ _, (HW.out.block _ (by have := HX2.out.2.2.2.2.2.2.2.2.1; omega)).trans HX2.out.2.2.2.2.2.2.2.1⟩ ?round ?done ?stop
  case hI => exact fun h hb => h.turn (by have := HW.out.size; have := HX2.out.2.2.2.2.2.2.2.2.1; omega) hb
  case hIx => exact fun h hb => h.turn (by have := HW.out.size; have := HX2.out.2.2.2.2.2.2.2.2.1; omega) hb
  case done =>
    rintro D V hD ⟨h1, h2⟩ hK
    rw [show (spF 1 (rootF t)).length = q from HSP.out.1] at h2
    have hz := HX2.out.2.2.2.2.2.2.2.2.1
    have hsW := HW.out.size
    have hlow : ∀ y, y < nb + 4 → V.heap[y]? = X2.heap[y]? := fun y hy => (h1.block y (by omega) (by omega)).trans (HW.out.block y (by omega))
    have k1 : V.heap[nb + 1]? = _ := (hlow _ (by omega)).trans HX2.out.2.2.2.2.1
    have k2 : V.heap[nb + 2]? = _ := (hlow _ (by omega)).trans HX2.out.2.2.2.2.2.1
    have k3 : V.heap[nb + 3]? = _ := (hlow _ (by omega)).trans HX2.out.2.2.2.2.2.2.1
    have c1 : V.cell? ⟨nb + 1, 0, none⟩ = some (.slice la q lcap) := by rw [cell_of_row _ _ 0 _ _ _ k1]; rfl
    have c2 : V.cell? ⟨nb + 1 + 1, 0, none⟩ = some (.int .i64 leave) := by rw [cell_of_row _ _ 0 _ _ _ k2]; rfl
    have c3 : V.cell? ⟨nb + 1 + 1 + 1, 0, none⟩ = some (.bool false) := by rw [cell_of_row _ _ 0 _ _ _ k3]; rfl
    have c4 : V.cell? ⟨nb + 1 + 1 + 1 + 1, 0, none⟩ = some (.int .i64 (q : Int)) := by rw [cell_of_row _ _ 0 _ _ _ h2]; rfl
    have f3 : V.frozen? ⟨nb + 1 + 1 + 1, 0, none⟩ = false := frozen_of_row _ _ 0 _ _ k3
    have HE := Lib.hid (walks_end HX2.out.1 HW.out h1 k3 hz HX2.out.2.2.2.2.2.2.2.2.2 hK (by omega))
    clear h1 h2 hlow k1 k2 k3 HX2 HW HWA H HSP hz hsW hD
    gi_wp2
    obtain ⟨e1, e2, e3⟩ := HE.out
    refine ⟨by simp, .inl ⟨_, _, rfl, run_takeDeferred e1, ?_⟩⟩
    exact ⟨_, results_cellB rfl _ _ _ true rfl e2 (fun _ => by kernel_rfl), rfl, e3⟩
  case stop =>
    rintro D c V hD ⟨rfl, h1, h2⟩ hK
    have hz := HX2.out.2.2.2.2.2.2.2.2.1
    have hsW := HW.out.size
    have hlow : ∀ y, y < nb + 4 → V.heap[y]? = X2.heap[y]? := fun y hy => (h1.block y (by omega) (by omega)).trans (HW.out.block y (by omega))
    have k1 : V.heap[nb + 1]? = _ := (hlow _ (by omega)).trans HX2.out.2.2.2.2.1
    have k2 : V.heap[nb + 2]? = _ := (hlow _ (by omega)).trans HX2.out.2.2.2.2.2.1
    have k3 : V.heap[nb + 3]? = _ := (hlow _ (by omega)).trans HX2.out.2.2.2.2.2.2.1
    have c1 : V.cell? ⟨nb + 1, 0, none⟩ = some (.slice la q lcap) := by rw [cell_of_row _ _ 0 _ _ _ k1]; rfl
    have c2 : V.cell? ⟨nb + 1 + 1, 0, none⟩ = some (.int .i64 leave) := by rw [cell_of_row _ _ 0 _ _ _ k2]; rfl
    have c3 : V.cell? ⟨nb + 1 + 1 + 1, 0, none⟩ = some (.bool false) := by rw [cell_of_row _ _ 0 _ _ _ k3]; rfl
    have c4 : V.cell? ⟨nb + 1 + 1 + 1 + 1, 0, none⟩ = some (.int .i64 leave) := by rw [cell_of_row _ _ 0 _ _ _ h2]; rfl
    have f3 : V.frozen? ⟨nb + 1 + 1 + 1, 0, none⟩ = false := frozen_of_row _ _ 0 _ _ k3
    have HE := Lib.hid (walks_end HX2.out.1 HW.out h1 k3 hz HX2.out.2.2.2.2.2.2.2.2.2 hK (by omega))
    clear h1 h2 hlow k1 k2 k3 HX2 HW HWA H HSP hz hsW hD
    have hll : (leave == leave) = true := by simp
    by_cases hlq : leave = (q : Int)
    · have hlb : (leave == (q : Int)) = true := by simpa using hlq
      clear hlq
      gi_wp2
      obtain ⟨e1, e2, e3⟩ := HE.out
      refine ⟨by simp, .inl ⟨_, _, rfl, run_takeDeferred e1, ?_⟩⟩
      exact ⟨_, results_cellB rfl _ _ _ true rfl e2 (fun _ => by kernel_rfl), rfl, e3⟩
    · have hlb : (leave == (q : Int)) = false := by simpa using hlq
      clear hlq
      gi_wp2
      obtain ⟨e1, e2, e3⟩ := HE.out
      refine ⟨by simp, .inl ⟨_, _, rfl, run_takeDeferred e1, ?_⟩⟩
      exact ⟨_, results_cellB rfl _ _ _ true rfl e2 (fun _ => by kernel_rfl), rfl, e3⟩
  case round =>
    rintro l hl pre rest x V v htot hV ⟨h1, h2⟩ hv K hK
    obtain ⟨ya, yc, rfl, hyc, hyk⟩ := hv
    have hx0 : (spF 1 (rootF t))[pre.length]? = some x := by rw [htot]; simp
    have hpq : pre.length < q := by have := (List.getElem?_eq_some_iff.1 hx0).1; have := HSP.out.1; omega
    obtain ⟨np, hnp⟩ : ∃ np, np = pre.length := ⟨_, rfl⟩
    rw [← hnp] at h2 hx0 hpq
    obtain ⟨p0, p1, p2, ⟨ka2, cap2, p3, hc2, hk2⟩, p4⟩ := HSP.out.2.2 np x hx0
    have hgg : ∃ g, la = some ⟨g, 0, none⟩ := by
      rcases HSP.out.2.1.2 with ⟨_, h0⟩ | ⟨g, cap3, cur, hv3, _⟩
      · omega
      · cases hv3; exact ⟨g, rfl⟩
    obtain ⟨g, rfl⟩ := hgg
    have hxm : x ∈ spF 1 (rootF t) := List.mem_of_getElem? hx0
    have hxs := spF_size0 1 (rootF t) x hxm
    rw [rootF_size] at hxs
    have hxd := spF_depth 1 (rootF t) x hxm
    rw [rootF_size] at hxd
    have hxf := spF_fit 1 (rootF t) ⟨by have := foLen_le t.kids; have := H.out.2.2.2.1; omega, H.out.2.2.2.2.2.2.2, True.intro⟩ x hxm
    obtain ⟨n2, hn2⟩ : ∃ n2, n2 = foLen x.2.2 := ⟨_, rfl⟩
    obtain ⟨d, hd⟩ : ∃ d, d = x.1 := ⟨_, rfl⟩
    have hd5 : d ≤ 5000 := by have := H.out.2.2.2.1; omega
    have q0 := owns_cell HSP.out.2.1 rfl _ _ p0
    have q1 := owns_cell HSP.out.2.1 rfl _ _ p1
    have q2 := owns_cell HSP.out.2.1 rfl _ _ p2
    have q3 := owns_cell HSP.out.2.1 rfl _ _ p3
    have q4 := owns_cell HSP.out.2.1 rfl _ _ p4
    simp only [trOf] at hyc hyk ⊢
    rw [← hn2] at hyc q3 hc2 ⊢
    rw [← hd] at q4 ⊢
    have hgl := World.block_lt_of_cell? _ _ q0
    have hz := HX2.out.2.2.2.2.2.2.2.2.1
    have hsW := HW.out.size
    have HR := Lib.hid (And.intro h1 (And.intro h2 (And.intro hV (And.intro hl (And.intro hnp (And.intro hyk (And.intro hk2 (And.intro hxf (And.intro hn2 (And.intro hyc hc2))))))))))
    have HQ := Lib.hid (And.intro q0 (And.intro q1 (And.intro q2 (And.intro q3 q4))))
    have HXS := Lib.hid (And.intro hxs hgl)
    have HKK := Lib.hid hK
    have HZ := Lib.hid (And.intro hz (And.intro hsW HX2.out.2.2.2.2.2.2.2.2.2))
    clear h1 h2 hV hl hK htot hyc hyk hx0 hnp p0 p1 p2 p3 p4 hc2 hk2 hxm hxs hxd hxf hn2 hd q0 q1 q2 q3 q4 hgl hz hsW
    gi_wp2
    refine HKK.out _ (V.alloc (.cells #[.int .i64 x.2.1.1, .int .i64 x.2.1.2.1, .string x.2.1.2.2, .slice ya n2 yc] 24)) ((Below.refl _ V).alloc (Nat.le_refl _) _) fun V1 hV1 => ?_
    clear HKK
    obtain ⟨o', ev, o, ho, hoc⟩ := hV1
    have hk1 : ∀ y, y ≠ l → y < V.heap.size → V1.heap[y]? = V.heap[y]? := fun y hy hyl => by rw [ev, World.putObj_heap_other hy, Below.heap_alloc _ _ _ hyl]
    have hs1 : V1.heap.size = V.heap.size + 1 := by rw [ev]; simp [World.putObj]
    have hvb : V.heap.size = V.heap.size := rfl
    have hbx : V1.heap[V.heap.size]? = some (.cells #[.int .i64 x.2.1.1, .int .i64 x.2.1.2.1, .string x.2.1.2.2, .slice ya n2 yc] 24 (0, 0)) := by
      rw [ev, World.putObj_heap_other (by have := HR.out.2.2.2.1; have := HR.out.2.2.1; omega)]; exact heap_alloc_new V _
    have hlV : l < V.heap.size := by have := HR.out.2.2.2.1; have := HR.out.2.2.1; omega
    have hlW : W.heap.size < l := by have := HR.out.2.2.2.1; omega
    have hlow : ∀ y, y < W.heap.size → y ≠ nb + 4 → V1.heap[y]? = W.heap[y]? := fun y hy hn => (hk1 y (by omega) (by have := HR.out.1.size; omega)).trans (HR.out.1.block y hy hn)
    have hWw : ∀ y, y < nb → W.heap[y]? = w.heap[y]? := fun y hy => (HW.out.block y (by have := HZ.out.1; omega)).trans (HX2.out.1.block y (by have := HZ.out.2.2; omega))
    have hw1 : ∀ y, y < nb → V1.heap[y]? = w.heap[y]? := fun y hy => (hlow y (by have := HZ.out.1; have := HZ.out.2.1; omega) (by omega)).trans (hWw y hy)
    have hgn : g < nb := by have := HXS.out.2; have := HZ.out.2.2; omega
    have hx1 : ∀ y, y < nb + 4 → V1.heap[y]? = X2.heap[y]? := fun y hy => (hlow y (by have := HZ.out.1; have := HZ.out.2.1; omega) (by omega)).trans (HW.out.block y (by have := HZ.out.1; omega))
    have hn4 : V1.heap[nb + 4]? = some (.cells #[.int .i64 (np : Int)] 3 (0, 0)) := (hk1 _ (by have := HZ.out.1; have := HZ.out.2.1; omega) (lt_of_heap HR.out.2.1)).trans HR.out.2.1
    have hn1 : V1.heap[nb + 1]? = some (.cells #[.slice (some ⟨g, 0, none⟩) q lcap] 34 (0, 0)) := (hx1 _ (by omega)).trans HX2.out.2.2.2.2.1
    have hn2' : V1.heap[nb + 2]? = some (.cells #[.int .i64 leave] 3 (0, 0)) := (hx1 _ (by omega)).trans HX2.out.2.2.2.2.2.1
    obtain ⟨SX, hSX⟩ : ∃ SX : World → Prop, SX = fun X => Below V1.heap.size V1 X := ⟨_, rfl⟩
    have HSx : ∀ X, SX X → X.cell? ⟨nb + 1, 0, none⟩ = some (.slice (some ⟨g, 0, none⟩) q lcap) ∧ X.cell? ⟨nb + 1 + 1 + 1 + 1, 0, none⟩ = some (.int .i64 (np : Int)) ∧ X.cell? ⟨g, np * 5, none⟩ = some (.int .i64 x.2.1.1) ∧ X.cell? ⟨g, np * 5 + 1, none⟩ = some (.int .i64 x.2.1.2.1) ∧ X.cell? ⟨g, np * 5 + 2, none⟩ = some (.string x.2.1.2.2) ∧ X.cell? ⟨g, np * 5 + 3, none⟩ = some (.slice ka2 n2 cap2) ∧ X.cell? ⟨g, np * 5 + 4, none⟩ = some (.int .i64 (d : Int)) ∧
        X.cell? ⟨V.heap.size, 0, none⟩ = some (.int .i64 x.2.1.1) ∧ X.cell? ⟨V.heap.size, 1, none⟩ = some (.int .i64 x.2.1.2.1) ∧ X.cell? ⟨V.heap.size, 2, none⟩ = some (.string x.2.1.2.2) ∧ X.cell? ⟨V.heap.size, 3, none⟩ = some (.slice ya n2 yc) := fun X h => by
      rw [hSX] at h
      have e1 := (h.block _ (lt_of_heap hn1)).trans hn1
      have e4 := (h.block _ (lt_of_heap hn4)).trans hn4
      have eb := (h.block _ (lt_of_heap hbx)).trans hbx
      have hge : X.heap[g]? = w.heap[g]? := (h.block g (by have := lt_of_heap hn1; omega)).trans (hw1 g hgn)
      obtain ⟨q0, q1, q2, q3, q4⟩ := HQ.out
      exact ⟨by rw [cell_of_row _ _ 0 _ _ _ e1]; rfl, by rw [cell_of_row _ _ 0 _ _ _ e4]; rfl, (World.cell?_of_block (a := ⟨g, np * 5, none⟩) hge).trans q0, (World.cell?_of_block (a := ⟨g, np * 5 + 1, none⟩) hge).trans q1, (World.cell?_of_block (a := ⟨g, np * 5 + 2, none⟩) hge).trans q2, (World.cell?_of_block (a := ⟨g, np * 5 + 3, none⟩) hge).trans q3, (World.cell?_of_block (a := ⟨g, np * 5 + 4, none⟩) hge).trans q4,
        by rw [cell_of_row _ _ 0 _ _ _ eb]; rfl, by rw [cell_of_row _ _ 1 _ _ _ eb]; rfl, by rw [cell_of_row _ _ 2 _ _ _ eb]; rfl, by rw [cell_of_row _ _ 3 _ _ _ eb]; rfl⟩
    have hS0 : SX V1.drew := by rw [hSX]; exact ⟨rfl, rfl, rfl, Nat.le_refl _, fun _ _ => rfl⟩
    have HSB := Lib.hid (fun (X Y : World) (h : SX X) (hb : Below X.heap.size X Y) => (show SX Y by rw [hSX] at h ⊢; exact h.trans (hb.mono h.size)))
    have HSN : Hid (∀ X, SX X → Calls Tryd.prog 10 #[.agg #[.int .i64 x.2.1.1, .int .i64 x.2.1.2.1, .string x.2.1.2.2, .slice ya n2 yc], .agg #[.int .i64 x.2.1.1, .int .i64 x.2.1.2.1, .string x.2.1.2.2, .slice ka2 n2 cap2]] X (SameC (trOfS x) (trOfS x) X)) := Lib.hid fun X h => by
      rw [hSX] at h
      have hs := h.size
      refine same_any 5000 X (fun y => CellsB V y ∧ ((CellsB W y ∧ (S y ∨ X2.heap.size ≤ y)) ∨ W.heap.size + 2 ≤ y)) S2 _ _ (trOfS x) (trOfS x) (by have := HXS.out.1; have := H.out.2.2.2.1; simp only [trOfS]; omega) HR.out.2.2.2.2.2.2.2.1 (fun y hy => by have := hy.1.lt; omega) (fun y hy => by have := (H.out.2.2.2.2.2.2.1 y hy).lt; have := HZ.out.2.2; have := lt_of_heap hn1; omega) ⟨ya, yc, by simp only [trOfS]; rw [HR.out.2.2.2.2.2.2.2.2.1], by simp only [trOfS]; have h9 := HR.out.2.2.2.2.2.2.2.2.1; have := HR.out.2.2.2.2.2.2.2.2.2.1; omega, HR.out.2.2.2.2.2.1.kept fun y hy => ⟨hy, ?_⟩⟩ ⟨ka2, cap2, by simp only [trOfS]; rw [HR.out.2.2.2.2.2.2.2.2.1], by simp only [trOfS]; have h9 := HR.out.2.2.2.2.2.2.2.2.1; have := HR.out.2.2.2.2.2.2.2.2.2.2; omega, HR.out.2.2.2.2.2.2.1.kept fun y hy => ⟨hy, ?_⟩⟩
      · obtain ⟨⟨cs, ty, fr, hc⟩, _⟩ := hy
        have hyl : y ≠ l := fun e => by
          rw [e] at hc
          rw [Below.heap_alloc _ _ _ hlV, hc] at ho
          cases ho; cases hoc
        rw [h.block y (by have := lt_of_heap hc; omega), hk1 y hyl (lt_of_heap hc)]
      · have hyn : y < nb := by have := (H.out.2.2.2.2.2.2.1 y hy).lt; have := HZ.out.2.2; omega
        rw [h.block y (by have := lt_of_heap hn1; omega), hw1 y hyn]
    have HFIN : Hid (∀ X, SX X → Below V1.heap.size V1 X ∧ X.heap[nb + 4]? = some (.cells #[.int .i64 (np : Int)] 3 (0, 0)) ∧ X.heap[nb + 2]? = some (.cells #[.int .i64 leave] 3 (0, 0))) := Lib.hid fun X h => by
      rw [hSX] at h
      exact ⟨h, (h.block _ (lt_of_heap hn4)).trans hn4, (h.block _ (lt_of_heap hn2')).trans hn2'⟩
    have HV1 := Lib.hid (And.intro hk1 (And.intro hs1 (And.intro hlow (And.intro hvb (And.intro hlV (And.intro hlW ev))))))
    have hqg : ¬ (q : Int) ≤ (np : Int) := by omega
    have hdd : ((d : Int) == (d : Int)) = true := by simp
    have hnp5 : (np : Int) < (q : Int) := by omega
    clear hSX hk1 hs1 hvb hlV hlW ev ho hoc hbx hlow hWw hw1 hx1 hn1 hn2' hn4 hgn
    gi_wp2
    refine region_round (S := SX) (by kernel_rfl) (noDefer (by kernel_rfl)) ?_
    have hHeld := hS0
    clear hS0
    refine anyIn_take (i := 0) (oi := _) (v := (.int .i64 (np : Int))) rfl (by kernel_rfl) (by kernel_rfl) (by kernel_rfl) (fun _ _ _ h => h) (Or.inl ⟨by rfl, ?_⟩) hHeld ?_
    · clear hHeld; intro X hSw; obtain ⟨s0, s1, s2, s3, s4, s5, s6, s7, s8, s9, s10⟩ := HSx X hSw; clear hSw; go_simp
    simp only [Act.put, List.getElem_toArray, List.getElem_cons_zero, List.getElem_cons_succ, List.setIfInBounds_toArray, List.set_cons_zero, List.set_cons_succ]
    refine anyIn_take (i := 1) (oi := _) (v := (.slice (some ⟨g, 0, none⟩) q lcap)) rfl (by kernel_rfl) (by kernel_rfl) (by kernel_rfl) (fun _ _ _ h => h) (Or.inl ⟨by rfl, ?_⟩) hHeld ?_
    · clear hHeld; intro X hSw; obtain ⟨s0, s1, s2, s3, s4, s5, s6, s7, s8, s9, s10⟩ := HSx X hSw; clear hSw; go_simp
    simp only [Act.put, List.getElem_toArray, List.getElem_cons_zero, List.getElem_cons_succ, List.setIfInBounds_toArray, List.set_cons_zero, List.set_cons_succ]
    refine anyIn_take (i := 2) (oi := _) (v := (.int .i64 (q : Int))) rfl (by kernel_rfl) (by kernel_rfl) (by kernel_rfl) (fun _ _ _ h => h) (Or.inl ⟨by rfl, ?_⟩) hHeld ?_
    · clear hHeld; intro X hSw; clear hSw; go_simp
    simp only [Act.put, List.getElem_toArray, List.getElem_cons_zero, List.getElem_cons_succ, List.setIfInBounds_toArray, List.set_cons_zero, List.set_cons_succ]
    refine anyIn_take (i := 3) (oi := _) (v := (.bool false)) rfl (by kernel_rfl) (by kernel_rfl) (by kernel_rfl) (fun _ _ _ h => h) (Or.inl ⟨by rfl, ?_⟩) hHeld ?_
    · clear hHeld; intro X hSw; clear hSw; go_simp
    simp only [Act.put, List.getElem_toArray, List.getElem_cons_zero, List.getElem_cons_succ, List.setIfInBounds_toArray, List.set_cons_zero, List.set_cons_succ]
    refine anyIn_take (i := 4) (oi := _) (v := (.bool false)) rfl (by kernel_rfl) (by kernel_rfl) (by kernel_rfl) (fun _ _ _ h => h) (Or.inl ⟨by rfl, ?_⟩) hHeld ?_
    · clear hHeld; intro X hSw; clear hSw; go_simp
    simp only [Act.put, List.getElem_toArray, List.getElem_cons_zero, List.getElem_cons_succ, List.setIfInBounds_toArray, List.set_cons_zero, List.set_cons_succ]
    refine anyIn_take (i := 5) (oi := _) (v := (.int .i64 (d : Int))) rfl (by kernel_rfl) (by kernel_rfl) (by kernel_rfl) (fun _ _ _ h => h) (Or.inl ⟨by rfl, ?_⟩) hHeld ?_
    · clear hHeld; intro X hSw; clear hSw; go_simp
    simp only [Act.put, List.getElem_toArray, List.getElem_cons_zero, List.getElem_cons_succ, List.setIfInBounds_toArray, List.set_cons_zero, List.set_cons_succ]
    refine anyIn_take (i := 6) (oi := _) (v := (.slice (some ⟨g, 0, none⟩) q lcap)) rfl (by kernel_rfl) (by kernel_rfl) (by kernel_rfl) (fun _ _ _ h => h) (Or.inl ⟨by rfl, ?_⟩) hHeld ?_
    · clear hHeld; intro X hSw; obtain ⟨s0, s1, s2, s3, s4, s5, s6, s7, s8, s9, s10⟩ := HSx X hSw; clear hSw; go_simp
    simp only [Act.put, List.getElem_toArray, List.getElem_cons_zero, List.getElem_cons_succ, List.setIfInBounds_toArray, List.set_cons_zero, List.set_cons_succ]
    refine anyIn_take (i := 7) (oi := _) (v := (.int .i64 (np : Int))) rfl (by kernel_rfl) (by kernel_rfl) (by kernel_rfl) (fun _ _ _ h => h) (Or.inl ⟨by rfl, ?_⟩) hHeld ?_
    · clear hHeld; intro X hSw; obtain ⟨s0, s1, s2, s3, s4, s5, s6, s7, s8, s9, s10⟩ := HSx X hSw; clear hSw; go_simp
    simp only [Act.put, List.getElem_toArray, List.getElem_cons_zero, List.getElem_cons_succ, List.setIfInBounds_toArray, List.set_cons_zero, List.set_cons_succ]
    refine anyIn_take (i := 8) (oi := _) (v := (.pointer (some ⟨g, np * 5, none⟩))) rfl (by kernel_rfl) (by kernel_rfl) (by kernel_rfl) (fun _ _ _ h => h) (Or.inl ⟨by rfl, ?_⟩) hHeld ?_
    · clear hHeld; intro X hSw; clear hSw; go_simp
    simp only [Act.put, List.getElem_toArray, List.getElem_cons_zero, List.getElem_cons_succ, List.setIfInBounds_toArray, List.set_cons_zero, List.set_cons_succ]
    refine anyIn_take (i := 9) (oi := _) (v := (.pointer (some ⟨g, np * 5 + 4, none⟩))) rfl (by kernel_rfl) (by kernel_rfl) (by kernel_rfl) (fun _ _ _ h => h) (Or.inl ⟨by rfl, ?_⟩) hHeld ?_
    · clear hHeld; intro X hSw; clear hSw; go_simp
    simp only [Act.put, List.getElem_toArray, List.getElem_cons_zero, List.getElem_cons_succ, List.setIfInBounds_toArray, List.set_cons_zero, List.set_cons_succ]
    refine anyIn_take (i := 10) (oi := _) (v := (.int .i64 (d : Int))) rfl (by kernel_rfl) (by kernel_rfl) (by kernel_rfl) (fun _ _ _ h => h) (Or.inl ⟨by rfl, ?_⟩) hHeld ?_
    · clear hHeld; intro X hSw; obtain ⟨s0, s1, s2, s3, s4, s5, s6, s7, s8, s9, s10⟩ := HSx X hSw; clear hSw; go_simp
    simp only [Act.put, List.getElem_toArray, List.getElem_cons_zero, List.getElem_cons_succ, List.setIfInBounds_toArray, List.set_cons_zero, List.set_cons_succ]
    refine anyIn_take (i := 11) (oi := _) (v := (.bool false)) rfl (by kernel_rfl) (by kernel_rfl) (by kernel_rfl) (fun _ _ _ h => h) (Or.inl ⟨by rfl, ?_⟩) hHeld ?_
    · clear hHeld; intro X hSw; clear hSw; go_simp
    simp only [Act.put, List.getElem_toArray, List.getElem_cons_zero, List.getElem_cons_succ, List.setIfInBounds_toArray, List.set_cons_zero, List.set_cons_succ]
    refine anyIn_take (i := 12) (oi := _) (v := (.bool false)) rfl (by kernel_rfl) (by kernel_rfl) (by kernel_rfl) (fun _ _ _ h => h) (Or.inl ⟨by rfl, ?_⟩) hHeld ?_
    · clear hHeld; intro X hSw; clear hSw; go_simp
    simp only [Act.put, List.getElem_toArray, List.getElem_cons_zero, List.getElem_cons_succ, List.setIfInBounds_toArray, List.set_cons_zero, List.set_cons_succ]
    refine anyIn_take (i := 13) (oi := _) (v := (.bool false)) rfl (by kernel_rfl) (by kernel_rfl) (by kernel_rfl) (fun _ _ _ h => h) (Or.inl ⟨by rfl, ?_⟩) hHeld ?_
    · clear hHeld; intro X hSw; clear hSw; go_simp
    simp only [Act.put, List.getElem_toArray, List.getElem_cons_zero, List.getElem_cons_succ, List.setIfInBounds_toArray, List.set_cons_zero, List.set_cons_succ]
    refine anyIn_take (i := 14) (oi := _) (v := (.agg #[.int .i64 x.2.1.1, .int .i64 x.2.1.2.1, .string x.2.1.2.2, .slice ya n2 yc])) rfl (by kernel_rfl) (by kernel_rfl) (by kernel_rfl) (fun _ _ _ h => h) (Or.inl ⟨by rfl, ?_⟩) hHeld ?_
    · clear hHeld; intro X hSw; obtain ⟨s0, s1, s2, s3, s4, s5, s6, s7, s8, s9, s10⟩ := HSx X hSw; clear hSw; go_simp
    simp only [Act.put, List.getElem_toArray, List.getElem_cons_zero, List.getElem_cons_succ, List.setIfInBounds_toArray, List.set_cons_zero, List.set_cons_succ]
    refine anyIn_take (i := 15) (oi := _) (v := (.slice (some ⟨g, 0, none⟩) q lcap)) rfl (by kernel_rfl) (by kernel_rfl) (by kernel_rfl) (fun _ _ _ h => h) (Or.inl ⟨by rfl, ?_⟩) hHeld ?_
    · clear hHeld; intro X hSw; obtain ⟨s0, s1, s2, s3, s4, s5, s6, s7, s8, s9, s10⟩ := HSx X hSw; clear hSw; go_simp
    simp only [Act.put, List.getElem_toArray, List.getElem_cons_zero, List.getElem_cons_succ, List.setIfInBounds_toArray, List.set_cons_zero, List.set_cons_succ]
    refine anyIn_take (i := 16) (oi := _) (v := (.int .i64 (np : Int))) rfl (by kernel_rfl) (by kernel_rfl) (by kernel_rfl) (fun _ _ _ h => h) (Or.inl ⟨by rfl, ?_⟩) hHeld ?_
    · clear hHeld; intro X hSw; obtain ⟨s0, s1, s2, s3, s4, s5, s6, s7, s8, s9, s10⟩ := HSx X hSw; clear hSw; go_simp
    simp only [Act.put, List.getElem_toArray, List.getElem_cons_zero, List.getElem_cons_succ, List.setIfInBounds_toArray, List.set_cons_zero, List.set_cons_succ]
    refine anyIn_take (i := 17) (oi := _) (v := (.pointer (some ⟨g, np * 5, none⟩))) rfl (by kernel_rfl) (by kernel_rfl) (by kernel_rfl) (fun _ _ _ h => h) (Or.inl ⟨by rfl, ?_⟩) hHeld ?_
    · clear hHeld; intro X hSw; clear hSw; go_simp
    simp only [Act.put, List.getElem_toArray, List.getElem_cons_zero, List.getElem_cons_succ, List.setIfInBounds_toArray, List.set_cons_zero, List.set_cons_succ]
    refine anyIn_take (i := 18) (oi := _) (v := (.pointer (some ⟨g, np * 5, none⟩))) rfl (by kernel_rfl) (by kernel_rfl) (by kernel_rfl) (fun _ _ _ h => h) (Or.inl ⟨by rfl, ?_⟩) hHeld ?_
    · clear hHeld; intro X hSw; clear hSw; go_simp
    simp only [Act.put, List.getElem_toArray, List.getElem_cons_zero, List.getElem_cons_succ, List.setIfInBounds_toArray, List.set_cons_zero, List.set_cons_succ]
    refine anyIn_take (i := 19) (oi := _) (v := (.agg #[.int .i64 x.2.1.1, .int .i64 x.2.1.2.1, .string x.2.1.2.2, .slice ka2 n2 cap2])) rfl (by kernel_rfl) (by kernel_rfl) (by kernel_rfl) (fun _ _ _ h => h) (Or.inl ⟨by rfl, ?_⟩) hHeld ?_
    · clear hHeld; intro X hSw; obtain ⟨s0, s1, s2, s3, s4, s5, s6, s7, s8, s9, s10⟩ := HSx X hSw; clear hSw; go_simp
    simp only [Act.put, List.getElem_toArray, List.getElem_cons_zero, List.getElem_cons_succ, List.setIfInBounds_toArray, List.set_cons_zero, List.set_cons_succ]
    refine anyIn_one (i := 20) (o := _) (by kernel_rfl) rfl fun K20 hK20 => ?_
    rw [if_pos (by rfl)]
    simp only [List.getElem_toArray, List.getElem_cons_zero, List.getElem_cons_succ]
    have HK20 := Lib.hid hK20
    have HH20 := Lib.hid hHeld
    clear hK20 hHeld
    gi_wp2_with (refine ⟨trivial, ?_⟩; gi_at_call 10; refine (callsIn_wide.2 (HSN.out _ HH20.out)).mono ?_; rintro e X3 ⟨rfl, hb⟩; rw [sameT_refl]; have HX3 := Lib.hid hb; clear hb)
    have hHeld := HSB.out _ X3 HH20.out HX3.out
    refine HK20.out _ _ hHeld ?_
    clear HK20
    refine anyIn_take (i := 21) (oi := _) (v := (.bool false)) rfl (by kernel_rfl) (by kernel_rfl) (by kernel_rfl) (fun _ _ _ h => h) (Or.inl ⟨by rfl, ?_⟩) hHeld ?_
    · clear hHeld; intro X hSw; clear hSw; go_simp
    simp only [Act.put, List.getElem_toArray, List.getElem_cons_zero, List.getElem_cons_succ, List.setIfInBounds_toArray, List.set_cons_zero, List.set_cons_succ]
    refine anyIn_take (i := 22) (oi := _) (v := (.bool false)) rfl (by kernel_rfl) (by kernel_rfl) (by kernel_rfl) (fun _ _ _ h => h) (Or.inl ⟨by rfl, ?_⟩) hHeld ?_
    · clear hHeld; intro X hSw; clear hSw; go_simp
    simp only [Act.put, List.getElem_toArray, List.getElem_cons_zero, List.getElem_cons_succ, List.setIfInBounds_toArray, List.set_cons_zero, List.set_cons_succ]
    refine anyIn_done (by kernel_rfl) ?_ _
    obtain ⟨hb5, hh4, hh2⟩ := HFIN.out _ hHeld
    have c4 : X3.cell? ⟨nb + 1 + 1 + 1 + 1, 0, none⟩ = some (.int .i64 (np : Int)) := by rw [cell_of_row _ _ 0 _ _ _ hh4]; rfl
    have f4 : X3.frozen? ⟨nb + 1 + 1 + 1 + 1, 0, none⟩ = false := frozen_of_row _ _ 0 _ _ hh4
    have c2 : (X3.setCell ⟨nb + 1 + 1 + 1 + 1, 0, none⟩ (.int .i64 ((np : Int) + 1))).cell? ⟨nb + 1 + 1, 0, none⟩ = some (.int .i64 leave) := by
      rw [World.cell?_of_block (w := X3) (a := ⟨nb + 1 + 1, 0, none⟩) (Below.heap_setCell _ _ _ _ (by show nb + 1 + 1 ≠ nb + 1 + 1 + 1 + 1; omega)), cell_of_row _ _ 0 _ _ _ hh2]; rfl
    have HW5 := Lib.hid (walks_round (SS := fun x => CellsB W x ∧ (S x ∨ X2.heap.size ≤ x)) HR.out.1 hb5 hh4 HV1.out.1 HV1.out.2.1 HV1.out.2.2.2.2.1 HV1.out.2.2.2.2.2.1 HV1.out.2.2.2.2.2.2 HZ.out.1 HZ.out.2.1 (fun y hy => by
      rcases hy.2 with h | h
      · have := (HX2.out.2.1 y h).2; omega
      · have := HZ.out.1; omega))
    clear hHeld HSx HSB HSN HFIN HV1 hb5 hh4 hh2
    by_cases hlv : (np : Int) + 1 = leave
    · have hlb : ((np : Int) + 1 == leave) = true := by simpa using hlv
      have HLV := Lib.hid hlv
      clear hlv
      gi_wp2
      refine ⟨HW5.out.1, .inr (.inr ⟨0, rfl, rfl, HW5.out.2.1, ?_⟩)⟩
      rw [HW5.out.2.2, HLV.out]
    · have hlb : ((np : Int) + 1 == leave) = false := by simpa using hlv
      clear hlv
      gi_wp2
      refine ⟨HW5.out.1, .inl ⟨rfl, HW5.out.2.1, ?_⟩⟩
      rw [HW5.out.2.2]
      have h5 := HR.out.2.2.2.2.1
      rw [List.length_append, ← h5]
      rfl
end Go.Proofs.YtbbiemnjidfglaaDoor
