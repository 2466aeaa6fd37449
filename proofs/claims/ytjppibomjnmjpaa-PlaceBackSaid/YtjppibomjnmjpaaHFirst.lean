/-
  The law's own 'first': the first id above a node. No condition but that there are not too many nodes.
-/
import Derived.Test.YtjppibomjnmjpaaHLawA
namespace Go.Proofs.Ytjppibomjnmjpaa
open Go.RowKit Go.Shelf
attribute [local go_sem] Oper.semAt_some
set_option linter.unusedVariables false
set_option linter.unusedSimpArgs false

def firstT (id : Int) (t : Tr) : Int := (aboveT id t).head?.getD 0
def FirI (w W : World) (k : Nat) (V : World) : Prop := k = 0 ∧ V.heap[w.heap.size + 1]? = some (.cells #[.int .i64 0] 3 (0, 0)) ∧ Below w.heap.size w V ∧ W.heap.size ≤ V.heap.size
def FirX (w W : World) (tl : List Int) (c : Code) (V : World) : Prop := c = .ret ∧ (∃ x, tl[0]? = some x ∧ V.heap[w.heap.size + 1]? = some (.cells #[.int .i64 x] 3 (0, 0))) ∧ Below w.heap.size w V
theorem low_same {w W V V' : World} (hw : w.heap.size ≤ W.heap.size) (h : Below w.heap.size w V) (ht : Touched V V' (fun x => W.heap.size ≤ x ∧ NonCells V x)) : Below w.heap.size w V' :=
  ⟨ht.os.trans h.os, ht.tape.trans h.tape, ht.output.trans h.output, Nat.le_trans h.size ht.size, fun x hx => (ht.block x (by have := h.size; omega) (fun hn => by have := hn.1; omega)).trans (h.block x hx)⟩
theorem cells_same {W V V' : World} (ht : Touched V V' (fun x => W.heap.size ≤ x ∧ NonCells V x)) (x : Nat) (o : Obj) (ho : V.heap[x]? = some o) (hc : o.isCells = true) : V'.heap[x]? = some o :=
  (ht.block x (lt_of_heap ho) (fun hn => by
    obtain ⟨_, o', ho', hc'⟩ := hn
    rw [ho] at ho'; cases ho'; rw [hc] at hc'; cases hc')).trans ho
set_option maxRecDepth 100000 in
set_option maxHeartbeats 4000000 in
theorem first_any (w : World) (S : Nat → Prop) (nv : Value) (t : Tr) (id : Int) (hS : ∀ x, S x → x < w.heap.size) (ht : TrAt w S nv t) (hsz : foSize t.kids ≤ 400000) : Calls Try.prog 15 #[nv, .int .i64 id] w (IntC w (firstT id t)) := by
  obtain ⟨ka, tc, rfl, hcap, hk⟩ := ht
  obtain ⟨w1, hw1⟩ : ∃ w1, w1 = (w.alloc (.cells #[.int .i64 t.id, .int .i64 t.kind, .string t.text, .slice ka (foLen t.kids) tc] 24)).alloc (.cells #[.int .i64 0] 3) := ⟨_, rfl⟩
  have hb1 : Below w.heap.size w w1 := by rw [hw1]; exact two_boxes _ _ _
  have hs1 : w1.heap.size = w.heap.size + 2 := by rw [hw1]; simp
  have h11 : w1.heap[w.heap.size + 1]? = some (.cells #[.int .i64 0] 3 (0, 0)) := by rw [hw1]; exact heap_alloc2_new w _ _
  have hab := above_any w1 S _ t id (fun x hx => Nat.lt_of_lt_of_le (hS x hx) hb1.size) ⟨ka, tc, rfl, hcap, hk.below hb1 hS⟩ hsz
  obtain ⟨n, hn⟩ : ∃ n, n = foLen t.kids := ⟨_, rfl⟩
  rw [← hn] at hab hw1 ⊢
  have HC := Lib.hid (And.intro hab (And.intro hb1 (And.intro hs1 (And.intro h11 hw1))))
  have hnil := Try.seqNil
  have HSZ := Lib.hid hsz
  clear hab hb1 hs1 h11 hw1 hn hk hcap hS hsz
  refine (callsIn_wide (n := 8)).1 ?_
  refine callsIn_of_wp_marks Try.func15 rfl trivial ?_ rfl
  simp only [Try.ntmps15, List.size_toArray, List.length_cons, List.length_nil, Nat.reduceAdd, Nat.reduceSub, Array.replicate_succ, Array.replicate_zero, List.push_toArray, List.append_toArray, List.nil_append, List.cons_append]
  gi_wp2
  refine ⟨trivial, ?_⟩
  rw [← HC.out.2.2.2.2]
  refine (callsIn_wide.2 HC.out.1).mono ?_
  rintro e W ⟨b, v, rfl, hbc, hbo, hbb, hbW⟩
  gi_wp2
  obtain ⟨_, hB1, hs1, h11, _⟩ := HC.out
  have hIA := AboveC.idsAt hbc hbo hbb
  have hsW := hbW.size
  have hOW := (hbW.block _ (lt_of_heap h11)).trans h11
  refine range_above (by omega) rfl (idsOf id t) (fun y => w1.heap.size ≤ y ∧ y < W.heap.size) hIA (by have := idsOf_le id t; have := HSZ.out; omega) rfl
    (FirI w W) (FirX w W (toldI (idsOf id t))) (fun h ht => ⟨h.1, cells_same ht _ _ h.2.1 rfl, low_same (by omega) h.2.2.1 ht, Nat.le_trans h.2.2.2 ht.size⟩) (fun h ht => ⟨h.1, h.2.1.imp fun x hx => ⟨hx.1, cells_same ht _ _ hx.2 rfl⟩, low_same (by omega) h.2.2 ht⟩)
    ⟨rfl, hOW, hB1.trans (hbW.mono hB1.size), Nat.le_refl _⟩ ?round ?done ?stop
  case done =>
    rintro D V hD ⟨hl, h1, h2, h3⟩ hK
    have c0 : V.cell? ⟨w.heap.size + 1, 0, none⟩ = some (.int .i64 0) := by rw [cell_of_row _ _ 0 _ _ _ h1]; rfl
    have cf : V.frozen? ⟨w.heap.size + 1, 0, none⟩ = false := frozen_of_row _ _ 0 _ _ h1
    have hne : D ≠ w.heap.size + 1 := by omega
    have hr : firstT id t = 0 := by
      rw [firstT, ← told_above]
      rw [List.length_eq_zero_iff.1 hl]; rfl
    have hwD : w.heap.size + 2 ≤ D := by omega
    have HE := Lib.hid (And.intro hr (And.intro h2 (And.intro hne (And.intro hwD hK))))
    clear hwD hr h1 h2 h3 hl hK hIA hsW hOW hbc hbo hbb hbW hB1 hs1 h11 HC
    gi_wp2
    obtain ⟨hr, h2, hne, hD, hK⟩ := HE.out
    refine ⟨by simp, .inl ⟨_, _, rfl, run_takeDeferred ((Below.heap_setCell V ⟨w.heap.size + 1, 0, none⟩ _ _ hne).trans hK), ?_⟩⟩
    have hg : ((V.setCell ⟨w.heap.size + 1, 0, none⟩ (.int .i64 0)).putObj D (.deferred none)).cell? ⟨w.heap.size + 1, 0, none⟩ = some (.int .i64 0) := by
      rw [World.cell?_of_block (w := V.setCell ⟨w.heap.size + 1, 0, none⟩ (.int .i64 0)) (World.putObj_heap_other (Ne.symm hne))]
      exact World.cell?_setCell_same' V _ _ (by rw [c0]; rfl)
    refine ⟨_, results_cell1 rfl _ _ (w.heap.size + 1) _ rfl hg (fun _ => by kernel_rfl), by rw [hr], ⟨h2.os, h2.tape, h2.output, by have := h2.size; simp [World.putObj, World.setCell]; exact this, fun y hy => ?_⟩⟩
    rw [World.putObj_heap_other (by have := h2.size; omega), Below.heap_setCell _ _ _ _ (by simp only; omega)]
    exact h2.block y hy
  case stop =>
    rintro D c V hD ⟨rfl, ⟨x, hx, h1⟩, h2⟩ hK
    have c0 : (V.putObj D (.deferred none)).cell? ⟨w.heap.size + 1, 0, none⟩ = some (.int .i64 x) := by
      rw [World.cell?_of_block (World.putObj_heap_other (by simp only; omega)), cell_of_row _ _ 0 _ _ _ h1]; rfl
    have hr : firstT id t = x := by
      rw [firstT, ← told_above, List.head?_eq_getElem?, hx]; rfl
    have hend : IntC w (firstT id t) (.returned (.int .i64 x)) (V.putObj D (.deferred none)) := by
      refine ⟨by rw [hr], h2.os, h2.tape, h2.output, by have := h2.size; simp [World.putObj]; exact this, fun y hy => by rw [World.putObj_heap_other (by omega)]; exact h2.block y hy⟩
    have HE := Lib.hid (And.intro c0 hend)
    clear c0 hend hr h1 h2 hx hIA hsW hOW hbc hbo hbb hbW hB1 hs1 h11 HC
    gi_wp2
    refine ⟨by simp, .inl ⟨_, _, rfl, run_takeDeferred hK, ?_⟩⟩
    exact ⟨_, results_cell1 rfl _ _ (w.heap.size + 1) _ rfl HE.out.1 (fun _ => by kernel_rfl), HE.out.2⟩
  case round =>
    rintro l hl k x V hV hx ⟨rfl, hc, hb, hWs⟩ K hK
    have HK := Lib.hid hK
    have HR := Lib.hid (And.intro hc (And.intro hx (And.intro hl (And.intro hs1 (And.intro hsW (And.intro hV (And.intro hb hWs)))))))
    clear hK hc hx hl hV hb hWs hIA hOW hbc hbo hbb hbW hB1 hs1 h11 HC hsW
    gi_wp2
    refine HK.out _ fun V1 hV1 => ?_
    clear HK
    obtain ⟨o', ev, o, ho, hoc⟩ := hV1
    obtain ⟨hc, hx, hl, hs1, hsW, hV, hb, hWs⟩ := HR.out
    have hk : ∀ y, y ≠ l → V1.heap[y]? = V.heap[y]? := fun y hy => by rw [ev]; exact World.putObj_heap_other hy
    have hV1s : V1.heap.size = V.heap.size := by rw [ev]; simp [World.putObj]
    have h1 := (hk (w.heap.size + 1) (by omega)).trans hc
    have c0 : V1.cell? ⟨w.heap.size + 1, 0, none⟩ = some (.int .i64 0) := by rw [cell_of_row _ _ 0 _ _ _ h1]; rfl
    have cf : V1.frozen? ⟨w.heap.size + 1, 0, none⟩ = false := frozen_of_row _ _ 0 _ _ h1
    have hset : ∀ y, y ≠ w.heap.size + 1 → (V1.setCell ⟨w.heap.size + 1, 0, none⟩ (.int .i64 x)).heap[y]? = V1.heap[y]? := fun y hy => Below.heap_setCell _ _ _ _ hy
    have hend : ∀ aa : Act, LeftA W.heap.size (fun y => w1.heap.size ≤ y ∧ y < W.heap.size) (FirI w W) (FirX w W (toldI (idsOf id t))) 0 V1 .ret aa (V1.setCell ⟨w.heap.size + 1, 0, none⟩ (.int .i64 x)) := fun aa =>
      ⟨⟨by simp [World.setCell], fun y o hy ho' _ => (hset y (by omega)).trans ho'⟩, fun y hy => hset y (by omega), .inr (.inl ⟨rfl, rfl, ⟨x, hx, by rw [heap_setCell_same _ (w.heap.size + 1) 0 _ _ _ h1]; simp⟩, ⟨by rw [ev]; exact hb.os, by rw [ev]; exact hb.tape, by rw [ev]; exact hb.output, by have := hb.size; simp [World.setCell]; omega, fun y hy => (hset y (by omega)).trans ((hk y (by omega)).trans (hb.block y hy))⟩⟩)⟩
    have HE := Lib.hid hend
    clear hend hset h1 hV1s hk hc hx hl hs1 hsW hV hb hWs ev ho hoc
    gi_wp2
    exact HE.out _
end Go.Proofs.Ytjppibomjnmjpaa
