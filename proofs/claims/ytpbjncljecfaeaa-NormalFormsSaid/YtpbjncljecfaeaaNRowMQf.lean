/-
  A row under work: held steps that were gone over, and those that are left. No condition.
-/
import Derived.Deep.Slices
import Derived.Test.YtpbjncljecfaeaaNRowHQf
namespace Go.Proofs.Ytpbjncljecfaeaa
open Go.RowKit Go.Shelf
set_option linter.unusedVariables false
set_option linter.unusedSimpArgs false

def ptrs (L : List HP) : List Value := L.map fun p => hptr p.1
structure RowM (w0 V : World) (R : Nat) (ga : Option Addr) (gc : Nat) (H : Nat) (ra : Option Addr) (rc : Nat) (gone rest : List HP) : Prop where
  obj : V.heap[R]? = some (.cells #[.slice ga gone.length gc, .slice ra rest.length rc] 77 (0, 0))
  grow : V.ownsRow w0.heap.size 43 1 (.slice ga gone.length gc) gone.length (ptrs gone)
  gH : (Value.slice ga gone.length gc).ownBlock ≠ some H
  hblk : ∃ cs, V.heap[H]? = some (.cells cs 43 (0, 0))
  hrow : ∀ (i : Nat) (p : HP), rest[i]? = some p → ∃ o, ra = some ⟨H, o, none⟩ ∧ V.cell? ⟨H, o + i, none⟩ = some (hptr p.1)
  rcap : rest.length ≤ rc
  held : HRow w0 V (gone ++ rest)
  lo : w0.heap.size ≤ R ∧ w0.heap.size ≤ H
section
variable {w0 V W : World} {R H gc rc : Nat} {ga ra : Option Addr} {gone rest : List HP}
/-- A held step turns. -/
theorem RowM.turn {P Q : List HP} {A : Nat} {ha ha' : HV} {gone' rest' : List HP} (h : RowM w0 V R ga gc H ra rc gone rest) (e : gone ++ rest = P ++ (A, ha) :: Q) (e' : gone' ++ rest' = P ++ (A, ha') :: Q) (hg : gone'.map Prod.fst = gone.map Prod.fst) (hr : rest'.map Prod.fst = rest.map Prod.fst) (ht : Turn w0 A ha ha' V W) (hok : HeldOk ha') : RowM w0 W R ga gc H ra rc gone' rest' := by
  have hA : HeldAt w0 V A ha := h.held.held (A, ha) (by rw [e]; exact List.mem_append_right _ (List.mem_cons_self ..))
  obtain ⟨cs, hcs⟩ := h.hblk
  have hnR : ¬ ha.own A R := hA.ne_ptr h.obj (by decide) (by decide)
  have hnH : ¬ ha.own A H := hA.ne_ptr hcs (by decide) (by decide)
  have eR := ht.turned.block R (lt_of_heap h.obj) hnR
  have eH := ht.turned.block H (lt_of_heap hcs) hnH
  have lg : gone'.length = gone.length := by have := congrArg List.length hg; simpa using this
  have lr : rest'.length = rest.length := by have := congrArg List.length hr; simpa using this
  have pg : ptrs gone' = ptrs gone := by
    have : ∀ L : List HP, ptrs L = (L.map Prod.fst).map hptr := fun L => by simp [ptrs]
    rw [this, this, hg]
  refine ⟨by rw [lg, lr]; exact eR.trans h.obj, by rw [lg, pg]; exact owns_kept h.grow (fun g cur hgc hgo => ht.turned.block g (lt_of_heap hgc) (fun e => hA.ne_ptr hgc (by decide) (by decide) e)), by rw [lg]; exact h.gH, ⟨cs, eH.trans hcs⟩, fun i p hp => ?_, by rw [lr]; exact h.rcap, ?_, h.lo⟩
  · obtain ⟨q, hq⟩ : ∃ q, rest[i]? = some q := ⟨_, List.getElem?_eq_getElem (by rw [← lr]; exact (List.getElem?_eq_some_iff.1 hp).1)⟩
    have hpq : p.1 = q.1 := by
      have h1 : (rest'.map Prod.fst)[i]? = some p.1 := by rw [List.getElem?_map, hp]; rfl
      have h2 : (rest.map Prod.fst)[i]? = some q.1 := by rw [List.getElem?_map, hq]; rfl
      rw [hr, h2] at h1
      exact (Option.some.inj h1).symm
    obtain ⟨o, h1, h2⟩ := h.hrow i q hq
    exact ⟨o, h1, (World.cell?_of_block (a := ⟨H, o + i, none⟩) eH).trans (by rw [hpq]; exact h2)⟩
  · rw [e']
    have h1 := h.held
    rw [e] at h1
    exact h1.turn ht hok
/-- A row of pointers without its last one. -/
theorem owns_butLast {V : World} {lo n cap : Nat} {a : Option Addr} {T : TypeId} {xs : List Value} {x : Value} (h : V.ownsRow lo T 1 (.slice a (n + 1) cap) (n + 1) (xs ++ [x])) (hn : xs.length = n) : V.ownsRow lo T 1 (.slice a n cap) n xs := by
  obtain ⟨e0, h2⟩ := h
  refine ⟨by omega, ?_⟩
  rcases h2 with ⟨hv, h0⟩ | ⟨g, cap', cur, hv, hg, hh, q1, q2, q3, q4⟩
  · omega
  · cases hv
    refine Or.inr ⟨g, cap, cur, rfl, hg, hh, by omega, q2, q3, ?_⟩
    have := congrArg (List.take n) q4
    rw [List.take_take, Nat.mul_one, show min n (n + 1) = n by omega] at this
    rw [Nat.mul_one, this, List.take_left' hn]
/-- The last one of those that were gone over is left out. -/
theorem RowM.cut {g0 : List HP} {p : HP} {n : Nat} (h : RowM w0 V R ga gc H ra rc (g0 ++ [p]) rest) (hn : n = g0.length) (hW : W = V.setCell ⟨R, 0, none⟩ (.slice ga n gc)) : RowM w0 W R ga gc H ra rc g0 rest := by
  obtain ⟨cs, hcs⟩ := h.hblk
  have hob := h.obj
  have hHR : H ≠ R := ne_of_type hcs hob (by decide)
  have hk : ∀ q, q ≠ R → W.heap[q]? = V.heap[q]? := fun q hq => by rw [hW]; exact Below.heap_setCell _ _ _ _ hq
  have hg := h.grow
  simp only [List.length_append, List.length_cons, List.length_nil, ptrs, List.map_append, List.map_cons, List.map_nil, Nat.zero_add] at hg
  refine ⟨?_, owns_kept (owns_butLast (n := g0.length) hg (List.length_map ..)) (fun g cur hgc _ => hk g (ne_of_type hgc hob (by decide))), fun e => h.gH (by cases ga with
    | none => cases e
    | some a => exact e), ⟨cs, (hk H hHR).trans hcs⟩, fun i q hq => ?_, h.rcap, ?_, h.lo⟩
  · have := heap_setCell_same V R 0 _ _ (.slice ga n gc) hob
    rw [hW, this, ← hn]; rfl
  · obtain ⟨o, h1, h2⟩ := h.hrow i q hq
    exact ⟨o, h1, (World.cell?_of_block (a := ⟨H, o + i, none⟩) (hk H hHR)).trans h2⟩
  · have h1 : HRow w0 V (g0 ++ rest) := h.held.sub (by
      rw [List.append_assoc]
      exact List.Sublist.append_left (List.sublist_cons_self _ _) _)
    refine h1.kept fun p hp q hq => hk q (fun e => ?_)
    subst e
    exact (h1.held p hp).ne_ptr hob (by decide) (by decide) hq
theorem HRow.far {w0 V : World} {L : List HP} {R j : Nat} {cs : Array Value} {T : TypeId} {fr : Nat × Nat} {u : Value} (h : HRow w0 V L) (hR : V.heap[R]? = some (.cells cs T fr)) (h1 : T ≠ 48) (h2 : T ≠ 27) : HRow w0 (V.setCell ⟨R, j, none⟩ u) L :=
  h.kept fun p hp q hq => Below.heap_setCell _ _ _ _ (fun e => by subst e; exact (h.held p hp).ne_ptr hR h1 h2 hq)
/-- What stays is put in the first one's place. -/
theorem RowM.first {p p' : HP} {r : List HP} {o : Nat} (h : RowM w0 V R ga gc H ra rc gone (p :: r)) (ho : ra = some ⟨H, o, none⟩) (hh : HRow w0 V (gone ++ p' :: r)) (hW : W = V.setCell ⟨H, o, none⟩ (hptr p'.1)) : RowM w0 W R ga gc H ra rc gone (p' :: r) := by
  obtain ⟨cs, hcs⟩ := h.hblk
  have hob := h.obj
  have hHR : R ≠ H := ne_of_type hob hcs (by decide)
  have hk : ∀ q, q ≠ H → W.heap[q]? = V.heap[q]? := fun q hq => by rw [hW]; exact Below.heap_setCell _ _ _ _ hq
  refine ⟨(hk R hHR).trans hob, owns_kept h.grow (fun g cur hgc hgo => hk g (fun e => h.gH (by rw [hgo, e]))), h.gH, ⟨_, by rw [hW]; exact heap_setCell_same V H o _ _ _ hcs⟩, fun i q hq => ?_, h.rcap, ?_, h.lo⟩
  · cases i with
    | zero =>
      simp at hq
      subst hq
      obtain ⟨o', e1, e2⟩ := h.hrow 0 p rfl
      rw [ho] at e1
      cases e1
      exact ⟨o, ho, by rw [hW, Nat.add_zero]; exact World.cell?_setCell_same' _ _ _ (by rw [Nat.add_zero] at e2; rw [e2]; rfl)⟩
    | succ i =>
      obtain ⟨o', e1, e2⟩ := h.hrow (i + 1) q (by simpa using hq)
      rw [ho] at e1
      cases e1
      exact ⟨o, ho, by rw [hW, World.cell?_setCell_other _ _ _ _ (fun e => by have := congrArg Addr.off e; simp at this)]; exact e2⟩
  · refine hh.kept fun p hp q hq => hk q (fun e => ?_)
    subst e
    exact (hh.held p hp).ne_ptr hcs (by decide) (by decide) hq
/-- The first one of those that are left is left out, whatever stands in its place. -/
theorem RowM.skip {p : HP} {r : List HP} {o n : Nat} {ra' : Option Addr} {V1 : World} {u : Value} (h : RowM w0 V R ga gc H ra rc gone (p :: r)) (ho : ra = some ⟨H, o, none⟩) (ho' : 0 < r.length → ra' = some ⟨H, o + 1, none⟩) (hn : n = r.length) (hV1 : V1 = V ∨ V1 = V.setCell ⟨H, o, none⟩ u) (hW : W = V1.setCell ⟨R, 1, none⟩ (.slice ra' n (rc - 1))) : RowM w0 W R ga gc H ra' (rc - 1) gone r := by
  obtain ⟨cs, hcs⟩ := h.hblk
  have hob := h.obj
  have hHR : R ≠ H := ne_of_type hob hcs (by decide)
  have hk1 : ∀ q, q ≠ H → V1.heap[q]? = V.heap[q]? := fun q hq => by
    rcases hV1 with e | e
    · rw [e]
    · rw [e]; exact Below.heap_setCell _ _ _ _ hq
  have hH1 : (∃ cs', V1.heap[H]? = some (.cells cs' 43 (0, 0))) ∧ ∀ j, j ≠ o → V1.cell? ⟨H, j, none⟩ = V.cell? ⟨H, j, none⟩ := by
    rcases hV1 with e | e
    · rw [e]; exact ⟨⟨cs, hcs⟩, fun _ _ => rfl⟩
    · rw [e]
      exact ⟨⟨_, heap_setCell_same V H o _ _ _ hcs⟩, fun j hj => World.cell?_setCell_other _ _ _ _ (fun e => hj (by cases e; rfl))⟩
  have hk2 : ∀ q, q ≠ R → W.heap[q]? = V1.heap[q]? := fun q hq => by rw [hW]; exact Below.heap_setCell _ _ _ _ hq
  have hob1 := (hk1 R hHR).trans hob
  obtain ⟨⟨cs', hcs'⟩, hHc⟩ := hH1
  refine ⟨?_, owns_kept h.grow (fun g cur hgc hgo => (hk2 g (ne_of_type hgc hob (by decide))).trans (hk1 g (fun e => h.gH (by rw [hgo, e])))), h.gH, ⟨cs', (hk2 H hHR.symm).trans hcs'⟩, fun i q hq => ?_, ?_, ?_, h.lo⟩
  · have := heap_setCell_same V1 R 1 _ _ (.slice ra' n (rc - 1)) hob1
    rw [hW, this, ← hn]; rfl
  · have hpos : 0 < r.length := by have := (List.getElem?_eq_some_iff.1 hq).1; omega
    obtain ⟨o', e1, e2⟩ := h.hrow (i + 1) q (by simpa using hq)
    rw [ho] at e1
    cases e1
    refine ⟨o + 1, ho' hpos, ?_⟩
    rw [World.cell?_of_block (a := ⟨H, o + 1 + i, none⟩) (hk2 H hHR.symm), hHc _ (by omega), show o + 1 + i = o + (i + 1) by omega]
    exact e2
  · have := h.rcap; simp at this; omega
  · have h1 : HRow w0 V (gone ++ r) := h.held.sub (List.Sublist.append_left (List.sublist_cons_self _ _) _)
    refine h1.kept fun p hp q hq => (hk2 q (fun e => ?_)).trans (hk1 q (fun e => ?_))
    · subst e
      exact (h1.held p hp).ne_ptr hob (by decide) (by decide) hq
    · subst e
      exact (h1.held p hp).ne_ptr hcs (by decide) (by decide) hq
/-- The first one of those that are left is gone over. -/
theorem RowM.shift {p : HP} {r : List HP} {o n m g cap : Nat} {ra' : Option Addr} {U V1 V2 : World} (h : RowM w0 V R ga gc H ra rc gone (p :: r)) (ho : ra = some ⟨H, o, none⟩) (ho' : 0 < r.length → ra' = some ⟨H, o + 1, none⟩) (hn : n = r.length) (hm : m = gone.length)
    (hU : Below V.heap.size V U) (hown : V1.ownsRow w0.heap.size 43 1 (.slice (some ⟨g, 0, none⟩) (m + 1) cap) (m + 1) (ptrs gone ++ [hptr p.1])) (hgr : U.grownBy V1 (Value.slice ga m gc).ownBlock) (hat : (Value.slice ga m gc).ownBlock = some g ∨ V.heap.size ≤ g) (hV2 : V2 = V1.setCell ⟨R, 0, none⟩ (.slice (some ⟨g, 0, none⟩) (m + 1) cap)) (hW : W = V2.setCell ⟨R, 1, none⟩ (.slice ra' n (rc - 1))) :
    RowM w0 W R (some ⟨g, 0, none⟩) cap H ra' (rc - 1) (gone ++ [p]) r ∧ V1.heap[R]? = V.heap[R]? := by
  obtain ⟨cs, hcs⟩ := h.hblk
  have hob := h.obj
  have hHR : R ≠ H := ne_of_type hob hcs (by decide)
  have hRl := lt_of_heap hob
  have hHl := lt_of_heap hcs
  have hUs := hU.size
  have hgR : (Value.slice ga m gc).ownBlock ≠ some R := fun e => by
    rw [hm] at e
    obtain ⟨cur, hc⟩ := own_typed h.grow e
    exact ne_of_type hc hob (by decide) rfl
  have hgH : (Value.slice ga m gc).ownBlock ≠ some H := by rw [hm]; exact h.gH
  have hk1 : ∀ q, q < V.heap.size → (Value.slice ga m gc).ownBlock ≠ some q → V1.heap[q]? = V.heap[q]? := fun q hq hne => (hgr.block q (by omega) (fun e => hne e.symm)).trans (hU.block q hq)
  have hk2 : ∀ q, q ≠ R → W.heap[q]? = V1.heap[q]? := fun q hq => by rw [hW, hV2, Below.heap_setCell _ _ _ _ hq, Below.heap_setCell _ _ _ _ hq]
  have hob1 : V1.heap[R]? = _ := (hk1 R hRl hgR).trans hob
  refine ⟨⟨?_, ?_, fun e => ?_, ⟨cs, (hk2 H hHR.symm).trans ((hk1 H hHl hgH).trans hcs)⟩, fun i q hq => ?_, ?_, ?_, h.lo⟩, hk1 R hRl hgR⟩
  · have e1 := heap_setCell_same V1 R 0 _ _ (.slice (some ⟨g, 0, none⟩) (m + 1) cap) hob1
    rw [← hV2] at e1
    have e2 := heap_setCell_same V2 R 1 _ _ (.slice ra' n (rc - 1)) e1
    rw [hW, e2, hn, hm, List.length_append]; rfl
  · have e : ptrs (gone ++ [p]) = ptrs gone ++ [hptr p.1] := by simp [ptrs]
    rw [e, List.length_append, ← hm]
    exact owns_kept hown (fun q cur hq _ => hk2 q (ne_of_type hq hob1 (by decide)))
  · have hgq : g = H := Option.some.inj e
    rcases hat with h1 | h1
    · exact hgH (by rw [h1, hgq])
    · omega
  · have hpos : 0 < r.length := by have := (List.getElem?_eq_some_iff.1 hq).1; omega
    obtain ⟨o', e1, e2⟩ := h.hrow (i + 1) q (by simpa using hq)
    rw [ho] at e1
    cases e1
    refine ⟨o + 1, ho' hpos, ?_⟩
    rw [World.cell?_of_block (a := ⟨H, o + 1 + i, none⟩) ((hk2 H hHR.symm).trans (hk1 H hHl hgH)), show o + 1 + i = o + (i + 1) by omega]
    exact e2
  · have := h.rcap; simp at this; omega
  · have h1 : HRow w0 V (gone ++ [p] ++ r) := by rw [List.append_assoc]; exact h.held
    refine h1.kept fun p hp q hq => (hk2 q (fun e => ?_)).trans (hk1 q ((h1.held p hp).lt q hq).2 (fun e => ?_))
    · subst e
      exact (h1.held p hp).ne_ptr hob (by decide) (by decide) hq
    · rw [hm] at e
      obtain ⟨cur, hc⟩ := own_typed h.grow e
      exact (h1.held p hp).ne_ptr hc (by decide) (by decide) hq
end
end Go.Proofs.Ytpbjncljecfaeaa
