/-
  'row': what a function tells of each node, in the walk, as a row of the call's own. No condition but that there are not too many nodes.
-/
import Derived.Test.YteccnekdmehloaaDoorEAllocs
import Derived.Test.YteccnekdmehloaaDoorEHeld
import Derived.Test.YteccnekdmehloaaDoorRWalkN
namespace Go.Proofs.YteccnekdmehloaaDoor
open Go.RowKit Go.Shelf
attribute [local go_sem] Oper.semAt_some
set_option linter.unusedVariables false
set_option linter.unusedSimpArgs false

/-- A row of a call's own, of what f tells of each node. -/
def RowC (w : World) (et : TypeId) (size : Nat) (f : Sp → List Value) (l : List Sp) (e : Ending) (w' : World) : Prop := ∃ v, e = .returned v ∧ w'.ownsRow w.heap.size et size v l.length (l.flatMap f) ∧ Below w.heap.size w w'
/-- Ahead of the next node. -/
structure RowR (w : World) (st et ft : TypeId) (size LB OB g cap : Nat) (fv : Value) (f : Sp → List Value) (pre : List Sp) (V : World) : Prop where
  cell : V.heap[LB]? = some (.cells #[.slice (some ⟨g, 0, none⟩) pre.length cap] st (0, 0))
  of_ : V.heap[OB]? = some (.cells #[fv] ft (0, 0))
  own : V.ownsRow w.heap.size et size (.slice (some ⟨g, 0, none⟩) pre.length cap) pre.length (pre.flatMap f)
  below : Below w.heap.size w V
theorem RowR.keep {w V V' : World} {st et ft : TypeId} {size LB OB g cap : Nat} {fv : Value} {f : Sp → List Value} {pre : List Sp} (h : RowR w st et ft size LB OB g cap fv f pre V) (ho : V'.os = V.os ∧ V'.tape = V.tape ∧ V'.output = V.output ∧ V.heap.size ≤ V'.heap.size) (M : Nat) (hL : LB < M) (hO : OB < M) (hg : g < M) (hw : w.heap.size ≤ M) (hk : ∀ x, x < M → x < V.heap.size → V'.heap[x]? = V.heap[x]?) : RowR w st et ft size LB OB g cap fv f pre V' :=
  ⟨(hk _ hL (lt_of_heap h.cell)).trans h.cell, (hk _ hO (lt_of_heap h.of_)).trans h.of_, owns_kept h.own (fun g' cur hc hg' => by cases hg'; exact hk _ hg (lt_of_heap hc)), ho.1.trans h.below.os, ho.2.1.trans h.below.tape, ho.2.2.1.trans h.below.output, Nat.le_trans h.below.size ho.2.2.2, fun x hx => (hk x (by omega) (by have := h.below.size; omega)).trans (h.below.block x hx)⟩
section
variable {n : Nat} {P : Program}
/-- Two may come up. -/
theorem anyIn_two {ops : Array Oper} {Q : Exit → Act → World → Prop} {md : Region.Mode} {S : World → Prop} {i j : Nat} {o o' : Oper} {fuel : Nat} {listed : Array Bool} {a : Act} {w : World} (hr : Region.ready md ops listed = [i, j]) (ho : ops[i]? = some o) (ho' : ops[j]? = some o')
    (h : ∀ K : Act → World → Prop, (∀ a' w', S w' → AnyIn n P md ops Q S fuel (listed.setIfInBounds i true) a' w' → K a' w') → if Region.wanted o (yielded ops a.tmps) = true then Oper.wpIn Fence.wide n P o a w K Q else K (a.put o.dst undef) w)
    (h' : ∀ K : Act → World → Prop, (∀ a' w', S w' → AnyIn n P md ops Q S fuel (listed.setIfInBounds j true) a' w' → K a' w') → if Region.wanted o' (yielded ops a.tmps) = true then Oper.wpIn Fence.wide n P o' a w K Q else K (a.put o'.dst undef) w) : AnyIn n P md ops Q S (fuel + 1) listed a w := by
  have one : ∀ (k : Nat) (o : Oper), ops[k]? = some o → (∀ K : Act → World → Prop, (∀ a' w', S w' → AnyIn n P md ops Q S fuel (listed.setIfInBounds k true) a' w' → K a' w') → if Region.wanted o (yielded ops a.tmps) = true then Oper.wpIn Fence.wide n P o a w K Q else K (a.put o.dst undef) w) → wpOpIn Fence.wide n P ops Q k (fun a' w' => S w' ∧ AnyIn n P md ops Q S fuel (listed.setIfInBounds k true) a' w') a w := fun k o ho h => by
    unfold wpOpIn
    rw [ho]
    have := h (fun a' w' => S w' ∧ AnyIn n P md ops Q S fuel (listed.setIfInBounds k true) a' w') (fun a' w' h1 h2 => ⟨h1, h2⟩)
    show if Region.wanted o (yielded ops a.tmps) = true then _ else _
    split
    · rename_i hw; rw [if_pos hw] at this; exact this
    · rename_i hw; rw [if_neg hw] at this; exact ⟨fun _ _ => trivial, this⟩
  refine ⟨fun h0 => (by rw [hr] at h0; cases h0), fun k hk => ?_⟩
  rw [hr] at hk
  simp only [List.mem_cons, List.not_mem_nil, or_false] at hk
  rcases hk with rfl | rfl
  · exact one _ _ ho h
  · exact one _ _ ho' h'
/-- append where there is room. -/
theorem opIn_append_fits (w : World) {o : Oper} {a : Act} {K : Act → World → Prop} {Q : Exit → Act → World → Prop} (s x : Operand) (t : TypeId) (hop : o.op = Op.call { callee := Callee.builtin Builtin.append, args := #[s, x], argTypes := #[t, t] })
    (base : Nat) (e : TypeId) (i : TypeInfo) (size : Nat) (h1 : P.underlying t = some (.slice e)) (h2 : P.info? e = some i) (h4 : i.size = size)
    (g k cap : Nat) (xs : List Value) (hs : a.eval s = .slice (some ⟨g, 0, none⟩) k cap) (hown : w.ownsRow base e size (.slice (some ⟨g, 0, none⟩) k cap) k xs) (ad : Addr) (m c : Nat) (news : List Value) (hx : a.eval x = .slice (some ad) m c) (hn : news.length = m * size)
    (hc : ∀ j u, news[j]? = some u → w.cell? (ad.add j) = some u) (h1c : ∀ u ∈ news, u.oneCell' = true) (b1 : k + m ≤ cap)
    (hK : ∀ w', w'.ownsRow base e size (.slice (some ⟨g, 0, none⟩) (k + m) cap) (k + m) (xs ++ news) → w.grownBy w' (some g) → K (a.put o.dst (.slice (some ⟨g, 0, none⟩) (k + m) cap)) w') : Oper.wpIn Fence.wide n P o a w K Q := by
  obtain ⟨w', hrun, r1, r2⟩ := run_append_fits (P := P) w base t o.type e i size h1 h2 h4 g k cap xs hown ad m c news hn hc h1c b1
  unfold Oper.wpIn
  refine ⟨?_, ?_⟩
  · simp [Oper.about, hop, resolve, Target.leads, Sem.run_pure]
  · rw [Oper.semAt_plain Fence.wide _ _ (by rw [hop]; intro c hc'; cases hc')]
    simp [execOp, hop, resolve, invoke, builtin, hs, hx, hrun, Result.andThen]
    exact hK w' r1 r2
end

/-- Behind a round. -/
theorem row_end {w V1 V2 w4 : World} {st et ft : TypeId} {size LB OB g cap : Nat} {fv : Value} {f : Sp → List Value} {pre : List Sp} {x : Sp} {o : Obj} (hR : RowR w st et ft size LB OB g cap fv f pre V1) (hb : Below V1.heap.size V1 V2) (hown : w4.ownsRow w.heap.size et size (.slice (some ⟨g, 0, none⟩) (pre.length + 1) cap) (pre.length + 1) (pre.flatMap f ++ f x))
    (hgr : (V2.alloc o).grownBy w4 (some g)) (hLg : LB ≠ g) (hOg : OB ≠ g) (hLO : LB ≠ OB) (hwL : w.heap.size ≤ LB) (hwg : w.heap.size ≤ g) :
    ∃ V5, V5 = w4.setCell ⟨LB, 0, none⟩ (.slice (some ⟨g, 0, none⟩) (pre.length + 1) cap) ∧ RowR w st et ft size LB OB g cap fv f (pre ++ [x]) V5 ∧ (∀ y, y < V1.heap.size → y ≠ g → y ≠ LB → V5.heap[y]? = V1.heap[y]?) ∧ V1.heap.size ≤ V5.heap.size ∧ w4.frozen? ⟨LB, 0, none⟩ = false := by
  have hs := hb.size
  have hs4 := hgr.size
  rw [World.size_alloc] at hs4
  have h4 : ∀ y, y < V1.heap.size → y ≠ g → w4.heap[y]? = V1.heap[y]? := fun y hy hg => by
    rw [hgr.block y (by rw [World.size_alloc]; omega) (by simpa using hg), Below.heap_alloc V2 _ _ (by omega), hb.block y hy]
  have h5 : ∀ y, y ≠ LB → (w4.setCell ⟨LB, 0, none⟩ (.slice (some ⟨g, 0, none⟩) (pre.length + 1) cap)).heap[y]? = w4.heap[y]? := fun y hy => Below.heap_setCell _ _ _ _ hy
  have hL4 := (h4 LB (lt_of_heap hR.cell) hLg).trans hR.cell
  have hO4 := (h4 OB (lt_of_heap hR.of_) hOg).trans hR.of_
  have hbl := hR.below
  refine ⟨_, rfl, ⟨?_, (h5 _ hLO.symm).trans hO4, ?_, ?_⟩, fun y hy h1 h2 => (h5 y h2).trans (h4 y hy h1), by simp [World.setCell]; omega, frozen_of_row _ _ 0 _ _ hL4⟩
  · rw [heap_setCell_same _ LB 0 _ _ _ hL4]; simp
  · have := owns_kept hown (w' := w4.setCell ⟨LB, 0, none⟩ (.slice (some ⟨g, 0, none⟩) (pre.length + 1) cap)) (fun g' cur hc hg' => by cases hg'; exact h5 _ hLg.symm)
    simpa using this
  · exact ⟨hgr.os.trans (hb.os.trans hbl.os), hgr.tape.trans (hb.tape.trans hbl.tape), hgr.output.trans (hb.output.trans hbl.output), by have := hbl.size; simp [World.setCell]; omega, fun y hy => by
      have := hbl.size
      rw [h5 y (by omega), h4 y (by omega) (by omega)]; exact hbl.block y hy⟩
end Go.Proofs.YteccnekdmehloaaDoor
