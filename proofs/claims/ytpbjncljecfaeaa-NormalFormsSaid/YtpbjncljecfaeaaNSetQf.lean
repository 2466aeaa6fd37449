/-
  Nodes that lie in memory, rows with another node at a place, and what a call of two results hands back. No condition.
-/
import Derived.Test.YtpbjncljecfaeaaHPureQf
import Derived.Test.YtpbjncljecfaeaaRSameQf
namespace Go.Proofs.Ytpbjncljecfaeaa
open Go.RowKit Go.Shelf
set_option linter.unusedVariables false
set_option linter.unusedSimpArgs false

/-- A node lies at an address. -/
def NodeAtN (w : World) (S : Nat → Prop) (u : Tr) (b off : Nat) : Prop := S b ∧ w.cell? ⟨b, off, none⟩ = some (.int .i64 u.id) ∧ w.cell? ⟨b, off + 1, none⟩ = some (.int .i64 u.kind) ∧ w.cell? ⟨b, off + 2, none⟩ = some (.string u.text) ∧ ∃ ka kc, w.cell? ⟨b, off + 3, none⟩ = some (.slice ka (foLen u.kids) kc) ∧ foLen u.kids ≤ kc ∧ FoAt w S u.kids ka
/-- A row with another node at a place. -/
def setFN : Fo → Nat → Tr → Fo
  | .nil, _, _ => .nil
  | .node b o k l r, 0, u => .node b o (u.id, u.kind, u.text) u.kids r
  | .node b o k l r, i + 1, u => .node b o k l (setFN r i u)
theorem setF_lenN : ∀ (f : Fo) (i : Nat) (u : Tr), foLen (setFN f i u) = foLen f
  | .nil, _, _ => rfl
  | .node _ _ _ _ _, 0, _ => rfl
  | .node _ _ _ _ r, i + 1, u => by simp [setFN, foLen, setF_lenN r i u]
/-- The row but for its i-th node lies there. -/
def ButAtN (w : World) (S : Nat → Prop) : Nat → Fo → Nat → Nat → Prop
  | _, .nil, _, _ => True
  | 0, .node _ _ _ _ r, b, off => FoAt w S r (some ⟨b, off + 4, none⟩)
  | i + 1, .node _ _ k l r, b, off => NodeAtN w S ⟨k.1, k.2.1, k.2.2, l⟩ b off ∧ ButAtN w S i r b (off + 4)
theorem but_fillN : ∀ (f : Fo) (i : Nat) {w : World} {S : Nat → Prop} {u : Tr} {b off : Nat}, ButAtN w S i f b off → NodeAtN w S u b (off + i * 4) → i < foLen f → FoAt w S (setFN f i u) (some ⟨b, off, none⟩)
  | .nil, _, _, _, _, _, _, _, _, h => by simp [foLen] at h
  | .node _ _ k l r, 0, w, S, u, b, off, h, hn, _ => by
    obtain ⟨h0, h1, h2, h3, ka, kc, h4, h5, h6⟩ := hn
    simp only [Nat.zero_mul, Nat.add_zero] at h1 h2 h3 h4
    exact ⟨b, off, ka, kc, rfl, h0, h1, h2, h3, h4, h5, h6, h⟩
  | .node _ _ k l r, i + 1, w, S, u, b, off, h, hn, hi => by
    obtain ⟨⟨h0, h1, h2, h3, ka, kc, h4, h5, h6⟩, hr⟩ := h
    refine ⟨b, off, ka, kc, rfl, h0, h1, h2, h3, h4, h5, h6, but_fillN r i hr ?_ (by simp [foLen] at hi; omega)⟩
    rw [show off + 4 + i * 4 = off + (i + 1) * 4 by omega]; exact hn
/-- A row that was put elsewhere, but for its i-th node. -/
theorem but_rowN : ∀ (f : Fo) (i : Nat) (xs : List Value) {w w' : World} {S S' : Nat → Prop} {b off : Nat}, FoRow w S f xs → i < foLen f → S' b → (∀ y, S y → S' y ∧ w'.heap[y]? = w.heap[y]?) → (∀ j u, xs[j]? = some u → (j < i * 4 ∨ i * 4 + 4 ≤ j) → w'.cell? ⟨b, off + j, none⟩ = some u) → ButAtN w' S' i f b off
  | .nil, _, _, _, _, _, _, _, _, _, h, _, _, _ => by simp [foLen] at h
  | .node _ _ k l r, 0, xs, w, w', S, S', b, off, hf, _, hb, hS, hc => by
    obtain ⟨ka, cap, ys, e, hcp, hkl, hr⟩ := hf
    subst e
    refine FoRow.lies hb (off + 4) (hr.kept hS) fun j u hu => ?_
    have := hc (j + 4) u (by rw [List.getElem?_append_right (by simp)]; simpa using hu) (Or.inr (by omega))
    rw [show off + 4 + j = off + (j + 4) by omega]; exact this
  | .node _ _ k l r, i + 1, xs, w, w', S, S', b, off, hf, hi, hb, hS, hc => by
    obtain ⟨ka, cap, ys, e, hcp, hkl, hr⟩ := hf
    subst e
    refine ⟨⟨hb, hc 0 _ rfl (Or.inl (by omega)), hc 1 _ rfl (Or.inl (by omega)), hc 2 _ rfl (Or.inl (by omega)), ka, cap, hc 3 _ rfl (Or.inl (by omega)), hcp, hkl.kept hS⟩, but_rowN r i ys hr (by simp [foLen] at hi; omega) hb hS fun j u hu hj => ?_⟩
    have := hc (j + 4) u (by rw [List.getElem?_append_right (by simp)]; simpa using hu) (by omega)
    rw [show off + 4 + j = off + (j + 4) by omega]; exact this
theorem kidF_sizeN {f : Fo} {i : Nat} {u : Tr} (h : kidF f i = some u) : foSize u.kids + 1 ≤ foSize f := by
  have h2 := foDrop_size h
  have h3 : ∀ (j : Nat) (f : Fo), foSize (foDrop j f) ≤ foSize f := by
    intro j
    induction j with
    | zero => intro f; rw [foDrop_zero]; exact Nat.le_refl _
    | succ j ih => intro f; cases f with
      | nil => exact Nat.le_refl _
      | node b o a l r => have := ih r; simp only [foDrop, foSize]; omega
  have := h3 i f
  omega
theorem results_cellTN {P : Program} {fn : Func} {p u : Tmp} {ty : TypeId} (h : fn.results = #[.cell p ty, .tmp u]) (tmps : Array Value) (w : World) (g : Nat) (t : TypeId) (cs : Array Value) (fr : Nat × Nat) (d : TypeDesc) (x : Value)
    (hp : tmps.getD p undef = .pointer (some ⟨g, 0, none⟩)) (hg : w.heap[g]? = some (.cells cs t fr)) (hu : P.underlying ty = some d) (hd : (match d with | .struct _ | .array _ _ => true | _ => false) = true) (hi : (P.info? ty).map (·.size) = some cs.size) (hp2 : tmps.getD u undef = x) :
    (results fn tmps).run P w = .ok (.tuple #[.agg cs, x]) w := by
  have hp' : tmps[p]?.getD undef = .pointer (some ⟨g, 0, none⟩) := by simpa using hp
  have hp2' : tmps[u]?.getD undef = x := by simpa using hp2
  simp [results, h, hp', hp2', asAddr, run_loadVar_row w g t ty cs fr d hg hu hd hi]
theorem four_setN {V : World} {R1 : Nat} {c0 c1 c2 c3 u0 u1 u2 u3 : Value} (h2 : V.heap[R1]? = some (.cells #[c0, c1, c2, c3] 25 (0, 0))) :
    ∃ V5, V5 = ((((V.setCell ⟨R1, 0, none⟩ u0).setCell ⟨R1, 1, none⟩ u1).setCell ⟨R1, 2, none⟩ u2).setCell ⟨R1, 3, none⟩ u3) ∧ V5.heap[R1]? = some (.cells #[u0, u1, u2, u3] 25 (0, 0)) ∧ (∀ y, y ≠ R1 → V5.heap[y]? = V.heap[y]?) ∧ V5.os = V.os ∧ V5.tape = V.tape ∧ V5.output = V.output ∧ V5.heap.size = V.heap.size := by
  have g1 := heap_setCell_same V R1 0 _ _ u0 h2
  have g2 := heap_setCell_same _ R1 1 _ _ u1 g1
  have g3 := heap_setCell_same _ R1 2 _ _ u2 g2
  have g4 := heap_setCell_same _ R1 3 _ _ u3 g3
  refine ⟨_, rfl, by simpa using g4, fun y hy => ?_, rfl, rfl, rfl, by simp [World.setCell]⟩
  rw [Below.heap_setCell _ _ _ _ hy, Below.heap_setCell _ _ _ _ hy, Below.heap_setCell _ _ _ _ hy, Below.heap_setCell _ _ _ _ hy]
end Go.Proofs.Ytpbjncljecfaeaa
