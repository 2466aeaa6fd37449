/-
  A range over the nodes of a tree, where the body only reads the tree: one law. No condition but that there are not too many nodes.
  Count, Depth and told: numbers of a walk. No condition but that there are not too many nodes.
  Paths in trees, plainly: what leads to the first node of an id, what stands there, and the rows of a walk. No condition.
-/
import Derived.Test.YtpbjncljecfaeaaECloneQf
namespace Go.Proofs.Ytpbjncljecfaeaa
open Go.RowKit
set_option linter.unusedVariables false

/-- A node of a walk: how deep, what it bears, what is below it. -/
abbrev Sp := Nat × (Int × Int × ByteArray) × Fo
def spF : Nat → Fo → List Sp
  | _, .nil => []
  | d, .node _ _ k l r => (d, k, l) :: (spF (d + 1) l ++ spF d r)
theorem spF_length : ∀ (d : Nat) (f : Fo), (spF d f).length = foSize f
  | _, .nil => rfl
  | d, .node _ _ k l r => by simp [spF, foSize, spF_length (d + 1) l, spF_length d r]
end Go.Proofs.Ytpbjncljecfaeaa
namespace Go.Proofs.Ytpbjncljecfaeaa
open Go.RowKit Go.Shelf
attribute [local go_sem] Oper.semAt_some
set_option linter.unusedVariables false
/-- A root as a row of its own. -/
def rootF (t : Tr) : Fo := .node 0 0 (t.id, t.kind, t.text) t.kids .nil
theorem rootF_size (t : Tr) : foSize (rootF t) = foSize t.kids + 1 := by simp [rootF, foSize]
theorem root_lies {w W : World} {S : Nat → Prop} {nb cap : Nat} {ka : Option Addr} {t : Tr} (hS : ∀ x, S x → W.heap[x]? = w.heap[x]?) (hc : foLen t.kids ≤ cap) (hk : FoAt w S t.kids ka) (hb : W.heap[nb]? = some (.cells #[.int .i64 t.id, .int .i64 t.kind, .string t.text, .slice ka (foLen t.kids) cap] 25 (0, 0))) : FoAt W (fun x => S x ∨ x = nb) (rootF t) (some ⟨nb, 0, none⟩) :=
  ⟨nb, 0, ka, cap, rfl, Or.inr rfl, by rw [cell_of_row _ _ 0 _ _ _ hb]; rfl, by rw [cell_of_row _ _ 1 _ _ _ hb]; rfl, by rw [cell_of_row _ _ 2 _ _ _ hb]; rfl, by rw [cell_of_row _ _ 3 _ _ _ hb]; rfl, hc, hk.kept fun x hx => ⟨Or.inl hx, hS x hx⟩, True.intro⟩
end Go.Proofs.Ytpbjncljecfaeaa
namespace Go.Proofs.Ytpbjncljecfaeaa
open Go.RowKit
set_option linter.unusedVariables false

def headT : Fo → Option Tr
  | .nil => none
  | .node _ _ k l _ => some ⟨k.1, k.2.1, k.2.2, l⟩
/-- The j-th node of a row. -/
def kidF (f : Fo) (j : Nat) : Option Tr := headT (foDrop j f)
theorem kidF_lt {f : Fo} {j : Nat} (h : j < foLen f) : ∃ b o k l r, foDrop j f = .node b o k l r ∧ kidF f j = some ⟨k.1, k.2.1, k.2.2, l⟩ ∧ foDrop (j + 1) f = r := by
  obtain ⟨b, o, k, l, r, h1, h2, _⟩ := foDrop_node j f h
  exact ⟨b, o, k, l, r, h1, by rw [kidF, h1]; rfl, h2⟩
theorem kidF_ge {f : Fo} {j : Nat} (h : foLen f ≤ j) : kidF f j = none := by rw [kidF, foDrop_nil j f h]; rfl
theorem kidF_some {f : Fo} {j : Nat} {u : Tr} (h : kidF f j = some u) : j < foLen f := by
  rcases Nat.lt_or_ge j (foLen f) with h1 | h1
  · exact h1
  · rw [kidF_ge h1] at h; cases h
theorem foDrop_zero (f : Fo) : foDrop 0 f = f := by cases f <;> rfl

theorem foDrop_size {f : Fo} {j : Nat} {u : Tr} (h : kidF f j = some u) : foSize (foDrop j f) = foSize u.kids + foSize (foDrop (j + 1) f) + 1 := by
  obtain ⟨b, o, k, l, r, h1, h2, h3⟩ := kidF_lt (kidF_some h)
  rw [h2] at h; cases h
  rw [h1, h3]; simp [foSize]
end Go.Proofs.Ytpbjncljecfaeaa
