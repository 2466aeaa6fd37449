/-
  Paths in trees, plainly: what leads to the first node of an id, what stands there, and the rows of a walk. No condition.
  Nodes that lie in memory, rows with another node at a place, and what a call of two results hands back. No condition.
  The document's own Copy: the row of kids lies apart from what lies below it. No condition but that there are not too many nodes.
  A block's cells one by one. No condition.
-/
import Derived.Test.YtpbjncljecfaeaaECountQa
import Derived.Test.YtpbjncljecfaeaaRSameQa
import Derived.Deep.Cut
import Derived.Deep.AppendLies
namespace Go.Proofs.Ytpbjncljecfaeaa
open Go.RowKit
set_option linter.unusedVariables false

def headT : Fo → Option Tr
  | .nil => none
  | .node _ _ k l _ => some ⟨k.1, k.2.1, k.2.2, l⟩
/-- The j-th node of a row. -/
def kidF (f : Fo) (j : Nat) : Option Tr := headT (foDrop j f)
theorem kidF_ge {f : Fo} {j : Nat} (h : foLen f ≤ j) : kidF f j = none := by rw [kidF, foDrop_nil j f h]; rfl
end Go.Proofs.Ytpbjncljecfaeaa
namespace Go.Proofs.Ytpbjncljecfaeaa
open Go.RowKit Go.Shelf
set_option linter.unusedVariables false
set_option linter.unusedSimpArgs false

/-- A row with another node at a place. -/
def setFN : Fo → Nat → Tr → Fo
  | .nil, _, _ => .nil
  | .node b o k l r, 0, u => .node b o (u.id, u.kind, u.text) u.kids r
  | .node b o k l r, i + 1, u => .node b o k l (setFN r i u)
end Go.Proofs.Ytpbjncljecfaeaa
namespace Go.Proofs.Ytpbjncljecfaeaa
open Go.RowKit Go.Shelf
set_option linter.unusedVariables false
set_option linter.unusedSimpArgs false

/-- What was made since w. -/
def Fresh (w w' : World) : Nat → Prop := fun x => w.heap.size ≤ x ∧ x < w'.heap.size
section
variable {w wr w2 : World} {c1 : Array Value} {id kd : Int} {tx : ByteArray} {ks : Fo} {k : Nat} {rv : Value} {xs : List Value}
end

end Go.Proofs.Ytpbjncljecfaeaa
namespace Go.Proofs.Ytpbjncljecfaeaa
open Go.RowKit Go.Shelf
set_option linter.unusedVariables false

theorem box4 {w : World} {b : Nat} {c0 c1 c2 c3 : Value} {T : TypeId} (h : w.heap[b]? = some (.cells #[c0, c1, c2, c3] T (0, 0))) : w.cell? ⟨b, 0, none⟩ = some c0 ∧ w.cell? ⟨b, 1, none⟩ = some c1 ∧ w.cell? ⟨b, 2, none⟩ = some c2 ∧ w.cell? ⟨b, 3, none⟩ = some c3 :=
  ⟨by rw [cell_of_row _ _ 0 _ _ _ h]; rfl, by rw [cell_of_row _ _ 1 _ _ _ h]; rfl, by rw [cell_of_row _ _ 2 _ _ _ h]; rfl, by rw [cell_of_row _ _ 3 _ _ _ h]; rfl⟩
theorem box9 {w : World} {b : Nat} {c0 c1 c2 c3 c4 c5 c6 c7 c8 : Value} {T : TypeId} (h : w.heap[b]? = some (.cells #[c0, c1, c2, c3, c4, c5, c6, c7, c8] T (0, 0))) : w.cell? ⟨b, 0, none⟩ = some c0 ∧ w.cell? ⟨b, 1, none⟩ = some c1 ∧ w.cell? ⟨b, 2, none⟩ = some c2 ∧ w.cell? ⟨b, 3, none⟩ = some c3 ∧ w.cell? ⟨b, 4, none⟩ = some c4 ∧ w.cell? ⟨b, 5, none⟩ = some c5 ∧ w.cell? ⟨b, 6, none⟩ = some c6 ∧ w.cell? ⟨b, 7, none⟩ = some c7 ∧ w.cell? ⟨b, 8, none⟩ = some c8 :=
  ⟨by rw [cell_of_row _ _ 0 _ _ _ h]; rfl, by rw [cell_of_row _ _ 1 _ _ _ h]; rfl, by rw [cell_of_row _ _ 2 _ _ _ h]; rfl, by rw [cell_of_row _ _ 3 _ _ _ h]; rfl, by rw [cell_of_row _ _ 4 _ _ _ h]; rfl, by rw [cell_of_row _ _ 5 _ _ _ h]; rfl, by rw [cell_of_row _ _ 6 _ _ _ h]; rfl, by rw [cell_of_row _ _ 7 _ _ _ h]; rfl, by rw [cell_of_row _ _ 8 _ _ _ h]; rfl⟩
end Go.Proofs.Ytpbjncljecfaeaa
