/-
  The document's own Count and Depth of a tree. No condition but that there are not too many nodes.
-/
import Derived.Test.YtjppibomjnmjpaaRGreat
import Derived.Test.YtjppibomjnmjpaaECount
namespace Go.Proofs.Ytjppibomjnmjpaa
open Go.RowKit
set_option linter.unusedVariables false
set_option linter.unusedSimpArgs false

def depN : Fo → Nat
  | .nil => 0
  | .node _ _ _ l r => max (depN l + 1) (depN r)
theorem depN_snoc : ∀ (f : Fo) (b o : Nat) (a : Int × Int × ByteArray) (l : Fo), depN (foSnoc f b o a l) = max (depN f) (depN l + 1)
  | .nil, _, _, _, _ => by simp [foSnoc, depN]
  | .node _ _ _ l' r, b, o, a, l => by simp only [foSnoc, depN, depN_snoc r b o a l]; omega
theorem depN_le : ∀ f : Fo, depN f ≤ foSize f
  | .nil => Nat.le_refl _
  | .node _ _ _ l r => by have := depN_le l; have := depN_le r; simp only [depN, foSize]; omega
theorem foSize_take : ∀ (k : Nat) (f : Fo), foSize (foTake k f) ≤ foSize f
  | 0, _ => by simp [foTake, foSize]
  | _ + 1, .nil => Nat.le_refl _
  | k + 1, .node _ _ _ l r => by have := foSize_take k r; simp only [foTake, foSize]; omega
theorem lenI_root (t : Tr) : lenI (spF 1 (rootF t)) = (foSize t.kids : Int) + 1 := by
  rw [lenI, spF_length, rootF_size]; omega

end Go.Proofs.Ytjppibomjnmjpaa
