/-
  Find: the first node of an id, in the walk. No condition but that there are not too many nodes.
-/
import Derived.Test.YtjppibomjnmjpaaEAllocs
import Derived.Test.YtjppibomjnmjpaaEHeld
namespace Go.Proofs.Ytjppibomjnmjpaa
open Go.RowKit Go.Shelf
attribute [local go_sem] Oper.semAt_some
set_option linter.unusedVariables false
set_option linter.unusedSimpArgs false

def trOfS (x : Sp) : Tr := ⟨x.2.1.1, x.2.1.2.1, x.2.1.2.2, x.2.2⟩
def zeroT : Tr := ⟨0, 0, ⟨#[]⟩, .nil⟩
def findS (id : Int) (l : List Sp) : Option Sp := l.find? (fun x => x.2.1.1 == id)
theorem findS_none {id : Int} {l : List Sp} (h : ∀ x ∈ l, x.2.1.1 ≠ id) : findS id l = none := by
  simp only [findS, List.find?_eq_none]
  intro x hx; have := h x hx; simpa using this
theorem findS_some {id : Int} {pre rest : List Sp} {x : Sp} (h : ∀ y ∈ pre, y.2.1.1 ≠ id) (hx : x.2.1.1 = id) : findS id (pre ++ x :: rest) = some x := by
  have h1 : List.find? (fun x : Sp => x.2.1.1 == id) pre = none := findS_none h
  simp [findS, List.find?_append, h1, hx]
theorem spF_size0 : ∀ (d : Nat) (f : Fo) (x : Sp), x ∈ spF d f → foSize x.2.2 + 1 ≤ foSize f
  | _, .nil, x, h => by simp [spF] at h
  | d, .node _ _ k l r, x, h => by
    simp only [spF, List.mem_cons, List.mem_append] at h
    simp only [foSize]
    rcases h with rfl | h | h
    · simp only; omega
    · have := spF_size0 (d + 1) l x h; omega
    · have := spF_size0 d r x h; omega
end Go.Proofs.Ytjppibomjnmjpaa
