/-
  Count, Depth and told: numbers of a walk. No condition but that there are not too many nodes.
-/
import Derived.Test.YtjppibomjnmjpaaETree
namespace Go.Proofs.Ytjppibomjnmjpaa
open Go.RowKit Go.Shelf
attribute [local go_sem] Oper.semAt_some
set_option linter.unusedVariables false
/-- A root as a row of its own. -/
def rootF (t : Tr) : Fo := .node 0 0 (t.id, t.kind, t.text) t.kids .nil
theorem rootF_size (t : Tr) : foSize (rootF t) = foSize t.kids + 1 := by simp [rootF, foSize]
theorem root_lies {w W : World} {S : Nat → Prop} {nb cap : Nat} {ka : Option Addr} {t : Tr} (hS : ∀ x, S x → W.heap[x]? = w.heap[x]?) (hc : foLen t.kids ≤ cap) (hk : FoAt w S t.kids ka) (hb : W.heap[nb]? = some (.cells #[.int .i64 t.id, .int .i64 t.kind, .string t.text, .slice ka (foLen t.kids) cap] 24 (0, 0))) : FoAt W (fun x => S x ∨ x = nb) (rootF t) (some ⟨nb, 0, none⟩) :=
  ⟨nb, 0, ka, cap, rfl, Or.inr rfl, by rw [cell_of_row _ _ 0 _ _ _ hb]; rfl, by rw [cell_of_row _ _ 1 _ _ _ hb]; rfl, by rw [cell_of_row _ _ 2 _ _ _ hb]; rfl, by rw [cell_of_row _ _ 3 _ _ _ hb]; rfl, hc, hk.kept fun x hx => ⟨Or.inl hx, hS x hx⟩, True.intro⟩
def IntC (w : World) (n : Int) (e : Ending) (w' : World) : Prop := e = .returned (.int .i64 n) ∧ Below w.heap.size w w'

def lenI (l : List Sp) : Int := (l.length : Int)
theorem spF_depth : ∀ (d : Nat) (f : Fo) (x : Sp), x ∈ spF d f → d ≤ x.1 ∧ x.1 < d + foSize f
  | _, .nil, x, h => by simp [spF] at h
  | d, .node _ _ k l r, x, h => by
    simp only [spF, List.mem_cons, List.mem_append] at h
    simp only [foSize]
    rcases h with rfl | h | h
    · exact ⟨Nat.le_refl _, by simp only; omega⟩
    · have := spF_depth (d + 1) l x h; omega
    · have := spF_depth d r x h; omega
end Go.Proofs.Ytjppibomjnmjpaa
