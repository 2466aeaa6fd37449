/-
  A row's node by its pointer. No condition but that the place is one of the row.
-/
import Derived.BigQuiet
import Derived.Deep.Quiet
import Derived.Test.YtjppibomjnmjpaaHPure
namespace Go.Proofs.Ytjppibomjnmjpaa
open Go.RowKit
set_option linter.unusedVariables false

theorem node_any (w : World) (b off n cap p : Nat) (hp : p < n) (hn : n ≤ 1000000000) : Calls Try.prog 32 #[.agg #[.slice (some ⟨b, off, none⟩) n cap, .int .i64 (p : Int)]] w fun e w' => e = .returned (.pointer (some ⟨b, off + p * 4, none⟩)) ∧ Below w.heap.size w w' := by
  have hpl : (p : Int) < (n : Int) := by omega
  go_enter Try.func32, Try.ntmps32
  go_wp2_with fail
  go_ret
  exact ⟨rfl, (Below.refl _ _).alloc (Nat.le_refl _) _⟩

theorem quiet_open {P : Program} {ops : Array Oper} {C : World → Prop} {Q : Exit → Act → World → Prop} {l : List Oper} {a : Act} (h : ∀ QQ : Act → Prop, (∀ a, (∀ w', C w' → Q .normal a w') → QQ a) → wpQuiet P ops C QQ l a) : wpQuiet P ops C (fun a' => ∀ w', C w' → Q .normal a' w') l a := h _ (fun _ h => h)
theorem frcells_at : ∀ (M : List Fr) (k : Nat) (s : Fr), M[k]? = some s → (M.flatMap Fr.cells)[k * 2]? = some (.slice s.a (foLen s.f) s.cap) ∧ (M.flatMap Fr.cells)[k * 2 + 1]? = some (.int .i64 s.p)
  | [], _, _, h => by simp at h
  | x :: M, 0, s, h => by
    simp at h; subst h
    simp [Fr.cells]
  | x :: M, k + 1, s, h => by
    have := frcells_at M k s (by simpa using h)
    rw [List.flatMap_cons]
    have e1 : (k + 1) * 2 = k * 2 + 1 + 1 := by omega
    rw [e1]
    simpa [Fr.cells] using this
theorem frcells_len (L : List Fr) : (L.flatMap Fr.cells).length = L.length * 2 := by
  induction L with
  | nil => rfl
  | cons s L ih => rw [List.flatMap_cons, List.length_append, ih, List.length_cons]; simp [Fr.cells]; omega
theorem frcells_set : ∀ (M : List Fr) (k : Nat) (s : Fr) (p : Int), M[k]? = some s → (M.flatMap Fr.cells).set (k * 2 + 1) (.int .i64 p) = (M.set k ⟨s.a, s.cap, s.f, p⟩).flatMap Fr.cells
  | [], _, _, _, h => by simp at h
  | x :: M, 0, s, p, h => by
    simp at h; subst h
    simp [Fr.cells]
  | x :: M, k + 1, s, p, h => by
    have := frcells_set M k s p (by simpa using h)
    rw [List.set_cons_succ, List.flatMap_cons, List.flatMap_cons, ← this]
    have e1 : (k + 1) * 2 + 1 = k * 2 + 1 + 1 + 1 := by omega
    rw [e1]
    simp [Fr.cells]
theorem frcells_one (L : List Fr) : ∀ u ∈ L.flatMap Fr.cells, u.oneCell' = true := fun u hu => by
  obtain ⟨s, _, hs⟩ := List.mem_flatMap.1 hu
  simp only [Fr.cells, List.mem_cons, List.not_mem_nil, or_false] at hs
  rcases hs with rfl | rfl <;> rfl
/-- The first rows of a row of rows. -/
theorem owns_first {w : World} {B n j cap : Nat} {a : Option Addr} {e : TypeId} {xs ys : List Value} (h : w.ownsRow B e 2 (.slice a n cap) n (xs ++ ys)) (hj : xs.length = j * 2) (hjn : j ≤ n) : w.ownsRow B e 2 (.slice a j cap) j xs := by
  rcases h.2 with ⟨hv, hn⟩ | ⟨g', cap', cur, hv, hB, hh, h3, h4, h5, h6⟩
  · cases hv
    have : j = 0 := by omega
    subst this
    rw [List.length_eq_zero_iff.1 (by omega : xs.length = 0)]
    exact World.ownsRow_nil _ _ _ _
  · cases hv
    refine ⟨hj, Or.inr ⟨g', cap, cur, rfl, hB, hh, by omega, h4, h5, ?_⟩⟩
    have h7 : (cur.toList.take (n * 2)).take (j * 2) = (xs ++ ys).take (j * 2) := by rw [h6]
    rw [List.take_take, Nat.min_eq_left (by omega)] at h7
    rw [h7, List.take_left' hj]
/-- The rows of a way lie in a row of the walk's own: the last one first. -/
def RowsAt (w : World) (rv : Value) (L : List Fr) : Prop := w.ownsRow 0 57 2 rv L.length (L.reverse.flatMap Fr.cells)
theorem RowsAt.kept {w w' : World} {rv : Value} {L : List Fr} (h : RowsAt w rv L) (hk : ∀ g, rv.ownBlock = some g → w'.heap[g]? = w.heap[g]?) : RowsAt w' rv L := owns_kept h fun g _ _ hg => hk g hg
/-- The row at a place. -/
theorem RowsAt.at {w : World} {a : Option Addr} {n cap : Nat} {L : List Fr} (h : RowsAt w (.slice a n cap) L) {k : Nat} {x : Fr} (hx : L.reverse[k]? = some x) : ∃ g, a = some ⟨g, 0, none⟩ ∧ n = L.length ∧ w.cell? ⟨g, k * 2, none⟩ = some (.slice x.a (foLen x.f) x.cap) ∧ w.cell? ⟨g, k * 2 + 1, none⟩ = some (.int .i64 x.p) ∧ (∀ j, w.frozen? ⟨g, j, none⟩ = false) := by
  have hk : k < L.length := by have := (List.getElem?_eq_some_iff.1 hx).1; rwa [List.length_reverse] at this
  have hn : n = L.length := by
    rcases h.2 with ⟨hv, h0⟩ | ⟨g, cap, cur, hv, _⟩
    · omega
    · cases hv; rfl
  subst hn
  have hf := h
  obtain ⟨g, cap', e, _⟩ := World.ownsRow.form h (by omega)
  cases e
  obtain ⟨c0, c1⟩ := frcells_at _ k x hx
  exact ⟨g, rfl, rfl, owns_cell h rfl _ _ c0, owns_cell h rfl _ _ c1, fun j => World.ownsRow.frozenAt hf j⟩
end Go.Proofs.Ytjppibomjnmjpaa
