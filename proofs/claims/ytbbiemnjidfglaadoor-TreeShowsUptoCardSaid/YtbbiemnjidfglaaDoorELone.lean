/-
  Rows of lone nodes: two of them are the same just if the trees are. Plain laws, and what the comparison of two of them answers. No condition.
-/
import Derived.Test.YtbbiemnjidfglaaDoorERowL
import Derived.Test.YtbbiemnjidfglaaDoorRSame
namespace Go.Proofs.YtbbiemnjidfglaaDoor
open Go.RowKit Go.Shelf
set_option linter.unusedVariables false
set_option linter.unusedSimpArgs false

def sameL (x y : Sp) : Bool := decide (x.2.1.1 = y.2.1.1) && (decide (x.2.1.2.1 = y.2.1.2.1) && (decide (foLen x.2.2 = foLen y.2.2) && decide (x.2.1.2.2.toList = y.2.1.2.2.toList)))
def eqL : List Sp → List Sp → Bool
  | [], [] => true
  | x :: l, y :: m => sameL x y && eqL l m
  | _, _ => false
theorem eqL_forest : ∀ (f g : Fo) (d e : Nat) (p q : List Sp), foLen f = foLen g → eqL (spF d f ++ p) (spF e g ++ q) = (sameF f g && eqL p q)
  | .nil, .nil, _, _, _, _, _ => by simp [spF, sameF]
  | .nil, .node _ _ _ _ _, _, _, _, _, h => by simp [foLen] at h
  | .node _ _ _ _ _, .nil, _, _, _, _, h => by simp [foLen] at h
  | .node _ _ k l r, .node _ _ k' l' r', d, e, p, q, h => by
    have hr : foLen r = foLen r' := by simpa [foLen] using h
    simp only [spF, List.cons_append, List.append_assoc, eqL, sameF]
    by_cases hl : foLen l = foLen l'
    · rw [eqL_forest l l' (d + 1) (e + 1) _ _ hl, eqL_forest r r' d e p q hr]
      simp only [sameL, sameK, hl, decide_true, Bool.true_and]
      by_cases h1 : k.1 = k'.1 <;> by_cases h2 : k.2.1 = k'.2.1 <;> by_cases h3 : k.2.2.toList = k'.2.2.toList <;> simp [h1, h2, h3, Bool.and_assoc]
    · simp [sameL, hl]
theorem eqL_tree (a b : Tr) : eqL (spF 1 (rootF a)) (spF 1 (rootF b)) = sameT a b := by
  have := eqL_forest (rootF a) (rootF b) 1 1 [] [] (by simp [rootF, foLen])
  rw [List.append_nil, List.append_nil] at this
  rw [this]
  simp [eqL, rootF, sameF, sameT]
theorem eqL_length : ∀ (l m : List Sp), eqL l m = true → l.length = m.length
  | [], [], _ => rfl
  | x :: l, y :: m, h => by simp only [eqL, Bool.and_eq_true] at h; simp [eqL_length l m h.2]
  | [], _ :: _, h => by simp [eqL] at h
  | _ :: _, [], h => by simp [eqL] at h
theorem eqL_drop : ∀ (k : Nat) (l m : List Sp) (x y : Sp), l[k]? = some x → m[k]? = some y → eqL (l.drop k) (m.drop k) = (sameL x y && eqL (l.drop (k + 1)) (m.drop (k + 1)))
  | 0, x :: l, y :: m, _, _, h1, h2 => by simp at h1 h2; subst h1; subst h2; simp [eqL]
  | k + 1, x :: l, y :: m, a, b, h1, h2 => by simpa using eqL_drop k l m a b (by simpa using h1) (by simpa using h2)
  | _, [], _, _, _, h1, _ => by simp at h1
  | _, _ :: _, [], _, _, _, h2 => by simp at h2
theorem lone_cells : ∀ (l : List Sp) (k : Nat) (x : Sp), l[k]? = some x → (l.flatMap loneC)[k * 4]? = some (.int .i64 x.2.1.1) ∧ (l.flatMap loneC)[k * 4 + 1]? = some (.int .i64 x.2.1.2.1) ∧ (l.flatMap loneC)[k * 4 + 2]? = some (.int .i64 (foLen x.2.2 : Int)) ∧ (l.flatMap loneC)[k * 4 + 3]? = some (.string x.2.1.2.2)
  | x :: l, 0, _, h => by simp at h; subst h; simp [loneC]
  | y :: l, k + 1, x, h => by
    have := lone_cells l k x (by simpa using h)
    have e : ∀ j, ((y :: l).flatMap loneC)[(k + 1) * 4 + j]? = (l.flatMap loneC)[k * 4 + j]? := fun j => by
      rw [List.flatMap_cons, show (k + 1) * 4 + j = k * 4 + j + 4 by omega]
      simp [loneC]
    exact ⟨(e 0).trans this.1, (e 1).trans this.2.1, (e 2).trans this.2.2.1, (e 3).trans this.2.2.2⟩
  | [], _, _, h => by simp at h
theorem lone_neq (W : World) (a b c a' b' c' : Int) (s s' : ByteArray) : (binOp .neq 70 (.agg #[.int .i64 a, .int .i64 b, .int .i64 c, .string s]) (.agg #[.int .i64 a', .int .i64 b', .int .i64 c', .string s'])).run Tryd.prog W = .ok (.bool (!(decide (a = a') && (decide (b = b') && (decide (c = c') && decide (s.toList = s'.toList)))))) W := by
  by_cases h1 : a = a' <;> by_cases h2 : b = b' <;> by_cases h3 : c = c' <;> by_cases h4 : s.toList = s'.toList <;> go_simp
end Go.Proofs.YtbbiemnjidfglaaDoor
