/-
  Show by recursion and Show by a walk are the same text: plain laws. No condition.
-/
import Derived.Test.YtbbiemnjidfglaaDoorRShow
namespace Go.Proofs.YtbbiemnjidfglaaDoor
open Go.RowKit Go.Shelf
set_option linter.unusedVariables false

def rK : Fo → List UInt8
  | .nil => []
  | .node _ _ k l r => headL k ++ (textL k.2.2 ++ ((if foLen l = 0 then [] else 40 :: (rK l ++ [41])) ++ (if foLen r = 0 then [] else 44 :: rK r)))
/-- What the document's Show tells of a tree. -/
def rT (t : Tr) : List UInt8 := headL (t.id, t.kind, t.text) ++ (textL t.text ++ (if foLen t.kids = 0 then [] else 40 :: (rK t.kids ++ [41])))
theorem rK_root (t : Tr) : rK (rootF t) = rT t := by simp [rK, rT, rootF, foLen]
theorem lastD_append : ∀ (l m : List Sp) (a : Nat), lastD a (l ++ m) = lastD (lastD a l) m
  | [], _, _ => rfl
  | x :: l, m, a => lastD_append l m x.1
theorem closeL_succ (n : Nat) : closeL (n + 1) = closeL n ++ [41] := by
  unfold closeL
  induction n with
  | zero => rfl
  | succ n ih =>
    have e : ∀ m, Lib.repeatL [(41 : UInt8)] (m + 1) = [41] ++ Lib.repeatL [41] m := fun _ => rfl
    rw [e (n + 1)]
    conv => lhs; rw [ih]
    rw [← List.append_assoc, ← e n]
theorem showK : ∀ (f : Fo) (a d : Nat), 1 ≤ d → foLen f ≠ 0 → d ≤ lastD a (spF d f) ∧ showL a (spF d f) ++ closeL (lastD a (spF d f) - d) = betwL a d ++ rK f
  | .nil, _, _, _, h => absurd rfl h
  | .node _ _ k l r, a, d, hd, _ => by
    have e : spF d (.node 0 0 k l r) = (d, k, l) :: (spF (d + 1) l ++ spF d r) := rfl
    show d ≤ lastD a (spF d (.node 0 0 k l r)) ∧ showL a (spF d (.node 0 0 k l r)) ++ closeL (lastD a (spF d (.node 0 0 k l r)) - d) = betwL a d ++ rK (.node 0 0 k l r)
    rw [e]
    simp only [showL, lastD, showL_append, lastD_append, pieceL, rK]
    by_cases hl : foLen l = 0
    · have hln : l = .nil := fo_nil_of_len hl
      subst hln
      by_cases hr : foLen r = 0
      · have hrn : r = .nil := fo_nil_of_len hr
        subst hrn
        refine ⟨Nat.le_refl _, ?_⟩
        simp [spF, showL, lastD, foLen, closeL, Lib.repeatL]
      · obtain ⟨i1, i2⟩ := showK r d d hd hr
        refine ⟨i1, ?_⟩
        simp only [spF, showL, lastD, List.append_assoc, List.nil_append, i2, if_neg hr, if_pos hl]
        simp [betwL, show d ≠ 0 by omega, closeL, Lib.repeatL]
    · obtain ⟨j1, j2⟩ := showK l d (d + 1) (by omega) hl
      have hb : betwL d (d + 1) = [40] := by simp [betwL, show d ≠ 0 by omega]
      rw [hb] at j2
      by_cases hr : foLen r = 0
      · have hrn : r = .nil := fo_nil_of_len hr
        subst hrn
        simp only [spF, showL, lastD, List.append_assoc, List.append_nil, if_pos hr, if_neg hl]
        refine ⟨by omega, ?_⟩
        have h1 : lastD d (spF (d + 1) l) - d = (lastD d (spF (d + 1) l) - (d + 1)) + 1 := by omega
        rw [h1, closeL_succ]
        have h2 : showL d (spF (d + 1) l) ++ (closeL (lastD d (spF (d + 1) l) - (d + 1)) ++ [41]) = 40 :: (rK l ++ [41]) := by rw [← List.append_assoc, j2]; simp
        rw [h2]
      · obtain ⟨i1, i2⟩ := showK r (lastD d (spF (d + 1) l)) d hd hr
        refine ⟨i1, ?_⟩
        simp only [List.append_assoc, i2, if_neg hr, if_neg hl]
        have hbl : betwL (lastD d (spF (d + 1) l)) d = closeL (lastD d (spF (d + 1) l) - d) ++ [44] := by
          unfold betwL; rw [if_neg (by omega), if_neg (by omega)]
        have h1 : lastD d (spF (d + 1) l) - d = (lastD d (spF (d + 1) l) - (d + 1)) + 1 := by omega
        rw [hbl, h1, closeL_succ]
        have h2 : showL d (spF (d + 1) l) ++ (closeL (lastD d (spF (d + 1) l) - (d + 1)) ++ [41] ++ [44] ++ rK r) = 40 :: (rK l ++ [41] ++ (44 :: rK r)) := by
          rw [← List.append_assoc, ← List.append_assoc, ← List.append_assoc, j2]; simp
        rw [h2]; simp
theorem showT_rT (t : Tr) : showT t = rT t := by
  have h := (showK (rootF t) 0 1 (by omega) (by simp [rootF, foLen])).2
  rw [showT, h, rK_root]; rfl
theorem rK_snoc : ∀ (f : Fo) (b o : Nat) (k : Int × Int × ByteArray) (l : Fo), rK (foSnoc f b o k l) = rK f ++ ((if foLen f = 0 then [] else [44]) ++ rT ⟨k.1, k.2.1, k.2.2, l⟩)
  | .nil, _, _, k, l => by simp [foSnoc, rK, rT, foLen]
  | .node _ _ k' l' r, b, o, k, l => by
    simp only [foSnoc, rK, rK_snoc r b o k l, foLen_snoc]
    by_cases hr : foLen r = 0
    · have hrn : r = .nil := fo_nil_of_len hr
      subst hrn
      simp [foLen, rK]
    · simp [hr, foLen]
theorem rT_kid : ∀ (k : Nat) (f : Fo) (b o : Nat) (a : Int × Int × ByteArray) (l r : Fo), foDrop k f = .node b o a l r → (rT ⟨a.1, a.2.1, a.2.2, l⟩).length ≤ (rK f).length
  | 0, .nil, _, _, _, _, _, h => by cases h
  | _ + 1, .nil, _, _, _, _, _, h => by cases h
  | 0, .node _ _ ⟨_, _, _⟩ _ _, _, _, _, _, _, h => by
    cases h
    simp only [rT, rK, List.length_append]; omega
  | k + 1, .node _ _ a' l' r', b, o, a, l, r, h => by
    have := rT_kid k r' b o a l r h
    simp only [rK, List.length_append]
    by_cases hr : foLen r' = 0
    · have hrn : r' = .nil := fo_nil_of_len hr
      subst hrn
      have h0 : (rK .nil).length = 0 := rfl
      omega
    · rw [if_neg hr]; simp only [List.length_cons]; omega
end Go.Proofs.YtbbiemnjidfglaaDoor
