/-
  Normal forms plainly: what two neighbours become, what a row becomes. No condition.
-/
import Derived.Test.YtpbjncljecfaeaaNSameQf
namespace Go.Proofs.Ytpbjncljecfaeaa
open Go.RowKit
set_option linter.unusedVariables false
set_option linter.unusedSimpArgs false

/-- The first node of an id gets a text; was it there? -/
def wiF (id : Int) (tx : ByteArray) : Fo → Fo × Bool
  | .nil => (.nil, false)
  | .node x y k l r => if k.1 = id then (.node x y (k.1, k.2.1, tx) l r, true) else if (wiF id tx l).2 = true then (.node x y k (wiF id tx l).1 r, true) else (.node x y k l (wiF id tx r).1, (wiF id tx r).2)
def wiT (id : Int) (tx : ByteArray) (t : Tr) : Tr × Bool := if t.id = id then (⟨t.id, t.kind, tx, t.kids⟩, true) else if (wiF id tx t.kids).2 = true then (⟨t.id, t.kind, t.text, (wiF id tx t.kids).1⟩, true) else (t, false)
section
variable {id : Int} {tx : ByteArray}
theorem wiF_kid : ∀ (f : Fo) (i : Nat) (u : Tr), kidF f i = some u → (∀ j v, j < i → kidF f j = some v → (wiT id tx v).2 = false) → (wiT id tx u).2 = true → wiF id tx f = (setFN f i (wiT id tx u).1, true)
  | .nil, i, u, h, _, _ => by rw [kidF_ge (by simp [foLen])] at h; cases h
  | .node x y k l r, 0, u, h, _, hu => by
    have e : u = ⟨k.1, k.2.1, k.2.2, l⟩ := by have : kidF (.node x y k l r) 0 = some ⟨k.1, k.2.1, k.2.2, l⟩ := rfl; rw [this] at h; exact (Option.some.inj h).symm
    subst e
    unfold wiT at hu ⊢
    simp only at hu ⊢
    rw [wiF]
    by_cases h1 : k.1 = id
    · rw [if_pos h1, if_pos h1]; rfl
    · rw [if_neg h1] at hu ⊢
      by_cases h2 : (wiF id tx l).2 = true
      · rw [if_pos h2, if_neg h1, if_pos h2]; rfl
      · rw [if_neg h2] at hu; cases hu
  | .node x y k l r, i + 1, u, h, hj, hu => by
    have h0 : (wiT id tx ⟨k.1, k.2.1, k.2.2, l⟩).2 = false := hj 0 _ (by omega) rfl
    have hr : kidF r i = some u := h
    have e := wiF_kid r i u hr (fun j v hj2 hv => hj (j + 1) v (by omega) hv) hu
    unfold wiT at h0
    simp only at h0
    rw [wiF]
    by_cases h1 : k.1 = id
    · rw [if_pos h1] at h0; cases h0
    · rw [if_neg h1] at h0 ⊢
      by_cases h2 : (wiF id tx l).2 = true
      · rw [if_pos h2] at h0; cases h0
      · rw [if_neg h2, e]; rfl
theorem wiF_none : ∀ (f : Fo), (∀ j v, kidF f j = some v → (wiT id tx v).2 = false) → (wiF id tx f).2 = false
  | .nil, _ => rfl
  | .node x y k l r, hj => by
    have h0 : (wiT id tx ⟨k.1, k.2.1, k.2.2, l⟩).2 = false := hj 0 _ rfl
    have e := wiF_none r fun j v hv => hj (j + 1) v hv
    unfold wiT at h0
    simp only at h0
    rw [wiF]
    by_cases h1 : k.1 = id
    · rw [if_pos h1] at h0; cases h0
    · rw [if_neg h1] at h0 ⊢
      by_cases h2 : (wiF id tx l).2 = true
      · rw [if_pos h2] at h0; cases h0
      · rw [if_neg h2]; exact e
theorem wiF_size : ∀ f : Fo, foSize (wiF id tx f).1 = foSize f
  | .nil => rfl
  | .node x y k l r => by
    rw [wiF]
    split
    · rfl
    · split
      · simp only [foSize]; rw [wiF_size l]
      · simp only [foSize]; rw [wiF_size r]
theorem wiT_size (t : Tr) : foSize (wiT id tx t).1.kids = foSize t.kids := by
  unfold wiT
  split
  · rfl
  · split
    · exact wiF_size t.kids
    · rfl
theorem wiT_here {t : Tr} (h : t.id = id) : wiT id tx t = (⟨t.id, t.kind, tx, t.kids⟩, true) := by rw [wiT, if_pos h]
theorem wiT_kid {t u : Tr} {i : Nat} (h : ¬ t.id = id) (hu : kidF t.kids i = some u) (hj : ∀ j v, j < i → kidF t.kids j = some v → (wiT id tx v).2 = false) (hw : (wiT id tx u).2 = true) : wiT id tx t = (⟨t.id, t.kind, t.text, setFN t.kids i (wiT id tx u).1⟩, true) := by
  have e := wiF_kid t.kids i u hu hj hw
  rw [wiT, if_neg h, e, if_pos rfl]
theorem wiT_none {t : Tr} (h : ¬ t.id = id) (hj : ∀ j v, kidF t.kids j = some v → (wiT id tx v).2 = false) : wiT id tx t = (t, false) := by
  rw [wiT, if_neg h, if_neg (by rw [wiF_none t.kids hj]; decide)]
end
/-- What two neighbours become, if they fit a rule. -/
def pairK (a b : Sf) : List Sf × Bool :=
  if a.op = b.op ∧ (a.op = 4 ∨ a.op = 3) ∧ a.id = b.id then ([b], true)
  else if a.op = 1 ∧ b.op = 2 ∧ a.sub.id = b.id then ([], true)
  else if a.op = 1 ∧ b.op = 4 ∧ (wiT b.id b.tx a.sub).2 = true then ([⟨a.op, a.id, a.par, a.at_, a.tx, (wiT b.id b.tx a.sub).1⟩], true)
  else ([], false)
theorem pairK_len (a b : Sf) : (pairK a b).1.length ≤ 1 := by
  unfold pairK
  split
  · exact Nat.le_refl _
  · split
    · exact Nat.zero_le _
    · split
      · exact Nat.le_refl _
      · exact Nat.zero_le _
/-- The row behind the rule that fits first. -/
def onceK : List Sf → List Sf × Bool
  | [] => ([], false)
  | [a] => ([a], false)
  | a :: b :: r => if (pairK a b).2 = true then ((pairK a b).1 ++ r, true) else (a :: (onceK (b :: r)).1, (onceK (b :: r)).2)
theorem onceK_not : ∀ {l : List Sf}, (onceK l).2 = false → (onceK l).1 = l
  | [], _ => rfl
  | [a], _ => rfl
  | a :: b :: r, h => by
    rw [onceK] at h ⊢
    split at h
    · cases h
    · rename_i h1
      rw [if_neg h1]
      simp only at h ⊢
      rw [onceK_not h]
theorem onceK_less : ∀ {l : List Sf}, (onceK l).2 = true → (onceK l).1.length < l.length
  | [], h => by cases h
  | [a], h => by cases h
  | a :: b :: r, h => by
    rw [onceK] at h ⊢
    split at h
    · rename_i h1
      rw [if_pos h1]
      have := pairK_len a b
      simp only [List.length_append, List.length_cons]; omega
    · rename_i h1
      rw [if_neg h1]
      simp only at h ⊢
      have := onceK_less h
      simp only [List.length_cons] at this ⊢; omega
/-- No pair among the first fits: the rule's place lies behind. -/
theorem onceK_at : ∀ (l : List Sf) (i : Nat) (a b : Sf), l[i]? = some a → l[i + 1]? = some b → (∀ j x y, j < i → l[j]? = some x → l[j + 1]? = some y → (pairK x y).2 = false) → (pairK a b).2 = true → onceK l = (l.take i ++ (pairK a b).1 ++ l.drop (i + 2), true)
  | [], i, a, b, h, _, _, _ => by simp at h
  | [x], i, a, b, _, h, _, _ => by simp at h
  | x :: y :: r, 0, a, b, ha, hb, _, hp => by
    simp at ha hb; subst ha; subst hb
    rw [onceK, if_pos hp]; simp
  | x :: y :: r, i + 1, a, b, ha, hb, hj, hp => by
    have h0 : (pairK x y).2 = false := hj 0 x y (by omega) rfl rfl
    have e := onceK_at (y :: r) i a b (by simpa using ha) (by simpa using hb) (fun j u v hji hu hv => hj (j + 1) u v (by omega) (by simpa using hu) (by simpa using hv)) hp
    rw [onceK, if_neg (by rw [h0]; decide), e]
    simp
theorem onceK_none : ∀ (l : List Sf), (∀ j x y, l[j]? = some x → l[j + 1]? = some y → (pairK x y).2 = false) → onceK l = (l, false)
  | [], _ => rfl
  | [x], _ => rfl
  | x :: y :: r, hj => by
    have h0 : (pairK x y).2 = false := hj 0 x y rfl rfl
    have e := onceK_none (y :: r) fun j u v hu hv => hj (j + 1) u v (by simpa using hu) (by simpa using hv)
    rw [onceK, if_neg (by rw [h0]; decide), e]
/-- The rows on the way. -/
def wayK : Nat → List Sf → List (List Sf)
  | 0, l => [l]
  | n + 1, l => if (onceK l).2 = true then l :: wayK n (onceK l).1 else [l]
/-- The normal form. -/
def ofK : Nat → List Sf → List Sf
  | 0, l => l
  | n + 1, l => if (onceK l).2 = true then ofK n (onceK l).1 else l
theorem wayK_pos (n : Nat) (l : List Sf) : wayK n l ≠ [] := by cases n with
  | zero => simp [wayK]
  | succ n => rw [wayK]; split <;> simp
theorem wayK_last : ∀ (n : Nat) (l : List Sf), (wayK n l).getLast (wayK_pos n l) = ofK n l
  | 0, l => rfl
  | n + 1, l => by
    by_cases h : (onceK l).2 = true
    · have e : wayK (n + 1) l = l :: wayK n (onceK l).1 := by rw [wayK, if_pos h]
      simp only [e]
      rw [List.getLast_cons (wayK_pos n _), wayK_last n, ofK, if_pos h]
    · have e : wayK (n + 1) l = [l] := by rw [wayK, if_neg h]
      simp only [e]
      rw [ofK, if_neg h]; rfl
theorem ofK_is {n : Nat} {l : List Sf} (h : (onceK l).2 = false) : ofK n l = l := by cases n with
  | zero => rfl
  | succ n => rw [ofK, if_neg (by rw [h]; decide)]
end Go.Proofs.Ytpbjncljecfaeaa
