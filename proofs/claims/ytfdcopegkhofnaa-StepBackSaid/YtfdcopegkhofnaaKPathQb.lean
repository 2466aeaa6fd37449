/-
  A row of nodes with one more, or with one fewer, plainly, and as cells. No condition.
  Paths to nodes: what stands there, how long they are, plainly; and nodes put into a tree and taken out. No condition.
-/
import Derived.Test.YtfdcopegkhofnaaKBaseQb
namespace Go.Proofs.Ytfdcopegkhofnaa
open Go.RowKit Go.Shelf
set_option linter.unusedVariables false
set_option linter.unusedSimpArgs false

def insF : Fo → Nat → Tr → Fo
  | f, 0, u => .node 0 0 (u.id, u.kind, u.text) u.kids f
  | .nil, _ + 1, _ => .nil
  | .node b o k l r, i + 1, u => .node b o k l (insF r i u)
def delF : Fo → Nat → Fo
  | .nil, _ => .nil
  | .node _ _ _ _ r, 0 => r
  | .node b o k l r, i + 1 => .node b o k l (delF r i)
theorem insF_zero (f : Fo) (u : Tr) : insF f 0 u = .node 0 0 (u.id, u.kind, u.text) u.kids f := by cases f <;> rfl
theorem delF_zero (b o : Nat) (k : Int × Int × ByteArray) (l r : Fo) : delF (.node b o k l r) 0 = r := rfl
theorem insF_len : ∀ (f : Fo) (i : Nat) (u : Tr), i ≤ foLen f → foLen (insF f i u) = foLen f + 1
  | f, 0, u, _ => by rw [insF_zero]; rfl
  | .nil, i + 1, u, h => by simp [foLen] at h
  | .node b o k l r, i + 1, u, h => by
    have := insF_len r i u (by simp [foLen] at h; omega)
    simp only [insF, foLen, this]
theorem delF_len : ∀ (f : Fo) (i : Nat), i < foLen f → foLen (delF f i) + 1 = foLen f
  | .nil, i, h => by simp [foLen] at h
  | .node b o k l r, 0, _ => rfl
  | .node b o k l r, i + 1, h => by
    have := delF_len r i (by simp [foLen] at h; omega)
    simp only [delF, foLen]; omega
theorem kidF_ins : ∀ (f : Fo) (i : Nat) (u : Tr), i ≤ foLen f → kidF (insF f i u) i = some u
  | f, 0, u, _ => by rw [insF_zero]; rfl
  | .nil, i + 1, u, h => by simp [foLen] at h
  | .node b o k l r, i + 1, u, h => by
    have := kidF_ins r i u (by simp [foLen] at h; omega)
    simpa [kidF, insF, foDrop] using this
theorem del_ins : ∀ (f : Fo) (i : Nat) (u : Tr), i ≤ foLen f → delF (insF f i u) i = f
  | f, 0, u, _ => by rw [insF_zero]; rfl
  | .nil, i + 1, u, h => by simp [foLen] at h
  | .node b o k l r, i + 1, u, h => by
    have := del_ins r i u (by simp [foLen] at h; omega)
    simp only [insF, delF, this]
theorem ins_del : ∀ (f : Fo) (i : Nat) (u : Tr), kidF f i = some u → sameF (insF (delF f i) i u) f = true ∧ foLen (insF (delF f i) i u) = foLen f
  | .nil, i, u, h => by cases i <;> simp [kidF, foDrop, headT] at h
  | .node b o k l r, 0, u, h => by
    simp only [kidF, foDrop, headT] at h
    cases h
    rw [delF_zero, insF_zero]
    exact ⟨by simp [sameF, sameK, sameF_refl], rfl⟩
  | .node b o k l r, i + 1, u, h => by
    obtain ⟨h1, h2⟩ := ins_del r i u (by simpa [kidF, foDrop] using h)
    refine ⟨?_, by simp only [delF, insF, foLen, h2]⟩
    simp only [delF, insF, sameF, h1, sameF_refl, Bool.and_true]
    simp [sameK]
theorem insF_size : ∀ (f : Fo) (i : Nat) (u : Tr), i ≤ foLen f → foSize (insF f i u) = foSize f + foSize u.kids + 1
  | f, 0, u, _ => by rw [insF_zero]; simp only [foSize]; omega
  | .nil, i + 1, u, h => by simp [foLen] at h
  | .node b o k l r, i + 1, u, h => by
    have := insF_size r i u (by simp [foLen] at h; omega)
    simp only [insF, foSize, this]; omega
theorem delF_size : ∀ (f : Fo) (i : Nat) (u : Tr), kidF f i = some u → foSize (delF f i) + foSize u.kids + 1 = foSize f
  | .nil, i, u, h => by cases i <;> simp [kidF, foDrop, headT] at h
  | .node b o k l r, 0, u, h => by
    simp only [kidF, foDrop, headT] at h
    cases h
    simp only [delF, foSize]; omega
  | .node b o k l r, i + 1, u, h => by
    have := delF_size r i u (by simpa [kidF, foDrop] using h)
    simp only [delF, foSize]; omega
def cellsT (u : Tr) (ka : Option Addr) (kc : Nat) : List Value := [.int .i64 u.id, .int .i64 u.kind, .string u.text, .slice ka (foLen u.kids) kc]
theorem insF_row {w : World} {S : Nat → Prop} : ∀ (f : Fo) (i : Nat) (u : Tr) (ka : Option Addr) (kc : Nat) (xs : List Value), FoRow w S f xs → foLen u.kids ≤ kc → FoAt w S u.kids ka → i ≤ foLen f → FoRow w S (insF f i u) (xs.take (i * 4) ++ cellsT u ka kc ++ xs.drop (i * 4))
  | f, 0, u, ka, kc, xs, h, hc, hk, _ => by
    rw [insF_zero, Nat.zero_mul, List.take_zero, List.drop_zero, List.nil_append]
    exact ⟨ka, kc, xs, rfl, hc, hk, h⟩
  | .nil, i + 1, u, ka, kc, xs, h, hc, hk, hi => by simp [foLen] at hi
  | .node b o k l r, i + 1, u, ka, kc, xs, h, hc, hk, hi => by
    obtain ⟨na, nc, ys, e, h1, h2, h3⟩ := h
    subst e
    have := insF_row r i u ka kc ys h3 hc hk (by simp [foLen] at hi; omega)
    refine ⟨na, nc, _, ?_, h1, h2, this⟩
    rw [show (i + 1) * 4 = i * 4 + 1 + 1 + 1 + 1 by omega]
    simp
theorem delF_row {w : World} {S : Nat → Prop} : ∀ (f : Fo) (i : Nat) (xs : List Value), FoRow w S f xs → i < foLen f → FoRow w S (delF f i) (xs.take (i * 4) ++ xs.drop (i * 4 + 4))
  | .nil, i, xs, h, hi => by simp [foLen] at hi
  | .node b o k l r, 0, xs, h, hi => by
    obtain ⟨na, nc, ys, e, h1, h2, h3⟩ := h
    subst e
    rw [delF_zero]; simpa using h3
  | .node b o k l r, i + 1, xs, h, hi => by
    obtain ⟨na, nc, ys, e, h1, h2, h3⟩ := h
    subst e
    have := delF_row r i ys h3 (by simp [foLen] at hi; omega)
    refine ⟨na, nc, _, ?_, h1, h2, this⟩
    rw [show (i + 1) * 4 = i * 4 + 1 + 1 + 1 + 1 by omega, show i * 4 + 1 + 1 + 1 + 1 + 4 = i * 4 + 4 + 1 + 1 + 1 + 1 by omega]
    simp
/-- The i-th node's own cells. -/
theorem FoRow.nth {w : World} {S : Nat → Prop} : ∀ (f : Fo) (i : Nat) (u : Tr) (xs : List Value), FoRow w S f xs → kidF f i = some u → ∃ ka kc, xs[i * 4]? = some (.int .i64 u.id) ∧ xs[i * 4 + 1]? = some (.int .i64 u.kind) ∧ xs[i * 4 + 2]? = some (.string u.text) ∧ xs[i * 4 + 3]? = some (.slice ka (foLen u.kids) kc) ∧ foLen u.kids ≤ kc ∧ FoAt w S u.kids ka
  | .nil, i, u, xs, h, hi => by cases i <;> simp [kidF, foDrop, headT] at hi
  | .node b o k l r, 0, u, xs, h, hi => by
    obtain ⟨na, nc, ys, e, h1, h2, h3⟩ := h
    subst e
    simp only [kidF, foDrop, headT] at hi
    cases hi
    exact ⟨na, nc, by simp, by simp, by simp, by simp, h1, h2⟩
  | .node b o k l r, i + 1, u, xs, h, hi => by
    obtain ⟨na, nc, ys, e, h1, h2, h3⟩ := h
    subst e
    obtain ⟨ka, kc, e0, e1, e2, e3, h4⟩ := FoRow.nth r i u ys h3 (by simpa [kidF, foDrop] using hi)
    refine ⟨ka, kc, ?_, ?_, ?_, ?_, h4⟩
    · rw [show (i + 1) * 4 = i * 4 + 4 by omega, List.getElem?_append_right (by simp)]; simpa using e0
    · rw [show (i + 1) * 4 + 1 = i * 4 + 1 + 4 by omega, List.getElem?_append_right (by simp)]; simpa using e1
    · rw [show (i + 1) * 4 + 2 = i * 4 + 2 + 4 by omega, List.getElem?_append_right (by simp)]; simpa using e2
    · rw [show (i + 1) * 4 + 3 = i * 4 + 3 + 4 by omega, List.getElem?_append_right (by simp)]; simpa using e3
end Go.Proofs.Ytfdcopegkhofnaa
namespace Go.Proofs.Ytfdcopegkhofnaa
open Go.RowKit Go.Shelf
set_option linter.unusedVariables false
set_option linter.unusedSimpArgs false

theorem pathT_at : ∀ (id : Int) (t : Tr) (p : List Nat), pathT id t = some p → ∃ u, atT t p = some u ∧ u.id = id := by
  have key : ∀ (f : Fo) (id : Int) (i : Nat) (p : List Nat), fpi id i f = some p → ∃ j q u, p = (i + j) :: q ∧ ∃ v, kidF f j = some v ∧ atT v q = some u ∧ u.id = id := by
    intro f
    induction f with
    | nil => intro id i p h; simp [fpi] at h
    | node b o k l r ihl ihr =>
      intro id i p h
      simp only [fpi] at h
      split at h
      · rename_i hk
        cases h
        exact ⟨0, [], ⟨k.1, k.2.1, k.2.2, l⟩, rfl, _, rfl, rfl, hk⟩
      · split at h
        · rename_i q hq
          cases h
          obtain ⟨j, q', u, e, v, h1, h2, h3⟩ := ihl id 0 q hq
          subst e
          refine ⟨0, (0 + j) :: q', u, rfl, ⟨k.1, k.2.1, k.2.2, l⟩, rfl, ?_, h3⟩
          rw [atT]; simp only [Nat.zero_add, h1]; exact h2
        · obtain ⟨j, q', u, e, v, h1, h2, h3⟩ := ihr id (i + 1) p h
          refine ⟨j + 1, q', u, by rw [e]; congr 1; omega, v, ?_, h2, h3⟩
          simpa [kidF, foDrop] using h1
  intro id t p h
  rw [pathT] at h
  split at h
  · rename_i hid
    cases h
    exact ⟨t, rfl, hid⟩
  · obtain ⟨j, q, u, e, v, h1, h2, h3⟩ := key _ _ _ _ h
    subst e
    exact ⟨u, by rw [atT]; simp only [Nat.zero_add, h1]; exact h2, h3⟩
theorem atT_size : ∀ (p : List Nat) (t u : Tr), atT t p = some u → foSize u.kids + p.length ≤ foSize t.kids
  | [], t, u, h => by cases h; simp
  | i :: p, t, u, h => by
    simp only [atT] at h
    cases hk : kidF t.kids i with
    | none => rw [hk] at h; cases h
    | some v =>
      rw [hk] at h
      have h1 := atT_size p v u h
      have h2 := kidF_size hk
      simp only [List.length_cons]; omega
def zeroK : Tr := ⟨0, 0, ⟨#[]⟩, .nil⟩
/-- A node put below another one: the tree, the error. -/
def putK (par at_ : Int) (t x : Tr) : Tr × Int := match pathT par t with
  | none => (zeroK, 4)
  | some p => match atT t p with
    | none => (zeroK, 4)
    | some u => if 0 ≤ at_ ∧ at_ ≤ (foLen u.kids : Int) then (putP t p ⟨u.id, u.kind, u.text, insF u.kids at_.toNat x⟩, 0) else (putP t p u, 2)
/-- A node taken out: the tree, the node. -/
def takeK (t : Tr) (q : List Nat) (i : Nat) : Tr × Tr := match atT t q with
  | none => (zeroK, zeroK)
  | some u => match kidF u.kids i with
    | none => (zeroK, zeroK)
    | some v => (putP t q ⟨u.id, u.kind, u.text, delF u.kids i⟩, v)
theorem putP_size2 : ∀ (p : List Nat) (t u x : Tr), atT t p = some u → foSize (putP t p x).kids + foSize u.kids = foSize t.kids + foSize x.kids
  | [], t, u, x, h => by cases h; simp [putP]; omega
  | i :: p, t, u, x, h => by
    simp only [atT] at h
    simp only [putP]
    cases hk : kidF t.kids i with
    | none => rw [hk] at h; cases h
    | some v =>
      rw [hk] at h
      have h1 := putP_size2 p v u x h
      have h2 := setF_size2 t.kids i v (putP v p x) hk
      simp only
      omega
theorem putK_size (par at_ : Int) (t x : Tr) : foSize (putK par at_ t x).1.kids ≤ foSize t.kids + foSize x.kids + 1 := by
  unfold putK
  split
  · simp [zeroK, foSize]
  · split
    · simp [zeroK, foSize]
    · rename_i p hp _ u hu
      split
      · rename_i hc
        have h1 := putP_size2 p t u ⟨u.id, u.kind, u.text, insF u.kids at_.toNat x⟩ hu
        have h2 := insF_size u.kids at_.toNat x (by omega)
        simp only at h1 ⊢; omega
      · have h1 := putP_size2 p t u u hu
        simp only; omega
theorem takeK_size (t : Tr) (q : List Nat) (i : Nat) : foSize (takeK t q i).1.kids + foSize (takeK t q i).2.kids ≤ foSize t.kids := by
  unfold takeK
  split
  · simp [zeroK, foSize]
  · rename_i u hu
    split
    · simp [zeroK, foSize]
    · rename_i v hv
      have h1 := putP_size2 q t u ⟨u.id, u.kind, u.text, delF u.kids i⟩ hu
      have h2 := delF_size u.kids i v hv
      simp only at h1 ⊢; omega
end Go.Proofs.Ytfdcopegkhofnaa
