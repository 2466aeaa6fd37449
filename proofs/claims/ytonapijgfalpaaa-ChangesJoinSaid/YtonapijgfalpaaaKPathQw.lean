/-
  .
-/
import Derived.Test.YtonapijgfalpaaaHARangeQw
namespace Go.Proofs.Ytonapijgfalpaaa
open Go.RowKit Go.Shelf
set_option linter.unusedVariables false
set_option linter.unusedSimpArgs false

def IntsL (w : World) (S : Nat → Prop) (a : Option Addr) (cap : Nat) (l : List Int) : Prop := l.length ≤ cap ∧ (l = [] ∨ ∃ b off, a = some ⟨b, off, none⟩ ∧ S b ∧ ∀ k x, l[k]? = some x → w.cell? ⟨b, off + k, none⟩ = some (.int .i64 x))
theorem IntsL.kept {w w' : World} {S S' : Nat → Prop} {a : Option Addr} {cap : Nat} {l : List Int} (h : IntsL w S a cap l) (hS : ∀ k, S k → S' k ∧ w'.heap[k]? = w.heap[k]?) : IntsL w' S' a cap l := by
  obtain ⟨h0, h1⟩ := h
  refine ⟨h0, h1.imp (fun h => h) ?_⟩
  rintro ⟨b, off, e, hb, hc⟩
  exact ⟨b, off, e, (hS b hb).1, fun k x hx => (World.cell?_of_block (hS b hb).2).trans (hc k x hx)⟩
theorem intsL_own {w : World} {B : Nat} {a : Option Addr} {cap n : Nat} {l : List Int} (h : w.ownsRow B 3 1 (.slice a n cap) n (l.map intV)) : IntsL w (fun y => B ≤ y ∧ y < w.heap.size) a cap l ∧ n = l.length := by
  have hl : n = l.length := by have := h.1; rw [List.length_map] at this; omega
  rcases h.2 with ⟨hv, h0⟩ | ⟨g, c', cur, hv, hB, hh, h3, h4, h5, h6⟩
  · cases hv
    exact ⟨⟨by omega, Or.inl (List.length_eq_zero_iff.1 (by omega))⟩, hl⟩
  · cases hv
    refine ⟨⟨by omega, Or.inr ⟨g, 0, rfl, ⟨hB, lt_of_some hh⟩, fun k x hx => ?_⟩⟩, hl⟩
    rw [Nat.zero_add]
    exact owns_cell h rfl k _ (by rw [List.getElem?_map, hx]; rfl)
theorem IntsL.drop {w : World} {S : Nat → Prop} {b off cap : Nat} {l : List Int} (h : IntsL w S (some ⟨b, off, none⟩) cap l) (m : Nat) : IntsL w S (some ⟨b, off + m, none⟩) (cap - m) (l.drop m) := by
  obtain ⟨h0, h1⟩ := h
  refine ⟨by rw [List.length_drop]; omega, ?_⟩
  rcases h1 with h1 | ⟨b', off', e, hb, hc⟩
  · exact Or.inl (by rw [h1]; simp)
  · cases e
    refine Or.inr ⟨b, off + m, rfl, hb, fun k x hx => ?_⟩
    rw [List.getElem?_drop] at hx
    have := hc (m + k) x hx
    rw [Nat.add_assoc]; exact this
theorem IntsL.cap {w : World} {S : Nat → Prop} {a : Option Addr} {cap cap' : Nat} {l : List Int} (h : IntsL w S a cap l) (hc : l.length ≤ cap') : IntsL w S a cap' l := ⟨hc, h.2⟩
def NodeAt (w : World) (S : Nat → Prop) (u : Tr) (b off : Nat) : Prop := S b ∧ w.cell? ⟨b, off, none⟩ = some (.int .i64 u.id) ∧ w.cell? ⟨b, off + 1, none⟩ = some (.int .i64 u.kind) ∧ w.cell? ⟨b, off + 2, none⟩ = some (.string u.text) ∧ ∃ ka kc, w.cell? ⟨b, off + 3, none⟩ = some (.slice ka (foLen u.kids) kc) ∧ foLen u.kids ≤ kc ∧ FoAt w S u.kids ka
theorem NodeAt.kept {w w' : World} {S S' : Nat → Prop} {u : Tr} {b off : Nat} (h : NodeAt w S u b off) (hS : ∀ y, S y → S' y ∧ w'.heap[y]? = w.heap[y]?) : NodeAt w' S' u b off := by
  obtain ⟨h0, h1, h2, h3, ka, kc, h4, h5, h6⟩ := h
  have hb := hS b h0
  exact ⟨hb.1, (World.cell?_of_block hb.2).trans h1, (World.cell?_of_block hb.2).trans h2, (World.cell?_of_block hb.2).trans h3, ka, kc, (World.cell?_of_block hb.2).trans h4, h5, h6.kept hS⟩
def setF : Fo → Nat → Tr → Fo
  | .nil, _, _ => .nil
  | .node b o k l r, 0, u => .node b o (u.id, u.kind, u.text) u.kids r
  | .node b o k l r, i + 1, u => .node b o k l (setF r i u)
def putP : Tr → List Nat → Tr → Tr
  | _, [], x => x
  | t, i :: p, x => match kidF t.kids i with
    | none => t
    | some u => ⟨t.id, t.kind, t.text, setF t.kids i (putP u p x)⟩
theorem setF_len : ∀ (f : Fo) (i : Nat) (u : Tr), foLen (setF f i u) = foLen f
  | .nil, _, _ => rfl
  | .node _ _ _ _ _, 0, _ => rfl
  | .node _ _ _ _ r, i + 1, u => by simp [setF, foLen, setF_len r i u]
theorem atT_append : ∀ (p : List Nat) (t : Tr) (r : List Nat), atT t (p ++ r) = (atT t p).bind fun u => atT u r
  | [], t, r => rfl
  | i :: p, t, r => by
    simp only [List.cons_append, atT]
    cases kidF t.kids i with
    | none => rfl
    | some u => exact atT_append p u r
theorem putP_append : ∀ (p : List Nat) (t u v x : Tr) (i : Nat), atT t p = some u → kidF u.kids i = some v → putP t (p ++ [i]) x = putP t p ⟨u.id, u.kind, u.text, setF u.kids i x⟩
  | [], t, u, v, x, i, h, hv => by cases h; simp [putP, hv]
  | j :: p, t, u, v, x, i, h, hv => by
    simp only [atT] at h
    simp only [List.cons_append, putP]
    cases hk : kidF t.kids j with
    | none => simp [hk] at h
    | some w => rw [hk] at h; simp only at h ⊢; rw [putP_append p w u v x i h hv]
def ButAt (w : World) (S : Nat → Prop) : Nat → Fo → Nat → Nat → Prop
  | _, .nil, _, _ => True
  | 0, .node _ _ _ _ r, b, off => FoAt w S r (some ⟨b, off + 4, none⟩)
  | i + 1, .node _ _ k l r, b, off => NodeAt w S ⟨k.1, k.2.1, k.2.2, l⟩ b off ∧ ButAt w S i r b (off + 4)
theorem but_fill : ∀ (f : Fo) (i : Nat) {w : World} {S : Nat → Prop} {u : Tr} {b off : Nat}, ButAt w S i f b off → NodeAt w S u b (off + i * 4) → i < foLen f → FoAt w S (setF f i u) (some ⟨b, off, none⟩)
  | .nil, _, _, _, _, _, _, _, _, h => by simp [foLen] at h
  | .node _ _ k l r, 0, w, S, u, b, off, h, hn, _ => by
    obtain ⟨h0, h1, h2, h3, ka, kc, h4, h5, h6⟩ := hn
    simp only [Nat.zero_mul, Nat.add_zero] at h1 h2 h3 h4
    exact ⟨b, off, ka, kc, rfl, h0, h1, h2, h3, h4, h5, h6, h⟩
  | .node _ _ k l r, i + 1, w, S, u, b, off, h, hn, hi => by
    obtain ⟨⟨h0, h1, h2, h3, ka, kc, h4, h5, h6⟩, hr⟩ := h
    refine ⟨b, off, ka, kc, rfl, h0, h1, h2, h3, h4, h5, h6, but_fill r i hr ?_ (by simp [foLen] at hi; omega)⟩
    rw [show off + 4 + i * 4 = off + (i + 1) * 4 by omega]; exact hn
theorem but_row : ∀ (f : Fo) (i : Nat) (xs : List Value) {w w' : World} {S S' : Nat → Prop} {b off : Nat}, FoRow w S f xs → i < foLen f → S' b → (∀ y, S y → S' y ∧ w'.heap[y]? = w.heap[y]?) → (∀ j u, xs[j]? = some u → (j < i * 4 ∨ i * 4 + 4 ≤ j) → w'.cell? ⟨b, off + j, none⟩ = some u) → ButAt w' S' i f b off
  | .nil, _, _, _, _, _, _, _, _, _, h, _, _, _ => by simp [foLen] at h
  | .node _ _ k l r, 0, xs, w, w', S, S', b, off, hf, _, hb, hS, hc => by
    obtain ⟨ka, cap, ys, e, hcp, hkl, hr⟩ := hf
    subst e
    refine FoRow.lies hb (off + 4) (hr.kept hS) fun j u hu => ?_
    have := hc (j + 4) u (by rw [List.getElem?_append_right (by simp)]; simpa using hu) (Or.inr (by omega))
    rw [show off + 4 + j = off + (j + 4) by omega]; exact this
  | .node _ _ k l r, i + 1, xs, w, w', S, S', b, off, hf, hi, hb, hS, hc => by
    obtain ⟨ka, cap, ys, e, hcp, hkl, hr⟩ := hf
    subst e
    refine ⟨⟨hb, hc 0 _ rfl (Or.inl (by omega)), hc 1 _ rfl (Or.inl (by omega)), hc 2 _ rfl (Or.inl (by omega)), ka, cap, hc 3 _ rfl (Or.inl (by omega)), hcp, hkl.kept hS⟩, but_row r i ys hr (by simp [foLen] at hi; omega) hb hS fun j u hu hj => ?_⟩
    have := hc (j + 4) u (by rw [List.getElem?_append_right (by simp)]; simpa using hu) (by omega)
    rw [show off + 4 + j = off + (j + 4) by omega]; exact this
theorem fo_row : ∀ (f : Fo) {w : World} {S : Nat → Prop} {b off : Nat}, FoAt w S f (some ⟨b, off, none⟩) → ∃ xs, FoRow w S f xs ∧ xs.length = foLen f * 4 ∧ (∀ j u, xs[j]? = some u → w.cell? ⟨b, off + j, none⟩ = some u) ∧ ∀ u ∈ xs, u.oneCell' = true
  | .nil, _, _, _, _, _ => ⟨[], rfl, rfl, fun _ _ h => by simp at h, fun _ h => by cases h⟩
  | .node _ _ k l r, w, S, b, off, h => by
    obtain ⟨b', off', ka, kc, e, hb, c0, c1, c2, c3, hcp, hkl, hr⟩ := h
    cases e
    obtain ⟨ys, h1, h2, h3, h4⟩ := fo_row r hr
    refine ⟨[.int .i64 k.1, .int .i64 k.2.1, .string k.2.2, .slice ka (foLen l) kc] ++ ys, ⟨ka, kc, ys, rfl, hcp, hkl, h1⟩, by rw [List.length_append, h2]; simp [foLen]; omega, fun j u hu => ?_, fun u hu => ?_⟩
    · match j, hu with
      | 0, hu => simp at hu; subst hu; exact c0
      | 1, hu => simp at hu; subst hu; exact c1
      | 2, hu => simp at hu; subst hu; exact c2
      | 3, hu => simp at hu; subst hu; exact c3
      | j + 4, hu =>
        have := h3 j u (by simpa using hu)
        rw [show off + (j + 4) = off + 4 + j by omega]; exact this
    · rcases List.mem_append.1 hu with hu | hu
      · simp only [List.mem_cons, List.not_mem_nil, or_false] at hu
        rcases hu with rfl | rfl | rfl | rfl <;> rfl
      · exact h4 u hu
theorem fo_row' (f : Fo) {w : World} {S : Nat → Prop} {a : Option Addr} (h : FoAt w S f a) : ∃ xs, FoRow w S f xs ∧ xs.length = foLen f * 4 ∧ (∀ ad, a = some ad → ∀ j u, xs[j]? = some u → w.cell? (ad.add j) = some u) ∧ (∀ u ∈ xs, u.oneCell' = true) := by
  cases f with
  | nil => exact ⟨[], rfl, rfl, fun _ _ _ _ h => by simp at h, fun _ h => by cases h⟩
  | node b0 o0 k l r =>
    have h' := h
    obtain ⟨b', off', ka, kc, e, _⟩ := h'
    subst e
    obtain ⟨xs, h1, h2, h3, h4⟩ := fo_row _ h
    exact ⟨xs, h1, h2, fun ad hd j u hu => by cases hd; rw [Addr.add_mid]; exact h3 j u hu, h4⟩
theorem kidF_size {f : Fo} {i : Nat} {u : Tr} (h : kidF f i = some u) : foSize u.kids + 1 ≤ foSize f := by
  have h2 := foDrop_size h
  have h3 : ∀ (j : Nat) (f : Fo), foSize (foDrop j f) ≤ foSize f := by
    intro j
    induction j with
    | zero => intro f; rw [foDrop_zero]; exact Nat.le_refl _
    | succ j ih => intro f; cases f with
      | nil => exact Nat.le_refl _
      | node b o a l r => have := ih r; simp only [foDrop, foSize]; omega
  have := h3 i f
  omega
theorem setF_size2 : ∀ (f : Fo) (i : Nat) (u v : Tr), kidF f i = some u → foSize (setF f i v) + foSize u.kids = foSize f + foSize v.kids
  | .nil, i, _, _, h => by cases i <;> simp [kidF, foDrop, headT] at h
  | .node _ _ k l r, 0, u, v, h => by
    simp only [kidF, foDrop, headT] at h
    cases h
    simp only [setF, foSize]; omega
  | .node _ _ k l r, i + 1, u, v, h => by
    have := setF_size2 r i u v (by simpa [kidF, foDrop] using h)
    simp only [setF, foSize]; omega
end Go.Proofs.Ytonapijgfalpaaa
namespace Go.Proofs.Ytonapijgfalpaaa
open Go.RowKit Go.Shelf
set_option linter.unusedVariables false
set_option linter.unusedSimpArgs false

def insF : Fo → Nat → Tr → Fo
  | f, 0, u => .node 0 0 (u.id, u.kind, u.text) u.kids f
  | .nil, _ + 1, _ => .nil
  | .node b o k l r, i + 1, u => .node b o k l (insF r i u)
def delF : Fo → Nat → Fo
  | .nil, _ => .nil
  | .node _ _ _ _ r, 0 => r
  | .node b o k l r, i + 1 => .node b o k l (delF r i)
theorem insF_zero (f : Fo) (u : Tr) : insF f 0 u = .node 0 0 (u.id, u.kind, u.text) u.kids f := by cases f <;> rfl
theorem delF_zero (b o : Nat) (k : Int × Int × ByteArray) (l r : Fo) : delF (.node b o k l r) 0 = r := rfl
theorem insF_len : ∀ (f : Fo) (i : Nat) (u : Tr), i ≤ foLen f → foLen (insF f i u) = foLen f + 1
  | f, 0, u, _ => by rw [insF_zero]; rfl
  | .nil, i + 1, u, h => by simp [foLen] at h
  | .node b o k l r, i + 1, u, h => by
    have := insF_len r i u (by simp [foLen] at h; omega)
    simp only [insF, foLen, this]
theorem delF_len : ∀ (f : Fo) (i : Nat), i < foLen f → foLen (delF f i) + 1 = foLen f
  | .nil, i, h => by simp [foLen] at h
  | .node b o k l r, 0, _ => rfl
  | .node b o k l r, i + 1, h => by
    have := delF_len r i (by simp [foLen] at h; omega)
    simp only [delF, foLen]; omega
theorem ins_del : ∀ (f : Fo) (i : Nat) (u : Tr), kidF f i = some u → sameF (insF (delF f i) i u) f = true ∧ foLen (insF (delF f i) i u) = foLen f
  | .nil, i, u, h => by cases i <;> simp [kidF, foDrop, headT] at h
  | .node b o k l r, 0, u, h => by
    simp only [kidF, foDrop, headT] at h
    cases h
    rw [delF_zero, insF_zero]
    exact ⟨by simp [sameF, sameK, sameF_refl], rfl⟩
  | .node b o k l r, i + 1, u, h => by
    obtain ⟨h1, h2⟩ := ins_del r i u (by simpa [kidF, foDrop] using h)
    refine ⟨?_, by simp only [delF, insF, foLen, h2]⟩
    simp only [delF, insF, sameF, h1, sameF_refl, Bool.and_true]
    simp [sameK]
theorem insF_size : ∀ (f : Fo) (i : Nat) (u : Tr), i ≤ foLen f → foSize (insF f i u) = foSize f + foSize u.kids + 1
  | f, 0, u, _ => by rw [insF_zero]; simp only [foSize]; omega
  | .nil, i + 1, u, h => by simp [foLen] at h
  | .node b o k l r, i + 1, u, h => by
    have := insF_size r i u (by simp [foLen] at h; omega)
    simp only [insF, foSize, this]; omega
theorem delF_size : ∀ (f : Fo) (i : Nat) (u : Tr), kidF f i = some u → foSize (delF f i) + foSize u.kids + 1 = foSize f
  | .nil, i, u, h => by cases i <;> simp [kidF, foDrop, headT] at h
  | .node b o k l r, 0, u, h => by
    simp only [kidF, foDrop, headT] at h
    cases h
    simp only [delF, foSize]; omega
  | .node b o k l r, i + 1, u, h => by
    have := delF_size r i u (by simpa [kidF, foDrop] using h)
    simp only [delF, foSize]; omega
def cellsT (u : Tr) (ka : Option Addr) (kc : Nat) : List Value := [.int .i64 u.id, .int .i64 u.kind, .string u.text, .slice ka (foLen u.kids) kc]
theorem insF_row {w : World} {S : Nat → Prop} : ∀ (f : Fo) (i : Nat) (u : Tr) (ka : Option Addr) (kc : Nat) (xs : List Value), FoRow w S f xs → foLen u.kids ≤ kc → FoAt w S u.kids ka → i ≤ foLen f → FoRow w S (insF f i u) (xs.take (i * 4) ++ cellsT u ka kc ++ xs.drop (i * 4))
  | f, 0, u, ka, kc, xs, h, hc, hk, _ => by
    rw [insF_zero, Nat.zero_mul, List.take_zero, List.drop_zero, List.nil_append]
    exact ⟨ka, kc, xs, rfl, hc, hk, h⟩
  | .nil, i + 1, u, ka, kc, xs, h, hc, hk, hi => by simp [foLen] at hi
  | .node b o k l r, i + 1, u, ka, kc, xs, h, hc, hk, hi => by
    obtain ⟨na, nc, ys, e, h1, h2, h3⟩ := h
    subst e
    have := insF_row r i u ka kc ys h3 hc hk (by simp [foLen] at hi; omega)
    refine ⟨na, nc, _, ?_, h1, h2, this⟩
    rw [show (i + 1) * 4 = i * 4 + 1 + 1 + 1 + 1 by omega]
    simp
theorem delF_row {w : World} {S : Nat → Prop} : ∀ (f : Fo) (i : Nat) (xs : List Value), FoRow w S f xs → i < foLen f → FoRow w S (delF f i) (xs.take (i * 4) ++ xs.drop (i * 4 + 4))
  | .nil, i, xs, h, hi => by simp [foLen] at hi
  | .node b o k l r, 0, xs, h, hi => by
    obtain ⟨na, nc, ys, e, h1, h2, h3⟩ := h
    subst e
    rw [delF_zero]; simpa using h3
  | .node b o k l r, i + 1, xs, h, hi => by
    obtain ⟨na, nc, ys, e, h1, h2, h3⟩ := h
    subst e
    have := delF_row r i ys h3 (by simp [foLen] at hi; omega)
    refine ⟨na, nc, _, ?_, h1, h2, this⟩
    rw [show (i + 1) * 4 = i * 4 + 1 + 1 + 1 + 1 by omega, show i * 4 + 1 + 1 + 1 + 1 + 4 = i * 4 + 4 + 1 + 1 + 1 + 1 by omega]
    simp
theorem FoRow.nth {w : World} {S : Nat → Prop} : ∀ (f : Fo) (i : Nat) (u : Tr) (xs : List Value), FoRow w S f xs → kidF f i = some u → ∃ ka kc, xs[i * 4]? = some (.int .i64 u.id) ∧ xs[i * 4 + 1]? = some (.int .i64 u.kind) ∧ xs[i * 4 + 2]? = some (.string u.text) ∧ xs[i * 4 + 3]? = some (.slice ka (foLen u.kids) kc) ∧ foLen u.kids ≤ kc ∧ FoAt w S u.kids ka
  | .nil, i, u, xs, h, hi => by cases i <;> simp [kidF, foDrop, headT] at hi
  | .node b o k l r, 0, u, xs, h, hi => by
    obtain ⟨na, nc, ys, e, h1, h2, h3⟩ := h
    subst e
    simp only [kidF, foDrop, headT] at hi
    cases hi
    exact ⟨na, nc, by simp, by simp, by simp, by simp, h1, h2⟩
  | .node b o k l r, i + 1, u, xs, h, hi => by
    obtain ⟨na, nc, ys, e, h1, h2, h3⟩ := h
    subst e
    obtain ⟨ka, kc, e0, e1, e2, e3, h4⟩ := FoRow.nth r i u ys h3 (by simpa [kidF, foDrop] using hi)
    refine ⟨ka, kc, ?_, ?_, ?_, ?_, h4⟩
    · rw [show (i + 1) * 4 = i * 4 + 4 by omega, List.getElem?_append_right (by simp)]; simpa using e0
    · rw [show (i + 1) * 4 + 1 = i * 4 + 1 + 4 by omega, List.getElem?_append_right (by simp)]; simpa using e1
    · rw [show (i + 1) * 4 + 2 = i * 4 + 2 + 4 by omega, List.getElem?_append_right (by simp)]; simpa using e2
    · rw [show (i + 1) * 4 + 3 = i * 4 + 3 + 4 by omega, List.getElem?_append_right (by simp)]; simpa using e3
end Go.Proofs.Ytonapijgfalpaaa
namespace Go.Proofs.Ytonapijgfalpaaa
open Go.RowKit Go.Shelf
set_option linter.unusedVariables false
set_option linter.unusedSimpArgs false

theorem pathT_at : ∀ (id : Int) (t : Tr) (p : List Nat), pathT id t = some p → ∃ u, atT t p = some u ∧ u.id = id := by
  have key : ∀ (f : Fo) (id : Int) (i : Nat) (p : List Nat), fpi id i f = some p → ∃ j q u, p = (i + j) :: q ∧ ∃ v, kidF f j = some v ∧ atT v q = some u ∧ u.id = id := by
    intro f
    induction f with
    | nil => intro id i p h; simp [fpi] at h
    | node b o k l r ihl ihr =>
      intro id i p h
      simp only [fpi] at h
      split at h
      · rename_i hk
        cases h
        exact ⟨0, [], ⟨k.1, k.2.1, k.2.2, l⟩, rfl, _, rfl, rfl, hk⟩
      · split at h
        · rename_i q hq
          cases h
          obtain ⟨j, q', u, e, v, h1, h2, h3⟩ := ihl id 0 q hq
          subst e
          refine ⟨0, (0 + j) :: q', u, rfl, ⟨k.1, k.2.1, k.2.2, l⟩, rfl, ?_, h3⟩
          rw [atT]; simp only [Nat.zero_add, h1]; exact h2
        · obtain ⟨j, q', u, e, v, h1, h2, h3⟩ := ihr id (i + 1) p h
          refine ⟨j + 1, q', u, by rw [e]; congr 1; omega, v, ?_, h2, h3⟩
          simpa [kidF, foDrop] using h1
  intro id t p h
  rw [pathT] at h
  split at h
  · rename_i hid
    cases h
    exact ⟨t, rfl, hid⟩
  · obtain ⟨j, q, u, e, v, h1, h2, h3⟩ := key _ _ _ _ h
    subst e
    exact ⟨u, by rw [atT]; simp only [Nat.zero_add, h1]; exact h2, h3⟩
theorem atT_size : ∀ (p : List Nat) (t u : Tr), atT t p = some u → foSize u.kids + p.length ≤ foSize t.kids
  | [], t, u, h => by cases h; simp
  | i :: p, t, u, h => by
    simp only [atT] at h
    cases hk : kidF t.kids i with
    | none => rw [hk] at h; cases h
    | some v =>
      rw [hk] at h
      have h1 := atT_size p v u h
      have h2 := kidF_size hk
      simp only [List.length_cons]; omega
def zeroK : Tr := ⟨0, 0, ⟨#[]⟩, .nil⟩
def putK (par at_ : Int) (t x : Tr) : Tr × Int := match pathT par t with
  | none => (zeroK, 4)
  | some p => match atT t p with
    | none => (zeroK, 4)
    | some u => if 0 ≤ at_ ∧ at_ ≤ (foLen u.kids : Int) then (putP t p ⟨u.id, u.kind, u.text, insF u.kids at_.toNat x⟩, 0) else (putP t p u, 2)
def takeK (t : Tr) (q : List Nat) (i : Nat) : Tr × Tr := match atT t q with
  | none => (zeroK, zeroK)
  | some u => match kidF u.kids i with
    | none => (zeroK, zeroK)
    | some v => (putP t q ⟨u.id, u.kind, u.text, delF u.kids i⟩, v)
theorem putP_size2 : ∀ (p : List Nat) (t u x : Tr), atT t p = some u → foSize (putP t p x).kids + foSize u.kids = foSize t.kids + foSize x.kids
  | [], t, u, x, h => by cases h; simp [putP]; omega
  | i :: p, t, u, x, h => by
    simp only [atT] at h
    simp only [putP]
    cases hk : kidF t.kids i with
    | none => rw [hk] at h; cases h
    | some v =>
      rw [hk] at h
      have h1 := putP_size2 p v u x h
      have h2 := setF_size2 t.kids i v (putP v p x) hk
      simp only
      omega
theorem putK_size (par at_ : Int) (t x : Tr) : foSize (putK par at_ t x).1.kids ≤ foSize t.kids + foSize x.kids + 1 := by
  unfold putK
  split
  · simp [zeroK, foSize]
  · split
    · simp [zeroK, foSize]
    · rename_i p hp _ u hu
      split
      · rename_i hc
        have h1 := putP_size2 p t u ⟨u.id, u.kind, u.text, insF u.kids at_.toNat x⟩ hu
        have h2 := insF_size u.kids at_.toNat x (by omega)
        simp only at h1 ⊢; omega
      · have h1 := putP_size2 p t u u hu
        simp only; omega
theorem takeK_size (t : Tr) (q : List Nat) (i : Nat) : foSize (takeK t q i).1.kids + foSize (takeK t q i).2.kids ≤ foSize t.kids := by
  unfold takeK
  split
  · simp [zeroK, foSize]
  · rename_i u hu
    split
    · simp [zeroK, foSize]
    · rename_i v hv
      have h1 := putP_size2 q t u ⟨u.id, u.kind, u.text, delF u.kids i⟩ hu
      have h2 := delF_size u.kids i v hv
      simp only at h1 ⊢; omega
end Go.Proofs.Ytonapijgfalpaaa
