/-
  Rows of numbers that lie in memory, nodes that do, and a tree with another one at a path, plainly. No condition.
  A row of nodes laid anew behind a node's own row: what it leaves of all trees that lie there. No condition.
-/
import Derived.Test.YthjniclhnfipdaaHDistQv
import Derived.Test.YthjniclhnfipdaaHPureQv
namespace Go.Proofs.Ythjniclhnfipdaa
open Go.RowKit Go.Shelf
set_option linter.unusedVariables false
set_option linter.unusedSimpArgs false

/-- A row of numbers of anybody's. -/
def IntsL (w : World) (S : Nat → Prop) (a : Option Addr) (cap : Nat) (l : List Int) : Prop := l.length ≤ cap ∧ (l = [] ∨ ∃ b off, a = some ⟨b, off, none⟩ ∧ S b ∧ ∀ k x, l[k]? = some x → w.cell? ⟨b, off + k, none⟩ = some (.int .i64 x))
theorem IntsL.kept {w w' : World} {S S' : Nat → Prop} {a : Option Addr} {cap : Nat} {l : List Int} (h : IntsL w S a cap l) (hS : ∀ k, S k → S' k ∧ w'.heap[k]? = w.heap[k]?) : IntsL w' S' a cap l := by
  obtain ⟨h0, h1⟩ := h
  refine ⟨h0, h1.imp (fun h => h) ?_⟩
  rintro ⟨b, off, e, hb, hc⟩
  exact ⟨b, off, e, (hS b hb).1, fun k x hx => (World.cell?_of_block (hS b hb).2).trans (hc k x hx)⟩
theorem IntsL.take {w : World} {S : Nat → Prop} {a : Option Addr} {cap : Nat} {l : List Int} (h : IntsL w S a cap l) (m : Nat) : IntsL w S a cap (l.take m) := by
  obtain ⟨h0, h1⟩ := h
  refine ⟨by rw [List.length_take]; omega, ?_⟩
  rcases h1 with h1 | ⟨b, off, e, hb, hc⟩
  · exact Or.inl (by rw [h1]; simp)
  · exact Or.inr ⟨b, off, e, hb, fun k x hx => hc k x (by
      rw [List.getElem?_take] at hx
      split at hx
      · exact hx
      · cases hx)⟩
theorem intsL_own {w : World} {B : Nat} {a : Option Addr} {cap n : Nat} {l : List Int} (h : w.ownsRow B 3 1 (.slice a n cap) n (l.map intV)) : IntsL w (fun y => B ≤ y ∧ y < w.heap.size) a cap l ∧ n = l.length := by
  have hl : n = l.length := by have := h.1; rw [List.length_map] at this; omega
  rcases h.2 with ⟨hv, h0⟩ | ⟨g, c', cur, hv, hB, hh, h3, h4, h5, h6⟩
  · cases hv
    exact ⟨⟨by omega, Or.inl (List.length_eq_zero_iff.1 (by omega))⟩, hl⟩
  · cases hv
    refine ⟨⟨by omega, Or.inr ⟨g, 0, rfl, ⟨hB, lt_of_some hh⟩, fun k x hx => ?_⟩⟩, hl⟩
    rw [Nat.zero_add]
    exact owns_cell h rfl k _ (by rw [List.getElem?_map, hx]; rfl)
theorem IntsL.drop {w : World} {S : Nat → Prop} {b off cap : Nat} {l : List Int} (h : IntsL w S (some ⟨b, off, none⟩) cap l) (m : Nat) : IntsL w S (some ⟨b, off + m, none⟩) (cap - m) (l.drop m) := by
  obtain ⟨h0, h1⟩ := h
  refine ⟨by rw [List.length_drop]; omega, ?_⟩
  rcases h1 with h1 | ⟨b', off', e, hb, hc⟩
  · exact Or.inl (by rw [h1]; simp)
  · cases e
    refine Or.inr ⟨b, off + m, rfl, hb, fun k x hx => ?_⟩
    rw [List.getElem?_drop] at hx
    have := hc (m + k) x hx
    rw [Nat.add_assoc]; exact this
theorem IntsL.cap {w : World} {S : Nat → Prop} {a : Option Addr} {cap cap' : Nat} {l : List Int} (h : IntsL w S a cap l) (hc : l.length ≤ cap') : IntsL w S a cap' l := ⟨hc, h.2⟩
/-- A node lies at an address. -/
def NodeAt (w : World) (S : Nat → Prop) (u : Tr) (b off : Nat) : Prop := S b ∧ w.cell? ⟨b, off, none⟩ = some (.int .i64 u.id) ∧ w.cell? ⟨b, off + 1, none⟩ = some (.int .i64 u.kind) ∧ w.cell? ⟨b, off + 2, none⟩ = some (.string u.text) ∧ ∃ ka kc, w.cell? ⟨b, off + 3, none⟩ = some (.slice ka (foLen u.kids) kc) ∧ foLen u.kids ≤ kc ∧ FoAt w S u.kids ka
theorem NodeAt.kept {w w' : World} {S S' : Nat → Prop} {u : Tr} {b off : Nat} (h : NodeAt w S u b off) (hS : ∀ y, S y → S' y ∧ w'.heap[y]? = w.heap[y]?) : NodeAt w' S' u b off := by
  obtain ⟨h0, h1, h2, h3, ka, kc, h4, h5, h6⟩ := h
  have hb := hS b h0
  exact ⟨hb.1, (World.cell?_of_block hb.2).trans h1, (World.cell?_of_block hb.2).trans h2, (World.cell?_of_block hb.2).trans h3, ka, kc, (World.cell?_of_block hb.2).trans h4, h5, h6.kept hS⟩
/-- Its kids. -/
theorem NodeAt.kid {w : World} {S : Nat → Prop} {u v : Tr} {b off j : Nat} (h : NodeAt w S u b off) (hv : kidF u.kids j = some v) : ∃ g go gc, w.cell? ⟨b, off + 3, none⟩ = some (.slice (some ⟨g, go, none⟩) (foLen u.kids) gc) ∧ NodeAt w S v g (go + j * 4) := by
  obtain ⟨h0, h1, h2, h3, ka, kc, h4, h5, h6⟩ := h
  obtain ⟨b0, o0, key, l, r, hd, g, go, na, nc, rfl, hg, c0, c1, c2, c3, hc, hl⟩ := h6.at j (kidF_some hv)
  have : v = ⟨key.1, key.2.1, key.2.2, l⟩ := by rw [kidF, hd] at hv; cases hv; rfl
  subst this
  exact ⟨g, go, kc, h4, hg, c0, c1, c2, na, nc, c3, hc, hl⟩
/-- A row with another node at a place. -/
def setF : Fo → Nat → Tr → Fo
  | .nil, _, _ => .nil
  | .node b o k l r, 0, u => .node b o (u.id, u.kind, u.text) u.kids r
  | .node b o k l r, i + 1, u => .node b o k l (setF r i u)
def putP : Tr → List Nat → Tr → Tr
  | _, [], x => x
  | t, i :: p, x => match kidF t.kids i with
    | none => t
    | some u => ⟨t.id, t.kind, t.text, setF t.kids i (putP u p x)⟩
theorem setF_len : ∀ (f : Fo) (i : Nat) (u : Tr), foLen (setF f i u) = foLen f
  | .nil, _, _ => rfl
  | .node _ _ _ _ _, 0, _ => rfl
  | .node _ _ _ _ r, i + 1, u => by simp [setF, foLen, setF_len r i u]
theorem kidF_set : ∀ (f : Fo) (i : Nat) (u : Tr), i < foLen f → kidF (setF f i u) i = some u
  | .nil, _, _, h => by simp [foLen] at h
  | .node _ _ _ _ _, 0, _, _ => rfl
  | .node _ _ _ _ r, i + 1, u, h => by
    have := kidF_set r i u (by simp [foLen] at h; omega)
    simpa [kidF, setF, foDrop] using this
theorem setF_set : ∀ (f : Fo) (i : Nat) (u v : Tr), setF (setF f i u) i v = setF f i v
  | .nil, _, _, _ => rfl
  | .node _ _ _ _ _, 0, _, _ => rfl
  | .node _ _ _ _ r, i + 1, u, v => by simp [setF, setF_set r i u v]
theorem atT_append : ∀ (p : List Nat) (t : Tr) (r : List Nat), atT t (p ++ r) = (atT t p).bind fun u => atT u r
  | [], t, r => rfl
  | i :: p, t, r => by
    simp only [List.cons_append, atT]
    cases kidF t.kids i with
    | none => rfl
    | some u => exact atT_append p u r
/-- Further down the same path. -/
theorem putP_append : ∀ (p : List Nat) (t u v x : Tr) (i : Nat), atT t p = some u → kidF u.kids i = some v → putP t (p ++ [i]) x = putP t p ⟨u.id, u.kind, u.text, setF u.kids i x⟩
  | [], t, u, v, x, i, h, hv => by cases h; simp [putP, hv]
  | j :: p, t, u, v, x, i, h, hv => by
    simp only [atT] at h
    simp only [List.cons_append, putP]
    cases hk : kidF t.kids j with
    | none => simp [hk] at h
    | some w => rw [hk] at h; simp only at h ⊢; rw [putP_append p w u v x i h hv]
theorem setF_kid_same {f : Fo} {i : Nat} {u v : Tr} (h : kidF f i = some u) : sameT u v = true → sameF (setF f i v) f = true := by
  have sameK_symm : ∀ a b : Int × Int × ByteArray, sameK a b = sameK b a := fun a b => by
    unfold sameK
    rw [decide_eq_decide]
    constructor <;> (rintro ⟨h1, h2, h3⟩; exact ⟨h1.symm, h2.symm, h3.symm⟩)
  have sameF_symm : ∀ f g : Fo, sameF f g = sameF g f := by
    intro f
    induction f with
    | nil => intro g; cases g <;> rfl
    | node b o a l r ihl ihr =>
      intro g
      cases g with
      | nil => rfl
      | node b' o' a' l' r' =>
        simp only [sameF]
        rw [sameK_symm, ihl, ihr]
        congr 2
        rw [show decide (foLen l = foLen l') = decide (foLen l' = foLen l) from by rw [decide_eq_decide]; exact eq_comm]
  intro hs
  have key : ∀ (f : Fo) (i : Nat), kidF f i = some u → sameF (setF f i v) f = true := by
    intro f
    induction f with
    | nil => intro i h; cases i <;> simp [kidF, foDrop, headT] at h
    | node b o k l r ihl ihr =>
      intro i h
      cases i with
      | zero =>
        simp only [kidF, foDrop, headT] at h
        cases h
        simp only [setF, sameF, sameF_refl, Bool.and_true]
        simp only [sameT] at hs
        rw [Bool.and_eq_true, Bool.and_eq_true] at hs
        rw [sameK_symm, hs.1, sameF_symm, hs.2.2]
        simp only [Bool.true_and, Bool.and_true]
        have := hs.2.1
        rw [decide_eq_true_iff] at this ⊢
        exact this.symm
      | succ i =>
        have := ihr i (by simpa [kidF, foDrop] using h)
        simp only [setF, sameF, this, sameF_refl, Bool.and_true]
        simp [sameK]
  exact key f i h
/-- The row but for its i-th node lies there. -/
def ButAt (w : World) (S : Nat → Prop) : Nat → Fo → Nat → Nat → Prop
  | _, .nil, _, _ => True
  | 0, .node _ _ _ _ r, b, off => FoAt w S r (some ⟨b, off + 4, none⟩)
  | i + 1, .node _ _ k l r, b, off => NodeAt w S ⟨k.1, k.2.1, k.2.2, l⟩ b off ∧ ButAt w S i r b (off + 4)
theorem but_fill : ∀ (f : Fo) (i : Nat) {w : World} {S : Nat → Prop} {u : Tr} {b off : Nat}, ButAt w S i f b off → NodeAt w S u b (off + i * 4) → i < foLen f → FoAt w S (setF f i u) (some ⟨b, off, none⟩)
  | .nil, _, _, _, _, _, _, _, _, h => by simp [foLen] at h
  | .node _ _ k l r, 0, w, S, u, b, off, h, hn, _ => by
    obtain ⟨h0, h1, h2, h3, ka, kc, h4, h5, h6⟩ := hn
    simp only [Nat.zero_mul, Nat.add_zero] at h1 h2 h3 h4
    exact ⟨b, off, ka, kc, rfl, h0, h1, h2, h3, h4, h5, h6, h⟩
  | .node _ _ k l r, i + 1, w, S, u, b, off, h, hn, hi => by
    obtain ⟨⟨h0, h1, h2, h3, ka, kc, h4, h5, h6⟩, hr⟩ := h
    refine ⟨b, off, ka, kc, rfl, h0, h1, h2, h3, h4, h5, h6, but_fill r i hr ?_ (by simp [foLen] at hi; omega)⟩
    rw [show off + 4 + i * 4 = off + (i + 1) * 4 by omega]; exact hn
/-- A row that was put elsewhere, but for its i-th node. -/
theorem but_row : ∀ (f : Fo) (i : Nat) (xs : List Value) {w w' : World} {S S' : Nat → Prop} {b off : Nat}, FoRow w S f xs → i < foLen f → S' b → (∀ y, S y → S' y ∧ w'.heap[y]? = w.heap[y]?) → (∀ j u, xs[j]? = some u → (j < i * 4 ∨ i * 4 + 4 ≤ j) → w'.cell? ⟨b, off + j, none⟩ = some u) → ButAt w' S' i f b off
  | .nil, _, _, _, _, _, _, _, _, _, h, _, _, _ => by simp [foLen] at h
  | .node _ _ k l r, 0, xs, w, w', S, S', b, off, hf, _, hb, hS, hc => by
    obtain ⟨ka, cap, ys, e, hcp, hkl, hr⟩ := hf
    subst e
    refine FoRow.lies hb (off + 4) (hr.kept hS) fun j u hu => ?_
    have := hc (j + 4) u (by rw [List.getElem?_append_right (by simp)]; simpa using hu) (Or.inr (by omega))
    rw [show off + 4 + j = off + (j + 4) by omega]; exact this
  | .node _ _ k l r, i + 1, xs, w, w', S, S', b, off, hf, hi, hb, hS, hc => by
    obtain ⟨ka, cap, ys, e, hcp, hkl, hr⟩ := hf
    subst e
    refine ⟨⟨hb, hc 0 _ rfl (Or.inl (by omega)), hc 1 _ rfl (Or.inl (by omega)), hc 2 _ rfl (Or.inl (by omega)), ka, cap, hc 3 _ rfl (Or.inl (by omega)), hcp, hkl.kept hS⟩, but_row r i ys hr (by simp [foLen] at hi; omega) hb hS fun j u hu hj => ?_⟩
    have := hc (j + 4) u (by rw [List.getElem?_append_right (by simp)]; simpa using hu) (by omega)
    rw [show off + 4 + j = off + (j + 4) by omega]; exact this
/-- The cells of a row that lies there. -/
theorem fo_row : ∀ (f : Fo) {w : World} {S : Nat → Prop} {b off : Nat}, FoAt w S f (some ⟨b, off, none⟩) → ∃ xs, FoRow w S f xs ∧ xs.length = foLen f * 4 ∧ (∀ j u, xs[j]? = some u → w.cell? ⟨b, off + j, none⟩ = some u) ∧ ∀ u ∈ xs, u.oneCell' = true
  | .nil, _, _, _, _, _ => ⟨[], rfl, rfl, fun _ _ h => by simp at h, fun _ h => by cases h⟩
  | .node _ _ k l r, w, S, b, off, h => by
    obtain ⟨b', off', ka, kc, e, hb, c0, c1, c2, c3, hcp, hkl, hr⟩ := h
    cases e
    obtain ⟨ys, h1, h2, h3, h4⟩ := fo_row r hr
    refine ⟨[.int .i64 k.1, .int .i64 k.2.1, .string k.2.2, .slice ka (foLen l) kc] ++ ys, ⟨ka, kc, ys, rfl, hcp, hkl, h1⟩, by rw [List.length_append, h2]; simp [foLen]; omega, fun j u hu => ?_, fun u hu => ?_⟩
    · match j, hu with
      | 0, hu => simp at hu; subst hu; exact c0
      | 1, hu => simp at hu; subst hu; exact c1
      | 2, hu => simp at hu; subst hu; exact c2
      | 3, hu => simp at hu; subst hu; exact c3
      | j + 4, hu =>
        have := h3 j u (by simpa using hu)
        rw [show off + (j + 4) = off + 4 + j by omega]; exact this
    · rcases List.mem_append.1 hu with hu | hu
      · simp only [List.mem_cons, List.not_mem_nil, or_false] at hu
        rcases hu with rfl | rfl | rfl | rfl <;> rfl
      · exact h4 u hu
theorem fo_row' (f : Fo) {w : World} {S : Nat → Prop} {a : Option Addr} (h : FoAt w S f a) : ∃ xs, FoRow w S f xs ∧ xs.length = foLen f * 4 ∧ (∀ ad, a = some ad → ∀ j u, xs[j]? = some u → w.cell? (ad.add j) = some u) ∧ (∀ u ∈ xs, u.oneCell' = true) := by
  cases f with
  | nil => exact ⟨[], rfl, rfl, fun _ _ _ _ h => by simp at h, fun _ h => by cases h⟩
  | node b0 o0 k l r =>
    have h' := h
    obtain ⟨b', off', ka, kc, e, _⟩ := h'
    subst e
    obtain ⟨xs, h1, h2, h3, h4⟩ := fo_row _ h
    exact ⟨xs, h1, h2, fun ad hd j u hu => by cases hd; rw [Addr.add_mid]; exact h3 j u hu, h4⟩
theorem kidF_size {f : Fo} {i : Nat} {u : Tr} (h : kidF f i = some u) : foSize u.kids + 1 ≤ foSize f := by
  have h2 := foDrop_size h
  have h3 : ∀ (j : Nat) (f : Fo), foSize (foDrop j f) ≤ foSize f := by
    intro j
    induction j with
    | zero => intro f; rw [foDrop_zero]; exact Nat.le_refl _
    | succ j ih => intro f; cases f with
      | nil => exact Nat.le_refl _
      | node b o a l r => have := ih r; simp only [foDrop, foSize]; omega
  have := h3 i f
  omega
theorem setF_size2 : ∀ (f : Fo) (i : Nat) (u v : Tr), kidF f i = some u → foSize (setF f i v) + foSize u.kids = foSize f + foSize v.kids
  | .nil, i, _, _, h => by cases i <;> simp [kidF, foDrop, headT] at h
  | .node _ _ k l r, 0, u, v, h => by
    simp only [kidF, foDrop, headT] at h
    cases h
    simp only [setF, foSize]; omega
  | .node _ _ k l r, i + 1, u, v, h => by
    have := setF_size2 r i u v (by simpa [kidF, foDrop] using h)
    simp only [setF, foSize]; omega
/-- Put back where it stood it is the same. -/
theorem putP_same : ∀ (p : List Nat) (t u v : Tr), atT t p = some u → sameT u v = true → sameT (putP t p v) t = true
  | [], t, u, v, h, hs => by
    cases h
    have e : putP t [] v = v := rfl
    rw [e]
    have := setF_kid_same (f := rootF t) (i := 0) (u := t) (v := v) rfl hs
    simp only [rootF, setF, sameF, Bool.and_true] at this
    simp only [sameT]; exact this
  | i :: p, t, u, v, h, hs => by
    simp only [atT] at h
    simp only [putP]
    cases hk : kidF t.kids i with
    | none => rw [hk] at h; cases h
    | some w =>
      rw [hk] at h
      simp only at h ⊢
      have h1 := putP_same p w u v h hs
      have h2 : sameT w (putP w p v) = true := by
        have := setF_kid_same (f := rootF (putP w p v)) (i := 0) (u := putP w p v) (v := w) rfl h1
        simp only [rootF, setF, sameF, Bool.and_true] at this
        simp only [sameT]; exact this
      have h3 := setF_kid_same hk h2
      simp only [sameT, h3, setF_len]
      simp [sameK]
end Go.Proofs.Ythjniclhnfipdaa
namespace Go.Proofs.Ythjniclhnfipdaa
open Go.RowKit Go.Shelf
set_option linter.unusedVariables false
set_option linter.unusedSimpArgs false

/-- A block of nodes. -/
def NB (X : World) (y : Nat) : Prop := ∃ cs, X.heap[y]? = some (.cells cs 24 (0, 0))
/-- The tree's blocks, and blocks of nodes made since, but for the result's. -/
def SN (S : Nat → Prop) (B0 : Nat) (X : World) (y : Nat) : Prop := S y ∨ (y ≠ B0 + 1 ∧ B0 ≤ y ∧ NB X y)
theorem NB.lt {X : World} {y : Nat} (h : NB X y) : y < X.heap.size := by obtain ⟨cs, h⟩ := h; exact lt_of_some h
theorem SN.lt {S : Nat → Prop} {B0 : Nat} {X : World} (hS : ∀ y, S y → y < B0) (hB : B0 ≤ X.heap.size) {y : Nat} (h : SN S B0 X y) : y < X.heap.size := by
  rcases h with h | h
  · have := hS y h; omega
  · exact h.2.2.lt
theorem NB.of_eq {X Y : World} {y : Nat} (h : NB X y) (e : Y.heap[y]? = X.heap[y]?) : NB Y y := by obtain ⟨cs, h⟩ := h; exact ⟨cs, e.trans h⟩
theorem owns_type {w : World} {B : Nat} {e : TypeId} {size : Nat} {v : Value} {n : Nat} {xs : List Value} (h : w.ownsRow B e size v n xs) {g : Nat} (hg : v.ownBlock = some g) : ∃ cur, w.heap[g]? = some (.cells cur e (0, 0)) := by
  rcases h.2 with ⟨hv, _⟩ | ⟨g', cap, cur, hv, hB, hh, _⟩
  · rw [hv] at hg; cases hg
  · rw [hv] at hg; cases hg; exact ⟨cur, hh⟩
/-- The same cells elsewhere. -/
theorem fo_copy {Y : World} {S : Nat → Prop} {g : Nat} (hg : S g) : ∀ (l : Fo) (b off go : Nat), (∀ j, j < foLen l * 4 → Y.cell? ⟨g, go + j, none⟩ = Y.cell? ⟨b, off + j, none⟩) → FoAt Y S l (some ⟨b, off, none⟩) → FoAt Y S l (some ⟨g, go, none⟩)
  | .nil, _, _, _, _, _ => True.intro
  | .node _ _ k l r, b, off, go, hc, h => by
    obtain ⟨b', off', ka, cap, e, hb, h0, h1, h2, h3, hcp, hl, hr⟩ := h
    cases e
    have c0 := hc 0 (by show _ < (foLen r + 1) * 4; omega)
    have c1 := hc 1 (by show _ < (foLen r + 1) * 4; omega)
    have c2 := hc 2 (by show _ < (foLen r + 1) * 4; omega)
    have c3 := hc 3 (by show _ < (foLen r + 1) * 4; omega)
    refine ⟨g, go, ka, cap, rfl, hg, c0.trans h0, c1.trans h1, c2.trans h2, c3.trans h3, hcp, hl, fo_copy hg r _ _ _ (fun j hj => ?_) hr⟩
    have := hc (4 + j) (by show _ < (foLen r + 1) * 4; omega)
    rw [Nat.add_assoc, Nat.add_assoc]; exact this
/-- A cell of kids told anew: all trees lie there still. -/
theorem set_keeps {Y : World} {S : Nat → Prop} {g off n c c' : Nat} {ka ka' : Option Addr} (h3 : Y.cell? ⟨g, off, none⟩ = some (.slice ka n c)) (hc : n ≤ c') (hcopy : ∀ l, foLen l = n → FoAt Y S l ka → FoAt Y S l ka') :
    ∀ (f : Fo) (a : Option Addr), FoAt Y S f a → FoAt (Y.setCell ⟨g, off, none⟩ (.slice ka' n c')) S f a
  | .nil, _, _ => True.intro
  | .node _ _ k l r, a, h => by
    obtain ⟨b, o, kb, cap, e, hb, h0, h1, h2, h4, hcp, hl, hr⟩ := h
    have hoth : ∀ j v, Y.cell? ⟨b, j, none⟩ = some v → (∀ x m q, v ≠ .slice x m q) → (Y.setCell ⟨g, off, none⟩ (.slice ka' n c')).cell? ⟨b, j, none⟩ = some v := fun j v hv hne => by
      rw [World.cell?_setCell_other _ _ _ _ (by
        intro he
        rw [← he, h3] at hv
        exact hne _ _ _ (Option.some.inj hv).symm)]
      exact hv
    refine ⟨b, o, ?_⟩
    by_cases he : b = g ∧ o + 3 = off
    · obtain ⟨rfl, rfl⟩ := he
      rw [h3] at h4
      cases h4
      refine ⟨ka', c', e, hb, hoth _ _ h0 (by intros; simp), hoth _ _ h1 (by intros; simp), hoth _ _ h2 (by intros; simp), ?_, hc, set_keeps h3 hc hcopy l ka' (hcopy l rfl hl), set_keeps h3 hc hcopy r _ hr⟩
      exact World.cell?_setCell_same' Y _ _ (by rw [h3]; rfl)
    · refine ⟨kb, cap, e, hb, hoth _ _ h0 (by intros; simp), hoth _ _ h1 (by intros; simp), hoth _ _ h2 (by intros; simp), ?_, hcp, set_keeps h3 hc hcopy l kb hl, set_keeps h3 hc hcopy r _ hr⟩
      rw [World.cell?_setCell_other _ _ _ _ (by intro h; cases h; exact he ⟨rfl, rfl⟩)]
      exact h4
/-- What a fresh copy of a row is. -/
theorem clone_lies {X Y : World} {S : Nat → Prop} {B0 n c' : Nat} {ka ka' : Option Addr} {f : Fo} {xs : List Value} (hS : ∀ y, S y → y < B0) (hB : B0 + 1 < X.heap.size) (hY : Below X.heap.size X Y) (hf : FoAt X (SN S B0 X) f ka) (hr : FoRow X (SN S B0 X) f xs) (hn : n = foLen f) (hl : xs.length = n * 4) (hc : ∀ ad, ka = some ad → ∀ j u, xs[j]? = some u → X.cell? (ad.add j) = some u)
    (ho : Y.ownsRow X.heap.size 24 4 (.slice ka' n c') n xs) :
    n ≤ c' ∧ FoAt Y (SN S B0 Y) f ka' ∧ (0 < n → ∃ g, ka' = some ⟨g, 0, none⟩ ∧ X.heap.size ≤ g ∧ NB Y g) ∧ (∀ l, foLen l = n → FoAt Y (SN S B0 Y) l ka → FoAt Y (SN S B0 Y) l ka') ∧ (∀ l a, FoAt X (SN S B0 X) l a → FoAt Y (SN S B0 Y) l a) := by
  have hkeep : ∀ y, SN S B0 X y → SN S B0 Y y ∧ Y.heap[y]? = X.heap[y]? := fun y hy => by
    have h1 := hY.block y (hy.lt hS (by omega))
    exact ⟨hy.imp (fun h => h) (fun h => ⟨h.1, h.2.1, h.2.2.of_eq h1⟩), h1⟩
  have hall : ∀ l a, FoAt X (SN S B0 X) l a → FoAt Y (SN S B0 Y) l a := fun l a h => h.kept hkeep
  have hz : n = 0 → ∀ l : Fo, foLen l = n → ∀ a, FoAt Y (SN S B0 Y) l a := fun h0 l hl a => by
    cases l with
    | nil => exact True.intro
    | node b o k p q => simp [foLen] at hl; omega
  rcases ho.2 with ⟨hv, h0⟩ | ⟨g, cc, cur, hv, hg, hh, hnc, _⟩
  · cases hv
    exact ⟨by omega, hz (by omega) f hn.symm _, fun h => by omega, fun l hl _ => hz (by omega) l hl _, hall⟩
  · cases hv
    have hgN : NB Y g := ⟨cur, hh⟩
    have hcell := fun j u hj => owns_cell ho (g := g) rfl j u hj
    have hfk : FoAt Y (SN S B0 Y) f (some ⟨g, 0, none⟩) := FoRow.lies (Or.inr ⟨by omega, by omega, hgN⟩) 0 (hr.kept hkeep) (fun j u hj => by rw [Nat.zero_add]; exact hcell j u hj)
    refine ⟨hnc, hfk, fun _ => ⟨g, rfl, hg, hgN⟩, fun l hll hla => ?_, hall⟩
    by_cases h0 : n = 0
    · exact hz h0 l hll _
    · cases l with
      | nil => exact True.intro
      | node b o k p q =>
        have hla' := hla
        obtain ⟨b', off', kb, cap, e, hb, _⟩ := hla'
        subst e
        cases f with
        | nil => simp [foLen] at hn; omega
        | node b1 o1 k1 p1 q1 =>
          obtain ⟨b2, off2, kb2, cap2, e2, hb2, _⟩ := hf
          cases e2
          refine fo_copy (Or.inr ⟨by omega, by omega, hgN⟩) _ b' off' 0 (fun j hj => ?_) hla
          rw [hll, ← hl] at hj
          have hx : xs[j]? = some xs[j] := List.getElem?_eq_getElem hj
          have h1 := hc _ rfl j _ hx
          rw [Addr.add_mid] at h1
          rw [Nat.zero_add, hcell j _ hx, World.cell?_of_block (a := ⟨b', off' + j, none⟩) (hkeep b' hb2).2, h1]
theorem fo_none {w : World} {S : Nat → Prop} {f : Fo} {a : Option Addr} (h : FoAt w S f a) (ha : a = none) : foLen f = 0 := by
  cases f with
  | nil => rfl
  | node b o k l r => obtain ⟨_, _, _, _, e, _⟩ := h; rw [ha] at e; cases e
end Go.Proofs.Ythjniclhnfipdaa
