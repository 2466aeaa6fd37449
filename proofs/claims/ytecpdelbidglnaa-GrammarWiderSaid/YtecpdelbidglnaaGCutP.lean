/-
  Rows that were put together fit; rows that fit have enough; wider slots let be what was let be: plainly. No condition.
-/
import Derived.Test.YtecpdelbidglnaaGLawF
namespace Go.Proofs.Ytecpdelbidglnaa

theorem Stretch.more {M P : List Int} {s : Sl} {b j : Nat} (h : Stretch M s b j) : Stretch (M ++ P) s b j :=
  ⟨h.le, by rw [List.length_append]; have := h.ends; omega, h.least, h.most, fun i x hi hj hx => h.all i x hi hj (by rw [List.getElem?_append_left (by have := h.ends; omega)] at hx; exact hx)⟩
theorem ends_none (kids : List Int) : endsT kids [] = onlyF := rfl
/-- What holds behind so many slots, step by step. -/
theorem ends_ind {kids kids' : List Int} {l l' : List Sl} (hl : l.length = l'.length) (hs : ∀ (i : Nat) (s s' : Sl) (b j : Nat), l[i]? = some s → l'[i]? = some s' → Stretch kids s b j → Stretch kids' s' b j) :
    ∀ (k j : Nat), endsT kids (l.take k) j = true → endsT kids' (l'.take k) j = true
  | 0, j, h => h
  | k + 1, j, h => by
    by_cases hk : k < l.length
    · obtain ⟨s, hx⟩ : ∃ s, l[k]? = some s := ⟨l[k], List.getElem?_eq_getElem hk⟩
      obtain ⟨s', hx'⟩ : ∃ s, l'[k]? = some s := ⟨l'[k]'(by omega), List.getElem?_eq_getElem _⟩
      rw [ends_step hx, nextT_iff] at h
      obtain ⟨b, h1, h2⟩ := h
      rw [ends_step hx', nextT_iff]
      exact ⟨b, ends_ind hl hs k b h1, hs k s s' b j hx hx' h2⟩
    · have e1 : l.take (k + 1) = l.take k := by rw [List.take_of_length_le (by omega : l.length ≤ k + 1), List.take_of_length_le (by omega : l.length ≤ k)]
      have e2 : l'.take (k + 1) = l'.take k := by rw [List.take_of_length_le (by omega : l'.length ≤ k + 1), List.take_of_length_le (by omega : l'.length ≤ k)]
      rw [e1] at h
      rw [e2]
      exact ends_ind hl hs k j h
theorem ends_more {M P : List Int} {l : List Sl} {j : Nat} (h : endsT M l j = true) : endsT (M ++ P) l j = true := by
  have := ends_ind (kids := M) (kids' := M ++ P) (l := l) (l' := l) rfl (fun i s s' b j h1 h2 h3 => by rw [h1] at h2; cases h2; exact h3.more) l.length j (by rwa [List.take_of_length_le (Nat.le_refl _)])
  rwa [List.take_of_length_le (Nat.le_refl _)] at this
theorem sumLeast_snoc : ∀ (l : List Sl) (s : Sl), sumLeast (l ++ [s]) = sumLeast l + s.least
  | [], s => by simp [sumLeast]
  | x :: l, s => by simp only [List.cons_append, sumLeast, sumLeast_snoc l s]; omega
theorem ends_least {kids : List Int} {l : List Sl} : ∀ (k j : Nat), endsT kids (l.take k) j = true → sumLeast (l.take k) ≤ (j : Int)
  | 0, j, _ => by simp [sumLeast]
  | k + 1, j, h => by
    by_cases hk : k < l.length
    · obtain ⟨s, hx⟩ : ∃ s, l[k]? = some s := ⟨l[k], List.getElem?_eq_getElem hk⟩
      rw [ends_step hx, nextT_iff] at h
      obtain ⟨b, h1, h2⟩ := h
      have h3 := ends_least k b h1
      rw [take_snoc hx, sumLeast_snoc]
      have h4 := h2.least
      have h5 := h2.le
      omega
    · have e1 : l.take (k + 1) = l.take k := by rw [List.take_of_length_le (by omega : l.length ≤ k + 1), List.take_of_length_le (by omega : l.length ≤ k)]
      rw [e1] at h ⊢
      exact ends_least k j h
/-- A row that fits has at least so many. -/
theorem fits_least {o : Option Kd} {kids : List Int} (h : fitsV o kids = true) : leastV o ≤ (kids.length : Int) ∧ kids.length ≤ 200 := by
  cases o with
  | none => cases h
  | some k =>
    simp only [fitsV, Bool.and_eq_true, decide_eq_true_eq] at h
    have := ends_least (kids := kids) (l := k.slots) k.slots.length kids.length (by rw [List.take_of_length_le (Nat.le_refl _)]; exact h.2)
    rw [List.take_of_length_le (Nat.le_refl _)] at this
    exact ⟨this, h.1⟩

/-- What was made so far: stretches of the slots so far; and of one slot more a beginning. -/
def MadeOk (l : List Sl) (k : Nat) (M : List Int) : Prop := M.length ≤ 200 ∧ endsT M (l.take k) M.length = true
theorem MadeOk.start (l : List Sl) : MadeOk l 0 [] := ⟨by simp, rfl⟩
theorem MadeOk.next {l : List Sl} {k : Nat} {M P : List Int} {s : Sl} (h : MadeOk l k M) (hx : l[k]? = some s) (h1 : s.least ≤ (P.length : Int)) (h2 : (P.length : Int) ≤ s.most) (h3 : (M ++ P).length ≤ 200) (h4 : ∀ x ∈ P, hasInt s.kinds x = true) : MadeOk l (k + 1) (M ++ P) := by
  refine ⟨h3, ?_⟩
  rw [ends_step hx, nextT_iff]
  refine ⟨M.length, ends_more h.2, by rw [List.length_append]; omega, Nat.le_refl _, ?_, ?_, fun i x hi hj hxi => ?_⟩
  · rw [List.length_append]; omega
  · rw [List.length_append]; omega
  · rw [List.getElem?_append_right hi] at hxi
    exact h4 x (List.mem_of_getElem? hxi)
theorem MadeOk.fits {k : Kd} {M : List Int} (h : MadeOk k.slots k.slots.length M) : fitsV (some k) M = true := by
  have := h.2
  rw [List.take_of_length_le (Nat.le_refl _)] at this
  rw [fitsV, decide_eq_true h.1, this]; rfl
theorem has_at {l : List Int} {k : Nat} {x : Int} (h : l[k]? = some x) : hasInt l x = true := by
  rw [hasInt, List.any_eq_true]; exact ⟨x, List.mem_of_getElem? h, by simp⟩
end Go.Proofs.Ytecpdelbidglnaa
