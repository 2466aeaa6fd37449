/-
  Stretches, found step by step: plainly. No condition.
-/
import Derived.Test.YtmfpilacmafglaaGFitP
namespace Go.Proofs.Ytmfpilacmafglaa

/-- f tells where stretches end that begin ahead of c. -/
def FP (kids : List Int) (s : Sl) (T : Nat → Bool) (c : Nat) (f : Nat → Bool) : Prop := ∀ j, f j = true ↔ ∃ b, b < c ∧ T b = true ∧ Stretch kids s b j
/-- .. and those that begin at c and are shorter than n. -/
def FI (kids : List Int) (s : Sl) (T : Nat → Bool) (c n : Nat) (f : Nat → Bool) : Prop := ∀ j, f j = true ↔ (∃ b, b < c ∧ T b = true ∧ Stretch kids s b j) ∨ ∃ m : Nat, m < n ∧ s.least ≤ (m : Int) ∧ j = c + m
def OwnTo (kids : List Int) (s : Sl) (c n : Nat) : Prop := ∀ i, c ≤ i → i < c + n → ownF kids s.kinds i = true
theorem FP.start (kids : List Int) (s : Sl) (T : Nat → Bool) : FP kids s T 0 noF := fun j => ⟨fun h => by simp [noF] at h, fun ⟨b, h, _⟩ => by omega⟩
theorem FP.skip {kids : List Int} {s : Sl} {T : Nat → Bool} {c : Nat} {f : Nat → Bool} (h : FP kids s T c f) (hT : T c = false) : FP kids s T (c + 1) f := fun j => by
  rw [h j]
  constructor
  · rintro ⟨b, h1, h2⟩; exact ⟨b, by omega, h2⟩
  · rintro ⟨b, h1, h2, h3⟩
    refine ⟨b, ?_, h2, h3⟩
    by_cases e : b = c
    · subst e; rw [hT] at h2; cases h2
    · omega
theorem FP.all {kids : List Int} {s : Sl} {T : Nat → Bool} {f : Nat → Bool} (h : FP kids s T (kids.length + 1) f) : f = nextT kids s T := by
  funext j
  rw [Bool.eq_iff_iff, h j, nextT_iff]
  constructor
  · rintro ⟨b, _, h⟩; exact ⟨b, h⟩
  · rintro ⟨b, h1, h2⟩; exact ⟨b, by have := h2.le; have := h2.ends; omega, h1, h2⟩
theorem FI.start {kids : List Int} {s : Sl} {T : Nat → Bool} {c : Nat} {f : Nat → Bool} (h : FP kids s T c f) : FI kids s T c 0 f := fun j => by
  rw [h j]
  exact ⟨Or.inl, fun h => h.elim id fun ⟨m, h, _⟩ => by omega⟩
theorem FI.skip {kids : List Int} {s : Sl} {T : Nat → Bool} {c n : Nat} {f : Nat → Bool} (h : FI kids s T c n f) (hn : (n : Int) < s.least) : FI kids s T c (n + 1) f := fun j => by
  rw [h j]
  constructor
  · rintro (h | ⟨m, h1, h2⟩)
    · exact Or.inl h
    · exact Or.inr ⟨m, by omega, h2⟩
  · rintro (h | ⟨m, h1, h2, h3⟩)
    · exact Or.inl h
    · exact Or.inr ⟨m, by omega, h2, h3⟩
theorem FI.put {kids : List Int} {s : Sl} {T : Nat → Bool} {c n : Nat} {f : Nat → Bool} (h : FI kids s T c n f) (hn : s.least ≤ (n : Int)) : FI kids s T c (n + 1) (fun j => if j = c + n then true else f j) := fun j => by
  show (if j = c + n then true else f j) = true ↔ _
  by_cases e : j = c + n
  · rw [if_pos e]
    exact ⟨fun _ => Or.inr ⟨n, by omega, hn, e⟩, fun _ => rfl⟩
  · rw [if_neg e, h j]
    constructor
    · rintro (h | ⟨m, h1, h2⟩)
      · exact Or.inl h
      · exact Or.inr ⟨m, by omega, h2⟩
    · rintro (h | ⟨m, h1, h2, h3⟩)
      · exact Or.inl h
      · exact Or.inr ⟨m, by omega, h2, h3⟩
theorem own_lt {kids : List Int} {kinds : List Int} {i : Nat} (h : ownF kids kinds i = true) : i < kids.length ∧ ∀ x, kids[i]? = some x → hasInt kinds x = true := by
  by_cases hi : i < kids.length
  · refine ⟨hi, fun x hx => ?_⟩
    rw [ownF_some hx] at h; exact h
  · rw [ownF_none (by omega)] at h; cases h
/-- All lengths of one beginning are through. -/
theorem FI.done {kids : List Int} {s : Sl} {T : Nat → Bool} {c N : Nat} {f : Nat → Bool} (h : FI kids s T c N f) (hc : c ≤ kids.length) (hT : T c = true) (ho : ∀ i, c ≤ i → i + 1 < c + N → ownF kids s.kinds i = true)
    (hN : (N : Int) ≤ s.most + 1) (hend : (N : Int) = s.most + 1 ∨ 1 ≤ N ∧ ownF kids s.kinds (c + N - 1) = false) : FP kids s T (c + 1) f := fun j => by
  rw [h j]
  constructor
  · rintro (⟨b, h1, h2⟩ | ⟨m, h1, h2, h3⟩)
    · exact ⟨b, by omega, h2⟩
    · refine ⟨c, by omega, hT, by omega, ?_, ?_, ?_, fun i x hi hj hx => (own_lt (ho i hi (by omega))).2 x hx⟩
      · by_cases e : m = 0
        · omega
        · have := (own_lt (ho (c + m - 1) (by omega) (by omega))).1; omega
      · rw [show j - c = m by omega]; exact h2
      · rw [show j - c = m by omega]; omega
  · rintro ⟨b, h1, h2, h3⟩
    by_cases e : b = c
    · subst e
      refine Or.inr ⟨j - b, ?_, h3.least, by have := h3.le; omega⟩
      rcases hend with hend | ⟨h1N, hend⟩
      · have := h3.most; omega
      · by_cases hlt : j - b < N
        · exact hlt
        · exfalso
          have hj := h3.ends
          have hle := h3.le
          have hi : b + N - 1 < kids.length := by omega
          have hx := List.getElem?_eq_getElem hi
          have := h3.all (b + N - 1) _ (by omega) (by omega) hx
          rw [ownF_some hx, this] at hend
          cases hend
    · exact Or.inl ⟨b, by omega, h2, h3⟩
end Go.Proofs.Ytmfpilacmafglaa
