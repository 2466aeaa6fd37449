/-
  Which rows fit: plainly. No condition.
-/
import Derived.Test.YtmfpilacmafglaaGTell2
import Derived.Test.YtmfpilacmafglaaGWide
import Derived.Test.YtmfpilacmafglaaGRSame
namespace Go.Proofs.Ytmfpilacmafglaa

/-- A stretch of slot s from b to j. -/
structure Stretch (kids : List Int) (s : Sl) (b j : Nat) : Prop where
  le : b ≤ j
  ends : j ≤ kids.length
  least : s.least ≤ ((j - b : Nat) : Int)
  most : ((j - b : Nat) : Int) ≤ s.most
  all : ∀ i x, b ≤ i → i < j → kids[i]? = some x → hasInt s.kinds x = true
def stretchB (kids : List Int) (s : Sl) (b j : Nat) : Bool :=
  decide (b ≤ j) && decide (j ≤ kids.length) && decide (s.least ≤ ((j - b : Nat) : Int)) && decide (((j - b : Nat) : Int) ≤ s.most) && ((kids.drop b).take (j - b)).all (hasInt s.kinds)
theorem stretchB_iff {kids : List Int} {s : Sl} {b j : Nat} : stretchB kids s b j = true ↔ Stretch kids s b j := by
  simp only [stretchB, Bool.and_eq_true, decide_eq_true_eq, List.all_eq_true]
  constructor
  · rintro ⟨⟨⟨⟨h1, h2⟩, h3⟩, h4⟩, h5⟩
    refine ⟨h1, h2, h3, h4, fun i x hi hj hx => h5 x ?_⟩
    rw [List.mem_iff_getElem?]
    exact ⟨i - b, by rw [List.getElem?_take, if_pos (by omega), List.getElem?_drop, show b + (i - b) = i by omega]; exact hx⟩
  · rintro ⟨h1, h2, h3, h4, h5⟩
    refine ⟨⟨⟨⟨h1, h2⟩, h3⟩, h4⟩, fun x hx => ?_⟩
    obtain ⟨i, hi⟩ := List.mem_iff_getElem?.1 hx
    rw [List.getElem?_take] at hi
    split at hi
    · rw [List.getElem?_drop] at hi
      exact h5 (b + i) x (by omega) (by omega) hi
    · cases hi

/-- Where a stretch may end, if it may begin where T is true. -/
def nextT (kids : List Int) (s : Sl) (T : Nat → Bool) : Nat → Bool := fun j => (List.range (j + 1)).any fun b => T b && stretchB kids s b j
theorem nextT_iff {kids : List Int} {s : Sl} {T : Nat → Bool} {j : Nat} : nextT kids s T j = true ↔ ∃ b, T b = true ∧ Stretch kids s b j := by
  simp only [nextT, List.any_eq_true, List.mem_range, Bool.and_eq_true, stretchB_iff]
  exact ⟨fun ⟨b, _, h⟩ => ⟨b, h⟩, fun ⟨b, h⟩ => ⟨b, by have := h.2.le; omega, h⟩⟩
def endsT (kids : List Int) (slots : List Sl) : Nat → Bool := slots.foldl (fun T s => nextT kids s T) onlyF
def fitsV (o : Option Kd) (kids : List Int) : Bool := match o with
  | none => false
  | some k => decide (kids.length ≤ 200) && endsT kids k.slots kids.length
theorem ends_step {kids : List Int} {slots : List Sl} {k : Nat} {s : Sl} (hs : slots[k]? = some s) : endsT kids (slots.take (k + 1)) = nextT kids s (endsT kids (slots.take k)) := by
  rw [take_snoc hs, endsT, List.foldl_append]; rfl

/-- Which kids are of the slot's kinds. -/
def ownF (kids : List Int) (kinds : List Int) : Nat → Bool := fun i => match kids[i]? with
  | some x => hasInt kinds x
  | none => false
theorem ownF_some {kids kinds : List Int} {i : Nat} {x : Int} (h : kids[i]? = some x) : ownF kids kinds i = hasInt kinds x := by simp [ownF, h]
theorem ownF_none {kids kinds : List Int} {i : Nat} (h : kids.length ≤ i) : ownF kids kinds i = false := by simp [ownF, List.getElem?_eq_none h]
end Go.Proofs.Ytmfpilacmafglaa
