/-
  The program's map of names. No condition but that the kinds lie where they are said to lie.
  The program's Check, Find and kindAt. No condition but that the grammar lies where it is said to lie.
  The program's kindAt, Text and Least. No condition but that the grammar lies where it is said to lie.
  Which rows fit: plainly. No condition.
  Stretches, found step by step: plainly. No condition.
-/
import Derived.Test.YtfdcopegkhofnaaGIntsQb
import Derived.Maps.OwnSet
import Derived.Maps.OwnOps
import Derived.Test.YtfdcopegkhofnaaRSameQb
import Derived.Test.YtfdcopegkhofnaaGWideQb
namespace Go.Proofs.Ytfdcopegkhofnaa
open Go.RowKit Go.Maps

theorem strKey (s : List UInt8) : WideAt.IsKeyLit (.string s) := True.intro
/-- What the map holds behind so many kinds. -/
structure PlOk (l : List Kd) (k : Nat) (D : DataW Value) : Prop where
  tidy : Tidy D
  le : Maps.size D ≤ k
  size : Maps.size D = k ↔ apart (l.take k) = true
  has : ∀ s, Maps.has D (.string s) = !fresh (l.take k) s
  find : apart (l.take k) = true → ∀ j x, j < k → l[j]? = some x → D.atKey (.string x.name.data.toList) (.lit (.int .i64 0)) = .lit (.int .i64 (j : Int))
theorem PlOk.start (l : List Kd) : PlOk l 0 (.map []) := ⟨tidy_empty, Nat.le_refl _, ⟨fun _ => rfl, fun _ => rfl⟩, fun _ => rfl, fun _ j _ h => by omega⟩
theorem PlOk.next {l : List Kd} {k : Nat} {D : DataW Value} {x : Kd} (h : PlOk l k D) (hx : l[k]? = some x) : PlOk l (k + 1) (D.put (.string x.name.data.toList) (.lit (.int .i64 (k : Int)))) := by
  have hs := size_put (k := .string x.name.data.toList) h.tidy (.lit (.int .i64 (k : Int)))
  have hh := h.has x.name.data.toList
  refine ⟨h.tidy.put (strKey _) _, ?_, ?_, fun s => ?_, fun ha j y hj hy => ?_⟩
  · rw [hs]; have := h.le; split <;> omega
  · rw [hs, apart_take hx, hh, Bool.and_eq_true, ← h.size]
    have := h.le
    cases fresh (l.take k) x.name.data.toList
    · simp; omega
    · simp
  · by_cases e : s = x.name.data.toList
    · subst e
      rw [has_put_same h.tidy.isMap (strKey _), fresh_take hx]
      simp
    · rw [has_put_other (by simpa using e), h.has, fresh_take hx]
      have : decide (x.name.data.toList ≠ s) = true := by simpa using fun h => e h.symm
      rw [this, Bool.and_true]
  · rw [apart_take hx, Bool.and_eq_true] at ha
    by_cases e : j = k
    · subst e
      rw [hx] at hy; cases hy
      exact atKey_put_same h.tidy.isMap (strKey _) _ _
    · have hjk : j < k := by omega
      have hne := fresh_at (k := j) ha.2 (by rw [List.getElem?_take, if_pos hjk]; exact hy)
      rw [atKey_put_other (by simpa using hne)]
      exact h.find ha.1 j y hjk hy

end Go.Proofs.Ytfdcopegkhofnaa
namespace Go.Proofs.Ytfdcopegkhofnaa
open Go.RowKit Go.Maps

def Pair (n : Int) (b : Bool) (w : World) (e : Ending) (w' : World) : Prop := e = .returned (.tuple #[.int .i64 n, .bool b]) ∧ Below w.heap.size w w'

theorem Pair.mk {n n' : Int} {b b' : Bool} {w w' : World} (h : n = n') (h2 : b = b') (hb : Below w.heap.size w w') : Pair n b w (.returned (.tuple #[.int .i64 n', .bool b'])) w' := ⟨by rw [h, h2], hb⟩

def NoKind (w : World) (e : Ending) (w' : World) : Prop := e = .returned (.tuple #[.agg #[.string ⟨#[]⟩, .bool false, .slice none 0 0], .bool false]) ∧ Below w.heap.size w w'
end Go.Proofs.Ytfdcopegkhofnaa
namespace Go.Proofs.Ytfdcopegkhofnaa
open Go.RowKit Go.Maps

theorem NoKind.mk {w w' : World} (h : Below w.heap.size w w') : NoKind w (.returned (.tuple #[.agg #[.string ⟨#[]⟩, .bool false, .slice none 0 0], .bool false])) w' := ⟨rfl, h⟩
end Go.Proofs.Ytfdcopegkhofnaa
namespace Go.Proofs.Ytfdcopegkhofnaa

/-- A stretch of slot s from b to j. -/
structure Stretch (kids : List Int) (s : Sl) (b j : Nat) : Prop where
  le : b ≤ j
  ends : j ≤ kids.length
  least : s.least ≤ ((j - b : Nat) : Int)
  most : ((j - b : Nat) : Int) ≤ s.most
  all : ∀ i x, b ≤ i → i < j → kids[i]? = some x → hasInt s.kinds x = true
def stretchB (kids : List Int) (s : Sl) (b j : Nat) : Bool :=
  decide (b ≤ j) && decide (j ≤ kids.length) && decide (s.least ≤ ((j - b : Nat) : Int)) && decide (((j - b : Nat) : Int) ≤ s.most) && ((kids.drop b).take (j - b)).all (hasInt s.kinds)
theorem stretchB_iff {kids : List Int} {s : Sl} {b j : Nat} : stretchB kids s b j = true ↔ Stretch kids s b j := by
  simp only [stretchB, Bool.and_eq_true, decide_eq_true_eq, List.all_eq_true]
  constructor
  · rintro ⟨⟨⟨⟨h1, h2⟩, h3⟩, h4⟩, h5⟩
    refine ⟨h1, h2, h3, h4, fun i x hi hj hx => h5 x ?_⟩
    rw [List.mem_iff_getElem?]
    exact ⟨i - b, by rw [List.getElem?_take, if_pos (by omega), List.getElem?_drop, show b + (i - b) = i by omega]; exact hx⟩
  · rintro ⟨h1, h2, h3, h4, h5⟩
    refine ⟨⟨⟨⟨h1, h2⟩, h3⟩, h4⟩, fun x hx => ?_⟩
    obtain ⟨i, hi⟩ := List.mem_iff_getElem?.1 hx
    rw [List.getElem?_take] at hi
    split at hi
    · rw [List.getElem?_drop] at hi
      exact h5 (b + i) x (by omega) (by omega) hi
    · cases hi

/-- Where a stretch may end, if it may begin where T is true. -/
def nextT (kids : List Int) (s : Sl) (T : Nat → Bool) : Nat → Bool := fun j => (List.range (j + 1)).any fun b => T b && stretchB kids s b j
theorem nextT_iff {kids : List Int} {s : Sl} {T : Nat → Bool} {j : Nat} : nextT kids s T j = true ↔ ∃ b, T b = true ∧ Stretch kids s b j := by
  simp only [nextT, List.any_eq_true, List.mem_range, Bool.and_eq_true, stretchB_iff]
  exact ⟨fun ⟨b, _, h⟩ => ⟨b, h⟩, fun ⟨b, h⟩ => ⟨b, by have := h.2.le; omega, h⟩⟩
/-- Which kids are of the slot's kinds. -/
def ownF (kids : List Int) (kinds : List Int) : Nat → Bool := fun i => match kids[i]? with
  | some x => hasInt kinds x
  | none => false
theorem ownF_some {kids kinds : List Int} {i : Nat} {x : Int} (h : kids[i]? = some x) : ownF kids kinds i = hasInt kinds x := by simp [ownF, h]
theorem ownF_none {kids kinds : List Int} {i : Nat} (h : kids.length ≤ i) : ownF kids kinds i = false := by simp [ownF, List.getElem?_eq_none h]
end Go.Proofs.Ytfdcopegkhofnaa
namespace Go.Proofs.Ytfdcopegkhofnaa

/-- f tells where stretches end that begin ahead of c. -/
def FP (kids : List Int) (s : Sl) (T : Nat → Bool) (c : Nat) (f : Nat → Bool) : Prop := ∀ j, f j = true ↔ ∃ b, b < c ∧ T b = true ∧ Stretch kids s b j
/-- .. and those that begin at c and are shorter than n. -/
def FI (kids : List Int) (s : Sl) (T : Nat → Bool) (c n : Nat) (f : Nat → Bool) : Prop := ∀ j, f j = true ↔ (∃ b, b < c ∧ T b = true ∧ Stretch kids s b j) ∨ ∃ m : Nat, m < n ∧ s.least ≤ (m : Int) ∧ j = c + m
theorem FP.start (kids : List Int) (s : Sl) (T : Nat → Bool) : FP kids s T 0 noF := fun j => ⟨fun h => by simp [noF] at h, fun ⟨b, h, _⟩ => by omega⟩
theorem FP.skip {kids : List Int} {s : Sl} {T : Nat → Bool} {c : Nat} {f : Nat → Bool} (h : FP kids s T c f) (hT : T c = false) : FP kids s T (c + 1) f := fun j => by
  rw [h j]
  constructor
  · rintro ⟨b, h1, h2⟩; exact ⟨b, by omega, h2⟩
  · rintro ⟨b, h1, h2, h3⟩
    refine ⟨b, ?_, h2, h3⟩
    by_cases e : b = c
    · subst e; rw [hT] at h2; cases h2
    · omega
theorem FP.all {kids : List Int} {s : Sl} {T : Nat → Bool} {f : Nat → Bool} (h : FP kids s T (kids.length + 1) f) : f = nextT kids s T := by
  funext j
  rw [Bool.eq_iff_iff, h j, nextT_iff]
  constructor
  · rintro ⟨b, _, h⟩; exact ⟨b, h⟩
  · rintro ⟨b, h1, h2⟩; exact ⟨b, by have := h2.le; have := h2.ends; omega, h1, h2⟩
theorem FI.start {kids : List Int} {s : Sl} {T : Nat → Bool} {c : Nat} {f : Nat → Bool} (h : FP kids s T c f) : FI kids s T c 0 f := fun j => by
  rw [h j]
  exact ⟨Or.inl, fun h => h.elim id fun ⟨m, h, _⟩ => by omega⟩
theorem FI.skip {kids : List Int} {s : Sl} {T : Nat → Bool} {c n : Nat} {f : Nat → Bool} (h : FI kids s T c n f) (hn : (n : Int) < s.least) : FI kids s T c (n + 1) f := fun j => by
  rw [h j]
  constructor
  · rintro (h | ⟨m, h1, h2⟩)
    · exact Or.inl h
    · exact Or.inr ⟨m, by omega, h2⟩
  · rintro (h | ⟨m, h1, h2, h3⟩)
    · exact Or.inl h
    · exact Or.inr ⟨m, by omega, h2, h3⟩
theorem FI.put {kids : List Int} {s : Sl} {T : Nat → Bool} {c n : Nat} {f : Nat → Bool} (h : FI kids s T c n f) (hn : s.least ≤ (n : Int)) : FI kids s T c (n + 1) (fun j => if j = c + n then true else f j) := fun j => by
  show (if j = c + n then true else f j) = true ↔ _
  by_cases e : j = c + n
  · rw [if_pos e]
    exact ⟨fun _ => Or.inr ⟨n, by omega, hn, e⟩, fun _ => rfl⟩
  · rw [if_neg e, h j]
    constructor
    · rintro (h | ⟨m, h1, h2⟩)
      · exact Or.inl h
      · exact Or.inr ⟨m, by omega, h2⟩
    · rintro (h | ⟨m, h1, h2, h3⟩)
      · exact Or.inl h
      · exact Or.inr ⟨m, by omega, h2, h3⟩
theorem own_lt {kids : List Int} {kinds : List Int} {i : Nat} (h : ownF kids kinds i = true) : i < kids.length ∧ ∀ x, kids[i]? = some x → hasInt kinds x = true := by
  by_cases hi : i < kids.length
  · refine ⟨hi, fun x hx => ?_⟩
    rw [ownF_some hx] at h; exact h
  · rw [ownF_none (by omega)] at h; cases h
/-- All lengths of one beginning are through. -/
theorem FI.done {kids : List Int} {s : Sl} {T : Nat → Bool} {c N : Nat} {f : Nat → Bool} (h : FI kids s T c N f) (hc : c ≤ kids.length) (hT : T c = true) (ho : ∀ i, c ≤ i → i + 1 < c + N → ownF kids s.kinds i = true)
    (hN : (N : Int) ≤ s.most + 1) (hend : (N : Int) = s.most + 1 ∨ 1 ≤ N ∧ ownF kids s.kinds (c + N - 1) = false) : FP kids s T (c + 1) f := fun j => by
  rw [h j]
  constructor
  · rintro (⟨b, h1, h2⟩ | ⟨m, h1, h2, h3⟩)
    · exact ⟨b, by omega, h2⟩
    · refine ⟨c, by omega, hT, by omega, ?_, ?_, ?_, fun i x hi hj hx => (own_lt (ho i hi (by omega))).2 x hx⟩
      · by_cases e : m = 0
        · omega
        · have := (own_lt (ho (c + m - 1) (by omega) (by omega))).1; omega
      · rw [show j - c = m by omega]; exact h2
      · rw [show j - c = m by omega]; omega
  · rintro ⟨b, h1, h2, h3⟩
    by_cases e : b = c
    · subst e
      refine Or.inr ⟨j - b, ?_, h3.least, by have := h3.le; omega⟩
      rcases hend with hend | ⟨h1N, hend⟩
      · have := h3.most; omega
      · by_cases hlt : j - b < N
        · exact hlt
        · exfalso
          have hj := h3.ends
          have hle := h3.le
          have hi : b + N - 1 < kids.length := by omega
          have hx := List.getElem?_eq_getElem hi
          have := h3.all (b + N - 1) _ (by omega) (by omega) hx
          rw [ownF_some hx, this] at hend
          cases hend
    · exact Or.inl ⟨b, by omega, h2, h3⟩
end Go.Proofs.Ytfdcopegkhofnaa
