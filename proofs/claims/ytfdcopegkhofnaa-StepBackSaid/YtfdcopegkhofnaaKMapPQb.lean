/-
  A map from ids to nodes, plainly: what it holds, how many. No condition.
-/
import Derived.Test.YtfdcopegkhofnaaVFaultQb
import Derived.Test.YtfdcopegkhofnaaVWalkQb
import Derived.Test.YtfdcopegkhofnaaVGreatQb
namespace Go.Proofs.Ytfdcopegkhofnaa
open Go.RowKit Go.Shelf
open Go.Maps
set_option linter.unusedVariables false
set_option linter.unusedSimpArgs false

/-- An element that reads as itself. -/
def heldE : Value → Option (DataW Value × List MemPlace) := fun v => some (.held v, [])
def mapN (L : List (Int × Value)) : DataW Value := L.foldl (fun D p => D.put (.int .i64 p.1) (.held p.2)) (.map [])
theorem mapN_snoc (L : List (Int × Value)) (p : Int × Value) : mapN (L ++ [p]) = (mapN L).put (.int .i64 p.1) (.held p.2) := by simp [mapN, List.foldl_append]
theorem tidy_put (p : Int × Value) {D : DataW Value} (h : Tidy D) : Tidy (D.put (.int .i64 p.1) (.held p.2)) := h.put (show WideAt.IsKeyLit (Lit.int .i64 p.1) by trivial) _
theorem mapN_tidy (L : List (Int × Value)) : Tidy (mapN L) := by
  have key : ∀ (L : List (Int × Value)) (D : DataW Value), Tidy D → Tidy (L.foldl (fun D p => D.put (.int .i64 p.1) (.held p.2)) D) := by
    intro L
    induction L with
    | nil => intro D h; exact h
    | cons p L ih => intro D h; exact ih _ (tidy_put p h)
  exact key L _ tidy_empty
/-- The last value of an id in a row. -/
def lastV (i : Int) : List (Int × Value) → Option Value
  | [] => none
  | p :: r => match lastV i r with
    | some v => some v
    | none => if p.1 = i then some p.2 else none
theorem lastV_snoc (i : Int) : ∀ (L : List (Int × Value)) (p : Int × Value), lastV i (L ++ [p]) = if p.1 = i then some p.2 else lastV i L
  | [], p => by simp only [List.nil_append, lastV]
  | q :: L, p => by
    rw [List.cons_append, lastV, lastV_snoc i L p]
    by_cases h : p.1 = i
    · rw [if_pos h, if_pos h]
    · rw [if_neg h, if_neg h, lastV]
theorem lastV_none (i : Int) : ∀ (L : List (Int × Value)), lastV i L = none ↔ ∀ p ∈ L, p.1 ≠ i
  | [] => by simp [lastV]
  | q :: L => by
    have h := lastV_none i L
    rw [lastV]
    cases hl : lastV i L with
    | some v =>
      simp only
      constructor
      · intro h1; cases h1
      · intro h1
        have := h.2 fun p hp => h1 p (List.mem_cons_of_mem _ hp)
        rw [hl] at this; cases this
    | none =>
      have h2 := h.1 hl
      by_cases hq : q.1 = i
      · simp only [if_pos hq]
        constructor
        · intro h1; cases h1
        · intro h1; exact absurd hq (h1 q (List.mem_cons_self ..))
      · simp only [if_neg hq]
        constructor
        · intro _ p hp
          rcases List.mem_cons.1 hp with rfl | hp
          · exact hq
          · exact h2 p hp
        · intro _; trivial
theorem lastV_mem (i : Int) : ∀ (L : List (Int × Value)) (v : Value), lastV i L = some v → (i, v) ∈ L
  | [], v, h => by cases h
  | q :: L, v, h => by
    rw [lastV] at h
    cases hl : lastV i L with
    | some u =>
      rw [hl] at h
      cases h
      exact List.mem_cons_of_mem _ (lastV_mem i L _ hl)
    | none =>
      rw [hl] at h
      simp only at h
      by_cases hq : q.1 = i
      · rw [if_pos hq] at h
        cases h
        subst hq
        exact List.mem_cons_self ..
      · rw [if_neg hq] at h; cases h
theorem key_ne {a b : Int} (h : a ≠ b) : (Lit.int .i64 a) ≠ (Lit.int .i64 b) := fun e => by cases e; exact h rfl
theorem mapN_has (i : Int) (L : List (Int × Value)) : Maps.has (mapN L) (.int .i64 i) = (lastV i L).isSome := by
  have key : ∀ (n : Nat) (L : List (Int × Value)), L.length = n → Maps.has (mapN L) (.int .i64 i) = (lastV i L).isSome := by
    intro n
    induction n with
    | zero =>
      intro L h
      rw [List.length_eq_zero_iff.1 h]
      rfl
    | succ n ih =>
      intro L h
      have hne : L ≠ [] := fun e => by rw [e] at h; cases h
      obtain ⟨L', p, rfl⟩ : ∃ L' p, L = L' ++ [p] := ⟨L.dropLast, L.getLast hne, (List.dropLast_concat_getLast hne).symm⟩
      rw [mapN_snoc, lastV_snoc]
      by_cases hp : p.1 = i
      · rw [if_pos hp, hp, has_put_same (mapN_tidy L').isMap (show WideAt.IsKeyLit (Lit.int .i64 i) by trivial)]; rfl
      · rw [if_neg hp, has_put_other (key_ne (fun e => hp e.symm)), ih L' (by simp at h; exact h)]
  exact key _ L rfl
theorem mapN_size (L : List (Int × Value)) : Maps.size (mapN L) ≤ L.length ∧ (Maps.size (mapN L) = L.length ↔ (L.map Prod.fst).Nodup) := by
  have key : ∀ (n : Nat) (L : List (Int × Value)), L.length = n → Maps.size (mapN L) ≤ L.length ∧ (Maps.size (mapN L) = L.length ↔ (L.map Prod.fst).Nodup) := by
    intro n
    induction n with
    | zero =>
      intro L h
      rw [List.length_eq_zero_iff.1 h]
      exact ⟨Nat.le_refl _, by simp [mapN, Maps.size]⟩
    | succ n ih =>
      intro L h
      have hne : L ≠ [] := fun e => by rw [e] at h; cases h
      obtain ⟨L', p, rfl⟩ : ∃ L' p, L = L' ++ [p] := ⟨L.dropLast, L.getLast hne, (List.dropLast_concat_getLast hne).symm⟩
      obtain ⟨h1, h2⟩ := ih L' (by simp at h; exact h)
      rw [mapN_snoc, size_put (mapN_tidy L'), mapN_has, List.map_append, List.nodup_append]
      have hl := lastV_none p.1 L'
      have hk : (lastV p.1 L').isSome = true ↔ p.1 ∈ L'.map Prod.fst := by
        rw [List.mem_map]
        constructor
        · intro h3
          obtain ⟨v, hv⟩ := Option.isSome_iff_exists.1 h3
          exact ⟨_, lastV_mem _ _ _ hv, rfl⟩
        · rintro ⟨q, hq, e⟩
          cases hv : lastV p.1 L' with
          | some v => rfl
          | none => exact absurd e (hl.1 hv q hq)
      simp only [List.length_append, List.length_cons, List.length_nil, List.map_cons, List.map_nil]
      by_cases hs : (lastV p.1 L').isSome = true
      · rw [if_pos hs]
        refine ⟨by omega, ⟨fun h3 => by omega, ?_⟩⟩
        rintro ⟨_, _, h5⟩
        exact absurd rfl (h5 _ (hk.1 hs) _ (List.mem_singleton.2 rfl))
      · rw [if_neg hs]
        refine ⟨by omega, ⟨fun h3 => ⟨h2.1 (by omega), by simp, fun a ha b hb => ?_⟩, ?_⟩⟩
        · rw [List.mem_singleton] at hb
          subst hb
          intro e
          subst e
          exact hs (hk.2 ha)
        · rintro ⟨h5, _, _⟩
          have := h2.2 h5
          omega
  exact key _ L rfl
/-- A map from ids to nodes. -/
def OwnsN (w : World) (b n : Nat) (L : List (Int × Value)) : Prop := w.ownsMap Try.prog 3 heldE b n (mapN L)
theorem OwnsN.at {w w' : World} {b n : Nat} {L : List (Int × Value)} (h : OwnsN w b n L) (e : w'.heap[b]? = w.heap[b]?) : OwnsN w' b n L := by
  obtain ⟨es, clock, hb, h⟩ := h
  exact ⟨es, clock, e.trans hb, h⟩
/-- The values of the nodes of a walk. -/
def ValsOf (w : World) (S : Nat → Prop) (T : List Sp) (L : List (Int × Value)) : Prop := L.length = T.length ∧ ∀ (k : Nat) (x : Sp) (p : Int × Value), T[k]? = some x → L[k]? = some p → p.1 = x.2.1.1 ∧ TrAt w S p.2 (trOf x)
theorem ValsOf.kept {w w' : World} {S S' : Nat → Prop} {T : List Sp} {L : List (Int × Value)} (h : ValsOf w S T L) (hS : ∀ y, S y → S' y ∧ w'.heap[y]? = w.heap[y]?) : ValsOf w' S' T L :=
  ⟨h.1, fun k x p hx hp => ⟨(h.2 k x p hx hp).1, (h.2 k x p hx hp).2.kept hS⟩⟩
theorem ValsOf.snoc {w : World} {S : Nat → Prop} {T : List Sp} {L : List (Int × Value)} {x : Sp} {p : Int × Value} (h : ValsOf w S T L) (h1 : p.1 = x.2.1.1) (h2 : TrAt w S p.2 (trOf x)) : ValsOf w S (T ++ [x]) (L ++ [p]) := by
  refine ⟨by rw [List.length_append, List.length_append, h.1]; rfl, fun k y q hy hq => ?_⟩
  by_cases hk : k < T.length
  · rw [List.getElem?_append_left hk] at hy
    rw [List.getElem?_append_left (by rw [h.1]; exact hk)] at hq
    exact h.2 k y q hy hq
  · rw [List.getElem?_append_right (by omega)] at hy
    rw [List.getElem?_append_right (by rw [h.1]; omega), h.1] at hq
    cases hj : k - T.length with
    | zero => rw [hj] at hy hq; simp at hy hq; subst hy; subst hq; exact ⟨h1, h2⟩
    | succ j => rw [hj] at hy; simp at hy
theorem ValsOf.ids {w : World} {S : Nat → Prop} {T : List Sp} {L : List (Int × Value)} (h : ValsOf w S T L) : L.map Prod.fst = T.map fun x => x.2.1.1 := by
  apply List.ext_getElem?
  intro k
  rw [List.getElem?_map, List.getElem?_map]
  rcases Nat.lt_or_ge k T.length with hk | hk
  · have hk2 : k < L.length := by rw [h.1]; exact hk
    rw [List.getElem?_eq_getElem hk, List.getElem?_eq_getElem hk2]
    have := (h.2 k _ _ (List.getElem?_eq_getElem hk) (List.getElem?_eq_getElem hk2)).1
    simp [this]
  · rw [List.getElem?_eq_none hk, List.getElem?_eq_none (by rw [h.1]; exact hk)]; rfl
end Go.Proofs.Ytfdcopegkhofnaa
