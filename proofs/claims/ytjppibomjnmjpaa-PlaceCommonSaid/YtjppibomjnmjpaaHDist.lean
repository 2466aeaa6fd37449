/-
  Trees whose ids are all different, plainly: what stands at the path of an id, and what is above what. No condition.
-/
import Derived.Test.YtjppibomjnmjpaaHWithin
import Derived.Test.YtjppibomjnmjpaaEFind
import Derived.Test.YtjppibomjnmjpaaHAbove
namespace Go.Proofs.Ytjppibomjnmjpaa
open Go.RowKit Go.Shelf
set_option linter.unusedVariables false
set_option linter.unusedSimpArgs false

def idsF (f : Fo) : List Int := (spF 1 f).map fun x => x.2.1.1
theorem idsF_d : ∀ (d : Nat) (f : Fo), (spF d f).map (fun x => x.2.1.1) = idsF f
  | _, .nil => rfl
  | d, .node _ _ k l r => by
    simp only [idsF, spF, List.map_cons, List.map_append]
    rw [idsF_d (d + 1) l, idsF_d d r, idsF_d (1 + 1) l]
    rfl
theorem idsF_node (b o : Nat) (k : Int × Int × ByteArray) (l r : Fo) : idsF (.node b o k l r) = k.1 :: (idsF l ++ idsF r) := by
  simp only [idsF, spF, List.map_cons, List.map_append]
  rw [idsF_d (1 + 1) l]
  rfl
def DistT (t : Tr) : Prop := (idsF (rootF t)).Nodup
theorem distT_kids {t : Tr} (h : DistT t) : t.id ∉ idsF t.kids ∧ (idsF t.kids).Nodup := by
  rw [DistT, rootF, idsF_node] at h
  have e : idsF Deep.BT.nil = [] := rfl
  rw [e, List.append_nil] at h
  exact ⟨(List.nodup_cons.1 h).1, (List.nodup_cons.1 h).2⟩
theorem fpi_none_mem : ∀ (id : Int) (f : Fo) (j : Nat), id ∉ idsF f → fpi id j f = none
  | _, .nil, _, _ => rfl
  | id, .node b o k l r, j, h => by
    rw [idsF_node] at h
    simp only [List.mem_cons, List.mem_append, not_or] at h
    rw [fpi, if_neg (fun e => h.1 e.symm), fpi_none_mem id l 0 h.2.1]
    exact fpi_none_mem id r (j + 1) h.2.2
/-- What stands at a path of a row's node bears an id of the row. -/
theorem at_mem : ∀ (f : Fo) (k : Nat) (r : List Nat) (u v : Tr), kidF f k = some u → atT u r = some v → v.id ∈ idsF f
  | .nil, k, r, u, v, h, _ => by rw [kidF_ge (by simp [foLen])] at h; cases h
  | .node b o key l q, 0, r, u, v, h, hv => by
    rw [idsF_node]
    have hu : u = ⟨key.1, key.2.1, key.2.2, l⟩ := by simp only [kidF, foDrop, headT] at h; cases h; rfl
    subst hu
    cases r with
    | nil => cases hv; simp
    | cons i r =>
      simp only [atT] at hv
      cases hk : kidF l i with
      | none => rw [hk] at hv; cases hv
      | some w =>
        rw [hk] at hv
        have := at_mem l i r w v hk hv
        simp [this]
  | .node b o key l q, k + 1, r, u, v, h, hv => by
    rw [idsF_node]
    have h2 : kidF q k = some u := by simpa [kidF, foDrop] using h
    have := at_mem q k r u v h2 hv
    simp [this]
theorem fpi_uniq : ∀ (f : Fo) (j k : Nat) (r : List Nat) (u v : Tr), (idsF f).Nodup → kidF f k = some u → atT u r = some v → fpi v.id j f = some ((j + k) :: r)
  | .nil, _, k, r, u, v, _, h, _ => by rw [kidF_ge (by simp [foLen])] at h; cases h
  | .node b o key l q, j, 0, r, u, v, hd, h, hv => by
    rw [idsF_node, List.nodup_cons, List.nodup_append] at hd
    have hu : u = ⟨key.1, key.2.1, key.2.2, l⟩ := by simp only [kidF, foDrop, headT] at h; cases h; rfl
    subst hu
    cases r with
    | nil => cases hv; simp [fpi]
    | cons i r =>
      simp only [atT] at hv
      cases hk : kidF l i with
      | none => rw [hk] at hv; cases hv
      | some w =>
        rw [hk] at hv
        simp only at hv
        have hm := at_mem l i r w v hk hv
        have h1 := fpi_uniq l 0 i r w v hd.2.1 hk hv
        rw [fpi, if_neg (fun e => hd.1 (by rw [e]; simp [hm])), h1]
        simp
  | .node b o key l q, j, k + 1, r, u, v, hd, h, hv => by
    rw [idsF_node, List.nodup_cons, List.nodup_append] at hd
    have h2 : kidF q k = some u := by simpa [kidF, foDrop] using h
    have hm := at_mem q k r u v h2 hv
    have h1 := fpi_uniq q (j + 1) k r u v hd.2.2.1 h2 hv
    have hnl : v.id ∉ idsF l := fun e => hd.2.2.2 _ e _ hm rfl
    rw [fpi, if_neg (fun e => hd.1 (by rw [e]; simp [hm])), fpi_none_mem _ l 0 hnl, h1]
    rw [show j + 1 + k = j + (k + 1) by omega]
/-- The path of an id is the path of the node that bears it. -/
theorem pathT_uniq {t v : Tr} {r : List Nat} (hd : DistT t) (hv : atT t r = some v) : pathT v.id t = some r := by
  obtain ⟨h1, h2⟩ := distT_kids hd
  cases r with
  | nil => cases hv; simp [pathT]
  | cons i r =>
    simp only [atT] at hv
    cases hk : kidF t.kids i with
    | none => rw [hk] at hv; cases hv
    | some u =>
      rw [hk] at hv
      simp only at hv
      have hm := at_mem t.kids i r u v hk hv
      rw [pathT, if_neg (fun e => h1 (by rw [e]; exact hm)), fpi_uniq t.kids 0 i r u v h2 hk hv, Nat.zero_add]
theorem fpi_at : ∀ (id : Int) (f : Fo) (j : Nat) (p : List Nat), fpi id j f = some p → ∃ k r, p = k :: r ∧ j ≤ k ∧ ∃ u, kidF f (k - j) = some u ∧ ∃ v, atT u r = some v ∧ v.id = id
  | _, .nil, _, _, h => by cases h
  | id, .node b o key l q, j, p, h => by
    rw [fpi] at h
    by_cases hi : key.1 = id
    · rw [if_pos hi] at h
      cases h
      exact ⟨j, [], rfl, Nat.le_refl _, ⟨key.1, key.2.1, key.2.2, l⟩, by rw [Nat.sub_self]; rfl, _, rfl, hi⟩
    · rw [if_neg hi] at h
      cases hl : fpi id 0 l with
      | some p' =>
        rw [hl] at h
        cases h
        obtain ⟨k, r, rfl, _, u, hu, v, hv, hvi⟩ := fpi_at id l 0 p' hl
        rw [Nat.sub_zero] at hu
        refine ⟨j, k :: r, rfl, Nat.le_refl _, ⟨key.1, key.2.1, key.2.2, l⟩, by rw [Nat.sub_self]; rfl, v, ?_, hvi⟩
        simp only [atT]
        rw [hu]
        exact hv
      | none =>
        rw [hl] at h
        obtain ⟨k, r, rfl, hk, u, hu, hv⟩ := fpi_at id q (j + 1) p h
        refine ⟨k, r, rfl, by omega, u, ?_, hv⟩
        rw [show k - j = (k - (j + 1)) + 1 by omega]
        simpa [kidF, foDrop] using hu
/-- Finding in the walk, and by the path. -/
theorem find_fpi (id : Int) : ∀ (f : Fo) (d j : Nat), (findS id (spF d f)).map trOfS = (fpi id j f).bind fun p => match p with
    | [] => none
    | k :: r => (kidF f (k - j)).bind fun u => atT u r
  | .nil, _, _ => rfl
  | .node b o key l q, d, j => by
    by_cases h : key.1 = id
    · rw [fpi, if_pos h]
      have : findS id (spF d (.node b o key l q)) = some (d, key, l) := findS_some (pre := []) (rest := spF (d + 1) l ++ spF d q) (fun _ h => by cases h) h
      rw [this]
      simp [kidF, foDrop, headT, atT, trOfS]
    · rw [fpi, if_neg h]
      have e : findS id (spF d (.node b o key l q)) = (findS id (spF (d + 1) l)).or (findS id (spF d q)) := by
        simp only [findS, spF, List.find?_cons, List.find?_append]
        have hb : (key.1 == id) = false := by simpa using h
        rw [hb]
      rw [e]
      have i1 := find_fpi id l (d + 1) 0
      have i2 := find_fpi id q d (j + 1)
      cases hl : fpi id 0 l with
      | none =>
        rw [hl] at i1
        have : findS id (spF (d + 1) l) = none := by
          cases hx : findS id (spF (d + 1) l) with
          | none => rfl
          | some x => rw [hx] at i1; simp at i1
        rw [this, Option.none_or, i2]
        cases hq : fpi id (j + 1) q with
        | none => rfl
        | some p =>
          cases p with
          | nil => rfl
          | cons k r =>
            obtain ⟨k', r', e', hk, _⟩ := fpi_at id q (j + 1) _ hq
            cases e'
            simp only [Option.bind_some]
            have : k - j = (k - (j + 1)) + 1 := by omega
            rw [this]
            simp [kidF, foDrop]
      | some p =>
        rw [hl] at i1
        have : (findS id (spF (d + 1) l)).isSome := by
          cases hx : findS id (spF (d + 1) l) with
          | some x => rfl
          | none =>
            exfalso
            rw [hx] at i1
            obtain ⟨k, r, rfl, _, u, hu1, v, hv, _⟩ := fpi_at id l 0 p hl
            simp only [Option.map_none, Option.bind_some, hu1, hv] at i1
            cases i1
        obtain ⟨x, hx⟩ := Option.isSome_iff_exists.1 this
        rw [hx] at i1 ⊢
        simp only [Option.some_or, i1, Option.bind_some]
        obtain ⟨k, r, rfl, _⟩ := fpi_at id l 0 p hl
        rw [Nat.sub_self]
        show (kidF l k).bind (fun u => atT u r) = (some (⟨key.1, key.2.1, key.2.2, l⟩ : Tr)).bind fun u => atT u (k :: r)
        simp only [Option.bind_some, atT]
        cases kidF l k <;> rfl
/-- The same from the root. -/
theorem find_path (id : Int) (t : Tr) : (findS id (spF 1 (rootF t))).map trOfS = (pathT id t).bind fun p => atT t p := by
  rw [find_fpi id (rootF t) 1 0]
  simp only [rootF, fpi, pathT]
  by_cases h : t.id = id
  · rw [if_pos h, if_pos h]; simp [kidF, foDrop, headT, atT]
  · rw [if_neg h, if_neg h]
    cases hl : fpi id 0 t.kids with
    | none => rfl
    | some p => simp [kidF, foDrop, headT]
theorem find_some (id : Int) (t : Tr) : (findS id (spF 1 (rootF t))).isSome = (pathT id t).isSome := by
  have h := find_path id t
  cases hp : pathT id t with
  | none => rw [hp] at h; simp at h; rw [h]; rfl
  | some p =>
    obtain ⟨v, hv⟩ : ∃ v, atT t p = some v := by
      rw [pathT] at hp
      split at hp
      · cases hp; exact ⟨t, rfl⟩
      · obtain ⟨k, r, rfl, _, u, hu, v, hv, _⟩ := fpi_at _ _ _ _ hp
        rw [Nat.sub_zero] at hu
        exact ⟨v, by simp only [atT]; rw [hu]; exact hv⟩
    rw [hp] at h
    simp only [Option.bind_some, hv] at h
    cases hf : findS id (spF 1 (rootF t)) with
    | none => rw [hf] at h; cases h
    | some x => rfl
theorem path_ids (id : Int) (t : Tr) (p : List Nat) (hp : pathT id t = some p) : ∃ v, atT t p = some v ∧ v.id = id := by
  rw [pathT] at hp
  split at hp
  · next h => cases hp; exact ⟨t, rfl, h⟩
  · obtain ⟨k, r, rfl, _, u, hu, v, hv, hi⟩ := fpi_at _ _ _ _ hp
    rw [Nat.sub_zero] at hu
    exact ⟨v, by simp only [atT]; rw [hu]; exact hv, hi⟩
theorem lcp_pre {α : Type} [DecidableEq α] : ∀ (l m : List α), lcp l m = l.length ↔ l <+: m
  | [], m => by simp [lcp]
  | a :: l, [] => by simp [lcp]
  | a :: l, b :: m => by
    simp only [lcp, List.length_cons]
    by_cases h : a = b
    · subst h
      rw [if_pos rfl, List.cons_prefix_cons]
      simp [lcp_pre l m]
    · rw [if_neg h]
      simp [List.cons_prefix_cons, h]
theorem pre_lcp {α : Type} [DecidableEq α] : ∀ (x l m : List α), (x <+: l ∧ x <+: m) ↔ x <+: l.take (lcp l m)
  | [], l, m => by simp
  | x :: xs, [], m => by simp [lcp]
  | x :: xs, a :: l, [] => by simp [lcp]
  | x :: xs, a :: l, b :: m => by
    simp only [lcp, List.cons_prefix_cons]
    by_cases h : a = b
    · subst h
      rw [if_pos rfl, List.take_succ_cons, List.cons_prefix_cons, ← pre_lcp xs l m]
      constructor
      · rintro ⟨⟨h1, h2⟩, _, h3⟩; exact ⟨h1, h2, h3⟩
      · rintro ⟨h1, h2, h3⟩; exact ⟨⟨h1, h2⟩, h1, h3⟩
    · rw [if_neg h]
      constructor
      · rintro ⟨⟨h1, _⟩, h2, _⟩; exact absurd (h1.symm.trans h2) h
      · intro h1; simp at h1
theorem at_take : ∀ (p : List Nat) (t u : Tr) (k : Nat), atT t p = some u → ∃ v, atT t (p.take k) = some v
  | _, t, u, 0, _ => ⟨t, by simp [atT]⟩
  | [], t, u, k + 1, _ => ⟨t, rfl⟩
  | i :: p, t, u, k + 1, h => by
    simp only [atT, List.take_succ_cons] at h ⊢
    cases hk : kidF t.kids i with
    | none => rw [hk] at h; cases h
    | some w => rw [hk] at h; exact at_take p w u k h
/-- Where the lowest common one is, stands its path. -/
theorem common_path {t : Tr} {a b : Int} {p q : List Nat} (hd : DistT t) (ha : pathT a t = some p) (hb : pathT b t = some q) : pathT (commonT a b t).1 t = some (p.take (lcp p q)) := by
  obtain ⟨v, hv, _⟩ := path_ids a t p ha
  obtain ⟨u, hu⟩ := at_take p t v (lcp p q) hv
  have : (commonT a b t).1 = u.id := by rw [commonT, ha, hb]; simp [idAt, hu]
  rw [this]
  exact pathT_uniq hd hu
theorem within_pre {t : Tr} {a b : Int} {p q : List Nat} (ha : pathT a t = some p) (hb : pathT b t = some q) : withinT a b t = decide (p <+: q) := by
  rw [withinT, ha, hb]
  simp only [decide_eq_decide]
  exact lcp_pre p q
theorem within_none {t : Tr} {a b : Int} (h : pathT a t = none ∨ pathT b t = none) : withinT a b t = false := by
  rw [withinT]
  rcases h with h | h
  · rw [h]
  · rw [h]; cases pathT a t <;> rfl
/-- What is within both is within the lowest common one. -/
theorem common_within {t : Tr} {a b x : Int} {p q : List Nat} (hd : DistT t) (ha : pathT a t = some p) (hb : pathT b t = some q) : withinT x (commonT a b t).1 t = (withinT x a t && withinT x b t) := by
  have hc := common_path hd ha hb
  cases hx : pathT x t with
  | none => rw [within_none (Or.inl hx), within_none (Or.inl hx)]; rfl
  | some r =>
    rw [within_pre hx hc, within_pre hx ha, within_pre hx hb, ← Bool.decide_and, decide_eq_decide]
    exact (pre_lcp r p q).symm
theorem common_comm (a b : Int) (t : Tr) : commonT a b t = commonT b a t := by
  rw [commonT, commonT]
  cases ha : pathT a t with
  | none => cases pathT b t <;> rfl
  | some p =>
    cases hb : pathT b t with
    | none => rfl
    | some q => simp only; rw [lcp_take p q, lcp_comm p q]
theorem common_none {t : Tr} {a b : Int} (h : (commonT a b t).2 = false) : (commonT a b t).1 = 0 ∧ ∀ x, (withinT x a t && withinT x b t) = false := by
  rw [commonT] at h ⊢
  cases ha : pathT a t with
  | none => exact ⟨rfl, fun x => by rw [within_none (Or.inr ha)]; rfl⟩
  | some p =>
    cases hb : pathT b t with
    | none => exact ⟨rfl, fun x => by rw [within_none (a := x) (Or.inr hb)]; simp⟩
    | some q => rw [ha, hb] at h; cases h
/-- A node is within another just if it is that, or that is above it. -/
theorem within_above {t : Tr} {a b : Int} (hd : DistT t) {p : List Nat} (ha : pathT a t = some p) : withinT a b t = ((pathT b t).isSome && (decide (a = b) || decide (a ∈ aboveT b t))) := by
  cases hb : pathT b t with
  | none => rw [within_none (Or.inr hb)]; rfl
  | some q =>
    rw [within_pre ha hb]
    simp only [Option.isSome_some, Bool.true_and, ← Bool.decide_or, decide_eq_decide]
    obtain ⟨v, hv, hva⟩ := path_ids a t p ha
    obtain ⟨u, hu, hub⟩ := path_ids b t q hb
    rw [aboveT, hb]
    simp only [List.mem_reverse]
    have hmem : a ∈ (wayIds t q).take q.length ↔ ∃ k, k < q.length ∧ idAt t (q.take k) = a := by
      rw [wayIds, ← List.map_take, List.take_range, List.mem_map]
      constructor
      · rintro ⟨k, hk, e⟩; exact ⟨k, by have := List.mem_range.1 hk; omega, e⟩
      · rintro ⟨k, hk, e⟩; exact ⟨k, List.mem_range.2 (by omega), e⟩
    rw [hmem]
    constructor
    · intro hpre
      have hpt := List.prefix_iff_eq_take.1 hpre
      have hlen := hpre.length_le
      by_cases he : p.length = q.length
      · left
        rw [he, List.take_length] at hpt
        subst hpt
        rw [hv] at hu; cases hu
        rw [← hva, ← hub]
      · right
        refine ⟨p.length, by omega, ?_⟩
        rw [← hpt, idAt, hv]
        exact hva
    · rintro (he | ⟨k, hk, he⟩)
      · subst he
        rw [ha] at hb; cases hb
        exact List.prefix_refl _
      · obtain ⟨w, hw⟩ := at_take q t u k hu
        rw [idAt, hw] at he
        have h1 := pathT_uniq hd hw
        have he2 : w.id = a := he
        rw [he2, ha] at h1
        cases h1
        exact List.take_prefix _ _
end Go.Proofs.Ytjppibomjnmjpaa
