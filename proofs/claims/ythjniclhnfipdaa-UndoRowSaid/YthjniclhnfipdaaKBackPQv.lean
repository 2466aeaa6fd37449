/-
  A node that was moved, and is moved back, leaves the tree as it was, plainly: how often an id stands in a tree. No condition.
-/
import Derived.Test.YthjniclhnfipdaaKMoveQv
import Derived.Test.YthjniclhnfipdaaHDistQv
namespace Go.Proofs.Ythjniclhnfipdaa
open Go.RowKit Go.Shelf
set_option linter.unusedVariables false
set_option linter.unusedSimpArgs false

/-- How often an id stands there. -/
def cntF (a : Int) : Fo → Nat
  | .nil => 0
  | .node _ _ k l r => (if k.1 = a then 1 else 0) + cntF a l + cntF a r
def cntT (a : Int) (t : Tr) : Nat := (if t.id = a then 1 else 0) + cntF a t.kids
theorem cnt_mem (a : Int) : ∀ f : Fo, a ∈ idsF f ↔ 0 < cntF a f
  | .nil => by simp [idsF, spF, cntF]
  | .node b o k l r => by
    rw [idsF_node, List.mem_cons, List.mem_append, cnt_mem a l, cnt_mem a r, cntF]
    by_cases h : k.1 = a
    · rw [if_pos h]; constructor
      · intro _; omega
      · intro _; exact Or.inl h.symm
    · rw [if_neg h]; constructor
      · rintro (h1 | h1 | h1)
        · exact absurd h1.symm h
        · omega
        · omega
      · intro h1; right; omega
theorem cnt_nodup : ∀ f : Fo, (idsF f).Nodup ↔ ∀ a, cntF a f ≤ 1
  | .nil => by simp [idsF, spF, cntF]
  | .node b o k l r => by
    rw [idsF_node, List.nodup_cons, List.nodup_append, List.mem_append, cnt_mem, cnt_mem, cnt_nodup l, cnt_nodup r]
    constructor
    · rintro ⟨h1, h2, h3, h4⟩ a
      rw [cntF]
      have h2a := h2 a
      have h3a := h3 a
      by_cases h : k.1 = a
      · subst h; rw [if_pos rfl]; omega
      · rw [if_neg h]
        by_cases hl : 0 < cntF a l
        · by_cases hr : 0 < cntF a r
          · exact absurd rfl (h4 a ((cnt_mem a l).2 hl) a ((cnt_mem a r).2 hr))
          · omega
        · omega
    · intro h
      refine ⟨?_, fun a => ?_, fun a => ?_, ?_⟩
      · have := h k.1
        rw [cntF, if_pos rfl] at this
        omega
      · have := h a; rw [cntF] at this; omega
      · have := h a; rw [cntF] at this; omega
      · rintro a ha b hb rfl
        have := h a
        rw [cntF] at this
        have h1 := (cnt_mem a l).1 ha
        have h2 := (cnt_mem a r).1 hb
        omega
theorem cnt_root (a : Int) (t : Tr) : cntF a (rootF t) = cntT a t := by simp [rootF, cntF, cntT]
theorem dist_cnt (t : Tr) : DistT t ↔ ∀ a, cntT a t ≤ 1 := by
  rw [DistT, cnt_nodup]
  exact ⟨fun h a => by rw [← cnt_root]; exact h a, fun h a => by rw [cnt_root]; exact h a⟩
theorem cnt_ins (a : Int) : ∀ (f : Fo) (i : Nat) (u : Tr), i ≤ foLen f → cntF a (insF f i u) = cntF a f + cntT a u
  | f, 0, u, _ => by rw [insF_zero, cntF, cntT]; simp only; omega
  | .nil, i + 1, u, h => by simp [foLen] at h
  | .node b o k l r, i + 1, u, h => by
    have := cnt_ins a r i u (by simp [foLen] at h; omega)
    simp only [insF, cntF, this]; omega
theorem cnt_del (a : Int) : ∀ (f : Fo) (i : Nat) (u : Tr), kidF f i = some u → cntF a (delF f i) + cntT a u = cntF a f
  | .nil, i, u, h => by cases i <;> simp [kidF, foDrop, headT] at h
  | .node b o k l r, 0, u, h => by
    simp only [kidF, foDrop, headT] at h
    cases h
    simp only [delF, cntF, cntT]; omega
  | .node b o k l r, i + 1, u, h => by
    have := cnt_del a r i u (by simpa [kidF, foDrop] using h)
    simp only [delF, cntF]; omega
theorem cnt_set (a : Int) : ∀ (f : Fo) (i : Nat) (u v : Tr), kidF f i = some u → cntF a (setF f i v) + cntT a u = cntF a f + cntT a v
  | .nil, i, _, _, h => by cases i <;> simp [kidF, foDrop, headT] at h
  | .node _ _ k l r, 0, u, v, h => by
    simp only [kidF, foDrop, headT] at h
    cases h
    simp only [setF, cntF, cntT]; omega
  | .node _ _ k l r, i + 1, u, v, h => by
    have := cnt_set a r i u v (by simpa [kidF, foDrop] using h)
    simp only [setF, cntF]; omega
theorem cnt_put (a : Int) : ∀ (p : List Nat) (t u x : Tr), atT t p = some u → cntT a (putP t p x) + cntT a u = cntT a t + cntT a x
  | [], t, u, x, h => by cases h; simp only [putP]; omega
  | i :: p, t, u, x, h => by
    simp only [atT] at h
    simp only [putP]
    cases hk : kidF t.kids i with
    | none => rw [hk] at h; cases h
    | some v =>
      rw [hk] at h
      have h1 := cnt_put a p v u x h
      have h2 := cnt_set a t.kids i v (putP v p x) hk
      simp only [cntT] at h1 h2 ⊢
      omega
theorem cnt_kid (a : Int) {f : Fo} {i : Nat} {u : Tr} (h : kidF f i = some u) : cntT a u ≤ cntF a f := by
  have := cnt_del a f i u h; omega
theorem cnt_at (a : Int) : ∀ (p : List Nat) (t u : Tr), atT t p = some u → cntT a u ≤ cntT a t
  | [], t, u, h => by cases h; omega
  | i :: p, t, u, h => by
    simp only [atT] at h
    cases hk : kidF t.kids i with
    | none => rw [hk] at h; cases h
    | some v =>
      rw [hk] at h
      have h1 := cnt_at a p v u h
      have h2 := cnt_kid a hk
      simp only [cntT] at h1 h2 ⊢
      omega
theorem fpi_cnt (a : Int) : ∀ (f : Fo) (i : Nat), fpi a i f = none ↔ cntF a f = 0
  | .nil, i => by simp [fpi, cntF]
  | .node b o k l r, i => by
    rw [fpi, cntF]
    by_cases h : k.1 = a
    · rw [if_pos h, if_pos h]; simp
    · rw [if_neg h, if_neg h]
      cases hl : fpi a 0 l with
      | some p =>
        have := mt (fpi_cnt a l 0).2 (by rw [hl]; simp)
        simp only; constructor
        · intro h; cases h
        · intro h; omega
      | none =>
        have h1 := (fpi_cnt a l 0).1 hl
        simp only
        rw [fpi_cnt a r (i + 1)]; omega
theorem path_cnt (a : Int) (t : Tr) : pathT a t = none ↔ cntT a t = 0 := by
  rw [pathT, cntT]
  by_cases h : t.id = a
  · rw [if_pos h, if_pos h]; simp
  · rw [if_neg h, if_neg h, fpi_cnt]; omega
theorem path_some {a : Int} {t : Tr} (h : 0 < cntT a t) : ∃ p, pathT a t = some p := by
  cases hp : pathT a t with
  | none => have := (path_cnt a t).1 hp; omega
  | some p => exact ⟨p, rfl⟩
theorem cnt_self (t : Tr) : 0 < cntT t.id t := by rw [cntT, if_pos rfl]; omega
/-- What is put at a path stands there. -/
theorem put_at : ∀ (p : List Nat) (t u x : Tr), atT t p = some u → atT (putP t p x) p = some x
  | [], t, u, x, h => rfl
  | i :: p, t, u, x, h => by
    simp only [atT] at h
    simp only [putP]
    cases hk : kidF t.kids i with
    | none => rw [hk] at h; cases h
    | some v =>
      rw [hk] at h
      simp only [atT, kidF_set _ i _ (kidF_some hk)]
      exact put_at p v u x h
theorem put_put : ∀ (p : List Nat) (t u x y : Tr), atT t p = some u → putP (putP t p x) p y = putP t p y
  | [], t, u, x, y, h => rfl
  | i :: p, t, u, x, y, h => by
    simp only [atT] at h
    cases hk : kidF t.kids i with
    | none => rw [hk] at h; cases h
    | some v =>
      rw [hk] at h
      simp only [putP, hk, kidF_set _ i _ (kidF_some hk), setF_set]
      rw [put_put p v u x y h]
theorem set_own : ∀ (f : Fo) (i : Nat) (u : Tr), kidF f i = some u → setF f i u = f
  | .nil, i, _, h => by cases i <;> simp [kidF, foDrop, headT] at h
  | .node _ _ k l r, 0, u, h => by
    simp only [kidF, foDrop, headT] at h
    cases h; rfl
  | .node _ _ k l r, i + 1, u, h => by
    simp only [setF]; rw [set_own r i u (by simpa [kidF, foDrop] using h)]
theorem put_own : ∀ (p : List Nat) (t u : Tr), atT t p = some u → putP t p u = t
  | [], t, u, h => by cases h; rfl
  | i :: p, t, u, h => by
    simp only [atT] at h
    cases hk : kidF t.kids i with
    | none => rw [hk] at h; cases h
    | some v =>
      rw [hk] at h
      simp only [putP, hk]
      rw [put_own p v u h, set_own _ _ _ hk]
theorem at_snoc {p : List Nat} {t u v : Tr} {i : Nat} (h : atT t p = some u) (hv : kidF u.kids i = some v) : atT t (p ++ [i]) = some v := by
  rw [atT_append, h]
  simp only [Option.bind_some, atT, hv]
theorem sameK_comm (a b : Int × Int × ByteArray) : sameK a b = sameK b a := by
  unfold sameK
  rw [decide_eq_decide]
  constructor <;> (rintro ⟨h1, h2, h3⟩; exact ⟨h1.symm, h2.symm, h3.symm⟩)
theorem sameF_comm : ∀ f g : Fo, sameF f g = sameF g f := by
  intro f
  induction f with
  | nil => intro g; cases g <;> rfl
  | node b o a l r ihl ihr =>
    intro g
    cases g with
    | nil => rfl
    | node b' o' a' l' r' =>
      simp only [sameF]
      rw [sameK_comm, ihl, ihr]
      congr 2
      rw [show decide (foLen l = foLen l') = decide (foLen l' = foLen l) from by rw [decide_eq_decide]; exact eq_comm]
theorem lcp_prefix : ∀ (p q : List Nat), lcp p q = p.length → ∃ r, q = p ++ r
  | [], q, _ => ⟨q, rfl⟩
  | i :: p, [], h => by rw [lcp_nil'] at h; simp at h
  | i :: p, j :: q, h => by
    by_cases hij : i = j
    · subst hij
      obtain ⟨r, e⟩ := lcp_prefix p q (by simp [lcp] at h; exact h)
      exact ⟨r, by rw [e]; rfl⟩
    · simp [lcp, hij] at h
/-- A move that goes, taken apart. -/
theorem moveK_ok {id par at_ : Int} {t x : Tr} (h : moveK id par at_ t = (x, 0)) :
    ∃ p i u v q z, pathT id t = some (p ++ [i]) ∧ atT t p = some u ∧ kidF u.kids i = some v ∧ v.id = id ∧ pathT par (putP t p ⟨u.id, u.kind, u.text, delF u.kids i⟩) = some q ∧ atT (putP t p ⟨u.id, u.kind, u.text, delF u.kids i⟩) q = some z ∧ 0 ≤ at_ ∧ at_ ≤ (foLen z.kids : Int) ∧ x = putP (putP t p ⟨u.id, u.kind, u.text, delF u.kids i⟩) q ⟨z.id, z.kind, z.text, insF z.kids at_.toNat v⟩ := by
  cases hi : pathT id t with
  | none => rw [moveK_id hi] at h; cases h
  | some p0 =>
    cases hp : pathT par t with
    | none => rw [moveK_par hp] at h; cases h
    | some q0 =>
      by_cases h0 : p0 = []
      · subst h0; rw [moveK_root hi hp] at h; cases h
      · cases hw : withinT id par t with
        | true => rw [moveK_loop hi hp h0 hw] at h; cases h
        | false =>
          obtain ⟨p, i, rfl⟩ : ∃ p i, p0 = p ++ [i] := ⟨p0.dropLast, p0.getLast h0, (List.dropLast_concat_getLast h0).symm⟩
          obtain ⟨v, hv0, hvid⟩ := pathT_at id t _ hi
          obtain ⟨u, hu, hv⟩ := atT_last p i t v hv0
          rw [moveK_go hi hp hw hu hv] at h
          cases hq : pathT par (putP t p ⟨u.id, u.kind, u.text, delF u.kids i⟩) with
          | none => rw [putK_none hq] at h; cases h
          | some q =>
            obtain ⟨z, hz, _⟩ := pathT_at _ _ _ hq
            rw [putK_some hq hz] at h
            by_cases hc : 0 ≤ at_ ∧ at_ ≤ (foLen z.kids : Int)
            · rw [if_pos hc] at h
              exact ⟨p, i, u, v, q, z, rfl, hu, hv, hvid, hq, hz, hc.1, hc.2, (Prod.mk.inj h).1.symm⟩
            · rw [if_neg hc] at h
              exact absurd (Prod.mk.inj h).2 (by decide)
/-- There and back. -/
theorem moveK_back {id par at_ : Int} {t x : Tr} (hd : DistT t) (h : moveK id par at_ t = (x, 0)) :
    ∃ p i u, pathT id t = some (p ++ [i]) ∧ atT t p = some u ∧ (moveK id u.id (i : Int) x).2 = 0 ∧ sameT (moveK id u.id (i : Int) x).1 t = true := by
  obtain ⟨p, i, u, v, q, z, hi, hu, hv, hvid, hq, hz, ha, hb, hx⟩ := moveK_ok h
  obtain ⟨n, hn⟩ : ∃ n : Nat, n = at_.toNat := ⟨_, rfl⟩
  have hnz : n ≤ foLen z.kids := by omega
  rw [← hn] at hx
  obtain ⟨y, hy⟩ : ∃ y, y = putP t p ⟨u.id, u.kind, u.text, delF u.kids i⟩ := ⟨_, rfl⟩
  rw [← hy] at hq hz hx
  have cy : ∀ a, cntT a y + cntT a v = cntT a t := fun a => by
    have h1 := cnt_put a p t u ⟨u.id, u.kind, u.text, delF u.kids i⟩ hu
    have h2 := cnt_del a u.kids i v hv
    rw [← hy] at h1
    simp only [cntT] at h1 h2 ⊢
    omega
  have cx : ∀ a, cntT a x = cntT a t := fun a => by
    have h1 := cnt_put a q y z ⟨z.id, z.kind, z.text, insF z.kids n v⟩ hz
    have h2 := cnt_ins a z.kids n v hnz
    have h3 := cy a
    rw [← hx] at h1
    simp only [cntT] at h1 h2 h3 ⊢
    omega
  have ht1 := (dist_cnt t).1 hd
  have hdx : DistT x := (dist_cnt x).2 fun a => by rw [cx]; exact ht1 a
  have hdy : DistT y := (dist_cnt y).2 fun a => by have := ht1 a; have := cy a; omega
  have hxq : atT x q = some ⟨z.id, z.kind, z.text, insF z.kids n v⟩ := by rw [hx]; exact put_at q y z _ hz
  have hxv : atT x (q ++ [n]) = some v := at_snoc hxq (kidF_ins z.kids n v hnz)
  have hxi : pathT id x = some (q ++ [n]) := by rw [← hvid]; exact pathT_uniq hdx hxv
  have huv : cntT u.id v = 0 := by
    have h1 := ht1 u.id
    have h2 := cnt_at u.id p t u hu
    have h3 := cnt_kid u.id hv
    simp only [cntT, if_pos] at h1 h2 h3 ⊢
    omega
  obtain ⟨pu, hpu⟩ := path_some (a := u.id) (t := x) (by
    rw [cx]
    have h2 := cnt_at u.id p t u hu
    have := cnt_self u
    omega)
  have hw : withinT id u.id x = false := by
    cases hw : withinT id u.id x with
    | false => rfl
    | true =>
      exfalso
      simp only [withinT, hxi, hpu, decide_eq_true_eq] at hw
      obtain ⟨r, e⟩ := lcp_prefix _ _ hw
      obtain ⟨w, hw1, hw2⟩ := pathT_at _ _ _ hpu
      rw [e, atT_append, hxv] at hw1
      simp only [Option.bind_some] at hw1
      have h1 := cnt_at u.id r v w hw1
      have h2 := cnt_self w
      rw [hw2] at h2
      omega
  have e1 : putP x q ⟨z.id, z.kind, z.text, delF (insF z.kids n v) n⟩ = y := by
    rw [del_ins _ _ _ hnz, hx, put_put q y z _ _ hz]
    exact put_own q y z hz
  have hgo := moveK_go (at_ := (i : Int)) hxi hpu hw hxq (kidF_ins z.kids n v hnz)
  rw [e1] at hgo
  have hyp : atT y p = some ⟨u.id, u.kind, u.text, delF u.kids i⟩ := by rw [hy]; exact put_at p t u _ hu
  have hyu : pathT u.id y = some p := pathT_uniq (v := ⟨u.id, u.kind, u.text, delF u.kids i⟩) hdy hyp
  have hil := delF_len u.kids i (kidF_some hv)
  rw [putK_some hyu hyp, if_pos ⟨by omega, by simp only; have := kidF_some hv; omega⟩] at hgo
  refine ⟨p, i, u, hi, hu, by rw [hgo], ?_⟩
  rw [hgo]
  simp only [Int.toNat_natCast]
  rw [hy, put_put p t u _ _ hu]
  obtain ⟨s1, s2⟩ := ins_del u.kids i v hv
  refine putP_same p t u _ hu ?_
  rw [sameF_comm] at s1
  simp [sameT, sameK, s1, s2]
end Go.Proofs.Ythjniclhnfipdaa
