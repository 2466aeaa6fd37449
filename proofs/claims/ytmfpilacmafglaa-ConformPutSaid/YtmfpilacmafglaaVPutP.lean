/-
  Plainly: a subtree that conforms, in the place of a node of its kind, leaves a tree that conforms, if ids, nodes and depth let it. No condition.
-/
import Derived.Test.YtmfpilacmafglaaVPutA
import Derived.Test.YtmfpilacmafglaaVLawP
namespace Go.Proofs.Ytmfpilacmafglaa
open Go.RowKit Go.Shelf
set_option linter.unusedVariables false
set_option linter.unusedSimpArgs false

/-- What is said of a node wherever it stands. -/
def fineN (g : Gr) (t : Tr) : Prop := 1 ≤ t.id ∧ t.id ≤ 1125899906842624 ∧ nodeB g t = true
def fineF (g : Gr) : Fo → Prop
  | .nil => True
  | .node _ _ key l r => fineN g ⟨key.1, key.2.1, key.2.2, l⟩ ∧ fineF g l ∧ fineF g r
theorem fineF_iff (g : Gr) : ∀ (f : Fo) (d : Nat), fineF g f ↔ ∀ x ∈ spF d f, fineN g (trOf x)
  | .nil, d => ⟨fun _ x hx => (by cases hx), fun _ => True.intro⟩
  | .node _ _ key l r, d => by
    simp only [fineF, spF, List.mem_cons, List.mem_append]
    rw [fineF_iff g l (d + 1), fineF_iff g r d]
    constructor
    · rintro ⟨h1, h2, h3⟩ x (rfl | hx | hx)
      · exact h1
      · exact h2 x hx
      · exact h3 x hx
    · intro h
      exact ⟨h _ (Or.inl rfl), fun x hx => h x (Or.inr (Or.inl hx)), fun x hx => h x (Or.inr (Or.inr hx))⟩
theorem putFo_ge (x : Tr) (k : Nat) : ∀ (f : Fo) (n : Nat), n ≤ (putFo x k n f).2
  | .nil, n => Nat.le_refl _
  | .node _ _ key l r, n => by
    rw [putFo_node]
    have h1 := putFo_ge x k r (putT x k n ⟨key.1, key.2.1, key.2.2, l⟩).2
    have h2 : n ≤ (putT x k n ⟨key.1, key.2.1, key.2.2, l⟩).2 := by
      unfold putT; split
      · show n ≤ n + 1; omega
      · have := putFo_ge x k l (n + 1); show n ≤ (putFo x k (n + 1) l).2; omega
    show n ≤ (putFo x k _ r).2; omega
theorem putFo_ctr (x : Tr) (k : Nat) : ∀ (f : Fo) (n : Nat), (putFo x k n f).2 = n + foSize f ∨ k < (putFo x k n f).2
  | .nil, n => Or.inl rfl
  | .node _ _ key l r, n => by
    rw [putFo_node]
    show (putFo x k _ r).2 = _ ∨ k < (putFo x k _ r).2
    have hg := putFo_ge x k r (putT x k n ⟨key.1, key.2.1, key.2.2, l⟩).2
    have hr := putFo_ctr x k r (putT x k n ⟨key.1, key.2.1, key.2.2, l⟩).2
    have h2 : (putT x k n ⟨key.1, key.2.1, key.2.2, l⟩).2 = n + 1 + foSize l ∨ k < (putT x k n ⟨key.1, key.2.1, key.2.2, l⟩).2 := by
      unfold putT; split
      · right; show k < n + 1; omega
      · exact putFo_ctr x k l (n + 1)
    simp only [foSize]
    omega
/-- Where the place is reached, the kinds are the same. -/
def KindAt (x : Tr) (k : Nat) (n : Nat) (f : Fo) : Prop := ∀ p s, (spF 1 f)[p]? = some s → n + p = k → s.2.1.2.1 = x.kind
theorem spF_at (d d' : Nat) : ∀ (f : Fo) (p : Nat) (s : Sp), (spF d f)[p]? = some s → ∃ s', (spF d' f)[p]? = some s' ∧ s'.2 = s.2 := fun f p s h => by
  have : ∀ (d d' : Nat) (f : Fo), (spF d f).map (·.2) = (spF d' f).map (·.2) := fun d d' f => by
    induction f generalizing d d' with
    | nil => rfl
    | node b o key l r ihl ihr => simp only [spF, List.map_cons, List.map_append]; rw [ihl (d + 1) (d' + 1), ihr d d']
  have h2 := this d d' f
  have h3 : ((spF d f).map (·.2))[p]? = some s.2 := by rw [List.getElem?_map, h]; rfl
  rw [h2, List.getElem?_map, Option.map_eq_some_iff] at h3
  exact h3
theorem put_fine (g : Gr) (x : Tr) (k : Nat) (hx : fineN g x ∧ fineF g x.kids) : ∀ (f : Fo) (n : Nat), KindAt x k n f → fineF g f → kindsF (putFo x k n f).1 = kindsF f ∧ fineF g (putFo x k n f).1
  | .nil, n, _, _ => ⟨rfl, True.intro⟩
  | .node b o key l r, n, hk, hf => by
    obtain ⟨h1, h2, h3⟩ := hf
    rw [putFo_node]
    have hT : (putT x k n ⟨key.1, key.2.1, key.2.2, l⟩).1.kind = key.2.1 ∧ fineN g (putT x k n ⟨key.1, key.2.1, key.2.2, l⟩).1 ∧ fineF g (putT x k n ⟨key.1, key.2.1, key.2.2, l⟩).1.kids := by
      unfold putT
      split
      · rename_i hnk
        have := hk 0 (1, key, l) (by simp [spF]) (by omega)
        exact ⟨this.symm, hx⟩
      · have hl : KindAt x k (n + 1) l := fun p s hs hp => by
          obtain ⟨s', hs', he⟩ := spF_at 1 2 l p s hs
          rw [← he]
          exact hk (p + 1) s' (by
            have hpl := (List.getElem?_eq_some_iff.1 hs').1
            simp only [spF, List.getElem?_cons_succ]
            rw [List.getElem?_append_left hpl]; exact hs') (by omega)
        obtain ⟨e1, e2⟩ := put_fine g x k hx l (n + 1) hl h2
        refine ⟨rfl, ⟨h1.1, h1.2.1, ?_⟩, e2⟩
        have hn := h1.2.2
        unfold nodeB at hn ⊢
        show (_ && fitsV _ (kindsF (putFo x k (n + 1) l).1)) = true
        rw [e1]; exact hn
    have hr : KindAt x k (putT x k n ⟨key.1, key.2.1, key.2.2, l⟩).2 r := fun p s hs hp => by
      have hc : (putT x k n ⟨key.1, key.2.1, key.2.2, l⟩).2 = n + 1 + foSize l ∨ k < (putT x k n ⟨key.1, key.2.1, key.2.2, l⟩).2 := by
        unfold putT; split
        · right; show k < n + 1; omega
        · exact putFo_ctr x k l (n + 1)
      rcases hc with hc | hc
      · refine hk (1 + foSize l + p) s ?_ (by omega)
        simp only [spF]
        rw [show 1 + foSize l + p = (foSize l + p) + 1 by omega, List.getElem?_cons_succ, List.getElem?_append_right (by rw [spF_length]; omega), spF_length]
        rw [show foSize l + p - foSize l = p by omega]; exact hs
      · omega
    obtain ⟨e1, e2⟩ := put_fine g x k hx r _ hr h3
    refine ⟨by simp only [kindsF]; rw [hT.1, e1], hT.2.1, hT.2.2, e2⟩
theorem badAt_fine {g : Gr} : ∀ (L : List Sp) (ids : List Int) (i : Nat), badAt g ids i L = none → ∀ x ∈ L, fineN g (trOf x)
  | [], _, _, _ => fun x hx => by cases hx
  | y :: L, ids, i, h => fun x hx => by
    unfold badAt at h
    split at h
    · cases h
    · rename_i hy
      rcases List.mem_cons.1 hx with rfl | hx
      · simp only [atB, Bool.or_eq_true, decide_eq_true_eq, not_or, Bool.not_eq_true', Bool.not_eq_eq_eq_not, Bool.not_not, Bool.not_true, Bool.not_eq_true] at hy
        exact ⟨by have := hy.1.1.2.1; omega, by have := hy.1.1.2.2; omega, by simpa using hy.2⟩
      · exact badAt_fine L _ _ h x hx
theorem badAt_of {g : Gr} : ∀ (L : List Sp) (ids : List Int) (i : Nat), (∀ x ∈ L, x.1 ≤ 32 ∧ fineN g (trOf x)) → (idsOf L).Nodup → (∀ x ∈ L, x.2.1.1 ∉ ids) → badAt g ids i L = none
  | [], _, _, _, _, _ => rfl
  | y :: L, ids, i, h, hn, hd => by
    have hy := h y (List.mem_cons_self ..)
    have hni := hd y (List.mem_cons_self ..)
    obtain ⟨hd32, hf1, hf2, hf3⟩ := hy
    unfold badAt
    rw [if_neg]
    · simp only [idsOf, List.map_cons, List.nodup_cons] at hn
      refine badAt_of L _ _ (fun x hx => h x (List.mem_cons_of_mem _ hx)) hn.2 fun x hx => ?_
      rw [List.mem_append, List.mem_singleton]
      rintro (e | e)
      · exact hd x (List.mem_cons_of_mem _ hx) e
      · exact hn.1 (List.mem_map.2 ⟨x, hx, e⟩)
    · have hany : ids.any (· == (trOf y).id) = false := by
        rw [List.any_eq_false]; intro a ha e; simp only [beq_iff_eq] at e; subst e; exact hni ha
      rw [atB, hany, hf3, decide_eq_false (by omega), decide_eq_false (by omega), decide_eq_false (by omega)]; simp
theorem putFo_fit (x : Tr) (k : Nat) (hx : foLen x.kids ≤ 9223372036854775807 ∧ foFit x.kids) : ∀ (f : Fo) (n : Nat), foFit f → foFit (putFo x k n f).1
  | .nil, _, _ => True.intro
  | .node b o key l r, n, h => by
    obtain ⟨h1, h2, h3⟩ := h
    rw [putFo_node]
    have hT : foLen (putT x k n ⟨key.1, key.2.1, key.2.2, l⟩).1.kids ≤ 9223372036854775807 ∧ foFit (putT x k n ⟨key.1, key.2.1, key.2.2, l⟩).1.kids := by
      unfold putT; split
      · exact hx
      · exact ⟨by show foLen (putFo x k (n + 1) l).1 ≤ _; rw [putFo_len]; exact h1, putFo_fit x k hx l (n + 1) h2⟩
    exact ⟨hT.1, hT.2, putFo_fit x k hx r _ h3⟩
theorem putT_fit (x : Tr) (k n : Nat) (t : Tr) (hx : foLen x.kids ≤ 9223372036854775807 ∧ foFit x.kids) (ht : foLen t.kids ≤ 9223372036854775807 ∧ foFit t.kids) : foLen (putT x k n t).1.kids ≤ 9223372036854775807 ∧ foFit (putT x k n t).1.kids := by
  unfold putT; split
  · exact hx
  · exact ⟨by show foLen (putFo x k (n + 1) t.kids).1 ≤ _; rw [putFo_len]; exact ht.1, putFo_fit x k hx t.kids (n + 1) ht.2⟩
/-- The stage's theorem, plainly. -/
theorem put_ok {g : Gr} {t x : Tr} {k : Nat} (ht : (treeR g t).2 = 0) (hx : (subR g x).2 = 0) (hk : ∀ s, (spF 1 (rootF t))[k]? = some s → s.2.1.2.1 = x.kind) (hsz : ¬ 200 < foSize (putT x k 0 t).1.kids + 1)
    (hd : ∀ s ∈ spF 1 (rootF (putT x k 0 t).1), s.1 ≤ 32) (hn : (idsOf (spF 1 (rootF (putT x k 0 t).1))).Nodup) : treeR g (putT x k 0 t).1 = (0, 0) := by
  obtain ⟨hg, _, hbx⟩ := sub_ok hx
  have hroot : t.kind = g.root := Classical.byContradiction fun hc => by rw [treeR, if_pos ⟨hg, hc⟩] at ht; simp at ht
  rw [treeR, if_neg (by simp [hroot])] at ht
  obtain ⟨_, _, hbt⟩ := sub_ok ht
  have hft := (fineF_iff g (rootF t) 1).2 (badAt_fine _ _ _ hbt)
  have hfx := (fineF_iff g (rootF x) 1).2 (badAt_fine _ _ _ hbx)
  have hp := put_fine g x k ⟨hfx.1, hfx.2.1⟩ (rootF t) 0 (fun p s hs e => hk s (by rw [← hs]; congr 1; omega)) hft
  have hrf : (putFo x k 0 (rootF t)).1 = rootF (putT x k 0 t).1 := rfl
  rw [hrf] at hp
  have hkind : (putT x k 0 t).1.kind = g.root := by
    have h1 := hp.1
    simp only [rootF, kindsF, List.cons.injEq, and_true] at h1
    rw [h1, hroot]
  have hfine := (fineF_iff g _ 1).1 hp.2
  rw [treeR, if_neg (by rw [hkind]; simp), subR, if_pos hg, if_neg hsz, faultR, badAt_of _ [] 0 (fun s hs => ⟨hd s hs, hfine s hs⟩) hn (fun _ _ => by simp)]
end Go.Proofs.Ytmfpilacmafglaa
