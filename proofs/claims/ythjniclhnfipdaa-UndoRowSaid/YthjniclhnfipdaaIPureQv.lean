/-
  A step's inverse, plainly: it goes on what came and comes back, and its own inverse does what the step did. No condition but that ids are all different and in their range.
-/
import Derived.Test.YthjniclhnfipdaaKFxQv
import Derived.Test.YthjniclhnfipdaaKFreshQv
namespace Go.Proofs.Ythjniclhnfipdaa
open Go.RowKit Go.Shelf
set_option linter.unusedVariables false
set_option linter.unusedSimpArgs false

/-- A step, told. -/
structure Sf where
  op : Int
  id : Int
  par : Int
  at_ : Int
  tx : ByteArray
  sub : Tr
/-- The node at a path, its parent and its place. -/
def walkW : Tr → Int → Int → List Nat → Tr × Int × Int
  | n, a, b, [] => (n, a, b)
  | n, a, b, i :: p => match kidF n.kids i with
    | none => (n, a, b)
    | some u => walkW u n.id (i : Int) p
def whenceK (id : Int) (t : Tr) : Tr × Int × Int := walkW t 0 0 ((pathT id t).getD [])
def zeroS : Sf := ⟨0, 0, 0, 0, ⟨#[]⟩, zeroK⟩
/-- What takes a step back. -/
def invK (op id : Int) (x t : Tr) : Sf :=
  if op = 1 then ⟨2, x.id, 0, 0, ⟨#[]⟩, zeroK⟩
  else if op = 2 then ⟨1, 0, (whenceK id t).2.1, (whenceK id t).2.2, ⟨#[]⟩, (whenceK id t).1⟩
  else if op = 3 then ⟨3, id, (whenceK id t).2.1, (whenceK id t).2.2, ⟨#[]⟩, zeroK⟩
  else if op = 4 then ⟨4, id, 0, 0, (whenceK id t).1.text, zeroK⟩ else zeroS
def Sf.on (s : Sf) (t : Tr) : Tr × Int := stepK s.op s.id s.par s.at_ s.tx s.sub t
theorem walkW_snoc : ∀ (p : List Nat) (n : Tr) (a b : Int) (u v : Tr) (i : Nat), atT n p = some u → kidF u.kids i = some v → walkW n a b (p ++ [i]) = (v, u.id, (i : Int))
  | [], n, a, b, u, v, i, h, hv => by cases h; simp only [List.nil_append, walkW, hv]
  | j :: p, n, a, b, u, v, i, h, hv => by
    simp only [atT] at h
    simp only [List.cons_append, walkW]
    cases hk : kidF n.kids j with
    | none => rw [hk] at h; cases h
    | some w => rw [hk] at h; simp only at h ⊢; exact walkW_snoc p w _ _ u v i h hv
theorem walkW_node : ∀ (p : List Nat) (n : Tr) (a b : Int) (u : Tr), atT n p = some u → (walkW n a b p).1 = u
  | [], n, a, b, u, h => by cases h; rfl
  | j :: p, n, a, b, u, h => by
    simp only [atT] at h
    simp only [walkW]
    cases hk : kidF n.kids j with
    | none => rw [hk] at h; cases h
    | some w => rw [hk] at h; simp only at h ⊢; exact walkW_node p w _ _ u h
theorem whence_snoc {id : Int} {t u v : Tr} {p : List Nat} {i : Nat} (h : pathT id t = some (p ++ [i])) (hu : atT t p = some u) (hv : kidF u.kids i = some v) : whenceK id t = (v, u.id, (i : Int)) := by
  unfold whenceK; rw [h]; exact walkW_snoc p t 0 0 u v i hu hv
theorem whence_node {id : Int} {t u : Tr} {p : List Nat} (h : pathT id t = some p) (hu : atT t p = some u) : (whenceK id t).1 = u := by
  unfold whenceK; rw [h]; exact walkW_node p t 0 0 u hu
theorem idF_eq : ∀ f : Fo, idF f = idsF f
  | .nil => rfl
  | .node b o k l r => by rw [idsF_node, idF, idF_eq l, idF_eq r]
theorem idT_eq (t : Tr) : idT t = idsF (rootF t) := by
  rw [rootF, idsF_node, idT, idF_eq]; simp [idsF, spF]
theorem idT_cnt (a : Int) (t : Tr) : a ∈ idT t ↔ 0 < cntT a t := by rw [idT_eq, cnt_mem, cnt_root]
theorem idT_nodup (t : Tr) : (idT t).Nodup ↔ ∀ a, cntT a t ≤ 1 := by rw [idT_eq]; exact dist_cnt t
/-- All ids are in their range. -/
def RngT (t : Tr) : Prop := ∀ i ∈ idT t, 1 ≤ i ∧ i ≤ 1125899906842624
theorem fresh_ok : ∀ (r l : List Int) (e : Int), freshK l r e = 0 → e = 0 ∧ (∀ i ∈ r, 1 ≤ i ∧ i ≤ 1125899906842624) ∧ r.Nodup ∧ ∀ i ∈ r, i ∉ l
  | [], l, e, h => ⟨h, fun _ h => (by cases h), List.nodup_nil, fun _ h => (by cases h)⟩
  | i :: r, l, e, h => by
    rw [freshK] at h
    split at h
    · exact absurd h (by decide)
    · rename_i hr
      obtain ⟨h1, h2, h3, h4⟩ := fresh_ok r _ _ h
      split at h1
      · exact absurd h1 (by decide)
      · rename_i ha
        have hil : i ∉ l := fun hm => ha (List.any_eq_true.2 ⟨i, hm, by simp⟩)
        refine ⟨h1, fun j hj => ?_, List.nodup_cons.2 ⟨fun hm => h4 i hm (by simp), h3⟩, fun j hj => ?_⟩
        · rcases List.mem_cons.1 hj with rfl | hj
          · omega
          · exact h2 j hj
        · rcases List.mem_cons.1 hj with rfl | hj
          · exact hil
          · exact fun hm => h4 j hj (List.mem_append_left _ hm)
theorem fresh_go : ∀ (r l : List Int), (∀ i ∈ r, 1 ≤ i ∧ i ≤ 1125899906842624) → r.Nodup → (∀ i ∈ r, i ∉ l) → freshK l r 0 = 0
  | [], l, _, _, _ => rfl
  | i :: r, l, h1, h2, h3 => by
    have hi := h1 i (List.mem_cons_self ..)
    have h2' := List.nodup_cons.1 h2
    rw [freshK, if_neg (by omega), if_neg (fun ha => by
      obtain ⟨j, hj, e⟩ := List.any_eq_true.1 ha
      have e' : j = i := by simpa using e
      exact h3 i (List.mem_cons_self ..) (e' ▸ hj))]
    refine fresh_go r _ (fun j hj => h1 j (List.mem_cons_of_mem _ hj)) h2'.2 fun j hj hm => ?_
    rcases List.mem_append.1 hm with hm | hm
    · exact h3 j (List.mem_cons_of_mem _ hj) hm
    · have : j = i := by simpa using hm
      exact h2'.1 (this ▸ hj)
theorem insertK_ok {par at_ : Int} {x t y : Tr} (h : insertK par at_ x t = (y, 0)) : ∃ q z, pathT par t = some q ∧ atT t q = some z ∧ z.id = par ∧ 0 ≤ at_ ∧ at_ ≤ (foLen z.kids : Int) ∧ y = putP t q ⟨z.id, z.kind, z.text, insF z.kids at_.toNat x⟩ ∧ freshK (idT t) (idT x) 0 = 0 := by
  unfold insertK at h
  split at h
  · rename_i h0
    have hy : (putK par at_ t x).1 = y := (Prod.mk.inj h).1
    have hf := (Prod.mk.inj h).2
    cases hp : pathT par t with
    | none => rw [putK_none hp] at h0; exact absurd h0 (by decide)
    | some q =>
      obtain ⟨z, hz, hid⟩ := pathT_at _ _ _ hp
      rw [putK_some hp hz] at h0 hy
      split at h0
      · rename_i hc
        rw [if_pos hc] at hy
        exact ⟨q, z, rfl, hz, hid, hc.1, hc.2, hy.symm, hf⟩
      · exact absurd (show (2 : Int) = 0 from h0) (by decide)
  · rename_i h0
    exact absurd (Prod.mk.inj h).2 h0
theorem removeK_ok {id : Int} {t y : Tr} (h : removeK id t = (y, 0)) : ∃ p i u v, pathT id t = some (p ++ [i]) ∧ atT t p = some u ∧ kidF u.kids i = some v ∧ v.id = id ∧ y = putP t p ⟨u.id, u.kind, u.text, delF u.kids i⟩ := by
  cases hp : pathT id t with
  | none => rw [removeK_none hp] at h; exact absurd (Prod.mk.inj h).2 (by decide)
  | some q0 =>
    by_cases h0 : q0 = []
    · subst h0; rw [removeK_root hp] at h; exact absurd (Prod.mk.inj h).2 (by decide)
    · obtain ⟨q, i, rfl⟩ : ∃ p i, q0 = p ++ [i] := ⟨q0.dropLast, q0.getLast h0, (List.dropLast_concat_getLast h0).symm⟩
      obtain ⟨v, hv0, hvid⟩ := pathT_at id t _ hp
      obtain ⟨u, hu, hv⟩ := atT_last q i t v hv0
      rw [removeK_go hp hu hv] at h
      exact ⟨q, i, u, v, rfl, hu, hv, hvid, ((Prod.mk.inj h).1).symm⟩
theorem writeK_ok {id : Int} {tx : ByteArray} {t y : Tr} (h : writeK id tx t = (y, 0)) : ∃ p u, pathT id t = some p ∧ atT t p = some u ∧ u.id = id ∧ y = putP t p ⟨u.id, u.kind, tx, u.kids⟩ := by
  cases hp : pathT id t with
  | none => rw [writeK_none hp] at h; exact absurd (Prod.mk.inj h).2 (by decide)
  | some q =>
    obtain ⟨u, hu, huid⟩ := pathT_at id t _ hp
    rw [writeK_go hp hu] at h
    exact ⟨q, u, rfl, hu, huid, ((Prod.mk.inj h).1).symm⟩
theorem stepK_1 (id par at_ : Int) (tx : ByteArray) (x t : Tr) : stepK 1 id par at_ tx x t = insertK par at_ x t := by unfold stepK; rw [if_pos rfl]
theorem stepK_2 (id par at_ : Int) (tx : ByteArray) (x t : Tr) : stepK 2 id par at_ tx x t = removeK id t := by unfold stepK; rw [if_neg (by decide), if_pos rfl]
theorem stepK_3 (id par at_ : Int) (tx : ByteArray) (x t : Tr) : stepK 3 id par at_ tx x t = moveK id par at_ t := by unfold stepK; rw [if_neg (by decide), if_neg (by decide), if_pos rfl]
theorem stepK_4 (id par at_ : Int) (tx : ByteArray) (x t : Tr) : stepK 4 id par at_ tx x t = writeK id tx t := by unfold stepK; rw [if_neg (by decide), if_neg (by decide), if_neg (by decide), if_pos rfl]
theorem stepK_op {op id par at_ : Int} {tx : ByteArray} {x t y : Tr} (h : stepK op id par at_ tx x t = (y, 0)) : op = 1 ∨ op = 2 ∨ op = 3 ∨ op = 4 := by
  unfold stepK at h
  by_cases h1 : op = 1
  · exact Or.inl h1
  · by_cases h2 : op = 2
    · exact Or.inr (Or.inl h2)
    · by_cases h3 : op = 3
      · exact Or.inr (Or.inr (Or.inl h3))
      · by_cases h4 : op = 4
        · exact Or.inr (Or.inr (Or.inr h4))
        · rw [if_neg h1, if_neg h2, if_neg h3, if_neg h4] at h
          exact absurd (Prod.mk.inj h).2 (by decide)
/-- What a step that goes leaves of the ids, and of the size. -/
theorem step_keeps {op id par at_ : Int} {tx : ByteArray} {x t y : Tr} (hd : DistT t) (hr : RngT t) (h : stepK op id par at_ tx x t = (y, 0)) : DistT y ∧ RngT y ∧ foSize y.kids ≤ foSize t.kids + foSize x.kids + 1 := by
  have hx : op = 1 → (∀ a, cntT a x ≤ 1) ∧ (∀ a, 0 < cntT a x → (1 ≤ a ∧ a ≤ 1125899906842624) ∧ cntT a t = 0) := fun ho => by
    subst ho
    rw [stepK_1] at h
    obtain ⟨q, z, _, _, _, _, _, _, hf⟩ := insertK_ok h
    obtain ⟨_, h2, h3, h4⟩ := fresh_ok _ _ _ hf
    refine ⟨(idT_nodup x).1 h3, fun a ha => ⟨h2 a ((idT_cnt a x).2 ha), ?_⟩⟩
    have := h4 a ((idT_cnt a x).2 ha)
    rw [idT_cnt] at this; omega
  have ht := (dist_cnt t).1 hd
  have hrt : ∀ a, 0 < cntT a t → 1 ≤ a ∧ a ≤ 1125899906842624 := fun a ha => hr a ((idT_cnt a t).2 ha)
  obtain ⟨hfx, _⟩ := stepK_fx h
  have hc : (∀ a, cntT a y ≤ 1) ∧ (∀ a, 0 < cntT a y → 1 ≤ a ∧ a ≤ 1125899906842624) := by
    cases hfx with
    | ins ho hh =>
      obtain ⟨x1, x2⟩ := hx ho
      have hh' : ∀ a, cntT a y = cntT a t + cntT a x := fun a => by have := hh (isId a); rw [cntQ_id, cntQ_id, cntQ_id] at this; exact this
      refine ⟨fun a => ?_, fun a ha => ?_⟩
      · have h1 := hh' a
        have h2 := ht a
        have h3 := x1 a
        by_cases h4 : 0 < cntT a x
        · have := (x2 a h4).2; omega
        · omega
      · have h1 := hh' a
        by_cases h4 : 0 < cntT a x
        · exact (x2 a h4).1
        · exact hrt a (by omega)
    | del ho q v hq hv hh =>
      have hh' : ∀ a, cntT a y + cntT a v = cntT a t := fun a => by have := hh (isId a); rw [cntQ_id, cntQ_id, cntQ_id] at this; exact this
      exact ⟨fun a => by have := hh' a; have := ht a; omega, fun a ha => hrt a (by have := hh' a; omega)⟩
    | mov ho hh =>
      have hh' : ∀ a, cntT a y = cntT a t := fun a => by have := hh (isId a); rw [cntQ_id, cntQ_id] at this; exact this
      exact ⟨fun a => by have := hh' a; have := ht a; omega, fun a ha => hrt a (by have := hh' a; omega)⟩
    | wri ho q u hq hu hh =>
      have hh' : ∀ a, cntT a y = cntT a t := fun a => by
        have := hh (isId a)
        rw [cntQ_id, cntQ_id, show oneP (isId a) u.key = oneP (isId a) (u.id, u.kind, tx) from rfl] at this; omega
      exact ⟨fun a => by have := hh' a; have := ht a; omega, fun a ha => hrt a (by have := hh' a; omega)⟩
  refine ⟨(dist_cnt y).2 hc.1, fun a ha => hc.2 a ((idT_cnt a y).1 ha), ?_⟩
  cases hfx with
  | ins ho hh => have := hh (fun _ => true); rw [cntQ_all, cntQ_all, cntQ_all] at this; omega
  | del ho q v hq hv hh => have := hh (fun _ => true); rw [cntQ_all, cntQ_all, cntQ_all] at this; omega
  | mov ho hh => have := hh (fun _ => true); rw [cntQ_all, cntQ_all] at this; omega
  | wri ho q u hq hu hh =>
    have := hh (fun _ => true)
    rw [cntQ_all, cntQ_all, oneP, if_pos rfl, oneP, if_pos rfl] at this; omega
/-- There and back, and there again. -/
def Back (op id par at_ : Int) (tx : ByteArray) (x t y : Tr) : Prop :=
  (∃ z, (invK op id x t).on y = (z, 0) ∧ sameT z t = true) ∧ (invK (invK op id x t).op (invK op id x t).id (invK op id x t).sub y).on t = (y, 0)
theorem back_ins {id par at_ : Int} {tx : ByteArray} {x t y : Tr} (hd : DistT t) (hr : RngT t) (h : stepK 1 id par at_ tx x t = (y, 0)) : Back 1 id par at_ tx x t y := by
  obtain ⟨hdy, hry, _⟩ := step_keeps hd hr h
  have h0 := h
  rw [stepK_1] at h0
  obtain ⟨q, z, hq, hz, hid, ha, hb, hy, hf⟩ := insertK_ok h0
  obtain ⟨n, hn⟩ : ∃ n : Nat, n = at_.toNat := ⟨_, rfl⟩
  have hnz : n ≤ foLen z.kids := by omega
  have hna : (n : Int) = at_ := by omega
  rw [← hn] at hy
  have hyq : atT y q = some ⟨z.id, z.kind, z.text, insF z.kids n x⟩ := by rw [hy]; exact put_at q t z _ hz
  have hyx : pathT x.id y = some (q ++ [n]) := pathT_uniq hdy (at_snoc hyq (kidF_ins z.kids n x hnz))
  have e1 : invK 1 id x t = ⟨2, x.id, 0, 0, ⟨#[]⟩, zeroK⟩ := by unfold invK; rw [if_pos rfl]
  unfold Back
  rw [e1]
  refine ⟨⟨t, ?_, sameT_refl t⟩, ?_⟩
  · unfold Sf.on
    simp only
    rw [stepK_2, removeK_go hyx hyq (kidF_ins z.kids n x hnz), Prod.mk.injEq]
    refine ⟨?_, rfl⟩
    simp only
    rw [del_ins _ _ _ hnz, hy, put_put q t z _ _ hz]
    exact put_own q t z hz
  · have e2 : invK 2 x.id zeroK y = ⟨1, 0, z.id, (n : Int), ⟨#[]⟩, x⟩ := by
      unfold invK
      rw [if_neg (by decide), if_pos rfl, whence_snoc hyx hyq (kidF_ins z.kids n x hnz)]
    simp only
    rw [e2]
    unfold Sf.on
    simp only
    rw [stepK_1, hid, hna]; exact h0
theorem back_del {id par at_ : Int} {tx : ByteArray} {x t y : Tr} (hd : DistT t) (hr : RngT t) (h : stepK 2 id par at_ tx x t = (y, 0)) : Back 2 id par at_ tx x t y := by
  obtain ⟨hdy, hry, _⟩ := step_keeps hd hr h
  have h0 := h
  rw [stepK_2] at h0
  obtain ⟨p, i, u, v, hp, hu, hv, hid, hy⟩ := removeK_ok h0
  have e1 : invK 2 id x t = ⟨1, 0, u.id, (i : Int), ⟨#[]⟩, v⟩ := by
    unfold invK
    rw [if_neg (by decide), if_pos rfl, whence_snoc hp hu hv]
  have hyp : atT y p = some ⟨u.id, u.kind, u.text, delF u.kids i⟩ := by rw [hy]; exact put_at p t u _ hu
  have hyu : pathT u.id y = some p := pathT_uniq (v := ⟨u.id, u.kind, u.text, delF u.kids i⟩) hdy hyp
  have hil := delF_len u.kids i (kidF_some hv)
  have hik := kidF_some hv
  have cy : ∀ a, cntT a y + cntT a v = cntT a t := fun a => by
    have h1 := cnt_put a p t u ⟨u.id, u.kind, u.text, delF u.kids i⟩ hu
    have h2 := cnt_del a u.kids i v hv
    rw [← hy] at h1
    simp only [cntT] at h1 h2 ⊢
    omega
  have ht := (dist_cnt t).1 hd
  have hf : freshK (idT y) (idT v) 0 = 0 := fresh_go _ _ (fun a ha => hr a ((idT_cnt a t).2 (by have := (idT_cnt a v).1 ha; have := cy a; omega))) ((idT_nodup v).2 fun a => by have := ht a; have := cy a; omega)
    fun a ha hm => by
      have h1 := (idT_cnt a v).1 ha
      have h2 := (idT_cnt a y).1 hm
      have := ht a; have := cy a; omega
  unfold Back
  rw [e1]
  refine ⟨⟨putP y p ⟨u.id, u.kind, u.text, insF (delF u.kids i) i v⟩, ?_, ?_⟩, ?_⟩
  · unfold Sf.on
    simp only
    have hpk : putK u.id (i : Int) y v = (putP y p ⟨u.id, u.kind, u.text, insF (delF u.kids i) i v⟩, 0) := by
      rw [putK_some hyu hyp, if_pos ⟨by omega, by simp only; omega⟩]
      simp only [Int.toNat_natCast]
    rw [stepK_1, insertK, hpk, if_pos rfl, hf]
  · rw [hy, put_put p t u _ _ hu]
    obtain ⟨s1, s2⟩ := ins_del u.kids i v hv
    refine putP_same p t u _ hu ?_
    rw [sameF_comm] at s1
    simp [sameT, sameK, s1, s2]
  · have e2 : invK 1 0 v y = ⟨2, v.id, 0, 0, ⟨#[]⟩, zeroK⟩ := by unfold invK; rw [if_pos rfl]
    simp only
    rw [e2]
    unfold Sf.on
    simp only
    rw [stepK_2, hid]; exact h0
theorem back_mov {id par at_ : Int} {tx : ByteArray} {x t y : Tr} (hd : DistT t) (hr : RngT t) (h : stepK 3 id par at_ tx x t = (y, 0)) : Back 3 id par at_ tx x t y := by
  obtain ⟨hdy, hry, _⟩ := step_keeps hd hr h
  have h0 := h
  rw [stepK_3] at h0
  obtain ⟨p, i, u, v, q, z, hi, hu, hv, hvid, hq, hz, ha, hb, hy⟩ := moveK_ok h0
  obtain ⟨p', i', u', hi', hu', hm1, hm2⟩ := moveK_back hd h0
  rw [hi] at hi'
  obtain ⟨e1, e2⟩ := List.append_inj' (Option.some.inj hi') rfl
  subst e1
  cases e2
  rw [hu] at hu'
  cases hu'
  obtain ⟨n, hn⟩ : ∃ n : Nat, n = at_.toNat := ⟨_, rfl⟩
  have hnz : n ≤ foLen z.kids := by omega
  have hna : (n : Int) = at_ := by omega
  rw [← hn] at hy
  obtain ⟨zz, hzz, hzid⟩ := pathT_at _ _ _ hq
  rw [hz] at hzz
  cases hzz
  have hyq : atT y q = some ⟨z.id, z.kind, z.text, insF z.kids n v⟩ := by rw [hy]; exact put_at q _ z _ hz
  have hyv : pathT id y = some (q ++ [n]) := by rw [← hvid]; exact pathT_uniq hdy (at_snoc hyq (kidF_ins z.kids n v hnz))
  have e1 : invK 3 id x t = ⟨3, id, u.id, (i : Int), ⟨#[]⟩, zeroK⟩ := by
    unfold invK
    rw [if_neg (by decide), if_neg (by decide), if_pos rfl, whence_snoc hi hu hv]
  unfold Back
  rw [e1]
  refine ⟨⟨(moveK id u.id (i : Int) y).1, ?_, hm2⟩, ?_⟩
  · unfold Sf.on
    simp only
    rw [stepK_3]
    exact Prod.ext rfl hm1
  · have e2 : invK 3 id zeroK y = ⟨3, id, z.id, (n : Int), ⟨#[]⟩, zeroK⟩ := by
      unfold invK
      rw [if_neg (by decide), if_neg (by decide), if_pos rfl, whence_snoc hyv hyq (kidF_ins z.kids n v hnz)]
    simp only
    rw [e2]
    unfold Sf.on
    simp only
    rw [stepK_3, hzid, hna]; exact h0
theorem back_wri {id par at_ : Int} {tx : ByteArray} {x t y : Tr} (hd : DistT t) (hr : RngT t) (h : stepK 4 id par at_ tx x t = (y, 0)) : Back 4 id par at_ tx x t y := by
  obtain ⟨hdy, hry, _⟩ := step_keeps hd hr h
  have h0 := h
  rw [stepK_4] at h0
  obtain ⟨p, u, hp, hu, hid, hy⟩ := writeK_ok h0
  have hyp : atT y p = some ⟨u.id, u.kind, tx, u.kids⟩ := by rw [hy]; exact put_at p t u _ hu
  have hyv : pathT id y = some p := by rw [← hid]; exact pathT_uniq (v := ⟨u.id, u.kind, tx, u.kids⟩) hdy hyp
  have e1 : invK 4 id x t = ⟨4, id, 0, 0, u.text, zeroK⟩ := by
    unfold invK
    rw [if_neg (by decide), if_neg (by decide), if_neg (by decide), if_pos rfl, whence_node hp hu]
  unfold Back
  rw [e1]
  refine ⟨⟨t, ?_, sameT_refl t⟩, ?_⟩
  · unfold Sf.on
    simp only
    rw [stepK_4, writeK_go hyv hyp, Prod.mk.injEq]
    refine ⟨?_, rfl⟩
    simp only
    rw [hy, put_put p t u _ _ hu]
    exact put_own p t u hu
  · have e2 : invK 4 id zeroK y = ⟨4, id, 0, 0, tx, zeroK⟩ := by
      unfold invK
      rw [if_neg (by decide), if_neg (by decide), if_neg (by decide), if_pos rfl, whence_node hyv hyp]
    simp only
    rw [e2]
    unfold Sf.on
    simp only
    rw [stepK_4]; exact h0
theorem inv_back {op id par at_ : Int} {tx : ByteArray} {x t y : Tr} (hd : DistT t) (hr : RngT t) (h : stepK op id par at_ tx x t = (y, 0)) : Back op id par at_ tx x t y := by
  rcases stepK_op h with rfl | rfl | rfl | rfl
  · exact back_ins hd hr h
  · exact back_del hd hr h
  · exact back_mov hd hr h
  · exact back_wri hd hr h
/-- The inverse's own ids, and its size. -/
theorem inv_sub {op id par at_ : Int} {tx : ByteArray} {x t y : Tr} (hr : RngT t) (h : stepK op id par at_ tx x t = (y, 0)) : foSize (invK op id x t).sub.kids ≤ foSize t.kids ∧ (∀ i ∈ idT (invK op id x t).sub, (Lit.int .i64 i).wf = true) ∧ (Lit.int .i8 (invK op id x t).op).wf = true ∧ ∀ i ∈ idT t, (Lit.int .i64 i).wf = true := by
  have hwf : ∀ i : Int, 0 ≤ i → i ≤ 1125899906842624 → (Lit.int .i64 i).wf = true := fun i h1 h2 => by
    have e1 : IntKind.i64.min = -9223372036854775808 := by decide
    have e2 : IntKind.i64.max = 9223372036854775807 := by decide
    simp only [Lit.wf, decide_eq_true_eq, Bool.and_eq_true, e1, e2]; omega
  have hz : ∀ i ∈ idT zeroK, (Lit.int .i64 i).wf = true := fun i hi => by
    have : i = 0 := by simpa [idT, zeroK, idF] using hi
    subst this; exact hwf 0 (by omega) (by omega)
  have hzs : foSize zeroK.kids = 0 := rfl
  have ht : ∀ i ∈ idT t, (Lit.int .i64 i).wf = true := fun i hi => hwf i (by have := hr i hi; omega) (hr i hi).2
  rcases stepK_op h with rfl | rfl | rfl | rfl
  · have e : invK 1 id x t = ⟨2, x.id, 0, 0, ⟨#[]⟩, zeroK⟩ := by unfold invK; rw [if_pos rfl]
    rw [e]; exact ⟨Nat.zero_le _, hz, (by decide : (Lit.int .i8 2).wf = true), ht⟩
  · rw [stepK_2] at h
    obtain ⟨p, i, u, v, hp, hu, hv, hid, hy⟩ := removeK_ok h
    have e1 : invK 2 id x t = ⟨1, 0, u.id, (i : Int), ⟨#[]⟩, v⟩ := by
      unfold invK
      rw [if_neg (by decide), if_pos rfl, whence_snoc hp hu hv]
    rw [e1]
    have h1 := atT_size _ _ _ (at_snoc hu hv)
    refine ⟨by simp only; omega, fun a ha => ht a ?_, (by decide : (Lit.int .i8 1).wf = true), ht⟩
    rw [idT_cnt] at ha ⊢
    exact Nat.lt_of_lt_of_le ha (cnt_at a _ _ _ (at_snoc hu hv))
  · have e : (invK 3 id x t).sub = zeroK ∧ (invK 3 id x t).op = 3 := by unfold invK; rw [if_neg (by decide), if_neg (by decide), if_pos rfl]; exact ⟨rfl, rfl⟩
    rw [e.1, e.2]; exact ⟨Nat.zero_le _, hz, by decide, ht⟩
  · have e : (invK 4 id x t).sub = zeroK ∧ (invK 4 id x t).op = 4 := by unfold invK; rw [if_neg (by decide), if_neg (by decide), if_neg (by decide), if_pos rfl]; exact ⟨rfl, rfl⟩
    rw [e.1, e.2]; exact ⟨Nat.zero_le _, hz, by decide, ht⟩
end Go.Proofs.Ythjniclhnfipdaa
