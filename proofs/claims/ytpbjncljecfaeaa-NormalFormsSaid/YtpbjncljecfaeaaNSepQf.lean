/-
  Rows of nodes that lie apart from one another: in which blocks the rows below a row lie. No condition.
-/
import Derived.Test.YtpbjncljecfaeaaECopyQf
namespace Go.Proofs.Ytpbjncljecfaeaa
open Go.RowKit Go.Shelf
set_option linter.unusedVariables false
set_option linter.unusedSimpArgs false

def adB : Option Addr → Nat
  | some a => a.block
  | none => 0
def adO : Option Addr → Nat
  | some a => a.off
  | none => 0
/-- Where a node's kids lie. -/
def kidsA (V : World) (b o : Nat) : Option Addr := match V.cell? ⟨b, o + 3, none⟩ with
  | some (.slice a _ _) => a
  | _ => none
theorem kidsA_of {V : World} {b o n c : Nat} {a : Option Addr} (h : V.cell? ⟨b, o + 3, none⟩ = some (.slice a n c)) : kidsA V b o = a := by rw [kidsA, h]
def hdB (n0 : Nat) : Fo → Option Addr → List Nat
  | .nil, _ => []
  | .node _ _ _ _ _, a => if n0 ≤ adB a then [adB a] else []
/-- The blocks, from n0 on, of the rows that lie below a row. -/
def rowsB (V : World) (n0 : Nat) : Fo → Nat → Nat → List Nat
  | .nil, _, _ => []
  | .node _ _ _ l r, b, o => hdB n0 l (kidsA V b o) ++ (rowsB V n0 l (adB (kidsA V b o)) (adO (kidsA V b o)) ++ rowsB V n0 r b (o + 4))
theorem hdB_ge {n0 : Nat} {f : Fo} {a : Option Addr} {q : Nat} (h : q ∈ hdB n0 f a) : n0 ≤ q ∧ q = adB a := by
  cases f with
  | nil => simp [hdB] at h
  | node _ _ _ _ _ =>
    rw [hdB] at h
    split at h
    · simp at h; subst h; exact ⟨by assumption, rfl⟩
    · simp at h
theorem rowsB_ge {V : World} {n0 : Nat} : ∀ {f : Fo} {b o q : Nat}, q ∈ rowsB V n0 f b o → n0 ≤ q
  | .nil, _, _, _, h => by simp [rowsB] at h
  | .node _ _ _ l r, b, o, q, h => by
    rw [rowsB] at h
    rcases List.mem_append.1 h with h | h
    · exact (hdB_ge h).1
    · rcases List.mem_append.1 h with h | h
      · exact rowsB_ge h
      · exact rowsB_ge h
theorem fo_blk {V : World} {X : Nat → Prop} {f : Fo} {a : Option Addr} (h : FoAt V X f a) (hf : f ≠ .nil) : ∃ b o, a = some ⟨b, o, none⟩ ∧ X b := by
  cases f with
  | nil => exact absurd rfl hf
  | node _ _ k l r => obtain ⟨b, o, _, _, e, hb, _⟩ := h; exact ⟨b, o, e, hb⟩
theorem rowsB_in {V : World} {n0 : Nat} {X : Nat → Prop} : ∀ {f : Fo} {b o q : Nat}, FoAt V X f (some ⟨b, o, none⟩) → q ∈ rowsB V n0 f b o → X q
  | .nil, _, _, _, _, h => by simp [rowsB] at h
  | .node _ _ _ l r, b, o, q, hf, h => by
    obtain ⟨b1, o1, ka, cap, e, hb, _, _, _, h3, _, hl, hr⟩ := hf
    cases e
    rw [rowsB, kidsA_of h3] at h
    rcases List.mem_append.1 h with h | h
    · have h2 := hdB_ge h
      cases l with
      | nil => simp [hdB] at h
      | node _ _ _ _ _ =>
        obtain ⟨g, go, e, hg⟩ := fo_blk hl (by simp)
        rw [h2.2, e]; exact hg
    · rcases List.mem_append.1 h with h | h
      · cases l with
        | nil => simp [rowsB] at h
        | node _ _ _ _ _ =>
          obtain ⟨g, go, e, hg⟩ := fo_blk hl (by simp)
          subst e
          exact rowsB_in hl h
      · exact rowsB_in hr h
/-- The same row elsewhere, or later. -/
theorem rowsB_same {V V' : World} {n0 : Nat} : ∀ (f : Fo) (b o b' o' : Nat), (∀ i, i < foLen f → kidsA V' b' (o' + 4 * i) = kidsA V b (o + 4 * i)) → (∀ q, (q ∈ rowsB V n0 f b o ∨ q < n0) → ∀ j, kidsA V' q j = kidsA V q j) → rowsB V' n0 f b' o' = rowsB V n0 f b o
  | .nil, _, _, _, _, _, _ => rfl
  | .node _ _ _ l r, b, o, b', o', h1, h2 => by
    have e0 : kidsA V' b' o' = kidsA V b o := by have := h1 0 (by simp [foLen]); simpa using this
    rw [rowsB] at h2
    rw [rowsB, rowsB, e0]
    have er := rowsB_same r b (o + 4) b' (o' + 4) (fun i hi => by
      have := h1 (i + 1) (by simp [foLen]; omega)
      rw [show o' + 4 + 4 * i = o' + 4 * (i + 1) by omega, show o + 4 + 4 * i = o + 4 * (i + 1) by omega]; exact this) (fun q hq => h2 q (hq.imp (fun h => by simp [h]) id))
    rw [er]
    have el : rowsB V' n0 l (adB (kidsA V b o)) (adO (kidsA V b o)) = rowsB V n0 l (adB (kidsA V b o)) (adO (kidsA V b o)) := by
      cases l with
      | nil => rfl
      | node x y k l2 r2 =>
        refine rowsB_same _ _ _ _ _ (fun i _ => h2 _ ?_ _) (fun q hq => h2 q (hq.imp (fun h => by simp [h]) id))
        by_cases hg : n0 ≤ adB (kidsA V b o)
        · exact Or.inl (by simp [hdB, hg])
        · exact Or.inr (by omega)
    rw [el]
theorem rowsB_kept {V V' : World} {n0 : Nat} {X : Nat → Prop} : ∀ {f : Fo} {b o : Nat}, FoAt V X f (some ⟨b, o, none⟩) → (∀ q, X q → ∀ j, kidsA V' q j = kidsA V q j) → rowsB V' n0 f b o = rowsB V n0 f b o
  | .nil, _, _, _, _ => rfl
  | .node _ _ _ l r, b, o, hf, hX => by
    obtain ⟨b1, o1, ka, cap, e, hb, _, _, _, h3, _, hl, hr⟩ := hf
    cases e
    rw [rowsB, rowsB, hX b hb, kidsA_of h3, rowsB_kept hr hX]
    cases l with
    | nil => rfl
    | node _ _ _ _ _ =>
      obtain ⟨g, go, e, hg⟩ := fo_blk hl (by simp)
      subst e
      rw [show adB (some ⟨g, go, none⟩) = g from rfl, show adO (some ⟨g, go, none⟩) = go from rfl, rowsB_kept hl hX]
/-- Two rows that lie at one place have one shape. -/
theorem rowsB_un {V : World} {n0 : Nat} {X Y : Nat → Prop} : ∀ {f g : Fo} {b o : Nat}, FoAt V X f (some ⟨b, o, none⟩) → FoAt V Y g (some ⟨b, o, none⟩) → foLen f = foLen g → rowsB V n0 f b o = rowsB V n0 g b o
  | .nil, .nil, _, _, _, _, _ => rfl
  | .nil, .node _ _ _ _ _, _, _, _, _, h => by simp [foLen] at h
  | .node _ _ _ _ _, .nil, _, _, _, _, h => by simp [foLen] at h
  | .node _ _ _ l r, .node _ _ _ l' r', b, o, hf, hg, h => by
    obtain ⟨b1, o1, ka, cap, e, hb, _, _, _, h3, _, hl, hr⟩ := hf
    cases e
    obtain ⟨b1, o1, ka', cap', e, hb', _, _, _, h3', _, hl', hr'⟩ := hg
    cases e
    have hll : foLen l = foLen l' ∧ ka = ka' := by
      have e := Option.some.inj (h3.symm.trans h3')
      injection e with e1 e2 e3
      exact ⟨e2, e1⟩
    obtain ⟨e1, rfl⟩ := hll
    rw [rowsB, rowsB, kidsA_of h3, rowsB_un hr hr' (by simpa [foLen] using h)]
    cases l with
    | nil => cases l' with
      | nil => rfl
      | node _ _ _ _ _ => simp [foLen] at e1
    | node _ _ _ _ _ => cases l' with
      | nil => simp [foLen] at e1
      | node _ _ _ _ _ =>
        obtain ⟨g, go, e, hg⟩ := fo_blk hl (by simp)
        subst e
        rw [show adB (some ⟨g, go, none⟩) = g from rfl, show adO (some ⟨g, go, none⟩) = go from rfl, rowsB_un hl hl' e1]
        rfl
/-- One node's kids are laid in a new block: the rows lie apart still. -/
theorem rowsB_step {V V' : World} {n0 tb to rb n : Nat} {X : Nat → Prop} {ka : Option Addr} {cap : Nat} (htn : n0 ≤ tb) (hrb : ∀ q, X q → q ≠ rb) (hcell : V.cell? ⟨tb, to + 3, none⟩ = some (.slice ka n cap)) (hold : 0 < n → adB ka < n0) (hnew : 0 < n → kidsA V' tb to = some ⟨rb, 0, none⟩) (hrn : n0 ≤ rb)
    (hoth : ∀ q j, X q → ¬ (q = tb ∧ j = to) → kidsA V' q j = kidsA V q j) (hlow : ∀ q, q < n0 → ∀ j, kidsA V' q j = kidsA V q j)
    (hz : ∀ l, FoAt V X l ka → foLen l = n → rowsB V' n0 l rb 0 = []) (hz0 : ∀ l, FoAt V X l ka → foLen l = n → ∀ g go, ka = some ⟨g, go, none⟩ → rowsB V n0 l g go = []) :
    ∀ (f : Fo) (b o : Nat), FoAt V X f (some ⟨b, o, none⟩) → (b :: rowsB V n0 f b o).Nodup →
      (b :: rowsB V' n0 f b o).Nodup ∧ (∀ q, q ∈ rowsB V' n0 f b o → q ∈ rowsB V n0 f b o ∨ q = rb) ∧ (rb ∈ rowsB V' n0 f b o → 0 < n ∧ ((tb = b ∧ o ≤ to) ∨ tb ∈ rowsB V n0 f b o))
  | .nil, b, o, hf, hd => ⟨by simp [rowsB], fun q h => by simp [rowsB] at h, fun h => by simp [rowsB] at h⟩
  | .node x0 y0 k0 l r, b, o, hf, hd => by
    have hall := fun q (hq : q ∈ rowsB V n0 (.node x0 y0 k0 l r) b o) => rowsB_in hf hq
    obtain ⟨b1, o1, ka1, cap1, e, hb, _, _, _, h3, hc1, hl, hr⟩ := hf
    cases e
    have hV : rowsB V n0 (.node x0 y0 k0 l r) b o = hdB n0 l ka1 ++ (rowsB V n0 l (adB ka1) (adO ka1) ++ rowsB V n0 r b (o + 4)) := by rw [rowsB, kidsA_of h3]
    rw [hV] at hd hall ⊢
    rw [rowsB]
    obtain ⟨L3, hL3⟩ : ∃ L, L = rowsB V n0 r b (o + 4) := ⟨_, rfl⟩
    rw [← hL3] at hd hall ⊢
    by_cases ht : b = tb ∧ o = to
    · obtain ⟨rfl, rfl⟩ := ht
      rw [hcell] at h3
      cases h3
      have hr3 : rowsB V' n0 r b (o + 4) = L3 := by
        rw [hL3]
        refine rowsB_same r b (o + 4) b (o + 4) (fun i _ => hoth b _ hb (fun h => by have := h.2; omega)) (fun q hq j => ?_)
        by_cases hq0 : q < n0
        · exact hlow q hq0 j
        · have hq := hq.resolve_right hq0
          rw [← hL3] at hq
          refine hoth q j (hall q (by simp [hq])) (fun h => ?_)
          rw [h.1] at hq
          exact (List.nodup_cons.1 hd).1 (by simp [hq])
      rw [hr3]
      have hd3 : (b :: L3).Nodup := by
        obtain ⟨d1, d2⟩ := List.nodup_cons.1 hd
        exact List.nodup_cons.2 ⟨fun h => d1 (by simp [h]), (List.nodup_append.1 (List.nodup_append.1 d2).2.1).2.1⟩
      cases l with
      | nil =>
        simp only [rowsB, hdB, List.nil_append]
        exact ⟨hd3, fun q h => Or.inl h, fun h => absurd rfl (hrb rb (hall rb (by simp [h])))⟩
      | node x y k l2 r2 =>
        have hz1 := hz _ hl rfl
        rw [hnew (by simp [foLen]), show adB (some ⟨rb, 0, none⟩) = rb from rfl, show adO (some ⟨rb, 0, none⟩) = 0 from rfl, hz1]
        rw [show hdB n0 (.node x y k l2 r2) (some ⟨rb, 0, none⟩) = [rb] by simp only [hdB]; rw [show adB (some ⟨rb, 0, none⟩) = rb from rfl, if_pos hrn]]
        have hbr := hrb b hb
        have hr3 : rb ∉ L3 := fun h => hrb rb (hall rb (by simp [h])) rfl
        refine ⟨?_, fun q h => ?_, fun _ => ⟨by simp [foLen], Or.inl ⟨rfl, Nat.le_refl _⟩⟩⟩
        · obtain ⟨d1, d2⟩ := List.nodup_cons.1 hd3
          simp only [List.nil_append, List.cons_append, List.nodup_cons, List.mem_cons, not_or]
          exact ⟨⟨hbr, d1⟩, hr3, d2⟩
        · simp only [List.nil_append, List.cons_append, List.mem_cons] at h
          rcases h with h | h
          · exact Or.inr h
          · exact Or.inl (by simp [h])
    · have e0 : kidsA V' b o = ka1 := (hoth b o hb ht).trans (kidsA_of h3)
      rw [e0]
      obtain ⟨d1, d2⟩ := List.nodup_cons.1 hd
      obtain ⟨d3, d4, d5⟩ := List.nodup_append.1 d2
      obtain ⟨d6, d7, d8⟩ := List.nodup_append.1 d4
      have hR := rowsB_step htn hrb hcell hold hnew hrn hoth hlow hz hz0 r b (o + 4) hr (by rw [← hL3]; exact List.nodup_cons.2 ⟨fun h => d1 (by simp [h]), d7⟩)
      rw [← hL3] at hR
      obtain ⟨R1, R2, R3⟩ := hR
      obtain ⟨R4, R5⟩ := List.nodup_cons.1 R1
      cases l with
      | nil =>
        simp only [rowsB, hdB, List.nil_append]
        exact ⟨R1, R2, fun h => ⟨(R3 h).1, (R3 h).2.imp (fun h => ⟨h.1, by omega⟩) id⟩⟩
      | node x y k l2 r2 =>
        obtain ⟨g, go, e, hg⟩ := fo_blk hl (by simp)
        subst e
        rw [show adB (some ⟨g, go, none⟩) = g from rfl, show adO (some ⟨g, go, none⟩) = go from rfl] at *
        obtain ⟨H1, hH1⟩ : ∃ H, H = hdB n0 (.node x y k l2 r2) (some ⟨g, go, none⟩) := ⟨_, rfl⟩
        have hH : ∀ q, q ∈ H1 ↔ (q = g ∧ n0 ≤ g) := fun q => by
          rw [hH1, hdB, show adB (some ⟨g, go, none⟩) = g from rfl]
          split
          · simp; intro _; assumption
          · simp; omega
        rw [← hH1] at d1 d3 d5 hall ⊢
        have hL := rowsB_step htn hrb hcell hold hnew hrn hoth hlow hz hz0 _ g go hl (List.nodup_cons.2 ⟨fun h => by
          have := rowsB_ge h
          exact d5 g ((hH g).2 ⟨rfl, this⟩) g (by simp [h]) rfl, d6⟩)
        obtain ⟨K1, K2, K3⟩ := hL
        obtain ⟨K4, K5⟩ := List.nodup_cons.1 K1
        have hrbL : rb ∉ rowsB V n0 (.node x y k l2 r2) g go := fun h => hrb rb (hall rb (by simp [h])) rfl
        have hrbR : rb ∉ L3 := fun h => hrb rb (hall rb (by simp [h])) rfl
        have hgrb : g ≠ rb := hrb g hg
        refine ⟨?_, fun q h => ?_, fun h => ?_⟩
        · refine List.nodup_cons.2 ⟨fun h => ?_, List.nodup_append.2 ⟨d3, List.nodup_append.2 ⟨K5, R5, fun p hp q hq e => ?_⟩, fun p hp q hq e => ?_⟩⟩
          · rcases List.mem_append.1 h with h | h
            · exact d1 (by simp [h])
            · rcases List.mem_append.1 h with h | h
              · rcases K2 b h with h | h
                · exact d1 (by simp [h])
                · exact hrb b hb h
              · exact R4 h
          · subst e
            rcases K2 p hp with h1 | rfl
            · rcases R2 p hq with h2 | rfl
              · exact d8 p h1 p h2 rfl
              · exact hrbL h1
            · rcases (R3 hq).2 with h2 | h2
              · rcases (K3 hp).2 with h3 | h3
                · have := (hH g).2 ⟨rfl, by rw [← h3.1]; exact htn⟩
                  exact d1 (by rw [← h2.1, h3.1]; simp [this])
                · exact d1 (by rw [← h2.1]; simp [h3])
              · rcases (K3 hp).2 with h3 | h3
                · have := (hH g).2 ⟨rfl, by rw [← h3.1]; exact htn⟩
                  exact d5 g this g (by rw [← h3.1]; simp [h2]) rfl
                · exact d8 tb h3 tb h2 rfl
          · subst e
            have hpg := (hH p).1 hp
            rcases List.mem_append.1 hq with h | h
            · rw [hpg.1] at h; exact K4 h
            · rcases R2 p h with h | h
              · exact d5 p hp p (by simp [h]) rfl
              · exact hgrb (hpg.1.symm.trans h)
        · rcases List.mem_append.1 h with h | h
          · exact Or.inl (by simp [h])
          · rcases List.mem_append.1 h with h | h
            · exact (K2 q h).imp (fun h => by simp [h]) id
            · exact (R2 q h).imp (fun h => by simp [h]) id
        · rcases List.mem_append.1 h with h | h
          · exact absurd ((hH rb).1 h).1.symm hgrb
          · rcases List.mem_append.1 h with h | h
            · refine ⟨(K3 h).1, ?_⟩
              rcases (K3 h).2 with h3 | h3
              · exact Or.inr (by have := (hH g).2 ⟨rfl, by rw [← h3.1]; exact htn⟩; rw [h3.1]; simp [this])
              · exact Or.inr (by simp [h3])
            · refine ⟨(R3 h).1, ?_⟩
              rcases (R3 h).2 with h3 | h3
              · exact Or.inl ⟨h3.1, by omega⟩
              · exact Or.inr (by simp [h3])
/-- Each node's kids lie in a new block, or the node waits. -/
def DoneF (V : World) (n0 : Nat) (W : Nat → Nat → Prop) : Fo → Nat → Nat → Prop
  | .nil, _, _ => True
  | .node _ _ _ l r, b, o => ((l = .nil ∨ (n0 ≤ adB (kidsA V b o) ∧ DoneF V n0 W l (adB (kidsA V b o)) (adO (kidsA V b o)))) ∨ W b o) ∧ DoneF V n0 W r b (o + 4)
theorem DoneF.all {V : World} {n0 : Nat} {W : Nat → Nat → Prop} : ∀ (f : Fo) (b o : Nat), (∀ i, i < foLen f → W b (o + 4 * i)) → DoneF V n0 W f b o
  | .nil, _, _, _ => True.intro
  | .node _ _ _ l r, b, o, h => ⟨Or.inr (by have := h 0 (by simp [foLen]); simpa using this), DoneF.all r b (o + 4) fun i hi => by
    have := h (i + 1) (by simp [foLen]; omega)
    rw [show o + 4 + 4 * i = o + 4 * (i + 1) by omega]; exact this⟩
theorem DoneF.step {V V' : World} {n0 tb to rb n : Nat} {W W' : Nat → Nat → Prop} {X : Nat → Prop} {ka : Option Addr} {cap : Nat} (hcell : V.cell? ⟨tb, to + 3, none⟩ = some (.slice ka n cap)) (hnew : 0 < n → kidsA V' tb to = some ⟨rb, 0, none⟩) (hrn : n0 ≤ rb)
    (hoth : ∀ q j, X q → ¬ (q = tb ∧ j = to) → kidsA V' q j = kidsA V q j) (hW : ∀ q j, ¬ (q = tb ∧ j = to) → W q j → W' q j) (hWr : ∀ i, i < n → W' rb (4 * i)) :
    ∀ (f : Fo) (b o : Nat), FoAt V X f (some ⟨b, o, none⟩) → DoneF V n0 W f b o → DoneF V' n0 W' f b o
  | .nil, _, _, _, _ => True.intro
  | .node _ _ _ l r, b, o, hf, hd => by
    obtain ⟨b1, o1, ka1, cap1, e, hb, _, _, _, h3, hc1, hl, hr⟩ := hf
    cases e
    refine ⟨?_, DoneF.step hcell hnew hrn hoth hW hWr r b (o + 4) hr hd.2⟩
    by_cases ht : b = tb ∧ o = to
    · obtain ⟨rfl, rfl⟩ := ht
      rw [hcell] at h3
      cases h3
      cases l with
      | nil => exact Or.inl (Or.inl rfl)
      | node x y k l2 r2 =>
        rw [hnew (by simp [foLen])]
        exact Or.inl (Or.inr ⟨hrn, DoneF.all _ _ _ fun i hi => by rw [show adO (some ⟨rb, 0, none⟩) = 0 from rfl, Nat.zero_add]; exact hWr i hi⟩)
    · rw [hoth b o hb ht]
      rcases hd.1 with (h | ⟨h1, h2⟩) | h
      · exact Or.inl (Or.inl h)
      · rw [kidsA_of h3] at h1 h2 ⊢
        cases l with
        | nil => exact Or.inl (Or.inl rfl)
        | node x y k l2 r2 =>
          obtain ⟨g, go, e, hg⟩ := fo_blk hl (by simp)
          subst e
          exact Or.inl (Or.inr ⟨h1, DoneF.step hcell hnew hrn hoth hW hWr _ g go hl h2⟩)
      · exact Or.inr (hW b o ht h)
theorem DoneF.kept {V V' : World} {n0 : Nat} {W W' : Nat → Nat → Prop} {X : Nat → Prop} (hX : ∀ q, X q → ∀ j, kidsA V' q j = kidsA V q j) (hW : ∀ q j, W q j → W' q j) : ∀ (f : Fo) (b o : Nat), FoAt V X f (some ⟨b, o, none⟩) → DoneF V n0 W f b o → DoneF V' n0 W' f b o
  | .nil, _, _, _, _ => True.intro
  | .node _ _ _ l r, b, o, hf, hd => by
    obtain ⟨b1, o1, ka1, cap1, e, hb, _, _, _, h3, hc1, hl, hr⟩ := hf
    cases e
    refine ⟨?_, DoneF.kept hX hW r b (o + 4) hr hd.2⟩
    rw [hX b hb o]
    rcases hd.1 with (h | ⟨h1, h2⟩) | h
    · exact Or.inl (Or.inl h)
    · rw [kidsA_of h3] at h1 h2 ⊢
      cases l with
      | nil => exact Or.inl (Or.inl rfl)
      | node x y k l2 r2 =>
        obtain ⟨g, go, e, hg⟩ := fo_blk hl (by simp)
        subst e
        exact Or.inl (Or.inr ⟨h1, DoneF.kept hX hW _ g go hl h2⟩)
    · exact Or.inr (hW b o h)
/-- Where no node waits all rows are new. -/
theorem DoneF.new {V : World} {n0 : Nat} {X : Nat → Prop} : ∀ (f : Fo) (b o : Nat), FoAt V X f (some ⟨b, o, none⟩) → n0 ≤ b → DoneF V n0 (fun _ _ => False) f b o → FoAt V (fun q => X q ∧ n0 ≤ q) f (some ⟨b, o, none⟩)
  | .nil, _, _, _, _, _ => True.intro
  | .node _ _ _ l r, b, o, hf, hb0, hd => by
    obtain ⟨b1, o1, ka1, cap1, e, hb, c0, c1, c2, h3, hc1, hl, hr⟩ := hf
    cases e
    refine ⟨b, o, ka1, cap1, rfl, ⟨hb, hb0⟩, c0, c1, c2, h3, hc1, ?_, DoneF.new r b (o + 4) hr hb0 hd.2⟩
    cases l with
    | nil => exact True.intro
    | node x y k l2 r2 =>
      obtain ⟨g, go, e, hg⟩ := fo_blk hl (by simp)
      subst e
      have h := hd.1
      rw [kidsA_of h3] at h
      rcases h with (h | ⟨h1, h2⟩) | h
      · cases h
      · exact DoneF.new _ g go hl h1 h2
      · exact h.elim
/-- Where all rows are new n0 is as good as 0. -/
theorem rowsB_zero {V : World} {n0 : Nat} : ∀ {f : Fo} {b o : Nat}, FoAt V (fun q => n0 ≤ q) f (some ⟨b, o, none⟩) → rowsB V n0 f b o = rowsB V 0 f b o
  | .nil, _, _, _ => rfl
  | .node _ _ _ l r, b, o, hf => by
    obtain ⟨b1, o1, ka1, cap1, e, hb, c0, c1, c2, h3, hc1, hl, hr⟩ := hf
    cases e
    rw [rowsB, rowsB, kidsA_of h3, rowsB_zero hr]
    cases l with
    | nil => rfl
    | node x y k l2 r2 =>
      obtain ⟨g, go, e, hg⟩ := fo_blk hl (by simp)
      subst e
      rw [show adB (some ⟨g, go, none⟩) = g from rfl, show adO (some ⟨g, go, none⟩) = go from rfl, rowsB_zero hl]
      simp only [hdB]
      rw [show adB (some ⟨g, go, none⟩) = g from rfl, if_pos hg, if_pos (Nat.zero_le _)]
end Go.Proofs.Ytpbjncljecfaeaa
