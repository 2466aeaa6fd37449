/-
  Copy: while it walks, the rows that it has laid lie apart. No condition.
-/
import Derived.Test.YtpbjncljecfaeaaNSepQf
namespace Go.Proofs.Ytpbjncljecfaeaa
open Go.RowKit Go.Shelf
set_option linter.unusedVariables false
set_option linter.unusedSimpArgs false

def segB (s : Seg) : Option Nat := match s.f with
  | .nil => none
  | .node _ _ _ _ _ => some (adB s.a)
/-- The nodes of the rows that wait. -/
def WaitA (A : List Seg) (b o : Nat) : Prop := ∃ s ∈ A, ∃ so i, s.a = some ⟨b, so, none⟩ ∧ i < foLen s.f ∧ o = so + 4 * i
structure SepI (V : World) (n0 RB : Nat) (t : Tr) (A : List Seg) : Prop where
  nodup : (RB :: rowsB V n0 (rootF t) RB 0).Nodup
  done : DoneF V n0 (WaitA A) (rootF t) RB 0
  old : ∀ s ∈ A, ∀ b off, s.a = some ⟨b, off, none⟩ → s.f ≠ .nil → rowsB V n0 s.f b off = []
  apart : (A.filterMap segB).Nodup
  free : ∀ q ∈ RB :: rowsB V n0 (rootF t) RB 0, FreeB V q
theorem SepI.empty {V : World} {n0 RB : Nat} {t : Tr} {A B : List Seg} {d c : Nat} {a : Option Addr} (h : SepI V n0 RB t (A ++ ⟨d, a, c, .nil⟩ :: B)) (hr : FoAt V (fun _ => True) (rootF t) (some ⟨RB, 0, none⟩)) : SepI V n0 RB t (A ++ B) where
  nodup := h.nodup
  done := h.done.kept (X := fun _ => True) (fun _ _ _ => rfl) (fun q j ⟨s, hs, so, i, e, hi, ho⟩ => by
    rcases List.mem_append.1 hs with h1 | h1
    · exact ⟨s, List.mem_append_left _ h1, so, i, e, hi, ho⟩
    · rcases List.mem_cons.1 h1 with rfl | h1
      · simp [foLen] at hi
      · exact ⟨s, List.mem_append_right _ h1, so, i, e, hi, ho⟩) _ _ _ hr
  old := fun s hs => h.old s (by rcases List.mem_append.1 hs with h1 | h1; exact List.mem_append_left _ h1; exact List.mem_append_right _ (List.mem_cons_of_mem _ h1))
  apart := by
    have := h.apart
    rw [List.filterMap_append, List.filterMap_cons, show segB ⟨d, a, c, .nil⟩ = none from rfl] at this
    rw [List.filterMap_append]; exact this
  free := h.free
theorem kidsA_kept {V V' : World} {q : Nat} (h : V'.heap[q]? = V.heap[q]?) (j : Nat) : kidsA V' q j = kidsA V q j := by
  rw [kidsA, kidsA, World.cell?_of_block (a := ⟨q, j + 3, none⟩) h]
theorem SepI.turn {V V' : World} {n0 RB : Nat} {t : Tr} {A : List Seg} {X : Nat → Prop} (h : SepI V n0 RB t A) (hr : FoAt V X (rootF t) (some ⟨RB, 0, none⟩)) (ha : ∀ s ∈ A, FoAt V X s.f s.a) (hX : ∀ q, X q → V'.heap[q]? = V.heap[q]?) (hRB : X RB) : SepI V' n0 RB t A := by
  have hk := rowsB_kept (n0 := n0) hr (fun q hq j => kidsA_kept (hX q hq) j)
  refine ⟨by rw [hk]; exact h.nodup, h.done.kept (fun q hq j => kidsA_kept (hX q hq) j) (fun _ _ h => h) _ _ _ hr, fun s hs b off e hne => ?_, h.apart, fun q hq => ?_⟩
  · have hf := ha s hs
    rw [e] at hf
    rw [rowsB_kept (n0 := n0) hf (fun q hq j => kidsA_kept (hX q hq) j)]
    exact h.old s hs b off e hne
  · rw [hk] at hq
    obtain ⟨cs, ty, hc⟩ := h.free q hq
    refine ⟨cs, ty, (hX q ?_).trans hc⟩
    rcases List.mem_cons.1 hq with rfl | hq
    · exact hRB
    · exact rowsB_in hr hq
theorem segB_in {X : Nat → Prop} {V : World} : ∀ {A : List Seg}, (∀ s ∈ A, FoAt V X s.f s.a) → ∀ q ∈ A.filterMap segB, X q := fun {A} ha q hq => by
  obtain ⟨s, hs, e⟩ := List.mem_filterMap.1 hq
  have hf := ha s hs
  obtain ⟨sd, sa, sc, sf⟩ := s
  cases sf with
  | nil => cases e
  | node x y k l r =>
    obtain ⟨b, o, e2, hb⟩ := fo_blk hf (by simp)
    simp only at e2
    subst e2
    cases e
    exact hb
/-- A row's cells, elsewhere. -/
theorem SepI.next {V w1 : World} {n0 RB : Nat} {t : Tr} {A : List Seg} {X : Nat → Prop} {d c bo oo b off n cap : Nat} {ad ka ra : Option Addr} {rc : Nat} {key : Int × Int × ByteArray} {k r : Fo} {xs : List Value} (h : SepI V n0 RB t (⟨d, ad, c, .node bo oo key k r⟩ :: A)) (hr : FoAt V X (rootF t) (some ⟨RB, 0, none⟩)) (ha : ∀ s ∈ (⟨d, ad, c, .node bo oo key k r⟩ :: A : List Seg), FoAt V X s.f s.a) (hXs : ∀ q, X q → q < V.heap.size) (hnb : n0 ≤ b) (hn0 : n0 ≤ V.heap.size) (hRB : X RB)
    (hn : n = foLen k) (hcell : V.cell? ⟨b, off + 3, none⟩ = some (.slice ka n cap)) (had : ad = some ⟨b, off, none⟩) (hfb : FreeB V b) (hbT : b < V.heap.size)
    (hxl : xs.length = n * 4) (hxc : ∀ ad, ka = some ad → ∀ j u, xs[j]? = some u → V.cell? (ad.add j) = some u) (hb1 : Below V.heap.size V w1) (hown : w1.ownsRow V.heap.size 25 4 (.slice ra n rc) n xs) (hc1 : w1.cell? ⟨b, off + 3, none⟩ = some (.slice ka n cap)) :
    SepI (w1.setCell ⟨b, off + 3, none⟩ (.slice ra n rc)) n0 RB t (⟨d + 1, ra, rc, k⟩ :: ⟨d, some ⟨b, off + 4, none⟩, c - 1, r⟩ :: A) := by
  subst had
  obtain ⟨V', hV'⟩ : ∃ V', V' = w1.setCell ⟨b, off + 3, none⟩ (.slice ra n rc) := ⟨_, rfl⟩
  rw [← hV']
  have hs1 := hb1.size
  have hcellE : ∀ q j, q < V.heap.size → ¬ (q = b ∧ j = off + 3) → V'.cell? ⟨q, j, none⟩ = V.cell? ⟨q, j, none⟩ := fun q j hq hne => by
    rw [hV', World.cell?_setCell_other _ _ _ _ (fun e => hne (by cases e; exact ⟨rfl, rfl⟩))]
    exact World.cell?_of_block (hb1.block q hq)
  have hoth : ∀ q j, X q → ¬ (q = b ∧ j = off) → kidsA V' q j = kidsA V q j := fun q j hq hne => by
    rw [kidsA, kidsA, hcellE q (j + 3) (hXs q hq) (fun e => hne ⟨e.1, by have := e.2; omega⟩)]
  have hlow : ∀ q, q < n0 → ∀ j, kidsA V' q j = kidsA V q j := fun q hq j => by
    rw [kidsA, kidsA, hcellE q (j + 3) (by omega) (fun e => by have := e.1; omega)]
  have hnew : kidsA V' b off = ra := kidsA_of (by rw [hV']; exact World.cell?_setCell_same' _ _ _ (by rw [hc1]; rfl))
  obtain ⟨b1, o1, ka1, cap1, e1, hbX, c0, c1, c2, c3, c4, hk, hrr⟩ := ha _ (List.mem_cons_self ..)
  cases e1
  rw [← hn, hcell] at c3
  cases c3
  have hold := h.old _ (List.mem_cons_self ..) b off rfl (by simp)
  rw [rowsB, kidsA_of hcell] at hold
  obtain ⟨o1, o2⟩ := List.append_eq_nil_iff.1 hold
  obtain ⟨o2, o3⟩ := List.append_eq_nil_iff.1 o2
  have hold2 : 0 < n → adB ka < n0 := fun h0 => by
    cases k with
    | nil => simp [foLen] at hn; omega
    | node x y k2 l2 r2 =>
      rw [hdB] at o1
      split at o1
      · simp at o1
      · omega
  obtain ⟨rb, hrb⟩ : ∃ rb, V.heap.size ≤ rb ∧ (0 < n → ra = some ⟨rb, 0, none⟩ ∧ FreeB V' rb ∧ ∀ g go, ka = some ⟨g, go, none⟩ → ∀ i, i < n → kidsA V' rb (0 + 4 * i) = kidsA V g (go + 4 * i)) := by
    by_cases h0 : 0 < n
    · obtain ⟨g, cap2, e, hg, hgl⟩ := hown.form h0
      cases e
      obtain ⟨cur, hcur⟩ := own_typed hown (g := g) rfl
      refine ⟨g, hg, fun _ => ⟨rfl, ⟨cur, _, by rw [hV', Below.heap_setCell _ _ _ _ (show g ≠ b by omega)]; exact hcur⟩, fun g2 go e2 i hi => ?_⟩⟩
      obtain ⟨u, hu⟩ : ∃ u, xs[4 * i + 3]? = some u := ⟨xs[4 * i + 3]'(by omega), List.getElem?_eq_getElem _⟩
      have h2 := hxc _ e2 _ u hu
      have hadd : (⟨g2, go, none⟩ : Addr).add (4 * i + 3) = ⟨g2, go + (4 * i + 3), none⟩ := by unfold Addr.add; split <;> simp_all
      rw [hadd] at h2
      have h3 : V'.cell? ⟨g, 0 + 4 * i + 3, none⟩ = some u := by
        rw [hV', World.cell?_setCell_other _ _ _ _ (fun e => by cases e; omega)]
        have := owns_cell hown rfl _ _ hu
        rw [Nat.zero_add]; exact this
      rw [kidsA, kidsA, h3, show go + 4 * i + 3 = go + (4 * i + 3) by omega, h2]
    · exact ⟨V.heap.size, Nat.le_refl _, fun h => absurd h h0⟩
  obtain ⟨hrs, hra⟩ := hrb
  have hz0 : ∀ l, FoAt V X l ka → foLen l = n → ∀ g go, ka = some ⟨g, go, none⟩ → rowsB V n0 l g go = [] := fun l hl hln g go e => by
    subst e
    rw [rowsB_un hl hk (by rw [hln, hn])]
    exact o2
  have hz : ∀ l, FoAt V X l ka → foLen l = n → rowsB V' n0 l rb 0 = [] := fun l hl hln => by
    cases l with
    | nil => rfl
    | node x y k2 l2 r2 =>
      obtain ⟨g, go, e, hg⟩ := fo_blk hl (by simp)
      have h0 : 0 < n := by rw [← hln]; simp [foLen]
      have h1 := hz0 _ hl hln g go e
      rw [rowsB_same _ g go rb 0 (fun i hi => (hra h0).2.2 g go e i (by omega)) (fun q hq j => by
        rw [h1] at hq
        rcases hq with hq | hq
        · simp at hq
        · exact hlow q hq j)]
      exact h1
  have hst := rowsB_step (V := V) (V' := V') (n0 := n0) (tb := b) (to := off) (rb := rb) (n := n) (X := X) hnb (fun q hq => by have := hXs q hq; omega) hcell hold2 (fun h0 => hnew.trans (hra h0).1) (by omega) hoth hlow hz hz0 (rootF t) RB 0 hr h.nodup
  have hfreeK : ∀ x, x < V.heap.size → FreeB V x → FreeB V' x := fun x hx ⟨cs', t', hc'⟩ => by
    by_cases hxb : x = b
    · subst hxb
      have hF1 := (hb1.block x hx).trans hc'
      rw [hV']
      exact ⟨_, _, heap_setCell_same w1 x (off + 3) _ _ (.slice ra n rc) hF1⟩
    · exact ⟨cs', t', by rw [hV', Below.heap_setCell _ _ _ _ hxb]; exact (hb1.block x hx).trans hc'⟩
  refine ⟨hst.1, ?_, ?_, ?_, ?_⟩
  · refine h.done.step hcell (fun h0 => hnew.trans (hra h0).1) (by omega) hoth (fun q j hne hw => ?_) (fun i hi => ⟨_, List.mem_cons_self .., 0, i, (hra (by omega)).1, by simp only; omega, by omega⟩) _ _ _ hr
    obtain ⟨s, hs, so, i, e, hi, ho⟩ := hw
    rcases List.mem_cons.1 hs with rfl | hs
    · simp only at e hi
      cases e
      cases i with
      | zero => exact absurd ⟨rfl, by omega⟩ hne
      | succ i => exact ⟨_, List.mem_cons_of_mem _ (List.mem_cons_self ..), off + 4, i, rfl, by simp [foLen] at hi; simp only; omega, by omega⟩
    · exact ⟨s, List.mem_cons_of_mem _ (List.mem_cons_of_mem _ hs), so, i, e, hi, ho⟩
  · intro s hs b2 off2 e hne
    rcases List.mem_cons.1 hs with rfl | hs
    · simp only at e hne ⊢
      have h0 : 0 < n := by rw [hn]; exact fo_len_pos hne
      rw [(hra h0).1] at e
      cases e
      exact hz k hk hn.symm
    · rcases List.mem_cons.1 hs with rfl | hs
      · simp only at e hne ⊢
        cases e
        rw [rowsB_same r b (off + 4) b (off + 4) (fun i _ => hoth b _ hbX (fun h => by have := h.2; omega)) (fun q hq j => by
          rw [o3] at hq
          rcases hq with hq | hq
          · simp at hq
          · exact hlow q hq j)]
        exact o3
      · have h1 := h.old s (List.mem_cons_of_mem _ hs) b2 off2 e hne
        have hfs := ha s (List.mem_cons_of_mem _ hs)
        have hb2 : b2 ≠ b := fun eb => by
          have hd := h.apart
          rw [List.filterMap_cons, show segB ⟨d, some ⟨b, off, none⟩, c, .node bo oo key k r⟩ = some b from rfl] at hd
          refine (List.nodup_cons.1 hd).1 (List.mem_filterMap.2 ⟨s, hs, ?_⟩)
          obtain ⟨sd, sa, sc, sf⟩ := s
          simp only at e hne
          subst e eb
          cases sf with
          | nil => exact absurd rfl hne
          | node x y k2 l2 r2 => rfl
        have hX2 : X b2 := by
          obtain ⟨b3, o3, e3, h3⟩ := fo_blk hfs hne
          rw [e] at e3; cases e3; exact h3
        rw [rowsB_same s.f b2 off2 b2 off2 (fun i _ => hoth b2 _ hX2 (fun h => hb2 h.1)) (fun q hq j => by
          rw [h1] at hq
          rcases hq with hq | hq
          · simp at hq
          · exact hlow q hq j)]
        exact h1
  · have hd := h.apart
    rw [List.filterMap_cons, show segB ⟨d, some ⟨b, off, none⟩, c, .node bo oo key k r⟩ = some b from rfl] at hd
    obtain ⟨d1, d2⟩ := List.nodup_cons.1 hd
    have hin := segB_in (A := A) (X := X) (V := V) (fun s hs => ha s (List.mem_cons_of_mem _ hs))
    have hR : (List.filterMap segB (⟨d, some ⟨b, off + 4, none⟩, c - 1, r⟩ :: A)).Nodup ∧ ∀ q ∈ List.filterMap segB (⟨d, some ⟨b, off + 4, none⟩, c - 1, r⟩ :: A), q < V.heap.size := by
      rw [List.filterMap_cons]
      cases r with
      | nil => exact ⟨d2, fun q hq => hXs q (hin q hq)⟩
      | node x y k2 l2 r2 =>
        rw [show segB ⟨d, some ⟨b, off + 4, none⟩, c - 1, .node x y k2 l2 r2⟩ = some b from rfl]
        exact ⟨List.nodup_cons.2 ⟨d1, d2⟩, fun q hq => by
          rcases List.mem_cons.1 hq with rfl | hq
          · exact hbT
          · exact hXs q (hin q hq)⟩
    rw [List.filterMap_cons]
    cases k with
    | nil => exact hR.1
    | node x y k2 l2 r2 =>
      have h0 : 0 < n := by rw [hn]; simp [foLen]
      rw [show segB ⟨d + 1, ra, rc, .node x y k2 l2 r2⟩ = some rb from by rw [(hra h0).1]; rfl]
      exact List.nodup_cons.2 ⟨fun hq => by have := hR.2 _ hq; omega, hR.1⟩
  · intro q hq
    rcases List.mem_cons.1 hq with rfl | hq
    · exact hfreeK _ (hXs _ hRB) (h.free _ (List.mem_cons_self ..))
    · rcases hst.2.1 q hq with h1 | rfl
      · exact hfreeK _ (hXs _ (rowsB_in hr h1)) (h.free _ (List.mem_cons_of_mem _ h1))
      · exact (hra (hst.2.2 hq).1).2.1
end Go.Proofs.Ytpbjncljecfaeaa
