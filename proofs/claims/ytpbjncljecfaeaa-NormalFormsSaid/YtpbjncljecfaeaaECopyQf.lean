/-
  Copy: the same tree, its rows of kids laid anew. No condition but that there are not too many nodes.
-/
import Derived.Test.YtpbjncljecfaeaaECloneQf
import Derived.Test.YtpbjncljecfaeaaHPureQf
namespace Go.Proofs.Ytpbjncljecfaeaa
open Go.RowKit Go.Shelf
attribute [local go_sem] Oper.semAt_some
set_option linter.unusedVariables false

/-- A block of cells. -/
def CellsB (w : World) (b : Nat) : Prop := ∃ cs t fr, w.heap[b]? = some (.cells cs t fr)
theorem CellsB.lt {w : World} {b : Nat} (h : CellsB w b) : b < w.heap.size := by obtain ⟨_, _, _, h⟩ := h; exact lt_of_heap h
theorem cellsB {w : World} {b o : Nat} {v : Value} (h : w.cell? ⟨b, o, none⟩ = some v) : CellsB w b := by
  unfold World.cell? at h
  split at h
  · rename_i cs t fr hh; exact ⟨_, _, _, hh⟩
  · cases h
def XT (T : Nat → Prop) (V : World) : Nat → Prop := fun x => CellsB V x ∧ ¬ T x
/-- A row of kids is laid anew: all trees are as they were. -/
theorem fo_clone {w w' : World} {X X' : Nat → Prop} {cb co n cap cap' rb : Nat} {ka ka' : Option Addr} (hX : ∀ x, X x → X' x) (hsame : ∀ b o, X b → ¬ (b = cb ∧ o = co) → w'.cell? ⟨b, o, none⟩ = w.cell? ⟨b, o, none⟩)
    (hold : w.cell? ⟨cb, co, none⟩ = some (.slice ka n cap)) (hnew : w'.cell? ⟨cb, co, none⟩ = some (.slice ka' n cap')) (hcap : n ≤ cap')
    (hrow : 0 < n → ka' = some ⟨rb, 0, none⟩ ∧ X' rb ∧ ∀ b0 off, ka = some ⟨b0, off, none⟩ → ∀ j v, j < n * 4 → w.cell? ⟨b0, off + j, none⟩ = some v → w'.cell? ⟨rb, j, none⟩ = some v) :
    ∀ (f : Fo), (∀ a, FoAt w X f a → FoAt w' X' f a) ∧ (∀ b0 off rb' o', FoAt w X f (some ⟨b0, off, none⟩) → X' rb' → (∀ j v, j < foLen f * 4 → w.cell? ⟨b0, off + j, none⟩ = some v → w'.cell? ⟨rb', o' + j, none⟩ = some v) → FoAt w' X' f (some ⟨rb', o', none⟩)) := by
  have hp : ∀ b o v, X b → (∀ a n c, v ≠ .slice a n c) → w.cell? ⟨b, o, none⟩ = some v → w'.cell? ⟨b, o, none⟩ = some v := fun b o v hb hv hc => by
    rw [hsame b o hb (fun ⟨e1, e2⟩ => by subst e1; subst e2; rw [hold] at hc; cases hc; exact hv _ _ _ rfl)]; exact hc
  intro f
  induction f with
  | nil => exact ⟨fun _ _ => True.intro, fun _ _ _ _ _ _ _ => True.intro⟩
  | node _ _ k l r ihl ihr =>
    have kid : ∀ b off ka1 cap1, X b → w.cell? ⟨b, off + 3, none⟩ = some (.slice ka1 (foLen l) cap1) → foLen l ≤ cap1 → FoAt w X l ka1 → ∃ ka2 cap2, w'.cell? ⟨b, off + 3, none⟩ = some (.slice ka2 (foLen l) cap2) ∧ foLen l ≤ cap2 ∧ FoAt w' X' l ka2 := fun b off ka1 cap1 hb h3 hc3 hl => by
      by_cases hc : b = cb ∧ off + 3 = co
      · obtain ⟨rfl, rfl⟩ := hc
        rw [hold] at h3
        cases h3
        refine ⟨ka', cap', hnew, hcap, ?_⟩
        cases l with
        | nil => exact True.intro
        | node b1 o1 k1 l1 r1 =>
          obtain ⟨g1, g2, g3⟩ := hrow (by simp [foLen])
          obtain ⟨b2, off2, _, _, e, _⟩ := id hl
          subst e
          rw [g1]
          exact ihl.2 b2 off2 rb 0 hl g2 (fun j v hj hv => by rw [Nat.zero_add]; exact g3 b2 off2 rfl j v hj hv)
      · exact ⟨ka1, cap1, (hsame b _ hb hc).trans h3, hc3, ihl.1 _ hl⟩
    refine ⟨fun a hf => ?_, fun b0 off rb' o' hf hrb hcp => ?_⟩
    · obtain ⟨b, off, ka1, cap1, e, hb, h0, h1, h2, h3, hc3, hl, hr⟩ := hf
      obtain ⟨ka2, cap2, h3', hc3', hl'⟩ := kid b off ka1 cap1 hb h3 hc3 hl
      exact ⟨b, off, ka2, cap2, e, hX b hb, hp _ _ _ hb (fun _ _ _ h => by cases h) h0, hp _ _ _ hb (fun _ _ _ h => by cases h) h1, hp _ _ _ hb (fun _ _ _ h => by cases h) h2, h3', hc3', hl', ihr.1 _ hr⟩
    · obtain ⟨b, off', ka1, cap1, e, hb, h0, h1, h2, h3, hc3, hl, hr⟩ := hf
      cases e
      simp only [foLen] at hcp
      refine ⟨rb', o', ka1, cap1, rfl, hrb, hcp 0 _ (by omega) h0, hcp 1 _ (by omega) h1, hcp 2 _ (by omega) h2, hcp 3 _ (by omega) h3, hc3, ihl.1 _ hl, ihr.2 _ _ rb' (o' + 4) hr hrb (fun j v hj hv => ?_)⟩
      have := hcp (4 + j) v (by omega) (by rw [← Nat.add_assoc]; exact hv)
      rw [← Nat.add_assoc] at this; exact this
/-- The cells of a row of nodes can be read. -/
theorem fo_cells {w : World} {X : Nat → Prop} : ∀ {f : Fo} {b off : Nat}, FoAt w X f (some ⟨b, off, none⟩) → ∃ xs : List Value, xs.length = foLen f * 4 ∧ (∀ u ∈ xs, u.oneCell' = true) ∧ ∀ j u, xs[j]? = some u → w.cell? ⟨b, off + j, none⟩ = some u
  | .nil, _, _, _ => ⟨[], rfl, fun _ h => by simp at h, fun _ _ h => by simp at h⟩
  | .node _ _ k l r, b, off, h => by
    obtain ⟨b1, off1, ka, cap, e, hb, h0, h1, h2, h3, _, hl, hr⟩ := h
    cases e
    obtain ⟨xs, x1, x2, x3⟩ := fo_cells hr
    refine ⟨[.int .i64 k.1, .int .i64 k.2.1, .string k.2.2, .slice ka (foLen l) cap] ++ xs, by simp [foLen, x1]; omega, fun u hu => ?_, fun j u hj => ?_⟩
    · rcases List.mem_append.1 hu with hu | hu
      · simp only [List.mem_cons, List.not_mem_nil, or_false] at hu
        rcases hu with rfl | rfl | rfl | rfl <;> rfl
      · exact x2 u hu
    · match j, hj with
      | 0, hj => simp only [List.cons_append, List.getElem?_cons_zero, Option.some.injEq] at hj; subst hj; exact h0
      | 1, hj => simp only [List.cons_append, List.getElem?_cons_succ, List.getElem?_cons_zero, Option.some.injEq] at hj; subst hj; exact h1
      | 2, hj => simp only [List.cons_append, List.getElem?_cons_succ, List.getElem?_cons_zero, Option.some.injEq] at hj; subst hj; exact h2
      | 3, hj => simp only [List.cons_append, List.getElem?_cons_succ, List.getElem?_cons_zero, Option.some.injEq] at hj; subst hj; exact h3
      | j + 4, hj =>
        have := x3 j u (by simpa using hj)
        rw [show off + (j + 4) = off + 4 + j by omega]; exact this
theorem fo_read {w : World} {X : Nat → Prop} {f : Fo} {ka : Option Addr} (h : FoAt w X f ka) : ∃ xs : List Value, xs.length = foLen f * 4 ∧ (∀ u ∈ xs, u.oneCell' = true) ∧ (∀ ad, ka = some ad → ∀ j u, xs[j]? = some u → w.cell? (ad.add j) = some u) ∧ (ka = none → foLen f = 0) := by
  cases f with
  | nil => exact ⟨[], rfl, fun _ h => by simp at h, fun _ _ _ _ h => by simp at h, fun _ => rfl⟩
  | node b0 o0 k l r =>
    obtain ⟨b, off, _, _, e, _⟩ := id h
    subst e
    obtain ⟨xs, h1, h2, h3⟩ := fo_cells h
    refine ⟨xs, h1, h2, fun ad he j u hj => ?_, fun e => by cases e⟩
    cases he
    have hadd : (⟨b, off, none⟩ : Addr).add j = ⟨b, off + j, none⟩ := by unfold Addr.add; split <;> simp_all
    rw [hadd]
    exact h3 j u hj

/-- A row that waits lies in memory that may be written. -/
def FreeB (w : World) (b : Nat) : Prop := ∃ cs t, w.heap[b]? = some (.cells cs t (0, 0))
/-- T, and blocks more. -/
def ex (T EB : Nat → Prop) : Nat → Prop := fun x => T x ∨ EB x
def RowOk (n0 : Nat) (EB T : Nat → Prop) (V : World) (s : Seg) : Prop := FoAt V (XT (ex T EB) V) s.f s.a ∧ (s.f ≠ .nil → ∃ b off, s.a = some ⟨b, off, none⟩ ∧ n0 ≤ b ∧ FreeB V b)
structure CopyI (w : World) (B RB : Nat) (EB : Nat → Prop) (t : Tr) (T : Nat → Prop) (A : List Seg) (V : World) : Prop where
  below : Below w.heap.size w V
  hT : ∀ x, T x → B ≤ x
  big : B ≤ V.heap.size
  exl : ∀ x, EB x → x < B
  root : FoAt V (XT (ex T EB) V) (rootF t) (some ⟨RB, 0, none⟩)
  rows : ∀ s ∈ A, RowOk w.heap.size EB T V s
section
variable {w : World} {B RB : Nat} {EB : Nat → Prop} {t : Tr} {T T' : Nat → Prop} {A : List Seg} {V V' : World}
theorem xt_turn (ht : Touched V V' (fun x => T x ∨ (B ≤ x ∧ NonCells V x))) (hw : Wider T T' V V') (x : Nat) (hx : XT T V x) : XT T' V' x ∧ V'.heap[x]? = V.heap[x]? := by
  obtain ⟨⟨cs, ty, fr, hc⟩, hn⟩ := hx
  have hs := lt_of_heap hc
  have he := ht.block x hs (fun h => by
    rcases h with h | ⟨_, o, ho, hoc⟩
    · exact hn h
    · rw [hc] at ho; cases ho; cases hoc)
  exact ⟨⟨⟨cs, ty, fr, he.trans hc⟩, fun h => (hw x h).elim hn (fun h => by omega)⟩, he⟩
theorem xt_turn2 (ht : Touched V V' (fun x => T x ∨ (B ≤ x ∧ NonCells V x))) (hw : Wider T T' V V') (x : Nat) (hx : XT (ex T EB) V x) : XT (ex T' EB) V' x ∧ V'.heap[x]? = V.heap[x]? :=
  xt_turn (T := ex T EB) (T' := ex T' EB) (ht.mono (fun y hy => hy.imp (fun h => Or.inl h) id)) (fun y hy => hy.elim (fun h => (hw y h).imp (fun h => Or.inl h) id) (fun h => Or.inl (Or.inr h))) x hx
theorem CopyI.turn (hB : w.heap.size ≤ B) (h : CopyI w B RB EB t T A V) (ht : Touched V V' (fun x => T x ∨ (B ≤ x ∧ NonCells V x))) (hw : Wider T T' V V') : CopyI w B RB EB t T' A V' where
  below := ⟨ht.os.trans h.below.os, ht.tape.trans h.below.tape, ht.output.trans h.below.output, Nat.le_trans h.below.size ht.size, fun x hx => (ht.block x (by have := h.big; omega) (fun hh => by
    rcases hh with hh | hh
    · have := h.hT x hh; omega
    · omega)).trans (h.below.block x hx)⟩
  hT := fun x hx => (hw x hx).elim (h.hT x) (fun hh => by have := h.big; omega)
  big := Nat.le_trans h.big ht.size
  exl := h.exl
  root := h.root.kept (xt_turn2 ht hw)
  rows := fun s hs => ⟨(h.rows s hs).1.kept (xt_turn2 ht hw), fun hne => by
    obtain ⟨b, off, e, hb, cs, ty, hc⟩ := (h.rows s hs).2 hne
    have hf := (h.rows s hs).1
    have hx : XT (ex T EB) V b := by
      obtain ⟨sd, sa, sc, sf⟩ := s
      simp only at e hne hf
      cases sf with
      | nil => exact absurd rfl hne
      | node _ _ k l r =>
        obtain ⟨b1, off1, _, _, e1, hb1, _⟩ := hf
        rw [e] at e1; cases e1; exact hb1
    exact ⟨b, off, e, hb, cs, ty, (xt_turn2 ht hw b hx).2.trans hc⟩⟩
/-- Behind a round: the node's row of kids is laid anew. -/
theorem CopyI.next {d c bo oo b off n cap : Nat} {ad ka : Option Addr} {key : Int × Int × ByteArray} {k r : Fo} {xs : List Value} {w1 : World} {rv : Value} (hB : w.heap.size ≤ B) (hTs : ∀ x, T x → x < V.heap.size) (h : CopyI w B RB EB t T (⟨d, ad, c, .node bo oo key k r⟩ :: A) V) (hn : n = foLen k) (hcell : V.cell? ⟨b, off + 3, none⟩ = some (.slice ka n cap)) (had : ad = some ⟨b, off, none⟩)
    (hxl : xs.length = n * 4) (hxc : ∀ ad, ka = some ad → ∀ j u, xs[j]? = some u → V.cell? (ad.add j) = some u) (hb1 : Below V.heap.size V w1) (hown : w1.ownsRow V.heap.size 25 4 rv n xs) :
    ∃ ra rc, rv = .slice ra n rc ∧ n ≤ rc ∧ w1.cell? ⟨b, off + 3, none⟩ = some (.slice ka n cap) ∧ w1.frozen? ⟨b, off + 3, none⟩ = false ∧ (w1.setCell ⟨b, off + 3, none⟩ (.slice ra n rc)).cell? ⟨b, off + 3, none⟩ = some (.slice ra n rc) ∧
      CopyI w B RB EB t T (⟨d + 1, ra, rc, k⟩ :: ⟨d, some ⟨b, off + 4, none⟩, c - 1, r⟩ :: A) (w1.setCell ⟨b, off + 3, none⟩ (.slice ra n rc)) ∧ Kept T V (w1.setCell ⟨b, off + 3, none⟩ (.slice ra n rc)) ∧ KeepsFrom B V (w1.setCell ⟨b, off + 3, none⟩ (.slice ra n rc)) := by
  subst had
  obtain ⟨hf, hfree⟩ := h.rows _ (List.mem_cons_self ..)
  simp only at hf hfree
  obtain ⟨b1, off1, e1, hb0, cs, ty, hF⟩ := hfree (by simp)
  cases e1
  have hf0 := hf
  obtain ⟨b1, off1, ka1, cap1, e1, hbX, c0, c1, c2, c3, c4, hk, hr⟩ := hf
  cases e1
  rw [← hn, hcell] at c3
  cases c3
  have hbT : ¬ T b := fun hh => hbX.2 (Or.inl hh)
  have hpb := lt_of_heap hF
  have hF1 := (hb1.block _ hpb).trans hF
  obtain ⟨ra, rc, hrv⟩ := owns_slice hown
  subst hrv
  have hrc : n ≤ rc := by
    rcases hown.2 with ⟨hv, h0⟩ | ⟨_, _, _, hv, _, _, h3, _⟩
    · omega
    · cases hv; exact h3
  have hc1 : w1.cell? ⟨b, off + 3, none⟩ = some (.slice ka n cap) := (World.cell?_of_block (hb1.block _ hpb)).trans hcell
  have hS := heap_setCell_same w1 b (off + 3) _ _ (.slice ra n rc) hF1
  have hsz : (w1.setCell ⟨b, off + 3, none⟩ (.slice ra n rc)).heap.size = w1.heap.size := by simp [World.setCell]
  have hs1 := hb1.size
  have hnew : (w1.setCell ⟨b, off + 3, none⟩ (.slice ra n rc)).cell? ⟨b, off + 3, none⟩ = some (.slice ra n rc) := World.cell?_setCell_same' _ _ _ (by rw [hc1]; rfl)
  have hoth : ∀ b' o, ¬ (b' = b ∧ o = off + 3) → (w1.setCell ⟨b, off + 3, none⟩ (.slice ra n rc)).cell? ⟨b', o, none⟩ = w1.cell? ⟨b', o, none⟩ := fun b' o h => World.cell?_setCell_other _ _ _ _ (fun e => h (by cases e; exact ⟨rfl, rfl⟩))
  have hblk : ∀ x, x ≠ b → (w1.setCell ⟨b, off + 3, none⟩ (.slice ra n rc)).heap[x]? = w1.heap[x]? := fun x hx => Below.heap_setCell _ _ _ _ hx
  have hX : ∀ x, XT (ex T EB) V x → XT (ex T EB) (w1.setCell ⟨b, off + 3, none⟩ (.slice ra n rc)) x := fun x hx => by
    refine ⟨?_, hx.2⟩
    by_cases hxb : x = b
    · rw [hxb]; exact ⟨_, _, _, hS⟩
    · obtain ⟨cs', t', fr', hc'⟩ := hx.1
      exact ⟨cs', t', fr', (hblk x hxb).trans ((hb1.block x (lt_of_heap hc')).trans hc')⟩
  have hfo := fo_clone (w := V) (w' := w1.setCell ⟨b, off + 3, none⟩ (.slice ra n rc)) (cb := b) (co := off + 3) (rb := ((Value.slice ra n rc).ownBlock).getD 0) hX (fun b' o hb' hne => (hoth b' o hne).trans (World.cell?_of_block (hb1.block _ hb'.1.lt))) hcell hnew hrc (fun h0 => by
    obtain ⟨g, cap2, e, hg, hgl⟩ := hown.form h0
    cases e
    have hgr : w1.heap[g]? ≠ none := by rw [Array.getElem?_eq_getElem hgl]; simp
    obtain ⟨cur, hcur⟩ := own_typed hown (g := g) rfl
    refine ⟨rfl, ⟨⟨cur, _, _, (hblk g (by omega)).trans hcur⟩, fun hh => by
      have h1 := h.exl
      have h2 := h.big
      have hh' : T g ∨ EB g := hh
      rcases hh' with hh | hh
      · have := hTs g hh; omega
      · have := h1 g hh; omega⟩, fun b0 off0 hka j v hj hv => ?_⟩
    obtain ⟨u, hu⟩ : ∃ u, xs[j]? = some u := ⟨xs[j]'(by omega), List.getElem?_eq_getElem _⟩
    have h2 := hxc _ hka j u hu
    have hadd : (⟨b0, off0, none⟩ : Addr).add j = ⟨b0, off0 + j, none⟩ := by unfold Addr.add; split <;> simp_all
    rw [hadd, hv] at h2
    cases h2
    exact (hoth g j (fun h => by have := h.1; omega)).trans (owns_cell hown rfl j _ hu))
  have hfreeK : ∀ x, FreeB V x → FreeB (w1.setCell ⟨b, off + 3, none⟩ (.slice ra n rc)) x := fun x ⟨cs', t', hc'⟩ => by
    by_cases hxb : x = b
    · rw [hxb]; exact ⟨_, _, hS⟩
    · exact ⟨cs', t', (hblk x hxb).trans ((hb1.block x (lt_of_heap hc')).trans hc')⟩
  refine ⟨ra, rc, rfl, hrc, hc1, frozen_of_row _ _ _ _ _ hF1, hnew, ⟨?_, h.hT, by rw [hsz]; have := h.big; omega, h.exl, (hfo _).1 _ h.root, fun s hs => ?_⟩, ⟨by rw [hsz]; exact hs1, fun x hx => ?_⟩, ⟨by rw [hsz]; exact hs1, fun x o hx ho hno => ?_⟩⟩
  · exact (h.below.trans (hb1.mono h.below.size)).setCell (p := ⟨b, off + 3, none⟩) hb0 _
  · rcases List.mem_cons.1 hs with rfl | hs
    · simp only [RowOk]
      have hkk := (hfo (.node bo oo key k .nil)).1 (some ⟨b, off, none⟩) ⟨b, off, ka, cap, rfl, hbX, c0, c1, c2, by rw [← hn]; exact hcell, c4, hk, True.intro⟩
      obtain ⟨b2, off2, ka2, cap2, e2, _, _, _, _, q3, q4, q5, _⟩ := hkk
      cases e2
      rw [hnew] at q3
      cases q3
      refine ⟨q5, fun hne => ?_⟩
      obtain ⟨g, cap3, e3, hg, hgl⟩ := hown.form (by rw [hn]; exact fo_len_pos hne)
      cases e3
      obtain ⟨cur, hcur⟩ := own_typed hown (g := g) rfl
      exact ⟨g, 0, rfl, by have := h.below.size; omega, cur, _, (hblk g (by omega)).trans hcur⟩
    · rcases List.mem_cons.1 hs with rfl | hs
      · simp only [RowOk]
        exact ⟨(hfo r).1 _ hr, fun _ => ⟨b, off + 4, rfl, hb0, hfreeK b ⟨cs, ty, hF⟩⟩⟩
      · have h9 := h.rows s (List.mem_cons_of_mem _ hs)
        exact ⟨(hfo s.f).1 _ h9.1, fun hne => by
          obtain ⟨b', off', e', hb', hfr'⟩ := h9.2 hne
          exact ⟨b', off', e', hb', hfreeK b' hfr'⟩⟩
  · rw [hblk x (fun e => hbT (e ▸ hx))]; exact hb1.block x (hTs x hx)
  · have hxl2 := lt_of_heap ho
    rw [hblk x (fun e => by rw [e, hF] at ho; cases ho; cases hno), hb1.block x hxl2]; exact ho
end
end Go.Proofs.Ytpbjncljecfaeaa
