/-
  What 'copied' keeps while it clones: the message, as it was. No condition.
-/
import Derived.Test.YtklpafognbodhaaOwnWalk
import Derived.Test.YtklpafognbodhaaPTakeN
namespace Go.Proofs.Ytklpafognbodhaa
open Go.RowKit

theorem TK.steps {R : Nat → Prop} {w w' : World} {wv wv' : Value} {a : Option Addr} {l : List Stp} (h : TK R w wv w' wv') (hs : StepsAt w (Xn R w wv) a l) : StepsAt w' (Xn R w' wv') a l := fun h0 => by
  obtain ⟨b, off, e, hb, hc⟩ := hs h0
  refine ⟨b, off, e, ⟨h.sub b hb.1, hb.2⟩, fun k x hx => ?_⟩
  obtain ⟨ka, cap, c0, c1, c2, c3, c4, c5, c6, c7, c8, hf⟩ := hc k x hx
  obtain ⟨ka', cap', c8', hf'⟩ := h.kids b _ _ hb.1 (by omega) ⟨ka, cap, c8, hf⟩
  have p := fun (o : Nat) (v : Value) hv hc => h.plain b o v hb.1 hv hc
  exact ⟨ka', cap', p _ _ True.intro c0, p _ _ True.intro c1, p _ _ True.intro c2, p _ _ True.intro c3, p _ _ True.intro c4, p _ _ True.intro c5, p _ _ True.intro c6, p _ _ True.intro c7, c8', hf'⟩
/-- The cells of a row of steps can be read. -/
theorem steps_cells {w : World} {X : Nat → Prop} {b off : Nat} {l : List Stp} (h : ∀ k x, l[k]? = some x → ∃ ka cap, w.cell? ⟨b, off + k * 9, none⟩ = some (.int .i8 x.op) ∧ w.cell? ⟨b, off + k * 9 + 1, none⟩ = some (.int .i64 x.id) ∧ w.cell? ⟨b, off + k * 9 + 2, none⟩ = some (.int .i64 x.parent) ∧
    w.cell? ⟨b, off + k * 9 + 3, none⟩ = some (.int .i64 x.place) ∧ w.cell? ⟨b, off + k * 9 + 4, none⟩ = some (.string x.text) ∧ w.cell? ⟨b, off + k * 9 + 5, none⟩ = some (.int .i64 x.sub.id) ∧ w.cell? ⟨b, off + k * 9 + 6, none⟩ = some (.int .i64 x.sub.kind) ∧
    w.cell? ⟨b, off + k * 9 + 7, none⟩ = some (.string x.sub.text) ∧ w.cell? ⟨b, off + k * 9 + 8, none⟩ = some (.slice ka (foLen x.sub.kids) cap) ∧ FoAt w X x.sub.kids ka) :
    ∃ xs : List Value, xs.length = l.length * 9 ∧ (∀ u ∈ xs, u.oneCell' = true) ∧ ∀ j u, xs[j]? = some u → w.cell? ⟨b, off + j, none⟩ = some u := by
  have each : ∀ j, j < l.length * 9 → ∃ u, w.cell? ⟨b, off + j, none⟩ = some u ∧ u.oneCell' = true := fun j hj => by
    obtain ⟨x, hx⟩ : ∃ x, l[j / 9]? = some x := ⟨l[j / 9]'(by omega), List.getElem?_eq_getElem _⟩
    obtain ⟨ka, cap, c0, c1, c2, c3, c4, c5, c6, c7, c8, _⟩ := h _ x hx
    have e : off + j = off + j / 9 * 9 + j % 9 := by omega
    rw [e]
    have hm : j % 9 < 9 := Nat.mod_lt _ (by omega)
    generalize j % 9 = m at hm
    match m, hm with
    | 0, _ => exact ⟨_, c0, rfl⟩
    | 1, _ => exact ⟨_, c1, rfl⟩
    | 2, _ => exact ⟨_, c2, rfl⟩
    | 3, _ => exact ⟨_, c3, rfl⟩
    | 4, _ => exact ⟨_, c4, rfl⟩
    | 5, _ => exact ⟨_, c5, rfl⟩
    | 6, _ => exact ⟨_, c6, rfl⟩
    | 7, _ => exact ⟨_, c7, rfl⟩
    | 8, _ => exact ⟨_, c8, rfl⟩
  refine ⟨(List.range (l.length * 9)).map fun j => (w.cell? ⟨b, off + j, none⟩).getD undef, by simp, fun u hu => ?_, fun j u hj => ?_⟩
  · obtain ⟨j, hj, rfl⟩ := List.mem_map.1 hu
    obtain ⟨v, hv, h1⟩ := each j (by simpa using hj)
    rw [hv]; exact h1
  · have hlt := (List.getElem?_eq_some_iff.1 hj).1
    simp only [List.length_map, List.length_range] at hlt
    obtain ⟨v, hv, _⟩ := each j hlt
    rw [List.getElem?_map, List.getElem?_range hlt] at hj
    simp only [Option.map_some, Option.some.injEq] at hj
    rw [← hj, hv]; rfl
theorem steps_read {w : World} {X : Nat → Prop} {a : Option Addr} {l : List Stp} (h : StepsAt w X a l) : ∃ xs : List Value, xs.length = l.length * 9 ∧ (∀ u ∈ xs, u.oneCell' = true) ∧ (∀ ad, a = some ad → ∀ j u, xs[j]? = some u → w.cell? (ad.add j) = some u) ∧ (a = none → l.length = 0) := by
  rcases Nat.eq_zero_or_pos l.length with h0 | h0
  · exact ⟨[], by rw [h0]; rfl, fun _ h => by simp at h, fun _ _ _ _ h => by simp at h, fun _ => h0⟩
  · obtain ⟨b, off, e, hb, hc⟩ := h h0
    obtain ⟨xs, h1, h2, h3⟩ := steps_cells hc
    subst e
    refine ⟨xs, h1, h2, fun ad he j u hj => ?_, fun e => by cases e⟩
    cases he
    rw [Addr.add_mid]
    exact h3 j u hj

/-- The message in its box, in the midst of copying; its row of steps is cloned. -/
structure CI (V : Nat → Prop) (w : World) (m : Msg) (sv : Value) (wr : World) (wv : Value) (ps : List Pn) : Prop where
  below : Below w.heap.size w wr
  box : ∃ sa sc ka cap, sv = .slice sa m.steps.length sc ∧ (0 < m.steps.length → ∃ g, sa = some ⟨g, 0, none⟩) ∧ (∀ j u, (msgCells m sa sc ka cap)[j]? = some u → wr.cell? ⟨w.heap.size, j, none⟩ = some u) ∧ StepsAt wr (Xn V wr wv) sa m.steps ∧ FoAt wr (Xn V wr wv) m.tree.kids ka
  free : FreeB wr w.heap.size
  nn : Nn wr wv w.heap.size
  res : ∃ zs : Array Value, wr.heap[w.heap.size + 1]? = some (.cells zs 40 (0, 0)) ∧ zs.size = 16
  wait : WaitAt wr (w.heap.size + 1 + 1) w.heap.size wv ps
  fb : FbAt wr (w.heap.size + 1 + 1 + 1) (w.heap.size + 1 + 1)
  pend : ∀ q ∈ ps, POk V wr wv w.heap.size q ∧ w.heap.size + 4 ≤ q.b
  srow : ∀ g, sv.ownBlock = some g → w.heap.size + 4 ≤ g ∧ Nn wr wv g ∧ FreeB wr g
theorem CI.size {V : Nat → Prop} {w wr : World} {m : Msg} {sv wv : Value} {ps : List Pn} (h : CI V w m sv wr wv ps) : w.heap.size + 1 + 1 + 1 < wr.heap.size := lt_of_some h.fb

def wbOf (w : World) : Nat := w.heap.size + 1 + 1
section
variable {V : Nat → Prop} {w wr w' : World} {m : Msg} {sv wv : Value} {ps : List Pn}
theorem CI.other (h : CI V w m sv wr wv ps) : Nn wr wv (w.heap.size + 1) ∧ Nn wr wv (w.heap.size + 1 + 1 + 1) := by
  have hs := h.size
  obtain ⟨zs, hz, _⟩ := h.res
  exact ⟨⟨by omega, owned_ne h.wait.2 hz (by decide)⟩, ⟨by omega, owned_ne h.wait.2 h.fb (by decide)⟩⟩
/-- Behind a call of the closure. -/
theorem CI.next {p : Pn} {e : Ending} (h : CI V w m sv wr wv ps) (hp : w.heap.size + 4 ≤ p.b ∨ (p.b = w.heap.size ∧ p.o = 12)) (ho : OwnC V w.heap.size (w.heap.size + 1 + 1) p ps wr wv e w') :
    ∃ wv' qs, CI V w m sv w' wv' (ps ++ qs) ∧ psum qs ≤ foSize p.f := by
  obtain ⟨_, wv', qs, t1, t2, t3, t4, t5, t6⟩ := ho
  have hs := h.size
  obtain ⟨o1, o2⟩ := h.other
  have hwvB : ∀ g, wv.ownBlock = some g → w.heap.size ≤ g := fun g hg => (h.wait.2.lt g hg).1
  obtain ⟨sa, sc, ka, cap, b1, b2, b3, b4, b5⟩ := h.box
  obtain ⟨zs, hz1, hz2⟩ := h.res
  have hbl := h.below
  refine ⟨wv', qs, ⟨⟨t2.os.trans hbl.os, t2.tape.trans hbl.tape, t2.output.trans hbl.output, Nat.le_trans hbl.size t2.size, fun x hx => ?_⟩, ?_, t2.free _ h.nn h.free, t1.sub _ h.nn, ⟨zs, (t2.block _ o1 (by omega) (by rcases hp with hp | hp <;> omega)).trans hz1, hz2⟩, t4, (t2.block _ o2 (by omega) (by rcases hp with hp | hp <;> omega)).trans h.fb, fun q hq => ?_, fun g hg => ?_⟩, t6⟩
  · have hxs := hbl.size
    rw [t2.block x ⟨by omega, fun e => by have := hwvB x e; omega⟩ (by omega) (by rcases hp with hp | hp <;> omega), hbl.block x hx]
  · rcases hp with hp | hp
    · have hblk := t2.block _ h.nn (by omega) (by omega : ¬ w.heap.size = p.b)
      exact ⟨sa, sc, ka, cap, b1, b2, fun j u hj => (World.cell?_of_block hblk).trans (b3 j u hj), t1.steps b4, t1.fo b5⟩
    · obtain ⟨ka', cap', c1, c2⟩ := t1.kids w.heap.size 15 m.tree.kids h.nn (by omega) ⟨ka, cap, b3 15 _ rfl, b5⟩
      refine ⟨sa, sc, ka', cap', b1, b2, fun j u hj => ?_, t1.steps b4, c2⟩
      by_cases hj15 : j = 15
      · subst hj15
        simp only [msgCells, List.getElem?_cons_succ, List.getElem?_cons_zero, Option.some.injEq] at hj
        subst hj
        exact c1
      · have h3 := t3 j (by rw [hp.2]; exact hj15)
        rw [hp.1] at h3
        rw [h3]
        refine b3 j u ?_
        rw [← hj]
        have hlt : j < 16 := (List.getElem?_eq_some_iff.1 hj).1
        match j, hlt with
        | 0, _ => rfl
        | 1, _ => rfl
        | 2, _ => rfl
        | 3, _ => rfl
        | 4, _ => rfl
        | 5, _ => rfl
        | 6, _ => rfl
        | 7, _ => rfl
        | 8, _ => rfl
        | 9, _ => rfl
        | 10, _ => rfl
        | 11, _ => rfl
        | 12, _ => rfl
        | 13, _ => rfl
        | 14, _ => rfl
        | 15, _ => exact absurd rfl hj15
  · rcases List.mem_append.1 hq with hq | hq
    · exact ⟨(h.pend q hq).1.keep t1 t2, (h.pend q hq).2⟩
    · exact ⟨(t5 q hq).1, by have := (t5 q hq).2; omega⟩
  · obtain ⟨s1, s2, s3⟩ := h.srow g hg
    exact ⟨s1, t1.sub _ s2, t2.free _ s2 s3⟩
/-- The last one that waits is taken. -/
theorem CI.pop {q : Pn} {g n cap : Nat} (h : CI V w m sv wr (.slice (some ⟨g, 0, none⟩) (n + 1) cap) (ps ++ [q])) (hn : n = ps.length) : CI V w m sv (wr.setCell ⟨w.heap.size + 1 + 1, 0, none⟩ (.slice (some ⟨g, 0, none⟩) n cap)) (.slice (some ⟨g, 0, none⟩) n cap) ps ∧
    POk V (wr.setCell ⟨w.heap.size + 1 + 1, 0, none⟩ (.slice (some ⟨g, 0, none⟩) n cap)) (.slice (some ⟨g, 0, none⟩) n cap) w.heap.size q := by
  have hs := h.size
  obtain ⟨o1, o2⟩ := h.other
  have hw := h.wait
  have hset := heap_setCell_same wr (w.heap.size + 1 + 1) 0 _ _ (.slice (some ⟨g, 0, none⟩) n cap) hw.1
  have hsz : (wr.setCell ⟨w.heap.size + 1 + 1, 0, none⟩ (.slice (some ⟨g, 0, none⟩) n cap)).heap.size = wr.heap.size := by simp [World.setCell]
  have hoth : ∀ x, x ≠ w.heap.size + 1 + 1 → (wr.setCell ⟨w.heap.size + 1 + 1, 0, none⟩ (.slice (some ⟨g, 0, none⟩) n cap)).heap[x]? = wr.heap[x]? := fun x hx => Below.heap_setCell _ _ _ _ hx
  have hne : g ≠ w.heap.size + 1 + 1 := fun e => owned_ne hw.2 hw.1 (by decide) (by rw [e]; rfl)
  have ht : TK V wr (.slice (some ⟨g, 0, none⟩) (n + 1) cap) (wr.setCell ⟨w.heap.size + 1 + 1, 0, none⟩ (.slice (some ⟨g, 0, none⟩) n cap)) (.slice (some ⟨g, 0, none⟩) n cap) := by
    refine TK.of (fun x hx => ⟨by rw [hsz]; exact hx.1, hx.2⟩) (fun b o v hb hv hc => ?_) (fun b o ka n' cap' hb ho hc => ?_)
    · by_cases hbw : b = w.heap.size + 1 + 1
      · subst hbw
        rcases Nat.eq_zero_or_pos o with h0 | h0
        · subst h0
          rw [cell_of_row _ _ 0 _ _ _ hw.1] at hc
          simp only [List.getElem?_toArray, List.getElem?_cons_zero, Option.some.injEq] at hc
          rw [← hc] at hv
          exact hv.elim
        · rw [cell_one hw.1 h0] at hc; cases hc
      · exact (World.cell?_of_block (hoth b hbw)).trans hc
    · by_cases hbw : b = w.heap.size + 1 + 1
      · subst hbw
        rw [cell_one hw.1 (by omega)] at hc; cases hc
      · exact (World.cell?_of_block (hoth b hbw)).trans hc
  have hf : Fr wr (.slice (some ⟨g, 0, none⟩) (n + 1) cap) (wr.setCell ⟨w.heap.size + 1 + 1, 0, none⟩ (.slice (some ⟨g, 0, none⟩) n cap)) (w.heap.size + 1 + 1) (fun _ => False) :=
    ⟨rfl, rfl, rfl, by rw [hsz]; exact Nat.le_refl _, fun x _ hx _ => hoth x hx, fun x _ ⟨cs, t, hf⟩ => by
      by_cases hx : x = w.heap.size + 1 + 1
      · rw [hx]; exact ⟨_, _, hset⟩
      · exact ⟨cs, t, (hoth x hx).trans hf⟩⟩
  obtain ⟨sa, sc, ka, cap2, b1, b2, b3, b4, b5⟩ := h.box
  obtain ⟨zs, hz1, hz2⟩ := h.res
  have hbl := h.below
  refine ⟨⟨⟨hbl.os, hbl.tape, hbl.output, by rw [hsz]; exact hbl.size, fun x hx => (hoth x (by omega)).trans (hbl.block x hx)⟩, ⟨sa, sc, ka, cap2, b1, b2, fun j u hj => (World.cell?_of_block (hoth w.heap.size (by omega))).trans (b3 j u hj), ht.steps b4, ht.fo b5⟩, hf.free _ h.nn h.free, ht.sub _ h.nn, ⟨zs, (hoth _ (by omega)).trans hz1, hz2⟩, ⟨by rw [hset]; rfl, ?_⟩, (hoth _ (by omega)).trans h.fb, fun q' hq' => ⟨((h.pend q' (List.mem_append.2 (Or.inl hq'))).1).keep ht hf, (h.pend q' (List.mem_append.2 (Or.inl hq'))).2⟩, fun g' hg' => ?_⟩, ((h.pend q (List.mem_append.2 (Or.inr (by simp)))).1).keep ht hf⟩
  · rcases hw.2.2 with ⟨h', _⟩ | ⟨g', cap', cur, h', hb, hg, hnc, hcm, hcs, htake⟩
    · simp at h'
    · simp only [Value.slice.injEq, Option.some.injEq, Addr.mk.injEq, and_true] at h'
      obtain ⟨rfl, hl2, rfl⟩ := h'
      refine ⟨by rw [List.length_map]; omega, .inr ⟨g, cap, cur, by rw [hn], hb, (hoth g hne).trans hg, by simp at hnc; omega, hcm, hcs, ?_⟩⟩
      have := congrArg (List.take ps.length) htake
      rw [List.take_take, List.map_append, List.length_append] at this
      simp only [List.length_cons, List.length_nil, Nat.mul_one] at this ⊢
      rw [Nat.min_eq_left (by omega)] at this
      rw [this]
      have e : ps.length = (ps.map pptr).length := by simp
      rw [e, List.take_left]
  · obtain ⟨s1, s2, s3⟩ := h.srow g' hg'
    exact ⟨s1, ht.sub _ s2, hf.free _ s2 s3⟩
/-- The message's own tree. -/
theorem CI.root (h : CI V w m sv wr wv ps) : POk V wr wv w.heap.size ⟨w.heap.size, 12, m.tree.kids⟩ := by
  obtain ⟨sa, sc, ka, cap, b1, b2, b3, b4, b5⟩ := h.box
  exact ⟨Nat.le_refl _, h.nn, h.free, ka, cap, b3 15 _ rfl, b5⟩
/-- A step's tree. -/
theorem CI.step {k : Nat} {x : Stp} (h : CI V w m sv wr wv ps) (hx : m.steps[k]? = some x) : ∃ g sc, sv = .slice (some ⟨g, 0, none⟩) m.steps.length sc ∧ w.heap.size + 4 ≤ g ∧ POk V wr wv w.heap.size ⟨g, k * 9 + 5, x.sub.kids⟩ := by
  obtain ⟨sa, sc, ka, cap, b1, b2, b3, b4, b5⟩ := h.box
  have hlt := (List.getElem?_eq_some_iff.1 hx).1
  obtain ⟨g, rfl⟩ := b2 (by omega)
  obtain ⟨b, off, e, hb, hc⟩ := b4 (by omega)
  cases e
  obtain ⟨ka2, cap2, _, _, _, _, _, _, _, _, c8, hf⟩ := hc k x hx
  obtain ⟨s1, s2, s3⟩ := h.srow g (by rw [b1]; rfl)
  refine ⟨g, sc, b1, s1, Nat.le_trans (by omega) s1, s2, s3, ka2, cap2, ?_, hf⟩
  rw [Nat.zero_add] at c8
  exact c8
end

/-- When the row of steps has been cloned. -/
theorem CI.start {w W4 w1 : World} {S V : Nat → Prop} (hV : ∀ x, S x → V x) (hV2 : ∀ x, w.heap.size + 4 ≤ x → V x) {m : Msg} {sa ka : Option Addr} {sc cap : Nat} {sv : Value} {xs : List Value} {zs : Array Value} (hS : ∀ k, S k → k < w.heap.size) (hs : StepsAt w S sa m.steps) (ht : FoAt w S m.tree.kids ka)
    (hb4 : Below w.heap.size w W4) (hsz : W4.heap.size = w.heap.size + 4) (hM : W4.heap[w.heap.size]? = some (.cells (msgCells m sa sc ka cap).toArray 40 (0, 0))) (hZ : W4.heap[w.heap.size + 1]? = some (.cells zs 40 (0, 0))) (hzs : zs.size = 16) (hW : W4.heap[w.heap.size + 1 + 1]? = some (.cells #[.slice none 0 0] 86 (0, 0))) (hF : FbAt W4 (w.heap.size + 1 + 1 + 1) (w.heap.size + 1 + 1))
    (hxl : xs.length = m.steps.length * 9) (hxc : ∀ ad, sa = some ad → ∀ j u, xs[j]? = some u → w.cell? (ad.add j) = some u) (hb1 : Below W4.heap.size W4 w1) (hown : w1.ownsRow W4.heap.size 47 9 sv m.steps.length xs) :
    w1.cell? ⟨w.heap.size, 11, none⟩ = some (.slice sa m.steps.length sc) ∧ w1.frozen? ⟨w.heap.size, 11, none⟩ = false ∧ CI V w m sv (w1.setCell ⟨w.heap.size, 11, none⟩ sv) (.slice none 0 0) [] := by
  have hM1 := (hb1.block _ (by omega)).trans hM
  have hset := heap_setCell_same w1 w.heap.size 11 _ _ sv hM1
  have hoth : ∀ x, x ≠ w.heap.size → (w1.setCell ⟨w.heap.size, 11, none⟩ sv).heap[x]? = w1.heap[x]? := fun x hx => Below.heap_setCell _ _ _ _ hx
  have hsz1 : (w1.setCell ⟨w.heap.size, 11, none⟩ sv).heap.size = w1.heap.size := by simp [World.setCell]
  have hs1 := hb1.size
  obtain ⟨a', c', hsv⟩ := owns_slice hown
  have hxS : ∀ k, S k → Xn V (w1.setCell ⟨w.heap.size, 11, none⟩ sv) (.slice none 0 0) k ∧ (w1.setCell ⟨w.heap.size, 11, none⟩ sv).heap[k]? = w.heap[k]? := fun k hk => by
    have := hS k hk
    exact ⟨⟨⟨by rw [hsz1]; omega, fun e => by cases e⟩, hV k hk⟩, (hoth k (by omega)).trans ((hb1.block k (by omega)).trans (hb4.block k this))⟩
  have hrow : ∀ g, sv.ownBlock = some g → w.heap.size + 4 ≤ g ∧ g < w1.heap.size ∧ (w1.setCell ⟨w.heap.size, 11, none⟩ sv).heap[g]? = w1.heap[g]? := fun g hg => by
    have := owns_bounds hown hg
    exact ⟨by omega, this.2, hoth g (by omega)⟩
  refine ⟨by rw [cell_of_row _ _ 11 _ _ _ hM1]; rfl, frozen_of_row _ _ _ _ _ hM1, ⟨⟨hb1.os.trans hb4.os, hb1.tape.trans hb4.tape, hb1.output.trans hb4.output, by rw [hsz1]; omega, fun x hx => (hoth x (by omega)).trans ((hb1.block x (by omega)).trans (hb4.block x hx))⟩, ⟨a', c', ka, cap, hsv, fun h0 => ?_, fun j u hj => ?_, fun h0 => ?_, ht.kept hxS⟩, ⟨_, _, hset⟩, ⟨by rw [hsz1]; omega, fun e => by cases e⟩, ⟨zs, (hoth _ (by omega)).trans ((hb1.block _ (by omega)).trans hZ), hzs⟩, ⟨(hoth _ (by omega)).trans ((hb1.block _ (by omega)).trans hW), World.ownsRow_nil _ _ _ _⟩, (hoth _ (by omega)).trans ((hb1.block _ (by omega)).trans hF), fun q hq => by simp at hq, fun g hg => ?_⟩⟩
  · obtain ⟨g, cap2, e, _⟩ := hown.form h0
    rw [hsv] at e
    cases e
    exact ⟨g, rfl⟩
  · rw [cell_of_row _ _ j _ _ _ hset, Array.getElem?_setIfInBounds]
    by_cases hj11 : 11 = j
    · subst hj11
      simp only [msgCells, List.getElem?_cons_succ, List.getElem?_cons_zero, Option.some.injEq] at hj
      subst hj
      rw [if_pos rfl, if_pos (by rw [List.size_toArray]; show 11 < 16; omega), hsv]
    · rw [if_neg hj11]
      rw [List.getElem?_toArray]
      have hlt : j < 16 := (List.getElem?_eq_some_iff.1 hj).1
      rw [← hj]
      match j, hlt with
      | 0, _ => rfl
      | 1, _ => rfl
      | 2, _ => rfl
      | 3, _ => rfl
      | 4, _ => rfl
      | 5, _ => rfl
      | 6, _ => rfl
      | 7, _ => rfl
      | 8, _ => rfl
      | 9, _ => rfl
      | 10, _ => rfl
      | 11, _ => exact absurd rfl hj11
      | 12, _ => rfl
      | 13, _ => rfl
      | 14, _ => rfl
      | 15, _ => rfl
  · obtain ⟨g, cap2, e, _⟩ := hown.form h0
    rw [hsv] at e
    cases e
    obtain ⟨b, off, e, hb, hc⟩ := hs h0
    have hg := hrow g (by rw [hsv]; rfl)
    refine ⟨g, 0, rfl, ⟨⟨by rw [hsz1]; exact hg.2.1, fun e => by cases e⟩, hV2 g hg.1⟩, fun k x hx => ?_⟩
    obtain ⟨ka2, cap2, c0, c1, c2, c3, c4, c5, c6, c7, c8, hf⟩ := hc k x hx
    have hk := (List.getElem?_eq_some_iff.1 hx).1
    have rd : ∀ i, i < 9 → ∀ v, w.cell? ⟨b, off + k * 9 + i, none⟩ = some v → (w1.setCell ⟨w.heap.size, 11, none⟩ sv).cell? ⟨g, 0 + k * 9 + i, none⟩ = some v := fun i hi v hv => by
      obtain ⟨u, hu⟩ : ∃ u, xs[k * 9 + i]? = some u := ⟨xs[k * 9 + i]'(by omega), List.getElem?_eq_getElem _⟩
      have h2 := hxc _ e _ u hu
      rw [Addr.add_mid, ← Nat.add_assoc, hv] at h2
      cases h2
      rw [Nat.zero_add]
      exact (World.cell?_of_block hg.2.2).trans (owns_cell hown (by rw [hsv]; rfl) _ _ hu)
    exact ⟨ka2, cap2, rd 0 (by omega) _ c0, rd 1 (by omega) _ c1, rd 2 (by omega) _ c2, rd 3 (by omega) _ c3, rd 4 (by omega) _ c4, rd 5 (by omega) _ c5, rd 6 (by omega) _ c6, rd 7 (by omega) _ c7, rd 8 (by omega) _ c8, hf.kept hxS⟩
  · have hr := hrow g hg
    refine ⟨hr.1, ⟨by rw [hsz1]; exact hr.2.1, fun e => by cases e⟩, ?_⟩
    rcases hown.2 with ⟨hv, _⟩ | ⟨g', cap2, cur, hv, _, hh, _⟩
    · rw [hv] at hg; cases hg
    · rw [hv] at hg; cases hg
      exact ⟨cur, _, hr.2.2.trans hh⟩

end Go.Proofs.Ytklpafognbodhaa
