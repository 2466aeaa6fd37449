/-
  What the closure of 'copied' does to a node: plain definitions and their laws. No condition.
-/
import Derived.Test.YtklpafognbodhaaClone
namespace Go.Proofs.Ytklpafognbodhaa
open Go.RowKit

/-- A node that lies at offset o of block b, and its kids. -/
structure Pn where
  b : Nat
  o : Nat
  f : Fo
def pptr (p : Pn) : Value := .pointer (some ⟨p.b, p.o, none⟩)
def FreeB (w : World) (b : Nat) : Prop := ∃ cs t, w.heap[b]? = some (.cells cs t (0, 0))
def POk (R : Nat → Prop) (w : World) (wv : Value) (B : Nat) (p : Pn) : Prop := B ≤ p.b ∧ Nn w wv p.b ∧ FreeB w p.b ∧ KidsAt w (Xn R w wv) p.b (p.o + 3) p.f
/-- The nodes that wait. -/
def WaitAt (w : World) (wb B : Nat) (wv : Value) (ps : List Pn) : Prop := w.heap[wb]? = some (.cells #[wv] 86 (0, 0)) ∧ w.ownsRow B 88 1 wv ps.length (ps.map pptr)
def FbAt (w : World) (fb wb : Nat) : Prop := w.heap[fb]? = some (.cells #[.func (.func 50) #[] #[.pointer (some ⟨wb, 0, none⟩), .pointer (some ⟨fb, 0, none⟩)]] 87 (0, 0))
def psum (ps : List Pn) : Nat := (ps.map fun p => foSize p.f + 1).sum
theorem psum_append (a b : List Pn) : psum (a ++ b) = psum a + psum b := by simp [psum]
theorem psum_length : ∀ ps : List Pn, ps.length ≤ psum ps
  | [] => Nat.le_refl _
  | p :: ps => by have := psum_length ps; simp only [psum, List.map_cons, List.sum_cons, List.length_cons] at this ⊢; omega
/-- But for wb, the row that waits and the blocks of Z nothing of old has turned. -/
structure Fr (w : World) (wv : Value) (w' : World) (wb : Nat) (Z : Nat → Prop) : Prop where
  os : w'.os = w.os
  tape : w'.tape = w.tape
  output : w'.output = w.output
  size : w.heap.size ≤ w'.heap.size
  block : ∀ x, Nn w wv x → x ≠ wb → ¬ Z x → w'.heap[x]? = w.heap[x]?
  free : ∀ x, Nn w wv x → FreeB w x → FreeB w' x
theorem Fr.refl (w : World) (wv : Value) (wb : Nat) (Z : Nat → Prop) : Fr w wv w wb Z := ⟨rfl, rfl, rfl, Nat.le_refl _, fun _ _ _ _ => rfl, fun _ _ h => h⟩
theorem Fr.trans {R : Nat → Prop} {w w1 w2 : World} {v v1 : Value} {wb : Nat} {Z Z' : Nat → Prop} (h : Fr w v w1 wb Z) (ht : TK R w v w1 v1) (h' : Fr w1 v1 w2 wb Z') (hZ : ∀ x, Z' x → Z x ∨ w.heap.size ≤ x) : Fr w v w2 wb Z :=
  ⟨h'.os.trans h.os, h'.tape.trans h.tape, h'.output.trans h.output, Nat.le_trans h.size h'.size, fun x hx hw hz => (h'.block x (ht.sub x hx) hw (fun hz' => (hZ x hz').elim hz (fun h => by have := hx.1; omega))).trans (h.block x hx hw hz), fun x hx hf => h'.free x (ht.sub x hx) (h.free x hx hf)⟩
theorem POk.keep {R : Nat → Prop} {w w' : World} {wv wv' : Value} {wb B : Nat} {Z : Nat → Prop} {p : Pn} (h : POk R w wv B p) (ht : TK R w wv w' wv') (hf : Fr w wv w' wb Z) : POk R w' wv' B p :=
  ⟨h.1, ht.sub _ h.2.1, hf.free _ h.2.1 h.2.2.1, ht.kids _ _ _ h.2.1 (by omega) h.2.2.2⟩
theorem cell_one {w : World} {b : Nat} {v : Value} {t : TypeId} {fr : Nat × Nat} (h : w.heap[b]? = some (.cells #[v] t fr)) {o : Nat} (ho : 1 ≤ o) : w.cell? ⟨b, o, none⟩ = none := by
  rw [cell_of_row w b o _ _ _ h]
  exact Array.getElem?_eq_none (by simpa using ho)
/-- A block of one cell is no node's. -/
theorem POk.ne {R : Nat → Prop} {w : World} {wv v : Value} {B b : Nat} {t : TypeId} {fr : Nat × Nat} {p : Pn} (h : POk R w wv B p) (hb : w.heap[b]? = some (.cells #[v] t fr)) : p.b ≠ b := fun e => by
  obtain ⟨_, _, _, ka, cap, hc, _⟩ := h
  rw [e, cell_one hb (by omega)] at hc
  cases hc

def OwnC (R : Nat → Prop) (B wb : Nat) (p : Pn) (ps : List Pn) (w : World) (wv : Value) (e : Ending) (w' : World) : Prop :=
  e = .returned (.tuple #[]) ∧ ∃ wv' qs, TK R w wv w' wv' ∧ Fr w wv w' wb (fun x => x = p.b) ∧ (∀ o, o ≠ p.o + 3 → w'.cell? ⟨p.b, o, none⟩ = w.cell? ⟨p.b, o, none⟩) ∧ WaitAt w' wb B wv' (ps ++ qs) ∧ (∀ q ∈ qs, POk R w' wv' B q ∧ w.heap.size ≤ q.b) ∧ psum qs ≤ foSize p.f

/-- The row of kids is cloned. -/
structure Cloned (R : Nat → Prop) (w : World) (wv : Value) (B wb fb : Nat) (p : Pn) (ps : List Pn) (rv : Value) (W2 : World) : Prop where
  tk : TK R w wv W2 wv
  fr : Fr w wv W2 wb (fun x => x = p.b)
  cell : ∀ o, o ≠ p.o + 3 → W2.cell? ⟨p.b, o, none⟩ = w.cell? ⟨p.b, o, none⟩
  kids : W2.cell? ⟨p.b, p.o + 3, none⟩ = some rv
  wait : WaitAt W2 wb B wv ps
  fb : FbAt W2 fb wb
  row : ∀ x, rv.ownBlock = some x → w.heap.size ≤ x ∧ Nn W2 wv x ∧ FreeB W2 x
  form : ∃ a c, rv = .slice a (foLen p.f) c ∧ (0 < foLen p.f → ∃ g, a = some ⟨g, 0, none⟩)
  own : ∃ xs, W2.ownsRow w.heap.size 38 4 rv (foLen p.f) xs
theorem own_start {R : Nat → Prop} {w w1 : World} {wv rv : Value} {B wb fb cap n : Nat} {p : Pn} {ps : List Pn} {ka : Option Addr} {xs : List Value} (hR : ∀ x, w.heap.size ≤ x → R x) (hp : POk R w wv B p) (hcell : w.cell? ⟨p.b, p.o + 3, none⟩ = some (.slice ka n cap)) (hn : n = foLen p.f) (hxl : xs.length = n * 4)
    (hxc : ∀ ad, ka = some ad → ∀ j u, xs[j]? = some u → w.cell? (ad.add j) = some u) (hw : WaitAt w wb B wv ps) (hfb : FbAt w fb wb) (hb1 : Below w.heap.size w w1) (hown : w1.ownsRow w.heap.size 38 4 rv n xs) :
    w1.cell? ⟨p.b, p.o + 3, none⟩ = some (.slice ka n cap) ∧ w1.frozen? ⟨p.b, p.o + 3, none⟩ = false ∧ Cloned R w wv B wb fb p ps rv (w1.setCell ⟨p.b, p.o + 3, none⟩ rv) := by
  obtain ⟨hB, hN, ⟨cs, t, hF⟩, hK⟩ := id hp
  have hpb := hN.1
  have hF1 := (hb1.block _ hpb).trans hF
  have hc1 : w1.cell? ⟨p.b, p.o + 3, none⟩ = some (.slice ka n cap) := (World.cell?_of_block (hb1.block _ hpb)).trans hcell
  have hS := heap_setCell_same w1 p.b (p.o + 3) _ _ rv hF1
  have hsz : (w1.setCell ⟨p.b, p.o + 3, none⟩ rv).heap.size = w1.heap.size := by simp [World.setCell]
  have hwvl : ∀ g, wv.ownBlock = some g → g < w.heap.size := fun g hg => (owns_bounds hw.2 hg).2
  have hnew : (w1.setCell ⟨p.b, p.o + 3, none⟩ rv).cell? ⟨p.b, p.o + 3, none⟩ = some rv := World.cell?_setCell_same' _ _ _ (by rw [hc1]; rfl)
  have hoth : ∀ b o, ¬ (b = p.b ∧ o = p.o + 3) → (w1.setCell ⟨p.b, p.o + 3, none⟩ rv).cell? ⟨b, o, none⟩ = w1.cell? ⟨b, o, none⟩ := fun b o h => World.cell?_setCell_other _ _ _ _ (fun e => h (by cases e; exact ⟨rfl, rfl⟩))
  have hblk : ∀ x, x ≠ p.b → (w1.setCell ⟨p.b, p.o + 3, none⟩ rv).heap[x]? = w1.heap[x]? := fun x hx => Below.heap_setCell _ _ _ _ hx
  have hwbp : wb ≠ p.b := fun e => hp.ne hw.1 e.symm
  have hfbp : fb ≠ p.b := fun e => hp.ne hfb e.symm
  obtain ⟨a', c', hrv⟩ := owns_slice hown
  have hrow : ∀ x, rv.ownBlock = some x → w.heap.size ≤ x ∧ Nn (w1.setCell ⟨p.b, p.o + 3, none⟩ rv) wv x ∧ FreeB (w1.setCell ⟨p.b, p.o + 3, none⟩ rv) x := fun x hx => by
    have hbd := owns_bounds hown hx
    refine ⟨hbd.1, ⟨by rw [hsz]; exact hbd.2, fun e => by have := hwvl x e; omega⟩, ?_⟩
    rcases hown.2 with ⟨hv, _⟩ | ⟨g, cap2, cur, hv, _, hh, _⟩
    · rw [hv] at hx; cases hx
    · rw [hv] at hx; cases hx
      exact ⟨cur, _, (hblk g (by omega)).trans hh⟩
  refine ⟨hc1, frozen_of_row _ _ _ _ _ hF1, ?_, ⟨hb1.os, hb1.tape, hb1.output, by rw [hsz]; exact hb1.size, fun x hx _ hz => (hblk x hz).trans (hb1.block x hx.1), fun x hx ⟨cs', t', hf⟩ => ?_⟩, fun o ho => (hoth _ _ (fun h => ho h.2)).trans (World.cell?_of_block (hb1.block _ hpb)), hnew, ⟨(hblk wb hwbp).trans ((hb1.block _ (lt_of_some hw.1)).trans hw.1), owns_kept hw.2 (fun g cur hg hgo => (hblk g (fun e => hN.2 (by rw [← e]; exact hgo))).trans (hb1.block g (lt_of_some hg)))⟩, (hblk fb hfbp).trans ((hb1.block _ (lt_of_some hfb)).trans hfb), hrow, ⟨a', c', by rw [hrv, hn], fun h0 => ?_⟩, xs, ?_⟩
  · subst hrv
    refine TK.clone (rb := ((Value.slice a' n c').ownBlock).getD 0) (by rw [hsz]; exact hb1.size) (fun b o hb hne => (hoth b o hne).trans (World.cell?_of_block (hb1.block _ hb.1))) hcell hnew (fun h0 => ?_)
    obtain ⟨g, cap2, e, _⟩ := hown.form h0
    cases e
    refine ⟨rfl, ⟨(hrow g rfl).2.1, hR g (hrow g rfl).1⟩, fun b0 off hka j v hj hv => ?_⟩
    obtain ⟨u, hu⟩ : ∃ u, xs[j]? = some u := ⟨xs[j]'(by omega), List.getElem?_eq_getElem _⟩
    have h2 := hxc _ hka j u hu
    rw [Addr.add_mid] at h2
    rw [hv] at h2
    cases h2
    have hg := (hrow g rfl).1
    exact (hoth g j (fun h => by have := h.1; omega)).trans (owns_cell hown rfl j _ hu)
  · by_cases hx2 : x = p.b
    · rw [hx2]; exact ⟨_, _, hS⟩
    · exact ⟨cs', t', (hblk x hx2).trans ((hb1.block x hx.1).trans hf)⟩
  · rw [← hn] at h0
    obtain ⟨g, cap2, e, _⟩ := hown.form h0
    rw [hrv] at e
    cases e
    exact ⟨g, rfl⟩
  · rw [← hn]
    exact owns_kept hown (fun g cur hg hgo => hblk g (fun e => by have := (hrow g hgo).1; omega))

/-- Ahead of the j-th kid. -/
def OwnInv (R : Nat → Prop) (w W2 : World) (wv : Value) (B wb : Nat) (p : Pn) (ps : List Pn) (rv : Value) (j : Nat) (wr : World) (wvr : Value) (qs : List Pn) : Prop :=
  TK R W2 wv wr wvr ∧ Fr W2 wv wr wb (fun x => rv.ownBlock = some x) ∧ WaitAt wr wb B wvr (ps ++ qs) ∧ (∀ q ∈ qs, POk R wr wvr B q ∧ w.heap.size ≤ q.b) ∧ psum qs ≤ foSize (foTake j p.f)
theorem OwnInv.start {R : Nat → Prop} {w W2 : World} {wv rv : Value} {B wb fb : Nat} {p : Pn} {ps : List Pn} (h : Cloned R w wv B wb fb p ps rv W2) : OwnInv R w W2 wv B wb p ps rv 0 W2 wv [] :=
  ⟨TK.refl _ _ _, Fr.refl _ _ _ _, by rw [List.append_nil]; exact h.wait, fun q hq => by simp at hq, by simp [psum, foTake, foSize]⟩
section
variable {w W2 wr : World} {wv wvr rv : Value} {R : Nat → Prop} {B wb fb j : Nat} {p : Pn} {ps qs : List Pn}
theorem own_facts (hp : POk R w wv B p) (hB : B ≤ w.heap.size) (hc : Cloned R w wv B wb fb p ps rv W2) (h : OwnInv R w W2 wv B wb p ps rv j wr wvr qs) :
    wr.cell? ⟨p.b, p.o + 3, none⟩ = some rv ∧ FbAt wr fb wb ∧ wr.cell? ⟨wb, 0, none⟩ = some wvr ∧ wr.frozen? ⟨wb, 0, none⟩ = false ∧ (j < foLen p.f → ∃ g c l b0 o0 key r, rv = .slice (some ⟨g, 0, none⟩) (foLen p.f) c ∧ foDrop j p.f = .node b0 o0 key l r ∧ POk R wr wvr B ⟨g, j * 4, l⟩ ∧ w.heap.size ≤ g) := by
  obtain ⟨h1, h2, h3, h4, h5⟩ := h
  have hpW := hc.tk.sub _ hp.2.1
  have hrb : ∀ x, x < w.heap.size → rv.ownBlock ≠ some x := fun x hx e => by have := (hc.row x e).1; omega
  have hpw : p.b < w.heap.size := hp.2.1.1
  have hpwb : p.b ≠ wb := by
    have hpW2 : POk R W2 wv B p := hp.keep hc.tk hc.fr
    exact hpW2.ne hc.wait.1
  refine ⟨(World.cell?_of_block (h2.block _ hpW hpwb (hrb _ hpw))).trans hc.kids, ?_, by rw [cell_of_row _ _ 0 _ _ _ h3.1]; rfl, frozen_of_row _ _ _ _ _ h3.1, fun hj => ?_⟩
  · have hfl := lt_of_some hc.fb
    have hne : fb ≠ wb := fun e => by
      have h1 := hc.fb
      have h2 := hc.wait.1
      unfold FbAt at h1
      rw [e, h2] at h1
      simp only [Option.some.injEq, Obj.cells.injEq] at h1
      exact absurd h1.2.1 (by decide)
    obtain ⟨xs, hxs⟩ := hc.own
    exact (h2.block fb ⟨hfl, owned_ne hc.wait.2 hc.fb (by decide)⟩ hne (owned_ne hxs hc.fb (by decide))).trans hc.fb
  · obtain ⟨a, c, e1, e2⟩ := hc.form
    obtain ⟨g, rfl⟩ := e2 (by omega)
    have hg := hc.row g (by rw [e1]; rfl)
    obtain ⟨ka, cap, hk1, hk2⟩ := (hp.keep hc.tk hc.fr).2.2.2
    rw [hc.kids, e1] at hk1
    cases hk1
    obtain ⟨b0, o0, key, l, r, hd, b, off, ka2, cap2, e3, hb, _, _, _, c3, hl⟩ := hk2.at j hj
    cases e3
    refine ⟨g, c, l, b0, o0, key, r, e1, hd, ⟨Nat.le_trans hB hg.1, h1.sub _ hg.2.1, h2.free _ hg.2.1 hg.2.2, h1.kids _ _ _ hg.2.1 (by simp) ⟨ka2, cap2, by rw [Nat.zero_add] at c3; exact c3, hl⟩⟩, hg.1⟩

theorem foTake_next {f l r : Fo} {b0 o0 : Nat} {key : Int × Int × ByteArray} (hj : j < foLen f) (hd : foDrop j f = .node b0 o0 key l r) : foSize (foTake (j + 1) f) = foSize (foTake j f) + foSize l + 1 := by
  obtain ⟨b, o, a, l', r', h1, _, _, h4⟩ := foDrop_node j f hj
  rw [hd] at h1
  cases h1
  rw [h4, foSize_snoc]
/-- Behind a kid whose own kids were cloned. -/
theorem own_next_kid {w' : World} {e : Ending} {g : Nat} {l r : Fo} {b0 o0 : Nat} {key : Int × Int × ByteArray} (h : OwnInv R w W2 wv B wb p ps rv j wr wvr qs) (hs : w.heap.size ≤ wr.heap.size) (hrg : rv.ownBlock = some g) (hj : j < foLen p.f) (hd : foDrop j p.f = .node b0 o0 key l r) (ho : OwnC R B wb ⟨g, j * 4, l⟩ (ps ++ qs) wr wvr e w') :
    ∃ wv' qs', OwnInv R w W2 wv B wb p ps rv (j + 1) w' wv' qs' := by
  obtain ⟨h1, h2, h3, h4, h5⟩ := h
  obtain ⟨_, wv', q', t1, t2, _, t4, t5, t6⟩ := ho
  refine ⟨wv', qs ++ q', h1.trans t1, h2.trans h1 t2 (fun x hx => Or.inl (by rw [hrg]; exact congrArg some hx.symm)), by rw [← List.append_assoc]; exact t4, fun q hq => ?_, ?_⟩
  · rcases List.mem_append.1 hq with hq | hq
    · exact ⟨(h4 q hq).1.keep t1 t2, (h4 q hq).2⟩
    · exact ⟨(t5 q hq).1, Nat.le_trans hs (t5 q hq).2⟩
  · rw [psum_append, foTake_next hj hd]
    have h6 : psum q' ≤ foSize l := t6
    omega
/-- Behind a kid that waits. -/
theorem wait_more {wr w4 : World} {wvr v2 : Value} {o : Obj} {q : Pn} {rs : List Pn} {Z : Nat → Prop} (h3 : WaitAt wr wb B wvr rs) (hown : w4.ownsRow B 88 1 v2 (rs.length + 1) (rs.map pptr ++ [pptr q])) (hgrow : (wr.alloc o).grownBy w4 wvr.ownBlock) (hat : wvr.ownBlock = v2.ownBlock ∨ v2.ownBlock = some (wr.heap.size + 1)) :
    TK R wr wvr (w4.setCell ⟨wb, 0, none⟩ v2) v2 ∧ Fr wr wvr (w4.setCell ⟨wb, 0, none⟩ v2) wb Z ∧ WaitAt (w4.setCell ⟨wb, 0, none⟩ v2) wb B v2 (rs ++ [q]) := by
  obtain ⟨a1, a2⟩ := h3
  have hwl := lt_of_some a1
  have hne : wvr.ownBlock ≠ some wb := owned_ne a2 a1 (by decide)
  have hgs := hgrow.size
  rw [World.size_alloc] at hgs
  have hblk : ∀ x, Nn wr wvr x → w4.heap[x]? = wr.heap[x]? := fun x hx => by
    rw [hgrow.block x (by rw [World.size_alloc]; have := hx.1; omega) (fun e => hx.2 e.symm), Below.heap_alloc _ _ _ hx.1]
  have hw4 := (hblk wb ⟨hwl, hne⟩).trans a1
  have hsz : (w4.setCell ⟨wb, 0, none⟩ v2).heap.size = w4.heap.size := by simp [World.setCell]
  have hset := heap_setCell_same w4 wb 0 _ _ v2 hw4
  have hoth : ∀ x, x ≠ wb → (w4.setCell ⟨wb, 0, none⟩ v2).heap[x]? = w4.heap[x]? := fun x hx => Below.heap_setCell _ _ _ _ hx
  obtain ⟨wa, wc, hwv⟩ := owns_slice a2
  have h2ne : v2.ownBlock ≠ some wb := fun e => by
    rcases hat with h | h
    · exact hne (h.trans e)
    · rw [h] at e
      simp only [Option.some.injEq] at e
      omega
  refine ⟨TK.of (fun x hx => ⟨by rw [hsz]; have := hx.1; omega, fun e => ?_⟩) (fun b o v hb hv hc => ?_) (fun b o ka n cap hb ho hc => ?_), ⟨hgrow.os, hgrow.tape, hgrow.output, by rw [hsz]; omega, fun x hx hxw _ => (hoth x hxw).trans (hblk x hx), fun x hx ⟨cs, t, hf⟩ => ?_⟩, by rw [hset]; rfl, ?_⟩
  · rcases hat with h | h
    · exact hx.2 (h.trans e)
    · rw [h] at e
      simp only [Option.some.injEq] at e
      have := hx.1; omega
  · by_cases hbw : b = wb
    · subst hbw
      rcases Nat.eq_zero_or_pos o with h0 | h0
      · subst h0
        rw [cell_of_row _ _ 0 _ _ _ a1] at hc
        simp only [List.getElem?_toArray, List.getElem?_cons_zero, Option.some.injEq] at hc
        rw [← hc, hwv] at hv
        exact hv.elim
      · rw [cell_one a1 h0] at hc; cases hc
    · exact (World.cell?_of_block ((hoth b hbw).trans (hblk b hb))).trans hc
  · by_cases hbw : b = wb
    · subst hbw
      rw [cell_one a1 (by omega)] at hc; cases hc
    · exact (World.cell?_of_block ((hoth b hbw).trans (hblk b hb))).trans hc
  · by_cases hxw : x = wb
    · rw [hxw]; exact ⟨_, _, hset⟩
    · exact ⟨cs, t, ((hoth x hxw).trans (hblk x hx)).trans hf⟩
  · rw [List.length_append, List.map_append]
    exact owns_kept hown (fun g cur hg hgo => hoth g (fun e => h2ne (by rw [← e]; exact hgo)))
theorem own_next_wait {w4 : World} {v2 : Value} {o : Obj} {g : Nat} {l r : Fo} {b0 o0 : Nat} {key : Int × Int × ByteArray} (h : OwnInv R w W2 wv B wb p ps rv j wr wvr qs) (hj : j < foLen p.f) (hd : foDrop j p.f = .node b0 o0 key l r) (hq : POk R wr wvr B ⟨g, j * 4, l⟩) (hg : w.heap.size ≤ g)
    (hown : w4.ownsRow B 88 1 v2 ((ps ++ qs).length + 1) ((ps ++ qs).map pptr ++ [pptr ⟨g, j * 4, l⟩])) (hgrow : (wr.alloc o).grownBy w4 wvr.ownBlock) (hat : wvr.ownBlock = v2.ownBlock ∨ v2.ownBlock = some (wr.heap.size + 1)) : ∃ qs', OwnInv R w W2 wv B wb p ps rv (j + 1) (w4.setCell ⟨wb, 0, none⟩ v2) v2 qs' := by
  obtain ⟨h1, h2, h3, h4, h5⟩ := h
  obtain ⟨t1, t2, t3⟩ := wait_more (Z := fun _ => False) h3 hown hgrow hat
  refine ⟨qs ++ [⟨g, j * 4, l⟩], h1.trans t1, h2.trans h1 t2 (fun x hx => hx.elim), by rw [← List.append_assoc]; exact t3, fun q hq' => ?_, ?_⟩
  · rcases List.mem_append.1 hq' with hq' | hq'
    · exact ⟨(h4 q hq').1.keep t1 t2, (h4 q hq').2⟩
    · simp only [List.mem_singleton] at hq'
      subst hq'
      exact ⟨hq.keep t1 t2, hg⟩
  · rw [psum_append, foTake_next hj hd]
    simp only [psum, List.map_cons, List.map_nil, List.sum_cons, List.sum_nil]
    simp only [psum] at h5
    omega
/-- When all kids are done. -/
theorem own_end (hp : POk R w wv B p) (hc : Cloned R w wv B wb fb p ps rv W2) (hj : foLen p.f ≤ j) (h : OwnInv R w W2 wv B wb p ps rv j wr wvr qs) : OwnC R B wb p ps w wv (.returned (.tuple #[])) wr := by
  obtain ⟨h1, h2, h3, h4, h5⟩ := h
  have hpW := hc.tk.sub _ hp.2.1
  have hpwb : p.b ≠ wb := (hp.keep hc.tk hc.fr).ne hc.wait.1
  have hrb : rv.ownBlock ≠ some p.b := fun e => by have := (hc.row _ e).1; have := hp.2.1.1; omega
  refine ⟨rfl, wvr, qs, hc.tk.trans h1, hc.fr.trans hc.tk h2 (fun x hx => Or.inr (hc.row x hx).1), fun o ho => (World.cell?_of_block (h2.block _ hpW hpwb hrb)).trans (hc.cell o ho), h3, h4, ?_⟩
  rw [foTake_all j p.f hj] at h5
  exact h5
end

end Go.Proofs.Ytklpafognbodhaa
