/-
  Put: a tree with another one in the place of a node. No condition but that there are not too many nodes.
-/
import Derived.Deep.RegionHeld
import Derived.Test.YtjppibomjnmjpaaHPutP
namespace Go.Proofs.Ytjppibomjnmjpaa
open Go.RowKit Go.Shelf
set_option linter.unusedVariables false
set_option linter.unusedSimpArgs false

/-- Nothing of what was there turned, but four cells. -/
def Agree (X X' : World) (b off : Nat) : Prop := (∀ y, y < X.heap.size → y ≠ b → X'.heap[y]? = X.heap[y]?) ∧ ∀ j, (j < off ∨ off + 4 ≤ j) → X'.cell? ⟨b, j, none⟩ = X.cell? ⟨b, j, none⟩
/-- What the whole tree is worth, if another node lies there. -/
def Ctx (B tb : Nat) (S : Nat → Prop) (t : Tr) (X : World) (p : List Nat) (b off : Nat) : Prop := ∀ (X' : World) (S' : Nat → Prop) (u' : Tr), Agree X X' b off → (∀ y, S y → S' y) → (∀ y, (y = tb ∨ B ≤ y) → S' y) → NodeAt X' S' u' b off → NodeAt X' S' (putP t p u') tb 0
structure PutH (W : World) (tb : Nat) (X : World) : Prop where
  os : X.os = W.os
  tape : X.tape = W.tape
  output : X.output = W.output
  size : W.heap.size + 2 ≤ X.heap.size
  kept : ∀ y, y < W.heap.size → y ≠ tb → X.heap[y]? = W.heap[y]?
structure PutN (W : World) (tb : Nat) (S : Nat → Prop) (t : Tr) (q : List Int) (X : World) (p : List Nat) (u : Tr) (b off : Nat) : Prop where
  path : q = natI p
  at_ : atT t p = some u
  c0 : X.cell? ⟨b, off, none⟩ = some (.int .i64 u.id)
  c1 : X.cell? ⟨b, off + 1, none⟩ = some (.int .i64 u.kind)
  c2 : X.cell? ⟨b, off + 2, none⟩ = some (.string u.text)
  c3 : ∃ ka kc, X.cell? ⟨b, off + 3, none⟩ = some (.slice ka (foLen u.kids) kc) ∧ foLen u.kids ≤ kc ∧ FoAt X S u.kids ka ∧ (ka = none → foLen u.kids = 0)
  fz : ∀ j, X.frozen? ⟨b, j, none⟩ = false
  bl : b = tb ∨ W.heap.size + 2 ≤ b
  lt : b < X.heap.size
  ctx : Ctx (W.heap.size + 2) tb S t X p b off
def PutJ (W : World) (tb : Nat) (S : Nat → Prop) (t : Tr) (q : List Int) (a : Option Addr) (X : World) : Prop := PutH W tb X ∧ ((a = none ∧ atI t q = none) ∨ ∃ p u b off, a = some ⟨b, off, none⟩ ∧ PutN W tb S t q X p u b off)
theorem PutH.turn {W : World} {tb : Nat} {X X' : World} (h : PutH W tb X) (hb : Below X.heap.size X X') : PutH W tb X' :=
  ⟨hb.os.trans h.os, hb.tape.trans h.tape, hb.output.trans h.output, Nat.le_trans h.size hb.size, fun y hy hn => (hb.block y (by have := h.size; omega)).trans (h.kept y hy hn)⟩
theorem PutN.turn {W : World} {tb : Nat} {S : Nat → Prop} {t : Tr} {q : List Int} {X X' : World} {p : List Nat} {u : Tr} {b off : Nat} (hS : ∀ y, S y → y < W.heap.size) (hX : W.heap.size ≤ X.heap.size) (h : PutN W tb S t q X p u b off) (hb : Below X.heap.size X X') : PutN W tb S t q X' p u b off := by
  have hbl := hb.block b h.lt
  obtain ⟨ka, kc, d3, hkc, hk, h0⟩ := h.c3
  refine ⟨h.path, h.at_, (World.cell?_of_block hbl).trans h.c0, (World.cell?_of_block hbl).trans h.c1, (World.cell?_of_block hbl).trans h.c2, ⟨ka, kc, (World.cell?_of_block hbl).trans d3, hkc, hk.kept fun y hy => ⟨hy, hb.block y (Nat.lt_of_lt_of_le (hS y hy) hX)⟩, h0⟩, fun j => (World.frozen?_of_block hbl).trans (h.fz j), h.bl, Nat.lt_of_lt_of_le h.lt hb.size, fun Y S' u' hA h1 h2 hn => h.ctx Y S' u' ⟨fun y hy hne => (hA.1 y (Nat.lt_of_lt_of_le hy hb.size) hne).trans (hb.block y hy), fun j hj => (hA.2 j hj).trans (World.cell?_of_block hbl)⟩ h1 h2 hn⟩
/-- Behind the clone of a node's kids: further down. -/
theorem PutN.down {W : World} {tb : Nat} {S : Nat → Prop} {t : Tr} {q : List Int} {X w1 : World} {p : List Nat} {u v : Tr} {b off j g gc : Nat} {xs : List Value} (hS : ∀ y, S y → y < W.heap.size ∧ y ≠ tb) (hH : PutH W tb X) (h : PutN W tb S t q X p u b off) (hv : kidF u.kids j = some v) (hr : FoRow X S u.kids xs) (hl : xs.length = foLen u.kids * 4)
    (hb : Below X.heap.size X w1) (ho : w1.ownsRow X.heap.size 24 4 (.slice (some ⟨g, 0, none⟩) (foLen u.kids) gc) (foLen u.kids) xs) : PutH W tb (w1.setCell ⟨b, off + 3, none⟩ (.slice (some ⟨g, 0, none⟩) (foLen u.kids) gc)) ∧ PutN W tb S t (q ++ [(j : Int)]) (w1.setCell ⟨b, off + 3, none⟩ (.slice (some ⟨g, 0, none⟩) (foLen u.kids) gc)) (p ++ [j]) v g (0 + j * 4) ∧ (w1.setCell ⟨b, off + 3, none⟩ (.slice (some ⟨g, 0, none⟩) (foLen u.kids) gc)).cell? ⟨b, off + 3, none⟩ = some (.slice (some ⟨g, 0, none⟩) (foLen u.kids) gc) := by
  obtain ⟨X1, hX1⟩ : ∃ X1, X1 = w1.setCell ⟨b, off + 3, none⟩ (.slice (some ⟨g, 0, none⟩) (foLen u.kids) gc) := ⟨_, rfl⟩
  rw [← hX1]
  have hgb := owns_bounds ho (g := g) rfl
  have hbg : b ≠ g := by have := h.lt; omega
  have hs1 : X1.heap.size = w1.heap.size := by rw [hX1]; simp [World.setCell]
  have hset : ∀ y, y ≠ b → X1.heap[y]? = w1.heap[y]? := fun y hy => by rw [hX1]; exact Below.heap_setCell _ _ _ _ hy
  have hXs := hb.size
  have hbl : w1.heap[b]? = X.heap[b]? := hb.block b h.lt
  obtain ⟨ka0, kc0, d3, _, _, _⟩ := h.c3
  have hc3 : X1.cell? ⟨b, off + 3, none⟩ = some (.slice (some ⟨g, 0, none⟩) (foLen u.kids) gc) := by
    rw [hX1]; exact World.cell?_setCell_same' w1 _ _ (by rw [World.cell?_of_block hbl, d3]; rfl)
  have hco : ∀ i, i ≠ off + 3 → X1.cell? ⟨b, i, none⟩ = X.cell? ⟨b, i, none⟩ := fun i hi => by
    rw [hX1, World.cell?_setCell_other w1 ⟨b, off + 3, none⟩ ⟨b, i, none⟩ _ (by intro e; cases e; exact hi rfl)]; exact World.cell?_of_block hbl
  have hS1 : ∀ y, S y → X1.heap[y]? = X.heap[y]? := fun y hy => by
    have h9 := hS y hy
    have := hH.size
    rw [hset y (by intro e; rcases h.bl with h8 | h8 <;> omega), hb.block y (by omega)]
  have hoX : X1.ownsRow X.heap.size 24 4 (.slice (some ⟨g, 0, none⟩) (foLen u.kids) gc) (foLen u.kids) xs := owns_kept ho (fun g' cur hc hg' => by cases hg'; exact hset g (Ne.symm hbg))
  have hcell : ∀ i x, xs[i]? = some x → X1.cell? ⟨g, i, none⟩ = some x := fun i x hx => owns_cell hoX rfl i x hx
  have hrow1 := hr.kept (w' := X1) (S' := S) (fun y hy => ⟨hy, hS1 y hy⟩)
  have hcap : foLen u.kids ≤ gc := by
    rcases ho.2 with ⟨hv0, h0⟩ | ⟨_, _, _, hv0, _, _, h3, _⟩
    · cases hv0
    · cases hv0; exact h3
  have hfz : ∀ i, X1.frozen? ⟨g, i, none⟩ = false := fun i => World.ownsRow.frozenAt hoX i
  have hHN : PutH W tb X1 := by
    refine ⟨by rw [hX1]; exact hb.os.trans hH.os, by rw [hX1]; exact hb.tape.trans hH.tape, by rw [hX1]; exact hb.output.trans hH.output, by have := hH.size; omega, fun y hy hn => ?_⟩
    have := hH.size
    rw [hset y (by intro e; rcases h.bl with h8 | h8 <;> omega), hb.block y (by omega)]
    exact hH.kept y hy hn
  have hlies : FoAt X1 (fun y => S y ∨ y = g) u.kids (some ⟨g, 0, none⟩) := FoRow.lies (Or.inr rfl) 0 (hrow1.kept (w' := X1) (fun y hy => ⟨Or.inl hy, rfl⟩)) (fun i x hx => by rw [Nat.zero_add]; exact hcell i x hx)
  -- the node further down, its own kids among those that were there
  obtain ⟨b0, o0, key, l, r, hd, gg, go, na, nc, e1, hg1, e0, e1', e2, e3, hnc, _⟩ := hlies.at j (kidF_some hv)
  cases e1
  have hvk : v = ⟨key.1, key.2.1, key.2.2, l⟩ := by rw [kidF, hd] at hv; cases hv; rfl
  have hlk : FoAt X1 S l na ∧ (na = none → foLen l = 0) := by
    have key2 : ∀ (f : Fo) (xs : List Value) (o i : Nat), FoRow X1 S f xs → (∀ i x, xs[i]? = some x → X1.cell? ⟨g, o + i, none⟩ = some x) → foDrop i f = .node b0 o0 key l r → ∀ na nc, X1.cell? ⟨g, o + i * 4 + 3, none⟩ = some (.slice na (foLen l) nc) → FoAt X1 S l na := by
      intro f
      induction f with
      | nil => intro xs o i _ _ h; cases i <;> simp [foDrop] at h
      | node bb ooo kk ll rr _ ihr =>
        intro xs o i hf hc hdr na nc hcc
        obtain ⟨ka', cap', ys, e, hcp, hkl, hr'⟩ := hf
        subst e
        cases i with
        | zero =>
          simp only [foDrop] at hdr
          cases hdr
          have := hc 3 _ rfl
          rw [Nat.zero_mul, Nat.add_zero] at hcc
          rw [this] at hcc
          cases hcc
          exact hkl
        | succ i =>
          refine ihr ys (o + 4) i hr' (fun i' x hx => ?_) (by simpa [foDrop] using hdr) na nc ?_
          · have := hc (i' + 4) x (by rw [List.getElem?_append_right (by simp)]; simpa using hx)
            rw [show o + 4 + i' = o + (i' + 4) by omega]; exact this
          · rw [show o + 4 + i * 4 + 3 = o + (i + 1) * 4 + 3 by omega]; exact hcc
    have h9 := key2 u.kids xs 0 j hrow1 (fun i x hx => by rw [Nat.zero_add]; exact hcell i x hx) hd na nc e3
    refine ⟨h9, fun e => ?_⟩
    subst e
    cases l with
    | nil => rfl
    | node _ _ _ _ _ => obtain ⟨_, _, _, _, e, _⟩ := h9; cases e
  refine ⟨hHN, ⟨by rw [h.path]; simp [natI], by rw [atT_append, h.at_]; simp [atT, hv], by rw [hvk]; exact e0, by rw [hvk]; exact e1', by rw [hvk]; exact e2, ⟨na, nc, by rw [hvk]; exact e3, by rw [hvk]; exact hnc, by rw [hvk]; exact hlk.1, by rw [hvk]; exact hlk.2⟩, hfz, Or.inr (by have := hH.size; omega), by omega, ?_⟩, hc3⟩
  intro X' S' v' hA h1 h2 hn
  rw [putP_append p t u v v' j h.at_ hv]
  have hjl := kidF_some hv
  refine h.ctx X' S' ⟨u.id, u.kind, u.text, setF u.kids j v'⟩ ⟨fun y hy hne => ?_, fun i hi => ?_⟩ h1 h2 ?_
  · rw [hA.1 y (by omega) (by omega), hset y hne, hb.block y hy]
  · have : X'.heap[b]? = X1.heap[b]? := hA.1 b (by have := h.lt; omega) hbg
    rw [World.cell?_of_block (a := ⟨b, i, none⟩) this]
    exact hco i (by omega)
  · have hbX : X'.heap[b]? = X1.heap[b]? := hA.1 b (by have := h.lt; omega) hbg
    have hcx : ∀ i, X'.cell? ⟨b, i, none⟩ = X1.cell? ⟨b, i, none⟩ := fun i => World.cell?_of_block (a := ⟨b, i, none⟩) hbX
    have hgS : S' g := h2 g (Or.inr (by have := hH.size; omega))
    refine ⟨h2 b h.bl, by rw [hcx, hco off (by omega)]; exact h.c0, by rw [hcx, hco (off + 1) (by omega)]; exact h.c1, by rw [hcx, hco (off + 2) (by omega)]; exact h.c2, some ⟨g, 0, none⟩, gc, by rw [hcx, hc3]; simp only [setF_len], by simp only [setF_len]; exact hcap, ?_⟩
    refine but_fill u.kids j (but_row u.kids j xs hrow1 hjl hgS (fun y hy => ⟨h1 y hy, hA.1 y (by have := hS y hy; have := hH.size; omega) (by have := hS y hy; have := hH.size; omega)⟩) (fun i x hx hi => ?_)) (by rw [Nat.zero_add]; rw [Nat.zero_add] at hn; exact hn) hjl
    rw [Nat.zero_add, hA.2 i (by omega)]
    exact hcell i x hx
set_option maxRecDepth 100000 in
set_option maxHeartbeats 1000000 in
/-- What Put does at each node: its kids in new memory. -/
theorem own_fn (w : World) (b off : Nat) (ka : Option Addr) (n c : Nat) (xs : List Value) (h3 : w.cell? ⟨b, off + 3, none⟩ = some (.slice ka n c)) (hf : ∀ j, w.frozen? ⟨b, j, none⟩ = false) (hl : xs.length = n * 4) (h1 : ∀ u ∈ xs, u.oneCell' = true) (hn : n ≤ 1000000) (hc : ∀ ad, ka = some ad → ∀ j u, xs[j]? = some u → w.cell? (ad.add j) = some u) (h0 : ka = none → n = 0) :
    Calls Try.prog 38 #[.pointer (some ⟨b, off, none⟩)] w fun e w' => e = .returned (.tuple #[]) ∧ ∃ w1 v', Below w.heap.size w w1 ∧ w1.ownsRow w.heap.size 24 4 v' n xs ∧ w' = w1.setCell ⟨b, off + 3, none⟩ v' := by
  have hcl := clone_Nodes w ka n c xs hl h1 hn hc h0
  have hbl := World.block_lt_of_cell? _ _ h3
  have HC := Lib.hid (And.intro hcl hbl)
  have h3b := h3
  clear hcl hl h1 hc h0
  go_enter Try.func38, Try.ntmps38
  go_wp2_with fail
  refine HC.out.1.mono ?_
  rintro e w1 ⟨v', rfl, hb1, ho⟩
  obtain ⟨va, vc, rfl⟩ := owns_slice ho
  have g3 : w1.cell? ⟨b, off + 3, none⟩ = some (.slice ka n c) := (hb1.cell (p := ⟨b, off + 3, none⟩) HC.out.2).trans h3b
  have gf : ∀ j, w1.frozen? ⟨b, j, none⟩ = false := fun j => (World.frozen?_of_block (hb1.block b HC.out.2)).trans (hf j)
  have HO := Lib.hid (And.intro hb1 ho)
  clear hb1 ho h3 h3b hf HC
  go_wp2_with fail
  go_end0
  exact ⟨rfl, w1, .slice va n vc, HO.out.1, HO.out.2, rfl⟩
theorem put_fol (W : World) (tb : Nat) (S : Nat → Prop) (t : Tr) (hS : ∀ y, S y → y < W.heap.size ∧ y ≠ tb) (htb : tb < W.heap.size) (hsz : foSize t.kids ≤ 400000) : Fol Try.prog 38 (fun y => y < W.heap.size + 2 ∧ y ≠ tb) (PutJ W tb S t) where
  enter := fun _ _ => rfl
  turn := fun {q a w w'} h hb => ⟨h.1.turn hb, h.2.imp (fun h => h) (fun ⟨p, u, b, off, e, hn⟩ => ⟨p, u, b, off, e, hn.turn (fun y hy => (hS y hy).1) (by have := h.1.size; omega) hb⟩)⟩
  none := fun {q} r {w} h => by
    refine ⟨h.1, Or.inl ⟨rfl, ?_⟩⟩
    rcases h.2 with ⟨_, h2⟩ | ⟨_, _, _, _, h2, _⟩
    · rw [atI_append, h2]; rfl
    · cases h2
  read := fun {q ad w} h => by
    obtain ⟨hH, h2⟩ := h
    rcases h2 with ⟨h2, _⟩ | ⟨p, u, b, off, h2, hN⟩
    · cases h2
    cases h2
    have hat : atI t q = some u := by rw [hN.path, atI_nat]; exact hN.at_
    have hus := atI_size q t u hat
    have hul := foLen_le u.kids
    obtain ⟨ka, kc, c3, hkc, hk, hk0⟩ := hN.c3
    refine ⟨b, off, ka, foLen u.kids, kc, rfl, by omega, c3, fun i hi => ⟨hH, Or.inl ⟨rfl, ?_⟩⟩, fun j hj => ?_⟩
    · rw [atI_append, hat]
      simp only [Option.bind_some, atI]
      rw [if_pos hi]
    · obtain ⟨xs, hr, hxl, hxc, hx1⟩ := fo_row' u.kids hk
      refine (own_fn w b off ka (foLen u.kids) kc xs c3 hN.fz hxl hx1 (by omega) hxc hk0).mono ?_
      rintro e w' ⟨rfl, w1, v', hb1, ho, rfl⟩
      obtain ⟨_, _, _, _, _, _, hkid, _⟩ := kidF_lt hj
      obtain ⟨g, gc, e1, _⟩ := World.ownsRow.form ho (by omega)
      subst e1
      obtain ⟨hH2, hN2, hc2⟩ := hN.down (fun y hy => hS y hy) hH hkid hr hxl hb1 ho
      have hs1 := hb1.size
      refine ⟨rfl, ⟨by simp [World.setCell]; exact hs1, fun y hy => ?_⟩, g, 0, gc, hc2, hH2, Or.inr ⟨_, _, g, 0 + j * 4, rfl, hN2⟩⟩
      have hbs := hH.size
      rw [Below.heap_setCell _ _ _ _ (by simp only; intro e; rcases hN.bl with h8 | h8 <;> omega), hb1.block y (by omega)]
end Go.Proofs.Ytjppibomjnmjpaa
