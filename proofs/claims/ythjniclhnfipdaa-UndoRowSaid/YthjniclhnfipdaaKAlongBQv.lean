/-
  A row of nodes with one more, or with one fewer, plainly, and as cells. No condition.
  A node along a path that is changed: what holds of memory on the way. No condition.
  Paths to nodes: what stands there, how long they are, plainly; and nodes put into a tree and taken out. No condition.
-/
import Derived.Test.YthjniclhnfipdaaICopyPQv
import Derived.Test.YthjniclhnfipdaaKInsQv
namespace Go.Proofs.Ythjniclhnfipdaa
open Go.RowKit Go.Shelf
set_option linter.unusedVariables false
set_option linter.unusedSimpArgs false

def insF : Fo → Nat → Tr → Fo
  | f, 0, u => .node 0 0 (u.id, u.kind, u.text) u.kids f
  | .nil, _ + 1, _ => .nil
  | .node b o k l r, i + 1, u => .node b o k l (insF r i u)
def delF : Fo → Nat → Fo
  | .nil, _ => .nil
  | .node _ _ _ _ r, 0 => r
  | .node b o k l r, i + 1 => .node b o k l (delF r i)
theorem insF_zero (f : Fo) (u : Tr) : insF f 0 u = .node 0 0 (u.id, u.kind, u.text) u.kids f := by cases f <;> rfl
theorem delF_zero (b o : Nat) (k : Int × Int × ByteArray) (l r : Fo) : delF (.node b o k l r) 0 = r := rfl
theorem insF_len : ∀ (f : Fo) (i : Nat) (u : Tr), i ≤ foLen f → foLen (insF f i u) = foLen f + 1
  | f, 0, u, _ => by rw [insF_zero]; rfl
  | .nil, i + 1, u, h => by simp [foLen] at h
  | .node b o k l r, i + 1, u, h => by
    have := insF_len r i u (by simp [foLen] at h; omega)
    simp only [insF, foLen, this]
theorem delF_len : ∀ (f : Fo) (i : Nat), i < foLen f → foLen (delF f i) + 1 = foLen f
  | .nil, i, h => by simp [foLen] at h
  | .node b o k l r, 0, _ => rfl
  | .node b o k l r, i + 1, h => by
    have := delF_len r i (by simp [foLen] at h; omega)
    simp only [delF, foLen]; omega
theorem kidF_ins : ∀ (f : Fo) (i : Nat) (u : Tr), i ≤ foLen f → kidF (insF f i u) i = some u
  | f, 0, u, _ => by rw [insF_zero]; rfl
  | .nil, i + 1, u, h => by simp [foLen] at h
  | .node b o k l r, i + 1, u, h => by
    have := kidF_ins r i u (by simp [foLen] at h; omega)
    simpa [kidF, insF, foDrop] using this
theorem del_ins : ∀ (f : Fo) (i : Nat) (u : Tr), i ≤ foLen f → delF (insF f i u) i = f
  | f, 0, u, _ => by rw [insF_zero]; rfl
  | .nil, i + 1, u, h => by simp [foLen] at h
  | .node b o k l r, i + 1, u, h => by
    have := del_ins r i u (by simp [foLen] at h; omega)
    simp only [insF, delF, this]
theorem ins_del : ∀ (f : Fo) (i : Nat) (u : Tr), kidF f i = some u → sameF (insF (delF f i) i u) f = true ∧ foLen (insF (delF f i) i u) = foLen f
  | .nil, i, u, h => by cases i <;> simp [kidF, foDrop, headT] at h
  | .node b o k l r, 0, u, h => by
    simp only [kidF, foDrop, headT] at h
    cases h
    rw [delF_zero, insF_zero]
    exact ⟨by simp [sameF, sameK, sameF_refl], rfl⟩
  | .node b o k l r, i + 1, u, h => by
    obtain ⟨h1, h2⟩ := ins_del r i u (by simpa [kidF, foDrop] using h)
    refine ⟨?_, by simp only [delF, insF, foLen, h2]⟩
    simp only [delF, insF, sameF, h1, sameF_refl, Bool.and_true]
    simp [sameK]
theorem insF_size : ∀ (f : Fo) (i : Nat) (u : Tr), i ≤ foLen f → foSize (insF f i u) = foSize f + foSize u.kids + 1
  | f, 0, u, _ => by rw [insF_zero]; simp only [foSize]; omega
  | .nil, i + 1, u, h => by simp [foLen] at h
  | .node b o k l r, i + 1, u, h => by
    have := insF_size r i u (by simp [foLen] at h; omega)
    simp only [insF, foSize, this]; omega
theorem delF_size : ∀ (f : Fo) (i : Nat) (u : Tr), kidF f i = some u → foSize (delF f i) + foSize u.kids + 1 = foSize f
  | .nil, i, u, h => by cases i <;> simp [kidF, foDrop, headT] at h
  | .node b o k l r, 0, u, h => by
    simp only [kidF, foDrop, headT] at h
    cases h
    simp only [delF, foSize]; omega
  | .node b o k l r, i + 1, u, h => by
    have := delF_size r i u (by simpa [kidF, foDrop] using h)
    simp only [delF, foSize]; omega
def cellsT (u : Tr) (ka : Option Addr) (kc : Nat) : List Value := [.int .i64 u.id, .int .i64 u.kind, .string u.text, .slice ka (foLen u.kids) kc]
theorem insF_row {w : World} {S : Nat → Prop} : ∀ (f : Fo) (i : Nat) (u : Tr) (ka : Option Addr) (kc : Nat) (xs : List Value), FoRow w S f xs → foLen u.kids ≤ kc → FoAt w S u.kids ka → i ≤ foLen f → FoRow w S (insF f i u) (xs.take (i * 4) ++ cellsT u ka kc ++ xs.drop (i * 4))
  | f, 0, u, ka, kc, xs, h, hc, hk, _ => by
    rw [insF_zero, Nat.zero_mul, List.take_zero, List.drop_zero, List.nil_append]
    exact ⟨ka, kc, xs, rfl, hc, hk, h⟩
  | .nil, i + 1, u, ka, kc, xs, h, hc, hk, hi => by simp [foLen] at hi
  | .node b o k l r, i + 1, u, ka, kc, xs, h, hc, hk, hi => by
    obtain ⟨na, nc, ys, e, h1, h2, h3⟩ := h
    subst e
    have := insF_row r i u ka kc ys h3 hc hk (by simp [foLen] at hi; omega)
    refine ⟨na, nc, _, ?_, h1, h2, this⟩
    rw [show (i + 1) * 4 = i * 4 + 1 + 1 + 1 + 1 by omega]
    simp
theorem delF_row {w : World} {S : Nat → Prop} : ∀ (f : Fo) (i : Nat) (xs : List Value), FoRow w S f xs → i < foLen f → FoRow w S (delF f i) (xs.take (i * 4) ++ xs.drop (i * 4 + 4))
  | .nil, i, xs, h, hi => by simp [foLen] at hi
  | .node b o k l r, 0, xs, h, hi => by
    obtain ⟨na, nc, ys, e, h1, h2, h3⟩ := h
    subst e
    rw [delF_zero]; simpa using h3
  | .node b o k l r, i + 1, xs, h, hi => by
    obtain ⟨na, nc, ys, e, h1, h2, h3⟩ := h
    subst e
    have := delF_row r i ys h3 (by simp [foLen] at hi; omega)
    refine ⟨na, nc, _, ?_, h1, h2, this⟩
    rw [show (i + 1) * 4 = i * 4 + 1 + 1 + 1 + 1 by omega, show i * 4 + 1 + 1 + 1 + 1 + 4 = i * 4 + 4 + 1 + 1 + 1 + 1 by omega]
    simp
/-- The i-th node's own cells. -/
theorem FoRow.nth {w : World} {S : Nat → Prop} : ∀ (f : Fo) (i : Nat) (u : Tr) (xs : List Value), FoRow w S f xs → kidF f i = some u → ∃ ka kc, xs[i * 4]? = some (.int .i64 u.id) ∧ xs[i * 4 + 1]? = some (.int .i64 u.kind) ∧ xs[i * 4 + 2]? = some (.string u.text) ∧ xs[i * 4 + 3]? = some (.slice ka (foLen u.kids) kc) ∧ foLen u.kids ≤ kc ∧ FoAt w S u.kids ka
  | .nil, i, u, xs, h, hi => by cases i <;> simp [kidF, foDrop, headT] at hi
  | .node b o k l r, 0, u, xs, h, hi => by
    obtain ⟨na, nc, ys, e, h1, h2, h3⟩ := h
    subst e
    simp only [kidF, foDrop, headT] at hi
    cases hi
    exact ⟨na, nc, by simp, by simp, by simp, by simp, h1, h2⟩
  | .node b o k l r, i + 1, u, xs, h, hi => by
    obtain ⟨na, nc, ys, e, h1, h2, h3⟩ := h
    subst e
    obtain ⟨ka, kc, e0, e1, e2, e3, h4⟩ := FoRow.nth r i u ys h3 (by simpa [kidF, foDrop] using hi)
    refine ⟨ka, kc, ?_, ?_, ?_, ?_, h4⟩
    · rw [show (i + 1) * 4 = i * 4 + 4 by omega, List.getElem?_append_right (by simp)]; simpa using e0
    · rw [show (i + 1) * 4 + 1 = i * 4 + 1 + 4 by omega, List.getElem?_append_right (by simp)]; simpa using e1
    · rw [show (i + 1) * 4 + 2 = i * 4 + 2 + 4 by omega, List.getElem?_append_right (by simp)]; simpa using e2
    · rw [show (i + 1) * 4 + 3 = i * 4 + 3 + 4 by omega, List.getElem?_append_right (by simp)]; simpa using e3
end Go.Proofs.Ythjniclhnfipdaa
namespace Go.Proofs.Ythjniclhnfipdaa
open Go.RowKit Go.Shelf
set_option linter.unusedVariables false
set_option linter.unusedSimpArgs false

theorem foAt_cells {w : World} {S : Nat → Prop} : ∀ {f : Fo} {a : Option Addr}, FoAt w S f a → FoAt w (fun x => CellsB w x ∧ S x) f a
  | .nil, _, _ => True.intro
  | .node _ _ _ _ _, _, h => by
    obtain ⟨b, off, ka, cap, e, hb, h0, h1, h2, h3, hc, hl, hr⟩ := h
    have hcb : CellsB w b := by
      unfold World.cell? at h0
      cases hh : w.heap[b]? with
      | none => simp [hh] at h0
      | some o =>
        cases o with
        | cells cs t fr => exact ⟨cs, t, fr, hh⟩
        | _ => simp [hh] at h0
    exact ⟨b, off, ka, cap, e, ⟨hcb, hb⟩, h0, h1, h2, h3, hc, foAt_cells hl, foAt_cells hr⟩
theorem box4 {w : World} {b : Nat} {c0 c1 c2 c3 : Value} {T : TypeId} (h : w.heap[b]? = some (.cells #[c0, c1, c2, c3] T (0, 0))) : w.cell? ⟨b, 0, none⟩ = some c0 ∧ w.cell? ⟨b, 1, none⟩ = some c1 ∧ w.cell? ⟨b, 2, none⟩ = some c2 ∧ w.cell? ⟨b, 3, none⟩ = some c3 :=
  ⟨by rw [cell_of_row _ _ 0 _ _ _ h]; rfl, by rw [cell_of_row _ _ 1 _ _ _ h]; rfl, by rw [cell_of_row _ _ 2 _ _ _ h]; rfl, by rw [cell_of_row _ _ 3 _ _ _ h]; rfl⟩
theorem results_cellT {P : Program} {fn : Func} {p u : Tmp} {ty : TypeId} (h : fn.results = #[.cell p ty, .tmp u]) (tmps : Array Value) (w : World) (g : Nat) (t : TypeId) (cs : Array Value) (fr : Nat × Nat) (d : TypeDesc) (x : Value)
    (hp : tmps.getD p undef = .pointer (some ⟨g, 0, none⟩)) (hg : w.heap[g]? = some (.cells cs t fr)) (hu : P.underlying ty = some d) (hd : (match d with | .struct _ | .array _ _ => true | _ => false) = true) (hi : (P.info? ty).map (·.size) = some cs.size) (hp2 : tmps.getD u undef = x) :
    (results fn tmps).run P w = .ok (.tuple #[.agg cs, x]) w := by
  have hp' : tmps[p]?.getD undef = .pointer (some ⟨g, 0, none⟩) := by simpa using hp
  have hp2' : tmps[u]?.getD undef = x := by simpa using hp2
  simp [results, h, hp', hp2', asAddr, run_loadVar_row w g t ty cs fr d hg hu hd hi]
theorem four_set {V : World} {R1 : Nat} {c0 c1 c2 c3 u0 u1 u2 u3 : Value} (h2 : V.heap[R1]? = some (.cells #[c0, c1, c2, c3] 24 (0, 0))) :
    ∃ V5, V5 = ((((V.setCell ⟨R1, 0, none⟩ u0).setCell ⟨R1, 1, none⟩ u1).setCell ⟨R1, 2, none⟩ u2).setCell ⟨R1, 3, none⟩ u3) ∧ V5.heap[R1]? = some (.cells #[u0, u1, u2, u3] 24 (0, 0)) ∧ (∀ y, y ≠ R1 → V5.heap[y]? = V.heap[y]?) ∧ V5.os = V.os ∧ V5.tape = V.tape ∧ V5.output = V.output ∧ V5.heap.size = V.heap.size := by
  have g1 := heap_setCell_same V R1 0 _ _ u0 h2
  have g2 := heap_setCell_same _ R1 1 _ _ u1 g1
  have g3 := heap_setCell_same _ R1 2 _ _ u2 g2
  have g4 := heap_setCell_same _ R1 3 _ _ u3 g3
  refine ⟨_, rfl, by simpa using g4, fun y hy => ?_, rfl, rfl, rfl, by simp [World.setCell]⟩
  rw [Below.heap_setCell _ _ _ _ hy, Below.heap_setCell _ _ _ _ hy, Below.heap_setCell _ _ _ _ hy, Below.heap_setCell _ _ _ _ hy]
/-- Nothing of what was there turned, but four cells, and what E names. -/
def AgreeE (E : Nat → Prop) (X X' : World) (b off : Nat) : Prop := (∀ y, y < X.heap.size → y ≠ b → ¬ E y → X'.heap[y]? = X.heap[y]?) ∧ ∀ j, (j < off ∨ off + 4 ≤ j) → X'.cell? ⟨b, j, none⟩ = X.cell? ⟨b, j, none⟩
/-- What the whole tree is worth, if another node lies there. -/
def CtxE (B tb : Nat) (E S : Nat → Prop) (t : Tr) (X : World) (p : List Nat) (b off : Nat) : Prop := ∀ (X' : World) (S' : Nat → Prop) (u' : Tr), AgreeE E X X' b off → (∀ y, S y → S' y) → (∀ y, (y = tb ∨ B ≤ y) → S' y) → NodeAt X' S' u' b off → NodeAt X' S' (putP t p u') tb 0
structure AlH (W : World) (tb : Nat) (E : Nat → Prop) (X : World) : Prop where
  os : X.os = W.os
  tape : X.tape = W.tape
  output : X.output = W.output
  size : W.heap.size ≤ X.heap.size
  kept : ∀ y, y < W.heap.size → y ≠ tb → ¬ E y → X.heap[y]? = W.heap[y]?
/-- The sets of blocks: the tree's (S), those that are written otherwise (E). -/
structure AlS (W : World) (tb : Nat) (E S : Nat → Prop) : Prop where
  s : ∀ y, S y → y < W.heap.size ∧ y ≠ tb ∧ ¬ E y
  e : ∀ y, E y → y < W.heap.size ∧ y ≠ tb
  tb : tb < W.heap.size
structure AlN (W : World) (tb : Nat) (E S : Nat → Prop) (t : Tr) (X : World) (p : List Nat) (u : Tr) (b off : Nat) : Prop where
  at_ : atT t p = some u
  c0 : X.cell? ⟨b, off, none⟩ = some (.int .i64 u.id)
  c1 : X.cell? ⟨b, off + 1, none⟩ = some (.int .i64 u.kind)
  c2 : X.cell? ⟨b, off + 2, none⟩ = some (.string u.text)
  c3 : ∃ ka kc, X.cell? ⟨b, off + 3, none⟩ = some (.slice ka (foLen u.kids) kc) ∧ foLen u.kids ≤ kc ∧ FoAt X S u.kids ka ∧ (ka = none → foLen u.kids = 0)
  fz : ∀ j, X.frozen? ⟨b, j, none⟩ = false
  bl : b = tb ∨ W.heap.size ≤ b
  lt : b < X.heap.size
  ctx : CtxE W.heap.size tb E S t X p b off
theorem AlN.notE {W : World} {tb : Nat} {E S : Nat → Prop} {t : Tr} {X : World} {p : List Nat} {u : Tr} {b off : Nat} (hS : AlS W tb E S) (h : AlN W tb E S t X p u b off) : ¬ E b := fun he => by
  have := hS.e b he
  rcases h.bl with h | h <;> omega
theorem AlH.drew {W : World} {tb : Nat} {E : Nat → Prop} {X : World} (h : AlH W tb E X) : AlH W tb E X.drew := ⟨h.os, h.tape, h.output, h.size, h.kept⟩
theorem AlN.drew {W : World} {tb : Nat} {E S : Nat → Prop} {t : Tr} {X : World} {p : List Nat} {u : Tr} {b off : Nat} (h : AlN W tb E S t X p u b off) : AlN W tb E S t X.drew p u b off := by
  obtain ⟨ka, kc, d3, h1, h2, h3⟩ := h.c3
  exact ⟨h.at_, h.c0, h.c1, h.c2, ⟨ka, kc, d3, h1, FoAt.kept (w := X) (w' := X.drew) (S := S) (S' := S) (fun y hy => ⟨hy, rfl⟩) h2, h3⟩, h.fz, h.bl, h.lt, h.ctx⟩
/-- Behind the clone of a node's kids. -/
structure AlC (W : World) (tb : Nat) (E S : Nat → Prop) (X : World) (u : Tr) (b off : Nat) (sv : Value) (xs : List Value) (X1 : World) : Prop where
  h : AlH W tb (fun _ => False) X1
  size : X.heap.size ≤ X1.heap.size
  c0 : X1.cell? ⟨b, off, none⟩ = some (.int .i64 u.id)
  c1 : X1.cell? ⟨b, off + 1, none⟩ = some (.int .i64 u.kind)
  c2 : X1.cell? ⟨b, off + 2, none⟩ = some (.string u.text)
  c3 : X1.cell? ⟨b, off + 3, none⟩ = some sv
  own : X1.ownsRow X.heap.size 24 4 sv (foLen u.kids) xs
  row : FoRow X1 S u.kids xs
  one : ∀ v ∈ xs, v.oneCell' = true
  fz : ∀ j, X1.frozen? ⟨b, j, none⟩ = false
  old : ∀ y, y < X.heap.size → y ≠ b → X1.heap[y]? = X.heap[y]?
  oth : ∀ j, (j < off ∨ off + 4 ≤ j) → X1.cell? ⟨b, j, none⟩ = X.cell? ⟨b, j, none⟩
theorem AlN.clone {W : World} {tb : Nat} {E S : Nat → Prop} {t : Tr} {X w1 : World} {p : List Nat} {u : Tr} {b off : Nat} {xs : List Value} {sv : Value} (hS : AlS W tb E S) (hH : AlH W tb (fun _ => False) X) (h : AlN W tb E S t X p u b off) (hr : FoRow X S u.kids xs) (h1 : ∀ v ∈ xs, v.oneCell' = true)
    (hb : Below X.heap.size X w1) (ho : w1.ownsRow X.heap.size 24 4 sv (foLen u.kids) xs) : AlC W tb E S X u b off sv xs (w1.setCell ⟨b, off + 3, none⟩ sv) := by
  obtain ⟨X1, hX1⟩ : ∃ X1, X1 = w1.setCell ⟨b, off + 3, none⟩ sv := ⟨_, rfl⟩
  rw [← hX1]
  have hs1 : X1.heap.size = w1.heap.size := by rw [hX1]; simp [World.setCell]
  have hset : ∀ y, y ≠ b → X1.heap[y]? = w1.heap[y]? := fun y hy => by rw [hX1]; exact Below.heap_setCell _ _ _ _ hy
  have hXs := hb.size
  have hbl : w1.heap[b]? = X.heap[b]? := hb.block b h.lt
  obtain ⟨ka0, kc0, d3, _, _, _⟩ := h.c3
  have hc3 : X1.cell? ⟨b, off + 3, none⟩ = some sv := by
    rw [hX1]; exact World.cell?_setCell_same' w1 _ _ (by rw [World.cell?_of_block hbl, d3]; rfl)
  have hco : ∀ i, i ≠ off + 3 → X1.cell? ⟨b, i, none⟩ = X.cell? ⟨b, i, none⟩ := fun i hi => by
    rw [hX1, World.cell?_setCell_other w1 ⟨b, off + 3, none⟩ ⟨b, i, none⟩ _ (by intro e; cases e; exact hi rfl)]; exact World.cell?_of_block hbl
  have hold : ∀ y, y < X.heap.size → y ≠ b → X1.heap[y]? = X.heap[y]? := fun y hy hn => (hset y hn).trans (hb.block y hy)
  have hS1 : ∀ y, S y → X1.heap[y]? = X.heap[y]? := fun y hy => by
    have h9 := hS.s y hy
    have := hH.size
    exact hold y (by omega) (by intro e; rcases h.bl with h8 | h8 <;> omega)
  refine ⟨⟨by rw [hX1]; exact hb.os.trans hH.os, by rw [hX1]; exact hb.tape.trans hH.tape, by rw [hX1]; exact hb.output.trans hH.output, by have := hH.size; omega, fun y hy hn he => ?_⟩, by omega, (hco _ (by omega)).trans h.c0, (hco _ (by omega)).trans h.c1, (hco _ (by omega)).trans h.c2, hc3, owns_kept ho (fun g' cur hc hg' => hset g' ?_), hr.kept (fun y hy => ⟨hy, hS1 y hy⟩), h1, fun j => ?_, hold, fun j hj => hco j (by omega)⟩
  · have := hH.size
    rw [hold y (by omega) (by intro e; rcases h.bl with h8 | h8 <;> omega)]
    exact hH.kept y hy hn he
  · have hgb := owns_bounds ho (g := g') hg'
    have := h.lt
    omega
  · rw [hX1, World.frozen?_setCell]
    exact (World.frozen?_of_block hbl).trans (h.fz j)
/-- .. further down. -/
theorem AlN.down {W : World} {tb : Nat} {E S : Nat → Prop} {t : Tr} {X X1 : World} {p : List Nat} {u v : Tr} {b off j g gc : Nat} {xs : List Value} (hS : AlS W tb E S) (hH : AlH W tb (fun _ => False) X) (h : AlN W tb E S t X p u b off) (hv : kidF u.kids j = some v)
    (k : AlC W tb E S X u b off (.slice (some ⟨g, 0, none⟩) (foLen u.kids) gc) xs X1) : AlN W tb E S t X1 (p ++ [j]) v g (j * 4) ∧ b ≠ g ∧ X.heap.size ≤ g := by
  have hgb := owns_bounds k.own (g := g) rfl
  have hbg : b ≠ g := by have := h.lt; omega
  have hcell : ∀ i x, xs[i]? = some x → X1.cell? ⟨g, i, none⟩ = some x := fun i x hx => owns_cell k.own rfl i x hx
  have hcap : foLen u.kids ≤ gc := by
    rcases k.own.2 with ⟨hv0, h0⟩ | ⟨_, _, _, hv0, _, _, h3, _⟩
    · cases hv0
    · cases hv0; exact h3
  obtain ⟨na, nc, e0, e1, e2, e3, hnc, hnk⟩ := FoRow.nth u.kids j v xs k.row hv
  have hjl := kidF_some hv
  refine ⟨⟨by rw [atT_append, h.at_]; simp [atT, hv], hcell _ _ e0, hcell _ _ e1, hcell _ _ e2, ⟨na, nc, hcell _ _ e3, hnc, hnk, fun e => ?_⟩, fun i => World.ownsRow.frozenAt k.own i, Or.inr (by have := hH.size; omega), hgb.2, ?_⟩, hbg, hgb.1⟩
  · subst e
    cases hvk : v.kids with
    | nil => rfl
    | node _ _ _ _ _ => rw [hvk] at hnk; obtain ⟨_, _, _, _, e, _⟩ := hnk; cases e
  intro X' S' v' hA h1 h2 hn
  rw [putP_append p t u v v' j h.at_ hv]
  have hXs := k.size
  have hbE := h.notE hS
  have hSz := hH.size
  refine h.ctx X' S' ⟨u.id, u.kind, u.text, setF u.kids j v'⟩ ⟨fun y hy hne he => ?_, fun i hi => ?_⟩ h1 h2 ?_
  · rw [hA.1 y (by omega) (by omega) he]
    exact k.old y hy hne
  · have : X'.heap[b]? = X1.heap[b]? := hA.1 b (by have := h.lt; omega) hbg hbE
    rw [World.cell?_of_block (a := ⟨b, i, none⟩) this]
    exact k.oth i hi
  · have hbX : X'.heap[b]? = X1.heap[b]? := hA.1 b (by have := h.lt; omega) hbg hbE
    have hcx : ∀ i, X'.cell? ⟨b, i, none⟩ = X1.cell? ⟨b, i, none⟩ := fun i => World.cell?_of_block (a := ⟨b, i, none⟩) hbX
    have hgS : S' g := h2 g (Or.inr (by omega))
    refine ⟨h2 b h.bl, by rw [hcx]; exact k.c0, by rw [hcx]; exact k.c1, by rw [hcx]; exact k.c2, some ⟨g, 0, none⟩, gc, by rw [hcx, k.c3]; simp only [setF_len], by simp only [setF_len]; exact hcap, ?_⟩
    refine but_fill u.kids j (but_row u.kids j xs k.row hjl hgS (fun y hy => ⟨h1 y hy, hA.1 y (by have := hS.s y hy; omega) (by have := hS.s y hy; omega) (hS.s y hy).2.2⟩) (fun i x hx hi => ?_)) (by rw [Nat.zero_add]; exact hn) hjl
    rw [Nat.zero_add, hA.2 i (by omega)]
    exact hcell i x hx
/-- What stands behind a change at the end of the path. -/
def AlDone (W : World) (tb : Nat) (E SS : Nat → Prop) (X : World) (b : Nat) (y : Tr) (RR : World → Prop) (e : Ending) (X' : World) : Prop :=
  e = .returned (.tuple #[]) ∧ AlH W tb E X' ∧ X.heap.size ≤ X'.heap.size ∧ (∀ y, y < X.heap.size → y ≠ b → ¬ E y → X'.heap[y]? = X.heap[y]?) ∧ NodeAt X' (fun y => SS y ∨ (y = tb ∨ W.heap.size ≤ y)) y tb 0 ∧ RR X'
/-- What the change itself leaves. -/
def ChgC (W : World) (tb : Nat) (E SS : Nat → Prop) (Bx : Nat) (X1 : World) (b off : Nat) (y : Tr) (RR : World → Prop) (e : Ending) (X' : World) : Prop :=
  e = .returned (.tuple #[]) ∧ X'.os = X1.os ∧ X'.tape = X1.tape ∧ X'.output = X1.output ∧ X1.heap.size ≤ X'.heap.size ∧ (∀ y, y < Bx → y ≠ b → ¬ E y → X'.heap[y]? = X1.heap[y]?) ∧ (∀ j, (j < off ∨ off + 4 ≤ j) → X'.cell? ⟨b, j, none⟩ = X1.cell? ⟨b, j, none⟩) ∧ NodeAt X' (fun y => SS y ∨ (y = tb ∨ W.heap.size ≤ y)) y b off ∧ RR X'
theorem AlN.done {W : World} {tb : Nat} {E S SS : Nat → Prop} {t : Tr} {X X1 X' : World} {p : List Nat} {u c : Tr} {b off : Nat} {sv : Value} {xs : List Value} {RR : World → Prop} {e : Ending} (hS : AlS W tb E S) (hSS : ∀ y, S y → SS y) (hH : AlH W tb (fun _ => False) X) (h : AlN W tb E S t X p u b off) (k : AlC W tb E S X u b off sv xs X1)
    (hc : ChgC W tb E SS X.heap.size X1 b off c RR e X') : AlDone W tb E SS X b (putP t p c) RR e X' := by
  obtain ⟨rfl, h1, h2, h3, h4, h5, h6, h7, h8⟩ := hc
  have hXs := k.size
  have hSz := hH.size
  refine ⟨rfl, ⟨h1.trans k.h.os, h2.trans k.h.tape, h3.trans k.h.output, by omega, fun y hy hn he => ?_⟩, by omega, fun y hy hn he => (h5 y hy hn he).trans (k.old y hy hn), ?_, h8⟩
  · rw [h5 y (by omega) (by intro e; rcases h.bl with h9 | h9 <;> omega) he]
    exact k.h.kept y hy hn (fun h => h)
  · exact h.ctx X' _ c ⟨fun y hy hn he => (h5 y hy hn he).trans (k.old y hy hn), fun j hj => (h6 j hj).trans (k.oth j hj)⟩ (fun y hy => Or.inl (hSS y hy)) (fun y hy => Or.inr hy) h7
/-- A row of one's own, as nodes. -/
theorem own_lies {X1 : World} {B n c : Nat} {a : Option Addr} {f : Fo} {xs : List Value} {S S' : Nat → Prop} (ho : X1.ownsRow B 24 4 (.slice a n c) n xs) (hr : FoRow X1 S f xs) (hn : n = foLen f) (hS : ∀ y, S y → S' y) (hB : ∀ y, B ≤ y → S' y) : FoAt X1 S' f a ∧ n ≤ c := by
  rcases ho.2 with ⟨hv, h0⟩ | ⟨g, c', cur, hv, hb, hg, hnc, _⟩
  · cases hv
    refine ⟨?_, Nat.le_refl _⟩
    cases f with
    | nil => exact True.intro
    | node _ _ _ _ _ => simp [foLen] at hn
  · cases hv
    exact ⟨FoRow.lies (hB g hb) 0 (hr.kept (w' := X1) (S' := S') fun y hy => ⟨hS y hy, rfl⟩) (fun j u hu => by rw [Nat.zero_add]; exact owns_cell ho rfl j u hu), hnc⟩
/-- What 'along' answers. -/
def AlongC (w : World) (E SS : Nat → Prop) (y : Tr) (RR : World → Prop) (e : Ending) (X' : World) : Prop :=
  ∃ v, e = .returned v ∧ TrAt X' (fun z => SS z ∨ (w.heap.size ≤ z ∧ z < X'.heap.size)) v y ∧ X'.os = w.os ∧ X'.tape = w.tape ∧ X'.output = w.output ∧ w.heap.size ≤ X'.heap.size ∧ (∀ z, z < w.heap.size → ¬ E z → X'.heap[z]? = w.heap[z]?) ∧ RR X'
end Go.Proofs.Ythjniclhnfipdaa
namespace Go.Proofs.Ythjniclhnfipdaa
open Go.RowKit Go.Shelf
set_option linter.unusedVariables false
set_option linter.unusedSimpArgs false

theorem pathT_at : ∀ (id : Int) (t : Tr) (p : List Nat), pathT id t = some p → ∃ u, atT t p = some u ∧ u.id = id := by
  have key : ∀ (f : Fo) (id : Int) (i : Nat) (p : List Nat), fpi id i f = some p → ∃ j q u, p = (i + j) :: q ∧ ∃ v, kidF f j = some v ∧ atT v q = some u ∧ u.id = id := by
    intro f
    induction f with
    | nil => intro id i p h; simp [fpi] at h
    | node b o k l r ihl ihr =>
      intro id i p h
      simp only [fpi] at h
      split at h
      · rename_i hk
        cases h
        exact ⟨0, [], ⟨k.1, k.2.1, k.2.2, l⟩, rfl, _, rfl, rfl, hk⟩
      · split at h
        · rename_i q hq
          cases h
          obtain ⟨j, q', u, e, v, h1, h2, h3⟩ := ihl id 0 q hq
          subst e
          refine ⟨0, (0 + j) :: q', u, rfl, ⟨k.1, k.2.1, k.2.2, l⟩, rfl, ?_, h3⟩
          rw [atT]; simp only [Nat.zero_add, h1]; exact h2
        · obtain ⟨j, q', u, e, v, h1, h2, h3⟩ := ihr id (i + 1) p h
          refine ⟨j + 1, q', u, by rw [e]; congr 1; omega, v, ?_, h2, h3⟩
          simpa [kidF, foDrop] using h1
  intro id t p h
  rw [pathT] at h
  split at h
  · rename_i hid
    cases h
    exact ⟨t, rfl, hid⟩
  · obtain ⟨j, q, u, e, v, h1, h2, h3⟩ := key _ _ _ _ h
    subst e
    exact ⟨u, by rw [atT]; simp only [Nat.zero_add, h1]; exact h2, h3⟩
theorem atT_size : ∀ (p : List Nat) (t u : Tr), atT t p = some u → foSize u.kids + p.length ≤ foSize t.kids
  | [], t, u, h => by cases h; simp
  | i :: p, t, u, h => by
    simp only [atT] at h
    cases hk : kidF t.kids i with
    | none => rw [hk] at h; cases h
    | some v =>
      rw [hk] at h
      have h1 := atT_size p v u h
      have h2 := kidF_size hk
      simp only [List.length_cons]; omega
def zeroK : Tr := ⟨0, 0, ⟨#[]⟩, .nil⟩
/-- A node put below another one: the tree, the error. -/
def putK (par at_ : Int) (t x : Tr) : Tr × Int := match pathT par t with
  | none => (zeroK, 4)
  | some p => match atT t p with
    | none => (zeroK, 4)
    | some u => if 0 ≤ at_ ∧ at_ ≤ (foLen u.kids : Int) then (putP t p ⟨u.id, u.kind, u.text, insF u.kids at_.toNat x⟩, 0) else (putP t p u, 2)
/-- A node taken out: the tree, the node. -/
def takeK (t : Tr) (q : List Nat) (i : Nat) : Tr × Tr := match atT t q with
  | none => (zeroK, zeroK)
  | some u => match kidF u.kids i with
    | none => (zeroK, zeroK)
    | some v => (putP t q ⟨u.id, u.kind, u.text, delF u.kids i⟩, v)
theorem putP_size2 : ∀ (p : List Nat) (t u x : Tr), atT t p = some u → foSize (putP t p x).kids + foSize u.kids = foSize t.kids + foSize x.kids
  | [], t, u, x, h => by cases h; simp [putP]; omega
  | i :: p, t, u, x, h => by
    simp only [atT] at h
    simp only [putP]
    cases hk : kidF t.kids i with
    | none => rw [hk] at h; cases h
    | some v =>
      rw [hk] at h
      have h1 := putP_size2 p v u x h
      have h2 := setF_size2 t.kids i v (putP v p x) hk
      simp only
      omega
theorem putK_size (par at_ : Int) (t x : Tr) : foSize (putK par at_ t x).1.kids ≤ foSize t.kids + foSize x.kids + 1 := by
  unfold putK
  split
  · simp [zeroK, foSize]
  · split
    · simp [zeroK, foSize]
    · rename_i p hp _ u hu
      split
      · rename_i hc
        have h1 := putP_size2 p t u ⟨u.id, u.kind, u.text, insF u.kids at_.toNat x⟩ hu
        have h2 := insF_size u.kids at_.toNat x (by omega)
        simp only at h1 ⊢; omega
      · have h1 := putP_size2 p t u u hu
        simp only; omega
theorem takeK_size (t : Tr) (q : List Nat) (i : Nat) : foSize (takeK t q i).1.kids + foSize (takeK t q i).2.kids ≤ foSize t.kids := by
  unfold takeK
  split
  · simp [zeroK, foSize]
  · rename_i u hu
    split
    · simp [zeroK, foSize]
    · rename_i v hv
      have h1 := putP_size2 q t u ⟨u.id, u.kind, u.text, delF u.kids i⟩ hu
      have h2 := delF_size u.kids i v hv
      simp only at h1 ⊢; omega
end Go.Proofs.Ythjniclhnfipdaa
