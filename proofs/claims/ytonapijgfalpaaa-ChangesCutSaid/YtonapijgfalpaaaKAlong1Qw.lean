/-
  .
-/
import Derived.Test.YtonapijgfalpaaaKPathQw
import Derived.Test.YtonapijgfalpaaaKInsQw
import Derived.Deep.RegionHeld
import Derived.Test.YtonapijgfalpaaaECopyQw
import Derived.Deep.LoopGhost
import Derived.Deep.Cut
import Derived.Deep.RegionLaw
import Derived.Lib.BufSteps
import Derived.Test.YtonapijgfalpaaaKIdsQw
import Derived.Test.YtonapijgfalpaaaJPgQw
set_option linter.unusedVariables false
set_option linter.unusedSimpArgs false
namespace Go.Proofs.Ytonapijgfalpaaa
open Go.RowKit Go.Shelf
theorem foAt_cells {w : World} {S : Nat → Prop} : ∀ {f : Fo} {a : Option Addr}, FoAt w S f a → FoAt w (fun x => CellsB w x ∧ S x) f a
 | .nil, _, _ => True.intro
 | .node _ _ _ _ _, _, h => by
   obtain ⟨b, off, ka, cap, e, hb, h0, h1, h2, h3, hc, hl, hr⟩ := h
   have hcb : CellsB w b := by
    unfold World.cell? at h0
    cases hh : w.heap[b]? with
    | none => simp [hh] at h0
    | some o =>
      cases o with
      | cells cs t fr => exact ⟨cs, t, fr, hh⟩
      | _ => simp [hh] at h0
   exact ⟨b, off, ka, cap, e, ⟨hcb, hb⟩, h0, h1, h2, h3, hc, foAt_cells hl, foAt_cells hr⟩
theorem box4 {w : World} {b : Nat} {c0 c1 c2 c3 : Value} {T : TypeId} (h : w.heap[b]? = some (.cells #[c0, c1, c2, c3] T (0, 0))) : w.cell? ⟨b, 0, none⟩ = some c0 ∧ w.cell? ⟨b, 1, none⟩ = some c1 ∧ w.cell? ⟨b, 2, none⟩ = some c2 ∧ w.cell? ⟨b, 3, none⟩ = some c3 :=
 ⟨by rw [cell_of_row _ _ 0 _ _ _ h]; rfl, by rw [cell_of_row _ _ 1 _ _ _ h]; rfl, by rw [cell_of_row _ _ 2 _ _ _ h]; rfl, by rw [cell_of_row _ _ 3 _ _ _ h]; rfl⟩
theorem results_cellT {P : Program} {fn : Func} {p u : Tmp} {ty : TypeId} (h : fn.results = #[.cell p ty, .tmp u]) (tmps : Array Value) (w : World) (g : Nat) (t : TypeId) (cs : Array Value) (fr : Nat × Nat) (d : TypeDesc) (x : Value)
 (hp : tmps.getD p undef = .pointer (some ⟨g, 0, none⟩)) (hg : w.heap[g]? = some (.cells cs t fr)) (hu : P.underlying ty = some d) (hd : (match d with | .struct _ | .array _ _ => true | _ => false) = true) (hi : (P.info? ty).map (·.size) = some cs.size) (hp2 : tmps.getD u undef = x) :
 (results fn tmps).run P w = .ok (.tuple #[.agg cs, x]) w := by
 have hp' : tmps[p]?.getD undef = .pointer (some ⟨g, 0, none⟩) := by simpa using hp
 have hp2' : tmps[u]?.getD undef = x := by simpa using hp2
 simp [results, h, hp', hp2', asAddr, run_loadVar_row w g t ty cs fr d hg hu hd hi]
theorem four_set {V : World} {R1 : Nat} {c0 c1 c2 c3 u0 u1 u2 u3 : Value} (h2 : V.heap[R1]? = some (.cells #[c0, c1, c2, c3] 24 (0, 0))) :
 ∃ V5, V5 = ((((V.setCell ⟨R1, 0, none⟩ u0).setCell ⟨R1, 1, none⟩ u1).setCell ⟨R1, 2, none⟩ u2).setCell ⟨R1, 3, none⟩ u3) ∧ V5.heap[R1]? = some (.cells #[u0, u1, u2, u3] 24 (0, 0)) ∧ (∀ y, y ≠ R1 → V5.heap[y]? = V.heap[y]?) ∧ V5.os = V.os ∧ V5.tape = V.tape ∧ V5.output = V.output ∧ V5.heap.size = V.heap.size := by
 have g1 := heap_setCell_same V R1 0 _ _ u0 h2
 have g2 := heap_setCell_same _ R1 1 _ _ u1 g1
 have g3 := heap_setCell_same _ R1 2 _ _ u2 g2
 have g4 := heap_setCell_same _ R1 3 _ _ u3 g3
 refine ⟨_, rfl, by simpa using g4, fun y hy => ?_, rfl, rfl, rfl, by simp [World.setCell]⟩
 rw [Below.heap_setCell _ _ _ _ hy, Below.heap_setCell _ _ _ _ hy, Below.heap_setCell _ _ _ _ hy, Below.heap_setCell _ _ _ _ hy]
def AgreeE (E : Nat → Prop) (X X' : World) (b off : Nat) : Prop := (∀ y, y < X.heap.size → y ≠ b → ¬ E y → X'.heap[y]? = X.heap[y]?) ∧ ∀ j, (j < off ∨ off + 4 ≤ j) → X'.cell? ⟨b, j, none⟩ = X.cell? ⟨b, j, none⟩
def CtxE (B tb : Nat) (E S : Nat → Prop) (t : Tr) (X : World) (p : List Nat) (b off : Nat) : Prop := ∀ (X' : World) (S' : Nat → Prop) (u' : Tr), AgreeE E X X' b off → (∀ y, S y → S' y) → (∀ y, (y = tb ∨ B ≤ y) → S' y) → NodeAt X' S' u' b off → NodeAt X' S' (putP t p u') tb 0
structure AlH (W : World) (tb : Nat) (E : Nat → Prop) (X : World) : Prop where
 os : X.os = W.os
 tape : X.tape = W.tape
 output : X.output = W.output
 size : W.heap.size ≤ X.heap.size
 kept : ∀ y, y < W.heap.size → y ≠ tb → ¬ E y → X.heap[y]? = W.heap[y]?
structure AlS (W : World) (tb : Nat) (E S : Nat → Prop) : Prop where
 s : ∀ y, S y → y < W.heap.size ∧ y ≠ tb ∧ ¬ E y
 e : ∀ y, E y → y < W.heap.size ∧ y ≠ tb
 tb : tb < W.heap.size
structure AlN (W : World) (tb : Nat) (E S : Nat → Prop) (t : Tr) (X : World) (p : List Nat) (u : Tr) (b off : Nat) : Prop where
 at_ : atT t p = some u
 c0 : X.cell? ⟨b, off, none⟩ = some (.int .i64 u.id)
 c1 : X.cell? ⟨b, off + 1, none⟩ = some (.int .i64 u.kind)
 c2 : X.cell? ⟨b, off + 2, none⟩ = some (.string u.text)
 c3 : ∃ ka kc, X.cell? ⟨b, off + 3, none⟩ = some (.slice ka (foLen u.kids) kc) ∧ foLen u.kids ≤ kc ∧ FoAt X S u.kids ka ∧ (ka = none → foLen u.kids = 0)
 fz : ∀ j, X.frozen? ⟨b, j, none⟩ = false
 bl : b = tb ∨ W.heap.size ≤ b
 lt : b < X.heap.size
 ctx : CtxE W.heap.size tb E S t X p b off
theorem AlN.notE {W : World} {tb : Nat} {E S : Nat → Prop} {t : Tr} {X : World} {p : List Nat} {u : Tr} {b off : Nat} (hS : AlS W tb E S) (h : AlN W tb E S t X p u b off) : ¬ E b := fun he => by
 have := hS.e b he
 rcases h.bl with h | h <;> omega
theorem AlH.drew {W : World} {tb : Nat} {E : Nat → Prop} {X : World} (h : AlH W tb E X) : AlH W tb E X.drew := ⟨h.os, h.tape, h.output, h.size, h.kept⟩
theorem AlN.drew {W : World} {tb : Nat} {E S : Nat → Prop} {t : Tr} {X : World} {p : List Nat} {u : Tr} {b off : Nat} (h : AlN W tb E S t X p u b off) : AlN W tb E S t X.drew p u b off := by
 obtain ⟨ka, kc, d3, h1, h2, h3⟩ := h.c3
 exact ⟨h.at_, h.c0, h.c1, h.c2, ⟨ka, kc, d3, h1, FoAt.kept (w := X) (w' := X.drew) (S := S) (S' := S) (fun y hy => ⟨hy, rfl⟩) h2, h3⟩, h.fz, h.bl, h.lt, h.ctx⟩
structure AlC (W : World) (tb : Nat) (E S : Nat → Prop) (X : World) (u : Tr) (b off : Nat) (sv : Value) (xs : List Value) (X1 : World) : Prop where
 h : AlH W tb (fun _ => False) X1
 size : X.heap.size ≤ X1.heap.size
 c0 : X1.cell? ⟨b, off, none⟩ = some (.int .i64 u.id)
 c1 : X1.cell? ⟨b, off + 1, none⟩ = some (.int .i64 u.kind)
 c2 : X1.cell? ⟨b, off + 2, none⟩ = some (.string u.text)
 c3 : X1.cell? ⟨b, off + 3, none⟩ = some sv
 own : X1.ownsRow X.heap.size 24 4 sv (foLen u.kids) xs
 row : FoRow X1 S u.kids xs
 one : ∀ v ∈ xs, v.oneCell' = true
 fz : ∀ j, X1.frozen? ⟨b, j, none⟩ = false
 old : ∀ y, y < X.heap.size → y ≠ b → X1.heap[y]? = X.heap[y]?
 oth : ∀ j, (j < off ∨ off + 4 ≤ j) → X1.cell? ⟨b, j, none⟩ = X.cell? ⟨b, j, none⟩
theorem AlN.clone {W : World} {tb : Nat} {E S : Nat → Prop} {t : Tr} {X w1 : World} {p : List Nat} {u : Tr} {b off : Nat} {xs : List Value} {sv : Value} (hS : AlS W tb E S) (hH : AlH W tb (fun _ => False) X) (h : AlN W tb E S t X p u b off) (hr : FoRow X S u.kids xs) (h1 : ∀ v ∈ xs, v.oneCell' = true)
 (hb : Below X.heap.size X w1) (ho : w1.ownsRow X.heap.size 24 4 sv (foLen u.kids) xs) : AlC W tb E S X u b off sv xs (w1.setCell ⟨b, off + 3, none⟩ sv) := by
 obtain ⟨X1, hX1⟩ : ∃ X1, X1 = w1.setCell ⟨b, off + 3, none⟩ sv := ⟨_, rfl⟩
 rw [← hX1]
 have hs1 : X1.heap.size = w1.heap.size := by rw [hX1]; simp [World.setCell]
 have hset : ∀ y, y ≠ b → X1.heap[y]? = w1.heap[y]? := fun y hy => by rw [hX1]; exact Below.heap_setCell _ _ _ _ hy
 have hXs := hb.size
 have hbl : w1.heap[b]? = X.heap[b]? := hb.block b h.lt
 obtain ⟨ka0, kc0, d3, _, _, _⟩ := h.c3
 have hc3 : X1.cell? ⟨b, off + 3, none⟩ = some sv := by
  rw [hX1]; exact World.cell?_setCell_same' w1 _ _ (by rw [World.cell?_of_block hbl, d3]; rfl)
 have hco : ∀ i, i ≠ off + 3 → X1.cell? ⟨b, i, none⟩ = X.cell? ⟨b, i, none⟩ := fun i hi => by
  rw [hX1, World.cell?_setCell_other w1 ⟨b, off + 3, none⟩ ⟨b, i, none⟩ _ (by intro e; cases e; exact hi rfl)]; exact World.cell?_of_block hbl
 have hold : ∀ y, y < X.heap.size → y ≠ b → X1.heap[y]? = X.heap[y]? := fun y hy hn => (hset y hn).trans (hb.block y hy)
 have hS1 : ∀ y, S y → X1.heap[y]? = X.heap[y]? := fun y hy => by
  have h9 := hS.s y hy
  have := hH.size
  exact hold y (by omega) (by intro e; rcases h.bl with h8 | h8 <;> omega)
 refine ⟨⟨by rw [hX1]; exact hb.os.trans hH.os, by rw [hX1]; exact hb.tape.trans hH.tape, by rw [hX1]; exact hb.output.trans hH.output, by have := hH.size; omega, fun y hy hn he => ?_⟩, by omega, (hco _ (by omega)).trans h.c0, (hco _ (by omega)).trans h.c1, (hco _ (by omega)).trans h.c2, hc3, owns_kept ho (fun g' cur hc hg' => hset g' ?_), hr.kept (fun y hy => ⟨hy, hS1 y hy⟩), h1, fun j => ?_, hold, fun j hj => hco j (by omega)⟩
 · have := hH.size
   rw [hold y (by omega) (by intro e; rcases h.bl with h8 | h8 <;> omega)]
   exact hH.kept y hy hn he
 · have hgb := owns_bounds ho (g := g') hg'
   have := h.lt
   omega
 · rw [hX1, World.frozen?_setCell]
   exact (World.frozen?_of_block hbl).trans (h.fz j)
theorem AlN.down {W : World} {tb : Nat} {E S : Nat → Prop} {t : Tr} {X X1 : World} {p : List Nat} {u v : Tr} {b off j g gc : Nat} {xs : List Value} (hS : AlS W tb E S) (hH : AlH W tb (fun _ => False) X) (h : AlN W tb E S t X p u b off) (hv : kidF u.kids j = some v)
 (k : AlC W tb E S X u b off (.slice (some ⟨g, 0, none⟩) (foLen u.kids) gc) xs X1) : AlN W tb E S t X1 (p ++ [j]) v g (j * 4) ∧ b ≠ g ∧ X.heap.size ≤ g := by
 have hgb := owns_bounds k.own (g := g) rfl
 have hbg : b ≠ g := by have := h.lt; omega
 have hcell : ∀ i x, xs[i]? = some x → X1.cell? ⟨g, i, none⟩ = some x := fun i x hx => owns_cell k.own rfl i x hx
 have hcap : foLen u.kids ≤ gc := by
  rcases k.own.2 with ⟨hv0, h0⟩ | ⟨_, _, _, hv0, _, _, h3, _⟩
  · cases hv0
  · cases hv0; exact h3
 obtain ⟨na, nc, e0, e1, e2, e3, hnc, hnk⟩ := FoRow.nth u.kids j v xs k.row hv
 have hjl := kidF_some hv
 refine ⟨⟨by rw [atT_append, h.at_]; simp [atT, hv], hcell _ _ e0, hcell _ _ e1, hcell _ _ e2, ⟨na, nc, hcell _ _ e3, hnc, hnk, fun e => ?_⟩, fun i => World.ownsRow.frozenAt k.own i, Or.inr (by have := hH.size; omega), hgb.2, ?_⟩, hbg, hgb.1⟩
 · subst e
   cases hvk : v.kids with
   | nil => rfl
   | node _ _ _ _ _ => rw [hvk] at hnk; obtain ⟨_, _, _, _, e, _⟩ := hnk; cases e
 intro X' S' v' hA h1 h2 hn
 rw [putP_append p t u v v' j h.at_ hv]
 have hXs := k.size
 have hbE := h.notE hS
 have hSz := hH.size
 refine h.ctx X' S' ⟨u.id, u.kind, u.text, setF u.kids j v'⟩ ⟨fun y hy hne he => ?_, fun i hi => ?_⟩ h1 h2 ?_
 · rw [hA.1 y (by omega) (by omega) he]
   exact k.old y hy hne
 · have : X'.heap[b]? = X1.heap[b]? := hA.1 b (by have := h.lt; omega) hbg hbE
   rw [World.cell?_of_block (a := ⟨b, i, none⟩) this]
   exact k.oth i hi
 · have hbX : X'.heap[b]? = X1.heap[b]? := hA.1 b (by have := h.lt; omega) hbg hbE
   have hcx : ∀ i, X'.cell? ⟨b, i, none⟩ = X1.cell? ⟨b, i, none⟩ := fun i => World.cell?_of_block (a := ⟨b, i, none⟩) hbX
   have hgS : S' g := h2 g (Or.inr (by omega))
   refine ⟨h2 b h.bl, by rw [hcx]; exact k.c0, by rw [hcx]; exact k.c1, by rw [hcx]; exact k.c2, some ⟨g, 0, none⟩, gc, by rw [hcx, k.c3]; simp only [setF_len], by simp only [setF_len]; exact hcap, ?_⟩
   refine but_fill u.kids j (but_row u.kids j xs k.row hjl hgS (fun y hy => ⟨h1 y hy, hA.1 y (by have := hS.s y hy; omega) (by have := hS.s y hy; omega) (hS.s y hy).2.2⟩) (fun i x hx hi => ?_)) (by rw [Nat.zero_add]; exact hn) hjl
   rw [Nat.zero_add, hA.2 i (by omega)]
   exact hcell i x hx
def AlDone (W : World) (tb : Nat) (E SS : Nat → Prop) (X : World) (b : Nat) (y : Tr) (RR : World → Prop) (e : Ending) (X' : World) : Prop :=
 e = .returned (.tuple #[]) ∧ AlH W tb E X' ∧ X.heap.size ≤ X'.heap.size ∧ (∀ y, y < X.heap.size → y ≠ b → ¬ E y → X'.heap[y]? = X.heap[y]?) ∧ NodeAt X' (fun y => SS y ∨ (y = tb ∨ W.heap.size ≤ y)) y tb 0 ∧ RR X'
def ChgC (W : World) (tb : Nat) (E SS : Nat → Prop) (Bx : Nat) (X1 : World) (b off : Nat) (y : Tr) (RR : World → Prop) (e : Ending) (X' : World) : Prop :=
 e = .returned (.tuple #[]) ∧ X'.os = X1.os ∧ X'.tape = X1.tape ∧ X'.output = X1.output ∧ X1.heap.size ≤ X'.heap.size ∧ (∀ y, y < Bx → y ≠ b → ¬ E y → X'.heap[y]? = X1.heap[y]?) ∧ (∀ j, (j < off ∨ off + 4 ≤ j) → X'.cell? ⟨b, j, none⟩ = X1.cell? ⟨b, j, none⟩) ∧ NodeAt X' (fun y => SS y ∨ (y = tb ∨ W.heap.size ≤ y)) y b off ∧ RR X'
theorem AlN.done {W : World} {tb : Nat} {E S SS : Nat → Prop} {t : Tr} {X X1 X' : World} {p : List Nat} {u c : Tr} {b off : Nat} {sv : Value} {xs : List Value} {RR : World → Prop} {e : Ending} (hS : AlS W tb E S) (hSS : ∀ y, S y → SS y) (hH : AlH W tb (fun _ => False) X) (h : AlN W tb E S t X p u b off) (k : AlC W tb E S X u b off sv xs X1)
 (hc : ChgC W tb E SS X.heap.size X1 b off c RR e X') : AlDone W tb E SS X b (putP t p c) RR e X' := by
 obtain ⟨rfl, h1, h2, h3, h4, h5, h6, h7, h8⟩ := hc
 have hXs := k.size
 have hSz := hH.size
 refine ⟨rfl, ⟨h1.trans k.h.os, h2.trans k.h.tape, h3.trans k.h.output, by omega, fun y hy hn he => ?_⟩, by omega, fun y hy hn he => (h5 y hy hn he).trans (k.old y hy hn), ?_, h8⟩
 · rw [h5 y (by omega) (by intro e; rcases h.bl with h9 | h9 <;> omega) he]
   exact k.h.kept y hy hn (fun h => h)
 · exact h.ctx X' _ c ⟨fun y hy hn he => (h5 y hy hn he).trans (k.old y hy hn), fun j hj => (h6 j hj).trans (k.oth j hj)⟩ (fun y hy => Or.inl (hSS y hy)) (fun y hy => Or.inr hy) h7
theorem own_lies {X1 : World} {B n c : Nat} {a : Option Addr} {f : Fo} {xs : List Value} {S S' : Nat → Prop} (ho : X1.ownsRow B 24 4 (.slice a n c) n xs) (hr : FoRow X1 S f xs) (hn : n = foLen f) (hS : ∀ y, S y → S' y) (hB : ∀ y, B ≤ y → S' y) : FoAt X1 S' f a ∧ n ≤ c := by
 rcases ho.2 with ⟨hv, h0⟩ | ⟨g, c', cur, hv, hb, hg, hnc, _⟩
 · cases hv
   refine ⟨?_, Nat.le_refl _⟩
   cases f with
   | nil => exact True.intro
   | node _ _ _ _ _ => simp [foLen] at hn
 · cases hv
   exact ⟨FoRow.lies (hB g hb) 0 (hr.kept (w' := X1) (S' := S') fun y hy => ⟨hS y hy, rfl⟩) (fun j u hu => by rw [Nat.zero_add]; exact owns_cell ho rfl j u hu), hnc⟩
def AlongC (w : World) (E SS : Nat → Prop) (y : Tr) (RR : World → Prop) (e : Ending) (X' : World) : Prop :=
 ∃ v, e = .returned v ∧ TrAt X' (fun z => SS z ∨ (w.heap.size ≤ z ∧ z < X'.heap.size)) v y ∧ X'.os = w.os ∧ X'.tape = w.tape ∧ X'.output = w.output ∧ w.heap.size ≤ X'.heap.size ∧ (∀ z, z < w.heap.size → ¬ E z → X'.heap[z]? = w.heap[z]?) ∧ RR X'
structure Chg1 (P : Program) (W : World) (tb : Nat) (E S SS : Nat → Prop) (u : Tr) (lf : FuncId) (c0 : Value) (c : Tr) (RR : World → Prop) : Prop where
 enter : ∀ (args : Array Value) (w : World), (callFunc lf args).run P w = .ok (.enter lf args) w
 call : ∀ (X X1 : World) (b off : Nat) (sv : Value) (xs : List Value), AlH W tb (fun _ => False) X → AlC W tb E S X u b off sv xs X1 → b < X.heap.size → (b = tb ∨ W.heap.size ≤ b) → Calls P lf #[.pointer (some ⟨b, off, none⟩), c0] X1 (ChgC W tb E SS X.heap.size X1 b off c RR)
structure AlB1 (W : World) (tb : Nat) (E : Nat → Prop) (lf : FuncId) (c0 : Value) (CB DB : Nat) : Prop where
 down : W.heap[DB]? = some (.cells #[.func (.func 199) #[] #[.pointer (some ⟨CB, 0, none⟩), .pointer (some ⟨DB, 0, none⟩)]] 220 (0, 0))
 change : W.heap[CB]? = some (.cells #[.func (.func lf) #[] #[c0]] 143 (0, 0))
 hd : DB < W.heap.size ∧ DB ≠ tb ∧ ¬ E DB
 hc : CB < W.heap.size ∧ CB ≠ tb ∧ ¬ E CB
set_option maxRecDepth 100000 in
set_option maxHeartbeats 8000000 in
theorem down_along1 {W : World} {tb : Nat} {E S SS : Nat → Prop} {lf : FuncId} {c0 : Value} {t uL cT : Tr} {RR : World → Prop} (hS : AlS W tb E S) (hSS : ∀ y, S y → SS y) (hC : Chg1 Try.prog W tb E S SS uL lf c0 cT RR) (CB DB : Nat) (hB : AlB1 W tb E lf c0 CB DB) (hsz : foSize t.kids ≤ 400000) :
 ∀ (M : Nat) (X : World) (p l : List Nat) (u : Tr) (b off : Nat) (pa : Option Addr) (n pc : Nat), n < M → n = l.length → n ≤ 1000000 → AlH W tb (fun _ => False) X → AlN W tb E S t X p u b off → foSize u.kids ≤ 400000 → IntsL W (fun y => y < W.heap.size ∧ y ≠ tb ∧ ¬ E y) pa pc (natI l) → atT u l = some uL →
 Calls Try.prog 199 #[.pointer (some ⟨b, off, none⟩), .slice pa n pc, .pointer (some ⟨CB, 0, none⟩), .pointer (some ⟨DB, 0, none⟩)] X (AlDone W tb E SS X b (putP t (p ++ l) cT) RR) := by
 intro M
 induction M with
 | zero => intro X p l u b off pa n pc h; omega
 | succ M ih =>
   intro X p l u b off pa n pc hM hn hnb hH hN hus hp hat
   obtain ⟨ka, kc, d3, hkc, hk, hk0⟩ := hN.c3
   obtain ⟨xs, hr, hxl, hxc, hx1⟩ := fo_row' u.kids hk
   have hul := foLen_le u.kids
   have hcl := clone_Nodes X ka (foLen u.kids) kc xs hxl hx1 (by omega) hxc hk0
   obtain ⟨m, hm⟩ : ∃ m, m = foLen u.kids := ⟨_, rfl⟩
   rw [← hm] at d3 hcl
   have HCL := Lib.hid hcl
   have hblt := hN.lt
   have hfz := hN.fz
   by_cases hn0 : n = 0
   · subst hn0
     have hl : l = [] := List.length_eq_zero_iff.1 hn.symm
     subst hl
     have hu : u = uL := by simpa [atT] using hat
     subst hu
     have HA := Lib.hid (And.intro hH (And.intro hN (And.intro hr (And.intro hx1 (And.intro hm hblt)))))
     have hent := hC.enter
     clear ih hM hp hat hn hnb hH hN hkc hk hk0 hr hxl hxc hx1 hul hcl hus hm
     go_enter Try.func199, Try.ntmps199
     go_wp2_with fail
     refine HCL.out.mono ?_
     rintro e w1 ⟨v', rfl, hb1, ho⟩
     obtain ⟨va, vc, rfl⟩ := owns_slice ho
     have g3 : w1.cell? ⟨b, off + 3, none⟩ = some (.slice ka m kc) := (hb1.cell (p := ⟨b, off + 3, none⟩) hblt).trans d3
     have gf : ∀ j, w1.frozen? ⟨b, j, none⟩ = false := fun j => (World.frozen?_of_block (hb1.block b hblt)).trans (hfz j)
     rw [HA.out.2.2.2.2.1] at ho
     have hk1 := HA.out.2.1.clone hS HA.out.1 HA.out.2.2.1 HA.out.2.2.2.1 hb1 ho
     rw [← HA.out.2.2.2.2.1] at hk1
     obtain ⟨X1, hX1⟩ : ∃ X1, X1 = w1.setCell ⟨b, off + 3, none⟩ (.slice va m vc) := ⟨_, rfl⟩
     rw [← hX1] at hk1
     have hcb : X1.cell? ⟨CB, 0, none⟩ = some (.func (.func lf) #[] #[c0]) := by rw [cell_of_row _ _ 0 _ _ _ ((hk1.h.kept CB hB.hc.1 hB.hc.2.1 (fun h => h)).trans hB.change)]; rfl
     have HCH := Lib.hid (hC.call X X1 b off _ xs HA.out.1 hk1 hblt HA.out.2.1.bl)
     have HK1 := Lib.hid hk1
     have HX1 := Lib.hid hX1
     clear hb1 ho hk1 d3 hfz hX1 HCL
     rw [HX1.out] at hcb
     go_wp2_with fail
     rw [← HX1.out]
     refine HCH.out.mono ?_
     intro e X' hq
     have hd := HA.out.2.1.done hS hSS HA.out.1 HK1.out hq
     have hr0 := hq.1
     subst hr0
     have hd2 : AlDone W tb E SS X b (putP t (p ++ []) cT) RR (.returned (.tuple #[])) X' := by rw [List.append_nil]; exact hd
     have HD := Lib.hid hd2
     clear hd2
     clear hq hd hcb
     go_wp2_with fail
     go_end0
     exact HD.out
   · obtain ⟨j, l', rfl⟩ : ∃ j l', l = j :: l' := by
      cases l with
      | nil => simp at hn; omega
      | cons j l' => exact ⟨j, l', rfl⟩
     obtain ⟨q, rfl⟩ : ∃ q, n = q + 1 := ⟨n - 1, by omega⟩
     have hql : q = l'.length := by simp at hn; omega
     obtain ⟨pb, po, rfl, hpb, hpc⟩ := hp.2.resolve_left (fun e => by simp [natI] at e)
     have hnc : q + 1 ≤ pc := by have := hp.1; rw [natI_length, List.length_cons] at this; omega
     obtain ⟨v, hv, hatv⟩ : ∃ v, kidF u.kids j = some v ∧ atT v l' = some uL := by
      simp only [atT] at hat
      cases hkj : kidF u.kids j with
      | none => rw [hkj] at hat; cases hat
      | some v => rw [hkj] at hat; exact ⟨v, rfl, hat⟩
     have hjl := kidF_some hv
     have hvs := kidF_size hv
     obtain ⟨pq, hpq⟩ : ∃ pq : Option Addr, pq = if pc = 1 then some ⟨pb, po, none⟩ else some ⟨pb, po + 1, none⟩ := ⟨_, rfl⟩
     have hpd : IntsL W (fun y => y < W.heap.size ∧ y ≠ tb ∧ ¬ E y) pq (pc - 1) (natI l') := by
      rw [hpq]
      split
      · exact ⟨by rw [natI_length, ← hql]; omega, Or.inl (by
         have h2 : l' = [] := List.length_eq_zero_iff.1 (by omega)
         rw [h2]; rfl)⟩
      · have h9 : IntsL W (fun y => y < W.heap.size ∧ y ≠ tb ∧ ¬ E y) (some ⟨pb, po, none⟩) pc (natI (j :: l')) := hp
        have := h9.drop 1
        simpa [natI] using this
     have px : W.cell? ⟨pb, po, none⟩ = some (.int .i64 (j : Int)) := by have := hpc 0 (j : Int) (by simp [natI]); rwa [Nat.add_zero] at this
     have HA := Lib.hid (And.intro hH (And.intro hN (And.intro hr (And.intro hx1 (And.intro hm hblt)))))
     have HIH := Lib.hid ih
     have HP := Lib.hid (And.intro hpd (And.intro px (And.intro hpb (And.intro hql (And.intro (show q < M by omega) (And.intro (show q ≤ 1000000 by omega) (And.intro (show foSize v.kids ≤ 400000 by omega) hatv)))))))
     have HPQ := Lib.hid hpq
     have HV := Lib.hid (And.intro hv (show j < m by omega))
     have hq0 : ¬ (q : Int) + 1 = 0 := by omega
     clear ih hM hp hat hn hnb hH hN hkc hk hk0 hr hxl hxc hx1 hul hcl hus hm hpc hpb hatv hv hvs hpq hpd px hql hn0
     go_enter Try.func199, Try.ntmps199
     go_wp2_with fail
     refine HCL.out.mono ?_
     rintro e w1 ⟨v', rfl, hb1, ho⟩
     obtain ⟨g, gc, rfl, _⟩ := World.ownsRow.form ho (by have := HV.out.2; omega)
     have g3 : w1.cell? ⟨b, off + 3, none⟩ = some (.slice ka m kc) := (hb1.cell (p := ⟨b, off + 3, none⟩) hblt).trans d3
     have gf : ∀ j, w1.frozen? ⟨b, j, none⟩ = false := fun j => (World.frozen?_of_block (hb1.block b hblt)).trans (hfz j)
     rw [HA.out.2.2.2.2.1] at ho
     have hk1 := HA.out.2.1.clone hS HA.out.1 HA.out.2.2.1 HA.out.2.2.2.1 hb1 ho
     obtain ⟨hN2, hbg, hgX⟩ := HA.out.2.1.down hS HA.out.1 HV.out.1 hk1
     rw [← HA.out.2.2.2.2.1] at hk1 hN2
     obtain ⟨X1, hX1⟩ : ∃ X1, X1 = w1.setCell ⟨b, off + 3, none⟩ (.slice (some ⟨g, 0, none⟩) m gc) := ⟨_, rfl⟩
     rw [← hX1] at hk1 hN2
     have hdb : X1.cell? ⟨DB, 0, none⟩ = some (.func (.func 199) #[] #[.pointer (some ⟨CB, 0, none⟩), .pointer (some ⟨DB, 0, none⟩)]) := by rw [cell_of_row _ _ 0 _ _ _ ((hk1.h.kept DB hB.hd.1 hB.hd.2.1 (fun h => h)).trans hB.down)]; rfl
     have hpx : X1.cell? ⟨pb, po, none⟩ = some (.int .i64 (j : Int)) := (World.cell?_of_block (a := ⟨pb, po, none⟩) (hk1.h.kept pb HP.out.2.2.1.1 HP.out.2.2.1.2.1 (fun h => h))).trans HP.out.2.1
     have hc3 := hk1.c3
     have hcallD := HIH.out X1.drew (p ++ [j]) l' v g (j * 4) pq q (pc - 1) HP.out.2.2.2.2.1 HP.out.2.2.2.1 HP.out.2.2.2.2.2.1 hk1.h.drew hN2.drew HP.out.2.2.2.2.2.2.1 HP.out.1 HP.out.2.2.2.2.2.2.2
     have HCALLD := Lib.hid (show Calls Try.prog 199 #[.pointer (some ⟨g, j * 4, none⟩), .slice pq q (pc - 1), .pointer (some ⟨CB, 0, none⟩), .pointer (some ⟨DB, 0, none⟩)] X1.drew _ from hcallD)
     have HK1 := Lib.hid (And.intro hk1 (And.intro hbg hgX))
     have hbE := HA.out.2.1.notE hS
     have HKP := Lib.hid (And.intro hbE (show b < X1.heap.size by have := hk1.size; omega))
     have HX1 := Lib.hid hX1
     obtain ⟨SW, hSW⟩ : ∃ SW : World → Prop, SW = fun X => X.cell? ⟨DB, 0, none⟩ = some (.func (.func 199) #[] #[.pointer (some ⟨CB, 0, none⟩), .pointer (some ⟨DB, 0, none⟩)]) ∧ X.cell? ⟨b, off + 3, none⟩ = some (.slice (some ⟨g, 0, none⟩) m gc) ∧ X.cell? ⟨pb, po, none⟩ = some (.int .i64 (j : Int)) := ⟨_, rfl⟩
     have HSW := Lib.hid (fun (X : World) (h : SW X) => (show X.cell? ⟨DB, 0, none⟩ = some (.func (.func 199) #[] #[.pointer (some ⟨CB, 0, none⟩), .pointer (some ⟨DB, 0, none⟩)]) ∧ X.cell? ⟨b, off + 3, none⟩ = some (.slice (some ⟨g, 0, none⟩) m gc) ∧ X.cell? ⟨pb, po, none⟩ = some (.int .i64 (j : Int)) by rw [hSW] at h; exact h))
     have HMK := Lib.hid (fun (X : World) (h : X.cell? ⟨DB, 0, none⟩ = some (.func (.func 199) #[] #[.pointer (some ⟨CB, 0, none⟩), .pointer (some ⟨DB, 0, none⟩)]) ∧ X.cell? ⟨b, off + 3, none⟩ = some (.slice (some ⟨g, 0, none⟩) m gc) ∧ X.cell? ⟨pb, po, none⟩ = some (.int .i64 (j : Int))) => (show SW X by rw [hSW]; exact h))
     have hS0 : SW X1.drew := HMK.out _ ⟨hdb, hc3, hpx⟩
     have hjm : (j : Int) < (m : Int) := by have := HV.out.2; omega
     have hj0 : (0 : Int) ≤ (j : Int) := by omega
     have hq1 : (0 : Int) < (q : Int) + 1 := by omega
     clear hb1 ho hk1 hN2 hbg hgX d3 hfz hX1 HCL hcallD hdb hpx hc3 hSW hbE
     go_wp2_with fail
     rw [← HX1.out]
     refine wp_region_held_drew (S := SW) (by kernel_rfl) hS0 (fun hHeld => ?_)
     clear hS0
     refine tkH (i := 0) (.func (.func 199) #[] #[.pointer (some ⟨CB, 0, none⟩), .pointer (some ⟨DB, 0, none⟩)]) rfl (Or.inl ⟨by rfl, ?_⟩) (by assumption) ?_
     · clear hHeld; intro X hSw; obtain ⟨s0, s1, s2⟩ := HSW.out X hSw; clear hSw; go_simp
     simp only [Act.put, pg]
     refine tkH (i := 1) (.pointer (some ⟨b, off, none⟩)) rfl (Or.inl ⟨by rfl, fun X _ => by clear hHeld; go_simp⟩) (by assumption) ?_
     simp only [Act.put, pg]
     refine tkH (i := 2) (.pointer (some ⟨b, off, none⟩)) rfl (Or.inl ⟨by rfl, fun X _ => by clear hHeld; go_simp⟩) (by assumption) ?_
     simp only [Act.put, pg]
     refine tkH (i := 3) (.pointer (some ⟨b, off + 3, none⟩)) rfl (Or.inl ⟨by rfl, fun X _ => by clear hHeld; go_simp⟩) (by assumption) ?_
     simp only [Act.put, pg]
     refine tkH (i := 4) (.slice (some ⟨g, 0, none⟩) m gc) rfl (Or.inl ⟨by rfl, ?_⟩) (by assumption) ?_
     · clear hHeld; intro X hSw; obtain ⟨s0, s1, s2⟩ := HSW.out X hSw; clear hSw; go_simp
     simp only [Act.put, pg]
     refine tkH (i := 5) (.slice (some ⟨pb, po, none⟩) (q + 1) pc) rfl (Or.inl ⟨by rfl, fun X _ => by clear hHeld; go_simp⟩) (by assumption) ?_
     simp only [Act.put, pg]
     refine tkH (i := 6) (.pointer (some ⟨pb, po, none⟩)) rfl (Or.inl ⟨by rfl, fun X _ => by clear hHeld; go_simp⟩) (by assumption) ?_
     simp only [Act.put, pg]
     refine tkH (i := 7) (.int .i64 (j : Int)) rfl (Or.inl ⟨by rfl, ?_⟩) (by assumption) ?_
     · clear hHeld; intro X hSw; obtain ⟨s0, s1, s2⟩ := HSW.out X hSw; clear hSw; go_simp
     simp only [Act.put, pg]
     refine tkH (i := 8) (.pointer (some ⟨g, j * 4, none⟩)) rfl (Or.inl ⟨by rfl, fun X _ => by clear hHeld; go_simp⟩) (by assumption) ?_
     simp only [Act.put, pg]
     refine tkH (i := 9) (.slice (some ⟨pb, po, none⟩) (q + 1) pc) rfl (Or.inl ⟨by rfl, fun X _ => by clear hHeld; go_simp⟩) (by assumption) ?_
     simp only [Act.put, pg]
     refine tkH (i := 10) (.slice pq q (pc - 1)) rfl (Or.inl ⟨by rfl, ?_⟩) (by assumption) ?_
     · clear hHeld; intro X hSw; clear hSw; have h1 : (1 : Int) ≤ (q : Int) + 1 := by omega
       go_simp; rw [HPQ.out]
     simp only [Act.put, pg]
     refine wpAnyH_ready (rs := [11]) (by kernel_rfl) (by simp) ?_
     refine AllReadyH.cons (o := _) rfl (fun K hK => ?_) AllReadyH.nil
     rw [if_pos (by rfl)]
     simp only [pg3]
     have HK := Lib.hid hK
     clear hK hHeld
     go_wp2_with (go_at_call 199; refine HCALLD.out.mono ?_; rintro e X' ⟨rfl, hd⟩; have HD := Lib.hid hd; clear hd)
     refine HK.out _ _ (HMK.out _ ?_) (fun hHeld => ?_)
     · obtain ⟨k1, _, k3, _, _⟩ := HD.out
       have hgb := HK1.out.2
       refine ⟨?_, ?_, ?_⟩
       · rw [cell_of_row _ _ 0 _ _ _ ((k1.kept DB hB.hd.1 hB.hd.2.1 hB.hd.2.2).trans hB.down)]; rfl
       · exact (World.cell?_of_block (a := ⟨b, off + 3, none⟩) (k3 b HKP.out.2 hgb.1 HKP.out.1)).trans HK1.out.1.c3
       · exact (World.cell?_of_block (a := ⟨pb, po, none⟩) (k1.kept pb HP.out.2.2.1.1 HP.out.2.2.1.2.1 HP.out.2.2.1.2.2)).trans HP.out.2.1
     clear HK hHeld
     refine wpAnyH_done (by kernel_rfl) ?_ _
     go_wp2_with fail
     go_end0
     obtain ⟨k1, k2, k3, k4, k5⟩ := HD.out
     have hs1 := HK1.out.1.size
     have k2' : X1.heap.size ≤ X'.heap.size := k2
     refine ⟨rfl, k1, by omega, fun y hy hn he => ?_, by rw [List.append_assoc] at k4; exact k4, k5⟩
     rw [k3 y (show y < X1.heap.size by omega) (by have := HK1.out.2.2; omega) he]
     exact HK1.out.1.old y hy hn
set_option maxRecDepth 100000 in
set_option maxHeartbeats 8000000 in
theorem along1 (w : World) {E S SS : Nat → Prop} {lf : FuncId} {c0 : Value} {RR : World → Prop} (nv : Value) (t uL cT : Tr) (p : List Nat) (pa : Option Addr) (n pc : Nat) (hS : ∀ y, S y → y < w.heap.size ∧ ¬ E y) (hSS : ∀ y, SS y → y < w.heap.size ∧ ¬ E y) (hsub : ∀ y, S y → SS y) (hE : ∀ y, E y → y < w.heap.size) (hn : n = p.length) (hnb : n ≤ 1000000)
 (ht : TrAt w S nv t) (hsz : foSize t.kids ≤ 400000) (hp : IntsL w (fun y => y < w.heap.size ∧ ¬ E y) pa pc (natI p)) (hat : atT t p = some uL) (hC : ∀ W, Below w.heap.size w W → W.heap.size = w.heap.size + 4 → Chg1 Try.prog W w.heap.size E S SS uL lf c0 cT RR) (hRR : ∀ X X' : World, (∀ y, E y → X'.heap[y]? = X.heap[y]?) → RR X → RR X') :
 Calls Try.prog 188 #[nv, .slice pa n pc, .func (.func lf) #[] #[c0]] w (AlongC w E SS (putP t p cT) RR) := by
 have hmf : ∀ (fn : Fn) (first cap : Array Value) (w : World), (Instr.makeFunc fn first cap).run Try.prog w = .ok (.func fn first cap) w := fun _ _ _ _ => rfl
 obtain ⟨ka, tc, rfl, hcap, hk⟩ := ht
 obtain ⟨nk, hnk⟩ : ∃ nk, nk = foLen t.kids := ⟨_, rfl⟩
 rw [← hnk]
 obtain ⟨DV, hDV⟩ : ∃ DV, DV = Value.func (.func 199) #[] #[.pointer (some ⟨w.heap.size + 1, 0, none⟩), .pointer (some ⟨w.heap.size + 1 + 1 + 1, 0, none⟩)] := ⟨_, rfl⟩
 obtain ⟨W, hW⟩ : ∃ W, W = allocs w [.cells #[.int .i64 t.id, .int .i64 t.kind, .string t.text, .slice ka nk tc] 24, .cells #[.func (.func lf) #[] #[c0]] 143, .cells #[.int .i64 0, .int .i64 0, .string ⟨#[]⟩, .slice none 0 0] 24, .cells #[DV] 220] := ⟨_, rfl⟩
 have hb : Below w.heap.size w W := by rw [hW]; exact allocs_below _ _
 have hs : W.heap.size = w.heap.size + 4 := by rw [hW]; exact allocs_size _ _
 have h0 : W.heap[w.heap.size]? = some (.cells #[.int .i64 t.id, .int .i64 t.kind, .string t.text, .slice ka nk tc] 24 (0, 0)) := by rw [hW]; exact allocs_at _ _ 0 _ rfl
 have h1 : W.heap[w.heap.size + 1]? = some (.cells #[.func (.func lf) #[] #[c0]] 143 (0, 0)) := by rw [hW]; exact allocs_at _ _ 1 _ rfl
 have h2 : W.heap[w.heap.size + 2]? = some (.cells #[.int .i64 0, .int .i64 0, .string ⟨#[]⟩, .slice none 0 0] 24 (0, 0)) := by rw [hW]; exact allocs_at _ _ 2 _ rfl
 have h3 : W.heap[w.heap.size + 3]? = some (.cells #[DV] 220 (0, 0)) := by rw [hW]; exact allocs_at _ _ 3 _ rfl
 have hAS : AlS W w.heap.size E S := ⟨fun y hy => ⟨by have := (hS y hy).1; omega, by have := (hS y hy).1; omega, (hS y hy).2⟩, fun y hy => ⟨by have := hE y hy; omega, by have := hE y hy; omega⟩, by omega⟩
 have hAB : AlB1 W w.heap.size E lf c0 (w.heap.size + 1) (w.heap.size + 3) := ⟨by rw [h3, hDV], h1, ⟨by omega, by omega, fun h => by have := hE _ h; omega⟩, ⟨by omega, by omega, fun h => by have := hE _ h; omega⟩⟩
 have hAH : AlH W w.heap.size (fun _ => False) W := ⟨rfl, rfl, rfl, Nat.le_refl _, fun _ _ _ _ => rfl⟩
 have hkW : FoAt W S t.kids ka := hk.kept (w' := W) (S' := S) fun y hy => ⟨hy, hb.block y (hS y hy).1⟩
 obtain ⟨b0, b1, b2, b3⟩ := box4 h0
 have hAN : AlN W w.heap.size E S t W [] t w.heap.size 0 := ⟨rfl, b0, b1, b2, ⟨ka, tc, by rw [← hnk]; exact b3, hcap, hkW, fun e => by
  rw [e] at hkW
  cases hkk : t.kids with
  | nil => rfl
  | node _ _ _ _ _ => rw [hkk] at hkW; obtain ⟨_, _, _, _, e2, _⟩ := hkW; cases e2⟩, fun j => frozen_of_row _ _ j _ _ h0, Or.inl rfl, by omega, fun X' S' u' _ _ _ hn => hn⟩
 have hc := down_along1 hAS hsub (hC W hb hs) (w.heap.size + 1) (w.heap.size + 3) hAB hsz (n + 1) W [] p t w.heap.size 0 pa n pc (Nat.lt_succ_self _) hn hnb hAH hAN hsz (hp.kept fun y hy => ⟨⟨by omega, by omega, hy.2⟩, hb.block y hy.1⟩) hat
 rw [List.nil_append] at hc
 have HC := Lib.hid (And.intro hc (And.intro hb (And.intro hs (And.intro hW h2))))
 have HDV := Lib.hid hDV
 have HQ := Lib.hid (And.intro hRR (And.intro hE hSS))
 clear hc hb hs hW h0 h1 h2 h3 hAS hAB hAH hAN hkW b0 b1 b2 b3 hp hn hDV hS hSS hsub hE hk hcap hC hRR hat hsz hnb hnk
 go_enter Try.func188, Try.ntmps188
 go_wp2_with fail
 have hWW := HC.out.2.2.2.1
 rw [HDV.out] at hWW
 change Calls _ _ _ (allocs w [.cells #[.int .i64 t.id, .int .i64 t.kind, .string t.text, .slice ka nk tc] 24, .cells #[.func (.func lf) #[] #[c0]] 143, .cells #[.int .i64 0, .int .i64 0, .string ⟨#[]⟩, .slice none 0 0] 24, .cells #[Value.func (.func 199) #[] #[.pointer (some ⟨w.heap.size + 1, 0, none⟩), .pointer (some ⟨w.heap.size + 1 + 1 + 1, 0, none⟩)]] 220]) _
 rw [← hWW]
 clear hWW
 refine HC.out.1.mono ?_
 rintro e X ⟨rfl, k1, k2, k3, k4, k5⟩
 obtain ⟨y, hy⟩ : ∃ y, y = putP t p cT := ⟨_, rfl⟩
 rw [← hy] at k4 ⊢
 have HY := Lib.hid hy
 obtain ⟨_, d0, d1, d2, kb, kc, d3, hkc, hkk⟩ := k4
 simp only [Nat.zero_add] at d1 d2 d3
 have hr : X.heap[w.heap.size + 2]? = some (.cells #[.int .i64 0, .int .i64 0, .string ⟨#[]⟩, .slice none 0 0] 24 (0, 0)) := (k1.kept _ (by have := HC.out.2.2.1; omega) (by omega) (fun h => by have := HQ.out.2.1 _ h; omega)).trans HC.out.2.2.2.2
 have hkk2 := foAt_cells hkk
 obtain ⟨yn, hyn⟩ : ∃ yn, yn = foLen y.kids := ⟨_, rfl⟩
 rw [← hyn] at d3
 obtain ⟨z0, z1, z2, z3⟩ := box4 hr
 have zf : ∀ j, X.frozen? ⟨w.heap.size + 2, j, none⟩ = false := fun j => frozen_of_row _ _ j _ _ hr
 obtain ⟨V, hV, r1, r2, r3, r4, r5, r6⟩ := four_set (u0 := .int .i64 y.id) (u1 := .int .i64 y.kind) (u2 := .string y.text) (u3 := .slice kb yn kc) hr
 have HV := Lib.hid hV
 have hfin : AlongC w E SS y RR (.returned (.agg #[.int .i64 y.id, .int .i64 y.kind, .string y.text, .slice kb yn kc])) V := by
  have hs := HC.out.2.2.1
  have hXs := k1.size
  refine ⟨_, rfl, ⟨kb, kc, by rw [hyn], hkc, hkk2.kept fun z hz => ⟨?_, r2 z ?_⟩⟩, r3.trans (k1.os.trans HC.out.2.1.os), r4.trans (k1.tape.trans HC.out.2.1.tape), r5.trans (k1.output.trans HC.out.2.1.output), by omega, fun z hz he => ?_, HQ.out.1 X V (fun z hz => r2 z (by have := HQ.out.2.1 z hz; omega)) k5⟩
  · have hzl := hz.1.lt
    rcases hz.2 with h | h | h
    · exact Or.inl h
    · exact Or.inr ⟨by omega, by omega⟩
    · exact Or.inr ⟨by omega, by omega⟩
  · rcases hz.2 with h | h | h
    · have := (HQ.out.2.2 z h).1; omega
    · omega
    · omega
  · rw [r2 z (by omega), k1.kept z (by omega) (by omega) he]
    exact HC.out.2.1.block z hz
 have HF := Lib.hid (And.intro hfin r1)
 clear hfin r1 r2 r3 r4 r5 r6 hV k1 k2 k3 k5 hkc hkk hkk2 hyn hy
 go_wp2_with fail
 rw [← HV.out]
 refine bodyPost_ret (results_cellW rfl _ _ (w.heap.size + 2) 24 _ _ _ rfl HF.out.2 Try.underlying24 rfl (by kernel_rfl)) rfl ?_
 rw [← HY.out]
 exact HF.out.1
end Go.Proofs.Ytonapijgfalpaaa
namespace Go.Proofs.Ytonapijgfalpaaa
open Go.RowKit Go.Shelf
def NB (X : World) (y : Nat) : Prop := ∃ cs, X.heap[y]? = some (.cells cs 24 (0, 0))
theorem owns_type {w : World} {B : Nat} {e : TypeId} {size : Nat} {v : Value} {n : Nat} {xs : List Value} (h : w.ownsRow B e size v n xs) {g : Nat} (hg : v.ownBlock = some g) : ∃ cur, w.heap[g]? = some (.cells cur e (0, 0)) := by
 rcases h.2 with ⟨hv, _⟩ | ⟨g', cap, cur, hv, hB, hh, _⟩
 · rw [hv] at hg; cases hg
 · rw [hv] at hg; cases hg; exact ⟨cur, hh⟩
structure Wr where
 a : Option Addr
 f : Fo
 cap : Nat
def Wr.v (x : Wr) : Value := .slice x.a (foLen x.f) x.cap
theorem results_cellI {P : Program} {fn : Func} {p : Tmp} {ty : TypeId} (h : fn.results = #[.cell p ty]) (tmps : Array Value) (w : World) (g : Nat) (t : TypeId) (cs : Array Value) (fr : Nat × Nat) (d : TypeDesc)
 (hp : tmps.getD p undef = .pointer (some ⟨g, 0, none⟩)) (hg : w.heap[g]? = some (.cells cs t fr)) (hu : P.underlying ty = some d) (hd : (match d with | .struct _ | .array _ _ => true | _ => false) = true) (hi : (P.info? ty).map (·.size) = some cs.size) :
 (results fn tmps).run P w = .ok (.agg cs) w := by
 have hp' : tmps[p]?.getD undef = .pointer (some ⟨g, 0, none⟩) := by simpa using hp
 simp [results, h, hp', asAddr, run_loadVar_row w g t ty cs fr d hg hu hd hi]
end Go.Proofs.Ytonapijgfalpaaa
