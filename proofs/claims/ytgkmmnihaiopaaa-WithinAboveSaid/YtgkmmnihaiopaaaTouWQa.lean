/-
  .
-/
import Derived.Deep.RegionHeld
import Derived.Test.YtgkmmnihaiopaaaHPathQa
import Derived.Test.YtgkmmnihaiopaaaKPathQa
import Derived.Test.YtgkmmnihaiopaaaKInsQa
import Derived.Deep.Cut
import Derived.RegionTactic
import Derived.BigRegion
import Derived.Test.YtgkmmnihaiopaaaJPgQa
set_option maxRecDepth 100000
set_option maxHeartbeats 40000000
set_option linter.unusedVariables false
set_option linter.unusedSimpArgs false
namespace Go.Proofs.Ytgkmmnihaiopaaa
open Go.RowKit Go.Shelf
structure AbI (w0 W : World) (zs : Array Value) (ids : List Int) (n k : Nat) (wr : World) : Prop where
 row : wr.ownsRow w0.heap.size 3 1 (.slice (some ⟨W.heap.size, 0, none⟩) n n) n ((ids.map vE).take k ++ zs.toList.drop k)
 below : Below W.heap.size W wr
 cell : wr.heap[W.heap.size + 1]? = some (.cells #[.slice (some ⟨W.heap.size, 0, none⟩) n n] 65 (0, 0))
theorem AbI.step {w0 W wr w6 : World} {zs : Array Value} {ids : List Int} {n k : Nat} {x : Int} {o : Obj} (h : AbI w0 W zs ids n k wr) (hz : zs.size = n) (hn : n = ids.length) (hx : ids[k]? = some x) (hb : Below (wr.alloc o).heap.size (wr.alloc o) w6) : AbI w0 W zs ids n (k + 1) (w6.setCell ⟨W.heap.size, k, none⟩ (.int .i64 x)) := by
 have hk := (List.getElem?_eq_some_iff.1 hx).1
 have hsz : wr.heap.size ≤ w6.heap.size := by have := hb.size; rw [World.size_alloc] at this; omega
 have hblk : ∀ y, y < wr.heap.size → w6.heap[y]? = wr.heap[y]? := fun y hy => (hb.block y (by rw [World.size_alloc]; omega)).trans (Below.heap_alloc wr o y hy)
 have h1 := zG h.row (w' := w6) (fun g cur hc _ => hblk g (lt_of_some hc))
 have h2 := (World.ownsRow.stored h1 k (.int .i64 x)).1
 have e : ((ids.map vE).take k ++ zs.toList.drop k).set k (.int .i64 x) = (ids.map vE).take (k + 1) ++ zs.toList.drop (k + 1) := by
  have hl : ((ids.map vE).take k).length = k := by rw [List.length_take, List.length_map]; omega
  rw [List.set_append_right _ _ (by omega), hl, Nat.sub_self]
  have hz2 : k < zs.toList.length := by rw [Array.length_toList]; omega
  rw [← List.getElem_cons_drop hz2, pgE, List.take_add_one]
  have h3 : (ids.map vE)[k]? = some (.int .i64 x) := by rw [List.getElem?_map, hx]; rfl
  rw [h3]; simp
 rw [e] at h2
 have hb6 : Below W.heap.size W w6 := h.below.trans ⟨hb.os, hb.tape, hb.output, hsz, fun y hy => hblk y (by have := h.below.size; omega)⟩
 refine ⟨h2, hb6.setCell (p := ⟨W.heap.size, k, none⟩) (Nat.le_refl _) _, ?_⟩
 rw [Below.heap_setCell _ _ _ _ (by simp), hblk _ (lt_of_heap h.cell)]
 exact h.cell
attribute [local go_sem] Oper.semAt_some
def zem (w : World) (b : Nat) (ids : List Int) (S : Nat → Prop) : Prop := ∃ a cap, w.heap[b]? = some (.cells #[.slice a ids.length cap] 65 (0, 0)) ∧ w.ownsRow 0 3 1 (.slice a ids.length cap) ids.length (ids.map vE) ∧ S b ∧ (∀ g, (Value.slice a ids.length cap).ownBlock = some g → S g) ∧ ∀ y, S y → y < w.heap.size
theorem zem.kept {w w' : World} {b : Nat} {ids : List Int} {S : Nat → Prop} (h : zem w b ids S) (hs : w.heap.size ≤ w'.heap.size) (hk : ∀ y, S y → w'.heap[y]? = w.heap[y]?) : zem w' b ids S := by
 obtain ⟨a, cap, h1, h2, h3, h4, h5⟩ := h
 exact ⟨a, cap, (hk b h3).trans h1, zG h2 (fun g cur hc hg => hk g (h4 g hg)), h3, h4, fun y hy => nL (h5 y hy) hs⟩
def zf9 (P : Program) (m l : Nat) (S : Nat → Prop) (tl : List Int) (J : Nat → World → Prop) (Jx : World → Prop) : Prop :=
 ∀ (k : Nat) (x : Int) (w : World), tl[k]? = some x → (∀ y, S y → y < w.heap.size) → J k w → YieldAt Fence.wide m P l #[.int .i64 x] w fun e w' => w.heap.size ≤ w'.heap.size ∧ (∀ y, S y → w'.heap[y]? = w.heap[y]?) ∧ ((e = .returned (.bool true) ∧ J (k + 1) w') ∨ (e = .returned (.bool false) ∧ Jx w'))
def Zf (tl : List Int) (J : Nat → World → Prop) (Jx : World → Prop) (e : Ending) (V : World) : Prop := (∃ v, e = .returned v) ∧ (J tl.length V ∨ Jx V)
theorem Zf.mk0 {tl : List Int} {J : Nat → World → Prop} {Jx : World → Prop} {V : World} {k : Nat} {v : Value} (h : J k V) (hk : k = tl.length) : Zf tl J Jx (.returned v) V := ⟨⟨v, rfl⟩, Or.inl (hk ▸ h)⟩
theorem Zf.mkx {tl : List Int} {J : Nat → World → Prop} {Jx : World → Prop} {V : World} {v : Value} (h : Jx V) : Zf tl J Jx (.returned v) V := ⟨⟨v, rfl⟩, Or.inr h⟩
def zeq (B : Nat) (S : Nat → Prop) (I : Nat → World → Prop) (Ix : Code → World → Prop) (k : Nat) (W : World) (e : Exit) (_ : Act) (V : World) : Prop :=
 KeepsFrom B W V ∧ (∀ y, S y → V.heap[y]? = W.heap[y]?) ∧ ((e = .normal ∧ I (k + 1) V) ∨ (e = .ret ∧ Ix .ret V) ∨ ∃ id, e = .exit id ∧ Ix (.exit id) V)
end Go.Proofs.Ytgkmmnihaiopaaa
namespace Go.Proofs.Ytgkmmnihaiopaaa
open Go.RowKit Go.Shelf
theorem qy {w : World} {S : Nat → Prop} : ∀ {f : Fo} {a : Option Addr}, zC w S f a → zC w (fun x => zK w x ∧ S x) f a
 | .nil, _, _ => True.intro
 | .node _ _ _ _ _, _, h => by
   obtain ⟨b, off, ka, cap, e, hb, h0, h1, h2, h3, hc, hl, hr⟩ := h
   have hcb : zK w b := by
    unfold World.cell? at h0
    cases hh : w.heap[b]? with
    | none => simp [hh] at h0
    | some o =>
      cases o with
      | cells cs t fr => exact ⟨cs, t, fr, hh⟩
      | _ => simp [hh] at h0
   exact ⟨b, off, ka, cap, e, ⟨hcb, hb⟩, h0, h1, h2, h3, hc, qy hl, qy hr⟩
theorem zF {w : World} {b : Nat} {c0 c1 c2 c3 : Value} {T : TypeId} (h : w.heap[b]? = some (.cells #[c0, c1, c2, c3] T (0, 0))) : w.cell? ⟨b, 0, none⟩ = some c0 ∧ w.cell? ⟨b, 1, none⟩ = some c1 ∧ w.cell? ⟨b, 2, none⟩ = some c2 ∧ w.cell? ⟨b, 3, none⟩ = some c3 :=
 ⟨by rw [cell_of_row _ _ 0 _ _ _ h]; rfl, by rw [cell_of_row _ _ 1 _ _ _ h]; rfl, by rw [cell_of_row _ _ 2 _ _ _ h]; rfl, by rw [cell_of_row _ _ 3 _ _ _ h]; rfl⟩
theorem qW {P : Program} {fn : Func} {p u : Tmp} {ty : TypeId} (h : fn.results = #[.cell p ty, .tmp u]) (tmps : Array Value) (w : World) (g : Nat) (t : TypeId) (cs : Array Value) (fr : Nat × Nat) (d : TypeDesc) (x : Value)
 (hp : tmps.getD p undef = .pointer (some ⟨g, 0, none⟩)) (hg : w.heap[g]? = some (.cells cs t fr)) (hu : P.underlying ty = some d) (hd : (match d with | .struct _ | .array _ _ => true | _ => false) = true) (hi : (P.info? ty).map (·.size) = some cs.size) (hp2 : tmps.getD u undef = x) :
 (results fn tmps).run P w = .ok (.tuple #[.agg cs, x]) w := by
 have hp' : tmps[p]?.getD undef = .pointer (some ⟨g, 0, none⟩) := by simpa using hp
 have hp2' : tmps[u]?.getD undef = x := by simpa using hp2
 simp [results, h, hp', hp2', asAddr, run_loadVar_row w g t ty cs fr d hg hu hd hi]
theorem zt {V : World} {R1 : Nat} {c0 c1 c2 c3 u0 u1 u2 u3 : Value} (h2 : V.heap[R1]? = some (.cells #[c0, c1, c2, c3] 27 (0, 0))) :
 ∃ V5, V5 = ((((V.setCell ⟨R1, 0, none⟩ u0).setCell ⟨R1, 1, none⟩ u1).setCell ⟨R1, 2, none⟩ u2).setCell ⟨R1, 3, none⟩ u3) ∧ V5.heap[R1]? = some (.cells #[u0, u1, u2, u3] 27 (0, 0)) ∧ (∀ y, y ≠ R1 → V5.heap[y]? = V.heap[y]?) ∧ V5.os = V.os ∧ V5.tape = V.tape ∧ V5.output = V.output ∧ V5.heap.size = V.heap.size := by
 have g1 := heap_setCell_same V R1 0 _ _ u0 h2
 have g2 := heap_setCell_same _ R1 1 _ _ u1 g1
 have g3 := heap_setCell_same _ R1 2 _ _ u2 g2
 have g4 := heap_setCell_same _ R1 3 _ _ u3 g3
 refine ⟨_, rfl, by simpa using g4, fun y hy => ?_, rfl, rfl, rfl, by simp [World.setCell]⟩
 rw [Below.heap_setCell _ _ _ _ hy, Below.heap_setCell _ _ _ _ hy, Below.heap_setCell _ _ _ _ hy, Below.heap_setCell _ _ _ _ hy]
def zgg (E : Nat → Prop) (X X' : World) (b off : Nat) : Prop := (∀ y, y < X.heap.size → y ≠ b → ¬ E y → X'.heap[y]? = X.heap[y]?) ∧ ∀ j, (j < off ∨ off + 4 ≤ j) → X'.cell? ⟨b, j, none⟩ = X.cell? ⟨b, j, none⟩
def zhg (B tb : Nat) (E S : Nat → Prop) (t : Tr) (X : World) (p : List Nat) (b off : Nat) : Prop := ∀ (X' : World) (S' : Nat → Prop) (u' : Tr), zgg E X X' b off → (∀ y, S y → S' y) → (∀ y, (y = tb ∨ B ≤ y) → S' y) → qM X' S' u' b off → qM X' S' (zO t p u') tb 0
structure AlH (W : World) (tb : Nat) (E : Nat → Prop) (X : World) : Prop where
 os : X.os = W.os
 tape : X.tape = W.tape
 output : X.output = W.output
 size : W.heap.size ≤ X.heap.size
 kept : ∀ y, y < W.heap.size → y ≠ tb → ¬ E y → X.heap[y]? = W.heap[y]?
structure AlS (W : World) (tb : Nat) (E S : Nat → Prop) : Prop where
 s : ∀ y, S y → y < W.heap.size ∧ y ≠ tb ∧ ¬ E y
 e : ∀ y, E y → y < W.heap.size ∧ y ≠ tb
 tb : tb < W.heap.size
structure AlN (W : World) (tb : Nat) (E S : Nat → Prop) (t : Tr) (X : World) (p : List Nat) (u : Tr) (b off : Nat) : Prop where
 at_ : atT t p = some u
 c0 : X.cell? ⟨b, off, none⟩ = some (.int .i64 u.id)
 c1 : X.cell? ⟨b, off + 1, none⟩ = some (.int .i64 u.kind)
 c2 : X.cell? ⟨b, off + 2, none⟩ = some (.string u.text)
 c3 : ∃ ka kc, X.cell? ⟨b, off + 3, none⟩ = some (.slice ka (foLen u.kids) kc) ∧ foLen u.kids ≤ kc ∧ zC X S u.kids ka ∧ (ka = none → foLen u.kids = 0)
 fz : ∀ j, X.frozen? ⟨b, j, none⟩ = false
 bl : b = tb ∨ W.heap.size ≤ b
 lt : b < X.heap.size
 ctx : zhg W.heap.size tb E S t X p b off
theorem AlN.notE {W : World} {tb : Nat} {E S : Nat → Prop} {t : Tr} {X : World} {p : List Nat} {u : Tr} {b off : Nat} (hS : AlS W tb E S) (h : AlN W tb E S t X p u b off) : ¬ E b := fun he => by
 have := hS.e b he
 rcases h.bl with h | h <;> omega
theorem AlH.drew {W : World} {tb : Nat} {E : Nat → Prop} {X : World} (h : AlH W tb E X) : AlH W tb E X.drew := ⟨h.os, h.tape, h.output, h.size, h.kept⟩
theorem AlN.drew {W : World} {tb : Nat} {E S : Nat → Prop} {t : Tr} {X : World} {p : List Nat} {u : Tr} {b off : Nat} (h : AlN W tb E S t X p u b off) : AlN W tb E S t X.drew p u b off := by
 obtain ⟨ka, kc, d3, h1, h2, h3⟩ := h.c3
 exact ⟨h.at_, h.c0, h.c1, h.c2, ⟨ka, kc, d3, h1, zC.kept (w := X) (w' := X.drew) (S := S) (S' := S) (fun y hy => ⟨hy, rfl⟩) h2, h3⟩, h.fz, h.bl, h.lt, h.ctx⟩
structure AlC (W : World) (tb : Nat) (E S : Nat → Prop) (X : World) (u : Tr) (b off : Nat) (sv : Value) (xs : List Value) (X1 : World) : Prop where
 h : AlH W tb (fun _ => False) X1
 size : X.heap.size ≤ X1.heap.size
 c0 : X1.cell? ⟨b, off, none⟩ = some (.int .i64 u.id)
 c1 : X1.cell? ⟨b, off + 1, none⟩ = some (.int .i64 u.kind)
 c2 : X1.cell? ⟨b, off + 2, none⟩ = some (.string u.text)
 c3 : X1.cell? ⟨b, off + 3, none⟩ = some sv
 own : X1.ownsRow X.heap.size 27 4 sv (foLen u.kids) xs
 row : yP X1 S u.kids xs
 one : ∀ v ∈ xs, v.oneCell' = true
 fz : ∀ j, X1.frozen? ⟨b, j, none⟩ = false
 old : ∀ y, y < X.heap.size → y ≠ b → X1.heap[y]? = X.heap[y]?
 oth : ∀ j, (j < off ∨ off + 4 ≤ j) → X1.cell? ⟨b, j, none⟩ = X.cell? ⟨b, j, none⟩
theorem AlN.clone {W : World} {tb : Nat} {E S : Nat → Prop} {t : Tr} {X w1 : World} {p : List Nat} {u : Tr} {b off : Nat} {xs : List Value} {sv : Value} (hS : AlS W tb E S) (hH : AlH W tb (fun _ => False) X) (h : AlN W tb E S t X p u b off) (hr : yP X S u.kids xs) (h1 : ∀ v ∈ xs, v.oneCell' = true)
 (hb : Below X.heap.size X w1) (ho : w1.ownsRow X.heap.size 27 4 sv (foLen u.kids) xs) : AlC W tb E S X u b off sv xs (w1.setCell ⟨b, off + 3, none⟩ sv) := by
 obtain ⟨X1, hX1⟩ : ∃ X1, X1 = w1.setCell ⟨b, off + 3, none⟩ sv := ⟨_, rfl⟩
 rw [← hX1]
 have hs1 : X1.heap.size = w1.heap.size := by rw [hX1]; simp [World.setCell]
 have hset : ∀ y, y ≠ b → X1.heap[y]? = w1.heap[y]? := fun y hy => by rw [hX1]; exact Below.heap_setCell _ _ _ _ hy
 have hXs := hb.size
 have hbl : w1.heap[b]? = X.heap[b]? := hb.block b h.lt
 obtain ⟨ka0, kc0, d3, _, _, _⟩ := h.c3
 have hc3 : X1.cell? ⟨b, off + 3, none⟩ = some sv := by
  rw [hX1]; exact World.cell?_setCell_same' w1 _ _ (by rw [World.cell?_of_block hbl, d3]; rfl)
 have hco : ∀ i, i ≠ off + 3 → X1.cell? ⟨b, i, none⟩ = X.cell? ⟨b, i, none⟩ := fun i hi => by
  rw [hX1, World.cell?_setCell_other w1 ⟨b, off + 3, none⟩ ⟨b, i, none⟩ _ (by intro e; cases e; exact hi rfl)]; exact World.cell?_of_block hbl
 have hold : ∀ y, y < X.heap.size → y ≠ b → X1.heap[y]? = X.heap[y]? := fun y hy hn => (hset y hn).trans (hb.block y hy)
 have hS1 : ∀ y, S y → X1.heap[y]? = X.heap[y]? := fun y hy => by
  have h9 := hS.s y hy
  have := hH.size
  exact hold y (by omega) (by intro e; rcases h.bl with h8 | h8 <;> omega)
 refine ⟨⟨by rw [hX1]; exact hb.os.trans hH.os, by rw [hX1]; exact hb.tape.trans hH.tape, by rw [hX1]; exact hb.output.trans hH.output, by have := hH.size; omega, fun y hy hn he => ?_⟩, by omega, (hco _ (by omega)).trans h.c0, (hco _ (by omega)).trans h.c1, (hco _ (by omega)).trans h.c2, hc3, zG ho (fun g' cur hc hg' => hset g' ?_), hr.kept (fun y hy => ⟨hy, hS1 y hy⟩), h1, fun j => ?_, hold, fun j hj => hco j (by omega)⟩
 · have := hH.size
   rw [hold y (by omega) (by intro e; rcases h.bl with h8 | h8 <;> omega)]
   exact hH.kept y hy hn he
 · have hgb := zA ho (g := g') hg'
   have := h.lt
   omega
 · rw [hX1, World.frozen?_setCell]
   exact (World.frozen?_of_block hbl).trans (h.fz j)
theorem AlN.down {W : World} {tb : Nat} {E S : Nat → Prop} {t : Tr} {X X1 : World} {p : List Nat} {u v : Tr} {b off j g gc : Nat} {xs : List Value} (hS : AlS W tb E S) (hH : AlH W tb (fun _ => False) X) (h : AlN W tb E S t X p u b off) (hv : zz u.kids j = some v)
 (k : AlC W tb E S X u b off (.slice (some ⟨g, 0, none⟩) (foLen u.kids) gc) xs X1) : AlN W tb E S t X1 (p ++ [j]) v g (j * 4) ∧ b ≠ g ∧ X.heap.size ≤ g := by
 have hgb := zA k.own (g := g) rfl
 have hbg : b ≠ g := by have := h.lt; omega
 have hcell : ∀ i x, xs[i]? = some x → X1.cell? ⟨g, i, none⟩ = some x := fun i x hx => zD k.own rfl i x hx
 have hcap : foLen u.kids ≤ gc := by
  rcases k.own.2 with ⟨hv0, h0⟩ | ⟨_, _, _, hv0, _, _, h3, _⟩
  · cases hv0
  · cases hv0; exact h3
 obtain ⟨na, nc, e0, e1, e2, e3, hnc, hnk⟩ := yP.nth u.kids j v xs k.row hv
 have hjl := qg hv
 refine ⟨⟨by rw [yj, h.at_]; simp [atT, hv], hcell _ _ e0, hcell _ _ e1, hcell _ _ e2, ⟨na, nc, hcell _ _ e3, hnc, hnk, fun e => ?_⟩, fun i => World.ownsRow.frozenAt k.own i, Or.inr (by have := hH.size; omega), hgb.2, ?_⟩, hbg, hgb.1⟩
 · subst e
   cases hvk : v.kids with
   | nil => rfl
   | node _ _ _ _ _ => rw [hvk] at hnk; obtain ⟨_, _, _, _, e, _⟩ := hnk; cases e
 intro X' S' v' hA h1 h2 hn
 rw [YL p t u v v' j h.at_ hv]
 have hXs := k.size
 have hbE := h.notE hS
 have hSz := hH.size
 refine h.ctx X' S' ⟨u.id, u.kind, u.text, vZ u.kids j v'⟩ ⟨fun y hy hne he => ?_, fun i hi => ?_⟩ h1 h2 ?_
 · rw [hA.1 y (by omega) (by omega) he]
   exact k.old y hy hne
 · have : X'.heap[b]? = X1.heap[b]? := hA.1 b (by have := h.lt; omega) hbg hbE
   rw [World.cell?_of_block (a := ⟨b, i, none⟩) this]
   exact k.oth i hi
 · have hbX : X'.heap[b]? = X1.heap[b]? := hA.1 b (by have := h.lt; omega) hbg hbE
   have hcx : ∀ i, X'.cell? ⟨b, i, none⟩ = X1.cell? ⟨b, i, none⟩ := fun i => World.cell?_of_block (a := ⟨b, i, none⟩) hbX
   have hgS : S' g := h2 g (Or.inr (by omega))
   refine ⟨h2 b h.bl, by rw [hcx]; exact k.c0, by rw [hcx]; exact k.c1, by rw [hcx]; exact k.c2, some ⟨g, 0, none⟩, gc, by rw [hcx, k.c3]; simp only [Q4], by simp only [Q4]; exact hcap, ?_⟩
   refine zaE u.kids j (zcJ u.kids j xs k.row hjl hgS (fun y hy => ⟨h1 y hy, hA.1 y (by have := hS.s y hy; omega) (by have := hS.s y hy; omega) (hS.s y hy).2.2⟩) (fun i x hx hi => ?_)) (by rw [Nat.zero_add]; exact hn) hjl
   rw [Nat.zero_add, hA.2 i (by omega)]
   exact hcell i x hx
def Qa (W : World) (tb : Nat) (E SS : Nat → Prop) (X : World) (b : Nat) (y : Tr) (RR : World → Prop) (e : Ending) (X' : World) : Prop :=
 e = .returned (.tuple #[]) ∧ AlH W tb E X' ∧ X.heap.size ≤ X'.heap.size ∧ (∀ y, y < X.heap.size → y ≠ b → ¬ E y → X'.heap[y]? = X.heap[y]?) ∧ qM X' (fun y => SS y ∨ (y = tb ∨ W.heap.size ≤ y)) y tb 0 ∧ RR X'
def zda (W : World) (tb : Nat) (E SS : Nat → Prop) (Bx : Nat) (X1 : World) (b off : Nat) (y : Tr) (RR : World → Prop) (e : Ending) (X' : World) : Prop :=
 e = .returned (.tuple #[]) ∧ X'.os = X1.os ∧ X'.tape = X1.tape ∧ X'.output = X1.output ∧ X1.heap.size ≤ X'.heap.size ∧ (∀ y, y < Bx → y ≠ b → ¬ E y → X'.heap[y]? = X1.heap[y]?) ∧ (∀ j, (j < off ∨ off + 4 ≤ j) → X'.cell? ⟨b, j, none⟩ = X1.cell? ⟨b, j, none⟩) ∧ qM X' (fun y => SS y ∨ (y = tb ∨ W.heap.size ≤ y)) y b off ∧ RR X'
theorem AlN.done {W : World} {tb : Nat} {E S SS : Nat → Prop} {t : Tr} {X X1 X' : World} {p : List Nat} {u c : Tr} {b off : Nat} {sv : Value} {xs : List Value} {RR : World → Prop} {e : Ending} (hS : AlS W tb E S) (hSS : ∀ y, S y → SS y) (hH : AlH W tb (fun _ => False) X) (h : AlN W tb E S t X p u b off) (k : AlC W tb E S X u b off sv xs X1)
 (hc : zda W tb E SS X.heap.size X1 b off c RR e X') : Qa W tb E SS X b (zO t p c) RR e X' := by
 obtain ⟨rfl, h1, h2, h3, h4, h5, h6, h7, h8⟩ := hc
 have hXs := k.size
 have hSz := hH.size
 refine ⟨rfl, ⟨h1.trans k.h.os, h2.trans k.h.tape, h3.trans k.h.output, by omega, fun y hy hn he => ?_⟩, by omega, fun y hy hn he => (h5 y hy hn he).trans (k.old y hy hn), ?_, h8⟩
 · rw [h5 y (by omega) (by intro e; rcases h.bl with h9 | h9 <;> omega) he]
   exact k.h.kept y hy hn (fun h => h)
 · exact h.ctx X' _ c ⟨fun y hy hn he => (h5 y hy hn he).trans (k.old y hy hn), fun j hj => (h6 j hj).trans (k.oth j hj)⟩ (fun y hy => Or.inl (hSS y hy)) (fun y hy => Or.inr hy) h7
theorem kL {X1 : World} {B n c : Nat} {a : Option Addr} {f : Fo} {xs : List Value} {S S' : Nat → Prop} (ho : X1.ownsRow B 27 4 (.slice a n c) n xs) (hr : yP X1 S f xs) (hn : n = foLen f) (hS : ∀ y, S y → S' y) (hB : ∀ y, B ≤ y → S' y) : zC X1 S' f a ∧ n ≤ c := by
 rcases ho.2 with ⟨hv, h0⟩ | ⟨g, c', cur, hv, hb, hg, hnc, _⟩
 · cases hv
   refine ⟨?_, Nat.le_refl _⟩
   cases f with
   | nil => exact True.intro
   | node _ _ _ _ _ => simp [foLen] at hn
 · cases hv
   exact ⟨yP.lies (hB g hb) 0 (hr.kept (w' := X1) (S' := S') fun y hy => ⟨hS y hy, rfl⟩) (fun j u hu => by rw [Nat.zero_add]; exact zD ho rfl j u hu), hnc⟩
def Qb (w : World) (E SS : Nat → Prop) (y : Tr) (RR : World → Prop) (e : Ending) (X' : World) : Prop :=
 ∃ v, e = .returned v ∧ zH X' (fun z => SS z ∨ (w.heap.size ≤ z ∧ z < X'.heap.size)) v y ∧ X'.os = w.os ∧ X'.tape = w.tape ∧ X'.output = w.output ∧ w.heap.size ≤ X'.heap.size ∧ (∀ z, z < w.heap.size → ¬ E z → X'.heap[z]? = w.heap[z]?) ∧ RR X'
structure Jk (w : World) (ob pb ib : Nat) (op id par : Int) (S : Nat → Prop) : Prop where
 o : w.heap[ob]? = some (.cells #[.int .i8 op] 47 (0, 0))
 p : w.heap[pb]? = some (.cells #[.int .i64 par] 3 (0, 0))
 i : w.heap[ib]? = some (.cells #[.int .i64 id] 3 (0, 0))
 so : S ob
 sp : S pb
 si : S ib
 lt : ∀ y, S y → y < w.heap.size
def zhr (w : World) (op id par : Int) (e : Ending) (w' : World) : Prop := ∃ ob pb ib, e = .returned (.func (.func 97) #[] #[.pointer (some ⟨ob, 0, none⟩), .pointer (some ⟨pb, 0, none⟩), .pointer (some ⟨ib, 0, none⟩)]) ∧ Jk w' ob pb ib op id par (fun y => w.heap.size ≤ y ∧ y < w'.heap.size) ∧ Below w.heap.size w w'
theorem zf3 (B : World) (a b c : Obj) : (((B.alloc a).alloc b).alloc c).drew.heap[B.heap.size]? = some a := by
 show (((B.alloc a).alloc b).alloc c).heap[B.heap.size]? = some a
 rw [Below.heap_alloc _ _ _ (by simp; omega), Below.heap_alloc _ _ _ (by simp)]; exact heap_alloc_new _ _
theorem zf4 (B : World) (a b c : Obj) : (((B.alloc a).alloc b).alloc c).drew.heap[B.heap.size + 1]? = some b := by
 show (((B.alloc a).alloc b).alloc c).heap[B.heap.size + 1]? = some b
 rw [Below.heap_alloc _ _ _ (by simp)]
 have := heap_alloc_new (B.alloc a) b
 rwa [World.size_alloc] at this
theorem zf5 (B : World) (a b c : Obj) : (((B.alloc a).alloc b).alloc c).drew.heap[B.heap.size + 1 + 1]? = some c := by
 have := heap_alloc_new ((B.alloc a).alloc b) c
 rwa [World.size_alloc, World.size_alloc] at this
theorem zak (B : World) (a b c : Obj) : Below B.heap.size B (((B.alloc a).alloc b).alloc c).drew := ((((Below.refl _ B).alloc (Nat.le_refl _) _).alloc (by simp) _).alloc (by simp; omega) _).drew
theorem zbG (B : World) (a b c : Obj) : (((B.alloc a).alloc b).alloc c).drew.heap.size = B.heap.size + 3 := by simp [World.drew]
theorem zbI (w : World) (op id par at_ xi xk : Int) (tx xt : ByteArray) (sa : Option Addr) (sn sc : Nat) :
 Calls Try.prog 63 #[.agg #[.int .i8 op, .int .i64 id, .int .i64 par, .int .i64 at_, .string tx, .int .i64 xi, .int .i64 xk, .string xt, .slice sa sn sc]] w (zhr w op id par) := by
 obtain ⟨B, hB⟩ : ∃ B, B = w.alloc (.cells #[.int .i8 op, .int .i64 id, .int .i64 par, .int .i64 at_, .string tx, .int .i64 xi, .int .i64 xk, .string xt, .slice sa sn sc] 49) := ⟨_, rfl⟩
 have e1 : B.heap[w.heap.size]? = some (.cells #[.int .i8 op, .int .i64 id, .int .i64 par, .int .i64 at_, .string tx, .int .i64 xi, .int .i64 xk, .string xt, .slice sa sn sc] 49 (0, 0)) := by rw [hB]; exact heap_alloc_new _ _
 have hb : Below w.heap.size w B := by rw [hB]; exact (Below.refl _ _).alloc (Nat.le_refl _) _
 have hs : B.heap.size = w.heap.size + 1 := by rw [hB]; simp
 obtain ⟨s0, s1, s2⟩ : B.cell? ⟨w.heap.size, 0, none⟩ = some (.int .i8 op) ∧ B.cell? ⟨w.heap.size, 1, none⟩ = some (.int .i64 id) ∧ B.cell? ⟨w.heap.size, 2, none⟩ = some (.int .i64 par) := ⟨by rw [cell_of_row _ _ 0 _ _ _ e1]; rfl, by rw [cell_of_row _ _ 1 _ _ _ e1]; rfl, by rw [cell_of_row _ _ 2 _ _ _ e1]; rfl⟩
 have hmf : ∀ (fn : Fn) (first cap : Array Value) (w : World), (Instr.makeFunc fn first cap).run Try.prog w = .ok (.func fn first cap) w := fun _ _ _ _ => rfl
 have hne : (w.heap.size = B.heap.size) = False := by rw [hs]; simp
 have hne2 : (B.heap.size = w.heap.size) = False := by rw [hs]; simp
 have hlt : w.heap.size < B.heap.size := by omega
 have hx : ∀ (X : World) (o : Obj) (j : Nat), w.heap.size < X.heap.size → (X.alloc o).cell? ⟨w.heap.size, j, none⟩ = X.cell? ⟨w.heap.size, j, none⟩ := fun X o j h => World.cell?_of_block (Below.heap_alloc X o _ h)
 have a0 : ∀ (o : Obj) (j : Nat), (B.alloc o).cell? ⟨w.heap.size, j, none⟩ = B.cell? ⟨w.heap.size, j, none⟩ := fun o j => hx _ _ _ hlt
 have a1 : ∀ (o p : Obj) (j : Nat), ((B.alloc o).alloc p).cell? ⟨w.heap.size, j, none⟩ = B.cell? ⟨w.heap.size, j, none⟩ := fun o p j => (hx _ _ _ (by simp; omega)).trans (a0 o j)
 have a2 : ∀ (o p q : Obj) (j : Nat), (((B.alloc o).alloc p).alloc q).cell? ⟨w.heap.size, j, none⟩ = B.cell? ⟨w.heap.size, j, none⟩ := fun o p q j => (hx _ _ _ (by simp; omega)).trans (a1 o p j)
 have HB := Lib.hid (aN hb hs)
 have HBE := Lib.hid hB
 clear e1 hb hs hB hx hlt
 go_enter Try.func63, Try.ntmps63
 go_upto_region 1 with fail
 change Code.wp _ _ _ _ (w.alloc (.cells #[.int .i8 op, .int .i64 id, .int .i64 par, .int .i64 at_, .string tx, .int .i64 xi, .int .i64 xk, .string xt, .slice sa sn sc] 49))
 rw [← HBE.out]
 clear HBE
 go_region
 all_goals clear a0 a1 a2 s0 s1 s2 hne hne2
 all_goals go_wp2
 all_goals go_ret
 all_goals (refine ⟨_, _, _, rfl, ⟨?_, ?_, ?_, ?_, ?_, ?_, fun y hy => hy.2⟩, HB.out.1.trans ((zak B _ _ _).mono HB.out.1.size)⟩)
 all_goals first | exact zf3 B _ _ _ | exact zf4 B _ _ _ | exact zf5 B _ _ _ | (rw [zbG]; have := HB.out.2; constructor <;> omega)
end Go.Proofs.Ytgkmmnihaiopaaa
