/-
  .
-/
import Derived.Deep.LoopGhost
import Derived.Laws.EntriesVeiled
import Derived.Deep.RegionLaw
import Derived.Laws.OwnMore
import Derived.IntWalk
import Derived.BigQuiet
import Derived.Deep.Quiet
import Derived.Test.YtchccbfljamjnaaGreatGRiseQm
import Derived.Test.YtchccbfljamjnaaGreatEHeldQm
import Derived.Test.YtchccbfljamjnaaGreatERangeQm
import Derived.Test.YtchccbfljamjnaaGreatELoneQm
import Derived.OwnWalk
import Derived.Deep.RegionHeld3
import Derived.StillTailTactics
import Derived.Shelf.Spec.SlicesInsertGrow
import Derived.Deep.RegionHeld
import Derived.Lib.BufSteps
import Derived.Deep.Cut
import Derived.Deep.QuietTactic
import Derived.Carry
import Derived.RangeFuncNested
import Derived.RangeFuncBound
import Derived.RangeFuncCalls
import Derived.RangeFuncLeaves
import Derived.RangeFuncWrites
import Derived.Shelf.RegionOpen
import Derived.OwnWalkIn
import Derived.TacticsInMore
import Derived.LoopNIn
import Derived.LoopIn
import Derived.OrdersIn
import Derived.Test.YtchccbfljamjnaaGreatRWalkQm
import Derived.Deep.AppendLies
import Derived.Test.YtchccbfljamjnaaGreatTreeQm
import Derived.Test.YtchccbfljamjnaaGreatCNumQm
import Derived.Maps.OwnSet
import Derived.Maps.OwnOps
import Derived.Deep.MidRow
import Derived.Deep.WholeRow
import Derived.Laws.CopyOwn
import Derived.WalkMore
import Derived.Maps.OwnIn
import Derived.Test.YtchccbfljamjnaaGreatJPgQm
set_option maxRecDepth 100000
set_option maxHeartbeats 40000000
set_option linter.unusedVariables false
set_option linter.unusedSimpArgs false
namespace Go.Proofs.YtchccbfljamjnaaGreat
open Go.RowKit Go.Shelf
theorem JH : ∀ (f : Fo) {w : World} {S : Nat → Prop} {b off : Nat}, zi w S f (some ⟨b, off, none⟩) → ∃ xs, yG w S f xs ∧ xs.length = foLen f * 4 ∧ (∀ j u, xs[j]? = some u → w.cell? ⟨b, off + j, none⟩ = some u) ∧ ∀ u ∈ xs, u.oneCell' = true
 | .nil, _, _, _, _, _ => ⟨[], rfl, rfl, fun _ _ h => by simp at h, fun _ h => by cases h⟩
 | .node _ _ k l r, w, S, b, off, h => by
   obtain ⟨b', off', ka, kc, e, hb, c0, c1, c2, c3, hcp, hkl, hr⟩ := h
   cases e
   obtain ⟨ys, h1, h2, h3, h4⟩ := JH r hr
   refine ⟨[.int .i64 k.1, .int .i64 k.2.1, .string k.2.2, .slice ka (foLen l) kc] ++ ys, ⟨ka, kc, ys, rfl, hcp, hkl, h1⟩, by rw [List.length_append, h2]; simp [foLen]; omega, fun j u hu => ?_, fun u hu => ?_⟩
   · match j, hu with
     | 0, hu => simp at hu; subst hu; exact c0
     | 1, hu => simp at hu; subst hu; exact c1
     | 2, hu => simp at hu; subst hu; exact c2
     | 3, hu => simp at hu; subst hu; exact c3
     | j + 4, hu =>
       have := h3 j u (by simpa using hu)
       rw [show off + (j + 4) = off + 4 + j by omega]; exact this
   · rcases List.mem_append.1 hu with hu | hu
     · simp only [List.mem_cons, List.not_mem_nil, or_false] at hu
       rcases hu with rfl | rfl | rfl | rfl <;> rfl
     · exact h4 u hu
theorem zak (f : Fo) {w : World} {S : Nat → Prop} {a : Option Addr} (h : zi w S f a) : ∃ xs, yG w S f xs ∧ xs.length = foLen f * 4 ∧ (∀ ad, a = some ad → ∀ j u, xs[j]? = some u → w.cell? (ad.add j) = some u) ∧ (∀ u ∈ xs, u.oneCell' = true) := by
 cases f with
 | nil => exact ⟨[], rfl, rfl, fun _ _ _ _ h => by simp at h, fun _ h => by cases h⟩
 | node b0 o0 k l r =>
   have h' := h
   obtain ⟨b', off', ka, kc, e, _⟩ := h'
   subst e
   obtain ⟨xs, h1, h2, h3, h4⟩ := JH _ h
   exact ⟨xs, h1, h2, fun ad hd j u hu => by cases hd; rw [Addr.add_mid]; exact h3 j u hu, h4⟩
theorem QM {f : Fo} {i : Nat} {u : Tr} (h : vP f i = some u) : zb u.kids + 1 ≤ zb f := by
 have h2 := ZM h
 have h3 : ∀ (j : Nat) (f : Fo), zb (zn j f) ≤ zb f := by
  intro j
  induction j with
  | zero => intro f; rw [ZN]; exact Nat.le_refl _
  | succ j ih => intro f; cases f with
    | nil => exact Nat.le_refl _
    | node b o a l r => have := ih r; simp only [zn, zb]; omega
 have := h3 i f
 omega
theorem zbg {w : World} {b : Nat} {c0 c1 c2 c3 : Value} {T : TypeId} (h : w.heap[b]? = some (.cells #[c0, c1, c2, c3] T (0, 0))) : w.cell? ⟨b, 0, none⟩ = some c0 ∧ w.cell? ⟨b, 1, none⟩ = some c1 ∧ w.cell? ⟨b, 2, none⟩ = some c2 ∧ w.cell? ⟨b, 3, none⟩ = some c3 :=
 ⟨by rw [cell_of_row _ _ 0 _ _ _ h]; rfl, by rw [cell_of_row _ _ 1 _ _ _ h]; rfl, by rw [cell_of_row _ _ 2 _ _ _ h]; rfl, by rw [cell_of_row _ _ 3 _ _ _ h]; rfl⟩
theorem JI {V : World} {R1 : Nat} {c0 c1 c2 c3 u0 u1 u2 u3 : Value} (h2 : V.heap[R1]? = some (.cells #[c0, c1, c2, c3] 35 (0, 0))) :
 ∃ V5, V5 = ((((V.setCell ⟨R1, 0, none⟩ u0).setCell ⟨R1, 1, none⟩ u1).setCell ⟨R1, 2, none⟩ u2).setCell ⟨R1, 3, none⟩ u3) ∧ V5.heap[R1]? = some (.cells #[u0, u1, u2, u3] 35 (0, 0)) ∧ (∀ y, y ≠ R1 → V5.heap[y]? = V.heap[y]?) ∧ V5.os = V.os ∧ V5.tape = V.tape ∧ V5.output = V.output ∧ V5.heap.size = V.heap.size := by
 have g1 := heap_setCell_same V R1 0 _ _ u0 h2
 have g2 := heap_setCell_same _ R1 1 _ _ u1 g1
 have g3 := heap_setCell_same _ R1 2 _ _ u2 g2
 have g4 := heap_setCell_same _ R1 3 _ _ u3 g3
 refine ⟨_, rfl, by simpa using g4, fun y hy => ?_, rfl, rfl, rfl, by simp [World.setCell]⟩
 rw [Below.heap_setCell _ _ _ _ hy, Below.heap_setCell _ _ _ _ hy, Below.heap_setCell _ _ _ _ hy, Below.heap_setCell _ _ _ _ hy]
def ze : Tr := ⟨0, 0, ⟨#[]⟩, .nil⟩
def idF : Fo → List Int
 | .nil => []
 | .node _ _ k l r => k.1 :: (idF l ++ idF r)
def idT (t : Tr) : List Int := t.id :: idF t.kids
theorem yZ : ∀ f : Fo, (idF f).length = zb f
 | .nil => rfl
 | .node _ _ k l r => by simp [idF, zb, yZ l, yZ r]
theorem YL (t : Tr) : (idT t).length = zb t.kids + 1 := by simp [idT, yZ]
theorem ZT : ∀ (f : Fo) (j : Nat) (u : Tr), vP f j = some u → idF (zJ (j + 1) f) = idF (zJ j f) ++ idT u
 | .nil, j, u, h => by cases j <;> simp [vP, zn, JJ] at h
 | .node b o k l r, 0, u, h => by
   simp only [vP, zn, JJ] at h
   cases h
   simp [zJ, idF, idT]
 | .node b o k l r, j + 1, u, h => by
   have := ZT r j u (by simpa [vP, zn] using h)
   simp only [zJ, idF, this, List.cons_append, List.append_assoc]
theorem qp {P : Program} {ops : Array Oper} {o : Oper} {a : Act} {w : World} {K : Act → World → Prop} {Q : Exit → Act → World → Prop} {E : Prop}
 (hg : o.guard = none) (d x : Operand) (dT sT : TypeId) (hop : o.op = Op.call { callee := Callee.builtin Builtin.append, args := #[d, x], argTypes := #[dT, sT] })
 (v u : Value) (hd : a.eval d = v) (hx : a.eval x = u) {v' : Value} {w' : World} (hr : (Builtin.append_ #[dT, sT] o.type #[v, u]).run P w = .ok v' w') (hK : K (a.put o.dst v') w') :
 if Region.wanted o (yielded ops a.tmps) = true then Oper.wp P o a w K Q else E := by
 have hw : Region.wanted o (yielded ops a.tmps) = true := by simp [Region.wanted, hg]
 rw [if_pos hw]
 unfold Oper.wp execOp
 simp only [hop, resolve, invoke, builtin, Sem.run_bind, Sem.run_pure, Result.andThen_ok, List.map_toArray, List.map_cons, List.map_nil, hd, hx, hr]
 exact hK
structure Tc (W X : World) (R : Nat) : Prop where
 os : X.os = W.os
 tape : X.tape = W.tape
 output : X.output = W.output
 size : W.heap.size ≤ X.heap.size
 block : ∀ y, y < W.heap.size → y ≠ R → X.heap[y]? = W.heap[y]?
theorem Tc.of {W X : World} {R : Nat} (h : Below W.heap.size W X) : Tc W X R := ⟨h.os, h.tape, h.output, h.size, fun y hy _ => h.block y hy⟩
theorem Tc.then {W X Y : World} {R : Nat} (h : Tc W X R) (k : Below X.heap.size X Y) : Tc W Y R := ⟨k.os.trans h.os, k.tape.trans h.tape, k.output.trans h.output, Nat.le_trans h.size k.size, fun y hy hn => (k.block y (nL hy h.size)).trans (h.block y hy hn)⟩
theorem Tc.below {w W X : World} {R : Nat} (h : Tc W X R) (k : Below w.heap.size w W) (hR : w.heap.size ≤ R) : Below w.heap.size w X := ⟨h.os.trans k.os, h.tape.trans k.tape, h.output.trans k.output, Nat.le_trans k.size h.size, fun y hy => (h.block y (nL hy k.size) (by omega)).trans (k.block y hy)⟩
structure Sf where
 op : Int
 id : Int
 par : Int
 at_ : Int
 tx : ByteArray
 sub : Tr
def NB (X : World) (y : Nat) : Prop := ∃ cs, X.heap[y]? = some (.cells cs 35 (0, 0))
def SN (S : Nat → Prop) (B0 : Nat) (X : World) (y : Nat) : Prop := S y ∨ (y ≠ B0 + 1 ∧ B0 ≤ y ∧ NB X y)
theorem NB.lt {X : World} {y : Nat} (h : NB X y) : y < X.heap.size := by obtain ⟨cs, h⟩ := h; exact lt_of_some h
theorem SN.lt {S : Nat → Prop} {B0 : Nat} {X : World} (hS : ∀ y, S y → y < B0) (hB : B0 ≤ X.heap.size) {y : Nat} (h : SN S B0 X y) : y < X.heap.size := by
 rcases h with h | h
 · have := hS y h; omega
 · exact h.2.2.lt
theorem NB.ji {X Y : World} {y : Nat} (h : NB X y) (e : Y.heap[y]? = X.heap[y]?) : NB Y y := by obtain ⟨cs, h⟩ := h; exact ⟨cs, e.trans h⟩
theorem qR {w : World} {B : Nat} {e : TypeId} {size : Nat} {v : Value} {n : Nat} {xs : List Value} (h : w.ownsRow B e size v n xs) {g : Nat} (hg : v.ownBlock = some g) : ∃ cur, w.heap[g]? = some (.cells cur e (0, 0)) := by
 rcases h.2 with ⟨hv, _⟩ | ⟨g', cap, cur, hv, hB, hh, _⟩
 · rw [hv] at hg; cases hg
 · rw [hv] at hg; cases hg; exact ⟨cur, hh⟩
theorem Qc {Y : World} {S : Nat → Prop} {g : Nat} (hg : S g) : ∀ (l : Fo) (b off go : Nat), (∀ j, j < foLen l * 4 → Y.cell? ⟨g, go + j, none⟩ = Y.cell? ⟨b, off + j, none⟩) → zi Y S l (some ⟨b, off, none⟩) → zi Y S l (some ⟨g, go, none⟩)
 | .nil, _, _, _, _, _ => True.intro
 | .node _ _ k l r, b, off, go, hc, h => by
   obtain ⟨b', off', ka, cap, e, hb, h0, h1, h2, h3, hcp, hl, hr⟩ := h
   cases e
   have c0 := hc 0 (by show _ < (foLen r + 1) * 4; omega)
   have c1 := hc 1 (by show _ < (foLen r + 1) * 4; omega)
   have c2 := hc 2 (by show _ < (foLen r + 1) * 4; omega)
   have c3 := hc 3 (by show _ < (foLen r + 1) * 4; omega)
   refine ⟨g, go, ka, cap, rfl, hg, c0.trans h0, c1.trans h1, c2.trans h2, c3.trans h3, hcp, hl, Qc hg r _ _ _ (fun j hj => ?_) hr⟩
   have := hc (4 + j) (by show _ < (foLen r + 1) * 4; omega)
   rw [Nat.add_assoc, Nat.add_assoc]; exact this
theorem qo {Y : World} {S : Nat → Prop} {g off n c c' : Nat} {ka ka' : Option Addr} (h3 : Y.cell? ⟨g, off, none⟩ = some (.slice ka n c)) (hc : n ≤ c') (hcopy : ∀ l, foLen l = n → zi Y S l ka → zi Y S l ka') :
 ∀ (f : Fo) (a : Option Addr), zi Y S f a → zi (Y.setCell ⟨g, off, none⟩ (.slice ka' n c')) S f a
 | .nil, _, _ => True.intro
 | .node _ _ k l r, a, h => by
   obtain ⟨b, o, kb, cap, e, hb, h0, h1, h2, h4, hcp, hl, hr⟩ := h
   have hoth : ∀ j v, Y.cell? ⟨b, j, none⟩ = some v → (∀ x m q, v ≠ .slice x m q) → (Y.setCell ⟨g, off, none⟩ (.slice ka' n c')).cell? ⟨b, j, none⟩ = some v := fun j v hv hne => by
    rw [World.cell?_setCell_other _ _ _ _ (by
     intro he
     rw [← he, h3] at hv
     exact hne _ _ _ (Option.some.inj hv).symm)]
    exact hv
   refine ⟨b, o, ?_⟩
   by_cases he : b = g ∧ o + 3 = off
   · obtain ⟨rfl, rfl⟩ := he
     rw [h3] at h4
     cases h4
     refine ⟨ka', c', e, hb, hoth _ _ h0 (by intros; simp), hoth _ _ h1 (by intros; simp), hoth _ _ h2 (by intros; simp), ?_, hc, qo h3 hc hcopy l ka' (hcopy l rfl hl), qo h3 hc hcopy r _ hr⟩
     exact World.cell?_setCell_same' Y _ _ (by rw [h3]; rfl)
   · refine ⟨kb, cap, e, hb, hoth _ _ h0 (by intros; simp), hoth _ _ h1 (by intros; simp), hoth _ _ h2 (by intros; simp), ?_, hcp, qo h3 hc hcopy l kb hl, qo h3 hc hcopy r _ hr⟩
     rw [World.cell?_setCell_other _ _ _ _ (by intro h; cases h; exact he ⟨rfl, rfl⟩)]
     exact h4
theorem Yz {X Y : World} {S : Nat → Prop} {B0 n c' : Nat} {ka ka' : Option Addr} {f : Fo} {xs : List Value} (hS : ∀ y, S y → y < B0) (hB : B0 + 1 < X.heap.size) (hY : Below X.heap.size X Y) (hf : zi X (SN S B0 X) f ka) (hr : yG X (SN S B0 X) f xs) (hn : n = foLen f) (hl : xs.length = n * 4) (hc : ∀ ad, ka = some ad → ∀ j u, xs[j]? = some u → X.cell? (ad.add j) = some u)
 (ho : Y.ownsRow X.heap.size 35 4 (.slice ka' n c') n xs) :
 n ≤ c' ∧ zi Y (SN S B0 Y) f ka' ∧ (0 < n → ∃ g, ka' = some ⟨g, 0, none⟩ ∧ X.heap.size ≤ g ∧ NB Y g) ∧ (∀ l, foLen l = n → zi Y (SN S B0 Y) l ka → zi Y (SN S B0 Y) l ka') ∧ (∀ l a, zi X (SN S B0 X) l a → zi Y (SN S B0 Y) l a) := by
 have hkeep : ∀ y, SN S B0 X y → SN S B0 Y y ∧ Y.heap[y]? = X.heap[y]? := fun y hy => by
  have h1 := hY.block y (hy.lt hS (by omega))
  exact ⟨hy.imp (fun h => h) (fun h => ⟨h.1, h.2.1, h.2.2.ji h1⟩), h1⟩
 have hall : ∀ l a, zi X (SN S B0 X) l a → zi Y (SN S B0 Y) l a := fun l a h => h.kept hkeep
 have hz : n = 0 → ∀ l : Fo, foLen l = n → ∀ a, zi Y (SN S B0 Y) l a := fun h0 l hl a => by
  cases l with
  | nil => exact True.intro
  | node b o k p q => simp [foLen] at hl; omega
 rcases ho.2 with ⟨hv, h0⟩ | ⟨g, cc, cur, hv, hg, hh, hnc, _⟩
 · cases hv
   exact ⟨by omega, hz (by omega) f hn.symm _, fun h => by omega, fun l hl _ => hz (by omega) l hl _, hall⟩
 · cases hv
   have hgN : NB Y g := ⟨cur, hh⟩
   have hcell := fun j u hj => zK ho (g := g) rfl j u hj
   have hfk : zi Y (SN S B0 Y) f (some ⟨g, 0, none⟩) := yG.lies (Or.inr ⟨by omega, by omega, hgN⟩) 0 (hr.kept hkeep) (fun j u hj => by rw [Nat.zero_add]; exact hcell j u hj)
   refine ⟨hnc, hfk, fun _ => ⟨g, rfl, hg, hgN⟩, fun l hll hla => ?_, hall⟩
   by_cases h0 : n = 0
   · exact hz h0 l hll _
   · cases l with
     | nil => exact True.intro
     | node b o k p q =>
       have hla' := hla
       obtain ⟨b', off', kb, cap, e, hb, _⟩ := hla'
       subst e
       cases f with
       | nil => simp [foLen] at hn; omega
       | node b1 o1 k1 p1 q1 =>
         obtain ⟨b2, off2, kb2, cap2, e2, hb2, _⟩ := hf
         cases e2
         refine Qc (Or.inr ⟨by omega, by omega, hgN⟩) _ b' off' 0 (fun j hj => ?_) hla
         rw [hll, ← hl] at hj
         have hx : xs[j]? = some xs[j] := List.getElem?_eq_getElem hj
         have h1 := hc _ rfl j _ hx
         rw [Addr.add_mid] at h1
         rw [Nat.zero_add, hcell j _ hx, World.cell?_of_block (a := ⟨b', off' + j, none⟩) (hkeep b' hb2).2, h1]
theorem zaj {w : World} {S : Nat → Prop} {f : Fo} {a : Option Addr} (h : zi w S f a) (ha : a = none) : foLen f = 0 := by
 cases f with
 | nil => rfl
 | node b o k l r => obtain ⟨_, _, _, _, e, _⟩ := h; rw [ha] at e; cases e
end Go.Proofs.YtchccbfljamjnaaGreat
