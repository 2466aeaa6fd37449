/-
  .
-/
import Derived.Test.YtchccbfljamjnaaGreatGRiseQm
import Derived.Test.YtchccbfljamjnaaGreatERangeQm
import Derived.RangeFuncNested
import Derived.RangeFuncBound
import Derived.RangeFuncCalls
import Derived.RangeFuncLeaves
import Derived.RangeFuncWrites
import Derived.Shelf.RegionOpen
import Derived.OwnWalkIn
import Derived.TacticsInMore
import Derived.LoopNIn
import Derived.LoopIn
import Derived.OrdersIn
import Derived.Test.YtchccbfljamjnaaGreatELoneQm
import Derived.Test.YtchccbfljamjnaaGreatRWalkQm
import Derived.Deep.AppendLies
import Derived.Test.YtchccbfljamjnaaGreatTreeQm
import Derived.Test.YtchccbfljamjnaaGreatCNumQm
import Derived.Test.YtchccbfljamjnaaGreatEHeldQm
import Derived.Maps.OwnSet
import Derived.Maps.OwnOps
import Derived.Deep.MidRow
import Derived.Deep.WholeRow
import Derived.Laws.CopyOwn
import Derived.Deep.LoopGhost
import Derived.WalkMore
import Derived.Maps.OwnIn
import Derived.ProofKit
import Derived.OpenShut
import Derived.Deep.Slices
import Derived.Deep.Strs
import Derived.Lib.SmallJoins
import Derived.Laws.BytesArg
import Derived.Test.YtchccbfljamjnaaGreatWLawSQm
set_option maxRecDepth 100000
set_option maxHeartbeats 40000000
set_option linter.unusedVariables false
namespace Go.Proofs.YtchccbfljamjnaaGreat
open Go.ChangeShapes Go.WideShapes Go.ChangeAt Go.RowKit
open Extern.Stop (cell)
theorem zad {w : World} {a : Addr} {v : Value} (h : w.cell? a = some v) : a.block < w.heap.size := block_lt_of_cell h
theorem Yv (a : Addr) (j : Nat) : (a.add j).block = a.block := by unfold Addr.add; split <;> rfl
def Zd : List Tr → Fo
 | [] => .nil
 | t :: l => .node 0 0 (t.id, t.kind, t.text) t.kids (Zd l)
theorem ZP : ∀ l : List Tr, foLen (Zd l) = l.length
 | [] => rfl
 | _ :: l => by simp [Zd, foLen, ZP l]
theorem ZO : ∀ l : List Tr, (∀ t ∈ l, foLen t.kids ≤ 9223372036854775807 ∧ qf t.kids) → qf (Zd l)
 | [], _ => True.intro
 | t :: l, h => ⟨(h t (List.mem_cons_self ..)).1, (h t (List.mem_cons_self ..)).2, ZO l fun u hu => h u (List.mem_cons_of_mem _ hu)⟩
theorem Qb {w : World} {S : Nat → Prop} {b : Nat} (hb : S b) : ∀ (l : List Tr) (off : Nat), (∀ i t, l[i]? = some t → ∃ ka cap, w.cell? ⟨b, off + i * 4, none⟩ = some (.int .i64 t.id) ∧ w.cell? ⟨b, off + i * 4 + 1, none⟩ = some (.int .i64 t.kind) ∧
 w.cell? ⟨b, off + i * 4 + 2, none⟩ = some (.string t.text) ∧ w.cell? ⟨b, off + i * 4 + 3, none⟩ = some (.slice ka (foLen t.kids) cap) ∧ foLen t.kids ≤ cap ∧ zi w S t.kids ka) → zi w S (Zd l) (some ⟨b, off, none⟩)
 | [], _, _ => True.intro
 | t :: l, off, h => by
   obtain ⟨ka, cap, h0, h1, h2, h3, hcp, hf⟩ := h 0 t rfl
   refine ⟨b, off, ka, cap, rfl, hb, by simpa using h0, by simpa using h1, by simpa using h2, by simpa using h3, hcp, hf, Qb hb l (off + 4) fun i u hu => ?_⟩
   obtain ⟨ka, cap, h0, h1, h2, h3, hcp, hf⟩ := h (i + 1) u (by simpa using hu)
   rw [show off + (i + 1) * 4 = off + 4 + i * 4 by omega] at h0 h1 h2 h3
   exact ⟨ka, cap, h0, h1, h2, h3, hcp, hf⟩
def Old (w : World) : Nat → Prop := fun k => k < w.heap.size
def Qg (k : Int × Int × ByteArray) : Prop := (k.2.2.size : Int) ≤ 9223372036854775807 ∧ (Lit.int .i64 k.1).wf = true
def JP : Fo → Prop
 | .nil => True
 | .node _ _ k l r => Qg k ∧ JP l ∧ JP r
def Fits (t : Tr) : Prop := foLen t.kids ≤ 9223372036854775807 ∧ qf t.kids ∧ Qg (t.id, t.kind, t.text) ∧ JP t.kids
theorem Qf : ∀ l : List Tr, (∀ t ∈ l, Qg (t.id, t.kind, t.text) ∧ JP t.kids) → JP (Zd l)
 | [], _ => True.intro
 | t :: l, h => ⟨(h t (List.mem_cons_self ..)).1, (h t (List.mem_cons_self ..)).2, Qf l fun u hu => h u (List.mem_cons_of_mem _ hu)⟩
section
variable {H : Type} {enc : TypeId × Value → H} {w : World} {base : Nat} {spare : Nat → Bool} {held : Bool}
theorem open_node7 : ∀ (fuel : Nat) (cs : List Value) (x : DataW H × List MemPlace), DataW.trod enc Tryz.prog w base spare held fuel 35 cs = some x →
 ∃ (t : Tr) (ka : Option Addr) (cap : Nat), cs = [.int .i64 t.id, .int .i64 t.kind, .string t.text, .slice ka (foLen t.kids) cap] ∧ foLen t.kids ≤ cap ∧ zi w (Old w) t.kids ka ∧ Fits t := by
 intro fuel
 induction fuel using Nat.strongRecOn with
 | ind fuel ih =>
   intro cs x h
   obtain ⟨xs, n, hn, _, hl, hlen, hf⟩ := DataW.trod_struct Tryz.underlying35 h
   have h4 : Tryz.prog.cellsOf 35 = 4 := by kernel_rfl
   rw [h4] at hl
   match cs, hl with
   | [c0, c1, c2, c3], _ =>
     have k1 : Tryz.prog.cellsOf 3 = 1 := by kernel_rfl
     have k2 : Tryz.prog.cellsOf 9 = 1 := by kernel_rfl
     have k3 : Tryz.prog.cellsOf 33 = 1 := by kernel_rfl
     match xs, hlen with
     | [y0, y1, y2, y3], _ =>
       have t0 : DataW.trod enc Tryz.prog w base spare held n 3 (([c0, c1, c2, c3].drop 0).take (Tryz.prog.cellsOf 3)) = some y0 := hf 0 _ rfl
       have t1 : DataW.trod enc Tryz.prog w base spare held n 3 (([c0, c1, c2, c3].drop 1).take (Tryz.prog.cellsOf 3)) = some y1 := hf 1 _ rfl
       have t2 : DataW.trod enc Tryz.prog w base spare held n 9 (([c0, c1, c2, c3].drop 2).take (Tryz.prog.cellsOf 9)) = some y2 := hf 2 _ rfl
       have t3 : DataW.trod enc Tryz.prog w base spare held n 33 (([c0, c1, c2, c3].drop 3).take (Tryz.prog.cellsOf 33)) = some y3 := hf 3 _ rfl
       simp only [k1, k2, k3, List.drop_zero, List.take_succ_cons, List.take_zero, List.drop_succ_cons] at t0 t1 t2 t3
       obtain ⟨id, e0, _, wf0⟩ := DataW.trod_int Tryz.underlying3 t0
       obtain ⟨kd, e1, _, _⟩ := DataW.trod_int Tryz.underlying3 t1
       obtain ⟨tx, e2, _, hsz⟩ := DataW.trod_string Tryz.underlying9 t2
       have hkey : Qg (id, kd, tx) := ⟨by show (tx.size : Int) ≤ _; unfold maxLen at hsz; omega, wf0⟩
       simp only [List.cons.injEq, and_true] at e0 e1 e2
       subst e0; subst e1; subst e2
       rcases DataW.trod_slice Tryz.underlying33 t3 with ⟨e3, _⟩ | ⟨ad, len, cap, elems, rest, m, hm, e3, _, _, hlc, hcm, _, hi, _⟩
       · simp only [List.cons.injEq, and_true] at e3
         subst e3
         exact ⟨⟨id, kd, tx, .nil⟩, none, 0, rfl, Nat.le_refl _, True.intro, Nat.zero_le _, True.intro, hkey, True.intro⟩
       · simp only [List.cons.injEq, and_true] at e3
         subst e3
         rw [h4] at hi
         have each : ∀ i, i < len → ∃ (u : Tr), ∃ (ka : Option Addr) (kcap : Nat), w.cell? (ad.add (i * 4)) = some (.int .i64 u.id) ∧ w.cell? (ad.add (i * 4 + 1)) = some (.int .i64 u.kind) ∧ w.cell? (ad.add (i * 4 + 2)) = some (.string u.text) ∧
          w.cell? (ad.add (i * 4 + 3)) = some (.slice ka (foLen u.kids) kcap) ∧ foLen u.kids ≤ kcap ∧ zi w (Old w) u.kids ka ∧ Fits u := fun i hil => by
          have h1 := hi i hil
          obtain ⟨y, hy⟩ : ∃ y, elems[i]? = some y := ⟨elems[i]'(by omega), List.getElem?_eq_getElem _⟩
          rw [hy, Option.bind_eq_some_iff] at h1
          obtain ⟨cs', hc, ht⟩ := h1
          obtain ⟨_, _, hat⟩ := World.cells?_some hc
          obtain ⟨u, ka, kcap, rfl, hcp, hfo, hft⟩ := ih m (by omega) cs' y ht
          have a0 := hat 0 (by omega)
          have a1 := hat 1 (by omega)
          have a2 := hat 2 (by omega)
          have a3 := hat 3 (by omega)
          rw [Deep.add_add] at a0 a1 a2 a3
          exact ⟨u, ka, kcap, a0, a1, a2, a3, hcp, hfo, hft⟩
         obtain ⟨f, hff⟩ := Deep.choose_lt each
         have hls : foLen (Zd ((List.range len).map f)) = len := by rw [ZP]; simp
         refine ⟨⟨id, kd, tx, Zd ((List.range len).map f)⟩, some ad, cap, by rw [hls], by rw [hls]; exact hlc, ?_, ?_, ?_, hkey, ?_⟩
         · cases hl0 : len with
           | zero => exact True.intro
           | succ len' =>
             rw [← hl0]
             obtain ⟨b, off, spot⟩ := ad
             obtain ⟨_, _, hz, _⟩ := hff 0 (by omega)
             have hsp : spot = none := by simpa [Addr.add] using World.cell?_spot hz
             subst hsp
             have hlt := zad hz
             rw [Yv] at hlt
             refine Qb (show Old w b from hlt) _ off fun i u hu => ?_
             rw [List.getElem?_map, Option.map_eq_some_iff] at hu
             obtain ⟨j, hj, rfl⟩ := hu
             obtain ⟨hlt', rfl⟩ := List.getElem?_eq_some_iff.1 hj
             simp only [List.length_range] at hlt'
             simp only [List.getElem_range]
             obtain ⟨ka, kcap, h0, h1, h2, h3, hcp, hfo, _⟩ := hff i hlt'
             rw [Addr.add_mid] at h0 h1 h2 h3
             exact ⟨ka, kcap, h0, by rw [Nat.add_assoc]; exact h1, by rw [Nat.add_assoc]; exact h2, by rw [Nat.add_assoc]; exact h3, hcp, hfo⟩
         · show foLen (Zd ((List.range len).map f)) ≤ _
           rw [hls]; unfold maxLen at hcm; omega
         · refine ZO _ fun u hu => ?_
           simp only [List.mem_map, List.mem_range] at hu
           obtain ⟨i, hil, rfl⟩ := hu
           obtain ⟨_, _, _, _, _, _, _, _, hft⟩ := hff i hil
           exact ⟨hft.1, hft.2.1⟩
         · refine Qf _ fun u hu => ?_
           simp only [List.mem_map, List.mem_range] at hu
           obtain ⟨i, hil, rfl⟩ := hu
           obtain ⟨_, _, _, _, _, _, _, _, hft⟩ := hff i hil
           exact hft.2.2
theorem open_step9 (fuel : Nat) (cs : List Value) (x : DataW H × List MemPlace) (h : DataW.trod enc Tryz.prog w base spare held fuel 41 cs = some x) :
 ∃ (op id par at_ : Int) (tx : ByteArray) (u : Tr) (ka : Option Addr) (cap : Nat), cs = [.int .i8 op, .int .i64 id, .int .i64 par, .int .i64 at_, .string tx, .int .i64 u.id, .int .i64 u.kind, .string u.text, .slice ka (foLen u.kids) cap] ∧ foLen u.kids ≤ cap ∧ zi w (Old w) u.kids ka ∧ Fits u ∧ ((Lit.int .i8 op).wf = true ∧ (Lit.int .i64 id).wf = true ∧ (Lit.int .i64 par).wf = true ∧ (Lit.int .i64 at_).wf = true) ∧ (tx.size : Int) ≤ 9223372036854775807 := by
 obtain ⟨xs, n, _, _, hl, hlen, hf⟩ := DataW.trod_struct Tryz.underlying41 h
 have h9 : Tryz.prog.cellsOf 41 = 9 := by kernel_rfl
 rw [h9] at hl
 match cs, hl with
 | [c0, c1, c2, c3, c4, c5, c6, c7, c8], _ =>
   have k1 : Tryz.prog.cellsOf 3 = 1 := by kernel_rfl
   have k2 : Tryz.prog.cellsOf 9 = 1 := by kernel_rfl
   have k3 : Tryz.prog.cellsOf 35 = 4 := by kernel_rfl
   have k4 : Tryz.prog.cellsOf 32 = 1 := by kernel_rfl
   match xs, hlen with
   | [y0, y1, y2, y3, y4, y5], _ =>
     have t0 : DataW.trod enc Tryz.prog w base spare held n 32 (([c0, c1, c2, c3, c4, c5, c6, c7, c8].drop 0).take (Tryz.prog.cellsOf 32)) = some y0 := hf 0 _ rfl
     have t1 : DataW.trod enc Tryz.prog w base spare held n 3 (([c0, c1, c2, c3, c4, c5, c6, c7, c8].drop 1).take (Tryz.prog.cellsOf 3)) = some y1 := hf 1 _ rfl
     have t2 : DataW.trod enc Tryz.prog w base spare held n 3 (([c0, c1, c2, c3, c4, c5, c6, c7, c8].drop 2).take (Tryz.prog.cellsOf 3)) = some y2 := hf 2 _ rfl
     have t3 : DataW.trod enc Tryz.prog w base spare held n 3 (([c0, c1, c2, c3, c4, c5, c6, c7, c8].drop 3).take (Tryz.prog.cellsOf 3)) = some y3 := hf 3 _ rfl
     have t4 : DataW.trod enc Tryz.prog w base spare held n 9 (([c0, c1, c2, c3, c4, c5, c6, c7, c8].drop 4).take (Tryz.prog.cellsOf 9)) = some y4 := hf 4 _ rfl
     have t5 : DataW.trod enc Tryz.prog w base spare held n 35 (([c0, c1, c2, c3, c4, c5, c6, c7, c8].drop 5).take (Tryz.prog.cellsOf 35)) = some y5 := hf 5 _ rfl
     simp only [k1, k2, k3, k4, List.drop_zero, List.take_succ_cons, List.take_zero, List.drop_succ_cons] at t0 t1 t2 t3 t4 t5
     obtain ⟨op, e0, _, b0⟩ := DataW.trod_int Tryz.underlying32 t0
     obtain ⟨id, e1, _, b1⟩ := DataW.trod_int Tryz.underlying3 t1
     obtain ⟨pa, e2, _, b2⟩ := DataW.trod_int Tryz.underlying3 t2
     obtain ⟨pl, e3, _, b3⟩ := DataW.trod_int Tryz.underlying3 t3
     obtain ⟨tx, e4, _, b4⟩ := DataW.trod_string Tryz.underlying9 t4
     obtain ⟨u, ka, cap, e5, hcp, hfo, hft⟩ := open_node7 n _ y5 t5
     simp only [List.cons.injEq, and_true] at e0 e1 e2 e3 e4 e5
     obtain ⟨rfl, rfl, rfl, rfl⟩ := e5
     subst e0; subst e1; subst e2; subst e3; subst e4
     exact ⟨op, id, pa, pl, tx, u, ka, cap, rfl, hcp, hfo, hft, ⟨b0, b1, b2, b3⟩, by unfold maxLen at b4; omega⟩
end
end Go.Proofs.YtchccbfljamjnaaGreat
namespace Go.Proofs.YtchccbfljamjnaaGreat
open Go.RowKit Go.Shelf
theorem wireSteps_fr (w : World) (op id par at_ : Int) (tx : ByteArray) (u : Tr) (sa : Option Addr) (sc : Nat) (nv : Value) (t : Tr) (hcp : foLen u.kids ≤ sc) (hfo : zi w (Old w) u.kids sa) (hfu : Fits u) (hw : (Lit.int .i8 op).wf = true ∧ (Lit.int .i64 id).wf = true ∧ (Lit.int .i64 par).wf = true ∧ (Lit.int .i64 at_).wf = true) (htx : (tx.size : Int) ≤ 9223372036854775807) (ht : qj w (Old w) nv t) (hft : Fits t) :
 Calls Tryz.prog 5 #[.agg #[.int .i8 op, .int .i64 id, .int .i64 par, .int .i64 at_, .string tx, .int .i64 u.id, .int .i64 u.kind, .string u.text, .slice sa (foLen u.kids) sc], nv] w (qB true w) := by
 obtain ⟨ka, kc, rfl, hkc, hk⟩ := ht
 exact kJ w (Old w) ⟨op, id, par, at_, tx, u⟩ sa (foLen u.kids) sc t ka (foLen t.kids) kc (fun _ h => h) rfl hcp hfo hfu.1 hfu.2.1 rfl hkc hk hft.1 hft.2.1
end Go.Proofs.YtchccbfljamjnaaGreat
