/-
  .
-/
import Derived.Test.YtchccbfljamjnaaGreatICopyPQn
import Derived.Test.YtchccbfljamjnaaGreatECountNQn
import Derived.RangeFuncNested
import Derived.RangeFuncBound
import Derived.RangeFuncCalls
import Derived.RangeFuncLeaves
import Derived.RangeFuncWrites
import Derived.Shelf.RegionOpen
import Derived.OwnWalkIn
import Derived.TacticsInMore
import Derived.LoopNIn
import Derived.LoopIn
import Derived.OrdersIn
import Derived.Test.YtchccbfljamjnaaGreatERowQn
import Derived.Test.YtchccbfljamjnaaGreatETSameQn
import Derived.Maps.OwnSet
import Derived.Maps.OwnOps
import Derived.Deep.MidRow
import Derived.Deep.WholeRow
import Derived.Laws.CopyOwn
import Derived.Deep.LoopGhost
import Derived.WalkMore
import Derived.Maps.OwnIn
import Derived.ProofKit
import Derived.OpenShut
import Derived.Deep.Slices
import Derived.Deep.Strs
import Derived.Lib.SmallJoins
import Derived.Laws.BytesArg
import Derived.Test.YtchccbfljamjnaaGreatWGreatMQn
import Derived.Test.YtchccbfljamjnaaGreatWLawRQn
set_option maxRecDepth 100000
set_option maxHeartbeats 40000000
set_option linter.unusedVariables false
namespace Go.Proofs.YtchccbfljamjnaaGreat
open Go.ChangeShapes Go.WideShapes Go.ChangeAt Go.RowKit
open Extern.Stop (cell)
theorem za2 {w : World} {a : Addr} {v : Value} (h : w.cell? a = some v) : a.block < w.heap.size := block_lt_of_cell h
theorem ZO (a : Addr) (j : Nat) : (a.add j).block = a.block := by unfold Addr.add; split <;> rfl
def Ql : List Tr → Fo
 | [] => .nil
 | t :: l => .node 0 0 (t.id, t.kind, t.text) t.kids (Ql l)
theorem Q5 : ∀ l : List Tr, foLen (Ql l) = l.length
 | [] => rfl
 | _ :: l => by simp [Ql, foLen, Q5 l]
theorem Q4 : ∀ l : List Tr, (∀ t ∈ l, foLen t.kids ≤ 9223372036854775807 ∧ qQ t.kids) → qQ (Ql l)
 | [], _ => True.intro
 | t :: l, h => ⟨(h t (List.mem_cons_self ..)).1, (h t (List.mem_cons_self ..)).2, Q4 l fun u hu => h u (List.mem_cons_of_mem _ hu)⟩
theorem za7 {w : World} {S : Nat → Prop} {b : Nat} (hb : S b) : ∀ (l : List Tr) (off : Nat), (∀ i t, l[i]? = some t → ∃ ka cap, w.cell? ⟨b, off + i * 4, none⟩ = some (.int .i64 t.id) ∧ w.cell? ⟨b, off + i * 4 + 1, none⟩ = some (.int .i64 t.kind) ∧
 w.cell? ⟨b, off + i * 4 + 2, none⟩ = some (.string t.text) ∧ w.cell? ⟨b, off + i * 4 + 3, none⟩ = some (.slice ka (foLen t.kids) cap) ∧ foLen t.kids ≤ cap ∧ zB w S t.kids ka) → zB w S (Ql l) (some ⟨b, off, none⟩)
 | [], _, _ => True.intro
 | t :: l, off, h => by
   obtain ⟨ka, cap, h0, h1, h2, h3, hcp, hf⟩ := h 0 t rfl
   refine ⟨b, off, ka, cap, rfl, hb, by simpa using h0, by simpa using h1, by simpa using h2, by simpa using h3, hcp, hf, za7 hb l (off + 4) fun i u hu => ?_⟩
   obtain ⟨ka, cap, h0, h1, h2, h3, hcp, hf⟩ := h (i + 1) u (by simpa using hu)
   rw [show off + (i + 1) * 4 = off + 4 + i * 4 by omega] at h0 h1 h2 h3
   exact ⟨ka, cap, h0, h1, h2, h3, hcp, hf⟩
def Old (w : World) : Nat → Prop := fun k => k < w.heap.size
def zbe (k : Int × Int × ByteArray) : Prop := (k.2.2.size : Int) ≤ 9223372036854775807 ∧ (Lit.int .i64 k.1).wf = true
def zbX : Fo → Prop
 | .nil => True
 | .node _ _ k l r => zbe k ∧ zbX l ∧ zbX r
theorem zaC : ∀ (d : Nat) (f : Fo), zbX f → okF (spF d f)
 | _, .nil, _ => fun x hx => by cases hx
 | d, .node _ _ k l r, h => fun x hx => by
   simp only [spF, List.mem_cons, List.mem_append] at hx
   rcases hx with rfl | hx | hx
   · exact h.1
   · exact zaC (d + 1) l h.2.1 x hx
   · exact zaC d r h.2.2 x hx
def Fits (t : Tr) : Prop := foLen t.kids ≤ 9223372036854775807 ∧ qQ t.kids ∧ zbe (t.id, t.kind, t.text) ∧ zbX t.kids
theorem zbd : ∀ l : List Tr, (∀ t ∈ l, zbe (t.id, t.kind, t.text) ∧ zbX t.kids) → zbX (Ql l)
 | [], _ => True.intro
 | t :: l, h => ⟨(h t (List.mem_cons_self ..)).1, (h t (List.mem_cons_self ..)).2, zbd l fun u hu => h u (List.mem_cons_of_mem _ hu)⟩
section
variable {H : Type} {enc : TypeId × Value → H} {w : World} {base : Nat} {spare : Nat → Bool} {held : Bool}
theorem Yb : ∀ (fuel : Nat) (cs : List Value) (x : DataW H × List MemPlace), DataW.trod enc Tryz.prog w base spare held fuel 35 cs = some x →
 ∃ (t : Tr) (ka : Option Addr) (cap : Nat), cs = [.int .i64 t.id, .int .i64 t.kind, .string t.text, .slice ka (foLen t.kids) cap] ∧ foLen t.kids ≤ cap ∧ zB w (Old w) t.kids ka ∧ Fits t := by
 intro fuel
 induction fuel using Nat.strongRecOn with
 | ind fuel ih =>
   intro cs x h
   obtain ⟨xs, n, hn, _, hl, hlen, hf⟩ := DataW.trod_struct Tryz.underlying35 h
   have h4 : Tryz.prog.cellsOf 35 = 4 := by kernel_rfl
   rw [h4] at hl
   match cs, hl with
   | [c0, c1, c2, c3], _ =>
     have k1 : Tryz.prog.cellsOf 3 = 1 := by kernel_rfl
     have k2 : Tryz.prog.cellsOf 9 = 1 := by kernel_rfl
     have k3 : Tryz.prog.cellsOf 33 = 1 := by kernel_rfl
     match xs, hlen with
     | [y0, y1, y2, y3], _ =>
       have t0 : DataW.trod enc Tryz.prog w base spare held n 3 (([c0, c1, c2, c3].drop 0).take (Tryz.prog.cellsOf 3)) = some y0 := hf 0 _ rfl
       have t1 : DataW.trod enc Tryz.prog w base spare held n 3 (([c0, c1, c2, c3].drop 1).take (Tryz.prog.cellsOf 3)) = some y1 := hf 1 _ rfl
       have t2 : DataW.trod enc Tryz.prog w base spare held n 9 (([c0, c1, c2, c3].drop 2).take (Tryz.prog.cellsOf 9)) = some y2 := hf 2 _ rfl
       have t3 : DataW.trod enc Tryz.prog w base spare held n 33 (([c0, c1, c2, c3].drop 3).take (Tryz.prog.cellsOf 33)) = some y3 := hf 3 _ rfl
       simp only [k1, k2, k3, List.drop_zero, List.take_succ_cons, List.take_zero, List.drop_succ_cons] at t0 t1 t2 t3
       obtain ⟨id, e0, _, wf0⟩ := DataW.trod_int Tryz.underlying3 t0
       obtain ⟨kd, e1, _, _⟩ := DataW.trod_int Tryz.underlying3 t1
       obtain ⟨tx, e2, _, hsz⟩ := DataW.trod_string Tryz.underlying9 t2
       have hkey : zbe (id, kd, tx) := ⟨by show (tx.size : Int) ≤ _; unfold maxLen at hsz; omega, wf0⟩
       simp only [List.cons.injEq, and_true] at e0 e1 e2
       subst e0; subst e1; subst e2
       rcases DataW.trod_slice Tryz.underlying33 t3 with ⟨e3, _⟩ | ⟨ad, len, cap, elems, rest, m, hm, e3, _, _, hlc, hcm, _, hi, _⟩
       · simp only [List.cons.injEq, and_true] at e3
         subst e3
         exact ⟨⟨id, kd, tx, .nil⟩, none, 0, rfl, Nat.le_refl _, True.intro, Nat.zero_le _, True.intro, hkey, True.intro⟩
       · simp only [List.cons.injEq, and_true] at e3
         subst e3
         rw [h4] at hi
         have each : ∀ i, i < len → ∃ (u : Tr), ∃ (ka : Option Addr) (kcap : Nat), w.cell? (ad.add (i * 4)) = some (.int .i64 u.id) ∧ w.cell? (ad.add (i * 4 + 1)) = some (.int .i64 u.kind) ∧ w.cell? (ad.add (i * 4 + 2)) = some (.string u.text) ∧
          w.cell? (ad.add (i * 4 + 3)) = some (.slice ka (foLen u.kids) kcap) ∧ foLen u.kids ≤ kcap ∧ zB w (Old w) u.kids ka ∧ Fits u := fun i hil => by
          have h1 := hi i hil
          obtain ⟨y, hy⟩ : ∃ y, elems[i]? = some y := ⟨elems[i]'(by omega), List.getElem?_eq_getElem _⟩
          rw [hy, Option.bind_eq_some_iff] at h1
          obtain ⟨cs', hc, ht⟩ := h1
          obtain ⟨_, _, hat⟩ := World.cells?_some hc
          obtain ⟨u, ka, kcap, rfl, hcp, hfo, hft⟩ := ih m (by omega) cs' y ht
          have a0 := hat 0 (by omega)
          have a1 := hat 1 (by omega)
          have a2 := hat 2 (by omega)
          have a3 := hat 3 (by omega)
          rw [Deep.add_add] at a0 a1 a2 a3
          exact ⟨u, ka, kcap, a0, a1, a2, a3, hcp, hfo, hft⟩
         obtain ⟨f, hff⟩ := Deep.choose_lt each
         have hls : foLen (Ql ((List.range len).map f)) = len := by rw [Q5]; simp
         refine ⟨⟨id, kd, tx, Ql ((List.range len).map f)⟩, some ad, cap, by rw [hls], by rw [hls]; exact hlc, ?_, ?_, ?_, hkey, ?_⟩
         · cases hl0 : len with
           | zero => exact True.intro
           | succ len' =>
             rw [← hl0]
             obtain ⟨b, off, spot⟩ := ad
             obtain ⟨_, _, hz, _⟩ := hff 0 (by omega)
             have hsp : spot = none := by simpa [Addr.add] using World.cell?_spot hz
             subst hsp
             have hlt := za2 hz
             rw [ZO] at hlt
             refine za7 (show Old w b from hlt) _ off fun i u hu => ?_
             rw [List.getElem?_map, Option.map_eq_some_iff] at hu
             obtain ⟨j, hj, rfl⟩ := hu
             obtain ⟨hlt', rfl⟩ := List.getElem?_eq_some_iff.1 hj
             simp only [List.length_range] at hlt'
             simp only [List.getElem_range]
             obtain ⟨ka, kcap, h0, h1, h2, h3, hcp, hfo, _⟩ := hff i hlt'
             rw [Addr.add_mid] at h0 h1 h2 h3
             exact ⟨ka, kcap, h0, by rw [Nat.add_assoc]; exact h1, by rw [Nat.add_assoc]; exact h2, by rw [Nat.add_assoc]; exact h3, hcp, hfo⟩
         · show foLen (Ql ((List.range len).map f)) ≤ _
           rw [hls]; unfold maxLen at hcm; omega
         · refine Q4 _ fun u hu => ?_
           simp only [List.mem_map, List.mem_range] at hu
           obtain ⟨i, hil, rfl⟩ := hu
           obtain ⟨_, _, _, _, _, _, _, _, hft⟩ := hff i hil
           exact ⟨hft.1, hft.2.1⟩
         · refine zbd _ fun u hu => ?_
           simp only [List.mem_map, List.mem_range] at hu
           obtain ⟨i, hil, rfl⟩ := hu
           obtain ⟨_, _, _, _, _, _, _, _, hft⟩ := hff i hil
           exact hft.2.2
theorem zaE (fuel : Nat) (cs : List Value) (x : DataW H × List MemPlace) (h : DataW.trod enc Tryz.prog w base spare held fuel 41 cs = some x) :
 ∃ (op id par at_ : Int) (tx : ByteArray) (u : Tr) (ka : Option Addr) (cap : Nat), cs = [.int .i8 op, .int .i64 id, .int .i64 par, .int .i64 at_, .string tx, .int .i64 u.id, .int .i64 u.kind, .string u.text, .slice ka (foLen u.kids) cap] ∧ foLen u.kids ≤ cap ∧ zB w (Old w) u.kids ka ∧ Fits u ∧ ((Lit.int .i8 op).wf = true ∧ (Lit.int .i64 id).wf = true ∧ (Lit.int .i64 par).wf = true ∧ (Lit.int .i64 at_).wf = true) ∧ (tx.size : Int) ≤ 9223372036854775807 := by
 obtain ⟨xs, n, _, _, hl, hlen, hf⟩ := DataW.trod_struct Tryz.underlying41 h
 have h9 : Tryz.prog.cellsOf 41 = 9 := by kernel_rfl
 rw [h9] at hl
 match cs, hl with
 | [c0, c1, c2, c3, c4, c5, c6, c7, c8], _ =>
   have k1 : Tryz.prog.cellsOf 3 = 1 := by kernel_rfl
   have k2 : Tryz.prog.cellsOf 9 = 1 := by kernel_rfl
   have k3 : Tryz.prog.cellsOf 35 = 4 := by kernel_rfl
   have k4 : Tryz.prog.cellsOf 32 = 1 := by kernel_rfl
   match xs, hlen with
   | [y0, y1, y2, y3, y4, y5], _ =>
     have t0 : DataW.trod enc Tryz.prog w base spare held n 32 (([c0, c1, c2, c3, c4, c5, c6, c7, c8].drop 0).take (Tryz.prog.cellsOf 32)) = some y0 := hf 0 _ rfl
     have t1 : DataW.trod enc Tryz.prog w base spare held n 3 (([c0, c1, c2, c3, c4, c5, c6, c7, c8].drop 1).take (Tryz.prog.cellsOf 3)) = some y1 := hf 1 _ rfl
     have t2 : DataW.trod enc Tryz.prog w base spare held n 3 (([c0, c1, c2, c3, c4, c5, c6, c7, c8].drop 2).take (Tryz.prog.cellsOf 3)) = some y2 := hf 2 _ rfl
     have t3 : DataW.trod enc Tryz.prog w base spare held n 3 (([c0, c1, c2, c3, c4, c5, c6, c7, c8].drop 3).take (Tryz.prog.cellsOf 3)) = some y3 := hf 3 _ rfl
     have t4 : DataW.trod enc Tryz.prog w base spare held n 9 (([c0, c1, c2, c3, c4, c5, c6, c7, c8].drop 4).take (Tryz.prog.cellsOf 9)) = some y4 := hf 4 _ rfl
     have t5 : DataW.trod enc Tryz.prog w base spare held n 35 (([c0, c1, c2, c3, c4, c5, c6, c7, c8].drop 5).take (Tryz.prog.cellsOf 35)) = some y5 := hf 5 _ rfl
     simp only [k1, k2, k3, k4, List.drop_zero, List.take_succ_cons, List.take_zero, List.drop_succ_cons] at t0 t1 t2 t3 t4 t5
     obtain ⟨op, e0, _, b0⟩ := DataW.trod_int Tryz.underlying32 t0
     obtain ⟨id, e1, _, b1⟩ := DataW.trod_int Tryz.underlying3 t1
     obtain ⟨pa, e2, _, b2⟩ := DataW.trod_int Tryz.underlying3 t2
     obtain ⟨pl, e3, _, b3⟩ := DataW.trod_int Tryz.underlying3 t3
     obtain ⟨tx, e4, _, b4⟩ := DataW.trod_string Tryz.underlying9 t4
     obtain ⟨u, ka, cap, e5, hcp, hfo, hft⟩ := Yb n _ y5 t5
     simp only [List.cons.injEq, and_true] at e0 e1 e2 e3 e4 e5
     obtain ⟨rfl, rfl, rfl, rfl⟩ := e5
     subst e0; subst e1; subst e2; subst e3; subst e4
     exact ⟨op, id, pa, pl, tx, u, ka, cap, rfl, hcp, hfo, hft, ⟨b0, b1, b2, b3⟩, by unfold maxLen at b4; omega⟩
end
end Go.Proofs.YtchccbfljamjnaaGreat
namespace Go.Proofs.YtchccbfljamjnaaGreat
open Go.ChangeShapes Go.WideShapes Go.ChangeAt Go.RowKit
open Extern.Stop (cell)
section
variable {H : Type} {enc : TypeId × Value → H} {w : World} {base : Nat} {spare : Nat → Bool} {held : Bool}
theorem Jm (fuel : Nat) (v : Value) (x : DataW H × List MemPlace) (h : DataW.trod enc Tryz.prog w base spare held fuel 22 [v] = some x) :
 ∃ (vs : List SV) (a : Option Addr) (cap : Nat), v = .slice a vs.length cap ∧ zcD w a vs ∧ vs.length ≤ 9223372036854775807 := by
 rcases Deep.open_slice Tryz.underlying22 h with ⟨hcs, _⟩ | ⟨ad, len, cap, m, n, D, Pl, hcs, _, hl, hm, hmm, _, hi⟩
 · simp only [List.cons.injEq, and_true] at hcs
   subst hcs
   exact ⟨[], none, 0, rfl, ⟨fun k s hs => by simp at hs, fun x hx => by simp at hx, fun x hx => by simp at hx⟩, by simp⟩
 · simp only [List.cons.injEq, and_true] at hcs
   subst hcs
   have h9 : Tryz.prog.cellsOf 41 = 9 := by kernel_rfl
   have hle : len ≤ m := by rw [hmm]; split <;> omega
   rw [h9] at hi
   have each : ∀ i, i < len → ∃ (y : SV), (∀ j u, (zel y.s y.a y.c)[j]? = some u → w.cell? (ad.add (i * 9 + j)) = some u) ∧ vV w y ∧ zab y.s := fun i hil => by
    obtain ⟨cs', hc, ht⟩ := hi i (by omega)
    obtain ⟨_, _, hat⟩ := World.cells?_some hc
    obtain ⟨op, id, par, at_, tx, u, ka, kcap, rfl, hcp, hfo, hft, hw, htx⟩ := zaE n cs' _ ht
    refine ⟨⟨⟨op, id, par, at_, tx, u⟩, ka, kcap⟩, fun j u hj => ?_, ⟨hcp, hfo.kept fun q hq => ⟨hq, rfl⟩⟩, ⟨hw.1, hft.1, hft.2.1, zaC 1 (yh u) ⟨hft.2.2.1, hft.2.2.2, True.intro⟩, htx⟩⟩
    have hj9 : j < 9 := (List.getElem?_eq_some_iff.1 hj).1
    have := hat j hj9
    rw [Deep.add_add] at this
    exact this.trans hj
   haveI : Inhabited SV := ⟨⟨zfs, none, 0⟩⟩
   obtain ⟨f, hff⟩ := Deep.choose_lt each
   have hmem : ∀ x ∈ (List.range len).map f, vV w x ∧ zab x.s := fun x hx => by
    obtain ⟨j, hj, rfl⟩ := List.mem_map.1 hx
    obtain ⟨_, h1, h2⟩ := hff j (List.mem_range.1 hj)
    exact ⟨h1, h2⟩
   refine ⟨(List.range len).map f, some ad, cap, by simp, ⟨fun k s hs => ?_, fun x hx => (hmem x hx).1, fun x hx => (hmem x hx).2⟩, by simp only [List.length_map, List.length_range]; unfold maxLen at hm; omega⟩
   rw [List.getElem?_map, Option.map_eq_some_iff] at hs
   obtain ⟨j, hj, rfl⟩ := hs
   obtain ⟨hlt', rfl⟩ := List.getElem?_eq_some_iff.1 hj
   simp only [List.length_range] at hlt'
   simp only [List.getElem_range]
   obtain ⟨hz, h1, h2⟩ := hff k hlt'
   obtain ⟨b, off, spot⟩ := ad
   obtain ⟨hz', _, _⟩ := hff 0 (by omega)
   have hz0 := hz' 0 _ rfl
   have hsp : spot = none := by simpa [Addr.add] using World.cell?_spot hz0
   subst hsp
   have hlt := za2 hz0
   rw [ZO] at hlt
   clear hz0 hz'
   refine ⟨b, off, rfl, hlt, fun j u hj => ?_⟩
   have := hz j u hj
   rw [Addr.add_mid, ← Nat.add_assoc] at this
   exact this
theorem open_msg14 (fuel : Nat) (cs : List Value) (x : DataW H × List MemPlace) (h : DataW.trod enc Tryz.prog w base spare held fuel 37 cs = some x) :
 ∃ (a0 a1 a2 a3 a4 a5 a6 a7 a8 a9 a10 : Int) (sa ar : Option Addr) (ac ad : Nat) (vs : List SV) (t : Tr), cs = [.int .i8 a0, .int .i64 a1, .int .i64 a2, .int .i64 a3, .int .i64 a4, .int .i64 a5, .int .i64 a6, .int .i64 a7, .int .i64 a8, .int .i64 a9, .int .i64 a10, .slice sa vs.length ac, .int .i64 t.id, .int .i64 t.kind, .string t.text, .slice ar (foLen t.kids) ad] ∧ ZH w sa ar vs.length (foLen t.kids) ad vs t ∧ (Lit.int .i8 a0).wf = true := by
 obtain ⟨xs, n, _, _, hl, hlen, hf⟩ := DataW.trod_struct Tryz.underlying37 h
 have h9 : Tryz.prog.cellsOf 37 = 16 := by kernel_rfl
 rw [h9] at hl
 match cs, hl with
 | [c0, c1, c2, c3, c4, c5, c6, c7, c8, c9, c10, c11, c12, c13, c14, c15], _ =>
   have k1 : Tryz.prog.cellsOf 3 = 1 := by kernel_rfl
   have k2 : Tryz.prog.cellsOf 25 = 1 := by kernel_rfl
   have k3 : Tryz.prog.cellsOf 35 = 4 := by kernel_rfl
   have k4 : Tryz.prog.cellsOf 32 = 1 := by kernel_rfl
   have k5 : Tryz.prog.cellsOf 22 = 1 := by kernel_rfl
   match xs, hlen with
   | [y0, y1, y2, y3, y4, y5, y6, y7, y8, y9, y10, y11, y12], _ =>
     have t0 : DataW.trod enc Tryz.prog w base spare held n 32 (([c0, c1, c2, c3, c4, c5, c6, c7, c8, c9, c10, c11, c12, c13, c14, c15].drop 0).take (Tryz.prog.cellsOf 32)) = some y0 := hf 0 _ rfl
     have t1 : DataW.trod enc Tryz.prog w base spare held n 3 (([c0, c1, c2, c3, c4, c5, c6, c7, c8, c9, c10, c11, c12, c13, c14, c15].drop 1).take (Tryz.prog.cellsOf 3)) = some y1 := hf 1 _ rfl
     have t2 : DataW.trod enc Tryz.prog w base spare held n 3 (([c0, c1, c2, c3, c4, c5, c6, c7, c8, c9, c10, c11, c12, c13, c14, c15].drop 2).take (Tryz.prog.cellsOf 3)) = some y2 := hf 2 _ rfl
     have t3 : DataW.trod enc Tryz.prog w base spare held n 3 (([c0, c1, c2, c3, c4, c5, c6, c7, c8, c9, c10, c11, c12, c13, c14, c15].drop 3).take (Tryz.prog.cellsOf 3)) = some y3 := hf 3 _ rfl
     have t4 : DataW.trod enc Tryz.prog w base spare held n 3 (([c0, c1, c2, c3, c4, c5, c6, c7, c8, c9, c10, c11, c12, c13, c14, c15].drop 4).take (Tryz.prog.cellsOf 3)) = some y4 := hf 4 _ rfl
     have t5 : DataW.trod enc Tryz.prog w base spare held n 3 (([c0, c1, c2, c3, c4, c5, c6, c7, c8, c9, c10, c11, c12, c13, c14, c15].drop 5).take (Tryz.prog.cellsOf 3)) = some y5 := hf 5 _ rfl
     have t6 : DataW.trod enc Tryz.prog w base spare held n 3 (([c0, c1, c2, c3, c4, c5, c6, c7, c8, c9, c10, c11, c12, c13, c14, c15].drop 6).take (Tryz.prog.cellsOf 3)) = some y6 := hf 6 _ rfl
     have t7 : DataW.trod enc Tryz.prog w base spare held n 3 (([c0, c1, c2, c3, c4, c5, c6, c7, c8, c9, c10, c11, c12, c13, c14, c15].drop 7).take (Tryz.prog.cellsOf 3)) = some y7 := hf 7 _ rfl
     have t8 : DataW.trod enc Tryz.prog w base spare held n 3 (([c0, c1, c2, c3, c4, c5, c6, c7, c8, c9, c10, c11, c12, c13, c14, c15].drop 8).take (Tryz.prog.cellsOf 3)) = some y8 := hf 8 _ rfl
     have t9 : DataW.trod enc Tryz.prog w base spare held n 3 (([c0, c1, c2, c3, c4, c5, c6, c7, c8, c9, c10, c11, c12, c13, c14, c15].drop 9).take (Tryz.prog.cellsOf 3)) = some y9 := hf 9 _ rfl
     have t10 : DataW.trod enc Tryz.prog w base spare held n 25 (([c0, c1, c2, c3, c4, c5, c6, c7, c8, c9, c10, c11, c12, c13, c14, c15].drop 10).take (Tryz.prog.cellsOf 25)) = some y10 := hf 10 _ rfl
     have t11 : DataW.trod enc Tryz.prog w base spare held n 22 (([c0, c1, c2, c3, c4, c5, c6, c7, c8, c9, c10, c11, c12, c13, c14, c15].drop 11).take (Tryz.prog.cellsOf 22)) = some y11 := hf 11 _ rfl
     have t12 : DataW.trod enc Tryz.prog w base spare held n 35 (([c0, c1, c2, c3, c4, c5, c6, c7, c8, c9, c10, c11, c12, c13, c14, c15].drop 12).take (Tryz.prog.cellsOf 35)) = some y12 := hf 12 _ rfl
     simp only [k1, k2, k3, k4, k5, List.drop_zero, List.take_succ_cons, List.take_zero, List.drop_succ_cons] at t0 t1 t2 t3 t4 t5 t6 t7 t8 t9 t10 t11 t12
     obtain ⟨a0, e0, _, b0⟩ := DataW.trod_int Tryz.underlying32 t0
     obtain ⟨a1, e1, _, b1⟩ := DataW.trod_int Tryz.underlying3 t1
     obtain ⟨a2, e2, _, b2⟩ := DataW.trod_int Tryz.underlying3 t2
     obtain ⟨a3, e3, _, b3⟩ := DataW.trod_int Tryz.underlying3 t3
     obtain ⟨a4, e4, _, b4⟩ := DataW.trod_int Tryz.underlying3 t4
     obtain ⟨a5, e5, _, b5⟩ := DataW.trod_int Tryz.underlying3 t5
     obtain ⟨a6, e6, _, b6⟩ := DataW.trod_int Tryz.underlying3 t6
     obtain ⟨a7, e7, _, b7⟩ := DataW.trod_int Tryz.underlying3 t7
     obtain ⟨a8, e8, _, b8⟩ := DataW.trod_int Tryz.underlying3 t8
     obtain ⟨a9, e9, _, b9⟩ := DataW.trod_int Tryz.underlying3 t9
     obtain ⟨a10, e10, _, b10⟩ := DataW.trod_int Tryz.underlying25 t10
     obtain ⟨vs, sa, ac, e11, hrow, hlen11⟩ := Jm n _ y11 t11
     obtain ⟨t, ar, ad, e12, hcp, hfo, hft⟩ := Yb n _ y12 t12
     simp only [List.cons.injEq, and_true] at e0 e1 e2 e3 e4 e5 e6 e7 e8 e9 e10 e12
     obtain ⟨rfl, rfl, rfl, rfl⟩ := e12
     subst e11
     subst e0
     subst e1
     subst e2
     subst e3
     subst e4
     subst e5
     subst e6
     subst e7
     subst e8
     subst e9
     subst e10
     exact ⟨a0, a1, a2, a3, a4, a5, a6, a7, a8, a9, a10, sa, ar, ac, ad, vs, t, rfl, ⟨hrow, rfl, rfl, hcp, hfo.kept fun q hq => ⟨hq, rfl⟩, ⟨hft.1, hft.2.1⟩, hlen11⟩, b0⟩
end
end Go.Proofs.YtchccbfljamjnaaGreat
namespace Go.Proofs.YtchccbfljamjnaaGreat
open Go.RowKit Go.Shelf
theorem zbn {a : Int} (h : (Lit.int .i8 a).wf = true) : IntKind.i64.wrap a = a := by
 have := kU h
 exact IntWalk.i64_in _ (by omega)
theorem wireRight_fr (w : World) (a0 a1 a2 a3 a4 a5 a6 a7 a8 a9 a10 : Int) (sa ar : Option Addr) (ac ad : Nat) (vs : List SV) (t : Tr) (b0 b1 b2 b3 b4 b5 b6 b7 b8 b9 b10 : Int) (sb_ br : Option Addr) (bc bd : Nat) (us : List SV) (u : Tr) (h : ZH w sa ar vs.length (foLen t.kids) ad vs t) (hw : (Lit.int .i8 a0).wf = true) (h2 : ZH w sb_ br us.length (foLen u.kids) bd us u) (hw2 : (Lit.int .i8 b0).wf = true) :
 Calls Tryz.prog 4 #[.agg #[.int .i8 a0, .int .i64 a1, .int .i64 a2, .int .i64 a3, .int .i64 a4, .int .i64 a5, .int .i64 a6, .int .i64 a7, .int .i64 a8, .int .i64 a9, .int .i64 a10, .slice sa vs.length ac, .int .i64 t.id, .int .i64 t.kind, .string t.text, .slice ar (foLen t.kids) ad], .agg #[.int .i8 b0, .int .i64 b1, .int .i64 b2, .int .i64 b3, .int .i64 b4, .int .i64 b5, .int .i64 b6, .int .i64 b7, .int .i64 b8, .int .i64 b9, .int .i64 b10, .slice sb_ us.length bc, .int .i64 u.id, .int .i64 u.kind, .string u.text, .slice br (foLen u.kids) bd]] w (zx true w) :=
 YH w a0 a1 a2 a3 a4 a5 a6 a7 a8 a9 a10 sa ar vs.length ac (foLen t.kids) ad vs t h (zbn hw) b0 b1 b2 b3 b4 b5 b6 b7 b8 b9 b10 sb_ br us.length bc (foLen u.kids) bd us u h2 (zbn hw2)
end Go.Proofs.YtchccbfljamjnaaGreat
