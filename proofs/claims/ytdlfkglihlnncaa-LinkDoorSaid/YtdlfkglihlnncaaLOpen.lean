/-
  A row of messages that came in, read out of memory; LinkDoor over arguments as they came in. No condition.
-/
import Derived.ProofKit
import Derived.OpenShut
import Derived.Deep.Slices
import Derived.Deep.Strs
import Derived.Laws.BytesArg
import Derived.Test.YtdlfkglihlnncaaLLaw
namespace Go.Proofs.Ytdlfkglihlnncaa
open Go.ChangeShapes Go.WideShapes Go.ChangeAt Go.RowKit
set_option linter.unusedVariables false

theorem cell_ltL {w : World} {a : Addr} {v : Value} (h : w.cell? a = some v) : a.block < w.heap.size := block_lt_of_cell h
section
variable {H : Type} {enc : TypeId × Value → H} {w : World} {base : Nat} {spare : Nat → Bool} {held : Bool}
set_option maxRecDepth 100000 in
set_option maxHeartbeats 2000000 in
theorem open_msg15 (fuel : Nat) (cs : List Value) (x : DataW H × List MemPlace) (h : DataW.trod enc Try.prog w base spare held fuel 39 cs = some x) :
    ∃ (a0 a1 a2 a3 a4 a5 a6 a7 a8 a9 a10 : Int) (c11 c12 c13 c14 c15 : Value), cs = [.int .i8 a0, .int .i64 a1, .int .i64 a2, .int .i64 a3, .int .i64 a4, .int .i64 a5, .int .i64 a6, .int .i64 a7, .int .i64 a8, .int .i64 a9, .int .i64 a10, c11, c12, c13, c14, c15] ∧ (Lit.int .i64 a1).wf = true ∧ (Lit.int .i64 a3).wf = true := by
  obtain ⟨xs, n, _, _, hl, hlen, hf⟩ := DataW.trod_struct Try.underlying39 h
  have h9 : Try.prog.cellsOf 39 = 16 := by kernel_rfl
  rw [h9] at hl
  match cs, hl with
  | [c0, c1, c2, c3, c4, c5, c6, c7, c8, c9, c10, c11, c12, c13, c14, c15], _ =>
    have k1 : Try.prog.cellsOf 3 = 1 := by kernel_rfl
    have k2 : Try.prog.cellsOf 25 = 1 := by kernel_rfl
    have k4 : Try.prog.cellsOf 33 = 1 := by kernel_rfl
    match xs, hlen with
    | [y0, y1, y2, y3, y4, y5, y6, y7, y8, y9, y10, y11, y12], _ =>
      have t0 : DataW.trod enc Try.prog w base spare held n 33 (([c0, c1, c2, c3, c4, c5, c6, c7, c8, c9, c10, c11, c12, c13, c14, c15].drop 0).take (Try.prog.cellsOf 33)) = some y0 := hf 0 _ rfl
      have t1 : DataW.trod enc Try.prog w base spare held n 3 (([c0, c1, c2, c3, c4, c5, c6, c7, c8, c9, c10, c11, c12, c13, c14, c15].drop 1).take (Try.prog.cellsOf 3)) = some y1 := hf 1 _ rfl
      have t2 : DataW.trod enc Try.prog w base spare held n 3 (([c0, c1, c2, c3, c4, c5, c6, c7, c8, c9, c10, c11, c12, c13, c14, c15].drop 2).take (Try.prog.cellsOf 3)) = some y2 := hf 2 _ rfl
      have t3 : DataW.trod enc Try.prog w base spare held n 3 (([c0, c1, c2, c3, c4, c5, c6, c7, c8, c9, c10, c11, c12, c13, c14, c15].drop 3).take (Try.prog.cellsOf 3)) = some y3 := hf 3 _ rfl
      have t4 : DataW.trod enc Try.prog w base spare held n 3 (([c0, c1, c2, c3, c4, c5, c6, c7, c8, c9, c10, c11, c12, c13, c14, c15].drop 4).take (Try.prog.cellsOf 3)) = some y4 := hf 4 _ rfl
      have t5 : DataW.trod enc Try.prog w base spare held n 3 (([c0, c1, c2, c3, c4, c5, c6, c7, c8, c9, c10, c11, c12, c13, c14, c15].drop 5).take (Try.prog.cellsOf 3)) = some y5 := hf 5 _ rfl
      have t6 : DataW.trod enc Try.prog w base spare held n 3 (([c0, c1, c2, c3, c4, c5, c6, c7, c8, c9, c10, c11, c12, c13, c14, c15].drop 6).take (Try.prog.cellsOf 3)) = some y6 := hf 6 _ rfl
      have t7 : DataW.trod enc Try.prog w base spare held n 3 (([c0, c1, c2, c3, c4, c5, c6, c7, c8, c9, c10, c11, c12, c13, c14, c15].drop 7).take (Try.prog.cellsOf 3)) = some y7 := hf 7 _ rfl
      have t8 : DataW.trod enc Try.prog w base spare held n 3 (([c0, c1, c2, c3, c4, c5, c6, c7, c8, c9, c10, c11, c12, c13, c14, c15].drop 8).take (Try.prog.cellsOf 3)) = some y8 := hf 8 _ rfl
      have t9 : DataW.trod enc Try.prog w base spare held n 3 (([c0, c1, c2, c3, c4, c5, c6, c7, c8, c9, c10, c11, c12, c13, c14, c15].drop 9).take (Try.prog.cellsOf 3)) = some y9 := hf 9 _ rfl
      have t10 : DataW.trod enc Try.prog w base spare held n 25 (([c0, c1, c2, c3, c4, c5, c6, c7, c8, c9, c10, c11, c12, c13, c14, c15].drop 10).take (Try.prog.cellsOf 25)) = some y10 := hf 10 _ rfl
      simp only [k1, k2, k4, List.drop_zero, List.take_succ_cons, List.take_zero, List.drop_succ_cons] at t0 t1 t2 t3 t4 t5 t6 t7 t8 t9 t10
      obtain ⟨a0, e0, _, b0⟩ := DataW.trod_int Try.underlying33 t0
      obtain ⟨a1, e1, _, b1⟩ := DataW.trod_int Try.underlying3 t1
      obtain ⟨a2, e2, _, b2⟩ := DataW.trod_int Try.underlying3 t2
      obtain ⟨a3, e3, _, b3⟩ := DataW.trod_int Try.underlying3 t3
      obtain ⟨a4, e4, _, b4⟩ := DataW.trod_int Try.underlying3 t4
      obtain ⟨a5, e5, _, b5⟩ := DataW.trod_int Try.underlying3 t5
      obtain ⟨a6, e6, _, b6⟩ := DataW.trod_int Try.underlying3 t6
      obtain ⟨a7, e7, _, b7⟩ := DataW.trod_int Try.underlying3 t7
      obtain ⟨a8, e8, _, b8⟩ := DataW.trod_int Try.underlying3 t8
      obtain ⟨a9, e9, _, b9⟩ := DataW.trod_int Try.underlying3 t9
      obtain ⟨a10, e10, _, b10⟩ := DataW.trod_int Try.underlying25 t10
      simp only [List.cons.injEq, and_true] at e0 e1 e2 e3 e4 e5 e6 e7 e8 e9 e10
      subst e0
      subst e1
      subst e2
      subst e3
      subst e4
      subst e5
      subst e6
      subst e7
      subst e8
      subst e9
      subst e10
      exact ⟨a0, a1, a2, a3, a4, a5, a6, a7, a8, a9, a10, c11, c12, c13, c14, c15, rfl, b1, b3⟩
theorem open_msgs (fuel : Nat) (v : Value) (x : DataW H × List MemPlace) (h : DataW.trod enc Try.prog w base spare held fuel 22 [v] = some x) :
    ∃ (a : Option Addr) (n cap : Nat), v = .slice a n cap ∧ MsgsIn w a n ∧ (n : Int) ≤ 9223372036854775807 := by
  rcases Deep.open_slice Try.underlying22 h with ⟨hcs, _⟩ | ⟨ad, len, cap, m, n, D, Pl, hcs, _, hl, hm, hmm, _, hi⟩
  · simp only [List.cons.injEq, and_true] at hcs
    subst hcs
    exact ⟨none, 0, 0, rfl, fun k hk => by omega, by omega⟩
  · simp only [List.cons.injEq, and_true] at hcs
    subst hcs
    have h9 : Try.prog.cellsOf 39 = 16 := by kernel_rfl
    have hle : len ≤ m := by rw [hmm]; split <;> omega
    rw [h9] at hi
    have each : ∀ k, k < len → ∃ (a0 a1 a2 a3 a4 a5 a6 a7 a8 a9 a10 : Int) (c11 c12 c13 c14 c15 : Value), (∀ (j : Nat) (u : Value), (#[.int .i8 a0, .int .i64 a1, .int .i64 a2, .int .i64 a3, .int .i64 a4, .int .i64 a5, .int .i64 a6, .int .i64 a7, .int .i64 a8, .int .i64 a9, .int .i64 a10, c11, c12, c13, c14, c15] : Array Value)[j]? = some u → w.cell? (ad.add (k * 16 + j)) = some u) ∧ (Lit.int .i64 a1).wf = true ∧ (Lit.int .i64 a3).wf = true := fun k hk => by
      obtain ⟨cs', hc, ht⟩ := hi k (by omega)
      obtain ⟨_, _, hat⟩ := World.cells?_some hc
      obtain ⟨a0, a1, a2, a3, a4, a5, a6, a7, a8, a9, a10, c11, c12, c13, c14, c15, rfl, b1, b3⟩ := open_msg15 n cs' _ ht
      have hz : ∀ (j : Nat) (u : Value), (#[.int .i8 a0, .int .i64 a1, .int .i64 a2, .int .i64 a3, .int .i64 a4, .int .i64 a5, .int .i64 a6, .int .i64 a7, .int .i64 a8, .int .i64 a9, .int .i64 a10, c11, c12, c13, c14, c15] : Array Value)[j]? = some u → w.cell? (ad.add (k * 16 + j)) = some u := fun j u hj => by
        have hj9 : j < 16 := by have := (Array.getElem?_eq_some_iff.1 hj).1; simpa using this
        have := hat j hj9
        rw [Deep.add_add] at this
        exact this.trans (by simpa using hj)
      exact ⟨a0, a1, a2, a3, a4, a5, a6, a7, a8, a9, a10, c11, c12, c13, c14, c15, hz, b1, b3⟩
    refine ⟨some ad, len, cap, rfl, fun k hk => ?_, by unfold maxLen at hm; omega⟩
    obtain ⟨b, off, spot⟩ := ad
    obtain ⟨_, _, _, _, _, _, _, _, _, _, _, _, _, _, _, _, hz', _, _⟩ := each 0 (by omega)
    have hz0 := hz' 0 _ rfl
    have hsp : spot = none := by simpa [Addr.add] using World.cell?_spot hz0
    subst hsp
    have hlt := cell_ltL hz0
    have hbk : (Addr.add ⟨b, off, none⟩ (0 * 16 + 0)).block = b := by unfold Addr.add; split <;> rfl
    rw [hbk] at hlt
    obtain ⟨a0, a1, a2, a3, a4, a5, a6, a7, a8, a9, a10, c11, c12, c13, c14, c15, hz, b1, b3⟩ := each k hk
    refine ⟨b, off, rfl, hlt, a0, a1, a2, a3, a4, a5, a6, a7, a8, a9, a10, c11, c12, c13, c14, c15, fun j u hj => ?_, b1, b3⟩
    have := hz j u hj
    rw [Addr.add_mid, ← Nat.add_assoc] at this
    exact this
end
theorem linkDoor_fr (w : World) (boot : Int) (a : Option Addr) (n cap : Nat) (client : Int) (h : MsgsIn w a n) (hl : (n : Int) ≤ 9223372036854775807) (hc : (Lit.int .i64 client).wf = true) :
    Calls Try.prog 3 #[.int .i64 boot, .slice a n cap, .int .i64 client] w (RetW (.bool true) w) :=
  linkDoor_any w boot client a n cap h hc hl
end Go.Proofs.Ytdlfkglihlnncaa
