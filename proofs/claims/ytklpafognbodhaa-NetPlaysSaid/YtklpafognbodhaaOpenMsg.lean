/-
  Messages that came in, read out of memory; the cells of a message in a row. No condition.
-/
import Derived.Test.YtklpafognbodhaaOpen
namespace Go.Proofs.Ytklpafognbodhaa
open Go.ChangeShapes Go.WideShapes Go.ChangeAt Go.RowKit

def msgCells (m : Msg) (sa : Option Addr) (sc : Nat) (ka : Option Addr) (cap : Nat) : List Value :=
  [.int .i8 m.kind, .int .i64 m.frm, .int .i64 m.to, .int .i64 m.boot, .int .i64 m.server, .int .i64 m.number, .int .i64 m.node, .int .i64 m.lease, .int .i64 m.epoch, .int .i64 m.version, .int .i64 m.e, .slice sa m.steps.length sc, .int .i64 m.tree.id, .int .i64 m.tree.kind, .string m.tree.text, .slice ka (foLen m.tree.kids) cap]
def Msg.fits (m : Msg) : Prop := m.steps.length ≤ 9223372036854775807 ∧ (∀ s ∈ m.steps, Fits s.sub) ∧ Fits m.tree
/-- The lists and trees of a message lie there. -/
def MsgIn (w : World) (S : Nat → Prop) (m : Msg) (sa ka : Option Addr) : Prop := StepsAt w S sa m.steps ∧ FoAt w S m.tree.kids ka
theorem MsgIn.kept {w w' : World} {S S' : Nat → Prop} {m : Msg} {sa ka : Option Addr} (h : MsgIn w S m sa ka) (hS : ∀ k, S k → S' k ∧ w'.heap[k]? = w.heap[k]?) : MsgIn w' S' m sa ka := ⟨h.1.kept hS, h.2.kept hS⟩
theorem MsgIn.at {w : World} {S : Nat → Prop} {m : Msg} {sa ka : Option Addr} (h : MsgIn w S m sa ka) (sc cap : Nat) : MsgAt w S (.agg (msgCells m sa sc ka cap).toArray) m := ⟨sa, sc, ka, cap, rfl, h.1, h.2⟩
theorem MsgAt.cells {w : World} {S : Nat → Prop} {v : Value} {m : Msg} (h : MsgAt w S v m) : ∃ sa sc ka cap, v = .agg (msgCells m sa sc ka cap).toArray ∧ MsgIn w S m sa ka := by
  obtain ⟨sa, sc, ka, cap, e, h1, h2⟩ := h
  exact ⟨sa, sc, ka, cap, e, h1, h2⟩
instance : Inhabited Msg := ⟨⟨0, 0, 0, 0, 0, 0, 0, 0, 0, 0, 0, [], default⟩⟩

section
variable {H : Type} {enc : TypeId × Value → H} {w : World} {base : Nat} {spare : Nat → Bool} {held : Bool}

set_option maxHeartbeats 400000 in
theorem open_msg (fuel : Nat) (cs : List Value) (x : DataW H × List MemPlace) (h : DataW.trod enc Try.prog w base spare held fuel 40 cs = some x) :
    ∃ (m : Msg) (sa : Option Addr) (sc : Nat) (ka : Option Addr) (cap : Nat), cs = msgCells m sa sc ka cap ∧ MsgIn w (Old w) m sa ka ∧ m.fits := by
  obtain ⟨xs, n, _, _, hl, hlen, hf⟩ := DataW.trod_struct Try.underlying40 h
  have h16 : Try.prog.cellsOf 40 = 16 := by kernel_rfl
  rw [h16] at hl
  match cs, hl with
  | [c0, c1, c2, c3, c4, c5, c6, c7, c8, c9, c10, c11, c12, c13, c14, c15], _ =>
    have k1 : Try.prog.cellsOf 3 = 1 := by kernel_rfl
    have k2 : Try.prog.cellsOf 34 = 1 := by kernel_rfl
    have k3 : Try.prog.cellsOf 38 = 4 := by kernel_rfl
    have k4 : Try.prog.cellsOf 33 = 1 := by kernel_rfl
    have k5 : Try.prog.cellsOf 35 = 1 := by kernel_rfl
    match xs, hlen with
    | [y0, y1, y2, y3, y4, y5, y6, y7, y8, y9, y10, y11, y12], _ =>
      have t0 : DataW.trod enc Try.prog w base spare held n 33 (([c0, c1, c2, c3, c4, c5, c6, c7, c8, c9, c10, c11, c12, c13, c14, c15].drop 0).take (Try.prog.cellsOf 33)) = some y0 := hf 0 _ rfl
      have t1 : DataW.trod enc Try.prog w base spare held n 3 (([c0, c1, c2, c3, c4, c5, c6, c7, c8, c9, c10, c11, c12, c13, c14, c15].drop 1).take (Try.prog.cellsOf 3)) = some y1 := hf 1 _ rfl
      have t2 : DataW.trod enc Try.prog w base spare held n 3 (([c0, c1, c2, c3, c4, c5, c6, c7, c8, c9, c10, c11, c12, c13, c14, c15].drop 2).take (Try.prog.cellsOf 3)) = some y2 := hf 2 _ rfl
      have t3 : DataW.trod enc Try.prog w base spare held n 3 (([c0, c1, c2, c3, c4, c5, c6, c7, c8, c9, c10, c11, c12, c13, c14, c15].drop 3).take (Try.prog.cellsOf 3)) = some y3 := hf 3 _ rfl
      have t4 : DataW.trod enc Try.prog w base spare held n 3 (([c0, c1, c2, c3, c4, c5, c6, c7, c8, c9, c10, c11, c12, c13, c14, c15].drop 4).take (Try.prog.cellsOf 3)) = some y4 := hf 4 _ rfl
      have t5 : DataW.trod enc Try.prog w base spare held n 3 (([c0, c1, c2, c3, c4, c5, c6, c7, c8, c9, c10, c11, c12, c13, c14, c15].drop 5).take (Try.prog.cellsOf 3)) = some y5 := hf 5 _ rfl
      have t6 : DataW.trod enc Try.prog w base spare held n 3 (([c0, c1, c2, c3, c4, c5, c6, c7, c8, c9, c10, c11, c12, c13, c14, c15].drop 6).take (Try.prog.cellsOf 3)) = some y6 := hf 6 _ rfl
      have t7 : DataW.trod enc Try.prog w base spare held n 3 (([c0, c1, c2, c3, c4, c5, c6, c7, c8, c9, c10, c11, c12, c13, c14, c15].drop 7).take (Try.prog.cellsOf 3)) = some y7 := hf 7 _ rfl
      have t8 : DataW.trod enc Try.prog w base spare held n 3 (([c0, c1, c2, c3, c4, c5, c6, c7, c8, c9, c10, c11, c12, c13, c14, c15].drop 8).take (Try.prog.cellsOf 3)) = some y8 := hf 8 _ rfl
      have t9 : DataW.trod enc Try.prog w base spare held n 3 (([c0, c1, c2, c3, c4, c5, c6, c7, c8, c9, c10, c11, c12, c13, c14, c15].drop 9).take (Try.prog.cellsOf 3)) = some y9 := hf 9 _ rfl
      have t10 : DataW.trod enc Try.prog w base spare held n 34 (([c0, c1, c2, c3, c4, c5, c6, c7, c8, c9, c10, c11, c12, c13, c14, c15].drop 10).take (Try.prog.cellsOf 34)) = some y10 := hf 10 _ rfl
      have t11 : DataW.trod enc Try.prog w base spare held n 35 (([c0, c1, c2, c3, c4, c5, c6, c7, c8, c9, c10, c11, c12, c13, c14, c15].drop 11).take (Try.prog.cellsOf 35)) = some y11 := hf 11 _ rfl
      have t12 : DataW.trod enc Try.prog w base spare held n 38 (([c0, c1, c2, c3, c4, c5, c6, c7, c8, c9, c10, c11, c12, c13, c14, c15].drop 12).take (Try.prog.cellsOf 38)) = some y12 := hf 12 _ rfl
      simp only [k1, k2, k3, k4, k5, List.drop_zero, List.take_succ_cons, List.take_zero, List.drop_succ_cons] at t0 t1 t2 t3 t4 t5 t6 t7 t8 t9 t10 t11 t12
      obtain ⟨n0, e0, _, _⟩ := DataW.trod_int Try.underlying33 t0
      obtain ⟨n1, e1, _, _⟩ := DataW.trod_int Try.underlying3 t1
      obtain ⟨n2, e2, _, _⟩ := DataW.trod_int Try.underlying3 t2
      obtain ⟨n3, e3, _, _⟩ := DataW.trod_int Try.underlying3 t3
      obtain ⟨n4, e4, _, _⟩ := DataW.trod_int Try.underlying3 t4
      obtain ⟨n5, e5, _, _⟩ := DataW.trod_int Try.underlying3 t5
      obtain ⟨n6, e6, _, _⟩ := DataW.trod_int Try.underlying3 t6
      obtain ⟨n7, e7, _, _⟩ := DataW.trod_int Try.underlying3 t7
      obtain ⟨n8, e8, _, _⟩ := DataW.trod_int Try.underlying3 t8
      obtain ⟨n9, e9, _, _⟩ := DataW.trod_int Try.underlying3 t9
      obtain ⟨n10, e10, _, _⟩ := DataW.trod_int Try.underlying34 t10
      obtain ⟨l, sa, sc, e11, hll, hst, hsf⟩ := open_steps n c11 y11 t11
      obtain ⟨u, ka, cap, e12, hfo, hft⟩ := open_node n _ y12 t12
      simp only [List.cons.injEq, and_true] at e0 e1 e2 e3 e4 e5 e6 e7 e8 e9 e10 e12
      obtain ⟨rfl, rfl, rfl, rfl⟩ := e12
      subst e0; subst e1; subst e2; subst e3; subst e4; subst e5; subst e6; subst e7; subst e8; subst e9; subst e10; subst e11
      exact ⟨⟨n0, n1, n2, n3, n4, n5, n6, n7, n8, n9, n10, l, u⟩, sa, sc, ka, cap, rfl, ⟨hst, hfo⟩, hll, hsf, hft⟩
end

end Go.Proofs.Ytklpafognbodhaa
