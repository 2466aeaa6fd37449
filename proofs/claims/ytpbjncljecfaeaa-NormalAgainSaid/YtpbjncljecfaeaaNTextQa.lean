/-
  text: a step that sets a text. No condition.
-/
import Derived.Deep.Cut
import Derived.Test.YtpbjncljecfaeaaNOfQa
namespace Go.Proofs.Ytpbjncljecfaeaa
open Go.RowKit Go.Shelf
set_option linter.unusedVariables false
set_option linter.unusedSimpArgs false

def textS (id : Int) (tx : ByteArray) : Sf := ⟨4, id, 0, 0, tx, ⟨0, 0, ⟨#[]⟩, .nil⟩⟩
def TextC (w : World) (id : Int) (tx : ByteArray) (e : Ending) (w' : World) : Prop := e = .returned (.agg #[.int .i8 4, .int .i64 id, .int .i64 0, .int .i64 0, .string tx, .int .i64 0, .int .i64 0, .string ⟨#[]⟩, .slice none 0 0]) ∧ Below w.heap.size w w'
set_option maxRecDepth 100000 in
set_option maxHeartbeats 8000000 in
theorem text12_any (w : World) (id : Int) (tx : ByteArray) :
    Calls Try.prog 18 #[.int .i64 id, .string tx] w (TextC w id tx) := by
  obtain ⟨B, hB⟩ : ∃ B, B = allocs w [.cells #[.int .i8 0, .int .i64 0, .int .i64 0, .int .i64 0, .string ⟨#[]⟩, .int .i64 0, .int .i64 0, .string ⟨#[]⟩, .slice none 0 0] 27] := ⟨_, rfl⟩
  have hb : Below w.heap.size w B := by rw [hB]; exact allocs_below _ _
  have er : B.heap[w.heap.size]? = some (.cells #[.int .i8 0, .int .i64 0, .int .i64 0, .int .i64 0, .string ⟨#[]⟩, .int .i64 0, .int .i64 0, .string ⟨#[]⟩, .slice none 0 0] 27 (0, 0)) := by rw [hB]; exact allocs_at _ _ 0 _ rfl
  obtain ⟨z0, z1, z2, z3, z4, z5, z6, z7, z8⟩ := box9 er
  have zf : ∀ j, B.frozen? ⟨w.heap.size, j, none⟩ = false := fun j => frozen_of_row _ _ j _ _ er
  obtain ⟨V, hV, r1, r2, r3, r4, r5, r6⟩ := nine_setN (u0 := .int .i8 4) (u1 := .int .i64 id) (u2 := .int .i64 0) (u3 := .int .i64 0) (u4 := .string tx) (u5 := .int .i64 0) (u6 := .int .i64 0) (u7 := .string ⟨#[]⟩) (u8 := .slice none 0 0) er
  have HE := Lib.hid (And.intro hV r1)
  have HB := Lib.hid (show Below w.heap.size w V from ⟨r3.trans hb.os, r4.trans hb.tape, r5.trans hb.output, by rw [r6]; exact hb.size, fun y hy => (r2 y (by omega)).trans (hb.block y hy)⟩)
  have HBE := Lib.hid hB
  clear hV r1 r2 r3 r4 r5 r6 er hb hB
  go_enter Try.func18, Try.ntmps18
  go_upto_region 1 with fail
  change Code.wp _ _ _ _ (allocs w [.cells #[.int .i8 0, .int .i64 0, .int .i64 0, .int .i64 0, .string ⟨#[]⟩, .int .i64 0, .int .i64 0, .string ⟨#[]⟩, .slice none 0 0] 27])
  rw [← HBE.out]
  clear HBE
  go_wp2_with fail
  rw [← HE.out.1]
  exact bodyPost_ret (results_cell_row rfl _ _ w.heap.size 27 _ (0, 0) _ rfl HE.out.2 Try.underlying27 rfl (by kernel_rfl)) rfl ⟨rfl, HB.out⟩
end Go.Proofs.Ytpbjncljecfaeaa
