/-
  What CodeNil answers: true, whatever memory there is. No condition.
-/
import Derived.Test.YthdffhmmkodenaaCWakes
namespace Go.Proofs.Ythdffhmmkodenaa
open Go.RowKit

theorem low_step {w w1 w2 : World} (h : Below w.heap.size w w1) (h2 : Below w1.heap.size w1 w2) : Below w.heap.size w w2 := h.trans (h2.mono h.size)
theorem node_there {w2 w3 w4 w5 : World} {o : Obj} (h3 : Below (w2.alloc o).heap.size (w2.alloc o) w3) (h4 : Below w3.heap.size w3 w4) (h5 : Below w4.heap.size w4 w5) : w5.heap[w2.heap.size]? = some o := by
  have s3 := h3.size
  have s4 := h4.size
  have s0 : (w2.alloc o).heap.size = w2.heap.size + 1 := World.size_alloc ..
  rw [h5.block _ (by omega), h4.block _ (by omega), h3.block _ (by omega)]
  exact heap_alloc_new w2 o
set_option maxRecDepth 100000 in
set_option maxHeartbeats 400000 in
theorem codeNil_any (w : World) (size most : Int) : Calls Try.prog 6 #[.int .i64 size, .int .i64 most] w fun e w' => e = .returned (.bool true) ∧ Below w.heap.size w w' := by
  have NE := Lib.hid End_nil
  have NN := Lib.hid Node_nil
  have NU := Lib.hid Number_nil
  have NS := Lib.hid Small_nil
  have NT := Lib.hid Text_nil
  have NP := Lib.hid Steps_nil
  have NC := Lib.hid Count_nil
  have NW := Lib.hid wakes_any
  go_enter Try.func6, Try.ntmps6
  go_wp2_with (first
    | (go_at_call 34; refine (NE.out _).mono ?_; clear NE; rintro e w1 ⟨v, rfl, rfl, rfl⟩)
    | (go_at_call 26; refine (NN.out _).mono ?_; clear NN; rintro e w2 ⟨v, rfl, rfl, h⟩; have H2 := Lib.hid (h.alloc h.size (.cells #[.int .i64 0, .int .i64 0, .string ⟨#[]⟩, .slice none 0 0] 25)); clear h)
    | (go_at_call 20; refine (NU.out _).mono ?_; clear NU; rintro e w3 ⟨v, rfl, rfl, h⟩; have H3 := Lib.hid h; clear h)
    | (go_at_call 22; refine (NS.out _).mono ?_; clear NS; rintro e w4 ⟨v, rfl, rfl, h⟩; have H4 := Lib.hid h; clear h)
    | (go_at_call 24; refine (NT.out _).mono ?_; clear NT; rintro e w5 ⟨v, rfl, rfl, h⟩; have hg := node_there H3.out H4.out h; have d0 : w5.cell? ⟨w2.heap.size, 0, none⟩ = some (.int .i64 0) := by { rw [cell_of_row w5 _ 0 _ _ _ hg]; rfl }; have d3 : w5.cell? ⟨w2.heap.size, 3, none⟩ = some (.slice none 0 0) := by { rw [cell_of_row w5 _ 3 _ _ _ hg]; rfl }; have H5 := Lib.hid (low_step (low_step (low_step H2.out H3.out) H4.out) h); clear h hg)
    | (go_at_call 29; refine (NP.out _).mono ?_; clear NP; rintro e w6 ⟨v, rfl, rfl, h⟩; have H6 := Lib.hid h; clear h)
    | (go_at_call 32; refine (NC.out _ _ _).mono ?_; clear NC; rintro e w7 ⟨v, rfl, rfl, h⟩; have H7 := Lib.hid h; clear h)
    | (go_at_call 9; refine (NW.out _).mono ?_; clear NW; rintro e w8 ⟨rfl, h⟩; have H8 := Lib.hid h; clear h))
  go_ret
  exact ⟨rfl, low_step (low_step (low_step H5.out H6.out) H7.out) H8.out⟩
end Go.Proofs.Ythdffhmmkodenaa
