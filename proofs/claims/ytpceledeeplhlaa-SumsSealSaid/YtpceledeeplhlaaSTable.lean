/-
  The table of remainders, whose rows are made when they are first wanted. No condition but that it lies where it is said to lie.
-/
import Derived.Test.YtpceledeeplhlaaSShift
namespace Go.Proofs.Ytpceledeeplhlaa
open Go.RowKit

/-- Block tb is a table: each row is 0, or what its byte comes to. -/
def TabAt (w : World) (tb : Nat) : Prop := ∃ cs : Array Value, w.heap[tb]? = some (.cells cs 39 (0, 0)) ∧ cs.size = 256 ∧ ∀ x : Nat, x < 256 → cs[x]? = some (.int .u32 0) ∨ cs[x]? = some (.int .u32 (sh8 x : Int))
/-- What a row that is not made yet turns. -/
structure TabC (w : World) (tb : Nat) (x : Nat) (e : Ending) (w' : World) : Prop where
  ret : e = .returned (.int .u32 (sh8 x : Int))
  tab : TabAt w' tb
  os : w'.os = w.os
  tape : w'.tape = w.tape
  output : w'.output = w.output
  size : w'.heap.size = w.heap.size
  block : ∀ k, k ≠ tb → w'.heap[k]? = w.heap[k]?
theorem TabAt.lt {w : World} {tb : Nat} (h : TabAt w tb) : tb < w.heap.size := by
  obtain ⟨cs, h1, _⟩ := h
  exact lt_of_heap h1
theorem TabAt.made {w : World} {tb : Nat} (h : TabAt w tb) (x : Nat) (hx : x < 256) : TabC w tb x (.returned (.int .u32 (sh8 x : Int))) (w.setCell ⟨tb, x, none⟩ (.int .u32 (sh8 x : Int))) := by
  obtain ⟨cs, h1, h2, h3⟩ := h
  refine ⟨rfl, ⟨cs.set! x (.int .u32 (sh8 x : Int)), heap_setCell_same w tb x _ _ _ h1, by simp [h2], fun y hy => ?_⟩, rfl, rfl, rfl, by simp [World.setCell], fun k hk => Below.heap_setCell _ _ _ _ hk⟩
  by_cases he : y = x
  · subst he
    exact Or.inr (by simp [h2, hy])
  · rw [show (cs.set! x (.int .u32 (sh8 x : Int)))[y]? = cs[y]? by simp [Ne.symm he]]
    exact h3 y hy
set_option maxRecDepth 100000 in
set_option maxHeartbeats 1000000 in
theorem row_any (w : World) (tb x : Nat) (hx : x < 256) (h : TabAt w tb) :
    Calls Try.prog 18 #[.int .u8 (x : Int), .pointer (some ⟨tb, 0, none⟩)] w (TabC w tb x) := by
  have HM := Lib.hid (h.made x hx)
  have HS := Lib.hid (shifted_any w x (by omega))
  obtain ⟨cs, h1, h2, h3⟩ := h
  have hc := cell_of_row w tb x _ _ _ h1
  have hf := frozen_of_row w tb x _ _ h1
  have HT := Lib.hid (And.intro h1 (And.intro h2 h3))
  rcases h3 x hx with h4 | h4
  · rw [h4] at hc
    clear h1 h2 h3 h4
    go_enter Try.func18, Try.ntmps18
    go_wp2_with (go_at_call 19; refine HS.out.mono ?_; clear HS; rintro e w1 ⟨rfl, rfl⟩)
    go_ret
    exact HM.out
  · rw [h4] at hc
    clear h1 h2 h3 h4
    go_enter Try.func18, Try.ntmps18
    go_wp2_with (go_at_call 19; refine HS.out.mono ?_; clear HS; rintro e w1 ⟨rfl, rfl⟩)
    · go_ret
      exact HM.out
    · go_ret
      exact ⟨rfl, ⟨cs, HT.out.1, HT.out.2.1, HT.out.2.2⟩, rfl, rfl, rfl, rfl, fun _ _ => rfl⟩
theorem Try.zeroTab (w : World) : (zeroValue 39).run Try.prog w = .ok (.agg (Array.replicate 256 (.int .u32 0))) w := by kernel_rfl
def MadeC (w : World) (e : Ending) (w' : World) : Prop := e = .returned (.func (.func 18) #[] #[.pointer (some ⟨w.heap.size, 0, none⟩)]) ∧ TabAt w' w.heap.size ∧ Below w.heap.size w w' ∧ w'.heap.size = w.heap.size + 1
set_option maxRecDepth 100000 in
set_option maxHeartbeats 1000000 in
theorem table_any (w : World) : Calls Try.prog 16 #[] w (MadeC w) := by
  have hmf : ∀ (fn : Fn) (first cap : Array Value) (w : World), (Instr.makeFunc fn first cap).run Try.prog w = .ok (.func fn first cap) w := fun _ _ _ _ => rfl
  obtain ⟨z, hz, h1⟩ : ∃ z, (∀ w, (zeroValue 39).run Try.prog w = .ok (.agg z) w) ∧ z = Array.replicate 256 (.int .u32 0) := ⟨_, Try.zeroTab, rfl⟩
  have H := Lib.hid h1
  clear h1
  go_enter Try.func16, Try.ntmps16
  go_wp2_with fail
  go_ret
  refine ⟨rfl, ⟨z, heap_alloc_new w _, by rw [H.out]; simp, fun x hx => Or.inl (by rw [H.out]; simp [hx])⟩, (Below.refl _ _).alloc (Nat.le_refl _) _, by simp⟩
end Go.Proofs.Ytpceledeeplhlaa
