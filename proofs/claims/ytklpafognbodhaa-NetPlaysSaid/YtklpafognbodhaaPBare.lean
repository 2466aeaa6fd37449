/-
  What 'copied' answers of a message without steps and with a tree of one node: that message. No condition.
-/
import Derived.Test.YtklpafognbodhaaMBlk
import Derived.Laws.EntriesVeiled
import Derived.Lib.SliceRun
namespace Go.Proofs.Ytklpafognbodhaa
open Go.RowKit

theorem Try.nilSteps (w : World) : (binOp .eql 35 (.slice none 0 0) (.slice none 0 0)).run Try.prog w = .ok (.bool true) w := Lib.run_eql_slice_nil w _ _ none 0 0 0 0 Try.underlying35
theorem Try.nilNodes (w : World) : (binOp .eql 36 (.slice none 0 0) (.slice none 0 0)).run Try.prog w = .ok (.bool true) w := Lib.run_eql_slice_nil w _ _ none 0 0 0 0 Try.underlying36
theorem clone_steps_nil (w : World) : Calls Try.prog 52 #[.slice none 0 0] w fun e w' => e = .returned (.slice none 0 0) ∧ w = w' := by
  go_enter Try.func52, Try.ntmps52
  have hq := Try.nilSteps
  go_wp2_with fail
  go_ret
  exact ⟨rfl, rfl⟩
theorem clone_nodes_nil (w : World) : Calls Try.prog 51 #[.slice none 0 0] w fun e w' => e = .returned (.slice none 0 0) ∧ w = w' := by
  go_enter Try.func51, Try.ntmps51
  have hq := Try.nilNodes
  go_wp2_with fail
  go_ret
  exact ⟨rfl, rfl⟩

theorem own_bare (w : World) (B n : Nat) (p q : Option Addr) (h : w.cell? ⟨B, 15, none⟩ = some (.slice none 0 0)) (hf : w.frozen? ⟨B, 15, none⟩ = false) :
    Calls Try.prog 50 #[.pointer (some ⟨B, 12, none⟩), .int .i64 n, .pointer p, .pointer q] w fun e w' => e = .returned (.tuple #[]) ∧ w' = w.setCell ⟨B, 15, none⟩ (.slice none 0 0) := by
  have hs : (w.setCell ⟨B, 15, none⟩ (.slice none 0 0)).cell? ⟨B, 15, none⟩ = some (.slice none 0 0) := World.cell?_setCell_same' _ _ _ (by rw [h]; rfl)
  go_enter Try.func50, Try.ntmps50
  go_wp2_with (go_at_call 51; refine (clone_nodes_nil _).mono ?_; rintro e w' ⟨rfl, rfl⟩)
  refine wp_loop_once ?_
  go_wp2_with fail
  go_end0
  exact ⟨rfl, rfl⟩

attribute [local go_sem ↓] loadM wpLoadM storeM wpStoreM
attribute [local go_sem] putAt_ptr
set_option maxRecDepth 100000 in
set_option maxHeartbeats 2000000 in
theorem copied_bare (w : World) (c0 c1 c2 c3 c4 c5 c6 c7 c8 c9 c10 c12 c13 c14 : Value) (hone : ∀ u ∈ ([c0, c1, c2, c3, c4, c5, c6, c7, c8, c9, c10, .slice none 0 0, c12, c13, c14, .slice none 0 0] : List Value), u.oneCell' = true) : Calls Try.prog 33 #[.agg #[c0, c1, c2, c3, c4, c5, c6, c7, c8, c9, c10, .slice none 0 0, c12, c13, c14, .slice none 0 0]] w fun e w' => e = .returned (.agg #[c0, c1, c2, c3, c4, c5, c6, c7, c8, c9, c10, .slice none 0 0, c12, c13, c14, .slice none 0 0]) ∧ Below w.heap.size w w' := by
  obtain ⟨W, hW⟩ : ∃ W, W = ((((w.alloc (.cells #[c0, c1, c2, c3, c4, c5, c6, c7, c8, c9, c10, .slice none 0 0, c12, c13, c14, .slice none 0 0] 40)).alloc (.cells #[.int .i8 0, .int .i64 0, .int .i64 0, .int .i64 0, .int .i64 0, .int .i64 0, .int .i64 0, .int .i64 0, .int .i64 0, .int .i64 0, .int .i64 0, .slice none 0 0, .int .i64 0, .int .i64 0, .string ⟨#[]⟩, .slice none 0 0] 40)).alloc (.cells #[.slice none 0 0] 86)).alloc (.cells #[.func (.func 50) #[] #[.pointer (some ⟨w.heap.size + 1 + 1, 0, none⟩), .pointer (some ⟨w.heap.size + 1 + 1 + 1, 0, none⟩)]] 87)) := ⟨_, rfl⟩
  have k0 : (((w.alloc (.cells #[c0, c1, c2, c3, c4, c5, c6, c7, c8, c9, c10, .slice none 0 0, c12, c13, c14, .slice none 0 0] 40)).alloc (.cells #[.int .i8 0, .int .i64 0, .int .i64 0, .int .i64 0, .int .i64 0, .int .i64 0, .int .i64 0, .int .i64 0, .int .i64 0, .int .i64 0, .int .i64 0, .slice none 0 0, .int .i64 0, .int .i64 0, .string ⟨#[]⟩, .slice none 0 0] 40)).alloc (.cells #[.slice none 0 0] 86)).heap.size = w.heap.size + 1 + 1 + 1 := by simp
  have hB : W.heap[w.heap.size]? = some (.cells #[c0, c1, c2, c3, c4, c5, c6, c7, c8, c9, c10, .slice none 0 0, c12, c13, c14, .slice none 0 0] 40 (0, 0)) := by rw [hW, Below.heap_alloc _ _ _ (by simp <;> omega), Below.heap_alloc _ _ _ (by simp <;> omega), heap_alloc2_old]
  have hC : W.heap[w.heap.size + 1]? = some (.cells #[.int .i8 0, .int .i64 0, .int .i64 0, .int .i64 0, .int .i64 0, .int .i64 0, .int .i64 0, .int .i64 0, .int .i64 0, .int .i64 0, .int .i64 0, .slice none 0 0, .int .i64 0, .int .i64 0, .string ⟨#[]⟩, .slice none 0 0] 40 (0, 0)) := by rw [hW, Below.heap_alloc _ _ _ (by simp <;> omega), Below.heap_alloc _ _ _ (by simp <;> omega), heap_alloc2_new]
  have hbW : Below w.heap.size w W := by rw [hW]; exact ((((Below.refl _ _).alloc (Nat.le_refl _) _).alloc (by simp) _).alloc (by simp; omega) _).alloc (by rw [k0]; omega) _
  have hth := there_msg hB (o := 0) (cs := [c0, c1, c2, c3, c4, c5, c6, c7, c8, c9, c10, .slice none 0 0, c12, c13, c14, .slice none 0 0]) rfl (fun j u hj => by rw [Nat.zero_add]; simpa using hj)
  have f1 := hth.1
  have f2 := hth.2
  have f3 := freeAt_of hC rfl
  have f4 : isMsg (.agg #[c0, c1, c2, c3, c4, c5, c6, c7, c8, c9, c10, .slice none 0 0, c12, c13, c14, .slice none 0 0]) = true := isMsg_agg rfl hone
  have hst := setCells_block [c0, c1, c2, c3, c4, c5, c6, c7, c8, c9, c10, .slice none 0 0, c12, c13, c14, .slice none 0 0] [] (#[.int .i8 0, .int .i64 0, .int .i64 0, .int .i64 0, .int .i64 0, .int .i64 0, .int .i64 0, .int .i64 0, .int .i64 0, .int .i64 0, .int .i64 0, .slice none 0 0, .int .i64 0, .int .i64 0, .string ⟨#[]⟩, .slice none 0 0] : Array Value).toList W (t := 40) (b := w.heap.size + 1) (by simpa using hC) rfl
  have hfr := setCells_frame (b := w.heap.size + 1) [c0, c1, c2, c3, c4, c5, c6, c7, c8, c9, c10, .slice none 0 0, c12, c13, c14, .slice none 0 0] 0 W
  have HE := Lib.hid (And.intro hst (hbW.trans (hfr.2.1 _ (by omega))))
  rw [hW] at f1 f2 f3 HE
  clear hth hst hfr hbW hB hC k0 hone hW W
  have hmf : ∀ (fn : Fn) (first cap : Array Value) (w : World), (Instr.makeFunc fn first cap).run Try.prog w = .ok (.func fn first cap) w := fun _ _ _ _ => rfl
  go_enter Try.func33, Try.ntmps33
  go_wp2_with (go_at_call 52; refine (clone_steps_nil _).mono ?_; rintro e w' ⟨rfl, rfl⟩)
  refine wp_loop_once ?_
  go_wp2_with (go_at_call 50; refine (own_bare _ _ 100 _ _ (by go_simp) (by go_simp)).mono ?_; rintro e w' ⟨rfl, rfl⟩)
  refine wp_loop_once ?_
  go_wp2_with fail
  have hE := HE.out
  generalize World.setCells _ _ _ _ = W5 at hE ⊢
  refine bodyPost_ret (results_cell_row rfl _ _ (w.heap.size + 1) 40 _ (0, 0) _ rfl hE.1 Try.underlying40 rfl (by kernel_rfl)) rfl ?_
  exact ⟨rfl, hE.2⟩

end Go.Proofs.Ytklpafognbodhaa
