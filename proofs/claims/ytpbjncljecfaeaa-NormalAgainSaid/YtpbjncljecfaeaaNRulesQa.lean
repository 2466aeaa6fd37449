/-
  The rules' table. No condition.
-/
import Derived.Deep.MidRow
import Derived.Laws.Rows
import Derived.Test.YtpbjncljecfaeaaNFitQa
namespace Go.Proofs.Ytpbjncljecfaeaa
open Go.RowKit Go.Shelf
set_option linter.unusedVariables false
set_option linter.unusedSimpArgs false

def ruleC : Array Value := #[.int .i8 4, .int .i8 4, .func (.func 38) #[] #[], .func (.func 39) #[] #[], .int .i8 1, .int .i8 2, .func (.func 40) #[] #[], .func (.func 41) #[] #[], .int .i8 3, .int .i8 3, .func (.func 38) #[] #[], .func (.func 39) #[] #[], .int .i8 1, .int .i8 4, .func (.func 42) #[] #[], .func (.func 43) #[] #[]]
set_option maxRecDepth 100000 in
set_option maxHeartbeats 4000000 in
theorem rules_any (w : World) : Calls Try.prog 30 #[] w (fun e w' => e = .returned (.agg ruleC) ∧ Below w.heap.size w w') := by
  go_enter Try.func30, Try.ntmps30
  go_wp2_with fail
  exact bodyPost_ret (results_cell_row rfl _ _ w.heap.size 69 ruleC (0, 0) _ rfl (heap_alloc_new _ _) Try.underlying69 rfl (by kernel_rfl)) rfl ⟨rfl, (Below.refl _ _).alloc (Nat.le_refl _) _⟩
end Go.Proofs.Ytpbjncljecfaeaa
