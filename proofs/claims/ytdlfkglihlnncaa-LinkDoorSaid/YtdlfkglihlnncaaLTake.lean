/-
  The program's door: what becomes of a message, and what is told of a client. No condition.
-/
import Derived.Test.YtdlfkglihlnncaaLBase
import Derived.BigRegion
namespace Go.Proofs.Ytdlfkglihlnncaa
open Go.RowKit
open Go.Maps
set_option linter.unusedVariables false
set_option linter.unusedSimpArgs false

def RetW (v : Value) (w : World) (e : Ending) (w' : World) : Prop := e = .returned v ∧ Below w.heap.size w w'
def bootB (n : Int) : Bool := decide (1 ≤ n) && decide (n ≤ 1125899906842624)
def clientI (n : Int) : Bool := decide (1 ≤ n) && decide (n ≤ 8)
theorem isBoot_any (w : World) (n : Int) : Calls Try.prog 15 #[.int .i64 n] w (fun e w' => e = .returned (.bool (bootB n)) ∧ w' = w) := by
  unfold bootB
  by_cases h1 : 1 ≤ n
  · by_cases h2 : n ≤ 1125899906842624
    · rw [decide_eq_true h1, decide_eq_true h2]
      go_enter Try.func15, Try.ntmps15
      go_wp2_with fail
      go_ret
      exact ⟨rfl, rfl⟩
    · rw [decide_eq_true h1, decide_eq_false h2]
      go_enter Try.func15, Try.ntmps15
      go_wp2_with fail
      go_ret
      exact ⟨rfl, rfl⟩
  · rw [decide_eq_false h1]
    go_enter Try.func15, Try.ntmps15
    go_wp2_with fail
    go_ret
    exact ⟨rfl, rfl⟩
theorem isClient_any (w : World) (n : Int) : Calls Try.prog 16 #[.int .i64 n] w (fun e w' => e = .returned (.bool (clientI n)) ∧ w' = w) := by
  unfold clientI
  by_cases h1 : 1 ≤ n
  · by_cases h2 : n ≤ 8
    · rw [decide_eq_true h1, decide_eq_true h2]
      go_enter Try.func16, Try.ntmps16
      go_wp2_with fail
      go_ret
      exact ⟨rfl, rfl⟩
    · rw [decide_eq_true h1, decide_eq_false h2]
      go_enter Try.func16, Try.ntmps16
      go_wp2_with fail
      go_ret
      exact ⟨rfl, rfl⟩
  · rw [decide_eq_false h1]
    go_enter Try.func16, Try.ntmps16
    go_wp2_with fail
    go_ret
    exact ⟨rfl, rfl⟩
/-- raise: the greater one is kept. -/
theorem raise_any (w : World) (b : Nat) (k n : Int) (h : w.heap[b]? = some (.cells #[.int .i64 k] 3 (0, 0))) :
    Calls Try.prog 18 #[.pointer (some ⟨b, 0, none⟩), .int .i64 n] w (fun e w' => e = .returned (.bool (decide (k < n))) ∧ w' = if k < n then w.setCell ⟨b, 0, none⟩ (.int .i64 n) else w) := by
  have c0 : w.cell? ⟨b, 0, none⟩ = some (.int .i64 k) := by rw [cell_of_row _ _ 0 _ _ _ h]; rfl
  have f0 : w.frozen? ⟨b, 0, none⟩ = false := frozen_of_row _ _ 0 _ _ h
  clear h
  by_cases h : n ≤ k
  · have hd : decide (k < n) = false := decide_eq_false (by omega)
    rw [hd, if_neg (by omega)]
    go_enter Try.func18, Try.ntmps18
    go_wp2_with fail
    go_ret
    exact ⟨rfl, rfl⟩
  · have hd : decide (k < n) = true := decide_eq_true (by omega)
    rw [hd, if_pos (by omega)]
    go_enter Try.func18, Try.ntmps18
    go_wp2_with fail
    go_ret
    exact ⟨rfl, rfl⟩
end Go.Proofs.Ytdlfkglihlnncaa
