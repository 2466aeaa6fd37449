/-
  A door that is new, what it tells, and which boots it notes. No condition.
-/
import Derived.Test.YtdlfkglihlnncaaLTake
import Derived.BigQuiet
namespace Go.Proofs.Ytdlfkglihlnncaa
open Go.RowKit
open Go.Maps
set_option linter.unusedVariables false
set_option linter.unusedSimpArgs false

theorem grown_touched {w w' : World} {b : Nat} (h : w.grownBy w' (some b)) : Touched w w' (fun q => q = b) := ⟨h.os, h.tape, h.output, h.size, fun k hk hn => h.block k hk (fun e => hn (Option.some.inj e))⟩
theorem newDoor_yes (w : World) (n : Int) (h : bootB n = true) : Calls Try.prog 5 #[.int .i64 n] w (fun e w' => e = .returned (.tuple #[.pointer (some ⟨w.heap.size, 0, none⟩), .int .i64 0]) ∧ w' = w.alloc (.cells #[.int .i64 n, .map none] 48)) := by
  have HC := Lib.hid (isBoot_any w n)
  rw [h] at HC
  clear h
  go_enter Try.func5, Try.ntmps5
  go_wp2_with fail
  refine HC.out.mono ?_
  rintro e w' ⟨rfl, rfl⟩
  go_wp2_with fail
  go_ret2
  exact ⟨rfl, rfl⟩
theorem newDoor_no (w : World) (n : Int) (h : bootB n = false) : Calls Try.prog 5 #[.int .i64 n] w (fun e w' => e = .returned (.tuple #[.pointer none, .int .i64 2]) ∧ w' = w) := by
  have HC := Lib.hid (isBoot_any w n)
  rw [h] at HC
  clear h
  go_enter Try.func5, Try.ntmps5
  go_wp2_with fail
  refine HC.out.mono ?_
  rintro e w' ⟨rfl, rfl⟩
  go_wp2_with fail
  go_ret2
  exact ⟨rfl, rfl⟩
theorem row2 {w : World} {b : Nat} {c0 c1 : Value} {T : TypeId} (h : w.heap[b]? = some (.cells #[c0, c1] T (0, 0))) : w.cell? ⟨b, 0, none⟩ = some c0 ∧ w.cell? ⟨b, 1, none⟩ = some c1 :=
  ⟨by rw [cell_of_row _ _ 0 _ _ _ h]; rfl, by rw [cell_of_row _ _ 1 _ _ _ h]; rfl⟩
theorem boot_any (w : World) (db n : Nat) (mo : Option Nat) (boot i : Int) (g : Int → Int) (h : DoorAt w db mo n boot g) (hi : (Lit.int .i64 i).wf = true) :
    Calls Try.prog 10 #[.pointer (some ⟨db, 0, none⟩), .int .i64 i] w (fun e w' => e = .returned (.int .i64 (g i)) ∧ w' = w) := by
  obtain ⟨c0, c1⟩ := row2 h.row
  have hl := (MapV.look h.tells hi).1
  clear h hi
  go_enter Try.func10, Try.ntmps10
  go_wp2_with fail
  go_ret
  exact ⟨rfl, rfl⟩
theorem boot_nil (w : World) (i : Int) :
    Calls Try.prog 10 #[.pointer none, .int .i64 i] w (fun e w' => e = .returned (.int .i64 0) ∧ w' = w) := by
  go_enter Try.func10, Try.ntmps10
  go_wp2_with fail
  go_ret
  exact ⟨rfl, rfl⟩
end Go.Proofs.Ytdlfkglihlnncaa
