/-
  A map from ints to ints by what it tells, and a server's door in memory. No condition.
-/
import Derived.Carry
import Derived.Maps.OwnSet
import Derived.Maps.OwnOps
import Derived.Test.YtdlfkglihlnncaaCBase
namespace Go.Proofs.Ytdlfkglihlnncaa
open Go.RowKit
open Go.Maps
set_option linter.unusedVariables false
set_option linter.unusedSimpArgs false

/-- The map tells g, 0 of what it does not hold. -/
def MapIs (w : World) (b n : Nat) (g : Int → Int) : Prop := ∃ D : DataW Value, w.ownsMap Try.prog 3 (plainElem (H := Value) Try.prog 3) b n D ∧ ∀ i, D.atKey (.int .i64 i) (.lit (.int .i64 0)) = .lit (.int .i64 (g i))
theorem MapIs.at {w w' : World} {b n : Nat} {g : Int → Int} (h : MapIs w b n g) (e : w'.heap[b]? = w.heap[b]?) : MapIs w' b n g := by
  obtain ⟨D, ⟨es, clock, hb, h⟩, h2⟩ := h
  exact ⟨D, ⟨es, clock, e.trans hb, h⟩, h2⟩
theorem MapIs.lt {w : World} {b n : Nat} {g : Int → Int} (h : MapIs w b n g) : b < w.heap.size := by
  obtain ⟨D, h1, h2⟩ := h
  exact World.ownsMap.lt h1
theorem MapIs.mono {w : World} {b n n' : Nat} {g : Int → Int} (h : MapIs w b n g) (hn : n ≤ n') : MapIs w b n' g := by
  obtain ⟨D, h1, h2⟩ := h
  exact ⟨D, World.ownsMap.mono h1 hn, h2⟩
theorem law15 : Keyed Try.prog 3 := int_keyed Try.underlying3
theorem zeroI_run (w : World) : (zeroValue 3).run Try.prog w = .ok (.int .i64 0) w := by kernel_rfl
theorem MapIs.made (w : World) : MapIs (w.alloc (.map #[] 0)) w.heap.size 0 (fun _ => 0) := ⟨.map [], World.ownsMap_made w Try.prog 3 _, fun i => rfl⟩
theorem MapIs.look {w : World} {b n : Nat} {g : Int → Int} {i : Int} (h : MapIs w b n g) (hi : (Lit.int .i64 i).wf = true) : (Instr.lookup 46 (.map (some b)) (.int .i64 i) false).run Try.prog w = .ok (.int .i64 (g i)) w ∧ (Lit.int .i64 (g i)).wf = true := by
  obtain ⟨D, h1, h2⟩ := h
  obtain ⟨c, h3, h4, h5⟩ := World.ownsMap.lookup_int h1 law15 Try.underlying46 Try.underlying3 (zeroI_run w) (keyOf_int_mk (P := Try.prog) Try.underlying3 hi)
  rw [h2 i] at h4
  have e : g i = c := by injection h4 with h4; injection h4
  rw [e]
  exact ⟨h3, h5⟩
theorem key_ne15 {a b : Int} (h : a ≠ b) : (Lit.int .i64 a) ≠ (Lit.int .i64 b) := fun e => by cases e; exact h rfl
def updI (g : Int → Int) (k z : Int) : Int → Int := fun i => if i = k then z else g i
theorem MapIs.put {w : World} {b n : Nat} {g : Int → Int} {k z : Int} (h : MapIs w b n g) (hn : n < maxLen) (hk : (Lit.int .i64 k).wf = true) (hz : (Lit.int .i64 z).wf = true) : ∃ w', (Instr.mapUpdate 46 (.map (some b)) (.int .i64 k) (.int .i64 z)).run Try.prog w = .ok () w' ∧ MapIs w' b (n + 1) (updI g k z) ∧ w.grownBy w' (some b) := by
  obtain ⟨D, h1, h2⟩ := h
  obtain ⟨w', h3, h4, h5⟩ := World.ownsMap.update h1 law15 Try.underlying46 hn (keyOf_int_mk (P := Try.prog) Try.underlying3 hk) (plainElem_int Try.underlying3 hz)
  refine ⟨w', h3, ⟨_, h4, fun i => ?_⟩, h5⟩
  unfold updI
  by_cases e : i = k
  · rw [if_pos e, e, atKey_put_same (World.ownsMap.isMap h1) (show WideAt.IsKeyLit (Lit.int .i64 k) by trivial)]
  · rw [if_neg e, atKey_put_other (key_ne15 e), h2]
theorem look_nil (w : World) (i : Int) : (Instr.lookup 46 (.map none) (.int .i64 i) false).run Try.prog w = .ok (.int .i64 0) w := by kernel_rfl
/-- What a value of the map's type tells: none holds nothing. -/
def MapV (w : World) (mo : Option Nat) (n : Nat) (g : Int → Int) : Prop := match mo with
  | none => g = fun _ => 0
  | some b => MapIs w b n g
theorem MapV.look {w : World} {mo : Option Nat} {n : Nat} {g : Int → Int} {i : Int} (h : MapV w mo n g) (hi : (Lit.int .i64 i).wf = true) : (Instr.lookup 46 (.map mo) (.int .i64 i) false).run Try.prog w = .ok (.int .i64 (g i)) w ∧ (Lit.int .i64 (g i)).wf = true := by
  cases mo with
  | none =>
    have h : g = fun _ => 0 := h
    subst h
    exact ⟨look_nil w i, show (Lit.int .i64 0).wf = true by decide⟩
  | some b => exact MapIs.look h hi
/-- A door: its boot, and a map of its own. -/
structure DoorAt (w : World) (db : Nat) (mo : Option Nat) (n : Nat) (boot : Int) (g : Int → Int) : Prop where
  row : w.heap[db]? = some (.cells #[.int .i64 boot, .map mo] 48 (0, 0))
  tells : MapV w mo n g
  apart : mo ≠ some db
/-- The document's door. -/
def refC (boot : Int) (g : Int → Int) : Array Value := #[.int .i64 boot, .int .i64 (g 0), .int .i64 (g 1), .int .i64 (g 2), .int .i64 (g 3), .int .i64 (g 4), .int .i64 (g 5), .int .i64 (g 6), .int .i64 (g 7), .int .i64 (g 8)]
def takes (g : Int → Int) (f b : Int) : Bool := decide (1 ≤ f) && decide (f ≤ 8) && decide (1 ≤ b) && decide (g f ≤ b)
def after (g : Int → Int) (f b : Int) : Int → Int := if takes g f b then updI g f b else g
/-- Heard of clients alone. -/
def Only (g : Int → Int) : Prop := ∀ i, i < 1 ∨ 8 < i → g i = 0
theorem Only.after {g : Int → Int} (h : Only g) (f b : Int) : Only (after g f b) := by
  unfold Go.Proofs.Ytdlfkglihlnncaa.after
  split
  · rename_i ht
    intro i hi
    unfold takes at ht
    simp only [Bool.and_eq_true, decide_eq_true_eq] at ht
    unfold updI
    rw [if_neg (by omega)]
    exact h i hi
  · exact h
end Go.Proofs.Ytdlfkglihlnncaa
