/-
  NARROWER THAN 'FOR EVERY INPUT', by the rows' own cells (each row's printed sentence says how): ChangesRows: loops · ChangesBack: loops.
  DERIVED. THE GIVEN ROWS OF THIS SEAT. 2 by the template 'for every input the law returns true; each argument reads behind the call as it read before'; 0 by the template 'total and deterministic' (their statements: YtonapijgfalpaaaGreatTotals.lean).
  GIVEN WITH THE SEED: the statements are not yours to turn. If you find one false, say at which input.
  Laid BY PROGRAM, IN A SANDBOX (cutbox-rows.mjs): the forced cells as the released guide's own fill.sh prints them over the translation bf1e7d6e806e0a14… (all of the seat's roots in one cut). By AI agents, Wed Nov 11 2026. No macro, syntax, notation, axiom, sorry.
-/
import Derived.Test.YtonapijgfalpaaaGreatChecked
import GoSem.Claim
import GoSem.ClaimJoined
import GoSem.ClaimMapViews
import Derived.JoinedTies
import Derived.KernelRfl
namespace Go.Proofs.YtonapijgfalpaaaGreat
/- THE CELL 'sum', in the pinned program and in every row, IS THE sha256 OF THE DUMP (.gsa) THAT YtonapijgfalpaaaGreatProg.lean LOADS. Nothing in Lean hashes anything: it is a label: what it is worth is what the hold of that sum in a sandbox is worth. -/
noncomputable def Tryz.pinned : Pinned := { name := "ytonapijgfalpaaagreat", sum := "bf1e7d6e806e0a146248ce7aed1e07ab4a9245dbae7dc74d4667209ba89537ab", checked := Tryz.checked }
namespace Rows
def none {H : Type} : Left H := { results := [], args := [] }

/-- 'allotmentlaw11.ChangesRows': WHATEVER THE INPUT: true; the input reads as it did. -/
def changesRowsSpec : ChangeSpec := { name := "changesRows", fn := fun _ => fun
  | [d1, d2] => { results := [.lit (.bool true)], args := [d1, d2] }
  | _ => none }
def changesRowsRow : OpenClaim := { program := "ytonapijgfalpaaagreat", sum := "bf1e7d6e806e0a146248ce7aed1e07ab4a9245dbae7dc74d4667209ba89537ab", func := "allotment/allotmentlaw11.ChangesRows", spec := "changesRows", inPlace := ["slices.overlaps[allotment/api.Node]"], unfollowed := true, recurses := true, loops := true, apart := false }
def ChangesRowsSaid : Prop := changesRowsRow.holds Tryz.pinned (OpenSpec.ofChange changesRowsSpec)

/-- ITS FALSE NEIGHBOUR: 'it returns false'. Refute it at one input. -/
def changesRowsWrong : ChangeSpec := { name := "changesRows", fn := fun _ => fun
  | [d1, d2] => { results := [.lit (.bool false)], args := [d1, d2] }
  | _ => none }
def ChangesRowsWrongFalsely : Prop := changesRowsRow.holds Tryz.pinned (OpenSpec.ofChange changesRowsWrong)

/-- 'allotmentlaw11.ChangesBack': WHATEVER THE INPUT: true; the input reads as it did. -/
def changesBackSpec : ChangeSpec := { name := "changesBack", fn := fun _ => fun
  | [d1, d2, d3] => { results := [.lit (.bool true)], args := [d1, d2, d3] }
  | _ => none }
def changesBackRow : OpenClaim := { program := "ytonapijgfalpaaagreat", sum := "bf1e7d6e806e0a146248ce7aed1e07ab4a9245dbae7dc74d4667209ba89537ab", func := "allotment/allotmentlaw11.ChangesBack", spec := "changesBack", inPlace := ["slices.overlaps[allotment/api.Node]"], unfollowed := true, recurses := true, loops := true, apart := false }
def ChangesBackSaid : Prop := changesBackRow.holds Tryz.pinned (OpenSpec.ofChange changesBackSpec)

/-- ITS FALSE NEIGHBOUR: 'it returns false'. Refute it at one input. -/
def changesBackWrong : ChangeSpec := { name := "changesBack", fn := fun _ => fun
  | [d1, d2, d3] => { results := [.lit (.bool false)], args := [d1, d2, d3] }
  | _ => none }
def ChangesBackWrongFalsely : Prop := changesBackRow.holds Tryz.pinned (OpenSpec.ofChange changesBackWrong)

/- THE SECOND FORM. 'bulk': how many values and letters a reading holds, each counted each time it is reached (what is shared counts as often as it is met; a slice's spare places count too). A statement '..UptoSaid' is the law's where the arguments, and the package variables that the reading takes, are together of bulk at most 1048576: NARROWER than '..Said'. Prove '..Said' where nothing that the law and all that it calls make is longer than what came in: it says more and counts as full. Else prove '..UptoSaid'. A law counts once. -/
mutual
def uptoBulk {H : Type} : DataW H → Nat
  | .lit (.string bytes) => bytes.length + 1
  | .lit _ => 1
  | .nil => 1
  | .ptr d => uptoBulk d + 1
  | .slice elems spare => uptoBulkAll elems + uptoBulkAll spare + 1
  | .agg parts => uptoBulkAll parts + 1
  | .iface _ d => uptoBulk d + 1
  | .map entries => uptoBulkEntries entries + 1
  | .held _ => 1
def uptoBulkAll {H : Type} : List (DataW H) → Nat
  | [] => 0
  | d :: r => uptoBulk d + uptoBulkAll r
def uptoBulkEntries {H : Type} : List (Lit × DataW H) → Nat
  | [] => 0
  | x :: r => uptoBulkEntry x + uptoBulkEntries r
def uptoBulkEntry {H : Type} : Lit × DataW H → Nat
  | (.string bytes, d) => bytes.length + uptoBulk d + 1
  | (_, d) => uptoBulk d + 1
 end
def uptoSmall : (H : Type) → List (DataW H) → Bool := fun _ ds => decide (uptoBulkAll ds ≤ 1048576)
def OpenSpec.upto (s : _root_.Go.ChangeSpec) : _root_.Go.OpenSpec := { _root_.Go.OpenSpec.ofChange s with cond := some uptoSmall }

/-- 'allotmentlaw11.ChangesRows', WHERE WHAT IT READS IS OF BULK AT MOST 1048576: true; the input reads as it did. -/
def changesRowsUptoRow : OpenClaim := { program := "ytonapijgfalpaaagreat", sum := "bf1e7d6e806e0a146248ce7aed1e07ab4a9245dbae7dc74d4667209ba89537ab", func := "allotment/allotmentlaw11.ChangesRows", spec := "changesRows", inPlace := ["slices.overlaps[allotment/api.Node]"], unfollowed := true, recurses := true, loops := true, apart := false, narrowed := true }
def ChangesRowsUptoSaid : Prop := changesRowsUptoRow.holds Tryz.pinned (OpenSpec.upto changesRowsSpec)

/-- 'allotmentlaw11.ChangesBack', WHERE WHAT IT READS IS OF BULK AT MOST 1048576: true; the input reads as it did. -/
def changesBackUptoRow : OpenClaim := { program := "ytonapijgfalpaaagreat", sum := "bf1e7d6e806e0a146248ce7aed1e07ab4a9245dbae7dc74d4667209ba89537ab", func := "allotment/allotmentlaw11.ChangesBack", spec := "changesBack", inPlace := ["slices.overlaps[allotment/api.Node]"], unfollowed := true, recurses := true, loops := true, apart := false, narrowed := true }
def ChangesBackUptoSaid : Prop := changesBackUptoRow.holds Tryz.pinned (OpenSpec.upto changesBackSpec)

end Rows
end Go.Proofs.YtonapijgfalpaaaGreat
