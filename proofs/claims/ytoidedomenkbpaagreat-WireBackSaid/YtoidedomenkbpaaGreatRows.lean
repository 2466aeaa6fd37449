/-
  NARROWER THAN 'FOR EVERY INPUT', by the rows' own cells (each row's printed sentence says how): ChangesRows: loops · WireRight: loops · WireSteps: loops · WireBytes: loops · WireBack: loops · WireFlips: loops.
  DERIVED. THE GIVEN ROWS OF THIS SEAT. 7 by the template 'for every input the law returns true; each argument reads behind the call as it read before'; 0 by the template 'total and deterministic' (their statements: YtoidedomenkbpaaGreatTotals.lean).
  GIVEN WITH THE SEED: the statements are not yours to turn. If you find one false, say at which input.
  Laid BY PROGRAM, IN A SANDBOX (cutbox-rows.mjs): the forced cells as the released guide's own fill.sh prints them over the translation 7dc62dee85078379… (all of the seat's roots in one cut). By AI agents, Wed Nov 11 2026. No macro, syntax, notation, axiom, sorry.
-/
import Derived.Test.YtoidedomenkbpaaGreatChecked
import GoSem.Claim
import GoSem.ClaimJoined
import GoSem.ClaimMapViews
import Derived.JoinedTies
import Derived.KernelRfl
namespace Go.Proofs.YtoidedomenkbpaaGreat
/- THE CELL 'sum', in the pinned program and in every row, IS THE sha256 OF THE DUMP (.gsa) THAT YtoidedomenkbpaaGreatProg.lean LOADS. Nothing in Lean hashes anything: it is a label: what it is worth is what the hold of that sum in a sandbox is worth. -/
noncomputable def Tryz.pinned : Pinned := { name := "ytoidedomenkbpaagreat", sum := "7dc62dee85078379685af9a43b35098f9a669a6b42d682a7450489883f2d6bbc", checked := Tryz.checked }
namespace Rows
def none {H : Type} : Left H := { results := [], args := [] }

/-- 'allotmentlaw11.ChangesRows': WHATEVER THE INPUT: true; the input reads as it did. -/
def changesRowsSpec : ChangeSpec := { name := "changesRows", fn := fun _ => fun
  | [d1, d2] => { results := [.lit (.bool true)], args := [d1, d2] }
  | _ => none }
def changesRowsRow : OpenClaim := { program := "ytoidedomenkbpaagreat", sum := "7dc62dee85078379685af9a43b35098f9a669a6b42d682a7450489883f2d6bbc", func := "allotment/allotmentlaw11.ChangesRows", spec := "changesRows", inPlace := ["slices.overlaps[allotment/api.Node]"], unfollowed := true, recurses := true, loops := true, apart := false }
def ChangesRowsSaid : Prop := changesRowsRow.holds Tryz.pinned (OpenSpec.ofChange changesRowsSpec)

/-- ITS FALSE NEIGHBOUR: 'it returns false'. Refute it at one input. -/
def changesRowsWrong : ChangeSpec := { name := "changesRows", fn := fun _ => fun
  | [d1, d2] => { results := [.lit (.bool false)], args := [d1, d2] }
  | _ => none }
def ChangesRowsWrongFalsely : Prop := changesRowsRow.holds Tryz.pinned (OpenSpec.ofChange changesRowsWrong)

/-- 'allotmentlaw14.WireRight': WHATEVER THE INPUT: true; the input reads as it did. -/
def wireRightSpec : ChangeSpec := { name := "wireRight", fn := fun _ => fun
  | [d1, d2] => { results := [.lit (.bool true)], args := [d1, d2] }
  | _ => none }
def wireRightRow : OpenClaim := { program := "ytoidedomenkbpaagreat", sum := "7dc62dee85078379685af9a43b35098f9a669a6b42d682a7450489883f2d6bbc", func := "allotment/allotmentlaw14.WireRight", spec := "wireRight", unfollowed := true, recurses := true, loops := true, apart := false }
def WireRightSaid : Prop := wireRightRow.holds Tryz.pinned (OpenSpec.ofChange wireRightSpec)

/-- ITS FALSE NEIGHBOUR: 'it returns false'. Refute it at one input. -/
def wireRightWrong : ChangeSpec := { name := "wireRight", fn := fun _ => fun
  | [d1, d2] => { results := [.lit (.bool false)], args := [d1, d2] }
  | _ => none }
def WireRightWrongFalsely : Prop := wireRightRow.holds Tryz.pinned (OpenSpec.ofChange wireRightWrong)

/-- 'allotmentlaw14.WireSteps': WHATEVER THE INPUT: true; the input reads as it did. -/
def wireStepsSpec : ChangeSpec := { name := "wireSteps", fn := fun _ => fun
  | [d1, d2] => { results := [.lit (.bool true)], args := [d1, d2] }
  | _ => none }
def wireStepsRow : OpenClaim := { program := "ytoidedomenkbpaagreat", sum := "7dc62dee85078379685af9a43b35098f9a669a6b42d682a7450489883f2d6bbc", func := "allotment/allotmentlaw14.WireSteps", spec := "wireSteps", unfollowed := true, recurses := true, loops := true, apart := false }
def WireStepsSaid : Prop := wireStepsRow.holds Tryz.pinned (OpenSpec.ofChange wireStepsSpec)

/-- ITS FALSE NEIGHBOUR: 'it returns false'. Refute it at one input. -/
def wireStepsWrong : ChangeSpec := { name := "wireSteps", fn := fun _ => fun
  | [d1, d2] => { results := [.lit (.bool false)], args := [d1, d2] }
  | _ => none }
def WireStepsWrongFalsely : Prop := wireStepsRow.holds Tryz.pinned (OpenSpec.ofChange wireStepsWrong)

/-- 'allotmentlaw14.WireBytes': WHATEVER THE INPUT: true; the input reads as it did. -/
def wireBytesSpec : ChangeSpec := { name := "wireBytes", fn := fun _ => fun
  | [d] => { results := [.lit (.bool true)], args := [d] }
  | _ => none }
def wireBytesRow : OpenClaim := { program := "ytoidedomenkbpaagreat", sum := "7dc62dee85078379685af9a43b35098f9a669a6b42d682a7450489883f2d6bbc", func := "allotment/allotmentlaw14.WireBytes", spec := "wireBytes", unfollowed := true, recurses := true, loops := true, apart := false }
def WireBytesSaid : Prop := wireBytesRow.holds Tryz.pinned (OpenSpec.ofChange wireBytesSpec)

/-- ITS FALSE NEIGHBOUR: 'it returns false'. Refute it at one input. -/
def wireBytesWrong : ChangeSpec := { name := "wireBytes", fn := fun _ => fun
  | [d] => { results := [.lit (.bool false)], args := [d] }
  | _ => none }
def WireBytesWrongFalsely : Prop := wireBytesRow.holds Tryz.pinned (OpenSpec.ofChange wireBytesWrong)

/-- 'allotmentlaw14.WireReads': WHATEVER THE INPUT: true; the input reads as it did. -/
def wireReadsSpec : ChangeSpec := { name := "wireReads", fn := fun _ => fun
  | [d] => { results := [.lit (.bool true)], args := [d] }
  | _ => none }
def wireReadsRow : OpenClaim := { program := "ytoidedomenkbpaagreat", sum := "7dc62dee85078379685af9a43b35098f9a669a6b42d682a7450489883f2d6bbc", func := "allotment/allotmentlaw14.WireReads", spec := "wireReads", unfollowed := true, recurses := true, apart := false }
def WireReadsSaid : Prop := wireReadsRow.holds Tryz.pinned (OpenSpec.ofChange wireReadsSpec)

/-- ITS FALSE NEIGHBOUR: 'it returns false'. Refute it at one input. -/
def wireReadsWrong : ChangeSpec := { name := "wireReads", fn := fun _ => fun
  | [d] => { results := [.lit (.bool false)], args := [d] }
  | _ => none }
def WireReadsWrongFalsely : Prop := wireReadsRow.holds Tryz.pinned (OpenSpec.ofChange wireReadsWrong)

/-- 'allotmentlaw14.WireBack': WHATEVER THE INPUT: true; the input reads as it did. -/
def wireBackSpec : ChangeSpec := { name := "wireBack", fn := fun _ => fun
  | [d1, d2] => { results := [.lit (.bool true)], args := [d1, d2] }
  | _ => none }
def wireBackRow : OpenClaim := { program := "ytoidedomenkbpaagreat", sum := "7dc62dee85078379685af9a43b35098f9a669a6b42d682a7450489883f2d6bbc", func := "allotment/allotmentlaw14.WireBack", spec := "wireBack", unfollowed := true, recurses := true, loops := true, apart := false }
def WireBackSaid : Prop := wireBackRow.holds Tryz.pinned (OpenSpec.ofChange wireBackSpec)

/-- ITS FALSE NEIGHBOUR: 'it returns false'. Refute it at one input. -/
def wireBackWrong : ChangeSpec := { name := "wireBack", fn := fun _ => fun
  | [d1, d2] => { results := [.lit (.bool false)], args := [d1, d2] }
  | _ => none }
def WireBackWrongFalsely : Prop := wireBackRow.holds Tryz.pinned (OpenSpec.ofChange wireBackWrong)

/-- 'allotmentlaw14.WireFlips': WHATEVER THE INPUT: true; the input reads as it did. -/
def wireFlipsSpec : ChangeSpec := { name := "wireFlips", fn := fun _ => fun
  | [d1, d2, d3, d4] => { results := [.lit (.bool true)], args := [d1, d2, d3, d4] }
  | _ => none }
def wireFlipsRow : OpenClaim := { program := "ytoidedomenkbpaagreat", sum := "7dc62dee85078379685af9a43b35098f9a669a6b42d682a7450489883f2d6bbc", func := "allotment/allotmentlaw14.WireFlips", spec := "wireFlips", unfollowed := true, recurses := true, loops := true, apart := false }
def WireFlipsSaid : Prop := wireFlipsRow.holds Tryz.pinned (OpenSpec.ofChange wireFlipsSpec)

/-- ITS FALSE NEIGHBOUR: 'it returns false'. Refute it at one input. -/
def wireFlipsWrong : ChangeSpec := { name := "wireFlips", fn := fun _ => fun
  | [d1, d2, d3, d4] => { results := [.lit (.bool false)], args := [d1, d2, d3, d4] }
  | _ => none }
def WireFlipsWrongFalsely : Prop := wireFlipsRow.holds Tryz.pinned (OpenSpec.ofChange wireFlipsWrong)

/- THE SECOND FORM. 'bulk': how many values and letters a reading holds, each counted each time it is reached (what is shared counts as often as it is met; a slice's spare places count too). A statement '..UptoSaid' is the law's where the arguments, and the package variables that the reading takes, are together of bulk at most 1048576: NARROWER than '..Said'. Prove '..Said' where nothing that the law and all that it calls make is longer than what came in: it says more and counts as full. Else prove '..UptoSaid'. A law counts once. -/
mutual
def uptoBulk {H : Type} : DataW H → Nat
  | .lit (.string bytes) => bytes.length + 1
  | .lit _ => 1
  | .nil => 1
  | .ptr d => uptoBulk d + 1
  | .slice elems spare => uptoBulkAll elems + uptoBulkAll spare + 1
  | .agg parts => uptoBulkAll parts + 1
  | .iface _ d => uptoBulk d + 1
  | .map entries => uptoBulkEntries entries + 1
  | .held _ => 1
def uptoBulkAll {H : Type} : List (DataW H) → Nat
  | [] => 0
  | d :: r => uptoBulk d + uptoBulkAll r
def uptoBulkEntries {H : Type} : List (Lit × DataW H) → Nat
  | [] => 0
  | x :: r => uptoBulkEntry x + uptoBulkEntries r
def uptoBulkEntry {H : Type} : Lit × DataW H → Nat
  | (.string bytes, d) => bytes.length + uptoBulk d + 1
  | (_, d) => uptoBulk d + 1
 end
def uptoSmall : (H : Type) → List (DataW H) → Bool := fun _ ds => decide (uptoBulkAll ds ≤ 1048576)
def OpenSpec.upto (s : _root_.Go.ChangeSpec) : _root_.Go.OpenSpec := { _root_.Go.OpenSpec.ofChange s with cond := some uptoSmall }

/-- 'allotmentlaw11.ChangesRows', WHERE WHAT IT READS IS OF BULK AT MOST 1048576: true; the input reads as it did. -/
def changesRowsUptoRow : OpenClaim := { program := "ytoidedomenkbpaagreat", sum := "7dc62dee85078379685af9a43b35098f9a669a6b42d682a7450489883f2d6bbc", func := "allotment/allotmentlaw11.ChangesRows", spec := "changesRows", inPlace := ["slices.overlaps[allotment/api.Node]"], unfollowed := true, recurses := true, loops := true, apart := false, narrowed := true }
def ChangesRowsUptoSaid : Prop := changesRowsUptoRow.holds Tryz.pinned (OpenSpec.upto changesRowsSpec)

/-- 'allotmentlaw14.WireRight', WHERE WHAT IT READS IS OF BULK AT MOST 1048576: true; the input reads as it did. -/
def wireRightUptoRow : OpenClaim := { program := "ytoidedomenkbpaagreat", sum := "7dc62dee85078379685af9a43b35098f9a669a6b42d682a7450489883f2d6bbc", func := "allotment/allotmentlaw14.WireRight", spec := "wireRight", unfollowed := true, recurses := true, loops := true, apart := false, narrowed := true }
def WireRightUptoSaid : Prop := wireRightUptoRow.holds Tryz.pinned (OpenSpec.upto wireRightSpec)

/-- 'allotmentlaw14.WireSteps', WHERE WHAT IT READS IS OF BULK AT MOST 1048576: true; the input reads as it did. -/
def wireStepsUptoRow : OpenClaim := { program := "ytoidedomenkbpaagreat", sum := "7dc62dee85078379685af9a43b35098f9a669a6b42d682a7450489883f2d6bbc", func := "allotment/allotmentlaw14.WireSteps", spec := "wireSteps", unfollowed := true, recurses := true, loops := true, apart := false, narrowed := true }
def WireStepsUptoSaid : Prop := wireStepsUptoRow.holds Tryz.pinned (OpenSpec.upto wireStepsSpec)

/-- 'allotmentlaw14.WireBytes', WHERE WHAT IT READS IS OF BULK AT MOST 1048576: true; the input reads as it did. -/
def wireBytesUptoRow : OpenClaim := { program := "ytoidedomenkbpaagreat", sum := "7dc62dee85078379685af9a43b35098f9a669a6b42d682a7450489883f2d6bbc", func := "allotment/allotmentlaw14.WireBytes", spec := "wireBytes", unfollowed := true, recurses := true, loops := true, apart := false, narrowed := true }
def WireBytesUptoSaid : Prop := wireBytesUptoRow.holds Tryz.pinned (OpenSpec.upto wireBytesSpec)

/-- 'allotmentlaw14.WireReads', WHERE WHAT IT READS IS OF BULK AT MOST 1048576: true; the input reads as it did. -/
def wireReadsUptoRow : OpenClaim := { program := "ytoidedomenkbpaagreat", sum := "7dc62dee85078379685af9a43b35098f9a669a6b42d682a7450489883f2d6bbc", func := "allotment/allotmentlaw14.WireReads", spec := "wireReads", unfollowed := true, recurses := true, apart := false, narrowed := true }
def WireReadsUptoSaid : Prop := wireReadsUptoRow.holds Tryz.pinned (OpenSpec.upto wireReadsSpec)

/-- 'allotmentlaw14.WireBack', WHERE WHAT IT READS IS OF BULK AT MOST 1048576: true; the input reads as it did. -/
def wireBackUptoRow : OpenClaim := { program := "ytoidedomenkbpaagreat", sum := "7dc62dee85078379685af9a43b35098f9a669a6b42d682a7450489883f2d6bbc", func := "allotment/allotmentlaw14.WireBack", spec := "wireBack", unfollowed := true, recurses := true, loops := true, apart := false, narrowed := true }
def WireBackUptoSaid : Prop := wireBackUptoRow.holds Tryz.pinned (OpenSpec.upto wireBackSpec)

/-- 'allotmentlaw14.WireFlips', WHERE WHAT IT READS IS OF BULK AT MOST 1048576: true; the input reads as it did. -/
def wireFlipsUptoRow : OpenClaim := { program := "ytoidedomenkbpaagreat", sum := "7dc62dee85078379685af9a43b35098f9a669a6b42d682a7450489883f2d6bbc", func := "allotment/allotmentlaw14.WireFlips", spec := "wireFlips", unfollowed := true, recurses := true, loops := true, apart := false, narrowed := true }
def WireFlipsUptoSaid : Prop := wireFlipsUptoRow.holds Tryz.pinned (OpenSpec.upto wireFlipsSpec)

end Rows
end Go.Proofs.YtoidedomenkbpaaGreat
