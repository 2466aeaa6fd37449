/-
  NARROWER THAN 'FOR EVERY INPUT', by the rows' own cells (each row's printed sentence says how): NormalPairs: loops · NormalForms: loops · NormalAgain: loops.
  DERIVED. THE GIVEN ROWS OF THIS SEAT. 3 by the template 'for every input the law returns true; each argument reads behind the call as it read before'; 0 by the template 'total and deterministic' (their statements: YtpbjncljecfaeaaTotals.lean).
  GIVEN WITH THE SEED: the statements are not yours to turn. If you find one false, say at which input.
  Laid BY PROGRAM, IN A SANDBOX (cutbox-rows.mjs): the forced cells as the released guide's own fill.sh prints them over the translation 4f55aed88fd9b829… (all of the seat's roots in one cut). By AI agents, Wed Nov 11 2026. No macro, syntax, notation, axiom, sorry.
-/
import Derived.Test.YtpbjncljecfaeaaChecked
import GoSem.Claim
import GoSem.ClaimJoined
import GoSem.ClaimMapViews
import Derived.JoinedTies
import Derived.KernelRfl
namespace Go.Proofs.Ytpbjncljecfaeaa
/- THE CELL 'sum', in the pinned program and in every row, IS THE sha256 OF THE DUMP (.gsa) THAT YtpbjncljecfaeaaProg.lean LOADS. Nothing in Lean hashes anything: it is a label: what it is worth is what the hold of that sum in a sandbox is worth. -/
noncomputable def Try.pinned : Pinned := { name := "ytpbjncljecfaeaa", sum := "4f55aed88fd9b829097c2577c68df49961ccd422f42fbe2c985cc35584a7ee76", checked := Try.checked }
namespace Rows
def none {H : Type} : Left H := { results := [], args := [] }

/-- 'allotmentlaw12.NormalPairs': WHATEVER THE INPUT: true; the input reads as it did. -/
def normalPairsSpec : ChangeSpec := { name := "normalPairs", fn := fun _ => fun
  | [d1, d2] => { results := [.lit (.bool true)], args := [d1, d2] }
  | _ => none }
def normalPairsRow : OpenClaim := { program := "ytpbjncljecfaeaa", sum := "4f55aed88fd9b829097c2577c68df49961ccd422f42fbe2c985cc35584a7ee76", func := "allotment/allotmentlaw12.NormalPairs", spec := "normalPairs", unfollowed := true, recurses := true, loops := true, apart := false }
def NormalPairsSaid : Prop := normalPairsRow.holds Try.pinned (OpenSpec.ofChange normalPairsSpec)

/-- ITS FALSE NEIGHBOUR: 'it returns false'. Refute it at one input. -/
def normalPairsWrong : ChangeSpec := { name := "normalPairs", fn := fun _ => fun
  | [d1, d2] => { results := [.lit (.bool false)], args := [d1, d2] }
  | _ => none }
def NormalPairsWrongFalsely : Prop := normalPairsRow.holds Try.pinned (OpenSpec.ofChange normalPairsWrong)

/-- 'allotmentlaw12.NormalForms': WHATEVER THE INPUT: true; the input reads as it did. -/
def normalFormsSpec : ChangeSpec := { name := "normalForms", fn := fun _ => fun
  | [d1, d2] => { results := [.lit (.bool true)], args := [d1, d2] }
  | _ => none }
def normalFormsRow : OpenClaim := { program := "ytpbjncljecfaeaa", sum := "4f55aed88fd9b829097c2577c68df49961ccd422f42fbe2c985cc35584a7ee76", func := "allotment/allotmentlaw12.NormalForms", spec := "normalForms", unfollowed := true, recurses := true, loops := true, apart := false }
def NormalFormsSaid : Prop := normalFormsRow.holds Try.pinned (OpenSpec.ofChange normalFormsSpec)

/-- ITS FALSE NEIGHBOUR: 'it returns false'. Refute it at one input. -/
def normalFormsWrong : ChangeSpec := { name := "normalForms", fn := fun _ => fun
  | [d1, d2] => { results := [.lit (.bool false)], args := [d1, d2] }
  | _ => none }
def NormalFormsWrongFalsely : Prop := normalFormsRow.holds Try.pinned (OpenSpec.ofChange normalFormsWrong)

/-- 'allotmentlaw12.NormalAgain': WHATEVER THE INPUT: true; the input reads as it did. -/
def normalAgainSpec : ChangeSpec := { name := "normalAgain", fn := fun _ => fun
  | [d] => { results := [.lit (.bool true)], args := [d] }
  | _ => none }
def normalAgainRow : OpenClaim := { program := "ytpbjncljecfaeaa", sum := "4f55aed88fd9b829097c2577c68df49961ccd422f42fbe2c985cc35584a7ee76", func := "allotment/allotmentlaw12.NormalAgain", spec := "normalAgain", unfollowed := true, recurses := true, loops := true, apart := false }
def NormalAgainSaid : Prop := normalAgainRow.holds Try.pinned (OpenSpec.ofChange normalAgainSpec)

/-- ITS FALSE NEIGHBOUR: 'it returns false'. Refute it at one input. -/
def normalAgainWrong : ChangeSpec := { name := "normalAgain", fn := fun _ => fun
  | [d] => { results := [.lit (.bool false)], args := [d] }
  | _ => none }
def NormalAgainWrongFalsely : Prop := normalAgainRow.holds Try.pinned (OpenSpec.ofChange normalAgainWrong)

/- THE SECOND FORM. 'bulk': how many values and letters a reading holds, each counted each time it is reached (what is shared counts as often as it is met; a slice's spare places count too). A statement '..UptoSaid' is the law's where the arguments, and the package variables that the reading takes, are together of bulk at most 1048576: NARROWER than '..Said'. Prove '..Said' where nothing that the law and all that it calls make is longer than what came in: it says more and counts as full. Else prove '..UptoSaid'. A law counts once. -/
mutual
def uptoBulk {H : Type} : DataW H → Nat
  | .lit (.string bytes) => bytes.length + 1
  | .lit _ => 1
  | .nil => 1
  | .ptr d => uptoBulk d + 1
  | .slice elems spare => uptoBulkAll elems + uptoBulkAll spare + 1
  | .agg parts => uptoBulkAll parts + 1
  | .iface _ d => uptoBulk d + 1
  | .map entries => uptoBulkEntries entries + 1
  | .held _ => 1
def uptoBulkAll {H : Type} : List (DataW H) → Nat
  | [] => 0
  | d :: r => uptoBulk d + uptoBulkAll r
def uptoBulkEntries {H : Type} : List (Lit × DataW H) → Nat
  | [] => 0
  | x :: r => uptoBulkEntry x + uptoBulkEntries r
def uptoBulkEntry {H : Type} : Lit × DataW H → Nat
  | (.string bytes, d) => bytes.length + uptoBulk d + 1
  | (_, d) => uptoBulk d + 1
 end
def uptoSmall : (H : Type) → List (DataW H) → Bool := fun _ ds => decide (uptoBulkAll ds ≤ 1048576)
def OpenSpec.upto (s : _root_.Go.ChangeSpec) : _root_.Go.OpenSpec := { _root_.Go.OpenSpec.ofChange s with cond := some uptoSmall }

/-- 'allotmentlaw12.NormalPairs', WHERE WHAT IT READS IS OF BULK AT MOST 1048576: true; the input reads as it did. -/
def normalPairsUptoRow : OpenClaim := { program := "ytpbjncljecfaeaa", sum := "4f55aed88fd9b829097c2577c68df49961ccd422f42fbe2c985cc35584a7ee76", func := "allotment/allotmentlaw12.NormalPairs", spec := "normalPairs", unfollowed := true, recurses := true, loops := true, apart := false, narrowed := true }
def NormalPairsUptoSaid : Prop := normalPairsUptoRow.holds Try.pinned (OpenSpec.upto normalPairsSpec)

/-- 'allotmentlaw12.NormalForms', WHERE WHAT IT READS IS OF BULK AT MOST 1048576: true; the input reads as it did. -/
def normalFormsUptoRow : OpenClaim := { program := "ytpbjncljecfaeaa", sum := "4f55aed88fd9b829097c2577c68df49961ccd422f42fbe2c985cc35584a7ee76", func := "allotment/allotmentlaw12.NormalForms", spec := "normalForms", unfollowed := true, recurses := true, loops := true, apart := false, narrowed := true }
def NormalFormsUptoSaid : Prop := normalFormsUptoRow.holds Try.pinned (OpenSpec.upto normalFormsSpec)

/-- 'allotmentlaw12.NormalAgain', WHERE WHAT IT READS IS OF BULK AT MOST 1048576: true; the input reads as it did. -/
def normalAgainUptoRow : OpenClaim := { program := "ytpbjncljecfaeaa", sum := "4f55aed88fd9b829097c2577c68df49961ccd422f42fbe2c985cc35584a7ee76", func := "allotment/allotmentlaw12.NormalAgain", spec := "normalAgain", unfollowed := true, recurses := true, loops := true, apart := false, narrowed := true }
def NormalAgainUptoSaid : Prop := normalAgainUptoRow.holds Try.pinned (OpenSpec.upto normalAgainSpec)

end Rows
end Go.Proofs.Ytpbjncljecfaeaa
