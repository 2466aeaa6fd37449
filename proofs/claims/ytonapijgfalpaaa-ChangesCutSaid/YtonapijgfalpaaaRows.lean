/-
  NARROWER THAN 'FOR EVERY INPUT', by the rows' own cells (each row's printed sentence says how): CodeBack: loops · ConformTells: loops · ConformParts: loops · ConformPut: loops · PlaceParents: loops · PlacePaths: loops · StepKeeps: loops · StepBack: loops · UndoBack: loops · UndoRow: loops · ChangesJoin: loops · ChangesCut: loops.
  DERIVED. THE GIVEN ROWS OF THIS SEAT. 14 by the template 'for every input the law returns true; each argument reads behind the call as it read before'; 0 by the template 'total and deterministic' (their statements: YtonapijgfalpaaaTotals.lean).
  GIVEN WITH THE SEED: the statements are not yours to turn. If you find one false, say at which input.
  Laid BY PROGRAM, IN A SANDBOX (cutbox-rows.mjs): the forced cells as the released guide's own fill.sh prints them over the translation bcd0aa4a677e8963… (all of the seat's roots in one cut). By AI agents, Wed Nov 11 2026. No macro, syntax, notation, axiom, sorry.
-/
import Derived.Test.YtonapijgfalpaaaChecked
import GoSem.Claim
import GoSem.ClaimJoined
import GoSem.ClaimMapViews
import Derived.JoinedTies
import Derived.KernelRfl
namespace Go.Proofs.Ytonapijgfalpaaa
/- THE CELL 'sum', in the pinned program and in every row, IS THE sha256 OF THE DUMP (.gsa) THAT YtonapijgfalpaaaProg.lean LOADS. Nothing in Lean hashes anything: it is a label: what it is worth is what the hold of that sum in a sandbox is worth. -/
noncomputable def Try.pinned : Pinned := { name := "ytonapijgfalpaaa", sum := "bcd0aa4a677e896321a8e1d736a22b235ff806ab50e5e9f0f68b2f07a074c5ef", checked := Try.checked }
namespace Rows
def none {H : Type} : Left H := { results := [], args := [] }

/-- 'allotmentlaw03.CodeBack': WHATEVER THE INPUT: true; the input reads as it did. -/
def codeBackSpec : ChangeSpec := { name := "codeBack", fn := fun _ => fun
  | [d1, d2, d3, d4, d5] => { results := [.lit (.bool true)], args := [d1, d2, d3, d4, d5] }
  | _ => none }
def codeBackRow : OpenClaim := { program := "ytonapijgfalpaaa", sum := "bcd0aa4a677e896321a8e1d736a22b235ff806ab50e5e9f0f68b2f07a074c5ef", func := "allotment/allotmentlaw03.CodeBack", spec := "codeBack", unfollowed := true, recurses := true, loops := true, apart := false }
def CodeBackSaid : Prop := codeBackRow.holds Try.pinned (OpenSpec.ofChange codeBackSpec)

/-- ITS FALSE NEIGHBOUR: 'it returns false'. Refute it at one input. -/
def codeBackWrong : ChangeSpec := { name := "codeBack", fn := fun _ => fun
  | [d1, d2, d3, d4, d5] => { results := [.lit (.bool false)], args := [d1, d2, d3, d4, d5] }
  | _ => none }
def CodeBackWrongFalsely : Prop := codeBackRow.holds Try.pinned (OpenSpec.ofChange codeBackWrong)

/-- 'allotmentlaw05.GrammarTells': WHATEVER THE INPUT: true; the input reads as it did. -/
def grammarTellsSpec : ChangeSpec := { name := "grammarTells", fn := fun _ => fun
  | [d1, d2, d3, d4] => { results := [.lit (.bool true)], args := [d1, d2, d3, d4] }
  | _ => none }
def grammarTellsRow : OpenClaim := { program := "ytonapijgfalpaaa", sum := "bcd0aa4a677e896321a8e1d736a22b235ff806ab50e5e9f0f68b2f07a074c5ef", func := "allotment/allotmentlaw05.GrammarTells", spec := "grammarTells", unfollowed := true, recurses := true, apart := false }
def GrammarTellsSaid : Prop := grammarTellsRow.holds Try.pinned (OpenSpec.ofChange grammarTellsSpec)

/-- ITS FALSE NEIGHBOUR: 'it returns false'. Refute it at one input. -/
def grammarTellsWrong : ChangeSpec := { name := "grammarTells", fn := fun _ => fun
  | [d1, d2, d3, d4] => { results := [.lit (.bool false)], args := [d1, d2, d3, d4] }
  | _ => none }
def GrammarTellsWrongFalsely : Prop := grammarTellsRow.holds Try.pinned (OpenSpec.ofChange grammarTellsWrong)

/-- 'allotmentlaw05.GrammarFits': WHATEVER THE INPUT: true; the input reads as it did. -/
def grammarFitsSpec : ChangeSpec := { name := "grammarFits", fn := fun _ => fun
  | [d1, d2, d3] => { results := [.lit (.bool true)], args := [d1, d2, d3] }
  | _ => none }
def grammarFitsRow : OpenClaim := { program := "ytonapijgfalpaaa", sum := "bcd0aa4a677e896321a8e1d736a22b235ff806ab50e5e9f0f68b2f07a074c5ef", func := "allotment/allotmentlaw05.GrammarFits", spec := "grammarFits", unfollowed := true, recurses := true, apart := false }
def GrammarFitsSaid : Prop := grammarFitsRow.holds Try.pinned (OpenSpec.ofChange grammarFitsSpec)

/-- ITS FALSE NEIGHBOUR: 'it returns false'. Refute it at one input. -/
def grammarFitsWrong : ChangeSpec := { name := "grammarFits", fn := fun _ => fun
  | [d1, d2, d3] => { results := [.lit (.bool false)], args := [d1, d2, d3] }
  | _ => none }
def GrammarFitsWrongFalsely : Prop := grammarFitsRow.holds Try.pinned (OpenSpec.ofChange grammarFitsWrong)

/-- 'allotmentlaw07.ConformTells': WHATEVER THE INPUT: true; the input reads as it did. -/
def conformTellsSpec : ChangeSpec := { name := "conformTells", fn := fun _ => fun
  | [d1, d2] => { results := [.lit (.bool true)], args := [d1, d2] }
  | _ => none }
def conformTellsRow : OpenClaim := { program := "ytonapijgfalpaaa", sum := "bcd0aa4a677e896321a8e1d736a22b235ff806ab50e5e9f0f68b2f07a074c5ef", func := "allotment/allotmentlaw07.ConformTells", spec := "conformTells", unfollowed := true, recurses := true, loops := true, apart := false }
def ConformTellsSaid : Prop := conformTellsRow.holds Try.pinned (OpenSpec.ofChange conformTellsSpec)

/-- ITS FALSE NEIGHBOUR: 'it returns false'. Refute it at one input. -/
def conformTellsWrong : ChangeSpec := { name := "conformTells", fn := fun _ => fun
  | [d1, d2] => { results := [.lit (.bool false)], args := [d1, d2] }
  | _ => none }
def ConformTellsWrongFalsely : Prop := conformTellsRow.holds Try.pinned (OpenSpec.ofChange conformTellsWrong)

/-- 'allotmentlaw07.ConformParts': WHATEVER THE INPUT: true; the input reads as it did. -/
def conformPartsSpec : ChangeSpec := { name := "conformParts", fn := fun _ => fun
  | [d1, d2] => { results := [.lit (.bool true)], args := [d1, d2] }
  | _ => none }
def conformPartsRow : OpenClaim := { program := "ytonapijgfalpaaa", sum := "bcd0aa4a677e896321a8e1d736a22b235ff806ab50e5e9f0f68b2f07a074c5ef", func := "allotment/allotmentlaw07.ConformParts", spec := "conformParts", unfollowed := true, recurses := true, loops := true, apart := false }
def ConformPartsSaid : Prop := conformPartsRow.holds Try.pinned (OpenSpec.ofChange conformPartsSpec)

/-- ITS FALSE NEIGHBOUR: 'it returns false'. Refute it at one input. -/
def conformPartsWrong : ChangeSpec := { name := "conformParts", fn := fun _ => fun
  | [d1, d2] => { results := [.lit (.bool false)], args := [d1, d2] }
  | _ => none }
def ConformPartsWrongFalsely : Prop := conformPartsRow.holds Try.pinned (OpenSpec.ofChange conformPartsWrong)

/-- 'allotmentlaw07.ConformPut': WHATEVER THE INPUT: true; the input reads as it did. -/
def conformPutSpec : ChangeSpec := { name := "conformPut", fn := fun _ => fun
  | [d1, d2, d3, d4] => { results := [.lit (.bool true)], args := [d1, d2, d3, d4] }
  | _ => none }
def conformPutRow : OpenClaim := { program := "ytonapijgfalpaaa", sum := "bcd0aa4a677e896321a8e1d736a22b235ff806ab50e5e9f0f68b2f07a074c5ef", func := "allotment/allotmentlaw07.ConformPut", spec := "conformPut", unfollowed := true, recurses := true, loops := true, apart := false }
def ConformPutSaid : Prop := conformPutRow.holds Try.pinned (OpenSpec.ofChange conformPutSpec)

/-- ITS FALSE NEIGHBOUR: 'it returns false'. Refute it at one input. -/
def conformPutWrong : ChangeSpec := { name := "conformPut", fn := fun _ => fun
  | [d1, d2, d3, d4] => { results := [.lit (.bool false)], args := [d1, d2, d3, d4] }
  | _ => none }
def ConformPutWrongFalsely : Prop := conformPutRow.holds Try.pinned (OpenSpec.ofChange conformPutWrong)

/-- 'allotmentlaw08.PlaceParents': WHATEVER THE INPUT: true; the input reads as it did. -/
def placeParentsSpec : ChangeSpec := { name := "placeParents", fn := fun _ => fun
  | [d1, d2, d3] => { results := [.lit (.bool true)], args := [d1, d2, d3] }
  | _ => none }
def placeParentsRow : OpenClaim := { program := "ytonapijgfalpaaa", sum := "bcd0aa4a677e896321a8e1d736a22b235ff806ab50e5e9f0f68b2f07a074c5ef", func := "allotment/allotmentlaw08.PlaceParents", spec := "placeParents", unfollowed := true, recurses := true, loops := true, apart := false }
def PlaceParentsSaid : Prop := placeParentsRow.holds Try.pinned (OpenSpec.ofChange placeParentsSpec)

/-- ITS FALSE NEIGHBOUR: 'it returns false'. Refute it at one input. -/
def placeParentsWrong : ChangeSpec := { name := "placeParents", fn := fun _ => fun
  | [d1, d2, d3] => { results := [.lit (.bool false)], args := [d1, d2, d3] }
  | _ => none }
def PlaceParentsWrongFalsely : Prop := placeParentsRow.holds Try.pinned (OpenSpec.ofChange placeParentsWrong)

/-- 'allotmentlaw08.PlacePaths': WHATEVER THE INPUT: true; the input reads as it did. -/
def placePathsSpec : ChangeSpec := { name := "placePaths", fn := fun _ => fun
  | [d1, d2, d3, d4] => { results := [.lit (.bool true)], args := [d1, d2, d3, d4] }
  | _ => none }
def placePathsRow : OpenClaim := { program := "ytonapijgfalpaaa", sum := "bcd0aa4a677e896321a8e1d736a22b235ff806ab50e5e9f0f68b2f07a074c5ef", func := "allotment/allotmentlaw08.PlacePaths", spec := "placePaths", unfollowed := true, recurses := true, loops := true, apart := false }
def PlacePathsSaid : Prop := placePathsRow.holds Try.pinned (OpenSpec.ofChange placePathsSpec)

/-- ITS FALSE NEIGHBOUR: 'it returns false'. Refute it at one input. -/
def placePathsWrong : ChangeSpec := { name := "placePaths", fn := fun _ => fun
  | [d1, d2, d3, d4] => { results := [.lit (.bool false)], args := [d1, d2, d3, d4] }
  | _ => none }
def PlacePathsWrongFalsely : Prop := placePathsRow.holds Try.pinned (OpenSpec.ofChange placePathsWrong)

/-- 'allotmentlaw09.StepKeeps': WHATEVER THE INPUT: true; the input reads as it did. -/
def stepKeepsSpec : ChangeSpec := { name := "stepKeeps", fn := fun _ => fun
  | [d1, d2, d3] => { results := [.lit (.bool true)], args := [d1, d2, d3] }
  | _ => none }
def stepKeepsRow : OpenClaim := { program := "ytonapijgfalpaaa", sum := "bcd0aa4a677e896321a8e1d736a22b235ff806ab50e5e9f0f68b2f07a074c5ef", func := "allotment/allotmentlaw09.StepKeeps", spec := "stepKeeps", inPlace := ["slices.overlaps[allotment/api.Node]"], unfollowed := true, recurses := true, loops := true, apart := false }
def StepKeepsSaid : Prop := stepKeepsRow.holds Try.pinned (OpenSpec.ofChange stepKeepsSpec)

/-- ITS FALSE NEIGHBOUR: 'it returns false'. Refute it at one input. -/
def stepKeepsWrong : ChangeSpec := { name := "stepKeeps", fn := fun _ => fun
  | [d1, d2, d3] => { results := [.lit (.bool false)], args := [d1, d2, d3] }
  | _ => none }
def StepKeepsWrongFalsely : Prop := stepKeepsRow.holds Try.pinned (OpenSpec.ofChange stepKeepsWrong)

/-- 'allotmentlaw09.StepBack': WHATEVER THE INPUT: true; the input reads as it did. -/
def stepBackSpec : ChangeSpec := { name := "stepBack", fn := fun _ => fun
  | [d1, d2] => { results := [.lit (.bool true)], args := [d1, d2] }
  | _ => none }
def stepBackRow : OpenClaim := { program := "ytonapijgfalpaaa", sum := "bcd0aa4a677e896321a8e1d736a22b235ff806ab50e5e9f0f68b2f07a074c5ef", func := "allotment/allotmentlaw09.StepBack", spec := "stepBack", inPlace := ["slices.overlaps[allotment/api.Node]"], unfollowed := true, recurses := true, loops := true, apart := false }
def StepBackSaid : Prop := stepBackRow.holds Try.pinned (OpenSpec.ofChange stepBackSpec)

/-- ITS FALSE NEIGHBOUR: 'it returns false'. Refute it at one input. -/
def stepBackWrong : ChangeSpec := { name := "stepBack", fn := fun _ => fun
  | [d1, d2] => { results := [.lit (.bool false)], args := [d1, d2] }
  | _ => none }
def StepBackWrongFalsely : Prop := stepBackRow.holds Try.pinned (OpenSpec.ofChange stepBackWrong)

/-- 'allotmentlaw10.UndoBack': WHATEVER THE INPUT: true; the input reads as it did. -/
def undoBackSpec : ChangeSpec := { name := "undoBack", fn := fun _ => fun
  | [d1, d2] => { results := [.lit (.bool true)], args := [d1, d2] }
  | _ => none }
def undoBackRow : OpenClaim := { program := "ytonapijgfalpaaa", sum := "bcd0aa4a677e896321a8e1d736a22b235ff806ab50e5e9f0f68b2f07a074c5ef", func := "allotment/allotmentlaw10.UndoBack", spec := "undoBack", inPlace := ["slices.overlaps[allotment/api.Node]"], unfollowed := true, recurses := true, loops := true, apart := false }
def UndoBackSaid : Prop := undoBackRow.holds Try.pinned (OpenSpec.ofChange undoBackSpec)

/-- ITS FALSE NEIGHBOUR: 'it returns false'. Refute it at one input. -/
def undoBackWrong : ChangeSpec := { name := "undoBack", fn := fun _ => fun
  | [d1, d2] => { results := [.lit (.bool false)], args := [d1, d2] }
  | _ => none }
def UndoBackWrongFalsely : Prop := undoBackRow.holds Try.pinned (OpenSpec.ofChange undoBackWrong)

/-- 'allotmentlaw10.UndoRow': WHATEVER THE INPUT: true; the input reads as it did. -/
def undoRowSpec : ChangeSpec := { name := "undoRow", fn := fun _ => fun
  | [d1, d2] => { results := [.lit (.bool true)], args := [d1, d2] }
  | _ => none }
def undoRowRow : OpenClaim := { program := "ytonapijgfalpaaa", sum := "bcd0aa4a677e896321a8e1d736a22b235ff806ab50e5e9f0f68b2f07a074c5ef", func := "allotment/allotmentlaw10.UndoRow", spec := "undoRow", inPlace := ["slices.overlaps[allotment/api.Node]"], unfollowed := true, recurses := true, loops := true, apart := false }
def UndoRowSaid : Prop := undoRowRow.holds Try.pinned (OpenSpec.ofChange undoRowSpec)

/-- ITS FALSE NEIGHBOUR: 'it returns false'. Refute it at one input. -/
def undoRowWrong : ChangeSpec := { name := "undoRow", fn := fun _ => fun
  | [d1, d2] => { results := [.lit (.bool false)], args := [d1, d2] }
  | _ => none }
def UndoRowWrongFalsely : Prop := undoRowRow.holds Try.pinned (OpenSpec.ofChange undoRowWrong)

/-- 'allotmentlaw11.ChangesJoin': WHATEVER THE INPUT: true; the input reads as it did. -/
def changesJoinSpec : ChangeSpec := { name := "changesJoin", fn := fun _ => fun
  | [d1, d2, d3, d4] => { results := [.lit (.bool true)], args := [d1, d2, d3, d4] }
  | _ => none }
def changesJoinRow : OpenClaim := { program := "ytonapijgfalpaaa", sum := "bcd0aa4a677e896321a8e1d736a22b235ff806ab50e5e9f0f68b2f07a074c5ef", func := "allotment/allotmentlaw11.ChangesJoin", spec := "changesJoin", inPlace := ["slices.overlaps[allotment/api.Node]"], unfollowed := true, recurses := true, loops := true, apart := false }
def ChangesJoinSaid : Prop := changesJoinRow.holds Try.pinned (OpenSpec.ofChange changesJoinSpec)

/-- ITS FALSE NEIGHBOUR: 'it returns false'. Refute it at one input. -/
def changesJoinWrong : ChangeSpec := { name := "changesJoin", fn := fun _ => fun
  | [d1, d2, d3, d4] => { results := [.lit (.bool false)], args := [d1, d2, d3, d4] }
  | _ => none }
def ChangesJoinWrongFalsely : Prop := changesJoinRow.holds Try.pinned (OpenSpec.ofChange changesJoinWrong)

/-- 'allotmentlaw11.ChangesCut': WHATEVER THE INPUT: true; the input reads as it did. -/
def changesCutSpec : ChangeSpec := { name := "changesCut", fn := fun _ => fun
  | [d1, d2, d3, d4] => { results := [.lit (.bool true)], args := [d1, d2, d3, d4] }
  | _ => none }
def changesCutRow : OpenClaim := { program := "ytonapijgfalpaaa", sum := "bcd0aa4a677e896321a8e1d736a22b235ff806ab50e5e9f0f68b2f07a074c5ef", func := "allotment/allotmentlaw11.ChangesCut", spec := "changesCut", inPlace := ["slices.overlaps[allotment/api.Node]"], unfollowed := true, recurses := true, loops := true, apart := false }
def ChangesCutSaid : Prop := changesCutRow.holds Try.pinned (OpenSpec.ofChange changesCutSpec)

/-- ITS FALSE NEIGHBOUR: 'it returns false'. Refute it at one input. -/
def changesCutWrong : ChangeSpec := { name := "changesCut", fn := fun _ => fun
  | [d1, d2, d3, d4] => { results := [.lit (.bool false)], args := [d1, d2, d3, d4] }
  | _ => none }
def ChangesCutWrongFalsely : Prop := changesCutRow.holds Try.pinned (OpenSpec.ofChange changesCutWrong)

/- THE SECOND FORM. 'bulk': how many values and letters a reading holds, each counted each time it is reached (what is shared counts as often as it is met; a slice's spare places count too). A statement '..UptoSaid' is the law's where the arguments, and the package variables that the reading takes, are together of bulk at most 1048576: NARROWER than '..Said'. Prove '..Said' where nothing that the law and all that it calls make is longer than what came in: it says more and counts as full. Else prove '..UptoSaid'. A law counts once. -/
mutual
def uptoBulk {H : Type} : DataW H → Nat
  | .lit (.string bytes) => bytes.length + 1
  | .lit _ => 1
  | .nil => 1
  | .ptr d => uptoBulk d + 1
  | .slice elems spare => uptoBulkAll elems + uptoBulkAll spare + 1
  | .agg parts => uptoBulkAll parts + 1
  | .iface _ d => uptoBulk d + 1
  | .map entries => uptoBulkEntries entries + 1
  | .held _ => 1
def uptoBulkAll {H : Type} : List (DataW H) → Nat
  | [] => 0
  | d :: r => uptoBulk d + uptoBulkAll r
def uptoBulkEntries {H : Type} : List (Lit × DataW H) → Nat
  | [] => 0
  | x :: r => uptoBulkEntry x + uptoBulkEntries r
def uptoBulkEntry {H : Type} : Lit × DataW H → Nat
  | (.string bytes, d) => bytes.length + uptoBulk d + 1
  | (_, d) => uptoBulk d + 1
 end
def uptoSmall : (H : Type) → List (DataW H) → Bool := fun _ ds => decide (uptoBulkAll ds ≤ 1048576)
def OpenSpec.upto (s : _root_.Go.ChangeSpec) : _root_.Go.OpenSpec := { _root_.Go.OpenSpec.ofChange s with cond := some uptoSmall }

/-- 'allotmentlaw03.CodeBack', WHERE WHAT IT READS IS OF BULK AT MOST 1048576: true; the input reads as it did. -/
def codeBackUptoRow : OpenClaim := { program := "ytonapijgfalpaaa", sum := "bcd0aa4a677e896321a8e1d736a22b235ff806ab50e5e9f0f68b2f07a074c5ef", func := "allotment/allotmentlaw03.CodeBack", spec := "codeBack", unfollowed := true, recurses := true, loops := true, apart := false, narrowed := true }
def CodeBackUptoSaid : Prop := codeBackUptoRow.holds Try.pinned (OpenSpec.upto codeBackSpec)

/-- 'allotmentlaw05.GrammarTells', WHERE WHAT IT READS IS OF BULK AT MOST 1048576: true; the input reads as it did. -/
def grammarTellsUptoRow : OpenClaim := { program := "ytonapijgfalpaaa", sum := "bcd0aa4a677e896321a8e1d736a22b235ff806ab50e5e9f0f68b2f07a074c5ef", func := "allotment/allotmentlaw05.GrammarTells", spec := "grammarTells", unfollowed := true, recurses := true, apart := false, narrowed := true }
def GrammarTellsUptoSaid : Prop := grammarTellsUptoRow.holds Try.pinned (OpenSpec.upto grammarTellsSpec)

/-- 'allotmentlaw05.GrammarFits', WHERE WHAT IT READS IS OF BULK AT MOST 1048576: true; the input reads as it did. -/
def grammarFitsUptoRow : OpenClaim := { program := "ytonapijgfalpaaa", sum := "bcd0aa4a677e896321a8e1d736a22b235ff806ab50e5e9f0f68b2f07a074c5ef", func := "allotment/allotmentlaw05.GrammarFits", spec := "grammarFits", unfollowed := true, recurses := true, apart := false, narrowed := true }
def GrammarFitsUptoSaid : Prop := grammarFitsUptoRow.holds Try.pinned (OpenSpec.upto grammarFitsSpec)

/-- 'allotmentlaw07.ConformTells', WHERE WHAT IT READS IS OF BULK AT MOST 1048576: true; the input reads as it did. -/
def conformTellsUptoRow : OpenClaim := { program := "ytonapijgfalpaaa", sum := "bcd0aa4a677e896321a8e1d736a22b235ff806ab50e5e9f0f68b2f07a074c5ef", func := "allotment/allotmentlaw07.ConformTells", spec := "conformTells", unfollowed := true, recurses := true, loops := true, apart := false, narrowed := true }
def ConformTellsUptoSaid : Prop := conformTellsUptoRow.holds Try.pinned (OpenSpec.upto conformTellsSpec)

/-- 'allotmentlaw07.ConformParts', WHERE WHAT IT READS IS OF BULK AT MOST 1048576: true; the input reads as it did. -/
def conformPartsUptoRow : OpenClaim := { program := "ytonapijgfalpaaa", sum := "bcd0aa4a677e896321a8e1d736a22b235ff806ab50e5e9f0f68b2f07a074c5ef", func := "allotment/allotmentlaw07.ConformParts", spec := "conformParts", unfollowed := true, recurses := true, loops := true, apart := false, narrowed := true }
def ConformPartsUptoSaid : Prop := conformPartsUptoRow.holds Try.pinned (OpenSpec.upto conformPartsSpec)

/-- 'allotmentlaw07.ConformPut', WHERE WHAT IT READS IS OF BULK AT MOST 1048576: true; the input reads as it did. -/
def conformPutUptoRow : OpenClaim := { program := "ytonapijgfalpaaa", sum := "bcd0aa4a677e896321a8e1d736a22b235ff806ab50e5e9f0f68b2f07a074c5ef", func := "allotment/allotmentlaw07.ConformPut", spec := "conformPut", unfollowed := true, recurses := true, loops := true, apart := false, narrowed := true }
def ConformPutUptoSaid : Prop := conformPutUptoRow.holds Try.pinned (OpenSpec.upto conformPutSpec)

/-- 'allotmentlaw08.PlaceParents', WHERE WHAT IT READS IS OF BULK AT MOST 1048576: true; the input reads as it did. -/
def placeParentsUptoRow : OpenClaim := { program := "ytonapijgfalpaaa", sum := "bcd0aa4a677e896321a8e1d736a22b235ff806ab50e5e9f0f68b2f07a074c5ef", func := "allotment/allotmentlaw08.PlaceParents", spec := "placeParents", unfollowed := true, recurses := true, loops := true, apart := false, narrowed := true }
def PlaceParentsUptoSaid : Prop := placeParentsUptoRow.holds Try.pinned (OpenSpec.upto placeParentsSpec)

/-- 'allotmentlaw08.PlacePaths', WHERE WHAT IT READS IS OF BULK AT MOST 1048576: true; the input reads as it did. -/
def placePathsUptoRow : OpenClaim := { program := "ytonapijgfalpaaa", sum := "bcd0aa4a677e896321a8e1d736a22b235ff806ab50e5e9f0f68b2f07a074c5ef", func := "allotment/allotmentlaw08.PlacePaths", spec := "placePaths", unfollowed := true, recurses := true, loops := true, apart := false, narrowed := true }
def PlacePathsUptoSaid : Prop := placePathsUptoRow.holds Try.pinned (OpenSpec.upto placePathsSpec)

/-- 'allotmentlaw09.StepKeeps', WHERE WHAT IT READS IS OF BULK AT MOST 1048576: true; the input reads as it did. -/
def stepKeepsUptoRow : OpenClaim := { program := "ytonapijgfalpaaa", sum := "bcd0aa4a677e896321a8e1d736a22b235ff806ab50e5e9f0f68b2f07a074c5ef", func := "allotment/allotmentlaw09.StepKeeps", spec := "stepKeeps", inPlace := ["slices.overlaps[allotment/api.Node]"], unfollowed := true, recurses := true, loops := true, apart := false, narrowed := true }
def StepKeepsUptoSaid : Prop := stepKeepsUptoRow.holds Try.pinned (OpenSpec.upto stepKeepsSpec)

/-- 'allotmentlaw09.StepBack', WHERE WHAT IT READS IS OF BULK AT MOST 1048576: true; the input reads as it did. -/
def stepBackUptoRow : OpenClaim := { program := "ytonapijgfalpaaa", sum := "bcd0aa4a677e896321a8e1d736a22b235ff806ab50e5e9f0f68b2f07a074c5ef", func := "allotment/allotmentlaw09.StepBack", spec := "stepBack", inPlace := ["slices.overlaps[allotment/api.Node]"], unfollowed := true, recurses := true, loops := true, apart := false, narrowed := true }
def StepBackUptoSaid : Prop := stepBackUptoRow.holds Try.pinned (OpenSpec.upto stepBackSpec)

/-- 'allotmentlaw10.UndoBack', WHERE WHAT IT READS IS OF BULK AT MOST 1048576: true; the input reads as it did. -/
def undoBackUptoRow : OpenClaim := { program := "ytonapijgfalpaaa", sum := "bcd0aa4a677e896321a8e1d736a22b235ff806ab50e5e9f0f68b2f07a074c5ef", func := "allotment/allotmentlaw10.UndoBack", spec := "undoBack", inPlace := ["slices.overlaps[allotment/api.Node]"], unfollowed := true, recurses := true, loops := true, apart := false, narrowed := true }
def UndoBackUptoSaid : Prop := undoBackUptoRow.holds Try.pinned (OpenSpec.upto undoBackSpec)

/-- 'allotmentlaw10.UndoRow', WHERE WHAT IT READS IS OF BULK AT MOST 1048576: true; the input reads as it did. -/
def undoRowUptoRow : OpenClaim := { program := "ytonapijgfalpaaa", sum := "bcd0aa4a677e896321a8e1d736a22b235ff806ab50e5e9f0f68b2f07a074c5ef", func := "allotment/allotmentlaw10.UndoRow", spec := "undoRow", inPlace := ["slices.overlaps[allotment/api.Node]"], unfollowed := true, recurses := true, loops := true, apart := false, narrowed := true }
def UndoRowUptoSaid : Prop := undoRowUptoRow.holds Try.pinned (OpenSpec.upto undoRowSpec)

/-- 'allotmentlaw11.ChangesJoin', WHERE WHAT IT READS IS OF BULK AT MOST 1048576: true; the input reads as it did. -/
def changesJoinUptoRow : OpenClaim := { program := "ytonapijgfalpaaa", sum := "bcd0aa4a677e896321a8e1d736a22b235ff806ab50e5e9f0f68b2f07a074c5ef", func := "allotment/allotmentlaw11.ChangesJoin", spec := "changesJoin", inPlace := ["slices.overlaps[allotment/api.Node]"], unfollowed := true, recurses := true, loops := true, apart := false, narrowed := true }
def ChangesJoinUptoSaid : Prop := changesJoinUptoRow.holds Try.pinned (OpenSpec.upto changesJoinSpec)

/-- 'allotmentlaw11.ChangesCut', WHERE WHAT IT READS IS OF BULK AT MOST 1048576: true; the input reads as it did. -/
def changesCutUptoRow : OpenClaim := { program := "ytonapijgfalpaaa", sum := "bcd0aa4a677e896321a8e1d736a22b235ff806ab50e5e9f0f68b2f07a074c5ef", func := "allotment/allotmentlaw11.ChangesCut", spec := "changesCut", inPlace := ["slices.overlaps[allotment/api.Node]"], unfollowed := true, recurses := true, loops := true, apart := false, narrowed := true }
def ChangesCutUptoSaid : Prop := changesCutUptoRow.holds Try.pinned (OpenSpec.upto changesCutSpec)

end Rows
end Go.Proofs.Ytonapijgfalpaaa
