/-
  The document's own Ids of a tree. No condition but that there are not too many nodes.
-/
import Derived.Test.YtjppibomjnmjpaaRWalkN
import Derived.OwnWalk
namespace Go.Proofs.Ytjppibomjnmjpaa
open Go.RowKit
set_option linter.unusedVariables false
set_option linter.unusedSimpArgs false

theorem Try.infoInt : (Try.prog.info? 3).map (fun i => (i.zero, i.size, i.bytes)) = some (some (.int .i64 0), 1, 8) := by kernel_rfl
def idsL (l : List Sp) : List Int := l.map (fun x => x.2.1.1)
def intV (n : Int) : Value := .int .i64 n
/-- A row of numbers of a call's own. -/
def IntsC (w : World) (l : List Int) (e : Ending) (w' : World) : Prop := ∃ v, e = .returned v ∧ w'.ownsRow w.heap.size 3 1 v l.length (l.map intV) ∧ Below w.heap.size w w'
end Go.Proofs.Ytjppibomjnmjpaa
