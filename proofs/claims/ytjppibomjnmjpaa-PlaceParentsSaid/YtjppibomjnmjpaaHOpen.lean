/-
  The laws of trees that came in. No condition.
-/
import Derived.Test.YtjppibomjnmjpaaHLawP
import Derived.Test.YtjppibomjnmjpaaEOpen
namespace Go.Proofs.Ytjppibomjnmjpaa
open Go.RowKit
theorem parents_fr (w : World) (nv : Value) (t : Tr) (a b : Int) (ht : TrAt w (Old w) nv t) (hft : Fits t) : Calls Try.prog 3 #[nv, .int .i64 a, .int .i64 b] w fun e w' => e = .returned (.bool true) ∧ Below w.heap.size w w' :=
  placeParents_any w (Old w) nv t a b (fun _ h => h) ht hft.1 hft.2
end Go.Proofs.Ytjppibomjnmjpaa
