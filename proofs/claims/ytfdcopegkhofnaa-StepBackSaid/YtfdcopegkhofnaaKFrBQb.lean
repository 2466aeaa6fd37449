/-
  StepBack over arguments as they came in. No condition.
-/
import Derived.Test.YtfdcopegkhofnaaKLawBQb
namespace Go.Proofs.Ytfdcopegkhofnaa
open Go.RowKit Go.Shelf
set_option linter.unusedVariables false
theorem stepBack_fr (w : World) (nv : Value) (t : Tr) (op id par at_ : Int) (tx : ByteArray) (u : Tr) (sa : Option Addr) (sc : Nat) (ht : TrAt w (Old w) nv t) (hft : Fits t) (hcp : foLen u.kids ≤ sc) (hfo : FoAt w (Old w) u.kids sa) (hfu : Fits u) (hw : (Lit.int .i8 op).wf = true ∧ (Lit.int .i64 id).wf = true ∧ (Lit.int .i64 par).wf = true ∧ (Lit.int .i64 at_).wf = true) (htx : (tx.size : Int) ≤ 9223372036854775807) :
    Calls Try.prog 12 #[nv, .agg #[.int .i8 op, .int .i64 id, .int .i64 par, .int .i64 at_, .string tx, .int .i64 u.id, .int .i64 u.kind, .string u.text, .slice sa (foLen u.kids) sc]] w (YesK w) :=
  stepBack_any w (Old w) nv t op id par at_ u.id u.kind tx u.text sa (foLen u.kids) sc (fun _ h => h) ht hft.1 hft.2.1 (okF_of 1 (rootF t) ⟨hft.2.2.1, hft.2.2.2, True.intro⟩)
end Go.Proofs.Ytfdcopegkhofnaa
