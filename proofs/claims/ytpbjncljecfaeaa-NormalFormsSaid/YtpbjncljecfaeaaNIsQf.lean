/-
  Is: does no rule fit any two neighbours of a row? No condition but that there are not too many steps and nodes.
-/
import Derived.Test.YtpbjncljecfaeaaNOnceQf
namespace Go.Proofs.Ytpbjncljecfaeaa
open Go.RowKit
set_option linter.unusedVariables false
set_option linter.unusedSimpArgs false

def IsC (l : List Sf) (w : World) (e : Ending) (w' : World) : Prop := e = .returned (.bool (!(onceK l).2)) ∧ Below w.heap.size w w'
set_option maxRecDepth 100000 in
set_option maxHeartbeats 8000000 in
theorem is_any (w : World) (la : Option Addr) (n c : Nat) (vs : List SV) (h : RowS w la n c vs) (hn : n ≤ 10000) :
    Calls Try.prog 14 #[.slice la n c] w (IsC (steps vs) w) := by
  have HC := Lib.hid (once_any w _ la n c vs h hn (fun _ hq => hq) h.row.inn)
  clear h
  obtain ⟨bb, hbb⟩ : ∃ bb, bb = (onceK (steps vs)).2 := ⟨_, rfl⟩
  have HBB := Lib.hid hbb
  clear hbb
  go_enter Try.func14, Try.ntmps14
  go_wp2_with (go_at_call 27; refine HC.out.mono ?_; rintro e w2 ⟨a, m, c2, vs2, rfl, hr, _, hs, hb⟩; rw [← HBB.out]; have HB := Lib.hid hb; clear hr hs hb)
  go_ret
  exact ⟨by rw [← HBB.out]; cases bb <;> rfl, HB.out⟩
end Go.Proofs.Ytpbjncljecfaeaa
