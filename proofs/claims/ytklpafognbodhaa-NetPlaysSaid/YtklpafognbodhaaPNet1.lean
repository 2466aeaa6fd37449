/-
  The program's net: its calls Len, Hold, Free and First. No condition but that it lies where it is said to lie.
-/
import Derived.Test.YtklpafognbodhaaPMark
namespace Go.Proofs.Ytklpafognbodhaa
open Go.RowKit

set_option maxHeartbeats 400000 in
theorem nlen_any (w : World) (S : Nat → Prop) (nb : Nat) (l : List PI) (h : PRowAt w S nb l) : Calls Try.prog 8 #[.pointer (some ⟨nb, 0, none⟩)] w fun e w' => e = .returned (.int .i64 l.length) ∧ w = w' := by
  have HS := Lib.hid (psize_any w S nb l h)
  clear h
  go_enter Try.func8, Try.ntmps8
  go_wp2_with (go_at_call 28; refine HS.out.mono ?_; rintro e w' ⟨rfl, rfl⟩)
  go_ret
  exact ⟨rfl, rfl⟩

set_option maxHeartbeats 400000 in
theorem nhold_no (w : World) (S : Nat → Prop) (nb : Nat) (l : List PI) (k : Int) (h : PRowAt w S nb l) (hk : k < 0 ∨ (l.length : Int) ≤ k) : Calls Try.prog 12 #[.pointer (some ⟨nb, 0, none⟩), .int .i64 k] w fun e w' => e = .returned (.int .i64 4) ∧ w = w' := by
  have hl := lacks_any w S nb l k h
  have e : lacksE l.length k = 4 := by unfold lacksE; rw [if_neg (by omega)]
  rw [e] at hl
  have HS := Lib.hid hl
  clear h hk hl e
  go_enter Try.func12, Try.ntmps12
  go_wp2_with (go_at_call 34; refine HS.out.mono ?_; rintro e w' ⟨rfl, rfl⟩)
  go_ret
  exact ⟨rfl, rfl⟩

set_option maxHeartbeats 400000 in
theorem nhold_yes (w : World) (S : Nat → Prop) (nb : Nat) (l : List PI) (k : Nat) (h : PRowAt w S nb l) (hk : k < l.length) (hlen : l.length ≤ 1000000) : Calls Try.prog 12 #[.pointer (some ⟨nb, 0, none⟩), .int .i64 k] w (PC w S nb (setMark l k true) (.int .i64 0)) := by
  have hl := lacks_any w S nb l k h
  have e : lacksE l.length k = 0 := by unfold lacksE; rw [if_pos (by omega)]
  rw [e] at hl
  have HS := Lib.hid hl
  have HM := Lib.hid (pmark_any w S nb l k h hk hlen)
  clear h hk hl e
  go_enter Try.func12, Try.ntmps12
  go_wp2_with (first
    | (go_at_call 34; refine HS.out.mono ?_; rintro e w' ⟨rfl, rfl⟩)
    | (go_at_call 35; refine HM.out.mono ?_; rintro e w' ⟨rfl, hp⟩))
  go_ret
  exact ⟨rfl, hp⟩

set_option maxHeartbeats 400000 in
theorem nfree_any (w : World) (S : Nat → Prop) (nb : Nat) (l : List PI) (h : PRowAt w S nb l) (hlen : l.length ≤ 1000000) : Calls Try.prog 24 #[.pointer (some ⟨nb, 0, none⟩)] w (PC w S nb (pfreed l l.length) (.int .i64 (pcount l))) := by
  have HS := Lib.hid (punmark_any w S nb l h hlen)
  clear h hlen
  go_enter Try.func24, Try.ntmps24
  go_wp2_with (go_at_call 45; refine HS.out.mono ?_; rintro e w' ⟨rfl, hp⟩)
  go_ret
  exact ⟨rfl, hp⟩

set_option maxHeartbeats 400000 in
theorem nfirst_any (w : World) (S : Nat → Prop) (nb : Nat) (l : List PI) (h : PRowAt w S nb l) (hlen : l.length ≤ 1000000) : Calls Try.prog 13 #[.pointer (some ⟨nb, 0, none⟩)] w fun e w' => e = .returned (firstV (ffree l 0)) ∧ Below w.heap.size w w' := by
  have HS := Lib.hid (pfirst_any w S nb l h hlen)
  obtain ⟨o, ho⟩ : ∃ o, o = ffree l 0 := ⟨_, rfl⟩
  rw [← ho] at HS ⊢
  clear h hlen ho
  cases o with
  | none =>
    go_enter Try.func13, Try.ntmps13
    go_wp2_with (go_at_call 36; refine HS.out.mono ?_; rintro e w' ⟨rfl, hb⟩; simp only [firstV])
    go_ret2
    exact ⟨rfl, hb⟩
  | some k =>
    go_enter Try.func13, Try.ntmps13
    go_wp2_with (go_at_call 36; refine HS.out.mono ?_; rintro e w' ⟨rfl, hb⟩; simp only [firstV])
    go_ret2
    exact ⟨rfl, hb⟩

end Go.Proofs.Ytklpafognbodhaa
