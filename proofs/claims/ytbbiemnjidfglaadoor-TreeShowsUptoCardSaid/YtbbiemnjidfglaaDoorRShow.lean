/-
  The document's own Show of a tree. No condition but that there are not too many nodes, and not too long texts.
-/
import Derived.Test.YtbbiemnjidfglaaDoorRDigits
namespace Go.Proofs.YtbbiemnjidfglaaDoor
open Go.RowKit Go.Shelf
open Extern.Stop (cell)
set_option linter.unusedVariables false
set_option linter.unusedSimpArgs false

set_option maxRecDepth 100000 in
theorem digits_any (w : World) (n : Int) (hi : I64 n) : Calls Tryd.prog 40 #[.int .i64 n] w (SayC w (Lib.itoa n)) := by
  obtain ⟨h1, h2⟩ := hi
  by_cases h0 : n < 0
  · obtain ⟨m, hm⟩ : ∃ m : Nat, m = n.natAbs := ⟨_, rfl⟩
    have hc := positive_any m
    have hE : Lib.itoa n = 45 :: Lib.decDigits m := by rw [Lib.itoa, if_pos h0, hm]
    have hlen := dec_len20 19 m (by omega)
    have HE := Lib.hid (show Ending.returned (.string ((⟨#[45]⟩ : ByteArray) ++ ⟨(Lib.decDigits m).toArray⟩)) = Ending.returned (.string ⟨(Lib.itoa n).toArray⟩) by rw [hE]; exact congrArg (fun x => Ending.returned (.string x)) (bytes_append [45] (Lib.decDigits m)))
    have HP := Lib.hid (fun W => hc W (by omega))
    have hq : ¬ 9223372036854775807 < (Lib.decDigits m).length + 1 := by omega
    have hq2 : ¬ 9223372036854775807 < 1 + (Lib.decDigits m).length := by omega
    clear hc hE hlen
    have hzm : IntKind.u64.wrap (wrap64 (-n)) = (m : Int) := by
      by_cases hmin : n = -9223372036854775808
      · have e1 : wrap64 (-n) = -9223372036854775808 := by rw [hmin]; unfold wrap64; omega
        have e2 : (m : Int) = 9223372036854775808 := by rw [hm, hmin]; rfl
        rw [e1, e2]; decide
      · have e1 : wrap64 (-n) = -n := IntWalk.wrap64_in _ (by omega)
        have e2 : (m : Int) = -n := by omega
        rw [e1, e2, IntWalk.u64_in _ (by omega)]
    clear hm h1 h2
    go_enter Tryd.func40, Tryd.ntmps40
    go_wp2_with (go_at_call 50; refine (HP.out _).mono ?_; rintro e w1 ⟨rfl, h1⟩)
    go_ret
    exact ⟨HE.out, h1⟩
  · obtain ⟨m, rfl⟩ : ∃ m : Nat, n = (m : Int) := ⟨n.toNat, by omega⟩
    have HE := Lib.hid (show Lib.itoa (m : Int) = Lib.decDigits m by rw [Lib.itoa, if_neg h0]; simp)
    have HP := Lib.hid (fun W => positive_any m W (by omega))
    have hcv : IntKind.u64.wrap (m : Int) = (m : Int) := IntWalk.u64_in _ (by omega)
    clear h1
    go_enter Tryd.func40, Tryd.ntmps40
    go_wp2_with (go_at_call 50; refine (HP.out _).mono ?_; rintro e w1 ⟨rfl, h1⟩)
    go_ret
    exact ⟨by rw [HE.out]; rfl, h1⟩
end Go.Proofs.YtbbiemnjidfglaaDoor
