/-
  Eight shifts of a remainder. No condition but that it is a 32-bit number.
-/
import Derived.Test.YtpceledeeplhlaaSOwn
namespace Go.Proofs.Ytpceledeeplhlaa
open Go.RowKit

theorem u32_and1 (r : Nat) (h : r < 4294967296) : bits .and .u32 (r : Int) 1 = ((r % 2 : Nat) : Int) := by
  have := u32_and_nat r 1 h (by decide)
  rw [nat_mask1] at this
  exact this
theorem u32_odd (r : Nat) (h : r < 4294967296) (ho : r % 2 = 1) : bits .and .u32 (r : Int) 1 = 1 := by rw [u32_and1 r h, ho]; rfl
theorem u32_even (r : Nat) (h : r < 4294967296) (ho : ¬ r % 2 = 1) : bits .and .u32 (r : Int) 1 = 0 := by rw [u32_and1 r h, show r % 2 = 0 by omega]; rfl
theorem u32_poly (r : Nat) (h : r < 4294967296) : bits .xor .u32 ((r : Int) / 2) 2197175160 = ((r / 2 ^^^ 2197175160 : Nat) : Int) := by
  rw [show (r : Int) / 2 = ((r / 2 : Nat) : Int) by omega]
  exact u32_xor_nat _ 2197175160 (by omega) (by decide)
def ShInv (r : Nat) (w : World) (v i : Value) (wr : World) : Prop := ∃ q k : Nat, v = .int .u32 (q : Int) ∧ i = .int .i64 (k : Int) ∧ q < 4294967296 ∧ k ≤ 8 ∧ stepsN (8 - k) q = sh8 r ∧ w = wr
theorem ShInv.odd {r q k : Nat} {w : World} (hq : q < 4294967296) (hk : k < 8) (hs : stepsN (8 - k) q = sh8 r) (ho : q % 2 = 1) : ShInv r w (.int .u32 ((q / 2 ^^^ 2197175160 : Nat) : Int)) (.int .i64 ((k : Int) + 1)) w := by
  refine ⟨_, k + 1, rfl, by congr 1, ?_, by omega, ?_, rfl⟩
  · have := step1_lt q hq; unfold step1 at this; rw [if_pos ho] at this; exact this
  · rw [show 8 - k = (8 - (k + 1)) + 1 by omega] at hs
    rw [← hs]; show _ = stepsN _ (step1 q)
    unfold step1; rw [if_pos ho]
theorem ShInv.even {r q k : Nat} {w : World} (hq : q < 4294967296) (hk : k < 8) (hs : stepsN (8 - k) q = sh8 r) (ho : ¬ q % 2 = 1) : ShInv r w (.int .u32 ((q : Int) / 2)) (.int .i64 ((k : Int) + 1)) w := by
  refine ⟨q / 2, k + 1, by congr 1, by congr 1, by omega, by omega, ?_, rfl⟩
  rw [show 8 - k = (8 - (k + 1)) + 1 by omega] at hs
  rw [← hs]; show _ = stepsN _ (step1 q)
  unfold step1; rw [if_neg ho]
set_option maxRecDepth 100000 in
set_option maxHeartbeats 1000000 in
theorem shifted_any (w : World) (r : Nat) (hr : r < 4294967296) :
    Calls Try.prog 19 #[.int .u32 (r : Int)] w fun e w' => e = .returned (.int .u32 (sh8 r : Int)) ∧ w = w' := by
  go_enter Try.func19, Try.ntmps19
  go_wp2_with fail
  go_loopw [0, 4] (fun v i wr => ShInv r w v i wr) (fun _ i _ => (8 - intOf i).toNat)
  case atStart => exact ⟨r, 0, rfl, rfl, hr, by omega, rfl, rfl⟩
  case round =>
    obtain ⟨q, k, rfl, rfl, hq, hk, hs, rfl⟩ := hrel
    by_cases hlt : k < 8
    · by_cases ho : q % 2 = 1
      · have H := Lib.hid (ShInv.odd (w := w) hq hlt hs ho)
        have e1 := u32_odd q hq ho
        have e2 := u32_poly q hq
        clear hs ho
        go_wp2_with fail
        exact ⟨H.out, by simp [intOf]; omega⟩
      · have H := Lib.hid (ShInv.even (w := w) hq hlt hs ho)
        have e1 := u32_even q hq ho
        clear hs ho
        go_wp2_with fail
        exact ⟨H.out, by simp [intOf]; omega⟩
    · have hk8 : k = 8 := by omega
      subst hk8
      have H := Lib.hid hs
      clear hlt hs hk
      go_wp2_with fail
      go_ret
      have := H.out
      simp only [Nat.sub_self, stepsN] at this
      exact ⟨by rw [this]; rfl, rfl⟩
end Go.Proofs.Ytpceledeeplhlaa
