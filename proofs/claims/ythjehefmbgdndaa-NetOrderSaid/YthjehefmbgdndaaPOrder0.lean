/-
  What 'NetOrder' answers: true. No condition.
-/
import Derived.Test.YthjehefmbgdndaaPOrder
namespace Go.Proofs.Ythjehefmbgdndaa
open Go.RowKit

set_option maxRecDepth 100000 in
set_option maxHeartbeats 4000000 in
theorem order_big (w : World) (count : Int) (a1 : Option Addr) (c1 n1 : Nat) (a2 : Option Addr) (c2 n2 : Nat) (hb : 60 < n1 ∨ 60 < n2) :
    Calls Try.prog 5 #[.int .i64 count, .slice a1 n1 c1, .slice a2 n2 c2] w fun e w' => e = .returned (.bool true) ∧ Below w.heap.size w w' := by
  have HW := Lib.hid (wakes_any w)
  by_cases h1 : 60 < n1
  · have h1i : (60 : Int) < (n1 : Int) := by omega
    clear hb
    go_enter Try.func5, Try.ntmps5
    go_wp2_with (go_at_call 7; refine HW.out.mono ?_; rintro e w1 ⟨rfl, b1⟩)
    go_ret
    exact ⟨rfl, b1⟩
  · have h1i : ¬ (60 : Int) < (n1 : Int) := by omega
    have h2i : (60 : Int) < (n2 : Int) := by omega
    clear hb
    go_enter Try.func5, Try.ntmps5
    go_wp2_with (go_at_call 7; refine HW.out.mono ?_; rintro e w1 ⟨rfl, b1⟩)
    go_ret
    exact ⟨rfl, b1⟩

set_option maxRecDepth 100000 in
set_option maxHeartbeats 4000000 in
theorem order_zero (w : World) (count : Int) (hCe : (wrap64 (count.tmod 60 + 60)).tmod 60 = 0) (a1 : Option Addr) (c1 n1 : Nat) (a2 : Option Addr) (c2 n2 : Nat) (hs1 : n1 ≤ 60) (hs2 : n2 ≤ 60) :
    Calls Try.prog 5 #[.int .i64 count, .slice a1 n1 c1, .slice a2 n2 c2] w fun e w' => e = .returned (.bool true) ∧ Below w.heap.size w w' := by
  have H0 := Lib.hid (new_any w w (Below.refl _ _))
  have hs1' : ¬ (60 : Int) < (n1 : Int) := by omega
  have hs2' : ¬ (60 : Int) < (n2 : Int) := by omega
  have hfv : Hid (firstV (ffree (pfreed [] ([] : List PI).length) 0) = .tuple #[.int .i64 0, .bool false]) := Lib.hid rfl
  have hln : Hid ((pfreed [] ([] : List PI).length).length = 0) := Lib.hid rfl
  go_enter Try.func5, Try.ntmps5
  go_wp2_with (go_at_call 8; refine H0.out.mono ?_; clear H0; rintro e w1 ⟨nb, rfl, p1, _⟩; have HF := Lib.hid (lfree w w1 _ nb [] p1 (by simp)); clear p1)
  refine wp_loop_once ?_
  go_wp2_with fail
  by_cases h1 : 0 < n1
  · have h1i : (0 : Int) < (n1 : Int) := by omega
    refine wp_loop_once ?_
    go_wp2_with fail
    by_cases h2 : 0 < n2
    · have h2i : (0 : Int) < (n2 : Int) := by omega
      refine wp_loop_once ?_
      go_wp2_with fail
      refine wp_loop_once ?_
      go_wp2_with (first
        | (go_at_call 18; refine HF.out.mono ?_; clear HF; rintro e w3 hc; obtain rfl := (hc.1); have H2 := Lib.hid (lfirst w w3 _ nb _ hc.2.1 (by simp [pfreed])); clear hc)
        | (go_at_call 19; refine H2.out.mono ?_; clear H2; rintro e w4 hc; obtain rfl := (hc.1); have H3 := Lib.hid (llen w w4 _ nb _ hc.2.1); have B4 := Lib.hid hc.2.1.2.choose_spec.2.2; clear hc; rw [hfv.out])
        | (go_at_call 10; refine H3.out.mono ?_; clear H3; rintro e w' ⟨rfl, rfl⟩; rw [hln.out]; have H4 := Lib.hid (wakes_any w4))
        | (go_at_call 7; refine H4.out.mono ?_; clear H4; rintro e w5 ⟨rfl, b5⟩; have B5 := Lib.hid (B4.out.trans (b5.mono B4.out.size)); clear b5))
      go_ret
      exact ⟨rfl, B5.out⟩
    · have h2i : ¬ (0 : Int) < (n2 : Int) := by omega
      refine wp_loop_once ?_
      go_wp2_with fail
      refine wp_loop_once ?_
      go_wp2_with (first
        | (go_at_call 18; refine HF.out.mono ?_; clear HF; rintro e w3 hc; obtain rfl := (hc.1); have H2 := Lib.hid (lfirst w w3 _ nb _ hc.2.1 (by simp [pfreed])); clear hc)
        | (go_at_call 19; refine H2.out.mono ?_; clear H2; rintro e w4 hc; obtain rfl := (hc.1); have H3 := Lib.hid (llen w w4 _ nb _ hc.2.1); have B4 := Lib.hid hc.2.1.2.choose_spec.2.2; clear hc; rw [hfv.out])
        | (go_at_call 10; refine H3.out.mono ?_; clear H3; rintro e w' ⟨rfl, rfl⟩; rw [hln.out]; have H4 := Lib.hid (wakes_any w4))
        | (go_at_call 7; refine H4.out.mono ?_; clear H4; rintro e w5 ⟨rfl, b5⟩; have B5 := Lib.hid (B4.out.trans (b5.mono B4.out.size)); clear b5))
      go_ret
      exact ⟨rfl, B5.out⟩
  · have h1i : ¬ (0 : Int) < (n1 : Int) := by omega
    refine wp_loop_once ?_
    go_wp2_with fail
    by_cases h2 : 0 < n2
    · have h2i : (0 : Int) < (n2 : Int) := by omega
      refine wp_loop_once ?_
      go_wp2_with fail
      refine wp_loop_once ?_
      go_wp2_with (first
        | (go_at_call 18; refine HF.out.mono ?_; clear HF; rintro e w3 hc; obtain rfl := (hc.1); have H2 := Lib.hid (lfirst w w3 _ nb _ hc.2.1 (by simp [pfreed])); clear hc)
        | (go_at_call 19; refine H2.out.mono ?_; clear H2; rintro e w4 hc; obtain rfl := (hc.1); have H3 := Lib.hid (llen w w4 _ nb _ hc.2.1); have B4 := Lib.hid hc.2.1.2.choose_spec.2.2; clear hc; rw [hfv.out])
        | (go_at_call 10; refine H3.out.mono ?_; clear H3; rintro e w' ⟨rfl, rfl⟩; rw [hln.out]; have H4 := Lib.hid (wakes_any w4))
        | (go_at_call 7; refine H4.out.mono ?_; clear H4; rintro e w5 ⟨rfl, b5⟩; have B5 := Lib.hid (B4.out.trans (b5.mono B4.out.size)); clear b5))
      go_ret
      exact ⟨rfl, B5.out⟩
    · have h2i : ¬ (0 : Int) < (n2 : Int) := by omega
      refine wp_loop_once ?_
      go_wp2_with fail
      refine wp_loop_once ?_
      go_wp2_with (first
        | (go_at_call 18; refine HF.out.mono ?_; clear HF; rintro e w3 hc; obtain rfl := (hc.1); have H2 := Lib.hid (lfirst w w3 _ nb _ hc.2.1 (by simp [pfreed])); clear hc)
        | (go_at_call 19; refine H2.out.mono ?_; clear H2; rintro e w4 hc; obtain rfl := (hc.1); have H3 := Lib.hid (llen w w4 _ nb _ hc.2.1); have B4 := Lib.hid hc.2.1.2.choose_spec.2.2; clear hc; rw [hfv.out])
        | (go_at_call 10; refine H3.out.mono ?_; clear H3; rintro e w' ⟨rfl, rfl⟩; rw [hln.out]; have H4 := Lib.hid (wakes_any w4))
        | (go_at_call 7; refine H4.out.mono ?_; clear H4; rintro e w5 ⟨rfl, b5⟩; have B5 := Lib.hid (B4.out.trans (b5.mono B4.out.size)); clear b5))
      go_ret
      exact ⟨rfl, B5.out⟩

theorem order_any (w : World) (count : Int) (a1 : Option Addr) (c1 : Nat) (l1 : List Int) (a2 : Option Addr) (c2 : Nat) (l2 : List Int) (hl1 : IntsAt w a1 l1) (hl2 : IntsAt w a2 l2) :
    Calls Try.prog 5 #[.int .i64 count, .slice a1 l1.length c1, .slice a2 l2.length c2] w fun e w' => e = .returned (.bool true) ∧ Below w.heap.size w w' := by
  by_cases h1 : 60 < l1.length
  · exact order_big w count a1 c1 _ a2 c2 _ (Or.inl h1)
  · by_cases h2 : 60 < l2.length
    · exact order_big w count a1 c1 _ a2 c2 _ (Or.inr h2)
    · obtain ⟨C, hC, hCe⟩ := place_of count 60 (by omega) (by omega)
      rcases Nat.eq_zero_or_pos C with h0 | h0
      · exact order_zero w count (by rw [h0] at hCe; exact hCe) a1 c1 _ a2 c2 _ (by omega) (by omega)
      · exact order_pos w count C h0 hC hCe a1 c1 l1 a2 c2 l2 hl1 hl2 (by omega) (by omega)

end Go.Proofs.Ythjehefmbgdndaa
