/-
  What SumsTell answers: true. No condition but that its arguments lie in memory as they came in.
-/
import Derived.Test.YtpceledeeplhlaaSWakes
namespace Go.Proofs.Ytpceledeeplhlaa
open Go.RowKit
open Extern.Stop (cell)

def YesB (w : World) (e : Ending) (w' : World) : Prop := e = .returned (.bool true) ∧ Below w.heap.size w w'
set_option maxRecDepth 100000 in
set_option maxHeartbeats 1000000 in
theorem sumsTell_any (w : World) (a : Option Addr) (cap : Nat) (bs : List UInt8) (h : ByAt w a bs) (hm : (bs.length : Int) ≤ 9223372036854775807) (n : Nat) (hn : n < 4294967296) :
    Calls Try.prog 3 #[.slice a bs.length cap, .int .u32 (n : Int)] w (YesB w) := by
  have HW := Lib.hid wakes_any
  have HB := Lib.hid h
  clear h
  by_cases h1 : 20000 < bs.length
  · have h1' : (20000 : Int) < (bs.length : Int) := by omega
    go_enter Try.func3, Try.ntmps3
    go_wp2_with (go_at_call 7; refine (HW.out _).mono ?_; clear HW; rintro e w2 ⟨rfl, h2⟩; have H2 := Lib.hid h2; clear h2)
    go_ret
    exact ⟨rfl, H2.out⟩
  · have h1' : ¬ (20000 : Int) < (bs.length : Int) := by omega
    have HL := Lib.hid h1
    have HS := Lib.hid (sum_any w a cap bs HB.out (by omega))
    clear h1
    go_enter Try.func3, Try.ntmps3
    go_wp2_with (first
      | (go_at_call 8; refine HS.out.mono ?_; clear HS; rintro e w1 ⟨rfl, h1⟩; have K1 := Lib.hid h1; have HS1 := Lib.hid (refSum_any w1 a cap bs (HB.out.below h1) (by have := HL.out; omega)); clear h1)
      | (go_at_call 9; refine HS1.out.mono ?_; clear HS1; rintro e w2 ⟨rfl, rfl⟩; have HM := Lib.hid (more_any w1 n hn a cap bs (HB.out.below K1.out) (by have := HL.out; omega)))
      | (go_at_call 10; refine HM.out.mono ?_; clear HM; rintro e w3 ⟨rfl, h1⟩; have K3 := Lib.hid (K1.out.trans (h1.mono K1.out.size)); have HM1 := Lib.hid (refMore_any w3 n hn a cap bs (HB.out.below K3.out) (by have := HL.out; omega)); clear h1)
      | (go_at_call 11; refine HM1.out.mono ?_; clear HM1; rintro e w4 ⟨rfl, rfl⟩)
      | (go_at_call 7; refine (HW.out _).mono ?_; clear HW; rintro e w5 ⟨rfl, h2⟩; have H2 := Lib.hid (K3.out.trans (h2.mono K3.out.size)); clear h2))
    go_ret
    exact ⟨rfl, H2.out⟩
end Go.Proofs.Ytpceledeeplhlaa
