/-
  The document's own More and Sum. No condition but that the bytes lie where they are said to lie, and are not too many.
-/
import Derived.Test.YtpceledeeplhlaaSMore
namespace Go.Proofs.Ytpceledeeplhlaa
open Go.RowKit
open Extern.Stop (cell)

theorem u32_byte (q : Nat) (x : UInt8) (hq : q < 4294967296) : bits .xor .u32 (q : Int) ((x.toNat : Int) % 4294967296) = ((q ^^^ x.toNat : Nat) : Int) := by
  have hb := byte_lt x
  rw [show (x.toNat : Int) % 4294967296 = (x.toNat : Int) by omega]
  exact u32_xor_nat _ _ hq (by omega)
theorem stepsN_8 (q : Nat) : stepsN (8 - 0) q = sh8 q := rfl
def EightInv (r : Nat) (w : World) (v i : Value) (wr : World) : Prop := ShInv r w v i wr
def RefInv (w : World) (s : Nat) (bs : List UInt8) (v i : Value) (wr : World) : Prop := ∃ k : Nat, k ≤ bs.length ∧ v = .int .u32 (crcN (4294967295 - s) (bs.take k) : Int) ∧ i = .int .i64 (k : Int) ∧ w = wr
set_option maxRecDepth 100000 in
set_option maxHeartbeats 1000000 in
theorem refMore_any (w : World) (s : Nat) (hs : s < 4294967296) (a : Option Addr) (cap : Nat) (bs : List UInt8) (h : ByAt w a bs) (hl : bs.length ≤ 1000000000000) :
    Calls Try.prog 11 #[.int .u32 (s : Int), .slice a bs.length cap] w fun e w' => e = .returned (.int .u32 (moreN s bs : Int)) ∧ w = w' := by
  have e0 := u32_not s hs
  have HB := Lib.hid h
  clear h
  go_enter Try.func11, Try.ntmps11
  go_wp2_with fail
  clear e0
  go_loopw [5, 6] (fun v i wr => RefInv w s bs v i wr) (fun _ i _ => (bs.length - intOf i).toNat)
  case atStart => exact ⟨0, Nat.zero_le _, rfl, rfl, rfl⟩
  case round =>
    obtain ⟨k, hk, rfl, rfl, rfl⟩ := hrel
    obtain ⟨q, hq⟩ : ∃ q, q = crcN (4294967295 - s) (bs.take k) := ⟨_, rfl⟩
    have hql : q < 4294967296 := by rw [hq]; exact crcN_lt _ _ (by omega)
    rw [← hq]
    have HQ := Lib.hid hq
    clear hq
    by_cases hlt : k < bs.length
    · obtain ⟨x, hx⟩ : ∃ x, bs[k]? = some x := ⟨bs[k], List.getElem?_eq_getElem hlt⟩
      cases a with
      | none => have := HB.out.1 rfl; subst this; simp at hlt
      | some ad =>
        have hc : w.cell? (ad.add k) = some (.int .u8 (x.toNat : Int)) := HB.out.2 ad rfl k x hx
        have e1 := u32_byte q x hql
        have HX := Lib.hid hx
        have hr := xor32 q x.toNat hql (by have := byte_lt x; omega)
        obtain ⟨r, hre⟩ : ∃ r, r = q ^^^ x.toNat := ⟨_, rfl⟩
        rw [← hre] at e1 hr
        have HR := Lib.hid hre
        clear hx hre
        go_wp2_with fail
        clear e1 hc
        go_loopw [5, 7] (fun v i wr => EightInv r w v i wr) (fun _ i _ => (8 - intOf i).toNat)
        case atStart => exact ⟨r, 0, rfl, rfl, hr, by omega, rfl, rfl⟩
        case round =>
          obtain ⟨q2, j, rfl, rfl, hq2, hj, hs2, rfl⟩ := hrel
          by_cases hlt2 : j < 8
          · by_cases ho : q2 % 2 = 1
            · have H := Lib.hid (ShInv.odd (w := w) hq2 hlt2 hs2 ho)
              have e1 := u32_odd q2 hq2 ho
              have e2 := u32_poly q2 hq2
              clear hs2 ho
              go_wp2_with fail
              exact ⟨H.out, by simp [intOf]; omega⟩
            · have H := Lib.hid (ShInv.even (w := w) hq2 hlt2 hs2 ho)
              have e1 := u32_even q2 hq2 ho
              clear hs2 ho
              go_wp2_with fail
              exact ⟨H.out, by simp [intOf]; omega⟩
          · have hj8 : j = 8 := by omega
            subst hj8
            have H := Lib.hid hs2
            clear hlt2 hs2 hj
            go_wp2_with fail
            have h1 := H.out
            simp only [Nat.sub_self, stepsN] at h1
            refine ⟨⟨k + 1, by omega, ?_, by congr 1, rfl⟩, by simp [intOf]; omega⟩
            rw [crcN_snoc _ _ _ _ HX.out, ← HQ.out, ← HR.out, h1]
    · have hke : k = bs.length := by omega
      subst hke
      have e0 := u32_not q hql
      go_wp2_with fail
      go_ret
      refine ⟨?_, rfl⟩
      have e1 : moreN s bs = 4294967295 - q := by rw [HQ.out, List.take_length]; rfl
      rw [e1]; rfl

set_option maxRecDepth 100000 in
set_option maxHeartbeats 1000000 in
theorem refSum_any (w : World) (a : Option Addr) (cap : Nat) (bs : List UInt8) (h : ByAt w a bs) (hl : bs.length ≤ 1000000000000) :
    Calls Try.prog 9 #[.slice a bs.length cap] w fun e w' => e = .returned (.int .u32 (moreN 0 bs : Int)) ∧ w = w' := by
  have H := Lib.hid (refMore_any w 0 (by decide) a cap bs h hl)
  clear h
  go_enter Try.func9, Try.ntmps9
  go_wp2_with (go_at_call 11; refine H.out.mono ?_; clear H; rintro e w1 ⟨rfl, rfl⟩)
  go_ret
  exact ⟨rfl, rfl⟩
end Go.Proofs.Ytpceledeeplhlaa
