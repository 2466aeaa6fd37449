/-
  The document's 'rising' and 'may'. No condition but that the row lies where it is said to lie.
-/
import Derived.Test.YtmfpilacmafglaaGSlot
import Derived.Deep.QuietTactic
import Derived.BigQuiet
namespace Go.Proofs.Ytmfpilacmafglaa
open Go.RowKit

def Ahead (l : List Int) (k : Nat) (a : Int) : Prop := (k = 0 → a = -1) ∧ ∀ m, k = m + 1 → l[m]? = some a
def RiseR (w : World) (n : Int) (l : List Int) (i : Value) (wr : World) : Prop :=
  ∃ (k : Nat) (a : Int), k ≤ l.length ∧ i = .int .i64 k ∧ -1 ≤ a ∧ Ahead l k a ∧ Below w.heap.size w wr ∧ rise n (-1) l = rise n a (l.drop k)
def rising (n : Int) (l : List Int) : Bool := rise n (-1) l && decide (0 < l.length)

set_option maxRecDepth 100000 in
set_option maxHeartbeats 1000000 in
theorem rising_any (w : World) (a : Option Addr) (cap : Nat) (l : List Int) (n : Int) (hn : n ≤ 32) (h : IntsAt w a l) (hf : l.length ≤ 1000000) : Calls Try.prog 67 #[.slice a l.length cap, .int .i64 n] w (Says (rising n l) w) := by
  have HK := Lib.hid h
  clear h
  go_enter Try.func67, Try.ntmps67
  go_wp2_with fail
  go_loopw [5] (fun i wr => RiseR w n l i wr) (fun i _ => l.length - (intOf i).toNat)
  case atStart => exact ⟨0, -1, Nat.zero_le _, rfl, by omega, ⟨fun _ => rfl, fun m h => by omega⟩, Below.refl _ _, rfl⟩
  case round =>
    obtain ⟨k, y, hkl, rfl, hy, ⟨hy0, hy1⟩, hbel, hany⟩ := hrel
    have HB := Lib.hid hbel
    have HA := Lib.hid hany
    by_cases hlt : k < l.length
    · obtain ⟨x, hx⟩ : ∃ x, l[k]? = some x := ⟨l[k], List.getElem?_eq_getElem hlt⟩
      obtain ⟨b, off, rfl, hblt, hc⟩ := (HK.out.below hbel) (by omega)
      have c0 := hc k x hx
      have HX := Lib.hid (rise_step HA.out hx)
      have hkl2 : (k : Int) < (l.length : Int) := by omega
      have hk0 : (0 : Int) ≤ (k : Int) := by omega
      have HXX := Lib.hid hx
      by_cases hx0 : x < 0
      · have hx0' : decide (x < 0) = true := by simpa using hx0
        clear hx hc hbel hany hy0 hy1
        go_wp2_with fail
        go_quiet (fail)
        go_wp2_with fail
        go_ret
        exact Says.mk (by rw [rising, HX.out]; simp; omega) (below_drewN HB.out _)
      · have hx0' : decide (x < 0) = false := by simpa using hx0
        by_cases hxn : n ≤ x
        · have hxn' : decide (n ≤ x) = true := by simpa using hxn
          clear hx hc hbel hany hy0 hy1
          go_wp2_with fail
          go_quiet (fail)
          go_wp2_with fail
          go_ret
          exact Says.mk (by rw [rising, HX.out]; simp; omega) (below_drewN HB.out _)
        · have hxn' : decide (n ≤ x) = false := by simpa using hxn
          by_cases hk1 : k = 0
          · have hka := hy0 hk1
            subst hka
            have hk2 : decide ((0 : Int) < (k : Int)) = false := by simp; omega
            have hk3 : decide (0 < k) = false := by simp; omega
            have HK1 := Lib.hid hk1
            clear hx hc hbel hany hy0 hy1 hk1
            go_wp2_with fail
            go_quiet (fail)
            go_wp2_with fail
            exact ⟨⟨k + 1, x, by omega, by go_num, by omega, ⟨fun h => by omega, fun m h => by obtain rfl : m = k := (by omega); exact HXX.out⟩, below_drewN HB.out _, by rw [HX.out]; simp; omega⟩, by simp [intOf]; omega⟩
          · obtain ⟨m, rfl⟩ : ∃ m, k = m + 1 := ⟨k - 1, by omega⟩
            have hym := hy1 m rfl
            have c1 := hc m y hym
            have hk2 : decide ((0 : Int) < ((m : Int) + 1)) = true := by rw [decide_eq_true]; omega
            have hk3 : decide (0 < m + 1) = true := by simp
            by_cases hle : x ≤ y
            · have hle' : decide (x ≤ y) = true := by simpa using hle
              clear hx hc hbel hany hy0 hy1 hym
              go_wp2_with fail
              go_quiet (fail)
              go_wp2_with fail
              go_ret
              exact Says.mk (by rw [rising, HX.out]; simp; omega) (below_drewN HB.out _)
            · have hle' : decide (x ≤ y) = false := by simpa using hle
              clear hx hc hbel hany hy0 hy1 hym
              go_wp2_with fail
              go_quiet (fail)
              go_wp2_with fail
              exact ⟨⟨m + 2, x, by omega, by go_num, by omega, ⟨fun h => by omega, fun j h => by obtain rfl : j = m + 1 := (by omega); exact HXX.out⟩, below_drewN HB.out _, by rw [HX.out]; simp; omega⟩, by simp [intOf]; omega⟩
    · have HE := Lib.hid (show rising n l = decide (0 < l.length) by rw [rising, rise_end HA.out (by omega)]; rfl)
      have hkl2 : ¬ (k : Int) < (l.length : Int) := by omega
      have hlen := rise_len n l (-1) (rise_end HA.out (by omega))
      have h32 : l.length ≤ 32 := by
        rcases hlen with h | h
        · rw [h]; simp
        · omega
      clear hbel hany hlen hy0 hy1
      by_cases h1 : 0 < l.length
      · have h1' : (1 : Int) ≤ (l.length : Int) := by omega
        have h2' : (l.length : Int) ≤ 32 := by omega
        go_wp2_with fail
        go_ret
        exact Says.mk (by rw [HE.out, decide_eq_true h1]) HB.out
      · have h1' : ¬ (1 : Int) ≤ (l.length : Int) := by omega
        go_wp2_with fail
        go_ret
        exact Says.mk (by rw [HE.out, decide_eq_false h1]) HB.out
end Go.Proofs.Ytmfpilacmafglaa
