/-
  What 'great' answers of a row of acts; bytes as a text; what a disk comes to behind a row of acts. No condition.
-/
import Derived.Test.YtbhdelfiaaodmaaActs
namespace Go.Proofs.Ytbhdelfiaaodmaa
open Go.RowKit
open Extern.Stop (cell)

/-- Is a row of acts, the first of which is number i and ahead of which n bytes stood, too much? -/
def greatB : List Act → Nat → Nat → Bool
  | [], _, _ => false
  | x :: l, i, n => decide (200 ≤ i) || decide (20000 < n + x.bs.length) || greatB l (i + 1) (n + x.bs.length)
theorem greatB_length : ∀ (l : List Act) (i n : Nat), i ≤ 200 → greatB l i n = false → i + l.length ≤ 200
  | [], i, n, h, _ => by simpa using h
  | x :: l, i, n, h, hg => by
    simp only [greatB, Bool.or_eq_false_iff, decide_eq_false_iff_not] at hg
    have := greatB_length l (i + 1) (n + x.bs.length) (by omega) hg.2
    simp only [List.length_cons]; omega

theorem drop_at {l : List Act} {k : Nat} {x : Act} (h : l[k]? = some x) : l.drop k = x :: l.drop (k + 1) := by
  obtain ⟨hk, rfl⟩ := List.getElem?_eq_some_iff.1 h
  exact List.drop_eq_getElem_cons hk

set_option maxRecDepth 100000 in
set_option maxHeartbeats 1000000 in
theorem great_any (w : World) (B : Nat) (a : Option Addr) (cap : Nat) (l : List Act) (h : ActsAt w B a l) : Calls Try.prog 7 #[.slice a l.length cap] w fun e w' => e = .returned (.bool (greatB l 0 0)) ∧ w = w' := by
  obtain ⟨len, hlen⟩ : ∃ len, len = l.length := ⟨_, rfl⟩
  obtain ⟨g, hg⟩ : ∃ g, g = greatB l 0 0 := ⟨_, rfl⟩
  rw [← hlen, ← hg]
  have HL := Lib.hid hlen
  have HG := Lib.hid hg
  have HA := Lib.hid h
  clear hlen hg h
  go_enter Try.func7, Try.ntmps7
  go_wp2
  go_loop [3, 7] (fun n i => ∃ k m : Nat, k ≤ len ∧ k ≤ 200 ∧ m ≤ 20000 ∧ i = .int .i64 k ∧ n = .int .i64 m ∧ Hid (g = greatB (l.drop k) k m)) (fun _ i => len - (intOf i).toNat)
  case atStart => exact ⟨0, 0, Nat.zero_le _, Nat.zero_le _, Nat.zero_le _, rfl, rfl, Lib.hid (by simpa using HG.out)⟩
  case round =>
    obtain ⟨k, m, hk, hk2, hm, rfl, rfl, hgr⟩ := hrel
    by_cases hlt : k < len
    · obtain ⟨x, hx⟩ : ∃ x, l[k]? = some x := ⟨l[k]'(by have := HL.out; omega), List.getElem?_eq_getElem _⟩
      have hdrop := drop_at hx
      obtain ⟨b, off, ha, _, hc⟩ := HA.out.1 (by have := HL.out; omega)
      subst ha
      obtain ⟨_, _, c2⟩ := hc k x hx
      obtain ⟨a', cap', hv, _⟩ := HA.out.2 x (List.mem_of_getElem? hx)
      rw [hv] at c2
      have HV := Lib.hid hv
      obtain ⟨bl, hbl⟩ : ∃ bl, bl = x.bs.length := ⟨_, rfl⟩
      rw [← hbl] at c2
      have hgr2 : g = (decide (200 ≤ k) || decide (20000 < m + bl) || greatB (l.drop (k + 1)) (k + 1) (m + bl)) := by rw [hgr.out, hdrop, greatB, hbl]
      have HR := Lib.hid hgr2
      clear hgr hgr2 hbl hdrop hx hc hv
      have hkl : (k : Int) < (len : Int) := by omega
      by_cases h200 : 200 ≤ k
      · have hk3 : (200 : Int) ≤ (k : Int) := by omega
        go_wp2
        go_ret
        exact ⟨by rw [HR.out]; simp [h200], rfl⟩
      · have hk3 : ¬ (200 : Int) ≤ (k : Int) := by omega
        by_cases hmuch : 20000 < m + bl
        · have hm3 : (20000 : Int) - (m : Int) < (bl : Int) := by omega
          go_wp2
          go_ret
          exact ⟨by rw [HR.out]; simp [hmuch], rfl⟩
        · have hm3 : ¬ (20000 : Int) - (m : Int) < (bl : Int) := by omega
          have hm4 : bl ≤ 20000 := by omega
          go_wp2
          go_round
          case rel => exact ⟨k + 1, m + bl, by omega, by omega, by omega, by go_num, by go_num, Lib.hid (by rw [HR.out]; simp [h200, hmuch])⟩
          case measure => simp [intOf]; omega
    · have hk3 : k = len := by omega
      have HK := Lib.hid hk3
      clear hk3
      go_wp2
      go_ret
      refine ⟨?_, rfl⟩
      have := hgr.out
      rw [HK.out, HL.out, List.drop_length] at this
      rw [this]; rfl

end Go.Proofs.Ytbhdelfiaaodmaa
