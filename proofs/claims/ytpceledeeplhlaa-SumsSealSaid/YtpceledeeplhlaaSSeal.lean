/-
  The program's Seal. No condition but that the bytes lie where they are said to lie, and are not too many.
-/
import Derived.Test.YtpceledeeplhlaaSRef
namespace Go.Proofs.Ytpceledeeplhlaa
open Go.RowKit
open Extern.Stop (cell)

/-- Byte number s (from the right) of a number. -/
def numByte (n : Int) (s : Nat) : UInt8 := UInt8.ofNat (n / (2 ^ s : Nat) % 256).toNat
def be4 (n : Int) : List UInt8 := [numByte n 24, numByte n 16, numByte n 8, numByte n 0]
def sealN (bs : List UInt8) : List UInt8 := bs ++ be4 (moreN 0 bs : Int)
theorem be4_at (n : Int) (k : Nat) (h : k < 4) : (be4 n)[k]? = some (numByte n (24 - 8 * k)) := by
  have : k = 0 ∨ k = 1 ∨ k = 2 ∨ k = 3 := by omega
  rcases this with rfl | rfl | rfl | rfl <;> rfl
theorem be4_length (n : Int) : (be4 n).length = 4 := rfl
theorem sealN_length (bs : List UInt8) : (sealN bs).length = bs.length + 4 := by simp [sealN, be4_length]
theorem numByte_cell (n : Int) (q : Nat) : cell (numByte n q) = .int .u8 (n / 2 ^ q % 256) := by
  have h0 : 0 ≤ n / 2 ^ q % 256 := Int.emod_nonneg _ (by decide)
  have h1 : n / 2 ^ q % 256 < 256 := Int.emod_lt_of_pos _ (by decide)
  have e : (numByte n q).toNat = (n / 2 ^ q % 256).toNat := by
    have e2 : numByte n q = UInt8.ofNat (n / 2 ^ q % 256).toNat := by unfold numByte; push_cast; rfl
    rw [e2, UInt8.toNat_ofNat']; omega
  show Value.int .u8 ((numByte n q).toNat : Int) = _
  rw [e, Int.toNat_of_nonneg h0]
theorem be4_more (bs : List UInt8) (n : Int) (k : Nat) (h : k < 4) : (bs ++ (be4 n).take (k + 1)).length = (bs ++ (be4 n).take k).length + 1 ∧ (bs ++ (be4 n).take (k + 1)).map cell = (bs ++ (be4 n).take k).map cell ++ [.int .u8 (n / 2 ^ (24 - 8 * k) % 256)] := by
  rw [List.take_add_one, be4_at n k h]
  refine ⟨by simp; omega, ?_⟩
  simp [numByte_cell]
theorem own_made {w w' : World} {B : Nat} {v : Value} (hB : B ≤ w.heap.size) (ho : w'.ownsRow B 5 1 v 0 []) (hg : w.grownBy w' none) : OwnS B v 0 [] w w' :=
  ⟨ho, ⟨hg.os, hg.tape, hg.output, hg.size, fun k hk => hg.block k (by omega) (by simp)⟩, Nat.le_trans hB hg.size⟩
def SealInv (B : Nat) (bs : List UInt8) (n : Int) (W0 : World) (v i : Value) (wr : World) : Prop := ∃ k : Nat, k ≤ 4 ∧ i = .int .i64 (24 - 8 * (k : Int)) ∧ OwnB B v (bs ++ (be4 n).take k) W0 wr

theorem ByAt.cells {w : World} {ad : Addr} {bs : List UInt8} (h : ByAt w (some ad) bs) : ∀ j u, bs[j]? = some u → w.cell? (ad.add j) = some (cell u) := h.2 ad rfl
theorem seal_start {w w1 w2 : World} {v : Value} {bs : List UInt8} (h1 : Below w.heap.size w w1) (h2 : OwnS w.heap.size v (0 + bs.length) ([] ++ bs.map cell) w1 w2) : OwnB w.heap.size v bs w w2 := by
  rw [Nat.zero_add, List.nil_append] at h2
  exact ⟨h2.1, h1.trans h2.2.1, h2.2.2⟩
set_option maxRecDepth 100000 in
set_option maxHeartbeats 1000000 in
theorem seal_any (w : World) (a : Option Addr) (cap : Nat) (bs : List UInt8) (h : ByAt w a bs) (hl : bs.length ≤ 1000000000) :
    Calls Try.prog 14 #[.slice a bs.length cap] w (PutC w.heap.size (sealN bs) w) := by
  have HS := Lib.hid (sum_any w a cap bs h (by omega))
  obtain ⟨i0, hi, hz, hs, hby⟩ := info_u Try.infoU
  have HI := Lib.hid (And.intro hi (And.intro hz (And.intro hs hby)))
  have HB := Lib.hid h
  have HL := Lib.hid hl
  have hlen : 0 ≤ (bs.length : Int) + 4 := by omega
  clear h hi hz hs hby
  cases a with
  | none =>
    have HE := Lib.hid (HB.out.1 rfl)
    go_enter Try.func14, Try.ntmps14
    go_wp2_with (first
      | (go_at_call 8; refine HS.out.mono ?_; clear HS; rintro e w1 ⟨rfl, h1⟩; obtain ⟨w2, hm, ho, hg⟩ := run_make_own (P := Try.prog) w1 w.heap.size 22 5 i0 (.int .u8 0) 1 Try.underlying22 HI.out.1 HI.out.2.1 HI.out.2.2.1 .i64 .i64 (bs.length + 4) (by rw [HI.out.2.2.2]; have := HL.out; omega) (by unfold maxLen; have := HL.out; omega) h1.size; have H1 := Lib.hid (And.intro h1 (own_made h1.size ho hg)); clear h1 ho hg; rw [show ((bs.length + 4 : Nat) : Int) = (bs.length : Int) + 4 by push_cast; rfl] at hm)
      | (at_builtin; (with_reducible refine wpList_none rfl (.tmp 12) (.tmp 13) 22 rfl w.heap.size i0 Try.underlying22 HI.out.1 (.slice (some ⟨w1.heap.size, 0, none⟩) 0 (bs.length + 4)) 0 [] rfl w1 H1.out.2 cap bs HE.out rfl ?_); intro v' w3 ho; have HO := Lib.hid (seal_start H1.out.1 ho); clear ho H1))
    obtain ⟨n, hn⟩ : ∃ n : Nat, n = moreN 0 bs := ⟨_, rfl⟩
    rw [← hn]
    have HN := Lib.hid hn
    clear hn
    go_loopw [4, 5] (fun v i wr => SealInv w.heap.size bs (n : Int) w v i wr) (fun _ i _ => (intOf i + 8).toNat)
    case atStart => exact ⟨0, Nat.zero_le _, rfl, by simpa using HO.out⟩
    case round =>
      obtain ⟨k, hk, rfl, hinv⟩ := hrel
      have HV := Lib.hid hinv
      clear hinv
      by_cases hlt : k < 4
      · obtain ⟨q, hq⟩ : ∃ q : Nat, q = 24 - 8 * k := ⟨_, rfl⟩
        have hqi : (24 - 8 * (k : Int)) = (q : Int) := by omega
        have hq24 : q ≤ 24 := by omega
        have HQ := Lib.hid (And.intro hq (And.intro hlt hqi))
        rw [hqi]
        clear hq hqi hlt hk
        go_wp2_with (at_builtin; refine wpList_byte rfl (.tmp 19) (.tmp 24) 22 rfl w.heap.size i0 Try.underlying22 HI.out.1 HI.out.2.1 HI.out.2.2.1 HI.out.2.2.2 _ (bs ++ (be4 n).take k).length ((bs ++ (be4 n).take k).map cell) rfl w wr ((n : Int) / 2 ^ q % 256) HV.out _ rfl rfl (by have := HQ.out.2.1; have := HL.out; simp only [List.length_append, List.length_take, be4_length]; omega) ?_; intro v' w1 ho; have HO2 := Lib.hid ho; clear ho)
        refine ⟨⟨k + 1, by have := HQ.out.2.1; omega, by have := HQ.out.2.2; congr 1; omega, ?_⟩, by simp [intOf]; omega⟩
        have h1 := be4_more bs n k HQ.out.2.1
        rw [← HQ.out.1] at h1
        have h2 := HO2.out
        show OwnS w.heap.size v' (bs ++ (be4 n).take (k + 1)).length ((bs ++ (be4 n).take (k + 1)).map cell) w w1
        rw [h1.1, h1.2]
        exact h2
      · have hk4 : k = 4 := by omega
        subst hk4
        have hi4 : (24 - 8 * ((4 : Nat) : Int)) = -8 := by omega
        rw [hi4]
        clear hlt hk hi4
        go_wp2_with fail
        go_ret
        have h2 := HV.out
        rw [HN.out] at h2
        exact ⟨_, rfl, h2⟩
  | some ad =>
    go_enter Try.func14, Try.ntmps14
    go_wp2_with (first
      | (go_at_call 8; refine HS.out.mono ?_; clear HS; rintro e w1 ⟨rfl, h1⟩; obtain ⟨w2, hm, ho, hg⟩ := run_make_own (P := Try.prog) w1 w.heap.size 22 5 i0 (.int .u8 0) 1 Try.underlying22 HI.out.1 HI.out.2.1 HI.out.2.2.1 .i64 .i64 (bs.length + 4) (by rw [HI.out.2.2.2]; have := HL.out; omega) (by unfold maxLen; have := HL.out; omega) h1.size; have H1 := Lib.hid (And.intro h1 (own_made h1.size ho hg)); clear h1 ho hg; rw [show ((bs.length + 4 : Nat) : Int) = (bs.length : Int) + 4 by push_cast; rfl] at hm)
      | (at_builtin; (with_reducible refine wpList_bytes rfl (.tmp 12) (.tmp 13) 22 rfl w.heap.size i0 Try.underlying22 HI.out.1 HI.out.2.1 HI.out.2.2.1 HI.out.2.2.2 (.slice (some ⟨w1.heap.size, 0, none⟩) 0 (bs.length + 4)) 0 [] rfl w1 H1.out.2 ad cap bs rfl ((HB.out.below (H1.out.1.trans H1.out.2.below)).cells) (by have := HL.out; omega) ?_); intro v' w3 ho; have HO := Lib.hid (seal_start H1.out.1 ho); clear ho H1))
    obtain ⟨n, hn⟩ : ∃ n : Nat, n = moreN 0 bs := ⟨_, rfl⟩
    rw [← hn]
    have HN := Lib.hid hn
    clear hn
    go_loopw [4, 5] (fun v i wr => SealInv w.heap.size bs (n : Int) w v i wr) (fun _ i _ => (intOf i + 8).toNat)
    case atStart => exact ⟨0, Nat.zero_le _, rfl, by simpa using HO.out⟩
    case round =>
      obtain ⟨k, hk, rfl, hinv⟩ := hrel
      have HV := Lib.hid hinv
      clear hinv
      by_cases hlt : k < 4
      · obtain ⟨q, hq⟩ : ∃ q : Nat, q = 24 - 8 * k := ⟨_, rfl⟩
        have hqi : (24 - 8 * (k : Int)) = (q : Int) := by omega
        have hq24 : q ≤ 24 := by omega
        have HQ := Lib.hid (And.intro hq (And.intro hlt hqi))
        rw [hqi]
        clear hq hqi hlt hk
        go_wp2_with (at_builtin; refine wpList_byte rfl (.tmp 19) (.tmp 24) 22 rfl w.heap.size i0 Try.underlying22 HI.out.1 HI.out.2.1 HI.out.2.2.1 HI.out.2.2.2 _ (bs ++ (be4 n).take k).length ((bs ++ (be4 n).take k).map cell) rfl w wr ((n : Int) / 2 ^ q % 256) HV.out _ rfl rfl (by have := HQ.out.2.1; have := HL.out; simp only [List.length_append, List.length_take, be4_length]; omega) ?_; intro v' w1 ho; have HO2 := Lib.hid ho; clear ho)
        refine ⟨⟨k + 1, by have := HQ.out.2.1; omega, by have := HQ.out.2.2; congr 1; omega, ?_⟩, by simp [intOf]; omega⟩
        have h1 := be4_more bs n k HQ.out.2.1
        rw [← HQ.out.1] at h1
        have h2 := HO2.out
        show OwnS w.heap.size v' (bs ++ (be4 n).take (k + 1)).length ((bs ++ (be4 n).take (k + 1)).map cell) w w1
        rw [h1.1, h1.2]
        exact h2
      · have hk4 : k = 4 := by omega
        subst hk4
        have hi4 : (24 - 8 * ((4 : Nat) : Int)) = -8 := by omega
        rw [hi4]
        clear hlt hk hi4
        go_wp2_with fail
        go_ret
        have h2 := HV.out
        rw [HN.out] at h2
        exact ⟨_, rfl, h2⟩
end Go.Proofs.Ytpceledeeplhlaa
