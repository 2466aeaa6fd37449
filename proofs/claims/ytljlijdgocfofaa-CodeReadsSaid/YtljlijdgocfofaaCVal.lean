/-
  Eight bytes as a number, and back: plain arithmetic. No condition.
-/
import Derived.Test.YtljlijdgocfofaaCRead
import Derived.Test.YtljlijdgocfofaaCPut
import Derived.Laws.Bits64b
namespace Go.Proofs.Ytljlijdgocfofaa
open Go.RowKit
open Extern.Stop (cell)

/-- Bytes as a number, the highest first. -/
def valN (l : List UInt8) : Nat := l.foldl (fun x u => x * 256 + u.toNat) 0
theorem valN_acc : ∀ (l : List UInt8) (x : Nat), l.foldl (fun x u => x * 256 + u.toNat) x < (x + 1) * 256 ^ l.length
  | [], x => by simp
  | u :: l, x => by
    have h := valN_acc l (x * 256 + u.toNat)
    have hu : u.toNat < 256 := u.toNat_lt
    simp only [List.foldl_cons, List.length_cons]
    refine Nat.lt_of_lt_of_le h ?_
    rw [Nat.pow_succ, Nat.mul_comm (256 ^ l.length) 256, ← Nat.mul_assoc]
    exact Nat.mul_le_mul_right _ (by omega)
theorem valN_lt (l : List UInt8) (k : Nat) (h : l.length ≤ k) : valN l < 256 ^ k := by
  have h1 := valN_acc l 0
  have h2 : 256 ^ l.length ≤ 256 ^ k := Nat.pow_le_pow_right (by omega) h
  unfold valN
  omega
theorem valN_snoc (l : List UInt8) (u : UInt8) : valN (l ++ [u]) = valN l * 256 + u.toNat := by simp [valN, List.foldl_append]
theorem i64_mod (y : Int) : (BitVec.ofInt 64 (wrap64 y)).toNat = (y % 18446744073709551616).toNat := by
  rw [BitVec.toNat_ofInt]
  unfold wrap64
  congr 1
  omega
theorem or_byte (x : Nat) (u : UInt8) : x * 256 ||| u.toNat = x * 256 + u.toNat := by
  have h := Nat.shiftLeft_add_eq_or_of_lt (i := 8) (b := u.toNat) u.toNat_lt x
  rw [Nat.shiftLeft_eq] at h
  exact h.symm
theorem numStep_val (x : Nat) (u : UInt8) (hx : x < 72057594037927936) : numStep (IntKind.i64.wrap (x : Int)) u = IntKind.i64.wrap ((x * 256 + u.toNat : Nat) : Int) := by
  have hu : u.toNat < 256 := u.toNat_lt
  show IntKind.i64.wrap ((BitVec.ofInt 64 (wrap64 (IntKind.i64.wrap (x : Int) * 256)) ||| BitVec.ofInt 64 (wrap64 (u.toNat : Int))).toNat : Int) = _
  rw [BitVec.toNat_or, i64_mod, i64_mod]
  have e1 : (IntKind.i64.wrap (x : Int) * 256 % 18446744073709551616).toNat = x * 256 := by rw [IntKind.wrap_i64]; omega
  have e2 : ((u.toNat : Int) % 18446744073709551616).toNat = u.toNat := by omega
  rw [e1, e2, or_byte]
theorem numOf_val (l : List UInt8) (hl : l.length ≤ 8) : numOf l = IntKind.i64.wrap (valN l : Int) := by
  have key : ∀ k, k ≤ l.length → numOf (l.take k) = IntKind.i64.wrap (valN (l.take k) : Int) := by
    intro k
    induction k with
    | zero => intro _; simp [numOf, valN, IntKind.wrap_i64]
    | succ k ih =>
      intro hk
      obtain ⟨u, hu⟩ : ∃ u, l[k]? = some u := ⟨l[k]'(by omega), List.getElem?_eq_getElem _⟩
      have hlt : valN (l.take k) < 256 ^ 7 := valN_lt _ 7 (by simp; omega)
      rw [numOf_take l k u hu, ih (by omega), numStep_val _ u (by have e : (256 : Nat) ^ 7 = 72057594037927936 := by decide
                                                                  omega), List.take_add_one, hu]
      simp only [Option.toList_some, valN_snoc]
  have := key l.length (Nat.le_refl _)
  rwa [List.take_length] at this
theorem numByte_val (n : Int) (s : Nat) : ((numByte n s).toNat : Int) = n / (2 ^ s : Nat) % 256 := by
  have h0 : 0 ≤ n / (2 ^ s : Nat) % 256 := Int.emod_nonneg _ (by decide)
  have h1 : n / (2 ^ s : Nat) % 256 < 256 := Int.emod_lt_of_pos _ (by decide)
  unfold numByte
  rw [UInt8.toNat_ofNat']
  omega
theorem valN_num8 (n : Int) : (valN (num8 n) : Int) = n % 18446744073709551616 := by
  have e : (valN (num8 n) : Int) = (((((((((numByte n 56).toNat : Int) * 256 + (numByte n 48).toNat) * 256 + (numByte n 40).toNat) * 256 + (numByte n 32).toNat) * 256 + (numByte n 24).toNat) * 256 + (numByte n 16).toNat) * 256 + (numByte n 8).toNat) * 256 + (numByte n 0).toNat) := by
    simp [valN, num8]
  rw [e]
  simp only [numByte_val]
  have d1 : n / ((2 ^ 8 : Nat) : Int) / 256 = n / ((2 ^ 16 : Nat) : Int) := by rw [Int.ediv_ediv_of_nonneg (by decide)]; rfl
  have d2 : n / ((2 ^ 16 : Nat) : Int) / 256 = n / ((2 ^ 24 : Nat) : Int) := by rw [Int.ediv_ediv_of_nonneg (by decide)]; rfl
  have d3 : n / ((2 ^ 24 : Nat) : Int) / 256 = n / ((2 ^ 32 : Nat) : Int) := by rw [Int.ediv_ediv_of_nonneg (by decide)]; rfl
  have d4 : n / ((2 ^ 32 : Nat) : Int) / 256 = n / ((2 ^ 40 : Nat) : Int) := by rw [Int.ediv_ediv_of_nonneg (by decide)]; rfl
  have d5 : n / ((2 ^ 40 : Nat) : Int) / 256 = n / ((2 ^ 48 : Nat) : Int) := by rw [Int.ediv_ediv_of_nonneg (by decide)]; rfl
  have d6 : n / ((2 ^ 48 : Nat) : Int) / 256 = n / ((2 ^ 56 : Nat) : Int) := by rw [Int.ediv_ediv_of_nonneg (by decide)]; rfl
  have d0 : n / 256 = n / ((2 ^ 8 : Nat) : Int) := rfl
  have dz : n / ((2 ^ 0 : Nat) : Int) = n := by simp
  rw [dz]
  obtain ⟨a1, ha1⟩ : ∃ a, a = n / ((2 ^ 8 : Nat) : Int) := ⟨_, rfl⟩
  obtain ⟨a2, ha2⟩ : ∃ a, a = n / ((2 ^ 16 : Nat) : Int) := ⟨_, rfl⟩
  obtain ⟨a3, ha3⟩ : ∃ a, a = n / ((2 ^ 24 : Nat) : Int) := ⟨_, rfl⟩
  obtain ⟨a4, ha4⟩ : ∃ a, a = n / ((2 ^ 32 : Nat) : Int) := ⟨_, rfl⟩
  obtain ⟨a5, ha5⟩ : ∃ a, a = n / ((2 ^ 40 : Nat) : Int) := ⟨_, rfl⟩
  obtain ⟨a6, ha6⟩ : ∃ a, a = n / ((2 ^ 48 : Nat) : Int) := ⟨_, rfl⟩
  obtain ⟨a7, ha7⟩ : ∃ a, a = n / ((2 ^ 56 : Nat) : Int) := ⟨_, rfl⟩
  rw [← ha1] at d0 d1
  rw [← ha2] at d1 d2
  rw [← ha3] at d2 d3
  rw [← ha4] at d3 d4
  rw [← ha5] at d4 d5
  rw [← ha6] at d5 d6
  rw [← ha7] at d6
  rw [← ha1, ← ha2, ← ha3, ← ha4, ← ha5, ← ha6, ← ha7]
  clear ha1 ha2 ha3 ha4 ha5 ha6 ha7 e
  omega
/-- What was put is read as it was. -/
theorem numOf_num8 (n : Int) (h1 : -9223372036854775808 ≤ n) (h2 : n ≤ 9223372036854775807) : numOf (num8 n) = n := by
  rw [numOf_val _ (by rw [num8_length]; omega), valN_num8, IntKind.wrap_i64]
  omega
end Go.Proofs.Ytljlijdgocfofaa
