/-
  Bits that lie within 32 of one another: what is changed by them is not sealed. Plain.
-/
import Derived.Test.YtpceledeeplhlaaSOpen
namespace Go.Proofs.Ytpceledeeplhlaa
open Go.RowKit

theorem numL_append (a b : List UInt8) : numL (a ++ b) = numL a ^^^ 2 ^ (8 * a.length) * numL b := by
  induction a with
  | nil => simp [numL]
  | cons x a ih =>
    show x.toNat ^^^ 256 * numL (a ++ b) = (x.toNat ^^^ 256 * numL a) ^^^ _
    rw [ih, show (256 : Nat) = 2 ^ 8 by rfl, mul_xor, Nat.xor_assoc, show 8 * (x :: a).length = 8 + 8 * a.length by simp; omega, Nat.pow_add, Nat.mul_assoc]
theorem numL_lt : ∀ a : List UInt8, numL a < 2 ^ (8 * a.length)
  | [] => by simp [numL]
  | x :: a => by
    have h := numL_lt a
    have hx := byte_lt x
    rw [numL_cons, show 8 * (x :: a).length = 8 + 8 * a.length by simp; omega, Nat.pow_add]
    have : (256 : Nat) = 2 ^ 8 := rfl
    omega
theorem numL_inj : ∀ a b : List UInt8, a.length = b.length → numL a = numL b → a = b
  | [], [], _, _ => rfl
  | x :: a, y :: b, hl, h => by
    rw [numL_cons, numL_cons] at h
    have hx := byte_lt x
    have hy := byte_lt y
    have e1 : x.toNat = y.toNat := by omega
    rw [numL_inj a b (by simpa using hl) (by omega), UInt8.toNat_inj.1 e1]
/-- One bit turned. -/
theorem numL_set : ∀ (l : List UInt8) (i j : Nat) (x u : UInt8), l[i]? = some x → u.toNat = x.toNat ^^^ 2 ^ j → numL (l.set i u) = numL l ^^^ 2 ^ (8 * i + j)
  | [], i, j, x, u, h, _ => by simp at h
  | y :: l, 0, j, x, u, h, hu => by
    simp only [List.getElem?_cons_zero, Option.some.injEq] at h
    subst h
    show u.toNat ^^^ 256 * numL l = (y.toNat ^^^ 256 * numL l) ^^^ 2 ^ (8 * 0 + j)
    rw [hu, Nat.mul_zero, Nat.zero_add, Nat.xor_assoc, Nat.xor_assoc, Nat.xor_comm (2 ^ j)]
  | y :: l, i + 1, j, x, u, h, hu => by
    have ih := numL_set l i j x u (by simpa using h) hu
    show y.toNat ^^^ 256 * numL (l.set i u) = (y.toNat ^^^ 256 * numL l) ^^^ 2 ^ (8 * (i + 1) + j)
    rw [ih, show (256 : Nat) = 2 ^ 8 by rfl, mul_xor, ← Nat.pow_add, show 8 + (8 * i + j) = 8 * (i + 1) + j by omega, Nat.xor_assoc]
theorem xor_mod (k a b : Nat) : (a ^^^ b) % 2 ^ k = a % 2 ^ k ^^^ b % 2 ^ k := Nat.xor_mod_two_pow
theorem xor_shr (k a b : Nat) : (a ^^^ b) / 2 ^ k = a / 2 ^ k ^^^ b / 2 ^ k := by
  have := Nat.shiftRight_xor_distrib (a := a) (b := b) (i := k)
  simpa [Nat.shiftRight_eq_div_pow] using this
theorem join_mod (k a b : Nat) (h : a < 2 ^ k) : (a ^^^ 2 ^ k * b) % 2 ^ k = a := by
  rw [xor_mod, Nat.mul_mod_right, Nat.xor_zero, Nat.mod_eq_of_lt h]
theorem join_div (k a b : Nat) (h : a < 2 ^ k) : (a ^^^ 2 ^ k * b) / 2 ^ k = b := by
  rw [xor_shr, Nat.div_eq_of_lt h, Nat.zero_xor, Nat.mul_div_cancel_left _ (Nat.two_pow_pos k)]

/-- Is bit i turned, of which the first is at place p, and of which there are n8 ahead of the sum? -/
def turns (n8 p bits i : Nat) : Prop := bits / 2 ^ i % 2 = 1 ∧ ¬ (p < n8 ∧ n8 ≤ p + i)
instance (n8 p bits i : Nat) : Decidable (turns n8 p bits i) := by unfold turns; infer_instance
def maskN (n8 p bits : Nat) : Nat → Nat
  | 0 => 0
  | i + 1 => if turns n8 p bits i then maskN n8 p bits i ^^^ 2 ^ (p + i) else maskN n8 p bits i
theorem mask_form (n8 p bits : Nat) (hp : p ≤ n8) (hodd : bits % 2 = 1) : ∀ i, 1 ≤ i → ∃ B, maskN n8 p bits i = 2 ^ p * B ∧ B < 2 ^ i ∧ B % 2 = 1
  | 0, h => by omega
  | 1, _ => by
    have ht : turns n8 p bits 0 := ⟨by simpa using hodd, by omega⟩
    refine ⟨1, ?_, by decide, rfl⟩
    show (if turns n8 p bits 0 then _ else _) = _
    rw [if_pos ht]
    simp [maskN]
  | i + 2, _ => by
    obtain ⟨B, h1, h2, h3⟩ := mask_form n8 p bits hp hodd (i + 1) (by omega)
    have hpow : 2 ^ (i + 2) = 2 * 2 ^ (i + 1) := by rw [Nat.pow_succ]; omega
    show ∃ B, (if turns n8 p bits (i + 1) then _ else _) = _ ∧ _
    by_cases ht : turns n8 p bits (i + 1)
    · rw [if_pos ht]
      refine ⟨B ^^^ 2 ^ (i + 1), by rw [h1, mul_xor, ← Nat.pow_add], ?_, ?_⟩
      · exact Nat.xor_lt_two_pow (by omega) (by omega)
      · rw [xor_par]
        have : 2 ^ (i + 1) = 2 * 2 ^ i := by rw [Nat.pow_succ]; omega
        omega
    · rw [if_neg ht]
      exact ⟨B, h1, by omega, h3⟩
theorem mask_lt (n8 p bits : Nat) (hp : p < n8) : ∀ i, maskN n8 p bits i < 2 ^ n8
  | 0 => Nat.two_pow_pos n8
  | i + 1 => by
    have ih := mask_lt n8 p bits hp i
    show (if turns n8 p bits i then _ else _) < _
    split
    · rename_i ht
      refine Nat.xor_lt_two_pow ih (Nat.pow_lt_pow_right (by decide) ?_)
      have := ht.2
      omega
    · exact ih
theorem numByte_nat (n q : Nat) : (numByte (n : Int) q).toNat = n / 2 ^ q % 256 := by
  unfold numByte
  rw [UInt8.toNat_ofNat', show ((n : Int) / ((2 ^ q : Nat) : Int) % 256) = ((n / 2 ^ q % 256 : Nat) : Int) from rfl, Int.toNat_natCast]
  exact Nat.mod_eq_of_lt (Nat.mod_lt _ (by decide))
theorem be4_inj (m n : Nat) (hm : m < 4294967296) (hn : n < 4294967296) (h : be4 (m : Int) = be4 (n : Int)) : m = n := by
  simp only [be4, List.cons.injEq, and_true] at h
  obtain ⟨h1, h2, h3, h4⟩ := h
  have e1 := congrArg UInt8.toNat h1
  have e2 := congrArg UInt8.toNat h2
  have e3 := congrArg UInt8.toNat h3
  have e4 := congrArg UInt8.toNat h4
  rw [numByte_nat, numByte_nat] at e1 e2 e3 e4
  simp only [show 2 ^ 24 = 16777216 by rfl, show 2 ^ 16 = 65536 by rfl, show 2 ^ 8 = 256 by rfl, Nat.pow_zero, Nat.div_one] at e1 e2 e3 e4
  omega
theorem more_crc {a b : List UInt8} (h : moreN 0 a = moreN 0 b) : crcN 4294967295 a = crcN 4294967295 b := by
  have h1 := crcN_lt a 4294967295 (by decide)
  have h2 := crcN_lt b 4294967295 (by decide)
  unfold moreN at h
  rw [Nat.sub_zero] at h
  omega
/-- Such bits are found. -/
theorem burst_bad (bs s : List UInt8) (p bits : Nat) (hp : p ≤ 8 * bs.length) (hodd : bits % 2 = 1) (hl : s.length = bs.length + 4) (hn : numL s = numL (sealN bs) ^^^ maskN (8 * bs.length) p bits 32) : okN s = false := by
  unfold okN
  rw [beq_eq_false_iff_ne]
  intro he
  rw [hl, Nat.add_sub_cancel] at he
  obtain ⟨d, hd⟩ : ∃ d, d = s.take bs.length := ⟨_, rfl⟩
  rw [← hd] at he
  have hdl : d.length = bs.length := by rw [hd]; simp; omega
  obtain ⟨B, hB, hB32, hBo⟩ := mask_form (8 * bs.length) p bits hp hodd 32 (by decide)
  rw [← he] at hn
  unfold sealN at hn
  rw [numL_append, numL_append, hdl] at hn
  have hmod := congrArg (fun x => x % 2 ^ (8 * bs.length)) hn
  have hdiv := congrArg (fun x => x / 2 ^ (8 * bs.length)) hn
  have hbl := numL_lt bs
  have hdb : numL d < 2 ^ (8 * bs.length) := by have := numL_lt d; rw [hdl] at this; exact this
  rw [join_mod _ _ _ hdb, xor_mod, join_mod _ _ _ hbl] at hmod
  rw [join_div _ _ _ hdb, xor_shr, join_div _ _ _ hbl] at hdiv
  by_cases hlt : p < 8 * bs.length
  · have hm := mask_lt _ _ bits hlt 32
    rw [Nat.mod_eq_of_lt hm] at hmod
    rw [Nat.div_eq_of_lt hm, Nat.xor_zero] at hdiv
    have e1 := be4_inj _ _ (moreN_lt _ _) (moreN_lt _ _) (numL_inj _ _ (by rw [be4_length, be4_length]) hdiv)
    have e2 := more_crc e1
    rw [crcN_num, crcN_num, hdl, hmod, ← Nat.xor_assoc, stepsN_xor] at e2
    have e3 : stepsN (8 * bs.length) (maskN (8 * bs.length) p bits 32) = 0 := by
      have := congrArg (fun x => stepsN (8 * bs.length) (4294967295 ^^^ numL bs) ^^^ x) e2
      simp only [Nat.xor_self] at this
      rw [← Nat.xor_assoc, Nat.xor_self, Nat.zero_xor] at this
      exact this
    rw [hB, show 8 * bs.length = p + (8 * bs.length - p) by omega, stepsN_add, stepsN_shift] at e3
    have := stepsN_zero _ B hB32 e3
    omega
  · have hpe : p = 8 * bs.length := by omega
    rw [hB, hpe, Nat.mul_mod_right, Nat.xor_zero] at hmod
    rw [hB, hpe, Nat.mul_div_cancel_left _ (Nat.two_pow_pos _)] at hdiv
    have e1 : d = bs := numL_inj _ _ hdl hmod
    rw [e1] at hdiv
    have e3 : B = 0 := by
      have := congrArg (fun x => numL (be4 (moreN 0 bs : Int)) ^^^ x) hdiv
      simp only [Nat.xor_self] at this
      rw [← Nat.xor_assoc, Nat.xor_self, Nat.zero_xor] at this
      exact this.symm
    omega
end Go.Proofs.Ytpceledeeplhlaa
