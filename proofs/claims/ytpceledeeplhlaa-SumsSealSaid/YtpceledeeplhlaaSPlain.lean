/-
  The remainder of CRC-32C over plain numbers: it is linear, and many bytes at once are one number. No condition.
-/
import Derived.Test.YtpceledeeplhlaaRows
import Derived.Laws.BitsAllLaws
namespace Go.Proofs.Ytpceledeeplhlaa

/-- One shift of a remainder. -/
def step1 (r : Nat) : Nat := if r % 2 = 1 then (r / 2) ^^^ 2197175160 else r / 2
def stepsN : Nat → Nat → Nat
  | 0, r => r
  | k + 1, r => stepsN k (step1 r)
def sh8 (r : Nat) : Nat := stepsN 8 r
def crcN (r : Nat) (bs : List UInt8) : Nat := bs.foldl (fun r x => sh8 (r ^^^ x.toNat)) r
/-- What More answers. -/
def moreN (s : Nat) (bs : List UInt8) : Nat := 4294967295 - crcN (4294967295 - s) bs

theorem xor_half (a b : Nat) : (a ^^^ b) / 2 = a / 2 ^^^ b / 2 := by
  have := Nat.shiftRight_xor_distrib (a := a) (b := b) (i := 1)
  simpa [Nat.shiftRight_eq_div_pow] using this
theorem xor_par (a b : Nat) : (a ^^^ b) % 2 = (a + b) % 2 := by
  have h0 := Nat.testBit_xor a b 0
  simp only [Nat.testBit_zero] at h0
  have ha : a % 2 = 0 ∨ a % 2 = 1 := by omega
  have hb : b % 2 = 0 ∨ b % 2 = 1 := by omega
  have hx : (a ^^^ b) % 2 = 0 ∨ (a ^^^ b) % 2 = 1 := by omega
  rcases ha with ha | ha <;> rcases hb with hb | hb <;> rcases hx with hx | hx <;> simp [ha, hb, hx] at h0 <;> omega
theorem step1_xor (a b : Nat) : step1 (a ^^^ b) = step1 a ^^^ step1 b := by
  unfold step1
  rw [xor_par, xor_half]
  have ha : a % 2 = 0 ∨ a % 2 = 1 := by omega
  have hb : b % 2 = 0 ∨ b % 2 = 1 := by omega
  generalize 2197175160 = p
  rcases ha with ha | ha <;> rcases hb with hb | hb
  · rw [if_neg (by omega), if_neg (by omega), if_neg (by omega)]
  · rw [if_pos (by omega), if_neg (by omega), if_pos (by omega), Nat.xor_assoc]
  · rw [if_pos (by omega), if_pos (by omega), if_neg (by omega), Nat.xor_assoc, Nat.xor_comm (b / 2) p, ← Nat.xor_assoc]
  · rw [if_neg (by omega), if_pos (by omega), if_pos (by omega), Nat.xor_assoc, Nat.xor_comm p, Nat.xor_assoc, Nat.xor_self, Nat.xor_zero]
theorem stepsN_xor (k : Nat) : ∀ a b, stepsN k (a ^^^ b) = stepsN k a ^^^ stepsN k b := by
  induction k with
  | zero => intro a b; rfl
  | succ k ih => intro a b; show stepsN k (step1 _) = _; rw [step1_xor, ih]; rfl
theorem step1_double (k : Nat) : step1 (2 * k) = k := by
  unfold step1
  rw [if_neg (by omega)]; omega
theorem stepsN_shift (j : Nat) : ∀ k, stepsN j (2 ^ j * k) = k := by
  induction j with
  | zero => intro k; simp [stepsN]
  | succ j ih => intro k; show stepsN j (step1 _) = _; rw [show 2 ^ (j + 1) * k = 2 * (2 ^ j * k) by rw [Nat.pow_succ, Nat.mul_comm (2 ^ j) 2, Nat.mul_assoc], step1_double, ih]
theorem stepsN_add (i j : Nat) : ∀ r, stepsN (i + j) r = stepsN j (stepsN i r) := by
  induction i with
  | zero => intro r; rw [Nat.zero_add]; rfl
  | succ i ih => intro r; rw [show i + 1 + j = (i + j) + 1 by omega]; show stepsN (i + j) (step1 r) = _; rw [ih]; rfl
theorem step1_lt (r : Nat) (h : r < 4294967296) : step1 r < 4294967296 := by
  unfold step1
  split
  · exact Nat.xor_lt_two_pow (n := 32) (by omega) (by omega)
  · omega
theorem stepsN_lt (k : Nat) : ∀ r, r < 4294967296 → stepsN k r < 4294967296 := by
  induction k with
  | zero => intro r h; exact h
  | succ k ih => intro r h; exact ih _ (step1_lt r h)
theorem sh8_lt (r : Nat) (h : r < 4294967296) : sh8 r < 4294967296 := stepsN_lt 8 r h
theorem step1_zero (r : Nat) (h : r < 4294967296) (h0 : step1 r = 0) : r = 0 := by
  unfold step1 at h0
  split at h0
  · have e : r / 2 = 2197175160 := by
      have h1 : (r / 2 ^^^ 2197175160) ^^^ 2197175160 = 0 ^^^ 2197175160 := by rw [h0]
      rw [Nat.xor_assoc, Nat.xor_self, Nat.xor_zero, Nat.zero_xor] at h1
      exact h1
    omega
  · omega
theorem stepsN_zero (k : Nat) : ∀ r, r < 4294967296 → stepsN k r = 0 → r = 0 := by
  induction k with
  | zero => intro r _ h; exact h
  | succ k ih => intro r h h0; exact step1_zero r h (ih _ (step1_lt r h) h0)
theorem byte_lt (x : UInt8) : x.toNat < 256 := x.toNat_lt
theorem xor32 (a b : Nat) (ha : a < 4294967296) (hb : b < 4294967296) : a ^^^ b < 4294967296 := Nat.xor_lt_two_pow (n := 32) ha hb
theorem crcN_lt (bs : List UInt8) : ∀ r, r < 4294967296 → crcN r bs < 4294967296 := by
  induction bs with
  | nil => intro r h; exact h
  | cons x bs ih => intro r h; exact ih _ (sh8_lt _ (xor32 _ _ h (by have := byte_lt x; omega)))
theorem moreN_lt (s : Nat) (bs : List UInt8) : moreN s bs < 4294967296 := by unfold moreN; omega
theorem crcN_append (a b : List UInt8) (r : Nat) : crcN r (a ++ b) = crcN (crcN r a) b := by simp [crcN, List.foldl_append]
theorem moreN_append (a b : List UInt8) (s : Nat) (hs : s < 4294967296) : moreN s (a ++ b) = moreN (moreN s a) b := by
  unfold moreN
  rw [crcN_append]
  have := crcN_lt a (4294967295 - s) (by omega)
  rw [show 4294967295 - (4294967295 - crcN (4294967295 - s) a) = crcN (4294967295 - s) a by omega]
theorem crcN_snoc (l : List UInt8) (i : Nat) (x : UInt8) (r : Nat) (h : l[i]? = some x) : crcN r (l.take (i + 1)) = sh8 (crcN r (l.take i) ^^^ x.toNat) := by
  rw [List.take_add_one, h, crcN_append]; rfl

/-- Lowest first. -/
def numL : List UInt8 → Nat
  | [] => 0
  | x :: r => x.toNat ^^^ 256 * numL r
theorem mul_xor (k a b : Nat) : 2 ^ k * (a ^^^ b) = 2 ^ k * a ^^^ 2 ^ k * b := by
  have := Nat.shiftLeft_xor_distrib (a := a) (b := b) (i := k)
  simpa [Nat.shiftLeft_eq, Nat.mul_comm] using this
theorem xor_low (x y : Nat) (h : x < 256) : x ^^^ 256 * y = x + 256 * y := by
  have h1 := Nat.two_pow_add_eq_or_of_lt (i := 8) (b := x) h y
  have h2 : (256 * y) ||| x = (256 * y) ^^^ x := by
    apply Nat.eq_of_testBit_eq
    intro i
    rw [Nat.testBit_or, Nat.testBit_xor]
    by_cases hi : i < 8
    · have : (256 * y).testBit i = false := by
        rw [show 256 * y = 2 ^ 8 * y by rfl, Nat.testBit_two_pow_mul]; simp; omega
      simp [this]
    · have : x.testBit i = false := Nat.testBit_lt_two_pow (Nat.lt_of_lt_of_le h (by calc 256 = 2 ^ 8 := rfl
          _ ≤ 2 ^ i := Nat.pow_le_pow_right (by decide) (by omega)))
      simp [this]
  rw [Nat.xor_comm, ← h2]
  rw [show (256 : Nat) = 2 ^ 8 by rfl, ← h1]; omega
theorem numL_cons (x : UInt8) (r : List UInt8) : numL (x :: r) = x.toNat + 256 * numL r := xor_low _ _ (byte_lt x)
/-- All bytes at once. -/
theorem crcN_num (bs : List UInt8) : ∀ r, crcN r bs = stepsN (8 * bs.length) (r ^^^ numL bs) := by
  induction bs with
  | nil => intro r; simp [crcN, numL, stepsN]
  | cons x bs ih =>
    intro r
    show crcN (sh8 (r ^^^ x.toNat)) bs = _
    rw [ih, show 8 * (x :: bs).length = 8 + 8 * bs.length by simp; omega, stepsN_add]
    congr 1
    show stepsN 8 _ ^^^ _ = stepsN 8 (r ^^^ (x.toNat ^^^ 256 * numL bs))
    rw [← Nat.xor_assoc, stepsN_xor 8 (r ^^^ x.toNat), show 256 * numL bs = 2 ^ 8 * numL bs by rfl, stepsN_shift]
/-- By the table. -/
theorem sh8_table (r : Nat) (x : UInt8) : sh8 (r ^^^ x.toNat) = sh8 (r % 256 ^^^ x.toNat) ^^^ r / 256 := by
  have e : r = r % 256 ^^^ 256 * (r / 256) := by rw [xor_low _ _ (Nat.mod_lt _ (by decide))]; omega
  have e2 : r ^^^ x.toNat = (r % 256 ^^^ x.toNat) ^^^ 256 * (r / 256) := by
    conv => lhs; rw [e]
    rw [Nat.xor_assoc, Nat.xor_comm (256 * (r / 256)), ← Nat.xor_assoc]
  rw [e2]
  show stepsN 8 _ = stepsN 8 _ ^^^ _
  rw [stepsN_xor, show 256 * (r / 256) = 2 ^ 8 * (r / 256) by rfl, stepsN_shift]
end Go.Proofs.Ytpceledeeplhlaa
