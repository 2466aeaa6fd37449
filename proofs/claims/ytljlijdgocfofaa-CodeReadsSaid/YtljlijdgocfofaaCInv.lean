/-
  What is read of bytes and put again are the same bytes: plain lists. No condition.
-/
import Derived.Test.YtljlijdgocfofaaCVal
import Derived.Test.YtljlijdgocfofaaCStepsR
import Derived.Test.YtljlijdgocfofaaCPutNode
namespace Go.Proofs.Ytljlijdgocfofaa
open Go.RowKit
open Extern.Stop (cell)

theorem byte_back (b : UInt8) (n : Int) (s : Nat) (h : n / (2 ^ s : Nat) % 256 = (b.toNat : Int)) : numByte n s = b := by
  apply UInt8.toNat_inj.1
  have := numByte_val n s
  omega
theorem wrap_byte (v : Int) (q s : Nat) (h : q ≤ 7) (hs : s = 8 * q) : IntKind.i64.wrap v / ((2 ^ s : Nat) : Int) % 256 = v / ((2 ^ s : Nat) : Int) % 256 := by
  subst hs
  rw [IntKind.wrap_i64]
  have hq : q = 0 ∨ q = 1 ∨ q = 2 ∨ q = 3 ∨ q = 4 ∨ q = 5 ∨ q = 6 ∨ q = 7 := by omega
  rcases hq with rfl | rfl | rfl | rfl | rfl | rfl | rfl | rfl <;> first | (simp; done) | (simp; omega) | omega
theorem down (v x y b : Nat) (s s' : Nat) (hs : s' = s + 8) (hx : (v : Int) / ((2 ^ s : Nat) : Int) = (x : Int)) (hy : x = y * 256 + b) (hb : b < 256) : (v : Int) / ((2 ^ s : Nat) : Int) % 256 = (b : Int) ∧ (v : Int) / ((2 ^ s' : Nat) : Int) = (y : Int) := by
  subst hs
  refine ⟨by rw [hx]; omega, ?_⟩
  have e : ((2 ^ (s + 8) : Nat) : Int) = ((2 ^ s : Nat) : Int) * 256 := by rw [Nat.pow_add]; rfl
  rw [e, ← Int.ediv_ediv_of_nonneg (Int.natCast_nonneg _), hx]
  omega
theorem small256 (b : Nat) (h : b < 256) : (b : Int) % 256 = (b : Int) := by omega
theorem num8_numOf (l : List UInt8) (h : l.length = 8) : num8 (numOf l) = l := by
  match l, h with
  | [b7, b6, b5, b4, b3, b2, b1, b0], _ =>
    have hv := numOf_val [b7, b6, b5, b4, b3, b2, b1, b0] (by simp)
    rw [hv]
    obtain ⟨v, hvv⟩ : ∃ v, v = valN [b7, b6, b5, b4, b3, b2, b1, b0] := ⟨_, rfl⟩
    rw [← hvv]
    have e0 : v = (((((((b7.toNat * 256 + b6.toNat) * 256 + b5.toNat) * 256 + b4.toNat) * 256 + b3.toNat) * 256 + b2.toNat) * 256 + b1.toNat) * 256 + b0.toNat) := by rw [hvv]; simp [valN]
    obtain ⟨r0, d1⟩ := down v v _ b0.toNat 0 8 rfl (by simp) e0 b0.toNat_lt
    obtain ⟨r1, d2⟩ := down v _ _ b1.toNat 8 16 rfl d1 rfl b1.toNat_lt
    obtain ⟨r2, d3⟩ := down v _ _ b2.toNat 16 24 rfl d2 rfl b2.toNat_lt
    obtain ⟨r3, d4⟩ := down v _ _ b3.toNat 24 32 rfl d3 rfl b3.toNat_lt
    obtain ⟨r4, d5⟩ := down v _ _ b4.toNat 32 40 rfl d4 rfl b4.toNat_lt
    obtain ⟨r5, d6⟩ := down v _ _ b5.toNat 40 48 rfl d5 rfl b5.toNat_lt
    obtain ⟨r6, d7⟩ := down v _ _ b6.toNat 48 56 rfl d6 rfl b6.toNat_lt
    have r7 : (v : Int) / ((2 ^ 56 : Nat) : Int) % 256 = (b7.toNat : Int) := by
      rw [d7]; exact small256 _ b7.toNat_lt
    have s7 := byte_back b7 _ 56 ((wrap_byte v 7 56 (by decide) rfl).trans r7)
    have s6 := byte_back b6 _ 48 ((wrap_byte v 6 48 (by decide) rfl).trans r6)
    have s5 := byte_back b5 _ 40 ((wrap_byte v 5 40 (by decide) rfl).trans r5)
    have s4 := byte_back b4 _ 32 ((wrap_byte v 4 32 (by decide) rfl).trans r4)
    have s3 := byte_back b3 _ 24 ((wrap_byte v 3 24 (by decide) rfl).trans r3)
    have s2 := byte_back b2 _ 16 ((wrap_byte v 2 16 (by decide) rfl).trans r2)
    have s1 := byte_back b1 _ 8 ((wrap_byte v 1 8 (by decide) rfl).trans r1)
    have s0 := byte_back b0 _ 0 ((wrap_byte v 0 0 (by decide) rfl).trans r0)
    clear r0 r1 r2 r3 r4 r5 r6 r7 d1 d2 d3 d4 d5 d6 d7 e0 hv hvv
    unfold num8
    rw [s7, s6, s5, s4, s3, s2, s1, s0]
/-- From place p on stand these bytes, up to place q. -/
def Stand (d : List UInt8) (p q : Nat) (bs : List UInt8) : Prop := d.drop p = bs ++ d.drop q ∧ p ≤ q ∧ q ≤ d.length
theorem Stand.trans {d : List UInt8} {p q r : Nat} {a b : List UInt8} (h : Stand d p q a) (k : Stand d q r b) : Stand d p r (a ++ b) := ⟨by rw [h.1, k.1, List.append_assoc], Nat.le_trans h.2.1 k.2.1, k.2.2⟩
theorem pNum_inv {d : List UInt8} {p : Nat} {n : Int} {q : Nat} (h : pNum d p = .ok (n, q)) : Stand d p q (num8 n) := by
  obtain ⟨h1, h2⟩ := pNum_ok h
  unfold pNum at h
  rw [if_pos h1] at h
  cases h
  rw [num8_numOf _ (by simp; omega)]
  refine ⟨?_, by omega, h1⟩
  rw [← List.drop_drop, List.take_append_drop]
theorem pCount_num {d : List UInt8} {size most : Int} {p n q : Nat} (h : pCount d size most p = .ok (n, q)) : pNum d p = .ok ((n : Int), q) := by
  unfold pCount at h
  cases hp : pNum d p with
  | error e => rw [hp] at h; cases h
  | ok x =>
    obtain ⟨m, q'⟩ := x
    rw [hp] at h
    simp only at h
    split at h
    · cases h
    · rename_i hc
      cases h
      rw [Int.toNat_of_nonneg (by omega)]
theorem pSmall_inv {d : List UInt8} {p : Nat} {n : Int} {q : Nat} (h : pSmall d p = .ok (n, q)) : Stand d p q [opByte n] := by
  unfold pSmall at h
  split at h
  · rename_i u hu
    cases h
    have hl := (List.getElem?_eq_some_iff.1 hu)
    obtain ⟨hl1, hl2⟩ := hl
    have e : opByte (byteI8 u) = u := by
      apply UInt8.toNat_inj.1
      have hu := u.toNat_lt
      have hv : ((byteI8 u) % 256).toNat = u.toNat := by
        unfold byteI8
        simp only [IntKind.wrap, IntKind.signed, IntKind.bits]
        simp
        omega
      unfold opByte
      rw [UInt8.toNat_ofNat', hv]
      omega
    rw [e, ← hl2]
    exact ⟨List.drop_eq_getElem_cons hl1, by omega, hl1⟩
  · cases h
theorem pText_inv {d : List UInt8} {p : Nat} {t : ByteArray} {q : Nat} (h : pText d p = .ok (t, q)) : Stand d p q (num8 (t.size : Int) ++ t.data.toList) := by
  unfold pText at h
  cases hp : pCount d 1 9223372036854775807 p with
  | error e => rw [hp] at h; cases h
  | ok x =>
    obtain ⟨n, q'⟩ := x
    rw [hp] at h
    cases h
    obtain ⟨h1, h2, _, h3⟩ := pCount_ok hp
    have hs : (⟨((d.drop q').take n).toArray⟩ : ByteArray).size = n := by
      show ((d.drop q').take n).toArray.size = n
      simp; omega
    rw [hs]
    refine (pNum_inv (pCount_num hp)).trans ⟨?_, by omega, by omega⟩
    show d.drop q' = (d.drop q').take n ++ d.drop (q' + n)
    rw [← List.drop_drop, List.take_append_drop]
theorem encF_of : ∀ l : List Tr, encF (foOf l) = l.flatMap encT
  | [] => rfl
  | t :: l => by
    simp only [foOf, encF, List.flatMap_cons, encT, encF_of l, List.append_assoc]
theorem pList_inv {α : Type} {one : Nat → Nat → Got (α × Nat)} {d : List UInt8} (enc : α → List UInt8) (h1 : ∀ m p x m' q, one m p = .ok ((x, m'), q) → Stand d p q (enc x)) : ∀ (n m p : Nat) (l : List α) (m' q : Nat), p ≤ d.length → pList one n m p = .ok ((l, m'), q) → Stand d p q (l.flatMap enc) ∧ l.length = n
  | 0, m, p, l, m', q, hp, h => by
    simp only [pList] at h
    cases h
    exact ⟨⟨by simp, Nat.le_refl _, hp⟩, rfl⟩
  | n + 1, m, p, l, m', q, hp, h => by
    simp only [pList] at h
    cases hl : pList one n m p with
    | error e => rw [hl] at h; cases h
    | ok x =>
      obtain ⟨⟨l1, m1⟩, q1⟩ := x
      rw [hl] at h
      simp only at h
      cases hq : one m1 q1 with
      | error e => rw [hq] at h; cases h
      | ok y =>
        obtain ⟨⟨x, m2⟩, q2⟩ := y
        rw [hq] at h
        cases h
        have ih := pList_inv enc h1 n m p l1 m1 q1 hp hl
        exact ⟨by rw [List.flatMap_append]; simpa using ih.1.trans (h1 _ _ _ _ _ hq), by simp [ih.2]⟩
theorem pNode_inv (d : List UInt8) : ∀ (f depth m p : Nat) (t : Tr) (m' q : Nat), pNode d f depth m p = .ok ((t, m'), q) → Stand d p q (encT t)
  | 0, _, _, _, _, _, _, h => by simp [pNode] at h
  | f + 1, depth, m, p, t, m', q, h => by
    unfold pNode at h
    split at h
    · cases h
    · split at h
      · cases h
      · rename_i h1
        split at h
        · cases h
        · rename_i h2
          split at h
          · cases h
          · rename_i h3
            split at h
            · cases h
            · rename_i h4
              split at h
              · cases h
              · rename_i h5
                cases h
                have s4 := pNum_inv (pCount_num h4)
                have s5 := pList_inv encT (fun m p x m' q hh => pNode_inv d f (depth + 1) m p x m' q hh) _ _ _ _ _ _ s4.2.2 h5
                have s := ((((pNum_inv h1).trans (pNum_inv h2)).trans (pText_inv h3)).trans s4).trans s5.1
                simp only [encT, encK, encF_of, foLen_of, s5.2]
                simpa [List.append_assoc] using s
theorem pTree_inv {d : List UInt8} {p : Nat} {t : Tr} {q : Nat} (h : pTree d p = .ok (t, q)) : Stand d p q (encT t) := by
  unfold pTree at h
  split at h
  · cases h
  · rename_i h1
    cases h
    exact pNode_inv d _ _ _ _ _ _ _ h1
theorem pStep_inv {d : List UInt8} {p : Nat} {x : Stp} {q : Nat} (h : pStep d p = .ok (x, q)) : Stand d p q (encS x) := by
  unfold pStep at h
  split at h
  · cases h
  · rename_i h1
    split at h
    · cases h
    · rename_i h2
      split at h
      · cases h
      · rename_i h3
        split at h
        · cases h
        · rename_i h4
          split at h
          · cases h
          · rename_i h5
            split at h
            · cases h
            · rename_i h6
              cases h
              exact (((((pSmall_inv h1).trans (pNum_inv h2)).trans (pNum_inv h3)).trans (pNum_inv h4)).trans (pText_inv h5)).trans (pTree_inv h6)
/-- What is read of bytes, all of them, and put again are the same bytes. -/
theorem pSteps_inv {d : List UInt8} {p : Nat} {l : List Stp} {q : Nat} (h : pSteps d p = .ok (l, q)) : Stand d p q (num8 (l.length : Int) ++ encL l) := by
  unfold pSteps at h
  split at h
  · cases h
  · rename_i n q1 h1
    have s1 := pNum_inv (pCount_num h1)
    unfold oneErr at h
    split at h
    · cases h
    · rename_i h2
      cases h
      have s2 := pList_inv encS (fun m p x m' q hh => by
        unfold oneS at hh
        split at hh
        · cases hh
        · rename_i h3
          cases hh
          exact pStep_inv h3) _ _ _ _ _ _ s1.2.2 h2
      rw [s2.2]
      exact s1.trans s2.1
end Go.Proofs.Ytljlijdgocfofaa
