/-
  Eight bytes as a number, and back: plain arithmetic. No condition.
  A reader of layer 3 reads steps, one behind the other. No condition.
  What is read of bytes and put again are the same bytes: plain lists. No condition.
-/
import Derived.Test.YteccnekdmehloaaDoorCRead
import Derived.Test.YteccnekdmehloaaDoorCPut
import Derived.Laws.Bits64b
import Derived.Test.YteccnekdmehloaaDoorCNodeW
import Derived.Deep.MidRow
import Derived.Laws.Rows
import Derived.Test.YteccnekdmehloaaDoorCPutNode
namespace Go.Proofs.YteccnekdmehloaaDoor
open Go.RowKit
open Extern.Stop (cell)

/-- Bytes as a number, the highest first. -/
def valN (l : List UInt8) : Nat := l.foldl (fun x u => x * 256 + u.toNat) 0
theorem valN_acc : ∀ (l : List UInt8) (x : Nat), l.foldl (fun x u => x * 256 + u.toNat) x < (x + 1) * 256 ^ l.length
  | [], x => by simp
  | u :: l, x => by
    have h := valN_acc l (x * 256 + u.toNat)
    have hu : u.toNat < 256 := u.toNat_lt
    simp only [List.foldl_cons, List.length_cons]
    refine Nat.lt_of_lt_of_le h ?_
    rw [Nat.pow_succ, Nat.mul_comm (256 ^ l.length) 256, ← Nat.mul_assoc]
    exact Nat.mul_le_mul_right _ (by omega)
theorem valN_lt (l : List UInt8) (k : Nat) (h : l.length ≤ k) : valN l < 256 ^ k := by
  have h1 := valN_acc l 0
  have h2 : 256 ^ l.length ≤ 256 ^ k := Nat.pow_le_pow_right (by omega) h
  unfold valN
  omega
theorem valN_snoc (l : List UInt8) (u : UInt8) : valN (l ++ [u]) = valN l * 256 + u.toNat := by simp [valN, List.foldl_append]
theorem i64_mod (y : Int) : (BitVec.ofInt 64 (wrap64 y)).toNat = (y % 18446744073709551616).toNat := by
  rw [BitVec.toNat_ofInt]
  unfold wrap64
  congr 1
  omega
theorem or_byte (x : Nat) (u : UInt8) : x * 256 ||| u.toNat = x * 256 + u.toNat := by
  have h := Nat.shiftLeft_add_eq_or_of_lt (i := 8) (b := u.toNat) u.toNat_lt x
  rw [Nat.shiftLeft_eq] at h
  exact h.symm
theorem numStep_val (x : Nat) (u : UInt8) (hx : x < 72057594037927936) : numStep (IntKind.i64.wrap (x : Int)) u = IntKind.i64.wrap ((x * 256 + u.toNat : Nat) : Int) := by
  have hu : u.toNat < 256 := u.toNat_lt
  show IntKind.i64.wrap ((BitVec.ofInt 64 (wrap64 (IntKind.i64.wrap (x : Int) * 256)) ||| BitVec.ofInt 64 (wrap64 (u.toNat : Int))).toNat : Int) = _
  rw [BitVec.toNat_or, i64_mod, i64_mod]
  have e1 : (IntKind.i64.wrap (x : Int) * 256 % 18446744073709551616).toNat = x * 256 := by rw [IntKind.wrap_i64]; omega
  have e2 : ((u.toNat : Int) % 18446744073709551616).toNat = u.toNat := by omega
  rw [e1, e2, or_byte]
theorem numOf_val (l : List UInt8) (hl : l.length ≤ 8) : numOf l = IntKind.i64.wrap (valN l : Int) := by
  have key : ∀ k, k ≤ l.length → numOf (l.take k) = IntKind.i64.wrap (valN (l.take k) : Int) := by
    intro k
    induction k with
    | zero => intro _; simp [numOf, valN, IntKind.wrap_i64]
    | succ k ih =>
      intro hk
      obtain ⟨u, hu⟩ : ∃ u, l[k]? = some u := ⟨l[k]'(by omega), List.getElem?_eq_getElem _⟩
      have hlt : valN (l.take k) < 256 ^ 7 := valN_lt _ 7 (by simp; omega)
      rw [numOf_take l k u hu, ih (by omega), numStep_val _ u (by have e : (256 : Nat) ^ 7 = 72057594037927936 := by decide
                                                                  omega), List.take_add_one, hu]
      simp only [Option.toList_some, valN_snoc]
  have := key l.length (Nat.le_refl _)
  rwa [List.take_length] at this
theorem numByte_val (n : Int) (s : Nat) : ((numByte n s).toNat : Int) = n / (2 ^ s : Nat) % 256 := by
  have h0 : 0 ≤ n / (2 ^ s : Nat) % 256 := Int.emod_nonneg _ (by decide)
  have h1 : n / (2 ^ s : Nat) % 256 < 256 := Int.emod_lt_of_pos _ (by decide)
  unfold numByte
  rw [UInt8.toNat_ofNat']
  omega
theorem valN_num8 (n : Int) : (valN (num8 n) : Int) = n % 18446744073709551616 := by
  have e : (valN (num8 n) : Int) = (((((((((numByte n 56).toNat : Int) * 256 + (numByte n 48).toNat) * 256 + (numByte n 40).toNat) * 256 + (numByte n 32).toNat) * 256 + (numByte n 24).toNat) * 256 + (numByte n 16).toNat) * 256 + (numByte n 8).toNat) * 256 + (numByte n 0).toNat) := by
    simp [valN, num8]
  rw [e]
  simp only [numByte_val]
  have d1 : n / ((2 ^ 8 : Nat) : Int) / 256 = n / ((2 ^ 16 : Nat) : Int) := by rw [Int.ediv_ediv_of_nonneg (by decide)]; rfl
  have d2 : n / ((2 ^ 16 : Nat) : Int) / 256 = n / ((2 ^ 24 : Nat) : Int) := by rw [Int.ediv_ediv_of_nonneg (by decide)]; rfl
  have d3 : n / ((2 ^ 24 : Nat) : Int) / 256 = n / ((2 ^ 32 : Nat) : Int) := by rw [Int.ediv_ediv_of_nonneg (by decide)]; rfl
  have d4 : n / ((2 ^ 32 : Nat) : Int) / 256 = n / ((2 ^ 40 : Nat) : Int) := by rw [Int.ediv_ediv_of_nonneg (by decide)]; rfl
  have d5 : n / ((2 ^ 40 : Nat) : Int) / 256 = n / ((2 ^ 48 : Nat) : Int) := by rw [Int.ediv_ediv_of_nonneg (by decide)]; rfl
  have d6 : n / ((2 ^ 48 : Nat) : Int) / 256 = n / ((2 ^ 56 : Nat) : Int) := by rw [Int.ediv_ediv_of_nonneg (by decide)]; rfl
  have d0 : n / 256 = n / ((2 ^ 8 : Nat) : Int) := rfl
  have dz : n / ((2 ^ 0 : Nat) : Int) = n := by simp
  rw [dz]
  obtain ⟨a1, ha1⟩ : ∃ a, a = n / ((2 ^ 8 : Nat) : Int) := ⟨_, rfl⟩
  obtain ⟨a2, ha2⟩ : ∃ a, a = n / ((2 ^ 16 : Nat) : Int) := ⟨_, rfl⟩
  obtain ⟨a3, ha3⟩ : ∃ a, a = n / ((2 ^ 24 : Nat) : Int) := ⟨_, rfl⟩
  obtain ⟨a4, ha4⟩ : ∃ a, a = n / ((2 ^ 32 : Nat) : Int) := ⟨_, rfl⟩
  obtain ⟨a5, ha5⟩ : ∃ a, a = n / ((2 ^ 40 : Nat) : Int) := ⟨_, rfl⟩
  obtain ⟨a6, ha6⟩ : ∃ a, a = n / ((2 ^ 48 : Nat) : Int) := ⟨_, rfl⟩
  obtain ⟨a7, ha7⟩ : ∃ a, a = n / ((2 ^ 56 : Nat) : Int) := ⟨_, rfl⟩
  rw [← ha1] at d0 d1
  rw [← ha2] at d1 d2
  rw [← ha3] at d2 d3
  rw [← ha4] at d3 d4
  rw [← ha5] at d4 d5
  rw [← ha6] at d5 d6
  rw [← ha7] at d6
  rw [← ha1, ← ha2, ← ha3, ← ha4, ← ha5, ← ha6, ← ha7]
  clear ha1 ha2 ha3 ha4 ha5 ha6 ha7 e
  omega
/-- What was put is read as it was. -/
theorem numOf_num8 (n : Int) (h1 : -9223372036854775808 ≤ n) (h2 : n ≤ 9223372036854775807) : numOf (num8 n) = n := by
  rw [numOf_val _ (by rw [num8_length]; omega), valN_num8, IntKind.wrap_i64]
  omega
end Go.Proofs.YteccnekdmehloaaDoor
namespace Go.Proofs.YteccnekdmehloaaDoor
open Go.RowKit
open Extern.Stop (cell)

/-- The cells of a row of steps. -/
def StRow (w : World) (S : Nat → Prop) : List Stp → List Value → Prop
  | [], xs => xs = []
  | x :: l, xs => ∃ ka cap ys, xs = stepCells x ka cap ++ ys ∧ foLen x.sub.kids ≤ cap ∧ FoAt w S x.sub.kids ka ∧ StRow w S l ys
theorem StRow.kept {w w' : World} {S S' : Nat → Prop} (hS : ∀ k, S k → S' k ∧ w'.heap[k]? = w.heap[k]?) : ∀ {l : List Stp} {xs : List Value}, StRow w S l xs → StRow w' S' l xs
  | [], _, h => h
  | _ :: _, _, h => by
    obtain ⟨ka, cap, ys, e, hp, hl, hr⟩ := h
    exact ⟨ka, cap, ys, e, hp, hl.kept hS, hr.kept hS⟩
theorem StRow.snoc {w : World} {S : Nat → Prop} {x : Stp} {ka : Option Addr} (hl : FoAt w S x.sub.kids ka) (cap : Nat) (hp : foLen x.sub.kids ≤ cap) : ∀ {l : List Stp} {xs : List Value}, StRow w S l xs → StRow w S (l ++ [x]) (xs ++ stepCells x ka cap)
  | [], xs, h => by subst h; exact ⟨ka, cap, [], by simp, hp, hl, rfl⟩
  | _ :: _, xs, h => by
    obtain ⟨ka', cap', ys, e, hp', hl', hr⟩ := h
    exact ⟨ka', cap', _, by rw [e, List.append_assoc], hp', hl', StRow.snoc hl cap hp hr⟩
theorem StRow.lies {w : World} {S : Nat → Prop} {g : Nat} : ∀ {l : List Stp} {xs : List Value} (off : Nat), StRow w S l xs → (∀ j u, xs[j]? = some u → w.cell? ⟨g, off + j, none⟩ = some u) →
    ∀ k x, l[k]? = some x → ∃ ka cap, (∀ j u, (stepCells x ka cap)[j]? = some u → w.cell? ⟨g, off + k * 9 + j, none⟩ = some u) ∧ foLen x.sub.kids ≤ cap ∧ FoAt w S x.sub.kids ka
  | [], _, _, _, _, k, x, hx => by simp at hx
  | y :: l, xs, off, h, hc, k, x, hx => by
    obtain ⟨ka, cap, ys, e, hp, hl, hr⟩ := h
    subst e
    cases k with
    | zero =>
      simp only [List.getElem?_cons_zero, Option.some.injEq] at hx
      subst hx
      refine ⟨ka, cap, fun j u hj => ?_, hp, hl⟩
      rw [Nat.zero_mul, Nat.add_zero]
      exact hc j u (by rw [List.getElem?_append_left (List.getElem?_eq_some_iff.1 hj).1]; exact hj)
    | succ k =>
      have hlen : (stepCells y ka cap).length = 9 := rfl
      obtain ⟨ka', cap', h1, h2⟩ := StRow.lies (off + 9) hr (fun j u hj => by
        have := hc (j + 9) u (by rw [List.getElem?_append_right (by omega), hlen]; simpa using hj)
        rw [show off + 9 + j = off + (j + 9) by omega]; exact this) k x (by simpa using hx)
      refine ⟨ka', cap', fun j u hj => ?_, h2⟩
      rw [show off + (k + 1) * 9 + j = off + 9 + k * 9 + j by omega]
      exact h1 j u hj
theorem StRow.at {w : World} {S : Nat → Prop} {g : Nat} {l : List Stp} {xs : List Value} (h : StRow w S l xs) (hg : S g) (hc : ∀ j u, xs[j]? = some u → w.cell? ⟨g, j, none⟩ = some u) : StepsAt w S (some ⟨g, 0, none⟩) l := fun _ =>
  ⟨g, 0, rfl, hg, fun k x hx => by
    obtain ⟨ka, cap, h1, h2⟩ := StRow.lies 0 h (fun j u hj => by rw [Nat.zero_add]; exact hc j u hj) k x hx
    exact ⟨ka, cap, h1 0 _ rfl, h1 1 _ rfl, h1 2 _ rfl, h1 3 _ rfl, h1 4 _ rfl, h1 5 _ rfl, h1 6 _ rfl, h1 7 _ rfl, h1 8 _ rfl, h2⟩⟩

end Go.Proofs.YteccnekdmehloaaDoor
namespace Go.Proofs.YteccnekdmehloaaDoor
open Go.RowKit
open Extern.Stop (cell)

theorem byte_back (b : UInt8) (n : Int) (s : Nat) (h : n / (2 ^ s : Nat) % 256 = (b.toNat : Int)) : numByte n s = b := by
  apply UInt8.toNat_inj.1
  have := numByte_val n s
  omega
theorem wrap_byte (v : Int) (q s : Nat) (h : q ≤ 7) (hs : s = 8 * q) : IntKind.i64.wrap v / ((2 ^ s : Nat) : Int) % 256 = v / ((2 ^ s : Nat) : Int) % 256 := by
  subst hs
  rw [IntKind.wrap_i64]
  have hq : q = 0 ∨ q = 1 ∨ q = 2 ∨ q = 3 ∨ q = 4 ∨ q = 5 ∨ q = 6 ∨ q = 7 := by omega
  rcases hq with rfl | rfl | rfl | rfl | rfl | rfl | rfl | rfl <;> first | (simp; done) | (simp; omega) | omega
theorem down (v x y b : Nat) (s s' : Nat) (hs : s' = s + 8) (hx : (v : Int) / ((2 ^ s : Nat) : Int) = (x : Int)) (hy : x = y * 256 + b) (hb : b < 256) : (v : Int) / ((2 ^ s : Nat) : Int) % 256 = (b : Int) ∧ (v : Int) / ((2 ^ s' : Nat) : Int) = (y : Int) := by
  subst hs
  refine ⟨by rw [hx]; omega, ?_⟩
  have e : ((2 ^ (s + 8) : Nat) : Int) = ((2 ^ s : Nat) : Int) * 256 := by rw [Nat.pow_add]; rfl
  rw [e, ← Int.ediv_ediv_of_nonneg (Int.natCast_nonneg _), hx]
  omega
theorem small256 (b : Nat) (h : b < 256) : (b : Int) % 256 = (b : Int) := by omega
theorem num8_numOf (l : List UInt8) (h : l.length = 8) : num8 (numOf l) = l := by
  match l, h with
  | [b7, b6, b5, b4, b3, b2, b1, b0], _ =>
    have hv := numOf_val [b7, b6, b5, b4, b3, b2, b1, b0] (by simp)
    rw [hv]
    obtain ⟨v, hvv⟩ : ∃ v, v = valN [b7, b6, b5, b4, b3, b2, b1, b0] := ⟨_, rfl⟩
    rw [← hvv]
    have e0 : v = (((((((b7.toNat * 256 + b6.toNat) * 256 + b5.toNat) * 256 + b4.toNat) * 256 + b3.toNat) * 256 + b2.toNat) * 256 + b1.toNat) * 256 + b0.toNat) := by rw [hvv]; simp [valN]
    obtain ⟨r0, d1⟩ := down v v _ b0.toNat 0 8 rfl (by simp) e0 b0.toNat_lt
    obtain ⟨r1, d2⟩ := down v _ _ b1.toNat 8 16 rfl d1 rfl b1.toNat_lt
    obtain ⟨r2, d3⟩ := down v _ _ b2.toNat 16 24 rfl d2 rfl b2.toNat_lt
    obtain ⟨r3, d4⟩ := down v _ _ b3.toNat 24 32 rfl d3 rfl b3.toNat_lt
    obtain ⟨r4, d5⟩ := down v _ _ b4.toNat 32 40 rfl d4 rfl b4.toNat_lt
    obtain ⟨r5, d6⟩ := down v _ _ b5.toNat 40 48 rfl d5 rfl b5.toNat_lt
    obtain ⟨r6, d7⟩ := down v _ _ b6.toNat 48 56 rfl d6 rfl b6.toNat_lt
    have r7 : (v : Int) / ((2 ^ 56 : Nat) : Int) % 256 = (b7.toNat : Int) := by
      rw [d7]; exact small256 _ b7.toNat_lt
    have s7 := byte_back b7 _ 56 ((wrap_byte v 7 56 (by decide) rfl).trans r7)
    have s6 := byte_back b6 _ 48 ((wrap_byte v 6 48 (by decide) rfl).trans r6)
    have s5 := byte_back b5 _ 40 ((wrap_byte v 5 40 (by decide) rfl).trans r5)
    have s4 := byte_back b4 _ 32 ((wrap_byte v 4 32 (by decide) rfl).trans r4)
    have s3 := byte_back b3 _ 24 ((wrap_byte v 3 24 (by decide) rfl).trans r3)
    have s2 := byte_back b2 _ 16 ((wrap_byte v 2 16 (by decide) rfl).trans r2)
    have s1 := byte_back b1 _ 8 ((wrap_byte v 1 8 (by decide) rfl).trans r1)
    have s0 := byte_back b0 _ 0 ((wrap_byte v 0 0 (by decide) rfl).trans r0)
    clear r0 r1 r2 r3 r4 r5 r6 r7 d1 d2 d3 d4 d5 d6 d7 e0 hv hvv
    unfold num8
    rw [s7, s6, s5, s4, s3, s2, s1, s0]
/-- From place p on stand these bytes, up to place q. -/
def Stand (d : List UInt8) (p q : Nat) (bs : List UInt8) : Prop := d.drop p = bs ++ d.drop q ∧ p ≤ q ∧ q ≤ d.length
theorem Stand.trans {d : List UInt8} {p q r : Nat} {a b : List UInt8} (h : Stand d p q a) (k : Stand d q r b) : Stand d p r (a ++ b) := ⟨by rw [h.1, k.1, List.append_assoc], Nat.le_trans h.2.1 k.2.1, k.2.2⟩
theorem pNum_inv {d : List UInt8} {p : Nat} {n : Int} {q : Nat} (h : pNum d p = .ok (n, q)) : Stand d p q (num8 n) := by
  obtain ⟨h1, h2⟩ := pNum_ok h
  unfold pNum at h
  rw [if_pos h1] at h
  cases h
  rw [num8_numOf _ (by simp; omega)]
  refine ⟨?_, by omega, h1⟩
  rw [← List.drop_drop, List.take_append_drop]
theorem pCount_num {d : List UInt8} {size most : Int} {p n q : Nat} (h : pCount d size most p = .ok (n, q)) : pNum d p = .ok ((n : Int), q) := by
  unfold pCount at h
  cases hp : pNum d p with
  | error e => rw [hp] at h; cases h
  | ok x =>
    obtain ⟨m, q'⟩ := x
    rw [hp] at h
    simp only at h
    split at h
    · cases h
    · rename_i hc
      cases h
      rw [Int.toNat_of_nonneg (by omega)]
theorem pText_inv {d : List UInt8} {p : Nat} {t : ByteArray} {q : Nat} (h : pText d p = .ok (t, q)) : Stand d p q (num8 (t.size : Int) ++ t.data.toList) := by
  unfold pText at h
  cases hp : pCount d 1 9223372036854775807 p with
  | error e => rw [hp] at h; cases h
  | ok x =>
    obtain ⟨n, q'⟩ := x
    rw [hp] at h
    cases h
    obtain ⟨h1, h2, _, h3⟩ := pCount_ok hp
    have hs : (⟨((d.drop q').take n).toArray⟩ : ByteArray).size = n := by
      show ((d.drop q').take n).toArray.size = n
      simp; omega
    rw [hs]
    refine (pNum_inv (pCount_num hp)).trans ⟨?_, by omega, by omega⟩
    show d.drop q' = (d.drop q').take n ++ d.drop (q' + n)
    rw [← List.drop_drop, List.take_append_drop]
theorem encF_of : ∀ l : List Tr, encF (foOfC l) = l.flatMap encT
  | [] => rfl
  | t :: l => by
    simp only [foOfC, encF, List.flatMap_cons, encT, encF_of l, List.append_assoc]
theorem pList_inv {α : Type} {one : Nat → Nat → Got (α × Nat)} {d : List UInt8} (enc : α → List UInt8) (h1 : ∀ m p x m' q, one m p = .ok ((x, m'), q) → Stand d p q (enc x)) : ∀ (n m p : Nat) (l : List α) (m' q : Nat), p ≤ d.length → pList one n m p = .ok ((l, m'), q) → Stand d p q (l.flatMap enc) ∧ l.length = n
  | 0, m, p, l, m', q, hp, h => by
    simp only [pList] at h
    cases h
    exact ⟨⟨by simp, Nat.le_refl _, hp⟩, rfl⟩
  | n + 1, m, p, l, m', q, hp, h => by
    simp only [pList] at h
    cases hl : pList one n m p with
    | error e => rw [hl] at h; cases h
    | ok x =>
      obtain ⟨⟨l1, m1⟩, q1⟩ := x
      rw [hl] at h
      simp only at h
      cases hq : one m1 q1 with
      | error e => rw [hq] at h; cases h
      | ok y =>
        obtain ⟨⟨x, m2⟩, q2⟩ := y
        rw [hq] at h
        cases h
        have ih := pList_inv enc h1 n m p l1 m1 q1 hp hl
        exact ⟨by rw [List.flatMap_append]; simpa using ih.1.trans (h1 _ _ _ _ _ hq), by simp [ih.2]⟩
theorem pNode_inv (d : List UInt8) : ∀ (f depth m p : Nat) (t : Tr) (m' q : Nat), pNode d f depth m p = .ok ((t, m'), q) → Stand d p q (encT t)
  | 0, _, _, _, _, _, _, h => by simp [pNode] at h
  | f + 1, depth, m, p, t, m', q, h => by
    unfold pNode at h
    split at h
    · cases h
    · split at h
      · cases h
      · rename_i h1
        split at h
        · cases h
        · rename_i h2
          split at h
          · cases h
          · rename_i h3
            split at h
            · cases h
            · rename_i h4
              split at h
              · cases h
              · rename_i h5
                cases h
                have s4 := pNum_inv (pCount_num h4)
                have s5 := pList_inv encT (fun m p x m' q hh => pNode_inv d f (depth + 1) m p x m' q hh) _ _ _ _ _ _ s4.2.2 h5
                have s := ((((pNum_inv h1).trans (pNum_inv h2)).trans (pText_inv h3)).trans s4).trans s5.1
                simp only [encT, encK, encF_of, foLen_ofC, s5.2]
                simpa [List.append_assoc] using s
theorem pTree_inv {d : List UInt8} {p : Nat} {t : Tr} {q : Nat} (h : pTree d p = .ok (t, q)) : Stand d p q (encT t) := by
  unfold pTree at h
  split at h
  · cases h
  · rename_i h1
    cases h
    exact pNode_inv d _ _ _ _ _ _ _ h1
end Go.Proofs.YteccnekdmehloaaDoor
