/-
  What was put is read as it was: plain lists. No condition but that numbers are such.
-/
import Derived.Test.YtljlijdgocfofaaCInv
import Derived.Test.YtljlijdgocfofaaCWalk
namespace Go.Proofs.Ytljlijdgocfofaa
open Go.RowKit
open Extern.Stop (cell)

def inI64 (n : Int) : Prop := -9223372036854775808 ≤ n ∧ n ≤ 9223372036854775807
def foIn : Fo → Prop
  | .nil => True
  | .node _ _ k l r => (inI64 k.1 ∧ inI64 k.2.1 ∧ k.2.2.size ≤ 9223372036854775807 ∧ foLen l ≤ 9223372036854775807) ∧ foIn l ∧ foIn r
def Tr.in64 (t : Tr) : Prop := (inI64 t.id ∧ inI64 t.kind ∧ t.text.size ≤ 9223372036854775807 ∧ foLen t.kids ≤ 9223372036854775807) ∧ foIn t.kids
/-- The same trees, wherever they lay. -/
def nF : Fo → Fo
  | .nil => .nil
  | .node _ _ k l r => .node 0 0 k (nF l) (nF r)
def nT (t : Tr) : Tr := ⟨t.id, t.kind, t.text, nF t.kids⟩
def foTrs : Fo → List Tr
  | .nil => []
  | .node _ _ k l r => ⟨k.1, k.2.1, k.2.2, l⟩ :: foTrs r
theorem foTrs_len : ∀ f : Fo, (foTrs f).length = foLen f
  | .nil => rfl
  | .node _ _ _ _ r => by simp [foTrs, foLen, foTrs_len r]
theorem foTrs_enc : ∀ f : Fo, (foTrs f).flatMap encT = encF f
  | .nil => rfl
  | .node _ _ k l r => by simp [foTrs, encF, encT, foTrs_enc r, List.append_assoc]
theorem foTrs_n : ∀ f : Fo, foOf ((foTrs f).map nT) = nF f
  | .nil => rfl
  | .node _ _ k l r => by simp [foTrs, nF, nT, foOf, foTrs_n r]
def szL (l : List Tr) : Nat := (l.map (fun t => foSize t.kids + 1)).sum
theorem foTrs_sz : ∀ f : Fo, szL (foTrs f) = foSize f
  | .nil => rfl
  | .node _ _ k l r => by
    have h := foTrs_sz r
    simp only [szL] at h
    simp only [foTrs, szL, List.map_cons, List.sum_cons, h, foSize]; omega
theorem foTrs_in : ∀ f : Fo, foIn f → ∀ t ∈ foTrs f, t.in64
  | .nil, _, t, ht => by simp [foTrs] at ht
  | .node _ _ k l r, h, t, ht => by
    simp only [foTrs, List.mem_cons] at ht
    rcases ht with rfl | ht
    · exact ⟨h.1, h.2.1⟩
    · exact foTrs_in r h.2.2 t ht
def okD (d : Int) (t : Tr) : Prop := ∀ x ∈ spT d t, x.2 ≤ 40
theorem foTrs_ok (d : Int) : ∀ f : Fo, (∀ x ∈ spF d f, x.2 ≤ 40) ↔ ∀ t ∈ foTrs f, okD d t
  | .nil => by simp [spF, foTrs]
  | .node b o k l r => by
    have ih := foTrs_ok d r
    have e : spF d (.node b o k l r) = spT d ⟨k.1, k.2.1, k.2.2, l⟩ ++ spF d r := by simp [spF, spT]
    have e2 : foTrs (.node b o k l r) = ⟨k.1, k.2.1, k.2.2, l⟩ :: foTrs r := rfl
    constructor
    · intro h t ht
      rw [e2] at ht
      rcases List.mem_cons.1 ht with rfl | ht
      · intro x hx; exact h x (by rw [e]; exact List.mem_append_left _ hx)
      · exact ih.1 (fun x hx => h x (by rw [e]; exact List.mem_append_right _ hx)) t ht
    · intro h x hx
      rw [e] at hx
      rcases List.mem_append.1 hx with hx | hx
      · exact h _ (by rw [e2]; exact List.mem_cons_self ..) x hx
      · exact ih.2 (fun t ht => h t (by rw [e2]; exact List.mem_cons_of_mem _ ht)) x hx

theorem pNum_fwd {d : List UInt8} {p : Nat} {n : Int} {rest : List UInt8} (h : d.drop p = num8 n ++ rest) (hn : inI64 n) : pNum d p = .ok (n, p + 8) ∧ d.drop (p + 8) = rest ∧ p + 8 ≤ d.length := by
  have hl := congrArg List.length h
  simp only [List.length_drop, List.length_append, num8_length] at hl
  have h8 : p + 8 ≤ d.length := by omega
  refine ⟨?_, ?_, h8⟩
  · unfold pNum
    rw [if_pos h8, h, List.take_left' (num8_length n), numOf_num8 n hn.1 hn.2]
  · rw [← List.drop_drop, h, List.drop_left' (num8_length n)]
theorem pCount_fwd {d : List UInt8} {p n : Nat} {size most : Int} {rest : List UInt8} (h : d.drop p = num8 (n : Int) ++ rest) (hn : inI64 (n : Int)) (hs : 1 ≤ size) (hm : (n : Int) ≤ most) (hr : (n : Int) * size ≤ rest.length) : pCount d size most p = .ok (n, p + 8) ∧ d.drop (p + 8) = rest ∧ p + 8 ≤ d.length := by
  obtain ⟨h1, h2, h3⟩ := pNum_fwd h hn
  refine ⟨?_, h2, h3⟩
  unfold pCount
  rw [h1]
  have hl := congrArg List.length h2
  simp only [List.length_drop] at hl
  have hq : (n : Int) ≤ ((d.length : Int) - ((p + 8 : Nat) : Int)) / size := by
    rw [Int.le_ediv_iff_mul_le (by omega)]; omega
  simp only
  rw [if_neg (by omega)]
  simp
theorem pText_fwd {d : List UInt8} {p : Nat} {t : ByteArray} {rest : List UInt8} (h : d.drop p = num8 (t.size : Int) ++ (t.data.toList ++ rest)) (ht : t.size ≤ 9223372036854775807) : pText d p = .ok (t, p + 8 + t.size) ∧ d.drop (p + 8 + t.size) = rest ∧ p + 8 + t.size ≤ d.length := by
  have hts : t.data.toList.length = t.size := toList_size t
  obtain ⟨h1, h2, h3⟩ := pCount_fwd (size := 1) (most := 9223372036854775807) h ⟨by omega, by omega⟩ (by omega) (by omega) (by simp only [List.length_append, hts]; omega)
  have hl := congrArg List.length h2
  simp only [List.length_drop, List.length_append, hts] at hl
  refine ⟨?_, ?_, by omega⟩
  · unfold pText
    rw [h1]
    simp only
    rw [h2, List.take_left' hts]
  · rw [← List.drop_drop, h2, List.drop_left' hts]
theorem pSmall_fwd {d : List UInt8} {p : Nat} {n : Int} {rest : List UInt8} (h : d.drop p = [opByte n] ++ rest) (hn : -128 ≤ n ∧ n ≤ 127) : pSmall d p = .ok (n, p + 1) ∧ d.drop (p + 1) = rest ∧ p + 1 ≤ d.length := by
  have hl := congrArg List.length h
  simp only [List.length_drop, List.length_append, List.length_singleton] at hl
  have hg : d[p]? = some (opByte n) := by
    have := congrArg (fun l => l[0]?) h
    simpa using this
  refine ⟨?_, by rw [← List.drop_drop, h]; rfl, by omega⟩
  unfold pSmall
  rw [hg]
  have e : byteI8 (opByte n) = n := by
    have h0 : (opByte n).toNat = (n % 256).toNat := by
      unfold opByte
      rw [UInt8.toNat_ofNat']; omega
    unfold byteI8
    rw [h0]
    simp only [IntKind.wrap, IntKind.signed, IntKind.bits]
    simp
    omega
  simp only [e]
end Go.Proofs.Ytljlijdgocfofaa
