/-
  What was put is read as it was: plain lists. No condition but that numbers are such.
  What was put is read as it was: trees and steps, plainly. No condition but that numbers are such.
-/
import Derived.Test.YteccnekdmehloaaDoorCInv
import Derived.Test.YteccnekdmehloaaDoorCPutNode
namespace Go.Proofs.YteccnekdmehloaaDoor
open Go.RowKit
open Extern.Stop (cell)

def inI64 (n : Int) : Prop := -9223372036854775808 ≤ n ∧ n ≤ 9223372036854775807
def foIn : Fo → Prop
  | .nil => True
  | .node _ _ k l r => (inI64 k.1 ∧ inI64 k.2.1 ∧ k.2.2.size ≤ 9223372036854775807 ∧ foLen l ≤ 9223372036854775807) ∧ foIn l ∧ foIn r
def Tr.in64 (t : Tr) : Prop := (inI64 t.id ∧ inI64 t.kind ∧ t.text.size ≤ 9223372036854775807 ∧ foLen t.kids ≤ 9223372036854775807) ∧ foIn t.kids
/-- The same trees, wherever they lay. -/
def nF : Fo → Fo
  | .nil => .nil
  | .node _ _ k l r => .node 0 0 k (nF l) (nF r)
def nT (t : Tr) : Tr := ⟨t.id, t.kind, t.text, nF t.kids⟩
def foTrs : Fo → List Tr
  | .nil => []
  | .node _ _ k l r => ⟨k.1, k.2.1, k.2.2, l⟩ :: foTrs r
theorem foTrs_len : ∀ f : Fo, (foTrs f).length = foLen f
  | .nil => rfl
  | .node _ _ _ _ r => by simp [foTrs, foLen, foTrs_len r]
theorem foTrs_enc : ∀ f : Fo, (foTrs f).flatMap encT = encF f
  | .nil => rfl
  | .node _ _ k l r => by simp [foTrs, encF, encT, foTrs_enc r, List.append_assoc]
theorem foTrs_n : ∀ f : Fo, foOfC ((foTrs f).map nT) = nF f
  | .nil => rfl
  | .node _ _ k l r => by simp [foTrs, nF, nT, foOfC, foTrs_n r]
def szL (l : List Tr) : Nat := (l.map (fun t => foSize t.kids + 1)).sum
theorem foTrs_sz : ∀ f : Fo, szL (foTrs f) = foSize f
  | .nil => rfl
  | .node _ _ k l r => by
    have h := foTrs_sz r
    simp only [szL] at h
    simp only [foTrs, szL, List.map_cons, List.sum_cons, h, foSize]; omega
theorem foTrs_in : ∀ f : Fo, foIn f → ∀ t ∈ foTrs f, t.in64
  | .nil, _, t, ht => by simp [foTrs] at ht
  | .node _ _ k l r, h, t, ht => by
    simp only [foTrs, List.mem_cons] at ht
    rcases ht with rfl | ht
    · exact ⟨h.1, h.2.1⟩
    · exact foTrs_in r h.2.2 t ht
def okD (d : Int) (t : Tr) : Prop := ∀ x ∈ spTC d t, x.2 ≤ 40
theorem foTrs_ok (d : Int) : ∀ f : Fo, (∀ x ∈ spFC d f, x.2 ≤ 40) ↔ ∀ t ∈ foTrs f, okD d t
  | .nil => by simp [spFC, foTrs]
  | .node b o k l r => by
    have ih := foTrs_ok d r
    have e : spFC d (.node b o k l r) = spTC d ⟨k.1, k.2.1, k.2.2, l⟩ ++ spFC d r := by simp [spFC, spTC]
    have e2 : foTrs (.node b o k l r) = ⟨k.1, k.2.1, k.2.2, l⟩ :: foTrs r := rfl
    constructor
    · intro h t ht
      rw [e2] at ht
      rcases List.mem_cons.1 ht with rfl | ht
      · intro x hx; exact h x (by rw [e]; exact List.mem_append_left _ hx)
      · exact ih.1 (fun x hx => h x (by rw [e]; exact List.mem_append_right _ hx)) t ht
    · intro h x hx
      rw [e] at hx
      rcases List.mem_append.1 hx with hx | hx
      · exact h _ (by rw [e2]; exact List.mem_cons_self ..) x hx
      · exact ih.2 (fun t ht => h t (by rw [e2]; exact List.mem_cons_of_mem _ ht)) x hx

theorem pNum_fwd {d : List UInt8} {p : Nat} {n : Int} {rest : List UInt8} (h : d.drop p = num8 n ++ rest) (hn : inI64 n) : pNum d p = .ok (n, p + 8) ∧ d.drop (p + 8) = rest ∧ p + 8 ≤ d.length := by
  have hl := congrArg List.length h
  simp only [List.length_drop, List.length_append, num8_length] at hl
  have h8 : p + 8 ≤ d.length := by omega
  refine ⟨?_, ?_, h8⟩
  · unfold pNum
    rw [if_pos h8, h, List.take_left' (num8_length n), numOf_num8 n hn.1 hn.2]
  · rw [← List.drop_drop, h, List.drop_left' (num8_length n)]
theorem pCount_fwd {d : List UInt8} {p n : Nat} {size most : Int} {rest : List UInt8} (h : d.drop p = num8 (n : Int) ++ rest) (hn : inI64 (n : Int)) (hs : 1 ≤ size) (hm : (n : Int) ≤ most) (hr : (n : Int) * size ≤ rest.length) : pCount d size most p = .ok (n, p + 8) ∧ d.drop (p + 8) = rest ∧ p + 8 ≤ d.length := by
  obtain ⟨h1, h2, h3⟩ := pNum_fwd h hn
  refine ⟨?_, h2, h3⟩
  unfold pCount
  rw [h1]
  have hl := congrArg List.length h2
  simp only [List.length_drop] at hl
  have hq : (n : Int) ≤ ((d.length : Int) - ((p + 8 : Nat) : Int)) / size := by
    rw [Int.le_ediv_iff_mul_le (by omega)]; omega
  simp only
  rw [if_neg (by omega)]
  simp
theorem pText_fwd {d : List UInt8} {p : Nat} {t : ByteArray} {rest : List UInt8} (h : d.drop p = num8 (t.size : Int) ++ (t.data.toList ++ rest)) (ht : t.size ≤ 9223372036854775807) : pText d p = .ok (t, p + 8 + t.size) ∧ d.drop (p + 8 + t.size) = rest ∧ p + 8 + t.size ≤ d.length := by
  have hts : t.data.toList.length = t.size := toList_size t
  obtain ⟨h1, h2, h3⟩ := pCount_fwd (size := 1) (most := 9223372036854775807) h ⟨by omega, by omega⟩ (by omega) (by omega) (by simp only [List.length_append, hts]; omega)
  have hl := congrArg List.length h2
  simp only [List.length_drop, List.length_append, hts] at hl
  refine ⟨?_, ?_, by omega⟩
  · unfold pText
    rw [h1]
    simp only
    rw [h2, List.take_left' hts]
  · rw [← List.drop_drop, h2, List.drop_left' hts]
end Go.Proofs.YteccnekdmehloaaDoor
namespace Go.Proofs.YteccnekdmehloaaDoor
open Go.RowKit
open Extern.Stop (cell)

/-- Read where it was put: right if it may be, else an error. -/
def Fwd {α : Type} (r : Got (α × Nat)) (ok : Prop) (x : α) (m p : Nat) : Prop := (ok → r = .ok ((x, m), p)) ∧ (¬ ok → ∃ e, r = .error e)
def szs {β : Type} (sz : β → Nat) (l : List β) : Nat := (l.map sz).sum
theorem szs_snoc {β : Type} (sz : β → Nat) (l : List β) (x : β) : szs sz (l ++ [x]) = szs sz l + sz x := by simp [szs]
theorem pList_fwd {α β : Type} {d : List UInt8} {one : Nat → Nat → Got (α × Nat)} (enc : β → List UInt8) (g : β → α) (sz : β → Nat) (good : β → Prop) (M : Nat) :
    ∀ (n : Nat) (l : List β), l.length = n → (∀ x ∈ l, ∀ m p rest, d.drop p = enc x ++ rest → m ≤ M → Fwd (one m p) (good x ∧ m + sz x ≤ M) (g x) (m + sz x) (p + (enc x).length)) →
    ∀ m p rest, d.drop p = l.flatMap enc ++ rest → m ≤ M → Fwd (pList one l.length m p) ((∀ x ∈ l, good x) ∧ m + szs sz l ≤ M) (l.map g) (m + szs sz l) (p + (l.flatMap enc).length) := by
  intro n
  induction n with
  | zero =>
    intro l hl _ m p rest _ hm
    have : l = [] := List.length_eq_zero_iff.1 hl
    subst this
    refine ⟨fun _ => by simp [pList, szs], fun h => absurd ⟨by simp, by simpa [szs] using hm⟩ h⟩
  | succ n ih =>
    intro l hl hone m p rest hd hm
    rcases nil_or_snocC l with rfl | ⟨rs, x, rfl⟩
    · simp at hl
    have hrl : rs.length = n := by simp at hl; omega
    have hd1 : d.drop p = rs.flatMap enc ++ (enc x ++ rest) := by rw [hd, List.flatMap_append, List.append_assoc]; simp
    have I := ih rs hrl (fun y hy => hone y (List.mem_append_left _ hy)) m p _ hd1 hm
    have hd2 : d.drop (p + (rs.flatMap enc).length) = enc x ++ rest := by rw [← List.drop_drop, hd1, List.drop_left' rfl]
    have hlen : (rs ++ [x]).length = rs.length + 1 := by simp
    rw [hlen, szs_snoc]
    have hfl : ((rs ++ [x]).flatMap enc).length = (rs.flatMap enc).length + (enc x).length := by rw [List.flatMap_append, List.length_append]; simp
    rw [hfl]
    by_cases hk : (∀ y ∈ rs, good y) ∧ m + szs sz rs ≤ M
    · have e1 := I.1 hk
      have O := hone x (by simp) (m + szs sz rs) _ rest hd2 hk.2
      constructor
      · rintro ⟨h1, h2⟩
        have e2 := O.1 ⟨h1 x (by simp), by omega⟩
        simp only [pList, e1, e2, List.map_append, List.map_cons, List.map_nil, Nat.add_assoc]
      · intro hn
        have hx : ¬ (good x ∧ m + szs sz rs + sz x ≤ M) := fun hh => hn ⟨fun y hy => by
          rcases List.mem_append.1 hy with hy | hy
          · exact hk.1 y hy
          · simp at hy; subst hy; exact hh.1, by omega⟩
        obtain ⟨e, he⟩ := O.2 hx
        exact ⟨e, by simp only [pList, e1, he]⟩
    · obtain ⟨e, he⟩ := I.2 hk
      constructor
      · rintro ⟨h1, h2⟩
        exact absurd ⟨fun y hy => h1 y (List.mem_append_left _ hy), by omega⟩ hk
      · intro _
        exact ⟨e, by simp only [pList, he]⟩
theorem szs_foTrs (f : Fo) : szs (fun t => foSize t.kids + 1) (foTrs f) = foSize f := foTrs_sz f
theorem okD_split (depth : Nat) (t : Tr) : okD depth t ↔ depth ≤ 40 ∧ ∀ x ∈ foTrs t.kids, okD ((depth : Int) + 1) x := by
  rw [← foTrs_ok]
  constructor
  · intro h
    exact ⟨by have := h (t.text, (depth : Int)) (by simp [spTC]); simp at this; omega, fun x hx => h x (by simp [spTC, hx])⟩
  · rintro ⟨h1, h2⟩ x hx
    simp only [spTC, List.mem_cons] at hx
    rcases hx with rfl | hx
    · simp; omega
    · exact h2 x hx
theorem foLen_size : ∀ f : Fo, foLen f ≤ foSize f
  | .nil => Nat.le_refl _
  | .node _ _ _ l r => by have := foLen_size r; simp only [foLen, foSize]; omega
theorem pNode_fwd (d : List UInt8) : ∀ (f depth : Nat), f + depth = 41 → ∀ (t : Tr) (m p : Nat) (rest : List UInt8), t.in64 → d.drop p = encT t ++ rest →
    Fwd (pNode d f depth m p) (okD depth t ∧ m + (foSize t.kids + 1) ≤ 200) (nT t) (m + (foSize t.kids + 1)) (p + (encT t).length) := by
  intro f
  induction f with
  | zero =>
    intro depth hf t m p rest _ _
    exact ⟨fun h => by have := ((okD_split depth t).1 h.1).1; omega, fun _ => ⟨_, rfl⟩⟩
  | succ f ih =>
    intro depth hf t m p rest hin hd
    by_cases hg : 40 < depth ∨ 200 < m + 1
    · refine ⟨fun h => ?_, fun _ => ⟨p, by unfold pNode; rw [if_pos hg]⟩⟩
      have := ((okD_split depth t).1 h.1).1
      omega
    obtain ⟨⟨i1, i2, i3, i4⟩, i5⟩ := hin
    obtain ⟨id, kd, tx, ks⟩ := t
    simp only at i1 i2 i3 i4 i5
    simp only
    simp only [encT, encK, List.append_assoc] at hd
    obtain ⟨a1, a2, a3⟩ := pNum_fwd hd i1
    obtain ⟨b1, b2, b3⟩ := pNum_fwd a2 i2
    obtain ⟨c1, c2, c3⟩ := pText_fwd b2 i3
    obtain ⟨d1, d2, d3⟩ := pCount_fwd (size := 32) (most := 9223372036854775807) c2 ⟨by omega, by omega⟩ (by omega) (by omega) (by
      rw [List.length_append, encF_length]
      have := foLen_size ks; omega)
    rw [← foTrs_enc] at d2
    have L := pList_fwd encT nT (fun t => foSize t.kids + 1) (okD ((depth : Int) + 1)) 200 (one := fun m' q => pNode d f (depth + 1) m' q) _ (foTrs ks) rfl (fun x hx m' q rest' hq _ => by
      have := ih (depth + 1) (by omega) x m' q rest' (foTrs_in ks i5 x hx) hq
      simpa using this) (m + 1) _ rest d2 (by omega)
    rw [szs_foTrs, foTrs_len, foTrs_enc] at L
    have hlen : p + (encT ⟨id, kd, tx, ks⟩).length = p + 8 + 8 + 8 + tx.size + 8 + (encF ks).length := by
      simp only [encT, encK_length, List.length_append]; omega
    rw [hlen]
    have ho := okD_split depth ⟨id, kd, tx, ks⟩
    simp only at ho
    constructor
    · rintro ⟨h1, h2⟩
      have e := L.1 ⟨(ho.1 h1).2, by omega⟩
      unfold pNode
      rw [if_neg hg, a1]
      simp only
      rw [b1]
      simp only
      rw [c1]
      simp only
      rw [d1]
      simp only
      rw [e]
      simp only [foTrs_n, nT]
      rw [show m + 1 + foSize ks = m + (foSize ks + 1) by omega]
    · intro hn
      have hn2 : ¬ ((∀ x ∈ foTrs ks, okD ((depth : Int) + 1) x) ∧ m + 1 + foSize ks ≤ 200) := fun hh => hn ⟨ho.2 ⟨by omega, hh.1⟩, by omega⟩
      obtain ⟨e, he⟩ := L.2 hn2
      refine ⟨e, ?_⟩
      unfold pNode
      rw [if_neg hg, a1]
      simp only
      rw [b1]
      simp only
      rw [c1]
      simp only
      rw [d1]
      simp only
      rw [he]
end Go.Proofs.YteccnekdmehloaaDoor
