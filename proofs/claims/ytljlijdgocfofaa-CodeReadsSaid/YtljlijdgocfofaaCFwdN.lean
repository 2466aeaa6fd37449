/-
  What was put is read as it was: trees and steps, plainly. No condition but that numbers are such.
-/
import Derived.Test.YtljlijdgocfofaaCFwd
import Derived.Test.YtljlijdgocfofaaCInv
namespace Go.Proofs.Ytljlijdgocfofaa
open Go.RowKit
open Extern.Stop (cell)

/-- Read where it was put: right if it may be, else an error. -/
def Fwd {α : Type} (r : Got (α × Nat)) (ok : Prop) (x : α) (m p : Nat) : Prop := (ok → r = .ok ((x, m), p)) ∧ (¬ ok → ∃ e, r = .error e)
def szs {β : Type} (sz : β → Nat) (l : List β) : Nat := (l.map sz).sum
theorem szs_snoc {β : Type} (sz : β → Nat) (l : List β) (x : β) : szs sz (l ++ [x]) = szs sz l + sz x := by simp [szs]
theorem pList_fwd {α β : Type} {d : List UInt8} {one : Nat → Nat → Got (α × Nat)} (enc : β → List UInt8) (g : β → α) (sz : β → Nat) (good : β → Prop) (M : Nat) :
    ∀ (n : Nat) (l : List β), l.length = n → (∀ x ∈ l, ∀ m p rest, d.drop p = enc x ++ rest → m ≤ M → Fwd (one m p) (good x ∧ m + sz x ≤ M) (g x) (m + sz x) (p + (enc x).length)) →
    ∀ m p rest, d.drop p = l.flatMap enc ++ rest → m ≤ M → Fwd (pList one l.length m p) ((∀ x ∈ l, good x) ∧ m + szs sz l ≤ M) (l.map g) (m + szs sz l) (p + (l.flatMap enc).length) := by
  intro n
  induction n with
  | zero =>
    intro l hl _ m p rest _ hm
    have : l = [] := List.length_eq_zero_iff.1 hl
    subst this
    refine ⟨fun _ => by simp [pList, szs], fun h => absurd ⟨by simp, by simpa [szs] using hm⟩ h⟩
  | succ n ih =>
    intro l hl hone m p rest hd hm
    rcases nil_or_snoc l with rfl | ⟨rs, x, rfl⟩
    · simp at hl
    have hrl : rs.length = n := by simp at hl; omega
    have hd1 : d.drop p = rs.flatMap enc ++ (enc x ++ rest) := by rw [hd, List.flatMap_append, List.append_assoc]; simp
    have I := ih rs hrl (fun y hy => hone y (List.mem_append_left _ hy)) m p _ hd1 hm
    have hd2 : d.drop (p + (rs.flatMap enc).length) = enc x ++ rest := by rw [← List.drop_drop, hd1, List.drop_left' rfl]
    have hlen : (rs ++ [x]).length = rs.length + 1 := by simp
    rw [hlen, szs_snoc]
    have hfl : ((rs ++ [x]).flatMap enc).length = (rs.flatMap enc).length + (enc x).length := by rw [List.flatMap_append, List.length_append]; simp
    rw [hfl]
    by_cases hk : (∀ y ∈ rs, good y) ∧ m + szs sz rs ≤ M
    · have e1 := I.1 hk
      have O := hone x (by simp) (m + szs sz rs) _ rest hd2 hk.2
      constructor
      · rintro ⟨h1, h2⟩
        have e2 := O.1 ⟨h1 x (by simp), by omega⟩
        simp only [pList, e1, e2, List.map_append, List.map_cons, List.map_nil, Nat.add_assoc]
      · intro hn
        have hx : ¬ (good x ∧ m + szs sz rs + sz x ≤ M) := fun hh => hn ⟨fun y hy => by
          rcases List.mem_append.1 hy with hy | hy
          · exact hk.1 y hy
          · simp at hy; subst hy; exact hh.1, by omega⟩
        obtain ⟨e, he⟩ := O.2 hx
        exact ⟨e, by simp only [pList, e1, he]⟩
    · obtain ⟨e, he⟩ := I.2 hk
      constructor
      · rintro ⟨h1, h2⟩
        exact absurd ⟨fun y hy => h1 y (List.mem_append_left _ hy), by omega⟩ hk
      · intro _
        exact ⟨e, by simp only [pList, he]⟩
theorem szs_foTrs (f : Fo) : szs (fun t => foSize t.kids + 1) (foTrs f) = foSize f := foTrs_sz f
theorem okD_split (depth : Nat) (t : Tr) : okD depth t ↔ depth ≤ 40 ∧ ∀ x ∈ foTrs t.kids, okD ((depth : Int) + 1) x := by
  rw [← foTrs_ok]
  constructor
  · intro h
    exact ⟨by have := h (t.text, (depth : Int)) (by simp [spT]); simp at this; omega, fun x hx => h x (by simp [spT, hx])⟩
  · rintro ⟨h1, h2⟩ x hx
    simp only [spT, List.mem_cons] at hx
    rcases hx with rfl | hx
    · simp; omega
    · exact h2 x hx
theorem foLen_size : ∀ f : Fo, foLen f ≤ foSize f
  | .nil => Nat.le_refl _
  | .node _ _ _ l r => by have := foLen_size r; simp only [foLen, foSize]; omega
theorem pNode_fwd (d : List UInt8) : ∀ (f depth : Nat), f + depth = 41 → ∀ (t : Tr) (m p : Nat) (rest : List UInt8), t.in64 → d.drop p = encT t ++ rest →
    Fwd (pNode d f depth m p) (okD depth t ∧ m + (foSize t.kids + 1) ≤ 200) (nT t) (m + (foSize t.kids + 1)) (p + (encT t).length) := by
  intro f
  induction f with
  | zero =>
    intro depth hf t m p rest _ _
    exact ⟨fun h => by have := ((okD_split depth t).1 h.1).1; omega, fun _ => ⟨_, rfl⟩⟩
  | succ f ih =>
    intro depth hf t m p rest hin hd
    by_cases hg : 40 < depth ∨ 200 < m + 1
    · refine ⟨fun h => ?_, fun _ => ⟨p, by unfold pNode; rw [if_pos hg]⟩⟩
      have := ((okD_split depth t).1 h.1).1
      omega
    obtain ⟨⟨i1, i2, i3, i4⟩, i5⟩ := hin
    obtain ⟨id, kd, tx, ks⟩ := t
    simp only at i1 i2 i3 i4 i5
    simp only
    simp only [encT, encK, List.append_assoc] at hd
    obtain ⟨a1, a2, a3⟩ := pNum_fwd hd i1
    obtain ⟨b1, b2, b3⟩ := pNum_fwd a2 i2
    obtain ⟨c1, c2, c3⟩ := pText_fwd b2 i3
    obtain ⟨d1, d2, d3⟩ := pCount_fwd (size := 32) (most := 9223372036854775807) c2 ⟨by omega, by omega⟩ (by omega) (by omega) (by
      rw [List.length_append, encF_length]
      have := foLen_size ks; omega)
    rw [← foTrs_enc] at d2
    have L := pList_fwd encT nT (fun t => foSize t.kids + 1) (okD ((depth : Int) + 1)) 200 (one := fun m' q => pNode d f (depth + 1) m' q) _ (foTrs ks) rfl (fun x hx m' q rest' hq _ => by
      have := ih (depth + 1) (by omega) x m' q rest' (foTrs_in ks i5 x hx) hq
      simpa using this) (m + 1) _ rest d2 (by omega)
    rw [szs_foTrs, foTrs_len, foTrs_enc] at L
    have hlen : p + (encT ⟨id, kd, tx, ks⟩).length = p + 8 + 8 + 8 + tx.size + 8 + (encF ks).length := by
      simp only [encT, encK_length, List.length_append]; omega
    rw [hlen]
    have ho := okD_split depth ⟨id, kd, tx, ks⟩
    simp only at ho
    constructor
    · rintro ⟨h1, h2⟩
      have e := L.1 ⟨(ho.1 h1).2, by omega⟩
      unfold pNode
      rw [if_neg hg, a1]
      simp only
      rw [b1]
      simp only
      rw [c1]
      simp only
      rw [d1]
      simp only
      rw [e]
      simp only [foTrs_n, nT]
      rw [show m + 1 + foSize ks = m + (foSize ks + 1) by omega]
    · intro hn
      have hn2 : ¬ ((∀ x ∈ foTrs ks, okD ((depth : Int) + 1) x) ∧ m + 1 + foSize ks ≤ 200) := fun hh => hn ⟨ho.2 ⟨by omega, hh.1⟩, by omega⟩
      obtain ⟨e, he⟩ := L.2 hn2
      refine ⟨e, ?_⟩
      unfold pNode
      rw [if_neg hg, a1]
      simp only
      rw [b1]
      simp only
      rw [c1]
      simp only
      rw [d1]
      simp only
      rw [he]
end Go.Proofs.Ytljlijdgocfofaa
