/-
  What was put is read as it was: a tree, a step, a row of steps. No condition but that numbers are such.
-/
import Derived.Test.YtljlijdgocfofaaCFwdN
namespace Go.Proofs.Ytljlijdgocfofaa
open Go.RowKit
open Extern.Stop (cell)

/-- A tree as a reader takes it. -/
def Tr.good (t : Tr) : Prop := okD 1 t ∧ foSize t.kids + 1 ≤ 200
theorem pTree_fwd {d : List UInt8} {t : Tr} {p : Nat} {rest : List UInt8} (hin : t.in64) (hd : d.drop p = encT t ++ rest) :
    (t.good → pTree d p = .ok (nT t, p + (encT t).length)) ∧ (¬ t.good → ∃ e, pTree d p = .error e) := by
  have h := pNode_fwd d 40 1 rfl t 0 p rest hin hd
  simp only [Nat.zero_add] at h
  constructor
  · intro hg
    unfold pTree
    rw [h.1 hg]
  · intro hg
    obtain ⟨e, he⟩ := h.2 hg
    exact ⟨e, by unfold pTree; rw [he]⟩
def Stp.in64 (s : Stp) : Prop := (-128 ≤ s.op ∧ s.op ≤ 127) ∧ inI64 s.id ∧ inI64 s.parent ∧ inI64 s.place ∧ s.text.size ≤ 9223372036854775807 ∧ s.sub.in64
def nS (s : Stp) : Stp := { s with sub := nT s.sub }
theorem pStep_fwd {d : List UInt8} {s : Stp} {p : Nat} {rest : List UInt8} (hin : s.in64) (hd : d.drop p = encS s ++ rest) :
    (s.sub.good → pStep d p = .ok (nS s, p + (encS s).length)) ∧ (¬ s.sub.good → ∃ e, pStep d p = .error e) := by
  obtain ⟨i1, i2, i3, i4, i5, i6⟩ := hin
  obtain ⟨op, id, pa, pl, tx, sub⟩ := s
  simp only at i1 i2 i3 i4 i5 i6
  simp only [encS, List.append_assoc] at hd
  obtain ⟨a1, a2, a3⟩ := pSmall_fwd hd i1
  obtain ⟨b1, b2, b3⟩ := pNum_fwd a2 i2
  obtain ⟨c1, c2, c3⟩ := pNum_fwd b2 i3
  obtain ⟨d1, d2, d3⟩ := pNum_fwd c2 i4
  obtain ⟨e1, e2, e3⟩ := pText_fwd d2 i5
  have T := pTree_fwd i6 e2
  have hlen : p + (encS ⟨op, id, pa, pl, tx, sub⟩).length = p + 1 + 8 + 8 + 8 + 8 + tx.size + (encT sub).length := by
    rw [encS_length]; simp only; omega
  rw [hlen]
  constructor
  · intro hg
    unfold pStep
    rw [a1]
    simp only
    rw [b1]
    simp only
    rw [c1]
    simp only
    rw [d1]
    simp only
    rw [e1]
    simp only
    rw [T.1 hg]
    rfl
  · intro hg
    obtain ⟨e, he⟩ := T.2 hg
    refine ⟨e, ?_⟩
    unfold pStep
    rw [a1]
    simp only
    rw [b1]
    simp only
    rw [c1]
    simp only
    rw [d1]
    simp only
    rw [e1]
    simp only
    rw [he]
theorem encS_least (s : Stp) : 57 ≤ (encS s).length := by
  rw [encS_length, encT_length]; omega
theorem encL_least : ∀ l : List Stp, l.length * 57 ≤ (encL l).length
  | [] => by simp [encL]
  | s :: l => by
    have h1 := encS_least s
    have h2 := encL_least l
    have e : encL (s :: l) = encS s ++ encL l := by simp [encL]
    rw [e, List.length_append, List.length_cons]; omega
theorem pSteps_fwd {d : List UInt8} {l : List Stp} {p : Nat} {rest : List UInt8} (hin : ∀ s ∈ l, s.in64) (hl : l.length ≤ 60) (hd : d.drop p = num8 (l.length : Int) ++ (encL l ++ rest)) :
    ((∀ s ∈ l, s.sub.good) → pSteps d p = .ok (l.map nS, p + 8 + (encL l).length)) ∧ (¬ (∀ s ∈ l, s.sub.good) → ∃ e, pSteps d p = .error e) := by
  have hle := encL_least l
  obtain ⟨a1, a2, a3⟩ := pCount_fwd (size := 57) (most := 60) hd ⟨by omega, by omega⟩ (by omega) (by omega) (by rw [List.length_append]; omega)
  have L := pList_fwd (one := oneS d) encS nS (fun _ => 0) (fun s => s.sub.good) 0 _ l rfl (fun x hx m q rest' hq hm => by
    have T := pStep_fwd (hin x hx) hq
    constructor
    · rintro ⟨h1, h2⟩
      unfold oneS
      rw [T.1 h1]
      rfl
    · intro hn
      obtain ⟨e, he⟩ := T.2 (fun hh => hn ⟨hh, by omega⟩)
      exact ⟨e, by unfold oneS; rw [he]⟩) 0 _ rest a2 (Nat.le_refl _)
  have hz : ∀ l : List Stp, szs (fun _ => 0) l = 0 := by
    intro l
    induction l with
    | nil => rfl
    | cons x l ih => simpa [szs] using ih
  rw [hz] at L
  have hfl : (l.flatMap encS).length = (encL l).length := rfl
  rw [hfl] at L
  constructor
  · intro hg
    unfold pSteps
    rw [a1]
    simp only
    rw [L.1 ⟨hg, Nat.le_refl _⟩]
    rfl
  · intro hg
    obtain ⟨e, he⟩ := L.2 (fun hh => hg hh.1)
    refine ⟨e, ?_⟩
    unfold pSteps
    rw [a1]
    simp only
    rw [he]
    rfl
/-- More steps than a row may have are not read. -/
theorem pSteps_many {d : List UInt8} {l : List Stp} {p : Nat} {rest : List UInt8} (hl : 60 < l.length) (hl2 : l.length ≤ 9223372036854775807) (hd : d.drop p = num8 (l.length : Int) ++ rest) : ∃ e, pSteps d p = .error e := by
  obtain ⟨a1, a2, a3⟩ := pNum_fwd hd (n := (l.length : Int)) ⟨by omega, by omega⟩
  unfold pSteps pCount
  rw [a1]
  simp only
  rw [if_pos (by omega)]
  exact ⟨_, rfl⟩
end Go.Proofs.Ytljlijdgocfofaa
