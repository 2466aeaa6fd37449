/-
  A reader made since w, over the four things put one behind the other: what its calls tell. No condition.
-/
import Derived.Test.YtljlijdgocfofaaCBackP
import Derived.Test.YtljlijdgocfofaaCCountM
namespace Go.Proofs.Ytljlijdgocfofaa
open Go.RowKit
open Extern.Stop (cell)

theorem pSteps_few {d : List UInt8} {p : Nat} {l : List Stp} {q : Nat} (h : pSteps d p = .ok (l, q)) : l.length ≤ 60 := by
  unfold pSteps at h
  split at h
  · cases h
  · rename_i n q1 h1
    have s1 := pNum_inv (pCount_num h1)
    have h60 := (pCount_ok h1).2.2.1
    unfold oneErr at h
    split at h
    · cases h
    · rename_i h2
      cases h
      have s2 := pList_inv encS (fun m p x m' q hh => by
        unfold oneS at hh
        split at hh
        · cases hh
        · rename_i h3
          cases hh
          exact pStep_inv h3) _ _ _ _ _ _ s1.2.2 h2
      have := s2.2
      omega
theorem encL_few : ∀ (l : List Stp), (∀ x ∈ l, x.small) → (encL l).length ≤ l.length * 48100
  | [], _ => by simp [encL]
  | x :: l, h => by
    have h1 := encL_few l fun y hy => h y (List.mem_cons_of_mem _ hy)
    have h2 := h x (List.mem_cons_self ..)
    have h3 := small_enc h2.1
    have h4 := h2.2
    have h5 := encS_length x
    simp only [encL, List.flatMap_cons, List.length_append, List.length_cons] at h1 ⊢
    omega
theorem enc4_few {n : Int} {s : ByteArray} {t : Tr} {l : List Stp} (hs : s.size ≤ 1000) (ht : t.small) (hl : l.length ≤ 70) (h : ∀ x ∈ l, x.small) : (enc4 n s t l).length ≤ 100000000 := by
  have h1 := encL_few l h
  have h2 := small_enc ht
  have hts : s.data.toList.length = s.size := toList_size s
  have h3 : l.length * 48100 ≤ 70 * 48100 := Nat.mul_le_mul_right _ hl
  simp only [enc4, List.length_append, num8_length, hts]
  omega
theorem Tr.small.in64 {t : Tr} (h : t.small) (hf : Fit64 t) : t.in64 := hf.in64 (by have := h.2; omega)
theorem Stp.small.in64 {s : Stp} (h : s.small) (hf : FitS64 s) : s.in64 := hf.in64 (by have := h.2; omega) (by have := h.1.2; omega)
section
variable {α : Type} {z : Value} {V : α → Value → World → Prop} {w w' : World} {b : Nat} {dv v : Value} {s : Rd} {o : Got α}
theorem MethR.right {x : α} {q : Nat} (h : MethR z V w b dv s o v w') (hb : s.bad = false) (ho : o = .ok (x, q)) : V x v w' ∧ RdAt w' b dv { s with pos := q } ∧ Touched w w' (fun k => k = b) := by
  subst ho
  unfold MethR at h
  rw [if_neg (by rw [hb]; decide)] at h
  exact h
theorem MethR.wrong {p : Nat} (h : MethR z V w b dv s o v w') (hb : s.bad = false) (ho : o = .error p) : v = z ∧ RdAt w' b dv { s with pos := p, bad := true } ∧ Touched w w' (fun k => k = b) := by
  subst ho
  unfold MethR at h
  rw [if_neg (by rw [hb]; decide)] at h
  exact h
theorem MethR.failed (h : MethR z V w b dv s o v w') (hb : s.bad = true) : v = z ∧ RdAt w' b dv s ∧ Touched w w' (fun k => k = b) := by
  unfold MethR at h
  rw [if_pos hb] at h
  exact h
end
/-- A reader that was made since w; below w nothing has turned. -/
structure RS (w wr : World) (b : Nat) (dv : Value) (s : Rd) : Prop where
  rd : RdAt wr b dv s
  low : w.heap.size ≤ b ∧ ∀ g, dv.ownBlock = some g → w.heap.size ≤ g
  bel : Below w.heap.size w wr
theorem RS.next {w wr w' : World} {b : Nat} {dv : Value} {s s' : Rd} (h : RS w wr b dv s) (hr : RdAt w' b dv s') (ht : Touched wr w' (fun k => k = b)) : RS w w' b dv s' :=
  ⟨hr, h.low, h.bel.trans (ht.below h.bel.size (fun k hk => by have := h.low.1; omega))⟩
theorem RS.alloc {w wr : World} {b : Nat} {dv : Value} {s : Rd} (h : RS w wr b dv s) (o : Obj) : RS w (wr.alloc o) b dv s := ⟨h.rd.alloc o, h.low, h.bel.alloc h.bel.size o⟩
theorem NewC.rs {w wr w' : World} {bs : List UInt8} {e : Ending} (hw : Below w.heap.size w wr) (h : NewC wr bs e w') : ∃ b dv, e = .returned (.pointer (some ⟨b, 0, none⟩)) ∧ RS w w' b dv ⟨bs, 0, false⟩ := by
  obtain ⟨b, dv, rfl, h1, h2, h3, h4⟩ := h
  have hs := hw.size
  exact ⟨b, dv, rfl, h3, ⟨by omega, fun g hg => by have := h2 g hg; omega⟩, hw.trans (h4.mono hs)⟩

def NextC (w wr : World) (b : Nat) (dv : Value) (v : Value) (s' : Rd) (e : Ending) (w' : World) : Prop := e = .returned v ∧ RS w w' b dv s' ∧ Touched wr w' (fun k => k = b)
section
variable {w wr : World} {b : Nat} {dv : Value} {n : Int} {s : ByteArray} {t : Tr} {l : List Stp}
theorem rs_num (h : RS w wr b dv ⟨enc4 n s t l, 0, false⟩) (hn : inI64 n) : Calls Try.prog 19 #[.pointer (some ⟨b, 0, none⟩)] wr (NextC w wr b dv (.int .i64 n) ⟨enc4 n s t l, 8, false⟩) := by
  refine (NumberM_any wr b dv _ h.rd).mono ?_
  rintro e w' ⟨v, rfl, hm⟩
  obtain ⟨rfl, h1, h2⟩ := hm.right rfl (back_num hn).1
  exact ⟨rfl, h.next h1 h2, h2⟩
theorem rs_text (h : RS w wr b dv ⟨enc4 n s t l, 8, false⟩) (hn : inI64 n) (hs : s.size ≤ 9223372036854775807) : Calls Try.prog 23 #[.pointer (some ⟨b, 0, none⟩)] wr (NextC w wr b dv (.string s) ⟨enc4 n s t l, 8 + 8 + s.size, false⟩) := by
  refine (Text_any wr b dv _ h.rd).mono ?_
  rintro e w' ⟨v, rfl, hm⟩
  obtain ⟨rfl, h1, h2⟩ := hm.right rfl (back_text hn hs).1
  exact ⟨rfl, h.next h1 h2, h2⟩
theorem rs_tree (h : RS w wr b dv ⟨enc4 n s t l, 8 + 8 + s.size, false⟩) (hn : inI64 n) (hs : s.size ≤ 9223372036854775807) (ht : t.in64) :
    Calls Try.prog 25 #[.pointer (some ⟨b, 0, none⟩)] wr fun e w' => ∃ v, e = .returned v ∧ Touched wr w' (fun k => k = b) ∧
      ((t.good ∧ TrAt w' (Fresh wr w') v t ∧ RS w w' b dv ⟨enc4 n s t l, 8 + 8 + s.size + (encT t).length, false⟩) ∨ (¬ t.good ∧ v = zeroNV ∧ ∃ p, RS w w' b dv ⟨enc4 n s t l, p, true⟩)) := by
  refine (Node_any wr b dv _ h.rd).mono ?_
  rintro e w' ⟨v, rfl, hm⟩
  have B := back_tree (l := l) hn hs ht
  by_cases hg : t.good
  · obtain ⟨h0, h1, h2⟩ := hm.right rfl (B.1 hg)
    exact ⟨v, rfl, h2, Or.inl ⟨hg, TrAt.un h0, h.next h1 h2⟩⟩
  · obtain ⟨p, hp⟩ := B.2 hg
    obtain ⟨h0, h1, h2⟩ := hm.wrong rfl hp
    exact ⟨v, rfl, h2, Or.inr ⟨hg, h0, p, h.next h1 h2⟩⟩
theorem rs_steps (h : RS w wr b dv ⟨enc4 n s t l, 8 + 8 + s.size + (encT t).length, false⟩) (hn : inI64 n) (hs : s.size ≤ 9223372036854775807) (hl : ∀ x ∈ l, x.in64) (hl2 : l.length ≤ 9223372036854775807) :
    Calls Try.prog 28 #[.pointer (some ⟨b, 0, none⟩)] wr fun e w' => ∃ a m cap, e = .returned (.slice a m cap) ∧ Touched wr w' (fun k => k = b) ∧
      (((l.length ≤ 60 ∧ ∀ x ∈ l, x.sub.good) ∧ m = l.length ∧ StepsAt w' (Fresh wr w') a l ∧ RS w w' b dv ⟨enc4 n s t l, (enc4 n s t l).length, false⟩) ∨ (¬ (l.length ≤ 60 ∧ ∀ x ∈ l, x.sub.good) ∧ ∃ p, RS w w' b dv ⟨enc4 n s t l, p, true⟩)) := by
  refine (Steps_any wr b dv _ h.rd).mono ?_
  rintro e w' ⟨v, rfl, hm⟩
  have B := back_steps (t := t) hn hs hl hl2
  by_cases hg : l.length ≤ 60 ∧ ∀ x ∈ l, x.sub.good
  · obtain ⟨⟨a, m, cap, rfl, hm0, _, h0⟩, h1, h2⟩ := hm.right rfl (B.1 hg)
    exact ⟨a, m, cap, rfl, h2, Or.inl ⟨hg, by rw [hm0]; simp, StepsAt.un h0, h.next h1 h2⟩⟩
  · obtain ⟨p, hp⟩ := B.2 hg
    obtain ⟨h0, h1, h2⟩ := hm.wrong rfl hp
    subst h0
    exact ⟨none, 0, 0, rfl, h2, Or.inr ⟨hg, p, h.next h1 h2⟩⟩
end
/-- A reader that has failed tells no steps. -/
theorem rs_steps_bad {w wr : World} {b p : Nat} {dv : Value} {d : List UInt8} (h : RS w wr b dv ⟨d, p, true⟩) : Calls Try.prog 28 #[.pointer (some ⟨b, 0, none⟩)] wr (NextC w wr b dv (.slice none 0 0) ⟨d, p, true⟩) := by
  refine (Steps_any wr b dv _ h.rd).mono ?_
  rintro e w' ⟨v, rfl, hm⟩
  obtain ⟨rfl, h1, h2⟩ := hm.failed rfl
  exact ⟨rfl, h.next h1 h2, h2⟩
/-- What End tells. -/
theorem rs_end {w wr : World} {b : Nat} {dv : Value} {s : Rd} (h : RS w wr b dv s) : Calls Try.prog 33 #[.pointer (some ⟨b, 0, none⟩)] wr fun e w' => e = .returned s.endV ∧ RS w w' b dv s ∧ Touched wr w' (fun _ => False) := by
  refine (End_any wr b dv s h.rd).mono ?_
  rintro e w' ⟨v, rfl, rfl, h1, h2⟩
  exact ⟨rfl, h.next h1 ⟨h2.os, h2.tape, h2.output, h2.size, fun k hk _ => h2.block k hk (fun h => h)⟩, h2⟩
/-- Any bytes read as steps. -/
theorem rs_any {w wr : World} {b : Nat} {dv : Value} {d : List UInt8} (h : RS w wr b dv ⟨d, 0, false⟩) : Calls Try.prog 28 #[.pointer (some ⟨b, 0, none⟩)] wr fun e w' => ∃ a m cap, e = .returned (.slice a m cap) ∧ Touched wr w' (fun k => k = b) ∧
    ((∃ (l : List Stp) (q : Nat), m = l.length ∧ StepsAt w' (Fresh wr w') a l ∧ Stand d 0 q (num8 (l.length : Int) ++ encL l) ∧ l.length ≤ 60 ∧ RS w w' b dv ⟨d, q, false⟩) ∨ ∃ p, m = 0 ∧ RS w w' b dv ⟨d, p, true⟩) := by
  refine (Steps_any wr b dv _ h.rd).mono ?_
  rintro e w' ⟨v, rfl, hm⟩
  cases hp : pSteps d 0 with
  | error p =>
    obtain ⟨rfl, h1, h2⟩ := hm.wrong rfl hp
    exact ⟨none, 0, 0, rfl, h2, Or.inr ⟨p, rfl, h.next h1 h2⟩⟩
  | ok x =>
    obtain ⟨l, q⟩ := x
    obtain ⟨⟨a, m, cap, rfl, hm0, _, h0⟩, h1, h2⟩ := hm.right rfl hp
    refine ⟨a, m, cap, rfl, h2, Or.inl ⟨l, q, hm0, h0, pSteps_inv hp, ?_, h.next h1 h2⟩⟩
    exact pSteps_few hp
end Go.Proofs.Ytljlijdgocfofaa
