/-
  What stands ahead of a node's kids, read one behind the other: whether or not a reading fails. No condition.
-/
import Derived.Test.YteccnekdmehloaaDoorDText
namespace Go.Proofs.YteccnekdmehloaaDoor
open Go.RowKit
open Extern.Stop (cell)

theorem aft_ok {α : Type} {s : Rd} {o : Got α} {x : α} {q : Nat} (hb : s.bad = false) (ho : o = .ok (x, q)) : aft s o = { s with pos := q } := by
  unfold aft; rw [if_neg (by rw [hb]; decide), ho]
def BothC {α : Type} (V : α → Value) (w : World) (rb : Nat) (a : Option Addr) (cap : Nat) (s : Rd) (m : Int) (o : Got α) (z : α) (e : Ending) (w' : World) : Prop := ∃ x : α, e = .returned (V x) ∧ RfAt w' rb a cap (aft s o) m ∧ Touched w w' (fun k => k = rb) ∧ (Fz s o → x = z) ∧ ∀ y q, s.bad = false → o = .ok (y, q) → x = y
theorem RefCC.both {α : Type} {V : α → Value} {w : World} {rb : Nat} {a : Option Addr} {cap : Nat} {s : Rd} {m : Int} {o : Got α} {z : α} {f : FuncId} {args : Array Value} (h : Calls Tryd.prog f args w (RefCC (V z) (fun x v _ => v = V x) w rb a cap s m o)) : Calls Tryd.prog f args w (BothC V w rb a cap s m o z) := by
  by_cases hf : Fz s o
  · refine (RefCC.fell h hf).mono ?_
    rintro e w' ⟨rfl, h1, h2⟩
    refine ⟨z, rfl, h1, h2, fun _ => rfl, fun y q hb ho => ?_⟩
    rcases hf with hf | ⟨p, hp⟩
    · rw [hb] at hf; cases hf
    · rw [hp] at ho; cases ho
  · obtain ⟨hb, x, q, ho⟩ := not_fz hf
    refine (RefCC.went h hb ho).mono ?_
    rintro e w' ⟨v, rfl, rfl, h1, h2⟩
    exact ⟨x, rfl, by rw [aft_ok hb ho]; exact h1, h2, fun k => absurd k hf, fun y q' _ hy => by rw [ho] at hy; cases hy; rfl⟩
section
variable {w : World} {rb : Nat} {a : Option Addr} {cap : Nat} {s : Rd} {m : Int}
theorem bNum (h : RfAt w rb a cap s m) : Calls Tryd.prog 66 #[.pointer (some ⟨rb, 0, none⟩)] w (BothC (fun n => .int .i64 n) w rb a cap s m (pNum s.data s.pos) 0) := RefCC.both (dNumber w rb a cap s m h)
theorem bText (h : RfAt w rb a cap s m) : Calls Tryd.prog 67 #[.pointer (some ⟨rb, 0, none⟩)] w (BothC (fun t => .string t) w rb a cap s m (pText s.data s.pos) ⟨#[]⟩) := RefCC.both (dText w rb a cap s m h)
theorem bCount (h : RfAt w rb a cap s m) (size most : Int) (hs : 1 ≤ size) (hs2 : size ≤ 9223372036854775807) : Calls Tryd.prog 68 #[.pointer (some ⟨rb, 0, none⟩), .int .i64 size, .int .i64 most] w (BothC (fun n : Nat => .int .i64 (n : Int)) w rb a cap s m (pCount s.data size most s.pos) 0) := RefCC.both (V := fun n : Nat => .int .i64 (n : Int)) (dCount w rb a cap s m size most hs hs2 h)
end
theorem pNode_succ (d : List UInt8) (f depth m p : Nat) : pNode d (f + 1) depth m p =
    if 40 < depth ∨ 200 < m + 1 then .error p else
    match pNum d p with
    | .error e => .error e
    | .ok (id, q1) => match pNum d q1 with
      | .error e => .error e
      | .ok (kd, q2) => match pText d q2 with
        | .error e => .error e
        | .ok (tx, q3) => match pCount d 32 9223372036854775807 q3 with
          | .error e => .error e
          | .ok (n, q4) => match pList (fun m' q => pNode d f (depth + 1) m' q) n (m + 1) q4 with
            | .error e => .error e
            | .ok ((l, m2), q5) => .ok ((⟨id, kd, tx, foOfC l⟩, m2), q5) := rfl
/-- The four readings ahead of a node's kids. -/
theorem chain_node {s : Rd} {f depth m : Nat} {id kd : Int} {tx : ByteArray} {n : Nat} (hb : s.bad = false) (hl : s.data.length ≤ 100000000) (hd : ¬ (40 < depth ∨ 200 < m + 1))
    (h1 : ∀ y q, s.bad = false → pNum s.data s.pos = .ok (y, q) → id = y)
    (h2 : ∀ y q, (aft s (pNum s.data s.pos)).bad = false → pNum (aft s (pNum s.data s.pos)).data (aft s (pNum s.data s.pos)).pos = .ok (y, q) → kd = y)
    (h3 : ∀ y q, (aft (aft s (pNum s.data s.pos)) (pNum (aft s (pNum s.data s.pos)).data (aft s (pNum s.data s.pos)).pos)).bad = false →
      pText (aft (aft s (pNum s.data s.pos)) (pNum (aft s (pNum s.data s.pos)).data (aft s (pNum s.data s.pos)).pos)).data (aft (aft s (pNum s.data s.pos)) (pNum (aft s (pNum s.data s.pos)).data (aft s (pNum s.data s.pos)).pos)).pos = .ok (y, q) → tx = y)
    {s3 s4 : Rd} (hs3 : s3 = aft (aft (aft s (pNum s.data s.pos)) (pNum (aft s (pNum s.data s.pos)).data (aft s (pNum s.data s.pos)).pos)) (pText (aft (aft s (pNum s.data s.pos)) (pNum (aft s (pNum s.data s.pos)).data (aft s (pNum s.data s.pos)).pos)).data (aft (aft s (pNum s.data s.pos)) (pNum (aft s (pNum s.data s.pos)).data (aft s (pNum s.data s.pos)).pos)).pos))
    (hs4 : s4 = aft s3 (pCount s3.data 32 (s3.data.length : Int) s3.pos)) (h4 : Fz s3 (pCount s3.data 32 (s3.data.length : Int) s3.pos) → n = 0) (h5 : ∀ y q, s3.bad = false → pCount s3.data 32 (s3.data.length : Int) s3.pos = .ok (y, q) → n = y) :
    (n = 0 ∧ ∃ e, pNode s.data (f + 1) depth m s.pos = .error e ∧ s4 = { s with pos := e, bad := true }) ∨
    ∃ q4, s4 = { s with pos := q4 } ∧ n ≤ s.data.length ∧ pNode s.data (f + 1) depth m s.pos = match pList (fun m' q => pNode s.data f (depth + 1) m' q) n (m + 1) q4 with
      | .error e => .error e
      | .ok ((l, m2), q5) => .ok ((⟨id, kd, tx, foOfC l⟩, m2), q5) := by
  rw [pNode_succ, if_neg hd]
  cases e1 : pNum s.data s.pos with
  | error p =>
    rw [e1] at hs3
    have a1 : aft s (.error p : Got Int) = { s with pos := p, bad := true } := aft_err hb rfl
    rw [a1, aft_stuck _ rfl, aft_stuck _ rfl] at hs3
    have hb3 : s3.bad = true := by rw [hs3]
    rw [aft_stuck _ hb3, hs3] at hs4
    exact Or.inl ⟨h4 (Or.inl hb3), p, rfl, hs4⟩
  | ok x1 =>
    obtain ⟨y1, q1⟩ := x1
    have a1 : aft s (.ok (y1, q1) : Got Int) = { s with pos := q1 } := aft_ok hb rfl
    have i1 := h1 y1 q1 hb e1
    rw [e1] at h2 h3 hs3
    rw [a1] at h2 h3 hs3
    dsimp only at h2 h3 hs3
    cases e2 : pNum s.data q1 with
    | error p =>
      rw [e2] at hs3
      have a2 : aft { s with pos := q1 } (.error p : Got Int) = { s with pos := p, bad := true } := aft_err hb rfl
      rw [a2, aft_stuck _ rfl] at hs3
      have hb3 : s3.bad = true := by rw [hs3]
      rw [aft_stuck _ hb3, hs3] at hs4
      exact Or.inl ⟨h4 (Or.inl hb3), p, by simp only [e2], hs4⟩
    | ok x2 =>
      obtain ⟨y2, q2⟩ := x2
      have a2 : aft { s with pos := q1 } (.ok (y2, q2) : Got Int) = { s with pos := q2 } := aft_ok hb rfl
      have i2 := h2 y2 q2 hb e2
      rw [e2] at h3 hs3
      rw [a2] at h3 hs3
      dsimp only at h3 hs3
      cases e3 : pText s.data q2 with
      | error p =>
        rw [e3] at hs3
        have a3 : aft { s with pos := q2 } (.error p : Got ByteArray) = { s with pos := p, bad := true } := aft_err hb rfl
        rw [a3] at hs3
        have hb3 : s3.bad = true := by rw [hs3]
        rw [aft_stuck _ hb3, hs3] at hs4
        exact Or.inl ⟨h4 (Or.inl hb3), p, by simp only [e2, e3], hs4⟩
      | ok x3 =>
        obtain ⟨y3, q3⟩ := x3
        have a3 : aft { s with pos := q2 } (.ok (y3, q3) : Got ByteArray) = { s with pos := q3 } := aft_ok hb rfl
        have i3 := h3 y3 q3 hb e3
        rw [e3, a3] at hs3
        subst hs3
        dsimp only at hs4 h4 h5
        rw [pCount_len q3 hl] at hs4 h4 h5
        cases e4 : pCount s.data 32 9223372036854775807 q3 with
        | error p =>
          rw [e4] at hs4 h4
          have a4 : aft { s with pos := q3 } (.error p : Got Nat) = { s with pos := p, bad := true } := aft_err hb rfl
          rw [a4] at hs4
          exact Or.inl ⟨h4 (Or.inr ⟨p, rfl⟩), p, by simp only [e2, e3, e4], hs4⟩
        | ok x4 =>
          obtain ⟨y4, q4⟩ := x4
          have a4 : aft { s with pos := q3 } (.ok (y4, q4) : Got Nat) = { s with pos := q4 } := aft_ok hb rfl
          have i4 := h5 y4 q4 hb e4
          rw [e4, a4] at hs4
          have hk := pCount_ok e4
          refine Or.inr ⟨q4, hs4, by omega, ?_⟩
          simp only [e2, e3, e4]
          rw [i1, i2, i3, i4]
end Go.Proofs.YteccnekdmehloaaDoor
