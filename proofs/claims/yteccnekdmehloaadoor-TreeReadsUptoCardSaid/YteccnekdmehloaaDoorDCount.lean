/-
  The document's Count. No condition but that the size is from 1.
-/
import Derived.Test.YteccnekdmehloaaDoorDNum
namespace Go.Proofs.YteccnekdmehloaaDoor
open Go.RowKit
open Extern.Stop (cell)

theorem pCount_err {d : List UInt8} {size most : Int} {p e : Nat} (h : pNum d p = .error e) : pCount d size most p = .error e := by unfold pCount; rw [h]
theorem pCount_of {d : List UInt8} {size most : Int} {p : Nat} {n : Int} {q : Nat} (h : pNum d p = .ok (n, q)) : pCount d size most p = if n < 0 ∨ n > most ∨ n > ((d.length : Int) - q) / size then .error p else .ok (n.toNat, q) := by unfold pCount; rw [h]
/-- A count as a number. -/
def CntV (n : Nat) (v : Value) (_ : World) : Prop := v = .int .i64 (n : Int)
/-- A reading fails, or had failed before. -/
def Fz {α : Type} (s : Rd) (o : Got α) : Prop := s.bad = true ∨ ∃ p, o = .error p
/-- How a reader stands then. -/
def aft {α : Type} (s : Rd) (o : Got α) : Rd := if s.bad then s else match o with
  | .ok (_, q) => { s with pos := q }
  | .error p => { s with pos := p, bad := true }
theorem aft_bad {α : Type} {s : Rd} {o : Got α} (h : Fz s o) : (aft s o).bad = true := by
  unfold aft
  rcases h with hb | ⟨p, rfl⟩
  · rw [if_pos hb]; exact hb
  · by_cases hb : s.bad = true
    · rw [if_pos hb]; exact hb
    · rw [if_neg hb]
theorem aft_stuck {α : Type} {s : Rd} (o : Got α) (h : s.bad = true) : aft s o = s := if_pos h
theorem aft_data {α : Type} (s : Rd) (o : Got α) : (aft s o).data = s.data := by
  unfold aft
  split
  · rfl
  · split <;> rfl
theorem aft_err {α : Type} {s : Rd} {o : Got α} {p : Nat} (hb : s.bad = false) (ho : o = .error p) : aft s o = { s with pos := p, bad := true } := by
  unfold aft; rw [if_neg (by rw [hb]; decide), ho]
/-- What a call that fails does. -/
def FellR (z : Value) (w : World) (rb : Nat) (a : Option Addr) (cap : Nat) (s' : Rd) (m : Int) (e : Ending) (w' : World) : Prop := e = .returned z ∧ RfAt w' rb a cap s' m ∧ Touched w w' (fun k => k = rb)
theorem RefCC.fell {α : Type} {z : Value} {V : α → Value → World → Prop} {w : World} {rb : Nat} {a : Option Addr} {cap : Nat} {s : Rd} {m : Int} {o : Got α} {f : FuncId} {args : Array Value} (h : Calls Tryd.prog f args w (RefCC z V w rb a cap s m o)) (hf : Fz s o) : Calls Tryd.prog f args w (FellR z w rb a cap (aft s o) m) := by
  refine h.mono ?_
  rintro e w' ⟨v, rfl, hr⟩
  by_cases hb : s.bad = true
  · obtain ⟨rfl, h2⟩ := hr.bad hb
    exact ⟨rfl, by rw [aft_stuck o hb]; exact h2, hr.1⟩
  · have hb : s.bad = false := by simpa using hb
    rcases hf with hf | ⟨p, rfl⟩
    · rw [hb] at hf; cases hf
    · obtain ⟨rfl, h2⟩ := hr.err hb rfl
      exact ⟨rfl, by rw [aft_err hb rfl]; exact h2, hr.1⟩
/-- What a call that goes does. -/
def WentR {α : Type} (V : α → Value → World → Prop) (x : α) (w : World) (rb : Nat) (a : Option Addr) (cap : Nat) (s' : Rd) (m : Int) (e : Ending) (w' : World) : Prop := ∃ v, e = .returned v ∧ V x v w' ∧ RfAt w' rb a cap s' m ∧ Touched w w' (fun k => k = rb)
theorem RefCC.went {α : Type} {z : Value} {V : α → Value → World → Prop} {w : World} {rb : Nat} {a : Option Addr} {cap : Nat} {s : Rd} {m : Int} {o : Got α} {f : FuncId} {args : Array Value} {x : α} {q : Nat} (h : Calls Tryd.prog f args w (RefCC z V w rb a cap s m o)) (hb : s.bad = false) (ho : o = .ok (x, q)) : Calls Tryd.prog f args w (WentR V x w rb a cap { s with pos := q } m) := by
  refine h.mono ?_
  rintro e w' ⟨v, rfl, hr⟩
  obtain ⟨h1, h2⟩ := hr.ok hb ho
  exact ⟨v, rfl, h1, h2, hr.1⟩
/-- Of both, what is asked. -/
theorem RefCC.of_fell {α : Type} {z : Value} {V : α → Value → World → Prop} {w w' : World} {rb : Nat} {a : Option Addr} {cap : Nat} {s : Rd} {m : Int} {o : Got α} (hf : Fz s o) (h : RfAt w' rb a cap (aft s o) m) (ht : Touched w w' (fun k => k = rb)) : RefCC z V w rb a cap s m o (.returned z) w' := by
  refine ⟨z, rfl, ?_⟩
  by_cases hb : s.bad = true
  · exact RefR.sticky hb ht (by rw [aft_stuck o hb] at h; exact h) rfl
  · have hb : s.bad = false := by simpa using hb
    rcases hf with hf | ⟨p, ho⟩
    · rw [hb] at hf; cases hf
    · exact RefR.wrong hb ho ht rfl (by rw [aft_err hb ho] at h; exact h)
theorem RefCC.of_went {α : Type} {z : Value} {V : α → Value → World → Prop} {w w' : World} {rb : Nat} {a : Option Addr} {cap : Nat} {s : Rd} {m : Int} {o : Got α} {x : α} {q : Nat} {v : Value} (hb : s.bad = false) (ho : o = .ok (x, q)) (hV : V x v w') (h : RfAt w' rb a cap { s with pos := q } m) (ht : Touched w w' (fun k => k = rb)) : RefCC z V w rb a cap s m o (.returned v) w' :=
  ⟨v, rfl, RefR.okay hb ho ht hV h⟩
theorem RfAt.failedP {w : World} {rb : Nat} {a : Option Addr} {cap : Nat} {s : Rd} {m : Int} (h : RfAt w rb a cap s m) (hb : s.bad = true) : ∃ p : Int, 0 ≤ p ∧ w.cell? ⟨rb, 2, none⟩ = some (.int .i64 p) := ⟨s.pos, by omega, h.failed hb⟩
/-- A failing, for one reading or another, is the same failing. -/
theorem aft_same {α β : Type} {s : Rd} {o : Got α} {o' : Got β} (h : ∀ p, o = .error p → o' = .error p) (hf : Fz s o) : aft s o' = aft s o ∧ Fz s o' := by
  by_cases hb : s.bad = true
  · exact ⟨by rw [aft_stuck _ hb, aft_stuck _ hb], Or.inl hb⟩
  · have hb' : s.bad = false := by simpa using hb
    rcases hf with hf | ⟨p, ho⟩
    · exact absurd hf hb
    · exact ⟨by rw [aft_err hb' ho, aft_err hb' (h p ho)], Or.inr ⟨p, h p ho⟩⟩

set_option maxRecDepth 100000 in
set_option maxHeartbeats 1000000 in
theorem dCount (w : World) (rb : Nat) (a : Option Addr) (cap : Nat) (s : Rd) (m size most : Int) (hs : 1 ≤ size) (hs2 : size ≤ 9223372036854775807) (h : RfAt w rb a cap s m) :
    Calls Tryd.prog 68 #[.pointer (some ⟨rb, 0, none⟩), .int .i64 size, .int .i64 most] w (RefCC (.int .i64 0) CntV w rb a cap s m (pCount s.data size most s.pos)) := by
  have hN := dNumber w rb a cap s m h
  obtain ⟨_, _, _, _, at_, c1, hat⟩ := h.cells
  have hfew := h.few
  have hfits := h.fits
  by_cases hf : Fz s (pNum s.data s.pos)
  · have HN := Lib.hid (RefCC.fell hN hf)
    have hf2 := aft_same (o' := pCount s.data size most s.pos) (fun p => pCount_err) hf
    have HF := Lib.hid (And.intro hf2 (aft_bad hf))
    clear hN h hat hf hf2
    go_enter Tryd.func68, Tryd.ntmps68
    go_wp2_with (go_at_call 66; refine HN.out.mono ?_; clear HN; rintro e w1 ⟨rfl, h1, h2⟩; obtain ⟨p', h0, c2⟩ := h1.failedP HF.out.2; have HR := Lib.hid (And.intro h1 h2); clear h1 h2)
    go_ret
    exact RefCC.of_fell HF.out.1.2 (by rw [HF.out.1.1]; exact HR.out.1) HR.out.2
  · obtain ⟨hb, n, q, hp⟩ : s.bad = false ∧ ∃ n q, pNum s.data s.pos = .ok (n, q) := by
      refine ⟨by by_cases hb : s.bad = true; exact absurd (Or.inl hb) hf; simpa using hb, ?_⟩
      cases hp : pNum s.data s.pos with
      | error p => exact absurd (Or.inr ⟨p, hp⟩) hf
      | ok x => exact ⟨x.1, x.2, rfl⟩
    have HN := Lib.hid (RefCC.went hN hb hp)
    obtain ⟨hq1, hq2⟩ := pNum_ok hp
    have hat' := hat hb
    subst hat'
    have hdiv0 : 0 ≤ ((s.data.length : Int) - (q : Int)) / size := Int.ediv_nonneg (by omega) (by omega)
    have htd : ((s.data.length : Int) - (q : Int)).tdiv size = ((s.data.length : Int) - (q : Int)) / size := Int.tdiv_eq_ediv_of_nonneg (by omega)
    obtain ⟨dd, hdd⟩ : ∃ dd, dd = ((s.data.length : Int) - (q : Int)) / size := ⟨_, rfl⟩
    have hpc := pCount_of (size := size) (most := most) hp
    rw [← hdd] at hdiv0 htd hpc
    have HP := Lib.hid (And.intro hb hpc)
    have hw1 : IntKind.i64.wrap ((s.data.length : Int) - (q : Int)) = (s.data.length : Int) - (q : Int) := by rw [IntKind.wrap_i64]; omega
    have hsz : decide (size < 1) = false := by simp; omega
    have hsz0 : ¬ size = 0 := by omega
    have hdd1 : dd ≤ 100000000 := by
      rw [hdd]
      have := Int.ediv_le_self (a := (s.data.length : Int) - (q : Int)) size (by omega)
      omega
    clear hN h hat hf hp hdd hq1 hq2 hpc
    by_cases hbad : n < 0 ∨ n > most ∨ n > dd
    · have HB := Lib.hid hbad
      have HF := Lib.hid (fun (X : World) (k : Nat) (hX : RfAt X rb a cap { s with pos := q } m) => fails_any (X.drewN k) rb a cap { s with pos := q } m s.pos (hX.drewN k) HP.out.1 hfits)
      have hcase : (decide (n < 0) = true) ∨ (decide (n < 0) = false ∧ decide (most < n) = true) ∨ (decide (n < 0) = false ∧ decide (most < n) = false ∧ decide (dd < n) = true) := by
        simp only [decide_eq_true_eq, decide_eq_false_iff_not]; omega
      clear hbad
      rcases hcase with d0 | ⟨d0, d1⟩ | ⟨d0, d1, d2⟩
      all_goals (
        go_enter Tryd.func68, Tryd.ntmps68
        go_wp2_with (first
          | (go_at_call 66; refine HN.out.mono ?_; clear HN; rintro e w1 ⟨v, rfl, rfl, h1, h2⟩; obtain ⟨e0, e1, e2, e3, ef⟩ := h1.good HP.out.1; have HR := Lib.hid (And.intro h1 h2); clear h1 h2)
          | (go_at_call 65; refine (HF.out _ _ HR.out.1).mono ?_; rintro e w2 ⟨rfl, h1, h2⟩; have H2 := Lib.hid (And.intro h1 h2); clear h1 h2)
          | go_quiet (fail))
        go_ret
        exact RefCC.of_fell (Or.inr ⟨s.pos, by rw [HP.out.2, if_pos HB.out]⟩) (by rw [aft_err HP.out.1 (show pCount s.data size most s.pos = .error s.pos by rw [HP.out.2, if_pos HB.out])]; exact H2.out.1) (HR.out.2.trans ((drewN_touched w1 _ _).trans H2.out.2 (fun k hk => Or.inl hk)) (fun k hk => Or.inl hk)))
    · have HB := Lib.hid hbad
      have d0 : decide (n < 0) = false := by simp only [decide_eq_false_iff_not]; omega
      have d1 : decide (most < n) = false := by simp only [decide_eq_false_iff_not]; omega
      have d2 : decide (dd < n) = false := by simp only [decide_eq_false_iff_not]; omega
      have hn0 : (n.toNat : Int) = n := by omega
      have HN0 := Lib.hid hn0
      clear hbad hn0
      go_enter Tryd.func68, Tryd.ntmps68
      go_wp2_with (first
        | (go_at_call 66; refine HN.out.mono ?_; clear HN; rintro e w1 ⟨v, rfl, rfl, h1, h2⟩; obtain ⟨e0, e1, e2, e3, ef⟩ := h1.good HP.out.1; have HR := Lib.hid (And.intro h1 h2); clear h1 h2)
        | go_quiet (fail))
      go_ret
      exact RefCC.of_went HP.out.1 (by rw [HP.out.2, if_neg HB.out]) (by show _ = Value.int .i64 (n.toNat : Int); rw [HN0.out]; rfl) (HR.out.1.drewN _) (HR.out.2.trans (drewN_touched w1 _ _) (fun k hk => Or.inl hk))
end Go.Proofs.YteccnekdmehloaaDoor
