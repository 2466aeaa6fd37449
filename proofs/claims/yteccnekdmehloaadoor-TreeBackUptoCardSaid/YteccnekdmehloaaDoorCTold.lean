/-
  A reader of layer 3: the next bytes, or its failing. No condition.
  A reader of layer 3: the next number, or its failing. No condition.
  told, over each kind of thing: what it answers of no reader, of one that failed, of one that reads, of one that fails. No condition.
-/
import Derived.Test.YteccnekdmehloaaDoorCBase
namespace Go.Proofs.YteccnekdmehloaaDoor
open Go.RowKit
open Extern.Stop (cell)

/-- The bytes that it hands out: they stay the reader's. -/
def TakeC (w : World) (b : Nat) (dv : Value) (s : Rd) (n : Nat) (e : Ending) (w' : World) : Prop :=
  ∃ g o cap, e = .returned (.slice (some ⟨g, o, none⟩) n cap) ∧ dv.ownBlock = some g ∧ (∀ j u, ((s.data.drop s.pos).take n)[j]? = some u → w'.cell? ⟨g, o + j, none⟩ = some (cell u)) ∧ RdAt w' b dv { s with pos := s.pos + n } ∧ Touched w w' (fun k => k = b)

theorem TakeC.mk {w : World} {b g o cap cap' n m : Nat} {s : Rd} {w' : World} (i : Int) (hi : i = ((s.pos + n : Nat) : Int)) (k1 k2 : Nat) (h : RdAt w b (.slice (some ⟨g, 0, none⟩) m cap) s) (hn : s.pos + n ≤ s.data.length) (ho : o = s.pos ∨ n = 0)
    (hw : w' = (((w.drewN k1).setCell ⟨b, 1, none⟩ (.int .i64 i)).drewN k2)) : TakeC w b (.slice (some ⟨g, 0, none⟩) m cap) s n (.returned (.slice (some ⟨g, o, none⟩) n cap')) w' := by
  subst hi
  have hr : RdAt w' b (.slice (some ⟨g, 0, none⟩) m cap) { s with pos := s.pos + n } := by rw [hw]; exact (((h.drewN k1).move _ hn).drewN k2)
  refine ⟨g, o, cap', rfl, rfl, fun j u hj => ?_, hr, ?_⟩
  · have hjn : j < n := by
      have := (List.getElem?_eq_some_iff.1 hj).1
      simp at this; omega
    rw [List.getElem?_take_of_lt hjn, List.getElem?_drop] at hj
    rcases ho with rfl | rfl
    · exact hr.cell _ u hj
    · omega
  · rw [hw]
    exact Touched.drewN (((Touched.refl w (fun k => k = b)).drewN k1).trans (Touched.setCell (S := fun k => k = b) (a := ⟨b, 1, none⟩) rfl _) (fun k hk => Or.inl hk)) k2

set_option maxRecDepth 100000 in
set_option maxHeartbeats 1000000 in
theorem take_ok (w : World) (b : Nat) (dv : Value) (s : Rd) (h : RdAt w b dv s) (n : Nat) (hn : s.pos + n ≤ s.data.length) (h0 : s.data ≠ []) :
    Calls Tryd.prog 77 #[.pointer (some ⟨b, 0, none⟩), .int .i64 (n : Int)] w (TakeC w b dv s n) := by
  obtain ⟨c0, c1, c2, f⟩ := h.cells
  rcases h.form with ⟨_, hd⟩ | ⟨g, cap, rfl, hc, hm, hg, hcell⟩
  · exact absurd hd h0
  have hfit := h.fits
  have hfew := h.few
  have HR := Lib.hid h
  have hd : decide ((n : Int) > (s.data.length : Int) - (s.pos : Int)) = false := by simp; omega
  clear h h0 hcell c2
  go_enter Tryd.func77, Tryd.ntmps77
  go_wp2_with (go_quiet (fail))
  · go_ret
    exact TakeC.mk _ (by omega) _ _ (by have h' := HR.out; rw [h] at h'; exact h') hn (Or.inr (by omega)) rfl
  · go_ret
    exact TakeC.mk _ (by omega) _ _ HR.out hn (Or.inl rfl) rfl

set_option maxRecDepth 100000 in
set_option maxHeartbeats 1000000 in
theorem take_bad (w : World) (b : Nat) (dv : Value) (s : Rd) (h : RdAt w b dv s) (n : Nat) (hn : s.data.length < s.pos + n) :
    Calls Tryd.prog 77 #[.pointer (some ⟨b, 0, none⟩), .int .i64 (n : Int)] w (FellC w b dv s s.data.length) := by
  obtain ⟨c0, c1, c2, f⟩ := h.cells
  obtain ⟨a, cap, hdv⟩ : ∃ a cap, dv = .slice a s.data.length cap := by
    rcases h.form with ⟨rfl, hd⟩ | ⟨g, cap, rfl, _⟩
    · exact ⟨none, 0, by rw [hd]; rfl⟩
    · exact ⟨_, cap, rfl⟩
  have HF : Hid (∀ k : Nat, Calls Tryd.prog 59 #[.pointer (some ⟨b, 0, none⟩), .int .i64 (s.data.length : Int)] (w.drewN k) (FellC (w.drewN k) b dv s s.data.length)) := Lib.hid (fun k => fail_any _ b dv s (h.drewN k) _ (Nat.le_refl _))
  have hfit := h.fits
  have hfew := h.few
  subst hdv
  have hd : decide ((n : Int) > (s.data.length : Int) - (s.pos : Int)) = true := by simp; omega
  clear h c2
  go_enter Tryd.func77, Tryd.ntmps77
  go_wp2_with (first
    | (go_at_call 59; refine (HF.out _).mono ?_; rintro e w1 ⟨rfl, h1, h2⟩)
    | go_quiet (fail))
  exact ⟨rfl, rfl, h1, ((Touched.refl w (fun k => k = b)).drewN _).trans h2 (fun k hk => Or.inl hk)⟩
end Go.Proofs.YteccnekdmehloaaDoor
namespace Go.Proofs.YteccnekdmehloaaDoor
open Go.RowKit
open Extern.Stop (cell)

theorem number_bad (w : World) (b : Nat) (dv : Value) (s : Rd) (h : RdAt w b dv s) (hn : s.data.length < s.pos + 8) :
    Calls Tryd.prog 60 #[.pointer (some ⟨b, 0, none⟩)] w (FellC w b dv s s.data.length) := by
  have HT := Lib.hid (take_bad w b dv s h 8 hn)
  clear h hn
  go_enter Tryd.func60, Tryd.ntmps60
  go_wp2_with (go_at_call 77; refine HT.out.mono ?_; rintro e w1 ⟨rfl, h1, h2⟩)
  exact ⟨rfl, rfl, h1, h2⟩

/-- One more byte behind a number. -/
def numStep (m : Int) (u : UInt8) : Int := bits BinOp.or IntKind.i64 (wrap64 (m * 256)) (wrap64 (u.toNat : Int))
def numOf (l : List UInt8) : Int := l.foldl numStep 0
theorem numOf_take (l : List UInt8) (k : Nat) (u : UInt8) (h : l[k]? = some u) : numOf (l.take (k + 1)) = numStep (numOf (l.take k)) u := by
  rw [List.take_add_one, h]; simp [numOf, List.foldl_append]
/-- The number that a reader reads next. -/
def Rd.num (s : Rd) : Int := numOf ((s.data.drop s.pos).take 8)
def NumC (w : World) (b : Nat) (dv : Value) (s : Rd) (e : Ending) (w' : World) : Prop := e = .returned (.int .i64 s.num) ∧ RdAt w' b dv { s with pos := s.pos + 8 } ∧ Touched w w' (fun k => k = b)

theorem number_ok (w : World) (b : Nat) (dv : Value) (s : Rd) (h : RdAt w b dv s) (hn : s.pos + 8 ≤ s.data.length) :
    Calls Tryd.prog 60 #[.pointer (some ⟨b, 0, none⟩)] w (NumC w b dv s) := by
  have HT := Lib.hid (take_ok w b dv s h 8 hn (by intro e; rw [e] at hn; simp at hn))
  clear h
  go_enter Tryd.func60, Tryd.ntmps60
  go_wp2_with (go_at_call 77; refine HT.out.mono ?_; rintro e w1 ⟨g, o, cap, rfl, hg, hc, h1, h2⟩)
  have HB := Lib.hid (And.intro hc (And.intro h1 h2))
  have hlen : ((s.data.drop s.pos).take 8).length = 8 := by simp; omega
  obtain ⟨bs, hbs⟩ : ∃ bs, bs = (s.data.drop s.pos).take 8 := ⟨_, rfl⟩
  rw [← hbs] at HB hlen
  have HB2 := Lib.hid (And.intro hbs hlen)
  clear hc h1 h2 HT hn hbs hg
  go_loop [3, 5, 9] (fun n _ i => ∃ k : Nat, k ≤ 8 ∧ i = .int .i64 k ∧ n = .int .i64 (numOf (bs.take k))) (fun _ _ i => 8 - (intOf i).toNat)
  case atStart => exact ⟨0, Nat.zero_le _, rfl, rfl⟩
  case round =>
    obtain ⟨k, hk, rfl, rfl⟩ := hrel
    by_cases hlt : k < 8
    · obtain ⟨u, hu⟩ : ∃ u, bs[k]? = some u := ⟨bs[k]'(by omega), List.getElem?_eq_getElem _⟩
      have q0 : w1.cell? ⟨g, o + k, none⟩ = some (.int .u8 u.toNat) := HB.out.1 k u hu
      have HU := Lib.hid (numOf_take bs k u hu)
      have hkl : (k : Int) < 8 := by omega
      obtain ⟨m, hm⟩ : ∃ m, m = numOf (bs.take k) := ⟨_, rfl⟩
      rw [← hm] at HU ⊢
      clear hu hlen hm
      go_wp2_with fail
      exact ⟨⟨k + 1, by omega, by go_num, by rw [HU.out]; rfl⟩, by simp [intOf]; omega⟩
    · have hkl : ¬ (k : Int) < 8 := by omega
      have hk8 : k = 8 := by omega
      subst hk8
      obtain ⟨m, hm⟩ : ∃ m, m = numOf (bs.take 8) := ⟨_, rfl⟩
      have HM := Lib.hid hm
      rw [← hm]
      clear hm hlen
      go_wp2_with fail
      go_ret
      refine ⟨?_, HB.out.2.1, HB.out.2.2⟩
      rw [HM.out, List.take_of_length_le (by have := HB2.out.2; omega), HB2.out.1]; rfl
end Go.Proofs.YteccnekdmehloaaDoor
namespace Go.Proofs.YteccnekdmehloaaDoor
open Go.RowKit
open Extern.Stop (cell)

abbrev boxOf (b : Nat) : Obj := .cells #[.pointer (some ⟨b, 0, none⟩)] 47
/-- What a function of a reader that is told answers, where it does not fail. -/
def ReadC (K : Value → World → Prop) (w : World) (b : Nat) (dv : Value) (s' : Rd) (e : Ending) (w' : World) : Prop := ∃ v, e = .returned v ∧ K v w' ∧ RdAt w' b dv s' ∧ Touched w w' (fun k => k = b)
/-- .. and where it fails: z, the zero thing. -/
def ZeroC (z : Value) (w : World) (b : Nat) (dv : Value) (s' : Rd) (e : Ending) (w' : World) : Prop := e = .returned z ∧ RdAt w' b dv s' ∧ Touched w w' (fun k => k = b)
theorem catch_fell_node (w : World) (x b : Nat) (hx : w.cell? ⟨x, 0, none⟩ = some (.pointer (some ⟨b, 0, none⟩))) (hb : w.cell? ⟨b, 2, none⟩ = some (.bool true)) (pv : Value) (older : List PanicEntry) :
    CallsD Tryd.prog 57 #[.pointer (some ⟨x, 0, none⟩)] (.panicking ({ v := pv, recovered := false } :: older)) w fun e u' w' =>
      e = .returned (.tuple #[]) ∧ u' = .panicking ({ v := pv, recovered := true } :: older) ∧ w' = w := by
  refine callsD_of_wpS Tryd.func57 rfl fun c₀ cs hu => ?_
  apply wpS_seq
  apply wpS_region
  simp [wpOpsS, go_sem, hx, hb, Tryd.ntmps57, Exit.thenS]
  refine wpS_cond (t := true) (by simp [Act.eval]) ?_
  simp only [if_true]
  apply wpS_region
  simp [wpOpsS, go_sem, recoverD, hu, bodyPostS, results, Tryd.results57]
theorem catch_idle_node (w : World) (x b : Nat) (hx : w.cell? ⟨x, 0, none⟩ = some (.pointer (some ⟨b, 0, none⟩))) (hb : w.cell? ⟨b, 2, none⟩ = some (.bool false)) :
    CallsD Tryd.prog 57 #[.pointer (some ⟨x, 0, none⟩)] .returning w fun e u' w' =>
      e = .returned (.tuple #[]) ∧ u' = .returning ∧ w' = w := by
  refine callsD_of_wpS Tryd.func57 rfl fun c₀ cs hu => ?_
  apply wpS_seq
  apply wpS_region
  simp [wpOpsS, go_sem, hx, hb, Tryd.ntmps57, Exit.thenS]
  refine wpS_cond (t := false) (by simp [Act.eval]) ?_
  simp only [Bool.false_eq_true, if_false]
  refine wpS_of_wp (wp_skip ?_)
  cases c₀
  simp_all [bodyPostS, results, Tryd.results57]

end Go.Proofs.YteccnekdmehloaaDoor
