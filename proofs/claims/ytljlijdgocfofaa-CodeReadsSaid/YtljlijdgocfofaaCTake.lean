/-
  A reader of layer 3: the next bytes, or its failing. No condition.
-/
import Derived.Test.YtljlijdgocfofaaCBase
namespace Go.Proofs.Ytljlijdgocfofaa
open Go.RowKit
open Extern.Stop (cell)

/-- The bytes that it hands out: they stay the reader's. -/
def TakeC (w : World) (b : Nat) (dv : Value) (s : Rd) (n : Nat) (e : Ending) (w' : World) : Prop :=
  ∃ g o cap, e = .returned (.slice (some ⟨g, o, none⟩) n cap) ∧ dv.ownBlock = some g ∧ (∀ j u, ((s.data.drop s.pos).take n)[j]? = some u → w'.cell? ⟨g, o + j, none⟩ = some (cell u)) ∧ RdAt w' b dv { s with pos := s.pos + n } ∧ Touched w w' (fun k => k = b)

theorem TakeC.mk {w : World} {b g o cap cap' n m : Nat} {s : Rd} {w' : World} (i : Int) (hi : i = ((s.pos + n : Nat) : Int)) (k1 k2 : Nat) (h : RdAt w b (.slice (some ⟨g, 0, none⟩) m cap) s) (hn : s.pos + n ≤ s.data.length) (ho : o = s.pos ∨ n = 0)
    (hw : w' = (((w.drewN k1).setCell ⟨b, 1, none⟩ (.int .i64 i)).drewN k2)) : TakeC w b (.slice (some ⟨g, 0, none⟩) m cap) s n (.returned (.slice (some ⟨g, o, none⟩) n cap')) w' := by
  subst hi
  have hr : RdAt w' b (.slice (some ⟨g, 0, none⟩) m cap) { s with pos := s.pos + n } := by rw [hw]; exact (((h.drewN k1).move _ hn).drewN k2)
  refine ⟨g, o, cap', rfl, rfl, fun j u hj => ?_, hr, ?_⟩
  · have hjn : j < n := by
      have := (List.getElem?_eq_some_iff.1 hj).1
      simp at this; omega
    rw [List.getElem?_take_of_lt hjn, List.getElem?_drop] at hj
    rcases ho with rfl | rfl
    · exact hr.cell _ u hj
    · omega
  · rw [hw]
    exact Touched.drewN (((Touched.refl w (fun k => k = b)).drewN k1).trans (Touched.setCell (S := fun k => k = b) (a := ⟨b, 1, none⟩) rfl _) (fun k hk => Or.inl hk)) k2

set_option maxRecDepth 100000 in
set_option maxHeartbeats 1000000 in
theorem take_ok (w : World) (b : Nat) (dv : Value) (s : Rd) (h : RdAt w b dv s) (n : Nat) (hn : s.pos + n ≤ s.data.length) (h0 : s.data ≠ []) :
    Calls Try.prog 60 #[.pointer (some ⟨b, 0, none⟩), .int .i64 (n : Int)] w (TakeC w b dv s n) := by
  obtain ⟨c0, c1, c2, f⟩ := h.cells
  rcases h.form with ⟨_, hd⟩ | ⟨g, cap, rfl, hc, hm, hg, hcell⟩
  · exact absurd hd h0
  have hfit := h.fits
  have hfew := h.few
  have HR := Lib.hid h
  have hd : decide ((n : Int) > (s.data.length : Int) - (s.pos : Int)) = false := by simp; omega
  clear h h0 hcell c2
  go_enter Try.func60, Try.ntmps60
  go_wp2_with (go_quiet (fail))
  · go_ret
    exact TakeC.mk _ (by omega) _ _ (by have h' := HR.out; rw [h] at h'; exact h') hn (Or.inr (by omega)) rfl
  · go_ret
    exact TakeC.mk _ (by omega) _ _ HR.out hn (Or.inl rfl) rfl

set_option maxRecDepth 100000 in
set_option maxHeartbeats 1000000 in
theorem take_bad (w : World) (b : Nat) (dv : Value) (s : Rd) (h : RdAt w b dv s) (n : Nat) (hn : s.data.length < s.pos + n) :
    Calls Try.prog 60 #[.pointer (some ⟨b, 0, none⟩), .int .i64 (n : Int)] w (FellC w b dv s s.data.length) := by
  obtain ⟨c0, c1, c2, f⟩ := h.cells
  obtain ⟨a, cap, hdv⟩ : ∃ a cap, dv = .slice a s.data.length cap := by
    rcases h.form with ⟨rfl, hd⟩ | ⟨g, cap, rfl, _⟩
    · exact ⟨none, 0, by rw [hd]; rfl⟩
    · exact ⟨_, cap, rfl⟩
  have HF : Hid (∀ k : Nat, Calls Try.prog 65 #[.pointer (some ⟨b, 0, none⟩), .int .i64 (s.data.length : Int)] (w.drewN k) (FellC (w.drewN k) b dv s s.data.length)) := Lib.hid (fun k => fail_any _ b dv s (h.drewN k) _ (Nat.le_refl _))
  have hfit := h.fits
  have hfew := h.few
  subst hdv
  have hd : decide ((n : Int) > (s.data.length : Int) - (s.pos : Int)) = true := by simp; omega
  clear h c2
  go_enter Try.func60, Try.ntmps60
  go_wp2_with (first
    | (go_at_call 65; refine (HF.out _).mono ?_; rintro e w1 ⟨rfl, h1, h2⟩)
    | go_quiet (fail))
  exact ⟨rfl, rfl, h1, ((Touched.refl w (fun k => k = b)).drewN _).trans h2 (fun k hk => Or.inl hk)⟩
end Go.Proofs.Ytljlijdgocfofaa
