/-
  The document's Small and Count. No condition.
-/
import Derived.Test.YtljlijdgocfofaaDNum
namespace Go.Proofs.Ytljlijdgocfofaa
open Go.RowKit
open Extern.Stop (cell)

set_option maxRecDepth 100000 in
set_option maxHeartbeats 1000000 in
theorem dSmall (w : World) (rb : Nat) (a : Option Addr) (cap : Nat) (s : Rd) (m : Int) (h : RfAt w rb a cap s m) :
    Calls Try.prog 22 #[.pointer (some ⟨rb, 0, none⟩)] w (RefC (.int .i8 0) (fun n v _ => v = .int .i8 n) w rb a cap s m (pSmall s.data s.pos)) := by
  by_cases hb : s.bad = true
  · have c2 := h.failed hb
    have HE := Lib.hid (RefR.sticky (z := .int .i8 0) (V := fun n v _ => v = .int .i8 n) (o := pSmall s.data s.pos) hb (Touched.refl w _) h rfl)
    have hp : 0 ≤ (s.pos : Int) := by omega
    clear h hb
    go_enter Try.func22, Try.ntmps22
    go_wp2_with fail
    go_ret
    exact ⟨_, rfl, HE.out⟩
  · have hb : s.bad = false := by simpa using hb
    obtain ⟨c0, c1, c2, c3, f⟩ := h.good hb
    have hfew := h.few
    by_cases h1 : s.pos < s.data.length
    · obtain ⟨u, hu⟩ : ∃ u, s.data[s.pos]? = some u := ⟨s.data[s.pos], List.getElem?_eq_getElem _⟩
      have ho : pSmall s.data s.pos = .ok (byteI8 u, s.pos + 1) := by unfold pSmall; rw [hu]
      cases a with
      | none => have := h.byt.1 rfl; rw [this] at h1; simp at h1
      | some ad =>
        obtain ⟨j, hj⟩ : ∃ j : Nat, j = s.pos + 1 := ⟨_, rfl⟩
        have hd : decide ((s.data.length : Int) ≤ (s.pos : Int)) = false := by simp; omega
        have hp8 : (s.pos : Int) + 1 = (j : Int) := by omega
        have hpl : (j : Int) ≤ 100000000 := by omega
        have hm := h.move hb j (by omega)
        have ht := Touched.setCell (w := w) (S := fun k => k = rb) (a := ⟨rb, 1, none⟩) rfl (.int .i64 (j : Int))
        have hmd : ∀ q, RfAt ((w.drewN q).setCell ⟨rb, 1, none⟩ (.int .i64 (j : Int))) rb (some ad) cap { s with pos := j } m := fun q => (h.drewN q).move hb j (by omega)
        have htd : ∀ q, Touched w ((w.drewN q).setCell ⟨rb, 1, none⟩ (.int .i64 (j : Int))) (fun k => k = rb) := fun q => (drewN_touched w q _).trans (Touched.setCell (w := w.drewN q) (S := fun k => k = rb) (a := ⟨rb, 1, none⟩) rfl (.int .i64 (j : Int))) (fun k hk => Or.inl hk)
        have HD := Lib.hid (And.intro hmd htd)
        have hw1 : IntKind.i64.wrap ((j : Int) - 1) = (s.pos : Int) := by rw [IntKind.wrap_i64]; omega
        have k0 : 0 ≤ (s.pos : Int) := by omega
        have k1 : (s.pos : Int) < (s.data.length : Int) := by omega
        have k2 : (s.pos : Int).toNat = s.pos := by omega
        have hcells : ∀ q, ((w.drewN q).setCell ⟨rb, 1, none⟩ (.int .i64 (j : Int))).cell? ⟨rb, 0, none⟩ = some (.slice (some ad) s.data.length cap) ∧ ((w.drewN q).setCell ⟨rb, 1, none⟩ (.int .i64 (j : Int))).cell? ⟨rb, 1, none⟩ = some (.int .i64 (j : Int)) ∧ ((w.drewN q).setCell ⟨rb, 1, none⟩ (.int .i64 (j : Int))).cell? (ad.add s.pos) = some (.int .u8 (u.toNat : Int)) := fun q => by
          have := (hmd q).good hb
          exact ⟨this.1, this.2.1, (hmd q).cell s.pos u hu⟩
        have HCL := Lib.hid hcells
        have H := Lib.hid (And.intro hb (And.intro ho hj))
        clear h hb ho hu hj hm ht hmd htd hcells
        go_enter Try.func22, Try.ntmps22
        go_wp2_with (go_quiet (fail))
        obtain ⟨e0, e1, e2⟩ := HCL.out nq
        have HNQ := Lib.hid (And.intro (HD.out.1 nq) (HD.out.2 nq))
        clear c0 c1 c2 c3 f HD HCL
        generalize (w.drewN nq).setCell ⟨rb, 1, none⟩ (.int .i64 (j : Int)) = w2 at *
        go_wp2_with (go_quiet (fail))
        go_ret
        exact ⟨_, rfl, RefR.okay H.out.1 H.out.2.1 (HNQ.out.2.trans (drewN_touched w2 nq _) (fun k hk => Or.inl hk)) rfl (by rw [← H.out.2.2]; exact HNQ.out.1.drewN nq)⟩
    · have ho : pSmall s.data s.pos = .error s.data.length := by
        unfold pSmall
        rw [List.getElem?_eq_none (by omega)]
      have hd : decide ((s.data.length : Int) ≤ (s.pos : Int)) = true := by simp; omega
      have HF := Lib.hid (fun (q : Nat) => fails_any (w.drewN q) rb a cap s m s.data.length (h.drewN q) hb (Nat.le_refl _))
      have H := Lib.hid (And.intro hb ho)
      clear h hb ho
      go_enter Try.func22, Try.ntmps22
      go_wp2_with (first
        | (go_at_call 44; refine (HF.out _).mono ?_; rintro e w1 ⟨rfl, h1, h2⟩; have H1 := Lib.hid (And.intro h1 h2); clear h1 h2)
        | go_quiet (fail))
      go_ret
      exact ⟨_, rfl, RefR.wrong H.out.1 H.out.2 ((drewN_touched w _ _).trans H1.out.2 (fun k hk => Or.inl hk)) rfl H1.out.1⟩
end Go.Proofs.Ytljlijdgocfofaa
