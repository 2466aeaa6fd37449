/-
  The document's Number and Small. No condition.
-/
import Derived.Test.YtljlijdgocfofaaDBase
import Derived.Laws.BitsAllLaws
namespace Go.Proofs.Ytljlijdgocfofaa
open Go.RowKit
open Extern.Stop (cell)

theorem u64_step (x : Nat) (u : UInt8) (hx : x < 72057594037927936) : bits .or .u64 (IntKind.u64.wrap ((x : Int) * 256)) (IntKind.u64.wrap (u.toNat : Int)) = ((x * 256 + u.toNat : Nat) : Int) := by
  have hu : u.toNat < 256 := u.toNat_lt
  have e1 : IntKind.u64.wrap ((x : Int) * 256) = ((x * 256 : Nat) : Int) := by
    rw [IntKind.wrap_u64]; omega
  have e2 : IntKind.u64.wrap (u.toNat : Int) = (u.toNat : Int) := by
    rw [IntKind.wrap_u64]; omega
  rw [e1, e2, u64_or_nat _ _ (by omega) (by omega), or_byte]
theorem valN_take (l : List UInt8) (k : Nat) (u : UInt8) (h : l[k]? = some u) : valN (l.take (k + 1)) = valN (l.take k) * 256 + u.toNat := by
  rw [List.take_add_one, h]; exact valN_snoc _ _
theorem valN_few (l : List UInt8) (k : Nat) (h : k < 8) : valN (l.take k) < 72057594037927936 := by
  have h1 := valN_lt (l.take k) 7 (by simp; omega)
  exact h1
def DNumRel (w : World) (rb : Nat) (a : Option Addr) (cap : Nat) (s : Rd) (m : Int) (bs : List UInt8) (x i : Value) (wr : World) : Prop := ∃ k : Nat, k ≤ 8 ∧ x = .int .u64 (valN (bs.take k) : Int) ∧ i = .int .i64 (k : Int) ∧ RfAt wr rb a cap s m ∧ Touched w wr (fun k => k = rb)
theorem drewN_touched (w : World) (q : Nat) (S : Nat → Prop) : Touched w (w.drewN q) S := ⟨rfl, rfl, rfl, Nat.le_refl _, fun _ _ _ => rfl⟩
set_option maxRecDepth 100000 in
set_option maxHeartbeats 1000000 in
theorem dNumber (w : World) (rb : Nat) (a : Option Addr) (cap : Nat) (s : Rd) (m : Int) (h : RfAt w rb a cap s m) :
    Calls Try.prog 20 #[.pointer (some ⟨rb, 0, none⟩)] w (RefC (.int .i64 0) IntV w rb a cap s m (pNum s.data s.pos)) := by
  by_cases hb : s.bad = true
  · have c2 := h.failed hb
    have HE := Lib.hid (RefR.sticky (z := .int .i64 0) (V := IntV) (o := pNum s.data s.pos) hb (Touched.refl w _) h rfl)
    have hp : 0 ≤ (s.pos : Int) := by omega
    clear h hb
    go_enter Try.func20, Try.ntmps20
    go_wp2_with fail
    go_ret
    exact ⟨_, rfl, HE.out⟩
  · have hb : s.bad = false := by simpa using hb
    obtain ⟨c0, c1, c2, c3, f⟩ := h.good hb
    have hfew := h.few
    have hfits := h.fits
    by_cases h8 : s.pos + 8 ≤ s.data.length
    · have ho : pNum s.data s.pos = .ok (numOf ((s.data.drop s.pos).take 8), s.pos + 8) := if_pos h8
      have hd : decide ((s.data.length : Int) - (s.pos : Int) < 8) = false := by simp; omega
      have hw1 : IntKind.i64.wrap ((s.data.length : Int) - (s.pos : Int)) = (s.data.length : Int) - (s.pos : Int) := by rw [IntKind.wrap_i64]; omega
      have H := Lib.hid (And.intro h (And.intro hb ho))
      clear h hb ho
      go_enter Try.func20, Try.ntmps20
      go_wp2_with (go_quiet (fail))
      obtain ⟨bs, hbs⟩ : ∃ bs, bs = (s.data.drop s.pos).take 8 := ⟨_, rfl⟩
      have HBS := Lib.hid (And.intro hbs (show bs.length = 8 by rw [hbs]; simp; omega))
      clear hbs hd hw1 c0 c1 c2 c3 f
      go_loopw [3, 4] (fun x i wr => DNumRel w rb a cap s m bs x i wr) (fun _ i _ => 8 - (intOf i).toNat)
      case atStart => exact ⟨0, Nat.zero_le _, rfl, rfl, H.out.1.drewN _, drewN_touched w _ _⟩
      case round =>
        obtain ⟨k, hk, rfl, rfl, hr, ht⟩ := hrel
        obtain ⟨c0, c1, c2, c3, f⟩ := hr.good H.out.2.1
        have HR := Lib.hid (And.intro hr ht)
        by_cases hlt : k < 8
        · obtain ⟨u, hu⟩ : ∃ u, s.data[s.pos + k]? = some u := ⟨s.data[s.pos + k]'(by omega), List.getElem?_eq_getElem _⟩
          have hub : bs[k]? = some u := by rw [HBS.out.1, List.getElem?_take, if_pos hlt, List.getElem?_drop, hu]
          cases a with
          | none => have := hr.byt.1 rfl; rw [this] at h8; simp at h8
          | some ad =>
            have hcell := hr.cell (s.pos + k) u hu
            have hw2 : IntKind.i64.wrap ((s.pos : Int) + (k : Int)) = ((s.pos + k : Nat) : Int) := by rw [IntKind.wrap_i64]; omega
            have h0 : 0 ≤ ((s.pos + k : Nat) : Int) := by omega
            have h1 : ((s.pos + k : Nat) : Int) < (s.data.length : Int) := by omega
            have h2 : ((s.pos + k : Nat) : Int).toNat = s.pos + k := by omega
            have HU := Lib.hid (And.intro hu hub)
            clear hr ht hu hub
            go_wp2_with (go_quiet (fail))
            refine ⟨⟨k + 1, by omega, ?_, by congr 1, HR.out.1.drewN _, HR.out.2.trans (drewN_touched wr _ _) (fun k hk => Or.inl hk)⟩, by simp [intOf]; omega⟩
            rw [u64_step _ _ (valN_few bs k hlt), valN_take bs k u HU.out.2]
        · have hk8 : k = 8 := by omega
          subst hk8
          obtain ⟨j, hj⟩ : ∃ j : Nat, j = s.pos + 8 := ⟨_, rfl⟩
          have hp8 : (s.pos : Int) + 8 = (j : Int) := by omega
          have hpl : (j : Int) ≤ 100000000 := by omega
          have hv := numOf_val (bs.take 8) (by simp; omega)
          have hwr : IntKind.i64.wrap (valN (bs.take 8) : Int) = numOf bs := by rw [← hv, List.take_of_length_le (by rw [HBS.out.2]; exact Nat.le_refl _)]
          have HE := Lib.hid (And.intro (hr.move H.out.2.1 j (by omega)) (Touched.setCell (w := wr) (S := fun k => k = rb) (a := ⟨rb, 1, none⟩) rfl (.int .i64 (j : Int))))
          have HJ := Lib.hid hj
          clear hr ht hv hj
          go_wp2_with fail
          go_ret
          exact ⟨_, rfl, RefR.okay H.out.2.1 H.out.2.2 (HR.out.2.trans HE.out.2 (fun k hk => Or.inl hk)) (by rw [← HBS.out.1]; rfl) (by rw [← HJ.out]; exact HE.out.1)⟩
    · have ho : pNum s.data s.pos = .error s.data.length := if_neg h8
      have hd : decide ((s.data.length : Int) - (s.pos : Int) < 8) = true := by simp; omega
      have hw1 : IntKind.i64.wrap ((s.data.length : Int) - (s.pos : Int)) = (s.data.length : Int) - (s.pos : Int) := by rw [IntKind.wrap_i64]; omega
      have HF := Lib.hid (fun (q : Nat) => fails_any (w.drewN q) rb a cap s m s.data.length (h.drewN q) hb (Nat.le_refl _))
      have H := Lib.hid (And.intro hb ho)
      clear h hb ho
      go_enter Try.func20, Try.ntmps20
      go_wp2_with (first
        | (go_at_call 44; refine (HF.out _).mono ?_; rintro e w1 ⟨rfl, h1, h2⟩; have H1 := Lib.hid (And.intro h1 h2); clear h1 h2)
        | go_quiet (fail))
      go_ret
      exact ⟨_, rfl, RefR.wrong H.out.1 H.out.2 ((drewN_touched w _ _).trans H1.out.2 (fun k hk => Or.inl hk)) rfl H1.out.1⟩
end Go.Proofs.Ytljlijdgocfofaa
