/-
  What 'wakes' of layer 4 answers: true. No condition.
-/
import Derived.Test.YtpceledeeplhlaaSOpen
import Derived.Lib.SlBytesConst
namespace Go.Proofs.Ytpceledeeplhlaa
open Go.RowKit
open Extern.Stop (cell)

theorem byAt_mark (w : World) (bs : List UInt8) (t : TypeId) (m : Nat × Nat) : ByAt (w.alloc (.cells (bs.map cell).toArray t m)) (some ⟨w.heap.size, 0, Option.none⟩) bs := by
  refine ⟨fun h => (by cases h), fun ad e j u hj => ?_⟩
  cases e
  have hadd : (⟨w.heap.size, 0, Option.none⟩ : Addr).add j = ⟨w.heap.size, j, Option.none⟩ := by unfold Addr.add; split <;> simp_all
  have hh : (w.alloc (.cells (bs.map cell).toArray t m)).heap[w.heap.size]? = some (.cells (bs.map cell).toArray t m) := by
    show (w.heap.push _)[w.heap.size]? = _
    simp
  rw [hadd]
  unfold World.cell?
  rw [hh]
  show (bs.map cell).toArray[j]? = _
  simp [hj]
def Z4 : List UInt8 := [0, 0, 0, 0]
def N9 : List UInt8 := [49, 50, 51, 52, 53, 54, 55, 56, 57]
theorem lit4 : (Z4.map cell).toArray = #[.int .u8 0, .int .u8 0, .int .u8 0, .int .u8 0] := by kernel_rfl
theorem lit9 : (N9.map cell).toArray = #[.int .u8 49, .int .u8 50, .int .u8 51, .int .u8 52, .int .u8 53, .int .u8 54, .int .u8 55, .int .u8 56, .int .u8 57] := by kernel_rfl
theorem open_z4 : openN Z4 = [] := by kernel_rfl
theorem ok_z4 : okN Z4 = true := by kernel_rfl
theorem more_n9 : moreN 0 N9 = 3808858755 := by kernel_rfl
theorem seal_nil : sealN [] = Z4 := by kernel_rfl
def Got4 (w : World) (e : Ending) (w' : World) : Prop := ∃ a c, e = .returned (.tuple #[.slice a 0 c, .bool true]) ∧ Below w.heap.size w w'
theorem open4 (w : World) : Calls Try.prog 12 #[.slice (some ⟨w.heap.size, 0, none⟩) 4 4] (w.alloc (.cells #[.int .u8 0, .int .u8 0, .int .u8 0, .int .u8 0] 5)) (Got4 w) := by
  have h0 := open_any _ _ 4 Z4 (byAt_new w Z4 5) (by decide) (by decide) (by decide)
  rw [lit4] at h0
  exact h0.mono fun _ _ ⟨a, c, h1, _, h3⟩ => ⟨a, c, by rw [open_z4, ok_z4] at h1; exact h1, ((Below.refl w.heap.size w).alloc (Nat.le_refl _) _).trans (h3.mono (by rw [World.size_alloc]; omega))⟩
theorem sum9 (w : World) : Calls Try.prog 8 #[.slice (some ⟨w.heap.size, 0, none⟩) 9 9] (w.alloc (.cells #[.int .u8 49, .int .u8 50, .int .u8 51, .int .u8 52, .int .u8 53, .int .u8 54, .int .u8 55, .int .u8 56, .int .u8 57] 5 (9, 10))) fun e w' => e = .returned (.int .u32 3808858755) ∧ Below w.heap.size w w' := by
  have h0 := sum_any _ _ 9 N9 (byAt_mark w N9 5 (9, 10)) (by decide)
  rw [lit9] at h0
  exact h0.mono fun _ _ ⟨h1, h3⟩ => ⟨by rw [more_n9] at h1; exact h1, ((Below.refl w.heap.size w).alloc (Nat.le_refl _) _).trans (h3.mono (by rw [World.size_alloc]; omega))⟩
def Four (w : World) (e : Ending) (w' : World) : Prop := ∃ v, e = .returned v ∧ (convert 22 9 v).run Try.prog w' = .ok (.string { data := #[0, 0, 0, 0] }) w' ∧ Below w.heap.size w w'
theorem seal0 (w : World) : Calls Try.prog 14 #[.slice none 0 0] w (Four w) :=
  (seal_any w none 0 [] (ByAt.nil _ _) (by decide)).mono fun _ _ ⟨v, h1, h2⟩ => by
    rw [seal_nil] at h2
    exact ⟨v, h1, h2.text, h2.below⟩
set_option maxRecDepth 100000 in
set_option maxHeartbeats 400000 in
theorem wakes_any (w : World) : Calls Try.prog 7 #[] w fun e w' => e = .returned (.bool true) ∧ Below w.heap.size w w' := by
  have kc := fun (w : World) (C : Array Value) (n c : Nat) => Lib.run_convert_bytes_const (P := Try.prog) w 22 5 C n c Try.underlying22 Try.underlying5
  have H4 := Lib.hid open4
  have H9 := Lib.hid sum9
  have H0 := Lib.hid seal0
  go_enter Try.func7, Try.ntmps7
  go_wp2_with (first
    | (go_at_call 12; refine (H4.out _).mono ?_; clear H4; rintro e w1 ⟨a, c, rfl, h1⟩; have K1 := Lib.hid h1; clear h1)
    | (go_at_call 8; refine (H9.out _).mono ?_; clear H9; rintro e w2 ⟨rfl, h1⟩; have K2 := Lib.hid (K1.out.trans (h1.mono K1.out.size)); clear h1 K1)
    | (go_at_call 14; refine (H0.out _).mono ?_; clear H0; rintro e w3 ⟨v, rfl, hcv, h1⟩; have K3 := Lib.hid (K2.out.trans (h1.mono K2.out.size)); clear h1 K2))
  go_ret
  exact ⟨rfl, K3.out⟩
end Go.Proofs.Ytpceledeeplhlaa
