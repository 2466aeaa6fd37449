/-
  What 'wakes' of layer 3 answers: true. No condition.
-/
import Derived.Test.YtljlijdgocfofaaCMeth
import Derived.Laws.IdiomStrings
namespace Go.Proofs.Ytljlijdgocfofaa
open Go.RowKit
open Extern.Stop (cell)

/-- Bytes that a call owns, as a text. -/
theorem OwnB.text {B : Nat} {v : Value} {bs : List UInt8} {W0 w : World} (h : OwnB B v bs W0 w) : (convert 22 9 v).run Try.prog w = .ok (.string ⟨bs.toArray⟩) w := by
  have ho := h.1.1
  have hc := fun g hg => World.ownsRowF.cells ho (g := g) hg
  rcases ho.2 with ⟨hv, hn⟩ | ⟨g, cap, cur, fz, hv, _⟩
  · have hb : bs = [] := List.eq_nil_of_length_eq_zero hn
    subst hb
    subst hv
    rw [run_convert_bytes_string w _ _ _ none 0 0 Try.underlying22 Try.underlying5 Try.underlying9]
    simp [Conv.bytesToString]
    rfl
  · subst hv
    exact run_convert_bytes_back w _ _ _ ⟨g, 0, none⟩ cap bs Try.underlying22 Try.underlying5 Try.underlying9 (fun j hj => hc g rfl j _ (by rw [List.getElem?_map, List.getElem?_eq_getElem hj]; rfl))

def Z7 : List UInt8 := [0, 0, 0, 0, 0, 0, 0]
def Z9 : List UInt8 := [0, 0, 0, 0, 0, 0, 0, 0, 0]
theorem make7 (w : World) : (Instr.makeSlice 22 (.int .i64 7) (.int .i64 7)).run Try.prog w = .ok (.slice (some ⟨w.heap.size, 0, none⟩) 7 7) (w.alloc (.cells #[.int .u8 0, .int .u8 0, .int .u8 0, .int .u8 0, .int .u8 0, .int .u8 0, .int .u8 0] 5)) := by kernel_rfl
theorem lit7 : (Z7.map cell).toArray = #[.int .u8 0, .int .u8 0, .int .u8 0, .int .u8 0, .int .u8 0, .int .u8 0, .int .u8 0] := by kernel_rfl
theorem make9 (w : World) : (Instr.makeSlice 22 (.int .i64 9) (.int .i64 9)).run Try.prog w = .ok (.slice (some ⟨w.heap.size, 0, none⟩) 9 9) (w.alloc (.cells #[.int .u8 0, .int .u8 0, .int .u8 0, .int .u8 0, .int .u8 0, .int .u8 0, .int .u8 0, .int .u8 0, .int .u8 0] 5)) := by kernel_rfl
theorem lit9 : (Z9.map cell).toArray = #[.int .u8 0, .int .u8 0, .int .u8 0, .int .u8 0, .int .u8 0, .int .u8 0, .int .u8 0, .int .u8 0, .int .u8 0] := by kernel_rfl
theorem byAt_new (w : World) (bs : List UInt8) (t : TypeId) : ByAt (w.alloc (.cells (bs.map cell).toArray t)) (some ⟨w.heap.size, 0, none⟩) bs := by
  refine ⟨fun h => (by cases h), fun ad e j u hj => ?_⟩
  cases e
  have hadd : (⟨w.heap.size, 0, none⟩ : Addr).add j = ⟨w.heap.size, j, none⟩ := by unfold Addr.add; split <;> simp_all
  rw [hadd, cell_of_row _ _ j _ _ _ (heap_alloc_new w _)]
  simp [hj]
def New1C (w W : World) (bs : List UInt8) (e : Ending) (w' : World) : Prop := ∃ b dv, e = .returned (.pointer (some ⟨b, 0, none⟩)) ∧ W.heap.size ≤ b ∧ (∀ g, dv.ownBlock = some g → W.heap.size ≤ g) ∧ RdAt w' b dv ⟨bs, 0, false⟩ ∧ Below W.heap.size w w'
theorem new7 (w : World) : Calls Try.prog 17 #[.slice (some ⟨w.heap.size, 0, none⟩) 7 7] (w.alloc (.cells #[.int .u8 0, .int .u8 0, .int .u8 0, .int .u8 0, .int .u8 0, .int .u8 0, .int .u8 0] 5)) (New1C w w Z7) := by
  have h0 := newRd_any _ _ 7 Z7 (byAt_new w Z7 5) (by decide)
  rw [lit7] at h0
  exact h0.mono fun _ _ ⟨b, dv, h1, h2, h3, h4, h5⟩ => ⟨b, dv, h1, by rw [World.size_alloc] at h2; omega, fun g hg => (by have := h3 g hg; rw [World.size_alloc] at this; omega), h4, ((Below.refl w.heap.size w).alloc (Nat.le_refl _) _).trans (h5.mono (by rw [World.size_alloc]; omega))⟩
theorem new9 (w : World) : Calls Try.prog 17 #[.slice (some ⟨w.heap.size, 0, none⟩) 9 9] (w.alloc (.cells #[.int .u8 0, .int .u8 0, .int .u8 0, .int .u8 0, .int .u8 0, .int .u8 0, .int .u8 0, .int .u8 0, .int .u8 0] 5)) (New1C w w Z9) := by
  have h0 := newRd_any _ _ 9 Z9 (byAt_new w Z9 5) (by decide)
  rw [lit9] at h0
  exact h0.mono fun _ _ ⟨b, dv, h1, h2, h3, h4, h5⟩ => ⟨b, dv, h1, by rw [World.size_alloc] at h2; omega, fun g hg => (by have := h3 g hg; rw [World.size_alloc] at this; omega), h4, ((Below.refl w.heap.size w).alloc (Nat.le_refl _) _).trans (h5.mono (by rw [World.size_alloc]; omega))⟩
def StC (v : Value) (w : World) (b : Nat) (dv : Value) (s : Rd) (e : Ending) (w' : World) : Prop := e = .returned v ∧ RdAt w' b dv s ∧ Touched w w' (fun k => k = b)
theorem num7 (w : World) (b : Nat) (dv : Value) (h : RdAt w b dv ⟨Z7, 0, false⟩) : Calls Try.prog 19 #[.pointer (some ⟨b, 0, none⟩)] w (StC (.int .i64 0) w b dv ⟨Z7, 7, true⟩) :=
  (Number_any w b dv _ h).mono fun _ _ ⟨_, h1, h2, h3⟩ => by
    have e : Rd.number ⟨Z7, 0, false⟩ = (0, ⟨Z7, 7, true⟩) := rfl
    rw [e] at h2 h3
    exact ⟨by rw [h1, h2], h3⟩
theorem num9 (w : World) (b : Nat) (dv : Value) (h : RdAt w b dv ⟨Z9, 0, false⟩) : Calls Try.prog 19 #[.pointer (some ⟨b, 0, none⟩)] w (StC (.int .i64 0) w b dv ⟨Z9, 8, false⟩) :=
  (Number_any w b dv _ h).mono fun _ _ ⟨_, h1, h2, h3⟩ => by
    have e : Rd.number ⟨Z9, 0, false⟩ = (0, ⟨Z9, 8, false⟩) := by kernel_rfl
    rw [e] at h2 h3
    exact ⟨by rw [h1, h2], h3⟩
theorem end7 (w : World) (b : Nat) (dv : Value) (h : RdAt w b dv ⟨Z7, 7, true⟩) : Calls Try.prog 33 #[.pointer (some ⟨b, 0, none⟩)] w (StC (.tuple #[.int .i64 7, .int .i64 30]) w b dv ⟨Z7, 7, true⟩) :=
  (End_any w b dv _ h).mono fun _ _ ⟨_, h1, h2, h3, h4⟩ => ⟨by rw [h1, h2]; rfl, h3, (Touched.refl w _).trans h4 (fun _ hk => hk.elim)⟩
theorem end9 (w : World) (b : Nat) (dv : Value) (h : RdAt w b dv ⟨Z9, 8, false⟩) : Calls Try.prog 33 #[.pointer (some ⟨b, 0, none⟩)] w (StC (.tuple #[.int .i64 8, .int .i64 30]) w b dv ⟨Z9, 8, false⟩) :=
  (End_any w b dv _ h).mono fun _ _ ⟨_, h1, h2, h3, h4⟩ => ⟨by rw [h1, h2]; rfl, h3, (Touched.refl w _).trans h4 (fun _ hk => hk.elim)⟩
def AbBytes : List UInt8 := [0, 0, 0, 0, 0, 0, 0, 2, 97, 98]
theorem text_ab (w : World) : Calls Try.prog 11 #[.slice none 0 0, .string { data := #[97, 98] }] w fun e w' => ∃ v, e = .returned v ∧ (convert 22 9 v).run Try.prog w' = .ok (.string { data := #[0, 0, 0, 0, 0, 0, 0, 2, 97, 98] }) w' ∧ Below w.heap.size w w' :=
  (putText_any w none 0 [] ⟨fun _ => rfl, fun _ e => by cases e⟩ (by decide) { data := #[97, 98] } (by decide)).mono fun _ _ ⟨v, h1, h2⟩ => by
    have e : ([] : List UInt8) ++ (num8 ((⟨#[97, 98]⟩ : ByteArray).size : Int) ++ (⟨#[97, 98]⟩ : ByteArray).data.toList) = AbBytes := by kernel_rfl
    rw [e] at h2
    exact ⟨v, h1, h2.text, h2.1.2.1⟩

/-- Two readers side by side, made since w. -/
structure TwoAt (w wr : World) (b c : Nat) (d f : Value) (s t : Rd) : Prop where
  one : RdAt wr b d s
  two : RdAt wr c f t
  apart : b ≠ c ∧ d.ownBlock ≠ some c ∧ f.ownBlock ≠ some b
  low : w.heap.size ≤ b ∧ w.heap.size ≤ c
  below : Below w.heap.size w wr
theorem TwoAt.first {w wr w' : World} {b c : Nat} {d f : Value} {s s' t : Rd} (h : TwoAt w wr b c d f s t) (h1 : RdAt w' b d s') (ht : Touched wr w' (fun k => k = b)) : TwoAt w w' b c d f s' t :=
  ⟨h1, h.two.kept ht (fun e => h.apart.1 e.symm) (fun g hg e => h.apart.2.2 (by rw [hg, e])), h.apart, h.low, h.below.trans (ht.below h.below.size (fun k e => by rw [e]; exact h.low.1))⟩
theorem TwoAt.second {w wr w' : World} {b c : Nat} {d f : Value} {s t t' : Rd} (h : TwoAt w wr b c d f s t) (h1 : RdAt w' c f t') (ht : Touched wr w' (fun k => k = c)) : TwoAt w w' b c d f s t' :=
  ⟨h.one.kept ht h.apart.1 (fun g hg e => h.apart.2.1 (by rw [hg, e])), h1, h.apart, h.low, h.below.trans (ht.below h.below.size (fun k e => by rw [e]; exact h.low.2))⟩
theorem two_mk {w w1 w2 : World} {b c : Nat} {d f : Value} {s t : Rd} (h1 : w.heap.size ≤ b) (h3 : RdAt w1 b d s) (h4 : Below w.heap.size w w1) (k1 : w1.heap.size ≤ c) (k2 : ∀ g, f.ownBlock = some g → w1.heap.size ≤ g) (k3 : RdAt w2 c f t) (k4 : Below w1.heap.size w1 w2) : TwoAt w w2 b c d f s t := by
  have hb := lt_of_heap h3.here
  exact ⟨h3.kept (Below.touched k4 (fun _ => False)) id (fun _ _ => id), k3, ⟨by omega, fun e => by have := owns_lt h3.owns c e; omega, fun e => by have := k2 b e; omega⟩, ⟨h1, by have := h4.size; omega⟩, h4.trans (k4.mono h4.size)⟩

set_option maxRecDepth 100000 in
set_option maxHeartbeats 400000 in
theorem wakes_any (w : World) : Calls Try.prog 8 #[] w fun e w' => e = .returned (.bool true) ∧ Below w.heap.size w w' := by
  have m7 := make7
  have m9 := make9
  have N7 := Lib.hid new7
  have N9 := Lib.hid new9
  have NT := Lib.hid text_ab
  go_enter Try.func8, Try.ntmps8
  go_wp2_with (first
    | (go_at_call 17; refine (N7.out _).mono ?_; clear N7; rintro e w1 ⟨b, d, rfl, h1, _, h3, h4⟩; have H1 := Lib.hid (And.intro h1 (And.intro h3 h4)); clear h1 h3 h4)
    | (go_at_call 17; refine (N9.out _).mono ?_; clear N9; rintro e w2 ⟨c, f, rfl, k1, k2, k3, k4⟩; have H2 := Lib.hid (two_mk H1.out.1 H1.out.2.1 H1.out.2.2 k1 k2 k3 k4); have C1 := Lib.hid (num7 _ _ _ H2.out.one); clear k1 k2 k3 k4 H1)
    | (go_at_call 19; refine C1.out.mono ?_; clear C1; rintro e w3 ⟨rfl, h1, h2⟩; have H3 := Lib.hid (H2.out.first h1 h2); have C2 := Lib.hid (num9 _ _ _ H3.out.two); clear h1 h2 H2)
    | (go_at_call 19; refine C2.out.mono ?_; clear C2; rintro e w4 ⟨rfl, h1, h2⟩; have H4 := Lib.hid (H3.out.second h1 h2); have C3 := Lib.hid (end7 _ _ _ H4.out.one); clear h1 h2 H3)
    | (go_at_call 33; refine C3.out.mono ?_; clear C3; rintro e w5 ⟨rfl, h1, h2⟩; have H5 := Lib.hid (H4.out.first h1 h2); have C4 := Lib.hid (end9 _ _ _ H5.out.two); clear h1 h2 H4)
    | (go_at_call 33; refine C4.out.mono ?_; clear C4; rintro e w6 ⟨rfl, h1, h2⟩; have H6 := Lib.hid (H5.out.second h1 h2); clear h1 h2 H5)
    | (go_at_call 11; refine (NT.out _).mono ?_; clear NT; rintro e w7 ⟨v, rfl, hconv, h1⟩; have H7 := Lib.hid (H6.out.below.trans (h1.mono H6.out.below.size)); clear h1 H6))
  go_ret
  exact ⟨rfl, H7.out⟩
end Go.Proofs.Ytljlijdgocfofaa
