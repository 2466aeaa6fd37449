/-
  What SumsSeal answers: true. No condition but that its argument lies in memory as it came in.
-/
import Derived.Test.YtpceledeeplhlaaSTell
import Derived.Test.YtpceledeeplhlaaSRefOpen
import Derived.Deep.RegionHeld3
namespace Go.Proofs.Ytpceledeeplhlaa
open Go.RowKit
open Extern.Stop (cell)

theorem take_seal (bs : List UInt8) : (sealN bs).take ((sealN bs).length - 4) = bs := by
  rw [sealN_length, Nat.add_sub_cancel]
  unfold sealN
  simp
theorem ok_seal (bs : List UInt8) : okN (sealN bs) = true := by unfold okN; rw [take_seal]; simp
theorem open_seal (bs : List UInt8) : openN (sealN bs) = bs := by unfold openN; rw [ok_seal, take_seal]; rfl
/-- A slice that reads as these bytes, now and later. -/
def Reads (w : World) (v : Value) (bs : List UInt8) : Prop := ∀ X, Below w.heap.size w X → (convert 22 9 v).run Try.prog X = .ok (.string ⟨bs.toArray⟩) X
theorem ByAt.reads {w : World} {a : Option Addr} {bs : List UInt8} (h : ByAt w a bs) (n : Nat) (hn : n = bs.length) (c : Nat) : Reads w (.slice a n c) bs := fun _ hX => (h.below hX).conv n hn c
theorem Reads.below {w w' : World} {v : Value} {bs : List UInt8} (h : Reads w v bs) (hb : Below w.heap.size w w') : Reads w' v bs := fun X hX => h X (hb.trans (hX.mono hb.size))
def OpenR (w : World) (bs : List UInt8) (e : Ending) (w' : World) : Prop := ∃ v, e = .returned (.tuple #[v, .bool (okN bs)]) ∧ Reads w' v (openN bs) ∧ Below w.heap.size w w'
theorem OpenC.reads {w : World} {bs : List UInt8} {e : Ending} {w' : World} (h : OpenC w bs e w') : OpenR w bs e w' := by
  obtain ⟨a, c, h1, h2, h3⟩ := h
  exact ⟨_, h1, h2.reads _ rfl c, h3⟩
def SealR (w : World) (bs : List UInt8) (e : Ending) (w' : World) : Prop := ∃ v, e = .returned v ∧ Reads w' v (sealN bs) ∧ Below w.heap.size w w'
def OpenS (w : World) (bs : List UInt8) (e : Ending) (w' : World) : Prop := ∃ v, e = .returned (.tuple #[v, .bool true]) ∧ Reads w' v bs ∧ Below w.heap.size w w'
theorem OpenC.whole {w : World} {bs : List UInt8} {e : Ending} {w' : World} (h : OpenC w (sealN bs) e w') : OpenS w bs e w' := by
  obtain ⟨a, c, h1, h2, h3⟩ := h
  rw [ok_seal, open_seal] at h1
  rw [open_seal] at h2
  exact ⟨_, h1, h2.reads _ rfl c, h3⟩
/-- More may be held from here on. -/
theorem wpAnyH_more {P : Program} {md : Region.Mode} {ops : Array Oper} {Q : Exit → Act → World → Prop} {S S' : World → Prop} (hS : ∀ w, S' w → S w) : ∀ {fuel : Nat} {listed : Array Bool} {a : Act} {w : World}, wpAnyH P md ops Q S' fuel listed a w → wpAnyH P md ops Q S fuel listed a w
  | 0, _, _, _, h => h
  | _ + 1, _, _, _, h => ⟨h.1, fun i hi => wpOp_mono (fun _ _ h' => ⟨hS _ h'.1, wpAnyH_more hS h'.2⟩) (h.2 i hi)⟩
/-- What the five slices read as. -/
def SealS (x y s o b : Value) (bs : List UInt8) (W : World) : Prop :=
  (convert 22 9 x).run Try.prog W = .ok (.string ⟨(openN bs).toArray⟩) W ∧ (convert 22 9 y).run Try.prog W = .ok (.string ⟨(openN bs).toArray⟩) W ∧
  (convert 22 9 s).run Try.prog W = .ok (.string ⟨(sealN bs).toArray⟩) W ∧ (convert 22 9 o).run Try.prog W = .ok (.string ⟨bs.toArray⟩) W ∧ (convert 22 9 b).run Try.prog W = .ok (.string ⟨bs.toArray⟩) W
set_option linter.unusedSimpArgs false in
set_option maxRecDepth 100000 in
set_option maxHeartbeats 1000000 in
theorem sumsSeal_any (w : World) (a : Option Addr) (cap : Nat) (bs : List UInt8) (h : ByAt w a bs) (hm : (bs.length : Int) ≤ 9223372036854775807) (hc : bs.length ≤ cap) (hc2 : (cap : Int) ≤ 9223372036854775807) :
    Calls Try.prog 4 #[.slice a bs.length cap] w (YesB w) := by
  have HW := Lib.hid wakes_any
  have HB := Lib.hid h
  clear h
  by_cases h1 : 20000 < bs.length
  · have h1' : (20000 : Int) < (bs.length : Int) := by omega
    go_enter Try.func4, Try.ntmps4
    go_wp2_with (go_at_call 7; refine (HW.out _).mono ?_; clear HW; rintro e w2 ⟨rfl, h2⟩; have H2 := Lib.hid h2; clear h2)
    go_ret
    exact ⟨rfl, H2.out⟩
  · have h1' : ¬ (20000 : Int) < (bs.length : Int) := by omega
    have HL := Lib.hid h1
    have HO := Lib.hid ((open_any w a cap bs HB.out (by omega) hc hc2).mono fun _ _ h => h.reads)
    have HR := Lib.hid (fun X (hX : Below w.heap.size w X) => (refOpen_any X a cap bs (HB.out.below hX) (by omega) hc).mono fun _ _ h => h.reads)
    have HS := Lib.hid (fun X (hX : Below w.heap.size w X) => seal_any X a cap bs (HB.out.below hX) (by omega))
    have HT := Lib.hid (fun X (hX : Below w.heap.size w X) => (refSeal_any X a cap bs (HB.out.below hX) (by omega)).mono (R' := SealR X bs) fun _ _ ⟨v, h1, h2⟩ => by
      obtain ⟨a, c, e, h3, _⟩ := OwnB.byAt h2
      exact ⟨v, h1, by rw [e]; exact h3.reads _ rfl c, h2.2.1⟩)
    clear h1
    go_enter Try.func4, Try.ntmps4
    go_wp2_with (first
      | (go_at_call 12; refine HO.out.mono ?_; clear HO; rintro e w1 ⟨v1, rfl, r1, b1⟩; have R1 := Lib.hid (And.intro r1 b1); clear r1 b1)
      | (go_at_call 13; refine (HR.out _ R1.out.2).mono ?_; clear HR; rintro e w2 ⟨v2, rfl, r2, b2⟩; have R2 := Lib.hid (And.intro (R1.out.1.below b2) (And.intro r2 (R1.out.2.trans (b2.mono R1.out.2.size)))); clear r2 b2 R1)
      | (go_at_call 14; refine (HS.out _ R2.out.2.2).mono ?_; clear HS; rintro e w3 ⟨v3, rfl, h3⟩; obtain ⟨a3, c3, rfl, hb3, hle3, hcm3⟩ := h3.byAt; have HO2 := Lib.hid ((open_any _ a3 c3 (sealN bs) hb3 (by rw [sealN_length]; have := HL.out; omega) hle3 hcm3).mono fun _ _ h => h.whole); have R3 := Lib.hid (And.intro (R2.out.1.below h3.2.1) (And.intro (R2.out.2.1.below h3.2.1) (And.intro (hb3.reads _ rfl c3) (R2.out.2.2.trans (h3.2.1.mono R2.out.2.2.size))))); clear h3 hb3 hle3 hcm3 R2; obtain ⟨n3, hn3⟩ : ∃ n3, n3 = (sealN bs).length := ⟨_, rfl⟩; rw [← hn3] at HO2 R3; rw [← hn3]; clear hn3)
      | (go_at_call 12; refine HO2.out.mono ?_; clear HO2; rintro e w4 ⟨v4, rfl, r4, b4⟩; have R4 := Lib.hid (And.intro (R3.out.1.below b4) (And.intro (R3.out.2.1.below b4) (And.intro (R3.out.2.2.1.below b4) (And.intro r4 (R3.out.2.2.2.trans (b4.mono R3.out.2.2.2.size)))))); clear r4 b4 R3))
    have HD := Lib.hid (show Below w.heap.size w w4.drew from R4.out.2.2.2.2.trans ((drew_below w4).mono R4.out.2.2.2.2.size))
    obtain ⟨ok, hok⟩ : ∃ ok, ok = okN bs := ⟨_, rfl⟩
    rw [← hok]
    clear hok
    have HBB : ∀ X, Below w4.heap.size w4 X → SealS v1 v2 (.slice a3 n3 c3) v4 (.slice a bs.length cap) bs X := fun X hX => ⟨R4.out.1 X hX, R4.out.2.1 X hX, R4.out.2.2.1 X hX, R4.out.2.2.2.1 X hX, (HB.out.below (R4.out.2.2.2.2.trans (hX.mono R4.out.2.2.2.2.size))).conv bs.length rfl cap⟩
    have HSS := Lib.hid HBB
    clear HBB
    refine wp_region_held_drew (S := SealS v1 v2 (.slice a3 n3 c3) v4 (.slice a bs.length cap) bs) (by kernel_rfl) (HSS.out _ (drew_below w4)) (fun hHeld => ?_)
    refine wpAnyH_take (i := 0) (oi := _) (v := .bool ok) rfl (by kernel_rfl) (by kernel_rfl) (by kernel_rfl) (fun _ _ _ h => h) (Or.inl ⟨by rfl, ?_⟩) (by assumption) ?_
    · clear hHeld; intro W hSw; obtain ⟨cx, cy, cs, co, cb⟩ := hSw; go_simp
    simp only [Act.put, List.getElem_toArray, List.getElem_cons_zero, List.getElem_cons_succ, List.setIfInBounds_toArray, List.set_cons_zero, List.set_cons_succ]
    refine wpAnyH_take (i := 1) (oi := _) (v := .bool ok) rfl (by kernel_rfl) (by kernel_rfl) (by kernel_rfl) (fun _ _ _ h => h) (Or.inl ⟨by rfl, ?_⟩) (by assumption) ?_
    · clear hHeld; intro W hSw; obtain ⟨cx, cy, cs, co, cb⟩ := hSw; go_simp
    simp only [Act.put, List.getElem_toArray, List.getElem_cons_zero, List.getElem_cons_succ, List.setIfInBounds_toArray, List.set_cons_zero, List.set_cons_succ]
    refine wpAnyH_take (i := 2) (oi := _) (v := .bool true) rfl (by kernel_rfl) (by kernel_rfl) (by kernel_rfl) (fun _ _ _ h => h) (Or.inl ⟨by rfl, ?_⟩) (by assumption) ?_
    · clear hHeld; intro W hSw; obtain ⟨cx, cy, cs, co, cb⟩ := hSw; go_simp
    simp only [Act.put, List.getElem_toArray, List.getElem_cons_zero, List.getElem_cons_succ, List.setIfInBounds_toArray, List.set_cons_zero, List.set_cons_succ]
    refine wpAnyH_take (i := 3) (oi := _) (v := .bool true) rfl (by kernel_rfl) (by kernel_rfl) (by kernel_rfl) (fun _ _ _ h => h) (Or.inl ⟨by rfl, ?_⟩) (by assumption) ?_
    · clear hHeld; intro W hSw; obtain ⟨cx, cy, cs, co, cb⟩ := hSw; go_simp
    simp only [Act.put, List.getElem_toArray, List.getElem_cons_zero, List.getElem_cons_succ, List.setIfInBounds_toArray, List.set_cons_zero, List.set_cons_succ]
    refine wpAnyH_take (i := 4) (oi := _) (v := v1) rfl (by kernel_rfl) (by kernel_rfl) (by kernel_rfl) (fun _ _ _ h => h) (Or.inl ⟨by rfl, ?_⟩) (by assumption) ?_
    · clear hHeld; intro W hSw; obtain ⟨cx, cy, cs, co, cb⟩ := hSw; go_simp
    simp only [Act.put, List.getElem_toArray, List.getElem_cons_zero, List.getElem_cons_succ, List.setIfInBounds_toArray, List.set_cons_zero, List.set_cons_succ]
    refine wpAnyH_take (i := 5) (oi := _) (v := .string ⟨(openN bs).toArray⟩) rfl (by kernel_rfl) (by kernel_rfl) (by kernel_rfl) (fun _ _ _ h => h) (Or.inl ⟨by rfl, ?_⟩) (by assumption) ?_
    · clear hHeld; intro W hSw; obtain ⟨cx, cy, cs, co, cb⟩ := hSw; go_simp
    simp only [Act.put, List.getElem_toArray, List.getElem_cons_zero, List.getElem_cons_succ, List.setIfInBounds_toArray, List.set_cons_zero, List.set_cons_succ]
    refine wpAnyH_take (i := 6) (oi := _) (v := v2) rfl (by kernel_rfl) (by kernel_rfl) (by kernel_rfl) (fun _ _ _ h => h) (Or.inl ⟨by rfl, ?_⟩) (by assumption) ?_
    · clear hHeld; intro W hSw; obtain ⟨cx, cy, cs, co, cb⟩ := hSw; go_simp
    simp only [Act.put, List.getElem_toArray, List.getElem_cons_zero, List.getElem_cons_succ, List.setIfInBounds_toArray, List.set_cons_zero, List.set_cons_succ]
    refine wpAnyH_take (i := 7) (oi := _) (v := .string ⟨(openN bs).toArray⟩) rfl (by kernel_rfl) (by kernel_rfl) (by kernel_rfl) (fun _ _ _ h => h) (Or.inl ⟨by rfl, ?_⟩) (by assumption) ?_
    · clear hHeld; intro W hSw; obtain ⟨cx, cy, cs, co, cb⟩ := hSw; go_simp
    simp only [Act.put, List.getElem_toArray, List.getElem_cons_zero, List.getElem_cons_succ, List.setIfInBounds_toArray, List.set_cons_zero, List.set_cons_succ]
    refine wpAnyH_take (i := 8) (oi := _) (v := .bool true) rfl (by kernel_rfl) (by kernel_rfl) (by kernel_rfl) (fun _ _ _ h => h) (Or.inl ⟨by rfl, ?_⟩) (by assumption) ?_
    · clear hHeld; intro W hSw; obtain ⟨cx, cy, cs, co, cb⟩ := hSw; go_simp
    simp only [Act.put, List.getElem_toArray, List.getElem_cons_zero, List.getElem_cons_succ, List.setIfInBounds_toArray, List.set_cons_zero, List.set_cons_succ]
    refine wpAnyH_take (i := 9) (oi := _) (v := .bool true) rfl (by kernel_rfl) (by kernel_rfl) (by kernel_rfl) (fun _ _ _ h => h) (Or.inl ⟨by rfl, ?_⟩) (by assumption) ?_
    · clear hHeld; intro W hSw; obtain ⟨cx, cy, cs, co, cb⟩ := hSw; go_simp
    simp only [Act.put, List.getElem_toArray, List.getElem_cons_zero, List.getElem_cons_succ, List.setIfInBounds_toArray, List.set_cons_zero, List.set_cons_succ]
    refine wpAnyH_take (i := 10) (oi := _) (v := .bool true) rfl (by kernel_rfl) (by kernel_rfl) (by kernel_rfl) (fun _ _ _ h => h) (Or.inl ⟨by rfl, ?_⟩) (by assumption) ?_
    · clear hHeld; intro W hSw; obtain ⟨cx, cy, cs, co, cb⟩ := hSw; go_simp
    simp only [Act.put, List.getElem_toArray, List.getElem_cons_zero, List.getElem_cons_succ, List.setIfInBounds_toArray, List.set_cons_zero, List.set_cons_succ]
    refine wpAnyH_take (i := 11) (oi := _) (v := .slice a3 n3 c3) rfl (by kernel_rfl) (by kernel_rfl) (by kernel_rfl) (fun _ _ _ h => h) (Or.inl ⟨by rfl, ?_⟩) (by assumption) ?_
    · clear hHeld; intro W hSw; obtain ⟨cx, cy, cs, co, cb⟩ := hSw; go_simp
    simp only [Act.put, List.getElem_toArray, List.getElem_cons_zero, List.getElem_cons_succ, List.setIfInBounds_toArray, List.set_cons_zero, List.set_cons_succ]
    refine wpAnyH_take (i := 12) (oi := _) (v := .string ⟨(sealN bs).toArray⟩) rfl (by kernel_rfl) (by kernel_rfl) (by kernel_rfl) (fun _ _ _ h => h) (Or.inl ⟨by rfl, ?_⟩) (by assumption) ?_
    · clear hHeld; intro W hSw; obtain ⟨cx, cy, cs, co, cb⟩ := hSw; go_simp
    simp only [Act.put, List.getElem_toArray, List.getElem_cons_zero, List.getElem_cons_succ, List.setIfInBounds_toArray, List.set_cons_zero, List.set_cons_succ]
    refine wpAnyH_take (i := 13) (oi := _) (v := .slice a bs.length cap) rfl (by kernel_rfl) (by kernel_rfl) (by kernel_rfl) (fun _ _ _ h => h) (Or.inl ⟨by rfl, ?_⟩) (by assumption) ?_
    · clear hHeld; intro W hSw; obtain ⟨cx, cy, cs, co, cb⟩ := hSw; go_simp
    simp only [Act.put, List.getElem_toArray, List.getElem_cons_zero, List.getElem_cons_succ, List.setIfInBounds_toArray, List.set_cons_zero, List.set_cons_succ]
    refine wpAnyH_ready (rs := [14]) (by kernel_rfl) (by simp) ?_
    refine AllReadyH.cons (o := _) rfl (fun K hK => ?_) AllReadyH.nil
    rw [if_pos (by rfl)]
    simp only [List.getElem_toArray, List.getElem_cons_zero, List.getElem_cons_succ]
    go_wp2_with (go_at_call 15; refine (HT.out _ HD.out).mono ?_; rintro e w5 ⟨v5, rfl, r5, b5⟩; have H5 := Lib.hid (And.intro r5 (And.intro b5 (HD.out.trans (b5.mono HD.out.size)))); clear r5 b5)
    refine hK.out _ _ (HSS.out _ ((drew_below w4).trans H5.out.2.1)) (fun hh => ?_)
    clear hK K hHeld
    refine wpAnyH_more (S' := fun W => SealS v1 v2 (.slice a3 n3 c3) v4 (.slice a bs.length cap) bs W ∧ (convert 22 9 v5).run Try.prog W = .ok (.string ⟨(sealN bs).toArray⟩) W) (fun _ h => h.1) ?_
    have hHeld := And.intro hh (H5.out.1 w5 (Below.refl _ _))
    clear hh
    refine wpAnyH_take (i := 15) (oi := _) (v := .string ⟨(sealN bs).toArray⟩) rfl (by kernel_rfl) (by kernel_rfl) (by kernel_rfl) (fun _ _ _ h => h) (Or.inl ⟨by rfl, ?_⟩) (by assumption) ?_
    · clear hHeld; intro W hSw; obtain ⟨⟨cx, cy, cs, co, cb⟩, c5⟩ := hSw; go_simp
    simp only [Act.put, List.getElem_toArray, List.getElem_cons_zero, List.getElem_cons_succ, List.setIfInBounds_toArray, List.set_cons_zero, List.set_cons_succ]
    refine wpAnyH_take (i := 16) (oi := _) (v := .bool true) rfl (by kernel_rfl) (by kernel_rfl) (by kernel_rfl) (fun _ _ _ h => h) (Or.inl ⟨by rfl, ?_⟩) (by assumption) ?_
    · clear hHeld; intro W hSw; obtain ⟨⟨cx, cy, cs, co, cb⟩, c5⟩ := hSw; go_simp
    simp only [Act.put, List.getElem_toArray, List.getElem_cons_zero, List.getElem_cons_succ, List.setIfInBounds_toArray, List.set_cons_zero, List.set_cons_succ]
    refine wpAnyH_take (i := 17) (oi := _) (v := .bool true) rfl (by kernel_rfl) (by kernel_rfl) (by kernel_rfl) (fun _ _ _ h => h) (Or.inl ⟨by rfl, ?_⟩) (by assumption) ?_
    · clear hHeld; intro W hSw; obtain ⟨⟨cx, cy, cs, co, cb⟩, c5⟩ := hSw; go_simp
    simp only [Act.put, List.getElem_toArray, List.getElem_cons_zero, List.getElem_cons_succ, List.setIfInBounds_toArray, List.set_cons_zero, List.set_cons_succ]
    refine wpAnyH_take (i := 18) (oi := _) (v := .bool true) rfl (by kernel_rfl) (by kernel_rfl) (by kernel_rfl) (fun _ _ _ h => h) (Or.inl ⟨by rfl, ?_⟩) (by assumption) ?_
    · clear hHeld; intro W hSw; obtain ⟨⟨cx, cy, cs, co, cb⟩, c5⟩ := hSw; go_simp
    simp only [Act.put, List.getElem_toArray, List.getElem_cons_zero, List.getElem_cons_succ, List.setIfInBounds_toArray, List.set_cons_zero, List.set_cons_succ]
    refine wpAnyH_take (i := 19) (oi := _) (v := .bool true) rfl (by kernel_rfl) (by kernel_rfl) (by kernel_rfl) (fun _ _ _ h => h) (Or.inl ⟨by rfl, ?_⟩) (by assumption) ?_
    · clear hHeld; intro W hSw; obtain ⟨⟨cx, cy, cs, co, cb⟩, c5⟩ := hSw; go_simp
    simp only [Act.put, List.getElem_toArray, List.getElem_cons_zero, List.getElem_cons_succ, List.setIfInBounds_toArray, List.set_cons_zero, List.set_cons_succ]
    refine wpAnyH_take (i := 20) (oi := _) (v := .bool true) rfl (by kernel_rfl) (by kernel_rfl) (by kernel_rfl) (fun _ _ _ h => h) (Or.inl ⟨by rfl, ?_⟩) (by assumption) ?_
    · clear hHeld; intro W hSw; obtain ⟨⟨cx, cy, cs, co, cb⟩, c5⟩ := hSw; go_simp
    simp only [Act.put, List.getElem_toArray, List.getElem_cons_zero, List.getElem_cons_succ, List.setIfInBounds_toArray, List.set_cons_zero, List.set_cons_succ]
    refine wpAnyH_take (i := 21) (oi := _) (v := .bool true) rfl (by kernel_rfl) (by kernel_rfl) (by kernel_rfl) (fun _ _ _ h => h) (Or.inl ⟨by rfl, ?_⟩) (by assumption) ?_
    · clear hHeld; intro W hSw; obtain ⟨⟨cx, cy, cs, co, cb⟩, c5⟩ := hSw; go_simp
    simp only [Act.put, List.getElem_toArray, List.getElem_cons_zero, List.getElem_cons_succ, List.setIfInBounds_toArray, List.set_cons_zero, List.set_cons_succ]
    refine wpAnyH_take (i := 22) (oi := _) (v := v4) rfl (by kernel_rfl) (by kernel_rfl) (by kernel_rfl) (fun _ _ _ h => h) (Or.inl ⟨by rfl, ?_⟩) (by assumption) ?_
    · clear hHeld; intro W hSw; obtain ⟨⟨cx, cy, cs, co, cb⟩, c5⟩ := hSw; go_simp
    simp only [Act.put, List.getElem_toArray, List.getElem_cons_zero, List.getElem_cons_succ, List.setIfInBounds_toArray, List.set_cons_zero, List.set_cons_succ]
    refine wpAnyH_take (i := 23) (oi := _) (v := .string ⟨bs.toArray⟩) rfl (by kernel_rfl) (by kernel_rfl) (by kernel_rfl) (fun _ _ _ h => h) (Or.inl ⟨by rfl, ?_⟩) (by assumption) ?_
    · clear hHeld; intro W hSw; obtain ⟨⟨cx, cy, cs, co, cb⟩, c5⟩ := hSw; go_simp
    simp only [Act.put, List.getElem_toArray, List.getElem_cons_zero, List.getElem_cons_succ, List.setIfInBounds_toArray, List.set_cons_zero, List.set_cons_succ]
    refine wpAnyH_take (i := 24) (oi := _) (v := .slice a bs.length cap) rfl (by kernel_rfl) (by kernel_rfl) (by kernel_rfl) (fun _ _ _ h => h) (Or.inl ⟨by rfl, ?_⟩) (by assumption) ?_
    · clear hHeld; intro W hSw; obtain ⟨⟨cx, cy, cs, co, cb⟩, c5⟩ := hSw; go_simp
    simp only [Act.put, List.getElem_toArray, List.getElem_cons_zero, List.getElem_cons_succ, List.setIfInBounds_toArray, List.set_cons_zero, List.set_cons_succ]
    refine wpAnyH_take (i := 25) (oi := _) (v := .string ⟨bs.toArray⟩) rfl (by kernel_rfl) (by kernel_rfl) (by kernel_rfl) (fun _ _ _ h => h) (Or.inl ⟨by rfl, ?_⟩) (by assumption) ?_
    · clear hHeld; intro W hSw; obtain ⟨⟨cx, cy, cs, co, cb⟩, c5⟩ := hSw; go_simp
    simp only [Act.put, List.getElem_toArray, List.getElem_cons_zero, List.getElem_cons_succ, List.setIfInBounds_toArray, List.set_cons_zero, List.set_cons_succ]
    refine wpAnyH_take (i := 26) (oi := _) (v := .bool true) rfl (by kernel_rfl) (by kernel_rfl) (by kernel_rfl) (fun _ _ _ h => h) (Or.inl ⟨by rfl, ?_⟩) (by assumption) ?_
    · clear hHeld; intro W hSw; obtain ⟨⟨cx, cy, cs, co, cb⟩, c5⟩ := hSw; go_simp
    simp only [Act.put, List.getElem_toArray, List.getElem_cons_zero, List.getElem_cons_succ, List.setIfInBounds_toArray, List.set_cons_zero, List.set_cons_succ]
    refine wpAnyH_take (i := 27) (oi := _) (v := .bool true) rfl (by kernel_rfl) (by kernel_rfl) (by kernel_rfl) (fun _ _ _ h => h) (Or.inl ⟨by rfl, ?_⟩) (by assumption) ?_
    · clear hHeld; intro W hSw; obtain ⟨⟨cx, cy, cs, co, cb⟩, c5⟩ := hSw; go_simp
    simp only [Act.put, List.getElem_toArray, List.getElem_cons_zero, List.getElem_cons_succ, List.setIfInBounds_toArray, List.set_cons_zero, List.set_cons_succ]
    refine wpAnyH_take (i := 28) (oi := _) (v := .bool true) rfl (by kernel_rfl) (by kernel_rfl) (by kernel_rfl) (fun _ _ _ h => h) (Or.inl ⟨by rfl, ?_⟩) (by assumption) ?_
    · clear hHeld; intro W hSw; obtain ⟨⟨cx, cy, cs, co, cb⟩, c5⟩ := hSw; go_simp
    simp only [Act.put, List.getElem_toArray, List.getElem_cons_zero, List.getElem_cons_succ, List.setIfInBounds_toArray, List.set_cons_zero, List.set_cons_succ]
    refine wpAnyH_ready (rs := [29]) (by kernel_rfl) (by simp) ?_
    refine AllReadyH.cons (o := _) rfl (fun K hK => ?_) AllReadyH.nil
    rw [if_pos (by rfl)]
    simp only [List.getElem_toArray, List.getElem_cons_zero, List.getElem_cons_succ]
    go_wp2_with (go_at_call 7; refine (HW.out _).mono ?_; rintro e w6 ⟨rfl, b6⟩; have H6 := Lib.hid b6; clear b6)
    refine hK.out _ _ ⟨HSS.out _ (((drew_below w4).trans H5.out.2.1).trans (H6.out.mono (((drew_below w4).trans H5.out.2.1).size))), H5.out.1 w6 H6.out⟩ (fun hh => ?_)
    clear hK K hHeld
    have hHeld := hh
    clear hh
    refine wpAnyH_take (i := 30) (oi := _) (v := .bool true) rfl (by kernel_rfl) (by kernel_rfl) (by kernel_rfl) (fun _ _ _ h => h) (Or.inl ⟨by rfl, ?_⟩) (by assumption) ?_
    · clear hHeld; intro W hSw; obtain ⟨⟨cx, cy, cs, co, cb⟩, c5⟩ := hSw; go_simp
    simp only [Act.put, List.getElem_toArray, List.getElem_cons_zero, List.getElem_cons_succ, List.setIfInBounds_toArray, List.set_cons_zero, List.set_cons_succ]
    refine wpAnyH_take (i := 31) (oi := _) (v := .bool true) rfl (by kernel_rfl) (by kernel_rfl) (by kernel_rfl) (fun _ _ _ h => h) (Or.inl ⟨by rfl, ?_⟩) (by assumption) ?_
    · clear hHeld; intro W hSw; obtain ⟨⟨cx, cy, cs, co, cb⟩, c5⟩ := hSw; go_simp
    simp only [Act.put, List.getElem_toArray, List.getElem_cons_zero, List.getElem_cons_succ, List.setIfInBounds_toArray, List.set_cons_zero, List.set_cons_succ]
    refine wpAnyH_done (by kernel_rfl) ?_ _
    go_wp2_with fail
    go_ret
    exact ⟨rfl, H5.out.2.2.trans (H6.out.mono H5.out.2.2.size)⟩
end Go.Proofs.Ytpceledeeplhlaa
