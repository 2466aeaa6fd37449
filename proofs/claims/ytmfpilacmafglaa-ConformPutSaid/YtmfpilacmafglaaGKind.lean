/-
  What the program says of a kind. No condition but that the kind lies where it is said to lie.
-/
import Derived.Test.YtmfpilacmafglaaGSlot
namespace Go.Proofs.Ytmfpilacmafglaa
open Go.RowKit

def KindR (w : World) (n : Int) (l : List Sl) (i : Value) (wr : World) : Prop :=
  ∃ (k : Nat), k ≤ l.length ∧ i = .int .i64 k ∧ Below w.heap.size w wr ∧ l.all (slotOk n) = (l.drop k).all (slotOk n)

set_option maxRecDepth 100000 in
set_option maxHeartbeats 1000000 in
theorem kind_any (w : World) (v : Value) (x : Kd) (n : Int) (hv : KindV w v x) (hf : x.few) : Calls Try.prog 89 #[v, .int .i64 n] w (Says (kindOk n x) w) := by
  obtain ⟨sa, sc, rfl, hk⟩ := hv
  obtain ⟨nm, tx, l⟩ := x
  simp only at hk
  obtain ⟨hf1, hf2, hf3⟩ := hf
  simp only at hf1 hf2 hf3
  have HK := Lib.hid hk
  have HF := Lib.hid hf3
  clear hf3 hk
  have HN : ¬ (1 ≤ nm.size ∧ nm.size ≤ 40 ∧ l.length ≤ 8) → kindOk n ⟨nm, tx, l⟩ = false := fun h => by
    cases h2 : kindOk n ⟨nm, tx, l⟩
    · rfl
    · simp [kindOk, kindRest] at h2
      omega
  have HNN := Lib.hid HN
  clear HN
  by_cases h1 : nm.size < 1
  · have h1' : (nm.size : Int) < 1 := by omega
    go_enter Try.func89, Try.ntmps89
    go_wp2_with fail
    go_ret
    exact Says.mk (HNN.out (by omega)) (box_below _ _)
  · have h1' : ¬ (nm.size : Int) < 1 := by omega
    by_cases h2 : 40 < nm.size
    · have h2' : (40 : Int) < (nm.size : Int) := by omega
      go_enter Try.func89, Try.ntmps89
      go_wp2_with fail
      go_ret
      exact Says.mk (HNN.out (by omega)) (box_below _ _)
    · have h2' : ¬ (40 : Int) < (nm.size : Int) := by omega
      by_cases h3 : 8 < l.length
      · have h3' : (8 : Int) < (l.length : Int) := by omega
        go_enter Try.func89, Try.ntmps89
        go_wp2_with fail
        go_ret
        exact Says.mk (HNN.out (by omega)) (box_below _ _)
      · have h3' : ¬ (8 : Int) < (l.length : Int) := by omega
        have HY := Lib.hid (show kindOk n ⟨nm, tx, l⟩ = l.all (slotOk n) by simp only [kindOk, kindRest]; rw [decide_eq_true (by omega : 1 ≤ nm.size), decide_eq_true (by omega : nm.size ≤ 40), decide_eq_true (by omega : l.length ≤ 8)]; rfl)
        clear HNN
        go_enter Try.func89, Try.ntmps89
        go_wp2_with fail
        go_loopw [26] (fun i wr => KindR w n l i wr) (fun i _ => l.length - (intOf i).toNat)
        case atStart => exact ⟨0, Nat.zero_le _, rfl, box_below _ _, rfl⟩
        case round =>
          obtain ⟨k, hkl, rfl, hbel, hany⟩ := hrel
          have HB := Lib.hid hbel
          have HA := Lib.hid hany
          by_cases hlt : k < l.length
          · obtain ⟨s, hx⟩ : ∃ s, l[k]? = some s := ⟨l[k], List.getElem?_eq_getElem hlt⟩
            have hfs := HF.out s (List.mem_of_getElem? hx)
            obtain ⟨b, off, rfl, hblt, hc⟩ := (HK.out.below hbel) (by omega)
            obtain ⟨ka2, kc2, d0, d1, d2, hi⟩ := hc k s hx
            have HI := Lib.hid (And.intro hi hfs)
            obtain ⟨bb, hbb⟩ : ∃ bb, slotOk n s = bb := ⟨_, rfl⟩
            have HX := Lib.hid ((all_step HA.out hx).trans (by rw [hbb]))
            have HBB := Lib.hid hbb
            have hkl2 : (k : Int) < (l.length : Int) := by omega
            clear hx hc hi hfs hbb hbel hany
            cases bb
            · go_wp2_with (go_at_call 96; ((with_reducible refine (slot_any _ _ s n (slotV (HI.out.1.below (box_below _ _))) HI.out.2).mono ?_); rintro e w2 ⟨rfl, h2⟩; rw [HBB.out]; have H2 := Lib.hid ((box_below wr _).trans (h2.mono (box_below wr _).size)); clear h2))
              go_ret
              exact Says.mk (by rw [HY.out, HX.out]; rfl) (HB.out.trans (H2.out.mono HB.out.size))
            · go_wp2_with (go_at_call 96; ((with_reducible refine (slot_any _ _ s n (slotV (HI.out.1.below (box_below _ _))) HI.out.2).mono ?_); rintro e w2 ⟨rfl, h2⟩; rw [HBB.out]; have H2 := Lib.hid ((box_below wr _).trans (h2.mono (box_below wr _).size)); clear h2))
              exact ⟨⟨k + 1, by omega, by go_num, HB.out.trans (H2.out.mono HB.out.size), by rw [HX.out]; rfl⟩, by simp [intOf]; omega⟩
          · have HE := Lib.hid (all_end HA.out (by omega))
            have hkl2 : ¬ (k : Int) < (l.length : Int) := by omega
            clear hbel hany
            go_wp2_with fail
            go_ret
            exact Says.mk (HY.out.trans HE.out) HB.out
end Go.Proofs.Ytmfpilacmafglaa
