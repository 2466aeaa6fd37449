/-
  What the program says of a slot, and the document's 'rising'. No condition but that the slot lies where it is said to lie.
-/
import Derived.Test.YtmfpilacmafglaaGPlain
namespace Go.Proofs.Ytmfpilacmafglaa
open Go.RowKit

theorem slotRest_no {s : Sl} (h : ¬ (0 < s.kinds.length ∧ 0 ≤ s.least ∧ s.least ≤ s.most ∧ s.most ≤ 1000)) : slotRest s = false := by
  cases h2 : slotRest s
  · rfl
  · simp [slotRest] at h2
    exact absurd ⟨List.length_pos_iff.2 (by first | exact h2.1.1.1 | exact List.length_pos_iff.1 h2.1.1.1), h2.1.1.2, h2.1.2, h2.2⟩ h
theorem slotOk_no1 {n : Int} {s : Sl} (h : slotRest s = false) : slotOk n s = false := by simp [slotOk, h]
def SlotR (w : World) (c : Array Value) (n : Int) (l : List Int) (a i : Value) (wr : World) : Prop :=
  ∃ (k : Nat) (x : Int), k ≤ l.length ∧ i = .int .i64 k ∧ a = .int .i64 x ∧ wr.heap[w.heap.size]? = some (.cells c 87 (0, 0)) ∧ Below w.heap.size w wr ∧ rise n (-1) l = rise n x (l.drop k)

set_option maxRecDepth 100000 in
set_option maxHeartbeats 1000000 in
theorem slot_any (w : World) (v : Value) (s : Sl) (n : Int) (hv : SlotV w v s) (hf : s.few) : Calls Try.prog 96 #[v, .int .i64 n] w (Says (slotOk n s) w) := by
  obtain ⟨ka, kc, rfl, hk⟩ := hv
  obtain ⟨l, lo, hi⟩ := s
  simp only at hk
  have hfl : l.length ≤ 1000000 := hf
  have HK := Lib.hid hk
  clear hf hk
  go_enter Try.func96, Try.ntmps96
  go_wp2_with fail
  go_loopw [5, 11] (fun a i wr => SlotR w #[.slice ka l.length kc, .int .i64 lo, .int .i64 hi] n l a i wr) (fun _ i _ => l.length - (intOf i).toNat)
  case atStart => exact ⟨0, -1, Nat.zero_le _, rfl, rfl, heap_alloc_new w _, box_below _ _, rfl⟩
  case round =>
    obtain ⟨k, a, hkl, rfl, rfl, hb, hbel, hany⟩ := hrel
    have HB := Lib.hid (And.intro hb hbel)
    have HA := Lib.hid hany
    by_cases hlt : k < l.length
    · obtain ⟨x, hx⟩ : ∃ x, l[k]? = some x := ⟨l[k], List.getElem?_eq_getElem hlt⟩
      obtain ⟨b, off, rfl, hblt, hc⟩ := (HK.out.below hbel) (by omega)
      have c0 := hc k x hx
      have HX := Lib.hid (rise_step HA.out hx)
      have hkl2 : (k : Int) < (l.length : Int) := by omega
      clear hx hc hb hbel hany
      by_cases h1 : x ≤ a
      · go_wp2_with fail
        go_ret
        exact Says.mk (by rw [slotOk, HX.out]; simp; intro h; omega) HB.out.2
      · by_cases h2 : n ≤ x
        · go_wp2_with fail
          go_ret
          exact Says.mk (by rw [slotOk, HX.out]; simp; intro _ h; omega) HB.out.2
        · go_wp2_with fail
          exact ⟨⟨k + 1, x, by omega, by go_num, rfl, HB.out.1, HB.out.2, by rw [HX.out]; simp; omega⟩, by simp [intOf]; omega⟩
    · have p0 : wr.cell? ⟨w.heap.size, 0, none⟩ = some (.slice ka l.length kc) := by rw [cell_of_row wr _ 0 _ _ _ hb]; rfl
      have p1 : wr.cell? ⟨w.heap.size, 1, none⟩ = some (.int .i64 lo) := by rw [cell_of_row wr _ 1 _ _ _ hb]; rfl
      have p2 : wr.cell? ⟨w.heap.size, 2, none⟩ = some (.int .i64 hi) := by rw [cell_of_row wr _ 2 _ _ _ hb]; rfl
      have HE := Lib.hid (show slotOk n ⟨l, lo, hi⟩ = slotRest ⟨l, lo, hi⟩ by rw [slotOk, rise_end HA.out (by omega)]; rfl)
      have hkl2 : ¬ (k : Int) < (l.length : Int) := by omega
      have HN : ¬ (0 < l.length ∧ 0 ≤ lo ∧ lo ≤ hi ∧ hi ≤ 1000) → slotOk n ⟨l, lo, hi⟩ = false := fun h => HE.out.trans (slotRest_no (s := ⟨l, lo, hi⟩) h)
      have HNN := Lib.hid HN
      clear HN hb hbel hany
      by_cases h1 : 0 < l.length
      · have h1' : (0 : Int) < (l.length : Int) := by omega
        by_cases h2 : 0 ≤ lo
        · by_cases h3 : lo ≤ hi
          · by_cases h4 : hi ≤ 1000
            · go_wp2_with fail
              go_ret
              exact Says.mk (by rw [HE.out]; simp [slotRest, h2, h3, h4]; omega) HB.out.2
            · go_wp2_with fail
              go_ret
              exact Says.mk (HNN.out (by omega)) HB.out.2
          · go_wp2_with fail
            go_ret
            exact Says.mk (HNN.out (by omega)) HB.out.2
        · go_wp2_with fail
          go_ret
          exact Says.mk (HNN.out (by omega)) HB.out.2
      · have h1' : ¬ (0 : Int) < (l.length : Int) := by omega
        go_wp2_with fail
        go_ret
        exact Says.mk (HNN.out (by omega)) HB.out.2
end Go.Proofs.Ytmfpilacmafglaa
