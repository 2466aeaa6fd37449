/-
  The document's Check. No condition but that the grammar lies where it is said to lie.
-/
import Derived.Test.YtfdcopegkhofnaaGWideQk
import Derived.Test.YtfdcopegkhofnaaGTellQk
namespace Go.Proofs.Ytfdcopegkhofnaa
open Go.RowKit

theorem bad_kind {l : List Kd} {root : Int} {i : Nat} {x : Kd} (hx : l[i]? = some x) (h : kindOk (l.length : Int) x = false) : grOk ⟨l, root⟩ = false := by
  cases h2 : grOk ⟨l, root⟩
  · rfl
  · simp only [grOk, Bool.and_eq_true, List.all_eq_true] at h2
    have := h2.1.2 x (List.mem_of_getElem? hx)
    rw [h] at this; cases this
theorem apart_drop : ∀ {l : List Kd} {i j : Nat} {x y : Kd}, apart l = true → j < i → l[i]? = some x → l[j]? = some y → y.name.data.toList ≠ x.name.data.toList
  | [], i, _, _, _, _, _, hx, _ => by simp at hx
  | k :: r, 0, _, _, _, _, hj, _, _ => by omega
  | k :: r, i + 1, 0, x, y, h, _, hx, hy => by
    simp only [apart, Bool.and_eq_true] at h
    simp at hx hy
    subst hy
    exact fun e => fresh_at h.1 hx e.symm
  | k :: r, i + 1, j + 1, x, y, h, hj, hx, hy => by
    simp only [apart, Bool.and_eq_true] at h
    exact apart_drop h.2 (by omega : j < i) (by simpa using hx) (by simpa using hy)
theorem bad_pair {l : List Kd} {root : Int} {i j : Nat} {x y : Kd} (hj : j < i) (hx : l[i]? = some x) (hy : l[j]? = some y) (h : y.name.data.toList = x.name.data.toList) : grOk ⟨l, root⟩ = false := by
  cases h2 : grOk ⟨l, root⟩
  · rfl
  · simp only [grOk, Bool.and_eq_true] at h2
    exact absurd h (apart_drop h2.2 hj hx hy)
theorem bad_slot {n : Int} {x : Kd} {j : Nat} {s : Sl} (hs : x.slots[j]? = some s) (h : slotOk n s = false) : kindOk n x = false := by
  cases h2 : kindOk n x
  · rfl
  · simp only [kindOk, Bool.and_eq_true, List.all_eq_true] at h2
    have := h2.2 s (List.mem_of_getElem? hs)
    rw [h] at this; cases this
theorem not_rising {n : Int} {s : Sl} (h : rising n s.kinds = false) : slotOk n s = false := by
  cases h2 : slotOk n s
  · rfl
  · simp only [slotOk, slotRest, Bool.and_eq_true] at h2
    rw [rising, h2.1, h2.2.1.1.1] at h; cases h
theorem rising_slot {n : Int} {s : Sl} (h : rising n s.kinds = true) : slotOk n s = slotRest s := by
  simp only [rising, Bool.and_eq_true] at h
  rw [slotOk, h.1]; rfl
theorem rising_pos {n : Int} {s : Sl} (h : rising n s.kinds = true) : 0 < s.kinds.length := by
  simp only [rising, Bool.and_eq_true, decide_eq_true_eq] at h
  exact h.2
theorem kindRest_no {n : Int} {x : Kd} (h : ¬ (1 ≤ x.name.size ∧ x.name.size ≤ 40 ∧ x.slots.length ≤ 8)) : kindOk n x = false := by
  cases h2 : kindOk n x
  · rfl
  · simp [kindOk, kindRest] at h2
    omega
theorem kindRest_yes {n : Int} {x : Kd} (h1 : 1 ≤ x.name.size) (h2 : x.name.size ≤ 40) (h3 : x.slots.length ≤ 8) (h4 : x.slots.all (slotOk n) = true) : kindOk n x = true := by
  simp only [kindOk, kindRest]; rw [decide_eq_true h1, decide_eq_true h2, decide_eq_true h3, h4]; rfl
theorem errN_no {g : Gr} (h : grOk g = false) : errN (grOk g) = 50 := by rw [h]; rfl
theorem errN_yes {g : Gr} (h : grOk g = true) : errN (grOk g) = 0 := by rw [h]; rfl
theorem all_take {f : Kd → Bool} {l : List Kd} {i : Nat} {x : Kd} (h : (l.take i).all f = true) (hx : l[i]? = some x) (hf : f x = true) : (l.take (i + 1)).all f = true := by
  rw [take_snoc hx, List.all_append, h]; simp [hf]

def RCheckR (w : World) (c : Array Value) (l : List Kd) (i : Value) (wr : World) : Prop :=
  ∃ (k : Nat), k ≤ l.length ∧ i = .int .i64 k ∧ wr.heap[w.heap.size]? = some (.cells c 55 (0, 0)) ∧ Below w.heap.size w wr ∧ (l.take k).all (kindOk l.length) = true ∧ apart (l.take k) = true
def RCheckR1 (W : World) (l : List Kd) (k : Nat) (nm : List UInt8) (j : Value) (wr : World) : Prop :=
  ∃ (m : Nat), m ≤ k ∧ j = .int .i64 m ∧ Below W.heap.size W wr ∧ fresh (l.take m) nm = true
def RCheckR2 (W : World) (l : List Sl) (n : Int) (j : Value) (wr : World) : Prop :=
  ∃ (m : Nat), m ≤ l.length ∧ j = .int .i64 m ∧ Below W.heap.size W wr ∧ l.all (slotOk n) = (l.drop m).all (slotOk n)

set_option maxRecDepth 100000 in
set_option maxHeartbeats 4000000 in
theorem rcheck_any (w : World) (v : Value) (g : Gr) (hv : GrV w v g) (hf : g.few) : Calls Try.prog 34 #[v] w (Counts (errN (grOk g)) w) := by
  obtain ⟨ka, kc, rfl, hk⟩ := hv
  obtain ⟨l, root⟩ := g
  simp only at hk
  have hfl : l.length ≤ 1000000 := hf.1
  have HF := Lib.hid (show ∀ k ∈ l, k.few from hf.2)
  have HK := Lib.hid hk
  clear hf hk
  have HN := Lib.hid (fun (h : ¬ (l.length ≤ 32 ∧ 0 ≤ root ∧ root < (l.length : Int))) => errN_no (grOk_no (g := ⟨l, root⟩) h))
  by_cases h0 : l.length < 1
  · have h0' : (l.length : Int) < 1 := by omega
    go_enter Try.func34, Try.ntmps34
    go_wp2_with fail
    go_ret
    exact Counts.mk (HN.out (by omega)) (box_below _ _)
  have h0' : ¬ (l.length : Int) < 1 := by omega
  by_cases h1 : 32 < l.length
  · have h1' : (32 : Int) < (l.length : Int) := by omega
    go_enter Try.func34, Try.ntmps34
    go_wp2_with fail
    go_ret
    exact Counts.mk (HN.out (by omega)) (box_below _ _)
  have h1' : ¬ (32 : Int) < (l.length : Int) := by omega
  by_cases h2 : root < 0
  · go_enter Try.func34, Try.ntmps34
    go_wp2_with fail
    go_ret
    exact Counts.mk (HN.out (by omega)) (box_below _ _)
  by_cases h3 : (l.length : Int) ≤ root
  · go_enter Try.func34, Try.ntmps34
    go_wp2_with fail
    go_ret
    exact Counts.mk (HN.out (by omega)) (box_below _ _)
  have HY := Lib.hid (grOk_rest (g := ⟨l, root⟩) (by simp only; omega) (by simp only; omega) (by simp only; omega))
  have h32 : l.length ≤ 32 := by omega
  clear HN
  go_enter Try.func34, Try.ntmps34
  go_wp2_with fail
  clear h0' h1' h2 h3 h0 h1
  go_loopw [4] (fun i wr => RCheckR w #[.slice ka l.length kc, .int .i64 root] l i wr) (fun i _ => l.length - (intOf i).toNat)
  case atStart => exact ⟨0, Nat.zero_le _, rfl, heap_alloc_new w _, box_below _ _, rfl, rfl⟩
  case round =>
    obtain ⟨k, hkl, rfl, hb, hbel, hall, hap⟩ := hrel
    have HB := Lib.hid (And.intro hb hbel)
    have HA := Lib.hid (And.intro hall hap)
    have p0 : wr.cell? ⟨w.heap.size, 0, none⟩ = some (.slice ka l.length kc) := by rw [cell_of_row wr _ 0 _ _ _ hb]; rfl
    by_cases hlt : k < l.length
    · obtain ⟨x, hx⟩ : ∃ x, l[k]? = some x := ⟨l[k], List.getElem?_eq_getElem hlt⟩
      have hfx := HF.out x (List.mem_of_getElem? hx)
      obtain ⟨b, off, rfl, hblt, hc⟩ := (HK.out.below hbel) (by omega)
      obtain ⟨sa, sc, c0, c1, c2, hs⟩ := hc k x hx
      have HS := Lib.hid hs
      have HX := Lib.hid hx
      have HFX := Lib.hid hfx.2.2
      have hs1 := hfx.1
      have hs2 := hfx.2.1
      have hkl2 : (k : Int) < (l.length : Int) := by omega
      clear hx hc hs hfx hb hbel hall hap
      by_cases g1 : x.name.size < 1
      · have g1' : (x.name.size : Int) < 1 := by omega
        go_wp2_with fail
        go_ret
        exact Counts.mk (errN_no (bad_kind HX.out (kindRest_no (by omega)))) (HB.out.2.alloc HB.out.2.size _)
      have g1' : ¬ (x.name.size : Int) < 1 := by omega
      by_cases g2 : 40 < x.name.size
      · have g2' : (40 : Int) < (x.name.size : Int) := by omega
        go_wp2_with fail
        go_ret
        exact Counts.mk (errN_no (bad_kind HX.out (kindRest_no (by omega)))) (HB.out.2.alloc HB.out.2.size _)
      have g2' : ¬ (40 : Int) < (x.name.size : Int) := by omega
      by_cases g3 : 8 < x.slots.length
      · have g3' : (8 : Int) < (x.slots.length : Int) := by omega
        go_wp2_with fail
        go_ret
        exact Counts.mk (errN_no (bad_kind HX.out (kindRest_no (by omega)))) (HB.out.2.alloc HB.out.2.size _)
      have g3' : ¬ (8 : Int) < (x.slots.length : Int) := by omega
      go_wp2_with fail
      have hz8 : x.slots.length ≤ 8 := by omega
      clear g1' g2' g3' p0 c0 c1 c2
      obtain ⟨w1, rfl⟩ : ∃ w1, w1 = wr := ⟨_, rfl⟩
      obtain ⟨wo, hwo⟩ : ∃ wo, wo = w1.alloc (.cells #[.string x.name, .bool x.text, .slice sa x.slots.length sc] 104) := ⟨_, rfl⟩
      rw [← hwo]
      have HWB := Lib.hid (show Below w1.heap.size w1 wo by rw [hwo]; exact box_below _ _)
      have HWK := Lib.hid (show wo.heap[w1.heap.size]? = some (.cells #[.string x.name, .bool x.text, .slice sa x.slots.length sc] 104 (0, 0)) by rw [hwo]; exact heap_alloc_new _ _)
      have HWG := Lib.hid (show wo.heap[w.heap.size]? = some (.cells #[.slice (some ⟨b, off, none⟩) l.length kc, .int .i64 root] 55 (0, 0)) by rw [hwo, Below.heap_alloc _ _ _ (lt_of_some' HB.out.1)]; exact HB.out.1)
      have HWO := Lib.hid (HB.out.2.trans (HWB.out.mono HB.out.2.size))
      obtain ⟨kb, hkb⟩ : ∃ kb, kb = w1.heap.size := ⟨_, rfl⟩
      rw [← hkb] at HWK
      rw [← hkb]
      clear hwo hkb
      go_loopw [6] (fun j wr => RCheckR1 wo l k x.name.data.toList j wr) (fun j _ => k - (intOf j).toNat)
      case atStart => exact ⟨0, Nat.zero_le _, rfl, Below.refl _ _, rfl⟩
      case round =>
        obtain ⟨m, hm, rfl, hbel1, hfr⟩ := hrel
        have HB1 := Lib.hid hbel1
        have HFR := Lib.hid hfr
        have HB2 := Lib.hid (HWO.out.trans (hbel1.mono HWO.out.size))
        have q0 : wr.cell? ⟨kb, 0, none⟩ = some (.string x.name) := by rw [cell_of_row wr _ 0 _ _ _ ((hbel1.block _ (lt_of_some' HWK.out)).trans HWK.out)]; rfl
        have q2 : wr.cell? ⟨kb, 2, none⟩ = some (.slice sa x.slots.length sc) := by rw [cell_of_row wr _ 2 _ _ _ ((hbel1.block _ (lt_of_some' HWK.out)).trans HWK.out)]; rfl
        by_cases hlt1 : m < k
        · obtain ⟨y, hy⟩ : ∃ y, l[m]? = some y := ⟨l[m]'(by omega), List.getElem?_eq_getElem _⟩
          have r0 : wr.cell? ⟨w.heap.size, 0, none⟩ = some (.slice (some ⟨b, off, none⟩) l.length kc) := by rw [cell_of_row wr _ 0 _ _ _ ((hbel1.block _ (lt_of_some' HWG.out)).trans HWG.out)]; rfl
          obtain ⟨b', off', he, hblt', hc'⟩ := (HK.out.below HB2.out) (by omega)
          cases he
          obtain ⟨sa', sc', c0, _, _, _⟩ := hc' m y hy
          have HYY := Lib.hid hy
          have hm2 : (m : Int) < (k : Int) := by omega
          have hm3 : (m : Int) < (l.length : Int) := by omega
          clear hy hc' hbel1 hfr q2
          by_cases hn : y.name.toList = x.name.toList
          · have HNN := Lib.hid (show y.name.data.toList = x.name.data.toList by rw [← ByteArray.toList_eq, ← ByteArray.toList_eq, hn])
            go_wp2_with fail
            go_quiet (fail)
            go_wp2_with fail
            go_ret
            exact Counts.mk (errN_no (bad_pair (by omega) HX.out HYY.out HNN.out)) (below_drewN HB2.out _)
          · have hn2 : (y.name.toList == x.name.toList) = false := by simpa using hn
            have HNN := Lib.hid (show y.name.data.toList ≠ x.name.data.toList by rw [← ByteArray.toList_eq, ← ByteArray.toList_eq]; exact hn)
            go_wp2_with fail
            go_quiet (fail)
            go_wp2_with fail
            exact ⟨⟨m + 1, by omega, by go_num, below_drewN HB1.out _, by rw [fresh_take HYY.out, HFR.out, decide_eq_true HNN.out]; rfl⟩, by simp [intOf]; omega⟩
        · have HFF := Lib.hid (show fresh (l.take k) x.name.data.toList = true by obtain rfl : m = k := (by omega); exact HFR.out)
          have hm2 : ¬ (m : Int) < (k : Int) := by omega
          clear hbel1 hfr q0 q2 HFR
          go_wp2_with fail
          obtain ⟨w3, rfl⟩ : ∃ w3, w3 = wr := ⟨_, rfl⟩
          go_loopw [7] (fun j wr => RCheckR2 w3 x.slots l.length j wr) (fun j _ => x.slots.length - (intOf j).toNat)
          case atStart => exact ⟨0, Nat.zero_le _, rfl, Below.refl _ _, rfl⟩
          case round =>
            obtain ⟨j, hj, rfl, hbel2, hall2⟩ := hrel
            have HA2 := Lib.hid hall2
            have HB3 := Lib.hid (HB2.out.trans (hbel2.mono HB2.out.size))
            have HB4 := Lib.hid hbel2
            have hbk := (hbel2.block _ (lt_of_some' ((HB1.out.block _ (lt_of_some' HWK.out)).trans HWK.out))).trans ((HB1.out.block _ (lt_of_some' HWK.out)).trans HWK.out)
            have q2 : wr.cell? ⟨kb, 2, none⟩ = some (.slice sa x.slots.length sc) := by rw [cell_of_row wr _ 2 _ _ _ hbk]; rfl
            by_cases hlt2 : j < x.slots.length
            · obtain ⟨s, hsx⟩ : ∃ s, x.slots[j]? = some s := ⟨x.slots[j], List.getElem?_eq_getElem hlt2⟩
              have hfs : s.kinds.length ≤ 1000000 := HFX.out s (List.mem_of_getElem? hsx)
              have hs' : SlotsAt wr sa x.slots := (HS.out.below ((HWB.out.trans (HB1.out.mono HWB.out.size)).trans (hbel2.mono (HWB.out.trans (HB1.out.mono HWB.out.size)).size)))
              obtain ⟨b2, off2, rfl, hblt2, hc2⟩ := hs' (by omega)
              obtain ⟨ka2, kc2, d0, d1, d2, hi⟩ := hc2 j s hsx
              have HI := Lib.hid hi
              have HSX := Lib.hid hsx
              have hj2 : (j : Int) < (x.slots.length : Int) := by omega
              obtain ⟨bb, hbb⟩ : ∃ bb, rising (l.length : Int) s.kinds = bb := ⟨_, rfl⟩
              have HBB := Lib.hid hbb
              clear hbel2 hall2 hbk hsx hc2 hi hbb
              cases bb
              · go_wp2_with (go_at_call 92; ((with_reducible refine (rising_any _ _ _ _ _ (by omega) (HI.out.below (box_below _ _)) hfs).mono ?_); rintro e w5 ⟨rfl, h2⟩; rw [HBB.out]; have H2 := Lib.hid ((box_below wr _).trans (h2.mono (box_below wr _).size)); clear h2))
                go_ret
                exact Counts.mk (errN_no (bad_kind HX.out (bad_slot HSX.out (not_rising HBB.out)))) (HB3.out.trans (H2.out.mono HB3.out.size))
              · have hso : slotOk (l.length : Int) s = slotRest s := rising_slot HBB.out
                have HSO := Lib.hid hso
                have HNO := Lib.hid (fun (h : ¬ (0 < s.kinds.length ∧ 0 ≤ s.least ∧ s.least ≤ s.most ∧ s.most ≤ 1000)) => hso.trans (slotRest_no h))
                have hpos : 0 < s.kinds.length := rising_pos HBB.out
                clear hso
                by_cases e1 : s.least < 0
                · go_wp2_with (go_at_call 92; ((with_reducible refine (rising_any _ _ _ _ _ (by omega) (HI.out.below (box_below _ _)) hfs).mono ?_); rintro e w5 ⟨rfl, h2⟩; rw [HBB.out]; have H2 := Lib.hid ((box_below wr _).trans (h2.mono (box_below wr _).size)); have q5 := boxed_cell h2 1 _ rfl; clear h2))
                  go_ret
                  exact Counts.mk (errN_no (bad_kind HX.out (bad_slot HSX.out (HNO.out (by omega))))) (HB3.out.trans (H2.out.mono HB3.out.size))
                by_cases e2 : s.most < s.least
                · go_wp2_with (go_at_call 92; ((with_reducible refine (rising_any _ _ _ _ _ (by omega) (HI.out.below (box_below _ _)) hfs).mono ?_); rintro e w5 ⟨rfl, h2⟩; rw [HBB.out]; have H2 := Lib.hid ((box_below wr _).trans (h2.mono (box_below wr _).size)); have q5 := boxed_cell h2 1 _ rfl; have q6 := boxed_cell h2 2 _ rfl; clear h2))
                  go_ret
                  exact Counts.mk (errN_no (bad_kind HX.out (bad_slot HSX.out (HNO.out (by omega))))) (HB3.out.trans (H2.out.mono HB3.out.size))
                by_cases e3 : 1000 < s.most
                · go_wp2_with (go_at_call 92; ((with_reducible refine (rising_any _ _ _ _ _ (by omega) (HI.out.below (box_below _ _)) hfs).mono ?_); rintro e w5 ⟨rfl, h2⟩; rw [HBB.out]; have H2 := Lib.hid ((box_below wr _).trans (h2.mono (box_below wr _).size)); have q5 := boxed_cell h2 1 _ rfl; have q6 := boxed_cell h2 2 _ rfl; clear h2))
                  go_ret
                  exact Counts.mk (errN_no (bad_kind HX.out (bad_slot HSX.out (HNO.out (by omega))))) (HB3.out.trans (H2.out.mono HB3.out.size))
                have HOK := Lib.hid (show slotOk (l.length : Int) s = true by rw [HSO.out, slotRest, decide_eq_true hpos, decide_eq_true (by omega : 0 ≤ s.least), decide_eq_true (by omega : s.least ≤ s.most), decide_eq_true (by omega : s.most ≤ 1000)]; rfl)
                have HSTEP := Lib.hid (all_step HA2.out HSX.out)
                go_wp2_with (go_at_call 92; ((with_reducible refine (rising_any _ _ _ _ _ (by omega) (HI.out.below (box_below _ _)) hfs).mono ?_); rintro e w5 ⟨rfl, h2⟩; rw [HBB.out]; have H2 := Lib.hid ((box_below wr _).trans (h2.mono (box_below wr _).size)); have q5 := boxed_cell h2 1 _ rfl; have q6 := boxed_cell h2 2 _ rfl; clear h2))
                exact ⟨⟨j + 1, by omega, by go_num, HB4.out.trans (H2.out.mono HB4.out.size), by rw [HSTEP.out, HOK.out]; rfl⟩, by simp [intOf]; omega⟩
            · have HE := Lib.hid (all_end HA2.out (by omega))
              have hj2 : ¬ (j : Int) < (x.slots.length : Int) := by omega
              have hwg := (HB4.out.block _ (lt_of_some' ((HB1.out.block _ (lt_of_some' HWG.out)).trans HWG.out))).trans ((HB1.out.block _ (lt_of_some' HWG.out)).trans HWG.out)
              have HWW := Lib.hid hwg
              clear hbel2 hall2 hbk hwg
              go_wp2_with fail
              exact ⟨⟨k + 1, by omega, by go_num, HWW.out, HB3.out, all_take HA.out.1 HX.out (kindRest_yes (by omega) (by omega) (by omega) HE.out), by rw [apart_take HX.out, HA.out.2, HFF.out]; rfl⟩, by simp [intOf]; omega⟩
    · have hkl2 : ¬ (k : Int) < (l.length : Int) := by omega
      have HE := Lib.hid (show l.all (kindOk l.length) = true ∧ apart l = true by rw [List.take_of_length_le (by omega)] at hall hap; exact ⟨hall, hap⟩)
      clear hb hbel hall hap
      go_wp2_with fail
      go_ret
      exact Counts.mk (errN_yes (by rw [HY.out, HE.out.1, HE.out.2]; rfl)) HB.out.2
end Go.Proofs.Ytfdcopegkhofnaa
