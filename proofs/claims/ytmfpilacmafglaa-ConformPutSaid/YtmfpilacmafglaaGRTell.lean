/-
  The document's Find, Text and Least. No condition but that the grammar lies where it is said to lie.
-/
import Derived.Test.YtmfpilacmafglaaGRCheck
import Derived.Test.YtmfpilacmafglaaGTell2
namespace Go.Proofs.Ytmfpilacmafglaa
open Go.RowKit

theorem findN_is {l : List Kd} {s : List UInt8} {i : Nat} {x : Kd} (hf : fresh (l.take i) s = true) (hx : l[i]? = some x) (h : x.name.data.toList = s) : findN l s = some i := by
  obtain ⟨hi, rfl⟩ := List.getElem?_eq_some_iff.1 hx
  refine List.findIdx?_eq_some_iff_getElem.2 ⟨hi, by simpa using h, fun j hj => ?_⟩
  have := fresh_at (k := j) hf (by rw [List.getElem?_take, if_pos hj]; exact List.getElem?_eq_getElem (by omega))
  simpa using this
theorem findN_not {l : List Kd} {s : List UInt8} (hf : fresh l s = true) : findN l s = none := by
  rw [findN, List.findIdx?_eq_none_iff]
  intro x hx
  have := List.all_eq_true.1 hf x hx
  simpa using this

def RFindR (w : World) (c : Array Value) (l : List Kd) (s : List UInt8) (i : Value) (wr : World) : Prop :=
  ∃ (k : Nat), k ≤ l.length ∧ i = .int .i64 k ∧ wr.heap[w.heap.size]? = some (.cells c 55 (0, 0)) ∧ Below w.heap.size w wr ∧ fresh (l.take k) s = true

set_option maxRecDepth 100000 in
set_option maxHeartbeats 1000000 in
theorem rfind_any (w : World) (v : Value) (g : Gr) (s : ByteArray) (hv : GrV w v g) (hf : g.few) : Calls Try.prog 28 #[v, .string s] w (Pair (findV g s.data.toList).1 (findV g s.data.toList).2 w) := by
  obtain ⟨ka, kc, rfl, hk⟩ := hv
  obtain ⟨l, root⟩ := g
  simp only at hk
  have hfl : l.length ≤ 1000000 := hf.1
  have HF := Lib.hid hf
  have HK := Lib.hid hk
  obtain ⟨bb, hbb⟩ : ∃ bb, grOk ⟨l, root⟩ = bb := ⟨_, rfl⟩
  have HBB := Lib.hid hbb
  clear hf hk hbb
  cases bb
  · go_enter Try.func28, Try.ntmps28
    go_wp2_with (go_at_call 30; ((with_reducible refine (rcheck_any _ _ _ (grV (HK.out.below (box_below _ _))) HF.out).mono ?_); rintro e w2 ⟨rfl, h2⟩; rw [errN_no HBB.out]; have H2 := Lib.hid ((box_below w _).trans (h2.mono (box_below w _).size)); clear h2))
    go_ret2
    exact Pair.mk (by rw [findV, if_neg (by rw [HBB.out]; decide)]) (by rw [findV, if_neg (by rw [HBB.out]; decide)]) H2.out
  · have HV := Lib.hid (show findV ⟨l, root⟩ s.data.toList = match findN l s.data.toList with | some i => ((i : Int), true) | none => (0, false) by rw [findV, if_pos HBB.out]; rfl)
    go_enter Try.func28, Try.ntmps28
    go_wp2_with (go_at_call 30; ((with_reducible refine (rcheck_any _ _ _ (grV (HK.out.below (box_below _ _))) HF.out).mono ?_); rintro e w2 ⟨rfl, h2⟩; rw [errN_yes HBB.out]; have H2 := Lib.hid h2; have HB2 := Lib.hid ((box_below w _).trans (h2.mono (box_below w _).size)); clear h2))
    go_loopw [6] (fun i wr => RFindR w #[.slice ka l.length kc, .int .i64 root] l s.data.toList i wr) (fun i _ => l.length - (intOf i).toNat)
    case atStart => exact ⟨0, Nat.zero_le _, rfl, (H2.out.block _ (by simp)).trans (heap_alloc_new w _), HB2.out, rfl⟩
    case round =>
      obtain ⟨k, hkl, rfl, hb, hbel, hfr⟩ := hrel
      have HB := Lib.hid (And.intro hb hbel)
      have HFR := Lib.hid hfr
      have p0 : wr.cell? ⟨w.heap.size, 0, none⟩ = some (.slice ka l.length kc) := by rw [cell_of_row wr _ 0 _ _ _ hb]; rfl
      by_cases hlt : k < l.length
      · obtain ⟨x, hx⟩ : ∃ x, l[k]? = some x := ⟨l[k], List.getElem?_eq_getElem hlt⟩
        obtain ⟨b, off, rfl, hblt, hc⟩ := (HK.out.below hbel) (by omega)
        obtain ⟨sa, sc, c0, _, _, _⟩ := hc k x hx
        have HX := Lib.hid hx
        have hkl2 : (k : Int) < (l.length : Int) := by omega
        clear hx hc hb hbel hfr
        by_cases hn : x.name.toList = s.toList
        · have HN := Lib.hid (show x.name.data.toList = s.data.toList by rw [← ByteArray.toList_eq, ← ByteArray.toList_eq, hn])
          have hn1 : (x.name.toList == s.toList) = true := by simpa using hn
          go_wp2_with fail
          go_ret2
          exact Pair.mk (by rw [HV.out, findN_is HFR.out HX.out HN.out]) (by rw [HV.out, findN_is HFR.out HX.out HN.out]) HB.out.2
        · have HN := Lib.hid (show x.name.data.toList ≠ s.data.toList by rw [← ByteArray.toList_eq, ← ByteArray.toList_eq]; exact hn)
          have hn1 : (x.name.toList == s.toList) = false := by simpa using hn
          go_wp2_with fail
          exact ⟨⟨k + 1, by omega, by go_num, HB.out.1, HB.out.2, by rw [fresh_take HX.out, HFR.out, decide_eq_true HN.out]; rfl⟩, by simp [intOf]; omega⟩
      · have HFF := Lib.hid (show fresh l s.data.toList = true by rw [List.take_of_length_le (by omega)] at hfr; exact hfr)
        have hkl2 : ¬ (k : Int) < (l.length : Int) := by omega
        clear hb hbel hfr HFR
        go_wp2_with fail
        go_ret2
        exact Pair.mk (by rw [HV.out, findN_not HFF.out]) (by rw [HV.out, findN_not HFF.out]) HB.out.2

theorem kindOf_bad {g : Gr} {n : Int} (h : grOk g = false) : kindOf g n = none := by rw [kindOf, if_neg (by rw [h]; simp)]
theorem kindOf_neg {g : Gr} {n : Int} (h : n < 0) : kindOf g n = none := by rw [kindOf, if_neg (by omega)]
theorem kindOf_over {g : Gr} {n : Int} (h : (g.kinds.length : Int) ≤ n) : kindOf g n = none := by
  unfold kindOf; split
  · exact List.getElem?_eq_none (by omega)
  · rfl
theorem kindOf_in {g : Gr} {j : Nat} {k : Kd} (h : grOk g = true) (hk : g.kinds[j]? = some k) : kindOf g (j : Int) = some k := by
  rw [kindOf, if_pos ⟨h, by omega⟩]; simpa using hk

set_option maxRecDepth 100000 in
set_option maxHeartbeats 1000000 in
theorem rtext_any (w : World) (v : Value) (g : Gr) (n : Int) (s : ByteArray) (hv : GrV w v g) (hf : g.few) (hs : (s.size : Int) ≤ 9223372036854775807) : Calls Try.prog 32 #[v, .int .i64 n, .string s] w (Says (textV (kindOf g n) s) w) := by
  obtain ⟨ka, kc, rfl, hk⟩ := hv
  obtain ⟨l, root⟩ := g
  simp only at hk
  have hfl : l.length ≤ 1000000 := hf.1
  have HF := Lib.hid hf
  have HK := Lib.hid hk
  obtain ⟨bb, hbb⟩ : ∃ bb, grOk ⟨l, root⟩ = bb := ⟨_, rfl⟩
  have HBB := Lib.hid hbb
  clear hf hk hbb
  cases bb
  · go_enter Try.func32, Try.ntmps32
    go_wp2_with (go_at_call 30; ((with_reducible refine (rcheck_any _ _ _ (grV (HK.out.below (box_below _ _))) HF.out).mono ?_); rintro e w2 ⟨rfl, h2⟩; rw [errN_no HBB.out]; have H2 := Lib.hid ((box_below w _).trans (h2.mono (box_below w _).size)); clear h2))
    go_ret
    exact Says.mk (by rw [kindOf_bad HBB.out]; rfl) H2.out
  · by_cases h1 : n < 0
    · go_enter Try.func32, Try.ntmps32
      go_wp2_with (go_at_call 30; ((with_reducible refine (rcheck_any _ _ _ (grV (HK.out.below (box_below _ _))) HF.out).mono ?_); rintro e w2 ⟨rfl, h2⟩; rw [errN_yes HBB.out]; have H2 := Lib.hid ((box_below w _).trans (h2.mono (box_below w _).size)); clear h2))
      go_ret
      exact Says.mk (by rw [kindOf_neg h1]; rfl) H2.out
    by_cases h2 : (l.length : Int) ≤ n
    · go_enter Try.func32, Try.ntmps32
      go_wp2_with (go_at_call 30; ((with_reducible refine (rcheck_any _ _ _ (grV (HK.out.below (box_below _ _))) HF.out).mono ?_); rintro e w2 ⟨rfl, h2⟩; rw [errN_yes HBB.out]; have H2 := Lib.hid ((box_below w _).trans (h2.mono (box_below w _).size)); have p0 := boxed_cell h2 0 _ rfl; clear h2))
      go_ret
      exact Says.mk (by rw [kindOf_over h2]; rfl) H2.out
    obtain ⟨j, rfl⟩ : ∃ j : Nat, n = (j : Int) := ⟨n.toNat, by omega⟩
    obtain ⟨k, hx⟩ : ∃ x, l[j]? = some x := ⟨l[j]'(by omega), List.getElem?_eq_getElem _⟩
    have HO := Lib.hid (kindOf_in (g := ⟨l, root⟩) HBB.out hx)
    obtain ⟨b, off, rfl, hblt, hc⟩ := HK.out (by omega)
    obtain ⟨sa, sc, _, c1, _, _⟩ := hc j k hx
    have HC := Lib.hid c1
    have hj2 : (j : Int) < (l.length : Int) := by omega
    clear hx hc c1 h1 h2
    obtain ⟨nm, tx, sl⟩ := k
    by_cases he : s.toList.isEmpty = true
    · have he2 : s.toList = [] := by simpa using he
      have HV := Lib.hid (show textV (kindOf ⟨l, root⟩ (j : Int)) s = true by rw [HO.out]; simp [textV, he2])
      go_enter Try.func32, Try.ntmps32
      go_wp2_with (go_at_call 30; ((with_reducible refine (rcheck_any _ _ _ (grV (HK.out.below (box_below _ _))) HF.out).mono ?_); rintro e w2 ⟨rfl, h2⟩; rw [errN_yes HBB.out]; have H2 := Lib.hid ((box_below w _).trans (h2.mono (box_below w _).size)); have p0 := boxed_cell h2 0 _ rfl; clear h2))
      go_ret
      exact Says.mk HV.out H2.out
    · have he1 : s.toList.isEmpty = false := by simpa using he
      have he2 : ¬ s.toList = [] := by simpa using he
      have HV := Lib.hid (show textV (kindOf ⟨l, root⟩ (j : Int)) s = (tx && decide (s.size ≤ 40)) by rw [HO.out, textV, he1]; rfl)
      clear he
      cases tx
      · go_enter Try.func32, Try.ntmps32
        go_wp2_with (go_at_call 30; ((with_reducible refine (rcheck_any _ _ _ (grV (HK.out.below (box_below _ _))) HF.out).mono ?_); rintro e w2 ⟨rfl, h2⟩; rw [errN_yes HBB.out]; have H2 := Lib.hid ((box_below w _).trans (h2.mono (box_below w _).size)); have p0 := boxed_cell h2 0 _ rfl; have d1 := (H2.out.cell hblt).trans HC.out; clear h2))
        go_ret
        exact Says.mk HV.out H2.out
      · by_cases h4 : s.size ≤ 40
        · have h4' : (s.size : Int) ≤ 40 := by omega
          go_enter Try.func32, Try.ntmps32
          go_wp2_with (go_at_call 30; ((with_reducible refine (rcheck_any _ _ _ (grV (HK.out.below (box_below _ _))) HF.out).mono ?_); rintro e w2 ⟨rfl, h2⟩; rw [errN_yes HBB.out]; have H2 := Lib.hid ((box_below w _).trans (h2.mono (box_below w _).size)); have p0 := boxed_cell h2 0 _ rfl; have d1 := (H2.out.cell hblt).trans HC.out; clear h2))
          go_ret
          exact Says.mk (by rw [HV.out, decide_eq_true h4]; rfl) H2.out
        · have h4' : ¬ (s.size : Int) ≤ 40 := by omega
          go_enter Try.func32, Try.ntmps32
          go_wp2_with (go_at_call 30; ((with_reducible refine (rcheck_any _ _ _ (grV (HK.out.below (box_below _ _))) HF.out).mono ?_); rintro e w2 ⟨rfl, h2⟩; rw [errN_yes HBB.out]; have H2 := Lib.hid ((box_below w _).trans (h2.mono (box_below w _).size)); have p0 := boxed_cell h2 0 _ rfl; have d1 := (H2.out.cell hblt).trans HC.out; clear h2))
          go_ret
          exact Says.mk (by rw [HV.out, decide_eq_false h4]; first | rfl | (rw [decide_eq_false (by omega)]; rfl)) H2.out
end Go.Proofs.Ytmfpilacmafglaa
