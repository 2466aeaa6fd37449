/-
  The document's Same. No condition but that the grammars lie where they are said to lie.
-/
import Derived.Test.YtmfpilacmafglaaGSame
import Derived.Test.YtmfpilacmafglaaGInts
namespace Go.Proofs.Ytmfpilacmafglaa
open Go.RowKit

theorem two_heap (w : World) (o o' : Obj) : ((w.alloc o).alloc o').heap[w.heap.size]? = some o ∧ ((w.alloc o).alloc o').heap[w.heap.size + 1]? = some o' := by
  refine ⟨by rw [Below.heap_alloc _ _ _ (by simp)]; exact heap_alloc_new w o, ?_⟩
  have := heap_alloc_new (w.alloc o) o'
  simpa using this
theorem cell0 {w : World} {b : Nat} {cs : Array Value} {t : TypeId} (h : w.heap[b]? = some (.cells cs t (0, 0))) (j : Nat) {v : Value} (hv : cs[j]? = some v) : w.cell? ⟨b, j, none⟩ = some v := by
  rw [cell_of_row w b j _ _ _ h]; exact hv
def RSameR (w : World) (c c2 : Array Value) (l m : List Kd) (i : Value) (wr : World) : Prop :=
  ∃ (k : Nat), k ≤ l.length ∧ i = .int .i64 k ∧ wr.heap[w.heap.size]? = some (.cells c 55 (0, 0)) ∧ wr.heap[w.heap.size + 1]? = some (.cells c2 55 (0, 0)) ∧ Below w.heap.size w wr ∧ allTwo sameKd l m = allTwo sameKd (l.drop k) (m.drop k)
def RSameR2 (W : World) (l m : List Sl) (j : Value) (wr : World) : Prop :=
  ∃ (k : Nat), k ≤ l.length ∧ j = .int .i64 k ∧ Below W.heap.size W wr ∧ allTwo sameSl l m = allTwo sameSl (l.drop k) (m.drop k)
theorem sameSl_len {a b : Sl} (h : ¬ a.kinds.length = b.kinds.length) : sameSl a b = false := by
  have : sameI a.kinds b.kinds = false := by rw [sameI, decide_eq_false]; intro e; exact h (by rw [e])
  simp [sameSl, this]
theorem len3 {n k : Nat} (h : n = k) : (n : Int) = (k : Int) := by rw [h]

set_option maxRecDepth 100000 in
set_option maxHeartbeats 4000000 in
theorem rsame_any (w : World) (v v2 : Value) (g g2 : Gr) (hv : GrV w v g) (hv2 : GrV w v2 g2) (hf : g.few) (hf2 : g2.few) : Calls Try.prog 36 #[v, v2] w (Says (sameGr g g2) w) := by
  obtain ⟨ka, kc, rfl, hk⟩ := hv
  obtain ⟨ka2, kc2, rfl, hk2⟩ := hv2
  obtain ⟨l, lo⟩ := g
  obtain ⟨m, lo2⟩ := g2
  simp only at hk hk2
  have HK := Lib.hid (And.intro hk hk2)
  have hfl : l.length ≤ 1000000 := hf.1
  have hfl2 : m.length ≤ 1000000 := hf2.1
  have HF := Lib.hid (show ∀ s ∈ l, s.few from hf.2)
  have HF2 := Lib.hid (show ∀ s ∈ m, s.few from hf2.2)
  clear hk hk2 hf hf2
  by_cases h1 : lo = lo2
  case neg =>
    have HS := Lib.hid (show sameGr ⟨l, lo⟩ ⟨m, lo2⟩ = false by simp [sameGr, h1])
    go_enter Try.func36, Try.ntmps36
    go_wp2_with fail
    go_ret
    exact Says.mk HS.out (two_boxes_alloc (Below.refl w.heap.size w) _ _)
  subst h1
  by_cases hd : l.length = m.length
  case neg =>
    have HS := Lib.hid (show sameGr ⟨l, lo⟩ ⟨m, lo⟩ = false by simp [sameGr, sameRow, hd])
    have hd' : ¬ (l.length : Int) = (m.length : Int) := by omega
    go_enter Try.func36, Try.ntmps36
    go_wp2_with fail
    go_ret
    exact Says.mk HS.out (two_boxes_alloc (Below.refl w.heap.size w) _ _)
  have HS := Lib.hid (show sameGr ⟨l, lo⟩ ⟨m, lo⟩ = allTwo sameKd l m by simp [sameGr, sameRow, hd])
  obtain ⟨n, hn⟩ : ∃ n, n = l.length := ⟨_, rfl⟩
  rw [← hd, ← hn]
  rw [← hn] at hfl
  have HN := Lib.hid (And.intro hn (hn.trans hd))
  clear hd hn hfl2
  go_enter Try.func36, Try.ntmps36
  go_wp2_with fail
  go_loopw [5] (fun i wr => RSameR w #[.slice ka n kc, .int .i64 lo] #[.slice ka2 n kc2, .int .i64 lo] l m i wr) (fun i _ => n - (intOf i).toNat)
  case atStart => exact ⟨0, Nat.zero_le _, rfl, (two_heap w _ _).1, (two_heap w _ _).2, two_boxes_alloc (Below.refl w.heap.size w) _ _, rfl⟩
  case round =>
    obtain ⟨k, hkl, rfl, hb1, hb2, hbel, hany⟩ := hrel
    rw [← HN.out.1] at hkl
    have p0 := cell0 hb1 0 rfl
    have p1 := cell0 hb2 0 rfl
    have hz0 : w.heap.size < wr.heap.size := lt_of_some' hb1
    have hz1 : w.heap.size + 1 < wr.heap.size := lt_of_some' hb2
    have HB := Lib.hid (And.intro hb1 (And.intro hb2 hbel))
    have HA := Lib.hid hany
    by_cases hlt : k < n
    case neg =>
      have HE := Lib.hid (two_end HA.out (by have := HN.out; omega))
      have hkl2 : ¬ (k : Int) < (n : Int) := by omega
      clear hb1 hb2 hbel hany
      go_wp2_with fail
      go_ret
      exact Says.mk (HS.out.trans HE.out) HB.out.2.2
    obtain ⟨x, hx⟩ : ∃ x, l[k]? = some x := ⟨l[k]'(by have := HN.out; omega), List.getElem?_eq_getElem _⟩
    obtain ⟨y, hy⟩ : ∃ y, m[k]? = some y := ⟨m[k]'(by have := HN.out; omega), List.getElem?_eq_getElem _⟩
    obtain ⟨b, off, rfl, hblt, hc⟩ := (HK.out.1.below hbel) (by have := HN.out; omega)
    obtain ⟨b', off', rfl, hblt', hc'⟩ := (HK.out.2.below hbel) (by have := HN.out; omega)
    obtain ⟨sa, sc, c0, c1, c2, hi⟩ := hc k x hx
    obtain ⟨sa', sc', d0, d1, d2, hi'⟩ := hc' k y hy
    have HFX := Lib.hid (And.intro (HF.out x (List.mem_of_getElem? hx)) (HF2.out y (List.mem_of_getElem? hy)))
    have HI := Lib.hid (And.intro hi hi')
    have HX := Lib.hid (two_step HA.out hx hy)
    have hkl2 : (k : Int) < (n : Int) := by omega
    clear hx hy hc hc' hi hi' hb1 hb2 hbel hany
    obtain ⟨nm, tx, xs⟩ := x
    obtain ⟨nm', tx', ys⟩ := y
    have hxs : xs.length ≤ 1000000 := HFX.out.1.2.1
    have hys : ys.length ≤ 1000000 := HFX.out.2.2.1
    simp only at c0 c1 c2 d0 d1 d2
    by_cases g1 : nm.toList = nm'.toList
    case neg =>
      have g1' : (nm.toList == nm'.toList) = false := by simpa using g1
      have HZ := Lib.hid (show sameKd ⟨nm, tx, xs⟩ ⟨nm', tx', ys⟩ = false by simp [sameKd, g1])
      go_wp2_with fail
      go_ret
      exact Says.mk (by rw [HS.out, HX.out, HZ.out]; rfl) (two_boxes_alloc HB.out.2.2 _ _)
    by_cases g2 : tx = tx'
    case neg =>
      have HZ := Lib.hid (show sameKd ⟨nm, tx, xs⟩ ⟨nm', tx', ys⟩ = false by simp [sameKd, g2])
      go_wp2_with fail
      go_ret
      exact Says.mk (by rw [HS.out, HX.out, HZ.out]; rfl) (two_boxes_alloc HB.out.2.2 _ _)
    subst g2
    by_cases g3 : xs.length = ys.length
    case neg =>
      have g3' : ¬ (xs.length : Int) = (ys.length : Int) := by omega
      have HZ := Lib.hid (show sameKd ⟨nm, tx, xs⟩ ⟨nm', tx, ys⟩ = false by simp [sameKd, sameRow, g3])
      go_wp2_with fail
      go_ret
      exact Says.mk (by rw [HS.out, HX.out, HZ.out]; rfl) (two_boxes_alloc HB.out.2.2 _ _)
    have HZ := Lib.hid (show sameKd ⟨nm, tx, xs⟩ ⟨nm', tx, ys⟩ = allTwo sameSl xs ys by simp [sameKd, sameRow, g1, g3])
    obtain ⟨q, hq⟩ : ∃ q, q = xs.length := ⟨_, rfl⟩
    have hq2 := hq.trans g3
    rw [← hq] at c2 hxs
    rw [← hq2] at d2
    have HQ := Lib.hid (And.intro hq hq2)
    clear hq hq2 g3 hys
    go_wp2_with fail
    obtain ⟨w1, rfl⟩ : ∃ w1, w1 = wr := ⟨_, rfl⟩
    clear c0 c1 c2 d0 d1 d2 p0 p1 g1 hz0 hz1
    obtain ⟨wo, hwo⟩ : ∃ wo, wo = (w1.alloc (.cells #[.string nm, .bool tx, .slice sa q sc] 85)).alloc (.cells #[.string nm', .bool tx, .slice sa' q sc'] 85) := ⟨_, rfl⟩
    have HW1 := Lib.hid (show Below w1.heap.size w1 wo by rw [hwo]; exact two_boxes_alloc (Below.refl _ _) _ _)
    have HWX := Lib.hid (show wo.heap[w1.heap.size]? = some (.cells #[.string nm, .bool tx, .slice sa q sc] 85 (0, 0)) ∧ wo.heap[w1.heap.size + 1]? = some (.cells #[.string nm', .bool tx, .slice sa' q sc'] 85 (0, 0)) by rw [hwo]; exact two_heap _ _ _)
    have HWG := Lib.hid (show wo.heap[w.heap.size]? = _ ∧ wo.heap[w.heap.size + 1]? = _ from ⟨(HW1.out.block _ (lt_of_some' HB.out.1)).trans HB.out.1, (HW1.out.block _ (lt_of_some' HB.out.2.1)).trans HB.out.2.1⟩)
    have HWO := Lib.hid (HB.out.2.2.trans (HW1.out.mono HB.out.2.2.size))
    obtain ⟨kb, hkb⟩ : ∃ kb, kb = w1.heap.size := ⟨_, rfl⟩
    rw [← hwo, ← hkb]
    rw [← hkb] at HWX
    clear hwo hkb
    go_loopw [8] (fun j wr => RSameR2 wo xs ys j wr) (fun j _ => q - (intOf j).toNat)
    case atStart => exact ⟨0, Nat.zero_le _, rfl, Below.refl _ _, rfl⟩
    case round =>
      obtain ⟨j, hj, rfl, hbel2, hany2⟩ := hrel
      rw [← HQ.out.1] at hj
      have HB2 := Lib.hid (HWO.out.trans (hbel2.mono HWO.out.size))
      have HB3 := Lib.hid hbel2
      have HA2 := Lib.hid hany2
      have p0 := cell0 ((hbel2.block _ (lt_of_some' HWX.out.1)).trans HWX.out.1) 2 rfl
      have p1 := cell0 ((hbel2.block _ (lt_of_some' HWX.out.2)).trans HWX.out.2) 2 rfl
      have hz0 : kb < wr.heap.size := lt_of_some' ((hbel2.block _ (lt_of_some' HWX.out.1)).trans HWX.out.1)
      have hz1 : kb + 1 < wr.heap.size := lt_of_some' ((hbel2.block _ (lt_of_some' HWX.out.2)).trans HWX.out.2)
      by_cases hlt2 : j < q
      case neg =>
        have HE := Lib.hid (two_end HA2.out (by have := HQ.out; omega))
        have hj2 : ¬ (j : Int) < (q : Int) := by omega
        have HWG2 := Lib.hid (And.intro ((hbel2.block _ (lt_of_some' HWG.out.1)).trans HWG.out.1) ((hbel2.block _ (lt_of_some' HWG.out.2)).trans HWG.out.2))
        clear hbel2 hany2
        go_wp2_with fail
        exact ⟨⟨k + 1, by have := HN.out; omega, by go_num, HWG2.out.1, HWG2.out.2, HB2.out, by rw [HX.out, HZ.out, HE.out]; rfl⟩, by simp [intOf]; omega⟩
      obtain ⟨s, hs⟩ : ∃ x, xs[j]? = some x := ⟨xs[j]'(by have := HQ.out; omega), List.getElem?_eq_getElem _⟩
      obtain ⟨t, ht⟩ : ∃ y, ys[j]? = some y := ⟨ys[j]'(by have := HQ.out; omega), List.getElem?_eq_getElem _⟩
      have hW2 : Below w1.heap.size w1 wr := HW1.out.trans (hbel2.mono HW1.out.size)
      obtain ⟨e, eo, rfl, helt, hce⟩ := (HI.out.1.below hW2) (by have := HQ.out; omega)
      obtain ⟨e', eo', rfl, helt', hce'⟩ := (HI.out.2.below hW2) (by have := HQ.out; omega)
      obtain ⟨ta, tc, c0, c1, c2, hti⟩ := hce j s hs
      obtain ⟨ta', tc', d0, d1, d2, hti'⟩ := hce' j t ht
      have hfs : s.kinds.length ≤ 1000000 := HFX.out.1.2.2 s (List.mem_of_getElem? hs)
      have hft : t.kinds.length ≤ 1000000 := HFX.out.2.2.2 t (List.mem_of_getElem? ht)
      have HTI := Lib.hid (And.intro hti hti')
      have HXS := Lib.hid (two_step HA2.out hs ht)
      have hj2 : (j : Int) < (q : Int) := by omega
      clear hs ht hW2 hce hce' hti hti' hbel2 hany2
      obtain ⟨si, sl, sm⟩ := s
      obtain ⟨ti, tl, tm⟩ := t
      simp only at c0 c1 c2 d0 d1 d2 hfs hft HTI
      by_cases f1 : sl = tl
      case neg =>
        have HY := Lib.hid (show sameSl ⟨si, sl, sm⟩ ⟨ti, tl, tm⟩ = false by simp [sameSl, f1])
        go_wp2_with fail
        go_ret
        exact Says.mk (by rw [HS.out, HX.out, HZ.out, HXS.out, HY.out]; rfl) (two_boxes_alloc HB2.out _ _)
      subst f1
      by_cases f2 : sm = tm
      case neg =>
        have HY := Lib.hid (show sameSl ⟨si, sl, sm⟩ ⟨ti, sl, tm⟩ = false by simp [sameSl, f2])
        go_wp2_with fail
        go_ret
        exact Says.mk (by rw [HS.out, HX.out, HZ.out, HXS.out, HY.out]; rfl) (two_boxes_alloc HB2.out _ _)
      subst f2
      by_cases f3 : si.length = ti.length
      case neg =>
        have f3' : ¬ (si.length : Int) = (ti.length : Int) := by omega
        have HY := Lib.hid (show sameSl ⟨si, sl, sm⟩ ⟨ti, sl, sm⟩ = false from sameSl_len f3)
        go_wp2_with fail
        go_ret
        exact Says.mk (by rw [HS.out, HX.out, HZ.out, HXS.out, HY.out]; rfl) (two_boxes_alloc HB2.out _ _)
      have HY := Lib.hid (show sameSl ⟨si, sl, sm⟩ ⟨ti, sl, sm⟩ = sameI si ti by simp [sameSl])
      obtain ⟨r, hr⟩ : ∃ r, r = si.length := ⟨_, rfl⟩
      have hr2 := hr.trans f3
      rw [← hr] at c0 hfs
      rw [← hr2] at d0
      have HR := Lib.hid (And.intro hr hr2)
      clear hr hr2 f3 hft
      go_wp2_with fail
      obtain ⟨w3, rfl⟩ : ∃ w3, w3 = wr := ⟨_, rfl⟩
      clear c0 c1 c2 d0 d1 d2 p0 p1 hz0 hz1
      obtain ⟨w4, hw4⟩ : ∃ w4, w4 = (w3.alloc (.cells #[.slice ta r tc, .int .i64 sl, .int .i64 sm] 87)).alloc (.cells #[.slice ta' r tc', .int .i64 sl, .int .i64 sm] 87) := ⟨_, rfl⟩
      have HW4 := Lib.hid (show Below w3.heap.size w3 w4 by rw [hw4]; exact two_boxes_alloc (Below.refl _ _) _ _)
      have HWS := Lib.hid (show w4.heap[w3.heap.size]? = some (.cells #[.slice ta r tc, .int .i64 sl, .int .i64 sm] 87 (0, 0)) ∧ w4.heap[w3.heap.size + 1]? = some (.cells #[.slice ta' r tc', .int .i64 sl, .int .i64 sm] 87 (0, 0)) by rw [hw4]; exact two_heap _ _ _)
      obtain ⟨sb, hsb⟩ : ∃ sb, sb = w3.heap.size := ⟨_, rfl⟩
      have HSB := Lib.hid hsb
      rw [← hw4, ← hsb]
      rw [← hsb] at HWS
      clear hw4 hsb
      go_loopw [11] (fun i wr => EqR w4 si ti i wr) (fun i _ => r - (intOf i).toNat)
      case atStart => exact ⟨0, Nat.zero_le _, rfl, Below.refl _ _, rfl⟩
      case round =>
        obtain ⟨i, hi, rfl, hbel5, heq⟩ := hrel
        rw [← HR.out.1] at hi
        have HB5 := Lib.hid hbel5
        have HB6 := Lib.hid (HB2.out.trans ((HW4.out.trans (hbel5.mono HW4.out.size)).mono HB2.out.size))
        have HEQ := Lib.hid heq
        have p0 := cell0 ((hbel5.block _ (lt_of_some' HWS.out.1)).trans HWS.out.1) 0 rfl
        have p1 := cell0 ((hbel5.block _ (lt_of_some' HWS.out.2)).trans HWS.out.2) 0 rfl
        by_cases hlt5 : i < r
        case neg =>
          have HEE := Lib.hid (show sameI si ti = true by
            have e := heq
            rw [List.take_of_length_le (by have := HR.out; omega), List.take_of_length_le (by have := HR.out; omega)] at e
            rw [sameI, decide_eq_true e])
          have hi2 : ¬ (i : Int) < (r : Int) := by omega
          have HB7 := Lib.hid (HB3.out.trans ((HW4.out.trans (hbel5.mono HW4.out.size)).mono HB3.out.size))
          clear hbel5 heq
          go_wp2_with fail
          exact ⟨⟨j + 1, by have := HQ.out; omega, by go_num, HB7.out, by rw [HXS.out, HY.out, HEE.out]; rfl⟩, by simp [intOf]; omega⟩
        obtain ⟨x, hx⟩ : ∃ x, si[i]? = some x := ⟨si[i]'(by have := HR.out; omega), List.getElem?_eq_getElem _⟩
        obtain ⟨y, hy⟩ : ∃ y, ti[i]? = some y := ⟨ti[i]'(by have := HR.out; omega), List.getElem?_eq_getElem _⟩
        have hW5 : Below w3.heap.size w3 wr := HW4.out.trans (hbel5.mono HW4.out.size)
        obtain ⟨f, fo, rfl, hflt, hcf⟩ := (HTI.out.1.below hW5) (by have := HR.out; omega)
        obtain ⟨f', fo', rfl, hflt', hcf'⟩ := (HTI.out.2.below hW5) (by have := HR.out; omega)
        have c0 := hcf i x hx
        have d0 := hcf' i y hy
        have HXY := Lib.hid (And.intro hx hy)
        have hi2 : (i : Int) < (r : Int) := by omega
        clear hx hy hcf hcf' hW5 hbel5 heq
        by_cases he : x = y
        · subst he
          go_wp2_with fail
          go_quiet (fail)
          go_wp2_with fail
          exact ⟨⟨i + 1, by have := HR.out; omega, by go_num, below_drewN HB5.out _, take_more HEQ.out HXY.out.1 HXY.out.2⟩, by simp [intOf]; omega⟩
        · have HE := Lib.hid he
          go_wp2_with fail
          go_quiet (fail)
          go_wp2_with fail
          go_ret
          exact Says.mk (by rw [HS.out, HX.out, HZ.out, HXS.out, HY.out, sameI_no HXY.out.1 HXY.out.2 HE.out]; rfl) (below_drewN HB6.out _)
end Go.Proofs.Ytmfpilacmafglaa
