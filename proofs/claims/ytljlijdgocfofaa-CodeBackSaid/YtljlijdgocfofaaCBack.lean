/-
  What CodeBack answers: true. No condition but that its arguments lie in memory as they came in.
-/
import Derived.Test.YtljlijdgocfofaaCBackR
import Derived.Test.YtljlijdgocfofaaCBackZ
import Derived.Test.YtljlijdgocfofaaCWakes
import Derived.Test.YtljlijdgocfofaaCGreat
import Derived.Deep.RegionHeld3
import Derived.Deep.CutRange
import Derived.Deep.RegionWith
namespace Go.Proofs.Ytljlijdgocfofaa
open Go.RowKit
open Extern.Stop (cell)

set_option linter.unusedSimpArgs false in
set_option maxRecDepth 100000 in
set_option maxHeartbeats 2000000 in
theorem codeBack_any (w : World) (S : Nat → Prop) (n : Int) (s : ByteArray) (tv : Value) (t : Tr) (sa : Option Addr) (ll scap : Nat) (l : List Stp) (ba : Option Addr) (bl bcap : Nat) (bs : List UInt8)
    (hn : inI64 n) (hS : ∀ k, S k → k < w.heap.size) (ht : TrAt w S tv t) (htf : Fit64 t) (hll : ll = l.length) (hl2 : ll ≤ 9223372036854775807) (hs : StepsAt w S sa l) (hft : ∀ x ∈ l, FitS64 x) (hbl : bl = bs.length) (hby : ByAt w ba bs) :
    Calls Try.prog 5 #[.int .i64 n, .string s, tv, .slice sa ll scap, .slice ba bl bcap] w (YesB w) := by
  obtain ⟨ka, kcap, rfl, hkc, hk⟩ := ht
  obtain ⟨len, hlen⟩ : ∃ len, len = foLen t.kids := ⟨_, rfl⟩
  rw [← hlen]
  have hb1 : Below w.heap.size w (w.alloc (.cells #[.int .i64 t.id, .int .i64 t.kind, .string t.text, .slice ka len kcap] 25)) := (Below.refl _ _).alloc (Nat.le_refl _) _
  have hbox := heap_alloc_new w (.cells #[.int .i64 t.id, .int .i64 t.kind, .string t.text, .slice ka len kcap] 25)
  have htr : ∀ X, Below w.heap.size w X → TrAt X S (.agg #[.int .i64 t.id, .int .i64 t.kind, .string t.text, .slice ka len kcap]) t := fun X hX => ⟨ka, kcap, by rw [hlen], hkc, hk.below hX hS⟩
  have hst : ∀ X, Below w.heap.size w X → StepsAt X S sa l := fun X hX => hs.kept fun y hy => ⟨hy, hX.block y (hS y hy)⟩
  have hSX : ∀ X, Below w.heap.size w X → ∀ k, S k → k < X.heap.size := fun X hX k hk => Nat.lt_of_lt_of_le (hS k hk) hX.size
  have hBX : ∀ X, Below w.heap.size w X → ByAt X ba bs := fun X hX => hby.below hX
  have HW := Lib.hid wakes_any
  have HB1 := Lib.hid (And.intro hb1 hbox)
  have HTR := Lib.hid htr
  have HST := Lib.hid hst
  have HSX := Lib.hid hSX
  have HBX := Lib.hid hBX
  have HN := Lib.hid (And.intro hbl (And.intro hll hn))
  have hFit := fit_of htf
  have HG := Lib.hid (great_any _ S _ t hFit.1 hFit.2 (hSX _ hb1) (htr _ hb1))
  have HF := Lib.hid (And.intro hl2 (And.intro htf hft))
  clear hS hbl hby hkc hk htf hll hs hft htr hst hSX hb1 hbox hlen hBX hFit hn
  by_cases h2 : 1000 < s.size
  · have h2' : (1000 : Int) < (s.size : Int) := by omega
    go_enter Try.func5, Try.ntmps5
    go_wp2_with (go_at_call 8; refine (HW.out _).mono ?_; clear HW; rintro e w2 ⟨rfl, h2⟩; have H2 := Lib.hid h2; clear h2)
    go_ret
    exact YesB.of HB1.out.1 ⟨rfl, H2.out⟩
  · have h2' : ¬ (1000 : Int) < (s.size : Int) := by omega
    have HSZ := Lib.hid h2
    clear h2
    go_enter Try.func5, Try.ntmps5
    go_wp2_with fail
    refine HG.out.mono ?_
    rintro e w2 ⟨bt, rfl, hbt, hb2⟩
    have HB2 : Hid (Below w.heap.size w w2) := Lib.hid (HB1.out.1.trans (hb2.mono HB1.out.1.size))
    have HX2 := Lib.hid (box_there HB1.out.2 hb2)
    cases bt with
    | true =>
      clear hbt hb2
      go_wp2_with (go_at_call 8; refine (HW.out _).mono ?_; clear HW; rintro e w3 ⟨rfl, h2⟩; have H2 := Lib.hid h2; clear h2)
      go_ret
      exact YesB.of HB2.out ⟨rfl, H2.out⟩
    | false =>
      have HSM := Lib.hid (hbt rfl)
      have HGS := Lib.hid (greatSteps_any w2 S sa ll scap l HN.out.2.1 HF.out.1 (HSX.out _ HB2.out) (HST.out _ HB2.out) (fun x hx => fitS_of (HF.out.2.2 x hx)))
      clear hbt hb2 HG
      go_wp2_with fail
      refine HGS.out.mono ?_
      rintro e w3 ⟨bt, rfl, hbt, hb3⟩
      have HB3 : Hid (Below w.heap.size w w3) := Lib.hid (HB2.out.trans (hb3.mono HB2.out.size))
      have HX3 := Lib.hid (box_there HX2.out hb3)
      cases bt with
      | true =>
        clear hbt hb3
        go_wp2_with (go_at_call 8; refine (HW.out _).mono ?_; clear HW; rintro e w4 ⟨rfl, h2⟩; have H2 := Lib.hid h2; clear h2)
        go_ret
        exact YesB.of HB3.out ⟨rfl, H2.out⟩
      | false =>
        have HSL := Lib.hid (hbt rfl)
        clear hbt hb3 HGS
        by_cases h3 : 20000 < bl
        · have h3' : (20000 : Int) < (bl : Int) := by omega
          go_wp2_with (go_at_call 8; refine (HW.out _).mono ?_; clear HW; rintro e w4 ⟨rfl, h2⟩; have H2 := Lib.hid h2; clear h2)
          go_ret
          exact YesB.of HB3.out ⟨rfl, H2.out⟩
        · have h3' : ¬ (20000 : Int) < (bl : Int) := by omega
          have HLB := Lib.hid h3
          clear h3
          have HC := Lib.hid (base_of HB3.out HX3.out HTR.out HST.out HSX.out HBX.out HN.out.2.2 HF.out.2.1 HF.out.2.2 HN.out.2.1 HF.out.1 HN.out.1 HSZ.out HSM.out HSL.out.1 HSL.out.2 HLB.out)
          clear HTR HST HSX HBX HN HF HSZ HSM HSL HLB HX3 HX2 HB2 HB1 h2' hl2
          obtain ⟨W, hW⟩ : ∃ W, W = w3 := ⟨_, rfl⟩
          subst hW
          have hP1 := p_num (W := W) n
          have HP1 := Lib.hid hP1
          clear hP1
          obtain ⟨x0, x1, x2, x3⟩ := HC.out.bx _ (drew_below W)
          go_wp2_with fail
          clear h3'
          go_region_held3 (fun X => X.cell? ⟨w.heap.size, 0, none⟩ = some (.int .i64 t.id) ∧ X.cell? ⟨w.heap.size, 1, none⟩ = some (.int .i64 t.kind) ∧ X.cell? ⟨w.heap.size, 2, none⟩ = some (.string t.text) ∧ X.cell? ⟨w.heap.size, 3, none⟩ = some (.slice ka len kcap))
            (first | exact ⟨x0, x1, x2, x3⟩ | exact HC.out.bx _ H9.out.bel | exact HC.out.bx _ H8.out.2.2 | exact HC.out.bx _ H7.out.2.2 | exact HC.out.bx _ H6.out.2.2 | exact HC.out.bx _ H5.out.2.2)
            (first
              | (go_at_call 9; (with_reducible refine (HP1.out _ (drew_below W)).mono ?_); rintro e w5 ⟨a5, m5, c5, rfl, h5⟩; have H5 := Lib.hid h5; clear h5)
              | (go_at_call 11; (with_reducible refine (p_text HC.out H5.out).mono ?_); rintro e w6 ⟨a6, m6, c6, rfl, h6⟩; have H6 := Lib.hid h6; clear h6)
              | (go_at_call 13; (with_reducible refine (p_node HC.out H6.out).mono ?_); rintro e w7 ⟨a7, m7, c7, rfl, h7⟩; have H7 := Lib.hid h7; clear h7)
              | (go_at_call 15; (with_reducible refine (p_steps HC.out H7.out).mono ?_); rintro e w8 ⟨a8, m8, c8, rfl, h8⟩; have H8 := Lib.hid h8; clear h8)
              | (go_at_call 17; (with_reducible refine (p_new HC.out H8.out).mono ?_); rintro e w9 ⟨b, dv, rfl, h9⟩; have H9 := Lib.hid h9; clear h9))
          clear x0 x1 x2 x3
          go_wp2_with (first
            | (go_at_call 19; (with_reducible refine (rs_num H9.out HC.out.hn).mono ?_); rintro e w10 ⟨rfl, h1, _⟩; have H10 := Lib.hid h1; clear h1)
            | (go_at_call 23; (with_reducible refine (rs_text H10.out HC.out.hn (by have := HC.out.hs; omega)).mono ?_); rintro e w11 ⟨rfl, h1, _⟩; have H11 := Lib.hid h1; clear h1)
            | (go_at_call 25; (with_reducible refine (p_tree HC.out H11.out).mono ?_); rintro e w12 ⟨yi, yk, yt, ya, yn, yc, s', rfl, hr, hv⟩; have H12 := Lib.hid (And.intro H11.out (And.intro hr hv)); have H12r := Lib.hid (hr.alloc (.cells #[.int .i64 yi, .int .i64 yk, .string yt, .slice ya yn yc] 25)); have H12v := Lib.hid (drop_tree hv); clear hr hv)
            | (go_at_call 28; (with_reducible refine (p_read HC.out H12r.out H12v.out).mono ?_); rintro e w13 ⟨ra, rm, rc, s'', rfl, hr, ht, hv⟩; have H13r := Lib.hid hr; have H13v := Lib.hid (drop_steps hv); have H13 := Lib.hid (And.intro ht hv); clear hr hv ht))
          (with_reducible refine (p_end H13r.out H13v.out).mono ?_)
          rintro e w14 ⟨at_, er, rfl, h1, h2, h3⟩
          obtain ⟨hb14, h14⟩ := back_sum H12.out.1 H12.out.2.1 H12.out.2.2 H13.out.1 H13.out.2 h1 h2 h3
          have HB14 := Lib.hid hb14
          clear h1 h2 h3 hb14 H12 H12r H12v H13 H13r H13v H11 H10 H9
          rcases h14 with ⟨rfl, hok⟩ | ⟨hng, rfl⟩
          · have HOK := Lib.hid hok
            clear hok
            obtain ⟨y0, y1, y2, y3⟩ := box_cells HOK.out.1
            obtain ⟨x0, x1, x2, x3⟩ := HC.out.bx _ HB14.out
            obtain ⟨T1, l1, tr1⟩ := HOK.out.2.1
            obtain ⟨T2, l2, st2⟩ := HOK.out.2.2.2
            have HS1 := Lib.hid (same_yes w14 T1 S _ _ t HC.out.htf l1 (HC.out.low _ HB14.out) tr1 (HC.out.tr _ HB14.out))
            have HS2 := Lib.hid (fun X (hX : Below w14.heap.size w14 X) => same_steps2 X T2 S ra sa rm ll rc scap l HOK.out.2.2.1 HC.out.hl (by have := HC.out.hl70; omega) HC.out.hlf (fun k hk => Nat.lt_of_lt_of_le (l2 k hk) hX.size) (HC.out.low _ (HB14.out.trans (hX.mono HB14.out.size))) (st2.kept fun k hk => ⟨hk, hX.block k (l2 k hk)⟩) (HC.out.st _ (HB14.out.trans (hX.mono HB14.out.size))))
            clear tr1 st2 l1 l2
            go_wp2_with (first
              | (go_at_call 27; (with_reducible refine HS1.out.mono ?_); rintro e w15 ⟨rfl, h1⟩; have K1 := Lib.hid h1; clear h1)
              | (go_at_call 30; (with_reducible refine (HS2.out _ K1.out).mono ?_); rintro e w16 ⟨rfl, h1⟩; have K2 := Lib.hid (HB14.out.trans ((K1.out.trans (h1.mono K1.out.size)).mono HB14.out.size)); clear h1; obtain ⟨z0, z1, z2, z3⟩ := HC.out.bx _ K2.out)
              | (at_builtin; (with_reducible refine wpList_row w16 rfl (.tmp 95) (.tmp 96) rfl S (HC.out.low _ K2.out) t ka len kcap (HC.out.kids _ K2.out).1 (HC.out.kids _ K2.out).2.1 (HC.out.kids _ K2.out).2.2 rfl sa ll scap l HC.out.hl HC.out.hl70 rfl (HC.out.st _ K2.out) ?_); intro g vc w17 hrow; have HRW := Lib.hid hrow; clear hrow))
            clear z0 z1 z2 z3
            have HLL := Lib.hid (show 1 + ll = (oneT t :: l).length by rw [HC.out.hl, List.length_cons]; omega)
            have hll70 : (ll : Int) ≤ 70 := by have := HC.out.hl; have := HC.out.hl70; omega
            go_loopw [18, 99] (fun v i wr => RoundB w17 (oneT t :: l) (ll ≤ 60) v i wr) (fun _ i _ => (1 + ll - (intOf i).toNat))
            case atStart => exact RoundB.start
            case round =>
              obtain ⟨k, sm, hk, rfl, rfl, hbr, hsm⟩ := hrel
              have HBR := Lib.hid hbr
              have HSM := Lib.hid hsm
              rw [← HLL.out] at hk
              clear hbr hsm
              by_cases hlt : k < 1 + ll
              · obtain ⟨y, hy⟩ : ∃ y, (oneT t :: l)[k]? = some y := ⟨(oneT t :: l)[k]'(by rw [← HLL.out]; exact hlt), List.getElem?_eq_getElem _⟩
                have hkl : (k : Int) < 1 + (ll : Int) := by omega
                obtain ⟨kb, kc, c0, c1, c2, c3, c4, c5, c6, c7, c8, hp, hf⟩ := row_cells HRW.out (HC.out.low _ K2.out) HBR.out hy
                obtain ⟨ln, hln⟩ : ∃ ln, ln = foLen y.sub.kids := ⟨_, rfl⟩
                have HWK := Lib.hid (walk_row HRW.out (HC.out.low _ K2.out) HBR.out HC.out.htf HC.out.hlf hy hln hp hf)
                rw [← hln] at c8
                have HY := Lib.hid hy
                clear hp hf hln hy
                go_wp2_with (go_at_call 35; (with_reducible refine HWK.out.mono ?_); rintro e w18 ⟨a3, n3, cap3, T, rfl, ⟨hT, xs, ho, hx⟩, hb2, hn, hn2⟩; have HSP := Lib.hid (And.intro hT (And.intro ho (And.intro hx hn))); have HB18 := Lib.hid (below_box HBR.out hb2); clear ho hx hb2 hn)
                clear HWK c0 c1 c2 c3 c4 c5 c6 c7 c8
                go_loopw [18, 108] (fun v i wr => RoundS T sm v i w18 wr) (fun _ i _ => (n3 - (intOf i).toNat))
                case atStart => exact ⟨0, sm, Nat.zero_le _, rfl, rfl, rfl, fun e => ⟨e, fun i p hi => by omega⟩⟩
                case round =>
                  obtain ⟨j, sn, hj, rfl, rfl, rfl, hsn⟩ := hrel
                  have HSN := Lib.hid hsn
                  rw [HSP.out.1] at hj
                  clear hsn hT
                  by_cases hjn : j < n3
                  · obtain ⟨p, hp⟩ : ∃ p, T[j]? = some p := ⟨T[j]'(by have := HSP.out.1; omega), List.getElem?_eq_getElem _⟩
                    have hjl : (j : Int) < (n3 : Int) := by omega
                    obtain ⟨g3, rfl, d4⟩ := spot_cell HSP.out.2.1 (by omega) (HSP.out.2.2.1 j p hp).2
                    have HP := Lib.hid hp
                    clear hp
                    cases sn with
                    | false =>
                      go_wp2_with fail
                      exact ⟨RoundS.next HP.out HSN.out (fun e => by cases e), by simp [intOf]; omega⟩
                    | true =>
                      by_cases h40 : p.2 ≤ 40
                      · by_cases h200 : (j : Int) < 200
                        · go_wp2_with fail
                          exact ⟨RoundS.next HP.out HSN.out (fun _ => ⟨rfl, h40, by omega⟩), by simp [intOf]; omega⟩
                        · go_wp2_with fail
                          exact ⟨RoundS.next HP.out HSN.out (fun e => by cases e), by simp [intOf]; omega⟩
                      · go_wp2_with fail
                        exact ⟨RoundS.next HP.out HSN.out (fun e => by cases e), by simp [intOf]; omega⟩
                  · have hje : j = n3 := by omega
                    have HJ := Lib.hid hje
                    have hjl : ¬ (j : Int) < (n3 : Int) := by omega
                    clear hje
                    go_wp2_with fail
                    exact ⟨RoundB.next HY.out HB18.out HSM.out (fun e => RoundS.good (by rw [HSP.out.1]; exact HSP.out.2.2.2) (by have h7 := HSN.out; rw [HJ.out, ← HSP.out.1] at h7; exact h7) e), by simp [intOf]; omega⟩
              · have hke : k = 1 + ll := by omega
                subst hke
                have HBW := Lib.hid (back_bel K2.out HRW.out.1 HBR.out)
                have hkl : ¬ ((1 + ll : Nat) : Int) < 1 + (ll : Int) := by omega
                clear hlt hk
                cases sm
                all_goals (
                  go_wp2_with (first
                    | (go_at_call 17; (with_reducible refine (q_new HC.out HBW.out _).mono ?_); rintro e w20 ⟨b2, dv2, rfl, h1⟩; have H20 := Lib.hid h1; clear h1)
                    | (go_at_call 28; (with_reducible refine (q_any H20.out).mono ?_); rintro e w21 ⟨za, zm, zc, s2, rfl, h1, h2⟩; have H21 := Lib.hid (And.intro h1 h2); clear h1 h2)))
                all_goals (
                  (with_reducible refine (q_end H21.out.1 H21.out.2).mono ?_)
                  rintro e w22 ⟨at2, er2, rfl, h1, h2⟩
                  have H22 := Lib.hid h1
                  clear h1 H21 H20
                  rcases h2 with ⟨rfl, h2⟩ | rfl)
                · have HP := Lib.hid h2
                  clear h2
                  go_wp2_with fail
                  refine wp_region_held_drew (S := fun X => (convert 22 9 (.slice ba bl bcap)).run Try.prog X = .ok (.string ⟨bs.toArray⟩) X) (by kernel_rfl) ((HC.out.byt _ (H22.out.trans ((drew_below w22).mono H22.out.size))).conv (cap := bcap) HC.out.hb) (fun hHeld => ?_)
                  refine wpAnyH_take (i := 0) (oi := _) (v := .int .i64 0) rfl (by kernel_rfl) (by kernel_rfl) (by kernel_rfl) (fun _ _ _ h => h) (Or.inl ⟨by rfl, ?_⟩) (by assumption) ?_
                  · clear hHeld; intro X hSw; have cb := hSw; clear hSw; go_simp
                  simp only [Act.put, List.getElem_toArray, List.getElem_cons_zero, List.getElem_cons_succ, List.setIfInBounds_toArray, List.set_cons_zero, List.set_cons_succ]
                  refine wpAnyH_take (i := 1) (oi := _) (v := .bool true) rfl (by kernel_rfl) (by kernel_rfl) (by kernel_rfl) (fun _ _ _ h => h) (Or.inl ⟨by rfl, ?_⟩) (by assumption) ?_
                  · clear hHeld; intro X hSw; have cb := hSw; clear hSw; go_simp
                  simp only [Act.put, List.getElem_toArray, List.getElem_cons_zero, List.getElem_cons_succ, List.setIfInBounds_toArray, List.set_cons_zero, List.set_cons_succ]
                  refine wpAnyH_take (i := 2) (oi := _) (v := .bool true) rfl (by kernel_rfl) (by kernel_rfl) (by kernel_rfl) (fun _ _ _ h => h) (Or.inl ⟨by rfl, ?_⟩) (by assumption) ?_
                  · clear hHeld; intro X hSw; have cb := hSw; clear hSw; go_simp
                  simp only [Act.put, List.getElem_toArray, List.getElem_cons_zero, List.getElem_cons_succ, List.setIfInBounds_toArray, List.set_cons_zero, List.set_cons_succ]
                  refine wpAnyH_take (i := 3) (oi := _) (v := .slice za zm zc) rfl (by kernel_rfl) (by kernel_rfl) (by kernel_rfl) (fun _ _ _ h => h) (Or.inl ⟨by rfl, ?_⟩) (by assumption) ?_
                  · clear hHeld; intro X hSw; have cb := hSw; clear hSw; go_simp
                  simp only [Act.put, List.getElem_toArray, List.getElem_cons_zero, List.getElem_cons_succ, List.setIfInBounds_toArray, List.set_cons_zero, List.set_cons_succ]
                  refine wpAnyH_take (i := 6) (oi := _) (v := .slice ba bl bcap) rfl (by kernel_rfl) (by kernel_rfl) (by kernel_rfl) (fun _ _ _ h => h) (Or.inl ⟨by rfl, ?_⟩) (by assumption) ?_
                  · clear hHeld; intro X hSw; have cb := hSw; clear hSw; go_simp
                  simp only [Act.put, List.getElem_toArray, List.getElem_cons_zero, List.getElem_cons_succ, List.setIfInBounds_toArray, List.set_cons_zero, List.set_cons_succ]
                  refine wpAnyH_take (i := 7) (oi := _) (v := .string ⟨bs.toArray⟩) rfl (by kernel_rfl) (by kernel_rfl) (by kernel_rfl) (fun _ _ _ h => h) (Or.inl ⟨by rfl, ?_⟩) (by assumption) ?_
                  · clear hHeld; intro X hSw; have cb := hSw; clear hSw; go_simp
                  simp only [Act.put, List.getElem_toArray, List.getElem_cons_zero, List.getElem_cons_succ, List.setIfInBounds_toArray, List.set_cons_zero, List.set_cons_succ]
                  refine wpAnyH_ready (rs := [4]) (by kernel_rfl) (by simp) ?_
                  refine AllReadyH.cons (o := _) rfl (fun K hK => ?_) AllReadyH.nil
                  rw [if_pos (by rfl)]
                  simp only [List.getElem_toArray, List.getElem_cons_zero, List.getElem_cons_succ]
                  go_wp2_with (go_at_call 15; (with_reducible refine (q_put HP.out HC.out.hb2 (drew_below w22)).mono ?_); rintro e w23 ⟨vz, rfl, cv, h3⟩; have H23 := Lib.hid (And.intro cv (H22.out.trans ((through_drew h3).mono H22.out.size))); clear cv h3)
                  refine hK.out _ _ ((HC.out.byt _ H23.out.2).conv (cap := bcap) HC.out.hb) (fun hh => ?_)
                  clear hK K hHeld
                  refine wpAnyH_more (S' := fun X => (convert 22 9 (.slice ba bl bcap)).run Try.prog X = .ok (.string ⟨bs.toArray⟩) X ∧ (convert 22 9 vz).run Try.prog X = .ok (.string ⟨bs.toArray⟩) X) (fun _ h => h.1) ?_
                  have hHeld := And.intro hh H23.out.1
                  clear hh
                  refine wpAnyH_take (i := 5) (oi := _) (v := .string ⟨bs.toArray⟩) rfl (by kernel_rfl) (by kernel_rfl) (by kernel_rfl) (fun _ _ _ h => h) (Or.inl ⟨by rfl, ?_⟩) (by assumption) ?_
                  · clear hHeld; intro X hSw; obtain ⟨cb, cv⟩ := hSw; go_simp
                  simp only [Act.put, List.getElem_toArray, List.getElem_cons_zero, List.getElem_cons_succ, List.setIfInBounds_toArray, List.set_cons_zero, List.set_cons_succ]
                  refine wpAnyH_take (i := 8) (oi := _) (v := .bool false) rfl (by kernel_rfl) (by kernel_rfl) (by kernel_rfl) (fun _ _ _ h => h) (Or.inl ⟨by rfl, ?_⟩) (by assumption) ?_
                  · clear hHeld; intro X hSw; obtain ⟨cb, cv⟩ := hSw; go_simp
                  simp only [Act.put, List.getElem_toArray, List.getElem_cons_zero, List.getElem_cons_succ, List.setIfInBounds_toArray, List.set_cons_zero, List.set_cons_succ]
                  refine wpAnyH_take (i := 9) (oi := _) (v := .bool false) rfl (by kernel_rfl) (by kernel_rfl) (by kernel_rfl) (fun _ _ _ h => h) (Or.inl ⟨by rfl, ?_⟩) (by assumption) ?_
                  · clear hHeld; intro X hSw; obtain ⟨cb, cv⟩ := hSw; go_simp
                  simp only [Act.put, List.getElem_toArray, List.getElem_cons_zero, List.getElem_cons_succ, List.setIfInBounds_toArray, List.set_cons_zero, List.set_cons_succ]
                  refine wpAnyH_done (by kernel_rfl) ?_ _
                  clear hHeld
                  go_wp2_with (go_at_call 8; (with_reducible refine (HW.out _).mono ?_); rintro e w24 ⟨rfl, h2⟩; have H24 := Lib.hid h2; clear h2)
                  go_ret
                  exact yes_end HC.out.bel H23.out.2 H24.out
                · go_wp2_with fail
                  refine wp_region_held_drew (S := fun _ => True) (by kernel_rfl) trivial (fun hHeld => ?_)
                  refine wpAnyH_take (i := 0) (oi := _) (v := .int .i64 30) rfl (by kernel_rfl) (by kernel_rfl) (by kernel_rfl) (fun _ _ _ h => h) (Or.inl ⟨by rfl, ?_⟩) (by assumption) ?_
                  · clear hHeld; intro X hSw; clear hSw; go_simp
                  simp only [Act.put, List.getElem_toArray, List.getElem_cons_zero, List.getElem_cons_succ, List.setIfInBounds_toArray, List.set_cons_zero, List.set_cons_succ]
                  refine wpAnyH_take (i := 1) (oi := _) (v := .bool false) rfl (by kernel_rfl) (by kernel_rfl) (by kernel_rfl) (fun _ _ _ h => h) (Or.inl ⟨by rfl, ?_⟩) (by assumption) ?_
                  · clear hHeld; intro X hSw; clear hSw; go_simp
                  simp only [Act.put, List.getElem_toArray, List.getElem_cons_zero, List.getElem_cons_succ, List.setIfInBounds_toArray, List.set_cons_zero, List.set_cons_succ]
                  refine wpAnyH_take (i := 2) (oi := _) (v := .bool false) rfl (by kernel_rfl) (by kernel_rfl) (by kernel_rfl) (fun _ _ _ h => h) (Or.inl ⟨by rfl, ?_⟩) (by assumption) ?_
                  · clear hHeld; intro X hSw; clear hSw; go_simp
                  simp only [Act.put, List.getElem_toArray, List.getElem_cons_zero, List.getElem_cons_succ, List.setIfInBounds_toArray, List.set_cons_zero, List.set_cons_succ]
                  refine wpAnyH_take (i := 3) (oi := _) (v := undef) rfl (by kernel_rfl) (by kernel_rfl) (by kernel_rfl) (fun _ _ _ h => h) (Or.inr ⟨by rfl, rfl⟩) (by assumption) ?_
                  simp only [Act.put, List.getElem_toArray, List.getElem_cons_zero, List.getElem_cons_succ, List.setIfInBounds_toArray, List.set_cons_zero, List.set_cons_succ]
                  refine wpAnyH_take (i := 4) (oi := _) (v := undef) rfl (by kernel_rfl) (by kernel_rfl) (by kernel_rfl) (fun _ _ _ h => h) (Or.inr ⟨by rfl, rfl⟩) (by assumption) ?_
                  simp only [Act.put, List.getElem_toArray, List.getElem_cons_zero, List.getElem_cons_succ, List.setIfInBounds_toArray, List.set_cons_zero, List.set_cons_succ]
                  refine wpAnyH_take (i := 5) (oi := _) (v := undef) rfl (by kernel_rfl) (by kernel_rfl) (by kernel_rfl) (fun _ _ _ h => h) (Or.inr ⟨by rfl, rfl⟩) (by assumption) ?_
                  simp only [Act.put, List.getElem_toArray, List.getElem_cons_zero, List.getElem_cons_succ, List.setIfInBounds_toArray, List.set_cons_zero, List.set_cons_succ]
                  refine wpAnyH_take (i := 6) (oi := _) (v := undef) rfl (by kernel_rfl) (by kernel_rfl) (by kernel_rfl) (fun _ _ _ h => h) (Or.inr ⟨by rfl, rfl⟩) (by assumption) ?_
                  simp only [Act.put, List.getElem_toArray, List.getElem_cons_zero, List.getElem_cons_succ, List.setIfInBounds_toArray, List.set_cons_zero, List.set_cons_succ]
                  refine wpAnyH_take (i := 7) (oi := _) (v := undef) rfl (by kernel_rfl) (by kernel_rfl) (by kernel_rfl) (fun _ _ _ h => h) (Or.inr ⟨by rfl, rfl⟩) (by assumption) ?_
                  simp only [Act.put, List.getElem_toArray, List.getElem_cons_zero, List.getElem_cons_succ, List.setIfInBounds_toArray, List.set_cons_zero, List.set_cons_succ]
                  refine wpAnyH_take (i := 8) (oi := _) (v := undef) rfl (by kernel_rfl) (by kernel_rfl) (by kernel_rfl) (fun _ _ _ h => h) (Or.inr ⟨by rfl, rfl⟩) (by assumption) ?_
                  simp only [Act.put, List.getElem_toArray, List.getElem_cons_zero, List.getElem_cons_succ, List.setIfInBounds_toArray, List.set_cons_zero, List.set_cons_succ]
                  refine wpAnyH_take (i := 9) (oi := _) (v := .bool false) rfl (by kernel_rfl) (by kernel_rfl) (by kernel_rfl) (fun _ _ _ h => h) (Or.inl ⟨by rfl, ?_⟩) (by assumption) ?_
                  · clear hHeld; intro X hSw; clear hSw; go_simp
                  simp only [Act.put, List.getElem_toArray, List.getElem_cons_zero, List.getElem_cons_succ, List.setIfInBounds_toArray, List.set_cons_zero, List.set_cons_succ]
                  refine wpAnyH_done (by kernel_rfl) ?_ _
                  clear hHeld
                  go_wp2_with (go_at_call 8; (with_reducible refine (HW.out _).mono ?_); rintro e w24 ⟨rfl, h2⟩; have H24 := Lib.hid h2; clear h2)
                  go_ret
                  exact yes_end HC.out.bel (H22.out.trans ((drew_below w22).mono H22.out.size)) H24.out
                · have HP := Lib.hid h2
                  clear h2
                  go_wp2_with fail
                  refine wp_region_held_drew (S := fun X => (convert 22 9 (.slice ba bl bcap)).run Try.prog X = .ok (.string ⟨bs.toArray⟩) X) (by kernel_rfl) ((HC.out.byt _ (H22.out.trans ((drew_below w22).mono H22.out.size))).conv (cap := bcap) HC.out.hb) (fun hHeld => ?_)
                  refine wpAnyH_take (i := 0) (oi := _) (v := .int .i64 0) rfl (by kernel_rfl) (by kernel_rfl) (by kernel_rfl) (fun _ _ _ h => h) (Or.inl ⟨by rfl, ?_⟩) (by assumption) ?_
                  · clear hHeld; intro X hSw; have cb := hSw; clear hSw; go_simp
                  simp only [Act.put, List.getElem_toArray, List.getElem_cons_zero, List.getElem_cons_succ, List.setIfInBounds_toArray, List.set_cons_zero, List.set_cons_succ]
                  refine wpAnyH_take (i := 1) (oi := _) (v := .bool true) rfl (by kernel_rfl) (by kernel_rfl) (by kernel_rfl) (fun _ _ _ h => h) (Or.inl ⟨by rfl, ?_⟩) (by assumption) ?_
                  · clear hHeld; intro X hSw; have cb := hSw; clear hSw; go_simp
                  simp only [Act.put, List.getElem_toArray, List.getElem_cons_zero, List.getElem_cons_succ, List.setIfInBounds_toArray, List.set_cons_zero, List.set_cons_succ]
                  refine wpAnyH_take (i := 2) (oi := _) (v := .bool true) rfl (by kernel_rfl) (by kernel_rfl) (by kernel_rfl) (fun _ _ _ h => h) (Or.inl ⟨by rfl, ?_⟩) (by assumption) ?_
                  · clear hHeld; intro X hSw; have cb := hSw; clear hSw; go_simp
                  simp only [Act.put, List.getElem_toArray, List.getElem_cons_zero, List.getElem_cons_succ, List.setIfInBounds_toArray, List.set_cons_zero, List.set_cons_succ]
                  refine wpAnyH_take (i := 3) (oi := _) (v := .slice za zm zc) rfl (by kernel_rfl) (by kernel_rfl) (by kernel_rfl) (fun _ _ _ h => h) (Or.inl ⟨by rfl, ?_⟩) (by assumption) ?_
                  · clear hHeld; intro X hSw; have cb := hSw; clear hSw; go_simp
                  simp only [Act.put, List.getElem_toArray, List.getElem_cons_zero, List.getElem_cons_succ, List.setIfInBounds_toArray, List.set_cons_zero, List.set_cons_succ]
                  refine wpAnyH_take (i := 6) (oi := _) (v := .slice ba bl bcap) rfl (by kernel_rfl) (by kernel_rfl) (by kernel_rfl) (fun _ _ _ h => h) (Or.inl ⟨by rfl, ?_⟩) (by assumption) ?_
                  · clear hHeld; intro X hSw; have cb := hSw; clear hSw; go_simp
                  simp only [Act.put, List.getElem_toArray, List.getElem_cons_zero, List.getElem_cons_succ, List.setIfInBounds_toArray, List.set_cons_zero, List.set_cons_succ]
                  refine wpAnyH_take (i := 7) (oi := _) (v := .string ⟨bs.toArray⟩) rfl (by kernel_rfl) (by kernel_rfl) (by kernel_rfl) (fun _ _ _ h => h) (Or.inl ⟨by rfl, ?_⟩) (by assumption) ?_
                  · clear hHeld; intro X hSw; have cb := hSw; clear hSw; go_simp
                  simp only [Act.put, List.getElem_toArray, List.getElem_cons_zero, List.getElem_cons_succ, List.setIfInBounds_toArray, List.set_cons_zero, List.set_cons_succ]
                  refine wpAnyH_ready (rs := [4]) (by kernel_rfl) (by simp) ?_
                  refine AllReadyH.cons (o := _) rfl (fun K hK => ?_) AllReadyH.nil
                  rw [if_pos (by rfl)]
                  simp only [List.getElem_toArray, List.getElem_cons_zero, List.getElem_cons_succ]
                  go_wp2_with (go_at_call 15; (with_reducible refine (q_put HP.out HC.out.hb2 (drew_below w22)).mono ?_); rintro e w23 ⟨vz, rfl, cv, h3⟩; have H23 := Lib.hid (And.intro cv (H22.out.trans ((through_drew h3).mono H22.out.size))); clear cv h3)
                  refine hK.out _ _ ((HC.out.byt _ H23.out.2).conv (cap := bcap) HC.out.hb) (fun hh => ?_)
                  clear hK K hHeld
                  refine wpAnyH_more (S' := fun X => (convert 22 9 (.slice ba bl bcap)).run Try.prog X = .ok (.string ⟨bs.toArray⟩) X ∧ (convert 22 9 vz).run Try.prog X = .ok (.string ⟨bs.toArray⟩) X) (fun _ h => h.1) ?_
                  have hHeld := And.intro hh H23.out.1
                  clear hh
                  refine wpAnyH_take (i := 5) (oi := _) (v := .string ⟨bs.toArray⟩) rfl (by kernel_rfl) (by kernel_rfl) (by kernel_rfl) (fun _ _ _ h => h) (Or.inl ⟨by rfl, ?_⟩) (by assumption) ?_
                  · clear hHeld; intro X hSw; obtain ⟨cb, cv⟩ := hSw; go_simp
                  simp only [Act.put, List.getElem_toArray, List.getElem_cons_zero, List.getElem_cons_succ, List.setIfInBounds_toArray, List.set_cons_zero, List.set_cons_succ]
                  refine wpAnyH_take (i := 8) (oi := _) (v := .bool false) rfl (by kernel_rfl) (by kernel_rfl) (by kernel_rfl) (fun _ _ _ h => h) (Or.inl ⟨by rfl, ?_⟩) (by assumption) ?_
                  · clear hHeld; intro X hSw; obtain ⟨cb, cv⟩ := hSw; go_simp
                  simp only [Act.put, List.getElem_toArray, List.getElem_cons_zero, List.getElem_cons_succ, List.setIfInBounds_toArray, List.set_cons_zero, List.set_cons_succ]
                  refine wpAnyH_take (i := 9) (oi := _) (v := .bool false) rfl (by kernel_rfl) (by kernel_rfl) (by kernel_rfl) (fun _ _ _ h => h) (Or.inl ⟨by rfl, ?_⟩) (by assumption) ?_
                  · clear hHeld; intro X hSw; obtain ⟨cb, cv⟩ := hSw; go_simp
                  simp only [Act.put, List.getElem_toArray, List.getElem_cons_zero, List.getElem_cons_succ, List.setIfInBounds_toArray, List.set_cons_zero, List.set_cons_succ]
                  refine wpAnyH_done (by kernel_rfl) ?_ _
                  clear hHeld
                  go_wp2_with (go_at_call 8; (with_reducible refine (HW.out _).mono ?_); rintro e w24 ⟨rfl, h2⟩; have H24 := Lib.hid h2; clear h2)
                  go_ret
                  exact yes_end HC.out.bel H23.out.2 H24.out
                · go_wp2_with fail
                  refine wp_region_held_drew (S := fun _ => True) (by kernel_rfl) trivial (fun hHeld => ?_)
                  refine wpAnyH_take (i := 0) (oi := _) (v := .int .i64 30) rfl (by kernel_rfl) (by kernel_rfl) (by kernel_rfl) (fun _ _ _ h => h) (Or.inl ⟨by rfl, ?_⟩) (by assumption) ?_
                  · clear hHeld; intro X hSw; clear hSw; go_simp
                  simp only [Act.put, List.getElem_toArray, List.getElem_cons_zero, List.getElem_cons_succ, List.setIfInBounds_toArray, List.set_cons_zero, List.set_cons_succ]
                  refine wpAnyH_take (i := 1) (oi := _) (v := .bool false) rfl (by kernel_rfl) (by kernel_rfl) (by kernel_rfl) (fun _ _ _ h => h) (Or.inl ⟨by rfl, ?_⟩) (by assumption) ?_
                  · clear hHeld; intro X hSw; clear hSw; go_simp
                  simp only [Act.put, List.getElem_toArray, List.getElem_cons_zero, List.getElem_cons_succ, List.setIfInBounds_toArray, List.set_cons_zero, List.set_cons_succ]
                  refine wpAnyH_take (i := 2) (oi := _) (v := .bool false) rfl (by kernel_rfl) (by kernel_rfl) (by kernel_rfl) (fun _ _ _ h => h) (Or.inl ⟨by rfl, ?_⟩) (by assumption) ?_
                  · clear hHeld; intro X hSw; clear hSw; go_simp
                  simp only [Act.put, List.getElem_toArray, List.getElem_cons_zero, List.getElem_cons_succ, List.setIfInBounds_toArray, List.set_cons_zero, List.set_cons_succ]
                  refine wpAnyH_take (i := 3) (oi := _) (v := undef) rfl (by kernel_rfl) (by kernel_rfl) (by kernel_rfl) (fun _ _ _ h => h) (Or.inr ⟨by rfl, rfl⟩) (by assumption) ?_
                  simp only [Act.put, List.getElem_toArray, List.getElem_cons_zero, List.getElem_cons_succ, List.setIfInBounds_toArray, List.set_cons_zero, List.set_cons_succ]
                  refine wpAnyH_take (i := 4) (oi := _) (v := undef) rfl (by kernel_rfl) (by kernel_rfl) (by kernel_rfl) (fun _ _ _ h => h) (Or.inr ⟨by rfl, rfl⟩) (by assumption) ?_
                  simp only [Act.put, List.getElem_toArray, List.getElem_cons_zero, List.getElem_cons_succ, List.setIfInBounds_toArray, List.set_cons_zero, List.set_cons_succ]
                  refine wpAnyH_take (i := 5) (oi := _) (v := undef) rfl (by kernel_rfl) (by kernel_rfl) (by kernel_rfl) (fun _ _ _ h => h) (Or.inr ⟨by rfl, rfl⟩) (by assumption) ?_
                  simp only [Act.put, List.getElem_toArray, List.getElem_cons_zero, List.getElem_cons_succ, List.setIfInBounds_toArray, List.set_cons_zero, List.set_cons_succ]
                  refine wpAnyH_take (i := 6) (oi := _) (v := undef) rfl (by kernel_rfl) (by kernel_rfl) (by kernel_rfl) (fun _ _ _ h => h) (Or.inr ⟨by rfl, rfl⟩) (by assumption) ?_
                  simp only [Act.put, List.getElem_toArray, List.getElem_cons_zero, List.getElem_cons_succ, List.setIfInBounds_toArray, List.set_cons_zero, List.set_cons_succ]
                  refine wpAnyH_take (i := 7) (oi := _) (v := undef) rfl (by kernel_rfl) (by kernel_rfl) (by kernel_rfl) (fun _ _ _ h => h) (Or.inr ⟨by rfl, rfl⟩) (by assumption) ?_
                  simp only [Act.put, List.getElem_toArray, List.getElem_cons_zero, List.getElem_cons_succ, List.setIfInBounds_toArray, List.set_cons_zero, List.set_cons_succ]
                  refine wpAnyH_take (i := 8) (oi := _) (v := undef) rfl (by kernel_rfl) (by kernel_rfl) (by kernel_rfl) (fun _ _ _ h => h) (Or.inr ⟨by rfl, rfl⟩) (by assumption) ?_
                  simp only [Act.put, List.getElem_toArray, List.getElem_cons_zero, List.getElem_cons_succ, List.setIfInBounds_toArray, List.set_cons_zero, List.set_cons_succ]
                  refine wpAnyH_take (i := 9) (oi := _) (v := .bool false) rfl (by kernel_rfl) (by kernel_rfl) (by kernel_rfl) (fun _ _ _ h => h) (Or.inl ⟨by rfl, ?_⟩) (by assumption) ?_
                  · clear hHeld; intro X hSw; clear hSw; go_simp
                  simp only [Act.put, List.getElem_toArray, List.getElem_cons_zero, List.getElem_cons_succ, List.setIfInBounds_toArray, List.set_cons_zero, List.set_cons_succ]
                  refine wpAnyH_done (by kernel_rfl) ?_ _
                  clear hHeld
                  go_wp2_with (go_at_call 8; (with_reducible refine (HW.out _).mono ?_); rintro e w24 ⟨rfl, h2⟩; have H24 := Lib.hid h2; clear h2)
                  go_ret
                  exact yes_end HC.out.bel (H22.out.trans ((drew_below w22).mono H22.out.size)) H24.out
          · have HNG := Lib.hid hng
            clear hng
            obtain ⟨x0, x1, x2, x3⟩ := HC.out.bx _ HB14.out
            go_wp2_with (at_builtin; (with_reducible refine wpList_row w14 rfl (.tmp 95) (.tmp 96) rfl S (HC.out.low _ HB14.out) t ka len kcap (HC.out.kids _ HB14.out).1 (HC.out.kids _ HB14.out).2.1 (HC.out.kids _ HB14.out).2.2 rfl sa ll scap l HC.out.hl HC.out.hl70 rfl (HC.out.st _ HB14.out) ?_); intro g vc w17 hrow; have HRW := Lib.hid hrow; clear hrow)
            clear x0 x1 x2 x3
            have HLL := Lib.hid (show 1 + ll = (oneT t :: l).length by rw [HC.out.hl, List.length_cons]; omega)
            have hll70 : (ll : Int) ≤ 70 := by have := HC.out.hl; have := HC.out.hl70; omega
            go_loopw [18, 99] (fun v i wr => RoundB w17 (oneT t :: l) (ll ≤ 60) v i wr) (fun _ i _ => (1 + ll - (intOf i).toNat))
            case atStart => exact RoundB.start
            case round =>
              obtain ⟨k, sm, hk, rfl, rfl, hbr, hsm⟩ := hrel
              have HBR := Lib.hid hbr
              have HSM := Lib.hid hsm
              rw [← HLL.out] at hk
              clear hbr hsm
              by_cases hlt : k < 1 + ll
              · obtain ⟨y, hy⟩ : ∃ y, (oneT t :: l)[k]? = some y := ⟨(oneT t :: l)[k]'(by rw [← HLL.out]; exact hlt), List.getElem?_eq_getElem _⟩
                have hkl : (k : Int) < 1 + (ll : Int) := by omega
                obtain ⟨kb, kc, c0, c1, c2, c3, c4, c5, c6, c7, c8, hp, hf⟩ := row_cells HRW.out (HC.out.low _ HB14.out) HBR.out hy
                obtain ⟨ln, hln⟩ : ∃ ln, ln = foLen y.sub.kids := ⟨_, rfl⟩
                have HWK := Lib.hid (walk_row HRW.out (HC.out.low _ HB14.out) HBR.out HC.out.htf HC.out.hlf hy hln hp hf)
                rw [← hln] at c8
                have HY := Lib.hid hy
                clear hp hf hln hy
                go_wp2_with (go_at_call 35; (with_reducible refine HWK.out.mono ?_); rintro e w18 ⟨a3, n3, cap3, T, rfl, ⟨hT, xs, ho, hx⟩, hb2, hn, hn2⟩; have HSP := Lib.hid (And.intro hT (And.intro ho (And.intro hx hn))); have HB18 := Lib.hid (below_box HBR.out hb2); clear ho hx hb2 hn)
                clear HWK c0 c1 c2 c3 c4 c5 c6 c7 c8
                go_loopw [18, 108] (fun v i wr => RoundS T sm v i w18 wr) (fun _ i _ => (n3 - (intOf i).toNat))
                case atStart => exact ⟨0, sm, Nat.zero_le _, rfl, rfl, rfl, fun e => ⟨e, fun i p hi => by omega⟩⟩
                case round =>
                  obtain ⟨j, sn, hj, rfl, rfl, rfl, hsn⟩ := hrel
                  have HSN := Lib.hid hsn
                  rw [HSP.out.1] at hj
                  clear hsn hT
                  by_cases hjn : j < n3
                  · obtain ⟨p, hp⟩ : ∃ p, T[j]? = some p := ⟨T[j]'(by have := HSP.out.1; omega), List.getElem?_eq_getElem _⟩
                    have hjl : (j : Int) < (n3 : Int) := by omega
                    obtain ⟨g3, rfl, d4⟩ := spot_cell HSP.out.2.1 (by omega) (HSP.out.2.2.1 j p hp).2
                    have HP := Lib.hid hp
                    clear hp
                    cases sn with
                    | false =>
                      go_wp2_with fail
                      exact ⟨RoundS.next HP.out HSN.out (fun e => by cases e), by simp [intOf]; omega⟩
                    | true =>
                      by_cases h40 : p.2 ≤ 40
                      · by_cases h200 : (j : Int) < 200
                        · go_wp2_with fail
                          exact ⟨RoundS.next HP.out HSN.out (fun _ => ⟨rfl, h40, by omega⟩), by simp [intOf]; omega⟩
                        · go_wp2_with fail
                          exact ⟨RoundS.next HP.out HSN.out (fun e => by cases e), by simp [intOf]; omega⟩
                      · go_wp2_with fail
                        exact ⟨RoundS.next HP.out HSN.out (fun e => by cases e), by simp [intOf]; omega⟩
                  · have hje : j = n3 := by omega
                    have HJ := Lib.hid hje
                    have hjl : ¬ (j : Int) < (n3 : Int) := by omega
                    clear hje
                    go_wp2_with fail
                    exact ⟨RoundB.next HY.out HB18.out HSM.out (fun e => RoundS.good (by rw [HSP.out.1]; exact HSP.out.2.2.2) (by have h7 := HSN.out; rw [HJ.out, ← HSP.out.1] at h7; exact h7) e), by simp [intOf]; omega⟩
              · have hke : k = 1 + ll := by omega
                subst hke
                have HBW := Lib.hid (back_bel HB14.out HRW.out.1 HBR.out)
                have hkl : ¬ ((1 + ll : Nat) : Int) < 1 + (ll : Int) := by omega
                clear hlt hk
                cases sm
                case true => exact absurd (all_good HC.out.hl HLL.out HSM.out rfl) HNG.out
                all_goals (
                  go_wp2_with (first
                    | (go_at_call 17; (with_reducible refine (q_new HC.out HBW.out _).mono ?_); rintro e w20 ⟨b2, dv2, rfl, h1⟩; have H20 := Lib.hid h1; clear h1)
                    | (go_at_call 28; (with_reducible refine (q_any H20.out).mono ?_); rintro e w21 ⟨za, zm, zc, s2, rfl, h1, h2⟩; have H21 := Lib.hid (And.intro h1 h2); clear h1 h2)))
                all_goals (
                  (with_reducible refine (q_end H21.out.1 H21.out.2).mono ?_)
                  rintro e w22 ⟨at2, er2, rfl, h1, h2⟩
                  have H22 := Lib.hid h1
                  clear h1 H21 H20
                  rcases h2 with ⟨rfl, h2⟩ | rfl)
                · have HP := Lib.hid h2
                  clear h2
                  go_wp2_with fail
                  refine wp_region_held_drew (S := fun X => (convert 22 9 (.slice ba bl bcap)).run Try.prog X = .ok (.string ⟨bs.toArray⟩) X) (by kernel_rfl) ((HC.out.byt _ (H22.out.trans ((drew_below w22).mono H22.out.size))).conv (cap := bcap) HC.out.hb) (fun hHeld => ?_)
                  refine wpAnyH_take (i := 0) (oi := _) (v := .int .i64 0) rfl (by kernel_rfl) (by kernel_rfl) (by kernel_rfl) (fun _ _ _ h => h) (Or.inl ⟨by rfl, ?_⟩) (by assumption) ?_
                  · clear hHeld; intro X hSw; have cb := hSw; clear hSw; go_simp
                  simp only [Act.put, List.getElem_toArray, List.getElem_cons_zero, List.getElem_cons_succ, List.setIfInBounds_toArray, List.set_cons_zero, List.set_cons_succ]
                  refine wpAnyH_take (i := 1) (oi := _) (v := .bool true) rfl (by kernel_rfl) (by kernel_rfl) (by kernel_rfl) (fun _ _ _ h => h) (Or.inl ⟨by rfl, ?_⟩) (by assumption) ?_
                  · clear hHeld; intro X hSw; have cb := hSw; clear hSw; go_simp
                  simp only [Act.put, List.getElem_toArray, List.getElem_cons_zero, List.getElem_cons_succ, List.setIfInBounds_toArray, List.set_cons_zero, List.set_cons_succ]
                  refine wpAnyH_take (i := 2) (oi := _) (v := .bool true) rfl (by kernel_rfl) (by kernel_rfl) (by kernel_rfl) (fun _ _ _ h => h) (Or.inl ⟨by rfl, ?_⟩) (by assumption) ?_
                  · clear hHeld; intro X hSw; have cb := hSw; clear hSw; go_simp
                  simp only [Act.put, List.getElem_toArray, List.getElem_cons_zero, List.getElem_cons_succ, List.setIfInBounds_toArray, List.set_cons_zero, List.set_cons_succ]
                  refine wpAnyH_take (i := 3) (oi := _) (v := .slice za zm zc) rfl (by kernel_rfl) (by kernel_rfl) (by kernel_rfl) (fun _ _ _ h => h) (Or.inl ⟨by rfl, ?_⟩) (by assumption) ?_
                  · clear hHeld; intro X hSw; have cb := hSw; clear hSw; go_simp
                  simp only [Act.put, List.getElem_toArray, List.getElem_cons_zero, List.getElem_cons_succ, List.setIfInBounds_toArray, List.set_cons_zero, List.set_cons_succ]
                  refine wpAnyH_take (i := 6) (oi := _) (v := .slice ba bl bcap) rfl (by kernel_rfl) (by kernel_rfl) (by kernel_rfl) (fun _ _ _ h => h) (Or.inl ⟨by rfl, ?_⟩) (by assumption) ?_
                  · clear hHeld; intro X hSw; have cb := hSw; clear hSw; go_simp
                  simp only [Act.put, List.getElem_toArray, List.getElem_cons_zero, List.getElem_cons_succ, List.setIfInBounds_toArray, List.set_cons_zero, List.set_cons_succ]
                  refine wpAnyH_take (i := 7) (oi := _) (v := .string ⟨bs.toArray⟩) rfl (by kernel_rfl) (by kernel_rfl) (by kernel_rfl) (fun _ _ _ h => h) (Or.inl ⟨by rfl, ?_⟩) (by assumption) ?_
                  · clear hHeld; intro X hSw; have cb := hSw; clear hSw; go_simp
                  simp only [Act.put, List.getElem_toArray, List.getElem_cons_zero, List.getElem_cons_succ, List.setIfInBounds_toArray, List.set_cons_zero, List.set_cons_succ]
                  refine wpAnyH_ready (rs := [4]) (by kernel_rfl) (by simp) ?_
                  refine AllReadyH.cons (o := _) rfl (fun K hK => ?_) AllReadyH.nil
                  rw [if_pos (by rfl)]
                  simp only [List.getElem_toArray, List.getElem_cons_zero, List.getElem_cons_succ]
                  go_wp2_with (go_at_call 15; (with_reducible refine (q_put HP.out HC.out.hb2 (drew_below w22)).mono ?_); rintro e w23 ⟨vz, rfl, cv, h3⟩; have H23 := Lib.hid (And.intro cv (H22.out.trans ((through_drew h3).mono H22.out.size))); clear cv h3)
                  refine hK.out _ _ ((HC.out.byt _ H23.out.2).conv (cap := bcap) HC.out.hb) (fun hh => ?_)
                  clear hK K hHeld
                  refine wpAnyH_more (S' := fun X => (convert 22 9 (.slice ba bl bcap)).run Try.prog X = .ok (.string ⟨bs.toArray⟩) X ∧ (convert 22 9 vz).run Try.prog X = .ok (.string ⟨bs.toArray⟩) X) (fun _ h => h.1) ?_
                  have hHeld := And.intro hh H23.out.1
                  clear hh
                  refine wpAnyH_take (i := 5) (oi := _) (v := .string ⟨bs.toArray⟩) rfl (by kernel_rfl) (by kernel_rfl) (by kernel_rfl) (fun _ _ _ h => h) (Or.inl ⟨by rfl, ?_⟩) (by assumption) ?_
                  · clear hHeld; intro X hSw; obtain ⟨cb, cv⟩ := hSw; go_simp
                  simp only [Act.put, List.getElem_toArray, List.getElem_cons_zero, List.getElem_cons_succ, List.setIfInBounds_toArray, List.set_cons_zero, List.set_cons_succ]
                  refine wpAnyH_take (i := 8) (oi := _) (v := .bool false) rfl (by kernel_rfl) (by kernel_rfl) (by kernel_rfl) (fun _ _ _ h => h) (Or.inl ⟨by rfl, ?_⟩) (by assumption) ?_
                  · clear hHeld; intro X hSw; obtain ⟨cb, cv⟩ := hSw; go_simp
                  simp only [Act.put, List.getElem_toArray, List.getElem_cons_zero, List.getElem_cons_succ, List.setIfInBounds_toArray, List.set_cons_zero, List.set_cons_succ]
                  refine wpAnyH_take (i := 9) (oi := _) (v := .bool false) rfl (by kernel_rfl) (by kernel_rfl) (by kernel_rfl) (fun _ _ _ h => h) (Or.inl ⟨by rfl, ?_⟩) (by assumption) ?_
                  · clear hHeld; intro X hSw; obtain ⟨cb, cv⟩ := hSw; go_simp
                  simp only [Act.put, List.getElem_toArray, List.getElem_cons_zero, List.getElem_cons_succ, List.setIfInBounds_toArray, List.set_cons_zero, List.set_cons_succ]
                  refine wpAnyH_done (by kernel_rfl) ?_ _
                  clear hHeld
                  go_wp2_with (go_at_call 8; (with_reducible refine (HW.out _).mono ?_); rintro e w24 ⟨rfl, h2⟩; have H24 := Lib.hid h2; clear h2)
                  go_ret
                  exact yes_end HC.out.bel H23.out.2 H24.out
                · go_wp2_with fail
                  refine wp_region_held_drew (S := fun _ => True) (by kernel_rfl) trivial (fun hHeld => ?_)
                  refine wpAnyH_take (i := 0) (oi := _) (v := .int .i64 30) rfl (by kernel_rfl) (by kernel_rfl) (by kernel_rfl) (fun _ _ _ h => h) (Or.inl ⟨by rfl, ?_⟩) (by assumption) ?_
                  · clear hHeld; intro X hSw; clear hSw; go_simp
                  simp only [Act.put, List.getElem_toArray, List.getElem_cons_zero, List.getElem_cons_succ, List.setIfInBounds_toArray, List.set_cons_zero, List.set_cons_succ]
                  refine wpAnyH_take (i := 1) (oi := _) (v := .bool false) rfl (by kernel_rfl) (by kernel_rfl) (by kernel_rfl) (fun _ _ _ h => h) (Or.inl ⟨by rfl, ?_⟩) (by assumption) ?_
                  · clear hHeld; intro X hSw; clear hSw; go_simp
                  simp only [Act.put, List.getElem_toArray, List.getElem_cons_zero, List.getElem_cons_succ, List.setIfInBounds_toArray, List.set_cons_zero, List.set_cons_succ]
                  refine wpAnyH_take (i := 2) (oi := _) (v := .bool false) rfl (by kernel_rfl) (by kernel_rfl) (by kernel_rfl) (fun _ _ _ h => h) (Or.inl ⟨by rfl, ?_⟩) (by assumption) ?_
                  · clear hHeld; intro X hSw; clear hSw; go_simp
                  simp only [Act.put, List.getElem_toArray, List.getElem_cons_zero, List.getElem_cons_succ, List.setIfInBounds_toArray, List.set_cons_zero, List.set_cons_succ]
                  refine wpAnyH_take (i := 3) (oi := _) (v := undef) rfl (by kernel_rfl) (by kernel_rfl) (by kernel_rfl) (fun _ _ _ h => h) (Or.inr ⟨by rfl, rfl⟩) (by assumption) ?_
                  simp only [Act.put, List.getElem_toArray, List.getElem_cons_zero, List.getElem_cons_succ, List.setIfInBounds_toArray, List.set_cons_zero, List.set_cons_succ]
                  refine wpAnyH_take (i := 4) (oi := _) (v := undef) rfl (by kernel_rfl) (by kernel_rfl) (by kernel_rfl) (fun _ _ _ h => h) (Or.inr ⟨by rfl, rfl⟩) (by assumption) ?_
                  simp only [Act.put, List.getElem_toArray, List.getElem_cons_zero, List.getElem_cons_succ, List.setIfInBounds_toArray, List.set_cons_zero, List.set_cons_succ]
                  refine wpAnyH_take (i := 5) (oi := _) (v := undef) rfl (by kernel_rfl) (by kernel_rfl) (by kernel_rfl) (fun _ _ _ h => h) (Or.inr ⟨by rfl, rfl⟩) (by assumption) ?_
                  simp only [Act.put, List.getElem_toArray, List.getElem_cons_zero, List.getElem_cons_succ, List.setIfInBounds_toArray, List.set_cons_zero, List.set_cons_succ]
                  refine wpAnyH_take (i := 6) (oi := _) (v := undef) rfl (by kernel_rfl) (by kernel_rfl) (by kernel_rfl) (fun _ _ _ h => h) (Or.inr ⟨by rfl, rfl⟩) (by assumption) ?_
                  simp only [Act.put, List.getElem_toArray, List.getElem_cons_zero, List.getElem_cons_succ, List.setIfInBounds_toArray, List.set_cons_zero, List.set_cons_succ]
                  refine wpAnyH_take (i := 7) (oi := _) (v := undef) rfl (by kernel_rfl) (by kernel_rfl) (by kernel_rfl) (fun _ _ _ h => h) (Or.inr ⟨by rfl, rfl⟩) (by assumption) ?_
                  simp only [Act.put, List.getElem_toArray, List.getElem_cons_zero, List.getElem_cons_succ, List.setIfInBounds_toArray, List.set_cons_zero, List.set_cons_succ]
                  refine wpAnyH_take (i := 8) (oi := _) (v := undef) rfl (by kernel_rfl) (by kernel_rfl) (by kernel_rfl) (fun _ _ _ h => h) (Or.inr ⟨by rfl, rfl⟩) (by assumption) ?_
                  simp only [Act.put, List.getElem_toArray, List.getElem_cons_zero, List.getElem_cons_succ, List.setIfInBounds_toArray, List.set_cons_zero, List.set_cons_succ]
                  refine wpAnyH_take (i := 9) (oi := _) (v := .bool false) rfl (by kernel_rfl) (by kernel_rfl) (by kernel_rfl) (fun _ _ _ h => h) (Or.inl ⟨by rfl, ?_⟩) (by assumption) ?_
                  · clear hHeld; intro X hSw; clear hSw; go_simp
                  simp only [Act.put, List.getElem_toArray, List.getElem_cons_zero, List.getElem_cons_succ, List.setIfInBounds_toArray, List.set_cons_zero, List.set_cons_succ]
                  refine wpAnyH_done (by kernel_rfl) ?_ _
                  clear hHeld
                  go_wp2_with (go_at_call 8; (with_reducible refine (HW.out _).mono ?_); rintro e w24 ⟨rfl, h2⟩; have H24 := Lib.hid h2; clear h2)
                  go_ret
                  exact yes_end HC.out.bel (H22.out.trans ((drew_below w22).mono H22.out.size)) H24.out
end Go.Proofs.Ytljlijdgocfofaa
