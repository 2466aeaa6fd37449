/-
  NormalAgain, of what the program's Pair, Of and Is answer.
-/
import Derived.Deep.Cut
import Derived.StillTailTactics
import Derived.Test.YtpbjncljecfaeaaNWakesQa
import Derived.Test.YtpbjncljecfaeaaNSameQa
namespace Go.Proofs.Ytpbjncljecfaeaa
open Go.RowKit Go.Shelf
set_option linter.unusedVariables false
set_option linter.unusedSimpArgs false

theorem small_of {vs fs : List SV} {n : Nat} (h : SmallN vs) (hs : steps fs = ofK n (steps vs)) : SmallN fs := by
  have hl := ofK_len n (steps vs)
  rw [← hs, steps_len, steps_len] at hl
  refine ⟨Nat.le_trans hl h.1, fun x hx => ?_⟩
  refine ofK_small (M := 200) n (l := steps vs) (fun s hs => ?_) x.s (by rw [← hs]; exact List.mem_map_of_mem hx)
  obtain ⟨y, hy, rfl⟩ := List.mem_map.1 hs
  exact h.2 y hy
theorem again_is {n : Nat} {l : List Sf} (h : l.length ≤ n) : (!(onceK l).2) = eqR (ofK n l) l := by
  cases hc : (onceK l).2
  · rw [ofK_is hc, eqR_refl]; rfl
  · rw [eqR_len (by have h2 := onceK_less hc; have := ofK_less (n := n) hc (by omega); omega)]; rfl
set_option maxRecDepth 100000 in
set_option maxHeartbeats 16000000 in
theorem normalAgain_any (hP : PairFn) (hO : OfFn) (hI : IsFn) (w : World) (la : Option Addr) (m cm : Nat) (vs : List SV) (hm : m = vs.length) (h : RowG w la vs) (hwf : ∀ x ∈ vs, Wf64 x.s) (hnil : la = none → cm = 0) (hcm : m ≤ cm) :
    Calls Try.prog 5 #[.slice la m cm] w (YesR w) := by
  have HF := Lib.hid (And.intro (@hP) (And.intro hO hI))
  have HW := Lib.hid hwf
  clear hwf
  have HG := Lib.hid (And.intro h (And.intro hm (And.intro hnil hcm)))
  have HGR := Lib.hid (great12_any w la m cm vs hm h)
  clear hP hO hI h hm hnil hcm
  go_enter Try.func5, Try.ntmps5
  go_wp2_with fail
  refine HGR.out.mono ?_
  rintro e w2 ⟨bg, rfl, hsm, hb2⟩
  have HB2 := Lib.hid (And.intro hb2 hsm)
  clear hb2 hsm HGR
  cases bg
  · have HS := Lib.hid (HB2.out.2 rfl)
    have HR := Lib.hid (show RowS w2 la m cm vs from ⟨(HG.out.1.row HS.out).on HB2.out.1, HG.out.2.1, HG.out.2.2.2, HG.out.2.2.1⟩)
    go_wp2_with fail
    refine (HF.out.2.1 w2 la m cm vs HR.out HS.out HW.out).mono ?_
    rintro e w3 ⟨fa, n, c, fs, rfl, hfr, hfs, hb3⟩
    have HW3 := Lib.hid (wf_row HW.out hfs)
    have HS3 := Lib.hid (small_of HS.out hfs)
    have HD := Lib.hid (show (onceK (steps fs)).2 = false by rw [hfs]; exact ofK_done m _ (by rw [steps_len, ← HG.out.2.1]; exact Nat.le_refl _))
    have HR3 := Lib.hid (And.intro hfr (And.intro hfs (And.intro (HB2.out.1.trans (hb3.mono HB2.out.1.size)) hb3)))
    have hn60 : n ≤ 60 := by rw [hfr.len]; exact HS3.out.1
    clear hfr hfs hb3
    go_wp2_with fail
    go_loopw [4] (fun i wr => ∃ k : Nat, k ≤ n ∧ i = .int .i64 (k : Int) ∧ Hid (Below w3.heap.size w3 wr)) (fun i _ => n - (intOf i).toNat)
    case atStart => exact ⟨0, Nat.zero_le _, rfl, Lib.hid (Below.refl _ _)⟩
    case round =>
      obtain ⟨k, hk, rfl, hh⟩ := hrel
      obtain ⟨wo, hwo⟩ : ∃ wo, wo = wr := ⟨_, rfl⟩
      subst hwo
      obtain ⟨j, hj⟩ : ∃ j, j = k + 1 := ⟨_, rfl⟩
      have hkw : IntKind.i64.wrap ((k : Int) + 1) = (j : Int) := by rw [IntWalk.i64_in _ (by omega)]; omega
      by_cases hlt : k + 1 < n
      · have hjl : (j : Int) < (n : Int) := by omega
        have hkl : (k : Int) < (n : Int) := by omega
        obtain ⟨x, hx⟩ : ∃ x, fs[k]? = some x := ⟨_, List.getElem?_eq_getElem (by rw [← HR3.out.1.len]; omega)⟩
        obtain ⟨y, hy⟩ : ∃ y, fs[j]? = some y := ⟨_, List.getElem?_eq_getElem (by rw [← HR3.out.1.len]; omega)⟩
        have HNO : Hid ((pairK x.s y.s).2 = false) := Lib.hid (onceK_pair HD.out k x.s y.s (steps_at hx) (by rw [← hj]; exact steps_at hy))
        obtain ⟨b, off, rfl, _⟩ := HR3.out.1.row.at (Below.refl _ _) hx
        have hax := fun X hX => HR3.out.1.row.at (X := X) hX hx
        have hay := fun X hX => HR3.out.1.row.at (X := X) hX hy
        have hlx := HR3.out.1.row.lies x (List.mem_of_getElem? hx)
        have hly := HR3.out.1.row.lies y (List.mem_of_getElem? hy)
        have hfx := HS3.out.2 x (List.mem_of_getElem? hx)
        have hfy := HS3.out.2 y (List.mem_of_getElem? hy)
        have hwx := HW3.out x (List.mem_of_getElem? hx)
        have hwy := HW3.out y (List.mem_of_getElem? hy)
        clear hx hy
        obtain ⟨xs, xa, xc⟩ := x
        obtain ⟨ys, ya, yc⟩ := y
        simp only at hlx hly hfx hfy hax hay HNO hwx hwy
        obtain ⟨xn, hxn⟩ : ∃ xn, xn = foLen xs.sub.kids := ⟨_, rfl⟩
        obtain ⟨yn, hyn⟩ : ∃ yn, yn = foLen ys.sub.kids := ⟨_, rfl⟩
        rw [← hxn] at hax
        rw [← hyn] at hay
        have HCX : Hid (∀ X, Below w3.heap.size w3 X → (X.cell? ⟨b, off + k * 9, none⟩ = some (.int .i8 xs.op) ∧ X.cell? ⟨b, off + k * 9 + 1, none⟩ = some (.int .i64 xs.id) ∧ X.cell? ⟨b, off + k * 9 + 2, none⟩ = some (.int .i64 xs.par) ∧ X.cell? ⟨b, off + k * 9 + 3, none⟩ = some (.int .i64 xs.at_) ∧ X.cell? ⟨b, off + k * 9 + 4, none⟩ = some (.string xs.tx) ∧ X.cell? ⟨b, off + k * 9 + 5, none⟩ = some (.int .i64 xs.sub.id) ∧ X.cell? ⟨b, off + k * 9 + 6, none⟩ = some (.int .i64 xs.sub.kind) ∧ X.cell? ⟨b, off + k * 9 + 7, none⟩ = some (.string xs.sub.text) ∧ X.cell? ⟨b, off + k * 9 + 8, none⟩ = some (.slice xa xn xc)) ∧ (X.cell? ⟨b, off + j * 9, none⟩ = some (.int .i8 ys.op) ∧ X.cell? ⟨b, off + j * 9 + 1, none⟩ = some (.int .i64 ys.id) ∧ X.cell? ⟨b, off + j * 9 + 2, none⟩ = some (.int .i64 ys.par) ∧ X.cell? ⟨b, off + j * 9 + 3, none⟩ = some (.int .i64 ys.at_) ∧ X.cell? ⟨b, off + j * 9 + 4, none⟩ = some (.string ys.tx) ∧ X.cell? ⟨b, off + j * 9 + 5, none⟩ = some (.int .i64 ys.sub.id) ∧ X.cell? ⟨b, off + j * 9 + 6, none⟩ = some (.int .i64 ys.sub.kind) ∧ X.cell? ⟨b, off + j * 9 + 7, none⟩ = some (.string ys.sub.text) ∧ X.cell? ⟨b, off + j * 9 + 8, none⟩ = some (.slice ya yn yc))) := Lib.hid fun X hX => by
          obtain ⟨_, _, e1, h1⟩ := hax X hX
          obtain ⟨_, _, e2, h2⟩ := hay X hX
          cases e1; cases e2
          exact ⟨h1, h2⟩
        have HC : Hid (∀ X, Below w3.heap.size w3 X → Calls Try.prog 8 #[.agg #[.int .i8 xs.op, .int .i64 xs.id, .int .i64 xs.par, .int .i64 xs.at_, .string xs.tx, .int .i64 xs.sub.id, .int .i64 xs.sub.kind, .string xs.sub.text, .slice xa xn xc], .agg #[.int .i8 ys.op, .int .i64 ys.id, .int .i64 ys.par, .int .i64 ys.at_, .string ys.tx, .int .i64 ys.sub.id, .int .i64 ys.sub.kind, .string ys.sub.text, .slice ya yn yc]] X (PairP (pairK xs ys) X)) := Lib.hid fun X hX => HF.out.1 (w := X) xs ys xa ya xn xc yn yc hlx hly hX hX hfx hfy hwx hwy hxn hyn
        have hbo := hh.out
        have HKN := Lib.hid (And.intro hk (And.intro hlt hj))
        clear hwx hwy hlx hly hfx hfy hxn hyn hk hlt hj hh hax hay
        go_wp2_with fail
        refine wp_region_held_drew (S := fun X => Below w3.heap.size w3 X) (by kernel_rfl) (below_drewN hbo 1) (fun hHeld => ?_)
        clear hbo
        refine wpAnyH_take (i := 0) (oi := _) (v := .slice (some ⟨b, off, none⟩) n c) rfl (by kernel_rfl) (by kernel_rfl) (by kernel_rfl) (fun _ _ _ h => h) (Or.inl ⟨by rfl, ?_⟩) (by assumption) ?_
        · clear hHeld; intro X hSw; obtain ⟨⟨c0, c1, c2, c3, c4, c5, c6, c7, c8⟩, d0, d1, d2, d3, d4, d5, d6, d7, d8⟩ := HCX.out X hSw; clear hSw; go_simp
        simp only [Act.put, List.getElem_toArray, List.getElem_cons_zero, List.getElem_cons_succ, List.setIfInBounds_toArray, List.set_cons_zero, List.set_cons_succ]
        refine wpAnyH_take (i := 1) (oi := _) (v := .int .i64 (k : Int)) rfl (by kernel_rfl) (by kernel_rfl) (by kernel_rfl) (fun _ _ _ h => h) (Or.inl ⟨by rfl, ?_⟩) (by assumption) ?_
        · clear hHeld; intro X hSw; obtain ⟨⟨c0, c1, c2, c3, c4, c5, c6, c7, c8⟩, d0, d1, d2, d3, d4, d5, d6, d7, d8⟩ := HCX.out X hSw; clear hSw; go_simp
        simp only [Act.put, List.getElem_toArray, List.getElem_cons_zero, List.getElem_cons_succ, List.setIfInBounds_toArray, List.set_cons_zero, List.set_cons_succ]
        refine wpAnyH_take (i := 2) (oi := _) (v := .pointer (some ⟨b, off + k * 9, none⟩)) rfl (by kernel_rfl) (by kernel_rfl) (by kernel_rfl) (fun _ _ _ h => h) (Or.inl ⟨by rfl, ?_⟩) (by assumption) ?_
        · clear hHeld; intro X hSw; obtain ⟨⟨c0, c1, c2, c3, c4, c5, c6, c7, c8⟩, d0, d1, d2, d3, d4, d5, d6, d7, d8⟩ := HCX.out X hSw; clear hSw; go_simp
        simp only [Act.put, List.getElem_toArray, List.getElem_cons_zero, List.getElem_cons_succ, List.setIfInBounds_toArray, List.set_cons_zero, List.set_cons_succ]
        refine wpAnyH_take (i := 3) (oi := _) (v := .agg #[.int .i8 xs.op, .int .i64 xs.id, .int .i64 xs.par, .int .i64 xs.at_, .string xs.tx, .int .i64 xs.sub.id, .int .i64 xs.sub.kind, .string xs.sub.text, .slice xa xn xc]) rfl (by kernel_rfl) (by kernel_rfl) (by kernel_rfl) (fun _ _ _ h => h) (Or.inl ⟨by rfl, ?_⟩) (by assumption) ?_
        · clear hHeld; intro X hSw; obtain ⟨⟨c0, c1, c2, c3, c4, c5, c6, c7, c8⟩, d0, d1, d2, d3, d4, d5, d6, d7, d8⟩ := HCX.out X hSw; clear hSw; go_simp
        simp only [Act.put, List.getElem_toArray, List.getElem_cons_zero, List.getElem_cons_succ, List.setIfInBounds_toArray, List.set_cons_zero, List.set_cons_succ]
        refine wpAnyH_take (i := 4) (oi := _) (v := .slice (some ⟨b, off, none⟩) n c) rfl (by kernel_rfl) (by kernel_rfl) (by kernel_rfl) (fun _ _ _ h => h) (Or.inl ⟨by rfl, ?_⟩) (by assumption) ?_
        · clear hHeld; intro X hSw; obtain ⟨⟨c0, c1, c2, c3, c4, c5, c6, c7, c8⟩, d0, d1, d2, d3, d4, d5, d6, d7, d8⟩ := HCX.out X hSw; clear hSw; go_simp
        simp only [Act.put, List.getElem_toArray, List.getElem_cons_zero, List.getElem_cons_succ, List.setIfInBounds_toArray, List.set_cons_zero, List.set_cons_succ]
        refine wpAnyH_take (i := 5) (oi := _) (v := .int .i64 (k : Int)) rfl (by kernel_rfl) (by kernel_rfl) (by kernel_rfl) (fun _ _ _ h => h) (Or.inl ⟨by rfl, ?_⟩) (by assumption) ?_
        · clear hHeld; intro X hSw; obtain ⟨⟨c0, c1, c2, c3, c4, c5, c6, c7, c8⟩, d0, d1, d2, d3, d4, d5, d6, d7, d8⟩ := HCX.out X hSw; clear hSw; go_simp
        simp only [Act.put, List.getElem_toArray, List.getElem_cons_zero, List.getElem_cons_succ, List.setIfInBounds_toArray, List.set_cons_zero, List.set_cons_succ]
        refine wpAnyH_take (i := 6) (oi := _) (v := .int .i64 (j : Int)) rfl (by kernel_rfl) (by kernel_rfl) (by kernel_rfl) (fun _ _ _ h => h) (Or.inl ⟨by rfl, ?_⟩) (by assumption) ?_
        · clear hHeld; intro X hSw; obtain ⟨⟨c0, c1, c2, c3, c4, c5, c6, c7, c8⟩, d0, d1, d2, d3, d4, d5, d6, d7, d8⟩ := HCX.out X hSw; clear hSw; go_simp
        simp only [Act.put, List.getElem_toArray, List.getElem_cons_zero, List.getElem_cons_succ, List.setIfInBounds_toArray, List.set_cons_zero, List.set_cons_succ]
        refine wpAnyH_take (i := 7) (oi := _) (v := .pointer (some ⟨b, off + j * 9, none⟩)) rfl (by kernel_rfl) (by kernel_rfl) (by kernel_rfl) (fun _ _ _ h => h) (Or.inl ⟨by rfl, ?_⟩) (by assumption) ?_
        · clear hHeld; intro X hSw; obtain ⟨⟨c0, c1, c2, c3, c4, c5, c6, c7, c8⟩, d0, d1, d2, d3, d4, d5, d6, d7, d8⟩ := HCX.out X hSw; clear hSw; go_simp
        simp only [Act.put, List.getElem_toArray, List.getElem_cons_zero, List.getElem_cons_succ, List.setIfInBounds_toArray, List.set_cons_zero, List.set_cons_succ]
        refine wpAnyH_take (i := 8) (oi := _) (v := .agg #[.int .i8 ys.op, .int .i64 ys.id, .int .i64 ys.par, .int .i64 ys.at_, .string ys.tx, .int .i64 ys.sub.id, .int .i64 ys.sub.kind, .string ys.sub.text, .slice ya yn yc]) rfl (by kernel_rfl) (by kernel_rfl) (by kernel_rfl) (fun _ _ _ h => h) (Or.inl ⟨by rfl, ?_⟩) (by assumption) ?_
        · clear hHeld; intro X hSw; obtain ⟨⟨c0, c1, c2, c3, c4, c5, c6, c7, c8⟩, d0, d1, d2, d3, d4, d5, d6, d7, d8⟩ := HCX.out X hSw; clear hSw; go_simp
        simp only [Act.put, List.getElem_toArray, List.getElem_cons_zero, List.getElem_cons_succ, List.setIfInBounds_toArray, List.set_cons_zero, List.set_cons_succ]
        refine wpAnyH_ready (rs := [9]) (by kernel_rfl) (by simp) ?_
        refine AllReadyH.cons (o := _) rfl (fun K hK => ?_) AllReadyH.nil
        rw [if_pos (by rfl)]
        simp only [List.getElem_toArray, List.getElem_cons_zero, List.getElem_cons_succ]
        have HK := Lib.hid hK
        have HS := Lib.hid hHeld
        clear hK hHeld
        go_wp2_with (go_at_call 8; refine (HC.out _ HS.out).mono ?_; rintro e w5 ⟨pa, pn, pc, rfl, hb5, _⟩; rw [HNO.out]; have HP := Lib.hid (HS.out.trans (hb5.mono HS.out.size)); clear hb5)
        refine HK.out _ _ HP.out (fun hHeld => ?_)
        clear HK HS
        refine wpAnyH_take (i := 10) (oi := _) (v := .tuple #[.slice pa pn pc, .bool false]) rfl (by kernel_rfl) (by kernel_rfl) (by kernel_rfl) (fun _ _ _ h => h) (Or.inl ⟨by rfl, ?_⟩) (by assumption) ?_
        · clear hHeld; intro X hSw; obtain ⟨⟨c0, c1, c2, c3, c4, c5, c6, c7, c8⟩, d0, d1, d2, d3, d4, d5, d6, d7, d8⟩ := HCX.out X hSw; clear hSw; go_simp
        simp only [Act.put, List.getElem_toArray, List.getElem_cons_zero, List.getElem_cons_succ, List.setIfInBounds_toArray, List.set_cons_zero, List.set_cons_succ]
        refine wpAnyH_take (i := 11) (oi := _) (v := .slice pa pn pc) rfl (by kernel_rfl) (by kernel_rfl) (by kernel_rfl) (fun _ _ _ h => h) (Or.inl ⟨by rfl, ?_⟩) (by assumption) ?_
        · clear hHeld; intro X hSw; obtain ⟨⟨c0, c1, c2, c3, c4, c5, c6, c7, c8⟩, d0, d1, d2, d3, d4, d5, d6, d7, d8⟩ := HCX.out X hSw; clear hSw; go_simp
        simp only [Act.put, List.getElem_toArray, List.getElem_cons_zero, List.getElem_cons_succ, List.setIfInBounds_toArray, List.set_cons_zero, List.set_cons_succ]
        refine wpAnyH_take (i := 12) (oi := _) (v := .bool false) rfl (by kernel_rfl) (by kernel_rfl) (by kernel_rfl) (fun _ _ _ h => h) (Or.inl ⟨by rfl, ?_⟩) (by assumption) ?_
        · clear hHeld; intro X hSw; obtain ⟨⟨c0, c1, c2, c3, c4, c5, c6, c7, c8⟩, d0, d1, d2, d3, d4, d5, d6, d7, d8⟩ := HCX.out X hSw; clear hSw; go_simp
        simp only [Act.put, List.getElem_toArray, List.getElem_cons_zero, List.getElem_cons_succ, List.setIfInBounds_toArray, List.set_cons_zero, List.set_cons_succ]
        refine wpAnyH_take (i := 13) (oi := _) (v := .slice pa pn pc) rfl (by kernel_rfl) (by kernel_rfl) (by kernel_rfl) (fun _ _ _ h => h) (Or.inl ⟨by rfl, ?_⟩) (by assumption) ?_
        · clear hHeld; intro X hSw; obtain ⟨⟨c0, c1, c2, c3, c4, c5, c6, c7, c8⟩, d0, d1, d2, d3, d4, d5, d6, d7, d8⟩ := HCX.out X hSw; clear hSw; go_simp
        simp only [Act.put, List.getElem_toArray, List.getElem_cons_zero, List.getElem_cons_succ, List.setIfInBounds_toArray, List.set_cons_zero, List.set_cons_succ]
        refine wpAnyH_take (i := 14) (oi := _) (v := .bool false) rfl (by kernel_rfl) (by kernel_rfl) (by kernel_rfl) (fun _ _ _ h => h) (Or.inl ⟨by rfl, ?_⟩) (by assumption) ?_
        · clear hHeld; intro X hSw; obtain ⟨⟨c0, c1, c2, c3, c4, c5, c6, c7, c8⟩, d0, d1, d2, d3, d4, d5, d6, d7, d8⟩ := HCX.out X hSw; clear hSw; go_simp
        simp only [Act.put, List.getElem_toArray, List.getElem_cons_zero, List.getElem_cons_succ, List.setIfInBounds_toArray, List.set_cons_zero, List.set_cons_succ]
        refine wpAnyH_done (by kernel_rfl) ?_ _
        clear hHeld HC HCX
        go_wp2_with fail
        exact ⟨⟨j, by have := HKN.out.2.1; have := HKN.out.2.2; omega, rfl, Lib.hid HP.out⟩, by have := HKN.out.2.1; have := HKN.out.2.2; simp [intOf]; omega⟩
      · have hkl : ¬ (j : Int) < (n : Int) := by omega
        have HB := Lib.hid hh.out
        have hnm : (n : Int) ≤ (m : Int) := by
          have h1 := ofK_len m (steps vs)
          rw [← HR3.out.2.1, steps_len, steps_len, ← HG.out.2.1, ← HR3.out.1.len] at h1
          omega
        have HSM := Lib.hid (show (!(onceK (steps vs)).2) = eqR (steps fs) (steps vs) by rw [HR3.out.2.1]; exact again_is (by rw [steps_len, ← HG.out.2.1]; exact Nat.le_refl _))
        obtain ⟨bq, hbq⟩ : ∃ bq, bq = eqR (steps fs) (steps vs) := ⟨_, rfl⟩
        have HBQ := Lib.hid hbq
        clear hh hlt hj hk hbq
        go_wp2_with fail
        refine (HF.out.2.2 wo fa n c fs (HR3.out.1.on HB.out) HS3.out HW3.out).mono ?_
        rintro e z1 ⟨rfl, hb1⟩
        rw [HD.out]
        have HB1 := Lib.hid (HB.out.trans (hb1.mono HB.out.size))
        clear hb1
        go_wp2_with fail
        refine (HF.out.2.1 z1 fa n c fs (HR3.out.1.on HB1.out) HS3.out HW3.out).mono ?_
        rintro e z2 ⟨ga, gn, gc, gs, rfl, hgr, hgs, hb2⟩
        have HB2' := Lib.hid (HB1.out.trans (hb2.mono HB1.out.size))
        have HV := Lib.hid (show eqR (steps gs) (steps fs) = true by rw [hgs, ofK_is HD.out]; exact eqR_refl _)
        have HE := Lib.hid (eqr_any z2 ga fa gn n gc c gs fs hgr.len HR3.out.1.len hgr.row (HR3.out.1.row.on HB2'.out))
        clear hgr hgs hb2
        go_wp2_with fail
        refine HE.out.mono ?_
        rintro e z3 ⟨rfl, hb3⟩
        rw [HV.out]
        have HB3 := Lib.hid (HR3.out.2.2.2.trans ((HB2'.out.trans (hb3.mono HB2'.out.size)).mono HR3.out.2.2.2.size))
        have HB3' := Lib.hid (HB2'.out.trans (hb3.mono HB2'.out.size))
        clear hb3 HE HV
        go_wp2_with fail
        refine (HF.out.2.2 z3 la m cm vs (HR.out.on HB3.out) HS.out HW.out).mono ?_
        rintro e z4 ⟨rfl, hb4⟩
        rw [HSM.out, ← HBQ.out]
        have HB4 := Lib.hid (HB3'.out.trans (hb4.mono HB3'.out.size))
        have HB4' := Lib.hid (HB3.out.trans (hb4.mono HB3.out.size))
        have HE := Lib.hid (eqr_any z4 fa la n m c cm fs vs HR3.out.1.len HG.out.2.1 (HR3.out.1.row.on HB4.out) (HR.out.row.on HB4'.out))
        clear hb4
        go_wp2_with fail
        refine HE.out.mono ?_
        rintro e z5 ⟨rfl, hb5⟩
        rw [← HBQ.out]
        have HB5 := Lib.hid (HR3.out.2.2.1.trans ((HB4.out.trans (hb5.mono HB4.out.size)).mono HR3.out.2.2.1.size))
        have hqq : (bq == bq) = true := by cases bq <;> rfl
        clear hb5 HE
        go_wp2_with fail
        refine (wakes12_any HF.out.2.1 HF.out.2.2 _).mono ?_
        rintro e z6 ⟨rfl, hb6⟩
        have HB6 := Lib.hid (HB5.out.trans (hb6.mono HB5.out.size))
        clear hb6
        go_wp2_with fail
        go_ret
        exact ⟨rfl, HB6.out⟩
  · go_wp2_with fail
    refine (wakes12_any HF.out.2.1 HF.out.2.2 _).mono ?_
    rintro e w6 ⟨rfl, hb6⟩
    have HB6 := Lib.hid (HB2.out.1.trans (hb6.mono HB2.out.1.size))
    clear hb6
    go_wp2_with fail
    go_ret
    exact ⟨rfl, HB6.out⟩
end Go.Proofs.Ytpbjncljecfaeaa
