/-
  DiskPlays: the walk: it answers true for every row of acts, and turns nothing that was there. No condition but that the acts lie where they are said to lie.
-/
import Derived.Test.YtbhdelfiaaodmaaPair
import Derived.Deep.RegionHeld3
import Derived.Deep.QuietTactic
import Derived.BigQuiet
namespace Go.Proofs.Ytbhdelfiaaodmaa
open Go.RowKit
open Extern.Stop (cell)

set_option maxRecDepth 100000 in
set_option maxHeartbeats 400000 in
theorem plays_great (w : World) (a : Option Addr) (cap : Nat) (l : List Act) (h : ActsAt w w.heap.size a l) (hg : greatB l 0 0 = true) :
    Calls Try.prog 3 #[.slice a l.length cap] w fun e w' => e = .returned (.bool true) ∧ Below w.heap.size w w' := by
  have hgr := great_any w _ a cap l h
  rw [hg] at hgr
  have HG := Lib.hid hgr
  clear hgr hg h
  go_enter Try.func3, Try.ntmps3
  go_wp2_with fail
  refine HG.out.mono ?_
  rintro e w' ⟨rfl, rfl⟩
  go_wp2_with fail
  refine (wakes_any _).mono ?_
  rintro e w1 ⟨rfl, hb⟩
  have HB := Lib.hid hb
  clear hb
  go_wp2_with fail
  go_ret
  exact ⟨rfl, HB.out⟩

/-- What holds at the head of each round. -/
def Round (w : World) (len : Nat) (d r i : Value) (wr : World) : Prop :=
  ∃ (k db rb : Nat) (sd sr : St), k ≤ len ∧ i = .int .i64 k ∧ d = .pointer (some ⟨db, 0, none⟩) ∧ r = .pointer (some ⟨rb, 0, none⟩) ∧ DiskAt wr w.heap.size db sd ∧ RefAt wr w.heap.size rb sr ∧ Sim sd sr ∧ sd.ok ∧ sd.l.length ≤ k ∧ Below w.heap.size w wr

theorem round_end {w W : World} {len k q db rb : Nat} {X : Array Value} {sd sr : St} (hk : k < len) (h : PairQ w W w.heap.size q db rb X sd sr) (hs : Sim sd sr) (hok : sd.ok) (hl : sd.l.length ≤ k + 1) (n : Nat) :
    Round w len (.pointer (some ⟨db, 0, none⟩)) (.pointer (some ⟨rb, 0, none⟩)) (.int .i64 ((k : Int) + 1)) (W.drewN n) :=
  ⟨k + 1, db, rb, sd, sr, by omega, by go_num, rfl, rfl, h.1.below (below_drewN (Below.refl _ _) n), h.2.1.below (below_drewN (Below.refl _ _) n), hs, hok, hl, below_drewN h.2.2.1 n⟩

/-- What the check behind each act reads. -/
theorem checks {w W : World} {B q db rb : Nat} {X : Array Value} {sd sr : St} (h : PairQ w W B q db rb X sd sr) (hs : Sim sd sr) :
    ∃ (L : Nat) (D : Bool) (a : Option Addr) (cap : Nat), W.cell? ⟨rb, 0, none⟩ = some (.slice a L cap) ∧ W.cell? ⟨rb, 1, none⟩ = some (.bool D) ∧
      (∀ n, Calls Try.prog 20 #[.pointer (some ⟨db, 0, none⟩)] (W.drewN n) fun e w' => e = .returned (.int .i64 L) ∧ w' = W.drewN n) ∧
      (∀ n, Calls Try.prog 21 #[.pointer (some ⟨db, 0, none⟩)] (W.drewN n) fun e w' => e = .returned (.bool D) ∧ w' = W.drewN n) := by
  obtain ⟨v, ps, hps, ho, hgs, hb, c0, c1, c2, c3, hf⟩ := h.2.1.cells
  obtain ⟨a, cap, rfl⟩ := slice_of_owns ho
  refine ⟨sr.l.length, sr.down, a, cap, c0, c1, fun n => ?_, fun n => ?_⟩
  · have := writes_any (W.drewN n) B db sd (h.1.below (below_drewN (Below.refl _ _) n))
    rw [hs.1] at this
    exact this.mono fun e w' ⟨he, hw⟩ => ⟨he, hw.symm⟩
  · have := down_any (W.drewN n) B db sd (h.1.below (below_drewN (Below.refl _ _) n))
    rw [hs.2.2.1] at this
    exact this.mono fun e w' ⟨he, hw⟩ => ⟨he, hw.symm⟩

set_option maxRecDepth 100000 in
set_option maxHeartbeats 4000000 in
theorem plays_small (w : World) (a : Option Addr) (cap : Nat) (l : List Act) (h : ActsLow w w.heap.size a l) (hg : greatB l 0 0 = false) :
    Calls Try.prog 3 #[.slice a l.length cap] w fun e w' => e = .returned (.bool true) ∧ Below w.heap.size w w' := by
  have hgr := great_any w _ a cap l h.1
  rw [hg] at hgr
  have hl200 : l.length ≤ 200 := by have := greatB_length l 0 0 (by omega) hg; omega
  obtain ⟨len, hlen⟩ : ∃ len, len = l.length := ⟨_, rfl⟩
  rw [← hlen] at hgr
  rw [← hlen]
  have hlen2 : len ≤ 200 := by omega
  have HG := Lib.hid hgr
  have HL := Lib.hid hlen
  have HA := Lib.hid h
  clear hgr hg h hlen hl200
  go_enter Try.func3, Try.ntmps3
  go_wp2_with fail
  refine HG.out.mono ?_
  rintro e w' ⟨rfl, rfl⟩
  go_wp2_with fail
  refine (new_any _).mono ?_
  rintro e w1 ⟨rfl, hd, hb, hs⟩
  have H1 := Lib.hid (And.intro hd (And.intro hb (show w.heap.size ≤ w1.heap.size by omega)))
  clear hd hb hs
  go_wp2_with fail
  go_loopw [3, 4, 19] (fun d r i wr => Round w len d r i wr) (fun _ _ i _ => len - (intOf i).toNat)
  case atStart =>
    refine ⟨0, w.heap.size, w1.heap.size, St.fresh, St.fresh, Nat.zero_le _, rfl, rfl, rfl, H1.out.1.alloc _, ?_, ⟨rfl, rfl, rfl, fun _ => rfl⟩, (fun e => by cases e), Nat.le_refl _, H1.out.2.1.alloc H1.out.2.2 _⟩
    exact ⟨H1.out.2.2, .slice none 0 0, [], heap_alloc_new w1 _, rfl, World.ownsRow_nil _ _ _ _, fun p hp => by cases hp⟩
  case round =>
    obtain ⟨k, db, rb, sd, sr, hk, rfl, rfl, rfl, hd, hr, hsim, hok, hln, hbel⟩ := hrel
    by_cases hlt : k < len
    · obtain ⟨x, hx⟩ : ∃ x, l[k]? = some x := ⟨l[k]'(by have := HL.out; omega), List.getElem?_eq_getElem _⟩
      obtain ⟨b, off, ha, c0, c1, c2⟩ := HA.out.cells hbel k x hx
      subst ha
      have hlow := HA.out.2 x (List.mem_of_getElem? hx)
      have hv := hlow
      obtain ⟨a', cap', hv, _⟩ := hv
      rw [hv] at c2 hlow
      obtain ⟨bl, hbl⟩ : ∃ bl, bl = x.bs.length := ⟨_, rfl⟩
      rw [← hbl] at c2 hlow
      obtain ⟨kd, hkd⟩ : ∃ kd, kd = x.kind := ⟨_, rfl⟩
      obtain ⟨n, hn⟩ : ∃ n, n = x.n := ⟨_, rfl⟩
      rw [← hkd] at c0
      rw [← hn] at c1
      have hB : w.heap.size ≤ wr.heap.size := hbel.size
      have hp0 : ∀ kd : Int, PairQ w (wr.alloc (.cells #[.int .i64 kd, .int .i64 n, .slice a' bl cap'] 33)) w.heap.size wr.heap.size db rb #[.int .i64 kd, .int .i64 n, .slice a' bl cap'] sd sr := fun kd =>
        ⟨hd.alloc _, hr.below ((Below.refl _ _).alloc (Nat.le_refl _) _), hbel.alloc hB _, heap_alloc_new wr _⟩
      have HP0 := Lib.hid hp0
      have hm : sd.l.length ≤ 100000 := by omega
      have hm2 : sr.l.length ≤ 100000 := by rw [← hsim.1]; exact hm
      have HM := Lib.hid (And.intro hm hm2)
      have HSIM := Lib.hid hsim
      have HOK0 := Lib.hid hok
      have HLN0 := Lib.hid hln
      have HLOW := Lib.hid hlow
      have HBL := Lib.hid hbl
      have hkl : (k : Int) < (len : Int) := by omega
      clear hd hr hsim hok hln hbel hx hv hbl hkd hn hp0 hm hm2 hlow hB
      have hkind : kd = 0 ∨ kd = 1 ∨ kd = 2 ∨ kd = 3 ∨ kd = 4 ∨ (¬ kd = 0 ∧ ¬ kd = 1 ∧ ¬ kd = 2 ∧ ¬ kd = 3 ∧ ¬ kd = 4) := by omega
      rcases hkind with rfl | rfl | rfl | rfl | rfl | ⟨k0, k1, k2, k3, k4⟩
      · have hp1 := (HP0.out 0).below (show Below _ (wr.alloc (.cells #[.int .i64 0, .int .i64 n, .slice a' bl cap'] 33)) (wr.alloc (.cells #[.int .i64 0, .int .i64 n, .slice a' bl cap'] 33)).drew from below_drewN (Below.refl _ _) 1)
        obtain ⟨E, hE⟩ : ∃ E, E = writeE sd n bl := ⟨_, rfl⟩
        have hE2 : writeE sr n x.bs.length = E := by rw [← HBL.out, hE]; exact (HSIM.out.writeE n bl).symm
        have hE1 : writeE sd n x.bs.length = E := by rw [← HBL.out, hE]
        have HE := Lib.hid (And.intro hE1 hE2)
        have HLW : Hid (BytesLow w w.heap.size (.slice a' bl cap') x.bs) := HLOW.out
        clear hE hE1 hE2
        have q1 := hp1.cell 1
        have q2 := hp1.cell 2
        go_wp2_with fail
        go_region_held3 (fun w' => w'.cell? ⟨wr.heap.size, 1, none⟩ = some (.int .i64 n) ∧ w'.cell? ⟨wr.heap.size, 2, none⟩ = some (.slice a' bl cap'))
          (first | (go_keep; done) | exact ⟨hpr.cell 1, hpr.cell 2⟩ | exact ⟨hpd.cell 1, hpd.cell 2⟩)
          (first
            | (go_at_call 10; refine (pq_write (sr := sr) hp1 n _ x.bs E HE.out.1 HLW.out HM.out.1 HOK0.out).mono ?_; rintro e w2 ⟨rfl, hpd⟩)
            | (go_at_call 10; refine (pq_write (sr := writeS sr n x.bs) hpr n _ x.bs E HE.out.1 HLW.out HM.out.1 HOK0.out).mono ?_; rintro e w2 ⟨rfl, hpd⟩)
            | (go_at_call 11; refine (pq_rwrite (sd := sd) hp1 n _ x.bs E HE.out.2 HLW.out HM.out.2 (HSIM.out.ok HOK0.out)).mono ?_; rintro e w3 ⟨rfl, hpr⟩)
            | (go_at_call 11; refine (pq_rwrite (sd := writeS sd n x.bs) hpd n _ x.bs E HE.out.2 HLW.out HM.out.2 (HSIM.out.ok HOK0.out)).mono ?_; rintro e w3 ⟨rfl, hpr⟩))
        have HP := Lib.hid hpr
        have HS := Lib.hid (HSIM.out.writeS n x.bs)
        have HOK := Lib.hid (writeS_ok HOK0.out n x.bs)
        have HLN := Lib.hid (show (writeS sd n x.bs).l.length ≤ k + 1 by have h1 := HLN0.out; have h2 := writeS_length sd n x.bs; omega)
        rename_i hheld
        clear hp1 hpd hpr q1 q2 hheld
        have hck := checks HP.out HS.out
        obtain ⟨L, D, aR, capR, r0, r1, hcw, hcd⟩ := hck
        have HCW := Lib.hid hcw
        have HCD := Lib.hid hcd
        clear hcw hcd
        go_wp2_with fail
        go_quiet ((first | (go_at_call 20; exact Calls.quiet_of_same (HCW.out _)) | (go_at_call 21; exact Calls.quiet_of_same (HCD.out _))))
        go_wp2
        exact ⟨round_end hlt HP.out HS.out HOK.out HLN.out _, by simp [intOf]; omega⟩
      · have hp1 := HP0.out 1
        obtain ⟨bs, hbs⟩ : ∃ bs, bs = readB sd n := ⟨_, rfl⟩
        obtain ⟨E, hE⟩ : ∃ E, E = readE sd n := ⟨_, rfl⟩
        have hsr := HSIM.out.read n
        have HE := Lib.hid (And.intro hbs.symm (And.intro hE.symm (And.intro (hsr.1.symm.trans hbs.symm) (hsr.2.symm.trans hE.symm))))
        clear hbs hE hsr
        have HP1 := Lib.hid hp1
        clear hp1
        go_wp2_with fail
        refine (k_readE _ w.heap.size db sd n bs E HP1.out.1 HE.out.1 HE.out.2.1).mono ?_
        rintro e w2 ⟨a1, c1, rfl, hby, hb⟩
        have hp2 := HP1.out.below hb
        have q1 : w2.cell? ⟨wr.heap.size, 1, none⟩ = some (.int .i64 n) := hp2.cell 1
        have HBY := Lib.hid hby
        have HP2 := Lib.hid hp2
        clear hby hb hp2
        go_wp2_with fail
        refine (ref_read w2 w.heap.size rb sr n bs E HP2.out.2.1 HM.out.2 HE.out.2.2.1 HE.out.2.2.2).mono ?_
        rintro e w3 ⟨a2, c2, rfl, hby, hb⟩
        have hp3 := HP2.out.below hb
        have t1 := conv_text w3 w.heap.size a1 bs.length c1 bs (HBY.out.later HP2.out.2.2.1.size hb)
        have t2 := conv_text w3 w.heap.size a2 bs.length c2 bs hby
        obtain ⟨T, hT⟩ : ∃ T, T = textOf bs := ⟨_, rfl⟩
        rw [← hT] at t1 t2
        have HP := Lib.hid hp3
        have HS := Lib.hid HSIM.out
        have HOK := Lib.hid HOK0.out
        have HLN := Lib.hid (show sd.l.length ≤ k + 1 by have := HLN0.out; omega)
        clear hp3 hby hb hT
        have hck := checks HP.out HS.out
        obtain ⟨L, D, aR, capR, r0, r1, hcw, hcd⟩ := hck
        have HCW := Lib.hid hcw
        have HCD := Lib.hid hcd
        clear hcw hcd
        go_wp2_with fail
        go_quiet ((first | (go_at_call 20; exact Calls.quiet_of_same (HCW.out _)) | (go_at_call 21; exact Calls.quiet_of_same (HCD.out _))))
        go_wp2
        exact ⟨round_end hlt HP.out HS.out HOK.out HLN.out _, by simp [intOf]; omega⟩
      · have HP1 := Lib.hid (HP0.out 2)
        go_wp2_with fail
        refine (pq_cut HP1.out n HM.out.1).mono ?_
        rintro e w2 ⟨d2, rfl, hp2⟩
        have q1 : w2.cell? ⟨wr.heap.size, 1, none⟩ = some (.int .i64 n) := hp2.cell 1
        have HP2 := Lib.hid hp2
        clear hp2
        go_wp2_with fail
        refine (pq_rcut HP2.out n HM.out.2).mono ?_
        rintro e w3 ⟨r2, rfl, hp3⟩
        have HP := Lib.hid hp3
        have HS := Lib.hid (show Sim (St.mk (sd.l.take (brought n sd.l.length)) false 0 false) (St.mk (sr.l.take (brought n sr.l.length)) false 0 false) from ⟨by rw [HSIM.out.1], rfl, rfl, fun e => by cases e⟩)
        have HOK := Lib.hid (show (St.mk (sd.l.take (brought n sd.l.length)) false 0 false).ok from fun e => by cases e)
        have HLN := Lib.hid (show (sd.l.take (brought n sd.l.length)).length ≤ k + 1 by have := HLN0.out; rw [List.length_take]; omega)
        clear hp3 q1
        have hck := checks HP.out HS.out
        obtain ⟨L, D, aR, capR, r0, r1, hcw, hcd⟩ := hck
        have HCW := Lib.hid hcw
        have HCD := Lib.hid hcd
        clear hcw hcd
        go_wp2_with fail
        go_quiet ((first | (go_at_call 20; exact Calls.quiet_of_same (HCW.out _)) | (go_at_call 21; exact Calls.quiet_of_same (HCD.out _))))
        go_wp2
        exact ⟨round_end hlt HP.out HS.out HOK.out HLN.out _, by simp [intOf]; omega⟩
      · have hp1 := (HP0.out 3).below (show Below _ (wr.alloc (.cells #[.int .i64 3, .int .i64 n, .slice a' bl cap'] 33)) (wr.alloc (.cells #[.int .i64 3, .int .i64 n, .slice a' bl cap'] 33)).drew from below_drewN (Below.refl _ _) 1)
        obtain ⟨E, hE⟩ : ∃ E, E = armE sd n := ⟨_, rfl⟩
        have HE := Lib.hid (And.intro hE.symm ((HSIM.out.armE n).symm.trans hE.symm))
        clear hE
        have q1 := hp1.cell 1
        go_wp2_with fail
        go_region_held3 (fun w' => w'.cell? ⟨wr.heap.size, 1, none⟩ = some (.int .i64 n))
          (first | (go_keep; done) | exact hpr.cell 1 | exact hpd.cell 1)
          (first
            | (go_at_call 16; refine (pq_arm (sr := sr) hp1 n E HE.out.1).mono ?_; rintro e w2 ⟨rfl, hpd⟩)
            | (go_at_call 16; refine (pq_arm (sr := armS sr n) hpr n E HE.out.1).mono ?_; rintro e w2 ⟨rfl, hpd⟩)
            | (go_at_call 17; refine (pq_rarm (sd := sd) hp1 n E HE.out.2).mono ?_; rintro e w3 ⟨rfl, hpr⟩)
            | (go_at_call 17; refine (pq_rarm (sd := armS sd n) hpd n E HE.out.2).mono ?_; rintro e w3 ⟨rfl, hpr⟩))
        have HP := Lib.hid hpr
        have HS := Lib.hid (HSIM.out.armS n)
        have HOK := Lib.hid (armS_ok HOK0.out n)
        have HLN := Lib.hid (show (armS sd n).l.length ≤ k + 1 by have := HLN0.out; rw [armS_l]; omega)
        rename_i hheld
        clear hp1 hpd hpr q1 hheld
        have hck := checks HP.out HS.out
        obtain ⟨L, D, aR, capR, r0, r1, hcw, hcd⟩ := hck
        have HCW := Lib.hid hcw
        have HCD := Lib.hid hcd
        clear hcw hcd
        go_wp2_with fail
        go_quiet ((first | (go_at_call 20; exact Calls.quiet_of_same (HCW.out _)) | (go_at_call 21; exact Calls.quiet_of_same (HCD.out _))))
        go_wp2
        exact ⟨round_end hlt HP.out HS.out HOK.out HLN.out _, by simp [intOf]; omega⟩
      · have HP1 := Lib.hid (HP0.out 4)
        go_wp2_with fail
        refine (pq_up HP1.out).mono ?_
        rintro e w2 ⟨rfl, hp2⟩
        have HP2 := Lib.hid hp2
        clear hp2
        go_wp2_with fail
        refine (pq_rup HP2.out).mono ?_
        rintro e w3 ⟨rfl, hp3⟩
        have HP := Lib.hid hp3
        have HS := Lib.hid HSIM.out.up
        have HOK := Lib.hid (show (St.mk sd.l false 0 false).ok from fun e => by cases e)
        have HLN := Lib.hid (show sd.l.length ≤ k + 1 by have := HLN0.out; omega)
        clear hp3
        have hck := checks HP.out HS.out
        obtain ⟨L, D, aR, capR, r0, r1, hcw, hcd⟩ := hck
        have HCW := Lib.hid hcw
        have HCD := Lib.hid hcd
        clear hcw hcd
        go_wp2_with fail
        go_quiet ((first | (go_at_call 20; exact Calls.quiet_of_same (HCW.out _)) | (go_at_call 21; exact Calls.quiet_of_same (HCD.out _))))
        go_wp2
        exact ⟨round_end hlt HP.out HS.out HOK.out HLN.out _, by simp [intOf]; omega⟩
      · have HP := Lib.hid (HP0.out kd)
        have HS := HSIM
        have HOK := HOK0
        have HLN := Lib.hid (show sd.l.length ≤ k + 1 by have := HLN0.out; omega)
        have hck := checks HP.out HS.out
        obtain ⟨L, D, aR, capR, r0, r1, hcw, hcd⟩ := hck
        have HCW := Lib.hid hcw
        have HCD := Lib.hid hcd
        clear hcw hcd
        go_wp2_with fail
        go_quiet ((first | (go_at_call 20; exact Calls.quiet_of_same (HCW.out _)) | (go_at_call 21; exact Calls.quiet_of_same (HCD.out _))))
        go_wp2
        exact ⟨round_end hlt HP.out HS.out HOK.out HLN.out _, by simp [intOf]; omega⟩
    · have HB := Lib.hid hbel
      clear hd hr hsim hok hln hbel
      go_wp2_with fail
      refine (wakes_any _).mono ?_
      rintro e w2 ⟨rfl, hb⟩
      have HB2 := Lib.hid (HB.out.trans (hb.mono HB.out.size))
      clear hb
      go_wp2_with fail
      go_ret
      exact ⟨rfl, HB2.out⟩

theorem plays_any (w : World) (a : Option Addr) (cap : Nat) (l : List Act) (h : ActsLow w w.heap.size a l) :
    Calls Try.prog 3 #[.slice a l.length cap] w fun e w' => e = .returned (.bool true) ∧ Below w.heap.size w w' := by
  cases hg : greatB l 0 0
  · exact plays_small w a cap l h hg
  · exact plays_great w a cap l h.1 hg

end Go.Proofs.Ytbhdelfiaaodmaa
