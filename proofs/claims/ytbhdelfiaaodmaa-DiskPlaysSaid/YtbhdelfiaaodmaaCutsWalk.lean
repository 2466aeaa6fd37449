/-
  DiskCuts: the walk: it answers true for every row of acts and all numbers, and turns nothing that was there. No condition but that the acts lie where they are said to lie.
-/
import Derived.Test.YtbhdelfiaaodmaaPlain
namespace Go.Proofs.Ytbhdelfiaaodmaa
open Go.RowKit
open Extern.Stop (cell)

/-- One act of a row, written: 'Write' as the laws' loops call it, behind the act's own copy. -/
theorem act_write (w wr : World) (B db : Nat) (l : List Act) (k : Nat) (x : Act) (hx : l[k]? = some x) (hl : l.length ≤ 200) (hBw : B ≤ w.heap.size) (hb : BytesAt w B x.v x.bs) (hd : DiskAt wr B db (runW (l.take k))) (hbel : Below B w wr) (hst : Stays w wr) (o : Obj) :
    Calls Try.prog 10 #[.pointer (some ⟨db, 0, none⟩), .int .i64 x.n, x.v] (wr.alloc o) fun e w' => e = .returned (.int .i64 (writeE (runW (l.take k)) x.n x.bs.length)) ∧ DiskAt w' B db (runW (l.take (k + 1))) ∧ Below B w w' ∧ Stays w w' := by
  have hB' : B ≤ wr.heap.size := Nat.le_trans hBw hbel.size
  have hk := (List.getElem?_eq_some_iff.1 hx).1
  have h1 : (runW (l.take k)).l.length ≤ 100000 := by
    have := runW_length (l.take k)
    rw [List.length_take] at this; omega
  refine (write_any (wr.alloc o) B db (runW (l.take k)) x.n x.v x.bs (hb.kept (hbel.alloc hB' o) (hst.alloc o)) (hd.alloc o) h1 (runW_ok _)).mono fun e w' ⟨he, h2, h3, h4⟩ => ⟨he, ?_, (hbel.alloc hB' o).trans h3, (hst.alloc o).trans h4⟩
  rw [runW_take hx]; exact h2

set_option maxRecDepth 100000 in
set_option maxHeartbeats 400000 in
theorem cuts_great (w : World) (a : Option Addr) (cap : Nat) (l : List Act) (n m sector : Int) (h : ActsAt w w.heap.size a l) (hg : greatB l 0 0 = true) :
    Calls Try.prog 4 #[.slice a l.length cap, .int .i64 n, .int .i64 m, .int .i64 sector] w fun e w' => e = .returned (.bool true) ∧ Below w.heap.size w w' := by
  have hgr := great_any w _ a cap l h
  rw [hg] at hgr
  have HG := Lib.hid hgr
  clear hgr hg h
  go_enter Try.func4, Try.ntmps4
  go_wp2_with fail
  refine HG.out.mono ?_
  rintro e w' ⟨rfl, rfl⟩
  go_wp2_with fail
  refine (wakes_any _).mono ?_
  rintro e w1 ⟨rfl, hb⟩
  have HB := Lib.hid hb
  clear hb
  go_wp2_with fail
  go_ret
  exact ⟨rfl, HB.out⟩

set_option maxRecDepth 100000 in
set_option maxHeartbeats 2000000 in
theorem cuts_small (w : World) (a : Option Addr) (cap : Nat) (l : List Act) (n m sector : Int) (h : ActsAt w w.heap.size a l) (hg : greatB l 0 0 = false) :
    Calls Try.prog 4 #[.slice a l.length cap, .int .i64 n, .int .i64 m, .int .i64 sector] w fun e w' => e = .returned (.bool true) ∧ Below w.heap.size w w' := by
  have hgr := great_any w _ a cap l h
  rw [hg] at hgr
  have hl200 : l.length ≤ 200 := by have := greatB_length l 0 0 (by omega) hg; omega
  obtain ⟨len, hlen⟩ : ∃ len, len = l.length := ⟨_, rfl⟩
  rw [← hlen] at hgr
  rw [← hlen]
  have hlen2 : len ≤ 200 := by omega
  have HG := Lib.hid hgr
  have HL := Lib.hid hlen
  have HA := Lib.hid h
  have H200 := Lib.hid hl200
  clear hgr hg h hlen hl200
  go_enter Try.func4, Try.ntmps4
  go_wp2_with fail
  refine HG.out.mono ?_
  rintro e w' ⟨rfl, rfl⟩
  go_wp2_with fail
  refine (new_any _).mono ?_
  rintro e w1 ⟨rfl, hd, hb, hs⟩
  have H1 := Lib.hid (And.intro hd hb)
  clear hd hb hs
  go_wp2_with fail
  go_loopw [33] (fun i wr => ∃ k : Nat, k ≤ len ∧ i = .int .i64 k ∧ DiskAt wr w.heap.size w.heap.size (runW (l.take k)) ∧ Below w.heap.size w wr ∧ Stays w wr) (fun i _ => len - (intOf i).toNat)
  case atStart => exact ⟨0, Nat.zero_le _, rfl, by simpa [runW] using H1.out.1, H1.out.2, Stays.below H1.out.2⟩
  case round =>
    obtain ⟨k, hk, rfl, hdk, hbk, hsk⟩ := hrel
    have HK := Lib.hid (And.intro hdk (And.intro hbk hsk))
    have HAK := Lib.hid (HA.out.kept hbk hsk)
    clear hdk hbk hsk
    by_cases hlt : k < len
    · obtain ⟨x, hx⟩ : ∃ x, l[k]? = some x := ⟨l[k]'(by have := HL.out; omega), List.getElem?_eq_getElem _⟩
      obtain ⟨b, off, ha, _, hc⟩ := HAK.out.1 (by have := HL.out; omega)
      subst ha
      obtain ⟨c0, c1, c2⟩ := hc k x hx
      have hbs := HA.out.2 x (List.mem_of_getElem? hx)
      have hw := fun o => act_write w wr w.heap.size w.heap.size l k x hx H200.out (Nat.le_refl _) hbs HK.out.1 HK.out.2.1 HK.out.2.2 o
      obtain ⟨a', cap', hv, _⟩ := hbs
      rw [hv] at c2 hw
      obtain ⟨bl, hbl⟩ : ∃ bl, bl = x.bs.length := ⟨_, rfl⟩
      obtain ⟨E, hE⟩ : ∃ E, E = writeE (runW (l.take k)) x.n x.bs.length := ⟨_, rfl⟩
      rw [← hE, ← hbl] at hw
      rw [← hbl] at c2
      have HW := Lib.hid hw
      have hkl : (k : Int) < (len : Int) := by omega
      clear hbl hE hw hv hc hx
      go_wp2_with fail
      refine (HW.out _).mono ?_
      rintro e w3 ⟨rfl, h1, h2, h3⟩
      have HE := Lib.hid (And.intro h1 (And.intro h2 h3))
      clear h1 h2 h3
      go_wp2_with fail
      exact ⟨⟨k + 1, by omega, by go_num, HE.out⟩, by simp [intOf]; omega⟩
    · have hkk : k = len := by omega
      have hs0 : DiskAt wr w.heap.size w.heap.size (runW l) := by have := HK.out.1; rw [hkk, HL.out, List.take_length] at this; exact this
      have hp := runW_plain l
      have hle : (runW l).l.length ≤ 100000 := by have := runW_length l; have := H200.out; omega
      obtain ⟨s, hs⟩ : ∃ s, s = runW l := ⟨_, rfl⟩
      rw [← hs] at hs0 hp hle
      have HH := Lib.hid (show All w wr w.heap.size [(w.heap.size, s)] [] from ⟨HK.out.2.1, HK.out.2.1.size, fun p hp => by simp at hp; subst hp; exact hs0, fun p hp => by cases hp⟩)
      obtain ⟨bsD, hbD⟩ : ∃ x, x = readB s sector := ⟨_, rfl⟩
      obtain ⟨ED, hED⟩ : ∃ x, x = readE s sector := ⟨_, rfl⟩
      obtain ⟨M1, hM1⟩ : ∃ M : Int, M = if n < 0 then 0 else n := ⟨_, rfl⟩
      obtain ⟨M2, hM2⟩ : ∃ M : Int, M = if m < 0 then 0 else m := ⟨_, rfl⟩
      obtain ⟨M3, hM3⟩ : ∃ M : Int, M = if M2 < M1 then M2 else M1 := ⟨_, rfl⟩
      obtain ⟨l1, hl1⟩ : ∃ x, x = s.l.take (brought n s.l.length) := ⟨_, rfl⟩
      obtain ⟨lA, hlA⟩ : ∃ x, x = l1.take (brought m l1.length) := ⟨_, rfl⟩
      have hl1e : l1.length ≤ 100000 := by rw [hl1, List.length_take]; omega
      have hlA2 : lA = s.l.take (brought M3 s.l.length) := by rw [hlA, hl1]; exact cut_cut s.l n m M1 M2 M3 hM1 hM2 hM3
      obtain ⟨sA, hsA⟩ : ∃ x : St, x = ⟨lA, false, 0, false⟩ := ⟨_, rfl⟩
      obtain ⟨sF, hsF⟩ : ∃ x : St, x = ⟨s.l, false, 0, false⟩ := ⟨_, rfl⟩
      obtain ⟨bsA, hbA⟩ : ∃ x, x = readB sA sector := ⟨_, rfl⟩
      obtain ⟨EA, hEA⟩ : ∃ x, x = readE sA sector := ⟨_, rfl⟩
      obtain ⟨L, hL⟩ : ∃ L, L = s.l.length := ⟨_, rfl⟩
      obtain ⟨LA, hLA⟩ : ∃ L, L = sA.l.length := ⟨_, rfl⟩
      have rD := Lib.hid (fun w' db (hd : DiskAt w' w.heap.size db s) => k_readE w' w.heap.size db s sector bsD ED hd hbD.symm hED.symm)
      have rF := Lib.hid (fun w' db (hd : DiskAt w' w.heap.size db sF) => k_readE w' w.heap.size db sF sector bsD ED hd (by rw [hbD]; exact (read_same (by rw [hsF]) (by rw [hsF]; exact hp.2.symm) sector).1) (by rw [hED]; exact (read_same (by rw [hsF]) (by rw [hsF]; exact hp.2.symm) sector).2))
      have rA := Lib.hid (fun w' db (hd : DiskAt w' w.heap.size db sA) => k_readE w' w.heap.size db sA sector bsA EA hd hbA.symm hEA.symm)
      have cN := Lib.hid (fun w' db (hd : DiskAt w' w.heap.size db s) => cut_any w' w.heap.size db s n hd hle)
      have cM := Lib.hid (fun w' db (hd : DiskAt w' w.heap.size db ⟨l1, false, 0, false⟩) => cut_any w' w.heap.size db ⟨l1, false, 0, false⟩ m hd hl1e)
      have cK := Lib.hid (fun w' db (hd : DiskAt w' w.heap.size db s) => cut_any w' w.heap.size db s M3 hd hle)
      have cL := Lib.hid (fun w' db (hd : DiskAt w' w.heap.size db s) => cut_any w' w.heap.size db s L hd hle)
      have wD := Lib.hid (fun w' db (hd : DiskAt w' w.heap.size db s) => writes_any w' w.heap.size db s hd)
      have wF := Lib.hid (fun w' db (hd : DiskAt w' w.heap.size db sF) => writes_any w' w.heap.size db sF hd)
      have wA := Lib.hid (fun w' db (hd : DiskAt w' w.heap.size db sA) => writes_any w' w.heap.size db sA hd)
      rw [← hl1] at cN
      rw [← hlA] at cM
      rw [← hlA2] at cK
      rw [← hL] at cL wD
      rw [← hLA] at wA
      have e1 : sF.l.length = L := by rw [hsF, hL]
      rw [e1] at wF
      have e2 : s.l.take (brought (L : Int) L) = s.l := by rw [brought_all, hL, List.take_length]
      rw [e2] at cL
      have HSA := Lib.hid hsA
      have HSF := Lib.hid hsF
      have hM1' : (if n < 0 then 0 else n) = M1 := hM1.symm
      have hM2' : (if m < 0 then 0 else m) = M2 := hM2.symm
      have hM3' : (if M2 < M1 then M2 else M1) = M3 := hM3.symm
      clear hs hs0 hp hle hbD hED hM1 hM2 hM3 hl1 hlA hl1e hlA2 hsA hsF hbA hEA hL hLA e1 e2 hkk
      go_wp2_with fail
      refine (rD.out _ _ (HH.out.disk w.heap.size s (by simp))).mono ?_
      rintro e w2 ⟨a1, c1, rfl, hby, hb⟩
      have K2 := Lib.hid ((HH.out.step hb).addBytes hby)
      clear hby hb
      go_wp2_with fail
      refine (cN.out _ _ (K2.out.disk w.heap.size s (by simp))).mono ?_
      rintro e w3 ⟨d1, rfl, hd, hb⟩
      have K3 := Lib.hid ((K2.out.step hb).addDisk K2.out.2.1 hd)
      clear hd hb
      go_wp2_with fail
      refine (cM.out _ _ (K3.out.disk d1 ⟨l1, false, 0, false⟩ (by simp))).mono ?_
      rintro e w4 ⟨dA, rfl, hd, hb⟩
      rw [← HSA.out] at hd
      have K4 := Lib.hid ((K3.out.step hb).addDisk K3.out.2.1 hd)
      clear hd hb
      go_wp2_with fail
      refine (cK.out _ _ (K4.out.disk w.heap.size s (by simp))).mono ?_
      rintro e w5 ⟨dB, rfl, hd, hb⟩
      rw [← HSA.out] at hd
      have K5 := Lib.hid ((K4.out.step hb).addDisk K4.out.2.1 hd)
      clear hd hb
      go_wp2_with fail
      refine (wD.out _ _ (K5.out.disk w.heap.size s (by simp))).mono ?_
      rintro e w' ⟨rfl, rfl⟩
      go_wp2_with fail
      refine (cL.out _ _ (K5.out.disk w.heap.size s (by simp))).mono ?_
      rintro e w6 ⟨dF, rfl, hd, hb⟩
      rw [← HSF.out] at hd
      have K6 := Lib.hid ((K5.out.step hb).addDisk K5.out.2.1 hd)
      clear hd hb
      go_wp2_with fail
      refine (wA.out _ _ (K6.out.disk dA sA (by simp))).mono ?_
      rintro e w' ⟨rfl, rfl⟩
      go_wp2_with fail
      refine (wA.out _ _ (K6.out.disk dB sA (by simp))).mono ?_
      rintro e w' ⟨rfl, rfl⟩
      go_wp2_with fail
      refine (wF.out _ _ (K6.out.disk dF sF (by simp))).mono ?_
      rintro e w' ⟨rfl, rfl⟩
      go_wp2_with fail
      refine (wD.out _ _ (K6.out.disk w.heap.size s (by simp))).mono ?_
      rintro e w' ⟨rfl, rfl⟩
      go_wp2_with fail
      refine (rA.out _ _ (K6.out.disk dA sA (by simp))).mono ?_
      rintro e w7 ⟨a2, c2, rfl, hby, hb⟩
      have K7 := Lib.hid ((K6.out.step hb).addBytes hby)
      clear hby hb
      go_wp2_with fail
      refine (rA.out _ _ (K7.out.disk dB sA (by simp))).mono ?_
      rintro e w8 ⟨a3, c3, rfl, hby, hb⟩
      have K8 := Lib.hid ((K7.out.step hb).addBytes hby)
      clear hby hb
      go_wp2_with fail
      refine (rF.out _ _ (K8.out.disk dF sF (by simp))).mono ?_
      rintro e w9 ⟨a4, c4, rfl, hby, hb⟩
      have K9 := Lib.hid ((K8.out.step hb).addBytes hby)
      clear hby hb
      go_wp2_with fail
      refine (rD.out _ _ (K9.out.disk w.heap.size s (by simp))).mono ?_
      rintro e w10 ⟨a5, c5, rfl, hby, hb⟩
      have K10 := Lib.hid ((K9.out.step hb).addBytes hby)
      clear hby hb
      have t1 := conv_text w10 w.heap.size a1 bsD.length c1 bsD (K10.out.byte (.slice a1 bsD.length c1) bsD (by simp))
      have t2 := conv_text w10 w.heap.size a2 bsA.length c2 bsA (K10.out.byte (.slice a2 bsA.length c2) bsA (by simp))
      have t3 := conv_text w10 w.heap.size a3 bsA.length c3 bsA (K10.out.byte (.slice a3 bsA.length c3) bsA (by simp))
      have t4 := conv_text w10 w.heap.size a4 bsD.length c4 bsD (K10.out.byte (.slice a4 bsD.length c4) bsD (by simp))
      have t5 := conv_text w10 w.heap.size a5 bsD.length c5 bsD (K10.out.byte (.slice a5 bsD.length c5) bsD (by simp))
      obtain ⟨TD, hTD⟩ : ∃ T, T = textOf bsD := ⟨_, rfl⟩
      obtain ⟨TA, hTA⟩ : ∃ T, T = textOf bsA := ⟨_, rfl⟩
      rw [← hTD] at t1 t4 t5
      rw [← hTA] at t2 t3
      clear hTD hTA
      go_wp2_with fail
      refine (wakes_any _).mono ?_
      rintro e w11 ⟨rfl, hb⟩
      have HB := Lib.hid (K10.out.1.trans (hb.mono K10.out.2.1))
      clear hb
      go_wp2_with fail
      go_ret
      exact ⟨rfl, HB.out⟩

theorem cuts_any (w : World) (a : Option Addr) (cap : Nat) (l : List Act) (n m sector : Int) (h : ActsAt w w.heap.size a l) :
    Calls Try.prog 4 #[.slice a l.length cap, .int .i64 n, .int .i64 m, .int .i64 sector] w fun e w' => e = .returned (.bool true) ∧ Below w.heap.size w w' := by
  cases hg : greatB l 0 0
  · exact cuts_small w a cap l n m sector h hg
  · exact cuts_great w a cap l n m sector h hg

end Go.Proofs.Ytbhdelfiaaodmaa
