/-
  DiskLast: the walk: it answers true for every row of acts and every number, and turns nothing that was there. No condition but that the acts lie where they are said to lie.
-/
import Derived.Test.YtbhdelfiaaodmaaCutsWalk
namespace Go.Proofs.Ytbhdelfiaaodmaa
open Go.RowKit
open Extern.Stop (cell)

theorem act_stays (w wr : World) (B db : Nat) (l : List Act) (k : Nat) (x : Act) (hx : l[k]? = some x) (hl : l.length ≤ 200) (hBw : B ≤ w.heap.size) (hb : BytesAt w B x.v x.bs) (hd : DiskAt wr B db (runW (l.take k))) (hbel : Below B w wr) (hst : Stays w wr) (o : Obj) :
    Calls Try.prog 10 #[.pointer (some ⟨db, 0, none⟩), .int .i64 x.n, x.v] (wr.alloc o) fun e w' => e = .returned (.int .i64 (writeE (runW (l.take k)) x.n x.bs.length)) ∧ DiskAt w' B db (runW (l.take (k + 1))) ∧ Below B w w' ∧ Stays w w' ∧ Stays (wr.alloc o) w' := by
  have hB' : B ≤ wr.heap.size := Nat.le_trans hBw hbel.size
  have hk := (List.getElem?_eq_some_iff.1 hx).1
  have h1 : (runW (l.take k)).l.length ≤ 100000 := by
    have := runW_length (l.take k)
    rw [List.length_take] at this; omega
  refine (write_any (wr.alloc o) B db (runW (l.take k)) x.n x.v x.bs (hb.kept (hbel.alloc hB' o) (hst.alloc o)) (hd.alloc o) h1 (runW_ok _)).mono fun e w' ⟨he, h2, h3, h4⟩ => ⟨he, ?_, (hbel.alloc hB' o).trans h3, (hst.alloc o).trans h4, h4⟩
  rw [runW_take hx]; exact h2

/-- May a write be made, of a disk that is up and not armed? -/
def goodW (n : Int) (len : Nat) : Bool := decide (0 ≤ n) && decide (n < 2049) && decide (len ≤ 64)
theorem writeE_plain {s : St} (h : s.armed = false ∧ s.down = false) (n : Int) (len : Nat) : writeE s n len = if goodW n len then 0 else 2 := by
  unfold writeE goodW
  simp only [h.1, h.2, Bool.false_eq_true, if_false, false_and]
  by_cases hc : n < 0 ∨ 2049 ≤ n ∨ 64 < len
  · rw [if_pos hc, if_neg]; simp; omega
  · rw [if_neg hc, if_pos]; simp; omega
theorem writeS_bad {s : St} (h : s.armed = false ∧ s.down = false) (n : Int) (bs : List UInt8) (hg : goodW n bs.length = false) : (writeS s n bs).l = s.l := by
  have hc : n < 0 ∨ 2049 ≤ n ∨ 64 < bs.length := by simp [goodW] at hg; omega
  unfold writeS
  simp only [h.1, h.2, Bool.false_eq_true, if_false, false_and, hc, if_true]
theorem writeS_good {s : St} (h : s.armed = false ∧ s.down = false) (n : Int) (bs : List UInt8) (hg : goodW n bs.length = true) : (writeS s n bs).l = s.l ++ [⟨n, pad bs⟩] := by
  have hc : ¬ (n < 0 ∨ 2049 ≤ n ∨ 64 < bs.length) := by simp [goodW] at hg; omega
  unfold writeS
  simp only [h.1, h.2, Bool.false_eq_true, if_false, false_and, hc, St.add]

/-- What 'want' is. -/
def wantAt (w : World) (B : Nat) (bs : List UInt8) (v : Value) : Prop := ∃ g, v = .slice (some ⟨g, 0, none⟩) 64 64 ∧ B ≤ g ∧ w.heap[g]? = some (.cells (bs.map cell).toArray 5 (0, 0))
theorem wantAt.stays {w w' : World} {B : Nat} {bs : List UInt8} {v : Value} (h : wantAt w B bs v) (hs : Stays w w') : wantAt w' B bs v := by
  obtain ⟨g, e, hB, hg⟩ := h
  exact ⟨g, e, hB, hs _ _ hg rfl⟩
theorem splice_pad0 (bs : List UInt8) : splice (zeros.map cell) 0 (bs.map cell) = (pad bs).map cell := by
  simp only [splice, pad, zeros, List.take_zero, List.nil_append, List.map_append, List.length_map, List.map_replicate, List.drop_replicate, Nat.zero_add]

set_option maxRecDepth 100000 in
set_option maxHeartbeats 400000 in
theorem last_great (w : World) (a : Option Addr) (cap : Nat) (l : List Act) (sector : Int) (h : ActsAt w w.heap.size a l) (hg : greatB l 0 0 = true ∨ sector < 0 ∨ 2049 ≤ sector) :
    Calls Try.prog 5 #[.slice a l.length cap, .int .i64 sector] w fun e w' => e = .returned (.bool true) ∧ Below w.heap.size w w' := by
  have hgr := great_any w _ a cap l h
  have end_ : ∀ (b : Bool), (b = true ∨ sector < 0 ∨ 2049 ≤ sector) → greatB l 0 0 = b → Calls Try.prog 5 #[.slice a l.length cap, .int .i64 sector] w fun e w' => e = .returned (.bool true) ∧ Below w.heap.size w w' := fun b hb e => by
    rw [e] at hgr
    have HG := Lib.hid hgr
    clear hgr hg h e
    cases b
    · have hb' : sector < 0 ∨ 2049 ≤ sector := by simpa using hb
      clear hb
      rcases hb' with hs | hs
      · have hs' : decide (sector < 0) = true := by simpa using hs
        go_enter Try.func5, Try.ntmps5
        go_wp2_with fail
        refine HG.out.mono ?_
        rintro e w' ⟨rfl, rfl⟩
        go_wp2_with fail
        refine (wakes_any _).mono ?_
        rintro e w1 ⟨rfl, hb⟩
        have HB := Lib.hid hb
        clear hb
        go_wp2_with fail
        go_ret
        exact ⟨rfl, HB.out⟩
      · have hs0 : ¬ sector < 0 := by omega
        go_enter Try.func5, Try.ntmps5
        go_wp2_with fail
        refine HG.out.mono ?_
        rintro e w' ⟨rfl, rfl⟩
        go_wp2_with fail
        refine (wakes_any _).mono ?_
        rintro e w1 ⟨rfl, hb⟩
        have HB := Lib.hid hb
        clear hb
        go_wp2_with fail
        go_ret
        exact ⟨rfl, HB.out⟩
    · clear hb
      go_enter Try.func5, Try.ntmps5
      go_wp2_with fail
      refine HG.out.mono ?_
      rintro e w' ⟨rfl, rfl⟩
      go_wp2_with fail
      refine (wakes_any _).mono ?_
      rintro e w1 ⟨rfl, hb⟩
      have HB := Lib.hid hb
      clear hb
      go_wp2_with fail
      go_ret
      exact ⟨rfl, HB.out⟩
  exact end_ _ hg rfl

/-- What a copy to place off of block q asks of its source. -/
def CopyAt (W : World) (q off : Nat) (a : Option Addr) (bs : List UInt8) : Prop :=
  0 < (bs.map cell).length → some (⟨q, off, none⟩ : Addr) = some ⟨q, off, none⟩ ∧ ∃ ad, a = some ad ∧ ∀ (j : Nat) (u : Value), (bs.map cell)[j]? = some u → W.cell? (ad.add j) = some u
theorem CopyAt.out {W : World} {q off : Nat} {a : Option Addr} {bs : List UInt8} (h : CopyAt W q off a bs) :
    0 < (bs.map cell).length → some (⟨q, off, none⟩ : Addr) = some ⟨q, off, none⟩ ∧ ∃ ad, a = some ad ∧ ∀ (j : Nat) (u : Value), (bs.map cell)[j]? = some u → W.cell? (ad.add j) = some u := h
theorem copyAt_of {W : World} {B q off len cap : Nat} {a : Option Addr} {bs : List UInt8} (h : BytesAt W B (.slice a len cap) bs) : CopyAt W q off a bs := fun hp => by
  obtain ⟨a', cap', e, hc⟩ := h
  cases e
  obtain ⟨ad, ea, _, hu⟩ := hc (by simpa using hp)
  exact ⟨rfl, ad, ea, hu⟩
theorem cells_one (bs : List UInt8) : ∀ u ∈ bs.map cell, u.oneCell' = true := by simp only [List.mem_map]; rintro u ⟨b, _, rfl⟩; rfl

theorem make64 (w : World) : (Instr.makeSlice 31 (.int .i64 64) (.int .i64 64)).run Try.prog w = .ok (.slice (some ⟨w.heap.size, 0, none⟩) 64 64) (w.alloc (.cells (zeros.map cell).toArray 5)) := by kernel_rfl

set_option maxRecDepth 100000 in
set_option maxHeartbeats 2000000 in
theorem last_small (w : World) (a : Option Addr) (cap : Nat) (l : List Act) (sector : Int) (h : ActsAt w w.heap.size a l) (hg : greatB l 0 0 = false) (hs0 : 0 ≤ sector) (hs1 : sector < 2049) :
    Calls Try.prog 5 #[.slice a l.length cap, .int .i64 sector] w fun e w' => e = .returned (.bool true) ∧ Below w.heap.size w w' := by
  have hgr := great_any w _ a cap l h
  rw [hg] at hgr
  have hl200 : l.length ≤ 200 := by have := greatB_length l 0 0 (by omega) hg; omega
  obtain ⟨len, hlen⟩ : ∃ len, len = l.length := ⟨_, rfl⟩
  rw [← hlen] at hgr
  rw [← hlen]
  have hlen2 : len ≤ 200 := by omega
  have HG := Lib.hid hgr
  have HL := Lib.hid hlen
  have HA := Lib.hid h
  have H200 := Lib.hid hl200
  obtain ⟨ZA, hZA⟩ : ∃ ZA, ZA = (zeros.map cell).toArray := ⟨_, rfl⟩
  have hmk := make64
  rw [← hZA] at hmk
  have HZ := Lib.hid hZA
  have h5 : (Try.prog.info? 5).map (·.size) = some 1 := by kernel_rfl
  clear hgr hg h hlen hl200 hZA
  go_enter Try.func5, Try.ntmps5
  go_wp2_with fail
  refine HG.out.mono ?_
  rintro e w' ⟨rfl, rfl⟩
  go_wp2_with fail
  refine (new_any _).mono ?_
  rintro e w1 ⟨rfl, hd, hb, hs⟩
  have H1 := Lib.hid (And.intro hd (And.intro hb (show w.heap.size ≤ w1.heap.size by omega)))
  clear hd hb hs
  go_wp2_with fail
  go_loopw [6, 26] (fun v i wr => ∃ k : Nat, k ≤ len ∧ i = .int .i64 k ∧ wantAt wr w.heap.size (sect (runW (l.take k)).l sector) v ∧ DiskAt wr w.heap.size w.heap.size (runW (l.take k)) ∧ Below w.heap.size w wr ∧ Stays w wr) (fun _ i _ => len - (intOf i).toNat)
  case atStart =>
    refine ⟨0, Nat.zero_le _, rfl, ⟨w1.heap.size, rfl, H1.out.2.2, ?_⟩, by simpa [runW] using H1.out.1.alloc _, H1.out.2.1.alloc H1.out.2.2 _, (Stays.below H1.out.2.1).alloc _⟩
    rw [HZ.out]
    exact heap_alloc_new w1 _
  case round =>
    obtain ⟨k, hk, rfl, hwant, hdk, hbk, hsk⟩ := hrel
    have HK := Lib.hid (And.intro hdk (And.intro hbk hsk))
    have HWA := Lib.hid hwant
    have HAK := Lib.hid (HA.out.kept hbk hsk)
    obtain ⟨gw, rfl, _, _⟩ := hwant
    clear hdk hbk hsk
    by_cases hlt : k < len
    · obtain ⟨x, hx⟩ : ∃ x, l[k]? = some x := ⟨l[k]'(by have := HL.out; omega), List.getElem?_eq_getElem _⟩
      obtain ⟨b, off, ha, _, hc⟩ := HAK.out.1 (by have := HL.out; omega)
      subst ha
      obtain ⟨c0, c1, c2⟩ := hc k x hx
      have hbs := HA.out.2 x (List.mem_of_getElem? hx)
      have hw := fun o => act_stays w wr w.heap.size w.heap.size l k x hx H200.out (Nat.le_refl _) hbs HK.out.1 HK.out.2.1 HK.out.2.2 o
      have hp := runW_plain (l.take k)
      have hbad := writeS_bad hp x.n x.bs
      have hgood := writeS_good hp x.n x.bs
      rw [← runW_take hx] at hbad hgood
      rw [writeE_plain hp] at hw
      have HBS := Lib.hid hbs
      obtain ⟨a', cap', hv, _⟩ := hbs
      rw [hv] at c2 hw
      obtain ⟨bl, hbl⟩ : ∃ bl, bl = x.bs.length := ⟨_, rfl⟩
      rw [← hbl] at c2 hw hbad hgood
      have HV := Lib.hid hv
      have HBL := Lib.hid hbl
      have hkl : (k : Int) < (len : Int) := by omega
      clear hbl hv hc hx hp
      cases hgw : goodW x.n bl
      · have hsame := hbad hgw
        rw [hgw] at hw
        simp only [Bool.false_eq_true, if_false] at hw
        have HS := Lib.hid hsame
        have HW := Lib.hid hw
        clear hsame hw hgw hbad hgood
        go_wp2_with fail
        refine (HW.out _).mono ?_
        rintro e w3 ⟨rfl, h1, h2, h3, h4⟩
        have HE := Lib.hid (And.intro h1 (And.intro h2 h3))
        have HST := Lib.hid h4
        clear h1 h2 h3 h4
        go_wp2_with fail
        exact ⟨⟨k + 1, by omega, by go_num, by rw [HS.out]; exact (HWA.out.stays (Stays.alloc (Stays.refl _) _)).stays HST.out, HE.out⟩, by simp [intOf]; omega⟩
      · have hsame := hgood hgw
        rw [hgw] at hw
        simp only [if_true] at hw
        have HS := Lib.hid hsame
        have HW := Lib.hid hw
        have hbl64 : bl ≤ 64 := by simp [goodW] at hgw; omega
        clear hsame hw hgw hbad hgood
        cases hxs : (x.n == sector)
        · go_wp2_with fail
          refine (HW.out _).mono ?_
          rintro e w3 ⟨rfl, h1, h2, h3, h4⟩
          have HE := Lib.hid (And.intro h1 (And.intro h2 h3))
          have HST := Lib.hid h4
          have hq : w3.heap[wr.heap.size]? = some (.cells #[.int .i64 x.kind, .int .i64 x.n, .slice a' bl cap'] 33 (0, 0)) := h4 _ _ (heap_alloc_new wr _) rfl
          have e1 : w3.cell? ⟨wr.heap.size, 1, none⟩ = some (.int .i64 x.n) := by rw [cell_of_row w3 _ 1 _ _ _ hq]; rfl
          have HXS := Lib.hid hxs
          clear h1 h2 h3 h4 hq
          go_wp2_with fail
          exact ⟨⟨k + 1, by omega, by go_num, by rw [HS.out, sect_snoc, if_neg (by simpa using HXS.out)]; exact (HWA.out.stays (Stays.alloc (Stays.refl _) _)).stays HST.out, HE.out⟩, by simp [intOf]; omega⟩
        · go_wp2_with fail
          refine (HW.out _).mono ?_
          rintro e w3 ⟨rfl, h1, h2, h3, h4⟩
          have HE := Lib.hid (And.intro h1 (And.intro h2 h3))
          have HST := Lib.hid h4
          have hq : w3.heap[wr.heap.size]? = some (.cells #[.int .i64 x.kind, .int .i64 x.n, .slice a' bl cap'] 33 (0, 0)) := h4 _ _ (heap_alloc_new wr _) rfl
          have hqlt := lt_of_heap hq
          have e1 : w3.cell? ⟨wr.heap.size, 1, none⟩ = some (.int .i64 x.n) := by rw [cell_of_row w3 _ 1 _ _ _ hq]; rfl
          have e2 : w3.cell? ⟨wr.heap.size, 2, none⟩ = some (.slice a' bl cap') := by rw [cell_of_row w3 _ 2 _ _ _ hq]; rfl
          have HXS := Lib.hid hxs
          have hB3 : w.heap.size ≤ w3.heap.size := h2.size
          have hc1 : CopyAt (w3.alloc (.cells ZA 5)) w3.heap.size 0 a' x.bs := by
            have := HBS.out.kept (h2.alloc hB3 (.cells ZA 5)) (h3.alloc (.cells ZA 5))
            rw [HV.out] at this
            exact copyAt_of this
          have hc2 : (w3.alloc (.cells ZA 5)).heap[w3.heap.size]? = some (.cells (zeros.map cell).toArray 5 (0, 0)) := by rw [HZ.out]; exact heap_alloc_new w3 _
          have hc3 : (x.bs.map cell).length = Nat.min bl 64 := by rw [List.length_map, ← HBL.out]; simp [Nat.min_def]; omega
          have hc4 : 0 + (x.bs.map cell).length ≤ (zeros.map cell).length := by simp [zeros, ← HBL.out]; omega
          have hc5 : Below w3.heap.size w3 (w3.alloc (.cells ZA 5)) := (Below.refl _ _).alloc (Nat.le_refl _) _
          have HC := Lib.hid (And.intro hc1 (And.intro hc2 (And.intro hc3 (And.intro hc4 hc5))))
          clear h1 h2 h3 h4 hq hc1 hc2 hc3 hc4 hc5
          go_wp2_with (with_reducible refine wpList_copy_splice rfl (.tmp 44) (.tmp 46) 31 31 rfl 5 Try.underlying31 h5 (some ⟨w3.heap.size, 0, none⟩) a' 64 64 bl cap' rfl rfl w3.heap.size 0 (zeros.map cell) 5 HC.out.2.1 (x.bs.map cell) HC.out.2.2.1 HC.out.1.out HC.out.2.2.2.1 (cells_one x.bs) w3.heap.size w3 HC.out.2.2.2.2 (Nat.le_refl _) ?_; intro w4 HG2 HB2; have HB3 := Lib.hid HB2; clear HB2)
          exact ⟨⟨k + 1, by omega, by go_num, ⟨w3.heap.size, rfl, hB3, by rw [HS.out, sect_snoc, if_pos (by simpa using HXS.out), HG2.out, splice_pad0]⟩, HE.out.1.below HB3.out, HE.out.2.1.trans (HB3.out.mono hB3), HE.out.2.2.trans (Stays.below HB3.out)⟩, by simp [intOf]; omega⟩
    · have hkk : k = len := by omega
      have hd0 := HK.out.1
      have hw0 := HWA.out
      rw [hkk, HL.out, List.take_length] at hd0 hw0
      have hp := runW_plain l
      obtain ⟨s, hs⟩ : ∃ s, s = runW l := ⟨_, rfl⟩
      rw [← hs] at hd0 hp hw0
      have HD := Lib.hid hd0
      have hgoodl : ∀ y ∈ s.l, y.good := by obtain ⟨_, _, _, _, _, hg, _⟩ := hd0; exact hg
      have hlen64 := sect_length s.l hgoodl sector
      obtain ⟨bs, hbs⟩ : ∃ x, x = sect s.l sector := ⟨_, rfl⟩
      have hrb : readB s sector = bs := by
        have : ¬ (sector < 0 ∨ 2049 ≤ sector) := by omega
        unfold readB; rw [hp.2]; simp [this, hbs]
      have hre : readE s sector = 0 := by
        have : ¬ (sector < 0 ∨ 2049 ≤ sector) := by omega
        unfold readE; rw [hp.2]; simp [this]
      rw [← hbs] at hw0 hlen64
      have hr := k_readE wr w.heap.size w.heap.size s sector bs 0 hd0 hrb hre
      have HR := Lib.hid hr
      obtain ⟨g, eg, hgB, hgw⟩ := hw0
      cases eg
      have hwant : BytesAt wr w.heap.size (.slice (some ⟨gw, 0, none⟩) 64 64) bs := by
        rw [← hlen64]
        exact ⟨some ⟨gw, 0, none⟩, bs.length, rfl, fun _ => ⟨_, rfl, Or.inr ⟨_, hgw, rfl⟩, fun j u hj => by
          have hadd : (⟨gw, 0, none⟩ : Addr).add j = ⟨gw, j, none⟩ := by unfold Addr.add; split <;> simp_all
          rw [hadd, cell_of_row _ gw j _ _ _ hgw]; simpa using hj⟩⟩
      have HWB := Lib.hid hwant
      have H64 := Lib.hid hlen64
      obtain ⟨T, hT⟩ : ∃ T, T = textOf bs := ⟨_, rfl⟩
      have HT := Lib.hid hT
      clear hs hd0 hp hgoodl hbs hrb hre hr hgw hgB hwant hlen64 hkk hT
      go_wp2_with fail
      refine HR.out.mono ?_
      rintro e w2 ⟨a1, c1, rfl, hby, hb⟩
      have t1 := conv_text w2 w.heap.size a1 bs.length c1 bs hby
      have t2 := conv_text w2 w.heap.size (some ⟨gw, 0, none⟩) 64 64 bs (HWB.out.later HK.out.2.1.size hb)
      rw [← HT.out] at t1 t2
      have HB := Lib.hid (HK.out.2.1.trans (hb.mono HK.out.2.1.size))
      clear hby hb
      go_wp2_with fail
      refine (wakes_any _).mono ?_
      rintro e w3 ⟨rfl, hb⟩
      have HB2 := Lib.hid (HB.out.trans (hb.mono HB.out.size))
      clear hb
      go_wp2_with fail
      go_ret
      exact ⟨rfl, HB2.out⟩

theorem last_any (w : World) (a : Option Addr) (cap : Nat) (l : List Act) (sector : Int) (h : ActsAt w w.heap.size a l) :
    Calls Try.prog 5 #[.slice a l.length cap, .int .i64 sector] w fun e w' => e = .returned (.bool true) ∧ Below w.heap.size w w' := by
  cases hg : greatB l 0 0
  · by_cases hs : sector < 0 ∨ 2049 ≤ sector
    · exact last_great w a cap l sector h (Or.inr hs)
    · exact last_small w a cap l sector h hg (by omega) (by omega)
  · exact last_great w a cap l sector h (Or.inl hg)

end Go.Proofs.Ytbhdelfiaaodmaa
