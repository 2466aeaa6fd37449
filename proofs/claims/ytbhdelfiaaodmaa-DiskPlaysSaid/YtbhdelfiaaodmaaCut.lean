/-
  What Cut does: of no disk, and of a disk that lies where it is said to lie.
-/
import Derived.Test.YtbhdelfiaaodmaaRead
import Derived.StillTailTactics
namespace Go.Proofs.Ytbhdelfiaaodmaa
open Go.RowKit
open Extern.Stop (cell)

attribute [local go_sem ↓] loadW loadS loadWS wpLoadW wpLoadS wpLoadWS allocW wpAllocW storeW wpStoreW
attribute [local go_sem] headB_ptr isAt_ptr aggC_agg isAggOf_agg wZ_size wZ_one freeRow_alloc setRow_alloc_at blk_alloc_new

theorem row_get : ∀ (l : List Wr) (_ : ∀ x ∈ l, x.good) (k : Nat) (x : Wr) (_ : l[k]? = some x) (j : Nat) (v : Value) (_ : x.cells[j]? = some v), (rowOf l)[k * 65 + j]? = some v
  | [], _, k, x, hk, _, _, _ => by simp at hk
  | a :: l, hl, 0, x, hk, j, v, hj => by
    obtain rfl : a = x := by simpa using hk
    have hlt : j < a.cells.length := (List.getElem?_eq_some_iff.1 hj).1
    simp only [rowOf, List.flatMap_cons, Nat.zero_mul, Nat.zero_add]
    rw [List.getElem?_append_left hlt]; exact hj
  | a :: l, hl, k + 1, x, hk, j, v, hj => by
    have ih := row_get l (fun y hy => hl y (List.mem_cons_of_mem _ hy)) k x (by simpa using hk) j v hj
    have hc : a.cells.length = 65 := length_cells (hl a (List.mem_cons_self ..))
    simp only [rowOf, List.flatMap_cons]
    rw [List.getElem?_append_right (by omega), hc, show (k + 1) * 65 + j - 65 = k * 65 + j by omega]; exact ih

set_option maxRecDepth 100000 in
set_option maxHeartbeats 400000 in
/-- The first k writes of a row, put into another disk that has none: that disk, behind them. -/
theorem replay_any (w : World) (B db : Nat) (g cap n ob : Nat) (cur : Array Value) (l : List Wr) (hl : ∀ x ∈ l, x.good) (hlen : l.length ≤ 100000) (hn : n ≤ l.length)
    (hg : w.heap[g]? = some (.cells cur 54 (0, 0))) (hgB : g < B) (hcur : cur.toList.take (l.length * 65) = rowOf l) (h : DiskAt w B db St.fresh)
    (ho : w.heap[ob]? = some (.cells #[.pointer (some ⟨db, 0, none⟩)] 25 (0, 0))) :
    Calls Try.prog 25 #[.slice (some ⟨g, 0, none⟩) n cap, .pointer (some ⟨ob, 0, none⟩)] w fun e w' => e = .returned (.tuple #[]) ∧ DiskAt w' B db ⟨l.take n, false, 0, false⟩ ∧ Below B w w' ∧ Stays w w' := by
  have hgs := lt_of_heap hg
  have hn2 : (n : Int) ≤ 100000 := by omega
  have HL := Lib.hid (And.intro hl (And.intro hlen (And.intro hn (And.intro hgB hcur))))
  have HG := Lib.hid hg
  have HO := Lib.hid ho
  have HD := Lib.hid h
  have hnl : n ≤ 100000 := by omega
  clear hl hlen hn hgB hcur hg ho h
  go_enter Try.func25, Try.ntmps25
  go_wp2
  go_loopw [7] (fun i wr => ∃ k : Nat, k ≤ n ∧ i = .int .i64 k ∧ DiskAt wr B db ⟨l.take k, false, 0, false⟩ ∧ Below B w wr ∧ Stays w wr) (fun i _ => n - (intOf i).toNat)
  case atStart => exact ⟨0, Nat.zero_le _, rfl, by simpa [St.fresh] using HD.out, Below.refl _ _, Stays.refl _⟩
  case round =>
    obtain ⟨k, hk, rfl, hdk, hbk, hsk⟩ := hrel
    have HK := Lib.hid (And.intro hdk (And.intro hbk hsk))
    clear hdk hbk hsk
    by_cases hlt : k < n
    · obtain ⟨x, hx⟩ : ∃ x, l[k]? = some x := ⟨l[k]'(by have := HL.out.2.2.1; omega), List.getElem?_eq_getElem _⟩
      have hgood : x.good := HL.out.1 x (List.mem_of_getElem? hx)
      have hgw : wr.heap[g]? = some (.cells cur 54 (0, 0)) := (HK.out.2.1.block g HL.out.2.2.2.1).trans HG.out
      have hc : wr.rangeAt g (k * 65) x.cells := fun j v hj => by
        rw [cell_of_row wr g _ _ _ _ hgw]
        have h1 := row_get l HL.out.1 k x hx j v hj
        rw [← HL.out.2.2.2.2, List.getElem?_take] at h1
        split at h1
        · simpa using h1
        · cases h1
      have hi : (Try.prog.info? 54).map (·.size) = some x.cells.length := by rw [length_cells hgood]; exact Try.sizeW
      have how : wr.heap[ob]? = some (.cells #[.pointer (some ⟨db, 0, none⟩)] 25 (0, 0)) := HK.out.2.2 _ _ HO.out rfl
      have hco : wr.cell? ⟨ob, 0, none⟩ = some (.pointer (some ⟨db, 0, none⟩)) := cell_of_one how
      have hobl := lt_of_heap how
      obtain ⟨XA, hXA⟩ : ∃ XA, XA = x.cells.toArray := ⟨_, rfl⟩
      have hXs : XA.size = 65 := by rw [hXA]; simpa using length_cells hgood
      have hX1 : allOne XA = true := by rw [hXA]; exact all_oneCell_toArray (oneCell_cells x)
      have htake : l.take (k + 1) = l.take k ++ [x] := by
        rw [List.take_add_one, hx]; rfl
      have hput : Calls Try.prog 24 #[.pointer (some ⟨db, 0, none⟩), .agg XA] (wr.alloc (.cells XA 54)) fun e w' => e = .returned (.tuple #[]) ∧ DiskAt w' B db ⟨l.take (k + 1), false, 0, false⟩ ∧ Below B w w' ∧ Stays w w' := by
        rw [hXA]
        have hB' : B ≤ wr.heap.size := Nat.le_trans HK.out.1.1 (Nat.le_of_lt HK.out.1.lt)
        refine (put_any _ B db _ x (HK.out.1.alloc _) hgood (by simp; have := HL.out.2.1; omega)).mono fun e w' ⟨he, h1, h2, h3⟩ => ⟨he, ?_, ((HK.out.2.1.alloc hB' _).trans h2), ((HK.out.2.2.alloc _).trans h3)⟩
        rw [htake]; exact h1
      have HP := Lib.hid hput
      have HC := Lib.hid hc
      have HI := Lib.hid hi
      have HX := Lib.hid hXA
      clear hput hc hi hgw how hx hgood htake hXA
      go_wp2_with (first
        | (with_reducible refine wpList_load_mid rfl 54 (.tmp 9) rfl g (k * 65) rfl x.cells _ HC.out Try.underlying54 rfl HI.out ?_; rw [← HX.out])
        | (go_at_call 24; refine HP.out.mono ?_; rintro e w3 ⟨rfl, hend⟩; have HEND := Lib.hid hend; clear hend))
      exact ⟨⟨k + 1, by omega, by go_num, HEND.out⟩, by simp [intOf]; omega⟩
    · go_wp2
      go_end0
      obtain rfl : k = n := by omega
      exact ⟨rfl, HK.out⟩

set_option maxHeartbeats 400000 in
theorem replay_none (w : World) (a : Option Addr) (cap : Nat) (c : Value) : Calls Try.prog 25 #[.slice a 0 cap, c] w fun e w' => e = .returned (.tuple #[]) ∧ w = w' := by
  go_enter Try.func25, Try.ntmps25
  go_wp2
  refine wp_loop_rounds 1 ?_
  rw [rounds_succ]
  go_wp2
  go_end0
  exact ⟨rfl, rfl⟩

set_option maxRecDepth 100000 in
set_option maxHeartbeats 400000 in
theorem cut_nil (w : World) (n : Int) : Calls Try.prog 14 #[.pointer none, .int .i64 n] w fun e w' => ∃ db, e = .returned (.pointer (some ⟨db, 0, none⟩)) ∧ DiskAt w' w.heap.size db St.fresh ∧ Below w.heap.size w w' := by
  go_enter Try.func14, Try.ntmps14
  go_wp2_with (go_at_call 9; refine (new_any _).mono ?_; rintro e w1 ⟨rfl, hd, hb, hs⟩; have HD := Lib.hid (And.intro hd hb); have HS := Lib.hid hs; clear hd hb hs)
  go_ret
  exact ⟨_, rfl, HD.out.1.alloc _, HD.out.2.alloc (by have := HS.out; omega) _⟩

/-- Which number n is brought to. -/
def brought (n : Int) (len : Nat) : Nat := (min (max n 0) (len : Int)).toNat
theorem brought_le (n : Int) (len : Nat) : brought n len ≤ len := by unfold brought; omega

theorem cut_take {w : World} {B : Nat} {g cap len : Nat} {xs : List Value} (ho : w.ownsRow B 54 65 (.slice (some ⟨g, 0, none⟩) len cap) len xs) : ∃ cur, w.heap[g]? = some (.cells cur 54 (0, 0)) ∧ cur.toList.take (len * 65) = xs ∧ len ≤ cap := by
  rcases ho.2 with ⟨hv, _⟩ | ⟨g', cap', cur, hv, _, hh, hc, _, _, ht⟩
  · cases hv
  · cases hv; exact ⟨cur, hh, ht, hc⟩

/-- 'replay' as Cut calls it. -/
theorem replay_cut (w w1 : World) (B : Nat) (s : St) (a : Option Addr) (cap k : Nat) (hgood : ∀ y ∈ s.l, y.good) (hm : s.l.length ≤ 100000) (ho : w.ownsRow B 54 65 (.slice a s.l.length cap) s.l.length (rowOf s.l)) (hk : k ≤ s.l.length)
    (hd : DiskAt w1 w.heap.size w.heap.size St.fresh) (hb : Below w.heap.size w w1) (hs : w1.heap.size = w.heap.size + 1) (cap' : Nat) :
    Calls Try.prog 25 #[.slice a k cap', .pointer (some ⟨w1.heap.size, 0, none⟩)] (w1.alloc (.cells #[.pointer (some ⟨w.heap.size, 0, none⟩)] 25)).drew fun e w' => e = .returned (.tuple #[]) ∧ DiskAt w' w.heap.size w.heap.size ⟨s.l.take k, false, 0, false⟩ ∧ Below w.heap.size w w' ∧ w'.cell? ⟨w1.heap.size, 0, none⟩ = some (.pointer (some ⟨w.heap.size, 0, none⟩)) := by
  have hb2 : Below w.heap.size w (w1.alloc (.cells #[.pointer (some ⟨w.heap.size, 0, none⟩)] 25)).drew := (hb.alloc (by omega) _).drew
  have hd2 : DiskAt (w1.alloc (.cells #[.pointer (some ⟨w.heap.size, 0, none⟩)] 25)).drew w.heap.size w.heap.size St.fresh := (hd.alloc _).drew
  have hob : (w1.alloc (.cells #[.pointer (some ⟨w.heap.size, 0, none⟩)] 25)).drew.heap[w1.heap.size]? = some (.cells #[.pointer (some ⟨w.heap.size, 0, none⟩)] 25 (0, 0)) := heap_alloc_new w1 _
  rcases Nat.eq_zero_or_pos k with hk0 | hk0
  · subst hk0
    refine (replay_none _ a cap' _).mono fun e w' ⟨he, hw⟩ => ?_
    subst hw
    exact ⟨he, by simpa [St.fresh] using hd2, hb2, cell_of_one hob⟩
  · obtain ⟨g, hg⟩ : ∃ g, a = some ⟨g, 0, none⟩ := by
      rcases ho.2 with ⟨hv, h0⟩ | ⟨g, cap', cur, hv, _⟩
      · omega
      · cases hv; exact ⟨g, rfl⟩
    subst hg
    obtain ⟨cur, hcur, htake, _⟩ := cut_take ho
    refine (replay_any _ w.heap.size w.heap.size g cap' k w1.heap.size cur s.l hgood hm hk ((hb2.block g (lt_of_heap hcur)).trans hcur) (lt_of_heap hcur) htake hd2 hob).mono fun e w' ⟨he, h1, h2, h3⟩ => ⟨he, h1, hb2.trans h2, cell_of_one (h3 _ _ hob rfl)⟩

theorem slice_len {w : World} {B : Nat} {a : Option Addr} {len cap : Nat} {xs : List Value} (ho : w.ownsRow B 54 65 (.slice a len cap) len xs) : len ≤ cap := by
  rcases ho.2 with ⟨hv, h0⟩ | ⟨g, cap', cur, hv, _, _, hc, _⟩
  · cases hv; omega
  · cases hv; exact hc

def CutEnd (w : World) (l : List Wr) (e : Ending) (w' : World) : Prop := ∃ db', e = .returned (.pointer (some ⟨db', 0, none⟩)) ∧ DiskAt w' w.heap.size db' ⟨l, false, 0, false⟩ ∧ Below w.heap.size w w'

set_option maxRecDepth 100000 in
set_option maxHeartbeats 1000000 in
theorem cut_any (w : World) (B db : Nat) (s : St) (n : Int) (h : DiskAt w B db s) (hm : s.l.length ≤ 100000) : Calls Try.prog 14 #[.pointer (some ⟨db, 0, none⟩), .int .i64 n] w (CutEnd w (s.l.take (brought n s.l.length))) := by
  obtain ⟨mv, v, hmap, ho, c0, c1, c2, c3, c4, hf⟩ := h.cells
  have hgood : ∀ y ∈ s.l, y.good := by obtain ⟨_, _, _, _, _, hg, _⟩ := h; exact hg
  have hlt := h.lt
  obtain ⟨a, cap, rfl⟩ := slice_of_owns ho
  have hcap := slice_len ho
  obtain ⟨len, hlen⟩ : ∃ len, len = s.l.length := ⟨_, rfl⟩
  have hk := brought_le n s.l.length
  obtain ⟨M, hM⟩ : ∃ M : Int, M = if n < 0 then 0 else n := ⟨_, rfl⟩
  have hMk : (if (len : Int) < M then (len : Int) else M) = (brought n s.l.length : Nat) := by
    rw [hM, hlen]; unfold brought
    split <;> split <;> omega
  have hM' : (if n < 0 then 0 else n) = M := hM.symm
  obtain ⟨k, hkk⟩ : ∃ k, k = brought n s.l.length := ⟨_, rfl⟩
  rw [← hkk] at hk hMk
  rw [← hkk]
  have HH := Lib.hid (fun w1 cap' h1 h2 h3 => replay_cut w w1 B s a cap k hgood hm ho hk h1 h2 h3 cap')
  rw [← hlen] at c1 hm hk hcap
  have hn0 : (0 : Int) ≤ (k : Int) := by omega
  have hnl : (k : Int) ≤ (len : Int) := by omega
  have hnc : (k : Int) ≤ (cap : Int) := by omega
  clear hM hkk
  clear hmap c0 c2 c3 c4 hf h ho hgood hlen
  go_enter Try.func14, Try.ntmps14
  go_wp2_with (go_at_call 9; refine (new_any _).mono ?_; rintro e w1 ⟨rfl, hd, hb, hs⟩; have HD := Lib.hid (And.intro hd hb); have HS := Lib.hid hs; have c1w := hb.cell (p := ⟨db, 1, none⟩) hlt; rw [c1] at c1w; have hlt1 := Nat.lt_of_lt_of_eq (Nat.lt_succ_of_lt hlt) hs.symm; clear hd hb hs)
  obtain ⟨W, hW⟩ : ∃ W : World, W = w1.alloc (.cells #[.pointer (some ⟨w.heap.size, 0, none⟩)] 25) := ⟨_, rfl⟩
  have cW : W.drew.cell? ⟨db, 1, none⟩ = some (.slice a len cap) := by rw [hW]; exact (World.cell?_of_block (w := w1) (Below.heap_alloc w1 _ db hlt1)).trans c1w
  rw [← hW]
  have HW := Lib.hid hW; clear hW
  have hdr : ({ heap := W.heap, tape := W.tape, drawn := W.drawn + 1, os := W.os, output := W.output } : World) = W.drew := rfl
  refine wp_region_still_tail 14 (by kernel_rfl) (by kernel_rfl) ?_
  simp only [List.take_succ_cons, List.take_zero, List.drop_succ_cons, List.drop_zero]
  rw [hdr]
  obtain ⟨W2, hW2⟩ : ∃ W2, W2 = W.drew := ⟨_, rfl⟩
  rw [← hW2] at cW
  rw [← hW2]
  have HW2 := Lib.hid hW2
  clear hW2 hdr
  repeat still_step
  try refine wpStill_nil ?_
  rw [HW2.out, HW.out]
  go_wp2_with (go_at_call 25; refine (HH.out w1 _ HD.out.1 HD.out.2 HS.out).mono ?_; rintro e w3 ⟨rfl, h1, h2, h3⟩; have HE := Lib.hid (And.intro h1 h2); clear h1 h2)
  go_ret
  exact ⟨_, rfl, HE.out⟩

end Go.Proofs.Ytbhdelfiaaodmaa
