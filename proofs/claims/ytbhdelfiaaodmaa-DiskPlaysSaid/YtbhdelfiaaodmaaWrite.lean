/-
  What Write does: to no disk, and to a disk that lies where it is said to lie.
-/
import Derived.Test.YtbhdelfiaaodmaaPut
namespace Go.Proofs.Ytbhdelfiaaodmaa
open Go.RowKit
open Extern.Stop (cell)

set_option maxHeartbeats 400000 in
theorem write_nil (w : World) (n : Int) (b : Value) : Calls Try.prog 10 #[.pointer none, .int .i64 n, b] w fun e w' => e = .returned (.int .i64 1) ∧ w = w' := by
  go_enter Try.func10, Try.ntmps10
  go_wp2_with (go_at_call 22; refine (ready_nil _).mono ?_; rintro e w' ⟨rfl, rfl⟩)
  go_ret
  exact ⟨rfl, rfl⟩

set_option maxHeartbeats 400000 in
theorem write_down (w : World) (db : Nat) (n : Int) (b : Value) (c4 : w.cell? ⟨db, 4, none⟩ = some (.bool true)) : Calls Try.prog 10 #[.pointer (some ⟨db, 0, none⟩), .int .i64 n, b] w fun e w' => e = .returned (.int .i64 5) ∧ w = w' := by
  go_enter Try.func10, Try.ntmps10
  go_wp2_with (go_at_call 22; refine (ready_down _ _ c4).mono ?_; rintro e w' ⟨rfl, rfl⟩)
  go_ret
  exact ⟨rfl, rfl⟩

set_option maxHeartbeats 400000 in
theorem write_nowhere (w : World) (db : Nat) (n : Int) (hn : n < 0 ∨ 2049 ≤ n) (b : Value) (c4 : w.cell? ⟨db, 4, none⟩ = some (.bool false)) : Calls Try.prog 10 #[.pointer (some ⟨db, 0, none⟩), .int .i64 n, b] w fun e w' => e = .returned (.int .i64 2) ∧ w = w' := by
  have HN := Lib.hid hn; clear hn
  go_enter Try.func10, Try.ntmps10
  go_wp2_with (first | (go_at_call 22; refine (ready_up _ _ c4).mono ?_; rintro e w' ⟨rfl, rfl⟩) | (go_at_call 23; refine (isSector_no _ _ HN.out).mono ?_; rintro e w' ⟨rfl, rfl⟩))
  go_ret
  exact ⟨rfl, rfl⟩

set_option maxHeartbeats 400000 in
theorem write_much (w : World) (db : Nat) (n : Int) (h0 : 0 ≤ n) (h1 : n < 2049) (a : Option Addr) (len cap : Nat) (hl : (64 : Int) < (len : Int)) (c4 : w.cell? ⟨db, 4, none⟩ = some (.bool false)) : Calls Try.prog 10 #[.pointer (some ⟨db, 0, none⟩), .int .i64 n, .slice a len cap] w fun e w' => e = .returned (.int .i64 2) ∧ w = w' := by
  go_enter Try.func10, Try.ntmps10
  go_wp2_with (first | (go_at_call 22; refine (ready_up _ _ c4).mono ?_; rintro e w' ⟨rfl, rfl⟩) | (go_at_call 23; refine (isSector_yes _ _ h0 h1).mono ?_; rintro e w' ⟨rfl, rfl⟩))
  go_ret
  exact ⟨rfl, rfl⟩

set_option maxHeartbeats 400000 in
theorem write_spent (w : World) (db : Nat) (n : Int) (h0 : 0 ≤ n) (h1 : n < 2049) (a : Option Addr) (len cap : Nat) (hl : (len : Int) ≤ 64) (mv v : Value)
    (hb : w.heap[db]? = some (.cells #[mv, v, .bool true, .int .i64 0, .bool false] 49 (0, 0))) :
    Calls Try.prog 10 #[.pointer (some ⟨db, 0, none⟩), .int .i64 n, .slice a len cap] w fun e w' => e = .returned (.int .i64 5) ∧ Turned w w' db #[mv, v, .bool true, .int .i64 0, .bool true] 49 := by
  have c2 : w.cell? ⟨db, 2, none⟩ = some (.bool true) := by simp [cell_of_row w db _ _ _ _ hb]
  have c3 : w.cell? ⟨db, 3, none⟩ = some (.int .i64 0) := by simp [cell_of_row w db _ _ _ _ hb]
  have c4 : w.cell? ⟨db, 4, none⟩ = some (.bool false) := by simp [cell_of_row w db _ _ _ _ hb]
  have f4 : w.frozen? ⟨db, 4, none⟩ = false := frozen_of_row w db 4 _ _ hb
  have ht := Turned.refl hb
  clear hb
  go_enter Try.func10, Try.ntmps10
  go_wp2_with (first | (go_at_call 22; refine (ready_up _ _ c4).mono ?_; rintro e w' ⟨rfl, rfl⟩) | (go_at_call 23; refine (isSector_yes _ _ h0 h1).mono ?_; rintro e w' ⟨rfl, rfl⟩))
  go_ret
  exact ⟨rfl, ht.setCell 4 (.bool true)⟩

/-- The bytes that a slice holds, in memory that no disk from block B on turns. -/
def BytesAt (w : World) (B : Nat) (v : Value) (bs : List UInt8) : Prop :=
  ∃ (a : Option Addr) (cap : Nat), v = .slice a bs.length cap ∧ (0 < bs.length → ∃ ad, a = some ad ∧ (ad.block < B ∨ ∃ o, w.heap[ad.block]? = some o ∧ diskObj o = false) ∧ ∀ (j : Nat) (u : Value), (bs.map cell)[j]? = some u → w.cell? (ad.add j) = some u)
theorem cell_lt {w : World} {a : Addr} {v : Value} (h : w.cell? a = some v) : a.block < w.heap.size := by
  unfold World.cell? at h
  split at h
  · rename_i hb; exact lt_of_heap hb
  · cases h
theorem add_block (a : Addr) (j : Nat) : (a.add j).block = a.block := by unfold Addr.add; split <;> rfl
theorem BytesAt.kept {w w' : World} {B : Nat} {v : Value} {bs : List UInt8} (h : BytesAt w B v bs) (hb : Below B w w') (hs : Stays w w') : BytesAt w' B v bs := by
  obtain ⟨a, cap, e, hc⟩ := h
  refine ⟨a, cap, e, fun h0 => ?_⟩
  obtain ⟨ad, ea, hd, hu⟩ := hc h0
  rcases hd with hd | ⟨o, ho, hd⟩
  · exact ⟨ad, ea, Or.inl hd, fun j u hj => by rw [World.cell?_of_block (w := w) (by rw [add_block]; exact hb.block _ hd)]; exact hu j u hj⟩
  · exact ⟨ad, ea, Or.inr ⟨o, hs _ o ho hd, hd⟩, fun j u hj => by rw [World.cell?_of_block (w := w) (by rw [add_block, hs _ o ho hd, ho])]; exact hu j u hj⟩
def pad (bs : List UInt8) : List UInt8 := bs ++ List.replicate (64 - bs.length) 0
theorem pad_length {bs : List UInt8} (h : bs.length ≤ 64) : (pad bs).length = 64 := by simp [pad]; omega
theorem splice_pad (n : Int) (bs : List UInt8) : splice (wZ n).toList 1 (bs.map cell) = (Wr.mk n (pad bs)).cells := by
  simp only [splice, wZ, Wr.cells, pad, zeros, List.take_succ_cons, List.take_zero, List.map_replicate, List.length_map, List.map_append, List.cons_append, List.nil_append]
  rw [show 1 + bs.length = bs.length + 1 by omega, List.drop_succ_cons, List.drop_replicate]

attribute [local go_sem ↓] loadW loadS loadWS wpLoadW wpLoadS wpLoadWS buildW1 wpBuildW1 allocW wpAllocW storeW wpStoreW
attribute [local go_sem] headB_ptr isAt_ptr aggC_agg isAggOf_agg isI64_int intOf_int wZ_size wZ_one freeRow_alloc setRow_alloc_at blk_alloc_new

/-- What the copy asks of its source. -/
def CopyPos (W : World) (q : Nat) (a : Option Addr) (bs : List UInt8) : Prop :=
  0 < (bs.map cell).length → some (⟨q, 1, none⟩ : Addr) = some ⟨q, 1, none⟩ ∧ ∃ ad, a = some ad ∧ ∀ (j : Nat) (u : Value), (bs.map cell)[j]? = some u → W.cell? (ad.add j) = some u

theorem CopyPos.out {W : World} {q : Nat} {a : Option Addr} {bs : List UInt8} (h : CopyPos W q a bs) :
    0 < (bs.map cell).length → some (⟨q, 1, none⟩ : Addr) = some ⟨q, 1, none⟩ ∧ ∃ ad, a = some ad ∧ ∀ (j : Nat) (u : Value), (bs.map cell)[j]? = some u → W.cell? (ad.add j) = some u := h

/-- What 'Write' leaves, where it writes. -/
def WriteEnd (w : World) (B db : Nat) (s : St) (x : Wr) (w' : World) : Prop := DiskAt w' B db (s.add x) ∧ Below B w w' ∧ Stays w w'
theorem write_end {w w1 w2 w3 : World} {B db : Nat} {s : St} {x : Wr} (h1 : Below B w w1 ∧ Stays w w1) (hd : B ≤ w1.heap.size) (h2 : Below w1.heap.size w1 w2) (h3 : PutEnd w2 B db s x w3) : WriteEnd w B db s x w3 :=
  ⟨h3.1, (h1.1.trans (h2.mono hd)).trans h3.2.1, (h1.2.trans (Stays.below h2)).trans h3.2.2⟩

set_option maxRecDepth 100000 in
set_option maxHeartbeats 1000000 in
theorem write_free (w : World) (B db : Nat) (s : St) (n : Int) (h0 : 0 ≤ n) (h1 : n < 2049) (vb : Value) (bs : List UInt8) (hvb : BytesAt w B vb bs) (hl : bs.length ≤ 64) (h : DiskAt w B db s) (hm : s.l.length ≤ 100000) (ha : s.armed = false) (hd : s.down = false) :
    Calls Try.prog 10 #[.pointer (some ⟨db, 0, none⟩), .int .i64 n, vb] w fun e w' => e = .returned (.int .i64 0) ∧ WriteEnd w B db s ⟨n, pad bs⟩ w' := by
  obtain ⟨mv, v, hmap, ho, c0, c1, c2, c3, c4, hf⟩ := h.cells
  have hb := h.cellsAt c0 c1
  rw [ha] at c2
  rw [hd] at c4
  have hT : DiskAt w B db s ∧ Below B w w ∧ Stays w w := ⟨h, Below.refl B w, Stays.refl w⟩
  obtain ⟨s1, hs1⟩ : ∃ s1 : St, s1 = s := ⟨_, rfl⟩
  rw [← hs1] at hT
  rw [← hs1]
  have hm1 : s1.l.length ≤ 100000 := by rw [hs1]; exact hm
  have hsz : w.heap.size = w.heap.size := rfl
  have hBw : B ≤ w.heap.size := Nat.le_trans h.1 (Nat.le_of_lt h.lt)
  have hv1 := (hvb.kept (w' := (w.alloc (.cells (wZ n) 54))) (hT.2.1.alloc (by rw [hsz]; exact hBw) _) (Stays.alloc hT.2.2 _))
  have hg1 : (w.alloc (.cells (wZ n) 54)).heap[w.heap.size]? = some (.cells (wZ n).toList.toArray 54 (0, 0)) := by
    have := heap_alloc_new w (.cells (wZ n) 54)
    rw [hsz] at this
    simpa using this
  have hb1 : Below w.heap.size w (w.alloc (.cells (wZ n) 54)) := (Below.refl _ _).alloc (by rw [hsz]; exact Nat.le_refl _) _
  obtain ⟨a, cap, rfl, hcells⟩ := hvb
  have hpos : CopyPos (w.alloc (.cells (wZ n) 54)) w.heap.size a bs := fun hp => by
    obtain ⟨a', cap', e, hc⟩ := hv1
    cases e
    obtain ⟨ad, ea, _, hu⟩ := hc (by simpa using hp)
    exact ⟨rfl, ad, ea, hu⟩
  have h5 : (Try.prog.info? 5).map (·.size) = some 1 := by kernel_rfl
  have hnn : (bs.map cell).length = Nat.min bs.length 64 := by simp [Nat.min_def]; omega
  have hfit : 1 + (bs.map cell).length ≤ (wZ n).toList.length := by have := wZ_size n; simp; omega
  have h1c : ∀ u ∈ bs.map cell, u.oneCell' = true := by simp only [List.mem_map]; rintro u ⟨b, _, rfl⟩; rfl
  obtain ⟨XA, hXA⟩ : ∃ XA, XA = (Wr.mk n (pad bs)).cells.toArray := ⟨_, rfl⟩
  have hXs : XA.size = 65 := by rw [hXA]; simpa using length_cells (x := ⟨n, pad bs⟩) ⟨pad_length hl, h0, h1⟩
  have hspl : (splice (wZ n).toList 1 (bs.map cell)).toArray = XA := by rw [hXA, splice_pad]
  have hput : ∀ w2, Below w.heap.size w w2 → w2.heap[w.heap.size]? = some (.cells XA 54 (0, 0)) → Calls Try.prog 24 #[.pointer (some ⟨db, 0, none⟩), .agg XA] w2 fun e w' => e = .returned (.tuple #[]) ∧ WriteEnd w B db s1 ⟨n, pad bs⟩ w' := fun w2 hb2 _ => by
    rw [hXA]
    exact (put_any w2 B db s1 ⟨n, pad bs⟩ (hT.1.below (by rw [hsz]; exact hb2)) ⟨pad_length hl, h0, h1⟩ hm1).mono fun e w' ⟨he, hp⟩ => ⟨he, write_end ⟨hT.2.1, hT.2.2⟩ (by rw [hsz]; exact hBw) (by rw [hsz]; exact hb2) hp⟩
  have HPUT := Lib.hid hput
  have HSPL := Lib.hid hspl
  have HV := Lib.hid (And.intro hg1 (And.intro hb1 (And.intro hpos (And.intro hnn (And.intro hfit h1c)))))
  have hll : ¬ (64 : Int) < (bs.length : Int) := by omega
  clear hput hspl hg1 hb1 hpos hnn hfit h1c hv1 hT hs1 hm1 hsz hXA hcells h hmap ho c0 c1 hb hf hm ha hd hl hBw c3
  go_enter Try.func10, Try.ntmps10
  go_wp2_with (first
    | (go_at_call 22; refine (ready_up _ _ c4).mono ?_; rintro e w' ⟨rfl, rfl⟩)
    | (go_at_call 23; refine (isSector_yes _ _ h0 h1).mono ?_; rintro e w' ⟨rfl, rfl⟩)
    | (with_reducible refine wpList_copy_splice rfl (.tmp 50) (.tmp 51) 31 31 rfl 5 Try.underlying31 h5 (some ⟨w.heap.size, 1, none⟩) a 64 64 bs.length cap rfl rfl w.heap.size 1 (wZ n).toList 54 HV.out.1 (bs.map cell) HV.out.2.2.2.1 HV.out.2.2.1.out HV.out.2.2.2.2.1 HV.out.2.2.2.2.2 w.heap.size w HV.out.2.1 (Nat.le_refl _) ?_; intro w2 HG2 HB2; have HG3 := Lib.hid (show w2.heap[w.heap.size]? = some (.cells XA 54 (0, 0)) by rw [HG2.out, HSPL.out]); have hB2 := Lib.hid HB2; have hbk := blk_of HG3.out; clear HB2 HG2)
    | (go_at_call 24; refine (HPUT.out _ hB2.out HG3.out).mono ?_; rintro e w3 ⟨rfl, hend⟩; have HEND := Lib.hid hend; clear hend))
  go_ret
  exact ⟨rfl, HEND.out⟩

set_option maxRecDepth 100000 in
set_option maxHeartbeats 1000000 in
theorem write_armed (w : World) (B db : Nat) (s : St) (n : Int) (h0 : 0 ≤ n) (h1 : n < 2049) (vb : Value) (bs : List UInt8) (hvb : BytesAt w B vb bs) (hl : bs.length ≤ 64) (h : DiskAt w B db s) (hm : s.l.length ≤ 100000) (ha : s.armed = true) (hk0 : 0 < s.left) (hk1 : s.left ≤ 1073741824) (hd : s.down = false) :
    Calls Try.prog 10 #[.pointer (some ⟨db, 0, none⟩), .int .i64 n, vb] w fun e w' => e = .returned (.int .i64 0) ∧ WriteEnd w B db ⟨s.l, true, s.left - 1, false⟩ ⟨n, pad bs⟩ w' := by
  obtain ⟨mv, v, hmap, ho, c0, c1, c2, c3, c4, hf⟩ := h.cells
  have hb := h.cellsAt c0 c1
  rw [ha] at c2
  rw [hd] at c4
  have f3 := hf 3
  have hkk : (s.left == 0) = false := by simp; omega
  rw [ha, hd] at hb
  have hT := h.turned c0 c1 (a := true) (d := false) (n := s.left - 1) ((Turned.refl hb).setCell 3 (.int .i64 (s.left - 1)))
  obtain ⟨k, hk⟩ : ∃ k, k = s.left := ⟨_, rfl⟩
  rw [← hk] at c3 hkk hk0 hk1 hT
  rw [← hk]
  obtain ⟨s1, hs1⟩ : ∃ s1 : St, s1 = ⟨s.l, true, k - 1, false⟩ := ⟨_, rfl⟩
  rw [← hs1] at hT
  rw [← hs1]
  have hm1 : s1.l.length ≤ 100000 := by rw [hs1]; exact hm
  have hsz : (w.setCell ⟨db, 3, none⟩ (.int .i64 (k - 1))).heap.size = w.heap.size := by simp [World.setCell]
  have hBw : B ≤ w.heap.size := Nat.le_trans h.1 (Nat.le_of_lt h.lt)
  have hv1 := (hvb.kept (w' := ((w.setCell ⟨db, 3, none⟩ (.int .i64 (k - 1))).alloc (.cells (wZ n) 54))) (hT.2.1.alloc (by rw [hsz]; exact hBw) _) (Stays.alloc hT.2.2 _))
  have hg1 : ((w.setCell ⟨db, 3, none⟩ (.int .i64 (k - 1))).alloc (.cells (wZ n) 54)).heap[w.heap.size]? = some (.cells (wZ n).toList.toArray 54 (0, 0)) := by
    have := heap_alloc_new (w.setCell ⟨db, 3, none⟩ (.int .i64 (k - 1))) (.cells (wZ n) 54)
    rw [hsz] at this
    simpa using this
  have hb1 : Below w.heap.size (w.setCell ⟨db, 3, none⟩ (.int .i64 (k - 1))) ((w.setCell ⟨db, 3, none⟩ (.int .i64 (k - 1))).alloc (.cells (wZ n) 54)) := (Below.refl _ _).alloc (by rw [hsz]; exact Nat.le_refl _) _
  obtain ⟨a, cap, rfl, hcells⟩ := hvb
  have hpos : CopyPos ((w.setCell ⟨db, 3, none⟩ (.int .i64 (k - 1))).alloc (.cells (wZ n) 54)) w.heap.size a bs := fun hp => by
    obtain ⟨a', cap', e, hc⟩ := hv1
    cases e
    obtain ⟨ad, ea, _, hu⟩ := hc (by simpa using hp)
    exact ⟨rfl, ad, ea, hu⟩
  have h5 : (Try.prog.info? 5).map (·.size) = some 1 := by kernel_rfl
  have hnn : (bs.map cell).length = Nat.min bs.length 64 := by simp [Nat.min_def]; omega
  have hfit : 1 + (bs.map cell).length ≤ (wZ n).toList.length := by have := wZ_size n; simp; omega
  have h1c : ∀ u ∈ bs.map cell, u.oneCell' = true := by simp only [List.mem_map]; rintro u ⟨b, _, rfl⟩; rfl
  obtain ⟨XA, hXA⟩ : ∃ XA, XA = (Wr.mk n (pad bs)).cells.toArray := ⟨_, rfl⟩
  have hXs : XA.size = 65 := by rw [hXA]; simpa using length_cells (x := ⟨n, pad bs⟩) ⟨pad_length hl, h0, h1⟩
  have hspl : (splice (wZ n).toList 1 (bs.map cell)).toArray = XA := by rw [hXA, splice_pad]
  have hput : ∀ w2, Below w.heap.size (w.setCell ⟨db, 3, none⟩ (.int .i64 (k - 1))) w2 → w2.heap[w.heap.size]? = some (.cells XA 54 (0, 0)) → Calls Try.prog 24 #[.pointer (some ⟨db, 0, none⟩), .agg XA] w2 fun e w' => e = .returned (.tuple #[]) ∧ WriteEnd w B db s1 ⟨n, pad bs⟩ w' := fun w2 hb2 _ => by
    rw [hXA]
    exact (put_any w2 B db s1 ⟨n, pad bs⟩ (hT.1.below (by rw [hsz]; exact hb2)) ⟨pad_length hl, h0, h1⟩ hm1).mono fun e w' ⟨he, hp⟩ => ⟨he, write_end ⟨hT.2.1, hT.2.2⟩ (by rw [hsz]; exact hBw) (by rw [hsz]; exact hb2) hp⟩
  have HPUT := Lib.hid hput
  have HSPL := Lib.hid hspl
  have HV := Lib.hid (And.intro hg1 (And.intro hb1 (And.intro hpos (And.intro hnn (And.intro hfit h1c)))))
  have hll : ¬ (64 : Int) < (bs.length : Int) := by omega
  clear hput hspl hg1 hb1 hpos hnn hfit h1c hv1 hT hs1 hm1 hsz hXA hcells h hmap ho c0 c1 hb hf hm ha hd hl hBw hk
  go_enter Try.func10, Try.ntmps10
  go_wp2_with (first
    | (go_at_call 22; refine (ready_up _ _ c4).mono ?_; rintro e w' ⟨rfl, rfl⟩)
    | (go_at_call 23; refine (isSector_yes _ _ h0 h1).mono ?_; rintro e w' ⟨rfl, rfl⟩)
    | (with_reducible refine wpList_copy_splice rfl (.tmp 50) (.tmp 51) 31 31 rfl 5 Try.underlying31 h5 (some ⟨w.heap.size, 1, none⟩) a 64 64 bs.length cap rfl rfl w.heap.size 1 (wZ n).toList 54 HV.out.1 (bs.map cell) HV.out.2.2.2.1 HV.out.2.2.1.out HV.out.2.2.2.2.1 HV.out.2.2.2.2.2 w.heap.size (w.setCell ⟨db, 3, none⟩ (.int .i64 (k - 1))) HV.out.2.1 (Nat.le_refl _) ?_; intro w2 HG2 HB2; have HG3 := Lib.hid (show w2.heap[w.heap.size]? = some (.cells XA 54 (0, 0)) by rw [HG2.out, HSPL.out]); have hB2 := Lib.hid HB2; have hbk := blk_of HG3.out; clear HB2 HG2)
    | (go_at_call 24; refine (HPUT.out _ hB2.out HG3.out).mono ?_; rintro e w3 ⟨rfl, hend⟩; have HEND := Lib.hid hend; clear hend))
  go_ret
  exact ⟨rfl, HEND.out⟩

/-- What the numbers of a disk may be. -/
def St.ok (s : St) : Prop := s.armed = true → 0 ≤ s.left ∧ s.left ≤ 1073741824
def writeE (s : St) (n : Int) (len : Nat) : Int := if s.down then 5 else if n < 0 ∨ 2049 ≤ n ∨ 64 < len then 2 else if s.armed ∧ s.left = 0 then 5 else 0
def writeS (s : St) (n : Int) (bs : List UInt8) : St :=
  if s.down then s else if n < 0 ∨ 2049 ≤ n ∨ 64 < bs.length then s else if s.armed ∧ s.left = 0 then ⟨s.l, s.armed, s.left, true⟩ else (St.mk s.l s.armed (if s.armed then s.left - 1 else s.left) s.down).add ⟨n, pad bs⟩
theorem writeS_ok {s : St} (h : s.ok) (n : Int) (bs : List UInt8) : (writeS s n bs).ok := by
  unfold writeS
  split
  · exact h
  · split
    · exact h
    · split
      · exact h
      · rename_i hz
        intro ha
        have ha' : s.armed = true := ha
        have := h ha'
        simp only [St.add, ha', if_true]
        have : s.left ≠ 0 := fun e => hz ⟨ha', e⟩
        omega
theorem writeS_length (s : St) (n : Int) (bs : List UInt8) : (writeS s n bs).l.length ≤ s.l.length + 1 := by
  unfold writeS
  split
  · simp
  · split
    · simp
    · split
      · simp
      · simp [St.add]

theorem write_any (w : World) (B db : Nat) (s : St) (n : Int) (vb : Value) (bs : List UInt8) (hvb : BytesAt w B vb bs) (h : DiskAt w B db s) (hm : s.l.length ≤ 100000) (hok : s.ok) :
    Calls Try.prog 10 #[.pointer (some ⟨db, 0, none⟩), .int .i64 n, vb] w fun e w' => e = .returned (.int .i64 (writeE s n bs.length)) ∧ DiskAt w' B db (writeS s n bs) ∧ Below B w w' ∧ Stays w w' := by
  obtain ⟨mv, v, hmap, ho, c0, c1, c2, c3, c4, hf⟩ := h.cells
  have hb := h.cellsAt c0 c1
  cases hd : s.down
  · rw [hd] at c4 hb
    by_cases hn : n < 0 ∨ 2049 ≤ n
    · refine (write_nowhere w db n hn vb c4).mono fun e w' ⟨he, hw⟩ => ?_
      subst hw
      have hn' : n < 0 ∨ 2049 ≤ n ∨ 64 < bs.length := by omega
      simp only [writeE, writeS, hd, hn', if_true, Bool.false_eq_true, if_false]
      exact ⟨he, h, Below.refl _ _, Stays.refl _⟩
    · obtain ⟨a, cap, rfl, hc⟩ := hvb
      by_cases hl : 64 < bs.length
      · refine (write_much w db n (by omega) (by omega) a bs.length cap (by omega) c4).mono fun e w' ⟨he, hw⟩ => ?_
        subst hw
        have hn' : n < 0 ∨ 2049 ≤ n ∨ 64 < bs.length := by omega
        simp only [writeE, writeS, hd, hn', if_true, Bool.false_eq_true, if_false]
        exact ⟨he, h, Below.refl _ _, Stays.refl _⟩
      · have hn' : ¬ (n < 0 ∨ 2049 ≤ n ∨ 64 < bs.length) := by omega
        cases ha : s.armed
        · refine (write_free w B db s n (by omega) (by omega) (.slice a bs.length cap) bs ⟨a, cap, rfl, hc⟩ (by omega) h hm ha hd).mono fun e w' ⟨he, hw⟩ => ?_
          simp only [writeE, writeS, hd, hn', ha, Bool.false_eq_true, if_false, false_and]
          have e1 : s = St.mk s.l false s.left false := by cases s; simp at ha hd; simp [ha, hd]
          rw [← e1]
          exact ⟨he, hw.1, hw.2.1, hw.2.2⟩
        · rw [ha] at hb
          by_cases h0 : s.left = 0
          · rw [h0] at hb
            refine (write_spent w db n (by omega) (by omega) a bs.length cap (by omega) mv v hb).mono fun e w' ⟨he, hw⟩ => ?_
            simp only [writeE, writeS, hd, hn', ha, h0, Bool.false_eq_true, if_false, true_and, if_true]
            exact ⟨he, h.turned c0 c1 hw⟩
          · have := hok ha
            refine (write_armed w B db s n (by omega) (by omega) (.slice a bs.length cap) bs ⟨a, cap, rfl, hc⟩ (by omega) h hm ha (by omega) (by omega) hd).mono fun e w' ⟨he, hw⟩ => ?_
            simp only [writeE, writeS, hd, hn', ha, h0, Bool.false_eq_true, if_false, true_and, if_true]
            exact ⟨he, hw.1, hw.2.1, hw.2.2⟩
  · rw [hd] at c4
    refine (write_down w db n vb c4).mono fun e w' ⟨he, hw⟩ => ?_
    subst hw
    simp only [writeE, writeS, hd, if_true]
    exact ⟨he, h, Below.refl _ _, Stays.refl _⟩

end Go.Proofs.Ytbhdelfiaaodmaa
