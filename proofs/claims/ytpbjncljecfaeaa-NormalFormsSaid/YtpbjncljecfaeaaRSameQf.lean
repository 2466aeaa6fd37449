/-
  What 'SameNode' answers of two trees that lie in memory. No condition but that no row of kids is longer than a slice may be.
-/
import Derived.Test.YtpbjncljecfaeaaRWalkQf
import Derived.Test.YtpbjncljecfaeaaHPureQf
import Derived.Deep.RegionHeld3
import Derived.StillTailTactics
namespace Go.Proofs.Ytpbjncljecfaeaa
open Go.RowKit

def SameC (t u : Tr) (w : World) (e : Ending) (w' : World) : Prop := e = .returned (.bool (sameT t u)) ∧ Below w.heap.size w w'
theorem SameC.mk {t u : Tr} {w w' : World} {b : Bool} (h : sameT t u = b) (hb : Below w.heap.size w w') : SameC t u w (.returned (.bool b)) w' := ⟨by rw [h], hb⟩
theorem two_boxes (w : World) (o o' : Obj) : Below w.heap.size w ((w.alloc o).alloc o') := ((Below.refl _ _).alloc (Nat.le_refl _) _).alloc (by simp) _

set_option maxRecDepth 100000 in
set_option maxHeartbeats 1000000 in
theorem same_not (w : World) (id1 kd1 id2 kd2 : Int) (tx1 tx2 : ByteArray) (a1 a2 : Option Addr) (len1 cap1 len2 cap2 : Nat) (t u : Tr) (hs : sameT t u = false) (hd : ¬ (id1 = id2 ∧ kd1 = kd2 ∧ tx1.toList = tx2.toList ∧ len1 = len2)) :
    Calls Try.prog 34 #[.agg #[.int .i64 id1, .int .i64 kd1, .string tx1, .slice a1 len1 cap1], .agg #[.int .i64 id2, .int .i64 kd2, .string tx2, .slice a2 len2 cap2]] w (SameC t u w) := by
  have HS := Lib.hid hs
  clear hs
  by_cases h1 : id1 = id2
  · by_cases h2 : kd1 = kd2
    · by_cases h3 : tx1.toList = tx2.toList
      · have h4 : ¬ len1 = len2 := fun h => hd ⟨h1, h2, h3, h⟩
        clear hd
        subst h1; subst h2
        go_enter Try.func34, Try.ntmps34
        go_wp2_with fail
        go_ret
        exact SameC.mk HS.out (two_boxes _ _ _)
      · clear hd
        subst h1; subst h2
        go_enter Try.func34, Try.ntmps34
        go_wp2_with fail
        go_ret
        exact SameC.mk HS.out (two_boxes _ _ _)
    · clear hd
      subst h1
      go_enter Try.func34, Try.ntmps34
      go_wp2_with fail
      go_ret
      exact SameC.mk HS.out (two_boxes _ _ _)
  · clear hd
    go_enter Try.func34, Try.ntmps34
    go_wp2_with fail
    go_ret
    exact SameC.mk HS.out (two_boxes _ _ _)

/-- What holds at the head of each round. -/
def SameRound (w : World) (c1 c2 : Array Value) (len : Nat) (f g : Fo) (i : Value) (wr : World) : Prop :=
  ∃ k : Nat, k ≤ len ∧ i = .int .i64 k ∧ wr.heap[w.heap.size]? = some (.cells c1 25 (0, 0)) ∧ wr.heap[w.heap.size + 1]? = some (.cells c2 25 (0, 0)) ∧ Below w.heap.size w wr ∧ sameF f g = sameF (foDrop k f) (foDrop k g)

set_option maxRecDepth 100000 in
set_option maxHeartbeats 1000000 in
theorem same_any : ∀ (n : Nat) (w : World) (S1 S2 : Nat → Prop) (v1 v2 : Value) (t u : Tr), foSize t.kids < n → foLen t.kids ≤ 9223372036854775807 ∧ foFit t.kids → (∀ k, S1 k → k < w.heap.size) → (∀ k, S2 k → k < w.heap.size) → TrAt w S1 v1 t → TrAt w S2 v2 u →
    Calls Try.prog 34 #[v1, v2] w (SameC t u w) := by
  intro n
  induction n with
  | zero => intro w S1 S2 v1 v2 t u h; omega
  | succ n ih =>
    intro w S1 S2 v1 v2 t u hn hm hS1 hS2 hv1 hv2
    obtain ⟨ka1, cap1, rfl, _, hk1⟩ := hv1
    obtain ⟨ka2, cap2, rfl, _, hk2⟩ := hv2
    obtain ⟨id1, kd1, tx1, ks1⟩ := t
    obtain ⟨id2, kd2, tx2, ks2⟩ := u
    simp only at hk1 hk2 hn hm
    simp only
    by_cases hd : id1 = id2 ∧ kd1 = kd2 ∧ tx1.toList = tx2.toList ∧ foLen ks1 = foLen ks2
    · obtain ⟨rfl, rfl, h3, h4⟩ := hd
      have hsame : sameT ⟨id1, kd1, tx1, ks1⟩ ⟨id1, kd1, tx2, ks2⟩ = sameF ks1 ks2 := by simp [sameT, sameK, h3, h4]
      obtain ⟨len, hlen⟩ : ∃ len, len = foLen ks1 := ⟨_, rfl⟩
      rw [← h4, ← hlen]
      have HLEN := Lib.hid (And.intro hlen (hlen.trans h4))
      have HK := Lib.hid (And.intro hk1 hk2)
      have HS := Lib.hid hsame
      have hlen6 : len ≤ 9223372036854775807 := by rw [hlen]; exact hm.1
      have HN := Lib.hid (And.intro hn hm)
      have HSS := Lib.hid (And.intro hS1 hS2)
      have HIH := Lib.hid ih
      clear hlen h4 hk1 hk2 hsame hn hm hS1 hS2 ih
      go_enter Try.func34, Try.ntmps34
      go_wp2_with fail
      go_loopw [5] (fun i wr => SameRound w #[.int .i64 id1, .int .i64 kd1, .string tx1, .slice ka1 len cap1] #[.int .i64 id1, .int .i64 kd1, .string tx2, .slice ka2 len cap2] len ks1 ks2 i wr) (fun i _ => len - (intOf i).toNat)
      case atStart =>
        exact ⟨0, Nat.zero_le _, rfl, by rw [Below.heap_alloc _ _ _ (by simp)]; exact heap_alloc_new w _, by have := heap_alloc_new (w.alloc (.cells #[.int .i64 id1, .int .i64 kd1, .string tx1, .slice ka1 len cap1] 25)) (.cells #[.int .i64 id1, .int .i64 kd1, .string tx2, .slice ka2 len cap2] 25); simpa using this, two_boxes _ _ _, rfl⟩
      case round =>
        obtain ⟨k, hk, rfl, hb1, hb2, hbel, hsf⟩ := hrel
        have p1 : wr.cell? ⟨w.heap.size, 3, none⟩ = some (.slice ka1 len cap1) := by rw [cell_of_row wr _ 3 _ _ _ hb1]; rfl
        have p2 : wr.cell? ⟨w.heap.size + 1, 3, none⟩ = some (.slice ka2 len cap2) := by rw [cell_of_row wr _ 3 _ _ _ hb2]; rfl
        have HSF := Lib.hid hsf
        have HB := Lib.hid (And.intro hb1 (And.intro hb2 hbel))
        clear hb1 hb2 hbel hsf
        by_cases hlt : k < len
        · obtain ⟨W, hW⟩ : ∃ W, W = wr.drew := ⟨_, rfl⟩
          have hW0 : Below w.heap.size w W := by rw [hW]; exact below_drewN HB.out.2.2 1
          have hsz : w.heap.size ≤ W.heap.size := hW0.size
          have q1 : W.cell? ⟨w.heap.size, 3, none⟩ = some (.slice ka1 len cap1) := by rw [hW]; exact p1
          have q2 : W.cell? ⟨w.heap.size + 1, 3, none⟩ = some (.slice ka2 len cap2) := by rw [hW]; exact p2
          have hk1 := HK.out.1.below hW0 HSS.out.1
          have hk2 := HK.out.2.below hW0 HSS.out.2
          obtain ⟨b0, o0, ⟨ki, kk, kt⟩, l, r, hd1, b, off, a1, n1, rfl, hSb, c0, c1, c2, c3, hcp1, hl1⟩ := hk1.at k (by rw [← HLEN.out.1]; exact hlt)
          obtain ⟨b0', o0', ⟨ki', kk', kt'⟩, l', r', hd2, b', off', a2, n2, rfl, hSb', d0, d1, d2, d3, hcp2, hl2⟩ := hk2.at k (by rw [← HLEN.out.2]; exact hlt)
          obtain ⟨_, _, _, _, _, e1, e2, hsz1, _⟩ := foDrop_node k ks1 (by rw [← HLEN.out.1]; exact hlt)
          rw [hd1] at e1; cases e1
          obtain ⟨_, _, _, _, _, e1, e2', _, _⟩ := foDrop_node k ks2 (by rw [← HLEN.out.2]; exact hlt)
          rw [hd2] at e1; cases e1
          have hs1 : sameF ks1 ks2 = (sameT ⟨ki, kk, kt, l⟩ ⟨ki', kk', kt', l'⟩ && sameF (foDrop (k + 1) ks1) (foDrop (k + 1) ks2)) := by rw [HSF.out, hd1, hd2, e2, e2']; rfl
          have hcall := HIH.out W S1 S2 (.agg #[.int .i64 ki, .int .i64 kk, .string kt, .slice a1 (foLen l) n1]) (.agg #[.int .i64 ki', .int .i64 kk', .string kt', .slice a2 (foLen l') n2]) ⟨ki, kk, kt, l⟩ ⟨ki', kk', kt', l'⟩ (by have := HN.out.1; simp only; omega) (foFit_drop k HN.out.2.2 hd1) (fun x hx => Nat.lt_of_lt_of_le (HSS.out.1 x hx) hsz) (fun x hx => Nat.lt_of_lt_of_le (HSS.out.2 x hx) hsz) ⟨a1, n1, rfl, hcp1, hl1⟩ ⟨a2, n2, rfl, hcp2, hl2⟩
          obtain ⟨bb, hbb⟩ : ∃ bb, bb = sameT ⟨ki, kk, kt, l⟩ ⟨ki', kk', kt', l'⟩ := ⟨_, rfl⟩
          obtain ⟨m1, hm1⟩ : ∃ m, m = foLen l := ⟨_, rfl⟩
          obtain ⟨m2, hm2⟩ : ∃ m, m = foLen l' := ⟨_, rfl⟩
          rw [← hm1, ← hm2] at hcall
          rw [← hm1] at c3
          rw [← hm2] at d3
          rw [← hbb] at hs1
          simp only at c0 c1 c2 d0 d1 d2
          have HC := Lib.hid hcall
          have HS1 := Lib.hid hs1
          have HBB := Lib.hid hbb
          have HW := Lib.hid hW
          have HW0 := Lib.hid hW0
          have HBW := Lib.hid (show W.heap[w.heap.size]? = some (.cells #[.int .i64 id1, .int .i64 kd1, .string tx1, .slice (some ⟨b, off, none⟩) len cap1] 25 (0, 0)) ∧ W.heap[w.heap.size + 1]? = some (.cells #[.int .i64 id1, .int .i64 kd1, .string tx2, .slice (some ⟨b', off', none⟩) len cap2] 25 (0, 0)) by rw [hW]; exact ⟨HB.out.1, HB.out.2.1⟩)
          have hkl : (k : Int) < (len : Int) := by omega
          have hlt2 : w.heap.size + 1 < W.heap.size := lt_of_some HBW.out.2
          clear hk1 hk2 hd1 hd2 e2 e2' hs1 hcall hbb hm1 hm2 hW hW0 hsz hl1 hl2 hcp1 hcp2 hsz1 hSb hSb'
          go_wp2_with fail
          have hdr : ({ heap := wr.heap, tape := wr.tape, drawn := wr.drawn + 1, os := wr.os, output := wr.output } : World) = W := HW.out.symm
          refine wp_region_still_tail 10 (by kernel_rfl) (by kernel_rfl) ?_
          simp only [List.take_succ_cons, List.take_zero, List.drop_succ_cons, List.drop_zero]
          rw [hdr]
          clear hdr
          repeat still_step
          try refine wpStill_nil ?_
          cases bb
          · go_wp2_with (go_at_call 34; refine HC.out.mono ?_; rintro e w2 ⟨rfl, hb2⟩; rw [← HBB.out]; have HB2 := Lib.hid hb2; clear hb2)
            go_ret
            exact SameC.mk (by rw [HS.out, HS1.out]; rfl) (HW0.out.trans (HB2.out.mono (Nat.le_of_lt (Nat.lt_of_succ_lt hlt2))))
          · go_wp2_with (go_at_call 34; refine HC.out.mono ?_; rintro e w2 ⟨rfl, hb2⟩; rw [← HBB.out]; have HB2 := Lib.hid hb2; clear hb2)
            exact ⟨⟨k + 1, by omega, by go_num, (HB2.out.block _ (Nat.lt_of_succ_lt hlt2)).trans HBW.out.1, (HB2.out.block _ hlt2).trans HBW.out.2, HW0.out.trans (HB2.out.mono (Nat.le_of_lt (Nat.lt_of_succ_lt hlt2))), by rw [HS1.out]; rfl⟩, by simp [intOf]; omega⟩
        · have hkk : k = len := by omega
          have hs := HSF.out
          rw [foDrop_nil k _ (by rw [← HLEN.out.1]; omega), foDrop_nil k _ (by rw [← HLEN.out.2]; omega)] at hs
          have HR := Lib.hid (HS.out.trans hs)
          clear hs hkk
          go_wp2_with fail
          go_ret
          exact SameC.mk HR.out HB.out.2.2
    · refine same_not w id1 kd1 id2 kd2 tx1 tx2 ka1 ka2 _ _ _ _ _ _ ?_ hd
      simp only [sameT, sameK]
      simp
      intro h1 h2 h3 h4
      exact absurd ⟨h1, h2, h3, h4⟩ hd

end Go.Proofs.Ytpbjncljecfaeaa
