/-
  What the document's own Write and Read do, all ways together. No condition but that its disk lies where it is said to lie.
-/
import Derived.Test.YtbhdelfiaaodmaaRefWrite
namespace Go.Proofs.Ytbhdelfiaaodmaa
open Go.RowKit
open Extern.Stop (cell)

theorem ref_write (w : World) (B rb : Nat) (s : St) (n : Int) (vb : Value) (bs : List UInt8) (hvb : BytesLow w B vb bs) (h : RefAt w B rb s) (hm : s.l.length ≤ 100000) (hok : s.ok) :
    Calls Try.prog 11 #[.pointer (some ⟨rb, 0, none⟩), .int .i64 n, vb] w fun e w' => e = .returned (.int .i64 (writeE s n bs.length)) ∧ RefAt w' B rb (writeS s n bs) ∧ Below B w w' ∧ StaysR w w' := by
  obtain ⟨v, ps, hps, ho, hgs, hb, c0, c1, c2, c3, hf⟩ := h.cells
  cases hd : s.down
  · rw [hd] at c1
    by_cases h0 : n < 0
    · refine (ref_write_low w rb n h0 vb c1).mono fun e w' ⟨he, hw⟩ => ?_
      subst hw
      have hn' : n < 0 ∨ 2049 ≤ n ∨ 64 < bs.length := by omega
      simp only [writeE, writeS, hd, hn', if_true, Bool.false_eq_true, if_false]
      exact ⟨he, h, Below.refl _ _, StaysR.refl _⟩
    · by_cases h1 : 2049 ≤ n
      · refine (ref_write_high w rb n h0 h1 vb c1).mono fun e w' ⟨he, hw⟩ => ?_
        subst hw
        have hn' : n < 0 ∨ 2049 ≤ n ∨ 64 < bs.length := by omega
        simp only [writeE, writeS, hd, hn', if_true, Bool.false_eq_true, if_false]
        exact ⟨he, h, Below.refl _ _, StaysR.refl _⟩
      · have hvb2 := hvb
        obtain ⟨a, cap, rfl, hc⟩ := hvb
        by_cases hl : 64 < bs.length
        · refine (ref_write_much w rb n h0 h1 a bs.length cap (by omega) c1).mono fun e w' ⟨he, hw⟩ => ?_
          subst hw
          have hn' : n < 0 ∨ 2049 ≤ n ∨ 64 < bs.length := by omega
          simp only [writeE, writeS, hd, hn', if_true, Bool.false_eq_true, if_false]
          exact ⟨he, h, Below.refl _ _, StaysR.refl _⟩
        · have hn' : ¬ (n < 0 ∨ 2049 ≤ n ∨ 64 < bs.length) := by omega
          cases ha : s.armed
          · refine (ref_write_free w B rb s n h0 h1 _ bs hvb2 (by omega) h hm ha hd).mono fun e w' ⟨he, hw⟩ => ?_
            simp only [writeE, writeS, hd, hn', ha, Bool.false_eq_true, if_false, false_and]
            have e1 : s = St.mk s.l false s.left false := by cases s; simp at ha hd; simp [ha, hd]
            rw [← e1]
            exact ⟨he, hw.1, hw.2.1, hw.2.2⟩
          · by_cases hk : s.left = 0
            · refine (ref_write_spent w B rb s n h0 h1 a bs.length cap (by omega) h hd ha hk).mono fun e w' ⟨he, hw⟩ => ?_
              simp only [writeE, writeS, hd, hn', ha, hk, Bool.false_eq_true, if_false, true_and, if_true]
              exact ⟨he, hw⟩
            · have := hok ha
              refine (ref_write_armed w B rb s n h0 h1 _ bs hvb2 (by omega) h hm ha (by omega) (by omega) hd).mono fun e w' ⟨he, hw⟩ => ?_
              simp only [writeE, writeS, hd, hn', ha, hk, Bool.false_eq_true, if_false, true_and, if_true]
              exact ⟨he, hw.1, hw.2.1, hw.2.2⟩
  · rw [hd] at c1
    refine (ref_write_down w rb n vb c1).mono fun e w' ⟨he, hw⟩ => ?_
    subst hw
    simp only [writeE, writeS, hd, if_true]
    exact ⟨he, h, Below.refl _ _, StaysR.refl _⟩

set_option maxHeartbeats 400000 in
theorem ref_read_down (w : World) (rb : Nat) (n : Int) (c1 : w.cell? ⟨rb, 1, none⟩ = some (.bool true)) : Calls Try.prog 13 #[.pointer (some ⟨rb, 0, none⟩), .int .i64 n] w fun e w' => e = .returned (.tuple #[.slice none 0 0, .int .i64 5]) ∧ w = w' := by
  go_enter Try.func13, Try.ntmps13
  go_wp2
  go_ret2
  exact ⟨rfl, rfl⟩
set_option maxHeartbeats 400000 in
theorem ref_read_low (w : World) (rb : Nat) (n : Int) (hn : n < 0) (c1 : w.cell? ⟨rb, 1, none⟩ = some (.bool false)) : Calls Try.prog 13 #[.pointer (some ⟨rb, 0, none⟩), .int .i64 n] w fun e w' => e = .returned (.tuple #[.slice none 0 0, .int .i64 2]) ∧ w = w' := by
  go_enter Try.func13, Try.ntmps13
  go_wp2
  go_ret2
  exact ⟨rfl, rfl⟩
set_option maxHeartbeats 400000 in
theorem ref_read_high (w : World) (rb : Nat) (n : Int) (h0 : ¬ n < 0) (hn : 2049 ≤ n) (c1 : w.cell? ⟨rb, 1, none⟩ = some (.bool false)) : Calls Try.prog 13 #[.pointer (some ⟨rb, 0, none⟩), .int .i64 n] w fun e w' => e = .returned (.tuple #[.slice none 0 0, .int .i64 2]) ∧ w = w' := by
  go_enter Try.func13, Try.ntmps13
  go_wp2
  go_ret2
  exact ⟨rfl, rfl⟩

theorem refRow_get : ∀ (ps : List (Wr × Nat)) (k : Nat) (p : Wr × Nat), ps[k]? = some p → (refRow ps)[k * 2]? = some (.int .i64 p.1.n) ∧ (refRow ps)[k * 2 + 1]? = some (.slice (some ⟨p.2, 0, none⟩) 64 64)
  | [], k, p, h => by simp at h
  | q :: ps, 0, p, h => by
    obtain rfl : q = p := by simpa using h
    exact ⟨rfl, rfl⟩
  | q :: ps, k + 1, p, h => by
    have ih := refRow_get ps k p (by simpa using h)
    have e : refRow (q :: ps) = putCells q ++ refRow ps := by simp [refRow]
    rw [e, List.getElem?_append_right (by simp [putCells]; omega), List.getElem?_append_right (by simp [putCells]; omega)]
    simp only [putCells, List.length_cons, List.length_nil]
    rw [show (k + 1) * 2 - (0 + 1 + 1) = k * 2 by omega, show (k + 1) * 2 + 1 - (0 + 1 + 1) = k * 2 + 1 by omega]
    exact ih
theorem sect_take {l : List Wr} {k : Nat} {x : Wr} (h : l[k]? = some x) (n : Int) : sect (l.take (k + 1)) n = if x.n = n then x.d else sect (l.take k) n := by
  rw [List.take_add_one, h]; exact sect_snoc _ _ _
theorem splice_whole {xs ys : List Value} (h : xs.length = ys.length) : splice xs 0 ys = ys := by
  simp [splice, List.drop_of_length_le (Nat.le_of_eq h)]

set_option maxRecDepth 100000 in
set_option maxHeartbeats 1000000 in
theorem ref_read_ok (w : World) (B rb : Nat) (s : St) (n : Int) (h0 : ¬ n < 0) (h1 : ¬ 2049 ≤ n) (h : RefAt w B rb s) (hd : s.down = false) (hm : s.l.length ≤ 100000) :
    Calls Try.prog 13 #[.pointer (some ⟨rb, 0, none⟩), .int .i64 n] w (ReadEnd w B (sect s.l n) 0) := by
  obtain ⟨v, ps, hps, ho, hgs, hb, c0, c1, c2, c3, hf⟩ := h.cells
  have lrb := h.lt
  rw [hd] at c1
  obtain ⟨a, cap, rfl⟩ := slice_of_owns ho
  obtain ⟨len, hlen⟩ : ∃ len, len = s.l.length := ⟨_, rfl⟩
  rw [← hlen] at c0 ho hm
  obtain ⟨ZA, hZA⟩ : ∃ ZA, ZA = (zeros.map cell).toArray := ⟨_, rfl⟩
  have hmk := make64
  rw [← hZA] at hmk
  have h5 : (Try.prog.info? 5).map (·.size) = some 1 := by kernel_rfl
  have HZ := Lib.hid hZA
  have HL := Lib.hid hlen
  have HO := Lib.hid (And.intro ho (And.intro hps hgs))
  clear hZA hlen ho hps hgs hb c2 c3 hf h hd
  go_enter Try.func13, Try.ntmps13
  go_wp2
  go_loopw [7] (fun i wr => ∃ k : Nat, k ≤ len ∧ i = .int .i64 k ∧ Hid (wr.heap[w.heap.size]? = some (.cells ((sect (s.l.take k) n).map cell).toArray 5 (0, 0))) ∧ Below w.heap.size w wr) (fun i _ => len - (intOf i).toNat)
  case atStart =>
    refine ⟨0, Nat.zero_le _, rfl, ?_, (Below.refl _ _).alloc (Nat.le_refl _) _⟩
    show _ = _
    rw [HZ.out]; exact heap_alloc_new w _
  case round =>
    obtain ⟨k, hk, rfl, hcur, hbk⟩ := hrel
    have d0 := (hbk.cell (p := ⟨rb, 0, none⟩) lrb).trans c0
    have HK := Lib.hid hbk
    clear hbk
    by_cases hlt : k < len
    · have hpl : ps.length = len := by rw [HL.out, ← HO.out.2.1]; simp
      obtain ⟨p, hp⟩ : ∃ p, ps[k]? = some p := ⟨ps[k]'(by omega), List.getElem?_eq_getElem _⟩
      have hgp := HO.out.2.2 p (List.mem_of_getElem? hp)
      obtain ⟨r0, r1⟩ := refRow_get ps k p hp
      have hsl : s.l[k]? = some p.1 := by rw [← HO.out.2.1, List.getElem?_map, hp]; rfl
      obtain ⟨g0, hg0⟩ : ∃ g, a = some ⟨g, 0, none⟩ := by
        rcases HO.out.1.2 with ⟨hv, h0⟩ | ⟨g, cap', cur, hv, _⟩
        · omega
        · cases hv; exact ⟨g, rfl⟩
      subst hg0
      have q0 := HO.out.1.cells (g := g0) rfl _ _ r0
      have q1 := HO.out.1.cells (g := g0) rfl _ _ r1
      rw [Addr.add_mid] at q0 q1
      have q0' := (HK.out.cell (p := ⟨g0, 0 + k * 2, none⟩) (cell_lt q0)).trans q0
      have q1' := (HK.out.cell (p := ⟨g0, 0 + (k * 2 + 1), none⟩) (cell_lt q1)).trans q1
      rw [Nat.zero_add] at q0' q1'
      have hblk := (HK.out.block p.2 (lt_of_heap hgp.2)).trans hgp.2
      have hsrc : CopyAt wr w.heap.size 0 (some ⟨p.2, 0, none⟩) p.1.d := fun _ => ⟨rfl, _, rfl, fun j u hj => by
        rw [Addr.add_mid, Nat.zero_add, cell_of_row wr p.2 j _ _ _ hblk]; simpa using hj⟩
      have hl64 := hgp.1.1
      have hcl : ((sect (s.l.take k) n).map cell).length = 64 := by
        rw [List.length_map]
        refine sect_length _ (fun x hx => ?_) n
        have : x ∈ s.l := List.mem_of_mem_take hx
        rw [← HO.out.2.1, List.mem_map] at this
        obtain ⟨p', hp', rfl⟩ := this
        exact (HO.out.2.2 p' hp').1
      have hnn : (p.1.d.map cell).length = Nat.min 64 64 := by rw [List.length_map, hl64]; rfl
      have hfit : 0 + (p.1.d.map cell).length ≤ ((sect (s.l.take k) n).map cell).length := by rw [hcl, List.length_map, hl64]; omega
      have hst := sect_take hsl n
      obtain ⟨pn, hpn⟩ : ∃ m, m = p.1.n := ⟨_, rfl⟩
      rw [← hpn] at q0' hst
      have HP := Lib.hid (And.intro hsrc (And.intro hnn (And.intro hfit hcl)))
      have HST := Lib.hid hst
      have H64 := Lib.hid hl64
      have hkl : (k : Int) < (len : Int) := by omega
      clear hpl hp hgp r0 r1 hsl q0 q1 hblk hsrc hl64 hcl hnn hfit hst hpn
      cases he : (pn == n)
      · have HE := Lib.hid he
        go_wp2
        exact ⟨⟨k + 1, by omega, by go_num, by show _ = _; rw [HST.out, if_neg (by simpa using HE.out)]; exact hcur.out, HK.out⟩, by simp [intOf]; omega⟩
      · have HE := Lib.hid he
        go_wp2_with (with_reducible refine wpList_copy_splice rfl (.tmp 38) (.tmp 46) 31 31 rfl 5 Try.underlying31 h5 (some ⟨w.heap.size, 0, none⟩) (some ⟨p.2, 0, none⟩) 64 64 64 64 rfl rfl w.heap.size 0 ((sect (s.l.take k) n).map cell) 5 hcur.out (p.1.d.map cell) HP.out.2.1 HP.out.1.out HP.out.2.2.1 (cells_one p.1.d) w.heap.size w HK.out (Nat.le_refl _) ?_; intro w2 HG2 HB2; have HB3 := Lib.hid HB2; clear HB2)
        exact ⟨⟨k + 1, by omega, by go_num, by show _ = _; rw [HST.out, if_pos (by simpa using HE.out), HG2.out, splice_whole (by rw [HP.out.2.2.2, List.length_map, H64.out])], HB3.out⟩, by simp [intOf]; omega⟩
    · have hkk : k = len := by omega
      have hcur2 := hcur.out
      rw [hkk, HL.out, List.take_length] at hcur2
      have hl64 : (sect s.l n).length = 64 := sect_length _ (fun x hx => by
        rw [← HO.out.2.1, List.mem_map] at hx
        obtain ⟨p', hp', rfl⟩ := hx
        exact (HO.out.2.2 p' hp').1) n
      have hby : BytesAt wr B (.slice (some ⟨w.heap.size, 0, none⟩) (sect s.l n).length 64) (sect s.l n) :=
        ⟨some ⟨w.heap.size, 0, none⟩, 64, rfl, fun _ => ⟨_, rfl, Or.inr ⟨_, hcur2, rfl⟩, fun j u hj => by
          rw [Addr.add_mid, Nat.zero_add, cell_of_row _ _ j _ _ _ hcur2]; simpa using hj⟩⟩
      have HBY := Lib.hid hby
      have H64 := Lib.hid hl64
      clear hcur2 hby hl64 hkk
      go_wp2
      go_ret2
      exact ⟨_, 64, by rw [H64.out]; rfl, HBY.out, HK.out⟩

theorem ref_read (w : World) (B rb : Nat) (s : St) (n : Int) (bs : List UInt8) (E : Int) (h : RefAt w B rb s) (hm : s.l.length ≤ 100000) (hb : readB s n = bs) (hE : readE s n = E) :
    Calls Try.prog 13 #[.pointer (some ⟨rb, 0, none⟩), .int .i64 n] w (ReadEnd w B bs E) := by
  obtain ⟨v, ps, hps, ho, hgs, hb', c0, c1, c2, c3, hf⟩ := h.cells
  subst hb; subst hE
  cases hd : s.down
  · rw [hd] at c1
    by_cases h0 : n < 0
    · refine (ref_read_low w rb n h0 c1).mono fun e w' ⟨he, hw⟩ => ?_
      subst hw
      have hn : n < 0 ∨ 2049 ≤ n := Or.inl h0
      simp only [readE, readB, hd, hn, if_true, Bool.false_eq_true, if_false]
      exact ⟨_, _, he, BytesAt.none _ _, Below.refl _ _⟩
    · by_cases h1 : 2049 ≤ n
      · refine (ref_read_high w rb n h0 h1 c1).mono fun e w' ⟨he, hw⟩ => ?_
        subst hw
        have hn : n < 0 ∨ 2049 ≤ n := Or.inr h1
        simp only [readE, readB, hd, hn, if_true, Bool.false_eq_true, if_false]
        exact ⟨_, _, he, BytesAt.none _ _, Below.refl _ _⟩
      · have hn : ¬ (n < 0 ∨ 2049 ≤ n) := by omega
        simp only [readE, readB, hd, hn, Bool.false_eq_true, if_false]
        exact ref_read_ok w B rb s n h0 h1 h hd hm
  · rw [hd] at c1
    refine (ref_read_down w rb n c1).mono fun e w' ⟨he, hw⟩ => ?_
    subst hw
    simp only [readE, readB, hd, if_true]
    exact ⟨_, _, he, BytesAt.none _ _, Below.refl _ _⟩

end Go.Proofs.Ytbhdelfiaaodmaa
