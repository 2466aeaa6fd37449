/-
  What SumsBurst answers: true. No condition but that its arguments lie in memory as they came in.
-/
import Derived.Test.YtpceledeeplhlaaSTell
import Derived.Test.YtpceledeeplhlaaSBurstP
import Derived.RegionTactic
import Derived.ChangeAlike
namespace Go.Proofs.Ytpceledeeplhlaa
open Go.RowKit
open Extern.Stop (cell)

theorem drew_below (W : World) : Below W.heap.size W W.drew := ⟨rfl, rfl, rfl, Nat.le_refl _, fun _ _ => rfl⟩
/-- Where they lie. -/
theorem OwnS.spot {B : Nat} {v : Value} {n : Nat} {xs : List Value} {W0 w : World} (h : OwnS B v n xs W0 w) (h0 : 0 < n) : ∃ g cap, v = .slice (some ⟨g, 0, none⟩) n cap ∧ n ≤ cap ∧ (cap : Int) ≤ 9223372036854775807 := by
  rcases h.1.2 with ⟨_, hn⟩ | ⟨g, cap, cur, hv, _, _, h3, h4, _⟩
  · omega
  · exact ⟨g, cap, hv, h3, by unfold maxLen at h4; omega⟩
/-- One of them, and what it may be turned to. -/
theorem OwnS.turn {B g n cap : Nat} {xs : List Value} {W0 w : World} (h : OwnS B (.slice (some ⟨g, 0, none⟩) n cap) n xs W0 w) (j : Nat) (u x : Value) (hx : xs[j]? = some x) :
    w.cell? ⟨g, j, none⟩ = some x ∧ w.frozen? ⟨g, j, none⟩ = false ∧ OwnS B (.slice (some ⟨g, 0, none⟩) n cap) n (xs.set j u) W0 (w.setCell ⟨g, j, none⟩ u) := by
  obtain ⟨⟨h1, h2⟩, h5, h6⟩ := h
  rcases h2 with ⟨hv, _⟩ | ⟨g', cap', cur, hv, hB, hh, h3, h4, hs, ht⟩
  · cases hv
  · cases hv
    have hjx := (List.getElem?_eq_some_iff.1 hx).1
    have hc : cur[j]? = some x := by
      rw [← ht, List.getElem?_take] at hx
      split at hx
      · simpa using hx
      · cases hx
    refine ⟨by rw [cell_of_row w g j _ _ _ hh]; exact hc, frozen_of_row w g j _ _ hh, ⟨⟨by simpa using h1, Or.inr ⟨g, cap, cur.set! j u, rfl, hB, heap_setCell_same w g j _ _ _ hh, h3, h4, by simpa using hs, ?_⟩⟩, h5.trans (Below.setCell (Below.refl _ _) hB _), by simpa [World.setCell] using h6⟩⟩
    rw [← ht]
    simp [List.take_set]

theorem tmod_range (a b : Int) (hb : 0 < b) : -b < a.tmod b ∧ a.tmod b < b := by
  have h2 := Int.tmod_lt_of_pos a hb
  have h3 := Int.tmod_lt_of_pos (-a) hb
  rw [Int.neg_tmod] at h3
  omega
theorem u32_bit (x : Nat) (i : Nat) (h : x < 4294967296) : bits .and .u32 ((x : Int) / 2 ^ i) 1 = ((x / 2 ^ i % 2 : Nat) : Int) := by
  have e : (x : Int) / 2 ^ i = ((x / 2 ^ i : Nat) : Int) := by push_cast; rfl
  rw [e]
  exact u32_and1 _ (Nat.lt_of_le_of_lt (Nat.div_le_self _ _) h)
theorem u32_or1 (n : Nat) (h : n < 4294967296) : bits .or .u32 (n : Int) 1 = ((n ||| 1 : Nat) : Int) := u32_or_nat n 1 h (by decide)
theorem or1_odd (n : Nat) : (n ||| 1) % 2 = 1 := by simp
theorem pow_byte (r : Nat) (h : r < 8) : 2 ^ r < 256 := by
  have : r = 0 ∨ r = 1 ∨ r = 2 ∨ r = 3 ∨ r = 4 ∨ r = 5 ∨ r = 6 ∨ r = 7 := by omega
  rcases this with rfl | rfl | rfl | rfl | rfl | rfl | rfl | rfl <;> decide
theorem turn_byte (x : UInt8) (r : Nat) (h : r < 8) : ∃ u : UInt8, u.toNat = x.toNat ^^^ 2 ^ r :=
  ⟨UInt8.ofNat (x.toNat ^^^ 2 ^ r), by rw [UInt8.toNat_ofNat']; exact Nat.mod_eq_of_lt (Nat.xor_lt_two_pow (n := 8) (byte_lt x) (pow_byte r h))⟩
def NotOpen (w : World) (e : Ending) (w' : World) : Prop := ∃ v, e = .returned (.tuple #[v, .bool false]) ∧ Below w.heap.size w w'
theorem open_no (w : World) (a : Option Addr) (n cap : Nat) (bs : List UInt8) (hn : n = bs.length) (h : ByAt w a bs) (hok : okN bs = false) (hl : bs.length ≤ 1000000000) (hc : bs.length ≤ cap) (hc2 : (cap : Int) ≤ 9223372036854775807) :
    Calls Try.prog 12 #[.slice a n cap] w (NotOpen w) := by
  subst hn
  exact (open_any w a cap bs h hl hc hc2).mono fun _ _ ⟨a', c', h1, _, h3⟩ => ⟨_, by rw [hok] at h1; exact h1, h3⟩
/-- What lies ahead of a round. -/
def BurstInv (w : World) (bs : List UInt8) (v : Value) (p q : Nat) (i : Value) (wr : World) : Prop := ∃ (k : Nat) (s : List UInt8), k ≤ 32 ∧ i = .int .i64 (k : Int) ∧ s.length = bs.length + 4 ∧ numL s = numL (sealN bs) ^^^ maskN (8 * bs.length) p q k ∧ OwnB w.heap.size v s w wr
theorem BurstInv.same {w wr : World} {bs s : List UInt8} {v : Value} {p q k : Nat} (hk : k < 32) (hl : s.length = bs.length + 4) (hn : numL s = numL (sealN bs) ^^^ maskN (8 * bs.length) p q k) (hv : OwnB w.heap.size v s w wr) (ht : ¬ turns (8 * bs.length) p q k) : BurstInv w bs v p q (.int .i64 ((k : Int) + 1)) wr :=
  ⟨k + 1, s, by omega, by congr 1, hl, by rw [hn]; show _ = _ ^^^ (if turns _ p q k then _ else _); rw [if_neg ht], hv⟩
theorem turn_bits (x u : UInt8) (r : Nat) (h : 2 ^ r < 256) (hu : u.toNat = x.toNat ^^^ 2 ^ r) : bits .xor .u8 (x.toNat : Int) (2 ^ r % 256) = (u.toNat : Int) := by
  have e : ((2 : Int) ^ r % 256) = ((2 ^ r : Nat) : Int) := by
    have : ((2 : Int) ^ r) = ((2 ^ r : Nat) : Int) := by push_cast; rfl
    rw [this]
    generalize 2 ^ r = y at h
    omega
  rw [e, u8_xor_nat _ _ (byte_lt x) h, hu]
theorem burst_step {w wr : World} {bs s : List UInt8} {v : Value} {m p q i k c r : Nat} {x u : UInt8} (hi : i < 32) (hl : s.length = bs.length + 4) (hn : numL s = numL (sealN bs) ^^^ maskN (8 * bs.length) p q i) (hm : m = bs.length) (hk : k = p + i)
    (hb : q / 2 ^ i % 2 = 1) (hA : ¬ (p < 8 * m ∧ 8 * m ≤ k)) (hc : c = k / 8) (hr : r = k % 8) (hx : s[c]? = some x) (hu : u.toNat = x.toNat ^^^ 2 ^ r) (hv : OwnS w.heap.size v (m + 4) ((s.map cell).set c (cell u)) w wr) :
    BurstInv w bs v p q (.int .i64 ((i : Int) + 1)) wr.drew := by
  subst hm
  have ht : turns (8 * bs.length) p q i := ⟨hb, by rw [hk] at hA; exact hA⟩
  refine ⟨i + 1, s.set c u, by omega, by congr 1, by simpa using hl, ?_, ?_⟩
  · rw [numL_set s c r x u hx hu, hn]
    show _ = _ ^^^ (if turns _ p q i then _ else _)
    rw [if_pos ht, Nat.xor_assoc, show 8 * c + r = p + i by omega]
  · show OwnS _ _ (s.set c u).length ((s.set c u).map cell) _ _
    rw [List.length_set, hl, List.map_set]
    exact OwnS.more hv (drew_below wr)
set_option maxRecDepth 100000 in
set_option maxHeartbeats 1000000 in
theorem sumsBurst_any (w : World) (a : Option Addr) (cap : Nat) (bs : List UInt8) (h : ByAt w a bs) (hm : (bs.length : Int) ≤ 9223372036854775807) (n : Nat) (hn : n < 4294967296) (at0 : Int) :
    Calls Try.prog 6 #[.slice a bs.length cap, .int .u32 (n : Int), .int .i64 at0] w (YesB w) := by
  have HW := Lib.hid wakes_any
  have HB := Lib.hid h
  clear h
  by_cases h1 : 20000 < bs.length
  · have h1' : (20000 : Int) < (bs.length : Int) := by omega
    go_enter Try.func6, Try.ntmps6
    go_wp2_with (go_at_call 7; refine (HW.out _).mono ?_; clear HW; rintro e w2 ⟨rfl, h2⟩; have H2 := Lib.hid h2; clear h2)
    go_ret
    exact ⟨rfl, H2.out⟩
  · have h1' : ¬ (20000 : Int) < (bs.length : Int) := by omega
    have HL := Lib.hid h1
    have HS := Lib.hid (seal_any w a cap bs HB.out (by omega))
    obtain ⟨m, hm0⟩ : ∃ m, m = bs.length := ⟨_, rfl⟩
    rw [← hm0] at HS h1' hm
    have HM := Lib.hid hm0
    rw [← hm0]
    clear h1 hm0
    obtain ⟨q, hq⟩ : ∃ q, q = n ||| 1 := ⟨_, rfl⟩
    have e1 := u32_or1 n hn
    rw [← hq] at e1
    have hql : q < 4294967296 := by rw [hq]; exact Nat.or_lt_two_pow (n := 32) hn (by decide)
    have HQ := Lib.hid (show q % 2 = 1 by rw [hq]; exact or1_odd n)
    obtain ⟨t, ht⟩ : ∃ t, at0.tmod (8 * (m : Int) + 1) = t := ⟨_, rfl⟩
    have ht1 : -(8 * (m : Int) + 1) < t := by rw [← ht]; exact (tmod_range at0 _ (by omega)).1
    have ht2 : t < 8 * (m : Int) + 1 := by rw [← ht]; exact (tmod_range at0 _ (by omega)).2
    obtain ⟨p, hp⟩ : ∃ p : Nat, (t + (8 * (m : Int) + 1)) % (8 * (m : Int) + 1) = (p : Int) := Int.eq_ofNat_of_zero_le (Int.emod_nonneg _ (by omega))
    have hpl : (p : Int) ≤ 8 * (m : Int) := by rw [← hp]; have := Int.emod_lt_of_pos (t + (8 * (m : Int) + 1)) (show 0 < 8 * (m : Int) + 1 by omega); omega
    have hp2 : (t + (8 * (m : Int) + 1)).tmod (8 * (m : Int) + 1) = (p : Int) := by rw [Int.tmod_eq_emod_of_nonneg (by omega), hp]
    clear hq
    go_enter Try.func6, Try.ntmps6
    go_wp2_with (go_at_call 14; refine HS.out.mono ?_; clear HS; rintro e w1 ⟨v1, rfl, h1⟩; obtain ⟨g, sc, rfl, hle1, hc1⟩ := OwnS.spot h1 (by rw [sealN_length]; omega); have hsl : (sealN bs).length = m + 4 := by { rw [sealN_length, HM.out] }; rw [hsl] at hle1; have H1 : Hid (OwnB w.heap.size (.slice (some ⟨g, 0, none⟩) (m + 4) sc) (sealN bs) w w1) := by { rw [hsl] at h1; exact h1 }; rw [hsl]; clear h1 hsl)
    clear e1 ht hp hp2 ht1 ht2
    go_loopw [9] (fun i wr => BurstInv w bs (.slice (some ⟨g, 0, none⟩) (m + 4) sc) p q i wr) (fun i _ => (32 - intOf i).toNat)
    case atStart => exact ⟨0, sealN bs, by omega, rfl, sealN_length bs, by simp [maskN], H1.out⟩
    case round =>
      obtain ⟨i, s, hi, rfl, hl, hns, hv⟩ := hrel
      have HV := Lib.hid hv
      have HN := Lib.hid (And.intro hl hns)
      clear hv hl hns
      by_cases hlt : i < 32
      · have e2 := u32_bit q i hql
        by_cases hbit : q / 2 ^ i % 2 = 1
        · rw [hbit] at e2
          obtain ⟨k, hk0⟩ : ∃ k, k = p + i := ⟨_, rfl⟩
          have hk : (p : Int) + (i : Int) = (k : Int) := by omega
          have hkb : (k : Int) ≤ 8 * (m : Int) + 31 := by omega
          have HK := Lib.hid hk0
          by_cases hA : (p : Int) < 8 * (m : Int) ∧ 8 * (m : Int) ≤ (k : Int)
          · have hA1 := hA.1
            have hA2 := hA.2
            have HT := Lib.hid (BurstInv.same (w := w) (wr := wr) (q := q) (p := p) hlt HN.out.1 HN.out.2 HV.out (fun ht => ht.2 (by have := HM.out; have := HK.out; omega)))
            clear hA hbit hk0
            go_wp2_with fail
            exact ⟨HT.out, by simp [intOf]; omega⟩
          · obtain ⟨c, hc0⟩ : ∃ c, c = k / 8 := ⟨_, rfl⟩
            obtain ⟨r, hr0⟩ : ∃ r, r = k % 8 := ⟨_, rfl⟩
            have hc : (k : Int) / 8 = (c : Int) := by omega
            have hr : (k : Int) % 8 = (r : Int) := by omega
            have hcm : (c : Int) < (m : Int) + 4 := by omega
            have hr8 : (r : Int) < 8 := by omega
            obtain ⟨x, hx⟩ : ∃ x, s[c]? = some x := ⟨s[c]'(by have := HN.out.1; have := HM.out; omega), List.getElem?_eq_getElem _⟩
            obtain ⟨u, hu⟩ := turn_byte x r (by omega)
            have hp8 : (2 : Nat) ^ r < 256 := pow_byte r (by omega)
            have hX : Hid (OwnS w.heap.size (.slice (some ⟨g, 0, none⟩) (m + 4) sc) (m + 4) (s.map cell) w wr) := by { have h5 := HV.out; have h6 : s.length = m + 4 := by { rw [HN.out.1, HM.out] }; show OwnS _ _ _ _ _ _; have h7 : OwnS w.heap.size (.slice (some ⟨g, 0, none⟩) (m + 4) sc) s.length (s.map cell) w wr := h5; rw [h6] at h7; exact h7 }
            have hT := OwnS.turn hX.out c (cell u) (cell x) (by rw [List.getElem?_map, hx]; rfl)
            have e5 : bits .xor .u8 (x.toNat : Int) (2 ^ r % 256) = (u.toNat : Int) := turn_bits x u r hp8 hu
            have HE := Lib.hid (burst_step (w := w) (q := q) hlt HN.out.1 HN.out.2 HM.out HK.out hbit (by omega) hc0 hr0 hx hu hT.2.2)
            have hcell : wr.cell? ⟨g, c, none⟩ = some (.int .u8 (x.toNat : Int)) := hT.1
            have hfz := hT.2.1
            by_cases hA1 : (p : Int) < 8 * (m : Int)
            · have hA2 : ¬ 8 * (m : Int) ≤ (k : Int) := fun h => hA ⟨hA1, h⟩
              clear hT hx hu hc0 hr0 hA hbit hk0
              go_wp2_with fail
              go_region
              go_wp2_with fail
              exact ⟨HE.out, by simp [intOf]; omega⟩
            · clear hT hx hu hc0 hr0 hA hbit hk0
              go_wp2_with fail
              go_region
              go_wp2_with fail
              exact ⟨HE.out, by simp [intOf]; omega⟩
        · have e3 : ((q / 2 ^ i % 2 : Nat) : Int) = 0 := by omega
          rw [e3] at e2
          have HT := Lib.hid (BurstInv.same (w := w) (wr := wr) (q := q) (p := p) hlt HN.out.1 HN.out.2 HV.out (fun ht => hbit ht.1))
          clear hbit e3
          go_wp2_with fail
          exact ⟨HT.out, by simp [intOf]; omega⟩
      · have hi32 : i = 32 := by omega
        subst hi32
        have hok := burst_bad bs s p q (by have := HM.out; omega) HQ.out HN.out.1 HN.out.2
        obtain ⟨sa2, sc2, e4, hbs, hlc, hcx⟩ := HV.out.some (by have := HN.out.1; omega)
        have e6 : s.length = m + 4 := by rw [HN.out.1, HM.out]
        have hspot : sa2 = ⟨g, 0, none⟩ ∧ sc2 = sc := by injection e4 with h1 _ h3; injection h1 with h1; exact ⟨h1.symm, h3.symm⟩
        obtain ⟨rfl, rfl⟩ := hspot
        clear e4
        have HO := Lib.hid (open_no wr _ (m + 4) sc2 s e6.symm hbs hok (by have := HL.out; have := HM.out; omega) hlc hcx)
        clear hok hbs e6 hlt hi
        go_wp2_with (first
          | (go_at_call 12; refine HO.out.mono ?_; clear HO; rintro e w2 ⟨va, rfl, h2⟩; have K2 := Lib.hid (HV.out.2.1.trans (h2.mono HV.out.2.2)); clear h2)
          | (go_at_call 7; refine (HW.out _).mono ?_; clear HW; rintro e w5 ⟨rfl, h2⟩; have H2 := Lib.hid (K2.out.trans (h2.mono K2.out.size)); clear h2))
        go_ret
        exact ⟨rfl, H2.out⟩
end Go.Proofs.Ytpceledeeplhlaa
