/-
  What GrammarWider answers: true. No condition but that its arguments lie in memory as they came in.
-/
import Derived.Test.YtecpdelbidglnaaGWideM
import Derived.Laws.AppendOwn
import Derived.IntWalk
import Derived.Deep.Cut
namespace Go.Proofs.Ytecpdelbidglnaa
open Go.RowKit

/-- What lies there, cell by cell. -/
def rowC (w : World) (b off n : Nat) : List Value := (List.range n).map fun j => (w.cell? ⟨b, off + j, none⟩).getD undef
theorem rowC_len (w : World) (b off n : Nat) : (rowC w b off n).length = n := by simp [rowC]
theorem rowC_at {w : World} {b off n j : Nat} {u : Value} (h : (rowC w b off n)[j]? = some u) (hc : ∀ j, j < n → ∃ u, w.cell? ⟨b, off + j, none⟩ = some u ∧ u.oneCell' = true) : w.cell? ⟨b, off + j, none⟩ = some u ∧ u.oneCell' = true := by
  have hj : j < n := by have := (List.getElem?_eq_some_iff.1 h).1; rwa [rowC_len] at this
  obtain ⟨u', h1, h2⟩ := hc j hj
  simp only [rowC, List.getElem?_map] at h
  rw [List.getElem?_range hj] at h
  simp only [Option.map_some, Option.some.injEq] at h
  rw [h1] at h
  simp only [Option.getD_some] at h
  subst h
  exact ⟨h1, h2⟩
theorem grow_none {w w' : World} (hg : w.grownBy w' none) {k : Nat} (hk : k < w.heap.size) : w'.heap[k]? = w.heap[k]? := hg.block k hk (by simp)
theorem info_wide {P : Program} {t : TypeId} {s b n : Nat} (h : (P.info? t).map (fun i => (i.size, i.bytes, i.zero.map (fun z => z.cells.size))) = some (s, b, some n)) :
    ∃ i z, P.info? t = some i ∧ i.zero = some z ∧ i.size = s ∧ i.bytes = b ∧ z.cells.size = n := by
  cases hi : P.info? t with
  | none => simp [hi] at h
  | some i =>
    simp only [hi, Option.map_some, Option.some.injEq, Prod.mk.injEq] at h
    obtain ⟨h1, h2, h3⟩ := h
    cases hz : i.zero with
    | none => simp [hz] at h3
    | some z => exact ⟨i, z, rfl, hz, h1, h2, by simpa [hz] using h3⟩
theorem kinds40 {l : List Kd} {root : Int} {i j : Nat} {x : Kd} {s : Sl} (h : greatG ⟨l, root⟩ = false) (hx : l[i]? = some x) (hs : x.slots[j]? = some s) : s.kinds.length ≤ 40 := by
  simp only [greatG, Bool.or_eq_false_iff, decide_eq_false_iff_not, List.any_eq_false] at h
  have h1 := h.2 x (List.mem_of_getElem? hx)
  simp only [greatK, Bool.or_eq_true, decide_eq_true_eq, List.any_eq_true, not_or, not_exists, not_and] at h1
  have h2 := h1.2 s (List.mem_of_getElem? hs)
  simp only [greatS, decide_eq_true_eq] at h2
  omega
theorem owns_slice {w : World} {B : Nat} {e : TypeId} {size : Nat} {v : Value} {n : Nat} {xs : List Value} (h : w.ownsRow B e size v n xs) : ∃ a cap, v = .slice a n cap := by
  rcases h.2 with ⟨hv, h0⟩ | ⟨g', cap', cur, hv, _⟩
  · exact ⟨none, 0, by rw [hv, h0]⟩
  · exact ⟨_, _, hv⟩
theorem ints_owned {w : World} {B : Nat} {e : TypeId} {va : Option Addr} {n vc : Nat} {M : List Int} (h : w.ownsRow B e 1 (.slice va n vc) n (M.map (Value.int .i64))) : IntsAt w va M := fun h0 => by
  rcases h.2 with ⟨hv, hn⟩ | ⟨g', cap', cur, hv, _, hh, _, _, _, ht⟩
  · have := h.1; simp at this; omega
  · cases hv
    refine ⟨g', 0, rfl, lt_of_some' hh, fun k x hx => ?_⟩
    rw [Nat.zero_add, cell_of_row w g' k _ _ _ hh]
    have h1 : (M.map (Value.int .i64))[k]? = some (.int .i64 x) := by simp [hx]
    rw [← ht, List.getElem?_take] at h1
    split at h1
    · simpa using h1
    · cases h1
theorem slot_in {g : Gr} {i j : Nat} {x : Kd} {s : Sl} (h : grOk g = true) (hx : g.kinds[i]? = some x) (hs : x.slots[j]? = some s) : slotOk (g.kinds.length : Int) s = true := by
  simp only [grOk, Bool.and_eq_true] at h
  have hk : kindOk (g.kinds.length : Int) x = true := List.all_eq_true.1 h.1.2 x (List.mem_of_getElem? hx)
  simp only [kindOk, Bool.and_eq_true] at hk
  exact List.all_eq_true.1 hk.2 s (List.mem_of_getElem? hs)
theorem div3 (j : Nat) : ∃ k r, j = k * 3 + r ∧ r < 3 := ⟨j / 3, j % 3, by omega, by omega⟩
theorem kinds_cells {w : World} {b off : Nat} {l : List Kd} (h : KindsAt w (some ⟨b, off, none⟩) l) (j : Nat) (hj : j < l.length * 3) : ∃ u, w.cell? ⟨b, off + j, none⟩ = some u ∧ u.oneCell' = true := by
  obtain ⟨k, r, rfl, hr⟩ := div3 j
  obtain ⟨b', off', e, _, hc⟩ := h (by omega)
  cases e
  have hk : k < l.length := by omega
  obtain ⟨sa, sc, h0, h1, h2, _⟩ := hc k _ (List.getElem?_eq_getElem hk)
  match r, hr with
  | 0, _ => exact ⟨_, h0, rfl⟩
  | 1, _ => exact ⟨_, h1, rfl⟩
  | 2, _ => exact ⟨_, h2, rfl⟩
theorem slots_cells {w : World} {b off : Nat} {l : List Sl} (h : SlotsAt w (some ⟨b, off, none⟩) l) (j : Nat) (hj : j < l.length * 3) : ∃ u, w.cell? ⟨b, off + j, none⟩ = some u ∧ u.oneCell' = true := by
  obtain ⟨k, r, rfl, hr⟩ := div3 j
  obtain ⟨b', off', e, _, hc⟩ := h (by omega)
  cases e
  have hk : k < l.length := by omega
  obtain ⟨sa, sc, h0, h1, h2, _⟩ := hc k _ (List.getElem?_eq_getElem hk)
  match r, hr with
  | 0, _ => exact ⟨_, h0, rfl⟩
  | 1, _ => exact ⟨_, h1, rfl⟩
  | 2, _ => exact ⟨_, h2, rfl⟩
/-- A row of cells that was put behind nothing: its block. -/
theorem owns_copy {X w : World} {B n b off : Nat} {e : TypeId} {v : Value} (h : X.ownsRow B e 3 v n (rowC w b off (n * 3))) (hn : 0 < n) (hc : ∀ j, j < n * 3 → ∃ u, w.cell? ⟨b, off + j, none⟩ = some u ∧ u.oneCell' = true) :
    ∃ g c cur, v = .slice (some ⟨g, 0, none⟩) n c ∧ B ≤ g ∧ X.heap[g]? = some (.cells cur e (0, 0)) ∧ ∀ j, j < n * 3 → cur[j]? = w.cell? ⟨b, off + j, none⟩ := by
  rcases h.2 with ⟨_, h0⟩ | ⟨g, c, cur, hv, hB, hh, _, _, _, ht⟩
  · omega
  · refine ⟨g, c, cur, hv, hB, hh, fun j hj => ?_⟩
    obtain ⟨u, hu⟩ : ∃ u, (rowC w b off (n * 3))[j]? = some u := ⟨(rowC w b off (n * 3))[j]'(by rw [rowC_len]; exact hj), List.getElem?_eq_getElem _⟩
    have h1 := rowC_at hu hc
    rw [h1.1]
    rw [← ht, List.getElem?_take, if_pos hj] at hu
    simpa using hu

set_option maxRecDepth 100000 in
set_option maxHeartbeats 4000000 in
theorem grammarWider_any (w : World) (v : Value) (g : Gr) (n sn mr ot : Int) (a : Option Addr) (cap : Nat) (kids : List Int) (hv : GrV w v g) (hf : g.fits)
    (h : IntsAt w a kids) (hm : (kids.length : Int) ≤ 9223372036854775807) :
    Calls Try.prog 6 #[v, .int .i64 n, .int .i64 sn, .int .i64 mr, .int .i64 ot, .slice a kids.length cap] w (Says true w) := by
  obtain ⟨ka, kc, rfl, hk⟩ := hv
  obtain ⟨l, root⟩ := g
  simp only at hk
  have HF := Lib.hid hf
  have hfl : (l.length : Int) ≤ 9223372036854775807 := hf.1
  have HK := Lib.hid hk
  have HA := Lib.hid h
  have HW := Lib.hid wakes_any
  clear hf hk h
  obtain ⟨W0, hW0⟩ : ∃ W0, W0 = w.alloc (.cells #[.slice ka l.length kc, .int .i64 root] 24) := ⟨_, rfl⟩
  have HB0 := Lib.hid (show Below w.heap.size w W0 by rw [hW0]; exact box_below _ _)
  have HBOX := Lib.hid (show ∀ X, Below W0.heap.size W0 X → X.cell? ⟨w.heap.size, 0, none⟩ = some (.slice ka l.length kc) ∧ X.cell? ⟨w.heap.size, 1, none⟩ = some (.int .i64 root) by rw [hW0]; exact fun X hX => box_two hX)
  have HLT := Lib.hid (show ∀ X, Below W0.heap.size W0 X → w.heap.size < X.heap.size by
    rw [hW0]
    intro X hX
    have h1 := hX.size
    simp at h1
    omega)
  have HW0 := Lib.hid hW0
  clear hW0
  by_cases hg : greatG ⟨l, root⟩ = true
  · have HG := Lib.hid hg
    clear hg
    go_enter Try.func6, Try.ntmps6
    go_wp2_with (first
      | (go_at_call 7; ((with_reducible refine (great_any _ _ _ (grV (HK.out.below (box_below _ _))) HF.out).mono ?_); rintro e w2 ⟨rfl, h2⟩; rw [HG.out]; rw [← HW0.out] at h2; have H2 := Lib.hid h2; obtain ⟨q0, q1⟩ := HBOX.out _ h2; have hz2 : w.heap.size < w2.heap.size := HLT.out _ h2; clear h2))
      | (go_at_call 8; ((with_reducible refine (HW.out _).mono ?_); rintro e w4 ⟨rfl, h3⟩; have H4 := Lib.hid (H2.out.trans (h3.mono H2.out.size)); clear h3)))
    go_ret
    exact ⟨rfl, HB0.out.trans (H4.out.mono HB0.out.size)⟩
  have hg' : greatG ⟨l, root⟩ = false := by simpa using hg
  have HG := Lib.hid hg'
  have HFEW := Lib.hid (great_few hg').1
  have H40 := Lib.hid (great_few hg').2
  clear hg hg'
  by_cases h5 : 300 < kids.length
  · have h5' : decide ((300 : Int) < (kids.length : Int)) = true := by rw [decide_eq_true]; omega
    go_enter Try.func6, Try.ntmps6
    go_wp2_with (first
      | (go_at_call 7; ((with_reducible refine (great_any _ _ _ (grV (HK.out.below (box_below _ _))) HF.out).mono ?_); rintro e w2 ⟨rfl, h2⟩; rw [HG.out]; rw [← HW0.out] at h2; have H2 := Lib.hid h2; obtain ⟨q0, q1⟩ := HBOX.out _ h2; have hz2 : w.heap.size < w2.heap.size := HLT.out _ h2; clear h2))
      | (go_at_call 8; ((with_reducible refine (HW.out _).mono ?_); rintro e w4 ⟨rfl, h3⟩; have H4 := Lib.hid (H2.out.trans (h3.mono H2.out.size)); clear h3)))
    go_ret
    exact ⟨rfl, HB0.out.trans (H4.out.mono HB0.out.size)⟩
  have h5' : decide ((300 : Int) < (kids.length : Int)) = false := by rw [decide_eq_false]; omega
  have hk300 : kids.length ≤ 1000000 := by omega
  clear h5
  by_cases hft : fitsV (kindOf ⟨l, root⟩ n) kids = true
  case neg =>
    have HFT := Lib.hid (show fitsV (kindOf ⟨l, root⟩ n) kids = false by simpa using hft)
    clear hft
    go_enter Try.func6, Try.ntmps6
    go_wp2_with (first
      | (go_at_call 7; ((with_reducible refine (great_any _ _ _ (grV (HK.out.below (box_below _ _))) HF.out).mono ?_); rintro e w2 ⟨rfl, h2⟩; rw [HG.out]; rw [← HW0.out] at h2; have H2 := Lib.hid h2; obtain ⟨q0, q1⟩ := HBOX.out _ h2; have hz2 : w.heap.size < w2.heap.size := HLT.out _ h2; clear h2))
      | (go_at_call 19; ((with_reducible refine (fits_any _ _ ⟨l, root⟩ n _ _ kids (grV ((HK.out.below HB0.out).below H2.out)) HFEW.out ((HA.out.below HB0.out).below H2.out) hk300).mono ?_); rintro e w3 ⟨rfl, h2⟩; rw [HFT.out]; have H3 := Lib.hid (H2.out.trans (h2.mono H2.out.size)); obtain ⟨q2, q3⟩ := HBOX.out _ H3.out; have hz3 : w.heap.size < w3.heap.size := HLT.out _ H3.out; clear h2))
      | (go_at_call 8; ((with_reducible refine (HW.out _).mono ?_); rintro e w4 ⟨rfl, h3⟩; have H4 := Lib.hid (H3.out.trans (h3.mono H3.out.size)); clear h3)))
    go_ret
    exact ⟨rfl, HB0.out.trans (H4.out.mono HB0.out.size)⟩
  have HFT := Lib.hid hft
  obtain ⟨x, ho⟩ : ∃ x, kindOf ⟨l, root⟩ n = some x := by
    cases ho : kindOf ⟨l, root⟩ n with
    | none => rw [ho] at hft; cases hft
    | some x => exact ⟨x, rfl⟩
  clear hft
  obtain ⟨hok, i, rfl, hil, hx⟩ := kindOf_some ho
  simp only at hil hx
  have HOK := Lib.hid hok
  have HO := Lib.hid ho
  have HX := Lib.hid hx
  obtain ⟨h8, _⟩ := ok_least ho
  have HS3 := Lib.hid (ok_slots ho HFEW.out)
  obtain ⟨b, off, rfl, hblt, hkc⟩ := HK.out (by omega)
  obtain ⟨sa, sc, c0, c1, c2, hs⟩ := hkc i x hx
  have HC := Lib.hid c2
  have HC0 := Lib.hid c0
  have HC1 := Lib.hid c1
  clear c0 c1
  have HS := Lib.hid hs
  have hi2 : (i : Int) < (l.length : Int) := by omega
  clear hok hx hkc c2 ho hs
  by_cases h1 : sn < 0
  · skip
    go_enter Try.func6, Try.ntmps6
    go_wp2_with (first
      | (go_at_call 7; ((with_reducible refine (great_any _ _ _ (grV (HK.out.below (box_below _ _))) HF.out).mono ?_); rintro e w2 ⟨rfl, h2⟩; rw [HG.out]; rw [← HW0.out] at h2; have H2 := Lib.hid h2; obtain ⟨q0, q1⟩ := HBOX.out _ h2; have hz2 : w.heap.size < w2.heap.size := HLT.out _ h2; clear h2))
      | (go_at_call 19; ((with_reducible refine (fits_any _ _ ⟨l, root⟩ (i : Int) _ _ kids (grV ((HK.out.below HB0.out).below H2.out)) HFEW.out ((HA.out.below HB0.out).below H2.out) hk300).mono ?_); rintro e w3 ⟨rfl, h2⟩; rw [HFT.out]; have H3 := Lib.hid (H2.out.trans (h2.mono H2.out.size)); obtain ⟨q2, q3⟩ := HBOX.out _ H3.out; have hz3 : w.heap.size < w3.heap.size := HLT.out _ H3.out; clear h2))
      | (go_at_call 8; ((with_reducible refine (HW.out _).mono ?_); rintro e w4 ⟨rfl, h3⟩; have H4 := Lib.hid (H3.out.trans (h3.mono H3.out.size)); clear h3)))
    go_ret
    exact ⟨rfl, HB0.out.trans (H4.out.mono HB0.out.size)⟩
  by_cases h2 : (x.slots.length : Int) ≤ sn
  · skip
    go_enter Try.func6, Try.ntmps6
    go_wp2_with (first
      | (go_at_call 7; ((with_reducible refine (great_any _ _ _ (grV (HK.out.below (box_below _ _))) HF.out).mono ?_); rintro e w2 ⟨rfl, h2⟩; rw [HG.out]; rw [← HW0.out] at h2; have H2 := Lib.hid h2; obtain ⟨q0, q1⟩ := HBOX.out _ h2; have hz2 : w.heap.size < w2.heap.size := HLT.out _ h2; clear h2))
      | (go_at_call 19; ((with_reducible refine (fits_any _ _ ⟨l, root⟩ (i : Int) _ _ kids (grV ((HK.out.below HB0.out).below H2.out)) HFEW.out ((HA.out.below HB0.out).below H2.out) hk300).mono ?_); rintro e w3 ⟨rfl, h2⟩; rw [HFT.out]; have H3 := Lib.hid (H2.out.trans (h2.mono H2.out.size)); obtain ⟨q2, q3⟩ := HBOX.out _ H3.out; have hz3 : w.heap.size < w3.heap.size := HLT.out _ H3.out; have d2 := ((HB0.out.trans (H3.out.mono HB0.out.size)).cell hblt).trans HC.out; have hbz := Nat.lt_of_lt_of_le hblt (HB0.out.trans (H3.out.mono HB0.out.size)).size; clear h2))
      | (go_at_call 8; ((with_reducible refine (HW.out _).mono ?_); rintro e w4 ⟨rfl, h3⟩; have H4 := Lib.hid (H3.out.trans (h3.mono H3.out.size)); clear h3)))
    go_ret
    exact ⟨rfl, HB0.out.trans (H4.out.mono HB0.out.size)⟩
  obtain ⟨j, rfl⟩ : ∃ j : Nat, sn = (j : Int) := ⟨sn.toNat, by omega⟩
  have hj0 : decide ((j : Int) < 0) = false := by rw [decide_eq_false]; omega
  have hj1 : decide (x.slots.length ≤ j) = false := by rw [decide_eq_false]; omega
  have hjl : j < x.slots.length := by omega
  clear h1 h2
  have hi4 : (Try.prog.info? 3).map (fun i => (i.zero, i.size, i.bytes)) = some (some (.int .i64 0), 1, 8) := by kernel_rfl
  obtain ⟨i0, hi0, hx0⟩ := Option.map_eq_some_iff.1 hi4
  simp only [Prod.mk.injEq] at hx0
  have HI0 := Lib.hid (show Try.prog.info? 3 = some i0 ∧ i0.zero = some (.int .i64 0) ∧ i0.size = 1 ∧ i0.bytes = 8 from ⟨hi0, hx0.1, hx0.2.1, hx0.2.2⟩)
  clear hi4 hi0 hx0
  have hik : (Try.prog.info? 39).map (fun i => (i.size, i.bytes, i.zero.map (fun z => z.cells.size))) = some (3, 48, some 3) := by kernel_rfl
  obtain ⟨ik, zk, hik1, hik2, hik3, hik4, hik5⟩ := info_wide hik
  have HIK := Lib.hid (And.intro hik1 (And.intro hik2 (And.intro hik3 (And.intro hik4 hik5))))
  clear hik hik1 hik2 hik3 hik4 hik5
  have HLL := Lib.hid (show 0 < l.length by omega)
  have HCELL := Lib.hid (kinds_cells HK.out)
  have hl40 : l.length ≤ 40 := H40.out
  go_enter Try.func6, Try.ntmps6
  go_upto_region 4 with (first
    | (go_at_call 7; ((with_reducible refine (great_any _ _ _ (grV (HK.out.below (box_below _ _))) HF.out).mono ?_); rintro e w2 ⟨rfl, h2⟩; rw [HG.out]; rw [← HW0.out] at h2; have H2 := Lib.hid h2; obtain ⟨q0, q1⟩ := HBOX.out _ h2; have hz2 : w.heap.size < w2.heap.size := HLT.out _ h2; clear h2))
    | (go_at_call 19; ((with_reducible refine (fits_any _ _ ⟨l, root⟩ (i : Int) _ _ kids (grV ((HK.out.below HB0.out).below H2.out)) HFEW.out ((HA.out.below HB0.out).below H2.out) hk300).mono ?_); rintro e w3 ⟨rfl, h2⟩; rw [HFT.out]; have H3 := Lib.hid (H2.out.trans (h2.mono H2.out.size)); obtain ⟨q2, q3⟩ := HBOX.out _ H3.out; have hz3 : w.heap.size < w3.heap.size := HLT.out _ H3.out; have d2 := ((HB0.out.trans (H3.out.mono HB0.out.size)).cell hblt).trans HC.out; have hbz := Nat.lt_of_lt_of_le hblt (HB0.out.trans (H3.out.mono HB0.out.size)).size; clear h2)))
  have HB4 := Lib.hid (show Below W0.heap.size W0 (w3.alloc (.cells #[.slice none 0 0, .int .i64 root] 24)) from H3.out.alloc H3.out.size _)
  have HNEW := Lib.hid (show ∀ jj u, (rowC w b off (l.length * 3))[jj]? = some u → (w3.alloc (.cells #[.slice none 0 0, .int .i64 root] 24)).cell? ((⟨b, off, none⟩ : Addr).add jj) = some u from fun jj u hu => by
    rw [Addr.add_mid]
    exact ((HB0.out.trans (HB4.out.mono HB0.out.size)).cell (p := ⟨b, off + jj, none⟩) hblt).trans (rowC_at hu HCELL.out).1)
  have HONE := Lib.hid (show ∀ u ∈ rowC w b off (l.length * 3), u.oneCell' = true from fun u hu => by
    obtain ⟨jj, hjj⟩ := List.mem_iff_getElem?.1 hu
    exact (rowC_at hjj HCELL.out).2)
  go_upto_region 5 with (at_builtin; refine wpList_append_own _ rfl (.tmp 54) (.tmp 56) 22 rfl (w3.heap.size + 1) 39 ik zk 3 48 Try.underlying22 HIK.out.1 HIK.out.2.1 HIK.out.2.2.1 HIK.out.2.2.2.1 HIK.out.2.2.2.2 (by decide) (.slice none 0 0) 0 [] rfl (World.ownsRow_nil _ _ _ _) ⟨b, off, none⟩ l.length kc (rowC w b off (l.length * 3)) rfl (rowC_len _ _ _ _) (HNEW.out) (HONE.out) (by unfold maxLen; omega) (by omega) (by simp) ?_; intro v1 w4 hown1 hgrow1 _; obtain ⟨g1, c1, cur1, rfl, hg1, hh1, hcur1⟩ := owns_copy (by simpa using hown1) HLL.out HCELL.out; have HA1 := Lib.hid (And.intro hg1 (And.intro hh1 hcur1)); have HG1 := Lib.hid hgrow1; have p0 := (grow_none hgrow1 (show w3.heap.size < (w3.alloc (.cells #[.slice none 0 0, .int .i64 root] 24)).heap.size by simp)).trans (heap_alloc_new w3 _); have p1 := cell0 p0 0 rfl; have p2 := cell0 p0 1 rfl; have p3 := frozen_of_row w4 w3.heap.size 0 _ _ p0; have HP0 := Lib.hid p0; clear hown1 hgrow1 hg1 hh1 hcur1 p0)
  obtain ⟨wb, hwb⟩ : ∃ wb, wb = w3.heap.size := ⟨_, rfl⟩
  rw [← hwb] at HP0 HA1 ⊢
  have hgw : ¬ g1 = wb := by have := HA1.out.1; omega
  obtain ⟨X1, hX1⟩ : ∃ X1, X1 = w4.setCell ⟨wb, 0, none⟩ (.slice (some ⟨g1, 0, none⟩) l.length c1) := ⟨_, rfl⟩
  have hx1w : X1.heap[wb]? = some (.cells #[.slice (some ⟨g1, 0, none⟩) l.length c1, .int .i64 root] 24 (0, 0)) := by rw [hX1, heap_setCell_same _ wb 0 _ _ _ HP0.out]; rfl
  have hx1g : X1.heap[g1]? = some (.cells cur1 39 (0, 0)) := by rw [hX1, Below.heap_setCell _ _ _ _ hgw]; exact HA1.out.2.1
  have hx1b : Below W0.heap.size W0 X1 := by
    rw [hX1]
    refine Below.setCell ?_ (by show W0.heap.size ≤ wb; rw [hwb]; exact H3.out.size) _
    exact HB4.out.grown HG1.out HB4.out.size (fun k hk => by cases hk)
  have HX1 := Lib.hid (And.intro hx1w (And.intro hx1g hx1b))
  have HWB := Lib.hid (show W0.heap.size ≤ wb ∧ W0.heap.size ≤ g1 from ⟨by rw [hwb]; exact H3.out.size, by have := HA1.out.1; have h9 := H3.out.size; omega⟩)
  rw [← hX1]
  obtain ⟨sb, soff, rfl, hsbz, hsc⟩ := HS.out (by omega)
  have hxi := HX.out
  have k0 : X1.cell? ⟨g1, i * 3, none⟩ = some (.string x.name) := by rw [cell_of_row X1 g1 _ _ _ _ hx1g, HA1.out.2.2 (i * 3) (by omega)]; exact HC0.out
  have k1 : X1.cell? ⟨g1, i * 3 + 1, none⟩ = some (.bool x.text) := by rw [cell_of_row X1 g1 _ _ _ _ hx1g, HA1.out.2.2 (i * 3 + 1) (by omega), ← Nat.add_assoc]; exact HC1.out
  have k2 : X1.cell? ⟨g1, i * 3 + 2, none⟩ = some (.slice (some ⟨sb, soff, none⟩) x.slots.length sc) := by rw [cell_of_row X1 g1 _ _ _ _ hx1g, HA1.out.2.2 (i * 3 + 2) (by omega), ← Nat.add_assoc]; exact HC.out
  have k3 := cell0 hx1w 0 rfl
  have hz5 : g1 < X1.heap.size := lt_of_some' hx1g
  have hz6 : wb < X1.heap.size := lt_of_some' hx1w
  have HCELS := Lib.hid (slots_cells HS.out)
  have HLS := Lib.hid (show 0 < x.slots.length by omega)
  have HWX := Lib.hid (HB0.out.trans (hx1b.mono HB0.out.size))
  have HXB := Lib.hid (show ((X1.alloc (.cells #[.string x.name, .bool x.text, .slice (some ⟨sb, soff, none⟩) x.slots.length sc] 39)).alloc (.cells #[] 41)).heap[X1.heap.size]? = _ from (two_heap X1 _ _).1)
  have HEMP := Lib.hid (show ((X1.alloc (.cells #[.string x.name, .bool x.text, .slice (some ⟨sb, soff, none⟩) x.slots.length sc] 39)).alloc (.cells #[] 41)).ownsRow X1.heap.size 41 3 (.slice (some ⟨X1.heap.size + 1, 0, none⟩) 0 0) 0 [] from by
    have := World.ownsRow_made (base := X1.heap.size) (e := 41) (size := 3) (X1.alloc (.cells #[.string x.name, .bool x.text, .slice (some ⟨sb, soff, none⟩) x.slots.length sc] 39)) #[] 0 (by simp) (by unfold maxLen; omega) rfl
    simpa using this)
  have HNEW2 := Lib.hid (show ∀ jj u, (rowC w sb soff (x.slots.length * 3))[jj]? = some u → ((X1.alloc (.cells #[.string x.name, .bool x.text, .slice (some ⟨sb, soff, none⟩) x.slots.length sc] 39)).alloc (.cells #[] 41)).cell? ((⟨sb, soff, none⟩ : Addr).add jj) = some u from fun jj u hu => by
    rw [Addr.add_mid]
    have hbb := HWX.out.trans ((two_boxes_alloc (Below.refl X1.heap.size X1) (.cells #[.string x.name, .bool x.text, .slice (some ⟨sb, soff, none⟩) x.slots.length sc] 39) (.cells #[] 41)).mono HWX.out.size)
    exact (hbb.cell (p := ⟨sb, soff + jj, none⟩) hsbz).trans (rowC_at hu HCELS.out).1)
  have HONE2 := Lib.hid (show ∀ u ∈ rowC w sb soff (x.slots.length * 3), u.oneCell' = true from fun u hu => by
    obtain ⟨jj, hjj⟩ := List.mem_iff_getElem?.1 hu
    exact (rowC_at hjj HCELS.out).2)
  have hiz : (Try.prog.info? 41).map (fun i => (i.size, i.bytes, i.zero.map (fun z => z.cells.size))) = some (3, 40, some 3) := by kernel_rfl
  obtain ⟨iz, zz, hiz1, hiz2, hiz3, hiz4, hiz5⟩ := info_wide hiz
  have HIZ := Lib.hid (And.intro hiz1 (And.intro hiz2 (And.intro hiz3 (And.intro hiz4 hiz5))))
  clear hiz hiz1 hiz2 hiz3 hiz4 hiz5 hX1 hx1w hx1g hx1b hwb p1 p2 p3 hxi hsc d2 hbz hz2 hz3 q0 q1 q2 q3 hj0 hj1 h5'
  go_upto_region 7 with (at_builtin; refine wpList_append_own _ rfl (.tmp 64) (.tmp 66) 37 rfl X1.heap.size 41 iz zz 3 40 Try.underlying37 HIZ.out.1 HIZ.out.2.1 HIZ.out.2.2.1 HIZ.out.2.2.2.1 HIZ.out.2.2.2.2 (by decide) (.slice (some ⟨X1.heap.size + 1, 0, none⟩) 0 0) 0 [] rfl HEMP.out ⟨sb, soff, none⟩ x.slots.length sc (rowC w sb soff (x.slots.length * 3)) rfl (rowC_len _ _ _ _) (HNEW2.out) (HONE2.out) (by unfold maxLen; omega) (by omega) (by simp; omega) ?_; intro v2 w5 hown2 hgrow2 _; obtain ⟨g2, c2, cur2, rfl, hg2, hh2, hcur2⟩ := owns_copy (by simpa using hown2) HLS.out HCELS.out; have HA2 := Lib.hid (And.intro hg2 (And.intro hh2 hcur2)); have HGR2 := Lib.hid hgrow2; have r0 := (hgrow2.block X1.heap.size (by simp; omega) (by simp [Value.ownBlock])).trans HXB.out; have r1 := cell0 r0 2 rfl; have r3 := frozen_of_row w5 X1.heap.size 2 _ _ r0; have HR0 := Lib.hid r0; clear hown2 hgrow2 hg2 hh2 hcur2 r0)
  obtain ⟨xb, hxb⟩ : ∃ xb, xb = X1.heap.size := ⟨_, rfl⟩
  have hne2 : ¬ g2 = xb := fun e => by
    have h1 := HR0.out
    have h2 := HA2.out.2.1
    rw [e, hxb, h1] at h2
    cases h2
  have HBO := Lib.hid (show Below X1.heap.size X1 w5 from (two_boxes_alloc (Below.refl _ _) _ _).grown HGR2.out (by simp; omega) (fun k hk => by simp [Value.ownBlock] at hk; omega))
  rw [← hxb] at HR0
  rw [← hxb]
  obtain ⟨X2, hX2⟩ : ∃ X2, X2 = w5.setCell ⟨xb, 2, none⟩ (.slice (some ⟨g2, 0, none⟩) x.slots.length c2) := ⟨_, rfl⟩
  have hx2b : Below X1.heap.size X1 X2 := by rw [hX2]; exact HBO.out.setCell (by show X1.heap.size ≤ xb; omega) _
  have hx2x : X2.heap[xb]? = some (.cells #[.string x.name, .bool x.text, .slice (some ⟨g2, 0, none⟩) x.slots.length c2] 39 (0, 0)) := by rw [hX2, heap_setCell_same _ xb 2 _ _ _ HR0.out]; rfl
  have hx2g : X2.heap[g2]? = some (.cells cur2 41 (0, 0)) := by rw [hX2, Below.heap_setCell _ _ _ _ hne2]; exact HA2.out.2.1
  have hx2w : X2.heap[wb]? = _ := (hx2b.block wb (lt_of_some' HX1.out.1)).trans HX1.out.1
  have hx2k : X2.heap[g1]? = _ := (hx2b.block g1 (lt_of_some' HX1.out.2.1)).trans HX1.out.2.1
  have HX2 := Lib.hid (And.intro hx2w (And.intro hx2k (And.intro hx2x (And.intro hx2g (HX1.out.2.2.trans (hx2b.mono HX1.out.2.2.size))))))
  have HLE := Lib.hid (show wb < xb ∧ g1 < xb ∧ xb ≤ g2 from ⟨by rw [hxb]; exact lt_of_some' HX1.out.1, by rw [hxb]; exact lt_of_some' HX1.out.2.1, by rw [hxb]; exact HA2.out.1⟩)
  rw [← hX2]
  obtain ⟨s, hsx⟩ : ∃ s, x.slots[j]? = some s := ⟨x.slots[j], List.getElem?_eq_getElem hjl⟩
  obtain ⟨hs0, hs1, hs2, hs3⟩ := HS3.out s (List.mem_of_getElem? hsx)
  obtain ⟨sb', soff', he, _, hsc⟩ := HS.out (by omega)
  cases he
  obtain ⟨ka2, kc2, d0, d1, d2, hii⟩ := hsc j s hsx
  have k4 : X2.cell? ⟨g2, j * 3, none⟩ = some (.slice ka2 s.kinds.length kc2) := by rw [cell_of_row X2 g2 _ _ _ _ hx2g, HA2.out.2.2 (j * 3) (by omega)]; exact d0
  have k5 : X2.cell? ⟨g2, j * 3 + 1, none⟩ = some (.int .i64 s.least) := by rw [cell_of_row X2 g2 _ _ _ _ hx2g, HA2.out.2.2 (j * 3 + 1) (by omega), ← Nat.add_assoc]; exact d1
  have k6 : X2.cell? ⟨g2, j * 3 + 2, none⟩ = some (.int .i64 s.most) := by rw [cell_of_row X2 g2 _ _ _ _ hx2g, HA2.out.2.2 (j * 3 + 2) (by omega), ← Nat.add_assoc]; exact d2
  have k7 := cell0 hx2x 2 rfl
  have hz7 : g2 < X2.heap.size := lt_of_some' hx2g
  have hz8 : xb < X2.heap.size := lt_of_some' hx2x
  have hjl2 : (j : Int) < (x.slots.length : Int) := by omega
  have HI := Lib.hid hii
  have HSX := Lib.hid hsx
  have HF40 := Lib.hid (kinds40 HG.out HX.out hsx)
  obtain ⟨m1, hm1⟩ : ∃ m1, (if mr < 0 then 0 else mr) = m1 := ⟨_, rfl⟩
  obtain ⟨m2, hm2⟩ : ∃ m2, (if 1000 < m1 then 1000 else m1) = m2 := ⟨_, rfl⟩
  obtain ⟨mm, hmm⟩ : ∃ mm, (if 1000 < s.most + m2 then 1000 else s.most + m2) = mm := ⟨_, rfl⟩
  have hm2b : 0 ≤ m2 ∧ m2 ≤ 1000 := by split at hm1 <;> split at hm2 <;> omega
  have HMM := Lib.hid (show s.most ≤ mm ∧ mm ≤ 1000 by split at hmm <;> omega)
  have hm2c := hm2b.1
  have hm2d := hm2b.2
  have hki : ∃ d : Bool, (d = false → 0 ≤ ot ∧ ot < (l.length : Int)) ∧ ((ot < 0 ∧ d = true) ∨ (¬ ot < 0 ∧ decide ((l.length : Int) ≤ ot) = d)) := by
    by_cases ho : ot < 0
    · exact ⟨true, (fun e => by cases e), Or.inl ⟨ho, rfl⟩⟩
    · refine ⟨decide ((l.length : Int) ≤ ot), fun e => ?_, Or.inr ⟨ho, rfl⟩⟩
      have := of_decide_eq_false e
      omega
  obtain ⟨d, hd, hdd⟩ := hki
  have HD := Lib.hid hd
  clear hX2 hx2b hx2x hx2g hx2w hx2k hsc hsx d0 d1 d2 hii hs0 hm2b hd hxb r1 r3 k0 k1 k2
  have HZ := Lib.hid (And.intro hz7 hz8)
  have hz9 : wb < X2.heap.size := by have := HLE.out; omega
  have HTOT := Lib.hid (show (insO ot d s.kinds).length ≤ 41 by have h1 := (len_ins (o := ot) d s.kinds).2; have h2 := HF40.out; omega)
  rcases hdd with ⟨ho, rfl⟩ | ⟨ho, hdl⟩
  · go_wp2_with fail
    clear ho
    obtain ⟨X3, hX3⟩ : ∃ X3, X3 = X2.alloc (.cells #[.slice ka2 s.kinds.length kc2, .int .i64 s.least, .int .i64 mm] 41) := ⟨_, rfl⟩
    have hx3b : Below X2.heap.size X2 X3 := by rw [hX3]; exact box_below _ _
    have hx3t : X3.heap[X2.heap.size]? = some (.cells #[.slice ka2 s.kinds.length kc2, .int .i64 s.least, .int .i64 mm] 41 (0, 0)) := by rw [hX3]; exact heap_alloc_new _ _
    have HX3 := Lib.hid (And.intro hx3b hx3t)
    obtain ⟨tb, htb⟩ : ∃ tb, tb = X2.heap.size := ⟨_, rfl⟩
    have HTB := Lib.hid htb
    rw [← hX3, ← htb]
    clear hX3 hx3b hx3t htb k4 k5 k6 k7 k3 hm1 hm2 hmm
    go_loopw [16, 17, 94] (fun v dn i wr => WideL X3 ot true s.kinds v dn i wr) (fun _ _ i _ => s.kinds.length - (intOf i).toNat)
    case atStart => exact ⟨0, [], true, Nat.zero_le _, rfl, rfl, by simp, ⟨rfl, Or.inl ⟨rfl, rfl⟩⟩, Below.refl _ _, rfl, fun _ => Nat.le_refl _⟩
    case round =>
      obtain ⟨k, K, d', hkl, rfl, rfl, hKl, hown, hbel, hins, hKd⟩ := hrel
      obtain ⟨va, vc, rfl⟩ := owns_slice hown
      have HOWN := Lib.hid hown
      have HB := Lib.hid hbel
      have HINS := Lib.hid hins
      have hk40 : s.kinds.length ≤ 40 := HF40.out
      by_cases hlt : k < s.kinds.length
      case neg =>
        have HFIN := Lib.hid (ins_end hins (by omega))
        have hk3 : ¬ (k : Int) < (s.kinds.length : Int) := by omega
        clear hins hlt hown hbel hKd
        cases d'
        · have HN := Lib.hid (show K ++ [ot] = insO ot true s.kinds from HFIN.out)
          have HNL := Lib.hid (show K.length + 1 = (insO ot true s.kinds).length by rw [← HN.out]; simp)
          go_upto_region 22 with (at_builtin; refine wpList_append_own _ rfl (.tmp 119) (.tmp 121) 35 rfl X3.heap.size 3 i0 (.int .i64 0) 1 8 Try.underlying35 HI0.out.1 HI0.out.2.1 HI0.out.2.2.1 HI0.out.2.2.2 rfl (by decide) _ _ _ rfl (HOWN.out.alloc _) ⟨wr.heap.size, 0, none⟩ 1 1 [.int .i64 ot] rfl rfl (cell_one_new _ _ _) (ints_oneCell .i64 [ot]) (by unfold maxLen; omega) (by omega) (by have := HB.out.size; simp; omega) ?_; intro v1 w7 hown1 hgrow1 _; obtain ⟨va1, vc1, rfl⟩ := owns_slice hown1; have HB1 := Lib.hid (app_below HOWN.out HB.out hgrow1); have HO1 := Lib.hid (own_snoc hown1); clear hown1 hgrow1)
          rw [HNL.out]
          have HOI := Lib.hid (show w7.ownsRow X3.heap.size 3 1 (.slice va1 (insO ot true s.kinds).length vc1) (insO ot true s.kinds).length ((insO ot true s.kinds).map (Value.int .i64)) by have h9 := HO1.out; rw [HNL.out, HN.out] at h9; exact h9)
          have hb24 : Below X2.heap.size X2 w7 := HX3.out.1.trans (HB1.out.mono HX3.out.1.size)
          have e1 := (hb24.block wb (by have h1 := HLE.out; have h2 := HZ.out; omega)).trans HX2.out.1
          have e2 := (hb24.block g1 (by have h1 := HLE.out; have h2 := HZ.out; omega)).trans HX2.out.2.1
          have e3 := (hb24.block xb HZ.out.2).trans HX2.out.2.2.1
          have e4 := (hb24.block g2 HZ.out.1).trans HX2.out.2.2.2.1
          have e5 := (HB1.out.block _ (lt_of_some' HX3.out.2)).trans HX3.out.2
          rw [← HTB.out] at e5
          have t0 := cell0 e5 0 rfl
          have t1 := frozen_of_row w7 tb 0 _ _ e5
          have t2 := lt_of_some' e5
          go_upto_region 23 with fail
          obtain ⟨M, hM⟩ : ∃ M, M = insO ot true s.kinds := ⟨_, rfl⟩
          rw [← hM] at HOI ⊢
          have hM41 : M.length ≤ 41 := by rw [hM]; exact HTOT.out
          have HMI := Lib.hid hM
          obtain ⟨Y1, hY1⟩ : ∃ Y1, Y1 = w7.setCell ⟨tb, 0, none⟩ (.slice va1 M.length vc1) := ⟨_, rfl⟩
          have hlt1 : wb < tb ∧ g1 < tb ∧ xb < tb ∧ g2 < tb := by
            have h1 := HLE.out
            have h2 := HZ.out
            have h3 := HTB.out
            omega
          have f1 := (Below.heap_setCell w7 ⟨tb, 0, none⟩ (.slice va1 M.length vc1) wb (by show wb ≠ tb; omega)).trans e1
          rw [← hY1] at f1
          have f2 := (Below.heap_setCell w7 ⟨tb, 0, none⟩ (.slice va1 M.length vc1) g1 (by show g1 ≠ tb; omega)).trans e2
          rw [← hY1] at f2
          have f3 := (Below.heap_setCell w7 ⟨tb, 0, none⟩ (.slice va1 M.length vc1) xb (by show xb ≠ tb; omega)).trans e3
          rw [← hY1] at f3
          have f4 := (Below.heap_setCell w7 ⟨tb, 0, none⟩ (.slice va1 M.length vc1) g2 (by show g2 ≠ tb; omega)).trans e4
          rw [← hY1] at f4
          have f5 := heap_setCell_same w7 tb 0 _ _ (.slice va1 M.length vc1) e5
          rw [← hY1] at f5
          have hb25 : Below X2.heap.size X2 Y1 := by rw [hY1]; exact hb24.setCell (by show X2.heap.size ≤ tb; rw [HTB.out]; exact Nat.le_refl _) _
          have HB25 := Lib.hid hb25
          have HKEEP := Lib.hid (show ∀ k, X3.heap.size ≤ k → Y1.heap[k]? = w7.heap[k]? from fun k hk => by rw [hY1]; exact Below.heap_setCell _ _ _ _ (by show k ≠ tb; have h1 := lt_of_some' HX3.out.2; have h2 := HTB.out; omega))
          rw [← hY1]
          have HF1 := Lib.hid (And.intro f1 (And.intro f2 (And.intro f3 (And.intro f4 f5))))
          have s0 := cell0 f3 2 rfl
          have s1 : Y1.cell? ⟨tb, 0, none⟩ = some (.slice va1 M.length vc1) := cell0 f5 0 rfl
          have s2 : Y1.cell? ⟨tb, 0 + 1, none⟩ = some (.int .i64 s.least) := cell0 f5 1 rfl
          have s3 : Y1.cell? ⟨tb, 0 + 2, none⟩ = some (.int .i64 mm) := cell0 f5 2 rfl
          have hc2 : j * 3 + 2 < cur2.size := by
            obtain ⟨u, hu, _⟩ := HCELS.out (j * 3 + 2) (by omega)
            rw [← HA2.out.2.2 (j * 3 + 2) (by omega)] at hu
            exact (Array.getElem?_eq_some_iff.1 hu).1
          obtain ⟨⟨o0, v0⟩, v1, ⟨o1, v2⟩, v3, ⟨o2, v4⟩, v5, v6, v7⟩ := store3 (.slice va1 M.length vc1) (.int .i64 s.least) (.int .i64 mm) f4 hc2
          have HV := Lib.hid (And.intro v6 v7)
          have HC2 := Lib.hid hc2
          have s5 := lt_of_some' f3
          have s6 := lt_of_some' f4
          have s7 := lt_of_some' f5
          clear v6 v7 hc2 f1 f2 f3 f4 f5 e1 e2 e3 e4 e5 t0 t1 t2 hb24 hb25 hM hY1
          go_upto_region 24 with fail
          obtain ⟨Y2, hY2⟩ : ∃ Y2, Y2 = (((Y1.setCell ⟨g2, j * 3, none⟩ (.slice va1 M.length vc1)).setCell ⟨g2, j * 3 + 1, none⟩ (.int .i64 s.least)).setCell ⟨g2, j * 3 + 2, none⟩ (.int .i64 mm)) := ⟨_, rfl⟩
          rw [← hY2]
          have hv := HV.out
          rw [← hY2] at hv
          obtain ⟨f4, f7⟩ := hv
          have hgx : wb ≠ g2 ∧ g1 ≠ g2 ∧ xb ≠ g2 ∧ W0.heap.size ≤ g2 := by
            have h1 := HLE.out
            have h2 := HWB.out
            exact ⟨by omega, by omega, fun e => hne2 e.symm, by omega⟩
          have f1 := (f7 wb hgx.1).trans HF1.out.1
          have f2 := (f7 g1 hgx.2.1).trans HF1.out.2.1
          have f3 := (f7 xb hgx.2.2.1).trans HF1.out.2.2.1
          have hb26 : Below W0.heap.size W0 Y2 := by
            rw [hY2]
            exact (((HX2.out.2.2.2.2.trans (HB25.out.mono HX2.out.2.2.2.2.size)).setCell hgx.2.2.2 _).setCell hgx.2.2.2 _).setCell hgx.2.2.2 _
          have hc1 : i * 3 + 2 < cur1.size := by
            obtain ⟨u, hu, _⟩ := HCELL.out (i * 3 + 2) (by omega)
            rw [← HA1.out.2.2 (i * 3 + 2) (by omega)] at hu
            exact (Array.getElem?_eq_some_iff.1 hu).1
          obtain ⟨⟨o3, y0⟩, y1, ⟨o4, y2⟩, y3, ⟨o5, y4⟩, y5, y6, y7⟩ := store3 (.string x.name) (.bool x.text) (.slice (some ⟨g2, 0, none⟩) x.slots.length c2) f2 hc1
          have r0 := cell0 f1 0 rfl
          have r2 : Y2.cell? ⟨xb, 0, none⟩ = some (.string x.name) := cell0 f3 0 rfl
          have r3 : Y2.cell? ⟨xb, 0 + 1, none⟩ = some (.bool x.text) := cell0 f3 1 rfl
          have r4 : Y2.cell? ⟨xb, 0 + 2, none⟩ = some (.slice (some ⟨g2, 0, none⟩) x.slots.length c2) := cell0 f3 2 rfl
          have r5 := lt_of_some' f1
          have r6 := lt_of_some' f2
          have r7 := lt_of_some' f3
          have HY := Lib.hid (And.intro y6 (And.intro y7 (And.intro f1 (And.intro f4 (And.intro hb26 (And.intro hc1 f7))))))
          have hil2 : (i : Int) < (l.length : Int) := by omega
          clear y6 y7 f1 f2 f3 f4 f7 hb26 hc1 hY2 s0 s1 s2 s3 s5 s6 s7 v0 v1 v2 v3 v4 v5 hgx
          go_upto_region 25 with fail
          obtain ⟨Z, hZ⟩ : ∃ Z, Z = (((Y2.setCell ⟨g1, i * 3, none⟩ (.string x.name)).setCell ⟨g1, i * 3 + 1, none⟩ (.bool x.text)).setCell ⟨g1, i * 3 + 2, none⟩ (.slice (some ⟨g2, 0, none⟩) x.slots.length c2)) := ⟨_, rfl⟩
          rw [← hZ]
          have hv := HY.out
          rw [← hZ] at hv
          obtain ⟨z1, z7, f1, f4, hb26, hc1, f7⟩ := hv
          have hgx : wb ≠ g1 ∧ g2 ≠ g1 ∧ W0.heap.size ≤ g1 ∧ g1 < X3.heap.size ∧ g2 < X3.heap.size := by
            have h1 := HLE.out
            have h2 := HWB.out
            have h3 := HZ.out
            have h4 := lt_of_some' HX3.out.2
            exact ⟨fun e => hgw e.symm, by omega, by omega, by omega, by omega⟩
          have z2 := (z7 g2 hgx.2.1).trans f4
          have z3 := (z7 wb hgx.1).trans f1
          have hb27 : Below W0.heap.size W0 Z := by
            rw [hZ]
            exact ((hb26.setCell hgx.2.2.1 _).setCell hgx.2.2.1 _).setCell hgx.2.2.1 _
          have hiz : IntsAt Z va1 M := ints_keep HOI.out (fun k hk => ((z7 k (by omega)).trans (f7 k (by omega))).trans (HKEEP.out k hk))
          have hkz := wide_mem HMI.out HK.out HS.out (HB0.out.trans (hb27.mono HB0.out.size)) HA1.out.2.2 HA2.out.2.2 hc1 HC2.out z1 z2 hiz
          have hok : grOk (wideG ⟨l, root⟩ i (wideK x j (wideS s ot true mm))) = true := wideG_ok HOK.out HX.out (wideS_ok (slot_in HOK.out HX.out HSX.out) HD.out HMM.out.1 HMM.out.2)
          have HOKZ := Lib.hid (errN_yes hok)
          have HFZ := Lib.hid (show fitsV (kindOf (wideG ⟨l, root⟩ i (wideK x j (wideS s ot true mm))) (i : Int)) kids = true by rw [wide_kind HX.out hok]; exact wide_fits HSX.out HMM.out.1 (by have h9 := HFT.out; rw [HO.out] at h9; exact h9))
          have HFEZ := Lib.hid (wide_few (s := s) (o := ot) (m := mm) (d := true) (j := j) HFEW.out HX.out HF40.out)
          have HGV := Lib.hid (show ∀ X, Below Z.heap.size Z X → GrV X (.agg #[.slice (some ⟨g1, 0, none⟩) l.length c1, .int .i64 root]) (wideG ⟨l, root⟩ i (wideK x j (wideS s ot true mm))) from fun X hX => by
            have h9 := grV (root := root) (kc := c1) (hkz.below hX)
            rw [List.length_set] at h9
            exact h9)
          have HSEE := Lib.hid (show ∀ X, Below Z.heap.size Z X → X.cell? ⟨wb, 0, none⟩ = some (.slice (some ⟨g1, 0, none⟩) l.length c1) ∧ X.cell? ⟨wb, 0 + 1, none⟩ = some (.int .i64 root) ∧ wb < X.heap.size from fun X hX => by
            have h9 := (hX.block wb (lt_of_some' z3)).trans z3
            exact ⟨cell0 h9 0 rfl, cell0 h9 1 rfl, lt_of_some' h9⟩)
          have HBZ := Lib.hid hb27
          obtain ⟨q0, q1, q2⟩ := HSEE.out Z (Below.refl _ _)
          clear z1 z2 z3 z7 f1 f4 f7 hb26 hb27 hc1 hiz hkz hok hgx hZ r0 r2 r3 r4 r5 r6 r7 y0 y1 y2 y3 y4 y5
          go_wp2_with (first
            | (go_at_call 11; ((with_reducible refine (check_any _ _ (wideG ⟨l, root⟩ i (wideK x j (wideS s ot true mm))) (HGV.out _ (Below.refl _ _)) HFEZ.out).mono ?_); rintro e w6 ⟨rfl, h2⟩; rw [HOKZ.out]; have H6 := Lib.hid h2; obtain ⟨q3, q4, q5⟩ := HSEE.out _ h2; clear h2))
            | (go_at_call 19; ((with_reducible refine (fits_any _ _ (wideG ⟨l, root⟩ i (wideK x j (wideS s ot true mm))) (i : Int) _ _ kids (HGV.out _ H6.out) HFEZ.out ((HA.out.below HB0.out).below (HBZ.out.trans (H6.out.mono HBZ.out.size))) hk300).mono ?_); rintro e w8 ⟨rfl, h2⟩; rw [HFZ.out]; have H8 := Lib.hid (H6.out.trans (h2.mono H6.out.size)); clear h2))
            | (go_at_call 8; ((with_reducible refine (HW.out _).mono ?_); rintro e w9 ⟨rfl, h3⟩; have H9 := Lib.hid (H8.out.trans (h3.mono H8.out.size)); clear h3)))
          go_ret
          exact ⟨rfl, HB0.out.trans ((HBZ.out.trans (H9.out.mono HBZ.out.size)).mono HB0.out.size)⟩
        · have HN := Lib.hid (show K = insO ot true s.kinds by have h9 := HFIN.out; rwa [insO_true, List.append_nil] at h9)
          go_upto_region 22 with fail
          have hNL : K.length = (insO ot true s.kinds).length := by rw [HN.out]
          rw [hNL]
          have HOI := Lib.hid (show wr.ownsRow X3.heap.size 3 1 (.slice va (insO ot true s.kinds).length vc) (insO ot true s.kinds).length ((insO ot true s.kinds).map (Value.int .i64)) by have h9 := HOWN.out; rw [hNL] at h9; rw [← HN.out] at h9 ⊢; exact h9)
          have hb24 : Below X2.heap.size X2 wr := HX3.out.1.trans (HB.out.mono HX3.out.1.size)
          have e1 := (hb24.block wb (by have h1 := HLE.out; have h2 := HZ.out; omega)).trans HX2.out.1
          have e2 := (hb24.block g1 (by have h1 := HLE.out; have h2 := HZ.out; omega)).trans HX2.out.2.1
          have e3 := (hb24.block xb HZ.out.2).trans HX2.out.2.2.1
          have e4 := (hb24.block g2 HZ.out.1).trans HX2.out.2.2.2.1
          have e5 := (HB.out.block _ (lt_of_some' HX3.out.2)).trans HX3.out.2
          rw [← HTB.out] at e5
          have t0 := cell0 e5 0 rfl
          have t1 := frozen_of_row wr tb 0 _ _ e5
          have t2 := lt_of_some' e5
          go_upto_region 23 with fail
          obtain ⟨M, hM⟩ : ∃ M, M = insO ot true s.kinds := ⟨_, rfl⟩
          rw [← hM] at HOI ⊢
          have hM41 : M.length ≤ 41 := by rw [hM]; exact HTOT.out
          have HMI := Lib.hid hM
          obtain ⟨Y1, hY1⟩ : ∃ Y1, Y1 = wr.setCell ⟨tb, 0, none⟩ (.slice va M.length vc) := ⟨_, rfl⟩
          have hlt1 : wb < tb ∧ g1 < tb ∧ xb < tb ∧ g2 < tb := by
            have h1 := HLE.out
            have h2 := HZ.out
            have h3 := HTB.out
            omega
          have f1 := (Below.heap_setCell wr ⟨tb, 0, none⟩ (.slice va M.length vc) wb (by show wb ≠ tb; omega)).trans e1
          rw [← hY1] at f1
          have f2 := (Below.heap_setCell wr ⟨tb, 0, none⟩ (.slice va M.length vc) g1 (by show g1 ≠ tb; omega)).trans e2
          rw [← hY1] at f2
          have f3 := (Below.heap_setCell wr ⟨tb, 0, none⟩ (.slice va M.length vc) xb (by show xb ≠ tb; omega)).trans e3
          rw [← hY1] at f3
          have f4 := (Below.heap_setCell wr ⟨tb, 0, none⟩ (.slice va M.length vc) g2 (by show g2 ≠ tb; omega)).trans e4
          rw [← hY1] at f4
          have f5 := heap_setCell_same wr tb 0 _ _ (.slice va M.length vc) e5
          rw [← hY1] at f5
          have hb25 : Below X2.heap.size X2 Y1 := by rw [hY1]; exact hb24.setCell (by show X2.heap.size ≤ tb; rw [HTB.out]; exact Nat.le_refl _) _
          have HB25 := Lib.hid hb25
          have HKEEP := Lib.hid (show ∀ k, X3.heap.size ≤ k → Y1.heap[k]? = wr.heap[k]? from fun k hk => by rw [hY1]; exact Below.heap_setCell _ _ _ _ (by show k ≠ tb; have h1 := lt_of_some' HX3.out.2; have h2 := HTB.out; omega))
          rw [← hY1]
          have HF1 := Lib.hid (And.intro f1 (And.intro f2 (And.intro f3 (And.intro f4 f5))))
          have s0 := cell0 f3 2 rfl
          have s1 : Y1.cell? ⟨tb, 0, none⟩ = some (.slice va M.length vc) := cell0 f5 0 rfl
          have s2 : Y1.cell? ⟨tb, 0 + 1, none⟩ = some (.int .i64 s.least) := cell0 f5 1 rfl
          have s3 : Y1.cell? ⟨tb, 0 + 2, none⟩ = some (.int .i64 mm) := cell0 f5 2 rfl
          have hc2 : j * 3 + 2 < cur2.size := by
            obtain ⟨u, hu, _⟩ := HCELS.out (j * 3 + 2) (by omega)
            rw [← HA2.out.2.2 (j * 3 + 2) (by omega)] at hu
            exact (Array.getElem?_eq_some_iff.1 hu).1
          obtain ⟨⟨o0, v0⟩, v1, ⟨o1, v2⟩, v3, ⟨o2, v4⟩, v5, v6, v7⟩ := store3 (.slice va M.length vc) (.int .i64 s.least) (.int .i64 mm) f4 hc2
          have HV := Lib.hid (And.intro v6 v7)
          have HC2 := Lib.hid hc2
          have s5 := lt_of_some' f3
          have s6 := lt_of_some' f4
          have s7 := lt_of_some' f5
          clear v6 v7 hc2 f1 f2 f3 f4 f5 e1 e2 e3 e4 e5 t0 t1 t2 hb24 hb25 hM hY1
          go_upto_region 24 with fail
          obtain ⟨Y2, hY2⟩ : ∃ Y2, Y2 = (((Y1.setCell ⟨g2, j * 3, none⟩ (.slice va M.length vc)).setCell ⟨g2, j * 3 + 1, none⟩ (.int .i64 s.least)).setCell ⟨g2, j * 3 + 2, none⟩ (.int .i64 mm)) := ⟨_, rfl⟩
          rw [← hY2]
          have hv := HV.out
          rw [← hY2] at hv
          obtain ⟨f4, f7⟩ := hv
          have hgx : wb ≠ g2 ∧ g1 ≠ g2 ∧ xb ≠ g2 ∧ W0.heap.size ≤ g2 := by
            have h1 := HLE.out
            have h2 := HWB.out
            exact ⟨by omega, by omega, fun e => hne2 e.symm, by omega⟩
          have f1 := (f7 wb hgx.1).trans HF1.out.1
          have f2 := (f7 g1 hgx.2.1).trans HF1.out.2.1
          have f3 := (f7 xb hgx.2.2.1).trans HF1.out.2.2.1
          have hb26 : Below W0.heap.size W0 Y2 := by
            rw [hY2]
            exact (((HX2.out.2.2.2.2.trans (HB25.out.mono HX2.out.2.2.2.2.size)).setCell hgx.2.2.2 _).setCell hgx.2.2.2 _).setCell hgx.2.2.2 _
          have hc1 : i * 3 + 2 < cur1.size := by
            obtain ⟨u, hu, _⟩ := HCELL.out (i * 3 + 2) (by omega)
            rw [← HA1.out.2.2 (i * 3 + 2) (by omega)] at hu
            exact (Array.getElem?_eq_some_iff.1 hu).1
          obtain ⟨⟨o3, y0⟩, y1, ⟨o4, y2⟩, y3, ⟨o5, y4⟩, y5, y6, y7⟩ := store3 (.string x.name) (.bool x.text) (.slice (some ⟨g2, 0, none⟩) x.slots.length c2) f2 hc1
          have r0 := cell0 f1 0 rfl
          have r2 : Y2.cell? ⟨xb, 0, none⟩ = some (.string x.name) := cell0 f3 0 rfl
          have r3 : Y2.cell? ⟨xb, 0 + 1, none⟩ = some (.bool x.text) := cell0 f3 1 rfl
          have r4 : Y2.cell? ⟨xb, 0 + 2, none⟩ = some (.slice (some ⟨g2, 0, none⟩) x.slots.length c2) := cell0 f3 2 rfl
          have r5 := lt_of_some' f1
          have r6 := lt_of_some' f2
          have r7 := lt_of_some' f3
          have HY := Lib.hid (And.intro y6 (And.intro y7 (And.intro f1 (And.intro f4 (And.intro hb26 (And.intro hc1 f7))))))
          have hil2 : (i : Int) < (l.length : Int) := by omega
          clear y6 y7 f1 f2 f3 f4 f7 hb26 hc1 hY2 s0 s1 s2 s3 s5 s6 s7 v0 v1 v2 v3 v4 v5 hgx
          go_upto_region 25 with fail
          obtain ⟨Z, hZ⟩ : ∃ Z, Z = (((Y2.setCell ⟨g1, i * 3, none⟩ (.string x.name)).setCell ⟨g1, i * 3 + 1, none⟩ (.bool x.text)).setCell ⟨g1, i * 3 + 2, none⟩ (.slice (some ⟨g2, 0, none⟩) x.slots.length c2)) := ⟨_, rfl⟩
          rw [← hZ]
          have hv := HY.out
          rw [← hZ] at hv
          obtain ⟨z1, z7, f1, f4, hb26, hc1, f7⟩ := hv
          have hgx : wb ≠ g1 ∧ g2 ≠ g1 ∧ W0.heap.size ≤ g1 ∧ g1 < X3.heap.size ∧ g2 < X3.heap.size := by
            have h1 := HLE.out
            have h2 := HWB.out
            have h3 := HZ.out
            have h4 := lt_of_some' HX3.out.2
            exact ⟨fun e => hgw e.symm, by omega, by omega, by omega, by omega⟩
          have z2 := (z7 g2 hgx.2.1).trans f4
          have z3 := (z7 wb hgx.1).trans f1
          have hb27 : Below W0.heap.size W0 Z := by
            rw [hZ]
            exact ((hb26.setCell hgx.2.2.1 _).setCell hgx.2.2.1 _).setCell hgx.2.2.1 _
          have hiz : IntsAt Z va M := ints_keep HOI.out (fun k hk => ((z7 k (by omega)).trans (f7 k (by omega))).trans (HKEEP.out k hk))
          have hkz := wide_mem HMI.out HK.out HS.out (HB0.out.trans (hb27.mono HB0.out.size)) HA1.out.2.2 HA2.out.2.2 hc1 HC2.out z1 z2 hiz
          have hok : grOk (wideG ⟨l, root⟩ i (wideK x j (wideS s ot true mm))) = true := wideG_ok HOK.out HX.out (wideS_ok (slot_in HOK.out HX.out HSX.out) HD.out HMM.out.1 HMM.out.2)
          have HOKZ := Lib.hid (errN_yes hok)
          have HFZ := Lib.hid (show fitsV (kindOf (wideG ⟨l, root⟩ i (wideK x j (wideS s ot true mm))) (i : Int)) kids = true by rw [wide_kind HX.out hok]; exact wide_fits HSX.out HMM.out.1 (by have h9 := HFT.out; rw [HO.out] at h9; exact h9))
          have HFEZ := Lib.hid (wide_few (s := s) (o := ot) (m := mm) (d := true) (j := j) HFEW.out HX.out HF40.out)
          have HGV := Lib.hid (show ∀ X, Below Z.heap.size Z X → GrV X (.agg #[.slice (some ⟨g1, 0, none⟩) l.length c1, .int .i64 root]) (wideG ⟨l, root⟩ i (wideK x j (wideS s ot true mm))) from fun X hX => by
            have h9 := grV (root := root) (kc := c1) (hkz.below hX)
            rw [List.length_set] at h9
            exact h9)
          have HSEE := Lib.hid (show ∀ X, Below Z.heap.size Z X → X.cell? ⟨wb, 0, none⟩ = some (.slice (some ⟨g1, 0, none⟩) l.length c1) ∧ X.cell? ⟨wb, 0 + 1, none⟩ = some (.int .i64 root) ∧ wb < X.heap.size from fun X hX => by
            have h9 := (hX.block wb (lt_of_some' z3)).trans z3
            exact ⟨cell0 h9 0 rfl, cell0 h9 1 rfl, lt_of_some' h9⟩)
          have HBZ := Lib.hid hb27
          obtain ⟨q0, q1, q2⟩ := HSEE.out Z (Below.refl _ _)
          clear z1 z2 z3 z7 f1 f4 f7 hb26 hb27 hc1 hiz hkz hok hgx hZ r0 r2 r3 r4 r5 r6 r7 y0 y1 y2 y3 y4 y5
          go_wp2_with (first
            | (go_at_call 11; ((with_reducible refine (check_any _ _ (wideG ⟨l, root⟩ i (wideK x j (wideS s ot true mm))) (HGV.out _ (Below.refl _ _)) HFEZ.out).mono ?_); rintro e w6 ⟨rfl, h2⟩; rw [HOKZ.out]; have H6 := Lib.hid h2; obtain ⟨q3, q4, q5⟩ := HSEE.out _ h2; clear h2))
            | (go_at_call 19; ((with_reducible refine (fits_any _ _ (wideG ⟨l, root⟩ i (wideK x j (wideS s ot true mm))) (i : Int) _ _ kids (HGV.out _ H6.out) HFEZ.out ((HA.out.below HB0.out).below (HBZ.out.trans (H6.out.mono HBZ.out.size))) hk300).mono ?_); rintro e w8 ⟨rfl, h2⟩; rw [HFZ.out]; have H8 := Lib.hid (H6.out.trans (h2.mono H6.out.size)); clear h2))
            | (go_at_call 8; ((with_reducible refine (HW.out _).mono ?_); rintro e w9 ⟨rfl, h3⟩; have H9 := Lib.hid (H8.out.trans (h3.mono H8.out.size)); clear h3)))
          go_ret
          exact ⟨rfl, HB0.out.trans ((HBZ.out.trans (H9.out.mono HBZ.out.size)).mono HB0.out.size)⟩
      obtain ⟨c, hc⟩ : ∃ c, s.kinds[k]? = some c := ⟨s.kinds[k], List.getElem?_eq_getElem hlt⟩
      have hWr : Below w.heap.size w wr := HB0.out.trans ((HX2.out.2.2.2.2.trans ((HX3.out.1.trans (hbel.mono HX3.out.1.size)).mono HX2.out.2.2.2.2.size)).mono HB0.out.size)
      obtain ⟨b5, off5, rfl, hbz5, hc5⟩ := (HI.out.below hWr) (by omega)
      have c5 := hc5 k c hc
      have HC5 := Lib.hid (ins_drop hins hc)
      have hk2 : (k : Int) < (s.kinds.length : Int) := by omega
      clear hc hc5 hWr hown hbel hins
      cases d'
      · have hKk : K.length ≤ k := hKd rfl
        clear hKd
        by_cases hoc : ot ≤ c
        · by_cases hco : c = ot
          · have HN := Lib.hid (show (K ++ [ot]) ++ insO ot true (s.kinds.drop (k + 1)) = insO ot true s.kinds by have h9 := HC5.out; rw [ins_there hco, hco] at h9; simpa using h9)
            subst c
            go_wp2_with (at_builtin; refine wpList_append_own _ rfl (.tmp 112) (.tmp 114) 35 rfl X3.heap.size 3 i0 (.int .i64 0) 1 8 Try.underlying35 HI0.out.1 HI0.out.2.1 HI0.out.2.2.1 HI0.out.2.2.2 rfl (by decide) _ _ _ rfl (HOWN.out.alloc _) ⟨wr.heap.size, 0, none⟩ 1 1 [.int .i64 ot] rfl rfl (cell_one_new _ _ _) (ints_oneCell .i64 [ot]) (by unfold maxLen; omega) (by omega) (by have := HB.out.size; simp; omega) ?_; intro v1 w7 hown1 hgrow1 _; have HB1 := Lib.hid (app_below HOWN.out HB.out hgrow1); have HO1 := Lib.hid (own_snoc hown1); clear hown1 hgrow1)
            exact ⟨⟨k + 1, K ++ [ot], true, by omega, by go_num, rfl, by simp; omega, HO1.out, HB1.out, HN.out, (fun e => by cases e)⟩, by simp [intOf]; omega⟩
          · have HN := Lib.hid (show ((K ++ [ot]) ++ [c]) ++ insO ot true (s.kinds.drop (k + 1)) = insO ot true s.kinds by have h9 := HC5.out; rw [ins_here hoc hco] at h9; simpa using h9)
            go_wp2_with (first
              | (at_builtin; refine wpList_append_own _ rfl (.tmp 108) (.tmp 110) 35 rfl X3.heap.size 3 i0 (.int .i64 0) 1 8 Try.underlying35 HI0.out.1 HI0.out.2.1 HI0.out.2.2.1 HI0.out.2.2.2 rfl (by decide) _ _ _ rfl (HOWN.out.alloc _) ⟨wr.heap.size, 0, none⟩ 1 1 [.int .i64 ot] rfl rfl (cell_one_new _ _ _) (ints_oneCell .i64 [ot]) (by unfold maxLen; omega) (by omega) (by have := HB.out.size; simp; omega) ?_; intro v1 w7 hown1 hgrow1 _; obtain ⟨va1, vc1, rfl⟩ := owns_slice hown1; have HB1 := Lib.hid (app_below HOWN.out HB.out hgrow1); have HO1 := Lib.hid hown1; clear hown1 hgrow1)
              | (at_builtin; refine wpList_append_own _ rfl (.tmp 112) (.tmp 114) 35 rfl X3.heap.size 3 i0 (.int .i64 0) 1 8 Try.underlying35 HI0.out.1 HI0.out.2.1 HI0.out.2.2.1 HI0.out.2.2.2 rfl (by decide) _ _ _ rfl (HO1.out.alloc _) ⟨w7.heap.size, 0, none⟩ 1 1 [.int .i64 c] rfl rfl (cell_one_new _ _ _) (ints_oneCell .i64 [c]) (by unfold maxLen; omega) (by omega) (by have := HB1.out.size; simp; omega) ?_; intro v2 w8 hown1 hgrow1 _; have HB2 := Lib.hid (app_below HO1.out HB1.out hgrow1); have HO2 := Lib.hid (own_snoc2 hown1); clear hown1 hgrow1))
            exact ⟨⟨k + 1, (K ++ [ot]) ++ [c], true, by omega, by go_num, rfl, by simp; omega, HO2.out, HB2.out, HN.out, (fun e => by cases e)⟩, by simp [intOf]; omega⟩
        · have HN := Lib.hid (show (K ++ [c]) ++ insO ot false (s.kinds.drop (k + 1)) = insO ot true s.kinds by have h9 := HC5.out; rw [ins_later hoc] at h9; simpa using h9)
          go_wp2_with (at_builtin; refine wpList_append_own _ rfl (.tmp 112) (.tmp 114) 35 rfl X3.heap.size 3 i0 (.int .i64 0) 1 8 Try.underlying35 HI0.out.1 HI0.out.2.1 HI0.out.2.2.1 HI0.out.2.2.2 rfl (by decide) _ _ _ rfl (HOWN.out.alloc _) ⟨wr.heap.size, 0, none⟩ 1 1 [.int .i64 c] rfl rfl (cell_one_new _ _ _) (ints_oneCell .i64 [c]) (by unfold maxLen; omega) (by omega) (by have := HB.out.size; simp; omega) ?_; intro v1 w7 hown1 hgrow1 _; have HB1 := Lib.hid (app_below HOWN.out HB.out hgrow1); have HO1 := Lib.hid (own_snoc hown1); clear hown1 hgrow1)
          exact ⟨⟨k + 1, K ++ [c], false, by omega, by go_num, rfl, by simp; omega, HO1.out, HB1.out, HN.out, (fun _ => by simp; omega)⟩, by simp [intOf]; omega⟩
      · have HN := Lib.hid (show (K ++ [c]) ++ insO ot true (s.kinds.drop (k + 1)) = insO ot true s.kinds by have h9 := HC5.out; rw [ins_done] at h9; simpa using h9)
        clear hKd
        go_wp2_with (at_builtin; refine wpList_append_own _ rfl (.tmp 112) (.tmp 114) 35 rfl X3.heap.size 3 i0 (.int .i64 0) 1 8 Try.underlying35 HI0.out.1 HI0.out.2.1 HI0.out.2.2.1 HI0.out.2.2.2 rfl (by decide) _ _ _ rfl (HOWN.out.alloc _) ⟨wr.heap.size, 0, none⟩ 1 1 [.int .i64 c] rfl rfl (cell_one_new _ _ _) (ints_oneCell .i64 [c]) (by unfold maxLen; omega) (by omega) (by have := HB.out.size; simp; omega) ?_; intro v1 w7 hown1 hgrow1 _; have HB1 := Lib.hid (app_below HOWN.out HB.out hgrow1); have HO1 := Lib.hid (own_snoc hown1); clear hown1 hgrow1)
        exact ⟨⟨k + 1, K ++ [c], true, by omega, by go_num, rfl, by simp; omega, HO1.out, HB1.out, HN.out, (fun e => by cases e)⟩, by simp [intOf]; omega⟩

  · obtain ⟨q0, q1⟩ := HBOX.out _ HX2.out.2.2.2.2
    have hzw := HLT.out _ HX2.out.2.2.2.2
    go_wp2_with fail
    clear ho hdl q0 q1 hzw
    obtain ⟨X3, hX3⟩ : ∃ X3, X3 = X2.alloc (.cells #[.slice ka2 s.kinds.length kc2, .int .i64 s.least, .int .i64 mm] 41) := ⟨_, rfl⟩
    have hx3b : Below X2.heap.size X2 X3 := by rw [hX3]; exact box_below _ _
    have hx3t : X3.heap[X2.heap.size]? = some (.cells #[.slice ka2 s.kinds.length kc2, .int .i64 s.least, .int .i64 mm] 41 (0, 0)) := by rw [hX3]; exact heap_alloc_new _ _
    have HX3 := Lib.hid (And.intro hx3b hx3t)
    obtain ⟨tb, htb⟩ : ∃ tb, tb = X2.heap.size := ⟨_, rfl⟩
    have HTB := Lib.hid htb
    rw [← hX3, ← htb]
    clear hX3 hx3b hx3t htb k4 k5 k6 k7 k3 hm1 hm2 hmm
    go_loopw [16, 17, 94] (fun v dn i wr => WideL X3 ot d s.kinds v dn i wr) (fun _ _ i _ => s.kinds.length - (intOf i).toNat)
    case atStart => exact ⟨0, [], d, Nat.zero_le _, rfl, rfl, by simp, ⟨rfl, Or.inl ⟨rfl, rfl⟩⟩, Below.refl _ _, rfl, fun _ => Nat.le_refl _⟩
    case round =>
      obtain ⟨k, K, d', hkl, rfl, rfl, hKl, hown, hbel, hins, hKd⟩ := hrel
      obtain ⟨va, vc, rfl⟩ := owns_slice hown
      have HOWN := Lib.hid hown
      have HB := Lib.hid hbel
      have HINS := Lib.hid hins
      have hk40 : s.kinds.length ≤ 40 := HF40.out
      by_cases hlt : k < s.kinds.length
      case neg =>
        have HFIN := Lib.hid (ins_end hins (by omega))
        have hk3 : ¬ (k : Int) < (s.kinds.length : Int) := by omega
        clear hins hlt hown hbel hKd
        cases d'
        · have HN := Lib.hid (show K ++ [ot] = insO ot d s.kinds from HFIN.out)
          have HNL := Lib.hid (show K.length + 1 = (insO ot d s.kinds).length by rw [← HN.out]; simp)
          go_upto_region 22 with (at_builtin; refine wpList_append_own _ rfl (.tmp 119) (.tmp 121) 35 rfl X3.heap.size 3 i0 (.int .i64 0) 1 8 Try.underlying35 HI0.out.1 HI0.out.2.1 HI0.out.2.2.1 HI0.out.2.2.2 rfl (by decide) _ _ _ rfl (HOWN.out.alloc _) ⟨wr.heap.size, 0, none⟩ 1 1 [.int .i64 ot] rfl rfl (cell_one_new _ _ _) (ints_oneCell .i64 [ot]) (by unfold maxLen; omega) (by omega) (by have := HB.out.size; simp; omega) ?_; intro v1 w7 hown1 hgrow1 _; obtain ⟨va1, vc1, rfl⟩ := owns_slice hown1; have HB1 := Lib.hid (app_below HOWN.out HB.out hgrow1); have HO1 := Lib.hid (own_snoc hown1); clear hown1 hgrow1)
          rw [HNL.out]
          have HOI := Lib.hid (show w7.ownsRow X3.heap.size 3 1 (.slice va1 (insO ot d s.kinds).length vc1) (insO ot d s.kinds).length ((insO ot d s.kinds).map (Value.int .i64)) by have h9 := HO1.out; rw [HNL.out, HN.out] at h9; exact h9)
          have hb24 : Below X2.heap.size X2 w7 := HX3.out.1.trans (HB1.out.mono HX3.out.1.size)
          have e1 := (hb24.block wb (by have h1 := HLE.out; have h2 := HZ.out; omega)).trans HX2.out.1
          have e2 := (hb24.block g1 (by have h1 := HLE.out; have h2 := HZ.out; omega)).trans HX2.out.2.1
          have e3 := (hb24.block xb HZ.out.2).trans HX2.out.2.2.1
          have e4 := (hb24.block g2 HZ.out.1).trans HX2.out.2.2.2.1
          have e5 := (HB1.out.block _ (lt_of_some' HX3.out.2)).trans HX3.out.2
          rw [← HTB.out] at e5
          have t0 := cell0 e5 0 rfl
          have t1 := frozen_of_row w7 tb 0 _ _ e5
          have t2 := lt_of_some' e5
          go_upto_region 23 with fail
          obtain ⟨M, hM⟩ : ∃ M, M = insO ot d s.kinds := ⟨_, rfl⟩
          rw [← hM] at HOI ⊢
          have hM41 : M.length ≤ 41 := by rw [hM]; exact HTOT.out
          have HMI := Lib.hid hM
          obtain ⟨Y1, hY1⟩ : ∃ Y1, Y1 = w7.setCell ⟨tb, 0, none⟩ (.slice va1 M.length vc1) := ⟨_, rfl⟩
          have hlt1 : wb < tb ∧ g1 < tb ∧ xb < tb ∧ g2 < tb := by
            have h1 := HLE.out
            have h2 := HZ.out
            have h3 := HTB.out
            omega
          have f1 := (Below.heap_setCell w7 ⟨tb, 0, none⟩ (.slice va1 M.length vc1) wb (by show wb ≠ tb; omega)).trans e1
          rw [← hY1] at f1
          have f2 := (Below.heap_setCell w7 ⟨tb, 0, none⟩ (.slice va1 M.length vc1) g1 (by show g1 ≠ tb; omega)).trans e2
          rw [← hY1] at f2
          have f3 := (Below.heap_setCell w7 ⟨tb, 0, none⟩ (.slice va1 M.length vc1) xb (by show xb ≠ tb; omega)).trans e3
          rw [← hY1] at f3
          have f4 := (Below.heap_setCell w7 ⟨tb, 0, none⟩ (.slice va1 M.length vc1) g2 (by show g2 ≠ tb; omega)).trans e4
          rw [← hY1] at f4
          have f5 := heap_setCell_same w7 tb 0 _ _ (.slice va1 M.length vc1) e5
          rw [← hY1] at f5
          have hb25 : Below X2.heap.size X2 Y1 := by rw [hY1]; exact hb24.setCell (by show X2.heap.size ≤ tb; rw [HTB.out]; exact Nat.le_refl _) _
          have HB25 := Lib.hid hb25
          have HKEEP := Lib.hid (show ∀ k, X3.heap.size ≤ k → Y1.heap[k]? = w7.heap[k]? from fun k hk => by rw [hY1]; exact Below.heap_setCell _ _ _ _ (by show k ≠ tb; have h1 := lt_of_some' HX3.out.2; have h2 := HTB.out; omega))
          rw [← hY1]
          have HF1 := Lib.hid (And.intro f1 (And.intro f2 (And.intro f3 (And.intro f4 f5))))
          have s0 := cell0 f3 2 rfl
          have s1 : Y1.cell? ⟨tb, 0, none⟩ = some (.slice va1 M.length vc1) := cell0 f5 0 rfl
          have s2 : Y1.cell? ⟨tb, 0 + 1, none⟩ = some (.int .i64 s.least) := cell0 f5 1 rfl
          have s3 : Y1.cell? ⟨tb, 0 + 2, none⟩ = some (.int .i64 mm) := cell0 f5 2 rfl
          have hc2 : j * 3 + 2 < cur2.size := by
            obtain ⟨u, hu, _⟩ := HCELS.out (j * 3 + 2) (by omega)
            rw [← HA2.out.2.2 (j * 3 + 2) (by omega)] at hu
            exact (Array.getElem?_eq_some_iff.1 hu).1
          obtain ⟨⟨o0, v0⟩, v1, ⟨o1, v2⟩, v3, ⟨o2, v4⟩, v5, v6, v7⟩ := store3 (.slice va1 M.length vc1) (.int .i64 s.least) (.int .i64 mm) f4 hc2
          have HV := Lib.hid (And.intro v6 v7)
          have HC2 := Lib.hid hc2
          have s5 := lt_of_some' f3
          have s6 := lt_of_some' f4
          have s7 := lt_of_some' f5
          clear v6 v7 hc2 f1 f2 f3 f4 f5 e1 e2 e3 e4 e5 t0 t1 t2 hb24 hb25 hM hY1
          go_upto_region 24 with fail
          obtain ⟨Y2, hY2⟩ : ∃ Y2, Y2 = (((Y1.setCell ⟨g2, j * 3, none⟩ (.slice va1 M.length vc1)).setCell ⟨g2, j * 3 + 1, none⟩ (.int .i64 s.least)).setCell ⟨g2, j * 3 + 2, none⟩ (.int .i64 mm)) := ⟨_, rfl⟩
          rw [← hY2]
          have hv := HV.out
          rw [← hY2] at hv
          obtain ⟨f4, f7⟩ := hv
          have hgx : wb ≠ g2 ∧ g1 ≠ g2 ∧ xb ≠ g2 ∧ W0.heap.size ≤ g2 := by
            have h1 := HLE.out
            have h2 := HWB.out
            exact ⟨by omega, by omega, fun e => hne2 e.symm, by omega⟩
          have f1 := (f7 wb hgx.1).trans HF1.out.1
          have f2 := (f7 g1 hgx.2.1).trans HF1.out.2.1
          have f3 := (f7 xb hgx.2.2.1).trans HF1.out.2.2.1
          have hb26 : Below W0.heap.size W0 Y2 := by
            rw [hY2]
            exact (((HX2.out.2.2.2.2.trans (HB25.out.mono HX2.out.2.2.2.2.size)).setCell hgx.2.2.2 _).setCell hgx.2.2.2 _).setCell hgx.2.2.2 _
          have hc1 : i * 3 + 2 < cur1.size := by
            obtain ⟨u, hu, _⟩ := HCELL.out (i * 3 + 2) (by omega)
            rw [← HA1.out.2.2 (i * 3 + 2) (by omega)] at hu
            exact (Array.getElem?_eq_some_iff.1 hu).1
          obtain ⟨⟨o3, y0⟩, y1, ⟨o4, y2⟩, y3, ⟨o5, y4⟩, y5, y6, y7⟩ := store3 (.string x.name) (.bool x.text) (.slice (some ⟨g2, 0, none⟩) x.slots.length c2) f2 hc1
          have r0 := cell0 f1 0 rfl
          have r2 : Y2.cell? ⟨xb, 0, none⟩ = some (.string x.name) := cell0 f3 0 rfl
          have r3 : Y2.cell? ⟨xb, 0 + 1, none⟩ = some (.bool x.text) := cell0 f3 1 rfl
          have r4 : Y2.cell? ⟨xb, 0 + 2, none⟩ = some (.slice (some ⟨g2, 0, none⟩) x.slots.length c2) := cell0 f3 2 rfl
          have r5 := lt_of_some' f1
          have r6 := lt_of_some' f2
          have r7 := lt_of_some' f3
          have HY := Lib.hid (And.intro y6 (And.intro y7 (And.intro f1 (And.intro f4 (And.intro hb26 (And.intro hc1 f7))))))
          have hil2 : (i : Int) < (l.length : Int) := by omega
          clear y6 y7 f1 f2 f3 f4 f7 hb26 hc1 hY2 s0 s1 s2 s3 s5 s6 s7 v0 v1 v2 v3 v4 v5 hgx
          go_upto_region 25 with fail
          obtain ⟨Z, hZ⟩ : ∃ Z, Z = (((Y2.setCell ⟨g1, i * 3, none⟩ (.string x.name)).setCell ⟨g1, i * 3 + 1, none⟩ (.bool x.text)).setCell ⟨g1, i * 3 + 2, none⟩ (.slice (some ⟨g2, 0, none⟩) x.slots.length c2)) := ⟨_, rfl⟩
          rw [← hZ]
          have hv := HY.out
          rw [← hZ] at hv
          obtain ⟨z1, z7, f1, f4, hb26, hc1, f7⟩ := hv
          have hgx : wb ≠ g1 ∧ g2 ≠ g1 ∧ W0.heap.size ≤ g1 ∧ g1 < X3.heap.size ∧ g2 < X3.heap.size := by
            have h1 := HLE.out
            have h2 := HWB.out
            have h3 := HZ.out
            have h4 := lt_of_some' HX3.out.2
            exact ⟨fun e => hgw e.symm, by omega, by omega, by omega, by omega⟩
          have z2 := (z7 g2 hgx.2.1).trans f4
          have z3 := (z7 wb hgx.1).trans f1
          have hb27 : Below W0.heap.size W0 Z := by
            rw [hZ]
            exact ((hb26.setCell hgx.2.2.1 _).setCell hgx.2.2.1 _).setCell hgx.2.2.1 _
          have hiz : IntsAt Z va1 M := ints_keep HOI.out (fun k hk => ((z7 k (by omega)).trans (f7 k (by omega))).trans (HKEEP.out k hk))
          have hkz := wide_mem HMI.out HK.out HS.out (HB0.out.trans (hb27.mono HB0.out.size)) HA1.out.2.2 HA2.out.2.2 hc1 HC2.out z1 z2 hiz
          have hok : grOk (wideG ⟨l, root⟩ i (wideK x j (wideS s ot d mm))) = true := wideG_ok HOK.out HX.out (wideS_ok (slot_in HOK.out HX.out HSX.out) HD.out HMM.out.1 HMM.out.2)
          have HOKZ := Lib.hid (errN_yes hok)
          have HFZ := Lib.hid (show fitsV (kindOf (wideG ⟨l, root⟩ i (wideK x j (wideS s ot d mm))) (i : Int)) kids = true by rw [wide_kind HX.out hok]; exact wide_fits HSX.out HMM.out.1 (by have h9 := HFT.out; rw [HO.out] at h9; exact h9))
          have HFEZ := Lib.hid (wide_few (s := s) (o := ot) (m := mm) (d := d) (j := j) HFEW.out HX.out HF40.out)
          have HGV := Lib.hid (show ∀ X, Below Z.heap.size Z X → GrV X (.agg #[.slice (some ⟨g1, 0, none⟩) l.length c1, .int .i64 root]) (wideG ⟨l, root⟩ i (wideK x j (wideS s ot d mm))) from fun X hX => by
            have h9 := grV (root := root) (kc := c1) (hkz.below hX)
            rw [List.length_set] at h9
            exact h9)
          have HSEE := Lib.hid (show ∀ X, Below Z.heap.size Z X → X.cell? ⟨wb, 0, none⟩ = some (.slice (some ⟨g1, 0, none⟩) l.length c1) ∧ X.cell? ⟨wb, 0 + 1, none⟩ = some (.int .i64 root) ∧ wb < X.heap.size from fun X hX => by
            have h9 := (hX.block wb (lt_of_some' z3)).trans z3
            exact ⟨cell0 h9 0 rfl, cell0 h9 1 rfl, lt_of_some' h9⟩)
          have HBZ := Lib.hid hb27
          obtain ⟨q0, q1, q2⟩ := HSEE.out Z (Below.refl _ _)
          clear z1 z2 z3 z7 f1 f4 f7 hb26 hb27 hc1 hiz hkz hok hgx hZ r0 r2 r3 r4 r5 r6 r7 y0 y1 y2 y3 y4 y5
          go_wp2_with (first
            | (go_at_call 11; ((with_reducible refine (check_any _ _ (wideG ⟨l, root⟩ i (wideK x j (wideS s ot d mm))) (HGV.out _ (Below.refl _ _)) HFEZ.out).mono ?_); rintro e w6 ⟨rfl, h2⟩; rw [HOKZ.out]; have H6 := Lib.hid h2; obtain ⟨q3, q4, q5⟩ := HSEE.out _ h2; clear h2))
            | (go_at_call 19; ((with_reducible refine (fits_any _ _ (wideG ⟨l, root⟩ i (wideK x j (wideS s ot d mm))) (i : Int) _ _ kids (HGV.out _ H6.out) HFEZ.out ((HA.out.below HB0.out).below (HBZ.out.trans (H6.out.mono HBZ.out.size))) hk300).mono ?_); rintro e w8 ⟨rfl, h2⟩; rw [HFZ.out]; have H8 := Lib.hid (H6.out.trans (h2.mono H6.out.size)); clear h2))
            | (go_at_call 8; ((with_reducible refine (HW.out _).mono ?_); rintro e w9 ⟨rfl, h3⟩; have H9 := Lib.hid (H8.out.trans (h3.mono H8.out.size)); clear h3)))
          go_ret
          exact ⟨rfl, HB0.out.trans ((HBZ.out.trans (H9.out.mono HBZ.out.size)).mono HB0.out.size)⟩
        · have HN := Lib.hid (show K = insO ot d s.kinds by have h9 := HFIN.out; rwa [insO_true, List.append_nil] at h9)
          go_upto_region 22 with fail
          have hNL : K.length = (insO ot d s.kinds).length := by rw [HN.out]
          rw [hNL]
          have HOI := Lib.hid (show wr.ownsRow X3.heap.size 3 1 (.slice va (insO ot d s.kinds).length vc) (insO ot d s.kinds).length ((insO ot d s.kinds).map (Value.int .i64)) by have h9 := HOWN.out; rw [hNL] at h9; rw [← HN.out] at h9 ⊢; exact h9)
          have hb24 : Below X2.heap.size X2 wr := HX3.out.1.trans (HB.out.mono HX3.out.1.size)
          have e1 := (hb24.block wb (by have h1 := HLE.out; have h2 := HZ.out; omega)).trans HX2.out.1
          have e2 := (hb24.block g1 (by have h1 := HLE.out; have h2 := HZ.out; omega)).trans HX2.out.2.1
          have e3 := (hb24.block xb HZ.out.2).trans HX2.out.2.2.1
          have e4 := (hb24.block g2 HZ.out.1).trans HX2.out.2.2.2.1
          have e5 := (HB.out.block _ (lt_of_some' HX3.out.2)).trans HX3.out.2
          rw [← HTB.out] at e5
          have t0 := cell0 e5 0 rfl
          have t1 := frozen_of_row wr tb 0 _ _ e5
          have t2 := lt_of_some' e5
          go_upto_region 23 with fail
          obtain ⟨M, hM⟩ : ∃ M, M = insO ot d s.kinds := ⟨_, rfl⟩
          rw [← hM] at HOI ⊢
          have hM41 : M.length ≤ 41 := by rw [hM]; exact HTOT.out
          have HMI := Lib.hid hM
          obtain ⟨Y1, hY1⟩ : ∃ Y1, Y1 = wr.setCell ⟨tb, 0, none⟩ (.slice va M.length vc) := ⟨_, rfl⟩
          have hlt1 : wb < tb ∧ g1 < tb ∧ xb < tb ∧ g2 < tb := by
            have h1 := HLE.out
            have h2 := HZ.out
            have h3 := HTB.out
            omega
          have f1 := (Below.heap_setCell wr ⟨tb, 0, none⟩ (.slice va M.length vc) wb (by show wb ≠ tb; omega)).trans e1
          rw [← hY1] at f1
          have f2 := (Below.heap_setCell wr ⟨tb, 0, none⟩ (.slice va M.length vc) g1 (by show g1 ≠ tb; omega)).trans e2
          rw [← hY1] at f2
          have f3 := (Below.heap_setCell wr ⟨tb, 0, none⟩ (.slice va M.length vc) xb (by show xb ≠ tb; omega)).trans e3
          rw [← hY1] at f3
          have f4 := (Below.heap_setCell wr ⟨tb, 0, none⟩ (.slice va M.length vc) g2 (by show g2 ≠ tb; omega)).trans e4
          rw [← hY1] at f4
          have f5 := heap_setCell_same wr tb 0 _ _ (.slice va M.length vc) e5
          rw [← hY1] at f5
          have hb25 : Below X2.heap.size X2 Y1 := by rw [hY1]; exact hb24.setCell (by show X2.heap.size ≤ tb; rw [HTB.out]; exact Nat.le_refl _) _
          have HB25 := Lib.hid hb25
          have HKEEP := Lib.hid (show ∀ k, X3.heap.size ≤ k → Y1.heap[k]? = wr.heap[k]? from fun k hk => by rw [hY1]; exact Below.heap_setCell _ _ _ _ (by show k ≠ tb; have h1 := lt_of_some' HX3.out.2; have h2 := HTB.out; omega))
          rw [← hY1]
          have HF1 := Lib.hid (And.intro f1 (And.intro f2 (And.intro f3 (And.intro f4 f5))))
          have s0 := cell0 f3 2 rfl
          have s1 : Y1.cell? ⟨tb, 0, none⟩ = some (.slice va M.length vc) := cell0 f5 0 rfl
          have s2 : Y1.cell? ⟨tb, 0 + 1, none⟩ = some (.int .i64 s.least) := cell0 f5 1 rfl
          have s3 : Y1.cell? ⟨tb, 0 + 2, none⟩ = some (.int .i64 mm) := cell0 f5 2 rfl
          have hc2 : j * 3 + 2 < cur2.size := by
            obtain ⟨u, hu, _⟩ := HCELS.out (j * 3 + 2) (by omega)
            rw [← HA2.out.2.2 (j * 3 + 2) (by omega)] at hu
            exact (Array.getElem?_eq_some_iff.1 hu).1
          obtain ⟨⟨o0, v0⟩, v1, ⟨o1, v2⟩, v3, ⟨o2, v4⟩, v5, v6, v7⟩ := store3 (.slice va M.length vc) (.int .i64 s.least) (.int .i64 mm) f4 hc2
          have HV := Lib.hid (And.intro v6 v7)
          have HC2 := Lib.hid hc2
          have s5 := lt_of_some' f3
          have s6 := lt_of_some' f4
          have s7 := lt_of_some' f5
          clear v6 v7 hc2 f1 f2 f3 f4 f5 e1 e2 e3 e4 e5 t0 t1 t2 hb24 hb25 hM hY1
          go_upto_region 24 with fail
          obtain ⟨Y2, hY2⟩ : ∃ Y2, Y2 = (((Y1.setCell ⟨g2, j * 3, none⟩ (.slice va M.length vc)).setCell ⟨g2, j * 3 + 1, none⟩ (.int .i64 s.least)).setCell ⟨g2, j * 3 + 2, none⟩ (.int .i64 mm)) := ⟨_, rfl⟩
          rw [← hY2]
          have hv := HV.out
          rw [← hY2] at hv
          obtain ⟨f4, f7⟩ := hv
          have hgx : wb ≠ g2 ∧ g1 ≠ g2 ∧ xb ≠ g2 ∧ W0.heap.size ≤ g2 := by
            have h1 := HLE.out
            have h2 := HWB.out
            exact ⟨by omega, by omega, fun e => hne2 e.symm, by omega⟩
          have f1 := (f7 wb hgx.1).trans HF1.out.1
          have f2 := (f7 g1 hgx.2.1).trans HF1.out.2.1
          have f3 := (f7 xb hgx.2.2.1).trans HF1.out.2.2.1
          have hb26 : Below W0.heap.size W0 Y2 := by
            rw [hY2]
            exact (((HX2.out.2.2.2.2.trans (HB25.out.mono HX2.out.2.2.2.2.size)).setCell hgx.2.2.2 _).setCell hgx.2.2.2 _).setCell hgx.2.2.2 _
          have hc1 : i * 3 + 2 < cur1.size := by
            obtain ⟨u, hu, _⟩ := HCELL.out (i * 3 + 2) (by omega)
            rw [← HA1.out.2.2 (i * 3 + 2) (by omega)] at hu
            exact (Array.getElem?_eq_some_iff.1 hu).1
          obtain ⟨⟨o3, y0⟩, y1, ⟨o4, y2⟩, y3, ⟨o5, y4⟩, y5, y6, y7⟩ := store3 (.string x.name) (.bool x.text) (.slice (some ⟨g2, 0, none⟩) x.slots.length c2) f2 hc1
          have r0 := cell0 f1 0 rfl
          have r2 : Y2.cell? ⟨xb, 0, none⟩ = some (.string x.name) := cell0 f3 0 rfl
          have r3 : Y2.cell? ⟨xb, 0 + 1, none⟩ = some (.bool x.text) := cell0 f3 1 rfl
          have r4 : Y2.cell? ⟨xb, 0 + 2, none⟩ = some (.slice (some ⟨g2, 0, none⟩) x.slots.length c2) := cell0 f3 2 rfl
          have r5 := lt_of_some' f1
          have r6 := lt_of_some' f2
          have r7 := lt_of_some' f3
          have HY := Lib.hid (And.intro y6 (And.intro y7 (And.intro f1 (And.intro f4 (And.intro hb26 (And.intro hc1 f7))))))
          have hil2 : (i : Int) < (l.length : Int) := by omega
          clear y6 y7 f1 f2 f3 f4 f7 hb26 hc1 hY2 s0 s1 s2 s3 s5 s6 s7 v0 v1 v2 v3 v4 v5 hgx
          go_upto_region 25 with fail
          obtain ⟨Z, hZ⟩ : ∃ Z, Z = (((Y2.setCell ⟨g1, i * 3, none⟩ (.string x.name)).setCell ⟨g1, i * 3 + 1, none⟩ (.bool x.text)).setCell ⟨g1, i * 3 + 2, none⟩ (.slice (some ⟨g2, 0, none⟩) x.slots.length c2)) := ⟨_, rfl⟩
          rw [← hZ]
          have hv := HY.out
          rw [← hZ] at hv
          obtain ⟨z1, z7, f1, f4, hb26, hc1, f7⟩ := hv
          have hgx : wb ≠ g1 ∧ g2 ≠ g1 ∧ W0.heap.size ≤ g1 ∧ g1 < X3.heap.size ∧ g2 < X3.heap.size := by
            have h1 := HLE.out
            have h2 := HWB.out
            have h3 := HZ.out
            have h4 := lt_of_some' HX3.out.2
            exact ⟨fun e => hgw e.symm, by omega, by omega, by omega, by omega⟩
          have z2 := (z7 g2 hgx.2.1).trans f4
          have z3 := (z7 wb hgx.1).trans f1
          have hb27 : Below W0.heap.size W0 Z := by
            rw [hZ]
            exact ((hb26.setCell hgx.2.2.1 _).setCell hgx.2.2.1 _).setCell hgx.2.2.1 _
          have hiz : IntsAt Z va M := ints_keep HOI.out (fun k hk => ((z7 k (by omega)).trans (f7 k (by omega))).trans (HKEEP.out k hk))
          have hkz := wide_mem HMI.out HK.out HS.out (HB0.out.trans (hb27.mono HB0.out.size)) HA1.out.2.2 HA2.out.2.2 hc1 HC2.out z1 z2 hiz
          have hok : grOk (wideG ⟨l, root⟩ i (wideK x j (wideS s ot d mm))) = true := wideG_ok HOK.out HX.out (wideS_ok (slot_in HOK.out HX.out HSX.out) HD.out HMM.out.1 HMM.out.2)
          have HOKZ := Lib.hid (errN_yes hok)
          have HFZ := Lib.hid (show fitsV (kindOf (wideG ⟨l, root⟩ i (wideK x j (wideS s ot d mm))) (i : Int)) kids = true by rw [wide_kind HX.out hok]; exact wide_fits HSX.out HMM.out.1 (by have h9 := HFT.out; rw [HO.out] at h9; exact h9))
          have HFEZ := Lib.hid (wide_few (s := s) (o := ot) (m := mm) (d := d) (j := j) HFEW.out HX.out HF40.out)
          have HGV := Lib.hid (show ∀ X, Below Z.heap.size Z X → GrV X (.agg #[.slice (some ⟨g1, 0, none⟩) l.length c1, .int .i64 root]) (wideG ⟨l, root⟩ i (wideK x j (wideS s ot d mm))) from fun X hX => by
            have h9 := grV (root := root) (kc := c1) (hkz.below hX)
            rw [List.length_set] at h9
            exact h9)
          have HSEE := Lib.hid (show ∀ X, Below Z.heap.size Z X → X.cell? ⟨wb, 0, none⟩ = some (.slice (some ⟨g1, 0, none⟩) l.length c1) ∧ X.cell? ⟨wb, 0 + 1, none⟩ = some (.int .i64 root) ∧ wb < X.heap.size from fun X hX => by
            have h9 := (hX.block wb (lt_of_some' z3)).trans z3
            exact ⟨cell0 h9 0 rfl, cell0 h9 1 rfl, lt_of_some' h9⟩)
          have HBZ := Lib.hid hb27
          obtain ⟨q0, q1, q2⟩ := HSEE.out Z (Below.refl _ _)
          clear z1 z2 z3 z7 f1 f4 f7 hb26 hb27 hc1 hiz hkz hok hgx hZ r0 r2 r3 r4 r5 r6 r7 y0 y1 y2 y3 y4 y5
          go_wp2_with (first
            | (go_at_call 11; ((with_reducible refine (check_any _ _ (wideG ⟨l, root⟩ i (wideK x j (wideS s ot d mm))) (HGV.out _ (Below.refl _ _)) HFEZ.out).mono ?_); rintro e w6 ⟨rfl, h2⟩; rw [HOKZ.out]; have H6 := Lib.hid h2; obtain ⟨q3, q4, q5⟩ := HSEE.out _ h2; clear h2))
            | (go_at_call 19; ((with_reducible refine (fits_any _ _ (wideG ⟨l, root⟩ i (wideK x j (wideS s ot d mm))) (i : Int) _ _ kids (HGV.out _ H6.out) HFEZ.out ((HA.out.below HB0.out).below (HBZ.out.trans (H6.out.mono HBZ.out.size))) hk300).mono ?_); rintro e w8 ⟨rfl, h2⟩; rw [HFZ.out]; have H8 := Lib.hid (H6.out.trans (h2.mono H6.out.size)); clear h2))
            | (go_at_call 8; ((with_reducible refine (HW.out _).mono ?_); rintro e w9 ⟨rfl, h3⟩; have H9 := Lib.hid (H8.out.trans (h3.mono H8.out.size)); clear h3)))
          go_ret
          exact ⟨rfl, HB0.out.trans ((HBZ.out.trans (H9.out.mono HBZ.out.size)).mono HB0.out.size)⟩
      obtain ⟨c, hc⟩ : ∃ c, s.kinds[k]? = some c := ⟨s.kinds[k], List.getElem?_eq_getElem hlt⟩
      have hWr : Below w.heap.size w wr := HB0.out.trans ((HX2.out.2.2.2.2.trans ((HX3.out.1.trans (hbel.mono HX3.out.1.size)).mono HX2.out.2.2.2.2.size)).mono HB0.out.size)
      obtain ⟨b5, off5, rfl, hbz5, hc5⟩ := (HI.out.below hWr) (by omega)
      have c5 := hc5 k c hc
      have HC5 := Lib.hid (ins_drop hins hc)
      have hk2 : (k : Int) < (s.kinds.length : Int) := by omega
      clear hc hc5 hWr hown hbel hins
      cases d'
      · have hKk : K.length ≤ k := hKd rfl
        clear hKd
        by_cases hoc : ot ≤ c
        · by_cases hco : c = ot
          · have HN := Lib.hid (show (K ++ [ot]) ++ insO ot true (s.kinds.drop (k + 1)) = insO ot d s.kinds by have h9 := HC5.out; rw [ins_there hco, hco] at h9; simpa using h9)
            subst c
            go_wp2_with (at_builtin; refine wpList_append_own _ rfl (.tmp 112) (.tmp 114) 35 rfl X3.heap.size 3 i0 (.int .i64 0) 1 8 Try.underlying35 HI0.out.1 HI0.out.2.1 HI0.out.2.2.1 HI0.out.2.2.2 rfl (by decide) _ _ _ rfl (HOWN.out.alloc _) ⟨wr.heap.size, 0, none⟩ 1 1 [.int .i64 ot] rfl rfl (cell_one_new _ _ _) (ints_oneCell .i64 [ot]) (by unfold maxLen; omega) (by omega) (by have := HB.out.size; simp; omega) ?_; intro v1 w7 hown1 hgrow1 _; have HB1 := Lib.hid (app_below HOWN.out HB.out hgrow1); have HO1 := Lib.hid (own_snoc hown1); clear hown1 hgrow1)
            exact ⟨⟨k + 1, K ++ [ot], true, by omega, by go_num, rfl, by simp; omega, HO1.out, HB1.out, HN.out, (fun e => by cases e)⟩, by simp [intOf]; omega⟩
          · have HN := Lib.hid (show ((K ++ [ot]) ++ [c]) ++ insO ot true (s.kinds.drop (k + 1)) = insO ot d s.kinds by have h9 := HC5.out; rw [ins_here hoc hco] at h9; simpa using h9)
            go_wp2_with (first
              | (at_builtin; refine wpList_append_own _ rfl (.tmp 108) (.tmp 110) 35 rfl X3.heap.size 3 i0 (.int .i64 0) 1 8 Try.underlying35 HI0.out.1 HI0.out.2.1 HI0.out.2.2.1 HI0.out.2.2.2 rfl (by decide) _ _ _ rfl (HOWN.out.alloc _) ⟨wr.heap.size, 0, none⟩ 1 1 [.int .i64 ot] rfl rfl (cell_one_new _ _ _) (ints_oneCell .i64 [ot]) (by unfold maxLen; omega) (by omega) (by have := HB.out.size; simp; omega) ?_; intro v1 w7 hown1 hgrow1 _; obtain ⟨va1, vc1, rfl⟩ := owns_slice hown1; have HB1 := Lib.hid (app_below HOWN.out HB.out hgrow1); have HO1 := Lib.hid hown1; clear hown1 hgrow1)
              | (at_builtin; refine wpList_append_own _ rfl (.tmp 112) (.tmp 114) 35 rfl X3.heap.size 3 i0 (.int .i64 0) 1 8 Try.underlying35 HI0.out.1 HI0.out.2.1 HI0.out.2.2.1 HI0.out.2.2.2 rfl (by decide) _ _ _ rfl (HO1.out.alloc _) ⟨w7.heap.size, 0, none⟩ 1 1 [.int .i64 c] rfl rfl (cell_one_new _ _ _) (ints_oneCell .i64 [c]) (by unfold maxLen; omega) (by omega) (by have := HB1.out.size; simp; omega) ?_; intro v2 w8 hown1 hgrow1 _; have HB2 := Lib.hid (app_below HO1.out HB1.out hgrow1); have HO2 := Lib.hid (own_snoc2 hown1); clear hown1 hgrow1))
            exact ⟨⟨k + 1, (K ++ [ot]) ++ [c], true, by omega, by go_num, rfl, by simp; omega, HO2.out, HB2.out, HN.out, (fun e => by cases e)⟩, by simp [intOf]; omega⟩
        · have HN := Lib.hid (show (K ++ [c]) ++ insO ot false (s.kinds.drop (k + 1)) = insO ot d s.kinds by have h9 := HC5.out; rw [ins_later hoc] at h9; simpa using h9)
          go_wp2_with (at_builtin; refine wpList_append_own _ rfl (.tmp 112) (.tmp 114) 35 rfl X3.heap.size 3 i0 (.int .i64 0) 1 8 Try.underlying35 HI0.out.1 HI0.out.2.1 HI0.out.2.2.1 HI0.out.2.2.2 rfl (by decide) _ _ _ rfl (HOWN.out.alloc _) ⟨wr.heap.size, 0, none⟩ 1 1 [.int .i64 c] rfl rfl (cell_one_new _ _ _) (ints_oneCell .i64 [c]) (by unfold maxLen; omega) (by omega) (by have := HB.out.size; simp; omega) ?_; intro v1 w7 hown1 hgrow1 _; have HB1 := Lib.hid (app_below HOWN.out HB.out hgrow1); have HO1 := Lib.hid (own_snoc hown1); clear hown1 hgrow1)
          exact ⟨⟨k + 1, K ++ [c], false, by omega, by go_num, rfl, by simp; omega, HO1.out, HB1.out, HN.out, (fun _ => by simp; omega)⟩, by simp [intOf]; omega⟩
      · have HN := Lib.hid (show (K ++ [c]) ++ insO ot true (s.kinds.drop (k + 1)) = insO ot d s.kinds by have h9 := HC5.out; rw [ins_done] at h9; simpa using h9)
        clear hKd
        go_wp2_with (at_builtin; refine wpList_append_own _ rfl (.tmp 112) (.tmp 114) 35 rfl X3.heap.size 3 i0 (.int .i64 0) 1 8 Try.underlying35 HI0.out.1 HI0.out.2.1 HI0.out.2.2.1 HI0.out.2.2.2 rfl (by decide) _ _ _ rfl (HOWN.out.alloc _) ⟨wr.heap.size, 0, none⟩ 1 1 [.int .i64 c] rfl rfl (cell_one_new _ _ _) (ints_oneCell .i64 [c]) (by unfold maxLen; omega) (by omega) (by have := HB.out.size; simp; omega) ?_; intro v1 w7 hown1 hgrow1 _; have HB1 := Lib.hid (app_below HOWN.out HB.out hgrow1); have HO1 := Lib.hid (own_snoc hown1); clear hown1 hgrow1)
        exact ⟨⟨k + 1, K ++ [c], true, by omega, by go_num, rfl, by simp; omega, HO1.out, HB1.out, HN.out, (fun e => by cases e)⟩, by simp [intOf]; omega⟩

end Go.Proofs.Ytecpdelbidglnaa
