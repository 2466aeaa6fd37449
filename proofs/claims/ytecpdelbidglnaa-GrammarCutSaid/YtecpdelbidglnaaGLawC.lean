/-
  What GrammarCut answers: true. No condition but that its arguments lie in memory as they came in.
-/
import Derived.Test.YtecpdelbidglnaaGCutP
import Derived.Laws.AppendOwn
import Derived.IntWalk
namespace Go.Proofs.Ytecpdelbidglnaa
open Go.RowKit

def CutL (W0 : World) (l : List Sl) (v i : Value) (wr : World) : Prop :=
  ∃ (k : Nat) (M : List Int), k ≤ l.length ∧ i = .int .i64 k ∧ MadeOk l k M ∧ wr.ownsRow W0.heap.size 3 1 v M.length (M.map (Value.int .i64)) ∧ Below W0.heap.size W0 wr
theorem kinds_pos {g : Gr} {n : Int} {x : Kd} {k : Nat} {s : Sl} (h : kindOf g n = some x) (hs : x.slots[k]? = some s) : 0 < s.kinds.length := by
  obtain ⟨hg, j, _, _, hx⟩ := kindOf_some h
  simp only [grOk, Bool.and_eq_true, List.all_eq_true] at hg
  have h1 := hg.1.2 x (List.mem_of_getElem? hx)
  simp only [kindOk, Bool.and_eq_true, List.all_eq_true] at h1
  have h2 := h1.2 s (List.mem_of_getElem? hs)
  simp only [slotOk, slotRest, Bool.and_eq_true, decide_eq_true_eq] at h2
  exact h2.2.1.1.1
def CutI (W0 : World) (tb : Nat) (c : Array Value) (M : List Int) (s : Sl) (m : Nat) (v i : Value) (wr : World) : Prop :=
  ∃ (P : List Int), P.length ≤ m ∧ i = .int .i64 P.length ∧ (∀ x ∈ P, hasInt s.kinds x = true) ∧ wr.ownsRow W0.heap.size 3 1 v (M ++ P).length ((M ++ P).map (Value.int .i64)) ∧ Below W0.heap.size W0 wr ∧ wr.heap[tb]? = some (.cells c 41 (0, 0))
theorem cutI_next {W0 wr w1 : World} {tb : Nat} {c : Array Value} {M P : List Int} {s : Sl} {m L : Nat} {x2 : Int} {q : Nat} {v v1 : Value} {X : World} (hi : P.length < m) (hP : ∀ x ∈ P, hasInt s.kinds x = true) (hL : L = (M ++ P).length) (hx : s.kinds[q]? = some x2)
    (ho : w1.ownsRow W0.heap.size 3 1 v1 (L + 1) ((M ++ P).map (Value.int .i64) ++ [.int .i64 x2])) (hg : X.grownBy w1 v.ownBlock) (hown : wr.ownsRow W0.heap.size 3 1 v L ((M ++ P).map (Value.int .i64)))
    (hb : Below W0.heap.size W0 wr) (ht : wr.heap[tb]? = some (.cells c 41 (0, 0))) (hX : Below wr.heap.size wr X) (hi2 : Value.int .i64 ((P.length : Int) + 1) = .int .i64 ((P.length + 1 : Nat) : Int)) :
    CutI W0 tb c M s m v1 (.int .i64 ((P.length : Int) + 1)) w1 ∧ m - (intOf (.int .i64 ((P.length : Int) + 1))).toNat < m - (intOf (.int .i64 (P.length : Int))).toNat := by
  refine ⟨⟨P ++ [x2], by simp; omega, by rw [hi2]; simp, fun x hx' => ?_, ?_, ?_, ?_⟩, by simp [intOf]; omega⟩
  · rcases List.mem_append.1 hx' with h | h
    · exact hP x h
    · simp at h; subst h; exact has_at hx
  · rw [← List.append_assoc, List.length_append, ← hL, List.map_append]; exact ho
  · have h1 : Below W0.heap.size W0 X := hb.trans (hX.mono hb.size)
    exact h1.grown hg h1.size (fun k hk => by have := (hown.lt k hk).1; omega)
  · have hlt := lt_of_some' ht
    rw [hg.block tb (Nat.lt_of_lt_of_le hlt hX.size) (fun e => ?_), hX.block tb hlt]
    · exact ht
    · rcases hown.2 with ⟨rfl, _⟩ | ⟨g', cap', cur, rfl, _, hh, _⟩
      · cases e
      · cases e; rw [hh] at ht; cases ht
theorem ints_owned {w : World} {B : Nat} {e : TypeId} {va : Option Addr} {n vc : Nat} {M : List Int} (h : w.ownsRow B e 1 (.slice va n vc) n (M.map (Value.int .i64))) : IntsAt w va M := fun h0 => by
  rcases h.2 with ⟨hv, hn⟩ | ⟨g', cap', cur, hv, _, hh, _, _, _, ht⟩
  · have := h.1; simp at this; omega
  · cases hv
    refine ⟨g', 0, rfl, lt_of_some' hh, fun k x hx => ?_⟩
    rw [Nat.zero_add, cell_of_row w g' k _ _ _ hh]
    have h1 : (M.map (Value.int .i64))[k]? = some (.int .i64 x) := by simp [hx]
    rw [← ht, List.getElem?_take] at h1
    split at h1
    · simpa using h1
    · cases h1
theorem owns_slice {w : World} {B : Nat} {e : TypeId} {size : Nat} {v : Value} {n : Nat} {xs : List Value} (h : w.ownsRow B e size v n xs) : ∃ a cap, v = .slice a n cap := by
  rcases h.2 with ⟨hv, h0⟩ | ⟨g', cap', cur, hv, _⟩
  · exact ⟨none, 0, by rw [hv, h0]⟩
  · exact ⟨_, _, hv⟩

set_option maxRecDepth 100000 in
set_option maxHeartbeats 4000000 in
theorem grammarCut_any (w : World) (v : Value) (g : Gr) (n : Int) (ca : Option Addr) (ccap : Nat) (cs : List Int) (pa : Option Addr) (pcap : Nat) (ps : List Int) (a : Option Addr) (cap : Nat) (kids : List Int) (hv : GrV w v g) (hf : g.fits)
    (hc : IntsAt w ca cs) (hcm : (cs.length : Int) ≤ 9223372036854775807) (hp : IntsAt w pa ps) (hpm : (ps.length : Int) ≤ 9223372036854775807) (h : IntsAt w a kids) (hm : (kids.length : Int) ≤ 9223372036854775807) :
    Calls Try.prog 5 #[v, .int .i64 n, .slice ca cs.length ccap, .slice pa ps.length pcap, .slice a kids.length cap] w (Says true w) := by
  obtain ⟨ka, kc, rfl, hk⟩ := hv
  obtain ⟨l, root⟩ := g
  simp only at hk
  have HF := Lib.hid hf
  have hfl : (l.length : Int) ≤ 9223372036854775807 := hf.1
  have HK := Lib.hid hk
  have HA := Lib.hid h
  have HCS := Lib.hid hc
  have HPS := Lib.hid hp
  have HW := Lib.hid wakes_any
  clear hf hk h hc hp
  obtain ⟨W0, hW0⟩ : ∃ W0, W0 = w.alloc (.cells #[.slice ka l.length kc, .int .i64 root] 24) := ⟨_, rfl⟩
  have HB0 := Lib.hid (show Below w.heap.size w W0 by rw [hW0]; exact box_below _ _)
  have HBOX := Lib.hid (show ∀ X, Below W0.heap.size W0 X → X.cell? ⟨w.heap.size, 0, none⟩ = some (.slice ka l.length kc) ∧ X.cell? ⟨w.heap.size, 1, none⟩ = some (.int .i64 root) by rw [hW0]; exact fun X hX => box_two hX)
  have HLT := Lib.hid (show ∀ X, Below W0.heap.size W0 X → w.heap.size < X.heap.size by
    rw [hW0]
    intro X hX
    have h1 := hX.size
    simp at h1
    omega)
  have HW0 := Lib.hid hW0
  clear hW0
  by_cases hg : greatG ⟨l, root⟩ = true
  · have HG := Lib.hid hg
    clear hg
    go_enter Try.func5, Try.ntmps5
    go_wp2_with (first
      | (go_at_call 7; ((with_reducible refine (great_any _ _ _ (grV (HK.out.below (box_below _ _))) HF.out).mono ?_); rintro e w2 ⟨rfl, h2⟩; rw [HG.out]; rw [← HW0.out] at h2; have H2 := Lib.hid h2; obtain ⟨q0, q1⟩ := HBOX.out _ h2; have hz2 : w.heap.size < w2.heap.size := HLT.out _ h2; clear h2))
      | (go_at_call 8; ((with_reducible refine (HW.out _).mono ?_); rintro e w4 ⟨rfl, h3⟩; have H4 := Lib.hid (H2.out.trans (h3.mono H2.out.size)); clear h3)))
    go_ret
    exact ⟨rfl, HB0.out.trans (H4.out.mono HB0.out.size)⟩
  have hg' : greatG ⟨l, root⟩ = false := by simpa using hg
  have HG := Lib.hid hg'
  have HFEW := Lib.hid (great_few hg').1
  clear hg hg'
  by_cases hok : grOk ⟨l, root⟩ = true
  case neg =>
    have hok' : grOk ⟨l, root⟩ = false := by simpa using hok
    have HCK := Lib.hid (errN_no hok')
    clear hok hok'
    go_enter Try.func5, Try.ntmps5
    go_wp2_with (first
      | (go_at_call 7; ((with_reducible refine (great_any _ _ _ (grV (HK.out.below (box_below _ _))) HF.out).mono ?_); rintro e w2 ⟨rfl, h2⟩; rw [HG.out]; rw [← HW0.out] at h2; have H2 := Lib.hid h2; obtain ⟨q0, q1⟩ := HBOX.out _ h2; have hz2 : w.heap.size < w2.heap.size := HLT.out _ h2; clear h2))
      | (go_at_call 11; ((with_reducible refine (check_any _ _ ⟨l, root⟩ (grV ((HK.out.below HB0.out).below H2.out)) HFEW.out).mono ?_); rintro e w3 ⟨rfl, h2⟩; rw [HCK.out]; have H3 := Lib.hid (H2.out.trans (h2.mono H2.out.size)); obtain ⟨q2, q3⟩ := HBOX.out _ H3.out; have hz3 : w.heap.size < w3.heap.size := HLT.out _ H3.out; clear h2))
      | (go_at_call 8; ((with_reducible refine (HW.out _).mono ?_); rintro e w4 ⟨rfl, h3⟩; have H4 := Lib.hid (H3.out.trans (h3.mono H3.out.size)); clear h3)))
    go_ret
    exact ⟨rfl, HB0.out.trans (H4.out.mono HB0.out.size)⟩
  have HCK := Lib.hid (errN_yes hok)
  have HOK := Lib.hid hok
  clear hok
  by_cases h1 : n < 0
  · skip
    go_enter Try.func5, Try.ntmps5
    go_wp2_with (first
      | (go_at_call 7; ((with_reducible refine (great_any _ _ _ (grV (HK.out.below (box_below _ _))) HF.out).mono ?_); rintro e w2 ⟨rfl, h2⟩; rw [HG.out]; rw [← HW0.out] at h2; have H2 := Lib.hid h2; obtain ⟨q0, q1⟩ := HBOX.out _ h2; have hz2 : w.heap.size < w2.heap.size := HLT.out _ h2; clear h2))
      | (go_at_call 11; ((with_reducible refine (check_any _ _ ⟨l, root⟩ (grV ((HK.out.below HB0.out).below H2.out)) HFEW.out).mono ?_); rintro e w3 ⟨rfl, h2⟩; rw [HCK.out]; have H3 := Lib.hid (H2.out.trans (h2.mono H2.out.size)); obtain ⟨q2, q3⟩ := HBOX.out _ H3.out; have hz3 : w.heap.size < w3.heap.size := HLT.out _ H3.out; clear h2))
      | (go_at_call 8; ((with_reducible refine (HW.out _).mono ?_); rintro e w4 ⟨rfl, h3⟩; have H4 := Lib.hid (H3.out.trans (h3.mono H3.out.size)); clear h3)))
    go_ret
    exact ⟨rfl, HB0.out.trans (H4.out.mono HB0.out.size)⟩
  by_cases h2 : (l.length : Int) ≤ n
  · skip
    go_enter Try.func5, Try.ntmps5
    go_wp2_with (first
      | (go_at_call 7; ((with_reducible refine (great_any _ _ _ (grV (HK.out.below (box_below _ _))) HF.out).mono ?_); rintro e w2 ⟨rfl, h2⟩; rw [HG.out]; rw [← HW0.out] at h2; have H2 := Lib.hid h2; obtain ⟨q0, q1⟩ := HBOX.out _ h2; have hz2 : w.heap.size < w2.heap.size := HLT.out _ h2; clear h2))
      | (go_at_call 11; ((with_reducible refine (check_any _ _ ⟨l, root⟩ (grV ((HK.out.below HB0.out).below H2.out)) HFEW.out).mono ?_); rintro e w3 ⟨rfl, h2⟩; rw [HCK.out]; have H3 := Lib.hid (H2.out.trans (h2.mono H2.out.size)); obtain ⟨q2, q3⟩ := HBOX.out _ H3.out; have hz3 : w.heap.size < w3.heap.size := HLT.out _ H3.out; clear h2))
      | (go_at_call 8; ((with_reducible refine (HW.out _).mono ?_); rintro e w4 ⟨rfl, h3⟩; have H4 := Lib.hid (H3.out.trans (h3.mono H3.out.size)); clear h3)))
    go_ret
    exact ⟨rfl, HB0.out.trans (H4.out.mono HB0.out.size)⟩
  obtain ⟨j, rfl⟩ : ∃ j : Nat, n = (j : Int) := ⟨n.toNat, by omega⟩
  have hj0 : decide ((j : Int) < 0) = false := by rw [decide_eq_false]; omega
  have hj1 : decide (l.length ≤ j) = false := by rw [decide_eq_false]; omega
  clear h1
  by_cases h3 : 20 < cs.length
  · have h3' : decide ((20 : Int) < (cs.length : Int)) = true := by rw [decide_eq_true]; omega
    go_enter Try.func5, Try.ntmps5
    go_wp2_with (first
      | (go_at_call 7; ((with_reducible refine (great_any _ _ _ (grV (HK.out.below (box_below _ _))) HF.out).mono ?_); rintro e w2 ⟨rfl, h2⟩; rw [HG.out]; rw [← HW0.out] at h2; have H2 := Lib.hid h2; obtain ⟨q0, q1⟩ := HBOX.out _ h2; have hz2 : w.heap.size < w2.heap.size := HLT.out _ h2; clear h2))
      | (go_at_call 11; ((with_reducible refine (check_any _ _ ⟨l, root⟩ (grV ((HK.out.below HB0.out).below H2.out)) HFEW.out).mono ?_); rintro e w3 ⟨rfl, h2⟩; rw [HCK.out]; have H3 := Lib.hid (H2.out.trans (h2.mono H2.out.size)); obtain ⟨q2, q3⟩ := HBOX.out _ H3.out; have hz3 : w.heap.size < w3.heap.size := HLT.out _ H3.out; clear h2))
      | (go_at_call 8; ((with_reducible refine (HW.out _).mono ?_); rintro e w4 ⟨rfl, h3⟩; have H4 := Lib.hid (H3.out.trans (h3.mono H3.out.size)); clear h3)))
    go_ret
    exact ⟨rfl, HB0.out.trans (H4.out.mono HB0.out.size)⟩
  have h3' : decide ((20 : Int) < (cs.length : Int)) = false := by rw [decide_eq_false]; omega
  by_cases h4 : 300 < ps.length
  · have h4' : decide ((300 : Int) < (ps.length : Int)) = true := by rw [decide_eq_true]; omega
    go_enter Try.func5, Try.ntmps5
    go_wp2_with (first
      | (go_at_call 7; ((with_reducible refine (great_any _ _ _ (grV (HK.out.below (box_below _ _))) HF.out).mono ?_); rintro e w2 ⟨rfl, h2⟩; rw [HG.out]; rw [← HW0.out] at h2; have H2 := Lib.hid h2; obtain ⟨q0, q1⟩ := HBOX.out _ h2; have hz2 : w.heap.size < w2.heap.size := HLT.out _ h2; clear h2))
      | (go_at_call 11; ((with_reducible refine (check_any _ _ ⟨l, root⟩ (grV ((HK.out.below HB0.out).below H2.out)) HFEW.out).mono ?_); rintro e w3 ⟨rfl, h2⟩; rw [HCK.out]; have H3 := Lib.hid (H2.out.trans (h2.mono H2.out.size)); obtain ⟨q2, q3⟩ := HBOX.out _ H3.out; have hz3 : w.heap.size < w3.heap.size := HLT.out _ H3.out; clear h2))
      | (go_at_call 8; ((with_reducible refine (HW.out _).mono ?_); rintro e w4 ⟨rfl, h3⟩; have H4 := Lib.hid (H3.out.trans (h3.mono H3.out.size)); clear h3)))
    go_ret
    exact ⟨rfl, HB0.out.trans (H4.out.mono HB0.out.size)⟩
  have h4' : decide ((300 : Int) < (ps.length : Int)) = false := by rw [decide_eq_false]; omega
  by_cases h5 : 300 < kids.length
  · have h5' : decide ((300 : Int) < (kids.length : Int)) = true := by rw [decide_eq_true]; omega
    go_enter Try.func5, Try.ntmps5
    go_wp2_with (first
      | (go_at_call 7; ((with_reducible refine (great_any _ _ _ (grV (HK.out.below (box_below _ _))) HF.out).mono ?_); rintro e w2 ⟨rfl, h2⟩; rw [HG.out]; rw [← HW0.out] at h2; have H2 := Lib.hid h2; obtain ⟨q0, q1⟩ := HBOX.out _ h2; have hz2 : w.heap.size < w2.heap.size := HLT.out _ h2; clear h2))
      | (go_at_call 11; ((with_reducible refine (check_any _ _ ⟨l, root⟩ (grV ((HK.out.below HB0.out).below H2.out)) HFEW.out).mono ?_); rintro e w3 ⟨rfl, h2⟩; rw [HCK.out]; have H3 := Lib.hid (H2.out.trans (h2.mono H2.out.size)); obtain ⟨q2, q3⟩ := HBOX.out _ H3.out; have hz3 : w.heap.size < w3.heap.size := HLT.out _ H3.out; clear h2))
      | (go_at_call 8; ((with_reducible refine (HW.out _).mono ?_); rintro e w4 ⟨rfl, h3⟩; have H4 := Lib.hid (H3.out.trans (h3.mono H3.out.size)); clear h3)))
    go_ret
    exact ⟨rfl, HB0.out.trans (H4.out.mono HB0.out.size)⟩
  have h5' : decide ((300 : Int) < (kids.length : Int)) = false := by rw [decide_eq_false]; omega
  have HK300 := Lib.hid (show kids.length ≤ 1000000 by omega)
  obtain ⟨k, hx⟩ : ∃ x, l[j]? = some x := ⟨l[j]'(by omega), List.getElem?_eq_getElem _⟩
  have ho := kindOf_in (g := ⟨l, root⟩) HOK.out hx
  obtain ⟨h8, _⟩ := ok_least ho
  have HS3 := Lib.hid (ok_slots ho HFEW.out)
  have HO := Lib.hid ho
  obtain ⟨b, off, rfl, hblt, hkc⟩ := HK.out (by omega)
  obtain ⟨sa, sc, _, _, c2, hs⟩ := hkc j k hx
  have HC := Lib.hid c2
  have HS := Lib.hid hs
  have hj2 : (j : Int) < (l.length : Int) := by omega
  obtain ⟨nm, tx, sl⟩ := k
  simp only at h8 HC HS HS3
  clear hx hkc c2 ho hs h2 h3 h4 h5
  go_enter Try.func5, Try.ntmps5
  go_wp2_with (first
    | (go_at_call 7; ((with_reducible refine (great_any _ _ _ (grV (HK.out.below (box_below _ _))) HF.out).mono ?_); rintro e w2 ⟨rfl, h2⟩; rw [HG.out]; rw [← HW0.out] at h2; have H2 := Lib.hid h2; obtain ⟨q0, q1⟩ := HBOX.out _ h2; have hz2 : w.heap.size < w2.heap.size := HLT.out _ h2; clear h2))
    | (go_at_call 11; ((with_reducible refine (check_any _ _ ⟨l, root⟩ (grV ((HK.out.below HB0.out).below H2.out)) HFEW.out).mono ?_); rintro e w3 ⟨rfl, h2⟩; rw [HCK.out]; have H3 := Lib.hid (H2.out.trans (h2.mono H2.out.size)); obtain ⟨q2, q3⟩ := HBOX.out _ H3.out; have hz3 : w.heap.size < w3.heap.size := HLT.out _ H3.out; have d2 := ((HB0.out.trans (H3.out.mono HB0.out.size)).cell hblt).trans HC.out; have hbz := Nat.lt_of_lt_of_le hblt (HB0.out.trans (H3.out.mono HB0.out.size)).size; clear h2)))
  clear d2 hbz hj0 hj1 h3' h4' h5' q0 q1 q2 q3 hz2 hz3
  have hi4 : (Try.prog.info? 3).map (fun i => (i.zero, i.size, i.bytes)) = some (some (.int .i64 0), 1, 8) := by kernel_rfl
  obtain ⟨i0, hi0, hx0⟩ := Option.map_eq_some_iff.1 hi4
  simp only [Prod.mk.injEq] at hx0
  have HI0 := Lib.hid (show Try.prog.info? 3 = some i0 ∧ i0.zero = some (.int .i64 0) ∧ i0.size = 1 ∧ i0.bytes = 8 from ⟨hi0, hx0.1, hx0.2.1, hx0.2.2⟩)
  clear hi4 hi0 hx0
  go_loopw [11, 58] (fun v i wr => CutL W0 sl v i wr) (fun _ i _ => sl.length - (intOf i).toNat)
  case atStart => exact ⟨0, [], Nat.zero_le _, rfl, MadeOk.start sl, ⟨rfl, Or.inl ⟨rfl, rfl⟩⟩, H3.out⟩
  case round =>
    obtain ⟨k, M, hkl, rfl, hmade, hown, hbel⟩ := hrel
    obtain ⟨va, vc, rfl⟩ := owns_slice hown
    have hM := hmade.1
    have HOWN := Lib.hid hown
    have HB := Lib.hid hbel
    have HM := Lib.hid hmade
    by_cases hlt : k < sl.length
    case neg =>
      obtain rfl : k = sl.length := by omega
      have HFM := Lib.hid (show fitsV (kindOf ⟨l, root⟩ (j : Int)) M = true by rw [HO.out]; exact hmade.fits)
      have HIM := Lib.hid (ints_owned hown)
      obtain ⟨q0, q1⟩ := HBOX.out _ hbel
      have hzr : w.heap.size < wr.heap.size := HLT.out _ hbel
      obtain ⟨bb, hbb⟩ : ∃ bb, fitsV (kindOf ⟨l, root⟩ (j : Int)) kids = bb := ⟨_, rfl⟩
      obtain ⟨ln, hln⟩ : ∃ ln, leastV (kindOf ⟨l, root⟩ (j : Int)) = ln := ⟨_, rfl⟩
      have HBB := Lib.hid hbb
      have HLN := Lib.hid hln
      have HGV := Lib.hid (show ∀ X, Below W0.heap.size W0 X → GrV X (.agg #[.slice (some ⟨b, off, none⟩) l.length kc, .int .i64 root]) ⟨l, root⟩ from fun X hX => grV ((HK.out.below HB0.out).below hX))
      have hkl2 : ¬ (sl.length : Int) < (sl.length : Int) := by omega
      have hk300 : kids.length ≤ 1000000 := HK300.out
      clear hlt hown hbel hmade hbb hln
      cases bb
      · go_wp2_with (first
          | (go_at_call 19; ((with_reducible refine (fits_any _ _ ⟨l, root⟩ (j : Int) _ _ M (HGV.out _ HB.out) HFEW.out HIM.out (by omega)).mono ?_); rintro e w5 ⟨rfl, h2⟩; rw [HFM.out]; clear HIM; have H5 := Lib.hid (HB.out.trans (h2.mono HB.out.size)); obtain ⟨q4, q5⟩ := HBOX.out _ H5.out; clear h2))
          | (go_at_call 19; ((with_reducible refine (fits_any _ _ ⟨l, root⟩ (j : Int) _ _ kids (HGV.out _ H5.out) HFEW.out ((HA.out.below HB0.out).below H5.out) hk300).mono ?_); rintro e w6 ⟨rfl, h2⟩; rw [HBB.out]; have H6 := Lib.hid (H5.out.trans (h2.mono H5.out.size)); obtain ⟨q6, q7⟩ := HBOX.out _ H6.out; clear h2))
          | (go_at_call 8; ((with_reducible refine (HW.out _).mono ?_); rintro e w8 ⟨rfl, h3⟩; have H8 := Lib.hid (H6.out.trans (h3.mono H6.out.size)); clear h3)))
        go_ret
        exact ⟨rfl, HB0.out.trans (H8.out.mono HB0.out.size)⟩
      · have hfl2 := fits_least HBB.out
        have hl1 : ¬ (kids.length : Int) < ln := by have := HLN.out; omega
        have hl2 : ¬ (200 : Int) < (kids.length : Int) := by omega
        clear hfl2
        go_wp2_with (first
          | (go_at_call 19; ((with_reducible refine (fits_any _ _ ⟨l, root⟩ (j : Int) _ _ M (HGV.out _ HB.out) HFEW.out HIM.out (by omega)).mono ?_); rintro e w5 ⟨rfl, h2⟩; rw [HFM.out]; clear HIM; have H5 := Lib.hid (HB.out.trans (h2.mono HB.out.size)); obtain ⟨q4, q5⟩ := HBOX.out _ H5.out; clear h2))
          | (go_at_call 19; ((with_reducible refine (fits_any _ _ ⟨l, root⟩ (j : Int) _ _ kids (HGV.out _ H5.out) HFEW.out ((HA.out.below HB0.out).below H5.out) hk300).mono ?_); rintro e w6 ⟨rfl, h2⟩; rw [HBB.out]; have H6 := Lib.hid (H5.out.trans (h2.mono H5.out.size)); obtain ⟨q6, q7⟩ := HBOX.out _ H6.out; clear h2))
          | (go_at_call 15; ((with_reducible refine (least_any _ _ ⟨l, root⟩ (j : Int) (HGV.out _ H6.out) HFEW.out).mono ?_); rintro e w7 ⟨rfl, h2⟩; rw [HLN.out]; have H7 := Lib.hid (H6.out.trans (h2.mono H6.out.size)); clear h2))
          | (go_at_call 8; ((with_reducible refine (HW.out _).mono ?_); rintro e w8 ⟨rfl, h3⟩; have H8 := Lib.hid (H7.out.trans (h3.mono H7.out.size)); clear h3)))
        go_ret
        exact ⟨rfl, HB0.out.trans (H8.out.mono HB0.out.size)⟩
    obtain ⟨s, hx⟩ : ∃ s, sl[k]? = some s := ⟨sl[k], List.getElem?_eq_getElem hlt⟩
    obtain ⟨hs0, hs1, hs2, hs3⟩ := HS3.out s (List.mem_of_getElem? hx)
    have hbw := HB0.out.trans (hbel.mono HB0.out.size)
    obtain ⟨b2, off2, rfl, hbz1, hc2⟩ := HS.out (by omega)
    obtain ⟨ka2, kc2, d0', d1', d2', hii⟩ := hc2 k s hx
    have d0 := (hbw.cell (p := ⟨b2, off2 + k * 3, none⟩) hbz1).trans d0'
    have d1 := (hbw.cell (p := ⟨b2, off2 + k * 3 + 1, none⟩) hbz1).trans d1'
    have d2 := (hbw.cell (p := ⟨b2, off2 + k * 3 + 2, none⟩) hbz1).trans d2'
    have hbz2 : b2 < wr.heap.size := Nat.lt_of_lt_of_le hbz1 hbw.size
    have HI := Lib.hid hii
    have HX := Lib.hid hx
    have HFS := Lib.hid hs0
    have HKP := Lib.hid (kinds_pos HO.out (show (⟨nm, tx, sl⟩ : Kd).slots[k]? = some s from hx))
    have hkl2 : (k : Int) < (sl.length : Int) := by omega
    clear hx hc2 hii hbw hown hbel hmade d0' d1' d2'
    by_cases hkc : k < cs.length
    · obtain ⟨c, hcx⟩ : ∃ c, cs[k]? = some c := ⟨cs[k], List.getElem?_eq_getElem hkc⟩
      obtain ⟨b3, off3, rfl, hbz3, hc3⟩ := (HCS.out.below (HB0.out.trans (HB.out.mono HB0.out.size))) (by omega)
      have cc := hc3 k c hcx
      have hkc2 : (k : Int) < (cs.length : Int) := by omega
      obtain ⟨m1, hm1⟩ : ∃ m1, (if c < s.least then s.least else c) = m1 := ⟨_, rfl⟩
      obtain ⟨m, hm2⟩ : ∃ m : Nat, (if s.most < m1 then s.most else m1) = (m : Int) := ⟨(if s.most < m1 then s.most else m1).toNat, by split at hm1 <;> split <;> omega⟩
      have hml : s.least ≤ (m : Int) ∧ (m : Int) ≤ s.most := by split at hm1 <;> split at hm2 <;> omega
      have HML := Lib.hid hml
      clear hcx hc3 hml
      go_wp2_with fail
      go_quiet (fail)
      clear hm1 hm2 cc
      obtain ⟨wo, hwo⟩ : ∃ wo, wo = (wr.alloc (.cells #[.slice ka2 s.kinds.length kc2, .int .i64 s.least, .int .i64 s.most] 41)).drewN nq := ⟨_, rfl⟩
      rw [← hwo]
      have HO1 := Lib.hid (show wo.ownsRow W0.heap.size 3 1 (.slice va M.length vc) M.length (M.map (Value.int .i64)) by rw [hwo]; first | exact HOWN.out.alloc _ | exact World.ownsRow.alloc HOWN.out _)
      have HO2 := Lib.hid (show Below W0.heap.size W0 wo by rw [hwo]; first | exact below_drewN (HB.out.alloc HB.out.size _) _ | exact HB.out.alloc HB.out.size _)
      have HO3 := Lib.hid (show wo.heap[wr.heap.size]? = some (.cells #[.slice ka2 s.kinds.length kc2, .int .i64 s.least, .int .i64 s.most] 41 (0, 0)) by rw [hwo]; exact heap_alloc_new _ _)
      obtain ⟨tb, htb⟩ : ∃ tb, tb = wr.heap.size := ⟨_, rfl⟩
      rw [← htb] at HO3
      rw [← htb]
      clear hwo htb d0 d1 d2
      by_cases hbig : 200 - (M.length : Int) < (m : Int)
      · go_wp2_with (go_at_call 8; ((with_reducible refine (HW.out _).mono ?_); rintro e w4 ⟨rfl, h3⟩; have H4 := Lib.hid (HO2.out.trans (h3.mono HO2.out.size)); clear h3))
        go_ret
        exact ⟨rfl, HB0.out.trans (H4.out.mono HB0.out.size)⟩
      have hbig2 : M.length + m ≤ 200 := by omega
      go_wp2_with fail
      clear hbig
      go_loopw [11, 86] (fun v i wr => CutI W0 tb #[.slice ka2 s.kinds.length kc2, .int .i64 s.least, .int .i64 s.most] M s m v i wr) (fun _ i _ => m - (intOf i).toNat)
      case atStart => exact ⟨[], Nat.zero_le _, rfl, (fun x hx => by cases hx), by simpa using HO1.out, HO2.out, HO3.out⟩
      case round =>
        obtain ⟨P, hpm2, rfl, hP, hown2, hbel2, htb2⟩ := hrel
        obtain ⟨va2, vc2, rfl⟩ := owns_slice hown2
        obtain ⟨L, hL⟩ : ∃ L, L = (M ++ P).length := ⟨_, rfl⟩
        have HL2 := Lib.hid (show L = M.length + P.length by rw [hL, List.length_append])
        rw [← hL] at hown2
        rw [← hL]
        have HOWN2 := Lib.hid hown2
        have HB2 := Lib.hid hbel2
        have HTB2 := Lib.hid htb2
        have HP := Lib.hid (And.intro hP hL)
        by_cases hi : P.length < m
        case neg =>
          have hPm : P.length = m := by omega
          have HPm := Lib.hid hPm
          have hi2 : ¬ (P.length : Int) < (m : Int) := by omega
          have HNX := Lib.hid (HM.out.next (P := P) HX.out (by have := HML.out; omega) (by have := HML.out; omega) (by rw [List.length_append]; omega) hP)
          clear hown2 hbel2 htb2 hP hL hPm
          go_wp2_with fail
          exact ⟨⟨k + 1, M ++ P, by omega, by go_num, HNX.out, by have := HOWN2.out; rw [← HP.out.2]; exact this, HB2.out⟩, by simp [intOf]; omega⟩
        have e0 := cell0 htb2 0 rfl
        have hL3 : L < 200 := by have := HL2.out; omega
        have hkne : ¬ s.kinds = [] := fun e => by have := HKP.out; rw [e] at this; simp at this
        have hi2 : (P.length : Int) < (m : Int) := by omega
        have hK : 0 < s.kinds.length := HKP.out
        have hK2 : s.kinds.length ≤ 1000000 := HFS.out
        by_cases hps : 0 < ps.length
        · obtain ⟨pi, hpi⟩ : ∃ pi, pi = L % ps.length := ⟨_, rfl⟩
          have hpi2 : pi < ps.length := by rw [hpi]; exact Nat.mod_lt _ hps
          obtain ⟨x, hxp⟩ : ∃ x, ps[pi]? = some x := ⟨ps[pi], List.getElem?_eq_getElem hpi2⟩
          obtain ⟨b4, off4, rfl, hbz4, hc4⟩ := (HPS.out.below (HB0.out.trans (hbel2.mono HB0.out.size))) hps
          have cx := hc4 pi x hxp
          have hr1 : (L : Int).tmod (ps.length : Int) = (pi : Int) := by rw [hpi]; rfl
          have hps2 : (0 : Int) < (ps.length : Int) := by omega
          obtain ⟨y, hy⟩ : ∃ y, x.tmod (s.kinds.length : Int) = y := ⟨_, rfl⟩
          have hy1 : y < (s.kinds.length : Int) := by rw [← hy]; exact Int.tmod_lt_of_pos _ (by omega)
          have hy2 : -(s.kinds.length : Int) < y := by rw [← hy]; exact Int.lt_tmod_of_pos _ (by omega)
          obtain ⟨q, hq⟩ : ∃ q : Nat, (y + (s.kinds.length : Int)).tmod (s.kinds.length : Int) = (q : Int) := ⟨((y + (s.kinds.length : Int)).tmod (s.kinds.length : Int)).toNat, by have := Int.tmod_nonneg (s.kinds.length : Int) (show 0 ≤ y + (s.kinds.length : Int) by omega); omega⟩
          have hq1 : q < s.kinds.length := by have := Int.tmod_lt_of_pos (y + (s.kinds.length : Int)) (show (0 : Int) < (s.kinds.length : Int) by omega); omega
          have hq2 : (q : Int) < (s.kinds.length : Int) := by omega
          obtain ⟨x2, hx2⟩ : ∃ x2, s.kinds[q]? = some x2 := ⟨s.kinds[q], List.getElem?_eq_getElem hq1⟩
          obtain ⟨b5, off5, rfl, hbz5, hc5⟩ := (HI.out.below (HB0.out.trans (hbel2.mono HB0.out.size))) hK
          have c5 := hc5 q x2 hx2
          have HX2 := Lib.hid hx2
          have hpne : ¬ ps = [] := fun e => by rw [e] at hps; simp at hps
          have hpi3 : (pi : Int) < (ps.length : Int) := by omega
          have hz5 : wr.heap.size + 1 ≤ wr.heap.size + 1 := Nat.le_refl _
          have HTL := Lib.hid (lt_of_some' htb2)
          clear hpi hxp hc4 hown2 hbel2 htb2 hP hL hx2 hc5 hz5
          go_wp2_with fail
          refine wp_region_quiet_lit (by kernel_rfl) (by kernel_rfl) ?_
          refine wpQuiet_step (fun K hK => ?_)
          rw [if_pos (by rfl)]
          refine ⟨.slice (some ⟨b4, off4, none⟩) ps.length pcap, fun X hX => ?_, hK _ ?_⟩
          · clear hK; obtain ⟨q, rfl⟩ := hX; go_simp
          clear hK K
          simp only [Act.put, List.setIfInBounds_toArray, List.set_cons_zero, List.set_cons_succ]
          refine wpQuiet_step (fun K hK => ?_)
          rw [if_pos (by rfl)]
          refine ⟨.slice va2 L vc2, fun X hX => ?_, hK _ ?_⟩
          · clear hK; obtain ⟨q, rfl⟩ := hX; go_simp
          clear hK K
          simp only [Act.put, List.setIfInBounds_toArray, List.set_cons_zero, List.set_cons_succ]
          refine wpQuiet_step (fun K hK => ?_)
          rw [if_pos (by rfl)]
          refine ⟨.int .i64 (L : Int), fun X hX => ?_, hK _ ?_⟩
          · clear hK; obtain ⟨q, rfl⟩ := hX; go_simp
          clear hK K
          simp only [Act.put, List.setIfInBounds_toArray, List.set_cons_zero, List.set_cons_succ]
          refine wpQuiet_step (fun K hK => ?_)
          rw [if_pos (by rfl)]
          refine ⟨.slice (some ⟨b4, off4, none⟩) ps.length pcap, fun X hX => ?_, hK _ ?_⟩
          · clear hK; obtain ⟨q, rfl⟩ := hX; go_simp
          clear hK K
          simp only [Act.put, List.setIfInBounds_toArray, List.set_cons_zero, List.set_cons_succ]
          refine wpQuiet_step (fun K hK => ?_)
          rw [if_pos (by rfl)]
          refine ⟨.int .i64 (ps.length : Int), fun X hX => ?_, hK _ ?_⟩
          · clear hK; obtain ⟨q, rfl⟩ := hX; go_simp
          clear hK K
          simp only [Act.put, List.setIfInBounds_toArray, List.set_cons_zero, List.set_cons_succ]
          refine wpQuiet_step (fun K hK => ?_)
          rw [if_pos (by rfl)]
          refine ⟨.int .i64 (pi : Int), fun X hX => ?_, hK _ ?_⟩
          · clear hK; obtain ⟨q, rfl⟩ := hX; go_simp
          clear hK K
          simp only [Act.put, List.setIfInBounds_toArray, List.set_cons_zero, List.set_cons_succ]
          refine wpQuiet_step (fun K hK => ?_)
          rw [if_pos (by rfl)]
          refine ⟨.pointer (some ⟨b4, off4 + pi, none⟩), fun X hX => ?_, hK _ ?_⟩
          · clear hK; obtain ⟨q, rfl⟩ := hX; go_simp
          clear hK K
          simp only [Act.put, List.setIfInBounds_toArray, List.set_cons_zero, List.set_cons_succ]
          refine wpQuiet_step (fun K hK => ?_)
          rw [if_pos (by rfl)]
          refine ⟨.int .i64 x, fun X hX => ?_, hK _ ?_⟩
          · clear hK; obtain ⟨q, rfl⟩ := hX; go_simp
          clear hK K
          simp only [Act.put, List.setIfInBounds_toArray, List.set_cons_zero, List.set_cons_succ]
          refine wpQuiet_step (fun K hK => ?_)
          rw [if_pos (by rfl)]
          refine ⟨.pointer (some ⟨tb, 0, none⟩), fun X hX => ?_, hK _ ?_⟩
          · clear hK; obtain ⟨q, rfl⟩ := hX; go_simp
          clear hK K
          simp only [Act.put, List.setIfInBounds_toArray, List.set_cons_zero, List.set_cons_succ]
          refine wpQuiet_step (fun K hK => ?_)
          rw [if_pos (by rfl)]
          refine ⟨.slice (some ⟨b5, off5, none⟩) s.kinds.length kc2, fun X hX => ?_, hK _ ?_⟩
          · clear hK; obtain ⟨q, rfl⟩ := hX; go_simp
          clear hK K
          simp only [Act.put, List.setIfInBounds_toArray, List.set_cons_zero, List.set_cons_succ]
          refine wpQuiet_step (fun K hK => ?_)
          rw [if_pos (by rfl)]
          refine ⟨.int .i64 (s.kinds.length : Int), fun X hX => ?_, hK _ ?_⟩
          · clear hK; obtain ⟨q, rfl⟩ := hX; go_simp
          clear hK K
          simp only [Act.put, List.setIfInBounds_toArray, List.set_cons_zero, List.set_cons_succ]
          refine wpQuiet_step (fun K hK => ?_)
          rw [if_pos (by rfl)]
          refine ⟨.int .i64 y, fun X hX => ?_, hK _ ?_⟩
          · clear hK; obtain ⟨q, rfl⟩ := hX; go_simp
          clear hK K
          simp only [Act.put, List.setIfInBounds_toArray, List.set_cons_zero, List.set_cons_succ]
          refine wpQuiet_step (fun K hK => ?_)
          rw [if_pos (by rfl)]
          refine ⟨.int .i64 y, fun X hX => ?_, hK _ ?_⟩
          · clear hK; obtain ⟨q, rfl⟩ := hX; go_simp
          clear hK K
          simp only [Act.put, List.setIfInBounds_toArray, List.set_cons_zero, List.set_cons_succ]
          refine wpQuiet_nil ?_
          intro X hX
          obtain ⟨nq, rfl⟩ := hX
          clear hr1 cx
          go_wp2_with (at_builtin; refine wpList_append_own _ rfl (.tmp 112) (.tmp 118) 35 rfl W0.heap.size 3 i0 (.int .i64 0) 1 8 Try.underlying35 HI0.out.1 HI0.out.2.1 HI0.out.2.2.1 HI0.out.2.2.2 rfl (by decide) _ _ _ rfl (World.ownsRow.alloc (w := wr.drewN nq) HOWN2.out _) ⟨wr.heap.size, 0, none⟩ 1 1 [.int .i64 x2] rfl rfl (cell_one_new _ _ _) (ints_oneCell .i64 [x2]) (by unfold maxLen; omega) (by omega) (by have := HB2.out.size; simp; omega) ?_; intro v1 w1 hown1 hgrow1 _; have HG1 := Lib.hid hgrow1; have HO9 := Lib.hid hown1; clear hown1 hgrow1)
          exact cutI_next hi HP.out.1 HP.out.2 HX2.out HO9.out HG1.out HOWN2.out HB2.out HTB2.out ((below_drewN (Below.refl wr.heap.size wr) nq).alloc (Nat.le_refl _) _) (by go_num)
        · have hps2 : ¬ (0 : Int) < (ps.length : Int) := by omega
          obtain ⟨x2, hx2⟩ : ∃ x2, s.kinds[0]? = some x2 := ⟨s.kinds[0], List.getElem?_eq_getElem hK⟩
          obtain ⟨b5, off5, rfl, hbz5, hc5⟩ := (HI.out.below (HB0.out.trans (hbel2.mono HB0.out.size))) hK
          have c5 := hc5 0 x2 hx2
          rw [Nat.add_zero] at c5
          have HX2 := Lib.hid hx2
          have hK3 : (0 : Int) < (s.kinds.length : Int) := by omega
          clear hown2 hbel2 htb2 hP hL hx2 hc5
          go_wp2_with (at_builtin; refine wpList_append_own _ rfl (.tmp 112) (.tmp 118) 35 rfl W0.heap.size 3 i0 (.int .i64 0) 1 8 Try.underlying35 HI0.out.1 HI0.out.2.1 HI0.out.2.2.1 HI0.out.2.2.2 rfl (by decide) _ _ _ rfl (HOWN2.out.alloc _) ⟨wr.heap.size, 0, none⟩ 1 1 [.int .i64 x2] rfl rfl (cell_one_new _ _ _) (ints_oneCell .i64 [x2]) (by unfold maxLen; omega) (by omega) (by have := HB2.out.size; simp; omega) ?_; intro v1 w1 hown1 hgrow1 _; have HG1 := Lib.hid hgrow1; have HO9 := Lib.hid hown1; clear hown1 hgrow1)
          exact cutI_next hi HP.out.1 HP.out.2 HX2.out HO9.out HG1.out HOWN2.out HB2.out HTB2.out (box_below _ _) (by go_num)
    · obtain ⟨m, hm⟩ : ∃ m : Nat, s.least = (m : Int) := ⟨s.least.toNat, by omega⟩
      have HML := Lib.hid (show s.least ≤ (m : Int) ∧ (m : Int) ≤ s.most from ⟨by omega, by omega⟩)
      have hkc2 : ¬ (k : Int) < (cs.length : Int) := by omega
      rw [hm] at d1
      clear hm
      by_cases hbig : 200 - (M.length : Int) < (m : Int)
      · go_wp2_with (go_at_call 8; ((with_reducible refine (HW.out _).mono ?_); rintro e w4 ⟨rfl, h3⟩; have HB9 := Lib.hid (HB.out.alloc HB.out.size (.cells #[.slice ka2 s.kinds.length kc2, .int .i64 (m : Int), .int .i64 s.most] 41)); have H4 := Lib.hid (HB9.out.trans (h3.mono HB9.out.size)); clear h3))
        go_ret
        exact ⟨rfl, HB0.out.trans (H4.out.mono HB0.out.size)⟩
      have hbig2 : M.length + m ≤ 200 := by omega
      go_wp2_with fail
      clear hbig
      obtain ⟨wo, hwo⟩ : ∃ wo, wo = wr.alloc (.cells #[.slice ka2 s.kinds.length kc2, .int .i64 (m : Int), .int .i64 s.most] 41) := ⟨_, rfl⟩
      rw [← hwo]
      have HO1 := Lib.hid (show wo.ownsRow W0.heap.size 3 1 (.slice va M.length vc) M.length (M.map (Value.int .i64)) by rw [hwo]; first | exact HOWN.out.alloc _ | exact World.ownsRow.alloc HOWN.out _)
      have HO2 := Lib.hid (show Below W0.heap.size W0 wo by rw [hwo]; first | exact below_drewN (HB.out.alloc HB.out.size _) _ | exact HB.out.alloc HB.out.size _)
      have HO3 := Lib.hid (show wo.heap[wr.heap.size]? = some (.cells #[.slice ka2 s.kinds.length kc2, .int .i64 (m : Int), .int .i64 s.most] 41 (0, 0)) by rw [hwo]; exact heap_alloc_new _ _)
      obtain ⟨tb, htb⟩ : ∃ tb, tb = wr.heap.size := ⟨_, rfl⟩
      rw [← htb] at HO3
      rw [← htb]
      clear hwo htb d0 d1 d2
      go_loopw [11, 86] (fun v i wr => CutI W0 tb #[.slice ka2 s.kinds.length kc2, .int .i64 (m : Int), .int .i64 s.most] M s m v i wr) (fun _ i _ => m - (intOf i).toNat)
      case atStart => exact ⟨[], Nat.zero_le _, rfl, (fun x hx => by cases hx), by simpa using HO1.out, HO2.out, HO3.out⟩
      case round =>
        obtain ⟨P, hpm2, rfl, hP, hown2, hbel2, htb2⟩ := hrel
        obtain ⟨va2, vc2, rfl⟩ := owns_slice hown2
        obtain ⟨L, hL⟩ : ∃ L, L = (M ++ P).length := ⟨_, rfl⟩
        have HL2 := Lib.hid (show L = M.length + P.length by rw [hL, List.length_append])
        rw [← hL] at hown2
        rw [← hL]
        have HOWN2 := Lib.hid hown2
        have HB2 := Lib.hid hbel2
        have HTB2 := Lib.hid htb2
        have HP := Lib.hid (And.intro hP hL)
        by_cases hi : P.length < m
        case neg =>
          have hPm : P.length = m := by omega
          have HPm := Lib.hid hPm
          have hi2 : ¬ (P.length : Int) < (m : Int) := by omega
          have HNX := Lib.hid (HM.out.next (P := P) HX.out (by have := HML.out; omega) (by have := HML.out; omega) (by rw [List.length_append]; omega) hP)
          clear hown2 hbel2 htb2 hP hL hPm
          go_wp2_with fail
          exact ⟨⟨k + 1, M ++ P, by omega, by go_num, HNX.out, by have := HOWN2.out; rw [← HP.out.2]; exact this, HB2.out⟩, by simp [intOf]; omega⟩
        have e0 := cell0 htb2 0 rfl
        have hL3 : L < 200 := by have := HL2.out; omega
        have hkne : ¬ s.kinds = [] := fun e => by have := HKP.out; rw [e] at this; simp at this
        have hi2 : (P.length : Int) < (m : Int) := by omega
        have hK : 0 < s.kinds.length := HKP.out
        have hK2 : s.kinds.length ≤ 1000000 := HFS.out
        by_cases hps : 0 < ps.length
        · obtain ⟨pi, hpi⟩ : ∃ pi, pi = L % ps.length := ⟨_, rfl⟩
          have hpi2 : pi < ps.length := by rw [hpi]; exact Nat.mod_lt _ hps
          obtain ⟨x, hxp⟩ : ∃ x, ps[pi]? = some x := ⟨ps[pi], List.getElem?_eq_getElem hpi2⟩
          obtain ⟨b4, off4, rfl, hbz4, hc4⟩ := (HPS.out.below (HB0.out.trans (hbel2.mono HB0.out.size))) hps
          have cx := hc4 pi x hxp
          have hr1 : (L : Int).tmod (ps.length : Int) = (pi : Int) := by rw [hpi]; rfl
          have hps2 : (0 : Int) < (ps.length : Int) := by omega
          obtain ⟨y, hy⟩ : ∃ y, x.tmod (s.kinds.length : Int) = y := ⟨_, rfl⟩
          have hy1 : y < (s.kinds.length : Int) := by rw [← hy]; exact Int.tmod_lt_of_pos _ (by omega)
          have hy2 : -(s.kinds.length : Int) < y := by rw [← hy]; exact Int.lt_tmod_of_pos _ (by omega)
          obtain ⟨q, hq⟩ : ∃ q : Nat, (y + (s.kinds.length : Int)).tmod (s.kinds.length : Int) = (q : Int) := ⟨((y + (s.kinds.length : Int)).tmod (s.kinds.length : Int)).toNat, by have := Int.tmod_nonneg (s.kinds.length : Int) (show 0 ≤ y + (s.kinds.length : Int) by omega); omega⟩
          have hq1 : q < s.kinds.length := by have := Int.tmod_lt_of_pos (y + (s.kinds.length : Int)) (show (0 : Int) < (s.kinds.length : Int) by omega); omega
          have hq2 : (q : Int) < (s.kinds.length : Int) := by omega
          obtain ⟨x2, hx2⟩ : ∃ x2, s.kinds[q]? = some x2 := ⟨s.kinds[q], List.getElem?_eq_getElem hq1⟩
          obtain ⟨b5, off5, rfl, hbz5, hc5⟩ := (HI.out.below (HB0.out.trans (hbel2.mono HB0.out.size))) hK
          have c5 := hc5 q x2 hx2
          have HX2 := Lib.hid hx2
          have hpne : ¬ ps = [] := fun e => by rw [e] at hps; simp at hps
          have hpi3 : (pi : Int) < (ps.length : Int) := by omega
          have hz5 : wr.heap.size + 1 ≤ wr.heap.size + 1 := Nat.le_refl _
          have HTL := Lib.hid (lt_of_some' htb2)
          clear hpi hxp hc4 hown2 hbel2 htb2 hP hL hx2 hc5 hz5
          go_wp2_with fail
          refine wp_region_quiet_lit (by kernel_rfl) (by kernel_rfl) ?_
          refine wpQuiet_step (fun K hK => ?_)
          rw [if_pos (by rfl)]
          refine ⟨.slice (some ⟨b4, off4, none⟩) ps.length pcap, fun X hX => ?_, hK _ ?_⟩
          · clear hK; obtain ⟨q, rfl⟩ := hX; go_simp
          clear hK K
          simp only [Act.put, List.setIfInBounds_toArray, List.set_cons_zero, List.set_cons_succ]
          refine wpQuiet_step (fun K hK => ?_)
          rw [if_pos (by rfl)]
          refine ⟨.slice va2 L vc2, fun X hX => ?_, hK _ ?_⟩
          · clear hK; obtain ⟨q, rfl⟩ := hX; go_simp
          clear hK K
          simp only [Act.put, List.setIfInBounds_toArray, List.set_cons_zero, List.set_cons_succ]
          refine wpQuiet_step (fun K hK => ?_)
          rw [if_pos (by rfl)]
          refine ⟨.int .i64 (L : Int), fun X hX => ?_, hK _ ?_⟩
          · clear hK; obtain ⟨q, rfl⟩ := hX; go_simp
          clear hK K
          simp only [Act.put, List.setIfInBounds_toArray, List.set_cons_zero, List.set_cons_succ]
          refine wpQuiet_step (fun K hK => ?_)
          rw [if_pos (by rfl)]
          refine ⟨.slice (some ⟨b4, off4, none⟩) ps.length pcap, fun X hX => ?_, hK _ ?_⟩
          · clear hK; obtain ⟨q, rfl⟩ := hX; go_simp
          clear hK K
          simp only [Act.put, List.setIfInBounds_toArray, List.set_cons_zero, List.set_cons_succ]
          refine wpQuiet_step (fun K hK => ?_)
          rw [if_pos (by rfl)]
          refine ⟨.int .i64 (ps.length : Int), fun X hX => ?_, hK _ ?_⟩
          · clear hK; obtain ⟨q, rfl⟩ := hX; go_simp
          clear hK K
          simp only [Act.put, List.setIfInBounds_toArray, List.set_cons_zero, List.set_cons_succ]
          refine wpQuiet_step (fun K hK => ?_)
          rw [if_pos (by rfl)]
          refine ⟨.int .i64 (pi : Int), fun X hX => ?_, hK _ ?_⟩
          · clear hK; obtain ⟨q, rfl⟩ := hX; go_simp
          clear hK K
          simp only [Act.put, List.setIfInBounds_toArray, List.set_cons_zero, List.set_cons_succ]
          refine wpQuiet_step (fun K hK => ?_)
          rw [if_pos (by rfl)]
          refine ⟨.pointer (some ⟨b4, off4 + pi, none⟩), fun X hX => ?_, hK _ ?_⟩
          · clear hK; obtain ⟨q, rfl⟩ := hX; go_simp
          clear hK K
          simp only [Act.put, List.setIfInBounds_toArray, List.set_cons_zero, List.set_cons_succ]
          refine wpQuiet_step (fun K hK => ?_)
          rw [if_pos (by rfl)]
          refine ⟨.int .i64 x, fun X hX => ?_, hK _ ?_⟩
          · clear hK; obtain ⟨q, rfl⟩ := hX; go_simp
          clear hK K
          simp only [Act.put, List.setIfInBounds_toArray, List.set_cons_zero, List.set_cons_succ]
          refine wpQuiet_step (fun K hK => ?_)
          rw [if_pos (by rfl)]
          refine ⟨.pointer (some ⟨tb, 0, none⟩), fun X hX => ?_, hK _ ?_⟩
          · clear hK; obtain ⟨q, rfl⟩ := hX; go_simp
          clear hK K
          simp only [Act.put, List.setIfInBounds_toArray, List.set_cons_zero, List.set_cons_succ]
          refine wpQuiet_step (fun K hK => ?_)
          rw [if_pos (by rfl)]
          refine ⟨.slice (some ⟨b5, off5, none⟩) s.kinds.length kc2, fun X hX => ?_, hK _ ?_⟩
          · clear hK; obtain ⟨q, rfl⟩ := hX; go_simp
          clear hK K
          simp only [Act.put, List.setIfInBounds_toArray, List.set_cons_zero, List.set_cons_succ]
          refine wpQuiet_step (fun K hK => ?_)
          rw [if_pos (by rfl)]
          refine ⟨.int .i64 (s.kinds.length : Int), fun X hX => ?_, hK _ ?_⟩
          · clear hK; obtain ⟨q, rfl⟩ := hX; go_simp
          clear hK K
          simp only [Act.put, List.setIfInBounds_toArray, List.set_cons_zero, List.set_cons_succ]
          refine wpQuiet_step (fun K hK => ?_)
          rw [if_pos (by rfl)]
          refine ⟨.int .i64 y, fun X hX => ?_, hK _ ?_⟩
          · clear hK; obtain ⟨q, rfl⟩ := hX; go_simp
          clear hK K
          simp only [Act.put, List.setIfInBounds_toArray, List.set_cons_zero, List.set_cons_succ]
          refine wpQuiet_step (fun K hK => ?_)
          rw [if_pos (by rfl)]
          refine ⟨.int .i64 y, fun X hX => ?_, hK _ ?_⟩
          · clear hK; obtain ⟨q, rfl⟩ := hX; go_simp
          clear hK K
          simp only [Act.put, List.setIfInBounds_toArray, List.set_cons_zero, List.set_cons_succ]
          refine wpQuiet_nil ?_
          intro X hX
          obtain ⟨nq, rfl⟩ := hX
          clear hr1 cx
          go_wp2_with (at_builtin; refine wpList_append_own _ rfl (.tmp 112) (.tmp 118) 35 rfl W0.heap.size 3 i0 (.int .i64 0) 1 8 Try.underlying35 HI0.out.1 HI0.out.2.1 HI0.out.2.2.1 HI0.out.2.2.2 rfl (by decide) _ _ _ rfl (World.ownsRow.alloc (w := wr.drewN nq) HOWN2.out _) ⟨wr.heap.size, 0, none⟩ 1 1 [.int .i64 x2] rfl rfl (cell_one_new _ _ _) (ints_oneCell .i64 [x2]) (by unfold maxLen; omega) (by omega) (by have := HB2.out.size; simp; omega) ?_; intro v1 w1 hown1 hgrow1 _; have HG1 := Lib.hid hgrow1; have HO9 := Lib.hid hown1; clear hown1 hgrow1)
          exact cutI_next hi HP.out.1 HP.out.2 HX2.out HO9.out HG1.out HOWN2.out HB2.out HTB2.out ((below_drewN (Below.refl wr.heap.size wr) nq).alloc (Nat.le_refl _) _) (by go_num)
        · have hps2 : ¬ (0 : Int) < (ps.length : Int) := by omega
          obtain ⟨x2, hx2⟩ : ∃ x2, s.kinds[0]? = some x2 := ⟨s.kinds[0], List.getElem?_eq_getElem hK⟩
          obtain ⟨b5, off5, rfl, hbz5, hc5⟩ := (HI.out.below (HB0.out.trans (hbel2.mono HB0.out.size))) hK
          have c5 := hc5 0 x2 hx2
          rw [Nat.add_zero] at c5
          have HX2 := Lib.hid hx2
          have hK3 : (0 : Int) < (s.kinds.length : Int) := by omega
          clear hown2 hbel2 htb2 hP hL hx2 hc5
          go_wp2_with (at_builtin; refine wpList_append_own _ rfl (.tmp 112) (.tmp 118) 35 rfl W0.heap.size 3 i0 (.int .i64 0) 1 8 Try.underlying35 HI0.out.1 HI0.out.2.1 HI0.out.2.2.1 HI0.out.2.2.2 rfl (by decide) _ _ _ rfl (HOWN2.out.alloc _) ⟨wr.heap.size, 0, none⟩ 1 1 [.int .i64 x2] rfl rfl (cell_one_new _ _ _) (ints_oneCell .i64 [x2]) (by unfold maxLen; omega) (by omega) (by have := HB2.out.size; simp; omega) ?_; intro v1 w1 hown1 hgrow1 _; have HG1 := Lib.hid hgrow1; have HO9 := Lib.hid hown1; clear hown1 hgrow1)
          exact cutI_next hi HP.out.1 HP.out.2 HX2.out HO9.out HG1.out HOWN2.out HB2.out HTB2.out (box_below _ _) (by go_num)
end Go.Proofs.Ytecpdelbidglnaa
