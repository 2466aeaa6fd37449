/-
  The document's Least. No condition but that the grammar lies where it is said to lie.
-/
import Derived.Test.YtmfpilacmafglaaGRTell
namespace Go.Proofs.Ytmfpilacmafglaa
open Go.RowKit

def RLeastR (w : World) (c : Array Value) (l : List Sl) (n i : Value) (wr : World) : Prop :=
  ∃ (k : Nat) (m : Int), k ≤ l.length ∧ i = .int .i64 k ∧ n = .int .i64 m ∧ 0 ≤ m ∧ m ≤ 1000 * k ∧ wr.heap[w.heap.size]? = some (.cells c 55 (0, 0)) ∧ Below w.heap.size w wr ∧ sumLeast l = m + sumLeast (l.drop k)

set_option maxRecDepth 100000 in
set_option maxHeartbeats 1000000 in
theorem rleast_any (w : World) (v : Value) (g : Gr) (n : Int) (hv : GrV w v g) (hf : g.few) : Calls Try.prog 34 #[v, .int .i64 n] w (Counts (leastV (kindOf g n)) w) := by
  obtain ⟨ka, kc, rfl, hk⟩ := hv
  obtain ⟨l, root⟩ := g
  simp only at hk
  have hfl : l.length ≤ 1000000 := hf.1
  have HF := Lib.hid hf
  have HK := Lib.hid hk
  obtain ⟨bb, hbb⟩ : ∃ bb, grOk ⟨l, root⟩ = bb := ⟨_, rfl⟩
  have HBB := Lib.hid hbb
  clear hf hk hbb
  cases bb
  · go_enter Try.func34, Try.ntmps34
    go_wp2_with (go_at_call 30; ((with_reducible refine (rcheck_any _ _ _ (grV (HK.out.below (box_below _ _))) HF.out).mono ?_); rintro e w2 ⟨rfl, h2⟩; rw [errN_no HBB.out]; have H2 := Lib.hid ((box_below w _).trans (h2.mono (box_below w _).size)); clear h2))
    go_ret
    exact Counts.mk (by rw [kindOf_bad HBB.out]; rfl) H2.out
  by_cases h1 : n < 0
  · go_enter Try.func34, Try.ntmps34
    go_wp2_with (go_at_call 30; ((with_reducible refine (rcheck_any _ _ _ (grV (HK.out.below (box_below _ _))) HF.out).mono ?_); rintro e w2 ⟨rfl, h2⟩; rw [errN_yes HBB.out]; have H2 := Lib.hid ((box_below w _).trans (h2.mono (box_below w _).size)); clear h2))
    go_ret
    exact Counts.mk (by rw [kindOf_neg h1]; rfl) H2.out
  by_cases h2 : (l.length : Int) ≤ n
  · go_enter Try.func34, Try.ntmps34
    go_wp2_with (go_at_call 30; ((with_reducible refine (rcheck_any _ _ _ (grV (HK.out.below (box_below _ _))) HF.out).mono ?_); rintro e w2 ⟨rfl, h2⟩; rw [errN_yes HBB.out]; have H2 := Lib.hid ((box_below w _).trans (h2.mono (box_below w _).size)); have p0 := boxed_cell h2 0 _ rfl; clear h2))
    go_ret
    exact Counts.mk (by rw [kindOf_over h2]; rfl) H2.out
  obtain ⟨j, rfl⟩ : ∃ j : Nat, n = (j : Int) := ⟨n.toNat, by omega⟩
  obtain ⟨k, hx⟩ : ∃ x, l[j]? = some x := ⟨l[j]'(by omega), List.getElem?_eq_getElem _⟩
  have ho := kindOf_in (g := ⟨l, root⟩) HBB.out hx
  have HO := Lib.hid ho
  obtain ⟨h8, h9⟩ := ok_least ho
  have HL := Lib.hid h9
  obtain ⟨b, off, rfl, hblt, hc⟩ := HK.out (by omega)
  obtain ⟨sa, sc, _, _, c2, hs⟩ := hc j k hx
  have HC := Lib.hid (And.intro c2 hblt)
  have HS := Lib.hid hs
  have hj2 : (j : Int) < (l.length : Int) := by omega
  clear hx hc c2 h1 h2 ho h9 hs hblt
  go_enter Try.func34, Try.ntmps34
  go_wp2_with (go_at_call 30; ((with_reducible refine (rcheck_any _ _ _ (grV (HK.out.below (box_below _ _))) HF.out).mono ?_); rintro e w2 ⟨rfl, h2⟩; rw [errN_yes HBB.out]; have H2 := Lib.hid h2; have HB2 := Lib.hid ((box_below w _).trans (h2.mono (box_below w _).size)); have p0 := boxed_cell h2 0 _ rfl; clear h2))
  clear p0
  go_loopw [5, 6] (fun n i wr => RLeastR w #[.slice (some ⟨b, off, none⟩) l.length kc, .int .i64 root] k.slots n i wr) (fun _ i _ => k.slots.length - (intOf i).toNat)
  case atStart => exact ⟨0, 0, Nat.zero_le _, rfl, rfl, by omega, by omega, (H2.out.block _ (by simp)).trans (heap_alloc_new w _), HB2.out, by simp⟩
  case round =>
    obtain ⟨m, t, hm, rfl, rfl, ht0, ht1, hb, hbel, hsum⟩ := hrel
    have HB := Lib.hid (And.intro hb hbel)
    have HA := Lib.hid hsum
    have p0 : wr.cell? ⟨w.heap.size, 0, none⟩ = some (.slice (some ⟨b, off, none⟩) l.length kc) := by rw [cell_of_row wr _ 0 _ _ _ hb]; rfl
    have c2 := (hbel.cell HC.out.2).trans HC.out.1
    by_cases hlt : m < k.slots.length
    · obtain ⟨x, hx⟩ : ∃ x, k.slots[m]? = some x := ⟨k.slots[m], List.getElem?_eq_getElem hlt⟩
      obtain ⟨hx0, hx1⟩ := HL.out x (List.mem_of_getElem? hx)
      obtain ⟨b2, off2, rfl, hblt2, hc2⟩ := (HS.out.below hbel) (by omega)
      obtain ⟨ka2, kc2, d0, d1, d2, hi⟩ := hc2 m x hx
      have HX := Lib.hid (sum_step HA.out hx)
      have hm2 : (m : Int) < (k.slots.length : Int) := by omega
      clear hx hc2 hi hbel hsum hb
      go_wp2_with fail
      exact ⟨⟨m + 1, t + x.least, by omega, by go_num, rfl, by omega, by omega, HB.out.1, HB.out.2, HX.out⟩, by simp [intOf]; omega⟩
    · have HE := Lib.hid (sum_end HA.out (by omega))
      have hm2 : ¬ (m : Int) < (k.slots.length : Int) := by omega
      clear hbel hsum hb
      go_wp2_with fail
      go_ret
      exact Counts.mk (by rw [HO.out]; exact HE.out) HB.out.2
end Go.Proofs.Ytmfpilacmafglaa
