/-
  Are two rows of numbers the same? No condition but that they are not too long.
-/
import Derived.Test.YtjppibomjnmjpaaRIds
import Derived.Deep.RegionHeld3
import Derived.StillTailTactics
namespace Go.Proofs.Ytjppibomjnmjpaa
open Go.RowKit
set_option linter.unusedVariables false
set_option linter.unusedSimpArgs false

theorem intRow_cell {w : World} {B : Nat} {a : Option Addr} {c : Nat} {l : List Int} (h : w.ownsRow B 3 1 (.slice a l.length c) l.length (l.map intV)) {k : Nat} {x : Int} (hx : l[k]? = some x) : ∃ g, a = some ⟨g, 0, none⟩ ∧ w.cell? ⟨g, k, none⟩ = some (.int .i64 x) := by
  have hgg : ∃ g, a = some ⟨g, 0, none⟩ := by
    rcases h.2 with ⟨_, h0⟩ | ⟨g, cap2, cur, hv, _⟩
    · have := (List.getElem?_eq_some_iff.1 hx).1; omega
    · cases hv; exact ⟨g, rfl⟩
  obtain ⟨g, rfl⟩ := hgg
  exact ⟨g, rfl, owns_cell h rfl k _ (by rw [List.getElem?_map, hx]; rfl)⟩
theorem take_same {l1 l2 : List Int} {k : Nat} {x : Int} (h : l1.take k = l2.take k) (h1 : l1[k]? = some x) (h2 : l2[k]? = some x) : l1.take (k + 1) = l2.take (k + 1) := by
  rw [List.take_add_one, List.take_add_one, h, h1, h2]
set_option maxRecDepth 100000 in
set_option maxHeartbeats 1000000 in
theorem ints_any (w : World) (B1 B2 : Nat) (v1 v2 : Value) (l1 l2 : List Int) (h1 : w.ownsRow B1 3 1 v1 l1.length (l1.map intV)) (h2 : w.ownsRow B2 3 1 v2 l2.length (l2.map intV)) (hl1 : l1.length ≤ 1000000) (hl2 : l2.length ≤ 1000000) :
    Calls Try.prog 13 #[v1, v2] w fun e w' => e = .returned (.bool (decide (l1 = l2))) ∧ Below w.heap.size w w' := by
  obtain ⟨a1, c1, rfl⟩ := owns_slice h1
  obtain ⟨a2, c2, rfl⟩ := owns_slice h2
  obtain ⟨n1, hn1⟩ : ∃ n, n = l1.length := ⟨_, rfl⟩
  obtain ⟨n2, hn2⟩ : ∃ n, n = l2.length := ⟨_, rfl⟩
  have H := Lib.hid (And.intro h1 (And.intro h2 (And.intro hn1 hn2)))
  rw [← hn1, ← hn2]
  rw [← hn1] at hl1
  rw [← hn2] at hl2
  clear h1 h2 hn1 hn2
  by_cases hne : n1 = n2
  · subst hne
    have hnn : ((n1 : Int) == (n1 : Int)) = true := by simp
    go_enter Try.func13, Try.ntmps13
    go_wp2_with fail
    go_loopw [5] (fun i wr => ∃ k : Nat, k ≤ n1 ∧ i = .int .i64 (k : Int) ∧ Hid (l1.take k = l2.take k) ∧ Hid (Below w.heap.size w wr)) (fun i _ => n1 - (intOf i).toNat)
    case atStart => exact ⟨0, Nat.zero_le _, rfl, Lib.hid rfl, Lib.hid (Below.refl _ _)⟩
    case round =>
      obtain ⟨k, hk, rfl, hs, hb⟩ := hrel
      by_cases hlt : k < n1
      · obtain ⟨x, hx⟩ : ∃ x, l1[k]? = some x := ⟨_, List.getElem?_eq_getElem (by rw [← H.out.2.2.1]; exact hlt)⟩
        obtain ⟨y, hy⟩ : ∃ y, l2[k]? = some y := ⟨_, List.getElem?_eq_getElem (by rw [← H.out.2.2.2]; exact hlt)⟩
        have q1 := H.out.1
        have q2 := H.out.2.1
        obtain ⟨g1, rfl, c1⟩ := intRow_cell q1 hx
        obtain ⟨g2, rfl, c2⟩ := intRow_cell q2 hy
        obtain ⟨W, hW⟩ : ∃ W, W = wr.drew := ⟨_, rfl⟩
        have d1 : W.cell? ⟨g1, k, none⟩ = some (.int .i64 x) := by rw [hW]; exact (hb.out.cell (World.block_lt_of_cell? _ _ c1)).trans c1
        have d2 : W.cell? ⟨g2, k, none⟩ = some (.int .i64 y) := by rw [hW]; exact (hb.out.cell (World.block_lt_of_cell? _ _ c2)).trans c2
        have HBW := Lib.hid (show Below w.heap.size w W by rw [hW]; exact ⟨hb.out.os, hb.out.tape, hb.out.output, hb.out.size, hb.out.block⟩)
        have HW := Lib.hid hW
        have HXY := Lib.hid (And.intro hx hy)
        have HLT := Lib.hid hlt
        have hkl : (k : Int) < (n1 : Int) := by omega
        clear c1 c2 hx hy hW q1 q2 hk hlt
        by_cases hxy : x = y
        · have hbq : (x == y) = true := by simpa using hxy
          go_wp2_with fail
          have hdr : ({ heap := wr.heap, tape := wr.tape, drawn := wr.drawn + 1, os := wr.os, output := wr.output } : World) = W := HW.out.symm
          refine wp_region_still_tail 8 (by kernel_rfl) (by kernel_rfl) ?_
          simp only [List.take_succ_cons, List.take_zero, List.drop_succ_cons, List.drop_zero]
          rw [hdr]
          clear hdr
          repeat still_step
          try refine wpStill_nil ?_
          go_wp2_with fail
          exact ⟨⟨k + 1, by have := HLT.out; omega, by go_num, Lib.hid (take_same hs.out HXY.out.1 (by rw [hxy]; exact HXY.out.2)), Lib.hid HBW.out⟩, by have := HLT.out; simp [intOf]; omega⟩
        · have hbq : (x == y) = false := by simpa using hxy
          have HD := Lib.hid (show decide (l1 = l2) = false from by
            simp only [decide_eq_false_iff_not]
            intro e
            have h1 := HXY.out.1
            rw [e, HXY.out.2] at h1
            exact hxy (Option.some.inj h1).symm)
          go_wp2_with fail
          have hdr : ({ heap := wr.heap, tape := wr.tape, drawn := wr.drawn + 1, os := wr.os, output := wr.output } : World) = W := HW.out.symm
          refine wp_region_still_tail 8 (by kernel_rfl) (by kernel_rfl) ?_
          simp only [List.take_succ_cons, List.take_zero, List.drop_succ_cons, List.drop_zero]
          rw [hdr]
          clear hdr
          repeat still_step
          try refine wpStill_nil ?_
          go_wp2_with fail
          go_ret
          exact ⟨by rw [HD.out]; rfl, HBW.out⟩
      · have hkq : k = n1 := by omega
        have HKQ := Lib.hid hkq
        have hkl : ¬ (k : Int) < (n1 : Int) := by omega
        have HD := Lib.hid (show decide (l1 = l2) = true from by
          have h3 := hs.out
          rw [List.take_of_length_le (by rw [← H.out.2.2.1]; omega), List.take_of_length_le (by rw [← H.out.2.2.2]; omega)] at h3
          simpa using h3)
        clear hkq hk
        go_wp2_with fail
        go_ret
        exact ⟨by rw [HD.out]; rfl, hb.out⟩
  · have hnn : ¬ (n1 : Int) = (n2 : Int) := by omega
    have HD := Lib.hid (show decide (l1 = l2) = false from by
      have h3 := H.out.2.2
      simp only [decide_eq_false_iff_not]
      intro e; rw [e] at h3; omega)
    go_enter Try.func13, Try.ntmps13
    clear hne
    go_wp2_with fail
    go_ret
    exact ⟨by rw [HD.out]; rfl, Below.refl _ _⟩
end Go.Proofs.Ytjppibomjnmjpaa
