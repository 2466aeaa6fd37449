/-
  The law's own grammar of a list, and what 'wakes' answers: true. No condition.
-/
import Derived.Test.YtmfpilacmafglaaGRLeast
import Derived.Test.YtmfpilacmafglaaGRSame
import Derived.Test.YtmfpilacmafglaaGRFits
namespace Go.Proofs.Ytmfpilacmafglaa
open Go.RowKit

def rowK (lo hi : Int) : List Kd := [⟨⟨#[108, 105, 115, 116]⟩, false, [⟨[1], 0, 2⟩, ⟨[2], lo, hi⟩]⟩, ⟨⟨#[97]⟩, true, []⟩, ⟨⟨#[98]⟩, false, []⟩]
def rowG (lo hi : Int) : Gr := ⟨rowK lo hi, 0⟩
theorem five_heap (w : World) (a b c d e : Obj) : let W := ((((w.alloc a).alloc b).alloc c).alloc d).alloc e
    W.heap[w.heap.size]? = some a ∧ W.heap[w.heap.size + 1]? = some b ∧ W.heap[w.heap.size + 1 + 1]? = some c ∧ W.heap[w.heap.size + 1 + 1 + 1]? = some d ∧ W.heap[w.heap.size + 1 + 1 + 1 + 1]? = some e ∧ Below w.heap.size w W := by
  have h3 := three_heap w a b c
  have h1 := two_heap (((w.alloc a).alloc b).alloc c) d e
  have hb := two_boxes_alloc (Below.refl _ (((w.alloc a).alloc b).alloc c)) d e
  simp only [World.size_alloc] at h1 hb
  refine ⟨?_, ?_, ?_, h1.1, h1.2, (three_below w a b c).trans (hb.mono (by omega))⟩
  · rw [hb.block _ (by omega)]; exact h3.1
  · rw [hb.block _ (by omega)]; exact h3.2.1
  · rw [hb.block _ (by omega)]; exact h3.2.2
theorem ints_in {W : World} {b : Nat} {l : List Int} {t : TypeId} (h : W.heap[b]? = some (.cells (l.map (Value.int .i64)).toArray t (0, 0))) : IntsAt W (some ⟨b, 0, none⟩) l := fun _ =>
  ⟨b, 0, rfl, lt_of_some' h, fun k x hx => by rw [Nat.zero_add]; exact cell0 h k (by simp [hx])⟩
def RowC (lo hi : Int) (w : World) (e : Ending) (w' : World) : Prop := ∃ ka kc, e = .returned (.agg #[.slice ka 3 kc, .int .i64 0]) ∧ KindsAt w' ka (rowK lo hi) ∧ Below w.heap.size w w'

set_option maxRecDepth 100000 in
set_option maxHeartbeats 1000000 in
theorem row_any (w : World) (lo hi : Int) : Calls Try.prog 64 #[.int .i64 lo, .int .i64 hi] w (RowC lo hi w) := by
  go_enter Try.func64, Try.ntmps64
  go_wp2_with fail
  have h5 := five_heap w (.cells #[.slice (some ⟨w.heap.size + 1 + 1 + 1 + 1, 0, none⟩) 3 3, .int .i64 0] 55) (.cells #[.int .i64 1] 3) (.cells #[.int .i64 2] 3)
    (.cells #[.slice (some ⟨w.heap.size + 1, 0, none⟩) 1 1, .int .i64 0, .int .i64 2, .slice (some ⟨w.heap.size + 1 + 1, 0, none⟩) 1 1, .int .i64 lo, .int .i64 hi] 87)
    (.cells #[.string { data := #[108, 105, 115, 116] }, .bool false, .slice (some ⟨w.heap.size + 1 + 1 + 1, 0, none⟩) 2 2, .string { data := #[97] }, .bool true, .slice none 0 0, .string { data := #[98] }, .bool false, .slice none 0 0] 85)
  dsimp only at h5
  generalize hWW : ((((w.alloc _).alloc _).alloc _).alloc _).alloc _ = W at h5 ⊢
  obtain ⟨h0, h1, h2, h3, h4, hb⟩ := h5
  have e0 := cell0 h0 0 rfl
  have e1 := cell0 h0 1 rfl
  have i1 : IntsAt W (some ⟨w.heap.size + 1, 0, none⟩) [1] := ints_in h1
  have i2 : IntsAt W (some ⟨w.heap.size + 1 + 1, 0, none⟩) [2] := ints_in h2
  have hs : SlotsAt W (some ⟨w.heap.size + 1 + 1 + 1, 0, none⟩) [⟨[1], 0, 2⟩, ⟨[2], lo, hi⟩] := fun _ => ⟨_, 0, rfl, lt_of_some' h3, fun k s hx => by
    match k, hx with
    | 0, hx => cases hx; exact ⟨_, 1, cell0 h3 0 rfl, cell0 h3 1 rfl, cell0 h3 2 rfl, i1⟩
    | 1, hx => cases hx; exact ⟨_, 1, cell0 h3 3 rfl, cell0 h3 4 rfl, cell0 h3 5 rfl, i2⟩
    | k + 2, hx => simp at hx⟩
  have hk : KindsAt W (some ⟨w.heap.size + 1 + 1 + 1 + 1, 0, none⟩) (rowK lo hi) := fun _ => ⟨_, 0, rfl, lt_of_some' h4, fun k s hx => by
    match k, hx with
    | 0, hx => cases hx; exact ⟨_, 2, cell0 h4 0 rfl, cell0 h4 1 rfl, cell0 h4 2 rfl, hs⟩
    | 1, hx => cases hx; exact ⟨none, 0, cell0 h4 3 rfl, cell0 h4 4 rfl, cell0 h4 5 rfl, fun h => absurd h (by decide)⟩
    | 2, hx => cases hx; exact ⟨none, 0, cell0 h4 6 rfl, cell0 h4 7 rfl, cell0 h4 8 rfl, fun h => absurd h (by decide)⟩
    | k + 3, hx => simp [rowK] at hx⟩
  exact bodyPost_ret (v := .agg #[.slice (some ⟨w.heap.size + 1 + 1 + 1 + 1, 0, none⟩) 3 3, .int .i64 0]) (by simp [results, Try.results64, go_sem, e0, e1]) rfl ⟨_, _, rfl, hk, hb⟩

theorem few_row (lo hi : Int) : (rowG lo hi).few := by
  refine ⟨(by show (3 : Nat) ≤ 1000000; decide), fun k hk => ?_⟩
  simp only [rowG, rowK, List.mem_cons, List.not_mem_nil, or_false] at hk
  rcases hk with rfl | rfl | rfl
  · refine ⟨(by show (4 : Nat) ≤ 1000000; decide), (by show (2 : Nat) ≤ 1000000; decide), fun s hs => ?_⟩
    simp only [List.mem_cons, List.not_mem_nil, or_false] at hs
    rcases hs with rfl | rfl <;> exact (by decide : (1 : Nat) ≤ 1000000)
  · exact ⟨by decide, by simp, fun s hs => by cases hs⟩
  · exact ⟨by decide, by simp, fun s hs => by cases hs⟩
theorem ok11 : grOk (rowG 1 1) = true := by kernel_rfl
theorem ok21 : grOk (rowG 2 1) = false := by kernel_rfl
theorem find11 : findV (rowG 1 1) [98] = (2, true) := by kernel_rfl
theorem fits112 : fitsV (kindOf (rowG 1 1) 0) [1, 1, 2] = true := by kernel_rfl
theorem fits121 : fitsV (kindOf (rowG 1 1) 0) [1, 2, 1] = false := by kernel_rfl
theorem least11 : leastV (kindOf (rowG 1 1) 0) = 1 := by kernel_rfl
theorem text1 : textV (kindOf (rowG 1 1) 1) ⟨#[120]⟩ = true := by kernel_rfl
theorem text2 : textV (kindOf (rowG 1 1) 2) ⟨#[120]⟩ = false := by kernel_rfl
end Go.Proofs.Ytmfpilacmafglaa
