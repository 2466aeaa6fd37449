/-
  What 'wakes' of layer 5 answers: true. No condition.
-/
import Derived.Test.YtmfpilacmafglaaGRow
namespace Go.Proofs.Ytmfpilacmafglaa
open Go.RowKit

/-- Behind world W0, in which a grammar lies in a box: what a later world shows of it. -/
def SeesW (W0 : World) (tb : Nat) (ka : Option Addr) (kc : Nat) (X : World) : Prop := Below W0.heap.size W0 X ∧ X.cell? ⟨tb, 0, none⟩ = some (.slice ka 3 kc) ∧ X.cell? ⟨tb, 1, none⟩ = some (.int .i64 0) ∧ KindsAt X ka (rowK 1 1) ∧ tb < X.heap.size
theorem SeesW.next {W0 : World} {tb : Nat} {ka : Option Addr} {kc : Nat} {X Y : World} (h : SeesW W0 tb ka kc X) (hb : Below X.heap.size X Y) : SeesW W0 tb ka kc Y := by
  obtain ⟨h1, h2, h3, h4, h5⟩ := h
  exact ⟨h1.trans (hb.mono h1.size), (hb.cell (p := ⟨tb, 0, none⟩) h5).trans h2, (hb.cell (p := ⟨tb, 1, none⟩) h5).trans h3, h4.below hb, Nat.lt_of_lt_of_le h5 hb.size⟩
theorem SeesW.start {w1 : World} {ka : Option Addr} {kc : Nat} (h : KindsAt w1 ka (rowK 1 1)) : SeesW (w1.alloc (.cells #[.slice ka 3 kc, .int .i64 0] 55)) w1.heap.size ka kc (w1.alloc (.cells #[.slice ka 3 kc, .int .i64 0] 55)) :=
  ⟨Below.refl _ _, cell0 (heap_alloc_new w1 _) 0 rfl, cell0 (heap_alloc_new w1 _) 1 rfl, h.below (box_below _ _), by simp⟩
theorem SeesW.ints {W0 : World} {tb : Nat} {ka : Option Addr} {kc : Nat} {X : World} (h : SeesW W0 tb ka kc X) (l : List Int) : SeesW W0 tb ka kc (X.alloc (.cells (l.map (Value.int .i64)).toArray 3)) ∧ IntsAt (X.alloc (.cells (l.map (Value.int .i64)).toArray 3)) (some ⟨X.heap.size, 0, none⟩) l :=
  ⟨h.next (box_below _ _), ints_in (heap_alloc_new X _)⟩
section
variable {W0 X : World} {tb : Nat} {ka : Option Addr} {kc : Nat}
def AtC (W0 : World) (tb : Nat) (ka : Option Addr) (kc : Nat) (v : Value) (e : Ending) (w' : World) : Prop := e = .returned v ∧ SeesW W0 tb ka kc w'
theorem wFind (h : SeesW W0 tb ka kc X) : Calls Try.prog 27 #[.agg #[.slice ka 3 kc, .int .i64 0], .string ⟨#[98]⟩] X (AtC W0 tb ka kc (.tuple #[.int .i64 2, .bool true])) := by
  refine (find_any X _ (rowG 1 1) ⟨#[98]⟩ (grV (l := rowK 1 1) h.2.2.2.1) (few_row 1 1) (by decide)).mono ?_
  rintro e w' ⟨rfl, hb⟩
  rw [find11]
  exact ⟨rfl, h.next hb⟩
theorem wCheck (h : SeesW W0 tb ka kc X) : Calls Try.prog 29 #[.agg #[.slice ka 3 kc, .int .i64 0]] X (AtC W0 tb ka kc (.int .i64 0)) := by
  refine (check_any X _ (rowG 1 1) (grV (l := rowK 1 1) h.2.2.2.1) (few_row 1 1)).mono ?_
  rintro e w' ⟨rfl, hb⟩
  rw [ok11]
  exact ⟨rfl, h.next hb⟩
theorem wFitsA (h : SeesW W0 tb ka kc X) : Calls Try.prog 37 #[.agg #[.slice ka 3 kc, .int .i64 0], .int .i64 0, .slice (some ⟨X.heap.size, 0, none⟩) 3 3] (X.alloc (.cells #[.int .i64 1, .int .i64 1, .int .i64 2] 3)) (AtC W0 tb ka kc (.bool true)) := by
  obtain ⟨h1, h2⟩ := h.ints [1, 1, 2]
  refine (fits_any _ _ (rowG 1 1) 0 _ 3 [1, 1, 2] (grV (l := rowK 1 1) h1.2.2.2.1) (few_row 1 1) h2 (by decide)).mono ?_
  rintro e w' ⟨rfl, hb⟩
  rw [fits112]
  exact ⟨rfl, h1.next hb⟩
theorem wFitsB (h : SeesW W0 tb ka kc X) : Calls Try.prog 37 #[.agg #[.slice ka 3 kc, .int .i64 0], .int .i64 0, .slice (some ⟨X.heap.size, 0, none⟩) 3 3] (X.alloc (.cells #[.int .i64 1, .int .i64 2, .int .i64 1] 3)) (AtC W0 tb ka kc (.bool false)) := by
  obtain ⟨h1, h2⟩ := h.ints [1, 2, 1]
  refine (fits_any _ _ (rowG 1 1) 0 _ 3 [1, 2, 1] (grV (l := rowK 1 1) h1.2.2.2.1) (few_row 1 1) h2 (by decide)).mono ?_
  rintro e w' ⟨rfl, hb⟩
  rw [fits121]
  exact ⟨rfl, h1.next hb⟩
theorem wLeast (h : SeesW W0 tb ka kc X) : Calls Try.prog 33 #[.agg #[.slice ka 3 kc, .int .i64 0], .int .i64 0] X (AtC W0 tb ka kc (.int .i64 1)) := by
  refine (least_any X _ (rowG 1 1) 0 (grV (l := rowK 1 1) h.2.2.2.1) (few_row 1 1)).mono ?_
  rintro e w' ⟨rfl, hb⟩
  rw [least11]
  exact ⟨rfl, h.next hb⟩
theorem wText1 (h : SeesW W0 tb ka kc X) : Calls Try.prog 31 #[.agg #[.slice ka 3 kc, .int .i64 0], .int .i64 1, .string ⟨#[120]⟩] X (AtC W0 tb ka kc (.bool true)) := by
  refine (text_any X _ (rowG 1 1) 1 ⟨#[120]⟩ (grV (l := rowK 1 1) h.2.2.2.1) (few_row 1 1) (by decide)).mono ?_
  rintro e w' ⟨rfl, hb⟩
  rw [text1]
  exact ⟨rfl, h.next hb⟩
theorem wText2 (h : SeesW W0 tb ka kc X) : Calls Try.prog 31 #[.agg #[.slice ka 3 kc, .int .i64 0], .int .i64 2, .string ⟨#[120]⟩] X (AtC W0 tb ka kc (.bool false)) := by
  refine (text_any X _ (rowG 1 1) 2 ⟨#[120]⟩ (grV (l := rowK 1 1) h.2.2.2.1) (few_row 1 1) (by decide)).mono ?_
  rintro e w' ⟨rfl, hb⟩
  rw [text2]
  exact ⟨rfl, h.next hb⟩
theorem wRow2 (h : SeesW W0 tb ka kc X) : Calls Try.prog 64 #[.int .i64 2, .int .i64 1] X fun e w' => ∃ ka2 kc2, e = .returned (.agg #[.slice ka2 3 kc2, .int .i64 0]) ∧ KindsAt w' ka2 (rowK 2 1) ∧ SeesW W0 tb ka kc w' := by
  refine (row_any X 2 1).mono ?_
  rintro e w' ⟨ka2, kc2, rfl, hk, hb⟩
  exact ⟨ka2, kc2, rfl, hk, h.next hb⟩
theorem wCheck2 (h : SeesW W0 tb ka kc X) {ka2 : Option Addr} {kc2 : Nat} (hk : KindsAt X ka2 (rowK 2 1)) : Calls Try.prog 29 #[.agg #[.slice ka2 3 kc2, .int .i64 0]] X (AtC W0 tb ka kc (.int .i64 50)) := by
  refine (check_any X _ (rowG 2 1) (grV (l := rowK 2 1) hk) (few_row 2 1)).mono ?_
  rintro e w' ⟨rfl, hb⟩
  rw [ok21]
  exact ⟨rfl, h.next hb⟩
end

set_option maxRecDepth 100000 in
set_option maxHeartbeats 1000000 in
theorem wakes_any (w : World) : Calls Try.prog 26 #[] w (Says true w) := by
  go_enter Try.func26, Try.ntmps26
  have T1 := Lib.hid True.intro
  go_wp2_with (first
    | (go_at_call 64; ((with_reducible refine (row_any w 1 1).mono ?_); rintro e w1 ⟨ka, kc, rfl, hk, hb⟩; clear T1; have HW1 := Lib.hid hb; have S0 := Lib.hid (SeesW.start (kc := kc) hk); clear hk hb; obtain ⟨tb, htb⟩ : ∃ tb, tb = w1.heap.size := ⟨_, rfl⟩; have HTB := Lib.hid htb; clear htb))
    | (go_at_call 27; ((with_reducible refine (wFind S0.out).mono ?_); rintro e w2 ⟨rfl, h2⟩; have HS0 := Lib.hid h2.1; clear S0; have S1 := Lib.hid h2; obtain ⟨_, c0, c1, _, cz⟩ := h2))
    | (go_at_call 29; ((with_reducible refine (wCheck S1.out).mono ?_); rintro e w3 ⟨rfl, h3⟩; clear S1; have S2 := Lib.hid h3; obtain ⟨_, c2, c3, _, cz2⟩ := h3))
    | (go_at_call 37; ((with_reducible refine (wFitsA S2.out).mono ?_); rintro e w4 ⟨rfl, h4⟩; clear S2; have S3 := Lib.hid h4; obtain ⟨_, c4, c5, _, cz3⟩ := h4))
    | (go_at_call 37; ((with_reducible refine (wFitsB S3.out).mono ?_); rintro e w5 ⟨rfl, h5⟩; clear S3; have S4 := Lib.hid h5; obtain ⟨_, c6, c7, _, cz4⟩ := h5))
    | (go_at_call 33; ((with_reducible refine (wLeast S4.out).mono ?_); rintro e w6 ⟨rfl, h6⟩; clear S4; have S5 := Lib.hid h6; obtain ⟨_, c8, c9, _, cz5⟩ := h6))
    | (go_at_call 31; ((with_reducible refine (wText1 S5.out).mono ?_); rintro e w7 ⟨rfl, h7⟩; clear S5; have S6 := Lib.hid h7; obtain ⟨_, d0, d1, _, cz6⟩ := h7))
    | (go_at_call 31; ((with_reducible refine (wText2 S6.out).mono ?_); rintro e w8 ⟨rfl, h8⟩; clear S6; have S7 := Lib.hid h8; clear h8))
    | (go_at_call 64; ((with_reducible refine (wRow2 S7.out).mono ?_); rintro e w9 ⟨ka2, kc2, rfl, hk2, h9⟩; clear S7; have S8 := Lib.hid (And.intro h9 hk2); clear hk2 h9))
    | (go_at_call 29; ((with_reducible refine (wCheck2 S8.out.1 S8.out.2).mono ?_); rintro e w10 ⟨rfl, h10⟩; clear S8; have S9 := Lib.hid h10; clear h10)))
  go_ret
  exact Says.mk rfl (((box_below _ _).trans (S9.out.1.mono (box_below _ _).size)) |> fun h => HW1.out.trans (h.mono HW1.out.size))
end Go.Proofs.Ytmfpilacmafglaa
