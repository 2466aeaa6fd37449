/-
  What the document says of two rows, of what the program's Of and Is answer.
-/
import Derived.Deep.Cut
import Derived.Test.YtpbjncljecfaeaaNHypQa
namespace Go.Proofs.Ytpbjncljecfaeaa
open Go.RowKit Go.Shelf
set_option linter.unusedVariables false
set_option linter.unusedSimpArgs false

def WakesC (w : World) (e : Ending) (w' : World) : Prop := e = .returned (.bool true) ∧ Below w.heap.size w w'
theorem of_lit (hO : OfFn) (w : World) (l : List SV) (hl : ∀ x ∈ l, x.s.sub.kids = .nil ∧ Wf64 x.s) (hn : l.length ≤ 60) :
    Calls Try.prog 11 #[.slice (some ⟨w.heap.size, 0, none⟩) l.length l.length] (w.alloc (.cells (cells9 l).toArray 27)) (OfC (ofK l.length (steps l)) w) := by
  obtain ⟨h1, h2⟩ := lit_row (w := w.alloc (.cells (cells9 l).toArray 27)) (l := l) (heap_alloc_new _ _) (fun x hx => (hl x hx).1) hn
  refine (hO _ _ _ _ l h1 h2 fun x hx => (hl x hx).2).mono ?_
  rintro e w' ⟨a, n, c, vs, rfl, h3, h4, h5⟩
  have hb : Below w.heap.size w (w.alloc (.cells (cells9 l).toArray 27)) := (Below.refl _ _).alloc (Nat.le_refl _) _
  exact ⟨a, n, c, vs, rfl, h3, h4, hb.trans (h5.mono hb.size)⟩
theorem is_lit (hI : IsFn) (w : World) (l : List SV) (hl : ∀ x ∈ l, x.s.sub.kids = .nil ∧ Wf64 x.s) (hn : l.length ≤ 60) :
    Calls Try.prog 13 #[.slice (some ⟨w.heap.size, 0, none⟩) l.length l.length] (w.alloc (.cells (cells9 l).toArray 27)) (IsC (steps l) w) := by
  obtain ⟨h1, h2⟩ := lit_row (w := w.alloc (.cells (cells9 l).toArray 27)) (l := l) (heap_alloc_new _ _) (fun x hx => (hl x hx).1) hn
  refine (hI _ _ _ _ l h1 h2 fun x hx => (hl x hx).2).mono ?_
  rintro e w' ⟨rfl, h5⟩
  have hb : Below w.heap.size w (w.alloc (.cells (cells9 l).toArray 27)) := (Below.refl _ _).alloc (Nat.le_refl _) _
  exact ⟨rfl, hb.trans (h5.mono hb.size)⟩
set_option maxRecDepth 100000 in
set_option maxHeartbeats 8000000 in
theorem wakes12_any (hO : OfFn) (hI : IsFn) (w : World) : Calls Try.prog 7 #[] w (WakesC w) := by
  have HO := Lib.hid hO
  have HI := Lib.hid hI
  clear hO hI
  go_enter Try.func7, Try.ntmps7
  go_wp2_with fail
  refine (text12_any _ _ _).mono ?_
  rintro e w1 ⟨rfl, hb1⟩
  go_wp2_with fail
  refine (text12_any _ _ _).mono ?_
  rintro e w2 ⟨rfl, hb2⟩
  go_wp2_with fail
  refine (text12_any _ _ _).mono ?_
  rintro e w3 ⟨rfl, hb3⟩
  have HB3 := Lib.hid (hb1.trans ((hb2.trans (hb3.mono hb2.size)).mono hb1.size))
  clear hb1 hb2 hb3
  go_wp2_with fail
  refine (of_lit HO.out w3 [txV 2 ⟨#[97]⟩, txV 2 ⟨#[98]⟩, txV 3 ⟨#[99]⟩] (by intro x hx; simp only [List.mem_cons, List.not_mem_nil, or_false] at hx; rcases hx with rfl | rfl | rfl <;> exact ⟨rfl, ⟨rfl, trivial, trivial⟩, rfl⟩) (by decide)).mono ?_
  rintro e w4 ⟨ra, rn, rc, vs, rfl, hr, hs, hb4⟩
  replace hs := hs.trans wk_of1
  obtain ⟨x, y, rfl, hx, hy⟩ := two_of hs
  obtain rfl : rn = 2 := hr.len
  have HR := Lib.hid (And.intro hr (And.intro hx (And.intro hy (HB3.out.trans (hb4.mono HB3.out.size)))))
  clear hr hs hb4 hx hy HB3
  go_wp2_with fail
  refine (text12_any _ _ _).mono ?_
  rintro e w5 ⟨rfl, hb5⟩
  go_wp2_with fail
  refine (text12_any _ _ _).mono ?_
  rintro e w6 ⟨rfl, hb6⟩
  have HB6 := Lib.hid (hb5.trans (hb6.mono hb5.size))
  clear hb5 hb6
  go_wp2_with fail
  refine (of_lit HO.out w6 [insV, txV 5 ⟨#[97]⟩, txV 5 ⟨#[98]⟩, delV] (by intro x hx; simp only [List.mem_cons, List.not_mem_nil, or_false] at hx; rcases hx with rfl | rfl | rfl | rfl <;> exact ⟨rfl, ⟨rfl, trivial, trivial⟩, rfl⟩) (by decide)).mono ?_
  rintro e w7 ⟨qa, qn, qc, us, rfl, hr, hs, hb7⟩
  replace hs := hs.trans wk_of2
  have hus : us.length = 0 := by rw [← steps_len, hs]; rfl
  obtain rfl : qn = 0 := by rw [hr.len, hus]
  have HB7 := Lib.hid (HB6.out.trans (hb7.mono HB6.out.size))
  clear hr hs hus hb7 HB6
  have hrow := HR.out.1.on HB7.out
  obtain ⟨b, off, rfl, p0, p1, p2, p3, c4, p5⟩ := hrow.row.at (Below.refl _ _) (k := 0) (x := x) rfl
  obtain ⟨b', off', e, q0, q1, q2, q3, d4, q5⟩ := hrow.row.at (Below.refl _ _) (k := 1) (x := y) rfl
  cases e
  rw [HR.out.2.1] at c4
  rw [HR.out.2.2.1] at d4
  have hc4 : w7.cell? ⟨b, off + 4, none⟩ = some (.string ⟨#[98]⟩) := by simpa [textS] using c4
  have hd4 : w7.cell? ⟨b, off + 9 + 4, none⟩ = some (.string ⟨#[99]⟩) := by simpa [textS] using d4
  clear p0 p1 p2 p3 c4 p5 q0 q1 q2 q3 d4 q5 hrow
  go_wp2_with fail
  refine (HI.out w7 _ 2 rc [x, y] (HR.out.1.on HB7.out) ⟨by simp, fun z hz => ?_⟩ (fun z hz => ?_)).mono ?_
  · simp only [List.mem_cons, List.not_mem_nil, or_false] at hz
    rcases hz with rfl | rfl
    · rw [HR.out.2.1]; decide
    · rw [HR.out.2.2.1]; decide
  · simp only [List.mem_cons, List.not_mem_nil, or_false] at hz
    rcases hz with rfl | rfl
    · rw [HR.out.2.1]; exact ⟨⟨rfl, trivial, trivial⟩, rfl⟩
    · rw [HR.out.2.2.1]; exact ⟨⟨rfl, trivial, trivial⟩, rfl⟩
  rintro e w8 ⟨rfl, hb8⟩
  rw [show steps [x, y] = [textS 2 ⟨#[98]⟩, textS 3 ⟨#[99]⟩] by simp only [steps, List.map_cons, List.map_nil, HR.out.2.1, HR.out.2.2.1], wk_is1]
  have HB8 := Lib.hid (HR.out.2.2.2.trans ((HB7.out.trans (hb8.mono HB7.out.size)).mono HR.out.2.2.2.size))
  clear hb8 hc4 hd4
  go_wp2_with fail
  refine (text12_any _ _ _).mono ?_
  rintro e w9 ⟨rfl, hb9⟩
  go_wp2_with fail
  refine (text12_any _ _ _).mono ?_
  rintro e wa ⟨rfl, hba⟩
  have HBA := Lib.hid (HB8.out.trans ((hb9.trans (hba.mono hb9.size)).mono HB8.out.size))
  clear hb9 hba
  go_wp2_with fail
  refine (is_lit HI.out wa [txV 2 ⟨#[97]⟩, txV 2 ⟨#[98]⟩] (by intro x hx; simp only [List.mem_cons, List.not_mem_nil, or_false] at hx; rcases hx with rfl | rfl <;> exact ⟨rfl, ⟨rfl, trivial, trivial⟩, rfl⟩) (by decide)).mono ?_
  rintro e wb ⟨rfl, hbb⟩
  rw [wk_is2]
  have HBB := Lib.hid (HBA.out.trans (hbb.mono HBA.out.size))
  clear hbb
  go_wp2_with fail
  go_ret
  exact ⟨rfl, HBB.out⟩
end Go.Proofs.Ytpbjncljecfaeaa
