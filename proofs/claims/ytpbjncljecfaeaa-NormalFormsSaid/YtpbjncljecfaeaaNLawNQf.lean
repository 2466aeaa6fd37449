/-
  What the document says of two rows, of what the program's Of and Is answer.
  NormalForms. No condition but that ids are numbers of 64 bits.
-/
import Derived.Deep.Cut
import Derived.Test.YtpbjncljecfaeaaNWfQf
import Derived.Test.YtpbjncljecfaeaaNLawRQf
import Derived.Test.YtpbjncljecfaeaaNSameQf
import Derived.Test.YtpbjncljecfaeaaNOfQf
import Derived.Test.YtpbjncljecfaeaaNIsQf
namespace Go.Proofs.Ytpbjncljecfaeaa
open Go.RowKit Go.Shelf
set_option linter.unusedVariables false
set_option linter.unusedSimpArgs false

def WakesC (w : World) (e : Ending) (w' : World) : Prop := e = .returned (.bool true) ∧ Below w.heap.size w w'
theorem of_lit (hO : OfFn) (w : World) (l : List SV) (hl : ∀ x ∈ l, x.s.sub.kids = .nil ∧ Wf64 x.s) (hn : l.length ≤ 60) :
    Calls Try.prog 11 #[.slice (some ⟨w.heap.size, 0, none⟩) l.length l.length] (w.alloc (.cells (cells9 l).toArray 27)) (OfC (ofK l.length (steps l)) w) := by
  obtain ⟨h1, h2⟩ := lit_row (w := w.alloc (.cells (cells9 l).toArray 27)) (l := l) (heap_alloc_new _ _) (fun x hx => (hl x hx).1) hn
  refine (hO _ _ _ _ l h1 h2 fun x hx => (hl x hx).2).mono ?_
  rintro e w' ⟨a, n, c, vs, rfl, h3, h4, h5⟩
  have hb : Below w.heap.size w (w.alloc (.cells (cells9 l).toArray 27)) := (Below.refl _ _).alloc (Nat.le_refl _) _
  exact ⟨a, n, c, vs, rfl, h3, h4, hb.trans (h5.mono hb.size)⟩
theorem is_lit (hI : IsFn) (w : World) (l : List SV) (hl : ∀ x ∈ l, x.s.sub.kids = .nil ∧ Wf64 x.s) (hn : l.length ≤ 60) :
    Calls Try.prog 13 #[.slice (some ⟨w.heap.size, 0, none⟩) l.length l.length] (w.alloc (.cells (cells9 l).toArray 27)) (IsC (steps l) w) := by
  obtain ⟨h1, h2⟩ := lit_row (w := w.alloc (.cells (cells9 l).toArray 27)) (l := l) (heap_alloc_new _ _) (fun x hx => (hl x hx).1) hn
  refine (hI _ _ _ _ l h1 h2 fun x hx => (hl x hx).2).mono ?_
  rintro e w' ⟨rfl, h5⟩
  have hb : Below w.heap.size w (w.alloc (.cells (cells9 l).toArray 27)) := (Below.refl _ _).alloc (Nat.le_refl _) _
  exact ⟨rfl, hb.trans (h5.mono hb.size)⟩
set_option maxRecDepth 100000 in
set_option maxHeartbeats 8000000 in
theorem wakes12_any (hO : OfFn) (hI : IsFn) (w : World) : Calls Try.prog 7 #[] w (WakesC w) := by
  have HO := Lib.hid hO
  have HI := Lib.hid hI
  clear hO hI
  go_enter Try.func7, Try.ntmps7
  go_wp2_with fail
  refine (text12_any _ _ _).mono ?_
  rintro e w1 ⟨rfl, hb1⟩
  go_wp2_with fail
  refine (text12_any _ _ _).mono ?_
  rintro e w2 ⟨rfl, hb2⟩
  go_wp2_with fail
  refine (text12_any _ _ _).mono ?_
  rintro e w3 ⟨rfl, hb3⟩
  have HB3 := Lib.hid (hb1.trans ((hb2.trans (hb3.mono hb2.size)).mono hb1.size))
  clear hb1 hb2 hb3
  go_wp2_with fail
  refine (of_lit HO.out w3 [txV 2 ⟨#[97]⟩, txV 2 ⟨#[98]⟩, txV 3 ⟨#[99]⟩] (by intro x hx; simp only [List.mem_cons, List.not_mem_nil, or_false] at hx; rcases hx with rfl | rfl | rfl <;> exact ⟨rfl, ⟨rfl, trivial, trivial⟩, rfl⟩) (by decide)).mono ?_
  rintro e w4 ⟨ra, rn, rc, vs, rfl, hr, hs, hb4⟩
  replace hs := hs.trans wk_of1
  obtain ⟨x, y, rfl, hx, hy⟩ := two_of hs
  obtain rfl : rn = 2 := hr.len
  have HR := Lib.hid (And.intro hr (And.intro hx (And.intro hy (HB3.out.trans (hb4.mono HB3.out.size)))))
  clear hr hs hb4 hx hy HB3
  go_wp2_with fail
  refine (text12_any _ _ _).mono ?_
  rintro e w5 ⟨rfl, hb5⟩
  go_wp2_with fail
  refine (text12_any _ _ _).mono ?_
  rintro e w6 ⟨rfl, hb6⟩
  have HB6 := Lib.hid (hb5.trans (hb6.mono hb5.size))
  clear hb5 hb6
  go_wp2_with fail
  refine (of_lit HO.out w6 [insV, txV 5 ⟨#[97]⟩, txV 5 ⟨#[98]⟩, delV] (by intro x hx; simp only [List.mem_cons, List.not_mem_nil, or_false] at hx; rcases hx with rfl | rfl | rfl | rfl <;> exact ⟨rfl, ⟨rfl, trivial, trivial⟩, rfl⟩) (by decide)).mono ?_
  rintro e w7 ⟨qa, qn, qc, us, rfl, hr, hs, hb7⟩
  replace hs := hs.trans wk_of2
  have hus : us.length = 0 := by rw [← steps_len, hs]; rfl
  obtain rfl : qn = 0 := by rw [hr.len, hus]
  have HB7 := Lib.hid (HB6.out.trans (hb7.mono HB6.out.size))
  clear hr hs hus hb7 HB6
  have hrow := HR.out.1.on HB7.out
  obtain ⟨b, off, rfl, p0, p1, p2, p3, c4, p5⟩ := hrow.row.at (Below.refl _ _) (k := 0) (x := x) rfl
  obtain ⟨b', off', e, q0, q1, q2, q3, d4, q5⟩ := hrow.row.at (Below.refl _ _) (k := 1) (x := y) rfl
  cases e
  rw [HR.out.2.1] at c4
  rw [HR.out.2.2.1] at d4
  have hc4 : w7.cell? ⟨b, off + 4, none⟩ = some (.string ⟨#[98]⟩) := by simpa [textS] using c4
  have hd4 : w7.cell? ⟨b, off + 9 + 4, none⟩ = some (.string ⟨#[99]⟩) := by simpa [textS] using d4
  clear p0 p1 p2 p3 c4 p5 q0 q1 q2 q3 d4 q5 hrow
  go_wp2_with fail
  refine (HI.out w7 _ 2 rc [x, y] (HR.out.1.on HB7.out) ⟨by simp, fun z hz => ?_⟩ (fun z hz => ?_)).mono ?_
  · simp only [List.mem_cons, List.not_mem_nil, or_false] at hz
    rcases hz with rfl | rfl
    · rw [HR.out.2.1]; decide
    · rw [HR.out.2.2.1]; decide
  · simp only [List.mem_cons, List.not_mem_nil, or_false] at hz
    rcases hz with rfl | rfl
    · rw [HR.out.2.1]; exact ⟨⟨rfl, trivial, trivial⟩, rfl⟩
    · rw [HR.out.2.2.1]; exact ⟨⟨rfl, trivial, trivial⟩, rfl⟩
  rintro e w8 ⟨rfl, hb8⟩
  rw [show steps [x, y] = [textS 2 ⟨#[98]⟩, textS 3 ⟨#[99]⟩] by simp only [steps, List.map_cons, List.map_nil, HR.out.2.1, HR.out.2.2.1], wk_is1]
  have HB8 := Lib.hid (HR.out.2.2.2.trans ((HB7.out.trans (hb8.mono HB7.out.size)).mono HR.out.2.2.2.size))
  clear hb8 hc4 hd4
  go_wp2_with fail
  refine (text12_any _ _ _).mono ?_
  rintro e w9 ⟨rfl, hb9⟩
  go_wp2_with fail
  refine (text12_any _ _ _).mono ?_
  rintro e wa ⟨rfl, hba⟩
  have HBA := Lib.hid (HB8.out.trans ((hb9.trans (hba.mono hb9.size)).mono HB8.out.size))
  clear hb9 hba
  go_wp2_with fail
  refine (is_lit HI.out wa [txV 2 ⟨#[97]⟩, txV 2 ⟨#[98]⟩] (by intro x hx; simp only [List.mem_cons, List.not_mem_nil, or_false] at hx; rcases hx with rfl | rfl <;> exact ⟨rfl, ⟨rfl, trivial, trivial⟩, rfl⟩) (by decide)).mono ?_
  rintro e wb ⟨rfl, hbb⟩
  rw [wk_is2]
  have HBB := Lib.hid (HBA.out.trans (hbb.mono HBA.out.size))
  clear hbb
  go_wp2_with fail
  go_ret
  exact ⟨rfl, HBB.out⟩
end Go.Proofs.Ytpbjncljecfaeaa
namespace Go.Proofs.Ytpbjncljecfaeaa
open Go.RowKit Go.Shelf
set_option linter.unusedVariables false
set_option linter.unusedSimpArgs false

set_option maxRecDepth 100000 in
set_option maxHeartbeats 16000000 in
theorem normalForms_any (w : World) (la : Option Addr) (m cm : Nat) (vs : List SV) (lv : Int) (hm : m = vs.length) (h : RowG w la vs) (hwf : ∀ x ∈ vs, Wf64 x.s) (hnil : la = none → cm = 0) (hcm : m ≤ cm) :
    Calls Try.prog 4 #[.slice la m cm, .int .i64 lv] w (YesR w) := by
  have HW := Lib.hid hwf
  have HG := Lib.hid (And.intro h (And.intro hm (And.intro hnil hcm)))
  have HGR := Lib.hid (great12_any w la m cm vs hm h)
  clear h hm hnil hcm hwf
  go_enter Try.func4, Try.ntmps4
  go_wp2_with fail
  refine HGR.out.mono ?_
  rintro e w2 ⟨bg, rfl, hsm, hb2⟩
  have HB2 := Lib.hid (And.intro hb2 hsm)
  clear hb2 hsm HGR
  cases bg
  · have HS := Lib.hid (HB2.out.2 rfl)
    have HR := Lib.hid (show RowS w2 la m cm vs from ⟨(HG.out.1.row HS.out).on HB2.out.1, HG.out.2.1, HG.out.2.2.2, HG.out.2.2.1⟩)
    have hm60 : m ≤ 60 := by rw [HG.out.2.1]; exact HS.out.1
    go_wp2_with fail
    refine (ofFn w2 la m cm vs HR.out HS.out HW.out).mono ?_
    rintro e w3 ⟨fa, n, c, fs, rfl, hfr, hfs, hb3⟩
    have HR3 := Lib.hid (And.intro hfr (And.intro hfs hb3))
    clear hfr hfs hb3
    go_wp2_with fail
    refine (of_any w3 la m cm vs (HR.out.on HR3.out.2.2) (by omega)).mono ?_
    rintro e w4 ⟨ga, gn, gc, gs, rfl, hgr, hgs, hb4⟩
    have HE := Lib.hid (And.intro (eqr_any w4 fa ga n gn c gc fs gs HR3.out.1.len hgr.len (HR3.out.1.row.on hb4) hgr.row) (And.intro (show eqR (steps fs) (steps gs) = true by rw [HR3.out.2.1, hgs]; exact eqR_refl _) (HR3.out.2.2.trans (hb4.mono HR3.out.2.2.size))))
    clear hgr hgs hb4
    go_wp2_with fail
    refine HE.out.1.mono ?_
    rintro e w5 ⟨rfl, hb5⟩
    rw [HE.out.2.1]
    have HB5 := Lib.hid (HE.out.2.2.trans (hb5.mono HE.out.2.2.size))
    clear hb5
    go_wp2_with fail
    refine (isFn w5 la m cm vs (HR.out.on HB5.out) HS.out HW.out).mono ?_
    rintro e w6 ⟨rfl, hb6⟩
    have HB6 := Lib.hid (HB5.out.trans (hb6.mono HB5.out.size))
    obtain ⟨bo, hbo⟩ : ∃ bo, bo = (!(onceK (steps vs)).2) := ⟨_, rfl⟩
    rw [← hbo]
    have HBO := Lib.hid hbo
    clear hb6 hbo
    go_wp2_with fail
    refine (is_any w6 la m cm vs (HR.out.on HB6.out) (by omega)).mono ?_
    rintro e w7 ⟨rfl, hb7⟩
    rw [← HBO.out]
    have HB7 := Lib.hid (HB6.out.trans (hb7.mono HB6.out.size))
    have hqq : (bo == bo) = true := by cases bo <;> rfl
    clear hb7
    go_wp2_with fail
    refine (stepsR_any w7 la m cm vs (HR.out.on HB7.out) (by omega)).mono ?_
    rintro e w8 ⟨v, k, rs, rfl, ho, hg, hs, hb8⟩
    have hb28 := HB7.out.trans (hb8.mono HB7.out.size)
    have hne : rs ≠ [] := fun e => wayK_pos m (steps vs) (by rw [← hs, e]; rfl)
    have hpos : 0 < rs.length := List.length_pos_iff.2 hne
    have hkl : k = rs.length := by have := ho.1; simpa using this.symm
    obtain ⟨oa, oc, rfl⟩ := owns_slice ho
    obtain ⟨g, rfl⟩ : ∃ g, oa = some ⟨g, 0, none⟩ := by
      rcases ho.2 with ⟨_, h0⟩ | ⟨g, _, _, e, _⟩
      · omega
      · cases e; exact ⟨g, rfl⟩
    have hrow := lrows_any w8 la m cm vs (HR.out.on hb28) HS.out HW.out g k oc rs (fun j r hj => ⟨owns_cell ho rfl _ _ (by rw [List.getElem?_map, hj]; rfl), (hg r (List.mem_of_getElem? hj)).rowS fun q hq => hq.1⟩) (owns_bounds ho rfl).2 hkl hs lv
    have HROW := Lib.hid (And.intro hrow hb28)
    clear hrow hb28 ho hg hs hb8 hne hpos hkl
    go_wp2_with fail
    refine HROW.out.1.mono ?_
    rintro e w9 ⟨rfl, hb9⟩
    have HB9 := Lib.hid (HROW.out.2.trans (hb9.mono HROW.out.2.size))
    clear hb9
    go_wp2_with fail
    refine (wakes12_any ofFn isFn _).mono ?_
    rintro e wa ⟨rfl, hba⟩
    have HBA := Lib.hid (HB2.out.1.trans ((HB9.out.trans (hba.mono HB9.out.size)).mono HB2.out.1.size))
    clear hba
    go_wp2_with fail
    go_ret
    exact ⟨rfl, HBA.out⟩
  · go_wp2_with fail
    refine (wakes12_any ofFn isFn _).mono ?_
    rintro e w6 ⟨rfl, hb6⟩
    have HB6 := Lib.hid (HB2.out.1.trans (hb6.mono HB2.out.1.size))
    clear hb6
    go_wp2_with fail
    go_ret
    exact ⟨rfl, HB6.out⟩
theorem normalForms_fr (w : World) (vs : List SV) (la : Option Addr) (cm : Nat) (lv : Int) (h : RowG w la vs ∧ (∀ x ∈ vs, InG x.s) ∧ (la = none → cm = 0) ∧ vs.length ≤ cm) :
    Calls Try.prog 4 #[.slice la vs.length cm, .int .i64 lv] w (YesR w) :=
  normalForms_any w la _ cm vs lv rfl h.1 (fun x hx => fits_wf (h.2.1 x hx).1 (h.2.1 x hx).2.1.2.1) h.2.2.1 h.2.2.2
end Go.Proofs.Ytpbjncljecfaeaa
