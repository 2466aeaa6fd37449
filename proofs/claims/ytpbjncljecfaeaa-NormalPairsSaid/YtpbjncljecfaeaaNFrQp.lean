/-
  NormalPairs, of what the program's Pair, Of and Is answer.
  NormalPairs and NormalAgain over arguments as they came in. No condition.
-/
import Derived.Deep.Cut
import Derived.Test.YtpbjncljecfaeaaNWakesQp
import Derived.Test.YtpbjncljecfaeaaNSameQp
import Derived.StillTailTactics
import Derived.Test.YtpbjncljecfaeaaKOpenQp
import Derived.Test.YtpbjncljecfaeaaNOfQp
namespace Go.Proofs.Ytpbjncljecfaeaa
open Go.RowKit Go.Shelf
set_option linter.unusedVariables false
set_option linter.unusedSimpArgs false

/-- Great of a row laid in one block. -/
theorem great_lit (w : World) (l : List SV) (hl : ∀ x ∈ l, LiesI w x.s.sub.kids x.a x.c) (hf : ∀ x ∈ l, foLen x.s.sub.kids ≤ 9223372036854775807 ∧ foFit x.s.sub.kids) (c : Nat) :
    Calls Try.prog 6 #[.slice (some ⟨w.heap.size, 0, none⟩) l.length c] (w.alloc (.cells (cells9 l).toArray 27)) (GreatN w l) := by
  have hb : Below w.heap.size w (w.alloc (.cells (cells9 l).toArray 27)) := (Below.refl _ _).alloc (Nat.le_refl _) _
  have he : (w.alloc (.cells (cells9 l).toArray 27)).heap[w.heap.size]? = some (.cells (cells9 l).toArray 27 (0, 0)) := heap_alloc_new _ _
  refine (great12_any _ _ _ c l rfl ⟨fun k x hx => ⟨w.heap.size, 0, rfl, lt_of_heap he, fun j u hj => ?_⟩, fun x hx => (hl x hx).on hb, hf⟩).mono ?_
  · rw [cell_of_row _ _ _ _ _ _ he, Nat.zero_add]; simpa using cells9_mk hx hj
  · rintro e w' ⟨b, rfl, h1, h2⟩
    exact ⟨b, rfl, h1, hb.trans (h2.mono hb.size)⟩
set_option maxRecDepth 100000 in
set_option maxHeartbeats 8000000 in
theorem normalPairs_any (hP : PairFn) (hO : OfFn) (hI : IsFn) (w : World) (x y : Sf) (xa ya : Option Addr) (xn xc yn yc : Nat) (hxn : xn = foLen x.sub.kids) (hyn : yn = foLen y.sub.kids) (hwx : Wf64 x) (hwy : Wf64 y) (hx : LiesI w x.sub.kids xa xc) (hy : LiesI w y.sub.kids ya yc) (fx : foLen x.sub.kids ≤ 9223372036854775807 ∧ foFit x.sub.kids) (fy : foLen y.sub.kids ≤ 9223372036854775807 ∧ foFit y.sub.kids) :
    Calls Try.prog 3 #[.agg #[.int .i8 x.op, .int .i64 x.id, .int .i64 x.par, .int .i64 x.at_, .string x.tx, .int .i64 x.sub.id, .int .i64 x.sub.kind, .string x.sub.text, .slice xa xn xc], .agg #[.int .i8 y.op, .int .i64 y.id, .int .i64 y.par, .int .i64 y.at_, .string y.tx, .int .i64 y.sub.id, .int .i64 y.sub.kind, .string y.sub.text, .slice ya yn yc]] w (YesR w) := by
  have HF := Lib.hid (And.intro (@hP) (And.intro hO hI))
  have HW := Lib.hid (And.intro hwx hwy)
  clear hwx hwy
  obtain ⟨B, hB⟩ : ∃ B, B = allocs w [.cells #[.int .i8 x.op, .int .i64 x.id, .int .i64 x.par, .int .i64 x.at_, .string x.tx, .int .i64 x.sub.id, .int .i64 x.sub.kind, .string x.sub.text, .slice xa xn xc] 27, .cells #[.int .i8 y.op, .int .i64 y.id, .int .i64 y.par, .int .i64 y.at_, .string y.tx, .int .i64 y.sub.id, .int .i64 y.sub.kind, .string y.sub.text, .slice ya yn yc] 27] := ⟨_, rfl⟩
  have hb : Below w.heap.size w B := by rw [hB]; exact allocs_below _ _
  have e0 : B.heap[w.heap.size]? = some (.cells #[.int .i8 x.op, .int .i64 x.id, .int .i64 x.par, .int .i64 x.at_, .string x.tx, .int .i64 x.sub.id, .int .i64 x.sub.kind, .string x.sub.text, .slice xa xn xc] 27 (0, 0)) := by rw [hB]; exact allocs_at _ _ 0 _ rfl
  have e1 : B.heap[w.heap.size + 1]? = some (.cells #[.int .i8 y.op, .int .i64 y.id, .int .i64 y.par, .int .i64 y.at_, .string y.tx, .int .i64 y.sub.id, .int .i64 y.sub.kind, .string y.sub.text, .slice ya yn yc] 27 (0, 0)) := by rw [hB]; exact allocs_at _ _ 1 _ rfl
  have HG : Hid (Calls Try.prog 6 #[.slice (some ⟨B.heap.size, 0, none⟩) 2 2] (B.alloc (.cells #[.int .i8 x.op, .int .i64 x.id, .int .i64 x.par, .int .i64 x.at_, .string x.tx, .int .i64 x.sub.id, .int .i64 x.sub.kind, .string x.sub.text, .slice xa xn xc, .int .i8 y.op, .int .i64 y.id, .int .i64 y.par, .int .i64 y.at_, .string y.tx, .int .i64 y.sub.id, .int .i64 y.sub.kind, .string y.sub.text, .slice ya yn yc] 27)) (GreatN B [⟨x, xa, xc⟩, ⟨y, ya, yc⟩])) := Lib.hid (by
    rw [hxn, hyn]
    exact great_lit B [⟨x, xa, xc⟩, ⟨y, ya, yc⟩] (by intro z hz; simp only [List.mem_cons, List.not_mem_nil, or_false] at hz; rcases hz with rfl | rfl; exact hx.on hb; exact hy.on hb) (by intro z hz; simp only [List.mem_cons, List.not_mem_nil, or_false] at hz; rcases hz with rfl | rfl; exact fx; exact fy) 2)
  have HB := Lib.hid (And.intro hb (And.intro e0 e1))
  have HX := Lib.hid (And.intro hx (And.intro hy (And.intro hxn hyn)))
  have HBE := Lib.hid hB
  obtain ⟨n0, n1, n2, n3, n4, n5, n6, n7, n8⟩ := box9 e0
  obtain ⟨m0, m1, m2, m3, m4, m5, m6, m7, m8⟩ := box9 e1
  clear hP hO hI hx hy hxn hyn fx fy hb e0 e1 hB
  go_enter Try.func3, Try.ntmps3
  go_upto_region 1 with fail
  change Code.wp _ _ _ _ (allocs w [.cells #[.int .i8 x.op, .int .i64 x.id, .int .i64 x.par, .int .i64 x.at_, .string x.tx, .int .i64 x.sub.id, .int .i64 x.sub.kind, .string x.sub.text, .slice xa xn xc] 27, .cells #[.int .i8 y.op, .int .i64 y.id, .int .i64 y.par, .int .i64 y.at_, .string y.tx, .int .i64 y.sub.id, .int .i64 y.sub.kind, .string y.sub.text, .slice ya yn yc] 27])
  rw [← HBE.out]
  clear HBE
  go_wp2_with fail
  refine HG.out.mono ?_
  rintro e w2 ⟨b, rfl, hsm, hb2⟩
  have HB2 := Lib.hid (And.intro hb2 (And.intro (HB.out.1.trans (hb2.mono HB.out.1.size)) hsm))
  clear hb2 hsm HG n0 n1 n2 n3 n4 n5 n6 n7 n8 m0 m1 m2 m3 m4 m5 m6 m7 m8
  cases b
  · have HS := Lib.hid (HB2.out.2.2 rfl)
    have s0 := HS.out.2 ⟨x, xa, xc⟩ (by simp)
    have s1 := HS.out.2 ⟨y, ya, yc⟩ (by simp)
    simp only at s0 s1
    have f0 := (HB2.out.1.block _ (lt_of_heap HB.out.2.1)).trans HB.out.2.1
    have f1 := (HB2.out.1.block _ (lt_of_heap HB.out.2.2)).trans HB.out.2.2
    obtain ⟨n0, n1, n2, n3, n4, n5, n6, n7, n8⟩ := box9 f0
    obtain ⟨m0, m1, m2, m3, m4, m5, m6, m7, m8⟩ := box9 f1
    obtain ⟨bb, hbb⟩ : ∃ bb, bb = (pairK x y).2 := ⟨_, rfl⟩
    have HBB := Lib.hid hbb
    have HS2 := Lib.hid (And.intro s0 s1)
    have HF2 := Lib.hid (And.intro f0 f1)
    clear s0 s1 f0 f1 hbb
    go_wp2_with fail
    refine (HF.out.1 (X0 := w) (X1 := w) x y xa ya xn xc yn yc HX.out.1 HX.out.2.1 HB2.out.2.1 HB2.out.2.1 HS2.out.1 HS2.out.2 HW.out.1 HW.out.2 HX.out.2.2.1 HX.out.2.2.2).mono ?_
    rintro e w3 ⟨pa, pn, pc, rfl, hb3, js, hjn, hjr, hjs⟩
    rw [← HBB.out]
    have HJ := Lib.hid (And.intro hjn (And.intro hjr hjs))
    have HB3 := Lib.hid (And.intro (HB2.out.2.1.trans (hb3.mono HB2.out.2.1.size)) hb3)
    have f0 := (hb3.block _ (lt_of_heap HF2.out.1)).trans HF2.out.1
    have f1 := (hb3.block _ (lt_of_heap HF2.out.2)).trans HF2.out.2
    clear n0 n1 n2 n3 n4 n5 n6 n7 n8 m0 m1 m2 m3 m4 m5 m6 m7 m8 hjn hjr hjs hb3
    obtain ⟨n0, n1, n2, n3, n4, n5, n6, n7, n8⟩ := box9 f0
    obtain ⟨m0, m1, m2, m3, m4, m5, m6, m7, m8⟩ := box9 f1
    clear f0 f1
    go_wp2_with fail
    refine (rpair_any (X0 := w) (X1 := w) x y xa ya xn xc yn yc HX.out.1 HX.out.2.1 HB3.out.1 HB3.out.1 (by have := HS2.out.1; omega) (by have := HS2.out.2; omega) HX.out.2.2.1 HX.out.2.2.2).mono ?_
    rintro e w4 ⟨qa, qn, qc, rfl, hb4, _, ks, hkn, hkr, hks⟩
    rw [← HBB.out]
    have HE := Lib.hid (eqr_any w4 pa qa pn qn pc qc js ks HJ.out.1 hkn (HJ.out.2.1.on hb4) (hkr.row fun q hq => hq.2))
    have HV := Lib.hid (show eqR (steps js) (steps ks) = true by rw [HJ.out.2.2, hks]; exact eqR_refl _)
    have HB4 := Lib.hid (HB3.out.1.trans (hb4.mono HB3.out.1.size))
    clear n0 n1 n2 n3 n4 n5 n6 n7 n8 m0 m1 m2 m3 m4 m5 m6 m7 m8 hkn hkr hks hb4
    have hbq : (bb == bb) = true := by cases bb <;> rfl
    go_wp2_with fail
    refine HE.out.mono ?_
    rintro e w5 ⟨rfl, hb5⟩
    rw [HV.out]
    have HB5 := Lib.hid (HB4.out.trans (hb5.mono HB4.out.size))
    clear hb5
    go_wp2_with fail
    refine (wakes12_any HF.out.2.1 HF.out.2.2 _).mono ?_
    rintro e w6 ⟨rfl, hb6⟩
    have HB6 := Lib.hid (HB5.out.trans (hb6.mono HB5.out.size))
    clear hb6
    go_wp2_with fail
    go_ret
    exact ⟨rfl, HB6.out⟩
  · go_wp2_with fail
    refine (wakes12_any HF.out.2.1 HF.out.2.2 _).mono ?_
    rintro e w6 ⟨rfl, hb6⟩
    have HB6 := Lib.hid (HB2.out.2.1.trans (hb6.mono HB2.out.2.1.size))
    clear hb6
    go_wp2_with fail
    go_ret
    exact ⟨rfl, HB6.out⟩
end Go.Proofs.Ytpbjncljecfaeaa
namespace Go.Proofs.Ytpbjncljecfaeaa
open Go.RowKit Go.Shelf
set_option linter.unusedVariables false

theorem okFo_ids : ∀ {f : Fo}, okFo f → idsOk f
  | .nil, _ => True.intro
  | .node _ _ k l r, h => ⟨h.1.2, okFo_ids h.2.1, okFo_ids h.2.2⟩
theorem fits_wf {s : Sf} (hf : Fits s.sub) (hw : (Lit.int .i64 s.id).wf = true) : Wf64 s := ⟨⟨hf.2.2.1.2, okFo_ids hf.2.2.2, True.intro⟩, hw⟩
theorem normalPairs_fr (w : World) (op id par at_ : Int) (tx : ByteArray) (u : Tr) (ka : Option Addr) (cap : Nat) (op' id' par' at' : Int) (tx' : ByteArray) (u' : Tr) (ka' : Option Addr) (cap' : Nat)
    (hc : foLen u.kids ≤ cap) (hf : FoAt w (Old w) u.kids ka) (hft : Fits u) (hw : (Lit.int .i8 op).wf = true ∧ (Lit.int .i64 id).wf = true ∧ (Lit.int .i64 par).wf = true ∧ (Lit.int .i64 at_).wf = true) (htx : (tx.size : Int) ≤ 9223372036854775807)
    (hc' : foLen u'.kids ≤ cap') (hf' : FoAt w (Old w) u'.kids ka') (hft' : Fits u') (hw' : (Lit.int .i8 op').wf = true ∧ (Lit.int .i64 id').wf = true ∧ (Lit.int .i64 par').wf = true ∧ (Lit.int .i64 at').wf = true) (htx' : (tx'.size : Int) ≤ 9223372036854775807) :
    Calls Try.prog 3 #[.agg #[.int .i8 op, .int .i64 id, .int .i64 par, .int .i64 at_, .string tx, .int .i64 u.id, .int .i64 u.kind, .string u.text, .slice ka (foLen u.kids) cap], .agg #[.int .i8 op', .int .i64 id', .int .i64 par', .int .i64 at', .string tx', .int .i64 u'.id, .int .i64 u'.kind, .string u'.text, .slice ka' (foLen u'.kids) cap']] w (YesR w) :=
  normalPairs_any pairFn ofFn isFn w ⟨op, id, par, at_, tx, u⟩ ⟨op', id', par', at', tx', u'⟩ ka ka' _ cap _ cap' rfl rfl (fits_wf hft hw.2.1) (fits_wf hft' hw'.2.1) ⟨hc, hf.kept fun q hq => ⟨hq, rfl⟩⟩ ⟨hc', hf'.kept fun q hq => ⟨hq, rfl⟩⟩ ⟨hft.1, hft.2.1⟩ ⟨hft'.1, hft'.2.1⟩
end Go.Proofs.Ytpbjncljecfaeaa
