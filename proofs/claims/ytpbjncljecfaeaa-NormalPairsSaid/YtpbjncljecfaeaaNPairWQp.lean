/-
  The program's Pair: what two neighbours become. No condition but that they are not too great, and that ids are numbers of 64 bits.
-/
import Derived.Test.YtpbjncljecfaeaaNPutWQp
namespace Go.Proofs.Ytpbjncljecfaeaa
open Go.RowKit Go.Shelf
attribute [local go_sem] Oper.semAt_some
set_option linter.unusedVariables false
set_option linter.unusedSimpArgs false

/-- A step's ids are numbers of 64 bits. -/
def Wf64 (s : Sf) : Prop := idsOk (rootF s.sub) ∧ (Lit.int .i64 s.id).wf = true
theorem ok_new {x : SV} (hz : foSize x.s.sub.kids + 1 ≤ 100000) (hw : Wf64 x.s) : HeldOk (HV.new x) := ⟨hz, hw.1, fun t h => (by cases h), by show ([] : List SV).length ≤ 10000; decide⟩
theorem ok_text {ha hb : HV} {m : Option Nat} {ta : Option Addr} {tc : Nat} (h : HeldOk ha) (hw : (Lit.int .i64 hb.x.s.id).wf = true) (hin : (wiT hb.x.s.id ⟨#[]⟩ ha.x.s.sub).2 = true) (hf : ha.ts.length + 1 ≤ 10000) : HeldOk ((ha.withM m).withT hb.x ta tc) :=
  ⟨h.small, h.ids, fun t ht => by
    rcases List.mem_append.1 ht with h1 | h1
    · exact h.tsIn t h1
    · rw [List.mem_singleton] at h1
      subst h1
      exact ⟨by rw [wiT_tx _ _ ⟨#[]⟩]; exact hin, hw⟩, by show (ha.ts ++ [hb.x]).length ≤ 10000; rw [List.length_append]; exact hf⟩
theorem new_sf (x : SV) : (HV.new x).sf = x.s := rfl
/-- A row of one step that a call has made. -/
theorem row_oneW {w W : World} {s : Sf} {va : Option Addr} {vc : Nat} (hc : foLen s.sub.kids ≤ vc) (hf : FoAt W (Fresh w W) s.sub.kids va) (hz : foSize s.sub.kids + 1 ≤ 100000) : Row (W.alloc (.cells #[.int .i8 s.op, .int .i64 s.id, .int .i64 s.par, .int .i64 s.at_, .string s.tx, .int .i64 s.sub.id, .int .i64 s.sub.kind, .string s.sub.text, .slice va (foLen s.sub.kids) vc] 27)) (some ⟨W.heap.size, 0, none⟩) [⟨s, va, vc⟩] := by
  have hn := heap_alloc_new W (.cells #[.int .i8 s.op, .int .i64 s.id, .int .i64 s.par, .int .i64 s.at_, .string s.tx, .int .i64 s.sub.id, .int .i64 s.sub.kind, .string s.sub.text, .slice va (foLen s.sub.kids) vc] 27)
  refine ⟨fun k x hx => ?_, fun x hx => ?_, fun x hx => ?_, by simp⟩
  · match k, hx with
    | 0, hx =>
      simp at hx
      subst hx
      exact ⟨_, _, rfl, by simp, fun j u hj => by rw [cell_of_row _ _ _ _ _ _ hn]; simpa [stepC] using hj⟩
    | k + 1, hx => simp at hx
  · rw [List.mem_singleton] at hx
    subst hx
    exact ⟨hc, hf.kept fun q hq => ⟨by have := hq.2; simp; omega, Below.heap_alloc _ _ _ hq.2⟩⟩
  · rw [List.mem_singleton] at hx
    subst hx
    exact hz
theorem pairK_no {a b : Sf} (h : (pairK a b).2 = false) : pairK a b = ([], false) := by
  unfold pairK at h ⊢
  split at h
  · cases h
  · rename_i h1
    rw [if_neg h1]
    split at h
    · cases h
    · rename_i h2
      rw [if_neg h2]
      split at h
      · cases h
      · rename_i h3
        rw [if_neg h3]
def PairP (r : List Sf × Bool) (w : World) (e : Ending) (w' : World) : Prop := ∃ pa pn pc, e = .returned (.tuple #[.slice pa pn pc, .bool r.2]) ∧ Below w.heap.size w w' ∧ ∃ js : List SV, pn = js.length ∧ Row w' pa js ∧ steps js = r.1
theorem pairP_end {w W W' : World} {r : List Sf × Bool} {s : Sf} {e : Ending} (hb : Below w.heap.size w W) (hc : CopiedC s W e W') (hz : foSize s.sub.kids + 1 ≤ 100000) (hr : r = ([s], true)) : ∃ va vc, e = .returned (.agg #[.int .i8 s.op, .int .i64 s.id, .int .i64 s.par, .int .i64 s.at_, .string s.tx, .int .i64 s.sub.id, .int .i64 s.sub.kind, .string s.sub.text, .slice va (foLen s.sub.kids) vc]) ∧ PairP r w (.returned (.tuple #[.slice (some ⟨W'.heap.size, 0, none⟩) 1 1, .bool true])) (W'.alloc (.cells #[.int .i8 s.op, .int .i64 s.id, .int .i64 s.par, .int .i64 s.at_, .string s.tx, .int .i64 s.sub.id, .int .i64 s.sub.kind, .string s.sub.text, .slice va (foLen s.sub.kids) vc] 27)) := by
  obtain ⟨va, vc, rfl, h1, h2, h3⟩ := hc
  have hb2 := hb.trans (h3.mono hb.size)
  exact ⟨va, vc, rfl, some ⟨W'.heap.size, 0, none⟩, 1, 1, by rw [hr], hb2.alloc hb2.size _, [⟨s, va, vc⟩], rfl, row_oneW h1 h2 hz, by rw [hr]; rfl⟩
set_option maxRecDepth 100000 in
set_option maxHeartbeats 8000000 in
theorem pairP_any {X0 X1 w : World} (x y : Sf) (aa ba : Option Addr) (n ac m bc : Nat) (hx : LiesI X0 x.sub.kids aa ac) (hy : LiesI X1 y.sub.kids ba bc) (b0 : Below X0.heap.size X0 w) (b1 : Below X1.heap.size X1 w) (hzx : foSize x.sub.kids + 1 ≤ 100000) (hzy : foSize y.sub.kids + 1 ≤ 100000) (hwx : Wf64 x) (hwy : Wf64 y) (hn : n = foLen x.sub.kids) (hm : m = foLen y.sub.kids) :
    Calls Try.prog 8 #[.agg #[.int .i8 x.op, .int .i64 x.id, .int .i64 x.par, .int .i64 x.at_, .string x.tx, .int .i64 x.sub.id, .int .i64 x.sub.kind, .string x.sub.text, .slice aa n ac], .agg #[.int .i8 y.op, .int .i64 y.id, .int .i64 y.par, .int .i64 y.at_, .string y.tx, .int .i64 y.sub.id, .int .i64 y.sub.kind, .string y.sub.text, .slice ba m bc]] w (PairP (pairK x y) w) := by
  obtain ⟨V, hV⟩ : ∃ V, V = allocs w [.cells #[.int .i8 x.op, .int .i64 x.id, .int .i64 x.par, .int .i64 x.at_, .string x.tx, .int .i64 x.sub.id, .int .i64 x.sub.kind, .string x.sub.text, .slice aa n ac] 27, .cells #[.int .i8 y.op, .int .i64 y.id, .int .i64 y.par, .int .i64 y.at_, .string y.tx, .int .i64 y.sub.id, .int .i64 y.sub.kind, .string y.sub.text, .slice ba m bc] 27, .cells #[.int .i8 x.op, .int .i64 x.id, .int .i64 x.par, .int .i64 x.at_, .string x.tx, .int .i64 x.sub.id, .int .i64 x.sub.kind, .string x.sub.text, .slice aa n ac, .map none, .slice none 0 0] 48, .cells #[.int .i8 y.op, .int .i64 y.id, .int .i64 y.par, .int .i64 y.at_, .string y.tx, .int .i64 y.sub.id, .int .i64 y.sub.kind, .string y.sub.text, .slice ba m bc, .map none, .slice none 0 0] 48] := ⟨_, rfl⟩
  have hbV : Below w.heap.size w V := by rw [hV]; exact allocs_below _ _
  have hA : V.heap[w.heap.size + 1 + 1]? = some (.cells #[.int .i8 x.op, .int .i64 x.id, .int .i64 x.par, .int .i64 x.at_, .string x.tx, .int .i64 x.sub.id, .int .i64 x.sub.kind, .string x.sub.text, .slice aa n ac, .map none, .slice none 0 0] 48 (0, 0)) := by rw [hV]; exact allocs_at _ _ 2 _ rfl
  have hBc : V.heap[w.heap.size + 1 + 1 + 1]? = some (.cells #[.int .i8 y.op, .int .i64 y.id, .int .i64 y.par, .int .i64 y.at_, .string y.tx, .int .i64 y.sub.id, .int .i64 y.sub.kind, .string y.sub.text, .slice ba m bc, .map none, .slice none 0 0] 48 (0, 0)) := by rw [hV]; exact allocs_at _ _ 3 _ rfl
  have H : PutH w V (w.heap.size + 1 + 1) (w.heap.size + 1 + 1 + 1) (HV.new ⟨x, aa, ac⟩) (HV.new ⟨y, ba, bc⟩) := by
    refine ⟨held_new (hx.on b0) (by omega) hbV.size (by rw [← hn]; exact hA), held_new (hy.on b1) (by omega) hbV.size (by rw [← hm]; exact hBc), hbV, ok_new hzx hwx, hwy.2, fun q hq hq2 => ?_⟩
    rcases hq with hq | hq | hq
    · rcases hq2 with hq2 | hq2 | hq2
      · omega
      · cases hq2
      · cases hq2
    · cases hq
    · cases hq
  have hput := put_any H
  have HP := Lib.hid hput
  have HVE := Lib.hid hV
  have HH := Lib.hid (And.intro H (And.intro hzx (And.intro hzy (And.intro hwx hwy))))
  simp only [hptr] at HP
  clear hput hV H hA hBc hzx hzy hwx hwy b0 b1 hx hy hn hm hbV
  go_enter Try.func8, Try.ntmps8
  go_upto_region 1 with fail
  go_wp2_with fail
  change Calls _ _ _ (allocs w [.cells #[.int .i8 x.op, .int .i64 x.id, .int .i64 x.par, .int .i64 x.at_, .string x.tx, .int .i64 x.sub.id, .int .i64 x.sub.kind, .string x.sub.text, .slice aa n ac] 27, .cells #[.int .i8 y.op, .int .i64 y.id, .int .i64 y.par, .int .i64 y.at_, .string y.tx, .int .i64 y.sub.id, .int .i64 y.sub.kind, .string y.sub.text, .slice ba m bc] 27, .cells #[.int .i8 x.op, .int .i64 x.id, .int .i64 x.par, .int .i64 x.at_, .string x.tx, .int .i64 x.sub.id, .int .i64 x.sub.kind, .string x.sub.text, .slice aa n ac, .map none, .slice none 0 0] 48, .cells #[.int .i8 y.op, .int .i64 y.id, .int .i64 y.par, .int .i64 y.at_, .string y.tx, .int .i64 y.sub.id, .int .i64 y.sub.kind, .string y.sub.text, .slice ba m bc, .map none, .slice none 0 0] 48]) _
  rw [← HVE.out]
  refine HP.out.mono ?_
  rintro e W ⟨ha', ht, hcase⟩
  have H := HH.out.1
  have hWw : Below w.heap.size w W := ⟨ht.turned.os.trans H.hB.os, ht.turned.tape.trans H.hB.tape, ht.turned.output.trans H.hB.output, Nat.le_trans H.hB.size ht.turned.size, fun q hq => (ht.turned.block q (Nat.lt_of_lt_of_le hq H.hB.size) (fun e => by have := (H.h1.lt q e).1; omega)).trans (H.hB.block q hq)⟩
  rcases hcase with ⟨mm, rfl, rfl, hp⟩ | ⟨mm, rfl, rfl, hp⟩ | ⟨mm, rfl, rfl, hp⟩ | ⟨mm, ta, tc, rfl, rfl, hp, hin⟩
  · have HE : Hid (PairP (pairK x y) w (.returned (.tuple #[.slice none 0 0, .bool false])) W) := Lib.hid ⟨none, 0, 0, by rw [show pairK x y = ([], false) from pairK_no hp], hWw, [], rfl, Row.nil _ _, by rw [show pairK x y = ([], false) from pairK_no hp]; rfl⟩
    clear hp ht hWw H HH HP HVE
    go_wp2_with fail
    go_ret2
    exact HE.out
  · have HE : Hid (PairP (pairK x y) w (.returned (.tuple #[.slice none 0 0, .bool true])) W) := Lib.hid ⟨none, 0, 0, by rw [show pairK x y = ([], true) from hp], hWw, [], rfl, Row.nil _ _, by rw [show pairK x y = ([], true) from hp]; rfl⟩
    clear hp ht hWw H HH HP HVE
    go_wp2_with fail
    go_ret2
    exact HE.out
  · have htold := told_any (ht.other H.h2 H.hap) hWw (ok_new HH.out.2.2.1 HH.out.2.2.2.2)
    have hEnd := fun e W' (hc : CopiedC (HV.new ⟨y, ba, bc⟩).sf W e W') => pairP_end (w := w) hWw hc HH.out.2.2.1 hp
    have HE := Lib.hid (And.intro htold hEnd)
    simp only [hptr] at HE ⊢
    clear htold hEnd hp ht hWw H HH HP HVE
    go_wp2_with fail
    refine HE.out.1.mono ?_
    rintro e W' hc
    obtain ⟨va, vc, rfl, hP⟩ := HE.out.2 e W' hc
    have HPP := Lib.hid hP
    obtain ⟨yn, hyn⟩ : ∃ yn, yn = foLen y.sub.kids := ⟨_, rfl⟩
    simp only [HV.sf, HV.new, subT, List.foldl_nil] at HPP ⊢
    rw [← hyn] at HPP ⊢
    clear hP hc HE hyn
    go_wp2_with fail
    go_ret2
    exact HPP.out
  · have hok := ok_text (ta := ta) (tc := tc) (m := mm) H.hok H.hwf hin (by show ([] : List SV).length + 1 ≤ 10000; decide)
    have htold := told_any ht.held hWw hok
    have hEnd := fun e W' (hc : CopiedC (((HV.new ⟨x, aa, ac⟩).withM mm).withT (HV.new ⟨y, ba, bc⟩).x ta tc).sf W e W') => pairP_end (w := w) hWw hc (by show foSize (subT _ _).kids + 1 ≤ 100000; rw [subT_size]; exact HH.out.2.1) hp
    have HE := Lib.hid (And.intro htold hEnd)
    simp only [hptr] at HE ⊢
    generalize (((HV.new ⟨x, aa, ac⟩).withM mm).withT (HV.new ⟨y, ba, bc⟩).x ta tc).sf = sf at HE hp
    clear htold hEnd hok hp ht hWw H HH HP HVE hin
    go_wp2_with fail
    refine HE.out.1.mono ?_
    rintro e W' hc
    obtain ⟨va, vc, rfl, hP⟩ := HE.out.2 e W' hc
    have HPP := Lib.hid hP
    obtain ⟨yn, hyn⟩ : ∃ yn, yn = foLen sf.sub.kids := ⟨_, rfl⟩
    rw [← hyn] at HPP ⊢
    clear hP hc HE hyn
    go_wp2_with fail
    go_ret2
    exact HPP.out
end Go.Proofs.Ytpbjncljecfaeaa
