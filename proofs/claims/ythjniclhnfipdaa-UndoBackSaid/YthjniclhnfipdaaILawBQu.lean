/-
  What UndoBack answers: true. No condition but that its arguments lie in memory as they came in.
-/
import Derived.Deep.Cut
import Derived.Test.YthjniclhnfipdaaILaterQu
namespace Go.Proofs.Ythjniclhnfipdaa
open Go.RowKit Go.Shelf
set_option linter.unusedVariables false
set_option linter.unusedSimpArgs false

def YesI (w : World) (e : Ending) (w' : World) : Prop := e = .returned (.bool true) ∧ Below w.heap.size w w'
/-- What one must know of a step and a tree on which it goes. -/
structure GoesI (s : Sf) (t y : Tr) : Prop where
  on : s.on t = (y, 0)
  ok : SfOk (s.inv t)
  tw : ∀ i ∈ idT t, (Lit.int .i64 i).wf = true
  yw : ∀ i ∈ idT y, (Lit.int .i64 i).wf = true
  ysz : foSize y.kids + 1 ≤ foSize t.kids + foSize s.sub.kids + 2
  yd : DistT y ∧ RngT y
  back : ∃ z, (s.inv t).on y = (z, 0) ∧ sameT z t = true
  again : ((s.inv t).inv y).on t = (y, 0)
theorem goes {s : Sf} {t y : Tr} (hd : DistT t) (hr : RngT t) (hsz : foSize t.kids + 1 ≤ 2000) (h : s.on t = (y, 0)) : GoesI s t y := by
  obtain ⟨k1, k2, k3⟩ := step_keeps hd hr h
  obtain ⟨b1, b2⟩ := sf_back hd hr h
  obtain ⟨o1, o2⟩ := sf_ok hr hsz h
  exact ⟨h, o1, o2, rng_wf k2, by omega, ⟨k1, k2⟩, b1, b2⟩
set_option maxRecDepth 100000 in
set_option maxHeartbeats 16000000 in
theorem undoBack_any (w : World) (ka sa : Option Addr) (tc sc : Nat) (t x : Tr) (op id par at_ : Int) (tx : ByteArray) (hlen : foLen t.kids ≤ 9223372036854775807) (hfit : foFit t.kids) (hlx : foLen x.kids ≤ 9223372036854775807) (hfx : foFit x.kids) (hop : (Lit.int .i8 op).wf = true) (hxk : ∀ i ∈ idT x, (Lit.int .i64 i).wf = true) (hlt : LiesI w t.kids ka tc) (hls : LiesI w x.kids sa sc) :
    Calls Try.prog 13 #[.agg #[.int .i64 t.id, .int .i64 t.kind, .string t.text, .slice ka (foLen t.kids) tc], .agg #[.int .i8 op, .int .i64 id, .int .i64 par, .int .i64 at_, .string tx, .int .i64 x.id, .int .i64 x.kind, .string x.text, .slice sa (foLen x.kids) sc]] w (YesI w) := by
  obtain ⟨nk, hnk⟩ : ∃ nk, nk = foLen t.kids := ⟨_, rfl⟩
  obtain ⟨sn, hsn⟩ : ∃ sn, sn = foLen x.kids := ⟨_, rfl⟩
  obtain ⟨s, hs⟩ : ∃ s : Sf, s = ⟨op, id, par, at_, tx, x⟩ := ⟨_, rfl⟩
  rw [← hnk, ← hsn]
  obtain ⟨B, hB⟩ : ∃ B, B = allocs w [.cells #[.int .i64 t.id, .int .i64 t.kind, .string t.text, .slice ka nk tc] 24, .cells #[.int .i8 op, .int .i64 id, .int .i64 par, .int .i64 at_, .string tx, .int .i64 x.id, .int .i64 x.kind, .string x.text, .slice sa sn sc] 47] := ⟨_, rfl⟩
  have Bw := Lib.hid (show Below w.heap.size w B by rw [hB]; exact allocs_below _ _)
  have Et := Lib.hid (show B.heap[w.heap.size]? = some (.cells #[.int .i64 t.id, .int .i64 t.kind, .string t.text, .slice ka nk tc] 24 (0, 0)) by rw [hB]; exact allocs_at _ _ 0 _ rfl)
  have Es := Lib.hid (show B.heap[w.heap.size + 1]? = some (.cells #[.int .i8 op, .int .i64 id, .int .i64 par, .int .i64 at_, .string tx, .int .i64 x.id, .int .i64 x.kind, .string x.text, .slice sa sn sc] 47 (0, 0)) by rw [hB]; exact allocs_at _ _ 1 _ rfl)
  have HP := Lib.hid (And.intro hlen (And.intro hfit (And.intro hlx hfx)))
  have HOP := Lib.hid (And.intro hop hxk)
  have Lw := Lib.hid (And.intro hlt hls)
  have HS := Lib.hid hs
  have Nt := Lib.hid hnk
  have Ns := Lib.hid hsn
  have HBE := Lib.hid hB
  clear hlen hfit hlx hfx hop hxk hlt hls hs hnk hsn hB
  go_enter Try.func13, Try.ntmps13
  go_upto_region 1 with fail
  change Code.wp _ _ _ _ (allocs w [.cells #[.int .i64 t.id, .int .i64 t.kind, .string t.text, .slice ka nk tc] 24, .cells #[.int .i8 op, .int .i64 id, .int .i64 par, .int .i64 at_, .string tx, .int .i64 x.id, .int .i64 x.kind, .string x.text, .slice sa sn sc] 47])
  rw [← HBE.out]
  clear HBE
  obtain ⟨qt0, qt1, qt2, qt3⟩ := box4 Et.out
  obtain ⟨qs0, qs1, qs2, qs3, qs4, qs5, qs6, qs7, qs8⟩ := box9 Es.out
  go_wp2_with fail
  have hap := apartL HP.out.1 HP.out.2.1 Lw.out.1 Bw.out
  rw [← Nt.out] at hap
  refine hap.mono ?_
  rintro e W1 ⟨ba, rfl, hba, hb⟩
  replace Et := Lib.hid ((hb.block _ (lt_of_heap Et.out)).trans Et.out)
  replace Es := Lib.hid ((hb.block _ (lt_of_heap Es.out)).trans Es.out)
  replace Bw := Lib.hid (Bw.out.trans (hb.mono Bw.out.size))
  have HBA := Lib.hid hba
  clear hba hb hap
  clear qt0 qt1 qt2 qt3 qs0 qs1 qs2 qs3 qs4 qs5 qs6 qs7 qs8
  cases ba
  · obtain ⟨qt0, qt1, qt2, qt3⟩ := box4 Et.out
    obtain ⟨qs0, qs1, qs2, qs3, qs4, qs5, qs6, qs7, qs8⟩ := box9 Es.out
    go_wp2_with fail
    refine (wakes10_any W1).mono ?_
    rintro e WZ ⟨rfl, hbz⟩
    have HZ := Lib.hid (Bw.out.trans (hbz.mono Bw.out.size))
    clear hbz
    go_wp2_with fail
    go_ret
    exact ⟨rfl, HZ.out⟩
  · obtain ⟨hd, hr, hz⟩ := HBA.out rfl
    have HA := Lib.hid (And.intro hd (And.intro hr hz))
    clear hd hr hz HBA
    obtain ⟨qt0, qt1, qt2, qt3⟩ := box4 Et.out
    obtain ⟨qs0, qs1, qs2, qs3, qs4, qs5, qs6, qs7, qs8⟩ := box9 Es.out
    have hwk := lenL 201 (by omega) HP.out.2.2.1 HP.out.2.2.2 Lw.out.2 Bw.out
    rw [← Ns.out] at hwk
    have HWK := Lib.hid hwk
    clear hwk
    go_wp2_with fail
    refine HWK.out.mono ?_
    rintro e W2 ⟨la, ln, lc, rfl, hln, hln2, hb⟩
    replace Et := Lib.hid ((hb.block _ (lt_of_heap Et.out)).trans Et.out)
    replace Es := Lib.hid ((hb.block _ (lt_of_heap Es.out)).trans Es.out)
    replace Bw := Lib.hid (Bw.out.trans (hb.mono Bw.out.size))
    have HLN := Lib.hid hln
    clear hln hb HWK
    clear qt0 qt1 qt2 qt3 qs0 qs1 qs2 qs3 qs4 qs5 qs6 qs7 qs8
    by_cases h200 : 200 < ln
    · obtain ⟨qt0, qt1, qt2, qt3⟩ := box4 Et.out
      obtain ⟨qs0, qs1, qs2, qs3, qs4, qs5, qs6, qs7, qs8⟩ := box9 Es.out
      go_wp2_with fail
      refine (wakes10_any W2).mono ?_
      rintro e WZ ⟨rfl, hbz⟩
      have HZ := Lib.hid (Bw.out.trans (hbz.mono Bw.out.size))
      clear hbz
      go_wp2_with fail
      go_ret
      exact ⟨rfl, HZ.out⟩
    · have HSZ := Lib.hid (show foSize x.kids + 1 ≤ 200 by have := HLN.out (by omega); omega)
      have HOK : Hid (SfOk s) := Lib.hid (by rw [HS.out]; exact ⟨HOP.out.1, HOP.out.2, by have := HSZ.out; simp only; omega⟩)
      have HTW := Lib.hid (rng_wf HA.out.2.1)
      have hsp1 : s.op = op ∧ s.id = id ∧ s.par = par ∧ s.at_ = at_ ∧ s.tx = tx ∧ s.sub = x := by rw [HS.out]; exact ⟨rfl, rfl, rfl, rfl, rfl, rfl⟩
      have HSP := Lib.hid hsp1
      clear hsp1
      go_upto_region 3 with fail
      clear h200
      obtain ⟨r, hr⟩ : ∃ r, r = s.on t := ⟨_, rfl⟩
      by_cases h0 : r.2 = 0
      · obtain ⟨y, hy⟩ : ∃ y, y = r.1 := ⟨_, rfl⟩
        have hon : s.on t = (y, 0) := by rw [← hr, hy]; exact Prod.ext rfl h0
        have HG := Lib.hid (goes HA.out.1 HA.out.2.1 (by have := HA.out.2.2; omega) hon)
        have HR := Lib.hid hon
        have HYZ := Lib.hid (show foSize y.kids + 1 ≤ 2000 by have h1 := HG.out.ysz; have h2 := HA.out.2.2; have h3 := HSZ.out; have h4 := HSP.out.2.2.2.2.2; rw [h4] at h1; omega)
        obtain ⟨s2, hs2⟩ : ∃ s2, s2 = s.inv t := ⟨_, rfl⟩
        obtain ⟨z, hz, hsame⟩ := HG.out.back
        obtain ⟨s3, hs3⟩ : ∃ s3, s3 = s2.inv y := ⟨_, rfl⟩
        rw [← hs2] at hz
        have HG2 := Lib.hid (show SfOk s2 by rw [hs2]; exact HG.out.ok)
        have HG3 := Lib.hid (show SfOk s3 from by rw [hs3]; exact (sf_ok HG.out.yd.2 HYZ.out hz).1)
        have HA3 := Lib.hid (show s3.on t = (y, 0) by rw [hs3, hs2]; exact HG.out.again)
        have HZ2 := Lib.hid (And.intro hz hsame)
        have HS23 := Lib.hid (And.intro hs2 hs3)
        clear hr h0 hy hon hz hsame hs2 hs3
        have hA1 : applyR (y, (0 : Int)) = y := by rw [applyR, if_pos rfl]
        have hA2 : applyR (z, (0 : Int)) = z := by rw [applyR, if_pos rfl]
        have HAR := Lib.hid (And.intro hA1 hA2)
        clear hA1 hA2
        obtain ⟨qt0, qt1, qt2, qt3⟩ := box4 Et.out
        obtain ⟨qs0, qs1, qs2, qs3, qs4, qs5, qs6, qs7, qs8⟩ := box9 Es.out
        go_wp2_with fail
        refine ((show Calls _ _ #[.agg #[.int .i64 t.id, .int .i64 t.kind, .string t.text, .slice ka nk tc], .agg #[.int .i8 op, .int .i64 id, .int .i64 par, .int .i64 at_, .string tx, .int .i64 x.id, .int .i64 x.kind, .string x.text, .slice sa sn sc]] W2 (TreeO y 0 W2) from by
          have h := applyL (s := s) (sa := sa) (sc := sc) Lw.out.1 (by rw [HSP.out.2.2.2.2.2]; exact Lw.out.2) Bw.out Bw.out (by have := HA.out.2.2; omega) HTW.out HOK.out
          rw [HSP.out.1, HSP.out.2.1, HSP.out.2.2.1, HSP.out.2.2.2.1, HSP.out.2.2.2.2.1, HSP.out.2.2.2.2.2, ← Nt.out, ← Ns.out, HR.out, HAR.out.1] at h
          exact h)).mono ?_
        rintro e W3 ⟨ya, yc, rfl, hly, hb⟩
        obtain ⟨yn, hyn⟩ : ∃ yn, yn = foLen y.kids := ⟨_, rfl⟩
        rw [← hyn]
        have Ny := Lib.hid hyn
        clear hyn
        obtain ⟨U3, hU⟩ : ∃ U3, U3 = W3.alloc (.cells #[.int .i64 y.id, .int .i64 y.kind, .string y.text, .slice ya yn yc] 24) := ⟨_, rfl⟩
        have hbU : Below W3.heap.size W3 U3 := by rw [hU]; exact box_below _ _
        have Ey := Lib.hid (show U3.heap[W3.heap.size]? = some (.cells #[.int .i64 y.id, .int .i64 y.kind, .string y.text, .slice ya yn yc] 24 (0, 0)) by rw [hU]; exact heap_alloc_new _ _)
        have Ly := Lib.hid (hly.on hbU)
        have hbb := hb.trans (hbU.mono hb.size)
        replace Et := Lib.hid ((hbb.block _ (lt_of_heap Et.out)).trans Et.out)
        replace Es := Lib.hid ((hbb.block _ (lt_of_heap Es.out)).trans Es.out)
        replace Bw := Lib.hid (Bw.out.trans (hbb.mono Bw.out.size))
        have By := Lib.hid (Below.refl U3.heap.size U3)
        have HU := Lib.hid hU
        obtain ⟨yb, hqyb⟩ : ∃ yb, yb = W3.heap.size := ⟨_, rfl⟩
        clear qt0 qt1 qt2 qt3 qs0 qs1 qs2 qs3 qs4 qs5 qs6 qs7 qs8
        clear hU hbU hbb hb hly
        go_upto_region 4 with fail
        rw [← HU.out]
        rw [← hqyb] at Ey ⊢
        clear HU hqyb
        obtain ⟨qt0, qt1, qt2, qt3⟩ := box4 Et.out
        obtain ⟨qs0, qs1, qs2, qs3, qs4, qs5, qs6, qs7, qs8⟩ := box9 Es.out
        go_wp2_with fail
        refine ((show Calls _ _ #[.agg #[.int .i64 t.id, .int .i64 t.kind, .string t.text, .slice ka nk tc], .agg #[.int .i8 op, .int .i64 id, .int .i64 par, .int .i64 at_, .string tx, .int .i64 x.id, .int .i64 x.kind, .string x.text, .slice sa sn sc]] U3 (StepO s2 0 U3) from by
          have h := invertL (s := s) (sa := sa) (sc := sc) Lw.out.1 (by rw [HSP.out.2.2.2.2.2]; exact Lw.out.2) Bw.out Bw.out (by have := HA.out.2.2; omega) HTW.out HOK.out
          rw [HSP.out.1, HSP.out.2.1, HSP.out.2.2.1, HSP.out.2.2.2.1, HSP.out.2.2.2.2.1, HSP.out.2.2.2.2.2, ← Nt.out, ← Ns.out, HR.out, ← HS23.out.1] at h
          exact h)).mono ?_
        rintro e W4 ⟨ba, bc, rfl, hlb, hb⟩
        obtain ⟨bn, hbn⟩ : ∃ bn, bn = foLen s2.sub.kids := ⟨_, rfl⟩
        rw [← hbn]
        have Nb := Lib.hid hbn
        clear hbn
        obtain ⟨U4, hU⟩ : ∃ U4, U4 = W4.alloc (.cells #[.int .i8 s2.op, .int .i64 s2.id, .int .i64 s2.par, .int .i64 s2.at_, .string s2.tx, .int .i64 s2.sub.id, .int .i64 s2.sub.kind, .string s2.sub.text, .slice ba bn bc] 47) := ⟨_, rfl⟩
        have hbU : Below W4.heap.size W4 U4 := by rw [hU]; exact box_below _ _
        have Eb := Lib.hid (show U4.heap[W4.heap.size]? = some (.cells #[.int .i8 s2.op, .int .i64 s2.id, .int .i64 s2.par, .int .i64 s2.at_, .string s2.tx, .int .i64 s2.sub.id, .int .i64 s2.sub.kind, .string s2.sub.text, .slice ba bn bc] 47 (0, 0)) by rw [hU]; exact heap_alloc_new _ _)
        have Lb := Lib.hid (hlb.on hbU)
        have hbb := hb.trans (hbU.mono hb.size)
        replace Et := Lib.hid ((hbb.block _ (lt_of_heap Et.out)).trans Et.out)
        replace Es := Lib.hid ((hbb.block _ (lt_of_heap Es.out)).trans Es.out)
        replace Ey := Lib.hid ((hbb.block _ (lt_of_heap Ey.out)).trans Ey.out)
        replace Bw := Lib.hid (Bw.out.trans (hbb.mono Bw.out.size))
        replace By := Lib.hid (By.out.trans (hbb.mono By.out.size))
        have Bb := Lib.hid (Below.refl U4.heap.size U4)
        have HU := Lib.hid hU
        obtain ⟨bb, hqbb⟩ : ∃ bb, bb = W4.heap.size := ⟨_, rfl⟩
        clear qt0 qt1 qt2 qt3 qs0 qs1 qs2 qs3 qs4 qs5 qs6 qs7 qs8
        clear hU hbU hbb hb hlb
        go_upto_region 5 with fail
        rw [← HU.out]
        rw [← hqbb] at Eb ⊢
        clear HU hqbb
        go_upto_region 9 with fail
        obtain ⟨qy0, qy1, qy2, qy3⟩ := box4 Ey.out
        obtain ⟨qb0, qb1, qb2, qb3, qb4, qb5, qb6, qb7, qb8⟩ := box9 Eb.out
        go_wp2_with fail
        refine ((show Calls _ _ #[.agg #[.int .i64 y.id, .int .i64 y.kind, .string y.text, .slice ya yn yc], .agg #[.int .i8 s2.op, .int .i64 s2.id, .int .i64 s2.par, .int .i64 s2.at_, .string s2.tx, .int .i64 s2.sub.id, .int .i64 s2.sub.kind, .string s2.sub.text, .slice ba bn bc]] U4 (TreeO z 0 U4) from by
          have h := applyL (s := s2) Ly.out Lb.out By.out Bb.out HYZ.out HG.out.yw HG2.out
          rw [← Ny.out, ← Nb.out, HZ2.out.1, HAR.out.2] at h
          exact h)).mono ?_
        rintro e W5 ⟨za, zc, rfl, hlz, hb⟩
        obtain ⟨zn, hzn⟩ : ∃ zn, zn = foLen z.kids := ⟨_, rfl⟩
        rw [← hzn]
        have Nz := Lib.hid hzn
        clear hzn
        obtain ⟨U5, hU⟩ : ∃ U5, U5 = W5.alloc (.cells #[.int .i64 z.id, .int .i64 z.kind, .string z.text, .slice za zn zc] 24) := ⟨_, rfl⟩
        have hbU : Below W5.heap.size W5 U5 := by rw [hU]; exact box_below _ _
        have Ez := Lib.hid (show U5.heap[W5.heap.size]? = some (.cells #[.int .i64 z.id, .int .i64 z.kind, .string z.text, .slice za zn zc] 24 (0, 0)) by rw [hU]; exact heap_alloc_new _ _)
        have Lz := Lib.hid (hlz.on hbU)
        have hbb := hb.trans (hbU.mono hb.size)
        replace Et := Lib.hid ((hbb.block _ (lt_of_heap Et.out)).trans Et.out)
        replace Es := Lib.hid ((hbb.block _ (lt_of_heap Es.out)).trans Es.out)
        replace Ey := Lib.hid ((hbb.block _ (lt_of_heap Ey.out)).trans Ey.out)
        replace Eb := Lib.hid ((hbb.block _ (lt_of_heap Eb.out)).trans Eb.out)
        replace Bw := Lib.hid (Bw.out.trans (hbb.mono Bw.out.size))
        replace By := Lib.hid (By.out.trans (hbb.mono By.out.size))
        replace Bb := Lib.hid (Bb.out.trans (hbb.mono Bb.out.size))
        have Bz := Lib.hid (Below.refl U5.heap.size U5)
        have HU := Lib.hid hU
        obtain ⟨zb, hqzb⟩ : ∃ zb, zb = W5.heap.size := ⟨_, rfl⟩
        clear qy0 qy1 qy2 qy3 qb0 qb1 qb2 qb3 qb4 qb5 qb6 qb7 qb8
        clear hU hbU hbb hb hlz
        go_upto_region 10 with fail
        rw [← HU.out]
        rw [← hqzb] at Ez ⊢
        clear HU hqzb
        obtain ⟨qy0, qy1, qy2, qy3⟩ := box4 Ey.out
        obtain ⟨qb0, qb1, qb2, qb3, qb4, qb5, qb6, qb7, qb8⟩ := box9 Eb.out
        go_wp2_with fail
        refine ((show Calls _ _ #[.agg #[.int .i64 y.id, .int .i64 y.kind, .string y.text, .slice ya yn yc], .agg #[.int .i8 s2.op, .int .i64 s2.id, .int .i64 s2.par, .int .i64 s2.at_, .string s2.tx, .int .i64 s2.sub.id, .int .i64 s2.sub.kind, .string s2.sub.text, .slice ba bn bc]] U5 (StepO s3 0 U5) from by
          have h := invertL (s := s2) Ly.out Lb.out By.out Bb.out HYZ.out HG.out.yw HG2.out
          rw [← Ny.out, ← Nb.out, HZ2.out.1, ← HS23.out.2] at h
          exact h)).mono ?_
        rintro e W6 ⟨ca, cc, rfl, hlc, hb⟩
        obtain ⟨cn, hcn⟩ : ∃ cn, cn = foLen s3.sub.kids := ⟨_, rfl⟩
        rw [← hcn]
        have Nc := Lib.hid hcn
        clear hcn
        obtain ⟨U6, hU⟩ : ∃ U6, U6 = W6.alloc (.cells #[.int .i8 s3.op, .int .i64 s3.id, .int .i64 s3.par, .int .i64 s3.at_, .string s3.tx, .int .i64 s3.sub.id, .int .i64 s3.sub.kind, .string s3.sub.text, .slice ca cn cc] 47) := ⟨_, rfl⟩
        have hbU : Below W6.heap.size W6 U6 := by rw [hU]; exact box_below _ _
        have Ec := Lib.hid (show U6.heap[W6.heap.size]? = some (.cells #[.int .i8 s3.op, .int .i64 s3.id, .int .i64 s3.par, .int .i64 s3.at_, .string s3.tx, .int .i64 s3.sub.id, .int .i64 s3.sub.kind, .string s3.sub.text, .slice ca cn cc] 47 (0, 0)) by rw [hU]; exact heap_alloc_new _ _)
        have Lc := Lib.hid (hlc.on hbU)
        have hbb := hb.trans (hbU.mono hb.size)
        replace Et := Lib.hid ((hbb.block _ (lt_of_heap Et.out)).trans Et.out)
        replace Es := Lib.hid ((hbb.block _ (lt_of_heap Es.out)).trans Es.out)
        replace Ey := Lib.hid ((hbb.block _ (lt_of_heap Ey.out)).trans Ey.out)
        replace Eb := Lib.hid ((hbb.block _ (lt_of_heap Eb.out)).trans Eb.out)
        replace Ez := Lib.hid ((hbb.block _ (lt_of_heap Ez.out)).trans Ez.out)
        replace Bw := Lib.hid (Bw.out.trans (hbb.mono Bw.out.size))
        replace By := Lib.hid (By.out.trans (hbb.mono By.out.size))
        replace Bb := Lib.hid (Bb.out.trans (hbb.mono Bb.out.size))
        replace Bz := Lib.hid (Bz.out.trans (hbb.mono Bz.out.size))
        have Bc := Lib.hid (Below.refl U6.heap.size U6)
        have HU := Lib.hid hU
        obtain ⟨cb, hqcb⟩ : ∃ cb, cb = W6.heap.size := ⟨_, rfl⟩
        clear qy0 qy1 qy2 qy3 qb0 qb1 qb2 qb3 qb4 qb5 qb6 qb7 qb8
        clear hU hbU hbb hb hlc
        go_upto_region 11 with fail
        rw [← HU.out]
        rw [← hqcb] at Ec ⊢
        clear HU hqcb
        obtain ⟨qz0, qz1, qz2, qz3⟩ := box4 Ez.out
        obtain ⟨qt0, qt1, qt2, qt3⟩ := box4 Et.out
        have HSM : Hid (Calls Try.prog 28 #[.agg #[.int .i64 z.id, .int .i64 z.kind, .string z.text, .slice za zn zc], .agg #[.int .i64 t.id, .int .i64 t.kind, .string t.text, .slice ka nk tc]] U6 fun e w' => e = .returned (.bool true) ∧ Below U6.heap.size U6 w') := Lib.hid (by
          have h := sameL (X := U6) Lz.out Lw.out.1 Bz.out Bw.out (by have h2 := (step_keeps HG.out.yd.1 HG.out.yd.2 HZ2.out.1).2.2; have h3 := HYZ.out; have h4 := HG2.out.size; omega)
          unfold SameC at h
          rw [← Nz.out, ← Nt.out, HZ2.out.2] at h
          exact h)
        go_wp2_with fail
        refine HSM.out.mono ?_
        rintro e W7 ⟨rfl, hb⟩
        replace Et := Lib.hid ((hb.block _ (lt_of_heap Et.out)).trans Et.out)
        replace Es := Lib.hid ((hb.block _ (lt_of_heap Es.out)).trans Es.out)
        replace Ey := Lib.hid ((hb.block _ (lt_of_heap Ey.out)).trans Ey.out)
        replace Eb := Lib.hid ((hb.block _ (lt_of_heap Eb.out)).trans Eb.out)
        replace Ez := Lib.hid ((hb.block _ (lt_of_heap Ez.out)).trans Ez.out)
        replace Ec := Lib.hid ((hb.block _ (lt_of_heap Ec.out)).trans Ec.out)
        replace Bw := Lib.hid (Bw.out.trans (hb.mono Bw.out.size))
        replace By := Lib.hid (By.out.trans (hb.mono By.out.size))
        replace Bb := Lib.hid (Bb.out.trans (hb.mono Bb.out.size))
        replace Bz := Lib.hid (Bz.out.trans (hb.mono Bz.out.size))
        replace Bc := Lib.hid (Bc.out.trans (hb.mono Bc.out.size))
        clear hb HSM
        clear qz0 qz1 qz2 qz3 qt0 qt1 qt2 qt3
        go_upto_region 13 with fail
        obtain ⟨qt0, qt1, qt2, qt3⟩ := box4 Et.out
        obtain ⟨qc0, qc1, qc2, qc3, qc4, qc5, qc6, qc7, qc8⟩ := box9 Ec.out
        go_wp2_with fail
        refine ((show Calls _ _ #[.agg #[.int .i64 t.id, .int .i64 t.kind, .string t.text, .slice ka nk tc], .agg #[.int .i8 s3.op, .int .i64 s3.id, .int .i64 s3.par, .int .i64 s3.at_, .string s3.tx, .int .i64 s3.sub.id, .int .i64 s3.sub.kind, .string s3.sub.text, .slice ca cn cc]] W7 (TreeO y 0 W7) from by
          have h := applyL (s := s3) Lw.out.1 Lc.out Bw.out Bc.out (by have := HA.out.2.2; omega) HTW.out HG3.out
          rw [← Nt.out, ← Nc.out, HA3.out, HAR.out.1] at h
          exact h)).mono ?_
        rintro e W8 ⟨va, vc, rfl, hlv, hb⟩
        obtain ⟨vn, hvn⟩ : ∃ vn, vn = foLen y.kids := ⟨_, rfl⟩
        rw [← hvn]
        have Nv := Lib.hid hvn
        clear hvn
        obtain ⟨U8, hU⟩ : ∃ U8, U8 = W8.alloc (.cells #[.int .i64 y.id, .int .i64 y.kind, .string y.text, .slice va vn vc] 24) := ⟨_, rfl⟩
        have hbU : Below W8.heap.size W8 U8 := by rw [hU]; exact box_below _ _
        have Ev := Lib.hid (show U8.heap[W8.heap.size]? = some (.cells #[.int .i64 y.id, .int .i64 y.kind, .string y.text, .slice va vn vc] 24 (0, 0)) by rw [hU]; exact heap_alloc_new _ _)
        have Lv := Lib.hid (hlv.on hbU)
        have hbb := hb.trans (hbU.mono hb.size)
        replace Et := Lib.hid ((hbb.block _ (lt_of_heap Et.out)).trans Et.out)
        replace Es := Lib.hid ((hbb.block _ (lt_of_heap Es.out)).trans Es.out)
        replace Ey := Lib.hid ((hbb.block _ (lt_of_heap Ey.out)).trans Ey.out)
        replace Eb := Lib.hid ((hbb.block _ (lt_of_heap Eb.out)).trans Eb.out)
        replace Ez := Lib.hid ((hbb.block _ (lt_of_heap Ez.out)).trans Ez.out)
        replace Ec := Lib.hid ((hbb.block _ (lt_of_heap Ec.out)).trans Ec.out)
        replace Bw := Lib.hid (Bw.out.trans (hbb.mono Bw.out.size))
        replace By := Lib.hid (By.out.trans (hbb.mono By.out.size))
        replace Bb := Lib.hid (Bb.out.trans (hbb.mono Bb.out.size))
        replace Bz := Lib.hid (Bz.out.trans (hbb.mono Bz.out.size))
        replace Bc := Lib.hid (Bc.out.trans (hbb.mono Bc.out.size))
        have Bv := Lib.hid (Below.refl U8.heap.size U8)
        have HU := Lib.hid hU
        obtain ⟨vb, hqvb⟩ : ∃ vb, vb = W8.heap.size := ⟨_, rfl⟩
        clear qt0 qt1 qt2 qt3 qc0 qc1 qc2 qc3 qc4 qc5 qc6 qc7 qc8
        clear hU hbU hbb hb hlv
        go_upto_region 14 with fail
        rw [← HU.out]
        rw [← hqvb] at Ev ⊢
        clear HU hqvb
        obtain ⟨qv0, qv1, qv2, qv3⟩ := box4 Ev.out
        obtain ⟨qy0, qy1, qy2, qy3⟩ := box4 Ey.out
        have HSM : Hid (Calls Try.prog 28 #[.agg #[.int .i64 y.id, .int .i64 y.kind, .string y.text, .slice va vn vc], .agg #[.int .i64 y.id, .int .i64 y.kind, .string y.text, .slice ya yn yc]] U8 fun e w' => e = .returned (.bool true) ∧ Below U8.heap.size U8 w') := Lib.hid (by
          have h := sameL (X := U8) Lv.out Ly.out Bv.out By.out (by have h3 := HYZ.out; omega)
          unfold SameC at h
          rw [← Nv.out, sameT_refl] at h
          rw [show yn = vn by rw [Nv.out, Ny.out]]
          exact h)
        go_wp2_with fail
        refine HSM.out.mono ?_
        rintro e W9 ⟨rfl, hb⟩
        replace Bw := Lib.hid (Bw.out.trans (hb.mono Bw.out.size))
        clear hb HSM
        go_wp2_with fail
        refine (wakes10_any W9).mono ?_
        rintro e WZ ⟨rfl, hbz⟩
        have HZ := Lib.hid (Bw.out.trans (hbz.mono Bw.out.size))
        clear hbz
        go_wp2_with fail
        go_ret
        exact ⟨rfl, HZ.out⟩
      · obtain ⟨y, hy⟩ : ∃ y, y = applyR r := ⟨_, rfl⟩
        obtain ⟨ye, hye⟩ : ∃ ye, ye = r.2 := ⟨_, rfl⟩
        obtain ⟨s2, hs2⟩ : ∃ s2, s2 = s.inv t := ⟨_, rfl⟩
        have HR := Lib.hid hr.symm
        have HY2 := Lib.hid (And.intro hy (And.intro hye hs2))
        rw [← hye] at h0
        clear hr hy hye hs2
        obtain ⟨qt0, qt1, qt2, qt3⟩ := box4 Et.out
        obtain ⟨qs0, qs1, qs2, qs3, qs4, qs5, qs6, qs7, qs8⟩ := box9 Es.out
        go_wp2_with fail
        refine ((show Calls _ _ #[.agg #[.int .i64 t.id, .int .i64 t.kind, .string t.text, .slice ka nk tc], .agg #[.int .i8 op, .int .i64 id, .int .i64 par, .int .i64 at_, .string tx, .int .i64 x.id, .int .i64 x.kind, .string x.text, .slice sa sn sc]] W2 (TreeO y ye W2) from by
          have h := applyL (s := s) (sa := sa) (sc := sc) Lw.out.1 (by rw [HSP.out.2.2.2.2.2]; exact Lw.out.2) Bw.out Bw.out (by have := HA.out.2.2; omega) HTW.out HOK.out
          rw [HSP.out.1, HSP.out.2.1, HSP.out.2.2.1, HSP.out.2.2.2.1, HSP.out.2.2.2.2.1, HSP.out.2.2.2.2.2, ← Nt.out, ← Ns.out, HR.out, ← HY2.out.1, ← HY2.out.2.1] at h
          exact h)).mono ?_
        rintro e W3 ⟨ya, yc, rfl, hly, hb⟩
        obtain ⟨yn, hyn⟩ : ∃ yn, yn = foLen y.kids := ⟨_, rfl⟩
        rw [← hyn]
        have Ny := Lib.hid hyn
        clear hyn
        obtain ⟨U3, hU⟩ : ∃ U3, U3 = W3.alloc (.cells #[.int .i64 y.id, .int .i64 y.kind, .string y.text, .slice ya yn yc] 24) := ⟨_, rfl⟩
        have hbU : Below W3.heap.size W3 U3 := by rw [hU]; exact box_below _ _
        have Ey := Lib.hid (show U3.heap[W3.heap.size]? = some (.cells #[.int .i64 y.id, .int .i64 y.kind, .string y.text, .slice ya yn yc] 24 (0, 0)) by rw [hU]; exact heap_alloc_new _ _)
        have Ly := Lib.hid (hly.on hbU)
        have hbb := hb.trans (hbU.mono hb.size)
        replace Et := Lib.hid ((hbb.block _ (lt_of_heap Et.out)).trans Et.out)
        replace Es := Lib.hid ((hbb.block _ (lt_of_heap Es.out)).trans Es.out)
        replace Bw := Lib.hid (Bw.out.trans (hbb.mono Bw.out.size))
        have By := Lib.hid (Below.refl U3.heap.size U3)
        have HU := Lib.hid hU
        obtain ⟨yb, hqyb⟩ : ∃ yb, yb = W3.heap.size := ⟨_, rfl⟩
        clear qt0 qt1 qt2 qt3 qs0 qs1 qs2 qs3 qs4 qs5 qs6 qs7 qs8
        clear hU hbU hbb hb hly
        go_upto_region 4 with fail
        rw [← HU.out]
        rw [← hqyb] at Ey ⊢
        clear HU hqyb
        obtain ⟨qt0, qt1, qt2, qt3⟩ := box4 Et.out
        obtain ⟨qs0, qs1, qs2, qs3, qs4, qs5, qs6, qs7, qs8⟩ := box9 Es.out
        go_wp2_with fail
        refine ((show Calls _ _ #[.agg #[.int .i64 t.id, .int .i64 t.kind, .string t.text, .slice ka nk tc], .agg #[.int .i8 op, .int .i64 id, .int .i64 par, .int .i64 at_, .string tx, .int .i64 x.id, .int .i64 x.kind, .string x.text, .slice sa sn sc]] U3 (StepO s2 ye U3) from by
          have h := invertL (s := s) (sa := sa) (sc := sc) Lw.out.1 (by rw [HSP.out.2.2.2.2.2]; exact Lw.out.2) Bw.out Bw.out (by have := HA.out.2.2; omega) HTW.out HOK.out
          rw [HSP.out.1, HSP.out.2.1, HSP.out.2.2.1, HSP.out.2.2.2.1, HSP.out.2.2.2.2.1, HSP.out.2.2.2.2.2, ← Nt.out, ← Ns.out, HR.out, ← HY2.out.2.1, ← HY2.out.2.2] at h
          exact h)).mono ?_
        rintro e W4 ⟨ba, bc, rfl, hlb, hb⟩
        obtain ⟨bn, hbn⟩ : ∃ bn, bn = foLen s2.sub.kids := ⟨_, rfl⟩
        rw [← hbn]
        have Nb := Lib.hid hbn
        clear hbn
        obtain ⟨U4, hU⟩ : ∃ U4, U4 = W4.alloc (.cells #[.int .i8 s2.op, .int .i64 s2.id, .int .i64 s2.par, .int .i64 s2.at_, .string s2.tx, .int .i64 s2.sub.id, .int .i64 s2.sub.kind, .string s2.sub.text, .slice ba bn bc] 47) := ⟨_, rfl⟩
        have hbU : Below W4.heap.size W4 U4 := by rw [hU]; exact box_below _ _
        have Eb := Lib.hid (show U4.heap[W4.heap.size]? = some (.cells #[.int .i8 s2.op, .int .i64 s2.id, .int .i64 s2.par, .int .i64 s2.at_, .string s2.tx, .int .i64 s2.sub.id, .int .i64 s2.sub.kind, .string s2.sub.text, .slice ba bn bc] 47 (0, 0)) by rw [hU]; exact heap_alloc_new _ _)
        have Lb := Lib.hid (hlb.on hbU)
        have hbb := hb.trans (hbU.mono hb.size)
        replace Et := Lib.hid ((hbb.block _ (lt_of_heap Et.out)).trans Et.out)
        replace Es := Lib.hid ((hbb.block _ (lt_of_heap Es.out)).trans Es.out)
        replace Ey := Lib.hid ((hbb.block _ (lt_of_heap Ey.out)).trans Ey.out)
        replace Bw := Lib.hid (Bw.out.trans (hbb.mono Bw.out.size))
        replace By := Lib.hid (By.out.trans (hbb.mono By.out.size))
        have Bb := Lib.hid (Below.refl U4.heap.size U4)
        have HU := Lib.hid hU
        obtain ⟨bb, hqbb⟩ : ∃ bb, bb = W4.heap.size := ⟨_, rfl⟩
        clear qt0 qt1 qt2 qt3 qs0 qs1 qs2 qs3 qs4 qs5 qs6 qs7 qs8
        clear hU hbU hbb hb hlb
        go_upto_region 5 with fail
        rw [← HU.out]
        rw [← hqbb] at Eb ⊢
        clear HU hqbb
        go_wp2_with fail
        refine (wakes10_any U4).mono ?_
        rintro e WZ ⟨rfl, hbz⟩
        have HZ := Lib.hid (Bw.out.trans (hbz.mono Bw.out.size))
        clear hbz
        go_wp2_with fail
        go_ret
        exact ⟨rfl, HZ.out⟩
end Go.Proofs.Ythjniclhnfipdaa
