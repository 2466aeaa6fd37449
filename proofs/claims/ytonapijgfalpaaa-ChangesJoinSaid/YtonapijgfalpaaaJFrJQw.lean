/-
  .
-/
import Derived.Deep.Cut
import Derived.Test.YtonapijgfalpaaaJJoinQw
import Derived.Test.YtonapijgfalpaaaJGreatQw
import Derived.Test.YtonapijgfalpaaaJWakesQw
import Derived.Test.YtonapijgfalpaaaVManyQw
import Derived.Test.YtonapijgfalpaaaVFaultQw
import Derived.Test.YtonapijgfalpaaaKPlacePQw
import Derived.ProofKit
import Derived.OpenShut
import Derived.Deep.Slices
import Derived.Deep.Strs
import Derived.Lib.SmallJoins
import Derived.Laws.BytesArg
namespace Go.Proofs.Ytonapijgfalpaaa
open Go.RowKit Go.Shelf
set_option linter.unusedVariables false
set_option linter.unusedSimpArgs false

theorem great_fewJ {g : Gr} (h : greatG g = false) : g.few ∧ g.kinds.length ≤ 40 := by
  simp only [greatG, Bool.or_eq_false_iff, decide_eq_false_iff_not, List.any_eq_false] at h
  refine ⟨⟨by omega, fun k hk => ?_⟩, by omega⟩
  have h1 := h.2 k hk
  simp only [greatK, Bool.or_eq_true, decide_eq_true_eq, List.any_eq_true, not_or, not_exists, not_and] at h1
  refine ⟨by omega, by omega, fun s hs => ?_⟩
  have h2 := h1.2 s hs
  simp only [greatS, decide_eq_true_eq] at h2
  show s.kinds.length ≤ 1000000
  omega
theorem way_zero : Way zeroK := ⟨by decide, okF_zero⟩
theorem way_ap {g : Gr} {t : Tr} {l : List Sf} (hw : Way t) (hl : ∀ s ∈ l, StepFit s) : Way (apK g t l).1 := by
  unfold apK
  split
  · show Way (if (foldK g t l).2.2 = 0 then (foldK g t l).1 else t)
    split
    · rename_i h; exact way_go hl hw (foldK_go h).1
    · exact hw
  · exact way_zero
theorem foldK_le (g : Gr) : ∀ (l : List Sf) (t : Tr), (foldK g t l).2.1 ≤ l.length
  | [], t => by simp [foldK]
  | s :: l, t => by
    rw [foldK]
    split
    · have := foldK_le g l (doK g (s.on t)).1
      show _ + 1 ≤ _
      rw [List.length_cons]; omega
    · simp
theorem apK_le (g : Gr) (t : Tr) (l : List Sf) : (apK g t l).2.1 ≤ l.length := by
  unfold apK
  split
  · exact foldK_le g l t
  · simp
theorem apK_join {g : Gr} {t : Tr} {a b : List Sf} (h : okSet (a ++ b) = true) :
    ((apK g t a).2.2 ≠ 0 → apK g t (a ++ b) = (t, (apK g t a).2.1, (apK g t a).2.2)) ∧
    ((apK g t a).2.2 = 0 → (apK g (apK g t a).1 b).2.2 ≠ 0 → apK g t (a ++ b) = (t, a.length + (apK g (apK g t a).1 b).2.1, (apK g (apK g t a).1 b).2.2)) ∧
    ((apK g t a).2.2 = 0 → (apK g (apK g t a).1 b).2.2 = 0 → apK g t (a ++ b) = ((apK g (apK g t a).1 b).1, a.length + b.length, 0)) := by
  obtain ⟨ha, hb⟩ := okSet_left h
  have e1 : apK g t a = (if (foldK g t a).2.2 = 0 then (foldK g t a).1 else t, (foldK g t a).2.1, (foldK g t a).2.2) := by rw [apK, if_pos ha]
  have e2 : ∀ x, apK g x b = (if (foldK g x b).2.2 = 0 then (foldK g x b).1 else x, (foldK g x b).2.1, (foldK g x b).2.2) := fun x => by rw [apK, if_pos hb]
  have e3 : apK g t (a ++ b) = (if (foldK g t (a ++ b)).2.2 = 0 then (foldK g t (a ++ b)).1 else t, (foldK g t (a ++ b)).2.1, (foldK g t (a ++ b)).2.2) := by rw [apK, if_pos h]
  rw [e3, foldK_append]
  refine ⟨fun h1 => ?_, fun h1 h2 => ?_, fun h1 h2 => ?_⟩
  · rw [e1] at h1 ⊢
    simp only at h1 ⊢
    rw [if_neg h1, if_neg h1]
  · have h1' : (foldK g t a).2.2 = 0 := by rw [e1] at h1; exact h1
    have hx : (apK g t a).1 = (foldK g t a).1 := by rw [e1]; exact if_pos h1'
    rw [hx, e2] at h2 ⊢
    simp only at h2 ⊢
    rw [if_pos h1']
    simp only
    rw [if_neg h2]
  · have h1' : (foldK g t a).2.2 = 0 := by rw [e1] at h1; exact h1
    have hx : (apK g t a).1 = (foldK g t a).1 := by rw [e1]; exact if_pos h1'
    rw [hx, e2] at h2 ⊢
    simp only at h2 ⊢
    rw [if_pos h1']
    simp only
    rw [if_pos h2, h2, (foldK_go h2).2, if_pos rfl]
set_option maxRecDepth 100000 in
set_option maxHeartbeats 16000000 in
theorem changesJoin_any (w : World) (g : Gr) (t : Tr) (ga ta la lb : Option Addr) (gn gc tn tc na ca nb cb : Nat) (pa pb : List SV) (hgn : gn = g.kinds.length) (hg : GrV w (.agg #[.slice ga g.kinds.length gc, .int .i64 g.root]) g) (hf : g.fits) (htn : tn = foLen t.kids) (ht : LiesI w t.kids ta tc) (hlen : foLen t.kids ≤ 9223372036854775807) (hfit : foFit t.kids) (hok : okF (spF 1 (rootF t))) (hna : na = pa.length) (hnb : nb = pb.length) (ha : RowC w la pa) (hb : RowC w lb pb) :
    Calls Try.prog 15 #[.agg #[.slice ga gn gc, .int .i64 g.root], .agg #[.int .i64 t.id, .int .i64 t.kind, .string t.text, .slice ta tn tc], .slice la na ca, .slice lb nb cb] w (YesR w) := by
  obtain ⟨B, hB⟩ : ∃ B, B = allocs w [.cells #[.slice ga gn gc, .int .i64 g.root] 55, .cells #[.int .i64 t.id, .int .i64 t.kind, .string t.text, .slice ta tn tc] 24] := ⟨_, rfl⟩
  have BW := Lib.hid (show Below w.heap.size w B by rw [hB]; exact allocs_below _ _)
  have EG := Lib.hid (show B.heap[w.heap.size]? = some (.cells #[.slice ga gn gc, .int .i64 g.root] 55 (0, 0)) by rw [hB]; exact allocs_at _ _ 0 _ rfl)
  have EN := Lib.hid (show B.heap[w.heap.size + 1]? = some (.cells #[.int .i64 t.id, .int .i64 t.kind, .string t.text, .slice ta tn tc] 24 (0, 0)) by rw [hB]; exact allocs_at _ _ 1 _ rfl)
  have HBE := Lib.hid hB
  have HP := Lib.hid (And.intro hgn (And.intro hg (And.intro hf (And.intro htn (And.intro ht (And.intro hlen (And.intro hfit hok)))))))
  have HA := Lib.hid (And.intro hna (And.intro True.intro ha))
  have HB := Lib.hid (And.intro hnb (And.intro True.intro hb))
  clear hB hgn hg hf htn ht hlen hfit hok hna hnb ha hb
  go_enter Try.func15, Try.ntmps15
  go_upto_region 1 with fail
  change Code.wp _ _ _ _ (allocs w [.cells #[.slice ga gn gc, .int .i64 g.root] 55, .cells #[.int .i64 t.id, .int .i64 t.kind, .string t.text, .slice ta tn tc] 24])
  rw [← HBE.out]
  clear HBE
  obtain ⟨g0, g1⟩ := box2 EG.out
  obtain ⟨n0, n1, n2, n3⟩ := box4 EN.out
  go_wp2_with fail
  refine (great_anyV B _ g (by rw [HP.out.1]; exact HP.out.2.1.below BW.out) HP.out.2.2.1).mono ?_
  rintro e W1 ⟨rfl, hb⟩
  replace EG := Lib.hid ((hb.block _ (lt_of_heap EG.out)).trans EG.out)
  replace EN := Lib.hid ((hb.block _ (lt_of_heap EN.out)).trans EN.out)
  replace BW := Lib.hid (BW.out.trans (hb.mono BW.out.size))
  clear hb
  clear g0 g1 n0 n1 n2 n3
  cases hgg : greatG g
  rotate_left
  · clear hgg
    go_wp2_with fail
    refine (wakes11_any W1).mono ?_
    rintro e WZ ⟨rfl, hbz⟩
    have HZ := Lib.hid (BW.out.trans (hbz.mono BW.out.size))
    clear hbz
    go_wp2_with fail
    go_ret
    exact ⟨rfl, HZ.out⟩
  have HGF := Lib.hid (great_fewJ hgg).1
  clear hgg
  obtain ⟨g0, g1⟩ := box2 EG.out
  obtain ⟨n0, n1, n2, n3⟩ := box4 EN.out
  go_wp2_with fail
  refine (great3_any W1 _ _ t HP.out.2.2.2.2.2.1 HP.out.2.2.2.2.2.2.1 (fun q hq => Nat.lt_of_lt_of_le hq BW.out.size) (by rw [HP.out.2.2.2.1]; exact HP.out.2.2.2.2.1.at BW.out)).mono ?_
  rintro e W2 ⟨b2, rfl, h2, hb⟩
  replace EG := Lib.hid ((hb.block _ (lt_of_heap EG.out)).trans EG.out)
  replace EN := Lib.hid ((hb.block _ (lt_of_heap EN.out)).trans EN.out)
  replace BW := Lib.hid (BW.out.trans (hb.mono BW.out.size))
  clear hb
  clear g0 g1 n0 n1 n2 n3
  cases b2
  rotate_left
  · clear h2
    go_wp2_with fail
    refine (wakes11_any W2).mono ?_
    rintro e WZ ⟨rfl, hbz⟩
    have HZ := Lib.hid (BW.out.trans (hbz.mono BW.out.size))
    clear hbz
    go_wp2_with fail
    go_ret
    exact ⟨rfl, HZ.out⟩
  have HW := Lib.hid (show Way t from ⟨h2 rfl, HP.out.2.2.2.2.2.2.2⟩)
  clear h2
  obtain ⟨g0, g1⟩ := box2 EG.out
  obtain ⟨n0, n1, n2, n3⟩ := box4 EN.out
  go_wp2_with fail
  refine (greatSS_any W2 la na ca pa HA.out.1 (HA.out.2.2.on BW.out)).mono ?_
  rintro e W3 ⟨b3, rfl, h3, hb⟩
  replace EG := Lib.hid ((hb.block _ (lt_of_heap EG.out)).trans EG.out)
  replace EN := Lib.hid ((hb.block _ (lt_of_heap EN.out)).trans EN.out)
  replace BW := Lib.hid (BW.out.trans (hb.mono BW.out.size))
  clear hb
  clear g0 g1 n0 n1 n2 n3
  cases b3
  rotate_left
  · clear h3
    go_wp2_with fail
    refine (wakes11_any W3).mono ?_
    rintro e WZ ⟨rfl, hbz⟩
    have HZ := Lib.hid (BW.out.trans (hbz.mono BW.out.size))
    clear hbz
    go_wp2_with fail
    go_ret
    exact ⟨rfl, HZ.out⟩
  have RA := Lib.hid (HA.out.2.2.row (h3 rfl))
  have HSA := Lib.hid (h3 rfl)
  clear h3
  obtain ⟨g0, g1⟩ := box2 EG.out
  obtain ⟨n0, n1, n2, n3⟩ := box4 EN.out
  go_wp2_with fail
  refine (greatSS_any W3 lb nb cb pb HB.out.1 (HB.out.2.2.on BW.out)).mono ?_
  rintro e W4 ⟨b4, rfl, h4, hb⟩
  replace EG := Lib.hid ((hb.block _ (lt_of_heap EG.out)).trans EG.out)
  replace EN := Lib.hid ((hb.block _ (lt_of_heap EN.out)).trans EN.out)
  replace BW := Lib.hid (BW.out.trans (hb.mono BW.out.size))
  clear hb
  clear g0 g1 n0 n1 n2 n3
  cases b4
  rotate_left
  · clear h4
    go_wp2_with fail
    refine (wakes11_any W4).mono ?_
    rintro e WZ ⟨rfl, hbz⟩
    have HZ := Lib.hid (BW.out.trans (hbz.mono BW.out.size))
    clear hbz
    go_wp2_with fail
    go_ret
    exact ⟨rfl, HZ.out⟩
  have RB := Lib.hid (HB.out.2.2.row (h4 rfl))
  have HSB := Lib.hid (h4 rfl)
  clear h4
  obtain ⟨g0, g1⟩ := box2 EG.out
  obtain ⟨n0, n1, n2, n3⟩ := box4 EN.out
  go_wp2_with fail
  refine (Join_any W4 la lb na ca nb cb pa pb HA.out.1 HB.out.1 (RA.out.on BW.out) (RB.out.on BW.out)).mono ?_
  rintro e W5 ⟨ja, jn, jc, jm, rfl, hb, hcase⟩
  replace EG := Lib.hid ((hb.block _ (lt_of_heap EG.out)).trans EG.out)
  replace EN := Lib.hid ((hb.block _ (lt_of_heap EN.out)).trans EN.out)
  replace BW := Lib.hid (BW.out.trans (hb.mono BW.out.size))
  clear hb
  clear g0 g1 n0 n1 n2 n3
  rcases hcase with ⟨rfl, hok, js, hjs, hjn, hjr⟩ | ⟨rfl, hno, _⟩
  rotate_left
  · clear hno
    go_wp2_with fail
    refine (wakes11_any W5).mono ?_
    rintro e WZ ⟨rfl, hbz⟩
    have HZ := Lib.hid (BW.out.trans (hbz.mono BW.out.size))
    clear hbz
    go_wp2_with fail
    go_ret
    exact ⟨rfl, HZ.out⟩
  have LJ := Lib.hid hjr
  have HJ := Lib.hid (And.intro hok (And.intro hjs hjn))
  clear hok hjs hjn hjr
  obtain ⟨g0, g1⟩ := box2 EG.out
  obtain ⟨n0, n1, n2, n3⟩ := box4 EN.out
  go_wp2_with fail
  refine (Apply_any W5 g t ga ta la gn gc tn tc na ca pa HP.out.1 (fun Y hY => HP.out.2.1.below (BW.out.trans (hY.mono BW.out.size))) HGF.out HP.out.2.2.2.1 (HP.out.2.2.2.2.1.on BW.out) HW.out HA.out.1 (RA.out.on BW.out)).mono ?_
  rintro e W6 ⟨y1a, y1c, rfl, hl, hb⟩
  obtain ⟨y1, hy1⟩ : ∃ y1, y1 = (apK g t (steps pa)).1 := ⟨_, rfl⟩
  obtain ⟨k1, hk1⟩ : ∃ k1, k1 = (apK g t (steps pa)).2.1 := ⟨_, rfl⟩
  obtain ⟨e1, he1⟩ : ∃ e1, e1 = (apK g t (steps pa)).2.2 := ⟨_, rfl⟩
  rw [← hy1] at hl
  rw [← hy1, ← hk1, ← he1]
  obtain ⟨y1n, hy1n⟩ : ∃ y1n, y1n = foLen y1.kids := ⟨_, rfl⟩
  rw [← hy1n]
  obtain ⟨U6, hU⟩ : ∃ U6, U6 = W6.alloc (.cells #[.int .i64 y1.id, .int .i64 y1.kind, .string y1.text, .slice y1a y1n y1c] 24) := ⟨_, rfl⟩
  have hbU : Below W6.heap.size W6 U6 := by rw [hU]; exact box_below _ _
  have hbb := hb.trans (hbU.mono hb.size)
  replace EG := Lib.hid ((hbb.block _ (lt_of_heap EG.out)).trans EG.out)
  replace EN := Lib.hid ((hbb.block _ (lt_of_heap EN.out)).trans EN.out)
  replace LJ := Lib.hid (LJ.out.on hbb)
  replace BW := Lib.hid (BW.out.trans (hbb.mono BW.out.size))
  have E1 := Lib.hid (show U6.heap[W6.heap.size]? = some (.cells #[.int .i64 y1.id, .int .i64 y1.kind, .string y1.text, .slice y1a y1n y1c] 24 (0, 0)) by rw [hU]; exact heap_alloc_new _ _)
  have L1 := Lib.hid (hl.on hbU)
  have H1 := Lib.hid (And.intro hy1 (And.intro hk1 (And.intro he1 hy1n)))
  have HU := Lib.hid hU
  obtain ⟨y1b, hy1b⟩ : ∃ y1b, y1b = W6.heap.size := ⟨_, rfl⟩
  rw [← hy1b] at E1
  have HU2 := Lib.hid hy1b
  clear g0 g1 n0 n1 n2 n3
  clear hU hbU hbb hb hl hy1 hk1 he1 hy1n hy1b
  go_upto_region 7 with fail
  change Code.wp _ _ _ _ (W6.alloc (.cells #[.int .i64 y1.id, .int .i64 y1.kind, .string y1.text, .slice y1a y1n y1c] 24))
  rw [← HU.out, ← HU2.out]
  clear HU HU2
  have HW1 := Lib.hid (show Way y1 by rw [H1.out.1]; exact way_ap HW.out (fun s hs => by obtain ⟨x, hx, rfl⟩ := List.mem_map.1 hs; exact RA.out.fit x hx))
  obtain ⟨g0, g1⟩ := box2 EG.out
  obtain ⟨n0, n1, n2, n3⟩ := box4 EN.out
  obtain ⟨q0, q1, q2, q3⟩ := box4 E1.out
  go_wp2_with fail
  refine (Apply_any U6 g y1 ga y1a lb gn gc y1n y1c nb cb pb HP.out.1 (fun Y hY => HP.out.2.1.below (BW.out.trans (hY.mono BW.out.size))) HGF.out H1.out.2.2.2 L1.out HW1.out HB.out.1 (RB.out.on BW.out)).mono ?_
  rintro e W7 ⟨y2a, y2c, rfl, hl, hb⟩
  obtain ⟨y2, hy2⟩ : ∃ y2, y2 = (apK g y1 (steps pb)).1 := ⟨_, rfl⟩
  obtain ⟨k2, hk2⟩ : ∃ k2, k2 = (apK g y1 (steps pb)).2.1 := ⟨_, rfl⟩
  obtain ⟨e2, he2⟩ : ∃ e2, e2 = (apK g y1 (steps pb)).2.2 := ⟨_, rfl⟩
  rw [← hy2] at hl
  rw [← hy2, ← hk2, ← he2]
  obtain ⟨y2n, hy2n⟩ : ∃ y2n, y2n = foLen y2.kids := ⟨_, rfl⟩
  rw [← hy2n]
  obtain ⟨U7, hU⟩ : ∃ U7, U7 = W7.alloc (.cells #[.int .i64 y2.id, .int .i64 y2.kind, .string y2.text, .slice y2a y2n y2c] 24) := ⟨_, rfl⟩
  have hbU : Below W7.heap.size W7 U7 := by rw [hU]; exact box_below _ _
  have hbb := hb.trans (hbU.mono hb.size)
  replace EG := Lib.hid ((hbb.block _ (lt_of_heap EG.out)).trans EG.out)
  replace EN := Lib.hid ((hbb.block _ (lt_of_heap EN.out)).trans EN.out)
  replace E1 := Lib.hid ((hbb.block _ (lt_of_heap E1.out)).trans E1.out)
  replace LJ := Lib.hid (LJ.out.on hbb)
  replace L1 := Lib.hid (L1.out.on hbb)
  replace BW := Lib.hid (BW.out.trans (hbb.mono BW.out.size))
  have E2 := Lib.hid (show U7.heap[W7.heap.size]? = some (.cells #[.int .i64 y2.id, .int .i64 y2.kind, .string y2.text, .slice y2a y2n y2c] 24 (0, 0)) by rw [hU]; exact heap_alloc_new _ _)
  have L2 := Lib.hid (hl.on hbU)
  have H2 := Lib.hid (And.intro hy2 (And.intro hk2 (And.intro he2 hy2n)))
  have HU := Lib.hid hU
  obtain ⟨y2b, hy2b⟩ : ∃ y2b, y2b = W7.heap.size := ⟨_, rfl⟩
  rw [← hy2b] at E2
  have HU2 := Lib.hid hy2b
  clear g0 g1 n0 n1 n2 n3
  clear q0 q1 q2 q3
  clear hU hbU hbb hb hl hy2 hk2 he2 hy2n hy2b
  go_upto_region 8 with fail
  change Code.wp _ _ _ _ (W7.alloc (.cells #[.int .i64 y2.id, .int .i64 y2.kind, .string y2.text, .slice y2a y2n y2c] 24))
  rw [← HU.out, ← HU2.out]
  clear HU HU2
  obtain ⟨g0, g1⟩ := box2 EG.out
  obtain ⟨n0, n1, n2, n3⟩ := box4 EN.out
  go_wp2_with fail
  refine (Apply_any U7 g t ga ta ja gn gc tn tc jn jc js HP.out.1 (fun Y hY => HP.out.2.1.below (BW.out.trans (hY.mono BW.out.size))) HGF.out HP.out.2.2.2.1 (HP.out.2.2.2.2.1.on BW.out) HW.out HJ.out.2.2 LJ.out).mono ?_
  rintro e W8 ⟨y3a, y3c, rfl, hl, hb⟩
  obtain ⟨y3, hy3⟩ : ∃ y3, y3 = (apK g t (steps js)).1 := ⟨_, rfl⟩
  obtain ⟨k3, hk3⟩ : ∃ k3, k3 = (apK g t (steps js)).2.1 := ⟨_, rfl⟩
  obtain ⟨e3, he3⟩ : ∃ e3, e3 = (apK g t (steps js)).2.2 := ⟨_, rfl⟩
  rw [← hy3] at hl
  rw [← hy3, ← hk3, ← he3]
  obtain ⟨y3n, hy3n⟩ : ∃ y3n, y3n = foLen y3.kids := ⟨_, rfl⟩
  rw [← hy3n]
  obtain ⟨U8, hU⟩ : ∃ U8, U8 = W8.alloc (.cells #[.int .i64 y3.id, .int .i64 y3.kind, .string y3.text, .slice y3a y3n y3c] 24) := ⟨_, rfl⟩
  have hbU : Below W8.heap.size W8 U8 := by rw [hU]; exact box_below _ _
  have hbb := hb.trans (hbU.mono hb.size)
  replace EG := Lib.hid ((hbb.block _ (lt_of_heap EG.out)).trans EG.out)
  replace EN := Lib.hid ((hbb.block _ (lt_of_heap EN.out)).trans EN.out)
  replace E1 := Lib.hid ((hbb.block _ (lt_of_heap E1.out)).trans E1.out)
  replace E2 := Lib.hid ((hbb.block _ (lt_of_heap E2.out)).trans E2.out)
  replace LJ := Lib.hid (LJ.out.on hbb)
  replace L1 := Lib.hid (L1.out.on hbb)
  replace L2 := Lib.hid (L2.out.on hbb)
  replace BW := Lib.hid (BW.out.trans (hbb.mono BW.out.size))
  have E3 := Lib.hid (show U8.heap[W8.heap.size]? = some (.cells #[.int .i64 y3.id, .int .i64 y3.kind, .string y3.text, .slice y3a y3n y3c] 24 (0, 0)) by rw [hU]; exact heap_alloc_new _ _)
  have L3 := Lib.hid (hl.on hbU)
  have H3 := Lib.hid (And.intro hy3 (And.intro hk3 (And.intro he3 hy3n)))
  have HU := Lib.hid hU
  obtain ⟨y3b, hy3b⟩ : ∃ y3b, y3b = W8.heap.size := ⟨_, rfl⟩
  rw [← hy3b] at E3
  have HU2 := Lib.hid hy3b
  clear g0 g1 n0 n1 n2 n3
  clear hU hbU hbb hb hl hy3 hk3 he3 hy3n hy3b
  go_upto_region 9 with fail
  change Code.wp _ _ _ _ (W8.alloc (.cells #[.int .i64 y3.id, .int .i64 y3.kind, .string y3.text, .slice y3a y3n y3c] 24))
  rw [← HU.out, ← HU2.out]
  clear HU HU2
  have hst : steps (pa ++ pb) = steps pa ++ steps pb := List.map_append
  have hjoin := apK_join (g := g) (t := t) (a := steps pa) (b := steps pb) (by rw [← hst]; exact HJ.out.1)
  rw [← hst, ← HJ.out.2.1, ← H1.out.1, ← H1.out.2.1, ← H1.out.2.2.1, ← H2.out.1, ← H2.out.2.1, ← H2.out.2.2.1] at hjoin
  have HJN := Lib.hid (And.intro hjoin (Prod.ext H3.out.1.symm (Prod.ext H3.out.2.1.symm H3.out.2.2.1.symm) : apK g t (steps js) = (y3, k3, e3)))
  clear hst hjoin
  by_cases he1 : e1 = 0
  rotate_left
  · have hq := HJN.out.1.1 he1
    rw [HJN.out.2] at hq
    simp only [Prod.mk.injEq] at hq
    obtain ⟨h1, h2, h3⟩ := hq
    have he1b : (e1 != 0) = true := by simpa using he1
    have he13 : (e3 == e1) = true := by simp [h3]
    obtain ⟨g0, g1⟩ := box2 EG.out
    obtain ⟨n0, n1, n2, n3⟩ := box4 EN.out
    obtain ⟨q0, q1, q2, q3⟩ := box4 E3.out
    have HSM := Lib.hid (sameL (X := U8) (t := y3) (u := t) L3.out (HP.out.2.2.2.2.1) (Below.refl _ _) BW.out (by rw [h1]; have := HW.out.size; omega))
    rw [← H3.out.2.2.2, ← HP.out.2.2.2.1] at HSM
    have HEQ := Lib.hid (show sameT y3 t = true by rw [h1]; exact sameT_refl t)
    clear h1 h2 h3 he1
    go_wp2_with fail
    refine HSM.out.mono ?_
    rintro e W9 ⟨rfl, hb⟩
    rw [HEQ.out]
    replace EG := Lib.hid ((hb.block _ (lt_of_heap EG.out)).trans EG.out)
    replace EN := Lib.hid ((hb.block _ (lt_of_heap EN.out)).trans EN.out)
    replace E1 := Lib.hid ((hb.block _ (lt_of_heap E1.out)).trans E1.out)
    replace E2 := Lib.hid ((hb.block _ (lt_of_heap E2.out)).trans E2.out)
    replace E3 := Lib.hid ((hb.block _ (lt_of_heap E3.out)).trans E3.out)
    replace LJ := Lib.hid (LJ.out.on hb)
    replace L1 := Lib.hid (L1.out.on hb)
    replace L2 := Lib.hid (L2.out.on hb)
    replace L3 := Lib.hid (L3.out.on hb)
    replace BW := Lib.hid (BW.out.trans (hb.mono BW.out.size))
    clear hb HSM q0 q1 q2 q3
    clear g0 g1 n0 n1 n2 n3
    go_wp2_with fail
    refine (wakes11_any W9).mono ?_
    rintro e WZ ⟨rfl, hbz⟩
    have HZ := Lib.hid (BW.out.trans (hbz.mono BW.out.size))
    clear hbz
    go_wp2_with fail
    go_ret
    exact ⟨rfl, HZ.out⟩
  · by_cases he2 : e2 = 0
    rotate_left
    · have hq := HJN.out.1.2.1 he1 he2
      rw [HJN.out.2] at hq
      simp only [Prod.mk.injEq] at hq
      obtain ⟨h1, h2, h3⟩ := hq
      have he1b : (e1 != 0) = false := by simpa using he1
      have he2b : (e2 != 0) = true := by simpa using he2
      have he13 : (e3 == e2) = true := by simp [h3]
      have hkl : k2 ≤ 70 := by rw [H2.out.2.1]; exact Nat.le_trans (apK_le _ _ _) (by rw [steps_len]; exact HSB.out.1)
      have hna70 : na ≤ 70 := by rw [HA.out.1]; exact HSA.out.1
      have hkw : IntKind.i64.wrap ((na : Int) + (k2 : Int)) = (na : Int) + (k2 : Int) := IntWalk.i64_in _ (by omega)
      have hk3 : (k3 : Int) = (na : Int) + (k2 : Int) := by rw [h2, steps_len, ← HA.out.1]; push_cast; rfl
      have hk3b : ((k3 : Int) == (na : Int) + (k2 : Int)) = true := by rw [hk3]; simp
      clear hk3
      obtain ⟨g0, g1⟩ := box2 EG.out
      obtain ⟨n0, n1, n2, n3⟩ := box4 EN.out
      obtain ⟨q00, q01, q02, q03⟩ := box4 E3.out
      have HSM := Lib.hid (sameL (X := U8) (t := y3) (u := t) L3.out (HP.out.2.2.2.2.1) (Below.refl _ _) BW.out (by rw [h1]; have := HW.out.size; omega))
      rw [← H3.out.2.2.2, ← HP.out.2.2.2.1] at HSM
      have HEQ := Lib.hid (show sameT y3 t = true by rw [h1]; exact sameT_refl t)
      clear h1 h2 h3 he1 he2
      go_wp2_with fail
      refine HSM.out.mono ?_
      rintro e W9 ⟨rfl, hb⟩
      rw [HEQ.out]
      replace EG := Lib.hid ((hb.block _ (lt_of_heap EG.out)).trans EG.out)
      replace EN := Lib.hid ((hb.block _ (lt_of_heap EN.out)).trans EN.out)
      replace E1 := Lib.hid ((hb.block _ (lt_of_heap E1.out)).trans E1.out)
      replace E2 := Lib.hid ((hb.block _ (lt_of_heap E2.out)).trans E2.out)
      replace E3 := Lib.hid ((hb.block _ (lt_of_heap E3.out)).trans E3.out)
      replace LJ := Lib.hid (LJ.out.on hb)
      replace L1 := Lib.hid (L1.out.on hb)
      replace L2 := Lib.hid (L2.out.on hb)
      replace L3 := Lib.hid (L3.out.on hb)
      replace BW := Lib.hid (BW.out.trans (hb.mono BW.out.size))
      clear hb HSM q00 q01 q02 q03
      clear g0 g1 n0 n1 n2 n3
      go_wp2_with fail
      refine (wakes11_any W9).mono ?_
      rintro e WZ ⟨rfl, hbz⟩
      have HZ := Lib.hid (BW.out.trans (hbz.mono BW.out.size))
      clear hbz
      go_wp2_with fail
      go_ret
      exact ⟨rfl, HZ.out⟩
    · have hq := HJN.out.1.2.2 he1 he2
      rw [HJN.out.2] at hq
      simp only [Prod.mk.injEq] at hq
      obtain ⟨h1, h2, h3⟩ := hq
      have HW2 := Lib.hid (show Way y2 by rw [H2.out.1]; exact way_ap HW1.out (fun s hs => by obtain ⟨x, hx, rfl⟩ := List.mem_map.1 hs; exact RB.out.fit x hx))
      have he1b : (e1 != 0) = false := by simpa using he1
      have he2b : (e2 != 0) = false := by simpa using he2
      have he13 : (e3 == 0) = true := by simp [h3]
      have hjl : js.length = pa.length + pb.length := by have := congrArg List.length HJ.out.2.1; rw [steps_len, steps_len, List.length_append] at this; exact this
      have hk3 : (k3 : Int) = (jn : Int) := by rw [h2, steps_len, steps_len, HJ.out.2.2, hjl]
      have hk3b : ((k3 : Int) == (jn : Int)) = true := by rw [hk3]; simp
      clear hk3 hjl
      obtain ⟨g0, g1⟩ := box2 EG.out
      obtain ⟨n0, n1, n2, n3⟩ := box4 EN.out
      obtain ⟨q00, q01, q02, q03⟩ := box4 E2.out
      obtain ⟨q10, q11, q12, q13⟩ := box4 E3.out
      have HSM := Lib.hid (sameL (X := U8) (t := y2) (u := y3) L2.out L3.out (Below.refl _ _) (Below.refl _ _) (by have := HW2.out.size; omega))
      rw [← H2.out.2.2.2, ← H3.out.2.2.2] at HSM
      have HEQ := Lib.hid (show sameT y2 y3 = true by rw [h1]; exact sameT_refl y2)
      clear h1 h2 h3 he1 he2
      go_wp2_with fail
      refine HSM.out.mono ?_
      rintro e W9 ⟨rfl, hb⟩
      rw [HEQ.out]
      replace EG := Lib.hid ((hb.block _ (lt_of_heap EG.out)).trans EG.out)
      replace EN := Lib.hid ((hb.block _ (lt_of_heap EN.out)).trans EN.out)
      replace E1 := Lib.hid ((hb.block _ (lt_of_heap E1.out)).trans E1.out)
      replace E2 := Lib.hid ((hb.block _ (lt_of_heap E2.out)).trans E2.out)
      replace E3 := Lib.hid ((hb.block _ (lt_of_heap E3.out)).trans E3.out)
      replace LJ := Lib.hid (LJ.out.on hb)
      replace L1 := Lib.hid (L1.out.on hb)
      replace L2 := Lib.hid (L2.out.on hb)
      replace L3 := Lib.hid (L3.out.on hb)
      replace BW := Lib.hid (BW.out.trans (hb.mono BW.out.size))
      clear hb HSM q00 q01 q02 q03 q10 q11 q12 q13
      clear g0 g1 n0 n1 n2 n3
      go_wp2_with fail
      refine (wakes11_any W9).mono ?_
      rintro e WZ ⟨rfl, hbz⟩
      have HZ := Lib.hid (BW.out.trans (hbz.mono BW.out.size))
      clear hbz
      go_wp2_with fail
      go_ret
      exact ⟨rfl, HZ.out⟩
end Go.Proofs.Ytonapijgfalpaaa
namespace Go.Proofs.Ytonapijgfalpaaa
open Go.ChangeShapes Go.WideShapes Go.ChangeAt Go.RowKit
open Extern.Stop (cell)

theorem cell_lt {w : World} {a : Addr} {v : Value} (h : w.cell? a = some v) : a.block < w.heap.size := block_lt_of_cell h

theorem add_blockK (a : Addr) (j : Nat) : (a.add j).block = a.block := by unfold Addr.add; split <;> rfl

def foOf : List Tr → Fo
  | [] => .nil
  | t :: l => .node 0 0 (t.id, t.kind, t.text) t.kids (foOf l)
theorem foLen_of : ∀ l : List Tr, foLen (foOf l) = l.length
  | [] => rfl
  | _ :: l => by simp [foOf, foLen, foLen_of l]
theorem foFit_of : ∀ l : List Tr, (∀ t ∈ l, foLen t.kids ≤ 9223372036854775807 ∧ foFit t.kids) → foFit (foOf l)
  | [], _ => True.intro
  | t :: l, h => ⟨(h t (List.mem_cons_self ..)).1, (h t (List.mem_cons_self ..)).2, foFit_of l fun u hu => h u (List.mem_cons_of_mem _ hu)⟩
theorem foAt_of {w : World} {S : Nat → Prop} {b : Nat} (hb : S b) : ∀ (l : List Tr) (off : Nat), (∀ i t, l[i]? = some t → ∃ ka cap, w.cell? ⟨b, off + i * 4, none⟩ = some (.int .i64 t.id) ∧ w.cell? ⟨b, off + i * 4 + 1, none⟩ = some (.int .i64 t.kind) ∧
    w.cell? ⟨b, off + i * 4 + 2, none⟩ = some (.string t.text) ∧ w.cell? ⟨b, off + i * 4 + 3, none⟩ = some (.slice ka (foLen t.kids) cap) ∧ foLen t.kids ≤ cap ∧ FoAt w S t.kids ka) → FoAt w S (foOf l) (some ⟨b, off, none⟩)
  | [], _, _ => True.intro
  | t :: l, off, h => by
    obtain ⟨ka, cap, h0, h1, h2, h3, hcp, hf⟩ := h 0 t rfl
    refine ⟨b, off, ka, cap, rfl, hb, by simpa using h0, by simpa using h1, by simpa using h2, by simpa using h3, hcp, hf, foAt_of hb l (off + 4) fun i u hu => ?_⟩
    obtain ⟨ka, cap, h0, h1, h2, h3, hcp, hf⟩ := h (i + 1) u (by simpa using hu)
    rw [show off + (i + 1) * 4 = off + 4 + i * 4 by omega] at h0 h1 h2 h3
    exact ⟨ka, cap, h0, h1, h2, h3, hcp, hf⟩

def Old (w : World) : Nat → Prop := fun k => k < w.heap.size
def okKey (k : Int × Int × ByteArray) : Prop := (k.2.2.size : Int) ≤ 9223372036854775807 ∧ (Lit.int .i64 k.1).wf = true
def okFo : Fo → Prop
  | .nil => True
  | .node _ _ k l r => okKey k ∧ okFo l ∧ okFo r
theorem okF_of : ∀ (d : Nat) (f : Fo), okFo f → okF (spF d f)
  | _, .nil, _ => fun x hx => by cases hx
  | d, .node _ _ k l r, h => fun x hx => by
    simp only [spF, List.mem_cons, List.mem_append] at hx
    rcases hx with rfl | hx | hx
    · exact h.1
    · exact okF_of (d + 1) l h.2.1 x hx
    · exact okF_of d r h.2.2 x hx
def Fits (t : Tr) : Prop := foLen t.kids ≤ 9223372036854775807 ∧ foFit t.kids ∧ okKey (t.id, t.kind, t.text) ∧ okFo t.kids
theorem okFo_of : ∀ l : List Tr, (∀ t ∈ l, okKey (t.id, t.kind, t.text) ∧ okFo t.kids) → okFo (foOf l)
  | [], _ => True.intro
  | t :: l, h => ⟨(h t (List.mem_cons_self ..)).1, (h t (List.mem_cons_self ..)).2, okFo_of l fun u hu => h u (List.mem_cons_of_mem _ hu)⟩

section
variable {H : Type} {enc : TypeId × Value → H} {w : World} {base : Nat} {spare : Nat → Bool} {held : Bool}

set_option maxRecDepth 100000 in
theorem open_node7 : ∀ (fuel : Nat) (cs : List Value) (x : DataW H × List MemPlace), DataW.trod enc Try.prog w base spare held fuel 24 cs = some x →
    ∃ (t : Tr) (ka : Option Addr) (cap : Nat), cs = [.int .i64 t.id, .int .i64 t.kind, .string t.text, .slice ka (foLen t.kids) cap] ∧ foLen t.kids ≤ cap ∧ FoAt w (Old w) t.kids ka ∧ Fits t := by
  intro fuel
  induction fuel using Nat.strongRecOn with
  | ind fuel ih =>
    intro cs x h
    obtain ⟨xs, n, hn, _, hl, hlen, hf⟩ := DataW.trod_struct Try.underlying24 h
    have h4 : Try.prog.cellsOf 24 = 4 := by kernel_rfl
    rw [h4] at hl
    match cs, hl with
    | [c0, c1, c2, c3], _ =>
      have k1 : Try.prog.cellsOf 3 = 1 := by kernel_rfl
      have k2 : Try.prog.cellsOf 9 = 1 := by kernel_rfl
      have k3 : Try.prog.cellsOf 22 = 1 := by kernel_rfl
      match xs, hlen with
      | [y0, y1, y2, y3], _ =>
        have t0 : DataW.trod enc Try.prog w base spare held n 3 (([c0, c1, c2, c3].drop 0).take (Try.prog.cellsOf 3)) = some y0 := hf 0 _ rfl
        have t1 : DataW.trod enc Try.prog w base spare held n 3 (([c0, c1, c2, c3].drop 1).take (Try.prog.cellsOf 3)) = some y1 := hf 1 _ rfl
        have t2 : DataW.trod enc Try.prog w base spare held n 9 (([c0, c1, c2, c3].drop 2).take (Try.prog.cellsOf 9)) = some y2 := hf 2 _ rfl
        have t3 : DataW.trod enc Try.prog w base spare held n 22 (([c0, c1, c2, c3].drop 3).take (Try.prog.cellsOf 22)) = some y3 := hf 3 _ rfl
        simp only [k1, k2, k3, List.drop_zero, List.take_succ_cons, List.take_zero, List.drop_succ_cons] at t0 t1 t2 t3
        obtain ⟨id, e0, _, wf0⟩ := DataW.trod_int Try.underlying3 t0
        obtain ⟨kd, e1, _, _⟩ := DataW.trod_int Try.underlying3 t1
        obtain ⟨tx, e2, _, hsz⟩ := DataW.trod_string Try.underlying9 t2
        have hkey : okKey (id, kd, tx) := ⟨by show (tx.size : Int) ≤ _; unfold maxLen at hsz; omega, wf0⟩
        simp only [List.cons.injEq, and_true] at e0 e1 e2
        subst e0; subst e1; subst e2
        rcases DataW.trod_slice Try.underlying22 t3 with ⟨e3, _⟩ | ⟨ad, len, cap, elems, rest, m, hm, e3, _, _, hlc, hcm, _, hi, _⟩
        · simp only [List.cons.injEq, and_true] at e3
          subst e3
          exact ⟨⟨id, kd, tx, .nil⟩, none, 0, rfl, Nat.le_refl _, True.intro, Nat.zero_le _, True.intro, hkey, True.intro⟩
        · simp only [List.cons.injEq, and_true] at e3
          subst e3
          rw [h4] at hi
          have each : ∀ i, i < len → ∃ (u : Tr), ∃ (ka : Option Addr) (kcap : Nat), w.cell? (ad.add (i * 4)) = some (.int .i64 u.id) ∧ w.cell? (ad.add (i * 4 + 1)) = some (.int .i64 u.kind) ∧ w.cell? (ad.add (i * 4 + 2)) = some (.string u.text) ∧
              w.cell? (ad.add (i * 4 + 3)) = some (.slice ka (foLen u.kids) kcap) ∧ foLen u.kids ≤ kcap ∧ FoAt w (Old w) u.kids ka ∧ Fits u := fun i hil => by
            have h1 := hi i hil
            obtain ⟨y, hy⟩ : ∃ y, elems[i]? = some y := ⟨elems[i]'(by omega), List.getElem?_eq_getElem _⟩
            rw [hy, Option.bind_eq_some_iff] at h1
            obtain ⟨cs', hc, ht⟩ := h1
            obtain ⟨_, _, hat⟩ := World.cells?_some hc
            obtain ⟨u, ka, kcap, rfl, hcp, hfo, hft⟩ := ih m (by omega) cs' y ht
            have a0 := hat 0 (by omega)
            have a1 := hat 1 (by omega)
            have a2 := hat 2 (by omega)
            have a3 := hat 3 (by omega)
            rw [Deep.add_add] at a0 a1 a2 a3
            exact ⟨u, ka, kcap, a0, a1, a2, a3, hcp, hfo, hft⟩
          obtain ⟨f, hff⟩ := Deep.choose_lt each
          have hls : foLen (foOf ((List.range len).map f)) = len := by rw [foLen_of]; simp
          refine ⟨⟨id, kd, tx, foOf ((List.range len).map f)⟩, some ad, cap, by rw [hls], by rw [hls]; exact hlc, ?_, ?_, ?_, hkey, ?_⟩
          · cases hl0 : len with
            | zero => exact True.intro
            | succ len' =>
              rw [← hl0]
              obtain ⟨b, off, spot⟩ := ad
              obtain ⟨_, _, hz, _⟩ := hff 0 (by omega)
              have hsp : spot = none := by simpa [Addr.add] using World.cell?_spot hz
              subst hsp
              have hlt := cell_lt hz
              rw [add_blockK] at hlt
              refine foAt_of (show Old w b from hlt) _ off fun i u hu => ?_
              rw [List.getElem?_map, Option.map_eq_some_iff] at hu
              obtain ⟨j, hj, rfl⟩ := hu
              obtain ⟨hlt', rfl⟩ := List.getElem?_eq_some_iff.1 hj
              simp only [List.length_range] at hlt'
              simp only [List.getElem_range]
              obtain ⟨ka, kcap, h0, h1, h2, h3, hcp, hfo, _⟩ := hff i hlt'
              rw [Addr.add_mid] at h0 h1 h2 h3
              exact ⟨ka, kcap, h0, by rw [Nat.add_assoc]; exact h1, by rw [Nat.add_assoc]; exact h2, by rw [Nat.add_assoc]; exact h3, hcp, hfo⟩
          · show foLen (foOf ((List.range len).map f)) ≤ _
            rw [hls]; unfold maxLen at hcm; omega
          · refine foFit_of _ fun u hu => ?_
            simp only [List.mem_map, List.mem_range] at hu
            obtain ⟨i, hil, rfl⟩ := hu
            obtain ⟨_, _, _, _, _, _, _, _, hft⟩ := hff i hil
            exact ⟨hft.1, hft.2.1⟩
          · refine okFo_of _ fun u hu => ?_
            simp only [List.mem_map, List.mem_range] at hu
            obtain ⟨i, hil, rfl⟩ := hu
            obtain ⟨_, _, _, _, _, _, _, _, hft⟩ := hff i hil
            exact hft.2.2
set_option maxRecDepth 100000 in
theorem open_step9 (fuel : Nat) (cs : List Value) (x : DataW H × List MemPlace) (h : DataW.trod enc Try.prog w base spare held fuel 47 cs = some x) :
    ∃ (op id par at_ : Int) (tx : ByteArray) (u : Tr) (ka : Option Addr) (cap : Nat), cs = [.int .i8 op, .int .i64 id, .int .i64 par, .int .i64 at_, .string tx, .int .i64 u.id, .int .i64 u.kind, .string u.text, .slice ka (foLen u.kids) cap] ∧ foLen u.kids ≤ cap ∧ FoAt w (Old w) u.kids ka ∧ Fits u ∧ ((Lit.int .i8 op).wf = true ∧ (Lit.int .i64 id).wf = true ∧ (Lit.int .i64 par).wf = true ∧ (Lit.int .i64 at_).wf = true) ∧ (tx.size : Int) ≤ 9223372036854775807 := by
  obtain ⟨xs, n, _, _, hl, hlen, hf⟩ := DataW.trod_struct Try.underlying47 h
  have h9 : Try.prog.cellsOf 47 = 9 := by kernel_rfl
  rw [h9] at hl
  match cs, hl with
  | [c0, c1, c2, c3, c4, c5, c6, c7, c8], _ =>
    have k1 : Try.prog.cellsOf 3 = 1 := by kernel_rfl
    have k2 : Try.prog.cellsOf 9 = 1 := by kernel_rfl
    have k3 : Try.prog.cellsOf 24 = 4 := by kernel_rfl
    have k4 : Try.prog.cellsOf 45 = 1 := by kernel_rfl
    match xs, hlen with
    | [y0, y1, y2, y3, y4, y5], _ =>
      have t0 : DataW.trod enc Try.prog w base spare held n 45 (([c0, c1, c2, c3, c4, c5, c6, c7, c8].drop 0).take (Try.prog.cellsOf 45)) = some y0 := hf 0 _ rfl
      have t1 : DataW.trod enc Try.prog w base spare held n 3 (([c0, c1, c2, c3, c4, c5, c6, c7, c8].drop 1).take (Try.prog.cellsOf 3)) = some y1 := hf 1 _ rfl
      have t2 : DataW.trod enc Try.prog w base spare held n 3 (([c0, c1, c2, c3, c4, c5, c6, c7, c8].drop 2).take (Try.prog.cellsOf 3)) = some y2 := hf 2 _ rfl
      have t3 : DataW.trod enc Try.prog w base spare held n 3 (([c0, c1, c2, c3, c4, c5, c6, c7, c8].drop 3).take (Try.prog.cellsOf 3)) = some y3 := hf 3 _ rfl
      have t4 : DataW.trod enc Try.prog w base spare held n 9 (([c0, c1, c2, c3, c4, c5, c6, c7, c8].drop 4).take (Try.prog.cellsOf 9)) = some y4 := hf 4 _ rfl
      have t5 : DataW.trod enc Try.prog w base spare held n 24 (([c0, c1, c2, c3, c4, c5, c6, c7, c8].drop 5).take (Try.prog.cellsOf 24)) = some y5 := hf 5 _ rfl
      simp only [k1, k2, k3, k4, List.drop_zero, List.take_succ_cons, List.take_zero, List.drop_succ_cons] at t0 t1 t2 t3 t4 t5
      obtain ⟨op, e0, _, b0⟩ := DataW.trod_int Try.underlying45 t0
      obtain ⟨id, e1, _, b1⟩ := DataW.trod_int Try.underlying3 t1
      obtain ⟨pa, e2, _, b2⟩ := DataW.trod_int Try.underlying3 t2
      obtain ⟨pl, e3, _, b3⟩ := DataW.trod_int Try.underlying3 t3
      obtain ⟨tx, e4, _, b4⟩ := DataW.trod_string Try.underlying9 t4
      obtain ⟨u, ka, cap, e5, hcp, hfo, hft⟩ := open_node7 n _ y5 t5
      simp only [List.cons.injEq, and_true] at e0 e1 e2 e3 e4 e5
      obtain ⟨rfl, rfl, rfl, rfl⟩ := e5
      subst e0; subst e1; subst e2; subst e3; subst e4
      exact ⟨op, id, pa, pl, tx, u, ka, cap, rfl, hcp, hfo, hft, ⟨b0, b1, b2, b3⟩, by unfold maxLen at b4; omega⟩
end
end Go.Proofs.Ytonapijgfalpaaa
namespace Go.Proofs.Ytonapijgfalpaaa
open Go.ChangeShapes Go.WideShapes Go.ChangeAt Go.RowKit
open Extern.Stop (cell)
set_option linter.unusedVariables false

section
variable {H : Type} {enc : TypeId × Value → H} {w : World} {base : Nat} {spare : Nat → Bool} {held : Bool}
theorem open_stepsJ (fuel : Nat) (v : Value) (x : DataW H × List MemPlace) (h : DataW.trod enc Try.prog w base spare held fuel 25 [v] = some x) :
    ∃ (vs : List SV) (a : Option Addr) (cap : Nat), v = .slice a vs.length cap ∧ RowC w a vs := by
  rcases Deep.open_slice Try.underlying25 h with ⟨hcs, _⟩ | ⟨ad, len, cap, m, n, D, Pl, hcs, _, hl, hm, hmm, _, hi⟩
  · simp only [List.cons.injEq, and_true] at hcs
    subst hcs
    exact ⟨[], none, 0, rfl, ⟨fun k s hs => by simp at hs, fun x hx => by simp at hx, fun x hx => by simp at hx⟩⟩
  · simp only [List.cons.injEq, and_true] at hcs
    subst hcs
    have h9 : Try.prog.cellsOf 47 = 9 := by kernel_rfl
    have hle : len ≤ m := by rw [hmm]; split <;> omega
    rw [h9] at hi
    have each : ∀ i, i < len → ∃ (y : SV), (∀ j u, (stepC y.s y.a y.c)[j]? = some u → w.cell? (ad.add (i * 9 + j)) = some u) ∧ LiesS w y ∧ StepIn y.s := fun i hil => by
      obtain ⟨cs', hc, ht⟩ := hi i (by omega)
      obtain ⟨_, _, hat⟩ := World.cells?_some hc
      obtain ⟨op, id, par, at_, tx, u, ka, kcap, rfl, hcp, hfo, hft, hw, htx⟩ := open_step9 n cs' _ ht
      refine ⟨⟨⟨op, id, par, at_, tx, u⟩, ka, kcap⟩, fun j u hj => ?_, ⟨hcp, hfo.kept fun q hq => ⟨hq, rfl⟩⟩, ⟨hw.1, hft.1, hft.2.1, okF_of 1 (rootF u) ⟨hft.2.2.1, hft.2.2.2, True.intro⟩, htx⟩⟩
      have hj9 : j < 9 := (List.getElem?_eq_some_iff.1 hj).1
      have := hat j hj9
      rw [Deep.add_add] at this
      exact this.trans hj
    haveI : Inhabited SV := ⟨⟨zeroS, none, 0⟩⟩
    obtain ⟨f, hff⟩ := Deep.choose_lt each
    have hmem : ∀ x ∈ (List.range len).map f, LiesS w x ∧ StepIn x.s := fun x hx => by
      obtain ⟨j, hj, rfl⟩ := List.mem_map.1 hx
      obtain ⟨_, h1, h2⟩ := hff j (List.mem_range.1 hj)
      exact ⟨h1, h2⟩
    refine ⟨(List.range len).map f, some ad, cap, by simp, ⟨fun k s hs => ?_, fun x hx => (hmem x hx).1, fun x hx => (hmem x hx).2⟩⟩
    rw [List.getElem?_map, Option.map_eq_some_iff] at hs
    obtain ⟨j, hj, rfl⟩ := hs
    obtain ⟨hlt', rfl⟩ := List.getElem?_eq_some_iff.1 hj
    simp only [List.length_range] at hlt'
    simp only [List.getElem_range]
    obtain ⟨hz, h1, h2⟩ := hff k hlt'
    obtain ⟨b, off, spot⟩ := ad
    obtain ⟨hz', _, _⟩ := hff 0 (by omega)
    have hz0 := hz' 0 _ rfl
    have hsp : spot = none := by simpa [Addr.add] using World.cell?_spot hz0
    subst hsp
    have hlt := cell_lt hz0
    rw [add_blockK] at hlt
    clear hz0 hz'
    refine ⟨b, off, rfl, hlt, fun j u hj => ?_⟩
    have := hz j u hj
    rw [Addr.add_mid, ← Nat.add_assoc] at this
    exact this
end
structure TreeIn (w : World) (v : Value) (t : Tr) : Prop where
  at_ : TrAt w (Old w) v t
  fit : Fits t
theorem TreeIn.open {w : World} {v : Value} {t : Tr} (h : TreeIn w v t) : ∃ ta tc, v = .agg #[.int .i64 t.id, .int .i64 t.kind, .string t.text, .slice ta (foLen t.kids) tc] ∧ LiesI w t.kids ta tc ∧ foLen t.kids ≤ 9223372036854775807 ∧ foFit t.kids ∧ okF (spF 1 (rootF t)) := by
  obtain ⟨ta, tc, e, h1, h2⟩ := h.at_
  exact ⟨ta, tc, e, ⟨h1, h2.kept fun q hq => ⟨hq, rfl⟩⟩, h.fit.1, h.fit.2.1, okF_of 1 (rootF t) ⟨h.fit.2.2.1, h.fit.2.2.2, True.intro⟩⟩
end Go.Proofs.Ytonapijgfalpaaa
namespace Go.Proofs.Ytonapijgfalpaaa
open Go.RowKit Go.Shelf
set_option linter.unusedVariables false
theorem changesJoin_fr (w : World) (gv : Value) (g : Gr) (nv : Value) (t : Tr) (pa : List SV) (la : Option Addr) (ca : Nat) (pb : List SV) (lb : Option Addr) (cb : Nat) (hg : GrV w gv g) (hfg : g.fits) (ht : TrAt w (Old w) nv t) (hft : Fits t) (ha : RowC w la pa) (hb : RowC w lb pb) :
    Calls Try.prog 15 #[gv, nv, .slice la pa.length ca, .slice lb pb.length cb] w (YesR w) := by
  obtain ⟨ga, gc, rfl, hk⟩ := hg
  obtain ⟨ta, tc, rfl, h1, h2, h3, h4⟩ := TreeIn.open ⟨ht, hft⟩
  exact changesJoin_any w g t ga ta la lb _ gc _ tc _ ca _ cb pa pb rfl ⟨ga, gc, rfl, hk⟩ hfg rfl h1 h2 h3 h4 rfl rfl ha hb
end Go.Proofs.Ytonapijgfalpaaa
