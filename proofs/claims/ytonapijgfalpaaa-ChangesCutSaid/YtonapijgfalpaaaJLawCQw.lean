/-
  .
-/
import Derived.Deep.Cut
import Derived.Deep.RegionHeld
import Derived.Test.YtonapijgfalpaaaJRangeQw
import Derived.Test.YtonapijgfalpaaaJLawJQw
import Derived.Test.YtonapijgfalpaaaJPgQw
namespace Go.Proofs.Ytonapijgfalpaaa
open Go.RowKit Go.Shelf
attribute [local go_sem] Oper.semAt_some
set_option linter.unusedVariables false
set_option linter.unusedSimpArgs false
theorem ap_go {g : Gr} {t : Tr} {l : List Sf} (h : (apK g t l).2.2 = 0) : okSet l = true ∧ goT g t l = some (apK g t l).1 ∧ (apK g t l).2.1 = l.length := by
 unfold apK at h ⊢
 by_cases ho : okSet l = true
 · rw [if_pos ho] at h ⊢
   simp only at h ⊢
   rw [if_pos h]
   exact ⟨ho, foldK_go h⟩
 · rw [if_neg ho] at h
   exact absurd h (by decide)
theorem cut_k (cut : Int) (n : Nat) : ∃ k : Nat, k ≤ n ∧ min (max cut 0) (n : Int) = (k : Int) := ⟨(min (max cut 0) (n : Int)).toNat, by omega, by omega⟩
theorem ap_cut {g : Gr} {t : Tr} {l : List Sf} {y : Tr} (ho : okSet l = true) (h : goT g t l = some y) (k : Nat) (hk : k ≤ l.length) : ∃ x, goT g t (l.take k) = some x ∧ apK g t (l.take k) = (x, k, 0) := by
 obtain ⟨x, hx⟩ := goT_take k h
 refine ⟨x, hx, ?_⟩
 rw [apK, if_pos (okSet_take k ho), foldK_all hx]
 simp only [if_true, List.length_take]
 rw [Nat.min_eq_left hk]
theorem treesK_full {g : Gr} : ∀ {l : List Sf} {t y : Tr}, goT g t l = some y → (treesK g t l).length = l.length
 | [], t, y, h => rfl
 | s :: l, t, y, h => by
   rw [goT] at h
   split at h
   · rename_i h0
     rw [treesK, if_pos h0]
     simp [treesK_full h]
   · cases h
theorem eq_nilFn (BB : Nat) (W : World) : (binOp BinOp.eql 101 (.func (.func 134) #[] #[.pointer (some ⟨BB, 0, none⟩)]) Value.nilFunc).run Try.prog W = .ok (.bool false) W := by kernel_rfl
def CutE (W : World) (WB : Nat) (q : Nat) : Prop := q = WB ∨ q = WB + 1 ∨ (W.heap.size ≤ q ∧ q < W.heap.size + 2)
def CutI (W : World) (WB : Nat) (g : Gr) (t : Tr) (l : List Sf) (k0 k : Nat) (V : World) : Prop := k ≤ k0 ∧ Touched W V (fun q => q = WB ∨ q = WB + 1) ∧ V.heap[WB + 1]? = some (.cells #[.int .i64 (k : Int)] 3 (0, 0)) ∧ ∃ y a c, goT g t (l.take k) = some y ∧ V.heap[WB]? = some (.cells #[.int .i64 y.id, .int .i64 y.kind, .string y.text, .slice a (foLen y.kids) c] 24 (0, 0)) ∧ LiesN V (CutE W WB) y.kids a c
theorem CutI.on {W V V' : World} {WB : Nat} {g : Gr} {t : Tr} {l : List Sf} {k0 k : Nat} (h : CutI W WB g t l k0 k V) (hW : WB + 1 < W.heap.size) (ht : Touched V V' (fun q => q = W.heap.size + 1)) : CutI W WB g t l k0 k V' := by
 obtain ⟨h1, h2, h3, y, a, c, h4, h5, h6⟩ := h
 have hs := h2.size
 exact ⟨h1, ⟨ht.os.trans h2.os, ht.tape.trans h2.tape, ht.output.trans h2.output, Nat.le_trans h2.size ht.size, fun q hq hn => (ht.block q (by omega) (by omega)).trans (h2.block q hq hn)⟩, (ht.block _ (by omega) (by omega)).trans h3, y, a, c, h4, (ht.block _ (by omega) (by omega)).trans h5, h6.1, h6.2.kept fun q hq => ⟨⟨Nat.lt_of_lt_of_le hq.1 ht.size, hq.2⟩, ht.block q hq.1 (fun e => hq.2 (Or.inr (Or.inr ⟨by omega, by omega⟩)))⟩⟩
theorem cut_start {w W : World} {WB : Nat} {g : Gr} {t : Tr} {l : List Sf} {k0 : Nat} {ta : Option Addr} {tc : Nat} (h5 : W.heap[WB]? = some (.cells #[.int .i64 t.id, .int .i64 t.kind, .string t.text, .slice ta (foLen t.kids) tc] 24 (0, 0))) (h3 : W.heap[WB + 1]? = some (.cells #[.int .i64 0] 3 (0, 0))) (ht : LiesI w t.kids ta tc) (hb : Below w.heap.size w W) (hw : w.heap.size ≤ WB) : CutI W WB g t l k0 0 W :=
 ⟨Nat.zero_le _, Touched.refl _ _, h3, t, ta, tc, rfl, h5, LiesI.n ht hb (fun q hq => by have := hb.size; rcases hq with h | h | h <;> omega)⟩
theorem cut_trees {w W X : World} {B BB : Nat} {ba : Option Addr} {bc : Nat} {ts : List Tr} {ys : List Value} (h : TreesAt W (fun q => w.heap.size ≤ q ∧ q < X.heap.size + 3) w.heap.size BB ba bc ts ys) (hB : w.heap.size ≤ B ∧ B + 2 = X.heap.size) (hBB : B + 2 ≤ BB) (hba : ∀ q, blkA ba q → X.heap.size ≤ q) (hs : B + 1 < W.heap.size) : TreesJ W BB ba bc ts (fun q => q < W.heap.size ∧ q ≠ B ∧ q ≠ B + 1) :=
 h.jS (fun q hq => hq.1) (fun q hq hn => by
  refine ⟨hq, ?_⟩
  rcases hn with hn | hn | hn
  · omega
  · have := hba q hn; omega
  · exact ⟨fun e => hn (Or.inl ⟨by omega, by omega⟩), fun e => hn (Or.inl ⟨by omega, by omega⟩)⟩)
theorem cut_keep {W V : World} {WB : Nat} {f : Fo} {a : Option Addr} {c : Nat} (h : LiesN W (fun q => q = WB ∨ q = WB + 1) f a c) (ht : Touched W V (fun q => q = WB ∨ q = WB + 1)) : LiesI V f a c :=
 ⟨h.1, h.2.kept fun q hq => ⟨Nat.lt_of_lt_of_le hq.1 ht.size, ht.block q hq.1 hq.2⟩⟩
set_option maxRecDepth 100000 in
set_option maxHeartbeats 16000000 in
theorem changesCut_any (w : World) (g : Gr) (t : Tr) (ga ta la : Option Addr) (gn gc tn tc n c : Nat) (cut : Int) (vs : List SV) (hgn : gn = g.kinds.length) (hg : GrV w (.agg #[.slice ga g.kinds.length gc, .int .i64 g.root]) g) (hf : g.fits) (htn : tn = foLen t.kids) (ht : LiesI w t.kids ta tc) (hlen : foLen t.kids ≤ 9223372036854775807) (hfit : foFit t.kids) (hok : okF (spF 1 (rootF t))) (hn : n = vs.length) (ha : RowC w la vs) (hnc : n ≤ c ∧ (la = none → c = 0)) :
 Calls Try.prog 16 #[.agg #[.slice ga gn gc, .int .i64 g.root], .agg #[.int .i64 t.id, .int .i64 t.kind, .string t.text, .slice ta tn tc], .slice la n c, .int .i64 cut] w (YesR w) := by
 obtain ⟨B, hB⟩ : ∃ B, B = allocs w [.cells #[.slice ga gn gc, .int .i64 g.root] 55, .cells #[.int .i64 t.id, .int .i64 t.kind, .string t.text, .slice ta tn tc] 24] := ⟨_, rfl⟩
 have BW := Lib.hid (show Below w.heap.size w B by rw [hB]; exact allocs_below _ _)
 have EG := Lib.hid (show B.heap[w.heap.size]? = some (.cells #[.slice ga gn gc, .int .i64 g.root] 55 (0, 0)) by rw [hB]; exact allocs_at _ _ 0 _ rfl)
 have EN := Lib.hid (show B.heap[w.heap.size + 1]? = some (.cells #[.int .i64 t.id, .int .i64 t.kind, .string t.text, .slice ta tn tc] 24 (0, 0)) by rw [hB]; exact allocs_at _ _ 1 _ rfl)
 have HBE := Lib.hid hB
 have HP := Lib.hid (And.intro hgn (And.intro hg (And.intro hf (And.intro htn (And.intro ht (And.intro hlen (And.intro hfit hok)))))))
 have HA := Lib.hid (And.intro hn (And.intro True.intro ha))
 have HNC := Lib.hid hnc
 clear hnc
 clear hB hgn hg hf htn ht hlen hfit hok hn ha
 refine (callsIn_wide (n := 8)).1 ?_
 refine callsIn_of_wp_marks Try.func16 rfl trivial ?_ rfl
 simp only [Try.ntmps16, List.size_toArray, List.length_cons, List.length_nil, Nat.reduceAdd, Nat.reduceSub, Array.replicate_succ, Array.replicate_zero, List.push_toArray, List.append_toArray, List.nil_append, List.cons_append]
 gi_wp2
 refine ⟨trivial, ?_⟩
 change CallsIn _ _ _ _ _ (allocs w [.cells #[.slice ga gn gc, .int .i64 g.root] 55, .cells #[.int .i64 t.id, .int .i64 t.kind, .string t.text, .slice ta tn tc] 24]) _
 rw [← HBE.out]
 clear HBE
 refine (callsIn_wide.2 (great_anyV B _ g (by rw [HP.out.1]; exact HP.out.2.1.below BW.out) HP.out.2.2.1)).mono ?_
 rintro e W1 ⟨rfl, hb⟩
 replace EG := Lib.hid ((hb.block _ (lt_of_heap EG.out)).trans EG.out)
 replace EN := Lib.hid ((hb.block _ (lt_of_heap EN.out)).trans EN.out)
 replace BW := Lib.hid (BW.out.trans (hb.mono BW.out.size))
 clear hb
 cases hgg : greatG g
 rotate_left
 · clear hgg
   gi_wp2
   refine ⟨trivial, ?_⟩
   rename_i K hK
   refine hK _ _ ?_
   clear hK
   gi_wp2
   refine ⟨trivial, ?_⟩
   rename_i K hK
   refine hK _ _ ?_
   clear hK
   gi_wp2
   refine ⟨trivial, ?_⟩
   refine (callsIn_wide.2 (wakes11_any W1)).mono ?_
   rintro e WZ ⟨rfl, hbz⟩
   have HZ := Lib.hid (BW.out.trans (hbz.mono BW.out.size))
   clear hbz
   gi_wp2
   exact ⟨_, results_tmp rfl _ _ _, rfl, HZ.out⟩
 have HGF := Lib.hid (great_fewJ hgg).1
 clear hgg
 obtain ⟨g0, g1⟩ := box2 EG.out
 obtain ⟨n0, n1, n2, n3⟩ := box4 EN.out
 gi_wp2
 refine ⟨trivial, ?_⟩
 refine (callsIn_wide.2 (great3_any W1 _ _ t HP.out.2.2.2.2.2.1 HP.out.2.2.2.2.2.2.1 (fun q hq => Nat.lt_of_lt_of_le hq BW.out.size) (by rw [HP.out.2.2.2.1]; exact HP.out.2.2.2.2.1.at BW.out))).mono ?_
 rintro e W2 ⟨b2, rfl, h2, hb⟩
 replace EG := Lib.hid ((hb.block _ (lt_of_heap EG.out)).trans EG.out)
 replace EN := Lib.hid ((hb.block _ (lt_of_heap EN.out)).trans EN.out)
 replace BW := Lib.hid (BW.out.trans (hb.mono BW.out.size))
 clear hb
 clear g0 g1 n0 n1 n2 n3
 cases b2
 rotate_left
 · clear h2
   gi_wp2
   refine ⟨trivial, ?_⟩
   rename_i K hK
   refine hK _ _ ?_
   clear hK
   gi_wp2
   refine ⟨trivial, ?_⟩
   refine (callsIn_wide.2 (wakes11_any W2)).mono ?_
   rintro e WZ ⟨rfl, hbz⟩
   have HZ := Lib.hid (BW.out.trans (hbz.mono BW.out.size))
   clear hbz
   gi_wp2
   exact ⟨_, results_tmp rfl _ _ _, rfl, HZ.out⟩
 have HW := Lib.hid (show Way t from ⟨h2 rfl, HP.out.2.2.2.2.2.2.2⟩)
 clear h2
 obtain ⟨g0, g1⟩ := box2 EG.out
 obtain ⟨n0, n1, n2, n3⟩ := box4 EN.out
 gi_wp2
 refine ⟨trivial, ?_⟩
 refine (callsIn_wide.2 (greatSS_any W2 la n c vs HA.out.1 (HA.out.2.2.on BW.out))).mono ?_
 rintro e W3 ⟨b3, rfl, h3, hb⟩
 replace EG := Lib.hid ((hb.block _ (lt_of_heap EG.out)).trans EG.out)
 replace EN := Lib.hid ((hb.block _ (lt_of_heap EN.out)).trans EN.out)
 replace BW := Lib.hid (BW.out.trans (hb.mono BW.out.size))
 clear hb
 clear g0 g1 n0 n1 n2 n3
 cases b3
 rotate_left
 · clear h3
   gi_wp2
   refine ⟨trivial, ?_⟩
   refine (callsIn_wide.2 (wakes11_any W3)).mono ?_
   rintro e WZ ⟨rfl, hbz⟩
   have HZ := Lib.hid (BW.out.trans (hbz.mono BW.out.size))
   clear hbz
   gi_wp2
   exact ⟨_, results_tmp rfl _ _ _, rfl, HZ.out⟩
 have RA := Lib.hid (HA.out.2.2.row (h3 rfl))
 have HSA := Lib.hid (h3 rfl)
 clear h3
 obtain ⟨g0, g1⟩ := box2 EG.out
 obtain ⟨n0, n1, n2, n3⟩ := box4 EN.out
 gi_wp2
 refine ⟨trivial, ?_⟩
 refine (callsIn_wide.2 (Apply_any W3 g t ga ta la gn gc tn tc n c vs HP.out.1 (fun Y hY => HP.out.2.1.below (BW.out.trans (hY.mono BW.out.size))) HGF.out HP.out.2.2.2.1 (HP.out.2.2.2.2.1.on BW.out) HW.out HA.out.1 (RA.out.on BW.out))).mono ?_
 rintro e W4 ⟨ya, yc, rfl, hl, hb⟩
 replace EG := Lib.hid ((hb.block _ (lt_of_heap EG.out)).trans EG.out)
 replace EN := Lib.hid ((hb.block _ (lt_of_heap EN.out)).trans EN.out)
 replace BW := Lib.hid (BW.out.trans (hb.mono BW.out.size))
 clear hb
 clear g0 g1 n0 n1 n2 n3
 obtain ⟨y1, hy1⟩ : ∃ y1, y1 = (apK g t (steps vs)).1 := ⟨_, rfl⟩
 obtain ⟨k1, hk1⟩ : ∃ k1, k1 = (apK g t (steps vs)).2.1 := ⟨_, rfl⟩
 obtain ⟨e1, he1⟩ : ∃ e1, e1 = (apK g t (steps vs)).2.2 := ⟨_, rfl⟩
 rw [← hy1, ← hk1, ← he1]
 obtain ⟨y1n, hy1n⟩ : ∃ y1n, y1n = foLen y1.kids := ⟨_, rfl⟩
 rw [← hy1n]
 have HE1 := Lib.hid he1
 clear hl hy1 hk1 he1 hy1n
 by_cases h0 : e1 = 0
 rotate_left
 · have h0b : (e1 != 0) = true := by simpa using h0
   clear h0
   gi_wp2
   refine ⟨trivial, ?_⟩
   obtain ⟨W5, hW5⟩ : ∃ W5, W5 = W4.alloc (.cells #[.int .i64 y1.id, .int .i64 y1.kind, .string y1.text, .slice ya y1n yc] 24) := ⟨_, rfl⟩
   change CallsIn _ _ _ _ _ (W4.alloc (.cells #[.int .i64 y1.id, .int .i64 y1.kind, .string y1.text, .slice ya y1n yc] 24)) _
   have hb : Below W4.heap.size W4 W5 := by rw [hW5]; exact box_below _ _
   rw [← hW5]
   replace EG := Lib.hid ((hb.block _ (lt_of_heap EG.out)).trans EG.out)
   replace EN := Lib.hid ((hb.block _ (lt_of_heap EN.out)).trans EN.out)
   replace BW := Lib.hid (BW.out.trans (hb.mono BW.out.size))
   clear hb hW5 h0b
   refine (callsIn_wide.2 (wakes11_any W5)).mono ?_
   rintro e WZ ⟨rfl, hbz⟩
   have HZ := Lib.hid (BW.out.trans (hbz.mono BW.out.size))
   clear hbz
   gi_wp2
   exact ⟨_, results_tmp rfl _ _ _, rfl, HZ.out⟩
 have h0b : (e1 != 0) = false := by simpa using h0
 have HGO := Lib.hid (ap_go (by rw [← HE1.out]; exact h0))
 obtain ⟨k, hkn, hk⟩ := cut_k cut n
 have HMM := Lib.hid hk
 clear hk h0
 obtain ⟨W5, hW5⟩ : ∃ W5, W5 = allocs W4 [.cells #[.int .i64 y1.id, .int .i64 y1.kind, .string y1.text, .slice ya y1n yc] 24, .cells #[.int .i64 (k : Int)] 3] := ⟨_, rfl⟩
 have hb : Below W4.heap.size W4 W5 := by rw [hW5]; exact allocs_below _ _
 have ek : W5.heap[W4.heap.size + 1]? = some (.cells #[.int .i64 (k : Int)] 3 (0, 0)) := by rw [hW5]; exact allocs_at _ _ 1 _ rfl
 have HU := Lib.hid hW5
 have HKN := Lib.hid hkn
 have hn7 : n ≤ 70 := by rw [HA.out.1]; exact HSA.out.1
 gi_wp2
 rw [HMM.out]
 change Code.wpIn _ _ _ _ _ _ (allocs W4 [.cells #[.int .i64 y1.id, .int .i64 y1.kind, .string y1.text, .slice ya y1n yc] 24, .cells #[.int .i64 (k : Int)] 3])
 rw [← HU.out]
 obtain ⟨KB, hKB⟩ : ∃ KB, KB = W4.heap.size + 1 := ⟨_, rfl⟩
 rw [← hKB] at ek ⊢
 replace EG := Lib.hid ((hb.block _ (lt_of_heap EG.out)).trans EG.out)
 replace EN := Lib.hid ((hb.block _ (lt_of_heap EN.out)).trans EN.out)
 replace BW := Lib.hid (BW.out.trans (hb.mono BW.out.size))
 have EK := Lib.hid ek
 skip
 clear hb hkn HU ek h0b hKB hW5
 have hct := ap_cut HGO.out.1 HGO.out.2.1 k (by rw [steps_len, ← HA.out.1]; exact HKN.out)
 obtain ⟨x, hgx, hax⟩ := hct
 have HGX := Lib.hid hgx
 have HKL := Lib.hid (And.intro (show k = (vs.take k).length by rw [List.length_take]; have := HKN.out; have := HA.out.1; omega) (And.intro (show steps (vs.take k) = (steps vs).take k from List.map_take ..) hax))
 clear hgx hax
 have HKC := Lib.hid (show (k : Int) ≤ (c : Int) ∧ (la = none → c = 0 ∧ k = 0) from ⟨by have := HNC.out.1; have := HKN.out; omega, fun e => by have := HNC.out.2 e; have := HNC.out.1; have := HKN.out; omega⟩)
 skip
 obtain ⟨D5, hD5⟩ : ∃ D5, D5 = W5.drew := ⟨_, rfl⟩
 have hb : Below W5.heap.size W5 D5 := by rw [hD5]; exact below_drewN (Below.refl _ _) 1
 replace EG := Lib.hid ((hb.block _ (lt_of_heap EG.out)).trans EG.out)
 replace EN := Lib.hid ((hb.block _ (lt_of_heap EN.out)).trans EN.out)
 replace EK := Lib.hid ((hb.block _ (lt_of_heap EK.out)).trans EK.out)
 replace BW := Lib.hid (BW.out.trans (hb.mono BW.out.size))
 clear hb
 refine wpIn_wide.2 (wp_calm ?_)
 refine wp_region_held_drew (S := fun X => X.heap[w.heap.size]? = some (.cells #[.slice ga gn gc, .int .i64 g.root] 55 (0, 0)) ∧ X.heap[w.heap.size + 1]? = some (.cells #[.int .i64 t.id, .int .i64 t.kind, .string t.text, .slice ta tn tc] 24 (0, 0)) ∧ X.heap[KB]? = some (.cells #[.int .i64 (k : Int)] 3 (0, 0))) (by kernel_rfl) (by rw [← hD5]; exact ⟨EG.out, EN.out, EK.out⟩) (fun hHeld => ?_)
 rw [← hD5] at hHeld ⊢
 clear hD5
 refine wpAnyH_take (i := 0) (oi := _) (v := .agg #[.slice ga gn gc, .int .i64 g.root]) rfl (by kernel_rfl) (by kernel_rfl) (by kernel_rfl) (fun _ _ _ h => by cases h.1) (Or.inl ⟨by rfl, ?_⟩) (by assumption) ?_
 · clear hHeld; intro X hSw; obtain ⟨g0, g1⟩ := box2 hSw.1; clear hSw; go_simp
 simp only [Act.put, pg]
 refine wpAnyH_take (i := 1) (oi := _) (v := .agg #[.int .i64 t.id, .int .i64 t.kind, .string t.text, .slice ta tn tc]) rfl (by kernel_rfl) (by kernel_rfl) (by kernel_rfl) (fun _ _ _ h => by cases h.1) (Or.inl ⟨by rfl, ?_⟩) (by assumption) ?_
 · clear hHeld; intro X hSw; obtain ⟨n0, n1, n2, n3⟩ := box4 hSw.2.1; clear hSw; go_simp
 simp only [Act.put, pg]
 refine wpAnyH_take (i := 2) (oi := _) (v := .slice la n c) rfl (by kernel_rfl) (by kernel_rfl) (by kernel_rfl) (fun _ _ _ h => by cases h.1) (Or.inl ⟨by rfl, ?_⟩) (by assumption) ?_
 · clear hHeld; intro X hSw; clear hSw; go_simp
 simp only [Act.put, pg]
 refine wpAnyH_take (i := 3) (oi := _) (v := .int .i64 (k : Int)) rfl (by kernel_rfl) (by kernel_rfl) (by kernel_rfl) (fun _ _ _ h => by cases h.1) (Or.inl ⟨by rfl, ?_⟩) (by assumption) ?_
 · clear hHeld; intro X hSw; have q0 : X.cell? ⟨KB, 0, none⟩ = some (.int .i64 (k : Int)) := (by rw [cell_of_row _ _ 0 _ _ _ hSw.2.2]; rfl); clear hSw; go_simp
 simp only [Act.put, pg]
 refine wpAnyH_take (i := 4) (oi := _) (v := .slice la k c) rfl (by kernel_rfl) (by kernel_rfl) (by kernel_rfl) (fun _ _ _ h => by cases h.1) (Or.inl ⟨by rfl, ?_⟩) (by assumption) ?_
 · clear hHeld; intro X hSw; have q0 := HKC.out.1; have q1 := HKC.out.2; clear hSw; rcases la with _ | la <;> first | (obtain ⟨rfl, rfl⟩ := q1 rfl; go_simp) | go_simp
 simp only [Act.put, pg]
 refine wpAnyH_ready (rs := [5, 10]) (by kernel_rfl) (by simp) ?_
 refine AllReadyH.cons (o := _) rfl (fun K hK => ?_) (AllReadyH.cons (o := _) rfl (fun K hK => ?_) (AllReadyH.nil))
 focus
  rw [if_pos (by rfl)]
  simp only [pg3]
  have HK := Lib.hid hK
  have HS := Lib.hid hHeld
  clear hK hHeld
  have hap := ApplyY_any w D5 g t ga ta la gn gc tn tc k c (vs.take k) BW.out HP.out.1 (fun Y hY => HP.out.2.1.below hY) HGF.out HP.out.2.2.2.1 HP.out.2.2.2.2.1 HW.out HKL.out.1 (RA.out.take k)
  rw [HKL.out.2.1, HKL.out.2.2] at hap
  have HAP := Lib.hid hap
  clear hap
  go_wp2_with (go_at_call 83; refine HAP.out.mono ?_; rintro e W6 ⟨xa, xc, rfl, hl, hb⟩)
  replace EG := Lib.hid ((hb.block _ (lt_of_heap EG.out)).trans EG.out)
  replace EN := Lib.hid ((hb.block _ (lt_of_heap EN.out)).trans EN.out)
  replace EK := Lib.hid ((hb.block _ (lt_of_heap EK.out)).trans EK.out)
  replace BW := Lib.hid (BW.out.trans (hb.mono BW.out.size))
  obtain ⟨xn, hxn⟩ : ∃ xn, xn = foLen x.kids := ⟨_, rfl⟩
  try simp only at hl ⊢
  rw [← hxn]
  have HXN := Lib.hid hxn
  have LX := Lib.hid hl.i
  refine HK.out _ _ ⟨EG.out, EN.out, EK.out⟩ (fun hHeld => ?_)
  clear HK HS HAP hl hb hxn
  refine wpAnyH_take (i := 6) (oi := _) (v := .tuple #[.agg #[.int .i64 x.id, .int .i64 x.kind, .string x.text, .slice xa xn xc], .int .i64 (k : Int), .int .i64 0]) rfl (by kernel_rfl) (by kernel_rfl) (by kernel_rfl) (fun _ _ _ h => by cases h.1) (Or.inl ⟨by rfl, ?_⟩) (by assumption) ?_
  · clear hHeld; intro X hSw; clear hSw; go_simp
  simp only [Act.put, pg]
  refine wpAnyH_take (i := 7) (oi := _) (v := .agg #[.int .i64 x.id, .int .i64 x.kind, .string x.text, .slice xa xn xc]) rfl (by kernel_rfl) (by kernel_rfl) (by kernel_rfl) (fun _ _ _ h => by cases h.1) (Or.inl ⟨by rfl, ?_⟩) (by assumption) ?_
  · clear hHeld; intro X hSw; clear hSw; go_simp
  simp only [Act.put, pg]
  refine wpAnyH_take (i := 8) (oi := _) (v := .int .i64 (k : Int)) rfl (by kernel_rfl) (by kernel_rfl) (by kernel_rfl) (fun _ _ _ h => by cases h.1) (Or.inl ⟨by rfl, ?_⟩) (by assumption) ?_
  · clear hHeld; intro X hSw; clear hSw; go_simp
  simp only [Act.put, pg]
  refine wpAnyH_take (i := 9) (oi := _) (v := .int .i64 0) rfl (by kernel_rfl) (by kernel_rfl) (by kernel_rfl) (fun _ _ _ h => by cases h.1) (Or.inl ⟨by rfl, ?_⟩) (by assumption) ?_
  · clear hHeld; intro X hSw; clear hSw; go_simp
  simp only [Act.put, pg]
  refine wpAnyH_ready (rs := [10]) (by kernel_rfl) (by simp) ?_
  refine AllReadyH.cons (o := _) rfl (fun K hK => ?_) (AllReadyH.nil)
  rw [if_pos (by rfl)]
  simp only [pg3]
  have HK := Lib.hid hK
  have HS := Lib.hid hHeld
  clear hK hHeld
  go_wp2_with fail
  obtain ⟨W7, hnx⟩ : ∃ nx, nx = (World.alloc W6 (.cells #[.int .i64 0, .int .i64 0, .string ⟨#[]⟩, .slice none 0 0] 24)) := ⟨_, rfl⟩
  rw [← hnx]
  have hb : Below W6.heap.size W6 W7 := by rw [hnx]; exact box_below _ _
  have hne : W7.heap[W6.heap.size]? = some (.cells #[.int .i64 0, .int .i64 0, .string ⟨#[]⟩, .slice none 0 0] 24 (0, 0)) := by rw [hnx]; exact heap_alloc_new W6 _
  have hlt : w.heap.size < W6.heap.size ∧ w.heap.size + 1 < W6.heap.size ∧ KB < W6.heap.size := ⟨lt_of_heap EG.out, lt_of_heap EN.out, lt_of_heap EK.out⟩
  replace EG := Lib.hid ((hb.block _ (lt_of_heap EG.out)).trans EG.out)
  replace EN := Lib.hid ((hb.block _ (lt_of_heap EN.out)).trans EN.out)
  replace EK := Lib.hid ((hb.block _ (lt_of_heap EK.out)).trans EK.out)
  replace BW := Lib.hid (BW.out.trans (hb.mono BW.out.size))
  obtain ⟨ZB, hblk⟩ : ∃ ZB, ZB = W6.heap.size := ⟨_, rfl⟩
  rw [← hblk] at hne hlt ⊢
  have EZ := Lib.hid hne
  have HZL := Lib.hid hlt
  have LZ := Lib.hid (LiesI.n (E := fun q => q = ZB) LX.out hb (fun q hq => by rw [hq, hblk]; exact Nat.le_refl _)); clear LX
  refine HK.out _ _ ⟨EG.out, EN.out, EK.out⟩ (fun hHeld => ?_)
  clear HK HS hnx hb hne hlt hblk
  refine wpAnyH_ready (rs := [11]) (by kernel_rfl) (by simp) ?_
  refine AllReadyH.cons (o := _) rfl (fun K hK => ?_) (AllReadyH.nil)
  rw [if_pos (by rfl)]
  simp only [pg3]
  have HK := Lib.hid hK
  have HS := Lib.hid hHeld
  clear hK hHeld
  obtain ⟨z0, z1, z2, z3⟩ := box4 EZ.out
  have zf : ∀ j, W7.frozen? ⟨ZB, j, none⟩ = false := fun j => frozen_of_row _ _ j _ _ EZ.out
  obtain ⟨V, hV, s1, s2, s3, s4, s5, s6⟩ := four_set (u0 := .int .i64 x.id) (u1 := .int .i64 x.kind) (u2 := .string x.text) (u3 := .slice xa xn xc) EZ.out
  have hlz := HZL.out
  replace EG := Lib.hid ((s2 _ (by omega)).trans EG.out)
  replace EN := Lib.hid ((s2 _ (by omega)).trans EN.out)
  replace EK := Lib.hid ((s2 _ (by omega)).trans EK.out)
  replace EZ := Lib.hid s1
  replace BW := Lib.hid (show Below w.heap.size w V from ⟨s3.trans BW.out.os, s4.trans BW.out.tape, s5.trans BW.out.output, by rw [s6]; exact BW.out.size, fun y hy => (s2 y (by omega)).trans (BW.out.block y hy)⟩)
  have HV := Lib.hid hV
  have LX := Lib.hid (show LiesI V x.kids xa xc from ⟨LZ.out.1, LZ.out.2.kept fun q hq => ⟨by rw [s6]; exact hq.1, s2 q (fun e => hq.2 e)⟩⟩)
  clear LZ
  clear hV s1 s3 s4 s5 hlz
  go_wp2_with fail
  rw [← HV.out]
  refine HK.out _ _ ⟨EG.out, EN.out, EK.out⟩ (fun hHeld => ?_)
  clear HK HS z0 z1 z2 z3 zf
  refine wpAnyH_take (i := 12) (oi := _) (v := .int .i64 (k : Int)) rfl (by kernel_rfl) (by kernel_rfl) (by kernel_rfl) (fun _ _ _ h => by cases h.1) (Or.inl ⟨by rfl, ?_⟩) (by assumption) ?_
  · clear hHeld; intro X hSw; clear hSw; go_simp
  simp only [Act.put, pg]
  refine wpAnyH_take (i := 13) (oi := _) (v := .int .i64 0) rfl (by kernel_rfl) (by kernel_rfl) (by kernel_rfl) (fun _ _ _ h => by cases h.1) (Or.inl ⟨by rfl, ?_⟩) (by assumption) ?_
  · clear hHeld; intro X hSw; clear hSw; go_simp
  simp only [Act.put, pg]
  refine wpAnyH_done (by kernel_rfl) ⟨rfl, ?_⟩ _
  clear hHeld
 rotate_left
 focus
  rw [if_pos (by rfl)]
  simp only [pg3]
  have HK := Lib.hid hK
  have HS := Lib.hid hHeld
  clear hK hHeld
  go_wp2_with fail
  obtain ⟨W6, hnx⟩ : ∃ nx, nx = (World.alloc D5 (.cells #[.int .i64 0, .int .i64 0, .string ⟨#[]⟩, .slice none 0 0] 24)) := ⟨_, rfl⟩
  rw [← hnx]
  have hb : Below D5.heap.size D5 W6 := by rw [hnx]; exact box_below _ _
  have hne : W6.heap[D5.heap.size]? = some (.cells #[.int .i64 0, .int .i64 0, .string ⟨#[]⟩, .slice none 0 0] 24 (0, 0)) := by rw [hnx]; exact heap_alloc_new D5 _
  have hlt : w.heap.size < D5.heap.size ∧ w.heap.size + 1 < D5.heap.size ∧ KB < D5.heap.size := ⟨lt_of_heap EG.out, lt_of_heap EN.out, lt_of_heap EK.out⟩
  replace EG := Lib.hid ((hb.block _ (lt_of_heap EG.out)).trans EG.out)
  replace EN := Lib.hid ((hb.block _ (lt_of_heap EN.out)).trans EN.out)
  replace EK := Lib.hid ((hb.block _ (lt_of_heap EK.out)).trans EK.out)
  replace BW := Lib.hid (BW.out.trans (hb.mono BW.out.size))
  obtain ⟨ZB, hblk⟩ : ∃ ZB, ZB = D5.heap.size := ⟨_, rfl⟩
  rw [← hblk] at hne hlt ⊢
  have EZ := Lib.hid hne
  have HZL := Lib.hid hlt
  refine HK.out _ _ ⟨EG.out, EN.out, EK.out⟩ (fun hHeld => ?_)
  clear HK HS hnx hb hne hlt hblk
  refine wpAnyH_ready (rs := [5]) (by kernel_rfl) (by simp) ?_
  refine AllReadyH.cons (o := _) rfl (fun K hK => ?_) (AllReadyH.nil)
  rw [if_pos (by rfl)]
  simp only [pg3]
  have HK := Lib.hid hK
  have HS := Lib.hid hHeld
  clear hK hHeld
  have hap := ApplyY_any w W6 g t ga ta la gn gc tn tc k c (vs.take k) BW.out HP.out.1 (fun Y hY => HP.out.2.1.below hY) HGF.out HP.out.2.2.2.1 HP.out.2.2.2.2.1 HW.out HKL.out.1 (RA.out.take k)
  rw [HKL.out.2.1, HKL.out.2.2] at hap
  have HAP := Lib.hid hap
  clear hap
  have hzs := lt_of_heap EZ.out
  go_wp2_with (go_at_call 83; refine HAP.out.mono ?_; rintro e W7 ⟨xa, xc, rfl, hl, hb⟩)
  replace EG := Lib.hid ((hb.block _ (lt_of_heap EG.out)).trans EG.out)
  replace EN := Lib.hid ((hb.block _ (lt_of_heap EN.out)).trans EN.out)
  replace EK := Lib.hid ((hb.block _ (lt_of_heap EK.out)).trans EK.out)
  replace EZ := Lib.hid ((hb.block _ (lt_of_heap EZ.out)).trans EZ.out)
  replace BW := Lib.hid (BW.out.trans (hb.mono BW.out.size))
  obtain ⟨xn, hxn⟩ : ∃ xn, xn = foLen x.kids := ⟨_, rfl⟩
  try simp only at hl ⊢
  rw [← hxn]
  have HXN := Lib.hid hxn
  have LZ := Lib.hid (LiesN.weak (E := fun q => q = ZB) hl (fun q hq => by subst hq; exact ⟨by have := HZL.out; omega, hzs⟩)); clear hzs
  refine HK.out _ _ ⟨EG.out, EN.out, EK.out⟩ (fun hHeld => ?_)
  clear HK HS HAP hl hb hxn
  refine wpAnyH_take (i := 6) (oi := _) (v := .tuple #[.agg #[.int .i64 x.id, .int .i64 x.kind, .string x.text, .slice xa xn xc], .int .i64 (k : Int), .int .i64 0]) rfl (by kernel_rfl) (by kernel_rfl) (by kernel_rfl) (fun _ _ _ h => by cases h.1) (Or.inl ⟨by rfl, ?_⟩) (by assumption) ?_
  · clear hHeld; intro X hSw; clear hSw; go_simp
  simp only [Act.put, pg]
  refine wpAnyH_take (i := 7) (oi := _) (v := .agg #[.int .i64 x.id, .int .i64 x.kind, .string x.text, .slice xa xn xc]) rfl (by kernel_rfl) (by kernel_rfl) (by kernel_rfl) (fun _ _ _ h => by cases h.1) (Or.inl ⟨by rfl, ?_⟩) (by assumption) ?_
  · clear hHeld; intro X hSw; clear hSw; go_simp
  simp only [Act.put, pg]
  refine wpAnyH_take (i := 8) (oi := _) (v := .int .i64 (k : Int)) rfl (by kernel_rfl) (by kernel_rfl) (by kernel_rfl) (fun _ _ _ h => by cases h.1) (Or.inl ⟨by rfl, ?_⟩) (by assumption) ?_
  · clear hHeld; intro X hSw; clear hSw; go_simp
  simp only [Act.put, pg]
  refine wpAnyH_take (i := 9) (oi := _) (v := .int .i64 0) rfl (by kernel_rfl) (by kernel_rfl) (by kernel_rfl) (fun _ _ _ h => by cases h.1) (Or.inl ⟨by rfl, ?_⟩) (by assumption) ?_
  · clear hHeld; intro X hSw; clear hSw; go_simp
  simp only [Act.put, pg]
  refine wpAnyH_ready (rs := [11]) (by kernel_rfl) (by simp) ?_
  refine AllReadyH.cons (o := _) rfl (fun K hK => ?_) (AllReadyH.nil)
  rw [if_pos (by rfl)]
  simp only [pg3]
  have HK := Lib.hid hK
  have HS := Lib.hid hHeld
  clear hK hHeld
  obtain ⟨z0, z1, z2, z3⟩ := box4 EZ.out
  have zf : ∀ j, W7.frozen? ⟨ZB, j, none⟩ = false := fun j => frozen_of_row _ _ j _ _ EZ.out
  obtain ⟨V, hV, s1, s2, s3, s4, s5, s6⟩ := four_set (u0 := .int .i64 x.id) (u1 := .int .i64 x.kind) (u2 := .string x.text) (u3 := .slice xa xn xc) EZ.out
  have hlz := HZL.out
  replace EG := Lib.hid ((s2 _ (by omega)).trans EG.out)
  replace EN := Lib.hid ((s2 _ (by omega)).trans EN.out)
  replace EK := Lib.hid ((s2 _ (by omega)).trans EK.out)
  replace EZ := Lib.hid s1
  replace BW := Lib.hid (show Below w.heap.size w V from ⟨s3.trans BW.out.os, s4.trans BW.out.tape, s5.trans BW.out.output, by rw [s6]; exact BW.out.size, fun y hy => (s2 y (by omega)).trans (BW.out.block y hy)⟩)
  have HV := Lib.hid hV
  have LX := Lib.hid (show LiesI V x.kids xa xc from ⟨LZ.out.1, LZ.out.2.kept fun q hq => ⟨by rw [s6]; exact hq.1, s2 q (fun e => hq.2 e)⟩⟩)
  clear LZ
  clear hV s1 s3 s4 s5 hlz
  go_wp2_with fail
  rw [← HV.out]
  refine HK.out _ _ ⟨EG.out, EN.out, EK.out⟩ (fun hHeld => ?_)
  clear HK HS z0 z1 z2 z3 zf
  refine wpAnyH_take (i := 12) (oi := _) (v := .int .i64 (k : Int)) rfl (by kernel_rfl) (by kernel_rfl) (by kernel_rfl) (fun _ _ _ h => by cases h.1) (Or.inl ⟨by rfl, ?_⟩) (by assumption) ?_
  · clear hHeld; intro X hSw; clear hSw; go_simp
  simp only [Act.put, pg]
  refine wpAnyH_take (i := 13) (oi := _) (v := .int .i64 0) rfl (by kernel_rfl) (by kernel_rfl) (by kernel_rfl) (fun _ _ _ h => by cases h.1) (Or.inl ⟨by rfl, ?_⟩) (by assumption) ?_
  · clear hHeld; intro X hSw; clear hSw; go_simp
  simp only [Act.put, pg]
  refine wpAnyH_done (by kernel_rfl) ⟨rfl, ?_⟩ _
  clear hHeld
 all_goals
  skip
  obtain ⟨g0, g1⟩ := box2 EG.out
  obtain ⟨n0, n1, n2, n3⟩ := box4 EN.out
  have q0 : V.cell? ⟨KB, 0, none⟩ = some (.int .i64 (k : Int)) := by rw [cell_of_row _ _ 0 _ _ _ EK.out]; rfl
  obtain ⟨X9, hX9⟩ : ∃ X9, X9 = allocs V [.cells #[.int .i64 t.id, .int .i64 t.kind, .string t.text, .slice ta tn tc] 24, .cells #[.int .i64 0] 3] := ⟨_, rfl⟩
  have hb : Below V.heap.size V X9 := by rw [hX9]; exact allocs_below _ _
  obtain ⟨WB, hWB⟩ : ∃ WB, WB = V.heap.size := ⟨_, rfl⟩
  have ew : X9.heap[WB]? = some (.cells #[.int .i64 t.id, .int .i64 t.kind, .string t.text, .slice ta tn tc] 24 (0, 0)) := by rw [hX9, hWB]; exact allocs_at _ _ 0 _ rfl
  have ec : X9.heap[WB + 1]? = some (.cells #[.int .i64 0] 3 (0, 0)) := by rw [hX9, hWB]; exact allocs_at _ _ 1 _ rfl
  have HX9 := Lib.hid hX9
  have HWL := Lib.hid (show w.heap.size < WB ∧ w.heap.size + 1 < WB ∧ KB < WB ∧ ZB < WB ∧ X9.heap.size = WB + 2 by have h1 := lt_of_heap EG.out; have h2 := lt_of_heap EN.out; have h3 := lt_of_heap EK.out; have h4 := lt_of_heap EZ.out; exact ⟨by omega, by omega, by omega, by omega, by rw [hX9, hWB]; exact allocs_size _ _⟩)
  have EW := Lib.hid ew
  have EC := Lib.hid ec
  clear ew ec hX9 s2 s6
  have l1 := lt_of_heap EG.out; have l2 := lt_of_heap EN.out; have l3 := lt_of_heap EK.out
  gi_wp2
  refine ⟨trivial, ?_⟩
  change CallsIn _ _ _ _ _ (allocs V [.cells #[.int .i64 t.id, .int .i64 t.kind, .string t.text, .slice ta tn tc] 24, .cells #[.int .i64 0] 3]) _
  rw [← HX9.out]
  rw [← hWB]
  have LXN := Lib.hid (show LiesN X9 (fun q => q = WB ∨ q = WB + 1) x.kids xa xc from LiesI.n LX.out hb (fun q hq => by omega))
  replace EG := Lib.hid ((hb.block _ (lt_of_heap EG.out)).trans EG.out)
  replace EN := Lib.hid ((hb.block _ (lt_of_heap EN.out)).trans EN.out)
  replace EK := Lib.hid ((hb.block _ (lt_of_heap EK.out)).trans EK.out)
  replace EZ := Lib.hid ((hb.block _ (lt_of_heap EZ.out)).trans EZ.out)
  replace BW := Lib.hid (BW.out.trans (hb.mono BW.out.size))
  clear hb q0 hWB HX9 l1 l2 l3
  clear g0 g1 n0 n1 n2 n3
  have hea := Each_any w X9 g t ga ta la gn gc tn tc n c vs BW.out HP.out.1 (fun Y hY => HP.out.2.1.below hY) HGF.out HP.out.2.2.2.1 HP.out.2.2.2.2.1 HW.out HA.out.1 RA.out
  refine (callsIn_wide.2 hea).mono ?_
  clear hea
  rintro e W10 ⟨BB, ba, bc, ys, rfl, hb, hBB, htr, hba⟩
  rw [treesS, if_pos HGO.out.1] at htr
  replace EG := Lib.hid ((hb.block _ (lt_of_heap EG.out)).trans EG.out)
  replace EN := Lib.hid ((hb.block _ (lt_of_heap EN.out)).trans EN.out)
  replace EK := Lib.hid ((hb.block _ (lt_of_heap EK.out)).trans EK.out)
  replace EZ := Lib.hid ((hb.block _ (lt_of_heap EZ.out)).trans EZ.out)
  replace LXN := Lib.hid (LXN.out.on hb)
  replace BW := Lib.hid (BW.out.trans (hb.mono BW.out.size))
  replace EW := Lib.hid ((hb.block _ (lt_of_heap EW.out)).trans EW.out)
  replace EC := Lib.hid ((hb.block _ (lt_of_heap EC.out)).trans EC.out)
  have HTJ := Lib.hid (cut_trees htr (B := WB) (by have := HWL.out; omega) (by have := HWL.out; omega) hba (by have := HWL.out; have := lt_of_heap EC.out; omega))
  have HC0 := Lib.hid (cut_start (g := g) (t := t) (l := steps vs) (WB := WB) (k0 := k) (by rw [← HP.out.2.2.2.1]; exact EW.out) EC.out HP.out.2.2.2.2.1 BW.out (by have := HWL.out; omega))
  have HZW := Lib.hid (lt_of_heap EC.out)
  have HSM := Lib.hid (fun (y : Tr) (hy : goT g t ((steps vs).take k) = some y) => (by rw [HGX.out] at hy; exact Option.some.inj hy : x = y))
  have HXS := Lib.hid (show foSize x.kids + 1 ≤ 250 from (way_go (fun s hs => by obtain ⟨y, hy, rfl⟩ := List.mem_map.1 (List.mem_of_mem_take hs); exact RA.out.fit y hy) HW.out HGX.out).size)
  have HTW := Lib.hid (fun (y : Tr) (hy : y ∈ treesK g t (steps vs)) => (show foSize y.kids + 1 ≤ 2000 by obtain ⟨j, hj⟩ := List.mem_iff_getElem?.1 hy; have := (way_go (fun s hs => by obtain ⟨z, hz, rfl⟩ := List.mem_map.1 (List.mem_of_mem_take hs); exact RA.out.fit z hz) HW.out (treesK_at hj)).size; omega))
  have HTN := Lib.hid (show (treesK g t (steps vs)).length = n by rw [treesK_full HGO.out.2.1, steps_len, HA.out.1])
  clear hb hBB htr hba
  have hnf := eq_nilFn BB W10
  gi_wp2
  clear hnf
  refine range_trees (n := 8) (by omega) rfl ba bc (treesK g t (steps vs)) (fun q => q < W10.heap.size ∧ q ≠ WB ∧ q ≠ WB + 1) HTJ.out (by have := HTN.out; have := HKN.out; omega) HTW.out (CutE W10 WB) (fun q hq => ⟨by rcases hq with h | h | h <;> (have := HZW.out; omega), fun hs => by rcases hq with h | h | h <;> omega⟩) rfl (CutI W10 WB g t (steps vs) k) (fun c V => c = .exit 0 ∧ CutI W10 WB g t (steps vs) k k V) ?_ ?_ HC0.out ?_ ?_ ?_
  · exact fun h ht => h.on HZW.out ht
  · exact fun h ht => ⟨h.1, h.2.on HZW.out ht⟩
  · skip
    rintro l hl j y va vc V hV hx hlx hI K hK
    obtain ⟨yn, hyn⟩ : ∃ yn, yn = foLen y.kids := ⟨_, rfl⟩
    rw [← hyn]
    have hkbV := (hI.2.1.block KB (lt_of_heap EK.out) (by have := HWL.out; omega)).trans EK.out
    have HR := Lib.hid (And.intro hl (And.intro hV (And.intro hx (And.intro hlx (And.intro hI (And.intro hyn hkbV))))))
    have HKK := Lib.hid hK
    clear hl hV hx hlx hI hyn hkbV hK
    gi_wp2
    refine HKK.out _ _ (touched_new _ _) fun V1 hV1 => ?_
    clear HKK
    obtain ⟨o2, ev, o, ho, hoc⟩ := hV1
    obtain ⟨hl, hV, hx, hlx, hI, hyn, hkbV⟩ := HR.out
    obtain ⟨h1, h2, h3, z, za, zc, h4, h5, h6⟩ := hI
    obtain ⟨sB, hsB⟩ : ∃ sB, sB = V.heap.size := ⟨_, rfl⟩
    have hWs := HZW.out
    have hKW := lt_of_heap EK.out
    have hwl := HWL.out
    have hk1 : ∀ q, q < V.heap.size → q ≠ W10.heap.size + 1 → V1.heap[q]? = V.heap[q]? := fun q h1 h2 => by rw [ev, World.putObj_heap_other (by omega), Below.heap_alloc _ _ _ h1]
    have hs1 : V1.heap.size = V.heap.size + 1 := by rw [ev]; simp [World.putObj]
    have hstep : V1.heap[sB]? = some (.cells #[.int .i64 y.id, .int .i64 y.kind, .string y.text, .slice va yn vc] 24 (0, 0)) := by rw [ev, hsB, World.putObj_heap_other (by omega)]; exact heap_alloc_new _ _
    have hos : V1.os = V.os ∧ V1.tape = V.tape ∧ V1.output = V.output := by rw [ev]; exact ⟨rfl, rfl, rfl⟩
    have e3 := (hk1 (WB + 1) (by omega) (by omega)).trans h3
    have e5 := (hk1 WB (by omega) (by omega)).trans h5
    have ek := (hk1 KB (by omega) (by omega)).trans hkbV
    have ht1 : Touched W10 V1 (fun q => q = WB ∨ q = WB + 1) := ⟨hos.1.trans h2.os, hos.2.1.trans h2.tape, hos.2.2.trans h2.output, by have := h2.size; omega, fun q hq hn => (hk1 q (by omega) (by omega)).trans (h2.block q hq hn)⟩
    have hl1 : ∀ f a c, LiesN V (CutE W10 WB) f a c → LiesN V1 (CutE W10 WB) f a c := fun f a c h => ⟨h.1, h.2.kept fun q hq => ⟨⟨by have := hq.1; omega, hq.2⟩, hk1 q hq.1 (fun e => hq.2 (Or.inr (Or.inr ⟨by omega, by omega⟩)))⟩⟩
    have q2 : V1.cell? ⟨KB, 0, none⟩ = some (.int .i64 (k : Int)) := by rw [cell_of_row _ _ 0 _ _ _ ek]; rfl
    obtain ⟨x0, x1, x2, x3⟩ := box4 hstep
    rw [← hsB]
    by_cases hjk : j = k
    · have hI1 : CutI W10 WB g t (steps vs) k k V1 := ⟨Nat.le_refl _, ht1, by rw [hjk] at e3; exact e3, z, za, zc, by rw [hjk] at h4; exact h4, e5, hl1 _ _ _ h6⟩
      have q1 : V1.cell? ⟨WB + 1, 0, none⟩ = some (.int .i64 (k : Int)) := by rw [hjk] at e3; rw [cell_of_row _ _ 0 _ _ _ e3]; rfl
      have HI1 := Lib.hid hI1
      clear hI1 hl hV hx hlx hyn hkbV h1 h2 h3 h4 h5 h6 hWs hKW hwl hk1 hs1 hstep hos e3 e5 ek ht1 hl1 ev ho hoc hsB hjk
      gi_wp2
      exact ⟨Nat.le_refl _, fun _ _ => rfl, .inr (.inr ⟨_, rfl, rfl, HI1.out⟩)⟩
    · have q1 : V1.cell? ⟨WB + 1, 0, none⟩ = some (.int .i64 (j : Int)) := by rw [cell_of_row _ _ 0 _ _ _ e3]; rfl
      have hjb : ((j : Int) == (k : Int)) = false := by simpa using (fun e : (j : Int) = (k : Int) => hjk (by omega))
      have hkn70 := HKN.out
      have hjw : IntKind.i64.wrap ((j : Int) + 1) = (j : Int) + 1 := IntWalk.i64_in _ (by omega)
      obtain ⟨z0, z1, z2, z3⟩ := box4 e5
      have zf : ∀ i, V1.frozen? ⟨WB, i, none⟩ = false := fun i => frozen_of_row _ _ i _ _ e5
      obtain ⟨V2, hV2, s1, s2, s3, s4, s5, s6⟩ := four_set (u0 := .int .i64 y.id) (u1 := .int .i64 y.kind) (u2 := .string y.text) (u3 := .slice va yn vc) e5
      have e32 := (s2 (WB + 1) (by omega)).trans e3
      obtain ⟨V3, hV3, t1, t2, t3, t4, t5, t6⟩ := one_set (i := 0) (u := .int .i64 ((j : Int) + 1)) e32
      have q3 : V2.cell? ⟨WB + 1, 0, none⟩ = some (.int .i64 (j : Int)) := by rw [cell_of_row _ _ 0 _ _ _ e32]; rfl
      have q4 : V2.frozen? ⟨WB + 1, 0, none⟩ = false := frozen_of_row _ _ 0 _ _ e32
      rw [hV2] at q3 q4
      have hEND : LeftQ W10.heap.size (fun q => q < W10.heap.size ∧ q ≠ WB ∧ q ≠ WB + 1) (CutI W10 WB g t (steps vs) k) (fun c V => c = .exit 0 ∧ CutI W10 WB g t (steps vs) k k V) j V1 .normal { tmps := #[], defers := [] } V3 := by
       have hk3 : ∀ q, q ≠ WB → q ≠ WB + 1 → V3.heap[q]? = V1.heap[q]? := fun q a b => (t2 q b).trans (s2 q a)
       refine ⟨by rw [t6, s6]; exact Nat.le_refl _, fun q hq => hk3 q (by rcases hq with h | h | h <;> omega) (by rcases hq with h | h | h <;> omega), .inl ⟨rfl, by omega, ⟨t3.trans (s3.trans ht1.os), t4.trans (s4.trans ht1.tape), t5.trans (s5.trans ht1.output), by rw [t6, s6]; exact ht1.size, fun q hq hn => (hk3 q (fun e => hn (Or.inl e)) (fun e => hn (Or.inr e))).trans (ht1.block q hq hn)⟩, ?_, y, va, vc, treesK_at hx, ?_, ?_⟩⟩
       · rw [t1]; simp
       · rw [t2 WB (by omega), s1, hyn]
       · have h := hl1 _ _ _ hlx
         exact ⟨h.1, h.2.kept fun q hq => ⟨⟨by rw [t6, s6]; exact hq.1, hq.2⟩, hk3 q (fun e => hq.2 (Or.inl e)) (fun e => hq.2 (Or.inr (Or.inl e)))⟩⟩
      have HEND := Lib.hid hEND
      have HVV := Lib.hid (And.intro hV2 hV3)
      clear hEND hV2 hV3 s1 s2 s3 s4 s5 s6 t1 t2 t3 t4 t5 t6 e32 hl hV hx hlx hyn hkbV h1 h2 h3 h4 h5 h6 hWs hKW hwl hk1 hs1 hstep hos e3 e5 ek ht1 hl1 ev ho hoc hsB hjk
      gi_wp2
      rw [← HVV.out.1, ← HVV.out.2]
      exact HEND.out
  · skip
    rintro D V hD ⟨h1, h2, h3, y, a, c2, h4, h5, h6⟩ hK
    have hkx : (treesK g t (steps vs)).length = k := by have := HTN.out; have := HKN.out; omega
    have hKB := (h2.block KB (lt_of_heap EK.out) (by have := HWL.out; omega)).trans EK.out
    have hZB := (h2.block ZB (lt_of_heap EZ.out) (by have := HWL.out; omega)).trans EZ.out
    have hyx := HSM.out y (by rw [← hkx]; exact h4)
    subst hyx
    have hbV : Below w.heap.size w V := ⟨h2.os.trans BW.out.os, h2.tape.trans BW.out.tape, h2.output.trans BW.out.output, Nat.le_trans BW.out.size h2.size, fun q hq => (h2.block q (Nat.lt_of_lt_of_le hq BW.out.size) (by have := HWL.out; omega)).trans (BW.out.block q hq)⟩
    have hlx := cut_keep LXN.out h2
    rw [← HXN.out] at h5
    have hsm := sameL (X := V) (t := x) (u := x) hlx h6.i (Below.refl _ _) (Below.refl _ _) (by have := HXS.out; omega)
    rw [← HXN.out] at hsm
    have HSA := Lib.hid hsm
    have q1 : V.cell? ⟨WB + 1, 0, none⟩ = some (.int .i64 (k : Int)) := by rw [hkx] at h3; rw [cell_of_row _ _ 0 _ _ _ h3]; rfl
    have q2 : V.cell? ⟨KB, 0, none⟩ = some (.int .i64 (k : Int)) := by rw [cell_of_row _ _ 0 _ _ _ hKB]; rfl
    obtain ⟨z0, z1, z2, z3⟩ := box4 hZB
    obtain ⟨y0, y1, y2, y3⟩ := box4 h5
    have HVB := Lib.hid (And.intro hbV (And.intro hK (show w.heap.size ≤ D by rw [hD]; exact BW.out.size)))
    clear h1 h2 h3 h4 h5 h6 hKB hZB hbV hlx hsm hK hD
    gi_wp2
    refine ⟨trivial, ?_⟩
    refine (callsIn_wide.2 HSA.out).mono ?_
    rintro e V2 ⟨rfl, hb⟩
    rw [sameT_refl]
    have HV2 := Lib.hid (And.intro (HVB.out.1.trans (hb.mono HVB.out.1.size)) ((hb.block _ (lt_of_heap HVB.out.2.1)).trans HVB.out.2.1))
    clear hb HSA q1 q2 z0 z1 z2 z3 y0 y1 y2 y3
    gi_wp2
    refine ⟨trivial, ?_⟩
    refine (callsIn_wide.2 (wakes11_any V2)).mono ?_
    rintro e V3 ⟨rfl, hb⟩
    have hb3 := HV2.out.1.trans (hb.mono HV2.out.1.size)
    have hD3 := (hb.block _ (lt_of_heap HV2.out.2)).trans HV2.out.2
    have hfin : Below w.heap.size w (V3.putObj D (.deferred none)) := ⟨hb3.os, hb3.tape, hb3.output, by simp [World.putObj]; exact hb3.size, fun q hq => (World.putObj_heap_other (by have := HVB.out.2.2; omega)).trans (hb3.block q hq)⟩
    have HFI := Lib.hid hfin
    clear hb hb3 hfin
    gi_wp2
    refine ⟨by simp, .inl ⟨_, _, rfl, run_takeDeferred hD3, ?_⟩⟩
    exact ⟨_, results_tmp rfl _ _ _, rfl, HFI.out⟩
  · skip
    rintro D c V hD ⟨rfl, h1, h2, h3, y, a, c2, h4, h5, h6⟩ hK
    have hKB := (h2.block KB (lt_of_heap EK.out) (by have := HWL.out; omega)).trans EK.out
    have hZB := (h2.block ZB (lt_of_heap EZ.out) (by have := HWL.out; omega)).trans EZ.out
    have hyx := HSM.out y h4
    subst hyx
    have hbV : Below w.heap.size w V := ⟨h2.os.trans BW.out.os, h2.tape.trans BW.out.tape, h2.output.trans BW.out.output, Nat.le_trans BW.out.size h2.size, fun q hq => (h2.block q (Nat.lt_of_lt_of_le hq BW.out.size) (by have := HWL.out; omega)).trans (BW.out.block q hq)⟩
    have hlx := cut_keep LXN.out h2
    rw [← HXN.out] at h5
    have hsm := sameL (X := V) (t := x) (u := x) hlx h6.i (Below.refl _ _) (Below.refl _ _) (by have := HXS.out; omega)
    rw [← HXN.out] at hsm
    have HSA := Lib.hid hsm
    have q1 : V.cell? ⟨WB + 1, 0, none⟩ = some (.int .i64 (k : Int)) := by rw [cell_of_row _ _ 0 _ _ _ h3]; rfl
    have q2 : V.cell? ⟨KB, 0, none⟩ = some (.int .i64 (k : Int)) := by rw [cell_of_row _ _ 0 _ _ _ hKB]; rfl
    obtain ⟨z0, z1, z2, z3⟩ := box4 hZB
    obtain ⟨y0, y1, y2, y3⟩ := box4 h5
    have HVB := Lib.hid (And.intro hbV (And.intro hK (show w.heap.size ≤ D by rw [hD]; exact BW.out.size)))
    clear h1 h2 h3 h4 h5 h6 hKB hZB hbV hlx hsm hK hD
    gi_wp2
    refine ⟨trivial, ?_⟩
    refine (callsIn_wide.2 HSA.out).mono ?_
    rintro e V2 ⟨rfl, hb⟩
    rw [sameT_refl]
    have HV2 := Lib.hid (And.intro (HVB.out.1.trans (hb.mono HVB.out.1.size)) ((hb.block _ (lt_of_heap HVB.out.2.1)).trans HVB.out.2.1))
    clear hb HSA q1 q2 z0 z1 z2 z3 y0 y1 y2 y3
    gi_wp2
    refine ⟨trivial, ?_⟩
    refine (callsIn_wide.2 (wakes11_any V2)).mono ?_
    rintro e V3 ⟨rfl, hb⟩
    have hb3 := HV2.out.1.trans (hb.mono HV2.out.1.size)
    have hD3 := (hb.block _ (lt_of_heap HV2.out.2)).trans HV2.out.2
    have hfin : Below w.heap.size w (V3.putObj D (.deferred none)) := ⟨hb3.os, hb3.tape, hb3.output, by simp [World.putObj]; exact hb3.size, fun q hq => (World.putObj_heap_other (by have := HVB.out.2.2; omega)).trans (hb3.block q hq)⟩
    have HFI := Lib.hid hfin
    clear hb hb3 hfin
    gi_wp2
    refine ⟨by simp, .inl ⟨_, _, rfl, run_takeDeferred hD3, ?_⟩⟩
    exact ⟨_, results_tmp rfl _ _ _, rfl, HFI.out⟩
end Go.Proofs.Ytonapijgfalpaaa
