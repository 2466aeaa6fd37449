/-
  .
-/
import Derived.Test.YtonapijgfalpaaaJFoldRQw
import Derived.Test.YtonapijgfalpaaaJDoQw
import Derived.Test.YtonapijgfalpaaaJIdsQw
import Derived.Test.YtonapijgfalpaaaJPgQw
set_option linter.unusedVariables false
set_option linter.unusedSimpArgs false
namespace Go.Proofs.Ytonapijgfalpaaa
open Go.RowKit Go.Shelf
def LiesS (w : World) (x : SV) : Prop := LiesI w x.s.sub.kids x.a x.c
theorem LiesS.at {w X : World} {x : SV} (h : LiesS w x) (hb : Below w.heap.size w X) : TrAt X (fun q => q < w.heap.size) (.agg #[.int .i64 x.s.sub.id, .int .i64 x.s.sub.kind, .string x.s.sub.text, .slice x.a (foLen x.s.sub.kids) x.c]) x.s.sub := LiesI.at h hb
set_option maxRecDepth 100000 in
set_option maxHeartbeats 4000000 in
theorem inserted_any (w X0 : World) (x : SV) (h : LiesS X0 x) (hb : Below X0.heap.size X0 w) (hs : StepFit x.s) :
 Calls Try.prog 171 #[x.v] w fun e w' => e = .returned (.int .i64 (insN x.s : Int)) ∧ Below w.heap.size w w' := by
 obtain ⟨sn, hsn⟩ : ∃ sn, sn = foLen x.s.sub.kids := ⟨_, rfl⟩
 obtain ⟨B, hB⟩ : ∃ B, B = w.alloc (.cells #[.int .i8 x.s.op, .int .i64 x.s.id, .int .i64 x.s.par, .int .i64 x.s.at_, .string x.s.tx, .int .i64 x.s.sub.id, .int .i64 x.s.sub.kind, .string x.s.sub.text, .slice x.a sn x.c] 47) := ⟨_, rfl⟩
 have hbw : Below w.heap.size w B := by rw [hB]; exact box_below _ _
 have hs0 : B.heap[w.heap.size]? = some (.cells #[.int .i8 x.s.op, .int .i64 x.s.id, .int .i64 x.s.par, .int .i64 x.s.at_, .string x.s.tx, .int .i64 x.s.sub.id, .int .i64 x.s.sub.kind, .string x.s.sub.text, .slice x.a sn x.c] 47 (0, 0)) := by rw [hB]; exact heap_alloc_new _ _
 have hb2 := hb.trans (hbw.mono hb.size)
 have hn := names_any B (fun q => q < X0.heap.size) x.s.sub x.s.op x.s.id x.s.par x.s.at_ x.s.tx x.a sn x.c (fun y hy => Nat.lt_of_lt_of_le hy hb2.size) (by rw [hsn]; exact h.at hb2) (by have := hs.size; omega) hs.op
 have hv : x.v = .agg #[.int .i8 x.s.op, .int .i64 x.s.id, .int .i64 x.s.par, .int .i64 x.s.at_, .string x.s.tx, .int .i64 x.s.sub.id, .int .i64 x.s.sub.kind, .string x.s.sub.text, .slice x.a sn x.c] := by rw [hsn]; rfl
 rw [hv]
 obtain ⟨m0, m1, m2, m3, m4, m5, m6, m7, m8⟩ := box9 hs0
 have HN := Lib.hid hn
 have HB := Lib.hid (And.intro hbw hB)
 have HS := Lib.hid hs
 have hob := i8_bounds hs.op
 clear hn hbw hB hs0 hb2 h hb hs hv hsn
 go_enter Try.func171, Try.ntmps171
 go_upto_region 1 with fail
 rw [← HB.out.2]
 by_cases h1 : x.s.op = 1
 · have hb1 : (x.s.op != 1) = false := by simpa using h1
   have HI := Lib.hid (show (namesK x.s.op x.s.id x.s.par x.s.sub).length = insN x.s + 1 ∧ insN x.s ≤ 250 by
    rw [namesK, if_pos h1, insN, if_pos h1, List.length_cons, idT_length]; exact ⟨rfl, HS.out.size⟩)
   clear h1 hob
   go_wp2_with fail
   refine HN.out.mono ?_
   rintro e w2 ⟨a, c, rfl, _, hb2⟩
   rw [HI.out.1]
   have HB2 := Lib.hid (HB.out.1.trans (hb2.mono HB.out.1.size))
   obtain ⟨n, hn⟩ : ∃ n, n = insN x.s := ⟨_, rfl⟩
   rw [← hn] at HI ⊢
   have HNN := Lib.hid hn
   have hnw : IntKind.i64.wrap (((n + 1 : Nat) : Int) - 1) = (n : Int) := by rw [IntWalk.i64_in _ (by have := HI.out.2; omega)]; omega
   obtain ⟨m, hm⟩ : ∃ m, m = n + 1 := ⟨_, rfl⟩
   rw [← hm] at hnw ⊢
   clear hb2 hn hm
   go_wp2_with fail
   go_ret
   rw [← HNN.out]
   exact ⟨rfl, HB2.out⟩
 · have hb1 : (x.s.op != 1) = true := by simpa using h1
   have HI := Lib.hid (show insN x.s = 0 by rw [insN, if_neg h1])
   clear h1 hob
   go_wp2_with fail
   go_ret
   rw [HI.out]
   exact ⟨rfl, HB.out.1⟩
def CheckC (w : World) (p q n : Int) (e : Ending) (w' : World) : Prop := ∃ (p' q' m : Int), e = .returned (.tuple #[.agg #[.int .i64 p', .int .i64 q'], .int .i64 m]) ∧ Below w.heap.size w w' ∧ ((m = 0 ∧ p' = p - 1 ∧ q' = q - n ∧ 0 ≤ p - 1 ∧ 0 ≤ q - n) ∨ (m = 3 ∧ (p - 1 < 0 ∨ q - n < 0)))
theorem check_end {fn : Func} (h : fn.results = #[.cell 4 190, .tmp 5]) {w W : World} {tmps : Array Value} {p q n p' q' m : Int} {g : Nat} (hb : Below w.heap.size w W) (hz : W.heap[g]? = some (.cells #[.int .i64 p', .int .i64 q'] 190 (0, 0))) (hc : (m = 0 ∧ p' = p - 1 ∧ q' = q - n ∧ 0 ≤ p - 1 ∧ 0 ≤ q - n) ∨ (m = 3 ∧ (p - 1 < 0 ∨ q - n < 0)))
 (h1 : tmps.getD 4 undef = .pointer (some ⟨g, 0, none⟩)) (h2 : tmps.getD 5 undef = .int .i64 m) : bodyPost Try.prog fn (CheckC w p q n) .ret { tmps, defers := [] } W := by
 refine bodyPost_ret (results_cellT h tmps W g 190 _ _ _ (.int .i64 m) h1 hz Try.underlying190 rfl (by kernel_rfl) h2) rfl ?_
 exact ⟨p', q', m, rfl, hb, hc⟩
set_option maxRecDepth 100000 in
set_option maxHeartbeats 8000000 in
theorem checkc_any (w X0 : World) (x : SV) (p q : Int) (h : LiesS X0 x) (hb : Below X0.heap.size X0 w) (hs : StepFit x.s) (hp : 0 ≤ p ∧ p ≤ 60) (hq : 0 ≤ q ∧ q ≤ 200) :
 Calls Try.prog 170 #[.agg #[.int .i64 p, .int .i64 q], x.v] w (CheckC w p q (insN x.s : Int)) := by
 obtain ⟨sn, hsn⟩ : ∃ sn, sn = foLen x.s.sub.kids := ⟨_, rfl⟩
 have hv : x.v = .agg #[.int .i8 x.s.op, .int .i64 x.s.id, .int .i64 x.s.par, .int .i64 x.s.at_, .string x.s.tx, .int .i64 x.s.sub.id, .int .i64 x.s.sub.kind, .string x.s.sub.text, .slice x.a sn x.c] := by rw [hsn]; rfl
 have hni : insN x.s ≤ 250 := by have := hs.size; unfold insN; split <;> omega
 obtain ⟨n, hn⟩ : ∃ n : Int, n = (insN x.s : Int) := ⟨_, rfl⟩
 have hn2 : 0 ≤ n ∧ n ≤ 250 := by omega
 obtain ⟨B, hB⟩ : ∃ B, B = allocs w [.cells #[.int .i64 p, .int .i64 q] 190, .cells #[.int .i8 x.s.op, .int .i64 x.s.id, .int .i64 x.s.par, .int .i64 x.s.at_, .string x.s.tx, .int .i64 x.s.sub.id, .int .i64 x.s.sub.kind, .string x.s.sub.text, .slice x.a sn x.c] 47, .cells #[.int .i64 0, .int .i64 0] 190] := ⟨_, rfl⟩
 have hbw : Below w.heap.size w B := by rw [hB]; exact allocs_below _ _
 have hsz : B.heap.size = w.heap.size + 3 := by rw [hB]; exact allocs_size _ _
 have e0 : B.heap[w.heap.size]? = some (.cells #[.int .i64 p, .int .i64 q] 190 (0, 0)) := by rw [hB]; exact allocs_at _ _ 0 _ rfl
 have e1 : B.heap[w.heap.size + 1]? = some (.cells #[.int .i8 x.s.op, .int .i64 x.s.id, .int .i64 x.s.par, .int .i64 x.s.at_, .string x.s.tx, .int .i64 x.s.sub.id, .int .i64 x.s.sub.kind, .string x.s.sub.text, .slice x.a sn x.c] 47 (0, 0)) := by rw [hB]; exact allocs_at _ _ 1 _ rfl
 have e2 : B.heap[w.heap.size + 1 + 1]? = some (.cells #[.int .i64 0, .int .i64 0] 190 (0, 0)) := by rw [hB]; exact allocs_at _ _ 2 _ rfl
 obtain ⟨p1, hp1⟩ : ∃ p1, p1 = p - 1 := ⟨_, rfl⟩
 obtain ⟨q1, hq1⟩ : ∃ q1, q1 = q - n := ⟨_, rfl⟩
 have hw1 : IntKind.i64.wrap (p - 1) = p1 := by rw [hp1]; exact IntWalk.i64_in _ (by omega)
 have hw2 : IntKind.i64.wrap (q - n) = q1 := by rw [hq1]; exact IntWalk.i64_in _ (by omega)
 obtain ⟨W1, hW1, r1, r2, r3, r4, r5, r6⟩ := one_set (i := 0) (u := .int .i64 p1) e0
 have r1' : W1.heap[w.heap.size]? = some (.cells #[.int .i64 p1, .int .i64 q] 190 (0, 0)) := by simpa using r1
 have hb1 : Below w.heap.size w W1 := ⟨r3.trans hbw.os, r4.trans hbw.tape, r5.trans hbw.output, by rw [r6]; exact hbw.size, fun y hy => (r2 y (by omega)).trans (hbw.block y hy)⟩
 have f1 : W1.heap[w.heap.size + 1]? = some (.cells #[.int .i8 x.s.op, .int .i64 x.s.id, .int .i64 x.s.par, .int .i64 x.s.at_, .string x.s.tx, .int .i64 x.s.sub.id, .int .i64 x.s.sub.kind, .string x.s.sub.text, .slice x.a sn x.c] 47 (0, 0)) := (r2 _ (by omega)).trans e1
 have f2 : W1.heap[w.heap.size + 1 + 1]? = some (.cells #[.int .i64 0, .int .i64 0] 190 (0, 0)) := (r2 _ (by omega)).trans e2
 have hc : ∀ X, Below W1.heap.size W1 X → X.cell? ⟨w.heap.size, 0, none⟩ = some (.int .i64 p1) ∧ X.cell? ⟨w.heap.size, 1, none⟩ = some (.int .i64 q) ∧ X.cell? ⟨w.heap.size + 1, 0, none⟩ = some (.int .i8 x.s.op) ∧ X.cell? ⟨w.heap.size + 1, 1, none⟩ = some (.int .i64 x.s.id) ∧ X.cell? ⟨w.heap.size + 1, 2, none⟩ = some (.int .i64 x.s.par) ∧ X.cell? ⟨w.heap.size + 1, 3, none⟩ = some (.int .i64 x.s.at_) ∧ X.cell? ⟨w.heap.size + 1, 4, none⟩ = some (.string x.s.tx) ∧ X.cell? ⟨w.heap.size + 1, 5, none⟩ = some (.int .i64 x.s.sub.id) ∧ X.cell? ⟨w.heap.size + 1, 6, none⟩ = some (.int .i64 x.s.sub.kind) ∧ X.cell? ⟨w.heap.size + 1, 7, none⟩ = some (.string x.s.sub.text) ∧ X.cell? ⟨w.heap.size + 1, 8, none⟩ = some (.slice x.a sn x.c) := fun X hX =>
  ⟨(box2 ((hX.block _ (lt_of_heap r1')).trans r1')).1, (box2 ((hX.block _ (lt_of_heap r1')).trans r1')).2, box9 ((hX.block _ (lt_of_heap f1)).trans f1)⟩
 have hi : ∀ X, Below W1.heap.size W1 X → Calls Try.prog 171 #[.agg #[.int .i8 x.s.op, .int .i64 x.s.id, .int .i64 x.s.par, .int .i64 x.s.at_, .string x.s.tx, .int .i64 x.s.sub.id, .int .i64 x.s.sub.kind, .string x.s.sub.text, .slice x.a sn x.c]] X fun e w' => e = .returned (.int .i64 n) ∧ Below X.heap.size X w' := fun X hX => by
  rw [← hv, hn]
  exact inserted_any X X0 x h ((hb.trans (hb1.mono hb.size)).trans (hX.mono (Nat.le_trans hb.size hb1.size))) hs
 rw [hv, ← hn]
 have HC := Lib.hid hc
 have HI := Lib.hid hi
 have HE := Lib.hid (And.intro hB (And.intro hW1 (And.intro hb1 (And.intro r1' f2))))
 have HP := Lib.hid (And.intro hp1 hq1)
 have HF := Lib.hid f1
 obtain ⟨z0, z1⟩ := box2 e0
 have zf : B.frozen? ⟨w.heap.size, 0, none⟩ = false := frozen_of_row _ _ 0 _ _ e0
 clear hc hi hB hW1 hb1 r1 r1' f1 f2 r2 r3 r4 r5 r6 hbw hsz e0 e1 e2 hp1 hq1 h hb hs hp hq hn2 hni hn hv hsn
 go_enter Try.func170, Try.ntmps170
 go_upto_region 1 with fail
 change Code.wp _ _ _ _ (allocs w [.cells #[.int .i64 p, .int .i64 q] 190, .cells #[.int .i8 x.s.op, .int .i64 x.s.id, .int .i64 x.s.par, .int .i64 x.s.at_, .string x.s.tx, .int .i64 x.s.sub.id, .int .i64 x.s.sub.kind, .string x.s.sub.text, .slice x.a sn x.c] 47, .cells #[.int .i64 0, .int .i64 0] 190])
 rw [← HE.out.1]
 go_upto_region 2 with fail
 rw [← HE.out.2.1]
 clear z0 z1 zf
 have hst : ∀ X, Touched W1 X (fun y => y = w.heap.size) → X.cell? ⟨w.heap.size + 1, 0, none⟩ = some (.int .i8 x.s.op) ∧ X.cell? ⟨w.heap.size + 1, 1, none⟩ = some (.int .i64 x.s.id) ∧ X.cell? ⟨w.heap.size + 1, 2, none⟩ = some (.int .i64 x.s.par) ∧ X.cell? ⟨w.heap.size + 1, 3, none⟩ = some (.int .i64 x.s.at_) ∧ X.cell? ⟨w.heap.size + 1, 4, none⟩ = some (.string x.s.tx) ∧ X.cell? ⟨w.heap.size + 1, 5, none⟩ = some (.int .i64 x.s.sub.id) ∧ X.cell? ⟨w.heap.size + 1, 6, none⟩ = some (.int .i64 x.s.sub.kind) ∧ X.cell? ⟨w.heap.size + 1, 7, none⟩ = some (.string x.s.sub.text) ∧ X.cell? ⟨w.heap.size + 1, 8, none⟩ = some (.slice x.a sn x.c) := fun X hX => box9 ((hX.block _ (lt_of_heap HF.out) (by omega)).trans HF.out)
 have HST := Lib.hid hst
 clear hst
 refine wp_region_held_drew (S := fun X => Touched W1 X (fun y => y = w.heap.size)) (by kernel_rfl) (Touched.refl _ _).drew (fun hHeld => ?_)
 refine tkH (i := 0) (.pointer (some ⟨w.heap.size, 1, none⟩)) rfl (Or.inl ⟨by rfl, ?_⟩) (by assumption) ?_
 · clear hHeld; intro X hSw; obtain ⟨m0, m1, m2, m3, m4, m5, m6, m7, m8⟩ := HST.out X hSw; clear hSw; go_simp
 simp only [Act.put, pg]
 refine tkH (i := 2) (.agg #[.int .i8 x.s.op, .int .i64 x.s.id, .int .i64 x.s.par, .int .i64 x.s.at_, .string x.s.tx, .int .i64 x.s.sub.id, .int .i64 x.s.sub.kind, .string x.s.sub.text, .slice x.a sn x.c]) rfl (Or.inl ⟨by rfl, ?_⟩) (by assumption) ?_
 · clear hHeld; intro X hSw; obtain ⟨m0, m1, m2, m3, m4, m5, m6, m7, m8⟩ := HST.out X hSw; clear hSw; go_simp
 simp only [Act.put, pg]
 refine wpAnyH_ready (rs := [1, 3]) (by kernel_rfl) (by simp) ?_
 refine AllReadyH.cons (o := _) rfl (fun K hK => ?_) (AllReadyH.cons (o := _) rfl (fun K hK => ?_) AllReadyH.nil)
 · skip
   rw [if_pos (by rfl)]
   simp only [pg3]
   have HK := Lib.hid hK
   have HS := Lib.hid hHeld
   clear hK hHeld
   obtain ⟨_, k1, _⟩ := HC.out W1 (Below.refl _ _)
   go_wp2_with fail
   refine HK.out _ _ HS.out (fun hHeld => ?_)
   clear HK HS k1
   refine wpAnyH_ready (rs := [3]) (by kernel_rfl) (by simp) ?_
   refine AllReadyH.cons (o := _) rfl (fun K hK => ?_) AllReadyH.nil
   rw [if_pos (by rfl)]
   simp only [pg3]
   have HK := Lib.hid hK
   have HS := Lib.hid hHeld
   clear hK hHeld
   go_wp2_with (go_at_call 171; refine (HI.out _ (below_drewN (Below.refl _ W1) 1)).mono ?_; rintro e w4 ⟨rfl, hib⟩; have HIB := Lib.hid ((below_drewN (Below.refl _ W1) 1).trans hib); clear hib)
   refine HK.out _ _ ⟨HIB.out.os, HIB.out.tape, HIB.out.output, HIB.out.size, fun y h1 _ => HIB.out.block y h1⟩ (fun hHeld => ?_)
   clear HK HS
   refine tkH (i := 4) (.int .i64 q1) rfl (Or.inl ⟨by rfl, ?_⟩) (by assumption) ?_
   · clear hHeld; intro X hSw; obtain ⟨m0, m1, m2, m3, m4, m5, m6, m7, m8⟩ := HST.out X hSw; clear hSw; go_simp
   simp only [Act.put, pg]
   refine tkH (i := 5) (.pointer (some ⟨w.heap.size, 1, none⟩)) rfl (Or.inl ⟨by rfl, ?_⟩) (by assumption) ?_
   · clear hHeld; intro X hSw; obtain ⟨m0, m1, m2, m3, m4, m5, m6, m7, m8⟩ := HST.out X hSw; clear hSw; go_simp
   simp only [Act.put, pg]
   refine wpAnyH_ready (rs := [6]) (by kernel_rfl) (by simp) ?_
   refine AllReadyH.cons (o := _) rfl (fun K hK => ?_) AllReadyH.nil
   rw [if_pos (by rfl)]
   simp only [pg3]
   have HK := Lib.hid hK
   have HS := Lib.hid hHeld
   clear hK hHeld
   obtain ⟨k0, k1, _⟩ := HC.out w4 HIB.out
   have e4 := (HIB.out.block _ (lt_of_heap HE.out.2.2.2.1)).trans HE.out.2.2.2.1
   have q1f : w4.frozen? ⟨w.heap.size, 1, none⟩ = false := frozen_of_row _ _ 1 _ _ e4
   obtain ⟨W5, hW5, r1, r2, r3, r4, r5, r6⟩ := one_set (i := 1) (u := .int .i64 q1) e4
   have r1' : W5.heap[w.heap.size]? = some (.cells #[.int .i64 p1, .int .i64 q1] 190 (0, 0)) := by simpa using r1
   have hbz := HE.out.2.2.1.trans (HIB.out.mono HE.out.2.2.1.size)
   have hb5 : Below w.heap.size w W5 := ⟨r3.trans hbz.os, r4.trans hbz.tape, r5.trans hbz.output, by rw [r6]; exact hbz.size, fun y hy => (r2 y (by omega)).trans (hbz.block y hy)⟩
   have f5 : W5.heap[w.heap.size + 1 + 1]? = some (.cells #[.int .i64 0, .int .i64 0] 190 (0, 0)) := (r2 _ (by omega)).trans ((HIB.out.block _ (lt_of_heap HE.out.2.2.2.2)).trans HE.out.2.2.2.2)
   have ht5 : Touched W1 W5 (fun y => y = w.heap.size) := ⟨r3.trans HIB.out.os, r4.trans HIB.out.tape, r5.trans HIB.out.output, by rw [r6]; exact HIB.out.size, fun y h1 h2 => (r2 y h2).trans (HIB.out.block y h1)⟩
   have H5 := Lib.hid (And.intro hW5 (And.intro r1' (And.intro hb5 (And.intro f5 ht5))))
   clear hW5 r1 r1' r2 r3 r4 r5 r6 hbz hb5 f5 e4 ht5
   go_wp2_with fail
   rw [← H5.out.1]
   refine HK.out _ _ H5.out.2.2.2.2 (fun hHeld => ?_)
   clear HK HS k0 k1 q1f
   refine wpAnyH_done (by kernel_rfl) ?_ _
   clear hHeld
   obtain ⟨k0, k1⟩ := box2 H5.out.2.1
   obtain ⟨y0, y1⟩ := box2 H5.out.2.2.2.1
   have yf : ∀ j, W5.frozen? ⟨w.heap.size + 1 + 1, j, none⟩ = false := fun j => frozen_of_row _ _ j _ _ H5.out.2.2.2.1
   by_cases hp0 : p1 < 0
   · obtain ⟨V, hV, r1, r2, r3, r4, r5, r6⟩ := two_set (u0 := .int .i64 0) (u1 := .int .i64 0) H5.out.2.2.2.1
     have HEE := Lib.hid (And.intro hV (And.intro r1 (And.intro r2 (And.intro r3 (And.intro r4 (And.intro r5 (And.intro r6 hp0)))))))
     clear hV r1 r2 r3 r4 r5 r6
     go_wp2_with fail
     rw [← HEE.out.1]
     obtain ⟨hV, r1, r2, r3, r4, r5, r6, hp0⟩ := HEE.out
     have hb5 := H5.out.2.2.1
     exact check_end rfl ⟨r3.trans hb5.os, r4.trans hb5.tape, r5.trans hb5.output, by rw [r6]; exact hb5.size, fun k hk => (r2 k (by omega)).trans (hb5.block k hk)⟩ r1 (Or.inr ⟨rfl, Or.inl (by rw [← HP.out.1]; exact hp0)⟩) rfl rfl
   · by_cases hq0 : q1 < 0
     · obtain ⟨V, hV, r1, r2, r3, r4, r5, r6⟩ := two_set (u0 := .int .i64 0) (u1 := .int .i64 0) H5.out.2.2.2.1
       have HEE := Lib.hid (And.intro hV (And.intro r1 (And.intro r2 (And.intro r3 (And.intro r4 (And.intro r5 (And.intro r6 hq0)))))))
       clear hV r1 r2 r3 r4 r5 r6
       go_wp2_with fail
       rw [← HEE.out.1]
       obtain ⟨hV, r1, r2, r3, r4, r5, r6, hp0⟩ := HEE.out
       have hb5 := H5.out.2.2.1
       exact check_end rfl ⟨r3.trans hb5.os, r4.trans hb5.tape, r5.trans hb5.output, by rw [r6]; exact hb5.size, fun k hk => (r2 k (by omega)).trans (hb5.block k hk)⟩ r1 (Or.inr ⟨rfl, Or.inr (by rw [← HP.out.2]; exact hp0)⟩) rfl rfl
     · obtain ⟨V, hV, r1, r2, r3, r4, r5, r6⟩ := two_set (u0 := .int .i64 p1) (u1 := .int .i64 q1) H5.out.2.2.2.1
       have HEE := Lib.hid (And.intro hV (And.intro r1 (And.intro r2 (And.intro r3 (And.intro r4 (And.intro r5 (And.intro r6 (And.intro hp0 hq0))))))))
       clear hV r1 r2 r3 r4 r5 r6
       go_wp2_with fail
       rw [← HEE.out.1]
       obtain ⟨hV, r1, r2, r3, r4, r5, r6, hp0, hq0⟩ := HEE.out
       have hb5 := H5.out.2.2.1
       exact check_end rfl ⟨r3.trans hb5.os, r4.trans hb5.tape, r5.trans hb5.output, by rw [r6]; exact hb5.size, fun k hk => (r2 k (by omega)).trans (hb5.block k hk)⟩ r1 (Or.inl ⟨rfl, HP.out.1, HP.out.2, by rw [← HP.out.1]; omega, by rw [← HP.out.2]; omega⟩) rfl rfl
 · skip
   rw [if_pos (by rfl)]
   simp only [pg3]
   have HK := Lib.hid hK
   have HS := Lib.hid hHeld
   clear hK hHeld
   go_wp2_with (go_at_call 171; refine (HI.out _ (below_drewN (Below.refl _ W1) 1)).mono ?_; rintro e w4 ⟨rfl, hib⟩; have HIB := Lib.hid ((below_drewN (Below.refl _ W1) 1).trans hib); clear hib)
   refine HK.out _ _ ⟨HIB.out.os, HIB.out.tape, HIB.out.output, HIB.out.size, fun y h1 _ => HIB.out.block y h1⟩ (fun hHeld => ?_)
   clear HK HS
   refine wpAnyH_ready (rs := [1]) (by kernel_rfl) (by simp) ?_
   refine AllReadyH.cons (o := _) rfl (fun K hK => ?_) AllReadyH.nil
   rw [if_pos (by rfl)]
   simp only [pg3]
   have HK := Lib.hid hK
   have HS := Lib.hid hHeld
   clear hK hHeld
   obtain ⟨_, k1, _⟩ := HC.out w4 HIB.out
   go_wp2_with fail
   refine HK.out _ _ HS.out (fun hHeld => ?_)
   clear HK HS k1
   refine tkH (i := 4) (.int .i64 q1) rfl (Or.inl ⟨by rfl, ?_⟩) (by assumption) ?_
   · clear hHeld; intro X hSw; obtain ⟨m0, m1, m2, m3, m4, m5, m6, m7, m8⟩ := HST.out X hSw; clear hSw; go_simp
   simp only [Act.put, pg]
   refine tkH (i := 5) (.pointer (some ⟨w.heap.size, 1, none⟩)) rfl (Or.inl ⟨by rfl, ?_⟩) (by assumption) ?_
   · clear hHeld; intro X hSw; obtain ⟨m0, m1, m2, m3, m4, m5, m6, m7, m8⟩ := HST.out X hSw; clear hSw; go_simp
   simp only [Act.put, pg]
   refine wpAnyH_ready (rs := [6]) (by kernel_rfl) (by simp) ?_
   refine AllReadyH.cons (o := _) rfl (fun K hK => ?_) AllReadyH.nil
   rw [if_pos (by rfl)]
   simp only [pg3]
   have HK := Lib.hid hK
   have HS := Lib.hid hHeld
   clear hK hHeld
   obtain ⟨k0, k1, _⟩ := HC.out w4 HIB.out
   have e4 := (HIB.out.block _ (lt_of_heap HE.out.2.2.2.1)).trans HE.out.2.2.2.1
   have q1f : w4.frozen? ⟨w.heap.size, 1, none⟩ = false := frozen_of_row _ _ 1 _ _ e4
   obtain ⟨W5, hW5, r1, r2, r3, r4, r5, r6⟩ := one_set (i := 1) (u := .int .i64 q1) e4
   have r1' : W5.heap[w.heap.size]? = some (.cells #[.int .i64 p1, .int .i64 q1] 190 (0, 0)) := by simpa using r1
   have hbz := HE.out.2.2.1.trans (HIB.out.mono HE.out.2.2.1.size)
   have hb5 : Below w.heap.size w W5 := ⟨r3.trans hbz.os, r4.trans hbz.tape, r5.trans hbz.output, by rw [r6]; exact hbz.size, fun y hy => (r2 y (by omega)).trans (hbz.block y hy)⟩
   have f5 : W5.heap[w.heap.size + 1 + 1]? = some (.cells #[.int .i64 0, .int .i64 0] 190 (0, 0)) := (r2 _ (by omega)).trans ((HIB.out.block _ (lt_of_heap HE.out.2.2.2.2)).trans HE.out.2.2.2.2)
   have ht5 : Touched W1 W5 (fun y => y = w.heap.size) := ⟨r3.trans HIB.out.os, r4.trans HIB.out.tape, r5.trans HIB.out.output, by rw [r6]; exact HIB.out.size, fun y h1 h2 => (r2 y h2).trans (HIB.out.block y h1)⟩
   have H5 := Lib.hid (And.intro hW5 (And.intro r1' (And.intro hb5 (And.intro f5 ht5))))
   clear hW5 r1 r1' r2 r3 r4 r5 r6 hbz hb5 f5 e4 ht5
   go_wp2_with fail
   rw [← H5.out.1]
   refine HK.out _ _ H5.out.2.2.2.2 (fun hHeld => ?_)
   clear HK HS k0 k1 q1f
   refine wpAnyH_done (by kernel_rfl) ?_ _
   clear hHeld
   obtain ⟨k0, k1⟩ := box2 H5.out.2.1
   obtain ⟨y0, y1⟩ := box2 H5.out.2.2.2.1
   have yf : ∀ j, W5.frozen? ⟨w.heap.size + 1 + 1, j, none⟩ = false := fun j => frozen_of_row _ _ j _ _ H5.out.2.2.2.1
   by_cases hp0 : p1 < 0
   · obtain ⟨V, hV, r1, r2, r3, r4, r5, r6⟩ := two_set (u0 := .int .i64 0) (u1 := .int .i64 0) H5.out.2.2.2.1
     have HEE := Lib.hid (And.intro hV (And.intro r1 (And.intro r2 (And.intro r3 (And.intro r4 (And.intro r5 (And.intro r6 hp0)))))))
     clear hV r1 r2 r3 r4 r5 r6
     go_wp2_with fail
     rw [← HEE.out.1]
     obtain ⟨hV, r1, r2, r3, r4, r5, r6, hp0⟩ := HEE.out
     have hb5 := H5.out.2.2.1
     exact check_end rfl ⟨r3.trans hb5.os, r4.trans hb5.tape, r5.trans hb5.output, by rw [r6]; exact hb5.size, fun k hk => (r2 k (by omega)).trans (hb5.block k hk)⟩ r1 (Or.inr ⟨rfl, Or.inl (by rw [← HP.out.1]; exact hp0)⟩) rfl rfl
   · by_cases hq0 : q1 < 0
     · obtain ⟨V, hV, r1, r2, r3, r4, r5, r6⟩ := two_set (u0 := .int .i64 0) (u1 := .int .i64 0) H5.out.2.2.2.1
       have HEE := Lib.hid (And.intro hV (And.intro r1 (And.intro r2 (And.intro r3 (And.intro r4 (And.intro r5 (And.intro r6 hq0)))))))
       clear hV r1 r2 r3 r4 r5 r6
       go_wp2_with fail
       rw [← HEE.out.1]
       obtain ⟨hV, r1, r2, r3, r4, r5, r6, hp0⟩ := HEE.out
       have hb5 := H5.out.2.2.1
       exact check_end rfl ⟨r3.trans hb5.os, r4.trans hb5.tape, r5.trans hb5.output, by rw [r6]; exact hb5.size, fun k hk => (r2 k (by omega)).trans (hb5.block k hk)⟩ r1 (Or.inr ⟨rfl, Or.inr (by rw [← HP.out.2]; exact hp0)⟩) rfl rfl
     · obtain ⟨V, hV, r1, r2, r3, r4, r5, r6⟩ := two_set (u0 := .int .i64 p1) (u1 := .int .i64 q1) H5.out.2.2.2.1
       have HEE := Lib.hid (And.intro hV (And.intro r1 (And.intro r2 (And.intro r3 (And.intro r4 (And.intro r5 (And.intro r6 (And.intro hp0 hq0))))))))
       clear hV r1 r2 r3 r4 r5 r6
       go_wp2_with fail
       rw [← HEE.out.1]
       obtain ⟨hV, r1, r2, r3, r4, r5, r6, hp0, hq0⟩ := HEE.out
       have hb5 := H5.out.2.2.1
       exact check_end rfl ⟨r3.trans hb5.os, r4.trans hb5.tape, r5.trans hb5.output, by rw [r6]; exact hb5.size, fun k hk => (r2 k (by omega)).trans (hb5.block k hk)⟩ r1 (Or.inl ⟨rfl, HP.out.1, HP.out.2, by rw [← HP.out.1]; omega, by rw [← HP.out.2]; omega⟩) rfl rfl
structure Row (w : World) (a : Option Addr) (vs : List SV) : Prop where
 cells : RowV w (fun q => q < w.heap.size) a vs
 lies : ∀ x ∈ vs, LiesS w x
 fit : ∀ x ∈ vs, StepFit x.s
 len : vs.length ≤ 1000000
theorem Row.on {w X : World} {a : Option Addr} {vs : List SV} (h : Row w a vs) (hb : Below w.heap.size w X) : Row X a vs :=
 ⟨h.cells.kept fun y hy => ⟨Nat.lt_of_lt_of_le hy hb.size, hb.block y hy⟩, fun x hx => LiesI.on (h.lies x hx) hb, h.fit, h.len⟩
theorem Row.take {w : World} {a : Option Addr} {vs : List SV} (h : Row w a vs) (k : Nat) : Row w a (vs.take k) :=
 ⟨fun j x hx => h.cells j x (by rw [List.getElem?_take] at hx; split at hx; exact hx; cases hx), fun x hx => h.lies x (List.mem_of_mem_take hx), fun x hx => h.fit x (List.mem_of_mem_take hx), by have := h.len; rw [List.length_take]; omega⟩
structure RowsIn (X : World) (NB R : Nat) (rs : List RH) : Prop where
 box : X.heap[NB]? = some (.cells #[.slice (some ⟨R, 0, none⟩) rs.length rs.length] 195 (0, 0))
 head : X.heap[R]? = some (.cells (rs.map RH.v).toArray 25 (0, 0))
 rows : ∀ r ∈ rs, Row X r.a r.vs
 few : rs.length ≤ 2
theorem RowsIn.j {X : World} {NB R : Nat} {rs : List RH} (h : RowsIn X NB R rs) : RowsJ X NB R rs (fun q => q < X.heap.size) :=
 ⟨h.box, h.head, lt_of_heap h.box, lt_of_heap h.head, fun _ hy => hy, fun i r hr => (h.rows r (List.mem_of_getElem? hr)).cells⟩
theorem mem_flat : ∀ {rs : List RH} {x : SV}, x ∈ flat rs → ∃ r ∈ rs, x ∈ r.vs
 | [], x, h => by simp [flat] at h
 | r :: rs, x, h => by
   rw [flat, List.mem_append] at h
   rcases h with h | h
   · exact ⟨r, List.mem_cons_self .., h⟩
   · obtain ⟨q, h1, h2⟩ := mem_flat h
     exact ⟨q, List.mem_cons_of_mem _ h1, h2⟩
theorem flat_len {X : World} {NB R : Nat} {rs : List RH} (h : RowsIn X NB R rs) : (flat rs).length ≤ 2000000 := by
 obtain ⟨_, _, h3, h4⟩ := h
 match rs, h3, h4 with
 | [], _, _ => simp [flat]
 | [r], h3, _ => have := (h3 r (by simp)).len; simp [flat]; omega
 | [r, q], h3, _ => have := (h3 r (by simp)).len; have := (h3 q (by simp)).len; simp [flat]; omega
 | _ :: _ :: _ :: _, _, h4 => simp at h4
theorem RowsIn.lies {X : World} {NB R : Nat} {rs : List RH} (h : RowsIn X NB R rs) {x : SV} (hx : x ∈ flat rs) : LiesS X x ∧ StepFit x.s := by
 obtain ⟨r, h1, h2⟩ := mem_flat hx
 exact ⟨(h.rows r h1).lies x h2, (h.rows r h1).fit x h2⟩
theorem insSum_take_succ {l : List Sf} {k : Nat} {s : Sf} (h : l[k]? = some s) : insSum (l.take (k + 1)) = insSum (l.take k) + insN s := by
 rw [List.take_add_one, h, insSum_append]
 simp [insSum]
theorem insSum_take_le (l : List Sf) (k : Nat) : insSum (l.take k) ≤ insSum l := by
 conv => rhs; rw [← List.take_append_drop k l, insSum_append]
 omega
def steps (vs : List SV) : List Sf := vs.map SV.s
theorem steps_at {vs : List SV} {k : Nat} {x : SV} (h : vs[k]? = some x) : (steps vs)[k]? = some x.s := by rw [steps, List.getElem?_map, h]; rfl
theorem steps_len (vs : List SV) : (steps vs).length = vs.length := by simp [steps]
def chkN (l : List Sf) : Int := if okSet l = true then 0 else 3
def ChkJ (X : World) (l : List Sf) (k : Nat) (v : RV) (V : World) : Prop := Below X.heap.size X V ∧ v.i = 60 - (k : Int) ∧ v.k = 200 - (insSum (l.take k) : Int) ∧ k ≤ 60 ∧ insSum (l.take k) ≤ 200
def ChkX (X : World) (l : List Sf) (k : Nat) (v : RV) (n : Int) (V : World) : Prop := Below X.heap.size X V ∧ n = 3 ∧ okSet l = false
theorem doQ_check {X : World} {NB R : Nat} {rs : List RH} (h : RowsIn X NB R rs) : DoQ Try.prog 170 #[] X.heap.size (fun q => q < X.heap.size) (flat rs) (ChkJ X (steps (flat rs))) (ChkX X (steps (flat rs))) := by
 refine ⟨enters_of Try.func170 (by kernel_rfl) rfl, ?_, ?_, ?_⟩
 · rintro k v V V' ⟨h1, h2⟩ ht
   exact ⟨⟨ht.os.trans h1.os, ht.tape.trans h1.tape, ht.output.trans h1.output, Nat.le_trans h1.size ht.size, fun q hq => (ht.block q (Nat.lt_of_lt_of_le hq h1.size) (by omega)).trans (h1.block q hq)⟩, h2⟩
 · rintro k v n V V' ⟨h1, h2⟩ ht
   exact ⟨⟨ht.os.trans h1.os, ht.tape.trans h1.tape, ht.output.trans h1.output, Nat.le_trans h1.size ht.size, fun q hq => (ht.block q (Nat.lt_of_lt_of_le hq h1.size) (by omega)).trans (h1.block q hq)⟩, h2⟩
 · rintro k x v W hx hW ⟨hb, hi, hk, hk60, hs⟩
   obtain ⟨hl, hf⟩ := h.lies (List.mem_of_getElem? hx)
   have hxs := steps_at hx
   rw [Array.append_empty]
   refine (checkc_any W X x v.i v.k hl hb hf (by omega) (by omega)).mono ?_
   rintro e W' ⟨p', q', m, rfl, hb2, hc⟩
   refine ⟨⟨p', q'⟩, m, rfl, hb2.size, fun q hq => hb2.block q (by rcases hq with hq | hq; have := hb.size; omega; omega), fun hm => ?_, fun hm => ?_⟩
   · rcases hc with ⟨_, rfl, rfl, h1, h2⟩ | ⟨h1, _⟩
     · have hq := insSum_take_succ hxs
       exact ⟨hb.trans (hb2.mono hb.size), by show v.i - 1 = _; omega, by show v.k - _ = _; rw [hq]; omega, by omega, by rw [hq]; omega⟩
     · omega
   · rcases hc with ⟨h1, _⟩ | ⟨rfl, h1⟩
     · exact absurd h1 hm
     · refine ⟨hb.trans (hb2.mono hb.size), rfl, ?_⟩
       rw [Bool.eq_false_iff]
       intro ho
       rw [okSet_iff] at ho
       have hq := insSum_take_succ hxs
       have h3 := insSum_take_le (steps (flat rs)) (k + 1)
       have h4 := (List.getElem?_eq_some_iff.1 hxs).1
       rcases h1 with h1 | h1 <;> omega
set_option maxRecDepth 100000 in
set_option maxHeartbeats 4000000 in
theorem check_fn (X : World) (NB R : Nat) (rs : List RH) (h : RowsIn X NB R rs) :
 Calls Try.prog 128 #[.func (.func 172) #[] #[.pointer (some ⟨NB, 0, none⟩)]] X fun e w' => e = .returned (.int .i64 (chkN (steps (flat rs)))) ∧ Below X.heap.size X w' := by
 have hf := foldQ_any X NB R ⟨60, 200⟩ (doQ_check h) h.j (by have := h.few; omega) (fun r hr => (h.rows r hr).len) (by have := flat_len h; omega) ⟨Below.refl _ _, by simp, by simp [insSum], by omega, by simp [insSum]⟩
 have hf2 : Calls Try.prog 169 #[.agg #[.int .i64 60, .int .i64 200], .func (.func 172) #[] #[.pointer (some ⟨NB, 0, none⟩)], .func (.func 170) #[] #[]] X fun e w' => ∃ (p q k : Int), e = .returned (.tuple #[.agg #[.int .i64 p, .int .i64 q], .int .i64 k, .int .i64 (chkN (steps (flat rs)))]) ∧ Below X.heap.size X w' := hf.mono (by
  rintro e w' ⟨k, v, n, rfl, hh⟩
  rcases hh with ⟨rfl, rfl, h1⟩ | ⟨_, _, h1, h2, h3⟩
  · have ho : okSet (steps (flat rs)) = true := by
     rw [okSet_iff, steps_len]
     have := h1.2.2.2.2
     rw [List.take_of_length_le (by rw [steps_len]; exact Nat.le_refl _)] at this
     exact ⟨h1.2.2.2.1, this⟩
    exact ⟨v.i, v.k, _, by rw [chkN, if_pos ho]; rfl, h1.1⟩
  · exact ⟨v.i, v.k, _, by rw [chkN, if_neg (by rw [h3]; exact Bool.false_ne_true), h2]; rfl, h1⟩)
 obtain ⟨c, hc⟩ : ∃ c, c = chkN (steps (flat rs)) := ⟨_, rfl⟩
 rw [← hc] at hf2 ⊢
 have HF := Lib.hid hf2
 clear hf hf2 hc h
 go_enter Try.func128, Try.ntmps128
 go_wp2_with fail
 refine HF.out.mono ?_
 rintro e w2 ⟨p, q, k, rfl, hb⟩
 have HB := Lib.hid (hb.trans ((box_below w2 (.cells #[.int .i64 p, .int .i64 q] 190)).mono hb.size))
 clear hb HF
 go_wp2_with fail
 go_ret
 exact ⟨rfl, HB.out⟩
theorem rowsIn_one {X : World} {a : Option Addr} {c : Nat} {vs : List SV} {NB R : Nat} (h : Row X a vs) (h1 : X.heap[NB]? = some (.cells #[.slice (some ⟨R, 0, none⟩) 1 1] 195 (0, 0))) (h2 : X.heap[R]? = some (.cells #[.slice a vs.length c] 25 (0, 0))) : RowsIn X NB R [⟨a, c, vs⟩] :=
 ⟨h1, h2, fun r hr => by rw [List.mem_singleton] at hr; subst hr; exact h, by simp⟩
theorem flat_one (a : Option Addr) (c : Nat) (vs : List SV) : flat [⟨a, c, vs⟩] = vs := by simp [flat]
set_option maxRecDepth 100000 in
set_option maxHeartbeats 4000000 in
theorem Check_any (w : World) (a : Option Addr) (n c : Nat) (vs : List SV) (hn : n = vs.length) (h : Row w a vs) :
 Calls Try.prog 130 #[.slice a n c] w fun e w' => e = .returned (.int .i64 (chkN (steps vs))) ∧ Below w.heap.size w w' := by
 obtain ⟨X, hX⟩ : ∃ X, X = allocs w [.cells #[.slice a n c] 25, .cells #[.slice (some ⟨w.heap.size, 0, none⟩) 1 1] 195] := ⟨_, rfl⟩
 have hb : Below w.heap.size w X := by rw [hX]; exact allocs_below _ _
 have e0 : X.heap[w.heap.size]? = some (.cells #[.slice a n c] 25 (0, 0)) := by rw [hX]; exact allocs_at _ _ 0 _ rfl
 have e1 : X.heap[w.heap.size + 1]? = some (.cells #[.slice (some ⟨w.heap.size, 0, none⟩) 1 1] 195 (0, 0)) := by rw [hX]; exact allocs_at _ _ 1 _ rfl
 have hc := check_fn X (w.heap.size + 1) w.heap.size _ (rowsIn_one (c := c) (h.on hb) e1 (by rw [← hn]; exact e0))
 rw [flat_one] at hc
 have HC := Lib.hid hc
 have HX := Lib.hid hX
 have HB := Lib.hid hb
 obtain ⟨m, hm⟩ : ∃ m, m = chkN (steps vs) := ⟨_, rfl⟩
 rw [← hm] at HC ⊢
 clear hc hX hb e0 e1 hm h hn
 go_enter Try.func130, Try.ntmps130
 go_wp2_with (go_at_call 129; refine (joined_fn _ _ _ _).mono ?_; rintro e w2 ⟨rfl, rfl⟩)
 change Calls _ _ _ (allocs w [.cells #[.slice a n c] 25, .cells #[.slice (some ⟨w.heap.size, 0, none⟩) 1 1] 195]) _
 rw [← HX.out]
 refine HC.out.mono ?_
 rintro e w3 ⟨rfl, hb3⟩
 have HB3 := Lib.hid (HB.out.trans (hb3.mono HB.out.size))
 clear hb3 HC HX
 go_wp2_with fail
 go_ret
 exact ⟨rfl, HB3.out⟩
end Go.Proofs.Ytonapijgfalpaaa
