/-
  .
-/
import Derived.Test.YtgkmmnihaiopaaaJFoldRQa
import Derived.Test.YtgkmmnihaiopaaaIRowIQa
import Derived.Test.YtgkmmnihaiopaaaJIdsQa
import Derived.Test.YtgkmmnihaiopaaaJPgQa
set_option maxRecDepth 100000
set_option maxHeartbeats 40000000
namespace Go.Proofs.Ytgkmmnihaiopaaa
open Go.RowKit Go.Shelf
set_option linter.unusedVariables false
set_option linter.unusedSimpArgs false
def ZI (w : World) (x : SV) : Prop := q9 w x.s.sub.kids x.a x.c
theorem ZI.at {w X : World} {x : SV} (h : ZI w x) (hb : Below w.heap.size w X) : zH X (fun q => q < w.heap.size) (.agg #[.int .i64 x.s.sub.id, .int .i64 x.s.sub.kind, .string x.s.sub.text, .slice x.a (foLen x.s.sub.kids) x.c]) x.s.sub := q9.at h hb
theorem J5 (w X0 : World) (x : SV) (h : ZI X0 x) (hb : Below X0.heap.size X0 w) (hs : ZN x.s) :
 Calls Try.prog 71 #[x.v] w fun e w' => e = .returned (.int .i64 (Yo x.s : Int)) ∧ Below w.heap.size w w' := by
 obtain ⟨sn, hsn⟩ : ∃ sn, sn = foLen x.s.sub.kids := ⟨_, rfl⟩
 obtain ⟨B, hB⟩ : ∃ B, B = w.alloc (.cells #[.int .i8 x.s.op, .int .i64 x.s.id, .int .i64 x.s.par, .int .i64 x.s.at_, .string x.s.tx, .int .i64 x.s.sub.id, .int .i64 x.s.sub.kind, .string x.s.sub.text, .slice x.a sn x.c] 49) := ⟨_, rfl⟩
 have hbw : Below w.heap.size w B := by rw [hB]; exact zh _ _
 have hs0 : B.heap[w.heap.size]? = some (.cells #[.int .i8 x.s.op, .int .i64 x.s.id, .int .i64 x.s.par, .int .i64 x.s.at_, .string x.s.tx, .int .i64 x.s.sub.id, .int .i64 x.s.sub.kind, .string x.s.sub.text, .slice x.a sn x.c] 49 (0, 0)) := by rw [hB]; exact heap_alloc_new _ _
 have hb2 := hb.trans (hbw.mono hb.size)
 have hn := zdL B (fun q => q < X0.heap.size) x.s.sub x.s.op x.s.id x.s.par x.s.at_ x.s.tx x.a sn x.c (fun y hy => nL hy hb2.size) (by rw [hsn]; exact h.at hb2) (by have := hs.size; omega) hs.op
 have hv : x.v = .agg #[.int .i8 x.s.op, .int .i64 x.s.id, .int .i64 x.s.par, .int .i64 x.s.at_, .string x.s.tx, .int .i64 x.s.sub.id, .int .i64 x.s.sub.kind, .string x.s.sub.text, .slice x.a sn x.c] := by rw [hsn]; rfl
 rw [hv]
 obtain ⟨m0, m1, m2, m3, m4, m5, m6, m7, m8⟩ := Qp hs0
 have HN := hH hn
 have HB := hH (aN hbw hB)
 have HS := hH hs
 have hob := Yl hs.op
 clear hn hbw hB hs0 hb2 h hb hs hv hsn
 go_enter Try.func71, Try.ntmps71
 go_upto_region 1 with fail
 rw [← HB.out.2]
 by_cases h1 : x.s.op = 1
 · have hb1 : (x.s.op != 1) = false := by simpa using h1
   have HI := hH (show (jR x.s.op x.s.id x.s.par x.s.sub).length = Yo x.s + 1 ∧ Yo x.s ≤ 250 by
    rw [jR, if_pos h1, Yo, if_pos h1, List.length_cons, yw]; exact ⟨rfl, HS.out.size⟩)
   clear h1 hob
   go_wp2_with fail
   refine HN.out.mono ?_
   rintro e w2 ⟨a, c, rfl, _, hb2⟩
   rw [HI.out.1]
   have HB2 := hH (HB.out.1.trans (hb2.mono HB.out.1.size))
   obtain ⟨n, hn⟩ : ∃ n, n = Yo x.s := ⟨_, rfl⟩
   rw [← hn] at HI ⊢
   have HNN := hH hn
   have hnw : IntKind.i64.wrap (((n + 1 : Nat) : Int) - 1) = (n : Int) := by rw [IntWalk.i64_in _ (by have := HI.out.2; omega)]; omega
   obtain ⟨m, hm⟩ : ∃ m, m = n + 1 := ⟨_, rfl⟩
   rw [← hm] at hnw ⊢
   clear hb2 hn hm
   go_wp2_with fail
   go_ret
   rw [← HNN.out]
   exact ⟨rfl, HB2.out⟩
 · have hb1 : (x.s.op != 1) = true := by simpa using h1
   have HI := hH (show Yo x.s = 0 by rw [Yo, if_neg h1])
   clear h1 hob
   go_wp2_with fail
   go_ret
   rw [HI.out]
   exact ⟨rfl, HB.out.1⟩
def zeh (w : World) (p q n : Int) (e : Ending) (w' : World) : Prop := ∃ (p' q' m : Int), e = .returned (.tuple #[.agg #[.int .i64 p', .int .i64 q'], .int .i64 m]) ∧ Below w.heap.size w w' ∧ ((m = 0 ∧ p' = p - 1 ∧ q' = q - n ∧ 0 ≤ p - 1 ∧ 0 ≤ q - n) ∨ (m = 3 ∧ (p - 1 < 0 ∨ q - n < 0)))
theorem vK {fn : Func} (h : fn.results = #[.cell 4 121, .tmp 5]) {w W : World} {tmps : Array Value} {p q n p' q' m : Int} {g : Nat} (hb : Below w.heap.size w W) (hz : W.heap[g]? = some (.cells #[.int .i64 p', .int .i64 q'] 121 (0, 0))) (hc : (m = 0 ∧ p' = p - 1 ∧ q' = q - n ∧ 0 ≤ p - 1 ∧ 0 ≤ q - n) ∨ (m = 3 ∧ (p - 1 < 0 ∨ q - n < 0)))
 (h1 : tmps.getD 4 undef = .pointer (some ⟨g, 0, none⟩)) (h2 : tmps.getD 5 undef = .int .i64 m) : bodyPost Try.prog fn (zeh w p q n) .ret { tmps, defers := [] } W := by
 refine bodyPost_ret (qW h tmps W g 121 _ _ _ (.int .i64 m) h1 hz Try.underlying121 rfl (by kernel_rfl) h2) rfl ?_
 exact ⟨p', q', m, rfl, hb, hc⟩
theorem zb4 (w X0 : World) (x : SV) (p q : Int) (h : ZI X0 x) (hb : Below X0.heap.size X0 w) (hs : ZN x.s) (hp : 0 ≤ p ∧ p ≤ 60) (hq : 0 ≤ q ∧ q ≤ 200) :
 Calls Try.prog 70 #[.agg #[.int .i64 p, .int .i64 q], x.v] w (zeh w p q (Yo x.s : Int)) := by
 obtain ⟨sn, hsn⟩ : ∃ sn, sn = foLen x.s.sub.kids := ⟨_, rfl⟩
 have hv : x.v = .agg #[.int .i8 x.s.op, .int .i64 x.s.id, .int .i64 x.s.par, .int .i64 x.s.at_, .string x.s.tx, .int .i64 x.s.sub.id, .int .i64 x.s.sub.kind, .string x.s.sub.text, .slice x.a sn x.c] := by rw [hsn]; rfl
 have hni : Yo x.s ≤ 250 := by have := hs.size; unfold Yo; split <;> omega
 obtain ⟨n, hn⟩ : ∃ n : Int, n = (Yo x.s : Int) := ⟨_, rfl⟩
 have hn2 : 0 ≤ n ∧ n ≤ 250 := by omega
 obtain ⟨B, hB⟩ : ∃ B, B = zq w [.cells #[.int .i64 p, .int .i64 q] 121, .cells #[.int .i8 x.s.op, .int .i64 x.s.id, .int .i64 x.s.par, .int .i64 x.s.at_, .string x.s.tx, .int .i64 x.s.sub.id, .int .i64 x.s.sub.kind, .string x.s.sub.text, .slice x.a sn x.c] 49, .cells #[.int .i64 0, .int .i64 0] 121] := ⟨_, rfl⟩
 have hbw : Below w.heap.size w B := by rw [hB]; exact zm _ _
 have hsz : B.heap.size = w.heap.size + 3 := by rw [hB]; exact zx _ _
 have e0 : B.heap[w.heap.size]? = some (.cells #[.int .i64 p, .int .i64 q] 121 (0, 0)) := by rw [hB]; exact zi _ _ 0 _ rfl
 have e1 : B.heap[w.heap.size + 1]? = some (.cells #[.int .i8 x.s.op, .int .i64 x.s.id, .int .i64 x.s.par, .int .i64 x.s.at_, .string x.s.tx, .int .i64 x.s.sub.id, .int .i64 x.s.sub.kind, .string x.s.sub.text, .slice x.a sn x.c] 49 (0, 0)) := by rw [hB]; exact zi _ _ 1 _ rfl
 have e2 : B.heap[w.heap.size + 1 + 1]? = some (.cells #[.int .i64 0, .int .i64 0] 121 (0, 0)) := by rw [hB]; exact zi _ _ 2 _ rfl
 obtain ⟨p1, hp1⟩ : ∃ p1, p1 = p - 1 := ⟨_, rfl⟩
 obtain ⟨q1, hq1⟩ : ∃ q1, q1 = q - n := ⟨_, rfl⟩
 have hw1 : IntKind.i64.wrap (p - 1) = p1 := by rw [hp1]; exact IntWalk.i64_in _ (by omega)
 have hw2 : IntKind.i64.wrap (q - n) = q1 := by rw [hq1]; exact IntWalk.i64_in _ (by omega)
 obtain ⟨W1, hW1, r1, r2, r3, r4, r5, r6⟩ := one_set (i := 0) (u := .int .i64 p1) e0
 have r1' : W1.heap[w.heap.size]? = some (.cells #[.int .i64 p1, .int .i64 q] 121 (0, 0)) := by simpa using r1
 have hb1 : Below w.heap.size w W1 := ⟨r3.trans hbw.os, r4.trans hbw.tape, r5.trans hbw.output, by rw [r6]; exact hbw.size, fun y hy => (r2 y (by omega)).trans (hbw.block y hy)⟩
 have f1 : W1.heap[w.heap.size + 1]? = some (.cells #[.int .i8 x.s.op, .int .i64 x.s.id, .int .i64 x.s.par, .int .i64 x.s.at_, .string x.s.tx, .int .i64 x.s.sub.id, .int .i64 x.s.sub.kind, .string x.s.sub.text, .slice x.a sn x.c] 49 (0, 0)) := (r2 _ (by omega)).trans e1
 have f2 : W1.heap[w.heap.size + 1 + 1]? = some (.cells #[.int .i64 0, .int .i64 0] 121 (0, 0)) := (r2 _ (by omega)).trans e2
 have hc : ∀ X, Below W1.heap.size W1 X → X.cell? ⟨w.heap.size, 0, none⟩ = some (.int .i64 p1) ∧ X.cell? ⟨w.heap.size, 1, none⟩ = some (.int .i64 q) ∧ X.cell? ⟨w.heap.size + 1, 0, none⟩ = some (.int .i8 x.s.op) ∧ X.cell? ⟨w.heap.size + 1, 1, none⟩ = some (.int .i64 x.s.id) ∧ X.cell? ⟨w.heap.size + 1, 2, none⟩ = some (.int .i64 x.s.par) ∧ X.cell? ⟨w.heap.size + 1, 3, none⟩ = some (.int .i64 x.s.at_) ∧ X.cell? ⟨w.heap.size + 1, 4, none⟩ = some (.string x.s.tx) ∧ X.cell? ⟨w.heap.size + 1, 5, none⟩ = some (.int .i64 x.s.sub.id) ∧ X.cell? ⟨w.heap.size + 1, 6, none⟩ = some (.int .i64 x.s.sub.kind) ∧ X.cell? ⟨w.heap.size + 1, 7, none⟩ = some (.string x.s.sub.text) ∧ X.cell? ⟨w.heap.size + 1, 8, none⟩ = some (.slice x.a sn x.c) := fun X hX =>
  ⟨(vX ((hX.block _ (lt_of_heap r1')).trans r1')).1, (vX ((hX.block _ (lt_of_heap r1')).trans r1')).2, Qp ((hX.block _ (lt_of_heap f1)).trans f1)⟩
 have hi : ∀ X, Below W1.heap.size W1 X → Calls Try.prog 71 #[.agg #[.int .i8 x.s.op, .int .i64 x.s.id, .int .i64 x.s.par, .int .i64 x.s.at_, .string x.s.tx, .int .i64 x.s.sub.id, .int .i64 x.s.sub.kind, .string x.s.sub.text, .slice x.a sn x.c]] X fun e w' => e = .returned (.int .i64 n) ∧ Below X.heap.size X w' := fun X hX => by
  rw [← hv, hn]
  exact J5 X X0 x h ((hb.trans (hb1.mono hb.size)).trans (hX.mono (Nat.le_trans hb.size hb1.size))) hs
 rw [hv, ← hn]
 have HC := hH hc
 have HI := hH hi
 have HE := hH (aN hB (aN hW1 (aN hb1 (aN r1' f2))))
 have HP := hH (aN hp1 hq1)
 have HF := hH f1
 obtain ⟨z0, z1⟩ := vX e0
 have zf : B.frozen? ⟨w.heap.size, 0, none⟩ = false := frozen_of_row _ _ 0 _ _ e0
 clear hc hi hB hW1 hb1 r1 r1' f1 f2 r2 r3 r4 r5 r6 hbw hsz e0 e1 e2 hp1 hq1 h hb hs hp hq hn2 hni hn hv hsn
 go_enter Try.func70, Try.ntmps70
 go_upto_region 1 with fail
 change Code.wp _ _ _ _ (zq w [.cells #[.int .i64 p, .int .i64 q] 121, .cells #[.int .i8 x.s.op, .int .i64 x.s.id, .int .i64 x.s.par, .int .i64 x.s.at_, .string x.s.tx, .int .i64 x.s.sub.id, .int .i64 x.s.sub.kind, .string x.s.sub.text, .slice x.a sn x.c] 49, .cells #[.int .i64 0, .int .i64 0] 121])
 rw [← HE.out.1]
 go_upto_region 2 with fail
 rw [← HE.out.2.1]
 clear z0 z1 zf
 have hst : ∀ X, zk W1 X (fun y => y = w.heap.size) → X.cell? ⟨w.heap.size + 1, 0, none⟩ = some (.int .i8 x.s.op) ∧ X.cell? ⟨w.heap.size + 1, 1, none⟩ = some (.int .i64 x.s.id) ∧ X.cell? ⟨w.heap.size + 1, 2, none⟩ = some (.int .i64 x.s.par) ∧ X.cell? ⟨w.heap.size + 1, 3, none⟩ = some (.int .i64 x.s.at_) ∧ X.cell? ⟨w.heap.size + 1, 4, none⟩ = some (.string x.s.tx) ∧ X.cell? ⟨w.heap.size + 1, 5, none⟩ = some (.int .i64 x.s.sub.id) ∧ X.cell? ⟨w.heap.size + 1, 6, none⟩ = some (.int .i64 x.s.sub.kind) ∧ X.cell? ⟨w.heap.size + 1, 7, none⟩ = some (.string x.s.sub.text) ∧ X.cell? ⟨w.heap.size + 1, 8, none⟩ = some (.slice x.a sn x.c) := fun X hX => Qp ((hX.block _ (lt_of_heap HF.out) (by omega)).trans HF.out)
 have HST := hH hst
 clear hst
 refine wp_region_held_drew (S := fun X => zk W1 X (fun y => y = w.heap.size)) (by kernel_rfl) (zk.refl _ _).drew (fun hHeld => ?_)
 refine tkH (i := 0) (.pointer (some ⟨w.heap.size, 1, none⟩)) rfl (Or.inl ⟨by rfl, ?_⟩) (by assumption) ?_
 · clear hHeld; intro X hSw; obtain ⟨m0, m1, m2, m3, m4, m5, m6, m7, m8⟩ := HST.out X hSw; clear hSw; go_simp
 simp only [Act.put, pg]
 refine tkH (i := 2) (.agg #[.int .i8 x.s.op, .int .i64 x.s.id, .int .i64 x.s.par, .int .i64 x.s.at_, .string x.s.tx, .int .i64 x.s.sub.id, .int .i64 x.s.sub.kind, .string x.s.sub.text, .slice x.a sn x.c]) rfl (Or.inl ⟨by rfl, ?_⟩) (by assumption) ?_
 · clear hHeld; intro X hSw; obtain ⟨m0, m1, m2, m3, m4, m5, m6, m7, m8⟩ := HST.out X hSw; clear hSw; go_simp
 simp only [Act.put, pg]
 refine wpAnyH_ready (rs := [1, 3]) (by kernel_rfl) (by simp) ?_
 refine AllReadyH.cons (o := _) rfl (fun K hK => ?_) (AllReadyH.cons (o := _) rfl (fun K hK => ?_) AllReadyH.nil)
 · skip
   rw [if_pos (by rfl)]
   simp only [pg3]
   have HK := hH hK
   have HS := hH hHeld
   clear hK hHeld
   obtain ⟨_, k1, _⟩ := HC.out W1 (Below.refl _ _)
   go_wp2_with fail
   refine HK.out _ _ HS.out (fun hHeld => ?_)
   clear HK HS k1
   refine wpAnyH_ready (rs := [3]) (by kernel_rfl) (by simp) ?_
   refine AllReadyH.cons (o := _) rfl (fun K hK => ?_) AllReadyH.nil
   rw [if_pos (by rfl)]
   simp only [pg3]
   have HK := hH hK
   have HS := hH hHeld
   clear hK hHeld
   go_wp2_with (go_at_call 71; refine (HI.out _ (below_drewN (Below.refl _ W1) 1)).mono ?_; rintro e w4 ⟨rfl, hib⟩; have HIB := hH ((below_drewN (Below.refl _ W1) 1).trans hib); clear hib)
   refine HK.out _ _ ⟨HIB.out.os, HIB.out.tape, HIB.out.output, HIB.out.size, fun y h1 _ => HIB.out.block y h1⟩ (fun hHeld => ?_)
   clear HK HS
   refine tkH (i := 4) (.int .i64 q1) rfl (Or.inl ⟨by rfl, ?_⟩) (by assumption) ?_
   · clear hHeld; intro X hSw; obtain ⟨m0, m1, m2, m3, m4, m5, m6, m7, m8⟩ := HST.out X hSw; clear hSw; go_simp
   simp only [Act.put, pg]
   refine tkH (i := 5) (.pointer (some ⟨w.heap.size, 1, none⟩)) rfl (Or.inl ⟨by rfl, ?_⟩) (by assumption) ?_
   · clear hHeld; intro X hSw; obtain ⟨m0, m1, m2, m3, m4, m5, m6, m7, m8⟩ := HST.out X hSw; clear hSw; go_simp
   simp only [Act.put, pg]
   refine wpAnyH_ready (rs := [6]) (by kernel_rfl) (by simp) ?_
   refine AllReadyH.cons (o := _) rfl (fun K hK => ?_) AllReadyH.nil
   rw [if_pos (by rfl)]
   simp only [pg3]
   have HK := hH hK
   have HS := hH hHeld
   clear hK hHeld
   obtain ⟨k0, k1, _⟩ := HC.out w4 HIB.out
   have e4 := (HIB.out.block _ (lt_of_heap HE.out.2.2.2.1)).trans HE.out.2.2.2.1
   have q1f : w4.frozen? ⟨w.heap.size, 1, none⟩ = false := frozen_of_row _ _ 1 _ _ e4
   obtain ⟨W5, hW5, r1, r2, r3, r4, r5, r6⟩ := one_set (i := 1) (u := .int .i64 q1) e4
   have r1' : W5.heap[w.heap.size]? = some (.cells #[.int .i64 p1, .int .i64 q1] 121 (0, 0)) := by simpa using r1
   have hbz := HE.out.2.2.1.trans (HIB.out.mono HE.out.2.2.1.size)
   have hb5 : Below w.heap.size w W5 := ⟨r3.trans hbz.os, r4.trans hbz.tape, r5.trans hbz.output, by rw [r6]; exact hbz.size, fun y hy => (r2 y (by omega)).trans (hbz.block y hy)⟩
   have f5 : W5.heap[w.heap.size + 1 + 1]? = some (.cells #[.int .i64 0, .int .i64 0] 121 (0, 0)) := (r2 _ (by omega)).trans ((HIB.out.block _ (lt_of_heap HE.out.2.2.2.2)).trans HE.out.2.2.2.2)
   have ht5 : zk W1 W5 (fun y => y = w.heap.size) := ⟨r3.trans HIB.out.os, r4.trans HIB.out.tape, r5.trans HIB.out.output, by rw [r6]; exact HIB.out.size, fun y h1 h2 => (r2 y h2).trans (HIB.out.block y h1)⟩
   have H5 := hH (aN hW5 (aN r1' (aN hb5 (aN f5 ht5))))
   clear hW5 r1 r1' r2 r3 r4 r5 r6 hbz hb5 f5 e4 ht5
   go_wp2_with fail
   rw [← H5.out.1]
   refine HK.out _ _ H5.out.2.2.2.2 (fun hHeld => ?_)
   clear HK HS k0 k1 q1f
   refine wpAnyH_done (by kernel_rfl) ?_ _
   clear hHeld
   obtain ⟨k0, k1⟩ := vX H5.out.2.1
   obtain ⟨y0, y1⟩ := vX H5.out.2.2.2.1
   have yf : ∀ j, W5.frozen? ⟨w.heap.size + 1 + 1, j, none⟩ = false := fun j => frozen_of_row _ _ j _ _ H5.out.2.2.2.1
   by_cases hp0 : p1 < 0
   · obtain ⟨V, hV, r1, r2, r3, r4, r5, r6⟩ := qZ (u0 := .int .i64 0) (u1 := .int .i64 0) H5.out.2.2.2.1
     have HEE := hH (aN hV (aN r1 (aN r2 (aN r3 (aN r4 (aN r5 (aN r6 hp0)))))))
     clear hV r1 r2 r3 r4 r5 r6
     go_wp2_with fail
     rw [← HEE.out.1]
     obtain ⟨hV, r1, r2, r3, r4, r5, r6, hp0⟩ := HEE.out
     have hb5 := H5.out.2.2.1
     exact vK rfl ⟨r3.trans hb5.os, r4.trans hb5.tape, r5.trans hb5.output, by rw [r6]; exact hb5.size, fun k hk => (r2 k (by omega)).trans (hb5.block k hk)⟩ r1 (Or.inr ⟨rfl, Or.inl (by rw [← HP.out.1]; exact hp0)⟩) rfl rfl
   · by_cases hq0 : q1 < 0
     · obtain ⟨V, hV, r1, r2, r3, r4, r5, r6⟩ := qZ (u0 := .int .i64 0) (u1 := .int .i64 0) H5.out.2.2.2.1
       have HEE := hH (aN hV (aN r1 (aN r2 (aN r3 (aN r4 (aN r5 (aN r6 hq0)))))))
       clear hV r1 r2 r3 r4 r5 r6
       go_wp2_with fail
       rw [← HEE.out.1]
       obtain ⟨hV, r1, r2, r3, r4, r5, r6, hp0⟩ := HEE.out
       have hb5 := H5.out.2.2.1
       exact vK rfl ⟨r3.trans hb5.os, r4.trans hb5.tape, r5.trans hb5.output, by rw [r6]; exact hb5.size, fun k hk => (r2 k (by omega)).trans (hb5.block k hk)⟩ r1 (Or.inr ⟨rfl, Or.inr (by rw [← HP.out.2]; exact hp0)⟩) rfl rfl
     · obtain ⟨V, hV, r1, r2, r3, r4, r5, r6⟩ := qZ (u0 := .int .i64 p1) (u1 := .int .i64 q1) H5.out.2.2.2.1
       have HEE := hH (aN hV (aN r1 (aN r2 (aN r3 (aN r4 (aN r5 (aN r6 (aN hp0 hq0))))))))
       clear hV r1 r2 r3 r4 r5 r6
       go_wp2_with fail
       rw [← HEE.out.1]
       obtain ⟨hV, r1, r2, r3, r4, r5, r6, hp0, hq0⟩ := HEE.out
       have hb5 := H5.out.2.2.1
       exact vK rfl ⟨r3.trans hb5.os, r4.trans hb5.tape, r5.trans hb5.output, by rw [r6]; exact hb5.size, fun k hk => (r2 k (by omega)).trans (hb5.block k hk)⟩ r1 (Or.inl ⟨rfl, HP.out.1, HP.out.2, by rw [← HP.out.1]; omega, by rw [← HP.out.2]; omega⟩) rfl rfl
 · skip
   rw [if_pos (by rfl)]
   simp only [pg3]
   have HK := hH hK
   have HS := hH hHeld
   clear hK hHeld
   go_wp2_with (go_at_call 71; refine (HI.out _ (below_drewN (Below.refl _ W1) 1)).mono ?_; rintro e w4 ⟨rfl, hib⟩; have HIB := hH ((below_drewN (Below.refl _ W1) 1).trans hib); clear hib)
   refine HK.out _ _ ⟨HIB.out.os, HIB.out.tape, HIB.out.output, HIB.out.size, fun y h1 _ => HIB.out.block y h1⟩ (fun hHeld => ?_)
   clear HK HS
   refine wpAnyH_ready (rs := [1]) (by kernel_rfl) (by simp) ?_
   refine AllReadyH.cons (o := _) rfl (fun K hK => ?_) AllReadyH.nil
   rw [if_pos (by rfl)]
   simp only [pg3]
   have HK := hH hK
   have HS := hH hHeld
   clear hK hHeld
   obtain ⟨_, k1, _⟩ := HC.out w4 HIB.out
   go_wp2_with fail
   refine HK.out _ _ HS.out (fun hHeld => ?_)
   clear HK HS k1
   refine tkH (i := 4) (.int .i64 q1) rfl (Or.inl ⟨by rfl, ?_⟩) (by assumption) ?_
   · clear hHeld; intro X hSw; obtain ⟨m0, m1, m2, m3, m4, m5, m6, m7, m8⟩ := HST.out X hSw; clear hSw; go_simp
   simp only [Act.put, pg]
   refine tkH (i := 5) (.pointer (some ⟨w.heap.size, 1, none⟩)) rfl (Or.inl ⟨by rfl, ?_⟩) (by assumption) ?_
   · clear hHeld; intro X hSw; obtain ⟨m0, m1, m2, m3, m4, m5, m6, m7, m8⟩ := HST.out X hSw; clear hSw; go_simp
   simp only [Act.put, pg]
   refine wpAnyH_ready (rs := [6]) (by kernel_rfl) (by simp) ?_
   refine AllReadyH.cons (o := _) rfl (fun K hK => ?_) AllReadyH.nil
   rw [if_pos (by rfl)]
   simp only [pg3]
   have HK := hH hK
   have HS := hH hHeld
   clear hK hHeld
   obtain ⟨k0, k1, _⟩ := HC.out w4 HIB.out
   have e4 := (HIB.out.block _ (lt_of_heap HE.out.2.2.2.1)).trans HE.out.2.2.2.1
   have q1f : w4.frozen? ⟨w.heap.size, 1, none⟩ = false := frozen_of_row _ _ 1 _ _ e4
   obtain ⟨W5, hW5, r1, r2, r3, r4, r5, r6⟩ := one_set (i := 1) (u := .int .i64 q1) e4
   have r1' : W5.heap[w.heap.size]? = some (.cells #[.int .i64 p1, .int .i64 q1] 121 (0, 0)) := by simpa using r1
   have hbz := HE.out.2.2.1.trans (HIB.out.mono HE.out.2.2.1.size)
   have hb5 : Below w.heap.size w W5 := ⟨r3.trans hbz.os, r4.trans hbz.tape, r5.trans hbz.output, by rw [r6]; exact hbz.size, fun y hy => (r2 y (by omega)).trans (hbz.block y hy)⟩
   have f5 : W5.heap[w.heap.size + 1 + 1]? = some (.cells #[.int .i64 0, .int .i64 0] 121 (0, 0)) := (r2 _ (by omega)).trans ((HIB.out.block _ (lt_of_heap HE.out.2.2.2.2)).trans HE.out.2.2.2.2)
   have ht5 : zk W1 W5 (fun y => y = w.heap.size) := ⟨r3.trans HIB.out.os, r4.trans HIB.out.tape, r5.trans HIB.out.output, by rw [r6]; exact HIB.out.size, fun y h1 h2 => (r2 y h2).trans (HIB.out.block y h1)⟩
   have H5 := hH (aN hW5 (aN r1' (aN hb5 (aN f5 ht5))))
   clear hW5 r1 r1' r2 r3 r4 r5 r6 hbz hb5 f5 e4 ht5
   go_wp2_with fail
   rw [← H5.out.1]
   refine HK.out _ _ H5.out.2.2.2.2 (fun hHeld => ?_)
   clear HK HS k0 k1 q1f
   refine wpAnyH_done (by kernel_rfl) ?_ _
   clear hHeld
   obtain ⟨k0, k1⟩ := vX H5.out.2.1
   obtain ⟨y0, y1⟩ := vX H5.out.2.2.2.1
   have yf : ∀ j, W5.frozen? ⟨w.heap.size + 1 + 1, j, none⟩ = false := fun j => frozen_of_row _ _ j _ _ H5.out.2.2.2.1
   by_cases hp0 : p1 < 0
   · obtain ⟨V, hV, r1, r2, r3, r4, r5, r6⟩ := qZ (u0 := .int .i64 0) (u1 := .int .i64 0) H5.out.2.2.2.1
     have HEE := hH (aN hV (aN r1 (aN r2 (aN r3 (aN r4 (aN r5 (aN r6 hp0)))))))
     clear hV r1 r2 r3 r4 r5 r6
     go_wp2_with fail
     rw [← HEE.out.1]
     obtain ⟨hV, r1, r2, r3, r4, r5, r6, hp0⟩ := HEE.out
     have hb5 := H5.out.2.2.1
     exact vK rfl ⟨r3.trans hb5.os, r4.trans hb5.tape, r5.trans hb5.output, by rw [r6]; exact hb5.size, fun k hk => (r2 k (by omega)).trans (hb5.block k hk)⟩ r1 (Or.inr ⟨rfl, Or.inl (by rw [← HP.out.1]; exact hp0)⟩) rfl rfl
   · by_cases hq0 : q1 < 0
     · obtain ⟨V, hV, r1, r2, r3, r4, r5, r6⟩ := qZ (u0 := .int .i64 0) (u1 := .int .i64 0) H5.out.2.2.2.1
       have HEE := hH (aN hV (aN r1 (aN r2 (aN r3 (aN r4 (aN r5 (aN r6 hq0)))))))
       clear hV r1 r2 r3 r4 r5 r6
       go_wp2_with fail
       rw [← HEE.out.1]
       obtain ⟨hV, r1, r2, r3, r4, r5, r6, hp0⟩ := HEE.out
       have hb5 := H5.out.2.2.1
       exact vK rfl ⟨r3.trans hb5.os, r4.trans hb5.tape, r5.trans hb5.output, by rw [r6]; exact hb5.size, fun k hk => (r2 k (by omega)).trans (hb5.block k hk)⟩ r1 (Or.inr ⟨rfl, Or.inr (by rw [← HP.out.2]; exact hp0)⟩) rfl rfl
     · obtain ⟨V, hV, r1, r2, r3, r4, r5, r6⟩ := qZ (u0 := .int .i64 p1) (u1 := .int .i64 q1) H5.out.2.2.2.1
       have HEE := hH (aN hV (aN r1 (aN r2 (aN r3 (aN r4 (aN r5 (aN r6 (aN hp0 hq0))))))))
       clear hV r1 r2 r3 r4 r5 r6
       go_wp2_with fail
       rw [← HEE.out.1]
       obtain ⟨hV, r1, r2, r3, r4, r5, r6, hp0, hq0⟩ := HEE.out
       have hb5 := H5.out.2.2.1
       exact vK rfl ⟨r3.trans hb5.os, r4.trans hb5.tape, r5.trans hb5.output, by rw [r6]; exact hb5.size, fun k hk => (r2 k (by omega)).trans (hb5.block k hk)⟩ r1 (Or.inl ⟨rfl, HP.out.1, HP.out.2, by rw [← HP.out.1]; omega, by rw [← HP.out.2]; omega⟩) rfl rfl
end Go.Proofs.Ytgkmmnihaiopaaa
