/-
  .
-/
import Derived.Test.YtchccbfljamjnaaGreatJFoldRQn
import Derived.Test.YtchccbfljamjnaaGreatIBacksQn
import Derived.Test.YtchccbfljamjnaaGreatJIdsQn
import Derived.Test.YtchccbfljamjnaaGreatICopyPQn
import Derived.Deep.Cut
import Derived.Deep.CutRange
import Derived.Deep.LoopGhost
import Derived.Deep.AppendLies
import Derived.Test.YtchccbfljamjnaaGreatWSameQn
import Derived.Test.YtchccbfljamjnaaGreatJPgQn
set_option maxRecDepth 100000
set_option maxHeartbeats 40000000
set_option linter.unusedVariables false
set_option linter.unusedSimpArgs false
namespace Go.Proofs.YtchccbfljamjnaaGreat
open Go.RowKit Go.Shelf
def vV (w : World) (x : SV) : Prop := qO w x.s.sub.kids x.a x.c
theorem vV.at {w X : World} {x : SV} (h : vV w x) (hb : Below w.heap.size w X) : qP X (fun q => q < w.heap.size) (.agg #[.int .i64 x.s.sub.id, .int .i64 x.s.sub.kind, .string x.s.sub.text, .slice x.a (foLen x.s.sub.kids) x.c]) x.s.sub := qO.at h hb
theorem Qn (w X0 : World) (x : SV) (h : vV X0 x) (hb : Below X0.heap.size X0 w) (hs : ZB x.s) :
 Calls Tryz.prog 95 #[x.v] w fun e w' => e = .returned (.int .i64 (vE x.s : Int)) ∧ Below w.heap.size w w' := by
 obtain ⟨sn, hsn⟩ : ∃ sn, sn = foLen x.s.sub.kids := ⟨_, rfl⟩
 obtain ⟨B, hB⟩ : ∃ B, B = w.alloc (.cells #[.int .i8 x.s.op, .int .i64 x.s.id, .int .i64 x.s.par, .int .i64 x.s.at_, .string x.s.tx, .int .i64 x.s.sub.id, .int .i64 x.s.sub.kind, .string x.s.sub.text, .slice x.a sn x.c] 41) := ⟨_, rfl⟩
 have hbw : Below w.heap.size w B := by rw [hB]; exact qw _ _
 have hs0 : B.heap[w.heap.size]? = some (.cells #[.int .i8 x.s.op, .int .i64 x.s.id, .int .i64 x.s.par, .int .i64 x.s.at_, .string x.s.tx, .int .i64 x.s.sub.id, .int .i64 x.s.sub.kind, .string x.s.sub.text, .slice x.a sn x.c] 41 (0, 0)) := by rw [hB]; exact heap_alloc_new _ _
 have hb2 := hb.trans (hbw.mono hb.size)
 have hn := zbR B (fun q => q < X0.heap.size) x.s.sub x.s.op x.s.id x.s.par x.s.at_ x.s.tx x.a sn x.c (fun y hy => nL hy hb2.size) (by rw [hsn]; exact h.at hb2) (by have := hs.size; omega) hs.op
 have hv : x.v = .agg #[.int .i8 x.s.op, .int .i64 x.s.id, .int .i64 x.s.par, .int .i64 x.s.at_, .string x.s.tx, .int .i64 x.s.sub.id, .int .i64 x.s.sub.kind, .string x.s.sub.text, .slice x.a sn x.c] := by rw [hsn]; rfl
 rw [hv]
 obtain ⟨m0, m1, m2, m3, m4, m5, m6, m7, m8⟩ := yV hs0
 have HN := hH hn
 have HB := hH (aN hbw hB)
 have HS := hH hs
 have hob := kU hs.op
 clear hn hbw hB hs0 hb2 h hb hs hv hsn
 go_enter Tryz.func95, Tryz.ntmps95
 go_upto_region 1 with fail
 rw [← HB.out.2]
 by_cases h1 : x.s.op = 1
 · have hb1 : (x.s.op != 1) = false := by simpa using h1
   have HI := hH (show (jl x.s.op x.s.id x.s.par x.s.sub).length = vE x.s + 1 ∧ vE x.s ≤ 2000 by
    rw [jl, if_pos h1, vE, if_pos h1, List.length_cons, vD]; exact ⟨rfl, HS.out.size⟩)
   clear h1 hob
   go_wp2_with fail
   refine HN.out.mono ?_
   rintro e w2 ⟨a, c, rfl, _, hb2⟩
   rw [HI.out.1]
   have HB2 := hH (HB.out.1.trans (hb2.mono HB.out.1.size))
   obtain ⟨n, hn⟩ : ∃ n, n = vE x.s := ⟨_, rfl⟩
   rw [← hn] at HI ⊢
   have HNN := hH hn
   have hnw : IntKind.i64.wrap (((n + 1 : Nat) : Int) - 1) = (n : Int) := by rw [IntWalk.i64_in _ (by have := HI.out.2; omega)]; omega
   obtain ⟨m, hm⟩ : ∃ m, m = n + 1 := ⟨_, rfl⟩
   rw [← hm] at hnw ⊢
   clear hb2 hn hm
   go_wp2_with fail
   go_ret
   rw [← HNN.out]
   exact ⟨rfl, HB2.out⟩
 · have hb1 : (x.s.op != 1) = true := by simpa using h1
   have HI := hH (show vE x.s = 0 by rw [vE, if_neg h1])
   clear h1 hob
   go_wp2_with fail
   go_ret
   rw [HI.out]
   exact ⟨rfl, HB.out.1⟩
def zcu (w : World) (p q n : Int) (e : Ending) (w' : World) : Prop := ∃ (p' q' m : Int), e = .returned (.tuple #[.agg #[.int .i64 p', .int .i64 q'], .int .i64 m]) ∧ Below w.heap.size w w' ∧ ((m = 0 ∧ p' = p - 1 ∧ q' = q - n ∧ 0 ≤ p - 1 ∧ 0 ≤ q - n) ∨ (m = 3 ∧ (p - 1 < 0 ∨ q - n < 0)))
theorem vk {fn : Func} (h : fn.results = #[.cell 4 128, .tmp 5]) {w W : World} {tmps : Array Value} {p q n p' q' m : Int} {g : Nat} (hb : Below w.heap.size w W) (hz : W.heap[g]? = some (.cells #[.int .i64 p', .int .i64 q'] 128 (0, 0))) (hc : (m = 0 ∧ p' = p - 1 ∧ q' = q - n ∧ 0 ≤ p - 1 ∧ 0 ≤ q - n) ∨ (m = 3 ∧ (p - 1 < 0 ∨ q - n < 0)))
 (h1 : tmps.getD 4 undef = .pointer (some ⟨g, 0, none⟩)) (h2 : tmps.getD 5 undef = .int .i64 m) : bodyPost Tryz.prog fn (zcu w p q n) .ret { tmps, defers := [] } W := by
 refine bodyPost_ret (zR h tmps W g 128 _ _ _ (.int .i64 m) h1 hz Tryz.underlying128 rfl (by kernel_rfl) h2) rfl ?_
 exact ⟨p', q', m, rfl, hb, hc⟩
theorem zah (w X0 : World) (x : SV) (p q : Int) (h : vV X0 x) (hb : Below X0.heap.size X0 w) (hs : ZB x.s) (hp : 0 ≤ p ∧ p ≤ 60) (hq : 0 ≤ q ∧ q ≤ 200) :
 Calls Tryz.prog 94 #[.agg #[.int .i64 p, .int .i64 q], x.v] w (zcu w p q (vE x.s : Int)) := by
 obtain ⟨sn, hsn⟩ : ∃ sn, sn = foLen x.s.sub.kids := ⟨_, rfl⟩
 have hv : x.v = .agg #[.int .i8 x.s.op, .int .i64 x.s.id, .int .i64 x.s.par, .int .i64 x.s.at_, .string x.s.tx, .int .i64 x.s.sub.id, .int .i64 x.s.sub.kind, .string x.s.sub.text, .slice x.a sn x.c] := by rw [hsn]; rfl
 have hni : vE x.s ≤ 2000 := by have := hs.size; unfold vE; split <;> omega
 obtain ⟨n, hn⟩ : ∃ n : Int, n = (vE x.s : Int) := ⟨_, rfl⟩
 have hn2 : 0 ≤ n ∧ n ≤ 2000 := by omega
 obtain ⟨B, hB⟩ : ∃ B, B = zn w [.cells #[.int .i64 p, .int .i64 q] 128, .cells #[.int .i8 x.s.op, .int .i64 x.s.id, .int .i64 x.s.par, .int .i64 x.s.at_, .string x.s.tx, .int .i64 x.s.sub.id, .int .i64 x.s.sub.kind, .string x.s.sub.text, .slice x.a sn x.c] 41, .cells #[.int .i64 0, .int .i64 0] 128] := ⟨_, rfl⟩
 have hbw : Below w.heap.size w B := by rw [hB]; exact zl _ _
 have hsz : B.heap.size = w.heap.size + 3 := by rw [hB]; exact yM _ _
 have e0 : B.heap[w.heap.size]? = some (.cells #[.int .i64 p, .int .i64 q] 128 (0, 0)) := by rw [hB]; exact zg _ _ 0 _ rfl
 have e1 : B.heap[w.heap.size + 1]? = some (.cells #[.int .i8 x.s.op, .int .i64 x.s.id, .int .i64 x.s.par, .int .i64 x.s.at_, .string x.s.tx, .int .i64 x.s.sub.id, .int .i64 x.s.sub.kind, .string x.s.sub.text, .slice x.a sn x.c] 41 (0, 0)) := by rw [hB]; exact zg _ _ 1 _ rfl
 have e2 : B.heap[w.heap.size + 1 + 1]? = some (.cells #[.int .i64 0, .int .i64 0] 128 (0, 0)) := by rw [hB]; exact zg _ _ 2 _ rfl
 obtain ⟨p1, hp1⟩ : ∃ p1, p1 = p - 1 := ⟨_, rfl⟩
 obtain ⟨q1, hq1⟩ : ∃ q1, q1 = q - n := ⟨_, rfl⟩
 have hw1 : IntKind.i64.wrap (p - 1) = p1 := by rw [hp1]; exact IntWalk.i64_in _ (by omega)
 have hw2 : IntKind.i64.wrap (q - n) = q1 := by rw [hq1]; exact IntWalk.i64_in _ (by omega)
 obtain ⟨W1, hW1, r1, r2, r3, r4, r5, r6⟩ := one_set (i := 0) (u := .int .i64 p1) e0
 have r1' : W1.heap[w.heap.size]? = some (.cells #[.int .i64 p1, .int .i64 q] 128 (0, 0)) := by simpa using r1
 have hb1 : Below w.heap.size w W1 := ⟨r3.trans hbw.os, r4.trans hbw.tape, r5.trans hbw.output, by rw [r6]; exact hbw.size, fun y hy => (r2 y (by omega)).trans (hbw.block y hy)⟩
 have f1 : W1.heap[w.heap.size + 1]? = some (.cells #[.int .i8 x.s.op, .int .i64 x.s.id, .int .i64 x.s.par, .int .i64 x.s.at_, .string x.s.tx, .int .i64 x.s.sub.id, .int .i64 x.s.sub.kind, .string x.s.sub.text, .slice x.a sn x.c] 41 (0, 0)) := (r2 _ (by omega)).trans e1
 have f2 : W1.heap[w.heap.size + 1 + 1]? = some (.cells #[.int .i64 0, .int .i64 0] 128 (0, 0)) := (r2 _ (by omega)).trans e2
 have hc : ∀ X, Below W1.heap.size W1 X → X.cell? ⟨w.heap.size, 0, none⟩ = some (.int .i64 p1) ∧ X.cell? ⟨w.heap.size, 1, none⟩ = some (.int .i64 q) ∧ X.cell? ⟨w.heap.size + 1, 0, none⟩ = some (.int .i8 x.s.op) ∧ X.cell? ⟨w.heap.size + 1, 1, none⟩ = some (.int .i64 x.s.id) ∧ X.cell? ⟨w.heap.size + 1, 2, none⟩ = some (.int .i64 x.s.par) ∧ X.cell? ⟨w.heap.size + 1, 3, none⟩ = some (.int .i64 x.s.at_) ∧ X.cell? ⟨w.heap.size + 1, 4, none⟩ = some (.string x.s.tx) ∧ X.cell? ⟨w.heap.size + 1, 5, none⟩ = some (.int .i64 x.s.sub.id) ∧ X.cell? ⟨w.heap.size + 1, 6, none⟩ = some (.int .i64 x.s.sub.kind) ∧ X.cell? ⟨w.heap.size + 1, 7, none⟩ = some (.string x.s.sub.text) ∧ X.cell? ⟨w.heap.size + 1, 8, none⟩ = some (.slice x.a sn x.c) := fun X hX =>
  ⟨(jO ((hX.block _ (lt_of_heap r1')).trans r1')).1, (jO ((hX.block _ (lt_of_heap r1')).trans r1')).2, yV ((hX.block _ (lt_of_heap f1)).trans f1)⟩
 have hi : ∀ X, Below W1.heap.size W1 X → Calls Tryz.prog 95 #[.agg #[.int .i8 x.s.op, .int .i64 x.s.id, .int .i64 x.s.par, .int .i64 x.s.at_, .string x.s.tx, .int .i64 x.s.sub.id, .int .i64 x.s.sub.kind, .string x.s.sub.text, .slice x.a sn x.c]] X fun e w' => e = .returned (.int .i64 n) ∧ Below X.heap.size X w' := fun X hX => by
  rw [← hv, hn]
  exact Qn X X0 x h ((hb.trans (hb1.mono hb.size)).trans (hX.mono (Nat.le_trans hb.size hb1.size))) hs
 rw [hv, ← hn]
 have HC := hH hc
 have HI := hH hi
 have HE := hH (aN hB (aN hW1 (aN hb1 (aN r1' f2))))
 have HP := hH (aN hp1 hq1)
 have HF := hH f1
 obtain ⟨z0, z1⟩ := jO e0
 have zf : B.frozen? ⟨w.heap.size, 0, none⟩ = false := frozen_of_row _ _ 0 _ _ e0
 clear hc hi hB hW1 hb1 r1 r1' f1 f2 r2 r3 r4 r5 r6 hbw hsz e0 e1 e2 hp1 hq1 h hb hs hp hq hn2 hni hn hv hsn
 go_enter Tryz.func94, Tryz.ntmps94
 go_upto_region 1 with fail
 change Code.wp _ _ _ _ (zn w [.cells #[.int .i64 p, .int .i64 q] 128, .cells #[.int .i8 x.s.op, .int .i64 x.s.id, .int .i64 x.s.par, .int .i64 x.s.at_, .string x.s.tx, .int .i64 x.s.sub.id, .int .i64 x.s.sub.kind, .string x.s.sub.text, .slice x.a sn x.c] 41, .cells #[.int .i64 0, .int .i64 0] 128])
 rw [← HE.out.1]
 go_upto_region 2 with fail
 rw [← HE.out.2.1]
 clear z0 z1 zf
 have hst : ∀ X, za W1 X (fun y => y = w.heap.size) → X.cell? ⟨w.heap.size + 1, 0, none⟩ = some (.int .i8 x.s.op) ∧ X.cell? ⟨w.heap.size + 1, 1, none⟩ = some (.int .i64 x.s.id) ∧ X.cell? ⟨w.heap.size + 1, 2, none⟩ = some (.int .i64 x.s.par) ∧ X.cell? ⟨w.heap.size + 1, 3, none⟩ = some (.int .i64 x.s.at_) ∧ X.cell? ⟨w.heap.size + 1, 4, none⟩ = some (.string x.s.tx) ∧ X.cell? ⟨w.heap.size + 1, 5, none⟩ = some (.int .i64 x.s.sub.id) ∧ X.cell? ⟨w.heap.size + 1, 6, none⟩ = some (.int .i64 x.s.sub.kind) ∧ X.cell? ⟨w.heap.size + 1, 7, none⟩ = some (.string x.s.sub.text) ∧ X.cell? ⟨w.heap.size + 1, 8, none⟩ = some (.slice x.a sn x.c) := fun X hX => yV ((hX.block _ (lt_of_heap HF.out) (by omega)).trans HF.out)
 have HST := hH hst
 clear hst
 refine wp_region_held_drew (S := fun X => za W1 X (fun y => y = w.heap.size)) (by kernel_rfl) (za.refl _ _).drew (fun hHeld => ?_)
 refine tkH (i := 0) (.pointer (some ⟨w.heap.size, 1, none⟩)) rfl (Or.inl ⟨by rfl, ?_⟩) (by assumption) ?_
 · clear hHeld; intro X hSw; obtain ⟨m0, m1, m2, m3, m4, m5, m6, m7, m8⟩ := HST.out X hSw; clear hSw; go_simp
 simp only [Act.put, pg]
 refine tkH (i := 2) (.agg #[.int .i8 x.s.op, .int .i64 x.s.id, .int .i64 x.s.par, .int .i64 x.s.at_, .string x.s.tx, .int .i64 x.s.sub.id, .int .i64 x.s.sub.kind, .string x.s.sub.text, .slice x.a sn x.c]) rfl (Or.inl ⟨by rfl, ?_⟩) (by assumption) ?_
 · clear hHeld; intro X hSw; obtain ⟨m0, m1, m2, m3, m4, m5, m6, m7, m8⟩ := HST.out X hSw; clear hSw; go_simp
 simp only [Act.put, pg]
 refine wpAnyH_ready (rs := [1, 3]) (by kernel_rfl) (by simp) ?_
 refine AllReadyH.cons (o := _) rfl (fun K hK => ?_) (AllReadyH.cons (o := _) rfl (fun K hK => ?_) AllReadyH.nil)
 · skip
   rw [if_pos (by rfl)]
   simp only [pg3]
   have HK := hH hK
   have HS := hH hHeld
   clear hK hHeld
   obtain ⟨_, k1, _⟩ := HC.out W1 (Below.refl _ _)
   go_wp2_with fail
   refine HK.out _ _ HS.out (fun hHeld => ?_)
   clear HK HS k1
   refine wpAnyH_ready (rs := [3]) (by kernel_rfl) (by simp) ?_
   refine AllReadyH.cons (o := _) rfl (fun K hK => ?_) AllReadyH.nil
   rw [if_pos (by rfl)]
   simp only [pg3]
   have HK := hH hK
   have HS := hH hHeld
   clear hK hHeld
   go_wp2_with (go_at_call 95; refine (HI.out _ (below_drewN (Below.refl _ W1) 1)).mono ?_; rintro e w4 ⟨rfl, hib⟩; have HIB := hH ((below_drewN (Below.refl _ W1) 1).trans hib); clear hib)
   refine HK.out _ _ ⟨HIB.out.os, HIB.out.tape, HIB.out.output, HIB.out.size, fun y h1 _ => HIB.out.block y h1⟩ (fun hHeld => ?_)
   clear HK HS
   refine tkH (i := 4) (.int .i64 q1) rfl (Or.inl ⟨by rfl, ?_⟩) (by assumption) ?_
   · clear hHeld; intro X hSw; obtain ⟨m0, m1, m2, m3, m4, m5, m6, m7, m8⟩ := HST.out X hSw; clear hSw; go_simp
   simp only [Act.put, pg]
   refine tkH (i := 5) (.pointer (some ⟨w.heap.size, 1, none⟩)) rfl (Or.inl ⟨by rfl, ?_⟩) (by assumption) ?_
   · clear hHeld; intro X hSw; obtain ⟨m0, m1, m2, m3, m4, m5, m6, m7, m8⟩ := HST.out X hSw; clear hSw; go_simp
   simp only [Act.put, pg]
   refine wpAnyH_ready (rs := [6]) (by kernel_rfl) (by simp) ?_
   refine AllReadyH.cons (o := _) rfl (fun K hK => ?_) AllReadyH.nil
   rw [if_pos (by rfl)]
   simp only [pg3]
   have HK := hH hK
   have HS := hH hHeld
   clear hK hHeld
   obtain ⟨k0, k1, _⟩ := HC.out w4 HIB.out
   have e4 := (HIB.out.block _ (lt_of_heap HE.out.2.2.2.1)).trans HE.out.2.2.2.1
   have q1f : w4.frozen? ⟨w.heap.size, 1, none⟩ = false := frozen_of_row _ _ 1 _ _ e4
   obtain ⟨W5, hW5, r1, r2, r3, r4, r5, r6⟩ := one_set (i := 1) (u := .int .i64 q1) e4
   have r1' : W5.heap[w.heap.size]? = some (.cells #[.int .i64 p1, .int .i64 q1] 128 (0, 0)) := by simpa using r1
   have hbz := HE.out.2.2.1.trans (HIB.out.mono HE.out.2.2.1.size)
   have hb5 : Below w.heap.size w W5 := ⟨r3.trans hbz.os, r4.trans hbz.tape, r5.trans hbz.output, by rw [r6]; exact hbz.size, fun y hy => (r2 y (by omega)).trans (hbz.block y hy)⟩
   have f5 : W5.heap[w.heap.size + 1 + 1]? = some (.cells #[.int .i64 0, .int .i64 0] 128 (0, 0)) := (r2 _ (by omega)).trans ((HIB.out.block _ (lt_of_heap HE.out.2.2.2.2)).trans HE.out.2.2.2.2)
   have ht5 : za W1 W5 (fun y => y = w.heap.size) := ⟨r3.trans HIB.out.os, r4.trans HIB.out.tape, r5.trans HIB.out.output, by rw [r6]; exact HIB.out.size, fun y h1 h2 => (r2 y h2).trans (HIB.out.block y h1)⟩
   have H5 := hH (aN hW5 (aN r1' (aN hb5 (aN f5 ht5))))
   clear hW5 r1 r1' r2 r3 r4 r5 r6 hbz hb5 f5 e4 ht5
   go_wp2_with fail
   rw [← H5.out.1]
   refine HK.out _ _ H5.out.2.2.2.2 (fun hHeld => ?_)
   clear HK HS k0 k1 q1f
   refine wpAnyH_done (by kernel_rfl) ?_ _
   clear hHeld
   obtain ⟨k0, k1⟩ := jO H5.out.2.1
   obtain ⟨y0, y1⟩ := jO H5.out.2.2.2.1
   have yf : ∀ j, W5.frozen? ⟨w.heap.size + 1 + 1, j, none⟩ = false := fun j => frozen_of_row _ _ j _ _ H5.out.2.2.2.1
   by_cases hp0 : p1 < 0
   · obtain ⟨V, hV, r1, r2, r3, r4, r5, r6⟩ := qN (u0 := .int .i64 0) (u1 := .int .i64 0) H5.out.2.2.2.1
     have HEE := hH (aN hV (aN r1 (aN r2 (aN r3 (aN r4 (aN r5 (aN r6 hp0)))))))
     clear hV r1 r2 r3 r4 r5 r6
     go_wp2_with fail
     rw [← HEE.out.1]
     obtain ⟨hV, r1, r2, r3, r4, r5, r6, hp0⟩ := HEE.out
     have hb5 := H5.out.2.2.1
     exact vk rfl ⟨r3.trans hb5.os, r4.trans hb5.tape, r5.trans hb5.output, by rw [r6]; exact hb5.size, fun k hk => (r2 k (by omega)).trans (hb5.block k hk)⟩ r1 (Or.inr ⟨rfl, Or.inl (by rw [← HP.out.1]; exact hp0)⟩) rfl rfl
   · by_cases hq0 : q1 < 0
     · obtain ⟨V, hV, r1, r2, r3, r4, r5, r6⟩ := qN (u0 := .int .i64 0) (u1 := .int .i64 0) H5.out.2.2.2.1
       have HEE := hH (aN hV (aN r1 (aN r2 (aN r3 (aN r4 (aN r5 (aN r6 hq0)))))))
       clear hV r1 r2 r3 r4 r5 r6
       go_wp2_with fail
       rw [← HEE.out.1]
       obtain ⟨hV, r1, r2, r3, r4, r5, r6, hp0⟩ := HEE.out
       have hb5 := H5.out.2.2.1
       exact vk rfl ⟨r3.trans hb5.os, r4.trans hb5.tape, r5.trans hb5.output, by rw [r6]; exact hb5.size, fun k hk => (r2 k (by omega)).trans (hb5.block k hk)⟩ r1 (Or.inr ⟨rfl, Or.inr (by rw [← HP.out.2]; exact hp0)⟩) rfl rfl
     · obtain ⟨V, hV, r1, r2, r3, r4, r5, r6⟩ := qN (u0 := .int .i64 p1) (u1 := .int .i64 q1) H5.out.2.2.2.1
       have HEE := hH (aN hV (aN r1 (aN r2 (aN r3 (aN r4 (aN r5 (aN r6 (aN hp0 hq0))))))))
       clear hV r1 r2 r3 r4 r5 r6
       go_wp2_with fail
       rw [← HEE.out.1]
       obtain ⟨hV, r1, r2, r3, r4, r5, r6, hp0, hq0⟩ := HEE.out
       have hb5 := H5.out.2.2.1
       exact vk rfl ⟨r3.trans hb5.os, r4.trans hb5.tape, r5.trans hb5.output, by rw [r6]; exact hb5.size, fun k hk => (r2 k (by omega)).trans (hb5.block k hk)⟩ r1 (Or.inl ⟨rfl, HP.out.1, HP.out.2, by rw [← HP.out.1]; omega, by rw [← HP.out.2]; omega⟩) rfl rfl
 · skip
   rw [if_pos (by rfl)]
   simp only [pg3]
   have HK := hH hK
   have HS := hH hHeld
   clear hK hHeld
   go_wp2_with (go_at_call 95; refine (HI.out _ (below_drewN (Below.refl _ W1) 1)).mono ?_; rintro e w4 ⟨rfl, hib⟩; have HIB := hH ((below_drewN (Below.refl _ W1) 1).trans hib); clear hib)
   refine HK.out _ _ ⟨HIB.out.os, HIB.out.tape, HIB.out.output, HIB.out.size, fun y h1 _ => HIB.out.block y h1⟩ (fun hHeld => ?_)
   clear HK HS
   refine wpAnyH_ready (rs := [1]) (by kernel_rfl) (by simp) ?_
   refine AllReadyH.cons (o := _) rfl (fun K hK => ?_) AllReadyH.nil
   rw [if_pos (by rfl)]
   simp only [pg3]
   have HK := hH hK
   have HS := hH hHeld
   clear hK hHeld
   obtain ⟨_, k1, _⟩ := HC.out w4 HIB.out
   go_wp2_with fail
   refine HK.out _ _ HS.out (fun hHeld => ?_)
   clear HK HS k1
   refine tkH (i := 4) (.int .i64 q1) rfl (Or.inl ⟨by rfl, ?_⟩) (by assumption) ?_
   · clear hHeld; intro X hSw; obtain ⟨m0, m1, m2, m3, m4, m5, m6, m7, m8⟩ := HST.out X hSw; clear hSw; go_simp
   simp only [Act.put, pg]
   refine tkH (i := 5) (.pointer (some ⟨w.heap.size, 1, none⟩)) rfl (Or.inl ⟨by rfl, ?_⟩) (by assumption) ?_
   · clear hHeld; intro X hSw; obtain ⟨m0, m1, m2, m3, m4, m5, m6, m7, m8⟩ := HST.out X hSw; clear hSw; go_simp
   simp only [Act.put, pg]
   refine wpAnyH_ready (rs := [6]) (by kernel_rfl) (by simp) ?_
   refine AllReadyH.cons (o := _) rfl (fun K hK => ?_) AllReadyH.nil
   rw [if_pos (by rfl)]
   simp only [pg3]
   have HK := hH hK
   have HS := hH hHeld
   clear hK hHeld
   obtain ⟨k0, k1, _⟩ := HC.out w4 HIB.out
   have e4 := (HIB.out.block _ (lt_of_heap HE.out.2.2.2.1)).trans HE.out.2.2.2.1
   have q1f : w4.frozen? ⟨w.heap.size, 1, none⟩ = false := frozen_of_row _ _ 1 _ _ e4
   obtain ⟨W5, hW5, r1, r2, r3, r4, r5, r6⟩ := one_set (i := 1) (u := .int .i64 q1) e4
   have r1' : W5.heap[w.heap.size]? = some (.cells #[.int .i64 p1, .int .i64 q1] 128 (0, 0)) := by simpa using r1
   have hbz := HE.out.2.2.1.trans (HIB.out.mono HE.out.2.2.1.size)
   have hb5 : Below w.heap.size w W5 := ⟨r3.trans hbz.os, r4.trans hbz.tape, r5.trans hbz.output, by rw [r6]; exact hbz.size, fun y hy => (r2 y (by omega)).trans (hbz.block y hy)⟩
   have f5 : W5.heap[w.heap.size + 1 + 1]? = some (.cells #[.int .i64 0, .int .i64 0] 128 (0, 0)) := (r2 _ (by omega)).trans ((HIB.out.block _ (lt_of_heap HE.out.2.2.2.2)).trans HE.out.2.2.2.2)
   have ht5 : za W1 W5 (fun y => y = w.heap.size) := ⟨r3.trans HIB.out.os, r4.trans HIB.out.tape, r5.trans HIB.out.output, by rw [r6]; exact HIB.out.size, fun y h1 h2 => (r2 y h2).trans (HIB.out.block y h1)⟩
   have H5 := hH (aN hW5 (aN r1' (aN hb5 (aN f5 ht5))))
   clear hW5 r1 r1' r2 r3 r4 r5 r6 hbz hb5 f5 e4 ht5
   go_wp2_with fail
   rw [← H5.out.1]
   refine HK.out _ _ H5.out.2.2.2.2 (fun hHeld => ?_)
   clear HK HS k0 k1 q1f
   refine wpAnyH_done (by kernel_rfl) ?_ _
   clear hHeld
   obtain ⟨k0, k1⟩ := jO H5.out.2.1
   obtain ⟨y0, y1⟩ := jO H5.out.2.2.2.1
   have yf : ∀ j, W5.frozen? ⟨w.heap.size + 1 + 1, j, none⟩ = false := fun j => frozen_of_row _ _ j _ _ H5.out.2.2.2.1
   by_cases hp0 : p1 < 0
   · obtain ⟨V, hV, r1, r2, r3, r4, r5, r6⟩ := qN (u0 := .int .i64 0) (u1 := .int .i64 0) H5.out.2.2.2.1
     have HEE := hH (aN hV (aN r1 (aN r2 (aN r3 (aN r4 (aN r5 (aN r6 hp0)))))))
     clear hV r1 r2 r3 r4 r5 r6
     go_wp2_with fail
     rw [← HEE.out.1]
     obtain ⟨hV, r1, r2, r3, r4, r5, r6, hp0⟩ := HEE.out
     have hb5 := H5.out.2.2.1
     exact vk rfl ⟨r3.trans hb5.os, r4.trans hb5.tape, r5.trans hb5.output, by rw [r6]; exact hb5.size, fun k hk => (r2 k (by omega)).trans (hb5.block k hk)⟩ r1 (Or.inr ⟨rfl, Or.inl (by rw [← HP.out.1]; exact hp0)⟩) rfl rfl
   · by_cases hq0 : q1 < 0
     · obtain ⟨V, hV, r1, r2, r3, r4, r5, r6⟩ := qN (u0 := .int .i64 0) (u1 := .int .i64 0) H5.out.2.2.2.1
       have HEE := hH (aN hV (aN r1 (aN r2 (aN r3 (aN r4 (aN r5 (aN r6 hq0)))))))
       clear hV r1 r2 r3 r4 r5 r6
       go_wp2_with fail
       rw [← HEE.out.1]
       obtain ⟨hV, r1, r2, r3, r4, r5, r6, hp0⟩ := HEE.out
       have hb5 := H5.out.2.2.1
       exact vk rfl ⟨r3.trans hb5.os, r4.trans hb5.tape, r5.trans hb5.output, by rw [r6]; exact hb5.size, fun k hk => (r2 k (by omega)).trans (hb5.block k hk)⟩ r1 (Or.inr ⟨rfl, Or.inr (by rw [← HP.out.2]; exact hp0)⟩) rfl rfl
     · obtain ⟨V, hV, r1, r2, r3, r4, r5, r6⟩ := qN (u0 := .int .i64 p1) (u1 := .int .i64 q1) H5.out.2.2.2.1
       have HEE := hH (aN hV (aN r1 (aN r2 (aN r3 (aN r4 (aN r5 (aN r6 (aN hp0 hq0))))))))
       clear hV r1 r2 r3 r4 r5 r6
       go_wp2_with fail
       rw [← HEE.out.1]
       obtain ⟨hV, r1, r2, r3, r4, r5, r6, hp0, hq0⟩ := HEE.out
       have hb5 := H5.out.2.2.1
       exact vk rfl ⟨r3.trans hb5.os, r4.trans hb5.tape, r5.trans hb5.output, by rw [r6]; exact hb5.size, fun k hk => (r2 k (by omega)).trans (hb5.block k hk)⟩ r1 (Or.inl ⟨rfl, HP.out.1, HP.out.2, by rw [← HP.out.1]; omega, by rw [← HP.out.2]; omega⟩) rfl rfl
structure Row (w : World) (a : Option Addr) (vs : List SV) : Prop where
 cells : zbr w (fun q => q < w.heap.size) a vs
 lies : ∀ x ∈ vs, vV w x
 fit : ∀ x ∈ vs, ZB x.s
 len : vs.length ≤ 1000000
theorem Row.on {w X : World} {a : Option Addr} {vs : List SV} (h : Row w a vs) (hb : Below w.heap.size w X) : Row X a vs :=
 ⟨h.cells.kept fun y hy => ⟨nL hy hb.size, hb.block y hy⟩, fun x hx => qO.on (h.lies x hx) hb, h.fit, h.len⟩
structure RowsIn (X : World) (NB R : Nat) (rs : List RH) : Prop where
 box : X.heap[NB]? = some (.cells #[.slice (some ⟨R, 0, none⟩) rs.length rs.length] 133 (0, 0))
 head : X.heap[R]? = some (.cells (rs.map RH.v).toArray 22 (0, 0))
 rows : ∀ r ∈ rs, Row X r.a r.vs
 few : rs.length ≤ 2
theorem RowsIn.j {X : World} {NB R : Nat} {rs : List RH} (h : RowsIn X NB R rs) : kE X NB R rs (fun q => q < X.heap.size) :=
 ⟨h.box, h.head, lt_of_heap h.box, lt_of_heap h.head, fun _ hy => hy, fun i r hr => (h.rows r (List.mem_of_getElem? hr)).cells⟩
theorem Ji : ∀ {rs : List RH} {x : SV}, x ∈ flat rs → ∃ r ∈ rs, x ∈ r.vs
 | [], x, h => by simp [flat] at h
 | r :: rs, x, h => by
   rw [flat, List.mem_append] at h
   rcases h with h | h
   · exact ⟨r, List.mem_cons_self .., h⟩
   · obtain ⟨q, h1, h2⟩ := Ji h
     exact ⟨q, List.mem_cons_of_mem _ h1, h2⟩
theorem zc2 {X : World} {NB R : Nat} {rs : List RH} (h : RowsIn X NB R rs) : (flat rs).length ≤ 2000000 := by
 obtain ⟨_, _, h3, h4⟩ := h
 match rs, h3, h4 with
 | [], _, _ => simp [flat]
 | [r], h3, _ => have := (h3 r (by simp)).len; simp [flat]; omega
 | [r, q], h3, _ => have := (h3 r (by simp)).len; have := (h3 q (by simp)).len; simp [flat]; omega
 | _ :: _ :: _ :: _, _, h4 => simp at h4
theorem RowsIn.lies {X : World} {NB R : Nat} {rs : List RH} (h : RowsIn X NB R rs) {x : SV} (hx : x ∈ flat rs) : vV X x ∧ ZB x.s := by
 obtain ⟨r, h1, h2⟩ := Ji hx
 exact ⟨(h.rows r h1).lies x h2, (h.rows r h1).fit x h2⟩
theorem vX {l : List Sf} {k : Nat} {s : Sf} (h : l[k]? = some s) : yo (l.take (k + 1)) = yo (l.take k) + vE s := by
 rw [List.take_add_one, h, vQ]
 simp [yo]
theorem Z5 (l : List Sf) (k : Nat) : yo (l.take k) ≤ yo l := by
 conv => rhs; rw [← List.take_append_drop k l, vQ]
 omega
def steps (vs : List SV) : List Sf := vs.map SV.s
theorem qR {vs : List SV} {k : Nat} {x : SV} (h : vs[k]? = some x) : (steps vs)[k]? = some x.s := by rw [steps, List.getElem?_map, h]; rfl
theorem yg (vs : List SV) : (steps vs).length = vs.length := by simp [steps]
def vJ (l : List Sf) : Int := if Jl l = true then 0 else 3
def zft (X : World) (l : List Sf) (k : Nat) (v : RV) (V : World) : Prop := Below X.heap.size X V ∧ v.i = 60 - (k : Int) ∧ v.k = 200 - (yo (l.take k) : Int) ∧ k ≤ 60 ∧ yo (l.take k) ≤ 200
def zfu (X : World) (l : List Sf) (k : Nat) (v : RV) (n : Int) (V : World) : Prop := Below X.heap.size X V ∧ n = 3 ∧ Jl l = false
theorem zbE {X : World} {NB R : Nat} {rs : List RH} (h : RowsIn X NB R rs) : DoQ Tryz.prog 94 #[] X.heap.size (fun q => q < X.heap.size) (flat rs) (zft X (steps (flat rs))) (zfu X (steps (flat rs))) := by
 refine ⟨enters_of Tryz.func94 (by kernel_rfl) rfl, ?_, ?_, ?_⟩
 · rintro k v V V' ⟨h1, h2⟩ ht
   exact ⟨⟨ht.os.trans h1.os, ht.tape.trans h1.tape, ht.output.trans h1.output, Nat.le_trans h1.size ht.size, fun q hq => (ht.block q (nL hq h1.size) (by omega)).trans (h1.block q hq)⟩, h2⟩
 · rintro k v n V V' ⟨h1, h2⟩ ht
   exact ⟨⟨ht.os.trans h1.os, ht.tape.trans h1.tape, ht.output.trans h1.output, Nat.le_trans h1.size ht.size, fun q hq => (ht.block q (nL hq h1.size) (by omega)).trans (h1.block q hq)⟩, h2⟩
 · rintro k x v W hx hW ⟨hb, hi, hk, hk60, hs⟩
   obtain ⟨hl, hf⟩ := h.lies (List.mem_of_getElem? hx)
   have hxs := qR hx
   rw [Array.append_empty]
   refine (zah W X x v.i v.k hl hb hf (by omega) (by omega)).mono ?_
   rintro e W' ⟨p', q', m, rfl, hb2, hc⟩
   refine ⟨⟨p', q'⟩, m, rfl, hb2.size, fun q hq => hb2.block q (by rcases hq with hq | hq; have := hb.size; omega; omega), fun hm => ?_, fun hm => ?_⟩
   · rcases hc with ⟨_, rfl, rfl, h1, h2⟩ | ⟨h1, _⟩
     · have hq := vX hxs
       exact ⟨hb.trans (hb2.mono hb.size), by show v.i - 1 = _; omega, by show v.k - _ = _; rw [hq]; omega, by omega, by rw [hq]; omega⟩
     · omega
   · rcases hc with ⟨h1, _⟩ | ⟨rfl, h1⟩
     · exact absurd h1 hm
     · refine ⟨hb.trans (hb2.mono hb.size), rfl, ?_⟩
       rw [Bool.eq_false_iff]
       intro ho
       rw [ja] at ho
       have hq := vX hxs
       have h3 := Z5 (steps (flat rs)) (k + 1)
       have h4 := (List.getElem?_eq_some_iff.1 hxs).1
       rcases h1 with h1 | h1 <;> omega
theorem zcP (X : World) (NB R : Nat) (rs : List RH) (h : RowsIn X NB R rs) :
 Calls Tryz.prog 39 #[.func (.func 96) #[] #[.pointer (some ⟨NB, 0, none⟩)]] X fun e w' => e = .returned (.int .i64 (vJ (steps (flat rs)))) ∧ Below X.heap.size X w' := by
 have hf := zbK X NB R ⟨60, 200⟩ (zbE h) h.j (by have := h.few; omega) (fun r hr => (h.rows r hr).len) (by have := zc2 h; omega) ⟨Below.refl _ _, by simp, by simp [yo], by omega, by simp [yo]⟩
 have hf2 : Calls Tryz.prog 93 #[.agg #[.int .i64 60, .int .i64 200], .func (.func 96) #[] #[.pointer (some ⟨NB, 0, none⟩)], .func (.func 94) #[] #[]] X fun e w' => ∃ (p q k : Int), e = .returned (.tuple #[.agg #[.int .i64 p, .int .i64 q], .int .i64 k, .int .i64 (vJ (steps (flat rs)))]) ∧ Below X.heap.size X w' := hf.mono (by
  rintro e w' ⟨k, v, n, rfl, hh⟩
  rcases hh with ⟨rfl, rfl, h1⟩ | ⟨_, _, h1, h2, h3⟩
  · have ho : Jl (steps (flat rs)) = true := by
     rw [ja, yg]
     have := h1.2.2.2.2
     rw [List.take_of_length_le (by rw [yg]; exact Nat.le_refl _)] at this
     exact ⟨h1.2.2.2.1, this⟩
    exact ⟨v.i, v.k, _, by rw [vJ, if_pos ho]; rfl, h1.1⟩
  · exact ⟨v.i, v.k, _, by rw [vJ, if_neg (by rw [h3]; exact Bool.false_ne_true), h2]; rfl, h1⟩)
 obtain ⟨c, hc⟩ : ∃ c, c = vJ (steps (flat rs)) := ⟨_, rfl⟩
 rw [← hc] at hf2 ⊢
 have HF := hH hf2
 clear hf hf2 hc h
 go_enter Tryz.func39, Tryz.ntmps39
 go_wp2_with fail
 refine HF.out.mono ?_
 rintro e w2 ⟨p, q, k, rfl, hb⟩
 have HB := hH (hb.trans ((qw w2 (.cells #[.int .i64 p, .int .i64 q] 128)).mono hb.size))
 clear hb HF
 go_wp2_with fail
 go_ret
 exact ⟨rfl, HB.out⟩
theorem zaK {X : World} {a : Option Addr} {c : Nat} {vs : List SV} {NB R : Nat} (h : Row X a vs) (h1 : X.heap[NB]? = some (.cells #[.slice (some ⟨R, 0, none⟩) 1 1] 133 (0, 0))) (h2 : X.heap[R]? = some (.cells #[.slice a vs.length c] 22 (0, 0))) : RowsIn X NB R [⟨a, c, vs⟩] :=
 ⟨h1, h2, fun r hr => by rw [List.mem_singleton] at hr; subst hr; exact h, by simp⟩
theorem zc3 (a : Option Addr) (c : Nat) (vs : List SV) : flat [⟨a, c, vs⟩] = vs := by simp [flat]
theorem zbo (w : World) (a : Option Addr) (n c : Nat) (vs : List SV) (hn : n = vs.length) (h : Row w a vs) :
 Calls Tryz.prog 88 #[.slice a n c] w fun e w' => e = .returned (.int .i64 (vJ (steps vs))) ∧ Below w.heap.size w w' := by
 obtain ⟨X, hX⟩ : ∃ X, X = zn w [.cells #[.slice a n c] 22, .cells #[.slice (some ⟨w.heap.size, 0, none⟩) 1 1] 133] := ⟨_, rfl⟩
 have hb : Below w.heap.size w X := by rw [hX]; exact zl _ _
 have e0 : X.heap[w.heap.size]? = some (.cells #[.slice a n c] 22 (0, 0)) := by rw [hX]; exact zg _ _ 0 _ rfl
 have e1 : X.heap[w.heap.size + 1]? = some (.cells #[.slice (some ⟨w.heap.size, 0, none⟩) 1 1] 133 (0, 0)) := by rw [hX]; exact zg _ _ 1 _ rfl
 have hc := zcP X (w.heap.size + 1) w.heap.size _ (zaK (c := c) (h.on hb) e1 (by rw [← hn]; exact e0))
 rw [zc3] at hc
 have HC := hH hc
 have HX := hH hX
 have HB := hH hb
 obtain ⟨m, hm⟩ : ∃ m, m = vJ (steps vs) := ⟨_, rfl⟩
 rw [← hm] at HC ⊢
 clear hc hX hb e0 e1 hm h hn
 go_enter Tryz.func88, Tryz.ntmps88
 go_wp2_with (go_at_call 40; refine (zbM _ _ _ _).mono ?_; rintro e w2 ⟨rfl, rfl⟩)
 change Calls _ _ _ (zn w [.cells #[.slice a n c] 22, .cells #[.slice (some ⟨w.heap.size, 0, none⟩) 1 1] 133]) _
 rw [← HX.out]
 refine HC.out.mono ?_
 rintro e w3 ⟨rfl, hb3⟩
 have HB3 := hH (HB.out.trans (hb3.mono HB.out.size))
 clear hb3 HC HX
 go_wp2_with fail
 go_ret
 exact ⟨rfl, HB3.out⟩
theorem Row.at {w X : World} {a : Option Addr} {vs : List SV} (h : Row w a vs) (hb : Below w.heap.size w X) {k : Nat} {x : SV} (hx : vs[k]? = some x) : ∃ b off, a = some ⟨b, off, none⟩ ∧ X.cell? ⟨b, off + k * 9, none⟩ = some (.int .i8 x.s.op) ∧ X.cell? ⟨b, off + k * 9 + 1, none⟩ = some (.int .i64 x.s.id) ∧ X.cell? ⟨b, off + k * 9 + 2, none⟩ = some (.int .i64 x.s.par) ∧ X.cell? ⟨b, off + k * 9 + 3, none⟩ = some (.int .i64 x.s.at_) ∧ X.cell? ⟨b, off + k * 9 + 4, none⟩ = some (.string x.s.tx) ∧ X.cell? ⟨b, off + k * 9 + 5, none⟩ = some (.int .i64 x.s.sub.id) ∧ X.cell? ⟨b, off + k * 9 + 6, none⟩ = some (.int .i64 x.s.sub.kind) ∧ X.cell? ⟨b, off + k * 9 + 7, none⟩ = some (.string x.s.sub.text) ∧ X.cell? ⟨b, off + k * 9 + 8, none⟩ = some (.slice x.a (foLen x.s.sub.kids) x.c) := by
 obtain ⟨b, off, e, hbl, hc⟩ := h.cells k x hx
 have hg := fun j u hj => (World.cell?_of_block (a := ⟨b, off + k * 9 + j, none⟩) (hb.block b hbl)).trans (hc j u hj)
 exact ⟨b, off, e, hg 0 _ rfl, hg 1 _ rfl, hg 2 _ rfl, hg 3 _ rfl, hg 4 _ rfl, hg 5 _ rfl, hg 6 _ rfl, hg 7 _ rfl, hg 8 _ rfl⟩
def yI : List Sf → Nat
 | [] => 0
 | s :: l => min (vE s) 201 + yI l
theorem Zg : ∀ (l : List Sf) (s : Sf), yI (l ++ [s]) = yI l + min (vE s) 201
 | [], s => by simp [yI]
 | t :: l, s => by rw [List.cons_append, yI, yI, Zg l s]; omega
theorem YP : ∀ l : List Sf, yI l ≤ 201 * l.length
 | [] => Nat.zero_le _
 | t :: l => by have := YP l; rw [yI, List.length_cons]; omega
theorem jW : ∀ l : List Sf, yI l ≤ 200 ↔ yo l ≤ 200
 | [] => by simp [yI, yo]
 | t :: l => by
   have h : ∀ l : List Sf, yI l ≤ yo l := fun l => by
    induction l with
    | nil => exact Nat.le_refl _
    | cons a l ih => rw [yI, yo]; omega
   have h1 := h l
   have h2 := jW l
   rw [yI, yo]
   constructor
   · intro h3
     have := h2.1 (by omega)
     by_cases h4 : vE t ≤ 200
     · have e : min (vE t) 201 = vE t := by omega
       rw [e] at h3
       have h5 : ∀ l : List Sf, yI l ≤ 200 → yI l = yo l := fun l => by
        induction l with
        | nil => intro _; rfl
        | cons a l ih => intro hh; rw [yI] at hh ⊢; rw [yo, ← ih (by omega)]; omega
       rw [h5 l (by omega)] at h3; exact h3
     · omega
   · intro h3; omega
theorem zcQ {l : List Sf} (h : l.length ≤ 60) : vJ l = if yI l ≤ 200 then 0 else 3 := by
 unfold vJ
 by_cases h1 : yI l ≤ 200
 · rw [if_pos h1, if_pos ((ja l).2 ⟨h, (jW l).1 h1⟩)]
 · rw [if_neg h1, if_neg fun h2 => h1 ((jW l).2 ((ja l).1 h2).2)]
def zeV (l : List Sf) (w : World) (e : Ending) (w' : World) : Prop := e = .returned (.int .i64 (vJ l)) ∧ Below w.heap.size w w'
theorem Qt (w : World) (la : Option Addr) (n c : Nat) (vs : List SV) (hn : n = vs.length) (h : Row w la vs) :
 Calls Tryz.prog 42 #[.slice la n c] w (zeV (steps vs) w) := by
 have hn1 : n ≤ 1000000 := by have := h.len; omega
 have H := hH (aN h hn)
 clear h hn
 by_cases h60 : 60 < n
 · have HV := hH (show vJ (steps vs) = 3 by
    unfold vJ
    rw [if_neg]
    intro h2
    have := ((ja _).1 h2).1
    rw [yg, ← H.out.2] at this
    omega)
   have h60i : (60 : Int) < (n : Int) := by omega
   clear h60
   go_enter Tryz.func42, Tryz.ntmps42
   go_wp2_with fail
   go_ret
   exact ⟨by rw [HV.out]; rfl, Below.refl _ _⟩
 have h60i : ¬ (60 : Int) < (n : Int) := by omega
 have HN60 := hH (show n ≤ 60 by omega)
 clear h60
 go_enter Tryz.func42, Tryz.ntmps42
 go_wp2_with fail
 clear h60i
 go_loopw [3, 4] (fun sv i wr => ∃ (k s : Nat), k ≤ n ∧ i = .int .i64 (k : Int) ∧ sv = .int .i64 (s : Int) ∧ s ≤ 12060 ∧ Hid (s = yI ((steps vs).take k) ∧ Below w.heap.size w wr)) (fun _ i _ => n - (intOf i).toNat)
 case atStart => exact ⟨0, 0, Nat.zero_le _, rfl, rfl, Nat.zero_le _, hH ⟨rfl, Below.refl _ _⟩⟩
 case round =>
  obtain ⟨k, s, hk, rfl, rfl, hs, hh⟩ := hrel
  obtain ⟨wo, hwo⟩ : ∃ wo, wo = wr := ⟨_, rfl⟩
  subst hwo
  by_cases hlt : k < n
  · obtain ⟨x, hx⟩ : ∃ x, vs[k]? = some x := ⟨_, List.getElem?_eq_getElem (by rw [← H.out.2]; exact hlt)⟩
    obtain ⟨b, off, rfl, c0, c1, c2, c3, c4, c5, c6, c7, c8⟩ := H.out.1.at hh.out.2 hx
    have hlx := H.out.1.lies x (List.mem_of_getElem? hx)
    have hfx := (H.out.1.fit x (List.mem_of_getElem? hx)).size
    have hsx := qR hx
    unfold vV at hlx
    obtain ⟨t, xa, xc⟩ := x
    simp only at hlx hfx hsx c0 c1 c2 c3 c4 c5 c6 c7 c8
    obtain ⟨xn, hxn⟩ : ∃ xn, xn = foLen t.sub.kids := ⟨_, rfl⟩
    have HWK : Hid (Calls Tryz.prog 36 #[.agg #[.int .i64 t.sub.id, .int .i64 t.sub.kind, .string t.sub.text, .slice xa xn xc], .int .i64 201] wo (WalkM wo (fun q => q < w.heap.size) t.sub 201)) := hH (by
     rw [hxn]
     exact zcs 201 (by omega) wo _ _ t.sub (by have := yG t.sub.kids; omega) (kT _ (by omega)) (fun y hy => nL hy hh.out.2.size) (hlx.at hh.out.2))
    rw [← hxn] at c8
    have hst : yI ((steps vs).take (k + 1)) = s + min (vE t) 201 := by rw [List.take_add_one, hsx, Option.toList_some, Zg, ← hh.out.1]
    have hcl : yI ((steps vs).take (k + 1)) ≤ 12060 := by
     have h1 := YP ((steps vs).take (k + 1))
     have h2 : ((steps vs).take (k + 1)).length ≤ 60 := by rw [List.length_take]; have := HN60.out; omega
     omega
    have HST := hH (aN hst hcl)
    have HKN := hH (aN hk hlt)
    have HB := hH hh.out.2
    have hkl : (k : Int) < (n : Int) := by omega
    obtain ⟨op, hop⟩ : ∃ op, op = t.op := ⟨_, rfl⟩
    rw [← hop] at c0
    have HOP := hH hop
    have HSZ := hH (show vE t = if op = 1 then ze t.sub.kids + 1 else 0 by rw [hop]; rfl)
    clear hx hlx hfx hsx hxn hst hcl hk hlt hh hop
    by_cases h1 : op = 1
    · have hb1 : (op == 1) = true := by simpa using h1
      have HS1 := hH (show vE t = ze t.sub.kids + 1 by rw [HSZ.out, if_pos h1])
      clear h1 HSZ
      go_wp2_with fail
      refine HWK.out.mono ?_
      rintro e w3 ⟨ya, yc, rfl, _, hb3⟩
      have HB3 := hH (HB.out.trans (hb3.mono HB.out.size))
      obtain ⟨ln, hln⟩ : ∃ ln, ln = ((spF 1 (yh t.sub)).take 201).length := ⟨_, rfl⟩
      rw [← hln]
      have hn2 : ln = min (vE t) 201 := by rw [hln, List.length_take, qf, qa, HS1.out]; omega
      have hn3 : ln ≤ 201 := by omega
      have HLN := hH hn2
      clear hln hb3 hn2 c0 c1 c2 c3 c4 c5 c6 c7 c8 hb1
      have hpw : IntKind.i64.wrap ((s : Int) + (ln : Int)) = (s : Int) + (ln : Int) := IntWalk.i64_in _ (by omega)
      go_wp2_with fail
      exact ⟨⟨k + 1, s + ln, by have := HKN.out.2; omega, by go_num, by push_cast; rfl, by have h := HST.out; rw [HLN.out]; omega, hH ⟨by rw [HST.out.1, HLN.out], HB3.out⟩⟩, by have := HKN.out.2; simp [intOf]; omega⟩
    · have hb1 : (op == 1) = false := by simpa using h1
      have HS1 := hH (show vE t = 0 by rw [HSZ.out, if_neg h1])
      clear h1 HSZ HWK
      go_wp2_with fail
      exact ⟨⟨k + 1, s, by have := HKN.out.2; omega, by go_num, rfl, hs, hH ⟨by rw [HST.out.1, HS1.out]; simp, HB.out⟩⟩, by have := HKN.out.2; simp [intOf]; omega⟩
  · have hkl : ¬ (k : Int) < (n : Int) := by omega
    have HB := hH hh.out.2
    have HV := hH (show vJ (steps vs) = if s ≤ 200 then 0 else 3 by
     rw [zcQ (by rw [yg, ← H.out.2]; exact HN60.out)]
     have h1 := hh.out.1
     rw [List.take_of_length_le (by rw [yg, ← H.out.2]; omega)] at h1
     rw [h1])
    clear hh hk hlt
    by_cases h2 : 200 < s
    · have h2i : (200 : Int) < (s : Int) := by omega
      have HW := hH (show vJ (steps vs) = 3 by rw [HV.out, if_neg (by omega)])
      clear h2 HV
      go_wp2_with fail
      go_ret
      exact ⟨by rw [HW.out]; rfl, HB.out⟩
    · have h2i : ¬ (200 : Int) < (s : Int) := by omega
      have HW := hH (show vJ (steps vs) = 0 by rw [HV.out, if_pos (by omega)])
      clear h2 HV
      go_wp2_with fail
      go_ret
      exact ⟨by rw [HW.out]; rfl, HB.out⟩
end Go.Proofs.YtchccbfljamjnaaGreat
