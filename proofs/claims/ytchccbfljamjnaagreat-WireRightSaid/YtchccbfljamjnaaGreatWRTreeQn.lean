/-
  .
-/
import Derived.Test.YtchccbfljamjnaaGreatWTreeBQn
import Derived.Test.YtchccbfljamjnaaGreatJPgQn
set_option maxRecDepth 100000
set_option maxHeartbeats 40000000
namespace Go.Proofs.YtchccbfljamjnaaGreat
open Go.RowKit Go.Shelf
set_option linter.unusedVariables false
set_option linter.unusedSimpArgs false
theorem yU.trans {W X Y : World} {NB c d : Nat} (h : yU W NB c X) (k : yU X NB d Y) : yU W NB d Y :=
 ⟨k.cell, fun y h1 h2 => (k.below y (nL h1 h.size) h2).trans (h.below y h1 h2), Nat.le_trans h.size k.size, k.os.trans h.os, k.tape.trans h.tape, k.output.trans h.output⟩
theorem yU.self {W X : World} {NB c : Nat} (h : yU W NB c X) : yU X NB c X := ⟨h.cell, fun _ _ _ => rfl, Nat.le_refl _, rfl, rfl, rfl⟩
def ze1 (W : World) (NB : Nat) (o : Option Nat) (e : Ending) (X : World) : Prop := ∃ c, yU W NB c X ∧ e = .returned (.bool o.isSome) ∧ ∀ m, o = some m → c = m
theorem zb5 {W : World} {NB : Nat} {S : Nat → Prop} (hS : ∀ y, S y → y < W.heap.size ∧ y ≠ NB) :
 ∀ (M : Nat) (X : World) (c d : Nat) (t : Tr) (ka : Option Addr) (kn kc : Nat), ze t.kids < M → c ≤ 200 → d ≤ 33 → kn = foLen t.kids → zB W S t.kids ka → yU W NB c X →
 Calls Tryz.prog 70 #[.agg #[.int .i64 t.id, .int .i64 t.kind, .string t.text, .slice ka kn kc], .int .i64 (d : Int), .pointer (some ⟨NB, 0, none⟩)] X (ze1 X NB (qj d c t)) := by
 intro M
 induction M with
 | zero => intro X c d t ka kn kc h; omega
 | succ M ih =>
   intro X c d t ka kn kc hM hc hd hkn hk hX
   obtain ⟨c1, hc1⟩ : ∃ c1, c1 = c + 1 := ⟨_, rfl⟩
   have hcw : IntKind.i64.wrap ((c : Int) + 1) = (c1 : Int) := by rw [IntWalk.i64_in _ (by omega)]; omega
   obtain ⟨d1, hd1⟩ : ∃ d1, d1 = d + 1 := ⟨_, rfl⟩
   have hdw : IntKind.i64.wrap ((d : Int) + 1) = (d1 : Int) := by rw [IntWalk.i64_in _ (by omega)]; omega
   obtain ⟨N, hN⟩ : ∃ N, N = qj d c t := ⟨_, rfl⟩
   have hno : ∀ h : qy d (c + 1) (t.id, t.kind, t.text) = false, N = none := fun h => by rw [hN, qj, h]; rfl
   obtain ⟨B, hB⟩ : ∃ B, B = X.alloc (.cells #[.int .i64 t.id, .int .i64 t.kind, .string t.text, .slice ka kn kc] 35) := ⟨_, rfl⟩
   have hb : Below X.heap.size X B := by rw [hB]; exact (Below.refl _ _).alloc (Nat.le_refl _) _
   have hXB := hX.on hb
   have hV := hXB.set c1
   have hVX := (hX.self.on hb).set c1
   obtain ⟨V, hVe⟩ : ∃ V, V = B.setCell ⟨NB, 0, none⟩ (.int .i64 (c1 : Int)) := ⟨_, rfl⟩
   rw [← hVe] at hV hVX
   have eB : B.heap[X.heap.size]? = some (.cells #[.int .i64 t.id, .int .i64 t.kind, .string t.text, .slice ka kn kc] 35 (0, 0)) := by rw [hB]; exact heap_alloc_new _ _
   have hXN : NB < X.heap.size := lt_of_heap hX.cell
   have eV : V.heap[X.heap.size]? = some (.cells #[.int .i64 t.id, .int .i64 t.kind, .string t.text, .slice ka kn kc] 35 (0, 0)) := by rw [hVe]; exact (Below.heap_setCell _ _ _ _ (by simp only; omega)).trans eB
   have hXW : W.heap.size ≤ X.heap.size := hX.size
   have n0 : B.cell? ⟨NB, 0, none⟩ = some (.int .i64 (c : Int)) := by rw [cell_of_row _ _ 0 _ _ _ hXB.cell]; rfl
   have nf : ∀ j, B.frozen? ⟨NB, j, none⟩ = false := fun j => frozen_of_row _ _ j _ _ hXB.cell
   have v0 : V.cell? ⟨NB, 0, none⟩ = some (.int .i64 (c1 : Int)) := by rw [cell_of_row _ _ 0 _ _ _ hV.cell]; rfl
   have vcells : ∀ Y : World, Y.heap[X.heap.size]? = V.heap[X.heap.size]? → Y.cell? ⟨X.heap.size, 0, none⟩ = some (.int .i64 t.id) ∧ Y.cell? ⟨X.heap.size, 1, none⟩ = some (.int .i64 t.kind) ∧ Y.cell? ⟨X.heap.size, 2, none⟩ = some (.string t.text) ∧ Y.cell? ⟨X.heap.size, 3, none⟩ = some (.slice ka kn kc) := fun Y hY => by
    have e := hY.trans eV
    exact ⟨by rw [cell_of_row _ _ 0 _ _ _ e]; rfl, by rw [cell_of_row _ _ 1 _ _ _ e]; rfl, by rw [cell_of_row _ _ 2 _ _ _ e]; rfl, by rw [cell_of_row _ _ 3 _ _ _ e]; rfl⟩
   obtain ⟨k0, k1, k2, k3⟩ := vcells V rfl
   have HVC := hH (aN vcells (lt_of_heap eV))
   have HNO := hH hno
   have HN := hH hN
   have HV := hH hV
   have HVX := hH hVX
   have HBE := hH (aN hB hVe)
   have HT := hH (aN hM (aN hkn (aN hk (aN hd (aN hc1 hd1)))))
   have HIH := hH ih
   have HXW := hH (aN hXW hXN)
   clear hno hN hV hVX hB hVe hM hkn hk ih hb hXB eB eV hXN hXW hX vcells
   rw [← HN.out]
   by_cases q1 : c1 ≤ 200
   rotate_left
   · have hx := True.intro
     have HNN := hH (HNO.out (by unfold qy; rw [← HT.out.2.2.2.2.1]; rw [decide_eq_false q1]; rfl))
     have g1 : (200 : Int) < (c1 : Int) := by omega
     clear hc1 hd1 hx
     go_enter Tryz.func70, Tryz.ntmps70
     go_upto_region 1 with fail
     change Code.wp _ _ _ _ (X.alloc (.cells #[.int .i64 t.id, .int .i64 t.kind, .string t.text, .slice ka kn kc] 35))
     rw [← HBE.out.1]
     go_upto_region 2 with fail
     rw [← HBE.out.2]
     go_wp2_with fail
     go_ret
     exact ⟨c1, HVX.out, by rw [HNN.out]; rfl, fun m hm => by rw [HNN.out] at hm; cases hm⟩
   have g1 : ¬ (200 : Int) < (c1 : Int) := by omega
   by_cases q2 : d ≤ 32
   rotate_left
   · have hx := True.intro
     have HNN := hH (HNO.out (by unfold qy; rw [← HT.out.2.2.2.2.1]; rw [decide_eq_false q2, Bool.and_false]; rfl))
     have g2 : (32 : Int) < (d : Int) := by omega
     clear hc1 hd1 hx
     go_enter Tryz.func70, Tryz.ntmps70
     go_upto_region 1 with fail
     change Code.wp _ _ _ _ (X.alloc (.cells #[.int .i64 t.id, .int .i64 t.kind, .string t.text, .slice ka kn kc] 35))
     rw [← HBE.out.1]
     go_upto_region 2 with fail
     rw [← HBE.out.2]
     go_wp2_with fail
     go_ret
     exact ⟨c1, HVX.out, by rw [HNN.out]; rfl, fun m hm => by rw [HNN.out] at hm; cases hm⟩
   have g2 : ¬ (32 : Int) < (d : Int) := by omega
   by_cases q3 : zh 1 1125899906842624 t.id = true
   rotate_left
   · have hx := True.intro
     have HNN := hH (HNO.out (by unfold qy; rw [← HT.out.2.2.2.2.1]; simp only; rw [show zh 1 1125899906842624 t.id = false by simpa using q3, Bool.and_false]; rfl))
     have q3b : zh 1 1125899906842624 t.id = false := by simpa using q3
     clear hc1 hd1 hx
     go_enter Tryz.func70, Tryz.ntmps70
     go_upto_region 1 with fail
     change Code.wp _ _ _ _ (X.alloc (.cells #[.int .i64 t.id, .int .i64 t.kind, .string t.text, .slice ka kn kc] 35))
     rw [← HBE.out.1]
     go_upto_region 2 with fail
     rw [← HBE.out.2]
     go_wp2_with fail
     refine (zw V t.id 1).mono ?_
     rintro e w' ⟨rfl, hw'⟩
     rw [hw', q3b]
     clear hw'
     go_wp2_with fail
     go_ret
     exact ⟨c1, HVX.out, by rw [HNN.out]; rfl, fun m hm => by rw [HNN.out] at hm; cases hm⟩
   by_cases q4 : 0 ≤ t.kind
   rotate_left
   · have hx := True.intro
     have HNN := hH (HNO.out (by unfold qy; rw [← HT.out.2.2.2.2.1]; simp only [zh]; rw [decide_eq_false q4, Bool.false_and, Bool.and_false]; rfl))
     have g4 : t.kind < 0 := by omega
     clear hc1 hd1 hx
     go_enter Tryz.func70, Tryz.ntmps70
     go_upto_region 1 with fail
     change Code.wp _ _ _ _ (X.alloc (.cells #[.int .i64 t.id, .int .i64 t.kind, .string t.text, .slice ka kn kc] 35))
     rw [← HBE.out.1]
     go_upto_region 2 with fail
     rw [← HBE.out.2]
     go_wp2_with fail
     refine (zw V t.id 1).mono ?_
     rintro e w' ⟨rfl, hw'⟩
     rw [hw', q3]
     clear hw'
     go_wp2_with fail
     go_ret
     exact ⟨c1, HVX.out, by rw [HNN.out]; rfl, fun m hm => by rw [HNN.out] at hm; cases hm⟩
   have g4 : ¬ t.kind < 0 := by omega
   by_cases q5 : t.kind ≤ 32
   rotate_left
   · have hx := True.intro
     have HNN := hH (HNO.out (by unfold qy; rw [← HT.out.2.2.2.2.1]; simp only [zh]; rw [decide_eq_false q5, Bool.and_false, Bool.and_false]; rfl))
     have g5 : (32 : Int) < t.kind := by omega
     clear hc1 hd1 hx
     go_enter Tryz.func70, Tryz.ntmps70
     go_upto_region 1 with fail
     change Code.wp _ _ _ _ (X.alloc (.cells #[.int .i64 t.id, .int .i64 t.kind, .string t.text, .slice ka kn kc] 35))
     rw [← HBE.out.1]
     go_upto_region 2 with fail
     rw [← HBE.out.2]
     go_wp2_with fail
     refine (zw V t.id 1).mono ?_
     rintro e w' ⟨rfl, hw'⟩
     rw [hw', q3]
     clear hw'
     go_wp2_with fail
     go_ret
     exact ⟨c1, HVX.out, by rw [HNN.out]; rfl, fun m hm => by rw [HNN.out] at hm; cases hm⟩
   have g5 : ¬ (32 : Int) < t.kind := by omega
   by_cases q6 : t.text.size ≤ 40
   rotate_left
   · have hx := True.intro
     have HNN := hH (HNO.out (by unfold qy; rw [← HT.out.2.2.2.2.1]; simp only; rw [decide_eq_false q6, Bool.and_false]))
     have g6 : (40 : Int) < (t.text.size : Int) := by omega
     clear hc1 hd1 hx
     go_enter Tryz.func70, Tryz.ntmps70
     go_upto_region 1 with fail
     change Code.wp _ _ _ _ (X.alloc (.cells #[.int .i64 t.id, .int .i64 t.kind, .string t.text, .slice ka kn kc] 35))
     rw [← HBE.out.1]
     go_upto_region 2 with fail
     rw [← HBE.out.2]
     go_wp2_with fail
     refine (zw V t.id 1).mono ?_
     rintro e w' ⟨rfl, hw'⟩
     rw [hw', q3]
     clear hw'
     go_wp2_with fail
     go_ret
     exact ⟨c1, HVX.out, by rw [HNN.out]; rfl, fun m hm => by rw [HNN.out] at hm; cases hm⟩
   have g6 : ¬ (40 : Int) < (t.text.size : Int) := by omega
   have HNE := hH (show N = qU d1 c1 t.kids by
    rw [HN.out, qj, ← HT.out.2.2.2.2.1, HT.out.2.2.2.2.2, if_pos (by simp only [qy, zh, decide_eq_true q1, decide_eq_true q2, decide_eq_true q4, decide_eq_true q5, decide_eq_true q6]; simp only [zh] at q3; rw [q3]; rfl)])
   have HQ := hH (aN q1 q2)
   clear hc1 hd1 HNO q1 q2 q4 q5 q6
   go_enter Tryz.func70, Tryz.ntmps70
   go_upto_region 1 with fail
   change Code.wp _ _ _ _ (X.alloc (.cells #[.int .i64 t.id, .int .i64 t.kind, .string t.text, .slice ka kn kc] 35))
   rw [← HBE.out.1]
   go_upto_region 2 with fail
   rw [← HBE.out.2]
   go_wp2_with fail
   refine (zw V t.id 1).mono ?_
   rintro e w' ⟨rfl, hw'⟩
   rw [hw', q3]
   clear hw'
   go_wp2_with fail
   clear g1 g2 g4 g5 g6 n0 nf v0 k0 k1 k2 k3 q3
   go_loopw [7] (fun i wr => ∃ j : Nat, j ≤ kn ∧ i = .int .i64 (j : Int) ∧ Hid (∃ m : Nat, j ≤ m ∧ m ≤ 200 ∧ yU V NB m wr ∧ N = qU d1 m (zH j t.kids))) (fun i _ => kn - (intOf i).toNat)
   case atStart => exact ⟨0, Nat.zero_le _, rfl, hH ⟨c1, Nat.zero_le _, HQ.out.1, HV.out.self, by rw [HNE.out]; cases t.kids <;> rfl⟩⟩
   case round =>
    obtain ⟨j, hj, rfl, hh⟩ := hrel
    obtain ⟨wo, hwo⟩ : ∃ wo, wo = wr := ⟨_, rfl⟩
    subst hwo
    obtain ⟨m, hjm, hm, hcv, hNm⟩ := hh.out
    clear hh
    have hcm := HV.out.trans hcv
    obtain ⟨k0, k1, k2, k3⟩ := HVC.out.1 wo (hcv.below _ HVC.out.2 (by have := HXW.out.2; omega))
    by_cases hlt : j < kn
    · obtain ⟨b0, o0, key, ll, rr, hdr, g, go, na, nc, rfl, hSg, q0, q1, q2, q3, qc, qk⟩ := zB.at j HT.out.2.2.1 (by have := HT.out.2.1; omega)
      obtain ⟨_, _, _, _, _, hdr', hnx, hsz, _⟩ := yw j t.kids (by have := HT.out.2.1; omega)
      rw [hdr] at hdr'
      cases hdr'
      have hji : (j : Int) < (kn : Int) := by omega
      have hj2 : (j : Int) ≤ 200 := by omega
      have hj0 : (0 : Int) ≤ (j : Int) := by omega
      obtain ⟨ln, hln⟩ : ∃ ln, ln = foLen ll := ⟨_, rfl⟩
      rw [← hln] at q3 qc
      have hgW : ∀ (i : Nat) (u : Value), W.cell? ⟨g, i, none⟩ = some u → wo.cell? ⟨g, i, none⟩ = some u := fun i u h => (World.cell?_of_block (a := ⟨g, i, none⟩) (hcm.below g (hS g hSg).1 (hS g hSg).2)).trans h
      have r0 := hgW _ _ q0
      have r1 := hgW _ _ q1
      have r2 := hgW _ _ q2
      have r3 := hgW _ _ q3
      have hcall := HIH.out wo m d1 ⟨key.1, key.2.1, key.2.2, ll⟩ na ln nc (by have := HT.out.1; simp only; omega) hm (by have := HT.out.2.2.2.2.2; have := HQ.out.2; omega) hln qk hcm
      have HCALL := hH hcall
      have HR := hH (aN hjm (aN hlt (aN (show N = (match qj d1 m ⟨key.1, key.2.1, key.2.2, ll⟩ with | some m => qU d1 m (zH (j + 1) t.kids) | none => none) by rw [hNm, hdr, Yr, hnx]; rfl) hcv)))
      clear hcall hjm hlt hNm hdr hnx hsz hm hcm qk q0 q1 q2 q3 qc hgW hSg hj hln hcv
      go_wp2_with fail
      refine HCALL.out.mono ?_
      rintro e w6 ⟨c', hc', rfl, hcc⟩
      cases hT : qj d1 m ⟨key.1, key.2.1, key.2.2, ll⟩ with
      | none =>
        have HNN := hH (show N = none by have := HR.out.2.2.1; rw [hT] at this; exact this)
        have HCC := hH ((HVX.out.trans HR.out.2.2.2).trans hc')
        clear hc' hcc hT k0 k1 k2 k3 r0 r1 r2 r3
        go_wp2_with fail
        go_ret
        exact ⟨c', HCC.out, by rw [HNN.out]; rfl, fun m hm => by rw [HNN.out] at hm; cases hm⟩
      | some p =>
        obtain rfl := hcc p hT
        have HS := hH (aN (HR.out.2.2.2.trans hc') (aN (Yt hT) (show N = qU d1 c' (zH (j + 1) t.kids) by have := HR.out.2.2.1; rw [hT] at this; exact this)))
        have hmp : m + 1 ≤ c' := by
         unfold qj at hT
         split at hT
         · rename_i hw
           have h1 : m + 1 ≤ 200 := by simp only [qy, Bool.and_eq_true, decide_eq_true_eq] at hw; exact hw.1.1.1.1
           exact (vG _ _ _ _ hT h1).2
         · cases hT
        have HMP := hH hmp
        clear hmp hc' hcc hT k0 k1 k2 k3 r0 r1 r2 r3
        go_wp2_with fail
        exact ⟨⟨j + 1, HR.out.2.1, by go_num, hH ⟨c', by have := HR.out.1; have := HMP.out; omega, HS.out.2.1, HS.out.1, HS.out.2.2⟩⟩, by have := HR.out.2.1; simp [intOf]; omega⟩
    · have hji : ¬ (j : Int) < (kn : Int) := by omega
      have HE := hH (aN (show N = some m by rw [hNm, yX j _ (by have := HT.out.2.1; omega)]; rfl) (HVX.out.trans hcv))
      clear hNm hcm hjm hm hlt hj hcv
      go_wp2_with fail
      go_ret
      exact ⟨m, HE.out.2, by rw [HE.out.1]; rfl, fun q hq => by rw [HE.out.1] at hq; exact Option.some.inj hq⟩
theorem j6 (w : World) (S : Nat → Prop) (t : Tr) (ka : Option Addr) (kn kc : Nat) (hkn : kn = foLen t.kids) (hS : ∀ y, S y → y < w.heap.size) (hk : zB w S t.kids ka) :
 Calls Tryz.prog 30 #[.agg #[.int .i64 t.id, .int .i64 t.kind, .string t.text, .slice ka kn kc]] w fun e w' => e = .returned (.bool (zT t)) ∧ Below w.heap.size w w' := by
 obtain ⟨W, hW⟩ : ∃ W, W = zn w [.cells #[.int .i64 t.id, .int .i64 t.kind, .string t.text, .slice ka kn kc] 35, .cells #[.int .i64 0] 3] := ⟨_, rfl⟩
 have hb : Below w.heap.size w W := by rw [hW]; exact zl _ _
 have h0 : W.heap[w.heap.size]? = some (.cells #[.int .i64 t.id, .int .i64 t.kind, .string t.text, .slice ka kn kc] 35 (0, 0)) := by rw [hW]; exact zg _ _ 0 _ rfl
 have h1 : W.heap[w.heap.size + 1]? = some (.cells #[.int .i64 0] 3 (0, 0)) := by rw [hW]; exact zg _ _ 1 _ rfl
 have hs := hb.size
 have hc := zb5 (W := W) (NB := w.heap.size + 1) (S := S) (fun y hy => by have := hS y hy; exact ⟨by omega, by omega⟩) (ze t.kids + 1) W 0 1 t ka kn kc (by omega) (by omega) (by omega) hkn (hk.below hb hS) ⟨h1, fun _ _ _ => rfl, Nat.le_refl _, rfl, rfl, rfl⟩
 have HC := hH (aN hc (aN hb hW))
 have n0 : W.cell? ⟨w.heap.size, 0, none⟩ = some (.int .i64 t.id) := by rw [cell_of_row _ _ 0 _ _ _ h0]; rfl
 have n1 : W.cell? ⟨w.heap.size, 1, none⟩ = some (.int .i64 t.kind) := by rw [cell_of_row _ _ 1 _ _ _ h0]; rfl
 have n2 : W.cell? ⟨w.heap.size, 2, none⟩ = some (.string t.text) := by rw [cell_of_row _ _ 2 _ _ _ h0]; rfl
 have n3 : W.cell? ⟨w.heap.size, 3, none⟩ = some (.slice ka kn kc) := by rw [cell_of_row _ _ 3 _ _ _ h0]; rfl
 clear hc hb hW h0 h1 hs hk hkn hS
 go_enter Tryz.func30, Tryz.ntmps30
 go_upto_region 2 with fail
 change Code.wp _ _ _ _ (zn w [.cells #[.int .i64 t.id, .int .i64 t.kind, .string t.text, .slice ka kn kc] 35, .cells #[.int .i64 0] 3])
 rw [← HC.out.2.2]
 go_wp2_with fail
 refine HC.out.1.mono ?_
 rintro e X ⟨c', hc', rfl, _⟩
 have HX := hH (show Below w.heap.size w X from ⟨hc'.os.trans HC.out.2.1.os, hc'.tape.trans HC.out.2.1.tape, hc'.output.trans HC.out.2.1.output, Nat.le_trans HC.out.2.1.size hc'.size, fun y hy => (hc'.below y (nL hy HC.out.2.1.size) (by omega)).trans (HC.out.2.1.block y hy)⟩)
 clear hc'
 go_wp2_with fail
 go_ret
 exact ⟨rfl, HX.out⟩
end Go.Proofs.YtchccbfljamjnaaGreat
