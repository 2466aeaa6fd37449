/-
  .
-/
import Derived.Test.YtchccbfljamjnaaGreatERowQm
import Derived.Deep.RegionHeld3
import Derived.StillTailTactics
import Derived.Test.YtchccbfljamjnaaGreatERowLQm
import Derived.Test.YtchccbfljamjnaaGreatJPgQm
set_option maxRecDepth 100000
set_option maxHeartbeats 40000000
set_option linter.unusedVariables false
set_option linter.unusedSimpArgs false
namespace Go.Proofs.YtchccbfljamjnaaGreat
open Go.RowKit
def qb (t u : Tr) (w : World) (e : Ending) (w' : World) : Prop := e = .returned (.bool (yF t u)) ∧ Below w.heap.size w w'
theorem qb.mk {t u : Tr} {w w' : World} {b : Bool} (h : yF t u = b) (hb : Below w.heap.size w w') : qb t u w (.returned (.bool b)) w' := ⟨by rw [h], hb⟩
theorem zq (w : World) (o o' : Obj) : Below w.heap.size w ((w.alloc o).alloc o') := ((Below.refl _ _).alloc (Nat.le_refl _) _).alloc (by simp) _
theorem JY (w : World) (id1 kd1 id2 kd2 : Int) (tx1 tx2 : ByteArray) (a1 a2 : Option Addr) (len1 cap1 len2 cap2 : Nat) (t u : Tr) (hs : yF t u = false) (hd : ¬ (id1 = id2 ∧ kd1 = kd2 ∧ tx1.toList = tx2.toList ∧ len1 = len2)) :
 Calls Tryz.prog 64 #[.agg #[.int .i64 id1, .int .i64 kd1, .string tx1, .slice a1 len1 cap1], .agg #[.int .i64 id2, .int .i64 kd2, .string tx2, .slice a2 len2 cap2]] w (qb t u w) := by
 have HS := hH hs
 clear hs
 by_cases h1 : id1 = id2
 · by_cases h2 : kd1 = kd2
   · by_cases h3 : tx1.toList = tx2.toList
     · have h4 : ¬ len1 = len2 := fun h => hd ⟨h1, h2, h3, h⟩
       clear hd
       subst h1; subst h2
       go_enter Tryz.func64, Tryz.ntmps64
       go_wp2_with fail
       go_ret
       exact qb.mk HS.out (zq _ _ _)
     · clear hd
       subst h1; subst h2
       go_enter Tryz.func64, Tryz.ntmps64
       go_wp2_with fail
       go_ret
       exact qb.mk HS.out (zq _ _ _)
   · clear hd
     subst h1
     go_enter Tryz.func64, Tryz.ntmps64
     go_wp2_with fail
     go_ret
     exact qb.mk HS.out (zq _ _ _)
 · clear hd
   go_enter Tryz.func64, Tryz.ntmps64
   go_wp2_with fail
   go_ret
   exact qb.mk HS.out (zq _ _ _)
def Qq (w : World) (c1 c2 : Array Value) (len : Nat) (f g : Fo) (i : Value) (wr : World) : Prop :=
 ∃ k : Nat, k ≤ len ∧ i = .int .i64 k ∧ wr.heap[w.heap.size]? = some (.cells c1 35 (0, 0)) ∧ wr.heap[w.heap.size + 1]? = some (.cells c2 35 (0, 0)) ∧ Below w.heap.size w wr ∧ yR f g = yR (zn k f) (zn k g)
theorem JW : ∀ (n : Nat) (w : World) (S1 S2 : Nat → Prop) (v1 v2 : Value) (t u : Tr), zb t.kids < n → foLen t.kids ≤ 9223372036854775807 ∧ qf t.kids → (∀ k, S1 k → k < w.heap.size) → (∀ k, S2 k → k < w.heap.size) → qj w S1 v1 t → qj w S2 v2 u →
 Calls Tryz.prog 64 #[v1, v2] w (qb t u w) := by
 intro n
 induction n with
 | zero => intro w S1 S2 v1 v2 t u h; omega
 | succ n ih =>
   intro w S1 S2 v1 v2 t u hn hm hS1 hS2 hv1 hv2
   obtain ⟨ka1, cap1, rfl, _, hk1⟩ := hv1
   obtain ⟨ka2, cap2, rfl, _, hk2⟩ := hv2
   obtain ⟨id1, kd1, tx1, ks1⟩ := t
   obtain ⟨id2, kd2, tx2, ks2⟩ := u
   simp only at hk1 hk2 hn hm
   simp only
   by_cases hd : id1 = id2 ∧ kd1 = kd2 ∧ tx1.toList = tx2.toList ∧ foLen ks1 = foLen ks2
   · obtain ⟨rfl, rfl, h3, h4⟩ := hd
     have hsame : yF ⟨id1, kd1, tx1, ks1⟩ ⟨id1, kd1, tx2, ks2⟩ = yR ks1 ks2 := by simp [yF, j6, h3, h4]
     obtain ⟨len, hlen⟩ : ∃ len, len = foLen ks1 := ⟨_, rfl⟩
     rw [← h4, ← hlen]
     have HLEN := hH (aN hlen (hlen.trans h4))
     have HK := hH (aN hk1 hk2)
     have HS := hH hsame
     have hlen6 : len ≤ 9223372036854775807 := by rw [hlen]; exact hm.1
     have HN := hH (aN hn hm)
     have HSS := hH (aN hS1 hS2)
     have HIH := hH ih
     clear hlen h4 hk1 hk2 hsame hn hm hS1 hS2 ih
     go_enter Tryz.func64, Tryz.ntmps64
     go_wp2_with fail
     go_loopw [5] (fun i wr => Qq w #[.int .i64 id1, .int .i64 kd1, .string tx1, .slice ka1 len cap1] #[.int .i64 id1, .int .i64 kd1, .string tx2, .slice ka2 len cap2] len ks1 ks2 i wr) (fun i _ => len - (intOf i).toNat)
     case atStart =>
      exact ⟨0, Nat.zero_le _, rfl, by rw [Below.heap_alloc _ _ _ (by simp)]; exact heap_alloc_new w _, by have := heap_alloc_new (w.alloc (.cells #[.int .i64 id1, .int .i64 kd1, .string tx1, .slice ka1 len cap1] 35)) (.cells #[.int .i64 id1, .int .i64 kd1, .string tx2, .slice ka2 len cap2] 35); simpa using this, zq _ _ _, rfl⟩
     case round =>
      obtain ⟨k, hk, rfl, hb1, hb2, hbel, hsf⟩ := hrel
      have p1 : wr.cell? ⟨w.heap.size, 3, none⟩ = some (.slice ka1 len cap1) := by rw [cell_of_row wr _ 3 _ _ _ hb1]; rfl
      have p2 : wr.cell? ⟨w.heap.size + 1, 3, none⟩ = some (.slice ka2 len cap2) := by rw [cell_of_row wr _ 3 _ _ _ hb2]; rfl
      have HSF := hH hsf
      have HB := hH (aN hb1 (aN hb2 hbel))
      clear hb1 hb2 hbel hsf
      by_cases hlt : k < len
      · obtain ⟨W, hW⟩ : ∃ W, W = wr.drew := ⟨_, rfl⟩
        have hW0 : Below w.heap.size w W := by rw [hW]; exact below_drewN HB.out.2.2 1
        have hsz : w.heap.size ≤ W.heap.size := hW0.size
        have q1 : W.cell? ⟨w.heap.size, 3, none⟩ = some (.slice ka1 len cap1) := by rw [hW]; exact p1
        have q2 : W.cell? ⟨w.heap.size + 1, 3, none⟩ = some (.slice ka2 len cap2) := by rw [hW]; exact p2
        have hk1 := HK.out.1.below hW0 HSS.out.1
        have hk2 := HK.out.2.below hW0 HSS.out.2
        obtain ⟨b0, o0, ⟨ki, kk, kt⟩, l, r, hd1, b, off, a1, n1, rfl, hSb, c0, c1, c2, c3, hcp1, hl1⟩ := hk1.at k (by rw [← HLEN.out.1]; exact hlt)
        obtain ⟨b0', o0', ⟨ki', kk', kt'⟩, l', r', hd2, b', off', a2, n2, rfl, hSb', d0, d1, d2, d3, hcp2, hl2⟩ := hk2.at k (by rw [← HLEN.out.2]; exact hlt)
        obtain ⟨_, _, _, _, _, e1, e2, hsz1, _⟩ := zR k ks1 (by rw [← HLEN.out.1]; exact hlt)
        rw [hd1] at e1; cases e1
        obtain ⟨_, _, _, _, _, e1, e2', _, _⟩ := zR k ks2 (by rw [← HLEN.out.2]; exact hlt)
        rw [hd2] at e1; cases e1
        have hs1 : yR ks1 ks2 = (yF ⟨ki, kk, kt, l⟩ ⟨ki', kk', kt', l'⟩ && yR (zn (k + 1) ks1) (zn (k + 1) ks2)) := by rw [HSF.out, hd1, hd2, e2, e2']; rfl
        have hcall := HIH.out W S1 S2 (.agg #[.int .i64 ki, .int .i64 kk, .string kt, .slice a1 (foLen l) n1]) (.agg #[.int .i64 ki', .int .i64 kk', .string kt', .slice a2 (foLen l') n2]) ⟨ki, kk, kt, l⟩ ⟨ki', kk', kt', l'⟩ (by have := HN.out.1; simp only; omega) (vk k HN.out.2.2 hd1) (fun x hx => nL (HSS.out.1 x hx) hsz) (fun x hx => nL (HSS.out.2 x hx) hsz) ⟨a1, n1, rfl, hcp1, hl1⟩ ⟨a2, n2, rfl, hcp2, hl2⟩
        obtain ⟨bb, hbb⟩ : ∃ bb, bb = yF ⟨ki, kk, kt, l⟩ ⟨ki', kk', kt', l'⟩ := ⟨_, rfl⟩
        obtain ⟨m1, hm1⟩ : ∃ m, m = foLen l := ⟨_, rfl⟩
        obtain ⟨m2, hm2⟩ : ∃ m, m = foLen l' := ⟨_, rfl⟩
        rw [← hm1, ← hm2] at hcall
        rw [← hm1] at c3
        rw [← hm2] at d3
        rw [← hbb] at hs1
        simp only at c0 c1 c2 d0 d1 d2
        have HC := hH hcall
        have HS1 := hH hs1
        have HBB := hH hbb
        have HW := hH hW
        have HW0 := hH hW0
        have HBW := hH (show W.heap[w.heap.size]? = some (.cells #[.int .i64 id1, .int .i64 kd1, .string tx1, .slice (some ⟨b, off, none⟩) len cap1] 35 (0, 0)) ∧ W.heap[w.heap.size + 1]? = some (.cells #[.int .i64 id1, .int .i64 kd1, .string tx2, .slice (some ⟨b', off', none⟩) len cap2] 35 (0, 0)) by rw [hW]; exact ⟨HB.out.1, HB.out.2.1⟩)
        have hkl : (k : Int) < (len : Int) := by omega
        have hlt2 : w.heap.size + 1 < W.heap.size := lt_of_some HBW.out.2
        clear hk1 hk2 hd1 hd2 e2 e2' hs1 hcall hbb hm1 hm2 hW hW0 hsz hl1 hl2 hcp1 hcp2 hsz1 hSb hSb'
        go_wp2_with fail
        have hdr : ({ heap := wr.heap, tape := wr.tape, drawn := wr.drawn + 1, os := wr.os, output := wr.output } : World) = W := HW.out.symm
        refine wp_region_still_tail 10 (by kernel_rfl) (by kernel_rfl) ?_
        simp only [List.take_succ_cons, List.take_zero, List.drop_succ_cons, List.drop_zero]
        rw [hdr]
        clear hdr
        repeat still_step
        try refine wpStill_nil ?_
        cases bb
        · go_wp2_with (go_at_call 64; refine HC.out.mono ?_; rintro e w2 ⟨rfl, hb2⟩; rw [← HBB.out]; have HB2 := hH hb2; clear hb2)
          go_ret
          exact qb.mk (by rw [HS.out, HS1.out]; rfl) (HW0.out.trans (HB2.out.mono (Nat.le_of_lt (Nat.lt_of_succ_lt hlt2))))
        · go_wp2_with (go_at_call 64; refine HC.out.mono ?_; rintro e w2 ⟨rfl, hb2⟩; rw [← HBB.out]; have HB2 := hH hb2; clear hb2)
          exact ⟨⟨k + 1, by omega, by go_num, (HB2.out.block _ (Nat.lt_of_succ_lt hlt2)).trans HBW.out.1, (HB2.out.block _ hlt2).trans HBW.out.2, HW0.out.trans (HB2.out.mono (Nat.le_of_lt (Nat.lt_of_succ_lt hlt2))), by rw [HS1.out]; rfl⟩, by simp [intOf]; omega⟩
      · have hkk : k = len := by omega
        have hs := HSF.out
        rw [yl k _ (by rw [← HLEN.out.1]; omega), yl k _ (by rw [← HLEN.out.2]; omega)] at hs
        have HR := hH (HS.out.trans hs)
        clear hs hkk
        go_wp2_with fail
        go_ret
        exact qb.mk HR.out HB.out.2.2
   · refine JY w id1 kd1 id2 kd2 tx1 tx2 ka1 ka2 _ _ _ _ _ _ ?_ hd
     simp only [yF, j6]
     simp
     intro h1 h2 h3 h4
     exact absurd ⟨h1, h2, h3, h4⟩ hd
end Go.Proofs.YtchccbfljamjnaaGreat
namespace Go.Proofs.YtchccbfljamjnaaGreat
open Go.RowKit Go.Shelf
def vZ (x y : Sp) : Bool := decide (x.2.1.1 = y.2.1.1) && (decide (x.2.1.2.1 = y.2.1.2.1) && (decide (foLen x.2.2 = foLen y.2.2) && decide (x.2.1.2.2.toList = y.2.1.2.2.toList)))
def eqL : List Sp → List Sp → Bool
 | [], [] => true
 | x :: l, y :: m => vZ x y && eqL l m
 | _, _ => false
theorem vg : ∀ (f g : Fo) (d e : Nat) (p q : List Sp), foLen f = foLen g → eqL (spF d f ++ p) (spF e g ++ q) = (yR f g && eqL p q)
 | .nil, .nil, _, _, _, _, _ => by simp [spF, yR]
 | .nil, .node _ _ _ _ _, _, _, _, _, h => by simp [foLen] at h
 | .node _ _ _ _ _, .nil, _, _, _, _, h => by simp [foLen] at h
 | .node _ _ k l r, .node _ _ k' l' r', d, e, p, q, h => by
   have hr : foLen r = foLen r' := by simpa [foLen] using h
   simp only [spF, List.cons_append, List.append_assoc, eqL, yR]
   by_cases hl : foLen l = foLen l'
   · rw [vg l l' (d + 1) (e + 1) _ _ hl, vg r r' d e p q hr]
     simp only [vZ, j6, hl, decide_true, Bool.true_and]
     by_cases h1 : k.1 = k'.1 <;> by_cases h2 : k.2.1 = k'.2.1 <;> by_cases h3 : k.2.2.toList = k'.2.2.toList <;> simp [h1, h2, h3, Bool.and_assoc]
   · simp [vZ, hl]
theorem JF (a b : Tr) : eqL (spF 1 (zX a)) (spF 1 (zX b)) = yF a b := by
 have := vg (zX a) (zX b) 1 1 [] [] (by simp [zX, foLen])
 rw [List.append_nil, List.append_nil] at this
 rw [this]
 simp [eqL, zX, yR, yF]
theorem jK : ∀ (l m : List Sp), eqL l m = true → l.length = m.length
 | [], [], _ => rfl
 | x :: l, y :: m, h => by simp only [eqL, Bool.and_eq_true] at h; simp [jK l m h.2]
 | [], _ :: _, h => by simp [eqL] at h
 | _ :: _, [], h => by simp [eqL] at h
theorem ZJ : ∀ (k : Nat) (l m : List Sp) (x y : Sp), l[k]? = some x → m[k]? = some y → eqL (l.drop k) (m.drop k) = (vZ x y && eqL (l.drop (k + 1)) (m.drop (k + 1)))
 | 0, x :: l, y :: m, _, _, h1, h2 => by simp at h1 h2; subst h1; subst h2; simp [eqL]
 | k + 1, x :: l, y :: m, a, b, h1, h2 => by simpa using ZJ k l m a b (by simpa using h1) (by simpa using h2)
 | _, [], _, _, _, h1, _ => by simp at h1
 | _, _ :: _, [], _, _, _, h2 => by simp at h2
theorem jP : ∀ (l : List Sp) (k : Nat) (x : Sp), l[k]? = some x → (l.flatMap zV)[k * 4]? = some (.int .i64 x.2.1.1) ∧ (l.flatMap zV)[k * 4 + 1]? = some (.int .i64 x.2.1.2.1) ∧ (l.flatMap zV)[k * 4 + 2]? = some (.int .i64 (foLen x.2.2 : Int)) ∧ (l.flatMap zV)[k * 4 + 3]? = some (.string x.2.1.2.2)
 | x :: l, 0, _, h => by simp at h; subst h; simp [zV]
 | y :: l, k + 1, x, h => by
   have := jP l k x (by simpa using h)
   have e : ∀ j, ((y :: l).flatMap zV)[(k + 1) * 4 + j]? = (l.flatMap zV)[k * 4 + j]? := fun j => by
    rw [List.flatMap_cons, show (k + 1) * 4 + j = k * 4 + j + 4 by omega]
    simp [zV]
   exact ⟨(e 0).trans this.1, (e 1).trans this.2.1, (e 2).trans this.2.2.1, (e 3).trans this.2.2.2⟩
 | [], _, _, h => by simp at h
end Go.Proofs.YtchccbfljamjnaaGreat
