/-
  .
-/
import Derived.Deep.Cut
import Derived.Test.YtchccbfljamjnaaGreatWAskQm
import Derived.Test.YtchccbfljamjnaaGreatGRiseQm
import Derived.Test.YtchccbfljamjnaaGreatJPgQm
set_option maxRecDepth 100000
set_option maxHeartbeats 40000000
namespace Go.Proofs.YtchccbfljamjnaaGreat
open Go.RowKit Go.Shelf
set_option linter.unusedVariables false
set_option linter.unusedSimpArgs false
def yA (d c : Nat) (k : Int × Int × ByteArray) : Bool := decide (c ≤ 200) && decide (d ≤ 32) && zu 1 1125899906842624 k.1 && zu 0 32 k.2.1 && decide (k.2.2.size ≤ 40)
def yO : Nat → Nat → Fo → Option Nat
 | d, c, .nil => some c
 | d, c, .node _ _ k l r => if yA d (c + 1) k = true then (match yO (d + 1) (c + 1) l with | some m => yO d m r | none => none) else none
def yt (d c : Nat) (t : Tr) : Option Nat := if yA d (c + 1) (t.id, t.kind, t.text) = true then yO (d + 1) (c + 1) t.kids else none
def yH (t : Tr) : Bool := (yt 1 0 t).isSome
theorem ko (d c b o : Nat) (k : Int × Int × ByteArray) (l r : Fo) : yO d c (.node b o k l r) = (match yt d c ⟨k.1, k.2.1, k.2.2, l⟩ with | some m => yO d m r | none => none) := by
 simp only [yO, yt]
 split <;> rfl
theorem y8 : ∀ (d c : Nat) (f : Fo) (m : Nat), yO d c f = some m → c ≤ 200 → m ≤ 200 ∧ c ≤ m
 | d, c, .nil, m, h, hc => by simp only [yO] at h; cases h; exact ⟨hc, Nat.le_refl _⟩
 | d, c, .node b o k l r, m, h, hc => by
   simp only [yO] at h
   split at h
   · rename_i hw
     have h1 : c + 1 ≤ 200 := by simp only [yA, Bool.and_eq_true, decide_eq_true_eq] at hw; exact hw.1.1.1.1
     split at h
     · rename_i p hp
       have h2 := y8 _ _ l p hp h1
       have h3 := y8 d p r m h h2.1
       exact ⟨h3.1, by omega⟩
     · cases h
   · cases h
theorem kr {d c m : Nat} {t : Tr} (h : yt d c t = some m) : m ≤ 200 := by
 unfold yt at h
 split at h
 · rename_i hw
   have h1 : c + 1 ≤ 200 := by simp only [yA, Bool.and_eq_true, decide_eq_true_eq] at hw; exact hw.1.1.1.1
   exact (y8 _ _ _ _ h h1).1
 · cases h
structure yj (W : World) (NB : Nat) (c : Nat) (X : World) : Prop where
 cell : X.heap[NB]? = some (.cells #[.int .i64 (c : Int)] 3 (0, 0))
 below : ∀ y, y < W.heap.size → y ≠ NB → X.heap[y]? = W.heap[y]?
 size : W.heap.size ≤ X.heap.size
 os : X.os = W.os
 tape : X.tape = W.tape
 output : X.output = W.output
theorem yj.on {W X Y : World} {NB c : Nat} (h : yj W NB c X) (hb : Below X.heap.size X Y) : yj W NB c Y :=
 ⟨(hb.block _ (lt_of_heap h.cell)).trans h.cell, fun y h1 h2 => (hb.block _ (nL h1 h.size)).trans (h.below y h1 h2), Nat.le_trans h.size hb.size, hb.os.trans h.os, hb.tape.trans h.tape, hb.output.trans h.output⟩
theorem yj.set {W X : World} {NB c : Nat} (h : yj W NB c X) (m : Nat) : yj W NB m (X.setCell ⟨NB, 0, none⟩ (.int .i64 (m : Int))) :=
 ⟨by rw [heap_setCell_same _ _ _ _ _ _ h.cell]; rfl, fun y h1 h2 => (Below.heap_setCell _ _ _ _ h2).trans (h.below y h1 h2), by have := h.size; simpa [World.setCell] using this, h.os, h.tape, h.output⟩
def vE (W : World) (NB : Nat) (o : Option Nat) (e : Ending) (X : World) : Prop := match o with
 | some c => e = .returned (.tuple #[]) ∧ yj W NB c X
 | none => e = .panicked qV ∧ ∃ c, yj W NB c X
theorem vE.none {W X : World} {NB c : Nat} {o : Option Nat} (h : o = Option.none) (hc : yj W NB c X) : vE W NB o (.panicked qV) X := by subst h; exact ⟨rfl, c, hc⟩
theorem vE.some {W X : World} {NB c : Nat} {o : Option Nat} (h : o = Option.some c) (hc : yj W NB c X) : vE W NB o (.returned (.tuple #[])) X := by subst h; exact ⟨rfl, hc⟩
theorem Jy {W : World} {NB FB : Nat} {S : Nat → Prop} (hF : W.heap[FB]? = some (.cells #[.func (.func 114) #[] #[.pointer (some ⟨NB, 0, none⟩), .pointer (some ⟨FB, 0, none⟩)]] 152 (0, 0))) (hFN : FB ≠ NB) (hS : ∀ y, S y → y < W.heap.size ∧ y ≠ NB) :
 ∀ (M : Nat) (X : World) (c d : Nat) (t : Tr) (ka : Option Addr) (kn kc : Nat), zb t.kids < M → c ≤ 200 → d ≤ 33 → kn = foLen t.kids → zi W S t.kids ka → yj W NB c X →
 Calls Tryz.prog 114 #[.agg #[.int .i64 t.id, .int .i64 t.kind, .string t.text, .slice ka kn kc], .int .i64 (d : Int), .pointer (some ⟨NB, 0, none⟩), .pointer (some ⟨FB, 0, none⟩)] X (vE W NB (yt d c t)) := by
 intro M
 induction M with
 | zero => intro X c d t ka kn kc h; omega
 | succ M ih =>
   intro X c d t ka kn kc hM hc hd hkn hk hX
   obtain ⟨c1, hc1⟩ : ∃ c1, c1 = c + 1 := ⟨_, rfl⟩
   have hcw : IntKind.i64.wrap ((c : Int) + 1) = (c1 : Int) := by rw [IntWalk.i64_in _ (by omega)]; omega
   obtain ⟨d1, hd1⟩ : ∃ d1, d1 = d + 1 := ⟨_, rfl⟩
   have hdw : IntKind.i64.wrap ((d : Int) + 1) = (d1 : Int) := by rw [IntWalk.i64_in _ (by omega)]; omega
   obtain ⟨N, hN⟩ : ∃ N, N = yt d c t := ⟨_, rfl⟩
   have hno : ∀ h : yA d (c + 1) (t.id, t.kind, t.text) = false, N = none := fun h => by rw [hN, yt, h]; rfl
   obtain ⟨B, hB⟩ : ∃ B, B = X.alloc (.cells #[.int .i64 t.id, .int .i64 t.kind, .string t.text, .slice ka kn kc] 35) := ⟨_, rfl⟩
   have hb : Below X.heap.size X B := by rw [hB]; exact (Below.refl _ _).alloc (Nat.le_refl _) _
   have hXB := hX.on hb
   have hV := hXB.set c1
   obtain ⟨V, hVe⟩ : ∃ V, V = B.setCell ⟨NB, 0, none⟩ (.int .i64 (c1 : Int)) := ⟨_, rfl⟩
   rw [← hVe] at hV
   have eB : B.heap[X.heap.size]? = some (.cells #[.int .i64 t.id, .int .i64 t.kind, .string t.text, .slice ka kn kc] 35 (0, 0)) := by rw [hB]; exact heap_alloc_new _ _
   have hXN : NB < X.heap.size := lt_of_heap hX.cell
   have eV : V.heap[X.heap.size]? = some (.cells #[.int .i64 t.id, .int .i64 t.kind, .string t.text, .slice ka kn kc] 35 (0, 0)) := by rw [hVe]; exact (Below.heap_setCell _ _ _ _ (by simp only; omega)).trans eB
   have hXW : W.heap.size ≤ X.heap.size := hX.size
   have n0 : B.cell? ⟨NB, 0, none⟩ = some (.int .i64 (c : Int)) := by rw [cell_of_row _ _ 0 _ _ _ hXB.cell]; rfl
   have nf : ∀ j, B.frozen? ⟨NB, j, none⟩ = false := fun j => frozen_of_row _ _ j _ _ hXB.cell
   have v0 : V.cell? ⟨NB, 0, none⟩ = some (.int .i64 (c1 : Int)) := by rw [cell_of_row _ _ 0 _ _ _ hV.cell]; rfl
   have hcells : ∀ Y, Below V.heap.size V Y → Y.cell? ⟨X.heap.size, 0, none⟩ = some (.int .i64 t.id) ∧ Y.cell? ⟨X.heap.size, 1, none⟩ = some (.int .i64 t.kind) ∧ Y.cell? ⟨X.heap.size, 2, none⟩ = some (.string t.text) ∧ Y.cell? ⟨X.heap.size, 3, none⟩ = some (.slice ka kn kc) := fun Y hY => by
    have e := (hY.block _ (lt_of_heap eV)).trans eV
    exact ⟨by rw [cell_of_row _ _ 0 _ _ _ e]; rfl, by rw [cell_of_row _ _ 1 _ _ _ e]; rfl, by rw [cell_of_row _ _ 2 _ _ _ e]; rfl, by rw [cell_of_row _ _ 3 _ _ _ e]; rfl⟩
   have HC := hH hcells
   have HNO := hH hno
   have HN := hH hN
   have HV := hH hV
   have HBE := hH (aN hB hVe)
   have HT := hH (aN hM (aN hkn (aN hk (aN hd (aN hc1 hd1)))))
   have HIH := hH ih
   have HXW := hH hXW
   have HF : Hid (∀ Y m, yj W NB m Y → Y.cell? ⟨FB, 0, none⟩ = some (.func (.func 114) #[] #[.pointer (some ⟨NB, 0, none⟩), .pointer (some ⟨FB, 0, none⟩)])) := hH fun Y m h => by rw [cell_of_row _ _ 0 _ _ _ ((h.below _ (lt_of_heap hF) hFN).trans hF)]; rfl
   clear hcells hno hN hV hB hVe hM hkn hk ih hb hXB eB eV hXN hXW hX
   rw [← HN.out]
   by_cases hcd : c1 ≤ 200 ∧ d ≤ 32
   rotate_left
   · have HNN := hH (HNO.out (by
      have := HT.out.2.2.2.2.1
      rw [← this]; unfold yA
      by_cases h1 : c1 ≤ 200
      · rw [decide_eq_false (fun h2 : d ≤ 32 => hcd ⟨h1, h2⟩), Bool.and_false]; rfl
      · rw [decide_eq_false h1]; rfl))
     have HA := hH (fun Y => zP Y false)
     by_cases h1 : c1 ≤ 200
     · have g1 : (c1 : Int) ≤ 200 := by omega
       have g2 : ¬ (d : Int) ≤ 32 := by omega
       clear hcd h1 hc1 hd1
       go_enter Tryz.func114, Tryz.ntmps114
       go_upto_region 1 with fail
       change Code.wp _ _ _ _ (X.alloc (.cells #[.int .i64 t.id, .int .i64 t.kind, .string t.text, .slice ka kn kc] 35))
       rw [← HBE.out.1]
       go_upto_region 2 with fail
       rw [← HBE.out.2]
       go_wp2_with fail
       refine (HA.out V).mono ?_
       intro e w' hq; obtain ⟨rfl, hb'⟩ := hq.f
       exact ⟨rfl, vE.none HNN.out (HV.out.on hb')⟩
     · have g1 : ¬ (c1 : Int) ≤ 200 := by omega
       clear hcd h1 hc1 hd1
       go_enter Tryz.func114, Tryz.ntmps114
       go_upto_region 1 with fail
       change Code.wp _ _ _ _ (X.alloc (.cells #[.int .i64 t.id, .int .i64 t.kind, .string t.text, .slice ka kn kc] 35))
       rw [← HBE.out.1]
       go_upto_region 2 with fail
       rw [← HBE.out.2]
       go_wp2_with fail
       refine (HA.out V).mono ?_
       intro e w' hq; obtain ⟨rfl, hb'⟩ := hq.f
       exact ⟨rfl, vE.none HNN.out (HV.out.on hb')⟩
   have g1 : (c1 : Int) ≤ 200 := by omega
   have g2 : (d : Int) ≤ 32 := by omega
   have HCD := hH hcd
   clear hcd hc1 hd1
   go_enter Tryz.func114, Tryz.ntmps114
   go_upto_region 1 with fail
   change Code.wp _ _ _ _ (X.alloc (.cells #[.int .i64 t.id, .int .i64 t.kind, .string t.text, .slice ka kn kc] 35))
   rw [← HBE.out.1]
   go_upto_region 2 with fail
   rw [← HBE.out.2]
   clear HBE
   go_wp2_with fail
   refine (zP V true).mono ?_
   intro e w1 hq; obtain ⟨rfl, hb1⟩ := hq.t
   have H1 := hH hb1
   clear hq hb1 v0 n0 nf g1 g2
   obtain ⟨k0, k1, k2, k3⟩ := HC.out w1 H1.out
   go_wp2_with fail
   refine (zB w1 t.id 1 1125899906842624).mono ?_
   intro e w2 hq
   cases hb0 : zu 1 1125899906842624 t.id
   · rw [hb0] at hq
     obtain ⟨rfl, hb2⟩ := hq.f
     exact ⟨rfl, vE.none (HNO.out (by simp only [yA, hb0, Bool.and_false, Bool.false_and])) (HV.out.on (H1.out.trans (hb2.mono H1.out.size)))⟩
   rw [hb0] at hq
   obtain ⟨rfl, hb2⟩ := hq.t
   have H2 := hH (H1.out.trans (hb2.mono H1.out.size))
   have HB0 := hH hb0
   clear hq hb2 k0 k1 k2 k3 hb0 H1
   obtain ⟨k0, k1, k2, k3⟩ := HC.out w2 H2.out
   go_wp2_with fail
   refine (zB w2 t.kind 0 32).mono ?_
   intro e w3 hq
   cases hb0 : zu 0 32 t.kind
   · rw [hb0] at hq
     obtain ⟨rfl, hb2⟩ := hq.f
     exact ⟨rfl, vE.none (HNO.out (by simp only [yA, hb0, Bool.and_false, Bool.false_and])) (HV.out.on (H2.out.trans (hb2.mono H2.out.size)))⟩
   rw [hb0] at hq
   obtain ⟨rfl, hb2⟩ := hq.t
   have H3 := hH (H2.out.trans (hb2.mono H2.out.size))
   have HB1 := hH hb0
   clear hq hb2 k0 k1 k2 k3 hb0 H2
   obtain ⟨k0, k1, k2, k3⟩ := HC.out w3 H3.out
   go_wp2_with fail
   refine (jb w3 t.text).mono ?_
   intro e w4 hq
   cases hb0 : decide (t.text.size ≤ 40)
   · rw [hb0] at hq
     obtain ⟨rfl, hb2⟩ := hq.f
     exact ⟨rfl, vE.none (HNO.out (by simp only [yA, hb0, Bool.and_false])) (HV.out.on (H3.out.trans (hb2.mono H3.out.size)))⟩
   rw [hb0] at hq
   obtain ⟨rfl, hb2⟩ := hq.t
   have H4 := hH (H3.out.trans (hb2.mono H3.out.size))
   have HNE := hH (show N = yO d1 c1 t.kids by
    rw [HN.out, yt, ← HT.out.2.2.2.2.1, HT.out.2.2.2.2.2, if_pos (by simp only [yA, HB0.out, HB1.out, hb0, decide_eq_true HCD.out.1, decide_eq_true HCD.out.2]; rfl)])
   clear hq hb2 k0 k1 k2 k3 hb0 H3 HB0 HB1 HNO
   obtain ⟨k0, k1, k2, k3⟩ := HC.out w4 H4.out
   have hcv := HV.out.on H4.out
   have HI := hH (aN hcv (aN HCD.out.1 HNE.out))
   clear hcv
   go_wp2_with fail
   clear k0 k1 k2 k3
   go_loopw [29] (fun i wr => ∃ j : Nat, j ≤ kn ∧ i = .int .i64 (j : Int) ∧ Hid (∃ m : Nat, j ≤ m ∧ m ≤ 200 ∧ yj W NB m wr ∧ N = yO d1 m (zn j t.kids))) (fun i _ => kn - (intOf i).toNat)
   case atStart => exact ⟨0, Nat.zero_le _, rfl, hH ⟨c1, Nat.zero_le _, HI.out.2.1, HI.out.1, by rw [HI.out.2.2]; cases t.kids <;> rfl⟩⟩
   case round =>
    obtain ⟨j, hj, rfl, hh⟩ := hrel
    obtain ⟨wo, hwo⟩ : ∃ wo, wo = wr := ⟨_, rfl⟩
    subst hwo
    obtain ⟨m, hjm, hm, hcm, hNm⟩ := hh.out
    clear hh
    by_cases hlt : j < kn
    · obtain ⟨b0, o0, key, ll, rr, hdr, g, go, na, nc, rfl, hSg, q0, q1, q2, q3, qc, qk⟩ := zi.at j HT.out.2.2.1 (by have := HT.out.2.1; omega)
      obtain ⟨_, _, _, _, _, hdr', hnx, hsz, _⟩ := zR j t.kids (by have := HT.out.2.1; omega)
      rw [hdr] at hdr'
      cases hdr'
      have hji : (j : Int) < (kn : Int) := by omega
      have hj2 : (j : Int) ≤ 200 := by omega
      have hj0 : (0 : Int) ≤ (j : Int) := by omega
      obtain ⟨ln, hln⟩ : ∃ ln, ln = foLen ll := ⟨_, rfl⟩
      rw [← hln] at q3 qc
      have hgW : ∀ (i : Nat) (u : Value), W.cell? ⟨g, i, none⟩ = some u → wo.cell? ⟨g, i, none⟩ = some u := fun i u h => (World.cell?_of_block (a := ⟨g, i, none⟩) (hcm.below g (hS g hSg).1 (hS g hSg).2)).trans h
      have r0 := hgW _ _ q0
      have r1 := hgW _ _ q1
      have r2 := hgW _ _ q2
      have r3 := hgW _ _ q3
      obtain ⟨Z, hZ⟩ : ∃ Z, Z = wo.alloc (.cells #[.int .i64 key.1, .int .i64 key.2.1, .string key.2.2, .slice na ln nc] 35) := ⟨_, rfl⟩
      have hZb : Below wo.heap.size wo Z := by rw [hZ]; exact (Below.refl _ _).alloc (Nat.le_refl _) _
      have eZ : Z.heap[wo.heap.size]? = some (.cells #[.int .i64 key.1, .int .i64 key.2.1, .string key.2.2, .slice na ln nc] 35 (0, 0)) := by rw [hZ]; exact heap_alloc_new _ _
      have hcZ := hcm.on hZb
      have fZ := HF.out Z m hcZ
      have z0 : Z.cell? ⟨wo.heap.size, 0, none⟩ = some (.int .i64 key.1) := by rw [cell_of_row _ _ 0 _ _ _ eZ]; rfl
      have z1 : Z.cell? ⟨wo.heap.size, 1, none⟩ = some (.int .i64 key.2.1) := by rw [cell_of_row _ _ 1 _ _ _ eZ]; rfl
      have z2 : Z.cell? ⟨wo.heap.size, 2, none⟩ = some (.string key.2.2) := by rw [cell_of_row _ _ 2 _ _ _ eZ]; rfl
      have z3 : Z.cell? ⟨wo.heap.size, 3, none⟩ = some (.slice na ln nc) := by rw [cell_of_row _ _ 3 _ _ _ eZ]; rfl
      have hcall := HIH.out Z m d1 ⟨key.1, key.2.1, key.2.2, ll⟩ na ln nc (by have := HT.out.1; simp only; omega) hm (by have := HT.out.2.2.2.2.2; have := HCD.out.2; omega) hln qk hcZ
      have HCALL := hH hcall
      have HZE := hH hZ
      have HR := hH (aN hjm (aN hlt (show N = (match yt d1 m ⟨key.1, key.2.1, key.2.2, ll⟩ with | some m => yO d1 m (zn (j + 1) t.kids) | none => none) by rw [hNm, hdr, ko, hnx])))
      clear hcall hZ hZb eZ hcZ hjm hlt hNm hdr hnx hsz hm hcm qk q0 q1 q2 q3 qc hgW hSg hj hln
      go_upto_region 9 with fail
      change Code.wp _ _ _ _ (wo.alloc (.cells #[.int .i64 key.1, .int .i64 key.2.1, .string key.2.2, .slice na ln nc] 35))
      rw [← HZE.out]
      clear r0 r1 r2 r3
      go_wp2_with fail
      refine HCALL.out.mono ?_
      intro e w6 hq
      unfold vE at hq
      cases hT : yt d1 m ⟨key.1, key.2.1, key.2.2, ll⟩ with
      | none =>
        rw [hT] at hq
        obtain ⟨rfl, c', hc'⟩ := hq
        exact ⟨rfl, vE.none (by have := HR.out.2.2; rw [hT] at this; exact this) hc'⟩
      | some p =>
        rw [hT] at hq
        obtain ⟨rfl, hc'⟩ := hq
        have HQ := hH (aN hc' (aN (kr hT) (show N = yO d1 p (zn (j + 1) t.kids) by have := HR.out.2.2; rw [hT] at this; exact this)))
        have hmp : m + 1 ≤ p := by
         unfold yt at hT
         split at hT
         · rename_i hw
           have h1 : m + 1 ≤ 200 := by simp only [yA, Bool.and_eq_true, decide_eq_true_eq] at hw; exact hw.1.1.1.1
           exact (y8 _ _ _ _ hT h1).2
         · cases hT
        have HMP := hH hmp
        clear hmp hT hc' z0 z1 z2 z3 fZ
        go_wp2_with fail
        exact ⟨⟨j + 1, HR.out.2.1, by go_num, hH ⟨p, by have := HR.out.1; have := HMP.out; omega, HQ.out.2.1, HQ.out.1, HQ.out.2.2⟩⟩, by have := HR.out.2.1; simp [intOf]; omega⟩
    · have hji : ¬ (j : Int) < (kn : Int) := by omega
      have HE := hH (aN (show N = some m by rw [hNm, yl j _ (by have := HT.out.2.1; omega)]; rfl) hcm)
      clear hNm hcm hjm hm hlt hj
      go_wp2_with fail
      go_end0
      exact vE.some HE.out.1 HE.out.2
end Go.Proofs.YtchccbfljamjnaaGreat
