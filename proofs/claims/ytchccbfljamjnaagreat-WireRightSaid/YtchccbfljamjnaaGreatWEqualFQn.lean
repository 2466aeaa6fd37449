/-
  .
-/
import Derived.StillTailTactics
import Derived.Test.YtchccbfljamjnaaGreatWStepQn
import Derived.Test.YtchccbfljamjnaaGreatRCheck11Qn
import Derived.Test.YtchccbfljamjnaaGreatWSameQn
import Derived.Deep.Cut
import Derived.Test.YtchccbfljamjnaaGreatWRStepQn
import Derived.Test.YtchccbfljamjnaaGreatJPgQn
set_option maxRecDepth 100000
set_option maxHeartbeats 40000000
set_option linter.unusedVariables false
set_option linter.unusedSimpArgs false
namespace Go.Proofs.YtchccbfljamjnaaGreat
open Go.RowKit Go.Shelf
def zJ (l : List Sf) : Bool := decide (vJ l = 0) && l.all yD
theorem Yo {l : List Sf} {k : Nat} {s : Sf} (h : l[k]? = some s) (hs : yD s = false) : zJ l = false := by
 unfold zJ
 rw [Bool.and_eq_false_iff]
 right
 rw [List.all_eq_false]
 exact ⟨s, List.mem_of_getElem? h, by rw [hs]; exact Bool.false_ne_true⟩
def zaa (w : World) (x : SV) (bb : Bool) : Prop := ∀ X, Below w.heap.size w X → Calls Tryz.prog 66 #[.agg #[.int .i8 x.s.op, .int .i64 x.s.id, .int .i64 x.s.par, .int .i64 x.s.at_, .string x.s.tx, .int .i64 x.s.sub.id, .int .i64 x.s.sub.kind, .string x.s.sub.text, .slice x.a (foLen x.s.sub.kids) x.c]] X (yt bb X)
theorem zaT {w : World} {a : Option Addr} {vs : List SV} (h : Row w a vs) {k : Nat} {x : SV} (hx : vs[k]? = some x) : zaa w x (yD x.s) := fun X hX => by
 have hm := List.mem_of_getElem? hx
 have hl : qO w x.s.sub.kids x.a x.c := h.lies x hm
 obtain ⟨ka, kc, he, hcap, hk⟩ := qO.at hl hX
 cases he
 exact QL X (fun q => q < w.heap.size) x.s x.a (foLen x.s.sub.kids) x.c rfl (fun y hy => nL hy hX.size) hcap hk (by have := (h.fit x hm).size; omega)
theorem Qh (w : World) (la : Option Addr) (n c : Nat) (vs : List SV) (hn : n = vs.length) (h : Row w la vs) :
 Calls Tryz.prog 258 #[.slice la n c] w (yt (zJ (steps vs)) w) := by
 have hc := zbo w la n c vs hn h
 have hn1 : n ≤ 1000000 := by have := h.len; omega
 by_cases h0 : vJ (steps vs) = 0
 rotate_left
 · have h3 : vJ (steps vs) = 3 := by unfold vJ at h0 ⊢; split at h0; exact absurd rfl h0; rename_i hq; rw [if_neg hq]
   rw [h3] at hc
   have HC := hH hc
   have HA := hH (fun Y => zZ Y false)
   have HF := hH (show zJ (steps vs) = false by unfold zJ; rw [decide_eq_false h0, Bool.false_and])
   clear hc h h0 h3 hn
   go_enter Tryz.func258, Tryz.ntmps258
   go_wp2_with fail
   refine HC.out.mono ?_
   rintro e w1 ⟨rfl, hb1⟩
   have HB1 := hH hb1
   clear hb1
   go_wp2_with fail
   refine (HA.out w1).mono ?_
   intro e w' hq; obtain ⟨rfl, hb'⟩ := hq.f
   exact ⟨rfl, yt.no HF.out (HB1.out.trans (hb'.mono HB1.out.size))⟩
 · rw [h0] at hc
   have HC := hH hc
   have HA := hH (fun Y => zZ Y true)
   have H := hH (aN h hn)
   have H0 := hH h0
   clear hc h h0 hn
   go_enter Tryz.func258, Tryz.ntmps258
   go_wp2_with fail
   refine HC.out.mono ?_
   rintro e w1 ⟨rfl, hb1⟩
   have HB1 := hH hb1
   clear hb1
   go_wp2_with fail
   refine (HA.out w1).mono ?_
   intro e w2 hq; obtain ⟨rfl, hb'⟩ := hq.t
   have HB2 := hH (HB1.out.trans (hb'.mono HB1.out.size))
   clear hq hb' HC HA HB1
   go_wp2_with fail
   go_loopw [10] (fun i wr => ∃ k : Nat, k ≤ n ∧ i = .int .i64 (k : Int) ∧ Hid ((∀ j x, j < k → (steps vs)[j]? = some x → yD x = true) ∧ Below w.heap.size w wr)) (fun i _ => n - (intOf i).toNat)
   case atStart => exact ⟨0, Nat.zero_le _, rfl, hH ⟨fun j x hj => by omega, HB2.out⟩⟩
   case round =>
    obtain ⟨k, hk, rfl, hh⟩ := hrel
    obtain ⟨wo, hwo⟩ : ∃ wo, wo = wr := ⟨_, rfl⟩
    subst hwo
    by_cases hlt : k < n
    · obtain ⟨x, hx⟩ : ∃ x, vs[k]? = some x := ⟨_, List.getElem?_eq_getElem (by rw [← H.out.2]; exact hlt)⟩
      obtain ⟨b, off, rfl, c0, c1, c2, c3, c4, c5, c6, c7, c8⟩ := H.out.1.at hh.out.2 hx
      have hst := qR hx
      obtain ⟨bb, hbb⟩ : ∃ bb, bb = yD x.s := ⟨_, rfl⟩
      have has : zaa w x bb := by rw [hbb]; exact zaT H.out.1 hx
      unfold zaa at has
      obtain ⟨t, xa, xc⟩ := x
      simp only at hst has hbb c0 c1 c2 c3 c4 c5 c6 c7 c8
      obtain ⟨xn, hxn⟩ : ∃ xn, xn = foLen t.sub.kids := ⟨_, rfl⟩
      rw [← hxn] at c8 has
      obtain ⟨Z, hZ⟩ : ∃ Z, Z = wo.alloc (.cells #[.int .i8 t.op, .int .i64 t.id, .int .i64 t.par, .int .i64 t.at_, .string t.tx, .int .i64 t.sub.id, .int .i64 t.sub.kind, .string t.sub.text, .slice xa xn xc] 41) := ⟨_, rfl⟩
      have hZb : Below w.heap.size w Z := by rw [hZ]; exact hh.out.2.alloc hh.out.2.size _
      have eZ : Z.heap[wo.heap.size]? = some (.cells #[.int .i8 t.op, .int .i64 t.id, .int .i64 t.par, .int .i64 t.at_, .string t.tx, .int .i64 t.sub.id, .int .i64 t.sub.kind, .string t.sub.text, .slice xa xn xc] 41 (0, 0)) := by rw [hZ]; exact heap_alloc_new _ _
      have HAS := hH (has Z hZb)
      have HZ := hH (aN hZ hZb)
      have HST := hH (aN hst (aN hbb (aN hh.out.1 hlt)))
      have hkl : (k : Int) < (n : Int) := by omega
      obtain ⟨z0, z1, z2, z3, z4, z5, z6, z7, z8⟩ := yV eZ
      clear hx hst has hbb hxn hZ hZb eZ hlt hh hk
      go_upto_region 4 with fail
      change Code.wp _ _ _ _ (wo.alloc (.cells #[.int .i8 t.op, .int .i64 t.id, .int .i64 t.par, .int .i64 t.at_, .string t.tx, .int .i64 t.sub.id, .int .i64 t.sub.kind, .string t.sub.text, .slice xa xn xc] 41))
      rw [← HZ.out.1]
      clear c0 c1 c2 c3 c4 c5 c6 c7 c8
      go_wp2_with fail
      refine HAS.out.mono ?_
      intro e w6 hq
      cases bb
      · obtain ⟨rfl, hb6⟩ := hq.f
        exact ⟨rfl, yt.no (Yo HST.out.1 HST.out.2.1.symm) (HZ.out.2.trans (hb6.mono HZ.out.2.size))⟩
      · obtain ⟨rfl, hb6⟩ := hq.t
        have HB6 := hH (HZ.out.2.trans (hb6.mono HZ.out.2.size))
        clear hq hb6 z0 z1 z2 z3 z4 z5 z6 z7 z8
        go_wp2_with fail
        exact ⟨⟨k + 1, HST.out.2.2.2, by go_num, hH ⟨fun j y hj hy => by
         rcases Nat.lt_or_ge j k with h | h
         · exact HST.out.2.2.1 j y h hy
         · have : j = k := by omega
           subst this
           rw [HST.out.1] at hy; cases hy; exact HST.out.2.1.symm, HB6.out⟩⟩, by have := HST.out.2.2.2; simp [intOf]; omega⟩
    · have hkl : ¬ (k : Int) < (n : Int) := by omega
      have HE := hH (show yt (zJ (steps vs)) w (.returned (.tuple #[])) wo from yt.yes (by
       unfold zJ
       rw [H0.out, Bool.and_eq_true]
       refine ⟨rfl, ?_⟩
       rw [List.all_eq_true]
       intro s hs
       obtain ⟨j, hj, e⟩ := List.getElem_of_mem hs
       exact hh.out.1 j s (by rw [yg, ← H.out.2] at hj; omega) (by rw [List.getElem?_eq_getElem hj, e])) hh.out.2)
      clear hlt hh hk
      go_wp2_with fail
      go_end0
      exact HE.out
theorem zdC {X0 X1 X : World} {s r : Sf} {aa ba : Option Addr} {ac bc n m : Nat} (h0 : qO X0 s.sub.kids aa ac) (h1 : qO X1 r.sub.kids ba bc) (b0 : Below X0.heap.size X0 X) (b1 : Below X1.heap.size X1 X) (hz : ze s.sub.kids + 1 ≤ 100000) (hn : n = foLen s.sub.kids) (hm : m = foLen r.sub.kids) :
 Calls Tryz.prog 43 #[.agg #[.int .i8 s.op, .int .i64 s.id, .int .i64 s.par, .int .i64 s.at_, .string s.tx, .int .i64 s.sub.id, .int .i64 s.sub.kind, .string s.sub.text, .slice aa n ac], .agg #[.int .i8 r.op, .int .i64 r.id, .int .i64 r.par, .int .i64 r.at_, .string r.tx, .int .i64 r.sub.id, .int .i64 r.sub.kind, .string r.sub.text, .slice ba m bc]] X (EqC s r X) :=
 ze3 (hH fun w' hb => by subst hn; subst hm; exact Yn _ w' _ _ _ _ _ _ (Nat.lt_succ_self _) ⟨by have := yG s.sub.kids; omega, vW _ (by omega)⟩ (fun y hy => nL hy (b0.trans (hb.mono b0.size)).size) (fun y hy => nL hy (b1.trans (hb.mono b1.size)).size) (h0.at (b0.trans (hb.mono b0.size))) (h1.at (b1.trans (hb.mono b1.size))))
def eqR : List Sf → List Sf → Bool
 | [], [] => true
 | a :: p, b :: q => eqS a b && eqR p q
 | _, _ => false
theorem ZV : ∀ p : List Sf, eqR p p = true
 | [] => rfl
 | a :: p => by rw [eqR, zc0, ZV p]; rfl
theorem Qi : ∀ {p q : List Sf}, p.length ≠ q.length → eqR p q = false
 | [], [], h => absurd rfl h
 | a :: p, b :: q, h => by rw [eqR, Qi (p := p) (q := q) (fun e => h (by simp [e])), Bool.and_false]
 | [], _ :: _, _ => rfl
 | _ :: _, [], _ => rfl
theorem QU {p q : List Sf} {k : Nat} {a b : Sf} (ha : p[k]? = some a) (hb : q[k]? = some b) : eqR (p.drop k) (q.drop k) = (eqS a b && eqR (p.drop (k + 1)) (q.drop (k + 1))) := by
 obtain ⟨h1, rfl⟩ := List.getElem?_eq_some_iff.1 ha
 obtain ⟨h2, rfl⟩ := List.getElem?_eq_some_iff.1 hb
 rw [List.drop_eq_getElem_cons h1, List.drop_eq_getElem_cons h2, eqR]
def ZF (p q : List Sf) (X : World) (e : Ending) (W : World) : Prop := e = .returned (.bool (eqR p q)) ∧ Below X.heap.size X W
theorem ZF.mk {p q : List Sf} {w w' : World} {c : Bool} (h : eqR p q = c) (hb : Below w.heap.size w w') : ZF p q w (.returned (.bool c)) w' := ⟨by rw [h], hb⟩
theorem Qj (w : World) (la lb : Option Addr) (n m ca cb : Nat) (pa pb : List SV) (hn : n = pa.length) (hm : m = pb.length) (ha : Row w la pa) (hb : Row w lb pb) :
 Calls Tryz.prog 14 #[.slice la n ca, .slice lb m cb] w (ZF (steps pa) (steps pb) w) := by
 have hl : n ≤ 1000000 := by have := ha.len; omega
 have hl2 : m ≤ 1000000 := by have := hb.len; omega
 have H := hH (aN ha (aN hb (aN hn hm)))
 clear ha hb hn hm
 by_cases hne : n = m
 rotate_left
 · have hnn : ((n : Int) == (m : Int)) = false := by simp; omega
   have HV := hH (show eqR (steps pa) (steps pb) = false from Qi (by rw [yg, yg, ← H.out.2.2.1, ← H.out.2.2.2]; exact hne))
   clear hne
   go_enter Tryz.func14, Tryz.ntmps14
   go_wp2_with fail
   go_ret
   exact ZF.mk HV.out (Below.refl _ _)
 subst hne
 have hnn : ((n : Int) == (n : Int)) = true := by simp
 go_enter Tryz.func14, Tryz.ntmps14
 go_wp2_with fail
 clear hnn
 go_loopw [5] (fun i wr => ∃ k : Nat, k ≤ n ∧ i = .int .i64 (k : Int) ∧ Hid (Below w.heap.size w wr ∧ eqR (steps pa) (steps pb) = eqR ((steps pa).drop k) ((steps pb).drop k))) (fun i _ => n - (intOf i).toNat)
 case atStart => exact ⟨0, Nat.zero_le _, rfl, hH ⟨Below.refl _ _, rfl⟩⟩
 case round =>
  obtain ⟨k, hk, rfl, hrr⟩ := hrel
  obtain ⟨wo, hwo⟩ : ∃ wo, wo = wr := ⟨_, rfl⟩
  subst hwo
  by_cases hlt : k < n
  · obtain ⟨x, hx⟩ : ∃ x, pa[k]? = some x := ⟨_, List.getElem?_eq_getElem (by rw [← H.out.2.2.1]; exact hlt)⟩
    obtain ⟨y, hy⟩ : ∃ y, pb[k]? = some y := ⟨_, List.getElem?_eq_getElem (by rw [← H.out.2.2.2]; exact hlt)⟩
    have hdr := QU (qR hx) (qR hy)
    have hlx := H.out.1.lies x (List.mem_of_getElem? hx)
    have hly := H.out.2.1.lies y (List.mem_of_getElem? hy)
    have hfx := (H.out.1.fit x (List.mem_of_getElem? hx)).size
    have hfy := (H.out.2.1.fit y (List.mem_of_getElem? hy)).size
    unfold vV at hlx hly
    have hax := fun X hX => H.out.1.at (X := X) hX hx
    have hay := fun X hX => H.out.2.1.at (X := X) hX hy
    obtain ⟨xs, xa, xc⟩ := x
    obtain ⟨ys, ya, yc⟩ := y
    simp only at hdr hlx hly hfx hfy hax hay
    obtain ⟨xn, hxn⟩ : ∃ xn, xn = foLen xs.sub.kids := ⟨_, rfl⟩
    obtain ⟨yn, hyn⟩ : ∃ yn, yn = foLen ys.sub.kids := ⟨_, rfl⟩
    rw [← hxn] at hax
    rw [← hyn] at hay
    have HCC := hH (fun X (hX : Below w.heap.size w X) => zdC (X := X) hlx hly hX hX (by omega) hxn hyn)
    have HKN := hH (aN hk hlt)
    have hkl : (k : Int) < (n : Int) := by omega
    obtain ⟨cc, hcc⟩ : ∃ cc, cc = eqS xs ys := ⟨_, rfl⟩
    rw [← hcc] at hdr
    have HCQ := hH hcc
    have HDR := hH (hrr.out.2.trans hdr)
    have HBR := hH hrr.out.1
    clear hx hy hlx hly hfx hfy hxn hyn hk hlt hrr hdr hcc
    obtain ⟨W, hW⟩ : ∃ W, W = wo.drew := ⟨_, rfl⟩
    have hW0 : Below w.heap.size w W := by rw [hW]; exact below_drewN HBR.out 1
    obtain ⟨b, off, rfl, c0, c1, c2, c3, c4, c5, c6, c7, c8⟩ := hax W hW0
    obtain ⟨b', off', rfl, d0, d1, d2, d3, d4, d5, d6, d7, d8⟩ := hay W hW0
    have HC := hH (HCC.out W hW0)
    have HW := hH hW
    have HW0 := hH hW0
    clear hax hay hW hW0 HCC
    go_wp2_with fail
    have hdr : ({ heap := wo.heap, tape := wo.tape, drawn := wo.drawn + 1, os := wo.os, output := wo.output } : World) = W := HW.out.symm
    refine wp_region_still_tail 8 (by kernel_rfl) (by kernel_rfl) ?_
    simp only [List.take_succ_cons, List.take_zero, List.drop_succ_cons, List.drop_zero]
    rw [hdr]
    clear hdr
    repeat still_step
    try refine wpStill_nil ?_
    go_wp2_with (go_at_call 43; refine HC.out.mono ?_; rintro e w2 ⟨rfl, hb2⟩; rw [← HCQ.out]; have HB3 := hH (HW0.out.trans (hb2.mono HW0.out.size)); clear hb2; cases cc)
    · go_ret
      exact ZF.mk (HDR.out.trans (Bool.false_and _)) HB3.out
    · exact ⟨⟨k + 1, by have := HKN.out; omega, by go_num, hH ⟨HB3.out, HDR.out.trans (Bool.true_and _)⟩⟩, by have := HKN.out; simp [intOf]; omega⟩
  · have hkl : ¬ (k : Int) < (n : Int) := by omega
    have HV := hH (show eqR (steps pa) (steps pb) = true by
     rw [hrr.out.2, List.drop_of_length_le (by rw [yg, ← H.out.2.2.1]; omega), List.drop_of_length_le (by rw [yg, ← H.out.2.2.2]; omega)]; rfl)
    have HB3 := hH hrr.out.1
    clear hrr hk hlt
    go_wp2_with fail
    go_ret
    exact ZF.mk HV.out HB3.out
theorem zdq {X0 X1 X : World} {s r : Sf} {aa ba : Option Addr} {ac bc n m : Nat} (h0 : qO X0 s.sub.kids aa ac) (h1 : qO X1 r.sub.kids ba bc) (b0 : Below X0.heap.size X0 X) (b1 : Below X1.heap.size X1 X) (hz : ze s.sub.kids + 1 ≤ 100000) (hy : ze r.sub.kids + 1 ≤ 100000) (hn : n = foLen s.sub.kids) (hm : m = foLen r.sub.kids) :
 Calls Tryz.prog 109 #[.agg #[.int .i8 s.op, .int .i64 s.id, .int .i64 s.par, .int .i64 s.at_, .string s.tx, .int .i64 s.sub.id, .int .i64 s.sub.kind, .string s.sub.text, .slice aa n ac], .agg #[.int .i8 r.op, .int .i64 r.id, .int .i64 r.par, .int .i64 r.at_, .string r.tx, .int .i64 r.sub.id, .int .i64 r.sub.kind, .string r.sub.text, .slice ba m bc]] X (EqC s r X) := by
 obtain ⟨_, _, e0, g0, k0⟩ := h0.at b0
 obtain ⟨_, _, e1, g1, k1⟩ := h1.at b1
 cases e0
 cases e1
 exact je X (fun q => q < X0.heap.size) (fun q => q < X1.heap.size) s r aa ba n ac m bc hn hm (fun y hy => nL hy b0.size) (fun y hy => nL hy b1.size) g0 g1 k0 k1 (by omega) (by omega)
theorem JX (w : World) (la lb : Option Addr) (n m ca cb : Nat) (pa pb : List SV) (hn : n = pa.length) (hm : m = pb.length) (ha : Row w la pa) (hb : Row w lb pb) :
 Calls Tryz.prog 44 #[.slice la n ca, .slice lb m cb, .func (.func 109) #[] #[]] w (ZF (steps pa) (steps pb) w) := by
 have hl : n ≤ 1000000 := by have := ha.len; omega
 have hl2 : m ≤ 1000000 := by have := hb.len; omega
 have H := hH (aN ha (aN hb (aN hn hm)))
 clear ha hb hn hm
 by_cases hne : n = m
 rotate_left
 · have hnn : ((n : Int) == (m : Int)) = false := by simp; omega
   have HV := hH (show eqR (steps pa) (steps pb) = false from Qi (by rw [yg, yg, ← H.out.2.2.1, ← H.out.2.2.2]; exact hne))
   clear hne
   go_enter Tryz.func44, Tryz.ntmps44
   go_wp2_with fail
   go_ret
   exact ZF.mk HV.out (Below.refl _ _)
 subst hne
 have hnn : ((n : Int) == (n : Int)) = true := by simp
 go_enter Tryz.func44, Tryz.ntmps44
 go_wp2_with fail
 clear hnn
 go_loopw [17] (fun i wr => ∃ k : Nat, k ≤ n ∧ i = .int .i64 (k : Int) ∧ Hid (Below w.heap.size w wr ∧ eqR (steps pa) (steps pb) = eqR ((steps pa).drop k) ((steps pb).drop k))) (fun i _ => n - (intOf i).toNat)
 case atStart => exact ⟨0, Nat.zero_le _, rfl, hH ⟨Below.refl _ _, rfl⟩⟩
 case round =>
  obtain ⟨k, hk, rfl, hrr⟩ := hrel
  obtain ⟨wo, hwo⟩ : ∃ wo, wo = wr := ⟨_, rfl⟩
  subst hwo
  by_cases hlt : k < n
  · obtain ⟨x, hx⟩ : ∃ x, pa[k]? = some x := ⟨_, List.getElem?_eq_getElem (by rw [← H.out.2.2.1]; exact hlt)⟩
    obtain ⟨y, hy⟩ : ∃ y, pb[k]? = some y := ⟨_, List.getElem?_eq_getElem (by rw [← H.out.2.2.2]; exact hlt)⟩
    have hdr := QU (qR hx) (qR hy)
    have hlx := H.out.1.lies x (List.mem_of_getElem? hx)
    have hly := H.out.2.1.lies y (List.mem_of_getElem? hy)
    have hfx := (H.out.1.fit x (List.mem_of_getElem? hx)).size
    have hfy := (H.out.2.1.fit y (List.mem_of_getElem? hy)).size
    unfold vV at hlx hly
    have hax := fun X hX => H.out.1.at (X := X) hX hx
    have hay := fun X hX => H.out.2.1.at (X := X) hX hy
    obtain ⟨xs, xa, xc⟩ := x
    obtain ⟨ys, ya, yc⟩ := y
    simp only at hdr hlx hly hfx hfy hax hay
    obtain ⟨xn, hxn⟩ : ∃ xn, xn = foLen xs.sub.kids := ⟨_, rfl⟩
    obtain ⟨yn, hyn⟩ : ∃ yn, yn = foLen ys.sub.kids := ⟨_, rfl⟩
    rw [← hxn] at hax
    rw [← hyn] at hay
    have HCC := hH (fun X (hX : Below w.heap.size w X) => zdq (X := X) hlx hly hX hX (by omega) (by omega) hxn hyn)
    have HKN := hH (aN hk hlt)
    have hkl : (k : Int) < (n : Int) := by omega
    obtain ⟨cc, hcc⟩ : ∃ cc, cc = eqS xs ys := ⟨_, rfl⟩
    rw [← hcc] at hdr
    have HCQ := hH hcc
    have HDR := hH (hrr.out.2.trans hdr)
    have HBR := hH hrr.out.1
    clear hx hy hlx hly hfx hfy hxn hyn hk hlt hrr hdr hcc
    obtain ⟨b, off, rfl, c0, c1, c2, c3, c4, c5, c6, c7, c8⟩ := hax wo HBR.out
    obtain ⟨B1, hB1⟩ : ∃ B1, B1 = wo.alloc (.cells #[.int .i8 xs.op, .int .i64 xs.id, .int .i64 xs.par, .int .i64 xs.at_, .string xs.tx, .int .i64 xs.sub.id, .int .i64 xs.sub.kind, .string xs.sub.text, .slice xa xn xc] 41) := ⟨_, rfl⟩
    have hb1 : Below w.heap.size w B1 := by rw [hB1]; exact HBR.out.alloc HBR.out.size _
    have e1 : B1.heap[wo.heap.size]? = some (.cells #[.int .i8 xs.op, .int .i64 xs.id, .int .i64 xs.par, .int .i64 xs.at_, .string xs.tx, .int .i64 xs.sub.id, .int .i64 xs.sub.kind, .string xs.sub.text, .slice xa xn xc] 41 (0, 0)) := by rw [hB1]; exact heap_alloc_new _ _
    have HB1 := hH hB1
    have HAY := hH hay
    have HE1 := hH (aN hb1 e1)
    clear hax hay hb1 e1 hB1
    go_upto_region 6 with fail
    change Code.wp _ _ _ _ (wo.alloc (.cells #[.int .i8 xs.op, .int .i64 xs.id, .int .i64 xs.par, .int .i64 xs.at_, .string xs.tx, .int .i64 xs.sub.id, .int .i64 xs.sub.kind, .string xs.sub.text, .slice xa xn xc] 41))
    rw [← HB1.out]
    clear HB1 c0 c1 c2 c3 c4 c5 c6 c7 c8
    obtain ⟨b', off', rfl, d0, d1, d2, d3, d4, d5, d6, d7, d8⟩ := HAY.out B1 HE1.out.1
    obtain ⟨B2, hB2⟩ : ∃ B2, B2 = B1.alloc (.cells #[.int .i8 ys.op, .int .i64 ys.id, .int .i64 ys.par, .int .i64 ys.at_, .string ys.tx, .int .i64 ys.sub.id, .int .i64 ys.sub.kind, .string ys.sub.text, .slice ya yn yc] 41) := ⟨_, rfl⟩
    have hb2 : Below w.heap.size w B2 := by rw [hB2]; exact HE1.out.1.alloc HE1.out.1.size _
    have e1 : B2.heap[wo.heap.size]? = some (.cells #[.int .i8 xs.op, .int .i64 xs.id, .int .i64 xs.par, .int .i64 xs.at_, .string xs.tx, .int .i64 xs.sub.id, .int .i64 xs.sub.kind, .string xs.sub.text, .slice xa xn xc] 41 (0, 0)) := by rw [hB2]; exact (Below.heap_alloc _ _ _ (lt_of_heap HE1.out.2)).trans HE1.out.2
    have e2 : B2.heap[B1.heap.size]? = some (.cells #[.int .i8 ys.op, .int .i64 ys.id, .int .i64 ys.par, .int .i64 ys.at_, .string ys.tx, .int .i64 ys.sub.id, .int .i64 ys.sub.kind, .string ys.sub.text, .slice ya yn yc] 41 (0, 0)) := by rw [hB2]; exact heap_alloc_new _ _
    have HB2 := hH hB2
    have HE2 := hH hb2
    have HEE := hH (aN e1 e2)
    obtain ⟨u1, hu1⟩ : ∃ u1, u1 = wo.heap.size := ⟨_, rfl⟩
    obtain ⟨u2, hu2⟩ : ∃ u2, u2 = B1.heap.size := ⟨_, rfl⟩
    clear HE1 HAY hb2 hB2 e1 e2
    go_upto_region 7 with fail
    change Code.wp _ _ _ _ (B1.alloc (.cells #[.int .i8 ys.op, .int .i64 ys.id, .int .i64 ys.par, .int .i64 ys.at_, .string ys.tx, .int .i64 ys.sub.id, .int .i64 ys.sub.kind, .string ys.sub.text, .slice ya yn yc] 41))
    rw [← HB2.out, ← hu1, ← hu2]
    rw [← hu1, ← hu2] at HEE
    clear hu1 hu2
    clear HB2 d0 d1 d2 d3 d4 d5 d6 d7 d8
    obtain ⟨f0, f1, f2, f3, f4, f5, f6, f7, f8⟩ := yV HEE.out.1
    obtain ⟨g0, g1, g2, g3, g4, g5, g6, g7, g8⟩ := yV HEE.out.2
    have HC := hH (HCC.out B2 HE2.out)
    clear HCC HEE
    go_wp2_with fail
    refine HC.out.mono ?_
    rintro e w2 ⟨rfl, hb2⟩
    rw [← HCQ.out]
    have HB3 := hH (HE2.out.trans (hb2.mono HE2.out.size))
    clear hb2 HC f0 f1 f2 f3 f4 f5 f6 f7 f8 g0 g1 g2 g3 g4 g5 g6 g7 g8 HE2
    cases cc
    · go_wp2_with fail
      go_ret
      exact ZF.mk (HDR.out.trans (Bool.false_and _)) HB3.out
    · go_wp2_with fail
      exact ⟨⟨k + 1, by have := HKN.out; omega, by go_num, hH ⟨HB3.out, HDR.out.trans (Bool.true_and _)⟩⟩, by have := HKN.out; simp [intOf]; omega⟩
  · have hkl : ¬ (k : Int) < (n : Int) := by omega
    have HV := hH (show eqR (steps pa) (steps pb) = true by
     rw [hrr.out.2, List.drop_of_length_le (by rw [yg, ← H.out.2.2.1]; omega), List.drop_of_length_le (by rw [yg, ← H.out.2.2.2]; omega)]; rfl)
    have HB3 := hH hrr.out.1
    clear hrr hk hlt
    go_wp2_with fail
    go_ret
    exact ZF.mk HV.out HB3.out
theorem YE (w : World) (la lb : Option Addr) (n m ca cb : Nat) (pa pb : List SV) (hn : n = pa.length) (hm : m = pb.length) (ha : Row w la pa) (hb : Row w lb pb) :
 Calls Tryz.prog 62 #[.slice la n ca, .slice lb m cb] w (ZF (steps pa) (steps pb) w) := by
 have HE := hH (JX w la lb n m ca cb pa pb hn hm ha hb)
 clear hn hm ha hb
 go_enter Tryz.func62, Tryz.ntmps62
 go_wp2_with fail
 refine HE.out.mono ?_
 rintro e w2 ⟨rfl, hb2⟩
 have HB := hH hb2
 clear hb2
 go_wp2_with fail
 go_ret
 exact ⟨rfl, HB.out⟩
def zac (w : World) (x : SV) (bb : Bool) : Prop := ∀ X, Below w.heap.size w X → Calls Tryz.prog 28 #[.agg #[.int .i8 x.s.op, .int .i64 x.s.id, .int .i64 x.s.par, .int .i64 x.s.at_, .string x.s.tx, .int .i64 x.s.sub.id, .int .i64 x.s.sub.kind, .string x.s.sub.text, .slice x.a (foLen x.s.sub.kids) x.c]] X (fun e w' => e = .returned (.bool bb) ∧ Below X.heap.size X w')
theorem zaU {w : World} {a : Option Addr} {vs : List SV} (h : Row w a vs) {k : Nat} {x : SV} (hx : vs[k]? = some x) : zac w x (yD x.s) := fun X hX => by
 have hm := List.mem_of_getElem? hx
 have hl : qO w x.s.sub.kids x.a x.c := h.lies x hm
 obtain ⟨ka, kc, he, hcap, hk⟩ := qO.at hl hX
 cases he
 exact zaO X (fun q => q < w.heap.size) x.s x.a (foLen x.s.sub.kids) x.c rfl (fun y hy => nL hy hX.size) hcap hk (by have := (h.fit x hm).size; omega)
theorem Ym (w : World) (la : Option Addr) (n c : Nat) (vs : List SV) (hn : n = vs.length) (h : Row w la vs) :
 Calls Tryz.prog 108 #[.slice la n c] w (fun e w' => e = .returned (.bool (zJ (steps vs))) ∧ Below w.heap.size w w') := by
 have hc := Qt w la n c vs hn h
 unfold zeV at hc
 have hn1 : n ≤ 1000000 := by have := h.len; omega
 by_cases h0 : vJ (steps vs) = 0
 rotate_left
 · have h3 : vJ (steps vs) = 3 := by unfold vJ at h0 ⊢; split at h0; exact absurd rfl h0; rename_i hq; rw [if_neg hq]
   rw [h3] at hc
   have HC := hH hc
   have HF := hH (show zJ (steps vs) = false by unfold zJ; rw [decide_eq_false h0, Bool.false_and])
   clear hc h h0 h3 hn
   go_enter Tryz.func108, Tryz.ntmps108
   go_wp2_with fail
   refine HC.out.mono ?_
   rintro e w1 ⟨rfl, hb1⟩
   have HB1 := hH hb1
   clear hb1
   go_wp2_with fail
   go_ret
   exact ⟨by rw [HF.out]; rfl, HB1.out⟩
 · rw [h0] at hc
   have HC := hH hc
   have H := hH (aN h hn)
   have H0 := hH h0
   clear hc h h0 hn
   go_enter Tryz.func108, Tryz.ntmps108
   go_wp2_with fail
   refine HC.out.mono ?_
   rintro e w2 ⟨rfl, hb'⟩
   have HB2 := hH hb'
   clear hb' HC
   go_wp2_with fail
   go_loopw [3] (fun i wr => ∃ k : Nat, k ≤ n ∧ i = .int .i64 (k : Int) ∧ Hid ((∀ j x, j < k → (steps vs)[j]? = some x → yD x = true) ∧ Below w.heap.size w wr)) (fun i _ => n - (intOf i).toNat)
   case atStart => exact ⟨0, Nat.zero_le _, rfl, hH ⟨fun j x hj => by omega, HB2.out⟩⟩
   case round =>
    obtain ⟨k, hk, rfl, hh⟩ := hrel
    obtain ⟨wo, hwo⟩ : ∃ wo, wo = wr := ⟨_, rfl⟩
    subst hwo
    by_cases hlt : k < n
    · obtain ⟨x, hx⟩ : ∃ x, vs[k]? = some x := ⟨_, List.getElem?_eq_getElem (by rw [← H.out.2]; exact hlt)⟩
      obtain ⟨b, off, rfl, c0, c1, c2, c3, c4, c5, c6, c7, c8⟩ := H.out.1.at hh.out.2 hx
      have hst := qR hx
      obtain ⟨bb, hbb⟩ : ∃ bb, bb = yD x.s := ⟨_, rfl⟩
      have has : zac w x bb := by rw [hbb]; exact zaU H.out.1 hx
      unfold zac at has
      obtain ⟨t, xa, xc⟩ := x
      simp only at hst has hbb c0 c1 c2 c3 c4 c5 c6 c7 c8
      obtain ⟨xn, hxn⟩ : ∃ xn, xn = foLen t.sub.kids := ⟨_, rfl⟩
      rw [← hxn] at c8 has
      have HAS := hH (has wo hh.out.2)
      have HWO := hH hh.out.2
      have HST := hH (aN hst (aN hbb (aN hh.out.1 hlt)))
      have hkl : (k : Int) < (n : Int) := by omega
      clear hx hst has hbb hxn hlt hh hk
      go_wp2_with fail
      refine HAS.out.mono ?_
      rintro e w6 ⟨rfl, hb6⟩
      have HB6 := hH (HWO.out.trans (hb6.mono HWO.out.size))
      clear hb6 c0 c1 c2 c3 c4 c5 c6 c7 c8
      cases bb
      · have HF := hH (Yo HST.out.1 HST.out.2.1.symm)
        go_wp2_with fail
        go_ret
        exact ⟨by rw [HF.out]; rfl, HB6.out⟩
      · go_wp2_with fail
        exact ⟨⟨k + 1, HST.out.2.2.2, by go_num, hH ⟨fun j y hj hy => by
         rcases Nat.lt_or_ge j k with h | h
         · exact HST.out.2.2.1 j y h hy
         · have : j = k := by omega
           subst this
           rw [HST.out.1] at hy; cases hy; exact HST.out.2.1.symm, HB6.out⟩⟩, by have := HST.out.2.2.2; simp [intOf]; omega⟩
    · have hkl : ¬ (k : Int) < (n : Int) := by omega
      have HE := hH (aN (show zJ (steps vs) = true by
       unfold zJ
       rw [H0.out, Bool.and_eq_true]
       refine ⟨rfl, ?_⟩
       rw [List.all_eq_true]
       intro s hs
       obtain ⟨j, hj, e⟩ := List.getElem_of_mem hs
       exact hh.out.1 j s (by rw [yg, ← H.out.2] at hj; omega) (by rw [List.getElem?_eq_getElem hj, e])) hh.out.2)
      clear hlt hh hk
      go_wp2_with fail
      go_ret
      exact ⟨by rw [HE.out.1]; rfl, HE.out.2⟩
end Go.Proofs.YtchccbfljamjnaaGreat
