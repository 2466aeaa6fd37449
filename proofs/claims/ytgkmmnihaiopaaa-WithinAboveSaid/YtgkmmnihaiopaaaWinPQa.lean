/-
  .
-/
import Derived.Test.YtgkmmnihaiopaaaWakeWQa
import Derived.Test.YtgkmmnihaiopaaaJLawJQa
import Derived.Test.YtgkmmnihaiopaaaKDoQa
import Derived.Test.YtgkmmnihaiopaaaKPlacePQa
import Derived.Test.YtgkmmnihaiopaaaJPgQa
set_option maxRecDepth 100000
set_option maxHeartbeats 40000000
set_option linter.unusedVariables false
set_option linter.unusedSimpArgs false
namespace Go.Proofs.Ytgkmmnihaiopaaa
open Go.RowKit Go.Shelf
def goW (g : Gr) (root : Int) (t : Tr) : List Sf → Option Tr
 | [] => some t
 | s :: l => if inW root t s.op s.id s.par = true ∧ (doK g (s.on t)).2 = 0 then goW g root (doK g (s.on t)).1 l else none
theorem zaY {g : Gr} {root : Int} : ∀ {l : List Sf} {t x : Tr} {s : Sf}, goW g root t l = some x → inW root x s.op s.id s.par = true → (doK g (s.on x)).2 = 0 → goW g root t (l ++ [s]) = some (doK g (s.on x)).1
 | [], t, x, s, h, h1, h2 => by cases h; show goW g root t [s] = _; rw [goW, if_pos ⟨h1, h2⟩]; rfl
 | r :: l, t, x, s, h, h1, h2 => by
   rw [goW] at h
   rw [List.cons_append, goW]
   split at h
   · rename_i h0; rw [if_pos h0]; exact zaY h h1 h2
   · cases h
theorem QD {g : Gr} {root : Int} : ∀ {l : List Sf} {k : Nat} {t x : Tr} {s : Sf}, goW g root t (l.take k) = some x → l[k]? = some s → ¬ (inW root x s.op s.id s.par = true ∧ (doK g (s.on x)).2 = 0) → goW g root t l = none
 | [], k, t, x, s, _, hs, _ => by simp at hs
 | r :: l, 0, t, x, s, h, hs, hn => by
   simp at hs; subst hs
   rw [List.take_zero] at h; cases h
   rw [goW, if_neg hn]
 | r :: l, k + 1, t, x, s, h, hs, hn => by
   rw [List.take_succ_cons, goW] at h
   rw [goW]
   split at h
   · rename_i hr; rw [if_pos hr]; exact QD h (by simpa using hs) hn
   · cases h
def zhd (w : World) (g : Gr) (root : Int) (t : Tr) (l : List Sf) (e : Ending) (w' : World) : Prop := ∃ at_ er : Int, e = .returned (.tuple #[.int .i64 at_, .int .i64 er]) ∧ (er = 0 → at_ = (l.length : Int) ∧ YK l = true ∧ (∃ q, zw root t = some q) ∧ ∃ x, goW g root t l = some x) ∧ (YK l = true → (∃ q, zw root t = some q) → (∃ x, goW g root t l = some x) → er = 0) ∧ Below w.heap.size w w'
structure zc7 (w : World) (g : Gr) (ga : Option Addr) (gn gc : Nat) (x : Tr) (va : Option Addr) (vc : Nat) (wr : World) : Prop where
 below : Below w.heap.size w wr
 gr : wr.heap[w.heap.size]? = some (.cells #[.slice ga gn gc, .int .i64 g.root] 24 (0, 0))
 tr : wr.heap[w.heap.size + 1]? = some (.cells #[.int .i64 x.id, .int .i64 x.kind, .string x.text, .slice va (foLen x.kids) vc] 27 (0, 0))
 lies : qm wr (fun q => q = w.heap.size + 1) x.kids va vc
theorem zc7.on {w V V' : World} {g : Gr} {ga : Option Addr} {gn gc : Nat} {x : Tr} {va : Option Addr} {vc : Nat} (h : zc7 w g ga gn gc x va vc V) (k : Below V.heap.size V V') : zc7 w g ga gn gc x va vc V' :=
 ⟨h.below.trans (k.mono h.below.size), (k.block _ (lt_of_heap h.gr)).trans h.gr, (k.block _ (lt_of_heap h.tr)).trans h.tr, h.lies.on k⟩
theorem zgE {t : Tr} (h : okF (spF 1 (zl t))) : ∀ i ∈ idT t, (Lit.int .i64 i).wf = true := fun i hi => by
 rw [← kH] at hi
 obtain ⟨y, hy, rfl⟩ := List.mem_map.1 hi
 exact (h y hy).2
theorem Qv {t : Tr} (h : q8 t) : (idT t).Nodup := by
 unfold q8 at h
 rw [← Ym 1] at h
 rw [← kH]; exact h
theorem zf8 {g : Gr} {t : Tr} {s : Sf} (h0 : (doK g (s.on t)).2 = 0) : (idT (doK g (s.on t)).1).Nodup := by
 unfold doK at h0 ⊢
 split at h0
 · rename_i h1
   split at h0
   · rename_i h2; rw [if_pos h1, if_pos h2]; exact Qv (kW h2).1
   · rename_i h2; exact absurd h0 h2
 · rename_i h1; exact absurd h0 h1
theorem zaq (w : World) (g : Gr) (t : Tr) (root : Int) (ga ta la : Option Addr) (gn gc tn tc n c : Nat) (vs : List SV) (hgn : gn = g.kinds.length) (hg : GrV w (.agg #[.slice ga g.kinds.length gc, .int .i64 g.root]) g) (hf : g.few) (htn : tn = foLen t.kids) (ht : q9 w t.kids ta tc) (hw : Way t) (hd : (idT t).Nodup) (hn : n = vs.length) (h : Row w la vs) (hwf : ∀ x ∈ vs, (Lit.int .i64 x.s.id).wf = true ∧ (Lit.int .i64 x.s.par).wf = true) :
 Calls Try.prog 18 #[.agg #[.slice ga gn gc, .int .i64 g.root], .agg #[.int .i64 t.id, .int .i64 t.kind, .string t.text, .slice ta tn tc], .int .i64 root, .slice la n c] w (zhd w g root t (steps vs)) := by
 obtain ⟨W, hW⟩ : ∃ W, W = zq w [.cells #[.slice ga gn gc, .int .i64 g.root] 24, .cells #[.int .i64 t.id, .int .i64 t.kind, .string t.text, .slice ta tn tc] 27] := ⟨_, rfl⟩
 have hb : Below w.heap.size w W := by rw [hW]; exact zm _ _
 have e0 : W.heap[w.heap.size]? = some (.cells #[.slice ga gn gc, .int .i64 g.root] 24 (0, 0)) := by rw [hW]; exact zi _ _ 0 _ rfl
 have e1 : W.heap[w.heap.size + 1]? = some (.cells #[.int .i64 t.id, .int .i64 t.kind, .string t.text, .slice ta tn tc] 27 (0, 0)) := by rw [hW]; exact zi _ _ 1 _ rfl
 have hI : zc7 w g ga gn gc t ta tc W := ⟨hb, e0, by rw [← htn]; exact e1, ht.1, ht.2.kept fun q hq => ⟨⟨nL hq hb.size, by omega⟩, hb.block q hq⟩⟩
 have hgr : ∀ X, Below w.heap.size w X → GrV X (.agg #[.slice ga gn gc, .int .i64 g.root]) g := fun X hX => by rw [hgn]; exact hg.below hX
 have hc := zc9 W la n c vs hn (h.on hb)
 have hnl : n ≤ 1000000 := by rw [hn]; exact h.len
 have HC := hH hc
 have HI := hH hI
 have H := hH (aN hgr (aN hf (aN hw (aN hd (aN hn (aN h (aN hwf htn)))))))
 have HW := hH hW
 obtain ⟨m, hm⟩ : ∃ m, m = Jc (steps vs) := ⟨_, rfl⟩
 rw [← hm] at HC
 have HM := hH hm
 clear hb e0 e1 hI hgr hc hf hw hd hn h hwf hW hg hgn ht hm htn
 go_enter Try.func18, Try.ntmps18
 go_wp2_with fail
 change Calls _ _ _ (zq w [.cells #[.slice ga gn gc, .int .i64 g.root] 24, .cells #[.int .i64 t.id, .int .i64 t.kind, .string t.text, .slice ta tn tc] 27]) _
 rw [← HW.out]
 clear HW
 refine HC.out.mono ?_
 rintro e w1 ⟨rfl, hb1⟩
 have HI1 := hH (HI.out.on hb1)
 clear hb1 HI HC
 by_cases h0 : m = 0
 · subst h0
   have hok : YK (steps vs) = true := by
    have hx := HM.out
    unfold Jc at hx
    split at hx
    · assumption
    · cases hx
   have HOK := hH hok
   clear hok HM
   have ht1 := HI1.out.tr
   rw [← H.out.2.2.2.2.2.2.2] at ht1
   obtain ⟨p0, p1, p2, p3⟩ := zF ht1
   have HF := hH (Qw w1 (fun q => zK w1 q ∧ (q < w1.heap.size ∧ ¬ q = w.heap.size + 1)) (.agg #[.int .i64 t.id, .int .i64 t.kind, .string t.text, .slice ta tn tc]) t root (fun q hq => hq.1) ⟨ta, tc, by rw [H.out.2.2.2.2.2.2.2], HI1.out.lies.1, qy HI1.out.lies.2⟩ (by have := H.out.2.2.1.size; omega))
   clear ht1
   go_wp2_with fail
   refine HF.out.mono ?_
   rintro e w2 ⟨z, za, zc, ok, rfl, hvc, hvf, hb2, hy, hnn⟩
   clear HF p0 p1 p2 p3 hvc hvf
   obtain ⟨zn, hzn⟩ : ∃ zn, zn = foLen z.kids := ⟨_, rfl⟩
   rw [← hzn]
   obtain ⟨W3, hW3⟩ : ∃ W3, W3 = w2.alloc (.cells #[.int .i64 z.id, .int .i64 z.kind, .string z.text, .slice za zn zc] 27) := ⟨_, rfl⟩
   have hb3 : Below w1.heap.size w1 W3 := hb2.trans (by rw [hW3]; exact (Below.refl _ _).alloc hb2.size _)
   have HI3 := hH (HI1.out.on hb3)
   have HY := hH (aN hy hnn)
   have HW3 := hH hW3
   clear hb2 hW3 hb3 hy hnn HI1 hzn
   go_upto_region 5 with fail
   change Code.wp _ _ _ _ (w2.alloc (.cells #[.int .i64 z.id, .int .i64 z.kind, .string z.text, .slice za zn zc] 27))
   rw [← HW3.out]
   clear HW3
   cases ok with
   | false =>
     go_wp2_with fail
     go_ret2
     exact ⟨0, 4, rfl, fun h => absurd h (by decide), fun _ hq _ => (by obtain ⟨q, hq⟩ := hq; rw [HY.out.2 (by trivial)] at hq; cases hq), HI3.out.below⟩
   | true =>
     obtain ⟨qq, hqq, _⟩ := HY.out.1 (by trivial)
     have HP := hH hqq
     clear hqq HY
     go_wp2_with fail
     go_loopw [8, 9, 29] (fun at_ ev i wr => ∃ k : Nat, k ≤ n ∧ at_ = .int .i64 (k : Int) ∧ ev = .int .i64 0 ∧ i = .int .i64 (k : Int) ∧ Hid (∃ x va vc, goW g root t ((steps vs).take k) = some x ∧ Way x ∧ (idT x).Nodup ∧ zc7 w g ga gn gc x va vc wr)) (fun _ _ i _ => n - (intOf i).toNat)
     case atStart => exact ⟨0, Nat.zero_le _, rfl, rfl, rfl, hH ⟨t, ta, tc, rfl, H.out.2.2.1, H.out.2.2.2.1, HI3.out⟩⟩
     case round =>
      obtain ⟨k, hk, rfl, rfl, rfl, hh⟩ := hrel
      by_cases hlt : k < n
      · have hki : (k : Int) < (n : Int) := by omega
        obtain ⟨x, va, vc, hgo, hwx, hdx, hIx⟩ := hh.out
        obtain ⟨s, hs⟩ : ∃ s, vs[k]? = some s := ⟨_, List.getElem?_eq_getElem (by rw [← H.out.2.2.2.2.1]; exact hlt)⟩
        obtain ⟨b, off, rfl, hbl, hcell⟩ := H.out.2.2.2.2.2.1.cells k s hs
        obtain ⟨sn, hsn⟩ : ∃ sn, sn = foLen s.s.sub.kids := ⟨_, rfl⟩
        obtain ⟨xn, hxn⟩ : ∃ xn, xn = foLen x.kids := ⟨_, rfl⟩
        have hrow : ∀ (j : Nat) (u : Value), (zc2 s.s s.a s.c)[j]? = some u → wr.cell? ⟨b, off + k * 9 + j, none⟩ = some u := fun j u hj => (hIx.below.cell (p := ⟨b, off + k * 9 + j, none⟩) hbl).trans (hcell j u hj)
        obtain ⟨r0, r1, r2, r3, r4, r5, r6, r7, r8⟩ : wr.cell? ⟨b, off + k * 9, none⟩ = some (.int .i8 s.s.op) ∧ wr.cell? ⟨b, off + k * 9 + 1, none⟩ = some (.int .i64 s.s.id) ∧ wr.cell? ⟨b, off + k * 9 + 2, none⟩ = some (.int .i64 s.s.par) ∧ wr.cell? ⟨b, off + k * 9 + 3, none⟩ = some (.int .i64 s.s.at_) ∧ wr.cell? ⟨b, off + k * 9 + 4, none⟩ = some (.string s.s.tx) ∧ wr.cell? ⟨b, off + k * 9 + 5, none⟩ = some (.int .i64 s.s.sub.id) ∧ wr.cell? ⟨b, off + k * 9 + 6, none⟩ = some (.int .i64 s.s.sub.kind) ∧ wr.cell? ⟨b, off + k * 9 + 7, none⟩ = some (.string s.s.sub.text) ∧ wr.cell? ⟨b, off + k * 9 + 8, none⟩ = some (.slice s.a sn s.c) := ⟨hrow 0 _ rfl, hrow 1 _ rfl, hrow 2 _ rfl, hrow 3 _ rfl, hrow 4 _ rfl, hrow 5 _ rfl, hrow 6 _ rfl, hrow 7 _ rfl, hrow 8 _ (by rw [hsn]; rfl)⟩
        have hmem := List.mem_of_getElem? hs
        obtain ⟨V, hV⟩ : ∃ V, V = wr.alloc (.cells #[.int .i8 s.s.op, .int .i64 s.s.id, .int .i64 s.s.par, .int .i64 s.s.at_, .string s.s.tx, .int .i64 s.s.sub.id, .int .i64 s.s.sub.kind, .string s.s.sub.text, .slice s.a sn s.c] 49) := ⟨_, rfl⟩
        have hbV : Below wr.heap.size wr V := by rw [hV]; exact zh _ _
        have hIV := hIx.on hbV
        have eS : V.heap[wr.heap.size]? = some (.cells #[.int .i8 s.s.op, .int .i64 s.s.id, .int .i64 s.s.par, .int .i64 s.s.at_, .string s.s.tx, .int .i64 s.s.sub.id, .int .i64 s.s.sub.kind, .string s.s.sub.text, .slice s.a sn s.c] 49 (0, 0)) := by rw [hV]; exact heap_alloc_new _ _
        obtain ⟨G, hG⟩ : ∃ G, G = wr.heap.size := ⟨_, rfl⟩
        rw [← hG] at eS
        have hGw : w.heap.size + 1 < G := by rw [hG]; exact lt_of_heap hIx.tr
        have eT := hIV.tr
        rw [← hxn] at eT
        have hstp := JI V (fun q => zK V q ∧ (q < V.heap.size ∧ ¬ q = w.heap.size + 1)) (.agg #[.int .i64 x.id, .int .i64 x.kind, .string x.text, .slice va xn vc]) x root s.s.op s.s.id s.s.par s.s.at_ s.s.sub.id s.s.sub.kind s.s.tx s.s.sub.text s.a sn s.c (fun q hq => hq.1) ⟨va, vc, by rw [hxn], hIV.lies.1, qy hIV.lies.2⟩ (by have := hwx.size; omega) hdx (zgE hwx.ok) (H.out.2.2.2.2.2.2.1 s hmem).1 (H.out.2.2.2.2.2.2.1 s hmem).2
        have hss : (steps vs)[k]? = some s.s := zbC hs
        obtain ⟨ins, hins⟩ : ∃ ins, ins = inW root x s.s.op s.s.id s.s.par := ⟨_, rfl⟩
        rw [← hins] at hstp
        have HST := hH hstp
        have HR := hH (aN hgo (aN hwx (aN hdx (aN hIV (aN eS (aN hGw (aN hxn (aN hsn (aN hmem (aN hss (aN hins (aN hlt eT))))))))))))
        have HV := hH hV
        clear hgo hwx hdx hIx hs hbl hcell hsn hrow hmem hV hbV hIV eS hGw hxn hss hins hlt eT hh hk hstp HI3
        go_upto_region 10 with fail
        change Code.wp _ _ _ _ (wr.alloc (.cells #[.int .i8 s.s.op, .int .i64 s.s.id, .int .i64 s.s.par, .int .i64 s.s.at_, .string s.s.tx, .int .i64 s.s.sub.id, .int .i64 s.s.sub.kind, .string s.s.sub.text, .slice s.a sn s.c] 49))
        rw [← HV.out, ← hG]
        clear HV hG r0 r1 r2 r3 r4 r5 r6 r7 r8
        obtain ⟨p0, p1, p2, p3⟩ := zF HR.out.2.2.2.2.2.2.2.2.2.2.2.2
        obtain ⟨s0, s1, s2, s3, s4, s5, s6, s7, s8⟩ := Qp HR.out.2.2.2.2.1
        go_wp2_with fail
        refine HST.out.mono ?_
        rintro e V1 ⟨rfl, hb1⟩
        clear HST p0 p1 p2 p3 s0 s1 s2 s3 s4 s5 s6 s7 s8
        have HI1 := hH (HR.out.2.2.2.1.on hb1)
        have eS1 := (hb1.block _ (lt_of_heap HR.out.2.2.2.2.1)).trans HR.out.2.2.2.2.1
        have eT1 := (hb1.block _ (lt_of_heap HR.out.2.2.2.2.2.2.2.2.2.2.2.2)).trans HR.out.2.2.2.2.2.2.2.2.2.2.2.2
        have HS1 := hH (aN eS1 eT1)
        clear hb1 eS1 eT1
        cases ins with
        | false =>
          go_wp2_with fail
          go_ret2
          have hno := QD HR.out.1 HR.out.2.2.2.2.2.2.2.2.2.1 (fun h => by rw [← HR.out.2.2.2.2.2.2.2.2.2.2.1] at h; exact absurd h.1 (by decide))
          exact ⟨_, 130, rfl, fun h => absurd h (by decide), fun _ _ hx => (by obtain ⟨y, hy⟩ := hx; rw [hno] at hy; cases hy), HI1.out.below⟩
        | true =>
          have hfit := H.out.2.2.2.2.2.1.fit s HR.out.2.2.2.2.2.2.2.2.1
          have hli := H.out.2.2.2.2.2.1.lies s HR.out.2.2.2.2.2.2.2.2.1
          have hdo := zgC V1 (fun q => q < V1.heap.size ∧ ¬ q = w.heap.size + 1) (fun q => q < w.heap.size) (.agg #[.slice ga gn gc, .int .i64 g.root]) (.agg #[.int .i64 x.id, .int .i64 x.kind, .string x.text, .slice va xn vc]) g x s.s.sub s.s.op s.s.id s.s.par s.s.at_ s.s.tx s.a sn s.c (H.out.1 V1 HI1.out.below) H.out.2.1 (fun q hq => hq.1) (fun q hq => nL hq HI1.out.below.size) ⟨va, vc, by rw [HR.out.2.2.2.2.2.2.1], HI1.out.lies.1, HI1.out.lies.2⟩ ⟨s.a, s.c, by rw [HR.out.2.2.2.2.2.2.2.1], hli.1, hli.2.kept fun q hq => ⟨hq, HI1.out.below.block q hq⟩⟩ (by have := HR.out.2.1.size; omega) (by have := hfit.size; omega) hfit.op HR.out.2.1.ok hfit.ok hfit.tx
          change Calls _ _ _ _ (qL V1 _ (doK g (s.s.on x))) at hdo
          obtain ⟨r, hr⟩ : ∃ r, r = doK g (s.s.on x) := ⟨_, rfl⟩
          rw [← hr] at hdo
          obtain ⟨y, hy⟩ : ∃ y, y = yg r := ⟨_, rfl⟩
          obtain ⟨er, her⟩ : ∃ er, er = r.2 := ⟨_, rfl⟩
          have HDO := hH hdo
          have HE := hH (aN hr (aN hy (aN her hfit)))
          have eg1 := HI1.out.gr
          obtain ⟨g0, g1⟩ : V1.cell? ⟨w.heap.size, 0, none⟩ = some (.slice ga gn gc) ∧ V1.cell? ⟨w.heap.size, 1, none⟩ = some (.int .i64 g.root) := ⟨by rw [cell_of_row _ _ 0 _ _ _ eg1]; rfl, by rw [cell_of_row _ _ 1 _ _ _ eg1]; rfl⟩
          obtain ⟨p0, p1, p2, p3⟩ := zF HS1.out.2
          obtain ⟨s0, s1, s2, s3, s4, s5, s6, s7, s8⟩ := Qp HS1.out.1
          clear hfit hli hdo hr hy her eg1
          go_wp2_with fail
          refine HDO.out.mono ?_
          rintro e V2 ⟨_, rfl, ⟨ya, yc, rfl, hyc, hyf⟩, hb2⟩
          clear HDO g0 g1 p0 p1 p2 p3 s0 s1 s2 s3 s4 s5 s6 s7 s8
          rw [← HE.out.2.1] at hyc hyf ⊢
          obtain ⟨yn, hyn⟩ : ∃ yn, yn = foLen y.kids := ⟨_, rfl⟩
          rw [← hyn, ← HE.out.2.2.1]
          have eT2 := (hb2.block _ (lt_of_heap HS1.out.2)).trans HS1.out.2
          obtain ⟨p0, p1, p2, p3⟩ := zF eT2
          have zf : ∀ j, V2.frozen? ⟨w.heap.size + 1, j, none⟩ = false := fun j => frozen_of_row _ _ j _ _ eT2
          obtain ⟨Z, hZ, z1, z2, z3, z4, z5, z6⟩ := zt (u0 := .int .i64 y.id) (u1 := .int .i64 y.kind) (u2 := .string y.text) (u3 := .slice ya yn yc) eT2
          have hbw2 := HI1.out.below.trans (hb2.mono HI1.out.below.size)
          have hgr2 := (hb2.block _ (lt_of_heap HI1.out.gr)).trans HI1.out.gr
          have hV1 : w.heap.size + 1 < V1.heap.size := lt_of_heap HI1.out.tr
          have hne : ∀ q, (((q < V1.heap.size ∧ ¬ q = w.heap.size + 1) ∨ q < w.heap.size) ∨ V1.heap.size ≤ q) → q ≠ w.heap.size + 1 := fun q hq e => by
           rcases hq with (h | h) | h
           · exact h.2 e
           · omega
           · omega
          have hIZ : zc7 w g ga gn gc y ya yc Z := ⟨⟨z3.trans hbw2.os, z4.trans hbw2.tape, z5.trans hbw2.output, by rw [z6]; exact hbw2.size, fun q hq => (z2 q (by omega)).trans (hbw2.block q hq)⟩, (z2 _ (by omega)).trans hgr2, by rw [← hyn]; exact z1, hyc, hyf.kept fun q hq => by
           obtain ⟨⟨cs, ty, fr, hcz⟩, hz2⟩ := hq
           have hq1 := hne q hz2
           exact ⟨⟨by rw [z6]; exact lt_of_heap hcz, hq1⟩, z2 q hq1⟩⟩
          have HZ := hH (aN hIZ hZ)
          clear hyc hyf hb2 hyn eT2 hZ z1 z2 z3 z4 z5 z6 hbw2 hgr2 hV1 hne hIZ HI1 HS1
          go_upto_region 13 with fail
          rw [← HZ.out.2]
          clear p0 p1 p2 p3 zf
          by_cases he : er = 0
          · have he0 : r.2 = 0 := by rw [← HE.out.2.2.1]; exact he
            subst he
            have hyr : y = (doK g (s.s.on x)).1 := by rw [HE.out.2.1, ← HE.out.1]; unfold yg; rw [if_pos he0]
            have hd0 : (doK g (s.s.on x)).2 = 0 := by rw [← HE.out.1]; exact he0
            have hgo : goW g root t ((steps vs).take (k + 1)) = some y := by
             rw [List.take_add_one, HR.out.2.2.2.2.2.2.2.2.2.1, hyr]
             exact zaY HR.out.1 HR.out.2.2.2.2.2.2.2.2.2.2.1.symm hd0
            have hwy : Way y := by rw [hyr]; exact zgH HE.out.2.2.2 HR.out.2.1 hd0
            have hdy : (idT y).Nodup := by rw [hyr]; exact zf8 hd0
            have HN := hH (aN hgo (aN hwy hdy))
            clear he0 hyr hd0 hgo hwy hdy
            go_wp2_with fail
            exact ⟨⟨k + 1, by have := HR.out.2.2.2.2.2.2.2.2.2.2.2.1; omega, by go_num, rfl, by go_num, hH ⟨y, ya, yc, HN.out.1, HN.out.2.1, HN.out.2.2, HZ.out.1⟩⟩, by have := HR.out.2.2.2.2.2.2.2.2.2.2.2.1; simp [intOf]; omega⟩
          · have hen : (er == 0) = false := by simpa using he
            have henn : (er != 0) = true := by simpa using he
            have HEN := hH he
            clear he
            go_wp2_with fail
            go_ret2
            have hno := QD HR.out.1 HR.out.2.2.2.2.2.2.2.2.2.1 (fun h => by have h2 := h.2; rw [← HE.out.1, ← HE.out.2.2.1] at h2; exact HEN.out h2)
            exact ⟨_, er, rfl, fun h => absurd h HEN.out, fun _ _ hx => (by obtain ⟨z, hz⟩ := hx; rw [hno] at hz; cases hz), HZ.out.1.below⟩
      · have hki : ¬ (k : Int) < (n : Int) := by omega
        obtain rfl : k = n := by omega
        obtain ⟨x, va, vc, hgo, _, _, hIx⟩ := hh.out
        rw [List.take_of_length_le (by rw [jG, H.out.2.2.2.2.1]; exact Nat.le_refl _)] at hgo
        have HX := hH (aN hgo hIx.below)
        clear hh hlt hk hgo hIx
        go_wp2_with fail
        go_ret2
        exact ⟨_, 0, rfl, fun _ => ⟨by rw [jG, H.out.2.2.2.2.1], HOK.out, ⟨qq, HP.out⟩, x, HX.out.1⟩, fun _ _ _ => rfl, HX.out.2⟩
 · have hmb : (m == 0) = false := by simpa using h0
   have hmn : (m != 0) = true := by simpa using h0
   have HM0 := hH h0
   clear h0
   go_wp2_with fail
   go_ret2
   exact ⟨0, m, rfl, fun h => absurd h HM0.out, fun hok _ _ => (by rw [HM.out]; unfold Jc; rw [if_pos hok]), HI1.out.below⟩
theorem Yv : ∀ (q : List Nat) (t m : Tr) (r : List Nat) (v : Tr), atT t q = some m → zO t (q ++ r) v = zO t q (zO m r v)
 | [], t, m, r, v, h => by cases h; rfl
 | i :: q, t, m, r, v, h => by
   simp only [atT] at h
   cases hk : zz t.kids i with
   | none => rw [hk] at h; cases h
   | some u =>
     rw [hk] at h
     simp only at h
     simp only [List.cons_append, zO, hk]
     rw [Yv q u m r v h]
theorem ze7 (t : Tr) : idT t = vQ (zl t) := (kH t).symm
theorem QH (a : Int) (t : Tr) : a ∈ idT t ↔ 0 < vw a t := by rw [ze7, qR, ZV]
theorem jH {root i : Int} {t : Tr} (h : (vU root t).any (· == i) = true) : ∃ q u, zw root t = some q ∧ atT t q = some u ∧ i ∈ idT u := by
 obtain ⟨x, hx, e⟩ := List.any_eq_true.1 h
 have e := eq_of_beq e
 subst e
 unfold vU at hx
 split at hx
 · cases hx
 · next q hq =>
   split at hx
   · cases hx
   · next u hu => exact ⟨q, u, hq, hu, hx⟩
theorem jQ {i : Int} {t u : Tr} {q : List Nat} (hd : q8 t) (hu : atT t q = some u) (hi : i ∈ idT u) : ∃ r v, zw i u = some r ∧ atT u r = some v ∧ v.id = i ∧ zw i t = some (q ++ r) := by
 obtain ⟨r, hr⟩ := zdW ((QH i u).1 hi)
 obtain ⟨v, hv, hid⟩ := qd i u r hr
 refine ⟨r, v, hr, hv, hid, ?_⟩
 rw [← hid]
 exact jT hd (by rw [yj, hu]; exact hv)
theorem Z5 {t u v v' : Tr} {q r : List Nat} (hu : atT t q = some u) (hv : atT u r = some v) (hid : v'.id = v.id) : zO t (q ++ r) v' = zO t q (zO u r v') ∧ (zO u r v').id = u.id :=
 ⟨Yv q t u r v' hu, Zz r u v v' hv hid⟩
theorem zfL {u v : Tr} {r : List Nat} {i : Nat} (h : atT u (r ++ [i]) = some v) : ∃ w, atT u r = some w ∧ zz w.kids i = some v := by
 rw [yj] at h
 cases hw : atT u r with
 | none => rw [hw] at h; cases h
 | some w =>
   rw [hw] at h
   refine ⟨w, rfl, ?_⟩
   simp only [Option.bind_some, atT] at h
   cases hk : zz w.kids i with
   | none => rw [hk] at h; cases h
   | some z => rw [hk] at h; exact h
theorem zcU {ids : List Int} {root op id par : Int} (h : qH ids root op id par = true) : yz op id par ≠ [] ∧ ∀ x ∈ yz op id par, ids.any (· == x) = true ∧ ¬ (x = root ∧ jW op id x = true) := by
 unfold qH at h
 obtain ⟨h1, h2⟩ := (Bool.and_eq_true _ _).mp h
 refine ⟨fun e => (by rw [e] at h1; cases h1), fun x hx => ?_⟩
 have h3 := List.all_eq_true.1 h2 x hx
 unfold vg at h3
 obtain ⟨h4, h5⟩ := (Bool.and_eq_true _ _).mp h3
 refine ⟨h4, fun hc => ?_⟩
 rw [hc.2, hc.1] at h5
 simp at h5
theorem zf1 {root op id par at_ : Int} {tx : ByteArray} {x t y : Tr} (hd : q8 t) (hin : inW root t op id par = true) (h : vT op id par at_ tx x t = (y, 0)) : ∃ q u u', zw root t = some q ∧ atT t q = some u ∧ u'.id = root ∧ y = zO t q u' := by
 obtain ⟨hne, hall⟩ := zcU hin
 have hroot : ∀ {q u}, zw root t = some q → atT t q = some u → u.id = root := fun {q u} h1 h2 => by
  obtain ⟨v, hv, hid⟩ := qd root t q h1
  rw [h2] at hv; cases hv; exact hid
 by_cases h1 : op = 1
 · subst h1
   obtain ⟨hp, _⟩ := hall par (by unfold yz; rw [if_pos rfl]; exact List.mem_cons_self ..)
   obtain ⟨q, u, hq, hu, hi⟩ := jH hp
   obtain ⟨r, v, hr, hv, hid, hpt⟩ := jQ hd hu hi
   have hvt : atT t (q ++ r) = some v := by rw [yj, hu]; exact hv
   have h' : qU par at_ x t = (y, 0) := by unfold vT at h; rwa [if_pos rfl] at h
   unfold qU at h'
   split at h'
   · rename_i h0
     rw [kU hpt hvt] at h0 h'
     split at h0
     · rename_i hc
       rw [if_pos hc] at h'
       have hy := congrArg Prod.fst h'
       simp only at hy
       obtain ⟨e1, e2⟩ := Z5 (v' := ⟨v.id, v.kind, v.text, qz v.kids at_.toNat x⟩) hu hv rfl
       exact ⟨q, u, _, hq, hu, e2.trans (hroot hq hu), by rw [← hy]; exact e1⟩
     · exact absurd h0 (by show ¬ ((2 : Int) = 0); decide)
   · rename_i h0
     have := congrArg Prod.snd h'
     exact absurd this h0
 · by_cases h4 : op = 4
   · subst h4
     obtain ⟨hp, _⟩ := hall id (by unfold yz; simp)
     obtain ⟨q, u, hq, hu, hi⟩ := jH hp
     obtain ⟨r, v, hr, hv, hid, hpt⟩ := jQ hd hu hi
     have hvt : atT t (q ++ r) = some v := by rw [yj, hu]; exact hv
     have h' : jq id tx t = (y, 0) := by unfold vT at h; simpa using h
     rw [Yx hpt hvt] at h'
     have hy := congrArg Prod.fst h'
     simp only at hy
     obtain ⟨e1, e2⟩ := Z5 (v' := ⟨v.id, v.kind, tx, v.kids⟩) hu hv rfl
     exact ⟨q, u, _, hq, hu, e2.trans (hroot hq hu), by rw [← hy]; exact e1⟩
   · by_cases h2 : op = 2
     · subst h2
       obtain ⟨hp, hnt⟩ := hall id (by unfold yz; simp)
       obtain ⟨q, u, hq, hu, hi⟩ := jH hp
       obtain ⟨r, v, hr, hv, hid, hpt⟩ := jQ hd hu hi
       have hur := hroot hq hu
       have hrn : r ≠ [] := fun e => by
        subst e; cases hv
        exact hnt ⟨by rw [← hid]; exact hur, by simp [jW]⟩
       obtain ⟨r', i, e⟩ : ∃ r' i, r = r' ++ [i] := ⟨r.dropLast, r.getLast hrn, (List.dropLast_concat_getLast hrn).symm⟩
       subst e
       obtain ⟨n, hn, hk⟩ := zfL hv
       have hnt2 : atT t (q ++ r') = some n := by rw [yj, hu]; exact hn
       have h' : qw id t = (y, 0) := by unfold vT at h; simpa using h
       rw [ZC (p := q ++ r') (by rw [hpt, List.append_assoc]) hnt2 hk] at h'
       have hy := congrArg Prod.fst h'
       simp only at hy
       obtain ⟨e1, e2⟩ := Z5 (v' := ⟨n.id, n.kind, n.text, ym n.kids i⟩) hu hn rfl
       exact ⟨q, u, _, hq, hu, e2.trans hur, by rw [← hy]; exact e1⟩
     · by_cases h3 : op = 3
       · subst h3
         obtain ⟨hp, hnt⟩ := hall id (by unfold yz; simp)
         obtain ⟨hp2, _⟩ := hall par (by unfold yz; simp)
         obtain ⟨q, u, hq, hu, hi⟩ := jH hp
         obtain ⟨q2, u2, hq2, hu2, hi2⟩ := jH hp2
         rw [hq] at hq2; cases hq2
         rw [hu] at hu2; cases hu2
         obtain ⟨r, v, hr, hv, hid, hpt⟩ := jQ hd hu hi
         obtain ⟨r2, v2, hr2, hv2, hid2, hpt2⟩ := jQ hd hu hi2
         have hur := hroot hq hu
         have hrn : r ≠ [] := fun e => by
          subst e; cases hv
          exact hnt ⟨by rw [← hid]; exact hur, by simp [jW]⟩
         obtain ⟨r', i, e⟩ : ∃ r' i, r = r' ++ [i] := ⟨r.dropLast, r.getLast hrn, (List.dropLast_concat_getLast hrn).symm⟩
         subst e
         have h' : qI id par at_ t = (y, 0) := by unfold vT at h; simpa using h
         obtain ⟨p, j, n, z, q', m, m1, m2, m3, m4, m5, m6, m7, m8, m9⟩ := zbc h'
         rw [hpt, ← List.append_assoc] at m1
         obtain ⟨rfl, hj⟩ := List.append_inj' (Option.some.inj m1) rfl
         obtain rfl : i = j := by simpa using hj
         have hn : atT u r' = some n := by rw [yj, hu] at m2; exact m2
         obtain ⟨e1, e2⟩ := Z5 (v' := ⟨n.id, n.kind, n.text, ym n.kids i⟩) hu hn rfl
         obtain ⟨u1, hu1⟩ : ∃ u1, u1 = zO u r' ⟨n.id, n.kind, n.text, ym n.kids i⟩ := ⟨_, rfl⟩
         rw [← hu1] at e1 e2
         obtain ⟨rest, hrest⟩ : ∃ rest, rest = zO t (q ++ r') ⟨n.id, n.kind, n.text, ym n.kids i⟩ := ⟨_, rfl⟩
         rw [← hrest] at m5 m6 m9 e1
         have hcr : ∀ a, vw a rest ≤ vw a t := fun a => by
          have c1 := JZ a (q ++ r') t n ⟨n.id, n.kind, n.text, ym n.kids i⟩ m2
          have c2 := zcM a n.kids i z m3
          rw [← hrest] at c1
          simp only [vw] at c1 c2 ⊢
          omega
         have hdr : q8 rest := (Qu rest).2 fun a => Nat.le_trans (hcr a) ((Qu t).1 hd a)
         have hat : atT rest q = some u1 := by rw [e1]; exact zaf q t u u1 hu
         have hc1 : 0 < vw par u1 := by
          have c1 := JZ par q t u u1 hu
          rw [← e1] at c1
          have c2 : 0 < vw par rest := by
           rcases Nat.eq_zero_or_pos (vw par rest) with h0 | h0
           · rw [(zbn _ _).2 h0] at m5; cases m5
           · exact h0
          have c3 := (Qu t).1 hd par
          have c4 := (QH par u).1 hi2
          omega
         obtain ⟨r3, v3, _, hv3, _, hpr⟩ := jQ hdr hat ((QH par u1).2 hc1)
         rw [m5] at hpr
         obtain rfl := Option.some.inj hpr
         have hm3 : atT u1 r3 = some m := by rw [yj, hat] at m6; exact m6
         obtain ⟨f1, f2⟩ := Z5 (v' := ⟨m.id, m.kind, m.text, qz m.kids at_.toNat z⟩) hat hm3 rfl
         refine ⟨q, u, _, hq, hu, (f2.trans e2).trans hur, ?_⟩
         rw [m9, f1, e1, zc0 q t u _ _ hu]
       · exact absurd (by unfold yz; rw [if_neg h1, if_neg h2, if_neg h3, if_neg h4]) hne
theorem zg5 {g : Gr} {root : Int} {s : Sf} {t : Tr} (hd : q8 t) (hin : inW root t s.op s.id s.par = true) (h : (doK g (s.on t)).2 = 0) : ∃ q u u', zw root t = some q ∧ atT t q = some u ∧ u.id = root ∧ u'.id = root ∧ (doK g (s.on t)).1 = zO t q u' ∧ q8 (doK g (s.on t)).1 ∧ zw root (doK g (s.on t)).1 = some q := by
 unfold doK at h ⊢
 split at h
 · rename_i h1
   split at h
   · rename_i h2
     rw [if_pos h1, if_pos h2]
     obtain ⟨q, u, u', hq, hu, hid, hy⟩ := zf1 (y := (s.on t).1) hd hin (show vT s.op s.id s.par s.at_ s.tx s.sub t = ((s.on t).1, 0) from Prod.ext rfl h1)
     have hdy := (kW h2).1
     refine ⟨q, u, u', hq, hu, ?_, hid, hy, hdy, ?_⟩
     · obtain ⟨v, hv, hvid⟩ := qd root t q hq
       rw [hu] at hv; cases hv; exact hvid
     · have h5 : atT (s.on t).1 q = some u' := by rw [hy]; exact zaf q t u u' hu
       have h6 := jT hdy h5
       rwa [hid] at h6
   · rename_i h2; exact absurd h h2
 · rename_i h1; exact absurd h h1
theorem zfa {root above op id par : Int} {t : Tr} {p r : List Nat} (hd : q8 t) (ha : zw above t = some p) (hr : zw root t = some (p ++ r)) (h : inW root t op id par = true) : inW above t op id par = true := by
 obtain ⟨hne, hall⟩ := zcU h
 obtain ⟨w, hw, hwid⟩ := qd above t p ha
 have hsub := YQ ha hw
 unfold inW qH
 rw [Bool.and_eq_true]
 refine ⟨?_, List.all_eq_true.2 fun x hx => ?_⟩
 · cases ht : yz op id par with
   | nil => exact absurd ht hne
   | cons _ _ => rfl
 · obtain ⟨h1, h2⟩ := hall x hx
   obtain ⟨q, u, hq, hu, hi⟩ := jH h1
   rw [hr] at hq
   obtain rfl := Option.some.inj hq
   have hu2 : atT w r = some u := by rw [yj, hw] at hu; exact hu
   obtain ⟨A, C, e⟩ := QG r w u hu2
   unfold vg
   rw [Bool.and_eq_true]
   refine ⟨?_, ?_⟩
   · rw [hsub]
     exact List.any_eq_true.2 ⟨x, by rw [e]; exact List.mem_append_left _ (List.mem_append_right _ hi), by simp⟩
   · rw [Bool.not_eq_true', Bool.and_eq_false_iff]
     by_cases hxa : x = above
     · right
       by_cases htk : jW op id x = true
       · exfalso
         subst hxa
         obtain ⟨r5, v5, _, hv5, _, hp5⟩ := jQ hd hu hi
         rw [ha, List.append_assoc] at hp5
         have h6 := congrArg List.length (Option.some.inj hp5)
         rw [List.length_append, List.length_append] at h6
         have h7 : r = [] := List.eq_nil_of_length_eq_zero (by omega)
         subst h7
         rw [List.append_nil] at hr
         obtain ⟨v, hv, hvid⟩ := qd root t p hr
         rw [hw] at hv; cases hv
         exact h2 ⟨by rw [← hwid, hvid], htk⟩
       · simpa using htk
     · left; simpa using hxa
theorem Ju {g : Gr} {root above : Int} : ∀ {l : List Sf} {t x : Tr} {p r : List Nat}, q8 t → zw above t = some p → zw root t = some (p ++ r) → goW g root t l = some x → goW g above t l = some x
 | [], t, x, p, r, _, _, _, h => h
 | s :: l, t, x, p, r, hd, ha, hr, h => by
   rw [goW] at h ⊢
   split at h
   · rename_i h0
     rw [if_pos ⟨zfa hd ha hr h0.1, h0.2⟩]
     obtain ⟨q, u, u', hq, hu, huid, hid, hy, hdy, hpy⟩ := zg5 hd h0.1 h0.2
     rw [hr] at hq
     obtain rfl := Option.some.inj hq
     obtain ⟨w, hw, hwid⟩ := qd above t p ha
     have hu2 : atT w r = some u := by rw [yj, hw] at hu; exact hu
     have h5 : atT (doK g (s.on t)).1 p = some (zO w r u') := by
      rw [hy, Yv p t w r u' hw]; exact zaf p t w _ hw
     have h6 := jT hdy h5
     rw [Zz r w u u' hu2 (by rw [hid, huid]), hwid] at h6
     exact Ju hdy h6 hpy h
   · cases h
end Go.Proofs.Ytgkmmnihaiopaaa
