/-
  .
-/
import Derived.Deep.Cut
import Derived.Carry
import Derived.Test.YtonapijgfalpaaaGreatLRIdsQw
import Derived.Test.YtonapijgfalpaaaGreatLRowQw
import Derived.Test.YtonapijgfalpaaaGreatKOpenQw
import Derived.Test.YtonapijgfalpaaaGreatJJoinQw
import Derived.Test.YtonapijgfalpaaaGreatJGreatQw
import Derived.Test.YtonapijgfalpaaaGreatJWakesQw
import Derived.Test.YtonapijgfalpaaaGreatLSameRQw
import Derived.Test.YtonapijgfalpaaaGreatLRJoinQw
import Derived.Test.YtonapijgfalpaaaGreatVManyQw
import Derived.ProofKit
import Derived.OpenShut
import Derived.Deep.Slices
import Derived.Deep.Strs
import Derived.Lib.SmallJoins
import Derived.Laws.BytesArg
import Derived.Test.YtonapijgfalpaaaGreatJPgQw
set_option maxRecDepth 100000
set_option maxHeartbeats 40000000
set_option linter.unusedVariables false
set_option linter.unusedSimpArgs false
namespace Go.Proofs.YtonapijgfalpaaaGreat
open Go.RowKit Go.Shelf
open Go.Maps
theorem zey {w : World} {b n : Nat} {l ss : List Int} (h : qW w b n l) (hp : ss.Perm (intKeys (setOf (.agg [] : DataW Value) (l.map (Lit.int .i64 ·))))) : ss.mergeSort leI = qD l := by
 obtain ⟨es, hD, hpw, _⟩ := World.ownsMap.entries h zad
 obtain ⟨es', hD', hko⟩ := World.ownsMap.keysOf h
 obtain rfl : es = es' := by rw [hD] at hD'; simpa using hD'
 have hmem : ∀ x, x ∈ qD l ↔ has (.map es) (.int .i64 x) = true := fun x => by
  rw [← hD, kI, ZP]; simp
 have hnd : (qD l).Nodup := (Y5 l).imp fun h => by omega
 have h1 := perm_intKeys hpw (fun p hp => by obtain ⟨v, hv⟩ := hko p hp; obtain ⟨x, _, hx, _⟩ := Maps.keyOf_i64 Tryz.underlying3 hv; exact ⟨x, hx⟩) hnd hmem
 rw [hD] at hp
 have h2 := hp.trans h1.symm
 exact zaR (h2.nodup_iff.2 hnd) fun x => by rw [h2.mem_iff, ZP]
theorem zfr (w : World) (la : Option Addr) (n c : Nat) (vs : List SV) (hn : n = vs.length) (h : Row w la vs) (hl : vs.length ≤ 70) (hwf : ∀ x ∈ vs, WfS x.s) :
 Calls Tryz.prog 13 #[.slice la n c] w (Ju w (qD (yh (steps vs)))) := by
 have hn70 : n ≤ 70 := by omega
 have H := hH (aN h (aN hn (aN hl hwf)))
 clear h hn hl hwf
 obtain ⟨mb, hmb⟩ : ∃ mb, mb = w.heap.size := ⟨_, rfl⟩
 obtain ⟨B, hB⟩ : ∃ B, B = w.alloc (.map #[] 0) := ⟨_, rfl⟩
 have hb : Below w.heap.size w B := by rw [hB]; exact zh _ _
 have hm0 : qW B mb 0 [] := by rw [hB, hmb]; exact World.ownsMap_made w Tryz.prog 3 (unitElem (H := Value))
 have hBs : mb < B.heap.size := by rw [hB, hmb]; simp
 have HI0 := hH (show zbg w B mb [] 0 B from ⟨hm0, hb, fun _ _ _ => rfl, Nat.le_refl _⟩)
 have HB := hH (aN hb (aN hBs hmb))
 have HBE := hH hB
 have hmm := @run_makeMap Tryz.prog
 have HMB := hH hmb
 clear hb hm0 hBs hB
 go_enter Tryz.func13, Tryz.ntmps13
 go_upto_region 2 with fail
 rw [← HBE.out, ← HMB.out]
 clear hmm HBE hmb
 go_wp2_with fail
 go_loopw [11] (fun i wr => ∃ k : Nat, k ≤ n ∧ i = .int .i64 (k : Int) ∧ Hid (zbg w B mb (yh ((steps vs).take k)) (yh ((steps vs).take k)).length wr)) (fun i _ => n - (RowKit.intOf i).toNat)
 case atStart => exact ⟨0, Nat.zero_le _, rfl, HI0⟩
 case round =>
  obtain ⟨k, hk, rfl, hh⟩ := hrel
  obtain ⟨L, hL⟩ : ∃ L, L = yh ((steps vs).take k) := ⟨_, rfl⟩
  rw [← hL] at hh
  clear HI0
  obtain ⟨wo, hwo⟩ : ∃ wo, wo = wr := ⟨_, rfl⟩
  subst hwo
  by_cases hlt : k < n
  · obtain ⟨x, hx⟩ : ∃ x, vs[k]? = some x := ⟨_, List.getElem?_eq_getElem (by rw [← H.out.2.1]; exact hlt)⟩
    obtain ⟨b, off, rfl, c0, c1, c2, c3, c4, c5, c6, c7, c8⟩ := H.out.1.at hh.out.2.1 hx
    have hlx := H.out.1.lies x (List.mem_of_getElem? hx)
    have hfx := H.out.1.fit x (List.mem_of_getElem? hx)
    have hwx := H.out.2.2.2 x (List.mem_of_getElem? hx)
    have hsx := yD hx
    unfold qE at hlx
    obtain ⟨s, xa, xc⟩ := x
    simp only at hlx hfx hwx hsx c0 c1 c2 c3 c4 c5 c6 c7 c8
    obtain ⟨xn, hxn⟩ : ∃ xn, xn = zb s.sub.kids := ⟨_, rfl⟩
    rw [← hxn] at c8
    obtain ⟨V, hV⟩ : ∃ V, V = wo.alloc (.cells #[.int .i8 s.op, .int .i64 s.id, .int .i64 s.par, .int .i64 s.at_, .string s.tx, .int .i64 s.sub.id, .int .i64 s.sub.kind, .string s.sub.text, .slice xa xn xc] 49) := ⟨_, rfl⟩
    have hbV : Below wo.heap.size wo V := by rw [hV]; exact zh _ _
    have eV : V.heap[wo.heap.size]? = some (.cells #[.int .i8 s.op, .int .i64 s.id, .int .i64 s.par, .int .i64 s.at_, .string s.tx, .int .i64 s.sub.id, .int .i64 s.sub.kind, .string s.sub.text, .slice xa xn xc] 49 (0, 0)) := by rw [hV]; exact heap_alloc_new _ _
    have hbw := hh.out.2.1.trans (hbV.mono hh.out.2.1.size)
    have HC : Hid (Calls Tryz.prog 31 #[.agg #[.int .i8 s.op, .int .i64 s.id, .int .i64 s.par, .int .i64 s.at_, .string s.tx, .int .i64 s.sub.id, .int .i64 s.sub.kind, .string s.sub.text, .slice xa xn xc]] V (Ju V (yz s))) := hH (by
     rw [hxn]
     exact Jk V (fun q => q < w.heap.size) s.sub s.op s.id s.par s.at_ s.tx xa _ xc (fun y hy => nL hy hbw.size) (hlx.at hbw) (by have := hfx.size; omega) hfx.op)
    have HN := hH (Yj hsx)
    have HNL := hH (kr k (fun x hx => (H.out.1.fit x hx).size) H.out.2.2.1)
    have HSL := hH (Zd hfx.size)
    have HWF := hH (zc6 hwx hfx.ok)
    have HKN := hH (aN hk (aN hlt hL))
    have HV := hH hV
    have HBV := hH (aN hbV hbw)
    have hkl : (k : Int) < (n : Int) := by omega
    obtain ⟨u1, hu1⟩ : ∃ u1, u1 = wo.heap.size := ⟨_, rfl⟩
    have EV := hH eV
    clear hx hlx hfx hwx hsx hxn hk hlt hL hV hbV hbw eV
    go_upto_region 5 with fail
    change Code.wp _ _ _ _ (wo.alloc (.cells #[.int .i8 s.op, .int .i64 s.id, .int .i64 s.par, .int .i64 s.at_, .string s.tx, .int .i64 s.sub.id, .int .i64 s.sub.kind, .string s.sub.text, .slice xa xn xc] 49))
    rw [← HV.out, ← hu1]
    rw [← hu1] at EV
    clear HV hu1 c0 c1 c2 c3 c4 c5 c6 c7 c8
    obtain ⟨f0, f1, f2, f3, f4, f5, f6, f7, f8⟩ := yP EV.out
    clear EV
    go_wp2_with fail
    refine HC.out.mono ?_
    rintro e W1 ⟨ia, ic, rfl, hio, hib⟩
    obtain ⟨q, hq⟩ : ∃ q, q = (yz s).length := ⟨_, rfl⟩
    rw [← hq] at hio ⊢
    have hq5 : q ≤ 252 := by rw [hq]; exact HSL.out.2
    have hq0 : 0 < q := by rw [hq]; exact HSL.out.1
    have hneq : ∀ g, (Value.slice ia q ic).ownBlock = some g → g ≠ mb := fun g hg => by
     have h1 := (zq hio hg).1
     have h2 := HB.out.2.1; have h3 := hh.out.2.2.2; have h4 := HBV.out.1.size
     omega
    obtain ⟨g, rfl, hgc, hgl, hcell⟩ := YD hio hq0
    have hgm : g ≠ mb := hneq g rfl
    have hI1 : zbg w W1 mb (L ++ (yz s).take 0) (L.length + 0) W1 := by
     rw [List.take_zero, List.append_nil, Nat.add_zero]
     have h1 := hh.out.1
     rw [HKN.out.2.2] at h1 ⊢
     exact ⟨h1.at ((hib.block _ (by have := HB.out.2.1; have := hh.out.2.2.2; have := HBV.out.1.size; omega)).trans (HBV.out.1.block _ (by have := HB.out.2.1; have := hh.out.2.2.2; omega))), HBV.out.2.trans (hib.mono HBV.out.2.size), fun _ _ _ => rfl, Nat.le_refl _⟩
    have HI1 := hH hI1
    have HIO := hH (aN hgl (aN hcell (aN hq (aN hgm (show w.heap.size ≤ W1.heap.size ∧ B.heap.size ≤ W1.heap.size by have := hh.out.2.2.2; have := HBV.out.1.size; have := hib.size; have := HB.out.1.size; omega)))))
    have HOLD := hH (fun y (hy : y < B.heap.size) (hne : y ≠ mb) => ((hib.block y (by have := hh.out.2.2.2; have := HBV.out.1.size; omega)).trans (HBV.out.1.block y (by have := hh.out.2.2.2; omega))).trans (hh.out.2.2.1 y hy hne))
    clear hib hq hq0 hcell hgl hgc hgm hneq hI1 hh hio f0 f1 f2 f3 f4 f5 f6 f7 f8
    go_wp2_with fail
    go_loopw [18] (fun i wr => ∃ j : Nat, j ≤ q ∧ i = .int .i64 (j : Int) ∧ Hid (zbg w W1 mb (L ++ (yz s).take j) (L.length + j) wr)) (fun i _ => q - (RowKit.intOf i).toNat)
    case atStart => exact ⟨0, Nat.zero_le _, rfl, HI1⟩
    case round =>
     obtain ⟨j, hj, rfl, hh⟩ := hrel
     clear HI1
     by_cases hjl : j < q
     · obtain ⟨nid, hnid⟩ : ∃ nid, (yz s)[j]? = some nid := ⟨_, List.getElem?_eq_getElem (by rw [← HIO.out.2.2.1]; exact hjl)⟩
       have d0 : wr.cell? ⟨g, j, none⟩ = some (.int .i64 nid) := (World.cell?_of_block (a := ⟨g, j, none⟩) (hh.out.2.2.1 g HIO.out.1 HIO.out.2.2.2.1)).trans (HIO.out.2.1 j nid hnid)
       have hkey := keyOf_int_mk (P := Tryz.prog) Tryz.underlying3 (HWF.out nid (List.mem_of_getElem? hnid))
       have hown := hh.out.1
       unfold qW at hown
       have hlb : L.length ≤ 17640 := by have := HNL.out; rw [← HKN.out.2.2] at this; exact this
       have HJ := hH (aN hnid hjl)
       have hji : (j : Int) < (q : Int) := by omega
       clear hnid hjl hj
       go_wp2_with (at_mapUpdate; refine wpList_mapUpdate_own _ rfl _ _ _ 67 rfl 3 69 zad Tryz.underlying67 unitElem mb (L.length + j) _ rfl hown (by unfold maxLen; omega) _ _ _ rfl rfl hkey _ [] unitElem_mk ?_; intro w5 hown5 hgrow5)
       refine ⟨⟨j + 1, by have := HJ.out.2; omega, by go_num, hH ?_⟩, by have := HJ.out.2; simp [RowKit.intOf]; omega⟩
       rw [List.take_add_one, HJ.out.1, ← Nat.add_assoc, ← List.append_assoc]
       exact hh.out.add (Below.refl _ _) hgrow5 (zbI hown5) (by have := HB.out.2.2; omega) HIO.out.2.2.2.2.1
     · have hji : ¬ (j : Int) < (q : Int) := by omega
       have hjq : j = q := by omega
       have HE : Hid (zbg w B mb (yh ((steps vs).take (k + 1))) (yh ((steps vs).take (k + 1))).length wr) := hH (by
        have h1 := hh.out
        rw [hjq, HIO.out.2.2.1, List.take_length] at h1
        rw [HN.out, ← HKN.out.2.2, List.length_append]
        exact ⟨h1.1, h1.2.1, fun y hy hne => (h1.2.2.1 y (by have := HIO.out.2.2.2.2.2; omega) hne).trans (HOLD.out y hy hne), Nat.le_trans HIO.out.2.2.2.2.2 h1.2.2.2⟩)
       clear hh hjq hjl hj
       go_wp2_with fail
       exact ⟨⟨k + 1, by have := HKN.out.2.1; omega, by go_num, HE⟩, by have := HKN.out.2.1; simp [RowKit.intOf]; omega⟩
  · have hkl : ¬ (k : Int) < (n : Int) := by omega
    have hE : L = yh (steps vs) := by rw [hL, List.take_of_length_le (by rw [zD, ← H.out.2.1]; omega)]
    have hln : L.length ≤ 17640 := by
     have h1 := kr k (fun x hx => (H.out.1.fit x hx).size) H.out.2.2.1
     rw [← hL] at h1; exact h1
    rw [hL] at hE hln
    have hown := hh.out.1
    rw [hL] at hown
    unfold qW at hown
    have HK := hH (zgt wo mb)
    have HS := hH (zfm wo mb _ _ _ hown (by
     have h1 := World.ownsMap.size_le hown
     omega))
    have HE := hH hE
    have HBW := hH hh.out.2.1
    have HO := hH (show qW wo mb _ _ from hown)
    clear hE hln hown hk hlt hL
    go_wp2_with fail
    refine HK.out.mono ?_
    rintro e W2 ⟨rfl, rfl⟩
    clear HK
    go_wp2_with fail
    refine HS.out.mono ?_
    rintro e W3 ⟨v, ss, rfl, hp, hrow, hbb⟩
    have hms := zey HO.out hp
    rw [hms, HE.out] at hrow
    have hlen : ss.length = (qD (yh (steps vs))).length := by rw [← HE.out, ← hms, List.length_mergeSort]
    rw [hlen] at hrow
    obtain ⟨za, zc, rfl⟩ := zw hrow
    have HZ := hH (aN hrow hbb)
    clear hms hrow hbb hlen hp
    go_wp2_with fail
    go_ret
    exact ⟨za, zc, rfl, kg HZ.out.1 HBW.out.size, HBW.out.trans (HZ.out.2.mono HBW.out.size)⟩
end Go.Proofs.YtonapijgfalpaaaGreat
namespace Go.Proofs.YtonapijgfalpaaaGreat
open Go.RowKit Go.Shelf
theorem zdd {w : World} {l : List Sf} {e : Ending} {W : World} (h : zfM w l e W) : zdA w l e W := by
 obtain ⟨ja, jn, jc, n, he, hb, h⟩ := h
 rcases h with ⟨rfl, hok, js, h1, h2, h3⟩ | ⟨rfl, hno, h2⟩
 · have e0 : qf l = 0 := by unfold qf; rw [if_pos hok]
   exact ⟨ja, jn, jc, 0, he, hb, e0.symm, js, h2, h3, by rw [if_pos e0]; exact h1⟩
 · have e0 : qf l = 3 := by unfold qf; rw [if_neg (by rw [hno]; decide)]
   exact ⟨ja, jn, jc, 3, he, hb, e0.symm, [], h2, ⟨fun k x hx => by simp at hx, fun x hx => by simp at hx, fun x hx => by simp at hx, by simp⟩, by rw [if_neg (by rw [e0]; decide)]; rfl⟩
theorem Yq (w : World) (la lb : Option Addr) (na ca nb cb : Nat) (pa pb : List SV) (hna : na = pa.length) (hnb : nb = pb.length) (ha : Qa w la pa) (hb : Qa w lb pb) (hwf : ∀ x ∈ pa, WfS x.s) (hca : la = none → ca = 0) (hcb : lb = none → cb = 0) :
 Calls Tryz.prog 3 #[.slice la na ca, .slice lb nb cb] w (ze5 w) := by
 have HA := hH (aN hna (aN ha (aN hwf hca)))
 have HB := hH (aN hnb (aN hb hcb))
 have BW := hH (Below.refl w.heap.size w)
 clear hna hnb ha hb hwf hca hcb
 go_enter Tryz.func3, Tryz.ntmps3
 go_wp2_with fail
 refine (Yn w la na ca pa HA.out.1 HA.out.2.1).mono ?_
 rintro e W3 ⟨b3, rfl, h3, hb⟩
 replace BW := hH (BW.out.trans (hb.mono BW.out.size))
 clear hb
 cases b3
 rotate_left
 · clear h3
   go_wp2_with fail
   refine (jQ W3).mono ?_
   rintro e WZ ⟨rfl, hbz⟩
   have HZ := hH (BW.out.trans (hbz.mono BW.out.size))
   clear hbz
   go_wp2_with fail
   go_ret
   exact ⟨rfl, HZ.out⟩
 have SA := hH (h3 rfl)
 clear h3
 go_wp2_with fail
 refine (Yn W3 lb nb cb pb HB.out.1 (HB.out.2.1.on BW.out)).mono ?_
 rintro e W4 ⟨b4, rfl, h4, hb⟩
 replace BW := hH (BW.out.trans (hb.mono BW.out.size))
 clear hb
 cases b4
 rotate_left
 · clear h4
   go_wp2_with fail
   refine (jQ W4).mono ?_
   rintro e WZ ⟨rfl, hbz⟩
   have HZ := hH (BW.out.trans (hbz.mono BW.out.size))
   clear hbz
   go_wp2_with fail
   go_ret
   exact ⟨rfl, HZ.out⟩
 have SB := hH (h4 rfl)
 clear h4
 have RA := hH (HA.out.2.1.row SA.out)
 have RB := hH (HB.out.2.1.row SB.out)
 have HL := hH (show na ≤ 1000 ∧ nb ≤ 1000 by have h1 := SA.out.1; have h2 := SB.out.1; rw [HA.out.1, HB.out.1]; omega)
 go_wp2_with fail
 refine (zdU W4 la lb na ca nb cb pa pb HA.out.1 HB.out.1 (RA.out.on BW.out) (RB.out.on BW.out)).mono ?_
 intro e W5 hj
 rw [show steps (pa ++ pb) = steps pa ++ steps pb by simp [steps]] at hj
 obtain ⟨ja, jn, jc, jm, rfl, hb, hm1, js, hjn, hjr, hjs⟩ := zdd hj
 have HJ := hH (aN hm1 (aN hjn (aN hjr hjs)))
 replace BW := hH (BW.out.trans (hb.mono BW.out.size))
 clear hb hj hm1 hjn hjr hjs
 go_wp2_with fail
 refine (zdu W5 la lb na ca nb cb pa pb HA.out.1 HB.out.1 (RA.out.on BW.out) (RB.out.on BW.out) HL.out.1 HL.out.2 HA.out.2.2.2 HB.out.2.2).mono ?_
 rintro e W6 ⟨qa, qn, qc, qm, rfl, hb, hm2, ks, hkn, hkr, hks⟩
 have hjr := HJ.out.2.2.1.on hb
 replace BW := hH (BW.out.trans (hb.mono BW.out.size))
 obtain rfl : qm = jm := hm2.trans HJ.out.1.symm
 have hsteps : steps js = steps ks := HJ.out.2.2.2.trans hks.symm
 obtain rfl : qn = jn := by rw [hkn, HJ.out.2.1, ← zD js, ← zD ks, hsteps]
 have HS := hH (zbF W6 ja qa qn jc qc js ks HJ.out.2.1 hsteps hjr hkr)
 have hqq : (qm == qm) = true := by simp
 clear hb hm2 hkn hkr hks hjr hsteps HJ
 go_wp2_with fail
 refine HS.out.mono ?_
 rintro e W7 ⟨rfl, hb⟩
 replace BW := hH (BW.out.trans (hb.mono BW.out.size))
 clear hb HS hqq
 go_wp2_with fail
 refine (zav W7 la lb na nb ca cb pa pb HA.out.1 HB.out.1 (RA.out.on BW.out) (RB.out.on BW.out)).mono ?_
 rintro e W8 ⟨rfl, hb⟩
 replace BW := hH (BW.out.trans (hb.mono BW.out.size))
 obtain ⟨cc, hcc⟩ : ∃ cc, cc = qH (steps pa) (steps pb) := ⟨_, rfl⟩
 rw [← hcc]
 have HC := hH hcc
 clear hb hcc
 go_wp2_with fail
 refine (zbK W8 la lb na nb ca cb pa pb HA.out.1 HB.out.1 (RA.out.on BW.out) (RB.out.on BW.out)).mono ?_
 rintro e W9 ⟨rfl, hb⟩
 replace BW := hH (BW.out.trans (hb.mono BW.out.size))
 rw [← HC.out]
 clear hb
 have hce : (cc == cc) = true := by simp
 go_wp2_with fail
 refine (zav W9 la la na na ca ca pa pa HA.out.1 HA.out.1 (RA.out.on BW.out) (RA.out.on BW.out)).mono ?_
 rintro e W10 ⟨rfl, hb⟩
 rw [Y4]
 replace BW := hH (BW.out.trans (hb.mono BW.out.size))
 clear hb hce
 go_wp2_with fail
 refine (zfr W10 la na ca pa HA.out.1 (RA.out.on BW.out) SA.out.1 HA.out.2.2.1).mono ?_
 rintro e W11 ⟨ia, ic, rfl, hio, hb⟩
 have HI := hH hio
 replace BW := hH (BW.out.trans (hb.mono BW.out.size))
 obtain ⟨L, hL⟩ : ∃ L, L = qD (yh (steps pa)) := ⟨_, rfl⟩
 rw [← hL] at HI ⊢
 have hll : L.length ≤ 1000000 := by
  have h1 := QP (yh (steps pa))
  have h2 := kr pa.length (fun x hx => (RA.out.fit x hx).size) SA.out.1
  rw [List.take_of_length_le (by rw [zD]; exact Nat.le_refl _)] at h2
  rw [hL]; omega
 have HLL := hH (aN hL hll)
 obtain ⟨ln, hln⟩ : ∃ ln, ln = L.length := ⟨_, rfl⟩
 have HLN := hH hln
 rw [← hln]
 clear hio hb hL hll hln
 go_wp2_with fail
 refine (zdL W11 la na ca pa HA.out.1 (RA.out.on BW.out) SA.out.1).mono ?_
 rintro e W12 ⟨ka, kc, rfl, hko, hb⟩
 rw [← HLL.out.1] at hko ⊢
 rw [← HLN.out]
 have h1 := zB (w' := W12) HI.out (fun g cur hg _ => hb.block g (lt_of_heap hg))
 have HR := hH (zfv W12 _ _ _ _ L L h1 hko HLL.out.2 HLL.out.2)
 rw [← HLN.out] at HR
 have HLD := hH (show decide (L = L) = true by simp)
 replace BW := hH (BW.out.trans (hb.mono BW.out.size))
 clear hko hb h1 HI
 go_wp2_with fail
 refine HR.out.mono ?_
 rintro e W13 ⟨rfl, hb⟩
 rw [HLD.out]
 replace BW := hH (BW.out.trans (hb.mono BW.out.size))
 clear hb HR
 go_wp2_with fail
 refine (jQ W13).mono ?_
 rintro e WZ ⟨rfl, hbz⟩
 have HZ := hH (BW.out.trans (hbz.mono BW.out.size))
 clear hbz
 go_wp2_with fail
 go_ret
 exact ⟨rfl, HZ.out⟩
end Go.Proofs.YtonapijgfalpaaaGreat
namespace Go.Proofs.YtonapijgfalpaaaGreat
open Go.ChangeShapes Go.WideShapes Go.ChangeAt Go.RowKit
open Extern.Stop (cell)
section
variable {H : Type} {enc : TypeId × Value → H} {w : World} {base : Nat} {spare : Nat → Bool} {held : Bool}
theorem open_stepsI (fuel : Nat) (v : Value) (x : DataW H × List MemPlace) (h : DataW.trod enc Tryz.prog w base spare held fuel 22 [v] = some x) :
 ∃ (vs : List SV) (a : Option Addr) (cap : Nat), v = .slice a vs.length cap ∧ Qa w a vs ∧ (∀ x ∈ vs, WfS x.s) ∧ (a = none → cap = 0) := by
 rcases Deep.open_slice Tryz.underlying22 h with ⟨hcs, _⟩ | ⟨ad, len, cap, m, n, D, Pl, hcs, _, hl, hm, hmm, _, hi⟩
 · simp only [List.cons.injEq, and_true] at hcs
   subst hcs
   exact ⟨[], none, 0, rfl, ⟨fun k s hs => by simp at hs, fun x hx => by simp at hx, fun x hx => by simp at hx⟩, (fun x hx => by simp at hx), fun _ => rfl⟩
 · simp only [List.cons.injEq, and_true] at hcs
   subst hcs
   have h9 : Tryz.prog.cellsOf 49 = 9 := by kernel_rfl
   have hle : len ≤ m := by rw [hmm]; split <;> omega
   rw [h9] at hi
   have each : ∀ i, i < len → ∃ (y : SV), (∀ j u, (yo y.s y.a y.c)[j]? = some u → w.cell? (ad.add (i * 9 + j)) = some u) ∧ qE w y ∧ zbn y.s ∧ WfS y.s := fun i hil => by
    obtain ⟨cs', hc, ht⟩ := hi i (by omega)
    obtain ⟨_, _, hat⟩ := World.cells?_some hc
    obtain ⟨op, id, par, at_, tx, u, ka, kcap, rfl, hcp, hfo, hft, hw, htx⟩ := zbO n cs' _ ht
    refine ⟨⟨⟨op, id, par, at_, tx, u⟩, ka, kcap⟩, fun j u hj => ?_, ⟨hcp, hfo.kept fun q hq => ⟨hq, rfl⟩⟩, ⟨hw.1, hft.1, hft.2.1, zb4 1 (zm u) ⟨hft.2.2.1, hft.2.2.2, True.intro⟩, htx⟩, ⟨hw.2.1, hw.2.2.1⟩⟩
    have hj9 : j < 9 := (List.getElem?_eq_some_iff.1 hj).1
    have := hat j hj9
    rw [Deep.add_add] at this
    exact this.trans hj
   haveI : Inhabited SV := ⟨⟨zaV, none, 0⟩⟩
   obtain ⟨f, hff⟩ := Deep.choose_lt each
   have hmem : ∀ x ∈ (List.range len).map f, qE w x ∧ zbn x.s ∧ WfS x.s := fun x hx => by
    obtain ⟨j, hj, rfl⟩ := List.mem_map.1 hx
    obtain ⟨_, h1, h2⟩ := hff j (List.mem_range.1 hj)
    exact ⟨h1, h2⟩
   refine ⟨(List.range len).map f, some ad, cap, by simp, ⟨fun k s hs => ?_, fun x hx => (hmem x hx).1, fun x hx => (hmem x hx).2.1⟩, (fun x hx => (hmem x hx).2.2), fun h => by cases h⟩
   rw [List.getElem?_map, Option.map_eq_some_iff] at hs
   obtain ⟨j, hj, rfl⟩ := hs
   obtain ⟨hlt', rfl⟩ := List.getElem?_eq_some_iff.1 hj
   simp only [List.length_range] at hlt'
   simp only [List.getElem_range]
   obtain ⟨hz, h1, h2, _⟩ := hff k hlt'
   obtain ⟨b, off, spot⟩ := ad
   obtain ⟨hz', _, _⟩ := hff 0 (by omega)
   have hz0 := hz' 0 _ rfl
   have hsp : spot = none := by simpa [Addr.add] using World.cell?_spot hz0
   subst hsp
   have hlt := zcw hz0
   rw [QF] at hlt
   clear hz0 hz'
   refine ⟨b, off, rfl, hlt, fun j u hj => ?_⟩
   have := hz j u hj
   rw [Addr.add_mid, ← Nat.add_assoc] at this
   exact this
end
end Go.Proofs.YtonapijgfalpaaaGreat
namespace Go.Proofs.YtonapijgfalpaaaGreat
open Go.RowKit Go.Shelf
theorem changesRows_fr (w : World) (pa : List SV) (la : Option Addr) (ca : Nat) (pb : List SV) (lb : Option Addr) (cb : Nat) (ha : Qa w la pa ∧ (∀ x ∈ pa, WfS x.s) ∧ (la = none → ca = 0)) (hb : Qa w lb pb ∧ (∀ x ∈ pb, WfS x.s) ∧ (lb = none → cb = 0)) :
 Calls Tryz.prog 3 #[.slice la pa.length ca, .slice lb pb.length cb] w (ze5 w) :=
 Yq w la lb _ ca _ cb pa pb rfl rfl ha.1 hb.1 ha.2.1 ha.2.2 hb.2.2
end Go.Proofs.YtonapijgfalpaaaGreat
