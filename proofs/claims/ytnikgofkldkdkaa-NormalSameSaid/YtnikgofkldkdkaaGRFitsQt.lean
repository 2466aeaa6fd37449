/-
  .
-/
import Derived.Test.YtnikgofkldkdkaaVRKindsQt
set_option maxRecDepth 100000
set_option maxHeartbeats 40000000

namespace Go.Proofs.Ytnikgofkldkdkaa
open Go.RowKit
theorem jR {l:List Kd}{root:Int}{i:Nat}{x:Kd}(hx:l[i]? =some x)(h:kindOk (l.length:Int) x=false):vg ⟨l,root⟩=false:=by
 cases h2:vg ⟨l,root⟩
 · rfl
 · simp only[vg,Bool.and_eq_true,List.all_eq_true] at h2
   have:=h2.1.2 x (List.mem_of_getElem? hx)
   rw[h] at this;cases this
theorem JL:∀{l:List Kd} {i j:Nat} {x y:Kd},apart l=true→j<i→l[i]? =some x→l[j]? =some y→y.name.data.toList≠x.name.data.toList
 | [],i,_,_,_,_,_,hx,_=>by simp at hx
 | k::r,0,_,_,_,_,hj,_,_=>by omega
 | k ::r,i+1,0,x,y,h,_,hx,hy=>by
   simp only[apart,Bool.and_eq_true] at h
   simp at hx hy
   subst hy
   exact fun e=>zhB h.1 hx e.symm
 | k ::r,i+1,j+1,x,y,h,hj,hx,hy=>by
   simp only[apart,Bool.and_eq_true] at h
   exact JL h.2 (by omega:j<i) (by simpa using hx) (by simpa using hy)
theorem zhh {l:List Kd}{root:Int}{i j:Nat}{x y:Kd}(hj:j<i)(hx:l[i]? =some x)(hy:l[j]? =some y)(h:y.name.data.toList=x.name.data.toList):vg ⟨l,root⟩=false:=by
 cases h2:vg ⟨l,root⟩
 · rfl
 · simp only[vg,Bool.and_eq_true] at h2
   exact absurd h (JL h2.2 hj hx hy)
theorem Qa {n:Int}{x:Kd}{j:Nat}{s:Sl}(hs:x.slots[j]? =some s)(h:vK n s=false):kindOk n x=false:=by
 cases h2:kindOk n x
 · rfl
 · simp only[kindOk,Bool.and_eq_true,List.all_eq_true] at h2
   have:=h2.2 s (List.mem_of_getElem? hs)
   rw[h] at this;cases this
theorem zel {n:Int}{s:Sl}(h:rising n s.kinds=false):vK n s=false:=by
 cases h2:vK n s
 · rfl
 · simp only[vK,vG,Bool.and_eq_true] at h2
   rw[rising,h2.1,h2.2.1.1.1] at h;cases h
theorem zdp {n:Int}{s:Sl}(h:rising n s.kinds=true):vK n s=vG s:=by
 simp only[rising,Bool.and_eq_true] at h
 rw[vK,h.1];rfl
theorem zez {n:Int}{s:Sl}(h:rising n s.kinds=true):0<s.kinds.length:=by
 simp only[rising,Bool.and_eq_true,decide_eq_true_eq] at h
 exact h.2
theorem ZW {n:Int}{x:Kd}(h:¬(1≤x.name.size∧x.name.size≤40∧x.slots.length≤8)):kindOk n x=false:=by
 cases h2:kindOk n x
 · rfl
 · simp[kindOk,ZV] at h2
   omega
theorem zb4 {n:Int}{x:Kd}(h1:1≤x.name.size)(h2:x.name.size≤40)(h3:x.slots.length≤8)(h4:x.slots.all (vK n)=true):kindOk n x=true:=by
 simp only[kindOk,ZV];rw[decide_eq_true h1,decide_eq_true h2,decide_eq_true h3,h4];rfl
theorem vU {g:Gr}(h:vg g=false):QL (vg g)=50:=by rw[h];rfl
theorem qW {g:Gr}(h:vg g=true):QL (vg g)=0:=by rw[h];rfl
theorem zhc {f:Kd→Bool}{l:List Kd}{i:Nat}{x:Kd}(h:(l.take i).all f=true)(hx:l[i]? =some x)(hf:f x=true):(l.take (i+1)).all f=true:=by
 rw[Yi hx,List.all_append,h];simp[hf]
def ziF (w:World)(c:Array Value)(l:List Kd)(i:Value)(wr:World):Prop:=
 ∃(k:Nat),k≤l.length∧i= .int .i64 k∧wr.heap[w.heap.size]? =some (.cells c 24 (0,0))∧Below w.heap.size w wr∧(l.take k).all (kindOk l.length)=true∧apart (l.take k)=true
def zgS (W:World)(l:List Kd)(k:Nat)(nm:List UInt8)(j:Value)(wr:World):Prop:=
 ∃(m:Nat),m≤k∧j= .int .i64 m∧Below W.heap.size W wr∧fresh (l.take m) nm=true
def zgT (W:World)(l:List Sl)(n:Int)(j:Value)(wr:World):Prop:=
 ∃(m:Nat),m≤l.length∧j= .int .i64 m∧Below W.heap.size W wr∧l.all (vK n)=(l.drop m).all (vK n)
theorem Jk (w : World)(v:Value)(g:Gr)(hv:GrV w v g)(hf:g.fits):Calls Try.prog 28 #[v] w (qB (QL (vg g)) w):=by
 obtain⟨ka,kc,rfl,hk⟩:=hv
 obtain⟨l,root⟩:=g
 simp only at hk
 have hfl:(l.length:Int)≤9223372036854775807:=hf.1
 have HF:=hH (show ∀k∈l,k.fits from hf.2)
 have HK:=hH hk
 clear hf hk
 have HN:=hH (fun (h:¬(l.length≤32∧0≤root∧root<(l.length:Int)))=>vU (ziS (g:=⟨l,root⟩) h))
 by_cases h0:l.length<1
 · have h0' :(l.length:Int)<1:=by omega
   exact sg5
 have h0' :¬(l.length:Int)<1:=by omega
 by_cases h1:32<l.length
 · have h1' :(32:Int)<(l.length:Int):=by omega
   exact sg5
 have h1' :¬(32:Int)<(l.length:Int):=by omega
 by_cases h2:root<0
 · go_enter Try.func28,Try.ntmps28
   go_wp2_with fail
   go_ret
   exact qB.mk (HN.out om) (zg _ _)
 by_cases h3:(l.length:Int)≤root
 · go_enter Try.func28,Try.ntmps28
   go_wp2_with fail
   go_ret
   exact qB.mk (HN.out om) (zg _ _)
 have HY:=hH (zfS (g:=⟨l,root⟩) ue2 ue2 ue2)
 have h32:l.length≤32:=by omega
 clear HN
 go_enter Try.func28,Try.ntmps28
 go_wp2_with fail
 clear h0' h1' h2 h3 h0 h1
 go_loopw [4] (fun i wr=>ziF w #[.slice ka l.length kc,.int .i64 root] l i wr) (fun i _=>l.length - (intOf i).toNat)
 case atStart=>exact⟨0,NzlQ _,rfl,hanQ w _,zg _ _,rfl,rfl⟩
 case round =>
  obtain⟨k,hkl,rfl,hb,hbel,hall,hap⟩:=hrel
  have HB:=hH (aN hb hbel)
  have HA:=hH (aN hall hap)
  have p0:wr.cell? ⟨w.heap.size,0,none⟩=some (.slice ka l.length kc):=by rw[corQ wr _ 0 _ _ _ hb];rfl
  by_cases hlt:k<l.length
  · obtain ⟨x, hx⟩:∃x,l[k]? =some x:=⟨l[k],List.getElem?_eq_getElem hlt⟩
    have hfx:=HF.out x (List.mem_of_getElem? hx)
    obtain⟨b,off,rfl,hblt,hc⟩:=(HK.out.below hbel) om
    obtain⟨sa,sc,c0,c1,c2,hs⟩:=hc k x hx
    have HS:=hH hs
    have HX:=hH hx
    have HFX:=hH hfx.2.2
    have hs1:=hfx.1
    have hs2:=hfx.2.1
    have hkl2:(k:Int)<(l.length:Int):=by omega
    clear hx hc hs hfx hb hbel hall hap
    by_cases g1:x.name.size<1
    · have g1' :(x.name.size:Int)<1:=by omega
      exact sf7
    have g1' :¬(x.name.size:Int)<1:=by omega
    by_cases g2:40<x.name.size
    · have g2' :(40:Int)<(x.name.size:Int):=by omega
      exact sf7
    have g2' :¬(40:Int)<(x.name.size:Int):=by omega
    by_cases g3:8<x.slots.length
    · have g3' :(8:Int)<(x.slots.length:Int):=by omega
      exact sf7
    have g3' :¬(8:Int)<(x.slots.length:Int):=by omega
    go_wp2_with fail
    have hz8:x.slots.length≤8:=by omega
    clear g1' g2' g3' p0 c0 c1 c2
    obtain⟨w1,rfl⟩:∃w1,w1=wr:=⟨_,rfl⟩
    obtain⟨wo,hwo⟩:∃wo,wo=w1.alloc (.cells #[.string x.name,.bool x.text,.slice sa x.slots.length sc] 64):=⟨_,rfl⟩
    rw[←hwo]
    have HWB:=hH (show Below w1.heap.size w1 wo by rw[hwo];exact zg _ _)
    have HWK:=hH (show wo.heap[w1.heap.size]? =some (.cells #[.string x.name,.bool x.text,.slice sa x.slots.length sc] 64 (0,0)) by rw[hwo];exact hanQ _ _)
    have HWG:=hH (show wo.heap[w.heap.size]? =some (.cells #[.slice (some ⟨b,off,none⟩) l.length kc,.int .i64 root] 24 (0,0)) by rw[hwo,BhaQ _ _ _ (zS HB.out.1)];exact HB.out.1)
    have HWO:=hH (HB.out.2.trans (HWB.out.mono HB.out.2.size))
    obtain⟨kb,hkb⟩:∃kb,kb=w1.heap.size:=⟨_,rfl⟩
    rw[←hkb] at HWK
    rw[←hkb]
    clear hwo hkb
    go_loopw [6] (fun j wr=>zgS wo l k x.name.data.toList j wr) (fun j _=>k - (intOf j).toNat)
    case atStart=>exact⟨0,NzlQ _,rfl,BrQ _ _,rfl⟩
    case round =>
     obtain⟨m,hm,rfl,hbel1,hfr⟩:=hrel
     have HB1:=hH hbel1
     have HFR:=hH hfr
     have HB2:=hH (HWO.out.trans (hbel1.mono HWO.out.size))
     have q0:wr.cell? ⟨kb,0,none⟩=some (.string x.name):=by rw[corQ wr _ 0 _ _ _ ((hbel1.block _ (zS HWK.out)).trans HWK.out)];rfl
     have q2:wr.cell? ⟨kb,2,none⟩=some (.slice sa x.slots.length sc):=by rw[corQ wr _ 2 _ _ _ ((hbel1.block _ (zS HWK.out)).trans HWK.out)];rfl
     by_cases hlt1:m<k
     · obtain⟨y,hy⟩:∃y,l[m]? =some y:=⟨l[m]'om,List.getElem?_eq_getElem _⟩
       have r0:wr.cell? ⟨w.heap.size,0,none⟩=some (.slice (some ⟨b,off,none⟩) l.length kc):=by rw[corQ wr _ 0 _ _ _ ((hbel1.block _ (zS HWG.out)).trans HWG.out)];rfl
       obtain⟨b',off',he,hblt',hc'⟩:=(HK.out.below HB2.out) om
       cases he
       obtain⟨sa',sc',c0,_,_,_⟩:=hc' m y hy
       have HYY:=hH hy
       have hm2:(m:Int)<(k:Int):=by omega
       have hm3:(m:Int)<(l.length:Int):=by omega
       clear hy hc' hbel1 hfr q2
       by_cases hn:y.name.toList=x.name.toList
       · have HNN:=hH (show y.name.data.toList=x.name.data.toList by rw[←ByteArray.toList_eq,←ByteArray.toList_eq,hn])
         go_wp2_with fail
         go_quiet (fail)
         go_wp2_with fail
         go_ret
         exact qB.mk (vU (zhh om HX.out HYY.out HNN.out)) (below_drewN HB2.out _)
       · have hn2:(y.name.toList == x.name.toList)=false:=by simpa using hn
         have HNN:=hH (show y.name.data.toList≠x.name.data.toList by rw[←ByteArray.toList_eq,←ByteArray.toList_eq];exact hn)
         go_wp2_with fail
         go_quiet (fail)
         go_wp2_with fail
         exact⟨⟨m+1,by omega,by go_num,below_drewN HB1.out _,by rw[zd6 HYY.out,HFR.out,decide_eq_true HNN.out];rfl⟩,by simp[intOf];omega⟩
     · have HFF :=hH (show fresh (l.take k) x.name.data.toList=true by obtain rfl:m=k:=om;exact HFR.out)
       have hm2:¬(m:Int)<(k:Int):=by omega
       clear hbel1 hfr q0 q2 HFR
       go_wp2_with fail
       obtain⟨w3,rfl⟩:∃w3,w3=wr:=⟨_,rfl⟩
       go_loopw [7] (fun j wr=>zgT w3 x.slots l.length j wr) (fun j _=>x.slots.length - (intOf j).toNat)
       case atStart=>exact⟨0,NzlQ _,rfl,BrQ _ _,rfl⟩
       case round=>
        obtain⟨j,hj,rfl,hbel2,hall2⟩:=hrel
        have HA2:=hH hall2
        have HB3:=hH (HB2.out.trans (hbel2.mono HB2.out.size))
        have HB4:=hH hbel2
        have hbk:=(hbel2.block _ (zS ((HB1.out.block _ (zS HWK.out)).trans HWK.out))).trans ((HB1.out.block _ (zS HWK.out)).trans HWK.out)
        have q2:wr.cell? ⟨kb,2,none⟩=some (.slice sa x.slots.length sc):=by rw[corQ wr _ 2 _ _ _ hbk];rfl
        by_cases hlt2:j<x.slots.length
        · obtain⟨s,hsx⟩:∃s,x.slots[j]? =some s:=⟨x.slots[j],List.getElem?_eq_getElem hlt2⟩
          have hfs:(s.kinds.length:Int)≤9223372036854775807:=HFX.out s (List.mem_of_getElem? hsx)
          have hs' :j5 wr sa x.slots:=(HS.out.below ((HWB.out.trans (HB1.out.mono HWB.out.size)).trans (hbel2.mono (HWB.out.trans (HB1.out.mono HWB.out.size)).size)))
          obtain⟨b2,off2,rfl,hblt2,hc2⟩:=hs' om
          obtain⟨ka2,kc2,d0,d1,d2,hi⟩:=hc2 j s hsx
          have HI:=hH hi
          have HSX:=hH hsx
          have hj2:(j:Int)<(x.slots.length:Int):=by omega
          obtain⟨bb,hbb⟩:∃bb,rising (l.length:Int) s.kinds=bb:=⟨_,rfl⟩
          have HBB:=hH hbb
          clear hbel2 hall2 hbk hsx hc2 hi hbb
          cases bb
          · go_wp2_with (go_at_call 44;((with_reducible refine (jD _ _ _ _ _ om (HI.out.below (zg _ _)) hfs).mono ?_);rintro e w5 ⟨rfl,h2⟩;rw[HBB.out];have H2:=hH ((zg wr _).trans (h2.mono (zg wr _).size));clear h2))
            go_ret
            exact qB.mk (vU (jR HX.out (Qa HSX.out (zel HBB.out)))) (HB3.out.trans (H2.out.mono HB3.out.size))
          · have hso:vK (l.length:Int) s=vG s:=zdp HBB.out
            have HSO:=hH hso
            have HNO:=hH (fun (h:¬(0<s.kinds.length∧0≤s.least∧s.least≤s.most∧s.most≤1000))=>hso.trans (zdw h))
            have hpos:0<s.kinds.length:=zez HBB.out
            clear hso
            by_cases e1:s.least<0
            · go_wp2_with (go_at_call 44;((with_reducible refine (jD _ _ _ _ _ om (HI.out.below (zg _ _)) hfs).mono ?_);rintro e w5 ⟨rfl,h2⟩;rw[HBB.out];have H2:=hH ((zg wr _).trans (h2.mono (zg wr _).size));have q5:=yz h2 1 _ rfl;clear h2))
              exact sf3
            by_cases e2:s.most<s.least
            · go_wp2_with (go_at_call 44;((with_reducible refine (jD _ _ _ _ _ om (HI.out.below (zg _ _)) hfs).mono ?_);rintro e w5 ⟨rfl,h2⟩;rw[HBB.out];have H2:=hH ((zg wr _).trans (h2.mono (zg wr _).size));have q5:=yz h2 1 _ rfl;have q6:=yz h2 2 _ rfl;clear h2))
              exact sf3
            by_cases e3:1000<s.most
            · go_wp2_with (go_at_call 44;((with_reducible refine (jD _ _ _ _ _ om (HI.out.below (zg _ _)) hfs).mono ?_);rintro e w5 ⟨rfl,h2⟩;rw[HBB.out];have H2:=hH ((zg wr _).trans (h2.mono (zg wr _).size));have q5:=yz h2 1 _ rfl;have q6:=yz h2 2 _ rfl;clear h2))
              exact sf3
            have HOK:=hH (show vK (l.length:Int) s=true by rw[HSO.out,vG,decide_eq_true hpos,decide_eq_true (by omega:0≤s.least),decide_eq_true (by omega:s.least≤s.most),decide_eq_true (by omega:s.most≤1000)];rfl)
            have HSTEP:=hH (zhb HA2.out HSX.out)
            go_wp2_with (go_at_call 44;((with_reducible refine (jD _ _ _ _ _ om (HI.out.below (zg _ _)) hfs).mono ?_);rintro e w5 ⟨rfl,h2⟩;rw[HBB.out];have H2:=hH ((zg wr _).trans (h2.mono (zg wr _).size));have q5:=yz h2 1 _ rfl;have q6:=yz h2 2 _ rfl;clear h2))
            exact⟨⟨j+1,by omega,by go_num,HB4.out.trans (H2.out.mono HB4.out.size),by rw[HSTEP.out,HOK.out];rfl⟩,by simp[intOf];omega⟩
        · have HE:=hH (ziK HA2.out om)
          have hj2:¬(j:Int)<(x.slots.length:Int):=by omega
          have hwg:=(HB4.out.block _ (zS ((HB1.out.block _ (zS HWG.out)).trans HWG.out))).trans ((HB1.out.block _ (zS HWG.out)).trans HWG.out)
          have HWW:=hH hwg
          clear hbel2 hall2 hbk hwg
          go_wp2_with fail
          exact⟨⟨k+1,by omega,by go_num,HWW.out,HB3.out,zhc HA.out.1 HX.out (zb4 om om om HE.out),by rw[zdV HX.out,HA.out.2,HFF.out];rfl⟩,by simp[intOf];omega⟩
  · have hkl2:¬(k:Int)<(l.length:Int):=by omega
    have HE:=hH (show l.all (kindOk l.length)=true∧apart l=true by rw[List.take_of_length_le om] at hall hap;exact⟨hall,hap⟩)
    clear hb hbel hall hap
    go_wp2_with fail
    go_ret
    exact qB.mk (qW (by rw[HY.out,HE.out.1,HE.out.2];rfl)) HB.out.2
theorem zhw {g:Gr}(h:g.few):g.fits:=⟨by have:=h.1;omega,fun k hk=>⟨by have:=(h.2 k hk).1;omega,by have:=(h.2 k hk).2.1;omega,fun s hs=>by have:s.kinds.length≤1000000:=(h.2 k hk).2.2 s hs;show (s.kinds.length:Int)≤_;omega⟩⟩
theorem zj7 {g:Gr}(h:vg g=true):g.few:=by
 simp only[vg,zbY,Bool.and_eq_true,decide_eq_true_eq,List.all_eq_true] at h
 obtain⟨⟨⟨⟨h1,_⟩,_⟩,h2⟩,_⟩:=h
 refine⟨by omega,fun k hk=>?_⟩
 have hk2:=h2 k hk
 simp only[kindOk,ZV,Bool.and_eq_true,decide_eq_true_eq,List.all_eq_true] at hk2
 obtain⟨⟨⟨_,h3⟩,h4⟩,h5⟩:=hk2
 refine⟨by omega,by omega,fun s hs=>?_⟩
 have h6:=h5 s hs
 simp only[vK,Bool.and_eq_true] at h6
 show s.kinds.length≤1000000
 rcases zaL _ _ _ h6.1 with h7 | h7
 · rw[h7];simp
 · omega
theorem yG (w:World)(v:Value)(g:Gr)(hv:GrV w v g)(hf:g.few):Calls Try.prog 28 #[v] w (qB (QL (vg g)) w):=Jk w v g hv (zhw hf)
theorem zas {g:Gr}{n:Int}(h:vg g=false):kindOf g n=none:=by rw[kindOf,inQ (by rw[h];simp)]
theorem zat {g:Gr}{n:Int}(h:n<0):kindOf g n=none:=by rw[kindOf,inQ om]
theorem Jf {g:Gr}{n:Int}(h:(g.kinds.length:Int)≤n):kindOf g n=none:=by
 unfold kindOf;split
 · exact List.getElem?_eq_none om
 · rfl
theorem zbn {g:Gr}{j:Nat}{k:Kd}(h:vg g=true)(hk:g.kinds[j]? =some k):kindOf g (j:Int)=some k:=by
 rw[kindOf,ipQ ⟨h,by omega⟩];simpa using hk
theorem zgo (w:World)(v:Value)(g:Gr)(n:Int)(s:ByteArray)(hv:GrV w v g)(hf:g.few)(hs:(s.size:Int)≤9223372036854775807):Calls Try.prog 66 #[v,.int .i64 n,.string s] w (Says (zaX (kindOf g n) s) w):=by
 obtain⟨ka,kc,rfl,hk⟩:=hv
 obtain⟨l,root⟩:=g
 simp only at hk
 have hfl:l.length≤1000000:=hf.1
 have HF:=hH hf
 have HK:=hH hk
 obtain⟨bb,hbb⟩:∃bb,vg ⟨l,root⟩=bb:=⟨_,rfl⟩
 have HBB:=hH hbb
 clear hf hk hbb
 cases bb
 · go_enter Try.func66,Try.ntmps66
   exact sd7
 · by_cases h1:n<0
   · go_enter Try.func66,Try.ntmps66
     exact sd9
   by_cases h2:(l.length:Int)≤n
   · go_enter Try.func66,Try.ntmps66
     exact sd5
   obtain⟨j,rfl⟩:∃j:Nat,n=(j:Int):=⟨n.toNat,by omega⟩
   obtain⟨k,hx⟩:∃x,l[j]? =some x:=⟨l[j]'om,List.getElem?_eq_getElem _⟩
   have HO:=hH (zbn (g:=⟨l,root⟩) HBB.out hx)
   obtain⟨b,off,rfl,hblt,hc⟩:=HK.out om
   obtain⟨sa,sc,_,c1,_,_⟩:=hc j k hx
   have HC:=hH c1
   have hj2:(j:Int)<(l.length:Int):=by omega
   clear hx hc c1 h1 h2
   obtain⟨nm,tx,sl⟩:=k
   by_cases he:s.toList.isEmpty=true
   · have he2:s.toList= []:=by simpa using he
     have HV:=hH (show zaX (kindOf ⟨l,root⟩ (j:Int)) s=true by rw[HO.out];simp[zaX,he2])
     go_enter Try.func66,Try.ntmps66
     exact sd6
   · have he1:s.toList.isEmpty=false:=by simpa using he
     have he2:¬s.toList= []:=by simpa using he
     have HV:=hH (show zaX (kindOf ⟨l,root⟩ (j:Int)) s=(tx && decide (s.size≤40)) by rw[HO.out,zaX,he1];rfl)
     clear he
     cases tx
     · go_enter Try.func66,Try.ntmps66
       go_wp2_with (go_at_call 28;((with_reducible refine (yG _ _ _ (grV (HK.out.below (zg _ _))) HF.out).mono ?_);rintro e w2 ⟨rfl,h2⟩;rw[qW HBB.out];have H2:=hH ((zg w _).trans (h2.mono (zg w _).size));have p0:=yz h2 0 _ rfl;have d1:=(H2.out.cell hblt).trans HC.out;clear h2))
       go_ret
       exact Says.mk HV.out H2.out
     · by_cases h4:s.size≤40
       · have h4' :(s.size:Int)≤40:=by omega
         go_enter Try.func66,Try.ntmps66
         go_wp2_with (go_at_call 28;((with_reducible refine (yG _ _ _ (grV (HK.out.below (zg _ _))) HF.out).mono ?_);rintro e w2 ⟨rfl,h2⟩;rw[qW HBB.out];have H2:=hH ((zg w _).trans (h2.mono (zg w _).size));have p0:=yz h2 0 _ rfl;have d1:=(H2.out.cell hblt).trans HC.out;clear h2))
         go_ret
         exact Says.mk (by rw[HV.out,decide_eq_true h4];rfl) H2.out
       · have h4' :¬(s.size:Int)≤40:=by omega
         go_enter Try.func66,Try.ntmps66
         go_wp2_with (go_at_call 28;((with_reducible refine (yG _ _ _ (grV (HK.out.below (zg _ _))) HF.out).mono ?_);rintro e w2 ⟨rfl,h2⟩;rw[qW HBB.out];have H2:=hH ((zg w _).trans (h2.mono (zg w _).size));have p0:=yz h2 0 _ rfl;have d1:=(H2.out.cell hblt).trans HC.out;clear h2))
         go_ret
         exact Says.mk (by rw[HV.out,decide_eq_false h4];first | rfl | (rw[decide_eq_false om];rfl)) H2.out
def Zt (m:Nat)(f:Nat→Bool):Array Value:=((List.range m).map fun j=>Value.bool (f j)).toArray
theorem jO (m:Nat)(f:Nat→Bool):(Zt m f).size=m:=by simp[Zt]
theorem kF (m:Nat)(f:Nat→Bool)(j:Nat)(h:j<m):(Zt m f)[j]? =some (.bool (f j)):=by simp[Zt,h]
theorem zif {m:Nat}{f g:Nat→Bool}(h:∀j,j<m→f j=g j):Zt m f=Zt m g:=by
 apply Array.ext_getElem?
 intro j
 by_cases hj:j<m
 · rw[kF _ _ j hj,kF _ _ j hj,h j hj]
 · rw[Array.getElem?_eq_none (by rw[jO];omega),Array.getElem?_eq_none (by rw[jO];omega)]
theorem zdq (m:Nat)(f:Nat→Bool)(i:Nat):(Zt m f).setIfInBounds i (.bool true)=Zt m (fun j=>if j=i then true else f j):=by
 apply Array.ext_getElem?
 intro j
 by_cases hj:j<m
 · rw[kF _ _ j hj,Array.getElem?_setIfInBounds]
   by_cases e:i=j
   · subst e;rw[ipQ rfl,ipQ (by rw[jO];exact hj),ipQ rfl]
   · rw[inQ e,kF _ _ j hj,inQ (fun h=>e h.symm)]
 · rw[Array.getElem?_eq_none (by simp[jO];omega),Array.getElem?_eq_none (by rw[jO];omega)]
theorem zeB (m:Nat)(f:Nat→Bool):(Zt (m+1) f)[0]? =some (.bool (f 0)):=kF _ _ 0 om
theorem zgj (m:Nat):(Zt m noF).setIfInBounds 0 (.bool true)=Zt m Yu:=by rw[zdq];exact zif fun j _=>by by_cases e:j=0<;>simp[Yu,noF,e]
attribute [local go_sem] zeB zgj jO
theorem zcZ (W:World)(k:Nat)(h:k≤1000):(Instr.makeSlice 158 (.int .i64 ((k:Int)+1)) (.int .i64 ((k:Int)+1))).run Try.prog W= .ok (.slice (some ⟨W.heap.size,0,none⟩) (k+1) (k+1)) (W.alloc (.cells (Zt (k+1) noF) 4)):=by
 have hi4:(Try.prog.info? 4).map (fun i=>(i.zero,i.size,i.bytes))=some (some (.bool false),1,1):=by kernel_rfl
 obtain⟨i0,hi,hx⟩:=Option.map_eq_some_iff.1 hi4
 simp only[Prod.mk.injEq] at hx
 obtain⟨hz0,hz1,hz2⟩:=hx
 have e:((k:Int)+1).toNat=k+1:=by omega
 have hr:=run_makeSlice (P:=Try.prog) W 158 4 i0 (.bool false) Try.underlying158 hi hz0 .i64 .i64 ((k:Int)+1) ((k:Int)+1) om om (by rw[hz1];omega) (by rw[hz2];omega) om
 rw[hr,e,hz1]
 have e2:madeCells ((.bool false:Value).cells) ((k+1)*1)=Zt (k+1) noF:=by
  simp only[madeCells,Zt,noF,Value.cells]
  apply Array.ext sp1
  intro i h1 h2
  simp[Nat.mod_one]
 rw[e2]
structure Zz (B C N:Nat) (L:Nat) (w:World) (T f:Nat→Bool) (wr:World):Prop where
 from_:wr.heap[C]? =some (.cells (Zt (L+1) T) 4 (0,0))
 next:wr.heap[N]? =some (.cells (Zt (L+1) f) 4 (0,0))
 lt:C<N
 ge:B≤C
 below:Below B w wr
theorem Zz.set {B C N L:Nat}{w wr:World}{T f:Nat→Bool}(h:Zz B C N L w T f wr)(i:Nat):Zz B C N L w T (fun j=>if j=i then true else f j) (wr.setCell ⟨N,i,none⟩ (.bool true)):=by
 have h1:=h.lt
 have h2:=h.ge
 exact⟨by rw[BhsQ _ _ _ _ (by show C≠N;omega)];exact h.from_,by rw[hssQ _ N i _ _ _ h.next,zdq],h1,h2,h.below.setCell (by show B≤N;omega) _⟩
theorem Zz.more {B C N L:Nat}{w wr w' :World}{T f:Nat→Bool}(h:Zz B C N L w T f wr)(hb:Below wr.heap.size wr w'):Zz B C N L w T f w':=
 ⟨(hb.block _ (zS h.from_)).trans h.from_,(hb.block _ (zS h.next)).trans h.next,h.lt,h.ge,h.below.trans (hb.mono (NltQ h.ge (Nat.le_of_lt (zS h.from_))))⟩
theorem Zz.drewN {B C N L:Nat}{w wr:World}{T f:Nat→Bool}(h:Zz B C N L w T f wr)(n:Nat):Zz B C N L w T f (wr.drewN n):=h.more (below_drewN (BrQ _ _) n)
def zgW (w:World)(kids:List Int)(l:List Sl)(i v:Value)(wr:World):Prop:=
 ∃(k C:Nat) (T:Nat→Bool),k≤l.length∧i= .int .i64 k∧v= .slice (some ⟨C,0,none⟩) (kids.length+1) (kids.length+1)∧wr.heap[C]? =some (.cells (Zt (kids.length+1) T) 4 (0,0))∧w.heap.size≤C∧Below w.heap.size w wr∧T=J5 kids (l.take k)
def ziG (w:World)(C N:Nat)(kids:List Int)(s:Sl)(T:Nat→Bool)(g:Nat)(i:Value)(wr:World):Prop:=
 ∃(k:Nat) (f:Nat→Bool),k+g=kids.length+1∧i= .int .i64 k∧Zz w.heap.size C N kids.length w T f wr∧FP kids s T k f
def ziH (w:World)(C N:Nat)(kids:List Int)(s:Sl)(T:Nat→Bool)(k:Nat)(g:Nat)(i:Value)(wr:World):Prop:=
 ∃(n:Nat) (f:Nat→Bool),(n:Int)+(g:Int)=s.most+1∧i= .int .i64 n∧k+n≤kids.length+1∧Zz w.heap.size C N kids.length w T f wr∧FI kids s T k n f∧∀i,k≤i→i+1<k+n→zaE kids s.kinds i=true
theorem zgf (w : World)(v:Value)(g:Gr)(n:Int)(a:Option Addr)(cap:Nat)(kids:List Int)(hv:GrV w v g)(hf:g.few)(h:vP w a kids)(hl:kids.length≤1000000):
 Calls Try.prog 67 #[v,.int .i64 n,.slice a kids.length cap] w (Says (Ja (kindOf g n) kids) w):=by
 obtain⟨ka,kc,rfl,hk⟩:=hv
 obtain⟨l,root⟩:=g
 simp only at hk
 have hfl:l.length≤1000000:=hf.1
 have HF:=hH hf
 have HK:=hH hk
 have HA:=hH h
 obtain⟨bb,hbb⟩:∃bb,vg ⟨l,root⟩=bb:=⟨_,rfl⟩
 have HBB:=hH hbb
 clear hk hbb h
 cases bb
 · clear hf
   go_enter Try.func67,Try.ntmps67
   exact sd7
 by_cases h1:n<0
 · clear hf
   go_enter Try.func67,Try.ntmps67
   exact sd9
 by_cases h2:(l.length:Int)≤n
 · clear hf
   go_enter Try.func67,Try.ntmps67
   exact sd5
 obtain⟨j,rfl⟩:∃j:Nat,n=(j:Int):=⟨n.toNat,by omega⟩
 obtain⟨k,hx⟩:∃x,l[j]? =some x:=⟨l[j]'om,List.getElem?_eq_getElem _⟩
 have ho:=zbn (g:=⟨l,root⟩) HBB.out hx
 have HO:=hH ho
 obtain⟨h8,_⟩:=zhZ ho
 have HS3:=hH (zh0 ho hf)
 obtain⟨b,off,rfl,hblt,hc⟩:=HK.out om
 obtain⟨sa,sc,_,_,c2,hs⟩:=hc j k hx
 have HC:=hH c2
 have HS:=hH hs
 have hj2:(j:Int)<(l.length:Int):=by omega
 obtain⟨nm,tx,sl⟩:=k
 simp only at h8 HC HS HS3
 clear hx hc c2 h1 h2 ho hs hf
 by_cases h200:200<kids.length
 · have h200' :(200:Int)<(kids.length:Int):=by omega
   have HV:=hH (show Ja (kindOf ⟨l,root⟩ (j:Int)) kids=false by rw[HO.out,Ja,decide_eq_false om];rfl)
   go_enter Try.func67,Try.ntmps67
   exact sd6
 have h200' :¬(200:Int)<(kids.length:Int):=by omega
 have HV:=hH (show Ja (kindOf ⟨l,root⟩ (j:Int)) kids=J5 kids sl kids.length by rw[HO.out,Ja,decide_eq_true om];rfl)
 have hmk:=fun W=>zcZ W kids.length om
 have hj0:decide ((j:Int)<0)=false:=by rw[decide_eq_false];omega
 have hj4:decide (l.length≤j)=false:=by rw[decide_eq_false];omega
 have hj5:decide ((200:Int)<(kids.length:Int))=false:=by rw[decide_eq_false];omega
 have hk0:(0:Int)<(kids.length:Int)+1:=by omega
 go_enter Try.func67,Try.ntmps67
 go_wp2_with (go_at_call 28;((with_reducible refine (yG _ _ _ (grV (HK.out.below (zg _ _))) HF.out).mono ?_);rintro e w2 ⟨rfl,h2⟩;rw[qW HBB.out];have H2:=hH ((zg w _).trans (h2.mono (zg w _).size));have hz:w.heap.size<w2.heap.size:=(by have:=h2.size;simp at this;omega);have p0:=yz h2 0 _ rfl;have d2:=(H2.out.cell hblt).trans HC.out;have hbz:=nL hblt H2.out.size;clear h2))
 clear hmk p0 d2 hz hbz
 have HROW:=hH (show zgW w kids sl (.int .i64 0) (.slice (some ⟨w2.heap.size,0,none⟩) (kids.length+1) (kids.length+1)) (w2.alloc (.cells (Zt (kids.length+1) Yu) 4)) from
  ⟨0,w2.heap.size,Yu,NzlQ _,rfl,rfl,hanQ _ _,H2.out.size,H2.out.alloc H2.out.size _,rfl⟩)
 have hmk:=fun W=>zcZ W kids.length om
 have HMK:=hH hmk
 clear hmk hj0 hk0 hj4 hj5
 go_loopw [7,9] (fun v i wr=>zgW w kids sl i v wr) (fun _ i _=>sl.length - (intOf i).toNat)
 case atStart=>exact HROW.out
 case round =>
  obtain⟨k,C,T,hkl,rfl,rfl,hb,hC,hbel,hT⟩:=hrel
  have HB:=hH (aN hb hbel)
  have HT:=hH hT
  by_cases hlt:k<sl.length
  case neg=>
   obtain rfl:k=sl.length:=by omega
   have c0:=cell0 hb kids.length (kF _ _ _ om)
   have HE:=hH (show J5 kids sl kids.length=T kids.length by rw[hT,List.take_of_length_le (NlrQ _)])
   obtain⟨bb,hbb⟩:∃bb,bb=T kids.length:=⟨_,rfl⟩
   rw[←hbb] at c0
   have HBB2:=hH hbb
   have hkl2:¬(sl.length:Int)<(sl.length:Int):=by omega
   clear hb hbel hT hbb hlt
   go_wp2_with fail
   go_ret
   exact Says.mk (by rw[HV.out,HE.out,←HBB2.out]) HB.out.2
  obtain⟨s,hx⟩:∃s,sl[k]? =some s:=⟨sl[k],List.getElem?_eq_getElem hlt⟩
  obtain⟨hs0,hs1,hs2,hs3⟩:=HS3.out s (List.mem_of_getElem? hx)
  have HFEW:=hH hs0
  have HSTEP:=hH (zfQ (kids:=kids) hx)
  have hkl2:(k:Int)<(sl.length:Int):=by omega
  have HX:=hH hx
  have hmk:=HMK.out
  clear hx hb hbel hT hs0
  obtain⟨si,lo,hi⟩:=s
  simp only at hs1 hs2 hs3
  go_wp2_with fail
  clear hmk
  have HNEW:=hH (show Zz w.heap.size C wr.heap.size kids.length w T noF (wr.alloc (.cells (Zt (kids.length+1) noF) 4)) from
   ⟨by rw[BhaQ _ _ _ (zS HB.out.1)];exact HB.out.1,hanQ _ _,zS HB.out.1,hC,HB.out.2.alloc HB.out.2.size _⟩)
  obtain⟨w3,rfl⟩:∃w3,w3=wr:=⟨_,rfl⟩
  obtain⟨N,hN⟩:∃N,N=w3.heap.size:=⟨_,rfl⟩
  rw[←hN] at HNEW
  rw[←hN]
  clear hN
  go_loopg [11] (kids.length+1) (fun g i wr=>ziG w C N kids ⟨si,lo,hi⟩ T g i wr)
  case atStart=>exact⟨0,noF,by omega,rfl,HNEW.out,FP.start _ _ _⟩
  case round =>
   obtain⟨k2,f,hkg,rfl,hR,hFP⟩:=hrel
   have HR:=hH hR
   have HFP:=hH hFP
   cases gk with
   | zero=>
     obtain rfl:k2=kids.length+1:=by omega
     have HFE:=hH hFP.all
     have hk3:¬(kids.length:Int)+1≤(kids.length:Int):=by omega
     clear hR hFP
     go_wp2_with fail
     exact⟨⟨k+1,N,f,by omega,by go_num,rfl,HR.out.next,by have:=HR.out.lt;omega,HR.out.below,by rw[HFE.out,HSTEP.out,←HT.out]⟩,by simp[intOf];omega⟩
   | succ g =>
     have hk3:(k2:Int)≤(kids.length:Int):=by omega
     have c0:=cell0 hR.from_ k2 (kF _ _ _ om)
     have hk4:(k2:Int)<(kids.length:Int)+1:=by omega
     obtain⟨bb,hbb⟩:∃bb,bb=T k2:=⟨_,rfl⟩
     rw[←hbb] at c0
     have HTB:=hH hbb
     clear hR hFP hbb
     cases bb
     · go_wp2_with fail
       go_roundg g
       case measure=>omega
       case rel=>exact⟨k2+1,f,by omega,by go_num,HR.out,HFP.out.skip HTB.out.symm⟩
     · go_wp2_with fail
       clear c0
       obtain⟨w4,rfl⟩:∃w4,w4=wr:=⟨_,rfl⟩
       go_loopg [12] (hi+1).toNat (fun g2 i wr=>ziH w C N kids ⟨si,lo,hi⟩ T k2 g2 i wr)
       case atStart=>exact⟨0,f,by simp only;omega,rfl,by omega,HR.out,FI.start HFP.out,fun i h1 h2=>by omega⟩
       case round =>
        obtain⟨n,f2,hng,rfl,hkn,hR2,hFI,hown⟩:=hrel
        simp only at hng hown
        have HR2:=hH hR2
        have HFI:=hH hFI
        have HOWN:=hH hown
        obtain⟨b2,off2,rfl,hbz2,hc2⟩:=(HS.out.below hR2.below) om
        obtain⟨ka2,kc2,d0,d1,d2,hii⟩:=hc2 k _ HX.out
        simp only at d0 d1 d2 hii
        have HI:=hH hii
        clear hc2 hii
        cases gk with
        | zero=>
          have hn1:¬(n:Int)≤hi:=by omega
          have HD:=hH (HFI.out.done (N:=n) om HTB.out.symm (fun i h3 h4=>HOWN.out i h3 h4) ue2 (Or.inl ue2))
          exact sh1
        | succ g2 =>
          have hn1:(n:Int)≤hi:=by omega
          by_cases hle:k2+n≤kids.length
          case neg=>
           have hle2:¬(k2:Int)+(n:Int)≤(kids.length:Int):=by omega
           have HD:=hH (HFI.out.done (N:=n) om HTB.out.symm (fun i h3 h4=>HOWN.out i h3 h4) ue2 (Or.inr ⟨by omega,zbv om⟩))
           exact sh1
          have hle2:(k2:Int)+(n:Int)≤(kids.length:Int):=by omega
          have hle3:(k2:Int)+(n:Int)<(kids.length:Int)+1:=by omega
          have hNz:N<wr.heap.size:=zS hR2.next
          have dN:=cell0 hR2.next (k2+n) (kF _ _ _ om)
          have dF:wr.frozen? ⟨N,k2+n,none⟩=false:=forQ wr _ _ _ _ hR2.next
          by_cases hn0:n=0
          · have HNX:=hH (show ∀i,k2≤i→i+1<k2+(n+1)→zaE kids si i=true from fun i h3 h4=>by omega)
            have hn2:decide ((0:Int)<(n:Int))=false:=by rw[decide_eq_false];omega
            have hn3:decide (0<n)=false:=by rw[decide_eq_false];omega
            have HN0:=hH hn0
            clear hR2 hFI hown hn0
            go_wp2_with fail
            go_quiet (fail)
            by_cases hlo:lo≤(n:Int)
            · go_wp2_with fail
              go_roundg g2
              case measure=>omega
              case rel=>exact⟨n+1,_,by simp only;omega,by go_num,by omega,(HR2.out.drewN _).set (k2+n),HFI.out.put (n:=n) hlo,HNX.out⟩
            · go_wp2_with fail
              go_roundg g2
              case measure=>omega
              case rel=>exact⟨n+1,_,by simp only;omega,by go_num,by omega,HR2.out.drewN _,HFI.out.skip (n:=n) ue2,HNX.out⟩
          · obtain⟨p,hp⟩:∃p,p=k2+n - 1:=⟨_,rfl⟩
            obtain⟨x,hxk⟩:∃x,kids[p]? =some x:=⟨kids[p]'om,List.getElem?_eq_getElem _⟩
            obtain⟨ab,ao,rfl,habz,hca⟩:=(HA.out.below hR2.below) om
            have cx:=hca p x hxk
            have hpi:(k2:Int)+(n:Int) - 1=(p:Int):=by omega
            have hpl:(p:Int)<(kids.length:Int):=by omega
            have hn2:decide ((0:Int)<(n:Int))=true:=by rw[decide_eq_true];omega
            have hn3:decide (0<n)=true:=by rw[decide_eq_true];omega
            obtain⟨bx,hbx⟩:∃bx,vC si x=bx:=⟨_,rfl⟩
            have HBX:=hH hbx
            have HOB:=hH (show zaE kids si (k2+n - 1)=bx by rw[←hp,QW hxk,hbx])
            have HD1:=hH d1
            have HDN:=hH (aN dN dF)
            have HN0:=hH (aN hn0 hp)
            obtain⟨W,hW⟩:∃W,W=wr.drew:=⟨_,rfl⟩
            have HWE:=hH hW
            have hWb:Below wr.heap.size wr W:=by rw[hW];exact below_drewN (BrQ _ _) 1
            have HWB:=hH hWb
            have HIW:=hH (HI.out.below hWb)
            have d0':=(hWb.cell (p:=⟨b2,off2+k*3,none⟩) hbz2).trans d0
            have d1':=(hWb.cell (p:=⟨b2,off2+k*3+1,none⟩) hbz2).trans d1
            have d2':=(hWb.cell (p:=⟨b2,off2+k*3+2,none⟩) hbz2).trans d2
            have cx':=(hWb.cell (p:=⟨ab,ao+p,none⟩) habz).trans cx
            have wr1:IntKind.i64.wrap ((k2:Int)+(n:Int))=(k2:Int)+(n:Int):=IntWalk.i64_in _ om
            have wr3:IntKind.i64.wrap (p:Int)=(p:Int):=IntWalk.i64_in _ om
            clear hR2 hFI hown hca hxk hbx hn0 hp hW hWb
            cases bx
            · have HD:=hH (HFI.out.done (N:=n) om HTB.out.symm (fun i h3 h4=>HOWN.out i h3 h4) ue2 (Or.inr ⟨by have:=HN0.out.1;omega,HOB.out⟩))
              go_wp2_with fail
              have hdr:({ heap:=wr.heap,tape:=wr.tape,drawn:=wr.drawn+1,os:=wr.os,output:=wr.output }:World)=W:=HWE.out.symm
              refine wp_region_still_tail 14 kr1 kr1 ?_
              simp only[List.take_succ_cons,List.take_zero,List.drop_succ_cons,List.drop_zero]
              rw[hdr]
              clear hdr
              repeat still_step
              try refine wpStill_nil ?_
              clear wr1 wr3
              go_wp2_with (go_at_call 100;((with_reducible refine (zb7 _ _ ⟨si,lo,hi⟩ x (zio (s:=⟨si,lo,hi⟩) HIW.out) HFEW.out).mono ?_);rintro e w5 ⟨rfl,h5⟩;rw[HBX.out];have H5:=hH (HWB.out.trans (h5.mono HWB.out.size));have e1:=(H5.out.cell hbz2).trans HD1.out;have e2:=(H5.out.cell (p:=⟨N,k2+n,none⟩) hNz).trans HDN.out.1;have e3:=(H5.out.frozen (p:=⟨N,k2+n,none⟩) hNz).trans HDN.out.2;have hz5:wr.heap.size≤w5.heap.size:=H5.out.size;have hz6:b2<w5.heap.size:=om;have hz7:N<w5.heap.size:=om;clear h5))
              go_roundg g
              case measure=>omega
              case rel=>exact⟨k2+1,f2,by omega,by go_num,HR2.out.more H5.out,HD.out⟩
            · have HNX:=hH (show ∀i,k2≤i→i+1<k2+(n+1)→zaE kids si i=true from fun i h3 h4=>by by_cases e:i=k2+n - 1;exact e▸HOB.out;exact HOWN.out i h3 om)
              by_cases hlo:lo≤(n:Int)
              · go_wp2_with fail
                have hdr:({ heap:=wr.heap,tape:=wr.tape,drawn:=wr.drawn+1,os:=wr.os,output:=wr.output }:World)=W:=HWE.out.symm
                refine wp_region_still_tail 14 kr1 kr1 ?_
                simp only[List.take_succ_cons,List.take_zero,List.drop_succ_cons,List.drop_zero]
                rw[hdr]
                clear hdr
                repeat still_step
                try refine wpStill_nil ?_
                clear wr1 wr3
                go_wp2_with (go_at_call 100;((with_reducible refine (zb7 _ _ ⟨si,lo,hi⟩ x (zio (s:=⟨si,lo,hi⟩) HIW.out) HFEW.out).mono ?_);rintro e w5 ⟨rfl,h5⟩;rw[HBX.out];have H5:=hH (HWB.out.trans (h5.mono HWB.out.size));have e1:=(H5.out.cell hbz2).trans HD1.out;have e2:=(H5.out.cell (p:=⟨N,k2+n,none⟩) hNz).trans HDN.out.1;have e3:=(H5.out.frozen (p:=⟨N,k2+n,none⟩) hNz).trans HDN.out.2;have hz5:wr.heap.size≤w5.heap.size:=H5.out.size;have hz6:b2<w5.heap.size:=om;have hz7:N<w5.heap.size:=om;clear h5))
                go_roundg g2
                case measure=>omega
                case rel=>exact⟨n+1,_,by simp only;omega,by go_num,by omega,(HR2.out.more H5.out).set (k2+n),HFI.out.put (n:=n) hlo,HNX.out⟩
              · go_wp2_with fail
                have hdr:({ heap:=wr.heap,tape:=wr.tape,drawn:=wr.drawn+1,os:=wr.os,output:=wr.output }:World)=W:=HWE.out.symm
                refine wp_region_still_tail 14 kr1 kr1 ?_
                simp only[List.take_succ_cons,List.take_zero,List.drop_succ_cons,List.drop_zero]
                rw[hdr]
                clear hdr
                repeat still_step
                try refine wpStill_nil ?_
                clear wr1 wr3
                go_wp2_with (go_at_call 100;((with_reducible refine (zb7 _ _ ⟨si,lo,hi⟩ x (zio (s:=⟨si,lo,hi⟩) HIW.out) HFEW.out).mono ?_);rintro e w5 ⟨rfl,h5⟩;rw[HBX.out];have H5:=hH (HWB.out.trans (h5.mono HWB.out.size));have e1:=(H5.out.cell hbz2).trans HD1.out;have e2:=(H5.out.cell (p:=⟨N,k2+n,none⟩) hNz).trans HDN.out.1;have e3:=(H5.out.frozen (p:=⟨N,k2+n,none⟩) hNz).trans HDN.out.2;have hz5:wr.heap.size≤w5.heap.size:=H5.out.size;have hz6:b2<w5.heap.size:=om;have hz7:N<w5.heap.size:=om;clear h5))
                go_roundg g2
                case measure=>omega
                case rel=>exact⟨n+1,_,by simp only;omega,by go_num,by omega,HR2.out.more H5.out,HFI.out.skip (n:=n) ue2,HNX.out⟩
end Go.Proofs.Ytnikgofkldkdkaa
