/-
  .
-/
import Derived.Test.YtgkmmnihaiopaaaGreatGWideQu
import Derived.Test.YtgkmmnihaiopaaaGreatRGreatXQu
import Derived.Test.YtgkmmnihaiopaaaGreatJPgQu
import Derived.Test.YtgkmmnihaiopaaaGreatJPsQu
set_option maxRecDepth 100000
set_option maxHeartbeats 40000000

namespace Go.Proofs.YtgkmmnihaiopaaaGreat
open Go.RowKit Go.Maps
def ziV (w:World) (c:Array Value) (n:Int) (l:List Kd) (i:Value) (wr:World):Prop:=
 ∃(k:Nat),k≤l.length∧i= .int .i64 k∧wr.heap[w.heap.size]? =some (.cells c 24 (0,0))∧Below w.heap.size w wr∧l.all (kindOk n)=(l.drop k).all (kindOk n)
theorem zeC {g:Gr} (h:¬(g.kinds.length≤32∧0≤g.root∧g.root<(g.kinds.length:Int))):qz g=false:=by
 cases h2:qz g
 · rfl
 · simp[qz,zdP] at h2
   omega
theorem za1 {g:Gr} (h1:g.kinds.length≤32) (h2:0≤g.root) (h3:g.root<(g.kinds.length:Int)):qz g=(g.kinds.all (kindOk g.kinds.length) && apart g.kinds):=by
 simp only[qz,zdP];rw[decide_eq_true h1,decide_eq_true h2,decide_eq_true h3];rfl
theorem Z0 (w :World) (v:Value) (g:Gr) (hv:GrV w v g) (hf:g.few):Calls Tryz.prog 81 #[v] w (Says (qz g) w):=by
 obtain⟨ka,kc,rfl,hk⟩:=hv
 obtain⟨l,root⟩:=g
 simp only at hk ⊢
 have hfl:l.length≤1000000:=hf.1
 have HF:=hH hf.2
 have HK:=hH hk
 clear hf hk
 have HN:=hH (fun (h:¬(l.length≤32∧0≤root∧root<(l.length:Int)))=>zeC (g:=⟨l,root⟩) h)
 by_cases h1:32<l.length
 · have h1' :(32:Int)<(l.length:Int):=by omega
   go_enter Tryz.func81,Tryz.ntmps81
   go_wp2_with fail
   go_ret
   exact Says.mk (HN.out om) (zh _ _)
 · have h1' : ¬(32:Int)<(l.length:Int):=by omega
   by_cases h2:root<0
   · go_enter Tryz.func81,Tryz.ntmps81
     go_wp2_with fail
     go_ret
     exact Says.mk (HN.out om) (zh _ _)
   · by_cases h3:(l.length:Int)≤root
     · go_enter Tryz.func81,Tryz.ntmps81
       go_wp2_with fail
       go_ret
       exact Says.mk (HN.out om) (zh _ _)
     · have HY:=hH (za1 (g:=⟨l,root⟩) (by simp only;omega) (by simp only;omega) (by simp only;omega))
       clear HN
       go_enter Tryz.func81,Tryz.ntmps81
       go_wp2_with fail
       go_loopw [25] (fun i wr=>ziV w #[.slice ka l.length kc,.int .i64 root] l.length l i wr) (fun i _=>l.length - (intOf i).toNat)
       case atStart=>exact⟨0,Nat.zero_le _,rfl,hanQ w _,zh _ _,rfl⟩
       case round=>
        obtain⟨k,hkl,rfl,hb,hbel,hany⟩:=hrel
        have HB:=hH (aN hb hbel)
        have HA:=hH hany
        by_cases hlt:k<l.length
        · obtain⟨x,hx⟩:∃x,l[k]? =some x:=⟨l[k],List.getElem?_eq_getElem hlt⟩
          have hfs:=HF.out x (List.mem_of_getElem? hx)
          obtain⟨b,off,rfl,hblt,hc⟩:=(HK.out.below hbel) om
          obtain⟨sa,sc,d0,d1,d2,hi⟩:=hc k x hx
          have HI:=hH (aN hi hfs)
          obtain⟨bb,hbb⟩:∃bb,kindOk (l.length:Int) x=bb:=⟨_,rfl⟩
          have HX:=hH ((JA HA.out hx).trans (by rw[hbb]))
          have HBB:=hH hbb
          have hkl2:(k:Int)<(l.length:Int):=by omega
          clear hx hc hi hfs hbb hb hbel hany
          cases bb
          · go_wp2_with (go_at_call 100;((with_reducible refine (zcJ _ _ x _ (ziH (HI.out.1.below (zh _ _))) HI.out.2).mono ?_);rintro e w2 ⟨rfl,h2⟩;rw[HBB.out];have H2:=hH ((zh wr _).trans (h2.mono (zh wr _).size));clear h2))
            go_ret
            exact Says.mk (by rw[HY.out,HX.out];rfl) (HB.out.2.trans (H2.out.mono HB.out.2.size))
          · go_wp2_with (go_at_call 100;((with_reducible refine (zcJ _ _ x _ (ziH (HI.out.1.below (zh _ _))) HI.out.2).mono ?_);rintro e w2 ⟨rfl,h2⟩;rw[HBB.out];have H2:=hH ((zh wr _).trans (h2.mono (zh wr _).size));clear h2))
            exact⟨⟨k+1,by omega,by go_num,(H2.out.block _ (zP HB.out.1)).trans HB.out.1,HB.out.2.trans (H2.out.mono HB.out.2.size),by rw[HX.out];rfl⟩,by simp[intOf];omega⟩
        · have HE:=hH (zbo HA.out om)
          have p0:wr.cell? ⟨w.heap.size,0,none⟩=some (.slice ka l.length kc):=by rw[corQ wr _ 0 _ _ _ hb];rfl
          have hkl2:¬(k:Int)<(l.length:Int):=by omega
          have HKW:=hH (HK.out.below hbel)
          clear hb hbel hany
          go_wp2_with (first
           | (go_at_call 101;((with_reducible refine (zd9 _ _ _ l HKW.out hfl HF.out).mono ?_);rintro e w2 ⟨D,mb,rfl,hmb,hown,h2,hpl⟩;have H2:=hH h2;have HP:=hH hpl;have HO:=hH hown;clear h2 hpl hown))
           | (at_len;(refine wpList_len_own _ rfl _ 142 rfl 9 3 Tryz.underlying142 _ mb _ D rfl HO.out ?_);obtain⟨sz,hsz⟩:∃sz,sz=Maps.size D:=⟨_,rfl⟩;rw[←hsz];have HZ:=hH hsz;clear hsz))
          go_ret
          refine Says.mk ?_ (HB.out.2.trans (H2.out.mono HB.out.2.size))
          have hall:=HP.out.size
          rw[List.take_of_length_le (Nat.le_refl _),←HZ.out] at hall
          rw[HY.out,HE.out]
          cases hap:apart l
          · have:¬sz=l.length:=fun h=>by rw[hall.1 h] at hap;cases hap
            simp;omega
          · have:=hall.2 hap
            simp;omega
def kY (b:Bool):Int:=if b then 0 else 50
theorem yj {w w2:World} {cs:Array Value} {t:TypeId} (h:Below (w.alloc (.cells cs t)).heap.size (w.alloc (.cells cs t)) w2) (j:Nat) (v:Value) (hv:cs[j]? =some v):w2.cell? ⟨w.heap.size,j,none⟩=some v:=by
 rw[World.cell?_of_block (h.block w.heap.size sp1),corQ _ _ j _ _ _ (hanQ w _)];exact hv
theorem zaW (w:World) (v:Value) (g:Gr) (hv:GrV w v g) (hf:g.few):Calls Tryz.prog 64 #[v] w (yU (kY (qz g)) w):=by
 obtain⟨ka,kc,rfl,hk⟩:=hv
 obtain⟨l,root⟩:=g
 simp only at hk
 have HF:=hH hf
 have HK:=hH hk
 obtain⟨bb,hbb⟩:∃bb,qz ⟨l,root⟩=bb:=⟨_,rfl⟩
 rw[hbb]
 have HBB:=hH hbb
 clear hf hk hbb
 go_enter Tryz.func64,Tryz.ntmps64
 cases bb
 · go_wp2_with (go_at_call 81;((with_reducible refine (Z0 _ _ _ (grV (HK.out.below (zh _ _))) HF.out).mono ?_);rintro e w2 ⟨rfl,h2⟩;rw[HBB.out];have H2:=hH ((zh w _).trans (h2.mono (zh w _).size));clear h2))
   go_ret
   exact⟨rfl,H2.out⟩
 · go_wp2_with (go_at_call 81;((with_reducible refine (Z0 _ _ _ (grV (HK.out.below (zh _ _))) HF.out).mono ?_);rintro e w2 ⟨rfl,h2⟩;rw[HBB.out];have H2:=hH ((zh w _).trans (h2.mono (zh w _).size));clear h2))
   go_ret
   exact⟨rfl,H2.out⟩
def kindOf (g:Gr) (n:Int):Option Kd:=if qz g=true∧0≤n then g.kinds[n.toNat]? else none
def Qh (w:World) (e:Ending) (w' :World):Prop:=e= .returned (.tuple #[.agg #[.string ⟨#[]⟩,.bool false,.slice none 0 0],.bool false])∧Below w.heap.size w w'
def zjb (k:Kd) (w:World) (e:Ending) (w' :World):Prop:=∃sa sc,e= .returned (.tuple #[.agg #[.string k.name,.bool k.text,.slice sa k.slots.length sc],.bool true])∧Below w.heap.size w w'∧vg w' sa k.slots
theorem Ql {w w2:World} {o:Obj} {cs:Array Value} {t:TypeId} (h:Below ((w.alloc o).alloc (.cells cs t)).heap.size ((w.alloc o).alloc (.cells cs t)) w2) (j:Nat) (v:Value) (hv:cs[j]? =some v):w2.cell? ⟨w.heap.size+1,j,none⟩=some v:=by
 have:=yj h j v hv
 simpa using this
theorem QL {w w2:World} {o:Obj} {cs:Array Value} {t:TypeId} (h:Below ((w.alloc o).alloc (.cells cs t)).heap.size ((w.alloc o).alloc (.cells cs t)) w2) (j:Nat):w2.frozen? ⟨w.heap.size+1,j,none⟩=false:=by
 have hb:w2.heap[(w.alloc o).heap.size]? =some (.cells cs t (0,0)):=(h.block _ sp1).trans (hanQ _ _)
 rw[WsaQ] at hb
 exact forQ w2 _ j _ _ hb
theorem QM {w w2:World} {o:Obj} {cs:Array Value} {t:TypeId} (h:Below ((w.alloc o).alloc (.cells cs t)).heap.size ((w.alloc o).alloc (.cells cs t)) w2):w2.heap[w.heap.size+1]? =some (.cells cs t (0,0)):=by
 have hb:w2.heap[(w.alloc o).heap.size]? =some (.cells cs t (0,0)):=(h.block _ sp1).trans (hanQ _ _)
 rwa [WsaQ] at hb
theorem zaU {w w2:World} {o o' :Obj} (h:Below ((w.alloc o).alloc o').heap.size ((w.alloc o).alloc o') w2):w.heap.size+1<w2.heap.size:=by
 have:=h.size
 simp at this
 omega
theorem ziZ {w w2:World} {o:Obj} {cs:Array Value} {t:TypeId} (h:Below ((w.alloc (.cells cs t)).alloc o).heap.size ((w.alloc (.cells cs t)).alloc o) w2) (j:Nat) (v:Value) (hv:cs[j]? =some v):w2.cell? ⟨w.heap.size,j,none⟩=some v:=by
 rw[World.cell?_of_block (h.block w.heap.size (by simp;omega)),World.cell?_of_block (BhaQ _ _ _ sp1),corQ _ _ j _ _ _ (hanQ w _)];exact hv
theorem Qh.mk {w w' :World} (h:Below w.heap.size w w'):Qh w (.returned (.tuple #[.agg #[.string ⟨#[]⟩,.bool false,.slice none 0 0],.bool false])) w':=⟨rfl,h⟩
theorem zcI {g:Gr} {n:Int} (h:kindOf g n=none) (hg:qz g=true):¬(0≤n∧n<(g.kinds.length:Int)):=fun ⟨h1,h2⟩=>by
 rw[kindOf,if_pos ⟨hg,h1⟩,List.getElem?_eq_none_iff] at h
 omega
theorem ZL {g:Gr} {n:Int} {k:Kd} (h:kindOf g n=some k):qz g=true∧∃j:Nat,n=(j:Int)∧j<g.kinds.length∧g.kinds[j]? =some k:=by
 unfold kindOf at h
 split at h
 · rename_i h1
   have:=(List.getElem?_eq_some_iff.1 h).1
   exact⟨h1.1,n.toNat,by omega,this,h⟩
 · cases h
theorem zjB {w:World} {b:Nat} {x0 x1 x2:Value} {t:TypeId} (h:w.heap[b]? =some (.cells #[x0,x1,x2] t (0,0))) (y0 y1 y2:Value):
 ∃W,W=((w.setCell ⟨b,0,none⟩ y0).setCell ⟨b,1,none⟩ y1).setCell ⟨b,2,none⟩ y2∧W.heap[b]? =some (.cells #[y0,y1,y2] t (0,0))∧Below b w W:=by
 have b0:Below b w (w.setCell ⟨b,0,none⟩ y0):=(BrQ b w).setCell (p:=⟨b,0,none⟩) (Nat.le_refl b) y0
 have b1:Below b w ((w.setCell ⟨b,0,none⟩ y0).setCell ⟨b,1,none⟩ y1):=b0.setCell (p:=⟨b,1,none⟩) (Nat.le_refl b) y1
 refine⟨_,rfl,?_,b1.setCell (p:=⟨b,2,none⟩) (Nat.le_refl b) y2⟩
 rw[hssQ _ b 2 _ _ y2 (hssQ _ b 1 _ _ y1 (hssQ w b 0 _ _ y0 h))]
 rfl
theorem zjA {w:World} {b:Nat} {x0 x1 x2:Value} {t:TypeId} (h:w.heap[b]? =some (.cells #[x0,x1,x2] t (0,0))):w.cell? ⟨b,0,none⟩=some x0∧w.cell? ⟨b,1,none⟩=some x1∧w.cell? ⟨b,2,none⟩=some x2:=
 ⟨by rw[corQ w b 0 _ _ _ h];rfl,by rw[corQ w b 1 _ _ _ h];rfl,by rw[corQ w b 2 _ _ _ h];rfl⟩
theorem za3 (w:World) (v:Value) (g:Gr) (n:Int) (hv:GrV w v g) (hf:g.few) (hn:kindOf g n=none):Calls Tryz.prog 128 #[v,.int .i64 n] w (Qh w):=by
 obtain⟨ka,kc,rfl,hk⟩:=hv
 obtain⟨l,root⟩:=g
 simp only at hk
 have hfl:l.length≤1000000:=hf.1
 have HF:=hH hf
 have HK:=hH hk
 have HN:=hH (zcI hn)
 clear hf hk hn
 by_cases h1:n<0
 · go_enter Tryz.func128,Tryz.ntmps128
   exact sf9
 · by_cases h2:(l.length:Int)≤n
   · go_enter Tryz.func128,Tryz.ntmps128
     exact sf9
   · have HG:=hH (show qz ⟨l,root⟩=false by
      cases h:qz ⟨l,root⟩
      · rfl
      · exact absurd ⟨by omega,by show n<(l.length:Int);omega⟩ (HN.out h))
     go_enter Tryz.func128,Tryz.ntmps128
     go_wp2_with (go_at_call 81;((with_reducible refine (Z0 _ _ _ (grV (HK.out.below (yP _ _ _))) HF.out).mono ?_);rintro e w2 ⟨rfl,h2⟩;rw[HG.out];have H2:=hH h2;have p0:=Ql h2 0 _ rfl;have p1:=Ql h2 1 _ rfl;have p2:=Ql h2 2 _ rfl;have q0:=QL h2;have hz:w.heap.size+1<w2.heap.size:=zaU h2;clear h2))
     obtain⟨W,hW,hWb,hWB⟩:=zjB (QM H2.out) (.string { data:= #[] }) (.bool false) (.slice none 0 0)
     rw[←hW]
     obtain⟨e0,e1,e2⟩:=zjA hWb
     refine brQ (v:= .tuple #[.agg #[.string ⟨#[]⟩,.bool false,.slice none 0 0],.bool false]) (by simp[results,Tryz.results128,go_sem,e0,e1,e2]) rfl (Qh.mk ?_)
     exact ((yP w _ _).trans (H2.out.mono (yP w _ _).size)).trans (hWB.mono (Nat.le_succ _))
theorem vO (w:World) (v:Value) (g:Gr) (n:Int) (k:Kd) (hv:GrV w v g) (hf:g.few) (hn:kindOf g n=some k):Calls Tryz.prog 128 #[v,.int .i64 n] w (zjb k w):=by
 obtain⟨ka,kc,rfl,hk⟩:=hv
 obtain⟨l,root⟩:=g
 simp only at hk
 have hfl:l.length≤1000000:=hf.1
 obtain⟨hg,j,rfl,hj,hx⟩:=ZL hn
 simp only at hj hx
 obtain⟨b,off,rfl,hblt,hc⟩:=hk om
 obtain⟨sa,sc,c0,c1,c2,hs⟩:=hc j k hx
 have HF:=hH hf
 have HK:=hH hk
 have HG:=hH hg
 have HS:=hH hs
 have HC:=hH (aN c0 (aN c1 c2))
 have hj2:(j:Int)<(l.length:Int):=by omega
 clear hf hk hn hg hx hc hs c0 c1 c2
 go_enter Tryz.func128,Tryz.ntmps128
 go_wp2_with (go_at_call 81;((with_reducible refine (Z0 _ _ _ (grV (HK.out.below (yP _ _ _))) HF.out).mono ?_);rintro e w2 ⟨rfl,h2⟩;rw[HG.out];have H2:=hH h2;have HB:=hH ((yP w _ _).trans (h2.mono (yP w _ _).size));have p0:=ziZ h2 0 _ rfl;have q0:=Ql h2 0 _ rfl;have q1:=Ql h2 1 _ rfl;have q2:=Ql h2 2 _ rfl;have q3:=QL h2;have hz:w.heap.size+1<w2.heap.size:=zaU h2;have d0:=(HB.out.cell hblt).trans HC.out.1;have d1:=(HB.out.cell hblt).trans HC.out.2.1;have d2:=(HB.out.cell hblt).trans HC.out.2.2;clear h2))
 obtain⟨W,hW,hWb,hWB⟩:=zjB (QM H2.out) (.string k.name) (.bool k.text) (.slice sa k.slots.length sc)
 rw[←hW]
 obtain⟨e0,e1,e2⟩:=zjA hWb
 have hBW:=HB.out.trans (hWB.mono (Nat.le_succ _))
 exact brQ (v:= .tuple #[.agg #[.string k.name,.bool k.text,.slice sa k.slots.length sc],.bool true]) (by simp[results,Tryz.results128,go_sem,e0,e1,e2]) rfl ⟨sa,sc,rfl,hBW,HS.out.below hBW⟩
end Go.Proofs.YtgkmmnihaiopaaaGreat
namespace Go.Proofs.YtgkmmnihaiopaaaGreat
open Go.RowKit
theorem jF {l:List Kd} {root:Int} {i:Nat} {x:Kd} (hx:l[i]? =some x) (h:kindOk (l.length:Int) x=false):qz ⟨l,root⟩=false:=by
 cases h2:qz ⟨l,root⟩
 · rfl
 · simp only[qz,Bool.and_eq_true,List.all_eq_true] at h2
   have:=h2.1.2 x (List.mem_of_getElem? hx)
   rw[h] at this;cases this
theorem JC:∀{l:List Kd} {i j:Nat} {x y:Kd},apart l=true→j<i→l[i]? =some x→l[j]? =some y→y.name.data.toList≠x.name.data.toList
 | [],i,_,_,_,_,_,hx,_=>by simp at hx
 | k::r,0,_,_,_,_,hj,_,_=>by omega
 | k ::r,i+1,0,x,y,h,_,hx,hy=>by
   simp only[apart,Bool.and_eq_true] at h
   simp at hx hy
   subst hy
   exact fun e=>zcz h.1 hx e.symm
 | k ::r,i+1,j+1,x,y,h,hj,hx,hy=>by
   simp only[apart,Bool.and_eq_true] at h
   exact JC h.2 (by omega:j<i) (by simpa using hx) (by simpa using hy)
theorem zgG {l:List Kd} {root:Int} {i j:Nat} {x y:Kd} (hj:j<i) (hx:l[i]? =some x) (hy:l[j]? =some y) (h:y.name.data.toList=x.name.data.toList):qz ⟨l,root⟩=false:=by
 cases h2:qz ⟨l,root⟩
 · rfl
 · simp only[qz,Bool.and_eq_true] at h2
   exact absurd h (JC h2.2 hj hx hy)
theorem YV {n:Int} {x:Kd} {j:Nat} {s:Sl} (hs:x.slots[j]? =some s) (h:yL n s=false):kindOk n x=false:=by
 cases h2:kindOk n x
 · rfl
 · simp only[kindOk,Bool.and_eq_true,List.all_eq_true] at h2
   have:=h2.2 s (List.mem_of_getElem? hs)
   rw[h] at this;cases this
theorem zd4 {n:Int} {s:Sl} (h:rising n s.kinds=false):yL n s=false:=by
 cases h2:yL n s
 · rfl
 · simp only[yL,qJ,Bool.and_eq_true] at h2
   rw[rising,h2.1,h2.2.1.1.1] at h;cases h
theorem zc8 {n:Int} {s:Sl} (h:rising n s.kinds=true):yL n s=qJ s:=by
 simp only[rising,Bool.and_eq_true] at h
 rw[yL,h.1];rfl
theorem zed {n:Int} {s:Sl} (h:rising n s.kinds=true):0<s.kinds.length:=by
 simp only[rising,Bool.and_eq_true,decide_eq_true_eq] at h
 exact h.2
theorem ZM {n:Int} {x:Kd} (h:¬(1≤x.name.size∧x.name.size≤40∧x.slots.length≤8)):kindOk n x=false:=by
 cases h2:kindOk n x
 · rfl
 · simp[kindOk,kG] at h2
   omega
theorem zbI {n:Int} {x:Kd} (h1:1≤x.name.size) (h2:x.name.size≤40) (h3:x.slots.length≤8) (h4:x.slots.all (yL n)=true):kindOk n x=true:=by
 simp only[kindOk,kG];rw[decide_eq_true h1,decide_eq_true h2,decide_eq_true h3,h4];rfl
theorem vH {g:Gr} (h:qz g=false):kY (qz g)=50:=by rw[h];rfl
theorem qR {g:Gr} (h:qz g=true):kY (qz g)=0:=by rw[h];rfl
theorem zgE {f:Kd→Bool} {l:List Kd} {i:Nat} {x:Kd} (h:(l.take i).all f=true) (hx:l[i]? =some x) (hf:f x=true):(l.take (i+1)).all f=true:=by
 rw[Z7 hx,List.all_append,h];simp[hf]
def zhR (w:World) (c:Array Value) (l:List Kd) (i:Value) (wr:World):Prop:=
 ∃(k:Nat),k≤l.length∧i= .int .i64 k∧wr.heap[w.heap.size]? =some (.cells c 24 (0,0))∧Below w.heap.size w wr∧(l.take k).all (kindOk l.length)=true∧apart (l.take k)=true
def zgq (W:World) (l:List Kd) (k:Nat) (nm:List UInt8) (j:Value) (wr:World):Prop:=
 ∃(m:Nat),m≤k∧j= .int .i64 m∧Below W.heap.size W wr∧fresh (l.take m) nm=true
def zgr (W:World) (l:List Sl) (n:Int) (j:Value) (wr:World):Prop:=
 ∃(m:Nat),m≤l.length∧j= .int .i64 m∧Below W.heap.size W wr∧l.all (yL n)=(l.drop m).all (yL n)
theorem yt (w : World) (v:Value) (g:Gr) (hv:GrV w v g) (hf:g.few):Calls Tryz.prog 19 #[v] w (yU (kY (qz g)) w):=by
 obtain⟨ka,kc,rfl,hk⟩:=hv
 obtain⟨l,root⟩:=g
 simp only at hk
 have hfl:l.length≤1000000:=hf.1
 have HF:=hH (show ∀k∈l,k.few from hf.2)
 have HK:=hH hk
 clear hf hk
 have HN:=hH (fun (h:¬(l.length≤32∧0≤root∧root<(l.length:Int)))=>vH (zeC (g:=⟨l,root⟩) h))
 by_cases h0:l.length<1
 · have h0' :(l.length:Int)<1:=by omega
   exact sh0
 have h0' :¬(l.length:Int)<1:=by omega
 by_cases h1:32<l.length
 · have h1' :(32:Int)<(l.length:Int):=by omega
   exact sh0
 have h1' :¬(32:Int)<(l.length:Int):=by omega
 by_cases h2:root<0
 · go_enter Tryz.func19,Tryz.ntmps19
   go_wp2_with fail
   go_ret
   exact yU.mk (HN.out om) (zh _ _)
 by_cases h3:(l.length:Int)≤root
 · go_enter Tryz.func19,Tryz.ntmps19
   go_wp2_with fail
   go_ret
   exact yU.mk (HN.out om) (zh _ _)
 have HY:=hH (za1 (g:=⟨l,root⟩) (by simp only;omega) (by simp only;omega) (by simp only;omega))
 have h32:l.length≤32:=by omega
 clear HN
 go_enter Tryz.func19,Tryz.ntmps19
 go_wp2_with fail
 clear h0' h1' h2 h3 h0 h1
 go_loopw [4] (fun i wr=>zhR w #[.slice ka l.length kc,.int .i64 root] l i wr) (fun i _=>l.length - (intOf i).toNat)
 case atStart=>exact⟨0,Nat.zero_le _,rfl,hanQ w _,zh _ _,rfl,rfl⟩
 case round =>
  obtain⟨k,hkl,rfl,hb,hbel,hall,hap⟩:=hrel
  have HB:=hH (aN hb hbel)
  have HA:=hH (aN hall hap)
  have p0:wr.cell? ⟨w.heap.size,0,none⟩=some (.slice ka l.length kc):=by rw[corQ wr _ 0 _ _ _ hb];rfl
  by_cases hlt:k<l.length
  · obtain ⟨x, hx⟩:∃x,l[k]? =some x:=⟨l[k],List.getElem?_eq_getElem hlt⟩
    have hfx:=HF.out x (List.mem_of_getElem? hx)
    obtain⟨b,off,rfl,hblt,hc⟩:=(HK.out.below hbel) om
    obtain⟨sa,sc,c0,c1,c2,hs⟩:=hc k x hx
    have HS:=hH hs
    have HX:=hH hx
    have HFX:=hH hfx.2.2
    have hs1:=hfx.1
    have hs2:=hfx.2.1
    have hkl2:(k:Int)<(l.length:Int):=by omega
    clear hx hc hs hfx hb hbel hall hap
    by_cases g1:x.name.size<1
    · have g1' :(x.name.size:Int)<1:=by omega
      go_wp2_with fail
      go_ret
      exact yU.mk (vH (jF HX.out (ZM om))) (HB.out.2.alloc HB.out.2.size _)
    have g1' :¬(x.name.size:Int)<1:=by omega
    by_cases g2:40<x.name.size
    · have g2' :(40:Int)<(x.name.size:Int):=by omega
      go_wp2_with fail
      go_ret
      exact yU.mk (vH (jF HX.out (ZM om))) (HB.out.2.alloc HB.out.2.size _)
    have g2' :¬(40:Int)<(x.name.size:Int):=by omega
    by_cases g3:8<x.slots.length
    · have g3' :(8:Int)<(x.slots.length:Int):=by omega
      go_wp2_with fail
      go_ret
      exact yU.mk (vH (jF HX.out (ZM om))) (HB.out.2.alloc HB.out.2.size _)
    have g3' :¬(8:Int)<(x.slots.length:Int):=by omega
    go_wp2_with fail
    have hz8:x.slots.length≤8:=by omega
    clear g1' g2' g3' p0 c0 c1 c2
    obtain⟨w1,rfl⟩:∃w1,w1=wr:=⟨_,rfl⟩
    obtain⟨wo,hwo⟩:∃wo,wo=w1.alloc (.cells #[.string x.name,.bool x.text,.slice sa x.slots.length sc] 52):=⟨_,rfl⟩
    rw[←hwo]
    have HWB:=hH (show Below w1.heap.size w1 wo by rw[hwo];exact zh _ _)
    have HWK:=hH (show wo.heap[w1.heap.size]? =some (.cells #[.string x.name,.bool x.text,.slice sa x.slots.length sc] 52 (0,0)) by rw[hwo];exact hanQ _ _)
    have HWG:=hH (show wo.heap[w.heap.size]? =some (.cells #[.slice (some ⟨b,off,none⟩) l.length kc,.int .i64 root] 24 (0,0)) by rw[hwo,BhaQ _ _ _ (zP HB.out.1)];exact HB.out.1)
    have HWO:=hH (HB.out.2.trans (HWB.out.mono HB.out.2.size))
    obtain⟨kb,hkb⟩:∃kb,kb=w1.heap.size:=⟨_,rfl⟩
    rw[←hkb] at HWK
    rw[←hkb]
    clear hwo hkb
    go_loopw [6] (fun j wr=>zgq wo l k x.name.data.toList j wr) (fun j _=>k - (intOf j).toNat)
    case atStart=>exact⟨0,Nat.zero_le _,rfl,BrQ _ _,rfl⟩
    case round =>
     obtain⟨m,hm,rfl,hbel1,hfr⟩:=hrel
     have HB1:=hH hbel1
     have HFR:=hH hfr
     have HB2:=hH (HWO.out.trans (hbel1.mono HWO.out.size))
     have q0:wr.cell? ⟨kb,0,none⟩=some (.string x.name):=by rw[corQ wr _ 0 _ _ _ ((hbel1.block _ (zP HWK.out)).trans HWK.out)];rfl
     have q2:wr.cell? ⟨kb,2,none⟩=some (.slice sa x.slots.length sc):=by rw[corQ wr _ 2 _ _ _ ((hbel1.block _ (zP HWK.out)).trans HWK.out)];rfl
     by_cases hlt1:m<k
     · obtain⟨y,hy⟩:∃y,l[m]? =some y:=⟨l[m]'om,List.getElem?_eq_getElem _⟩
       have r0:wr.cell? ⟨w.heap.size,0,none⟩=some (.slice (some ⟨b,off,none⟩) l.length kc):=by rw[corQ wr _ 0 _ _ _ ((hbel1.block _ (zP HWG.out)).trans HWG.out)];rfl
       obtain⟨b',off',he,hblt',hc'⟩:=(HK.out.below HB2.out) om
       cases he
       obtain⟨sa',sc',c0,_,_,_⟩:=hc' m y hy
       have HYY:=hH hy
       have hm2:(m:Int)<(k:Int):=by omega
       have hm3:(m:Int)<(l.length:Int):=by omega
       clear hy hc' hbel1 hfr q2
       by_cases hn:y.name.toList=x.name.toList
       · have HNN:=hH (show y.name.data.toList=x.name.data.toList by rw[←ByteArray.toList_eq,←ByteArray.toList_eq,hn])
         go_wp2_with fail
         go_quiet (fail)
         go_wp2_with fail
         go_ret
         exact yU.mk (vH (zgG om HX.out HYY.out HNN.out)) (below_drewN HB2.out _)
       · have hn2:(y.name.toList == x.name.toList)=false:=by simpa using hn
         have HNN:=hH (show y.name.data.toList≠x.name.data.toList by rw[←ByteArray.toList_eq,←ByteArray.toList_eq];exact hn)
         go_wp2_with fail
         go_quiet (fail)
         go_wp2_with fail
         exact⟨⟨m+1,by omega,by go_num,below_drewN HB1.out _,by rw[Yv HYY.out,HFR.out,decide_eq_true HNN.out];rfl⟩,by simp[intOf];omega⟩
     · have HFF :=hH (show fresh (l.take k) x.name.data.toList=true by obtain rfl:m=k:=om;exact HFR.out)
       have hm2:¬(m:Int)<(k:Int):=by omega
       clear hbel1 hfr q0 q2 HFR
       go_wp2_with fail
       obtain⟨w3,rfl⟩:∃w3,w3=wr:=⟨_,rfl⟩
       go_loopw [7] (fun j wr=>zgr w3 x.slots l.length j wr) (fun j _=>x.slots.length - (intOf j).toNat)
       case atStart=>exact⟨0,Nat.zero_le _,rfl,BrQ _ _,rfl⟩
       case round=>
        obtain⟨j,hj,rfl,hbel2,hall2⟩:=hrel
        have HA2:=hH hall2
        have HB3:=hH (HB2.out.trans (hbel2.mono HB2.out.size))
        have HB4:=hH hbel2
        have hbk:=(hbel2.block _ (zP ((HB1.out.block _ (zP HWK.out)).trans HWK.out))).trans ((HB1.out.block _ (zP HWK.out)).trans HWK.out)
        have q2:wr.cell? ⟨kb,2,none⟩=some (.slice sa x.slots.length sc):=by rw[corQ wr _ 2 _ _ _ hbk];rfl
        by_cases hlt2:j<x.slots.length
        · obtain⟨s,hsx⟩:∃s,x.slots[j]? =some s:=⟨x.slots[j],List.getElem?_eq_getElem hlt2⟩
          have hfs:s.kinds.length≤1000000:=HFX.out s (List.mem_of_getElem? hsx)
          have hs' :vg wr sa x.slots:=(HS.out.below ((HWB.out.trans (HB1.out.mono HWB.out.size)).trans (hbel2.mono (HWB.out.trans (HB1.out.mono HWB.out.size)).size)))
          obtain⟨b2,off2,rfl,hblt2,hc2⟩:=hs' om
          obtain⟨ka2,kc2,d0,d1,d2,hi⟩:=hc2 j s hsx
          have HI:=hH hi
          have HSX:=hH hsx
          have hj2:(j:Int)<(x.slots.length:Int):=by omega
          obtain⟨bb,hbb⟩:∃bb,rising (l.length:Int) s.kinds=bb:=⟨_,rfl⟩
          have HBB:=hH hbb
          clear hbel2 hall2 hbk hsx hc2 hi hbb
          cases bb
          · go_wp2_with (go_at_call 40;((with_reducible refine (jJ _ _ _ _ _ om (HI.out.below (zh _ _)) hfs).mono ?_);rintro e w5 ⟨rfl,h2⟩;rw[HBB.out];have H2:=hH ((zh wr _).trans (h2.mono (zh wr _).size));clear h2))
            go_ret
            exact yU.mk (vH (jF HX.out (YV HSX.out (zd4 HBB.out)))) (HB3.out.trans (H2.out.mono HB3.out.size))
          · have hso:yL (l.length:Int) s=qJ s:=zc8 HBB.out
            have HSO:=hH hso
            have HNO:=hH (fun (h:¬(0<s.kinds.length∧0≤s.least∧s.least≤s.most∧s.most≤1000))=>hso.trans (Q0 h))
            have hpos:0<s.kinds.length:=zed HBB.out
            clear hso
            by_cases e1:s.least<0
            · go_wp2_with (go_at_call 40;((with_reducible refine (jJ _ _ _ _ _ om (HI.out.below (zh _ _)) hfs).mono ?_);rintro e w5 ⟨rfl,h2⟩;rw[HBB.out];have H2:=hH ((zh wr _).trans (h2.mono (zh wr _).size));have q5:=yj h2 1 _ rfl;clear h2))
              go_ret
              exact yU.mk (vH (jF HX.out (YV HSX.out (HNO.out om)))) (HB3.out.trans (H2.out.mono HB3.out.size))
            by_cases e2:s.most<s.least
            · go_wp2_with (go_at_call 40;((with_reducible refine (jJ _ _ _ _ _ om (HI.out.below (zh _ _)) hfs).mono ?_);rintro e w5 ⟨rfl,h2⟩;rw[HBB.out];have H2:=hH ((zh wr _).trans (h2.mono (zh wr _).size));have q5:=yj h2 1 _ rfl;have q6:=yj h2 2 _ rfl;clear h2))
              go_ret
              exact yU.mk (vH (jF HX.out (YV HSX.out (HNO.out om)))) (HB3.out.trans (H2.out.mono HB3.out.size))
            by_cases e3:1000<s.most
            · go_wp2_with (go_at_call 40;((with_reducible refine (jJ _ _ _ _ _ om (HI.out.below (zh _ _)) hfs).mono ?_);rintro e w5 ⟨rfl,h2⟩;rw[HBB.out];have H2:=hH ((zh wr _).trans (h2.mono (zh wr _).size));have q5:=yj h2 1 _ rfl;have q6:=yj h2 2 _ rfl;clear h2))
              go_ret
              exact yU.mk (vH (jF HX.out (YV HSX.out (HNO.out om)))) (HB3.out.trans (H2.out.mono HB3.out.size))
            have HOK:=hH (show yL (l.length:Int) s=true by rw[HSO.out,qJ,decide_eq_true hpos,decide_eq_true (by omega:0≤s.least),decide_eq_true (by omega:s.least≤s.most),decide_eq_true (by omega:s.most≤1000)];rfl)
            have HSTEP:=hH (JA HA2.out HSX.out)
            go_wp2_with (go_at_call 40;((with_reducible refine (jJ _ _ _ _ _ om (HI.out.below (zh _ _)) hfs).mono ?_);rintro e w5 ⟨rfl,h2⟩;rw[HBB.out];have H2:=hH ((zh wr _).trans (h2.mono (zh wr _).size));have q5:=yj h2 1 _ rfl;have q6:=yj h2 2 _ rfl;clear h2))
            exact⟨⟨j+1,by omega,by go_num,HB4.out.trans (H2.out.mono HB4.out.size),by rw[HSTEP.out,HOK.out];rfl⟩,by simp[intOf];omega⟩
        · have HE:=hH (zbo HA2.out om)
          have hj2:¬(j:Int)<(x.slots.length:Int):=by omega
          have hwg:=(HB4.out.block _ (zP ((HB1.out.block _ (zP HWG.out)).trans HWG.out))).trans ((HB1.out.block _ (zP HWG.out)).trans HWG.out)
          have HWW:=hH hwg
          clear hbel2 hall2 hbk hwg
          go_wp2_with fail
          exact⟨⟨k+1,by omega,by go_num,HWW.out,HB3.out,zgE HA.out.1 HX.out (zbI om om om HE.out),by rw[Ym HX.out,HA.out.2,HFF.out];rfl⟩,by simp[intOf];omega⟩
  · have hkl2:¬(k:Int)<(l.length:Int):=by omega
    have HE:=hH (show l.all (kindOk l.length)=true∧apart l=true by rw[List.take_of_length_le om] at hall hap;exact⟨hall,hap⟩)
    clear hb hbel hall hap
    go_wp2_with fail
    go_ret
    exact yU.mk (qR (by rw[HY.out,HE.out.1,HE.out.2];rfl)) HB.out.2
end Go.Proofs.YtgkmmnihaiopaaaGreat
