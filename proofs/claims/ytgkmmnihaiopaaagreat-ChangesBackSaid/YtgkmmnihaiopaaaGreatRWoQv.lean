/-
  .
-/
import Derived.Test.YtgkmmnihaiopaaaGreatRPut9Qv
set_option maxRecDepth 100000
set_option maxHeartbeats 40000000
set_option linter.unusedVariables false
set_option linter.unusedSimpArgs false
namespace Go.Proofs.YtgkmmnihaiopaaaGreat
open Go.RowKit Go.Shelf
def Zl (id:Int)(ks:Fo)(t:Tr):Tr:=match zgC id t with
 | none=>t
 | some z=>zO t z.1 ⟨z.2.1.id,z.2.1.kind,z.2.1.text,ks⟩
theorem zjg {Y:World}{g a:Nat}{cs:Array Value}{t:TypeId}(u0 u1 u2 u3:Value)(h:Y.heap[g]? =some (.cells cs t (0,0)))(ha:a+3<cs.size):
 ((∃o,Y.cell? ⟨g,a,none⟩=some o)∧Y.frozen? ⟨g,a,none⟩=false∧(∃o,(Y.setCell ⟨g,a,none⟩ u0).cell? ⟨g,a+1,none⟩=some o)∧(Y.setCell ⟨g,a,none⟩ u0).frozen? ⟨g,a+1,none⟩=false∧
 (∃o,((Y.setCell ⟨g,a,none⟩ u0).setCell ⟨g,a+1,none⟩ u1).cell? ⟨g,a+2,none⟩=some o)∧((Y.setCell ⟨g,a,none⟩ u0).setCell ⟨g,a+1,none⟩ u1).frozen? ⟨g,a+2,none⟩=false∧
 (∃o,(((Y.setCell ⟨g,a,none⟩ u0).setCell ⟨g,a+1,none⟩ u1).setCell ⟨g,a+2,none⟩ u2).cell? ⟨g,a+3,none⟩=some o)∧(((Y.setCell ⟨g,a,none⟩ u0).setCell ⟨g,a+1,none⟩ u1).setCell ⟨g,a+2,none⟩ u2).frozen? ⟨g,a+3,none⟩=false)∧
 ∃V,V=((((Y.setCell ⟨g,a,none⟩ u0).setCell ⟨g,a+1,none⟩ u1).setCell ⟨g,a+2,none⟩ u2).setCell ⟨g,a+3,none⟩ u3)∧V.heap[g]? =some (.cells ((((cs.setIfInBounds a u0).setIfInBounds (a+1) u1).setIfInBounds (a+2) u2).setIfInBounds (a+3) u3) t (0,0))∧
 (∀k,k≠g→V.heap[k]? =Y.heap[k]?)∧V.os=Y.os∧V.tape=Y.tape∧V.output=Y.output∧V.heap.size=Y.heap.size:=by
 have h1:=hssQ Y g a cs t u0 h
 have h2:=hssQ _ g (a+1) _ t u1 h1
 have h3:=hssQ _ g (a+2) _ t u2 h2
 have h4:=hssQ _ g (a+3) _ t u3 h3
 have z:∀(W:World) (cs' :Array Value) (i:Nat),W.heap[g]? =some (.cells cs' t (0,0))→i<cs'.size→∃o,W.cell? ⟨g,i,none⟩=some o:=fun W cs' i hw hi=>⟨cs'[i],by rw[corQ W g i _ _ _ hw];exact Array.getElem?_eq_getElem hi⟩
 refine⟨⟨z _ _ _ h om,forQ _ _ _ _ _ h,z _ _ _ h1 ug5,forQ _ _ _ _ _ h1,z _ _ _ h2 ug5,forQ _ _ _ _ _ h2,z _ _ _ h3 ug5,forQ _ _ _ _ _ h3⟩,_,rfl,h4,fun k hk=>?_,rfl,rfl,rfl,?_⟩
 · rw[BhsQ _ _ _ _ hk,BhsQ _ _ _ _ hk,BhsQ _ _ _ _ hk,BhsQ _ _ _ _ hk]
 · simp[World.setCell]
theorem zfh {cur:Array Value}{a j:Nat}{u0 u1 u2 u3:Value}(h:j<a∨a+4≤j):((((cur.setIfInBounds a u0).setIfInBounds (a+1) u1).setIfInBounds (a+2) u2).setIfInBounds (a+3) u3)[j]? =cur[j]?:=by
 rw[Array.getElem?_setIfInBounds_ne om,Array.getElem?_setIfInBounds_ne om,Array.getElem?_setIfInBounds_ne om,Array.getElem?_setIfInBounds_ne om]
theorem zgO {cur:Array Value}{a:Nat}{u0 u1 u2 u3:Value}(h:a+3<cur.size):((((cur.setIfInBounds a u0).setIfInBounds (a+1) u1).setIfInBounds (a+2) u2).setIfInBounds (a+3) u3)[a]? =some u0∧((((cur.setIfInBounds a u0).setIfInBounds (a+1) u1).setIfInBounds (a+2) u2).setIfInBounds (a+3) u3)[a+1]? =some u1∧((((cur.setIfInBounds a u0).setIfInBounds (a+1) u1).setIfInBounds (a+2) u2).setIfInBounds (a+3) u3)[a+2]? =some u2∧((((cur.setIfInBounds a u0).setIfInBounds (a+1) u1).setIfInBounds (a+2) u2).setIfInBounds (a+3) u3)[a+3]? =some u3:=by
 refine⟨?_,?_,?_,?_⟩
 · rw[Array.getElem?_setIfInBounds_ne om,Array.getElem?_setIfInBounds_ne om,Array.getElem?_setIfInBounds_ne om,Array.getElem?_setIfInBounds_self_of_lt om]
 · rw[Array.getElem?_setIfInBounds_ne om,Array.getElem?_setIfInBounds_ne om,Array.getElem?_setIfInBounds_self_of_lt ug5]
 · rw[Array.getElem?_setIfInBounds_ne om,Array.getElem?_setIfInBounds_self_of_lt ug5]
 · rw[Array.getElem?_setIfInBounds_self_of_lt ug5]
theorem zji {W5 X W6:World}{g:Nat}(h:W5.heap.size≤X.heap.size∧∀y,y<W5.heap.size→y≠g→X.heap[y]? =W5.heap[y]?)(hb:Below X.heap.size X W6):W5.heap.size≤W6.heap.size∧∀y,y<W5.heap.size→y≠g→W6.heap[y]? =W5.heap[y]?:=
 ⟨NltQ h.1 hb.size,fun y hy hg=>(hb.block y (nL hy h.1)).trans (h.2 y hy hg)⟩
theorem zie {id:Int}{ks:Fo}{t:Tr}{k:Nat}(h:fpi id 0 t.kids=some [k]):Zl id ks t=⟨t.id,t.kind,t.text,ks⟩:=by
 obtain⟨p,i,u,v,e,hz,_,_,hp⟩:=jv h
 have hp0:p= []:=by
  cases p with
  | nil=>rfl
  | cons a b=>simp at e
 subst hp0
 simp only[atT] at hz
 cases hz
 rw[Zl,hp];rfl
theorem zid {id:Int}{ks:Fo}{t v:Tr}{k:Nat}{q:List Nat}(hv:zB t.kids k=some v)(hq:fpi id 0 v.kids=some q)(h:fpi id 0 t.kids=some (k::q)):Zl id ks t=⟨t.id,t.kind,t.text,vB t.kids k (Zl id ks v)⟩:=by
 obtain⟨p,i,u,_,e,hz,_,_,hp⟩:=jv h
 obtain⟨p',i',u',_,e',hz',_,_,hp'⟩:=jv hq
 rw[e'] at e
 have e2:k::p'++[i']=p++[i]:=by simpa using e
 obtain⟨rfl,_⟩:=List.append_inj' e2 rfl
 simp only[atT,hv] at hz
 rw[hz'] at hz;cases hz
 rw[Zl,hp,Zl,hp']
 simp only[zO,hv]
theorem zj6 {id:Int}{ks:Fo}{t:Tr}(h:fpi id 0 t.kids=none):Zl id ks t=t:=by rw[Zl,Q6 h]
theorem zil (id :Int)(ks:Fo)(ca:Option Addr)(cn cc:Nat)(hcn:cn=foLen ks)(hz:zb ks≤400000):∀(M:Nat) (w:World) (S:Nat→Prop) (v:Value) (t:Tr),zb t.kids<M→M≤400000→(∀q,S q→q<w.heap.size)→zt w S ks ca→zG w S v t→
 Calls Tryz.prog 53 #[v,.int .i64 id,.slice ca cn cc] w (zcW (Zl id ks t) w):=by
 have HCN:=hH (aN hcn hz)
 clear hcn hz
 intro M
 induction M with
 | zero=>intro w S v t h;omega
 | succ M ih =>
   intro w S v t hM hMb hS hk ht
   obtain⟨ka,cap,rfl,hcap,hkk⟩:=ht
   obtain⟨tid,tk,tx,kf⟩:=t
   simp only at hM hcap hkk ⊢
   obtain⟨len,hlen⟩:∃len,len=foLen kf:=⟨_,rfl⟩
   rw[←hlen]
   have hl5:len≤400000:=by have:=zL kf;omega
   obtain⟨B,hB⟩:∃B,B=zl w [.cells #[.int .i64 tid,.int .i64 tk,.string tx,.slice ka len cap] 27,.cells #[.int .i64 0,.int .i64 0,.string ⟨#[]⟩,.slice none 0 0] 27]:=⟨_,rfl⟩
   have hb:Below w.heap.size w B:=by rw[hB];exact zi _ _
   have e0:B.heap[w.heap.size]? =some (.cells #[.int .i64 tid,.int .i64 tk,.string tx,.slice ka len cap] 27 (0,0)):=by rw[hB];exact ze _ _ 0 _ rfl
   have e1:B.heap[w.heap.size+1]? =some (.cells #[.int .i64 0,.int .i64 0,.string ⟨#[]⟩,.slice none 0 0] 27 (0,0)):=by rw[hB];exact ze _ _ 1 _ rfl
   have HB:=hH (aN hb (aN e0 e1))
   have HH:=hH (aN hlen (aN hM (aN hMb (aN hS (aN hk (aN hkk hcap))))))
   have HBE:=hH hB
   have HIH:=hH ih
   clear hB hlen hM hMb hS hk hkk hcap hb e0 e1 ih
   go_enter Tryz.func53,Tryz.ntmps53
   go_upto_region 1 with fail
   change Code.wp _ _ _ _ (zl w [.cells #[.int .i64 tid,.int .i64 tk,.string tx,.slice ka len cap] 27,.cells #[.int .i64 0,.int .i64 0,.string ⟨#[]⟩,.slice none 0 0] 27])
   rw[←HBE.out]
   clear HBE
   go_wp2_with fail
   go_loopw [7] (fun i wr=>∃k:Nat,k≤len∧i= .int .i64 (k:Int)∧Hid (fpi id 0 kf=fpi id k (zq k kf)∧Below B.heap.size B wr)) (fun i _=>len - (intOf i).toNat)
   case atStart=>exact⟨0,NzlQ _,rfl,hH ⟨by rw[qH],BrQ _ _⟩⟩
   case round =>
    obtain⟨k,hk,rfl,hh⟩:=hrel
    obtain⟨wo,hwo⟩:∃wo,wo=wr:=⟨_,rfl⟩
    subst hwo
    have hbw:=HB.out.1.trans (hh.out.2.mono HB.out.1.size)
    have e0:=(hh.out.2.block _ (lohQ HB.out.2.1)).trans HB.out.2.1
    have e1:=(hh.out.2.block _ (lohQ HB.out.2.2)).trans HB.out.2.2
    obtain⟨p0,p1,p2,p3⟩:=zI e0
    have HE:=hH (aN hbw (aN e0 e1))
    by_cases hlt:k<len
    · have hk1 :zt wo S kf ka:=HH.out.2.2.2.2.2.1.below hbw HH.out.2.2.2.1
      obtain⟨b0,o0,⟨ki,kk,kt⟩,l,r,hd1,b,off,a1,n1,rfl,hSb,c0,c1,c2,c3,hcp1,hl1⟩:=hk1.at k uf0
      have hku:zB kf k=some ⟨ki,kk,kt,l⟩:=by rw[zB,hd1];rfl
      obtain⟨_,_,_,_,_,e1',e2',hsz1,_⟩:=zX k kf uf0
      rw[hd1] at e1';cases e1'
      have hstep:=hh.out.1.trans (zav (id:=id) (yx hku) hku)
      have hkl:(k:Int)<(len:Int):=by omega
      have HLT:=hH hlt
      have HHH:=hH hh.out.2
      have HK1:=hH (aN hk1 (aN hku (aN hcp1 (aN hl1 hsz1))))
      clear hk1 hd1 hSb e2' hh hbw e0 e1 hku hsz1 hlt hk
      by_cases hid:ki=id
      · have hbi:(ki == id)=true:=by simpa using hid
        have HREP:=hH (zie (ks:=ks) (t:=⟨tid,tk,tx,kf⟩) (by rw[hstep,ipQ hid]))
        have HINV:=hH (qf.start wo tid tk tx ks)
        clear hid hstep hcp1 hl1
        go_wp2_with fail
        go_loopw [9] (fun i wr=>∃(j:Nat) (rv:Value) (xs:List Value),j≤cn∧i= .int .i64 (j:Int)∧Hid (qf wo tid tk tx ks j rv xs wr)) (fun i _=>cn - (intOf i).toNat)
        case atStart=>exact⟨0,_,_,NzlQ _,rfl,HINV⟩
        case round=>
         obtain⟨j,rv,xs,hj,rfl,hh⟩:=hrel
         obtain⟨wi,hwi⟩:∃wi,wi=wr:=⟨_,rfl⟩
         subst hwi
         have HKI:=hH hh.out
         have hbi2:=HE.out.1.trans (hh.out.2.1.mono HE.out.1.size)
         have ho4:=hh.out.1
         clear HINV hh p0 p1 p2 p3 c0 c1 c2 c3
         by_cases hjt:j<cn
         · have hk2:zt wi S ks ca:=HH.out.2.2.2.2.1.below hbi2 HH.out.2.2.2.1
           obtain⟨b1,o1,⟨qi,qk,qt⟩,ql,qr,hq1,bq,offq,qa1,qn1,rfl,hSq,d0,d1,d2,d3',hqcp,hql⟩:=hk2.at j (by rw[←HCN.out.1];exact hjt)
           obtain⟨_,_,_,_,_,e1',e2',hqsz,htk⟩:=zX j ks (by rw[←HCN.out.1];exact hjt)
           rw[hq1] at e1';cases e1'
           have hcall:=ZE 500000 wi S (.agg #[.int .i64 qi,.int .i64 qk,.string qt,.slice qa1 (foLen ql) qn1]) ⟨qi,qk,qt,ql⟩ (by have:=HCN.out.2;simp only;omega) (by have:=HCN.out.2;simp only;omega) (fun x hx=>nL (HH.out.2.2.2.1 x hx) hbi2.size) ⟨qa1,qn1,rfl,hqcp,hql⟩
           obtain⟨m1,hm1⟩:∃m,m=foLen ql:=⟨_,rfl⟩
           rw[←hm1] at hcall d3'
           simp only at d0 d1 d2
           have HC:=hH hcall
           have HM1:=hH hm1
           have HTK:=hH htk
           have hjl:(j:Int)<(cn:Int):=by omega
           have hk5:cn≤400000:=by have:=zL ks;have:=HCN.out;omega
           clear hk2 hq1 hcall hm1 htk hql hqsz hSq e2' hqcp hbi2 ho4
           go_wp2_with fail
           refine (HC.out.mono fun _ _ h=>YL.weak h).mono ?_
           rintro e w2 ⟨_,rfl,⟨ka2,cap2,rfl,hcp2,hf2⟩,hb2⟩
           have hi2:=HKI.out.below hb2
           have hkid:=HKI.out.kid hf2
           have hs2:=hi2.size
           have ho:=hi2.2.2.1
           simp only
           rw[←HM1.out]
           have d3:w2.cell? ⟨wo.heap.size,3,none⟩=some rv:=by rw[corQ w2 _ 3 _ _ _ hi2.1];rfl
           have f3:w2.frozen? ⟨wo.heap.size,3,none⟩=false:=forQ w2 _ 3 _ _ hi2.1
           obtain⟨i0,z0,hi0,hz0,hz1,hz2,hz3⟩:=yw Tryz.Qp
           have hnew:(((w2.alloc (.cells #[.int .i64 qi,.int .i64 qk,.string qt,.slice ka2 m1 cap2] 27)).alloc (.cells #[.int .i64 qi,.int .i64 qk,.string qt,.slice ka2 m1 cap2] 27)).heap[w2.heap.size+1]? =some (.cells #[.int .i64 qi,.int .i64 qk,.string qt,.slice ka2 m1 cap2] 27 (0,0))):=by
            have:=hanQ (w2.alloc (.cells #[.int .i64 qi,.int .i64 qk,.string qt,.slice ka2 m1 cap2] 27)) (.cells #[.int .i64 qi,.int .i64 qk,.string qt,.slice ka2 m1 cap2] 27)
            simpa using this
           have HNEW:=hH hnew
           clear hnew
           have hB:wo.heap.size+1≤w2.heap.size:=by omega
           have hstep:=fun w1 gg cap' h1 h2 h3=>hi2.step (hkc:=hcp2) (w1:=w1) (gg:=gg) (cap:=cap') (kc:=cap2) (o1:= .cells #[.int .i64 qi,.int .i64 qk,.string qt,.slice ka2 m1 cap2] 27) (o2:= .cells #[.int .i64 qi,.int .i64 qk,.string qt,.slice ka2 m1 cap2] 27) hkid HTK.out h1 h2 h3
           rw[←HM1.out] at hstep
           have HST:=hH hstep
           have hne:rv.ownBlock≠some (wo.heap.size):=fun e=>by have:=(zk ho e).1;omega
           have hlt2:(⟨wo.heap.size,3,none⟩:Addr).block<((w2.alloc (.cells #[.int .i64 qi,.int .i64 qk,.string qt,.slice ka2 m1 cap2] 27)).alloc (.cells #[.int .i64 qi,.int .i64 qk,.string qt,.slice ka2 m1 cap2] 27)).heap.size:=by simp;omega
           have hheap:((w2.alloc (.cells #[.int .i64 qi,.int .i64 qk,.string qt,.slice ka2 m1 cap2] 27)).alloc (.cells #[.int .i64 qi,.int .i64 qk,.string qt,.slice ka2 m1 cap2] 27)).heap[wo.heap.size]? =w2.heap[wo.heap.size]?:=by rw[BhaQ _ _ _ ug5,BhaQ _ _ _ hs2]
           have HAUX:=hH (aN hne (aN hlt2 (aN ((World.cell?_of_block (a:=⟨wo.heap.size,3,none⟩) hheap).trans d3) ((World.frozen?_of_block (a:=⟨wo.heap.size,3,none⟩) hheap).trans f3))))
           clear hi2 hkid hf2 hb2 hstep hne hlt2 hheap f3 hcp2
           go_wp2_with (at_builtin;refine wpList_append_lies _ rfl (.tmp 49) (.tmp 51) _ rfl (wo.heap.size+1) 27 i0 z0 4 56 Tryz.underlying25 hi0 hz0 hz1 hz2 hz3 om rv j xs rfl ((ho.alloc _).alloc _) ⟨w2.heap.size+1,0,none⟩ 1 1 [.int .i64 qi,.int .i64 qk,.string qt,.slice ka2 m1 cap2] rfl rfl (World.news_of_block (cs:= #[.int .i64 qi,.int .i64 qk,.string qt,.slice ka2 m1 cap2]) (t:=27) (fr:=(0,0)) HNEW.out) uf6 om uf7 om ug5 (w2.heap.size+1+1) sp1 ?_;intro gg cap' w1 hown1 hgrow hat hlt1;have c1w:=(hgrow.cell_far _ HAUX.out.2.1 (Ne.symm HAUX.out.1)).trans HAUX.out.2.2.1;have f1w:=(hgrow.frozen_far _ HAUX.out.2.1 (Ne.symm HAUX.out.1)).trans HAUX.out.2.2.2)
           exact⟨⟨j+1,_,_,by omega,by go_num,hH (HST.out _ _ _ hown1 hgrow hat)⟩,by simp[intOf];omega⟩
         · have hjj:j=cn:=by omega
           have hi:=HKI.out
           obtain⟨ra,rcap,rfl,hrc⟩:=jd hi.2.2.1
           have hz1:=(hi.2.1.block _ (lohQ HE.out.2.2)).trans HE.out.2.2
           obtain⟨q0,q1,q2,q3⟩:=zI ho4
           obtain⟨z0,z1,z2,z3⟩:=zI hz1
           have gz:∀j,wi.frozen? ⟨w.heap.size+1,j,none⟩=false:=fun j=>forQ _ _ j _ _ hz1
           have hjl:¬(j:Int)<(cn:Int):=by omega
           have HZ:=hH (yF hz1 (.int .i64 tid) (.int .i64 tk) (.string tx) (.slice ra j rcap))
           have HLK:=hH (aN (show j=foLen ks by rw[hjj,HCN.out.1]) (aN hrc (aN hbi2 (lohQ HE.out.2.2))))
           clear hi hz1 ho4 hjj hrc hjt hj hbi2
           go_wp2_with fail
           refine brQ (results_cell_row rfl _ _ (w.heap.size+1) 27 _ _ _ rfl HZ.out.1 Tryz.underlying27 rfl kr1) rfl ?_
           have hs:=(HZ.out.2.1 w.heap.size om).size
           have hfo:=qf.done HKI.out HLK.out.1 rfl HLK.out.2.1
           refine⟨ra,rcap,by rw[HREP.out,←HLK.out.1],by rw[HREP.out];simp only;rw[←HLK.out.1];exact HLK.out.2.1,?_,HLK.out.2.2.1.trans (HZ.out.2.1 _ om)⟩
           rw[HREP.out]
           exact hfo.kept fun q hq=>⟨⟨by have:=HLK.out.2.2.2;have:=hq.1;have:=HE.out.1.size;omega,nL hq.2 hs⟩,HZ.out.2.2 q (by have:=HLK.out.2.2.2;have:=hq.1;omega)⟩
      · have hbi:(ki == id)=false:=by simpa using hid
        rw[inQ hid] at hstep
        have HSTEP:=hH hstep
        have HPAR:=hH (zdX M wo S (.agg #[.int .i64 ki,.int .i64 kk,.string kt,.slice a1 (foLen l) n1]) ⟨ki,kk,kt,l⟩ id (by have:=HK1.out.2.2.2.2;have:=HH.out.2.1;simp only;omega) (by have:=HH.out.2.2.1;omega) (fun q hq=>nL (HH.out.2.2.2.1 q hq) HE.out.1.size) ⟨a1,n1,rfl,hcp1,hl1⟩)
        obtain⟨m0,hm0⟩:∃m,m=foLen l:=⟨_,rfl⟩
        rw[←hm0] at HPAR c3
        have HM0:=hH hm0
        simp only at c0 c1 c2
        clear hid hstep hcp1 hl1 hm0
        go_wp2_with fail
        refine HPAR.out.mono ?_
        rintro e w2 ⟨z,m,bb,pa,pn,pc,rfl,h1,h0,hb2⟩
        obtain⟨W3,hW3⟩:∃W3,W3=w2.alloc (.cells #[.int .i64 z.id,.int .i64 z.kind,.string z.text,.slice pa pn pc] 27):=⟨_,rfl⟩
        have hb3:Below wo.heap.size wo W3:=by rw[hW3];exact hb2.alloc hb2.size _
        have e03:=(hb3.block _ (lohQ HE.out.2.1)).trans HE.out.2.1
        have HW3:=hH hW3
        have HA:=hH (aN (fun h=>(h1 h).1) (aN h0 hb3))
        obtain⟨G,hG⟩:∃G,G=w2.heap.size:=⟨_,rfl⟩
        clear hb2 hb3 hW3 h1 h0 HPAR p0 p1 p2 p3 c0 c1 c2 c3
        go_upto_region 13 with fail
        change Code.wp _ _ _ _ (w2.alloc (.cells #[.int .i64 z.id,.int .i64 z.kind,.string z.text,.slice pa pn pc] 27))
        rw[←HW3.out,←hG]
        clear HW3 hG
        obtain⟨p0,p1,p2,p3⟩:=zI e03
        cases bb
        · have HN:=hH (show fpi id 0 kf=fpi id (k+1) (zq (k+1) kf) by
           rw[HSTEP.out]
           have h:=HA.out.2.1 rfl
           rw[Qy] at h
           cases hq:fpi id 0 l with
           | none=>rfl
           | some q=>
             obtain⟨_,_,_,_,_,_,_,_,hp⟩:=jv (t:=⟨ki,kk,kt,l⟩) hq
             rw[hp] at h;cases h)
          clear e03 p0 p1 p2 p3
          go_wp2_with fail
          exact⟨⟨k+1,by have:=HLT.out;omega,by go_num,hH ⟨HN.out,HHH.out.trans (HA.out.2.2.mono HHH.out.size)⟩⟩,by have:=HLT.out;simp[intOf];omega⟩
        · have hbw3:=HE.out.1.trans (HA.out.2.2.mono HE.out.1.size)
          have HPT:=hH (HA.out.1 rfl)
          have HCP:=hH (ZE (zb kf+1) W3 S (.agg #[.int .i64 tid,.int .i64 tk,.string tx,.slice (some ⟨b,off,none⟩) len cap]) ⟨tid,tk,tx,kf⟩ (Nat.lt_succ_self _) (by have:=HH.out.2.1;have:=HH.out.2.2.1;simp only;omega) (fun q hq=>nL (HH.out.2.2.2.1 q hq) hbw3.size) ⟨some ⟨b,off,none⟩,cap,by simp only[HH.out.1],by have:=HH.out.2.2.2.2.2.2;exact this,HH.out.2.2.2.2.2.1.below hbw3 HH.out.2.2.2.1⟩)
          have HW3:=hH (aN hbw3 e03)
          clear hbw3 e03
          go_wp2_with fail
          refine HCP.out.mono ?_
          rintro e W4 ⟨ra,rc,xs,rfl,hrc,ho,hr,hb4⟩
          simp only at hrc ho hr ⊢
          rw[←HH.out.1] at hrc ho hr ⊢
          obtain⟨g,cp,cur,hgv,hgb,hgh,hg3,hg4,hg5,hg6⟩:∃g cp cur,(.slice ra len rc:Value)= .slice (some ⟨g,0,none⟩) len cp∧W3.heap.size≤g∧W4.heap[g]? =some (.cells cur 27 (0,0))∧len≤cp∧cp≤maxLen∧cur.size=cp*4∧cur.toList.take (len*4)=xs:=by
           rcases ho.2 with ⟨_,h0⟩ | h
           · have:=HLT.out;omega
           · exact h
          cases hgv
          obtain⟨W5,hW5⟩:∃W5,W5=W4.alloc (.cells #[.int .i64 tid,.int .i64 tk,.string tx,.slice (some ⟨g,0,none⟩) len rc] 27):=⟨_,rfl⟩
          have hb5:Below W4.heap.size W4 W5:=by rw[hW5];exact (BrQ _ _).alloc (NlrQ _) _
          have eo:W5.heap[W4.heap.size]? =some (.cells #[.int .i64 tid,.int .i64 tk,.string tx,.slice (some ⟨g,0,none⟩) len rc] 27 (0,0)):=by rw[hW5];exact hanQ _ _
          obtain⟨OB,hOB⟩:∃OB,OB=W4.heap.size:=⟨_,rfl⟩
          have hs5:W5.heap.size=W4.heap.size+1:=by rw[hW5];simp
          have HW5:=hH hW5
          have hbw5:=HW3.out.1.trans ((hb4.trans (hb5.mono hb4.size)).mono HW3.out.1.size)
          rw[←hOB] at eo
          have HG:=hH (aN hgb (aN hgh (aN hg3 (aN hg5 (aN hg6 (aN hr (aN hb4 (aN hb5 (aN hs5 (aN hOB (aN hbw5 eo)))))))))))
          clear hgb hgh hg3 hg4 hg5 hg6 hr ho hb4 hb5 hs5 hbw5 eo hW5 HCP p0 p1 p2 p3
          go_upto_region 15 with fail
          change Code.wp _ _ _ _ (W4.alloc (.cells #[.int .i64 tid,.int .i64 tk,.string tx,.slice (some ⟨g,0,none⟩) len rc] 27))
          rw[←HW5.out,←hOB]
          clear HW5 hOB
          obtain⟨hgb,hgh,hg3,hg5,hg6,hr,hb4,hb5,hs5,hOB,hbw5,eo⟩:=HG.out
          have e05:=((hb4.trans (hb5.mono hb4.size)).block _ (lohQ HW3.out.2)).trans HW3.out.2
          have hk5:zt W5 S kf (some ⟨b,off,none⟩):=HH.out.2.2.2.2.2.1.below hbw5 HH.out.2.2.2.1
          obtain⟨b2,o2,⟨ki2,kk2,kt2⟩,l2,r2,hd2,b',off',a2,n2,hbe,hSb,c0,c1,c2,c3,hcp2,hl2⟩:=hk5.at k (by rw[←HH.out.1];exact HLT.out)
          cases hbe
          have hku2:zB kf k=some ⟨ki2,kk2,kt2,l2⟩:=by rw[zB,hd2];rfl
          rw[HK1.out.2.1] at hku2
          cases hku2
          have hgw:w.heap.size≤g:=NltQ HW3.out.1.size hgb
          have hbw:b<w.heap.size:=HH.out.2.2.2.1 b hSb
          have hg4:g<W4.heap.size:=lohQ hgh
          rw[←HM0.out] at c3
          simp only at c0 c1 c2
          have HCX:Hid (∀X:World,(W5.heap.size≤X.heap.size∧∀y,y<W5.heap.size→y≠g→X.heap[y]? =W5.heap[y]?)→X.cell? ⟨w.heap.size,3,none⟩=some (.slice (some ⟨b,off,none⟩) len cap)∧X.cell? ⟨OB,3,none⟩=some (.slice (some ⟨g,0,none⟩) len rc)∧X.cell? ⟨b,off+k*4,none⟩=some (.int .i64 ki)∧X.cell? ⟨b,off+k*4+1,none⟩=some (.int .i64 kk)∧X.cell? ⟨b,off+k*4+2,none⟩=some (.string kt)∧X.cell? ⟨b,off+k*4+3,none⟩=some (.slice a2 m0 n2)):=hH fun X hX=>by
           have hbX:=hX.2 b (by have:=hbw5.size;omega) om
           refine⟨?_,?_,(World.cell?_of_block (a:=⟨b,off+k*4,none⟩) hbX).trans c0,(World.cell?_of_block (a:=⟨b,off+k*4+1,none⟩) hbX).trans c1,(World.cell?_of_block (a:=⟨b,off+k*4+2,none⟩) hbX).trans c2,(World.cell?_of_block (a:=⟨b,off+k*4+3,none⟩) hbX).trans c3⟩
           · rw[corQ _ _ 3 _ _ _ ((hX.2 _ (lohQ e05) (by have:=HE.out.1.size;have:=lohQ HE.out.2.1;have:=HA.out.2.2.size;omega)).trans e05)];rfl
           · rw[corQ _ _ 3 _ _ _ ((hX.2 _ (lohQ eo) om).trans eo)];rfl
          have HC:Hid (∀X:World,(W5.heap.size≤X.heap.size∧∀y,y<W5.heap.size→y≠g→X.heap[y]? =W5.heap[y]?)→Calls Tryz.prog 53 #[.agg #[.int .i64 ki,.int .i64 kk,.string kt,.slice a2 m0 n2],.int .i64 id,.slice ca cn cc] X (zcW (Zl id ks ⟨ki,kk,kt,l⟩) X)):=hH fun X hX=>by
           have hkeep:∀q,S q→S q∧X.heap[q]? =W5.heap[q]?:=fun q hq=>⟨hq,hX.2 q (nL (HH.out.2.2.2.1 q hq) hbw5.size) (by have:=HH.out.2.2.2.1 q hq;omega)⟩
           exact HIH.out X S _ ⟨ki,kk,kt,l⟩ (by have:=HK1.out.2.2.2.2;have:=HH.out.2.1;simp only;omega) (by have:=HH.out.2.2.1;omega) (fun q hq=>nL (HH.out.2.2.2.1 q hq) (NltQ hbw5.size hX.1)) ((HH.out.2.2.2.2.1.below hbw5 HH.out.2.2.2.1).kept hkeep) ⟨a2,n2,by rw[HM0.out],hcp2,hl2.kept hkeep⟩
          have hSW0:W5.heap.size≤W5.drew.heap.size∧∀y,y<W5.heap.size→y≠g→W5.drew.heap[y]? =W5.heap[y]?:=by
           have h:=below_drewN (BrQ W5.heap.size W5) 1
           exact⟨h.size,fun y hy _=>h.block y hy⟩
          have hki:(k:Int)<(len:Int):=by have:=HLT.out;omega
          clear hgb hgh hg3 hg5 hg6 hr hb4 hb5 hs5 hOB hbw5 eo e05 hk5 hd2 hSb c0 c1 c2 c3 hcp2 hl2 hgw hbw hg4
          refine wrhQ (S:=fun X=>W5.heap.size≤X.heap.size∧∀y,y<W5.heap.size→y≠g→X.heap[y]? =W5.heap[y]?) kr1 hSW0 (fun eH=>?_)
          clear hSW0
          refine tJ (i:=0) (.pointer (some ⟨OB,3,none⟩)) rfl ?_ ?_
          · exact uc7
          simp only[Act.put,pg]
          refine tJ (i:=1) (.slice (some ⟨g,0,none⟩) len rc) rfl ?_ ?_
          · exact uc7
          simp only[Act.put,pg]
          refine tJ (i:=2) (.int .i64 (k:Int)) rfl ?_ ?_
          · exact uc7
          simp only[Act.put,pg]
          refine tJ (i:=3) (.pointer (some ⟨w.heap.size,3,none⟩)) rfl ?_ ?_
          · exact uc7
          simp only[Act.put,pg]
          refine tJ (i:=4) (.slice (some ⟨b,off,none⟩) len cap) rfl ?_ ?_
          · exact uc7
          simp only[Act.put,pg]
          refine tJ (i:=5) (.int .i64 (k:Int)) rfl ?_ ?_
          · exact uc7
          simp only[Act.put,pg]
          refine tJ (i:=6) (.pointer (some ⟨b,off+k*4,none⟩)) rfl ?_ ?_
          · exact uc7
          simp only[Act.put,pg]
          refine tJ (i:=7) (.agg #[.int .i64 ki,.int .i64 kk,.string kt,.slice a2 m0 n2]) rfl ?_ ?_
          · exact uc7
          simp only[Act.put,pg]
          refine tJ (i:=8) (.int .i64 id) rfl ?_ ?_
          · exact uc7
          simp only[Act.put,pg]
          refine tJ (i:=9) (.slice ca cn cc) rfl ?_ ?_
          · exact uc7
          simp only[Act.put,pg]
          refine rd [10] ?_
          refine AcQ (o:=_) rfl (fun K hK=>?_) AnQ
          rw[ipQ ug8]
          simp only[pg3]
          have HK:=hH hK
          have HS:=hH eH
          clear hK eH
          go_wp2_with (go_at_call 53;refine (HC.out _ HS.out).mono ?_;rintro e W6 ⟨va,vc,rfl,hvc,hvf,hb6⟩;obtain⟨y,hy⟩:∃y,y=Zl id ks ⟨ki,kk,kt,l⟩:=⟨_,rfl⟩;rw[←hy] at hvc hvf ⊢;obtain⟨yn,hyn⟩:∃yn,yn=foLen y.kids:=⟨_,rfl⟩;rw[←hyn] at hvc ⊢;have HY:=hH (aN hy (aN hyn (aN hvc (aN hvf hb6))));have HP:=hH (zji HS.out hb6);clear hy hyn hvc hvf hb6)
          refine HK.out _ _ HP.out (fun eH=>?_)
          clear HK HS
          refine tJ (i:=11) (.pointer (some ⟨g,k*4,none⟩)) rfl ?_ ?_
          · exact uc7
          simp only[Act.put,pg]
          obtain⟨hgb,hgh,hg3,hg5,hg6,hr,hb4,hb5,hs5,hOB,hbw5,eo⟩:=HG.out
          have hd:=below_drewN (BrQ W5.heap.size W5) 1
          have hg4:g<W4.heap.size:=lohQ hgh
          have hg5' :g<W5.heap.size:=by omega
          have hgW:W6.heap[g]? =some (.cells cur 27 (0,0)):=(HY.out.2.2.2.2.block g (nL hg5' hd.size)).trans ((hd.block g hg5').trans ((hb5.block g hg4).trans hgh))
          have hcs:k*4+3<cur.size:=by rw[hg5];have:=HLT.out;omega
          obtain⟨⟨⟨s0,u0⟩,f0,⟨s1,u1⟩,f1,⟨s2,u2⟩,f2,⟨s3,u3⟩,f3⟩,V,hV,g1,g2,g3,g4,g5,g6⟩:=zjg (.int .i64 y.id) (.int .i64 y.kind) (.string y.text) (.slice va yn vc) hgW hcs
          have HV:=hH hV
          have HSV:=hH (show W5.heap.size≤V.heap.size∧∀y,y<W5.heap.size→y≠g→V.heap[y]? =W5.heap[y]? from⟨by rw[g6];exact HP.out.1,fun y hy hg=>(g2 y hg).trans (HP.out.2 y hy hg)⟩)
          have HVG:=hH (aN g1 (aN g2 (aN g3 (aN g4 (aN g5 (aN g6 hcs))))))
          have HB26:=hH (hd.trans (HY.out.2.2.2.2.mono hd.size))
          clear hgb hgh hg3 hg5 hg6 hr hb4 hb5 hs5 hOB hbw5 eo hd hg4 hg5' hgW hV g1 g2 g3 g4 g5 g6 hcs
          refine rd [12] ?_
          refine AcQ (o:=_) rfl (fun K hK=>?_) AnQ
          rw[ipQ ug8]
          simp only[pg3]
          have HK:=hH hK
          clear hK eH
          go_wp2_with fail
          rw[←HV.out]
          refine HK.out _ _ HSV.out (fun eH=>?_)
          clear HK s0 u0 f0 u1 f1 u2 f2 u3 f3
          refine wpAnyH_done kr1 ?_ _
          clear eH HC HCX
          have eo:=HG.out.2.2.2.2.2.2.2.2.2.2.2
          have eV:=(HSV.out.2 OB (lohQ eo) (by rw[HG.out.2.2.2.2.2.2.2.2.2.1];have:=lohQ HG.out.2.1;omega)).trans eo
          have hW3s:=HA.out.2.2.size
          have hz3:=(HA.out.2.2.block _ (lohQ HE.out.2.2)).trans HE.out.2.2
          have hz5:=(HG.out.2.2.2.2.2.2.2.1.block _ (nL (lohQ hz3) HG.out.2.2.2.2.2.2.1.size)).trans ((HG.out.2.2.2.2.2.2.1.block _ (lohQ hz3)).trans hz3)
          have hzg:w.heap.size+1≠g:=by have:=lohQ hz3;have:=HG.out.1;omega
          have er:=(HSV.out.2 _ (lohQ hz5) hzg).trans hz5
          obtain⟨y0,y1,y2,y3⟩:=zI eV
          obtain⟨z0,z1,z2,z3⟩:=zI er
          have zf:∀j,V.frozen? ⟨w.heap.size+1,j,none⟩=false:=fun j=>forQ _ _ j _ _ er
          have HZ:=hH (yF er (.int .i64 tid) (.int .i64 tk) (.string tx) (.slice (some ⟨g,0,none⟩) len rc))
          have HZZ:=hH (aN hzg (lohQ hz3))
          have HREP:=hH (show Zl id ks ⟨tid,tk,tx,kf⟩=⟨tid,tk,tx,vB kf k y⟩ by
           have h:=HPT.out
           rw[Qy] at h
           cases hq:fpi id 0 l with
           | none=>rw[Q6 (t:=⟨ki,kk,kt,l⟩) hq] at h;cases h
           | some q=>
             have h2:=HSTEP.out
             simp only[hq] at h2
             rw[zid (t:=⟨tid,tk,tx,kf⟩) HK1.out.2.1 hq h2,←HY.out.1])
          clear eo eV hz3 hz5 hzg er
          go_wp2_with fail
          refine brQ (results_cell_row rfl _ _ (w.heap.size+1) 27 _ _ _ rfl HZ.out.1 Tryz.underlying27 rfl kr1) rfl ?_
          obtain⟨hgb,hgh,hg3,hg5,hg6,hr,hb4,hb5,hs5,hOB,hbw5,eo⟩:=HG.out
          obtain⟨g1,g2,g3,g4,g5,g6,hcs⟩:=HVG.out
          have hg4:g<W4.heap.size:=lohQ hgh
          have hzs:=(HZ.out.2.1 w.heap.size om).size
          have hb26:=HB26.out
          have hww:=HE.out.1.size
          have hbV:Below w.heap.size w V:=⟨g3.trans (hb26.os.trans hbw5.os),g4.trans (hb26.tape.trans hbw5.tape),g5.trans (hb26.output.trans hbw5.output),by rw[g6];exact NltQ hbw5.size hb26.size,fun x hx=>(g2 x om).trans ((hb26.block x (nL hx hbw5.size)).trans (hbw5.block x hx))⟩
          have hlk:k<foLen kf:=by rw[←HH.out.1];exact HLT.out
          refine⟨some ⟨g,0,none⟩,rc,by rw[HREP.out];simp only[Zm];rw[←HH.out.1],by rw[HREP.out];simp only[Zm];rw[←HH.out.1];exact hrc,?_,hbV.trans (HZ.out.2.1 _ om)⟩
          rw[HREP.out]
          have hold:∀x,x≠w.heap.size+1→x≠g→_:=fun x h1 h2=>(HZ.out.2.2 x h1).trans (g2 x h2)
          have hSg:w.heap.size≤g∧g<V.heap.size:=⟨by omega,by rw[g6];have:=hb26.size;omega⟩
          have hZZ:=HZZ.out.2
          have hg2:=(HZ.out.2.2 g (fun e=>HZZ.out.1 e.symm)).trans g1
          have hnew:=zgO (u0:= .int .i64 y.id) (u1:= .int .i64 y.kind) (u2:= .string y.text) (u3:= .slice va yn vc) hcs
          refine zad kf k (zcd kf k xs hr hlk ⟨hSg.1,nL hSg.2 hzs⟩ (fun x hx=>?_) (fun j u hj hjk=>?_)) ?_ hlk
          · have hxg:x≠g:=fun e=>hx.2 (by rw[e];rfl)
            have hx1:=hx.1.1
            have hx2:=hx.1.2
            exact⟨⟨by omega,nL (by rw[g6];have:=hb26.size;omega) hzs⟩,(hold x om hxg).trans ((hb26.block x om).trans (hb5.block x hx2))⟩
          · rw[Nat.zero_add,corQ _ _ _ _ _ _ hg2,zfh hjk]
            rw[←hg6,List.getElem?_take] at hj
            split at hj
            · rw[Array.getElem?_toList] at hj;exact hj
            · cases hj
          · rw [Nat.zero_add]
            refine⟨⟨hSg.1,nL hSg.2 hzs⟩,?_,?_,?_,va,vc,?_,by rw[←HY.out.2.1];exact HY.out.2.2.1,HY.out.2.2.2.1.kept fun x hx=>?_⟩
            · rw[corQ _ _ _ _ _ _ hg2];exact hnew.1
            · rw[corQ _ _ _ _ _ _ hg2];exact hnew.2.1
            · rw[corQ _ _ _ _ _ _ hg2];exact hnew.2.2.1
            · rw[corQ _ _ _ _ _ _ hg2,←HY.out.2.1];exact hnew.2.2.2
            · have hx1:W5.heap.size≤x:=NltQ (below_drewN (BrQ W5.heap.size W5) 1).size hx.1
              have hx2:=hx.2
              exact⟨⟨by have:=hbw5.size;omega,nL (by rw[g6];exact hx2) hzs⟩,hold x (by have:=hb5.size;have:=hb4.size;omega) om⟩
    · have hki:¬(k:Int)<(len:Int):=by omega
      have HREP:=hH (zj6 (ks:=ks) (t:=⟨tid,tk,tx,kf⟩) (by show fpi id 0 kf=none;rw[hh.out.1,qK k kf (by rw[←HH.out.1];omega)];rfl))
      have HC:=hH (zgF (zb kf+1) wo S (.agg #[.int .i64 tid,.int .i64 tk,.string tx,.slice ka len cap]) ⟨tid,tk,tx,kf⟩ (Nat.lt_succ_self _) (by have:=HH.out.2.1;have:=HH.out.2.2.1;simp only;omega) (fun q hq=>nL (HH.out.2.2.2.1 q hq) hbw.size) ⟨ka,cap,by simp only[HH.out.1],by have:=HH.out.2.2.2.2.2.2;exact this,HH.out.2.2.2.2.2.1.below hbw HH.out.2.2.2.1⟩)
      clear hh hlt hk hbw e0 e1
      go_wp2_with fail
      refine HC.out.mono ?_
      rintro e w2 ⟨_,rfl,⟨va,vc,rfl,hvc,hvf⟩,hb2⟩
      simp only at hvc hvf ⊢
      rw[←HH.out.1] at hvc ⊢
      have hz1:=(hb2.block _ (lohQ HE.out.2.2)).trans HE.out.2.2
      obtain⟨z0,z1,z2,z3⟩:=zI hz1
      have gz:∀j,w2.frozen? ⟨w.heap.size+1,j,none⟩=false:=fun j=>forQ _ _ j _ _ hz1
      have HZ:=hH (yF hz1 (.int .i64 tid) (.int .i64 tk) (.string tx) (.slice va len vc))
      have HW:=hH (aN hvc (aN hvf (aN (HE.out.1.trans (hb2.mono HE.out.1.size)) (lohQ HE.out.2.2))))
      clear hvc hvf hb2 hz1 p0 p1 p2 p3
      go_wp2_with fail
      refine brQ (results_cell_row rfl _ _ (w.heap.size+1) 27 _ _ _ rfl HZ.out.1 Tryz.underlying27 rfl kr1) rfl ?_
      have hs:=(HZ.out.2.1 w.heap.size om).size
      refine⟨va,vc,by rw[HREP.out,←HH.out.1],by rw[HREP.out];simp only;rw[←HH.out.1];exact HW.out.1,?_,HW.out.2.2.1.trans (HZ.out.2.1 _ om)⟩
      rw[HREP.out]
      exact HW.out.2.1.kept fun q hq=>⟨⟨NltQ HE.out.1.size hq.1,nL hq.2 hs⟩,HZ.out.2.2 q (by have:=hq.1;have:=HW.out.2.2.2;omega)⟩
theorem Tryz.ziY:(Tryz.prog.info? 27).map (fun i=>(i.size,i.bytes,i.zero.map (fun z=>z.cells.size)))=some (4,56,some 4):=by kernel_rfl
theorem zeS {P:Program}{e:TypeId}{size bytes:Nat}(h:(P.info? e).map (fun i=>(i.size,i.bytes,i.zero.map (fun z=>z.cells.size)))=some (size,bytes,some size)):
 ∃i z,P.info? e=some i∧i.zero=some z∧i.size=size∧i.bytes=bytes∧z.cells.size=size:=by
 exact sd9
theorem ZG {P:Program}{w:World}(base:Nat)(t ty e:TypeId)(i:TypeInfo)(size:Nat)(ht:P.underlying t=some (.slice e))(hi:P.info? e=some i)
 (v:Value) (n:Nat) (xs:List Value) (hown:w.ownsRow base e size v n xs) (c:Nat):
 (Builtin.append_ #[t,t] ty #[v,.slice none 0 c]).run P w= .ok v w:=by
 exact se9
theorem Zq {P:Program}{w:World}{ops:Array Oper}{rest:List Oper}{o:Oper}{a:Act}{Q:Exit→Act→World→Prop}(hgd:o.guard=none)(s x:Operand)(t:TypeId)
 (ho:o.op= .call { callee:= .builtin .append,args:= #[s,x],argTypes:= #[t,t] })
 (base:Nat) (e:TypeId) (i:TypeInfo) (size:Nat) (ht:P.underlying t=some (.slice e)) (hi:P.info? e=some i)
 (v:Value) (n:Nat) (xs:List Value) (hs:a.eval s=v) (hown:w.ownsRow base e size v n xs) (c:Nat) (hx:a.eval x= .slice none 0 c)
 (h:wpList P ops Q rest (a.put o.dst v) w):wpList P ops Q (o::rest) a w:=by
 refine wpList_plain hgd fun K hK=>?_
 have hrun:=ZG (P:=P) (w:=w) base t o.type e i size ht hi v n xs hown c
 unfold Oper.wp
 simp[execOp,ho,resolve,invoke,builtin,hs,hx,hrun,Result.andThen]
 exact hK _ _ h
theorem zU {ops:Array Oper}{rest:List Oper}{o:Oper}{a:Act}{Q:Exit→Act→World→Prop}{w:World}(hgd:o.guard=none)(s x:Operand)
 (ho:o.op= .call { callee:= .builtin .append,args:= #[s,x],argTypes:= #[25,25] })
 (base:Nat) (v:Value) (n:Nat) (xs:List Value) (hs:a.eval s=v) (hown:w.ownsRow base 27 4 v n xs)
 (la:Option Addr) (m c:Nat) (ys:List Value) (hx:a.eval x= .slice la m c) (hm:ys.length=m*4) (hr:∀ad,la=some ad→∀j u,ys[j]? =some u→w.cell? (ad.add j)=some u) (h1' :∀u∈ys,u.oneCell'=true) (hc:la=none→m=0) (h1:n≤1000000) (h2:m≤1000000) (hbase:base≤w.heap.size)
 (h:∀v' w',w'.ownsRow base 27 4 v' (n+m) (xs++ys)→w.grownBy w' v.ownBlock→wpList Tryz.prog ops Q rest (a.put o.dst v') w'):
 wpList Tryz.prog ops Q (o::rest) a w:=by
 obtain⟨i1,z1,hi1,hy0,hy1,hy2,hy3⟩:=zeS Tryz.ziY
 cases la with
 | none=>
   obtain rfl:=hc rfl
   have hys:ys= []:=List.eq_nil_of_length_eq_zero om
   subst hys
   refine Zq hgd s x 25 ho base 27 i1 4 Tryz.underlying25 hi1 v n xs hs hown c hx (h v w ?_ ?_)
   · simpa using hown
   · exact⟨rfl,rfl,rfl,NlrQ _,fun _ _ _=>rfl⟩
 | some ad=>
   exact wpList_append_own w hgd s x 25 ho base 27 i1 z1 4 56 Tryz.underlying25 hi1 hy0 hy1 hy2 hy3 om v n xs hs hown ad m c ys hx hm (hr ad rfl) h1' uf7 om hbase (fun v' w' k1 k2 _=>h v' w' k1 k2)
theorem zaF {Y:World}{g:Nat}{x0 x1 x2 x3:Value}{T:TypeId}(h:Y.heap[g]? =some (.cells #[x0,x1,x2,x3] T (0,0))){j:Nat}{u:Value}(hj: [x0,x1,x2,x3][j]? =some u):Y.cell? ((⟨g,0,none⟩:Addr).add j)=some u:=by
 rw[Addr.add_mid,Nat.zero_add,corQ _ _ j _ _ _ h]
 simpa using hj
theorem zaG {a b:Int}{t:ByteArray}{d:Option Addr}{m c:Nat}{u:Value}(h:u∈([.int .i64 a,.int .i64 b,.string t,.slice d m c]:List Value)):u.oneCell'=true:=by
 simp only[List.mem_cons,List.not_mem_nil,or_false] at h
 rcases h with rfl | rfl | rfl | rfl<;>rfl
theorem J5 (a:Addr)(j:Nat):(a.add j).block=a.block:=by unfold Addr.add;split<;>rfl
theorem zho (a:Addr)(i j:Nat):(a.add i).add j=a.add (i+j):=by
 obtain⟨b,off,sp⟩:=a
 by_cases hi:i=0<;>by_cases hj:j=0<;>simp[Addr.add,hi,hj,Nat.add_assoc]
theorem take_at {xs:List Value}{k j:Nat}{u:Value}(h:(xs.take k)[j]? =some u):xs[j]? =some u:=by
 rw[List.getElem?_take] at h;split at h;exact h;cases h
def zfs (f:Fo)(k:Nat)(x:Tr)(S:Nat→Prop)(w:World)(e:Ending)(w' :World):Prop:=∃ra rn rc,e= .returned (.slice ra rn rc)∧rn=foLen (yK f k x)∧rn≤rc∧ra≠none∧zt w' (fun q=>S q∨YF w w' q) (yK f k x) ra∧Below w.heap.size w w'
theorem zaE {S:Nat→Prop}{w X:World}{f:Fo}{k n:Nat}{x:Tr}{xa:Option Addr}{xn xc:Nat}{xs:List Value}{v:Value}(hf:yD w S f xs)(hS:∀q,S q→q<w.heap.size)(hn:n=foLen f)(hk:k≤n)(hxn:xn=foLen x.kids)(hx:foLen x.kids≤xc∧zt w S x.kids xa){Bs:Nat}(hBs:w.heap.size≤Bs)(ho:X.ownsRow Bs 27 4 v (k+1+(n - k)) (xs.take (k*4)++[.int .i64 x.id,.int .i64 x.kind,.string x.text,.slice xa xn xc]++xs.drop (k*4)))(hb:Below w.heap.size w X):∃a c,v= .slice a (k+1+(n - k)) c∧zfs f k x S w (.returned v) X:=by
 obtain⟨a,c,rfl⟩:=zy ho
 have hr:=zaD f k x xa xc xs hf hx.1 hx.2 om
 have he:Z0 x xa xc= [.int .i64 x.id,.int .i64 x.kind,.string x.text,.slice xa xn xc]:=by rw[hxn];rfl
 rw[he] at hr
 have hl:k+1+(n - k)=foLen (yK f k x):=by rw[zaC f k x om];omega
 refine⟨a,c,rfl,a,_,c,rfl,hl,?_,?_,zcj hl ho (hr.kept fun q hq=>⟨.inl hq,hb.block q (hS q hq)⟩) (fun q hq=> .inr ⟨NltQ hBs (zk ho hq).1,(zk ho hq).2⟩),hb⟩
 · rcases ho.2 with ⟨_,h0⟩ | ⟨_,_,_,hv,_,_,hc,_⟩
   · omega
   · cases hv;exact hc
 · rcases ho.2 with ⟨_,h0⟩ | ⟨_,_,_,hv,_⟩
   · omega
   · intro h;subst h;cases hv
theorem zdR (w:World)(S:Nat→Prop)(f:Fo)(a:Option Addr)(n c:Nat)(x:Tr)(xa:Option Addr)(xn xc k:Nat)(hn:n=foLen f)(hc:n≤c)(hf:zt w S f a)(hS:∀q,S q→q<w.heap.size)(hxn:xn=foLen x.kids)(hx:foLen x.kids≤xc∧zt w S x.kids xa)(hk:k≤n)(hn5:n≤500000):
 Calls Tryz.prog 50 #[.slice a n c,.int .i64 (k:Int),.agg #[.int .i64 x.id,.int .i64 x.kind,.string x.text,.slice xa xn xc]] w (zfs f k x S w):=by
 have hn0:a=none→n=0:=fun e=>by
  subst e
  cases f with
  | nil=>exact hn
  | node x y k l r=>
    obtain⟨b,off,ka,kc,e,_⟩:=hf
    cases e
 obtain⟨xs,hr,hl,hcl,hone⟩:=zdh f hf
 have hl1:(xs.take (k*4)).length=k*4:=by rw[List.length_take,hl,←hn];omega
 have hl2:(xs.drop (k*4)).length=(n - k)*4:=by rw[List.length_drop,hl,←hn];omega
 obtain⟨B,hB⟩:∃B,B=w.alloc (.cells #[.int .i64 x.id,.int .i64 x.kind,.string x.text,.slice xa xn xc] 27):=⟨_,rfl⟩
 have hb:Below w.heap.size w B:=by rw[hB];exact (BrQ _ _).alloc (NlrQ _) _
 have e0:B.heap[w.heap.size]? =some (.cells #[.int .i64 x.id,.int .i64 x.kind,.string x.text,.slice xa xn xc] 27 (0,0)):=by rw[hB];exact hanQ _ _
 have HA:=hH (aN hr (aN hS (aN hn (aN hk (aN hxn hx)))))
 have HB:=hH (aN hb e0)
 have HL:=hH (aN hl1 hl2)
 have HO:=hH hone
 have HBE:=hH hB
 have hkc:(k:Int)≤(c:Int):=by omega
 have hkn:(k:Int)≤(n:Int):=by omega
 have hnc:(n:Int)≤(c:Int):=by omega
 have hlt:∀j u,xs[j]? =some u→∀ad,a=some ad→ad.block<w.heap.size:=fun j u hj ad he=>by
  have:=block_lt_of_cell (hcl ad he j u hj)
  rwa [J5] at this
 have HC:Hid (∀X,Below w.heap.size w X→∀ad,a=some ad→∀j u,xs[j]? =some u→X.cell? (ad.add j)=some u):=hH fun X hX ad he j u hj=>(World.cell?_of_block (hX.block _ (by rw[J5];exact hlt j u hj ad he))).trans (hcl ad he j u hj)
 clear hr hl hcl hone hl1 hl2 hb e0 hB hn hf hS hxn hx hk hlt
 go_enter Tryz.func50,Tryz.ntmps50
 go_upto_region 1 with fail
 change Code.wp _ _ _ _ (w.alloc (.cells #[.int .i64 x.id,.int .i64 x.kind,.string x.text,.slice xa xn xc] 27))
 rw[←HBE.out]
 clear HBE
 cases a with
 | none=>
   obtain rfl:n=0:=hn0 rfl
   obtain rfl:k=0:=by omega
   go_upto_region 3 with (at_builtin;refine zU rfl (.tmp 8) (.tmp 11) rfl B.heap.size (.slice none 0 0) 0 [] rfl (World.ownsRow_nil _ _ _ _) none 0 c (xs.take (0*4)) rfl HL.out.1 (fun ad' h j u hj=>HC.out _ HB.out.1 ad' h j u (take_at hj)) (fun u hu=>HO.out u (List.mem_of_mem_take hu)) (fun _=>rfl) om om (NlrQ _) ?_;intro v1 W1 hown hgrow;rw[Nat.zero_add,List.nil_append] at hown;have HE:=hH (aN hown ((BrQ B.heap.size B).grown hgrow (NlrQ _) (fun y hy=>by cases hy)));clear hown hgrow)
   obtain⟨oa,oc,rfl⟩:=zy HE.out.1
   have hx0:W1.heap[w.heap.size]? =some (.cells #[.int .i64 x.id,.int .i64 x.kind,.string x.text,.slice xa xn xc] 27 (0,0)):=(HE.out.2.block _ (lohQ HB.out.2)).trans HB.out.2
   obtain⟨q0,q1,q2,q3⟩:=zI hx0
   obtain⟨Y,hY⟩:∃Y,Y=W1.alloc (.cells #[.int .i64 x.id,.int .i64 x.kind,.string x.text,.slice xa xn xc] 27):=⟨_,rfl⟩
   have hbY:Below W1.heap.size W1 Y:=by rw[hY];exact (BrQ _ _).alloc (NlrQ _) _
   have HY:=hH (aN (show Y.heap[W1.heap.size]? =some (.cells #[.int .i64 x.id,.int .i64 x.kind,.string x.text,.slice xa xn xc] 27 (0,0)) by rw[hY];exact hanQ _ _) (aN (HE.out.2.trans (hbY.mono HE.out.2.size)) (zH HE.out.1 fun g cur hg _=>hbY.block g (lohQ hg))))
   have HYE:=hH hY
   clear hx0 hY hbY
   go_upto_region 4 with (at_builtin;change wpList _ _ _ _ _ (W1.alloc (.cells #[.int .i64 x.id,.int .i64 x.kind,.string x.text,.slice xa xn xc] 27));rw[←HYE.out];refine zU rfl (.tmp 13) (.tmp 15) rfl B.heap.size (.slice oa 0 oc) 0 (xs.take (0*4)) rfl HY.out.2.2 (some ⟨W1.heap.size,0,none⟩) 1 1 [.int .i64 x.id,.int .i64 x.kind,.string x.text,.slice xa xn xc] rfl rfl (fun ad' h j u hj=>by cases h;exact zaF HY.out.1 hj) (fun u hu=>zaG hu) (fun h=>by cases h) om om HY.out.2.1.size ?_;intro v2 W2 hown hgrow;have HF:=hH (aN hown (HY.out.2.1.grown hgrow HY.out.2.1.size (fun y hy=>(zk HY.out.2.2 hy).1)));clear hown hgrow)
   obtain⟨qa,qc,rfl⟩:=zy HF.out.1
   have HBW:=hH (HB.out.1.trans (HF.out.2.mono HB.out.1.size))
   clear q0 q1 q2 q3
   have HT:=hH (show ∀ad' :Addr,none=some ad'→∀j u,(xs.drop (0*4))[j]? =some u→W2.cell? (ad'.add j)=some u from fun ad' h j u hj=>by cases h)
   go_wp2_with (at_builtin;refine zU rfl (.tmp 17) (.tmp 20) rfl B.heap.size (.slice qa (0+1) qc) (0+1) (xs.take (0*4)++[.int .i64 x.id,.int .i64 x.kind,.string x.text,.slice xa xn xc]) rfl HF.out.1 none 0 c (xs.drop (0*4)) rfl HL.out.2 HT.out (fun u hu=>HO.out u (List.mem_of_mem_drop hu)) (fun _=>rfl) om om HF.out.2.size ?_;intro v3 W3 hown hgrow;have HG:=hH (aN hown (HF.out.2.grown hgrow HF.out.2.size (fun y hy=>(zk HF.out.1 hy).1)));clear hown hgrow)
   have hg:=HG.out.1
   exact sg1
 | some ad=>
   go_upto_region 3 with (at_builtin;refine zU rfl (.tmp 8) (.tmp 11) rfl B.heap.size (.slice none 0 0) 0 [] rfl (World.ownsRow_nil _ _ _ _) (some ad) k c (xs.take (k*4)) rfl HL.out.1 (fun ad' h j u hj=>HC.out _ HB.out.1 ad' h j u (take_at hj)) (fun u hu=>HO.out u (List.mem_of_mem_take hu)) (fun h=>by cases h) om om (NlrQ _) ?_;intro v1 W1 hown hgrow;rw[Nat.zero_add,List.nil_append] at hown;have HE:=hH (aN hown ((BrQ B.heap.size B).grown hgrow (NlrQ _) (fun y hy=>by cases hy)));clear hown hgrow)
   obtain⟨oa,oc,rfl⟩:=zy HE.out.1
   have hx0:W1.heap[w.heap.size]? =some (.cells #[.int .i64 x.id,.int .i64 x.kind,.string x.text,.slice xa xn xc] 27 (0,0)):=(HE.out.2.block _ (lohQ HB.out.2)).trans HB.out.2
   obtain⟨q0,q1,q2,q3⟩:=zI hx0
   obtain⟨Y,hY⟩:∃Y,Y=W1.alloc (.cells #[.int .i64 x.id,.int .i64 x.kind,.string x.text,.slice xa xn xc] 27):=⟨_,rfl⟩
   have hbY:Below W1.heap.size W1 Y:=by rw[hY];exact (BrQ _ _).alloc (NlrQ _) _
   have HY:=hH (aN (show Y.heap[W1.heap.size]? =some (.cells #[.int .i64 x.id,.int .i64 x.kind,.string x.text,.slice xa xn xc] 27 (0,0)) by rw[hY];exact hanQ _ _) (aN (HE.out.2.trans (hbY.mono HE.out.2.size)) (zH HE.out.1 fun g cur hg _=>hbY.block g (lohQ hg))))
   have HYE:=hH hY
   clear hx0 hY hbY
   go_upto_region 4 with (at_builtin;change wpList _ _ _ _ _ (W1.alloc (.cells #[.int .i64 x.id,.int .i64 x.kind,.string x.text,.slice xa xn xc] 27));rw[←HYE.out];refine zU rfl (.tmp 13) (.tmp 15) rfl B.heap.size (.slice oa k oc) k (xs.take (k*4)) rfl HY.out.2.2 (some ⟨W1.heap.size,0,none⟩) 1 1 [.int .i64 x.id,.int .i64 x.kind,.string x.text,.slice xa xn xc] rfl rfl (fun ad' h j u hj=>by cases h;exact zaF HY.out.1 hj) (fun u hu=>zaG hu) (fun h=>by cases h) om om HY.out.2.1.size ?_;intro v2 W2 hown hgrow;have HF:=hH (aN hown (HY.out.2.1.grown hgrow HY.out.2.1.size (fun y hy=>(zk HY.out.2.2 hy).1)));clear hown hgrow)
   obtain⟨qa,qc,rfl⟩:=zy HF.out.1
   have HBW:=hH (HB.out.1.trans (HF.out.2.mono HB.out.1.size))
   clear q0 q1 q2 q3
   by_cases hck:c=k
   · subst hck
     have HT:=hH (show ∀ad',some ad=some ad'→∀j u,(xs.drop (c*4))[j]? =some u→W2.cell? (ad'.add j)=some u from fun ad' h j u hj=>by have h2:=(List.getElem?_eq_some_iff.1 hj).1;rw[HL.out.2] at h2;omega)
     go_wp2_with (at_builtin;refine zU rfl (.tmp 17) (.tmp 20) rfl B.heap.size (.slice qa (c+1) qc) (c+1) (xs.take (c*4)++[.int .i64 x.id,.int .i64 x.kind,.string x.text,.slice xa xn xc]) rfl HF.out.1 (some ad) 0 0 (xs.drop (c*4)) rfl (by rw[HL.out.2];omega) HT.out (fun u hu=>HO.out u (List.mem_of_mem_drop hu)) (fun h=>by cases h) om om HF.out.2.size ?_;intro v3 W3 hown hgrow;have HG:=hH (aN hown (HF.out.2.grown hgrow HF.out.2.size (fun y hy=>(zk HF.out.1 hy).1)));clear hown hgrow)
     have hg:=HG.out.1
     rw[show c+1+0=c+1+(n - c) by omega] at hg
     exact sg1
   · have HT:=hH (show ∀ad',some (ad.add (k*4))=some ad'→∀j u,(xs.drop (k*4))[j]? =some u→W2.cell? (ad'.add j)=some u from fun ad' h j u hj=>by cases h;rw[zho];exact HC.out _ HBW.out ad rfl _ u (by rw[List.getElem?_drop] at hj;exact hj))
     go_wp2_with (at_builtin;refine zU rfl (.tmp 17) (.tmp 20) rfl B.heap.size (.slice qa (k+1) qc) (k+1) (xs.take (k*4)++[.int .i64 x.id,.int .i64 x.kind,.string x.text,.slice xa xn xc]) rfl HF.out.1 (some (ad.add (k*4))) (n - k) (c - k) (xs.drop (k*4)) rfl HL.out.2 HT.out (fun u hu=>HO.out u (List.mem_of_mem_drop hu)) (fun h=>by cases h) om om HF.out.2.size ?_;intro v3 W3 hown hgrow;have HG:=hH (aN hown (HF.out.2.grown hgrow HF.out.2.size (fun y hy=>(zk HF.out.1 hy).1)));clear hown hgrow)
     obtain⟨ra,rc,rfl,hend⟩:=zaE HA.out.1 HA.out.2.1 HA.out.2.2.1 HA.out.2.2.2.1 HA.out.2.2.2.2.1 HA.out.2.2.2.2.2 HB.out.1.size HG.out.1 (HB.out.1.trans (HG.out.2.mono HB.out.1.size))
     have HEND:=hH hend
     clear hend
     go_ret
     exact HEND.out
theorem QE (w:World)(S:Nat→Prop)(v:Value)(t p:Tr)(id:Int)(m:Nat)(hpar:Q5 id t=some (p,m))(hmp:m<foLen p.kids)(hp:zb p.kids≤zb t.kids)(hd:zb (zW p.kids m)≤400000)(ht:zb t.kids<400000)(hS:∀q,S q→q<w.heap.size)(hv:zG w S v t):
 Calls Tryz.prog 33 #[v,.int .i64 id] w (zcW (Zl id (zW p.kids m) t) w):=by
 obtain⟨ka,cap,rfl,hcap,hkk⟩:=hv
 obtain⟨len,hlen⟩:∃len,len=foLen t.kids:=⟨_,rfl⟩
 obtain⟨B,hB⟩:∃B,B=zl w [.cells #[.int .i64 t.id,.int .i64 t.kind,.string t.text,.slice ka len cap] 27,.cells #[.int .i64 0,.int .i64 0,.string ⟨#[]⟩,.slice none 0 0] 27]:=⟨_,rfl⟩
 have hb:Below w.heap.size w B:=by rw[hB];exact zi _ _
 have e0:B.heap[w.heap.size]? =some (.cells #[.int .i64 t.id,.int .i64 t.kind,.string t.text,.slice ka len cap] 27 (0,0)):=by rw[hB];exact ze _ _ 0 _ rfl
 have e1:B.heap[w.heap.size+1]? =some (.cells #[.int .i64 0,.int .i64 0,.string ⟨#[]⟩,.slice none 0 0] 27 (0,0)):=by rw[hB];exact ze _ _ 1 _ rfl
 have hc:=zdX 400000 B S (.agg #[.int .i64 t.id,.int .i64 t.kind,.string t.text,.slice ka len cap]) t id ht om (fun q hq=>nL (hS q hq) hb.size) ⟨ka,cap,by rw[hlen],hcap,hkk.below hb hS⟩
 rw[←hlen]
 have HC:=hH hc
 have HB:=hH (aN hb (aN e0 e1))
 have HH:=hH (aN hpar (aN hmp (aN hp (aN hd (aN ht (aN hS (aN hkk (aN hcap hlen))))))))
 have HBE:=hH hB
 obtain⟨p0,p1,p2,p3⟩:=zI e0
 clear hc hb e0 e1 hpar hmp hp hd ht hS hkk hcap hlen hB
 go_enter Tryz.func33,Tryz.ntmps33
 go_upto_region 1 with fail
 change Code.wp _ _ _ _ (zl w [.cells #[.int .i64 t.id,.int .i64 t.kind,.string t.text,.slice ka len cap] 27,.cells #[.int .i64 0,.int .i64 0,.string ⟨#[]⟩,.slice none 0 0] 27])
 rw[←HBE.out]
 clear HBE
 go_wp2_with fail
 refine HC.out.mono ?_
 rintro e w2 ⟨z,m',bb,pa,pn,pc,rfl,h1,h0,hb2⟩
 cases bb
 · have:=h0 rfl
   rw[HH.out.1] at this;cases this
 obtain⟨hz,hpn,hpc,hpf⟩:=h1 rfl
 rw[HH.out.1] at hz
 cases hz
 obtain⟨W3,hW3⟩:∃W3,W3=w2.alloc (.cells #[.int .i64 p.id,.int .i64 p.kind,.string p.text,.slice pa pn pc] 27):=⟨_,rfl⟩
 have hb3:Below w2.heap.size w2 W3:=by rw[hW3];exact (BrQ _ _).alloc (NlrQ _) _
 have eG:W3.heap[w2.heap.size]? =some (.cells #[.int .i64 p.id,.int .i64 p.kind,.string p.text,.slice pa pn pc] 27 (0,0)):=by rw[hW3];exact hanQ _ _
 obtain⟨G,hG⟩:∃G,G=w2.heap.size:=⟨_,rfl⟩
 have hbB3:Below B.heap.size B W3:=hb2.trans (hb3.mono hb2.size)
 have hbw3:=HB.out.1.trans (hbB3.mono HB.out.1.size)
 have hpf3:zt W3 S p.kids pa:=hpf.kept fun q hq=>⟨hq,hb3.block q (nL (HH.out.2.2.2.2.2.1 q hq) (NltQ HB.out.1.size hb2.size))⟩
 obtain⟨xs,hxr,hxl,hxc,hxo⟩:=zdh p.kids hpf3
 rw[←hpn] at hxl
 have hpn5:pn≤400000:=by rw[hpn];have:=zL p.kids;have:=HH.out.2.2.1;have:=HH.out.2.2.2.2.1;omega
 have HW3:=hH hW3
 rw[←hG] at eG
 have HA:=hH (aN hbw3 (aN eG (aN (hbB3.block _ (lohQ HB.out.2.1)) (aN (hbB3.block _ (lohQ HB.out.2.2)) (aN hpf3 (aN hxr (aN hxl (aN hxc (aN hxo (aN hpn hbB3))))))))))
 clear hb2 hb3 hW3 eG hbB3 hbw3 hpf3 hxr hxl hxc hxo hpf hpc h1 h0 HC p0 p1 p2 p3 hpn
 go_upto_region 2 with fail
 change Code.wp _ _ _ _ (w2.alloc (.cells #[.int .i64 p.id,.int .i64 p.kind,.string p.text,.slice pa pn pc] 27))
 rw[←HW3.out,←hG]
 clear HW3 hG
 go_wp2_with fail
 go_loopw [8,9] (fun kv i wr=>∃(k:Nat) (v:Value),k≤pn∧v=kv∧i= .int .i64 (k:Int)∧Hid (Below W3.heap.size W3 wr∧wr.ownsRow W3.heap.size 27 4 v (QO m k) (zaU xs m k))) (fun _ i _=>pn - (intOf i).toNat)
 case atStart=>exact⟨0,_,NzlQ _,rfl,rfl,hH ⟨BrQ _ _,by have h:=World.ownsRow_nil W3 W3.heap.size 27 4;unfold QO zaU;simpa using h⟩⟩
 case round=>
  obtain⟨k,kv,hk,rfl,rfl,hh⟩:=hrel
  obtain⟨wo,hwo⟩:∃wo,wo=wr:=⟨_,rfl⟩
  subst hwo
  have eG:=(hh.out.1.block _ (lohQ HA.out.2.1)).trans HA.out.2.1
  obtain⟨g0,g1,g2,g3⟩:=zI eG
  by_cases hlt:k<pn
  · have hkl:(k:Int)<(pn:Int):=by omega
    by_cases hkm:k=m
    · subst hkm
      have hkm2:((k:Int) == (k:Int))=true:=by simp
      have HI:=hH hh.out
      clear hh eG
      go_wp2_with fail
      exact⟨⟨k+1,_,by omega,rfl,by go_num,hH ⟨HI.out.1,by rw[(zbR xs k).1,(zbR xs k).2];exact HI.out.2⟩⟩,by simp[intOf];omega⟩
    · have hkm2:¬(k:Int)=(m:Int):=by omega
      have hkm3:((k:Int) == (m:Int))=false:=by simpa using hkm2
      obtain⟨b0,o0,⟨ui,uk,ut⟩,l,r,hd1,b,off,a1,n1,rfl,hSb,c0,c1,c2,c3,_,_⟩:=HA.out.2.2.2.2.1.at k (by rw[←HA.out.2.2.2.2.2.2.2.2.2.1];exact hlt)
      simp only at c0 c1 c2
      have hget:∀(j:Nat) (c:Value),j<4→W3.cell? ⟨b,off+(k*4+j),none⟩=some c→xs[k*4+j]? =some c:=fun j c hj hc=>by
       obtain⟨u,hu⟩:∃u,xs[k*4+j]? =some u:=⟨_,List.getElem?_eq_getElem (by rw[HA.out.2.2.2.2.2.2.1];omega)⟩
       have h:=HA.out.2.2.2.2.2.2.2.1 _ rfl _ _ hu
       rw[Addr.add_mid] at h
       rw[h] at hc;cases hc;exact hu
      have h4:=ziW (hget 0 _ om (by simpa using c0)) (hget 1 _ om c1) (hget 2 _ om c2) (hget 3 _ om c3)
      rw[Nat.add_zero] at h4
      have hbl:=hh.out.1.block b (nL (HH.out.2.2.2.2.2.1 b hSb) HA.out.1.size)
      have d0:=(World.cell?_of_block (a:=⟨b,off+k*4,none⟩) hbl).trans c0
      have d1:=(World.cell?_of_block (a:=⟨b,off+k*4+1,none⟩) hbl).trans c1
      have d2:=(World.cell?_of_block (a:=⟨b,off+k*4+2,none⟩) hbl).trans c2
      have d3:=(World.cell?_of_block (a:=⟨b,off+k*4+3,none⟩) hbl).trans c3
      obtain⟨m1,hm1⟩:∃m,m=foLen l:=⟨_,rfl⟩
      rw[←hm1] at d3 h4
      obtain⟨Y,hY⟩:∃Y,Y=wo.alloc (.cells #[.int .i64 ui,.int .i64 uk,.string ut,.slice a1 m1 n1] 27):=⟨_,rfl⟩
      have hbY:Below wo.heap.size wo Y:=by rw[hY];exact (BrQ _ _).alloc (NlrQ _) _
      have HY:=hH (aN (show Y.heap[wo.heap.size]? =some (.cells #[.int .i64 ui,.int .i64 uk,.string ut,.slice a1 m1 n1] 27 (0,0)) by rw[hY];exact hanQ _ _) (aN (hh.out.1.trans (hbY.mono hh.out.1.size)) (zH hh.out.2 fun g cur hg _=>hbY.block g (lohQ hg))))
      have HYE:=hH hY
      have hst:=zgx (xs:=xs) hkm
      rw[h4] at hst
      have HST:=hH hst
      have hcn:QO m k≤400000:=by unfold QO;split<;>omega
      obtain⟨cn,hcnn⟩:∃cn,cn=QO m k:=⟨_,rfl⟩
      obtain⟨ox,hox⟩:∃ox,ox=zaU xs m k:=⟨_,rfl⟩
      rw[←hcnn,←hox] at HST HY
      rw[←hcnn] at hcn
      clear hh eG hd1 hSb c0 c1 c2 c3 hget h4 hbl hm1 hY hbY hst hkm hcnn hox
      go_wp2_with (at_builtin;change wpList _ _ _ _ _ (wo.alloc (.cells #[.int .i64 ui,.int .i64 uk,.string ut,.slice a1 m1 n1] 27));rw[←HYE.out];refine zU rfl (.tmp 27) (.tmp 33) rfl W3.heap.size kv cn ox rfl HY.out.2.2 (some ⟨wo.heap.size,0,none⟩) 1 1 [.int .i64 ui,.int .i64 uk,.string ut,.slice a1 m1 n1] rfl rfl (fun ad' h j u hj=>by cases h;exact zaF HY.out.1 hj) (fun u hu=>zaG hu) (fun h=>by cases h) om om HY.out.2.1.size ?_;intro v2 W2 hown hgrow;have HF:=hH (aN hown (HY.out.2.1.grown hgrow HY.out.2.1.size (fun y hy=>(zk HY.out.2.2 hy).1)));clear hown hgrow)
      exact⟨⟨k+1,_,by omega,rfl,by go_num,hH ⟨HF.out.2,by rw[←HST.out.1,HST.out.2];exact HF.out.1⟩⟩,by simp[intOf];omega⟩
  · have hkl:¬(k:Int)<(pn:Int):=by omega
    obtain rfl:k=pn:=by omega
    obtain⟨hbw3,_,ht3,hz3,_,hxr,hxl,_,_,hpn,hbB3⟩:=HA.out
    have hmk:m<k:=by rw[hpn];exact HH.out.2.1
    obtain⟨oe,ce⟩:=zic hxl hmk
    have hown:=hh.out.2
    rw[oe,ce] at hown
    obtain⟨oa,oc,rfl⟩:=zy hown
    have hn:k - 1=foLen (zW p.kids m):=by have:=Yb p.kids m HH.out.2.1;omega
    have hrow:=zan p.kids m xs hxr HH.out.2.1
    have hSw:∀q,S q→q<wo.heap.size∧wo.heap[q]? =W3.heap[q]?:=fun q hq=>by
     have h:=nL (HH.out.2.2.2.2.2.1 q hq) hbw3.size
     exact⟨nL h hh.out.1.size,hh.out.1.block q h⟩
    have hfo:zt wo (fun q=>q<wo.heap.size) (zW p.kids m) oa:=zcj hn hown (hrow.kept hSw) (fun q hq=>(zk hown hq).2)
    have hbw:=hbw3.trans (hh.out.1.mono hbw3.size)
    have htr:zt wo (fun q=>q<wo.heap.size) t.kids ka:=HH.out.2.2.2.2.2.2.1.kept fun q hq=>⟨(hSw q hq).1,hbw.block q (HH.out.2.2.2.2.2.1 q hq)⟩
    have hc:=zil id (zW p.kids m) oa (k - 1) oc hn HH.out.2.2.2.1 400000 wo _ (.agg #[.int .i64 t.id,.int .i64 t.kind,.string t.text,.slice ka len cap]) t HH.out.2.2.2.2.1 (NlrQ _) (fun q hq=>hq) hfo ⟨ka,cap,by rw[HH.out.2.2.2.2.2.2.2.2],HH.out.2.2.2.2.2.2.2.1,htr⟩
    obtain⟨r,hr⟩:∃r,r=Zl id (zW p.kids m) t:=⟨_,rfl⟩
    rw[←hr] at hc
    have HRR:=hH hr
    have HC:=hH hc
    have hT3:=ht3.trans HB.out.2.1
    have hZ3:=hz3.trans HB.out.2.2
    have hT:=(hh.out.1.block _ (lohQ hT3)).trans hT3
    have hZ:=(hh.out.1.block _ (lohQ hZ3)).trans hZ3
    obtain⟨p0,p1,p2,p3⟩:=zI hT
    have HZB:=hH (aN hZ hbw)
    clear hh hown hrow hSw hfo hbw htr hc hr hT3 hZ3 hT hZ oe ce hbw3 ht3 hz3 hxr hxl hpn hbB3 hn hlt hk
    go_wp2_with fail
    refine HC.out.mono ?_
    rintro e W ⟨va,vc,rfl,hvc,hvf,hb⟩
    obtain⟨rn,hrn⟩:∃rn,rn=foLen r.kids:=⟨_,rfl⟩
    rw[←hrn] at hvc ⊢
    have f1:=(hb.block _ (lohQ HZB.out.1)).trans HZB.out.1
    obtain⟨z0,z1,z2,z3⟩:=zI f1
    have gz:∀j,W.frozen? ⟨w.heap.size+1,j,none⟩=false:=fun j=>forQ _ _ j _ _ f1
    have HZ:=hH (yF f1 (.int .i64 r.id) (.int .i64 r.kind) (.string r.text) (.slice va rn vc))
    have HW:=hH (aN hvc (aN hvf (aN (HZB.out.2.trans (hb.mono HZB.out.2.size)) (aN (lohQ HZB.out.1) hrn))))
    clear hvc hvf hb f1 p0 p1 p2 p3 hrn g0 g1 g2 g3
    go_wp2_with fail
    refine brQ (results_cell_row rfl _ _ (w.heap.size+1) 27 _ _ _ rfl HZ.out.1 Tryz.underlying27 rfl kr1) rfl ?_
    have hs:=(HZ.out.2.1 w.heap.size om).size
    show zcW (Zl id (zW p.kids m) t) w _ _
    rw[←HRR.out]
    exact⟨va,vc,by rw[←HW.out.2.2.2.2],by rw[←HW.out.2.2.2.2];exact HW.out.1,HW.out.2.1.kept fun q hq=>⟨⟨NltQ HZB.out.2.size hq.1,nL hq.2 hs⟩,HZ.out.2.2 q (by have:=hq.1;have:=HW.out.2.2.2.1;omega)⟩,HW.out.2.2.1.trans (HZ.out.2.1 _ om)⟩
end Go.Proofs.YtgkmmnihaiopaaaGreat
