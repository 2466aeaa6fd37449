/-
  .
-/
import Derived.Test.YtnikgofkldkdkaaRPut9Qt
set_option maxRecDepth 100000
set_option maxHeartbeats 40000000
namespace Go.Proofs.Ytnikgofkldkdkaa
open Go.RowKit Go.Shelf
set_option linter.unusedVariables false
set_option linter.unusedSimpArgs false
def kY (id:Int)(ks:Fo)(t:Tr):Tr:=match zga id t with
 | none=>t
 | some z=>zP t z.1 ⟨z.2.1.id,z.2.1.kind,z.2.1.text,ks⟩
theorem zjm {Y:World}{g a:Nat}{cs:Array Value}{t:TypeId}(u0 u1 u2 u3:Value)(h:Y.heap[g]? =some (.cells cs t (0,0)))(ha:a+3<cs.size):
 ((∃o,Y.cell? ⟨g,a,none⟩=some o)∧Y.frozen? ⟨g,a,none⟩=false∧(∃o,(Y.setCell ⟨g,a,none⟩ u0).cell? ⟨g,a+1,none⟩=some o)∧(Y.setCell ⟨g,a,none⟩ u0).frozen? ⟨g,a+1,none⟩=false∧
 (∃o,((Y.setCell ⟨g,a,none⟩ u0).setCell ⟨g,a+1,none⟩ u1).cell? ⟨g,a+2,none⟩=some o)∧((Y.setCell ⟨g,a,none⟩ u0).setCell ⟨g,a+1,none⟩ u1).frozen? ⟨g,a+2,none⟩=false∧
 (∃o,(((Y.setCell ⟨g,a,none⟩ u0).setCell ⟨g,a+1,none⟩ u1).setCell ⟨g,a+2,none⟩ u2).cell? ⟨g,a+3,none⟩=some o)∧(((Y.setCell ⟨g,a,none⟩ u0).setCell ⟨g,a+1,none⟩ u1).setCell ⟨g,a+2,none⟩ u2).frozen? ⟨g,a+3,none⟩=false)∧
 ∃V,V=((((Y.setCell ⟨g,a,none⟩ u0).setCell ⟨g,a+1,none⟩ u1).setCell ⟨g,a+2,none⟩ u2).setCell ⟨g,a+3,none⟩ u3)∧V.heap[g]? =some (.cells ((((cs.setIfInBounds a u0).setIfInBounds (a+1) u1).setIfInBounds (a+2) u2).setIfInBounds (a+3) u3) t (0,0))∧
 (∀k,k≠g→V.heap[k]? =Y.heap[k]?)∧V.os=Y.os∧V.tape=Y.tape∧V.output=Y.output∧V.heap.size=Y.heap.size:=by
 have h1:=hssQ Y g a cs t u0 h
 have h2:=hssQ _ g (a+1) _ t u1 h1
 have h3:=hssQ _ g (a+2) _ t u2 h2
 have h4:=hssQ _ g (a+3) _ t u3 h3
 have z:∀(W:World) (cs' :Array Value) (i:Nat),W.heap[g]? =some (.cells cs' t (0,0))→i<cs'.size→∃o,W.cell? ⟨g,i,none⟩=some o:=fun W cs' i hw hi=>⟨cs'[i],by rw[corQ W g i _ _ _ hw];exact Array.getElem?_eq_getElem hi⟩
 refine⟨⟨z _ _ _ h om,forQ _ _ _ _ _ h,z _ _ _ h1 ue6,forQ _ _ _ _ _ h1,z _ _ _ h2 ue6,forQ _ _ _ _ _ h2,z _ _ _ h3 ue6,forQ _ _ _ _ _ h3⟩,_,rfl,h4,fun k hk=>?_,rfl,rfl,rfl,?_⟩
 · rw[BhsQ _ _ _ _ hk,BhsQ _ _ _ _ hk,BhsQ _ _ _ _ hk,BhsQ _ _ _ _ hk]
 · simp[World.setCell]
theorem zeH {cur:Array Value}{a j:Nat}{u0 u1 u2 u3:Value}(h:j<a∨a+4≤j):((((cur.setIfInBounds a u0).setIfInBounds (a+1) u1).setIfInBounds (a+2) u2).setIfInBounds (a+3) u3)[j]? =cur[j]?:=by
 rw[Array.getElem?_setIfInBounds_ne om,Array.getElem?_setIfInBounds_ne om,Array.getElem?_setIfInBounds_ne om,Array.getElem?_setIfInBounds_ne om]
theorem zgw {cur:Array Value}{a:Nat}{u0 u1 u2 u3:Value}(h:a+3<cur.size):((((cur.setIfInBounds a u0).setIfInBounds (a+1) u1).setIfInBounds (a+2) u2).setIfInBounds (a+3) u3)[a]? =some u0∧((((cur.setIfInBounds a u0).setIfInBounds (a+1) u1).setIfInBounds (a+2) u2).setIfInBounds (a+3) u3)[a+1]? =some u1∧((((cur.setIfInBounds a u0).setIfInBounds (a+1) u1).setIfInBounds (a+2) u2).setIfInBounds (a+3) u3)[a+2]? =some u2∧((((cur.setIfInBounds a u0).setIfInBounds (a+1) u1).setIfInBounds (a+2) u2).setIfInBounds (a+3) u3)[a+3]? =some u3:=by
 refine⟨?_,?_,?_,?_⟩
 · rw[Array.getElem?_setIfInBounds_ne om,Array.getElem?_setIfInBounds_ne om,Array.getElem?_setIfInBounds_ne om,Array.getElem?_setIfInBounds_self_of_lt om]
 · rw[Array.getElem?_setIfInBounds_ne om,Array.getElem?_setIfInBounds_ne om,Array.getElem?_setIfInBounds_self_of_lt ue6]
 · rw[Array.getElem?_setIfInBounds_ne om,Array.getElem?_setIfInBounds_self_of_lt ue6]
 · rw[Array.getElem?_setIfInBounds_self_of_lt ue6]
theorem zjn {W5 X W6:World}{g:Nat}(h:W5.heap.size≤X.heap.size∧∀y,y<W5.heap.size→y≠g→X.heap[y]? =W5.heap[y]?)(hb:Below X.heap.size X W6):W5.heap.size≤W6.heap.size∧∀y,y<W5.heap.size→y≠g→W6.heap[y]? =W5.heap[y]?:=
 ⟨NltQ h.1 hb.size,fun y hy hg=>(hb.block y (nL hy h.1)).trans (h.2 y hy hg)⟩
theorem zia {id:Int}{ks:Fo}{t:Tr}{k:Nat}(h:fpi id 0 t.kids=some [k]):kY id ks t=⟨t.id,t.kind,t.text,ks⟩:=by
 obtain⟨p,i,u,v,e,hz,_,_,hp⟩:=je h
 have hp0:p= []:=by
  cases p with
  | nil=>rfl
  | cons a b=>simp at e
 subst hp0
 simp only[atT] at hz
 cases hz
 rw[kY,hp];rfl
theorem zh9 {id:Int}{ks:Fo}{t v:Tr}{k:Nat}{q:List Nat}(hv:zB t.kids k=some v)(hq:fpi id 0 v.kids=some q)(h:fpi id 0 t.kids=some (k::q)):kY id ks t=⟨t.id,t.kind,t.text,vv t.kids k (kY id ks v)⟩:=by
 obtain⟨p,i,u,_,e,hz,_,_,hp⟩:=je h
 obtain⟨p',i',u',_,e',hz',_,_,hp'⟩:=je hq
 rw[e'] at e
 have e2:k::p'++[i']=p++[i]:=by simpa using e
 obtain⟨rfl,_⟩:=List.append_inj' e2 rfl
 simp only[atT,hv] at hz
 rw[hz'] at hz;cases hz
 rw[kY,hp,kY,hp']
 simp only[zP,hv]
theorem zj9 {id:Int}{ks:Fo}{t:Tr}(h:fpi id 0 t.kids=none):kY id ks t=t:=by rw[kY,Q0 h]
theorem zij (id :Int)(ks:Fo)(ca:Option Addr)(cn cc:Nat)(hcn:cn=foLen ks)(hz:za ks≤400000):∀(M:Nat) (w:World) (S:Nat→Prop) (v:Value) (t:Tr),za t.kids<M→M≤400000→(∀q,S q→q<w.heap.size)→zk w S ks ca→zK w S v t→
 Calls Try.prog 96 #[v,.int .i64 id,.slice ca cn cc] w (zcu (kY id ks t) w):=by
 have HCN:=hH (aN hcn hz)
 clear hcn hz
 intro M
 induction M with
 | zero=>intro w S v t h;omega
 | succ M ih =>
   intro w S v t hM hMb hS hk ht
   obtain⟨ka,cap,rfl,hcap,hkk⟩:=ht
   obtain⟨tid,tk,tx,kf⟩:=t
   simp only at hM hcap hkk ⊢
   obtain⟨len,hlen⟩:∃len,len=foLen kf:=⟨_,rfl⟩
   rw[←hlen]
   have hl5:len≤400000:=by have:=zM kf;omega
   obtain⟨B,hB⟩:∃B,B=zx w [.cells #[.int .i64 tid,.int .i64 tk,.string tx,.slice ka len cap] 27,.cells #[.int .i64 0,.int .i64 0,.string ⟨#[]⟩,.slice none 0 0] 27]:=⟨_,rfl⟩
   have hb:Below w.heap.size w B:=by rw[hB];exact zl _ _
   have e0:B.heap[w.heap.size]? =some (.cells #[.int .i64 tid,.int .i64 tk,.string tx,.slice ka len cap] 27 (0,0)):=by rw[hB];exact ze _ _ 0 _ rfl
   have e1:B.heap[w.heap.size+1]? =some (.cells #[.int .i64 0,.int .i64 0,.string ⟨#[]⟩,.slice none 0 0] 27 (0,0)):=by rw[hB];exact ze _ _ 1 _ rfl
   have HB:=hH (aN hb (aN e0 e1))
   have HH:=hH (aN hlen (aN hM (aN hMb (aN hS (aN hk (aN hkk hcap))))))
   have HBE:=hH hB
   have HIH:=hH ih
   clear hB hlen hM hMb hS hk hkk hcap hb e0 e1 ih
   go_enter Try.func96,Try.ntmps96
   go_upto_region 1 with fail
   change Code.wp _ _ _ _ (zx w [.cells #[.int .i64 tid,.int .i64 tk,.string tx,.slice ka len cap] 27,.cells #[.int .i64 0,.int .i64 0,.string ⟨#[]⟩,.slice none 0 0] 27])
   rw[←HBE.out]
   clear HBE
   go_wp2_with fail
   go_loopw [7] (fun i wr=>∃k:Nat,k≤len∧i= .int .i64 (k:Int)∧Hid (fpi id 0 kf=fpi id k (zm k kf)∧Below B.heap.size B wr)) (fun i _=>len - (intOf i).toNat)
   case atStart=>exact⟨0,NzlQ _,rfl,hH ⟨by rw[qG],BrQ _ _⟩⟩
   case round =>
    obtain⟨k,hk,rfl,hh⟩:=hrel
    obtain⟨wo,hwo⟩:∃wo,wo=wr:=⟨_,rfl⟩
    subst hwo
    have hbw:=HB.out.1.trans (hh.out.2.mono HB.out.1.size)
    have e0:=(hh.out.2.block _ (lohQ HB.out.2.1)).trans HB.out.2.1
    have e1:=(hh.out.2.block _ (lohQ HB.out.2.2)).trans HB.out.2.2
    obtain⟨p0,p1,p2,p3⟩:=zF e0
    have HE:=hH (aN hbw (aN e0 e1))
    by_cases hlt:k<len
    · have hk1 :zk wo S kf ka:=HH.out.2.2.2.2.2.1.below hbw HH.out.2.2.2.1
      obtain⟨b0,o0,⟨ki,kk,kt⟩,l,r,hd1,b,off,a1,n1,rfl,hSb,c0,c1,c2,c3,hcp1,hl1⟩:=hk1.at k ud5
      have hku:zB kf k=some ⟨ki,kk,kt,l⟩:=by rw[zB,hd1];rfl
      obtain⟨_,_,_,_,_,e1',e2',hsz1,_⟩:=yw k kf ud5
      rw[hd1] at e1';cases e1'
      have hstep:=hh.out.1.trans (zac (id:=id) (qd hku) hku)
      have hkl:(k:Int)<(len:Int):=by omega
      have HLT:=hH hlt
      have HHH:=hH hh.out.2
      have HK1:=hH (aN hk1 (aN hku (aN hcp1 (aN hl1 hsz1))))
      clear hk1 hd1 hSb e2' hh hbw e0 e1 hku hsz1 hlt hk
      by_cases hid:ki=id
      · have hbi:(ki == id)=true:=by simpa using hid
        have HREP:=hH (zia (ks:=ks) (t:=⟨tid,tk,tx,kf⟩) (by rw[hstep,ipQ hid]))
        have HINV:=hH (qf.start wo tid tk tx ks)
        clear hid hstep hcp1 hl1
        go_wp2_with fail
        go_loopw [9] (fun i wr=>∃(j:Nat) (rv:Value) (xs:List Value),j≤cn∧i= .int .i64 (j:Int)∧Hid (qf wo tid tk tx ks j rv xs wr)) (fun i _=>cn - (intOf i).toNat)
        case atStart=>exact⟨0,_,_,NzlQ _,rfl,HINV⟩
        case round=>
         obtain⟨j,rv,xs,hj,rfl,hh⟩:=hrel
         obtain⟨wi,hwi⟩:∃wi,wi=wr:=⟨_,rfl⟩
         subst hwi
         have HKI:=hH hh.out
         have hbi2:=HE.out.1.trans (hh.out.2.1.mono HE.out.1.size)
         have ho4:=hh.out.1
         clear HINV hh p0 p1 p2 p3 c0 c1 c2 c3
         by_cases hjt:j<cn
         · have hk2:zk wi S ks ca:=HH.out.2.2.2.2.1.below hbi2 HH.out.2.2.2.1
           obtain⟨b1,o1,⟨qi,qk,qt⟩,ql,qr,hq1,bq,offq,qa1,qn1,rfl,hSq,d0,d1,d2,d3',hqcp,hql⟩:=hk2.at j (by rw[←HCN.out.1];exact hjt)
           obtain⟨_,_,_,_,_,e1',e2',hqsz,htk⟩:=yw j ks (by rw[←HCN.out.1];exact hjt)
           rw[hq1] at e1';cases e1'
           have hcall:=Zo 500000 wi S (.agg #[.int .i64 qi,.int .i64 qk,.string qt,.slice qa1 (foLen ql) qn1]) ⟨qi,qk,qt,ql⟩ (by have:=HCN.out.2;simp only;omega) (by have:=HCN.out.2;simp only;omega) (fun x hx=>nL (HH.out.2.2.2.1 x hx) hbi2.size) ⟨qa1,qn1,rfl,hqcp,hql⟩
           obtain⟨m1,hm1⟩:∃m,m=foLen ql:=⟨_,rfl⟩
           rw[←hm1] at hcall d3'
           simp only at d0 d1 d2
           have HC:=hH hcall
           have HM1:=hH hm1
           have HTK:=hH htk
           have hjl:(j:Int)<(cn:Int):=by omega
           have hk5:cn≤400000:=by have:=zM ks;have:=HCN.out;omega
           clear hk2 hq1 hcall hm1 htk hql hqsz hSq e2' hqcp hbi2 ho4
           go_wp2_with fail
           refine (HC.out.mono fun _ _ h=>Yy.weak h).mono ?_
           rintro e w2 ⟨_,rfl,⟨ka2,cap2,rfl,hcp2,hf2⟩,hb2⟩
           have hi2:=HKI.out.below hb2
           have hkid:=HKI.out.kid hf2
           have hs2:=hi2.size
           have ho:=hi2.2.2.1
           simp only
           rw[←HM1.out]
           have d3:w2.cell? ⟨wo.heap.size,3,none⟩=some rv:=by rw[corQ w2 _ 3 _ _ _ hi2.1];rfl
           have f3:w2.frozen? ⟨wo.heap.size,3,none⟩=false:=forQ w2 _ 3 _ _ hi2.1
           obtain⟨i0,z0,hi0,hz0,hz1,hz2,hz3⟩:=zW Try.Qi
           have hnew:(((w2.alloc (.cells #[.int .i64 qi,.int .i64 qk,.string qt,.slice ka2 m1 cap2] 27)).alloc (.cells #[.int .i64 qi,.int .i64 qk,.string qt,.slice ka2 m1 cap2] 27)).heap[w2.heap.size+1]? =some (.cells #[.int .i64 qi,.int .i64 qk,.string qt,.slice ka2 m1 cap2] 27 (0,0))):=by
            have:=hanQ (w2.alloc (.cells #[.int .i64 qi,.int .i64 qk,.string qt,.slice ka2 m1 cap2] 27)) (.cells #[.int .i64 qi,.int .i64 qk,.string qt,.slice ka2 m1 cap2] 27)
            simpa using this
           have HNEW:=hH hnew
           clear hnew
           have hB:wo.heap.size+1≤w2.heap.size:=by omega
           have hstep:=fun w1 gg cap' h1 h2 h3=>hi2.step (hkc:=hcp2) (w1:=w1) (gg:=gg) (cap:=cap') (kc:=cap2) (o1:= .cells #[.int .i64 qi,.int .i64 qk,.string qt,.slice ka2 m1 cap2] 27) (o2:= .cells #[.int .i64 qi,.int .i64 qk,.string qt,.slice ka2 m1 cap2] 27) hkid HTK.out h1 h2 h3
           rw[←HM1.out] at hstep
           have HST:=hH hstep
           have hne:rv.ownBlock≠some (wo.heap.size):=fun e=>by have:=(zi ho e).1;omega
           have hlt2:(⟨wo.heap.size,3,none⟩:Addr).block<((w2.alloc (.cells #[.int .i64 qi,.int .i64 qk,.string qt,.slice ka2 m1 cap2] 27)).alloc (.cells #[.int .i64 qi,.int .i64 qk,.string qt,.slice ka2 m1 cap2] 27)).heap.size:=by simp;omega
           have hheap:((w2.alloc (.cells #[.int .i64 qi,.int .i64 qk,.string qt,.slice ka2 m1 cap2] 27)).alloc (.cells #[.int .i64 qi,.int .i64 qk,.string qt,.slice ka2 m1 cap2] 27)).heap[wo.heap.size]? =w2.heap[wo.heap.size]?:=by rw[BhaQ _ _ _ ue6,BhaQ _ _ _ hs2]
           have HAUX:=hH (aN hne (aN hlt2 (aN ((World.cell?_of_block (a:=⟨wo.heap.size,3,none⟩) hheap).trans d3) ((World.frozen?_of_block (a:=⟨wo.heap.size,3,none⟩) hheap).trans f3))))
           clear hi2 hkid hf2 hb2 hstep hne hlt2 hheap f3 hcp2
           go_wp2_with (at_builtin;refine wpList_append_lies _ rfl (.tmp 49) (.tmp 51) _ rfl (wo.heap.size+1) 27 i0 z0 4 56 Try.underlying25 hi0 hz0 hz1 hz2 hz3 om rv j xs rfl ((ho.alloc _).alloc _) ⟨w2.heap.size+1,0,none⟩ 1 1 [.int .i64 qi,.int .i64 qk,.string qt,.slice ka2 m1 cap2] rfl rfl (World.news_of_block (cs:= #[.int .i64 qi,.int .i64 qk,.string qt,.slice ka2 m1 cap2]) (t:=27) (fr:=(0,0)) HNEW.out) ue0 om ue1 om ue6 (w2.heap.size+1+1) sp1 ?_;intro gg cap' w1 hown1 hgrow hat hlt1;have c1w:=(hgrow.cell_far _ HAUX.out.2.1 (Ne.symm HAUX.out.1)).trans HAUX.out.2.2.1;have f1w:=(hgrow.frozen_far _ HAUX.out.2.1 (Ne.symm HAUX.out.1)).trans HAUX.out.2.2.2)
           exact⟨⟨j+1,_,_,by omega,by go_num,hH (HST.out _ _ _ hown1 hgrow hat)⟩,by simp[intOf];omega⟩
         · have hjj:j=cn:=by omega
           have hi:=HKI.out
           obtain⟨ra,qj,rfl,hrc⟩:=vV hi.2.2.1
           have hz1:=(hi.2.1.block _ (lohQ HE.out.2.2)).trans HE.out.2.2
           obtain⟨q0,q1,q2,q3⟩:=zF ho4
           obtain⟨z0,z1,z2,z3⟩:=zF hz1
           have gz:∀j,wi.frozen? ⟨w.heap.size+1,j,none⟩=false:=fun j=>forQ _ _ j _ _ hz1
           have hjl:¬(j:Int)<(cn:Int):=by omega
           have HZ:=hH (zX hz1 (.int .i64 tid) (.int .i64 tk) (.string tx) (.slice ra j qj))
           have HLK:=hH (aN (show j=foLen ks by rw[hjj,HCN.out.1]) (aN hrc (aN hbi2 (lohQ HE.out.2.2))))
           clear hi hz1 ho4 hjj hrc hjt hj hbi2
           go_wp2_with fail
           refine brQ (results_cell_row rfl _ _ (w.heap.size+1) 27 _ _ _ rfl HZ.out.1 Try.underlying27 rfl kr1) rfl ?_
           have hs:=(HZ.out.2.1 w.heap.size om).size
           have hfo:=qf.done HKI.out HLK.out.1 rfl HLK.out.2.1
           refine⟨ra,qj,by rw[HREP.out,←HLK.out.1],by rw[HREP.out];simp only;rw[←HLK.out.1];exact HLK.out.2.1,?_,HLK.out.2.2.1.trans (HZ.out.2.1 _ om)⟩
           rw[HREP.out]
           exact hfo.kept fun q hq=>⟨⟨by have:=HLK.out.2.2.2;have:=hq.1;have:=HE.out.1.size;omega,nL hq.2 hs⟩,HZ.out.2.2 q (by have:=HLK.out.2.2.2;have:=hq.1;omega)⟩
      · have hbi:(ki == id)=false:=by simpa using hid
        rw[inQ hid] at hstep
        have HSTEP:=hH hstep
        have HPAR:=hH (zdr M wo S (.agg #[.int .i64 ki,.int .i64 kk,.string kt,.slice a1 (foLen l) n1]) ⟨ki,kk,kt,l⟩ id (by have:=HK1.out.2.2.2.2;have:=HH.out.2.1;simp only;omega) (by have:=HH.out.2.2.1;omega) (fun q hq=>nL (HH.out.2.2.2.1 q hq) HE.out.1.size) ⟨a1,n1,rfl,hcp1,hl1⟩)
        obtain⟨m0,hm0⟩:∃m,m=foLen l:=⟨_,rfl⟩
        rw[←hm0] at HPAR c3
        have HM0:=hH hm0
        simp only at c0 c1 c2
        clear hid hstep hcp1 hl1 hm0
        go_wp2_with fail
        refine HPAR.out.mono ?_
        rintro e w2 ⟨z,m,bb,pa,pn,pc,rfl,h1,h0,hb2⟩
        obtain⟨W3,hW3⟩:∃W3,W3=w2.alloc (.cells #[.int .i64 z.id,.int .i64 z.kind,.string z.text,.slice pa pn pc] 27):=⟨_,rfl⟩
        have hb3:Below wo.heap.size wo W3:=by rw[hW3];exact hb2.alloc hb2.size _
        have e03:=(hb3.block _ (lohQ HE.out.2.1)).trans HE.out.2.1
        have HW3:=hH hW3
        have HA:=hH (aN (fun h=>(h1 h).1) (aN h0 hb3))
        obtain⟨G,hG⟩:∃G,G=w2.heap.size:=⟨_,rfl⟩
        clear hb2 hb3 hW3 h1 h0 HPAR p0 p1 p2 p3 c0 c1 c2 c3
        go_upto_region 13 with fail
        change Code.wp _ _ _ _ (w2.alloc (.cells #[.int .i64 z.id,.int .i64 z.kind,.string z.text,.slice pa pn pc] 27))
        rw[←HW3.out,←hG]
        clear HW3 hG
        obtain⟨p0,p1,p2,p3⟩:=zF e03
        cases bb
        · have HN:=hH (show fpi id 0 kf=fpi id (k+1) (zm (k+1) kf) by
           rw[HSTEP.out]
           have h:=HA.out.2.1 rfl
           rw[Qs] at h
           cases hq:fpi id 0 l with
           | none=>rfl
           | some q=>
             obtain⟨_,_,_,_,_,_,_,_,hp⟩:=je (t:=⟨ki,kk,kt,l⟩) hq
             rw[hp] at h;cases h)
          clear e03 p0 p1 p2 p3
          go_wp2_with fail
          exact⟨⟨k+1,by have:=HLT.out;omega,by go_num,hH ⟨HN.out,HHH.out.trans (HA.out.2.2.mono HHH.out.size)⟩⟩,by have:=HLT.out;simp[intOf];omega⟩
        · have hbw3:=HE.out.1.trans (HA.out.2.2.mono HE.out.1.size)
          have HPT:=hH (HA.out.1 rfl)
          have HCP:=hH (Zo (za kf+1) W3 S (.agg #[.int .i64 tid,.int .i64 tk,.string tx,.slice (some ⟨b,off,none⟩) len cap]) ⟨tid,tk,tx,kf⟩ (Nat.lt_succ_self _) (by have:=HH.out.2.1;have:=HH.out.2.2.1;simp only;omega) (fun q hq=>nL (HH.out.2.2.2.1 q hq) hbw3.size) ⟨some ⟨b,off,none⟩,cap,by simp only[HH.out.1],by have:=HH.out.2.2.2.2.2.2;exact this,HH.out.2.2.2.2.2.1.below hbw3 HH.out.2.2.2.1⟩)
          have HW3:=hH (aN hbw3 e03)
          clear hbw3 e03
          go_wp2_with fail
          refine HCP.out.mono ?_
          rintro e W4 ⟨ra,rc,xs,rfl,hrc,ho,hr,hb4⟩
          simp only at hrc ho hr ⊢
          rw[←HH.out.1] at hrc ho hr ⊢
          obtain⟨g,cp,cur,hgv,hgb,hgh,hg3,hg4,hg5,hg6⟩:∃g cp cur,(.slice ra len rc:Value)= .slice (some ⟨g,0,none⟩) len cp∧W3.heap.size≤g∧W4.heap[g]? =some (.cells cur 27 (0,0))∧len≤cp∧cp≤maxLen∧cur.size=cp*4∧cur.toList.take (len*4)=xs:=by
           rcases ho.2 with ⟨_,h0⟩ | h
           · have:=HLT.out;omega
           · exact h
          cases hgv
          obtain⟨W5,hW5⟩:∃W5,W5=W4.alloc (.cells #[.int .i64 tid,.int .i64 tk,.string tx,.slice (some ⟨g,0,none⟩) len rc] 27):=⟨_,rfl⟩
          have hb5:Below W4.heap.size W4 W5:=by rw[hW5];exact (BrQ _ _).alloc (NlrQ _) _
          have eo:W5.heap[W4.heap.size]? =some (.cells #[.int .i64 tid,.int .i64 tk,.string tx,.slice (some ⟨g,0,none⟩) len rc] 27 (0,0)):=by rw[hW5];exact hanQ _ _
          obtain⟨OB,hOB⟩:∃OB,OB=W4.heap.size:=⟨_,rfl⟩
          have hs5:W5.heap.size=W4.heap.size+1:=by rw[hW5];simp
          have HW5:=hH hW5
          have hbw5:=HW3.out.1.trans ((hb4.trans (hb5.mono hb4.size)).mono HW3.out.1.size)
          rw[←hOB] at eo
          have HG:=hH (aN hgb (aN hgh (aN hg3 (aN hg5 (aN hg6 (aN hr (aN hb4 (aN hb5 (aN hs5 (aN hOB (aN hbw5 eo)))))))))))
          clear hgb hgh hg3 hg4 hg5 hg6 hr ho hb4 hb5 hs5 hbw5 eo hW5 HCP p0 p1 p2 p3
          go_upto_region 15 with fail
          change Code.wp _ _ _ _ (W4.alloc (.cells #[.int .i64 tid,.int .i64 tk,.string tx,.slice (some ⟨g,0,none⟩) len rc] 27))
          rw[←HW5.out,←hOB]
          clear HW5 hOB
          obtain⟨hgb,hgh,hg3,hg5,hg6,hr,hb4,hb5,hs5,hOB,hbw5,eo⟩:=HG.out
          have e05:=((hb4.trans (hb5.mono hb4.size)).block _ (lohQ HW3.out.2)).trans HW3.out.2
          have hk5:zk W5 S kf (some ⟨b,off,none⟩):=HH.out.2.2.2.2.2.1.below hbw5 HH.out.2.2.2.1
          obtain⟨b2,o2,⟨ki2,kk2,kt2⟩,l2,r2,hd2,b',off',a2,n2,hbe,hSb,c0,c1,c2,c3,hcp2,hl2⟩:=hk5.at k (by rw[←HH.out.1];exact HLT.out)
          cases hbe
          have hku2:zB kf k=some ⟨ki2,kk2,kt2,l2⟩:=by rw[zB,hd2];rfl
          rw[HK1.out.2.1] at hku2
          cases hku2
          have hgw:w.heap.size≤g:=NltQ HW3.out.1.size hgb
          have hbw:b<w.heap.size:=HH.out.2.2.2.1 b hSb
          have hg4:g<W4.heap.size:=lohQ hgh
          rw[←HM0.out] at c3
          simp only at c0 c1 c2
          have HCX:Hid (∀X:World,(W5.heap.size≤X.heap.size∧∀y,y<W5.heap.size→y≠g→X.heap[y]? =W5.heap[y]?)→X.cell? ⟨w.heap.size,3,none⟩=some (.slice (some ⟨b,off,none⟩) len cap)∧X.cell? ⟨OB,3,none⟩=some (.slice (some ⟨g,0,none⟩) len rc)∧X.cell? ⟨b,off+k*4,none⟩=some (.int .i64 ki)∧X.cell? ⟨b,off+k*4+1,none⟩=some (.int .i64 kk)∧X.cell? ⟨b,off+k*4+2,none⟩=some (.string kt)∧X.cell? ⟨b,off+k*4+3,none⟩=some (.slice a2 m0 n2)):=hH fun X hX=>by
           have hbX:=hX.2 b (by have:=hbw5.size;omega) om
           refine⟨?_,?_,(World.cell?_of_block (a:=⟨b,off+k*4,none⟩) hbX).trans c0,(World.cell?_of_block (a:=⟨b,off+k*4+1,none⟩) hbX).trans c1,(World.cell?_of_block (a:=⟨b,off+k*4+2,none⟩) hbX).trans c2,(World.cell?_of_block (a:=⟨b,off+k*4+3,none⟩) hbX).trans c3⟩
           · rw[corQ _ _ 3 _ _ _ ((hX.2 _ (lohQ e05) (by have:=HE.out.1.size;have:=lohQ HE.out.2.1;have:=HA.out.2.2.size;omega)).trans e05)];rfl
           · rw[corQ _ _ 3 _ _ _ ((hX.2 _ (lohQ eo) om).trans eo)];rfl
          have HC:Hid (∀X:World,(W5.heap.size≤X.heap.size∧∀y,y<W5.heap.size→y≠g→X.heap[y]? =W5.heap[y]?)→Calls Try.prog 96 #[.agg #[.int .i64 ki,.int .i64 kk,.string kt,.slice a2 m0 n2],.int .i64 id,.slice ca cn cc] X (zcu (kY id ks ⟨ki,kk,kt,l⟩) X)):=hH fun X hX=>by
           have hkeep:∀q,S q→S q∧X.heap[q]? =W5.heap[q]?:=fun q hq=>⟨hq,hX.2 q (nL (HH.out.2.2.2.1 q hq) hbw5.size) (by have:=HH.out.2.2.2.1 q hq;omega)⟩
           exact HIH.out X S _ ⟨ki,kk,kt,l⟩ (by have:=HK1.out.2.2.2.2;have:=HH.out.2.1;simp only;omega) (by have:=HH.out.2.2.1;omega) (fun q hq=>nL (HH.out.2.2.2.1 q hq) (NltQ hbw5.size hX.1)) ((HH.out.2.2.2.2.1.below hbw5 HH.out.2.2.2.1).kept hkeep) ⟨a2,n2,by rw[HM0.out],hcp2,hl2.kept hkeep⟩
          have hSW0:W5.heap.size≤W5.drew.heap.size∧∀y,y<W5.heap.size→y≠g→W5.drew.heap[y]? =W5.heap[y]?:=by
           have h:=below_drewN (BrQ W5.heap.size W5) 1
           exact⟨h.size,fun y hy _=>h.block y hy⟩
          have hki:(k:Int)<(len:Int):=by have:=HLT.out;omega
          clear hgb hgh hg3 hg5 hg6 hr hb4 hb5 hs5 hOB hbw5 eo e05 hk5 hd2 hSb c0 c1 c2 c3 hcp2 hl2 hgw hbw hg4
          refine wrhQ (S:=fun X=>W5.heap.size≤X.heap.size∧∀y,y<W5.heap.size→y≠g→X.heap[y]? =W5.heap[y]?) kr1 hSW0 (fun uH=>?_)
          clear hSW0
          refine tJ (i:=0) (.pointer (some ⟨OB,3,none⟩)) rfl ?_ ?_
          · exact uc0
          simp only[Act.put,pg]
          refine tJ (i:=1) (.slice (some ⟨g,0,none⟩) len rc) rfl ?_ ?_
          · exact uc0
          simp only[Act.put,pg]
          refine tJ (i:=2) (.int .i64 (k:Int)) rfl ?_ ?_
          · exact uc0
          simp only[Act.put,pg]
          refine tJ (i:=3) (.pointer (some ⟨w.heap.size,3,none⟩)) rfl ?_ ?_
          · exact uc0
          simp only[Act.put,pg]
          refine tJ (i:=4) (.slice (some ⟨b,off,none⟩) len cap) rfl ?_ ?_
          · exact uc0
          simp only[Act.put,pg]
          refine tJ (i:=5) (.int .i64 (k:Int)) rfl ?_ ?_
          · exact uc0
          simp only[Act.put,pg]
          refine tJ (i:=6) (.pointer (some ⟨b,off+k*4,none⟩)) rfl ?_ ?_
          · exact uc0
          simp only[Act.put,pg]
          refine tJ (i:=7) (.agg #[.int .i64 ki,.int .i64 kk,.string kt,.slice a2 m0 n2]) rfl ?_ ?_
          · exact uc0
          simp only[Act.put,pg]
          refine tJ (i:=8) (.int .i64 id) rfl ?_ ?_
          · exact uc0
          simp only[Act.put,pg]
          refine tJ (i:=9) (.slice ca cn cc) rfl ?_ ?_
          · exact uc0
          simp only[Act.put,pg]
          refine rd [10] ?_
          refine AcQ (o:=_) rfl (fun K hK=>?_) AnQ
          rw[ipQ uf0]
          simp only[pg3]
          have HK:=hH hK
          have HS:=hH uH
          clear hK uH
          go_wp2_with (go_at_call 96;refine (HC.out _ HS.out).mono ?_;rintro e W6 ⟨va,vc,rfl,hvc,hvf,hb6⟩;obtain⟨y,hy⟩:∃y,y=kY id ks ⟨ki,kk,kt,l⟩:=⟨_,rfl⟩;rw[←hy] at hvc hvf ⊢;obtain⟨yn,hyn⟩:∃yn,yn=foLen y.kids:=⟨_,rfl⟩;rw[←hyn] at hvc ⊢;have HY:=hH (aN hy (aN hyn (aN hvc (aN hvf hb6))));have HP:=hH (zjn HS.out hb6);clear hy hyn hvc hvf hb6)
          refine HK.out _ _ HP.out (fun uH=>?_)
          clear HK HS
          refine tJ (i:=11) (.pointer (some ⟨g,k*4,none⟩)) rfl ?_ ?_
          · exact uc0
          simp only[Act.put,pg]
          obtain⟨hgb,hgh,hg3,hg5,hg6,hr,hb4,hb5,hs5,hOB,hbw5,eo⟩:=HG.out
          have hd:=below_drewN (BrQ W5.heap.size W5) 1
          have hg4:g<W4.heap.size:=lohQ hgh
          have hg5' :g<W5.heap.size:=by omega
          have hgW:W6.heap[g]? =some (.cells cur 27 (0,0)):=(HY.out.2.2.2.2.block g (nL hg5' hd.size)).trans ((hd.block g hg5').trans ((hb5.block g hg4).trans hgh))
          have hcs:k*4+3<cur.size:=by rw[hg5];have:=HLT.out;omega
          obtain⟨⟨⟨s0,u0⟩,f0,⟨s1,u1⟩,f1,⟨s2,u2⟩,f2,⟨s3,u3⟩,f3⟩,V,hV,g1,g2,g3,g4,g5,g6⟩:=zjm (.int .i64 y.id) (.int .i64 y.kind) (.string y.text) (.slice va yn vc) hgW hcs
          have HV:=hH hV
          have HSV:=hH (show W5.heap.size≤V.heap.size∧∀y,y<W5.heap.size→y≠g→V.heap[y]? =W5.heap[y]? from⟨by rw[g6];exact HP.out.1,fun y hy hg=>(g2 y hg).trans (HP.out.2 y hy hg)⟩)
          have HVG:=hH (aN g1 (aN g2 (aN g3 (aN g4 (aN g5 (aN g6 hcs))))))
          have HB26:=hH (hd.trans (HY.out.2.2.2.2.mono hd.size))
          clear hgb hgh hg3 hg5 hg6 hr hb4 hb5 hs5 hOB hbw5 eo hd hg4 hg5' hgW hV g1 g2 g3 g4 g5 g6 hcs
          refine rd [12] ?_
          refine AcQ (o:=_) rfl (fun K hK=>?_) AnQ
          rw[ipQ uf0]
          simp only[pg3]
          have HK:=hH hK
          clear hK uH
          go_wp2_with fail
          rw[←HV.out]
          refine HK.out _ _ HSV.out (fun uH=>?_)
          clear HK s0 u0 f0 u1 f1 u2 f2 u3 f3
          refine wpAnyH_done kr1 ?_ _
          clear uH HC HCX
          have eo:=HG.out.2.2.2.2.2.2.2.2.2.2.2
          have eV:=(HSV.out.2 OB (lohQ eo) (by rw[HG.out.2.2.2.2.2.2.2.2.2.1];have:=lohQ HG.out.2.1;omega)).trans eo
          have hW3s:=HA.out.2.2.size
          have hz3:=(HA.out.2.2.block _ (lohQ HE.out.2.2)).trans HE.out.2.2
          have hz5:=(HG.out.2.2.2.2.2.2.2.1.block _ (nL (lohQ hz3) HG.out.2.2.2.2.2.2.1.size)).trans ((HG.out.2.2.2.2.2.2.1.block _ (lohQ hz3)).trans hz3)
          have hzg:w.heap.size+1≠g:=by have:=lohQ hz3;have:=HG.out.1;omega
          have er:=(HSV.out.2 _ (lohQ hz5) hzg).trans hz5
          obtain⟨y0,y1,y2,y3⟩:=zF eV
          obtain⟨z0,z1,z2,z3⟩:=zF er
          have zf:∀j,V.frozen? ⟨w.heap.size+1,j,none⟩=false:=fun j=>forQ _ _ j _ _ er
          have HZ:=hH (zX er (.int .i64 tid) (.int .i64 tk) (.string tx) (.slice (some ⟨g,0,none⟩) len rc))
          have HZZ:=hH (aN hzg (lohQ hz3))
          have HREP:=hH (show kY id ks ⟨tid,tk,tx,kf⟩=⟨tid,tk,tx,vv kf k y⟩ by
           have h:=HPT.out
           rw[Qs] at h
           cases hq:fpi id 0 l with
           | none=>rw[Q0 (t:=⟨ki,kk,kt,l⟩) hq] at h;cases h
           | some q=>
             have h2:=HSTEP.out
             simp only[hq] at h2
             rw[zh9 (t:=⟨tid,tk,tx,kf⟩) HK1.out.2.1 hq h2,←HY.out.1])
          clear eo eV hz3 hz5 hzg er
          go_wp2_with fail
          refine brQ (results_cell_row rfl _ _ (w.heap.size+1) 27 _ _ _ rfl HZ.out.1 Try.underlying27 rfl kr1) rfl ?_
          obtain⟨hgb,hgh,hg3,hg5,hg6,hr,hb4,hb5,hs5,hOB,hbw5,eo⟩:=HG.out
          obtain⟨g1,g2,g3,g4,g5,g6,hcs⟩:=HVG.out
          have hg4:g<W4.heap.size:=lohQ hgh
          have hzs:=(HZ.out.2.1 w.heap.size om).size
          have hb26:=HB26.out
          have hww:=HE.out.1.size
          have hbV:Below w.heap.size w V:=⟨g3.trans (hb26.os.trans hbw5.os),g4.trans (hb26.tape.trans hbw5.tape),g5.trans (hb26.output.trans hbw5.output),by rw[g6];exact NltQ hbw5.size hb26.size,fun x hx=>(g2 x om).trans ((hb26.block x (nL hx hbw5.size)).trans (hbw5.block x hx))⟩
          have hlk:k<foLen kf:=by rw[←HH.out.1];exact HLT.out
          refine⟨some ⟨g,0,none⟩,rc,by rw[HREP.out];simp only[Z4];rw[←HH.out.1],by rw[HREP.out];simp only[Z4];rw[←HH.out.1];exact hrc,?_,hbV.trans (HZ.out.2.1 _ om)⟩
          rw[HREP.out]
          have hold:∀x,x≠w.heap.size+1→x≠g→_:=fun x h1 h2=>(HZ.out.2.2 x h1).trans (g2 x h2)
          have hSg:w.heap.size≤g∧g<V.heap.size:=⟨by omega,by rw[g6];have:=hb26.size;omega⟩
          have hZZ:=HZZ.out.2
          have hg2:=(HZ.out.2.2 g (fun e=>HZZ.out.1 e.symm)).trans g1
          have hnew:=zgw (u0:= .int .i64 y.id) (u1:= .int .i64 y.kind) (u2:= .string y.text) (u3:= .slice va yn vc) hcs
          refine JS kf k (zbO kf k xs hr hlk ⟨hSg.1,nL hSg.2 hzs⟩ (fun x hx=>?_) (fun j u hj hjk=>?_)) ?_ hlk
          · have hxg:x≠g:=fun e=>hx.2 (by rw[e];rfl)
            have hx1:=hx.1.1
            have hx2:=hx.1.2
            exact⟨⟨by omega,nL (by rw[g6];have:=hb26.size;omega) hzs⟩,(hold x om hxg).trans ((hb26.block x om).trans (hb5.block x hx2))⟩
          · rw[Nat.zero_add,corQ _ _ _ _ _ _ hg2,zeH hjk]
            rw[←hg6,List.getElem?_take] at hj
            split at hj
            · rw[Array.getElem?_toList] at hj;exact hj
            · cases hj
          · rw [Nat.zero_add]
            refine⟨⟨hSg.1,nL hSg.2 hzs⟩,?_,?_,?_,va,vc,?_,by rw[←HY.out.2.1];exact HY.out.2.2.1,HY.out.2.2.2.1.kept fun x hx=>?_⟩
            · rw[corQ _ _ _ _ _ _ hg2];exact hnew.1
            · rw[corQ _ _ _ _ _ _ hg2];exact hnew.2.1
            · rw[corQ _ _ _ _ _ _ hg2];exact hnew.2.2.1
            · rw[corQ _ _ _ _ _ _ hg2,←HY.out.2.1];exact hnew.2.2.2
            · have hx1:W5.heap.size≤x:=NltQ (below_drewN (BrQ W5.heap.size W5) 1).size hx.1
              have hx2:=hx.2
              exact⟨⟨by have:=hbw5.size;omega,nL (by rw[g6];exact hx2) hzs⟩,hold x (by have:=hb5.size;have:=hb4.size;omega) om⟩
    · have hki:¬(k:Int)<(len:Int):=by omega
      have HREP:=hH (zj9 (ks:=ks) (t:=⟨tid,tk,tx,kf⟩) (by show fpi id 0 kf=none;rw[hh.out.1,qJ k kf (by rw[←HH.out.1];omega)];rfl))
      have HC:=hH (zgd (za kf+1) wo S (.agg #[.int .i64 tid,.int .i64 tk,.string tx,.slice ka len cap]) ⟨tid,tk,tx,kf⟩ (Nat.lt_succ_self _) (by have:=HH.out.2.1;have:=HH.out.2.2.1;simp only;omega) (fun q hq=>nL (HH.out.2.2.2.1 q hq) hbw.size) ⟨ka,cap,by simp only[HH.out.1],by have:=HH.out.2.2.2.2.2.2;exact this,HH.out.2.2.2.2.2.1.below hbw HH.out.2.2.2.1⟩)
      clear hh hlt hk hbw e0 e1
      go_wp2_with fail
      refine HC.out.mono ?_
      rintro e w2 ⟨_,rfl,⟨va,vc,rfl,hvc,hvf⟩,hb2⟩
      simp only at hvc hvf ⊢
      rw[←HH.out.1] at hvc ⊢
      have hz1:=(hb2.block _ (lohQ HE.out.2.2)).trans HE.out.2.2
      obtain⟨z0,z1,z2,z3⟩:=zF hz1
      have gz:∀j,w2.frozen? ⟨w.heap.size+1,j,none⟩=false:=fun j=>forQ _ _ j _ _ hz1
      have HZ:=hH (zX hz1 (.int .i64 tid) (.int .i64 tk) (.string tx) (.slice va len vc))
      have HW:=hH (aN hvc (aN hvf (aN (HE.out.1.trans (hb2.mono HE.out.1.size)) (lohQ HE.out.2.2))))
      clear hvc hvf hb2 hz1 p0 p1 p2 p3
      go_wp2_with fail
      refine brQ (results_cell_row rfl _ _ (w.heap.size+1) 27 _ _ _ rfl HZ.out.1 Try.underlying27 rfl kr1) rfl ?_
      have hs:=(HZ.out.2.1 w.heap.size om).size
      refine⟨va,vc,by rw[HREP.out,←HH.out.1],by rw[HREP.out];simp only;rw[←HH.out.1];exact HW.out.1,?_,HW.out.2.2.1.trans (HZ.out.2.1 _ om)⟩
      rw[HREP.out]
      exact HW.out.2.1.kept fun q hq=>⟨⟨NltQ HE.out.1.size hq.1,nL hq.2 hs⟩,HZ.out.2.2 q (by have:=hq.1;have:=HW.out.2.2.2;omega)⟩
end Go.Proofs.Ytnikgofkldkdkaa
