/-
  .
-/
import Derived.Test.YtnikgofkldkdkaaNStepPQt
set_option maxRecDepth 100000
set_option maxHeartbeats 40000000
set_option linter.unusedVariables false
set_option linter.unusedSimpArgs false
namespace Go.Proofs.Ytnikgofkldkdkaa
open Go.RowKit Go.Shelf
def mkF (id:Int)(tx:ByteArray)(ks:Fo):Bool→Fo→Fo×Bool
 | b,.nil=>(.nil,b)
 | b,.node x y k l r=>
   if b=false∧k.1=id then (.node x y (k.1,k.2.1,tx) ks (mkF id tx ks true r).1,(mkF id tx ks true r).2)
   else (.node x y k (mkF id tx ks b l).1 (mkF id tx ks (mkF id tx ks b l).2 r).1,(mkF id tx ks (mkF id tx ks b l).2 r).2)
def mkT (id:Int)(tx:ByteArray)(ks:Fo)(b:Bool)(t:Tr):Tr×Bool:=
 if b=false∧t.id=id then (⟨t.id,t.kind,tx,ks⟩,true) else (⟨t.id,t.kind,t.text,(mkF id tx ks b t.kids).1⟩,(mkF id tx ks b t.kids).2)
section
variable (id:Int) (tx:ByteArray) (ks:Fo)
theorem Qn:∀f:Fo,mkF id tx ks true f=(f,true)
 | .nil=>rfl
 | .node x y k l r=>by
   rw[mkF,inQ sp1,Qn l,Qn r]
theorem zb8:∀(b:Bool) (f:Fo),foLen (mkF id tx ks b f).1=foLen f
 | b,.nil=>rfl
 | b,.node x y k l r=>by
   rw[mkF]
   split
   · simp only[foLen];rw[zb8 true r]
   · simp only[foLen];rw[zb8 _ r]
theorem zaw (x y:Nat)(k:Int×Int×ByteArray)(l:Fo):∀(b:Bool) (f:Fo),mkF id tx ks b (qD f x y k l)=
 (qD (mkF id tx ks b f).1 x y ((mkT id tx ks (mkF id tx ks b f).2 ⟨k.1,k.2.1,k.2.2,l⟩).1.id,(mkT id tx ks (mkF id tx ks b f).2 ⟨k.1,k.2.1,k.2.2,l⟩).1.kind,(mkT id tx ks (mkF id tx ks b f).2 ⟨k.1,k.2.1,k.2.2,l⟩).1.text) (mkT id tx ks (mkF id tx ks b f).2 ⟨k.1,k.2.1,k.2.2,l⟩).1.kids,(mkT id tx ks (mkF id tx ks b f).2 ⟨k.1,k.2.1,k.2.2,l⟩).2)
 | b, .nil=>by
   show mkF id tx ks b (.node x y k l .nil)=_
   have e3:mkF id tx ks b .nil=(.nil,b):=rfl
   by_cases h:b=false∧k.1=id
   · have e1:mkF id tx ks b (.node x y k l .nil)=(.node x y (k.1,k.2.1,tx) ks .nil,true):=by rw[mkF,ipQ h];rfl
     have e2:mkT id tx ks b ⟨k.1,k.2.1,k.2.2,l⟩=(⟨k.1,k.2.1,tx,ks⟩,true):=by rw[mkT,ipQ h]
     rw[e1,e3]
     simp only[e2]
     rfl
   · have e1:mkF id tx ks b (.node x y k l .nil)=(.node x y k (mkF id tx ks b l).1 .nil,(mkF id tx ks b l).2):=by rw[mkF,inQ h];rfl
     have e2:mkT id tx ks b ⟨k.1,k.2.1,k.2.2,l⟩=(⟨k.1,k.2.1,k.2.2,(mkF id tx ks b l).1⟩,(mkF id tx ks b l).2):=by rw[mkT,inQ h]
     rw[e1,e3]
     simp only[e2]
     rfl
 | b, .node x' y' k' l' r'=>by
   simp only[qD]
   by_cases h:b=false∧k'.1=id
   · rw[mkF,ipQ h,zaw x y k l true r',mkF,ipQ h]
     rfl
   · rw[mkF,inQ h,zaw x y k l _ r',mkF,inQ h]
     rfl
theorem zc1 (b:Bool):∀(k:Nat) (f:Fo),zy k (mkF id tx ks b f).1=(mkF id tx ks b (zy k f)).1:=by
 intro k f
 induction f generalizing b k with
 | nil=>cases k<;>rfl
 | node x y a l r ihl ihr=>
   cases k with
   | zero=>rw[mkF];split<;>rfl
   | succ k=>
     simp only[zy]
     by_cases h:b=false∧a.1=id
     · rw[mkF,ipQ h,mkF,ipQ h]
       simp only[zy]
       rw[ihr]
     · rw[mkF,inQ h,mkF,inQ h]
       simp only[zy]
       rw[ihr]
theorem Ye :∀(f:Fo) (i:Nat),(fpi id i f=none→mkF id tx ks false f=(f,false))∧∀q,fpi id i f=some q→∃j p u v,q=(i+j)::p∧zB f j=some u∧atT u p=some v∧v.id=id∧mkF id tx ks false f=(vv f j (zP u p ⟨v.id,v.kind,tx,ks⟩),true)
 | .nil,i=>⟨fun _=>rfl,fun q h=>by simp[fpi] at h⟩
 | .node x y k l r,i=>by
   obtain⟨l1,l2⟩:=Ye l 0
   obtain⟨r1,r2⟩:=Ye r (i+1)
   rw[fpi]
   by_cases hk:k.1=id
   · rw[ipQ hk]
     refine⟨fun h=>by simp at h,fun q h=>?_⟩
     cases h
     refine⟨0,[],⟨k.1,k.2.1,k.2.2,l⟩,⟨k.1,k.2.1,k.2.2,l⟩,by simp,rfl,rfl,hk,?_⟩
     rw[mkF,ipQ ⟨rfl,hk⟩,Qn]
     rfl
   · rw [inQ hk]
     cases hl:fpi id 0 l with
     | some p=>
       refine⟨fun h=>by simp at h,fun q h=>?_⟩
       cases h
       obtain⟨j,p',u,v,e,hu,hv,hid,hm⟩:=l2 p hl
       rw[Nat.zero_add] at e
       refine⟨0,p,⟨k.1,k.2.1,k.2.2,l⟩,v,by simp,rfl,?_,hid,?_⟩
       · rw[e];simp only[atT,hu];exact hv
       · rw[mkF,inQ (fun h=>hk h.2),hm,Qn,e]
         simp only[zP,hu,vv]
     | none=>
       simp only
       rw[mkF,inQ (fun h=>hk h.2),l1 hl]
       refine⟨fun h=>by rw[r1 h],fun q h=>?_⟩
       obtain⟨j,p',u,v,e,hu,hv,hid,hm⟩:=r2 q h
       exact⟨j+1,p',u,v,by rw[e];congr 1;omega,by simpa [zB,zm] using hu,hv,hid,by rw[hm];rfl⟩
theorem zc2 {t:Tr}{p:List Nat}(h:zw id t=some p):∃u,atT t p=some u∧u.id=id∧mkT id tx ks false t=(zP t p ⟨u.id,u.kind,tx,ks⟩,true):=by
 unfold zw at h
 by_cases ht:t.id=id
 · rw[ipQ ht] at h
   cases h
   exact⟨t,rfl,ht,by rw[mkT,ipQ ⟨rfl,ht⟩];rfl⟩
 · rw[inQ ht] at h
   obtain⟨j,p',u,v,e,hu,hv,hid,hm⟩:=(Ye id tx ks t.kids 0).2 p h
   rw[Nat.zero_add] at e
   refine⟨v,by rw[e];simp only[atT,hu];exact hv,hid,?_⟩
   rw[mkT,inQ (fun h=>ht h.2),hm,e]
   simp only[zP,hu]
end
def zga (id:Int)(t:Tr):Option (List Nat×Tr×Nat):=match fpi id 0 t.kids with
 | none=>none
 | some q=>(atT t q.dropLast).map fun u=>(q.dropLast,u,q.getLastD 0)
theorem ziR:∀(id:Int) (f:Fo) (i:Nat) (q:List Nat),fpi id i f=some q→∃j p u v,q=(i+j)::p∧zB f j=some u∧atT u p=some v∧v.id=id:=fun id f i q h=>by
 obtain⟨j,p,u,v,e,hu,hv,hid,_⟩:=(Ye id ⟨#[]⟩ .nil f i).2 q h
 exact⟨j,p,u,v,e,hu,hv,hid⟩
theorem je {id:Int}{t:Tr}{q:List Nat}(h:fpi id 0 t.kids=some q):∃p i u v,q=p++[i]∧atT t p=some u∧zB u.kids i=some v∧v.id=id∧zga id t=some (p,u,i):=by
 obtain⟨j,p',u,v,e,hu,hv,hid⟩:=ziR id t.kids 0 q h
 have hne:q≠[]:=by rw[e];simp
 have hat:atT t q=some v:=by rw[e,Nat.zero_add];simp only[atT,hu];exact hv
 obtain⟨p,i,rfl⟩:∃p i,q=p++[i]:=⟨q.dropLast,q.getLast hne,(List.dropLast_concat_getLast hne).symm⟩
 obtain⟨z,hz,hzv⟩:=kQ p i t v hat
 refine⟨p,i,z,v,rfl,hz,hzv,hid,?_⟩
 unfold zga
 rw[h]
 simp[hz,List.getLastD_eq_getLast?]
theorem Q0 {id:Int}{t:Tr}(h:fpi id 0 t.kids=none):zga id t=none:=by unfold zga;rw[h]
end Go.Proofs.Ytnikgofkldkdkaa
namespace Go.Proofs.Ytnikgofkldkdkaa
open Go.RowKit Go.Shelf
def YQ (id:Int)(t:Tr)(i:Nat):Fo→Option (Tr×Nat)
 | .nil=>none
 | .node x y k l r=>if k.1=id then some (t,i) else match YQ id ⟨k.1,k.2.1,k.2.2,l⟩ 0 l with
   | some z=>some z
   | none=>YQ id t (i+1) r
def QZ (id:Int)(t:Tr):Option (Tr×Nat):=YQ id t 0 t.kids
theorem jX {P:Program}{fn:Func}{p u s:Tmp}{ty:TypeId}(h:fn.results= #[.cell p ty,.tmp u,.tmp s])(tmps:Array Value)(w:World)(g:Nat)(t:TypeId)(cs:Array Value)(fr:Nat×Nat)(d:TypeDesc)(x y:Value)
 (hp:tmps.getD p undef= .pointer (some ⟨g,0,none⟩)) (hg:w.heap[g]? =some (.cells cs t fr)) (hu:P.underlying ty=some d) (hd:(match d with | .struct _ | .array _ _=>true | _=>false)=true) (hi:(P.info? ty).map (·.size)=some cs.size) (hp2:tmps.getD u undef=x) (hp3:tmps.getD s undef=y):
 (results fn tmps).run P w= .ok (.tuple #[.agg cs,x,y]) w:=by
 have hp' :tmps[p]?.getD undef= .pointer (some ⟨g,0,none⟩):=by simpa using hp
 have hp2' :tmps[u]?.getD undef=x:=by simpa using hp2
 have hp3' :tmps[s]?.getD undef=y:=by simpa using hp3
 simp[results,h,hp',hp2',hp3',asAddr,run_loadVar_row w g t ty cs fr d hg hu hd hi]
theorem zF {w:World}{b:Nat}{c0 c1 c2 c3:Value}{T:TypeId}(h:w.heap[b]? =some (.cells #[c0,c1,c2,c3] T (0,0))):w.cell? ⟨b,0,none⟩=some c0∧w.cell? ⟨b,1,none⟩=some c1∧w.cell? ⟨b,2,none⟩=some c2∧w.cell? ⟨b,3,none⟩=some c3:=
 ⟨by rw[corQ _ _ 0 _ _ _ h];rfl,by rw[corQ _ _ 1 _ _ _ h];rfl,by rw[corQ _ _ 2 _ _ _ h];rfl,by rw[corQ _ _ 3 _ _ _ h];rfl⟩
def zkJ (id:Int)(t:Tr)(S:Nat→Prop)(w:World)(e:Ending)(w' :World):Prop:=∃(z:Tr) (k:Nat) (b:Bool) (pa:Option Addr) (pn pc:Nat),e= .returned (.tuple #[.agg #[.int .i64 z.id,.int .i64 z.kind,.string z.text,.slice pa pn pc],.int .i64 (k:Int),.bool b])∧(b=true→QZ id t=some (z,k)∧pn=foLen z.kids∧foLen z.kids≤pc∧zk w' S z.kids pa)∧(b=false→QZ id t=none)∧Below w.heap.size w w'
theorem zf9 {id:Int}{t:Tr}{f:Fo}{j x y:Nat}{k:Int×Int×ByteArray}{l r:Fo}(hd:zm j f= .node x y k l r)(hr:zm (j+1) f=r):YQ id t j (zm j f)=if k.1=id then some (t,j) else match QZ id ⟨k.1,k.2.1,k.2.2,l⟩ with
 | some z=>some z
 | none=>YQ id t (j+1) (zm (j+1) f):=by
 rw[hd,YQ,hr];rfl
def zgY (w:World)(t:Tr)(id:Int)(cs zs:Array Value)(k:Nat)(wr:World):Prop:=QZ id t=YQ id t k (zm k t.kids)∧wr.heap[w.heap.size]? =some (.cells cs 27 (0,0))∧wr.heap[w.heap.size+1]? =some (.cells zs 27 (0,0))∧Below w.heap.size w wr∧w.heap.size+2≤wr.heap.size
theorem zcg {w wo V:World}(h:Below w.heap.size w wo)(v2:∀y,y≠w.heap.size+1→V.heap[y]? =wo.heap[y]?)(v3:V.os=wo.os)(v4:V.tape=wo.tape)(v5:V.output=wo.output)(v6:V.heap.size=wo.heap.size):Below w.heap.size w V:=
 ⟨v3.trans h.os,v4.trans h.tape,v5.trans h.output,by rw[v6];exact h.size,fun y hy=>(v2 y om).trans (h.block y hy)⟩
theorem zdr :∀(M:Nat) (w:World) (S:Nat→Prop) (v:Value) (t:Tr) (id:Int),za t.kids<M→M≤500000→(∀k,S k→k<w.heap.size)→zK w S v t→
 Calls Try.prog 95 #[v,.int .i64 id] w (zkJ id t S w):=by
 intro M
 induction M with
 | zero=>intro w S v t id h;omega
 | succ M ih=>
   intro w S v t id hM hMb hS hv
   obtain⟨ka,cap,rfl,hcap,hk⟩:=hv
   obtain⟨tid,tk,tx,ks⟩:=t
   simp only at hM hcap hk ⊢
   obtain⟨len,hlen⟩:∃len,len=foLen ks:=⟨_,rfl⟩
   rw[←hlen] at hcap ⊢
   have hl5:len≤500000:=by have:=zM ks;omega
   obtain⟨B,hB⟩:∃B,B=zx w [.cells #[.int .i64 tid,.int .i64 tk,.string tx,.slice ka len cap] 27,.cells #[.int .i64 0,.int .i64 0,.string ⟨#[]⟩,.slice none 0 0] 27]:=⟨_,rfl⟩
   have HST:Hid (zgY w ⟨tid,tk,tx,ks⟩ id #[.int .i64 tid,.int .i64 tk,.string tx,.slice ka len cap] #[.int .i64 0,.int .i64 0,.string ⟨#[]⟩,.slice none 0 0] 0 B):=hH ⟨by rw[qG];rfl,by rw[hB];exact ze _ _ 0 _ rfl,by rw[hB];exact ze _ _ 1 _ rfl,by rw[hB];exact zl _ _,by rw[hB,zJ];exact NlrQ _⟩
   have HH:=hH (aN hk (aN hS (aN hlen (aN hM (aN hMb hcap)))))
   have HIH:=hH ih
   have HBE:=hH hB
   clear ih hk hS hlen hM hMb hB
   go_enter Try.func95,Try.ntmps95
   go_upto_region 1 with fail
   change Code.wp _ _ _ _ (zx w [.cells #[.int .i64 tid,.int .i64 tk,.string tx,.slice ka len cap] 27,.cells #[.int .i64 0,.int .i64 0,.string ⟨#[]⟩,.slice none 0 0] 27])
   rw[←HBE.out]
   clear HBE
   go_wp2_with fail
   go_loopw [7] (fun i wr=>∃k:Nat,k≤len∧i= .int .i64 (k:Int)∧Hid (zgY w ⟨tid,tk,tx,ks⟩ id #[.int .i64 tid,.int .i64 tk,.string tx,.slice ka len cap] #[.int .i64 0,.int .i64 0,.string ⟨#[]⟩,.slice none 0 0] k wr)) (fun i _=>len - (intOf i).toNat)
   case atStart=>exact⟨0,NzlQ _,rfl,HST⟩
   case round=>
    obtain⟨k,hk,rfl,hh⟩:=hrel
    obtain⟨wo,hwo⟩:∃wo,wo=wr:=⟨_,rfl⟩
    subst hwo
    clear HST
    have hbx:=hh.out.2.1
    obtain⟨p0,p1,p2,p3⟩:=zF hbx
    by_cases hlt:k<len
    · have hki:(k:Int)<(len:Int):=by omega
      have hk1:zk wo S ks ka:=HH.out.1.below hh.out.2.2.2.1 HH.out.2.1
      obtain⟨x,y,⟨ki,kk,kt⟩,l,r,hd,b,off,ka2,kc2,rfl,hSb,c0,c1,c2,c3,hc2,hl2⟩:=hk1.at k (by rw[←HH.out.2.2.1];exact hlt)
      have hsz:=yw k ks (by rw[←HH.out.2.2.1];exact hlt)
      obtain⟨_,_,_,_,_,e1,hdr,hsz,_⟩:=hsz
      rw[hd] at e1;cases e1
      have hstep:=zf9 (id:=id) (t:=⟨tid,tk,tx,ks⟩) hd hdr
      have HI:=hH (aN hh.out hstep)
      have HLT:=hH hlt
      have hzb:=hh.out.2.2.1
      obtain⟨z0,z1,z2,z3⟩:=zF hzb
      have zf:∀j,wo.frozen? ⟨w.heap.size+1,j,none⟩=false:=fun j=>forQ _ _ j _ _ hzb
      by_cases hid:ki=id
      · have hbi:(ki == id)=true:=by simpa using hid
        have HR:=hH (show QZ id ⟨tid,tk,tx,ks⟩=some (⟨tid,tk,tx,ks⟩,k) by rw[HI.out.1.1,hstep,ipQ hid])
        obtain⟨V,hV,v1,v2,v3,v4,v5,v6⟩:=QN (u0:= .int .i64 tid) (u1:= .int .i64 tk) (u2:= .string tx) (u3:= .slice (some ⟨b,off,none⟩) len cap) hzb
        have HV:=hH (aN hV v1)
        have HB:=hH (show Below w.heap.size w V from zcg HI.out.1.2.2.2.1 v2 v3 v4 v5 v6)
        have HK:=hH (HH.out.1.below HB.out HH.out.2.1)
        clear hk1 hd hdr hsz hstep hlt hh hk hbx hl2 hc2 hSb hV v1 v2 v3 v4 v5 v6 hzb hid
        go_wp2_with fail
        rw[←HV.out.1]
        refine brQ (jX rfl _ _ (w.heap.size+1) 27 _ (0,0) _ (.int .i64 (k:Int)) (.bool true) rfl HV.out.2 Try.underlying27 rfl kr1 rfl rfl) rfl ?_
        exact⟨⟨tid,tk,tx,ks⟩,k,true,some ⟨b,off,none⟩,len,cap,rfl,fun _=>⟨HR.out,HH.out.2.2.1,by have:=HH.out.2.2.2.2.2;rw[HH.out.2.2.1] at this;exact this,HK.out⟩,(fun h=>by cases h),HB.out⟩
      · have hbi:(ki == id)=false:=by simpa using hid
        have hcall:=HIH.out wo S (.agg #[.int .i64 ki,.int .i64 kk,.string kt,.slice ka2 (foLen l) kc2]) ⟨ki,kk,kt,l⟩ id (by have:=HH.out.2.2.2.1;simp only;omega) (by have:=HH.out.2.2.2.2.1;omega) (fun x hx=>nL (HH.out.2.1 x hx) hh.out.2.2.2.1.size) ⟨ka2,kc2,rfl,hc2,hl2⟩
        obtain⟨n2,hn2⟩:∃n2,n2=foLen l:=⟨_,rfl⟩
        rw[←hn2] at hcall c3
        simp only at c0 c1 c2
        have HC:=hH hcall
        rw[inQ hid] at hstep
        have HS2:=hH hstep
        clear hk1 hd hdr hsz hstep hlt hh hk hbx hl2 hc2 hSb hzb hid hcall hn2 z0 z1 z2 z3 zf
        go_wp2_with fail
        refine HC.out.mono ?_
        rintro e w2 ⟨z,m,bb,pa,pn,pc,rfl,h1,h0,hb2⟩
        obtain⟨W3,hW3⟩:∃W3,W3=w2.alloc (.cells #[.int .i64 z.id,.int .i64 z.kind,.string z.text,.slice pa pn pc] 27):=⟨_,rfl⟩
        have hb3:Below wo.heap.size wo W3:=by rw[hW3];exact hb2.alloc hb2.size _
        have hbw3:=HI.out.1.2.2.2.1.trans (hb3.mono HI.out.1.2.2.2.1.size)
        have hbw2:=HI.out.1.2.2.2.1.trans (hb2.mono HI.out.1.2.2.2.1.size)
        have e1:=(hb3.block _ (lohQ HI.out.1.2.1)).trans HI.out.1.2.1
        have e2:=(hb3.block _ (lohQ HI.out.1.2.2.1)).trans HI.out.1.2.2.1
        have e8:W3.heap[w2.heap.size]? =some (.cells #[.int .i64 z.id,.int .i64 z.kind,.string z.text,.slice pa pn pc] 27 (0,0)):=by rw[hW3];exact hanQ _ _
        have hsz3:w.heap.size+2≤W3.heap.size:=NltQ HI.out.1.2.2.2.2 hb3.size
        have HW3:=hH hW3
        have HA:=hH (aN h1 h0)
        have HE:=hH (aN e1 (aN e2 (aN hbw3 (aN hsz3 hbw2))))
        obtain⟨G,hG⟩:∃G,G=w2.heap.size:=⟨_,rfl⟩
        clear hb2 hb3 hW3 h1 h0 hbw3 hbw2 hsz3 HC p0 p1 p2 p3 c0 c1 c2 c3
        go_upto_region 7 with fail
        change Code.wp _ _ _ _ (w2.alloc (.cells #[.int .i64 z.id,.int .i64 z.kind,.string z.text,.slice pa pn pc] 27))
        rw[←HW3.out,←hG]
        rw[←hG] at e8
        clear HW3 hG
        obtain⟨x0,x1,x2,x3⟩:=zF e8
        obtain⟨z0,z1,z2,z3⟩:=zF e2
        have zf:∀j,W3.frozen? ⟨w.heap.size+1,j,none⟩=false:=fun j=>forQ _ _ j _ _ e2
        cases bb
        · have HN:=hH (show zgY w ⟨tid,tk,tx,ks⟩ id _ _ (k+1) W3 from⟨by rw[HI.out.1.1,HS2.out,HA.out.2 rfl],HE.out.1,HE.out.2.1,HE.out.2.2.1,HE.out.2.2.2.1⟩)
          clear e1 e2 e8 x0 x1 x2 x3 z0 z1 z2 z3 zf
          go_wp2_with fail
          exact⟨⟨k+1,by have:=HLT.out;omega,by go_num,HN⟩,by have:=HLT.out;simp[intOf];omega⟩
        · obtain⟨h1,h2,h3,h4⟩:=HA.out.1 rfl
          obtain⟨V,hV,v1,v2,v3,v4,v5,v6⟩:=QN (u0:= .int .i64 z.id) (u1:= .int .i64 z.kind) (u2:= .string z.text) (u3:= .slice pa pn pc) e2
          have HV:=hH (aN hV v1)
          have HB:=hH (show Below w.heap.size w V from zcg HE.out.2.2.1 v2 v3 v4 v5 v6)
          have HR:=hH (aN (show QZ id ⟨tid,tk,tx,ks⟩=some (z,m) by rw[HI.out.1.1,HS2.out,h1]) (aN h2 (aN h3 (h4.kept fun q hq=>⟨hq,(HB.out.block q (HH.out.2.1 q hq)).trans (HE.out.2.2.2.2.block q (HH.out.2.1 q hq)).symm⟩))))
          clear e1 e2 e8 hV v1 v2 v3 v4 v5 v6 h1 h2 h3 h4
          go_wp2_with fail
          rw[←HV.out.1]
          refine brQ (jX rfl _ _ (w.heap.size+1) 27 _ (0,0) _ (.int .i64 (m:Int)) (.bool true) rfl HV.out.2 Try.underlying27 rfl kr1 rfl rfl) rfl ?_
          exact⟨z,m,true,pa,pn,pc,rfl,fun _=>HR.out,(fun h=>by cases h),HB.out⟩
    · have hki:¬(k:Int)<(len:Int):=by omega
      have HN:=hH (show QZ id ⟨tid,tk,tx,ks⟩=none by rw[hh.out.1];rw[qJ k ks (by rw[←HH.out.2.2.1];omega)];rfl)
      have hzb:=hh.out.2.2.1
      have HB0:=hH hh.out.2.2.2.1
      obtain⟨z0,z1,z2,z3⟩:=zF hzb
      have zf:∀j,wo.frozen? ⟨w.heap.size+1,j,none⟩=false:=fun j=>forQ _ _ j _ _ hzb
      obtain⟨V,hV,v1,v2,v3,v4,v5,v6⟩:=QN (u0:= .int .i64 0) (u1:= .int .i64 0) (u2:= .string ⟨#[]⟩) (u3:= .slice none 0 0) hzb
      have HV:=hH (aN hV v1)
      have HB:=hH (show Below w.heap.size w V from zcg HB0.out v2 v3 v4 v5 v6)
      clear hh hlt hk hbx hzb hV v1 v2 v3 v4 v5 v6
      go_wp2_with fail
      rw[←HV.out.1]
      refine brQ (jX rfl _ _ (w.heap.size+1) 27 _ (0,0) _ (.int .i64 ((0:Nat):Int)) (.bool false) rfl HV.out.2 Try.underlying27 rfl kr1 rfl rfl) rfl ?_
      exact⟨⟨0,0,⟨#[]⟩,.nil⟩,0,false,none,0,0,rfl,(fun h=>by cases h),fun _=>HN.out,HB.out⟩
theorem kW (id:Int):∀(f:Fo) (t:Tr) (i:Nat),fpi id i f=none→YQ id t i f=none
 | .nil,_,_,_=>rfl
 | .node x y k l r,t,i,h=>by
   rw[fpi] at h
   by_cases hk:k.1=id
   · rw[ipQ hk] at h;cases h
   · rw [inQ hk] at h
     cases hl:fpi id 0 l with
     | some q=>rw[hl] at h;cases h
     | none=>
       rw[hl] at h
       rw[YQ,inQ hk,kW id l _ 0 hl]
       exact kW id r t (i+1) h
theorem QY (id:Int):∀(f:Fo) (t:Tr) (i:Nat) (q:List Nat),fpi id i f=some q→∃j p u,q=(i+j)::p∧zB f j=some u∧(p= []→YQ id t i f=some (t,i+j))∧(∀d m,p=d++[m]→∃z,atT u d=some z∧YQ id t i f=some (z,m))
 | .nil,_,_,_,h=>by simp[fpi] at h
 | .node x y k l r,t,i,q,h=>by
   rw[fpi] at h
   by_cases hk:k.1=id
   · rw[ipQ hk] at h;cases h
     exact⟨0,[],⟨k.1,k.2.1,k.2.2,l⟩,by simp,rfl,(fun _=>by rw[YQ,ipQ hk];rfl),fun d m e=>by simp at e⟩
   · rw [inQ hk] at h
     cases hl:fpi id 0 l with
     | some q'=>
       rw[hl] at h;cases h
       obtain⟨j,p,u,rfl,hu,h1,h2⟩:=QY id l ⟨k.1,k.2.1,k.2.2,l⟩ 0 q' hl
       refine⟨0,(0+j)::p,⟨k.1,k.2.1,k.2.2,l⟩,by simp,rfl,(fun e=>by cases e),fun d m e=>?_⟩
       rw[YQ,inQ hk]
       cases d with
       | nil=>
         simp only[List.nil_append,List.cons.injEq] at e
         obtain⟨rfl,rfl⟩:=e
         exact⟨_,rfl,by rw[h1 rfl]⟩
       | cons d0 d=>
         simp only[List.cons_append,List.cons.injEq] at e
         obtain⟨rfl,e⟩:=e
         obtain⟨z,hz,hp⟩:=h2 d m e
         refine⟨z,?_,by rw[hp]⟩
         rw[Nat.zero_add]
         simp only[atT,hu];exact hz
     | none=>
       rw[hl] at h
       obtain⟨j,p,u,e,hu,h1,h2⟩:=QY id r t (i+1) q h
       refine⟨j+1,p,u,by rw[e];congr 1;omega,by simpa [zB,zm] using hu,fun hp=>?_,fun d m hp=>?_⟩
       · rw[YQ,inQ hk,kW id l _ 0 hl];simp only;rw[h1 hp];congr 2;omega
       · obtain⟨z,hz,hp2⟩:=h2 d m hp
         exact⟨z,hz,by rw[YQ,inQ hk,kW id l _ 0 hl];exact hp2⟩
theorem Qs (id:Int)(t:Tr):QZ id t=(zga id t).map fun z=>(z.2.1,z.2.2):=by
 cases h:fpi id 0 t.kids with
 | none=>rw[Q0 h,QZ,kW id t.kids t 0 h];rfl
 | some q=>
   obtain⟨j,p,u,e,hu,h1,h2⟩:=QY id t.kids t 0 q h
   obtain⟨p',i,z,v,rfl,hz,_,_,hp⟩:=je h
   rw[hp,QZ]
   simp only[Option.map_some]
   cases p' with
   | nil=>
     simp only[List.nil_append,List.cons.injEq] at e
     obtain⟨rfl,rfl⟩:=e
     rw[h1 rfl]
     simp only[atT] at hz
     cases hz;rfl
   | cons d0 d=>
     simp only[List.cons_append,List.cons.injEq] at e
     obtain⟨rfl,rfl⟩:=e
     obtain⟨z',hz',hp'⟩:=h2 d i rfl
     rw[hp']
     rw[Nat.zero_add] at hz
     simp only[atT,hu] at hz
     rw[hz'] at hz;cases hz;rfl
end Go.Proofs.Ytnikgofkldkdkaa
