/-
  .
-/
import Derived.Test.YtgkmmnihaiopaaaGreatKFxQv
set_option maxRecDepth 100000
set_option maxHeartbeats 40000000
set_option linter.unusedVariables false
set_option linter.unusedSimpArgs false
namespace Go.Proofs.YtgkmmnihaiopaaaGreat
open Go.RowKit Go.Shelf
structure Sf where
 op:Int
 id:Int
 par:Int
 at_:Int
 tx:ByteArray
 sub:Tr
def jJ:Tr→Int→Int→List Nat→Tr×Int×Int
 | n,a,b,[]=>(n,a,b)
 | n,a,b,i::p=>match zB n.kids i with
   | none=>(n,a,b)
   | some u=>jJ u n.id (i:Int) p
def yl (id:Int)(t:Tr):Tr×Int×Int:=jJ t 0 0 ((zA id t).getD [])
def zbY:Sf:=⟨0,0,0,0,⟨#[]⟩,zu⟩
def invK (op id:Int)(x t:Tr):Sf:=
 if op=1 then ⟨2,x.id,0,0,⟨#[]⟩,zu⟩
 else if op=2 then ⟨1,0,(yl id t).2.1,(yl id t).2.2,⟨#[]⟩,(yl id t).1⟩
 else if op=3 then ⟨3,id,(yl id t).2.1,(yl id t).2.2,⟨#[]⟩,zu⟩
 else if op=4 then ⟨4,id,0,0,(yl id t).1.text,zu⟩ else zbY
def Sf.on (s:Sf)(t:Tr):Tr×Int:=zK s.op s.id s.par s.at_ s.tx s.sub t
theorem zbe:∀(p:List Nat) (n:Tr) (a b:Int) (u v:Tr) (i:Nat),atT n p=some u→zB u.kids i=some v→jJ n a b (p++[i])=(v,u.id,(i:Int))
 | [],n,a,b,u,v,i,h,hv=>by cases h;simp only[List.nil_append,jJ,hv]
 | j ::p,n,a,b,u,v,i,h,hv=>by
   simp only[atT] at h
   simp only[List.cons_append,jJ]
   cases hk:zB n.kids j with
   | none=>rw[hk] at h;cases h
   | some w=>rw[hk] at h;simp only at h ⊢;exact zbe p w _ _ u v i h hv
theorem zbc:∀(p:List Nat) (n:Tr) (a b:Int) (u:Tr),atT n p=some u→(jJ n a b p).1=u
 | [],n,a,b,u,h=>by cases h;rfl
 | j ::p,n,a,b,u,h=>by
   simp only[atT] at h
   simp only[jJ]
   cases hk:zB n.kids j with
   | none=>rw[hk] at h;cases h
   | some w=>rw[hk] at h;simp only at h ⊢;exact zbc p w _ _ u h
theorem jK {id:Int}{t u v:Tr}{p:List Nat}{i:Nat}(h:zA id t=some (p++[i]))(hu:atT t p=some u)(hv:zB u.kids i=some v):yl id t=(v,u.id,(i:Int)):=by
 unfold yl;rw[h];exact zbe p t 0 0 u v i hu hv
theorem JA {id:Int}{t u:Tr}{p:List Nat}(h:zA id t=some p)(hu:atT t p=some u):(yl id t).1=u:=by
 unfold yl;rw[h];exact zbc p t 0 0 u hu
theorem zcl:∀f:Fo,idF f=jE f
 | .nil=>rfl
 | .node b o k l r=>by rw[yO,idF,zcl l,zcl r]
theorem zcn (t:Tr):idT t=jE (zm t):=by
 rw[zm,yO,idT,zcl];simp[jE,spF]
theorem vK (a:Int)(t:Tr):a∈idT t↔0<yz a t:=by rw[zcn,vW,Ya]
theorem zbL (t:Tr):(idT t).Nodup↔∀a,yz a t≤1:=by rw[zcn];exact kg t
def JE (t:Tr):Prop:=∀i∈idT t,1≤i∧i≤1125899906842624
theorem Qn :∀(r l:List Int) (e:Int),y9 l r e=0→e=0∧(∀i∈r,1≤i∧i≤1125899906842624)∧r.Nodup∧∀i∈r,i∉l
 | [],l,e,h=>⟨h,fun _ h=>(by cases h),List.nodup_nil,fun _ h=>(by cases h)⟩
 | i :: r, l,e,h=>by
   rw[y9] at h
   split at h
   · exact absurd h ug7
   · rename_i hr
     obtain⟨h1,h2,h3,h4⟩:=Qn r _ _ h
     split at h1
     · exact absurd h1 ug7
     · rename_i ha
       have hil:i∉l:=fun hm=>ha (List.any_eq_true.2 ⟨i,hm,by simp⟩)
       refine⟨h1,fun j hj=>?_,List.nodup_cons.2 ⟨fun hm=>h4 i hm sp1,h3⟩,fun j hj=>?_⟩
       · rcases List.mem_cons.1 hj with rfl | hj
         · omega
         · exact h2 j hj
       · rcases List.mem_cons.1 hj with rfl | hj
         · exact hil
         · exact fun hm=>h4 j hj (List.mem_append_left _ hm)
theorem zax:∀(r l:List Int),(∀i∈r,1≤i∧i≤1125899906842624)→r.Nodup→(∀i∈r,i∉l)→y9 l r 0=0
 | [],l,_,_,_=>rfl
 | i ::r,l,h1,h2,h3=>by
   have hi:=h1 i (List.mem_cons_self ..)
   have h2':=List.nodup_cons.1 h2
   rw [y9,inQ om,inQ (fun ha=>by
    obtain⟨j,hj,e⟩:=List.any_eq_true.1 ha
    have e' :j=i:=by simpa using e
    exact h3 i (List.mem_cons_self ..) (e'▸hj))]
   refine zax r _ (fun j hj=>h1 j (List.mem_cons_of_mem _ hj)) h2'.2 fun j hj hm=>?_
   rcases List.mem_append.1 hm with hm | hm
   · exact h3 j (List.mem_cons_of_mem _ hj) hm
   · have:j=i:=by simpa using hm
     exact h2'.1 (this▸hj)
theorem zaH {par at_:Int}{x t y:Tr}(h:zR par at_ x t=(y,0)):∃q z,zA par t=some q∧atT t q=some z∧z.id=par∧0≤at_∧at_≤(foLen z.kids:Int)∧y=zO t q ⟨z.id,z.kind,z.text,yK z.kids at_.toNat x⟩∧y9 (idT t) (idT x) 0=0:=by
 unfold zR at h
 split at h
 · rename_i h0
   have hy:(Zk par at_ t x).1=y:=(Prod.mk.inj h).1
   have hf:=(Prod.mk.inj h).2
   cases hp:zA par t with
   | none=>rw[jY hp] at h0;exact absurd h0 ug7
   | some q=>
     obtain⟨z,hz,hid⟩:=yX _ _ _ hp
     rw[vz hp hz] at h0 hy
     split at h0
     · rename_i hc
       rw[ipQ hc] at hy
       exact⟨q,z,rfl,hz,hid,hc.1,hc.2,hy.symm,hf⟩
     · exact absurd (show (2:Int)=0 from h0) ug7
 · rename_i h0
   exact absurd (Prod.mk.inj h).2 h0
theorem za0 {id:Int}{t y:Tr}(h:qh id t=(y,0)):∃p i u v,zA id t=some (p++[i])∧atT t p=some u∧zB u.kids i=some v∧v.id=id∧y=zO t p ⟨u.id,u.kind,u.text,zW u.kids i⟩:=by
 cases hp:zA id t with
 | none=>rw[jS hp] at h;exact absurd (Prod.mk.inj h).2 ug7
 | some q0=>
   by_cases h0:q0= []
   · subst h0;rw[jT hp] at h;exact absurd (Prod.mk.inj h).2 ug7
   · obtain⟨q,i,rfl⟩:∃p i,q0=p++[i]:=⟨q0.dropLast,q0.getLast h0,(List.dropLast_concat_getLast h0).symm⟩
     obtain⟨v,hv0,hvid⟩:=yX id t _ hp
     obtain⟨u,hu,hv⟩:=j4 q i t v hv0
     rw[ko hp hu hv] at h
     exact⟨q,i,u,v,rfl,hu,hv,hvid,((Prod.mk.inj h).1).symm⟩
theorem zgU {id:Int}{tx:ByteArray}{t y:Tr}(h:jf id tx t=(y,0)):∃p u,zA id t=some p∧atT t p=some u∧u.id=id∧y=zO t p ⟨u.id,u.kind,tx,u.kids⟩:=by
 cases hp:zA id t with
 | none=>rw[kN hp] at h;exact absurd (Prod.mk.inj h).2 ug7
 | some q=>
   obtain⟨u,hu,huid⟩:=yX id t _ hp
   rw[Zr hp hu] at h
   exact⟨q,u,rfl,hu,huid,((Prod.mk.inj h).1).symm⟩
theorem JR (id par at_:Int)(tx:ByteArray)(x t:Tr):zK 1 id par at_ tx x t=zR par at_ x t:=by unfold zK;rw[ipQ rfl]
theorem JS (id par at_:Int)(tx:ByteArray)(x t:Tr):zK 2 id par at_ tx x t=qh id t:=by unfold zK;rw[inQ ug7,ipQ rfl]
theorem zcI (id par at_:Int)(tx:ByteArray)(x t:Tr):zK 3 id par at_ tx x t=yC id par at_ t:=by unfold zK;rw[inQ ug7,inQ ug7,ipQ rfl]
theorem zcJ (id par at_:Int)(tx:ByteArray)(x t:Tr):zK 4 id par at_ tx x t=jf id tx t:=by unfold zK;rw[inQ ug7,inQ ug7,inQ ug7,ipQ rfl]
theorem za9 {op id par at_:Int}{tx:ByteArray}{x t y:Tr}(h:zK op id par at_ tx x t=(y,0)):op=1∨op=2∨op=3∨op=4:=by
 unfold zK at h
 by_cases h1:op=1
 · exact Or.inl h1
 · by_cases h2:op=2
   · exact Or.inr (Or.inl h2)
   · by_cases h3:op=3
     · exact Or.inr (Or.inr (Or.inl h3))
     · by_cases h4:op=4
       · exact Or.inr (Or.inr (Or.inr h4))
       · rw[inQ h1,inQ h2,inQ h3,inQ h4] at h
         exact absurd (Prod.mk.inj h).2 ug7
theorem ZH {op id par at_:Int}{tx:ByteArray}{x t y:Tr}(hd:vD t)(hr:JE t)(h:zK op id par at_ tx x t=(y,0)):vD y∧JE y∧zb y.kids≤zb t.kids+zb x.kids+1:=by
 have hx:op=1→(∀a,yz a x≤1)∧(∀a,0<yz a x→(1≤a∧a≤1125899906842624)∧yz a t=0):=fun ho=>by
  subst ho
  rw[JR] at h
  obtain⟨q,z,_,_,_,_,_,_,hf⟩:=zaH h
  obtain⟨_,h2,h3,h4⟩:=Qn _ _ _ hf
  refine⟨(zbL x).1 h3,fun a ha=>⟨h2 a ((vK a x).2 ha),?_⟩⟩
  have:=h4 a ((vK a x).2 ha)
  rw[vK] at this;omega
 have ht:=(kg t).1 hd
 have hrt:∀a,0<yz a t→1≤a∧a≤1125899906842624:=fun a ha=>hr a ((vK a t).2 ha)
 obtain⟨hfx,_⟩:=Ym h
 have hc:(∀a,yz a y≤1)∧(∀a,0<yz a y→1≤a∧a≤1125899906842624):=by
  cases hfx with
  | ins ho hh=>
    obtain⟨x1,x2⟩:=hx ho
    have hh' :∀a,yz a y=yz a t+yz a x:=fun a=>by have:=hh (YE a);rw[vJ,vJ,vJ] at this;exact this
    refine⟨fun a=>?_,fun a ha=>?_⟩
    · have h1:=hh' a
      have h2:=ht a
      have h3:=x1 a
      by_cases h4:0<yz a x
      · have:=(x2 a h4).2;omega
      · omega
    · have h1:=hh' a
      by_cases h4:0<yz a x
      · exact (x2 a h4).1
      · exact hrt a om
  | del ho q v hq hv hh=>
    have hh' :∀a,yz a y+yz a v=yz a t:=fun a=>by have:=hh (YE a);rw[vJ,vJ,vJ] at this;exact this
    exact sh1
  | mov ho hh=>
    have hh' :∀a,yz a y=yz a t:=fun a=>by have:=hh (YE a);rw[vJ,vJ] at this;exact this
    exact sh1
  | wri ho q u hq hu hh=>
    have hh' :∀a,yz a y=yz a t:=fun a=>by
     have:=hh (YE a)
     rw[vJ,vJ,show jr (YE a) u.key=jr (YE a) (u.id,u.kind,tx) from rfl] at this;omega
    exact sh1
 refine⟨(kg y).2 hc.1,fun a ha=>hc.2 a ((vK a y).1 ha),?_⟩
 cases hfx with
 | ins ho hh=>have:=hh (fun _=>true);rw[zJ,zJ,zJ] at this;omega
 | del ho q v hq hv hh=>have:=hh (fun _=>true);rw[zJ,zJ,zJ] at this;omega
 | mov ho hh=>have:=hh (fun _=>true);rw[zJ,zJ] at this;omega
 | wri ho q u hq hu hh=>
   have:=hh (fun _=>true)
   rw[zJ,zJ,jr,ipQ rfl,jr,ipQ rfl] at this;omega
def zbZ (op id par at_:Int)(tx:ByteArray)(x t y:Tr):Prop:=
 (∃z,(invK op id x t).on y=(z,0)∧qF z t=true)∧(invK (invK op id x t).op (invK op id x t).id (invK op id x t).sub y).on t=(y,0)
theorem zhw {id par at_:Int}{tx:ByteArray}{x t y:Tr}(hd:vD t)(hr:JE t)(h:zK 1 id par at_ tx x t=(y,0)):zbZ 1 id par at_ tx x t y:=by
 obtain⟨hdy,hry,_⟩:=ZH hd hr h
 have h0:=h
 rw[JR] at h0
 obtain⟨q,z,hq,hz,hid,ha,hb,hy,hf⟩:=zaH h0
 obtain⟨n,hn⟩:∃n:Nat,n=at_.toNat:=⟨_,rfl⟩
 have hnz:n≤foLen z.kids:=by omega
 have hna:(n:Int)=at_:=by omega
 rw[←hn] at hy
 have hyq:atT y q=some ⟨z.id,z.kind,z.text,yK z.kids n x⟩:=by rw[hy];exact Y4 q t z _ hz
 have hyx:zA x.id y=some (q++[n]):=vM hdy (Zt hyq (jF z.kids n x hnz))
 have e1:invK 1 id x t=⟨2,x.id,0,0,⟨#[]⟩,zu⟩:=by unfold invK;rw[ipQ rfl]
 unfold zbZ
 rw[e1]
 refine⟨⟨t,?_,Y6 t⟩,?_⟩
 · unfold Sf.on
   simp only
   rw[JS,ko hyx hyq (jF z.kids n x hnz),Prod.mk.injEq]
   refine⟨?_,rfl⟩
   simp only
   rw[zch _ _ _ hnz,hy,Yy q t z _ _ hz]
   exact JP q t z hz
 · have e2:invK 2 x.id zu y=⟨1,0,z.id,(n:Int),⟨#[]⟩,x⟩:=by
    unfold invK
    rw[inQ ug7,ipQ rfl,jK hyx hyq (jF z.kids n x hnz)]
   simp only
   rw[e2]
   unfold Sf.on
   simp only
   rw[JR,hid,hna];exact h0
theorem zhv {id par at_:Int}{tx:ByteArray}{x t y:Tr}(hd:vD t)(hr:JE t)(h:zK 2 id par at_ tx x t=(y,0)):zbZ 2 id par at_ tx x t y:=by
 obtain⟨hdy,hry,_⟩:=ZH hd hr h
 have h0:=h
 rw[JS] at h0
 obtain⟨p,i,u,v,hp,hu,hv,hid,hy⟩:=za0 h0
 have e1:invK 2 id x t=⟨1,0,u.id,(i:Int),⟨#[]⟩,v⟩:=by
  unfold invK
  rw[inQ ug7,ipQ rfl,jK hp hu hv]
 have hyp:atT y p=some ⟨u.id,u.kind,u.text,zW u.kids i⟩:=by rw[hy];exact Y4 p t u _ hu
 have hyu:zA u.id y=some p:=vM (v:=⟨u.id,u.kind,u.text,zW u.kids i⟩) hdy hyp
 have hil:=Yb u.kids i (yx hv)
 have hik:=yx hv
 have cy:∀a,yz a y+yz a v=yz a t:=fun a=>by
  exact sj1
 have ht:=(kg t).1 hd
 have hf:y9 (idT y) (idT v) 0=0:=zax _ _ (fun a ha=>hr a ((vK a t).2 (by have:=(vK a v).1 ha;have:=cy a;omega))) ((zbL v).2 fun a=>by have:=ht a;have:=cy a;omega)
  fun a ha hm=>by
   have h1:=(vK a v).1 ha
   have h2:=(vK a y).1 hm
   have:=ht a;have:=cy a;omega
 unfold zbZ
 rw[e1]
 refine⟨⟨zO y p ⟨u.id,u.kind,u.text,yK (zW u.kids i) i v⟩,?_,?_⟩,?_⟩
 · unfold Sf.on
   simp only
   have hpk:Zk u.id (i:Int) y v=(zO y p ⟨u.id,u.kind,u.text,yK (zW u.kids i) i v⟩,0):=by
    rw[vz hyu hyp,ipQ ⟨by omega,by simp only;omega⟩]
    simp only[Int.toNat_natCast]
   rw[JR,zR,hpk,ipQ rfl,hf]
 · rw[hy,Yy p t u _ _ hu]
   obtain⟨s1,s2⟩:=zcp u.kids i v hv
   refine Q7 p t u _ hu ?_
   rw[za5] at s1
   simp[qF,je,s1,s2]
 · have e2:invK 1 0 v y=⟨2,v.id,0,0,⟨#[]⟩,zu⟩:=by unfold invK;rw[ipQ rfl]
   simp only
   rw[e2]
   unfold Sf.on
   simp only
   rw[JS,hid];exact h0
theorem zhx {id par at_:Int}{tx:ByteArray}{x t y:Tr}(hd:vD t)(hr:JE t)(h:zK 3 id par at_ tx x t=(y,0)):zbZ 3 id par at_ tx x t y:=by
 obtain⟨hdy,hry,_⟩:=ZH hd hr h
 have h0:=h
 rw[zcI] at h0
 obtain⟨p,i,u,v,q,z,hi,hu,hv,hvid,hq,hz,ha,hb,hy⟩:=zaR h0
 obtain⟨p',i',u',hi',hu',hm1,hm2⟩:=zeY hd h0
 rw[hi] at hi'
 obtain⟨e1,e2⟩:=List.append_inj' (Option.some.inj hi') rfl
 subst e1
 cases e2
 rw[hu] at hu'
 cases hu'
 obtain⟨n,hn⟩:∃n:Nat,n=at_.toNat:=⟨_,rfl⟩
 have hnz:n≤foLen z.kids:=by omega
 have hna:(n:Int)=at_:=by omega
 rw[←hn] at hy
 obtain⟨zz,hzz,hzid⟩:=yX _ _ _ hq
 rw[hz] at hzz
 cases hzz
 have hyq:atT y q=some ⟨z.id,z.kind,z.text,yK z.kids n v⟩:=by rw[hy];exact Y4 q _ z _ hz
 have hyv:zA id y=some (q++[n]):=by rw[←hvid];exact vM hdy (Zt hyq (jF z.kids n v hnz))
 have e1:invK 3 id x t=⟨3,id,u.id,(i:Int),⟨#[]⟩,zu⟩:=by
  unfold invK
  rw[inQ ug7,inQ ug7,ipQ rfl,jK hi hu hv]
 unfold zbZ
 rw[e1]
 refine⟨⟨(yC id u.id (i:Int) y).1,?_,hm2⟩,?_⟩
 · unfold Sf.on
   simp only
   rw[zcI]
   exact Prod.ext rfl hm1
 · have e2:invK 3 id zu y=⟨3,id,z.id,(n:Int),⟨#[]⟩,zu⟩:=by
    unfold invK
    rw[inQ ug7,inQ ug7,ipQ rfl,jK hyv hyq (jF z.kids n v hnz)]
   simp only
   rw[e2]
   unfold Sf.on
   simp only
   rw[zcI,hzid,hna];exact h0
theorem zhy {id par at_:Int}{tx:ByteArray}{x t y:Tr}(hd:vD t)(hr:JE t)(h:zK 4 id par at_ tx x t=(y,0)):zbZ 4 id par at_ tx x t y:=by
 obtain⟨hdy,hry,_⟩:=ZH hd hr h
 have h0:=h
 rw[zcJ] at h0
 obtain⟨p,u,hp,hu,hid,hy⟩:=zgU h0
 have hyp:atT y p=some ⟨u.id,u.kind,tx,u.kids⟩:=by rw[hy];exact Y4 p t u _ hu
 have hyv:zA id y=some p:=by rw[←hid];exact vM (v:=⟨u.id,u.kind,tx,u.kids⟩) hdy hyp
 have e1:invK 4 id x t=⟨4,id,0,0,u.text,zu⟩:=by
  unfold invK
  rw[inQ ug7,inQ ug7,inQ ug7,ipQ rfl,JA hp hu]
 unfold zbZ
 rw[e1]
 refine⟨⟨t,?_,Y6 t⟩,?_⟩
 · unfold Sf.on
   simp only
   rw[zcJ,Zr hyv hyp,Prod.mk.injEq]
   refine⟨?_,rfl⟩
   simp only
   rw[hy,Yy p t u _ _ hu]
   exact JP p t u hu
 · have e2:invK 4 id zu y=⟨4,id,0,0,tx,zu⟩:=by
    unfold invK
    rw[inQ ug7,inQ ug7,inQ ug7,ipQ rfl,JA hyv hyp]
   simp only
   rw[e2]
   unfold Sf.on
   simp only
   rw[zcJ];exact h0
theorem zhX {op id par at_:Int}{tx:ByteArray}{x t y:Tr}(hd:vD t)(hr:JE t)(h:zK op id par at_ tx x t=(y,0)):zbZ op id par at_ tx x t y:=by
 rcases za9 h with rfl | rfl | rfl | rfl
 · exact zhw hd hr h
 · exact zhv hd hr h
 · exact zhx hd hr h
 · exact zhy hd hr h
theorem zi2 {op id par at_:Int}{tx:ByteArray}{x t y:Tr}(hr:JE t)(h:zK op id par at_ tx x t=(y,0)):zb (invK op id x t).sub.kids≤zb t.kids∧(∀i∈idT (invK op id x t).sub,(Lit.int .i64 i).wf=true)∧(Lit.int .i8 (invK op id x t).op).wf=true∧∀i∈idT t,(Lit.int .i64 i).wf=true:=by
 have hwf:∀i:Int,0≤i→i≤1125899906842624→(Lit.int .i64 i).wf=true:=fun i h1 h2=>by
  have e1:IntKind.i64.min= -9223372036854775808:=by decide
  have e2:IntKind.i64.max=9223372036854775807:=by decide
  simp only[Lit.wf,decide_eq_true_eq,Bool.and_eq_true,e1,e2];omega
 have hz:∀i∈idT zu,(Lit.int .i64 i).wf=true:=fun i hi=>by
  have:i=0:=by simpa [idT,zu,idF] using hi
  subst this;exact hwf 0 om om
 have hzs:zb zu.kids=0:=rfl
 have ht:∀i∈idT t,(Lit.int .i64 i).wf=true:=fun i hi=>hwf i (by have:=hr i hi;omega) (hr i hi).2
 rcases za9 h with rfl | rfl | rfl | rfl
 · have e:invK 1 id x t=⟨2,x.id,0,0,⟨#[]⟩,zu⟩:=by unfold invK;rw[ipQ rfl]
   rw[e];exact⟨NzlQ _,hz,(by decide:(Lit.int .i8 2).wf=true),ht⟩
 · rw [JS] at h
   obtain⟨p,i,u,v,hp,hu,hv,hid,hy⟩:=za0 h
   have e1:invK 2 id x t=⟨1,0,u.id,(i:Int),⟨#[]⟩,v⟩:=by
    unfold invK
    rw[inQ ug7,ipQ rfl,jK hp hu hv]
   rw[e1]
   have h1:=kZ _ _ _ (Zt hu hv)
   refine⟨by simp only;omega,fun a ha=>ht a ?_,(by decide:(Lit.int .i8 1).wf=true),ht⟩
   rw[vK] at ha ⊢
   exact nL ha (QP a _ _ _ (Zt hu hv))
 · have e:(invK 3 id x t).sub=zu∧(invK 3 id x t).op=3:=by unfold invK;rw[inQ ug7,inQ ug7,ipQ rfl];exact⟨rfl,rfl⟩
   rw[e.1,e.2];exact⟨NzlQ _,hz,by decide,ht⟩
 · have e:(invK 4 id x t).sub=zu∧(invK 4 id x t).op=4:=by unfold invK;rw[inQ ug7,inQ ug7,inQ ug7,ipQ rfl];exact⟨rfl,rfl⟩
   rw[e.1,e.2];exact⟨NzlQ _,hz,by decide,ht⟩
def mkF (id:Int)(tx:ByteArray)(ks:Fo):Bool→Fo→Fo×Bool
 | b,.nil=>(.nil,b)
 | b,.node x y k l r=>
   if b=false∧k.1=id then (.node x y (k.1,k.2.1,tx) ks (mkF id tx ks true r).1,(mkF id tx ks true r).2)
   else (.node x y k (mkF id tx ks b l).1 (mkF id tx ks (mkF id tx ks b l).2 r).1,(mkF id tx ks (mkF id tx ks b l).2 r).2)
def mkT (id:Int)(tx:ByteArray)(ks:Fo)(b:Bool)(t:Tr):Tr×Bool:=
 if b=false∧t.id=id then (⟨t.id,t.kind,tx,ks⟩,true) else (⟨t.id,t.kind,t.text,(mkF id tx ks b t.kids).1⟩,(mkF id tx ks b t.kids).2)
section
variable (id:Int) (tx:ByteArray) (ks:Fo)
theorem Qu:∀f:Fo,mkF id tx ks true f=(f,true)
 | .nil=>rfl
 | .node x y k l r=>by
   rw[mkF,inQ sp1,Qu l,Qu r]
theorem zcw:∀(b:Bool) (f:Fo),foLen (mkF id tx ks b f).1=foLen f
 | b,.nil=>rfl
 | b,.node x y k l r=>by
   rw[mkF]
   split
   · simp only[foLen];rw[zcw true r]
   · simp only[foLen];rw[zcw _ r]
theorem zaQ (x y:Nat)(k:Int×Int×ByteArray)(l:Fo):∀(b:Bool) (f:Fo),mkF id tx ks b (qA f x y k l)=
 (qA (mkF id tx ks b f).1 x y ((mkT id tx ks (mkF id tx ks b f).2 ⟨k.1,k.2.1,k.2.2,l⟩).1.id,(mkT id tx ks (mkF id tx ks b f).2 ⟨k.1,k.2.1,k.2.2,l⟩).1.kind,(mkT id tx ks (mkF id tx ks b f).2 ⟨k.1,k.2.1,k.2.2,l⟩).1.text) (mkT id tx ks (mkF id tx ks b f).2 ⟨k.1,k.2.1,k.2.2,l⟩).1.kids,(mkT id tx ks (mkF id tx ks b f).2 ⟨k.1,k.2.1,k.2.2,l⟩).2)
 | b, .nil=>by
   show mkF id tx ks b (.node x y k l .nil)=_
   have e3:mkF id tx ks b .nil=(.nil,b):=rfl
   by_cases h:b=false∧k.1=id
   · have e1:mkF id tx ks b (.node x y k l .nil)=(.node x y (k.1,k.2.1,tx) ks .nil,true):=by rw[mkF,ipQ h];rfl
     have e2:mkT id tx ks b ⟨k.1,k.2.1,k.2.2,l⟩=(⟨k.1,k.2.1,tx,ks⟩,true):=by rw[mkT,ipQ h]
     rw[e1,e3]
     simp only[e2]
     rfl
   · have e1:mkF id tx ks b (.node x y k l .nil)=(.node x y k (mkF id tx ks b l).1 .nil,(mkF id tx ks b l).2):=by rw[mkF,inQ h];rfl
     have e2:mkT id tx ks b ⟨k.1,k.2.1,k.2.2,l⟩=(⟨k.1,k.2.1,k.2.2,(mkF id tx ks b l).1⟩,(mkF id tx ks b l).2):=by rw[mkT,inQ h]
     rw[e1,e3]
     simp only[e2]
     rfl
 | b, .node x' y' k' l' r'=>by
   simp only[qA]
   by_cases h:b=false∧k'.1=id
   · rw[mkF,ipQ h,zaQ x y k l true r',mkF,ipQ h]
     rfl
   · rw[mkF,inQ h,zaQ x y k l _ r',mkF,inQ h]
     rfl
theorem zdA (b:Bool):∀(k:Nat) (f:Fo),zx k (mkF id tx ks b f).1=(mkF id tx ks b (zx k f)).1:=by
 intro k f
 induction f generalizing b k with
 | nil=>cases k<;>rfl
 | node x y a l r ihl ihr=>
   cases k with
   | zero=>rw[mkF];split<;>rfl
   | succ k=>
     simp only[zx]
     by_cases h:b=false∧a.1=id
     · rw[mkF,ipQ h,mkF,ipQ h]
       simp only[zx]
       rw[ihr]
     · rw[mkF,inQ h,mkF,inQ h]
       simp only[zx]
       rw[ihr]
theorem Yu :∀(f:Fo) (i:Nat),(fpi id i f=none→mkF id tx ks false f=(f,false))∧∀q,fpi id i f=some q→∃j p u v,q=(i+j)::p∧zB f j=some u∧atT u p=some v∧v.id=id∧mkF id tx ks false f=(vB f j (zO u p ⟨v.id,v.kind,tx,ks⟩),true)
 | .nil,i=>⟨fun _=>rfl,fun q h=>by simp[fpi] at h⟩
 | .node x y k l r,i=>by
   obtain⟨l1,l2⟩:=Yu l 0
   obtain⟨r1,r2⟩:=Yu r (i+1)
   rw[fpi]
   by_cases hk:k.1=id
   · rw[ipQ hk]
     refine⟨fun h=>by simp at h,fun q h=>?_⟩
     cases h
     refine⟨0,[],⟨k.1,k.2.1,k.2.2,l⟩,⟨k.1,k.2.1,k.2.2,l⟩,by simp,rfl,rfl,hk,?_⟩
     rw[mkF,ipQ ⟨rfl,hk⟩,Qu]
     rfl
   · rw [inQ hk]
     cases hl:fpi id 0 l with
     | some p=>
       refine⟨fun h=>by simp at h,fun q h=>?_⟩
       cases h
       obtain⟨j,p',u,v,e,hu,hv,hid,hm⟩:=l2 p hl
       rw[Nat.zero_add] at e
       refine⟨0,p,⟨k.1,k.2.1,k.2.2,l⟩,v,by simp,rfl,?_,hid,?_⟩
       · rw[e];simp only[atT,hu];exact hv
       · rw[mkF,inQ (fun h=>hk h.2),hm,Qu,e]
         simp only[zO,hu,vB]
     | none=>
       simp only
       rw[mkF,inQ (fun h=>hk h.2),l1 hl]
       refine⟨fun h=>by rw[r1 h],fun q h=>?_⟩
       obtain⟨j,p',u,v,e,hu,hv,hid,hm⟩:=r2 q h
       exact⟨j+1,p',u,v,by rw[e];congr 1;omega,by simpa [zB,zq] using hu,hv,hid,by rw[hm];rfl⟩
theorem zdB {t:Tr}{p:List Nat}(h:zA id t=some p):∃u,atT t p=some u∧u.id=id∧mkT id tx ks false t=(zO t p ⟨u.id,u.kind,tx,ks⟩,true):=by
 unfold zA at h
 by_cases ht:t.id=id
 · rw[ipQ ht] at h
   cases h
   exact⟨t,rfl,ht,by rw[mkT,ipQ ⟨rfl,ht⟩];rfl⟩
 · rw[inQ ht] at h
   obtain⟨j,p',u,v,e,hu,hv,hid,hm⟩:=(Yu id tx ks t.kids 0).2 p h
   rw[Nat.zero_add] at e
   refine⟨v,by rw[e];simp only[atT,hu];exact hv,hid,?_⟩
   rw[mkT,inQ (fun h=>ht h.2),hm,e]
   simp only[zO,hu]
end
def zgC (id:Int)(t:Tr):Option (List Nat×Tr×Nat):=match fpi id 0 t.kids with
 | none=>none
 | some q=>(atT t q.dropLast).map fun u=>(q.dropLast,u,q.getLastD 0)
theorem ziX:∀(id:Int) (f:Fo) (i:Nat) (q:List Nat),fpi id i f=some q→∃j p u v,q=(i+j)::p∧zB f j=some u∧atT u p=some v∧v.id=id:=fun id f i q h=>by
 obtain⟨j,p,u,v,e,hu,hv,hid,_⟩:=(Yu id ⟨#[]⟩ .nil f i).2 q h
 exact⟨j,p,u,v,e,hu,hv,hid⟩
theorem jv {id:Int}{t:Tr}{q:List Nat}(h:fpi id 0 t.kids=some q):∃p i u v,q=p++[i]∧atT t p=some u∧zB u.kids i=some v∧v.id=id∧zgC id t=some (p,u,i):=by
 obtain⟨j,p',u,v,e,hu,hv,hid⟩:=ziX id t.kids 0 q h
 have hne:q≠[]:=by rw[e];simp
 have hat:atT t q=some v:=by rw[e,Nat.zero_add];simp only[atT,hu];exact hv
 obtain⟨p,i,rfl⟩:∃p i,q=p++[i]:=⟨q.dropLast,q.getLast hne,(List.dropLast_concat_getLast hne).symm⟩
 obtain⟨z,hz,hzv⟩:=j4 p i t v hat
 refine⟨p,i,z,v,rfl,hz,hzv,hid,?_⟩
 unfold zgC
 rw[h]
 simp[hz,List.getLastD_eq_getLast?]
theorem Q6 {id:Int}{t:Tr}(h:fpi id 0 t.kids=none):zgC id t=none:=by unfold zgC;rw[h]
end Go.Proofs.YtgkmmnihaiopaaaGreat
namespace Go.Proofs.YtgkmmnihaiopaaaGreat
open Go.RowKit Go.Shelf
def Y3 (id:Int)(t:Tr)(i:Nat):Fo→Option (Tr×Nat)
 | .nil=>none
 | .node x y k l r=>if k.1=id then some (t,i) else match Y3 id ⟨k.1,k.2.1,k.2.2,l⟩ 0 l with
   | some z=>some z
   | none=>Y3 id t (i+1) r
def Q5 (id:Int)(t:Tr):Option (Tr×Nat):=Y3 id t 0 t.kids
theorem kr {P:Program}{fn:Func}{p u s:Tmp}{ty:TypeId}(h:fn.results= #[.cell p ty,.tmp u,.tmp s])(tmps:Array Value)(w:World)(g:Nat)(t:TypeId)(cs:Array Value)(fr:Nat×Nat)(d:TypeDesc)(x y:Value)
 (hp:tmps.getD p undef= .pointer (some ⟨g,0,none⟩)) (hg:w.heap[g]? =some (.cells cs t fr)) (hu:P.underlying ty=some d) (hd:(match d with | .struct _ | .array _ _=>true | _=>false)=true) (hi:(P.info? ty).map (·.size)=some cs.size) (hp2:tmps.getD u undef=x) (hp3:tmps.getD s undef=y):
 (results fn tmps).run P w= .ok (.tuple #[.agg cs,x,y]) w:=by
 have hp' :tmps[p]?.getD undef= .pointer (some ⟨g,0,none⟩):=by simpa using hp
 have hp2' :tmps[u]?.getD undef=x:=by simpa using hp2
 have hp3' :tmps[s]?.getD undef=y:=by simpa using hp3
 simp[results,h,hp',hp2',hp3',asAddr,run_loadVar_row w g t ty cs fr d hg hu hd hi]
theorem zI {w:World}{b:Nat}{c0 c1 c2 c3:Value}{T:TypeId}(h:w.heap[b]? =some (.cells #[c0,c1,c2,c3] T (0,0))):w.cell? ⟨b,0,none⟩=some c0∧w.cell? ⟨b,1,none⟩=some c1∧w.cell? ⟨b,2,none⟩=some c2∧w.cell? ⟨b,3,none⟩=some c3:=
 ⟨by rw[corQ _ _ 0 _ _ _ h];rfl,by rw[corQ _ _ 1 _ _ _ h];rfl,by rw[corQ _ _ 2 _ _ _ h];rfl,by rw[corQ _ _ 3 _ _ _ h];rfl⟩
def zkR (id:Int)(t:Tr)(S:Nat→Prop)(w:World)(e:Ending)(w' :World):Prop:=∃(z:Tr) (k:Nat) (b:Bool) (pa:Option Addr) (pn pc:Nat),e= .returned (.tuple #[.agg #[.int .i64 z.id,.int .i64 z.kind,.string z.text,.slice pa pn pc],.int .i64 (k:Int),.bool b])∧(b=true→Q5 id t=some (z,k)∧pn=foLen z.kids∧foLen z.kids≤pc∧zt w' S z.kids pa)∧(b=false→Q5 id t=none)∧Below w.heap.size w w'
theorem zgB {id:Int}{t:Tr}{f:Fo}{j x y:Nat}{k:Int×Int×ByteArray}{l r:Fo}(hd:zq j f= .node x y k l r)(hr:zq (j+1) f=r):Y3 id t j (zq j f)=if k.1=id then some (t,j) else match Q5 id ⟨k.1,k.2.1,k.2.2,l⟩ with
 | some z=>some z
 | none=>Y3 id t (j+1) (zq (j+1) f):=by
 rw[hd,Y3,hr];rfl
def zhg (w:World)(t:Tr)(id:Int)(cs zs:Array Value)(k:Nat)(wr:World):Prop:=Q5 id t=Y3 id t k (zq k t.kids)∧wr.heap[w.heap.size]? =some (.cells cs 27 (0,0))∧wr.heap[w.heap.size+1]? =some (.cells zs 27 (0,0))∧Below w.heap.size w wr∧w.heap.size+2≤wr.heap.size
theorem zcG {w wo V:World}(h:Below w.heap.size w wo)(v2:∀y,y≠w.heap.size+1→V.heap[y]? =wo.heap[y]?)(v3:V.os=wo.os)(v4:V.tape=wo.tape)(v5:V.output=wo.output)(v6:V.heap.size=wo.heap.size):Below w.heap.size w V:=
 ⟨v3.trans h.os,v4.trans h.tape,v5.trans h.output,by rw[v6];exact h.size,fun y hy=>(v2 y om).trans (h.block y hy)⟩
theorem zdX :∀(M:Nat) (w:World) (S:Nat→Prop) (v:Value) (t:Tr) (id:Int),zb t.kids<M→M≤500000→(∀k,S k→k<w.heap.size)→zG w S v t→
 Calls Tryz.prog 52 #[v,.int .i64 id] w (zkR id t S w):=by
 intro M
 induction M with
 | zero=>intro w S v t id h;omega
 | succ M ih=>
   intro w S v t id hM hMb hS hv
   obtain⟨ka,cap,rfl,hcap,hk⟩:=hv
   obtain⟨tid,tk,tx,ks⟩:=t
   simp only at hM hcap hk ⊢
   obtain⟨len,hlen⟩:∃len,len=foLen ks:=⟨_,rfl⟩
   rw[←hlen] at hcap ⊢
   have hl5:len≤500000:=by have:=zL ks;omega
   obtain⟨B,hB⟩:∃B,B=zl w [.cells #[.int .i64 tid,.int .i64 tk,.string tx,.slice ka len cap] 27,.cells #[.int .i64 0,.int .i64 0,.string ⟨#[]⟩,.slice none 0 0] 27]:=⟨_,rfl⟩
   have HST:Hid (zhg w ⟨tid,tk,tx,ks⟩ id #[.int .i64 tid,.int .i64 tk,.string tx,.slice ka len cap] #[.int .i64 0,.int .i64 0,.string ⟨#[]⟩,.slice none 0 0] 0 B):=hH ⟨by rw[qH];rfl,by rw[hB];exact ze _ _ 0 _ rfl,by rw[hB];exact ze _ _ 1 _ rfl,by rw[hB];exact zi _ _,by rw[hB,zw];exact NlrQ _⟩
   have HH:=hH (aN hk (aN hS (aN hlen (aN hM (aN hMb hcap)))))
   have HIH:=hH ih
   have HBE:=hH hB
   clear ih hk hS hlen hM hMb hB
   go_enter Tryz.func52,Tryz.ntmps52
   go_upto_region 1 with fail
   change Code.wp _ _ _ _ (zl w [.cells #[.int .i64 tid,.int .i64 tk,.string tx,.slice ka len cap] 27,.cells #[.int .i64 0,.int .i64 0,.string ⟨#[]⟩,.slice none 0 0] 27])
   rw[←HBE.out]
   clear HBE
   go_wp2_with fail
   go_loopw [7] (fun i wr=>∃k:Nat,k≤len∧i= .int .i64 (k:Int)∧Hid (zhg w ⟨tid,tk,tx,ks⟩ id #[.int .i64 tid,.int .i64 tk,.string tx,.slice ka len cap] #[.int .i64 0,.int .i64 0,.string ⟨#[]⟩,.slice none 0 0] k wr)) (fun i _=>len - (intOf i).toNat)
   case atStart=>exact⟨0,NzlQ _,rfl,HST⟩
   case round=>
    obtain⟨k,hk,rfl,hh⟩:=hrel
    obtain⟨wo,hwo⟩:∃wo,wo=wr:=⟨_,rfl⟩
    subst hwo
    clear HST
    have hbx:=hh.out.2.1
    obtain⟨p0,p1,p2,p3⟩:=zI hbx
    by_cases hlt:k<len
    · have hki:(k:Int)<(len:Int):=by omega
      have hk1:zt wo S ks ka:=HH.out.1.below hh.out.2.2.2.1 HH.out.2.1
      obtain⟨x,y,⟨ki,kk,kt⟩,l,r,hd,b,off,ka2,kc2,rfl,hSb,c0,c1,c2,c3,hc2,hl2⟩:=hk1.at k (by rw[←HH.out.2.2.1];exact hlt)
      have hsz:=zX k ks (by rw[←HH.out.2.2.1];exact hlt)
      obtain⟨_,_,_,_,_,e1,hdr,hsz,_⟩:=hsz
      rw[hd] at e1;cases e1
      have hstep:=zgB (id:=id) (t:=⟨tid,tk,tx,ks⟩) hd hdr
      have HI:=hH (aN hh.out hstep)
      have HLT:=hH hlt
      have hzb:=hh.out.2.2.1
      obtain⟨z0,z1,z2,z3⟩:=zI hzb
      have zf:∀j,wo.frozen? ⟨w.heap.size+1,j,none⟩=false:=fun j=>forQ _ _ j _ _ hzb
      by_cases hid:ki=id
      · have hbi:(ki == id)=true:=by simpa using hid
        have HR:=hH (show Q5 id ⟨tid,tk,tx,ks⟩=some (⟨tid,tk,tx,ks⟩,k) by rw[HI.out.1.1,hstep,ipQ hid])
        obtain⟨V,hV,v1,v2,v3,v4,v5,v6⟩:=QU (u0:= .int .i64 tid) (u1:= .int .i64 tk) (u2:= .string tx) (u3:= .slice (some ⟨b,off,none⟩) len cap) hzb
        have HV:=hH (aN hV v1)
        have HB:=hH (show Below w.heap.size w V from zcG HI.out.1.2.2.2.1 v2 v3 v4 v5 v6)
        have HK:=hH (HH.out.1.below HB.out HH.out.2.1)
        clear hk1 hd hdr hsz hstep hlt hh hk hbx hl2 hc2 hSb hV v1 v2 v3 v4 v5 v6 hzb hid
        go_wp2_with fail
        rw[←HV.out.1]
        refine brQ (kr rfl _ _ (w.heap.size+1) 27 _ (0,0) _ (.int .i64 (k:Int)) (.bool true) rfl HV.out.2 Tryz.underlying27 rfl kr1 rfl rfl) rfl ?_
        exact⟨⟨tid,tk,tx,ks⟩,k,true,some ⟨b,off,none⟩,len,cap,rfl,fun _=>⟨HR.out,HH.out.2.2.1,by have:=HH.out.2.2.2.2.2;rw[HH.out.2.2.1] at this;exact this,HK.out⟩,(fun h=>by cases h),HB.out⟩
      · have hbi:(ki == id)=false:=by simpa using hid
        have hcall:=HIH.out wo S (.agg #[.int .i64 ki,.int .i64 kk,.string kt,.slice ka2 (foLen l) kc2]) ⟨ki,kk,kt,l⟩ id (by have:=HH.out.2.2.2.1;simp only;omega) (by have:=HH.out.2.2.2.2.1;omega) (fun x hx=>nL (HH.out.2.1 x hx) hh.out.2.2.2.1.size) ⟨ka2,kc2,rfl,hc2,hl2⟩
        obtain⟨n2,hn2⟩:∃n2,n2=foLen l:=⟨_,rfl⟩
        rw[←hn2] at hcall c3
        simp only at c0 c1 c2
        have HC:=hH hcall
        rw[inQ hid] at hstep
        have HS2:=hH hstep
        clear hk1 hd hdr hsz hstep hlt hh hk hbx hl2 hc2 hSb hzb hid hcall hn2 z0 z1 z2 z3 zf
        go_wp2_with fail
        refine HC.out.mono ?_
        rintro e w2 ⟨z,m,bb,pa,pn,pc,rfl,h1,h0,hb2⟩
        obtain⟨W3,hW3⟩:∃W3,W3=w2.alloc (.cells #[.int .i64 z.id,.int .i64 z.kind,.string z.text,.slice pa pn pc] 27):=⟨_,rfl⟩
        have hb3:Below wo.heap.size wo W3:=by rw[hW3];exact hb2.alloc hb2.size _
        have hbw3:=HI.out.1.2.2.2.1.trans (hb3.mono HI.out.1.2.2.2.1.size)
        have hbw2:=HI.out.1.2.2.2.1.trans (hb2.mono HI.out.1.2.2.2.1.size)
        have e1:=(hb3.block _ (lohQ HI.out.1.2.1)).trans HI.out.1.2.1
        have e2:=(hb3.block _ (lohQ HI.out.1.2.2.1)).trans HI.out.1.2.2.1
        have e8:W3.heap[w2.heap.size]? =some (.cells #[.int .i64 z.id,.int .i64 z.kind,.string z.text,.slice pa pn pc] 27 (0,0)):=by rw[hW3];exact hanQ _ _
        have hsz3:w.heap.size+2≤W3.heap.size:=NltQ HI.out.1.2.2.2.2 hb3.size
        have HW3:=hH hW3
        have HA:=hH (aN h1 h0)
        have HE:=hH (aN e1 (aN e2 (aN hbw3 (aN hsz3 hbw2))))
        obtain⟨G,hG⟩:∃G,G=w2.heap.size:=⟨_,rfl⟩
        clear hb2 hb3 hW3 h1 h0 hbw3 hbw2 hsz3 HC p0 p1 p2 p3 c0 c1 c2 c3
        go_upto_region 7 with fail
        change Code.wp _ _ _ _ (w2.alloc (.cells #[.int .i64 z.id,.int .i64 z.kind,.string z.text,.slice pa pn pc] 27))
        rw[←HW3.out,←hG]
        rw[←hG] at e8
        clear HW3 hG
        obtain⟨x0,x1,x2,x3⟩:=zI e8
        obtain⟨z0,z1,z2,z3⟩:=zI e2
        have zf:∀j,W3.frozen? ⟨w.heap.size+1,j,none⟩=false:=fun j=>forQ _ _ j _ _ e2
        cases bb
        · have HN:=hH (show zhg w ⟨tid,tk,tx,ks⟩ id _ _ (k+1) W3 from⟨by rw[HI.out.1.1,HS2.out,HA.out.2 rfl],HE.out.1,HE.out.2.1,HE.out.2.2.1,HE.out.2.2.2.1⟩)
          clear e1 e2 e8 x0 x1 x2 x3 z0 z1 z2 z3 zf
          go_wp2_with fail
          exact⟨⟨k+1,by have:=HLT.out;omega,by go_num,HN⟩,by have:=HLT.out;simp[intOf];omega⟩
        · obtain⟨h1,h2,h3,h4⟩:=HA.out.1 rfl
          obtain⟨V,hV,v1,v2,v3,v4,v5,v6⟩:=QU (u0:= .int .i64 z.id) (u1:= .int .i64 z.kind) (u2:= .string z.text) (u3:= .slice pa pn pc) e2
          have HV:=hH (aN hV v1)
          have HB:=hH (show Below w.heap.size w V from zcG HE.out.2.2.1 v2 v3 v4 v5 v6)
          have HR:=hH (aN (show Q5 id ⟨tid,tk,tx,ks⟩=some (z,m) by rw[HI.out.1.1,HS2.out,h1]) (aN h2 (aN h3 (h4.kept fun q hq=>⟨hq,(HB.out.block q (HH.out.2.1 q hq)).trans (HE.out.2.2.2.2.block q (HH.out.2.1 q hq)).symm⟩))))
          clear e1 e2 e8 hV v1 v2 v3 v4 v5 v6 h1 h2 h3 h4
          go_wp2_with fail
          rw[←HV.out.1]
          refine brQ (kr rfl _ _ (w.heap.size+1) 27 _ (0,0) _ (.int .i64 (m:Int)) (.bool true) rfl HV.out.2 Tryz.underlying27 rfl kr1 rfl rfl) rfl ?_
          exact⟨z,m,true,pa,pn,pc,rfl,fun _=>HR.out,(fun h=>by cases h),HB.out⟩
    · have hki:¬(k:Int)<(len:Int):=by omega
      have HN:=hH (show Q5 id ⟨tid,tk,tx,ks⟩=none by rw[hh.out.1];rw[qK k ks (by rw[←HH.out.2.2.1];omega)];rfl)
      have hzb:=hh.out.2.2.1
      have HB0:=hH hh.out.2.2.2.1
      obtain⟨z0,z1,z2,z3⟩:=zI hzb
      have zf:∀j,wo.frozen? ⟨w.heap.size+1,j,none⟩=false:=fun j=>forQ _ _ j _ _ hzb
      obtain⟨V,hV,v1,v2,v3,v4,v5,v6⟩:=QU (u0:= .int .i64 0) (u1:= .int .i64 0) (u2:= .string ⟨#[]⟩) (u3:= .slice none 0 0) hzb
      have HV:=hH (aN hV v1)
      have HB:=hH (show Below w.heap.size w V from zcG HB0.out v2 v3 v4 v5 v6)
      clear hh hlt hk hbx hzb hV v1 v2 v3 v4 v5 v6
      go_wp2_with fail
      rw[←HV.out.1]
      refine brQ (kr rfl _ _ (w.heap.size+1) 27 _ (0,0) _ (.int .i64 ((0:Nat):Int)) (.bool false) rfl HV.out.2 Tryz.underlying27 rfl kr1 rfl rfl) rfl ?_
      exact⟨⟨0,0,⟨#[]⟩,.nil⟩,0,false,none,0,0,rfl,(fun h=>by cases h),fun _=>HN.out,HB.out⟩
theorem Zi (id:Int):∀(f:Fo) (t:Tr) (i:Nat),fpi id i f=none→Y3 id t i f=none
 | .nil,_,_,_=>rfl
 | .node x y k l r,t,i,h=>by
   rw[fpi] at h
   by_cases hk:k.1=id
   · rw[ipQ hk] at h;cases h
   · rw [inQ hk] at h
     cases hl:fpi id 0 l with
     | some q=>rw[hl] at h;cases h
     | none=>
       rw[hl] at h
       rw[Y3,inQ hk,Zi id l _ 0 hl]
       exact Zi id r t (i+1) h
theorem Q4 (id:Int):∀(f:Fo) (t:Tr) (i:Nat) (q:List Nat),fpi id i f=some q→∃j p u,q=(i+j)::p∧zB f j=some u∧(p= []→Y3 id t i f=some (t,i+j))∧(∀d m,p=d++[m]→∃z,atT u d=some z∧Y3 id t i f=some (z,m))
 | .nil,_,_,_,h=>by simp[fpi] at h
 | .node x y k l r,t,i,q,h=>by
   rw[fpi] at h
   by_cases hk:k.1=id
   · rw[ipQ hk] at h;cases h
     exact⟨0,[],⟨k.1,k.2.1,k.2.2,l⟩,by simp,rfl,(fun _=>by rw[Y3,ipQ hk];rfl),fun d m e=>by simp at e⟩
   · rw [inQ hk] at h
     cases hl:fpi id 0 l with
     | some q'=>
       rw[hl] at h;cases h
       obtain⟨j,p,u,rfl,hu,h1,h2⟩:=Q4 id l ⟨k.1,k.2.1,k.2.2,l⟩ 0 q' hl
       refine⟨0,(0+j)::p,⟨k.1,k.2.1,k.2.2,l⟩,by simp,rfl,(fun e=>by cases e),fun d m e=>?_⟩
       rw[Y3,inQ hk]
       cases d with
       | nil=>
         simp only[List.nil_append,List.cons.injEq] at e
         obtain⟨rfl,rfl⟩:=e
         exact⟨_,rfl,by rw[h1 rfl]⟩
       | cons d0 d=>
         simp only[List.cons_append,List.cons.injEq] at e
         obtain⟨rfl,e⟩:=e
         obtain⟨z,hz,hp⟩:=h2 d m e
         refine⟨z,?_,by rw[hp]⟩
         rw[Nat.zero_add]
         simp only[atT,hu];exact hz
     | none=>
       rw[hl] at h
       obtain⟨j,p,u,e,hu,h1,h2⟩:=Q4 id r t (i+1) q h
       refine⟨j+1,p,u,by rw[e];congr 1;omega,by simpa [zB,zq] using hu,fun hp=>?_,fun d m hp=>?_⟩
       · rw[Y3,inQ hk,Zi id l _ 0 hl];simp only;rw[h1 hp];congr 2;omega
       · obtain⟨z,hz,hp2⟩:=h2 d m hp
         exact⟨z,hz,by rw[Y3,inQ hk,Zi id l _ 0 hl];exact hp2⟩
theorem Qy (id:Int)(t:Tr):Q5 id t=(zgC id t).map fun z=>(z.2.1,z.2.2):=by
 cases h:fpi id 0 t.kids with
 | none=>rw[Q6 h,Q5,Zi id t.kids t 0 h];rfl
 | some q=>
   obtain⟨j,p,u,e,hu,h1,h2⟩:=Q4 id t.kids t 0 q h
   obtain⟨p',i,z,v,rfl,hz,_,_,hp⟩:=jv h
   rw[hp,Q5]
   simp only[Option.map_some]
   cases p' with
   | nil=>
     simp only[List.nil_append,List.cons.injEq] at e
     obtain⟨rfl,rfl⟩:=e
     rw[h1 rfl]
     simp only[atT] at hz
     cases hz;rfl
   | cons d0 d=>
     simp only[List.cons_append,List.cons.injEq] at e
     obtain⟨rfl,rfl⟩:=e
     obtain⟨z',hz',hp'⟩:=h2 d i rfl
     rw[hp']
     rw[Nat.zero_add] at hz
     simp only[atT,hu] at hz
     rw[hz'] at hz;cases hz;rfl
theorem zbo {P:Program}{fn:Func}{p u v:Tmp}{ty:TypeId}(h:fn.results= #[.cell p ty,.tmp u,.tmp v])(tmps:Array Value)(w:World)(g:Nat)(t:TypeId)(cs:Array Value)(fr:Nat×Nat)(d:TypeDesc)(x y:Value)
 (hp:tmps.getD p undef= .pointer (some ⟨g,0,none⟩)) (hg:w.heap[g]? =some (.cells cs t fr)) (hu:P.underlying ty=some d) (hd:(match d with | .struct _ | .array _ _=>true | _=>false)=true) (hi:(P.info? ty).map (·.size)=some cs.size) (hp2:tmps.getD u undef=x) (hp3:tmps.getD v undef=y):
 (results fn tmps).run P w= .ok (.tuple #[.agg cs,x,y]) w:=by
 exact sf0
theorem zfo {p:List Nat}{k j:Nat}{u vv:Tr}{a b:Int}(hj:p[k]? =some j)(h:atT u (p.drop k)=some vv):∃v,zB u.kids j=some v∧jJ u a b (p.drop k)=jJ v u.id (j:Int) (p.drop (k+1))∧atT v (p.drop (k+1))=some vv:=by
 obtain⟨hk,e⟩:=List.getElem?_eq_some_iff.1 hj
 have hd:p.drop k=j::p.drop (k+1):=by rw[List.drop_eq_getElem_cons hk,e]
 rw[hd] at h
 simp only[atT] at h
 cases hv:zB u.kids j with
 | none=>rw[hv] at h;cases h
 | some v=>rw[hv] at h;exact⟨v,rfl,by rw[hd];simp only[jJ,hv],h⟩
def WhI (w:World)(S:Nat→Prop)(g:Nat)(X:World)(u:Tr):Prop:=Below w.heap.size w X∧(∃ka kc,X.heap[g]? =some (.cells #[.int .i64 u.id,.int .i64 u.kind,.string u.text,.slice ka (foLen u.kids) kc] 27 (0,0))∧foLen u.kids≤kc∧zt X S u.kids ka)
def zjw (w:World)(S:Nat→Prop)(r:Tr×Int×Int)(e:Ending)(w' :World):Prop:=∃v,e= .returned (.tuple #[v,.int .i64 r.2.1,.int .i64 r.2.2])∧zG w' S v r.1∧Below w.heap.size w w'
theorem Y9 (w:World)(S:Nat→Prop)(nv:Value)(t:Tr)(id:Int)(hS:∀y,S y→y<w.heap.size)(ht:zG w S nv t)(hsz:zb t.kids≤300000):Calls Tryz.prog 105 #[nv,.int .i64 id] w (zjw w S (yl id t)):=by
 obtain⟨ka,tc,rfl,hcap,hk⟩:=ht
 obtain⟨nk,hnk⟩:∃nk,nk=foLen t.kids:=⟨_,rfl⟩
 rw[←hnk]
 obtain⟨B,hB⟩:∃B,B=zl w [.cells #[.int .i64 t.id,.int .i64 t.kind,.string t.text,.slice ka nk tc] 27,.cells #[.int .i64 0,.int .i64 0,.string ⟨#[]⟩,.slice none 0 0] 27]:=⟨_,rfl⟩
 have hb:Below w.heap.size w B:=by rw[hB];exact zi _ _
 have hs:B.heap.size=w.heap.size+2:=by rw[hB];exact zw _ _
 have ht0:B.heap[w.heap.size]? =some (.cells #[.int .i64 t.id,.int .i64 t.kind,.string t.text,.slice ka nk tc] 27 (0,0)):=by rw[hB];exact ze _ _ 0 _ rfl
 have hr0:B.heap[w.heap.size+1]? =some (.cells #[.int .i64 0,.int .i64 0,.string ⟨#[]⟩,.slice none 0 0] 27 (0,0)):=by rw[hB];exact ze _ _ 1 _ rfl
 have hpath:=Zj B S (.agg #[.int .i64 t.id,.int .i64 t.kind,.string t.text,.slice ka nk tc]) t id (fun y hy=>nL (hS y hy) hb.size) ⟨ka,tc,by rw[hnk],hcap,hk.below hb hS⟩ om
 obtain⟨p,hp⟩:∃p,p=(zA id t).getD []:=⟨_,rfl⟩
 have hat:∃vv,atT t p=some vv∧p.length≤zb t.kids:=by
  cases h:zA id t with
  | none=>rw[h] at hp;simp only[Option.getD_none] at hp;subst hp;exact⟨t,rfl,NzlQ _⟩
  | some q=>
    rw[h] at hp
    simp only[Option.getD_some] at hp
    obtain⟨u,hu,_⟩:=yX _ _ _ h
    subst hp
    exact⟨u,hu,by have:=kZ _ _ _ hu;omega⟩
 obtain⟨vv,hvv,hpl⟩:=hat
 have hwk:yl id t=jJ t 0 0 p:=by rw[hp];rfl
 rw[hwk]
 unfold zbv at hpath
 rw[←hp] at hpath
 obtain⟨b0,b1,b2,b3⟩:=zD ht0
 have HP:=hH hpath
 have HB:=hH (aN hb (aN hs (aN ht0 hr0)))
 have HK:=hH (aN hnk (aN hcap (aN hk hS)))
 have HV:=hH (aN hvv hsz)
 have HS:=hH hS
 have HBE:=hH hB
 have hp6:p.length≤300000:=by omega
 clear hpath hb hs ht0 hr0 hB hnk hcap hk hS hvv hpl hwk hp hsz
 go_enter Tryz.func105,Tryz.ntmps105
 go_upto_region 1 with fail
 change Code.wp _ _ _ _ (zl w [.cells #[.int .i64 t.id,.int .i64 t.kind,.string t.text,.slice ka nk tc] 27,.cells #[.int .i64 0,.int .i64 0,.string ⟨#[]⟩,.slice none 0 0] 27])
 rw[←HBE.out]
 clear HBE
 go_wp2_with fail
 refine HP.out.mono ?_
 rintro e W ⟨pv,rfl,hown,hbW⟩
 obtain⟨pa,pc,rfl⟩:=zy hown
 have hW1:=(hbW.block _ (lohQ HB.out.2.2.1)).trans HB.out.2.2.1
 have hW2:=(hbW.block _ (lohQ HB.out.2.2.2)).trans HB.out.2.2.2
 clear b0 b1 b2 b3
 obtain⟨b0,b1,b2,b3⟩:=zD hW1
 obtain⟨z0,z1,z2,z3⟩:=zD hW2
 have zf:∀j,W.frozen? ⟨w.heap.size+1,j,none⟩=false:=fun j=>forQ _ _ j _ _ hW2
 obtain⟨V,hV,r1,r2,r3,r4,r5,r6⟩:=zo (u0:= .int .i64 t.id) (u1:= .int .i64 t.kind) (u2:= .string t.text) (u3:= .slice ka nk tc) hW2
 obtain⟨m,hm⟩:∃m,m=(yY p).length:=⟨_,rfl⟩
 rw[←hm] at hown ⊢
 have hgl:=fun g hg=>zk hown (g:=g) hg
 have hownV:=zH (w':=V) hown (fun g cur hc hg=>r2 g (by have:=(hgl g hg).1;have:=HB.out.2.1;omega))
 have hbw:=HB.out.1
 have hbz:=HB.out.2.1
 have hWz:=hbW.size
 have hIV:WhI w S (w.heap.size+1) V t:=⟨⟨r3.trans (hbW.os.trans hbw.os),r4.trans (hbW.tape.trans hbw.tape),r5.trans (hbW.output.trans hbw.output),by rw[r6];omega,fun y hy=>(r2 y om).trans ((hbW.block y om).trans (hbw.block y hy))⟩,ka,tc,by rw[←HK.out.1];exact r1,HK.out.2.1,HK.out.2.2.1.kept fun y hy=>⟨hy,(r2 y (by have:=HK.out.2.2.2 y hy;omega)).trans ((hbW.block y (by have:=HK.out.2.2.2 y hy;omega)).trans (hbw.block y (HK.out.2.2.2 y hy)))⟩⟩
 rw[HB.out.2.1] at hownV
 have HI0:=hH (aN hIV (aN hownV (aN (fun g hg=>show w.heap.size+2≤g by have:=(hgl g hg).1;omega) (show m=p.length by rw[hm,zP]))))
 have hm6:m≤300000:=by rw[hm,zP];exact hp6
 have HVE:=hH hV
 clear hown hbW hW1 hW2 hV r1 r2 r3 r4 r5 r6 hm hgl hownV hbw hbz hWz hIV HP HB HK
 go_upto_region 3 with fail
 rw[←HVE.out]
 clear HVE b0 b1 b2 b3 z0 z1 z2 z3 zf
 go_wp2_with fail
 go_loopw [5,6,18] (fun a b i wr=>∃(k:Nat) (ai bi:Int) (u:Tr),k≤m∧i= .int .i64 (k:Int)∧a= .int .i64 ai∧b= .int .i64 bi∧Hid (WhI w S (w.heap.size+1) wr u∧wr.ownsRow (w.heap.size+2) 3 1 (.slice pa m pc) m ((yY p).map Yg)∧jJ u ai bi (p.drop k)=jJ t 0 0 p∧atT u (p.drop k)=some vv)) (fun _ _ i _=>m - (intOf i).toNat)
 case atStart=>exact⟨0,0,0,t,NzlQ _,rfl,rfl,rfl,hH ⟨HI0.out.1,HI0.out.2.1,by rw[List.drop_zero],by rw[List.drop_zero];exact HV.out.1⟩⟩
 case round=>
  obtain⟨k,ai,bi,u,hk,rfl,rfl,rfl,hh⟩:=hrel
  by_cases hlt:k<m
  · have hki:(k:Int)<(m:Int):=by omega
    obtain⟨⟨hbel,ka2,kc2,hh1,hc,hf⟩,hown,hwk,hat⟩:=hh.out
    obtain⟨j,hj⟩:∃j,p[k]? =some j:=⟨_,List.getElem?_eq_getElem (by rw[←HI0.out.2.2.2];exact hlt)⟩
    obtain⟨g,hpa,hgc,hgl,hcell⟩:=zcE hown om
    subst hpa
    have c0:wr.cell? ⟨g,k,none⟩=some (.int .i64 (j:Int)):=hcell k (j:Int) (by rw[yY,List.getElem?_map,hj];rfl)
    obtain⟨v,hkv,hwk2,hat2⟩:=zfo (a:=ai) (b:=bi) hj hat
    obtain⟨n0,n1,n2,n3⟩:=zD hh1
    have nf:∀i,wr.frozen? ⟨w.heap.size+1,i,none⟩=false:=fun i=>forQ _ _ i _ _ hh1
    have hju:=yx hkv
    obtain⟨b0,o0,key,l,r,hd,g2,go,na,nc,hka,hSg,q0,q1,q2,q3,qc,qk⟩:=hf.at j hju
    subst hka
    have hv:v=⟨key.1,key.2.1,key.2.2,l⟩:=by rw[zB,hd] at hkv;cases hkv;rfl
    obtain⟨un,hun⟩:∃un,un=foLen u.kids:=⟨_,rfl⟩
    obtain⟨ln,hln⟩:∃ln,ln=foLen l:=⟨_,rfl⟩
    rw[←hun] at n3
    rw[←hln] at q3
    have hju2:(j:Int)<(un:Int):=by omega
    have hj0:(0:Int)≤(j:Int):=by omega
    obtain⟨V,hV,r1,r2,r3,r4,r5,r6⟩:=zo (u0:= .int .i64 key.1) (u1:= .int .i64 key.2.1) (u2:= .string key.2.2) (u3:= .slice na ln nc) hh1
    have hne:∀y,S y→y≠w.heap.size+1:=fun y hy e=>by have:=HS.out y hy;omega
    have hIV:WhI w S (w.heap.size+1) V.drew v:=⟨⟨r3.trans hbel.os,r4.trans hbel.tape,r5.trans hbel.output,by show w.heap.size≤V.heap.size;rw[r6];exact hbel.size,fun y hy=>(r2 y om).trans (hbel.block y hy)⟩,na,nc,by subst hv;rw[←hln];exact r1,by subst hv;exact qc,by subst hv;exact zt.kept (w:=wr) (w':=V.drew) (S:=S) (S':=S) (fun y hy=>⟨hy,r2 y (hne y hy)⟩) qk⟩
    have hownV:=zH (w':=V.drew) hown (fun g' cur hc hg=>r2 g' (by have:=HI0.out.2.2.1 g' hg;omega))
    have HEND:=hH (aN hIV (aN hownV (aN (hwk2.symm.trans hwk) (aN hat2 hlt))))
    have HVE:=hH hV
    clear hbel hh1 hc hf hown hwk hat hj hgc hcell hkv hwk2 hat2 hd hSg qc qk hv hun hln hV r1 r2 r3 r4 r5 r6 hne hIV hownV hlt hju hh hk HI0 hgl
    go_wp2_with fail
    go_region_law (fail)
    all_goals
     rw[←HVE.out]
     go_wp2_with fail
     refine⟨⟨k+1,u.id,(j:Int),v,by have:=HEND.out.2.2.2.2;omega,by go_num,rfl,rfl,hH ⟨HEND.out.1,HEND.out.2.1,HEND.out.2.2.1,HEND.out.2.2.2.1⟩⟩,by have:=HEND.out.2.2.2.2;simp[intOf];omega⟩
  · have hki:¬(k:Int)<(m:Int):=by omega
    obtain⟨⟨hbel,ka2,kc2,hh1,hc,hf⟩,hown,hwk,hat⟩:=hh.out
    rw[List.drop_eq_nil_of_le (by have:=HI0.out.2.2.2;omega)] at hwk
    obtain⟨n0,n1,n2,n3⟩:=zD hh1
    have nf:∀i,wr.frozen? ⟨w.heap.size+1,i,none⟩=false:=fun i=>forQ _ _ i _ _ hh1
    obtain⟨un,hun⟩:∃un,un=foLen u.kids:=⟨_,rfl⟩
    rw[←hun] at n3 hh1
    obtain⟨V,hV,r1,r2,r3,r4,r5,r6⟩:=zo (u0:= .int .i64 u.id) (u1:= .int .i64 u.kind) (u2:= .string u.text) (u3:= .slice ka2 un kc2) hh1
    have HEND:Hid (zjw w S (jJ t 0 0 p) (.returned (.tuple #[.agg #[.int .i64 u.id,.int .i64 u.kind,.string u.text,.slice ka2 un kc2],.int .i64 ai,.int .i64 bi])) V):=hH (by
     rw[←hwk,show jJ u ai bi []=(u,ai,bi) from rfl]
     exact⟨_,rfl,⟨ka2,kc2,by rw[hun],hc,hf.kept fun y hy=>⟨hy,r2 y (fun e=>by have:=HS.out y hy;omega)⟩⟩,⟨r3.trans hbel.os,r4.trans hbel.tape,r5.trans hbel.output,by rw[r6];exact hbel.size,fun y hy=>(r2 y om).trans (hbel.block y hy)⟩⟩)
    have HR:=hH r1
    have HVE:=hH hV
    clear hbel hh1 hc hf hown hwk hat hlt hk hh hun HI0 hV r1 r2 r3 r4 r5 r6
    go_wp2_with fail
    rw[←HVE.out]
    refine brQ (zbo rfl _ _ (w.heap.size+1) 27 _ (0,0) _ (.int .i64 ai) (.int .i64 bi) rfl HR.out Tryz.underlying27 rfl kr1 rfl rfl) rfl ?_
    exact HEND.out
end Go.Proofs.YtgkmmnihaiopaaaGreat
