/-
  .
-/
import Derived.Test.YtgkmmnihaiopaaaGreatKInsertQv
set_option maxRecDepth 100000
set_option maxHeartbeats 40000000
set_option linter.unusedVariables false
set_option linter.unusedSimpArgs false
namespace Go.Proofs.YtgkmmnihaiopaaaGreat
open Go.RowKit Go.Shelf
def jE (f:Fo):List Int:=(spF 1 f).map fun x=>x.2.1.1
theorem zco:∀(d:Nat) (f:Fo),(spF d f).map (fun x=>x.2.1.1)=jE f
 | _,.nil=>rfl
 | d,.node _ _ k l r=>by
   simp only[jE,spF,List.map_cons,List.map_append]
   rw[zco (d+1) l,zco d r,zco (1+1) l]
   rfl
theorem yO (b o:Nat)(k:Int×Int×ByteArray)(l r:Fo):jE (.node b o k l r)=k.1::(jE l++jE r):=by
 simp only[jE,spF,List.map_cons,List.map_append]
 rw[zco (1+1) l]
 rfl
def vD (t:Tr):Prop:=(jE (zm t)).Nodup
theorem zeC {t:Tr}(h:vD t):t.id∉jE t.kids∧(jE t.kids).Nodup:=by
 rw[vD,zm,yO] at h
 have e:jE Deep.BT.nil= []:=rfl
 rw[e,List.append_nil] at h
 exact⟨(List.nodup_cons.1 h).1,(List.nodup_cons.1 h).2⟩
theorem Zy:∀(id:Int) (f:Fo) (j:Nat),id∉jE f→fpi id j f=none
 | _,.nil,_,_=>rfl
 | id,.node b o k l r,j,h=>by
   rw[yO] at h
   simp only[List.mem_cons,List.mem_append,not_or] at h
   rw[fpi,inQ (fun e=>h.1 e.symm),Zy id l 0 h.2.1]
   exact Zy id r (j+1) h.2.2
theorem at_mem:∀(f:Fo) (k:Nat) (r:List Nat) (u v:Tr),zB f k=some u→atT u r=some v→v.id∈jE f
 | .nil,k,r,u,v,h,_=>by rw[zcs (by simp[foLen])] at h;cases h
 | .node b o key l q,0,r,u,v,h,hv=>by
   rw[yO]
   have hu:u=⟨key.1,key.2.1,key.2.2,l⟩:=by simp only[zB,zq,yZ] at h;cases h;rfl
   subst hu
   cases r with
   | nil=>cases hv;simp
   | cons i r=>
     simp only[atT] at hv
     cases hk:zB l i with
     | none=>rw[hk] at hv;cases hv
     | some w=>
       rw[hk] at hv
       have:=at_mem l i r w v hk hv
       simp[this]
 | .node b o key l q,k+1,r,u,v,h,hv=>by
   rw[yO]
   have h2:zB q k=some u:=by simpa [zB,zq] using h
   have:=at_mem q k r u v h2 hv
   simp[this]
theorem zaw:∀(f:Fo) (j k:Nat) (r:List Nat) (u v:Tr),(jE f).Nodup→zB f k=some u→atT u r=some v→fpi v.id j f=some ((j+k)::r)
 | .nil,_,k,r,u,v,_,h,_=>by rw[zcs (by simp[foLen])] at h;cases h
 | .node b o key l q,j,0,r,u,v,hd,h,hv=>by
   rw[yO,List.nodup_cons,List.nodup_append] at hd
   have hu:u=⟨key.1,key.2.1,key.2.2,l⟩:=by simp only[zB,zq,yZ] at h;cases h;rfl
   subst hu
   cases r with
   | nil=>cases hv;simp[fpi]
   | cons i r=>
     simp only[atT] at hv
     cases hk:zB l i with
     | none=>rw[hk] at hv;cases hv
     | some w=>
       rw[hk] at hv
       simp only at hv
       have hm:=at_mem l i r w v hk hv
       have h1:=zaw l 0 i r w v hd.2.1 hk hv
       rw[fpi,inQ (fun e=>hd.1 (by rw[e];simp[hm])),h1]
       simp
 | .node b o key l q,j,k+1,r,u,v,hd,h,hv=>by
   rw[yO,List.nodup_cons,List.nodup_append] at hd
   have h2:zB q k=some u:=by simpa [zB,zq] using h
   have hm:=at_mem q k r u v h2 hv
   have h1:=zaw q (j+1) k r u v hd.2.2.1 h2 hv
   have hnl:v.id∉jE l:=fun e=>hd.2.2.2 _ e _ hm rfl
   rw[fpi,inQ (fun e=>hd.1 (by rw[e];simp[hm])),Zy _ l 0 hnl,h1]
   rw[show j+1+k=j+(k+1) by omega]
theorem vM {t v:Tr}{r:List Nat}(hd:vD t)(hv:atT t r=some v):zA v.id t=some r:=by
 obtain⟨h1,h2⟩:=zeC hd
 cases r with
 | nil=>cases hv;simp[zA]
 | cons i r=>
   simp only[atT] at hv
   cases hk:zB t.kids i with
   | none=>rw[hk] at hv;cases hv
   | some u=>
     rw[hk] at hv
     simp only at hv
     have hm:=at_mem t.kids i r u v hk hv
     rw[zA,inQ (fun e=>h1 (by rw[e];exact hm)),zaw t.kids 0 i r u v h2 hk hv,Nat.zero_add]
theorem Yd:∀(id:Int) (f:Fo) (j:Nat) (p:List Nat),fpi id j f=some p→∃k r,p=k::r∧j≤k∧∃u,zB f (k - j)=some u∧∃v,atT u r=some v∧v.id=id
 | _,.nil,_,_,h=>by cases h
 | id, .node b o key l q,j,p,h=>by
   rw[fpi] at h
   by_cases hi:key.1=id
   · rw[ipQ hi] at h
     cases h
     exact⟨j,[],rfl,NlrQ _,⟨key.1,key.2.1,key.2.2,l⟩,by rw[Nat.sub_self];rfl,_,rfl,hi⟩
   · rw [inQ hi] at h
     cases hl:fpi id 0 l with
     | some p'=>
       rw[hl] at h
       cases h
       obtain⟨k,r,rfl,_,u,hu,v,hv,hvi⟩:=Yd id l 0 p' hl
       rw[Nat.sub_zero] at hu
       refine⟨j,k::r,rfl,NlrQ _,⟨key.1,key.2.1,key.2.2,l⟩,by rw[Nat.sub_self];rfl,v,?_,hvi⟩
       simp only[atT]
       rw[hu]
       exact hv
     | none=>
       rw[hl] at h
       obtain⟨k,r,rfl,hk,u,hu,hv⟩:=Yd id q (j+1) p h
       refine⟨k,r,rfl,by omega,u,?_,hv⟩
       rw[show k - j=(k - (j+1))+1 by omega]
       simpa [zB,zq] using hu
theorem zar (id:Int):∀(f:Fo) (d j:Nat),(qY id (spF d f)).map zd7=(fpi id j f).bind fun p=>(match p with | []=>none | k::r=>(zB f (k - j)).bind fun u=>atT u r)
 | .nil,_,_=>rfl
 | .node b o key l q,d,j=>by
   by_cases h:key.1=id
   · rw[fpi,ipQ h]
     have:qY id (spF d (.node b o key l q))=some (d,key,l):=zaq (pre:=[]) (rest:=spF (d+1) l++spF d q) (fun _ h=>by cases h) h
     rw[this]
     simp[zB,zq,yZ,atT,zd7]
   · rw [fpi,inQ h]
     have e:qY id (spF d (.node b o key l q))=(qY id (spF (d+1) l)).or (qY id (spF d q)):=by
      simp only[qY,spF,List.find?_cons,List.find?_append]
      have hb:(key.1 == id)=false:=by simpa using h
      rw[hb]
     rw[e]
     have i1:=zar id l (d+1) 0
     have i2:=zar id q d (j+1)
     cases hl:fpi id 0 l with
     | none =>
       rw[hl] at i1
       have:qY id (spF (d+1) l)=none:=by
        cases hx:qY id (spF (d+1) l) with
        | none=>rfl
        | some x=>rw[hx] at i1;simp at i1
       rw[this,Option.none_or,i2]
       cases hq:fpi id (j+1) q with
       | none=>rfl
       | some p=>
         cases p with
         | nil=>rfl
         | cons k r=>
           obtain⟨k',r',e',hk,_⟩:=Yd id q (j+1) _ hq
           cases e'
           simp only[Option.bind_some]
           have:k - j=(k - (j+1))+1:=by omega
           rw[this]
           simp[zB,zq]
     | some p=>
       rw[hl] at i1
       have :(qY id (spF (d+1) l)).isSome:=by
        cases hx:qY id (spF (d+1) l) with
        | some x=>rfl
        | none=>
          exfalso
          rw[hx] at i1
          obtain⟨k,r,rfl,_,u,hu1,v,hv,_⟩:=Yd id l 0 p hl
          simp only[Option.map_none,Option.bind_some,hu1,hv] at i1
          cases i1
       obtain⟨x,hx⟩:=Option.isSome_iff_exists.1 this
       rw[hx] at i1 ⊢
       simp only[Option.some_or,i1,Option.bind_some]
       obtain⟨k,r,rfl,_⟩:=Yd id l 0 p hl
       rw[Nat.sub_self]
       show (zB l k).bind (fun u=>atT u r)=(some (⟨key.1,key.2.1,key.2.2,l⟩:Tr)).bind fun u=>atT u (k::r)
       simp only[Option.bind_some,atT]
       cases zB l k<;>rfl
theorem zbE (id:Int)(t:Tr):(qY id (spF 1 (zm t))).map zd7=(zA id t).bind fun p=>atT t p:=by
 rw[zar id (zm t) 1 0]
 simp only[zm,fpi,zA]
 by_cases h:t.id=id
 · rw[ipQ h,ipQ h];simp[zB,zq,yZ,atT]
 · rw[inQ h,inQ h]
   cases hl:fpi id 0 t.kids with
   | none=>rfl
   | some p=>simp[zB,zq,yZ]
theorem zbF (id:Int)(t:Tr):(qY id (spF 1 (zm t))).isSome=(zA id t).isSome:=by
 have h:=zbE id t
 cases hp:zA id t with
 | none=>rw[hp] at h;simp at h;rw[h];rfl
 | some p=>
   obtain⟨v,hv⟩:∃v,atT t p=some v:=by
    rw[zA] at hp
    split at hp
    · cases hp;exact⟨t,rfl⟩
    · obtain⟨k,r,rfl,_,u,hu,v,hv,_⟩:=Yd _ _ _ _ hp
      rw[Nat.sub_zero] at hu
      exact⟨v,by simp only[atT];rw[hu];exact hv⟩
   rw[hp] at h
   simp only[Option.bind_some,hv] at h
   cases hf:qY id (spF 1 (zm t)) with
   | none=>rw[hf] at h;cases h
   | some x=>rfl
theorem zaW (id:Int)(t:Tr)(p:List Nat)(hp:zA id t=some p):∃v,atT t p=some v∧v.id=id:=by
 rw[zA] at hp
 split at hp
 · next h=>cases hp;exact⟨t,rfl,h⟩
 · obtain⟨k,r,rfl,_,u,hu,v,hv,hi⟩:=Yd _ _ _ _ hp
   rw[Nat.sub_zero] at hu
   exact⟨v,by simp only[atT];rw[hu];exact hv,hi⟩
theorem zfG {α:Type} [DecidableEq α]:∀(l m:List α),lcp l m=l.length↔l<+:m
 | [],m=>by simp[lcp]
 | a::l,[]=>by simp[lcp]
 | a ::l,b::m=>by
   simp only[lcp,LlcQ]
   by_cases h:a=b
   · subst h
     rw[ipQ rfl,List.cons_prefix_cons]
     simp[zfG l m]
   · rw[inQ h]
     simp[List.cons_prefix_cons,h]
theorem zbf {t:Tr}{a b:Int}{p q:List Nat}(ha:zA a t=some p)(hb:zA b t=some q):qN a b t=decide (p<+:q):=by
 rw[qN,ha,hb]
 simp only[decide_eq_decide]
 exact zfG p q
def cntF (a:Int):Fo→Nat
 | .nil=>0
 | .node _ _ k l r=>(if k.1=a then 1 else 0)+cntF a l+cntF a r
def yz (a:Int)(t:Tr):Nat:=(if t.id=a then 1 else 0)+cntF a t.kids
theorem vW (a:Int):∀f:Fo,a∈jE f↔0<cntF a f
 | .nil=>by simp[jE,spF,cntF]
 | .node b o k l r=>by
   rw[yO,List.mem_cons,List.mem_append,vW a l,vW a r,cntF]
   by_cases h:k.1=a
   · rw[ipQ h];constructor
     · intro _;omega
     · intro _;exact Or.inl h.symm
   · rw [inQ h];constructor
     · rintro (h1 | h1 | h1)
       · exact absurd h1.symm h
       · omega
       · omega
     · intro h1;right;omega
theorem QR :∀f:Fo,(jE f).Nodup↔∀a,cntF a f≤1
 | .nil=>by simp[jE,spF,cntF]
 | .node b o k l r=>by
   rw[yO,List.nodup_cons,List.nodup_append,List.mem_append,vW,vW,QR l,QR r]
   constructor
   · rintro ⟨h1,h2,h3,h4⟩ a
     rw[cntF]
     have h2a:=h2 a
     have h3a:=h3 a
     by_cases h:k.1=a
     · subst h;rw[ipQ rfl];omega
     · rw [inQ h]
       by_cases hl:0<cntF a l
       · by_cases hr:0<cntF a r
         · exact absurd rfl (h4 a ((vW a l).2 hl) a ((vW a r).2 hr))
         · omega
       · omega
   · intro h
     refine⟨?_,fun a=>?_,fun a=>?_,?_⟩
     · have:=h k.1
       rw[cntF,ipQ rfl] at this
       omega
     · have:=h a;rw[cntF] at this;omega
     · have:=h a;rw[cntF] at this;omega
     · rintro a ha b hb rfl
       have:=h a
       rw[cntF] at this
       have h1:=(vW a l).1 ha
       have h2:=(vW a r).1 hb
       omega
theorem Ya (a:Int)(t:Tr):cntF a (zm t)=yz a t:=by simp[zm,cntF,yz]
theorem kg (t:Tr):vD t↔∀a,yz a t≤1:=by
 rw[vD,QR]
 exact⟨fun h a=>by rw[←Ya];exact h a,fun h a=>by rw[Ya];exact h a⟩
theorem zfv (a:Int):∀(f:Fo) (i:Nat) (u:Tr),i≤foLen f→cntF a (yK f i u)=cntF a f+yz a u
 | f,0,u,_=>by rw[vQ,cntF,yz];simp only;omega
 | .nil,i+1,u,h=>by simp[foLen] at h
 | .node b o k l r,i+1,u,h=>by
   have:=zfv a r i u uf1
   simp only[yK,cntF,this];omega
theorem JJ (a:Int):∀(f:Fo) (i:Nat) (u:Tr),zB f i=some u→cntF a (zW f i)+yz a u=cntF a f
 | .nil,i,u,h=>by cases i<;>simp[zB,zq,yZ] at h
 | .node b o k l r,0,u,h=>by
   simp only[zB,zq,yZ] at h
   cases h
   simp only[zW,cntF,yz];omega
 | .node b o k l r,i+1,u,h=>by
   have:=JJ a r i u uf4
   simp only[zW,cntF];omega
theorem zfx (a:Int):∀(f:Fo) (i:Nat) (u v:Tr),zB f i=some u→cntF a (vB f i v)+yz a u=cntF a f+yz a v
 | .nil,i,_,_,h=>by cases i<;>simp[zB,zq,yZ] at h
 | .node _ _ k l r,0,u,v,h=>by
   simp only[zB,zq,yZ] at h
   cases h
   simp only[vB,cntF,yz];omega
 | .node _ _ k l r,i+1,u,v,h=>by
   have:=zfx a r i u v uf4
   simp only[vB,cntF];omega
theorem JK (a:Int):∀(p:List Nat) (t u x:Tr),atT t p=some u→yz a (zO t p x)+yz a u=yz a t+yz a x
 | [],t,u,x,h=>by cases h;simp only[zO];omega
 | i ::p,t,u,x,h=>by
   simp only[atT] at h
   simp only[zO]
   cases hk:zB t.kids i with
   | none=>rw[hk] at h;cases h
   | some v=>
     rw[hk] at h
     have h1:=JK a p v u x h
     have h2:=zfx a t.kids i v (zO v p x) hk
     simp only[yz] at h1 h2 ⊢
     omega
theorem zfw (a:Int){f:Fo}{i:Nat}{u:Tr}(h:zB f i=some u):yz a u≤cntF a f:=by
 have:=JJ a f i u h;omega
theorem QP (a:Int):∀(p:List Nat) (t u:Tr),atT t p=some u→yz a u≤yz a t
 | [],t,u,h=>by cases h;omega
 | i ::p,t,u,h=>by
   simp only[atT] at h
   cases hk:zB t.kids i with
   | none=>rw[hk] at h;cases h
   | some v=>
     rw[hk] at h
     have h1:=QP a p v u h
     have h2:=zfw a hk
     simp only[yz] at h1 h2 ⊢
     omega
theorem JL (a:Int):∀(f:Fo) (i:Nat),fpi a i f=none↔cntF a f=0
 | .nil,i=>by simp[fpi,cntF]
 | .node b o k l r,i=>by
   rw[fpi,cntF]
   by_cases h:k.1=a
   · rw[ipQ h,ipQ h];simp
   · rw [inQ h,inQ h]
     cases hl:fpi a 0 l with
     | some p=>
       have:=mt (JL a l 0).2 (by rw[hl];simp)
       simp only;constructor
       · intro h;cases h
       · intro h;omega
     | none=>
       have h1:=(JL a l 0).1 hl
       simp only
       rw[JL a r (i+1)];omega
theorem Qz (a:Int)(t:Tr):zA a t=none↔yz a t=0:=by
 rw[zA,yz]
 by_cases h:t.id=a
 · rw[ipQ h,ipQ h];simp
 · rw[inQ h,inQ h,JL];omega
theorem zgD {a:Int}{t:Tr}(h:0<yz a t):∃p,zA a t=some p:=by
 cases hp:zA a t with
 | none=>have:=(Qz a t).1 hp;omega
 | some p=>exact⟨p,rfl⟩
theorem zam (t:Tr):0<yz t.id t:=by rw[yz,ipQ rfl];omega
theorem Y4:∀(p:List Nat) (t u x:Tr),atT t p=some u→atT (zO t p x) p=some x
 | [],t,u,x,h=>rfl
 | i ::p,t,u,x,h=>by
   simp only[atT] at h
   simp only[zO]
   cases hk:zB t.kids i with
   | none=>rw[hk] at h;cases h
   | some v=>
     rw[hk] at h
     simp only[atT,zaK _ i _ (yx hk)]
     exact Y4 p v u x h
theorem Yy:∀(p:List Nat) (t u x y:Tr),atT t p=some u→zO (zO t p x) p y=zO t p y
 | [],t,u,x,y,h=>rfl
 | i ::p,t,u,x,y,h=>by
   simp only[atT] at h
   cases hk:zB t.kids i with
   | none=>rw[hk] at h;cases h
   | some v=>
     rw[hk] at h
     simp only[zO,hk,zaK _ i _ (yx hk),zd1]
     rw[Yy p v u x y h]
theorem zfP:∀(f:Fo) (i:Nat) (u:Tr),zB f i=some u→vB f i u=f
 | .nil,i,_,h=>by cases i<;>simp[zB,zq,yZ] at h
 | .node _ _ k l r,0,u,h=>by
   simp only[zB,zq,yZ] at h
   cases h;rfl
 | .node _ _ k l r,i+1,u,h=>by
   simp only[vB];rw[zfP r i u uf4]
theorem JP:∀(p:List Nat) (t u:Tr),atT t p=some u→zO t p u=t
 | [],t,u,h=>by cases h;rfl
 | i ::p,t,u,h=>by
   simp only[atT] at h
   cases hk:zB t.kids i with
   | none=>rw[hk] at h;cases h
   | some v=>
     rw[hk] at h
     simp only[zO,hk]
     rw[JP p v u h,zfP _ _ _ hk]
theorem Zt {p:List Nat}{t u v:Tr}{i:Nat}(h:atT t p=some u)(hv:zB u.kids i=some v):atT t (p++[i])=some v:=by
 rw[ji,h]
 simp only[Option.bind_some,atT,hv]
theorem zfg (a b:Int×Int×ByteArray):je a b=je b a:=by
 unfold je
 rw[decide_eq_decide]
 constructor<;>(rintro ⟨h1,h2,h3⟩;exact⟨h1.symm,h2.symm,h3.symm⟩)
theorem za5:∀f g:Fo,y7 f g=y7 g f:=by
 intro f
 induction f with
 | nil=>intro g;cases g<;>rfl
 | node b o a l r ihl ihr=>
   intro g
   cases g with
   | nil=>rfl
   | node b' o' a' l' r'=>
     simp only[y7]
     rw[zfg,ihl,ihr]
     congr 2
     rw[show decide (foLen l=foLen l')=decide (foLen l'=foLen l) from by rw[decide_eq_decide];exact eq_comm]
theorem zaO:∀(p q:List Nat),lcp p q=p.length→∃r,q=p++r
 | [],q,_=>⟨q,rfl⟩
 | i::p,[],h=>by rw[zdx] at h;simp at h
 | i ::p,j::q,h=>by
   by_cases hij:i=j
   · subst hij
     obtain⟨r,e⟩:=zaO p q (by simp[lcp] at h;exact h)
     exact⟨r,by rw[e];rfl⟩
   · simp[lcp,hij] at h
theorem zaR {id par at_:Int}{t x:Tr}(h:yC id par at_ t=(x,0)):
 ∃p i u v q z,zA id t=some (p++[i])∧atT t p=some u∧zB u.kids i=some v∧v.id=id∧zA par (zO t p ⟨u.id,u.kind,u.text,zW u.kids i⟩)=some q∧atT (zO t p ⟨u.id,u.kind,u.text,zW u.kids i⟩) q=some z∧0≤at_∧at_≤(foLen z.kids:Int)∧x=zO (zO t p ⟨u.id,u.kind,u.text,zW u.kids i⟩) q ⟨z.id,z.kind,z.text,yK z.kids at_.toNat v⟩:=by
 cases hi:zA id t with
 | none=>rw[Qw hi] at h;cases h
 | some p0 =>
   cases hp:zA par t with
   | none=>rw[QY hp] at h;cases h
   | some q0 =>
     by_cases h0:p0= []
     · subst h0;rw[YV hi hp] at h;cases h
     · cases hw:qN id par t with
       | true=>rw[YU hi hp h0 hw] at h;cases h
       | false =>
         obtain⟨p,i,rfl⟩:∃p i,p0=p++[i]:=⟨p0.dropLast,p0.getLast h0,(List.dropLast_concat_getLast h0).symm⟩
         obtain⟨v,hv0,hvid⟩:=yX id t _ hi
         obtain⟨u,hu,hv⟩:=j4 p i t v hv0
         rw[Qv hi hp hw hu hv] at h
         cases hq:zA par (zO t p ⟨u.id,u.kind,u.text,zW u.kids i⟩) with
         | none=>rw[jY hq] at h;cases h
         | some q=>
           obtain⟨z,hz,_⟩:=yX _ _ _ hq
           rw[vz hq hz] at h
           by_cases hc:0≤at_∧at_≤(foLen z.kids:Int)
           · rw[ipQ hc] at h
             exact⟨p,i,u,v,q,z,rfl,hu,hv,hvid,hq,hz,hc.1,hc.2,(Prod.mk.inj h).1.symm⟩
           · rw[inQ hc] at h
             exact absurd (Prod.mk.inj h).2 ug7
theorem zeY {id par at_:Int}{t x:Tr}(hd:vD t)(h:yC id par at_ t=(x,0)):
 ∃p i u,zA id t=some (p++[i])∧atT t p=some u∧(yC id u.id (i:Int) x).2=0∧qF (yC id u.id (i:Int) x).1 t=true:=by
 obtain⟨p,i,u,v,q,z,hi,hu,hv,hvid,hq,hz,ha,hb,hx⟩:=zaR h
 obtain⟨n,hn⟩:∃n:Nat,n=at_.toNat:=⟨_,rfl⟩
 have hnz:n≤foLen z.kids:=by omega
 rw[←hn] at hx
 obtain⟨y,hy⟩:∃y,y=zO t p ⟨u.id,u.kind,u.text,zW u.kids i⟩:=⟨_,rfl⟩
 rw[←hy] at hq hz hx
 have cy:∀a,yz a y+yz a v=yz a t:=fun a=>by
  exact sj1
 have cx:∀a,yz a x=yz a t:=fun a=>by
  have h1:=JK a q y z ⟨z.id,z.kind,z.text,yK z.kids n v⟩ hz
  have h2:=zfv a z.kids n v hnz
  have h3:=cy a
  rw[←hx] at h1
  simp only[yz] at h1 h2 h3 ⊢
  omega
 have ht1:=(kg t).1 hd
 have hdx:vD x:=(kg x).2 fun a=>by rw[cx];exact ht1 a
 have hdy:vD y:=(kg y).2 fun a=>by have:=ht1 a;have:=cy a;omega
 have hxq:atT x q=some ⟨z.id,z.kind,z.text,yK z.kids n v⟩:=by rw[hx];exact Y4 q y z _ hz
 have hxv:atT x (q++[n])=some v:=Zt hxq (jF z.kids n v hnz)
 have hxi:zA id x=some (q++[n]):=by rw[←hvid];exact vM hdx hxv
 have huv:yz u.id v=0:=by
  have h1:=ht1 u.id
  have h2:=QP u.id p t u hu
  have h3:=zfw u.id hv
  simp only[yz,ipQ] at h1 h2 h3 ⊢
  omega
 obtain⟨pu,hpu⟩:=zgD (a:=u.id) (t:=x) (by
  rw[cx]
  have h2:=QP u.id p t u hu
  have:=zam u
  omega)
 have hw:qN id u.id x=false:=by
  cases hw:qN id u.id x with
  | false=>rfl
  | true=>
    exfalso
    simp only[qN,hxi,hpu,decide_eq_true_eq] at hw
    obtain⟨r,e⟩:=zaO _ _ hw
    obtain⟨w,hw1,hw2⟩:=yX _ _ _ hpu
    rw[e,ji,hxv] at hw1
    simp only[Option.bind_some] at hw1
    have h1:=QP u.id r v w hw1
    have h2:=zam w
    rw[hw2] at h2
    omega
 have e1:zO x q ⟨z.id,z.kind,z.text,zW (yK z.kids n v) n⟩=y:=by
  rw[zch _ _ _ hnz,hx,Yy q y z _ _ hz]
  exact JP q y z hz
 have hgo:=Qv (at_:=(i:Int)) hxi hpu hw hxq (jF z.kids n v hnz)
 rw[e1] at hgo
 have hyp:atT y p=some ⟨u.id,u.kind,u.text,zW u.kids i⟩:=by rw[hy];exact Y4 p t u _ hu
 have hyu:zA u.id y=some p:=vM (v:=⟨u.id,u.kind,u.text,zW u.kids i⟩) hdy hyp
 have hil:=Yb u.kids i (yx hv)
 rw[vz hyu hyp,ipQ ⟨by omega,by simp only;have:=yx hv;omega⟩] at hgo
 refine⟨p,i,u,hi,hu,by rw[hgo],?_⟩
 rw[hgo]
 simp only[Int.toNat_natCast]
 rw[hy,Yy p t u _ _ hu]
 obtain⟨s1,s2⟩:=zcp u.kids i v hv
 refine Q7 p t u _ hu ?_
 rw[za5] at s1
 simp[qF,je,s1,s2]
end Go.Proofs.YtgkmmnihaiopaaaGreat
namespace Go.Proofs.YtgkmmnihaiopaaaGreat
open Go.RowKit
def zkT (S:Nat→Prop)(w:World)(B:Nat)(rv:Value)(T:List Sp)(M d:Nat)(t:Tr)(e:Ending)(w' :World):Prop:=
 ∃rv',e= .returned rv'∧qJ S w' B rv' ((T++spT d t).take M).length ((T++spT d t).take M)∧jD w w' rv rv'
def zfT (S:Nat→Prop)(w:World)(B:Nat)(rv:Value)(T:List Sp)(M:Nat)(x:Sp)(c1:Array Value)(ks:Fo)(len:Nat)(l i:Value)(wr:World):Prop:=
 ∃(k:Nat) (L:List Sp),k≤len∧i= .int .i64 (k:Nat)∧Hid (L=(T++(x::spF (x.1+1) (zx k ks))).take M)∧qJ S wr B l L.length L∧jD w wr rv l∧wr.heap[w.heap.size]? =some (.cells c1 27 (0,0))∧T.length+1≤L.length∧L.length≤M
theorem zfe (M:Nat)(hM:M≤2000000):∀(m:Nat) (w:World) (S:Nat→Prop) (v:Value) (t:Tr) (B:Nat) (rv:Value) (n:Nat) (T:List Sp) (d:Nat),zb t.kids<m→foLen t.kids≤9223372036854775807→qZ t.kids→(∀k,S k→k<B)→B≤w.heap.size→zG w S v t→
 qJ S w B rv n T→n≤M→d≤n+1→
 Calls Tryz.prog 39 #[rv,v,.int .i64 (d:Int),.int .i64 (M:Int)] w (zkT S w B rv T M d t):=by
 intro m
 induction m with
 | zero=>intro w S v t B rv n T d h;omega
 | succ m ih=>
   intro w S v t B rv n T d hm hm5 hfit hS hB hv hrow hnM hd1
   obtain⟨ka,cap,rfl,hcpt,hk⟩:=hv
   obtain⟨id,kd,tx,ks⟩:=t
   simp only at hk hm hcpt hm5 hfit
   simp only
   obtain⟨hT,xs,ho,hxs⟩:=hrow
   obtain⟨ra,rcap,rfl⟩:=zy ho
   obtain⟨len,hlen⟩:∃len,len=foLen ks:=⟨_,rfl⟩
   have hlen2:len≤9223372036854775807:=by omega
   rw[←hlen] at hcpt ⊢
   have HN:=hH (aN hm hfit)
   have HLEN:=hH (aN hlen hcpt)
   have HK:=hH hk
   have HSS:=hH (aN hS hB)
   have HIH:=hH ih
   have HO:=hH (aN ho hxs)
   have HT:=hH hT
   have HD:=hH hd1
   have hdM:(d:Int)≤2000001:=by omega
   have hd0:(0:Int)≤(d:Int):=by omega
   have hn5:n≤2000000:=by omega
   clear hlen hk hm hm5 hfit hS hB ih ho hxs hT hcpt hd1
   by_cases hful:M≤n
   · have hMn:(M:Int)≤(n:Int):=by omega
     have HF:=hH (show (T++spT d ⟨id,kd,tx,ks⟩).take M=T by rw[List.take_append_of_le_length (by rw[HT.out];exact hful),List.take_of_length_le (by rw[HT.out];exact hnM)])
     clear hful
     go_enter Tryz.func39,Tryz.ntmps39
     go_wp2_with fail
     go_ret
     refine⟨_,rfl,?_,jD.box _⟩
     rw[HF.out,HT.out]
     exact⟨HT.out,xs,HO.out.1.alloc _,fun i x hi=>(HO.out.2 i x hi).kept fun k hk=>BhaQ _ _ _ (nL (HSS.out.1 k hk) HSS.out.2)⟩
   have hnn:¬(M:Int)≤(n:Int):=by omega
   have hnM1:n+1≤M:=by omega
   have HFN:=hH hful
   clear hful
   go_enter Tryz.func39,Tryz.ntmps39
   obtain⟨i0,z0,hi0,hz0,hz1,hz2,hz3⟩:=zeT Tryz.zeR
   have hnew:((w.alloc (.cells #[.int .i64 id,.int .i64 kd,.string tx,.slice ka len cap] 27)).alloc (.cells #[.int .i64 id,.int .i64 kd,.string tx,.slice ka len cap,.int .i64 (d:Int)] 59)).heap[w.heap.size+1]? =some (.cells #[.int .i64 id,.int .i64 kd,.string tx,.slice ka len cap,.int .i64 (d:Int)] 59 (0,0)):=heap_alloc2_new w _ _
   have HNEW:=hH hnew
   have hBw:B≤w.heap.size:=HSS.out.2
   clear hnew
   go_wp2_with (at_builtin;refine wpList_append_lies _ rfl (.tmp 15) (.tmp 19) _ rfl B 59 i0 z0 5 64 Tryz.underlying56 hi0 hz0 hz1 hz2 hz3 om (.slice ra n rcap) n xs rfl ((HO.out.1.alloc _).alloc _) ⟨w.heap.size+1,0,none⟩ 1 1 [.int .i64 id,.int .i64 kd,.string tx,.slice ka len cap,.int .i64 (d:Int)] rfl rfl (World.news_of_block (cs:= #[.int .i64 id,.int .i64 kd,.string tx,.slice ka len cap,.int .i64 (d:Int)]) (t:=59) (fr:=(0,0)) HNEW.out) uf6 om uf7 om ug5 (w.heap.size+1+1) sp1 ?_;intro gg cap' w1 hown1 hgrow hat hlt1)
   have hg1:jD w w1 (.slice ra n rcap) (.slice (some ⟨gg,0,none⟩) (n+1) cap'):=jD.first hgrow hat
   have hsp0:qJ S w B (.slice ra n rcap) n T:=⟨HT.out,xs,HO.out⟩
   have hlow1:=hg1.zi7 hsp0 hBw
   have hsp1:qJ S w1 B (.slice (some ⟨gg,0,none⟩) (n+1) cap') (n+1) (T++[(d,(id,kd,tx),ks)]):=⟨by rw[LlaQ,HT.out];rfl,_,hown1,by
    have:=Jw (x:=(d,(id,kd,tx),ks)) (ka:=ka) (cap:=cap) HO.out.1.1 HT.out HO.out.2 (w':=w1) (fun k hk=>hlow1 k (HSS.out.1 k hk)) (by show foLen ks≤cap;rw[←HLEN.out.1];exact HLEN.out.2) (HK.out.kept fun x hx=>⟨hx,hlow1 x (HSS.out.1 x hx)⟩)
    simp only[←HLEN.out.1] at this
    exact this⟩
   have hob:∀g,(Value.slice ra n rcap).ownBlock=some g→g<w.heap.size:=fun g hg=>(zk HO.out.1 hg).2
   have hbox:w1.heap[w.heap.size]? =some (.cells #[.int .i64 id,.int .i64 kd,.string tx,.slice ka len cap] 27 (0,0)):=by
    exact sh0
   have HG:=hH (aN hg1 (aN hsp1 (aN hob hbox)))
   clear hg1 hsp1 hob hbox hgrow hown1 hat hsp0 hlow1
   go_loopw [0,9] (fun l i wr=>zfT S w B (.slice ra n rcap) T M (d,(id,kd,tx),ks) #[.int .i64 id,.int .i64 kd,.string tx,.slice ka len cap] ks len l i wr) (fun _ i _=>len - (intOf i).toNat)
   case atStart=>exact⟨0,T++[(d,(id,kd,tx),ks)],NzlQ _,rfl,hH (by simp only[zx,spF];rw[List.take_of_length_le (by rw[LlaQ,HT.out];exact hnM1)]),by rw[LlaQ,HT.out];exact HG.out.2.1,HG.out.1,HG.out.2.2.2,by simp,by rw[LlaQ,HT.out];exact hnM1⟩
   case round=>
    obtain⟨k,L,hk,rfl,HL,hsp,hgr,hbx,hTL,hLM⟩:=hrel
    have p1:wr.cell? ⟨w.heap.size,3,none⟩=some (.slice ka len cap):=by rw[corQ wr _ 3 _ _ _ hbx];rfl
    have HR:=hH (aN hsp (aN hgr (aN hbx hTL)))
    clear hsp hgr hbx hTL
    by_cases hlt:k<len
    · have hlow:=HR.out.2.1.zi7 ⟨HT.out,xs,HO.out⟩ hBw
      have hk1:zt wr S ks ka:=HK.out.kept fun x hx=>⟨hx,hlow x (HSS.out.1 x hx)⟩
      obtain⟨b0,o0,⟨ki,kk,kt⟩,l',r,hd1',b,off,a1,n1,rfl,hSb,c0,c1,c2,c3,hcp,hl1⟩:=hk1.at k ue3
      obtain⟨_,_,_,_,_,e1,e2,hsz1,htk⟩:=zX k ks ue3
      rw[hd1'] at e1;cases e1
      have hft:=Zx k HN.out.2 hd1'
      have hcall:=HIH.out wr S (.agg #[.int .i64 ki,.int .i64 kk,.string kt,.slice a1 (foLen l') n1]) ⟨ki,kk,kt,l'⟩ B u0 L.length L (d+1) ud9 hft.1 hft.2 HSS.out.1 (NltQ hBw HR.out.2.1.1.size) ⟨a1,n1,rfl,hcp,hl1⟩ HR.out.1 hLM (by have:=HD.out;have:=HR.out.2.2.2;have:=HT.out;omega)
      obtain⟨m1,hm1⟩:∃m,m=foLen l':=⟨_,rfl⟩
      rw[←hm1] at hcall c3
      simp only at c0 c1 c2
      have hcast:(((d+1:Nat)):Int)=(d:Int)+1:=by omega
      rw[hcast] at hcall
      have HC:=hH hcall
      have htk2:spF (d+1) (zx (k+1) ks)=spF (d+1) (zx k ks)++((d+1,(ki,kk,kt),l')::spF (d+1+1) l'):=by rw[htk,QF]
      have HTK:=hH htk2
      have hkl:(k:Int)<(len:Int):=by omega
      clear hk1 hlow hd1' hcall hm1 htk htk2 hl1 hsz1 hSb e2 hcp hcast hft
      go_wp2_with fail
      refine HC.out.mono ?_
      rintro e w2 ⟨l2,rfl,hsp2,hg2⟩
      have HE:=hH (aN hsp2 hg2)
      clear hsp2 hg2
      go_wp2_with fail
      have hne:some w.heap.size≠u0.ownBlock:=fun e=>by
       exact sg3
      have hLL:(L++spT (d+1) ⟨ki,kk,kt,l'⟩).take M=(T++((d,(id,kd,tx),ks)::spF (d+1) (zx (k+1) ks))).take M:=by
       rw[HL.out,zfm,HTK.out]
       simp[spT,List.append_assoc]
      have hle:L.length≤((L++spT (d+1) ⟨ki,kk,kt,l'⟩).take M).length:=by
       rw[List.length_take,LlaQ];omega
      refine⟨⟨k+1,(L++spT (d+1) ⟨ki,kk,kt,l'⟩).take M,by omega,by go_num,hH hLL,HE.out.1,HR.out.2.1.trans HE.out.2,(HE.out.2.1.block _ (lt_of_some HR.out.2.2.1) hne).trans HR.out.2.2.1,by have:=HR.out.2.2.2;omega,by rw[List.length_take];omega⟩,by simp[intOf];omega⟩
    · have hkk:k=len:=by omega
      have HKK:=hH hkk
      have hkl:¬(k:Int)<(len:Int):=by omega
      clear hkk
      go_wp2_with fail
      go_ret
      refine⟨_,rfl,?_,HR.out.2.1⟩
      have h:=HR.out.1
      have hL:=HL.out
      rw[yT k ks (by rw[HKK.out,HLEN.out.1];exact NlrQ _)] at hL
      show qJ S _ B _ ((T++spT d ⟨id,kd,tx,ks⟩).take M).length ((T++spT d ⟨id,kd,tx,ks⟩).take M)
      have e:(T++spT d ⟨id,kd,tx,ks⟩).take M=L:=hL.symm
      rw[e]
      exact h
def WalkM (w:World)(S:Nat→Prop)(t:Tr)(M:Nat)(e:Ending)(w' :World):Prop:=∃a cap,e= .returned (.slice a ((spF 1 (zm t)).take M).length cap)∧qJ S w' w.heap.size (.slice a ((spF 1 (zm t)).take M).length cap) ((spF 1 (zm t)).take M).length ((spF 1 (zm t)).take M)∧Below w.heap.size w w'
theorem YA (M:Nat)(hM:M≤2000000)(w:World)(S:Nat→Prop)(v:Value)(t:Tr)(hlen:foLen t.kids≤9223372036854775807)(hfit:qZ t.kids)(hS:∀k,S k→k<w.heap.size)(hv:zG w S v t):
 Calls Tryz.prog 18 #[v,.int .i64 (M:Int)] w (WalkM w S t M):=by
 obtain⟨ka,cap,rfl,hcp,hk⟩:=hv
 have hb:Below w.heap.size w (w.alloc (.cells #[.int .i64 t.id,.int .i64 t.kind,.string t.text,.slice ka (foLen t.kids) cap] 27)):=(BrQ _ _).alloc (NlrQ _) _
 have hc:=zfe M hM _ (w.alloc (.cells #[.int .i64 t.id,.int .i64 t.kind,.string t.text,.slice ka (foLen t.kids) cap] 27)) S _ t w.heap.size (.slice none 0 0) 0 [] 1 (Nat.lt_succ_self _) hlen hfit hS hb.size ⟨ka,cap,rfl,hcp,hk.below hb hS⟩ ⟨rfl,[],World.ownsRow_nil _ _ _ _,fun i p hi=>by simp at hi⟩ (NzlQ _) om
 have HC:=hH (aN hc hb)
 clear hc hb hk hS hcp hlen hfit
 obtain⟨len,hl⟩:∃len,len=foLen t.kids:=⟨_,rfl⟩
 rw[←hl] at HC
 rw[←hl]
 clear hl
 go_enter Tryz.func18,Tryz.ntmps18
 go_wp2_with fail
 refine HC.out.1.mono ?_
 rintro e w2 ⟨rv,rfl,hsp,hg⟩
 have hb2:Below w.heap.size w w2:=HC.out.2.trans ⟨hg.1.os,hg.1.tape,hg.1.output,hg.1.size,fun k hk=>hg.1.block k (by have:=HC.out.2.size;omega) (by simp[Value.ownBlock])⟩
 have hsp':=hsp
 obtain⟨hT,xs,ho,_⟩:=hsp
 obtain⟨a,cap',rfl⟩:=zy ho
 have HE:=hH (aN hsp' hb2)
 clear hsp' ho hg hT
 rw[List.nil_append,zd3] at HE ⊢
 obtain⟨q,hq⟩:∃q,q=((spF 1 (zm t)).take M).length:=⟨_,rfl⟩
 rw[←hq] at HE ⊢
 have HQ:=hH hq
 clear hq
 go_wp2_with fail
 go_ret
 exact⟨_,_,by rw[←HQ.out];rfl,by rw[←HQ.out];exact HE.out.1,HE.out.2⟩
def zfr (w:World)(t:Tr)(e:Ending)(w' :World):Prop:=∃b,e= .returned (.bool b)∧(b=false→zb t.kids+1≤250)∧Below w.heap.size w w'
theorem Zo {S:Nat→Prop}{w:World}{B n:Nat}{a:Option Addr}{cap:Nat}{T:List Sp}(h:qJ S w B (.slice a n cap) n T){k:Nat}{x:Sp}(hx:T[k]? =some x):∃g,a=some ⟨g,0,none⟩∧g<w.heap.size∧w.cell? ⟨g,k*5,none⟩=some (.int .i64 x.2.1.1)∧w.cell? ⟨g,k*5+1,none⟩=some (.int .i64 x.2.1.2.1)∧w.cell? ⟨g,k*5+2,none⟩=some (.string x.2.1.2.2)∧(∃ka c,w.cell? ⟨g,k*5+3,none⟩=some (.slice ka (foLen x.2.2) c)∧foLen x.2.2≤c∧zt w S x.2.2 ka)∧w.cell? ⟨g,k*5+4,none⟩=some (.int .i64 (x.1:Int)):=by
 obtain⟨hT,xs,ho,hxs⟩:=h
 have hk:=(List.getElem?_eq_some_iff.1 hx).1
 have hgg:∃g,a=some ⟨g,0,none⟩:=by
  exact se8
 obtain⟨g,rfl⟩:=hgg
 obtain⟨p0,p1,p2,⟨ka,c,p3,q1,q2⟩,p4⟩:=hxs k x hx
 exact⟨g,rfl,(zk ho rfl).2,zF ho rfl _ _ p0,zF ho rfl _ _ p1,zF ho rfl _ _ p2,⟨ka,c,zF ho rfl _ _ p3,q1,q2⟩,zF ho rfl _ _ p4⟩
theorem zaB (w:World)(S:Nat→Prop)(v:Value)(t:Tr)(hlen:foLen t.kids≤9223372036854775807)(hfit:qZ t.kids)(hS:∀k,S k→k<w.heap.size)(hv:zG w S v t):
 Calls Tryz.prog 6 #[v] w (zfr w t):=by
 obtain⟨ka,cap,rfl,hcp,hk⟩:=hv
 have hb:Below w.heap.size w (w.alloc (.cells #[.int .i64 t.id,.int .i64 t.kind,.string t.text,.slice ka (foLen t.kids) cap] 27)):=(BrQ _ _).alloc (NlrQ _) _
 have hc:=YA 251 om (w.alloc (.cells #[.int .i64 t.id,.int .i64 t.kind,.string t.text,.slice ka (foLen t.kids) cap] 27)) S _ t hlen hfit (fun k hk=>nL (hS k hk) hb.size) ⟨ka,cap,rfl,hcp,hk.below hb hS⟩
 have HC:=hH (aN hc hb)
 clear hc hb hk hfit hS hcp
 obtain⟨len,hl⟩:∃len,len=foLen t.kids:=⟨_,rfl⟩
 rw[←hl] at HC
 rw[←hl]
 clear hl
 go_enter Tryz.func6,Tryz.ntmps6
 go_wp2_with fail
 refine HC.out.1.mono ?_
 rintro e w2 ⟨a,cap',rfl,hsp,hb2⟩
 have HB:=hH (show Below w.heap.size w w2 from HC.out.2.trans (hb2.mono HC.out.2.size))
 obtain⟨n,hn⟩:∃n,n=((spF 1 (zm t)).take 251).length:=⟨_,rfl⟩
 rw[←hn] at hsp ⊢
 have HO:=hH (aN hsp hn)
 have hn2:n≤251:=by rw[hn,List.length_take];omega
 clear hb2 hn hsp
 go_wp2_with fail
 go_loop [4,5,10] (fun s _ i=>∃k:Nat,k≤n∧i= .int .i64 k∧∃q:Nat,s= .int .i64 q∧q≤20000) (fun _ _ i=>n - (intOf i).toNat)
 case atStart=>exact⟨0,NzlQ _,rfl,0,rfl,by omega⟩
 case round=>
  obtain⟨k,hk,rfl,q,rfl,hq⟩:=hrel
  by_cases hlt:k<n
  · obtain⟨p,hp⟩:∃p,((spF 1 (zm t)).take 251)[k]? =some p:=⟨_,List.getElem?_eq_getElem (by rw[←HO.out.2];exact hlt)⟩
    obtain⟨g,rfl,_,_,_,c2,_,_⟩:=Zo HO.out.1 hp
    obtain⟨tx,htx⟩:∃tx,tx=p.2.1.2.2:=⟨_,rfl⟩
    rw[←htx] at c2
    have hkl:(k:Int)<(n:Int):=by omega
    clear hp htx
    by_cases hbig:20000<q+tx.size
    · have hbig2:(20000:Int) - (q:Int)<(tx.size:Int):=by omega
      exact sj0
    · have hbig2:¬(20000:Int) - (q:Int)<(tx.size:Int):=by omega
      go_wp2_with fail
      exact⟨⟨k+1,by omega,by go_num,q+tx.size,by go_num,by omega⟩,by simp[intOf];omega⟩
  · have hkl:¬(k:Int)<(n:Int):=by omega
    clear hk
    by_cases h250:250<n
    · have h251:(250:Int)<(n:Int):=by omega
      exact sj0
    · have h251:¬(250:Int)<(n:Int):=by omega
      have HN:=hH h250
      clear h250
      go_wp2_with fail
      go_ret
      refine⟨false,rfl,fun _=>?_,HB.out⟩
      have h2:=HN.out
      rw[HO.out.2,List.length_take,qM,yt] at h2
      omega
end Go.Proofs.YtgkmmnihaiopaaaGreat
namespace Go.Proofs.YtgkmmnihaiopaaaGreat
open Go.RowKit Go.Shelf
theorem zcb:∀(f:Fo) (d k:Nat) (r:List Nat) (u v:Tr),zB f k=some u→atT u r=some v→∃x∈spF d f,kX x=v
 | .nil,_,k,_,_,_,h,_=>by cases k<;>simp[zB,zq,yZ] at h
 | .node b o key l q,d,0,r,u,v,h,hv=>by
   have hu:u=⟨key.1,key.2.1,key.2.2,l⟩:=by simp only[zB,zq,yZ] at h;cases h;rfl
   subst hu
   cases r with
   | nil=>cases hv;exact⟨(d,key,l),by simp[spF],rfl⟩
   | cons i r=>
     simp only[atT] at hv
     cases hk:zB l i with
     | none=>rw[hk] at hv;cases hv
     | some w=>
       rw[hk] at hv
       obtain⟨x,h1,h2⟩:=zcb l (d+1) i r w v hk hv
       exact⟨x,by simp[spF,h1],h2⟩
 | .node b o key l q,d,k+1,r,u,v,h,hv=>by
   obtain⟨x,h1,h2⟩:=zcb q d k r u v uf4 hv
   exact⟨x,by simp[spF,h1],h2⟩
theorem zgE {t u:Tr}{p:List Nat}(h:atT t p=some u):∃x∈spF 1 (zm t),kX x=u:=
 zcb (zm t) 1 0 p t u rfl h
def qh (id:Int)(t:Tr):Tr×Int:=match zA id t with
 | none=>(zu,4)
 | some p=>if p= [] then (zu,90) else ((ZR t p.dropLast (p.getLastD 0)).1,0)
theorem jS {id:Int}{t:Tr}(h:zA id t=none):qh id t=(zu,4):=by unfold qh;rw[h]
theorem jT {id:Int}{t:Tr}(h:zA id t=some []):qh id t=(zu,90):=by unfold qh;rw[h];rfl
theorem ko {id:Int}{t u v:Tr}{p:List Nat}{i:Nat}(h:zA id t=some (p++[i]))(hu:atT t p=some u)(hv:zB u.kids i=some v):qh id t=(zO t p ⟨u.id,u.kind,u.text,zW u.kids i⟩,0):=by
 have ht:ZR t p i=(zO t p ⟨u.id,u.kind,u.text,zW u.kids i⟩,v):=by unfold ZR;rw[hu];simp only;rw[hv]
 have hd:(p++[i]).dropLast=p:=by simp
 have hl:(p++[i]).getLastD 0=i:=by simp[List.getLastD_eq_getLast?]
 unfold qh;rw[h];simp only
 rw[inQ sp1,hd,hl,ht]
theorem zfa (w:World)(S:Nat→Prop)(nv:Value)(t:Tr)(op id par at_ s1 s2:Int)(tx s3:ByteArray)(sa:Option Addr)(sn sc:Nat)(hS:∀y,S y→y<w.heap.size)(ht:zG w S nv t)(hsz:zb t.kids≤100000):
 Calls Tryz.prog 78 #[nv,.agg #[.int .i8 op,.int .i64 id,.int .i64 par,.int .i64 at_,.string tx,.int .i64 s1,.int .i64 s2,.string s3,.slice sa sn sc]] w (kF w S (qh id t)):=by
 obtain⟨ka,tc,rfl,hcap,hk⟩:=ht
 obtain⟨nk,hnk⟩:∃nk,nk=foLen t.kids:=⟨_,rfl⟩
 rw[←hnk]
 obtain⟨B,hB⟩:∃B,B=zl w [.cells #[.int .i64 t.id,.int .i64 t.kind,.string t.text,.slice ka nk tc] 27,.cells #[.int .i8 op,.int .i64 id,.int .i64 par,.int .i64 at_,.string tx,.int .i64 s1,.int .i64 s2,.string s3,.slice sa sn sc] 44,.cells #[.int .i64 0,.int .i64 0,.string ⟨#[]⟩,.slice none 0 0] 27]:=⟨_,rfl⟩
 have hb:Below w.heap.size w B:=by rw[hB];exact zi _ _
 have hs:B.heap.size=w.heap.size+3:=by rw[hB];exact zw _ _
 have ht0:B.heap[w.heap.size]? =some (.cells #[.int .i64 t.id,.int .i64 t.kind,.string t.text,.slice ka nk tc] 27 (0,0)):=by rw[hB];exact ze _ _ 0 _ rfl
 have hs0:B.heap[w.heap.size+1]? =some (.cells #[.int .i8 op,.int .i64 id,.int .i64 par,.int .i64 at_,.string tx,.int .i64 s1,.int .i64 s2,.string s3,.slice sa sn sc] 44 (0,0)):=by rw[hB];exact ze _ _ 1 _ rfl
 have hr0:B.heap[w.heap.size+1+1]? =some (.cells #[.int .i64 0,.int .i64 0,.string ⟨#[]⟩,.slice none 0 0] 27 (0,0)):=by rw[hB];exact ze _ _ 2 _ rfl
 have htr:∀X,Below B.heap.size B X→zG X S (.agg #[.int .i64 t.id,.int .i64 t.kind,.string t.text,.slice ka nk tc]) t:=fun X hX=>⟨ka,tc,by rw[hnk],by rw[hnk] at*;exact hcap,hk.below (hb.trans (hX.mono hb.size)) hS⟩
 have hSX:∀X,Below B.heap.size B X→∀y,S y→y<X.heap.size:=fun X hX y hy=>nL (hS y hy) (NltQ hb.size hX.size)
 have hpath:∀(i:Int) (X:World),Below B.heap.size B X→Calls Tryz.prog 95 #[.agg #[.int .i64 t.id,.int .i64 t.kind,.string t.text,.slice ka nk tc],.int .i64 i] X (zbv X (zA i t)):=fun i X hX=>Zj X S _ t i (hSX X hX) (htr X hX) om
 have hcell:∀X,Below B.heap.size B X→(ug9 X w.heap.size t.id t.kind t.text ka nk tc)∧X.cell? ⟨w.heap.size+1,1,none⟩=some (.int .i64 id):=fun X hX=>by
  have e0:=(hX.block _ (lohQ ht0)).trans ht0
  have e1:=(hX.block _ (lohQ hs0)).trans hs0
  exact⟨zD e0,by rw[corQ _ _ 1 _ _ _ e1];rfl⟩
 obtain⟨pr,hpr⟩:∃pr,pr=qh id t:=⟨_,rfl⟩
 rw[←hpr]
 have HP:=hH hpath
 have HCE:=hH hcell
 have HTR:=hH (aN htr hSX)
 have HB:=hH (aN hb (aN hs hr0))
 have HSZ:=hH hsz
 have HBE:=hH hB
 have HSW:=hH hS
 have HPR:=hH hpr
 clear hpath hcell htr hSX hb hs ht0 hs0 hr0 hS hk hcap hsz hnk hB hpr
 go_enter Tryz.func78,Tryz.ntmps78
 go_wp2_with fail
 change Calls _ _ _ (zl w [.cells #[.int .i64 t.id,.int .i64 t.kind,.string t.text,.slice ka nk tc] 27,.cells #[.int .i8 op,.int .i64 id,.int .i64 par,.int .i64 at_,.string tx,.int .i64 s1,.int .i64 s2,.string s3,.slice sa sn sc] 44,.cells #[.int .i64 0,.int .i64 0,.string ⟨#[]⟩,.slice none 0 0] 27]) _
 rw[←HBE.out]
 refine (HP.out id B (BrQ _ _)).mono ?_
 rintro e W2 ⟨pv,rfl,hown,hb2⟩
 cases hpi:zA id t with
 | none=>
   clear hown
   simp only[Option.isSome_none]
   have hE:pr=(zu,4):=by rw[HPR.out,jS hpi]
   have hr3:=(hb2.block _ (lohQ HB.out.2.2)).trans HB.out.2.2
   have hbz:Below w.heap.size w W2:=HB.out.1.trans (hb2.mono HB.out.1.size)
   obtain⟨z0,z1,z2,z3⟩:=zD hr3
   have zf:∀j,W2.frozen? ⟨w.heap.size+1+1,j,none⟩=false:=fun j=>forQ _ _ j _ _ hr3
   obtain⟨V,hV,r1,r2,r3,r4,r5,r6⟩:=zo (u0:= .int .i64 0) (u1:= .int .i64 0) (u2:= .string ⟨#[]⟩) (u3:= .slice none 0 0) hr3
   have HE:=hH (aN hE (aN hbz (aN hr3 (aN hV (aN r1 (aN r2 (aN r3 (aN r4 (aN r5 r6)))))))))
   exact sb0
 | some p =>
   rw[hpi] at hown
   simp only[Option.getD_some] at hown
   obtain⟨pa,pc,rfl⟩:=zy hown
   obtain⟨m,hm⟩:∃m,m=(yY p).length:=⟨_,rfl⟩
   rw[←hm] at hown ⊢
   have hpl:m=p.length:=by rw[hm,zP]
   simp only[Option.isSome_some]
   by_cases hp0:p= []
   · have hm0:m=0:=by rw[hpl,hp0];rfl
     subst hm0
     have hE0:pr=(zu,90):=by rw[HPR.out,jT (by rw[hpi,hp0])]
     clear hown hm hpl hp0 hpi
     have hE:pr=(zu,90):=hE0
     have hr3:=(hb2.block _ (lohQ HB.out.2.2)).trans HB.out.2.2
     have hbz:Below w.heap.size w W2:=HB.out.1.trans (hb2.mono HB.out.1.size)
     obtain⟨z0,z1,z2,z3⟩:=zD hr3
     have zf:∀j,W2.frozen? ⟨w.heap.size+1+1,j,none⟩=false:=fun j=>forQ _ _ j _ _ hr3
     obtain⟨V,hV,r1,r2,r3,r4,r5,r6⟩:=zo (u0:= .int .i64 0) (u1:= .int .i64 0) (u2:= .string ⟨#[]⟩) (u3:= .slice none 0 0) hr3
     have HE:=hH (aN hE (aN hbz (aN hr3 (aN hV (aN r1 (aN r2 (aN r3 (aN r4 (aN r5 r6)))))))))
     exact sb0
   · obtain⟨p',i,rfl⟩:∃p' i,p=p'++[i]:=⟨p.dropLast,p.getLast hp0,(List.dropLast_concat_getLast hp0).symm⟩
     have hm1:(m:Int)≠0:=by rw[hpl];simp;omega
     obtain⟨v,hv0,hvid⟩:=yX id t _ hpi
     obtain⟨u,hu,hv⟩:=j4 p' i t v hv0
     have hE:=ko hpi hu hv
     rw[←HPR.out] at hE
     have htk:=zd5 W2 S (.agg #[.int .i64 t.id,.int .i64 t.kind,.string t.text,.slice ka nk tc]) t u v p' i pa m pc (HTR.out.2 W2 hb2) (HTR.out.1 W2 hb2) (by have:=HSZ.out;omega) hu hv (by rw[hpl,LlaQ];rfl) ((Yr (l:=yY (p'++[i])) hown).1.kept fun y hy=>⟨hy.2,rfl⟩)
     obtain⟨y,hy⟩:∃y,y=zO t p' ⟨u.id,u.kind,u.text,zW u.kids i⟩:=⟨_,rfl⟩
     rw[←hy] at htk hE
     obtain⟨⟨n0,n1,n2,n3⟩,m1⟩:=HCE.out W2 hb2
     have HTK:=hH htk
     have HG:=hH (aN hE hb2)
     clear htk hown hm hpl hp0 hpi hu hv hv0 hvid hE hb2 hy
     go_wp2_with fail
     refine HTK.out.mono ?_
     rintro e X ⟨_,_,rfl,⟨kb,kc,rfl,hkc,hkk⟩,⟨va,vc,rfl,_,_⟩,hbx⟩
     obtain⟨yn,hyn⟩:∃yn,yn=foLen y.kids:=⟨_,rfl⟩
     obtain⟨vn,hvn⟩:∃vn,vn=foLen v.kids:=⟨_,rfl⟩
     rw[←hyn,←hvn]
     rw[←hyn] at hkc
     have hbX:Below B.heap.size B X:=HG.out.2.trans (hbx.mono HG.out.2.size)
     obtain⟨X2,hX2⟩:∃X2,X2=zl X [.cells #[.int .i64 y.id,.int .i64 y.kind,.string y.text,.slice kb yn kc] 27,.cells #[.int .i64 v.id,.int .i64 v.kind,.string v.text,.slice va vn vc] 27]:=⟨_,rfl⟩
     have hb2:Below X.heap.size X X2:=by rw[hX2];exact zi _ _
     have hX2s:X2.heap.size=X.heap.size+2:=by rw[hX2];exact zw _ _
     have hbX2:Below B.heap.size B X2:=hbX.trans (hb2.mono hbX.size)
     have hyX:X2.heap[X.heap.size]? =some (.cells #[.int .i64 y.id,.int .i64 y.kind,.string y.text,.slice kb yn kc] 27 (0,0)):=by rw[hX2];exact ze _ _ 0 _ rfl
     obtain⟨y0,y1,y2,y3⟩:=zD hyX
     have hr3:=(hbX2.block _ (lohQ HB.out.2.2)).trans HB.out.2.2
     have hbz:Below w.heap.size w X2:=HB.out.1.trans (hbX2.mono HB.out.1.size)
     obtain⟨z0,z1,z2,z3⟩:=zD hr3
     have zf:∀j,X2.frozen? ⟨w.heap.size+1+1,j,none⟩=false:=fun j=>forQ _ _ j _ _ hr3
     obtain⟨V,hV,r1,r2,r3,r4,r5,r6⟩:=zo (u0:= .int .i64 y.id) (u1:= .int .i64 y.kind) (u2:= .string y.text) (u3:= .slice kb yn kc) hr3
     have hBw:=HB.out.2.1
     have hWB:=HG.out.2.size
     have hok:zt V (fun z=>S z∨w.heap.size≤z∧z<V.heap.size) y.kids kb:=hkk.kept fun z hz=>by
      have hSz:=HTR.out.2 B (BrQ _ _)
      have hxs:=hbx.size
      have hz2:(S z∨w.heap.size≤z∧z<V.heap.size)∧z<X.heap.size∧z≠w.heap.size+1+1:=by
       rcases hz with hz | hz
       · have h1:=HSW.out z hz;have h2:=hSz z hz
         exact⟨Or.inl hz,by omega,by omega⟩
       · exact⟨Or.inr ⟨by omega,by omega⟩,by omega,by omega⟩
      exact⟨hz2.1,(r2 z hz2.2.2).trans (hb2.block z hz2.2.1)⟩
     have HE:=hH (aN hbz (aN hV (aN r1 (aN r2 (aN r3 (aN r4 (aN r5 (aN r6 (aN hok (aN hkc hyn))))))))))
     have HX2:=hH hX2
     clear hbX hb2 hX2s hbX2 hyX hr3 hbz hV r1 r2 r3 r4 r5 r6 hBw hWB hok hkk hkc hyn hvn hbx hX2 n0 n1 n2 n3 m1
     go_upto_region 7 with fail
     change Code.wp _ _ _ _ (zl X [.cells #[.int .i64 y.id,.int .i64 y.kind,.string y.text,.slice kb yn kc] 27,.cells #[.int .i64 v.id,.int .i64 v.kind,.string v.text,.slice va vn vc] 27])
     rw[←HX2.out]
     exact sd5
abbrev Key:=Int×Int×ByteArray
def Tr.key (t:Tr):Key:=(t.id,t.kind,t.text)
def jr (p:Key→Bool)(k:Key):Nat:=if p k=true then 1 else 0
def qU (p:Key→Bool):Fo→Nat
 | .nil=>0
 | .node _ _ k l r=>jr p k+qU p l+qU p r
def yS (p:Key→Bool)(t:Tr):Nat:=jr p t.key+qU p t.kids
theorem zai (p:Key→Bool):∀(f:Fo) (i:Nat) (u:Tr),i≤foLen f→qU p (yK f i u)=qU p f+yS p u
 | f,0,u,_=>by rw[vQ,qU,yS];simp only[Tr.key];omega
 | .nil,i+1,u,h=>by simp[foLen] at h
 | .node b o k l r,i+1,u,h=>by
   have:=zai p r i u uf1
   simp only[yK,qU,this];omega
theorem Qm (p:Key→Bool):∀(f:Fo) (i:Nat) (u:Tr),zB f i=some u→qU p (zW f i)+yS p u=qU p f
 | .nil,i,u,h=>by cases i<;>simp[zB,zq,yZ] at h
 | .node b o k l r,0,u,h=>by
   simp only[zB,zq,yZ] at h
   cases h
   simp only[zW,qU,yS,Tr.key];rw[show (k.1,k.2.1,k.2.2)=k from rfl];omega
 | .node b o k l r,i+1,u,h=>by
   have:=Qm p r i u uf4
   simp only[zW,qU];omega
theorem zc6 (p:Key→Bool):∀(f:Fo) (i:Nat) (u v:Tr),zB f i=some u→qU p (vB f i v)+yS p u=qU p f+yS p v
 | .nil,i,_,_,h=>by cases i<;>simp[zB,zq,yZ] at h
 | .node _ _ k l r,0,u,v,h=>by
   simp only[zB,zq,yZ] at h
   cases h
   simp only[vB,qU,yS,Tr.key];rw[show (k.1,k.2.1,k.2.2)=k from rfl];omega
 | .node _ _ k l r,i+1,u,v,h=>by
   have:=zc6 p r i u v uf4
   simp only[vB,qU];omega
theorem Zc (p:Key→Bool):∀(q:List Nat) (t u x:Tr),atT t q=some u→yS p (zO t q x)+yS p u=yS p t+yS p x
 | [],t,u,x,h=>by cases h;simp only[zO];omega
 | i ::q,t,u,x,h=>by
   simp only[atT] at h
   simp only[zO]
   cases hk:zB t.kids i with
   | none=>rw[hk] at h;cases h
   | some v=>
     rw[hk] at h
     have h1:=Zc p q v u x h
     have h2:=zc6 p t.kids i v (zO v q x) hk
     simp only[yS,Tr.key] at h1 h2 ⊢
     omega
theorem zhD (p:Key→Bool){f:Fo}{i:Nat}{u:Tr}(h:zB f i=some u):yS p u≤qU p f:=by
 have:=Qm p f i u h;omega
theorem kI (p:Key→Bool):∀(q:List Nat) (t u:Tr),atT t q=some u→yS p u≤yS p t
 | [],t,u,h=>by cases h;omega
 | i ::q,t,u,h=>by
   simp only[atT] at h
   cases hk:zB t.kids i with
   | none=>rw[hk] at h;cases h
   | some v=>
     rw[hk] at h
     have h1:=kI p q v u h
     have h2:=zhD p hk
     simp only[yS] at h1 h2 ⊢
     omega
theorem zaj (p:Key→Bool):∀(f:Fo) (d:Nat),(∃x∈spF d f,p x.2.1=true)↔0<qU p f
 | .nil,d=>by simp[spF,qU]
 | .node b o k l r,d=>by
   have h1:=zaj p l (d+1)
   have h2:=zaj p r d
   simp only[spF,qU,List.mem_cons,List.mem_append]
   constructor
   · rintro ⟨x,(rfl | hx | hx),hp⟩
     · rw[jr,ipQ hp];omega
     · have:=h1.1 ⟨x,hx,hp⟩;omega
     · have:=h2.1 ⟨x,hx,hp⟩;omega
   · intro h
     by_cases hk:p k=true
     · exact⟨_,Or.inl rfl,hk⟩
     · rw[jr,inQ hk] at h
       by_cases hl:0<qU p l
       · obtain⟨x,hx,hp⟩:=h1.2 hl;exact⟨x,Or.inr (Or.inl hx),hp⟩
       · obtain⟨x,hx,hp⟩:=h2.2 om;exact⟨x,Or.inr (Or.inr hx),hp⟩
theorem zf6 (p:Key→Bool)(t:Tr):qU p (zm t)=yS p t:=by simp only[zm,qU,yS,Tr.key];omega
theorem zak (p:Key→Bool)(t:Tr):(∃x∈spF 1 (zm t),p x.2.1=true)↔0<yS p t:=by rw[zaj,zf6]
def YE (a:Int):Key→Bool:=fun k=>decide (k.1=a)
theorem zal (a:Int):∀f:Fo,qU (YE a) f=cntF a f
 | .nil=>rfl
 | .node b o k l r=>by
   simp only[qU,cntF,zal a l,zal a r,jr,YE,decide_eq_true_eq]
theorem vJ (a:Int)(t:Tr):yS (YE a) t=yz a t:=by
 simp only[yS,yz,zal,jr,YE,Tr.key]
 by_cases h:t.id=a<;>simp[h]
theorem zcf:∀f:Fo,qU (fun _=>true) f=zb f
 | .nil=>rfl
 | .node b o k l r=>by simp only[qU,zb,zcf l,zcf r,jr,ipQ];omega
theorem zJ (t:Tr):yS (fun _=>true) t=zb t.kids+1:=by simp only[yS,zcf,jr,ipQ];omega
theorem zaZ:∀(q:List Nat) (t u x:Tr),atT t q=some u→x.id=u.id→(zO t q x).id=t.id
 | [],t,u,x,h,hx=>by cases h;exact hx
 | i ::q,t,u,x,h,hx=>by
   simp only[zO]
   cases hk:zB t.kids i with
   | none=>rfl
   | some v=>rfl
def zK (op id par at_:Int)(tx:ByteArray)(x t:Tr):Tr×Int:=
 if op=1 then zR par at_ x t else if op=2 then qh id t else if op=3 then yC id par at_ t else if op=4 then jf id tx t else (zu,2)
inductive Fx (op id:Int) (tx:ByteArray) (x t y:Tr):Prop
 | ins (ho:op=1) (h:∀p,yS p y=yS p t+yS p x)
 | del (ho:op=2) (q:List Nat) (v:Tr) (hq:zA id t=some q) (hv:atT t q=some v) (h:∀p,yS p y+yS p v=yS p t)
 | mov (ho:op=3) (h:∀p,yS p y=yS p t)
 | wri (ho:op=4) (q:List Nat) (u:Tr) (hq:zA id t=some q) (hu:atT t q=some u) (h:∀p,yS p y+jr p u.key=yS p t+jr p (u.id,u.kind,tx))
theorem Ym {op id par at_:Int}{tx:ByteArray}{x t y:Tr}(h:zK op id par at_ tx x t=(y,0)):Fx op id tx x t y∧y.id=t.id:=by
 unfold zK at h
 split at h
 · rename_i ho
   unfold zR at h
   split at h
   · rename_i h0
     have hy:(Zk par at_ t x).1=y:=(Prod.mk.inj h).1
     cases hp:zA par t with
     | none=>rw[jY hp] at h0;exact absurd h0 ug7
     | some q=>
       obtain⟨u,hu,_⟩:=yX _ _ _ hp
       rw[vz hp hu] at h0 hy
       split at h0
       · rename_i hc
         rw[ipQ hc] at hy
         simp only at hy
         subst hy
         refine⟨.ins ho fun p=>?_,zaZ q t u _ hu rfl⟩
         have h1:=Zc p q t u ⟨u.id,u.kind,u.text,yK u.kids at_.toNat x⟩ hu
         have h2:=zai p u.kids at_.toNat x om
         have h3:yS p u=jr p u.key+qU p u.kids:=rfl
         have h4:yS p ⟨u.id,u.kind,u.text,yK u.kids at_.toNat x⟩=jr p u.key+qU p (yK u.kids at_.toNat x):=rfl
         omega
       · exact absurd (show (2:Int)=0 from h0) ug7
   · rename_i h0
     exact absurd (Prod.mk.inj h).2 h0
 · split at h
   · rename_i ho
     cases hp:zA id t with
     | none=>rw[jS hp] at h;exact absurd (Prod.mk.inj h).2 ug7
     | some q0=>
       by_cases h0:q0= []
       · subst h0;rw[jT hp] at h;exact absurd (Prod.mk.inj h).2 ug7
       · obtain⟨q,i,rfl⟩:∃p i,q0=p++[i]:=⟨q0.dropLast,q0.getLast h0,(List.dropLast_concat_getLast h0).symm⟩
         obtain⟨v,hv0,hvid⟩:=yX id t _ hp
         obtain⟨u,hu,hv⟩:=j4 q i t v hv0
         rw[ko hp hu hv] at h
         have hy:=(Prod.mk.inj h).1
         subst hy
         refine⟨.del ho _ v hp hv0 fun p=>?_,zaZ q t u _ hu rfl⟩
         have h1:=Zc p q t u ⟨u.id,u.kind,u.text,zW u.kids i⟩ hu
         have h2:=Qm p u.kids i v hv
         have h3:yS p u=jr p u.key+qU p u.kids:=rfl
         have h4:yS p ⟨u.id,u.kind,u.text,zW u.kids i⟩=jr p u.key+qU p (zW u.kids i):=rfl
         omega
   · split at h
     · rename_i ho
       obtain⟨q0,i,u,v,q,z,hi,hu,hv,hvid,hq,hz,ha,hb,hx⟩:=zaR h
       obtain⟨w,hw⟩:∃w,w=zO t q0 ⟨u.id,u.kind,u.text,zW u.kids i⟩:=⟨_,rfl⟩
       rw[←hw] at hz hx
       subst hx
       have e1:=zaZ q w z ⟨z.id,z.kind,z.text,yK z.kids at_.toNat v⟩ hz rfl
       have e2:=zaZ q0 t u ⟨u.id,u.kind,u.text,zW u.kids i⟩ hu rfl
       rw[←hw] at e2
       refine⟨.mov ho fun p=>?_,e1.trans e2⟩
       have h1:=Zc p q0 t u ⟨u.id,u.kind,u.text,zW u.kids i⟩ hu
       rw[←hw] at h1
       have h2:=Qm p u.kids i v hv
       have h3:yS p u=jr p u.key+qU p u.kids:=rfl
       have h4:yS p ⟨u.id,u.kind,u.text,zW u.kids i⟩=jr p u.key+qU p (zW u.kids i):=rfl
       have h5:=Zc p q w z ⟨z.id,z.kind,z.text,yK z.kids at_.toNat v⟩ hz
       have h6:=zai p z.kids at_.toNat v om
       have h7:yS p z=jr p z.key+qU p z.kids:=rfl
       have h8:yS p ⟨z.id,z.kind,z.text,yK z.kids at_.toNat v⟩=jr p z.key+qU p (yK z.kids at_.toNat v):=rfl
       omega
     · split at h
       · rename_i ho
         cases hp:zA id t with
         | none=>rw[kN hp] at h;exact absurd (Prod.mk.inj h).2 ug7
         | some q=>
           obtain⟨u,hu,huid⟩:=yX id t _ hp
           rw[Zr hp hu] at h
           have hy:=(Prod.mk.inj h).1
           subst hy
           refine⟨.wri ho q u hp hu fun p=>?_,zaZ q t u _ hu rfl⟩
           have h1:=Zc p q t u ⟨u.id,u.kind,tx,u.kids⟩ hu
           have h3:yS p u=jr p u.key+qU p u.kids:=rfl
           have h4:yS p ⟨u.id,u.kind,tx,u.kids⟩=jr p (u.id,u.kind,tx)+qU p u.kids:=rfl
           omega
       · exact absurd (Prod.mk.inj h).2 ug7
end Go.Proofs.YtgkmmnihaiopaaaGreat
namespace Go.Proofs.YtgkmmnihaiopaaaGreat
open Go.RowKit
def zhd (w:World)(S:Nat→Prop)(t:Tr)(id:Int)(e:Ending)(w' :World):Prop:=
 ∃v,e= .returned (.tuple #[v,.bool (qY id (spF 1 (zm t))).isSome])∧zG w' S v (((qY id (spF 1 (zm t))).map zd7).getD ziD)∧Below w.heap.size w w'
theorem zgG (w:World)(S:Nat→Prop)(v:Value)(t:Tr)(id:Int)(hsz:zb t.kids+1≤2000)(hS:∀k,S k→k<w.heap.size)(hv:zG w S v t):
 Calls Tryz.prog 31 #[v,.int .i64 id] w (zhd w S t id):=by
 obtain⟨ka,cap,rfl,hcp,hk⟩:=hv
 obtain⟨len,hl⟩:∃len,len=foLen t.kids:=⟨_,rfl⟩
 rw[←hl]
 have HH:=hH (aN hl (aN hcp (aN hk (aN hS hsz))))
 clear hl hcp hk hS hsz
 obtain⟨o1,ho1⟩:∃o1,o1=Obj.cells #[.int .i64 t.id,.int .i64 t.kind,.string t.text,.slice ka len cap] 27 (0,0):=⟨_,rfl⟩
 obtain⟨o2,ho2⟩:∃o2,o2=Obj.cells #[.int .i64 0,.int .i64 0,.string ⟨#[]⟩,.slice none 0 0] 27 (0,0):=⟨_,rfl⟩
 have hb:Below w.heap.size w ((w.alloc o1).alloc o2):=((BrQ _ w).alloc (NlrQ _) _).alloc sp1 _
 have hz:((w.alloc o1).alloc o2).heap[w.heap.size+1]? =some o2:=by have:=hanQ (w.alloc o1) o2;rw[WsaQ] at this;exact this
 have hc:=Ja 2000 om ((w.alloc o1).alloc o2) S (.agg #[.int .i64 t.id,.int .i64 t.kind,.string t.text,.slice ka len cap]) t HH.out.2.2.2.2 (by have:=HH.out.2.2.2.2;omega) (fun k hk=>nL (HH.out.2.2.2.1 k hk) hb.size) ⟨ka,cap,by rw[HH.out.1],HH.out.2.1,HH.out.2.2.1.below hb HH.out.2.2.2.1⟩
 rw[ho1,ho2] at hc hb hz
 have HC:=hH (aN hc (aN hb hz))
 clear hc hb hz ho1 ho2 o1 o2
 go_enter Tryz.func31,Tryz.ntmps31
 go_wp2_with fail
 refine HC.out.1.mono ?_
 rintro e w2 ⟨a,cap',rfl,⟨hTl,xs,ho,hx⟩,hb2⟩
 have hB:Below w.heap.size w w2:=HC.out.2.1.trans (hb2.mono HC.out.2.1.size)
 have hz2:=(hb2.block _ (lohQ HC.out.2.2)).trans HC.out.2.2
 have z0:w2.cell? ⟨w.heap.size+1,0,none⟩=some (.int .i64 0):=by rw[corQ _ _ 0 _ _ _ hz2];rfl
 have z1:w2.cell? ⟨w.heap.size+1,1,none⟩=some (.int .i64 0):=by rw[corQ _ _ 1 _ _ _ hz2];rfl
 have z2:w2.cell? ⟨w.heap.size+1,2,none⟩=some (.string ⟨#[]⟩):=by rw[corQ _ _ 2 _ _ _ hz2];rfl
 have z3:w2.cell? ⟨w.heap.size+1,3,none⟩=some (.slice none 0 0):=by rw[corQ _ _ 3 _ _ _ hz2];rfl
 have zf:∀j,w2.frozen? ⟨w.heap.size+1,j,none⟩=false:=fun j=>forQ _ _ j _ _ hz2
 obtain⟨q,hq⟩:∃q,q=zb t.kids+1:=⟨_,rfl⟩
 rw[←hq] at ho hTl ⊢
 have hq5:q≤2000:=by rw[hq];exact HH.out.2.2.2.2
 have HO:=hH (aN ho (aN hx (aN hTl (aN hB hz2))))
 clear hb2 ho hx hTl HC hq hB hz2
 have hend:∀(x:Tr) (kb:Option Addr) (kc m:Nat) (b:Bool),m=foLen x.kids→foLen x.kids≤kc→zt w2 S x.kids kb→(qY id (spF 1 (zm t))).isSome=b→(((qY id (spF 1 (zm t))).map zd7).getD ziD)=x→∀tmps:Array Value,tmps.getD 4 undef= .pointer (some ⟨w.heap.size+1,0,none⟩)→tmps.getD 5 undef= .bool b→
  bodyPost Tryz.prog Tryz.f31 (zhd w S t id) .ret { tmps,defers:=[] } ((((w2.setCell ⟨w.heap.size+1,0,none⟩ (.int .i64 x.id)).setCell ⟨w.heap.size+1,1,none⟩ (.int .i64 x.kind)).setCell ⟨w.heap.size+1,2,none⟩ (.string x.text)).setCell ⟨w.heap.size+1,3,none⟩ (.slice kb m kc)):=by
  intro x kb kc m b hm hc hf hs hx tmps t4 t5
  subst hm
  obtain⟨V5,e5,r1,r2,r3,r4,r5,r6⟩:=zo (u0:= .int .i64 x.id) (u1:= .int .i64 x.kind) (u2:= .string x.text) (u3:= .slice kb (foLen x.kids) kc) HO.out.2.2.2.2
  rw[←e5]
  have hB:=HO.out.2.2.2.1
  refine brQ (yA rfl tmps V5 (w.heap.size+1) 27 _ _ _ (.bool b) t4 r1 Tryz.underlying27 rfl kr1 t5) rfl ?_
  refine⟨_,by rw[hs],?_,r3.trans hB.os,r4.trans hB.tape,r5.trans hB.output,by rw[r6];exact hB.size,fun k hk=>(r2 k om).trans (hB.block k hk)⟩
  rw[hx]
  exact⟨kb,kc,rfl,hc,hf.kept fun k hk=>⟨hk,r2 k (by have:=HH.out.2.2.2.1 k hk;omega)⟩⟩
 have HEND:=hH hend
 clear hend
 go_wp2_with fail
 go_loop [7] (fun i=>∃k:Nat,k≤q∧i= .int .i64 (k:Int)∧Hid (∀x∈(spF 1 (zm t)).take k,x.2.1.1≠id)) (fun i=>q - (intOf i).toNat)
 case atStart=>exact⟨0,NzlQ _,rfl,hH sp1⟩
 case round=>
  obtain⟨k,hk,rfl,hnone⟩:=hrel
  by_cases hlt:k<q
  · obtain⟨x,hx⟩:∃x,(spF 1 (zm t))[k]? =some x:=⟨_,List.getElem?_eq_getElem (by have:=HO.out.2.2.1;rw[this];exact hlt)⟩
    obtain⟨s0,s1,s2,⟨kb,kc,s3,hkc,hkb⟩,_⟩:=HO.out.2.1 k x hx
    have ho:=HO.out.1
    have hgg:∃g,a=some ⟨g,0,none⟩:=by
     exact se8
    obtain⟨g,rfl⟩:=hgg
    have c0:w2.cell? ⟨g,k*5,none⟩=some (.int .i64 x.2.1.1):=zF ho rfl _ _ s0
    have c1:w2.cell? ⟨g,k*5+1,none⟩=some (.int .i64 x.2.1.2.1):=zF ho rfl _ _ s1
    have c2:w2.cell? ⟨g,k*5+2,none⟩=some (.string x.2.1.2.2):=zF ho rfl _ _ s2
    have c3:w2.cell? ⟨g,k*5+3,none⟩=some (.slice kb (foLen x.2.2) kc):=zF ho rfl _ _ s3
    obtain⟨d,⟨xi,xk,xt⟩,xf⟩:=x
    simp only at c0 c1 c2 c3 hkc hkb
    obtain⟨m,hm⟩:∃m,m=foLen xf:=⟨_,rfl⟩
    rw[←hm] at c3
    have HM:=hH (aN hm (aN hkc (aN hkb hx)))
    have HLT:=hH hlt
    have hkl:(k:Int)<(q:Int):=by omega
    clear ho s0 s1 s2 s3 hm hkc hkb hx hlt hk
    by_cases heq:xi=id
    · have hbq:(xi == id)=true:=by simpa using heq
      have HQ:=hH heq
      clear heq
      go_wp2_with fail
      have hs:qY id (spF 1 (zm t))=some (d,(xi,xk,xt),xf):=by
       have h1:spF 1 (zm t)=(spF 1 (zm t)).take k++(d,(xi,xk,xt),xf)::(spF 1 (zm t)).drop (k+1):=by
        have h2:=HM.out.2.2.2
        obtain⟨hl,he⟩:=List.getElem?_eq_some_iff.1 h2
        rw[←he,List.getElem_cons_drop,List.take_append_drop]
       rw[h1];exact zaq hnone.out HQ.out
      exact HEND.out ⟨xi,xk,xt,xf⟩ kb kc m true HM.out.1 HM.out.2.1 HM.out.2.2.1 (by rw[hs];rfl) (by rw[hs];rfl) _ rfl rfl
    · have hbq:(xi == id)=false:=by simpa using heq
      have HQ:=hH heq
      clear heq
      go_wp2_with fail
      exact⟨⟨k+1,by have:=HLT.out;omega,by go_num,hH (fun y hy=>by
       rw[List.take_add_one,HM.out.2.2.2] at hy
       rcases List.mem_append.1 hy with hy | hy
       · exact hnone.out y hy
       · simp at hy;rw[hy];exact HQ.out)⟩,by have:=HLT.out;simp[intOf];omega⟩
  · have hkq:k=q:=by omega
    have HKQ:=hH hkq
    have hkl:¬(k:Int)<(q:Int):=by omega
    clear hkq hk
    go_wp2_with fail
    have hs:qY id (spF 1 (zm t))=none:=zao (by
     have:=hnone.out
     rwa [List.take_of_length_le (by rw[HO.out.2.2.1,HKQ.out];exact NlrQ _)] at this)
    exact HEND.out ziD none 0 0 false rfl (NlrQ _) True.intro (by rw[hs];rfl) (by rw[hs];rfl) _ rfl rfl
def zkj (id:Int)(t:Tr)(S:Nat→Prop)(w:World)(e:Ending)(w' :World):Prop:=∃(z:Tr) (va:Option Addr) (vc:Nat) (b:Bool),e= .returned (.tuple #[.agg #[.int .i64 z.id,.int .i64 z.kind,.string z.text,.slice va (foLen z.kids) vc],.bool b])∧foLen z.kids≤vc∧zt w' S z.kids va∧Below w.heap.size w w'∧(b=true→∃p,zA id t=some p∧atT t p=some z)∧(b=false→zA id t=none)
theorem vN (w:World)(S:Nat→Prop)(v:Value)(t:Tr)(id:Int)(hsz:zb t.kids+1≤2000)(hS:∀k,S k→k<w.heap.size)(hv:zG w S v t):
 Calls Tryz.prog 31 #[v,.int .i64 id] w (zkj id t S w):=by
 refine (zgG w S v t id hsz hS hv).mono ?_
 rintro e w' ⟨v,rfl,⟨va,vc,rfl,h1,h2⟩,hb⟩
 refine⟨_,va,vc,_,rfl,h1,h2,hb,fun h=>?_,fun h=>?_⟩
 · have hs:=zbF id t
   rw[h] at hs
   obtain⟨p,hp⟩:=Option.isSome_iff_exists.1 hs.symm
   have hf:=zbE id t
   rw[hp,Option.bind_some] at hf
   obtain⟨z,hz,_⟩:=zaW id t p hp
   refine⟨p,hp,?_⟩
   rw[hf,hz];rfl
 · have hs:=zbF id t
   rw[h] at hs
   exact Option.isNone_iff_eq_none.1 (by cases hx:zA id t with | none=>rfl | some p=>rw[hx] at hs;cases hs)
end Go.Proofs.YtgkmmnihaiopaaaGreat
namespace Go.Proofs.YtgkmmnihaiopaaaGreat
open Go.RowKit Go.Shelf
theorem zbX {S:Nat→Prop}{w:World}{B n:Nat}{a:Option Addr}{cap:Nat}{T:List Sp}(h:qJ S w B (.slice a n cap) n T){k:Nat}{x:Sp}(hx:T[k]? =some x):∃g,a=some ⟨g,0,none⟩∧g<w.heap.size∧w.cell? ⟨g,k*5,none⟩=some (.int .i64 x.2.1.1)∧n≤cap:=by
 obtain⟨hT,xs,ho,hxs⟩:=h
 have hk:=(List.getElem?_eq_some_iff.1 hx).1
 rcases ho.2 with ⟨hv,h0⟩ | ⟨g,cap2,cur,hv,_,_,h3,_⟩
 · omega
 · cases hv
   obtain⟨p0,_⟩:=hxs k x hx
   exact⟨g,rfl,(zk ho rfl).2,zF ho rfl _ _ p0,h3⟩
theorem Jr {T:List Sp}{k:Nat}{x:Sp}(h:((T.take k).map fun x=>x.2.1.1).Nodup)(hx:T[k]? =some x)(hn:∀m y,m<k→T[m]? =some y→y.2.1.1≠x.2.1.1):((T.take (k+1)).map fun x=>x.2.1.1).Nodup:=by
 rw[List.take_add_one,hx,List.map_append,List.nodup_append]
 refine⟨h,by simp,fun a ha b hb=>?_⟩
 simp only[Option.toList_some,List.map_cons,List.map_nil,List.mem_singleton] at hb
 obtain⟨y,hy,rfl⟩:=List.mem_map.1 ha
 obtain⟨m,hm⟩:=List.mem_iff_getElem?.1 hy
 rw[List.getElem?_take] at hm
 split at hm
 · next hlt=>rw[hb];exact hn m y hlt hm
 · cases hm
end Go.Proofs.YtgkmmnihaiopaaaGreat
