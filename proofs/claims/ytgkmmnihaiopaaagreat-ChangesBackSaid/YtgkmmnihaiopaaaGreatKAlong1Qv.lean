/-
  .
-/
import Derived.Test.YtgkmmnihaiopaaaGreatICopyPQv
set_option maxRecDepth 100000
set_option maxHeartbeats 40000000
set_option linter.unusedVariables false
set_option linter.unusedSimpArgs false
namespace Go.Proofs.YtgkmmnihaiopaaaGreat
open Go.RowKit Go.Shelf
def yK:Fo→Nat→Tr→Fo
 | f,0,u=> .node 0 0 (u.id,u.kind,u.text) u.kids f
 | .nil,_+1,_=> .nil
 | .node b o k l r,i+1,u=> .node b o k l (yK r i u)
def zW:Fo→Nat→Fo
 | .nil,_=> .nil
 | .node _ _ _ _ r,0=>r
 | .node b o k l r,i+1=> .node b o k l (zW r i)
theorem vQ (f:Fo)(u:Tr):yK f 0 u= .node 0 0 (u.id,u.kind,u.text) u.kids f:=by cases f<;>rfl
theorem zbC (b o:Nat)(k:Int×Int×ByteArray)(l r:Fo):zW (.node b o k l r) 0=r:=rfl
theorem zaC:∀(f:Fo) (i:Nat) (u:Tr),i≤foLen f→foLen (yK f i u)=foLen f+1
 | f,0,u,_=>by rw[vQ];rfl
 | .nil,i+1,u,h=>by simp[foLen] at h
 | .node b o k l r,i+1,u,h=>by
   have:=zaC r i u uf1
   simp only[yK,foLen,this]
theorem Yb:∀(f:Fo) (i:Nat),i<foLen f→foLen (zW f i)+1=foLen f
 | .nil,i,h=>by simp[foLen] at h
 | .node b o k l r,0,_=>rfl
 | .node b o k l r,i+1,h=>by
   have:=Yb r i uf1
   simp only[zW,foLen];omega
theorem jF:∀(f:Fo) (i:Nat) (u:Tr),i≤foLen f→zB (yK f i u) i=some u
 | f,0,u,_=>by rw[vQ];rfl
 | .nil,i+1,u,h=>by simp[foLen] at h
 | .node b o k l r,i+1,u,h=>by
   have:=jF r i u uf1
   simpa [zB,yK,zq] using this
theorem zch:∀(f:Fo) (i:Nat) (u:Tr),i≤foLen f→zW (yK f i u) i=f
 | f,0,u,_=>by rw[vQ];rfl
 | .nil,i+1,u,h=>by simp[foLen] at h
 | .node b o k l r,i+1,u,h=>by
   have:=zch r i u uf1
   simp only[yK,zW,this]
theorem zcp:∀(f:Fo) (i:Nat) (u:Tr),zB f i=some u→y7 (yK (zW f i) i u) f=true∧foLen (yK (zW f i) i u)=foLen f
 | .nil,i,u,h=>by cases i<;>simp[zB,zq,yZ] at h
 | .node b o k l r,0,u,h=>by
   simp only[zB,zq,yZ] at h
   cases h
   rw[zbC,vQ]
   exact⟨by simp[y7,je,vO],rfl⟩
 | .node b o k l r,i+1,u,h=>by
   obtain⟨h1,h2⟩:=zcp r i u uf4
   refine⟨?_,by simp only[zW,yK,foLen,h2]⟩
   simp only[zW,yK,y7,h1,vO,Bool.and_true]
   simp[je]
theorem Ze:∀(f:Fo) (i:Nat) (u:Tr),i≤foLen f→zb (yK f i u)=zb f+zb u.kids+1
 | f,0,u,_=>by rw[vQ];simp only[zb];omega
 | .nil,i+1,u,h=>by simp[foLen] at h
 | .node b o k l r,i+1,u,h=>by
   have:=Ze r i u uf1
   simp only[yK,zb,this];omega
theorem Yp:∀(f:Fo) (i:Nat) (u:Tr),zB f i=some u→zb (zW f i)+zb u.kids+1=zb f
 | .nil,i,u,h=>by cases i<;>simp[zB,zq,yZ] at h
 | .node b o k l r,0,u,h=>by
   simp only[zB,zq,yZ] at h
   cases h
   simp only[zW,zb];omega
 | .node b o k l r,i+1,u,h=>by
   have:=Yp r i u uf4
   simp only[zW,zb];omega
def Z0 (u:Tr)(ka:Option Addr)(kc:Nat):List Value:=[.int .i64 u.id,.int .i64 u.kind,.string u.text,.slice ka (foLen u.kids) kc]
theorem zaD {w:World}{S:Nat→Prop}:∀(f:Fo) (i:Nat) (u:Tr) (ka:Option Addr) (kc:Nat) (xs:List Value),yD w S f xs→foLen u.kids≤kc→zt w S u.kids ka→i≤foLen f→yD w S (yK f i u) (xs.take (i*4)++Z0 u ka kc++xs.drop (i*4))
 | f,0,u,ka,kc,xs,h,hc,hk,_=>by
   rw[vQ,Nat.zero_mul,List.take_zero,List.drop_zero,List.nil_append]
   exact⟨ka,kc,xs,rfl,hc,hk,h⟩
 | .nil,i+1,u,ka,kc,xs,h,hc,hk,hi=>by simp[foLen] at hi
 | .node b o k l r,i+1,u,ka,kc,xs,h,hc,hk,hi=>by
   obtain⟨na,nc,ys,e,h1,h2,h3⟩:=h
   subst e
   have:=zaD r i u ka kc ys h3 hc hk ue7
   refine⟨na,nc,_,?_,h1,h2,this⟩
   rw[show (i+1)*4=i*4+1+1+1+1 by omega]
   simp
theorem zan {w:World}{S:Nat→Prop}:∀(f:Fo) (i:Nat) (xs:List Value),yD w S f xs→i<foLen f→yD w S (zW f i) (xs.take (i*4)++xs.drop (i*4+4))
 | .nil,i,xs,h,hi=>by simp[foLen] at hi
 | .node b o k l r,0,xs,h,hi=>by
   obtain⟨na,nc,ys,e,h1,h2,h3⟩:=h
   subst e
   rw[zbC];simpa using h3
 | .node b o k l r,i+1,xs,h,hi=>by
   obtain⟨na,nc,ys,e,h1,h2,h3⟩:=h
   subst e
   have:=zan r i ys h3 ue7
   refine⟨na,nc,_,?_,h1,h2,this⟩
   rw[show (i+1)*4=i*4+1+1+1+1 by omega,show i*4+1+1+1+1+4=i*4+4+1+1+1+1 by omega]
   simp
theorem yD.nth {w:World}{S:Nat→Prop}:∀(f:Fo) (i:Nat) (u:Tr) (xs:List Value),yD w S f xs→zB f i=some u→∃ka kc,xs[i*4]? =some (.int .i64 u.id)∧xs[i*4+1]? =some (.int .i64 u.kind)∧xs[i*4+2]? =some (.string u.text)∧xs[i*4+3]? =some (.slice ka (foLen u.kids) kc)∧foLen u.kids≤kc∧zt w S u.kids ka
 | .nil,i,u,xs,h,hi=>by cases i<;>simp[zB,zq,yZ] at hi
 | .node b o k l r,0,u,xs,h,hi=>by
   obtain⟨na,nc,ys,e,h1,h2,h3⟩:=h
   subst e
   simp only[zB,zq,yZ] at hi
   cases hi
   exact⟨na,nc,by simp,by simp,by simp,by simp,h1,h2⟩
 | .node b o k l r,i+1,u,xs,h,hi=>by
   obtain⟨na,nc,ys,e,h1,h2,h3⟩:=h
   subst e
   obtain⟨ka,kc,e0,e1,e2,e3,h4⟩:=yD.nth r i u ys h3 (by simpa [zB,zq] using hi)
   refine⟨ka,kc,?_,?_,?_,?_,h4⟩
   · rw[show (i+1)*4=i*4+4 by omega,List.getElem?_append_right sp1];simpa using e0
   · rw[show (i+1)*4+1=i*4+1+4 by omega,List.getElem?_append_right sp1];simpa using e1
   · rw[show (i+1)*4+2=i*4+2+4 by omega,List.getElem?_append_right sp1];simpa using e2
   · rw[show (i+1)*4+3=i*4+3+4 by omega,List.getElem?_append_right sp1];simpa using e3
theorem jl {w:World}{S:Nat→Prop}:∀{f:Fo} {a:Option Addr},zt w S f a→zt w (fun x=>yj w x∧S x) f a
 | .nil,_,_=>True.intro
 | .node _ _ _ _ _,_,h=>by
   obtain⟨b,off,ka,cap,e,hb,h0,h1,h2,h3,hc,hl,hr⟩:=h
   have hcb:yj w b:=by
    unfold World.cell? at h0
    cases hh:w.heap[b]? with
    | none=>simp[hh] at h0
    | some o=>
      cases o with
      | cells cs t fr=>exact⟨cs,t,fr,hh⟩
      | _=>simp[hh] at h0
   exact⟨b,off,ka,cap,e,⟨hcb,hb⟩,h0,h1,h2,h3,hc,jl hl,jl hr⟩
theorem zD {w:World}{b:Nat}{c0 c1 c2 c3:Value}{T:TypeId}(h:w.heap[b]? =some (.cells #[c0,c1,c2,c3] T (0,0))):w.cell? ⟨b,0,none⟩=some c0∧w.cell? ⟨b,1,none⟩=some c1∧w.cell? ⟨b,2,none⟩=some c2∧w.cell? ⟨b,3,none⟩=some c3:=
 ⟨by rw[corQ _ _ 0 _ _ _ h];rfl,by rw[corQ _ _ 1 _ _ _ h];rfl,by rw[corQ _ _ 2 _ _ _ h];rfl,by rw[corQ _ _ 3 _ _ _ h];rfl⟩
theorem yA {P:Program}{fn:Func}{p u:Tmp}{ty:TypeId}(h:fn.results= #[.cell p ty,.tmp u])(tmps:Array Value)(w:World)(g:Nat)(t:TypeId)(cs:Array Value)(fr:Nat×Nat)(d:TypeDesc)(x:Value)
 (hp:tmps.getD p undef= .pointer (some ⟨g,0,none⟩)) (hg:w.heap[g]? =some (.cells cs t fr)) (hu:P.underlying ty=some d) (hd:(match d with | .struct _ | .array _ _=>true | _=>false)=true) (hi:(P.info? ty).map (·.size)=some cs.size) (hp2:tmps.getD u undef=x):
 (results fn tmps).run P w= .ok (.tuple #[.agg cs,x]) w:=by
 exact sg4
theorem zo {V:World}{R1:Nat}{c0 c1 c2 c3 u0 u1 u2 u3:Value}(h2:V.heap[R1]? =some (.cells #[c0,c1,c2,c3] 27 (0,0))):
 ∃V5,V5=((((V.setCell ⟨R1,0,none⟩ u0).setCell ⟨R1,1,none⟩ u1).setCell ⟨R1,2,none⟩ u2).setCell ⟨R1,3,none⟩ u3)∧V5.heap[R1]? =some (.cells #[u0,u1,u2,u3] 27 (0,0))∧(∀y,y≠R1→V5.heap[y]? =V.heap[y]?)∧V5.os=V.os∧V5.tape=V.tape∧V5.output=V.output∧V5.heap.size=V.heap.size:=by
 exact sd8
def zjA (E:Nat→Prop)(X X' :World)(b off:Nat):Prop:=(∀y,y<X.heap.size→y≠b→¬E y→X'.heap[y]? =X.heap[y]?)∧∀j,(j<off∨off+4≤j)→X'.cell? ⟨b,j,none⟩=X.cell? ⟨b,j,none⟩
def zkK (B tb:Nat)(E S:Nat→Prop)(t:Tr)(X:World)(p:List Nat)(b off:Nat):Prop:=∀(X' :World) (S' :Nat→Prop) (u' :Tr),zjA E X X' b off→(∀y,S y→S' y)→(∀y,(y=tb∨B≤y)→S' y)→kP X' S' u' b off→kP X' S' (zO t p u') tb 0
structure AlH (W:World) (tb:Nat) (E:Nat→Prop) (X:World):Prop where
 os:X.os=W.os
 tape:X.tape=W.tape
 output:X.output=W.output
 size:W.heap.size≤X.heap.size
 kept:∀y,y<W.heap.size→y≠tb→¬E y→X.heap[y]? =W.heap[y]?
structure AlS (W:World) (tb:Nat) (E S:Nat→Prop):Prop where
 s:∀y,S y→y<W.heap.size∧y≠tb∧¬E y
 e:∀y,E y→y<W.heap.size∧y≠tb
 tb:tb<W.heap.size
structure AlN (W:World) (tb:Nat) (E S:Nat→Prop) (t:Tr) (X:World) (p:List Nat) (u:Tr) (b off:Nat):Prop where
 at_:atT t p=some u
 c0:X.cell? ⟨b,off,none⟩=some (.int .i64 u.id)
 c1:X.cell? ⟨b,off+1,none⟩=some (.int .i64 u.kind)
 c2:X.cell? ⟨b,off+2,none⟩=some (.string u.text)
 c3:∃ka kc,X.cell? ⟨b,off+3,none⟩=some (.slice ka (foLen u.kids) kc)∧foLen u.kids≤kc∧zt X S u.kids ka∧(ka=none→foLen u.kids=0)
 fz:∀j,X.frozen? ⟨b,j,none⟩=false
 bl:b=tb∨W.heap.size≤b
 lt:b<X.heap.size
 ctx:zkK W.heap.size tb E S t X p b off
theorem AlN.notE {W:World}{tb:Nat}{E S:Nat→Prop}{t:Tr}{X:World}{p:List Nat}{u:Tr}{b off:Nat}(hS:AlS W tb E S)(h:AlN W tb E S t X p u b off):¬E b:=fun he=>by
 have:=hS.e b he
 rcases h.bl with h | h<;>omega
theorem AlH.drew {W:World}{tb:Nat}{E:Nat→Prop}{X:World}(h:AlH W tb E X):AlH W tb E X.drew:=⟨h.os,h.tape,h.output,h.size,h.kept⟩
theorem AlN.drew {W:World}{tb:Nat}{E S:Nat→Prop}{t:Tr}{X:World}{p:List Nat}{u:Tr}{b off:Nat}(h:AlN W tb E S t X p u b off):AlN W tb E S t X.drew p u b off:=by
 obtain⟨ka,kc,d3,h1,h2,h3⟩:=h.c3
 exact⟨h.at_,h.c0,h.c1,h.c2,⟨ka,kc,d3,h1,zt.kept (w:=X) (w':=X.drew) (S:=S) (S':=S) (fun y hy=>⟨hy,rfl⟩) h2,h3⟩,h.fz,h.bl,h.lt,h.ctx⟩
structure AlC (W:World) (tb:Nat) (E S:Nat→Prop) (X:World) (u:Tr) (b off:Nat) (sv:Value) (xs:List Value) (X1:World):Prop where
 h:AlH W tb (fun _=>False) X1
 size:X.heap.size≤X1.heap.size
 c0:X1.cell? ⟨b,off,none⟩=some (.int .i64 u.id)
 c1:X1.cell? ⟨b,off+1,none⟩=some (.int .i64 u.kind)
 c2:X1.cell? ⟨b,off+2,none⟩=some (.string u.text)
 c3:X1.cell? ⟨b,off+3,none⟩=some sv
 own:X1.ownsRow X.heap.size 27 4 sv (foLen u.kids) xs
 row:yD X1 S u.kids xs
 one:∀v∈xs,v.oneCell'=true
 fz:∀j,X1.frozen? ⟨b,j,none⟩=false
 old:∀y,y<X.heap.size→y≠b→X1.heap[y]? =X.heap[y]?
 oth:∀j,(j<off∨off+4≤j)→X1.cell? ⟨b,j,none⟩=X.cell? ⟨b,j,none⟩
theorem AlN.clone {W:World}{tb:Nat}{E S:Nat→Prop}{t:Tr}{X w1:World}{p:List Nat}{u:Tr}{b off:Nat}{xs:List Value}{sv:Value}(hS:AlS W tb E S)(hH:AlH W tb (fun _=>False) X)(h:AlN W tb E S t X p u b off)(hr:yD X S u.kids xs)(h1:∀v∈xs,v.oneCell'=true)
 (hb:Below X.heap.size X w1) (ho:w1.ownsRow X.heap.size 27 4 sv (foLen u.kids) xs):AlC W tb E S X u b off sv xs (w1.setCell ⟨b,off+3,none⟩ sv):=by
 obtain⟨X1,hX1⟩:∃X1,X1=w1.setCell ⟨b,off+3,none⟩ sv:=⟨_,rfl⟩
 rw[←hX1]
 have hs1:X1.heap.size=w1.heap.size:=by rw[hX1];simp[World.setCell]
 have hset:∀y,y≠b→X1.heap[y]? =w1.heap[y]?:=fun y hy=>by rw[hX1];exact BhsQ _ _ _ _ hy
 have hXs:=hb.size
 have hbl:w1.heap[b]? =X.heap[b]?:=hb.block b h.lt
 obtain⟨ka0,kc0,d3,_,_,_⟩:=h.c3
 have hc3:X1.cell? ⟨b,off+3,none⟩=some sv:=by
  rw[hX1];exact World.cell?_setCell_same' w1 _ _ (by rw[World.cell?_of_block hbl,d3];rfl)
 have hco:∀i,i≠off+3→X1.cell? ⟨b,i,none⟩=X.cell? ⟨b,i,none⟩:=fun i hi=>by
  rw[hX1,World.cell?_setCell_other w1 ⟨b,off+3,none⟩ ⟨b,i,none⟩ _ (by intro e;cases e;exact hi rfl)];exact World.cell?_of_block hbl
 have hold:∀y,y<X.heap.size→y≠b→X1.heap[y]? =X.heap[y]?:=fun y hy hn=>(hset y hn).trans (hb.block y hy)
 have hS1:∀y,S y→X1.heap[y]? =X.heap[y]?:=fun y hy=>by
  have h9:=hS.s y hy
  have:=hH.size
  exact hold y om (by intro e;rcases h.bl with h8 | h8<;>omega)
 refine⟨⟨by rw[hX1];exact hb.os.trans hH.os,by rw[hX1];exact hb.tape.trans hH.tape,by rw[hX1];exact hb.output.trans hH.output,by have:=hH.size;omega,fun y hy hn he=>?_⟩,by omega,(hco _ om).trans h.c0,(hco _ om).trans h.c1,(hco _ om).trans h.c2,hc3,zH ho (fun g' cur hc hg'=>hset g' ?_),hr.kept (fun y hy=>⟨hy,hS1 y hy⟩),h1,fun j=>?_,hold,fun j hj=>hco j om⟩
 · have:=hH.size
   rw[hold y om (by intro e;rcases h.bl with h8 | h8<;>omega)]
   exact hH.kept y hy hn he
 · have hgb:=zk ho (g:=g') hg'
   have:=h.lt
   omega
 · rw[hX1,World.frozen?_setCell]
   exact (World.frozen?_of_block hbl).trans (h.fz j)
theorem AlN.down {W:World}{tb:Nat}{E S:Nat→Prop}{t:Tr}{X X1:World}{p:List Nat}{u v:Tr}{b off j g gc:Nat}{xs:List Value}(hS:AlS W tb E S)(hH:AlH W tb (fun _=>False) X)(h:AlN W tb E S t X p u b off)(hv:zB u.kids j=some v)
 (k:AlC W tb E S X u b off (.slice (some ⟨g,0,none⟩) (foLen u.kids) gc) xs X1):AlN W tb E S t X1 (p++[j]) v g (j*4)∧b≠g∧X.heap.size≤g:=by
 have hgb:=zk k.own (g:=g) rfl
 have hbg:b≠g:=by have:=h.lt;omega
 have hcell:∀i x,xs[i]? =some x→X1.cell? ⟨g,i,none⟩=some x:=fun i x hx=>zF k.own rfl i x hx
 have hcap:foLen u.kids≤gc:=by
  rcases k.own.2 with ⟨hv0,h0⟩ | ⟨_,_,_,hv0,_,_,h3,_⟩
  · cases hv0
  · cases hv0;exact h3
 obtain⟨na,nc,e0,e1,e2,e3,hnc,hnk⟩:=yD.nth u.kids j v xs k.row hv
 have hjl:=yx hv
 refine⟨⟨by rw[ji,h.at_];simp[atT,hv],hcell _ _ e0,hcell _ _ e1,hcell _ _ e2,⟨na,nc,hcell _ _ e3,hnc,hnk,fun e=>?_⟩,fun i=>World.ownsRow.frozenAt k.own i,Or.inr (by have:=hH.size;omega),hgb.2,?_⟩,hbg,hgb.1⟩
 · subst e
   cases hvk:v.kids with
   | nil=>rfl
   | node _ _ _ _ _=>rw[hvk] at hnk;obtain⟨_,_,_,_,e,_⟩:=hnk;cases e
 intro X' S' v' hA h1 h2 hn
 rw[Jt p t u v v' j h.at_ hv]
 have hXs:=k.size
 have hbE:=h.notE hS
 have hSz:=hH.size
 refine h.ctx X' S' ⟨u.id,u.kind,u.text,vB u.kids j v'⟩ ⟨fun y hy hne he=>?_,fun i hi=>?_⟩ h1 h2 ?_
 · rw[hA.1 y om om he]
   exact k.old y hy hne
 · have:X'.heap[b]? =X1.heap[b]?:=hA.1 b (by have:=h.lt;omega) hbg hbE
   rw[World.cell?_of_block (a:=⟨b,i,none⟩) this]
   exact k.oth i hi
 · have hbX:X'.heap[b]? =X1.heap[b]?:=hA.1 b (by have:=h.lt;omega) hbg hbE
   have hcx:∀i,X'.cell? ⟨b,i,none⟩=X1.cell? ⟨b,i,none⟩:=fun i=>World.cell?_of_block (a:=⟨b,i,none⟩) hbX
   have hgS:S' g:=h2 g (Or.inr om)
   refine⟨h2 b h.bl,by rw[hcx];exact k.c0,by rw[hcx];exact k.c1,by rw[hcx];exact k.c2,some ⟨g,0,none⟩,gc,by rw[hcx,k.c3];simp only[Zm],by simp only[Zm];exact hcap,?_⟩
   refine zad u.kids j (zcd u.kids j xs k.row hjl hgS (fun y hy=>⟨h1 y hy,hA.1 y (by have:=hS.s y hy;omega) (by have:=hS.s y hy;omega) (hS.s y hy).2.2⟩) (fun i x hx hi=>?_)) (by rw[Nat.zero_add];exact hn) hjl
   rw[Nat.zero_add,hA.2 i om]
   exact hcell i x hx
def JV (W:World)(tb:Nat)(E SS:Nat→Prop)(X:World)(b:Nat)(y:Tr)(RR:World→Prop)(e:Ending)(X' :World):Prop:=
 e= .returned (.tuple #[])∧AlH W tb E X'∧X.heap.size≤X'.heap.size∧(∀y,y<X.heap.size→y≠b→¬E y→X'.heap[y]? =X.heap[y]?)∧kP X' (fun y=>SS y∨(y=tb∨W.heap.size≤y)) y tb 0∧RR X'
def zfS (W:World)(tb:Nat)(E SS:Nat→Prop)(Bx:Nat)(X1:World)(b off:Nat)(y:Tr)(RR:World→Prop)(e:Ending)(X' :World):Prop:=
 e= .returned (.tuple #[])∧X'.os=X1.os∧X'.tape=X1.tape∧X'.output=X1.output∧X1.heap.size≤X'.heap.size∧(∀y,y<Bx→y≠b→¬E y→X'.heap[y]? =X1.heap[y]?)∧(∀j,(j<off∨off+4≤j)→X'.cell? ⟨b,j,none⟩=X1.cell? ⟨b,j,none⟩)∧kP X' (fun y=>SS y∨(y=tb∨W.heap.size≤y)) y b off∧RR X'
theorem AlN.done {W:World}{tb:Nat}{E S SS:Nat→Prop}{t:Tr}{X X1 X' :World}{p:List Nat}{u c:Tr}{b off:Nat}{sv:Value}{xs:List Value}{RR:World→Prop}{e:Ending}(hS:AlS W tb E S)(hSS:∀y,S y→SS y)(hH:AlH W tb (fun _=>False) X)(h:AlN W tb E S t X p u b off)(k:AlC W tb E S X u b off sv xs X1)
 (hc:zfS W tb E SS X.heap.size X1 b off c RR e X'):JV W tb E SS X b (zO t p c) RR e X':=by
 obtain⟨rfl,h1,h2,h3,h4,h5,h6,h7,h8⟩:=hc
 have hXs:=k.size
 have hSz:=hH.size
 refine⟨rfl,⟨h1.trans k.h.os,h2.trans k.h.tape,h3.trans k.h.output,by omega,fun y hy hn he=>?_⟩,by omega,fun y hy hn he=>(h5 y hy hn he).trans (k.old y hy hn),?_,h8⟩
 · rw[h5 y om (by intro e;rcases h.bl with h9 | h9<;>omega) he]
   exact k.h.kept y hy hn (fun h=>h)
 · exact h.ctx X' _ c ⟨fun y hy hn he=>(h5 y hy hn he).trans (k.old y hy hn),fun j hj=>(h6 j hj).trans (k.oth j hj)⟩ (fun y hy=>Or.inl (hSS y hy)) (fun y hy=>Or.inr hy) h7
theorem Yk {X1:World}{B n c:Nat}{a:Option Addr}{f:Fo}{xs:List Value}{S S' :Nat→Prop}(ho:X1.ownsRow B 27 4 (.slice a n c) n xs)(hr:yD X1 S f xs)(hn:n=foLen f)(hS:∀y,S y→S' y)(hB:∀y,B≤y→S' y):zt X1 S' f a∧n≤c:=by
 rcases ho.2 with ⟨hv,h0⟩ | ⟨g,c',cur,hv,hb,hg,hnc,_⟩
 · cases hv
   refine⟨?_,NlrQ _⟩
   cases f with
   | nil=>exact True.intro
   | node _ _ _ _ _=>simp[foLen] at hn
 · cases hv
   exact⟨yD.lies (hB g hb) 0 (hr.kept (w':=X1) (S':=S') fun y hy=>⟨hS y hy,rfl⟩) (fun j u hu=>by rw[Nat.zero_add];exact zF ho rfl j u hu),hnc⟩
def JW (w:World)(E SS:Nat→Prop)(y:Tr)(RR:World→Prop)(e:Ending)(X' :World):Prop:=
 ∃v,e= .returned v∧zG X' (fun z=>SS z∨(w.heap.size≤z∧z<X'.heap.size)) v y∧X'.os=w.os∧X'.tape=w.tape∧X'.output=w.output∧w.heap.size≤X'.heap.size∧(∀z,z<w.heap.size→¬E z→X'.heap[z]? =w.heap[z]?)∧RR X'
theorem yX:∀(id:Int) (t:Tr) (p:List Nat),zA id t=some p→∃u,atT t p=some u∧u.id=id:=by
 have key :∀(f:Fo) (id:Int) (i:Nat) (p:List Nat),fpi id i f=some p→∃j q u,p=(i+j)::q∧∃v,zB f j=some v∧atT v q=some u∧u.id=id:=by
  intro f
  induction f with
  | nil=>intro id i p h;simp[fpi] at h
  | node b o k l r ihl ihr=>
    intro id i p h
    simp only[fpi] at h
    split at h
    · rename_i hk
      cases h
      exact⟨0,[],⟨k.1,k.2.1,k.2.2,l⟩,rfl,_,rfl,rfl,hk⟩
    · split at h
      · rename_i q hq
        cases h
        obtain⟨j,q',u,e,v,h1,h2,h3⟩:=ihl id 0 q hq
        subst e
        refine⟨0,(0+j)::q',u,rfl,⟨k.1,k.2.1,k.2.2,l⟩,rfl,?_,h3⟩
        rw[atT];simp only[Nat.zero_add,h1];exact h2
      · obtain⟨j,q',u,e,v,h1,h2,h3⟩:=ihr id (i+1) p h
        refine⟨j+1,q',u,by rw[e];congr 1;omega,v,?_,h2,h3⟩
        simpa [zB,zq] using h1
 intro id t p h
 rw[zA] at h
 split at h
 · rename_i hid
   cases h
   exact⟨t,rfl,hid⟩
 · obtain⟨j,q,u,e,v,h1,h2,h3⟩:=key _ _ _ _ h
   subst e
   exact⟨u,by rw[atT];simp only[Nat.zero_add,h1];exact h2,h3⟩
theorem kZ:∀(p:List Nat) (t u:Tr),atT t p=some u→zb u.kids+p.length≤zb t.kids
 | [],t,u,h=>by cases h;simp
 | i ::p,t,u,h=>by
   simp only[atT] at h
   cases hk:zB t.kids i with
   | none=>rw[hk] at h;cases h
   | some v=>
     rw[hk] at h
     have h1:=kZ p v u h
     have h2:=jo hk
     simp only[LlcQ];omega
def zu:Tr:=⟨0,0,⟨#[]⟩,.nil⟩
def Zk (par at_:Int)(t x:Tr):Tr×Int:=match zA par t with
 | none=>(zu,4)
 | some p=>match atT t p with
   | none=>(zu,4)
   | some u=>if 0≤at_∧at_≤(foLen u.kids:Int) then (zO t p ⟨u.id,u.kind,u.text,yK u.kids at_.toNat x⟩,0) else (zO t p u,2)
def ZR (t:Tr)(q:List Nat)(i:Nat):Tr×Tr:=match atT t q with
 | none=>(zu,zu)
 | some u=>match zB u.kids i with
   | none=>(zu,zu)
   | some v=>(zO t q ⟨u.id,u.kind,u.text,zW u.kids i⟩,v)
theorem jw:∀(p:List Nat) (t u x:Tr),atT t p=some u→zb (zO t p x).kids+zb u.kids=zb t.kids+zb x.kids
 | [],t,u,x,h=>by cases h;simp[zO];omega
 | i ::p,t,u,x,h=>by
   simp only[atT] at h
   simp only[zO]
   cases hk:zB t.kids i with
   | none=>rw[hk] at h;cases h
   | some v=>
     rw[hk] at h
     have h1:=jw p v u x h
     have h2:=za7 t.kids i v (zO v p x) hk
     simp only
     omega
theorem zbT (par at_:Int)(t x:Tr):zb (Zk par at_ t x).1.kids≤zb t.kids+zb x.kids+1:=by
 unfold Zk
 split
 · simp[zu,zb]
 · split
   · simp[zu,zb]
   · rename_i p hp _ u hu
     split
     · rename_i hc
       have h1:=jw p t u ⟨u.id,u.kind,u.text,yK u.kids at_.toNat x⟩ hu
       have h2:=Ze u.kids at_.toNat x om
       simp only at h1 ⊢;omega
     · have h1:=jw p t u u hu
       simp only;omega
theorem Y8 (t:Tr)(q:List Nat)(i:Nat):zb (ZR t q i).1.kids+zb (ZR t q i).2.kids≤zb t.kids:=by
 unfold ZR
 split
 · simp[zu,zb]
 · rename_i u hu
   split
   · simp[zu,zb]
   · rename_i v hv
     have h1:=jw q t u ⟨u.id,u.kind,u.text,zW u.kids i⟩ hu
     have h2:=Yp u.kids i v hv
     simp only at h1 ⊢;omega
structure zjC (P:Program) (W:World) (tb:Nat) (E S SS:Nat→Prop) (u:Tr) (lf:FuncId) (c0:Value) (c:Tr) (RR:World→Prop):Prop where
 enter:∀(args:Array Value) (w:World),(callFunc lf args).run P w= .ok (.enter lf args) w
 call:∀(X X1:World) (b off:Nat) (sv:Value) (xs:List Value),AlH W tb (fun _=>False) X→AlC W tb E S X u b off sv xs X1→b<X.heap.size→(b=tb∨W.heap.size≤b)→Calls P lf #[.pointer (some ⟨b,off,none⟩),c0] X1 (zfS W tb E SS X.heap.size X1 b off c RR)
structure zke (W:World) (tb:Nat) (E:Nat→Prop) (lf:FuncId) (c0:Value) (CB DB:Nat):Prop where
 down:W.heap[DB]? =some (.cells #[.func (.func 113) #[] #[.pointer (some ⟨CB,0,none⟩),.pointer (some ⟨DB,0,none⟩)]] 157 (0,0))
 change:W.heap[CB]? =some (.cells #[.func (.func lf) #[] #[c0]] 132 (0,0))
 hd:DB<W.heap.size∧DB≠tb∧¬E DB
 hc:CB<W.heap.size∧CB≠tb∧¬E CB
theorem zc8 {W:World}{tb:Nat}{E S SS:Nat→Prop}{lf:FuncId}{c0:Value}{t uL cT:Tr}{RR:World→Prop}(hS:AlS W tb E S)(hSS:∀y,S y→SS y)(hC:zjC Tryz.prog W tb E S SS uL lf c0 cT RR)(CB DB:Nat)(hB:zke W tb E lf c0 CB DB)(hsz:zb t.kids≤400000):
 ∀(M:Nat) (X:World) (p l:List Nat) (u:Tr) (b off:Nat) (pa:Option Addr) (n pc:Nat),n<M→n=l.length→n≤1000000→AlH W tb (fun _=>False) X→AlN W tb E S t X p u b off→zb u.kids≤400000→jg W (fun y=>y<W.heap.size∧y≠tb∧¬E y) pa pc (yY l)→atT u l=some uL→
 Calls Tryz.prog 113 #[.pointer (some ⟨b,off,none⟩),.slice pa n pc,.pointer (some ⟨CB,0,none⟩),.pointer (some ⟨DB,0,none⟩)] X (JV W tb E SS X b (zO t (p++l) cT) RR):=by
 intro M
 induction M with
 | zero=>intro X p l u b off pa n pc h;omega
 | succ M ih=>
   intro X p l u b off pa n pc hM hn hnb hH hN hus hp hat
   obtain⟨ka,kc,d3,hkc,hk,hk0⟩:=hN.c3
   obtain⟨xs,hr,hxl,hxc,hx1⟩:=zck u.kids hk
   have hul:=zL u.kids
   have hcl:=kH X ka (foLen u.kids) kc xs hxl hx1 om hxc hk0
   obtain⟨m,hm⟩:∃m,m=foLen u.kids:=⟨_,rfl⟩
   rw[←hm] at d3 hcl
   have HCL:=Lib.hid hcl
   have hblt:=hN.lt
   have hfz:=hN.fz
   by_cases hn0:n=0
   · subst hn0
     have hl:l= []:=List.length_eq_zero_iff.1 hn.symm
     subst hl
     have hu:u=uL:=by simpa [atT] using hat
     subst hu
     have HA:=Lib.hid (aN hH (aN hN (aN hr (aN hx1 (aN hm hblt)))))
     have hent:=hC.enter
     clear ih hM hp hat hn hnb hH hN hkc hk hk0 hr hxl hxc hx1 hul hcl hus hm
     go_enter Tryz.func113,Tryz.ntmps113
     go_wp2_with fail
     refine HCL.out.mono ?_
     rintro e w1 ⟨v',rfl,hb1,ho⟩
     obtain⟨va,vc,rfl⟩:=zy ho
     have g3:w1.cell? ⟨b,off+3,none⟩=some (.slice ka m kc):=(hb1.cell (p:=⟨b,off+3,none⟩) hblt).trans d3
     have gf:∀j,w1.frozen? ⟨b,j,none⟩=false:=fun j=>(World.frozen?_of_block (hb1.block b hblt)).trans (hfz j)
     rw[HA.out.2.2.2.2.1] at ho
     have hk1:=HA.out.2.1.clone hS HA.out.1 HA.out.2.2.1 HA.out.2.2.2.1 hb1 ho
     rw[←HA.out.2.2.2.2.1] at hk1
     obtain⟨X1,hX1⟩:∃X1,X1=w1.setCell ⟨b,off+3,none⟩ (.slice va m vc):=⟨_,rfl⟩
     rw[←hX1] at hk1
     have hcb:X1.cell? ⟨CB,0,none⟩=some (.func (.func lf) #[] #[c0]):=by rw[corQ _ _ 0 _ _ _ ((hk1.h.kept CB hB.hc.1 hB.hc.2.1 (fun h=>h)).trans hB.change)];rfl
     exact sd2
   · obtain⟨j,l',rfl⟩:∃j l',l=j::l':=by
      cases l with
      | nil=>simp at hn;omega
      | cons j l'=>exact⟨j,l',rfl⟩
     exact sa1
theorem zjT (w:World){E S SS:Nat→Prop}{lf:FuncId}{c0:Value}{RR:World→Prop}(nv:Value)(t uL cT:Tr)(p:List Nat)(pa:Option Addr)(n pc:Nat)(hS:∀y,S y→y<w.heap.size∧¬E y)(hSS:∀y,SS y→y<w.heap.size∧¬E y)(hsub:∀y,S y→SS y)(hE:∀y,E y→y<w.heap.size)(hn:n=p.length)(hnb:n≤1000000)
 (ht:zG w S nv t) (hsz:zb t.kids≤400000) (hp:jg w (fun y=>y<w.heap.size∧¬E y) pa pc (yY p)) (hat:atT t p=some uL) (hC:∀W,Below w.heap.size w W→W.heap.size=w.heap.size+4→zjC Tryz.prog W w.heap.size E S SS uL lf c0 cT RR) (hRR:∀X X' :World,(∀y,E y→X'.heap[y]? =X.heap[y]?)→RR X→RR X'):
 Calls Tryz.prog 98 #[nv,.slice pa n pc,.func (.func lf) #[] #[c0]] w (JW w E SS (zO t p cT) RR):=by
 have hmf:∀(fn:Fn) (first cap:Array Value) (w:World),(Instr.makeFunc fn first cap).run Tryz.prog w= .ok (.func fn first cap) w:=fun _ _ _ _=>rfl
 obtain⟨ka,tc,rfl,hcap,hk⟩:=ht
 obtain⟨nk,hnk⟩:∃nk,nk=foLen t.kids:=⟨_,rfl⟩
 rw[←hnk]
 obtain⟨DV,hDV⟩:∃DV,DV=Value.func (.func 113) #[] #[.pointer (some ⟨w.heap.size+1,0,none⟩),.pointer (some ⟨w.heap.size+1+1+1,0,none⟩)]:=⟨_,rfl⟩
 obtain⟨W,hW⟩:∃W,W=zl w [.cells #[.int .i64 t.id,.int .i64 t.kind,.string t.text,.slice ka nk tc] 27,.cells #[.func (.func lf) #[] #[c0]] 132,.cells #[.int .i64 0,.int .i64 0,.string ⟨#[]⟩,.slice none 0 0] 27,.cells #[DV] 157]:=⟨_,rfl⟩
 have hb:Below w.heap.size w W:=by rw[hW];exact zi _ _
 have hs:W.heap.size=w.heap.size+4:=by rw[hW];exact zw _ _
 have h0:W.heap[w.heap.size]? =some (.cells #[.int .i64 t.id,.int .i64 t.kind,.string t.text,.slice ka nk tc] 27 (0,0)):=by rw[hW];exact ze _ _ 0 _ rfl
 have h1:W.heap[w.heap.size+1]? =some (.cells #[.func (.func lf) #[] #[c0]] 132 (0,0)):=by rw[hW];exact ze _ _ 1 _ rfl
 have h2:W.heap[w.heap.size+2]? =some (.cells #[.int .i64 0,.int .i64 0,.string ⟨#[]⟩,.slice none 0 0] 27 (0,0)):=by rw[hW];exact ze _ _ 2 _ rfl
 have h3:W.heap[w.heap.size+3]? =some (.cells #[DV] 157 (0,0)):=by rw[hW];exact ze _ _ 3 _ rfl
 have hAS:AlS W w.heap.size E S:=⟨fun y hy=>⟨by have:=(hS y hy).1;omega,by have:=(hS y hy).1;omega,(hS y hy).2⟩,fun y hy=>⟨by have:=hE y hy;omega,by have:=hE y hy;omega⟩,by omega⟩
 have hAB:zke W w.heap.size E lf c0 (w.heap.size+1) (w.heap.size+3):=⟨by rw[h3,hDV],h1,⟨by omega,by omega,fun h=>by have:=hE _ h;omega⟩,⟨by omega,by omega,fun h=>by have:=hE _ h;omega⟩⟩
 have hAH:AlH W w.heap.size (fun _=>False) W:=⟨rfl,rfl,rfl,NlrQ _,fun _ _ _ _=>rfl⟩
 have hkW:zt W S t.kids ka:=hk.kept (w':=W) (S':=S) fun y hy=>⟨hy,hb.block y (hS y hy).1⟩
 obtain⟨b0,b1,b2,b3⟩:=zD h0
 have hAN:AlN W w.heap.size E S t W [] t w.heap.size 0:=⟨rfl,b0,b1,b2,⟨ka,tc,by rw[←hnk];exact b3,hcap,hkW,fun e=>by
  rw[e] at hkW
  cases hkk:t.kids with
  | nil=>rfl
  | node _ _ _ _ _=>rw[hkk] at hkW;obtain⟨_,_,_,_,e2,_⟩:=hkW;cases e2⟩,fun j=>forQ _ _ j _ _ h0,Or.inl rfl,by omega,fun X' S' u' _ _ _ hn=>hn⟩
 have hc:=zc8 hAS hsub (hC W hb hs) (w.heap.size+1) (w.heap.size+3) hAB hsz (n+1) W [] p t w.heap.size 0 pa n pc (Nat.lt_succ_self _) hn hnb hAH hAN hsz (hp.kept fun y hy=>⟨⟨by omega,by omega,hy.2⟩,hb.block y hy.1⟩) hat
 rw[List.nil_append] at hc
 have HC:=Lib.hid (aN hc (aN hb (aN hs (aN hW h2))))
 have HDV:=Lib.hid hDV
 have HQ:=Lib.hid (aN hRR (aN hE hSS))
 clear hc hb hs hW h0 h1 h2 h3 hAS hAB hAH hAN hkW b0 b1 b2 b3 hp hn hDV hS hSS hsub hE hk hcap hC hRR hat hsz hnb hnk
 go_enter Tryz.func98,Tryz.ntmps98
 go_wp2_with fail
 have hWW:=HC.out.2.2.2.1
 rw[HDV.out] at hWW
 change Calls _ _ _ (zl w [.cells #[.int .i64 t.id,.int .i64 t.kind,.string t.text,.slice ka nk tc] 27,.cells #[.func (.func lf) #[] #[c0]] 132,.cells #[.int .i64 0,.int .i64 0,.string ⟨#[]⟩,.slice none 0 0] 27,.cells #[Value.func (.func 113) #[] #[.pointer (some ⟨w.heap.size+1,0,none⟩),.pointer (some ⟨w.heap.size+1+1+1,0,none⟩)]] 157]) _
 exact sb1
end Go.Proofs.YtgkmmnihaiopaaaGreat
namespace Go.Proofs.YtgkmmnihaiopaaaGreat
open Go.RowKit
def zaU (xs:List Value)(m i:Nat):List Value:=if i≤m then xs.take (i*4) else xs.take (m*4)++(xs.drop (m*4+4)).take ((i - (m+1))*4)
def QO (m i:Nat):Nat:=if i≤m then i else i - 1
theorem zgx {xs:List Value}{m i:Nat}(h:i≠m):zaU xs m i++(xs.drop (i*4)).take 4=zaU xs m (i+1)∧QO m (i+1)=QO m i+1:=by
 unfold zaU QO
 by_cases hi:i<m
 · rw[ipQ om,ipQ om,ipQ om,ipQ om]
   exact⟨by rw[show (i+1)*4=i*4+4 by omega,List.take_add],rfl⟩
 · rw[inQ om,inQ om,inQ om,inQ om]
   refine⟨?_,by omega⟩
   rw[List.append_assoc]
   congr 1
   rw[show (i+1 - (m+1))*4=(i - (m+1))*4+4 by omega,List.take_add,List.drop_drop]
   congr 3
   omega
theorem zbR (xs:List Value)(m:Nat):zaU xs m (m+1)=zaU xs m m∧QO m (m+1)=QO m m:=by
 unfold zaU QO
 rw[inQ om,ipQ (NlrQ _),inQ om,ipQ (NlrQ _)]
 simp
theorem zic {xs:List Value}{m n:Nat}(hl:xs.length=n*4)(hm:m<n):zaU xs m n=xs.take (m*4)++xs.drop (m*4+4)∧QO m n=n - 1:=by
 unfold zaU QO
 rw[inQ om,inQ om]
 refine⟨?_,rfl⟩
 congr 1
 exact List.take_of_length_le (by rw[List.length_drop];omega)
theorem ziW {xs:List Value}{a:Nat}{c0 c1 c2 c3:Value}(h0:xs[a]? =some c0)(h1:xs[a+1]? =some c1)(h2:xs[a+2]? =some c2)(h3:xs[a+3]? =some c3):(xs.drop a).take 4= [c0,c1,c2,c3]:=by
 apply List.ext_getElem?
 intro j
 rw[List.getElem?_take]
 match j with
 | 0=>simpa using h0
 | 1=>simpa using h1
 | 2=>simpa using h2
 | 3=>simpa using h3
 | j+4=>simp;omega
end Go.Proofs.YtgkmmnihaiopaaaGreat
