/-
  .
-/
import Derived.Test.YtnikgofkldkdkaaKPathQt
import Derived.Test.YtnikgofkldkdkaaKInsQt
set_option maxRecDepth 100000
set_option maxHeartbeats 40000000
set_option linter.unusedVariables false
set_option linter.unusedSimpArgs false
namespace Go.Proofs.Ytnikgofkldkdkaa
open Go.RowKit Go.Shelf
theorem jT {w:World}{S:Nat→Prop}:∀{f:Fo} {a:Option Addr},zk w S f a→zk w (fun x=>yD w x∧S x) f a
 | .nil,_,_=>True.intro
 | .node _ _ _ _ _,_,h=>by
   obtain⟨b,off,ka,cap,e,hb,h0,h1,h2,h3,hc,hl,hr⟩:=h
   have hcb:yD w b:=by
    unfold World.cell? at h0
    cases hh:w.heap[b]? with
    | none=>simp[hh] at h0
    | some o=>
      cases o with
      | cells cs t fr=>exact⟨cs,t,fr,hh⟩
      | _=>simp[hh] at h0
   exact⟨b,off,ka,cap,e,⟨hcb,hb⟩,h0,h1,h2,h3,hc,jT hl,jT hr⟩
theorem zH {w:World}{b:Nat}{c0 c1 c2 c3:Value}{T:TypeId}(h:w.heap[b]? =some (.cells #[c0,c1,c2,c3] T (0,0))):w.cell? ⟨b,0,none⟩=some c0∧w.cell? ⟨b,1,none⟩=some c1∧w.cell? ⟨b,2,none⟩=some c2∧w.cell? ⟨b,3,none⟩=some c3:=
 ⟨by rw[corQ _ _ 0 _ _ _ h];rfl,by rw[corQ _ _ 1 _ _ _ h];rfl,by rw[corQ _ _ 2 _ _ _ h];rfl,by rw[corQ _ _ 3 _ _ _ h];rfl⟩
theorem yO {P:Program}{fn:Func}{p u:Tmp}{ty:TypeId}(h:fn.results= #[.cell p ty,.tmp u])(tmps:Array Value)(w:World)(g:Nat)(t:TypeId)(cs:Array Value)(fr:Nat×Nat)(d:TypeDesc)(x:Value)
 (hp:tmps.getD p undef= .pointer (some ⟨g,0,none⟩)) (hg:w.heap[g]? =some (.cells cs t fr)) (hu:P.underlying ty=some d) (hd:(match d with | .struct _ | .array _ _=>true | _=>false)=true) (hi:(P.info? ty).map (·.size)=some cs.size) (hp2:tmps.getD u undef=x):
 (results fn tmps).run P w= .ok (.tuple #[.agg cs,x]) w:=by
 exact sf2
theorem zu {V:World}{R1:Nat}{c0 c1 c2 c3 u0 u1 u2 u3:Value}(h2:V.heap[R1]? =some (.cells #[c0,c1,c2,c3] 27 (0,0))):
 ∃V5,V5=((((V.setCell ⟨R1,0,none⟩ u0).setCell ⟨R1,1,none⟩ u1).setCell ⟨R1,2,none⟩ u2).setCell ⟨R1,3,none⟩ u3)∧V5.heap[R1]? =some (.cells #[u0,u1,u2,u3] 27 (0,0))∧(∀y,y≠R1→V5.heap[y]? =V.heap[y]?)∧V5.os=V.os∧V5.tape=V.tape∧V5.output=V.output∧V5.heap.size=V.heap.size:=by
 exact sd2
def zjG (E:Nat→Prop)(X X' :World)(b off:Nat):Prop:=(∀y,y<X.heap.size→y≠b→¬E y→X'.heap[y]? =X.heap[y]?)∧∀j,(j<off∨off+4≤j)→X'.cell? ⟨b,j,none⟩=X.cell? ⟨b,j,none⟩
def zkG (B tb:Nat)(E S:Nat→Prop)(t:Tr)(X:World)(p:List Nat)(b off:Nat):Prop:=∀(X' :World) (S' :Nat→Prop) (u' :Tr),zjG E X X' b off→(∀y,S y→S' y)→(∀y,(y=tb∨B≤y)→S' y)→kI X' S' u' b off→kI X' S' (zP t p u') tb 0
structure AlH (W:World) (tb:Nat) (E:Nat→Prop) (X:World):Prop where
 os:X.os=W.os
 tape:X.tape=W.tape
 output:X.output=W.output
 size:W.heap.size≤X.heap.size
 kept:∀y,y<W.heap.size→y≠tb→¬E y→X.heap[y]? =W.heap[y]?
structure AlS (W:World) (tb:Nat) (E S:Nat→Prop):Prop where
 s:∀y,S y→y<W.heap.size∧y≠tb∧¬E y
 e:∀y,E y→y<W.heap.size∧y≠tb
 tb:tb<W.heap.size
structure AlN (W:World) (tb:Nat) (E S:Nat→Prop) (t:Tr) (X:World) (p:List Nat) (u:Tr) (b off:Nat):Prop where
 at_:atT t p=some u
 c0:X.cell? ⟨b,off,none⟩=some (.int .i64 u.id)
 c1:X.cell? ⟨b,off+1,none⟩=some (.int .i64 u.kind)
 c2:X.cell? ⟨b,off+2,none⟩=some (.string u.text)
 c3:∃ka kc,X.cell? ⟨b,off+3,none⟩=some (.slice ka (foLen u.kids) kc)∧foLen u.kids≤kc∧zk X S u.kids ka∧(ka=none→foLen u.kids=0)
 fz:∀j,X.frozen? ⟨b,j,none⟩=false
 bl:b=tb∨W.heap.size≤b
 lt:b<X.heap.size
 ctx:zkG W.heap.size tb E S t X p b off
theorem AlN.notE {W:World}{tb:Nat}{E S:Nat→Prop}{t:Tr}{X:World}{p:List Nat}{u:Tr}{b off:Nat}(hS:AlS W tb E S)(h:AlN W tb E S t X p u b off):¬E b:=fun he=>by
 have:=hS.e b he
 rcases h.bl with h | h<;>omega
theorem AlH.drew {W:World}{tb:Nat}{E:Nat→Prop}{X:World}(h:AlH W tb E X):AlH W tb E X.drew:=⟨h.os,h.tape,h.output,h.size,h.kept⟩
theorem AlN.drew {W:World}{tb:Nat}{E S:Nat→Prop}{t:Tr}{X:World}{p:List Nat}{u:Tr}{b off:Nat}(h:AlN W tb E S t X p u b off):AlN W tb E S t X.drew p u b off:=by
 obtain⟨ka,kc,d3,h1,h2,h3⟩:=h.c3
 exact⟨h.at_,h.c0,h.c1,h.c2,⟨ka,kc,d3,h1,zk.kept (w:=X) (w':=X.drew) (S:=S) (S':=S) (fun y hy=>⟨hy,rfl⟩) h2,h3⟩,h.fz,h.bl,h.lt,h.ctx⟩
structure AlC (W:World) (tb:Nat) (E S:Nat→Prop) (X:World) (u:Tr) (b off:Nat) (sv:Value) (xs:List Value) (X1:World):Prop where
 h:AlH W tb (fun _=>False) X1
 size:X.heap.size≤X1.heap.size
 c0:X1.cell? ⟨b,off,none⟩=some (.int .i64 u.id)
 c1:X1.cell? ⟨b,off+1,none⟩=some (.int .i64 u.kind)
 c2:X1.cell? ⟨b,off+2,none⟩=some (.string u.text)
 c3:X1.cell? ⟨b,off+3,none⟩=some sv
 own:X1.ownsRow X.heap.size 27 4 sv (foLen u.kids) xs
 row:yM X1 S u.kids xs
 one:∀v∈xs,v.oneCell'=true
 fz:∀j,X1.frozen? ⟨b,j,none⟩=false
 old:∀y,y<X.heap.size→y≠b→X1.heap[y]? =X.heap[y]?
 oth:∀j,(j<off∨off+4≤j)→X1.cell? ⟨b,j,none⟩=X.cell? ⟨b,j,none⟩
theorem AlN.clone {W:World}{tb:Nat}{E S:Nat→Prop}{t:Tr}{X w1:World}{p:List Nat}{u:Tr}{b off:Nat}{xs:List Value}{sv:Value}(hS:AlS W tb E S)(hH:AlH W tb (fun _=>False) X)(h:AlN W tb E S t X p u b off)(hr:yM X S u.kids xs)(h1:∀v∈xs,v.oneCell'=true)
 (hb:Below X.heap.size X w1) (ho:w1.ownsRow X.heap.size 27 4 sv (foLen u.kids) xs):AlC W tb E S X u b off sv xs (w1.setCell ⟨b,off+3,none⟩ sv):=by
 obtain⟨X1,hX1⟩:∃X1,X1=w1.setCell ⟨b,off+3,none⟩ sv:=⟨_,rfl⟩
 rw[←hX1]
 have hs1:X1.heap.size=w1.heap.size:=by rw[hX1];simp[World.setCell]
 have hset:∀y,y≠b→X1.heap[y]? =w1.heap[y]?:=fun y hy=>by rw[hX1];exact BhsQ _ _ _ _ hy
 have hXs:=hb.size
 have hbl:w1.heap[b]? =X.heap[b]?:=hb.block b h.lt
 obtain⟨ka0,kc0,d3,_,_,_⟩:=h.c3
 have hc3:X1.cell? ⟨b,off+3,none⟩=some sv:=by
  rw[hX1];exact World.cell?_setCell_same' w1 _ _ (by rw[World.cell?_of_block hbl,d3];rfl)
 have hco:∀i,i≠off+3→X1.cell? ⟨b,i,none⟩=X.cell? ⟨b,i,none⟩:=fun i hi=>by
  rw[hX1,World.cell?_setCell_other w1 ⟨b,off+3,none⟩ ⟨b,i,none⟩ _ (by intro e;cases e;exact hi rfl)];exact World.cell?_of_block hbl
 have hold:∀y,y<X.heap.size→y≠b→X1.heap[y]? =X.heap[y]?:=fun y hy hn=>(hset y hn).trans (hb.block y hy)
 have hS1:∀y,S y→X1.heap[y]? =X.heap[y]?:=fun y hy=>by
  have h9:=hS.s y hy
  have:=hH.size
  exact hold y om (by intro e;rcases h.bl with h8 | h8<;>omega)
 refine⟨⟨by rw[hX1];exact hb.os.trans hH.os,by rw[hX1];exact hb.tape.trans hH.tape,by rw[hX1];exact hb.output.trans hH.output,by have:=hH.size;omega,fun y hy hn he=>?_⟩,by omega,(hco _ om).trans h.c0,(hco _ om).trans h.c1,(hco _ om).trans h.c2,hc3,zA ho (fun g' cur hc hg'=>hset g' ?_),hr.kept (fun y hy=>⟨hy,hS1 y hy⟩),h1,fun j=>?_,hold,fun j hj=>hco j om⟩
 · have:=hH.size
   rw[hold y om (by intro e;rcases h.bl with h8 | h8<;>omega)]
   exact hH.kept y hy hn he
 · have hgb:=zi ho (g:=g') hg'
   have:=h.lt
   omega
 · rw[hX1,World.frozen?_setCell]
   exact (World.frozen?_of_block hbl).trans (h.fz j)
theorem AlN.down {W:World}{tb:Nat}{E S:Nat→Prop}{t:Tr}{X X1:World}{p:List Nat}{u v:Tr}{b off j g gc:Nat}{xs:List Value}(hS:AlS W tb E S)(hH:AlH W tb (fun _=>False) X)(h:AlN W tb E S t X p u b off)(hv:zB u.kids j=some v)
 (k:AlC W tb E S X u b off (.slice (some ⟨g,0,none⟩) (foLen u.kids) gc) xs X1):AlN W tb E S t X1 (p++[j]) v g (j*4)∧b≠g∧X.heap.size≤g:=by
 have hgb:=zi k.own (g:=g) rfl
 have hbg:b≠g:=by have:=h.lt;omega
 have hcell:∀i x,xs[i]? =some x→X1.cell? ⟨g,i,none⟩=some x:=fun i x hx=>zC k.own rfl i x hx
 have hcap:foLen u.kids≤gc:=by
  rcases k.own.2 with ⟨hv0,h0⟩ | ⟨_,_,_,hv0,_,_,h3,_⟩
  · cases hv0
  · cases hv0;exact h3
 obtain⟨na,nc,e0,e1,e2,e3,hnc,hnk⟩:=yM.nth u.kids j v xs k.row hv
 have hjl:=qd hv
 refine⟨⟨by rw[vI,h.at_];simp[atT,hv],hcell _ _ e0,hcell _ _ e1,hcell _ _ e2,⟨na,nc,hcell _ _ e3,hnc,hnk,fun e=>?_⟩,fun i=>World.ownsRow.frozenAt k.own i,Or.inr (by have:=hH.size;omega),hgb.2,?_⟩,hbg,hgb.1⟩
 · subst e
   cases hvk:v.kids with
   | nil=>rfl
   | node _ _ _ _ _=>rw[hvk] at hnk;obtain⟨_,_,_,_,e,_⟩:=hnk;cases e
 intro X' S' v' hA h1 h2 hn
 rw[Jj p t u v v' j h.at_ hv]
 have hXs:=k.size
 have hbE:=h.notE hS
 have hSz:=hH.size
 refine h.ctx X' S' ⟨u.id,u.kind,u.text,vv u.kids j v'⟩ ⟨fun y hy hne he=>?_,fun i hi=>?_⟩ h1 h2 ?_
 · rw[hA.1 y om om he]
   exact k.old y hy hne
 · have:X'.heap[b]? =X1.heap[b]?:=hA.1 b (by have:=h.lt;omega) hbg hbE
   rw[World.cell?_of_block (a:=⟨b,i,none⟩) this]
   exact k.oth i hi
 · have hbX:X'.heap[b]? =X1.heap[b]?:=hA.1 b (by have:=h.lt;omega) hbg hbE
   have hcx:∀i,X'.cell? ⟨b,i,none⟩=X1.cell? ⟨b,i,none⟩:=fun i=>World.cell?_of_block (a:=⟨b,i,none⟩) hbX
   have hgS:S' g:=h2 g (Or.inr om)
   refine⟨h2 b h.bl,by rw[hcx];exact k.c0,by rw[hcx];exact k.c1,by rw[hcx];exact k.c2,some ⟨g,0,none⟩,gc,by rw[hcx,k.c3];simp only[Z4],by simp only[Z4];exact hcap,?_⟩
   refine JS u.kids j (zbO u.kids j xs k.row hjl hgS (fun y hy=>⟨h1 y hy,hA.1 y (by have:=hS.s y hy;omega) (by have:=hS.s y hy;omega) (hS.s y hy).2.2⟩) (fun i x hx hi=>?_)) (by rw[Nat.zero_add];exact hn) hjl
   rw[Nat.zero_add,hA.2 i om]
   exact hcell i x hx
def JB (W:World)(tb:Nat)(E SS:Nat→Prop)(X:World)(b:Nat)(y:Tr)(RR:World→Prop)(e:Ending)(X' :World):Prop:=
 e= .returned (.tuple #[])∧AlH W tb E X'∧X.heap.size≤X'.heap.size∧(∀y,y<X.heap.size→y≠b→¬E y→X'.heap[y]? =X.heap[y]?)∧kI X' (fun y=>SS y∨(y=tb∨W.heap.size≤y)) y tb 0∧RR X'
def zfs (W:World)(tb:Nat)(E SS:Nat→Prop)(Bx:Nat)(X1:World)(b off:Nat)(y:Tr)(RR:World→Prop)(e:Ending)(X' :World):Prop:=
 e= .returned (.tuple #[])∧X'.os=X1.os∧X'.tape=X1.tape∧X'.output=X1.output∧X1.heap.size≤X'.heap.size∧(∀y,y<Bx→y≠b→¬E y→X'.heap[y]? =X1.heap[y]?)∧(∀j,(j<off∨off+4≤j)→X'.cell? ⟨b,j,none⟩=X1.cell? ⟨b,j,none⟩)∧kI X' (fun y=>SS y∨(y=tb∨W.heap.size≤y)) y b off∧RR X'
theorem AlN.done {W:World}{tb:Nat}{E S SS:Nat→Prop}{t:Tr}{X X1 X' :World}{p:List Nat}{u c:Tr}{b off:Nat}{sv:Value}{xs:List Value}{RR:World→Prop}{e:Ending}(hS:AlS W tb E S)(hSS:∀y,S y→SS y)(hH:AlH W tb (fun _=>False) X)(h:AlN W tb E S t X p u b off)(k:AlC W tb E S X u b off sv xs X1)
 (hc:zfs W tb E SS X.heap.size X1 b off c RR e X'):JB W tb E SS X b (zP t p c) RR e X':=by
 obtain⟨rfl,h1,h2,h3,h4,h5,h6,h7,h8⟩:=hc
 have hXs:=k.size
 have hSz:=hH.size
 refine⟨rfl,⟨h1.trans k.h.os,h2.trans k.h.tape,h3.trans k.h.output,by omega,fun y hy hn he=>?_⟩,by omega,fun y hy hn he=>(h5 y hy hn he).trans (k.old y hy hn),?_,h8⟩
 · rw[h5 y om (by intro e;rcases h.bl with h9 | h9<;>omega) he]
   exact k.h.kept y hy hn (fun h=>h)
 · exact h.ctx X' _ c ⟨fun y hy hn he=>(h5 y hy hn he).trans (k.old y hy hn),fun j hj=>(h6 j hj).trans (k.oth j hj)⟩ (fun y hy=>Or.inl (hSS y hy)) (fun y hy=>Or.inr hy) h7
theorem ZY {X1:World}{B n c:Nat}{a:Option Addr}{f:Fo}{xs:List Value}{S S' :Nat→Prop}(ho:X1.ownsRow B 27 4 (.slice a n c) n xs)(hr:yM X1 S f xs)(hn:n=foLen f)(hS:∀y,S y→S' y)(hB:∀y,B≤y→S' y):zk X1 S' f a∧n≤c:=by
 rcases ho.2 with ⟨hv,h0⟩ | ⟨g,c',cur,hv,hb,hg,hnc,_⟩
 · cases hv
   refine⟨?_,NlrQ _⟩
   cases f with
   | nil=>exact True.intro
   | node _ _ _ _ _=>simp[foLen] at hn
 · cases hv
   exact⟨yM.lies (hB g hb) 0 (hr.kept (w':=X1) (S':=S') fun y hy=>⟨hS y hy,rfl⟩) (fun j u hu=>by rw[Nat.zero_add];exact zC ho rfl j u hu),hnc⟩
def JC (w:World)(E SS:Nat→Prop)(y:Tr)(RR:World→Prop)(e:Ending)(X' :World):Prop:=
 ∃v,e= .returned v∧zK X' (fun z=>SS z∨(w.heap.size≤z∧z<X'.heap.size)) v y∧X'.os=w.os∧X'.tape=w.tape∧X'.output=w.output∧w.heap.size≤X'.heap.size∧(∀z,z<w.heap.size→¬E z→X'.heap[z]? =w.heap[z]?)∧RR X'
structure zjI (P:Program) (W:World) (tb:Nat) (E S SS:Nat→Prop) (u:Tr) (lf:FuncId) (c0:Value) (c:Tr) (RR:World→Prop):Prop where
 enter:∀(args:Array Value) (w:World),(callFunc lf args).run P w= .ok (.enter lf args) w
 call:∀(X X1:World) (b off:Nat) (sv:Value) (xs:List Value),AlH W tb (fun _=>False) X→AlC W tb E S X u b off sv xs X1→b<X.heap.size→(b=tb∨W.heap.size≤b)→Calls P lf #[.pointer (some ⟨b,off,none⟩),c0] X1 (zfs W tb E SS X.heap.size X1 b off c RR)
structure zkl (W:World) (tb:Nat) (E:Nat→Prop) (lf:FuncId) (c0:Value) (CB DB:Nat):Prop where
 down:W.heap[DB]? =some (.cells #[.func (.func 113) #[] #[.pointer (some ⟨CB,0,none⟩),.pointer (some ⟨DB,0,none⟩)]] 171 (0,0))
 change:W.heap[CB]? =some (.cells #[.func (.func lf) #[] #[c0]] 139 (0,0))
 hd:DB<W.heap.size∧DB≠tb∧¬E DB
 hc:CB<W.heap.size∧CB≠tb∧¬E CB
theorem zcE {W:World}{tb:Nat}{E S SS:Nat→Prop}{lf:FuncId}{c0:Value}{t uL cT:Tr}{RR:World→Prop}(hS:AlS W tb E S)(hSS:∀y,S y→SS y)(hC:zjI Try.prog W tb E S SS uL lf c0 cT RR)(CB DB:Nat)(hB:zkl W tb E lf c0 CB DB)(hsz:za t.kids≤400000):
 ∀(M:Nat) (X:World) (p l:List Nat) (u:Tr) (b off:Nat) (pa:Option Addr) (n pc:Nat),n<M→n=l.length→n≤1000000→AlH W tb (fun _=>False) X→AlN W tb E S t X p u b off→za u.kids≤400000→vW W (fun y=>y<W.heap.size∧y≠tb∧¬E y) pa pc (qx l)→atT u l=some uL→
 Calls Try.prog 113 #[.pointer (some ⟨b,off,none⟩),.slice pa n pc,.pointer (some ⟨CB,0,none⟩),.pointer (some ⟨DB,0,none⟩)] X (JB W tb E SS X b (zP t (p++l) cT) RR):=by
 intro M
 induction M with
 | zero=>intro X p l u b off pa n pc h;omega
 | succ M ih=>
   intro X p l u b off pa n pc hM hn hnb hH hN hus hp hat
   obtain⟨ka,kc,d3,hkc,hk,hk0⟩:=hN.c3
   obtain⟨xs,hr,hxl,hxc,hx1⟩:=ze5 u.kids hk
   have hul:=zM u.kids
   have hcl:=kz X ka (foLen u.kids) kc xs hxl hx1 om hxc hk0
   obtain⟨m,hm⟩:∃m,m=foLen u.kids:=⟨_,rfl⟩
   rw[←hm] at d3 hcl
   have HCL:=Lib.hid hcl
   have hblt:=hN.lt
   have hfz:=hN.fz
   by_cases hn0:n=0
   · subst hn0
     have hl:l= []:=List.length_eq_zero_iff.1 hn.symm
     subst hl
     have hu:u=uL:=by simpa [atT] using hat
     subst hu
     have HA:=Lib.hid (aN hH (aN hN (aN hr (aN hx1 (aN hm hblt)))))
     have hent:=hC.enter
     clear ih hM hp hat hn hnb hH hN hkc hk hk0 hr hxl hxc hx1 hul hcl hus hm
     go_enter Try.func113,Try.ntmps113
     go_wp2_with fail
     refine HCL.out.mono ?_
     rintro e w1 ⟨v',rfl,hb1,ho⟩
     obtain⟨va,vc,rfl⟩:=zt ho
     have g3:w1.cell? ⟨b,off+3,none⟩=some (.slice ka m kc):=(hb1.cell (p:=⟨b,off+3,none⟩) hblt).trans d3
     have gf:∀j,w1.frozen? ⟨b,j,none⟩=false:=fun j=>(World.frozen?_of_block (hb1.block b hblt)).trans (hfz j)
     rw[HA.out.2.2.2.2.1] at ho
     have hk1:=HA.out.2.1.clone hS HA.out.1 HA.out.2.2.1 HA.out.2.2.2.1 hb1 ho
     rw[←HA.out.2.2.2.2.1] at hk1
     obtain⟨X1,hX1⟩:∃X1,X1=w1.setCell ⟨b,off+3,none⟩ (.slice va m vc):=⟨_,rfl⟩
     rw[←hX1] at hk1
     have hcb:X1.cell? ⟨CB,0,none⟩=some (.func (.func lf) #[] #[c0]):=by rw[corQ _ _ 0 _ _ _ ((hk1.h.kept CB hB.hc.1 hB.hc.2.1 (fun h=>h)).trans hB.change)];rfl
     exact sc7
   · obtain⟨j,l',rfl⟩:∃j l',l=j::l':=by
      cases l with
      | nil=>simp at hn;omega
      | cons j l'=>exact⟨j,l',rfl⟩
     exact sa1
theorem zjX (w:World){E S SS:Nat→Prop}{lf:FuncId}{c0:Value}{RR:World→Prop}(nv:Value)(t uL cT:Tr)(p:List Nat)(pa:Option Addr)(n pc:Nat)(hS:∀y,S y→y<w.heap.size∧¬E y)(hSS:∀y,SS y→y<w.heap.size∧¬E y)(hsub:∀y,S y→SS y)(hE:∀y,E y→y<w.heap.size)(hn:n=p.length)(hnb:n≤1000000)
 (ht:zK w S nv t) (hsz:za t.kids≤400000) (hp:vW w (fun y=>y<w.heap.size∧¬E y) pa pc (qx p)) (hat:atT t p=some uL) (hC:∀W,Below w.heap.size w W→W.heap.size=w.heap.size+4→zjI Try.prog W w.heap.size E S SS uL lf c0 cT RR) (hRR:∀X X' :World,(∀y,E y→X'.heap[y]? =X.heap[y]?)→RR X→RR X'):
 Calls Try.prog 91 #[nv,.slice pa n pc,.func (.func lf) #[] #[c0]] w (JC w E SS (zP t p cT) RR):=by
 have hmf:∀(fn:Fn) (first cap:Array Value) (w:World),(Instr.makeFunc fn first cap).run Try.prog w= .ok (.func fn first cap) w:=fun _ _ _ _=>rfl
 obtain⟨ka,tc,rfl,hcap,hk⟩:=ht
 obtain⟨nk,hnk⟩:∃nk,nk=foLen t.kids:=⟨_,rfl⟩
 rw[←hnk]
 obtain⟨DV,hDV⟩:∃DV,DV=Value.func (.func 113) #[] #[.pointer (some ⟨w.heap.size+1,0,none⟩),.pointer (some ⟨w.heap.size+1+1+1,0,none⟩)]:=⟨_,rfl⟩
 obtain⟨W,hW⟩:∃W,W=zx w [.cells #[.int .i64 t.id,.int .i64 t.kind,.string t.text,.slice ka nk tc] 27,.cells #[.func (.func lf) #[] #[c0]] 139,.cells #[.int .i64 0,.int .i64 0,.string ⟨#[]⟩,.slice none 0 0] 27,.cells #[DV] 171]:=⟨_,rfl⟩
 have hb:Below w.heap.size w W:=by rw[hW];exact zl _ _
 have hs:W.heap.size=w.heap.size+4:=by rw[hW];exact zJ _ _
 have h0:W.heap[w.heap.size]? =some (.cells #[.int .i64 t.id,.int .i64 t.kind,.string t.text,.slice ka nk tc] 27 (0,0)):=by rw[hW];exact ze _ _ 0 _ rfl
 have h1:W.heap[w.heap.size+1]? =some (.cells #[.func (.func lf) #[] #[c0]] 139 (0,0)):=by rw[hW];exact ze _ _ 1 _ rfl
 have h2:W.heap[w.heap.size+2]? =some (.cells #[.int .i64 0,.int .i64 0,.string ⟨#[]⟩,.slice none 0 0] 27 (0,0)):=by rw[hW];exact ze _ _ 2 _ rfl
 have h3:W.heap[w.heap.size+3]? =some (.cells #[DV] 171 (0,0)):=by rw[hW];exact ze _ _ 3 _ rfl
 have hAS:AlS W w.heap.size E S:=⟨fun y hy=>⟨by have:=(hS y hy).1;omega,by have:=(hS y hy).1;omega,(hS y hy).2⟩,fun y hy=>⟨by have:=hE y hy;omega,by have:=hE y hy;omega⟩,by omega⟩
 have hAB:zkl W w.heap.size E lf c0 (w.heap.size+1) (w.heap.size+3):=⟨by rw[h3,hDV],h1,⟨by omega,by omega,fun h=>by have:=hE _ h;omega⟩,⟨by omega,by omega,fun h=>by have:=hE _ h;omega⟩⟩
 have hAH:AlH W w.heap.size (fun _=>False) W:=⟨rfl,rfl,rfl,NlrQ _,fun _ _ _ _=>rfl⟩
 have hkW:zk W S t.kids ka:=hk.kept (w':=W) (S':=S) fun y hy=>⟨hy,hb.block y (hS y hy).1⟩
 obtain⟨b0,b1,b2,b3⟩:=zH h0
 have hAN:AlN W w.heap.size E S t W [] t w.heap.size 0:=⟨rfl,b0,b1,b2,⟨ka,tc,by rw[←hnk];exact b3,hcap,hkW,fun e=>by
  rw[e] at hkW
  cases hkk:t.kids with
  | nil=>rfl
  | node _ _ _ _ _=>rw[hkk] at hkW;obtain⟨_,_,_,_,e2,_⟩:=hkW;cases e2⟩,fun j=>forQ _ _ j _ _ h0,Or.inl rfl,by omega,fun X' S' u' _ _ _ hn=>hn⟩
 have hc:=zcE hAS hsub (hC W hb hs) (w.heap.size+1) (w.heap.size+3) hAB hsz (n+1) W [] p t w.heap.size 0 pa n pc (Nat.lt_succ_self _) hn hnb hAH hAN hsz (hp.kept fun y hy=>⟨⟨by omega,by omega,hy.2⟩,hb.block y hy.1⟩) hat
 rw[List.nil_append] at hc
 have HC:=Lib.hid (aN hc (aN hb (aN hs (aN hW h2))))
 have HDV:=Lib.hid hDV
 have HQ:=Lib.hid (aN hRR (aN hE hSS))
 clear hc hb hs hW h0 h1 h2 h3 hAS hAB hAH hAN hkW b0 b1 b2 b3 hp hn hDV hS hSS hsub hE hk hcap hC hRR hat hsz hnb hnk
 go_enter Try.func91,Try.ntmps91
 go_wp2_with fail
 have hWW:=HC.out.2.2.2.1
 rw[HDV.out] at hWW
 change Calls _ _ _ (zx w [.cells #[.int .i64 t.id,.int .i64 t.kind,.string t.text,.slice ka nk tc] 27,.cells #[.func (.func lf) #[] #[c0]] 139,.cells #[.int .i64 0,.int .i64 0,.string ⟨#[]⟩,.slice none 0 0] 27,.cells #[Value.func (.func 113) #[] #[.pointer (some ⟨w.heap.size+1,0,none⟩),.pointer (some ⟨w.heap.size+1+1+1,0,none⟩)]] 171]) _
 exact sb0
end Go.Proofs.Ytnikgofkldkdkaa
namespace Go.Proofs.Ytnikgofkldkdkaa
open Go.RowKit
def zgV (w:World)(S:Nat→Prop)(t:Tr)(id:Int)(e:Ending)(w' :World):Prop:=
 ∃v,e= .returned (.tuple #[v,.bool (qX id (spF 1 (zh t))).isSome])∧zK w' S v (((qX id (spF 1 (zh t))).map zdC).getD ziC)∧Below w.heap.size w w'
theorem zge (w:World)(S:Nat→Prop)(v:Value)(t:Tr)(id:Int)(hsz:za t.kids+1≤2000)(hS:∀k,S k→k<w.heap.size)(hv:zK w S v t):
 Calls Try.prog 19 #[v,.int .i64 id] w (zgV w S t id):=by
 obtain⟨ka,cap,rfl,hcp,hk⟩:=hv
 obtain⟨len,hl⟩:∃len,len=foLen t.kids:=⟨_,rfl⟩
 rw[←hl]
 have HH:=hH (aN hl (aN hcp (aN hk (aN hS hsz))))
 clear hl hcp hk hS hsz
 obtain⟨o1,ho1⟩:∃o1,o1=Obj.cells #[.int .i64 t.id,.int .i64 t.kind,.string t.text,.slice ka len cap] 27 (0,0):=⟨_,rfl⟩
 obtain⟨o2,ho2⟩:∃o2,o2=Obj.cells #[.int .i64 0,.int .i64 0,.string ⟨#[]⟩,.slice none 0 0] 27 (0,0):=⟨_,rfl⟩
 have hb:Below w.heap.size w ((w.alloc o1).alloc o2):=((BrQ _ w).alloc (NlrQ _) _).alloc sp1 _
 have hz:((w.alloc o1).alloc o2).heap[w.heap.size+1]? =some o2:=by have:=hanQ (w.alloc o1) o2;rw[WsaQ] at this;exact this
 have hc:=Yk 2000 om ((w.alloc o1).alloc o2) S (.agg #[.int .i64 t.id,.int .i64 t.kind,.string t.text,.slice ka len cap]) t HH.out.2.2.2.2 (by have:=HH.out.2.2.2.2;omega) (fun k hk=>nL (HH.out.2.2.2.1 k hk) hb.size) ⟨ka,cap,by rw[HH.out.1],HH.out.2.1,HH.out.2.2.1.below hb HH.out.2.2.2.1⟩
 rw[ho1,ho2] at hc hb hz
 have HC:=hH (aN hc (aN hb hz))
 clear hc hb hz ho1 ho2 o1 o2
 go_enter Try.func19,Try.ntmps19
 go_wp2_with fail
 refine HC.out.1.mono ?_
 rintro e w2 ⟨a,cap',rfl,⟨hTl,xs,ho,hx⟩,hb2⟩
 have hB:Below w.heap.size w w2:=HC.out.2.1.trans (hb2.mono HC.out.2.1.size)
 have hz2:=(hb2.block _ (lohQ HC.out.2.2)).trans HC.out.2.2
 have z0:w2.cell? ⟨w.heap.size+1,0,none⟩=some (.int .i64 0):=by rw[corQ _ _ 0 _ _ _ hz2];rfl
 have z1:w2.cell? ⟨w.heap.size+1,1,none⟩=some (.int .i64 0):=by rw[corQ _ _ 1 _ _ _ hz2];rfl
 have z2:w2.cell? ⟨w.heap.size+1,2,none⟩=some (.string ⟨#[]⟩):=by rw[corQ _ _ 2 _ _ _ hz2];rfl
 have z3:w2.cell? ⟨w.heap.size+1,3,none⟩=some (.slice none 0 0):=by rw[corQ _ _ 3 _ _ _ hz2];rfl
 have zf:∀j,w2.frozen? ⟨w.heap.size+1,j,none⟩=false:=fun j=>forQ _ _ j _ _ hz2
 obtain⟨q,hq⟩:∃q,q=za t.kids+1:=⟨_,rfl⟩
 rw[←hq] at ho hTl ⊢
 have hq5:q≤2000:=by rw[hq];exact HH.out.2.2.2.2
 have HO:=hH (aN ho (aN hx (aN hTl (aN hB hz2))))
 clear hb2 ho hx hTl HC hq hB hz2
 have hend:∀(x:Tr) (kb:Option Addr) (kc m:Nat) (b:Bool),m=foLen x.kids→foLen x.kids≤kc→zk w2 S x.kids kb→(qX id (spF 1 (zh t))).isSome=b→(((qX id (spF 1 (zh t))).map zdC).getD ziC)=x→∀tmps:Array Value,tmps.getD 4 undef= .pointer (some ⟨w.heap.size+1,0,none⟩)→tmps.getD 5 undef= .bool b→
  bodyPost Try.prog Try.f19 (zgV w S t id) .ret { tmps,defers:=[] } ((((w2.setCell ⟨w.heap.size+1,0,none⟩ (.int .i64 x.id)).setCell ⟨w.heap.size+1,1,none⟩ (.int .i64 x.kind)).setCell ⟨w.heap.size+1,2,none⟩ (.string x.text)).setCell ⟨w.heap.size+1,3,none⟩ (.slice kb m kc)):=by
  intro x kb kc m b hm hc hf hs hx tmps t4 t5
  subst hm
  obtain⟨V5,e5,r1,r2,r3,r4,r5,r6⟩:=zu (u0:= .int .i64 x.id) (u1:= .int .i64 x.kind) (u2:= .string x.text) (u3:= .slice kb (foLen x.kids) kc) HO.out.2.2.2.2
  rw[←e5]
  have hB:=HO.out.2.2.2.1
  refine brQ (yO rfl tmps V5 (w.heap.size+1) 27 _ _ _ (.bool b) t4 r1 Try.underlying27 rfl kr1 t5) rfl ?_
  refine⟨_,by rw[hs],?_,r3.trans hB.os,r4.trans hB.tape,r5.trans hB.output,by rw[r6];exact hB.size,fun k hk=>(r2 k om).trans (hB.block k hk)⟩
  rw[hx]
  exact⟨kb,kc,rfl,hc,hf.kept fun k hk=>⟨hk,r2 k (by have:=HH.out.2.2.2.1 k hk;omega)⟩⟩
 have HEND:=hH hend
 clear hend
 go_wp2_with fail
 go_loop [7] (fun i=>∃k:Nat,k≤q∧i= .int .i64 (k:Int)∧Hid (∀x∈(spF 1 (zh t)).take k,x.2.1.1≠id)) (fun i=>q - (intOf i).toNat)
 case atStart=>exact⟨0,NzlQ _,rfl,hH sp1⟩
 case round=>
  obtain⟨k,hk,rfl,hnone⟩:=hrel
  by_cases hlt:k<q
  · obtain⟨x,hx⟩:∃x,(spF 1 (zh t))[k]? =some x:=⟨_,List.getElem?_eq_getElem (by have:=HO.out.2.2.1;rw[this];exact hlt)⟩
    obtain⟨s0,s1,s2,⟨kb,kc,s3,hkc,hkb⟩,_⟩:=HO.out.2.1 k x hx
    have ho:=HO.out.1
    have hgg:∃g,a=some ⟨g,0,none⟩:=by
     exact se0
    obtain⟨g,rfl⟩:=hgg
    have c0:w2.cell? ⟨g,k*5,none⟩=some (.int .i64 x.2.1.1):=zC ho rfl _ _ s0
    have c1:w2.cell? ⟨g,k*5+1,none⟩=some (.int .i64 x.2.1.2.1):=zC ho rfl _ _ s1
    have c2:w2.cell? ⟨g,k*5+2,none⟩=some (.string x.2.1.2.2):=zC ho rfl _ _ s2
    have c3:w2.cell? ⟨g,k*5+3,none⟩=some (.slice kb (foLen x.2.2) kc):=zC ho rfl _ _ s3
    obtain⟨d,⟨xi,xk,xt⟩,xf⟩:=x
    simp only at c0 c1 c2 c3 hkc hkb
    obtain⟨m,hm⟩:∃m,m=foLen xf:=⟨_,rfl⟩
    rw[←hm] at c3
    have HM:=hH (aN hm (aN hkc (aN hkb hx)))
    have HLT:=hH hlt
    have hkl:(k:Int)<(q:Int):=by omega
    clear ho s0 s1 s2 s3 hm hkc hkb hx hlt hk
    by_cases heq:xi=id
    · have hbq:(xi == id)=true:=by simpa using heq
      have HQ:=hH heq
      clear heq
      go_wp2_with fail
      have hs:qX id (spF 1 (zh t))=some (d,(xi,xk,xt),xf):=by
       have h1:spF 1 (zh t)=(spF 1 (zh t)).take k++(d,(xi,xk,xt),xf)::(spF 1 (zh t)).drop (k+1):=by
        have h2:=HM.out.2.2.2
        obtain⟨hl,he⟩:=List.getElem?_eq_some_iff.1 h2
        rw[←he,List.getElem_cons_drop,List.take_append_drop]
       rw[h1];exact J7 hnone.out HQ.out
      exact HEND.out ⟨xi,xk,xt,xf⟩ kb kc m true HM.out.1 HM.out.2.1 HM.out.2.2.1 (by rw[hs];rfl) (by rw[hs];rfl) _ rfl rfl
    · have hbq:(xi == id)=false:=by simpa using heq
      have HQ:=hH heq
      clear heq
      go_wp2_with fail
      exact⟨⟨k+1,by have:=HLT.out;omega,by go_num,hH (fun y hy=>by
       rw[List.take_add_one,HM.out.2.2.2] at hy
       rcases List.mem_append.1 hy with hy | hy
       · exact hnone.out y hy
       · simp at hy;rw[hy];exact HQ.out)⟩,by have:=HLT.out;simp[intOf];omega⟩
  · have hkq:k=q:=by omega
    have HKQ:=hH hkq
    have hkl:¬(k:Int)<(q:Int):=by omega
    clear hkq hk
    go_wp2_with fail
    have hs:qX id (spF 1 (zh t))=none:=J6 (by
     have:=hnone.out
     rwa [List.take_of_length_le (by rw[HO.out.2.2.1,HKQ.out];exact NlrQ _)] at this)
    exact HEND.out ziC none 0 0 false rfl (NlrQ _) True.intro (by rw[hs];rfl) (by rw[hs];rfl) _ rfl rfl
def zkq (id:Int)(t:Tr)(S:Nat→Prop)(w:World)(e:Ending)(w' :World):Prop:=∃(z:Tr) (va:Option Addr) (vc:Nat) (b:Bool),e= .returned (.tuple #[.agg #[.int .i64 z.id,.int .i64 z.kind,.string z.text,.slice va (foLen z.kids) vc],.bool b])∧foLen z.kids≤vc∧zk w' S z.kids va∧Below w.heap.size w w'∧(b=true→∃p,zw id t=some p∧atT t p=some z)∧(b=false→zw id t=none)
theorem vJ (w:World)(S:Nat→Prop)(v:Value)(t:Tr)(id:Int)(hsz:za t.kids+1≤2000)(hS:∀k,S k→k<w.heap.size)(hv:zK w S v t):
 Calls Try.prog 19 #[v,.int .i64 id] w (zkq id t S w):=by
 refine (zge w S v t id hsz hS hv).mono ?_
 rintro e w' ⟨v,rfl,⟨va,vc,rfl,h1,h2⟩,hb⟩
 refine⟨_,va,vc,_,rfl,h1,h2,hb,fun h=>?_,fun h=>?_⟩
 · have hs:=zbh id t
   rw[h] at hs
   obtain⟨p,hp⟩:=Option.isSome_iff_exists.1 hs.symm
   have hf:=zbg id t
   rw[hp,Option.bind_some] at hf
   obtain⟨z,hz,_⟩:=zaF id t p hp
   refine⟨p,hp,?_⟩
   rw[hf,hz];rfl
 · have hs:=zbh id t
   rw[h] at hs
   exact Option.isNone_iff_eq_none.1 (by cases hx:zw id t with | none=>rfl | some p=>rw[hx] at hs;cases hs)
end Go.Proofs.Ytnikgofkldkdkaa
