/-
  .
-/
import Derived.Test.YtnikgofkldkdkaaKRemoveQt
import Derived.Test.YtnikgofkldkdkaaNPreQt
set_option maxRecDepth 100000
set_option maxHeartbeats 40000000
set_option linter.unusedVariables false
set_option linter.unusedSimpArgs false
namespace Go.Proofs.Ytnikgofkldkdkaa
open Go.RowKit Go.Shelf
def cntF (a:Int):Fo→Nat
 | .nil=>0
 | .node _ _ k l r=>(if k.1=a then 1 else 0)+cntF a l+cntF a r
def qp (a:Int)(t:Tr):Nat:=(if t.id=a then 1 else 0)+cntF a t.kids
theorem jo (a:Int):∀f:Fo,a∈jK f↔0<cntF a f
 | .nil=>by simp[jK,spF,cntF]
 | .node b o k l r=>by
   rw[y8,List.mem_cons,List.mem_append,jo a l,jo a r,cntF]
   by_cases h:k.1=a
   · rw[ipQ h];constructor
     · intro _;omega
     · intro _;exact Or.inl h.symm
   · rw [inQ h];constructor
     · rintro (h1 | h1 | h1)
       · exact absurd h1.symm h
       · omega
       · omega
     · intro h1;right;omega
theorem QJ :∀f:Fo,(jK f).Nodup↔∀a,cntF a f≤1
 | .nil=>by simp[jK,spF,cntF]
 | .node b o k l r=>by
   rw[y8,List.nodup_cons,List.nodup_append,List.mem_append,jo,jo,QJ l,QJ r]
   constructor
   · rintro ⟨h1,h2,h3,h4⟩ a
     rw[cntF]
     have h2a:=h2 a
     have h3a:=h3 a
     by_cases h:k.1=a
     · subst h;rw[ipQ rfl];omega
     · rw [inQ h]
       by_cases hl:0<cntF a l
       · by_cases hr:0<cntF a r
         · exact absurd rfl (h4 a ((jo a l).2 hl) a ((jo a r).2 hr))
         · omega
       · omega
   · intro h
     refine⟨?_,fun a=>?_,fun a=>?_,?_⟩
     · have:=h k.1
       rw[cntF,ipQ rfl] at this
       omega
     · have:=h a;rw[cntF] at this;omega
     · have:=h a;rw[cntF] at this;omega
     · rintro a ha b hb rfl
       have:=h a
       rw[cntF] at this
       have h1:=(jo a l).1 ha
       have h2:=(jo a r).1 hb
       omega
theorem Qe (a:Int)(t:Tr):cntF a (zh t)=qp a t:=by simp[zh,cntF,qp]
theorem Qf (t:Tr):qR t↔∀a,qp a t≤1:=by
 rw[qR,QJ]
 exact⟨fun h a=>by rw[←Qe];exact h a,fun h a=>by rw[Qe];exact h a⟩
theorem zbS (a:Int):∀(f:Fo) (i:Nat) (u:Tr),zB f i=some u→cntF a (yA f i)+qp a u=cntF a f
 | .nil,i,u,h=>by cases i<;>simp[zB,zm,qA] at h
 | .node b o k l r,0,u,h=>by
   simp only[zB,zm,qA] at h
   cases h
   simp only[yA,cntF,qp];omega
 | .node b o k l r,i+1,u,h=>by
   have:=zbS a r i u ud9
   simp only[yA,cntF];omega
theorem zeX (a:Int):∀(f:Fo) (i:Nat) (u v:Tr),zB f i=some u→cntF a (vv f i v)+qp a u=cntF a f+qp a v
 | .nil,i,_,_,h=>by cases i<;>simp[zB,zm,qA] at h
 | .node _ _ k l r,0,u,v,h=>by
   simp only[zB,zm,qA] at h
   cases h
   simp only[vv,cntF,qp];omega
 | .node _ _ k l r,i+1,u,v,h=>by
   have:=zeX a r i u v ud9
   simp only[vv,cntF];omega
theorem zeW (a:Int):∀(p:List Nat) (t u x:Tr),atT t p=some u→qp a (zP t p x)+qp a u=qp a t+qp a x
 | [],t,u,x,h=>by cases h;simp only[zP];omega
 | i ::p,t,u,x,h=>by
   simp only[atT] at h
   simp only[zP]
   cases hk:zB t.kids i with
   | none=>rw[hk] at h;cases h
   | some v=>
     rw[hk] at h
     have h1:=zeW a p v u x h
     have h2:=zeX a t.kids i v (zP v p x) hk
     simp only[qp] at h1 h2 ⊢
     omega
theorem ziO (a:Int){f:Fo}{i:Nat}{u:Tr}(h:zB f i=some u):qp a u≤cntF a f:=by
 have:=zbS a f i u h;omega
theorem zbR (a:Int):∀(p:List Nat) (t u:Tr),atT t p=some u→qp a u≤qp a t
 | [],t,u,h=>by cases h;omega
 | i ::p,t,u,h=>by
   simp only[atT] at h
   cases hk:zB t.kids i with
   | none=>rw[hk] at h;cases h
   | some v=>
     rw[hk] at h
     have h1:=zbR a p v u h
     have h2:=ziO a hk
     simp only[qp] at h1 h2 ⊢
     omega
theorem Jv (a:Int):∀(f:Fo) (i:Nat),fpi a i f=none↔cntF a f=0
 | .nil,i=>by simp[fpi,cntF]
 | .node b o k l r,i=>by
   rw[fpi,cntF]
   by_cases h:k.1=a
   · rw[ipQ h,ipQ h];simp
   · rw [inQ h,inQ h]
     cases hl:fpi a 0 l with
     | some p=>
       have:=mt (Jv a l 0).2 (by rw[hl];simp)
       simp only;constructor
       · intro h;cases h
       · intro h;omega
     | none=>
       have h1:=(Jv a l 0).1 hl
       simp only
       rw[Jv a r (i+1)];omega
theorem Qt (a:Int)(t:Tr):zw a t=none↔qp a t=0:=by
 rw[zw,qp]
 by_cases h:t.id=a
 · rw[ipQ h,ipQ h];simp
 · rw[inQ h,inQ h,Jv];omega
theorem zgb {a:Int}{t:Tr}(h:0<qp a t):∃p,zw a t=some p:=by
 cases hp:zw a t with
 | none=>have:=(Qt a t).1 hp;omega
 | some p=>exact⟨p,rfl⟩
theorem JZ (t:Tr):0<qp t.id t:=by rw[qp,ipQ rfl];omega
theorem zaI:∀(p:List Nat) (t u x:Tr),atT t p=some u→atT (zP t p x) p=some x
 | [],t,u,x,h=>rfl
 | i ::p,t,u,x,h=>by
   simp only[atT] at h
   simp only[zP]
   cases hk:zB t.kids i with
   | none=>rw[hk] at h;cases h
   | some v=>
     rw[hk] at h
     simp only[atT,zaq _ i _ (qd hk)]
     exact zaI p v u x h
theorem Qv:∀(p:List Nat) (t u x y:Tr),atT t p=some u→zP (zP t p x) p y=zP t p y
 | [],t,u,x,y,h=>rfl
 | i ::p,t,u,x,y,h=>by
   simp only[atT] at h
   cases hk:zB t.kids i with
   | none=>rw[hk] at h;cases h
   | some v=>
     rw[hk] at h
     simp only[zP,hk,zaq _ i _ (qd hk),zdu]
     rw[Qv p v u x y h]
theorem zfo:∀(f:Fo) (i:Nat) (u:Tr),zB f i=some u→vv f i u=f
 | .nil,i,_,h=>by cases i<;>simp[zB,zm,qA] at h
 | .node _ _ k l r,0,u,h=>by
   simp only[zB,zm,qA] at h
   cases h;rfl
 | .node _ _ k l r,i+1,u,h=>by
   simp only[vv];rw[zfo r i u ud9]
theorem zch:∀(p:List Nat) (t u:Tr),atT t p=some u→zP t p u=t
 | [],t,u,h=>by cases h;rfl
 | i ::p,t,u,h=>by
   simp only[atT] at h
   cases hk:zB t.kids i with
   | none=>rw[hk] at h;cases h
   | some v=>
     rw[hk] at h
     simp only[zP,hk]
     rw[zch p v u h,zfo _ _ _ hk]
theorem Y7 {p:List Nat}{t u v:Tr}{i:Nat}(h:atT t p=some u)(hv:zB u.kids i=some v):atT t (p++[i])=some v:=by
 rw[vI,h]
 simp only[Option.bind_some,atT,hv]
theorem zax {id par at_:Int}{t x:Tr}(h:yI id par at_ t=(x,0)):
 ∃p i u v q z,zw id t=some (p++[i])∧atT t p=some u∧zB u.kids i=some v∧v.id=id∧zw par (zP t p ⟨u.id,u.kind,u.text,yA u.kids i⟩)=some q∧atT (zP t p ⟨u.id,u.kind,u.text,yA u.kids i⟩) q=some z∧0≤at_∧at_≤(foLen z.kids:Int)∧x=zP (zP t p ⟨u.id,u.kind,u.text,yA u.kids i⟩) q ⟨z.id,z.kind,z.text,yR z.kids at_.toNat v⟩:=by
 cases hi:zw id t with
 | none=>rw[Qp hi] at h;cases h
 | some p0 =>
   cases hp:zw par t with
   | none=>rw[QU hp] at h;cases h
   | some q0 =>
     by_cases h0:p0= []
     · subst h0;rw[YJ hi hp] at h;cases h
     · cases hw:vz id par t with
       | true=>rw[YI hi hp h0 hw] at h;cases h
       | false =>
         obtain⟨p,i,rfl⟩:∃p i,p0=p++[i]:=⟨p0.dropLast,p0.getLast h0,(List.dropLast_concat_getLast h0).symm⟩
         obtain⟨v,hv0,hvid⟩:=qE id t _ hi
         obtain⟨u,hu,hv⟩:=kQ p i t v hv0
         rw[Qo hi hp hw hu hv] at h
         cases hq:zw par (zP t p ⟨u.id,u.kind,u.text,yA u.kids i⟩) with
         | none=>rw[jN hq] at h;cases h
         | some q=>
           obtain⟨z,hz,_⟩:=qE _ _ _ hq
           rw[vo hq hz] at h
           by_cases hc:0≤at_∧at_≤(foLen z.kids:Int)
           · rw[ipQ hc] at h
             exact⟨p,i,u,v,q,z,rfl,hu,hv,hvid,hq,hz,hc.1,hc.2,(Prod.mk.inj h).1.symm⟩
           · rw[inQ hc] at h
             exact absurd (Prod.mk.inj h).2 ue9
end Go.Proofs.Ytnikgofkldkdkaa
namespace Go.Proofs.Ytnikgofkldkdkaa
open Go.RowKit Go.Shelf
open Go.Maps
attribute [local go_sem] Oper.semAt_some
def ZI (w:World)(b n:Nat)(ids:List Int):Prop:=w.ownsMap Try.prog 3 (unitElem (H:=Value)) b n (setOf (.agg []) (ids.map (Lit.int .i64 ·)))
theorem ZI.at {w w' :World}{b n:Nat}{ids:List Int}(h:ZI w b n ids)(e:w'.heap[b]? =w.heap[b]?):ZI w' b n ids:=by
 obtain⟨es,clock,hb,h⟩:=h
 exact⟨es,clock,e.trans hb,h⟩
theorem zcX:Keyed Try.prog 3:=int_keyed Try.underlying3
theorem zjF (w:World):(zeroValue 114).run Try.prog w= .ok (.agg #[]) w:=by kernel_rfl
theorem zds {a b:Int}:(Lit.int .i64 a).sameKey (.int .i64 b)=(a == b):=by
 by_cases h:a=b
 · subst h;simp[Lit.sameKey]
 · rw[sameKey_ne ue3];simp[h]
theorem ze7 (ids:List Int)(i:Int):Maps.has (setOf (.agg []:DataW Value) (ids.map (Lit.int .i64 ·))) (.int .i64 i)=ids.any (· == i):=by
 rw[has_setOf]
 · rw[List.any_map];congr 1;funext a;exact zds
 · intro x hx
   obtain⟨a,_,rfl⟩:=List.mem_map.1 hx
   trivial
def atB (g:Gr)(ids:List Int)(d:Nat)(x:Tr):Bool:=decide (32<d) || (decide (x.id<1) || decide (1125899906842624<x.id)) || ids.any (· == x.id) || !kU g x
end Go.Proofs.Ytnikgofkldkdkaa
namespace Go.Proofs.Ytnikgofkldkdkaa
open Go.RowKit
theorem Z5 {S:Nat→Prop}{w:World}{B n:Nat}{a:Option Addr}{cap:Nat}{T:List Sp}(h:qH S w B (.slice a n cap) n T){k:Nat}{x:Sp}(hx:T[k]? =some x):∃g,a=some ⟨g,0,none⟩∧g<w.heap.size∧w.cell? ⟨g,k*5,none⟩=some (.int .i64 x.2.1.1)∧w.cell? ⟨g,k*5+1,none⟩=some (.int .i64 x.2.1.2.1)∧w.cell? ⟨g,k*5+2,none⟩=some (.string x.2.1.2.2)∧(∃ka c,w.cell? ⟨g,k*5+3,none⟩=some (.slice ka (foLen x.2.2) c)∧foLen x.2.2≤c∧zk w S x.2.2 ka)∧w.cell? ⟨g,k*5+4,none⟩=some (.int .i64 (x.1:Int)):=by
 obtain⟨hT,xs,ho,hxs⟩:=h
 have hk:=(List.getElem?_eq_some_iff.1 hx).1
 have hgg:∃g,a=some ⟨g,0,none⟩:=by
  exact se0
 obtain⟨g,rfl⟩:=hgg
 obtain⟨p0,p1,p2,⟨ka,c,p3,q1,q2⟩,p4⟩:=hxs k x hx
 exact⟨g,rfl,(zi ho rfl).2,zC ho rfl _ _ p0,zC ho rfl _ _ p1,zC ho rfl _ _ p2,⟨ka,c,zC ho rfl _ _ p3,q1,q2⟩,zC ho rfl _ _ p4⟩
end Go.Proofs.Ytnikgofkldkdkaa
namespace Go.Proofs.Ytnikgofkldkdkaa
open Go.RowKit Go.Shelf
open Go.Maps
def zb6 (L:List (Int×Value)):DataW Value:=L.foldl (fun D p=>D.put (.int .i64 p.1) (.held p.2)) (.map [])
theorem QT (L:List (Int×Value))(p:Int×Value):zb6 (L++[p])=(zb6 L).put (.int .i64 p.1) (.held p.2):=by simp[zb6,List.foldl_append]
theorem zit (p:Int×Value){D:DataW Value}(h:Tidy D):Tidy (D.put (.int .i64 p.1) (.held p.2)):=h.put (show WideAt.IsKeyLit (Lit.int .i64 p.1) by trivial) _
theorem zbp (L:List (Int×Value)):Tidy (zb6 L):=by
 have key:∀(L:List (Int×Value)) (D:DataW Value),Tidy D→Tidy (L.foldl (fun D p=>D.put (.int .i64 p.1) (.held p.2)) D):=by
  intro L
  induction L with
  | nil=>intro D h;exact h
  | cons p L ih=>intro D h;exact ih _ (zit p h)
 exact key L _ tidy_empty
def ZF (i:Int):List (Int×Value)→Option Value
 | []=>none
 | p ::r=>match ZF i r with
   | some v=>some v
   | none=>if p.1=i then some p.2 else none
theorem Zm (i:Int):∀(L:List (Int×Value)) (p:Int×Value),ZF i (L++[p])=if p.1=i then some p.2 else ZF i L
 | [],p=>by simp only[List.nil_append,ZF]
 | q ::L,p=>by
   rw[List.cons_append,ZF,Zm i L p]
   by_cases h:p.1=i
   · rw[ipQ h,ipQ h]
   · rw[inQ h,inQ h,ZF]
theorem zhM {a b:Int}(h:a≠b):(Lit.int .i64 a)≠(Lit.int .i64 b):=fun e=>by cases e;exact h rfl
theorem zff (i:Int)(z:DataW Value)(L:List (Int×Value)):(zb6 L).atKey (.int .i64 i) z=match ZF i L with | some v=> .held v | none=>z:=by
 have key:∀(n:Nat) (L:List (Int×Value)),L.length=n→(zb6 L).atKey (.int .i64 i) z=match ZF i L with | some v=> .held v | none=>z:=by
  intro n
  induction n with
  | zero=>
    intro L h
    rw[List.length_eq_zero_iff.1 h]
    rfl
  | succ n ih=>
    intro L h
    have hne:L≠[]:=fun e=>by rw[e] at h;cases h
    obtain⟨L',p,rfl⟩:∃L' p,L=L'++[p]:=⟨L.dropLast,L.getLast hne,(List.dropLast_concat_getLast hne).symm⟩
    rw[QT,Zm]
    by_cases hp:p.1=i
    · rw[ipQ hp,hp,atKey_put_same (zbp L').isMap (show WideAt.IsKeyLit (Lit.int .i64 i) by trivial)]
    · rw[inQ hp,atKey_put_other (zhM (fun e=>hp e.symm)),ih L' (by simp at h;exact h)]
 exact key _ L rfl
theorem zhU (i:Int)(L:List (Int×Value)):Maps.has (zb6 L) (.int .i64 i)=(ZF i L).isSome:=by
 have key:∀(n:Nat) (L:List (Int×Value)),L.length=n→Maps.has (zb6 L) (.int .i64 i)=(ZF i L).isSome:=by
  intro n
  induction n with
  | zero=>
    intro L h
    rw[List.length_eq_zero_iff.1 h]
    rfl
  | succ n ih=>
    intro L h
    have hne:L≠[]:=fun e=>by rw[e] at h;cases h
    obtain⟨L',p,rfl⟩:∃L' p,L=L'++[p]:=⟨L.dropLast,L.getLast hne,(List.dropLast_concat_getLast hne).symm⟩
    rw[QT,Zm]
    by_cases hp:p.1=i
    · rw[ipQ hp,hp,has_put_same (zbp L').isMap (show WideAt.IsKeyLit (Lit.int .i64 i) by trivial)];rfl
    · rw[inQ hp,has_put_other (zhM (fun e=>hp e.symm)),ih L' (by simp at h;exact h)]
 exact key _ L rfl
end Go.Proofs.Ytnikgofkldkdkaa
namespace Go.Proofs.Ytnikgofkldkdkaa
open Go.RowKit Go.Shelf
theorem zbN:∀(f:Fo) (d k:Nat) (r:List Nat) (u v:Tr),zB f k=some u→atT u r=some v→∃x∈spF d f,Yo x=v
 | .nil,_,k,_,_,_,h,_=>by cases k<;>simp[zB,zm,qA] at h
 | .node b o key l q,d,0,r,u,v,h,hv=>by
   have hu:u=⟨key.1,key.2.1,key.2.2,l⟩:=by simp only[zB,zm,qA] at h;cases h;rfl
   subst hu
   cases r with
   | nil=>cases hv;exact⟨(d,key,l),by simp[spF],rfl⟩
   | cons i r=>
     simp only[atT] at hv
     cases hk:zB l i with
     | none=>rw[hk] at hv;cases hv
     | some w=>
       rw[hk] at hv
       obtain⟨x,h1,h2⟩:=zbN l (d+1) i r w v hk hv
       exact⟨x,by simp[spF,h1],h2⟩
 | .node b o key l q,d,k+1,r,u,v,h,hv=>by
   obtain⟨x,h1,h2⟩:=zbN q d k r u v ud9 hv
   exact⟨x,by simp[spF,h1],h2⟩
theorem zgc {t u:Tr}{p:List Nat}(h:atT t p=some u):∃x∈spF 1 (zh t),Yo x=u:=
 zbN (zh t) 1 0 p t u rfl h
end Go.Proofs.Ytnikgofkldkdkaa
namespace Go.Proofs.Ytnikgofkldkdkaa
open Go.RowKit Go.Shelf
open Go.Maps
attribute [local go_sem] Oper.semAt_some
def kw (g:Gr):List Int→Nat→List Sp→Option Nat
 | _,_,[]=>none
 | ids,i,x::r=>if atB g ids x.1 (Yo x)=true then some i else kw g (ids++[x.2.1.1]) (i+1) r
def zU (l:List Sp):List Int:=l.map fun x=>x.2.1.1
theorem QG (g:Gr):∀(pre:List Sp) (ids:List Int) (i:Nat) (r:List Sp),kw g ids i pre=none→kw g ids i (pre++r)=kw g (ids++zU pre) (i+pre.length) r
 | [],ids,i,r,_=>by simp[zU]
 | x ::p,ids,i,r,h=>by
   unfold kw at h
   split at h
   · cases h
   · rename_i hx
     rw[List.cons_append]
     conv=>lhs;unfold kw
     rw[inQ hx,QG g p _ _ r h]
     simp only[zU,List.map_cons,List.append_assoc,List.cons_append,List.nil_append,LlcQ]
     rw[show i+1+p.length=i+(p.length+1) by omega]
def QM (g:Gr)(l:List Sp):Int×Int:=match kw g [] 0 l with | some i=>((i:Int),70) | none=>(0,0)
def zg1 (p:Int×Int)(w:World)(e:Ending)(w' :World):Prop:=e= .returned (.tuple #[.int .i64 p.1,.int .i64 p.2])∧Below w.heap.size w w'
def okF (l:List Sp):Prop:=∀x∈l,(x.2.1.2.2.size:Int)≤9223372036854775807∧(Lit.int .i64 x.2.1.1).wf=true
section
variable {P:Program} {H:Type} {n:Nat}
end
end Go.Proofs.Ytnikgofkldkdkaa
namespace Go.Proofs.Ytnikgofkldkdkaa
open Go.RowKit Go.Shelf
open Go.Maps
def zet (v:Value):Option (DataW Value×List MemPlace):=match v with
 | .pointer _=>some (.held v,[])
 | _=>none
theorem zdf {v:Value}{z:DataW Value×List MemPlace}(h:zet v=some z):z=(.held v,[]):=by
 unfold zet at h
 split at h
 · cases h;rfl
 · cases h
def zbb (w:World)(b n:Nat)(L:List (Int×Value)):Prop:=w.ownsMap Try.prog 3 zet b n (zb6 L)
theorem zbb.at {w w' :World}{b n:Nat}{L:List (Int×Value)}(h:zbb w b n L)(e:w'.heap[b]? =w.heap[b]?):zbb w' b n L:=by
 obtain⟨es,clock,hb,h⟩:=h
 exact⟨es,clock,e.trans hb,h⟩
def zh7 (o:Option (Nat×Nat)):Value:= .pointer (o.map fun a=>⟨a.1,a.2,none⟩)
def zV (w:World)(m n:Nat)(L:List (Int×(Nat×Nat))):Prop:=∃M,zbb w m n M∧∀i,ZF i M=(zR i L).map fun a=>Value.pointer (some ⟨a.1,a.2,none⟩)
theorem zV.at {w w' :World}{m n:Nat}{L:List (Int×(Nat×Nat))}(h:zV w m n L)(e:w'.heap[m]? =w.heap[m]?):zV w' m n L:=by
 obtain⟨M,h1,h2⟩:=h
 exact⟨M,h1.at e,h2⟩
theorem zV.lt {w:World}{m n:Nat}{L:List (Int×(Nat×Nat))}(h:zV w m n L):m<w.heap.size:=by
 obtain⟨M,h1,h2⟩:=h
 exact World.ownsMap.lt h1
theorem zbE (w:World):(zeroValue 96).run Try.prog w= .ok (.pointer none) w:=by kernel_rfl
theorem Qh {a b:Value}(h:(DataW.held a:DataW Value)= .held b):a=b:=by injection h
theorem look_ok {w:World}{m n:Nat}{L:List (Int×(Nat×Nat))}{i:Int}(h:zV w m n L)(hi:(Lit.int .i64 i).wf=true):(Instr.lookup 97 (.map (some m)) (.int .i64 i) true).run Try.prog w= .ok (.tuple #[zh7 (zR i L),.bool (zR i L).isSome]) w:=by
 obtain⟨M,h1,h2⟩:=h
 obtain⟨u,ps,hrun,hu⟩:=World.ownsMap.look_ok h1 zcX Try.underlying97 (zbE w) (show zet (.pointer none)=some (.held (.pointer none),[]) from rfl) (keyOf_int_mk (P:=Try.prog) Try.underlying3 hi)
 have e:=congrArg Prod.fst (zdf hu)
 rw[hrun,zhU,h2 i]
 rw[zff,h2 i] at e
 cases hf:zR i L with
 | none=>rw[hf] at e;rw[←Qh e];rfl
 | some a=>rw[hf] at e;rw[←Qh e];rfl
theorem zi4 {w:World}{m n:Nat}{L:List (Int×(Nat×Nat))}{i:Int}(h:zV w m n L)(hi:(Lit.int .i64 i).wf=true):(Instr.lookup 97 (.map (some m)) (.int .i64 i) false).run Try.prog w= .ok (zh7 (zR i L)) w:=by
 obtain⟨M,h1,h2⟩:=h
 obtain⟨u,ps,hrun,hu⟩:=World.ownsMap.lookup h1 zcX Try.underlying97 (zbE w) (show zet (.pointer none)=some (.held (.pointer none),[]) from rfl) (keyOf_int_mk (P:=Try.prog) Try.underlying3 hi)
 have e:=congrArg Prod.fst (zdf hu)
 rw[hrun]
 rw[zff,h2 i] at e
 cases hf:zR i L with
 | none=>rw[hf] at e;rw[←Qh e];rfl
 | some a=>rw[hf] at e;rw[←Qh e];rfl
theorem zV.made (w:World):zV (w.alloc (.map #[] 0)) w.heap.size 0 []:=⟨[],World.ownsMap_made w Try.prog 3 zet,fun i=>rfl⟩
theorem zV.skip {w:World}{m n:Nat}{L:List (Int×(Nat×Nat))}(h:zV w m n L){p:Int×(Nat×Nat)}(hp:(zR p.1 L).isSome=true):zV w m (n+1) (L++[p]):=by
 obtain⟨M,h1,h2⟩:=h
 refine⟨M,World.ownsMap.mono h1 om,fun i=>?_⟩
 rw[h2,vE]
 cases hf:zR i L with
 | some a=>rfl
 | none=>
   rw[Option.none_or,zR,zR]
   by_cases hi:p.1=i
   · rw[hi,hf] at hp;cases hp
   · rw[inQ hi]
theorem zV.put {w' :World}{m n:Nat}{L:List (Int×(Nat×Nat))}{M:List (Int×Value)}{p:Int×(Nat×Nat)}(h2:∀i,ZF i M=(zR i L).map fun a=>Value.pointer (some ⟨a.1,a.2,none⟩))(hp:zR p.1 L=none)(hn:zbb w' m (n+1) (M++[(p.1,.pointer (some ⟨p.2.1,p.2.2,none⟩))])):zV w' m (n+1) (L++[p]):=by
 refine⟨_,hn,fun i=>?_⟩
 rw[Zm,vE,zR,zR]
 by_cases hi:p.1=i
 · rw[ipQ hi,ipQ hi,←hi,hp];rfl
 · rw[inQ hi,inQ hi,h2 i,Option.or_none]
end Go.Proofs.Ytnikgofkldkdkaa
namespace Go.Proofs.Ytnikgofkldkdkaa
open Go.RowKit Go.Shelf
attribute [local go_sem] Oper.semAt_some
def Zb (g:Gr)(t:Tr):Int×Int:=if vg g=true then (if 200<za t.kids+1 then (0,70) else QM g (spF 1 (zh t))) else (0,50)
def jE (g:Gr)(t:Tr):Int×Int:=if vg g=true∧¬t.kind=g.root then (0,70) else Zb g t
end Go.Proofs.Ytnikgofkldkdkaa
