/-
  .
-/
import Derived.Test.YtgkmmnihaiopaaaGreatBlankQu
import Derived.Deep.Cut
import Derived.Laws.AppendOwnNone
import Derived.Test.YtgkmmnihaiopaaaGreatRKidsQu
import Derived.Test.YtgkmmnihaiopaaaGreatJPgQu
import Derived.Test.YtgkmmnihaiopaaaGreatJPsQu
set_option maxRecDepth 100000
set_option maxHeartbeats 40000000
set_option linter.unusedVariables false
set_option linter.unusedSimpArgs false
namespace Go.Proofs.YtgkmmnihaiopaaaGreat
open Go.RowKit Go.Shelf
def qA:Fo→Nat→Tr→Fo
 | f,0,u=> .node 0 0 (u.id,u.kind,u.text) u.kids f
 | .nil,_+1,_=> .nil
 | .node b o k l r,i+1,u=> .node b o k l (qA r i u)
def yo:Fo→Nat→Fo
 | .nil,_=> .nil
 | .node _ _ _ _ r,0=>r
 | .node b o k l r,i+1=> .node b o k l (yo r i)
theorem kD (f:Fo) (u:Tr):qA f 0 u= .node 0 0 (u.id,u.kind,u.text) u.kids f:=by cases f<;>rfl
theorem zaX (b o:Nat) (k:Int×Int×ByteArray) (l r:Fo):yo (.node b o k l r) 0=r:=rfl
theorem J6:∀(f:Fo) (i:Nat) (u:Tr),i≤foLen f→foLen (qA f i u)=foLen f+1
 | f,0,u,_=>by rw[kD];rfl
 | .nil,i+1,u,h=>by simp[foLen] at h
 | .node b o k l r,i+1,u,h=>by
   have:=J6 r i u (by simp[foLen] at h;omega)
   simp only[qA,foLen,this]
theorem JM:∀(f:Fo) (i:Nat),i<foLen f→foLen (yo f i)+1=foLen f
 | .nil,i,h=>by simp[foLen] at h
 | .node b o k l r,0,_=>rfl
 | .node b o k l r,i+1,h=>by
   have:=JM r i (by simp[foLen] at h;omega)
   simp only[yo,foLen];omega
theorem zia:∀(f:Fo) (i:Nat) (u:Tr),zB f i=some u→kN (qA (yo f i) i u) f=true∧foLen (qA (yo f i) i u)=foLen f
 | .nil,i,u,h=>by cases i<;>simp[zB,zq,yO] at h
 | .node b o k l r,0,u,h=>by
   simp only[zB,zq,yO] at h
   cases h
   rw[zaX,kD]
   exact⟨by simp[kN,QZ,jK],rfl⟩
 | .node b o k l r,i+1,u,h=>by
   obtain⟨h1,h2⟩:=zia r i u (by simpa [zB,zq] using h)
   refine⟨?_,by simp only[yo,qA,foLen,h2]⟩
   simp only[yo,qA,kN,h1,jK,Bool.and_true]
   simp[QZ]
theorem kC:∀(f:Fo) (i:Nat) (u:Tr),i≤foLen f→zg (qA f i u)=zg f+zg u.kids+1
 | f,0,u,_=>by rw[kD];simp only[zg];omega
 | .nil,i+1,u,h=>by simp[foLen] at h
 | .node b o k l r,i+1,u,h=>by
   have:=kC r i u (by simp[foLen] at h;omega)
   simp only[qA,zg,this];omega
theorem ZW:∀(f:Fo) (i:Nat) (u:Tr),zB f i=some u→zg (yo f i)+zg u.kids+1=zg f
 | .nil,i,u,h=>by cases i<;>simp[zB,zq,yO] at h
 | .node b o k l r,0,u,h=>by
   simp only[zB,zq,yO] at h
   cases h
   simp only[yo,zg];omega
 | .node b o k l r,i+1,u,h=>by
   have:=ZW r i u (by simpa [zB,zq] using h)
   simp only[yo,zg];omega
def ZC (u:Tr) (ka:Option Addr) (kc:Nat):List Value:=[.int .i64 u.id,.int .i64 u.kind,.string u.text,.slice ka (foLen u.kids) kc]
theorem J7 {w:World} {S:Nat→Prop}:∀(f:Fo) (i:Nat) (u:Tr) (ka:Option Addr) (kc:Nat) (xs:List Value),yF w S f xs→foLen u.kids≤kc→zu w S u.kids ka→i≤foLen f→yF w S (qA f i u) (xs.take (i*4)++ZC u ka kc++xs.drop (i*4))
 | f,0,u,ka,kc,xs,h,hc,hk,_=>by
   rw[kD,Nat.zero_mul,List.take_zero,List.drop_zero,List.nil_append]
   exact⟨ka,kc,xs,rfl,hc,hk,h⟩
 | .nil,i+1,u,ka,kc,xs,h,hc,hk,hi=>by simp[foLen] at hi
 | .node b o k l r,i+1,u,ka,kc,xs,h,hc,hk,hi=>by
   obtain⟨na,nc,ys,e,h1,h2,h3⟩:=h
   subst e
   have:=J7 r i u ka kc ys h3 hc hk (by simp[foLen] at hi;omega)
   refine⟨na,nc,_,?_,h1,h2,this⟩
   rw[show (i+1)*4=i*4+1+1+1+1 by omega]
   simp
theorem JN {w:World} {S:Nat→Prop}:∀(f:Fo) (i:Nat) (xs:List Value),yF w S f xs→i<foLen f→yF w S (yo f i) (xs.take (i*4)++xs.drop (i*4+4))
 | .nil,i,xs,h,hi=>by simp[foLen] at hi
 | .node b o k l r,0,xs,h,hi=>by
   obtain⟨na,nc,ys,e,h1,h2,h3⟩:=h
   subst e
   rw[zaX];simpa using h3
 | .node b o k l r,i+1,xs,h,hi=>by
   obtain⟨na,nc,ys,e,h1,h2,h3⟩:=h
   subst e
   have:=JN r i ys h3 (by simp[foLen] at hi;omega)
   refine⟨na,nc,_,?_,h1,h2,this⟩
   rw[show (i+1)*4=i*4+1+1+1+1 by omega,show i*4+1+1+1+1+4=i*4+4+1+1+1+1 by omega]
   simp
theorem yF.nth {w:World} {S:Nat→Prop}:∀(f:Fo) (i:Nat) (u:Tr) (xs:List Value),yF w S f xs→zB f i=some u→∃ka kc,xs[i*4]? =some (.int .i64 u.id)∧xs[i*4+1]? =some (.int .i64 u.kind)∧xs[i*4+2]? =some (.string u.text)∧xs[i*4+3]? =some (.slice ka (foLen u.kids) kc)∧foLen u.kids≤kc∧zu w S u.kids ka
 | .nil,i,u,xs,h,hi=>by cases i<;>simp[zB,zq,yO] at hi
 | .node b o k l r,0,u,xs,h,hi=>by
   obtain⟨na,nc,ys,e,h1,h2,h3⟩:=h
   subst e
   simp only[zB,zq,yO] at hi
   cases hi
   exact⟨na,nc,by simp,by simp,by simp,by simp,h1,h2⟩
 | .node b o k l r,i+1,u,xs,h,hi=>by
   obtain⟨na,nc,ys,e,h1,h2,h3⟩:=h
   subst e
   obtain⟨ka,kc,e0,e1,e2,e3,h4⟩:=yF.nth r i u ys h3 (by simpa [zB,zq] using hi)
   refine⟨ka,kc,?_,?_,?_,?_,h4⟩
   · rw[show (i+1)*4=i*4+4 by omega,List.getElem?_append_right sp1];simpa using e0
   · rw[show (i+1)*4+1=i*4+1+4 by omega,List.getElem?_append_right sp1];simpa using e1
   · rw[show (i+1)*4+2=i*4+2+4 by omega,List.getElem?_append_right sp1];simpa using e2
   · rw[show (i+1)*4+3=i*4+3+4 by omega,List.getElem?_append_right sp1];simpa using e3
theorem vI:∀(id:Int) (t:Tr) (p:List Nat),zx id t=some p→∃u,atT t p=some u∧u.id=id:=by
 have key :∀(f:Fo) (id:Int) (i:Nat) (p:List Nat),fpi id i f=some p→∃j q u,p=(i+j)::q∧∃v,zB f j=some v∧atT v q=some u∧u.id=id:=by
  intro f
  induction f with
  | nil=>intro id i p h;simp[fpi] at h
  | node b o k l r ihl ihr=>
    intro id i p h
    simp only[fpi] at h
    split at h
    · rename_i hk
      cases h
      exact⟨0,[],⟨k.1,k.2.1,k.2.2,l⟩,rfl,_,rfl,rfl,hk⟩
    · split at h
      · rename_i q hq
        cases h
        obtain⟨j,q',u,e,v,h1,h2,h3⟩:=ihl id 0 q hq
        subst e
        refine⟨0,(0+j)::q',u,rfl,⟨k.1,k.2.1,k.2.2,l⟩,rfl,?_,h3⟩
        rw[atT];simp only[Nat.zero_add,h1];exact h2
      · obtain⟨j,q',u,e,v,h1,h2,h3⟩:=ihr id (i+1) p h
        refine⟨j+1,q',u,by rw[e];congr 1;omega,v,?_,h2,h3⟩
        simpa [zB,zq] using h1
 intro id t p h
 rw[zx] at h
 split at h
 · rename_i hid
   cases h
   exact⟨t,rfl,hid⟩
 · obtain⟨j,q,u,e,v,h1,h2,h3⟩:=key _ _ _ _ h
   subst e
   exact⟨u,by rw[atT];simp only[Nat.zero_add,h1];exact h2,h3⟩
theorem YS:∀(p:List Nat) (t u:Tr),atT t p=some u→zg u.kids+p.length≤zg t.kids
 | [],t,u,h=>by cases h;simp
 | i ::p,t,u,h=>by
   simp only[atT] at h
   cases hk:zB t.kids i with
   | none=>rw[hk] at h;cases h
   | some v=>
     rw[hk] at h
     have h1:=YS p v u h
     have h2:=kF hk
     simp only[List.length_cons];omega
def zH:Tr:=⟨0,0,⟨#[]⟩,.nil⟩
def Zv (par at_:Int) (t x:Tr):Tr×Int:=match zx par t with
 | none=>(zH,4)
 | some p=>match atT t p with
   | none=>(zH,4)
   | some u=>if 0≤at_∧at_≤(foLen u.kids:Int) then (zQ t p ⟨u.id,u.kind,u.text,qA u.kids at_.toNat x⟩,0) else (zQ t p u,2)
def Zr (t:Tr) (q:List Nat) (i:Nat):Tr×Tr:=match atT t q with
 | none=>(zH,zH)
 | some u=>match zB u.kids i with
   | none=>(zH,zH)
   | some v=>(zQ t q ⟨u.id,u.kind,u.text,yo u.kids i⟩,v)
theorem vS:∀(p:List Nat) (t u x:Tr),atT t p=some u→zg (zQ t p x).kids+zg u.kids=zg t.kids+zg x.kids
 | [],t,u,x,h=>by cases h;simp[zQ];omega
 | i ::p,t,u,x,h=>by
   simp only[atT] at h
   simp only[zQ]
   cases hk:zB t.kids i with
   | none=>rw[hk] at h;cases h
   | some v=>
     rw[hk] at h
     have h1:=vS p v u x h
     have h2:=zaw t.kids i v (zQ v p x) hk
     simp only
     omega
theorem za9 (par at_:Int) (t x:Tr):zg (Zv par at_ t x).1.kids≤zg t.kids+zg x.kids+1:=by
 unfold Zv
 split
 · simp[zH,zg]
 · split
   · simp[zH,zg]
   · rename_i p hp _ u hu
     split
     · rename_i hc
       have h1:=vS p t u ⟨u.id,u.kind,u.text,qA u.kids at_.toNat x⟩ hu
       have h2:=kC u.kids at_.toNat x om
       simp only at h1 ⊢;omega
     · have h1:=vS p t u u hu
       simp only;omega
theorem YK (t:Tr) (q:List Nat) (i:Nat):zg (Zr t q i).1.kids+zg (Zr t q i).2.kids≤zg t.kids:=by
 unfold Zr
 split
 · simp[zH,zg]
 · rename_i u hu
   split
   · simp[zH,zg]
   · rename_i v hv
     have h1:=vS q t u ⟨u.id,u.kind,u.text,yo u.kids i⟩ hu
     have h2:=ZW u.kids i v hv
     simp only at h1 ⊢;omega
end Go.Proofs.YtgkmmnihaiopaaaGreat
namespace Go.Proofs.YtgkmmnihaiopaaaGreat
open Go.RowKit
def zam (xs:List Value) (m i:Nat):List Value:=if i≤m then xs.take (i*4) else xs.take (m*4)++(xs.drop (m*4+4)).take ((i - (m+1))*4)
def Qn (m i:Nat):Nat:=if i≤m then i else i - 1
theorem zfI {xs:List Value} {m i:Nat} (h:i≠m):zam xs m i++(xs.drop (i*4)).take 4=zam xs m (i+1)∧Qn m (i+1)=Qn m i+1:=by
 unfold zam Qn
 by_cases hi:i<m
 · rw[if_pos om,if_pos om,if_pos om,if_pos om]
   exact⟨by rw[show (i+1)*4=i*4+4 by omega,List.take_add],rfl⟩
 · rw[if_neg om,if_neg om,if_neg om,if_neg om]
   refine⟨?_,by omega⟩
   rw[List.append_assoc]
   congr 1
   rw[show (i+1 - (m+1))*4=(i - (m+1))*4+4 by omega,List.take_add,List.drop_drop]
   congr 3
   omega
theorem za7 (xs:List Value) (m:Nat):zam xs m (m+1)=zam xs m m∧Qn m (m+1)=Qn m m:=by
 unfold zam Qn
 rw[if_neg om,if_pos (Nat.le_refl _),if_neg om,if_pos (Nat.le_refl _)]
 simp
theorem zhn {xs:List Value} {m n:Nat} (hl:xs.length=n*4) (hm:m<n):zam xs m n=xs.take (m*4)++xs.drop (m*4+4)∧Qn m n=n - 1:=by
 unfold zam Qn
 rw[if_neg om,if_neg om]
 refine⟨?_,rfl⟩
 congr 1
 exact List.take_of_length_le (by rw[List.length_drop];omega)
theorem zh4 {xs:List Value} {a:Nat} {c0 c1 c2 c3:Value} (h0:xs[a]? =some c0) (h1:xs[a+1]? =some c1) (h2:xs[a+2]? =some c2) (h3:xs[a+3]? =some c3):(xs.drop a).take 4= [c0,c1,c2,c3]:=by
 apply List.ext_getElem?
 intro j
 rw[List.getElem?_take]
 match j with
 | 0=>simpa using h0
 | 1=>simpa using h1
 | 2=>simpa using h2
 | 3=>simpa using h3
 | j+4=>simp;omega
end Go.Proofs.YtgkmmnihaiopaaaGreat
namespace Go.Proofs.YtgkmmnihaiopaaaGreat
open Go.RowKit Go.Shelf
theorem Tryz.zh7:(Tryz.prog.info? 27).map (fun i=>(i.size,i.bytes,i.zero.map (fun z=>z.cells.size)))=some (4,56,some 4):=by kernel_rfl
theorem zdV {P:Program} {e:TypeId} {size bytes:Nat} (h:(P.info? e).map (fun i=>(i.size,i.bytes,i.zero.map (fun z=>z.cells.size)))=some (size,bytes,some size)):
 ∃i z,P.info? e=some i∧i.zero=some z∧i.size=size∧i.bytes=bytes∧z.cells.size=size:=by
 exact sd8
theorem Zj {P:Program} {w:World} (base:Nat) (t ty e:TypeId) (i:TypeInfo) (size:Nat) (ht:P.underlying t=some (.slice e)) (hi:P.info? e=some i)
 (v:Value) (n:Nat) (xs:List Value) (hown:w.ownsRow base e size v n xs) (c:Nat):
 (Builtin.append_ #[t,t] ty #[v,.slice none 0 c]).run P w= .ok v w:=by
 exact se7
theorem kU {P:Program} {w:World} {ops:Array Oper} {rest:List Oper} {o:Oper} {a:Act} {Q:Exit→Act→World→Prop} (hgd:o.guard=none) (s x:Operand) (t:TypeId)
 (ho:o.op= .call { callee:= .builtin .append,args:= #[s,x],argTypes:= #[t,t] })
 (base:Nat) (e:TypeId) (i:TypeInfo) (size:Nat) (ht:P.underlying t=some (.slice e)) (hi:P.info? e=some i)
 (v:Value) (n:Nat) (xs:List Value) (hs:a.eval s=v) (hown:w.ownsRow base e size v n xs) (c:Nat) (hx:a.eval x= .slice none 0 c)
 (h:wpList P ops Q rest (a.put o.dst v) w):wpList P ops Q (o::rest) a w:=by
 refine wpList_plain hgd fun K hK=>?_
 have hrun:=Zj (P:=P) (w:=w) base t o.type e i size ht hi v n xs hown c
 unfold Oper.wp
 simp[execOp,ho,resolve,invoke,builtin,hs,hx,hrun,Result.andThen]
 exact hK _ _ h
theorem zU {ops:Array Oper} {rest:List Oper} {o:Oper} {a:Act} {Q:Exit→Act→World→Prop} {w:World} (hgd:o.guard=none) (s x:Operand)
 (ho:o.op= .call { callee:= .builtin .append,args:= #[s,x],argTypes:= #[25,25] })
 (base:Nat) (v:Value) (n:Nat) (xs:List Value) (hs:a.eval s=v) (hown:w.ownsRow base 27 4 v n xs)
 (la:Option Addr) (m c:Nat) (ys:List Value) (hx:a.eval x= .slice la m c) (hm:ys.length=m*4) (hr:∀ad,la=some ad→∀j u,ys[j]? =some u→w.cell? (ad.add j)=some u) (h1' :∀u∈ys,u.oneCell'=true) (hc:la=none→m=0) (h1:n≤1000000) (h2:m≤1000000) (hbase:base≤w.heap.size)
 (h:∀v' w',w'.ownsRow base 27 4 v' (n+m) (xs++ys)→w.grownBy w' v.ownBlock→wpList Tryz.prog ops Q rest (a.put o.dst v') w'):
 wpList Tryz.prog ops Q (o::rest) a w:=by
 obtain⟨i1,z1,hi1,hy0,hy1,hy2,hy3⟩:=zdV Tryz.zh7
 cases la with
 | none=>
   obtain rfl:=hc rfl
   have hys:ys= []:=List.eq_nil_of_length_eq_zero om
   subst hys
   refine kU hgd s x 25 ho base 27 i1 4 Tryz.underlying25 hi1 v n xs hs hown c hx (h v w ?_ ?_)
   · simpa using hown
   · exact⟨rfl,rfl,rfl,Nat.le_refl _,fun _ _ _=>rfl⟩
 | some ad=>
   exact wpList_append_own w hgd s x 25 ho base 27 i1 z1 4 56 Tryz.underlying25 hi1 hy0 hy1 hy2 hy3 om v n xs hs hown ad m c ys hx hm (hr ad rfl) h1' (by unfold maxLen;omega) om hbase (fun v' w' k1 k2 _=>h v' w' k1 k2)
theorem zaa {Y:World} {g:Nat} {x0 x1 x2 x3:Value} {T:TypeId} (h:Y.heap[g]? =some (.cells #[x0,x1,x2,x3] T (0,0))) {j:Nat} {u:Value} (hj: [x0,x1,x2,x3][j]? =some u):Y.cell? ((⟨g,0,none⟩:Addr).add j)=some u:=by
 rw[Addr.add_mid,Nat.zero_add,corQ _ _ j _ _ _ h]
 simpa using hj
theorem zab {a b:Int} {t:ByteArray} {d:Option Addr} {m c:Nat} {u:Value} (h:u∈([.int .i64 a,.int .i64 b,.string t,.slice d m c]:List Value)):u.oneCell'=true:=by
 simp only[List.mem_cons,List.not_mem_nil,or_false] at h
 rcases h with rfl | rfl | rfl | rfl<;>rfl
theorem Jw (a:Addr) (j:Nat):(a.add j).block=a.block:=by unfold Addr.add;split<;>rfl
theorem zgA (a:Addr) (i j:Nat):(a.add i).add j=a.add (i+j):=by
 obtain⟨b,off,sp⟩:=a
 by_cases hi:i=0<;>by_cases hj:j=0<;>simp[Addr.add,hi,hj,Nat.add_assoc]
theorem take_at {xs:List Value} {k j:Nat} {u:Value} (h:(xs.take k)[j]? =some u):xs[j]? =some u:=by
 rw[List.getElem?_take] at h;split at h;exact h;cases h
def zet (f:Fo) (k:Nat) (x:Tr) (S:Nat→Prop) (w:World) (e:Ending) (w' :World):Prop:=∃ra rn rc,e= .returned (.slice ra rn rc)∧rn=foLen (qA f k x)∧rn≤rc∧ra≠none∧zu w' (fun q=>S q∨Ya w w' q) (qA f k x) ra∧Below w.heap.size w w'
theorem J9 {S:Nat→Prop} {w X:World} {f:Fo} {k n:Nat} {x:Tr} {xa:Option Addr} {xn xc:Nat} {xs:List Value} {v:Value} (hf:yF w S f xs) (hS:∀q,S q→q<w.heap.size) (hn:n=foLen f) (hk:k≤n) (hxn:xn=foLen x.kids) (hx:foLen x.kids≤xc∧zu w S x.kids xa) {Bs:Nat} (hBs:w.heap.size≤Bs) (ho:X.ownsRow Bs 27 4 v (k+1+(n - k)) (xs.take (k*4)++[.int .i64 x.id,.int .i64 x.kind,.string x.text,.slice xa xn xc]++xs.drop (k*4))) (hb:Below w.heap.size w X):∃a c,v= .slice a (k+1+(n - k)) c∧zet f k x S w (.returned v) X:=by
 obtain⟨a,c,rfl⟩:=zw ho
 have hr:=J7 f k x xa xc xs hf hx.1 hx.2 om
 have he:ZC x xa xc= [.int .i64 x.id,.int .i64 x.kind,.string x.text,.slice xa xn xc]:=by rw[hxn];rfl
 rw[he] at hr
 have hl:k+1+(n - k)=foLen (qA f k x):=by rw[J6 f k x om];omega
 refine⟨a,c,rfl,a,_,c,rfl,hl,?_,?_,zbB hl ho (hr.kept fun q hq=>⟨.inl hq,hb.block q (hS q hq)⟩) (fun q hq=> .inr ⟨Nat.le_trans hBs (zo ho hq).1,(zo ho hq).2⟩),hb⟩
 · rcases ho.2 with ⟨_,h0⟩ | ⟨_,_,_,hv,_,_,hc,_⟩
   · omega
   · cases hv;exact hc
 · rcases ho.2 with ⟨_,h0⟩ | ⟨_,_,_,hv,_⟩
   · omega
   · intro h;subst h;cases hv
theorem zc5 (w:World) (S:Nat→Prop) (f:Fo) (a:Option Addr) (n c:Nat) (x:Tr) (xa:Option Addr) (xn xc k:Nat) (hn:n=foLen f) (hc:n≤c) (hf:zu w S f a) (hS:∀q,S q→q<w.heap.size) (hxn:xn=foLen x.kids) (hx:foLen x.kids≤xc∧zu w S x.kids xa) (hk:k≤n) (hn5:n≤500000):
 Calls Tryz.prog 50 #[.slice a n c,.int .i64 (k:Int),.agg #[.int .i64 x.id,.int .i64 x.kind,.string x.text,.slice xa xn xc]] w (zet f k x S w):=by
 have hn0:a=none→n=0:=fun e=>by
  subst e
  cases f with
  | nil=>exact hn
  | node x y k l r=>
    obtain⟨b,off,ka,kc,e,_⟩:=hf
    cases e
 obtain⟨xs,hr,hl,hcl,hone⟩:=zcw f hf
 have hl1:(xs.take (k*4)).length=k*4:=by rw[List.length_take,hl,←hn];omega
 have hl2:(xs.drop (k*4)).length=(n - k)*4:=by rw[List.length_drop,hl,←hn];omega
 obtain⟨B,hB⟩:∃B,B=w.alloc (.cells #[.int .i64 x.id,.int .i64 x.kind,.string x.text,.slice xa xn xc] 27):=⟨_,rfl⟩
 have hb:Below w.heap.size w B:=by rw[hB];exact (BrQ _ _).alloc (Nat.le_refl _) _
 have e0:B.heap[w.heap.size]? =some (.cells #[.int .i64 x.id,.int .i64 x.kind,.string x.text,.slice xa xn xc] 27 (0,0)):=by rw[hB];exact hanQ _ _
 have HA:=hH (aN hr (aN hS (aN hn (aN hk (aN hxn hx)))))
 have HB:=hH (aN hb e0)
 have HL:=hH (aN hl1 hl2)
 have HO:=hH hone
 have HBE:=hH hB
 have hkc:(k:Int)≤(c:Int):=by omega
 have hkn:(k:Int)≤(n:Int):=by omega
 have hnc:(n:Int)≤(c:Int):=by omega
 have hlt:∀j u,xs[j]? =some u→∀ad,a=some ad→ad.block<w.heap.size:=fun j u hj ad he=>by
  have:=block_lt_of_cell (hcl ad he j u hj)
  rwa [Jw] at this
 have HC:Hid (∀X,Below w.heap.size w X→∀ad,a=some ad→∀j u,xs[j]? =some u→X.cell? (ad.add j)=some u):=hH fun X hX ad he j u hj=>(World.cell?_of_block (hX.block _ (by rw[Jw];exact hlt j u hj ad he))).trans (hcl ad he j u hj)
 clear hr hl hcl hone hl1 hl2 hb e0 hB hn hf hS hxn hx hk hlt
 go_enter Tryz.func50,Tryz.ntmps50
 go_upto_region 1 with fail
 change Code.wp _ _ _ _ (w.alloc (.cells #[.int .i64 x.id,.int .i64 x.kind,.string x.text,.slice xa xn xc] 27))
 rw[←HBE.out]
 clear HBE
 cases a with
 | none=>
   obtain rfl:n=0:=hn0 rfl
   obtain rfl:k=0:=by omega
   go_upto_region 3 with (at_builtin;refine zU rfl (.tmp 8) (.tmp 11) rfl B.heap.size (.slice none 0 0) 0 [] rfl (World.ownsRow_nil _ _ _ _) none 0 c (xs.take (0*4)) rfl HL.out.1 (fun ad' h j u hj=>HC.out _ HB.out.1 ad' h j u (take_at hj)) (fun u hu=>HO.out u (List.mem_of_mem_take hu)) (fun _=>rfl) om om (Nat.le_refl _) ?_;intro v1 W1 hown hgrow;rw[Nat.zero_add,List.nil_append] at hown;have HE:=hH (aN hown ((BrQ B.heap.size B).grown hgrow (Nat.le_refl _) (fun y hy=>by cases hy)));clear hown hgrow)
   obtain⟨oa,oc,rfl⟩:=zw HE.out.1
   have hx0:W1.heap[w.heap.size]? =some (.cells #[.int .i64 x.id,.int .i64 x.kind,.string x.text,.slice xa xn xc] 27 (0,0)):=(HE.out.2.block _ (lohQ HB.out.2)).trans HB.out.2
   obtain⟨q0,q1,q2,q3⟩:=zD hx0
   obtain⟨Y,hY⟩:∃Y,Y=W1.alloc (.cells #[.int .i64 x.id,.int .i64 x.kind,.string x.text,.slice xa xn xc] 27):=⟨_,rfl⟩
   have hbY:Below W1.heap.size W1 Y:=by rw[hY];exact (BrQ _ _).alloc (Nat.le_refl _) _
   have HY:=hH (aN (show Y.heap[W1.heap.size]? =some (.cells #[.int .i64 x.id,.int .i64 x.kind,.string x.text,.slice xa xn xc] 27 (0,0)) by rw[hY];exact hanQ _ _) (aN (HE.out.2.trans (hbY.mono HE.out.2.size)) (zI HE.out.1 fun g cur hg _=>hbY.block g (lohQ hg))))
   have HYE:=hH hY
   clear hx0 hY hbY
   go_upto_region 4 with (at_builtin;change wpList _ _ _ _ _ (W1.alloc (.cells #[.int .i64 x.id,.int .i64 x.kind,.string x.text,.slice xa xn xc] 27));rw[←HYE.out];refine zU rfl (.tmp 13) (.tmp 15) rfl B.heap.size (.slice oa 0 oc) 0 (xs.take (0*4)) rfl HY.out.2.2 (some ⟨W1.heap.size,0,none⟩) 1 1 [.int .i64 x.id,.int .i64 x.kind,.string x.text,.slice xa xn xc] rfl rfl (fun ad' h j u hj=>by cases h;exact zaa HY.out.1 hj) (fun u hu=>zab hu) (fun h=>by cases h) om om HY.out.2.1.size ?_;intro v2 W2 hown hgrow;have HF:=hH (aN hown (HY.out.2.1.grown hgrow HY.out.2.1.size (fun y hy=>(zo HY.out.2.2 hy).1)));clear hown hgrow)
   obtain⟨qa,qc,rfl⟩:=zw HF.out.1
   have HBW:=hH (HB.out.1.trans (HF.out.2.mono HB.out.1.size))
   clear q0 q1 q2 q3
   have HT:=hH (show ∀ad' :Addr,none=some ad'→∀j u,(xs.drop (0*4))[j]? =some u→W2.cell? (ad'.add j)=some u from fun ad' h j u hj=>by cases h)
   go_wp2_with (at_builtin;refine zU rfl (.tmp 17) (.tmp 20) rfl B.heap.size (.slice qa (0+1) qc) (0+1) (xs.take (0*4)++[.int .i64 x.id,.int .i64 x.kind,.string x.text,.slice xa xn xc]) rfl HF.out.1 none 0 c (xs.drop (0*4)) rfl HL.out.2 HT.out (fun u hu=>HO.out u (List.mem_of_mem_drop hu)) (fun _=>rfl) om om HF.out.2.size ?_;intro v3 W3 hown hgrow;have HG:=hH (aN hown (HF.out.2.grown hgrow HF.out.2.size (fun y hy=>(zo HF.out.1 hy).1)));clear hown hgrow)
   have hg:=HG.out.1
   exact sf5
 | some ad=>
   go_upto_region 3 with (at_builtin;refine zU rfl (.tmp 8) (.tmp 11) rfl B.heap.size (.slice none 0 0) 0 [] rfl (World.ownsRow_nil _ _ _ _) (some ad) k c (xs.take (k*4)) rfl HL.out.1 (fun ad' h j u hj=>HC.out _ HB.out.1 ad' h j u (take_at hj)) (fun u hu=>HO.out u (List.mem_of_mem_take hu)) (fun h=>by cases h) om om (Nat.le_refl _) ?_;intro v1 W1 hown hgrow;rw[Nat.zero_add,List.nil_append] at hown;have HE:=hH (aN hown ((BrQ B.heap.size B).grown hgrow (Nat.le_refl _) (fun y hy=>by cases hy)));clear hown hgrow)
   obtain⟨oa,oc,rfl⟩:=zw HE.out.1
   have hx0:W1.heap[w.heap.size]? =some (.cells #[.int .i64 x.id,.int .i64 x.kind,.string x.text,.slice xa xn xc] 27 (0,0)):=(HE.out.2.block _ (lohQ HB.out.2)).trans HB.out.2
   obtain⟨q0,q1,q2,q3⟩:=zD hx0
   obtain⟨Y,hY⟩:∃Y,Y=W1.alloc (.cells #[.int .i64 x.id,.int .i64 x.kind,.string x.text,.slice xa xn xc] 27):=⟨_,rfl⟩
   have hbY:Below W1.heap.size W1 Y:=by rw[hY];exact (BrQ _ _).alloc (Nat.le_refl _) _
   have HY:=hH (aN (show Y.heap[W1.heap.size]? =some (.cells #[.int .i64 x.id,.int .i64 x.kind,.string x.text,.slice xa xn xc] 27 (0,0)) by rw[hY];exact hanQ _ _) (aN (HE.out.2.trans (hbY.mono HE.out.2.size)) (zI HE.out.1 fun g cur hg _=>hbY.block g (lohQ hg))))
   have HYE:=hH hY
   clear hx0 hY hbY
   go_upto_region 4 with (at_builtin;change wpList _ _ _ _ _ (W1.alloc (.cells #[.int .i64 x.id,.int .i64 x.kind,.string x.text,.slice xa xn xc] 27));rw[←HYE.out];refine zU rfl (.tmp 13) (.tmp 15) rfl B.heap.size (.slice oa k oc) k (xs.take (k*4)) rfl HY.out.2.2 (some ⟨W1.heap.size,0,none⟩) 1 1 [.int .i64 x.id,.int .i64 x.kind,.string x.text,.slice xa xn xc] rfl rfl (fun ad' h j u hj=>by cases h;exact zaa HY.out.1 hj) (fun u hu=>zab hu) (fun h=>by cases h) om om HY.out.2.1.size ?_;intro v2 W2 hown hgrow;have HF:=hH (aN hown (HY.out.2.1.grown hgrow HY.out.2.1.size (fun y hy=>(zo HY.out.2.2 hy).1)));clear hown hgrow)
   obtain⟨qa,qc,rfl⟩:=zw HF.out.1
   have HBW:=hH (HB.out.1.trans (HF.out.2.mono HB.out.1.size))
   clear q0 q1 q2 q3
   by_cases hck:c=k
   · subst hck
     have HT:=hH (show ∀ad',some ad=some ad'→∀j u,(xs.drop (c*4))[j]? =some u→W2.cell? (ad'.add j)=some u from fun ad' h j u hj=>by have h2:=(List.getElem?_eq_some_iff.1 hj).1;rw[HL.out.2] at h2;omega)
     go_wp2_with (at_builtin;refine zU rfl (.tmp 17) (.tmp 20) rfl B.heap.size (.slice qa (c+1) qc) (c+1) (xs.take (c*4)++[.int .i64 x.id,.int .i64 x.kind,.string x.text,.slice xa xn xc]) rfl HF.out.1 (some ad) 0 0 (xs.drop (c*4)) rfl (by rw[HL.out.2];omega) HT.out (fun u hu=>HO.out u (List.mem_of_mem_drop hu)) (fun h=>by cases h) om om HF.out.2.size ?_;intro v3 W3 hown hgrow;have HG:=hH (aN hown (HF.out.2.grown hgrow HF.out.2.size (fun y hy=>(zo HF.out.1 hy).1)));clear hown hgrow)
     have hg:=HG.out.1
     rw[show c+1+0=c+1+(n - c) by omega] at hg
     exact sf5
   · have HT:=hH (show ∀ad',some (ad.add (k*4))=some ad'→∀j u,(xs.drop (k*4))[j]? =some u→W2.cell? (ad'.add j)=some u from fun ad' h j u hj=>by cases h;rw[zgA];exact HC.out _ HBW.out ad rfl _ u (by rw[List.getElem?_drop] at hj;exact hj))
     go_wp2_with (at_builtin;refine zU rfl (.tmp 17) (.tmp 20) rfl B.heap.size (.slice qa (k+1) qc) (k+1) (xs.take (k*4)++[.int .i64 x.id,.int .i64 x.kind,.string x.text,.slice xa xn xc]) rfl HF.out.1 (some (ad.add (k*4))) (n - k) (c - k) (xs.drop (k*4)) rfl HL.out.2 HT.out (fun u hu=>HO.out u (List.mem_of_mem_drop hu)) (fun h=>by cases h) om om HF.out.2.size ?_;intro v3 W3 hown hgrow;have HG:=hH (aN hown (HF.out.2.grown hgrow HF.out.2.size (fun y hy=>(zo HF.out.1 hy).1)));clear hown hgrow)
     obtain⟨ra,rc,rfl,hend⟩:=J9 HA.out.1 HA.out.2.1 HA.out.2.2.1 HA.out.2.2.2.1 HA.out.2.2.2.2.1 HA.out.2.2.2.2.2 HB.out.1.size HG.out.1 (HB.out.1.trans (HG.out.2.mono HB.out.1.size))
     have HEND:=hH hend
     clear hend
     go_ret
     exact HEND.out
end Go.Proofs.YtgkmmnihaiopaaaGreat
