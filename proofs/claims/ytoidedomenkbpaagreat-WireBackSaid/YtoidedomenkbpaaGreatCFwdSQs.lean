/-
  .
-/
import Derived.Test.YtoidedomenkbpaaGreatCInvQs
set_option maxRecDepth 100000
set_option maxHeartbeats 40000000

namespace Go.Proofs.YtoidedomenkbpaaGreat
open Go.RowKit
open Extern.Stop (cell)
def zP (n:Int):Prop:= -9223372036854775808≤n∧n≤9223372036854775807
def zg9:Fo→Prop
 | .nil=>True
 | .node _ _ k l r=>(zP k.1∧zP k.2.1∧k.2.2.size≤9223372036854775807∧foLen l≤9223372036854775807)∧zg9 l∧zg9 r
def Tr.Qt (t:Tr):Prop:=(zP t.id∧zP t.kind∧t.text.size≤9223372036854775807∧foLen t.kids≤9223372036854775807)∧zg9 t.kids
def nF:Fo→Fo
 | .nil=> .nil
 | .node _ _ k l r=> .node 0 0 k (nF l) (nF r)
def nT (t:Tr):Tr:=⟨t.id,t.kind,t.text,nF t.kids⟩
def ji:Fo→List Tr
 | .nil=>[]
 | .node _ _ k l r=>⟨k.1,k.2.1,k.2.2,l⟩::ji r
theorem zbl:∀f:Fo,(ji f).length=foLen f
 | .nil=>rfl
 | .node _ _ _ _ r=>by simp[ji,foLen,zbl r]
theorem QQ:∀f:Fo,(ji f).flatMap qa=ZX f
 | .nil=>rfl
 | .node _ _ k l r=>by simp[ji,ZX,qa,QQ r,List.append_assoc]
theorem zff:∀f:Fo,kM ((ji f).map nT)=nF f
 | .nil=>rfl
 | .node _ _ k l r=>by simp[ji,nF,nT,kM,zff r]
def szL (l:List Tr):Nat:=(l.map (fun t=>zh t.kids+1)).sum
theorem zc5:∀f:Fo,szL (ji f)=zh f
 | .nil=>rfl
 | .node _ _ k l r=>by
   have h:=zc5 r
   simp only[szL] at h
   simp only[ji,szL,List.map_cons,List.sum_cons,h,zh];omega
theorem zc3:∀f:Fo,zg9 f→∀t∈ji f,t.Qt
 | .nil,_,t,ht=>by simp[ji] at ht
 | .node _ _ k l r,h,t,ht=>by
   simp only[ji,List.mem_cons] at ht
   rcases ht with rfl | ht
   · exact⟨h.1,h.2.1⟩
   · exact zc3 r h.2.2 t ht
def JJ (d:Int):Fo→List (ByteArray×Int)
 | .nil=>[]
 | .node _ _ k l r=>(k.2.2,d)::(JJ (d+1) l++JJ d r)
def zdG (d:Int)(t:Tr):List (ByteArray×Int):=(t.text,d)::JJ (d+1) t.kids
def okD (d:Int)(t:Tr):Prop:=∀x∈zdG d t,x.2≤40
theorem zc4 (d:Int):∀f:Fo,(∀x∈JJ d f,x.2≤40)↔∀t∈ji f,okD d t
 | .nil=>by simp[JJ,ji]
 | .node b o k l r=>by
   have ih:=zc4 d r
   have e:JJ d (.node b o k l r)=zdG d ⟨k.1,k.2.1,k.2.2,l⟩++JJ d r:=by simp[JJ,zdG]
   have e2:ji (.node b o k l r)=⟨k.1,k.2.1,k.2.2,l⟩::ji r:=rfl
   constructor
   · intro h t ht
     rw[e2] at ht
     rcases List.mem_cons.1 ht with rfl | ht
     · intro x hx;exact h x (by rw[e];exact List.mem_append_left _ hx)
     · exact ih.1 (fun x hx=>h x (by rw[e];exact List.mem_append_right _ hx)) t ht
   · intro h x hx
     rw[e] at hx
     rcases List.mem_append.1 hx with hx | hx
     · exact h _ (by rw[e2];exact List.mem_cons_self ..) x hx
     · exact ih.2 (fun t ht=>h t (by rw[e2];exact List.mem_cons_of_mem _ ht)) x hx
theorem Zh {d:List UInt8}{p:Nat}{n:Int}{rest:List UInt8}(h:d.drop p=zq n++rest)(hn:zP n):jW d p= .ok (n,p+8)∧d.drop (p+8)=rest∧p+8≤d.length:=by
 have hl:=congrArg List.length h
 simp only[List.length_drop,LlaQ,zw] at hl
 have h8:p+8≤d.length:=by omega
 refine⟨?_,?_,h8⟩
 · unfold jW
   rw[ipQ h8,h,List.take_left' (zw n),zet n hn.1 hn.2]
 · rw[←List.drop_drop,h,List.drop_left' (zw n)]
theorem Y9 {d:List UInt8}{p n:Nat}{size most:Int}{rest:List UInt8}(h:d.drop p=zq (n:Int)++rest)(hn:zP (n:Int))(hs:1≤size)(hm:(n:Int)≤most)(hr:(n:Int)*size≤rest.length):vY d size most p= .ok (n,p+8)∧d.drop (p+8)=rest∧p+8≤d.length:=by
 obtain⟨h1,h2,h3⟩:=Zh h hn
 refine⟨?_,h2,h3⟩
 unfold vY
 rw[h1]
 have hl:=congrArg List.length h2
 simp only[List.length_drop] at hl
 have hq:(n:Int)≤((d.length:Int) - ((p+8:Nat):Int)) / size:=by
  rw[Int.le_ediv_iff_mul_le om1];omega
 simp only
 rw[inQ om1]
 simp
theorem zbB {d:List UInt8}{p:Nat}{t:ByteArray}{rest:List UInt8}(h:d.drop p=zq (t.size:Int)++(t.data.toList++rest))(ht:t.size≤9223372036854775807):Yq d p= .ok (t,p+8+t.size)∧d.drop (p+8+t.size)=rest∧p+8+t.size≤d.length:=by
 have hts:t.data.toList.length=t.size:=Zp t
 obtain⟨h1,h2,h3⟩:=Y9 (size:=1) (most:=9223372036854775807) h ⟨by omega,by omega⟩ om1 om1 (by simp only[LlaQ,hts];omega)
 have hl:=congrArg List.length h2
 simp only[List.length_drop,LlaQ,hts] at hl
 refine⟨?_,?_,by omega⟩
 · unfold Yq
   rw[h1]
   simp only
   rw[h2,List.take_left' hts]
 · rw[←List.drop_drop,h2,List.drop_left' hts]
theorem zey {d:List UInt8}{p:Nat}{n:Int}{rest:List UInt8}(h:d.drop p= [jI n]++rest)(hn: -128≤n∧n≤127):vZ d p= .ok (n,p+1)∧d.drop (p+1)=rest∧p+1≤d.length:=by
 have hl:=congrArg List.length h
 simp only[List.length_drop,LlaQ,List.length_singleton] at hl
 have hg:d[p]? =some (jI n):=by
  have:=congrArg (fun l=>l[0]?) h
  simpa using this
 refine⟨?_,by rw[←List.drop_drop,h];rfl,by omega⟩
 unfold vZ
 rw[hg]
 have e:vX (jI n)=n:=by
  have h0:(jI n).toNat=(n % 256).toNat:=by
   unfold jI
   rw[UInt8.toNat_ofNat'];omega
  unfold vX
  rw[h0]
  simp only[IntKind.wrap,IntKind.signed,IntKind.bits]
  simp
  omega
 simp only[e]
def Fwd {α:Type}(r:Got (α×Nat))(ok:Prop)(x:α)(m p:Nat):Prop:=(ok→r= .ok ((x,m),p))∧(¬ok→∃e,r= .error e)
def szs {β:Type}(sz:β→Nat)(l:List β):Nat:=(l.map sz).sum
theorem zb4 {α:Type}(l:List α):l= []∨∃rs x,l=rs++[x]:=by
 rcases List.eq_nil_or_concat l with h | ⟨A,s,h⟩
 · exact Or.inl h
 · exact Or.inr ⟨A,s,by simpa using h⟩
theorem zhR {β:Type}(sz:β→Nat)(l:List β)(x:β):szs sz (l++[x])=szs sz l+sz x:=by simp[szs]
theorem zbx {α β:Type}{d:List UInt8}{one:Nat→Nat→Got (α×Nat)}(enc:β→List UInt8)(g:β→α)(sz:β→Nat)(good:β→Prop)(M:Nat):
 ∀(n:Nat) (l:List β),l.length=n→(∀x∈l,∀m p rest,d.drop p=enc x++rest→m≤M→Fwd (one m p) (good x∧m+sz x≤M) (g x) (m+sz x) (p+(enc x).length))→
 ∀m p rest,d.drop p=l.flatMap enc++rest→m≤M→Fwd (yF one l.length m p) ((∀x∈l,good x)∧m+szs sz l≤M) (l.map g) (m+szs sz l) (p+(l.flatMap enc).length):=by
 intro n
 induction n with
 | zero=>
   intro l hl _ m p rest _ hm
   have:l= []:=List.length_eq_zero_iff.1 hl
   subst this
   refine⟨fun _=>by simp[yF,szs],fun h=>absurd ⟨by simp,by simpa [szs] using hm⟩ h⟩
 | succ n ih=>
   intro l hl hone m p rest hd hm
   rcases zb4 l with rfl | ⟨rs,x,rfl⟩
   · simp at hl
   have hrl:rs.length=n:=by simp at hl;omega
   have hd1:d.drop p=rs.flatMap enc++(enc x++rest):=by rw[hd,List.flatMap_append,List.append_assoc];simp
   have I:=ih rs hrl (fun y hy=>hone y (List.mem_append_left _ hy)) m p _ hd1 hm
   have hd2:d.drop (p+(rs.flatMap enc).length)=enc x++rest:=by rw[←List.drop_drop,hd1,List.drop_left' rfl]
   have hlen:(rs++[x]).length=rs.length+1:=by simp
   rw[hlen,zhR]
   have hfl:((rs++[x]).flatMap enc).length=(rs.flatMap enc).length+(enc x).length:=by rw[List.flatMap_append,LlaQ];simp
   rw[hfl]
   by_cases hk:(∀y∈rs,good y)∧m+szs sz rs≤M
   · have e1:=I.1 hk
     have O:=hone x sp (m+szs sz rs) _ rest hd2 hk.2
     constructor
     · rintro ⟨h1,h2⟩
       have e2:=O.1 ⟨h1 x sp,by omega⟩
       simp only[yF,e1,e2,List.map_append,List.map_cons,List.map_nil,Nat.add_assoc]
     · intro hn
       have hx:¬(good x∧m+szs sz rs+sz x≤M):=fun hh=>hn ⟨fun y hy=>by
        rcases List.mem_append.1 hy with hy | hy
        · exact hk.1 y hy
        · simp at hy;subst hy;exact hh.1,by omega⟩
       obtain⟨e,he⟩:=O.2 hx
       exact⟨e,by simp only[yF,e1,he]⟩
   · obtain⟨e,he⟩:=I.2 hk
     constructor
     · rintro ⟨h1,h2⟩
       exact absurd ⟨fun y hy=>h1 y (List.mem_append_left _ hy),by omega⟩ hk
     · intro _
       exact⟨e,by simp only[yF,he]⟩
theorem zgs (f:Fo):szs (fun t=>zh t.kids+1) (ji f)=zh f:=zc5 f
theorem Q3 (depth:Nat)(t:Tr):okD depth t↔depth≤40∧∀x∈ji t.kids,okD ((depth:Int)+1) x:=by
 rw[←zc4]
 constructor
 · intro h
   exact⟨by have:=h (t.text,(depth:Int)) (by simp[zdG]);simp at this;omega,fun x hx=>h x (by simp[zdG,hx])⟩
 · rintro ⟨h1,h2⟩ x hx
   simp only[zdG,List.mem_cons] at hx
   rcases hx with rfl | hx
   · simp;omega
   · exact h2 x hx
theorem zad:∀f:Fo,foLen f≤zh f
 | .nil=>NlrQ _
 | .node _ _ _ l r=>by have:=zad r;simp only[foLen,zh];omega
theorem zgb (d:List UInt8):∀(f depth:Nat),f+depth=41→∀(t:Tr) (m p:Nat) (rest:List UInt8),t.Qt→d.drop p=qa t++rest→
 Fwd (yA d f depth m p) (okD depth t∧m+(zh t.kids+1)≤200) (nT t) (m+(zh t.kids+1)) (p+(qa t).length):=by
 intro f
 induction f with
 | zero=>
   intro depth hf t m p rest _ _
   exact⟨fun h=>by have:=((Q3 depth t).1 h.1).1;omega,fun _=>⟨_,rfl⟩⟩
 | succ f ih=>
   intro depth hf t m p rest hin hd
   by_cases hg:40<depth∨200<m+1
   · refine⟨fun h=>?_,fun _=>⟨p,by unfold yA;rw[ipQ hg]⟩⟩
     have:=((Q3 depth t).1 h.1).1
     omega
   obtain⟨⟨i1,i2,i3,i4⟩,i5⟩:=hin
   obtain⟨id,kd,tx,ks⟩:=t
   simp only at i1 i2 i3 i4 i5
   simp only
   simp only[qa,zaQ,List.append_assoc] at hd
   obtain⟨a1,a2,a3⟩:=Zh hd i1
   obtain⟨b1,b2,b3⟩:=Zh a2 i2
   obtain⟨c1,c2,c3⟩:=zbB b2 i3
   obtain⟨d1,d2,d3⟩:=Y9 (size:=32) (most:=9223372036854775807) c2 ⟨by omega,by omega⟩ om1 om1 (by
    rw[LlaQ,Zo]
    have:=zad ks;omega)
   rw[←QQ] at d2
   have L:=zbx qa nT (fun t=>zh t.kids+1) (okD ((depth:Int)+1)) 200 (one:=fun m' q=>yA d f (depth+1) m' q) _ (ji ks) rfl (fun x hx m' q rest' hq _=>by
    have:=ih (depth+1) om1 x m' q rest' (zc3 ks i5 x hx) hq
    simpa using this) (m+1) _ rest d2 om1
   rw[zgs,zbl,QQ] at L
   have hlen:p+(qa ⟨id,kd,tx,ks⟩).length=p+8+8+8+tx.size+8+(ZX ks).length:=by
    simp only[qa,qX,LlaQ];omega
   rw[hlen]
   have ho:=Q3 depth ⟨id,kd,tx,ks⟩
   simp only at ho
   constructor
   · rintro ⟨h1,h2⟩
     have e:=L.1 ⟨(ho.1 h1).2,by omega⟩
     unfold yA
     rw[inQ hg,a1]
     simp only
     rw[b1]
     simp only
     rw[c1]
     simp only
     rw[d1]
     simp only
     rw[e]
     simp only[zff,nT]
     rw[show m+1+zh ks=m+(zh ks+1) by omega]
   · intro hn
     have hn2:¬((∀x∈ji ks,okD ((depth:Int)+1) x)∧m+1+zh ks≤200):=fun hh=>hn ⟨ho.2 ⟨by omega,hh.1⟩,by omega⟩
     obtain⟨e,he⟩:=L.2 hn2
     refine⟨e,?_⟩
     unfold yA
     rw[inQ hg,a1]
     simp only
     rw[b1]
     simp only
     rw[c1]
     simp only
     rw[d1]
     simp only
     rw[he]
def Tr.good (t:Tr):Prop:=okD 1 t∧zh t.kids+1≤200
theorem zbC {d:List UInt8}{t:Tr}{p:Nat}{rest:List UInt8}(hin:t.Qt)(hd:d.drop p=qa t++rest):
 (t.good→jo d p= .ok (nT t,p+(qa t).length))∧(¬t.good→∃e,jo d p= .error e):=by
 have h:=zgb d 40 1 rfl t 0 p rest hin hd
 simp only[Nat.zero_add] at h
 constructor
 · intro hg
   unfold jo
   rw[h.1 hg]
 · intro hg
   obtain⟨e,he⟩:=h.2 hg
   exact⟨e,by unfold jo;rw[he]⟩
def Stp.Qt (s:Stp):Prop:=(-128≤s.op∧s.op≤127)∧zP s.id∧zP s.parent∧zP s.place∧s.text.size≤9223372036854775807∧s.sub.Qt
def nS (s:Stp):Stp:={ s with sub:=nT s.sub }
theorem zge {d:List UInt8}{s:Stp}{p:Nat}{rest:List UInt8}(hin:s.Qt)(hd:d.drop p=encS s++rest):
 (s.sub.good→jL d p= .ok (nS s,p+(encS s).length))∧(¬s.sub.good→∃e,jL d p= .error e):=by
 obtain⟨i1,i2,i3,i4,i5,i6⟩:=hin
 obtain⟨op,id,pa,pl,tx,sub⟩:=s
 simp only at i1 i2 i3 i4 i5 i6
 simp only[encS,List.append_assoc] at hd
 obtain⟨a1,a2,a3⟩:=zey hd i1
 obtain⟨b1,b2,b3⟩:=Zh a2 i2
 obtain⟨c1,c2,c3⟩:=Zh b2 i3
 obtain⟨d1,d2,d3⟩:=Zh c2 i4
 obtain⟨e1,e2,e3⟩:=zbB d2 i5
 have T:=zbC i6 e2
 have hlen:p+(encS ⟨op,id,pa,pl,tx,sub⟩).length=p+1+8+8+8+8+tx.size+(qa sub).length:=by
  rw[kE];simp only;omega
 rw[hlen]
 constructor
 · intro hg
   unfold jL
   rw[a1]
   simp only
   rw[b1]
   simp only
   rw[c1]
   simp only
   rw[d1]
   simp only
   rw[e1]
   simp only
   rw[T.1 hg]
   rfl
 · intro hg
   obtain⟨e,he⟩:=T.2 hg
   refine⟨e,?_⟩
   unfold jL
   rw[a1]
   simp only
   rw[b1]
   simp only
   rw[c1]
   simp only
   rw[d1]
   simp only
   rw[e1]
   simp only
   rw[he]
theorem zeg (s:Stp):57≤(encS s).length:=by
 rw[kE,Jk];omega
theorem J6:∀l:List Stp,l.length*57≤(qd l).length
 | []=>by simp[qd]
 | s ::l=>by
   have h1:=zeg s
   have h2:=J6 l
   have e:qd (s::l)=encS s++qd l:=by simp[qd]
   rw[e,LlaQ,LlcQ];omega
theorem zeB {d:List UInt8}{l:List Stp}{p:Nat}{rest:List UInt8}(hin:∀s∈l,s.Qt)(hl:l.length≤60)(hd:d.drop p=zq (l.length:Int)++(qd l++rest)):
 ((∀s∈l,s.sub.good)→je d p= .ok (l.map nS,p+8+(qd l).length))∧(¬(∀s∈l,s.sub.good)→∃e,je d p= .error e):=by
 have hle:=J6 l
 obtain⟨a1,a2,a3⟩:=Y9 (size:=57) (most:=60) hd ⟨by omega,by omega⟩ om1 om1 (by rw[LlaQ];omega)
 have L:=zbx (one:=Yo d) encS nS (fun _=>0) (fun s=>s.sub.good) 0 _ l rfl (fun x hx m q rest' hq hm=>by
  have T:=zge (hin x hx) hq
  constructor
  · rintro ⟨h1,h2⟩
    unfold Yo
    rw[T.1 h1]
    rfl
  · intro hn
    obtain⟨e,he⟩:=T.2 (fun hh=>hn ⟨hh,by omega⟩)
    exact⟨e,by unfold Yo;rw[he]⟩) 0 _ rest a2 (NlrQ _)
 have hz:∀l:List Stp,szs (fun _=>0) l=0:=by
  intro l
  induction l with
  | nil=>rfl
  | cons x l ih=>simpa [szs] using ih
 rw[hz] at L
 have hfl:(l.flatMap encS).length=(qd l).length:=rfl
 rw[hfl] at L
 constructor
 · intro hg
   unfold je
   rw[a1]
   simp only
   rw[L.1 ⟨hg,NlrQ _⟩]
   rfl
 · intro hg
   obtain⟨e,he⟩:=L.2 (fun hh=>hg hh.1)
   refine⟨e,?_⟩
   unfold je
   rw[a1]
   simp only
   rw[he]
   rfl
end Go.Proofs.YtoidedomenkbpaaGreat
