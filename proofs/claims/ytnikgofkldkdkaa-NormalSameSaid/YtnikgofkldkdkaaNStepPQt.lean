/-
  .
-/
import Derived.Test.YtnikgofkldkdkaaKInsertQt
set_option maxRecDepth 100000
set_option maxHeartbeats 40000000
set_option linter.unusedVariables false
set_option linter.unusedSimpArgs false
namespace Go.Proofs.Ytnikgofkldkdkaa
open Go.RowKit Go.Shelf
theorem zfF (w:World)(S:Nat→Prop)(hS:∀y,S y→y<w.heap.size)(u:Tr)(sb:Nat)(tx:ByteArray)(hsl:sb<w.heap.size)(hc:w.cell? ⟨sb,4,none⟩=some (.string tx)):∀W,Below w.heap.size w W→W.heap.size=w.heap.size+4→zjI Try.prog W w.heap.size (fun _=>False) S S u 92 (.pointer (some ⟨sb,0,none⟩)) ⟨u.id,u.kind,tx,u.kids⟩ (fun _=>True):=fun W hb hs=>by
 refine⟨fun _ _=>rfl,fun X X1 b off sv xs hH k hlt hbl=>?_⟩
 obtain⟨a,c,rfl⟩:=zt k.own
 have hst:X1.cell? ⟨sb,4,none⟩=some (.string tx):=(World.cell?_of_block (a:=⟨sb,4,none⟩) ((k.h.kept sb om om (fun h=>h)).trans (hb.block sb hsl))).trans hc
 have c2:=k.c2
 have fz:=k.fz
 have HK:=Lib.hid (aN k (aN hH (aN hlt hbl)))
 clear k hH hlt hbl hc hsl hb
 go_enter Try.func92,Try.ntmps92
 go_wp2_with fail
 go_end0
 obtain⟨k,hH,hlt,hbl⟩:=HK.out
 obtain⟨X',hX'⟩:∃X',X'=X1.setCell ⟨b,off+2,none⟩ (.string tx):=⟨_,rfl⟩
 rw[←hX']
 have hco:∀i,i≠off+2→X'.cell? ⟨b,i,none⟩=X1.cell? ⟨b,i,none⟩:=fun i hi=>by
  rw[hX',World.cell?_setCell_other X1 ⟨b,off+2,none⟩ ⟨b,i,none⟩ _ (by intro e;cases e;exact hi rfl)]
 have hblk:∀y,y≠b→X'.heap[y]? =X1.heap[y]?:=fun y hy=>by rw[hX'];exact BhsQ _ _ _ _ hy
 have hSz:=hH.size
 obtain⟨hl,hlc⟩:=ZY (S':=fun y=>y≠b∧(S y∨(y=w.heap.size∨W.heap.size≤y))) k.own k.row rfl (fun y hy=>⟨by have:=hS y hy;rcases hbl with h | h<;>omega,Or.inl hy⟩) (fun y hy=>⟨by omega,Or.inr (Or.inr om)⟩)
 refine⟨rfl,by rw[hX'];rfl,by rw[hX'];rfl,by rw[hX'];rfl,by rw[hX'];simp[World.setCell],fun y _ hn _=>hblk y hn,fun j hj=>hco j om,⟨Or.inr hbl,?_,?_,?_,a,c,?_,hlc,hl.kept fun y hy=>⟨hy.2,hblk y hy.1⟩⟩,trivial⟩
 · rw[hco _ om];exact k.c0
 · rw[hco _ om];exact k.c1
 · rw[hX'];exact World.cell?_setCell_same' X1 _ _ (by rw[k.c2];rfl)
 · rw[hco _ om];exact k.c3
def qQ (id:Int)(tx:ByteArray)(t:Tr):Tr×Int:=match zw id t with
 | none=>(zG,4)
 | some p=>match atT t p with
   | none=>(zG,4)
   | some u=>(zP t p ⟨u.id,u.kind,tx,u.kids⟩,0)
theorem kH {id:Int}{tx:ByteArray}{t:Tr}(h:zw id t=none):qQ id tx t=(zG,4):=by unfold qQ;rw[h]
theorem jm {id:Int}{tx:ByteArray}{t u:Tr}{p:List Nat}(h:zw id t=some p)(hu:atT t p=some u):qQ id tx t=(zP t p ⟨u.id,u.kind,tx,u.kids⟩,0):=by
 unfold qQ;rw[h];simp only;rw[hu]
theorem zgG (w:World)(S:Nat→Prop)(nv:Value)(t:Tr)(op id par at_ s1 s2:Int)(tx s3:ByteArray)(sa:Option Addr)(sn sc:Nat)(hS:∀y,S y→y<w.heap.size)(ht:zK w S nv t)(hsz:za t.kids≤100000):
 Calls Try.prog 56 #[nv,.agg #[.int .i8 op,.int .i64 id,.int .i64 par,.int .i64 at_,.string tx,.int .i64 s1,.int .i64 s2,.string s3,.slice sa sn sc]] w (j6 w S (qQ id tx t)):=by
 obtain⟨ka,tc,rfl,hcap,hk⟩:=ht
 obtain⟨nk,hnk⟩:∃nk,nk=foLen t.kids:=⟨_,rfl⟩
 rw[←hnk]
 obtain⟨B,hB⟩:∃B,B=zx w [.cells #[.int .i64 t.id,.int .i64 t.kind,.string t.text,.slice ka nk tc] 27,.cells #[.int .i8 op,.int .i64 id,.int .i64 par,.int .i64 at_,.string tx,.int .i64 s1,.int .i64 s2,.string s3,.slice sa sn sc] 49,.cells #[.int .i64 0,.int .i64 0,.string ⟨#[]⟩,.slice none 0 0] 27]:=⟨_,rfl⟩
 have hb:Below w.heap.size w B:=by rw[hB];exact zl _ _
 have hs:B.heap.size=w.heap.size+3:=by rw[hB];exact zJ _ _
 have ht0:B.heap[w.heap.size]? =some (.cells #[.int .i64 t.id,.int .i64 t.kind,.string t.text,.slice ka nk tc] 27 (0,0)):=by rw[hB];exact ze _ _ 0 _ rfl
 have hs0:B.heap[w.heap.size+1]? =some (.cells #[.int .i8 op,.int .i64 id,.int .i64 par,.int .i64 at_,.string tx,.int .i64 s1,.int .i64 s2,.string s3,.slice sa sn sc] 49 (0,0)):=by rw[hB];exact ze _ _ 1 _ rfl
 have hr0:B.heap[w.heap.size+1+1]? =some (.cells #[.int .i64 0,.int .i64 0,.string ⟨#[]⟩,.slice none 0 0] 27 (0,0)):=by rw[hB];exact ze _ _ 2 _ rfl
 have htr:∀X,Below B.heap.size B X→zK X S (.agg #[.int .i64 t.id,.int .i64 t.kind,.string t.text,.slice ka nk tc]) t:=fun X hX=>⟨ka,tc,by rw[hnk],by rw[hnk] at*;exact hcap,hk.below (hb.trans (hX.mono hb.size)) hS⟩
 have hSX:∀X,Below B.heap.size B X→∀y,S y→y<X.heap.size:=fun X hX y hy=>nL (hS y hy) (NltQ hb.size hX.size)
 have hpath:∀(i:Int) (X:World),Below B.heap.size B X→Calls Try.prog 88 #[.agg #[.int .i64 t.id,.int .i64 t.kind,.string t.text,.slice ka nk tc],.int .i64 i] X (zcs X (zw i t)):=fun i X hX=>ZZ X S _ t i (hSX X hX) (htr X hX) om
 have hcell:∀X,Below B.heap.size B X→(uf1 X w.heap.size t.id t.kind t.text ka nk tc)∧X.cell? ⟨w.heap.size+1,1,none⟩=some (.int .i64 id)∧X.cell? ⟨w.heap.size+1,4,none⟩=some (.string tx):=fun X hX=>by
  have e0:=(hX.block _ (lohQ ht0)).trans ht0
  have e1:=(hX.block _ (lohQ hs0)).trans hs0
  exact⟨zH e0,by rw[corQ _ _ 1 _ _ _ e1];rfl,by rw[corQ _ _ 4 _ _ _ e1];rfl⟩
 obtain⟨pr,hpr⟩:∃pr,pr=qQ id tx t:=⟨_,rfl⟩
 rw[←hpr]
 have HP:=Lib.hid hpath
 have HCE:=Lib.hid hcell
 have HTR:=Lib.hid (aN htr hSX)
 have HB:=Lib.hid (aN hb (aN hs hr0))
 have HSZ:=Lib.hid hsz
 have HBE:=Lib.hid hB
 have HSW:=Lib.hid hS
 have HPR:=Lib.hid hpr
 clear hpath hcell htr hSX hb hs ht0 hs0 hr0 hS hk hcap hsz hnk hB hpr
 go_enter Try.func56,Try.ntmps56
 go_wp2_with fail
 change Calls _ _ _ (zx w [.cells #[.int .i64 t.id,.int .i64 t.kind,.string t.text,.slice ka nk tc] 27,.cells #[.int .i8 op,.int .i64 id,.int .i64 par,.int .i64 at_,.string tx,.int .i64 s1,.int .i64 s2,.string s3,.slice sa sn sc] 49,.cells #[.int .i64 0,.int .i64 0,.string ⟨#[]⟩,.slice none 0 0] 27]) _
 rw[←HBE.out]
 refine (HP.out id B (BrQ _ _)).mono ?_
 rintro e W2 ⟨pv,rfl,hown,hb2⟩
 cases hpi:zw id t with
 | none=>
   clear hown
   simp only[Option.isSome_none]
   have hE:pr=(zG,4):=by rw[HPR.out,kH hpi]
   have hr3:=(hb2.block _ (lohQ HB.out.2.2)).trans HB.out.2.2
   have hbz:Below w.heap.size w W2:=HB.out.1.trans (hb2.mono HB.out.1.size)
   obtain⟨z0,z1,z2,z3⟩:=zH hr3
   have zf:∀j,W2.frozen? ⟨w.heap.size+1+1,j,none⟩=false:=fun j=>forQ _ _ j _ _ hr3
   obtain⟨V,hV,r1,r2,r3,r4,r5,r6⟩:=zu (u0:= .int .i64 0) (u1:= .int .i64 0) (u2:= .string ⟨#[]⟩) (u3:= .slice none 0 0) hr3
   have HE:=Lib.hid (aN hE (aN hbz (aN hr3 (aN hV (aN r1 (aN r2 (aN r3 (aN r4 (aN r5 r6)))))))))
   clear hE hbz hr3 hV r1 r2 r3 r4 r5 r6
   go_wp2_with fail
   rw[←HE.out.2.2.2.1]
   obtain⟨hE,hbz,hr3,hV,r1,r2,r3,r4,r5,r6⟩:=HE.out
   exact step_end (p:=4) (u:=5) rfl rfl (g:=w.heap.size+1+1) (y:=zG) (m:=0) (kb:=none) (kc:=0) ⟨r3.trans hbz.os,r4.trans hbz.tape,r5.trans hbz.output,by rw[r6];exact hbz.size,fun k hk=>(r2 k om).trans (hbz.block k hk)⟩ om ⟨_,_,r1,rfl⟩ rfl (NlrQ _) True.intro (by rw[hE]) rfl (by rw[hE];rfl)
 | some p=>
   rw[hpi] at hown
   simp only[Option.getD_some] at hown
   obtain⟨pa,pc,rfl⟩:=zt hown
   obtain⟨m,hm⟩:∃m,m=(qx p).length:=⟨_,rfl⟩
   rw[←hm] at hown ⊢
   have hpl:m=p.length:=by rw[hm,zZ]
   simp only[Option.isSome_some]
   obtain⟨u,hu,huid⟩:=qE id t _ hpi
   have hE:=jm (tx:=tx) hpi hu
   rw[←HPR.out] at hE
   have hus:=Y6 p t u hu
   have hsz:=HSZ.out
   obtain⟨⟨n0,n1,n2,n3⟩,m1,m4⟩:=HCE.out W2 hb2
   have hB2:=hb2.size
   have hBs:=HB.out.2.1
   have hal:=zjX W2 (E:=fun _=>False) (S:=S) (SS:=S) (RR:=fun _=>True) (.agg #[.int .i64 t.id,.int .i64 t.kind,.string t.text,.slice ka nk tc]) t u ⟨u.id,u.kind,tx,u.kids⟩ p pa m pc (fun y hy=>⟨HTR.out.2 W2 hb2 y hy,fun h=>h⟩) (fun y hy=>⟨HTR.out.2 W2 hb2 y hy,fun h=>h⟩) (fun _ h=>h) (fun _ h=>h.elim) hpl om (HTR.out.1 W2 hb2) om ((Yd (l:=qx p) hown).1.kept fun y hy=>⟨⟨hy.2,fun h=>h⟩,rfl⟩) hu
    (zfF W2 S (HTR.out.2 W2 hb2) u (w.heap.size+1) tx om m4) (fun _ _ _ h=>h)
   obtain⟨y,hy⟩:∃y,y=zP t p ⟨u.id,u.kind,tx,u.kids⟩:=⟨_,rfl⟩
   rw[←hy] at hal hE
   have HAL:=Lib.hid hal
   have HG:=Lib.hid (aN hE hb2)
   have hmf:∀(fn:Fn) (first cap:Array Value) (w:World),(Instr.makeFunc fn first cap).run Try.prog w= .ok (.func fn first cap) w:=fun _ _ _ _=>rfl
   clear hal hown hm hpl hpi hu huid hE hus hsz hb2 hB2 hBs hy
   go_wp2_with fail
   refine HAL.out.mono ?_
   rintro e X ⟨_,rfl,⟨kb,kc,rfl,hkc,hkk⟩,k1,k2,k3,k4,k5,_⟩
   obtain⟨yn,hyn⟩:∃yn,yn=foLen y.kids:=⟨_,rfl⟩
   rw[←hyn] at hkc ⊢
   have hbx:Below W2.heap.size W2 X:=⟨k1,k2,k3,k4,fun z hz=>k5 z hz (fun h=>h)⟩
   have hbX:Below B.heap.size B X:=HG.out.2.trans (hbx.mono HG.out.2.size)
   have hr3:=(hbX.block _ (lohQ HB.out.2.2)).trans HB.out.2.2
   have hbz:Below w.heap.size w X:=HB.out.1.trans (hbX.mono HB.out.1.size)
   obtain⟨z0,z1,z2,z3⟩:=zH hr3
   have zf:∀j,X.frozen? ⟨w.heap.size+1+1,j,none⟩=false:=fun j=>forQ _ _ j _ _ hr3
   obtain⟨V,hV,r1,r2,r3,r4,r5,r6⟩:=zu (u0:= .int .i64 y.id) (u1:= .int .i64 y.kind) (u2:= .string y.text) (u3:= .slice kb yn kc) hr3
   have hBw:=HB.out.2.1
   have hWB:=HG.out.2.size
   have hok:zk V (fun z=>S z∨w.heap.size≤z∧z<V.heap.size) y.kids kb:=hkk.kept fun z hz=>by
    have hSz:=HTR.out.2 B (BrQ _ _)
    have hz2:(S z∨w.heap.size≤z∧z<V.heap.size)∧z≠w.heap.size+1+1:=by
     rcases hz with hz | hz
     · have h1:=HSW.out z hz
       exact⟨Or.inl hz,by omega⟩
     · exact⟨Or.inr ⟨by omega,by omega⟩,by omega⟩
    exact⟨hz2.1,r2 z hz2.2⟩
   have HE:=Lib.hid (aN hbz (aN hV (aN r1 (aN r2 (aN r3 (aN r4 (aN r5 (aN r6 (aN hok (aN hkc hyn))))))))))
   clear hmf hbX hr3 hbz hV r1 r2 r3 r4 r5 r6 hBw hWB hok hkk hkc hyn hbx k1 k2 k3 k4 k5 n0 n1 n2 n3 m1 m4
   exact sc9
abbrev Key:=Int×Int×ByteArray
def Tr.key (t:Tr):Key:=(t.id,t.kind,t.text)
def jL (p:Key→Bool)(k:Key):Nat:=if p k=true then 1 else 0
def qU (p:Key→Bool):Fo→Nat
 | .nil=>0
 | .node _ _ k l r=>jL p k+qU p l+qU p r
def yX (p:Key→Bool)(t:Tr):Nat:=jL p t.key+qU p t.kids
theorem JW (p:Key→Bool):∀(f:Fo) (i:Nat) (u:Tr),i≤foLen f→qU p (yR f i u)=qU p f+yX p u
 | f,0,u,_=>by rw[vk,qU,yX];simp only[Tr.key];omega
 | .nil,i+1,u,h=>by simp[foLen] at h
 | .node b o k l r,i+1,u,h=>by
   have:=JW p r i u ud6
   simp only[yR,qU,this];omega
theorem Qd (p:Key→Bool):∀(f:Fo) (i:Nat) (u:Tr),zB f i=some u→qU p (yA f i)+yX p u=qU p f
 | .nil,i,u,h=>by cases i<;>simp[zB,zm,qA] at h
 | .node b o k l r,0,u,h=>by
   simp only[zB,zm,qA] at h
   cases h
   simp only[yA,qU,yX,Tr.key];rw[show (k.1,k.2.1,k.2.2)=k from rfl];omega
 | .node b o k l r,i+1,u,h=>by
   have:=Qd p r i u ud9
   simp only[yA,qU];omega
theorem zcB (p:Key→Bool):∀(f:Fo) (i:Nat) (u v:Tr),zB f i=some u→qU p (vv f i v)+yX p u=qU p f+yX p v
 | .nil,i,_,_,h=>by cases i<;>simp[zB,zm,qA] at h
 | .node _ _ k l r,0,u,v,h=>by
   simp only[zB,zm,qA] at h
   cases h
   simp only[vv,qU,yX,Tr.key];rw[show (k.1,k.2.1,k.2.2)=k from rfl];omega
 | .node _ _ k l r,i+1,u,v,h=>by
   have:=zcB p r i u v ud9
   simp only[vv,qU];omega
theorem kR (p:Key→Bool):∀(q:List Nat) (t u x:Tr),atT t q=some u→yX p (zP t q x)+yX p u=yX p t+yX p x
 | [],t,u,x,h=>by cases h;simp only[zP];omega
 | i ::q,t,u,x,h=>by
   simp only[atT] at h
   simp only[zP]
   cases hk:zB t.kids i with
   | none=>rw[hk] at h;cases h
   | some v=>
     rw[hk] at h
     have h1:=kR p q v u x h
     have h2:=zcB p t.kids i v (zP v q x) hk
     simp only[yX,Tr.key] at h1 h2 ⊢
     omega
theorem zhl (p:Key→Bool){f:Fo}{i:Nat}{u:Tr}(h:zB f i=some u):yX p u≤qU p f:=by
 have:=Qd p f i u h;omega
theorem kC (p:Key→Bool):∀(q:List Nat) (t u:Tr),atT t q=some u→yX p u≤yX p t
 | [],t,u,h=>by cases h;omega
 | i ::q,t,u,h=>by
   simp only[atT] at h
   cases hk:zB t.kids i with
   | none=>rw[hk] at h;cases h
   | some v=>
     rw[hk] at h
     have h1:=kC p q v u h
     have h2:=zhl p hk
     simp only[yX] at h1 h2 ⊢
     omega
theorem JX (p:Key→Bool):∀(f:Fo) (d:Nat),(∃x∈spF d f,p x.2.1=true)↔0<qU p f
 | .nil,d=>by simp[spF,qU]
 | .node b o k l r,d=>by
   have h1:=JX p l (d+1)
   have h2:=JX p r d
   simp only[spF,qU,List.mem_cons,List.mem_append]
   constructor
   · rintro ⟨x,(rfl | hx | hx),hp⟩
     · rw[jL,ipQ hp];omega
     · have:=h1.1 ⟨x,hx,hp⟩;omega
     · have:=h2.1 ⟨x,hx,hp⟩;omega
   · intro h
     by_cases hk:p k=true
     · exact⟨_,Or.inl rfl,hk⟩
     · rw[jL,inQ hk] at h
       by_cases hl:0<qU p l
       · obtain⟨x,hx,hp⟩:=h1.2 hl;exact⟨x,Or.inr (Or.inl hx),hp⟩
       · obtain⟨x,hx,hp⟩:=h2.2 om;exact⟨x,Or.inr (Or.inr hx),hp⟩
theorem zfG (p:Key→Bool)(t:Tr):qU p (zh t)=yX p t:=by simp only[zh,qU,yX,Tr.key];omega
theorem zcC (p:Key→Bool)(t:Tr):(∃x∈spF 1 (zh t),p x.2.1=true)↔0<yX p t:=by rw[JX,zfG]
def QR (a:Int):Key→Bool:=fun k=>decide (k.1=a)
theorem JY (a:Int):∀f:Fo,qU (QR a) f=cntF a f
 | .nil=>rfl
 | .node b o k l r=>by
   simp only[qU,cntF,JY a l,JY a r,jL,QR,decide_eq_true_eq]
theorem vT (a:Int)(t:Tr):yX (QR a) t=qp a t:=by
 simp only[yX,qp,JY,jL,QR,Tr.key]
 by_cases h:t.id=a<;>simp[h]
theorem zbQ:∀f:Fo,qU (fun _=>true) f=za f
 | .nil=>rfl
 | .node b o k l r=>by simp only[qU,za,zbQ l,zbQ r,jL,ipQ];omega
theorem qh (t:Tr):yX (fun _=>true) t=za t.kids+1:=by simp only[yX,zbQ,jL,ipQ];omega
theorem zaJ:∀(q:List Nat) (t u x:Tr),atT t q=some u→x.id=u.id→(zP t q x).id=t.id
 | [],t,u,x,h,hx=>by cases h;exact hx
 | i ::q,t,u,x,h,hx=>by
   simp only[zP]
   cases hk:zB t.kids i with
   | none=>rfl
   | some v=>rfl
def yx (op id par at_:Int)(tx:ByteArray)(x t:Tr):Tr×Int:=
 if op=1 then zN par at_ x t else if op=2 then qm id t else if op=3 then yI id par at_ t else if op=4 then qQ id tx t else (zG,2)
inductive Fx (op id:Int) (tx:ByteArray) (x t y:Tr):Prop
 | ins (ho:op=1) (h:∀p,yX p y=yX p t+yX p x)
 | del (ho:op=2) (q:List Nat) (v:Tr) (hq:zw id t=some q) (hv:atT t q=some v) (h:∀p,yX p y+yX p v=yX p t)
 | mov (ho:op=3) (h:∀p,yX p y=yX p t)
 | wri (ho:op=4) (q:List Nat) (u:Tr) (hq:zw id t=some q) (hu:atT t q=some u) (h:∀p,yX p y+jL p u.key=yX p t+jL p (u.id,u.kind,tx))
theorem zaU {op id par at_:Int}{tx:ByteArray}{x t y:Tr}(h:yx op id par at_ tx x t=(y,0)):Fx op id tx x t y∧y.id=t.id:=by
 unfold yx at h
 split at h
 · rename_i ho
   unfold zN at h
   split at h
   · rename_i h0
     have hy:(kX par at_ t x).1=y:=(Prod.mk.inj h).1
     cases hp:zw par t with
     | none=>rw[jN hp] at h0;exact absurd h0 ue9
     | some q=>
       obtain⟨u,hu,_⟩:=qE _ _ _ hp
       rw[vo hp hu] at h0 hy
       split at h0
       · rename_i hc
         rw[ipQ hc] at hy
         simp only at hy
         subst hy
         refine⟨.ins ho fun p=>?_,zaJ q t u _ hu rfl⟩
         have h1:=kR p q t u ⟨u.id,u.kind,u.text,yR u.kids at_.toNat x⟩ hu
         have h2:=JW p u.kids at_.toNat x om
         have h3:yX p u=jL p u.key+qU p u.kids:=rfl
         have h4:yX p ⟨u.id,u.kind,u.text,yR u.kids at_.toNat x⟩=jL p u.key+qU p (yR u.kids at_.toNat x):=rfl
         omega
       · exact absurd (show (2:Int)=0 from h0) ue9
   · rename_i h0
     exact absurd (Prod.mk.inj h).2 h0
 · split at h
   · rename_i ho
     cases hp:zw id t with
     | none=>rw[Zq hp] at h;exact absurd (Prod.mk.inj h).2 ue9
     | some q0=>
       by_cases h0:q0= []
       · subst h0;rw[Zr hp] at h;exact absurd (Prod.mk.inj h).2 ue9
       · obtain⟨q,i,rfl⟩:∃p i,q0=p++[i]:=⟨q0.dropLast,q0.getLast h0,(List.dropLast_concat_getLast h0).symm⟩
         obtain⟨v,hv0,hvid⟩:=qE id t _ hp
         obtain⟨u,hu,hv⟩:=kQ q i t v hv0
         rw[Zp hp hu hv] at h
         have hy:=(Prod.mk.inj h).1
         subst hy
         refine⟨.del ho _ v hp hv0 fun p=>?_,zaJ q t u _ hu rfl⟩
         have h1:=kR p q t u ⟨u.id,u.kind,u.text,yA u.kids i⟩ hu
         have h2:=Qd p u.kids i v hv
         have h3:yX p u=jL p u.key+qU p u.kids:=rfl
         have h4:yX p ⟨u.id,u.kind,u.text,yA u.kids i⟩=jL p u.key+qU p (yA u.kids i):=rfl
         omega
   · split at h
     · rename_i ho
       obtain⟨q0,i,u,v,q,z,hi,hu,hv,hvid,hq,hz,ha,hb,hx⟩:=zax h
       obtain⟨w,hw⟩:∃w,w=zP t q0 ⟨u.id,u.kind,u.text,yA u.kids i⟩:=⟨_,rfl⟩
       rw[←hw] at hz hx
       subst hx
       have e1:=zaJ q w z ⟨z.id,z.kind,z.text,yR z.kids at_.toNat v⟩ hz rfl
       have e2:=zaJ q0 t u ⟨u.id,u.kind,u.text,yA u.kids i⟩ hu rfl
       rw[←hw] at e2
       refine⟨.mov ho fun p=>?_,e1.trans e2⟩
       have h1:=kR p q0 t u ⟨u.id,u.kind,u.text,yA u.kids i⟩ hu
       rw[←hw] at h1
       have h2:=Qd p u.kids i v hv
       have h3:yX p u=jL p u.key+qU p u.kids:=rfl
       have h4:yX p ⟨u.id,u.kind,u.text,yA u.kids i⟩=jL p u.key+qU p (yA u.kids i):=rfl
       have h5:=kR p q w z ⟨z.id,z.kind,z.text,yR z.kids at_.toNat v⟩ hz
       have h6:=JW p z.kids at_.toNat v om
       have h7:yX p z=jL p z.key+qU p z.kids:=rfl
       have h8:yX p ⟨z.id,z.kind,z.text,yR z.kids at_.toNat v⟩=jL p z.key+qU p (yR z.kids at_.toNat v):=rfl
       omega
     · split at h
       · rename_i ho
         cases hp:zw id t with
         | none=>rw[kH hp] at h;exact absurd (Prod.mk.inj h).2 ue9
         | some q=>
           obtain⟨u,hu,huid⟩:=qE id t _ hp
           rw[jm hp hu] at h
           have hy:=(Prod.mk.inj h).1
           subst hy
           refine⟨.wri ho q u hp hu fun p=>?_,zaJ q t u _ hu rfl⟩
           have h1:=kR p q t u ⟨u.id,u.kind,tx,u.kids⟩ hu
           have h3:yX p u=jL p u.key+qU p u.kids:=rfl
           have h4:yX p ⟨u.id,u.kind,tx,u.kids⟩=jL p (u.id,u.kind,tx)+qU p u.kids:=rfl
           omega
       · exact absurd (Prod.mk.inj h).2 ue9
theorem zd8:∀f:Fo,idF f=jK f
 | .nil=>rfl
 | .node b o k l r=>by rw[y8,idF,zd8 l,zd8 r]
theorem zea (t:Tr):idT t=jK (zh t):=by
 rw[zh,y8,idT,zd8];simp[jK,spF]
theorem Jw (a:Int)(t:Tr):a∈idT t↔0<qp a t:=by rw[zea,jo,Qe]
theorem zfT (t:Tr):(idT t).Nodup↔∀a,qp a t≤1:=by rw[zea];exact Qf t
theorem Qg :∀(r l:List Int) (e:Int),qw l r e=0→e=0∧(∀i∈r,1≤i∧i≤1125899906842624)∧r.Nodup∧∀i∈r,i∉l
 | [],l,e,h=>⟨h,fun _ h=>(by cases h),List.nodup_nil,fun _ h=>(by cases h)⟩
 | i :: r, l,e,h=>by
   rw[qw] at h
   split at h
   · exact absurd h ue9
   · rename_i hr
     obtain⟨h1,h2,h3,h4⟩:=Qg r _ _ h
     split at h1
     · exact absurd h1 ue9
     · rename_i ha
       have hil:i∉l:=fun hm=>ha (List.any_eq_true.2 ⟨i,hm,by simp⟩)
       refine⟨h1,fun j hj=>?_,List.nodup_cons.2 ⟨fun hm=>h4 i hm sp1,h3⟩,fun j hj=>?_⟩
       · rcases List.mem_cons.1 hj with rfl | hj
         · omega
         · exact h2 j hj
       · rcases List.mem_cons.1 hj with rfl | hj
         · exact hil
         · exact fun hm=>h4 j hj (List.mem_append_left _ hm)
theorem zcN:∀(r l:List Int),(∀i∈r,1≤i∧i≤1125899906842624)→r.Nodup→(∀i∈r,i∉l)→qw l r 0=0
 | [],l,_,_,_=>rfl
 | i ::r,l,h1,h2,h3=>by
   have hi:=h1 i (List.mem_cons_self ..)
   have h2':=List.nodup_cons.1 h2
   rw [qw,inQ om,inQ (fun ha=>by
    obtain⟨j,hj,e⟩:=List.any_eq_true.1 ha
    have e' :j=i:=by simpa using e
    exact h3 i (List.mem_cons_self ..) (e'▸hj))]
   refine zcN r _ (fun j hj=>h1 j (List.mem_cons_of_mem _ hj)) h2'.2 fun j hj hm=>?_
   rcases List.mem_append.1 hm with hm | hm
   · exact h3 j (List.mem_cons_of_mem _ hj) hm
   · have:j=i:=by simpa using hm
     exact h2'.1 (this▸hj)
theorem YH {par at_:Int}{x t y:Tr}(h:zN par at_ x t=(y,0)):∃q z,zw par t=some q∧atT t q=some z∧z.id=par∧0≤at_∧at_≤(foLen z.kids:Int)∧y=zP t q ⟨z.id,z.kind,z.text,yR z.kids at_.toNat x⟩∧qw (idT t) (idT x) 0=0:=by
 unfold zN at h
 split at h
 · rename_i h0
   have hy:(kX par at_ t x).1=y:=(Prod.mk.inj h).1
   have hf:=(Prod.mk.inj h).2
   cases hp:zw par t with
   | none=>rw[jN hp] at h0;exact absurd h0 ue9
   | some q=>
     obtain⟨z,hz,hid⟩:=qE _ _ _ hp
     rw[vo hp hz] at h0 hy
     split at h0
     · rename_i hc
       rw[ipQ hc] at hy
       exact⟨q,z,rfl,hz,hid,hc.1,hc.2,hy.symm,hf⟩
     · exact absurd (show (2:Int)=0 from h0) ue9
 · rename_i h0
   exact absurd (Prod.mk.inj h).2 h0
theorem zgF {id:Int}{tx:ByteArray}{t y:Tr}(h:qQ id tx t=(y,0)):∃p u,zw id t=some p∧atT t p=some u∧u.id=id∧y=zP t p ⟨u.id,u.kind,tx,u.kids⟩:=by
 cases hp:zw id t with
 | none=>rw[kH hp] at h;exact absurd (Prod.mk.inj h).2 ue9
 | some q=>
   obtain⟨u,hu,huid⟩:=qE id t _ hp
   rw[jm hp hu] at h
   exact⟨q,u,rfl,hu,huid,((Prod.mk.inj h).1).symm⟩
theorem Yh (id par at_:Int)(tx:ByteArray)(x t:Tr):yx 1 id par at_ tx x t=zN par at_ x t:=by unfold yx;rw[ipQ rfl]
theorem zjl (id par at_:Int)(tx:ByteArray)(x t:Tr):yx 2 id par at_ tx x t=qm id t:=by unfold yx;rw[inQ ue9,ipQ rfl]
theorem zck (id par at_:Int)(tx:ByteArray)(x t:Tr):yx 3 id par at_ tx x t=yI id par at_ t:=by unfold yx;rw[inQ ue9,inQ ue9,ipQ rfl]
theorem JA (id par at_:Int)(tx:ByteArray)(x t:Tr):yx 4 id par at_ tx x t=qQ id tx t:=by unfold yx;rw[inQ ue9,inQ ue9,inQ ue9,ipQ rfl]
theorem Za {op id par at_:Int}{tx:ByteArray}{x t y:Tr}(hd:qR t)(h:yx op id par at_ tx x t=(y,0)):qR y:=by
 have ht:=(Qf t).1 hd
 obtain⟨hfx,_⟩:=zaU h
 refine (Qf y).2 ?_
 cases hfx with
 | ins ho hh=>
   subst ho
   rw[Yh] at h
   obtain⟨q,z,_,_,_,_,_,_,hf⟩:=YH h
   obtain⟨_,h2,h3,h4⟩:=Qg _ _ _ hf
   have x1:=(zfT x).1 h3
   have hh' :∀a,qp a y=qp a t+qp a x:=fun a=>by have:=hh (QR a);rw[vT,vT,vT] at this;exact this
   intro a
   have h1:=hh' a
   have h2:=ht a
   have h3:=x1 a
   by_cases h5:0<qp a x
   · have:=h4 a ((Jw a x).2 h5)
     rw[Jw] at this;omega
   · omega
 | del ho q v hq hv hh=>
   have hh' :∀a,qp a y+qp a v=qp a t:=fun a=>by have:=hh (QR a);rw[vT,vT,vT] at this;exact this
   exact fun a=>by have:=hh' a;have:=ht a;omega
 | mov ho hh=>
   have hh' :∀a,qp a y=qp a t:=fun a=>by have:=hh (QR a);rw[vT,vT] at this;exact this
   exact fun a=>by have:=hh' a;have:=ht a;omega
 | wri ho q u hq hu hh=>
   have hh' :∀a,qp a y=qp a t:=fun a=>by
    have:=hh (QR a)
    rw[vT,vT,show jL (QR a) u.key=jL (QR a) (u.id,u.kind,tx) from rfl] at this;omega
   exact fun a=>by have:=hh' a;have:=ht a;omega
end Go.Proofs.Ytnikgofkldkdkaa
