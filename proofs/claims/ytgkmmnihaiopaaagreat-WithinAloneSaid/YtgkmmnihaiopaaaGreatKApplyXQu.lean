/-
  .
-/
import Derived.Test.YtgkmmnihaiopaaaGreatKAlong1Qu
import Derived.Deep.Cut
import Derived.Test.YtgkmmnihaiopaaaGreatKInsertQu
import Derived.Test.YtgkmmnihaiopaaaGreatKPlacePQu
import Derived.Test.YtgkmmnihaiopaaaGreatKApplyMQu
import Derived.Test.YtgkmmnihaiopaaaGreatKApplyIQu
import Derived.Test.YtgkmmnihaiopaaaGreatKApplyRQu
import Derived.Test.YtgkmmnihaiopaaaGreatKApplyWQu
import Derived.Test.YtgkmmnihaiopaaaGreatJPgQu
import Derived.Test.YtgkmmnihaiopaaaGreatJPsQu
set_option maxRecDepth 100000
set_option maxHeartbeats 40000000
set_option linter.unusedVariables false
set_option linter.unusedSimpArgs false
namespace Go.Proofs.YtgkmmnihaiopaaaGreat
open Go.RowKit Go.Shelf
theorem zfc (w:World) (S:Nat→Prop) (hS:∀y,S y→y<w.heap.size) (u:Tr) (sb:Nat) (tx:ByteArray) (hsl:sb<w.heap.size) (hc:w.cell? ⟨sb,4,none⟩=some (.string tx)):∀W,Below w.heap.size w W→W.heap.size=w.heap.size+4→ziK Tryz.prog W w.heap.size (fun _=>False) S S u 99 (.pointer (some ⟨sb,0,none⟩)) ⟨u.id,u.kind,tx,u.kids⟩ (fun _=>True):=fun W hb hs=>by
 refine⟨fun _ _=>rfl,fun X X1 b off sv xs hH k hlt hbl=>?_⟩
 obtain⟨a,c,rfl⟩:=zw k.own
 have hst:X1.cell? ⟨sb,4,none⟩=some (.string tx):=(World.cell?_of_block (a:=⟨sb,4,none⟩) ((k.h.kept sb om om (fun h=>h)).trans (hb.block sb hsl))).trans hc
 have c2:=k.c2
 have fz:=k.fz
 have HK:=Lib.hid (aN k (aN hH (aN hlt hbl)))
 clear k hH hlt hbl hc hsl hb
 go_enter Tryz.func99,Tryz.ntmps99
 go_wp2_with fail
 go_end0
 obtain⟨k,hH,hlt,hbl⟩:=HK.out
 obtain⟨X',hX'⟩:∃X',X'=X1.setCell ⟨b,off+2,none⟩ (.string tx):=⟨_,rfl⟩
 rw[←hX']
 have hco:∀i,i≠off+2→X'.cell? ⟨b,i,none⟩=X1.cell? ⟨b,i,none⟩:=fun i hi=>by
  rw[hX',World.cell?_setCell_other X1 ⟨b,off+2,none⟩ ⟨b,i,none⟩ _ (by intro e;cases e;exact hi rfl)]
 have hblk:∀y,y≠b→X'.heap[y]? =X1.heap[y]?:=fun y hy=>by rw[hX'];exact BhsQ _ _ _ _ hy
 have hSz:=hH.size
 obtain⟨hl,hlc⟩:=ZN (S':=fun y=>y≠b∧(S y∨(y=w.heap.size∨W.heap.size≤y))) k.own k.row rfl (fun y hy=>⟨by have:=hS y hy;rcases hbl with h | h<;>omega,Or.inl hy⟩) (fun y hy=>⟨by omega,Or.inr (Or.inr om)⟩)
 refine⟨rfl,by rw[hX'];rfl,by rw[hX'];rfl,by rw[hX'];rfl,by rw[hX'];simp[World.setCell],fun y _ hn _=>hblk y hn,fun j hj=>hco j om,⟨Or.inr hbl,?_,?_,?_,a,c,?_,hlc,hl.kept fun y hy=>⟨hy.2,hblk y hy.1⟩⟩,trivial⟩
 · rw[hco _ om];exact k.c0
 · rw[hco _ om];exact k.c1
 · rw[hX'];exact World.cell?_setCell_same' X1 _ _ (by rw[k.c2];rfl)
 · rw[hco _ om];exact k.c3
def vT (id:Int) (tx:ByteArray) (t:Tr):Tr×Int:=match zx id t with
 | none=>(zH,4)
 | some p=>match atT t p with
   | none=>(zH,4)
   | some u=>(zQ t p ⟨u.id,u.kind,tx,u.kids⟩,0)
theorem ZV {id:Int} {tx:ByteArray} {t:Tr} (h:zx id t=none):vT id tx t=(zH,4):=by unfold vT;rw[h]
theorem Z8 {id:Int} {tx:ByteArray} {t u:Tr} {p:List Nat} (h:zx id t=some p) (hu:atT t p=some u):vT id tx t=(zQ t p ⟨u.id,u.kind,tx,u.kids⟩,0):=by
 unfold vT;rw[h];simp only;rw[hu]
theorem zf6 (w:World) (S:Nat→Prop) (nv:Value) (t:Tr) (op id par at_ s1 s2:Int) (tx s3:ByteArray) (sa:Option Addr) (sn sc:Nat) (hS:∀y,S y→y<w.heap.size) (ht:zJ w S nv t) (hsz:zg t.kids≤100000):
 Calls Tryz.prog 80 #[nv,.agg #[.int .i8 op,.int .i64 id,.int .i64 par,.int .i64 at_,.string tx,.int .i64 s1,.int .i64 s2,.string s3,.slice sa sn sc]] w (jQ w S (vT id tx t)):=by
 obtain⟨ka,tc,rfl,hcap,hk⟩:=ht
 obtain⟨nk,hnk⟩:∃nk,nk=foLen t.kids:=⟨_,rfl⟩
 rw[←hnk]
 obtain⟨B,hB⟩:∃B,B=zt w [.cells #[.int .i64 t.id,.int .i64 t.kind,.string t.text,.slice ka nk tc] 27,.cells #[.int .i8 op,.int .i64 id,.int .i64 par,.int .i64 at_,.string tx,.int .i64 s1,.int .i64 s2,.string s3,.slice sa sn sc] 44,.cells #[.int .i64 0,.int .i64 0,.string ⟨#[]⟩,.slice none 0 0] 27]:=⟨_,rfl⟩
 have hb:Below w.heap.size w B:=by rw[hB];exact zm _ _
 have hs:B.heap.size=w.heap.size+3:=by rw[hB];exact zC _ _
 have ht0:B.heap[w.heap.size]? =some (.cells #[.int .i64 t.id,.int .i64 t.kind,.string t.text,.slice ka nk tc] 27 (0,0)):=by rw[hB];exact zi _ _ 0 _ rfl
 have hs0:B.heap[w.heap.size+1]? =some (.cells #[.int .i8 op,.int .i64 id,.int .i64 par,.int .i64 at_,.string tx,.int .i64 s1,.int .i64 s2,.string s3,.slice sa sn sc] 44 (0,0)):=by rw[hB];exact zi _ _ 1 _ rfl
 have hr0:B.heap[w.heap.size+1+1]? =some (.cells #[.int .i64 0,.int .i64 0,.string ⟨#[]⟩,.slice none 0 0] 27 (0,0)):=by rw[hB];exact zi _ _ 2 _ rfl
 have htr:∀X,Below B.heap.size B X→zJ X S (.agg #[.int .i64 t.id,.int .i64 t.kind,.string t.text,.slice ka nk tc]) t:=fun X hX=>⟨ka,tc,by rw[hnk],by rw[hnk] at*;exact hcap,hk.below (hb.trans (hX.mono hb.size)) hS⟩
 have hSX:∀X,Below B.heap.size B X→∀y,S y→y<X.heap.size:=fun X hX y hy=>nL (hS y hy) (Nat.le_trans hb.size hX.size)
 have hpath:∀(i:Int) (X:World),Below B.heap.size B X→Calls Tryz.prog 95 #[.agg #[.int .i64 t.id,.int .i64 t.kind,.string t.text,.slice ka nk tc],.int .i64 i] X (zb8 X (zx i t)):=fun i X hX=>ZO X S _ t i (hSX X hX) (htr X hX) om
 have hcell:∀X,Below B.heap.size B X→(X.cell? ⟨w.heap.size,0,none⟩=some (.int .i64 t.id)∧X.cell? ⟨w.heap.size,1,none⟩=some (.int .i64 t.kind)∧X.cell? ⟨w.heap.size,2,none⟩=some (.string t.text)∧X.cell? ⟨w.heap.size,3,none⟩=some (.slice ka nk tc))∧X.cell? ⟨w.heap.size+1,1,none⟩=some (.int .i64 id)∧X.cell? ⟨w.heap.size+1,4,none⟩=some (.string tx):=fun X hX=>by
  have e0:=(hX.block _ (lohQ ht0)).trans ht0
  have e1:=(hX.block _ (lohQ hs0)).trans hs0
  exact⟨zG e0,by rw[corQ _ _ 1 _ _ _ e1];rfl,by rw[corQ _ _ 4 _ _ _ e1];rfl⟩
 obtain⟨pr,hpr⟩:∃pr,pr=vT id tx t:=⟨_,rfl⟩
 rw[←hpr]
 have HP:=Lib.hid hpath
 have HCE:=Lib.hid hcell
 have HTR:=Lib.hid (aN htr hSX)
 have HB:=Lib.hid (aN hb (aN hs hr0))
 have HSZ:=Lib.hid hsz
 have HBE:=Lib.hid hB
 have HSW:=Lib.hid hS
 have HPR:=Lib.hid hpr
 clear hpath hcell htr hSX hb hs ht0 hs0 hr0 hS hk hcap hsz hnk hB hpr
 go_enter Tryz.func80,Tryz.ntmps80
 go_wp2_with fail
 change Calls _ _ _ (zt w [.cells #[.int .i64 t.id,.int .i64 t.kind,.string t.text,.slice ka nk tc] 27,.cells #[.int .i8 op,.int .i64 id,.int .i64 par,.int .i64 at_,.string tx,.int .i64 s1,.int .i64 s2,.string s3,.slice sa sn sc] 44,.cells #[.int .i64 0,.int .i64 0,.string ⟨#[]⟩,.slice none 0 0] 27]) _
 rw[←HBE.out]
 refine (HP.out id B (BrQ _ _)).mono ?_
 rintro e W2 ⟨pv,rfl,hown,hb2⟩
 cases hpi:zx id t with
 | none=>
   clear hown
   simp only[Option.isSome_none]
   have hE:pr=(zH,4):=by rw[HPR.out,ZV hpi]
   have hr3:=(hb2.block _ (lohQ HB.out.2.2)).trans HB.out.2.2
   have hbz:Below w.heap.size w W2:=HB.out.1.trans (hb2.mono HB.out.1.size)
   obtain⟨z0,z1,z2,z3⟩:=zG hr3
   have zf:∀j,W2.frozen? ⟨w.heap.size+1+1,j,none⟩=false:=fun j=>forQ _ _ j _ _ hr3
   obtain⟨V,hV,r1,r2,r3,r4,r5,r6⟩:=zA (u0:= .int .i64 0) (u1:= .int .i64 0) (u2:= .string ⟨#[]⟩) (u3:= .slice none 0 0) hr3
   have HE:=Lib.hid (aN hE (aN hbz (aN hr3 (aN hV (aN r1 (aN r2 (aN r3 (aN r4 (aN r5 r6)))))))))
   clear hE hbz hr3 hV r1 r2 r3 r4 r5 r6
   go_wp2_with fail
   rw[←HE.out.2.2.2.1]
   obtain⟨hE,hbz,hr3,hV,r1,r2,r3,r4,r5,r6⟩:=HE.out
   exact step_end (p:=4) (u:=5) rfl rfl (g:=w.heap.size+1+1) (y:=zH) (m:=0) (kb:=none) (kc:=0) ⟨r3.trans hbz.os,r4.trans hbz.tape,r5.trans hbz.output,by rw[r6];exact hbz.size,fun k hk=>(r2 k om).trans (hbz.block k hk)⟩ om ⟨_,_,r1,rfl⟩ rfl (Nat.le_refl _) True.intro (by rw[hE]) rfl (by rw[hE];rfl)
 | some p=>
   rw[hpi] at hown
   simp only[Option.getD_some] at hown
   obtain⟨pa,pc,rfl⟩:=zw hown
   obtain⟨m,hm⟩:∃m,m=(qh p).length:=⟨_,rfl⟩
   rw[←hm] at hown ⊢
   have hpl:m=p.length:=by rw[hm,zX]
   simp only[Option.isSome_some]
   obtain⟨u,hu,huid⟩:=vI id t _ hpi
   have hE:=Z8 (tx:=tx) hpi hu
   rw[←HPR.out] at hE
   have hus:=YS p t u hu
   have hsz:=HSZ.out
   obtain⟨⟨n0,n1,n2,n3⟩,m1,m4⟩:=HCE.out W2 hb2
   have hB2:=hb2.size
   have hBs:=HB.out.2.1
   have hal:=ziY W2 (E:=fun _=>False) (S:=S) (SS:=S) (RR:=fun _=>True) (.agg #[.int .i64 t.id,.int .i64 t.kind,.string t.text,.slice ka nk tc]) t u ⟨u.id,u.kind,tx,u.kids⟩ p pa m pc (fun y hy=>⟨HTR.out.2 W2 hb2 y hy,fun h=>h⟩) (fun y hy=>⟨HTR.out.2 W2 hb2 y hy,fun h=>h⟩) (fun _ h=>h) (fun _ h=>h.elim) hpl om (HTR.out.1 W2 hb2) om ((ZZ (l:=qh p) hown).1.kept fun y hy=>⟨⟨hy.2,fun h=>h⟩,rfl⟩) hu
    (zfc W2 S (HTR.out.2 W2 hb2) u (w.heap.size+1) tx om m4) (fun _ _ _ h=>h)
   obtain⟨y,hy⟩:∃y,y=zQ t p ⟨u.id,u.kind,tx,u.kids⟩:=⟨_,rfl⟩
   rw[←hy] at hal hE
   have HAL:=Lib.hid hal
   have HG:=Lib.hid (aN hE hb2)
   have hmf:∀(fn:Fn) (first cap:Array Value) (w:World),(Instr.makeFunc fn first cap).run Tryz.prog w= .ok (.func fn first cap) w:=fun _ _ _ _=>rfl
   clear hal hown hm hpl hpi hu huid hE hus hsz hb2 hB2 hBs hy
   go_wp2_with fail
   refine HAL.out.mono ?_
   rintro e X ⟨_,rfl,⟨kb,kc,rfl,hkc,hkk⟩,k1,k2,k3,k4,k5,_⟩
   obtain⟨yn,hyn⟩:∃yn,yn=foLen y.kids:=⟨_,rfl⟩
   rw[←hyn] at hkc ⊢
   have hbx:Below W2.heap.size W2 X:=⟨k1,k2,k3,k4,fun z hz=>k5 z hz (fun h=>h)⟩
   have hbX:Below B.heap.size B X:=HG.out.2.trans (hbx.mono HG.out.2.size)
   have hr3:=(hbX.block _ (lohQ HB.out.2.2)).trans HB.out.2.2
   have hbz:Below w.heap.size w X:=HB.out.1.trans (hbX.mono HB.out.1.size)
   obtain⟨z0,z1,z2,z3⟩:=zG hr3
   have zf:∀j,X.frozen? ⟨w.heap.size+1+1,j,none⟩=false:=fun j=>forQ _ _ j _ _ hr3
   obtain⟨V,hV,r1,r2,r3,r4,r5,r6⟩:=zA (u0:= .int .i64 y.id) (u1:= .int .i64 y.kind) (u2:= .string y.text) (u3:= .slice kb yn kc) hr3
   have hBw:=HB.out.2.1
   have hWB:=HG.out.2.size
   have hok:zu V (fun z=>S z∨w.heap.size≤z∧z<V.heap.size) y.kids kb:=hkk.kept fun z hz=>by
    have hSz:=HTR.out.2 B (BrQ _ _)
    have hz2:(S z∨w.heap.size≤z∧z<V.heap.size)∧z≠w.heap.size+1+1:=by
     rcases hz with hz | hz
     · have h1:=HSW.out z hz
       exact⟨Or.inl hz,by omega⟩
     · exact⟨Or.inr ⟨by omega,by omega⟩,by omega⟩
    exact⟨hz2.1,r2 z hz2.2⟩
   have HE:=Lib.hid (aN hbz (aN hV (aN r1 (aN r2 (aN r3 (aN r4 (aN r5 (aN r6 (aN hok (aN hkc hyn))))))))))
   clear hmf hbX hr3 hbz hV r1 r2 r3 r4 r5 r6 hBw hWB hok hkk hkc hyn hbx k1 k2 k3 k4 k5 n0 n1 n2 n3 m1 m4
   exact sd2
abbrev Key:=Int×Int×ByteArray
def Tr.key (t:Tr):Key:=(t.id,t.kind,t.text)
def jO (p:Key→Bool) (k:Key):Nat:=if p k=true then 1 else 0
def qN (p:Key→Bool):Fo→Nat
 | .nil=>0
 | .node _ _ k l r=>jO p k+qN p l+qN p r
def yS (p:Key→Bool) (t:Tr):Nat:=jO p t.key+qN p t.kids
theorem JJ (p:Key→Bool):∀(f:Fo) (i:Nat) (u:Tr),i≤foLen f→qN p (qA f i u)=qN p f+yS p u
 | f,0,u,_=>by rw[kD,qN,yS];simp only[Tr.key];omega
 | .nil,i+1,u,h=>by simp[foLen] at h
 | .node b o k l r,i+1,u,h=>by
   have:=JJ p r i u (by simp[foLen] at h;omega)
   simp only[qA,qN,this];omega
theorem YY (p:Key→Bool):∀(f:Fo) (i:Nat) (u:Tr),zB f i=some u→qN p (yo f i)+yS p u=qN p f
 | .nil,i,u,h=>by cases i<;>simp[zB,zq,yO] at h
 | .node b o k l r,0,u,h=>by
   simp only[zB,zq,yO] at h
   cases h
   simp only[yo,qN,yS,Tr.key];rw[show (k.1,k.2.1,k.2.2)=k from rfl];omega
 | .node b o k l r,i+1,u,h=>by
   have:=YY p r i u (by simpa [zB,zq] using h)
   simp only[yo,qN];omega
theorem zcl (p:Key→Bool):∀(f:Fo) (i:Nat) (u v:Tr),zB f i=some u→qN p (vD f i v)+yS p u=qN p f+yS p v
 | .nil,i,_,_,h=>by cases i<;>simp[zB,zq,yO] at h
 | .node _ _ k l r,0,u,v,h=>by
   simp only[zB,zq,yO] at h
   cases h
   simp only[vD,qN,yS,Tr.key];rw[show (k.1,k.2.1,k.2.2)=k from rfl];omega
 | .node _ _ k l r,i+1,u,v,h=>by
   have:=zcl p r i u v (by simpa [zB,zq] using h)
   simp only[vD,qN];omega
theorem kw (p:Key→Bool):∀(q:List Nat) (t u x:Tr),atT t q=some u→yS p (zQ t q x)+yS p u=yS p t+yS p x
 | [],t,u,x,h=>by cases h;simp only[zQ];omega
 | i ::q,t,u,x,h=>by
   simp only[atT] at h
   simp only[zQ]
   cases hk:zB t.kids i with
   | none=>rw[hk] at h;cases h
   | some v=>
     rw[hk] at h
     have h1:=kw p q v u x h
     have h2:=zcl p t.kids i v (zQ v q x) hk
     simp only[yS,Tr.key] at h1 h2 ⊢
     omega
theorem zgL (p:Key→Bool) {f:Fo} {i:Nat} {u:Tr} (h:zB f i=some u):yS p u≤qN p f:=by
 have:=YY p f i u h;omega
theorem jS (p:Key→Bool):∀(q:List Nat) (t u:Tr),atT t q=some u→yS p u≤yS p t
 | [],t,u,h=>by cases h;omega
 | i ::q,t,u,h=>by
   simp only[atT] at h
   cases hk:zB t.kids i with
   | none=>rw[hk] at h;cases h
   | some v=>
     rw[hk] at h
     have h1:=jS p q v u h
     have h2:=zgL p hk
     simp only[yS] at h1 h2 ⊢
     omega
theorem JK (p:Key→Bool):∀(f:Fo) (d:Nat),(∃x∈spF d f,p x.2.1=true)↔0<qN p f
 | .nil,d=>by simp[spF,qN]
 | .node b o k l r,d=>by
   have h1:=JK p l (d+1)
   have h2:=JK p r d
   simp only[spF,qN,List.mem_cons,List.mem_append]
   constructor
   · rintro ⟨x,(rfl | hx | hx),hp⟩
     · rw[jO,if_pos hp];omega
     · have:=h1.1 ⟨x,hx,hp⟩;omega
     · have:=h2.1 ⟨x,hx,hp⟩;omega
   · intro h
     by_cases hk:p k=true
     · exact⟨_,Or.inl rfl,hk⟩
     · rw[jO,if_neg hk] at h
       by_cases hl:0<qN p l
       · obtain⟨x,hx,hp⟩:=h1.2 hl;exact⟨x,Or.inr (Or.inl hx),hp⟩
       · obtain⟨x,hx,hp⟩:=h2.2 om;exact⟨x,Or.inr (Or.inr hx),hp⟩
theorem zfd (p:Key→Bool) (t:Tr):qN p (zl t)=yS p t:=by simp only[zl,qN,yS,Tr.key];omega
theorem zcm (p:Key→Bool) (t:Tr):(∃x∈spF 1 (zl t),p x.2.1=true)↔0<yS p t:=by rw[JK,zfd]
def zdZ (a:Int):Key→Bool:=fun k=>decide (k.1=a)
theorem JL (a:Int):∀f:Fo,qN (zdZ a) f=cntF a f
 | .nil=>rfl
 | .node b o k l r=>by
   simp only[qN,cntF,JL a l,JL a r,jO,zdZ,decide_eq_true_eq]
theorem zhY (a:Int) (t:Tr):yS (zdZ a) t=q8 a t:=by
 simp only[yS,q8,JL,jO,zdZ,Tr.key]
 by_cases h:t.id=a<;>simp[h]
theorem zbw:∀f:Fo,qN (fun _=>true) f=zg f
 | .nil=>rfl
 | .node b o k l r=>by simp only[qN,zg,zbw l,zbw r,jO,if_pos];omega
theorem y8 (t:Tr):yS (fun _=>true) t=zg t.kids+1:=by simp only[yS,zbw,jO,if_pos];omega
theorem QE:∀(q:List Nat) (t u x:Tr),atT t q=some u→x.id=u.id→(zQ t q x).id=t.id
 | [],t,u,x,h,hx=>by cases h;exact hx
 | i ::q,t,u,x,h,hx=>by
   simp only[zQ]
   cases hk:zB t.kids i with
   | none=>rfl
   | some v=>rfl
def yC (op id par at_:Int) (tx:ByteArray) (x t:Tr):Tr×Int:=
 if op=1 then zV par at_ x t else if op=2 then qp id t else if op=3 then yH id par at_ t else if op=4 then vT id tx t else (zH,2)
inductive Fx (op id:Int) (tx:ByteArray) (x t y:Tr):Prop
 | ins (ho:op=1) (h:∀p,yS p y=yS p t+yS p x)
 | del (ho:op=2) (q:List Nat) (v:Tr) (hq:zx id t=some q) (hv:atT t q=some v) (h:∀p,yS p y+yS p v=yS p t)
 | mov (ho:op=3) (h:∀p,yS p y=yS p t)
 | wri (ho:op=4) (q:List Nat) (u:Tr) (hq:zx id t=some q) (hu:atT t q=some u) (h:∀p,yS p y+jO p u.key=yS p t+jO p (u.id,u.kind,tx))
theorem zay {op id par at_:Int} {tx:ByteArray} {x t y:Tr} (h:yC op id par at_ tx x t=(y,0)):Fx op id tx x t y∧y.id=t.id:=by
 unfold yC at h
 split at h
 · rename_i ho
   unfold zV at h
   split at h
   · rename_i h0
     have hy:(Zv par at_ t x).1=y:=(Prod.mk.inj h).1
     cases hp:zx par t with
     | none=>rw[kK hp] at h0;exact absurd h0 (by decide)
     | some q=>
       obtain⟨u,hu,_⟩:=vI _ _ _ hp
       rw[vR hp hu] at h0 hy
       split at h0
       · rename_i hc
         rw[if_pos hc] at hy
         simp only at hy
         subst hy
         refine⟨.ins ho fun p=>?_,QE q t u _ hu rfl⟩
         have h1:=kw p q t u ⟨u.id,u.kind,u.text,qA u.kids at_.toNat x⟩ hu
         have h2:=JJ p u.kids at_.toNat x om
         have h3:yS p u=jO p u.key+qN p u.kids:=rfl
         have h4:yS p ⟨u.id,u.kind,u.text,qA u.kids at_.toNat x⟩=jO p u.key+qN p (qA u.kids at_.toNat x):=rfl
         omega
       · exact absurd (show (2:Int)=0 from h0) (by decide)
   · rename_i h0
     exact absurd (Prod.mk.inj h).2 h0
 · split at h
   · rename_i ho
     cases hp:zx id t with
     | none=>rw[Zg hp] at h;exact absurd (Prod.mk.inj h).2 (by decide)
     | some q0=>
       by_cases h0:q0= []
       · subst h0;rw[Zh hp] at h;exact absurd (Prod.mk.inj h).2 (by decide)
       · obtain⟨q,i,rfl⟩:∃p i,q0=p++[i]:=⟨q0.dropLast,q0.getLast h0,(List.dropLast_concat_getLast h0).symm⟩
         obtain⟨v,hv0,hvid⟩:=vI id t _ hp
         obtain⟨u,hu,hv⟩:=ko q i t v hv0
         rw[Zf hp hu hv] at h
         have hy:=(Prod.mk.inj h).1
         subst hy
         refine⟨.del ho _ v hp hv0 fun p=>?_,QE q t u _ hu rfl⟩
         have h1:=kw p q t u ⟨u.id,u.kind,u.text,yo u.kids i⟩ hu
         have h2:=YY p u.kids i v hv
         have h3:yS p u=jO p u.key+qN p u.kids:=rfl
         have h4:yS p ⟨u.id,u.kind,u.text,yo u.kids i⟩=jO p u.key+qN p (yo u.kids i):=rfl
         omega
   · split at h
     · rename_i ho
       obtain⟨q0,i,u,v,q,z,hi,hu,hv,hvid,hq,hz,ha,hb,hx⟩:=zcP h
       obtain⟨w,hw⟩:∃w,w=zQ t q0 ⟨u.id,u.kind,u.text,yo u.kids i⟩:=⟨_,rfl⟩
       rw[←hw] at hz hx
       subst hx
       have e1:=QE q w z ⟨z.id,z.kind,z.text,qA z.kids at_.toNat v⟩ hz rfl
       have e2:=QE q0 t u ⟨u.id,u.kind,u.text,yo u.kids i⟩ hu rfl
       rw[←hw] at e2
       refine⟨.mov ho fun p=>?_,e1.trans e2⟩
       have h1:=kw p q0 t u ⟨u.id,u.kind,u.text,yo u.kids i⟩ hu
       rw[←hw] at h1
       have h2:=YY p u.kids i v hv
       have h3:yS p u=jO p u.key+qN p u.kids:=rfl
       have h4:yS p ⟨u.id,u.kind,u.text,yo u.kids i⟩=jO p u.key+qN p (yo u.kids i):=rfl
       have h5:=kw p q w z ⟨z.id,z.kind,z.text,qA z.kids at_.toNat v⟩ hz
       have h6:=JJ p z.kids at_.toNat v om
       have h7:yS p z=jO p z.key+qN p z.kids:=rfl
       have h8:yS p ⟨z.id,z.kind,z.text,qA z.kids at_.toNat v⟩=jO p z.key+qN p (qA z.kids at_.toNat v):=rfl
       omega
     · split at h
       · rename_i ho
         cases hp:zx id t with
         | none=>rw[ZV hp] at h;exact absurd (Prod.mk.inj h).2 (by decide)
         | some q=>
           obtain⟨u,hu,huid⟩:=vI id t _ hp
           rw[Z8 hp hu] at h
           have hy:=(Prod.mk.inj h).1
           subst hy
           refine⟨.wri ho q u hp hu fun p=>?_,QE q t u _ hu rfl⟩
           have h1:=kw p q t u ⟨u.id,u.kind,tx,u.kids⟩ hu
           have h3:yS p u=jO p u.key+qN p u.kids:=rfl
           have h4:yS p ⟨u.id,u.kind,tx,u.kids⟩=jO p (u.id,u.kind,tx)+qN p u.kids:=rfl
           omega
       · exact absurd (Prod.mk.inj h).2 (by decide)
theorem zak (id par at_:Int) (t:Tr):zg (yH id par at_ t).1.kids≤zg t.kids+1:=by
 unfold yH
 split
 · split
   · simp[zH,zg]
   · split
     · simp[zH,zg]
     · exact Nat.le_trans (za9 _ _ _ _) (Nat.succ_le_succ (YK _ _ _))
 · simp[zH,zg]
theorem zdE (w:World) (S Sx:Nat→Prop) (nv:Value) (t x:Tr) (id par at_:Int) (tx:ByteArray) (sa:Option Addr) (sn sc:Nat) (hS:∀y,S y→y<w.heap.size) (hSx:∀y,Sx y→y<w.heap.size) (ht:zJ w S nv t) (hx:zJ w Sx (.agg #[.int .i64 x.id,.int .i64 x.kind,.string x.text,.slice sa sn sc]) x) (hsz:zg t.kids+1≤2000) (hxz:zg x.kids+1≤2000):
 Calls Tryz.prog 44 #[nv,.agg #[.int .i8 3,.int .i64 id,.int .i64 par,.int .i64 at_,.string tx,.int .i64 x.id,.int .i64 x.kind,.string x.text,.slice sa sn sc]] w (vM w S (yH id par at_ t)):=
 zdF w S Sx S nv t x id par at_ tx sa sn sc (yH id par at_ t) hS hSx hS ht hx hsz hxz (by have:=zak id par at_ t;omega) fun X hX=>
  zhk X S nv t 3 id par at_ x.id x.kind tx x.text sa sn sc (fun y hy=>nL (hS y hy) hX.size) (ht.kept fun y hy=>⟨hy,hX.block y (hS y hy)⟩) om
theorem zcf (w:World) (S Sx T:Nat→Prop) (nv:Value) (t x:Tr) (op id par at_:Int) (tx:ByteArray) (sa:Option Addr) (sn sc:Nat) (hS:∀y,S y→y<w.heap.size) (hSx:∀y,Sx y→y<w.heap.size) (ht:zJ w S nv t) (hx:zJ w Sx (.agg #[.int .i64 x.id,.int .i64 x.kind,.string x.text,.slice sa sn sc]) x) (hsz:zg t.kids+1≤2000) (hxz:zg x.kids+1≤2000) (hop:op<1∨5≤op) (hop8: -128≤op∧op≤127):
 Calls Tryz.prog 44 #[nv,.agg #[.int .i8 op,.int .i64 id,.int .i64 par,.int .i64 at_,.string tx,.int .i64 x.id,.int .i64 x.kind,.string x.text,.slice sa sn sc]] w (vM w T (zH,2)):=by
 obtain⟨ka,tc,rfl,hcap,hk⟩:=ht
 obtain⟨nk,hnk⟩:∃nk,nk=foLen t.kids:=⟨_,rfl⟩
 rw[←hnk]
 obtain⟨B,hB⟩:∃B,B=zt w [.cells #[.int .i64 t.id,.int .i64 t.kind,.string t.text,.slice ka nk tc] 27,.cells #[.int .i8 op,.int .i64 id,.int .i64 par,.int .i64 at_,.string tx,.int .i64 x.id,.int .i64 x.kind,.string x.text,.slice sa sn sc] 44,.cells #[.int .i64 0,.int .i64 0,.string ⟨#[]⟩,.slice none 0 0] 27]:=⟨_,rfl⟩
 have hb:Below w.heap.size w B:=by rw[hB];exact zm _ _
 have hs:B.heap.size=w.heap.size+3:=by rw[hB];exact zC _ _
 have ht0:B.heap[w.heap.size]? =some (.cells #[.int .i64 t.id,.int .i64 t.kind,.string t.text,.slice ka nk tc] 27 (0,0)):=by rw[hB];exact zi _ _ 0 _ rfl
 have hs0:B.heap[w.heap.size+1]? =some (.cells #[.int .i8 op,.int .i64 id,.int .i64 par,.int .i64 at_,.string tx,.int .i64 x.id,.int .i64 x.kind,.string x.text,.slice sa sn sc] 44 (0,0)):=by rw[hB];exact zi _ _ 1 _ rfl
 have hr0:B.heap[w.heap.size+1+1]? =some (.cells #[.int .i64 0,.int .i64 0,.string ⟨#[]⟩,.slice none 0 0] 27 (0,0)):=by rw[hB];exact zi _ _ 2 _ rfl
 have htr:∀X,Below B.heap.size B X→zJ X S (.agg #[.int .i64 t.id,.int .i64 t.kind,.string t.text,.slice ka nk tc]) t:=fun X hX=>⟨ka,tc,by rw[hnk],by rw[hnk] at*;exact hcap,hk.below (hb.trans (hX.mono hb.size)) hS⟩
 have hSX:∀X,Below B.heap.size B X→∀y,S y→y<X.heap.size:=fun X hX y hy=>nL (hS y hy) (Nat.le_trans hb.size hX.size)
 have hgt:∀X,Below B.heap.size B X→Calls Tryz.prog 62 #[.agg #[.int .i64 t.id,.int .i64 t.kind,.string t.text,.slice ka nk tc]] X _:=fun X hX=>qL X S _ t (hSX X hX) (htr X hX) hsz
 have hgx:∀X,Below B.heap.size B X→Calls Tryz.prog 62 #[.agg #[.int .i64 x.id,.int .i64 x.kind,.string x.text,.slice sa sn sc]] X _:=fun X hX=>qL X Sx _ x (fun y hy=>nL (hSx y hy) (Nat.le_trans hb.size hX.size)) (by
  obtain⟨qa,qc,e,h1,h2⟩:=hx
  exact⟨qa,qc,e,h1,h2.below (hb.trans (hX.mono hb.size)) hSx⟩) hxz
 have hcell:∀X,Below B.heap.size B X→(X.cell? ⟨w.heap.size,0,none⟩=some (.int .i64 t.id)∧X.cell? ⟨w.heap.size,1,none⟩=some (.int .i64 t.kind)∧X.cell? ⟨w.heap.size,2,none⟩=some (.string t.text)∧X.cell? ⟨w.heap.size,3,none⟩=some (.slice ka nk tc))∧(X.cell? ⟨w.heap.size+1,0,none⟩=some (.int .i8 op)∧X.cell? ⟨w.heap.size+1,1,none⟩=some (.int .i64 id)∧X.cell? ⟨w.heap.size+1,2,none⟩=some (.int .i64 par)∧X.cell? ⟨w.heap.size+1,3,none⟩=some (.int .i64 at_)∧X.cell? ⟨w.heap.size+1,4,none⟩=some (.string tx)∧X.cell? ⟨w.heap.size+1,5,none⟩=some (.int .i64 x.id)∧X.cell? ⟨w.heap.size+1,6,none⟩=some (.int .i64 x.kind)∧X.cell? ⟨w.heap.size+1,7,none⟩=some (.string x.text)∧X.cell? ⟨w.heap.size+1,8,none⟩=some (.slice sa sn sc)):=fun X hX=>by
  exact sb3
 have HG:=Lib.hid (aN hgt hgx)
 have HCE:=Lib.hid hcell
 have HB:=Lib.hid (aN hb (aN hs hr0))
 have HBE:=Lib.hid hB
 clear hgt hgx hcell htr hSX hb hs ht0 hs0 hr0 hS hSx hk hcap hsz hxz hnk hB hx
 go_enter Tryz.func44,Tryz.ntmps44
 go_wp2_with fail
 change Calls _ _ _ (zt w [.cells #[.int .i64 t.id,.int .i64 t.kind,.string t.text,.slice ka nk tc] 27,.cells #[.int .i8 op,.int .i64 id,.int .i64 par,.int .i64 at_,.string tx,.int .i64 x.id,.int .i64 x.kind,.string x.text,.slice sa sn sc] 44,.cells #[.int .i64 0,.int .i64 0,.string ⟨#[]⟩,.slice none 0 0] 27]) _
 rw[←HBE.out]
 refine (HG.out.1 B (BrQ _ _)).mono ?_
 rintro e W1 ⟨rfl,hb1⟩
 obtain⟨⟨n0,n1,n2,n3⟩,m0,m1,m2,m3,m4,m5,m6,m7,m8⟩:=HCE.out W1 hb1
 have H1:=Lib.hid hb1
 clear hb1
 go_wp2_with fail
 refine (HG.out.2 W1 H1.out).mono ?_
 rintro e W2 ⟨rfl,hb12⟩
 have hb2:Below B.heap.size B W2:=H1.out.trans (hb12.mono H1.out.size)
 clear n0 n1 n2 n3 m0 m1 m2 m3 m4 m5 m6 m7 m8 H1 hb12
 obtain⟨⟨n0,n1,n2,n3⟩,m0,m1,m2,m3,m4,m5,m6,m7,m8⟩:=HCE.out W2 hb2
 have HOP:=Lib.hid (qU W2)
 have H2:=Lib.hid hb2
 clear hb2
 go_wp2_with fail
 refine HOP.out.mono ?_
 rintro e W3 ⟨rfl,hb23⟩
 unfold opsV
 have hb3:Below B.heap.size B W3:=H2.out.trans (hb23.mono H2.out.size)
 obtain⟨W4,hW4⟩:∃W4,W4=W3.alloc (.cells #[.nilFunc,.func (.func 77) #[] #[],.func (.func 78) #[] #[],.func (.func 79) #[] #[],.func (.func 80) #[] #[]] 105):=⟨_,rfl⟩
 have hb34:Below W3.heap.size W3 W4:=by rw[hW4];exact (BrQ _ _).alloc (Nat.le_refl _) _
 have ho4:W4.heap[W3.heap.size]? =some zhm:=by rw[hW4];exact hanQ W3 _
 have hb4:Below B.heap.size B W4:=hb3.trans (hb34.mono hb3.size)
 have hc4:∀X,Below W4.heap.size W4 X→((X.cell? ⟨w.heap.size,0,none⟩=some (.int .i64 t.id)∧X.cell? ⟨w.heap.size,1,none⟩=some (.int .i64 t.kind)∧X.cell? ⟨w.heap.size,2,none⟩=some (.string t.text)∧X.cell? ⟨w.heap.size,3,none⟩=some (.slice ka nk tc))∧(X.cell? ⟨w.heap.size+1,0,none⟩=some (.int .i8 op)∧X.cell? ⟨w.heap.size+1,1,none⟩=some (.int .i64 id)∧X.cell? ⟨w.heap.size+1,2,none⟩=some (.int .i64 par)∧X.cell? ⟨w.heap.size+1,3,none⟩=some (.int .i64 at_)∧X.cell? ⟨w.heap.size+1,4,none⟩=some (.string tx)∧X.cell? ⟨w.heap.size+1,5,none⟩=some (.int .i64 x.id)∧X.cell? ⟨w.heap.size+1,6,none⟩=some (.int .i64 x.kind)∧X.cell? ⟨w.heap.size+1,7,none⟩=some (.string x.text)∧X.cell? ⟨w.heap.size+1,8,none⟩=some (.slice sa sn sc))):=fun X hX=>HCE.out X (hb4.trans (hX.mono hb4.size))
 clear n0 n1 n2 n3 m0 m1 m2 m3 m4 m5 m6 m7 m8 HOP hb23
 have HB4:=Lib.hid hb4
 have HC4:=Lib.hid hc4
 have HW4:=Lib.hid hW4
 obtain⟨⟨n0,n1,n2,n3⟩,m0,m1,m2,m3,m4,m5,m6,m7,m8⟩:=HCE.out W4 hb4
 clear hb3 hb34 ho4 hb4 hW4 hc4
 go_upto_region 4 with fail
 change Code.wp _ _ _ _ (W3.alloc (.cells #[.nilFunc,.func (.func 77) #[] #[],.func (.func 78) #[] #[],.func (.func 79) #[] #[],.func (.func 80) #[] #[]] 105))
 rw[←HW4.out]
 by_cases h1:op<1
 · clear hop hop8
   exact sc0
 · have h5:5≤op:=by omega
   have hw:IntKind.i64.wrap op=op:=IntWalk.i64_in _ om
   clear hop hop8
   exact sc0
theorem vM.mono {w:World} {T T' :Nat→Prop} {r:Tr×Int} {e:Ending} {w' :World} (h:vM w T r e w') (hT:∀y,T y→T' y):vM w T' r e w':=by
 obtain⟨v,e1,h1,h2⟩:=h
 exact⟨v,e1,h1.kept fun y hy=>⟨⟨hy.1,hy.2.imp (hT y) (fun h=>h)⟩,rfl⟩,h2⟩
theorem YZ (par at_:Int) (x t:Tr):zg (zV par at_ x t).1.kids≤zg t.kids+zg x.kids+1:=by
 unfold zV
 split
 · exact za9 par at_ t x
 · simp[zH,zg]
theorem Qb (id:Int) (t:Tr):zg (qp id t).1.kids≤zg t.kids:=by
 unfold qp
 split
 · simp[zH,zg]
 · split
   · simp[zH,zg]
   · have:=YK t;exact Nat.le_trans (Nat.le_add_right _ _) (this _ _)
theorem Q7 (id:Int) (tx:ByteArray) (t:Tr):zg (vT id tx t).1.kids≤zg t.kids:=by
 unfold vT
 split
 · simp[zH,zg]
 · split
   · simp[zH,zg]
   · rename_i p _ _ u hu
     have:=vS p t u ⟨u.id,u.kind,tx,u.kids⟩ hu
     simp only at this ⊢;omega
theorem Qt {op:Int} (h:(Lit.int .i8 op).wf=true): -128≤op∧op≤127:=by
 simp[Lit.wf] at h
 have e1:IntKind.i8.min= -128:=by decide
 have e2:IntKind.i8.max=127:=by decide
 omega
theorem ze7 (w:World) (S Sx:Nat→Prop) (nv:Value) (t x:Tr) (op id par at_:Int) (tx:ByteArray) (sa:Option Addr) (sn sc:Nat) (hS:∀y,S y→y<w.heap.size) (hSx:∀y,Sx y→y<w.heap.size) (ht:zJ w S nv t) (hx:zJ w Sx (.agg #[.int .i64 x.id,.int .i64 x.kind,.string x.text,.slice sa sn sc]) x) (hsz:zg t.kids+1≤2000) (hxz:zg x.kids+1≤2000) (hop:(Lit.int .i8 op).wf=true) (hok:∀i∈idT t,(Lit.int .i64 i).wf=true) (hxk:∀i∈idT x,(Lit.int .i64 i).wf=true):
 Calls Tryz.prog 44 #[nv,.agg #[.int .i8 op,.int .i64 id,.int .i64 par,.int .i64 at_,.string tx,.int .i64 x.id,.int .i64 x.kind,.string x.text,.slice sa sn sc]] w (vM w (fun y=>S y∨Sx y) (yC op id par at_ tx x t)):=by
 have hX:∀X,Below w.heap.size w X→(∀y,S y→y<X.heap.size)∧zJ X S nv t:=fun X h=>⟨fun y hy=>nL (hS y hy) h.size,ht.kept fun y hy=>⟨hy,h.block y (hS y hy)⟩⟩
 unfold yC
 split
 · rename_i h1
   subst h1
   refine zbq w S Sx _ nv t x id par at_ tx sa sn sc _ hS hSx (fun y hy=>hy.elim (hS y) (hSx y)) ht hx hsz hxz (by have:=YZ par at_ x t;omega) fun X h=>?_
   exact zdX X S nv t 1 id par at_ x.id x.kind tx x.text sa sn sc (hX X h).1 (hX X h).2 om Sx x (fun y hy=>nL (hSx y hy) h.size) (hx.kept fun y hy=>⟨hy,h.block y (hSx y hy)⟩) hxz hsz hok hxk
 · split
   · rename_i h1
     subst h1
     refine Calls.mono (zbr w S Sx S nv t x id par at_ tx sa sn sc _ hS hSx hS ht hx hsz hxz (by have:=Qb id t;omega) fun X h=>?_) fun e w' h=>h.mono fun y hy=>Or.inl hy
     exact zec X S nv t 2 id par at_ x.id x.kind tx x.text sa sn sc (hX X h).1 (hX X h).2 om
   · split
     · rename_i h1
       subst h1
       exact Calls.mono (zdE w S Sx nv t x id par at_ tx sa sn sc hS hSx ht hx hsz hxz) fun e w' h=>h.mono fun y hy=>Or.inl hy
     · split
       · rename_i h1
         subst h1
         refine Calls.mono (zcg w S Sx S nv t x id par at_ tx sa sn sc _ hS hSx hS ht hx hsz hxz (by have:=Q7 id tx t;omega) fun X h=>?_) fun e w' h=>h.mono fun y hy=>Or.inl hy
         exact zf6 X S nv t 4 id par at_ x.id x.kind tx x.text sa sn sc (hX X h).1 (hX X h).2 om
       · exact zcf w S Sx _ nv t x op id par at_ tx sa sn sc hS hSx ht hx hsz hxz om (Qt hop)
end Go.Proofs.YtgkmmnihaiopaaaGreat
