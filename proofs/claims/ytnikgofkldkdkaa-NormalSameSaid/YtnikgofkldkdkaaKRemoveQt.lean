/-
  .
-/
import Derived.Test.YtnikgofkldkdkaaKTakeAQt
set_option maxRecDepth 100000
set_option maxHeartbeats 40000000
set_option linter.unusedVariables false
set_option linter.unusedSimpArgs false
namespace Go.Proofs.Ytnikgofkldkdkaa
open Go.RowKit Go.Shelf
theorem kQ:∀(q:List Nat) (i:Nat) (t v:Tr),atT t (q++[i])=some v→∃u,atT t q=some u∧zB u.kids i=some v
 | [],i,t,v,h=>by
   rw[List.nil_append,atT] at h
   cases hk:zB t.kids i with
   | none=>rw[hk] at h;cases h
   | some x=>rw[hk] at h;exact⟨t,rfl,by rw[hk];simpa [atT] using h⟩
 | j ::q,i,t,v,h=>by
   rw[List.cons_append,atT] at h
   cases hk:zB t.kids j with
   | none=>rw[hk] at h;cases h
   | some x=>
     rw[hk] at h
     obtain⟨u,h1,h2⟩:=kQ q i x v h
     exact⟨u,by rw[atT,hk];exact h1,h2⟩
def yI (id par at_:Int)(t:Tr):Tr×Int:=match zw id t,zw par t with
 | some p,some _=>if p= [] then (zG,90) else if vz id par t=true then (zG,91) else kX par at_ (ZG t p.dropLast (p.getLastD 0)).1 (ZG t p.dropLast (p.getLastD 0)).2
 | _,_=>(zG,4)
theorem Qp {id par at_:Int}{t:Tr}(h:zw id t=none):yI id par at_ t=(zG,4):=by unfold yI;rw[h]
theorem QU {id par at_:Int}{t:Tr}(h:zw par t=none):yI id par at_ t=(zG,4):=by unfold yI;rw[h];cases zw id t<;>rfl
theorem YJ {id par at_:Int}{t:Tr}{q:List Nat}(h:zw id t=some [])(h2:zw par t=some q):yI id par at_ t=(zG,90):=by unfold yI;rw[h,h2];rfl
theorem YI {id par at_:Int}{t:Tr}{p q:List Nat}(h:zw id t=some p)(h2:zw par t=some q)(hp:p≠[])(hw:vz id par t=true):yI id par at_ t=(zG,91):=by unfold yI;rw[h,h2];simp only;rw[inQ hp,ipQ hw]
theorem Qo {id par at_:Int}{t u v:Tr}{p q:List Nat}{i:Nat}(h:zw id t=some (p++[i]))(h2:zw par t=some q)(hw:vz id par t=false)(hu:atT t p=some u)(hv:zB u.kids i=some v):yI id par at_ t=kX par at_ (zP t p ⟨u.id,u.kind,u.text,yA u.kids i⟩) v:=by
 have ht:ZG t p i=(zP t p ⟨u.id,u.kind,u.text,yA u.kids i⟩,v):=by unfold ZG;rw[hu];simp only;rw[hv]
 have hd:(p++[i]).dropLast=p:=by simp
 have hl:(p++[i]).getLastD 0=i:=by simp[List.getLastD_eq_getLast?]
 unfold yI;rw[h,h2];simp only
 rw[inQ sp1,inQ (by rw[hw];exact Bool.false_ne_true),hd,hl,ht]
theorem zhV (w :World)(S:Nat→Prop)(nv:Value)(t:Tr)(op id par at_ s1 s2:Int)(tx s3:ByteArray)(sa:Option Addr)(sn sc:Nat)(hS:∀y,S y→y<w.heap.size)(ht:zK w S nv t)(hsz:za t.kids≤300000):
 Calls Try.prog 55 #[nv,.agg #[.int .i8 op,.int .i64 id,.int .i64 par,.int .i64 at_,.string tx,.int .i64 s1,.int .i64 s2,.string s3,.slice sa sn sc]] w (j6 w S (yI id par at_ t)):=by
 obtain⟨ka,tc,rfl,hcap,hk⟩:=ht
 obtain⟨nk,hnk⟩:∃nk,nk=foLen t.kids:=⟨_,rfl⟩
 rw[←hnk]
 obtain⟨B,hB⟩:∃B,B=zx w [.cells #[.int .i64 t.id,.int .i64 t.kind,.string t.text,.slice ka nk tc] 27,.cells #[.int .i8 op,.int .i64 id,.int .i64 par,.int .i64 at_,.string tx,.int .i64 s1,.int .i64 s2,.string s3,.slice sa sn sc] 49,.cells #[.int .i64 0,.int .i64 0,.string ⟨#[]⟩,.slice none 0 0] 27]:=⟨_,rfl⟩
 have hb:Below w.heap.size w B:=by rw[hB];exact zl _ _
 have hs:B.heap.size=w.heap.size+3:=by rw[hB];exact zJ _ _
 have ht0:B.heap[w.heap.size]? =some (.cells #[.int .i64 t.id,.int .i64 t.kind,.string t.text,.slice ka nk tc] 27 (0,0)):=by rw[hB];exact ze _ _ 0 _ rfl
 have hs0:B.heap[w.heap.size+1]? =some (.cells #[.int .i8 op,.int .i64 id,.int .i64 par,.int .i64 at_,.string tx,.int .i64 s1,.int .i64 s2,.string s3,.slice sa sn sc] 49 (0,0)):=by rw[hB];exact ze _ _ 1 _ rfl
 have hr0:B.heap[w.heap.size+1+1]? =some (.cells #[.int .i64 0,.int .i64 0,.string ⟨#[]⟩,.slice none 0 0] 27 (0,0)):=by rw[hB];exact ze _ _ 2 _ rfl
 have htr:∀X,Below B.heap.size B X→zK X S (.agg #[.int .i64 t.id,.int .i64 t.kind,.string t.text,.slice ka nk tc]) t:=fun X hX=>⟨ka,tc,by rw[hnk],by rw[hnk] at*;exact hcap,hk.below (hb.trans (hX.mono hb.size)) hS⟩
 have hSX:∀X,Below B.heap.size B X→∀y,S y→y<X.heap.size:=fun X hX y hy=>nL (hS y hy) (NltQ hb.size hX.size)
 have hpath:∀(i:Int) (X:World),Below B.heap.size B X→Calls Try.prog 88 #[.agg #[.int .i64 t.id,.int .i64 t.kind,.string t.text,.slice ka nk tc],.int .i64 i] X (zcs X (zw i t)):=fun i X hX=>ZZ X S _ t i (hSX X hX) (htr X hX) om
 have hwith:∀(X:World),Below B.heap.size B X→Calls Try.prog 90 #[.agg #[.int .i64 t.id,.int .i64 t.kind,.string t.text,.slice ka nk tc],.int .i64 id,.int .i64 par] X _:=fun X hX=>zeQ X S _ t id par (hSX X hX) (htr X hX) om
 have hcell:∀X,Below B.heap.size B X→(uf1 X w.heap.size t.id t.kind t.text ka nk tc)∧X.cell? ⟨w.heap.size+1,1,none⟩=some (.int .i64 id)∧X.cell? ⟨w.heap.size+1,2,none⟩=some (.int .i64 par)∧X.cell? ⟨w.heap.size+1,3,none⟩=some (.int .i64 at_):=fun X hX=>by
  have e0:=(hX.block _ (lohQ ht0)).trans ht0
  have e1:=(hX.block _ (lohQ hs0)).trans hs0
  exact⟨zH e0,by rw[corQ _ _ 1 _ _ _ e1];rfl,by rw[corQ _ _ 2 _ _ _ e1];rfl,by rw[corQ _ _ 3 _ _ _ e1];rfl⟩
 obtain⟨pr,hpr⟩:∃pr,pr=yI id par at_ t:=⟨_,rfl⟩
 rw[←hpr]
 have HP:=hH hpath
 have HWI:=hH hwith
 have HCE:=hH hcell
 have HTR:=hH (aN htr hSX)
 have HB:=hH (aN hb (aN hs hr0))
 have HSZ:=hH hsz
 have HBE:=hH hB
 have HSW:=hH hS
 have HPR:=hH hpr
 clear hpath hwith hcell htr hSX hb hs ht0 hs0 hr0 hS hk hcap hsz hnk hB hpr
 go_enter Try.func55,Try.ntmps55
 go_wp2_with fail
 change Calls _ _ _ (zx w [.cells #[.int .i64 t.id,.int .i64 t.kind,.string t.text,.slice ka nk tc] 27,.cells #[.int .i8 op,.int .i64 id,.int .i64 par,.int .i64 at_,.string tx,.int .i64 s1,.int .i64 s2,.string s3,.slice sa sn sc] 49,.cells #[.int .i64 0,.int .i64 0,.string ⟨#[]⟩,.slice none 0 0] 27]) _
 rw[←HBE.out]
 refine (HP.out id B (BrQ _ _)).mono ?_
 rintro e W1 ⟨pv,rfl,hown,hb1⟩
 obtain⟨⟨n0,n1,n2,n3⟩,m1,m2,m3⟩:=HCE.out W1 hb1
 have H1:=hH (aN hown hb1)
 clear hown hb1
 go_wp2_with fail
 refine (HP.out par W1 H1.out.2).mono ?_
 rintro e W2 ⟨pv2,rfl,_,hb12⟩
 have hb2:Below B.heap.size B W2:=H1.out.2.trans (hb12.mono H1.out.2.size)
 have hown:W2.ownsRow B.heap.size 3 1 pv _ _:=zA (w':=W2) H1.out.1 (fun g cur hg _=>hb12.block g (lohQ hg))
 clear n0 n1 n2 n3 m1 m2 m3 hb12 H1
 cases hpi:zw id t with
 | none=>
   clear hown
   cases hpp:zw par t with
   | none=>
     simp only[Option.isSome_none]
     have hE:pr=(zG,4):=by rw[HPR.out,Qp hpi]
     exact sa5
   | some q=>
     simp only[Option.isSome_none,Option.isSome_some]
     have hE:pr=(zG,4):=by rw[HPR.out,Qp hpi]
     exact sa5
 | some p =>
   cases hpp:zw par t with
   | none=>
     clear hown
     simp only[Option.isSome_none,Option.isSome_some]
     have hE:pr=(zG,4):=by rw[HPR.out,QU hpp]
     exact sa5
   | some q =>
     rw[hpi] at hown
     simp only[Option.getD_some] at hown
     obtain⟨pa,pc,rfl⟩:=zt hown
     obtain⟨m,hm⟩:∃m,m=(qx p).length:=⟨_,rfl⟩
     rw[←hm] at hown ⊢
     have hpl:m=p.length:=by rw[hm,zZ]
     simp only[Option.isSome_some]
     by_cases hp0:p= []
     · have hm0:m=0:=by rw[hpl,hp0];rfl
       subst hm0
       have hE0:pr=(zG,90):=by rw[HPR.out,YJ (by rw[hpi,hp0]) hpp]
       clear hown hm hpl hp0 hpi hpp
       have hE:pr=(zG,90):=hE0
       exact sa5
     · obtain ⟨p',i,rfl⟩:∃p' i,p=p'++[i]:=⟨p.dropLast,p.getLast hp0,(List.dropLast_concat_getLast hp0).symm⟩
       have hm1:(m:Int)≠0:=by rw[hpl];simp;omega
       obtain⟨v,hv0,hvid⟩:=qE id t _ hpi
       obtain⟨u,hu,hv⟩:=kQ p' i t v hv0
       obtain⟨⟨n0,n1,n2,n3⟩,m1,m2,m3⟩:=HCE.out W2 hb2
       have HQ:=hH (aN hown (aN hm (aN hpl (aN hpi (aN hpp (aN hu (aN hv hb2)))))))
       clear hown hm hpl hp0 hpi hpp hv0 hu hv hvid
       go_wp2_with fail
       refine (HWI.out W2 hb2).mono ?_
       rintro e W3 ⟨rfl,hb23⟩
       have hb3:Below B.heap.size B W3:=hb2.trans (hb23.mono hb2.size)
       clear n0 n1 n2 n3 m1 m2 m3
       obtain⟨hown,hm,hpl,hpi,hpp,hu,hv,_⟩:=HQ.out
       cases hwi:vz id par t with
       | true=>
         have hE0:pr=(zG,91):=by rw[HPR.out,YI hpi hpp sp1 hwi]
         clear hown hm hpl hpi hpp hu hv hwi HQ hb23 hb2
         have hE:pr=(zG,91):=hE0
         have hr3:=(hb3.block _ (lohQ HB.out.2.2)).trans HB.out.2.2
         have hbz:Below w.heap.size w W3:=HB.out.1.trans (hb3.mono HB.out.1.size)
         obtain⟨z0,z1,z2,z3⟩:=zH hr3
         have zf:∀j,W3.frozen? ⟨w.heap.size+1+1,j,none⟩=false:=fun j=>forQ _ _ j _ _ hr3
         exact sa6
       | false =>
         have hE:=Qo (at_:=at_) hpi hpp hwi hu hv
         rw[←HPR.out] at hE
         have hown3:=zA (w':=W3) hown (fun g cur hg _=>hb23.block g (lohQ hg))
         have htk:=zdA W3 S (.agg #[.int .i64 t.id,.int .i64 t.kind,.string t.text,.slice ka nk tc]) t u v p' i pa m pc (HTR.out.2 W3 hb3) (HTR.out.1 W3 hb3) HSZ.out hu hv (by rw[hpl,LlaQ];rfl) ((Yd (l:=qx (p'++[i])) hown3).1.kept fun y hy=>⟨hy.2,rfl⟩)
         have hts:=YV t p' i
         rw[show ZG t p' i=(zP t p' ⟨u.id,u.kind,u.text,yA u.kids i⟩,v) by unfold ZG;rw[hu];simp only;rw[hv]] at hts
         simp only at hts
         obtain⟨y,hy⟩:∃y,y=zP t p' ⟨u.id,u.kind,u.text,yA u.kids i⟩:=⟨_,rfl⟩
         rw[←hy] at htk hE hts
         obtain⟨⟨n0,n1,n2,n3⟩,m1,m2,m3⟩:=HCE.out W3 hb3
         have HTK:=hH htk
         have HG:=hH (aN hE (aN hts hb3))
         clear htk hown3 hown hm hpl hpi hpp hu hv hwi hb23 hb2 hE hts hb3 hy HQ
         go_wp2_with fail
         refine HTK.out.mono ?_
         rintro e X ⟨_,_,rfl,⟨kb,kc,rfl,hkc,hkk⟩,⟨va,vc,rfl,hvc,hvk⟩,hbx⟩
         obtain⟨yn,hyn⟩:∃yn,yn=foLen y.kids:=⟨_,rfl⟩
         obtain⟨vn,hvn⟩:∃vn,vn=foLen v.kids:=⟨_,rfl⟩
         rw[←hyn,←hvn]
         have hbX:Below B.heap.size B X:=HG.out.2.2.trans (hbx.mono HG.out.2.2.size)
         obtain⟨X2,hX2⟩:∃X2,X2=zx X [.cells #[.int .i64 y.id,.int .i64 y.kind,.string y.text,.slice kb yn kc] 27,.cells #[.int .i64 v.id,.int .i64 v.kind,.string v.text,.slice va vn vc] 27]:=⟨_,rfl⟩
         have hb2:Below X.heap.size X X2:=by rw[hX2];exact zl _ _
         have hX2s:X2.heap.size=X.heap.size+2:=by rw[hX2];exact zJ _ _
         have hbX2:Below B.heap.size B X2:=hbX.trans (hb2.mono hbX.size)
         have hSXX:∀z,(S z∨W3.heap.size≤z∧z<X.heap.size)→z<X.heap.size:=fun z hz=>hz.elim (fun h=>HTR.out.2 X hbX z h) (fun h=>h.2)
         have hSX2:∀z,(S z∨W3.heap.size≤z∧z<X.heap.size)→z<X2.heap.size:=fun z hz=>nL (hSXX z hz) hb2.size
         have hput:=zfm X2 (fun z=>S z∨W3.heap.size≤z∧z<X.heap.size) (fun z=>S z∨W3.heap.size≤z∧z<X.heap.size) (.agg #[.int .i64 y.id,.int .i64 y.kind,.string y.text,.slice kb yn kc]) (.agg #[.int .i64 v.id,.int .i64 v.kind,.string v.text,.slice va vn vc]) y v par at_ hSX2 hSX2 ⟨kb,kc,by rw[hyn],hkc,hkk.kept fun z hz=>⟨hz,hb2.block z (hSXX z hz)⟩⟩ ⟨va,vc,by rw[hvn],hvc,hvk.kept fun z hz=>⟨hz,hb2.block z (hSXX z hz)⟩⟩ (by have:=HG.out.2.1;have:=HSZ.out;omega)
         have hyX:X2.heap[X.heap.size]? =some (.cells #[.int .i64 y.id,.int .i64 y.kind,.string y.text,.slice kb yn kc] 27 (0,0)):=by rw[hX2];exact ze _ _ 0 _ rfl
         have hvX:X2.heap[X.heap.size+1]? =some (.cells #[.int .i64 v.id,.int .i64 v.kind,.string v.text,.slice va vn vc] 27 (0,0)):=by rw[hX2];exact ze _ _ 1 _ rfl
         obtain⟨y0,y1,y2,y3⟩:=zH hyX
         obtain⟨v0,v1,v2,v3⟩:=zH hvX
         obtain⟨⟨n0,n1,n2,n3⟩,m1,m2,m3⟩:=HCE.out X hbX
         obtain⟨⟨p0,p1,p2,p3⟩,q1,q2,q3⟩:=HCE.out X2 hbX2
         have HPUT:=hH (aN hput hbX2)
         have HX2:=hH hX2
         have HX2S:=hH (aN hX2s hbx.size)
         clear hSXX hSX2 hput hX2 hb2 hX2s hkc hkk hvc hvk hyn hvn hbx hyX hvX
         go_upto_region 10 with fail
         change Code.wp _ _ _ _ (zx X [.cells #[.int .i64 y.id,.int .i64 y.kind,.string y.text,.slice kb yn kc] 27,.cells #[.int .i64 v.id,.int .i64 v.kind,.string v.text,.slice va vn vc] 27])
         rw[←HX2.out]
         clear n0 n1 n2 n3 m1 m2 m3
         go_wp2_with fail
         refine HPUT.out.1.mono ?_
         rintro e X3 ⟨_,rfl,⟨ob,oc,rfl,hoc,hok⟩,hb3⟩
         obtain⟨on,hon⟩:∃on,on=foLen pr.1.kids:=⟨_,rfl⟩
         rw[←HG.out.1] at hoc hok ⊢
         rw[←hon] at hoc ⊢
         have hbX3:Below B.heap.size B X3:=HPUT.out.2.trans (hb3.mono HPUT.out.2.size)
         have hr3:=(hbX3.block _ (lohQ HB.out.2.2)).trans HB.out.2.2
         have hbz:Below w.heap.size w X3:=HB.out.1.trans (hbX3.mono HB.out.1.size)
         obtain⟨z0,z1,z2,z3⟩:=zH hr3
         have zf:∀j,X3.frozen? ⟨w.heap.size+1+1,j,none⟩=false:=fun j=>forQ _ _ j _ _ hr3
         obtain⟨V,hV,r1,r2,r3,r4,r5,r6⟩:=zu (u0:= .int .i64 pr.1.id) (u1:= .int .i64 pr.1.kind) (u2:= .string pr.1.text) (u3:= .slice ob on oc) hr3
         have hBw:=HB.out.2.1
         have h3B:=HG.out.2.2.size
         have h2X:=HX2S.out
         have hokV:zk V (fun z=>S z∨w.heap.size≤z∧z<V.heap.size) pr.1.kids ob:=hok.kept fun z hz=>by
          have hz2:S z∨w.heap.size≤z∧z<V.heap.size∧z≠w.heap.size+1+1:=by
           rcases hz with (hz | hz) | hz
           · rcases hz with hz | hz
             · exact Or.inl hz
             · exact Or.inr ⟨by omega,by have:=hb3.size;omega,by omega⟩
           · rcases hz with hz | hz
             · exact Or.inl hz
             · exact Or.inr ⟨by omega,by have:=hb3.size;omega,by omega⟩
           · exact Or.inr ⟨by omega,by omega,by omega⟩
          exact⟨hz2.imp (fun h=>h) (fun h=>⟨h.1,h.2.1⟩),r2 z (by rcases hz2 with h | h;have:=HTR.out.2 B (BrQ _ _) z h;have:=HSW.out z h;omega;omega)⟩
         have HE:=hH (aN hbz (aN hr3 (aN hV (aN r1 (aN r2 (aN r3 (aN r4 (aN r5 (aN r6 (aN hokV (aN hoc hon)))))))))))
         clear hbX3 hb3 hbz hr3 hV r1 r2 r3 r4 r5 r6 hokV hoc hon hok y0 y1 y2 y3 v0 v1 v2 v3 p0 p1 p2 p3 q1 q2 q3
         go_wp2_with fail
         rw[←HE.out.2.2.1]
         obtain⟨hbz,hr3,hV,r1,r2,r3,r4,r5,r6,hokV,hoc,hon⟩:=HE.out
         exact step_end (p:=4) (u:=5) rfl rfl (g:=w.heap.size+1+1) (y:=pr.1) (m:=on) (kb:=ob) (kc:=oc) ⟨r3.trans hbz.os,r4.trans hbz.tape,r5.trans hbz.output,by rw[r6];exact hbz.size,fun k hk=>(r2 k om).trans (hbz.block k hk)⟩ om ⟨_,_,r1,rfl⟩ hon (by rw[←hon];exact hoc) hokV rfl rfl rfl
def qm (id:Int)(t:Tr):Tr×Int:=match zw id t with
 | none=>(zG,4)
 | some p=>if p= [] then (zG,90) else ((ZG t p.dropLast (p.getLastD 0)).1,0)
theorem Zq {id:Int}{t:Tr}(h:zw id t=none):qm id t=(zG,4):=by unfold qm;rw[h]
theorem Zr {id:Int}{t:Tr}(h:zw id t=some []):qm id t=(zG,90):=by unfold qm;rw[h];rfl
theorem Zp {id:Int}{t u v:Tr}{p:List Nat}{i:Nat}(h:zw id t=some (p++[i]))(hu:atT t p=some u)(hv:zB u.kids i=some v):qm id t=(zP t p ⟨u.id,u.kind,u.text,yA u.kids i⟩,0):=by
 have ht:ZG t p i=(zP t p ⟨u.id,u.kind,u.text,yA u.kids i⟩,v):=by unfold ZG;rw[hu];simp only;rw[hv]
 have hd:(p++[i]).dropLast=p:=by simp
 have hl:(p++[i]).getLastD 0=i:=by simp[List.getLastD_eq_getLast?]
 unfold qm;rw[h];simp only
 rw[inQ sp1,hd,hl,ht]
theorem zey (w:World)(S:Nat→Prop)(nv:Value)(t:Tr)(op id par at_ s1 s2:Int)(tx s3:ByteArray)(sa:Option Addr)(sn sc:Nat)(hS:∀y,S y→y<w.heap.size)(ht:zK w S nv t)(hsz:za t.kids≤100000):
 Calls Try.prog 54 #[nv,.agg #[.int .i8 op,.int .i64 id,.int .i64 par,.int .i64 at_,.string tx,.int .i64 s1,.int .i64 s2,.string s3,.slice sa sn sc]] w (j6 w S (qm id t)):=by
 obtain⟨ka,tc,rfl,hcap,hk⟩:=ht
 obtain⟨nk,hnk⟩:∃nk,nk=foLen t.kids:=⟨_,rfl⟩
 rw[←hnk]
 obtain⟨B,hB⟩:∃B,B=zx w [.cells #[.int .i64 t.id,.int .i64 t.kind,.string t.text,.slice ka nk tc] 27,.cells #[.int .i8 op,.int .i64 id,.int .i64 par,.int .i64 at_,.string tx,.int .i64 s1,.int .i64 s2,.string s3,.slice sa sn sc] 49,.cells #[.int .i64 0,.int .i64 0,.string ⟨#[]⟩,.slice none 0 0] 27]:=⟨_,rfl⟩
 have hb:Below w.heap.size w B:=by rw[hB];exact zl _ _
 have hs:B.heap.size=w.heap.size+3:=by rw[hB];exact zJ _ _
 have ht0:B.heap[w.heap.size]? =some (.cells #[.int .i64 t.id,.int .i64 t.kind,.string t.text,.slice ka nk tc] 27 (0,0)):=by rw[hB];exact ze _ _ 0 _ rfl
 have hs0:B.heap[w.heap.size+1]? =some (.cells #[.int .i8 op,.int .i64 id,.int .i64 par,.int .i64 at_,.string tx,.int .i64 s1,.int .i64 s2,.string s3,.slice sa sn sc] 49 (0,0)):=by rw[hB];exact ze _ _ 1 _ rfl
 have hr0:B.heap[w.heap.size+1+1]? =some (.cells #[.int .i64 0,.int .i64 0,.string ⟨#[]⟩,.slice none 0 0] 27 (0,0)):=by rw[hB];exact ze _ _ 2 _ rfl
 have htr:∀X,Below B.heap.size B X→zK X S (.agg #[.int .i64 t.id,.int .i64 t.kind,.string t.text,.slice ka nk tc]) t:=fun X hX=>⟨ka,tc,by rw[hnk],by rw[hnk] at*;exact hcap,hk.below (hb.trans (hX.mono hb.size)) hS⟩
 have hSX:∀X,Below B.heap.size B X→∀y,S y→y<X.heap.size:=fun X hX y hy=>nL (hS y hy) (NltQ hb.size hX.size)
 have hpath:∀(i:Int) (X:World),Below B.heap.size B X→Calls Try.prog 88 #[.agg #[.int .i64 t.id,.int .i64 t.kind,.string t.text,.slice ka nk tc],.int .i64 i] X (zcs X (zw i t)):=fun i X hX=>ZZ X S _ t i (hSX X hX) (htr X hX) om
 have hcell:∀X,Below B.heap.size B X→(uf1 X w.heap.size t.id t.kind t.text ka nk tc)∧X.cell? ⟨w.heap.size+1,1,none⟩=some (.int .i64 id):=fun X hX=>by
  have e0:=(hX.block _ (lohQ ht0)).trans ht0
  have e1:=(hX.block _ (lohQ hs0)).trans hs0
  exact⟨zH e0,by rw[corQ _ _ 1 _ _ _ e1];rfl⟩
 obtain⟨pr,hpr⟩:∃pr,pr=qm id t:=⟨_,rfl⟩
 rw[←hpr]
 have HP:=hH hpath
 have HCE:=hH hcell
 have HTR:=hH (aN htr hSX)
 have HB:=hH (aN hb (aN hs hr0))
 have HSZ:=hH hsz
 have HBE:=hH hB
 have HSW:=hH hS
 have HPR:=hH hpr
 clear hpath hcell htr hSX hb hs ht0 hs0 hr0 hS hk hcap hsz hnk hB hpr
 go_enter Try.func54,Try.ntmps54
 go_wp2_with fail
 change Calls _ _ _ (zx w [.cells #[.int .i64 t.id,.int .i64 t.kind,.string t.text,.slice ka nk tc] 27,.cells #[.int .i8 op,.int .i64 id,.int .i64 par,.int .i64 at_,.string tx,.int .i64 s1,.int .i64 s2,.string s3,.slice sa sn sc] 49,.cells #[.int .i64 0,.int .i64 0,.string ⟨#[]⟩,.slice none 0 0] 27]) _
 rw[←HBE.out]
 refine (HP.out id B (BrQ _ _)).mono ?_
 rintro e W2 ⟨pv,rfl,hown,hb2⟩
 cases hpi:zw id t with
 | none=>
   clear hown
   simp only[Option.isSome_none]
   have hE:pr=(zG,4):=by rw[HPR.out,Zq hpi]
   exact sa5
 | some p =>
   rw[hpi] at hown
   simp only[Option.getD_some] at hown
   obtain⟨pa,pc,rfl⟩:=zt hown
   obtain⟨m,hm⟩:∃m,m=(qx p).length:=⟨_,rfl⟩
   rw[←hm] at hown ⊢
   have hpl:m=p.length:=by rw[hm,zZ]
   simp only[Option.isSome_some]
   by_cases hp0:p= []
   · have hm0:m=0:=by rw[hpl,hp0];rfl
     subst hm0
     have hE0:pr=(zG,90):=by rw[HPR.out,Zr (by rw[hpi,hp0])]
     clear hown hm hpl hp0 hpi
     have hE:pr=(zG,90):=hE0
     exact sa5
   · obtain⟨p',i,rfl⟩:∃p' i,p=p'++[i]:=⟨p.dropLast,p.getLast hp0,(List.dropLast_concat_getLast hp0).symm⟩
     have hm1:(m:Int)≠0:=by rw[hpl];simp;omega
     obtain⟨v,hv0,hvid⟩:=qE id t _ hpi
     obtain⟨u,hu,hv⟩:=kQ p' i t v hv0
     have hE:=Zp hpi hu hv
     rw[←HPR.out] at hE
     have htk:=zdA W2 S (.agg #[.int .i64 t.id,.int .i64 t.kind,.string t.text,.slice ka nk tc]) t u v p' i pa m pc (HTR.out.2 W2 hb2) (HTR.out.1 W2 hb2) (by have:=HSZ.out;omega) hu hv (by rw[hpl,LlaQ];rfl) ((Yd (l:=qx (p'++[i])) hown).1.kept fun y hy=>⟨hy.2,rfl⟩)
     obtain⟨y,hy⟩:∃y,y=zP t p' ⟨u.id,u.kind,u.text,yA u.kids i⟩:=⟨_,rfl⟩
     rw[←hy] at htk hE
     obtain⟨⟨n0,n1,n2,n3⟩,m1⟩:=HCE.out W2 hb2
     have HTK:=hH htk
     have HG:=hH (aN hE hb2)
     clear htk hown hm hpl hp0 hpi hu hv hv0 hvid hE hb2 hy
     go_wp2_with fail
     refine HTK.out.mono ?_
     rintro e X ⟨_,_,rfl,⟨kb,kc,rfl,hkc,hkk⟩,⟨va,vc,rfl,_,_⟩,hbx⟩
     obtain⟨yn,hyn⟩:∃yn,yn=foLen y.kids:=⟨_,rfl⟩
     obtain⟨vn,hvn⟩:∃vn,vn=foLen v.kids:=⟨_,rfl⟩
     rw[←hyn,←hvn]
     rw[←hyn] at hkc
     have hbX:Below B.heap.size B X:=HG.out.2.trans (hbx.mono HG.out.2.size)
     obtain⟨X2,hX2⟩:∃X2,X2=zx X [.cells #[.int .i64 y.id,.int .i64 y.kind,.string y.text,.slice kb yn kc] 27,.cells #[.int .i64 v.id,.int .i64 v.kind,.string v.text,.slice va vn vc] 27]:=⟨_,rfl⟩
     have hb2:Below X.heap.size X X2:=by rw[hX2];exact zl _ _
     have hX2s:X2.heap.size=X.heap.size+2:=by rw[hX2];exact zJ _ _
     have hbX2:Below B.heap.size B X2:=hbX.trans (hb2.mono hbX.size)
     have hyX:X2.heap[X.heap.size]? =some (.cells #[.int .i64 y.id,.int .i64 y.kind,.string y.text,.slice kb yn kc] 27 (0,0)):=by rw[hX2];exact ze _ _ 0 _ rfl
     obtain⟨y0,y1,y2,y3⟩:=zH hyX
     have hr3:=(hbX2.block _ (lohQ HB.out.2.2)).trans HB.out.2.2
     have hbz:Below w.heap.size w X2:=HB.out.1.trans (hbX2.mono HB.out.1.size)
     obtain⟨z0,z1,z2,z3⟩:=zH hr3
     have zf:∀j,X2.frozen? ⟨w.heap.size+1+1,j,none⟩=false:=fun j=>forQ _ _ j _ _ hr3
     obtain⟨V,hV,r1,r2,r3,r4,r5,r6⟩:=zu (u0:= .int .i64 y.id) (u1:= .int .i64 y.kind) (u2:= .string y.text) (u3:= .slice kb yn kc) hr3
     have hBw:=HB.out.2.1
     have hWB:=HG.out.2.size
     have hok:zk V (fun z=>S z∨w.heap.size≤z∧z<V.heap.size) y.kids kb:=hkk.kept fun z hz=>by
      have hSz:=HTR.out.2 B (BrQ _ _)
      have hxs:=hbx.size
      have hz2:(S z∨w.heap.size≤z∧z<V.heap.size)∧z<X.heap.size∧z≠w.heap.size+1+1:=by
       rcases hz with hz | hz
       · have h1:=HSW.out z hz;have h2:=hSz z hz
         exact⟨Or.inl hz,by omega,by omega⟩
       · exact⟨Or.inr ⟨by omega,by omega⟩,by omega,by omega⟩
      exact⟨hz2.1,(r2 z hz2.2.2).trans (hb2.block z hz2.2.1)⟩
     have HE:=hH (aN hbz (aN hV (aN r1 (aN r2 (aN r3 (aN r4 (aN r5 (aN r6 (aN hok (aN hkc hyn))))))))))
     have HX2:=hH hX2
     clear hbX hb2 hX2s hbX2 hyX hr3 hbz hV r1 r2 r3 r4 r5 r6 hBw hWB hok hkk hkc hyn hvn hbx hX2 n0 n1 n2 n3 m1
     go_upto_region 7 with fail
     change Code.wp _ _ _ _ (zx X [.cells #[.int .i64 y.id,.int .i64 y.kind,.string y.text,.slice kb yn kc] 27,.cells #[.int .i64 v.id,.int .i64 v.kind,.string v.text,.slice va vn vc] 27])
     rw[←HX2.out]
     exact sc9
end Go.Proofs.Ytnikgofkldkdkaa
