/-
  .
-/
import Derived.Test.YtgkmmnihaiopaaaGreatKFreshQv
set_option maxRecDepth 100000
set_option maxHeartbeats 40000000
set_option linter.unusedVariables false
set_option linter.unusedSimpArgs false
namespace Go.Proofs.YtgkmmnihaiopaaaGreat
open Go.RowKit Go.Shelf
theorem j4:∀(q:List Nat) (i:Nat) (t v:Tr),atT t (q++[i])=some v→∃u,atT t q=some u∧zB u.kids i=some v
 | [],i,t,v,h=>by
   rw[List.nil_append,atT] at h
   cases hk:zB t.kids i with
   | none=>rw[hk] at h;cases h
   | some x=>rw[hk] at h;exact⟨t,rfl,by rw[hk];simpa [atT] using h⟩
 | j ::q,i,t,v,h=>by
   rw[List.cons_append,atT] at h
   cases hk:zB t.kids j with
   | none=>rw[hk] at h;cases h
   | some x=>
     rw[hk] at h
     obtain⟨u,h1,h2⟩:=j4 q i x v h
     exact⟨u,by rw[atT,hk];exact h1,h2⟩
def yC (id par at_:Int)(t:Tr):Tr×Int:=match zA id t,zA par t with
 | some p,some _=>if p= [] then (zu,90) else if qN id par t=true then (zu,91) else Zk par at_ (ZR t p.dropLast (p.getLastD 0)).1 (ZR t p.dropLast (p.getLastD 0)).2
 | _,_=>(zu,4)
theorem Qw {id par at_:Int}{t:Tr}(h:zA id t=none):yC id par at_ t=(zu,4):=by unfold yC;rw[h]
theorem QY {id par at_:Int}{t:Tr}(h:zA par t=none):yC id par at_ t=(zu,4):=by unfold yC;rw[h];cases zA id t<;>rfl
theorem YV {id par at_:Int}{t:Tr}{q:List Nat}(h:zA id t=some [])(h2:zA par t=some q):yC id par at_ t=(zu,90):=by unfold yC;rw[h,h2];rfl
theorem YU {id par at_:Int}{t:Tr}{p q:List Nat}(h:zA id t=some p)(h2:zA par t=some q)(hp:p≠[])(hw:qN id par t=true):yC id par at_ t=(zu,91):=by unfold yC;rw[h,h2];simp only;rw[inQ hp,ipQ hw]
theorem Qv {id par at_:Int}{t u v:Tr}{p q:List Nat}{i:Nat}(h:zA id t=some (p++[i]))(h2:zA par t=some q)(hw:qN id par t=false)(hu:atT t p=some u)(hv:zB u.kids i=some v):yC id par at_ t=Zk par at_ (zO t p ⟨u.id,u.kind,u.text,zW u.kids i⟩) v:=by
 have ht:ZR t p i=(zO t p ⟨u.id,u.kind,u.text,zW u.kids i⟩,v):=by unfold ZR;rw[hu];simp only;rw[hv]
 have hd:(p++[i]).dropLast=p:=by simp
 have hl:(p++[i]).getLastD 0=i:=by simp[List.getLastD_eq_getLast?]
 unfold yC;rw[h,h2];simp only
 rw[inQ sp1,inQ (by rw[hw];exact Bool.false_ne_true),hd,hl,ht]
theorem zh8 (w :World)(S:Nat→Prop)(nv:Value)(t:Tr)(op id par at_ s1 s2:Int)(tx s3:ByteArray)(sa:Option Addr)(sn sc:Nat)(hS:∀y,S y→y<w.heap.size)(ht:zG w S nv t)(hsz:zb t.kids≤300000):
 Calls Tryz.prog 79 #[nv,.agg #[.int .i8 op,.int .i64 id,.int .i64 par,.int .i64 at_,.string tx,.int .i64 s1,.int .i64 s2,.string s3,.slice sa sn sc]] w (kF w S (yC id par at_ t)):=by
 obtain⟨ka,tc,rfl,hcap,hk⟩:=ht
 obtain⟨nk,hnk⟩:∃nk,nk=foLen t.kids:=⟨_,rfl⟩
 rw[←hnk]
 obtain⟨B,hB⟩:∃B,B=zl w [.cells #[.int .i64 t.id,.int .i64 t.kind,.string t.text,.slice ka nk tc] 27,.cells #[.int .i8 op,.int .i64 id,.int .i64 par,.int .i64 at_,.string tx,.int .i64 s1,.int .i64 s2,.string s3,.slice sa sn sc] 44,.cells #[.int .i64 0,.int .i64 0,.string ⟨#[]⟩,.slice none 0 0] 27]:=⟨_,rfl⟩
 have hb:Below w.heap.size w B:=by rw[hB];exact zi _ _
 have hs:B.heap.size=w.heap.size+3:=by rw[hB];exact zw _ _
 have ht0:B.heap[w.heap.size]? =some (.cells #[.int .i64 t.id,.int .i64 t.kind,.string t.text,.slice ka nk tc] 27 (0,0)):=by rw[hB];exact ze _ _ 0 _ rfl
 have hs0:B.heap[w.heap.size+1]? =some (.cells #[.int .i8 op,.int .i64 id,.int .i64 par,.int .i64 at_,.string tx,.int .i64 s1,.int .i64 s2,.string s3,.slice sa sn sc] 44 (0,0)):=by rw[hB];exact ze _ _ 1 _ rfl
 have hr0:B.heap[w.heap.size+1+1]? =some (.cells #[.int .i64 0,.int .i64 0,.string ⟨#[]⟩,.slice none 0 0] 27 (0,0)):=by rw[hB];exact ze _ _ 2 _ rfl
 have htr:∀X,Below B.heap.size B X→zG X S (.agg #[.int .i64 t.id,.int .i64 t.kind,.string t.text,.slice ka nk tc]) t:=fun X hX=>⟨ka,tc,by rw[hnk],by rw[hnk] at*;exact hcap,hk.below (hb.trans (hX.mono hb.size)) hS⟩
 have hSX:∀X,Below B.heap.size B X→∀y,S y→y<X.heap.size:=fun X hX y hy=>nL (hS y hy) (NltQ hb.size hX.size)
 have hpath:∀(i:Int) (X:World),Below B.heap.size B X→Calls Tryz.prog 95 #[.agg #[.int .i64 t.id,.int .i64 t.kind,.string t.text,.slice ka nk tc],.int .i64 i] X (zbv X (zA i t)):=fun i X hX=>Zj X S _ t i (hSX X hX) (htr X hX) om
 have hwith:∀(X:World),Below B.heap.size B X→Calls Tryz.prog 97 #[.agg #[.int .i64 t.id,.int .i64 t.kind,.string t.text,.slice ka nk tc],.int .i64 id,.int .i64 par] X _:=fun X hX=>zfq X S _ t id par (hSX X hX) (htr X hX) om
 have hcell:∀X,Below B.heap.size B X→(ug9 X w.heap.size t.id t.kind t.text ka nk tc)∧X.cell? ⟨w.heap.size+1,1,none⟩=some (.int .i64 id)∧X.cell? ⟨w.heap.size+1,2,none⟩=some (.int .i64 par)∧X.cell? ⟨w.heap.size+1,3,none⟩=some (.int .i64 at_):=fun X hX=>by
  have e0:=(hX.block _ (lohQ ht0)).trans ht0
  have e1:=(hX.block _ (lohQ hs0)).trans hs0
  exact⟨zD e0,by rw[corQ _ _ 1 _ _ _ e1];rfl,by rw[corQ _ _ 2 _ _ _ e1];rfl,by rw[corQ _ _ 3 _ _ _ e1];rfl⟩
 obtain⟨pr,hpr⟩:∃pr,pr=yC id par at_ t:=⟨_,rfl⟩
 rw[←hpr]
 have HP:=Lib.hid hpath
 have HWI:=Lib.hid hwith
 have HCE:=Lib.hid hcell
 have HTR:=Lib.hid (aN htr hSX)
 have HB:=Lib.hid (aN hb (aN hs hr0))
 have HSZ:=Lib.hid hsz
 have HBE:=Lib.hid hB
 have HSW:=Lib.hid hS
 have HPR:=Lib.hid hpr
 clear hpath hwith hcell htr hSX hb hs ht0 hs0 hr0 hS hk hcap hsz hnk hB hpr
 go_enter Tryz.func79,Tryz.ntmps79
 go_wp2_with fail
 change Calls _ _ _ (zl w [.cells #[.int .i64 t.id,.int .i64 t.kind,.string t.text,.slice ka nk tc] 27,.cells #[.int .i8 op,.int .i64 id,.int .i64 par,.int .i64 at_,.string tx,.int .i64 s1,.int .i64 s2,.string s3,.slice sa sn sc] 44,.cells #[.int .i64 0,.int .i64 0,.string ⟨#[]⟩,.slice none 0 0] 27]) _
 rw[←HBE.out]
 refine (HP.out id B (BrQ _ _)).mono ?_
 rintro e W1 ⟨pv,rfl,hown,hb1⟩
 obtain⟨⟨n0,n1,n2,n3⟩,m1,m2,m3⟩:=HCE.out W1 hb1
 have H1:=Lib.hid (aN hown hb1)
 clear hown hb1
 go_wp2_with fail
 refine (HP.out par W1 H1.out.2).mono ?_
 rintro e W2 ⟨pv2,rfl,_,hb12⟩
 have hb2:Below B.heap.size B W2:=H1.out.2.trans (hb12.mono H1.out.2.size)
 have hown:W2.ownsRow B.heap.size 3 1 pv _ _:=zH (w':=W2) H1.out.1 (fun g cur hg _=>hb12.block g (lohQ hg))
 clear n0 n1 n2 n3 m1 m2 m3 hb12 H1
 cases hpi:zA id t with
 | none=>
   clear hown
   cases hpp:zA par t with
   | none=>
     simp only[Option.isSome_none]
     have hE:pr=(zu,4):=by rw[HPR.out,Qw hpi]
     have hr3:=(hb2.block _ (lohQ HB.out.2.2)).trans HB.out.2.2
     have hbz:Below w.heap.size w W2:=HB.out.1.trans (hb2.mono HB.out.1.size)
     obtain⟨z0,z1,z2,z3⟩:=zD hr3
     have zf:∀j,W2.frozen? ⟨w.heap.size+1+1,j,none⟩=false:=fun j=>forQ _ _ j _ _ hr3
     exact sa7
   | some q=>
     simp only[Option.isSome_none,Option.isSome_some]
     have hE:pr=(zu,4):=by rw[HPR.out,Qw hpi]
     have hr3:=(hb2.block _ (lohQ HB.out.2.2)).trans HB.out.2.2
     have hbz:Below w.heap.size w W2:=HB.out.1.trans (hb2.mono HB.out.1.size)
     obtain⟨z0,z1,z2,z3⟩:=zD hr3
     have zf:∀j,W2.frozen? ⟨w.heap.size+1+1,j,none⟩=false:=fun j=>forQ _ _ j _ _ hr3
     exact sa7
 | some p =>
   cases hpp:zA par t with
   | none=>
     clear hown
     simp only[Option.isSome_none,Option.isSome_some]
     have hE:pr=(zu,4):=by rw[HPR.out,QY hpp]
     have hr3:=(hb2.block _ (lohQ HB.out.2.2)).trans HB.out.2.2
     have hbz:Below w.heap.size w W2:=HB.out.1.trans (hb2.mono HB.out.1.size)
     obtain⟨z0,z1,z2,z3⟩:=zD hr3
     have zf:∀j,W2.frozen? ⟨w.heap.size+1+1,j,none⟩=false:=fun j=>forQ _ _ j _ _ hr3
     exact sa7
   | some q =>
     rw[hpi] at hown
     simp only[Option.getD_some] at hown
     obtain⟨pa,pc,rfl⟩:=zy hown
     obtain⟨m,hm⟩:∃m,m=(yY p).length:=⟨_,rfl⟩
     rw[←hm] at hown ⊢
     have hpl:m=p.length:=by rw[hm,zP]
     simp only[Option.isSome_some]
     by_cases hp0:p= []
     · have hm0:m=0:=by rw[hpl,hp0];rfl
       subst hm0
       have hE0:pr=(zu,90):=by rw[HPR.out,YV (by rw[hpi,hp0]) hpp]
       clear hown hm hpl hp0 hpi hpp
       have hE:pr=(zu,90):=hE0
       have hr3:=(hb2.block _ (lohQ HB.out.2.2)).trans HB.out.2.2
       have hbz:Below w.heap.size w W2:=HB.out.1.trans (hb2.mono HB.out.1.size)
       obtain⟨z0,z1,z2,z3⟩:=zD hr3
       have zf:∀j,W2.frozen? ⟨w.heap.size+1+1,j,none⟩=false:=fun j=>forQ _ _ j _ _ hr3
       exact sa7
     · obtain ⟨p',i,rfl⟩:∃p' i,p=p'++[i]:=⟨p.dropLast,p.getLast hp0,(List.dropLast_concat_getLast hp0).symm⟩
       have hm1:(m:Int)≠0:=by rw[hpl];simp;omega
       obtain⟨v,hv0,hvid⟩:=yX id t _ hpi
       obtain⟨u,hu,hv⟩:=j4 p' i t v hv0
       obtain⟨⟨n0,n1,n2,n3⟩,m1,m2,m3⟩:=HCE.out W2 hb2
       have HQ:=Lib.hid (aN hown (aN hm (aN hpl (aN hpi (aN hpp (aN hu (aN hv hb2)))))))
       clear hown hm hpl hp0 hpi hpp hv0 hu hv hvid
       go_wp2_with fail
       refine (HWI.out W2 hb2).mono ?_
       rintro e W3 ⟨rfl,hb23⟩
       have hb3:Below B.heap.size B W3:=hb2.trans (hb23.mono hb2.size)
       clear n0 n1 n2 n3 m1 m2 m3
       obtain⟨hown,hm,hpl,hpi,hpp,hu,hv,_⟩:=HQ.out
       cases hwi:qN id par t with
       | true=>
         have hE0:pr=(zu,91):=by rw[HPR.out,YU hpi hpp sp1 hwi]
         clear hown hm hpl hpi hpp hu hv hwi HQ hb23 hb2
         have hE:pr=(zu,91):=hE0
         have hr3:=(hb3.block _ (lohQ HB.out.2.2)).trans HB.out.2.2
         have hbz:Below w.heap.size w W3:=HB.out.1.trans (hb3.mono HB.out.1.size)
         obtain⟨z0,z1,z2,z3⟩:=zD hr3
         have zf:∀j,W3.frozen? ⟨w.heap.size+1+1,j,none⟩=false:=fun j=>forQ _ _ j _ _ hr3
         exact sa7
       | false =>
         have hE:=Qv (at_:=at_) hpi hpp hwi hu hv
         rw[←HPR.out] at hE
         have hown3:=zH (w':=W3) hown (fun g cur hg _=>hb23.block g (lohQ hg))
         have htk:=zd5 W3 S (.agg #[.int .i64 t.id,.int .i64 t.kind,.string t.text,.slice ka nk tc]) t u v p' i pa m pc (HTR.out.2 W3 hb3) (HTR.out.1 W3 hb3) HSZ.out hu hv (by rw[hpl,LlaQ];rfl) ((Yr (l:=yY (p'++[i])) hown3).1.kept fun y hy=>⟨hy.2,rfl⟩)
         have hts:=Y8 t p' i
         rw[show ZR t p' i=(zO t p' ⟨u.id,u.kind,u.text,zW u.kids i⟩,v) by unfold ZR;rw[hu];simp only;rw[hv]] at hts
         simp only at hts
         obtain⟨y,hy⟩:∃y,y=zO t p' ⟨u.id,u.kind,u.text,zW u.kids i⟩:=⟨_,rfl⟩
         rw[←hy] at htk hE hts
         obtain⟨⟨n0,n1,n2,n3⟩,m1,m2,m3⟩:=HCE.out W3 hb3
         have HTK:=Lib.hid htk
         have HG:=Lib.hid (aN hE (aN hts hb3))
         clear htk hown3 hown hm hpl hpi hpp hu hv hwi hb23 hb2 hE hts hb3 hy HQ
         go_wp2_with fail
         refine HTK.out.mono ?_
         rintro e X ⟨_,_,rfl,⟨kb,kc,rfl,hkc,hkk⟩,⟨va,vc,rfl,hvc,hvk⟩,hbx⟩
         obtain⟨yn,hyn⟩:∃yn,yn=foLen y.kids:=⟨_,rfl⟩
         obtain⟨vn,hvn⟩:∃vn,vn=foLen v.kids:=⟨_,rfl⟩
         rw[←hyn,←hvn]
         have hbX:Below B.heap.size B X:=HG.out.2.2.trans (hbx.mono HG.out.2.2.size)
         obtain⟨X2,hX2⟩:∃X2,X2=zl X [.cells #[.int .i64 y.id,.int .i64 y.kind,.string y.text,.slice kb yn kc] 27,.cells #[.int .i64 v.id,.int .i64 v.kind,.string v.text,.slice va vn vc] 27]:=⟨_,rfl⟩
         have hb2:Below X.heap.size X X2:=by rw[hX2];exact zi _ _
         have hX2s:X2.heap.size=X.heap.size+2:=by rw[hX2];exact zw _ _
         have hbX2:Below B.heap.size B X2:=hbX.trans (hb2.mono hbX.size)
         have hSXX:∀z,(S z∨W3.heap.size≤z∧z<X.heap.size)→z<X.heap.size:=fun z hz=>hz.elim (fun h=>HTR.out.2 X hbX z h) (fun h=>h.2)
         have hSX2:∀z,(S z∨W3.heap.size≤z∧z<X.heap.size)→z<X2.heap.size:=fun z hz=>nL (hSXX z hz) hb2.size
         have hput:=zfM X2 (fun z=>S z∨W3.heap.size≤z∧z<X.heap.size) (fun z=>S z∨W3.heap.size≤z∧z<X.heap.size) (.agg #[.int .i64 y.id,.int .i64 y.kind,.string y.text,.slice kb yn kc]) (.agg #[.int .i64 v.id,.int .i64 v.kind,.string v.text,.slice va vn vc]) y v par at_ hSX2 hSX2 ⟨kb,kc,by rw[hyn],hkc,hkk.kept fun z hz=>⟨hz,hb2.block z (hSXX z hz)⟩⟩ ⟨va,vc,by rw[hvn],hvc,hvk.kept fun z hz=>⟨hz,hb2.block z (hSXX z hz)⟩⟩ (by have:=HG.out.2.1;have:=HSZ.out;omega)
         have hyX:X2.heap[X.heap.size]? =some (.cells #[.int .i64 y.id,.int .i64 y.kind,.string y.text,.slice kb yn kc] 27 (0,0)):=by rw[hX2];exact ze _ _ 0 _ rfl
         have hvX:X2.heap[X.heap.size+1]? =some (.cells #[.int .i64 v.id,.int .i64 v.kind,.string v.text,.slice va vn vc] 27 (0,0)):=by rw[hX2];exact ze _ _ 1 _ rfl
         obtain⟨y0,y1,y2,y3⟩:=zD hyX
         obtain⟨v0,v1,v2,v3⟩:=zD hvX
         obtain⟨⟨n0,n1,n2,n3⟩,m1,m2,m3⟩:=HCE.out X hbX
         obtain⟨⟨p0,p1,p2,p3⟩,q1,q2,q3⟩:=HCE.out X2 hbX2
         have HPUT:=Lib.hid (aN hput hbX2)
         have HX2:=Lib.hid hX2
         have HX2S:=Lib.hid (aN hX2s hbx.size)
         clear hSXX hSX2 hput hX2 hb2 hX2s hkc hkk hvc hvk hyn hvn hbx hyX hvX
         go_upto_region 10 with fail
         change Code.wp _ _ _ _ (zl X [.cells #[.int .i64 y.id,.int .i64 y.kind,.string y.text,.slice kb yn kc] 27,.cells #[.int .i64 v.id,.int .i64 v.kind,.string v.text,.slice va vn vc] 27])
         rw[←HX2.out]
         clear n0 n1 n2 n3 m1 m2 m3
         go_wp2_with fail
         refine HPUT.out.1.mono ?_
         rintro e X3 ⟨_,rfl,⟨ob,oc,rfl,hoc,hok⟩,hb3⟩
         obtain⟨on,hon⟩:∃on,on=foLen pr.1.kids:=⟨_,rfl⟩
         rw[←HG.out.1] at hoc hok ⊢
         rw[←hon] at hoc ⊢
         have hbX3:Below B.heap.size B X3:=HPUT.out.2.trans (hb3.mono HPUT.out.2.size)
         have hr3:=(hbX3.block _ (lohQ HB.out.2.2)).trans HB.out.2.2
         have hbz:Below w.heap.size w X3:=HB.out.1.trans (hbX3.mono HB.out.1.size)
         obtain⟨z0,z1,z2,z3⟩:=zD hr3
         have zf:∀j,X3.frozen? ⟨w.heap.size+1+1,j,none⟩=false:=fun j=>forQ _ _ j _ _ hr3
         obtain⟨V,hV,r1,r2,r3,r4,r5,r6⟩:=zo (u0:= .int .i64 pr.1.id) (u1:= .int .i64 pr.1.kind) (u2:= .string pr.1.text) (u3:= .slice ob on oc) hr3
         have hBw:=HB.out.2.1
         have h3B:=HG.out.2.2.size
         have h2X:=HX2S.out
         have hokV:zt V (fun z=>S z∨w.heap.size≤z∧z<V.heap.size) pr.1.kids ob:=hok.kept fun z hz=>by
          have hz2:S z∨w.heap.size≤z∧z<V.heap.size∧z≠w.heap.size+1+1:=by
           rcases hz with (hz | hz) | hz
           · rcases hz with hz | hz
             · exact Or.inl hz
             · exact Or.inr ⟨by omega,by have:=hb3.size;omega,by omega⟩
           · rcases hz with hz | hz
             · exact Or.inl hz
             · exact Or.inr ⟨by omega,by have:=hb3.size;omega,by omega⟩
           · exact Or.inr ⟨by omega,by omega,by omega⟩
          exact⟨hz2.imp (fun h=>h) (fun h=>⟨h.1,h.2.1⟩),r2 z (by rcases hz2 with h | h;have:=HTR.out.2 B (BrQ _ _) z h;have:=HSW.out z h;omega;omega)⟩
         have HE:=Lib.hid (aN hbz (aN hr3 (aN hV (aN r1 (aN r2 (aN r3 (aN r4 (aN r5 (aN r6 (aN hokV (aN hoc hon)))))))))))
         clear hbX3 hb3 hbz hr3 hV r1 r2 r3 r4 r5 r6 hokV hoc hon hok y0 y1 y2 y3 v0 v1 v2 v3 p0 p1 p2 p3 q1 q2 q3
         go_wp2_with fail
         rw[←HE.out.2.2.1]
         obtain⟨hbz,hr3,hV,r1,r2,r3,r4,r5,r6,hokV,hoc,hon⟩:=HE.out
         exact step_end (p:=4) (u:=5) rfl rfl (g:=w.heap.size+1+1) (y:=pr.1) (m:=on) (kb:=ob) (kc:=oc) ⟨r3.trans hbz.os,r4.trans hbz.tape,r5.trans hbz.output,by rw[r6];exact hbz.size,fun k hk=>(r2 k om).trans (hbz.block k hk)⟩ om ⟨_,_,r1,rfl⟩ hon (by rw[←hon];exact hoc) hokV rfl rfl rfl
structure Tc (W X:World) (R:Nat):Prop where
 os:X.os=W.os
 tape:X.tape=W.tape
 output:X.output=W.output
 size:W.heap.size≤X.heap.size
 block:∀y,y<W.heap.size→y≠R→X.heap[y]? =W.heap[y]?
theorem Tc.of {W X:World}{R:Nat}(h:Below W.heap.size W X):Tc W X R:=⟨h.os,h.tape,h.output,h.size,fun y hy _=>h.block y hy⟩
theorem Tc.then {W X Y:World}{R:Nat}(h:Tc W X R)(k:Below X.heap.size X Y):Tc W Y R:=⟨k.os.trans h.os,k.tape.trans h.tape,k.output.trans h.output,NltQ h.size k.size,fun y hy hn=>(k.block y (nL hy h.size)).trans (h.block y hy hn)⟩
theorem Tc.below {w W X:World}{R:Nat}(h:Tc W X R)(k:Below w.heap.size w W)(hR:w.heap.size≤R):Below w.heap.size w X:=⟨h.os.trans k.os,h.tape.trans k.tape,h.output.trans k.output,NltQ k.size h.size,fun y hy=>(h.block y (nL hy k.size) om).trans (k.block y hy)⟩
def zR (par at_:Int)(x t:Tr):Tr×Int:=if (Zk par at_ t x).2=0 then ((Zk par at_ t x).1,y9 (idT t) (idT x) 0) else (zu,(Zk par at_ t x).2)
theorem zeU (w:World)(S:Nat→Prop)(nv:Value)(t:Tr)(op id par at_ s1 s2:Int)(tx s3:ByteArray)(sa:Option Addr)(sn sc:Nat)(hS:∀y,S y→y<w.heap.size)(ht:zG w S nv t)(hsz:zb t.kids≤100000)(Sx:Nat→Prop)(x:Tr)(hSx:∀y,Sx y→y<w.heap.size)(hx:zG w Sx (.agg #[.int .i64 s1,.int .i64 s2,.string s3,.slice sa sn sc]) x)(hxz:zb x.kids+1≤2000)(htz:zb t.kids+1≤2000)(hok:∀i∈idT t,(Lit.int .i64 i).wf=true)(hxk:∀i∈idT x,(Lit.int .i64 i).wf=true):
 Calls Tryz.prog 77 #[nv,.agg #[.int .i8 op,.int .i64 id,.int .i64 par,.int .i64 at_,.string tx,.int .i64 s1,.int .i64 s2,.string s3,.slice sa sn sc]] w (kF w (fun y=>S y∨Sx y) (zR par at_ x t)):=by
 obtain⟨ka,tc,rfl,hcap,hk⟩:=ht
 obtain⟨nk,hnk⟩:∃nk,nk=foLen t.kids:=⟨_,rfl⟩
 rw[←hnk]
 obtain⟨B,hB⟩:∃B,B=zl w [.cells #[.int .i64 t.id,.int .i64 t.kind,.string t.text,.slice ka nk tc] 27,.cells #[.int .i8 op,.int .i64 id,.int .i64 par,.int .i64 at_,.string tx,.int .i64 s1,.int .i64 s2,.string s3,.slice sa sn sc] 44,.cells #[.int .i64 0,.int .i64 0,.string ⟨#[]⟩,.slice none 0 0] 27]:=⟨_,rfl⟩
 have hb:Below w.heap.size w B:=by rw[hB];exact zi _ _
 have hs:B.heap.size=w.heap.size+3:=by rw[hB];exact zw _ _
 have ht0:B.heap[w.heap.size]? =some (.cells #[.int .i64 t.id,.int .i64 t.kind,.string t.text,.slice ka nk tc] 27 (0,0)):=by rw[hB];exact ze _ _ 0 _ rfl
 have hs0:B.heap[w.heap.size+1]? =some (.cells #[.int .i8 op,.int .i64 id,.int .i64 par,.int .i64 at_,.string tx,.int .i64 s1,.int .i64 s2,.string s3,.slice sa sn sc] 44 (0,0)):=by rw[hB];exact ze _ _ 1 _ rfl
 have hr0:B.heap[w.heap.size+1+1]? =some (.cells #[.int .i64 0,.int .i64 0,.string ⟨#[]⟩,.slice none 0 0] 27 (0,0)):=by rw[hB];exact ze _ _ 2 _ rfl
 have htr:∀X,Below B.heap.size B X→zG X S (.agg #[.int .i64 t.id,.int .i64 t.kind,.string t.text,.slice ka nk tc]) t:=fun X hX=>⟨ka,tc,by rw[hnk],by rw[hnk] at*;exact hcap,hk.below (hb.trans (hX.mono hb.size)) hS⟩
 have hSX:∀X,Below B.heap.size B X→∀y,S y→y<X.heap.size:=fun X hX y hy=>nL (hS y hy) (NltQ hb.size hX.size)
 have hpath:∀(i:Int) (X:World),Below B.heap.size B X→Calls Tryz.prog 95 #[.agg #[.int .i64 t.id,.int .i64 t.kind,.string t.text,.slice ka nk tc],.int .i64 i] X (zbv X (zA i t)):=fun i X hX=>Zj X S _ t i (hSX X hX) (htr X hX) om
 have hcell:∀X,Below B.heap.size B X→(ug9 X w.heap.size t.id t.kind t.text ka nk tc)∧X.cell? ⟨w.heap.size+1,2,none⟩=some (.int .i64 par)∧X.cell? ⟨w.heap.size+1,3,none⟩=some (.int .i64 at_)∧X.cell? ⟨w.heap.size+1,5,none⟩=some (.int .i64 s1)∧X.cell? ⟨w.heap.size+1,6,none⟩=some (.int .i64 s2)∧X.cell? ⟨w.heap.size+1,7,none⟩=some (.string s3)∧X.cell? ⟨w.heap.size+1,8,none⟩=some (.slice sa sn sc):=fun X hX=>by
  have e0:=(hX.block _ (lohQ ht0)).trans ht0
  have e1:=(hX.block _ (lohQ hs0)).trans hs0
  exact sf5
 obtain⟨pr,hpr⟩:∃pr,pr=zR par at_ x t:=⟨_,rfl⟩
 rw[←hpr]
 have HP:=Lib.hid hpath
 have HCE:=Lib.hid hcell
 have HTR:=Lib.hid (aN htr hSX)
 have HB:=Lib.hid (aN hb (aN hs hr0))
 have HSZ:=Lib.hid hsz
 have HBE:=Lib.hid hB
 have HSW:=Lib.hid hS
 have HPR:=Lib.hid hpr
 have hput:=zfM B S Sx (.agg #[.int .i64 t.id,.int .i64 t.kind,.string t.text,.slice ka nk tc]) (.agg #[.int .i64 s1,.int .i64 s2,.string s3,.slice sa sn sc]) t x par at_ (hSX B (BrQ _ _)) (fun y hy=>nL (hSx y hy) hb.size) (htr B (BrQ _ _)) (hx.kept fun y hy=>⟨hy,hb.block y (hSx y hy)⟩) om
 have hfr:∀X,Below w.heap.size w X→Calls Tryz.prog 94 #[.agg #[.int .i64 t.id,.int .i64 t.kind,.string t.text,.slice ka nk tc],.agg #[.int .i64 s1,.int .i64 s2,.string s3,.slice sa sn sc]] X _:=fun X hX=>zgi X S Sx _ _ t x (fun y hy=>nL (hS y hy) hX.size) (fun y hy=>nL (hSx y hy) hX.size) ⟨ka,tc,by rw[hnk],by rw[hnk] at*;exact hcap,hk.below hX hS⟩ (hx.kept fun y hy=>⟨hy,hX.block y (hSx y hy)⟩) htz hxz hok hxk
 have HB2:=Lib.hid (aN ht0 hs0)
 have HFR:=Lib.hid hfr
 have HPUT:=Lib.hid hput
 have HSX:=Lib.hid hSx
 clear hput hfr hSx hx hxz htz hok hxk HP
 clear hpath hcell htr hSX hb hs ht0 hs0 hr0 hS hk hcap hsz hnk hB hpr
 go_enter Tryz.func77,Tryz.ntmps77
 obtain⟨⟨n0,n1,n2,n3⟩,m2,m3,m5,m6,m7,m8⟩:=HCE.out B (BrQ _ _)
 rw[HBE.out] at n0 n1 n2 n3 m2 m3 m5 m6 m7 m8
 go_wp2_with fail
 change Calls _ _ _ (zl w [.cells #[.int .i64 t.id,.int .i64 t.kind,.string t.text,.slice ka nk tc] 27,.cells #[.int .i8 op,.int .i64 id,.int .i64 par,.int .i64 at_,.string tx,.int .i64 s1,.int .i64 s2,.string s3,.slice sa sn sc] 44,.cells #[.int .i64 0,.int .i64 0,.string ⟨#[]⟩,.slice none 0 0] 27]) _
 rw[←HBE.out]
 clear n0 n1 n2 n3 m2 m3 m5 m6 m7 m8
 refine HPUT.out.mono ?_
 rintro e W5 ⟨_,rfl,⟨yb,yc,rfl,hyc,hyk⟩,hb5⟩
 obtain⟨r,hr⟩:∃r,r=Zk par at_ t x:=⟨_,rfl⟩
 rw[←hr] at hyc hyk ⊢
 obtain⟨y,hy⟩:∃y,y=r.1:=⟨_,rfl⟩
 rw[←hy] at hyc hyk ⊢
 obtain⟨yn,hyn⟩:∃yn,yn=foLen y.kids:=⟨_,rfl⟩
 rw[←hyn] at hyc ⊢
 obtain⟨ye,hye⟩:∃ye,ye=r.2:=⟨_,rfl⟩
 rw[←hye]
 obtain⟨W6,hW6⟩:∃W6,W6=W5.alloc (.cells #[.int .i64 y.id,.int .i64 y.kind,.string y.text,.slice yb yn yc] 27):=⟨_,rfl⟩
 have hb56:Below W5.heap.size W5 W6:=by rw[hW6];exact zg _ _
 have hs6:W6.heap.size=W5.heap.size+1:=by rw[hW6];simp
 have hy6:W6.heap[W5.heap.size]? =some (.cells #[.int .i64 y.id,.int .i64 y.kind,.string y.text,.slice yb yn yc] 27 (0,0)):=by rw[hW6];exact hanQ _ _
 have hb6:Below B.heap.size B W6:=hb5.trans (hb56.mono hb5.size)
 have HB6:=Lib.hid hb6
 have HY:=Lib.hid (aN hyc (aN hyk (aN hb56 (aN hyn (aN hye (aN hr (aN hy (aN hs6 hb5.size))))))))
 have HY6:=Lib.hid hy6
 have HW6:=Lib.hid hW6
 obtain⟨xb,hxb⟩:∃xb,xb=W5.heap.size:=⟨_,rfl⟩
 clear hyc hyk hb56 hy6 hb6 hW6 hb5 hy hyn hye hr hs6
 go_upto_region 2 with fail
 change Code.wp _ _ _ _ (W5.alloc (.cells #[.int .i64 y.id,.int .i64 y.kind,.string y.text,.slice yb yn yc] 27))
 rw[←HW6.out,←hxb]
 rw[←hxb] at HY6
 have HXBB:=Lib.hid hxb
 clear HW6 hxb
 by_cases hz:ye=0
 · have hE:pr=(y,y9 (idT t) (idT x) 0):=by rw[HPR.out,zR,←HY.out.2.2.2.2.2.1,ipQ (by rw[←HY.out.2.2.2.2.1];exact hz),←HY.out.2.2.2.2.2.2.1]
   obtain⟨fe,hfe⟩:∃fe,fe=y9 (idT t) (idT x) 0:=⟨_,rfl⟩
   rw[←hfe] at hE
   have HE:=Lib.hid (aN hE hfe)
   subst hz
   clear hE hfe
   go_upto_region 4 with fail
   have hRR:w.heap.size+1<w.heap.size+1+1:=by omega
   have HXR:=Lib.hid (show xb≠w.heap.size+1+1 by have:=HXBB.out;have:=HB.out.2.1;have:=HY.out.2.2.2.2.2.2.2.2;omega)
   have HC6:Hid (∀X,Tc W6 X (w.heap.size+1+1)→(ug9 X w.heap.size t.id t.kind t.text ka nk tc)∧X.cell? ⟨w.heap.size+1,2,none⟩=some (.int .i64 par)∧X.cell? ⟨w.heap.size+1,3,none⟩=some (.int .i64 at_)∧X.cell? ⟨w.heap.size+1,5,none⟩=some (.int .i64 s1)∧X.cell? ⟨w.heap.size+1,6,none⟩=some (.int .i64 s2)∧X.cell? ⟨w.heap.size+1,7,none⟩=some (.string s3)∧X.cell? ⟨w.heap.size+1,8,none⟩=some (.slice sa sn sc)):=Lib.hid fun X hX=>by
    have e0:=((hX.block _ (nL (lohQ HB2.out.1) HB6.out.size) om).trans (HB6.out.block _ (lohQ HB2.out.1))).trans HB2.out.1
    have e1:=((hX.block _ (nL (lohQ HB2.out.2) HB6.out.size) om).trans (HB6.out.block _ (lohQ HB2.out.2))).trans HB2.out.2
    exact sf5
   have HBW6:=Lib.hid (show Below w.heap.size w W6 from HB.out.1.trans (HB6.out.mono HB.out.1.size))
   have HZ6:=Lib.hid (show W6.drew.heap[w.heap.size+1+1]? =some (.cells #[.int .i64 0,.int .i64 0,.string ⟨#[]⟩,.slice none 0 0] 27 (0,0)) from (HB6.out.block _ (lohQ HB.out.2.2)).trans HB.out.2.2)
   clear hRR
   refine wrhQ (S:=fun X=>Tc W6 X (w.heap.size+1+1)) kr1 (Tc.of (below_drewN (BrQ _ W6) 1)) (fun eH=>?_)
   refine tJ (i:=0) (.agg #[.int .i64 y.id,.int .i64 y.kind,.string y.text,.slice yb yn yc]) rfl ?_ ?_
   · clear eH;intro X hSw;obtain⟨q0,q1,q2,q3⟩:=zD ((hSw.block _ (lohQ HY6.out) HXR.out).trans HY6.out);clear hSw;go_simp
   simp only[Act.put,pg]
   refine tJ (i:=1) (.agg #[.int .i64 t.id,.int .i64 t.kind,.string t.text,.slice ka nk tc]) rfl ?_ ?_
   · exact uc0
   simp only[Act.put,pg]
   refine tG (i:=2) (.pointer (some ⟨w.heap.size+1,5,none⟩)) rfl ?_
   simp only[Act.put,pg]
   refine tJ (i:=3) (.agg #[.int .i64 s1,.int .i64 s2,.string s3,.slice sa sn sc]) rfl ?_ ?_
   · exact uc0
   simp only[Act.put,pg]
   refine rd [4] ?_
   refine AcQ (o:=_) rfl (fun K hK=>?_) AnQ
   rw[ipQ ug8]
   simp only[pg3]
   have HK:=Lib.hid hK
   have HS:=Lib.hid eH
   clear hK eH
   go_wp2_with (go_at_call 94;refine (HFR.out _ (HS.out.below HBW6.out om)).mono ?_;rintro e W7 ⟨rfl,hb7⟩;have HS7:=Lib.hid (HS.out.then hb7);have HZ7:=Lib.hid ((hb7.block _ (lohQ HZ6.out)).trans HZ6.out);clear hb7;rw[←HE.out.2])
   refine HK.out _ _ HS7.out (fun eH=>?_)
   clear HK HS
   refine rd [5] ?_
   refine AcQ (o:=_) rfl (fun K hK=>?_) AnQ
   rw[ipQ ug8]
   simp only[pg3]
   have HK:=Lib.hid hK
   have HS:=Lib.hid eH
   clear hK eH
   have hr3:=HZ7.out
   have hbz:=HS7.out.below HBW6.out om
   obtain⟨z0,z1,z2,z3⟩:=zD hr3
   have zf:∀j,W7.frozen? ⟨w.heap.size+1+1,j,none⟩=false:=fun j=>forQ _ _ j _ _ hr3
   obtain⟨V,hV,r1,r2,r3,r4,r5,r6⟩:=zo (u0:= .int .i64 y.id) (u1:= .int .i64 y.kind) (u2:= .string y.text) (u3:= .slice yb yn yc) hr3
   have hTV:Tc W6 V (w.heap.size+1+1):=⟨r3.trans HS7.out.os,r4.trans HS7.out.tape,r5.trans HS7.out.output,by rw[r6];exact HS7.out.size,fun z hz hn=>(r2 z hn).trans (HS7.out.block z hz hn)⟩
   have HE2:=Lib.hid (aN hbz (aN hV (aN r1 (aN r2 (aN r3 (aN r4 (aN r5 (aN r6 hTV))))))))
   clear hbz hr3 hV r1 r2 r3 r4 r5 r6 hTV
   go_wp2_with fail
   rw[←HE2.out.2.1]
   clear z0 z1 z2 z3 zf
   refine HK.out _ _ HE2.out.2.2.2.2.2.2.2.2 (fun eH=>?_)
   clear HK HS
   refine tG (i:=6) (.int .i64 fe) rfl ?_
   simp only[Act.put,pg]
   refine wpAnyH_done kr1 ?_ _
   clear eH
   obtain⟨hbz,hV,r1,r2,r3,r4,r5,r6,hTV⟩:=HE2.out
   obtain⟨hyc,hyk,hb56,hyn,hye,hr,hy,hs6,hB5⟩:=HY.out
   have hok:zt V (fun z=>(S z∨Sx z)∨w.heap.size≤z∧z<V.heap.size) y.kids yb:=hyk.kept fun z hz=>by
    have h1:=HSW.out
    have h2:=HSX.out
    have h3:=HB.out.2.1
    have h4:=HB.out.1.size
    have h5:=HS7.out.size
    have hz2:((S z∨Sx z)∨w.heap.size≤z∧z<V.heap.size)∧z<W5.heap.size∧z≠w.heap.size+1+1:=by
     rcases hz with (hz | hz) | hz
     · have:=h1 z hz;exact⟨Or.inl (Or.inl hz),by omega,by omega⟩
     · have:=h2 z hz;exact⟨Or.inl (Or.inr hz),by omega,by omega⟩
     · exact⟨Or.inr ⟨by omega,by omega⟩,by omega,by omega⟩
    exact⟨hz2.1,(hTV.block z om hz2.2.2).trans (hb56.block z hz2.2.1)⟩
   have hEE:=HE.out.1
   clear hb56 hTV HY HE2
   go_wp2_with fail
   exact step_end (p:=4) (u:=5) rfl rfl (g:=w.heap.size+1+1) (y:=y) (m:=yn) (kb:=yb) (kc:=yc) ⟨r3.trans hbz.os,r4.trans hbz.tape,r5.trans hbz.output,by rw[r6];exact hbz.size,fun k hk=>(r2 k om).trans (hbz.block k hk)⟩ om ⟨_,_,r1,rfl⟩ hyn (by rw[←hyn];exact hyc) hok (by rw[hEE]) rfl (by rw[hEE];rfl)
 · have hzb:(ye != 0)=true:=by simpa using hz
   have hE0:pr=(zu,ye):=by rw[HPR.out,zR,←HY.out.2.2.2.2.2.1,inQ (by rw[←HY.out.2.2.2.2.1];exact hz),←HY.out.2.2.2.2.1]
   clear hz
   have hb6:=HB6.out
   have hE:pr=(zu,ye):=hE0
   have hr3:=(hb6.block _ (lohQ HB.out.2.2)).trans HB.out.2.2
   have hbz:Below w.heap.size w W6:=HB.out.1.trans (hb6.mono HB.out.1.size)
   obtain⟨z0,z1,z2,z3⟩:=zD hr3
   have zf:∀j,W6.frozen? ⟨w.heap.size+1+1,j,none⟩=false:=fun j=>forQ _ _ j _ _ hr3
   exact sa7
theorem zf5 (w:World)(S:Nat→Prop)(hS:∀y,S y→y<w.heap.size)(u:Tr)(sb:Nat)(tx:ByteArray)(hsl:sb<w.heap.size)(hc:w.cell? ⟨sb,4,none⟩=some (.string tx)):∀W,Below w.heap.size w W→W.heap.size=w.heap.size+4→zjC Tryz.prog W w.heap.size (fun _=>False) S S u 99 (.pointer (some ⟨sb,0,none⟩)) ⟨u.id,u.kind,tx,u.kids⟩ (fun _=>True):=fun W hb hs=>by
 refine⟨fun _ _=>rfl,fun X X1 b off sv xs hH k hlt hbl=>?_⟩
 obtain⟨a,c,rfl⟩:=zy k.own
 have hst:X1.cell? ⟨sb,4,none⟩=some (.string tx):=(World.cell?_of_block (a:=⟨sb,4,none⟩) ((k.h.kept sb om om (fun h=>h)).trans (hb.block sb hsl))).trans hc
 have c2:=k.c2
 have fz:=k.fz
 have HK:=Lib.hid (aN k (aN hH (aN hlt hbl)))
 clear k hH hlt hbl hc hsl hb
 go_enter Tryz.func99,Tryz.ntmps99
 go_wp2_with fail
 go_end0
 obtain⟨k,hH,hlt,hbl⟩:=HK.out
 obtain⟨X',hX'⟩:∃X',X'=X1.setCell ⟨b,off+2,none⟩ (.string tx):=⟨_,rfl⟩
 rw[←hX']
 have hco:∀i,i≠off+2→X'.cell? ⟨b,i,none⟩=X1.cell? ⟨b,i,none⟩:=fun i hi=>by
  rw[hX',World.cell?_setCell_other X1 ⟨b,off+2,none⟩ ⟨b,i,none⟩ _ (by intro e;cases e;exact hi rfl)]
 have hblk:∀y,y≠b→X'.heap[y]? =X1.heap[y]?:=fun y hy=>by rw[hX'];exact BhsQ _ _ _ _ hy
 have hSz:=hH.size
 obtain⟨hl,hlc⟩:=Yk (S':=fun y=>y≠b∧(S y∨(y=w.heap.size∨W.heap.size≤y))) k.own k.row rfl (fun y hy=>⟨by have:=hS y hy;rcases hbl with h | h<;>omega,Or.inl hy⟩) (fun y hy=>⟨by omega,Or.inr (Or.inr om)⟩)
 refine⟨rfl,by rw[hX'];rfl,by rw[hX'];rfl,by rw[hX'];rfl,by rw[hX'];simp[World.setCell],fun y _ hn _=>hblk y hn,fun j hj=>hco j om,⟨Or.inr hbl,?_,?_,?_,a,c,?_,hlc,hl.kept fun y hy=>⟨hy.2,hblk y hy.1⟩⟩,trivial⟩
 · rw[hco _ om];exact k.c0
 · rw[hco _ om];exact k.c1
 · rw[hX'];exact World.cell?_setCell_same' X1 _ _ (by rw[k.c2];rfl)
 · rw[hco _ om];exact k.c3
def jf (id:Int)(tx:ByteArray)(t:Tr):Tr×Int:=match zA id t with
 | none=>(zu,4)
 | some p=>match atT t p with
   | none=>(zu,4)
   | some u=>(zO t p ⟨u.id,u.kind,tx,u.kids⟩,0)
theorem kN {id:Int}{tx:ByteArray}{t:Tr}(h:zA id t=none):jf id tx t=(zu,4):=by unfold jf;rw[h]
theorem Zr {id:Int}{tx:ByteArray}{t u:Tr}{p:List Nat}(h:zA id t=some p)(hu:atT t p=some u):jf id tx t=(zO t p ⟨u.id,u.kind,tx,u.kids⟩,0):=by
 unfold jf;rw[h];simp only;rw[hu]
theorem zgV (w:World)(S:Nat→Prop)(nv:Value)(t:Tr)(op id par at_ s1 s2:Int)(tx s3:ByteArray)(sa:Option Addr)(sn sc:Nat)(hS:∀y,S y→y<w.heap.size)(ht:zG w S nv t)(hsz:zb t.kids≤100000):
 Calls Tryz.prog 80 #[nv,.agg #[.int .i8 op,.int .i64 id,.int .i64 par,.int .i64 at_,.string tx,.int .i64 s1,.int .i64 s2,.string s3,.slice sa sn sc]] w (kF w S (jf id tx t)):=by
 obtain⟨ka,tc,rfl,hcap,hk⟩:=ht
 obtain⟨nk,hnk⟩:∃nk,nk=foLen t.kids:=⟨_,rfl⟩
 rw[←hnk]
 obtain⟨B,hB⟩:∃B,B=zl w [.cells #[.int .i64 t.id,.int .i64 t.kind,.string t.text,.slice ka nk tc] 27,.cells #[.int .i8 op,.int .i64 id,.int .i64 par,.int .i64 at_,.string tx,.int .i64 s1,.int .i64 s2,.string s3,.slice sa sn sc] 44,.cells #[.int .i64 0,.int .i64 0,.string ⟨#[]⟩,.slice none 0 0] 27]:=⟨_,rfl⟩
 have hb:Below w.heap.size w B:=by rw[hB];exact zi _ _
 have hs:B.heap.size=w.heap.size+3:=by rw[hB];exact zw _ _
 have ht0:B.heap[w.heap.size]? =some (.cells #[.int .i64 t.id,.int .i64 t.kind,.string t.text,.slice ka nk tc] 27 (0,0)):=by rw[hB];exact ze _ _ 0 _ rfl
 have hs0:B.heap[w.heap.size+1]? =some (.cells #[.int .i8 op,.int .i64 id,.int .i64 par,.int .i64 at_,.string tx,.int .i64 s1,.int .i64 s2,.string s3,.slice sa sn sc] 44 (0,0)):=by rw[hB];exact ze _ _ 1 _ rfl
 have hr0:B.heap[w.heap.size+1+1]? =some (.cells #[.int .i64 0,.int .i64 0,.string ⟨#[]⟩,.slice none 0 0] 27 (0,0)):=by rw[hB];exact ze _ _ 2 _ rfl
 have htr:∀X,Below B.heap.size B X→zG X S (.agg #[.int .i64 t.id,.int .i64 t.kind,.string t.text,.slice ka nk tc]) t:=fun X hX=>⟨ka,tc,by rw[hnk],by rw[hnk] at*;exact hcap,hk.below (hb.trans (hX.mono hb.size)) hS⟩
 have hSX:∀X,Below B.heap.size B X→∀y,S y→y<X.heap.size:=fun X hX y hy=>nL (hS y hy) (NltQ hb.size hX.size)
 have hpath:∀(i:Int) (X:World),Below B.heap.size B X→Calls Tryz.prog 95 #[.agg #[.int .i64 t.id,.int .i64 t.kind,.string t.text,.slice ka nk tc],.int .i64 i] X (zbv X (zA i t)):=fun i X hX=>Zj X S _ t i (hSX X hX) (htr X hX) om
 have hcell:∀X,Below B.heap.size B X→(ug9 X w.heap.size t.id t.kind t.text ka nk tc)∧X.cell? ⟨w.heap.size+1,1,none⟩=some (.int .i64 id)∧X.cell? ⟨w.heap.size+1,4,none⟩=some (.string tx):=fun X hX=>by
  have e0:=(hX.block _ (lohQ ht0)).trans ht0
  have e1:=(hX.block _ (lohQ hs0)).trans hs0
  exact⟨zD e0,by rw[corQ _ _ 1 _ _ _ e1];rfl,by rw[corQ _ _ 4 _ _ _ e1];rfl⟩
 obtain⟨pr,hpr⟩:∃pr,pr=jf id tx t:=⟨_,rfl⟩
 rw[←hpr]
 have HP:=Lib.hid hpath
 have HCE:=Lib.hid hcell
 have HTR:=Lib.hid (aN htr hSX)
 have HB:=Lib.hid (aN hb (aN hs hr0))
 have HSZ:=Lib.hid hsz
 have HBE:=Lib.hid hB
 have HSW:=Lib.hid hS
 have HPR:=Lib.hid hpr
 clear hpath hcell htr hSX hb hs ht0 hs0 hr0 hS hk hcap hsz hnk hB hpr
 go_enter Tryz.func80,Tryz.ntmps80
 go_wp2_with fail
 change Calls _ _ _ (zl w [.cells #[.int .i64 t.id,.int .i64 t.kind,.string t.text,.slice ka nk tc] 27,.cells #[.int .i8 op,.int .i64 id,.int .i64 par,.int .i64 at_,.string tx,.int .i64 s1,.int .i64 s2,.string s3,.slice sa sn sc] 44,.cells #[.int .i64 0,.int .i64 0,.string ⟨#[]⟩,.slice none 0 0] 27]) _
 rw[←HBE.out]
 refine (HP.out id B (BrQ _ _)).mono ?_
 rintro e W2 ⟨pv,rfl,hown,hb2⟩
 cases hpi:zA id t with
 | none=>
   clear hown
   simp only[Option.isSome_none]
   have hE:pr=(zu,4):=by rw[HPR.out,kN hpi]
   have hr3:=(hb2.block _ (lohQ HB.out.2.2)).trans HB.out.2.2
   have hbz:Below w.heap.size w W2:=HB.out.1.trans (hb2.mono HB.out.1.size)
   obtain⟨z0,z1,z2,z3⟩:=zD hr3
   have zf:∀j,W2.frozen? ⟨w.heap.size+1+1,j,none⟩=false:=fun j=>forQ _ _ j _ _ hr3
   exact sa7
 | some p=>
   rw[hpi] at hown
   simp only[Option.getD_some] at hown
   obtain⟨pa,pc,rfl⟩:=zy hown
   obtain⟨m,hm⟩:∃m,m=(yY p).length:=⟨_,rfl⟩
   rw[←hm] at hown ⊢
   have hpl:m=p.length:=by rw[hm,zP]
   simp only[Option.isSome_some]
   obtain⟨u,hu,huid⟩:=yX id t _ hpi
   have hE:=Zr (tx:=tx) hpi hu
   rw[←HPR.out] at hE
   have hus:=kZ p t u hu
   have hsz:=HSZ.out
   obtain⟨⟨n0,n1,n2,n3⟩,m1,m4⟩:=HCE.out W2 hb2
   have hB2:=hb2.size
   have hBs:=HB.out.2.1
   have hal:=zjT W2 (E:=fun _=>False) (S:=S) (SS:=S) (RR:=fun _=>True) (.agg #[.int .i64 t.id,.int .i64 t.kind,.string t.text,.slice ka nk tc]) t u ⟨u.id,u.kind,tx,u.kids⟩ p pa m pc (fun y hy=>⟨HTR.out.2 W2 hb2 y hy,fun h=>h⟩) (fun y hy=>⟨HTR.out.2 W2 hb2 y hy,fun h=>h⟩) (fun _ h=>h) (fun _ h=>h.elim) hpl om (HTR.out.1 W2 hb2) om ((Yr (l:=yY p) hown).1.kept fun y hy=>⟨⟨hy.2,fun h=>h⟩,rfl⟩) hu
    (zf5 W2 S (HTR.out.2 W2 hb2) u (w.heap.size+1) tx om m4) (fun _ _ _ h=>h)
   obtain⟨y,hy⟩:∃y,y=zO t p ⟨u.id,u.kind,tx,u.kids⟩:=⟨_,rfl⟩
   rw[←hy] at hal hE
   have HAL:=Lib.hid hal
   have HG:=Lib.hid (aN hE hb2)
   have hmf:∀(fn:Fn) (first cap:Array Value) (w:World),(Instr.makeFunc fn first cap).run Tryz.prog w= .ok (.func fn first cap) w:=fun _ _ _ _=>rfl
   clear hal hown hm hpl hpi hu huid hE hus hsz hb2 hB2 hBs hy
   go_wp2_with fail
   refine HAL.out.mono ?_
   rintro e X ⟨_,rfl,⟨kb,kc,rfl,hkc,hkk⟩,k1,k2,k3,k4,k5,_⟩
   obtain⟨yn,hyn⟩:∃yn,yn=foLen y.kids:=⟨_,rfl⟩
   rw[←hyn] at hkc ⊢
   have hbx:Below W2.heap.size W2 X:=⟨k1,k2,k3,k4,fun z hz=>k5 z hz (fun h=>h)⟩
   have hbX:Below B.heap.size B X:=HG.out.2.trans (hbx.mono HG.out.2.size)
   have hr3:=(hbX.block _ (lohQ HB.out.2.2)).trans HB.out.2.2
   have hbz:Below w.heap.size w X:=HB.out.1.trans (hbX.mono HB.out.1.size)
   obtain⟨z0,z1,z2,z3⟩:=zD hr3
   have zf:∀j,X.frozen? ⟨w.heap.size+1+1,j,none⟩=false:=fun j=>forQ _ _ j _ _ hr3
   obtain⟨V,hV,r1,r2,r3,r4,r5,r6⟩:=zo (u0:= .int .i64 y.id) (u1:= .int .i64 y.kind) (u2:= .string y.text) (u3:= .slice kb yn kc) hr3
   have hBw:=HB.out.2.1
   have hWB:=HG.out.2.size
   have hok:zt V (fun z=>S z∨w.heap.size≤z∧z<V.heap.size) y.kids kb:=hkk.kept fun z hz=>by
    have hSz:=HTR.out.2 B (BrQ _ _)
    have hz2:(S z∨w.heap.size≤z∧z<V.heap.size)∧z≠w.heap.size+1+1:=by
     rcases hz with hz | hz
     · have h1:=HSW.out z hz
       exact⟨Or.inl hz,by omega⟩
     · exact⟨Or.inr ⟨by omega,by omega⟩,by omega⟩
    exact⟨hz2.1,r2 z hz2.2⟩
   have HE:=Lib.hid (aN hbz (aN hV (aN r1 (aN r2 (aN r3 (aN r4 (aN r5 (aN r6 (aN hok (aN hkc hyn))))))))))
   clear hmf hbX hr3 hbz hV r1 r2 r3 r4 r5 r6 hBw hWB hok hkk hkc hyn hbx k1 k2 k3 k4 k5 n0 n1 n2 n3 m1 m4
   exact sd5
end Go.Proofs.YtgkmmnihaiopaaaGreat
