/-
  .
-/
import Derived.Test.YtnikgofkldkdkaaRWoQt
set_option maxRecDepth 100000
set_option maxHeartbeats 40000000
set_option linter.unusedVariables false
set_option linter.unusedSimpArgs false
namespace Go.Proofs.Ytnikgofkldkdkaa
open Go.RowKit Go.Shelf
theorem zb9 {id par at_:Int}{t:Tr}(h:zw id t=none∨zw par t=none):(yI id par at_ t).2≠0:=by
 rcases h with h | h
 · rw[Qp h];decide
 · rw[QU h];decide
theorem zi8 {id par at_:Int}{t:Tr}(h:t.id=id):(yI id par at_ t).2≠0:=by
 have h0:zw id t=some []:=by rw[zw,ipQ h]
 cases hp:zw par t with
 | none=>exact zb9 (Or.inr hp)
 | some q=>rw[YJ h0 hp];decide
theorem zca {id:Int}{t:Tr}{p:List Nat}(hr:t.id≠id)(h:zw id t=some p):p≠[]∧fpi id 0 t.kids=some p:=by
 rw[zw,inQ hr] at h
 refine⟨fun e=>?_,h⟩
 obtain⟨k,r,e2,_⟩:=ZN _ _ _ _ h
 rw[e] at e2;cases e2
theorem zi6 {id par at_:Int}{t z:Tr}{p r:List Nat}(hd:qR t)(hr:t.id≠id)(h:zw id t=some p)(hz:atT t p=some z)(hp:zw par z=some r):(yI id par at_ t).2≠0:=by
 obtain⟨y,hy,hid⟩:=zaF par z r hp
 have ha:atT t (p++r)=some y:=by rw[vI,hz];exact hy
 have hq:zw par t=some (p++r):=by rw[←hid];exact jW hd ha
 rw[YI h hq (zca hr h).1 (by rw[YX h hq];exact decide_eq_true (List.prefix_append p r))]
 decide
theorem zi7 {id par at_:Int}{t z:Tr}{p q0:List Nat}(hd:qR t)(hr:t.id≠id)(h:zw id t=some p)(hz:atT t p=some z)(hp:zw par t=some q0)(hn:zw par z=none):
 ∃u i rest,QZ id t=some (u,i)∧i<foLen u.kids∧za u.kids≤za t.kids∧za (yA u.kids i)≤za t.kids∧rest=kY id (yA u.kids i) t∧za rest.kids+za z.kids+1=za t.kids∧yI id par at_ t=kX par at_ rest z:=by
 obtain⟨h0,hf⟩:=zca hr h
 obtain⟨p',i,u,v,e,hu,hv,hid,hpar⟩:=je hf
 subst e
 have hzv:z=v:=by
  have:=Y7 hu hv
  rw[this] at hz
  exact (Option.some.inj hz).symm
 subst hzv
 have hlt:=qd hv
 have hs1:=Yb u.kids i z hv
 have hs2:=jf p' t u ⟨u.id,u.kind,u.text,yA u.kids i⟩ hu
 simp only at hs2
 have hus:za u.kids≤za t.kids:=by
  have h1:=kC (fun _=>true) p' t u hu
  rw[qh,qh] at h1;omega
 have hw:vz id par t=false:=by
  rw[YX h hp]
  refine decide_eq_false fun hpre=>?_
  obtain⟨r,hr2⟩:=hpre
  obtain⟨n,hn2,hnid⟩:=zaF _ _ _ hp
  rw[←hr2,vI,Y7 hu hv] at hn2
  simp only[Option.bind_some] at hn2
  have h1:=zbR par r z n hn2
  have h2:=JZ n
  rw[hnid] at h2
  have h3:=(Qt par z).1 hn
  omega
 refine⟨u,i,zP t p' ⟨u.id,u.kind,u.text,yA u.kids i⟩,by rw[Qs,hpar];rfl,hlt,hus,by omega,by rw[kY,hpar],by omega,Qo h hp hw hu hv⟩
theorem zhW {par at_:Int}{rest z m:Tr}{q:List Nat}(hq:zw par rest=some q)(hm:atT rest q=some m):(0≤at_∧at_≤(foLen m.kids:Int)→kX par at_ rest z=((mkT par m.text (yR m.kids at_.toNat z) false rest).1,0))∧(¬(0≤at_∧at_≤(foLen m.kids:Int))→(kX par at_ rest z).2≠0):=by
 obtain⟨u,hu,hid,hmk⟩:=zc2 par m.text (yR m.kids at_.toNat z) hq
 rw[hm] at hu
 cases hu
 refine⟨fun hc=>?_,fun hc=>?_⟩
 · rw[vo hq hm,ipQ hc,hmk]
 · rw[vo hq hm,inQ hc];show (2:Int)≠0;decide
def jQ (r:Tr×Int)(w:World)(e:Ending)(w' :World):Prop:=∃(x:Tr) (va:Option Addr) (vc:Nat) (er:Int),e= .returned (.tuple #[.agg #[.int .i64 x.id,.int .i64 x.kind,.string x.text,.slice va (foLen x.kids) vc],.int .i64 er])∧foLen x.kids≤vc∧zk w' (kP w w') x.kids va∧Below w.heap.size w w'∧(er=0→r=(x,0))∧(er≠0→r.2≠0)
theorem yZ {r:Tr×Int}{w W:World}{b:Nat}{er:Int}(hb:Below w.heap.size w W)(hz:W.heap[b]? =some (.cells #[.int .i64 0,.int .i64 0,.string ⟨#[]⟩,.slice none 0 0] 27 (0,0)))(hb2:w.heap.size≤b)(he:er≠0)(hr:r.2≠0):
 jQ r w (.returned (.tuple #[.agg #[.int .i64 0,.int .i64 0,.string ⟨#[]⟩,.slice none 0 0],.int .i64 er])) ((((W.setCell ⟨b,0,none⟩ (.int .i64 0)).setCell ⟨b,1,none⟩ (.int .i64 0)).setCell ⟨b,2,none⟩ (.string ⟨#[]⟩)).setCell ⟨b,3,none⟩ (.slice none 0 0)):=
 ⟨⟨0,0,⟨#[]⟩,.nil⟩,none,0,er,rfl,NlrQ _,True.intro,hb.trans ((zX hz _ _ _ _).2.1 _ hb2),fun h=>absurd h he,fun _=>hr⟩
theorem Qb {w:World}{b:Nat}{c0 c1 c2 c3 c4 c5 c6 c7 c8:Value}{T:TypeId}(h:w.heap[b]? =some (.cells #[c0,c1,c2,c3,c4,c5,c6,c7,c8] T (0,0))):w.cell? ⟨b,1,none⟩=some c1∧w.cell? ⟨b,2,none⟩=some c2∧w.cell? ⟨b,3,none⟩=some c3:=
 ⟨by rw[corQ _ _ 1 _ _ _ h];rfl,by rw[corQ _ _ 2 _ _ _ h];rfl,by rw[corQ _ _ 3 _ _ _ h];rfl⟩
structure Ym (b:Nat) (V X:World):Prop where
 os:X.os=V.os
 tape:X.tape=V.tape
 output:X.output=V.output
 size:V.heap.size≤X.heap.size
 block:∀q,q<V.heap.size→q≠b→X.heap[q]? =V.heap[q]?
theorem Ym.on {b:Nat}{V X Y:World}(h:Ym b V X)(k:Below X.heap.size X Y):Ym b V Y:=⟨k.os.trans h.os,k.tape.trans h.tape,k.output.trans h.output,NltQ h.size k.size,fun q h1 h2=>(k.block q (nL h1 h.size)).trans (h.block q h1 h2)⟩
theorem zgh (w : World)(S:Nat→Prop)(t:Tr)(op id par at_ xi xk:Int)(tx xt:ByteArray)(ka sa:Option Addr)(len cap sn sc:Nat)(hlen:len=foLen t.kids)(hd:qR t)(hsz:za t.kids+1≤2000)(hS:∀q,S q→q<w.heap.size)(hcap:foLen t.kids≤cap)(hk:zk w S t.kids ka):
 Calls Try.prog 60 #[.agg #[.int .i64 t.id,.int .i64 t.kind,.string t.text,.slice ka len cap],.agg #[.int .i8 op,.int .i64 id,.int .i64 par,.int .i64 at_,.string tx,.int .i64 xi,.int .i64 xk,.string xt,.slice sa sn sc]] w (jQ (yI id par at_ t) w):=by
 obtain⟨B,hB⟩:∃B,B=zx w [.cells #[.int .i64 t.id,.int .i64 t.kind,.string t.text,.slice ka len cap] 27,.cells #[.int .i8 op,.int .i64 id,.int .i64 par,.int .i64 at_,.string tx,.int .i64 xi,.int .i64 xk,.string xt,.slice sa sn sc] 49,.cells #[.int .i64 0,.int .i64 0,.string ⟨#[]⟩,.slice none 0 0] 27]:=⟨_,rfl⟩
 have hb:Below w.heap.size w B:=by rw[hB];exact zl _ _
 have e0:B.heap[w.heap.size]? =some (.cells #[.int .i64 t.id,.int .i64 t.kind,.string t.text,.slice ka len cap] 27 (0,0)):=by rw[hB];exact ze _ _ 0 _ rfl
 have e1:B.heap[w.heap.size+1]? =some (.cells #[.int .i8 op,.int .i64 id,.int .i64 par,.int .i64 at_,.string tx,.int .i64 xi,.int .i64 xk,.string xt,.slice sa sn sc] 49 (0,0)):=by rw[hB];exact ze _ _ 1 _ rfl
 have e2:B.heap[w.heap.size+1+1]? =some (.cells #[.int .i64 0,.int .i64 0,.string ⟨#[]⟩,.slice none 0 0] 27 (0,0)):=by rw[hB];exact ze _ _ 2 _ rfl
 have hT:∀X,Below w.heap.size w X→zK X S (.agg #[.int .i64 t.id,.int .i64 t.kind,.string t.text,.slice ka len cap]) t:=fun X hX=>⟨ka,cap,by rw[hlen],hcap,hk.below hX hS⟩
 have HT:=hH (aN hT (aN hS (aN hsz (aN hd hlen))))
 have HB:=hH (aN hb (aN e0 (aN e1 e2)))
 have hSX:Hid (∀X,Below w.heap.size w X→∀q,S q→q<X.heap.size):=hH fun X hX q hq=>nL (hS q hq) hX.size
 have HF1:=hH (vJ B S (.agg #[.int .i64 t.id,.int .i64 t.kind,.string t.text,.slice ka len cap]) t id hsz (fun q hq=>nL (hS q hq) hb.size) (hT B hb))
 have HBE:=hH hB
 obtain⟨p0,p1,p2,p3⟩:=zF e0
 obtain⟨s1,s2,s3⟩:=Qb e1
 clear hb e0 e1 e2 hT hS hsz hd hlen hcap hk hB
 go_enter Try.func60,Try.ntmps60
 go_upto_region 1 with fail
 change Code.wp _ _ _ _ (zx w [.cells #[.int .i64 t.id,.int .i64 t.kind,.string t.text,.slice ka len cap] 27,.cells #[.int .i8 op,.int .i64 id,.int .i64 par,.int .i64 at_,.string tx,.int .i64 xi,.int .i64 xk,.string xt,.slice sa sn sc] 49,.cells #[.int .i64 0,.int .i64 0,.string ⟨#[]⟩,.slice none 0 0] 27])
 rw[←HBE.out]
 clear HBE
 go_wp2_with fail
 refine HF1.out.mono ?_
 rintro e w2 ⟨z,va,vc,ok,rfl,hvc,hvf,hb2,hy,hn⟩
 clear HF1 p0 p1 p2 p3 s1 s2 s3
 obtain⟨zn,hzn⟩:∃zn,zn=foLen z.kids:=⟨_,rfl⟩
 rw[←hzn]
 obtain⟨W3,hW3⟩:∃W3,W3=w2.alloc (.cells #[.int .i64 z.id,.int .i64 z.kind,.string z.text,.slice va zn vc] 27):=⟨_,rfl⟩
 have hb3:Below B.heap.size B W3:=hb2.trans uc4
 have eG:W3.heap[w2.heap.size]? =some (.cells #[.int .i64 z.id,.int .i64 z.kind,.string z.text,.slice va zn vc] 27 (0,0)):=by rw[hW3];exact hanQ _ _
 obtain⟨G,hG⟩:∃G,G=w2.heap.size:=⟨_,rfl⟩
 have HGN:=hH (show w.heap.size+1+1<G by rw[hG];have:=lohQ HB.out.2.2.2;have:=hb2.size;omega)
 rw[←hG] at eG
 have hbw3:=HB.out.1.trans (hb3.mono HB.out.1.size)
 have f0:=(hb3.block _ (lohQ HB.out.2.1)).trans HB.out.2.1
 have f1:=(hb3.block _ (lohQ HB.out.2.2.1)).trans HB.out.2.2.1
 have f2:=(hb3.block _ (lohQ HB.out.2.2.2)).trans HB.out.2.2.2
 have hvf3:zk W3 S z.kids va:=hvf.kept fun q hq=>⟨hq,by rw[hW3];exact BhaQ _ _ _ (nL (hSX.out B HB.out.1 q hq) hb2.size)⟩
 have HW3:=hH hW3
 have HA:=hH (aN hbw3 (aN f0 (aN f1 (aN f2 (aN eG (aN hvf3 (aN hvc hzn)))))))
 have HY:=hH (aN hy hn)
 clear hb2 hW3 hb3 hbw3 f0 f1 f2 eG hvf hvf3 hvc hzn hy hn HB
 go_upto_region 2 with fail
 change Code.wp _ _ _ _ (w2.alloc (.cells #[.int .i64 z.id,.int .i64 z.kind,.string z.text,.slice va zn vc] 27))
 rw[←HW3.out,←hG]
 clear HW3 hG
 cases ok with
 | false=>
   have hb3:=HA.out.1
   have f2:=HA.out.2.2.2.1
   obtain⟨z0,z1,z2,z3⟩:=zF f2
   have gz:∀j,W3.frozen? ⟨w.heap.size+1+1,j,none⟩=false:=fun j=>forQ _ _ j _ _ f2
   have HZ:=hH (zX f2 (.int .i64 0) (.int .i64 0) (.string ⟨#[]⟩) (.slice none 0 0))
   have HEE:=hH (yZ (r:=yI id par at_ t) (er:=4) hb3 f2 om ue9 (zb9 (Or.inl (HY.out.2 rfl))))
   exact sc2
 | true =>
   obtain⟨pp,hp,hz⟩:=HY.out.1 rfl
   have HP:=hH (aN hp hz)
   clear hp hz HY
   have HF2:=hH (vJ W3 S (.agg #[.int .i64 t.id,.int .i64 t.kind,.string t.text,.slice ka len cap]) t par HT.out.2.2.1 (hSX.out W3 HA.out.1) (HT.out.1 W3 HA.out.1))
   obtain⟨p0,p1,p2,p3⟩:=zF HA.out.2.1
   obtain⟨s1,s2,s3⟩:=Qb HA.out.2.2.1
   go_wp2_with fail
   refine HF2.out.mono ?_
   rintro e w4 ⟨z2,va2,vc2,ok,rfl,_,_,hb4,hy,hn⟩
   clear HF2 p0 p1 p2 p3 s1 s2 s3
   have hb4w:=HA.out.1.trans (hb4.mono HA.out.1.size)
   have f0:=(hb4.block _ (lohQ HA.out.2.1)).trans HA.out.2.1
   have f1:=(hb4.block _ (lohQ HA.out.2.2.1)).trans HA.out.2.2.1
   have f2:=(hb4.block _ (lohQ HA.out.2.2.2.1)).trans HA.out.2.2.2.1
   have f3:=(hb4.block _ (lohQ HA.out.2.2.2.2.1)).trans HA.out.2.2.2.2.1
   have hvf4:zk w4 S z.kids va:=HA.out.2.2.2.2.2.1.kept fun q hq=>⟨hq,hb4.block q (hSX.out W3 HA.out.1 q hq)⟩
   have HC:=hH (aN hb4w (aN f0 (aN f1 (aN f2 (aN f3 (aN hvf4 (aN HA.out.2.2.2.2.2.2.1 HA.out.2.2.2.2.2.2.2)))))))
   have HY:=hH (aN hy hn)
   clear hb4 hb4w f0 f1 f2 f3 hvf4 hy hn HA
   cases ok with
   | false=>
     have hb3:=HC.out.1
     have f2:=HC.out.2.2.2.1
     obtain⟨z0,z1,z2,z3⟩:=zF f2
     have gz:∀j,w4.frozen? ⟨w.heap.size+1+1,j,none⟩=false:=fun j=>forQ _ _ j _ _ f2
     have HZ:=hH (zX f2 (.int .i64 0) (.int .i64 0) (.string ⟨#[]⟩) (.slice none 0 0))
     have HEE:=hH (yZ (r:=yI id par at_ t) (er:=4) hb3 f2 om ue9 (zb9 (Or.inr (HY.out.2 rfl))))
     exact sc2
   | true =>
     obtain⟨q0,hq0,_⟩:=HY.out.1 rfl
     have HQ:=hH hq0
     clear hq0 HY
     obtain⟨p0,p1,p2,p3⟩:=zF HC.out.2.1
     obtain⟨s1,s2,s3⟩:=Qb HC.out.2.2.1
     by_cases hr:t.id=id
     · have hrb:(t.id == id)=true:=by simpa using hr
       have hb3:=HC.out.1
       have f2:=HC.out.2.2.2.1
       have HRI:=hH hr
       clear hr
       obtain⟨z0,z1,z2,z3⟩:=zF f2
       have gz:∀j,w4.frozen? ⟨w.heap.size+1+1,j,none⟩=false:=fun j=>forQ _ _ j _ _ f2
       have HZ:=hH (zX f2 (.int .i64 0) (.int .i64 0) (.string ⟨#[]⟩) (.slice none 0 0))
       have HEE:=hH (yZ (r:=yI id par at_ t) (er:=90) hb3 f2 om ue9 (zi8 HRI.out))
       exact sf9
     · have hrb : (t.id == id)=false:=by simpa using hr
       have HRN:=hH hr
       clear hr
       have hzs:za z.kids+1≤2000:=by
        have h1:=kC (fun _=>true) pp t z HP.out.2
        have h2:=HT.out.2.2.1
        rw[qh,qh] at h1;omega
       have HF3:=hH (vJ w4 S (.agg #[.int .i64 z.id,.int .i64 z.kind,.string z.text,.slice va zn vc]) z par hzs (hSX.out w4 HC.out.1) ⟨va,vc,by rw[HC.out.2.2.2.2.2.2.2],HC.out.2.2.2.2.2.2.1,HC.out.2.2.2.2.2.1⟩)
       obtain⟨g0,g1,g2,g3⟩:=zF HC.out.2.2.2.2.1
       go_wp2_with fail
       refine HF3.out.mono ?_
       rintro e w5 ⟨z3,va3,vc3,ok,rfl,_,_,hb5,hy,hn⟩
       clear HF3 p0 p1 p2 p3 s1 s2 s3 g0 g1 g2 g3 hrb
       have hb5w:=HC.out.1.trans (hb5.mono HC.out.1.size)
       have f0:=(hb5.block _ (lohQ HC.out.2.1)).trans HC.out.2.1
       have f1:=(hb5.block _ (lohQ HC.out.2.2.1)).trans HC.out.2.2.1
       have f2:=(hb5.block _ (lohQ HC.out.2.2.2.1)).trans HC.out.2.2.2.1
       have f3:=(hb5.block _ (lohQ HC.out.2.2.2.2.1)).trans HC.out.2.2.2.2.1
       have hvf5:zk w5 S z.kids va:=HC.out.2.2.2.2.2.1.kept fun q hq=>⟨hq,hb5.block q (hSX.out w4 HC.out.1 q hq)⟩
       have HD:=hH (aN hb5w (aN f0 (aN f1 (aN f2 (aN f3 (aN hvf5 (aN HC.out.2.2.2.2.2.2.1 (aN HC.out.2.2.2.2.2.2.2 hzs))))))))
       have HY:=hH (aN hy hn)
       clear hb5 hb5w f0 f1 f2 f3 hvf5 hy hn HC hzs
       cases ok with
       | true=>
         obtain⟨r,hr3,_⟩:=HY.out.1 rfl
         have HR3:=hH hr3
         clear hr3
         have hb3:=HD.out.1
         have f2:=HD.out.2.2.2.1
         obtain⟨z0,z1,z2,z3⟩:=zF f2
         have gz:∀j,w5.frozen? ⟨w.heap.size+1+1,j,none⟩=false:=fun j=>forQ _ _ j _ _ f2
         have HZ:=hH (zX f2 (.int .i64 0) (.int .i64 0) (.string ⟨#[]⟩) (.slice none 0 0))
         have HEE:=hH (yZ (r:=yI id par at_ t) (er:=91) hb3 f2 om ue9 (zi6 HT.out.2.2.2.1 HRN.out HP.out.1 HP.out.2 HR3.out))
         go_wp2_with fail
         exact brQ (zq rfl _ _ (w.heap.size+1+1) 27 _ _ _ (.int .i64 91) rfl HZ.out.1 Try.underlying27 rfl kr1 rfl) rfl HEE.out
       | false =>
         obtain⟨u,i,rest,hpar,hlt,hus,hds,hrest,hrs,hmv⟩:=zi7 (at_:=at_) HT.out.2.2.2.1 HRN.out HP.out.1 HP.out.2 HQ.out (HY.out.2 rfl)
         have HF4:=hH (Qy w5 S (.agg #[.int .i64 t.id,.int .i64 t.kind,.string t.text,.slice ka len cap]) t u id i hpar hlt hus (by have:=HT.out.2.2.1;omega) (by have:=HT.out.2.2.1;omega) (hSX.out w5 HD.out.1) (HT.out.1 w5 HD.out.1))
         rw[←hrest] at HF4
         have HM:=hH (aN hrs hmv)
         clear hpar hlt hus hds hrest hrs hmv HY
         obtain⟨p0,p1,p2,p3⟩:=zF HD.out.2.1
         obtain⟨s1,s2,s3⟩:=Qb HD.out.2.2.1
         go_wp2_with fail
         refine HF4.out.mono ?_
         rintro e w6 ⟨ra,rc,rfl,hrc,hrf,hb6⟩
         clear HF4 p0 p1 p2 p3 s1 s2 s3
         obtain⟨rn,hrn⟩:∃rn,rn=foLen rest.kids:=⟨_,rfl⟩
         rw[←hrn]
         obtain⟨W7,hW7⟩:∃W7,W7=w6.alloc (.cells #[.int .i64 rest.id,.int .i64 rest.kind,.string rest.text,.slice ra rn rc] 27):=⟨_,rfl⟩
         have hb7:Below w5.heap.size w5 W7:=hb6.trans (by rw[hW7];exact (BrQ _ _).alloc hb6.size _)
         have eG2:W7.heap[w6.heap.size]? =some (.cells #[.int .i64 rest.id,.int .i64 rest.kind,.string rest.text,.slice ra rn rc] 27 (0,0)):=by rw[hW7];exact hanQ _ _
         obtain⟨G2,hG2⟩:∃G2,G2=w6.heap.size:=⟨_,rfl⟩
         have hrf7:zk W7 (fun q=>w5.heap.size≤q∧q<W7.heap.size) rest.kids ra:=hrf.kept fun q hq=>⟨⟨hq.1,by rw[hW7,WsaQ];have:=hq.2;omega⟩,by rw[hW7];exact BhaQ _ _ _ hq.2⟩
         have HGN2:=hH (show w.heap.size+1+1<G2 by rw[hG2];have:=lohQ HD.out.2.2.2.1;have:=hb6.size;omega)
         rw[←hG2] at eG2
         have hb7w:=HD.out.1.trans (hb7.mono HD.out.1.size)
         have f1:=(hb7.block _ (lohQ HD.out.2.2.1)).trans HD.out.2.2.1
         have f2:=(hb7.block _ (lohQ HD.out.2.2.2.1)).trans HD.out.2.2.2.1
         have f3:=(hb7.block _ (lohQ HD.out.2.2.2.2.1)).trans HD.out.2.2.2.2.1
         have hvf7:zk W7 S z.kids va:=HD.out.2.2.2.2.2.1.kept fun q hq=>⟨hq,hb7.block q (hSX.out w5 HD.out.1 q hq)⟩
         have hrz:za rest.kids+1≤2000:=by have h1:=HM.out.1;have h2:=HT.out.2.2.1;omega
         have h5w:=HD.out.1.size
         have HF5:=hH (vJ W7 (fun q=>w5.heap.size≤q∧q<W7.heap.size) (.agg #[.int .i64 rest.id,.int .i64 rest.kind,.string rest.text,.slice ra rn rc]) rest par hrz (fun q hq=>hq.2) ⟨ra,rc,by rw[hrn],hrc,hrf7⟩)
         have HW7:=hH hW7
         have HW5l:=hH (lohQ HD.out.2.2.2.1)
         have HE:=hH (aN hb7w (aN f1 (aN f2 (aN f3 (aN hvf7 (aN HD.out.2.2.2.2.2.2.1 (aN HD.out.2.2.2.2.2.2.2.1 (aN eG2 (aN hrf7 (aN hrc (aN hrn (aN hrz h5w))))))))))))
         clear hb6 hb7 hb7w f1 f2 f3 hvf7 hrf hrf7 hrc hrn hrz eG2 hW7 h5w
         go_upto_region 13 with fail
         change Code.wp _ _ _ _ (w6.alloc (.cells #[.int .i64 rest.id,.int .i64 rest.kind,.string rest.text,.slice ra rn rc] 27))
         rw[←HW7.out,←hG2]
         clear HW7 hG2 HD
         obtain⟨s1,s2,s3⟩:=Qb HE.out.2.1
         obtain⟨g0,g1,g2,g3⟩:=zF HE.out.2.2.2.2.2.2.2.1
         go_wp2_with fail
         refine HF5.out.mono ?_
         rintro e w8 ⟨m,ma,mc,ok,rfl,hmc,hmf,hb8,hy,hn⟩
         clear HF5 s1 s2 s3 g0 g1 g2 g3
         obtain⟨mn,hmn⟩:∃mn,mn=foLen m.kids:=⟨_,rfl⟩
         rw[←hmn]
         obtain⟨W9,hW9⟩:∃W9,W9=w8.alloc (.cells #[.int .i64 m.id,.int .i64 m.kind,.string m.text,.slice ma mn mc] 27):=⟨_,rfl⟩
         have hb9:Below W7.heap.size W7 W9:=hb8.trans (by rw[hW9];exact (BrQ _ _).alloc hb8.size _)
         have eG3:W9.heap[w8.heap.size]? =some (.cells #[.int .i64 m.id,.int .i64 m.kind,.string m.text,.slice ma mn mc] 27 (0,0)):=by rw[hW9];exact hanQ _ _
         obtain⟨G3,hG3⟩:∃G3,G3=w8.heap.size:=⟨_,rfl⟩
         have HGN3:=hH (show w.heap.size+1+1<G3 by rw[hG3];have:=lohQ HE.out.2.2.1;have:=hb8.size;omega)
         have HW5:=hH (show w.heap.size+1+1<w5.heap.size from HW5l.out)
         rw[←hG3] at eG3
         have hmf9:zk W9 (fun q=>w5.heap.size≤q∧q<W7.heap.size) m.kids ma:=hmf.kept fun q hq=>⟨hq,by rw[hW9];exact BhaQ _ _ _ (nL hq.2 hb8.size)⟩
         have hb9w:=HE.out.1.trans (hb9.mono HE.out.1.size)
         have f1:=(hb9.block _ (lohQ HE.out.2.1)).trans HE.out.2.1
         have f2:=(hb9.block _ (lohQ HE.out.2.2.1)).trans HE.out.2.2.1
         have f3:=(hb9.block _ (lohQ HE.out.2.2.2.1)).trans HE.out.2.2.2.1
         have hvf9:zk W9 S z.kids va:=HE.out.2.2.2.2.1.kept fun q hq=>⟨hq,hb9.block q (hSX.out W7 HE.out.1 q hq)⟩
         have eG2:=(hb9.block _ (lohQ HE.out.2.2.2.2.2.2.2.1)).trans HE.out.2.2.2.2.2.2.2.1
         have hrf9:zk W9 (fun q=>w5.heap.size≤q∧q<W7.heap.size) rest.kids ra:=HE.out.2.2.2.2.2.2.2.2.1.kept fun q hq=>⟨hq,hb9.block q hq.2⟩
         have h79:=hb9.size
         have HW9:=hH hW9
         have HY:=hH (aN hy hn)
         have HH:=hH (aN hb9w (aN f1 (aN f2 (aN f3 (aN hvf9 (aN HE.out.2.2.2.2.2.1 (aN HE.out.2.2.2.2.2.2.1 (aN eG2 (aN hrf9 (aN HE.out.2.2.2.2.2.2.2.2.2 (aN eG3 (aN hmf9 (aN hmc (aN hmn h79))))))))))))))
         clear hb8 hb9 hb9w f1 f2 f3 hvf9 eG2 hrf9 eG3 hmf hmf9 hmc hmn hW9 hy hn h79
         go_upto_region 14 with fail
         change Code.wp _ _ _ _ (w8.alloc (.cells #[.int .i64 m.id,.int .i64 m.kind,.string m.text,.slice ma mn mc] 27))
         rw[←HW9.out,←hG3]
         clear HW9 hG3 HE
         obtain⟨s1,s2,s3⟩:=Qb HH.out.2.1
         obtain⟨h0,h1,h2,h3⟩:=zF HH.out.2.2.2.2.2.2.2.2.2.2.1
         cases ok with
         | false=>
           have hb3:=HH.out.1
           have f2:=HH.out.2.2.1
           obtain⟨z0,z1,z2,z3⟩:=zF f2
           have gz:∀j,W9.frozen? ⟨w.heap.size+1+1,j,none⟩=false:=fun j=>forQ _ _ j _ _ f2
           have HZ:=hH (zX f2 (.int .i64 0) (.int .i64 0) (.string ⟨#[]⟩) (.slice none 0 0))
           have HEE:=hH (yZ (r:=yI id par at_ t) (er:=2) hb3 f2 om ue9 (by rw[HM.out.2,jN (HY.out.2 rfl)];decide))
           exact sb6
         | true =>
           obtain⟨q,hq,hm⟩:=HY.out.1 rfl
           have HMS:Hid (za m.kids+1≤2000):=hH (by have h1:=kC (fun _=>true) q rest m hm;have h2:=HM.out.1;have h3:=HT.out.2.2.1;rw[qh,qh] at h1;omega)
           have HMZ:Hid (mn≤500000):=hH (by have h1:=zM m.kids;have h2:=HMS.out;rw[HH.out.2.2.2.2.2.2.2.2.2.2.2.2.2.1];omega)
           have HN:=hH (show G≠w.heap.size+1+1∧G2≠w.heap.size+1+1∧G3≠w.heap.size+1+1 by have:=HGN.out;have:=HGN2.out;have:=HGN3.out;omega)
           have hpa:=zhW (at_:=at_) (z:=z) hq hm
           rw[←HM.out.2,←HH.out.2.2.2.2.2.2.2.2.2.2.2.2.2.1] at hpa
           have HPA:=hH hpa
           clear hq hm hpa HY
           by_cases hn0:at_<0
           · have hb3:=HH.out.1
             have f2:=HH.out.2.2.1
             obtain⟨z0,z1,z2,z3⟩:=zF f2
             have gz:∀j,W9.frozen? ⟨w.heap.size+1+1,j,none⟩=false:=fun j=>forQ _ _ j _ _ f2
             have HZ:=hH (zX f2 (.int .i64 0) (.int .i64 0) (.string ⟨#[]⟩) (.slice none 0 0))
             have HEE:=hH (yZ (r:=yI id par at_ t) (er:=2) hb3 f2 om ue9 (HPA.out.2 om))
             exact sb6
           · by_cases hnl:(mn:Int)<at_
             · have hb3:=HH.out.1
               have f2:=HH.out.2.2.1
               obtain⟨z0,z1,z2,z3⟩:=zF f2
               have gz:∀j,W9.frozen? ⟨w.heap.size+1+1,j,none⟩=false:=fun j=>forQ _ _ j _ _ f2
               have HZ:=hH (zX f2 (.int .i64 0) (.int .i64 0) (.string ⟨#[]⟩) (.slice none 0 0))
               have HEE:=hH (yZ (r:=yI id par at_ t) (er:=2) hb3 f2 om ue9 (HPA.out.2 om))
               exact sb6
             · obtain⟨k,hk⟩:=Int.eq_ofNat_of_zero_le (show 0≤at_ by omega)
               subst hk
               obtain⟨r,hr⟩:∃r,r=(mkT par m.text (yR m.kids k z) false rest).1:=⟨_,rfl⟩
               have hmv:yI id par (k:Int) t=(r,0):=(HPA.out.1 ⟨by omega,by omega⟩).trans (by rw[Int.toNat_natCast,←hr])
               have hb2w:w.heap.size+1+1<W9.heap.size:=lohQ HH.out.2.2.1
               have hkeep:∀X,Ym (w.heap.size+1+1) W9 X→(∀q,S q→X.heap[q]? =W9.heap[q]?)∧(∀q,w5.heap.size≤q→q<W7.heap.size→X.heap[q]? =W9.heap[q]?):=fun X hX=>⟨fun q hq=>hX.block q (hSX.out W9 HH.out.1 q hq) (by have:=HT.out.2.1 q hq;omega),fun q h1 h2=>hX.block q (nL h2 HH.out.2.2.2.2.2.2.2.2.2.2.2.2.2.2) (by have:=HW5.out;omega)⟩
               have hcl:∀X,Ym (w.heap.size+1+1) W9 X→(X.cell? ⟨w.heap.size+1,2,none⟩=some (.int .i64 par)∧X.cell? ⟨w.heap.size+1,3,none⟩=some (.int .i64 (k:Int)))∧(uf1 X G2 rest.id rest.kind rest.text ra rn rc)∧(uf1 X G z.id z.kind z.text va zn vc)∧(X.cell? ⟨G3,2,none⟩=some (.string m.text)∧X.cell? ⟨G3,3,none⟩=some (.slice ma mn mc)):=fun X hX=>by
                have n1:w.heap.size+1≠w.heap.size+1+1:=by omega
                have nZ:∀{q:Nat} {c0 c1 c2 c3:Value},W9.heap[q]? =some (.cells #[c0,c1,c2,c3] 27 (0,0))→(q≠w.heap.size+1+1)→X.heap[q]? =some (.cells #[c0,c1,c2,c3] 27 (0,0)):=fun h hn=>(hX.block _ (lohQ h) hn).trans h
                obtain⟨_,a2,a3⟩:=Qb ((hX.block _ (lohQ HH.out.2.1) n1).trans HH.out.2.1)
                obtain⟨b0,b1,b2,b3⟩:=zF (nZ HH.out.2.2.2.2.2.2.2.1 HN.out.2.1)
                obtain⟨c0,c1,c2,c3⟩:=zF (nZ HH.out.2.2.2.1 HN.out.1)
                obtain⟨_,_,d2,d3⟩:=zF (nZ HH.out.2.2.2.2.2.2.2.2.2.2.1 HN.out.2.2)
                exact⟨⟨a2,a3⟩,⟨b0,b1,b2,b3⟩,⟨c0,c1,c2,c3⟩,d2,d3⟩
               have HC8:Hid (∀X,Ym (w.heap.size+1+1) W9 X→Calls Try.prog 93 #[.slice ma mn mc,.int .i64 (k:Int),.agg #[.int .i64 z.id,.int .i64 z.kind,.string z.text,.slice va zn vc]] X (zeR m.kids k z (fun q=>S q∨(w5.heap.size≤q∧q<W7.heap.size)) X)):=hH fun X hX=>by
                obtain⟨k1,k2⟩:=hkeep X hX
                refine zdm X _ m.kids ma mn mc z va zn vc k HH.out.2.2.2.2.2.2.2.2.2.2.2.2.2.1 (by rw[HH.out.2.2.2.2.2.2.2.2.2.2.2.2.2.1];exact HH.out.2.2.2.2.2.2.2.2.2.2.2.2.1) (HH.out.2.2.2.2.2.2.2.2.2.2.2.1.kept fun q hq=>⟨Or.inr hq,k2 q hq.1 hq.2⟩) (fun q hq=>?_) HH.out.2.2.2.2.2.2.1 ⟨HH.out.2.2.2.2.2.1,HH.out.2.2.2.2.1.kept fun q hq=>⟨Or.inl hq,k1 q hq⟩⟩ om ?_
                · refine nL ?_ hX.size
                  rcases hq with hq | hq
                  · exact hSX.out W9 HH.out.1 q hq
                  · exact nL hq.2 HH.out.2.2.2.2.2.2.2.2.2.2.2.2.2.2
                · exact HMZ.out
               have HCX:=hH hcl
               have HKP:=hH hkeep
               have HR:=hH (aN hr (aN hmv hb2w))
               have hbt:Ym (w.heap.size+1+1) W9 (W9.drewN 1):=⟨rfl,rfl,rfl,NlrQ _,fun _ _ _=>rfl⟩
               clear hr hmv hb2w hcl hkeep
               go_wp2_with fail
               refine wrhQ (S:=fun X=>Ym (w.heap.size+1+1) W9 X) kr1 hbt (fun uH=>?_)
               clear hbt
               refine tJ (i:=0) (.agg #[.int .i64 rest.id,.int .i64 rest.kind,.string rest.text,.slice ra rn rc]) rfl ?_ ?_
               · exact ub9
               simp only[Act.put,pg]
               refine tJ (i:=1) (.pointer (some ⟨w.heap.size+1,2,none⟩)) rfl ?_ ?_
               · exact ub9
               simp only[Act.put,pg]
               refine tJ (i:=2) (.int .i64 par) rfl ?_ ?_
               · exact ub9
               simp only[Act.put,pg]
               refine tJ (i:=3) (.pointer (some ⟨G3,3,none⟩)) rfl ?_ ?_
               · exact ub9
               simp only[Act.put,pg]
               refine tJ (i:=4) (.slice ma mn mc) rfl ?_ ?_
               · exact ub9
               simp only[Act.put,pg]
               refine tJ (i:=5) (.pointer (some ⟨w.heap.size+1,3,none⟩)) rfl ?_ ?_
               · exact ub9
               simp only[Act.put,pg]
               refine tJ (i:=6) (.int .i64 (k:Int)) rfl ?_ ?_
               · exact ub9
               simp only[Act.put,pg]
               refine tJ (i:=7) (.agg #[.int .i64 z.id,.int .i64 z.kind,.string z.text,.slice va zn vc]) rfl ?_ ?_
               · exact ub9
               simp only[Act.put,pg]
               refine tJ (i:=9) (.pointer (some ⟨G3,2,none⟩)) rfl ?_ ?_
               · exact ub9
               simp only[Act.put,pg]
               refine tJ (i:=10) (.string m.text) rfl ?_ ?_
               · exact ub9
               simp only[Act.put,pg]
               refine rd [8] ?_
               refine AcQ (o:=_) rfl (fun K hK=>?_) AnQ
               rw[ipQ uf0]
               simp only[pg3]
               have HK:=hH hK
               have HS:=hH uH
               clear hK uH
               go_wp2_with (go_at_call 93;refine (HC8.out _ HS.out).mono ?_;rintro e X1 ⟨ia,inn,ic,rfl,hin,hic,_,hif,hib⟩;have HIN:=hH hin;clear hin)
               have hin:=HIN.out
               clear HIN
               obtain⟨_,k2⟩:=HKP.out _ HS.out
               have hS1:=HS.out.on hib
               have hsz1:∀q,(S q∨(w5.heap.size≤q∧q<W7.heap.size))→q<X1.heap.size:=fun q hq=>nL (by rcases hq with hq | hq;exact hSX.out W9 HH.out.1 q hq;exact nL hq.2 HH.out.2.2.2.2.2.2.2.2.2.2.2.2.2.2) hS1.size
               obtain⟨_,k3⟩:=HKP.out _ hS1
               have hcp:=Q5 X1 (fun q=>q<X1.heap.size) par m.text (yR m.kids k z) ia inn ic (.agg #[.int .i64 rest.id,.int .i64 rest.kind,.string rest.text,.slice ra rn rc]) rest hin (by rw[kS m.kids k z (by rw[←HH.out.2.2.2.2.2.2.2.2.2.2.2.2.2.1];omega)];have h1:=HMS.out;have h2:=HM.out.1;have h3:=HT.out.2.2.1;omega) hic (by have:=HH.out.2.2.2.2.2.2.2.2.2.1.2.2.1;omega) (fun q hq=>hq) (hif.kept fun q hq=>⟨by rcases hq with hq | hq;exact hsz1 q hq;exact hq.2,rfl⟩) ⟨ra,rc,by rw[HH.out.2.2.2.2.2.2.2.2.2.1.2.1],HH.out.2.2.2.2.2.2.2.2.2.1.1,HH.out.2.2.2.2.2.2.2.2.1.kept fun q hq=>⟨hsz1 q (Or.inr hq),k3 q hq.1 hq.2⟩⟩
               rw[←HR.out.1] at hcp
               have hz1:X1.heap[w.heap.size+1+1]? =some (.cells #[.int .i64 0,.int .i64 0,.string ⟨#[]⟩,.slice none 0 0] 27 (0,0)):=(hib.block _ (nL HR.out.2.2 HS.out.size)).trans HH.out.2.2.1
               have HCP:=hH (aN hcp (aN hz1 hS1))
               refine HK.out _ _ hS1 (fun uH=>?_)
               clear HK HS hS1 hcp hz1 k2 k3 hsz1 hin hic hif hib HC8
               refine rd [11] ?_
               refine AcQ (o:=_) rfl (fun K hK=>?_) AnQ
               rw[ipQ uf0]
               simp only[pg3]
               have HK:=hH hK
               clear hK uH
               go_wp2_with (go_at_call 61;refine HCP.out.1.mono ?_;rintro e X2 ⟨pa,pc,rfl,hpc,hpf,hpb⟩)
               obtain⟨pn,hpn⟩:∃pn,pn=foLen r.kids:=⟨_,rfl⟩
               rw[←hpn] at hpc ⊢
               have hS2:=HCP.out.2.2.on hpb
               have hz2:=(hpb.block _ (lohQ HCP.out.2.1)).trans HCP.out.2.1
               have HX2:=hH (aN hz2 (aN hS2 (aN hpc (aN hpf (aN hpb (aN hpn (nL HR.out.2.2 HCP.out.2.2.size)))))))
               obtain⟨y0,y1,y2,y3⟩:=zF hz2
               have gz:∀j,X2.frozen? ⟨w.heap.size+1+1,j,none⟩=false:=fun j=>forQ _ _ j _ _ hz2
               have HZ:=hH (zX hz2 (.int .i64 r.id) (.int .i64 r.kind) (.string r.text) (.slice pa pn pc))
               refine HK.out _ _ hS2 (fun uH=>?_)
               clear HK hS2 hz2 hpc hpf hpb hpn
               refine rd [12] ?_
               refine AcQ (o:=_) rfl (fun K hK=>?_) AnQ
               rw[ipQ uf0]
               simp only[pg3]
               have HK:=hH hK
               clear hK uH
               go_wp2_with fail
               have hS3:Ym (w.heap.size+1+1) W9 ((((X2.setCell ⟨w.heap.size+1+1,0,none⟩ (.int .i64 r.id)).setCell ⟨w.heap.size+1+1,1,none⟩ (.int .i64 r.kind)).setCell ⟨w.heap.size+1+1,2,none⟩ (.string r.text)).setCell ⟨w.heap.size+1+1,3,none⟩ (.slice pa pn pc)):=by
                exact sf4
               have HEND:Hid (jQ (yI id par (k:Int) t) w (.returned (.tuple #[.agg #[.int .i64 r.id,.int .i64 r.kind,.string r.text,.slice pa pn pc],.int .i64 0])) ((((X2.setCell ⟨w.heap.size+1+1,0,none⟩ (.int .i64 r.id)).setCell ⟨w.heap.size+1+1,1,none⟩ (.int .i64 r.kind)).setCell ⟨w.heap.size+1+1,2,none⟩ (.string r.text)).setCell ⟨w.heap.size+1+1,3,none⟩ (.slice pa pn pc))):=hH (by
                refine⟨r,pa,pc,0,by rw[←HX2.out.2.2.2.2.2.1],by rw[←HX2.out.2.2.2.2.2.1];exact HX2.out.2.2.1,?_,?_,fun _=>HR.out.2.1,fun h=>absurd rfl h⟩
                · have hl:=HX2.out.2.2.2.2.2.2
                  exact sg3
                · have hb9:=HH.out.1
                  exact⟨hS3.os.trans hb9.os,hS3.tape.trans hb9.tape,hS3.output.trans hb9.output,NltQ hb9.size hS3.size,fun q hq=>(hS3.block q (nL hq hb9.size) om).trans (hb9.block q hq)⟩)
               refine HK.out _ _ hS3 (fun uH=>?_)
               clear HK hS3 y0 y1 y2 y3 gz
               refine tG (i:=13) (.int .i64 0) rfl ?_
               exact se3
end Go.Proofs.Ytnikgofkldkdkaa
