/-
  .
-/
import Derived.Test.YtgkmmnihaiopaaaGreatJInvsYQv
set_option maxRecDepth 100000
set_option maxHeartbeats 40000000
set_option linter.unusedVariables false
set_option linter.unusedSimpArgs false
namespace Go.Proofs.YtgkmmnihaiopaaaGreat
open Go.RowKit Go.Shelf
def stepG (op id par at_:Int)(tx:ByteArray)(x t:Tr):Tr×Int:=if zb t.kids+1≤2000∧zb x.kids+1≤2000 then zK op id par at_ tx x t else (zu,2)
theorem zj7 {id:Int}{t:Tr}{p:List Nat}(hr:t.id≠id)(h:zA id t=some p):∃u i,Q5 id t=some (u,i)∧i<foLen u.kids∧zb u.kids≤zb t.kids∧zb (zW u.kids i)≤zb t.kids∧qh id t=(Zl id (zW u.kids i) t,0):=by
 obtain⟨h0,hf⟩:=zcz hr h
 obtain⟨p',i,u,v,e,hu,hv,hid,hpar⟩:=jv hf
 subst e
 have hlt:=yx hv
 have hs1:=Yp u.kids i v hv
 have hus:zb u.kids≤zb t.kids:=by
  have h1:=kI (fun _=>true) p' t u hu
  rw[zJ,zJ] at h1;omega
 exact⟨u,i,by rw[Qy,hpar];rfl,hlt,hus,by omega,by rw[ko h hu hv,Zl,hpar]⟩
theorem zii {id:Int}{tx:ByteArray}{t z:Tr}{p:List Nat}(h:zA id t=some p)(hz:atT t p=some z):jf id tx t=((mkT id tx z.kids false t).1,0):=by
 obtain⟨u,hu,_,hmk⟩:=zdB id tx z.kids h
 rw[hz] at hu;cases hu
 rw[Zr h hz,hmk]
theorem JQ {r:Tr×Int}{w W W2:World}{b n vc:Nat}{va:Option Addr}{y:Tr}{er:Int}(hb:Below w.heap.size w W)(hz:W2.heap[b]? =some (.cells #[.int .i64 0,.int .i64 0,.string ⟨#[]⟩,.slice none 0 0] 27 (0,0)))(hb2:w.heap.size≤b)(hbW:b<W.heap.size)(hn:n=foLen y.kids)(hc:foLen y.kids≤vc)(hf:zt W2 (YF W W2) y.kids va)(h2:Below W.heap.size W W2)(h3:er=0→r=(y,0))(h4:er≠0→r.2≠0):
 ZY r w (.returned (.tuple #[.agg #[.int .i64 y.id,.int .i64 y.kind,.string y.text,.slice va n vc],.int .i64 er])) ((((W2.setCell ⟨b,0,none⟩ (.int .i64 y.id)).setCell ⟨b,1,none⟩ (.int .i64 y.kind)).setCell ⟨b,2,none⟩ (.string y.text)).setCell ⟨b,3,none⟩ (.slice va n vc)):=by
 have hs:=yF hz (.int .i64 y.id) (.int .i64 y.kind) (.string y.text) (.slice va n vc)
 have hz2:=(hs.2.1 _ (NlrQ _)).size
 subst hn
 refine⟨y,va,vc,er,rfl,hc,?_,(hb.trans (h2.mono hb.size)).trans (hs.2.1 _ hb2),h3,h4⟩
 have h5:=hb.size
 exact hf.kept fun q hq=>⟨⟨by have:=hq.1;omega,nL hq.2 hz2⟩,hs.2.2 q (by have:=hq.1;omega)⟩
theorem ze9 (w : World)(S:Nat→Prop)(t x:Tr)(op id par at_:Int)(tx:ByteArray)(ka sa:Option Addr)(len cap sn sc:Nat)(hlen:len=foLen t.kids)(hsn:sn=foLen x.kids)(hd:vD t)(hfl:foLen t.kids≤9223372036854775807)(hfit:qZ t.kids)(hxl:foLen x.kids≤9223372036854775807)(hxfit:qZ x.kids)(hS:∀q,S q→q<w.heap.size)(hcap:foLen t.kids≤cap)(hk:zt w S t.kids ka)(hscap:foLen x.kids≤sc)(hxk:zt w S x.kids sa)(hop8: -128≤op∧op≤127):
 Calls Tryz.prog 12 #[.agg #[.int .i64 t.id,.int .i64 t.kind,.string t.text,.slice ka len cap],.agg #[.int .i8 op,.int .i64 id,.int .i64 par,.int .i64 at_,.string tx,.int .i64 x.id,.int .i64 x.kind,.string x.text,.slice sa sn sc]] w (ZY (stepG op id par at_ tx x t) w):=by
 obtain⟨B,hB⟩:∃B,B=zl w [.cells #[.int .i64 t.id,.int .i64 t.kind,.string t.text,.slice ka len cap] 27,.cells #[.int .i8 op,.int .i64 id,.int .i64 par,.int .i64 at_,.string tx,.int .i64 x.id,.int .i64 x.kind,.string x.text,.slice sa sn sc] 44,.cells #[.int .i64 0,.int .i64 0,.string ⟨#[]⟩,.slice none 0 0] 27]:=⟨_,rfl⟩
 have hb:Below w.heap.size w B:=by rw[hB];exact zi _ _
 have e0:B.heap[w.heap.size]? =some (.cells #[.int .i64 t.id,.int .i64 t.kind,.string t.text,.slice ka len cap] 27 (0,0)):=by rw[hB];exact ze _ _ 0 _ rfl
 have e1:B.heap[w.heap.size+1]? =some (.cells #[.int .i8 op,.int .i64 id,.int .i64 par,.int .i64 at_,.string tx,.int .i64 x.id,.int .i64 x.kind,.string x.text,.slice sa sn sc] 44 (0,0)):=by rw[hB];exact ze _ _ 1 _ rfl
 have e2:B.heap[w.heap.size+1+1]? =some (.cells #[.int .i64 0,.int .i64 0,.string ⟨#[]⟩,.slice none 0 0] 27 (0,0)):=by rw[hB];exact ze _ _ 2 _ rfl
 have hT:∀X,Below w.heap.size w X→zG X S (.agg #[.int .i64 t.id,.int .i64 t.kind,.string t.text,.slice ka len cap]) t:=fun X hX=>⟨ka,cap,by rw[hlen],hcap,hk.below hX hS⟩
 have hXT:∀X,Below w.heap.size w X→zG X S (.agg #[.int .i64 x.id,.int .i64 x.kind,.string x.text,.slice sa sn sc]) x:=fun X hX=>⟨sa,sc,by rw[hsn],hscap,hxk.below hX hS⟩
 have HGT:Hid (∀X,Below w.heap.size w X→Calls Tryz.prog 28 #[.agg #[.int .i64 t.id,.int .i64 t.kind,.string t.text,.slice ka len cap]] X fun e w2=>e= .returned (.bool (decide (¬zb t.kids+1≤2000)))∧Below X.heap.size X w2):=hH fun X hX=>Jn X S _ t hfl hfit (fun q hq=>nL (hS q hq) hX.size) (hT X hX)
 have HGX:Hid (∀X,Below w.heap.size w X→Calls Tryz.prog 28 #[.agg #[.int .i64 x.id,.int .i64 x.kind,.string x.text,.slice sa sn sc]] X fun e w2=>e= .returned (.bool (decide (¬zb x.kids+1≤2000)))∧Below X.heap.size X w2):=hH fun X hX=>Jn X S _ x hxl hxfit (fun q hq=>nL (hS q hq) hX.size) (hXT X hX)
 have HT:=hH (aN hT (aN hS (aN hlen (aN hsn (aN hcap (aN hscap hd))))))
 have HKK:Hid (∀X,Below w.heap.size w X→zt X S t.kids ka∧zt X S x.kids sa):=hH fun X hX=>⟨hk.below hX hS,hxk.below hX hS⟩
 have HB:=hH (aN hb (aN e0 (aN e1 e2)))
 have hSX:Hid (∀X,Below w.heap.size w X→∀q,S q→q<X.heap.size):=hH fun X hX q hq=>nL (hS q hq) hX.size
 have HBE:=hH hB
 have HOP:=hH hop8
 obtain⟨bt,hbt⟩:∃bt,bt=decide (¬zb t.kids+1≤2000):=⟨_,rfl⟩
 obtain⟨bx,hbx⟩:∃bx,bx=decide (¬zb x.kids+1≤2000):=⟨_,rfl⟩
 rw[←hbt] at HGT
 rw[←hbx] at HGX
 have HBT:=hH (aN hbt hbx)
 obtain⟨p0,p1,p2,p3⟩:=zI e0
 clear hb e0 e1 e2 hT hXT hS hlen hsn hcap hscap hk hxk hB hd hfl hfit hxl hxfit hop8 hbt hbx
 go_enter Tryz.func12,Tryz.ntmps12
 go_upto_region 1 with fail
 change Code.wp _ _ _ _ (zl w [.cells #[.int .i64 t.id,.int .i64 t.kind,.string t.text,.slice ka len cap] 27,.cells #[.int .i8 op,.int .i64 id,.int .i64 par,.int .i64 at_,.string tx,.int .i64 x.id,.int .i64 x.kind,.string x.text,.slice sa sn sc] 44,.cells #[.int .i64 0,.int .i64 0,.string ⟨#[]⟩,.slice none 0 0] 27])
 rw[←HBE.out]
 clear HBE
 go_wp2_with fail
 refine (HGT.out B HB.out.1).mono ?_
 rintro e w1 ⟨rfl,hb1⟩
 have hbw:=HB.out.1.trans (hb1.mono HB.out.1.size)
 have f0:=(hb1.block _ (lohQ HB.out.2.1)).trans HB.out.2.1
 have f1:=(hb1.block _ (lohQ HB.out.2.2.1)).trans HB.out.2.2.1
 have f2:=(hb1.block _ (lohQ HB.out.2.2.2)).trans HB.out.2.2.2
 have H1:=hH (aN hbw (aN f0 (aN f1 f2)))
 clear hbw f0 f1 f2 hb1
 clear p0 p1 p2 p3 HB HGT
 cases bt with
 | true=>
   have hb3:=H1.out.1
   have f2:=H1.out.2.2.2
   obtain⟨z0,z1,z2,z3⟩:=zI f2
   have gz:∀j,w1.frozen? ⟨w.heap.size+1+1,j,none⟩=false:=fun j=>forQ _ _ j _ _ f2
   have HZ:=hH (yF f2 (.int .i64 0) (.int .i64 0) (.string ⟨#[]⟩) (.slice none 0 0))
   have HEE:=hH (qE (r:=stepG op id par at_ tx x t) (er:=2) hb3 f2 om ug7 (by unfold stepG;rw[inQ (fun h=>by have:=of_decide_eq_true HBT.out.1.symm;exact this h.1)];show (2:Int)≠0;decide))
   exact sb4
 | false =>
   have hs:=H1.out.2.2.1
   obtain⟨t5,t6,t7,t8⟩:w1.cell? ⟨w.heap.size+1,5,none⟩=some (.int .i64 x.id)∧w1.cell? ⟨w.heap.size+1,6,none⟩=some (.int .i64 x.kind)∧w1.cell? ⟨w.heap.size+1,7,none⟩=some (.string x.text)∧w1.cell? ⟨w.heap.size+1,8,none⟩=some (.slice sa sn sc):=⟨by rw[corQ _ _ 5 _ _ _ hs];rfl,by rw[corQ _ _ 6 _ _ _ hs];rfl,by rw[corQ _ _ 7 _ _ _ hs];rfl,by rw[corQ _ _ 8 _ _ _ hs];rfl⟩
   clear hs
   go_wp2_with fail
   refine (HGX.out w1 H1.out.1).mono ?_
   rintro e w2 ⟨rfl,hb2⟩
   have hbw:=H1.out.1.trans (hb2.mono H1.out.1.size)
   have f0:=(hb2.block _ (lohQ H1.out.2.1)).trans H1.out.2.1
   have f1:=(hb2.block _ (lohQ H1.out.2.2.1)).trans H1.out.2.2.1
   have f2:=(hb2.block _ (lohQ H1.out.2.2.2)).trans H1.out.2.2.2
   have H2:=hH (aN hbw (aN f0 (aN f1 f2)))
   clear hbw f0 f1 f2 hb2
   clear t5 t6 t7 t8 H1 HGX
   cases bx with
   | true=>
     have hb3:=H2.out.1
     have f2:=H2.out.2.2.2
     obtain⟨z0,z1,z2,z3⟩:=zI f2
     have gz:∀j,w2.frozen? ⟨w.heap.size+1+1,j,none⟩=false:=fun j=>forQ _ _ j _ _ f2
     have HZ:=hH (yF f2 (.int .i64 0) (.int .i64 0) (.string ⟨#[]⟩) (.slice none 0 0))
     have HEE:=hH (qE (r:=stepG op id par at_ tx x t) (er:=2) hb3 f2 om ug7 (by unfold stepG;rw[inQ (fun h=>by have:=of_decide_eq_true HBT.out.2.symm;exact this h.2)];show (2:Int)≠0;decide))
     exact sb4
   | false =>
     have HSZ:=hH (aN (Decidable.not_not.1 (of_decide_eq_false HBT.out.1.symm)) (Decidable.not_not.1 (of_decide_eq_false HBT.out.2.symm)))
     have HG:Hid (stepG op id par at_ tx x t=zK op id par at_ tx x t):=hH (by unfold stepG;rw[ipQ HSZ.out])
     clear HBT
     have hs:=H2.out.2.2.1
     obtain⟨s0,s1,s2,s3,s4⟩:w2.cell? ⟨w.heap.size+1,0,none⟩=some (.int .i8 op)∧w2.cell? ⟨w.heap.size+1,1,none⟩=some (.int .i64 id)∧w2.cell? ⟨w.heap.size+1,2,none⟩=some (.int .i64 par)∧w2.cell? ⟨w.heap.size+1,3,none⟩=some (.int .i64 at_)∧w2.cell? ⟨w.heap.size+1,4,none⟩=some (.string tx):=⟨by rw[corQ _ _ 0 _ _ _ hs];rfl,by rw[corQ _ _ 1 _ _ _ hs];rfl,by rw[corQ _ _ 2 _ _ _ hs];rfl,by rw[corQ _ _ 3 _ _ _ hs];rfl,by rw[corQ _ _ 4 _ _ _ hs];rfl⟩
     obtain⟨t5,t6,t7,t8⟩:w2.cell? ⟨w.heap.size+1,5,none⟩=some (.int .i64 x.id)∧w2.cell? ⟨w.heap.size+1,6,none⟩=some (.int .i64 x.kind)∧w2.cell? ⟨w.heap.size+1,7,none⟩=some (.string x.text)∧w2.cell? ⟨w.heap.size+1,8,none⟩=some (.slice sa sn sc):=⟨by rw[corQ _ _ 5 _ _ _ hs];rfl,by rw[corQ _ _ 6 _ _ _ hs];rfl,by rw[corQ _ _ 7 _ _ _ hs];rfl,by rw[corQ _ _ 8 _ _ _ hs];rfl⟩
     obtain⟨p0,p1,p2,p3⟩:=zI H2.out.2.1
     clear hs
     by_cases ho1:op=1
     · have hob:(op == 1)=true:=by simpa using ho1
       have HO:=hH ho1
       clear ho1
       have HCALL:=hH (zdS w2 S t x op id par at_ tx ka sa len cap sn sc HT.out.2.2.1 HT.out.2.2.2.1 HSZ.out.1 HSZ.out.2 (hSX.out w2 H2.out.1) HT.out.2.2.2.2.1 (HKK.out w2 H2.out.1).1 HT.out.2.2.2.2.2.1 (HKK.out w2 H2.out.1).2)
       go_wp2_with fail
       refine HCALL.out.mono ?_
       rintro e w3 ⟨y,va,vc,er,rfl,hyc,hyf,hb3,he1,he2⟩
       clear s0 s1 s2 s3 s4 t5 t6 t7 t8 p0 p1 p2 p3
       obtain⟨yn,hyn⟩:∃yn,yn=foLen y.kids:=⟨_,rfl⟩
       rw[←hyn]
       have hz:=(hb3.block _ (lohQ H2.out.2.2.2)).trans H2.out.2.2.2
       have HEE:=hH (JQ (r:=stepG op id par at_ tx x t) H2.out.1 hz (show w.heap.size≤w.heap.size+1+1 by omega) (lohQ H2.out.2.2.2) hyn hyc hyf hb3 (fun h=>by rw[HG.out,show zK op id par at_ tx x t=zR par at_ x t by unfold zK;rw[ipQ HO.out]];exact he1 h) (fun h=>by rw[HG.out,show zK op id par at_ tx x t=zR par at_ x t by unfold zK;rw[ipQ HO.out]];exact he2 h))
       exact sd4
     · have hob : (op == 1)=false:=by simpa using ho1
       have HO1:=hH ho1
       clear ho1
       by_cases ho3:op=3
       · have hob3:(op == 3)=true:=by simpa using ho3
         have HO:=hH ho3
         clear ho3
         have HCALL:=hH (zgI w2 S t op id par at_ x.id x.kind tx x.text ka sa len cap sn sc HT.out.2.2.1 HT.out.2.2.2.2.2.2 HSZ.out.1 (hSX.out w2 H2.out.1) HT.out.2.2.2.2.1 (HKK.out w2 H2.out.1).1)
         go_wp2_with fail
         refine HCALL.out.mono ?_
         rintro e w3 ⟨y,va,vc,er,rfl,hyc,hyf,hb3,he1,he2⟩
         clear s0 s1 s2 s3 s4 t5 t6 t7 t8 p0 p1 p2 p3
         obtain⟨yn,hyn⟩:∃yn,yn=foLen y.kids:=⟨_,rfl⟩
         rw[←hyn]
         have hz:=(hb3.block _ (lohQ H2.out.2.2.2)).trans H2.out.2.2.2
         have HEE:=hH (JQ (r:=stepG op id par at_ tx x t) H2.out.1 hz (show w.heap.size≤w.heap.size+1+1 by omega) (lohQ H2.out.2.2.2) hyn hyc hyf hb3 (fun h=>by rw[HG.out,show zK op id par at_ tx x t=yC id par at_ t by unfold zK;rw[inQ HO1.out,inQ (by rw[HO.out];decide),ipQ HO.out]];exact he1 h) (fun h=>by rw[HG.out,show zK op id par at_ tx x t=yC id par at_ t by unfold zK;rw[inQ HO1.out,inQ (by rw[HO.out];decide),ipQ HO.out]];exact he2 h))
         exact sd4
       · have hob3 :(op == 3)=false:=by simpa using ho3
         have HO3:=hH ho3
         clear ho3
         by_cases ho:op≠2∧op≠4
         · have hob2:(op == 2)=false:=by simpa using ho.1
           have hob2n:(op != 2)=true:=by simpa using ho.1
           have hob4:(op == 4)=false:=by simpa using ho.2
           have hob4n:(op != 4)=true:=by simpa using ho.2
           have HO:=hH ho
           clear ho
           have hb3:=H2.out.1
           have f2:=H2.out.2.2.2
           obtain⟨z0,z1,z2,z3⟩:=zI f2
           have gz:∀j,w2.frozen? ⟨w.heap.size+1+1,j,none⟩=false:=fun j=>forQ _ _ j _ _ f2
           have HZ:=hH (yF f2 (.int .i64 0) (.int .i64 0) (.string ⟨#[]⟩) (.slice none 0 0))
           have HEE:=hH (qE (r:=stepG op id par at_ tx x t) (er:=2) hb3 f2 om ug7 (by rw[HG.out];unfold zK;rw[inQ HO1.out,inQ HO.out.1,inQ HO3.out,inQ HO.out.2];show (2:Int)≠0;decide))
           exact sb4
         · have HF :=hH (vN w2 S (.agg #[.int .i64 t.id,.int .i64 t.kind,.string t.text,.slice ka len cap]) t id HSZ.out.1 (hSX.out w2 H2.out.1) (HT.out.1 w2 H2.out.1))
           by_cases ho2:op=2
           · have hob2:(op == 2)=true:=by simpa using ho2
             have hob2n:(op != 2)=false:=by simpa using ho2
             have hob4:(op == 4)=false:=by rw[ho2];decide
             have hob4n:(op != 4)=true:=by rw[ho2];decide
             have HO:=hH ho2
             clear ho2 ho
             go_wp2_with fail
             refine HF.out.mono ?_
             rintro e w3 ⟨z,va,vc,ok,rfl,hvc,hvf,hb3,hy,hn⟩
             clear s0 s1 s2 s3 s4 t5 t6 t7 t8 p0 p1 p2 p3
             obtain⟨zn,hzn⟩:∃zn,zn=foLen z.kids:=⟨_,rfl⟩
             rw[←hzn]
             obtain⟨W3,hW3⟩:∃W3,W3=w3.alloc (.cells #[.int .i64 z.id,.int .i64 z.kind,.string z.text,.slice va zn vc] 27):=⟨_,rfl⟩
             have hb4:Below w2.heap.size w2 W3:=hb3.trans (by rw[hW3];exact (BrQ _ _).alloc hb3.size _)
             have eG:W3.heap[w3.heap.size]? =some (.cells #[.int .i64 z.id,.int .i64 z.kind,.string z.text,.slice va zn vc] 27 (0,0)):=by rw[hW3];exact hanQ _ _
             have hvf3:zt W3 S z.kids va:=hvf.kept fun q hq=>⟨hq,by rw[hW3];exact BhaQ _ _ _ (nL (hSX.out w2 H2.out.1 q hq) hb3.size)⟩
             obtain⟨G,hG⟩:∃G,G=w3.heap.size:=⟨_,rfl⟩
             rw[←hG] at eG
             have HW3:=hH hW3
             have HG3:=hH (aN eG (aN hvf3 (aN hvc hzn)))
             have HY:=hH (aN hy hn)
             have hbw:=H2.out.1.trans (hb4.mono H2.out.1.size)
             have f0:=(hb4.block _ (lohQ H2.out.2.1)).trans H2.out.2.1
             have f1:=(hb4.block _ (lohQ H2.out.2.2.1)).trans H2.out.2.2.1
             have f2:=(hb4.block _ (lohQ H2.out.2.2.2)).trans H2.out.2.2.2
             have H3:=hH (aN hbw (aN f0 (aN f1 f2)))
             clear hbw f0 f1 f2 hb4
             clear hb3 hW3 eG hvf hvf3 hvc hzn hy hn H2
             go_upto_region 10 with fail
             change Code.wp _ _ _ _ (w3.alloc (.cells #[.int .i64 z.id,.int .i64 z.kind,.string z.text,.slice va zn vc] 27))
             rw[←HW3.out,←hG]
             clear HW3 hG
             cases ok with
             | false=>
               have hb3:=H3.out.1
               have f2:=H3.out.2.2.2
               obtain⟨z0,z1,z2,z3⟩:=zI f2
               have gz:∀j,W3.frozen? ⟨w.heap.size+1+1,j,none⟩=false:=fun j=>forQ _ _ j _ _ f2
               have HZ:=hH (yF f2 (.int .i64 0) (.int .i64 0) (.string ⟨#[]⟩) (.slice none 0 0))
               have HEE:=hH (qE (r:=stepG op id par at_ tx x t) (er:=4) hb3 f2 om ug7 (by rw[HG.out,show zK op id par at_ tx x t=qh id t by unfold zK;rw[inQ HO1.out,ipQ HO.out],jS (HY.out.2 rfl)];show (4:Int)≠0;decide))
               exact sc4
             | true=>
               obtain⟨pp,hp,hz⟩:=HY.out.1 rfl
               have HP:=hH (aN hp hz)
               clear hp hz HY
               have hs:=H3.out.2.2.1
               obtain⟨s0,s1,s4⟩:W3.cell? ⟨w.heap.size+1,0,none⟩=some (.int .i8 op)∧W3.cell? ⟨w.heap.size+1,1,none⟩=some (.int .i64 id)∧W3.cell? ⟨w.heap.size+1,4,none⟩=some (.string tx):=⟨by rw[corQ _ _ 0 _ _ _ hs];rfl,by rw[corQ _ _ 1 _ _ _ hs];rfl,by rw[corQ _ _ 4 _ _ _ hs];rfl⟩
               obtain⟨p0,p1,p2,p3⟩:=zI H3.out.2.1
               obtain⟨g0,g1,g2,g3⟩:=zI HG3.out.1
               clear hs
               by_cases hr:t.id=id
               · have hrb:(t.id == id)=true:=by simpa using hr
                 have HRI:=hH hr
                 clear hr
                 have hb3:=H3.out.1
                 have f2:=H3.out.2.2.2
                 obtain⟨z0,z1,z2,z3⟩:=zI f2
                 have gz:∀j,W3.frozen? ⟨w.heap.size+1+1,j,none⟩=false:=fun j=>forQ _ _ j _ _ f2
                 have HZ:=hH (yF f2 (.int .i64 0) (.int .i64 0) (.string ⟨#[]⟩) (.slice none 0 0))
                 have HEE:=hH (qE (r:=stepG op id par at_ tx x t) (er:=90) hb3 f2 om ug7 (by rw[HG.out,show zK op id par at_ tx x t=qh id t by unfold zK;rw[inQ HO1.out,ipQ HO.out],jT (show zA id t=some [] by rw[zA,ipQ HRI.out])];show (90:Int)≠0;decide))
                 exact sh6
               · have hrb:(t.id == id)=false:=by simpa using hr
                 obtain⟨u,k,hpar,hlt,hus,hds,hgo⟩:=zj7 hr HP.out.1
                 clear hr
                 obtain⟨r,hr⟩:∃r,r=Zl id (zW u.kids k) t:=⟨_,rfl⟩
                 have hcall:=QE W3 S (.agg #[.int .i64 t.id,.int .i64 t.kind,.string t.text,.slice ka len cap]) t u id k hpar hlt hus (by have:=HSZ.out.1;omega) (by have:=HSZ.out.1;omega) (hSX.out W3 H3.out.1) (HT.out.1 W3 H3.out.1)
                 rw[←hr] at hcall
                 have HCALL:=hH hcall
                 have HR:=hH (show stepG op id par at_ tx x t=(r,0) by rw[HG.out,show zK op id par at_ tx x t=qh id t by unfold zK;rw[inQ HO1.out,ipQ HO.out],hr];exact hgo)
                 clear hcall hr hpar hlt hus hds hgo
                 exact sc0
           · have ho4:op=4:=Classical.byContradiction fun h=>ho ⟨ho2,h⟩
             have hob2:(op == 2)=false:=by rw[ho4];decide
             have hob2n:(op != 2)=true:=by rw[ho4];decide
             have hob4:(op == 4)=true:=by rw[ho4];decide
             have hob4n:(op != 4)=false:=by rw[ho4];decide
             have HO:=hH ho4
             clear ho4 ho2 ho
             go_wp2_with fail
             refine HF.out.mono ?_
             rintro e w3 ⟨z,va,vc,ok,rfl,hvc,hvf,hb3,hy,hn⟩
             clear s0 s1 s2 s3 s4 t5 t6 t7 t8 p0 p1 p2 p3
             obtain⟨zn,hzn⟩:∃zn,zn=foLen z.kids:=⟨_,rfl⟩
             rw[←hzn]
             obtain⟨W3,hW3⟩:∃W3,W3=w3.alloc (.cells #[.int .i64 z.id,.int .i64 z.kind,.string z.text,.slice va zn vc] 27):=⟨_,rfl⟩
             have hb4:Below w2.heap.size w2 W3:=hb3.trans (by rw[hW3];exact (BrQ _ _).alloc hb3.size _)
             have eG:W3.heap[w3.heap.size]? =some (.cells #[.int .i64 z.id,.int .i64 z.kind,.string z.text,.slice va zn vc] 27 (0,0)):=by rw[hW3];exact hanQ _ _
             have hvf3:zt W3 S z.kids va:=hvf.kept fun q hq=>⟨hq,by rw[hW3];exact BhaQ _ _ _ (nL (hSX.out w2 H2.out.1 q hq) hb3.size)⟩
             obtain⟨G,hG⟩:∃G,G=w3.heap.size:=⟨_,rfl⟩
             rw[←hG] at eG
             have HW3:=hH hW3
             have HG3:=hH (aN eG (aN hvf3 (aN hvc hzn)))
             have HY:=hH (aN hy hn)
             have hbw:=H2.out.1.trans (hb4.mono H2.out.1.size)
             have f0:=(hb4.block _ (lohQ H2.out.2.1)).trans H2.out.2.1
             have f1:=(hb4.block _ (lohQ H2.out.2.2.1)).trans H2.out.2.2.1
             have f2:=(hb4.block _ (lohQ H2.out.2.2.2)).trans H2.out.2.2.2
             have H3:=hH (aN hbw (aN f0 (aN f1 f2)))
             clear hbw f0 f1 f2 hb4
             clear hb3 hW3 eG hvf hvf3 hvc hzn hy hn H2
             go_upto_region 10 with fail
             change Code.wp _ _ _ _ (w3.alloc (.cells #[.int .i64 z.id,.int .i64 z.kind,.string z.text,.slice va zn vc] 27))
             rw[←HW3.out,←hG]
             clear HW3 hG
             cases ok with
             | false=>
               have hb3:=H3.out.1
               have f2:=H3.out.2.2.2
               obtain⟨z0,z1,z2,z3⟩:=zI f2
               have gz:∀j,W3.frozen? ⟨w.heap.size+1+1,j,none⟩=false:=fun j=>forQ _ _ j _ _ f2
               have HZ:=hH (yF f2 (.int .i64 0) (.int .i64 0) (.string ⟨#[]⟩) (.slice none 0 0))
               have HEE:=hH (qE (r:=stepG op id par at_ tx x t) (er:=4) hb3 f2 om ug7 (by rw[HG.out,show zK op id par at_ tx x t=jf id tx t by unfold zK;rw[inQ HO1.out,inQ (by rw[HO.out];decide),inQ HO3.out,ipQ HO.out],kN (HY.out.2 rfl)];show (4:Int)≠0;decide))
               exact sc4
             | true=>
               obtain⟨pp,hp,hz⟩:=HY.out.1 rfl
               have HP:=hH (aN hp hz)
               clear hp hz HY
               have hs:=H3.out.2.2.1
               obtain⟨s0,s1,s4⟩:W3.cell? ⟨w.heap.size+1,0,none⟩=some (.int .i8 op)∧W3.cell? ⟨w.heap.size+1,1,none⟩=some (.int .i64 id)∧W3.cell? ⟨w.heap.size+1,4,none⟩=some (.string tx):=⟨by rw[corQ _ _ 0 _ _ _ hs];rfl,by rw[corQ _ _ 1 _ _ _ hs];rfl,by rw[corQ _ _ 4 _ _ _ hs];rfl⟩
               obtain⟨p0,p1,p2,p3⟩:=zI H3.out.2.1
               obtain⟨g0,g1,g2,g3⟩:=zI HG3.out.1
               clear hs
               have hzs:zb z.kids≤400000:=by have h2:=kI (fun _=>true) pp t z HP.out.2;rw[zJ,zJ] at h2;have h3:=HSZ.out.1;omega
               obtain⟨r,hr⟩:∃r,r=(mkT id tx z.kids false t).1:=⟨_,rfl⟩
               have hcall:=Q8 W3 S id tx z.kids va zn vc (.agg #[.int .i64 t.id,.int .i64 t.kind,.string t.text,.slice ka len cap]) t HG3.out.2.2.2 hzs (by rw[HG3.out.2.2.2];exact HG3.out.2.2.1) (by have:=HSZ.out.1;omega) (hSX.out W3 H3.out.1) HG3.out.2.1 (HT.out.1 W3 H3.out.1)
               rw[←hr] at hcall
               have HCALL:=hH hcall
               have HR:=hH (show stepG op id par at_ tx x t=(r,0) by rw[HG.out,show zK op id par at_ tx x t=jf id tx t by unfold zK;rw[inQ HO1.out,inQ (by rw[HO.out];decide),inQ HO3.out,ipQ HO.out],hr];exact zii HP.out.1 HP.out.2)
               clear hcall hr hzs
               exact sc0
def EY (Y0 w W4:World)(q:Nat):Prop:=W4.heap.size≤q∨(Y0.heap.size≤q∧q<w.heap.size)
theorem zg2 {Y0 w W4:World}{q:Nat}(h:¬EY Y0 w W4 q):q<W4.heap.size:=by
 unfold EY at h;omega
def zjR (Y0 w W:World)(a:Option Addr)(bs:List Sf):Prop:=∀(k:Nat) (s:Sf),bs[k]? =some s→∃b off va vc,a=some ⟨b,off,none⟩∧w.heap.size≤b∧b<W.heap.size∧(∀(j:Nat) (u:Value),(jO s va vc)[j]? =some u→W.cell? ⟨b,off+k*9+j,none⟩=some u)∧zS W (fun q=>Y0.heap.size≤q∧q<w.heap.size) s.sub.kids va vc
def zcX (Y0 w W4:World)(rv:List Sf)(ra:Option Addr)(rc k:Nat)(wr:World):Prop:=Below W4.heap.size W4 wr∧∃ysr,wr.ownsRow W4.heap.size 44 9 (.slice ra k rc) k ysr∧ZU wr (EY Y0 w W4) (rv.take k) ysr
theorem zcX.zkZ {Y0 w W4:World}{rv:List Sf}{ra:Option Addr}{rc k:Nat}{wr:World}(h:zcX Y0 w W4 rv ra rc k wr)(hw:w.heap.size≤W4.heap.size)(hk:k=rv.length):zjR Y0 w wr ra rv:=by
 obtain⟨_,ysr,h1,h2⟩:=h
 intro j s hs
 rw[hk,List.take_length] at h2
 have hj:=(List.getElem?_eq_some_iff.1 hs).1
 obtain⟨a,c,h3,h4⟩:=ZU.nth j s h2 hs
 obtain⟨g,cap,e,_⟩:=h1.form om
 cases e
 refine⟨g,0,a,c,rfl,NltQ hw (zk h1 rfl).1,(zk h1 rfl).2,fun i u hu=>?_,h4.1,h4.2.kept fun q hq=>⟨⟨hq.1,fun e=>hq.2 (.inr e)⟩,rfl⟩⟩
 rw[Nat.zero_add]
 exact zF h1 rfl _ _ (h3 i u hu)
def zkl (Y0 w:World)(t:Tr)(l:List Sf)(e:Ending)(W:World):Prop:=∃ra rc n bs,e= .returned (.tuple #[.slice ra bs.length rc,.int .i64 n])∧Below w.heap.size w W∧zjR Y0 w W ra bs∧((n=0∧ve l=true∧(∃x,goA t l=some x)∧bs=(qw t l).reverse)∨(n≠0∧bs= []∧(ve l=true→goA t l=none)))
theorem zdW (Y0 w W:World):zjR Y0 w W none []:=fun k s h=>by simp at h
theorem Jc (Y0 w:World)(t:Tr)(ta la:Option Addr)(tn tc n c:Nat)(vs:List SV)(hY:Below Y0.heap.size Y0 w)(htn:tn=foLen t.kids)(ht:yR Y0 t.kids ta tc)(hw:Way t)(hn:n=vs.length)(h:Row Y0 la vs)(hI:∀x∈vs,Jb x.s):
 Calls Tryz.prog 11 #[.agg #[.int .i64 t.id,.int .i64 t.kind,.string t.text,.slice ta tn tc],.slice la n c] w (zkl Y0 w t (steps vs)):=by
 obtain⟨B,hB⟩:∃B,B=w.alloc (.cells #[.int .i64 t.id,.int .i64 t.kind,.string t.text,.slice ta tn tc] 27):=⟨_,rfl⟩
 have BW:=hH (show Below w.heap.size w B by rw[hB];exact zg _ _)
 have EN:=hH (show B.heap[w.heap.size]? =some (.cells #[.int .i64 t.id,.int .i64 t.kind,.string t.text,.slice ta tn tc] 27 (0,0)) by rw[hB];exact hanQ _ _)
 have hck:=zbs B la n c vs hn (h.on (hY.trans (BW.out.mono hY.size)))
 obtain⟨m,hm⟩:∃m,m=Ql (steps vs):=⟨_,rfl⟩
 rw[←hm] at hck
 have HCK:=hH hck
 have HM:=hH hm
 have HT:=hH (aN htn (aN ht (aN hw (aN hn h))))
 have HBE:=hH hB
 have HYS:=hH hY
 have HI0:=hH hI
 clear hck hm htn ht hw hn h hB hI hY
 go_enter Tryz.func11,Tryz.ntmps11
 go_wp2_with fail
 change Calls _ _ _ (w.alloc (.cells #[.int .i64 t.id,.int .i64 t.kind,.string t.text,.slice ta tn tc] 27)) _
 rw[←HBE.out]
 clear HBE
 refine HCK.out.mono ?_
 rintro e W1 ⟨rfl,hb1⟩
 replace EN:=hH ((hb1.block _ (lohQ EN.out)).trans EN.out)
 replace BW:=hH (BW.out.trans (hb1.mono BW.out.size))
 clear hb1 HCK
 by_cases hm0:m=0
 · have ho :ve (steps vs)=true:=by
    have:=HM.out
    rw[hm0,Ql] at this
    by_cases h:ve (steps vs)=true
    · exact h
    · rw[inQ h] at this;cases this
   have HO:=hH ho
   have hiv:=zgl Y0 W1 t ta la tn tc n c vs (HYS.out.trans (BW.out.mono HYS.out.size)) HT.out.1 HT.out.2.1 HT.out.2.2.1 HT.out.2.2.2.1 HT.out.2.2.2.2 HI0.out ho
   have HIV:=hH hiv
   obtain⟨n0,n1,n2,n3⟩:=zD EN.out
   subst hm0
   clear ho hiv
   go_wp2_with fail
   refine HIV.out.mono ?_
   rintro e W4 ⟨xa,xm,xc,nn,rfl,hb4,G,hGY,hr⟩
   have HGY:=hH (show ∀q,Y0.heap.size≤q→q<w.heap.size→G q from fun q h1 h2=>hGY q h1 (nL h2 BW.out.size))
   clear hGY
   have BW4:=hH (BW.out.trans (hb4.mono BW.out.size))
   clear n0 n1 n2 n3 hb4 HIV
   by_cases hn0:nn=0
   · obtain ⟨_,hx,ys,hxm,hbk⟩:=hr.resolve_right (fun h1=>h1.1 hn0)
     subst hn0
     obtain⟨bs,hbs⟩:∃bs,bs=qw t (steps vs):=⟨_,rfl⟩
     rw[←hbs] at hxm hbk
     have hlen:bs.length=n:=by rw[hbs,jk,vR,HT.out.2.2.2.1]
     have hm60:xm≤60:=by
      have:=(Yv _).1 HO.out
      rw[vR] at this
      rw[hxm,hlen,HT.out.2.2.2.1];omega
     have HBK:=hH hbk
     have HX:=hH (aN hx (aN hbs (aN hxm hlen)))
     obtain⟨i1,z1,hi1,hy0,hy1,hy2,hy3⟩:=yw Tryz.zfE
     have HI1:=hH (aN hi1 (aN hy0 (aN hy1 (aN hy2 hy3))))
     obtain⟨W5,hmk,hro,hgr⟩:=run_makeSlice_owned (P:=Tryz.prog) (w:=W4) W4.heap.size 28 44 i1 z1 9 Tryz.underlying28 hi1 hy0 hy1 .i64 .i64 xm om (by rw[hy2];omega) uf7 (NlrQ _)
     have hb5:Below W4.heap.size W4 W5:=(BrQ _ _).grown hgr (NlrQ _) (fun k hk=>by cases hk)
     have HTI:Hid (zcX Y0 w W4 bs.reverse (some ⟨W4.heap.size,0,none⟩) xm 0 W5):=hH ⟨hb5,[],hro,by rw[List.take_zero];rfl⟩
     have hmw:IntKind.i64.wrap ((xm:Int) - 1)=(xm:Int) - 1:=IntWalk.i64_in _ om
     clear hro hgr hb5 hi1 hy0 hy1 hy2 hy3 hx hbs hxm hbk hlen
     go_wp2_with fail
     go_loopg [9,10] xm (fun gk tv iv wr=>∃(ra:Option Addr) (rc k:Nat),gk+k=xm∧iv= .int .i64 ((gk:Int) - 1)∧tv= .slice ra k rc∧Hid (zcX Y0 w W4 bs.reverse ra rc k wr))
     case atStart=>exact⟨_,_,0,by omega,rfl,rfl,HTI⟩
     case round=>
      obtain⟨ra,rc,k,hk,rfl,rfl,hh⟩:=hrel
      clear HTI
      obtain⟨wo,hwo⟩:∃wo,wo=wr:=⟨_,rfl⟩
      subst hwo
      rcases Nat.eq_zero_or_pos gk with hg0 | hg0
      · subst hg0
        have hkx:k=xm:=by omega
        have HZ:Hid (zkl Y0 w t (steps vs) (.returned (.tuple #[.slice ra k rc,.int .i64 0])) wo):=hH (by
         have hl:k=bs.reverse.length:=by rw[List.length_reverse,hkx];exact HX.out.2.2.1
         refine⟨ra,rc,0,bs.reverse,by rw[←hl],BW4.out.trans (hh.out.1.mono BW4.out.size),hh.out.zkZ BW4.out.size hl,.inl ⟨rfl,HO.out,HX.out.1,by rw[HX.out.2.1]⟩⟩)
        clear hkx hk hh
        go_wp2_with fail
        go_ret2
        exact HZ.out
      · obtain⟨j,hj⟩:∃j,gk=j+1:=⟨gk - 1,by omega⟩
        subst hj
        have hji:(((j+1:Nat):Int) - 1)=(j:Int):=by omega
        rw[hji]
        obtain⟨b,hb⟩:∃b,bs[j]? =some b:=⟨_,List.getElem?_eq_getElem (by have:=HX.out.2.2.1;omega)⟩
        have hbk:=HBK.out.on hh.out.1
        obtain⟨va,vc,h1,h2⟩:=ZU.nth j b hbk.lies hb
        obtain⟨xg,xc2,e,_⟩:=hbk.row.form (by have:=HX.out.2.2.1;omega)
        cases e
        obtain⟨bn,hbn⟩:∃bn,bn=foLen b.sub.kids:=⟨_,rfl⟩
        have hcl:=fun i u hu=>zF hbk.row rfl _ _ (h1 i u hu)
        have m0:wo.cell? ⟨xg,j*9,none⟩=some (.int .i8 b.op):=hcl 0 _ rfl
        have m1:wo.cell? ⟨xg,j*9+1,none⟩=some (.int .i64 b.id):=hcl 1 _ rfl
        have m2:wo.cell? ⟨xg,j*9+2,none⟩=some (.int .i64 b.par):=hcl 2 _ rfl
        have m3:wo.cell? ⟨xg,j*9+3,none⟩=some (.int .i64 b.at_):=hcl 3 _ rfl
        have m4:wo.cell? ⟨xg,j*9+4,none⟩=some (.string b.tx):=hcl 4 _ rfl
        have m5:wo.cell? ⟨xg,j*9+5,none⟩=some (.int .i64 b.sub.id):=hcl 5 _ rfl
        have m6:wo.cell? ⟨xg,j*9+6,none⟩=some (.int .i64 b.sub.kind):=hcl 6 _ rfl
        have m7:wo.cell? ⟨xg,j*9+7,none⟩=some (.string b.sub.text):=hcl 7 _ rfl
        have m8:wo.cell? ⟨xg,j*9+8,none⟩=some (.slice va bn vc):=by rw[hbn];exact hcl 8 _ rfl
        obtain⟨va2,vc2,q1,q2⟩:=ZU.nth j b HBK.out.lies hb
        have hq8:va2=va∧vc2=vc:=by
         have e1:=q1 8 _ rfl
         have e2:=h1 8 _ rfl
         rw[e1] at e2
         simp only[Option.some.injEq,Value.slice.injEq] at e2
         exact⟨e2.1,e2.2.2⟩
        obtain⟨rfl,rfl⟩:=hq8
        have hsub:zS wo (EY Y0 w W4) b.sub.kids va2 vc2:=⟨q2.1,q2.2.kept fun q hq=>⟨⟨nL hq.1 hh.out.1.size,fun e=>e.elim (fun e=>by have:=hq.1;omega) (fun e=>hq.2 (.inl (HGY.out q e.1 e.2)))⟩,hh.out.1.block q hq.1⟩⟩
        obtain⟨hbw,ysr,hro,hbr⟩:=hh.out
        have HRO:=hH (aN hro (aN hbr (aN hbw (aN hsub hbn))))
        have HJ:=hH (aN hk (aN hb hm60))
        have hk60:k≤60:=by omega
        have hjm:(j:Int)<(xm:Int):=by omega
        have hj0:(0:Int)≤(j:Int):=by omega
        have hjw:IntKind.i64.wrap ((j:Int) - 1)=(j:Int) - 1:=IntWalk.i64_in _ om
        clear hro hbr hbw hsub hbn hcl h1 h2 q1 q2 hbk hh hb hk hg0 hji
        go_wp2_with (at_builtin;refine wpList_append_lies _ rfl (.tmp 35) (.tmp 40) _ rfl W4.heap.size 44 i1 z1 9 104 Tryz.underlying28 HI1.out.1 HI1.out.2.1 HI1.out.2.2.1 HI1.out.2.2.2.1 HI1.out.2.2.2.2 om (.slice ra k rc) k ysr rfl (HRO.out.1.alloc _) ⟨wo.heap.size,0,none⟩ 1 1 [.int .i8 b.op,.int .i64 b.id,.int .i64 b.par,.int .i64 b.at_,.string b.tx,.int .i64 b.sub.id,.int .i64 b.sub.kind,.string b.sub.text,.slice va2 bn vc2] rfl rfl (World.news_of_block (cs:= #[.int .i8 b.op,.int .i64 b.id,.int .i64 b.par,.int .i64 b.at_,.string b.tx,.int .i64 b.sub.id,.int .i64 b.sub.kind,.string b.sub.text,.slice va2 bn vc2]) (t:=44) (fr:=(0,0)) (hanQ wo _)) uf6 om uf7 om (by have:=HRO.out.2.2.1.size;simp;omega) (wo.heap.size+1) sp1 ?_;intro g1 c1 W7 hown7 hgrow7 hat7 hlt7;have H7:=hH (aN hown7 hgrow7);clear hown7 hgrow7 hat7 hlt7)
        have hnew:zcX Y0 w W4 bs.reverse (some ⟨g1,0,none⟩) c1 (k+1) W7:=by
         obtain⟨hro,hbr,hbw,hsub,hbn⟩:=HRO.out
         have hb7:Below W4.heap.size W4 W7:=(hbw.trans ((zg wo _).mono hbw.size)).grown H7.out.2 (by have:=hbw.size;rw[WsaQ];omega) (fun q hq=>(zk hro hq).1)
         have hmv:∀f a c,zS wo (EY Y0 w W4) f a c→zS W7 (EY Y0 w W4) f a c:=fun f a c hl=>⟨hl.1,hl.2.kept fun q hq=>⟨⟨by have:=hb7.size;have:=zg2 hq.2;omega,hq.2⟩,(hb7.block q (zg2 hq.2)).trans (hbw.block q (zg2 hq.2)).symm⟩⟩
         have hel:bs.reverse[k]? =some b:=by
          rw[List.getElem?_reverse (by have:=HX.out.2.2.1;have:=HJ.out.1;omega),show bs.length - 1 - k=j by have:=HX.out.2.2.1;have:=HJ.out.1;omega]
          exact HJ.out.2.1
         refine⟨hb7,_,H7.out.1,?_⟩
         rw[List.take_add_one,hel,hbn]
         exact ZU.snoc (hmv _ _ _ hsub) (hbr.kept hmv)
        have HN:=hH hnew
        clear hnew
        go_wp2_with fail
        go_roundg j
        case measure=>omega
        case rel=>exact⟨some ⟨g1,0,none⟩,c1,k+1,by have:=HJ.out.1;omega,rfl,rfl,HN⟩
   · have h2:=hr.resolve_left (fun h1=>hn0 h1.1)
     have HR:=hH h2
     have hnb:(nn != 0)=true:=by simpa using hn0
     clear hr h2 hn0
     go_wp2_with fail
     go_ret2
     exact⟨none,0,nn,[],rfl,BW4.out,zdW _ _ _,.inr ⟨HR.out.1,rfl,fun _=>HR.out.2⟩⟩
 · have hmb:(m != 0)=true:=by simpa using hm0
   have HR:=hH (aN hm0 (show ve (steps vs)=true→goA t (steps vs)=none from fun h=>absurd (by rw[HM.out,Ql,ipQ h]) hm0))
   clear hm0
   go_wp2_with fail
   go_ret2
   exact⟨none,0,m,[],rfl,BW.out,zdW _ _ _,.inr ⟨HR.out.1,rfl,HR.out.2⟩⟩
def zkV (W:World)(a:Option Addr)(bs:List Sf):Prop:=∀(k:Nat) (s:Sf),bs[k]? =some s→∃b off va vc,a=some ⟨b,off,none⟩∧b<W.heap.size∧(∀(j:Nat) (u:Value),(jO s va vc)[j]? =some u→W.cell? ⟨b,off+k*9+j,none⟩=some u)∧yR W s.sub.kids va vc
def zkO (w:World)(t:Tr)(l:List Sf)(e:Ending)(W:World):Prop:=∃ra rc n bs,e= .returned (.tuple #[.slice ra bs.length rc,.int .i64 n])∧Below w.heap.size w W∧zkV W ra bs∧((n=0∧ve l=true∧(∃x,goA t l=some x)∧bs=(qw t l).reverse)∨(n≠0∧bs= []∧(ve l=true→goA t l=none)))
theorem zei (w:World)(t:Tr)(ta la:Option Addr)(tn tc n c:Nat)(vs:List SV)(htn:tn=foLen t.kids)(ht:yR w t.kids ta tc)(hw:Way t)(hn:n=vs.length)(h:Row w la vs)(hI:∀x∈vs,Jb x.s):
 Calls Tryz.prog 11 #[.agg #[.int .i64 t.id,.int .i64 t.kind,.string t.text,.slice ta tn tc],.slice la n c] w (zkO w t (steps vs)):=
 (Jc w w t ta la tn tc n c vs (BrQ _ _) htn ht hw hn h hI).mono fun e W hh=>by
   obtain⟨ra,rc,m,bs,e1,hb,hr,hc⟩:=hh
   exact⟨ra,rc,m,bs,e1,hb,fun k s hs=>by
    obtain⟨b,off,va,vc,e2,_,h3,h4,h5⟩:=hr k s hs
    exact⟨b,off,va,vc,e2,h3,h4,h5.1,h5.2.kept fun q hq=>⟨hq.1,rfl⟩⟩,hc⟩
theorem zdY {a b:Int×Int×ByteArray}(h:je a b=true):a=b:=by
 obtain⟨h1,h2,h3⟩:=of_decide_eq_true h
 obtain⟨a1,a2,a3⟩:=a
 obtain⟨b1,b2,b3⟩:=b
 simp only at h1 h2 h3
 have h4:a3=b3:=by
  rw[ByteArray.toList_eq,ByteArray.toList_eq] at h3
  exact ByteArray.ext (Array.toList_inj.mp h3)
 rw[h1,h2,h4]
theorem QT {w:World}{S:Nat→Prop}:∀{f g:Fo} {a:Option Addr},y7 f g=true→zt w S f a→zt w S g a
 | .nil,.nil,_,_,h=>h
 | .node x y k l r,.node x' y' k' l' r',a,hs,h=>by
   simp only[y7,Bool.and_eq_true] at hs
   obtain⟨⟨h1,h2,h3⟩,h4⟩:=hs
   have hk:=zdY h1
   subst hk
   have hl:=of_decide_eq_true h2
   obtain⟨b,off,ka,cap,e,hb,c0,c1,c2,c3,hc,hf,hr⟩:=h
   exact⟨b,off,ka,cap,e,hb,c0,c1,c2,by rw[←hl];exact c3,by rw[←hl];exact hc,QT h3 hf,QT h4 hr⟩
 | .nil,.node _ _ _ _ _,_,hs,_=>by simp[y7] at hs
 | .node _ _ _ _ _,.nil,_,hs,_=>by simp[y7] at hs
theorem zd0 {t u:Tr}(h:qF t u=true):t.id=u.id∧t.kind=u.kind∧t.text=u.text∧foLen t.kids=foLen u.kids∧y7 t.kids u.kids=true:=by
 unfold qF at h
 obtain⟨h1,h2⟩:=(Bool.and_eq_true _ _).mp h
 obtain⟨h3,h4⟩:=(Bool.and_eq_true _ _).mp h2
 have h5:=zdY h1
 simp only[Prod.mk.injEq] at h5
 exact⟨h5.1,h5.2.1,h5.2.2,of_decide_eq_true h3,h4⟩
theorem Jd.same {E:Nat→Prop}{B V:World}{XB:Nat}{x y:Tr}{va:Option Addr}{vn vc:Nat}(h:Jd E B XB x va vn vc V)(hs:qF x y=true):Jd E B XB y va vn vc V:=by
 obtain⟨h1,h2,h3,h4,h5⟩:=zd0 hs
 have hc:=h.cell
 rw[h1,h2,h3] at hc
 exact⟨h.but,h.inE,h.ltE,hc,by rw[h.len,h4],by rw[←h4];exact h.lies.1,QT h5 h.lies.2⟩
theorem zft {g:Gr}:∀(L:List Sp) (ids:List Int) (i:Nat),qR g ids i L=none→∀x∈L,1≤x.2.1.1∧x.2.1.1≤1125899906842624
 | [],ids,i,_,x,h=>by cases h
 | y :: r,ids,i,h,x,hx=>by
   rw[qR] at h
   split at h
   · cases h
   · rename_i ha
     rcases List.mem_cons.1 hx with rfl | hx
     · unfold atB at ha
       simp only[Bool.or_eq_true,not_or,Bool.not_eq_true,decide_eq_false_iff_not] at ha
       have h1:=ha.1.1.2
       have e:(kX x).id=x.2.1.1:=rfl
       rw[e] at h1
       omega
     · exact zft r _ _ h x hx
theorem ziv {g:Gr}{t:Tr}(h:(qG g t).2=0):JE t:=by
 unfold qG at h
 split at h
 · exact absurd h ug7
 · unfold vT at h
   split at h
   · split at h
     · exact absurd h ug7
     · unfold vZ at h
       split at h
       · exact absurd h sp1
       · rename_i hb
         intro i hi
         rw[zcn] at hi
         obtain⟨x,hx,rfl⟩:=List.mem_map.1 hi
         exact zft _ _ _ hb x hx
   · exact absurd h ug7
def vV (t:Tr):List Sf→List Tr
 | []=>[t]
 | s::l=>vV (s.on t).1 l++[t]
structure zhn (g:Gr) (t:Tr):Prop where
 zkw:vD t
 rng:JE t
 size:zb t.kids+1≤200
theorem zkD {g:Gr}{t:Tr}(h:(qG g t).2=0):zhn g t:=⟨(Q9 h).1,ziv h,(Q9 h).2⟩
theorem vw:∀(l:List Sf) (t:Tr),(vV t l).length=l.length+1
 | [],t=>rfl
 | s::l,t=>by rw[vV,LlaQ,vw l];simp
theorem Jj {t x:Tr}:∀{l:List Sf} {t:Tr},goA t l=some x→(vV t l)[0]? =some x
 | [],t,h=>by cases h;rfl
 | s ::l,t,h=>by
   rw[goA] at h
   split at h
   · rw[vV,List.getElem?_append_left (by rw[vw];omega)]
     exact Jj (t:=t) h
   · cases h
theorem zah:∀(l:List Sf) (t:Tr),(vV t l)[l.length]? =some t
 | [],t=>rfl
 | s::l,t=>by rw[vV,List.getElem?_append_right (by rw[vw];simp),vw,LlcQ,Nat.sub_self];rfl
theorem zae {g:Gr}:∀{l:List Sf} {t y:Tr},zhn g t→goT g t l=some y→∀(k:Nat) (b:Sf),(qw t l).reverse[k]? =some b→∃u v z,(vV t l)[k]? =some u∧(vV t l)[k+1]? =some v∧zhn g u∧zhn g v∧b.on u=(z,0)∧qF z v=true∧zbm b
 | [],t,y,_,_,k,b,h=>by simp[qw] at h
 | s :: l,t,y,hw,h,k,b,hb=>by
   rw[goT] at h
   split at h
   · rename_i h0
     obtain⟨h1,h2,h3⟩:=zhG h0
     rw[h2] at h
     have hw1:=zkD h3
     rw[qw,List.reverse_cons] at hb
     rcases Nat.lt_or_ge k (qw (s.on t).1 l).reverse.length with hk | hk
     · rw[List.getElem?_append_left hk] at hb
       obtain⟨u,v,z,e1,e2,e3⟩:=zae hw1 h k b hb
       rw[List.length_reverse,jk] at hk
       exact⟨u,v,z,by rw[vV,List.getElem?_append_left (by rw[vw];omega)];exact e1,by rw[vV,List.getElem?_append_left (by rw[vw];omega)];exact e2,e3⟩
     · rw [List.getElem?_append_right hk] at hb
       rw[List.length_reverse,jk] at hk hb
       have hk2:k - l.length=0:=by
        rcases Nat.eq_zero_or_pos (k - l.length) with h4 | h4
        · exact h4
        · rw[List.getElem?_eq_none ug5] at hb;cases hb
       rw[hk2] at hb
       have hkl:k=l.length:=by omega
       subst hkl
       obtain rfl:s.inv t=b:=by simpa using hb
       have hon:s.on t=((s.on t).1,0):=Prod.ext rfl h1
       obtain⟨⟨z,hz,hzs⟩,_⟩:=zjf hw.zkw hw.rng hon
       refine⟨(s.on t).1,t,z,?_,?_,hw1,hw,hz,hzs,(zkC hw.rng (by have:=hw.size;omega) hon).1⟩
       · rw[vV,List.getElem?_append_left (by rw[vw];omega)];exact zah l _
       · rw[vV,List.getElem?_append_right (by rw[vw];omega),vw,Nat.sub_self];rfl
   · cases h
theorem zj0 {s:Sf}(ho:zbm s):Jb s:=fun E X0 X1 X t ta sa tc sc hE h0 h1 b0 b1 hz hok=>zi3 hE h0 h1 b0 b1 hz hok ho
def wkG:Gr:=⟨[⟨⟨#[108,105,115,116]⟩,false,[⟨[1],0,3⟩]⟩,⟨⟨#[97]⟩,true,[]⟩],0⟩
def wkT:Tr:=⟨1,0,⟨#[]⟩,.node 0 0 (2,1,⟨#[]⟩) .nil .nil⟩
def wkS (op:Int)(tx:ByteArray):SV:=⟨⟨op,2,0,0,tx,zu⟩,none,0⟩
theorem zkE:apK wkG wkT (steps [wkS 2 ⟨#[]⟩,wkS 4 ⟨#[]⟩])=(wkT,1,4):=by kernel_rfl
theorem zkF:(qw wkT (steps [wkS 4 ⟨#[97]⟩])).reverse= [⟨4,2,0,0,⟨#[]⟩,zu⟩]:=by kernel_rfl
theorem zkG:(goA wkT (steps [wkS 4 ⟨#[97]⟩])).isSome=true:=by kernel_rfl
theorem zkH:ve (steps [wkS 4 ⟨#[97]⟩])=true:=by kernel_rfl
theorem zkb:wkG.few:=by
 refine⟨by decide,fun k hk=>?_⟩
 simp only[wkG,List.mem_cons,List.not_mem_nil,or_false] at hk
 rcases hk with rfl | rfl
 · exact⟨by decide,by decide,fun s hs=>by simp only[List.mem_cons,List.not_mem_nil,or_false] at hs;subst hs;unfold Sl.few;decide⟩
 · exact⟨by decide,by decide,fun s hs=>by simp at hs⟩
theorem zj1:okF (spF 1 (zm wkT)):=by
 intro x hx
 have:x.2.1=(1,0,⟨#[]⟩)∨x.2.1=(2,1,⟨#[]⟩):=by
  simp[spF,zm,wkT] at hx
  rcases hx with rfl | rfl
  · exact Or.inl rfl
  · exact Or.inr rfl
 rcases this with e | e<;>rw[e]<;>exact⟨by decide,by decide⟩
theorem zia:okF (spF 1 (zm zu)):=by
 intro x hx
 simp[spF,zm,zu] at hx
 subst hx
 exact⟨by decide,by decide⟩
theorem ziB:Way wkT:=⟨by decide,zj1⟩
theorem zcM (op:Int)(tx:ByteArray)(h:(Lit.int .i8 op).wf=true)(h2:(tx.size:Int)≤9223372036854775807):vo (wkS op tx).s:=⟨h,(by decide:zb zu.kids+1≤250),zia,h2⟩
theorem zkx (w:World)(S Sx:Nat→Prop)(nv sv:Value)(t:Tr)(s:Sf)(h4:s.op=4)(hS:∀y,S y→y<w.heap.size)(hSx:∀y,Sx y→y<w.heap.size)(ht:zG w S nv t)(hs:zhj w Sx sv s)(hsz:zb t.kids+1≤2000)(hok:∀i∈idT t,(Lit.int .i64 i).wf=true)(ho:zbm s):
 Calls Tryz.prog 49 #[nv,sv] w (JD w (fun y=>S y∨Sx y) (s.on t).2 (s.inv t)):=by
 obtain⟨ka,kc,rfl,h1,h2⟩:=hs
 have hx:zG w Sx (.agg #[.int .i64 s.sub.id,.int .i64 s.sub.kind,.string s.sub.text,.slice ka (foLen s.sub.kids) kc]) s.sub:=⟨ka,kc,rfl,h1,h2⟩
 have hid:=ho.ids
 have hop:=ho.op
 have hxz:=ho.size
 unfold Sf.inv Sf.on
 obtain⟨op,id,par,at_,tx,x⟩:=s
 simp only at*
 subst h4
 by_cases h0:(zK 4 id par at_ tx x t).2=0
 · rw[ipQ h0,h0]
   exact zdt w S Sx nv t x id par at_ tx ka _ kc hS hSx ht hx hsz hxz hok hid h0
 · rw[inQ h0]
   exact zaI w S Sx nv t x 4 id par at_ tx ka _ kc hS hSx ht hx hsz hxz hop hok hid h0
theorem zkc:Jb (wkS 4 ⟨#[97]⟩).s:=fun E X0 X1 X t ta sa tc sc hE h0 h1 b0 b1 hz hok=>by
 refine (zkx X _ _ _ _ t (wkS 4 ⟨#[97]⟩).s rfl (fun y hy=>nL hy.1 b0.size) (fun y hy=>nL hy.1 b1.size) (h0.at b0) ⟨sa,sc,rfl,h1.1,h1.2.kept fun q hq=>⟨hq,b1.block q hq.1⟩⟩ hz hok (zeG (zcM 4 _ ug7 ug7))).mono ?_
 exact sg0
theorem ziA {w:World}{l:List SV}{b:Nat}{cs:Array Value}(hb:w.heap[b]? =some (.cells cs 44 (0,0)))(hl:∀x∈l,vo x.s∧x.s.sub=zu∧x.a=none∧x.c=0)(hn:l.length≤2)(hc:∀(k:Nat) (x:SV),l[k]? =some x→∀(j:Nat) (u:Value),(jO x.s x.a x.c)[j]? =some u→cs[k*9+j]? =some u):Row w (some ⟨b,0,none⟩) l:=
 ⟨fun k x hx=>⟨b,0,rfl,lohQ hb,fun j u hj=>by rw[corQ _ _ _ _ _ _ hb,Nat.zero_add];exact hc k x hx j u hj⟩,fun x hx=>by obtain⟨_,h1,h2,h3⟩:=hl x hx;unfold ZL yR;rw[h1,h2,h3];exact⟨NlrQ _,True.intro⟩,fun x hx=>(hl x hx).1,by omega⟩
theorem vS (w:World):Calls Tryz.prog 8 #[] w fun e w'=>e= .returned (.bool true)∧Below w.heap.size w w':=by
 obtain⟨X,hX⟩:∃X,X=zl w [.cells #[.int .i64 1] 3,.cells #[.slice (some ⟨w.heap.size,0,none⟩) 1 1,.int .i64 0,.int .i64 3] 55,.cells #[.string ⟨#[108,105,115,116]⟩,.bool false,.slice (some ⟨w.heap.size+1,0,none⟩) 1 1,.string ⟨#[97]⟩,.bool true,.slice none 0 0] 52,.cells #[.slice (some ⟨w.heap.size+1+1,0,none⟩) 2 2,.int .i64 0] 24,.cells #[.int .i64 2,.int .i64 1,.string ⟨#[]⟩,.slice none 0 0] 27,.cells #[.int .i64 1,.int .i64 0,.string ⟨#[]⟩,.slice (some ⟨w.heap.size+1+1+1+1,0,none⟩) 1 1] 27,.cells #[.int .i8 2,.int .i64 2,.int .i64 0,.int .i64 0,.string ⟨#[]⟩,.int .i64 0,.int .i64 0,.string ⟨#[]⟩,.slice none 0 0,.int .i8 4,.int .i64 2,.int .i64 0,.int .i64 0,.string ⟨#[]⟩,.int .i64 0,.int .i64 0,.string ⟨#[]⟩,.slice none 0 0] 44]:=⟨_,rfl⟩
 have BW:=hH (show Below w.heap.size w X by rw[hX];exact zi _ _)
 have e0:X.heap[w.heap.size]? =some (.cells #[.int .i64 1] 3 (0,0)):=by rw[hX];exact ze _ _ 0 _ rfl
 have e1:X.heap[w.heap.size+1]? =some (.cells #[.slice (some ⟨w.heap.size,0,none⟩) 1 1,.int .i64 0,.int .i64 3] 55 (0,0)):=by rw[hX];exact ze _ _ 1 _ rfl
 have e2:X.heap[w.heap.size+2]? =some (.cells #[.string ⟨#[108,105,115,116]⟩,.bool false,.slice (some ⟨w.heap.size+1,0,none⟩) 1 1,.string ⟨#[97]⟩,.bool true,.slice none 0 0] 52 (0,0)):=by rw[hX];exact ze _ _ 2 _ rfl
 have e3:X.heap[w.heap.size+3]? =some (.cells #[.slice (some ⟨w.heap.size+1+1,0,none⟩) 2 2,.int .i64 0] 24 (0,0)):=by rw[hX];exact ze _ _ 3 _ rfl
 have e4:X.heap[w.heap.size+4]? =some (.cells #[.int .i64 2,.int .i64 1,.string ⟨#[]⟩,.slice none 0 0] 27 (0,0)):=by rw[hX];exact ze _ _ 4 _ rfl
 have e5:X.heap[w.heap.size+5]? =some (.cells #[.int .i64 1,.int .i64 0,.string ⟨#[]⟩,.slice (some ⟨w.heap.size+1+1+1+1,0,none⟩) 1 1] 27 (0,0)):=by rw[hX];exact ze _ _ 5 _ rfl
 have e6:X.heap[w.heap.size+6]? =some (.cells #[.int .i8 2,.int .i64 2,.int .i64 0,.int .i64 0,.string ⟨#[]⟩,.int .i64 0,.int .i64 0,.string ⟨#[]⟩,.slice none 0 0,.int .i8 4,.int .i64 2,.int .i64 0,.int .i64 0,.string ⟨#[]⟩,.int .i64 0,.int .i64 0,.string ⟨#[]⟩,.slice none 0 0] 44 (0,0)):=by rw[hX];exact ze _ _ 6 _ rfl
 have hG :GrV X (.agg #[.slice (some ⟨w.heap.size+2,0,none⟩) 2 2,.int .i64 0]) wkG:=⟨some ⟨w.heap.size+2,0,none⟩,2,rfl,fun _=>⟨_,0,rfl,lohQ e2,fun k x hx=>by
  match k,hx with
  | 0, hx=>
    simp[wkG] at hx;subst hx
    refine⟨some ⟨w.heap.size+1,0,none⟩,1,by rw[corQ _ _ 0 _ _ _ e2];rfl,by rw[corQ _ _ 1 _ _ _ e2];rfl,by rw[corQ _ _ 2 _ _ _ e2];rfl,fun _=>⟨_,0,rfl,lohQ e1,fun k x hx=>?_⟩⟩
    match k,hx with
    | 0, hx=>
      simp at hx;subst hx
      exact⟨some ⟨w.heap.size,0,none⟩,1,by rw[corQ _ _ 0 _ _ _ e1];rfl,by rw[corQ _ _ 1 _ _ _ e1];rfl,by rw[corQ _ _ 2 _ _ _ e1];rfl,fun _=>⟨_,0,rfl,lohQ e0,fun k x hx=>by
       match k,hx with
       | 0,hx=>simp at hx;subst hx;rw[corQ _ _ 0 _ _ _ e0];rfl⟩⟩
  | 1,hx=>
    simp[wkG] at hx;subst hx
    exact⟨none,0,by rw[corQ _ _ 3 _ _ _ e2];rfl,by rw[corQ _ _ 4 _ _ _ e2];rfl,by rw[corQ _ _ 5 _ _ _ e2];rfl,fun h=>by simp at h⟩⟩⟩
 have hT:yR X wkT.kids (some ⟨w.heap.size+4,0,none⟩) 1:=⟨NlrQ _,_,0,none,0,rfl,lohQ e4,by rw[corQ _ _ 0 _ _ _ e4];rfl,by rw[corQ _ _ 1 _ _ _ e4];rfl,by rw[corQ _ _ 2 _ _ _ e4];rfl,by rw[corQ _ _ 3 _ _ _ e4];rfl,NlrQ _,True.intro,True.intro⟩
 have hR:Row X (some ⟨w.heap.size+6,0,none⟩) [wkS 2 ⟨#[]⟩,wkS 4 ⟨#[]⟩]:=by
  refine ziA e6 (fun x hx=>?_) ug7 (fun k x hx j u hj=>?_)
  · simp only[List.mem_cons,List.not_mem_nil,or_false] at hx
    rcases hx with rfl | rfl
    · exact⟨zcM 2 _ ug7 ug7,rfl,rfl,rfl⟩
    · exact⟨zcM 4 _ ug7 ug7,rfl,rfl,rfl⟩
  · match k,hx with
    | 0,hx=>
      exact se0
    | 1,hx=>
      exact se0
 have hap:=zbr X wkG wkT (some ⟨w.heap.size+2,0,none⟩) (some ⟨w.heap.size+4,0,none⟩) (some ⟨w.heap.size+6,0,none⟩) 2 2 1 1 2 2 [wkS 2 ⟨#[]⟩,wkS 4 ⟨#[]⟩] rfl (fun Y hY=>hG.below hY) zkb rfl hT ziB rfl hR
 rw[zkE] at hap
 have HAP:=hH hap
 have HX:=hH hX
 have HT:=hH hT
 have EN:=hH e5
 have EG:=hH e3
 clear hap hT hR hG e0 e1 e2 e3 e4 e5 e6 hX
 go_enter Tryz.func8,Tryz.ntmps8
 go_wp2_with fail
 change Calls _ _ _ (zl w [.cells #[.int .i64 1] 3,.cells #[.slice (some ⟨w.heap.size,0,none⟩) 1 1,.int .i64 0,.int .i64 3] 55,.cells #[.string ⟨#[108,105,115,116]⟩,.bool false,.slice (some ⟨w.heap.size+1,0,none⟩) 1 1,.string ⟨#[97]⟩,.bool true,.slice none 0 0] 52,.cells #[.slice (some ⟨w.heap.size+1+1,0,none⟩) 2 2,.int .i64 0] 24,.cells #[.int .i64 2,.int .i64 1,.string ⟨#[]⟩,.slice none 0 0] 27,.cells #[.int .i64 1,.int .i64 0,.string ⟨#[]⟩,.slice (some ⟨w.heap.size+1+1+1+1,0,none⟩) 1 1] 27,.cells #[.int .i8 2,.int .i64 2,.int .i64 0,.int .i64 0,.string ⟨#[]⟩,.int .i64 0,.int .i64 0,.string ⟨#[]⟩,.slice none 0 0,.int .i8 4,.int .i64 2,.int .i64 0,.int .i64 0,.string ⟨#[]⟩,.int .i64 0,.int .i64 0,.string ⟨#[]⟩,.slice none 0 0] 44]) _
 rw[←HX.out]
 clear HX
 refine HAP.out.mono ?_
 rintro e W1 ⟨va,vc,rfl,hl1,hb1⟩
 obtain⟨U,hU⟩:∃U,U=W1.alloc (.cells #[.int .i64 1,.int .i64 0,.string ⟨#[]⟩,.slice va 1 vc] 27):=⟨_,rfl⟩
 have hbU:Below W1.heap.size W1 U:=by rw[hU];exact zg _ _
 have EU:=hH (show U.heap[W1.heap.size]? =some (.cells #[.int .i64 1,.int .i64 0,.string ⟨#[]⟩,.slice va 1 vc] 27 (0,0)) by rw[hU];exact hanQ _ _)
 have hbb:=hb1.trans (hbU.mono hb1.size)
 replace EN:=hH ((hbb.block _ (lohQ EN.out)).trans EN.out)
 replace HT:=hH (HT.out.on hbb)
 replace BW:=hH (BW.out.trans (hbb.mono BW.out.size))
 have HU:=hH hU
 obtain⟨xb,hxb⟩:∃xb,xb=W1.heap.size:=⟨_,rfl⟩
 clear hU hbU hbb hb1 hl1 HAP
 go_upto_region 4 with fail
 change Code.wp _ _ _ _ (W1.alloc (.cells #[.int .i64 1,.int .i64 0,.string ⟨#[]⟩,.slice va 1 vc] 27))
 rw[←HU.out,←hxb]
 rw[←hxb] at EU
 clear hxb HU
 obtain⟨n0,n1,n2,n3⟩:=zD EN.out
 obtain⟨V,hV⟩:∃V,V=U.alloc (.cells #[.int .i8 4,.int .i64 2,.int .i64 0,.int .i64 0,.string ⟨#[97]⟩,.int .i64 0,.int .i64 0,.string ⟨#[]⟩,.slice none 0 0] 44):=⟨_,rfl⟩
 have hbV:Below U.heap.size U V:=by rw[hV];exact zg _ _
 have hnV:V.heap[U.heap.size]? =some (.cells #[.int .i8 4,.int .i64 2,.int .i64 0,.int .i64 0,.string ⟨#[97]⟩,.int .i64 0,.int .i64 0,.string ⟨#[]⟩,.slice none 0 0] 44 (0,0)):=by rw[hV];exact hanQ _ _
 have hR2:Row V (some ⟨U.heap.size,0,none⟩) [wkS 4 ⟨#[97]⟩]:=by
  refine ziA hnV (fun x hx=>?_) ug7 (fun k x hx j u hj=>?_)
  · simp only[List.mem_cons,List.not_mem_nil,or_false] at hx
    subst hx
    exact⟨zcM 4 _ ug7 ug7,rfl,rfl,rfl⟩
  · match k,hx with
    | 0,hx=>
      exact se0
 have hiv:=zei V wkT (some ⟨w.heap.size+4,0,none⟩) (some ⟨U.heap.size,0,none⟩) 1 1 1 1 [wkS 4 ⟨#[97]⟩] rfl (HT.out.on hbV) ziB rfl hR2 (fun x hx=>by simp only[List.mem_cons,List.not_mem_nil,or_false] at hx;subst hx;exact zkc)
 have HIV:=hH (aN hiv (aN hV hbV))
 clear hiv hR2 hnV hbV hV
 go_wp2_with fail
 change Calls _ _ _ (U.alloc (.cells #[.int .i8 4,.int .i64 2,.int .i64 0,.int .i64 0,.string ⟨#[97]⟩,.int .i64 0,.int .i64 0,.string ⟨#[]⟩,.slice none 0 0] 44)) _
 rw[←HIV.out.2.1]
 refine HIV.out.1.mono ?_
 rintro e W2 ⟨ra,rc,nn,bs,rfl,hb2,hrl,hcase⟩
 have hok2:nn=0∧bs= [⟨4,2,0,0,⟨#[]⟩,zu⟩]:=by
  rcases hcase with ⟨h1,_,_,h2⟩ | ⟨_,_,h⟩
  · exact⟨h1,by rw[h2];exact zkF⟩
  · have:=h zkH
    have h3:=zkG
    rw[this] at h3
    cases h3
 obtain⟨rfl,rfl⟩:=hok2
 obtain⟨rb,ro,sa,sc,rfl,_,hcs,_⟩:=hrl 0 _ rfl
 have hbb:=HIV.out.2.2.trans (hb2.mono HIV.out.2.2.size)
 have BW2:=hH (BW.out.trans (hbb.mono BW.out.size))
 have EU2:=(hbb.block _ (lohQ EU.out)).trans EU.out
 obtain⟨u0,u1,u2,u3⟩:=zD EU2
 have p0:W2.cell? ⟨rb,ro,none⟩=some (.int .i8 4):=by have:=hcs 0 _ rfl;simpa using this
 have p4:W2.cell? ⟨rb,ro+4,none⟩=some (.string ⟨#[]⟩):=by have:=hcs 4 _ rfl;simpa using this
 clear hbb EU2 hrl hcase hcs hb2 n0 n1 n2 n3 HIV
 simp only[List.length_singleton]
 go_wp2_with fail
 go_ret
 exact⟨rfl,BW2.out⟩
end Go.Proofs.YtgkmmnihaiopaaaGreat
namespace Go.Proofs.YtgkmmnihaiopaaaGreat
open Go.RowKit
structure zem (s:Sf):Prop where
 op:(Lit.int .i8 s.op).wf=true
 len:foLen s.sub.kids≤9223372036854775807
 fit:qZ s.sub.kids
 ok:okF (spF 1 (zm s.sub))
 tx:(s.tx.size:Int)≤9223372036854775807
structure zb4 (w:World) (a:Option Addr) (vs:List SV):Prop where
 cells:zfV w (fun q=>q<w.heap.size) a vs
 lies:∀x∈vs,ZL w x
 inn:∀x∈vs,zem x.s
theorem zb4.on {w X:World}{a:Option Addr}{vs:List SV}(h:zb4 w a vs)(hb:Below w.heap.size w X):zb4 X a vs:=
 ⟨h.cells.kept fun y hy=>⟨nL hy hb.size,hb.block y hy⟩,fun x hx=>yR.on (h.lies x hx) hb,h.inn⟩
def zel (vs:List SV):Prop:=vs.length≤70∧∀x∈vs,zb x.s.sub.kids+1≤250
theorem zb4.row {w:World}{a:Option Addr}{vs:List SV}(h:zb4 w a vs)(hs:zel vs):Row w a vs:=
 ⟨h.cells,h.lies,fun x hx=>⟨(h.inn x hx).op,hs.2 x hx,(h.inn x hx).ok,(h.inn x hx).tx⟩,by have:=hs.1;omega⟩
def ziG (w:World)(vs:List SV)(e:Ending)(w' :World):Prop:=∃b,e= .returned (.bool b)∧(b=false→zel vs)∧Below w.heap.size w w'
theorem zdn (w : World)(la:Option Addr)(n c:Nat)(vs:List SV)(hn:n=vs.length)(h:zb4 w la vs):
 Calls Tryz.prog 7 #[.slice la n c] w (ziG w vs):=by
 have HR:=hH h
 have HN:=hH hn
 clear h hn
 go_enter Tryz.func7,Tryz.ntmps7
 by_cases h70:70<n
 · have h70i:(70:Int)<(n:Int):=by omega
   go_wp2_with fail
   go_ret
   exact⟨true,rfl,(fun h=>by cases h),BrQ _ _⟩
 · have h70i : ¬ (70:Int)<(n:Int):=by omega
   go_wp2_with fail
   go_loopg [3,4,11] n (fun gk n1 n2 i wr=>∃(k:Nat) (p q:Int),gk+k=n∧i= .int .i64 (k:Int)∧n1= .int .i64 p∧n2= .int .i64 q∧0≤p∧p≤300∧0≤q∧q≤20000∧Hid (Below w.heap.size w wr∧∀j x,j<k→vs[j]? =some x→zb x.s.sub.kids+1≤250))
   case atStart=>exact⟨0,0,0,by omega,rfl,rfl,rfl,by omega,by omega,by omega,by omega,hH ⟨BrQ _ _,fun j x h=>by omega⟩⟩
   case round =>
    obtain⟨k,p,q,hk,rfl,rfl,rfl,hp0,hp1,hq0,hq1,hh⟩:=hrel
    obtain⟨wo,hwo⟩:∃wo,wo=wr:=⟨_,rfl⟩
    subst hwo
    by_cases hkn:k<n
    · have hki : (k:Int)<(n:Int):=by omega
      obtain⟨x,hx⟩:∃x,vs[k]? =some x:=⟨_,List.getElem?_eq_getElem (by rw[←HN.out];exact hkn)⟩
      have hxm:=List.mem_of_getElem? hx
      obtain⟨b,off,rfl,hbl,hcs⟩:=HR.out.cells k x hx
      obtain⟨sn,hsn⟩:∃sn,sn=foLen x.s.sub.kids:=⟨_,rfl⟩
      have hce:∀X,Below w.heap.size w X→X.cell? ⟨b,off+k*9+4,none⟩=some (.string x.s.tx)∧X.cell? ⟨b,off+k*9+5,none⟩=some (.int .i64 x.s.sub.id)∧X.cell? ⟨b,off+k*9+6,none⟩=some (.int .i64 x.s.sub.kind)∧X.cell? ⟨b,off+k*9+7,none⟩=some (.string x.s.sub.text)∧X.cell? ⟨b,off+k*9+8,none⟩=some (.slice x.a sn x.c):=fun X hX=>by
       have h:=fun j u hj=>(World.cell?_of_block (a:=⟨b,off+k*9+j,none⟩) (hX.block b hbl)).trans (hcs j u hj)
       rw[hsn]
       exact⟨h 4 _ rfl,h 5 _ rfl,h 6 _ rfl,h 7 _ rfl,h 8 _ rfl⟩
      have hin:=HR.out.inn x hxm
      have htr:∀X,Below w.heap.size w X→zG X (fun y=>y<w.heap.size) (.agg #[.int .i64 x.s.sub.id,.int .i64 x.s.sub.kind,.string x.s.sub.text,.slice x.a sn x.c]) x.s.sub:=fun X hX=>by rw[hsn];exact (HR.out.lies x hxm).at hX
      have hgr:∀X,Below w.heap.size w X→Calls Tryz.prog 6 #[.agg #[.int .i64 x.s.sub.id,.int .i64 x.s.sub.kind,.string x.s.sub.text,.slice x.a sn x.c]] X (zfr X x.s.sub):=fun X hX=>zaB X _ _ x.s.sub hin.len hin.fit (fun y hy=>nL hy hX.size) (htr X hX)
      have hwk:∀X,Below w.heap.size w X→Calls Tryz.prog 18 #[.agg #[.int .i64 x.s.sub.id,.int .i64 x.s.sub.kind,.string x.s.sub.text,.slice x.a sn x.c],.int .i64 251] X (WalkM X (fun y=>y<w.heap.size) x.s.sub 251):=fun X hX=>YA 251 om X _ _ x.s.sub hin.len hin.fit (fun y hy=>nL hy hX.size) (htr X hX)
      have HG:=hH (aN hgr hwk)
      have HCE:=hH hce
      have HX:=hH hx
      have HHB:=hH hh.out.2
      have HBR:=hH hh.out.1
      have HKN:=hH (aN hk hkn)
      obtain⟨c4,c5,c6,c7,c8⟩:=hce wo hh.out.1
      have HGR:=hH (hgr wo hh.out.1)
      have htx:=hin.tx
      clear hgr hwk hce hx hh hk hxm hcs hin htr hsn hbl
      go_wp2_with fail
      refine HGR.out.mono ?_
      rintro e w1 ⟨bg,rfl,hbg,hb1⟩
      have HB1:=hH (HBR.out.trans (hb1.mono HBR.out.size))
      have HBG:=hH hbg
      clear c4 c5 c6 c7 c8 hb1 hbg HGR
      obtain⟨c4,c5,c6,c7,c8⟩:=HCE.out w1 HB1.out
      have hqw:IntKind.i64.wrap (20000 - q)=20000 - q:=IntWalk.i64_in _ om
      cases bg
      · have HSZ :=hH (HBG.out rfl)
        have HWK:=hH (HG.out.2 w1 HB1.out)
        obtain⟨tz,htz⟩:∃tz:Nat,tz=x.s.tx.size:=⟨_,rfl⟩
        by_cases hbig:(20000 - q)<(x.s.tx.size:Int)
        · go_wp2_with fail
          go_ret
          exact⟨true,rfl,(fun e=>by cases e),HB1.out⟩
        · have hqw2:IntKind.i64.wrap (q+(x.s.tx.size:Int))=q+(x.s.tx.size:Int):=IntWalk.i64_in _ om
          have HQ2:=hH (show 0≤q+(x.s.tx.size:Int)∧q+(x.s.tx.size:Int)≤20000 by omega)
          clear htz
          go_wp2_with fail
          refine HWK.out.mono ?_
          rintro e w3 ⟨ya,yc,rfl,_,hb3⟩
          have HB3:=hH (HB1.out.trans (hb3.mono HB1.out.size))
          obtain⟨ln,hln⟩:∃ln,ln=((spF 1 (zm x.s.sub)).take 251).length:=⟨_,rfl⟩
          rw[←hln]
          have hn2:ln≤251:=by rw[hln,List.length_take];omega
          clear hln hb3 c4 c5 c6 c7 c8 hbig hqw2 hqw
          have hpw:IntKind.i64.wrap (p+(ln:Int))=p+(ln:Int):=IntWalk.i64_in _ om
          have HP2:=hH (show 0≤p+(ln:Int) by omega)
          by_cases h300:(300:Int)<p+(ln:Int)
          · go_wp2_with fail
            go_ret
            exact⟨true,rfl,(fun e=>by cases e),HB3.out⟩
          · have HP3:=hH h300
            go_wp2_with fail
            go_roundg (gk - 1)
            case measure=>have:=HKN.out;omega
            case rel=>exact⟨k+1,p+(ln:Int),q+(x.s.tx.size:Int),by have:=HKN.out;omega,by go_num,rfl,rfl,HP2.out,by have:=HP3.out;omega,HQ2.out.1,HQ2.out.2,hH ⟨HB3.out,fun j y hj hy=>by
             rcases Nat.lt_or_ge j k with h | h
             · exact HHB.out j y h hy
             · have:j=k:=by omega
               subst this
               rw[HX.out] at hy;cases hy;exact HSZ.out⟩⟩
      · go_wp2_with fail
        go_ret
        exact⟨true,rfl,(fun e=>by cases e),HB1.out⟩
    · have hki:¬(k:Int)<(n:Int):=by omega
      have HE:=hH (show zel vs from⟨by rw[←HN.out];omega,fun x hx=>by
       obtain⟨j,hj,e⟩:=List.mem_iff_getElem.1 hx
       exact hh.out.2 j x (by have:=HN.out;omega) (by rw[List.getElem?_eq_getElem hj,e])⟩)
      have HB:=hH hh.out.1
      clear hh hk hkn
      go_wp2_with fail
      go_ret
      exact⟨false,rfl,fun _=>HE.out,HB.out⟩
end Go.Proofs.YtgkmmnihaiopaaaGreat
namespace Go.Proofs.YtgkmmnihaiopaaaGreat
open Go.RowKit Go.Shelf
theorem zeL {g:Gr}(h:Ye g=false):g.few∧g.kinds.length≤40:=by
 simp only[Ye,Bool.or_eq_false_iff,decide_eq_false_iff_not,List.any_eq_false] at h
 refine⟨⟨by omega,fun k hk=>?_⟩,by omega⟩
 have h1:=h.2 k hk
 simp only[Zz,Bool.or_eq_true,decide_eq_true_eq,List.any_eq_true,not_or,not_exists,not_and] at h1
 refine⟨by omega,by omega,fun s hs=>?_⟩
 have h2:=h1.2 s hs
 simp only[YS,decide_eq_true_eq] at h2
 show s.kinds.length≤1000000
 omega
end Go.Proofs.YtgkmmnihaiopaaaGreat
