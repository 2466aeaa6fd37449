/-
  .
-/
import Derived.Test.YtnikgofkldkdkaaRInsertQt
set_option maxRecDepth 100000
set_option maxHeartbeats 40000000
namespace Go.Proofs.Ytnikgofkldkdkaa
open Go.RowKit Go.Shelf
set_option linter.unusedVariables false
set_option linter.unusedSimpArgs false
def stepG (op id par at_:Int)(tx:ByteArray)(x t:Tr):Tr×Int:=if za t.kids+1≤2000∧za x.kids+1≤2000 then yx op id par at_ tx x t else (zG,2)
theorem zka {id:Int}{t:Tr}{p:List Nat}(hr:t.id≠id)(h:zw id t=some p):∃u i,QZ id t=some (u,i)∧i<foLen u.kids∧za u.kids≤za t.kids∧za (yA u.kids i)≤za t.kids∧qm id t=(kY id (yA u.kids i) t,0):=by
 obtain⟨h0,hf⟩:=zca hr h
 obtain⟨p',i,u,v,e,hu,hv,hid,hpar⟩:=je hf
 subst e
 have hlt:=qd hv
 have hs1:=Yb u.kids i v hv
 have hus:za u.kids≤za t.kids:=by
  have h1:=kC (fun _=>true) p' t u hu
  rw[qh,qh] at h1;omega
 exact⟨u,i,by rw[Qs,hpar];rfl,hlt,hus,by omega,by rw[Zp h hu hv,kY,hpar]⟩
theorem zid {id:Int}{tx:ByteArray}{t z:Tr}{p:List Nat}(h:zw id t=some p)(hz:atT t p=some z):qQ id tx t=((mkT id tx z.kids false t).1,0):=by
 obtain⟨u,hu,_,hmk⟩:=zc2 id tx z.kids h
 rw[hz] at hu;cases hu
 rw[jm h hz,hmk]
theorem Jz {r:Tr×Int}{w W W2:World}{b n vc:Nat}{va:Option Addr}{y:Tr}{er:Int}(hb:Below w.heap.size w W)(hz:W2.heap[b]? =some (.cells #[.int .i64 0,.int .i64 0,.string ⟨#[]⟩,.slice none 0 0] 27 (0,0)))(hb2:w.heap.size≤b)(hbW:b<W.heap.size)(hn:n=foLen y.kids)(hc:foLen y.kids≤vc)(hf:zk W2 (kP W W2) y.kids va)(h2:Below W.heap.size W W2)(h3:er=0→r=(y,0))(h4:er≠0→r.2≠0):
 jQ r w (.returned (.tuple #[.agg #[.int .i64 y.id,.int .i64 y.kind,.string y.text,.slice va n vc],.int .i64 er])) ((((W2.setCell ⟨b,0,none⟩ (.int .i64 y.id)).setCell ⟨b,1,none⟩ (.int .i64 y.kind)).setCell ⟨b,2,none⟩ (.string y.text)).setCell ⟨b,3,none⟩ (.slice va n vc)):=by
 have hs:=zX hz (.int .i64 y.id) (.int .i64 y.kind) (.string y.text) (.slice va n vc)
 have hz2:=(hs.2.1 _ (NlrQ _)).size
 subst hn
 refine⟨y,va,vc,er,rfl,hc,?_,(hb.trans (h2.mono hb.size)).trans (hs.2.1 _ hb2),h3,h4⟩
 have h5:=hb.size
 exact hf.kept fun q hq=>⟨⟨by have:=hq.1;omega,nL hq.2 hz2⟩,hs.2.2 q (by have:=hq.1;omega)⟩
theorem zex (w : World)(S:Nat→Prop)(t x:Tr)(op id par at_:Int)(tx:ByteArray)(ka sa:Option Addr)(len cap sn sc:Nat)(hlen:len=foLen t.kids)(hsn:sn=foLen x.kids)(hd:qR t)(hfl:foLen t.kids≤9223372036854775807)(hfit:vB t.kids)(hxl:foLen x.kids≤9223372036854775807)(hxfit:vB x.kids)(hS:∀q,S q→q<w.heap.size)(hcap:foLen t.kids≤cap)(hk:zk w S t.kids ka)(hscap:foLen x.kids≤sc)(hxk:zk w S x.kids sa)(hop8: -128≤op∧op≤127):
 Calls Try.prog 41 #[.agg #[.int .i64 t.id,.int .i64 t.kind,.string t.text,.slice ka len cap],.agg #[.int .i8 op,.int .i64 id,.int .i64 par,.int .i64 at_,.string tx,.int .i64 x.id,.int .i64 x.kind,.string x.text,.slice sa sn sc]] w (jQ (stepG op id par at_ tx x t) w):=by
 obtain⟨B,hB⟩:∃B,B=zx w [.cells #[.int .i64 t.id,.int .i64 t.kind,.string t.text,.slice ka len cap] 27,.cells #[.int .i8 op,.int .i64 id,.int .i64 par,.int .i64 at_,.string tx,.int .i64 x.id,.int .i64 x.kind,.string x.text,.slice sa sn sc] 49,.cells #[.int .i64 0,.int .i64 0,.string ⟨#[]⟩,.slice none 0 0] 27]:=⟨_,rfl⟩
 have hb:Below w.heap.size w B:=by rw[hB];exact zl _ _
 have e0:B.heap[w.heap.size]? =some (.cells #[.int .i64 t.id,.int .i64 t.kind,.string t.text,.slice ka len cap] 27 (0,0)):=by rw[hB];exact ze _ _ 0 _ rfl
 have e1:B.heap[w.heap.size+1]? =some (.cells #[.int .i8 op,.int .i64 id,.int .i64 par,.int .i64 at_,.string tx,.int .i64 x.id,.int .i64 x.kind,.string x.text,.slice sa sn sc] 49 (0,0)):=by rw[hB];exact ze _ _ 1 _ rfl
 have e2:B.heap[w.heap.size+1+1]? =some (.cells #[.int .i64 0,.int .i64 0,.string ⟨#[]⟩,.slice none 0 0] 27 (0,0)):=by rw[hB];exact ze _ _ 2 _ rfl
 have hT:∀X,Below w.heap.size w X→zK X S (.agg #[.int .i64 t.id,.int .i64 t.kind,.string t.text,.slice ka len cap]) t:=fun X hX=>⟨ka,cap,by rw[hlen],hcap,hk.below hX hS⟩
 have hXT:∀X,Below w.heap.size w X→zK X S (.agg #[.int .i64 x.id,.int .i64 x.kind,.string x.text,.slice sa sn sc]) x:=fun X hX=>⟨sa,sc,by rw[hsn],hscap,hxk.below hX hS⟩
 have HGT:Hid (∀X,Below w.heap.size w X→Calls Try.prog 58 #[.agg #[.int .i64 t.id,.int .i64 t.kind,.string t.text,.slice ka len cap]] X fun e w2=>e= .returned (.bool (decide (¬za t.kids+1≤2000)))∧Below X.heap.size X w2):=hH fun X hX=>Je X S _ t hfl hfit (fun q hq=>nL (hS q hq) hX.size) (hT X hX)
 have HGX:Hid (∀X,Below w.heap.size w X→Calls Try.prog 58 #[.agg #[.int .i64 x.id,.int .i64 x.kind,.string x.text,.slice sa sn sc]] X fun e w2=>e= .returned (.bool (decide (¬za x.kids+1≤2000)))∧Below X.heap.size X w2):=hH fun X hX=>Je X S _ x hxl hxfit (fun q hq=>nL (hS q hq) hX.size) (hXT X hX)
 have HT:=hH (aN hT (aN hS (aN hlen (aN hsn (aN hcap (aN hscap hd))))))
 have HKK:Hid (∀X,Below w.heap.size w X→zk X S t.kids ka∧zk X S x.kids sa):=hH fun X hX=>⟨hk.below hX hS,hxk.below hX hS⟩
 have HB:=hH (aN hb (aN e0 (aN e1 e2)))
 have hSX:Hid (∀X,Below w.heap.size w X→∀q,S q→q<X.heap.size):=hH fun X hX q hq=>nL (hS q hq) hX.size
 have HBE:=hH hB
 have HOP:=hH hop8
 obtain⟨bt,hbt⟩:∃bt,bt=decide (¬za t.kids+1≤2000):=⟨_,rfl⟩
 obtain⟨bx,hbx⟩:∃bx,bx=decide (¬za x.kids+1≤2000):=⟨_,rfl⟩
 rw[←hbt] at HGT
 rw[←hbx] at HGX
 have HBT:=hH (aN hbt hbx)
 obtain⟨p0,p1,p2,p3⟩:=zF e0
 clear hb e0 e1 e2 hT hXT hS hlen hsn hcap hscap hk hxk hB hd hfl hfit hxl hxfit hop8 hbt hbx
 go_enter Try.func41,Try.ntmps41
 go_upto_region 1 with fail
 change Code.wp _ _ _ _ (zx w [.cells #[.int .i64 t.id,.int .i64 t.kind,.string t.text,.slice ka len cap] 27,.cells #[.int .i8 op,.int .i64 id,.int .i64 par,.int .i64 at_,.string tx,.int .i64 x.id,.int .i64 x.kind,.string x.text,.slice sa sn sc] 49,.cells #[.int .i64 0,.int .i64 0,.string ⟨#[]⟩,.slice none 0 0] 27])
 rw[←HBE.out]
 clear HBE
 go_wp2_with fail
 refine (HGT.out B HB.out.1).mono ?_
 rintro e w1 ⟨rfl,hb1⟩
 have hbw:=HB.out.1.trans (hb1.mono HB.out.1.size)
 have f0:=(hb1.block _ (lohQ HB.out.2.1)).trans HB.out.2.1
 have f1:=(hb1.block _ (lohQ HB.out.2.2.1)).trans HB.out.2.2.1
 have f2:=(hb1.block _ (lohQ HB.out.2.2.2)).trans HB.out.2.2.2
 have H1:=hH (aN hbw (aN f0 (aN f1 f2)))
 clear hbw f0 f1 f2 hb1
 clear p0 p1 p2 p3 HB HGT
 cases bt with
 | true=>
   have hb3:=H1.out.1
   have f2:=H1.out.2.2.2
   obtain⟨z0,z1,z2,z3⟩:=zF f2
   have gz:∀j,w1.frozen? ⟨w.heap.size+1+1,j,none⟩=false:=fun j=>forQ _ _ j _ _ f2
   have HZ:=hH (zX f2 (.int .i64 0) (.int .i64 0) (.string ⟨#[]⟩) (.slice none 0 0))
   have HEE:=hH (yZ (r:=stepG op id par at_ tx x t) (er:=2) hb3 f2 om ue9 (by unfold stepG;rw[inQ (fun h=>by have:=of_decide_eq_true HBT.out.1.symm;exact this h.1)];show (2:Int)≠0;decide))
   exact sb6
 | false =>
   have hs:=H1.out.2.2.1
   obtain⟨t5,t6,t7,t8⟩:w1.cell? ⟨w.heap.size+1,5,none⟩=some (.int .i64 x.id)∧w1.cell? ⟨w.heap.size+1,6,none⟩=some (.int .i64 x.kind)∧w1.cell? ⟨w.heap.size+1,7,none⟩=some (.string x.text)∧w1.cell? ⟨w.heap.size+1,8,none⟩=some (.slice sa sn sc):=⟨by rw[corQ _ _ 5 _ _ _ hs];rfl,by rw[corQ _ _ 6 _ _ _ hs];rfl,by rw[corQ _ _ 7 _ _ _ hs];rfl,by rw[corQ _ _ 8 _ _ _ hs];rfl⟩
   clear hs
   go_wp2_with fail
   refine (HGX.out w1 H1.out.1).mono ?_
   rintro e w2 ⟨rfl,hb2⟩
   have hbw:=H1.out.1.trans (hb2.mono H1.out.1.size)
   have f0:=(hb2.block _ (lohQ H1.out.2.1)).trans H1.out.2.1
   have f1:=(hb2.block _ (lohQ H1.out.2.2.1)).trans H1.out.2.2.1
   have f2:=(hb2.block _ (lohQ H1.out.2.2.2)).trans H1.out.2.2.2
   have H2:=hH (aN hbw (aN f0 (aN f1 f2)))
   clear hbw f0 f1 f2 hb2
   clear t5 t6 t7 t8 H1 HGX
   cases bx with
   | true=>
     have hb3:=H2.out.1
     have f2:=H2.out.2.2.2
     obtain⟨z0,z1,z2,z3⟩:=zF f2
     have gz:∀j,w2.frozen? ⟨w.heap.size+1+1,j,none⟩=false:=fun j=>forQ _ _ j _ _ f2
     have HZ:=hH (zX f2 (.int .i64 0) (.int .i64 0) (.string ⟨#[]⟩) (.slice none 0 0))
     have HEE:=hH (yZ (r:=stepG op id par at_ tx x t) (er:=2) hb3 f2 om ue9 (by unfold stepG;rw[inQ (fun h=>by have:=of_decide_eq_true HBT.out.2.symm;exact this h.2)];show (2:Int)≠0;decide))
     exact sb6
   | false =>
     have HSZ:=hH (aN (Decidable.not_not.1 (of_decide_eq_false HBT.out.1.symm)) (Decidable.not_not.1 (of_decide_eq_false HBT.out.2.symm)))
     have HG:Hid (stepG op id par at_ tx x t=yx op id par at_ tx x t):=hH (by unfold stepG;rw[ipQ HSZ.out])
     clear HBT
     have hs:=H2.out.2.2.1
     obtain⟨s0,s1,s2,s3,s4⟩:w2.cell? ⟨w.heap.size+1,0,none⟩=some (.int .i8 op)∧w2.cell? ⟨w.heap.size+1,1,none⟩=some (.int .i64 id)∧w2.cell? ⟨w.heap.size+1,2,none⟩=some (.int .i64 par)∧w2.cell? ⟨w.heap.size+1,3,none⟩=some (.int .i64 at_)∧w2.cell? ⟨w.heap.size+1,4,none⟩=some (.string tx):=⟨by rw[corQ _ _ 0 _ _ _ hs];rfl,by rw[corQ _ _ 1 _ _ _ hs];rfl,by rw[corQ _ _ 2 _ _ _ hs];rfl,by rw[corQ _ _ 3 _ _ _ hs];rfl,by rw[corQ _ _ 4 _ _ _ hs];rfl⟩
     obtain⟨t5,t6,t7,t8⟩:w2.cell? ⟨w.heap.size+1,5,none⟩=some (.int .i64 x.id)∧w2.cell? ⟨w.heap.size+1,6,none⟩=some (.int .i64 x.kind)∧w2.cell? ⟨w.heap.size+1,7,none⟩=some (.string x.text)∧w2.cell? ⟨w.heap.size+1,8,none⟩=some (.slice sa sn sc):=⟨by rw[corQ _ _ 5 _ _ _ hs];rfl,by rw[corQ _ _ 6 _ _ _ hs];rfl,by rw[corQ _ _ 7 _ _ _ hs];rfl,by rw[corQ _ _ 8 _ _ _ hs];rfl⟩
     obtain⟨p0,p1,p2,p3⟩:=zF H2.out.2.1
     clear hs
     by_cases ho1:op=1
     · have hob:(op == 1)=true:=by simpa using ho1
       have HO:=hH ho1
       clear ho1
       have HCALL:=hH (zdn w2 S t x op id par at_ tx ka sa len cap sn sc HT.out.2.2.1 HT.out.2.2.2.1 HSZ.out.1 HSZ.out.2 (hSX.out w2 H2.out.1) HT.out.2.2.2.2.1 (HKK.out w2 H2.out.1).1 HT.out.2.2.2.2.2.1 (HKK.out w2 H2.out.1).2)
       go_wp2_with fail
       refine HCALL.out.mono ?_
       rintro e w3 ⟨y,va,vc,er,rfl,hyc,hyf,hb3,he1,he2⟩
       clear s0 s1 s2 s3 s4 t5 t6 t7 t8 p0 p1 p2 p3
       obtain⟨yn,hyn⟩:∃yn,yn=foLen y.kids:=⟨_,rfl⟩
       rw[←hyn]
       have hz:=(hb3.block _ (lohQ H2.out.2.2.2)).trans H2.out.2.2.2
       have HEE:=hH (Jz (r:=stepG op id par at_ tx x t) H2.out.1 hz (show w.heap.size≤w.heap.size+1+1 by omega) (lohQ H2.out.2.2.2) hyn hyc hyf hb3 (fun h=>by rw[HG.out,show yx op id par at_ tx x t=zN par at_ x t by unfold yx;rw[ipQ HO.out]];exact he1 h) (fun h=>by rw[HG.out,show yx op id par at_ tx x t=zN par at_ x t by unfold yx;rw[ipQ HO.out]];exact he2 h))
       exact sc8
     · have hob : (op == 1)=false:=by simpa using ho1
       have HO1:=hH ho1
       clear ho1
       by_cases ho3:op=3
       · have hob3:(op == 3)=true:=by simpa using ho3
         have HO:=hH ho3
         clear ho3
         have HCALL:=hH (zgh w2 S t op id par at_ x.id x.kind tx x.text ka sa len cap sn sc HT.out.2.2.1 HT.out.2.2.2.2.2.2 HSZ.out.1 (hSX.out w2 H2.out.1) HT.out.2.2.2.2.1 (HKK.out w2 H2.out.1).1)
         go_wp2_with fail
         refine HCALL.out.mono ?_
         rintro e w3 ⟨y,va,vc,er,rfl,hyc,hyf,hb3,he1,he2⟩
         clear s0 s1 s2 s3 s4 t5 t6 t7 t8 p0 p1 p2 p3
         obtain⟨yn,hyn⟩:∃yn,yn=foLen y.kids:=⟨_,rfl⟩
         rw[←hyn]
         have hz:=(hb3.block _ (lohQ H2.out.2.2.2)).trans H2.out.2.2.2
         have HEE:=hH (Jz (r:=stepG op id par at_ tx x t) H2.out.1 hz (show w.heap.size≤w.heap.size+1+1 by omega) (lohQ H2.out.2.2.2) hyn hyc hyf hb3 (fun h=>by rw[HG.out,show yx op id par at_ tx x t=yI id par at_ t by unfold yx;rw[inQ HO1.out,inQ (by rw[HO.out];decide),ipQ HO.out]];exact he1 h) (fun h=>by rw[HG.out,show yx op id par at_ tx x t=yI id par at_ t by unfold yx;rw[inQ HO1.out,inQ (by rw[HO.out];decide),ipQ HO.out]];exact he2 h))
         exact sc8
       · have hob3 :(op == 3)=false:=by simpa using ho3
         have HO3:=hH ho3
         clear ho3
         by_cases ho:op≠2∧op≠4
         · have hob2:(op == 2)=false:=by simpa using ho.1
           have hob2n:(op != 2)=true:=by simpa using ho.1
           have hob4:(op == 4)=false:=by simpa using ho.2
           have hob4n:(op != 4)=true:=by simpa using ho.2
           have HO:=hH ho
           clear ho
           have hb3:=H2.out.1
           have f2:=H2.out.2.2.2
           obtain⟨z0,z1,z2,z3⟩:=zF f2
           have gz:∀j,w2.frozen? ⟨w.heap.size+1+1,j,none⟩=false:=fun j=>forQ _ _ j _ _ f2
           have HZ:=hH (zX f2 (.int .i64 0) (.int .i64 0) (.string ⟨#[]⟩) (.slice none 0 0))
           have HEE:=hH (yZ (r:=stepG op id par at_ tx x t) (er:=2) hb3 f2 om ue9 (by rw[HG.out];unfold yx;rw[inQ HO1.out,inQ HO.out.1,inQ HO3.out,inQ HO.out.2];show (2:Int)≠0;decide))
           exact sb6
         · have HF :=hH (vJ w2 S (.agg #[.int .i64 t.id,.int .i64 t.kind,.string t.text,.slice ka len cap]) t id HSZ.out.1 (hSX.out w2 H2.out.1) (HT.out.1 w2 H2.out.1))
           by_cases ho2:op=2
           · have hob2:(op == 2)=true:=by simpa using ho2
             have hob2n:(op != 2)=false:=by simpa using ho2
             have hob4:(op == 4)=false:=by rw[ho2];decide
             have hob4n:(op != 4)=true:=by rw[ho2];decide
             have HO:=hH ho2
             clear ho2 ho
             go_wp2_with fail
             refine HF.out.mono ?_
             rintro e w3 ⟨z,va,vc,ok,rfl,hvc,hvf,hb3,hy,hn⟩
             clear s0 s1 s2 s3 s4 t5 t6 t7 t8 p0 p1 p2 p3
             obtain⟨zn,hzn⟩:∃zn,zn=foLen z.kids:=⟨_,rfl⟩
             rw[←hzn]
             obtain⟨W3,hW3⟩:∃W3,W3=w3.alloc (.cells #[.int .i64 z.id,.int .i64 z.kind,.string z.text,.slice va zn vc] 27):=⟨_,rfl⟩
             have hb4:Below w2.heap.size w2 W3:=hb3.trans (by rw[hW3];exact (BrQ _ _).alloc hb3.size _)
             have eG:W3.heap[w3.heap.size]? =some (.cells #[.int .i64 z.id,.int .i64 z.kind,.string z.text,.slice va zn vc] 27 (0,0)):=by rw[hW3];exact hanQ _ _
             have hvf3:zk W3 S z.kids va:=hvf.kept fun q hq=>⟨hq,by rw[hW3];exact BhaQ _ _ _ (nL (hSX.out w2 H2.out.1 q hq) hb3.size)⟩
             obtain⟨G,hG⟩:∃G,G=w3.heap.size:=⟨_,rfl⟩
             rw[←hG] at eG
             have HW3:=hH hW3
             have HG3:=hH (aN eG (aN hvf3 (aN hvc hzn)))
             have HY:=hH (aN hy hn)
             have hbw:=H2.out.1.trans (hb4.mono H2.out.1.size)
             have f0:=(hb4.block _ (lohQ H2.out.2.1)).trans H2.out.2.1
             have f1:=(hb4.block _ (lohQ H2.out.2.2.1)).trans H2.out.2.2.1
             have f2:=(hb4.block _ (lohQ H2.out.2.2.2)).trans H2.out.2.2.2
             have H3:=hH (aN hbw (aN f0 (aN f1 f2)))
             clear hbw f0 f1 f2 hb4
             clear hb3 hW3 eG hvf hvf3 hvc hzn hy hn H2
             go_upto_region 10 with fail
             change Code.wp _ _ _ _ (w3.alloc (.cells #[.int .i64 z.id,.int .i64 z.kind,.string z.text,.slice va zn vc] 27))
             rw[←HW3.out,←hG]
             clear HW3 hG
             cases ok with
             | false=>
               have hb3:=H3.out.1
               have f2:=H3.out.2.2.2
               obtain⟨z0,z1,z2,z3⟩:=zF f2
               have gz:∀j,W3.frozen? ⟨w.heap.size+1+1,j,none⟩=false:=fun j=>forQ _ _ j _ _ f2
               have HZ:=hH (zX f2 (.int .i64 0) (.int .i64 0) (.string ⟨#[]⟩) (.slice none 0 0))
               have HEE:=hH (yZ (r:=stepG op id par at_ tx x t) (er:=4) hb3 f2 om ue9 (by rw[HG.out,show yx op id par at_ tx x t=qm id t by unfold yx;rw[inQ HO1.out,ipQ HO.out],Zq (HY.out.2 rfl)];show (4:Int)≠0;decide))
               exact sc2
             | true=>
               obtain⟨pp,hp,hz⟩:=HY.out.1 rfl
               have HP:=hH (aN hp hz)
               clear hp hz HY
               have hs:=H3.out.2.2.1
               obtain⟨s0,s1,s4⟩:W3.cell? ⟨w.heap.size+1,0,none⟩=some (.int .i8 op)∧W3.cell? ⟨w.heap.size+1,1,none⟩=some (.int .i64 id)∧W3.cell? ⟨w.heap.size+1,4,none⟩=some (.string tx):=⟨by rw[corQ _ _ 0 _ _ _ hs];rfl,by rw[corQ _ _ 1 _ _ _ hs];rfl,by rw[corQ _ _ 4 _ _ _ hs];rfl⟩
               obtain⟨p0,p1,p2,p3⟩:=zF H3.out.2.1
               obtain⟨g0,g1,g2,g3⟩:=zF HG3.out.1
               clear hs
               by_cases hr:t.id=id
               · have hrb:(t.id == id)=true:=by simpa using hr
                 have HRI:=hH hr
                 clear hr
                 have hb3:=H3.out.1
                 have f2:=H3.out.2.2.2
                 obtain⟨z0,z1,z2,z3⟩:=zF f2
                 have gz:∀j,W3.frozen? ⟨w.heap.size+1+1,j,none⟩=false:=fun j=>forQ _ _ j _ _ f2
                 have HZ:=hH (zX f2 (.int .i64 0) (.int .i64 0) (.string ⟨#[]⟩) (.slice none 0 0))
                 have HEE:=hH (yZ (r:=stepG op id par at_ tx x t) (er:=90) hb3 f2 om ue9 (by rw[HG.out,show yx op id par at_ tx x t=qm id t by unfold yx;rw[inQ HO1.out,ipQ HO.out],Zr (show zw id t=some [] by rw[zw,ipQ HRI.out])];show (90:Int)≠0;decide))
                 exact sf9
               · have hrb:(t.id == id)=false:=by simpa using hr
                 obtain⟨u,k,hpar,hlt,hus,hds,hgo⟩:=zka hr HP.out.1
                 clear hr
                 obtain⟨r,hr⟩:∃r,r=kY id (yA u.kids k) t:=⟨_,rfl⟩
                 have hcall:=Qy W3 S (.agg #[.int .i64 t.id,.int .i64 t.kind,.string t.text,.slice ka len cap]) t u id k hpar hlt hus (by have:=HSZ.out.1;omega) (by have:=HSZ.out.1;omega) (hSX.out W3 H3.out.1) (HT.out.1 W3 H3.out.1)
                 rw[←hr] at hcall
                 have HCALL:=hH hcall
                 have HR:=hH (show stepG op id par at_ tx x t=(r,0) by rw[HG.out,show yx op id par at_ tx x t=qm id t by unfold yx;rw[inQ HO1.out,ipQ HO.out],hr];exact hgo)
                 clear hcall hr hpar hlt hus hds hgo
                 exact sb9
           · have ho4:op=4:=Classical.byContradiction fun h=>ho ⟨ho2,h⟩
             have hob2:(op == 2)=false:=by rw[ho4];decide
             have hob2n:(op != 2)=true:=by rw[ho4];decide
             have hob4:(op == 4)=true:=by rw[ho4];decide
             have hob4n:(op != 4)=false:=by rw[ho4];decide
             have HO:=hH ho4
             clear ho4 ho2 ho
             go_wp2_with fail
             refine HF.out.mono ?_
             rintro e w3 ⟨z,va,vc,ok,rfl,hvc,hvf,hb3,hy,hn⟩
             clear s0 s1 s2 s3 s4 t5 t6 t7 t8 p0 p1 p2 p3
             obtain⟨zn,hzn⟩:∃zn,zn=foLen z.kids:=⟨_,rfl⟩
             rw[←hzn]
             obtain⟨W3,hW3⟩:∃W3,W3=w3.alloc (.cells #[.int .i64 z.id,.int .i64 z.kind,.string z.text,.slice va zn vc] 27):=⟨_,rfl⟩
             have hb4:Below w2.heap.size w2 W3:=hb3.trans (by rw[hW3];exact (BrQ _ _).alloc hb3.size _)
             have eG:W3.heap[w3.heap.size]? =some (.cells #[.int .i64 z.id,.int .i64 z.kind,.string z.text,.slice va zn vc] 27 (0,0)):=by rw[hW3];exact hanQ _ _
             have hvf3:zk W3 S z.kids va:=hvf.kept fun q hq=>⟨hq,by rw[hW3];exact BhaQ _ _ _ (nL (hSX.out w2 H2.out.1 q hq) hb3.size)⟩
             obtain⟨G,hG⟩:∃G,G=w3.heap.size:=⟨_,rfl⟩
             rw[←hG] at eG
             have HW3:=hH hW3
             have HG3:=hH (aN eG (aN hvf3 (aN hvc hzn)))
             have HY:=hH (aN hy hn)
             have hbw:=H2.out.1.trans (hb4.mono H2.out.1.size)
             have f0:=(hb4.block _ (lohQ H2.out.2.1)).trans H2.out.2.1
             have f1:=(hb4.block _ (lohQ H2.out.2.2.1)).trans H2.out.2.2.1
             have f2:=(hb4.block _ (lohQ H2.out.2.2.2)).trans H2.out.2.2.2
             have H3:=hH (aN hbw (aN f0 (aN f1 f2)))
             clear hbw f0 f1 f2 hb4
             clear hb3 hW3 eG hvf hvf3 hvc hzn hy hn H2
             go_upto_region 10 with fail
             change Code.wp _ _ _ _ (w3.alloc (.cells #[.int .i64 z.id,.int .i64 z.kind,.string z.text,.slice va zn vc] 27))
             rw[←HW3.out,←hG]
             clear HW3 hG
             cases ok with
             | false=>
               have hb3:=H3.out.1
               have f2:=H3.out.2.2.2
               obtain⟨z0,z1,z2,z3⟩:=zF f2
               have gz:∀j,W3.frozen? ⟨w.heap.size+1+1,j,none⟩=false:=fun j=>forQ _ _ j _ _ f2
               have HZ:=hH (zX f2 (.int .i64 0) (.int .i64 0) (.string ⟨#[]⟩) (.slice none 0 0))
               have HEE:=hH (yZ (r:=stepG op id par at_ tx x t) (er:=4) hb3 f2 om ue9 (by rw[HG.out,show yx op id par at_ tx x t=qQ id tx t by unfold yx;rw[inQ HO1.out,inQ (by rw[HO.out];decide),inQ HO3.out,ipQ HO.out],kH (HY.out.2 rfl)];show (4:Int)≠0;decide))
               exact sc2
             | true=>
               obtain⟨pp,hp,hz⟩:=HY.out.1 rfl
               have HP:=hH (aN hp hz)
               clear hp hz HY
               have hs:=H3.out.2.2.1
               obtain⟨s0,s1,s4⟩:W3.cell? ⟨w.heap.size+1,0,none⟩=some (.int .i8 op)∧W3.cell? ⟨w.heap.size+1,1,none⟩=some (.int .i64 id)∧W3.cell? ⟨w.heap.size+1,4,none⟩=some (.string tx):=⟨by rw[corQ _ _ 0 _ _ _ hs];rfl,by rw[corQ _ _ 1 _ _ _ hs];rfl,by rw[corQ _ _ 4 _ _ _ hs];rfl⟩
               obtain⟨p0,p1,p2,p3⟩:=zF H3.out.2.1
               obtain⟨g0,g1,g2,g3⟩:=zF HG3.out.1
               clear hs
               have hzs:za z.kids≤400000:=by have h2:=kC (fun _=>true) pp t z HP.out.2;rw[qh,qh] at h2;have h3:=HSZ.out.1;omega
               obtain⟨r,hr⟩:∃r,r=(mkT id tx z.kids false t).1:=⟨_,rfl⟩
               have hcall:=Q5 W3 S id tx z.kids va zn vc (.agg #[.int .i64 t.id,.int .i64 t.kind,.string t.text,.slice ka len cap]) t HG3.out.2.2.2 hzs (by rw[HG3.out.2.2.2];exact HG3.out.2.2.1) (by have:=HSZ.out.1;omega) (hSX.out W3 H3.out.1) HG3.out.2.1 (HT.out.1 W3 H3.out.1)
               rw[←hr] at hcall
               have HCALL:=hH hcall
               have HR:=hH (show stepG op id par at_ tx x t=(r,0) by rw[HG.out,show yx op id par at_ tx x t=qQ id tx t by unfold yx;rw[inQ HO1.out,inQ (by rw[HO.out];decide),inQ HO3.out,ipQ HO.out],hr];exact zid HP.out.1 HP.out.2)
               clear hcall hr hzs
               exact sb9
end Go.Proofs.Ytnikgofkldkdkaa
