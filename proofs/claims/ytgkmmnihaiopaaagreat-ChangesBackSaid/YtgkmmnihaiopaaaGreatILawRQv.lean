/-
  .
-/
import Derived.Test.YtgkmmnihaiopaaaGreatIInv4Qv
import Derived.Test.YtgkmmnihaiopaaaGreatRInsertQv
import Derived.Test.YtgkmmnihaiopaaaGreatKDoQv
set_option maxRecDepth 100000
set_option maxHeartbeats 40000000
set_option linter.unusedVariables false
set_option linter.unusedSimpArgs false
namespace Go.Proofs.YtgkmmnihaiopaaaGreat
open Go.RowKit Go.Shelf
theorem zh0 (w:World)(S Sx:Nat→Prop)(nv:Value)(t x:Tr)(id par at_:Int)(tx:ByteArray)(sa:Option Addr)(sn sc:Nat)(hS:∀y,S y→y<w.heap.size)(hSx:∀y,Sx y→y<w.heap.size)(ht:zG w S nv t)(hx:zG w Sx (.agg #[.int .i64 x.id,.int .i64 x.kind,.string x.text,.slice sa sn sc]) x)(hsz:zb t.kids+1≤2000)(hxz:zb x.kids+1≤2000)(hok:∀i∈idT t,(Lit.int .i64 i).wf=true)(hxk:∀i∈idT x,(Lit.int .i64 i).wf=true)(h0:(zK 2 id par at_ tx x t).2=0):
 Calls Tryz.prog 49 #[nv,.agg #[.int .i8 2,.int .i64 id,.int .i64 par,.int .i64 at_,.string tx,.int .i64 x.id,.int .i64 x.kind,.string x.text,.slice sa sn sc]] w (JD w (fun y=>S y∨Sx y) 0 (invK 2 id x t)):=by
 obtain⟨ka,tc,rfl,hcap,hk⟩:=ht
 obtain⟨nk,hnk⟩:∃nk,nk=foLen t.kids:=⟨_,rfl⟩
 rw[←hnk]
 obtain⟨B,hB⟩:∃B,B=zl w [.cells #[.int .i64 t.id,.int .i64 t.kind,.string t.text,.slice ka nk tc] 27,.cells #[.int .i8 2,.int .i64 id,.int .i64 par,.int .i64 at_,.string tx,.int .i64 x.id,.int .i64 x.kind,.string x.text,.slice sa sn sc] 44,.cells #[.int .i8 0,.int .i64 0,.int .i64 0,.int .i64 0,.string ⟨#[]⟩,.int .i64 0,.int .i64 0,.string ⟨#[]⟩,.slice none 0 0] 44]:=⟨_,rfl⟩
 have hb:Below w.heap.size w B:=by rw[hB];exact zi _ _
 have hs:B.heap.size=w.heap.size+3:=by rw[hB];exact zw _ _
 have ht0:B.heap[w.heap.size]? =some (.cells #[.int .i64 t.id,.int .i64 t.kind,.string t.text,.slice ka nk tc] 27 (0,0)):=by rw[hB];exact ze _ _ 0 _ rfl
 have hs0:B.heap[w.heap.size+1]? =some (.cells #[.int .i8 2,.int .i64 id,.int .i64 par,.int .i64 at_,.string tx,.int .i64 x.id,.int .i64 x.kind,.string x.text,.slice sa sn sc] 44 (0,0)):=by rw[hB];exact ze _ _ 1 _ rfl
 have hr0:B.heap[w.heap.size+1+1]? =some (.cells #[.int .i8 0,.int .i64 0,.int .i64 0,.int .i64 0,.string ⟨#[]⟩,.int .i64 0,.int .i64 0,.string ⟨#[]⟩,.slice none 0 0] 44 (0,0)):=by rw[hB];exact ze _ _ 2 _ rfl
 have htr:∀X,(∀y,y<w.heap.size→X.heap[y]? =w.heap[y]?)→zG X S (.agg #[.int .i64 t.id,.int .i64 t.kind,.string t.text,.slice ka nk tc]) t:=fun X hX=>⟨ka,tc,by rw[hnk],by rw[hnk] at*;exact hcap,hk.kept fun y hy=>⟨hy,hX y (hS y hy)⟩⟩
 have hap:=jh B S Sx (.agg #[.int .i64 t.id,.int .i64 t.kind,.string t.text,.slice ka nk tc]) t x 2 id par at_ tx sa sn sc (fun y hy=>nL (hS y hy) hb.size) (fun y hy=>nL (hSx y hy) hb.size) (htr B hb.block) (hx.kept fun y hy=>⟨hy,hb.block y (hSx y hy)⟩) hsz hxz ug7 hok hxk
 obtain⟨y,hy⟩:∃y,y=zV (zK 2 id par at_ tx x t):=⟨_,rfl⟩
 unfold qI at hap
 rw[h0,←hy] at hap
 obtain⟨s,hss⟩:∃s,s=invK 2 id x t:=⟨_,rfl⟩
 rw[←hss]
 obtain⟨wr,hwr⟩:∃wr,wr=yl id t:=⟨_,rfl⟩
 have hwz:=Yo id t
 have hlit:s=⟨1,0,wr.2.1,wr.2.2,⟨#[]⟩,wr.1⟩:=by rw[hss,hwr];unfold invK;rw[inQ ug7,ipQ rfl]
 have HLIT:=hH hlit
 rw[←hwr] at hwz
 obtain⟨u,pr,pl⟩:=wr
 simp only at hwz
 have HWZ:=hH (show zb u.kids≤100000 by omega)
 clear hlit
 have hfn:∀X,w.heap.size≤X.heap.size→(∀y,y<w.heap.size→X.heap[y]? =w.heap[y]?)→Calls Tryz.prog 86 #[.agg #[.int .i64 t.id,.int .i64 t.kind,.string t.text,.slice ka nk tc],.agg #[.int .i8 2,.int .i64 id,.int .i64 par,.int .i64 at_,.string tx,.int .i64 x.id,.int .i64 x.kind,.string x.text,.slice sa sn sc]] X (qQ X S ⟨1,0,pr,pl,⟨#[]⟩,u⟩):=fun X hX1 hX=>by
  have h:=zdM X S (.agg #[.int .i64 t.id,.int .i64 t.kind,.string t.text,.slice ka nk tc]) t 2 id par at_ x.id x.kind tx x.text sa sn sc (fun y hy=>nL (hS y hy) hX1) (htr X hX) om
  rw[←hwr] at h;exact h
 have HFN:=hH hfn
 have HSW:=hH hS
 obtain⟨b0,b1,b2,b3⟩:=zD ht0
 obtain⟨m0,m1,m2,m3,m4,m5,m6,m7,m8⟩:=yL hs0
 have HAP:=hH hap
 have HB:=hH (aN hb (aN hs (aN ht0 (aN hs0 hr0))))
 have HBE:=hH hB
 clear hap hb hs ht0 hs0 hr0 hB hnk hcap hk hS hSx hsz hxz hok hxk hx htr hy hss hfn h0 hwr
 go_enter Tryz.func49,Tryz.ntmps49
 go_upto_region 1 with fail
 change Code.wp _ _ _ _ (zl w [.cells #[.int .i64 t.id,.int .i64 t.kind,.string t.text,.slice ka nk tc] 27,.cells #[.int .i8 2,.int .i64 id,.int .i64 par,.int .i64 at_,.string tx,.int .i64 x.id,.int .i64 x.kind,.string x.text,.slice sa sn sc] 44,.cells #[.int .i8 0,.int .i64 0,.int .i64 0,.int .i64 0,.string ⟨#[]⟩,.int .i64 0,.int .i64 0,.string ⟨#[]⟩,.slice none 0 0] 44])
 rw[←HBE.out]
 clear HBE
 go_wp2_with fail
 refine HAP.out.mono ?_
 rintro e W ⟨_,rfl,⟨yb,yc,rfl,_,_⟩,hbW⟩
 obtain⟨yn,hyn⟩:∃yn,yn=foLen y.kids:=⟨_,rfl⟩
 rw[←hyn]
 clear hyn
 obtain⟨U,hU⟩:∃U,U=W.alloc (.cells #[.int .i64 y.id,.int .i64 y.kind,.string y.text,.slice yb yn yc] 27):=⟨_,rfl⟩
 have hbU:Below W.heap.size W U:=by rw[hU];exact zg _ _
 have hbB:Below B.heap.size B U:=hbW.trans (hbU.mono hbW.size)
 have ht1:=(hbB.block _ (lohQ HB.out.2.2.1)).trans HB.out.2.2.1
 have hs1:=(hbB.block _ (lohQ HB.out.2.2.2.1)).trans HB.out.2.2.2.1
 have hr1:=(hbB.block _ (lohQ HB.out.2.2.2.2)).trans HB.out.2.2.2.2
 have hUs:w.heap.size+3≤U.heap.size:=by have:=HB.out.2.1;have:=hbB.size;omega
 have hbw:Below w.heap.size w U:=HB.out.1.trans (hbB.mono HB.out.1.size)
 have HU:=hH hU
 have HT:=hH (aN ht1 (aN hs1 (aN hr1 (aN hUs hbw))))
 clear hbW hU hbU hbB ht1 hs1 hr1 hUs hbw b0 b1 b2 b3 m0 m1 m2 m3 m4 m5 m6 m7 m8
 go_upto_region 2 with fail
 rw[←HU.out]
 go_upto_region 4 with fail
 refine wrhQ (S:=fun X=>Tc U X (w.heap.size+1+1)) kr1 (Tc.of (below_drewN (BrQ _ U) 1)) (fun eH=>?_)
 refine tG (i:=1) (.pointer (some ⟨w.heap.size+1,0,none⟩)) rfl ?_
 simp only[Act.put,pg]
 refine tJ (i:=2) (.int .i8 2) rfl ?_ ?_
 · exact ua6
 simp only[Act.put,pg]
 refine tJ (i:=4) (.agg #[.int .i64 t.id,.int .i64 t.kind,.string t.text,.slice ka nk tc]) rfl ?_ ?_
 · exact ua7
 simp only[Act.put,pg]
 refine tJ (i:=5) (.agg #[.int .i8 2,.int .i64 id,.int .i64 par,.int .i64 at_,.string tx,.int .i64 x.id,.int .i64 x.kind,.string x.text,.slice sa sn sc]) rfl ?_ ?_
 · exact ua6
 simp only[Act.put,pg]
 refine rd [0] ?_
 refine AcQ (o:=_) rfl (fun K hK=>?_) AnQ
 rw[ipQ ug8]
 simp only[pg3]
 have HK:=hH hK
 have HS:=hH eH
 clear hK eH
 have HZ:Hid (U.drew.heap[w.heap.size+1+1]? =some (.cells #[.int .i8 0,.int .i64 0,.int .i64 0,.int .i64 0,.string ⟨#[]⟩,.int .i64 0,.int .i64 0,.string ⟨#[]⟩,.slice none 0 0] 44 (0,0))):=hH HT.out.2.2.1
 go_wp2_with (go_at_call 70;refine (jQ _).mono ?_;rintro e w5 ⟨rfl,hb5⟩;have HZ5:=hH ((hb5.block _ (lohQ HZ.out)).trans HZ.out);have HS5:=hH (HS.out.then hb5);clear hb5;unfold invV)
 refine HK.out _ _ HS5.out (fun eH=>?_)
 clear HK HS HZ
 refine tJ (i:=3) (.func (.func 86) #[] #[]) rfl ?_ ?_
 · clear eH;intro X hSw;have hix:=zeO X;clear hSw;go_simp
 simp only[Act.put,pg]
 refine rd [6] ?_
 refine AcQ (o:=_) rfl (fun K hK=>?_) AnQ
 rw[ipQ ug8]
 simp only[pg3]
 have HK:=hH hK
 have HS:=hH eH
 clear hK eH
 go_wp2_with (go_at_call 86;refine (HFN.out _ (NltQ HT.out.2.2.2.2.size HS.out.size) (fun y hy=>(HS.out.block y ue1 om).trans (HT.out.2.2.2.2.block y hy))).mono ?_;rintro e w6 ⟨_,rfl,⟨ma,mc,rfl,hmc,hmk⟩,hb6⟩;have HZ6:=hH ((hb6.block _ (lohQ HZ5.out)).trans HZ5.out);have HS6:=hH (HS.out.then hb6);have HM:=hH (aN hmc (aN hmk (show w.heap.size+3≤w5.heap.size from NltQ HT.out.2.2.2.1 HS.out.size)));clear hmc hmk hb6)
 refine HK.out _ _ HS6.out (fun eH=>?_)
 clear HK HS HS5 HZ5
 refine rd [7] ?_
 refine AcQ (o:=_) rfl (fun K hK=>?_) AnQ
 rw[ipQ ug8]
 simp only[pg3]
 have HK:=hH hK
 have HS:=hH eH
 clear hK eH
 have hpl:Calls Tryz.prog 69 #[.agg #[.int .i8 1,.int .i64 0,.int .i64 pr,.int .i64 pl,.string ⟨#[]⟩,.int .i64 u.id,.int .i64 u.kind,.string u.text,.slice ma (foLen u.kids) mc]] w6 (qQ w6 (fun y=>S y∨w.heap.size+3≤y) s):=by
  rw[HLIT.out]
  exact (zj2 w6 (fun y=>(S y∨w5.heap.size≤y)∧y<w6.heap.size) u 0 pr pl ⟨#[]⟩ ma (foLen u.kids) mc (fun y hy=>hy.2) ⟨ma,mc,rfl,HM.out.1,HM.out.2.1⟩ HWZ.out).mono (by
   rintro e V ⟨v,e1,⟨qa,qc,e2,h1,h2⟩,h3⟩
   refine⟨v,e1,⟨qa,qc,e2,h1,h2.kept fun y hy=>⟨⟨?_,hy.2⟩,rfl⟩⟩,h3⟩
   rcases hy.1 with h | h
   · exact Or.inl (h.1.imp (fun h=>h) (fun h=>NltQ HM.out.2.2 h))
   · exact Or.inr h)
 exact sa2
theorem zh1 (w:World)(S Sx:Nat→Prop)(nv:Value)(t x:Tr)(id par at_:Int)(tx:ByteArray)(sa:Option Addr)(sn sc:Nat)(hS:∀y,S y→y<w.heap.size)(hSx:∀y,Sx y→y<w.heap.size)(ht:zG w S nv t)(hx:zG w Sx (.agg #[.int .i64 x.id,.int .i64 x.kind,.string x.text,.slice sa sn sc]) x)(hsz:zb t.kids+1≤2000)(hxz:zb x.kids+1≤2000)(hok:∀i∈idT t,(Lit.int .i64 i).wf=true)(hxk:∀i∈idT x,(Lit.int .i64 i).wf=true)(h0:(zK 3 id par at_ tx x t).2=0):
 Calls Tryz.prog 49 #[nv,.agg #[.int .i8 3,.int .i64 id,.int .i64 par,.int .i64 at_,.string tx,.int .i64 x.id,.int .i64 x.kind,.string x.text,.slice sa sn sc]] w (JD w (fun y=>S y∨Sx y) 0 (invK 3 id x t)):=by
 obtain⟨ka,tc,rfl,hcap,hk⟩:=ht
 obtain⟨nk,hnk⟩:∃nk,nk=foLen t.kids:=⟨_,rfl⟩
 rw[←hnk]
 obtain⟨B,hB⟩:∃B,B=zl w [.cells #[.int .i64 t.id,.int .i64 t.kind,.string t.text,.slice ka nk tc] 27,.cells #[.int .i8 3,.int .i64 id,.int .i64 par,.int .i64 at_,.string tx,.int .i64 x.id,.int .i64 x.kind,.string x.text,.slice sa sn sc] 44,.cells #[.int .i8 0,.int .i64 0,.int .i64 0,.int .i64 0,.string ⟨#[]⟩,.int .i64 0,.int .i64 0,.string ⟨#[]⟩,.slice none 0 0] 44]:=⟨_,rfl⟩
 have hb:Below w.heap.size w B:=by rw[hB];exact zi _ _
 have hs:B.heap.size=w.heap.size+3:=by rw[hB];exact zw _ _
 have ht0:B.heap[w.heap.size]? =some (.cells #[.int .i64 t.id,.int .i64 t.kind,.string t.text,.slice ka nk tc] 27 (0,0)):=by rw[hB];exact ze _ _ 0 _ rfl
 have hs0:B.heap[w.heap.size+1]? =some (.cells #[.int .i8 3,.int .i64 id,.int .i64 par,.int .i64 at_,.string tx,.int .i64 x.id,.int .i64 x.kind,.string x.text,.slice sa sn sc] 44 (0,0)):=by rw[hB];exact ze _ _ 1 _ rfl
 have hr0:B.heap[w.heap.size+1+1]? =some (.cells #[.int .i8 0,.int .i64 0,.int .i64 0,.int .i64 0,.string ⟨#[]⟩,.int .i64 0,.int .i64 0,.string ⟨#[]⟩,.slice none 0 0] 44 (0,0)):=by rw[hB];exact ze _ _ 2 _ rfl
 have htr:∀X,(∀y,y<w.heap.size→X.heap[y]? =w.heap[y]?)→zG X S (.agg #[.int .i64 t.id,.int .i64 t.kind,.string t.text,.slice ka nk tc]) t:=fun X hX=>⟨ka,tc,by rw[hnk],by rw[hnk] at*;exact hcap,hk.kept fun y hy=>⟨hy,hX y (hS y hy)⟩⟩
 have hap:=jh B S Sx (.agg #[.int .i64 t.id,.int .i64 t.kind,.string t.text,.slice ka nk tc]) t x 3 id par at_ tx sa sn sc (fun y hy=>nL (hS y hy) hb.size) (fun y hy=>nL (hSx y hy) hb.size) (htr B hb.block) (hx.kept fun y hy=>⟨hy,hb.block y (hSx y hy)⟩) hsz hxz ug7 hok hxk
 obtain⟨y,hy⟩:∃y,y=zV (zK 3 id par at_ tx x t):=⟨_,rfl⟩
 unfold qI at hap
 rw[h0,←hy] at hap
 obtain⟨s,hss⟩:∃s,s=invK 3 id x t:=⟨_,rfl⟩
 rw[←hss]
 obtain⟨wr,hwr⟩:∃wr,wr=yl id t:=⟨_,rfl⟩
 have hwz:=Yo id t
 have hlit:s=⟨3,id,wr.2.1,wr.2.2,⟨#[]⟩,zu⟩:=by rw[hss,hwr];unfold invK;rw[inQ ug7,inQ ug7,ipQ rfl]
 have HLIT:=hH hlit
 rw[←hwr] at hwz
 obtain⟨u,pr,pl⟩:=wr
 simp only at hwz
 have HWZ:=hH (show zb u.kids≤100000 by omega)
 clear hlit
 have hfn:∀X,w.heap.size≤X.heap.size→(∀y,y<w.heap.size→X.heap[y]? =w.heap[y]?)→Calls Tryz.prog 87 #[.agg #[.int .i64 t.id,.int .i64 t.kind,.string t.text,.slice ka nk tc],.agg #[.int .i8 3,.int .i64 id,.int .i64 par,.int .i64 at_,.string tx,.int .i64 x.id,.int .i64 x.kind,.string x.text,.slice sa sn sc]] X (qQ X S ⟨3,id,pr,pl,⟨#[]⟩,zu⟩):=fun X hX1 hX=>by
  have h:=zcx X S (.agg #[.int .i64 t.id,.int .i64 t.kind,.string t.text,.slice ka nk tc]) t 3 id par at_ x.id x.kind tx x.text sa sn sc (fun y hy=>nL (hS y hy) hX1) (htr X hX) om
  rw[←hwr] at h;exact h
 have HFN:=hH hfn
 have HSW:=hH hS
 obtain⟨b0,b1,b2,b3⟩:=zD ht0
 obtain⟨m0,m1,m2,m3,m4,m5,m6,m7,m8⟩:=yL hs0
 have HAP:=hH hap
 have HB:=hH (aN hb (aN hs (aN ht0 (aN hs0 hr0))))
 have HBE:=hH hB
 clear hap hb hs ht0 hs0 hr0 hB hnk hcap hk hS hSx hsz hxz hok hxk hx htr hy hss hfn h0 hwr
 go_enter Tryz.func49,Tryz.ntmps49
 go_upto_region 1 with fail
 change Code.wp _ _ _ _ (zl w [.cells #[.int .i64 t.id,.int .i64 t.kind,.string t.text,.slice ka nk tc] 27,.cells #[.int .i8 3,.int .i64 id,.int .i64 par,.int .i64 at_,.string tx,.int .i64 x.id,.int .i64 x.kind,.string x.text,.slice sa sn sc] 44,.cells #[.int .i8 0,.int .i64 0,.int .i64 0,.int .i64 0,.string ⟨#[]⟩,.int .i64 0,.int .i64 0,.string ⟨#[]⟩,.slice none 0 0] 44])
 rw[←HBE.out]
 clear HBE
 go_wp2_with fail
 refine HAP.out.mono ?_
 rintro e W ⟨_,rfl,⟨yb,yc,rfl,_,_⟩,hbW⟩
 obtain⟨yn,hyn⟩:∃yn,yn=foLen y.kids:=⟨_,rfl⟩
 rw[←hyn]
 clear hyn
 obtain⟨U,hU⟩:∃U,U=W.alloc (.cells #[.int .i64 y.id,.int .i64 y.kind,.string y.text,.slice yb yn yc] 27):=⟨_,rfl⟩
 have hbU:Below W.heap.size W U:=by rw[hU];exact zg _ _
 have hbB:Below B.heap.size B U:=hbW.trans (hbU.mono hbW.size)
 have ht1:=(hbB.block _ (lohQ HB.out.2.2.1)).trans HB.out.2.2.1
 have hs1:=(hbB.block _ (lohQ HB.out.2.2.2.1)).trans HB.out.2.2.2.1
 have hr1:=(hbB.block _ (lohQ HB.out.2.2.2.2)).trans HB.out.2.2.2.2
 have hUs:w.heap.size+3≤U.heap.size:=by have:=HB.out.2.1;have:=hbB.size;omega
 have hbw:Below w.heap.size w U:=HB.out.1.trans (hbB.mono HB.out.1.size)
 have HU:=hH hU
 have HT:=hH (aN ht1 (aN hs1 (aN hr1 (aN hUs hbw))))
 clear hbW hU hbU hbB ht1 hs1 hr1 hUs hbw b0 b1 b2 b3 m0 m1 m2 m3 m4 m5 m6 m7 m8
 go_upto_region 2 with fail
 rw[←HU.out]
 go_upto_region 4 with fail
 refine wrhQ (S:=fun X=>Tc U X (w.heap.size+1+1)) kr1 (Tc.of (below_drewN (BrQ _ U) 1)) (fun eH=>?_)
 refine tG (i:=1) (.pointer (some ⟨w.heap.size+1,0,none⟩)) rfl ?_
 simp only[Act.put,pg]
 refine tJ (i:=2) (.int .i8 3) rfl ?_ ?_
 · exact ua6
 simp only[Act.put,pg]
 refine tJ (i:=4) (.agg #[.int .i64 t.id,.int .i64 t.kind,.string t.text,.slice ka nk tc]) rfl ?_ ?_
 · exact ua7
 simp only[Act.put,pg]
 refine tJ (i:=5) (.agg #[.int .i8 3,.int .i64 id,.int .i64 par,.int .i64 at_,.string tx,.int .i64 x.id,.int .i64 x.kind,.string x.text,.slice sa sn sc]) rfl ?_ ?_
 · exact ua6
 simp only[Act.put,pg]
 refine rd [0] ?_
 refine AcQ (o:=_) rfl (fun K hK=>?_) AnQ
 rw[ipQ ug8]
 simp only[pg3]
 have HK:=hH hK
 have HS:=hH eH
 clear hK eH
 have HZ:Hid (U.drew.heap[w.heap.size+1+1]? =some (.cells #[.int .i8 0,.int .i64 0,.int .i64 0,.int .i64 0,.string ⟨#[]⟩,.int .i64 0,.int .i64 0,.string ⟨#[]⟩,.slice none 0 0] 44 (0,0))):=hH HT.out.2.2.1
 go_wp2_with (go_at_call 70;refine (jQ _).mono ?_;rintro e w5 ⟨rfl,hb5⟩;have HZ5:=hH ((hb5.block _ (lohQ HZ.out)).trans HZ.out);have HS5:=hH (HS.out.then hb5);clear hb5;unfold invV)
 refine HK.out _ _ HS5.out (fun eH=>?_)
 clear HK HS HZ
 refine tJ (i:=3) (.func (.func 87) #[] #[]) rfl ?_ ?_
 · clear eH;intro X hSw;have hix:=zeP X;clear hSw;go_simp
 simp only[Act.put,pg]
 refine rd [6] ?_
 refine AcQ (o:=_) rfl (fun K hK=>?_) AnQ
 rw[ipQ ug8]
 simp only[pg3]
 have HK:=hH hK
 have HS:=hH eH
 clear hK eH
 go_wp2_with (go_at_call 87;refine (HFN.out _ (NltQ HT.out.2.2.2.2.size HS.out.size) (fun y hy=>(HS.out.block y ue1 om).trans (HT.out.2.2.2.2.block y hy))).mono ?_;rintro e w6 ⟨_,rfl,⟨ma,mc,rfl,hmc,hmk⟩,hb6⟩;have HZ6:=hH ((hb6.block _ (lohQ HZ5.out)).trans HZ5.out);have HS6:=hH (HS.out.then hb6);have HM:=hH (aN hmc (aN hmk (show w.heap.size+3≤w5.heap.size from NltQ HT.out.2.2.2.1 HS.out.size)));clear hmc hmk hb6)
 refine HK.out _ _ HS6.out (fun eH=>?_)
 clear HK HS HS5 HZ5
 refine rd [7] ?_
 refine AcQ (o:=_) rfl (fun K hK=>?_) AnQ
 rw[ipQ ug8]
 simp only[pg3]
 have HK:=hH hK
 have HS:=hH eH
 clear hK eH
 have hpl:Calls Tryz.prog 69 #[.agg #[.int .i8 3,.int .i64 id,.int .i64 pr,.int .i64 pl,.string ⟨#[]⟩,.int .i64 0,.int .i64 0,.string ⟨#[]⟩,.slice ma 0 mc]] w6 (qQ w6 (fun y=>S y∨w.heap.size+3≤y) s):=by
  rw[HLIT.out]
  exact zj4 _ _ _ _ _ _ _ _ _ _ _ _
 exact sa2
def Sf.inv (s:Sf)(t:Tr):Sf:=if (s.on t).2=0 then invK s.op s.id s.sub t else zbY
structure zbm (s:Sf):Prop where
 op:(Lit.int .i8 s.op).wf=true
 ids:∀i∈idT s.sub,(Lit.int .i64 i).wf=true
 size:zb s.sub.kids+1≤2000
theorem zev (w:World)(S Sx:Nat→Prop)(nv sv:Value)(t:Tr)(s:Sf)(hS:∀y,S y→y<w.heap.size)(hSx:∀y,Sx y→y<w.heap.size)(ht:zG w S nv t)(hs:zhj w Sx sv s)(hsz:zb t.kids+1≤2000)(hok:∀i∈idT t,(Lit.int .i64 i).wf=true)(ho:zbm s):
 Calls Tryz.prog 44 #[nv,sv] w (qI w (fun y=>S y∨Sx y) (s.on t)):=by
 obtain⟨ka,kc,rfl,h1,h2⟩:=hs
 exact jh w S Sx nv t s.sub s.op s.id s.par s.at_ s.tx ka (foLen s.sub.kids) kc hS hSx ht ⟨ka,kc,rfl,h1,h2⟩ hsz ho.size ho.op hok ho.ids
theorem zds (w:World)(S Sx:Nat→Prop)(nv sv:Value)(t:Tr)(s:Sf)(hS:∀y,S y→y<w.heap.size)(hSx:∀y,Sx y→y<w.heap.size)(ht:zG w S nv t)(hs:zhj w Sx sv s)(hsz:zb t.kids+1≤2000)(hok:∀i∈idT t,(Lit.int .i64 i).wf=true)(ho:zbm s):
 Calls Tryz.prog 49 #[nv,sv] w (JD w (fun y=>S y∨Sx y) (s.on t).2 (s.inv t)):=by
 obtain⟨ka,kc,rfl,h1,h2⟩:=hs
 have hx:zG w Sx (.agg #[.int .i64 s.sub.id,.int .i64 s.sub.kind,.string s.sub.text,.slice ka (foLen s.sub.kids) kc]) s.sub:=⟨ka,kc,rfl,h1,h2⟩
 have hid:=ho.ids
 have hop:=ho.op
 have hxz:=ho.size
 unfold Sf.inv Sf.on
 obtain⟨op,id,par,at_,tx,x⟩:=s
 simp only at*
 by_cases h0:(zK op id par at_ tx x t).2=0
 · rw[ipQ h0]
   have hop4:=za9 (y:=(zK op id par at_ tx x t).1) (Prod.ext rfl h0)
   rw[h0]
   rcases hop4 with rfl | rfl | rfl | rfl
   · exact zhZ w S Sx nv t x id par at_ tx ka _ kc hS hSx ht hx hsz hxz hok hid h0
   · exact zh0 w S Sx nv t x id par at_ tx ka _ kc hS hSx ht hx hsz hxz hok hid h0
   · exact zh1 w S Sx nv t x id par at_ tx ka _ kc hS hSx ht hx hsz hxz hok hid h0
   · exact zdt w S Sx nv t x id par at_ tx ka _ kc hS hSx ht hx hsz hxz hok hid h0
 · rw[inQ h0]
   exact zaI w S Sx nv t x op id par at_ tx ka _ kc hS hSx ht hx hsz hxz hop hok hid h0
theorem zjf {s:Sf}{t y:Tr}(hd:vD t)(hr:JE t)(h:s.on t=(y,0)):(∃z,(s.inv t).on y=(z,0)∧qF z t=true)∧((s.inv t).inv y).on t=(y,0):=by
 have hb:=zhX hd hr h
 have e1:s.inv t=invK s.op s.id s.sub t:=by unfold Sf.inv;rw[h,ipQ rfl]
 obtain⟨⟨z,hz,hs⟩,hc⟩:=hb
 rw[←e1] at hz hc
 refine⟨⟨z,hz,hs⟩,?_⟩
 have e2:(s.inv t).inv y=invK (s.inv t).op (s.inv t).id (s.inv t).sub y:=by
  conv=>lhs;unfold Sf.inv
  rw [show ((if (s.on t).2=0 then invK s.op s.id s.sub t else zbY).on y).2=0 from by
   have:=congrArg Prod.snd hz
   unfold Sf.inv at this
   exact this,ipQ rfl]
  rfl
 rw[e2];exact hc
theorem zkC {s:Sf}{t y:Tr}(hr:JE t)(hsz:zb t.kids+1≤2000)(h:s.on t=(y,0)):zbm (s.inv t)∧∀i∈idT t,(Lit.int .i64 i).wf=true:=by
 have e1:s.inv t=invK s.op s.id s.sub t:=by unfold Sf.inv;rw[h,ipQ rfl]
 obtain⟨h1,h2,h3,h4⟩:=zi2 hr h
 rw[e1]
 exact⟨⟨h3,h2,by omega⟩,h4⟩
def yR (W:World)(f:Fo)(a:Option Addr)(c:Nat):Prop:=foLen f≤c∧zt W (fun q=>q<W.heap.size) f a
theorem yR.at {W X:World}{t:Tr}{a:Option Addr}{c:Nat}(h:yR W t.kids a c)(hb:Below W.heap.size W X):zG X (fun q=>q<W.heap.size) (.agg #[.int .i64 t.id,.int .i64 t.kind,.string t.text,.slice a (foLen t.kids) c]) t:=⟨a,c,rfl,h.1,h.2.kept fun q hq=>⟨hq,hb.block q hq⟩⟩
theorem yR.on {W X:World}{f:Fo}{a:Option Addr}{c:Nat}(h:yR W f a c)(hb:Below W.heap.size W X):yR X f a c:=⟨h.1,h.2.kept fun q hq=>⟨nL hq hb.size,hb.block q hq⟩⟩
theorem Yq:∀f:Fo,zb f≤9223372036854775807→qZ f
 | .nil,_=>True.intro
 | .node _ _ _ l r,h=>by
   have h1:=zL l
   simp only[zb] at h
   exact⟨by omega,Yq l om,Yq r om⟩
def EB (ta ba:Option Addr)(q:Nat):Prop:=(∃a,ta=some a∧a.block=q)∨(∃a,ba=some a∧a.block=q)
theorem zjd {ta:Option Addr}{n c q:Nat}:some q=(Value.slice ta n c).ownBlock↔∃a,ta=some a∧a.block=q:=by
 cases ta with
 | none=>simp[Value.ownBlock]
 | some a=>simp[Value.ownBlock,eq_comm]
def zS (X:World)(E:Nat→Prop)(f:Fo)(a:Option Addr)(c:Nat):Prop:=foLen f≤c∧zt X (fun q=>q<X.heap.size∧¬E q) f a
theorem zS.on {X Y:World}{E:Nat→Prop}{f:Fo}{a:Option Addr}{c:Nat}(h:zS X E f a c)(hb:Below X.heap.size X Y):zS Y E f a c:=⟨h.1,h.2.kept fun q hq=>⟨⟨nL hq.1 hb.size,hq.2⟩,hb.block q hq.1⟩⟩
theorem zS.i {X:World}{E:Nat→Prop}{f:Fo}{a:Option Addr}{c:Nat}(h:zS X E f a c):yR X f a c:=⟨h.1,h.2.kept fun q hq=>⟨hq.1,rfl⟩⟩
theorem yR.n {w X:World}{E:Nat→Prop}{f:Fo}{a:Option Addr}{c:Nat}(h:yR w f a c)(hb:Below w.heap.size w X)(hE:∀q,E q→w.heap.size≤q):zS X E f a c:=⟨h.1,h.2.kept fun q hq=>⟨⟨nL hq hb.size,fun he=>by have:=hE q he;omega⟩,hb.block q hq⟩⟩
def jO (s:Sf)(a:Option Addr)(c:Nat):List Value:=[.int .i8 s.op,.int .i64 s.id,.int .i64 s.par,.int .i64 s.at_,.string s.tx,.int .i64 s.sub.id,.int .i64 s.sub.kind,.string s.sub.text,.slice a (foLen s.sub.kids) c]
def ZU (X:World)(E:Nat→Prop):List Sf→List Value→Prop
 | [],xs=>xs= []
 | t::l,xs=>∃a c ys,xs=jO t a c++ys∧zS X E t.sub.kids a c∧ZU X E l ys
theorem ZU.kept {X Y:World}{E F:Nat→Prop}(h:∀f a c,zS X E f a c→zS Y F f a c):∀{l:List Sf} {xs:List Value},ZU X E l xs→ZU Y F l xs
 | [],_,k=>k
 | _ ::_,_,k=>by
   obtain⟨a,c,ys,e,h1,h2⟩:=k
   exact⟨a,c,ys,e,h _ _ _ h1,h2.kept h⟩
theorem ZU.snoc {X:World}{E:Nat→Prop}{t:Sf}{a:Option Addr}{c:Nat}(h:zS X E t.sub.kids a c):∀{l:List Sf} {xs:List Value},ZU X E l xs→ZU X E (l++[t]) (xs++jO t a c)
 | [],xs,k=>by subst k;exact⟨a,c,[],by simp,h,rfl⟩
 | _ ::_,xs,k=>by
   obtain⟨a',c',ys,e,h1,h2⟩:=k
   exact⟨a',c',_,by rw[e,List.append_assoc],h1,ZU.snoc h h2⟩
theorem ZU.nth {X:World}{E:Nat→Prop}:∀{l:List Sf} {xs:List Value} (k:Nat) (t:Sf),ZU X E l xs→l[k]? =some t→∃a c,(∀j u,(jO t a c)[j]? =some u→xs[k*9+j]? =some u)∧zS X E t.sub.kids a c
 | [],_,k,t,_,hk=>by simp at hk
 | _ ::_,xs,0,t,h,hk=>by
   obtain⟨a,c,ys,e,h1,h2⟩:=h
   simp only[List.getElem?_cons_zero,Option.some.injEq] at hk
   subst hk
   refine⟨a,c,fun j u hj=>?_,h1⟩
   rw[e,Nat.zero_mul,Nat.zero_add,List.getElem?_append_left (List.getElem?_eq_some_iff.1 hj).1];exact hj
 | x ::_,xs,k+1,t,h,hk=>by
   obtain⟨a,c,ys,e,h1,h2⟩:=h
   obtain⟨a',c',k1,k2⟩:=ZU.nth k t h2 (by simpa using hk)
   refine⟨a',c',fun j u hj=>?_,k2⟩
   have hl:(jO x a c).length=9:=rfl
   rw[e,List.getElem?_append_right om,hl,show (k+1)*9+j - 9=k*9+j by omega]
   exact k1 j u hj
structure zjE (W0:World) (er:Int) (y:Tr) (ya:Option Addr) (ym yc:Nat) (xb:Nat) (V:World):Prop where
 below:Below W0.heap.size W0 V
 cell:V.heap[xb]? =some (.cells #[.int .i64 y.id,.int .i64 y.kind,.string y.text,.slice ya ym yc] 27 (0,0))
 new:W0.heap.size≤xb
 len:ym=foLen y.kids
 cap:ym≤yc
 kids:zt V (fun q=>W0.heap.size≤q∧q<V.heap.size∧q≠xb) y.kids ya
structure Jd (E:Nat→Prop) (B:World) (XB:Nat) (x:Tr) (va:Option Addr) (vn vc:Nat) (wr:World):Prop where
 but:YC XB B wr
 inE:E XB
 ltE:∀q,E q→q<B.heap.size
 cell:wr.heap[XB]? =some (.cells #[.int .i64 x.id,.int .i64 x.kind,.string x.text,.slice va vn vc] 27 (0,0))
 len:vn=foLen x.kids
 lies:zS wr E x.kids va vc
theorem Jd.next {E:Nat→Prop}{B wr V:World}{XB xb:Nat}{x y:Tr}{va ya:Option Addr}{vn vc ym yc:Nat}{er:Int}(h:Jd E B XB x va vn vc wr)(d:zjE wr er y ya ym yc xb V):
 Jd E B XB y ya ym yc ((((V.setCell ⟨XB,0,none⟩ (.int .i64 y.id)).setCell ⟨XB,1,none⟩ (.int .i64 y.kind)).setCell ⟨XB,2,none⟩ (.string y.text)).setCell ⟨XB,3,none⟩ (.slice ya ym yc)):=by
 have hlt:=lohQ h.cell
 have hc:=(d.below.block _ hlt).trans h.cell
 have hs:=yF hc (.int .i64 y.id) (.int .i64 y.kind) (.string y.text) (.slice ya ym yc)
 have h1:=h.but.on d.below
 have k:=hs.2.1 _ (NlrQ _)
 have h5:=h.but.size
 refine⟨⟨k.os.trans h1.os,k.tape.trans h1.tape,k.output.trans h1.output,NltQ h1.size k.size,fun q h2 h3=>(hs.2.2 q h3).trans (h1.block q h2 h3)⟩,h.inE,h.ltE,hs.1,d.len,by rw[←d.len];exact d.cap,d.kids.kept fun q hq=>⟨⟨nL hq.2.1 k.size,fun he=>by have h6:=h.ltE q he;have:=hq.1;omega⟩,hs.2.2 q (by have:=hq.1;omega)⟩⟩
theorem zky {op:Int}(h:(Lit.int .i8 op).wf=true): -128≤op∧op≤127:=by
 have h2:(decide (IntKind.i8.min≤op) && decide (op≤IntKind.i8.max))=true:=h
 obtain⟨h3,h4⟩:=(Bool.and_eq_true _ _).mp h2
 have h3:=of_decide_eq_true h3
 have h4:=of_decide_eq_true h4
 have e1:IntKind.i8.min= -128:=by decide
 have e2:IntKind.i8.max=127:=by decide
 rw[e1] at h3;rw[e2] at h4
 exact⟨h3,h4⟩
end Go.Proofs.YtgkmmnihaiopaaaGreat
namespace Go.Proofs.YtgkmmnihaiopaaaGreat
open Go.RowKit Go.Shelf
theorem zjz {w:World}{y:Nat}{cs cs' :Array Value}{t t' :TypeId}{fr fr' :Nat×Nat}(h:w.heap[y]? =some (.cells cs t fr))(h' :w.heap[y]? =some (.cells cs' t' fr')):t=t':=by rw[h] at h';cases h';rfl
def zjv (E:Nat→Prop)(y:Tr)(n:Int)(X:World)(e:Ending)(W:World):Prop:=∃va vc,e= .returned (.tuple #[.agg #[.int .i64 y.id,.int .i64 y.kind,.string y.text,.slice va (foLen y.kids) vc],.int .i64 n])∧zS W E y.kids va vc∧Below X.heap.size X W
def zju (E:Nat→Prop)(s:Sf)(n:Int)(X:World)(e:Ending)(W:World):Prop:=∃va vc,e= .returned (.tuple #[.agg #[.int .i8 s.op,.int .i64 s.id,.int .i64 s.par,.int .i64 s.at_,.string s.tx,.int .i64 s.sub.id,.int .i64 s.sub.kind,.string s.sub.text,.slice va (foLen s.sub.kids) vc],.int .i64 n])∧zS W E s.sub.kids va vc∧Below X.heap.size X W
theorem zS.at {E:Nat→Prop}{W X:World}{t:Tr}{a:Option Addr}{c:Nat}(h:zS W E t.kids a c)(hb:Below W.heap.size W X):zG X (fun q=>q<W.heap.size∧¬E q) (.agg #[.int .i64 t.id,.int .i64 t.kind,.string t.text,.slice a (foLen t.kids) c]) t:=⟨a,c,rfl,h.1,h.2.kept fun q hq=>⟨hq,hb.block q hq.1⟩⟩
theorem zjU {E:Nat→Prop}{X0 X1 X:World}{t:Tr}{s:Sf}{ta sa:Option Addr}{tc sc:Nat}(hE:∀q,E q→q<X.heap.size)(h0:zS X0 E t.kids ta tc)(h1:zS X1 E s.sub.kids sa sc)(b0:Below X0.heap.size X0 X)(b1:Below X1.heap.size X1 X)(hz:zb t.kids+1≤2000)(hok:∀i∈idT t,(Lit.int .i64 i).wf=true)(ho:zbm s):
 Calls Tryz.prog 44 #[.agg #[.int .i64 t.id,.int .i64 t.kind,.string t.text,.slice ta (foLen t.kids) tc],.agg #[.int .i8 s.op,.int .i64 s.id,.int .i64 s.par,.int .i64 s.at_,.string s.tx,.int .i64 s.sub.id,.int .i64 s.sub.kind,.string s.sub.text,.slice sa (foLen s.sub.kids) sc]] X (zjv E (zV (s.on t)) (s.on t).2 X):=by
 refine (zev X _ _ _ _ t s (fun y hy=>nL hy.1 b0.size) (fun y hy=>nL hy.1 b1.size) (h0.at b0) ⟨sa,sc,rfl,h1.1,h1.2.kept fun q hq=>⟨hq,b1.block q hq.1⟩⟩ hz hok ho).mono ?_
 exact sf8
theorem zi3 {E:Nat→Prop}{X0 X1 X:World}{t:Tr}{s:Sf}{ta sa:Option Addr}{tc sc:Nat}(hE:∀q,E q→q<X.heap.size)(h0:zS X0 E t.kids ta tc)(h1:zS X1 E s.sub.kids sa sc)(b0:Below X0.heap.size X0 X)(b1:Below X1.heap.size X1 X)(hz:zb t.kids+1≤2000)(hok:∀i∈idT t,(Lit.int .i64 i).wf=true)(ho:zbm s):
 Calls Tryz.prog 49 #[.agg #[.int .i64 t.id,.int .i64 t.kind,.string t.text,.slice ta (foLen t.kids) tc],.agg #[.int .i8 s.op,.int .i64 s.id,.int .i64 s.par,.int .i64 s.at_,.string s.tx,.int .i64 s.sub.id,.int .i64 s.sub.kind,.string s.sub.text,.slice sa (foLen s.sub.kids) sc]] X (zju E (s.inv t) (s.on t).2 X):=by
 refine (zds X _ _ _ _ t s (fun y hy=>nL hy.1 b0.size) (fun y hy=>nL hy.1 b1.size) (h0.at b0) ⟨sa,sc,rfl,h1.1,h1.2.kept fun q hq=>⟨hq,b1.block q hq.1⟩⟩ hz hok ho).mono ?_
 exact sg0
theorem zS.weak {X:World}{E F:Nat→Prop}{f:Fo}{a:Option Addr}{c:Nat}(h:zS X F f a c)(hE:∀q,E q→F q):zS X E f a c:=⟨h.1,h.2.kept fun q hq=>⟨⟨hq.1,fun he=>hq.2 (hE q he)⟩,rfl⟩⟩
theorem zby {g:Gr}:∀(L:List Sp) (ids:List Int) (i:Nat),qR g ids i L=none→(L.map fun x=>x.2.1.1).Nodup∧∀x∈L,x.2.1.1∉ids
 | [],ids,i,_=>⟨List.nodup_nil,fun x h=>by cases h⟩
 | x :: r,ids,i,h=>by
   rw[qR] at h
   split at h
   · cases h
   · rename_i ha
     obtain⟨h1,h2⟩:=zby r _ _ h
     have hx:x.2.1.1∉ids:=fun hm=>by
      apply ha
      have hany:ids.any (· == x.2.1.1)=true:=List.any_eq_true.2 ⟨_,hm,by simp⟩
      unfold atB
      rw[show (kX x).id=x.2.1.1 from rfl,hany]
      simp
     refine⟨?_,fun y hy=>?_⟩
     · rw[List.map_cons,List.nodup_cons]
       refine⟨fun hm=>?_,h1⟩
       obtain⟨y,hy,e⟩:=List.mem_map.1 hm
       exact h2 y hy (by rw[e];simp)
     · rcases List.mem_cons.1 hy with rfl | hy
       · exact hx
       · exact fun hm=>h2 y hy (List.mem_append_left _ hm)
theorem Q9 {g:Gr}{t:Tr}(h:(qG g t).2=0):vD t∧zb t.kids+1≤200:=by
 unfold qG at h
 split at h
 · exact absurd h ug7
 · unfold vT at h
   split at h
   · split at h
     · exact absurd h ug7
     · rename_i hs
       unfold vZ at h
       split at h
       · exact absurd (show (70:Int)=0 from h) ug7
       · rename_i hb
         exact⟨(zby _ _ _ hb).1,by omega⟩
   · exact absurd h ug7
def goT (g:Gr)(t:Tr):List Sf→Option Tr
 | []=>some t
 | s::l=>if (doK g (s.on t)).2=0 then goT g (doK g (s.on t)).1 l else none
theorem zaA (g:Gr):∀(a b:List Sf) (t:Tr),goT g t (a++b)=(goT g t a).bind fun x=>goT g x b
 | [],b,t=>rfl
 | s ::a,b,t=>by
   rw[List.cons_append,goT,goT]
   split
   · exact zaA g a b _
   · rfl
theorem zhT {g:Gr}{t x:Tr}{l:List Sf}{s:Sf}(h:goT g t l=some x)(hs:(doK g (s.on x)).2=0):goT g t (l++[s])=some (doK g (s.on x)).1:=by
 rw[zaA,h]
 show goT g x [s]=_
 rw[goT,ipQ hs];rfl
def vE (g:Gr):Tr→List Sf→Tr×Nat×Int
 | t,[]=>(t,0,0)
 | t,s::l=>if (doK g (s.on t)).2=0 then ((vE g (doK g (s.on t)).1 l).1,(vE g (doK g (s.on t)).1 l).2.1+1,(vE g (doK g (s.on t)).1 l).2.2) else (t,0,(doK g (s.on t)).2)
theorem zbH {g:Gr}:∀{l:List Sf} {t x:Tr},goT g t l=some x→vE g t l=(x,l.length,0)
 | [],t,x,h=>by cases h;rfl
 | s ::l,t,x,h=>by
   rw[goT] at h
   split at h
   · rename_i h0
     rw[vE,ipQ h0,zbH h];rfl
   · cases h
theorem zau {g:Gr}:∀{l:List Sf} {k:Nat} {t x:Tr} {s:Sf} {n:Int},goT g t (l.take k)=some x→l[k]? =some s→(doK g (s.on x)).2=n→n≠0→vE g t l=(x,k,n)
 | [],k,t,x,s,n,_,hs,_,_=>by simp at hs
 | r ::l,0,t,x,s,n,h,hs,hn,h0=>by
   simp at hs;subst hs
   rw[List.take_zero] at h;cases h
   rw[vE,inQ (by rw[hn];exact h0),hn]
 | r ::l,k+1,t,x,s,n,h,hs,hn,h0=>by
   rw[List.take_succ_cons,goT] at h
   split at h
   · rename_i hr
     rw[vE,ipQ hr,zau h (by simpa using hs) hn h0]
   · cases h
theorem zat {g:Gr}:∀{l:List Sf} {t:Tr},(vE g t l).2.2=0→goT g t l=some (vE g t l).1∧(vE g t l).2.1=l.length
 | [],t,_=>⟨rfl,rfl⟩
 | s ::l,t,h=>by
   rw[vE] at h ⊢
   rw[goT]
   split at h
   · rename_i h0
     rw[ipQ h0,ipQ h0]
     have:=zat (g:=g) (l:=l) h
     exact⟨this.1,by simp[this.2]⟩
   · rename_i h0;exact absurd h h0
def YD (s:Sf):Nat:=if s.op=1 then zb s.sub.kids+1 else 0
def qC:List Sf→Nat
 | []=>0
 | s::l=>YD s+qC l
theorem kS:∀a b:List Sf,qC (a++b)=qC a+qC b
 | [],b=>by simp[qC]
 | s::a,b=>by rw[List.cons_append,qC,qC,kS a b];omega
def ve (l:List Sf):Bool:=decide (l.length≤60) && decide (qC l≤200)
theorem Yv (l:List Sf):ve l=true↔l.length≤60∧qC l≤200:=by simp[ve]
def apK (g:Gr)(t:Tr)(l:List Sf):Tr×Nat×Int:=if ve l=true then (if (vE g t l).2.2=0 then (vE g t l).1 else t,(vE g t l).2.1,(vE g t l).2.2) else (zu,0,3)
structure Way (t:Tr):Prop where
 size:zb t.kids+1≤250
 ok:okF (spF 1 (zm t))
structure vo (s:Sf):Prop where
 op:(Lit.int .i8 s.op).wf=true
 size:zb s.sub.kids+1≤250
 ok:okF (spF 1 (zm s.sub))
 tx:(s.tx.size:Int)≤9223372036854775807
theorem zix {g:Gr}{t:Tr}{s:Sf}(hs:vo s)(h:Way t)(h0:(doK g (s.on t)).2=0):Way (doK g (s.on t)).1:=by
 unfold doK at h0 ⊢
 split at h0
 · rename_i h1
   split at h0
   · rename_i h2
     rw[ipQ h1,ipQ h2]
     have hx:=Ym (op:=s.op) (id:=s.id) (par:=s.par) (at_:=s.at_) (tx:=s.tx) (x:=s.sub) (t:=t) (y:=(s.on t).1) (by unfold Sf.on;exact Prod.ext rfl h1)
     exact⟨by have:=(Q9 h2).2;show zb (s.on t).1.kids+1≤250;omega,hx.1.ok h.ok hs.ok hs.tx⟩
   · rename_i h2;exact absurd h0 h2
 · rename_i h1;exact absurd h0 h1
theorem ziy {g:Gr}:∀{l:List Sf} {t x:Tr},(∀s∈l,vo s)→Way t→goT g t l=some x→Way x
 | [],t,x,_,h,e=>by cases e;exact h
 | s ::l,t,x,hl,h,e=>by
   rw[goT] at e
   split at e
   · rename_i h0
     exact ziy (fun r hr=>hl r (List.mem_cons_of_mem _ hr)) (zix (hl s (List.mem_cons_self ..)) h h0) e
   · cases e
theorem Tryz.zfE:(Tryz.prog.info? 44).map (fun i=>(i.size,i.bytes,i.zero.map (fun z=>z.cells.size)))=some (9,104,some 9):=by kernel_rfl
def zkv (w:World)(e:Ending)(w' :World):Prop:=e= .returned (.bool true)∧Below w.heap.size w w'
end Go.Proofs.YtgkmmnihaiopaaaGreat
