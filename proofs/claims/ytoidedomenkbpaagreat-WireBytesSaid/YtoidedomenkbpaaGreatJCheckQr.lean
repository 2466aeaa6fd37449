/-
  .
-/
import Derived.Test.YtoidedomenkbpaaGreatJFoldRQr
set_option maxRecDepth 100000
set_option maxHeartbeats 40000000
namespace Go.Proofs.YtoidedomenkbpaaGreat
open Go.RowKit Go.Shelf
set_option linter.unusedVariables false
set_option linter.unusedSimpArgs false
def kI (w:World)(x:SV):Prop:=jo w x.s.sub.kids x.a x.c
theorem kI.at {w X:World}{x:SV}(h:kI w x)(hb:Below w.heap.size w X):vL X (fun q=>q<w.heap.size) (.agg #[.int .i64 x.s.sub.id,.int .i64 x.s.sub.kind,.string x.s.sub.text,.slice x.a (foLen x.s.sub.kids) x.c]) x.s.sub:=jo.at h hb
theorem J7 (w X0:World)(x:SV)(h:kI X0 x)(hb:Below X0.heap.size X0 w)(hs:Qc x.s):
 Calls Tryz.prog 95 #[x.v] w fun e w'=>e= .returned (.int .i64 (jD x.s:Int))∧Below w.heap.size w w':=by
 obtain⟨sn,hsn⟩:∃sn,sn=foLen x.s.sub.kids:=⟨_,rfl⟩
 obtain⟨B,hB⟩:∃B,B=w.alloc (.cells #[.int .i8 x.s.op,.int .i64 x.s.id,.int .i64 x.s.par,.int .i64 x.s.at_,.string x.s.tx,.int .i64 x.s.sub.id,.int .i64 x.s.sub.kind,.string x.s.sub.text,.slice x.a sn x.c] 41):=⟨_,rfl⟩
 have hbw:Below w.heap.size w B:=by rw[hB];exact vC _ _
 have hs0:B.heap[w.heap.size]? =some (.cells #[.int .i8 x.s.op,.int .i64 x.s.id,.int .i64 x.s.par,.int .i64 x.s.at_,.string x.s.tx,.int .i64 x.s.sub.id,.int .i64 x.s.sub.kind,.string x.s.sub.text,.slice x.a sn x.c] 41 (0,0)):=by rw[hB];exact hanQ _ _
 have hb2:=hb.trans (hbw.mono hb.size)
 have hn:=zdU B (fun q=>q<X0.heap.size) x.s.sub x.s.op x.s.id x.s.par x.s.at_ x.s.tx x.a sn x.c (fun y hy=>nL hy hb2.size) (by rw[hsn];exact h.at hb2) (by have:=hs.size;omega) hs.op
 have hv:x.v= .agg #[.int .i8 x.s.op,.int .i64 x.s.id,.int .i64 x.s.par,.int .i64 x.s.at_,.string x.s.tx,.int .i64 x.s.sub.id,.int .i64 x.s.sub.kind,.string x.s.sub.text,.slice x.a sn x.c]:=by rw[hsn];rfl
 rw[hv]
 obtain⟨m0,m1,m2,m3,m4,m5,m6,m7,m8⟩:=vo hs0
 have HN:=hH hn
 have HB:=hH (aN hbw hB)
 have HS:=hH hs
 have hob:=JA hs.op
 clear hn hbw hB hs0 hb2 h hb hs hv hsn
 go_enter Tryz.func95,Tryz.ntmps95
 go_upto_region 1 with fail
 rw[←HB.out.2]
 by_cases h1:x.s.op=1
 · have hb1:(x.s.op != 1)=false:=by simpa using h1
   have HI:=hH (show (kz x.s.op x.s.id x.s.par x.s.sub).length=jD x.s+1∧jD x.s≤2000 by
    rw[kz,ipQ h1,jD,ipQ h1,LlcQ,jC];exact⟨rfl,HS.out.size⟩)
   clear h1 hob
   go_wp2_with fail
   refine HN.out.mono ?_
   rintro e w2 ⟨a,c,rfl,_,hb2⟩
   rw[HI.out.1]
   have HB2:=hH (HB.out.1.trans (hb2.mono HB.out.1.size))
   obtain⟨n,hn⟩:∃n,n=jD x.s:=⟨_,rfl⟩
   rw[←hn] at HI ⊢
   have HNN:=hH hn
   have hnw:IntKind.i64.wrap (((n+1:Nat):Int) - 1)=(n:Int):=by rw[IntWalk.i64_in _ (by have:=HI.out.2;omega)];omega
   obtain⟨m,hm⟩:∃m,m=n+1:=⟨_,rfl⟩
   rw[←hm] at hnw ⊢
   clear hb2 hn hm
   go_wp2_with fail
   go_ret
   rw[←HNN.out]
   exact⟨rfl,HB2.out⟩
 · have hb1:(x.s.op != 1)=true:=by simpa using h1
   have HI:=hH (show jD x.s=0 by rw[jD,inQ h1])
   clear h1 hob
   go_wp2_with fail
   go_ret
   rw[HI.out]
   exact⟨rfl,HB.out.1⟩
def zey (w:World)(p q n:Int)(e:Ending)(w' :World):Prop:=∃(p' q' m:Int),e= .returned (.tuple #[.agg #[.int .i64 p',.int .i64 q'],.int .i64 m])∧Below w.heap.size w w'∧((m=0∧p'=p - 1∧q'=q - n∧0≤p - 1∧0≤q - n)∨(m=3∧(p - 1<0∨q - n<0)))
theorem jl {fn:Func}(h:fn.results= #[.cell 4 128,.tmp 5]){w W:World}{tmps:Array Value}{p q n p' q' m:Int}{g:Nat}(hb:Below w.heap.size w W)(hz:W.heap[g]? =some (.cells #[.int .i64 p',.int .i64 q'] 128 (0,0)))(hc:(m=0∧p'=p - 1∧q'=q - n∧0≤p - 1∧0≤q - n)∨(m=3∧(p - 1<0∨q - n<0)))
 (h1:tmps.getD 4 undef= .pointer (some ⟨g,0,none⟩)) (h2:tmps.getD 5 undef= .int .i64 m):bodyPost Tryz.prog fn (zey w p q n) .ret { tmps,defers:=[] } W:=by
 refine brQ (yl h tmps W g 128 _ _ _ (.int .i64 m) h1 hz Tryz.underlying128 rfl kr1 h2) rfl ?_
 exact⟨p',q',m,rfl,hb,hc⟩
theorem zce (w X0:World)(x:SV)(p q:Int)(h:kI X0 x)(hb:Below X0.heap.size X0 w)(hs:Qc x.s)(hp:0≤p∧p≤60)(hq:0≤q∧q≤200):
 Calls Tryz.prog 94 #[.agg #[.int .i64 p,.int .i64 q],x.v] w (zey w p q (jD x.s:Int)):=by
 obtain⟨sn,hsn⟩:∃sn,sn=foLen x.s.sub.kids:=⟨_,rfl⟩
 have hv:x.v= .agg #[.int .i8 x.s.op,.int .i64 x.s.id,.int .i64 x.s.par,.int .i64 x.s.at_,.string x.s.tx,.int .i64 x.s.sub.id,.int .i64 x.s.sub.kind,.string x.s.sub.text,.slice x.a sn x.c]:=by rw[hsn];rfl
 have hni:jD x.s≤2000:=by have:=hs.size;unfold jD;split<;>omega
 obtain⟨n,hn⟩:∃n:Int,n=(jD x.s:Int):=⟨_,rfl⟩
 have hn2:0≤n∧n≤2000:=by omega
 obtain⟨B,hB⟩:∃B,B=zy w [.cells #[.int .i64 p,.int .i64 q] 128,.cells #[.int .i8 x.s.op,.int .i64 x.s.id,.int .i64 x.s.par,.int .i64 x.s.at_,.string x.s.tx,.int .i64 x.s.sub.id,.int .i64 x.s.sub.kind,.string x.s.sub.text,.slice x.a sn x.c] 41,.cells #[.int .i64 0,.int .i64 0] 128]:=⟨_,rfl⟩
 have hbw:Below w.heap.size w B:=by rw[hB];exact zu _ _
 have hsz:B.heap.size=w.heap.size+3:=by rw[hB];exact qa _ _
 have e0:B.heap[w.heap.size]? =some (.cells #[.int .i64 p,.int .i64 q] 128 (0,0)):=by rw[hB];exact zi _ _ 0 _ rfl
 have e1:B.heap[w.heap.size+1]? =some (.cells #[.int .i8 x.s.op,.int .i64 x.s.id,.int .i64 x.s.par,.int .i64 x.s.at_,.string x.s.tx,.int .i64 x.s.sub.id,.int .i64 x.s.sub.kind,.string x.s.sub.text,.slice x.a sn x.c] 41 (0,0)):=by rw[hB];exact zi _ _ 1 _ rfl
 have e2:B.heap[w.heap.size+1+1]? =some (.cells #[.int .i64 0,.int .i64 0] 128 (0,0)):=by rw[hB];exact zi _ _ 2 _ rfl
 obtain⟨p1,hp1⟩:∃p1,p1=p - 1:=⟨_,rfl⟩
 obtain⟨q1,hq1⟩:∃q1,q1=q - n:=⟨_,rfl⟩
 have hw1:IntKind.i64.wrap (p - 1)=p1:=by rw[hp1];exact IntWalk.i64_in _ om
 have hw2:IntKind.i64.wrap (q - n)=q1:=by rw[hq1];exact IntWalk.i64_in _ om
 obtain⟨W1,hW1,r1,r2,r3,r4,r5,r6⟩:=one_set (i:=0) (u:= .int .i64 p1) e0
 have r1' :W1.heap[w.heap.size]? =some (.cells #[.int .i64 p1,.int .i64 q] 128 (0,0)):=by simpa using r1
 have hb1:Below w.heap.size w W1:=⟨r3.trans hbw.os,r4.trans hbw.tape,r5.trans hbw.output,by rw[r6];exact hbw.size,fun y hy=>(r2 y om).trans (hbw.block y hy)⟩
 have f1:W1.heap[w.heap.size+1]? =some (.cells #[.int .i8 x.s.op,.int .i64 x.s.id,.int .i64 x.s.par,.int .i64 x.s.at_,.string x.s.tx,.int .i64 x.s.sub.id,.int .i64 x.s.sub.kind,.string x.s.sub.text,.slice x.a sn x.c] 41 (0,0)):=(r2 _ om).trans e1
 have f2:W1.heap[w.heap.size+1+1]? =some (.cells #[.int .i64 0,.int .i64 0] 128 (0,0)):=(r2 _ om).trans e2
 have hc:∀X,Below W1.heap.size W1 X→X.cell? ⟨w.heap.size,0,none⟩=some (.int .i64 p1)∧X.cell? ⟨w.heap.size,1,none⟩=some (.int .i64 q)∧ue6 X (w.heap.size+1) x.s.op x.s.id x.s.par x.s.at_ x.s.tx x.s.sub.id x.s.sub.kind x.s.sub.text x.a sn x.c:=fun X hX=>
  ⟨(Zz ((hX.block _ (lohQ r1')).trans r1')).1,(Zz ((hX.block _ (lohQ r1')).trans r1')).2,vo ((hX.block _ (lohQ f1)).trans f1)⟩
 have hi:∀X,Below W1.heap.size W1 X→Calls Tryz.prog 95 #[.agg #[.int .i8 x.s.op,.int .i64 x.s.id,.int .i64 x.s.par,.int .i64 x.s.at_,.string x.s.tx,.int .i64 x.s.sub.id,.int .i64 x.s.sub.kind,.string x.s.sub.text,.slice x.a sn x.c]] X fun e w'=>e= .returned (.int .i64 n)∧Below X.heap.size X w':=fun X hX=>by
  rw[←hv,hn]
  exact J7 X X0 x h ((hb.trans (hb1.mono hb.size)).trans (hX.mono (NltQ hb.size hb1.size))) hs
 rw[hv,←hn]
 have HC:=hH hc
 have HI:=hH hi
 have HE:=hH (aN hB (aN hW1 (aN hb1 (aN r1' f2))))
 have HP:=hH (aN hp1 hq1)
 have HF:=hH f1
 obtain⟨z0,z1⟩:=Zz e0
 have zf:B.frozen? ⟨w.heap.size,0,none⟩=false:=forQ _ _ 0 _ _ e0
 clear hc hi hB hW1 hb1 r1 r1' f1 f2 r2 r3 r4 r5 r6 hbw hsz e0 e1 e2 hp1 hq1 h hb hs hp hq hn2 hni hn hv hsn
 go_enter Tryz.func94,Tryz.ntmps94
 go_upto_region 1 with fail
 change Code.wp _ _ _ _ (zy w [.cells #[.int .i64 p,.int .i64 q] 128,.cells #[.int .i8 x.s.op,.int .i64 x.s.id,.int .i64 x.s.par,.int .i64 x.s.at_,.string x.s.tx,.int .i64 x.s.sub.id,.int .i64 x.s.sub.kind,.string x.s.sub.text,.slice x.a sn x.c] 41,.cells #[.int .i64 0,.int .i64 0] 128])
 rw[←HE.out.1]
 go_upto_region 2 with fail
 rw[←HE.out.2.1]
 clear z0 z1 zf
 have hst:∀X,zb W1 X (fun y=>y=w.heap.size)→ue6 X (w.heap.size+1) x.s.op x.s.id x.s.par x.s.at_ x.s.tx x.s.sub.id x.s.sub.kind x.s.sub.text x.a sn x.c:=fun X hX=>vo ((hX.block _ (lohQ HF.out) om).trans HF.out)
 have HST:=hH hst
 clear hst
 refine wrhQ (S:=fun X=>zb W1 X (fun y=>y=w.heap.size)) kr1 (zb.refl _ _).drew (fun eH=>?_)
 refine tJ (i:=0) (.pointer (some ⟨w.heap.size,1,none⟩)) rfl ?_ ?_
 · exact ua2
 simp only[Act.put,pg]
 refine tJ (i:=2) (.agg #[.int .i8 x.s.op,.int .i64 x.s.id,.int .i64 x.s.par,.int .i64 x.s.at_,.string x.s.tx,.int .i64 x.s.sub.id,.int .i64 x.s.sub.kind,.string x.s.sub.text,.slice x.a sn x.c]) rfl ?_ ?_
 · exact ua2
 simp only[Act.put,pg]
 refine rd [1,3] ?_
 refine AcQ (o:=_) rfl (fun K hK=>?_) (AcQ (o:=_) rfl (fun K hK=>?_) AnQ)
 · skip
   rw[ipQ ue4]
   simp only[pg3]
   have HK:=hH hK
   have HS:=hH eH
   clear hK eH
   obtain⟨_,k1,_⟩:=HC.out W1 (BrQ _ _)
   go_wp2_with fail
   refine HK.out _ _ HS.out (fun eH=>?_)
   clear HK HS k1
   refine rd [3] ?_
   refine AcQ (o:=_) rfl (fun K hK=>?_) AnQ
   rw[ipQ ue4]
   simp only[pg3]
   have HK:=hH hK
   have HS:=hH eH
   clear hK eH
   go_wp2_with (go_at_call 95;refine (HI.out _ (below_drewN (BrQ _ W1) 1)).mono ?_;rintro e w4 ⟨rfl,hib⟩;have HIB:=hH ((below_drewN (BrQ _ W1) 1).trans hib);clear hib)
   refine HK.out _ _ ⟨HIB.out.os,HIB.out.tape,HIB.out.output,HIB.out.size,fun y h1 _=>HIB.out.block y h1⟩ (fun eH=>?_)
   clear HK HS
   exact sb1
 · skip
   rw[ipQ ue4]
   simp only[pg3]
   have HK:=hH hK
   have HS:=hH eH
   clear hK eH
   go_wp2_with (go_at_call 95;refine (HI.out _ (below_drewN (BrQ _ W1) 1)).mono ?_;rintro e w4 ⟨rfl,hib⟩;have HIB:=hH ((below_drewN (BrQ _ W1) 1).trans hib);clear hib)
   refine HK.out _ _ ⟨HIB.out.os,HIB.out.tape,HIB.out.output,HIB.out.size,fun y h1 _=>HIB.out.block y h1⟩ (fun eH=>?_)
   clear HK HS
   refine rd [1] ?_
   refine AcQ (o:=_) rfl (fun K hK=>?_) AnQ
   rw[ipQ ue4]
   simp only[pg3]
   have HK:=hH hK
   have HS:=hH eH
   clear hK eH
   obtain⟨_,k1,_⟩:=HC.out w4 HIB.out
   go_wp2_with fail
   refine HK.out _ _ HS.out (fun eH=>?_)
   clear HK HS k1
   exact sb1
end Go.Proofs.YtoidedomenkbpaaGreat
