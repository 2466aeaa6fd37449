/-
  .
-/
import Derived.Test.YtoidedomenkbpaaGreatWSameQs
set_option maxRecDepth 100000
set_option maxHeartbeats 40000000
namespace Go.Proofs.YtoidedomenkbpaaGreat
open Go.RowKit Go.Shelf
set_option linter.unusedVariables false
set_option linter.unusedSimpArgs false
def qi (s:Sf):Sf:=if s.op=1 then ⟨1,0,s.par,s.at_,⟨#[]⟩,s.sub⟩ else if s.op=2 then ⟨2,s.id,0,0,⟨#[]⟩,zN⟩ else if s.op=3 then ⟨3,s.id,s.par,s.at_,⟨#[]⟩,zN⟩ else if s.op=4 then ⟨4,s.id,0,0,s.tx,zN⟩ else ⟨s.op,0,0,0,⟨#[]⟩,zN⟩
def Y5 (s:Sf):Bool:=if s.op=1 then zA 1 1125899906842624 s.par && (zA 0 1125899906842624 s.at_ && yj s.sub) else if s.op=2 then zA 1 1125899906842624 s.id else if s.op=3 then zA 1 1125899906842624 s.id && (zA 1 1125899906842624 s.par && zA 0 1125899906842624 s.at_) else if s.op=4 then zA 1 1125899906842624 s.id && decide (s.tx.size≤40) else false
def vw (s:Sf):Bool:=Y5 s && eqS s (qi s)
theorem zcL {w:World}{b:Nat}{c0 c1 c2 c3 c4 c5 c6 c7 c8:Value}{T:TypeId}(h:w.heap[b]? =some (.cells #[c0,c1,c2,c3,c4,c5,c6,c7,c8] T (0,0))):w.cell? ⟨b,0,none⟩=some c0∧w.cell? ⟨b,1,none⟩=some c1∧w.cell? ⟨b,2,none⟩=some c2∧w.cell? ⟨b,3,none⟩=some c3∧w.cell? ⟨b,4,none⟩=some c4∧w.cell? ⟨b,5,none⟩=some c5∧w.cell? ⟨b,6,none⟩=some c6∧w.cell? ⟨b,7,none⟩=some c7∧w.cell? ⟨b,8,none⟩=some c8:=
 ⟨by rw[corQ _ _ 0 _ _ _ h];rfl,by rw[corQ _ _ 1 _ _ _ h];rfl,by rw[corQ _ _ 2 _ _ _ h];rfl,by rw[corQ _ _ 3 _ _ _ h];rfl,by rw[corQ _ _ 4 _ _ _ h];rfl,by rw[corQ _ _ 5 _ _ _ h];rfl,by rw[corQ _ _ 6 _ _ _ h];rfl,by rw[corQ _ _ 7 _ _ _ h];rfl,by rw[corQ _ _ 8 _ _ _ h];rfl⟩
theorem qW {w X:World}{B:Nat}(h:Below B w X)(n:Nat):Below B w { X with drawn:=X.drawn+n }:=⟨h.os,h.tape,h.output,h.size,h.block⟩
theorem zgR (w:World)(Sx:Nat→Prop)(id par at_:Int)(tx:ByteArray)(x:Tr)(sa:Option Addr)(sn sc:Nat)(hsn:sn=foLen x.kids)(hSx:∀y,Sx y→y<w.heap.size)(hcap:foLen x.kids≤sc)(hk:zQ w Sx x.kids sa)(hz:zh x.kids+1≤100000):
 Calls Tryz.prog 66 #[.agg #[.int .i8 1,.int .i64 id,.int .i64 par,.int .i64 at_,.string tx,.int .i64 x.id,.int .i64 x.kind,.string x.text,.slice sa sn sc]] w (ql (vw ⟨1,id,par,at_,tx,x⟩) w):=by
 obtain⟨B,hB⟩:∃B,B=w.alloc (.cells #[.int .i8 1,.int .i64 id,.int .i64 par,.int .i64 at_,.string tx,.int .i64 x.id,.int .i64 x.kind,.string x.text,.slice sa sn sc] 41):=⟨_,rfl⟩
 have hb:Below w.heap.size w B:=by rw[hB];exact (BrQ _ _).alloc (NlrQ _) _
 have eB:B.heap[w.heap.size]? =some (.cells #[.int .i8 1,.int .i64 id,.int .i64 par,.int .i64 at_,.string tx,.int .i64 x.id,.int .i64 x.kind,.string x.text,.slice sa sn sc] 41 (0,0)):=by rw[hB];exact hanQ _ _
 have HC:=hH (fun (Y:World) (hY:Below B.heap.size B Y)=>zcL ((hY.block _ (lohQ eB)).trans eB))
 have HB:=hH (aN hb hB)
 have HST:=hH (show vw ⟨1,id,par,at_,tx,x⟩=(zA 1 1125899906842624 par && (zA 0 1125899906842624 at_ && (yj x)) && eqS ⟨1,id,par,at_,tx,x⟩ ⟨1,0,par,at_,⟨#[]⟩,x⟩) from rfl)
 have hpl:∀X,Below w.heap.size w X→Calls Tryz.prog 112 #[.agg #[.int .i8 1,.int .i64 id,.int .i64 par,.int .i64 at_,.string tx,.int .i64 x.id,.int .i64 x.kind,.string x.text,.slice sa sn sc]] X (Z6 X Sx ⟨1,0,par,at_,⟨#[]⟩,x⟩):=fun X hX=>zj9 X Sx x id par at_ tx sa sn sc (fun y hy=>nL (hSx y hy) hX.size) ⟨sa,sc,by rw[hsn],hcap,hk.below hX hSx⟩ om1
 have hsm:∀(X:World) (ba:Option Addr) (m bc:Nat) (S2:Nat→Prop) (hm:m=foLen (⟨1,0,par,at_,⟨#[]⟩,x⟩:Sf).sub.kids) (hX:Below w.heap.size w X) (hS2:∀y,S2 y→y<X.heap.size) (h1:m≤bc) (h2:zQ X S2 (⟨1,0,par,at_,⟨#[]⟩,x⟩:Sf).sub.kids ba),Calls Tryz.prog 109 #[.agg #[.int .i8 1,.int .i64 id,.int .i64 par,.int .i64 at_,.string tx,.int .i64 x.id,.int .i64 x.kind,.string x.text,.slice sa sn sc],.agg #[.int .i8 (⟨1,0,par,at_,⟨#[]⟩,x⟩:Sf).op,.int .i64 (⟨1,0,par,at_,⟨#[]⟩,x⟩:Sf).id,.int .i64 (⟨1,0,par,at_,⟨#[]⟩,x⟩:Sf).par,.int .i64 (⟨1,0,par,at_,⟨#[]⟩,x⟩:Sf).at_,.string (⟨1,0,par,at_,⟨#[]⟩,x⟩:Sf).tx,.int .i64 (⟨1,0,par,at_,⟨#[]⟩,x⟩:Sf).sub.id,.int .i64 (⟨1,0,par,at_,⟨#[]⟩,x⟩:Sf).sub.kind,.string (⟨1,0,par,at_,⟨#[]⟩,x⟩:Sf).sub.text,.slice ba m bc]] X (EqC ⟨1,id,par,at_,tx,x⟩ ⟨1,0,par,at_,⟨#[]⟩,x⟩ X):=fun X ba m bc S2 hm hX hS2 h1 h2=>ZQ X Sx S2 ⟨1,id,par,at_,tx,x⟩ ⟨1,0,par,at_,⟨#[]⟩,x⟩ sa ba sn sc m bc hsn hm (fun y hy=>nL (hSx y hy) hX.size) hS2 hcap (by rw[←hm];exact h1) (hk.below hX hSx) h2 ud3 ud3
 have htr:∀X,Below w.heap.size w X→Calls Tryz.prog 69 #[.agg #[.int .i64 x.id,.int .i64 x.kind,.string x.text,.slice sa sn sc]] X (ql (yj x) X):=fun X hX=>Jj X Sx x sa sn sc hsn (fun y hy=>nL (hSx y hy) hX.size) (hk.below hX hSx)
 have HPL:=hH hpl
 have HSM:=hH hsm
 have HTR:=hH htr
 obtain⟨k0,k1,k2,k3,k4,k5,k6,k7,k8⟩:=HC.out B (BrQ _ _)
 clear hb hB eB hpl hsm hsn hSx hcap hk hz htr
 obtain⟨E,hE⟩:∃E,E=eqS ⟨1,id,par,at_,tx,x⟩ ⟨1,0,par,at_,⟨#[]⟩,x⟩:=⟨_,rfl⟩
 rw[←hE] at HST
 unfold EqC at HSM
 rw[←hE] at HSM
 clear hE
 go_enter Tryz.func66,Tryz.ntmps66
 go_upto_region 1 with fail
 change Code.wp _ _ _ _ (w.alloc (.cells #[.int .i8 1,.int .i64 id,.int .i64 par,.int .i64 at_,.string tx,.int .i64 x.id,.int .i64 x.kind,.string x.text,.slice sa sn sc] 41))
 rw[←HB.out.2]
 go_wp2_with fail
 refine (yP B par 1 1125899906842624).mono ?_
 intro e W1 hq
 cases hb0:zA 1 1125899906842624 par
 · rw[hb0] at hq
   exact sd5
 rw[hb0] at hq
 obtain⟨rfl,hb2⟩:=hq.t
 have HF0:=hH hb0
 have H1:=hH (hb2)
 clear hq hb2 k0 k1 k2 k3 k4 k5 k6 k7 k8 hb0
 obtain⟨k0,k1,k2,k3,k4,k5,k6,k7,k8⟩:=HC.out W1 H1.out
 go_wp2_with fail
 refine (yP W1 at_ 0 1125899906842624).mono ?_
 intro e W2 hq
 cases hb0:zA 0 1125899906842624 at_
 · rw[hb0] at hq
   exact sd7
 rw[hb0] at hq
 obtain⟨rfl,hb2⟩:=hq.t
 have HF1:=hH hb0
 have H2:=hH (H1.out.trans (hb2.mono H1.out.size))
 clear hq hb2 k0 k1 k2 k3 k4 k5 k6 k7 k8 hb0 H1
 obtain⟨k0,k1,k2,k3,k4,k5,k6,k7,k8⟩:=HC.out W2 H2.out
 go_wp2_with fail
 refine (HTR.out W2 (HB.out.1.trans (H2.out.mono HB.out.1.size))).mono ?_
 intro e W3 hq
 cases hb0:yj x
 · rw[hb0] at hq
   exact sf5
 rw[hb0] at hq
 obtain⟨rfl,hb2⟩:=hq.t
 have HF2:=hH hb0
 have H3:=hH (H2.out.trans (hb2.mono H2.out.size))
 clear hq hb2 k0 k1 k2 k3 k4 k5 k6 k7 k8 hb0 H2
 obtain⟨k0,k1,k2,k3,k4,k5,k6,k7,k8⟩:=HC.out W3 H3.out
 go_upto_region 16 with fail
 clear k0 k1 k2 k3 k4 k5 k6 k7 k8
 refine wrhQ (S:=fun X=>Below B.heap.size B X) kr1 (qW H3.out 1) (fun eH=>?_)
 refine tJ (i:=0) (.agg #[.int .i8 1,.int .i64 id,.int .i64 par,.int .i64 at_,.string tx,.int .i64 x.id,.int .i64 x.kind,.string x.text,.slice sa sn sc]) rfl ?_ ?_
 · exact ua5
 simp only[Act.put,pg]
 refine tJ (i:=1) (.agg #[.int .i8 1,.int .i64 id,.int .i64 par,.int .i64 at_,.string tx,.int .i64 x.id,.int .i64 x.kind,.string x.text,.slice sa sn sc]) rfl ?_ ?_
 · exact ua5
 simp only[Act.put,pg]
 refine rd1 [2] ?_
 refine AcQ (o:=_) rfl (fun K hK=>?_) AnQ
 rw[ipQ ue1]
 simp only[pg3]
 have HK:=hH hK
 have HS:=hH eH
 clear hK eH
 go_wp2_with (go_at_call 112;refine (HPL.out _ (HB.out.1.trans (HS.out.mono HB.out.1.size))).mono ?_;rintro e V1 ⟨_,rfl,⟨ya,yc,rfl,hyc,hyf⟩,hbv⟩;have HV:=hH (aN (HS.out.trans (hbv.mono HS.out.size)) (aN hyc hyf));clear hbv hyc hyf)
 obtain⟨ym,hym⟩:∃ym,ym=foLen (⟨1,0,par,at_,⟨#[]⟩,x⟩:Sf).sub.kids:=⟨_,rfl⟩
 exact sb2
theorem zgS (w:World)(Sx:Nat→Prop)(id par at_:Int)(tx:ByteArray)(x:Tr)(sa:Option Addr)(sn sc:Nat)(hsn:sn=foLen x.kids)(hSx:∀y,Sx y→y<w.heap.size)(hcap:foLen x.kids≤sc)(hk:zQ w Sx x.kids sa)(hz:zh x.kids+1≤100000):
 Calls Tryz.prog 66 #[.agg #[.int .i8 2,.int .i64 id,.int .i64 par,.int .i64 at_,.string tx,.int .i64 x.id,.int .i64 x.kind,.string x.text,.slice sa sn sc]] w (ql (vw ⟨2,id,par,at_,tx,x⟩) w):=by
 obtain⟨B,hB⟩:∃B,B=w.alloc (.cells #[.int .i8 2,.int .i64 id,.int .i64 par,.int .i64 at_,.string tx,.int .i64 x.id,.int .i64 x.kind,.string x.text,.slice sa sn sc] 41):=⟨_,rfl⟩
 have hb:Below w.heap.size w B:=by rw[hB];exact (BrQ _ _).alloc (NlrQ _) _
 have eB:B.heap[w.heap.size]? =some (.cells #[.int .i8 2,.int .i64 id,.int .i64 par,.int .i64 at_,.string tx,.int .i64 x.id,.int .i64 x.kind,.string x.text,.slice sa sn sc] 41 (0,0)):=by rw[hB];exact hanQ _ _
 have HC:=hH (fun (Y:World) (hY:Below B.heap.size B Y)=>zcL ((hY.block _ (lohQ eB)).trans eB))
 have HB:=hH (aN hb hB)
 have HST:=hH (show vw ⟨2,id,par,at_,tx,x⟩=(zA 1 1125899906842624 id && eqS ⟨2,id,par,at_,tx,x⟩ ⟨2,id,0,0,⟨#[]⟩,zN⟩) from rfl)
 have hpl:∀X,Below w.heap.size w X→Calls Tryz.prog 112 #[.agg #[.int .i8 2,.int .i64 id,.int .i64 par,.int .i64 at_,.string tx,.int .i64 x.id,.int .i64 x.kind,.string x.text,.slice sa sn sc]] X (Z6 X Sx ⟨2,id,0,0,⟨#[]⟩,zN⟩):=fun X hX=>zka X Sx id par at_ x.id x.kind tx x.text sa sn sc
 have hsm:∀(X:World) (ba:Option Addr) (m bc:Nat) (S2:Nat→Prop) (hm:m=foLen (⟨2,id,0,0,⟨#[]⟩,zN⟩:Sf).sub.kids) (hX:Below w.heap.size w X) (hS2:∀y,S2 y→y<X.heap.size) (h1:m≤bc) (h2:zQ X S2 (⟨2,id,0,0,⟨#[]⟩,zN⟩:Sf).sub.kids ba),Calls Tryz.prog 109 #[.agg #[.int .i8 2,.int .i64 id,.int .i64 par,.int .i64 at_,.string tx,.int .i64 x.id,.int .i64 x.kind,.string x.text,.slice sa sn sc],.agg #[.int .i8 (⟨2,id,0,0,⟨#[]⟩,zN⟩:Sf).op,.int .i64 (⟨2,id,0,0,⟨#[]⟩,zN⟩:Sf).id,.int .i64 (⟨2,id,0,0,⟨#[]⟩,zN⟩:Sf).par,.int .i64 (⟨2,id,0,0,⟨#[]⟩,zN⟩:Sf).at_,.string (⟨2,id,0,0,⟨#[]⟩,zN⟩:Sf).tx,.int .i64 (⟨2,id,0,0,⟨#[]⟩,zN⟩:Sf).sub.id,.int .i64 (⟨2,id,0,0,⟨#[]⟩,zN⟩:Sf).sub.kind,.string (⟨2,id,0,0,⟨#[]⟩,zN⟩:Sf).sub.text,.slice ba m bc]] X (EqC ⟨2,id,par,at_,tx,x⟩ ⟨2,id,0,0,⟨#[]⟩,zN⟩ X):=fun X ba m bc S2 hm hX hS2 h1 h2=>ZQ X Sx S2 ⟨2,id,par,at_,tx,x⟩ ⟨2,id,0,0,⟨#[]⟩,zN⟩ sa ba sn sc m bc hsn hm (fun y hy=>nL (hSx y hy) hX.size) hS2 hcap (by rw[←hm];exact h1) (hk.below hX hSx) h2 ud3 uc4
 have HPL:=hH hpl
 have HSM:=hH hsm
 obtain⟨k0,k1,k2,k3,k4,k5,k6,k7,k8⟩:=HC.out B (BrQ _ _)
 clear hb hB eB hpl hsm hsn hSx hcap hk hz
 obtain⟨E,hE⟩:∃E,E=eqS ⟨2,id,par,at_,tx,x⟩ ⟨2,id,0,0,⟨#[]⟩,zN⟩:=⟨_,rfl⟩
 rw[←hE] at HST
 unfold EqC at HSM
 rw[←hE] at HSM
 clear hE
 go_enter Tryz.func66,Tryz.ntmps66
 go_upto_region 1 with fail
 change Code.wp _ _ _ _ (w.alloc (.cells #[.int .i8 2,.int .i64 id,.int .i64 par,.int .i64 at_,.string tx,.int .i64 x.id,.int .i64 x.kind,.string x.text,.slice sa sn sc] 41))
 rw[←HB.out.2]
 go_wp2_with fail
 refine (yP B id 1 1125899906842624).mono ?_
 intro e W1 hq
 cases hb0:zA 1 1125899906842624 id
 · rw[hb0] at hq
   exact sd5
 rw[hb0] at hq
 obtain⟨rfl,hb2⟩:=hq.t
 have HF0:=hH hb0
 have H1:=hH (hb2)
 clear hq hb2 k0 k1 k2 k3 k4 k5 k6 k7 k8 hb0
 obtain⟨k0,k1,k2,k3,k4,k5,k6,k7,k8⟩:=HC.out W1 H1.out
 go_upto_region 16 with fail
 clear k0 k1 k2 k3 k4 k5 k6 k7 k8
 refine wrhQ (S:=fun X=>Below B.heap.size B X) kr1 (qW H1.out 1) (fun eH=>?_)
 refine tJ (i:=0) (.agg #[.int .i8 2,.int .i64 id,.int .i64 par,.int .i64 at_,.string tx,.int .i64 x.id,.int .i64 x.kind,.string x.text,.slice sa sn sc]) rfl ?_ ?_
 · exact ua5
 simp only[Act.put,pg]
 refine tJ (i:=1) (.agg #[.int .i8 2,.int .i64 id,.int .i64 par,.int .i64 at_,.string tx,.int .i64 x.id,.int .i64 x.kind,.string x.text,.slice sa sn sc]) rfl ?_ ?_
 · exact ua5
 simp only[Act.put,pg]
 refine rd1 [2] ?_
 refine AcQ (o:=_) rfl (fun K hK=>?_) AnQ
 rw[ipQ ue1]
 simp only[pg3]
 have HK:=hH hK
 have HS:=hH eH
 clear hK eH
 go_wp2_with (go_at_call 112;refine (HPL.out _ (HB.out.1.trans (HS.out.mono HB.out.1.size))).mono ?_;rintro e V1 ⟨_,rfl,⟨ya,yc,rfl,hyc,hyf⟩,hbv⟩;have HV:=hH (aN (HS.out.trans (hbv.mono HS.out.size)) (aN hyc hyf));clear hbv hyc hyf)
 obtain⟨ym,hym⟩:∃ym,ym=foLen (⟨2,id,0,0,⟨#[]⟩,zN⟩:Sf).sub.kids:=⟨_,rfl⟩
 rw[←hym]
 rw[←hym] at HV
 refine HK.out _ _ HV.out.1 (fun eH=>?_)
 clear HK HS
 have HSC:=hH (HSM.out V1 ya ym yc _ hym (HB.out.1.trans (HV.out.1.mono HB.out.1.size)) (fun y hy=>hy.2) HV.out.2.1 HV.out.2.2)
 clear hym
 refine rd1 [3] ?_
 refine AcQ (o:=_) rfl (fun K hK=>?_) AnQ
 rw[ipQ ue1]
 simp only[pg3]
 have HK:=hH hK
 have HS:=hH eH
 clear hK eH
 go_wp2_with (go_at_call 109;refine HSC.out.mono ?_;rintro e V2 ⟨rfl,hbv⟩;have HV2:=hH (HV.out.1.trans (hbv.mono HV.out.1.size));clear hbv)
 refine HK.out _ _ HV2.out (fun eH=>?_)
 clear HK HS HSC
 refine rd1 [4] ?_
 refine AcQ (o:=_) rfl (fun K hK=>?_) AnQ
 rw[ipQ ue1]
 simp only[pg3]
 have HK:=hH hK
 have HS:=hH eH
 clear hK eH
 cases E
 · go_wp2_with fail
   exact sc4
 go_wp2_with fail
 refine (yV V2 true).mono ?_
 intro e V3 hq;obtain⟨rfl,hb2⟩:=hq.t
 have HV3:=hH (HV2.out.trans (hb2.mono HV2.out.size))
 clear hq hb2
 refine HK.out _ _ HV3.out (fun eH=>?_)
 clear HK HS
 refine wpAnyH_done kr1 ?_ _
 clear eH
 go_wp2_with fail
 go_end0
 exact ql.yes (by rw[HST.out,HF0.out];rfl) (HB.out.1.trans (HV3.out.mono HB.out.1.size))
theorem zgT (w:World)(Sx:Nat→Prop)(id par at_:Int)(tx:ByteArray)(x:Tr)(sa:Option Addr)(sn sc:Nat)(hsn:sn=foLen x.kids)(hSx:∀y,Sx y→y<w.heap.size)(hcap:foLen x.kids≤sc)(hk:zQ w Sx x.kids sa)(hz:zh x.kids+1≤100000):
 Calls Tryz.prog 66 #[.agg #[.int .i8 3,.int .i64 id,.int .i64 par,.int .i64 at_,.string tx,.int .i64 x.id,.int .i64 x.kind,.string x.text,.slice sa sn sc]] w (ql (vw ⟨3,id,par,at_,tx,x⟩) w):=by
 obtain⟨B,hB⟩:∃B,B=w.alloc (.cells #[.int .i8 3,.int .i64 id,.int .i64 par,.int .i64 at_,.string tx,.int .i64 x.id,.int .i64 x.kind,.string x.text,.slice sa sn sc] 41):=⟨_,rfl⟩
 have hb:Below w.heap.size w B:=by rw[hB];exact (BrQ _ _).alloc (NlrQ _) _
 have eB:B.heap[w.heap.size]? =some (.cells #[.int .i8 3,.int .i64 id,.int .i64 par,.int .i64 at_,.string tx,.int .i64 x.id,.int .i64 x.kind,.string x.text,.slice sa sn sc] 41 (0,0)):=by rw[hB];exact hanQ _ _
 have HC:=hH (fun (Y:World) (hY:Below B.heap.size B Y)=>zcL ((hY.block _ (lohQ eB)).trans eB))
 have HB:=hH (aN hb hB)
 have HST:=hH (show vw ⟨3,id,par,at_,tx,x⟩=(zA 1 1125899906842624 id && (zA 1 1125899906842624 par && (zA 0 1125899906842624 at_)) && eqS ⟨3,id,par,at_,tx,x⟩ ⟨3,id,par,at_,⟨#[]⟩,zN⟩) from rfl)
 have hpl:∀X,Below w.heap.size w X→Calls Tryz.prog 112 #[.agg #[.int .i8 3,.int .i64 id,.int .i64 par,.int .i64 at_,.string tx,.int .i64 x.id,.int .i64 x.kind,.string x.text,.slice sa sn sc]] X (Z6 X Sx ⟨3,id,par,at_,⟨#[]⟩,zN⟩):=fun X hX=>zkb X Sx id par at_ x.id x.kind tx x.text sa sn sc
 have hsm:∀(X:World) (ba:Option Addr) (m bc:Nat) (S2:Nat→Prop) (hm:m=foLen (⟨3,id,par,at_,⟨#[]⟩,zN⟩:Sf).sub.kids) (hX:Below w.heap.size w X) (hS2:∀y,S2 y→y<X.heap.size) (h1:m≤bc) (h2:zQ X S2 (⟨3,id,par,at_,⟨#[]⟩,zN⟩:Sf).sub.kids ba),Calls Tryz.prog 109 #[.agg #[.int .i8 3,.int .i64 id,.int .i64 par,.int .i64 at_,.string tx,.int .i64 x.id,.int .i64 x.kind,.string x.text,.slice sa sn sc],.agg #[.int .i8 (⟨3,id,par,at_,⟨#[]⟩,zN⟩:Sf).op,.int .i64 (⟨3,id,par,at_,⟨#[]⟩,zN⟩:Sf).id,.int .i64 (⟨3,id,par,at_,⟨#[]⟩,zN⟩:Sf).par,.int .i64 (⟨3,id,par,at_,⟨#[]⟩,zN⟩:Sf).at_,.string (⟨3,id,par,at_,⟨#[]⟩,zN⟩:Sf).tx,.int .i64 (⟨3,id,par,at_,⟨#[]⟩,zN⟩:Sf).sub.id,.int .i64 (⟨3,id,par,at_,⟨#[]⟩,zN⟩:Sf).sub.kind,.string (⟨3,id,par,at_,⟨#[]⟩,zN⟩:Sf).sub.text,.slice ba m bc]] X (EqC ⟨3,id,par,at_,tx,x⟩ ⟨3,id,par,at_,⟨#[]⟩,zN⟩ X):=fun X ba m bc S2 hm hX hS2 h1 h2=>ZQ X Sx S2 ⟨3,id,par,at_,tx,x⟩ ⟨3,id,par,at_,⟨#[]⟩,zN⟩ sa ba sn sc m bc hsn hm (fun y hy=>nL (hSx y hy) hX.size) hS2 hcap (by rw[←hm];exact h1) (hk.below hX hSx) h2 ud3 uc4
 have HPL:=hH hpl
 have HSM:=hH hsm
 obtain⟨k0,k1,k2,k3,k4,k5,k6,k7,k8⟩:=HC.out B (BrQ _ _)
 clear hb hB eB hpl hsm hsn hSx hcap hk hz
 obtain⟨E,hE⟩:∃E,E=eqS ⟨3,id,par,at_,tx,x⟩ ⟨3,id,par,at_,⟨#[]⟩,zN⟩:=⟨_,rfl⟩
 rw[←hE] at HST
 unfold EqC at HSM
 rw[←hE] at HSM
 clear hE
 go_enter Tryz.func66,Tryz.ntmps66
 go_upto_region 1 with fail
 change Code.wp _ _ _ _ (w.alloc (.cells #[.int .i8 3,.int .i64 id,.int .i64 par,.int .i64 at_,.string tx,.int .i64 x.id,.int .i64 x.kind,.string x.text,.slice sa sn sc] 41))
 rw[←HB.out.2]
 go_wp2_with fail
 refine (yP B id 1 1125899906842624).mono ?_
 intro e W1 hq
 cases hb0:zA 1 1125899906842624 id
 · rw[hb0] at hq
   exact sd5
 rw[hb0] at hq
 obtain⟨rfl,hb2⟩:=hq.t
 have HF0:=hH hb0
 have H1:=hH (hb2)
 clear hq hb2 k0 k1 k2 k3 k4 k5 k6 k7 k8 hb0
 obtain⟨k0,k1,k2,k3,k4,k5,k6,k7,k8⟩:=HC.out W1 H1.out
 go_wp2_with fail
 refine (yP W1 par 1 1125899906842624).mono ?_
 intro e W2 hq
 cases hb0:zA 1 1125899906842624 par
 · rw[hb0] at hq
   exact sd7
 rw[hb0] at hq
 obtain⟨rfl,hb2⟩:=hq.t
 have HF1:=hH hb0
 have H2:=hH (H1.out.trans (hb2.mono H1.out.size))
 clear hq hb2 k0 k1 k2 k3 k4 k5 k6 k7 k8 hb0 H1
 obtain⟨k0,k1,k2,k3,k4,k5,k6,k7,k8⟩:=HC.out W2 H2.out
 go_wp2_with fail
 refine (yP W2 at_ 0 1125899906842624).mono ?_
 intro e W3 hq
 cases hb0:zA 0 1125899906842624 at_
 · rw[hb0] at hq
   exact sf5
 rw[hb0] at hq
 obtain⟨rfl,hb2⟩:=hq.t
 have HF2:=hH hb0
 have H3:=hH (H2.out.trans (hb2.mono H2.out.size))
 clear hq hb2 k0 k1 k2 k3 k4 k5 k6 k7 k8 hb0 H2
 obtain⟨k0,k1,k2,k3,k4,k5,k6,k7,k8⟩:=HC.out W3 H3.out
 go_upto_region 16 with fail
 clear k0 k1 k2 k3 k4 k5 k6 k7 k8
 refine wrhQ (S:=fun X=>Below B.heap.size B X) kr1 (qW H3.out 1) (fun eH=>?_)
 refine tJ (i:=0) (.agg #[.int .i8 3,.int .i64 id,.int .i64 par,.int .i64 at_,.string tx,.int .i64 x.id,.int .i64 x.kind,.string x.text,.slice sa sn sc]) rfl ?_ ?_
 · exact ua5
 simp only[Act.put,pg]
 refine tJ (i:=1) (.agg #[.int .i8 3,.int .i64 id,.int .i64 par,.int .i64 at_,.string tx,.int .i64 x.id,.int .i64 x.kind,.string x.text,.slice sa sn sc]) rfl ?_ ?_
 · exact ua5
 simp only[Act.put,pg]
 refine rd1 [2] ?_
 refine AcQ (o:=_) rfl (fun K hK=>?_) AnQ
 rw[ipQ ue1]
 simp only[pg3]
 have HK:=hH hK
 have HS:=hH eH
 clear hK eH
 go_wp2_with (go_at_call 112;refine (HPL.out _ (HB.out.1.trans (HS.out.mono HB.out.1.size))).mono ?_;rintro e V1 ⟨_,rfl,⟨ya,yc,rfl,hyc,hyf⟩,hbv⟩;have HV:=hH (aN (HS.out.trans (hbv.mono HS.out.size)) (aN hyc hyf));clear hbv hyc hyf)
 obtain⟨ym,hym⟩:∃ym,ym=foLen (⟨3,id,par,at_,⟨#[]⟩,zN⟩:Sf).sub.kids:=⟨_,rfl⟩
 exact sb2
theorem zgU (w:World)(Sx:Nat→Prop)(id par at_:Int)(tx:ByteArray)(x:Tr)(sa:Option Addr)(sn sc:Nat)(hsn:sn=foLen x.kids)(hSx:∀y,Sx y→y<w.heap.size)(hcap:foLen x.kids≤sc)(hk:zQ w Sx x.kids sa)(hz:zh x.kids+1≤100000):
 Calls Tryz.prog 66 #[.agg #[.int .i8 4,.int .i64 id,.int .i64 par,.int .i64 at_,.string tx,.int .i64 x.id,.int .i64 x.kind,.string x.text,.slice sa sn sc]] w (ql (vw ⟨4,id,par,at_,tx,x⟩) w):=by
 obtain⟨B,hB⟩:∃B,B=w.alloc (.cells #[.int .i8 4,.int .i64 id,.int .i64 par,.int .i64 at_,.string tx,.int .i64 x.id,.int .i64 x.kind,.string x.text,.slice sa sn sc] 41):=⟨_,rfl⟩
 have hb:Below w.heap.size w B:=by rw[hB];exact (BrQ _ _).alloc (NlrQ _) _
 have eB:B.heap[w.heap.size]? =some (.cells #[.int .i8 4,.int .i64 id,.int .i64 par,.int .i64 at_,.string tx,.int .i64 x.id,.int .i64 x.kind,.string x.text,.slice sa sn sc] 41 (0,0)):=by rw[hB];exact hanQ _ _
 have HC:=hH (fun (Y:World) (hY:Below B.heap.size B Y)=>zcL ((hY.block _ (lohQ eB)).trans eB))
 have HB:=hH (aN hb hB)
 have HST:=hH (show vw ⟨4,id,par,at_,tx,x⟩=(zA 1 1125899906842624 id && (decide (tx.size≤40)) && eqS ⟨4,id,par,at_,tx,x⟩ ⟨4,id,0,0,tx,zN⟩) from rfl)
 have hpl:∀X,Below w.heap.size w X→Calls Tryz.prog 112 #[.agg #[.int .i8 4,.int .i64 id,.int .i64 par,.int .i64 at_,.string tx,.int .i64 x.id,.int .i64 x.kind,.string x.text,.slice sa sn sc]] X (Z6 X Sx ⟨4,id,0,0,tx,zN⟩):=fun X hX=>zkc X Sx id par at_ x.id x.kind tx x.text sa sn sc
 have hsm:∀(X:World) (ba:Option Addr) (m bc:Nat) (S2:Nat→Prop) (hm:m=foLen (⟨4,id,0,0,tx,zN⟩:Sf).sub.kids) (hX:Below w.heap.size w X) (hS2:∀y,S2 y→y<X.heap.size) (h1:m≤bc) (h2:zQ X S2 (⟨4,id,0,0,tx,zN⟩:Sf).sub.kids ba),Calls Tryz.prog 109 #[.agg #[.int .i8 4,.int .i64 id,.int .i64 par,.int .i64 at_,.string tx,.int .i64 x.id,.int .i64 x.kind,.string x.text,.slice sa sn sc],.agg #[.int .i8 (⟨4,id,0,0,tx,zN⟩:Sf).op,.int .i64 (⟨4,id,0,0,tx,zN⟩:Sf).id,.int .i64 (⟨4,id,0,0,tx,zN⟩:Sf).par,.int .i64 (⟨4,id,0,0,tx,zN⟩:Sf).at_,.string (⟨4,id,0,0,tx,zN⟩:Sf).tx,.int .i64 (⟨4,id,0,0,tx,zN⟩:Sf).sub.id,.int .i64 (⟨4,id,0,0,tx,zN⟩:Sf).sub.kind,.string (⟨4,id,0,0,tx,zN⟩:Sf).sub.text,.slice ba m bc]] X (EqC ⟨4,id,par,at_,tx,x⟩ ⟨4,id,0,0,tx,zN⟩ X):=fun X ba m bc S2 hm hX hS2 h1 h2=>ZQ X Sx S2 ⟨4,id,par,at_,tx,x⟩ ⟨4,id,0,0,tx,zN⟩ sa ba sn sc m bc hsn hm (fun y hy=>nL (hSx y hy) hX.size) hS2 hcap (by rw[←hm];exact h1) (hk.below hX hSx) h2 ud3 uc4
 have HPL:=hH hpl
 have HSM:=hH hsm
 obtain⟨k0,k1,k2,k3,k4,k5,k6,k7,k8⟩:=HC.out B (BrQ _ _)
 clear hb hB eB hpl hsm hsn hSx hcap hk hz
 obtain⟨E,hE⟩:∃E,E=eqS ⟨4,id,par,at_,tx,x⟩ ⟨4,id,0,0,tx,zN⟩:=⟨_,rfl⟩
 rw[←hE] at HST
 unfold EqC at HSM
 rw[←hE] at HSM
 clear hE
 go_enter Tryz.func66,Tryz.ntmps66
 go_upto_region 1 with fail
 change Code.wp _ _ _ _ (w.alloc (.cells #[.int .i8 4,.int .i64 id,.int .i64 par,.int .i64 at_,.string tx,.int .i64 x.id,.int .i64 x.kind,.string x.text,.slice sa sn sc] 41))
 rw[←HB.out.2]
 go_wp2_with fail
 refine (yP B id 1 1125899906842624).mono ?_
 intro e W1 hq
 cases hb0:zA 1 1125899906842624 id
 · rw[hb0] at hq
   exact sd5
 rw[hb0] at hq
 obtain⟨rfl,hb2⟩:=hq.t
 have HF0:=hH hb0
 have H1:=hH (hb2)
 clear hq hb2 k0 k1 k2 k3 k4 k5 k6 k7 k8 hb0
 obtain⟨k0,k1,k2,k3,k4,k5,k6,k7,k8⟩:=HC.out W1 H1.out
 go_wp2_with fail
 refine (Ji W1 tx).mono ?_
 intro e W2 hq
 cases hb0:decide (tx.size≤40)
 · rw[hb0] at hq
   exact sd7
 rw[hb0] at hq
 obtain⟨rfl,hb2⟩:=hq.t
 have HF1:=hH hb0
 have H2:=hH (H1.out.trans (hb2.mono H1.out.size))
 clear hq hb2 k0 k1 k2 k3 k4 k5 k6 k7 k8 hb0 H1
 obtain⟨k0,k1,k2,k3,k4,k5,k6,k7,k8⟩:=HC.out W2 H2.out
 go_upto_region 16 with fail
 clear k0 k1 k2 k3 k4 k5 k6 k7 k8
 refine wrhQ (S:=fun X=>Below B.heap.size B X) kr1 (qW H2.out 1) (fun eH=>?_)
 refine tJ (i:=0) (.agg #[.int .i8 4,.int .i64 id,.int .i64 par,.int .i64 at_,.string tx,.int .i64 x.id,.int .i64 x.kind,.string x.text,.slice sa sn sc]) rfl ?_ ?_
 · exact ua5
 simp only[Act.put,pg]
 refine tJ (i:=1) (.agg #[.int .i8 4,.int .i64 id,.int .i64 par,.int .i64 at_,.string tx,.int .i64 x.id,.int .i64 x.kind,.string x.text,.slice sa sn sc]) rfl ?_ ?_
 · exact ua5
 simp only[Act.put,pg]
 refine rd1 [2] ?_
 refine AcQ (o:=_) rfl (fun K hK=>?_) AnQ
 rw[ipQ ue1]
 simp only[pg3]
 have HK:=hH hK
 have HS:=hH eH
 clear hK eH
 go_wp2_with (go_at_call 112;refine (HPL.out _ (HB.out.1.trans (HS.out.mono HB.out.1.size))).mono ?_;rintro e V1 ⟨_,rfl,⟨ya,yc,rfl,hyc,hyf⟩,hbv⟩;have HV:=hH (aN (HS.out.trans (hbv.mono HS.out.size)) (aN hyc hyf));clear hbv hyc hyf)
 obtain⟨ym,hym⟩:∃ym,ym=foLen (⟨4,id,0,0,tx,zN⟩:Sf).sub.kids:=⟨_,rfl⟩
 rw[←hym]
 rw[←hym] at HV
 refine HK.out _ _ HV.out.1 (fun eH=>?_)
 clear HK HS
 have HSC:=hH (HSM.out V1 ya ym yc _ hym (HB.out.1.trans (HV.out.1.mono HB.out.1.size)) (fun y hy=>hy.2) HV.out.2.1 HV.out.2.2)
 clear hym
 refine rd1 [3] ?_
 refine AcQ (o:=_) rfl (fun K hK=>?_) AnQ
 rw[ipQ ue1]
 simp only[pg3]
 have HK:=hH hK
 have HS:=hH eH
 clear hK eH
 go_wp2_with (go_at_call 109;refine HSC.out.mono ?_;rintro e V2 ⟨rfl,hbv⟩;have HV2:=hH (HV.out.1.trans (hbv.mono HV.out.1.size));clear hbv)
 refine HK.out _ _ HV2.out (fun eH=>?_)
 clear HK HS HSC
 refine rd1 [4] ?_
 refine AcQ (o:=_) rfl (fun K hK=>?_) AnQ
 rw[ipQ ue1]
 simp only[pg3]
 have HK:=hH hK
 have HS:=hH eH
 clear hK eH
 cases E
 · go_wp2_with fail
   exact sc4
 go_wp2_with fail
 refine (yV V2 true).mono ?_
 intro e V3 hq;obtain⟨rfl,hb2⟩:=hq.t
 have HV3:=hH (HV2.out.trans (hb2.mono HV2.out.size))
 clear hq hb2
 refine HK.out _ _ HV3.out (fun eH=>?_)
 clear HK HS
 refine wpAnyH_done kr1 ?_ _
 clear eH
 go_wp2_with fail
 go_end0
 exact ql.yes (by rw[HST.out,HF0.out,HF1.out];rfl) (HB.out.1.trans (HV3.out.mono HB.out.1.size))
theorem zaP (w:World)(op id par at_ xi xk:Int)(tx xt:ByteArray)(sa:Option Addr)(sn sc:Nat)(h1:¬op=1)(h2:¬op=2)(h3:¬op=3)(h4:¬op=4):
 Calls Tryz.prog 66 #[.agg #[.int .i8 op,.int .i64 id,.int .i64 par,.int .i64 at_,.string tx,.int .i64 xi,.int .i64 xk,.string xt,.slice sa sn sc]] w (ql false w):=by
 obtain⟨B,hB⟩:∃B,B=w.alloc (.cells #[.int .i8 op,.int .i64 id,.int .i64 par,.int .i64 at_,.string tx,.int .i64 xi,.int .i64 xk,.string xt,.slice sa sn sc] 41):=⟨_,rfl⟩
 have hb:Below w.heap.size w B:=by rw[hB];exact (BrQ _ _).alloc (NlrQ _) _
 have eB:B.heap[w.heap.size]? =some (.cells #[.int .i8 op,.int .i64 id,.int .i64 par,.int .i64 at_,.string tx,.int .i64 xi,.int .i64 xk,.string xt,.slice sa sn sc] 41 (0,0)):=by rw[hB];exact hanQ _ _
 have HB:=hH (aN hb hB)
 obtain⟨k0,k1,k2,k3,k4,k5,k6,k7,k8⟩:=zcL eB
 have q1:(op == 1)=false:=by simpa using h1
 have q2:(op == 2)=false:=by simpa using h2
 have q3:(op == 3)=false:=by simpa using h3
 have q4:(op == 4)=false:=by simpa using h4
 clear hb hB eB h1 h2 h3 h4
 go_enter Tryz.func66,Tryz.ntmps66
 go_upto_region 1 with fail
 change Code.wp _ _ _ _ (w.alloc (.cells #[.int .i8 op,.int .i64 id,.int .i64 par,.int .i64 at_,.string tx,.int .i64 xi,.int .i64 xk,.string xt,.slice sa sn sc] 41))
 rw[←HB.out.2]
 go_wp2_with fail
 refine (yV B false).mono ?_
 intro e W3 hq;obtain⟨rfl,hb2⟩:=hq.f
 exact⟨rfl,ql.no rfl (HB.out.1.trans (hb2.mono HB.out.1.size))⟩
theorem zcJ (w:World)(Sx:Nat→Prop)(s:Sf)(sa:Option Addr)(sn sc:Nat)(hsn:sn=foLen s.sub.kids)(hSx:∀y,Sx y→y<w.heap.size)(hcap:foLen s.sub.kids≤sc)(hk:zQ w Sx s.sub.kids sa)(hz:zh s.sub.kids+1≤100000):
 Calls Tryz.prog 66 #[.agg #[.int .i8 s.op,.int .i64 s.id,.int .i64 s.par,.int .i64 s.at_,.string s.tx,.int .i64 s.sub.id,.int .i64 s.sub.kind,.string s.sub.text,.slice sa sn sc]] w (ql (vw s) w):=by
 obtain⟨op,id,par,at_,tx,x⟩:=s
 by_cases h1:op=1
 · subst h1;exact zgR w Sx id par at_ tx x sa sn sc hsn hSx hcap hk hz
 by_cases h2:op=2
 · subst h2;exact zgS w Sx id par at_ tx x sa sn sc hsn hSx hcap hk hz
 by_cases h3:op=3
 · subst h3;exact zgT w Sx id par at_ tx x sa sn sc hsn hSx hcap hk hz
 by_cases h4:op=4
 · subst h4;exact zgU w Sx id par at_ tx x sa sn sc hsn hSx hcap hk hz
 have e:vw ⟨op,id,par,at_,tx,x⟩=false:=by
  unfold vw Y5
  simp only
  rw[inQ h1,inQ h2,inQ h3,inQ h4,Bool.false_and]
 rw[e]
 exact zaP w op id par at_ x.id x.kind tx x.text sa sn sc h1 h2 h3 h4
end Go.Proofs.YtoidedomenkbpaaGreat
