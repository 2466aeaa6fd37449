/-
  .
-/
import Derived.Test.YtoidedomenkbpaaGreatWStepQr
import Derived.Test.YtoidedomenkbpaaGreatWRPlainQr
set_option maxRecDepth 100000
set_option maxHeartbeats 40000000
namespace Go.Proofs.YtoidedomenkbpaaGreat
open Go.RowKit Go.Shelf
set_option linter.unusedVariables false
set_option linter.unusedSimpArgs false
theorem zhx (w:World)(Sx:Nat→Prop)(id par at_:Int)(tx:ByteArray)(x:Tr)(sa:Option Addr)(sn sc:Nat)(hsn:sn=foLen x.kids)(hSx:∀y,Sx y→y<w.heap.size)(hcap:foLen x.kids≤sc)(hk:zK w Sx x.kids sa)(hz:zh x.kids+1≤100000):
 Calls Tryz.prog 28 #[.agg #[.int .i8 1,.int .i64 id,.int .i64 par,.int .i64 at_,.string tx,.int .i64 x.id,.int .i64 x.kind,.string x.text,.slice sa sn sc]] w fun e w'=>e= .returned (.bool (yM ⟨1,id,par,at_,tx,x⟩))∧Below w.heap.size w w':=by
 obtain⟨B,hB⟩:∃B,B=w.alloc (.cells #[.int .i8 1,.int .i64 id,.int .i64 par,.int .i64 at_,.string tx,.int .i64 x.id,.int .i64 x.kind,.string x.text,.slice sa sn sc] 41):=⟨_,rfl⟩
 have hb:Below w.heap.size w B:=by rw[hB];exact (BrQ _ _).alloc (NlrQ _) _
 have eB:B.heap[w.heap.size]? =some (.cells #[.int .i8 1,.int .i64 id,.int .i64 par,.int .i64 at_,.string tx,.int .i64 x.id,.int .i64 x.kind,.string x.text,.slice sa sn sc] 41 (0,0)):=by rw[hB];exact hanQ _ _
 have HC:=hH (fun (Y:World) (hY:Below B.heap.size B Y)=>ZB ((hY.block _ (lohQ eB)).trans eB))
 have HB:=hH (aN hb hB)
 have HST:=hH (show yM ⟨1,id,par,at_,tx,x⟩=(zl 1 1125899906842624 par && (zl 0 1125899906842624 at_ && (zU x)) && eqS ⟨1,id,par,at_,tx,x⟩ ⟨1,0,par,at_,⟨#[]⟩,x⟩) from rfl)
 have hpl:∀X,Below w.heap.size w X→Calls Tryz.prog 67 #[.agg #[.int .i8 1,.int .i64 id,.int .i64 par,.int .i64 at_,.string tx,.int .i64 x.id,.int .i64 x.kind,.string x.text,.slice sa sn sc]] X (qj X Sx ⟨1,0,par,at_,⟨#[]⟩,x⟩):=fun X hX=>zgo X Sx x id par at_ tx sa sn sc (fun y hy=>nL (hSx y hy) hX.size) ⟨sa,sc,by rw[hsn],hcap,hk.below hX hSx⟩ om
 have hsm:∀(X:World) (ba:Option Addr) (m bc:Nat) (S2:Nat→Prop) (hm:m=foLen (⟨1,0,par,at_,⟨#[]⟩,x⟩:Sf).sub.kids) (hX:Below w.heap.size w X) (hS2:∀y,S2 y→y<X.heap.size) (h1:m≤bc) (h2:zK X S2 (⟨1,0,par,at_,⟨#[]⟩,x⟩:Sf).sub.kids ba),Calls Tryz.prog 43 #[.agg #[.int .i8 1,.int .i64 id,.int .i64 par,.int .i64 at_,.string tx,.int .i64 x.id,.int .i64 x.kind,.string x.text,.slice sa sn sc],.agg #[.int .i8 (⟨1,0,par,at_,⟨#[]⟩,x⟩:Sf).op,.int .i64 (⟨1,0,par,at_,⟨#[]⟩,x⟩:Sf).id,.int .i64 (⟨1,0,par,at_,⟨#[]⟩,x⟩:Sf).par,.int .i64 (⟨1,0,par,at_,⟨#[]⟩,x⟩:Sf).at_,.string (⟨1,0,par,at_,⟨#[]⟩,x⟩:Sf).tx,.int .i64 (⟨1,0,par,at_,⟨#[]⟩,x⟩:Sf).sub.id,.int .i64 (⟨1,0,par,at_,⟨#[]⟩,x⟩:Sf).sub.kind,.string (⟨1,0,par,at_,⟨#[]⟩,x⟩:Sf).sub.text,.slice ba m bc]] X (EqC ⟨1,id,par,at_,tx,x⟩ ⟨1,0,par,at_,⟨#[]⟩,x⟩ X):=fun X ba m bc S2 hm hX hS2 h1 h2=>jE X Sx S2 ⟨1,id,par,at_,tx,x⟩ ⟨1,0,par,at_,⟨#[]⟩,x⟩ sa ba sn sc m bc hsn hm (fun y hy=>nL (hSx y hy) hX.size) hS2 hcap ud4 (hk.below hX hSx) h2 ud5
 have htr:∀X,Below w.heap.size w X→Calls Tryz.prog 30 #[.agg #[.int .i64 x.id,.int .i64 x.kind,.string x.text,.slice sa sn sc]] X (fun e w'=>e= .returned (.bool (zU x))∧Below X.heap.size X w'):=fun X hX=>ZV X Sx x sa sn sc hsn (fun y hy=>nL (hSx y hy) hX.size) (hk.below hX hSx)
 have HPL:=hH hpl
 have HSM:=hH hsm
 have HTR:=hH htr
 clear hb hB eB hpl hsm hsn hSx hcap hk hz htr
 obtain⟨E,hE⟩:∃E,E=eqS ⟨1,id,par,at_,tx,x⟩ ⟨1,0,par,at_,⟨#[]⟩,x⟩:=⟨_,rfl⟩
 rw[←hE] at HST
 unfold EqC at HSM
 rw[←hE] at HSM
 clear hE
 go_enter Tryz.func28,Tryz.ntmps28
 go_upto_region 1 with fail
 change Code.wp _ _ _ _ (w.alloc (.cells #[.int .i8 1,.int .i64 id,.int .i64 par,.int .i64 at_,.string tx,.int .i64 x.id,.int .i64 x.kind,.string x.text,.slice sa sn sc] 41))
 rw[←HB.out.2]
 refine wrhQ (S:=fun X=>Below B.heap.size B X) kr1 (yD (BrQ _ _) 1) (fun eH=>?_)
 refine tJ (i:=0) (.agg #[.int .i8 1,.int .i64 id,.int .i64 par,.int .i64 at_,.string tx,.int .i64 x.id,.int .i64 x.kind,.string x.text,.slice sa sn sc]) rfl ?_ ?_
 · exact ua4
 simp only[Act.put,pg]
 refine tJ (i:=1) (.agg #[.int .i8 1,.int .i64 id,.int .i64 par,.int .i64 at_,.string tx,.int .i64 x.id,.int .i64 x.kind,.string x.text,.slice sa sn sc]) rfl ?_ ?_
 · exact ua4
 simp only[Act.put,pg]
 refine rd [2] ?_
 refine AcQ (o:=_) rfl (fun K hK=>?_) AnQ
 rw[ipQ ue4]
 simp only[pg3]
 have HK:=hH hK
 have HS:=hH eH
 clear hK eH
 go_wp2_with (go_at_call 67;refine (HPL.out _ (HB.out.1.trans (HS.out.mono HB.out.1.size))).mono ?_;rintro e V1 ⟨_,rfl,⟨ya,yc,rfl,hyc,hyf⟩,hbv⟩;have HV:=hH (aN (HS.out.trans (hbv.mono HS.out.size)) (aN hyc hyf));clear hbv hyc hyf)
 obtain⟨ym,hym⟩:∃ym,ym=foLen (⟨1,0,par,at_,⟨#[]⟩,x⟩:Sf).sub.kids:=⟨_,rfl⟩
 rw[←hym]
 rw[←hym] at HV
 refine HK.out _ _ HV.out.1 (fun eH=>?_)
 clear HK HS
 have HSC:=hH (HSM.out V1 ya ym yc _ hym (HB.out.1.trans (HV.out.1.mono HB.out.1.size)) (fun y hy=>hy.2) HV.out.2.1 HV.out.2.2)
 clear hym
 refine rd [3] ?_
 refine AcQ (o:=_) rfl (fun K hK=>?_) AnQ
 rw[ipQ ue4]
 simp only[pg3]
 have HK:=hH hK
 have HS:=hH eH
 clear hK eH
 go_wp2_with (go_at_call 43;refine HSC.out.mono ?_;rintro e V2 ⟨rfl,hbv⟩;have HV2:=hH (HV.out.1.trans (hbv.mono HV.out.1.size));clear hbv)
 refine HK.out _ _ HV2.out (fun eH=>?_)
 clear HK HS HSC
 refine tG (i:=4) (.bool E) rfl ?_
 simp only[Act.put,pg]
 refine wpAnyH_done kr1 ?_ _
 clear eH
 obtain⟨k0,k1,k2,k3,k4,k5,k6,k7,k8⟩:=HC.out V2 HV2.out
 cases E
 · go_wp2_with fail
   exact sf0
 go_wp2_with fail
 refine (zD V2 par 1).mono ?_
 rintro e w' ⟨rfl,hw'⟩
 rw[hw']
 cases hb0:zl 1 1125899906842624 par
 · clear hw'
   exact se7
 have HF0:=hH hb0
 clear hw' hb0
 go_wp2_with fail
 refine (zD V2 at_ 0).mono ?_
 rintro e w' ⟨rfl,hw'⟩
 rw[hw']
 cases hb0:zl 0 1125899906842624 at_
 · clear hw'
   go_wp2_with fail
   go_ret
   exact⟨by rw[HST.out,hb0,HF0.out];rfl,(HB.out.1.trans (HV2.out.mono HB.out.1.size))⟩
 have HF1:=hH hb0
 clear hw' hb0
 go_wp2_with fail
 refine (HTR.out V2 (HB.out.1.trans (HV2.out.mono HB.out.1.size))).mono ?_
 rintro e W9 ⟨rfl,hb2⟩
 have H9:=hH (HV2.out.trans (hb2.mono HV2.out.size))
 clear hb2
 obtain⟨q,hq⟩:∃q,q=zU x:=⟨_,rfl⟩
 rw[←hq]
 rw[←hq] at HST
 clear hq k0 k1 k2 k3 k4 k5 k6 k7 k8
 go_wp2_with fail
 go_ret
 exact⟨by rw[HST.out,HF0.out,HF1.out];cases q<;>rfl,(HB.out.1.trans (H9.out.mono HB.out.1.size))⟩
theorem zhy (w:World)(Sx:Nat→Prop)(id par at_:Int)(tx:ByteArray)(x:Tr)(sa:Option Addr)(sn sc:Nat)(hsn:sn=foLen x.kids)(hSx:∀y,Sx y→y<w.heap.size)(hcap:foLen x.kids≤sc)(hk:zK w Sx x.kids sa)(hz:zh x.kids+1≤100000):
 Calls Tryz.prog 28 #[.agg #[.int .i8 2,.int .i64 id,.int .i64 par,.int .i64 at_,.string tx,.int .i64 x.id,.int .i64 x.kind,.string x.text,.slice sa sn sc]] w fun e w'=>e= .returned (.bool (yM ⟨2,id,par,at_,tx,x⟩))∧Below w.heap.size w w':=by
 obtain⟨B,hB⟩:∃B,B=w.alloc (.cells #[.int .i8 2,.int .i64 id,.int .i64 par,.int .i64 at_,.string tx,.int .i64 x.id,.int .i64 x.kind,.string x.text,.slice sa sn sc] 41):=⟨_,rfl⟩
 have hb:Below w.heap.size w B:=by rw[hB];exact (BrQ _ _).alloc (NlrQ _) _
 have eB:B.heap[w.heap.size]? =some (.cells #[.int .i8 2,.int .i64 id,.int .i64 par,.int .i64 at_,.string tx,.int .i64 x.id,.int .i64 x.kind,.string x.text,.slice sa sn sc] 41 (0,0)):=by rw[hB];exact hanQ _ _
 have HC:=hH (fun (Y:World) (hY:Below B.heap.size B Y)=>ZB ((hY.block _ (lohQ eB)).trans eB))
 have HB:=hH (aN hb hB)
 have HST:=hH (show yM ⟨2,id,par,at_,tx,x⟩=(zl 1 1125899906842624 id && eqS ⟨2,id,par,at_,tx,x⟩ ⟨2,id,0,0,⟨#[]⟩,zo⟩) from rfl)
 have hpl:∀X,Below w.heap.size w X→Calls Tryz.prog 67 #[.agg #[.int .i8 2,.int .i64 id,.int .i64 par,.int .i64 at_,.string tx,.int .i64 x.id,.int .i64 x.kind,.string x.text,.slice sa sn sc]] X (qj X Sx ⟨2,id,0,0,⟨#[]⟩,zo⟩):=fun X hX=>zgp X Sx id par at_ x.id x.kind tx x.text sa sn sc
 have hsm:∀(X:World) (ba:Option Addr) (m bc:Nat) (S2:Nat→Prop) (hm:m=foLen (⟨2,id,0,0,⟨#[]⟩,zo⟩:Sf).sub.kids) (hX:Below w.heap.size w X) (hS2:∀y,S2 y→y<X.heap.size) (h1:m≤bc) (h2:zK X S2 (⟨2,id,0,0,⟨#[]⟩,zo⟩:Sf).sub.kids ba),Calls Tryz.prog 43 #[.agg #[.int .i8 2,.int .i64 id,.int .i64 par,.int .i64 at_,.string tx,.int .i64 x.id,.int .i64 x.kind,.string x.text,.slice sa sn sc],.agg #[.int .i8 (⟨2,id,0,0,⟨#[]⟩,zo⟩:Sf).op,.int .i64 (⟨2,id,0,0,⟨#[]⟩,zo⟩:Sf).id,.int .i64 (⟨2,id,0,0,⟨#[]⟩,zo⟩:Sf).par,.int .i64 (⟨2,id,0,0,⟨#[]⟩,zo⟩:Sf).at_,.string (⟨2,id,0,0,⟨#[]⟩,zo⟩:Sf).tx,.int .i64 (⟨2,id,0,0,⟨#[]⟩,zo⟩:Sf).sub.id,.int .i64 (⟨2,id,0,0,⟨#[]⟩,zo⟩:Sf).sub.kind,.string (⟨2,id,0,0,⟨#[]⟩,zo⟩:Sf).sub.text,.slice ba m bc]] X (EqC ⟨2,id,par,at_,tx,x⟩ ⟨2,id,0,0,⟨#[]⟩,zo⟩ X):=fun X ba m bc S2 hm hX hS2 h1 h2=>jE X Sx S2 ⟨2,id,par,at_,tx,x⟩ ⟨2,id,0,0,⟨#[]⟩,zo⟩ sa ba sn sc m bc hsn hm (fun y hy=>nL (hSx y hy) hX.size) hS2 hcap ud4 (hk.below hX hSx) h2 ud5
 have HPL:=hH hpl
 have HSM:=hH hsm
 clear hb hB eB hpl hsm hsn hSx hcap hk hz
 obtain⟨E,hE⟩:∃E,E=eqS ⟨2,id,par,at_,tx,x⟩ ⟨2,id,0,0,⟨#[]⟩,zo⟩:=⟨_,rfl⟩
 rw[←hE] at HST
 unfold EqC at HSM
 rw[←hE] at HSM
 clear hE
 go_enter Tryz.func28,Tryz.ntmps28
 go_upto_region 1 with fail
 change Code.wp _ _ _ _ (w.alloc (.cells #[.int .i8 2,.int .i64 id,.int .i64 par,.int .i64 at_,.string tx,.int .i64 x.id,.int .i64 x.kind,.string x.text,.slice sa sn sc] 41))
 rw[←HB.out.2]
 refine wrhQ (S:=fun X=>Below B.heap.size B X) kr1 (yD (BrQ _ _) 1) (fun eH=>?_)
 refine tJ (i:=0) (.agg #[.int .i8 2,.int .i64 id,.int .i64 par,.int .i64 at_,.string tx,.int .i64 x.id,.int .i64 x.kind,.string x.text,.slice sa sn sc]) rfl ?_ ?_
 · exact ua4
 simp only[Act.put,pg]
 refine tJ (i:=1) (.agg #[.int .i8 2,.int .i64 id,.int .i64 par,.int .i64 at_,.string tx,.int .i64 x.id,.int .i64 x.kind,.string x.text,.slice sa sn sc]) rfl ?_ ?_
 · exact ua4
 simp only[Act.put,pg]
 refine rd [2] ?_
 refine AcQ (o:=_) rfl (fun K hK=>?_) AnQ
 rw[ipQ ue4]
 simp only[pg3]
 have HK:=hH hK
 have HS:=hH eH
 clear hK eH
 go_wp2_with (go_at_call 67;refine (HPL.out _ (HB.out.1.trans (HS.out.mono HB.out.1.size))).mono ?_;rintro e V1 ⟨_,rfl,⟨ya,yc,rfl,hyc,hyf⟩,hbv⟩;have HV:=hH (aN (HS.out.trans (hbv.mono HS.out.size)) (aN hyc hyf));clear hbv hyc hyf)
 obtain⟨ym,hym⟩:∃ym,ym=foLen (⟨2,id,0,0,⟨#[]⟩,zo⟩:Sf).sub.kids:=⟨_,rfl⟩
 rw[←hym]
 rw[←hym] at HV
 refine HK.out _ _ HV.out.1 (fun eH=>?_)
 clear HK HS
 have HSC:=hH (HSM.out V1 ya ym yc _ hym (HB.out.1.trans (HV.out.1.mono HB.out.1.size)) (fun y hy=>hy.2) HV.out.2.1 HV.out.2.2)
 clear hym
 refine rd [3] ?_
 refine AcQ (o:=_) rfl (fun K hK=>?_) AnQ
 rw[ipQ ue4]
 simp only[pg3]
 have HK:=hH hK
 have HS:=hH eH
 clear hK eH
 go_wp2_with (go_at_call 43;refine HSC.out.mono ?_;rintro e V2 ⟨rfl,hbv⟩;have HV2:=hH (HV.out.1.trans (hbv.mono HV.out.1.size));clear hbv)
 refine HK.out _ _ HV2.out (fun eH=>?_)
 clear HK HS HSC
 refine tG (i:=4) (.bool E) rfl ?_
 simp only[Act.put,pg]
 refine wpAnyH_done kr1 ?_ _
 clear eH
 obtain⟨k0,k1,k2,k3,k4,k5,k6,k7,k8⟩:=HC.out V2 HV2.out
 cases E
 · go_wp2_with fail
   exact sf0
 go_wp2_with fail
 refine (zD V2 id 1).mono ?_
 rintro e w' ⟨rfl,hw'⟩
 rw[hw']
 cases hb0:zl 1 1125899906842624 id
 · clear hw'
   exact se7
 have HF0:=hH hb0
 clear hw' hb0
 go_wp2_with fail
 go_ret
 exact⟨by rw[HST.out,HF0.out];rfl,(HB.out.1.trans (HV2.out.mono HB.out.1.size))⟩
theorem zhz (w:World)(Sx:Nat→Prop)(id par at_:Int)(tx:ByteArray)(x:Tr)(sa:Option Addr)(sn sc:Nat)(hsn:sn=foLen x.kids)(hSx:∀y,Sx y→y<w.heap.size)(hcap:foLen x.kids≤sc)(hk:zK w Sx x.kids sa)(hz:zh x.kids+1≤100000):
 Calls Tryz.prog 28 #[.agg #[.int .i8 3,.int .i64 id,.int .i64 par,.int .i64 at_,.string tx,.int .i64 x.id,.int .i64 x.kind,.string x.text,.slice sa sn sc]] w fun e w'=>e= .returned (.bool (yM ⟨3,id,par,at_,tx,x⟩))∧Below w.heap.size w w':=by
 obtain⟨B,hB⟩:∃B,B=w.alloc (.cells #[.int .i8 3,.int .i64 id,.int .i64 par,.int .i64 at_,.string tx,.int .i64 x.id,.int .i64 x.kind,.string x.text,.slice sa sn sc] 41):=⟨_,rfl⟩
 have hb:Below w.heap.size w B:=by rw[hB];exact (BrQ _ _).alloc (NlrQ _) _
 have eB:B.heap[w.heap.size]? =some (.cells #[.int .i8 3,.int .i64 id,.int .i64 par,.int .i64 at_,.string tx,.int .i64 x.id,.int .i64 x.kind,.string x.text,.slice sa sn sc] 41 (0,0)):=by rw[hB];exact hanQ _ _
 have HC:=hH (fun (Y:World) (hY:Below B.heap.size B Y)=>ZB ((hY.block _ (lohQ eB)).trans eB))
 have HB:=hH (aN hb hB)
 have HST:=hH (show yM ⟨3,id,par,at_,tx,x⟩=(zl 1 1125899906842624 id && (zl 1 1125899906842624 par && (zl 0 1125899906842624 at_)) && eqS ⟨3,id,par,at_,tx,x⟩ ⟨3,id,par,at_,⟨#[]⟩,zo⟩) from rfl)
 have hpl:∀X,Below w.heap.size w X→Calls Tryz.prog 67 #[.agg #[.int .i8 3,.int .i64 id,.int .i64 par,.int .i64 at_,.string tx,.int .i64 x.id,.int .i64 x.kind,.string x.text,.slice sa sn sc]] X (qj X Sx ⟨3,id,par,at_,⟨#[]⟩,zo⟩):=fun X hX=>zgq X Sx id par at_ x.id x.kind tx x.text sa sn sc
 have hsm:∀(X:World) (ba:Option Addr) (m bc:Nat) (S2:Nat→Prop) (hm:m=foLen (⟨3,id,par,at_,⟨#[]⟩,zo⟩:Sf).sub.kids) (hX:Below w.heap.size w X) (hS2:∀y,S2 y→y<X.heap.size) (h1:m≤bc) (h2:zK X S2 (⟨3,id,par,at_,⟨#[]⟩,zo⟩:Sf).sub.kids ba),Calls Tryz.prog 43 #[.agg #[.int .i8 3,.int .i64 id,.int .i64 par,.int .i64 at_,.string tx,.int .i64 x.id,.int .i64 x.kind,.string x.text,.slice sa sn sc],.agg #[.int .i8 (⟨3,id,par,at_,⟨#[]⟩,zo⟩:Sf).op,.int .i64 (⟨3,id,par,at_,⟨#[]⟩,zo⟩:Sf).id,.int .i64 (⟨3,id,par,at_,⟨#[]⟩,zo⟩:Sf).par,.int .i64 (⟨3,id,par,at_,⟨#[]⟩,zo⟩:Sf).at_,.string (⟨3,id,par,at_,⟨#[]⟩,zo⟩:Sf).tx,.int .i64 (⟨3,id,par,at_,⟨#[]⟩,zo⟩:Sf).sub.id,.int .i64 (⟨3,id,par,at_,⟨#[]⟩,zo⟩:Sf).sub.kind,.string (⟨3,id,par,at_,⟨#[]⟩,zo⟩:Sf).sub.text,.slice ba m bc]] X (EqC ⟨3,id,par,at_,tx,x⟩ ⟨3,id,par,at_,⟨#[]⟩,zo⟩ X):=fun X ba m bc S2 hm hX hS2 h1 h2=>jE X Sx S2 ⟨3,id,par,at_,tx,x⟩ ⟨3,id,par,at_,⟨#[]⟩,zo⟩ sa ba sn sc m bc hsn hm (fun y hy=>nL (hSx y hy) hX.size) hS2 hcap ud4 (hk.below hX hSx) h2 ud5
 have HPL:=hH hpl
 have HSM:=hH hsm
 clear hb hB eB hpl hsm hsn hSx hcap hk hz
 obtain⟨E,hE⟩:∃E,E=eqS ⟨3,id,par,at_,tx,x⟩ ⟨3,id,par,at_,⟨#[]⟩,zo⟩:=⟨_,rfl⟩
 rw[←hE] at HST
 unfold EqC at HSM
 rw[←hE] at HSM
 clear hE
 go_enter Tryz.func28,Tryz.ntmps28
 go_upto_region 1 with fail
 change Code.wp _ _ _ _ (w.alloc (.cells #[.int .i8 3,.int .i64 id,.int .i64 par,.int .i64 at_,.string tx,.int .i64 x.id,.int .i64 x.kind,.string x.text,.slice sa sn sc] 41))
 rw[←HB.out.2]
 refine wrhQ (S:=fun X=>Below B.heap.size B X) kr1 (yD (BrQ _ _) 1) (fun eH=>?_)
 refine tJ (i:=0) (.agg #[.int .i8 3,.int .i64 id,.int .i64 par,.int .i64 at_,.string tx,.int .i64 x.id,.int .i64 x.kind,.string x.text,.slice sa sn sc]) rfl ?_ ?_
 · exact ua4
 simp only[Act.put,pg]
 refine tJ (i:=1) (.agg #[.int .i8 3,.int .i64 id,.int .i64 par,.int .i64 at_,.string tx,.int .i64 x.id,.int .i64 x.kind,.string x.text,.slice sa sn sc]) rfl ?_ ?_
 · exact ua4
 simp only[Act.put,pg]
 refine rd [2] ?_
 refine AcQ (o:=_) rfl (fun K hK=>?_) AnQ
 rw[ipQ ue4]
 simp only[pg3]
 have HK:=hH hK
 have HS:=hH eH
 clear hK eH
 go_wp2_with (go_at_call 67;refine (HPL.out _ (HB.out.1.trans (HS.out.mono HB.out.1.size))).mono ?_;rintro e V1 ⟨_,rfl,⟨ya,yc,rfl,hyc,hyf⟩,hbv⟩;have HV:=hH (aN (HS.out.trans (hbv.mono HS.out.size)) (aN hyc hyf));clear hbv hyc hyf)
 obtain⟨ym,hym⟩:∃ym,ym=foLen (⟨3,id,par,at_,⟨#[]⟩,zo⟩:Sf).sub.kids:=⟨_,rfl⟩
 rw[←hym]
 rw[←hym] at HV
 refine HK.out _ _ HV.out.1 (fun eH=>?_)
 clear HK HS
 have HSC:=hH (HSM.out V1 ya ym yc _ hym (HB.out.1.trans (HV.out.1.mono HB.out.1.size)) (fun y hy=>hy.2) HV.out.2.1 HV.out.2.2)
 clear hym
 refine rd [3] ?_
 refine AcQ (o:=_) rfl (fun K hK=>?_) AnQ
 rw[ipQ ue4]
 simp only[pg3]
 have HK:=hH hK
 have HS:=hH eH
 clear hK eH
 go_wp2_with (go_at_call 43;refine HSC.out.mono ?_;rintro e V2 ⟨rfl,hbv⟩;have HV2:=hH (HV.out.1.trans (hbv.mono HV.out.1.size));clear hbv)
 refine HK.out _ _ HV2.out (fun eH=>?_)
 clear HK HS HSC
 refine tG (i:=4) (.bool E) rfl ?_
 simp only[Act.put,pg]
 refine wpAnyH_done kr1 ?_ _
 clear eH
 obtain⟨k0,k1,k2,k3,k4,k5,k6,k7,k8⟩:=HC.out V2 HV2.out
 cases E
 · go_wp2_with fail
   exact sf0
 go_wp2_with fail
 refine (zD V2 id 1).mono ?_
 rintro e w' ⟨rfl,hw'⟩
 rw[hw']
 cases hb0:zl 1 1125899906842624 id
 · clear hw'
   exact se7
 have HF0:=hH hb0
 clear hw' hb0
 go_wp2_with fail
 refine (zD V2 par 1).mono ?_
 rintro e w' ⟨rfl,hw'⟩
 rw[hw']
 cases hb0:zl 1 1125899906842624 par
 · clear hw'
   go_wp2_with fail
   go_ret
   exact⟨by rw[HST.out,hb0,HF0.out];rfl,(HB.out.1.trans (HV2.out.mono HB.out.1.size))⟩
 have HF1:=hH hb0
 clear hw' hb0
 go_wp2_with fail
 refine (zD V2 at_ 0).mono ?_
 rintro e w' ⟨rfl,hw'⟩
 rw[hw']
 cases hb0:zl 0 1125899906842624 at_
 · clear hw'
   go_wp2_with fail
   go_ret
   exact⟨by rw[HST.out,hb0,HF0.out,HF1.out];rfl,(HB.out.1.trans (HV2.out.mono HB.out.1.size))⟩
 have HF2:=hH hb0
 clear hw' hb0
 go_wp2_with fail
 go_ret
 exact⟨by rw[HST.out,HF0.out,HF1.out,HF2.out];rfl,(HB.out.1.trans (HV2.out.mono HB.out.1.size))⟩
theorem zhA (w:World)(Sx:Nat→Prop)(id par at_:Int)(tx:ByteArray)(x:Tr)(sa:Option Addr)(sn sc:Nat)(hsn:sn=foLen x.kids)(hSx:∀y,Sx y→y<w.heap.size)(hcap:foLen x.kids≤sc)(hk:zK w Sx x.kids sa)(hz:zh x.kids+1≤100000):
 Calls Tryz.prog 28 #[.agg #[.int .i8 4,.int .i64 id,.int .i64 par,.int .i64 at_,.string tx,.int .i64 x.id,.int .i64 x.kind,.string x.text,.slice sa sn sc]] w fun e w'=>e= .returned (.bool (yM ⟨4,id,par,at_,tx,x⟩))∧Below w.heap.size w w':=by
 obtain⟨B,hB⟩:∃B,B=w.alloc (.cells #[.int .i8 4,.int .i64 id,.int .i64 par,.int .i64 at_,.string tx,.int .i64 x.id,.int .i64 x.kind,.string x.text,.slice sa sn sc] 41):=⟨_,rfl⟩
 have hb:Below w.heap.size w B:=by rw[hB];exact (BrQ _ _).alloc (NlrQ _) _
 have eB:B.heap[w.heap.size]? =some (.cells #[.int .i8 4,.int .i64 id,.int .i64 par,.int .i64 at_,.string tx,.int .i64 x.id,.int .i64 x.kind,.string x.text,.slice sa sn sc] 41 (0,0)):=by rw[hB];exact hanQ _ _
 have HC:=hH (fun (Y:World) (hY:Below B.heap.size B Y)=>ZB ((hY.block _ (lohQ eB)).trans eB))
 have HB:=hH (aN hb hB)
 have HST:=hH (show yM ⟨4,id,par,at_,tx,x⟩=(zl 1 1125899906842624 id && (decide (tx.size≤40)) && eqS ⟨4,id,par,at_,tx,x⟩ ⟨4,id,0,0,tx,zo⟩) from rfl)
 have hpl:∀X,Below w.heap.size w X→Calls Tryz.prog 67 #[.agg #[.int .i8 4,.int .i64 id,.int .i64 par,.int .i64 at_,.string tx,.int .i64 x.id,.int .i64 x.kind,.string x.text,.slice sa sn sc]] X (qj X Sx ⟨4,id,0,0,tx,zo⟩):=fun X hX=>zgr X Sx id par at_ x.id x.kind tx x.text sa sn sc
 have hsm:∀(X:World) (ba:Option Addr) (m bc:Nat) (S2:Nat→Prop) (hm:m=foLen (⟨4,id,0,0,tx,zo⟩:Sf).sub.kids) (hX:Below w.heap.size w X) (hS2:∀y,S2 y→y<X.heap.size) (h1:m≤bc) (h2:zK X S2 (⟨4,id,0,0,tx,zo⟩:Sf).sub.kids ba),Calls Tryz.prog 43 #[.agg #[.int .i8 4,.int .i64 id,.int .i64 par,.int .i64 at_,.string tx,.int .i64 x.id,.int .i64 x.kind,.string x.text,.slice sa sn sc],.agg #[.int .i8 (⟨4,id,0,0,tx,zo⟩:Sf).op,.int .i64 (⟨4,id,0,0,tx,zo⟩:Sf).id,.int .i64 (⟨4,id,0,0,tx,zo⟩:Sf).par,.int .i64 (⟨4,id,0,0,tx,zo⟩:Sf).at_,.string (⟨4,id,0,0,tx,zo⟩:Sf).tx,.int .i64 (⟨4,id,0,0,tx,zo⟩:Sf).sub.id,.int .i64 (⟨4,id,0,0,tx,zo⟩:Sf).sub.kind,.string (⟨4,id,0,0,tx,zo⟩:Sf).sub.text,.slice ba m bc]] X (EqC ⟨4,id,par,at_,tx,x⟩ ⟨4,id,0,0,tx,zo⟩ X):=fun X ba m bc S2 hm hX hS2 h1 h2=>jE X Sx S2 ⟨4,id,par,at_,tx,x⟩ ⟨4,id,0,0,tx,zo⟩ sa ba sn sc m bc hsn hm (fun y hy=>nL (hSx y hy) hX.size) hS2 hcap ud4 (hk.below hX hSx) h2 ud5
 have HPL:=hH hpl
 have HSM:=hH hsm
 clear hb hB eB hpl hsm hsn hSx hcap hk hz
 obtain⟨E,hE⟩:∃E,E=eqS ⟨4,id,par,at_,tx,x⟩ ⟨4,id,0,0,tx,zo⟩:=⟨_,rfl⟩
 rw[←hE] at HST
 unfold EqC at HSM
 rw[←hE] at HSM
 clear hE
 go_enter Tryz.func28,Tryz.ntmps28
 go_upto_region 1 with fail
 change Code.wp _ _ _ _ (w.alloc (.cells #[.int .i8 4,.int .i64 id,.int .i64 par,.int .i64 at_,.string tx,.int .i64 x.id,.int .i64 x.kind,.string x.text,.slice sa sn sc] 41))
 rw[←HB.out.2]
 refine wrhQ (S:=fun X=>Below B.heap.size B X) kr1 (yD (BrQ _ _) 1) (fun eH=>?_)
 refine tJ (i:=0) (.agg #[.int .i8 4,.int .i64 id,.int .i64 par,.int .i64 at_,.string tx,.int .i64 x.id,.int .i64 x.kind,.string x.text,.slice sa sn sc]) rfl ?_ ?_
 · exact ua4
 simp only[Act.put,pg]
 refine tJ (i:=1) (.agg #[.int .i8 4,.int .i64 id,.int .i64 par,.int .i64 at_,.string tx,.int .i64 x.id,.int .i64 x.kind,.string x.text,.slice sa sn sc]) rfl ?_ ?_
 · exact ua4
 simp only[Act.put,pg]
 refine rd [2] ?_
 refine AcQ (o:=_) rfl (fun K hK=>?_) AnQ
 rw[ipQ ue4]
 simp only[pg3]
 have HK:=hH hK
 have HS:=hH eH
 clear hK eH
 go_wp2_with (go_at_call 67;refine (HPL.out _ (HB.out.1.trans (HS.out.mono HB.out.1.size))).mono ?_;rintro e V1 ⟨_,rfl,⟨ya,yc,rfl,hyc,hyf⟩,hbv⟩;have HV:=hH (aN (HS.out.trans (hbv.mono HS.out.size)) (aN hyc hyf));clear hbv hyc hyf)
 obtain⟨ym,hym⟩:∃ym,ym=foLen (⟨4,id,0,0,tx,zo⟩:Sf).sub.kids:=⟨_,rfl⟩
 rw[←hym]
 rw[←hym] at HV
 refine HK.out _ _ HV.out.1 (fun eH=>?_)
 clear HK HS
 have HSC:=hH (HSM.out V1 ya ym yc _ hym (HB.out.1.trans (HV.out.1.mono HB.out.1.size)) (fun y hy=>hy.2) HV.out.2.1 HV.out.2.2)
 clear hym
 refine rd [3] ?_
 refine AcQ (o:=_) rfl (fun K hK=>?_) AnQ
 rw[ipQ ue4]
 simp only[pg3]
 have HK:=hH hK
 have HS:=hH eH
 clear hK eH
 go_wp2_with (go_at_call 43;refine HSC.out.mono ?_;rintro e V2 ⟨rfl,hbv⟩;have HV2:=hH (HV.out.1.trans (hbv.mono HV.out.1.size));clear hbv)
 refine HK.out _ _ HV2.out (fun eH=>?_)
 clear HK HS HSC
 refine tG (i:=4) (.bool E) rfl ?_
 simp only[Act.put,pg]
 refine wpAnyH_done kr1 ?_ _
 clear eH
 obtain⟨k0,k1,k2,k3,k4,k5,k6,k7,k8⟩:=HC.out V2 HV2.out
 cases E
 · go_wp2_with fail
   exact sf0
 go_wp2_with fail
 refine (zD V2 id 1).mono ?_
 rintro e w' ⟨rfl,hw'⟩
 rw[hw']
 cases hb0:zl 1 1125899906842624 id
 · clear hw'
   exact se7
 have HF0:=hH hb0
 clear hw' hb0
 by_cases h40:tx.size≤40
 · have g40:(tx.size:Int)≤40:=by omega
   have HF9:=hH (show decide (tx.size≤40)=true from decide_eq_true h40)
   clear h40
   go_wp2_with fail
   go_ret
   exact⟨by rw[HST.out,HF0.out,HF9.out];rfl,(HB.out.1.trans (HV2.out.mono HB.out.1.size))⟩
 · have g40:¬(tx.size:Int)≤40:=by omega
   have HF9:=hH (show decide (tx.size≤40)=false from decide_eq_false h40)
   clear h40
   go_wp2_with fail
   go_ret
   exact⟨by show Ending.returned (.bool (decide ((tx.size:Int)≤40)))=_;rw[decide_eq_false om,HST.out,HF0.out,HF9.out];rfl,(HB.out.1.trans (HV2.out.mono HB.out.1.size))⟩
theorem zhw (w:World)(Sx:Nat→Prop)(op id par at_:Int)(tx:ByteArray)(x:Tr)(sa:Option Addr)(sn sc:Nat)(hsn:sn=foLen x.kids)(hSx:∀y,Sx y→y<w.heap.size)(hcap:foLen x.kids≤sc)(hk:zK w Sx x.kids sa)(hz:zh x.kids+1≤100000)(h1:¬op=1)(h2:¬op=2)(h3:¬op=3)(h4:¬op=4):
 Calls Tryz.prog 28 #[.agg #[.int .i8 op,.int .i64 id,.int .i64 par,.int .i64 at_,.string tx,.int .i64 x.id,.int .i64 x.kind,.string x.text,.slice sa sn sc]] w fun e w'=>e= .returned (.bool (yM ⟨op,id,par,at_,tx,x⟩))∧Below w.heap.size w w':=by
 obtain⟨B,hB⟩:∃B,B=w.alloc (.cells #[.int .i8 op,.int .i64 id,.int .i64 par,.int .i64 at_,.string tx,.int .i64 x.id,.int .i64 x.kind,.string x.text,.slice sa sn sc] 41):=⟨_,rfl⟩
 have hb:Below w.heap.size w B:=by rw[hB];exact (BrQ _ _).alloc (NlrQ _) _
 have eB:B.heap[w.heap.size]? =some (.cells #[.int .i8 op,.int .i64 id,.int .i64 par,.int .i64 at_,.string tx,.int .i64 x.id,.int .i64 x.kind,.string x.text,.slice sa sn sc] 41 (0,0)):=by rw[hB];exact hanQ _ _
 have HC:=hH (fun (Y:World) (hY:Below B.heap.size B Y)=>ZB ((hY.block _ (lohQ eB)).trans eB))
 have HB:=hH (aN hb hB)
 have HST:=hH (show yM ⟨op,id,par,at_,tx,x⟩=false by unfold yM zaa;simp only;rw[inQ h1,inQ h2,inQ h3,inQ h4,Bool.false_and])
 have hpl:∀X,Below w.heap.size w X→Calls Tryz.prog 67 #[.agg #[.int .i8 op,.int .i64 id,.int .i64 par,.int .i64 at_,.string tx,.int .i64 x.id,.int .i64 x.kind,.string x.text,.slice sa sn sc]] X (qj X Sx ⟨op,0,0,0,⟨#[]⟩,zo⟩):=fun X hX=>zgn X Sx op id par at_ x.id x.kind tx x.text sa sn sc h1 h2 h3 h4
 have hsm:∀(X:World) (ba:Option Addr) (m bc:Nat) (S2:Nat→Prop) (hm:m=foLen (⟨op,0,0,0,⟨#[]⟩,zo⟩:Sf).sub.kids) (hX:Below w.heap.size w X) (hS2:∀y,S2 y→y<X.heap.size) (h1:m≤bc) (h2:zK X S2 (⟨op,0,0,0,⟨#[]⟩,zo⟩:Sf).sub.kids ba),Calls Tryz.prog 43 #[.agg #[.int .i8 op,.int .i64 id,.int .i64 par,.int .i64 at_,.string tx,.int .i64 x.id,.int .i64 x.kind,.string x.text,.slice sa sn sc],.agg #[.int .i8 (⟨op,0,0,0,⟨#[]⟩,zo⟩:Sf).op,.int .i64 (⟨op,0,0,0,⟨#[]⟩,zo⟩:Sf).id,.int .i64 (⟨op,0,0,0,⟨#[]⟩,zo⟩:Sf).par,.int .i64 (⟨op,0,0,0,⟨#[]⟩,zo⟩:Sf).at_,.string (⟨op,0,0,0,⟨#[]⟩,zo⟩:Sf).tx,.int .i64 (⟨op,0,0,0,⟨#[]⟩,zo⟩:Sf).sub.id,.int .i64 (⟨op,0,0,0,⟨#[]⟩,zo⟩:Sf).sub.kind,.string (⟨op,0,0,0,⟨#[]⟩,zo⟩:Sf).sub.text,.slice ba m bc]] X (EqC ⟨op,id,par,at_,tx,x⟩ ⟨op,0,0,0,⟨#[]⟩,zo⟩ X):=fun X ba m bc S2 hm hX hS2 h1 h2=>jE X Sx S2 ⟨op,id,par,at_,tx,x⟩ ⟨op,0,0,0,⟨#[]⟩,zo⟩ sa ba sn sc m bc hsn hm (fun y hy=>nL (hSx y hy) hX.size) hS2 hcap ud4 (hk.below hX hSx) h2 ud5
 have HPL:=hH hpl
 have HSM:=hH hsm
 have q1:(op == 1)=false:=by simpa using h1
 have q2:(op == 2)=false:=by simpa using h2
 have q3:(op == 3)=false:=by simpa using h3
 have q4:(op == 4)=false:=by simpa using h4
 clear hb hB eB hpl hsm hsn hSx hcap hk hz h1 h2 h3 h4
 obtain⟨E,hE⟩:∃E,E=eqS ⟨op,id,par,at_,tx,x⟩ ⟨op,0,0,0,⟨#[]⟩,zo⟩:=⟨_,rfl⟩
 unfold EqC at HSM
 rw[←hE] at HSM
 clear hE
 go_enter Tryz.func28,Tryz.ntmps28
 go_upto_region 1 with fail
 change Code.wp _ _ _ _ (w.alloc (.cells #[.int .i8 op,.int .i64 id,.int .i64 par,.int .i64 at_,.string tx,.int .i64 x.id,.int .i64 x.kind,.string x.text,.slice sa sn sc] 41))
 rw[←HB.out.2]
 refine wrhQ (S:=fun X=>Below B.heap.size B X) kr1 (yD (BrQ _ _) 1) (fun eH=>?_)
 refine tJ (i:=0) (.agg #[.int .i8 op,.int .i64 id,.int .i64 par,.int .i64 at_,.string tx,.int .i64 x.id,.int .i64 x.kind,.string x.text,.slice sa sn sc]) rfl ?_ ?_
 · exact ua4
 simp only[Act.put,pg]
 refine tJ (i:=1) (.agg #[.int .i8 op,.int .i64 id,.int .i64 par,.int .i64 at_,.string tx,.int .i64 x.id,.int .i64 x.kind,.string x.text,.slice sa sn sc]) rfl ?_ ?_
 · exact ua4
 simp only[Act.put,pg]
 refine rd [2] ?_
 refine AcQ (o:=_) rfl (fun K hK=>?_) AnQ
 rw[ipQ ue4]
 simp only[pg3]
 have HK:=hH hK
 have HS:=hH eH
 clear hK eH
 go_wp2_with (go_at_call 67;refine (HPL.out _ (HB.out.1.trans (HS.out.mono HB.out.1.size))).mono ?_;rintro e V1 ⟨_,rfl,⟨ya,yc,rfl,hyc,hyf⟩,hbv⟩;have HV:=hH (aN (HS.out.trans (hbv.mono HS.out.size)) (aN hyc hyf));clear hbv hyc hyf)
 obtain⟨ym,hym⟩:∃ym,ym=foLen (⟨op,0,0,0,⟨#[]⟩,zo⟩:Sf).sub.kids:=⟨_,rfl⟩
 rw[←hym]
 rw[←hym] at HV
 refine HK.out _ _ HV.out.1 (fun eH=>?_)
 clear HK HS
 have HSC:=hH (HSM.out V1 ya ym yc _ hym (HB.out.1.trans (HV.out.1.mono HB.out.1.size)) (fun y hy=>hy.2) HV.out.2.1 HV.out.2.2)
 clear hym
 refine rd [3] ?_
 refine AcQ (o:=_) rfl (fun K hK=>?_) AnQ
 rw[ipQ ue4]
 simp only[pg3]
 have HK:=hH hK
 have HS:=hH eH
 clear hK eH
 go_wp2_with (go_at_call 43;refine HSC.out.mono ?_;rintro e V2 ⟨rfl,hbv⟩;have HV2:=hH (HV.out.1.trans (hbv.mono HV.out.1.size));clear hbv)
 refine HK.out _ _ HV2.out (fun eH=>?_)
 clear HK HS HSC
 refine tG (i:=4) (.bool E) rfl ?_
 simp only[Act.put,pg]
 refine wpAnyH_done kr1 ?_ _
 clear eH
 obtain⟨k0,k1,k2,k3,k4,k5,k6,k7,k8⟩:=HC.out V2 HV2.out
 go_wp2_with fail
 go_ret
 exact⟨by rw[HST.out];rfl,(HB.out.1.trans (HV2.out.mono HB.out.1.size))⟩
theorem zcI (w:World)(Sx:Nat→Prop)(s:Sf)(sa:Option Addr)(sn sc:Nat)(hsn:sn=foLen s.sub.kids)(hSx:∀y,Sx y→y<w.heap.size)(hcap:foLen s.sub.kids≤sc)(hk:zK w Sx s.sub.kids sa)(hz:zh s.sub.kids+1≤100000):
 Calls Tryz.prog 28 #[.agg #[.int .i8 s.op,.int .i64 s.id,.int .i64 s.par,.int .i64 s.at_,.string s.tx,.int .i64 s.sub.id,.int .i64 s.sub.kind,.string s.sub.text,.slice sa sn sc]] w fun e w'=>e= .returned (.bool (yM s))∧Below w.heap.size w w':=by
 obtain⟨op,id,par,at_,tx,x⟩:=s
 by_cases h1:op=1
 · subst h1;exact zhx w Sx id par at_ tx x sa sn sc hsn hSx hcap hk hz
 by_cases h2:op=2
 · subst h2;exact zhy w Sx id par at_ tx x sa sn sc hsn hSx hcap hk hz
 by_cases h3:op=3
 · subst h3;exact zhz w Sx id par at_ tx x sa sn sc hsn hSx hcap hk hz
 by_cases h4:op=4
 · subst h4;exact zhA w Sx id par at_ tx x sa sn sc hsn hSx hcap hk hz
 exact zhw w Sx op id par at_ tx x sa sn sc hsn hSx hcap hk hz h1 h2 h3 h4
end Go.Proofs.YtoidedomenkbpaaGreat
