/-
  .
-/
import Derived.Test.YtoidedomenkbpaaGreatROverQs
import Derived.Test.YtoidedomenkbpaaGreatWWakesQs
set_option maxRecDepth 100000
set_option maxHeartbeats 40000000
set_option linter.unusedVariables false
set_option linter.unusedSimpArgs false
namespace Go.Proofs.YtoidedomenkbpaaGreat
open Go.RowKit Go.Shelf
open Extern.Stop (cell)
theorem zfp {w:World}{b:Nat}{t:TypeId}{c0 c1 c2 c3 c4 c5 c6 c7 c8 c9 c10 c11 c12 c13 c14 c15:Value}(h:w.heap[b]? =some (.cells #[c0,c1,c2,c3,c4,c5,c6,c7,c8,c9,c10,c11,c12,c13,c14,c15] t (0,0)))(u0 u1 u2 u3 u4 u5 u6 u7 u8 u9 u10 u11 u12 u13 u14 u15:Value):
 ((((((((((((((((w.setCell ⟨b,0,none⟩ u0).setCell ⟨b,1,none⟩ u1).setCell ⟨b,2,none⟩ u2).setCell ⟨b,3,none⟩ u3).setCell ⟨b,4,none⟩ u4).setCell ⟨b,5,none⟩ u5).setCell ⟨b,6,none⟩ u6).setCell ⟨b,7,none⟩ u7).setCell ⟨b,8,none⟩ u8).setCell ⟨b,9,none⟩ u9).setCell ⟨b,10,none⟩ u10).setCell ⟨b,11,none⟩ u11).setCell ⟨b,12,none⟩ u12).setCell ⟨b,13,none⟩ u13).setCell ⟨b,14,none⟩ u14).setCell ⟨b,15,none⟩ u15).heap[b]? =some (.cells #[u0,u1,u2,u3,u4,u5,u6,u7,u8,u9,u10,u11,u12,u13,u14,u15] t (0,0))∧∀B,B≤b→Below B w ((((((((((((((((w.setCell ⟨b,0,none⟩ u0).setCell ⟨b,1,none⟩ u1).setCell ⟨b,2,none⟩ u2).setCell ⟨b,3,none⟩ u3).setCell ⟨b,4,none⟩ u4).setCell ⟨b,5,none⟩ u5).setCell ⟨b,6,none⟩ u6).setCell ⟨b,7,none⟩ u7).setCell ⟨b,8,none⟩ u8).setCell ⟨b,9,none⟩ u9).setCell ⟨b,10,none⟩ u10).setCell ⟨b,11,none⟩ u11).setCell ⟨b,12,none⟩ u12).setCell ⟨b,13,none⟩ u13).setCell ⟨b,14,none⟩ u14).setCell ⟨b,15,none⟩ u15):=by
 have h0:=hssQ _ b 0 _ _ u0 h
 simp only[pgD,pgE,pgF] at h0
 have h1:=hssQ _ b 1 _ _ u1 h0
 simp only[pgD,pgE,pgF] at h1
 have h2:=hssQ _ b 2 _ _ u2 h1
 simp only[pgD,pgE,pgF] at h2
 have h3:=hssQ _ b 3 _ _ u3 h2
 simp only[pgD,pgE,pgF] at h3
 have h4:=hssQ _ b 4 _ _ u4 h3
 simp only[pgD,pgE,pgF] at h4
 have h5:=hssQ _ b 5 _ _ u5 h4
 simp only[pgD,pgE,pgF] at h5
 have h6:=hssQ _ b 6 _ _ u6 h5
 simp only[pgD,pgE,pgF] at h6
 have h7:=hssQ _ b 7 _ _ u7 h6
 simp only[pgD,pgE,pgF] at h7
 have h8:=hssQ _ b 8 _ _ u8 h7
 simp only[pgD,pgE,pgF] at h8
 have h9:=hssQ _ b 9 _ _ u9 h8
 simp only[pgD,pgE,pgF] at h9
 have h10:=hssQ _ b 10 _ _ u10 h9
 simp only[pgD,pgE,pgF] at h10
 have h11:=hssQ _ b 11 _ _ u11 h10
 simp only[pgD,pgE,pgF] at h11
 have h12:=hssQ _ b 12 _ _ u12 h11
 simp only[pgD,pgE,pgF] at h12
 have h13:=hssQ _ b 13 _ _ u13 h12
 simp only[pgD,pgE,pgF] at h13
 have h14:=hssQ _ b 14 _ _ u14 h13
 simp only[pgD,pgE,pgF] at h14
 have h15:=hssQ _ b 15 _ _ u15 h14
 simp only[pgD,pgE,pgF] at h15
 exact⟨h15,fun B hB=>((((((((((((((((BrQ _ _).setCell hB _).setCell hB _).setCell hB _).setCell hB _).setCell hB _).setCell hB _).setCell hB _).setCell hB _).setCell hB _).setCell hB _).setCell hB _).setCell hB _).setCell hB _).setCell hB _).setCell hB _).setCell hB _⟩
structure RM where
 (n1 n2 n3 n4 n5 n6 n7 n8 n9 n10:Int) (sa:Option Addr) (sn sc:Nat) (id kd:Int) (tx:ByteArray) (ar:Option Addr) (am ad:Nat)
def za6 (at_ er:Int)(w:World)(e:Ending)(Z:World):Prop:=e= .returned (.tuple #[.agg #[.int .i8 0,.int .i64 0,.int .i64 0,.int .i64 0,.int .i64 0,.int .i64 0,.int .i64 0,.int .i64 0,.int .i64 0,.int .i64 0,.int .i64 0,.slice none 0 0,.int .i64 0,.int .i64 0,.string ⟨#[]⟩,.slice none 0 0],.int .i64 at_,.int .i64 er])∧Below w.heap.size w Z
theorem zgi (w:World)(a:Option Addr)(cap:Nat)(bs:List UInt8)(hl:65536<bs.length):
 Calls Tryz.prog 33 #[.slice a bs.length cap] w (za6 0 3 w):=by
 have hli:(65536:Int)<(bs.length:Int):=by omega
 obtain⟨n,hn⟩:∃n,n=bs.length:=⟨_,rfl⟩
 rw[←hn] at hli ⊢
 clear hl hn
 go_enter Tryz.func33,Tryz.ntmps33
 go_wp2_with fail
 exact brQ (qz rfl _ _ w.heap.size 37 #[.int .i8 0,.int .i64 0,.int .i64 0,.int .i64 0,.int .i64 0,.int .i64 0,.int .i64 0,.int .i64 0,.int .i64 0,.int .i64 0,.int .i64 0,.slice none 0 0,.int .i64 0,.int .i64 0,.string ⟨#[]⟩,.slice none 0 0] (0,0) _ (.int .i64 0) (.int .i64 3) rfl (hanQ _ _) Tryz.underlying37 rfl kr1 rfl rfl) rfl ⟨rfl,(BrQ _ _).alloc (NlrQ _) _⟩
theorem zhG (w:World)(a:Option Addr)(cap:Nat)(bs:List UInt8)(hat:zL w a bs)(hl:bs.length≤65536)(hc:bs.length≤cap)(hc2:(cap:Int)≤9223372036854775807)(hok:okN bs=false):
 Calls Tryz.prog 33 #[.slice a bs.length cap] w (za6 0 30 w):=by
 obtain⟨B,hB⟩:∃B,B=w.alloc (.cells #[.int .i8 0,.int .i64 0,.int .i64 0,.int .i64 0,.int .i64 0,.int .i64 0,.int .i64 0,.int .i64 0,.int .i64 0,.int .i64 0,.int .i64 0,.slice none 0 0,.int .i64 0,.int .i64 0,.string ⟨#[]⟩,.slice none 0 0] 37):=⟨_,rfl⟩
 have hb:Below w.heap.size w B:=by rw[hB];exact (BrQ _ _).alloc (NlrQ _) _
 have hx:B.heap[w.heap.size]? =some (.cells #[.int .i8 0,.int .i64 0,.int .i64 0,.int .i64 0,.int .i64 0,.int .i64 0,.int .i64 0,.int .i64 0,.int .i64 0,.int .i64 0,.int .i64 0,.slice none 0 0,.int .i64 0,.int .i64 0,.string ⟨#[]⟩,.slice none 0 0] 37 (0,0)):=by rw[hB];exact hanQ _ _
 have HOP:=hH (Qw B a cap bs (hat.below hb) om1 hc hc2)
 have HB:=hH (aN hb (aN hB hx))
 have HK:=hH hok
 have hlen:(bs.length:Int)≤65536:=by omega
 obtain⟨n,hn⟩:∃n,n=bs.length:=⟨_,rfl⟩
 rw[←hn] at HOP hlen ⊢
 clear hat hl hc hc2 hok hb hB hx hn
 go_enter Tryz.func33,Tryz.ntmps33
 go_upto_region 1 with fail
 change Code.wp _ _ _ _ (w.alloc (.cells #[.int .i8 0,.int .i64 0,.int .i64 0,.int .i64 0,.int .i64 0,.int .i64 0,.int .i64 0,.int .i64 0,.int .i64 0,.int .i64 0,.int .i64 0,.slice none 0 0,.int .i64 0,.int .i64 0,.string ⟨#[]⟩,.slice none 0 0] 37))
 rw[←HB.out.2.1]
 go_wp2_with fail
 refine HOP.out.mono ?_
 rintro e B1 ⟨oa,oc,rfl,h1,h2⟩
 rw[HK.out]
 have HV:=hH (aN (HB.out.1.trans (h2.mono HB.out.1.size)) ((h2.block _ (lohQ HB.out.2.2)).trans HB.out.2.2))
 obtain⟨om,hom⟩:∃om,om=(zI bs).length:=⟨_,rfl⟩
 rw[←hom]
 clear h1 h2 HOP hlen hom HB
 have gz:∀j,B1.frozen? ⟨w.heap.size,j,none⟩=false:=fun j=>forQ _ _ j _ _ HV.out.2
 have HS:=hH (zfp HV.out.2 (.int .i8 0) (.int .i64 0) (.int .i64 0) (.int .i64 0) (.int .i64 0) (.int .i64 0) (.int .i64 0) (.int .i64 0) (.int .i64 0) (.int .i64 0) (.int .i64 0) (.slice none 0 0) (.int .i64 0) (.int .i64 0) (.string ⟨#[]⟩) (.slice none 0 0))
 have z0:B1.cell? ⟨w.heap.size,0,none⟩=some (.int .i8 0):=by rw[corQ _ _ 0 _ _ _ HV.out.2];rfl
 have z1:B1.cell? ⟨w.heap.size,1,none⟩=some (.int .i64 0):=by rw[corQ _ _ 1 _ _ _ HV.out.2];rfl
 have z2:B1.cell? ⟨w.heap.size,2,none⟩=some (.int .i64 0):=by rw[corQ _ _ 2 _ _ _ HV.out.2];rfl
 have z3:B1.cell? ⟨w.heap.size,3,none⟩=some (.int .i64 0):=by rw[corQ _ _ 3 _ _ _ HV.out.2];rfl
 have z4:B1.cell? ⟨w.heap.size,4,none⟩=some (.int .i64 0):=by rw[corQ _ _ 4 _ _ _ HV.out.2];rfl
 have z5:B1.cell? ⟨w.heap.size,5,none⟩=some (.int .i64 0):=by rw[corQ _ _ 5 _ _ _ HV.out.2];rfl
 have z6:B1.cell? ⟨w.heap.size,6,none⟩=some (.int .i64 0):=by rw[corQ _ _ 6 _ _ _ HV.out.2];rfl
 have z7:B1.cell? ⟨w.heap.size,7,none⟩=some (.int .i64 0):=by rw[corQ _ _ 7 _ _ _ HV.out.2];rfl
 have z8:B1.cell? ⟨w.heap.size,8,none⟩=some (.int .i64 0):=by rw[corQ _ _ 8 _ _ _ HV.out.2];rfl
 have z9:B1.cell? ⟨w.heap.size,9,none⟩=some (.int .i64 0):=by rw[corQ _ _ 9 _ _ _ HV.out.2];rfl
 have z10:B1.cell? ⟨w.heap.size,10,none⟩=some (.int .i64 0):=by rw[corQ _ _ 10 _ _ _ HV.out.2];rfl
 have z11:B1.cell? ⟨w.heap.size,11,none⟩=some (.slice none 0 0):=by rw[corQ _ _ 11 _ _ _ HV.out.2];rfl
 have z12:B1.cell? ⟨w.heap.size,12,none⟩=some (.int .i64 0):=by rw[corQ _ _ 12 _ _ _ HV.out.2];rfl
 have z13:B1.cell? ⟨w.heap.size,13,none⟩=some (.int .i64 0):=by rw[corQ _ _ 13 _ _ _ HV.out.2];rfl
 have z14:B1.cell? ⟨w.heap.size,14,none⟩=some (.string ⟨#[]⟩):=by rw[corQ _ _ 14 _ _ _ HV.out.2];rfl
 have z15:B1.cell? ⟨w.heap.size,15,none⟩=some (.slice none 0 0):=by rw[corQ _ _ 15 _ _ _ HV.out.2];rfl
 exact sc9
def JL (own:List UInt8):Prop:=own= []∨∃u,own[0]? =some u∧(vX u<1∨10<vX u)
theorem zeF (w:World)(b:Nat)(dv:Value)(h:zT w b dv ⟨[],0,false⟩):
 Calls Tryz.prog 78 #[.pointer (some ⟨b,0,none⟩)] w (fun e w'=>e= .returned (.int .i8 0)∧za w w' (fun q=>q=b)):=
 (JU w b dv _ h).mono fun e w' ⟨v,h1,h2⟩=>by
   unfold vN at h2
   rw[inQ sp] at h2
   simp only[vZ,List.getElem?_nil] at h2
   exact⟨by rw[h1,h2.1],h2.2.2⟩
theorem zeG (w:World)(b:Nat)(dv:Value)(own:List UInt8)(u:UInt8)(h0:own[0]? =some u)(h:zT w b dv ⟨own,0,false⟩):
 Calls Tryz.prog 78 #[.pointer (some ⟨b,0,none⟩)] w (fun e w'=>e= .returned (.int .i8 (vX u))∧za w w' (fun q=>q=b)):=
 (JU w b dv _ h).mono fun e w' ⟨v,h1,h2⟩=>by
   unfold vN at h2
   rw[inQ sp] at h2
   simp only[vZ,h0] at h2
   exact⟨by rw[h1,h2.1],h2.2.2⟩
theorem zcn (w:World)(b:Nat)(dv:Value)(own:List UInt8)(hn:JL own)(h:zT w b dv ⟨own,0,false⟩):
 ∃z:Int,zA 1 10 z=false∧Calls Tryz.prog 78 #[.pointer (some ⟨b,0,none⟩)] w (fun e w'=>e= .returned (.int .i8 z)∧za w w' (fun q=>q=b)):=by
 rcases hn with rfl | ⟨u,h0,hu⟩
 · exact⟨0,by decide,zeF w b dv h⟩
 · refine⟨vX u,?_,zeG w b dv own u h0 h⟩
   simp only[zA,Bool.and_eq_false_iff,decide_eq_false_iff_not]
   omega
theorem zgh (w:World)(a:Option Addr)(cap:Nat)(bs:List UInt8)(own:List UInt8)(hat:zL w a bs)(hl:bs.length≤65536)(hc:bs.length≤cap)(hc2:(cap:Int)≤9223372036854775807)(hok:okN bs=true)(hown:zI bs=own)(hol:own.length≤65536)(hnk:JL own):
 Calls Tryz.prog 33 #[.slice a bs.length cap] w (za6 0 30 w):=by
 obtain⟨B,hB⟩:∃B,B=w.alloc (.cells #[.int .i8 0,.int .i64 0,.int .i64 0,.int .i64 0,.int .i64 0,.int .i64 0,.int .i64 0,.int .i64 0,.int .i64 0,.int .i64 0,.int .i64 0,.slice none 0 0,.int .i64 0,.int .i64 0,.string ⟨#[]⟩,.slice none 0 0] 37):=⟨_,rfl⟩
 have hb:Below w.heap.size w B:=by rw[hB];exact (BrQ _ _).alloc (NlrQ _) _
 have hx:B.heap[w.heap.size]? =some (.cells #[.int .i8 0,.int .i64 0,.int .i64 0,.int .i64 0,.int .i64 0,.int .i64 0,.int .i64 0,.int .i64 0,.int .i64 0,.int .i64 0,.int .i64 0,.slice none 0 0,.int .i64 0,.int .i64 0,.string ⟨#[]⟩,.slice none 0 0] 37 (0,0)):=by rw[hB];exact hanQ _ _
 have HOP:=hH (Qw B a cap bs (hat.below hb) om1 hc hc2)
 have HB:=hH (aN hb (aN hB hx))
 have HK:=hH (aN hok (aN hown (aN hol hnk)))
 have hlen:(bs.length:Int)≤65536:=by omega
 obtain⟨n,hn⟩:∃n,n=bs.length:=⟨_,rfl⟩
 rw[←hn] at HOP hlen ⊢
 clear hat hl hc hc2 hok hb hB hx hn hown hol hnk
 go_enter Tryz.func33,Tryz.ntmps33
 go_upto_region 1 with fail
 change Code.wp _ _ _ _ (w.alloc (.cells #[.int .i8 0,.int .i64 0,.int .i64 0,.int .i64 0,.int .i64 0,.int .i64 0,.int .i64 0,.int .i64 0,.int .i64 0,.int .i64 0,.int .i64 0,.slice none 0 0,.int .i64 0,.int .i64 0,.string ⟨#[]⟩,.slice none 0 0] 37))
 rw[←HB.out.2.1]
 go_wp2_with fail
 refine HOP.out.mono ?_
 rintro e B1 ⟨oa,oc,rfl,h1,h2⟩
 rw[HK.out.1,HK.out.2.1]
 rw[HK.out.2.1] at h1
 have HN:=hH (QU B1 oa oc own ⟨h1.1,h1.2⟩ (by have:=HK.out.2.2.1;omega))
 have H1:=hH h2
 clear h1 h2 HOP hlen
 obtain⟨m,hm⟩:∃m,m=own.length:=⟨_,rfl⟩
 rw[←hm] at HN ⊢
 clear hm
 go_wp2_with fail
 refine HN.out.mono ?_
 rintro e B2 ⟨rb,dv,rfl,hr1,hr2,hr3,hr4⟩
 have hwB:=lohQ HB.out.2.2
 have hb12:=H1.out.trans (hr4.mono H1.out.size)
 have H2:=hH (aN (show w.heap.size<rb by have:=H1.out.size;omega) (aN (fun g hg=>(show g≠w.heap.size by have:=hr2 g hg;have:=H1.out.size;omega)) (aN (HB.out.1.trans (hb12.mono HB.out.1.size)) ((hb12.block _ hwB).trans HB.out.2.2))))
 obtain⟨z,hz,hsm⟩:=zcn B2 rb dv own HK.out.2.2.2 hr3
 have HS:=hH hsm
 have HZ:=hH hz
 clear hr1 hr2 hr3 hr4 hwB hb12 HN H1 hsm hz
 go_wp2_with fail
 refine HS.out.mono ?_
 rintro e B3 ⟨rfl,hs2⟩
 have e3:=(hs2.block _ (lohQ H2.out.2.2.2) ud0).trans H2.out.2.2.2
 have f0:B3.frozen? ⟨w.heap.size,0,none⟩=false:=forQ _ _ 0 _ _ e3
 have k0:B3.cell? ⟨w.heap.size,0,none⟩=some (.int .i8 0):=by rw[corQ _ _ 0 _ _ _ e3];rfl
 have hb3:Below w.heap.size w B3:=⟨hs2.os.trans H2.out.2.2.1.os,hs2.tape.trans H2.out.2.2.1.tape,hs2.output.trans H2.out.2.2.1.output,NltQ H2.out.2.2.1.size hs2.size,fun q hq=>(hs2.block q (nL hq H2.out.2.2.1.size) ud0).trans (H2.out.2.2.1.block q hq)⟩
 obtain⟨X,hX⟩:∃X,X=B3.setCell ⟨w.heap.size,0,none⟩ (.int .i8 z):=⟨_,rfl⟩
 have hxs:za B3 X (fun q=>q=w.heap.size):=by rw[hX];exact zu
 have eX:X.heap[w.heap.size]? =some (.cells #[.int .i8 z,.int .i64 0,.int .i64 0,.int .i64 0,.int .i64 0,.int .i64 0,.int .i64 0,.int .i64 0,.int .i64 0,.int .i64 0,.int .i64 0,.slice none 0 0,.int .i64 0,.int .i64 0,.string ⟨#[]⟩,.slice none 0 0] 37 (0,0)):=by rw[hX,hssQ _ _ 0 _ _ _ e3];rfl
 have hbX:Below w.heap.size w X:=⟨hxs.os.trans hb3.os,hxs.tape.trans hb3.tape,hxs.output.trans hb3.output,NltQ hb3.size hxs.size,fun q hq=>(hxs.block q (nL hq hb3.size) om1).trans (hb3.block q hq)⟩
 have HX:=hH hX
 have HV:=hH (aN hbX eX)
 clear e3 hb3 hX hxs eX hbX hs2 HS H2
 go_upto_region 8 with fail
 try change Code.wp _ _ _ _ (B3.setCell ⟨w.heap.size,0,none⟩ (.int .i8 z))
 rw[←HX.out]
 clear f0 k0
 have k0:X.cell? ⟨w.heap.size,0,none⟩=some (.int .i8 z):=by rw[corQ _ _ 0 _ _ _ HV.out.2];rfl
 have HI:=hH (jR X z)
 rw[HZ.out] at HI
 go_wp2_with fail
 refine HI.out.mono ?_
 rintro e X' ⟨rfl,h2⟩
 rw[h2]
 clear h2 X' HI k0 HX
 have gz:∀j,X.frozen? ⟨w.heap.size,j,none⟩=false:=fun j=>forQ _ _ j _ _ HV.out.2
 have HS:=hH (zfp HV.out.2 (.int .i8 0) (.int .i64 0) (.int .i64 0) (.int .i64 0) (.int .i64 0) (.int .i64 0) (.int .i64 0) (.int .i64 0) (.int .i64 0) (.int .i64 0) (.int .i64 0) (.slice none 0 0) (.int .i64 0) (.int .i64 0) (.string ⟨#[]⟩) (.slice none 0 0))
 have z0:X.cell? ⟨w.heap.size,0,none⟩=some (.int .i8 z):=by rw[corQ _ _ 0 _ _ _ HV.out.2];rfl
 have z1:X.cell? ⟨w.heap.size,1,none⟩=some (.int .i64 0):=by rw[corQ _ _ 1 _ _ _ HV.out.2];rfl
 have z2:X.cell? ⟨w.heap.size,2,none⟩=some (.int .i64 0):=by rw[corQ _ _ 2 _ _ _ HV.out.2];rfl
 have z3:X.cell? ⟨w.heap.size,3,none⟩=some (.int .i64 0):=by rw[corQ _ _ 3 _ _ _ HV.out.2];rfl
 have z4:X.cell? ⟨w.heap.size,4,none⟩=some (.int .i64 0):=by rw[corQ _ _ 4 _ _ _ HV.out.2];rfl
 have z5:X.cell? ⟨w.heap.size,5,none⟩=some (.int .i64 0):=by rw[corQ _ _ 5 _ _ _ HV.out.2];rfl
 have z6:X.cell? ⟨w.heap.size,6,none⟩=some (.int .i64 0):=by rw[corQ _ _ 6 _ _ _ HV.out.2];rfl
 have z7:X.cell? ⟨w.heap.size,7,none⟩=some (.int .i64 0):=by rw[corQ _ _ 7 _ _ _ HV.out.2];rfl
 have z8:X.cell? ⟨w.heap.size,8,none⟩=some (.int .i64 0):=by rw[corQ _ _ 8 _ _ _ HV.out.2];rfl
 have z9:X.cell? ⟨w.heap.size,9,none⟩=some (.int .i64 0):=by rw[corQ _ _ 9 _ _ _ HV.out.2];rfl
 have z10:X.cell? ⟨w.heap.size,10,none⟩=some (.int .i64 0):=by rw[corQ _ _ 10 _ _ _ HV.out.2];rfl
 have z11:X.cell? ⟨w.heap.size,11,none⟩=some (.slice none 0 0):=by rw[corQ _ _ 11 _ _ _ HV.out.2];rfl
 have z12:X.cell? ⟨w.heap.size,12,none⟩=some (.int .i64 0):=by rw[corQ _ _ 12 _ _ _ HV.out.2];rfl
 have z13:X.cell? ⟨w.heap.size,13,none⟩=some (.int .i64 0):=by rw[corQ _ _ 13 _ _ _ HV.out.2];rfl
 have z14:X.cell? ⟨w.heap.size,14,none⟩=some (.string ⟨#[]⟩):=by rw[corQ _ _ 14 _ _ _ HV.out.2];rfl
 have z15:X.cell? ⟨w.heap.size,15,none⟩=some (.slice none 0 0):=by rw[corQ _ _ 15 _ _ _ HV.out.2];rfl
 exact sc9
def zkI (k:Nat)(s:Rd)(P:RM→World→Prop)(Rt:RM→Bool)(at_ er:Int)(w:World)(e:Ending)(Z:World):Prop:=
 (er≠0∧s.pos≤s.data.length∧za6 at_ er w e Z)∨(er=0∧za6 0 30 w e Z∧∃(m:RM) (V:World),P m V∧Rt m=false)∨
 (er=0∧Below w.heap.size w Z∧∃m:RM,P m Z∧e= .returned (.tuple #[.agg #[.int .i8 (k:Int),.int .i64 m.n1,.int .i64 m.n2,.int .i64 m.n3,.int .i64 m.n4,.int .i64 m.n5,.int .i64 m.n6,.int .i64 m.n7,.int .i64 m.n8,.int .i64 m.n9,.int .i64 m.n10,.slice m.sa m.sn m.sc,.int .i64 m.id,.int .i64 m.kd,.string m.tx,.slice m.ar m.am m.ad],.int .i64 0,.int .i64 0])∧Rt m=true)
theorem kr (w:World)(a:Option Addr)(cap:Nat)(bs own:List UInt8)(k:Nat)(s:Rd)(P:RM→World→Prop)(Rt:RM→Bool)(at_ er:Int)(hat:zL w a bs)(hl:bs.length≤65536)(hc:bs.length≤cap)(hc2:(cap:Int)≤9223372036854775807)(hok:okN bs=true)(hown:zI bs=own)(hol:own.length≤65536)(h0:own[0]? =some (zH k))(hk1:1≤k)(hk2:k≤10)
 (hon:∀m Z U,P m Z→Below Z.heap.size Z U→P m U)
 (ho:∀(rb:Nat) (Y:World),Below w.heap.size w Y→Y.heap[w.heap.size]? =some (.cells #[.int .i8 (k:Int),.int .i64 0,.int .i64 0,.int .i64 0,.int .i64 0,.int .i64 0,.int .i64 0,.int .i64 0,.int .i64 0,.int .i64 0,.int .i64 0,.slice none 0 0,.int .i64 0,.int .i64 0,.string ⟨#[]⟩,.slice none 0 0] 37 (0,0))→yC w.heap.size rb ⟨own,1,false⟩ Y→w.heap.size<rb→Calls Tryz.prog 56 #[.pointer (some ⟨w.heap.size,0,none⟩),.iface 114 (.agg #[.pointer (some ⟨rb,0,none⟩)])] Y (fun e Z=>e= .returned (.tuple #[])∧za Y Z (fun q=>q=rb∨q=w.heap.size)∧yC w.heap.size rb s Z∧∃m:RM,P m Z∧Z.heap[w.heap.size]? =some (.cells #[.int .i8 (k:Int),.int .i64 m.n1,.int .i64 m.n2,.int .i64 m.n3,.int .i64 m.n4,.int .i64 m.n5,.int .i64 m.n6,.int .i64 m.n7,.int .i64 m.n8,.int .i64 m.n9,.int .i64 m.n10,.slice m.sa m.sn m.sc,.int .i64 m.id,.int .i64 m.kd,.string m.tx,.slice m.ar m.am m.ad] 37 (0,0))))
 (he:s.yR= .tuple #[.int .i64 at_,.int .i64 er])
 (hR:er=0→∀(m:RM) (V:World),P m V→∀Y,Below V.heap.size V Y→Calls Tryz.prog 22 #[.agg #[.int .i8 (k:Int),.int .i64 m.n1,.int .i64 m.n2,.int .i64 m.n3,.int .i64 m.n4,.int .i64 m.n5,.int .i64 m.n6,.int .i64 m.n7,.int .i64 m.n8,.int .i64 m.n9,.int .i64 m.n10,.slice m.sa m.sn m.sc,.int .i64 m.id,.int .i64 m.kd,.string m.tx,.slice m.ar m.am m.ad]] Y (zX (Rt m) Y)):
 Calls Tryz.prog 33 #[.slice a bs.length cap] w (zkI k s P Rt at_ er w):=by
 obtain⟨B,hB⟩:∃B,B=w.alloc (.cells #[.int .i8 0,.int .i64 0,.int .i64 0,.int .i64 0,.int .i64 0,.int .i64 0,.int .i64 0,.int .i64 0,.int .i64 0,.int .i64 0,.int .i64 0,.slice none 0 0,.int .i64 0,.int .i64 0,.string ⟨#[]⟩,.slice none 0 0] 37):=⟨_,rfl⟩
 have hb:Below w.heap.size w B:=by rw[hB];exact (BrQ _ _).alloc (NlrQ _) _
 have hx:B.heap[w.heap.size]? =some (.cells #[.int .i8 0,.int .i64 0,.int .i64 0,.int .i64 0,.int .i64 0,.int .i64 0,.int .i64 0,.int .i64 0,.int .i64 0,.int .i64 0,.int .i64 0,.slice none 0 0,.int .i64 0,.int .i64 0,.string ⟨#[]⟩,.slice none 0 0] 37 (0,0)):=by rw[hB];exact hanQ _ _
 have HOP:=hH (Qw B a cap bs (hat.below hb) om1 hc hc2)
 have HB:=hH (aN hb (aN hB hx))
 have HO:=hH ho
 have HR:=hH hR
 have HE:=hH he
 have HON:=hH hon
 have HK:=hH (aN hok (aN hown (aN hol (aN h0 (aN hk1 hk2)))))
 have hlen:(bs.length:Int)≤65536:=by omega
 obtain⟨n,hn⟩:∃n,n=bs.length:=⟨_,rfl⟩
 rw[←hn] at HOP hlen ⊢
 clear hat hl hc hc2 hok hown hol h0 hk1 hk2 ho he hR hb hB hx hn hon
 go_enter Tryz.func33,Tryz.ntmps33
 go_upto_region 1 with fail
 change Code.wp _ _ _ _ (w.alloc (.cells #[.int .i8 0,.int .i64 0,.int .i64 0,.int .i64 0,.int .i64 0,.int .i64 0,.int .i64 0,.int .i64 0,.int .i64 0,.int .i64 0,.int .i64 0,.slice none 0 0,.int .i64 0,.int .i64 0,.string ⟨#[]⟩,.slice none 0 0] 37))
 rw[←HB.out.2.1]
 go_wp2_with fail
 refine HOP.out.mono ?_
 rintro e B1 ⟨oa,oc,rfl,h1,h2⟩
 rw[HK.out.1,HK.out.2.1]
 rw[HK.out.2.1] at h1
 have HN:=hH (QU B1 oa oc own ⟨h1.1,h1.2⟩ (by have:=HK.out.2.2.1;omega))
 have H1:=hH h2
 clear h1 h2 HOP hlen
 obtain⟨m,hm⟩:∃m,m=own.length:=⟨_,rfl⟩
 rw[←hm] at HN ⊢
 clear hm
 go_wp2_with fail
 refine HN.out.mono ?_
 rintro e B2 ⟨rb,dv,rfl,hr1,hr2,hr3,hr4⟩
 have hwB:=lohQ HB.out.2.2
 have hb12:=H1.out.trans (hr4.mono H1.out.size)
 have H2:=hH (aN (show w.heap.size<rb by have:=H1.out.size;omega) (aN (fun g hg=>(show g≠w.heap.size by have:=hr2 g hg;have:=H1.out.size;omega)) (aN (HB.out.1.trans (hb12.mono HB.out.1.size)) ((hb12.block _ hwB).trans HB.out.2.2))))
 have HS:=hH (zaG B2 rb dv own k HK.out.2.2.2.2.2 HK.out.2.2.2.1 hr3)
 clear hr1 hr2 hr3 hr4 hwB hb12 HN H1
 go_wp2_with fail
 refine HS.out.mono ?_
 rintro e B3 ⟨rfl,hs1,hs2⟩
 have e3:=(hs2.block _ (lohQ H2.out.2.2.2) ud0).trans H2.out.2.2.2
 have f0:B3.frozen? ⟨w.heap.size,0,none⟩=false:=forQ _ _ 0 _ _ e3
 have k0:B3.cell? ⟨w.heap.size,0,none⟩=some (.int .i8 0):=by rw[corQ _ _ 0 _ _ _ e3];rfl
 have hb3:Below w.heap.size w B3:=⟨hs2.os.trans H2.out.2.2.1.os,hs2.tape.trans H2.out.2.2.1.tape,hs2.output.trans H2.out.2.2.1.output,NltQ H2.out.2.2.1.size hs2.size,fun q hq=>(hs2.block q (nL hq H2.out.2.2.1.size) ud0).trans (H2.out.2.2.1.block q hq)⟩
 obtain⟨X,hX⟩:∃X,X=B3.setCell ⟨w.heap.size,0,none⟩ (.int .i8 (k:Int)):=⟨_,rfl⟩
 have hxs:za B3 X (fun q=>q=w.heap.size):=by rw[hX];exact zu
 have eX:X.heap[w.heap.size]? =some (.cells #[.int .i8 (k:Int),.int .i64 0,.int .i64 0,.int .i64 0,.int .i64 0,.int .i64 0,.int .i64 0,.int .i64 0,.int .i64 0,.int .i64 0,.int .i64 0,.slice none 0 0,.int .i64 0,.int .i64 0,.string ⟨#[]⟩,.slice none 0 0] 37 (0,0)):=by rw[hX,hssQ _ _ 0 _ _ _ e3];rfl
 have hbX:Below w.heap.size w X:=⟨hxs.os.trans hb3.os,hxs.tape.trans hb3.tape,hxs.output.trans hb3.output,NltQ hb3.size hxs.size,fun q hq=>(hxs.block q (nL hq hb3.size) om1).trans (hb3.block q hq)⟩
 have hrX:yC w.heap.size rb ⟨own,1,false⟩ X:=⟨dv,hs1.kept hxs ud0 (fun g hg=>H2.out.2.1 g hg),by have:=H2.out.1;omega,fun e=>H2.out.2.1 _ e rfl⟩
 have HX:=hH (aN hX (aN eX (aN hbX (aN hrX H2.out.1))))
 clear e3 hb3 hX hxs eX hbX hrX hs1 hs2 HS H2
 go_upto_region 8 with fail
 try change Code.wp _ _ _ _ (B3.setCell ⟨w.heap.size,0,none⟩ (.int .i8 (k:Int)))
 rw[←HX.out.1]
 clear f0 k0
 have k0:X.cell? ⟨w.heap.size,0,none⟩=some (.int .i8 (k:Int)):=by rw[corQ _ _ 0 _ _ _ HX.out.2.1];rfl
 have HI:=hH (jR X (k:Int))
 rw[QW (k:=k) rfl HK.out.2.2.2.2.1 HK.out.2.2.2.2.2] at HI
 go_wp2_with fail
 refine HI.out.mono ?_
 rintro e X' ⟨rfl,h2⟩
 rw[h2]
 clear h2 X' HI k0
 go_wp2_with fail
 refine (HO.out rb X HX.out.2.2.1 HX.out.2.1 HX.out.2.2.2.1 HX.out.2.2.2.2).mono ?_
 rintro e Z ⟨rfl,hz3,hz1,m,hm,hz2⟩
 obtain⟨dz,hd1,hd2,hd3⟩:=hz1
 have HFIT:=hH hd1.fits
 have HEN:=hH (zeS Z rb dz s hd1)
 have HZ:=hH (aN (show Below w.heap.size w Z from⟨hz3.os.trans HX.out.2.2.1.os,hz3.tape.trans HX.out.2.2.1.tape,hz3.output.trans HX.out.2.2.1.output,NltQ HX.out.2.2.1.size hz3.size,fun q hq=>(hz3.block q (nL hq HX.out.2.2.1.size) (by have:=HX.out.2.2.2.2;omega)).trans (HX.out.2.2.1.block q hq)⟩) (aN hm hz2))
 clear hd1 hd2 hd3 hz2 hz3 hm HO HX
 go_wp2_with fail
 refine HEN.out.mono ?_
 rintro e V ⟨v,rfl,rfl,_,ht⟩
 rw[HE.out]
 have eV:=(ht.block _ (lohQ HZ.out.2.2) (fun h=>h)).trans HZ.out.2.2
 have hzv:Below Z.heap.size Z V:=⟨ht.os,ht.tape,ht.output,ht.size,fun q hq=>ht.block q hq (fun h=>h)⟩
 have HV:=hH (aN (HZ.out.1.trans (hzv.mono HZ.out.1.size)) eV)
 have HM:=hH (HON.out m Z V HZ.out.2.1 hzv)
 clear ht eV hzv HEN HE HZ
 by_cases hr0:er=0
 rotate_left
 · have hr0b:(er == 0)=false:=by simpa using hr0
   have hr0n:(er != 0)=true:=by simpa using hr0
   have HE0:=hH hr0
   clear hr0 HR
   as_aux_lemma=>
    have HS:=hH (aN (setRow_heap V w.heap.size _ (#[.int .i8 0,.int .i64 0,.int .i64 0,.int .i64 0,.int .i64 0,.int .i64 0,.int .i64 0,.int .i64 0,.int .i64 0,.int .i64 0,.int .i64 0,.slice none 0 0,.int .i64 0,.int .i64 0,.string ⟨#[]⟩,.slice none 0 0]:Array Value) _ _ HV.out.2) (below_setRow HV.out.1 (NlrQ _) (#[.int .i8 0,.int .i64 0,.int .i64 0,.int .i64 0,.int .i64 0,.int .i64 0,.int .i64 0,.int .i64 0,.int .i64 0,.int .i64 0,.int .i64 0,.slice none 0 0,.int .i64 0,.int .i64 0,.string ⟨#[]⟩,.slice none 0 0]:Array Value)))
    go_wp2_with (refine wpList_store_rowTo rfl 37 (.tmp 2) (.tmp 41) rfl rfl w.heap.size #[.int .i8 0,.int .i64 0,.int .i64 0,.int .i64 0,.int .i64 0,.int .i64 0,.int .i64 0,.int .i64 0,.int .i64 0,.int .i64 0,.int .i64 0,.slice none 0 0,.int .i64 0,.int .i64 0,.string ⟨#[]⟩,.slice none 0 0] kr1 kr1 37 #[.int .i8 (k:Int),.int .i64 m.n1,.int .i64 m.n2,.int .i64 m.n3,.int .i64 m.n4,.int .i64 m.n5,.int .i64 m.n6,.int .i64 m.n7,.int .i64 m.n8,.int .i64 m.n9,.int .i64 m.n10,.slice m.sa m.sn m.sc,.int .i64 m.id,.int .i64 m.kd,.string m.tx,.slice m.ar m.am m.ad] HV.out.2 kr1 rfl uc9 ?_)
    exact brQ (qz rfl _ _ w.heap.size 37 #[.int .i8 0,.int .i64 0,.int .i64 0,.int .i64 0,.int .i64 0,.int .i64 0,.int .i64 0,.int .i64 0,.int .i64 0,.int .i64 0,.int .i64 0,.slice none 0 0,.int .i64 0,.int .i64 0,.string ⟨#[]⟩,.slice none 0 0] (0,0) _ (.int .i64 at_) (.int .i64 er) rfl HS.out.1 Tryz.underlying37 rfl kr1 rfl rfl) rfl (Or.inl ⟨HE0.out,HFIT.out,rfl,HS.out.2⟩)
 subst hr0
 obtain⟨r,hrr⟩:∃r,r=Rt m:=⟨_,rfl⟩
 have hr:=HR.out rfl m V HM.out
 rw[←hrr] at hr
 have HRR:=hH hrr
 have HR2:=hH hr
 clear hrr
 clear hr HR
 have c_0:V.cell? ⟨w.heap.size,0,none⟩=some (.int .i8 (k:Int)):=by rw[corQ _ _ 0 _ _ _ HV.out.2];rfl
 have c_1:V.cell? ⟨w.heap.size,1,none⟩=some (.int .i64 m.n1):=by rw[corQ _ _ 1 _ _ _ HV.out.2];rfl
 have c_2:V.cell? ⟨w.heap.size,2,none⟩=some (.int .i64 m.n2):=by rw[corQ _ _ 2 _ _ _ HV.out.2];rfl
 have c_3:V.cell? ⟨w.heap.size,3,none⟩=some (.int .i64 m.n3):=by rw[corQ _ _ 3 _ _ _ HV.out.2];rfl
 have c_4:V.cell? ⟨w.heap.size,4,none⟩=some (.int .i64 m.n4):=by rw[corQ _ _ 4 _ _ _ HV.out.2];rfl
 have c_5:V.cell? ⟨w.heap.size,5,none⟩=some (.int .i64 m.n5):=by rw[corQ _ _ 5 _ _ _ HV.out.2];rfl
 have c_6:V.cell? ⟨w.heap.size,6,none⟩=some (.int .i64 m.n6):=by rw[corQ _ _ 6 _ _ _ HV.out.2];rfl
 have c_7:V.cell? ⟨w.heap.size,7,none⟩=some (.int .i64 m.n7):=by rw[corQ _ _ 7 _ _ _ HV.out.2];rfl
 have c_8:V.cell? ⟨w.heap.size,8,none⟩=some (.int .i64 m.n8):=by rw[corQ _ _ 8 _ _ _ HV.out.2];rfl
 have c_9:V.cell? ⟨w.heap.size,9,none⟩=some (.int .i64 m.n9):=by rw[corQ _ _ 9 _ _ _ HV.out.2];rfl
 have c_10:V.cell? ⟨w.heap.size,10,none⟩=some (.int .i64 m.n10):=by rw[corQ _ _ 10 _ _ _ HV.out.2];rfl
 have c_11:V.cell? ⟨w.heap.size,11,none⟩=some (.slice m.sa m.sn m.sc):=by rw[corQ _ _ 11 _ _ _ HV.out.2];rfl
 have c_12:V.cell? ⟨w.heap.size,12,none⟩=some (.int .i64 m.id):=by rw[corQ _ _ 12 _ _ _ HV.out.2];rfl
 have c_13:V.cell? ⟨w.heap.size,13,none⟩=some (.int .i64 m.kd):=by rw[corQ _ _ 13 _ _ _ HV.out.2];rfl
 have c_14:V.cell? ⟨w.heap.size,14,none⟩=some (.string m.tx):=by rw[corQ _ _ 14 _ _ _ HV.out.2];rfl
 have c_15:V.cell? ⟨w.heap.size,15,none⟩=some (.slice m.ar m.am m.ad):=by rw[corQ _ _ 15 _ _ _ HV.out.2];rfl
 go_wp2_with fail
 refine (HR2.out V (BrQ _ _)).mono ?_
 rintro e U ⟨rfl,hu⟩
 have eU:=(hu.block _ (lohQ HV.out.2)).trans HV.out.2
 have HU:=hH (aN (HV.out.1.trans (hu.mono HV.out.1.size)) (aN eU hu))
 clear hu eU c_0 c_1 c_2 c_3 c_4 c_5 c_6 c_7 c_8 c_9 c_10 c_11 c_12 c_13 c_14 c_15
 cases r
 · as_aux_lemma=>
    have HS:=hH (aN (setRow_heap U w.heap.size _ (#[.int .i8 0,.int .i64 0,.int .i64 0,.int .i64 0,.int .i64 0,.int .i64 0,.int .i64 0,.int .i64 0,.int .i64 0,.int .i64 0,.int .i64 0,.slice none 0 0,.int .i64 0,.int .i64 0,.string ⟨#[]⟩,.slice none 0 0]:Array Value) _ _ HU.out.2.1) (below_setRow HU.out.1 (NlrQ _) (#[.int .i8 0,.int .i64 0,.int .i64 0,.int .i64 0,.int .i64 0,.int .i64 0,.int .i64 0,.int .i64 0,.int .i64 0,.int .i64 0,.int .i64 0,.slice none 0 0,.int .i64 0,.int .i64 0,.string ⟨#[]⟩,.slice none 0 0]:Array Value)))
    go_wp2_with (refine wpList_store_rowTo rfl 37 (.tmp 2) (.tmp 47) rfl rfl w.heap.size #[.int .i8 0,.int .i64 0,.int .i64 0,.int .i64 0,.int .i64 0,.int .i64 0,.int .i64 0,.int .i64 0,.int .i64 0,.int .i64 0,.int .i64 0,.slice none 0 0,.int .i64 0,.int .i64 0,.string ⟨#[]⟩,.slice none 0 0] kr1 kr1 37 #[.int .i8 (k:Int),.int .i64 m.n1,.int .i64 m.n2,.int .i64 m.n3,.int .i64 m.n4,.int .i64 m.n5,.int .i64 m.n6,.int .i64 m.n7,.int .i64 m.n8,.int .i64 m.n9,.int .i64 m.n10,.slice m.sa m.sn m.sc,.int .i64 m.id,.int .i64 m.kd,.string m.tx,.slice m.ar m.am m.ad] HU.out.2.1 kr1 rfl uc9 ?_)
    exact brQ (qz rfl _ _ w.heap.size 37 #[.int .i8 0,.int .i64 0,.int .i64 0,.int .i64 0,.int .i64 0,.int .i64 0,.int .i64 0,.int .i64 0,.int .i64 0,.int .i64 0,.int .i64 0,.slice none 0 0,.int .i64 0,.int .i64 0,.string ⟨#[]⟩,.slice none 0 0] (0,0) _ (.int .i64 0) (.int .i64 30) rfl HS.out.1 Tryz.underlying37 rfl kr1 rfl rfl) rfl (Or.inr (Or.inl ⟨rfl,⟨rfl,HS.out.2⟩,m,V,HM.out,HRR.out.symm⟩))
 · as_aux_lemma=>
    have c_0:U.cell? ⟨w.heap.size,0,none⟩=some (.int .i8 (k:Int)):=by rw[corQ _ _ 0 _ _ _ HU.out.2.1];rfl
    have c_1:U.cell? ⟨w.heap.size,1,none⟩=some (.int .i64 m.n1):=by rw[corQ _ _ 1 _ _ _ HU.out.2.1];rfl
    have c_2:U.cell? ⟨w.heap.size,2,none⟩=some (.int .i64 m.n2):=by rw[corQ _ _ 2 _ _ _ HU.out.2.1];rfl
    have c_3:U.cell? ⟨w.heap.size,3,none⟩=some (.int .i64 m.n3):=by rw[corQ _ _ 3 _ _ _ HU.out.2.1];rfl
    have c_4:U.cell? ⟨w.heap.size,4,none⟩=some (.int .i64 m.n4):=by rw[corQ _ _ 4 _ _ _ HU.out.2.1];rfl
    have c_5:U.cell? ⟨w.heap.size,5,none⟩=some (.int .i64 m.n5):=by rw[corQ _ _ 5 _ _ _ HU.out.2.1];rfl
    have c_6:U.cell? ⟨w.heap.size,6,none⟩=some (.int .i64 m.n6):=by rw[corQ _ _ 6 _ _ _ HU.out.2.1];rfl
    have c_7:U.cell? ⟨w.heap.size,7,none⟩=some (.int .i64 m.n7):=by rw[corQ _ _ 7 _ _ _ HU.out.2.1];rfl
    have c_8:U.cell? ⟨w.heap.size,8,none⟩=some (.int .i64 m.n8):=by rw[corQ _ _ 8 _ _ _ HU.out.2.1];rfl
    have c_9:U.cell? ⟨w.heap.size,9,none⟩=some (.int .i64 m.n9):=by rw[corQ _ _ 9 _ _ _ HU.out.2.1];rfl
    have c_10:U.cell? ⟨w.heap.size,10,none⟩=some (.int .i64 m.n10):=by rw[corQ _ _ 10 _ _ _ HU.out.2.1];rfl
    have c_11:U.cell? ⟨w.heap.size,11,none⟩=some (.slice m.sa m.sn m.sc):=by rw[corQ _ _ 11 _ _ _ HU.out.2.1];rfl
    have c_12:U.cell? ⟨w.heap.size,12,none⟩=some (.int .i64 m.id):=by rw[corQ _ _ 12 _ _ _ HU.out.2.1];rfl
    have c_13:U.cell? ⟨w.heap.size,13,none⟩=some (.int .i64 m.kd):=by rw[corQ _ _ 13 _ _ _ HU.out.2.1];rfl
    have c_14:U.cell? ⟨w.heap.size,14,none⟩=some (.string m.tx):=by rw[corQ _ _ 14 _ _ _ HU.out.2.1];rfl
    have c_15:U.cell? ⟨w.heap.size,15,none⟩=some (.slice m.ar m.am m.ad):=by rw[corQ _ _ 15 _ _ _ HU.out.2.1];rfl
    go_wp2_with (refine wpList_store_rowTo rfl 37 (.tmp 2) (.tmp 48) rfl rfl w.heap.size #[.int .i8 (k:Int),.int .i64 m.n1,.int .i64 m.n2,.int .i64 m.n3,.int .i64 m.n4,.int .i64 m.n5,.int .i64 m.n6,.int .i64 m.n7,.int .i64 m.n8,.int .i64 m.n9,.int .i64 m.n10,.slice m.sa m.sn m.sc,.int .i64 m.id,.int .i64 m.kd,.string m.tx,.slice m.ar m.am m.ad] kr1 kr1 37 #[.int .i8 (k:Int),.int .i64 m.n1,.int .i64 m.n2,.int .i64 m.n3,.int .i64 m.n4,.int .i64 m.n5,.int .i64 m.n6,.int .i64 m.n7,.int .i64 m.n8,.int .i64 m.n9,.int .i64 m.n10,.slice m.sa m.sn m.sc,.int .i64 m.id,.int .i64 m.kd,.string m.tx,.slice m.ar m.am m.ad] HU.out.2.1 kr1 rfl uc9 ?_)
    rw[setRow_self U w.heap.size _ _ _ HU.out.2.1]
    exact brQ (qz rfl _ _ w.heap.size 37 #[.int .i8 (k:Int),.int .i64 m.n1,.int .i64 m.n2,.int .i64 m.n3,.int .i64 m.n4,.int .i64 m.n5,.int .i64 m.n6,.int .i64 m.n7,.int .i64 m.n8,.int .i64 m.n9,.int .i64 m.n10,.slice m.sa m.sn m.sc,.int .i64 m.id,.int .i64 m.kd,.string m.tx,.slice m.ar m.am m.ad] (0,0) _ (.int .i64 0) (.int .i64 0) rfl HU.out.2.1 Tryz.underlying37 rfl kr1 rfl rfl) rfl (Or.inr (Or.inr ⟨rfl,HU.out.1,m,HON.out m V U HM.out HU.out.2.2,rfl,HRR.out.symm⟩))
end Go.Proofs.YtoidedomenkbpaaGreat
