/-
  .
-/
import Derived.Test.YtoidedomenkbpaaGreatWBytesQs
set_option maxRecDepth 100000
set_option maxHeartbeats 40000000
set_option linter.unusedVariables false
set_option linter.unusedSimpArgs false
namespace Go.Proofs.YtoidedomenkbpaaGreat
open Go.RowKit Go.Shelf
open Extern.Stop (cell)
theorem yu {U:World}{g j:Nat}{zs:Array Value}{T:TypeId}{v:Value}(h:U.heap[g]? =some (.cells zs T (0,0)))(hj:zs[j]? =some v):U.setCell ⟨g,j,none⟩ v=U:=by
 have hs:zs.setIfInBounds j v=zs:=by
  apply Array.ext_getElem?
  intro i
  rw[Array.getElem?_setIfInBounds]
  split
  · rename_i e;subst e
    have hlt:=(Array.getElem?_eq_some_iff.1 hj).1
    rw[ipQ hlt,hj]
  · rfl
 have hh:(U.setCell ⟨g,j,none⟩ v).heap=U.heap:=by
  apply Array.ext_getElem?
  intro i
  by_cases e:i=g
  · subst e;rw[hssQ _ _ _ _ _ _ h,hs,h]
  · exact heap_setCell_other _ _ _ _ e
 cases U
 simp only[World.setCell] at hh ⊢
 rw[hh]
theorem qz {P:Program}{fn:Func}{p u v:Tmp}{ty:TypeId}(h:fn.results= #[.cell p ty,.tmp u,.tmp v])(tmps:Array Value)(w:World)(g:Nat)(t:TypeId)(zs:Array Value)(fr:Nat×Nat)(d:TypeDesc)(x y:Value)
 (hp:tmps.getD p undef= .pointer (some ⟨g,0,none⟩)) (hg:w.heap[g]? =some (.cells zs t fr)) (hu:P.underlying ty=some d) (hd:(match d with | .struct _ | .array _ _=>true | _=>false)=true) (hi:(P.info? ty).map (·.size)=some zs.size) (hp2:tmps.getD u undef=x) (hp3:tmps.getD v undef=y):
 (results fn tmps).run P w= .ok (.tuple #[.agg zs,x,y]) w:=by
 have hp' :tmps[p]?.getD undef= .pointer (some ⟨g,0,none⟩):=by simpa using hp
 have hp2' :tmps[u]?.getD undef=x:=by simpa using hp2
 have hp3' :tmps[v]?.getD undef=y:=by simpa using hp3
 simp[results,h,hp',hp2',hp3',asAddr,run_loadVar_row w g t ty zs fr d hg hu hd hi]
theorem qw (k:Nat)(h:k≤10):vX (zH k)=(k:Int):=by
 exact sc2
theorem zaG (w:World)(b:Nat)(dv:Value)(own:List UInt8)(k:Nat)(hk:k≤10)(h0:own[0]? =some (zH k))(h:zT w b dv ⟨own,0,false⟩):
 Calls Tryz.prog 78 #[.pointer (some ⟨b,0,none⟩)] w (fun e w'=>e= .returned (.int .i8 (k:Int))∧zT w' b dv ⟨own,1,false⟩∧za w w' (fun q=>q=b)):=
 (zfC w b dv _ h).mono fun e w' ⟨v,h1,h2⟩=>by
   have ho:vZ own 0= .ok ((k:Int),1):=by unfold vZ;rw[h0];show Except.ok (vX (zH k),0+1)=_;rw[qw k hk]
   unfold za5 at h2
   rw[inQ sp,ho] at h2
   obtain⟨h3,h4,h5⟩:=h2
   exact⟨by rw[h1,h3],h4,h5⟩
theorem zhH (w:World)(a:Option Addr)(cap:Nat)(bs own:List UInt8)(c0 c1 c2 c3 c4 c5 c6 c7 c8 c9 c10 ci ck:Int)(sc cr:Option Addr)(cn cc cm cd:Nat)(cw:ByteArray)(k:Nat)(s:Rd)(hat:zL w a bs)(hl:bs.length≤65536)(hc:bs.length≤cap)(hc2:(cap:Int)≤9223372036854775807)(hok:okN bs=true)(hown:zI bs=own)(hol:own.length≤65536)(h0:own[0]? =some (zH k))(hk1:1≤k)(hk2:k≤10)
 (ho:∀(rb:Nat) (Y:World),Below w.heap.size w Y→Y.heap[w.heap.size]? =some (.cells #[.int .i8 (k:Int),.int .i64 0,.int .i64 0,.int .i64 0,.int .i64 0,.int .i64 0,.int .i64 0,.int .i64 0,.int .i64 0,.int .i64 0,.int .i64 0,.slice none 0 0,.int .i64 0,.int .i64 0,.string ⟨#[]⟩,.slice none 0 0] 37 (0,0))→yC w.heap.size rb ⟨own,1,false⟩ Y→w.heap.size<rb→Calls Tryz.prog 56 #[.pointer (some ⟨w.heap.size,0,none⟩),.iface 114 (.agg #[.pointer (some ⟨rb,0,none⟩)])] Y (fun e Z=>e= .returned (.tuple #[])∧yC w.heap.size rb s Z∧Z.heap[w.heap.size]? =some (.cells #[.int .i8 c0,.int .i64 c1,.int .i64 c2,.int .i64 c3,.int .i64 c4,.int .i64 c5,.int .i64 c6,.int .i64 c7,.int .i64 c8,.int .i64 c9,.int .i64 c10,.slice sc cn cc,.int .i64 ci,.int .i64 ck,.string cw,.slice cr cm cd] 37 (0,0))∧za Y Z (fun q=>q=rb∨q=w.heap.size)))
 (he:s.yR= .tuple #[.int .i64 0,.int .i64 0])
 (hR:∀Y,Below w.heap.size w Y→Calls Tryz.prog 22 #[.agg #[.int .i8 c0,.int .i64 c1,.int .i64 c2,.int .i64 c3,.int .i64 c4,.int .i64 c5,.int .i64 c6,.int .i64 c7,.int .i64 c8,.int .i64 c9,.int .i64 c10,.slice sc cn cc,.int .i64 ci,.int .i64 ck,.string cw,.slice cr cm cd]] Y (zX true Y)):
 Calls Tryz.prog 33 #[.slice a bs.length cap] w (fun e Z=>e= .returned (.tuple #[.agg #[.int .i8 c0,.int .i64 c1,.int .i64 c2,.int .i64 c3,.int .i64 c4,.int .i64 c5,.int .i64 c6,.int .i64 c7,.int .i64 c8,.int .i64 c9,.int .i64 c10,.slice sc cn cc,.int .i64 ci,.int .i64 ck,.string cw,.slice cr cm cd],.int .i64 0,.int .i64 0])∧Below w.heap.size w Z):=by
 obtain⟨B,hB⟩:∃B,B=w.alloc (.cells #[.int .i8 0,.int .i64 0,.int .i64 0,.int .i64 0,.int .i64 0,.int .i64 0,.int .i64 0,.int .i64 0,.int .i64 0,.int .i64 0,.int .i64 0,.slice none 0 0,.int .i64 0,.int .i64 0,.string ⟨#[]⟩,.slice none 0 0] 37):=⟨_,rfl⟩
 have hb:Below w.heap.size w B:=by rw[hB];exact (BrQ _ _).alloc (NlrQ _) _
 have hx:B.heap[w.heap.size]? =some (.cells #[.int .i8 0,.int .i64 0,.int .i64 0,.int .i64 0,.int .i64 0,.int .i64 0,.int .i64 0,.int .i64 0,.int .i64 0,.int .i64 0,.int .i64 0,.slice none 0 0,.int .i64 0,.int .i64 0,.string ⟨#[]⟩,.slice none 0 0] 37 (0,0)):=by rw[hB];exact hanQ _ _
 have HOP:=hH (Qw B a cap bs (hat.below hb) om1 hc hc2)
 have HB:=hH (aN hb (aN hB hx))
 have HO:=hH ho
 have HR:=hH hR
 have HE:=hH he
 have HK:=hH (aN hok (aN hown (aN h0 (aN hk1 (aN hk2 hol)))))
 have hlen:(bs.length:Int)≤65536:=by omega
 obtain⟨n,hn⟩:∃n,n=bs.length:=⟨_,rfl⟩
 rw[←hn] at HOP hlen ⊢
 clear hat hl hc hc2 hok hown hol h0 hk1 hk2 ho he hR hb hB hx hn
 go_enter Tryz.func33,Tryz.ntmps33
 go_upto_region 1 with fail
 change Code.wp _ _ _ _ (w.alloc (.cells #[.int .i8 0,.int .i64 0,.int .i64 0,.int .i64 0,.int .i64 0,.int .i64 0,.int .i64 0,.int .i64 0,.int .i64 0,.int .i64 0,.int .i64 0,.slice none 0 0,.int .i64 0,.int .i64 0,.string ⟨#[]⟩,.slice none 0 0] 37))
 rw[←HB.out.2.1]
 go_wp2_with fail
 refine HOP.out.mono ?_
 rintro e B1 ⟨oa,oc,rfl,h1,h2⟩
 rw[HK.out.1,HK.out.2.1]
 rw[HK.out.2.1] at h1
 have HN:=hH (QU B1 oa oc own ⟨h1.1,h1.2⟩ (by have:=HK.out.2.2.2.2.2;omega))
 have H1:=hH h2
 clear h1 h2 HOP hlen
 obtain⟨m,hm⟩:∃m,m=own.length:=⟨_,rfl⟩
 rw[←hm] at HN ⊢
 clear hm
 go_wp2_with fail
 refine HN.out.mono ?_
 rintro e B2 ⟨rb,dv,rfl,hr1,hr2,hr3,hr4⟩
 have HS:=hH (zaG B2 rb dv own k HK.out.2.2.2.2.1 HK.out.2.2.1 hr3)
 have hwB:=lohQ HB.out.2.2
 have hb12:=H1.out.trans (hr4.mono H1.out.size)
 have H2:=hH (aN (show w.heap.size<rb by have:=H1.out.size;omega) (aN (fun g hg=>(show g≠w.heap.size by have:=hr2 g hg;have:=H1.out.size;omega)) (aN (HB.out.1.trans (hb12.mono HB.out.1.size)) ((hb12.block _ hwB).trans HB.out.2.2))))
 clear hr1 hr2 hr3 hr4 hwB hb12 HN H1
 go_wp2_with fail
 refine HS.out.mono ?_
 rintro e B3 ⟨rfl,hs1,hs2⟩
 have e3:=(hs2.block _ (lohQ H2.out.2.2.2) ud0).trans H2.out.2.2.2
 have f0:B3.frozen? ⟨w.heap.size,0,none⟩=false:=forQ _ _ 0 _ _ e3
 have k0:B3.cell? ⟨w.heap.size,0,none⟩=some (.int .i8 0):=by rw[corQ _ _ 0 _ _ _ e3];rfl
 have hb3:Below w.heap.size w B3:=⟨hs2.os.trans H2.out.2.2.1.os,hs2.tape.trans H2.out.2.2.1.tape,hs2.output.trans H2.out.2.2.1.output,NltQ H2.out.2.2.1.size hs2.size,fun q hq=>(hs2.block q (nL hq H2.out.2.2.1.size) ud0).trans (H2.out.2.2.1.block q hq)⟩
 obtain⟨X,hX⟩:∃X,X=B3.setCell ⟨w.heap.size,0,none⟩ (.int .i8 (k:Int)):=⟨_,rfl⟩
 have hxs:za B3 X (fun q=>q=w.heap.size):=by rw[hX];exact zu
 have eX:X.heap[w.heap.size]? =some (.cells #[.int .i8 (k:Int),.int .i64 0,.int .i64 0,.int .i64 0,.int .i64 0,.int .i64 0,.int .i64 0,.int .i64 0,.int .i64 0,.int .i64 0,.int .i64 0,.slice none 0 0,.int .i64 0,.int .i64 0,.string ⟨#[]⟩,.slice none 0 0] 37 (0,0)):=by rw[hX,hssQ _ _ 0 _ _ _ e3];rfl
 have hbX:Below w.heap.size w X:=⟨hxs.os.trans hb3.os,hxs.tape.trans hb3.tape,hxs.output.trans hb3.output,NltQ hb3.size hxs.size,fun q hq=>(hxs.block q (nL hq hb3.size) om1).trans (hb3.block q hq)⟩
 have hrX:yC w.heap.size rb ⟨own,1,false⟩ X:=⟨dv,hs1.kept hxs ud0 (fun g hg=>H2.out.2.1 g hg),by have:=H2.out.1;omega,fun e=>H2.out.2.1 _ e rfl⟩
 have HX:=hH (aN hX (aN eX (aN hbX (aN hrX H2.out.1))))
 clear e3 hb3 hX hxs eX hbX hrX hs1 hs2 HS H2
 go_upto_region 8 with fail
 try change Code.wp _ _ _ _ (B3.setCell ⟨w.heap.size,0,none⟩ (.int .i8 (k:Int)))
 rw[←HX.out.1]
 clear f0 k0
 have k0:X.cell? ⟨w.heap.size,0,none⟩=some (.int .i8 (k:Int)):=by rw[corQ _ _ 0 _ _ _ HX.out.2.1];rfl
 have HI:=hH (jR X (k:Int))
 rw[QW (k:=k) rfl HK.out.2.2.2.1 HK.out.2.2.2.2.1] at HI
 go_wp2_with fail
 refine HI.out.mono ?_
 rintro e X' ⟨rfl,h2⟩
 rw[h2]
 clear h2 X' HI k0
 go_wp2_with fail
 refine (HO.out rb X HX.out.2.2.1 HX.out.2.1 HX.out.2.2.2.1 HX.out.2.2.2.2).mono ?_
 rintro e Z ⟨rfl,hz1,hz2,hz3⟩
 obtain⟨dz,hd1,hd2,hd3⟩:=hz1
 have HEN:=hH (zeS Z rb dz s hd1)
 have HZ:=hH (aN (show Below w.heap.size w Z from⟨hz3.os.trans HX.out.2.2.1.os,hz3.tape.trans HX.out.2.2.1.tape,hz3.output.trans HX.out.2.2.1.output,NltQ HX.out.2.2.1.size hz3.size,fun q hq=>(hz3.block q (nL hq HX.out.2.2.1.size) (by have:=HX.out.2.2.2.2;omega)).trans (HX.out.2.2.1.block q hq)⟩) hz2)
 clear hd1 hd2 hd3 hz2 hz3
 go_wp2_with fail
 refine HEN.out.mono ?_
 rintro e V ⟨v,rfl,rfl,_,ht⟩
 rw[HE.out]
 have eV:=(ht.block _ (lohQ HZ.out.2) (fun h=>h)).trans HZ.out.2
 have HV:=hH (show Below w.heap.size w V from⟨ht.os.trans HZ.out.1.os,ht.tape.trans HZ.out.1.tape,ht.output.trans HZ.out.1.output,NltQ HZ.out.1.size ht.size,fun q hq=>(ht.block q (nL hq HZ.out.1.size) (fun h=>h)).trans (HZ.out.1.block q hq)⟩)
 clear ht
 have c_0:V.cell? ⟨w.heap.size,0,none⟩=some (.int .i8 c0):=by rw[corQ _ _ 0 _ _ _ eV];rfl
 have c_1:V.cell? ⟨w.heap.size,1,none⟩=some (.int .i64 c1):=by rw[corQ _ _ 1 _ _ _ eV];rfl
 have c_2:V.cell? ⟨w.heap.size,2,none⟩=some (.int .i64 c2):=by rw[corQ _ _ 2 _ _ _ eV];rfl
 have c_3:V.cell? ⟨w.heap.size,3,none⟩=some (.int .i64 c3):=by rw[corQ _ _ 3 _ _ _ eV];rfl
 have c_4:V.cell? ⟨w.heap.size,4,none⟩=some (.int .i64 c4):=by rw[corQ _ _ 4 _ _ _ eV];rfl
 have c_5:V.cell? ⟨w.heap.size,5,none⟩=some (.int .i64 c5):=by rw[corQ _ _ 5 _ _ _ eV];rfl
 have c_6:V.cell? ⟨w.heap.size,6,none⟩=some (.int .i64 c6):=by rw[corQ _ _ 6 _ _ _ eV];rfl
 have c_7:V.cell? ⟨w.heap.size,7,none⟩=some (.int .i64 c7):=by rw[corQ _ _ 7 _ _ _ eV];rfl
 have c_8:V.cell? ⟨w.heap.size,8,none⟩=some (.int .i64 c8):=by rw[corQ _ _ 8 _ _ _ eV];rfl
 have c_9:V.cell? ⟨w.heap.size,9,none⟩=some (.int .i64 c9):=by rw[corQ _ _ 9 _ _ _ eV];rfl
 have c_10:V.cell? ⟨w.heap.size,10,none⟩=some (.int .i64 c10):=by rw[corQ _ _ 10 _ _ _ eV];rfl
 have c_11:V.cell? ⟨w.heap.size,11,none⟩=some (.slice sc cn cc):=by rw[corQ _ _ 11 _ _ _ eV];rfl
 have c_12:V.cell? ⟨w.heap.size,12,none⟩=some (.int .i64 ci):=by rw[corQ _ _ 12 _ _ _ eV];rfl
 have c_13:V.cell? ⟨w.heap.size,13,none⟩=some (.int .i64 ck):=by rw[corQ _ _ 13 _ _ _ eV];rfl
 have c_14:V.cell? ⟨w.heap.size,14,none⟩=some (.string cw):=by rw[corQ _ _ 14 _ _ _ eV];rfl
 have c_15:V.cell? ⟨w.heap.size,15,none⟩=some (.slice cr cm cd):=by rw[corQ _ _ 15 _ _ _ eV];rfl
 have HEV:=hH eV
 clear eV
 go_wp2_with fail
 refine (HR.out V HV.out).mono ?_
 rintro e U ⟨rfl,hu⟩
 have eU:=(hu.block _ (lohQ HEV.out)).trans HEV.out
 have HU:=hH (aN (HV.out.trans (hu.mono HV.out.size)) eU)
 clear hu c_0 c_1 c_2 c_3 c_4 c_5 c_6 c_7 c_8 c_9 c_10 c_11 c_12 c_13 c_14 c_15
 have c_0:U.cell? ⟨w.heap.size,0,none⟩=some (.int .i8 c0):=by rw[corQ _ _ 0 _ _ _ eU];rfl
 have c_1:U.cell? ⟨w.heap.size,1,none⟩=some (.int .i64 c1):=by rw[corQ _ _ 1 _ _ _ eU];rfl
 have c_2:U.cell? ⟨w.heap.size,2,none⟩=some (.int .i64 c2):=by rw[corQ _ _ 2 _ _ _ eU];rfl
 have c_3:U.cell? ⟨w.heap.size,3,none⟩=some (.int .i64 c3):=by rw[corQ _ _ 3 _ _ _ eU];rfl
 have c_4:U.cell? ⟨w.heap.size,4,none⟩=some (.int .i64 c4):=by rw[corQ _ _ 4 _ _ _ eU];rfl
 have c_5:U.cell? ⟨w.heap.size,5,none⟩=some (.int .i64 c5):=by rw[corQ _ _ 5 _ _ _ eU];rfl
 have c_6:U.cell? ⟨w.heap.size,6,none⟩=some (.int .i64 c6):=by rw[corQ _ _ 6 _ _ _ eU];rfl
 have c_7:U.cell? ⟨w.heap.size,7,none⟩=some (.int .i64 c7):=by rw[corQ _ _ 7 _ _ _ eU];rfl
 have c_8:U.cell? ⟨w.heap.size,8,none⟩=some (.int .i64 c8):=by rw[corQ _ _ 8 _ _ _ eU];rfl
 have c_9:U.cell? ⟨w.heap.size,9,none⟩=some (.int .i64 c9):=by rw[corQ _ _ 9 _ _ _ eU];rfl
 have c_10:U.cell? ⟨w.heap.size,10,none⟩=some (.int .i64 c10):=by rw[corQ _ _ 10 _ _ _ eU];rfl
 have c_11:U.cell? ⟨w.heap.size,11,none⟩=some (.slice sc cn cc):=by rw[corQ _ _ 11 _ _ _ eU];rfl
 have c_12:U.cell? ⟨w.heap.size,12,none⟩=some (.int .i64 ci):=by rw[corQ _ _ 12 _ _ _ eU];rfl
 have c_13:U.cell? ⟨w.heap.size,13,none⟩=some (.int .i64 ck):=by rw[corQ _ _ 13 _ _ _ eU];rfl
 have c_14:U.cell? ⟨w.heap.size,14,none⟩=some (.string cw):=by rw[corQ _ _ 14 _ _ _ eU];rfl
 have c_15:U.cell? ⟨w.heap.size,15,none⟩=some (.slice cr cm cd):=by rw[corQ _ _ 15 _ _ _ eU];rfl
 have ff:∀j,U.frozen? ⟨w.heap.size,j,none⟩=false:=fun j=>forQ _ _ j _ _ eU
 clear eU
 go_wp2_with fail
 rw[yu (U:=U) (g:=w.heap.size) (j:=0) (v:= .int .i8 c0) HU.out.2 rfl,yu (U:=U) (g:=w.heap.size) (j:=1) (v:= .int .i64 c1) HU.out.2 rfl,yu (U:=U) (g:=w.heap.size) (j:=2) (v:= .int .i64 c2) HU.out.2 rfl,yu (U:=U) (g:=w.heap.size) (j:=3) (v:= .int .i64 c3) HU.out.2 rfl,yu (U:=U) (g:=w.heap.size) (j:=4) (v:= .int .i64 c4) HU.out.2 rfl,yu (U:=U) (g:=w.heap.size) (j:=5) (v:= .int .i64 c5) HU.out.2 rfl,yu (U:=U) (g:=w.heap.size) (j:=6) (v:= .int .i64 c6) HU.out.2 rfl,yu (U:=U) (g:=w.heap.size) (j:=7) (v:= .int .i64 c7) HU.out.2 rfl,yu (U:=U) (g:=w.heap.size) (j:=8) (v:= .int .i64 c8) HU.out.2 rfl,yu (U:=U) (g:=w.heap.size) (j:=9) (v:= .int .i64 c9) HU.out.2 rfl,yu (U:=U) (g:=w.heap.size) (j:=10) (v:= .int .i64 c10) HU.out.2 rfl,yu (U:=U) (g:=w.heap.size) (j:=11) (v:= .slice sc cn cc) HU.out.2 rfl,yu (U:=U) (g:=w.heap.size) (j:=12) (v:= .int .i64 ci) HU.out.2 rfl,yu (U:=U) (g:=w.heap.size) (j:=13) (v:= .int .i64 ck) HU.out.2 rfl,yu (U:=U) (g:=w.heap.size) (j:=14) (v:= .string cw) HU.out.2 rfl,yu (U:=U) (g:=w.heap.size) (j:=15) (v:= .slice cr cm cd) HU.out.2 rfl]
 refine brQ (qz rfl _ _ w.heap.size 37 #[.int .i8 c0,.int .i64 c1,.int .i64 c2,.int .i64 c3,.int .i64 c4,.int .i64 c5,.int .i64 c6,.int .i64 c7,.int .i64 c8,.int .i64 c9,.int .i64 c10,.slice sc cn cc,.int .i64 ci,.int .i64 ck,.string cw,.slice cr cm cd] (0,0) _ (.int .i64 0) (.int .i64 0) rfl HU.out.2 Tryz.underlying37 rfl kr1 rfl rfl) rfl ?_
 exact⟨rfl,HU.out.1⟩
theorem zdA:∀{qs:List (Nat×Int×Int)} {s s' :List UInt8} {cs cs' :Array Value},qU ze qs s cs=some (s',cs')→s'.length=s.length+8*qs.length
 | [],s,s',cs,cs',h=>by simp only[qU] at h;cases h;simp
 | q ::r,s,s',cs,cs',h=>by
   simp only[qU,ze] at h
   have:=zdA h
   rw[this,LlaQ,zw,LlcQ];omega
theorem qh (bs:List UInt8):okN (zy bs)=true∧zI (zy bs)=bs:=by
 have e:(zy bs).take ((zy bs).length - 4)=bs:=by rw[zS,Nat.add_sub_cancel,zy,List.take_left]
 have h:okN (zy bs)=true:=by unfold okN;rw[e];simp
 exact⟨h,by unfold zI;rw[ipQ h,e]⟩
theorem zcl {A:World}{B:Nat}{v:Value}{bs:List UInt8}(ho:A.ownsRow B 5 1 v bs.length (bs.map cell))(h0:0<bs.length):∃g cap,v= .slice (some ⟨g,0,none⟩) bs.length cap∧B≤g∧bs.length≤cap∧(cap:Int)≤9223372036854775807∧zL A (some ⟨g,0,none⟩) bs:=by
 have hc:=fun g hg=>World.ownsRowF.cells (World.ownsRowF_of ho) (g:=g) hg
 rcases ho.2 with ⟨hv,hn⟩ | ⟨g,cap,cur,hv,hB,hh,h3,h4,_⟩
 · omega
 · subst hv
   exact⟨g,cap,rfl,hB,h3,by unfold maxLen at h4;omega,fun e=>(by cases e),fun ad e j u hj=>by
    cases e
    exact hc g rfl j _ (by rw[List.getElem?_map,hj];rfl)⟩
def qs9:List (Nat×Int×Int):=[(3,1,1125899906842624),zg 9]
def Yp:List UInt8:=[zH 9]++zq 2++zq 0++zq 1++zq 0
theorem zfq:(zy Yp).length=37:=by rw[zS];rfl
theorem zgA (b wb:Nat)(hne:wb≠b)(j:Nat)(F:FuncId)(q:Nat×Int×Int)(h1:([144,143]:List FuncId)[j]? =some F)(h2:qs9[j]? =some q):kS (σ:=List UInt8) (fun s=>s.length≤1000000000000) (fun s X=>ZV b wb s X) (fun q=>q=wb) ze b 101 (.pointer (some ⟨wb,0,none⟩)) 9 F q:=
 match j,h1,h2 with
 | 0,h1,h2=>by cases h1;cases h2;exact qK (Yx b wb hne) 9
 | 1,h1,h2=>by cases h1;cases h2;exact zB (Yx b wb hne) 9
 | j+2,h1,h2=>by simp at h1
theorem zhF (b rb:Nat)(hne:rb≠b)(j:Nat)(F:FuncId)(q:Nat×Int×Int)(h1:([144,143]:List FuncId)[j]? =some F)(h2:qs9[j]? =some q):kS (σ:=Rd) (fun _=>True) (fun s X=>yC b rb s X) (fun q=>q=rb) zz b 114 (.agg #[.pointer (some ⟨rb,0,none⟩)]) 9 F q:=
 match j,h1,h2 with
 | 0,h1,h2=>by cases h1;cases h2;exact qK (zt b rb hne) 9
 | 1,h1,h2=>by cases h1;cases h2;exact zB (zt b rb hne) 9
 | j+2,h1,h2=>by simp at h1
theorem zjY (w:World):Calls Tryz.prog 31 #[.agg #[.int .i8 9,.int .i64 2,.int .i64 0,.int .i64 1,.int .i64 0,.int .i64 0,.int .i64 0,.int .i64 0,.int .i64 0,.int .i64 0,.int .i64 0,.slice none 0 0,.int .i64 0,.int .i64 0,.string ⟨#[]⟩,.slice none 0 0]] w (qf (zy Yp) w):=
 qP w 9 2 0 1 0 0 0 0 0 0 0 0 0 none none 0 0 0 0 ⟨#[]⟩ 9 rfl ue0 Yp ue0 (fun Y _=>zhI Y) fun wb Y hY hx hw hlt=>
  (jJ (Yx w.heap.size wb om1) 9 9 rfl ue0 ue0 _ rfl qs9 rfl (zgA w.heap.size wb om1) ue0 [zH 9] Y _ hw hx (zan 9 2 0 1 0 0 0 0 0 0 0) (fun j s' cs' h=>by
    have h2:=zdA h
    have h3:((zl 9::toQ 9::qs9).take j).length≤4:=by rw[List.length_take];exact Nat.min_le_right _ _
    show s'.length≤_
    rw[h2];simp only[LlcQ,List.length_nil];omega)).mono fun e Z h=>by
  rw[show qU ze (zl 9::toQ 9::qs9) [zH 9] #[.int .i8 9,.int .i64 2,.int .i64 0,.int .i64 1,.int .i64 0,.int .i64 0,.int .i64 0,.int .i64 0,.int .i64 0,.int .i64 0,.int .i64 0,.slice none 0 0,.int .i64 0,.int .i64 0,.string ⟨#[]⟩,.slice none 0 0]=some (Yp, #[.int .i8 9,.int .i64 2,.int .i64 0,.int .i64 1,.int .i64 0,.int .i64 0,.int .i64 0,.int .i64 0,.int .i64 0,.int .i64 0,.int .i64 0,.slice none 0 0,.int .i64 0,.int .i64 0,.string ⟨#[]⟩,.slice none 0 0]) from rfl] at h
  exact⟨h.1,h.2.1,h.2.2.2⟩
theorem zlS:qU zz (zl 9::toQ 9::qs9) (⟨Yp,1,false⟩:Rd) #[.int .i8 9,.int .i64 0,.int .i64 0,.int .i64 0,.int .i64 0,.int .i64 0,.int .i64 0,.int .i64 0,.int .i64 0,.int .i64 0,.int .i64 0,.slice none 0 0,.int .i64 0,.int .i64 0,.string ⟨#[]⟩,.slice none 0 0]=some ((⟨Yp,33,false⟩:Rd), #[.int .i8 9,.int .i64 2,.int .i64 0,.int .i64 1,.int .i64 0,.int .i64 0,.int .i64 0,.int .i64 0,.int .i64 0,.int .i64 0,.int .i64 0,.slice none 0 0,.int .i64 0,.int .i64 0,.string ⟨#[]⟩,.slice none 0 0]):=by kernel_rfl
theorem zk8 (w:World)(a:Option Addr)(cap:Nat)(hat:zL w a (zy Yp))(hc:37≤cap)(hc2:(cap:Int)≤9223372036854775807):Calls Tryz.prog 33 #[.slice a 37 cap] w (fun e Z=>e= .returned (.tuple #[.agg #[.int .i8 9,.int .i64 2,.int .i64 0,.int .i64 1,.int .i64 0,.int .i64 0,.int .i64 0,.int .i64 0,.int .i64 0,.int .i64 0,.int .i64 0,.slice none 0 0,.int .i64 0,.int .i64 0,.string ⟨#[]⟩,.slice none 0 0],.int .i64 0,.int .i64 0])∧Below w.heap.size w Z):=
 zhH w a cap (zy Yp) Yp 9 2 0 1 0 0 0 0 0 0 0 0 0 none none 0 0 0 0 ⟨#[]⟩ 9 ⟨Yp,33,false⟩ hat (by rw[zS];decide) (by rw[zS];exact hc) hc2 (qh _).1 (qh _).2 ue0 rfl ue0 ue0
  (fun rb Y hY hx hr hlt=>(jJ (zt w.heap.size rb om1) 9 9 rfl ue0 ue0 _ rfl qs9 rfl (zhF w.heap.size rb om1) ue0 ⟨Yp,1,false⟩ Y #[.int .i8 9,.int .i64 0,.int .i64 0,.int .i64 0,.int .i64 0,.int .i64 0,.int .i64 0,.int .i64 0,.int .i64 0,.int .i64 0,.int .i64 0,.slice none 0 0,.int .i64 0,.int .i64 0,.string ⟨#[]⟩,.slice none 0 0] hr hx (zan 9 0 0 0 0 0 0 0 0 0 0) (fun _ _ _ _=>trivial)).mono fun e Z h=>by
    rw[zlS] at h
    exact⟨h.1,h.2.1,h.2.2.1,h.2.2.2⟩) rfl (fun Y _=>zhI Y)
theorem zj0 (w:World):Calls Tryz.prog 31 #[.agg #[.int .i8 1,.int .i64 0,.int .i64 1,.int .i64 0,.int .i64 1,.int .i64 1,.int .i64 0,.int .i64 0,.int .i64 0,.int .i64 0,.int .i64 0,.slice none 0 0,.int .i64 0,.int .i64 0,.string ⟨#[]⟩,.slice none 0 0]] w (fun e Z=>e= .returned (.tuple #[.slice none 0 0,.int .i64 2])∧Below w.heap.size w Z):=
 vg w 1 0 1 0 1 1 0 0 0 0 0 0 0 none none 0 0 0 0 ⟨#[]⟩ fun Y _=>zkn Y
theorem Zj (w:World):Calls Tryz.prog 21 #[] w (zX true w):=by
 have H9:=hH zjY
 have H1:=hH zj0
 have HR:=hH zk8
 go_enter Tryz.func21,Tryz.ntmps21
 go_wp2_with fail
 refine (H9.out _).mono ?_
 rintro e A ⟨v,B,rfl,hB,ho,hb⟩
 have HA:=hH (aN hB (aN ho hb))
 obtain⟨g,cap,rfl,hg,hcap,hcap2,hat⟩:=zcl ho (by rw[zfq];decide)
 rw[zfq] at hcap ⊢
 have HAT:=hH (aN hb (aN hat (aN hcap hcap2)))
 clear hB ho hb hg hat hcap hcap2 HA H9
 go_wp2_with fail
 refine (H1.out _).mono ?_
 rintro e C ⟨rfl,hc⟩
 have HAC:=hH (aN (HAT.out.1.trans (hc.mono HAT.out.1.size)) (HAT.out.2.1.below hc))
 clear hc H1
 go_wp2_with fail
 refine (HR.out C _ cap HAC.out.2 HAT.out.2.2.1 HAT.out.2.2.2).mono ?_
 rintro e D ⟨rfl,hd⟩
 have hDt:=HAC.out.2.below hd
 have b0:D.cell? ⟨g,0,none⟩=some (.int .u8 9):=hDt.2 _ rfl 0 9 rfl
 have b8:D.cell? ⟨g,8,none⟩=some (.int .u8 2):=hDt.2 _ rfl 8 2 rfl
 have HD:=hH (HAC.out.1.trans (hd.mono HAC.out.1.size))
 obtain⟨Y,hY⟩:∃Y,Y=D.alloc (.cells #[.int .i8 9,.int .i64 2,.int .i64 0,.int .i64 1,.int .i64 0,.int .i64 0,.int .i64 0,.int .i64 0,.int .i64 0,.int .i64 0,.int .i64 0,.slice none 0 0,.int .i64 0,.int .i64 0,.string ⟨#[]⟩,.slice none 0 0] 37):=⟨_,rfl⟩
 have hyb:Below D.heap.size D Y:=by rw[hY];exact (BrQ _ _).alloc (NlrQ _) _
 have hyr:Y.heap[D.heap.size]? =some (.cells #[.int .i8 9,.int .i64 2,.int .i64 0,.int .i64 1,.int .i64 0,.int .i64 0,.int .i64 0,.int .i64 0,.int .i64 0,.int .i64 0,.int .i64 0,.slice none 0 0,.int .i64 0,.int .i64 0,.string ⟨#[]⟩,.slice none 0 0] 37 (0,0)):=by rw[hY];exact hanQ _ _
 have gD:g<D.heap.size:=World.block_lt_of_cell? _ _ b0
 have b0:Y.cell? ⟨g,0,none⟩=some (.int .u8 9):=(World.cell?_of_block (hyb.block _ gD)).trans b0
 have b8:Y.cell? ⟨g,8,none⟩=some (.int .u8 2):=(World.cell?_of_block (hyb.block _ gD)).trans b8
 have r1:Y.cell? ⟨D.heap.size,1,none⟩=some (.int .i64 2):=by rw[corQ _ _ 1 _ _ _ hyr];rfl
 have r3:Y.cell? ⟨D.heap.size,3,none⟩=some (.int .i64 1):=by rw[corQ _ _ 3 _ _ _ hyr];rfl
 have HY:=hH (aN hY (HD.out.trans (hyb.mono HD.out.size)))
 clear hd hDt hY hyb hyr gD HAC HAT HR
 go_upto_region 4 with fail
 change Code.wp _ _ _ _ (D.alloc (.cells #[.int .i8 9,.int .i64 2,.int .i64 0,.int .i64 1,.int .i64 0,.int .i64 0,.int .i64 0,.int .i64 0,.int .i64 0,.int .i64 0,.int .i64 0,.slice none 0 0,.int .i64 0,.int .i64 0,.string ⟨#[]⟩,.slice none 0 0] 37))
 rw[←HY.out.1]
 go_wp2_with (go_quiet (fail))
 go_ret
 exact⟨rfl,HY.out.2⟩
end Go.Proofs.YtoidedomenkbpaaGreat
