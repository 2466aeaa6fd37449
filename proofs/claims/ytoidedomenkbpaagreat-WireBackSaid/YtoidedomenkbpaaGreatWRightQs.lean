/-
  .
-/
import Derived.Test.YtoidedomenkbpaaGreatWSameMQs
import Derived.Test.YtoidedomenkbpaaGreatCToldQs
set_option maxRecDepth 100000
set_option maxHeartbeats 40000000
set_option linter.unusedVariables false
set_option linter.unusedSimpArgs false
namespace Go.Proofs.YtoidedomenkbpaaGreat
open Go.RowKit Go.Shelf
def zi (s:Unit)(n lo hi:Int):Option (Int×Unit):=if zA lo hi n then some (0,()) else none
theorem zb1 (X:World)(n lo hi:Int):Calls Tryz.prog 255 #[.agg #[],.int .i64 n,.int .i64 lo,.int .i64 hi] X (fun e X'=>e=(if zA lo hi n then .returned (.int .i64 0) else .panicked Zi)∧Below X.heap.size X X'):=by
 have HA:=hH (yP (X.alloc (.cells #[] 87)) n lo hi)
 have HX:=hH (fun X' (h:Below (X.alloc (.cells #[] 87)).heap.size (X.alloc (.cells #[] 87)) X')=>(((BrQ X.heap.size X).alloc (NlrQ _) (.cells #[] 87)).trans (h.mono ud4):Below X.heap.size X X'))
 cases hb:zA lo hi n
 · rw[hb] at HA
   clear hb
   go_enter Tryz.func255,Tryz.ntmps255
   go_wp2_with fail
   refine HA.out.mono ?_
   intro e w' hq;obtain⟨rfl,hb'⟩:=hq.f
   exact⟨rfl,rfl,HX.out _ hb'⟩
 · rw[hb] at HA
   clear hb
   go_enter Tryz.func255,Tryz.ntmps255
   go_wp2_with fail
   refine HA.out.mono ?_
   intro e w' hq;obtain⟨rfl,hb'⟩:=hq.t
   have HB':=hH hb'
   clear hb'
   go_wp2_with fail
   go_ret
   exact⟨rfl,HX.out _ HB'.out⟩
theorem zx (b:Nat):qm (σ:=Unit) (fun _=>True) (fun _ _=>True) (fun _=>False) zi b 87 (.agg #[]) (.agg #[]) 255 where
 jS:=fun w=>by rfl
 enter:=fun _ _=>by rfl
 does :=fun s X n lo hi _=>(zb1 X n lo hi).mono fun e X' ⟨h1,h2⟩=>by
  unfold zi
  cases hb:zA lo hi n
  · rw[hb] at h1
    exact⟨h1,zn h2 _⟩
  · rw[hb] at h1
    exact⟨h1,fun _=>trivial,zn h2 _⟩
 keep:=fun _ _ _ _ _ _=>trivial
 apart:=fun h=>h
 inn:=fun _ _ _ _ h=>h.elim
def Jz (b:Nat)(r:Bool)(X:World)(e:Ending)(W:World):Prop:=e=(if r then .returned (.tuple #[]) else .panicked Zi)∧za X W (fun q=>q=b)
theorem Jz.yes {b:Nat}{X W:World}(h:za X W (fun q=>q=b)):Jz b true X (.returned (.tuple #[])) W:=⟨rfl,h⟩
theorem Jz.no {b:Nat}{X W:World}(h:za X W (fun q=>q=b)):Jz b false X (.panicked Zi) W:=⟨rfl,h⟩
theorem zdx (X:World)(b:Nat)(a0 a1 a2 a3 a4 a5 a6 a7 a8 a9 a10 ai ak:Int)(sa ar:Option Addr)(an ac am ad:Nat)(aw:ByteArray)(hx:X.heap[b]? =some (.cells #[.int .i8 a0,.int .i64 a1,.int .i64 a2,.int .i64 a3,.int .i64 a4,.int .i64 a5,.int .i64 a6,.int .i64 a7,.int .i64 a8,.int .i64 a9,.int .i64 a10,.slice sa an ac,.int .i64 ai,.int .i64 ak,.string aw,.slice ar am ad] 37 (0,0)))(hk:zA 1 10 a0=false):
 Calls Tryz.prog 53 #[.pointer (some ⟨b,0,none⟩)] X (Jz b false X):=by
 have k0:X.cell? ⟨b,0,none⟩=some (.int .i8 a0):=by rw[corQ _ _ 0 _ _ _ hx];rfl
 have HI:=hH (jR X a0)
 have HA:=hH (yV X false)
 rw[hk] at HI
 clear hx hk
 go_enter Tryz.func53,Tryz.ntmps53
 go_wp2_with fail
 refine HI.out.mono ?_
 rintro e w1 ⟨rfl,rfl⟩
 go_wp2_with fail
 refine HA.out.mono ?_
 intro e w1 hq;obtain⟨rfl,hb⟩:=hq.f
 exact⟨rfl,Jz.no (zn hb _)⟩
theorem zdy (X:World)(b:Nat)(a0 a1 a2 a3 a4 a5 a6 a7 a8 a9 a10 ai ak:Int)(sa ar:Option Addr)(an ac am ad:Nat)(aw:ByteArray)(hx:X.heap[b]? =some (.cells #[.int .i8 a0,.int .i64 a1,.int .i64 a2,.int .i64 a3,.int .i64 a4,.int .i64 a5,.int .i64 a6,.int .i64 a7,.int .i64 a8,.int .i64 a9,.int .i64 a10,.slice sa an ac,.int .i64 ai,.int .i64 ak,.string aw,.slice ar am ad] 37 (0,0)))(hk:zA 1 10 a0=true)(ho:∀Y,Below X.heap.size X Y→Calls Tryz.prog 56 #[.pointer (some ⟨b,0,none⟩),.iface 87 (.agg #[])] Y (fun e Z=>e= .panicked Zi∧za Y Z (fun q=>q=b))):
 Calls Tryz.prog 53 #[.pointer (some ⟨b,0,none⟩)] X (Jz b false X):=by
 have k0:X.cell? ⟨b,0,none⟩=some (.int .i8 a0):=by rw[corQ _ _ 0 _ _ _ hx];rfl
 have HI:=hH (jR X a0)
 have HA:=hH (yV X true)
 rw[hk] at HI
 have HX:=hH hx
 have HO:=hH ho
 clear ho hx hk
 go_enter Tryz.func53,Tryz.ntmps53
 go_wp2_with fail
 refine HI.out.mono ?_
 rintro e w1 ⟨rfl,h2⟩
 rw[h2]
 clear h2 w1
 go_wp2_with fail
 refine HA.out.mono ?_
 intro e X1 hq;obtain⟨rfl,hb⟩:=hq.t
 have HB:=hH hb
 clear HI HA hq k0
 have k0:X1.cell? ⟨b,0,none⟩=some (.int .i8 a0):=by rw[corQ _ _ 0 _ _ _ ((hb.block _ (lohQ HX.out)).trans HX.out)];rfl
 clear hb
 go_upto_region 2 with fail
 change Code.wp _ _ _ _ (X1.alloc (.cells #[.int .i8 a0,.int .i64 0,.int .i64 0,.int .i64 0,.int .i64 0,.int .i64 0,.int .i64 0,.int .i64 0,.int .i64 0,.int .i64 0,.int .i64 0,.slice none 0 0,.int .i64 0,.int .i64 0,.string ⟨#[]⟩,.slice none 0 0] 37))
 obtain⟨Y,hY⟩:∃Y,Y=X1.alloc (.cells #[.int .i8 a0,.int .i64 0,.int .i64 0,.int .i64 0,.int .i64 0,.int .i64 0,.int .i64 0,.int .i64 0,.int .i64 0,.int .i64 0,.int .i64 0,.slice none 0 0,.int .i64 0,.int .i64 0,.string ⟨#[]⟩,.slice none 0 0] 37):=⟨_,rfl⟩
 rw[←hY]
 have hyb:Below X.heap.size X Y:=by rw[hY];exact HB.out.alloc HB.out.size _
 have hyk:Y.heap[X1.heap.size]? =some (.cells #[.int .i8 a0,.int .i64 0,.int .i64 0,.int .i64 0,.int .i64 0,.int .i64 0,.int .i64 0,.int .i64 0,.int .i64 0,.int .i64 0,.int .i64 0,.slice none 0 0,.int .i64 0,.int .i64 0,.string ⟨#[]⟩,.slice none 0 0] 37 (0,0)):=by rw[hY];exact hanQ _ _
 have HY:=hH (aN hyb hyk)
 clear hY hyb hyk k0
 go_wp2_with fail
 refine (HO.out _ HY.out.1).mono ?_
 rintro e Z ⟨rfl,hz⟩
 exact⟨rfl,Jz.no ((zn HY.out.1 _).zK hz)⟩
theorem Jt (X:World)(b:Nat)(a0 a1 a2 a3 a4 a5 a6 a7 a8 a9 a10 ai ak:Int)(sa ar:Option Addr)(an ac am ad:Nat)(aw:ByteArray)(c0 c1 c2 c3 c4 c5 c6 c7 c8 c9 c10 ci ck:Int)(sc cr:Option Addr)(cn cc cm cd:Nat)(cw:ByteArray)(r:Bool)(hx:X.heap[b]? =some (.cells #[.int .i8 a0,.int .i64 a1,.int .i64 a2,.int .i64 a3,.int .i64 a4,.int .i64 a5,.int .i64 a6,.int .i64 a7,.int .i64 a8,.int .i64 a9,.int .i64 a10,.slice sa an ac,.int .i64 ai,.int .i64 ak,.string aw,.slice ar am ad] 37 (0,0)))(hk:zA 1 10 a0=true)(ho:∀Y,Below X.heap.size X Y→Calls Tryz.prog 56 #[.pointer (some ⟨b,0,none⟩),.iface 87 (.agg #[])] Y (fun e Z=>e= .returned (.tuple #[])∧Z.heap[b]? =some (.cells #[.int .i8 c0,.int .i64 c1,.int .i64 c2,.int .i64 c3,.int .i64 c4,.int .i64 c5,.int .i64 c6,.int .i64 c7,.int .i64 c8,.int .i64 c9,.int .i64 c10,.slice sc cn cc,.int .i64 ci,.int .i64 ck,.string cw,.slice cr cm cd] 37 (0,0))∧za Y Z (fun q=>q=b)))
 (hs:∀Z,za X Z (fun q=>q=b)→Calls Tryz.prog 24 #[.agg #[.int .i8 c0,.int .i64 c1,.int .i64 c2,.int .i64 c3,.int .i64 c4,.int .i64 c5,.int .i64 c6,.int .i64 c7,.int .i64 c8,.int .i64 c9,.int .i64 c10,.slice sc cn cc,.int .i64 ci,.int .i64 ck,.string cw,.slice cr cm cd],.agg #[.int .i8 a0,.int .i64 0,.int .i64 0,.int .i64 0,.int .i64 0,.int .i64 0,.int .i64 0,.int .i64 0,.int .i64 0,.int .i64 0,.int .i64 0,.slice none 0 0,.int .i64 0,.int .i64 0,.string ⟨#[]⟩,.slice none 0 0]] Z (fun e V=>e= .returned (.bool r)∧Below Z.heap.size Z V)):
 Calls Tryz.prog 53 #[.pointer (some ⟨b,0,none⟩)] X (Jz b r X):=by
 have HS:=hH hs
 have k0:X.cell? ⟨b,0,none⟩=some (.int .i8 a0):=by rw[corQ _ _ 0 _ _ _ hx];rfl
 have HI:=hH (jR X a0)
 have HA:=hH (yV X true)
 rw[hk] at HI
 have HX:=hH hx
 have HO:=hH ho
 clear ho hx hk hs
 go_enter Tryz.func53,Tryz.ntmps53
 go_wp2_with fail
 refine HI.out.mono ?_
 rintro e w1 ⟨rfl,h2⟩
 rw[h2]
 clear h2 w1
 go_wp2_with fail
 refine HA.out.mono ?_
 intro e X1 hq;obtain⟨rfl,hb⟩:=hq.t
 have HB:=hH hb
 clear HI HA hq k0
 have k0:X1.cell? ⟨b,0,none⟩=some (.int .i8 a0):=by rw[corQ _ _ 0 _ _ _ ((hb.block _ (lohQ HX.out)).trans HX.out)];rfl
 clear hb
 go_upto_region 2 with fail
 change Code.wp _ _ _ _ (X1.alloc (.cells #[.int .i8 a0,.int .i64 0,.int .i64 0,.int .i64 0,.int .i64 0,.int .i64 0,.int .i64 0,.int .i64 0,.int .i64 0,.int .i64 0,.int .i64 0,.slice none 0 0,.int .i64 0,.int .i64 0,.string ⟨#[]⟩,.slice none 0 0] 37))
 obtain⟨Y,hY⟩:∃Y,Y=X1.alloc (.cells #[.int .i8 a0,.int .i64 0,.int .i64 0,.int .i64 0,.int .i64 0,.int .i64 0,.int .i64 0,.int .i64 0,.int .i64 0,.int .i64 0,.int .i64 0,.slice none 0 0,.int .i64 0,.int .i64 0,.string ⟨#[]⟩,.slice none 0 0] 37):=⟨_,rfl⟩
 rw[←hY]
 have hyb:Below X.heap.size X Y:=by rw[hY];exact HB.out.alloc HB.out.size _
 have hyk:Y.heap[X1.heap.size]? =some (.cells #[.int .i8 a0,.int .i64 0,.int .i64 0,.int .i64 0,.int .i64 0,.int .i64 0,.int .i64 0,.int .i64 0,.int .i64 0,.int .i64 0,.int .i64 0,.slice none 0 0,.int .i64 0,.int .i64 0,.string ⟨#[]⟩,.slice none 0 0] 37 (0,0)):=by rw[hY];exact hanQ _ _
 have HY:=hH (aN hyb hyk)
 clear hY hyb hyk k0
 go_wp2_with fail
 refine (HO.out _ HY.out.1).mono ?_
 rintro e Z ⟨rfl,hzb,hz⟩
 have hXZ:=(zn HY.out.1 _).zK hz
 have hzk:=(hz.block _ (lohQ HY.out.2) (by have:=HB.out.size;have:=lohQ HX.out;omega)).trans HY.out.2
 have HZ:=hH hXZ
 have c_0:Z.cell? ⟨b,0,none⟩=some (.int .i8 c0):=by rw[corQ _ _ 0 _ _ _ hzb];rfl
 have c_1:Z.cell? ⟨b,1,none⟩=some (.int .i64 c1):=by rw[corQ _ _ 1 _ _ _ hzb];rfl
 have c_2:Z.cell? ⟨b,2,none⟩=some (.int .i64 c2):=by rw[corQ _ _ 2 _ _ _ hzb];rfl
 have c_3:Z.cell? ⟨b,3,none⟩=some (.int .i64 c3):=by rw[corQ _ _ 3 _ _ _ hzb];rfl
 have c_4:Z.cell? ⟨b,4,none⟩=some (.int .i64 c4):=by rw[corQ _ _ 4 _ _ _ hzb];rfl
 have c_5:Z.cell? ⟨b,5,none⟩=some (.int .i64 c5):=by rw[corQ _ _ 5 _ _ _ hzb];rfl
 have c_6:Z.cell? ⟨b,6,none⟩=some (.int .i64 c6):=by rw[corQ _ _ 6 _ _ _ hzb];rfl
 have c_7:Z.cell? ⟨b,7,none⟩=some (.int .i64 c7):=by rw[corQ _ _ 7 _ _ _ hzb];rfl
 have c_8:Z.cell? ⟨b,8,none⟩=some (.int .i64 c8):=by rw[corQ _ _ 8 _ _ _ hzb];rfl
 have c_9:Z.cell? ⟨b,9,none⟩=some (.int .i64 c9):=by rw[corQ _ _ 9 _ _ _ hzb];rfl
 have c_10:Z.cell? ⟨b,10,none⟩=some (.int .i64 c10):=by rw[corQ _ _ 10 _ _ _ hzb];rfl
 have c_11:Z.cell? ⟨b,11,none⟩=some (.slice sc cn cc):=by rw[corQ _ _ 11 _ _ _ hzb];rfl
 have c_12:Z.cell? ⟨b,12,none⟩=some (.int .i64 ci):=by rw[corQ _ _ 12 _ _ _ hzb];rfl
 have c_13:Z.cell? ⟨b,13,none⟩=some (.int .i64 ck):=by rw[corQ _ _ 13 _ _ _ hzb];rfl
 have c_14:Z.cell? ⟨b,14,none⟩=some (.string cw):=by rw[corQ _ _ 14 _ _ _ hzb];rfl
 have c_15:Z.cell? ⟨b,15,none⟩=some (.slice cr cm cd):=by rw[corQ _ _ 15 _ _ _ hzb];rfl
 have k_0:Z.cell? ⟨X1.heap.size,0,none⟩=some (.int .i8 a0):=by rw[corQ _ _ 0 _ _ _ hzk];rfl
 have k_1:Z.cell? ⟨X1.heap.size,1,none⟩=some (.int .i64 0):=by rw[corQ _ _ 1 _ _ _ hzk];rfl
 have k_2:Z.cell? ⟨X1.heap.size,2,none⟩=some (.int .i64 0):=by rw[corQ _ _ 2 _ _ _ hzk];rfl
 have k_3:Z.cell? ⟨X1.heap.size,3,none⟩=some (.int .i64 0):=by rw[corQ _ _ 3 _ _ _ hzk];rfl
 have k_4:Z.cell? ⟨X1.heap.size,4,none⟩=some (.int .i64 0):=by rw[corQ _ _ 4 _ _ _ hzk];rfl
 have k_5:Z.cell? ⟨X1.heap.size,5,none⟩=some (.int .i64 0):=by rw[corQ _ _ 5 _ _ _ hzk];rfl
 have k_6:Z.cell? ⟨X1.heap.size,6,none⟩=some (.int .i64 0):=by rw[corQ _ _ 6 _ _ _ hzk];rfl
 have k_7:Z.cell? ⟨X1.heap.size,7,none⟩=some (.int .i64 0):=by rw[corQ _ _ 7 _ _ _ hzk];rfl
 have k_8:Z.cell? ⟨X1.heap.size,8,none⟩=some (.int .i64 0):=by rw[corQ _ _ 8 _ _ _ hzk];rfl
 have k_9:Z.cell? ⟨X1.heap.size,9,none⟩=some (.int .i64 0):=by rw[corQ _ _ 9 _ _ _ hzk];rfl
 have k_10:Z.cell? ⟨X1.heap.size,10,none⟩=some (.int .i64 0):=by rw[corQ _ _ 10 _ _ _ hzk];rfl
 have k_11:Z.cell? ⟨X1.heap.size,11,none⟩=some (.slice none 0 0):=by rw[corQ _ _ 11 _ _ _ hzk];rfl
 have k_12:Z.cell? ⟨X1.heap.size,12,none⟩=some (.int .i64 0):=by rw[corQ _ _ 12 _ _ _ hzk];rfl
 have k_13:Z.cell? ⟨X1.heap.size,13,none⟩=some (.int .i64 0):=by rw[corQ _ _ 13 _ _ _ hzk];rfl
 have k_14:Z.cell? ⟨X1.heap.size,14,none⟩=some (.string ⟨#[]⟩):=by rw[corQ _ _ 14 _ _ _ hzk];rfl
 have k_15:Z.cell? ⟨X1.heap.size,15,none⟩=some (.slice none 0 0):=by rw[corQ _ _ 15 _ _ _ hzk];rfl
 clear hXZ hzk hz hzb
 go_wp2_with fail
 refine (HS.out _ HZ.out).mono ?_
 rintro e V ⟨rfl,hv⟩
 have HV:=hH (HZ.out.zK (zn hv (fun q=>q=b)))
 have HA:=hH (yV V r)
 clear hv c_0 c_1 c_2 c_3 c_4 c_5 c_6 c_7 c_8 c_9 c_10 c_11 c_12 c_13 c_14 c_15 k_0 k_1 k_2 k_3 k_4 k_5 k_6 k_7 k_8 k_9 k_10 k_11 k_12 k_13 k_14 k_15
 cases r
 · go_wp2_with fail
   refine HA.out.mono ?_
   intro e U hq;obtain⟨rfl,hb⟩:=hq.f
   exact⟨rfl,Jz.no (HV.out.zK (zn hb _))⟩
 · go_wp2_with fail
   refine HA.out.mono ?_
   intro e U hq;obtain⟨rfl,hb⟩:=hq.t
   have HU:=hH (HV.out.zK (zn hb (fun q=>q=b)))
   clear hq hb
   go_wp2_with fail
   go_end0
   exact Jz.yes HU.out
theorem zcS (args:Array Value)(w:World):(callFunc 53 args).run Tryz.prog w= .ok (.enter 53 args) w:=by rfl
theorem Q8 (w:World)(a0 a1 a2 a3 a4 a5 a6 a7 a8 a9 a10 ai ak:Int)(sa ar:Option Addr)(an ac am ad:Nat)(aw:ByteArray)(r:Bool)(h:∀B,Below w.heap.size w B→B.heap[w.heap.size]? =some (.cells #[.int .i8 a0,.int .i64 a1,.int .i64 a2,.int .i64 a3,.int .i64 a4,.int .i64 a5,.int .i64 a6,.int .i64 a7,.int .i64 a8,.int .i64 a9,.int .i64 a10,.slice sa an ac,.int .i64 ai,.int .i64 ak,.string aw,.slice ar am ad] 37 (0,0))→Calls Tryz.prog 53 #[.pointer (some ⟨w.heap.size,0,none⟩)] B (Jz w.heap.size r B)):
 Calls Tryz.prog 22 #[.agg #[.int .i8 a0,.int .i64 a1,.int .i64 a2,.int .i64 a3,.int .i64 a4,.int .i64 a5,.int .i64 a6,.int .i64 a7,.int .i64 a8,.int .i64 a9,.int .i64 a10,.slice sa an ac,.int .i64 ai,.int .i64 ak,.string aw,.slice ar am ad]] w (fun e W=>e= .returned (.bool r)∧Below w.heap.size w W):=by
 have hmf:∀(fn:Fn) (first cap:Array Value) (w:World),(Instr.makeFunc fn first cap).run Tryz.prog w= .ok (.func fn first cap) w:=fun _ _ _ _=>rfl
 obtain⟨B,hB⟩:∃B,B=w.alloc (.cells #[.int .i8 a0,.int .i64 a1,.int .i64 a2,.int .i64 a3,.int .i64 a4,.int .i64 a5,.int .i64 a6,.int .i64 a7,.int .i64 a8,.int .i64 a9,.int .i64 a10,.slice sa an ac,.int .i64 ai,.int .i64 ak,.string aw,.slice ar am ad] 37):=⟨_,rfl⟩
 have hb:Below w.heap.size w B:=by rw[hB];exact (BrQ _ _).alloc (NlrQ _) _
 have h1:=h B hb (by rw[hB];exact hanQ _ _)
 have HM:=hH (ziq B 53 ⟨w.heap.size,0,none⟩ r (fun V=>za B V (fun q=>q=w.heap.size)) zcS h1)
 have HB:=hH hb
 have HBE:=hH hB
 clear hB hb h1 h
 go_enter Tryz.func22,Tryz.ntmps22
 go_upto_region 1 with fail
 change Code.wp _ _ _ _ (w.alloc (.cells #[.int .i8 a0,.int .i64 a1,.int .i64 a2,.int .i64 a3,.int .i64 a4,.int .i64 a5,.int .i64 a6,.int .i64 a7,.int .i64 a8,.int .i64 a9,.int .i64 a10,.slice sa an ac,.int .i64 ai,.int .i64 ak,.string aw,.slice ar am ad] 37))
 rw[←HBE.out]
 go_wp2_with fail
 refine HM.out.mono ?_
 rintro e w' ⟨rfl,ht⟩
 have HW:=hH (show Below w.heap.size w w' from⟨ht.os.trans HB.out.os,ht.tape.trans HB.out.tape,ht.output.trans HB.out.output,NltQ HB.out.size ht.size,fun q hq=>(ht.block q (nL hq HB.out.size) om1).trans (HB.out.block q hq)⟩)
 clear ht
 go_wp2_with fail
 go_ret
 exact⟨rfl,HW.out⟩
end Go.Proofs.YtoidedomenkbpaaGreat
namespace Go.Proofs.YtoidedomenkbpaaGreat
open Go.RowKit
open Extern.Stop (cell)
def YH (R:Value→World→Prop)(e:Ending)(w' :World):Prop:=∃v,e= .returned v∧R v w'
theorem zcF (w:World)(r:Value)(R:Value→World→Prop)(h:Calls Tryz.prog 273 #[r,.func (.func 274) #[r] #[]] w (YH R)):Calls Tryz.prog 269 #[r] w (YH R):=by
 have hmf:∀(fn:Fn) (first cap:Array Value) (w:World),(Instr.makeFunc fn first cap).run Tryz.prog w= .ok (.func fn first cap) w:=fun _ _ _ _=>rfl
 have H:=hH h
 clear h
 go_enter Tryz.func269,Tryz.ntmps269
 go_wp2_with (go_at_call 273;refine H.out.mono ?_;clear H;rintro e w1 ⟨v,rfl,h1⟩;have H1:=hH h1;clear h1)
 go_ret
 exact⟨_,rfl,H1.out⟩
theorem JV (w:World)(r:Value)(R:Value→World→Prop)(h:Calls Tryz.prog 121 #[r,.func (.func 122) #[r] #[]] w (YH R)):Calls Tryz.prog 78 #[r] w (YH R):=by
 have hmf:∀(fn:Fn) (first cap:Array Value) (w:World),(Instr.makeFunc fn first cap).run Tryz.prog w= .ok (.func fn first cap) w:=fun _ _ _ _=>rfl
 have H:=hH h
 clear h
 go_enter Tryz.func78,Tryz.ntmps78
 go_wp2_with (go_at_call 121;refine H.out.mono ?_;clear H;rintro e w1 ⟨v,rfl,h1⟩;have H1:=hH h1;clear h1)
 go_ret
 exact⟨_,rfl,H1.out⟩
theorem zd5 (w:World)(r:Value)(R:Value→World→Prop)(h:Calls Tryz.prog 278 #[r,.func (.func 279) #[r] #[]] w (YH R)):Calls Tryz.prog 275 #[r] w (YH R):=by
 have hmf:∀(fn:Fn) (first cap:Array Value) (w:World),(Instr.makeFunc fn first cap).run Tryz.prog w= .ok (.func fn first cap) w:=fun _ _ _ _=>rfl
 have H:=hH h
 clear h
 go_enter Tryz.func275,Tryz.ntmps275
 go_wp2_with (go_at_call 278;refine H.out.mono ?_;clear H;rintro e w1 ⟨v,rfl,h1⟩;have H1:=hH h1;clear h1)
 go_ret
 exact⟨_,rfl,H1.out⟩
def Rd.number (s:Rd):Int×Rd:=
 if s.bad then (0,s) else if s.pos+8≤s.data.length then (s.num,{ s with pos:=s.pos+8 }) else (0,{ s with pos:=s.data.length,bad:=true })
theorem zdZ {f:FuncId}{args:Array Value}{w:World}{z:Value}{b:Nat}{dv:Value}{s:Rd}(h:Calls Tryz.prog f args w (ZE z w b dv s)):Calls Tryz.prog f args w (YH fun v w'=>v=z∧zT w' b dv s∧za w w' (fun k=>k=b)):=h.mono fun _ _ ⟨h1,h2⟩=>⟨z,h1,rfl,h2⟩
theorem zd2 (w:World)(b:Nat)(dv:Value)(s:Rd)(h:zT w b dv s):Calls Tryz.prog 269 #[.pointer (some ⟨b,0,none⟩)] w (YH fun v w'=>v= .int .i64 s.number.1∧zT w' b dv s.number.2∧za w w' (fun k=>k=b)):=by
 apply zcF
 cases hb:s.bad with
 | true=>
   have e:s.number=(0,s):=by simp[Rd.number,hb]
   rw[e]
   exact zdZ (zcr w b dv s h hb _)
 | false=>
   by_cases hp:s.pos+8≤s.data.length
   · have e:s.number=(s.num,{ s with pos:=s.pos+8 }):=by simp[Rd.number,hb,hp]
     rw[e]
     exact zdO w b dv s { s with pos:=s.pos+8 } h hb hb (fun v _=>v= .int .i64 s.num) ((zbr _ b dv s (h.alloc _) hp).mono fun _ _ ⟨h1,h2,h3⟩=>⟨_,h1,rfl,h2,h3⟩)
   · have e:s.number=(0,{ s with pos:=s.data.length,bad:=true }):=by simp[Rd.number,hb,hp]
     rw[e]
     exact zdZ (zaZ w b dv s h hb s.data.length (zaq _ b dv s (h.alloc _) om1))
def Rd.yR (s:Rd):Value:=if s.bad∨s.pos<s.data.length then .tuple #[.int .i64 s.pos,.int .i64 30] else .tuple #[.int .i64 0,.int .i64 0]
theorem zeS (w:World)(b:Nat)(dv:Value)(s:Rd)(h:zT w b dv s):Calls Tryz.prog 79 #[.pointer (some ⟨b,0,none⟩)] w (YH fun v w'=>v=s.yR∧zT w' b dv s∧za w w' (fun _=>False)):=by
 obtain⟨c0,c1,c2,f⟩:=h.cells
 obtain⟨a,cap,hdv⟩:∃a cap,dv= .slice a s.data.length cap:=zca h.owns
 have hfit:=h.fits
 have hfew:=h.few
 have H:=hH h
 subst hdv
 clear h
 cases hb:s.bad with
 | true=>
   have e:s.yR= .tuple #[.int .i64 s.pos,.int .i64 30]:=by simp[Rd.yR,hb]
   rw[e]
   rw[hb] at c2
   exact sd2
 | false=>
   rw[hb] at c2
   by_cases hp:s.pos<s.data.length
   · have e:s.yR= .tuple #[.int .i64 s.pos,.int .i64 30]:=by simp[Rd.yR,hp]
     rw[e]
     have hd:decide ((s.pos:Int)<(s.data.length:Int))=true:=by simp;omega
     exact sd2
   · have e:s.yR= .tuple #[.int .i64 0,.int .i64 0]:=by simp[Rd.yR,hp,hb]
     rw[e]
     have hd:decide ((s.pos:Int)<(s.data.length:Int))=false:=by simp;omega
     exact sd2
abbrev Got (α:Type):=Except Nat (α×Nat)
def vX (u:UInt8):Int:=IntKind.i8.wrap (u.toNat:Int)
def vZ (d:List UInt8)(p:Nat):Got Int:=match d[p]? with
 | some u=> .ok (vX u,p+1)
 | none=> .error d.length
def JC {α:Type}(V:α→Value→World→Prop)(w:World)(b:Nat)(dv:Value)(s:Rd):Got α→Ending→World→Prop
 | .ok (x,q),e,w'=>∃v,e= .returned v∧V x v w'∧zT w' b dv { s with pos:=q }∧za w w' (fun k=>k=b)
 | .error p,e,w'=>Ye w b dv s p e w'
abbrev zlr:Int→Value→World→Prop:=fun n v _=>v= .int .i64 n
abbrev zls:Nat→Value→World→Prop:=fun n v _=>v= .int .i64 (n:Int)
abbrev zkO:ByteArray→Value→World→Prop:=fun t v _=>v= .string t
theorem ZN (w:World)(b:Nat)(dv:Value)(s:Rd)(h:zT w b dv s):Calls Tryz.prog 122 #[.pointer (some ⟨b,0,none⟩)] w (JC (fun n v _=>v= .int .i8 n) w b dv s (vZ s.data s.pos)):=by
 unfold vZ
 cases hp:s.data[s.pos]? with
 | none=>
   have hl:s.data.length<s.pos+1:=by have:=List.getElem?_eq_none_iff.1 hp;omega
   have HT:=hH (zdM w b dv s h 1 hl)
   clear h hp hl
   go_enter Tryz.func122,Tryz.ntmps122
   exact sg5
 | some u=>
   have hl:=(List.getElem?_eq_some_iff.1 hp).1
   have HT:=hH (zcq w b dv s h 1 om1 (by intro e;rw[e] at hl;simp at hl))
   have HU:Hid (((s.data.drop s.pos).take 1)[0]? =some u):=hH (by rw[List.getElem?_take_of_lt om1,List.getElem?_drop];exact hp)
   clear h hp hl
   go_enter Tryz.func122,Tryz.ntmps122
   go_wp2_with (go_at_call 157;refine HT.out.mono ?_;clear HT;rintro e w1 ⟨g,o,cap,rfl,_,hc,h1,h2⟩;have q0:w1.cell? ⟨g,o,none⟩=some (.int .u8 u.toNat):=hc 0 u HU.out;have H1:=hH (aN h1 h2);clear hc h1 h2)
   go_ret
   exact⟨_,rfl,rfl,H1.out.1,H1.out.2⟩
end Go.Proofs.YtoidedomenkbpaaGreat
namespace Go.Proofs.YtoidedomenkbpaaGreat
open Go.RowKit Go.Shelf
open Extern.Stop (cell)
theorem zfI {B:Nat}{v:Value}{bs:List UInt8}{W0 w:World}(h:kK B v bs W0 w):∃a cap,v= .slice a bs.length cap∧Yd w a bs∧∀ad,a=some ad→B≤ad.block∧ad.block<w.heap.size:=by
 exact sc8
theorem Zd {w w' :World}{a:Option Addr}{bs:List UInt8}(h:Yd w a bs)(hk:∀ad,a=some ad→w'.heap[ad.block]? =w.heap[ad.block]?):Yd w' a bs:=
 ⟨h.1,fun ad e j u hj=>by
  have h1:=h.2 ad e j u hj
  exact (World.cell?_of_block (a:=ad.add j) (by have:(ad.add j).block=ad.block:=(by unfold Addr.add;split<;>rfl);rw[this];exact hk ad e)).trans h1⟩
def ZV (b wb:Nat)(bs:List UInt8)(X:World):Prop:=∃a cap,X.heap[wb]? =some (.cells #[.slice a bs.length cap] 103 (0,0))∧Yd X a bs∧(∀ad,a=some ad→ad.block≠b∧ad.block≠wb∧ad.block<X.heap.size)∧bs.length≤1000000000000∧wb≠b∧b<X.heap.size
def ze (s:List UInt8)(n lo hi:Int):Option (Int×List UInt8):=some (n,s++zq n)
theorem ZV.keep {b wb:Nat}{bs:List UInt8}{X X' :World}(h:ZV b wb bs X)(hk:∀q,q<X.heap.size→q≠b→X'.heap[q]? =X.heap[q]?)(hs:X.heap.size≤X'.heap.size):ZV b wb bs X':=by
 obtain⟨a,cap,h1,h2,h3,h4,h5,h6⟩:=h
 exact⟨a,cap,(hk wb (lohQ h1) h5).trans h1,Zd h2 (fun ad e=>hk _ (h3 ad e).2.2 (h3 ad e).1),fun ad e=>⟨(h3 ad e).1,(h3 ad e).2.1,nL (h3 ad e).2.2 hs⟩,h4,h5,nL h6 hs⟩
theorem YR (b wb:Nat)(bs:List UInt8)(X:World)(n lo hi:Int)(h:ZV b wb bs X):
 Calls Tryz.prog 259 #[.pointer (some ⟨wb,0,none⟩),.int .i64 n,.int .i64 lo,.int .i64 hi] X (fun e X'=>e= .returned (.int .i64 n)∧((bs++zq n).length≤1000000000000→ZV b wb (bs++zq n) X')∧za X X' (fun q=>q=wb)):=by
 obtain⟨a,cap,h1,h2,h3,h4,h5,h6⟩:=h
 have k0:X.cell? ⟨wb,0,none⟩=some (.slice a bs.length cap):=by rw[corQ _ _ 0 _ _ _ h1];rfl
 have HP:=hH (zaT X a cap bs h2 h4 n)
 obtain⟨L,hL⟩:∃L,L=(bs++zq n).length:=⟨_,rfl⟩
 have HE:=hH (fun (v:Value) (w1:World) (h:kK X.heap.size v (bs++zq n) X w1)=>(show ∃a' cap',v= .slice a' L cap'∧w1.frozen? ⟨wb,0,none⟩=false∧w1.cell? ⟨wb,0,none⟩=some (.slice a bs.length cap)∧((bs++zq n).length≤1000000000000→ZV b wb (bs++zq n) (w1.setCell ⟨wb,0,none⟩ (.slice a' L cap')))∧za X (w1.setCell ⟨wb,0,none⟩ (.slice a' L cap')) (fun q=>q=wb) by
  have hb:Below X.heap.size X w1:=h.1.2.1
  have e1:=(hb.block wb (lohQ h1)).trans h1
  obtain⟨a',cap',hv,hat,had⟩:=zfI h
  have ht:za w1 (w1.setCell ⟨wb,0,none⟩ (.slice a' L cap')) (fun q=>q=wb):=zu
  refine⟨a',cap',by rw[hL];exact hv,forQ _ _ 0 _ _ e1,by rw[corQ _ _ 0 _ _ _ e1];rfl,fun hl=>?_,(zn hb _).zK ht⟩
  refine⟨a',cap',?_,Zd hat (fun ad e=>ht.block _ (had ad e).2 (by have:=(had ad e).1;have:=lohQ h1;omega)),fun ad e=>⟨by have:=(had ad e).1;omega,by have:=(had ad e).1;have:=lohQ h1;omega,nL (had ad e).2 ht.size⟩,hl,h5,nL h6 (NltQ hb.size ht.size)⟩
  rw[hssQ _ _ 0 _ _ _ e1,←hL];rfl))
 clear hL
 clear h1 h2 h3 h4 h5 h6
 go_enter Tryz.func259,Tryz.ntmps259
 go_wp2_with (go_at_call 262;refine HP.out.mono ?_;clear HP;rintro e w1 ⟨v1,rfl,h1⟩;obtain⟨a',cap',rfl,f1,c1,c2⟩:=HE.out _ _ h1;have HF:=hH c2;clear h1 c2)
 go_ret
 exact⟨rfl,HF.out.1,HF.out.2⟩
theorem Yx (b wb:Nat)(hne:wb≠b):qm (σ:=List UInt8) (fun s=>s.length≤1000000000000) (fun s X=>ZV b wb s X) (fun q=>q=wb) ze b 101 (.pointer (some ⟨wb,0,none⟩)) (.pointer (some ⟨wb,0,none⟩)) 259 where
 jS:=fun w=>by rfl
 enter:=fun _ _=>by rfl
 does:=fun s X n lo hi h=>YR b wb s X n lo hi h
 keep:=fun s X X' h hk hs=>h.keep hk hs
 apart:=fun h=>hne h.symm
 inn:=fun s X q h e=>by obtain⟨a,cap,h1,_⟩:=h;rw[e];exact lohQ h1
def yC (b rb:Nat)(s:Rd)(X:World):Prop:=∃dv,zT X rb dv s∧rb≠b∧dv.ownBlock≠some b
def zz (s:Rd)(n lo hi:Int):Option (Int×Rd):=some (s.number.1,s.number.2)
theorem zaU (b rb:Nat)(s:Rd)(X:World)(n lo hi:Int)(h:yC b rb s X):
 Calls Tryz.prog 270 #[.agg #[.pointer (some ⟨rb,0,none⟩)],.int .i64 n,.int .i64 lo,.int .i64 hi] X (fun e X'=>e= .returned (.int .i64 s.number.1)∧yC b rb s.number.2 X'∧za X X' (fun q=>q=rb)):=by
 obtain⟨dv,h1,h2,h3⟩:=h
 obtain⟨B,hB⟩:∃B,B=X.alloc (.cells #[.pointer (some ⟨rb,0,none⟩)] 114):=⟨_,rfl⟩
 have hb:Below X.heap.size X B:=by rw[hB];exact (BrQ _ _).alloc (NlrQ _) _
 have eB:B.heap[X.heap.size]? =some (.cells #[.pointer (some ⟨rb,0,none⟩)] 114 (0,0)):=by rw[hB];exact hanQ _ _
 have k0:B.cell? ⟨X.heap.size,0,none⟩=some (.pointer (some ⟨rb,0,none⟩)):=by rw[corQ _ _ 0 _ _ _ eB];rfl
 have HN:=hH (zd2 B rb dv s (by rw[hB];exact h1.alloc _))
 have HX:=hH (aN hb (aN hB (aN h2 h3)))
 clear hb eB h1 h2 h3 hB
 go_enter Tryz.func270,Tryz.ntmps270
 go_upto_region 1 with fail
 change Code.wp _ _ _ _ (X.alloc (.cells #[.pointer (some ⟨rb,0,none⟩)] 114))
 rw[←HX.out.2.1]
 go_wp2_with (go_at_call 269;refine HN.out.mono ?_;clear HN;rintro e w1 ⟨v1,rfl,rfl,h1,h2⟩;have HF:=hH (aN h1 h2);clear h1 h2)
 go_ret
 exact⟨rfl,⟨dv,HF.out.1,HX.out.2.2.1,HX.out.2.2.2⟩,(zn HX.out.1 _).zK HF.out.2⟩
theorem zt (b rb:Nat)(hne:rb≠b):qm (σ:=Rd) (fun _=>True) (fun s X=>yC b rb s X) (fun q=>q=rb) zz b 114 (.agg #[.pointer (some ⟨rb,0,none⟩)]) (.agg #[.pointer (some ⟨rb,0,none⟩)]) 270 where
 jS:=fun w=>by rfl
 enter:=fun _ _=>by rfl
 does:=fun s X n lo hi h=>(zaU b rb s X n lo hi h).mono fun e X' ⟨h1,h2,h3⟩=>⟨h1,fun _=>h2,h3⟩
 keep:=fun s X X' h hk hs=>by
  obtain⟨dv,h1,h2,h3⟩:=h
  refine⟨dv,⟨(hk _ (lohQ h1.here) h2).trans h1.here,vE h1.owns (fun g hg=>hk g (qO h1.owns g hg) (fun e=>h3 (by rw[hg,e]))),h1.apart,h1.fits,h1.few⟩,h2,h3⟩
 apart:=fun h=>hne h.symm
 inn:=fun s X q h e=>by obtain⟨dv,h1,_⟩:=h;rw[e];exact lohQ h1.here
end Go.Proofs.YtoidedomenkbpaaGreat
namespace Go.Proofs.YtoidedomenkbpaaGreat
open Go.RowKit
open Extern.Stop (cell)
def za5 {α:Type}(z:Value)(V:α→Value→World→Prop)(w:World)(b:Nat)(dv:Value)(s:Rd)(o:Got α)(v:Value)(w' :World):Prop:=
 if s.bad then v=z∧zT w' b dv s∧za w w' (fun k=>k=b) else
 match o with
 | .ok (x,q)=>V x v w'∧zT w' b dv { s with pos:=q }∧za w w' (fun k=>k=b)
 | .error p=>v=z∧zT w' b dv { s with pos:=p,bad:=true }∧za w w' (fun k=>k=b)
theorem zir {α:Type}{f:FuncId}{args:Array Value}{z:Value}{V:α→Value→World→Prop}{w:World}{b:Nat}{dv:Value}{s:Rd}{o:Got α}
 (hbad:s.bad=true→Calls Tryz.prog f args w (ZE z w b dv s))
 (hok:∀x q,o= .ok (x,q)→s.bad=false→Calls Tryz.prog f args w (YL (fun v w'=>V x v w') w b dv { s with pos:=q }))
 (herr:∀p,o= .error p→s.bad=false→Calls Tryz.prog f args w (ZE z w b dv { s with pos:=p,bad:=true })):
 Calls Tryz.prog f args w (YH (za5 z V w b dv s o)):=by
 cases hb:s.bad with
 | true=>exact (hbad hb).mono fun e w' ⟨h1,h2,h3⟩=>⟨z,h1,by unfold za5;rw[ipQ hb];exact⟨rfl,h2,h3⟩⟩
 | false=>
   have hne:¬s.bad=true:=by rw[hb];decide
   cases o with
   | error p=>exact (herr p rfl hb).mono fun e w' ⟨h1,h2,h3⟩=>⟨z,h1,by unfold za5;rw[inQ hne];exact⟨rfl,h2,h3⟩⟩
   | ok x=>exact (hok x.1 x.2 rfl hb).mono fun e w' ⟨v,h1,h2,h3,h4⟩=>⟨v,h1,by unfold za5;rw[inQ hne];exact⟨h2,h3,h4⟩⟩
theorem zfC (w:World)(b:Nat)(dv:Value)(s:Rd)(h:zT w b dv s):Calls Tryz.prog 78 #[.pointer (some ⟨b,0,none⟩)] w (YH (za5 (.int .i8 0) (fun n v _=>v= .int .i8 n) w b dv s (vZ s.data s.pos))):=
 JV w _ _ (zir (fun hb=>Yt w b dv s h hb _)
  (fun x q ho hb=>YO w b dv s { s with pos:=q } h hb hb (fun v _=>v= .int .i8 x) ub9)
  (fun p ho hb=>Z9 w b dv s h hb p ub9))
end Go.Proofs.YtoidedomenkbpaaGreat
