/-
  .
-/
import Derived.Test.YtoidedomenkbpaaGreatWFieldVQr
import Derived.Test.YtoidedomenkbpaaGreatWSameRQr
import Derived.Test.YtoidedomenkbpaaGreatWSameMQr
import Derived.Test.YtoidedomenkbpaaGreatCSmallQr
set_option maxRecDepth 100000
set_option maxHeartbeats 40000000
set_option linter.unusedVariables false
set_option linter.unusedSimpArgs false
namespace Go.Proofs.YtoidedomenkbpaaGreat
open Go.RowKit Go.Shelf
def zg (s:Unit)(n lo hi:Int):Option (Int×Unit):=if zl lo hi n then some (0,()) else none
theorem J8 (X:World)(n lo hi:Int):Calls Tryz.prog 255 #[.agg #[],.int .i64 n,.int .i64 lo,.int .i64 hi] X (fun e X'=>e=(if zl lo hi n then .returned (.int .i64 0) else .panicked jQ)∧Below X.heap.size X X'):=by
 have HA:=hH (yA (X.alloc (.cells #[] 87)) n lo hi)
 have HX:=hH (fun X' (h:Below (X.alloc (.cells #[] 87)).heap.size (X.alloc (.cells #[] 87)) X')=>(((BrQ X.heap.size X).alloc (NlrQ _) (.cells #[] 87)).trans (h.mono ud7):Below X.heap.size X X'))
 cases hb:zl lo hi n
 · rw[hb] at HA
   clear hb
   go_enter Tryz.func255,Tryz.ntmps255
   go_wp2_with fail
   refine HA.out.mono ?_
   intro e w' hq;obtain⟨rfl,hb'⟩:=hq.f
   exact⟨rfl,rfl,HX.out _ hb'⟩
 · rw[hb] at HA
   clear hb
   go_enter Tryz.func255,Tryz.ntmps255
   go_wp2_with fail
   refine HA.out.mono ?_
   intro e w' hq;obtain⟨rfl,hb'⟩:=hq.t
   have HB':=hH hb'
   clear hb'
   go_wp2_with fail
   go_ret
   exact⟨rfl,HX.out _ HB'.out⟩
theorem zw (b:Nat):yQ (σ:=Unit) (fun _=>True) (fun _ _=>True) (fun _=>False) zg b 87 (.agg #[]) (.agg #[]) 255 where
 jH:=fun w=>by rfl
 enter:=fun _ _=>by rfl
 does :=fun s X n lo hi _=>(J8 X n lo hi).mono fun e X' ⟨h1,h2⟩=>by
  unfold zg
  cases hb:zl lo hi n
  · rw[hb] at h1
    exact⟨h1,zA h2 _⟩
  · rw[hb] at h1
    exact⟨h1,fun _=>trivial,zA h2 _⟩
 keep:=fun _ _ _ _ _ _=>trivial
 apart:=fun h=>h
 inn:=fun _ _ _ _ h=>h.elim
def jf (b:Bool)(v:Value)(X:World)(e:Ending)(X' :World):Prop:=e=(if b then .returned v else .panicked jQ)∧Below X.heap.size X X'
theorem jf.yes {b:Bool}{v:Value}{X X' :World}(h:b=true)(hb:Below X.heap.size X X'):jf b v X (.returned v) X':=⟨by rw[h];rfl,hb⟩
theorem jf.no {b:Bool}{v:Value}{X X' :World}(h:b=false)(hb:Below X.heap.size X X'):jf b v X (.panicked jQ) X':=⟨by rw[h];rfl,hb⟩
theorem zct (X:World)(S:Nat→Prop)(t:Tr)(ka:Option Addr)(kn kc:Nat)(hkn:kn=foLen t.kids)(hS:∀y,S y→y<X.heap.size)(hk:zK X S t.kids ka):
 Calls Tryz.prog 257 #[.agg #[],.agg #[.int .i64 t.id,.int .i64 t.kind,.string t.text,.slice ka kn kc]] X (jf (zU t) (.agg #[.int .i64 0,.int .i64 0,.string ⟨#[]⟩,.slice none 0 0]) X):=by
 obtain⟨B,hB⟩:∃B,B=zy X [.cells #[] 87,.cells #[.int .i64 t.id,.int .i64 t.kind,.string t.text,.slice ka kn kc] 35,.cells #[.int .i64 0,.int .i64 0,.string ⟨#[]⟩,.slice none 0 0] 35]:=⟨_,rfl⟩
 have hb:Below X.heap.size X B:=by rw[hB];exact zu _ _
 have e1:B.heap[X.heap.size+1]? =some (.cells #[.int .i64 t.id,.int .i64 t.kind,.string t.text,.slice ka kn kc] 35 (0,0)):=by rw[hB];exact zi _ _ 1 _ rfl
 have e2:B.heap[X.heap.size+1+1]? =some (.cells #[.int .i64 0,.int .i64 0,.string ⟨#[]⟩,.slice none 0 0] 35 (0,0)):=by rw[hB];exact zi _ _ 2 _ rfl
 have HC:=hH (YI B S t ka kn kc hkn (fun y hy=>nL (hS y hy) hb.size) (hk.below hb hS))
 obtain⟨n0,n1,n2,n3⟩:=zaG e1
 have HB:=hH (aN hb (aN hB e2))
 obtain⟨q,hq⟩:∃q,q=zU t:=⟨_,rfl⟩
 rw[←hq] at HC ⊢
 clear hq hkn hS hk hb hB e1 e2
 cases q
 · go_enter Tryz.func257,Tryz.ntmps257
   go_upto_region 1 with fail
   change Code.wp _ _ _ _ (zy X [.cells #[] 87,.cells #[.int .i64 t.id,.int .i64 t.kind,.string t.text,.slice ka kn kc] 35,.cells #[.int .i64 0,.int .i64 0,.string ⟨#[]⟩,.slice none 0 0] 35])
   rw[←HB.out.2.1]
   exact sh5
 · go_enter Tryz.func257,Tryz.ntmps257
   go_upto_region 1 with fail
   change Code.wp _ _ _ _ (zy X [.cells #[] 87,.cells #[.int .i64 t.id,.int .i64 t.kind,.string t.text,.slice ka kn kc] 35,.cells #[.int .i64 0,.int .i64 0,.string ⟨#[]⟩,.slice none 0 0] 35])
   rw[←HB.out.2.1]
   go_wp2_with fail
   refine HC.out.mono ?_
   intro e Z hq;obtain⟨rfl,hz⟩:=hq.t
   have hZ:=HB.out.1.trans (hz.mono HB.out.1.size)
   have eZ:=(hz.block _ (lohQ HB.out.2.2)).trans HB.out.2.2
   obtain⟨V,hV,v1,v2,v3,v4,v5,v6⟩:=QD (u0:= .int .i64 0) (u1:= .int .i64 0) (u2:= .string ⟨#[]⟩) (u3:= .slice none 0 0) eZ
   obtain⟨z0,z1,z2,z3⟩:=zaG eZ
   have zf:∀j,Z.frozen? ⟨X.heap.size+1+1,j,none⟩=false:=fun j=>forQ _ _ j _ _ eZ
   have HV:=hH (aN hV (aN v1 (show Below X.heap.size X V from⟨v3.trans hZ.os,v4.trans hZ.tape,v5.trans hZ.output,by rw[v6];exact hZ.size,fun y hy=>(v2 y om).trans (hZ.block y hy)⟩)))
   clear hq hz hZ eZ hV v1 v2 v3 v4 v5 v6 n0 n1 n2 n3
   go_wp2_with fail
   rw[←HV.out.1]
   refine brQ (yh rfl _ _ (X.heap.size+1+1) 35 _ (0,0) _ rfl HV.out.2.1 Tryz.underlying35 rfl kr1) rfl ?_
   exact jf.yes rfl HV.out.2.2
theorem zbf (X:World)(la:Option Addr)(n c:Nat)(vs:List SV)(hn:n=vs.length)(h:Row X la vs):
 Calls Tryz.prog 256 #[.agg #[],.slice la n c] X (jf (zM (steps vs)) (.slice none 0 0) X):=by
 obtain⟨B,hB⟩:∃B,B=X.alloc (.cells #[] 87):=⟨_,rfl⟩
 have hb:Below X.heap.size X B:=by rw[hB];exact (BrQ _ _).alloc (NlrQ _) _
 have HC:=hH (J2 B la n c vs hn (h.on hb))
 have HB:=hH (aN hb hB)
 obtain⟨q,hq⟩:∃q,q=zM (steps vs):=⟨_,rfl⟩
 rw[←hq] at HC ⊢
 clear hq hb hB hn h
 cases q
 · go_enter Tryz.func256,Tryz.ntmps256
   go_upto_region 1 with fail
   change Code.wp _ _ _ _ (X.alloc (.cells #[] 87))
   rw[←HB.out.2]
   exact sh5
 · go_enter Tryz.func256,Tryz.ntmps256
   go_upto_region 1 with fail
   change Code.wp _ _ _ _ (X.alloc (.cells #[] 87))
   rw[←HB.out.2]
   go_wp2_with fail
   refine HC.out.mono ?_
   intro e Z hq;obtain⟨rfl,hz⟩:=hq.t
   have HZ:=hH (HB.out.1.trans (hz.mono HB.out.1.size))
   clear hq hz
   go_wp2_with fail
   go_ret
   exact jf.yes rfl HZ.out
theorem vM {w0 X0 X:World}{b:Nat}{O:Nat→Prop}(h0:Below w0.heap.size w0 X0)(hb:w0.heap.size≤b)(hO:∀q,O q→w0.heap.size≤q)(hT:zb X0 X (fun q=>O q∨q=b)):Below w0.heap.size w0 X:=
 ⟨hT.os.trans h0.os,hT.tape.trans h0.tape,hT.output.trans h0.output,NltQ h0.size hT.size,fun y hy=>(hT.block y (nL hy h0.size) (fun h=>by rcases h with h | h;have:=hO y h;omega;omega)).trans (h0.block y hy)⟩
theorem zbe (w0 X0:World)(b:Nat)(S:Nat→Prop)(t:Tr)(ka:Option Addr)(kn kc:Nat)(h0:Below w0.heap.size w0 X0)(hb:w0.heap.size≤b)(hkn:kn=foLen t.kids)(hS:∀y,S y→y<w0.heap.size)(hk:zK w0 S t.kids ka):
 Jk (σ:=Unit) (fun _=>True) (fun _ _=>True) (fun _=>False) (fun _=>if zU t then some ((0,0,⟨#[]⟩,none,0,0),()) else none) Qk b 87 (.agg #[]) (.agg #[]) 257 "allotment/wire.tree" X0 (.agg #[.int .i64 t.id,.int .i64 t.kind,.string t.text,.slice ka kn kc]) where
 jH:=fun w=>by rfl
 enter:=fun _ _=>by rfl
 does :=fun s X _ hT=>by
  have hX:=vM h0 hb (fun _ h=>h.elim) hT
  refine (zct X S t ka kn kc hkn (fun y hy=>nL (hS y hy) hX.size) (hk.below hX hS)).mono fun e X' h=>?_
  unfold jf at h
  cases hq:zU t
  · rw[hq] at h
    exact⟨h.1,zA h.2 _⟩
  · rw[hq] at h
    exact⟨h.1,fun _=>trivial,zA h.2 _⟩
 keep:=fun _ _ _ _ _ _=>trivial
 apart:=fun h=>h
 inn:=fun _ _ _ _ h=>h.elim
theorem zbd (w0 X0:World)(b:Nat)(la:Option Addr)(n c:Nat)(vs:List SV)(h0:Below w0.heap.size w0 X0)(hb:w0.heap.size≤b)(hn:n=vs.length)(h:Row w0 la vs):
 Jk (σ:=Unit) (fun _=>True) (fun _ _=>True) (fun _=>False) (fun _=>if zM (steps vs) then some ((none,0,0),()) else none) zam b 87 (.agg #[]) (.agg #[]) 256 "allotment/wire.steps" X0 (.slice la n c) where
 jH:=fun w=>by rfl
 enter:=fun _ _=>by rfl
 does :=fun s X _ hT=>by
  have hX:=vM h0 hb (fun _ h=>h.elim) hT
  refine (zbf X la n c vs hn (h.on hX)).mono fun e X' hh=>?_
  unfold jf at hh
  cases hq:zM (steps vs)
  · rw[hq] at hh
    exact⟨hh.1,zA hh.2 _⟩
  · rw[hq] at hh
    exact⟨hh.1,fun _=>trivial,zA hh.2 _⟩
 keep:=fun _ _ _ _ _ _=>trivial
 apart:=fun h=>h
 inn:=fun _ _ _ _ h=>h.elim
def YZ (b:Nat)(r:Bool)(X:World)(e:Ending)(W:World):Prop:=e=(if r then .returned (.tuple #[]) else .panicked jQ)∧zb X W (fun q=>q=b)
theorem YZ.yes {b:Nat}{X W:World}(h:zb X W (fun q=>q=b)):YZ b true X (.returned (.tuple #[])) W:=⟨rfl,h⟩
theorem YZ.no {b:Nat}{X W:World}(h:zb X W (fun q=>q=b)):YZ b false X (.panicked jQ) W:=⟨rfl,h⟩
theorem zbC (X:World)(b:Nat)(a0 a1 a2 a3 a4 a5 a6 a7 a8 a9 a10 ai ak:Int)(sa ar:Option Addr)(an ac am ad:Nat)(aw:ByteArray)(hx:X.heap[b]? =some (.cells #[.int .i8 a0,.int .i64 a1,.int .i64 a2,.int .i64 a3,.int .i64 a4,.int .i64 a5,.int .i64 a6,.int .i64 a7,.int .i64 a8,.int .i64 a9,.int .i64 a10,.slice sa an ac,.int .i64 ai,.int .i64 ak,.string aw,.slice ar am ad] 37 (0,0)))(hk:zl 1 10 a0=false):
 Calls Tryz.prog 53 #[.pointer (some ⟨b,0,none⟩)] X (YZ b false X):=by
 have k0:X.cell? ⟨b,0,none⟩=some (.int .i8 a0):=by rw[corQ _ _ 0 _ _ _ hx];rfl
 have HI:=hH (kw X a0)
 have HA:=hH (yG X false)
 rw[hk] at HI
 clear hx hk
 go_enter Tryz.func53,Tryz.ntmps53
 go_wp2_with fail
 refine HI.out.mono ?_
 rintro e w1 ⟨rfl,rfl⟩
 go_wp2_with fail
 refine HA.out.mono ?_
 intro e w1 hq;obtain⟨rfl,hb⟩:=hq.f
 exact⟨rfl,YZ.no (zA hb _)⟩
theorem zbD (X:World)(b:Nat)(a0 a1 a2 a3 a4 a5 a6 a7 a8 a9 a10 ai ak:Int)(sa ar:Option Addr)(an ac am ad:Nat)(aw:ByteArray)(hx:X.heap[b]? =some (.cells #[.int .i8 a0,.int .i64 a1,.int .i64 a2,.int .i64 a3,.int .i64 a4,.int .i64 a5,.int .i64 a6,.int .i64 a7,.int .i64 a8,.int .i64 a9,.int .i64 a10,.slice sa an ac,.int .i64 ai,.int .i64 ak,.string aw,.slice ar am ad] 37 (0,0)))(hk:zl 1 10 a0=true)(ho:∀Y,Below X.heap.size X Y→Calls Tryz.prog 56 #[.pointer (some ⟨b,0,none⟩),.iface 87 (.agg #[])] Y (fun e Z=>e= .panicked jQ∧zb Y Z (fun q=>q=b))):
 Calls Tryz.prog 53 #[.pointer (some ⟨b,0,none⟩)] X (YZ b false X):=by
 have k0:X.cell? ⟨b,0,none⟩=some (.int .i8 a0):=by rw[corQ _ _ 0 _ _ _ hx];rfl
 have HI:=hH (kw X a0)
 have HA:=hH (yG X true)
 rw[hk] at HI
 have HX:=hH hx
 have HO:=hH ho
 clear ho hx hk
 go_enter Tryz.func53,Tryz.ntmps53
 go_wp2_with fail
 refine HI.out.mono ?_
 rintro e w1 ⟨rfl,h2⟩
 rw[h2]
 clear h2 w1
 go_wp2_with fail
 refine HA.out.mono ?_
 intro e X1 hq;obtain⟨rfl,hb⟩:=hq.t
 have HB:=hH hb
 clear HI HA hq k0
 have k0:X1.cell? ⟨b,0,none⟩=some (.int .i8 a0):=by rw[corQ _ _ 0 _ _ _ ((hb.block _ (lohQ HX.out)).trans HX.out)];rfl
 clear hb
 go_upto_region 2 with fail
 change Code.wp _ _ _ _ (X1.alloc (.cells #[.int .i8 a0,.int .i64 0,.int .i64 0,.int .i64 0,.int .i64 0,.int .i64 0,.int .i64 0,.int .i64 0,.int .i64 0,.int .i64 0,.int .i64 0,.slice none 0 0,.int .i64 0,.int .i64 0,.string ⟨#[]⟩,.slice none 0 0] 37))
 obtain⟨Y,hY⟩:∃Y,Y=X1.alloc (.cells #[.int .i8 a0,.int .i64 0,.int .i64 0,.int .i64 0,.int .i64 0,.int .i64 0,.int .i64 0,.int .i64 0,.int .i64 0,.int .i64 0,.int .i64 0,.slice none 0 0,.int .i64 0,.int .i64 0,.string ⟨#[]⟩,.slice none 0 0] 37):=⟨_,rfl⟩
 rw[←hY]
 have hyb:Below X.heap.size X Y:=by rw[hY];exact HB.out.alloc HB.out.size _
 have hyk:Y.heap[X1.heap.size]? =some (.cells #[.int .i8 a0,.int .i64 0,.int .i64 0,.int .i64 0,.int .i64 0,.int .i64 0,.int .i64 0,.int .i64 0,.int .i64 0,.int .i64 0,.int .i64 0,.slice none 0 0,.int .i64 0,.int .i64 0,.string ⟨#[]⟩,.slice none 0 0] 37 (0,0)):=by rw[hY];exact hanQ _ _
 have HY:=hH (aN hyb hyk)
 clear hY hyb hyk k0
 go_wp2_with fail
 refine (HO.out _ HY.out.1).mono ?_
 rintro e Z ⟨rfl,hz⟩
 exact⟨rfl,YZ.no ((zA HY.out.1 _).yg hz)⟩
theorem YT (X:World)(b:Nat)(a0 a1 a2 a3 a4 a5 a6 a7 a8 a9 a10 ai ak:Int)(sa ar:Option Addr)(an ac am ad:Nat)(aw:ByteArray)(c0 c1 c2 c3 c4 c5 c6 c7 c8 c9 c10 ci ck:Int)(sc cr:Option Addr)(cn cc cm cd:Nat)(cw:ByteArray)(r:Bool)(hx:X.heap[b]? =some (.cells #[.int .i8 a0,.int .i64 a1,.int .i64 a2,.int .i64 a3,.int .i64 a4,.int .i64 a5,.int .i64 a6,.int .i64 a7,.int .i64 a8,.int .i64 a9,.int .i64 a10,.slice sa an ac,.int .i64 ai,.int .i64 ak,.string aw,.slice ar am ad] 37 (0,0)))(hk:zl 1 10 a0=true)(ho:∀Y,Below X.heap.size X Y→Calls Tryz.prog 56 #[.pointer (some ⟨b,0,none⟩),.iface 87 (.agg #[])] Y (fun e Z=>e= .returned (.tuple #[])∧Z.heap[b]? =some (.cells #[.int .i8 c0,.int .i64 c1,.int .i64 c2,.int .i64 c3,.int .i64 c4,.int .i64 c5,.int .i64 c6,.int .i64 c7,.int .i64 c8,.int .i64 c9,.int .i64 c10,.slice sc cn cc,.int .i64 ci,.int .i64 ck,.string cw,.slice cr cm cd] 37 (0,0))∧zb Y Z (fun q=>q=b)))
 (hs:∀Z,zb X Z (fun q=>q=b)→Calls Tryz.prog 24 #[.agg #[.int .i8 c0,.int .i64 c1,.int .i64 c2,.int .i64 c3,.int .i64 c4,.int .i64 c5,.int .i64 c6,.int .i64 c7,.int .i64 c8,.int .i64 c9,.int .i64 c10,.slice sc cn cc,.int .i64 ci,.int .i64 ck,.string cw,.slice cr cm cd],.agg #[.int .i8 a0,.int .i64 0,.int .i64 0,.int .i64 0,.int .i64 0,.int .i64 0,.int .i64 0,.int .i64 0,.int .i64 0,.int .i64 0,.int .i64 0,.slice none 0 0,.int .i64 0,.int .i64 0,.string ⟨#[]⟩,.slice none 0 0]] Z (fun e V=>e= .returned (.bool r)∧Below Z.heap.size Z V)):
 Calls Tryz.prog 53 #[.pointer (some ⟨b,0,none⟩)] X (YZ b r X):=by
 have HS:=hH hs
 have k0:X.cell? ⟨b,0,none⟩=some (.int .i8 a0):=by rw[corQ _ _ 0 _ _ _ hx];rfl
 have HI:=hH (kw X a0)
 have HA:=hH (yG X true)
 rw[hk] at HI
 have HX:=hH hx
 have HO:=hH ho
 clear ho hx hk hs
 go_enter Tryz.func53,Tryz.ntmps53
 go_wp2_with fail
 refine HI.out.mono ?_
 rintro e w1 ⟨rfl,h2⟩
 rw[h2]
 clear h2 w1
 go_wp2_with fail
 refine HA.out.mono ?_
 intro e X1 hq;obtain⟨rfl,hb⟩:=hq.t
 have HB:=hH hb
 clear HI HA hq k0
 have k0:X1.cell? ⟨b,0,none⟩=some (.int .i8 a0):=by rw[corQ _ _ 0 _ _ _ ((hb.block _ (lohQ HX.out)).trans HX.out)];rfl
 clear hb
 go_upto_region 2 with fail
 change Code.wp _ _ _ _ (X1.alloc (.cells #[.int .i8 a0,.int .i64 0,.int .i64 0,.int .i64 0,.int .i64 0,.int .i64 0,.int .i64 0,.int .i64 0,.int .i64 0,.int .i64 0,.int .i64 0,.slice none 0 0,.int .i64 0,.int .i64 0,.string ⟨#[]⟩,.slice none 0 0] 37))
 obtain⟨Y,hY⟩:∃Y,Y=X1.alloc (.cells #[.int .i8 a0,.int .i64 0,.int .i64 0,.int .i64 0,.int .i64 0,.int .i64 0,.int .i64 0,.int .i64 0,.int .i64 0,.int .i64 0,.int .i64 0,.slice none 0 0,.int .i64 0,.int .i64 0,.string ⟨#[]⟩,.slice none 0 0] 37):=⟨_,rfl⟩
 rw[←hY]
 have hyb:Below X.heap.size X Y:=by rw[hY];exact HB.out.alloc HB.out.size _
 have hyk:Y.heap[X1.heap.size]? =some (.cells #[.int .i8 a0,.int .i64 0,.int .i64 0,.int .i64 0,.int .i64 0,.int .i64 0,.int .i64 0,.int .i64 0,.int .i64 0,.int .i64 0,.int .i64 0,.slice none 0 0,.int .i64 0,.int .i64 0,.string ⟨#[]⟩,.slice none 0 0] 37 (0,0)):=by rw[hY];exact hanQ _ _
 have HY:=hH (aN hyb hyk)
 clear hY hyb hyk k0
 go_wp2_with fail
 refine (HO.out _ HY.out.1).mono ?_
 rintro e Z ⟨rfl,hzb,hz⟩
 have hXZ:=(zA HY.out.1 _).yg hz
 have hzk:=(hz.block _ (lohQ HY.out.2) (by have:=HB.out.size;have:=lohQ HX.out;omega)).trans HY.out.2
 have HZ:=hH hXZ
 have c_0:Z.cell? ⟨b,0,none⟩=some (.int .i8 c0):=by rw[corQ _ _ 0 _ _ _ hzb];rfl
 have c_1:Z.cell? ⟨b,1,none⟩=some (.int .i64 c1):=by rw[corQ _ _ 1 _ _ _ hzb];rfl
 have c_2:Z.cell? ⟨b,2,none⟩=some (.int .i64 c2):=by rw[corQ _ _ 2 _ _ _ hzb];rfl
 have c_3:Z.cell? ⟨b,3,none⟩=some (.int .i64 c3):=by rw[corQ _ _ 3 _ _ _ hzb];rfl
 have c_4:Z.cell? ⟨b,4,none⟩=some (.int .i64 c4):=by rw[corQ _ _ 4 _ _ _ hzb];rfl
 have c_5:Z.cell? ⟨b,5,none⟩=some (.int .i64 c5):=by rw[corQ _ _ 5 _ _ _ hzb];rfl
 have c_6:Z.cell? ⟨b,6,none⟩=some (.int .i64 c6):=by rw[corQ _ _ 6 _ _ _ hzb];rfl
 have c_7:Z.cell? ⟨b,7,none⟩=some (.int .i64 c7):=by rw[corQ _ _ 7 _ _ _ hzb];rfl
 have c_8:Z.cell? ⟨b,8,none⟩=some (.int .i64 c8):=by rw[corQ _ _ 8 _ _ _ hzb];rfl
 have c_9:Z.cell? ⟨b,9,none⟩=some (.int .i64 c9):=by rw[corQ _ _ 9 _ _ _ hzb];rfl
 have c_10:Z.cell? ⟨b,10,none⟩=some (.int .i64 c10):=by rw[corQ _ _ 10 _ _ _ hzb];rfl
 have c_11:Z.cell? ⟨b,11,none⟩=some (.slice sc cn cc):=by rw[corQ _ _ 11 _ _ _ hzb];rfl
 have c_12:Z.cell? ⟨b,12,none⟩=some (.int .i64 ci):=by rw[corQ _ _ 12 _ _ _ hzb];rfl
 have c_13:Z.cell? ⟨b,13,none⟩=some (.int .i64 ck):=by rw[corQ _ _ 13 _ _ _ hzb];rfl
 have c_14:Z.cell? ⟨b,14,none⟩=some (.string cw):=by rw[corQ _ _ 14 _ _ _ hzb];rfl
 have c_15:Z.cell? ⟨b,15,none⟩=some (.slice cr cm cd):=by rw[corQ _ _ 15 _ _ _ hzb];rfl
 have k_0:Z.cell? ⟨X1.heap.size,0,none⟩=some (.int .i8 a0):=by rw[corQ _ _ 0 _ _ _ hzk];rfl
 have k_1:Z.cell? ⟨X1.heap.size,1,none⟩=some (.int .i64 0):=by rw[corQ _ _ 1 _ _ _ hzk];rfl
 have k_2:Z.cell? ⟨X1.heap.size,2,none⟩=some (.int .i64 0):=by rw[corQ _ _ 2 _ _ _ hzk];rfl
 have k_3:Z.cell? ⟨X1.heap.size,3,none⟩=some (.int .i64 0):=by rw[corQ _ _ 3 _ _ _ hzk];rfl
 have k_4:Z.cell? ⟨X1.heap.size,4,none⟩=some (.int .i64 0):=by rw[corQ _ _ 4 _ _ _ hzk];rfl
 have k_5:Z.cell? ⟨X1.heap.size,5,none⟩=some (.int .i64 0):=by rw[corQ _ _ 5 _ _ _ hzk];rfl
 have k_6:Z.cell? ⟨X1.heap.size,6,none⟩=some (.int .i64 0):=by rw[corQ _ _ 6 _ _ _ hzk];rfl
 have k_7:Z.cell? ⟨X1.heap.size,7,none⟩=some (.int .i64 0):=by rw[corQ _ _ 7 _ _ _ hzk];rfl
 have k_8:Z.cell? ⟨X1.heap.size,8,none⟩=some (.int .i64 0):=by rw[corQ _ _ 8 _ _ _ hzk];rfl
 have k_9:Z.cell? ⟨X1.heap.size,9,none⟩=some (.int .i64 0):=by rw[corQ _ _ 9 _ _ _ hzk];rfl
 have k_10:Z.cell? ⟨X1.heap.size,10,none⟩=some (.int .i64 0):=by rw[corQ _ _ 10 _ _ _ hzk];rfl
 have k_11:Z.cell? ⟨X1.heap.size,11,none⟩=some (.slice none 0 0):=by rw[corQ _ _ 11 _ _ _ hzk];rfl
 have k_12:Z.cell? ⟨X1.heap.size,12,none⟩=some (.int .i64 0):=by rw[corQ _ _ 12 _ _ _ hzk];rfl
 have k_13:Z.cell? ⟨X1.heap.size,13,none⟩=some (.int .i64 0):=by rw[corQ _ _ 13 _ _ _ hzk];rfl
 have k_14:Z.cell? ⟨X1.heap.size,14,none⟩=some (.string ⟨#[]⟩):=by rw[corQ _ _ 14 _ _ _ hzk];rfl
 have k_15:Z.cell? ⟨X1.heap.size,15,none⟩=some (.slice none 0 0):=by rw[corQ _ _ 15 _ _ _ hzk];rfl
 clear hXZ hzk hz hzb
 go_wp2_with fail
 refine (HS.out _ HZ.out).mono ?_
 rintro e V ⟨rfl,hv⟩
 have HV:=hH (HZ.out.yg (zA hv (fun q=>q=b)))
 have HA:=hH (yG V r)
 clear hv c_0 c_1 c_2 c_3 c_4 c_5 c_6 c_7 c_8 c_9 c_10 c_11 c_12 c_13 c_14 c_15 k_0 k_1 k_2 k_3 k_4 k_5 k_6 k_7 k_8 k_9 k_10 k_11 k_12 k_13 k_14 k_15
 cases r
 · go_wp2_with fail
   refine HA.out.mono ?_
   intro e U hq;obtain⟨rfl,hb⟩:=hq.f
   exact⟨rfl,YZ.no (HV.out.yg (zA hb _))⟩
 · go_wp2_with fail
   refine HA.out.mono ?_
   intro e U hq;obtain⟨rfl,hb⟩:=hq.t
   have HU:=hH (HV.out.yg (zA hb (fun q=>q=b)))
   clear hq hb
   go_wp2_with fail
   go_end0
   exact YZ.yes HU.out
theorem zaW (args:Array Value)(w:World):(callFunc 53 args).run Tryz.prog w= .ok (.enter 53 args) w:=by rfl
theorem Yz (w:World)(a0 a1 a2 a3 a4 a5 a6 a7 a8 a9 a10 ai ak:Int)(sa ar:Option Addr)(an ac am ad:Nat)(aw:ByteArray)(r:Bool)(h:∀B,Below w.heap.size w B→B.heap[w.heap.size]? =some (.cells #[.int .i8 a0,.int .i64 a1,.int .i64 a2,.int .i64 a3,.int .i64 a4,.int .i64 a5,.int .i64 a6,.int .i64 a7,.int .i64 a8,.int .i64 a9,.int .i64 a10,.slice sa an ac,.int .i64 ai,.int .i64 ak,.string aw,.slice ar am ad] 37 (0,0))→Calls Tryz.prog 53 #[.pointer (some ⟨w.heap.size,0,none⟩)] B (YZ w.heap.size r B)):
 Calls Tryz.prog 22 #[.agg #[.int .i8 a0,.int .i64 a1,.int .i64 a2,.int .i64 a3,.int .i64 a4,.int .i64 a5,.int .i64 a6,.int .i64 a7,.int .i64 a8,.int .i64 a9,.int .i64 a10,.slice sa an ac,.int .i64 ai,.int .i64 ak,.string aw,.slice ar am ad]] w (fun e W=>e= .returned (.bool r)∧Below w.heap.size w W):=by
 have hmf:∀(fn:Fn) (first cap:Array Value) (w:World),(Instr.makeFunc fn first cap).run Tryz.prog w= .ok (.func fn first cap) w:=fun _ _ _ _=>rfl
 obtain⟨B,hB⟩:∃B,B=w.alloc (.cells #[.int .i8 a0,.int .i64 a1,.int .i64 a2,.int .i64 a3,.int .i64 a4,.int .i64 a5,.int .i64 a6,.int .i64 a7,.int .i64 a8,.int .i64 a9,.int .i64 a10,.slice sa an ac,.int .i64 ai,.int .i64 ak,.string aw,.slice ar am ad] 37):=⟨_,rfl⟩
 have hb:Below w.heap.size w B:=by rw[hB];exact (BrQ _ _).alloc (NlrQ _) _
 have h1:=h B hb (by rw[hB];exact hanQ _ _)
 have HM:=hH (zf9 B 53 ⟨w.heap.size,0,none⟩ r (fun V=>zb B V (fun q=>q=w.heap.size)) zaW h1)
 have HB:=hH hb
 have HBE:=hH hB
 clear hB hb h1 h
 go_enter Tryz.func22,Tryz.ntmps22
 go_upto_region 1 with fail
 change Code.wp _ _ _ _ (w.alloc (.cells #[.int .i8 a0,.int .i64 a1,.int .i64 a2,.int .i64 a3,.int .i64 a4,.int .i64 a5,.int .i64 a6,.int .i64 a7,.int .i64 a8,.int .i64 a9,.int .i64 a10,.slice sa an ac,.int .i64 ai,.int .i64 ak,.string aw,.slice ar am ad] 37))
 rw[←HBE.out]
 go_wp2_with fail
 refine HM.out.mono ?_
 rintro e w' ⟨rfl,ht⟩
 have HW:=hH (show Below w.heap.size w w' from⟨ht.os.trans HB.out.os,ht.tape.trans HB.out.tape,ht.output.trans HB.out.output,NltQ HB.out.size ht.size,fun q hq=>(ht.block q (nL hq HB.out.size) om).trans (HB.out.block q hq)⟩)
 clear ht
 go_wp2_with fail
 go_ret
 exact⟨rfl,HW.out⟩
end Go.Proofs.YtoidedomenkbpaaGreat
namespace Go.Proofs.YtoidedomenkbpaaGreat
open Go.RowKit Go.Shelf
open Extern.Stop (cell)
theorem zdC {B:Nat}{v:Value}{bs:List UInt8}{W0 w:World}(h:qy B v bs W0 w):∃a cap,v= .slice a bs.length cap∧yt w a bs∧∀ad,a=some ad→B≤ad.block∧ad.block<w.heap.size:=by
 exact sd4
theorem jA {w w' :World}{a:Option Addr}{bs:List UInt8}(h:yt w a bs)(hk:∀ad,a=some ad→w'.heap[ad.block]? =w.heap[ad.block]?):yt w' a bs:=
 ⟨h.1,fun ad e j u hj=>by
  have h1:=h.2 ad e j u hj
  exact (World.cell?_of_block (a:=ad.add j) (by have:(ad.add j).block=ad.block:=(by unfold Addr.add;split<;>rfl);rw[this];exact hk ad e)).trans h1⟩
def ko (b wb:Nat)(bs:List UInt8)(X:World):Prop:=∃a cap,X.heap[wb]? =some (.cells #[.slice a bs.length cap] 103 (0,0))∧yt X a bs∧(∀ad,a=some ad→ad.block≠b∧ad.block≠wb∧ad.block<X.heap.size)∧bs.length≤1000000000000∧wb≠b∧b<X.heap.size
def za (s:List UInt8)(n lo hi:Int):Option (Int×List UInt8):=some (n,s++zq n)
theorem ko.keep {b wb:Nat}{bs:List UInt8}{X X' :World}(h:ko b wb bs X)(hk:∀q,q<X.heap.size→q≠b→X'.heap[q]? =X.heap[q]?)(hs:X.heap.size≤X'.heap.size):ko b wb bs X':=by
 obtain⟨a,cap,h1,h2,h3,h4,h5,h6⟩:=h
 exact⟨a,cap,(hk wb (lohQ h1) h5).trans h1,jA h2 (fun ad e=>hk _ (h3 ad e).2.2 (h3 ad e).1),fun ad e=>⟨(h3 ad e).1,(h3 ad e).2.1,nL (h3 ad e).2.2 hs⟩,h4,h5,nL h6 hs⟩
theorem ZI (b wb:Nat)(bs:List UInt8)(X:World)(n lo hi:Int)(h:ko b wb bs X):
 Calls Tryz.prog 259 #[.pointer (some ⟨wb,0,none⟩),.int .i64 n,.int .i64 lo,.int .i64 hi] X (fun e X'=>e= .returned (.int .i64 n)∧((bs++zq n).length≤1000000000000→ko b wb (bs++zq n) X')∧zb X X' (fun q=>q=wb)):=by
 obtain⟨a,cap,h1,h2,h3,h4,h5,h6⟩:=h
 have k0:X.cell? ⟨wb,0,none⟩=some (.slice a bs.length cap):=by rw[corQ _ _ 0 _ _ _ h1];rfl
 have HP:=hH (Jd X a cap bs h2 h4 n)
 obtain⟨L,hL⟩:∃L,L=(bs++zq n).length:=⟨_,rfl⟩
 have HE:=hH (fun (v:Value) (w1:World) (h:qy X.heap.size v (bs++zq n) X w1)=>(show ∃a' cap',v= .slice a' L cap'∧w1.frozen? ⟨wb,0,none⟩=false∧w1.cell? ⟨wb,0,none⟩=some (.slice a bs.length cap)∧((bs++zq n).length≤1000000000000→ko b wb (bs++zq n) (w1.setCell ⟨wb,0,none⟩ (.slice a' L cap')))∧zb X (w1.setCell ⟨wb,0,none⟩ (.slice a' L cap')) (fun q=>q=wb) by
  have hb:Below X.heap.size X w1:=h.1.2.1
  have e1:=(hb.block wb (lohQ h1)).trans h1
  obtain⟨a',cap',hv,hat,had⟩:=zdC h
  have ht:zb w1 (w1.setCell ⟨wb,0,none⟩ (.slice a' L cap')) (fun q=>q=wb):=zB
  refine⟨a',cap',by rw[hL];exact hv,forQ _ _ 0 _ _ e1,by rw[corQ _ _ 0 _ _ _ e1];rfl,fun hl=>?_,(zA hb _).yg ht⟩
  refine⟨a',cap',?_,jA hat (fun ad e=>ht.block _ (had ad e).2 (by have:=(had ad e).1;have:=lohQ h1;omega)),fun ad e=>⟨by have:=(had ad e).1;omega,by have:=(had ad e).1;have:=lohQ h1;omega,nL (had ad e).2 ht.size⟩,hl,h5,nL h6 (NltQ hb.size ht.size)⟩
  rw[hssQ _ _ 0 _ _ _ e1,←hL];rfl))
 clear hL
 clear h1 h2 h3 h4 h5 h6
 go_enter Tryz.func259,Tryz.ntmps259
 go_wp2_with (go_at_call 262;refine HP.out.mono ?_;clear HP;rintro e w1 ⟨v1,rfl,h1⟩;obtain⟨a',cap',rfl,f1,c1,c2⟩:=HE.out _ _ h1;have HF:=hH c2;clear h1 c2)
 go_ret
 exact⟨rfl,HF.out.1,HF.out.2⟩
theorem Zi (b wb:Nat)(hne:wb≠b):yQ (σ:=List UInt8) (fun s=>s.length≤1000000000000) (fun s X=>ko b wb s X) (fun q=>q=wb) za b 101 (.pointer (some ⟨wb,0,none⟩)) (.pointer (some ⟨wb,0,none⟩)) 259 where
 jH:=fun w=>by rfl
 enter:=fun _ _=>by rfl
 does:=fun s X n lo hi h=>ZI b wb s X n lo hi h
 keep:=fun s X X' h hk hs=>h.keep hk hs
 apart:=fun h=>hne h.symm
 inn:=fun s X q h e=>by obtain⟨a,cap,h1,_⟩:=h;rw[e];exact lohQ h1
def zb4 (b rb:Nat)(s:Rd)(X:World):Prop:=∃dv,yJ X rb dv s∧rb≠b∧dv.ownBlock≠some b
def zai (s:Rd)(n lo hi:Int):Option (Int×Rd):=some (s.number.1,s.number.2)
theorem Je (b rb:Nat)(s:Rd)(X:World)(n lo hi:Int)(h:zb4 b rb s X):
 Calls Tryz.prog 270 #[.agg #[.pointer (some ⟨rb,0,none⟩)],.int .i64 n,.int .i64 lo,.int .i64 hi] X (fun e X'=>e= .returned (.int .i64 s.number.1)∧zb4 b rb s.number.2 X'∧zb X X' (fun q=>q=rb)):=by
 obtain⟨dv,h1,h2,h3⟩:=h
 obtain⟨B,hB⟩:∃B,B=X.alloc (.cells #[.pointer (some ⟨rb,0,none⟩)] 114):=⟨_,rfl⟩
 have hb:Below X.heap.size X B:=by rw[hB];exact (BrQ _ _).alloc (NlrQ _) _
 have eB:B.heap[X.heap.size]? =some (.cells #[.pointer (some ⟨rb,0,none⟩)] 114 (0,0)):=by rw[hB];exact hanQ _ _
 have k0:B.cell? ⟨X.heap.size,0,none⟩=some (.pointer (some ⟨rb,0,none⟩)):=by rw[corQ _ _ 0 _ _ _ eB];rfl
 have HN:=hH (zb1 B rb dv s (by rw[hB];exact h1.alloc _))
 have HX:=hH (aN hb (aN hB (aN h2 h3)))
 clear hb eB h1 h2 h3 hB
 go_enter Tryz.func270,Tryz.ntmps270
 go_upto_region 1 with fail
 change Code.wp _ _ _ _ (X.alloc (.cells #[.pointer (some ⟨rb,0,none⟩)] 114))
 rw[←HX.out.2.1]
 go_wp2_with (go_at_call 269;refine HN.out.mono ?_;clear HN;rintro e w1 ⟨v1,rfl,rfl,h1,h2⟩;have HF:=hH (aN h1 h2);clear h1 h2)
 go_ret
 exact⟨rfl,⟨dv,HF.out.1,HX.out.2.2.1,HX.out.2.2.2⟩,(zA HX.out.1 _).yg HF.out.2⟩
theorem Za (b rb:Nat)(hne:rb≠b):yQ (σ:=Rd) (fun _=>True) (fun s X=>zb4 b rb s X) (fun q=>q=rb) zai b 114 (.agg #[.pointer (some ⟨rb,0,none⟩)]) (.agg #[.pointer (some ⟨rb,0,none⟩)]) 270 where
 jH:=fun w=>by rfl
 enter:=fun _ _=>by rfl
 does:=fun s X n lo hi h=>(Je b rb s X n lo hi h).mono fun e X' ⟨h1,h2,h3⟩=>⟨h1,fun _=>h2,h3⟩
 keep:=fun s X X' h hk hs=>by
  obtain⟨dv,h1,h2,h3⟩:=h
  refine⟨dv,⟨(hk _ (lohQ h1.here) h2).trans h1.here,j5 h1.owns (fun g hg=>hk g (Qd h1.owns g hg) (fun e=>h3 (by rw[hg,e]))),h1.apart,h1.fits,h1.few⟩,h2,h3⟩
 apart:=fun h=>hne h.symm
 inn:=fun s X q h e=>by obtain⟨dv,h1,_⟩:=h;rw[e];exact lohQ h1.here
end Go.Proofs.YtoidedomenkbpaaGreat
