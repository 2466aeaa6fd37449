/-
  .
-/
import Derived.Test.YtoidedomenkbpaaGreatOverYQs
set_option maxRecDepth 100000
set_option maxHeartbeats 40000000
namespace Go.Proofs.YtoidedomenkbpaaGreat
open Go.RowKit Go.Shelf
set_option linter.unusedVariables false
set_option linter.unusedSimpArgs false
structure za3 {σ α:Type} (G:σ→Prop) (R:σ→World→Prop) (O:Nat→Prop) (val:σ→Option (α×σ)) (out:α→Value) (b:Nat) (T:TypeId) (v rv:Value) (fn:FuncId) (name:String) (X0:World) (av:Value):Prop where
 jS:∀w,(method 397 T v name).run Tryz.prog w= .ok (fn,rv) w
 enter:∀(args:Array Value) (w:World),(callFunc fn args).run Tryz.prog w= .ok (.enter fn args) w
 does:∀(s:σ) (X:World),R s X→za X0 X (fun q=>O q∨q=b)→Calls Tryz.prog fn #[rv,av] X (fun e X'=>match val s with
  | some (m,s')=>e= .returned (out m)∧(G s'→R s' X')∧za X X' O
  | none=>e= .panicked Zi∧za X X' O)
 keep:∀(s:σ) (X X' :World),R s X→(∀q,q<X.heap.size→q≠b→X'.heap[q]? =X.heap[q]?)→X.heap.size≤X'.heap.size→R s X'
 apart:¬O b
 inn:∀(s:σ) (X:World) (q:Nat),R s X→O q→q<X.heap.size
def Zx (m:Option Addr×Nat×Nat):Value:= .slice m.1 m.2.1 m.2.2
def kz (m:Int×Int×ByteArray×Option Addr×Nat×Nat):Value:= .agg #[.int .i64 m.1,.int .i64 m.2.1,.string m.2.2.1,.slice m.2.2.2.1 m.2.2.2.2.1 m.2.2.2.2.2]
def kU {σ:Type}(val:σ→Option ((Option Addr×Nat×Nat)×σ)):yt σ:=fun s cs=>match val s with
 | some (m,s')=>some (s',cs.setIfInBounds 11 (.slice m.1 m.2.1 m.2.2))
 | none=>none
def vM {σ:Type}(val:σ→Option ((Int×Int×ByteArray×Option Addr×Nat×Nat)×σ)):yt σ:=fun s cs=>match val s with
 | some (m,s')=>some (s',(((cs.setIfInBounds 12 (.int .i64 m.1)).setIfInBounds 13 (.int .i64 m.2.1)).setIfInBounds 14 (.string m.2.2.1)).setIfInBounds 15 (.slice m.2.2.2.1 m.2.2.2.2.1 m.2.2.2.2.2))
 | none=>none
theorem Jl {σ:Type}{G:σ→Prop}{R:σ→World→Prop}{O:Nat→Prop}{val:σ→Option ((Option Addr×Nat×Nat)×σ)}{b:Nat}{T:TypeId}{v rv:Value}{fn:FuncId}{X0:World}(sa:Option Addr)(sn sc:Nat)(H:za3 G R O val Zx b T v rv fn "allotment/wire.steps" X0 (.slice sa sn sc))(s:σ)(X:World)(cs:Array Value)(hR:R s X)(hT:za X0 X (fun q=>O q∨q=b))(hX:X.heap[b]? =some (.cells cs 37 (0,0)))(hn:cs[11]? =some (.slice sa sn sc)):
 Calls Tryz.prog 152 #[.agg #[.pointer (some ⟨b,0,none⟩),.iface T v]] X (zcB G R O (kU val s cs) b X):=by
 obtain⟨B,hB⟩:∃B,B=X.alloc (.cells #[.pointer (some ⟨b,0,none⟩),.iface T v] 146):=⟨_,rfl⟩
 have hb:Below X.heap.size X B:=by rw[hB];exact (BrQ _ _).alloc (NlrQ _) _
 have eB:B.heap[X.heap.size]? =some (.cells #[.pointer (some ⟨b,0,none⟩),.iface T v] 146 (0,0)):=by rw[hB];exact hanQ _ _
 have hXb:b<X.heap.size:=lohQ hX
 have hBX:=(hb.block _ hXb).trans hX
 have hRB:=H.keep s X B hR (fun q hq _=>hb.block q hq) hb.size
 obtain⟨SW,hSW⟩:∃SW:World→Prop,SW=fun Y=>Y.heap[X.heap.size]? =some (.cells #[.pointer (some ⟨b,0,none⟩),.iface T v] 146 (0,0)):=⟨_,rfl⟩
 have HP:=hH (fun (Y:World) (h:SW Y)=>(show Y.cell? ⟨X.heap.size,0,none⟩=some (.pointer (some ⟨b,0,none⟩))∧Y.cell? ⟨X.heap.size,1,none⟩=some (.iface T v) by
  rw[hSW] at h
  exact⟨by rw[corQ _ _ 0 _ _ _ h];rfl,by rw[corQ _ _ 1 _ _ _ h];rfl⟩))
 have hS0:SW B.drew:=by rw[hSW];exact eB
 have HSM:=hH (fun (Y:World) (h:Y.heap[X.heap.size]? =B.heap[X.heap.size]?)=>(show SW Y by rw[hSW];exact h.trans eB))
 have HB:=hH (aN hb (aN hB (aN hBX (aN hXb (show X.heap.size<B.heap.size from lohQ eB)))))
 have HH:=hH H
 have HR:=hH hRB
 have c0:B.drew.cell? ⟨b,11,none⟩=some (.slice sa sn sc):=by show B.cell? _=_;rw[corQ _ _ 11 _ _ _ hBX];exact hn
 have HI:=hH (fun q (h:O q)=>H.inn s X q hR h)
 have HN:=hH hn
 have HTT:=hH (show za X0 B.drew (fun q=>O q∨q=b) from kw (hT.zK (zn hb _)) 1)
 have hm:=H.jS
 have he:=H.enter
 clear hb hB eB hXb hBX hRB hSW hR hX hn H hT
 go_enter Tryz.func152,Tryz.ntmps152
 go_upto_region 1 with fail
 change Code.wp _ _ _ _ (X.alloc (.cells #[.pointer (some ⟨b,0,none⟩),.iface T v] 146))
 rw[←HB.out.2.1]
 refine wrhQ (S:=SW) kr1 hS0 (fun eH=>?_)
 clear hS0
 refine tJ (i:=0) (.pointer (some ⟨X.heap.size,0,none⟩)) rfl ?_ ?_
 · clear eH;intro Y hSw;clear hSw;go_simp
 simp only[Act.put,pg]
 refine tJ (i:=1) (.pointer (some ⟨b,0,none⟩)) rfl ?_ ?_
 · exact ua2
 simp only[Act.put,pg]
 refine tJ (i:=2) (.pointer (some ⟨X.heap.size,1,none⟩)) rfl ?_ ?_
 · clear eH;intro Y hSw;clear hSw;go_simp
 simp only[Act.put,pg]
 refine tJ (i:=3) (.iface T v) rfl ?_ ?_
 · exact ua2
 simp only[Act.put,pg]
 refine tJ (i:=4) (.pointer (some ⟨X.heap.size,0,none⟩)) rfl ?_ ?_
 · clear eH;intro Y hSw;clear hSw;go_simp
 simp only[Act.put,pg]
 refine tJ (i:=5) (.pointer (some ⟨b,0,none⟩)) rfl ?_ ?_
 · exact ua2
 simp only[Act.put,pg]
 refine tJ (i:=6) (.pointer (some ⟨b,0,none⟩)) rfl ?_ ?_
 · clear eH;intro Y hSw;clear hSw;go_simp
 simp only[Act.put,pg]
 refine tJ (i:=7) (.pointer (some ⟨b,11,none⟩)) rfl ?_ ?_
 · clear eH;intro Y hSw;clear hSw;go_simp
 simp only[Act.put,pg]
 refine tJ (i:=9) (.iface T v) rfl ?_ ?_
 · clear eH;intro Y hSw;clear hSw;go_simp
 simp only[Act.put,pg]
 refine tJ (i:=10) (.iface T v) rfl ?_ ?_
 · clear eH;intro Y hSw;clear hSw;go_simp
 simp only[Act.put,pg]
 have hH0:=eH
 refine rd1 [8] ?_
 refine AcQ (o:=_) rfl (fun K hK=>?_) AnQ
 rw[ipQ ue1]
 simp only[pg3]
 have HK:=hH hK
 have HS:=hH eH
 clear hK eH
 go_wp2_with fail
 refine HK.out _ _ hH0 (fun eH=>?_)
 clear HK HS c0 hH0
 refine rd1 [11] ?_
 refine AcQ (o:=_) rfl (fun K hK=>?_) AnQ
 rw[ipQ ue1]
 simp only[pg3]
 have HK:=hH hK
 have HS:=hH eH
 clear hK eH
 go_wp2_with fail
 refine (HH.out.does s B.drew (HH.out.keep s B B.drew HR.out (fun _ _ _=>rfl) (NlrQ _)) HTT.out).mono ?_
 intro e W' hq
 cases ho:val s with
 | none=>
   rw[ho] at hq
   obtain⟨rfl,ht⟩:=hq
   refine⟨rfl,?_⟩
   unfold kU
   rw[ho]
   exact sa8
 | some ms=>
   obtain⟨⟨m0,m1,m2⟩,s'⟩:=ms
   rw[ho] at hq
   obtain⟨rfl,hr,ht⟩:=hq
   have hbW:W'.heap[b]? =some (.cells cs 37 (0,0)):=(ht.block b (nL HB.out.2.2.2.1 HB.out.1.size) HH.out.apart).trans HB.out.2.2.1
   have hpW:W'.heap[X.heap.size]? =B.heap[X.heap.size]?:=ht.block _ HB.out.2.2.2.2 (fun h=>by have:=HI.out _ h;omega)
   have HW:=hH (aN hbW (aN hpW (aN hr ht)))
   obtain⟨Z0,hZ0⟩:∃Z0,Z0=W'.setCell ⟨b,11,none⟩ (.slice m0 m1 m2):=⟨_,rfl⟩
   have hZ0s:za W' Z0 (fun q=>q=b):=by rw[hZ0];exact zu
   have hZ0b:Z0.heap[b]? =some (.cells (cs.setIfInBounds 11 (.slice m0 m1 m2)) 37 (0,0)):=by rw[hZ0];exact hssQ _ _ _ _ _ _ hbW
   have hZs:za W' Z0 (fun q=>q=b):=hZ0s
   have d0:W'.cell? ⟨b,11,none⟩=some (.slice sa sn sc):=by rw[corQ _ _ 11 _ _ _ hbW];exact HN.out
   have f0:∀j,W'.frozen? ⟨b,j,none⟩=false:=fun j=>forQ _ _ j _ _ hbW
   have hE:zcB G R O (some (s',(cs.setIfInBounds 11 (.slice m0 m1 m2)))) b X (.returned (.tuple #[])) Z0:=by
    refine⟨rfl,fun g=>HH.out.keep s' W' Z0 (hr g) (fun q h1 h2=>hZs.block q h1 h2) hZs.size,hZ0b,?_⟩
    exact sa4
   have HE:=hH (aN hE (show Z0.heap[X.heap.size]? =B.heap[X.heap.size]? from (hZs.block _ (nL HB.out.2.2.2.2 ht.size) uc5).trans hpW))
   have HO:=hH ho
   have HZC:=hH (show Z0=(W'.setCell ⟨b,11,none⟩ (.slice m0 m1 m2)) by rw[hZ0])
   clear hbW hpW hr ht hZs hZ0s hZ0b hZ0 hE ho
   unfold Zx
   go_wp2_with fail
   refine HK.out _ _ (HSM.out _ HW.out.2.1) (fun eH=>?_)
   clear HK HS
   refine tJ (i:=12) (.pointer (some ⟨b,0,none⟩)) rfl ?_ ?_
   · clear eH;intro Y hSw;clear hSw;go_simp
   simp only[Act.put,pg]
   refine tJ (i:=13) (.pointer (some ⟨b,11,none⟩)) rfl ?_ ?_
   · clear eH;intro Y hSw;clear hSw;go_simp
   simp only[Act.put,pg]
   refine rd1 [14] ?_
   refine AcQ (o:=_) rfl (fun K hK=>?_) AnQ
   rw[ipQ ue1]
   simp only[pg3]
   have HK:=hH hK
   have HS:=hH eH
   clear hK eH
   go_wp2_with fail
   rw[←HZC.out]
   refine HK.out _ _ (HSM.out _ HE.out.2) (fun eH=>?_)
   clear HK HS d0 f0
   refine wpAnyH_done kr1 ?_ _
   clear eH
   go_wp2_with fail
   go_end0
   unfold kU
   rw[HO.out]
   exact HE.out.1
theorem zab {σ:Type}{G:σ→Prop}{R:σ→World→Prop}{O:Nat→Prop}{val:σ→Option ((Int×Int×ByteArray×Option Addr×Nat×Nat)×σ)}{b:Nat}{T:TypeId}{v rv:Value}{fn:FuncId}{X0:World}(ti tk:Int)(tt:ByteArray)(ta:Option Addr)(tn tc:Nat)(H:za3 G R O val kz b T v rv fn "allotment/wire.tree" X0 (.agg #[.int .i64 ti,.int .i64 tk,.string tt,.slice ta tn tc]))(s:σ)(X:World)(cs:Array Value)(hR:R s X)(hT:za X0 X (fun q=>O q∨q=b))(hX:X.heap[b]? =some (.cells cs 37 (0,0)))(hn:cs[12]? =some (.int .i64 ti)∧cs[13]? =some (.int .i64 tk)∧cs[14]? =some (.string tt)∧cs[15]? =some (.slice ta tn tc)):
 Calls Tryz.prog 150 #[.agg #[.pointer (some ⟨b,0,none⟩),.iface T v]] X (zcB G R O (vM val s cs) b X):=by
 obtain⟨B,hB⟩:∃B,B=X.alloc (.cells #[.pointer (some ⟨b,0,none⟩),.iface T v] 146):=⟨_,rfl⟩
 have hb:Below X.heap.size X B:=by rw[hB];exact (BrQ _ _).alloc (NlrQ _) _
 have eB:B.heap[X.heap.size]? =some (.cells #[.pointer (some ⟨b,0,none⟩),.iface T v] 146 (0,0)):=by rw[hB];exact hanQ _ _
 have hXb:b<X.heap.size:=lohQ hX
 have hBX:=(hb.block _ hXb).trans hX
 have hRB:=H.keep s X B hR (fun q hq _=>hb.block q hq) hb.size
 obtain⟨SW,hSW⟩:∃SW:World→Prop,SW=fun Y=>Y.heap[X.heap.size]? =some (.cells #[.pointer (some ⟨b,0,none⟩),.iface T v] 146 (0,0)):=⟨_,rfl⟩
 have HP:=hH (fun (Y:World) (h:SW Y)=>(show Y.cell? ⟨X.heap.size,0,none⟩=some (.pointer (some ⟨b,0,none⟩))∧Y.cell? ⟨X.heap.size,1,none⟩=some (.iface T v) by
  rw[hSW] at h
  exact⟨by rw[corQ _ _ 0 _ _ _ h];rfl,by rw[corQ _ _ 1 _ _ _ h];rfl⟩))
 have hS0:SW B.drew:=by rw[hSW];exact eB
 have HSM:=hH (fun (Y:World) (h:Y.heap[X.heap.size]? =B.heap[X.heap.size]?)=>(show SW Y by rw[hSW];exact h.trans eB))
 have HB:=hH (aN hb (aN hB (aN hBX (aN hXb (show X.heap.size<B.heap.size from lohQ eB)))))
 have HH:=hH H
 have HR:=hH hRB
 have c0:B.drew.cell? ⟨b,12,none⟩=some (.int .i64 ti):=by show B.cell? _=_;rw[corQ _ _ 12 _ _ _ hBX];exact hn.1
 have c1:B.drew.cell? ⟨b,13,none⟩=some (.int .i64 tk):=by show B.cell? _=_;rw[corQ _ _ 13 _ _ _ hBX];exact hn.2.1
 have c2:B.drew.cell? ⟨b,14,none⟩=some (.string tt):=by show B.cell? _=_;rw[corQ _ _ 14 _ _ _ hBX];exact hn.2.2.1
 have c3:B.drew.cell? ⟨b,15,none⟩=some (.slice ta tn tc):=by show B.cell? _=_;rw[corQ _ _ 15 _ _ _ hBX];exact hn.2.2.2
 have HI:=hH (fun q (h:O q)=>H.inn s X q hR h)
 have HN:=hH hn
 have HTT:=hH (show za X0 B.drew (fun q=>O q∨q=b) from kw (hT.zK (zn hb _)) 1)
 have hm:=H.jS
 have he:=H.enter
 clear hb hB eB hXb hBX hRB hSW hR hX hn H hT
 go_enter Tryz.func150,Tryz.ntmps150
 go_upto_region 1 with fail
 change Code.wp _ _ _ _ (X.alloc (.cells #[.pointer (some ⟨b,0,none⟩),.iface T v] 146))
 rw[←HB.out.2.1]
 refine wrhQ (S:=SW) kr1 hS0 (fun eH=>?_)
 clear hS0
 refine tJ (i:=0) (.pointer (some ⟨X.heap.size,0,none⟩)) rfl ?_ ?_
 · clear eH;intro Y hSw;clear hSw;go_simp
 simp only[Act.put,pg]
 refine tJ (i:=1) (.pointer (some ⟨b,0,none⟩)) rfl ?_ ?_
 · exact ua2
 simp only[Act.put,pg]
 refine tJ (i:=2) (.pointer (some ⟨X.heap.size,1,none⟩)) rfl ?_ ?_
 · clear eH;intro Y hSw;clear hSw;go_simp
 simp only[Act.put,pg]
 refine tJ (i:=3) (.iface T v) rfl ?_ ?_
 · exact ua2
 simp only[Act.put,pg]
 refine tJ (i:=4) (.pointer (some ⟨X.heap.size,0,none⟩)) rfl ?_ ?_
 · clear eH;intro Y hSw;clear hSw;go_simp
 simp only[Act.put,pg]
 refine tJ (i:=5) (.pointer (some ⟨b,0,none⟩)) rfl ?_ ?_
 · exact ua2
 simp only[Act.put,pg]
 refine tJ (i:=6) (.pointer (some ⟨b,0,none⟩)) rfl ?_ ?_
 · clear eH;intro Y hSw;clear hSw;go_simp
 simp only[Act.put,pg]
 refine tJ (i:=7) (.pointer (some ⟨b,12,none⟩)) rfl ?_ ?_
 · clear eH;intro Y hSw;clear hSw;go_simp
 simp only[Act.put,pg]
 refine tJ (i:=9) (.iface T v) rfl ?_ ?_
 · clear eH;intro Y hSw;clear hSw;go_simp
 simp only[Act.put,pg]
 refine tJ (i:=10) (.iface T v) rfl ?_ ?_
 · clear eH;intro Y hSw;clear hSw;go_simp
 simp only[Act.put,pg]
 have hH0:=eH
 refine rd1 [8] ?_
 refine AcQ (o:=_) rfl (fun K hK=>?_) AnQ
 rw[ipQ ue1]
 simp only[pg3]
 have HK:=hH hK
 have HS:=hH eH
 clear hK eH
 go_wp2_with fail
 refine HK.out _ _ hH0 (fun eH=>?_)
 clear HK HS c0 c1 c2 c3 hH0
 refine rd1 [11] ?_
 refine AcQ (o:=_) rfl (fun K hK=>?_) AnQ
 rw[ipQ ue1]
 simp only[pg3]
 have HK:=hH hK
 have HS:=hH eH
 clear hK eH
 go_wp2_with fail
 refine (HH.out.does s B.drew (HH.out.keep s B B.drew HR.out (fun _ _ _=>rfl) (NlrQ _)) HTT.out).mono ?_
 intro e W' hq
 cases ho:val s with
 | none=>
   rw[ho] at hq
   obtain⟨rfl,ht⟩:=hq
   refine⟨rfl,?_⟩
   unfold vM
   rw[ho]
   exact sa8
 | some ms=>
   obtain⟨⟨m0,m1,m2,m3,m4,m5⟩,s'⟩:=ms
   rw[ho] at hq
   obtain⟨rfl,hr,ht⟩:=hq
   have hbW:W'.heap[b]? =some (.cells cs 37 (0,0)):=(ht.block b (nL HB.out.2.2.2.1 HB.out.1.size) HH.out.apart).trans HB.out.2.2.1
   have hpW:W'.heap[X.heap.size]? =B.heap[X.heap.size]?:=ht.block _ HB.out.2.2.2.2 (fun h=>by have:=HI.out _ h;omega)
   have HW:=hH (aN hbW (aN hpW (aN hr ht)))
   obtain⟨Z0,hZ0⟩:∃Z0,Z0=W'.setCell ⟨b,12,none⟩ (.int .i64 m0):=⟨_,rfl⟩
   have hZ0s:za W' Z0 (fun q=>q=b):=by rw[hZ0];exact zu
   have hZ0b:Z0.heap[b]? =some (.cells (cs.setIfInBounds 12 (.int .i64 m0)) 37 (0,0)):=by rw[hZ0];exact hssQ _ _ _ _ _ _ hbW
   obtain⟨Z1,hZ1⟩:∃Z1,Z1=Z0.setCell ⟨b,13,none⟩ (.int .i64 m1):=⟨_,rfl⟩
   have hZ1s:za Z0 Z1 (fun q=>q=b):=by rw[hZ1];exact zu
   have hZ1b:Z1.heap[b]? =some (.cells ((cs.setIfInBounds 12 (.int .i64 m0)).setIfInBounds 13 (.int .i64 m1)) 37 (0,0)):=by rw[hZ1];exact hssQ _ _ _ _ _ _ hZ0b
   obtain⟨Z2,hZ2⟩:∃Z2,Z2=Z1.setCell ⟨b,14,none⟩ (.string m2):=⟨_,rfl⟩
   have hZ2s:za Z1 Z2 (fun q=>q=b):=by rw[hZ2];exact zu
   have hZ2b:Z2.heap[b]? =some (.cells (((cs.setIfInBounds 12 (.int .i64 m0)).setIfInBounds 13 (.int .i64 m1)).setIfInBounds 14 (.string m2)) 37 (0,0)):=by rw[hZ2];exact hssQ _ _ _ _ _ _ hZ1b
   obtain⟨Z3,hZ3⟩:∃Z3,Z3=Z2.setCell ⟨b,15,none⟩ (.slice m3 m4 m5):=⟨_,rfl⟩
   have hZ3s:za Z2 Z3 (fun q=>q=b):=by rw[hZ3];exact zu
   have hZ3b:Z3.heap[b]? =some (.cells ((((cs.setIfInBounds 12 (.int .i64 m0)).setIfInBounds 13 (.int .i64 m1)).setIfInBounds 14 (.string m2)).setIfInBounds 15 (.slice m3 m4 m5)) 37 (0,0)):=by rw[hZ3];exact hssQ _ _ _ _ _ _ hZ2b
   have hZs:za W' Z3 (fun q=>q=b):=(((hZ0s.zK hZ1s).zK hZ2s).zK hZ3s)
   have d0:W'.cell? ⟨b,12,none⟩=some (.int .i64 ti):=by rw[corQ _ _ 12 _ _ _ hbW];exact HN.out.1
   have d1:W'.cell? ⟨b,13,none⟩=some (.int .i64 tk):=by rw[corQ _ _ 13 _ _ _ hbW];exact HN.out.2.1
   have d2:W'.cell? ⟨b,14,none⟩=some (.string tt):=by rw[corQ _ _ 14 _ _ _ hbW];exact HN.out.2.2.1
   have d3:W'.cell? ⟨b,15,none⟩=some (.slice ta tn tc):=by rw[corQ _ _ 15 _ _ _ hbW];exact HN.out.2.2.2
   have f0:∀j,W'.frozen? ⟨b,j,none⟩=false:=fun j=>forQ _ _ j _ _ hbW
   have hE:zcB G R O (some (s',((((cs.setIfInBounds 12 (.int .i64 m0)).setIfInBounds 13 (.int .i64 m1)).setIfInBounds 14 (.string m2)).setIfInBounds 15 (.slice m3 m4 m5)))) b X (.returned (.tuple #[])) Z3:=by
    refine⟨rfl,fun g=>HH.out.keep s' W' Z3 (hr g) (fun q h1 h2=>hZs.block q h1 h2) hZs.size,hZ3b,?_⟩
    exact sa4
   have HE:=hH (aN hE (show Z3.heap[X.heap.size]? =B.heap[X.heap.size]? from (hZs.block _ (nL HB.out.2.2.2.2 ht.size) uc5).trans hpW))
   have HO:=hH ho
   have HZC:=hH (show Z3=((((W'.setCell ⟨b,12,none⟩ (.int .i64 m0)).setCell ⟨b,13,none⟩ (.int .i64 m1)).setCell ⟨b,14,none⟩ (.string m2)).setCell ⟨b,15,none⟩ (.slice m3 m4 m5)) by rw[hZ3,hZ2,hZ1,hZ0])
   clear hbW hpW hr ht hZs hZ0s hZ0b hZ1s hZ1b hZ2s hZ2b hZ3s hZ3b hZ0 hZ1 hZ2 hZ3 hE ho
   unfold kz
   go_wp2_with fail
   refine HK.out _ _ (HSM.out _ HW.out.2.1) (fun eH=>?_)
   clear HK HS
   refine tJ (i:=12) (.pointer (some ⟨b,0,none⟩)) rfl ?_ ?_
   · clear eH;intro Y hSw;clear hSw;go_simp
   simp only[Act.put,pg]
   refine tJ (i:=13) (.pointer (some ⟨b,12,none⟩)) rfl ?_ ?_
   · clear eH;intro Y hSw;clear hSw;go_simp
   simp only[Act.put,pg]
   refine rd1 [14] ?_
   refine AcQ (o:=_) rfl (fun K hK=>?_) AnQ
   rw[ipQ ue1]
   simp only[pg3]
   have HK:=hH hK
   have HS:=hH eH
   clear hK eH
   go_wp2_with fail
   rw[←HZC.out]
   refine HK.out _ _ (HSM.out _ HE.out.2) (fun eH=>?_)
   clear HK HS d0 d1 d2 d3 f0
   refine wpAnyH_done kr1 ?_ _
   clear eH
   go_wp2_with fail
   go_end0
   unfold vM
   rw[HO.out]
   exact HE.out.1
end Go.Proofs.YtoidedomenkbpaaGreat
