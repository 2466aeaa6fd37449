/-
  .
-/
import Derived.Test.YtoidedomenkbpaaGreatWHandQs
set_option maxRecDepth 100000
set_option maxHeartbeats 40000000
namespace Go.Proofs.YtoidedomenkbpaaGreat
open Go.RowKit Go.Shelf
set_option linter.unusedVariables false
set_option linter.unusedSimpArgs false
def jD {σ:Type}(G:σ→Prop)(R:σ→World→Prop)(O:Nat→Prop)(o:Option (Int×σ))(X:World)(e:Ending)(X' :World):Prop:=match o with
 | some (m,s')=>e= .returned (.int .i64 m)∧(G s'→R s' X')∧za X X' O
 | none=>e= .panicked Zi∧za X X' O
theorem zav {σ:Type}{G:σ→Prop}{R:σ→World→Prop}{O:Nat→Prop}{num:σ→Int→Int→Int→Option (Int×σ)}{b:Nat}{T:TypeId}{v rv:Value}{fn:FuncId}(H:qm G R O num b T v rv fn)(s:σ)(X:World)(n:Int)(hR:R s X)(hXb:b<X.heap.size):
 Calls Tryz.prog 141 #[.agg #[.pointer (some ⟨b,0,none⟩),.iface T v],.int .i64 n,.bool true] X (jD G R O (num s n 1 8) X):=by
 obtain⟨B,hB⟩:∃B,B=X.alloc (.cells #[.pointer (some ⟨b,0,none⟩),.iface T v] 146):=⟨_,rfl⟩
 have hb:Below X.heap.size X B:=by rw[hB];exact (BrQ _ _).alloc (NlrQ _) _
 have eB:B.heap[X.heap.size]? =some (.cells #[.pointer (some ⟨b,0,none⟩),.iface T v] 146 (0,0)):=by rw[hB];exact hanQ _ _
 have k0:B.cell? ⟨X.heap.size,0,none⟩=some (.pointer (some ⟨b,0,none⟩)):=by rw[corQ _ _ 0 _ _ _ eB];rfl
 have k1:B.cell? ⟨X.heap.size,1,none⟩=some (.iface T v):=by rw[corQ _ _ 1 _ _ _ eB];rfl
 have hd:=H.does s B n 1 8 (H.keep s X B hR (fun q hq _=>hb.block q hq) hb.size)
 have hm:=H.jS
 have he:=H.enter
 have HB:=hH (aN hb hB)
 have HD:=hH hd
 clear hb hB eB hd hR H hXb
 go_enter Tryz.func141,Tryz.ntmps141
 go_upto_region 2 with fail
 change Code.wp _ _ _ _ (X.alloc (.cells #[.pointer (some ⟨b,0,none⟩),.iface T v] 146))
 rw[←HB.out.2]
 go_wp2_with fail
 refine HD.out.mono ?_
 intro e W' hq
 cases ho:num s n 1 8 with
 | none=>
   exact se2
 | some ms=>
   exact sd3
theorem Js {σ:Type}{G:σ→Prop}{R:σ→World→Prop}{O:Nat→Prop}{num:σ→Int→Int→Int→Option (Int×σ)}{b:Nat}{T:TypeId}{v rv:Value}{fn:FuncId}(H:qm G R O num b T v rv fn)(s:σ)(X:World)(n:Int)(hR:R s X)(hXb:b<X.heap.size):
 Calls Tryz.prog 141 #[.agg #[.pointer (some ⟨b,0,none⟩),.iface T v],.int .i64 n,.bool false] X (jD G R O (num s n 0 0) X):=by
 obtain⟨B,hB⟩:∃B,B=X.alloc (.cells #[.pointer (some ⟨b,0,none⟩),.iface T v] 146):=⟨_,rfl⟩
 have hb:Below X.heap.size X B:=by rw[hB];exact (BrQ _ _).alloc (NlrQ _) _
 have eB:B.heap[X.heap.size]? =some (.cells #[.pointer (some ⟨b,0,none⟩),.iface T v] 146 (0,0)):=by rw[hB];exact hanQ _ _
 have k0:B.cell? ⟨X.heap.size,0,none⟩=some (.pointer (some ⟨b,0,none⟩)):=by rw[corQ _ _ 0 _ _ _ eB];rfl
 have k1:B.cell? ⟨X.heap.size,1,none⟩=some (.iface T v):=by rw[corQ _ _ 1 _ _ _ eB];rfl
 have hd:=H.does s B n 0 0 (H.keep s X B hR (fun q hq _=>hb.block q hq) hb.size)
 have hm:=H.jS
 have he:=H.enter
 have HB:=hH (aN hb hB)
 have HD:=hH hd
 clear hb hB eB hd hR H hXb
 go_enter Tryz.func141,Tryz.ntmps141
 go_upto_region 3 with fail
 change Code.wp _ _ _ _ (X.alloc (.cells #[.pointer (some ⟨b,0,none⟩),.iface T v] 146))
 rw[←HB.out.2]
 go_wp2_with fail
 refine HD.out.mono ?_
 intro e W' hq
 cases ho:num s n 0 0 with
 | none=>
   exact se2
 | some ms=>
   exact sd3
theorem zdD {σ:Type}{G:σ→Prop}{R:σ→World→Prop}{O:Nat→Prop}{num:σ→Int→Int→Int→Option (Int×σ)}{b:Nat}{T:TypeId}{v rv:Value}{fn:FuncId}(H:qm G R O num b T v rv fn)(s:σ)(X:World)(cs:Array Value)(n kd:Int)(hR:R s X)(hX:X.heap[b]? =some (.cells cs 37 (0,0)))(hn:cs[4]? =some (.int .i64 n))(hk:cs[0]? =some (.int .i8 kd))(hc:decide (kd=2∨kd=5∨kd=9)=true):
 Calls Tryz.prog 143 #[.agg #[.pointer (some ⟨b,0,none⟩),.iface T v]] X (zJ G R O (num s n 0 1125899906842624) b cs 4 X):=by
 obtain⟨B,hB⟩:∃B,B=X.alloc (.cells #[.pointer (some ⟨b,0,none⟩),.iface T v] 146):=⟨_,rfl⟩
 have hb:Below X.heap.size X B:=by rw[hB];exact (BrQ _ _).alloc (NlrQ _) _
 have eB:B.heap[X.heap.size]? =some (.cells #[.pointer (some ⟨b,0,none⟩),.iface T v] 146 (0,0)):=by rw[hB];exact hanQ _ _
 have hXb:b<X.heap.size:=lohQ hX
 have hBX:=(hb.block _ hXb).trans hX
 have hRB:=H.keep s X B hR (fun q hq _=>hb.block q hq) hb.size
 obtain⟨SW,hSW⟩:∃SW:World→Prop,SW=fun Y=>Y.heap[X.heap.size]? =some (.cells #[.pointer (some ⟨b,0,none⟩),.iface T v] 146 (0,0)):=⟨_,rfl⟩
 have HP:=hH (fun (Y:World) (h:SW Y)=>(show Y.cell? ⟨X.heap.size,0,none⟩=some (.pointer (some ⟨b,0,none⟩))∧Y.cell? ⟨X.heap.size,1,none⟩=some (.iface T v) by
  rw[hSW] at h
  exact⟨by rw[corQ _ _ 0 _ _ _ h];rfl,by rw[corQ _ _ 1 _ _ _ h];rfl⟩))
 have hS0:SW B.drew:=by rw[hSW];exact eB
 have HSM:=hH (fun (Y:World) (h:Y.heap[X.heap.size]? =B.heap[X.heap.size]?)=>(show SW Y by rw[hSW];exact h.trans eB))
 have HB:=hH (aN hb (aN hB (aN hBX (aN hXb (show X.heap.size<B.heap.size from lohQ eB)))))
 have HH:=hH H
 have HR:=hH hRB
 have hcell:B.drew.cell? ⟨b,4,none⟩=some (.int .i64 n):=by show B.cell? _=_;rw[corQ _ _ 4 _ _ _ hBX];exact hn
 have hk0:B.cell? ⟨b,0,none⟩=some (.int .i8 kd):=by rw[corQ _ _ 0 _ _ _ hBX];exact hk
 have k0:B.cell? ⟨X.heap.size,0,none⟩=some (.pointer (some ⟨b,0,none⟩)):=by rw[corQ _ _ 0 _ _ _ eB];rfl
 have HCL:=hH (jy B kd)
 rw[hc] at HCL
 have HI:=hH (fun q (h:O q)=>H.inn s X q hR h)
 have HN:=hH hn
 have hm:=H.jS
 have he:=H.enter
 have HS00:=hH hS0
 clear hb hB eB hXb hBX hRB hSW hR hX hn H hS0 hk hc
 go_enter Tryz.func143,Tryz.ntmps143
 go_upto_region 1 with fail
 change Code.wp _ _ _ _ (X.alloc (.cells #[.pointer (some ⟨b,0,none⟩),.iface T v] 146))
 rw[←HB.out.2.1]
 go_wp2_with fail
 refine HCL.out.mono ?_
 rintro e W0 ⟨rfl,hw0⟩
 rw[hw0]
 clear hw0 k0 hk0
 go_upto_region 4 with fail
 refine wrhQ (S:=SW) kr1 HS00.out (fun eH=>?_)
 refine tJ (i:=0) (.pointer (some ⟨X.heap.size,0,none⟩)) rfl ?_ ?_
 · clear eH;intro Y hSw;clear hSw;go_simp
 simp only[Act.put,pg]
 refine tJ (i:=1) (.pointer (some ⟨b,0,none⟩)) rfl ?_ ?_
 · exact ua2
 simp only[Act.put,pg]
 refine tJ (i:=2) (.pointer (some ⟨X.heap.size,1,none⟩)) rfl ?_ ?_
 · clear eH;intro Y hSw;clear hSw;go_simp
 simp only[Act.put,pg]
 refine tJ (i:=3) (.iface T v) rfl ?_ ?_
 · exact ua2
 simp only[Act.put,pg]
 refine tJ (i:=4) (.pointer (some ⟨X.heap.size,0,none⟩)) rfl ?_ ?_
 · clear eH;intro Y hSw;clear hSw;go_simp
 simp only[Act.put,pg]
 refine tJ (i:=5) (.pointer (some ⟨b,0,none⟩)) rfl ?_ ?_
 · exact ua2
 simp only[Act.put,pg]
 refine tJ (i:=6) (.pointer (some ⟨b,0,none⟩)) rfl ?_ ?_
 · clear eH;intro Y hSw;clear hSw;go_simp
 simp only[Act.put,pg]
 refine tJ (i:=7) (.pointer (some ⟨b,4,none⟩)) rfl ?_ ?_
 · clear eH;intro Y hSw;clear hSw;go_simp
 simp only[Act.put,pg]
 refine tJ (i:=9) (.int .i64 0) rfl ?_ ?_
 · clear eH;intro Y hSw;clear hSw;go_simp
 simp only[Act.put,pg]
 refine tJ (i:=10) (.iface T v) rfl ?_ ?_
 · clear eH;intro Y hSw;clear hSw;go_simp
 simp only[Act.put,pg]
 refine tJ (i:=11) (.iface T v) rfl ?_ ?_
 · clear eH;intro Y hSw;clear hSw;go_simp
 simp only[Act.put,pg]
 have hH0:=eH
 refine rd1 [8] ?_
 refine AcQ (o:=_) rfl (fun K hK=>?_) AnQ
 rw[ipQ ue1]
 simp only[pg3]
 have HK:=hH hK
 have HS:=hH eH
 clear hK eH
 go_wp2_with fail
 refine HK.out _ _ hH0 (fun eH=>?_)
 clear HK HS hcell hH0
 refine rd1 [12] ?_
 refine AcQ (o:=_) rfl (fun K hK=>?_) AnQ
 rw[ipQ ue1]
 simp only[pg3]
 have HK:=hH hK
 have HS:=hH eH
 clear hK eH
 go_wp2_with fail
 refine (HH.out.does s B.drew n 0 1125899906842624 (HH.out.keep s B B.drew HR.out (fun _ _ _=>rfl) (NlrQ _))).mono ?_
 intro e W' hq
 cases ho:num s n 0 1125899906842624 with
 | none=>
   rw[ho] at hq
   obtain⟨rfl,ht⟩:=hq
   refine⟨rfl,?_⟩
   show zJ G R O none b cs 4 X _ _
   exact sa8
 | some ms=>
   obtain⟨m,s'⟩:=ms
   rw[ho] at hq
   obtain⟨rfl,hr,ht⟩:=hq
   have hbW:W'.heap[b]? =some (.cells cs 37 (0,0)):=(ht.block b (nL HB.out.2.2.2.1 HB.out.1.size) HH.out.apart).trans HB.out.2.2.1
   have hpW:W'.heap[X.heap.size]? =B.heap[X.heap.size]?:=ht.block _ HB.out.2.2.2.2 (fun h=>by have:=HI.out _ h;omega)
   have c0:W'.cell? ⟨b,4,none⟩=some (.int .i64 n):=by rw[corQ _ _ 4 _ _ _ hbW];exact HN.out
   have cf:∀j,W'.frozen? ⟨b,j,none⟩=false:=fun j=>forQ _ _ j _ _ hbW
   have HW:=hH (aN hbW (aN hpW (aN hr ht)))
   obtain⟨Z,hZ⟩:∃Z,Z=W'.setCell ⟨b,4,none⟩ (.int .i64 m):=⟨_,rfl⟩
   have hZs:za W' Z (fun q=>q=b):=by rw[hZ];exact zu
   have hZb:Z.heap[b]? =some (.cells (cs.setIfInBounds 4 (.int .i64 m)) 37 (0,0)):=by rw[hZ];exact hssQ _ _ _ _ _ _ hbW
   have hE:zJ G R O (some (m,s')) b cs 4 X (.returned (.tuple #[])) Z:=by
    exact sa3
   have HE:=hH (aN hE (aN hZ (show Z.heap[X.heap.size]? =B.heap[X.heap.size]? from (hZs.block _ (nL HB.out.2.2.2.2 ht.size) uc5).trans hpW)))
   clear hbW hpW hr ht hZ hZs hZb hE
   go_wp2_with fail
   refine HK.out _ _ (HSM.out _ HW.out.2.1) (fun eH=>?_)
   clear HK HS
   refine tJ (i:=13) (.pointer (some ⟨b,0,none⟩)) rfl ?_ ?_
   · clear eH;intro Y hSw;clear hSw;go_simp
   simp only[Act.put,pg]
   refine tJ (i:=14) (.pointer (some ⟨b,4,none⟩)) rfl ?_ ?_
   · clear eH;intro Y hSw;clear hSw;go_simp
   simp only[Act.put,pg]
   refine rd1 [15] ?_
   exact sa6
theorem zcm {σ:Type}{G:σ→Prop}{R:σ→World→Prop}{O:Nat→Prop}{num:σ→Int→Int→Int→Option (Int×σ)}{b:Nat}{T:TypeId}{v rv:Value}{fn:FuncId}(H:qm G R O num b T v rv fn)(s:σ)(X:World)(cs:Array Value)(n kd:Int)(hR:R s X)(hX:X.heap[b]? =some (.cells cs 37 (0,0)))(hn:cs[4]? =some (.int .i64 n))(hk:cs[0]? =some (.int .i8 kd))(hc:decide (kd=2∨kd=5∨kd=9)=false):
 Calls Tryz.prog 143 #[.agg #[.pointer (some ⟨b,0,none⟩),.iface T v]] X (zJ G R O (num s n 1 1125899906842624) b cs 4 X):=by
 obtain⟨B,hB⟩:∃B,B=X.alloc (.cells #[.pointer (some ⟨b,0,none⟩),.iface T v] 146):=⟨_,rfl⟩
 have hb:Below X.heap.size X B:=by rw[hB];exact (BrQ _ _).alloc (NlrQ _) _
 have eB:B.heap[X.heap.size]? =some (.cells #[.pointer (some ⟨b,0,none⟩),.iface T v] 146 (0,0)):=by rw[hB];exact hanQ _ _
 have hXb:b<X.heap.size:=lohQ hX
 have hBX:=(hb.block _ hXb).trans hX
 have hRB:=H.keep s X B hR (fun q hq _=>hb.block q hq) hb.size
 obtain⟨SW,hSW⟩:∃SW:World→Prop,SW=fun Y=>Y.heap[X.heap.size]? =some (.cells #[.pointer (some ⟨b,0,none⟩),.iface T v] 146 (0,0)):=⟨_,rfl⟩
 have HP:=hH (fun (Y:World) (h:SW Y)=>(show Y.cell? ⟨X.heap.size,0,none⟩=some (.pointer (some ⟨b,0,none⟩))∧Y.cell? ⟨X.heap.size,1,none⟩=some (.iface T v) by
  rw[hSW] at h
  exact⟨by rw[corQ _ _ 0 _ _ _ h];rfl,by rw[corQ _ _ 1 _ _ _ h];rfl⟩))
 have hS0:SW B.drew:=by rw[hSW];exact eB
 have HSM:=hH (fun (Y:World) (h:Y.heap[X.heap.size]? =B.heap[X.heap.size]?)=>(show SW Y by rw[hSW];exact h.trans eB))
 have HB:=hH (aN hb (aN hB (aN hBX (aN hXb (show X.heap.size<B.heap.size from lohQ eB)))))
 have HH:=hH H
 have HR:=hH hRB
 have hcell:B.drew.cell? ⟨b,4,none⟩=some (.int .i64 n):=by show B.cell? _=_;rw[corQ _ _ 4 _ _ _ hBX];exact hn
 have hk0:B.cell? ⟨b,0,none⟩=some (.int .i8 kd):=by rw[corQ _ _ 0 _ _ _ hBX];exact hk
 have k0:B.cell? ⟨X.heap.size,0,none⟩=some (.pointer (some ⟨b,0,none⟩)):=by rw[corQ _ _ 0 _ _ _ eB];rfl
 have HCL:=hH (jy B kd)
 rw[hc] at HCL
 have HI:=hH (fun q (h:O q)=>H.inn s X q hR h)
 have HN:=hH hn
 have hm:=H.jS
 have he:=H.enter
 have HS00:=hH hS0
 clear hb hB eB hXb hBX hRB hSW hR hX hn H hS0 hk hc
 go_enter Tryz.func143,Tryz.ntmps143
 go_upto_region 1 with fail
 change Code.wp _ _ _ _ (X.alloc (.cells #[.pointer (some ⟨b,0,none⟩),.iface T v] 146))
 rw[←HB.out.2.1]
 go_wp2_with fail
 refine HCL.out.mono ?_
 rintro e W0 ⟨rfl,hw0⟩
 rw[hw0]
 clear hw0 k0 hk0
 go_upto_region 4 with fail
 refine wrhQ (S:=SW) kr1 HS00.out (fun eH=>?_)
 refine tJ (i:=0) (.pointer (some ⟨X.heap.size,0,none⟩)) rfl ?_ ?_
 · clear eH;intro Y hSw;clear hSw;go_simp
 simp only[Act.put,pg]
 refine tJ (i:=1) (.pointer (some ⟨b,0,none⟩)) rfl ?_ ?_
 · exact ua2
 simp only[Act.put,pg]
 refine tJ (i:=2) (.pointer (some ⟨X.heap.size,1,none⟩)) rfl ?_ ?_
 · clear eH;intro Y hSw;clear hSw;go_simp
 simp only[Act.put,pg]
 refine tJ (i:=3) (.iface T v) rfl ?_ ?_
 · exact ua2
 simp only[Act.put,pg]
 refine tJ (i:=4) (.pointer (some ⟨X.heap.size,0,none⟩)) rfl ?_ ?_
 · clear eH;intro Y hSw;clear hSw;go_simp
 simp only[Act.put,pg]
 refine tJ (i:=5) (.pointer (some ⟨b,0,none⟩)) rfl ?_ ?_
 · exact ua2
 simp only[Act.put,pg]
 refine tJ (i:=6) (.pointer (some ⟨b,0,none⟩)) rfl ?_ ?_
 · clear eH;intro Y hSw;clear hSw;go_simp
 simp only[Act.put,pg]
 refine tJ (i:=7) (.pointer (some ⟨b,4,none⟩)) rfl ?_ ?_
 · clear eH;intro Y hSw;clear hSw;go_simp
 simp only[Act.put,pg]
 refine tJ (i:=9) (.int .i64 1) rfl ?_ ?_
 · clear eH;intro Y hSw;clear hSw;go_simp
 simp only[Act.put,pg]
 refine tJ (i:=10) (.iface T v) rfl ?_ ?_
 · clear eH;intro Y hSw;clear hSw;go_simp
 simp only[Act.put,pg]
 refine tJ (i:=11) (.iface T v) rfl ?_ ?_
 · clear eH;intro Y hSw;clear hSw;go_simp
 simp only[Act.put,pg]
 have hH0:=eH
 refine rd1 [8] ?_
 refine AcQ (o:=_) rfl (fun K hK=>?_) AnQ
 rw[ipQ ue1]
 simp only[pg3]
 have HK:=hH hK
 have HS:=hH eH
 clear hK eH
 go_wp2_with fail
 refine HK.out _ _ hH0 (fun eH=>?_)
 clear HK HS hcell hH0
 refine rd1 [12] ?_
 refine AcQ (o:=_) rfl (fun K hK=>?_) AnQ
 rw[ipQ ue1]
 simp only[pg3]
 have HK:=hH hK
 have HS:=hH eH
 clear hK eH
 go_wp2_with fail
 refine (HH.out.does s B.drew n 1 1125899906842624 (HH.out.keep s B B.drew HR.out (fun _ _ _=>rfl) (NlrQ _))).mono ?_
 intro e W' hq
 cases ho:num s n 1 1125899906842624 with
 | none=>
   rw[ho] at hq
   obtain⟨rfl,ht⟩:=hq
   refine⟨rfl,?_⟩
   show zJ G R O none b cs 4 X _ _
   exact sa8
 | some ms=>
   obtain⟨m,s'⟩:=ms
   rw[ho] at hq
   obtain⟨rfl,hr,ht⟩:=hq
   have hbW:W'.heap[b]? =some (.cells cs 37 (0,0)):=(ht.block b (nL HB.out.2.2.2.1 HB.out.1.size) HH.out.apart).trans HB.out.2.2.1
   have hpW:W'.heap[X.heap.size]? =B.heap[X.heap.size]?:=ht.block _ HB.out.2.2.2.2 (fun h=>by have:=HI.out _ h;omega)
   have c0:W'.cell? ⟨b,4,none⟩=some (.int .i64 n):=by rw[corQ _ _ 4 _ _ _ hbW];exact HN.out
   have cf:∀j,W'.frozen? ⟨b,j,none⟩=false:=fun j=>forQ _ _ j _ _ hbW
   have HW:=hH (aN hbW (aN hpW (aN hr ht)))
   obtain⟨Z,hZ⟩:∃Z,Z=W'.setCell ⟨b,4,none⟩ (.int .i64 m):=⟨_,rfl⟩
   have hZs:za W' Z (fun q=>q=b):=by rw[hZ];exact zu
   have hZb:Z.heap[b]? =some (.cells (cs.setIfInBounds 4 (.int .i64 m)) 37 (0,0)):=by rw[hZ];exact hssQ _ _ _ _ _ _ hbW
   have hE:zJ G R O (some (m,s')) b cs 4 X (.returned (.tuple #[])) Z:=by
    exact sa3
   have HE:=hH (aN hE (aN hZ (show Z.heap[X.heap.size]? =B.heap[X.heap.size]? from (hZs.block _ (nL HB.out.2.2.2.2 ht.size) uc5).trans hpW)))
   clear hbW hpW hr ht hZ hZs hZb hE
   go_wp2_with fail
   refine HK.out _ _ (HSM.out _ HW.out.2.1) (fun eH=>?_)
   clear HK HS
   refine tJ (i:=13) (.pointer (some ⟨b,0,none⟩)) rfl ?_ ?_
   · clear eH;intro Y hSw;clear hSw;go_simp
   simp only[Act.put,pg]
   refine tJ (i:=14) (.pointer (some ⟨b,4,none⟩)) rfl ?_ ?_
   · clear eH;intro Y hSw;clear hSw;go_simp
   simp only[Act.put,pg]
   refine rd1 [15] ?_
   exact sa6
theorem zfU {σ:Type}{G:σ→Prop}{R:σ→World→Prop}{O:Nat→Prop}{num:σ→Int→Int→Int→Option (Int×σ)}{b:Nat}{T:TypeId}{v rv:Value}{fn:FuncId}(H:qm G R O num b T v rv fn)(s:σ)(X:World)(cs:Array Value)(n kd:Int)(hR:R s X)(hX:X.heap[b]? =some (.cells cs 37 (0,0)))(hn:cs[1]? =some (.int .i64 n))(hk:cs[0]? =some (.int .i8 kd))(hc:decide (kd=2∨kd=5∨kd=9)=true):
 Calls Tryz.prog 105 #[.agg #[.pointer (some ⟨b,0,none⟩),.iface T v]] X (zJ G R O (num s n 1 8) b cs 1 X):=by
 obtain⟨B,hB⟩:∃B,B=X.alloc (.cells #[.pointer (some ⟨b,0,none⟩),.iface T v] 146):=⟨_,rfl⟩
 have hb:Below X.heap.size X B:=by rw[hB];exact (BrQ _ _).alloc (NlrQ _) _
 have eB:B.heap[X.heap.size]? =some (.cells #[.pointer (some ⟨b,0,none⟩),.iface T v] 146 (0,0)):=by rw[hB];exact hanQ _ _
 have hXb:b<X.heap.size:=lohQ hX
 have hBX:=(hb.block _ hXb).trans hX
 have hRB:=H.keep s X B hR (fun q hq _=>hb.block q hq) hb.size
 obtain⟨SW,hSW⟩:∃SW:World→Prop,SW=fun Y=>Y.heap[X.heap.size]? =some (.cells #[.pointer (some ⟨b,0,none⟩),.iface T v] 146 (0,0)):=⟨_,rfl⟩
 have HP:=hH (fun (Y:World) (h:SW Y)=>(show Y.cell? ⟨X.heap.size,0,none⟩=some (.pointer (some ⟨b,0,none⟩))∧Y.cell? ⟨X.heap.size,1,none⟩=some (.iface T v) by
  rw[hSW] at h
  exact⟨by rw[corQ _ _ 0 _ _ _ h];rfl,by rw[corQ _ _ 1 _ _ _ h];rfl⟩))
 have hS0:SW B.drew:=by rw[hSW];exact eB
 have HSM:=hH (fun (Y:World) (h:Y.heap[X.heap.size]? =B.heap[X.heap.size]?)=>(show SW Y by rw[hSW];exact h.trans eB))
 have HB:=hH (aN hb (aN hB (aN hBX (aN hXb (show X.heap.size<B.heap.size from lohQ eB)))))
 have HH:=hH H
 have HR:=hH hRB
 have hcell:B.drew.cell? ⟨b,1,none⟩=some (.int .i64 n):=by show B.cell? _=_;rw[corQ _ _ 1 _ _ _ hBX];exact hn
 have hk0:B.drew.cell? ⟨b,0,none⟩=some (.int .i8 kd):=by show B.cell? _=_;rw[corQ _ _ 0 _ _ _ hBX];exact hk
 have HCL:=hH (jy B.drew kd)
 rw[hc] at HCL
 have HPA:=hH (zav H s B.drew n (H.keep s B B.drew hRB (fun _ _ _=>rfl) (NlrQ _)) (nL hXb hb.size))
 have HI:=hH (fun q (h:O q)=>H.inn s X q hR h)
 have HN:=hH hn
 clear hb hB eB hXb hBX hRB hSW hR hX hn H hk hc
 go_enter Tryz.func105,Tryz.ntmps105
 go_upto_region 1 with fail
 change Code.wp _ _ _ _ (X.alloc (.cells #[.pointer (some ⟨b,0,none⟩),.iface T v] 146))
 rw[←HB.out.2.1]
 refine wrhQ (S:=SW) kr1 hS0 (fun eH=>?_)
 clear hS0
 refine tJ (i:=0) (.pointer (some ⟨X.heap.size,0,none⟩)) rfl ?_ ?_
 · clear eH;intro Y hSw;clear hSw;go_simp
 simp only[Act.put,pg]
 refine tJ (i:=1) (.pointer (some ⟨b,0,none⟩)) rfl ?_ ?_
 · exact ua2
 simp only[Act.put,pg]
 refine tJ (i:=2) (.agg #[.pointer (some ⟨b,0,none⟩),.iface T v]) rfl ?_ ?_
 · exact ua2
 simp only[Act.put,pg]
 refine tJ (i:=3) (.pointer (some ⟨X.heap.size,0,none⟩)) rfl ?_ ?_
 · clear eH;intro Y hSw;clear hSw;go_simp
 simp only[Act.put,pg]
 refine tJ (i:=4) (.pointer (some ⟨b,0,none⟩)) rfl ?_ ?_
 · exact ua2
 simp only[Act.put,pg]
 refine tJ (i:=5) (.pointer (some ⟨b,0,none⟩)) rfl ?_ ?_
 · clear eH;intro Y hSw;clear hSw;go_simp
 simp only[Act.put,pg]
 refine tJ (i:=6) (.pointer (some ⟨b,1,none⟩)) rfl ?_ ?_
 · clear eH;intro Y hSw;clear hSw;go_simp
 simp only[Act.put,pg]
 refine tJ (i:=8) (.pointer (some ⟨X.heap.size,0,none⟩)) rfl ?_ ?_
 · clear eH;intro Y hSw;clear hSw;go_simp
 simp only[Act.put,pg]
 refine tJ (i:=9) (.pointer (some ⟨b,0,none⟩)) rfl ?_ ?_
 · exact ua2
 simp only[Act.put,pg]
 refine tJ (i:=10) (.pointer (some ⟨b,0,none⟩)) rfl ?_ ?_
 · clear eH;intro Y hSw;clear hSw;go_simp
 simp only[Act.put,pg]
 refine tJ (i:=11) (.pointer (some ⟨b,0,none⟩)) rfl ?_ ?_
 · clear eH;intro Y hSw;clear hSw;go_simp
 simp only[Act.put,pg]
 have hH0:=eH
 refine rd1 [7,12] ?_
 refine AcQ (o:=_) rfl (fun K hK=>?_) (AcQ (o:=_) rfl (fun K hK=>?_) AnQ)
 · rw [ipQ ue1]
   simp only[pg3]
   have HK:=hH hK
   have HS:=hH eH
   clear hK eH
   go_wp2_with fail
   refine HK.out _ _ hH0 (fun eH=>?_)
   clear HK HS
   refine rd1 [12] ?_
   refine AcQ (o:=_) rfl (fun K hK=>?_) AnQ
   rw[ipQ ue1]
   simp only[pg3]
   have HK:=hH hK
   have HS:=hH eH
   clear hK eH
   go_wp2_with fail
   refine HK.out _ _ hH0 (fun eH=>?_)
   clear HK HS
   clear hcell hk0
   refine rd1 [13] ?_
   refine AcQ (o:=_) rfl (fun K hK=>?_) AnQ
   rw[ipQ ue1]
   simp only[pg3]
   have HK:=hH hK
   have HS:=hH eH
   clear hK eH
   go_wp2_with fail
   refine HCL.out.mono ?_
   rintro e W0 ⟨rfl,hw0⟩
   rw[hw0]
   clear hw0
   go_wp2_with fail
   refine HK.out _ _ hH0 (fun eH=>?_)
   clear HK HS
   refine rd1 [14] ?_
   refine AcQ (o:=_) rfl (fun K hK=>?_) AnQ
   rw[ipQ ue1]
   simp only[pg3]
   have HK:=hH hK
   have HS:=hH eH
   clear hK eH
   go_wp2_with fail
   refine HPA.out.mono ?_
   intro e W' hq
   unfold jD at hq
   cases ho:num s n 1 8 with
   | none=>
     rw[ho] at hq
     obtain⟨rfl,ht⟩:=hq
     refine⟨rfl,?_⟩
     show zJ G R O none b cs 1 X _ _
     exact sa8
   | some ms=>
     exact sa1
 · rw [ipQ ue1]
   simp only[pg3]
   have HK:=hH hK
   have HS:=hH eH
   clear hK eH
   go_wp2_with fail
   refine HK.out _ _ hH0 (fun eH=>?_)
   clear HK HS
   have hH1:=eH
   refine rd1 [7,13] ?_
   refine AcQ (o:=_) rfl (fun K hK=>?_) (AcQ (o:=_) rfl (fun K hK=>?_) AnQ)
   · rw [ipQ ue1]
     simp only[pg3]
     have HK:=hH hK
     have HS:=hH eH
     clear hK eH
     go_wp2_with fail
     refine HK.out _ _ hH0 (fun eH=>?_)
     clear HK HS
     clear hcell hk0
     refine rd1 [13] ?_
     refine AcQ (o:=_) rfl (fun K hK=>?_) AnQ
     rw[ipQ ue1]
     simp only[pg3]
     have HK:=hH hK
     have HS:=hH eH
     clear hK eH
     go_wp2_with fail
     refine HCL.out.mono ?_
     rintro e W0 ⟨rfl,hw0⟩
     rw[hw0]
     clear hw0
     go_wp2_with fail
     refine HK.out _ _ hH0 (fun eH=>?_)
     clear HK HS
     refine rd1 [14] ?_
     refine AcQ (o:=_) rfl (fun K hK=>?_) AnQ
     rw[ipQ ue1]
     simp only[pg3]
     have HK:=hH hK
     have HS:=hH eH
     clear hK eH
     go_wp2_with fail
     refine HPA.out.mono ?_
     intro e W' hq
     unfold jD at hq
     cases ho:num s n 1 8 with
     | none=>
       rw[ho] at hq
       obtain⟨rfl,ht⟩:=hq
       refine⟨rfl,?_⟩
       show zJ G R O none b cs 1 X _ _
       exact sa8
     | some ms=>
       exact sa1
   · rw [ipQ ue1]
     simp only[pg3]
     have HK:=hH hK
     have HS:=hH eH
     clear hK eH
     go_wp2_with fail
     refine HCL.out.mono ?_
     rintro e W0 ⟨rfl,hw0⟩
     rw[hw0]
     clear hw0
     go_wp2_with fail
     refine HK.out _ _ hH0 (fun eH=>?_)
     clear HK HS
     refine rd1 [7] ?_
     refine AcQ (o:=_) rfl (fun K hK=>?_) AnQ
     rw[ipQ ue1]
     simp only[pg3]
     have HK:=hH hK
     have HS:=hH eH
     clear hK eH
     go_wp2_with fail
     refine HK.out _ _ hH0 (fun eH=>?_)
     clear HK HS hcell hk0
     refine rd1 [14] ?_
     refine AcQ (o:=_) rfl (fun K hK=>?_) AnQ
     rw[ipQ ue1]
     simp only[pg3]
     have HK:=hH hK
     have HS:=hH eH
     clear hK eH
     go_wp2_with fail
     refine HPA.out.mono ?_
     intro e W' hq
     unfold jD at hq
     cases ho:num s n 1 8 with
     | none=>
       rw[ho] at hq
       obtain⟨rfl,ht⟩:=hq
       refine⟨rfl,?_⟩
       show zJ G R O none b cs 1 X _ _
       exact sa8
     | some ms=>
       exact sa1
theorem zel {σ:Type}{G:σ→Prop}{R:σ→World→Prop}{O:Nat→Prop}{num:σ→Int→Int→Int→Option (Int×σ)}{b:Nat}{T:TypeId}{v rv:Value}{fn:FuncId}(H:qm G R O num b T v rv fn)(s:σ)(X:World)(cs:Array Value)(n kd:Int)(hR:R s X)(hX:X.heap[b]? =some (.cells cs 37 (0,0)))(hn:cs[1]? =some (.int .i64 n))(hk:cs[0]? =some (.int .i8 kd))(hc:decide (kd=2∨kd=5∨kd=9)=false):
 Calls Tryz.prog 105 #[.agg #[.pointer (some ⟨b,0,none⟩),.iface T v]] X (zJ G R O (num s n 0 0) b cs 1 X):=by
 obtain⟨B,hB⟩:∃B,B=X.alloc (.cells #[.pointer (some ⟨b,0,none⟩),.iface T v] 146):=⟨_,rfl⟩
 have hb:Below X.heap.size X B:=by rw[hB];exact (BrQ _ _).alloc (NlrQ _) _
 have eB:B.heap[X.heap.size]? =some (.cells #[.pointer (some ⟨b,0,none⟩),.iface T v] 146 (0,0)):=by rw[hB];exact hanQ _ _
 have hXb:b<X.heap.size:=lohQ hX
 have hBX:=(hb.block _ hXb).trans hX
 have hRB:=H.keep s X B hR (fun q hq _=>hb.block q hq) hb.size
 obtain⟨SW,hSW⟩:∃SW:World→Prop,SW=fun Y=>Y.heap[X.heap.size]? =some (.cells #[.pointer (some ⟨b,0,none⟩),.iface T v] 146 (0,0)):=⟨_,rfl⟩
 have HP:=hH (fun (Y:World) (h:SW Y)=>(show Y.cell? ⟨X.heap.size,0,none⟩=some (.pointer (some ⟨b,0,none⟩))∧Y.cell? ⟨X.heap.size,1,none⟩=some (.iface T v) by
  rw[hSW] at h
  exact⟨by rw[corQ _ _ 0 _ _ _ h];rfl,by rw[corQ _ _ 1 _ _ _ h];rfl⟩))
 have hS0:SW B.drew:=by rw[hSW];exact eB
 have HSM:=hH (fun (Y:World) (h:Y.heap[X.heap.size]? =B.heap[X.heap.size]?)=>(show SW Y by rw[hSW];exact h.trans eB))
 have HB:=hH (aN hb (aN hB (aN hBX (aN hXb (show X.heap.size<B.heap.size from lohQ eB)))))
 have HH:=hH H
 have HR:=hH hRB
 have hcell:B.drew.cell? ⟨b,1,none⟩=some (.int .i64 n):=by show B.cell? _=_;rw[corQ _ _ 1 _ _ _ hBX];exact hn
 have hk0:B.drew.cell? ⟨b,0,none⟩=some (.int .i8 kd):=by show B.cell? _=_;rw[corQ _ _ 0 _ _ _ hBX];exact hk
 have HCL:=hH (jy B.drew kd)
 rw[hc] at HCL
 have HPA:=hH (Js H s B.drew n (H.keep s B B.drew hRB (fun _ _ _=>rfl) (NlrQ _)) (nL hXb hb.size))
 have HI:=hH (fun q (h:O q)=>H.inn s X q hR h)
 have HN:=hH hn
 clear hb hB eB hXb hBX hRB hSW hR hX hn H hk hc
 go_enter Tryz.func105,Tryz.ntmps105
 go_upto_region 1 with fail
 change Code.wp _ _ _ _ (X.alloc (.cells #[.pointer (some ⟨b,0,none⟩),.iface T v] 146))
 rw[←HB.out.2.1]
 refine wrhQ (S:=SW) kr1 hS0 (fun eH=>?_)
 clear hS0
 refine tJ (i:=0) (.pointer (some ⟨X.heap.size,0,none⟩)) rfl ?_ ?_
 · clear eH;intro Y hSw;clear hSw;go_simp
 simp only[Act.put,pg]
 refine tJ (i:=1) (.pointer (some ⟨b,0,none⟩)) rfl ?_ ?_
 · exact ua2
 simp only[Act.put,pg]
 refine tJ (i:=2) (.agg #[.pointer (some ⟨b,0,none⟩),.iface T v]) rfl ?_ ?_
 · exact ua2
 simp only[Act.put,pg]
 refine tJ (i:=3) (.pointer (some ⟨X.heap.size,0,none⟩)) rfl ?_ ?_
 · clear eH;intro Y hSw;clear hSw;go_simp
 simp only[Act.put,pg]
 refine tJ (i:=4) (.pointer (some ⟨b,0,none⟩)) rfl ?_ ?_
 · exact ua2
 simp only[Act.put,pg]
 refine tJ (i:=5) (.pointer (some ⟨b,0,none⟩)) rfl ?_ ?_
 · clear eH;intro Y hSw;clear hSw;go_simp
 simp only[Act.put,pg]
 refine tJ (i:=6) (.pointer (some ⟨b,1,none⟩)) rfl ?_ ?_
 · clear eH;intro Y hSw;clear hSw;go_simp
 simp only[Act.put,pg]
 refine tJ (i:=8) (.pointer (some ⟨X.heap.size,0,none⟩)) rfl ?_ ?_
 · clear eH;intro Y hSw;clear hSw;go_simp
 simp only[Act.put,pg]
 refine tJ (i:=9) (.pointer (some ⟨b,0,none⟩)) rfl ?_ ?_
 · exact ua2
 simp only[Act.put,pg]
 refine tJ (i:=10) (.pointer (some ⟨b,0,none⟩)) rfl ?_ ?_
 · clear eH;intro Y hSw;clear hSw;go_simp
 simp only[Act.put,pg]
 refine tJ (i:=11) (.pointer (some ⟨b,0,none⟩)) rfl ?_ ?_
 · clear eH;intro Y hSw;clear hSw;go_simp
 simp only[Act.put,pg]
 have hH0:=eH
 refine rd1 [7,12] ?_
 refine AcQ (o:=_) rfl (fun K hK=>?_) (AcQ (o:=_) rfl (fun K hK=>?_) AnQ)
 · rw [ipQ ue1]
   simp only[pg3]
   have HK:=hH hK
   have HS:=hH eH
   clear hK eH
   go_wp2_with fail
   refine HK.out _ _ hH0 (fun eH=>?_)
   clear HK HS
   refine rd1 [12] ?_
   refine AcQ (o:=_) rfl (fun K hK=>?_) AnQ
   rw[ipQ ue1]
   simp only[pg3]
   have HK:=hH hK
   have HS:=hH eH
   clear hK eH
   go_wp2_with fail
   refine HK.out _ _ hH0 (fun eH=>?_)
   clear HK HS
   clear hcell hk0
   refine rd1 [13] ?_
   refine AcQ (o:=_) rfl (fun K hK=>?_) AnQ
   rw[ipQ ue1]
   simp only[pg3]
   have HK:=hH hK
   have HS:=hH eH
   clear hK eH
   go_wp2_with fail
   refine HCL.out.mono ?_
   rintro e W0 ⟨rfl,hw0⟩
   rw[hw0]
   clear hw0
   go_wp2_with fail
   refine HK.out _ _ hH0 (fun eH=>?_)
   clear HK HS
   refine rd1 [14] ?_
   refine AcQ (o:=_) rfl (fun K hK=>?_) AnQ
   rw[ipQ ue1]
   simp only[pg3]
   have HK:=hH hK
   have HS:=hH eH
   clear hK eH
   go_wp2_with fail
   refine HPA.out.mono ?_
   intro e W' hq
   unfold jD at hq
   cases ho:num s n 0 0 with
   | none=>
     rw[ho] at hq
     obtain⟨rfl,ht⟩:=hq
     refine⟨rfl,?_⟩
     show zJ G R O none b cs 1 X _ _
     exact sa8
   | some ms=>
     exact sa1
 · rw [ipQ ue1]
   simp only[pg3]
   have HK:=hH hK
   have HS:=hH eH
   clear hK eH
   go_wp2_with fail
   refine HK.out _ _ hH0 (fun eH=>?_)
   clear HK HS
   have hH1:=eH
   refine rd1 [7,13] ?_
   refine AcQ (o:=_) rfl (fun K hK=>?_) (AcQ (o:=_) rfl (fun K hK=>?_) AnQ)
   · rw [ipQ ue1]
     simp only[pg3]
     have HK:=hH hK
     have HS:=hH eH
     clear hK eH
     go_wp2_with fail
     refine HK.out _ _ hH0 (fun eH=>?_)
     clear HK HS
     clear hcell hk0
     refine rd1 [13] ?_
     refine AcQ (o:=_) rfl (fun K hK=>?_) AnQ
     rw[ipQ ue1]
     simp only[pg3]
     have HK:=hH hK
     have HS:=hH eH
     clear hK eH
     go_wp2_with fail
     refine HCL.out.mono ?_
     rintro e W0 ⟨rfl,hw0⟩
     rw[hw0]
     clear hw0
     go_wp2_with fail
     refine HK.out _ _ hH0 (fun eH=>?_)
     clear HK HS
     refine rd1 [14] ?_
     refine AcQ (o:=_) rfl (fun K hK=>?_) AnQ
     rw[ipQ ue1]
     simp only[pg3]
     have HK:=hH hK
     have HS:=hH eH
     clear hK eH
     go_wp2_with fail
     refine HPA.out.mono ?_
     intro e W' hq
     unfold jD at hq
     cases ho:num s n 0 0 with
     | none=>
       rw[ho] at hq
       obtain⟨rfl,ht⟩:=hq
       refine⟨rfl,?_⟩
       show zJ G R O none b cs 1 X _ _
       exact sa8
     | some ms=>
       exact sa1
   · rw [ipQ ue1]
     simp only[pg3]
     have HK:=hH hK
     have HS:=hH eH
     clear hK eH
     go_wp2_with fail
     refine HCL.out.mono ?_
     rintro e W0 ⟨rfl,hw0⟩
     rw[hw0]
     clear hw0
     go_wp2_with fail
     refine HK.out _ _ hH0 (fun eH=>?_)
     clear HK HS
     refine rd1 [7] ?_
     refine AcQ (o:=_) rfl (fun K hK=>?_) AnQ
     rw[ipQ ue1]
     simp only[pg3]
     have HK:=hH hK
     have HS:=hH eH
     clear hK eH
     go_wp2_with fail
     refine HK.out _ _ hH0 (fun eH=>?_)
     clear HK HS hcell hk0
     refine rd1 [14] ?_
     refine AcQ (o:=_) rfl (fun K hK=>?_) AnQ
     rw[ipQ ue1]
     simp only[pg3]
     have HK:=hH hK
     have HS:=hH eH
     clear hK eH
     go_wp2_with fail
     refine HPA.out.mono ?_
     intro e W' hq
     unfold jD at hq
     cases ho:num s n 0 0 with
     | none=>
       rw[ho] at hq
       obtain⟨rfl,ht⟩:=hq
       refine⟨rfl,?_⟩
       show zJ G R O none b cs 1 X _ _
       exact sa8
     | some ms=>
       exact sa1
theorem ziM {σ:Type}{G:σ→Prop}{R:σ→World→Prop}{O:Nat→Prop}{num:σ→Int→Int→Int→Option (Int×σ)}{b:Nat}{T:TypeId}{v rv:Value}{fn:FuncId}(H:qm G R O num b T v rv fn)(s:σ)(X:World)(cs:Array Value)(n kd:Int)(hR:R s X)(hX:X.heap[b]? =some (.cells cs 37 (0,0)))(hn:cs[2]? =some (.int .i64 n))(hk:cs[0]? =some (.int .i8 kd))(hc:decide (kd=2∨kd=5∨kd=9)=true):
 Calls Tryz.prog 106 #[.agg #[.pointer (some ⟨b,0,none⟩),.iface T v]] X (zJ G R O (num s n 0 0) b cs 2 X):=by
 obtain⟨B,hB⟩:∃B,B=X.alloc (.cells #[.pointer (some ⟨b,0,none⟩),.iface T v] 146):=⟨_,rfl⟩
 have hb:Below X.heap.size X B:=by rw[hB];exact (BrQ _ _).alloc (NlrQ _) _
 have eB:B.heap[X.heap.size]? =some (.cells #[.pointer (some ⟨b,0,none⟩),.iface T v] 146 (0,0)):=by rw[hB];exact hanQ _ _
 have hXb:b<X.heap.size:=lohQ hX
 have hBX:=(hb.block _ hXb).trans hX
 have hRB:=H.keep s X B hR (fun q hq _=>hb.block q hq) hb.size
 obtain⟨SW,hSW⟩:∃SW:World→Prop,SW=fun Y=>Y.heap[X.heap.size]? =some (.cells #[.pointer (some ⟨b,0,none⟩),.iface T v] 146 (0,0)):=⟨_,rfl⟩
 have HP:=hH (fun (Y:World) (h:SW Y)=>(show Y.cell? ⟨X.heap.size,0,none⟩=some (.pointer (some ⟨b,0,none⟩))∧Y.cell? ⟨X.heap.size,1,none⟩=some (.iface T v) by
  rw[hSW] at h
  exact⟨by rw[corQ _ _ 0 _ _ _ h];rfl,by rw[corQ _ _ 1 _ _ _ h];rfl⟩))
 have hS0:SW B.drew:=by rw[hSW];exact eB
 have HSM:=hH (fun (Y:World) (h:Y.heap[X.heap.size]? =B.heap[X.heap.size]?)=>(show SW Y by rw[hSW];exact h.trans eB))
 have HB:=hH (aN hb (aN hB (aN hBX (aN hXb (show X.heap.size<B.heap.size from lohQ eB)))))
 have HH:=hH H
 have HR:=hH hRB
 have hcell:B.drew.cell? ⟨b,2,none⟩=some (.int .i64 n):=by show B.cell? _=_;rw[corQ _ _ 2 _ _ _ hBX];exact hn
 have hk0:B.drew.cell? ⟨b,0,none⟩=some (.int .i8 kd):=by show B.cell? _=_;rw[corQ _ _ 0 _ _ _ hBX];exact hk
 have HCL:=hH (jy B.drew kd)
 rw[hc] at HCL
 have HPA:=hH (Js H s B.drew n (H.keep s B B.drew hRB (fun _ _ _=>rfl) (NlrQ _)) (nL hXb hb.size))
 have HI:=hH (fun q (h:O q)=>H.inn s X q hR h)
 have HN:=hH hn
 clear hb hB eB hXb hBX hRB hSW hR hX hn H hk hc
 go_enter Tryz.func106,Tryz.ntmps106
 go_upto_region 1 with fail
 change Code.wp _ _ _ _ (X.alloc (.cells #[.pointer (some ⟨b,0,none⟩),.iface T v] 146))
 rw[←HB.out.2.1]
 refine wrhQ (S:=SW) kr1 hS0 (fun eH=>?_)
 clear hS0
 refine tJ (i:=0) (.pointer (some ⟨X.heap.size,0,none⟩)) rfl ?_ ?_
 · clear eH;intro Y hSw;clear hSw;go_simp
 simp only[Act.put,pg]
 refine tJ (i:=1) (.pointer (some ⟨b,0,none⟩)) rfl ?_ ?_
 · exact ua2
 simp only[Act.put,pg]
 refine tJ (i:=2) (.agg #[.pointer (some ⟨b,0,none⟩),.iface T v]) rfl ?_ ?_
 · exact ua2
 simp only[Act.put,pg]
 refine tJ (i:=3) (.pointer (some ⟨X.heap.size,0,none⟩)) rfl ?_ ?_
 · clear eH;intro Y hSw;clear hSw;go_simp
 simp only[Act.put,pg]
 refine tJ (i:=4) (.pointer (some ⟨b,0,none⟩)) rfl ?_ ?_
 · exact ua2
 simp only[Act.put,pg]
 refine tJ (i:=5) (.pointer (some ⟨b,0,none⟩)) rfl ?_ ?_
 · clear eH;intro Y hSw;clear hSw;go_simp
 simp only[Act.put,pg]
 refine tJ (i:=6) (.pointer (some ⟨b,2,none⟩)) rfl ?_ ?_
 · clear eH;intro Y hSw;clear hSw;go_simp
 simp only[Act.put,pg]
 refine tJ (i:=8) (.pointer (some ⟨X.heap.size,0,none⟩)) rfl ?_ ?_
 · clear eH;intro Y hSw;clear hSw;go_simp
 simp only[Act.put,pg]
 refine tJ (i:=9) (.pointer (some ⟨b,0,none⟩)) rfl ?_ ?_
 · exact ua2
 simp only[Act.put,pg]
 refine tJ (i:=10) (.pointer (some ⟨b,0,none⟩)) rfl ?_ ?_
 · clear eH;intro Y hSw;clear hSw;go_simp
 simp only[Act.put,pg]
 refine tJ (i:=11) (.pointer (some ⟨b,0,none⟩)) rfl ?_ ?_
 · clear eH;intro Y hSw;clear hSw;go_simp
 simp only[Act.put,pg]
 have hH0:=eH
 refine rd1 [7,12] ?_
 refine AcQ (o:=_) rfl (fun K hK=>?_) (AcQ (o:=_) rfl (fun K hK=>?_) AnQ)
 · rw [ipQ ue1]
   simp only[pg3]
   have HK:=hH hK
   have HS:=hH eH
   clear hK eH
   go_wp2_with fail
   refine HK.out _ _ hH0 (fun eH=>?_)
   clear HK HS
   refine rd1 [12] ?_
   refine AcQ (o:=_) rfl (fun K hK=>?_) AnQ
   rw[ipQ ue1]
   simp only[pg3]
   have HK:=hH hK
   have HS:=hH eH
   clear hK eH
   go_wp2_with fail
   refine HK.out _ _ hH0 (fun eH=>?_)
   clear HK HS
   clear hcell hk0
   refine rd1 [13] ?_
   refine AcQ (o:=_) rfl (fun K hK=>?_) AnQ
   rw[ipQ ue1]
   simp only[pg3]
   have HK:=hH hK
   have HS:=hH eH
   clear hK eH
   go_wp2_with fail
   refine HCL.out.mono ?_
   rintro e W0 ⟨rfl,hw0⟩
   rw[hw0]
   clear hw0
   go_wp2_with fail
   refine HK.out _ _ hH0 (fun eH=>?_)
   clear HK HS
   refine tJ (i:=14) (.bool false) rfl ?_ ?_
   · clear eH;intro Y hSw;clear hSw;go_simp
   simp only[Act.put,pg]
   refine rd1 [15] ?_
   refine AcQ (o:=_) rfl (fun K hK=>?_) AnQ
   rw[ipQ ue1]
   simp only[pg3]
   have HK:=hH hK
   have HS:=hH eH
   clear hK eH
   go_wp2_with fail
   refine HPA.out.mono ?_
   intro e W' hq
   unfold jD at hq
   cases ho:num s n 0 0 with
   | none=>
     rw[ho] at hq
     obtain⟨rfl,ht⟩:=hq
     refine⟨rfl,?_⟩
     show zJ G R O none b cs 2 X _ _
     exact sa8
   | some ms=>
     exact sa2
 · rw [ipQ ue1]
   simp only[pg3]
   have HK:=hH hK
   have HS:=hH eH
   clear hK eH
   go_wp2_with fail
   refine HK.out _ _ hH0 (fun eH=>?_)
   clear HK HS
   have hH1:=eH
   refine rd1 [7,13] ?_
   refine AcQ (o:=_) rfl (fun K hK=>?_) (AcQ (o:=_) rfl (fun K hK=>?_) AnQ)
   · rw [ipQ ue1]
     simp only[pg3]
     have HK:=hH hK
     have HS:=hH eH
     clear hK eH
     go_wp2_with fail
     refine HK.out _ _ hH0 (fun eH=>?_)
     clear HK HS
     clear hcell hk0
     refine rd1 [13] ?_
     refine AcQ (o:=_) rfl (fun K hK=>?_) AnQ
     rw[ipQ ue1]
     simp only[pg3]
     have HK:=hH hK
     have HS:=hH eH
     clear hK eH
     go_wp2_with fail
     refine HCL.out.mono ?_
     rintro e W0 ⟨rfl,hw0⟩
     rw[hw0]
     clear hw0
     go_wp2_with fail
     refine HK.out _ _ hH0 (fun eH=>?_)
     clear HK HS
     refine tJ (i:=14) (.bool false) rfl ?_ ?_
     · clear eH;intro Y hSw;clear hSw;go_simp
     simp only[Act.put,pg]
     refine rd1 [15] ?_
     refine AcQ (o:=_) rfl (fun K hK=>?_) AnQ
     rw[ipQ ue1]
     simp only[pg3]
     have HK:=hH hK
     have HS:=hH eH
     clear hK eH
     go_wp2_with fail
     refine HPA.out.mono ?_
     intro e W' hq
     unfold jD at hq
     cases ho:num s n 0 0 with
     | none=>
       rw[ho] at hq
       obtain⟨rfl,ht⟩:=hq
       refine⟨rfl,?_⟩
       show zJ G R O none b cs 2 X _ _
       exact sa8
     | some ms=>
       exact sa2
   · rw [ipQ ue1]
     simp only[pg3]
     have HK:=hH hK
     have HS:=hH eH
     clear hK eH
     go_wp2_with fail
     refine HCL.out.mono ?_
     rintro e W0 ⟨rfl,hw0⟩
     rw[hw0]
     clear hw0
     go_wp2_with fail
     refine HK.out _ _ hH0 (fun eH=>?_)
     clear HK HS
     refine tJ (i:=14) (.bool false) rfl ?_ ?_
     · clear eH;intro Y hSw;clear hSw;go_simp
     simp only[Act.put,pg]
     have hH0:=eH
     refine rd1 [7] ?_
     refine AcQ (o:=_) rfl (fun K hK=>?_) AnQ
     rw[ipQ ue1]
     simp only[pg3]
     have HK:=hH hK
     have HS:=hH eH
     clear hK eH
     go_wp2_with fail
     refine HK.out _ _ hH0 (fun eH=>?_)
     clear HK HS hcell hk0
     refine rd1 [15] ?_
     refine AcQ (o:=_) rfl (fun K hK=>?_) AnQ
     rw[ipQ ue1]
     simp only[pg3]
     have HK:=hH hK
     have HS:=hH eH
     clear hK eH
     go_wp2_with fail
     refine HPA.out.mono ?_
     intro e W' hq
     unfold jD at hq
     cases ho:num s n 0 0 with
     | none=>
       rw[ho] at hq
       obtain⟨rfl,ht⟩:=hq
       refine⟨rfl,?_⟩
       show zJ G R O none b cs 2 X _ _
       exact sa8
     | some ms=>
       exact sa2
theorem zhS {σ:Type}{G:σ→Prop}{R:σ→World→Prop}{O:Nat→Prop}{num:σ→Int→Int→Int→Option (Int×σ)}{b:Nat}{T:TypeId}{v rv:Value}{fn:FuncId}(H:qm G R O num b T v rv fn)(s:σ)(X:World)(cs:Array Value)(n kd:Int)(hR:R s X)(hX:X.heap[b]? =some (.cells cs 37 (0,0)))(hn:cs[2]? =some (.int .i64 n))(hk:cs[0]? =some (.int .i8 kd))(hc:decide (kd=2∨kd=5∨kd=9)=false):
 Calls Tryz.prog 106 #[.agg #[.pointer (some ⟨b,0,none⟩),.iface T v]] X (zJ G R O (num s n 1 8) b cs 2 X):=by
 obtain⟨B,hB⟩:∃B,B=X.alloc (.cells #[.pointer (some ⟨b,0,none⟩),.iface T v] 146):=⟨_,rfl⟩
 have hb:Below X.heap.size X B:=by rw[hB];exact (BrQ _ _).alloc (NlrQ _) _
 have eB:B.heap[X.heap.size]? =some (.cells #[.pointer (some ⟨b,0,none⟩),.iface T v] 146 (0,0)):=by rw[hB];exact hanQ _ _
 have hXb:b<X.heap.size:=lohQ hX
 have hBX:=(hb.block _ hXb).trans hX
 have hRB:=H.keep s X B hR (fun q hq _=>hb.block q hq) hb.size
 obtain⟨SW,hSW⟩:∃SW:World→Prop,SW=fun Y=>Y.heap[X.heap.size]? =some (.cells #[.pointer (some ⟨b,0,none⟩),.iface T v] 146 (0,0)):=⟨_,rfl⟩
 have HP:=hH (fun (Y:World) (h:SW Y)=>(show Y.cell? ⟨X.heap.size,0,none⟩=some (.pointer (some ⟨b,0,none⟩))∧Y.cell? ⟨X.heap.size,1,none⟩=some (.iface T v) by
  rw[hSW] at h
  exact⟨by rw[corQ _ _ 0 _ _ _ h];rfl,by rw[corQ _ _ 1 _ _ _ h];rfl⟩))
 have hS0:SW B.drew:=by rw[hSW];exact eB
 have HSM:=hH (fun (Y:World) (h:Y.heap[X.heap.size]? =B.heap[X.heap.size]?)=>(show SW Y by rw[hSW];exact h.trans eB))
 have HB:=hH (aN hb (aN hB (aN hBX (aN hXb (show X.heap.size<B.heap.size from lohQ eB)))))
 have HH:=hH H
 have HR:=hH hRB
 have hcell:B.drew.cell? ⟨b,2,none⟩=some (.int .i64 n):=by show B.cell? _=_;rw[corQ _ _ 2 _ _ _ hBX];exact hn
 have hk0:B.drew.cell? ⟨b,0,none⟩=some (.int .i8 kd):=by show B.cell? _=_;rw[corQ _ _ 0 _ _ _ hBX];exact hk
 have HCL:=hH (jy B.drew kd)
 rw[hc] at HCL
 have HPA:=hH (zav H s B.drew n (H.keep s B B.drew hRB (fun _ _ _=>rfl) (NlrQ _)) (nL hXb hb.size))
 have HI:=hH (fun q (h:O q)=>H.inn s X q hR h)
 have HN:=hH hn
 clear hb hB eB hXb hBX hRB hSW hR hX hn H hk hc
 go_enter Tryz.func106,Tryz.ntmps106
 go_upto_region 1 with fail
 change Code.wp _ _ _ _ (X.alloc (.cells #[.pointer (some ⟨b,0,none⟩),.iface T v] 146))
 rw[←HB.out.2.1]
 refine wrhQ (S:=SW) kr1 hS0 (fun eH=>?_)
 clear hS0
 refine tJ (i:=0) (.pointer (some ⟨X.heap.size,0,none⟩)) rfl ?_ ?_
 · clear eH;intro Y hSw;clear hSw;go_simp
 simp only[Act.put,pg]
 refine tJ (i:=1) (.pointer (some ⟨b,0,none⟩)) rfl ?_ ?_
 · exact ua2
 simp only[Act.put,pg]
 refine tJ (i:=2) (.agg #[.pointer (some ⟨b,0,none⟩),.iface T v]) rfl ?_ ?_
 · exact ua2
 simp only[Act.put,pg]
 refine tJ (i:=3) (.pointer (some ⟨X.heap.size,0,none⟩)) rfl ?_ ?_
 · clear eH;intro Y hSw;clear hSw;go_simp
 simp only[Act.put,pg]
 refine tJ (i:=4) (.pointer (some ⟨b,0,none⟩)) rfl ?_ ?_
 · exact ua2
 simp only[Act.put,pg]
 refine tJ (i:=5) (.pointer (some ⟨b,0,none⟩)) rfl ?_ ?_
 · clear eH;intro Y hSw;clear hSw;go_simp
 simp only[Act.put,pg]
 refine tJ (i:=6) (.pointer (some ⟨b,2,none⟩)) rfl ?_ ?_
 · clear eH;intro Y hSw;clear hSw;go_simp
 simp only[Act.put,pg]
 refine tJ (i:=8) (.pointer (some ⟨X.heap.size,0,none⟩)) rfl ?_ ?_
 · clear eH;intro Y hSw;clear hSw;go_simp
 simp only[Act.put,pg]
 refine tJ (i:=9) (.pointer (some ⟨b,0,none⟩)) rfl ?_ ?_
 · exact ua2
 simp only[Act.put,pg]
 refine tJ (i:=10) (.pointer (some ⟨b,0,none⟩)) rfl ?_ ?_
 · clear eH;intro Y hSw;clear hSw;go_simp
 simp only[Act.put,pg]
 refine tJ (i:=11) (.pointer (some ⟨b,0,none⟩)) rfl ?_ ?_
 · clear eH;intro Y hSw;clear hSw;go_simp
 simp only[Act.put,pg]
 have hH0:=eH
 refine rd1 [7,12] ?_
 refine AcQ (o:=_) rfl (fun K hK=>?_) (AcQ (o:=_) rfl (fun K hK=>?_) AnQ)
 · rw [ipQ ue1]
   simp only[pg3]
   have HK:=hH hK
   have HS:=hH eH
   clear hK eH
   go_wp2_with fail
   refine HK.out _ _ hH0 (fun eH=>?_)
   clear HK HS
   refine rd1 [12] ?_
   refine AcQ (o:=_) rfl (fun K hK=>?_) AnQ
   rw[ipQ ue1]
   simp only[pg3]
   have HK:=hH hK
   have HS:=hH eH
   clear hK eH
   go_wp2_with fail
   refine HK.out _ _ hH0 (fun eH=>?_)
   clear HK HS
   clear hcell hk0
   refine rd1 [13] ?_
   refine AcQ (o:=_) rfl (fun K hK=>?_) AnQ
   rw[ipQ ue1]
   simp only[pg3]
   have HK:=hH hK
   have HS:=hH eH
   clear hK eH
   go_wp2_with fail
   refine HCL.out.mono ?_
   rintro e W0 ⟨rfl,hw0⟩
   rw[hw0]
   clear hw0
   go_wp2_with fail
   refine HK.out _ _ hH0 (fun eH=>?_)
   clear HK HS
   refine tJ (i:=14) (.bool true) rfl ?_ ?_
   · clear eH;intro Y hSw;clear hSw;go_simp
   simp only[Act.put,pg]
   refine rd1 [15] ?_
   refine AcQ (o:=_) rfl (fun K hK=>?_) AnQ
   rw[ipQ ue1]
   simp only[pg3]
   have HK:=hH hK
   have HS:=hH eH
   clear hK eH
   go_wp2_with fail
   refine HPA.out.mono ?_
   intro e W' hq
   unfold jD at hq
   cases ho:num s n 1 8 with
   | none=>
     rw[ho] at hq
     obtain⟨rfl,ht⟩:=hq
     refine⟨rfl,?_⟩
     show zJ G R O none b cs 2 X _ _
     exact sa8
   | some ms=>
     exact sa2
 · rw [ipQ ue1]
   simp only[pg3]
   have HK:=hH hK
   have HS:=hH eH
   clear hK eH
   go_wp2_with fail
   refine HK.out _ _ hH0 (fun eH=>?_)
   clear HK HS
   have hH1:=eH
   refine rd1 [7,13] ?_
   refine AcQ (o:=_) rfl (fun K hK=>?_) (AcQ (o:=_) rfl (fun K hK=>?_) AnQ)
   · rw [ipQ ue1]
     simp only[pg3]
     have HK:=hH hK
     have HS:=hH eH
     clear hK eH
     go_wp2_with fail
     refine HK.out _ _ hH0 (fun eH=>?_)
     clear HK HS
     clear hcell hk0
     refine rd1 [13] ?_
     refine AcQ (o:=_) rfl (fun K hK=>?_) AnQ
     rw[ipQ ue1]
     simp only[pg3]
     have HK:=hH hK
     have HS:=hH eH
     clear hK eH
     go_wp2_with fail
     refine HCL.out.mono ?_
     rintro e W0 ⟨rfl,hw0⟩
     rw[hw0]
     clear hw0
     go_wp2_with fail
     refine HK.out _ _ hH0 (fun eH=>?_)
     clear HK HS
     refine tJ (i:=14) (.bool true) rfl ?_ ?_
     · clear eH;intro Y hSw;clear hSw;go_simp
     simp only[Act.put,pg]
     refine rd1 [15] ?_
     refine AcQ (o:=_) rfl (fun K hK=>?_) AnQ
     rw[ipQ ue1]
     simp only[pg3]
     have HK:=hH hK
     have HS:=hH eH
     clear hK eH
     go_wp2_with fail
     refine HPA.out.mono ?_
     intro e W' hq
     unfold jD at hq
     cases ho:num s n 1 8 with
     | none=>
       rw[ho] at hq
       obtain⟨rfl,ht⟩:=hq
       refine⟨rfl,?_⟩
       show zJ G R O none b cs 2 X _ _
       exact sa8
     | some ms=>
       exact sa2
   · rw [ipQ ue1]
     simp only[pg3]
     have HK:=hH hK
     have HS:=hH eH
     clear hK eH
     go_wp2_with fail
     refine HCL.out.mono ?_
     rintro e W0 ⟨rfl,hw0⟩
     rw[hw0]
     clear hw0
     go_wp2_with fail
     refine HK.out _ _ hH0 (fun eH=>?_)
     clear HK HS
     refine tJ (i:=14) (.bool true) rfl ?_ ?_
     · clear eH;intro Y hSw;clear hSw;go_simp
     simp only[Act.put,pg]
     have hH0:=eH
     refine rd1 [7] ?_
     refine AcQ (o:=_) rfl (fun K hK=>?_) AnQ
     rw[ipQ ue1]
     simp only[pg3]
     have HK:=hH hK
     have HS:=hH eH
     clear hK eH
     go_wp2_with fail
     refine HK.out _ _ hH0 (fun eH=>?_)
     clear HK HS hcell hk0
     refine rd1 [15] ?_
     refine AcQ (o:=_) rfl (fun K hK=>?_) AnQ
     rw[ipQ ue1]
     simp only[pg3]
     have HK:=hH hK
     have HS:=hH eH
     clear hK eH
     go_wp2_with fail
     refine HPA.out.mono ?_
     intro e W' hq
     unfold jD at hq
     cases ho:num s n 1 8 with
     | none=>
       rw[ho] at hq
       obtain⟨rfl,ht⟩:=hq
       refine⟨rfl,?_⟩
       show zJ G R O none b cs 2 X _ _
       exact sa8
     | some ms=>
       exact sa2
end Go.Proofs.YtoidedomenkbpaaGreat
