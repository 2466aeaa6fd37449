/-
  .
-/
import Derived.Test.YtoidedomenkbpaaGreatWStepQs
set_option maxRecDepth 100000
set_option maxHeartbeats 40000000
namespace Go.Proofs.YtoidedomenkbpaaGreat
open Go.RowKit Go.Shelf
set_option linter.unusedVariables false
set_option linter.unusedSimpArgs false
structure qm {σ:Type} (G:σ→Prop) (R:σ→World→Prop) (O:Nat→Prop) (num:σ→Int→Int→Int→Option (Int×σ)) (b:Nat) (T:TypeId) (v rv:Value) (fn:FuncId):Prop where
 jS:∀w,(method 397 T v "allotment/wire.number").run Tryz.prog w= .ok (fn,rv) w
 enter:∀(args:Array Value) (w:World),(callFunc fn args).run Tryz.prog w= .ok (.enter fn args) w
 does:∀(s:σ) (X:World) (n lo hi:Int),R s X→Calls Tryz.prog fn #[rv,.int .i64 n,.int .i64 lo,.int .i64 hi] X (fun e X'=>match num s n lo hi with
  | some (m,s')=>e= .returned (.int .i64 m)∧(G s'→R s' X')∧za X X' O
  | none=>e= .panicked Zi∧za X X' O)
 keep:∀(s:σ) (X X' :World),R s X→(∀q,q<X.heap.size→q≠b→X'.heap[q]? =X.heap[q]?)→X.heap.size≤X'.heap.size→R s X'
 apart:¬O b
 inn:∀(s:σ) (X:World) (q:Nat),R s X→O q→q<X.heap.size
def zJ {σ:Type}(G:σ→Prop)(R:σ→World→Prop)(O:Nat→Prop)(o:Option (Int×σ))(b:Nat)(cs:Array Value)(i:Nat)(X:World)(e:Ending)(X' :World):Prop:=match o with
 | some (m,s')=>e= .returned (.tuple #[])∧(G s'→R s' X')∧X'.heap[b]? =some (.cells (cs.setIfInBounds i (.int .i64 m)) 37 (0,0))∧za X X' (fun q=>O q∨q=b)
 | none=>e= .panicked Zi∧za X X' (fun q=>O q∨q=b)
theorem zG {w w' :World}{S S' :Nat→Prop}(h:za w w' S)(hs:∀q,S q→S' q):za w w' S':=⟨h.os,h.tape,h.output,h.size,fun k h1 h2=>h.block k h1 (fun h3=>h2 (hs k h3))⟩
theorem zu {w:World}{b i:Nat}{u:Value}:za w (w.setCell ⟨b,i,none⟩ u) (fun q=>q=b):=⟨rfl,rfl,rfl,by simp[World.setCell],fun k _ h=>BhsQ _ _ _ _ h⟩
theorem kw {w X:World}{S:Nat→Prop}(h:za w X S)(n:Nat):za w { X with drawn:=X.drawn+n } S:=⟨h.os,h.tape,h.output,h.size,h.block⟩
theorem zeh {σ:Type}{G:σ→Prop}{R:σ→World→Prop}{O:Nat→Prop}{num:σ→Int→Int→Int→Option (Int×σ)}{b:Nat}{T:TypeId}{v rv:Value}{fn:FuncId}(H:qm G R O num b T v rv fn)(s:σ)(X:World)(cs:Array Value)(n:Int)(hR:R s X)(hX:X.heap[b]? =some (.cells cs 37 (0,0)))(hn:cs[3]? =some (.int .i64 n)):
 Calls Tryz.prog 144 #[.agg #[.pointer (some ⟨b,0,none⟩),.iface T v]] X (zJ G R O (num s n 1 1125899906842624) b cs 3 X):=by
 obtain⟨B,hB⟩:∃B,B=X.alloc (.cells #[.pointer (some ⟨b,0,none⟩),.iface T v] 146):=⟨_,rfl⟩
 have hb:Below X.heap.size X B:=by rw[hB];exact (BrQ _ _).alloc (NlrQ _) _
 have eB:B.heap[X.heap.size]? =some (.cells #[.pointer (some ⟨b,0,none⟩),.iface T v] 146 (0,0)):=by rw[hB];exact hanQ _ _
 have hXb:b<X.heap.size:=lohQ hX
 have hBX:=(hb.block _ hXb).trans hX
 have hRB:=H.keep s X B hR (fun q hq _=>hb.block q hq) hb.size
 obtain⟨SW,hSW⟩:∃SW:World→Prop,SW=fun Y=>Y.heap[X.heap.size]? =some (.cells #[.pointer (some ⟨b,0,none⟩),.iface T v] 146 (0,0)):=⟨_,rfl⟩
 have HP:=hH (fun (Y:World) (h:SW Y)=>(show Y.cell? ⟨X.heap.size,0,none⟩=some (.pointer (some ⟨b,0,none⟩))∧Y.cell? ⟨X.heap.size,1,none⟩=some (.iface T v) by
  rw[hSW] at h
  exact⟨by rw[corQ _ _ 0 _ _ _ h];rfl,by rw[corQ _ _ 1 _ _ _ h];rfl⟩))
 have hS0:SW B.drew:=by rw[hSW];exact eB
 have HSM:=hH (fun (Y:World) (h:Y.heap[X.heap.size]? =B.heap[X.heap.size]?)=>(show SW Y by rw[hSW];exact h.trans eB))
 have HB:=hH (aN hb (aN hB (aN hBX (aN hXb (show X.heap.size<B.heap.size from lohQ eB)))))
 have HH:=hH H
 have HR:=hH hRB
 have hcell:B.drew.cell? ⟨b,3,none⟩=some (.int .i64 n):=by show B.cell? _=_;rw[corQ _ _ 3 _ _ _ hBX];exact hn
 have HI:=hH (fun q (h:O q)=>H.inn s X q hR h)
 have HN:=hH hn
 have hm:=H.jS
 have he:=H.enter
 clear hb hB eB hXb hBX hRB hSW hR hX hn H
 go_enter Tryz.func144,Tryz.ntmps144
 go_upto_region 1 with fail
 change Code.wp _ _ _ _ (X.alloc (.cells #[.pointer (some ⟨b,0,none⟩),.iface T v] 146))
 rw[←HB.out.2.1]
 refine wrhQ (S:=SW) kr1 hS0 (fun eH=>?_)
 clear hS0
 refine tJ (i:=0) (.pointer (some ⟨X.heap.size,0,none⟩)) rfl ?_ ?_
 · clear eH;intro Y hSw;clear hSw;go_simp
 simp only[Act.put,pg]
 refine tJ (i:=1) (.pointer (some ⟨b,0,none⟩)) rfl ?_ ?_
 · exact ua2
 simp only[Act.put,pg]
 refine tJ (i:=2) (.pointer (some ⟨X.heap.size,1,none⟩)) rfl ?_ ?_
 · clear eH;intro Y hSw;clear hSw;go_simp
 simp only[Act.put,pg]
 refine tJ (i:=3) (.iface T v) rfl ?_ ?_
 · exact ua2
 simp only[Act.put,pg]
 refine tJ (i:=4) (.pointer (some ⟨X.heap.size,0,none⟩)) rfl ?_ ?_
 · clear eH;intro Y hSw;clear hSw;go_simp
 simp only[Act.put,pg]
 refine tJ (i:=5) (.pointer (some ⟨b,0,none⟩)) rfl ?_ ?_
 · exact ua2
 simp only[Act.put,pg]
 refine tJ (i:=6) (.pointer (some ⟨b,0,none⟩)) rfl ?_ ?_
 · clear eH;intro Y hSw;clear hSw;go_simp
 simp only[Act.put,pg]
 refine tJ (i:=7) (.pointer (some ⟨b,3,none⟩)) rfl ?_ ?_
 · clear eH;intro Y hSw;clear hSw;go_simp
 simp only[Act.put,pg]
 refine tJ (i:=9) (.iface T v) rfl ?_ ?_
 · clear eH;intro Y hSw;clear hSw;go_simp
 simp only[Act.put,pg]
 refine tJ (i:=10) (.iface T v) rfl ?_ ?_
 · clear eH;intro Y hSw;clear hSw;go_simp
 simp only[Act.put,pg]
 have hH0:=eH
 refine rd1 [8] ?_
 refine AcQ (o:=_) rfl (fun K hK=>?_) AnQ
 rw[ipQ ue1]
 simp only[pg3]
 have HK:=hH hK
 have HS:=hH eH
 clear hK eH
 go_wp2_with fail
 refine HK.out _ _ hH0 (fun eH=>?_)
 clear HK HS hcell hH0
 refine rd1 [11] ?_
 refine AcQ (o:=_) rfl (fun K hK=>?_) AnQ
 rw[ipQ ue1]
 simp only[pg3]
 have HK:=hH hK
 have HS:=hH eH
 clear hK eH
 go_wp2_with fail
 refine (HH.out.does s B.drew n 1 1125899906842624 (HH.out.keep s B B.drew HR.out (fun _ _ _=>rfl) (NlrQ _))).mono ?_
 intro e W' hq
 cases ho:num s n 1 1125899906842624 with
 | none=>
   rw[ho] at hq
   obtain⟨rfl,ht⟩:=hq
   refine⟨rfl,?_⟩
   show zJ G R O none b cs 3 X _ _
   exact sa8
 | some ms=>
   obtain⟨m,s'⟩:=ms
   rw[ho] at hq
   obtain⟨rfl,hr,ht⟩:=hq
   have hbW:W'.heap[b]? =some (.cells cs 37 (0,0)):=(ht.block b (nL HB.out.2.2.2.1 HB.out.1.size) HH.out.apart).trans HB.out.2.2.1
   have hpW:W'.heap[X.heap.size]? =B.heap[X.heap.size]?:=ht.block _ HB.out.2.2.2.2 (fun h=>by have:=HI.out _ h;omega)
   have c0:W'.cell? ⟨b,3,none⟩=some (.int .i64 n):=by rw[corQ _ _ 3 _ _ _ hbW];exact HN.out
   have cf:∀j,W'.frozen? ⟨b,j,none⟩=false:=fun j=>forQ _ _ j _ _ hbW
   have HW:=hH (aN hbW (aN hpW (aN hr ht)))
   obtain⟨Z,hZ⟩:∃Z,Z=W'.setCell ⟨b,3,none⟩ (.int .i64 m):=⟨_,rfl⟩
   have hZs:za W' Z (fun q=>q=b):=by rw[hZ];exact zu
   have hZb:Z.heap[b]? =some (.cells (cs.setIfInBounds 3 (.int .i64 m)) 37 (0,0)):=by rw[hZ];exact hssQ _ _ _ _ _ _ hbW
   have hE:zJ G R O (some (m,s')) b cs 3 X (.returned (.tuple #[])) Z:=by
    exact sa3
   have HE:=hH (aN hE (aN hZ (show Z.heap[X.heap.size]? =B.heap[X.heap.size]? from (hZs.block _ (nL HB.out.2.2.2.2 ht.size) uc5).trans hpW)))
   clear hbW hpW hr ht hZ hZs hZb hE
   go_wp2_with fail
   refine HK.out _ _ (HSM.out _ HW.out.2.1) (fun eH=>?_)
   clear HK HS
   refine tJ (i:=12) (.pointer (some ⟨b,0,none⟩)) rfl ?_ ?_
   · clear eH;intro Y hSw;clear hSw;go_simp
   simp only[Act.put,pg]
   refine tJ (i:=13) (.pointer (some ⟨b,3,none⟩)) rfl ?_ ?_
   · clear eH;intro Y hSw;clear hSw;go_simp
   simp only[Act.put,pg]
   refine rd1 [14] ?_
   exact sa6
theorem zbX {σ:Type}{G:σ→Prop}{R:σ→World→Prop}{O:Nat→Prop}{num:σ→Int→Int→Int→Option (Int×σ)}{b:Nat}{T:TypeId}{v rv:Value}{fn:FuncId}(H:qm G R O num b T v rv fn)(s:σ)(X:World)(cs:Array Value)(n:Int)(hR:R s X)(hX:X.heap[b]? =some (.cells cs 37 (0,0)))(hn:cs[5]? =some (.int .i64 n)):
 Calls Tryz.prog 145 #[.agg #[.pointer (some ⟨b,0,none⟩),.iface T v]] X (zJ G R O (num s n 1 1125899906842624) b cs 5 X):=by
 obtain⟨B,hB⟩:∃B,B=X.alloc (.cells #[.pointer (some ⟨b,0,none⟩),.iface T v] 146):=⟨_,rfl⟩
 have hb:Below X.heap.size X B:=by rw[hB];exact (BrQ _ _).alloc (NlrQ _) _
 have eB:B.heap[X.heap.size]? =some (.cells #[.pointer (some ⟨b,0,none⟩),.iface T v] 146 (0,0)):=by rw[hB];exact hanQ _ _
 have hXb:b<X.heap.size:=lohQ hX
 have hBX:=(hb.block _ hXb).trans hX
 have hRB:=H.keep s X B hR (fun q hq _=>hb.block q hq) hb.size
 obtain⟨SW,hSW⟩:∃SW:World→Prop,SW=fun Y=>Y.heap[X.heap.size]? =some (.cells #[.pointer (some ⟨b,0,none⟩),.iface T v] 146 (0,0)):=⟨_,rfl⟩
 have HP:=hH (fun (Y:World) (h:SW Y)=>(show Y.cell? ⟨X.heap.size,0,none⟩=some (.pointer (some ⟨b,0,none⟩))∧Y.cell? ⟨X.heap.size,1,none⟩=some (.iface T v) by
  rw[hSW] at h
  exact⟨by rw[corQ _ _ 0 _ _ _ h];rfl,by rw[corQ _ _ 1 _ _ _ h];rfl⟩))
 have hS0:SW B.drew:=by rw[hSW];exact eB
 have HSM:=hH (fun (Y:World) (h:Y.heap[X.heap.size]? =B.heap[X.heap.size]?)=>(show SW Y by rw[hSW];exact h.trans eB))
 have HB:=hH (aN hb (aN hB (aN hBX (aN hXb (show X.heap.size<B.heap.size from lohQ eB)))))
 have HH:=hH H
 have HR:=hH hRB
 have hcell:B.drew.cell? ⟨b,5,none⟩=some (.int .i64 n):=by show B.cell? _=_;rw[corQ _ _ 5 _ _ _ hBX];exact hn
 have HI:=hH (fun q (h:O q)=>H.inn s X q hR h)
 have HN:=hH hn
 have hm:=H.jS
 have he:=H.enter
 clear hb hB eB hXb hBX hRB hSW hR hX hn H
 go_enter Tryz.func145,Tryz.ntmps145
 go_upto_region 1 with fail
 change Code.wp _ _ _ _ (X.alloc (.cells #[.pointer (some ⟨b,0,none⟩),.iface T v] 146))
 rw[←HB.out.2.1]
 refine wrhQ (S:=SW) kr1 hS0 (fun eH=>?_)
 clear hS0
 refine tJ (i:=0) (.pointer (some ⟨X.heap.size,0,none⟩)) rfl ?_ ?_
 · clear eH;intro Y hSw;clear hSw;go_simp
 simp only[Act.put,pg]
 refine tJ (i:=1) (.pointer (some ⟨b,0,none⟩)) rfl ?_ ?_
 · exact ua2
 simp only[Act.put,pg]
 refine tJ (i:=2) (.pointer (some ⟨X.heap.size,1,none⟩)) rfl ?_ ?_
 · clear eH;intro Y hSw;clear hSw;go_simp
 simp only[Act.put,pg]
 refine tJ (i:=3) (.iface T v) rfl ?_ ?_
 · exact ua2
 simp only[Act.put,pg]
 refine tJ (i:=4) (.pointer (some ⟨X.heap.size,0,none⟩)) rfl ?_ ?_
 · clear eH;intro Y hSw;clear hSw;go_simp
 simp only[Act.put,pg]
 refine tJ (i:=5) (.pointer (some ⟨b,0,none⟩)) rfl ?_ ?_
 · exact ua2
 simp only[Act.put,pg]
 refine tJ (i:=6) (.pointer (some ⟨b,0,none⟩)) rfl ?_ ?_
 · clear eH;intro Y hSw;clear hSw;go_simp
 simp only[Act.put,pg]
 refine tJ (i:=7) (.pointer (some ⟨b,5,none⟩)) rfl ?_ ?_
 · clear eH;intro Y hSw;clear hSw;go_simp
 simp only[Act.put,pg]
 refine tJ (i:=9) (.iface T v) rfl ?_ ?_
 · clear eH;intro Y hSw;clear hSw;go_simp
 simp only[Act.put,pg]
 refine tJ (i:=10) (.iface T v) rfl ?_ ?_
 · clear eH;intro Y hSw;clear hSw;go_simp
 simp only[Act.put,pg]
 have hH0:=eH
 refine rd1 [8] ?_
 refine AcQ (o:=_) rfl (fun K hK=>?_) AnQ
 rw[ipQ ue1]
 simp only[pg3]
 have HK:=hH hK
 have HS:=hH eH
 clear hK eH
 go_wp2_with fail
 refine HK.out _ _ hH0 (fun eH=>?_)
 clear HK HS hcell hH0
 refine rd1 [11] ?_
 refine AcQ (o:=_) rfl (fun K hK=>?_) AnQ
 rw[ipQ ue1]
 simp only[pg3]
 have HK:=hH hK
 have HS:=hH eH
 clear hK eH
 go_wp2_with fail
 refine (HH.out.does s B.drew n 1 1125899906842624 (HH.out.keep s B B.drew HR.out (fun _ _ _=>rfl) (NlrQ _))).mono ?_
 intro e W' hq
 cases ho:num s n 1 1125899906842624 with
 | none=>
   rw[ho] at hq
   obtain⟨rfl,ht⟩:=hq
   refine⟨rfl,?_⟩
   show zJ G R O none b cs 5 X _ _
   exact sa8
 | some ms=>
   obtain⟨m,s'⟩:=ms
   rw[ho] at hq
   obtain⟨rfl,hr,ht⟩:=hq
   have hbW:W'.heap[b]? =some (.cells cs 37 (0,0)):=(ht.block b (nL HB.out.2.2.2.1 HB.out.1.size) HH.out.apart).trans HB.out.2.2.1
   have hpW:W'.heap[X.heap.size]? =B.heap[X.heap.size]?:=ht.block _ HB.out.2.2.2.2 (fun h=>by have:=HI.out _ h;omega)
   have c0:W'.cell? ⟨b,5,none⟩=some (.int .i64 n):=by rw[corQ _ _ 5 _ _ _ hbW];exact HN.out
   have cf:∀j,W'.frozen? ⟨b,j,none⟩=false:=fun j=>forQ _ _ j _ _ hbW
   have HW:=hH (aN hbW (aN hpW (aN hr ht)))
   obtain⟨Z,hZ⟩:∃Z,Z=W'.setCell ⟨b,5,none⟩ (.int .i64 m):=⟨_,rfl⟩
   have hZs:za W' Z (fun q=>q=b):=by rw[hZ];exact zu
   have hZb:Z.heap[b]? =some (.cells (cs.setIfInBounds 5 (.int .i64 m)) 37 (0,0)):=by rw[hZ];exact hssQ _ _ _ _ _ _ hbW
   have hE:zJ G R O (some (m,s')) b cs 5 X (.returned (.tuple #[])) Z:=by
    exact sa3
   have HE:=hH (aN hE (aN hZ (show Z.heap[X.heap.size]? =B.heap[X.heap.size]? from (hZs.block _ (nL HB.out.2.2.2.2 ht.size) uc5).trans hpW)))
   clear hbW hpW hr ht hZ hZs hZb hE
   go_wp2_with fail
   refine HK.out _ _ (HSM.out _ HW.out.2.1) (fun eH=>?_)
   clear HK HS
   refine tJ (i:=12) (.pointer (some ⟨b,0,none⟩)) rfl ?_ ?_
   · clear eH;intro Y hSw;clear hSw;go_simp
   simp only[Act.put,pg]
   refine tJ (i:=13) (.pointer (some ⟨b,5,none⟩)) rfl ?_ ?_
   · clear eH;intro Y hSw;clear hSw;go_simp
   simp only[Act.put,pg]
   refine rd1 [14] ?_
   exact sa6
theorem zei {σ:Type}{G:σ→Prop}{R:σ→World→Prop}{O:Nat→Prop}{num:σ→Int→Int→Int→Option (Int×σ)}{b:Nat}{T:TypeId}{v rv:Value}{fn:FuncId}(H:qm G R O num b T v rv fn)(s:σ)(X:World)(cs:Array Value)(n:Int)(hR:R s X)(hX:X.heap[b]? =some (.cells cs 37 (0,0)))(hn:cs[6]? =some (.int .i64 n)):
 Calls Tryz.prog 146 #[.agg #[.pointer (some ⟨b,0,none⟩),.iface T v]] X (zJ G R O (num s n 1 1125899906842624) b cs 6 X):=by
 obtain⟨B,hB⟩:∃B,B=X.alloc (.cells #[.pointer (some ⟨b,0,none⟩),.iface T v] 146):=⟨_,rfl⟩
 have hb:Below X.heap.size X B:=by rw[hB];exact (BrQ _ _).alloc (NlrQ _) _
 have eB:B.heap[X.heap.size]? =some (.cells #[.pointer (some ⟨b,0,none⟩),.iface T v] 146 (0,0)):=by rw[hB];exact hanQ _ _
 have hXb:b<X.heap.size:=lohQ hX
 have hBX:=(hb.block _ hXb).trans hX
 have hRB:=H.keep s X B hR (fun q hq _=>hb.block q hq) hb.size
 obtain⟨SW,hSW⟩:∃SW:World→Prop,SW=fun Y=>Y.heap[X.heap.size]? =some (.cells #[.pointer (some ⟨b,0,none⟩),.iface T v] 146 (0,0)):=⟨_,rfl⟩
 have HP:=hH (fun (Y:World) (h:SW Y)=>(show Y.cell? ⟨X.heap.size,0,none⟩=some (.pointer (some ⟨b,0,none⟩))∧Y.cell? ⟨X.heap.size,1,none⟩=some (.iface T v) by
  rw[hSW] at h
  exact⟨by rw[corQ _ _ 0 _ _ _ h];rfl,by rw[corQ _ _ 1 _ _ _ h];rfl⟩))
 have hS0:SW B.drew:=by rw[hSW];exact eB
 have HSM:=hH (fun (Y:World) (h:Y.heap[X.heap.size]? =B.heap[X.heap.size]?)=>(show SW Y by rw[hSW];exact h.trans eB))
 have HB:=hH (aN hb (aN hB (aN hBX (aN hXb (show X.heap.size<B.heap.size from lohQ eB)))))
 have HH:=hH H
 have HR:=hH hRB
 have hcell:B.drew.cell? ⟨b,6,none⟩=some (.int .i64 n):=by show B.cell? _=_;rw[corQ _ _ 6 _ _ _ hBX];exact hn
 have HI:=hH (fun q (h:O q)=>H.inn s X q hR h)
 have HN:=hH hn
 have hm:=H.jS
 have he:=H.enter
 clear hb hB eB hXb hBX hRB hSW hR hX hn H
 go_enter Tryz.func146,Tryz.ntmps146
 go_upto_region 1 with fail
 change Code.wp _ _ _ _ (X.alloc (.cells #[.pointer (some ⟨b,0,none⟩),.iface T v] 146))
 rw[←HB.out.2.1]
 refine wrhQ (S:=SW) kr1 hS0 (fun eH=>?_)
 clear hS0
 refine tJ (i:=0) (.pointer (some ⟨X.heap.size,0,none⟩)) rfl ?_ ?_
 · clear eH;intro Y hSw;clear hSw;go_simp
 simp only[Act.put,pg]
 refine tJ (i:=1) (.pointer (some ⟨b,0,none⟩)) rfl ?_ ?_
 · exact ua2
 simp only[Act.put,pg]
 refine tJ (i:=2) (.pointer (some ⟨X.heap.size,1,none⟩)) rfl ?_ ?_
 · clear eH;intro Y hSw;clear hSw;go_simp
 simp only[Act.put,pg]
 refine tJ (i:=3) (.iface T v) rfl ?_ ?_
 · exact ua2
 simp only[Act.put,pg]
 refine tJ (i:=4) (.pointer (some ⟨X.heap.size,0,none⟩)) rfl ?_ ?_
 · clear eH;intro Y hSw;clear hSw;go_simp
 simp only[Act.put,pg]
 refine tJ (i:=5) (.pointer (some ⟨b,0,none⟩)) rfl ?_ ?_
 · exact ua2
 simp only[Act.put,pg]
 refine tJ (i:=6) (.pointer (some ⟨b,0,none⟩)) rfl ?_ ?_
 · clear eH;intro Y hSw;clear hSw;go_simp
 simp only[Act.put,pg]
 refine tJ (i:=7) (.pointer (some ⟨b,6,none⟩)) rfl ?_ ?_
 · clear eH;intro Y hSw;clear hSw;go_simp
 simp only[Act.put,pg]
 refine tJ (i:=9) (.iface T v) rfl ?_ ?_
 · clear eH;intro Y hSw;clear hSw;go_simp
 simp only[Act.put,pg]
 refine tJ (i:=10) (.iface T v) rfl ?_ ?_
 · clear eH;intro Y hSw;clear hSw;go_simp
 simp only[Act.put,pg]
 have hH0:=eH
 refine rd1 [8] ?_
 refine AcQ (o:=_) rfl (fun K hK=>?_) AnQ
 rw[ipQ ue1]
 simp only[pg3]
 have HK:=hH hK
 have HS:=hH eH
 clear hK eH
 go_wp2_with fail
 refine HK.out _ _ hH0 (fun eH=>?_)
 clear HK HS hcell hH0
 refine rd1 [11] ?_
 refine AcQ (o:=_) rfl (fun K hK=>?_) AnQ
 rw[ipQ ue1]
 simp only[pg3]
 have HK:=hH hK
 have HS:=hH eH
 clear hK eH
 go_wp2_with fail
 refine (HH.out.does s B.drew n 1 1125899906842624 (HH.out.keep s B B.drew HR.out (fun _ _ _=>rfl) (NlrQ _))).mono ?_
 intro e W' hq
 cases ho:num s n 1 1125899906842624 with
 | none=>
   rw[ho] at hq
   obtain⟨rfl,ht⟩:=hq
   refine⟨rfl,?_⟩
   show zJ G R O none b cs 6 X _ _
   exact sa8
 | some ms=>
   obtain⟨m,s'⟩:=ms
   rw[ho] at hq
   obtain⟨rfl,hr,ht⟩:=hq
   have hbW:W'.heap[b]? =some (.cells cs 37 (0,0)):=(ht.block b (nL HB.out.2.2.2.1 HB.out.1.size) HH.out.apart).trans HB.out.2.2.1
   have hpW:W'.heap[X.heap.size]? =B.heap[X.heap.size]?:=ht.block _ HB.out.2.2.2.2 (fun h=>by have:=HI.out _ h;omega)
   have c0:W'.cell? ⟨b,6,none⟩=some (.int .i64 n):=by rw[corQ _ _ 6 _ _ _ hbW];exact HN.out
   have cf:∀j,W'.frozen? ⟨b,j,none⟩=false:=fun j=>forQ _ _ j _ _ hbW
   have HW:=hH (aN hbW (aN hpW (aN hr ht)))
   obtain⟨Z,hZ⟩:∃Z,Z=W'.setCell ⟨b,6,none⟩ (.int .i64 m):=⟨_,rfl⟩
   have hZs:za W' Z (fun q=>q=b):=by rw[hZ];exact zu
   have hZb:Z.heap[b]? =some (.cells (cs.setIfInBounds 6 (.int .i64 m)) 37 (0,0)):=by rw[hZ];exact hssQ _ _ _ _ _ _ hbW
   have hE:zJ G R O (some (m,s')) b cs 6 X (.returned (.tuple #[])) Z:=by
    exact sa3
   have HE:=hH (aN hE (aN hZ (show Z.heap[X.heap.size]? =B.heap[X.heap.size]? from (hZs.block _ (nL HB.out.2.2.2.2 ht.size) uc5).trans hpW)))
   clear hbW hpW hr ht hZ hZs hZb hE
   go_wp2_with fail
   refine HK.out _ _ (HSM.out _ HW.out.2.1) (fun eH=>?_)
   clear HK HS
   refine tJ (i:=12) (.pointer (some ⟨b,0,none⟩)) rfl ?_ ?_
   · clear eH;intro Y hSw;clear hSw;go_simp
   simp only[Act.put,pg]
   refine tJ (i:=13) (.pointer (some ⟨b,6,none⟩)) rfl ?_ ?_
   · clear eH;intro Y hSw;clear hSw;go_simp
   simp only[Act.put,pg]
   refine rd1 [14] ?_
   exact sa6
theorem zcY {σ:Type}{G:σ→Prop}{R:σ→World→Prop}{O:Nat→Prop}{num:σ→Int→Int→Int→Option (Int×σ)}{b:Nat}{T:TypeId}{v rv:Value}{fn:FuncId}(H:qm G R O num b T v rv fn)(s:σ)(X:World)(cs:Array Value)(n:Int)(hR:R s X)(hX:X.heap[b]? =some (.cells cs 37 (0,0)))(hn:cs[7]? =some (.int .i64 n)):
 Calls Tryz.prog 147 #[.agg #[.pointer (some ⟨b,0,none⟩),.iface T v]] X (zJ G R O (num s n 1 1125899906842624) b cs 7 X):=by
 obtain⟨B,hB⟩:∃B,B=X.alloc (.cells #[.pointer (some ⟨b,0,none⟩),.iface T v] 146):=⟨_,rfl⟩
 have hb:Below X.heap.size X B:=by rw[hB];exact (BrQ _ _).alloc (NlrQ _) _
 have eB:B.heap[X.heap.size]? =some (.cells #[.pointer (some ⟨b,0,none⟩),.iface T v] 146 (0,0)):=by rw[hB];exact hanQ _ _
 have hXb:b<X.heap.size:=lohQ hX
 have hBX:=(hb.block _ hXb).trans hX
 have hRB:=H.keep s X B hR (fun q hq _=>hb.block q hq) hb.size
 obtain⟨SW,hSW⟩:∃SW:World→Prop,SW=fun Y=>Y.heap[X.heap.size]? =some (.cells #[.pointer (some ⟨b,0,none⟩),.iface T v] 146 (0,0)):=⟨_,rfl⟩
 have HP:=hH (fun (Y:World) (h:SW Y)=>(show Y.cell? ⟨X.heap.size,0,none⟩=some (.pointer (some ⟨b,0,none⟩))∧Y.cell? ⟨X.heap.size,1,none⟩=some (.iface T v) by
  rw[hSW] at h
  exact⟨by rw[corQ _ _ 0 _ _ _ h];rfl,by rw[corQ _ _ 1 _ _ _ h];rfl⟩))
 have hS0:SW B.drew:=by rw[hSW];exact eB
 have HSM:=hH (fun (Y:World) (h:Y.heap[X.heap.size]? =B.heap[X.heap.size]?)=>(show SW Y by rw[hSW];exact h.trans eB))
 have HB:=hH (aN hb (aN hB (aN hBX (aN hXb (show X.heap.size<B.heap.size from lohQ eB)))))
 have HH:=hH H
 have HR:=hH hRB
 have hcell:B.drew.cell? ⟨b,7,none⟩=some (.int .i64 n):=by show B.cell? _=_;rw[corQ _ _ 7 _ _ _ hBX];exact hn
 have HI:=hH (fun q (h:O q)=>H.inn s X q hR h)
 have HN:=hH hn
 have hm:=H.jS
 have he:=H.enter
 clear hb hB eB hXb hBX hRB hSW hR hX hn H
 go_enter Tryz.func147,Tryz.ntmps147
 go_upto_region 1 with fail
 change Code.wp _ _ _ _ (X.alloc (.cells #[.pointer (some ⟨b,0,none⟩),.iface T v] 146))
 rw[←HB.out.2.1]
 refine wrhQ (S:=SW) kr1 hS0 (fun eH=>?_)
 clear hS0
 refine tJ (i:=0) (.pointer (some ⟨X.heap.size,0,none⟩)) rfl ?_ ?_
 · clear eH;intro Y hSw;clear hSw;go_simp
 simp only[Act.put,pg]
 refine tJ (i:=1) (.pointer (some ⟨b,0,none⟩)) rfl ?_ ?_
 · exact ua2
 simp only[Act.put,pg]
 refine tJ (i:=2) (.pointer (some ⟨X.heap.size,1,none⟩)) rfl ?_ ?_
 · clear eH;intro Y hSw;clear hSw;go_simp
 simp only[Act.put,pg]
 refine tJ (i:=3) (.iface T v) rfl ?_ ?_
 · exact ua2
 simp only[Act.put,pg]
 refine tJ (i:=4) (.pointer (some ⟨X.heap.size,0,none⟩)) rfl ?_ ?_
 · clear eH;intro Y hSw;clear hSw;go_simp
 simp only[Act.put,pg]
 refine tJ (i:=5) (.pointer (some ⟨b,0,none⟩)) rfl ?_ ?_
 · exact ua2
 simp only[Act.put,pg]
 refine tJ (i:=6) (.pointer (some ⟨b,0,none⟩)) rfl ?_ ?_
 · clear eH;intro Y hSw;clear hSw;go_simp
 simp only[Act.put,pg]
 refine tJ (i:=7) (.pointer (some ⟨b,7,none⟩)) rfl ?_ ?_
 · clear eH;intro Y hSw;clear hSw;go_simp
 simp only[Act.put,pg]
 refine tJ (i:=9) (.iface T v) rfl ?_ ?_
 · clear eH;intro Y hSw;clear hSw;go_simp
 simp only[Act.put,pg]
 refine tJ (i:=10) (.iface T v) rfl ?_ ?_
 · clear eH;intro Y hSw;clear hSw;go_simp
 simp only[Act.put,pg]
 have hH0:=eH
 refine rd1 [8] ?_
 refine AcQ (o:=_) rfl (fun K hK=>?_) AnQ
 rw[ipQ ue1]
 simp only[pg3]
 have HK:=hH hK
 have HS:=hH eH
 clear hK eH
 go_wp2_with fail
 refine HK.out _ _ hH0 (fun eH=>?_)
 clear HK HS hcell hH0
 refine rd1 [11] ?_
 refine AcQ (o:=_) rfl (fun K hK=>?_) AnQ
 rw[ipQ ue1]
 simp only[pg3]
 have HK:=hH hK
 have HS:=hH eH
 clear hK eH
 go_wp2_with fail
 refine (HH.out.does s B.drew n 1 1125899906842624 (HH.out.keep s B B.drew HR.out (fun _ _ _=>rfl) (NlrQ _))).mono ?_
 intro e W' hq
 cases ho:num s n 1 1125899906842624 with
 | none=>
   rw[ho] at hq
   obtain⟨rfl,ht⟩:=hq
   refine⟨rfl,?_⟩
   show zJ G R O none b cs 7 X _ _
   exact sa8
 | some ms=>
   obtain⟨m,s'⟩:=ms
   rw[ho] at hq
   obtain⟨rfl,hr,ht⟩:=hq
   have hbW:W'.heap[b]? =some (.cells cs 37 (0,0)):=(ht.block b (nL HB.out.2.2.2.1 HB.out.1.size) HH.out.apart).trans HB.out.2.2.1
   have hpW:W'.heap[X.heap.size]? =B.heap[X.heap.size]?:=ht.block _ HB.out.2.2.2.2 (fun h=>by have:=HI.out _ h;omega)
   have c0:W'.cell? ⟨b,7,none⟩=some (.int .i64 n):=by rw[corQ _ _ 7 _ _ _ hbW];exact HN.out
   have cf:∀j,W'.frozen? ⟨b,j,none⟩=false:=fun j=>forQ _ _ j _ _ hbW
   have HW:=hH (aN hbW (aN hpW (aN hr ht)))
   obtain⟨Z,hZ⟩:∃Z,Z=W'.setCell ⟨b,7,none⟩ (.int .i64 m):=⟨_,rfl⟩
   have hZs:za W' Z (fun q=>q=b):=by rw[hZ];exact zu
   have hZb:Z.heap[b]? =some (.cells (cs.setIfInBounds 7 (.int .i64 m)) 37 (0,0)):=by rw[hZ];exact hssQ _ _ _ _ _ _ hbW
   have hE:zJ G R O (some (m,s')) b cs 7 X (.returned (.tuple #[])) Z:=by
    exact sa3
   have HE:=hH (aN hE (aN hZ (show Z.heap[X.heap.size]? =B.heap[X.heap.size]? from (hZs.block _ (nL HB.out.2.2.2.2 ht.size) uc5).trans hpW)))
   clear hbW hpW hr ht hZ hZs hZb hE
   go_wp2_with fail
   refine HK.out _ _ (HSM.out _ HW.out.2.1) (fun eH=>?_)
   clear HK HS
   refine tJ (i:=12) (.pointer (some ⟨b,0,none⟩)) rfl ?_ ?_
   · clear eH;intro Y hSw;clear hSw;go_simp
   simp only[Act.put,pg]
   refine tJ (i:=13) (.pointer (some ⟨b,7,none⟩)) rfl ?_ ?_
   · clear eH;intro Y hSw;clear hSw;go_simp
   simp only[Act.put,pg]
   refine rd1 [14] ?_
   exact sa6
theorem zcX {σ:Type}{G:σ→Prop}{R:σ→World→Prop}{O:Nat→Prop}{num:σ→Int→Int→Int→Option (Int×σ)}{b:Nat}{T:TypeId}{v rv:Value}{fn:FuncId}(H:qm G R O num b T v rv fn)(s:σ)(X:World)(cs:Array Value)(n:Int)(hR:R s X)(hX:X.heap[b]? =some (.cells cs 37 (0,0)))(hn:cs[8]? =some (.int .i64 n)):
 Calls Tryz.prog 148 #[.agg #[.pointer (some ⟨b,0,none⟩),.iface T v]] X (zJ G R O (num s n 1 1125899906842624) b cs 8 X):=by
 obtain⟨B,hB⟩:∃B,B=X.alloc (.cells #[.pointer (some ⟨b,0,none⟩),.iface T v] 146):=⟨_,rfl⟩
 have hb:Below X.heap.size X B:=by rw[hB];exact (BrQ _ _).alloc (NlrQ _) _
 have eB:B.heap[X.heap.size]? =some (.cells #[.pointer (some ⟨b,0,none⟩),.iface T v] 146 (0,0)):=by rw[hB];exact hanQ _ _
 have hXb:b<X.heap.size:=lohQ hX
 have hBX:=(hb.block _ hXb).trans hX
 have hRB:=H.keep s X B hR (fun q hq _=>hb.block q hq) hb.size
 obtain⟨SW,hSW⟩:∃SW:World→Prop,SW=fun Y=>Y.heap[X.heap.size]? =some (.cells #[.pointer (some ⟨b,0,none⟩),.iface T v] 146 (0,0)):=⟨_,rfl⟩
 have HP:=hH (fun (Y:World) (h:SW Y)=>(show Y.cell? ⟨X.heap.size,0,none⟩=some (.pointer (some ⟨b,0,none⟩))∧Y.cell? ⟨X.heap.size,1,none⟩=some (.iface T v) by
  rw[hSW] at h
  exact⟨by rw[corQ _ _ 0 _ _ _ h];rfl,by rw[corQ _ _ 1 _ _ _ h];rfl⟩))
 have hS0:SW B.drew:=by rw[hSW];exact eB
 have HSM:=hH (fun (Y:World) (h:Y.heap[X.heap.size]? =B.heap[X.heap.size]?)=>(show SW Y by rw[hSW];exact h.trans eB))
 have HB:=hH (aN hb (aN hB (aN hBX (aN hXb (show X.heap.size<B.heap.size from lohQ eB)))))
 have HH:=hH H
 have HR:=hH hRB
 have hcell:B.drew.cell? ⟨b,8,none⟩=some (.int .i64 n):=by show B.cell? _=_;rw[corQ _ _ 8 _ _ _ hBX];exact hn
 have HI:=hH (fun q (h:O q)=>H.inn s X q hR h)
 have HN:=hH hn
 have hm:=H.jS
 have he:=H.enter
 clear hb hB eB hXb hBX hRB hSW hR hX hn H
 go_enter Tryz.func148,Tryz.ntmps148
 go_upto_region 1 with fail
 change Code.wp _ _ _ _ (X.alloc (.cells #[.pointer (some ⟨b,0,none⟩),.iface T v] 146))
 rw[←HB.out.2.1]
 refine wrhQ (S:=SW) kr1 hS0 (fun eH=>?_)
 clear hS0
 refine tJ (i:=0) (.pointer (some ⟨X.heap.size,0,none⟩)) rfl ?_ ?_
 · clear eH;intro Y hSw;clear hSw;go_simp
 simp only[Act.put,pg]
 refine tJ (i:=1) (.pointer (some ⟨b,0,none⟩)) rfl ?_ ?_
 · exact ua2
 simp only[Act.put,pg]
 refine tJ (i:=2) (.pointer (some ⟨X.heap.size,1,none⟩)) rfl ?_ ?_
 · clear eH;intro Y hSw;clear hSw;go_simp
 simp only[Act.put,pg]
 refine tJ (i:=3) (.iface T v) rfl ?_ ?_
 · exact ua2
 simp only[Act.put,pg]
 refine tJ (i:=4) (.pointer (some ⟨X.heap.size,0,none⟩)) rfl ?_ ?_
 · clear eH;intro Y hSw;clear hSw;go_simp
 simp only[Act.put,pg]
 refine tJ (i:=5) (.pointer (some ⟨b,0,none⟩)) rfl ?_ ?_
 · exact ua2
 simp only[Act.put,pg]
 refine tJ (i:=6) (.pointer (some ⟨b,0,none⟩)) rfl ?_ ?_
 · clear eH;intro Y hSw;clear hSw;go_simp
 simp only[Act.put,pg]
 refine tJ (i:=7) (.pointer (some ⟨b,8,none⟩)) rfl ?_ ?_
 · clear eH;intro Y hSw;clear hSw;go_simp
 simp only[Act.put,pg]
 refine tJ (i:=9) (.iface T v) rfl ?_ ?_
 · clear eH;intro Y hSw;clear hSw;go_simp
 simp only[Act.put,pg]
 refine tJ (i:=10) (.iface T v) rfl ?_ ?_
 · clear eH;intro Y hSw;clear hSw;go_simp
 simp only[Act.put,pg]
 have hH0:=eH
 refine rd1 [8] ?_
 refine AcQ (o:=_) rfl (fun K hK=>?_) AnQ
 rw[ipQ ue1]
 simp only[pg3]
 have HK:=hH hK
 have HS:=hH eH
 clear hK eH
 go_wp2_with fail
 refine HK.out _ _ hH0 (fun eH=>?_)
 clear HK HS hcell hH0
 refine rd1 [11] ?_
 refine AcQ (o:=_) rfl (fun K hK=>?_) AnQ
 rw[ipQ ue1]
 simp only[pg3]
 have HK:=hH hK
 have HS:=hH eH
 clear hK eH
 go_wp2_with fail
 refine (HH.out.does s B.drew n 1 1125899906842624 (HH.out.keep s B B.drew HR.out (fun _ _ _=>rfl) (NlrQ _))).mono ?_
 intro e W' hq
 cases ho:num s n 1 1125899906842624 with
 | none=>
   rw[ho] at hq
   obtain⟨rfl,ht⟩:=hq
   refine⟨rfl,?_⟩
   show zJ G R O none b cs 8 X _ _
   exact sa8
 | some ms=>
   obtain⟨m,s'⟩:=ms
   rw[ho] at hq
   obtain⟨rfl,hr,ht⟩:=hq
   have hbW:W'.heap[b]? =some (.cells cs 37 (0,0)):=(ht.block b (nL HB.out.2.2.2.1 HB.out.1.size) HH.out.apart).trans HB.out.2.2.1
   have hpW:W'.heap[X.heap.size]? =B.heap[X.heap.size]?:=ht.block _ HB.out.2.2.2.2 (fun h=>by have:=HI.out _ h;omega)
   have c0:W'.cell? ⟨b,8,none⟩=some (.int .i64 n):=by rw[corQ _ _ 8 _ _ _ hbW];exact HN.out
   have cf:∀j,W'.frozen? ⟨b,j,none⟩=false:=fun j=>forQ _ _ j _ _ hbW
   have HW:=hH (aN hbW (aN hpW (aN hr ht)))
   obtain⟨Z,hZ⟩:∃Z,Z=W'.setCell ⟨b,8,none⟩ (.int .i64 m):=⟨_,rfl⟩
   have hZs:za W' Z (fun q=>q=b):=by rw[hZ];exact zu
   have hZb:Z.heap[b]? =some (.cells (cs.setIfInBounds 8 (.int .i64 m)) 37 (0,0)):=by rw[hZ];exact hssQ _ _ _ _ _ _ hbW
   have hE:zJ G R O (some (m,s')) b cs 8 X (.returned (.tuple #[])) Z:=by
    exact sa3
   have HE:=hH (aN hE (aN hZ (show Z.heap[X.heap.size]? =B.heap[X.heap.size]? from (hZs.block _ (nL HB.out.2.2.2.2 ht.size) uc5).trans hpW)))
   clear hbW hpW hr ht hZ hZs hZb hE
   go_wp2_with fail
   refine HK.out _ _ (HSM.out _ HW.out.2.1) (fun eH=>?_)
   clear HK HS
   refine tJ (i:=12) (.pointer (some ⟨b,0,none⟩)) rfl ?_ ?_
   · clear eH;intro Y hSw;clear hSw;go_simp
   simp only[Act.put,pg]
   refine tJ (i:=13) (.pointer (some ⟨b,8,none⟩)) rfl ?_ ?_
   · clear eH;intro Y hSw;clear hSw;go_simp
   simp only[Act.put,pg]
   refine rd1 [14] ?_
   exact sa6
theorem zaR {σ:Type}{G:σ→Prop}{R:σ→World→Prop}{O:Nat→Prop}{num:σ→Int→Int→Int→Option (Int×σ)}{b:Nat}{T:TypeId}{v rv:Value}{fn:FuncId}(H:qm G R O num b T v rv fn)(s:σ)(X:World)(cs:Array Value)(n:Int)(hR:R s X)(hX:X.heap[b]? =some (.cells cs 37 (0,0)))(hn:cs[9]? =some (.int .i64 n)):
 Calls Tryz.prog 149 #[.agg #[.pointer (some ⟨b,0,none⟩),.iface T v]] X (zJ G R O (num s n 0 1125899906842624) b cs 9 X):=by
 obtain⟨B,hB⟩:∃B,B=X.alloc (.cells #[.pointer (some ⟨b,0,none⟩),.iface T v] 146):=⟨_,rfl⟩
 have hb:Below X.heap.size X B:=by rw[hB];exact (BrQ _ _).alloc (NlrQ _) _
 have eB:B.heap[X.heap.size]? =some (.cells #[.pointer (some ⟨b,0,none⟩),.iface T v] 146 (0,0)):=by rw[hB];exact hanQ _ _
 have hXb:b<X.heap.size:=lohQ hX
 have hBX:=(hb.block _ hXb).trans hX
 have hRB:=H.keep s X B hR (fun q hq _=>hb.block q hq) hb.size
 obtain⟨SW,hSW⟩:∃SW:World→Prop,SW=fun Y=>Y.heap[X.heap.size]? =some (.cells #[.pointer (some ⟨b,0,none⟩),.iface T v] 146 (0,0)):=⟨_,rfl⟩
 have HP:=hH (fun (Y:World) (h:SW Y)=>(show Y.cell? ⟨X.heap.size,0,none⟩=some (.pointer (some ⟨b,0,none⟩))∧Y.cell? ⟨X.heap.size,1,none⟩=some (.iface T v) by
  rw[hSW] at h
  exact⟨by rw[corQ _ _ 0 _ _ _ h];rfl,by rw[corQ _ _ 1 _ _ _ h];rfl⟩))
 have hS0:SW B.drew:=by rw[hSW];exact eB
 have HSM:=hH (fun (Y:World) (h:Y.heap[X.heap.size]? =B.heap[X.heap.size]?)=>(show SW Y by rw[hSW];exact h.trans eB))
 have HB:=hH (aN hb (aN hB (aN hBX (aN hXb (show X.heap.size<B.heap.size from lohQ eB)))))
 have HH:=hH H
 have HR:=hH hRB
 have hcell:B.drew.cell? ⟨b,9,none⟩=some (.int .i64 n):=by show B.cell? _=_;rw[corQ _ _ 9 _ _ _ hBX];exact hn
 have HI:=hH (fun q (h:O q)=>H.inn s X q hR h)
 have HN:=hH hn
 have hm:=H.jS
 have he:=H.enter
 clear hb hB eB hXb hBX hRB hSW hR hX hn H
 go_enter Tryz.func149,Tryz.ntmps149
 go_upto_region 1 with fail
 change Code.wp _ _ _ _ (X.alloc (.cells #[.pointer (some ⟨b,0,none⟩),.iface T v] 146))
 rw[←HB.out.2.1]
 refine wrhQ (S:=SW) kr1 hS0 (fun eH=>?_)
 clear hS0
 refine tJ (i:=0) (.pointer (some ⟨X.heap.size,0,none⟩)) rfl ?_ ?_
 · clear eH;intro Y hSw;clear hSw;go_simp
 simp only[Act.put,pg]
 refine tJ (i:=1) (.pointer (some ⟨b,0,none⟩)) rfl ?_ ?_
 · exact ua2
 simp only[Act.put,pg]
 refine tJ (i:=2) (.pointer (some ⟨X.heap.size,1,none⟩)) rfl ?_ ?_
 · clear eH;intro Y hSw;clear hSw;go_simp
 simp only[Act.put,pg]
 refine tJ (i:=3) (.iface T v) rfl ?_ ?_
 · exact ua2
 simp only[Act.put,pg]
 refine tJ (i:=4) (.pointer (some ⟨X.heap.size,0,none⟩)) rfl ?_ ?_
 · clear eH;intro Y hSw;clear hSw;go_simp
 simp only[Act.put,pg]
 refine tJ (i:=5) (.pointer (some ⟨b,0,none⟩)) rfl ?_ ?_
 · exact ua2
 simp only[Act.put,pg]
 refine tJ (i:=6) (.pointer (some ⟨b,0,none⟩)) rfl ?_ ?_
 · clear eH;intro Y hSw;clear hSw;go_simp
 simp only[Act.put,pg]
 refine tJ (i:=7) (.pointer (some ⟨b,9,none⟩)) rfl ?_ ?_
 · clear eH;intro Y hSw;clear hSw;go_simp
 simp only[Act.put,pg]
 refine tJ (i:=9) (.iface T v) rfl ?_ ?_
 · clear eH;intro Y hSw;clear hSw;go_simp
 simp only[Act.put,pg]
 refine tJ (i:=10) (.iface T v) rfl ?_ ?_
 · clear eH;intro Y hSw;clear hSw;go_simp
 simp only[Act.put,pg]
 have hH0:=eH
 refine rd1 [8] ?_
 refine AcQ (o:=_) rfl (fun K hK=>?_) AnQ
 rw[ipQ ue1]
 simp only[pg3]
 have HK:=hH hK
 have HS:=hH eH
 clear hK eH
 go_wp2_with fail
 refine HK.out _ _ hH0 (fun eH=>?_)
 clear HK HS hcell hH0
 refine rd1 [11] ?_
 refine AcQ (o:=_) rfl (fun K hK=>?_) AnQ
 rw[ipQ ue1]
 simp only[pg3]
 have HK:=hH hK
 have HS:=hH eH
 clear hK eH
 go_wp2_with fail
 refine (HH.out.does s B.drew n 0 1125899906842624 (HH.out.keep s B B.drew HR.out (fun _ _ _=>rfl) (NlrQ _))).mono ?_
 intro e W' hq
 cases ho:num s n 0 1125899906842624 with
 | none=>
   rw[ho] at hq
   obtain⟨rfl,ht⟩:=hq
   refine⟨rfl,?_⟩
   show zJ G R O none b cs 9 X _ _
   exact sa8
 | some ms=>
   obtain⟨m,s'⟩:=ms
   rw[ho] at hq
   obtain⟨rfl,hr,ht⟩:=hq
   have hbW:W'.heap[b]? =some (.cells cs 37 (0,0)):=(ht.block b (nL HB.out.2.2.2.1 HB.out.1.size) HH.out.apart).trans HB.out.2.2.1
   have hpW:W'.heap[X.heap.size]? =B.heap[X.heap.size]?:=ht.block _ HB.out.2.2.2.2 (fun h=>by have:=HI.out _ h;omega)
   have c0:W'.cell? ⟨b,9,none⟩=some (.int .i64 n):=by rw[corQ _ _ 9 _ _ _ hbW];exact HN.out
   have cf:∀j,W'.frozen? ⟨b,j,none⟩=false:=fun j=>forQ _ _ j _ _ hbW
   have HW:=hH (aN hbW (aN hpW (aN hr ht)))
   obtain⟨Z,hZ⟩:∃Z,Z=W'.setCell ⟨b,9,none⟩ (.int .i64 m):=⟨_,rfl⟩
   have hZs:za W' Z (fun q=>q=b):=by rw[hZ];exact zu
   have hZb:Z.heap[b]? =some (.cells (cs.setIfInBounds 9 (.int .i64 m)) 37 (0,0)):=by rw[hZ];exact hssQ _ _ _ _ _ _ hbW
   have hE:zJ G R O (some (m,s')) b cs 9 X (.returned (.tuple #[])) Z:=by
    exact sa3
   have HE:=hH (aN hE (aN hZ (show Z.heap[X.heap.size]? =B.heap[X.heap.size]? from (hZs.block _ (nL HB.out.2.2.2.2 ht.size) uc5).trans hpW)))
   clear hbW hpW hr ht hZ hZs hZb hE
   go_wp2_with fail
   refine HK.out _ _ (HSM.out _ HW.out.2.1) (fun eH=>?_)
   clear HK HS
   refine tJ (i:=12) (.pointer (some ⟨b,0,none⟩)) rfl ?_ ?_
   · clear eH;intro Y hSw;clear hSw;go_simp
   simp only[Act.put,pg]
   refine tJ (i:=13) (.pointer (some ⟨b,9,none⟩)) rfl ?_ ?_
   · clear eH;intro Y hSw;clear hSw;go_simp
   simp only[Act.put,pg]
   refine rd1 [14] ?_
   exact sa6
theorem zii {σ:Type}{G:σ→Prop}{R:σ→World→Prop}{O:Nat→Prop}{num:σ→Int→Int→Int→Option (Int×σ)}{b:Nat}{T:TypeId}{v rv:Value}{fn:FuncId}(H:qm G R O num b T v rv fn)(s:σ)(X:World)(cs:Array Value)(n:Int)(hR:R s X)(hX:X.heap[b]? =some (.cells cs 37 (0,0)))(hn:cs[10]? =some (.int .i64 n)):
 Calls Tryz.prog 151 #[.agg #[.pointer (some ⟨b,0,none⟩),.iface T v]] X (zJ G R O (num s n 1 999) b cs 10 X):=by
 obtain⟨B,hB⟩:∃B,B=X.alloc (.cells #[.pointer (some ⟨b,0,none⟩),.iface T v] 146):=⟨_,rfl⟩
 have hb:Below X.heap.size X B:=by rw[hB];exact (BrQ _ _).alloc (NlrQ _) _
 have eB:B.heap[X.heap.size]? =some (.cells #[.pointer (some ⟨b,0,none⟩),.iface T v] 146 (0,0)):=by rw[hB];exact hanQ _ _
 have hXb:b<X.heap.size:=lohQ hX
 have hBX:=(hb.block _ hXb).trans hX
 have hRB:=H.keep s X B hR (fun q hq _=>hb.block q hq) hb.size
 obtain⟨SW,hSW⟩:∃SW:World→Prop,SW=fun Y=>Y.heap[X.heap.size]? =some (.cells #[.pointer (some ⟨b,0,none⟩),.iface T v] 146 (0,0)):=⟨_,rfl⟩
 have HP:=hH (fun (Y:World) (h:SW Y)=>(show Y.cell? ⟨X.heap.size,0,none⟩=some (.pointer (some ⟨b,0,none⟩))∧Y.cell? ⟨X.heap.size,1,none⟩=some (.iface T v) by
  rw[hSW] at h
  exact⟨by rw[corQ _ _ 0 _ _ _ h];rfl,by rw[corQ _ _ 1 _ _ _ h];rfl⟩))
 have hS0:SW B.drew:=by rw[hSW];exact eB
 have HSM:=hH (fun (Y:World) (h:Y.heap[X.heap.size]? =B.heap[X.heap.size]?)=>(show SW Y by rw[hSW];exact h.trans eB))
 have HB:=hH (aN hb (aN hB (aN hBX (aN hXb (show X.heap.size<B.heap.size from lohQ eB)))))
 have HH:=hH H
 have HR:=hH hRB
 have hcell:B.drew.cell? ⟨b,10,none⟩=some (.int .i64 n):=by show B.cell? _=_;rw[corQ _ _ 10 _ _ _ hBX];exact hn
 have HI:=hH (fun q (h:O q)=>H.inn s X q hR h)
 have HN:=hH hn
 have hm:=H.jS
 have he:=H.enter
 clear hb hB eB hXb hBX hRB hSW hR hX hn H
 go_enter Tryz.func151,Tryz.ntmps151
 go_upto_region 1 with fail
 change Code.wp _ _ _ _ (X.alloc (.cells #[.pointer (some ⟨b,0,none⟩),.iface T v] 146))
 rw[←HB.out.2.1]
 refine wrhQ (S:=SW) kr1 hS0 (fun eH=>?_)
 clear hS0
 refine tJ (i:=0) (.pointer (some ⟨X.heap.size,0,none⟩)) rfl ?_ ?_
 · clear eH;intro Y hSw;clear hSw;go_simp
 simp only[Act.put,pg]
 refine tJ (i:=1) (.pointer (some ⟨b,0,none⟩)) rfl ?_ ?_
 · exact ua2
 simp only[Act.put,pg]
 refine tJ (i:=2) (.pointer (some ⟨X.heap.size,1,none⟩)) rfl ?_ ?_
 · clear eH;intro Y hSw;clear hSw;go_simp
 simp only[Act.put,pg]
 refine tJ (i:=3) (.iface T v) rfl ?_ ?_
 · exact ua2
 simp only[Act.put,pg]
 refine tJ (i:=4) (.pointer (some ⟨X.heap.size,0,none⟩)) rfl ?_ ?_
 · clear eH;intro Y hSw;clear hSw;go_simp
 simp only[Act.put,pg]
 refine tJ (i:=5) (.pointer (some ⟨b,0,none⟩)) rfl ?_ ?_
 · exact ua2
 simp only[Act.put,pg]
 refine tJ (i:=6) (.pointer (some ⟨b,0,none⟩)) rfl ?_ ?_
 · clear eH;intro Y hSw;clear hSw;go_simp
 simp only[Act.put,pg]
 refine tJ (i:=7) (.pointer (some ⟨b,10,none⟩)) rfl ?_ ?_
 · clear eH;intro Y hSw;clear hSw;go_simp
 simp only[Act.put,pg]
 refine tJ (i:=9) (.iface T v) rfl ?_ ?_
 · clear eH;intro Y hSw;clear hSw;go_simp
 simp only[Act.put,pg]
 refine tJ (i:=10) (.iface T v) rfl ?_ ?_
 · clear eH;intro Y hSw;clear hSw;go_simp
 simp only[Act.put,pg]
 have hH0:=eH
 refine rd1 [8] ?_
 refine AcQ (o:=_) rfl (fun K hK=>?_) AnQ
 rw[ipQ ue1]
 simp only[pg3]
 have HK:=hH hK
 have HS:=hH eH
 clear hK eH
 go_wp2_with fail
 refine HK.out _ _ hH0 (fun eH=>?_)
 clear HK HS hcell hH0
 refine rd1 [11] ?_
 refine AcQ (o:=_) rfl (fun K hK=>?_) AnQ
 rw[ipQ ue1]
 simp only[pg3]
 have HK:=hH hK
 have HS:=hH eH
 clear hK eH
 go_wp2_with fail
 refine (HH.out.does s B.drew n 1 999 (HH.out.keep s B B.drew HR.out (fun _ _ _=>rfl) (NlrQ _))).mono ?_
 intro e W' hq
 cases ho:num s n 1 999 with
 | none=>
   rw[ho] at hq
   obtain⟨rfl,ht⟩:=hq
   refine⟨rfl,?_⟩
   show zJ G R O none b cs 10 X _ _
   exact sa8
 | some ms=>
   obtain⟨m,s'⟩:=ms
   rw[ho] at hq
   obtain⟨rfl,hr,ht⟩:=hq
   have hbW:W'.heap[b]? =some (.cells cs 37 (0,0)):=(ht.block b (nL HB.out.2.2.2.1 HB.out.1.size) HH.out.apart).trans HB.out.2.2.1
   have hpW:W'.heap[X.heap.size]? =B.heap[X.heap.size]?:=ht.block _ HB.out.2.2.2.2 (fun h=>by have:=HI.out _ h;omega)
   have c0:W'.cell? ⟨b,10,none⟩=some (.int .i64 n):=by rw[corQ _ _ 10 _ _ _ hbW];exact HN.out
   have cf:∀j,W'.frozen? ⟨b,j,none⟩=false:=fun j=>forQ _ _ j _ _ hbW
   have HW:=hH (aN hbW (aN hpW (aN hr ht)))
   obtain⟨Z,hZ⟩:∃Z,Z=W'.setCell ⟨b,10,none⟩ (.int .i64 m):=⟨_,rfl⟩
   have hZs:za W' Z (fun q=>q=b):=by rw[hZ];exact zu
   have hZb:Z.heap[b]? =some (.cells (cs.setIfInBounds 10 (.int .i64 m)) 37 (0,0)):=by rw[hZ];exact hssQ _ _ _ _ _ _ hbW
   have hE:zJ G R O (some (m,s')) b cs 10 X (.returned (.tuple #[])) Z:=by
    exact sa3
   have HE:=hH (aN hE (aN hZ (show Z.heap[X.heap.size]? =B.heap[X.heap.size]? from (hZs.block _ (nL HB.out.2.2.2.2 ht.size) uc5).trans hpW)))
   clear hbW hpW hr ht hZ hZs hZb hE
   go_wp2_with fail
   refine HK.out _ _ (HSM.out _ HW.out.2.1) (fun eH=>?_)
   clear HK HS
   refine tJ (i:=12) (.pointer (some ⟨b,0,none⟩)) rfl ?_ ?_
   · clear eH;intro Y hSw;clear hSw;go_simp
   simp only[Act.put,pg]
   refine tJ (i:=13) (.pointer (some ⟨b,10,none⟩)) rfl ?_ ?_
   · clear eH;intro Y hSw;clear hSw;go_simp
   simp only[Act.put,pg]
   refine rd1 [14] ?_
   exact sa6
end Go.Proofs.YtoidedomenkbpaaGreat
