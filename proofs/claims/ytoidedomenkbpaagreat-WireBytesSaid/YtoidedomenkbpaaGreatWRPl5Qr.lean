/-
  .
-/
import Derived.Test.YtoidedomenkbpaaGreatWRPl6Qr
set_option maxRecDepth 100000
set_option maxHeartbeats 40000000
namespace Go.Proofs.YtoidedomenkbpaaGreat
open Go.RowKit Go.Shelf
set_option linter.unusedVariables false
set_option linter.unusedSimpArgs false
theorem zhV (w:World)(a1 a2 a3 a4 a5 a6 a7 a8 a9 a10 ai ak:Int)(sa ar:Option Addr)(an ac am ad:Nat)(aw:ByteArray):Calls Tryz.prog 57 #[.agg #[.int .i8 5,.int .i64 a1,.int .i64 a2,.int .i64 a3,.int .i64 a4,.int .i64 a5,.int .i64 a6,.int .i64 a7,.int .i64 a8,.int .i64 a9,.int .i64 a10,.slice sa an ac,.int .i64 ai,.int .i64 ak,.string aw,.slice ar am ad]] w (jg w #[.int .i8 5,.int .i64 a1,.int .i64 a2,.int .i64 a3,.int .i64 a4,.int .i64 a5,.int .i64 0,.int .i64 a7,.int .i64 a8,.int .i64 0,.int .i64 0,.slice sa an ac,.int .i64 0,.int .i64 0,.string ⟨#[]⟩,.slice none 0 0] true):=by
 obtain⟨B,hB⟩:∃B,B=zy w [.cells #[.int .i8 5,.int .i64 a1,.int .i64 a2,.int .i64 a3,.int .i64 a4,.int .i64 a5,.int .i64 a6,.int .i64 a7,.int .i64 a8,.int .i64 a9,.int .i64 a10,.slice sa an ac,.int .i64 ai,.int .i64 ak,.string aw,.slice ar am ad] 37,.cells #[.int .i8 0,.int .i64 0,.int .i64 0,.int .i64 0,.int .i64 0,.int .i64 0,.int .i64 0,.int .i64 0,.int .i64 0,.int .i64 0,.int .i64 0,.slice none 0 0,.int .i64 0,.int .i64 0,.string ⟨#[]⟩,.slice none 0 0] 37,.cells #[.int .i8 5,.int .i64 a1,.int .i64 a2,.int .i64 0,.int .i64 a4,.int .i64 0,.int .i64 0,.int .i64 0,.int .i64 0,.int .i64 0,.int .i64 0,.slice none 0 0,.int .i64 0,.int .i64 0,.string ⟨#[]⟩,.slice none 0 0] 37]:=⟨_,rfl⟩
 have hb:Below w.heap.size w B:=by rw[hB];exact zu _ _
 have e0:B.heap[w.heap.size]? =some (.cells #[.int .i8 5,.int .i64 a1,.int .i64 a2,.int .i64 a3,.int .i64 a4,.int .i64 a5,.int .i64 a6,.int .i64 a7,.int .i64 a8,.int .i64 a9,.int .i64 a10,.slice sa an ac,.int .i64 ai,.int .i64 ak,.string aw,.slice ar am ad] 37 (0,0)):=by rw[hB];exact zi _ _ 0 _ rfl
 have e1:B.heap[w.heap.size+1]? =some (.cells #[.int .i8 0,.int .i64 0,.int .i64 0,.int .i64 0,.int .i64 0,.int .i64 0,.int .i64 0,.int .i64 0,.int .i64 0,.int .i64 0,.int .i64 0,.slice none 0 0,.int .i64 0,.int .i64 0,.string ⟨#[]⟩,.slice none 0 0] 37 (0,0)):=by rw[hB];exact zi _ _ 1 _ rfl
 have e2:B.heap[w.heap.size+1+1]? =some (.cells #[.int .i8 5,.int .i64 a1,.int .i64 a2,.int .i64 0,.int .i64 a4,.int .i64 0,.int .i64 0,.int .i64 0,.int .i64 0,.int .i64 0,.int .i64 0,.slice none 0 0,.int .i64 0,.int .i64 0,.string ⟨#[]⟩,.slice none 0 0] 37 (0,0)):=by rw[hB];exact zi _ _ 2 _ rfl
 obtain⟨Y0,hY0,r0,q0,x0,y0,z0,s0⟩:=one_set (i:=3) (u:= .int .i64 a3) e2
 have r0' :Y0.heap[w.heap.size+1+1]? =some (.cells #[.int .i8 5,.int .i64 a1,.int .i64 a2,.int .i64 a3,.int .i64 a4,.int .i64 0,.int .i64 0,.int .i64 0,.int .i64 0,.int .i64 0,.int .i64 0,.slice none 0 0,.int .i64 0,.int .i64 0,.string ⟨#[]⟩,.slice none 0 0] 37 (0,0)):=by simpa using r0
 obtain⟨Y1,hY1,r1,q1,x1,y1,z1,s1⟩:=one_set (i:=5) (u:= .int .i64 a5) r0'
 have r1' :Y1.heap[w.heap.size+1+1]? =some (.cells #[.int .i8 5,.int .i64 a1,.int .i64 a2,.int .i64 a3,.int .i64 a4,.int .i64 a5,.int .i64 0,.int .i64 0,.int .i64 0,.int .i64 0,.int .i64 0,.slice none 0 0,.int .i64 0,.int .i64 0,.string ⟨#[]⟩,.slice none 0 0] 37 (0,0)):=by simpa using r1
 obtain⟨Y2,hY2,r2,q2,x2,y2,z2,s2⟩:=one_set (i:=7) (u:= .int .i64 a7) r1'
 have r2' :Y2.heap[w.heap.size+1+1]? =some (.cells #[.int .i8 5,.int .i64 a1,.int .i64 a2,.int .i64 a3,.int .i64 a4,.int .i64 a5,.int .i64 0,.int .i64 a7,.int .i64 0,.int .i64 0,.int .i64 0,.slice none 0 0,.int .i64 0,.int .i64 0,.string ⟨#[]⟩,.slice none 0 0] 37 (0,0)):=by simpa using r2
 obtain⟨Y3,hY3,r3,q3,x3,y3,z3,s3⟩:=one_set (i:=8) (u:= .int .i64 a8) r2'
 have r3' :Y3.heap[w.heap.size+1+1]? =some (.cells #[.int .i8 5,.int .i64 a1,.int .i64 a2,.int .i64 a3,.int .i64 a4,.int .i64 a5,.int .i64 0,.int .i64 a7,.int .i64 a8,.int .i64 0,.int .i64 0,.slice none 0 0,.int .i64 0,.int .i64 0,.string ⟨#[]⟩,.slice none 0 0] 37 (0,0)):=by simpa using r3
 obtain⟨Y4,hY4,r4,q4,x4,y4,z4,s4⟩:=one_set (i:=11) (u:= .slice sa an ac) r3'
 have r4' :Y4.heap[w.heap.size+1+1]? =some (.cells #[.int .i8 5,.int .i64 a1,.int .i64 a2,.int .i64 a3,.int .i64 a4,.int .i64 a5,.int .i64 0,.int .i64 a7,.int .i64 a8,.int .i64 0,.int .i64 0,.slice sa an ac,.int .i64 0,.int .i64 0,.string ⟨#[]⟩,.slice none 0 0] 37 (0,0)):=by simpa using r4
 have hbx:Below w.heap.size w Y4:=⟨by rw[x4,x3,x2,x1,x0];exact hb.os,by rw[y4,y3,y2,y1,y0];exact hb.tape,by rw[z4,z3,z2,z1,z0];exact hb.output,by rw[s4,s3,s2,s1,s0];exact hb.size,fun y hy=>by rw[q4 y om,q3 y om,q2 y om,q1 y om,q0 y om];exact hb.block y hy⟩
 have f1:Y4.heap[w.heap.size+1]? =some (.cells #[.int .i8 0,.int .i64 0,.int .i64 0,.int .i64 0,.int .i64 0,.int .i64 0,.int .i64 0,.int .i64 0,.int .i64 0,.int .i64 0,.int .i64 0,.slice none 0 0,.int .i64 0,.int .i64 0,.string ⟨#[]⟩,.slice none 0 0] 37 (0,0)):=by rw[q4 _ om,q3 _ om,q2 _ om,q1 _ om,q0 _ om];exact e1
 have hYE:Y4=(((((B.setCell ⟨w.heap.size+1+1,3,none⟩ (.int .i64 a3)).setCell ⟨w.heap.size+1+1,5,none⟩ (.int .i64 a5)).setCell ⟨w.heap.size+1+1,7,none⟩ (.int .i64 a7)).setCell ⟨w.heap.size+1+1,8,none⟩ (.int .i64 a8)).setCell ⟨w.heap.size+1+1,11,none⟩ (.slice sa an ac)):=by rw[hY4,hY3,hY2,hY1,hY0]
 obtain⟨V,hV,v1,v2,v3,v4,v5,v6⟩:=yS (u0:= .int .i8 5) (u1:= .int .i64 a1) (u2:= .int .i64 a2) (u3:= .int .i64 a3) (u4:= .int .i64 a4) (u5:= .int .i64 a5) (u6:= .int .i64 0) (u7:= .int .i64 a7) (u8:= .int .i64 a8) (u9:= .int .i64 0) (u10:= .int .i64 0) (u11:= .slice sa an ac) (u12:= .int .i64 0) (u13:= .int .i64 0) (u14:= .string ⟨#[]⟩) (u15:= .slice none 0 0) f1
 have HEND:=hH (aN v1 (show Below w.heap.size w V from⟨v3.trans hbx.os,v4.trans hbx.tape,v5.trans hbx.output,by rw[v6];exact hbx.size,fun y hy=>(v2 y om).trans (hbx.block y hy)⟩))
 have HV:=hH hV
 have HB:=hH hB
 have HYE:=hH hYE
 have HXC:=hH (aN r4' f1)
 have c0:B.cell? ⟨w.heap.size,0,none⟩=some (.int .i8 5):=by rw[corQ _ _ 0 _ _ _ e0];rfl
 have c3:B.cell? ⟨w.heap.size,3,none⟩=some (.int .i64 a3):=by rw[corQ _ _ 3 _ _ _ e0];rfl
 have d3:B.cell? ⟨w.heap.size+1+1,3,none⟩=some (.int .i64 0):=by rw[corQ _ _ 3 _ _ _ e2];rfl
 have c5:B.cell? ⟨w.heap.size,5,none⟩=some (.int .i64 a5):=by rw[corQ _ _ 5 _ _ _ e0];rfl
 have d5:B.cell? ⟨w.heap.size+1+1,5,none⟩=some (.int .i64 0):=by rw[corQ _ _ 5 _ _ _ e2];rfl
 have c7:B.cell? ⟨w.heap.size,7,none⟩=some (.int .i64 a7):=by rw[corQ _ _ 7 _ _ _ e0];rfl
 have d7:B.cell? ⟨w.heap.size+1+1,7,none⟩=some (.int .i64 0):=by rw[corQ _ _ 7 _ _ _ e2];rfl
 have c8:B.cell? ⟨w.heap.size,8,none⟩=some (.int .i64 a8):=by rw[corQ _ _ 8 _ _ _ e0];rfl
 have d8:B.cell? ⟨w.heap.size+1+1,8,none⟩=some (.int .i64 0):=by rw[corQ _ _ 8 _ _ _ e2];rfl
 have c11:B.cell? ⟨w.heap.size,11,none⟩=some (.slice sa an ac):=by rw[corQ _ _ 11 _ _ _ e0];rfl
 have d11:B.cell? ⟨w.heap.size+1+1,11,none⟩=some (.slice none 0 0):=by rw[corQ _ _ 11 _ _ _ e2];rfl
 have df:∀j,B.frozen? ⟨w.heap.size+1+1,j,none⟩=false:=fun j=>forQ _ _ j _ _ e2
 clear hB hb e0 e1 e2 hV v1 v2 v3 v4 v5 v6 hbx f1 hY0 r0 r0' q0 x0 y0 z0 s0 hY1 r1 r1' q1 x1 y1 z1 s1 hY2 r2 r2' q2 x2 y2 z2 s2 hY3 r3 r3' q3 x3 y3 z3 s3 hY4 r4 r4' q4 x4 y4 z4 s4 hYE
 go_enter Tryz.func57,Tryz.ntmps57
 go_upto_region 2 with fail
 change Code.wp _ _ _ _ (zy w [.cells #[.int .i8 5,.int .i64 a1,.int .i64 a2,.int .i64 a3,.int .i64 a4,.int .i64 a5,.int .i64 a6,.int .i64 a7,.int .i64 a8,.int .i64 a9,.int .i64 a10,.slice sa an ac,.int .i64 ai,.int .i64 ak,.string aw,.slice ar am ad] 37,.cells #[.int .i8 0,.int .i64 0,.int .i64 0,.int .i64 0,.int .i64 0,.int .i64 0,.int .i64 0,.int .i64 0,.int .i64 0,.int .i64 0,.int .i64 0,.slice none 0 0,.int .i64 0,.int .i64 0,.string ⟨#[]⟩,.slice none 0 0] 37,.cells #[.int .i8 5,.int .i64 a1,.int .i64 a2,.int .i64 0,.int .i64 a4,.int .i64 0,.int .i64 0,.int .i64 0,.int .i64 0,.int .i64 0,.int .i64 0,.slice none 0 0,.int .i64 0,.int .i64 0,.string ⟨#[]⟩,.slice none 0 0] 37])
 rw[←HB.out]
 go_upto_region 14 with fail
 rw[←HYE.out]
 clear c0 df c3 d3 c5 d5 c7 d7 c8 d8 c11 d11
 have g0:Y4.cell? ⟨w.heap.size+1+1,0,none⟩=some (.int .i8 5):=by rw[corQ _ _ 0 _ _ _ HXC.out.1];rfl
 have g1:Y4.cell? ⟨w.heap.size+1+1,1,none⟩=some (.int .i64 a1):=by rw[corQ _ _ 1 _ _ _ HXC.out.1];rfl
 have g2:Y4.cell? ⟨w.heap.size+1+1,2,none⟩=some (.int .i64 a2):=by rw[corQ _ _ 2 _ _ _ HXC.out.1];rfl
 have g3:Y4.cell? ⟨w.heap.size+1+1,3,none⟩=some (.int .i64 a3):=by rw[corQ _ _ 3 _ _ _ HXC.out.1];rfl
 have g4:Y4.cell? ⟨w.heap.size+1+1,4,none⟩=some (.int .i64 a4):=by rw[corQ _ _ 4 _ _ _ HXC.out.1];rfl
 have g5:Y4.cell? ⟨w.heap.size+1+1,5,none⟩=some (.int .i64 a5):=by rw[corQ _ _ 5 _ _ _ HXC.out.1];rfl
 have g6:Y4.cell? ⟨w.heap.size+1+1,6,none⟩=some (.int .i64 0):=by rw[corQ _ _ 6 _ _ _ HXC.out.1];rfl
 have g7:Y4.cell? ⟨w.heap.size+1+1,7,none⟩=some (.int .i64 a7):=by rw[corQ _ _ 7 _ _ _ HXC.out.1];rfl
 have g8:Y4.cell? ⟨w.heap.size+1+1,8,none⟩=some (.int .i64 a8):=by rw[corQ _ _ 8 _ _ _ HXC.out.1];rfl
 have g9:Y4.cell? ⟨w.heap.size+1+1,9,none⟩=some (.int .i64 0):=by rw[corQ _ _ 9 _ _ _ HXC.out.1];rfl
 have g10:Y4.cell? ⟨w.heap.size+1+1,10,none⟩=some (.int .i64 0):=by rw[corQ _ _ 10 _ _ _ HXC.out.1];rfl
 have g11:Y4.cell? ⟨w.heap.size+1+1,11,none⟩=some (.slice sa an ac):=by rw[corQ _ _ 11 _ _ _ HXC.out.1];rfl
 have g12:Y4.cell? ⟨w.heap.size+1+1,12,none⟩=some (.int .i64 0):=by rw[corQ _ _ 12 _ _ _ HXC.out.1];rfl
 have g13:Y4.cell? ⟨w.heap.size+1+1,13,none⟩=some (.int .i64 0):=by rw[corQ _ _ 13 _ _ _ HXC.out.1];rfl
 have g14:Y4.cell? ⟨w.heap.size+1+1,14,none⟩=some (.string ⟨#[]⟩):=by rw[corQ _ _ 14 _ _ _ HXC.out.1];rfl
 have g15:Y4.cell? ⟨w.heap.size+1+1,15,none⟩=some (.slice none 0 0):=by rw[corQ _ _ 15 _ _ _ HXC.out.1];rfl
 exact sb4
end Go.Proofs.YtoidedomenkbpaaGreat
