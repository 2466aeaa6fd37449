/-
  .
-/
import Derived.Test.YtoidedomenkbpaaGreatWRPl6Qr
set_option maxRecDepth 100000
set_option maxHeartbeats 40000000
namespace Go.Proofs.YtoidedomenkbpaaGreat
open Go.RowKit Go.Shelf
set_option linter.unusedVariables false
set_option linter.unusedSimpArgs false
theorem zhT (w:World)(a1 a2 a3 a4 a5 a6 a7 a8 a9 a10 ai ak:Int)(sa ar:Option Addr)(an ac am ad:Nat)(aw:ByteArray):Calls Tryz.prog 57 #[.agg #[.int .i8 3,.int .i64 a1,.int .i64 a2,.int .i64 a3,.int .i64 a4,.int .i64 a5,.int .i64 a6,.int .i64 a7,.int .i64 a8,.int .i64 a9,.int .i64 a10,.slice sa an ac,.int .i64 ai,.int .i64 ak,.string aw,.slice ar am ad]] w (jg w #[.int .i8 3,.int .i64 a1,.int .i64 a2,.int .i64 0,.int .i64 a4,.int .i64 a5,.int .i64 0,.int .i64 a7,.int .i64 a8,.int .i64 a9,.int .i64 0,.slice none 0 0,.int .i64 ai,.int .i64 ak,.string aw,.slice ar am ad] false):=by
 obtain⟨B,hB⟩:∃B,B=zy w [.cells #[.int .i8 3,.int .i64 a1,.int .i64 a2,.int .i64 a3,.int .i64 a4,.int .i64 a5,.int .i64 a6,.int .i64 a7,.int .i64 a8,.int .i64 a9,.int .i64 a10,.slice sa an ac,.int .i64 ai,.int .i64 ak,.string aw,.slice ar am ad] 37,.cells #[.int .i8 0,.int .i64 0,.int .i64 0,.int .i64 0,.int .i64 0,.int .i64 0,.int .i64 0,.int .i64 0,.int .i64 0,.int .i64 0,.int .i64 0,.slice none 0 0,.int .i64 0,.int .i64 0,.string ⟨#[]⟩,.slice none 0 0] 37,.cells #[.int .i8 3,.int .i64 a1,.int .i64 a2,.int .i64 0,.int .i64 a4,.int .i64 0,.int .i64 0,.int .i64 0,.int .i64 0,.int .i64 0,.int .i64 0,.slice none 0 0,.int .i64 0,.int .i64 0,.string ⟨#[]⟩,.slice none 0 0] 37]:=⟨_,rfl⟩
 have hb:Below w.heap.size w B:=by rw[hB];exact zu _ _
 have e0:B.heap[w.heap.size]? =some (.cells #[.int .i8 3,.int .i64 a1,.int .i64 a2,.int .i64 a3,.int .i64 a4,.int .i64 a5,.int .i64 a6,.int .i64 a7,.int .i64 a8,.int .i64 a9,.int .i64 a10,.slice sa an ac,.int .i64 ai,.int .i64 ak,.string aw,.slice ar am ad] 37 (0,0)):=by rw[hB];exact zi _ _ 0 _ rfl
 have e1:B.heap[w.heap.size+1]? =some (.cells #[.int .i8 0,.int .i64 0,.int .i64 0,.int .i64 0,.int .i64 0,.int .i64 0,.int .i64 0,.int .i64 0,.int .i64 0,.int .i64 0,.int .i64 0,.slice none 0 0,.int .i64 0,.int .i64 0,.string ⟨#[]⟩,.slice none 0 0] 37 (0,0)):=by rw[hB];exact zi _ _ 1 _ rfl
 have e2:B.heap[w.heap.size+1+1]? =some (.cells #[.int .i8 3,.int .i64 a1,.int .i64 a2,.int .i64 0,.int .i64 a4,.int .i64 0,.int .i64 0,.int .i64 0,.int .i64 0,.int .i64 0,.int .i64 0,.slice none 0 0,.int .i64 0,.int .i64 0,.string ⟨#[]⟩,.slice none 0 0] 37 (0,0)):=by rw[hB];exact zi _ _ 2 _ rfl
 obtain⟨Y0,hY0,r0,q0,x0,y0,z0,s0⟩:=one_set (i:=5) (u:= .int .i64 a5) e2
 have r0' :Y0.heap[w.heap.size+1+1]? =some (.cells #[.int .i8 3,.int .i64 a1,.int .i64 a2,.int .i64 0,.int .i64 a4,.int .i64 a5,.int .i64 0,.int .i64 0,.int .i64 0,.int .i64 0,.int .i64 0,.slice none 0 0,.int .i64 0,.int .i64 0,.string ⟨#[]⟩,.slice none 0 0] 37 (0,0)):=by simpa using r0
 obtain⟨Y1,hY1,r1,q1,x1,y1,z1,s1⟩:=one_set (i:=7) (u:= .int .i64 a7) r0'
 have r1' :Y1.heap[w.heap.size+1+1]? =some (.cells #[.int .i8 3,.int .i64 a1,.int .i64 a2,.int .i64 0,.int .i64 a4,.int .i64 a5,.int .i64 0,.int .i64 a7,.int .i64 0,.int .i64 0,.int .i64 0,.slice none 0 0,.int .i64 0,.int .i64 0,.string ⟨#[]⟩,.slice none 0 0] 37 (0,0)):=by simpa using r1
 obtain⟨Y2,hY2,r2,q2,x2,y2,z2,s2⟩:=one_set (i:=8) (u:= .int .i64 a8) r1'
 have r2' :Y2.heap[w.heap.size+1+1]? =some (.cells #[.int .i8 3,.int .i64 a1,.int .i64 a2,.int .i64 0,.int .i64 a4,.int .i64 a5,.int .i64 0,.int .i64 a7,.int .i64 a8,.int .i64 0,.int .i64 0,.slice none 0 0,.int .i64 0,.int .i64 0,.string ⟨#[]⟩,.slice none 0 0] 37 (0,0)):=by simpa using r2
 obtain⟨Y3,hY3,r3,q3,x3,y3,z3,s3⟩:=one_set (i:=9) (u:= .int .i64 a9) r2'
 have r3' :Y3.heap[w.heap.size+1+1]? =some (.cells #[.int .i8 3,.int .i64 a1,.int .i64 a2,.int .i64 0,.int .i64 a4,.int .i64 a5,.int .i64 0,.int .i64 a7,.int .i64 a8,.int .i64 a9,.int .i64 0,.slice none 0 0,.int .i64 0,.int .i64 0,.string ⟨#[]⟩,.slice none 0 0] 37 (0,0)):=by simpa using r3
 obtain⟨Y4,hY4,r4,q4,x4,y4,z4,s4⟩:=one_set (i:=12) (u:= .int .i64 ai) r3'
 have r4' :Y4.heap[w.heap.size+1+1]? =some (.cells #[.int .i8 3,.int .i64 a1,.int .i64 a2,.int .i64 0,.int .i64 a4,.int .i64 a5,.int .i64 0,.int .i64 a7,.int .i64 a8,.int .i64 a9,.int .i64 0,.slice none 0 0,.int .i64 ai,.int .i64 0,.string ⟨#[]⟩,.slice none 0 0] 37 (0,0)):=by simpa using r4
 obtain⟨Y5,hY5,r5,q5,x5,y5,z5,s5⟩:=one_set (i:=13) (u:= .int .i64 ak) r4'
 have r5' :Y5.heap[w.heap.size+1+1]? =some (.cells #[.int .i8 3,.int .i64 a1,.int .i64 a2,.int .i64 0,.int .i64 a4,.int .i64 a5,.int .i64 0,.int .i64 a7,.int .i64 a8,.int .i64 a9,.int .i64 0,.slice none 0 0,.int .i64 ai,.int .i64 ak,.string ⟨#[]⟩,.slice none 0 0] 37 (0,0)):=by simpa using r5
 obtain⟨Y6,hY6,r6,q6,x6,y6,z6,s6⟩:=one_set (i:=14) (u:= .string aw) r5'
 have r6' :Y6.heap[w.heap.size+1+1]? =some (.cells #[.int .i8 3,.int .i64 a1,.int .i64 a2,.int .i64 0,.int .i64 a4,.int .i64 a5,.int .i64 0,.int .i64 a7,.int .i64 a8,.int .i64 a9,.int .i64 0,.slice none 0 0,.int .i64 ai,.int .i64 ak,.string aw,.slice none 0 0] 37 (0,0)):=by simpa using r6
 obtain⟨Y7,hY7,r7,q7,x7,y7,z7,s7⟩:=one_set (i:=15) (u:= .slice ar am ad) r6'
 have r7' :Y7.heap[w.heap.size+1+1]? =some (.cells #[.int .i8 3,.int .i64 a1,.int .i64 a2,.int .i64 0,.int .i64 a4,.int .i64 a5,.int .i64 0,.int .i64 a7,.int .i64 a8,.int .i64 a9,.int .i64 0,.slice none 0 0,.int .i64 ai,.int .i64 ak,.string aw,.slice ar am ad] 37 (0,0)):=by simpa using r7
 have hbx:Below w.heap.size w Y7:=⟨by rw[x7,x6,x5,x4,x3,x2,x1,x0];exact hb.os,by rw[y7,y6,y5,y4,y3,y2,y1,y0];exact hb.tape,by rw[z7,z6,z5,z4,z3,z2,z1,z0];exact hb.output,by rw[s7,s6,s5,s4,s3,s2,s1,s0];exact hb.size,fun y hy=>by rw[q7 y om,q6 y om,q5 y om,q4 y om,q3 y om,q2 y om,q1 y om,q0 y om];exact hb.block y hy⟩
 have f1:Y7.heap[w.heap.size+1]? =some (.cells #[.int .i8 0,.int .i64 0,.int .i64 0,.int .i64 0,.int .i64 0,.int .i64 0,.int .i64 0,.int .i64 0,.int .i64 0,.int .i64 0,.int .i64 0,.slice none 0 0,.int .i64 0,.int .i64 0,.string ⟨#[]⟩,.slice none 0 0] 37 (0,0)):=by rw[q7 _ om,q6 _ om,q5 _ om,q4 _ om,q3 _ om,q2 _ om,q1 _ om,q0 _ om];exact e1
 have hYE:Y7=((((((((B.setCell ⟨w.heap.size+1+1,5,none⟩ (.int .i64 a5)).setCell ⟨w.heap.size+1+1,7,none⟩ (.int .i64 a7)).setCell ⟨w.heap.size+1+1,8,none⟩ (.int .i64 a8)).setCell ⟨w.heap.size+1+1,9,none⟩ (.int .i64 a9)).setCell ⟨w.heap.size+1+1,12,none⟩ (.int .i64 ai)).setCell ⟨w.heap.size+1+1,13,none⟩ (.int .i64 ak)).setCell ⟨w.heap.size+1+1,14,none⟩ (.string aw)).setCell ⟨w.heap.size+1+1,15,none⟩ (.slice ar am ad)):=by rw[hY7,hY6,hY5,hY4,hY3,hY2,hY1,hY0]
 obtain⟨V,hV,v1,v2,v3,v4,v5,v6⟩:=yS (u0:= .int .i8 3) (u1:= .int .i64 a1) (u2:= .int .i64 a2) (u3:= .int .i64 0) (u4:= .int .i64 a4) (u5:= .int .i64 a5) (u6:= .int .i64 0) (u7:= .int .i64 a7) (u8:= .int .i64 a8) (u9:= .int .i64 a9) (u10:= .int .i64 0) (u11:= .slice none 0 0) (u12:= .int .i64 ai) (u13:= .int .i64 ak) (u14:= .string aw) (u15:= .slice ar am ad) f1
 have HEND:=hH (aN v1 (show Below w.heap.size w V from⟨v3.trans hbx.os,v4.trans hbx.tape,v5.trans hbx.output,by rw[v6];exact hbx.size,fun y hy=>(v2 y om).trans (hbx.block y hy)⟩))
 have HV:=hH hV
 have HB:=hH hB
 have HYE:=hH hYE
 have HXC:=hH (aN r7' f1)
 have c0:B.cell? ⟨w.heap.size,0,none⟩=some (.int .i8 3):=by rw[corQ _ _ 0 _ _ _ e0];rfl
 have c5:B.cell? ⟨w.heap.size,5,none⟩=some (.int .i64 a5):=by rw[corQ _ _ 5 _ _ _ e0];rfl
 have d5:B.cell? ⟨w.heap.size+1+1,5,none⟩=some (.int .i64 0):=by rw[corQ _ _ 5 _ _ _ e2];rfl
 have c7:B.cell? ⟨w.heap.size,7,none⟩=some (.int .i64 a7):=by rw[corQ _ _ 7 _ _ _ e0];rfl
 have d7:B.cell? ⟨w.heap.size+1+1,7,none⟩=some (.int .i64 0):=by rw[corQ _ _ 7 _ _ _ e2];rfl
 have c8:B.cell? ⟨w.heap.size,8,none⟩=some (.int .i64 a8):=by rw[corQ _ _ 8 _ _ _ e0];rfl
 have d8:B.cell? ⟨w.heap.size+1+1,8,none⟩=some (.int .i64 0):=by rw[corQ _ _ 8 _ _ _ e2];rfl
 have c9:B.cell? ⟨w.heap.size,9,none⟩=some (.int .i64 a9):=by rw[corQ _ _ 9 _ _ _ e0];rfl
 have d9:B.cell? ⟨w.heap.size+1+1,9,none⟩=some (.int .i64 0):=by rw[corQ _ _ 9 _ _ _ e2];rfl
 have c12:B.cell? ⟨w.heap.size,12,none⟩=some (.int .i64 ai):=by rw[corQ _ _ 12 _ _ _ e0];rfl
 have d12:B.cell? ⟨w.heap.size+1+1,12,none⟩=some (.int .i64 0):=by rw[corQ _ _ 12 _ _ _ e2];rfl
 have c13:B.cell? ⟨w.heap.size,13,none⟩=some (.int .i64 ak):=by rw[corQ _ _ 13 _ _ _ e0];rfl
 have d13:B.cell? ⟨w.heap.size+1+1,13,none⟩=some (.int .i64 0):=by rw[corQ _ _ 13 _ _ _ e2];rfl
 have c14:B.cell? ⟨w.heap.size,14,none⟩=some (.string aw):=by rw[corQ _ _ 14 _ _ _ e0];rfl
 have d14:B.cell? ⟨w.heap.size+1+1,14,none⟩=some (.string ⟨#[]⟩):=by rw[corQ _ _ 14 _ _ _ e2];rfl
 have c15:B.cell? ⟨w.heap.size,15,none⟩=some (.slice ar am ad):=by rw[corQ _ _ 15 _ _ _ e0];rfl
 have d15:B.cell? ⟨w.heap.size+1+1,15,none⟩=some (.slice none 0 0):=by rw[corQ _ _ 15 _ _ _ e2];rfl
 have df:∀j,B.frozen? ⟨w.heap.size+1+1,j,none⟩=false:=fun j=>forQ _ _ j _ _ e2
 clear hB hb e0 e1 e2 hV v1 v2 v3 v4 v5 v6 hbx f1 hY0 r0 r0' q0 x0 y0 z0 s0 hY1 r1 r1' q1 x1 y1 z1 s1 hY2 r2 r2' q2 x2 y2 z2 s2 hY3 r3 r3' q3 x3 y3 z3 s3 hY4 r4 r4' q4 x4 y4 z4 s4 hY5 r5 r5' q5 x5 y5 z5 s5 hY6 r6 r6' q6 x6 y6 z6 s6 hY7 r7 r7' q7 x7 y7 z7 s7 hYE
 go_enter Tryz.func57,Tryz.ntmps57
 go_upto_region 2 with fail
 change Code.wp _ _ _ _ (zy w [.cells #[.int .i8 3,.int .i64 a1,.int .i64 a2,.int .i64 a3,.int .i64 a4,.int .i64 a5,.int .i64 a6,.int .i64 a7,.int .i64 a8,.int .i64 a9,.int .i64 a10,.slice sa an ac,.int .i64 ai,.int .i64 ak,.string aw,.slice ar am ad] 37,.cells #[.int .i8 0,.int .i64 0,.int .i64 0,.int .i64 0,.int .i64 0,.int .i64 0,.int .i64 0,.int .i64 0,.int .i64 0,.int .i64 0,.int .i64 0,.slice none 0 0,.int .i64 0,.int .i64 0,.string ⟨#[]⟩,.slice none 0 0] 37,.cells #[.int .i8 3,.int .i64 a1,.int .i64 a2,.int .i64 0,.int .i64 a4,.int .i64 0,.int .i64 0,.int .i64 0,.int .i64 0,.int .i64 0,.int .i64 0,.slice none 0 0,.int .i64 0,.int .i64 0,.string ⟨#[]⟩,.slice none 0 0] 37])
 rw[←HB.out]
 go_upto_region 37 with fail
 rw[←HYE.out]
 clear c0 df c5 d5 c7 d7 c8 d8 c9 d9 c12 d12 c13 d13 c14 d14 c15 d15
 have g0:Y7.cell? ⟨w.heap.size+1+1,0,none⟩=some (.int .i8 3):=by rw[corQ _ _ 0 _ _ _ HXC.out.1];rfl
 have g1:Y7.cell? ⟨w.heap.size+1+1,1,none⟩=some (.int .i64 a1):=by rw[corQ _ _ 1 _ _ _ HXC.out.1];rfl
 have g2:Y7.cell? ⟨w.heap.size+1+1,2,none⟩=some (.int .i64 a2):=by rw[corQ _ _ 2 _ _ _ HXC.out.1];rfl
 have g3:Y7.cell? ⟨w.heap.size+1+1,3,none⟩=some (.int .i64 0):=by rw[corQ _ _ 3 _ _ _ HXC.out.1];rfl
 have g4:Y7.cell? ⟨w.heap.size+1+1,4,none⟩=some (.int .i64 a4):=by rw[corQ _ _ 4 _ _ _ HXC.out.1];rfl
 have g5:Y7.cell? ⟨w.heap.size+1+1,5,none⟩=some (.int .i64 a5):=by rw[corQ _ _ 5 _ _ _ HXC.out.1];rfl
 have g6:Y7.cell? ⟨w.heap.size+1+1,6,none⟩=some (.int .i64 0):=by rw[corQ _ _ 6 _ _ _ HXC.out.1];rfl
 have g7:Y7.cell? ⟨w.heap.size+1+1,7,none⟩=some (.int .i64 a7):=by rw[corQ _ _ 7 _ _ _ HXC.out.1];rfl
 have g8:Y7.cell? ⟨w.heap.size+1+1,8,none⟩=some (.int .i64 a8):=by rw[corQ _ _ 8 _ _ _ HXC.out.1];rfl
 have g9:Y7.cell? ⟨w.heap.size+1+1,9,none⟩=some (.int .i64 a9):=by rw[corQ _ _ 9 _ _ _ HXC.out.1];rfl
 have g10:Y7.cell? ⟨w.heap.size+1+1,10,none⟩=some (.int .i64 0):=by rw[corQ _ _ 10 _ _ _ HXC.out.1];rfl
 have g11:Y7.cell? ⟨w.heap.size+1+1,11,none⟩=some (.slice none 0 0):=by rw[corQ _ _ 11 _ _ _ HXC.out.1];rfl
 have g12:Y7.cell? ⟨w.heap.size+1+1,12,none⟩=some (.int .i64 ai):=by rw[corQ _ _ 12 _ _ _ HXC.out.1];rfl
 have g13:Y7.cell? ⟨w.heap.size+1+1,13,none⟩=some (.int .i64 ak):=by rw[corQ _ _ 13 _ _ _ HXC.out.1];rfl
 have g14:Y7.cell? ⟨w.heap.size+1+1,14,none⟩=some (.string aw):=by rw[corQ _ _ 14 _ _ _ HXC.out.1];rfl
 have g15:Y7.cell? ⟨w.heap.size+1+1,15,none⟩=some (.slice ar am ad):=by rw[corQ _ _ 15 _ _ _ HXC.out.1];rfl
 have z0:Y7.cell? ⟨w.heap.size+1,0,none⟩=some (.int .i8 0):=by rw[corQ _ _ 0 _ _ _ HXC.out.2];rfl
 have z1:Y7.cell? ⟨w.heap.size+1,1,none⟩=some (.int .i64 0):=by rw[corQ _ _ 1 _ _ _ HXC.out.2];rfl
 have z2:Y7.cell? ⟨w.heap.size+1,2,none⟩=some (.int .i64 0):=by rw[corQ _ _ 2 _ _ _ HXC.out.2];rfl
 have z3:Y7.cell? ⟨w.heap.size+1,3,none⟩=some (.int .i64 0):=by rw[corQ _ _ 3 _ _ _ HXC.out.2];rfl
 have z4:Y7.cell? ⟨w.heap.size+1,4,none⟩=some (.int .i64 0):=by rw[corQ _ _ 4 _ _ _ HXC.out.2];rfl
 have z5:Y7.cell? ⟨w.heap.size+1,5,none⟩=some (.int .i64 0):=by rw[corQ _ _ 5 _ _ _ HXC.out.2];rfl
 have z6:Y7.cell? ⟨w.heap.size+1,6,none⟩=some (.int .i64 0):=by rw[corQ _ _ 6 _ _ _ HXC.out.2];rfl
 have z7:Y7.cell? ⟨w.heap.size+1,7,none⟩=some (.int .i64 0):=by rw[corQ _ _ 7 _ _ _ HXC.out.2];rfl
 have z8:Y7.cell? ⟨w.heap.size+1,8,none⟩=some (.int .i64 0):=by rw[corQ _ _ 8 _ _ _ HXC.out.2];rfl
 have z9:Y7.cell? ⟨w.heap.size+1,9,none⟩=some (.int .i64 0):=by rw[corQ _ _ 9 _ _ _ HXC.out.2];rfl
 have z10:Y7.cell? ⟨w.heap.size+1,10,none⟩=some (.int .i64 0):=by rw[corQ _ _ 10 _ _ _ HXC.out.2];rfl
 have z11:Y7.cell? ⟨w.heap.size+1,11,none⟩=some (.slice none 0 0):=by rw[corQ _ _ 11 _ _ _ HXC.out.2];rfl
 have z12:Y7.cell? ⟨w.heap.size+1,12,none⟩=some (.int .i64 0):=by rw[corQ _ _ 12 _ _ _ HXC.out.2];rfl
 have z13:Y7.cell? ⟨w.heap.size+1,13,none⟩=some (.int .i64 0):=by rw[corQ _ _ 13 _ _ _ HXC.out.2];rfl
 have z14:Y7.cell? ⟨w.heap.size+1,14,none⟩=some (.string ⟨#[]⟩):=by rw[corQ _ _ 14 _ _ _ HXC.out.2];rfl
 have z15:Y7.cell? ⟨w.heap.size+1,15,none⟩=some (.slice none 0 0):=by rw[corQ _ _ 15 _ _ _ HXC.out.2];rfl
 have zf:∀j,Y7.frozen? ⟨w.heap.size+1,j,none⟩=false:=fun j=>forQ _ _ j _ _ HXC.out.2
 exact sb5
end Go.Proofs.YtoidedomenkbpaaGreat
