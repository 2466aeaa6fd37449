/-
  .
-/
import Derived.Test.YtoidedomenkbpaaGreatWRPl6Qr
set_option maxRecDepth 100000
set_option maxHeartbeats 40000000
namespace Go.Proofs.YtoidedomenkbpaaGreat
open Go.RowKit Go.Shelf
set_option linter.unusedVariables false
set_option linter.unusedSimpArgs false
theorem zhr (w:World)(a1 a2 a3 a4 a5 a6 a7 a8 a9 a10 ai ak:Int)(sa ar:Option Addr)(an ac am ad:Nat)(aw:ByteArray):Calls Tryz.prog 59 #[.agg #[.int .i8 2,.int .i64 a1,.int .i64 a2,.int .i64 a3,.int .i64 a4,.int .i64 a5,.int .i64 a6,.int .i64 a7,.int .i64 a8,.int .i64 a9,.int .i64 a10,.slice sa an ac,.int .i64 ai,.int .i64 ak,.string aw,.slice ar am ad]] w (zx (zl 1 1125899906842624 a5 && (zl 1 1125899906842624 a6)) w):=by
 obtain⟨B,hB⟩:∃B,B=w.alloc (.cells #[.int .i8 2,.int .i64 a1,.int .i64 a2,.int .i64 a3,.int .i64 a4,.int .i64 a5,.int .i64 a6,.int .i64 a7,.int .i64 a8,.int .i64 a9,.int .i64 a10,.slice sa an ac,.int .i64 ai,.int .i64 ak,.string aw,.slice ar am ad] 37):=⟨_,rfl⟩
 have hb:Below w.heap.size w B:=by rw[hB];exact (BrQ _ _).alloc (NlrQ _) _
 have e0:B.heap[w.heap.size]? =some (.cells #[.int .i8 2,.int .i64 a1,.int .i64 a2,.int .i64 a3,.int .i64 a4,.int .i64 a5,.int .i64 a6,.int .i64 a7,.int .i64 a8,.int .i64 a9,.int .i64 a10,.slice sa an ac,.int .i64 ai,.int .i64 ak,.string aw,.slice ar am ad] 37 (0,0)):=by rw[hB];exact hanQ _ _
 have c0:B.cell? ⟨w.heap.size,0,none⟩=some (.int .i8 2):=by rw[corQ _ _ 0 _ _ _ e0];rfl
 have c5:B.cell? ⟨w.heap.size,5,none⟩=some (.int .i64 a5):=by rw[corQ _ _ 5 _ _ _ e0];rfl
 have c6:B.cell? ⟨w.heap.size,6,none⟩=some (.int .i64 a6):=by rw[corQ _ _ 6 _ _ _ e0];rfl
 have HB:=hH (aN hb hB)
 clear hb hB e0
 obtain⟨b0,hb0⟩:∃b,b=zl 1 1125899906842624 a5:=⟨_,rfl⟩
 rw[←hb0]
 have HN0:=hH (fun Y=>zD Y a5 1)
 rw[←hb0] at HN0
 clear hb0
 obtain⟨b1,hb1⟩:∃b,b=zl 1 1125899906842624 a6:=⟨_,rfl⟩
 rw[←hb1]
 have HN1:=hH (fun Y=>zD Y a6 1)
 rw[←hb1] at HN1
 clear hb1
 go_enter Tryz.func59,Tryz.ntmps59
 go_upto_region 1 with fail
 change Code.wp _ _ _ _ (w.alloc (.cells #[.int .i8 2,.int .i64 a1,.int .i64 a2,.int .i64 a3,.int .i64 a4,.int .i64 a5,.int .i64 a6,.int .i64 a7,.int .i64 a8,.int .i64 a9,.int .i64 a10,.slice sa an ac,.int .i64 ai,.int .i64 ak,.string aw,.slice ar am ad] 37))
 exact se1
theorem zhs (w:World)(a1 a2 a3 a4 a5 a6 a7 a8 a9 a10 ai ak:Int)(sa ar:Option Addr)(an ac am ad:Nat)(aw:ByteArray)(sb:Bool)(hst:∀Y,Below w.heap.size w Y→Calls Tryz.prog 108 #[.slice sa an ac] Y (zx sb Y)):Calls Tryz.prog 59 #[.agg #[.int .i8 5,.int .i64 a1,.int .i64 a2,.int .i64 a3,.int .i64 a4,.int .i64 a5,.int .i64 a6,.int .i64 a7,.int .i64 a8,.int .i64 a9,.int .i64 a10,.slice sa an ac,.int .i64 ai,.int .i64 ak,.string aw,.slice ar am ad]] w (zx (zl 1 1125899906842624 a5 && (zl 1 1125899906842624 a7 && (zl 1 1125899906842624 a8 && (sb)))) w):=by
 obtain⟨B,hB⟩:∃B,B=w.alloc (.cells #[.int .i8 5,.int .i64 a1,.int .i64 a2,.int .i64 a3,.int .i64 a4,.int .i64 a5,.int .i64 a6,.int .i64 a7,.int .i64 a8,.int .i64 a9,.int .i64 a10,.slice sa an ac,.int .i64 ai,.int .i64 ak,.string aw,.slice ar am ad] 37):=⟨_,rfl⟩
 have hb:Below w.heap.size w B:=by rw[hB];exact (BrQ _ _).alloc (NlrQ _) _
 have e0:B.heap[w.heap.size]? =some (.cells #[.int .i8 5,.int .i64 a1,.int .i64 a2,.int .i64 a3,.int .i64 a4,.int .i64 a5,.int .i64 a6,.int .i64 a7,.int .i64 a8,.int .i64 a9,.int .i64 a10,.slice sa an ac,.int .i64 ai,.int .i64 ak,.string aw,.slice ar am ad] 37 (0,0)):=by rw[hB];exact hanQ _ _
 have c0:B.cell? ⟨w.heap.size,0,none⟩=some (.int .i8 5):=by rw[corQ _ _ 0 _ _ _ e0];rfl
 have c5:B.cell? ⟨w.heap.size,5,none⟩=some (.int .i64 a5):=by rw[corQ _ _ 5 _ _ _ e0];rfl
 have c7:B.cell? ⟨w.heap.size,7,none⟩=some (.int .i64 a7):=by rw[corQ _ _ 7 _ _ _ e0];rfl
 have c8:B.cell? ⟨w.heap.size,8,none⟩=some (.int .i64 a8):=by rw[corQ _ _ 8 _ _ _ e0];rfl
 have c11:B.cell? ⟨w.heap.size,11,none⟩=some (.slice sa an ac):=by rw[corQ _ _ 11 _ _ _ e0];rfl
 have HB:=hH (aN hb hB)
 clear hb hB e0
 obtain⟨b0,hb0⟩:∃b,b=zl 1 1125899906842624 a5:=⟨_,rfl⟩
 rw[←hb0]
 have HN0:=hH (fun Y=>zD Y a5 1)
 rw[←hb0] at HN0
 clear hb0
 obtain⟨b1,hb1⟩:∃b,b=zl 1 1125899906842624 a7:=⟨_,rfl⟩
 rw[←hb1]
 have HN1:=hH (fun Y=>zD Y a7 1)
 rw[←hb1] at HN1
 clear hb1
 obtain⟨b2,hb2⟩:∃b,b=zl 1 1125899906842624 a8:=⟨_,rfl⟩
 rw[←hb2]
 have HN2:=hH (fun Y=>zD Y a8 1)
 rw[←hb2] at HN2
 clear hb2
 have HN3:=hH hst
 clear hst
 go_enter Tryz.func59,Tryz.ntmps59
 go_upto_region 1 with fail
 change Code.wp _ _ _ _ (w.alloc (.cells #[.int .i8 5,.int .i64 a1,.int .i64 a2,.int .i64 a3,.int .i64 a4,.int .i64 a5,.int .i64 a6,.int .i64 a7,.int .i64 a8,.int .i64 a9,.int .i64 a10,.slice sa an ac,.int .i64 ai,.int .i64 ak,.string aw,.slice ar am ad] 37))
 rw[←HB.out.2]
 go_wp2_with fail
 refine (HN0.out _).mono ?_
 rintro e w1 ⟨rfl,h2⟩
 rw[h2]
 clear h2 w1
 cases b0
 · go_wp2_with fail
   go_ret
   exact⟨rfl,HB.out.1⟩
 go_wp2_with fail
 refine (HN1.out _).mono ?_
 rintro e w1 ⟨rfl,h2⟩
 rw[h2]
 clear h2 w1
 cases b1
 · go_wp2_with fail
   go_ret
   exact⟨rfl,HB.out.1⟩
 go_wp2_with fail
 refine (HN2.out _).mono ?_
 rintro e w1 ⟨rfl,h2⟩
 rw[h2]
 clear h2 w1
 cases b2
 · go_wp2_with fail
   go_ret
   exact⟨rfl,HB.out.1⟩
 go_wp2_with fail
 refine (HN3.out _ HB.out.1).mono ?_
 exact sd8
theorem zht (w:World)(a1 a2 a3 a4 a5 a6 a7 a8 a9 a10 ai ak:Int)(sa ar:Option Addr)(an ac am ad:Nat)(aw:ByteArray):Calls Tryz.prog 59 #[.agg #[.int .i8 9,.int .i64 a1,.int .i64 a2,.int .i64 a3,.int .i64 a4,.int .i64 a5,.int .i64 a6,.int .i64 a7,.int .i64 a8,.int .i64 a9,.int .i64 a10,.slice sa an ac,.int .i64 ai,.int .i64 ak,.string aw,.slice ar am ad]] w (zx (true) w):=by
 obtain⟨B,hB⟩:∃B,B=w.alloc (.cells #[.int .i8 9,.int .i64 a1,.int .i64 a2,.int .i64 a3,.int .i64 a4,.int .i64 a5,.int .i64 a6,.int .i64 a7,.int .i64 a8,.int .i64 a9,.int .i64 a10,.slice sa an ac,.int .i64 ai,.int .i64 ak,.string aw,.slice ar am ad] 37):=⟨_,rfl⟩
 have hb:Below w.heap.size w B:=by rw[hB];exact (BrQ _ _).alloc (NlrQ _) _
 have e0:B.heap[w.heap.size]? =some (.cells #[.int .i8 9,.int .i64 a1,.int .i64 a2,.int .i64 a3,.int .i64 a4,.int .i64 a5,.int .i64 a6,.int .i64 a7,.int .i64 a8,.int .i64 a9,.int .i64 a10,.slice sa an ac,.int .i64 ai,.int .i64 ak,.string aw,.slice ar am ad] 37 (0,0)):=by rw[hB];exact hanQ _ _
 have c0:B.cell? ⟨w.heap.size,0,none⟩=some (.int .i8 9):=by rw[corQ _ _ 0 _ _ _ e0];rfl
 have HB:=hH (aN hb hB)
 clear hb hB e0
 go_enter Tryz.func59,Tryz.ntmps59
 go_upto_region 1 with fail
 change Code.wp _ _ _ _ (w.alloc (.cells #[.int .i8 9,.int .i64 a1,.int .i64 a2,.int .i64 a3,.int .i64 a4,.int .i64 a5,.int .i64 a6,.int .i64 a7,.int .i64 a8,.int .i64 a9,.int .i64 a10,.slice sa an ac,.int .i64 ai,.int .i64 ak,.string aw,.slice ar am ad] 37))
 rw[←HB.out.2]
 go_wp2_with fail
 go_ret
 exact⟨rfl,HB.out.1⟩
theorem zgt (w:World)(a1 a2 a3 a4 a5 a6 a7 a8 a9 a10 ai ak:Int)(sa ar:Option Addr)(an ac am ad:Nat)(aw:ByteArray)(tb:Bool)(htr:∀Y,Below w.heap.size w Y→Calls Tryz.prog 30 #[.agg #[.int .i64 ai,.int .i64 ak,.string aw,.slice ar am ad]] Y (zx tb Y)):Calls Tryz.prog 60 #[.agg #[.int .i8 3,.int .i64 a1,.int .i64 a2,.int .i64 a3,.int .i64 a4,.int .i64 a5,.int .i64 a6,.int .i64 a7,.int .i64 a8,.int .i64 a9,.int .i64 a10,.slice sa an ac,.int .i64 ai,.int .i64 ak,.string aw,.slice ar am ad]] w (zx (zl 1 1125899906842624 a5 && (zl 1 1125899906842624 a7 && (zl 1 1125899906842624 a8 && (zl 0 1125899906842624 a9 && (tb))))) w):=by
 obtain⟨B,hB⟩:∃B,B=w.alloc (.cells #[.int .i8 3,.int .i64 a1,.int .i64 a2,.int .i64 a3,.int .i64 a4,.int .i64 a5,.int .i64 a6,.int .i64 a7,.int .i64 a8,.int .i64 a9,.int .i64 a10,.slice sa an ac,.int .i64 ai,.int .i64 ak,.string aw,.slice ar am ad] 37):=⟨_,rfl⟩
 have hb:Below w.heap.size w B:=by rw[hB];exact (BrQ _ _).alloc (NlrQ _) _
 have e0:B.heap[w.heap.size]? =some (.cells #[.int .i8 3,.int .i64 a1,.int .i64 a2,.int .i64 a3,.int .i64 a4,.int .i64 a5,.int .i64 a6,.int .i64 a7,.int .i64 a8,.int .i64 a9,.int .i64 a10,.slice sa an ac,.int .i64 ai,.int .i64 ak,.string aw,.slice ar am ad] 37 (0,0)):=by rw[hB];exact hanQ _ _
 have c0:B.cell? ⟨w.heap.size,0,none⟩=some (.int .i8 3):=by rw[corQ _ _ 0 _ _ _ e0];rfl
 have c5:B.cell? ⟨w.heap.size,5,none⟩=some (.int .i64 a5):=by rw[corQ _ _ 5 _ _ _ e0];rfl
 have c7:B.cell? ⟨w.heap.size,7,none⟩=some (.int .i64 a7):=by rw[corQ _ _ 7 _ _ _ e0];rfl
 have c8:B.cell? ⟨w.heap.size,8,none⟩=some (.int .i64 a8):=by rw[corQ _ _ 8 _ _ _ e0];rfl
 have c9:B.cell? ⟨w.heap.size,9,none⟩=some (.int .i64 a9):=by rw[corQ _ _ 9 _ _ _ e0];rfl
 have c12:B.cell? ⟨w.heap.size,12,none⟩=some (.int .i64 ai):=by rw[corQ _ _ 12 _ _ _ e0];rfl
 have c13:B.cell? ⟨w.heap.size,13,none⟩=some (.int .i64 ak):=by rw[corQ _ _ 13 _ _ _ e0];rfl
 have c14:B.cell? ⟨w.heap.size,14,none⟩=some (.string aw):=by rw[corQ _ _ 14 _ _ _ e0];rfl
 have c15:B.cell? ⟨w.heap.size,15,none⟩=some (.slice ar am ad):=by rw[corQ _ _ 15 _ _ _ e0];rfl
 have HB:=hH (aN hb hB)
 clear hb hB e0
 obtain⟨b0,hb0⟩:∃b,b=zl 1 1125899906842624 a5:=⟨_,rfl⟩
 rw[←hb0]
 have HN0:=hH (fun Y=>zD Y a5 1)
 rw[←hb0] at HN0
 clear hb0
 obtain⟨b1,hb1⟩:∃b,b=zl 1 1125899906842624 a7:=⟨_,rfl⟩
 rw[←hb1]
 have HN1:=hH (fun Y=>zD Y a7 1)
 rw[←hb1] at HN1
 clear hb1
 obtain⟨b2,hb2⟩:∃b,b=zl 1 1125899906842624 a8:=⟨_,rfl⟩
 rw[←hb2]
 have HN2:=hH (fun Y=>zD Y a8 1)
 rw[←hb2] at HN2
 clear hb2
 obtain⟨b3,hb3⟩:∃b,b=zl 0 1125899906842624 a9:=⟨_,rfl⟩
 rw[←hb3]
 have HN3:=hH (fun Y=>zD Y a9 0)
 rw[←hb3] at HN3
 clear hb3
 have HN4:=hH htr
 clear htr
 go_enter Tryz.func60,Tryz.ntmps60
 go_upto_region 1 with fail
 change Code.wp _ _ _ _ (w.alloc (.cells #[.int .i8 3,.int .i64 a1,.int .i64 a2,.int .i64 a3,.int .i64 a4,.int .i64 a5,.int .i64 a6,.int .i64 a7,.int .i64 a8,.int .i64 a9,.int .i64 a10,.slice sa an ac,.int .i64 ai,.int .i64 ak,.string aw,.slice ar am ad] 37))
 rw[←HB.out.2]
 go_wp2_with fail
 refine (HN0.out _).mono ?_
 rintro e w1 ⟨rfl,h2⟩
 rw[h2]
 clear h2 w1
 cases b0
 · go_wp2_with fail
   go_ret
   exact⟨rfl,HB.out.1⟩
 go_wp2_with fail
 refine (HN1.out _).mono ?_
 rintro e w1 ⟨rfl,h2⟩
 rw[h2]
 clear h2 w1
 cases b1
 · go_wp2_with fail
   go_ret
   exact⟨rfl,HB.out.1⟩
 go_wp2_with fail
 refine (HN2.out _).mono ?_
 rintro e w1 ⟨rfl,h2⟩
 rw[h2]
 clear h2 w1
 cases b2
 · go_wp2_with fail
   go_ret
   exact⟨rfl,HB.out.1⟩
 go_wp2_with fail
 refine (HN3.out _).mono ?_
 rintro e w1 ⟨rfl,h2⟩
 rw[h2]
 clear h2 w1
 cases b3
 · go_wp2_with fail
   go_ret
   exact⟨rfl,HB.out.1⟩
 go_wp2_with fail
 refine (HN4.out _ HB.out.1).mono ?_
 exact sd8
theorem zgu (w:World)(a1 a2 a3 a4 a5 a6 a7 a8 a9 a10 ai ak:Int)(sa ar:Option Addr)(an ac am ad:Nat)(aw:ByteArray):Calls Tryz.prog 60 #[.agg #[.int .i8 4,.int .i64 a1,.int .i64 a2,.int .i64 a3,.int .i64 a4,.int .i64 a5,.int .i64 a6,.int .i64 a7,.int .i64 a8,.int .i64 a9,.int .i64 a10,.slice sa an ac,.int .i64 ai,.int .i64 ak,.string aw,.slice ar am ad]] w (zx (zl 1 1125899906842624 a5 && (decide (1≤a10) && (decide (a10≤999)))) w):=by
 obtain⟨B,hB⟩:∃B,B=w.alloc (.cells #[.int .i8 4,.int .i64 a1,.int .i64 a2,.int .i64 a3,.int .i64 a4,.int .i64 a5,.int .i64 a6,.int .i64 a7,.int .i64 a8,.int .i64 a9,.int .i64 a10,.slice sa an ac,.int .i64 ai,.int .i64 ak,.string aw,.slice ar am ad] 37):=⟨_,rfl⟩
 have hb:Below w.heap.size w B:=by rw[hB];exact (BrQ _ _).alloc (NlrQ _) _
 have e0:B.heap[w.heap.size]? =some (.cells #[.int .i8 4,.int .i64 a1,.int .i64 a2,.int .i64 a3,.int .i64 a4,.int .i64 a5,.int .i64 a6,.int .i64 a7,.int .i64 a8,.int .i64 a9,.int .i64 a10,.slice sa an ac,.int .i64 ai,.int .i64 ak,.string aw,.slice ar am ad] 37 (0,0)):=by rw[hB];exact hanQ _ _
 have c0:B.cell? ⟨w.heap.size,0,none⟩=some (.int .i8 4):=by rw[corQ _ _ 0 _ _ _ e0];rfl
 have c5:B.cell? ⟨w.heap.size,5,none⟩=some (.int .i64 a5):=by rw[corQ _ _ 5 _ _ _ e0];rfl
 have c10:B.cell? ⟨w.heap.size,10,none⟩=some (.int .i64 a10):=by rw[corQ _ _ 10 _ _ _ e0];rfl
 have HB:=hH (aN hb hB)
 clear hb hB e0
 obtain⟨b0,hb0⟩:∃b,b=zl 1 1125899906842624 a5:=⟨_,rfl⟩
 rw[←hb0]
 have HN0:=hH (fun Y=>zD Y a5 1)
 rw[←hb0] at HN0
 clear hb0
 obtain⟨b1,hb1⟩:∃b,b=decide (1≤a10):=⟨_,rfl⟩
 rw[←hb1]
 obtain⟨b2,hb2⟩:∃b,b=decide (a10≤999):=⟨_,rfl⟩
 rw[←hb2]
 go_enter Tryz.func60,Tryz.ntmps60
 go_upto_region 1 with fail
 change Code.wp _ _ _ _ (w.alloc (.cells #[.int .i8 4,.int .i64 a1,.int .i64 a2,.int .i64 a3,.int .i64 a4,.int .i64 a5,.int .i64 a6,.int .i64 a7,.int .i64 a8,.int .i64 a9,.int .i64 a10,.slice sa an ac,.int .i64 ai,.int .i64 ak,.string aw,.slice ar am ad] 37))
 exact sc8
theorem zgw (w:World)(a1 a2 a3 a4 a5 a6 a7 a8 a9 a10 ai ak:Int)(sa ar:Option Addr)(an ac am ad:Nat)(aw:ByteArray):Calls Tryz.prog 60 #[.agg #[.int .i8 7,.int .i64 a1,.int .i64 a2,.int .i64 a3,.int .i64 a4,.int .i64 a5,.int .i64 a6,.int .i64 a7,.int .i64 a8,.int .i64 a9,.int .i64 a10,.slice sa an ac,.int .i64 ai,.int .i64 ak,.string aw,.slice ar am ad]] w (zx (zl 1 1125899906842624 a5 && (decide (1≤a10) && (decide (a10≤999)))) w):=by
 obtain⟨B,hB⟩:∃B,B=w.alloc (.cells #[.int .i8 7,.int .i64 a1,.int .i64 a2,.int .i64 a3,.int .i64 a4,.int .i64 a5,.int .i64 a6,.int .i64 a7,.int .i64 a8,.int .i64 a9,.int .i64 a10,.slice sa an ac,.int .i64 ai,.int .i64 ak,.string aw,.slice ar am ad] 37):=⟨_,rfl⟩
 have hb:Below w.heap.size w B:=by rw[hB];exact (BrQ _ _).alloc (NlrQ _) _
 have e0:B.heap[w.heap.size]? =some (.cells #[.int .i8 7,.int .i64 a1,.int .i64 a2,.int .i64 a3,.int .i64 a4,.int .i64 a5,.int .i64 a6,.int .i64 a7,.int .i64 a8,.int .i64 a9,.int .i64 a10,.slice sa an ac,.int .i64 ai,.int .i64 ak,.string aw,.slice ar am ad] 37 (0,0)):=by rw[hB];exact hanQ _ _
 have c0:B.cell? ⟨w.heap.size,0,none⟩=some (.int .i8 7):=by rw[corQ _ _ 0 _ _ _ e0];rfl
 have c5:B.cell? ⟨w.heap.size,5,none⟩=some (.int .i64 a5):=by rw[corQ _ _ 5 _ _ _ e0];rfl
 have c10:B.cell? ⟨w.heap.size,10,none⟩=some (.int .i64 a10):=by rw[corQ _ _ 10 _ _ _ e0];rfl
 have HB:=hH (aN hb hB)
 clear hb hB e0
 obtain⟨b0,hb0⟩:∃b,b=zl 1 1125899906842624 a5:=⟨_,rfl⟩
 rw[←hb0]
 have HN0:=hH (fun Y=>zD Y a5 1)
 rw[←hb0] at HN0
 clear hb0
 obtain⟨b1,hb1⟩:∃b,b=decide (1≤a10):=⟨_,rfl⟩
 rw[←hb1]
 obtain⟨b2,hb2⟩:∃b,b=decide (a10≤999):=⟨_,rfl⟩
 rw[←hb2]
 go_enter Tryz.func60,Tryz.ntmps60
 go_upto_region 1 with fail
 change Code.wp _ _ _ _ (w.alloc (.cells #[.int .i8 7,.int .i64 a1,.int .i64 a2,.int .i64 a3,.int .i64 a4,.int .i64 a5,.int .i64 a6,.int .i64 a7,.int .i64 a8,.int .i64 a9,.int .i64 a10,.slice sa an ac,.int .i64 ai,.int .i64 ak,.string aw,.slice ar am ad] 37))
 exact sc8
theorem zgv (w:World)(a1 a2 a3 a4 a5 a6 a7 a8 a9 a10 ai ak:Int)(sa ar:Option Addr)(an ac am ad:Nat)(aw:ByteArray):Calls Tryz.prog 60 #[.agg #[.int .i8 6,.int .i64 a1,.int .i64 a2,.int .i64 a3,.int .i64 a4,.int .i64 a5,.int .i64 a6,.int .i64 a7,.int .i64 a8,.int .i64 a9,.int .i64 a10,.slice sa an ac,.int .i64 ai,.int .i64 ak,.string aw,.slice ar am ad]] w (zx (zl 1 1125899906842624 a5 && (zl 0 1125899906842624 a9)) w):=by
 obtain⟨B,hB⟩:∃B,B=w.alloc (.cells #[.int .i8 6,.int .i64 a1,.int .i64 a2,.int .i64 a3,.int .i64 a4,.int .i64 a5,.int .i64 a6,.int .i64 a7,.int .i64 a8,.int .i64 a9,.int .i64 a10,.slice sa an ac,.int .i64 ai,.int .i64 ak,.string aw,.slice ar am ad] 37):=⟨_,rfl⟩
 have hb:Below w.heap.size w B:=by rw[hB];exact (BrQ _ _).alloc (NlrQ _) _
 have e0:B.heap[w.heap.size]? =some (.cells #[.int .i8 6,.int .i64 a1,.int .i64 a2,.int .i64 a3,.int .i64 a4,.int .i64 a5,.int .i64 a6,.int .i64 a7,.int .i64 a8,.int .i64 a9,.int .i64 a10,.slice sa an ac,.int .i64 ai,.int .i64 ak,.string aw,.slice ar am ad] 37 (0,0)):=by rw[hB];exact hanQ _ _
 have c0:B.cell? ⟨w.heap.size,0,none⟩=some (.int .i8 6):=by rw[corQ _ _ 0 _ _ _ e0];rfl
 have c5:B.cell? ⟨w.heap.size,5,none⟩=some (.int .i64 a5):=by rw[corQ _ _ 5 _ _ _ e0];rfl
 have c9:B.cell? ⟨w.heap.size,9,none⟩=some (.int .i64 a9):=by rw[corQ _ _ 9 _ _ _ e0];rfl
 have HB:=hH (aN hb hB)
 clear hb hB e0
 obtain⟨b0,hb0⟩:∃b,b=zl 1 1125899906842624 a5:=⟨_,rfl⟩
 rw[←hb0]
 have HN0:=hH (fun Y=>zD Y a5 1)
 rw[←hb0] at HN0
 clear hb0
 obtain⟨b1,hb1⟩:∃b,b=zl 0 1125899906842624 a9:=⟨_,rfl⟩
 rw[←hb1]
 have HN1:=hH (fun Y=>zD Y a9 0)
 rw[←hb1] at HN1
 clear hb1
 go_enter Tryz.func60,Tryz.ntmps60
 go_upto_region 1 with fail
 change Code.wp _ _ _ _ (w.alloc (.cells #[.int .i8 6,.int .i64 a1,.int .i64 a2,.int .i64 a3,.int .i64 a4,.int .i64 a5,.int .i64 a6,.int .i64 a7,.int .i64 a8,.int .i64 a9,.int .i64 a10,.slice sa an ac,.int .i64 ai,.int .i64 ak,.string aw,.slice ar am ad] 37))
 exact se1
theorem zgx (w:World)(a1 a2 a3 a4 a5 a6 a7 a8 a9 a10 ai ak:Int)(sa ar:Option Addr)(an ac am ad:Nat)(aw:ByteArray)(sb:Bool)(hst:∀Y,Below w.heap.size w Y→Calls Tryz.prog 108 #[.slice sa an ac] Y (zx sb Y)):Calls Tryz.prog 60 #[.agg #[.int .i8 8,.int .i64 a1,.int .i64 a2,.int .i64 a3,.int .i64 a4,.int .i64 a5,.int .i64 a6,.int .i64 a7,.int .i64 a8,.int .i64 a9,.int .i64 a10,.slice sa an ac,.int .i64 ai,.int .i64 ak,.string aw,.slice ar am ad]] w (zx (zl 0 1125899906842624 a9 && (sb)) w):=by
 obtain⟨B,hB⟩:∃B,B=w.alloc (.cells #[.int .i8 8,.int .i64 a1,.int .i64 a2,.int .i64 a3,.int .i64 a4,.int .i64 a5,.int .i64 a6,.int .i64 a7,.int .i64 a8,.int .i64 a9,.int .i64 a10,.slice sa an ac,.int .i64 ai,.int .i64 ak,.string aw,.slice ar am ad] 37):=⟨_,rfl⟩
 have hb:Below w.heap.size w B:=by rw[hB];exact (BrQ _ _).alloc (NlrQ _) _
 have e0:B.heap[w.heap.size]? =some (.cells #[.int .i8 8,.int .i64 a1,.int .i64 a2,.int .i64 a3,.int .i64 a4,.int .i64 a5,.int .i64 a6,.int .i64 a7,.int .i64 a8,.int .i64 a9,.int .i64 a10,.slice sa an ac,.int .i64 ai,.int .i64 ak,.string aw,.slice ar am ad] 37 (0,0)):=by rw[hB];exact hanQ _ _
 have c0:B.cell? ⟨w.heap.size,0,none⟩=some (.int .i8 8):=by rw[corQ _ _ 0 _ _ _ e0];rfl
 have c9:B.cell? ⟨w.heap.size,9,none⟩=some (.int .i64 a9):=by rw[corQ _ _ 9 _ _ _ e0];rfl
 have c11:B.cell? ⟨w.heap.size,11,none⟩=some (.slice sa an ac):=by rw[corQ _ _ 11 _ _ _ e0];rfl
 have HB:=hH (aN hb hB)
 clear hb hB e0
 obtain⟨b0,hb0⟩:∃b,b=zl 0 1125899906842624 a9:=⟨_,rfl⟩
 rw[←hb0]
 have HN0:=hH (fun Y=>zD Y a9 0)
 rw[←hb0] at HN0
 clear hb0
 have HN1:=hH hst
 clear hst
 go_enter Tryz.func60,Tryz.ntmps60
 go_upto_region 1 with fail
 change Code.wp _ _ _ _ (w.alloc (.cells #[.int .i8 8,.int .i64 a1,.int .i64 a2,.int .i64 a3,.int .i64 a4,.int .i64 a5,.int .i64 a6,.int .i64 a7,.int .i64 a8,.int .i64 a9,.int .i64 a10,.slice sa an ac,.int .i64 ai,.int .i64 ak,.string aw,.slice ar am ad] 37))
 rw[←HB.out.2]
 go_wp2_with fail
 refine (HN0.out _).mono ?_
 rintro e w1 ⟨rfl,h2⟩
 rw[h2]
 clear h2 w1
 cases b0
 · go_wp2_with fail
   go_ret
   exact⟨rfl,HB.out.1⟩
 go_wp2_with fail
 refine (HN1.out _ HB.out.1).mono ?_
 exact sd8
theorem zfo (w:World)(a1 a2 a3 a4 a5 a6 a7 a8 a9 a10 ai ak:Int)(sa ar:Option Addr)(an ac am ad:Nat)(aw:ByteArray)(tb:Bool)(htr:∀Y,Below w.heap.size w Y→Calls Tryz.prog 30 #[.agg #[.int .i64 ai,.int .i64 ak,.string aw,.slice ar am ad]] Y (zx tb Y)):Calls Tryz.prog 60 #[.agg #[.int .i8 10,.int .i64 a1,.int .i64 a2,.int .i64 a3,.int .i64 a4,.int .i64 a5,.int .i64 a6,.int .i64 a7,.int .i64 a8,.int .i64 a9,.int .i64 a10,.slice sa an ac,.int .i64 ai,.int .i64 ak,.string aw,.slice ar am ad]] w (zx (zl 0 1125899906842624 a9 && (tb)) w):=by
 obtain⟨B,hB⟩:∃B,B=w.alloc (.cells #[.int .i8 10,.int .i64 a1,.int .i64 a2,.int .i64 a3,.int .i64 a4,.int .i64 a5,.int .i64 a6,.int .i64 a7,.int .i64 a8,.int .i64 a9,.int .i64 a10,.slice sa an ac,.int .i64 ai,.int .i64 ak,.string aw,.slice ar am ad] 37):=⟨_,rfl⟩
 have hb:Below w.heap.size w B:=by rw[hB];exact (BrQ _ _).alloc (NlrQ _) _
 have e0:B.heap[w.heap.size]? =some (.cells #[.int .i8 10,.int .i64 a1,.int .i64 a2,.int .i64 a3,.int .i64 a4,.int .i64 a5,.int .i64 a6,.int .i64 a7,.int .i64 a8,.int .i64 a9,.int .i64 a10,.slice sa an ac,.int .i64 ai,.int .i64 ak,.string aw,.slice ar am ad] 37 (0,0)):=by rw[hB];exact hanQ _ _
 have c0:B.cell? ⟨w.heap.size,0,none⟩=some (.int .i8 10):=by rw[corQ _ _ 0 _ _ _ e0];rfl
 have c9:B.cell? ⟨w.heap.size,9,none⟩=some (.int .i64 a9):=by rw[corQ _ _ 9 _ _ _ e0];rfl
 have c12:B.cell? ⟨w.heap.size,12,none⟩=some (.int .i64 ai):=by rw[corQ _ _ 12 _ _ _ e0];rfl
 have c13:B.cell? ⟨w.heap.size,13,none⟩=some (.int .i64 ak):=by rw[corQ _ _ 13 _ _ _ e0];rfl
 have c14:B.cell? ⟨w.heap.size,14,none⟩=some (.string aw):=by rw[corQ _ _ 14 _ _ _ e0];rfl
 have c15:B.cell? ⟨w.heap.size,15,none⟩=some (.slice ar am ad):=by rw[corQ _ _ 15 _ _ _ e0];rfl
 have HB:=hH (aN hb hB)
 clear hb hB e0
 obtain⟨b0,hb0⟩:∃b,b=zl 0 1125899906842624 a9:=⟨_,rfl⟩
 rw[←hb0]
 have HN0:=hH (fun Y=>zD Y a9 0)
 rw[←hb0] at HN0
 clear hb0
 have HN1:=hH htr
 clear htr
 go_enter Tryz.func60,Tryz.ntmps60
 go_upto_region 1 with fail
 change Code.wp _ _ _ _ (w.alloc (.cells #[.int .i8 10,.int .i64 a1,.int .i64 a2,.int .i64 a3,.int .i64 a4,.int .i64 a5,.int .i64 a6,.int .i64 a7,.int .i64 a8,.int .i64 a9,.int .i64 a10,.slice sa an ac,.int .i64 ai,.int .i64 ak,.string aw,.slice ar am ad] 37))
 rw[←HB.out.2]
 go_wp2_with fail
 refine (HN0.out _).mono ?_
 rintro e w1 ⟨rfl,h2⟩
 rw[h2]
 clear h2 w1
 cases b0
 · go_wp2_with fail
   go_ret
   exact⟨rfl,HB.out.1⟩
 go_wp2_with fail
 refine (HN1.out _ HB.out.1).mono ?_
 exact sd8
theorem zgs (w:World)(a1 a2 a3 a4 a5 a6 a7 a8 a9 a10 ai ak:Int)(sa ar:Option Addr)(an ac am ad:Nat)(aw:ByteArray):Calls Tryz.prog 60 #[.agg #[.int .i8 1,.int .i64 a1,.int .i64 a2,.int .i64 a3,.int .i64 a4,.int .i64 a5,.int .i64 a6,.int .i64 a7,.int .i64 a8,.int .i64 a9,.int .i64 a10,.slice sa an ac,.int .i64 ai,.int .i64 ak,.string aw,.slice ar am ad]] w (zx (true) w):=by
 obtain⟨B,hB⟩:∃B,B=w.alloc (.cells #[.int .i8 1,.int .i64 a1,.int .i64 a2,.int .i64 a3,.int .i64 a4,.int .i64 a5,.int .i64 a6,.int .i64 a7,.int .i64 a8,.int .i64 a9,.int .i64 a10,.slice sa an ac,.int .i64 ai,.int .i64 ak,.string aw,.slice ar am ad] 37):=⟨_,rfl⟩
 have hb:Below w.heap.size w B:=by rw[hB];exact (BrQ _ _).alloc (NlrQ _) _
 have e0:B.heap[w.heap.size]? =some (.cells #[.int .i8 1,.int .i64 a1,.int .i64 a2,.int .i64 a3,.int .i64 a4,.int .i64 a5,.int .i64 a6,.int .i64 a7,.int .i64 a8,.int .i64 a9,.int .i64 a10,.slice sa an ac,.int .i64 ai,.int .i64 ak,.string aw,.slice ar am ad] 37 (0,0)):=by rw[hB];exact hanQ _ _
 have c0:B.cell? ⟨w.heap.size,0,none⟩=some (.int .i8 1):=by rw[corQ _ _ 0 _ _ _ e0];rfl
 have HB:=hH (aN hb hB)
 clear hb hB e0
 go_enter Tryz.func60,Tryz.ntmps60
 go_upto_region 1 with fail
 change Code.wp _ _ _ _ (w.alloc (.cells #[.int .i8 1,.int .i64 a1,.int .i64 a2,.int .i64 a3,.int .i64 a4,.int .i64 a5,.int .i64 a6,.int .i64 a7,.int .i64 a8,.int .i64 a9,.int .i64 a10,.slice sa an ac,.int .i64 ai,.int .i64 ak,.string aw,.slice ar am ad] 37))
 rw[←HB.out.2]
 go_wp2_with fail
 go_ret
 exact⟨rfl,HB.out.1⟩
end Go.Proofs.YtoidedomenkbpaaGreat
