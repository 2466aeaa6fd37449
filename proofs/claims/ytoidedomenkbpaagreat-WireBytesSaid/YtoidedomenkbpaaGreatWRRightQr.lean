/-
  .
-/
import Derived.Test.YtoidedomenkbpaaGreatWRAsksQr
set_option maxRecDepth 100000
set_option maxHeartbeats 40000000
namespace Go.Proofs.YtoidedomenkbpaaGreat
open Go.RowKit Go.Shelf
set_option linter.unusedVariables false
set_option linter.unusedSimpArgs false
theorem zcF (w:World)(a0 a1 a2 a3 a4 a5 a6 a7 a8 a9 a10 ai ak:Int)(sa ar:Option Addr)(an ac am ad:Nat)(aw:ByteArray)(h:a0<1):Calls Tryz.prog 23 #[.agg #[.int .i8 a0,.int .i64 a1,.int .i64 a2,.int .i64 a3,.int .i64 a4,.int .i64 a5,.int .i64 a6,.int .i64 a7,.int .i64 a8,.int .i64 a9,.int .i64 a10,.slice sa an ac,.int .i64 ai,.int .i64 ak,.string aw,.slice ar am ad]] w (zx false w):=by
 exact sc1
theorem zbF (w:World)(a0 a1 a2 a3 a4 a5 a6 a7 a8 a9 a10 ai ak:Int)(sa ar:Option Addr)(an ac am ad:Nat)(aw:ByteArray)(h1:¬a0<1)(h:10<a0):Calls Tryz.prog 23 #[.agg #[.int .i8 a0,.int .i64 a1,.int .i64 a2,.int .i64 a3,.int .i64 a4,.int .i64 a5,.int .i64 a6,.int .i64 a7,.int .i64 a8,.int .i64 a9,.int .i64 a10,.slice sa an ac,.int .i64 ai,.int .i64 ak,.string aw,.slice ar am ad]] w (zx false w):=by
 exact sc1
theorem jS (w:World)(a0 a1 a2 a3 a4 a5 a6 a7 a8 a9 a10 ai ak:Int)(sa ar:Option Addr)(an ac am ad:Nat)(aw:ByteArray)(p0 p1 p2 p3 p4 p5 p6 p7 p8 p9 p10 pi pk:Int)(sp pr:Option Addr)(pn pc pm pd:Nat)(pw:ByteArray)(qs qb:Bool)(g1:¬a0<1)(g2:¬10<a0)
 (hp:∀Y,Below w.heap.size w Y→Calls Tryz.prog 57 #[.agg #[.int .i8 a0,.int .i64 a1,.int .i64 a2,.int .i64 a3,.int .i64 a4,.int .i64 a5,.int .i64 a6,.int .i64 a7,.int .i64 a8,.int .i64 a9,.int .i64 a10,.slice sa an ac,.int .i64 ai,.int .i64 ak,.string aw,.slice ar am ad]] Y (jg Y #[.int .i8 p0,.int .i64 p1,.int .i64 p2,.int .i64 p3,.int .i64 p4,.int .i64 p5,.int .i64 p6,.int .i64 p7,.int .i64 p8,.int .i64 p9,.int .i64 p10,.slice sp pn pc,.int .i64 pi,.int .i64 pk,.string pw,.slice pr pm pd] true))
 (hs:∀Y,Below w.heap.size w Y→Calls Tryz.prog 25 #[.agg #[.int .i8 p0,.int .i64 p1,.int .i64 p2,.int .i64 p3,.int .i64 p4,.int .i64 p5,.int .i64 p6,.int .i64 p7,.int .i64 p8,.int .i64 p9,.int .i64 p10,.slice sp pn pc,.int .i64 pi,.int .i64 pk,.string pw,.slice pr pm pd],.agg #[.int .i8 a0,.int .i64 a1,.int .i64 a2,.int .i64 a3,.int .i64 a4,.int .i64 a5,.int .i64 a6,.int .i64 a7,.int .i64 a8,.int .i64 a9,.int .i64 a10,.slice sa an ac,.int .i64 ai,.int .i64 ak,.string aw,.slice ar am ad]] Y (zx qs Y))
 (hq:∀Y,Below w.heap.size w Y→Calls Tryz.prog 59 #[.agg #[.int .i8 a0,.int .i64 a1,.int .i64 a2,.int .i64 a3,.int .i64 a4,.int .i64 a5,.int .i64 a6,.int .i64 a7,.int .i64 a8,.int .i64 a9,.int .i64 a10,.slice sa an ac,.int .i64 ai,.int .i64 ak,.string aw,.slice ar am ad]] Y (zx qb Y)):
 Calls Tryz.prog 23 #[.agg #[.int .i8 a0,.int .i64 a1,.int .i64 a2,.int .i64 a3,.int .i64 a4,.int .i64 a5,.int .i64 a6,.int .i64 a7,.int .i64 a8,.int .i64 a9,.int .i64 a10,.slice sa an ac,.int .i64 ai,.int .i64 ak,.string aw,.slice ar am ad]] w (zx (qs && (decide (1≤a1) && (decide (a1≤8) && (decide (a2=0) && (zl 1 1125899906842624 a3 && (zl 0 1125899906842624 a4 && (qb))))))) w):=by
 obtain⟨B,hB⟩:∃B,B=w.alloc (.cells #[.int .i8 a0,.int .i64 a1,.int .i64 a2,.int .i64 a3,.int .i64 a4,.int .i64 a5,.int .i64 a6,.int .i64 a7,.int .i64 a8,.int .i64 a9,.int .i64 a10,.slice sa an ac,.int .i64 ai,.int .i64 ak,.string aw,.slice ar am ad] 37):=⟨_,rfl⟩
 have hb:Below w.heap.size w B:=by rw[hB];exact (BrQ _ _).alloc (NlrQ _) _
 have e0:B.heap[w.heap.size]? =some (.cells #[.int .i8 a0,.int .i64 a1,.int .i64 a2,.int .i64 a3,.int .i64 a4,.int .i64 a5,.int .i64 a6,.int .i64 a7,.int .i64 a8,.int .i64 a9,.int .i64 a10,.slice sa an ac,.int .i64 ai,.int .i64 ak,.string aw,.slice ar am ad] 37 (0,0)):=by rw[hB];exact hanQ _ _
 have c0:B.cell? ⟨w.heap.size,0,none⟩=some (.int .i8 a0):=by rw[corQ _ _ 0 _ _ _ e0];rfl
 have c1:B.cell? ⟨w.heap.size,1,none⟩=some (.int .i64 a1):=by rw[corQ _ _ 1 _ _ _ e0];rfl
 have c2:B.cell? ⟨w.heap.size,2,none⟩=some (.int .i64 a2):=by rw[corQ _ _ 2 _ _ _ e0];rfl
 have c3:B.cell? ⟨w.heap.size,3,none⟩=some (.int .i64 a3):=by rw[corQ _ _ 3 _ _ _ e0];rfl
 have c4:B.cell? ⟨w.heap.size,4,none⟩=some (.int .i64 a4):=by rw[corQ _ _ 4 _ _ _ e0];rfl
 have c5:B.cell? ⟨w.heap.size,5,none⟩=some (.int .i64 a5):=by rw[corQ _ _ 5 _ _ _ e0];rfl
 have c6:B.cell? ⟨w.heap.size,6,none⟩=some (.int .i64 a6):=by rw[corQ _ _ 6 _ _ _ e0];rfl
 have c7:B.cell? ⟨w.heap.size,7,none⟩=some (.int .i64 a7):=by rw[corQ _ _ 7 _ _ _ e0];rfl
 have c8:B.cell? ⟨w.heap.size,8,none⟩=some (.int .i64 a8):=by rw[corQ _ _ 8 _ _ _ e0];rfl
 have c9:B.cell? ⟨w.heap.size,9,none⟩=some (.int .i64 a9):=by rw[corQ _ _ 9 _ _ _ e0];rfl
 have c10:B.cell? ⟨w.heap.size,10,none⟩=some (.int .i64 a10):=by rw[corQ _ _ 10 _ _ _ e0];rfl
 have c11:B.cell? ⟨w.heap.size,11,none⟩=some (.slice sa an ac):=by rw[corQ _ _ 11 _ _ _ e0];rfl
 have c12:B.cell? ⟨w.heap.size,12,none⟩=some (.int .i64 ai):=by rw[corQ _ _ 12 _ _ _ e0];rfl
 have c13:B.cell? ⟨w.heap.size,13,none⟩=some (.int .i64 ak):=by rw[corQ _ _ 13 _ _ _ e0];rfl
 have c14:B.cell? ⟨w.heap.size,14,none⟩=some (.string aw):=by rw[corQ _ _ 14 _ _ _ e0];rfl
 have c15:B.cell? ⟨w.heap.size,15,none⟩=some (.slice ar am ad):=by rw[corQ _ _ 15 _ _ _ e0];rfl
 have HB:=hH (aN hb (aN hB e0))
 have HP:=hH (hp B hb)
 have HS:=hH hs
 clear hb hB e0 hp hs
 obtain⟨b0,hb0⟩:∃b,b=decide (1≤a1):=⟨_,rfl⟩
 rw[←hb0]
 obtain⟨b1,hb1⟩:∃b,b=decide (a1≤8):=⟨_,rfl⟩
 rw[←hb1]
 obtain⟨b2,hb2⟩:∃b,b=decide (a2=0):=⟨_,rfl⟩
 rw[←hb2]
 obtain⟨b3,hb3⟩:∃b,b=zl 1 1125899906842624 a3:=⟨_,rfl⟩
 rw[←hb3]
 have HN3:=hH (fun Y=>zD Y a3 1)
 rw[←hb3] at HN3
 clear hb3
 obtain⟨b4,hb4⟩:∃b,b=zl 0 1125899906842624 a4:=⟨_,rfl⟩
 rw[←hb4]
 have HN4:=hH (fun Y=>zD Y a4 0)
 rw[←hb4] at HN4
 clear hb4
 have HN5:=hH hq
 clear hq
 go_enter Tryz.func23,Tryz.ntmps23
 go_upto_region 1 with fail
 change Code.wp _ _ _ _ (w.alloc (.cells #[.int .i8 a0,.int .i64 a1,.int .i64 a2,.int .i64 a3,.int .i64 a4,.int .i64 a5,.int .i64 a6,.int .i64 a7,.int .i64 a8,.int .i64 a9,.int .i64 a10,.slice sa an ac,.int .i64 ai,.int .i64 ak,.string aw,.slice ar am ad] 37))
 rw[←HB.out.2.1]
 go_wp2_with fail
 refine HP.out.mono ?_
 rintro e Z1 ⟨rfl,hz1⟩
 have b1:=HB.out.1.trans (hz1.mono HB.out.1.size)
 have e1:=(hz1.block _ (lohQ HB.out.2.2)).trans HB.out.2.2
 obtain⟨Z2,hZ2⟩:∃Z2,Z2=Z1.alloc (.cells #[.int .i8 p0,.int .i64 p1,.int .i64 p2,.int .i64 p3,.int .i64 p4,.int .i64 p5,.int .i64 p6,.int .i64 p7,.int .i64 p8,.int .i64 p9,.int .i64 p10,.slice sp pn pc,.int .i64 pi,.int .i64 pk,.string pw,.slice pr pm pd] 37):=⟨_,rfl⟩
 have b2:Below Z1.heap.size Z1 Z2:=by rw[hZ2];exact (BrQ _ _).alloc (NlrQ _) _
 have f0:=(b2.block _ (lohQ e1)).trans e1
 have f1:Z2.heap[Z1.heap.size]? =some (.cells #[.int .i8 p0,.int .i64 p1,.int .i64 p2,.int .i64 p3,.int .i64 p4,.int .i64 p5,.int .i64 p6,.int .i64 p7,.int .i64 p8,.int .i64 p9,.int .i64 p10,.slice sp pn pc,.int .i64 pi,.int .i64 pk,.string pw,.slice pr pm pd] 37 (0,0)):=by rw[hZ2];exact hanQ _ _
 have H2:=hH (aN (b1.trans (b2.mono b1.size)) (aN hZ2 f0))
 clear c0 c1 c2 c3 c4 c5 c6 c7 c8 c9 c10 c11 c12 c13 c14 c15 hz1 b1 e1 HP HB g1 g2 b2 hZ2
 have d0:Z2.cell? ⟨w.heap.size,0,none⟩=some (.int .i8 a0):=by rw[corQ _ _ 0 _ _ _ f0];rfl
 have d1:Z2.cell? ⟨w.heap.size,1,none⟩=some (.int .i64 a1):=by rw[corQ _ _ 1 _ _ _ f0];rfl
 have d2:Z2.cell? ⟨w.heap.size,2,none⟩=some (.int .i64 a2):=by rw[corQ _ _ 2 _ _ _ f0];rfl
 have d3:Z2.cell? ⟨w.heap.size,3,none⟩=some (.int .i64 a3):=by rw[corQ _ _ 3 _ _ _ f0];rfl
 have d4:Z2.cell? ⟨w.heap.size,4,none⟩=some (.int .i64 a4):=by rw[corQ _ _ 4 _ _ _ f0];rfl
 have d5:Z2.cell? ⟨w.heap.size,5,none⟩=some (.int .i64 a5):=by rw[corQ _ _ 5 _ _ _ f0];rfl
 have d6:Z2.cell? ⟨w.heap.size,6,none⟩=some (.int .i64 a6):=by rw[corQ _ _ 6 _ _ _ f0];rfl
 have d7:Z2.cell? ⟨w.heap.size,7,none⟩=some (.int .i64 a7):=by rw[corQ _ _ 7 _ _ _ f0];rfl
 have d8:Z2.cell? ⟨w.heap.size,8,none⟩=some (.int .i64 a8):=by rw[corQ _ _ 8 _ _ _ f0];rfl
 have d9:Z2.cell? ⟨w.heap.size,9,none⟩=some (.int .i64 a9):=by rw[corQ _ _ 9 _ _ _ f0];rfl
 have d10:Z2.cell? ⟨w.heap.size,10,none⟩=some (.int .i64 a10):=by rw[corQ _ _ 10 _ _ _ f0];rfl
 have d11:Z2.cell? ⟨w.heap.size,11,none⟩=some (.slice sa an ac):=by rw[corQ _ _ 11 _ _ _ f0];rfl
 have d12:Z2.cell? ⟨w.heap.size,12,none⟩=some (.int .i64 ai):=by rw[corQ _ _ 12 _ _ _ f0];rfl
 have d13:Z2.cell? ⟨w.heap.size,13,none⟩=some (.int .i64 ak):=by rw[corQ _ _ 13 _ _ _ f0];rfl
 have d14:Z2.cell? ⟨w.heap.size,14,none⟩=some (.string aw):=by rw[corQ _ _ 14 _ _ _ f0];rfl
 have d15:Z2.cell? ⟨w.heap.size,15,none⟩=some (.slice ar am ad):=by rw[corQ _ _ 15 _ _ _ f0];rfl
 have x0:Z2.cell? ⟨Z1.heap.size,0,none⟩=some (.int .i8 p0):=by rw[corQ _ _ 0 _ _ _ f1];rfl
 have x1:Z2.cell? ⟨Z1.heap.size,1,none⟩=some (.int .i64 p1):=by rw[corQ _ _ 1 _ _ _ f1];rfl
 have x2:Z2.cell? ⟨Z1.heap.size,2,none⟩=some (.int .i64 p2):=by rw[corQ _ _ 2 _ _ _ f1];rfl
 have x3:Z2.cell? ⟨Z1.heap.size,3,none⟩=some (.int .i64 p3):=by rw[corQ _ _ 3 _ _ _ f1];rfl
 have x4:Z2.cell? ⟨Z1.heap.size,4,none⟩=some (.int .i64 p4):=by rw[corQ _ _ 4 _ _ _ f1];rfl
 have x5:Z2.cell? ⟨Z1.heap.size,5,none⟩=some (.int .i64 p5):=by rw[corQ _ _ 5 _ _ _ f1];rfl
 have x6:Z2.cell? ⟨Z1.heap.size,6,none⟩=some (.int .i64 p6):=by rw[corQ _ _ 6 _ _ _ f1];rfl
 have x7:Z2.cell? ⟨Z1.heap.size,7,none⟩=some (.int .i64 p7):=by rw[corQ _ _ 7 _ _ _ f1];rfl
 have x8:Z2.cell? ⟨Z1.heap.size,8,none⟩=some (.int .i64 p8):=by rw[corQ _ _ 8 _ _ _ f1];rfl
 have x9:Z2.cell? ⟨Z1.heap.size,9,none⟩=some (.int .i64 p9):=by rw[corQ _ _ 9 _ _ _ f1];rfl
 have x10:Z2.cell? ⟨Z1.heap.size,10,none⟩=some (.int .i64 p10):=by rw[corQ _ _ 10 _ _ _ f1];rfl
 have x11:Z2.cell? ⟨Z1.heap.size,11,none⟩=some (.slice sp pn pc):=by rw[corQ _ _ 11 _ _ _ f1];rfl
 have x12:Z2.cell? ⟨Z1.heap.size,12,none⟩=some (.int .i64 pi):=by rw[corQ _ _ 12 _ _ _ f1];rfl
 have x13:Z2.cell? ⟨Z1.heap.size,13,none⟩=some (.int .i64 pk):=by rw[corQ _ _ 13 _ _ _ f1];rfl
 have x14:Z2.cell? ⟨Z1.heap.size,14,none⟩=some (.string pw):=by rw[corQ _ _ 14 _ _ _ f1];rfl
 have x15:Z2.cell? ⟨Z1.heap.size,15,none⟩=some (.slice pr pm pd):=by rw[corQ _ _ 15 _ _ _ f1];rfl
 clear f0 f1
 as_aux_lemma=>
  go_upto_region 4 with fail
  change Code.wp _ _ _ _ (Z1.alloc (.cells #[.int .i8 p0,.int .i64 p1,.int .i64 p2,.int .i64 p3,.int .i64 p4,.int .i64 p5,.int .i64 p6,.int .i64 p7,.int .i64 p8,.int .i64 p9,.int .i64 p10,.slice sp pn pc,.int .i64 pi,.int .i64 pk,.string pw,.slice pr pm pd] 37))
  rw[←H2.out.2.1]
  as_aux_lemma=>
   go_wp2_with fail
   refine (HS.out Z2 H2.out.1).mono ?_
   rintro e Z3 ⟨rfl,hz3⟩
   have HZ3:=hH (H2.out.1.trans (hz3.mono H2.out.1.size))
   have f0:=(hz3.block _ (lohQ H2.out.2.2)).trans H2.out.2.2
   clear d0 x0 d1 x1 d2 x2 d3 x3 d4 x4 d5 x5 d6 x6 d7 x7 d8 x8 d9 x9 d10 x10 d11 x11 d12 x12 d13 x13 d14 x14 d15 x15 hz3 HS H2
   have c0:Z3.cell? ⟨w.heap.size,0,none⟩=some (.int .i8 a0):=by rw[corQ _ _ 0 _ _ _ f0];rfl
   have c1:Z3.cell? ⟨w.heap.size,1,none⟩=some (.int .i64 a1):=by rw[corQ _ _ 1 _ _ _ f0];rfl
   have c2:Z3.cell? ⟨w.heap.size,2,none⟩=some (.int .i64 a2):=by rw[corQ _ _ 2 _ _ _ f0];rfl
   have c3:Z3.cell? ⟨w.heap.size,3,none⟩=some (.int .i64 a3):=by rw[corQ _ _ 3 _ _ _ f0];rfl
   have c4:Z3.cell? ⟨w.heap.size,4,none⟩=some (.int .i64 a4):=by rw[corQ _ _ 4 _ _ _ f0];rfl
   have c5:Z3.cell? ⟨w.heap.size,5,none⟩=some (.int .i64 a5):=by rw[corQ _ _ 5 _ _ _ f0];rfl
   have c6:Z3.cell? ⟨w.heap.size,6,none⟩=some (.int .i64 a6):=by rw[corQ _ _ 6 _ _ _ f0];rfl
   have c7:Z3.cell? ⟨w.heap.size,7,none⟩=some (.int .i64 a7):=by rw[corQ _ _ 7 _ _ _ f0];rfl
   have c8:Z3.cell? ⟨w.heap.size,8,none⟩=some (.int .i64 a8):=by rw[corQ _ _ 8 _ _ _ f0];rfl
   have c9:Z3.cell? ⟨w.heap.size,9,none⟩=some (.int .i64 a9):=by rw[corQ _ _ 9 _ _ _ f0];rfl
   have c10:Z3.cell? ⟨w.heap.size,10,none⟩=some (.int .i64 a10):=by rw[corQ _ _ 10 _ _ _ f0];rfl
   have c11:Z3.cell? ⟨w.heap.size,11,none⟩=some (.slice sa an ac):=by rw[corQ _ _ 11 _ _ _ f0];rfl
   have c12:Z3.cell? ⟨w.heap.size,12,none⟩=some (.int .i64 ai):=by rw[corQ _ _ 12 _ _ _ f0];rfl
   have c13:Z3.cell? ⟨w.heap.size,13,none⟩=some (.int .i64 ak):=by rw[corQ _ _ 13 _ _ _ f0];rfl
   have c14:Z3.cell? ⟨w.heap.size,14,none⟩=some (.string aw):=by rw[corQ _ _ 14 _ _ _ f0];rfl
   have c15:Z3.cell? ⟨w.heap.size,15,none⟩=some (.slice ar am ad):=by rw[corQ _ _ 15 _ _ _ f0];rfl
   clear f0
   as_aux_lemma=>
    cases qs
    · clear c0 c1 c2 c3 c4 c5 c6 c7 c8 c9 c10 c11 c12 c13 c14 c15
      go_wp2_with fail
      go_ret
      exact⟨rfl,HZ3.out⟩
    cases b0
    · have g0:¬(1:Int)≤a1:=of_decide_eq_false hb0.symm
      clear hb0
      go_wp2_with fail
      go_ret
      exact⟨by first | rfl | simp[g0],HZ3.out⟩
    as_aux_lemma=>
     have g0:(1:Int)≤a1:=of_decide_eq_true hb0.symm
     clear hb0
     cases b1
     · have g1:¬a1≤(8:Int):=of_decide_eq_false hb1.symm
       clear hb1
       go_wp2_with fail
       go_ret
       exact⟨by first | rfl | simp[g1],HZ3.out⟩
     as_aux_lemma=>
      have g1:a1≤(8:Int):=of_decide_eq_true hb1.symm
      clear hb1
      cases b2
      · have g2:(a2 == 0)=false:=by have:=of_decide_eq_false hb2.symm;simpa using this
        clear hb2
        go_wp2_with fail
        go_ret
        exact⟨by first | rfl | simp[g2],HZ3.out⟩
      as_aux_lemma=>
       have g2:(a2 == 0)=true:=by have:=of_decide_eq_true hb2.symm;simpa using this
       clear hb2
       as_aux_lemma=>
        go_wp2_with fail
        refine (HN3.out _).mono ?_
        rintro e w1 ⟨rfl,h2⟩
        rw[h2]
        clear h2 w1
        cases b3
        · go_wp2_with fail
          go_ret
          exact⟨rfl,HZ3.out⟩
        as_aux_lemma=>
         go_wp2_with fail
         refine (HN4.out _).mono ?_
         rintro e w1 ⟨rfl,h2⟩
         rw[h2]
         clear h2 w1
         cases b4
         · go_wp2_with fail
           go_ret
           exact⟨rfl,HZ3.out⟩
         as_aux_lemma=>
          go_wp2_with fail
          refine (HN5.out _ HZ3.out).mono ?_
          rintro e Z ⟨rfl,hz⟩
          have HZ:=hH (HZ3.out.trans (hz.mono HZ3.out.size))
          clear hz
          go_wp2_with fail
          go_ret
          exact⟨rfl,HZ.out⟩
theorem qh (w:World)(a0 a1 a2 a3 a4 a5 a6 a7 a8 a9 a10 ai ak:Int)(sa ar:Option Addr)(an ac am ad:Nat)(aw:ByteArray)(p0 p1 p2 p3 p4 p5 p6 p7 p8 p9 p10 pi pk:Int)(sp pr:Option Addr)(pn pc pm pd:Nat)(pw:ByteArray)(qs qb:Bool)(g1:¬a0<1)(g2:¬10<a0)
 (hp:∀Y,Below w.heap.size w Y→Calls Tryz.prog 57 #[.agg #[.int .i8 a0,.int .i64 a1,.int .i64 a2,.int .i64 a3,.int .i64 a4,.int .i64 a5,.int .i64 a6,.int .i64 a7,.int .i64 a8,.int .i64 a9,.int .i64 a10,.slice sa an ac,.int .i64 ai,.int .i64 ak,.string aw,.slice ar am ad]] Y (jg Y #[.int .i8 p0,.int .i64 p1,.int .i64 p2,.int .i64 p3,.int .i64 p4,.int .i64 p5,.int .i64 p6,.int .i64 p7,.int .i64 p8,.int .i64 p9,.int .i64 p10,.slice sp pn pc,.int .i64 pi,.int .i64 pk,.string pw,.slice pr pm pd] false))
 (hs:∀Y,Below w.heap.size w Y→Calls Tryz.prog 25 #[.agg #[.int .i8 p0,.int .i64 p1,.int .i64 p2,.int .i64 p3,.int .i64 p4,.int .i64 p5,.int .i64 p6,.int .i64 p7,.int .i64 p8,.int .i64 p9,.int .i64 p10,.slice sp pn pc,.int .i64 pi,.int .i64 pk,.string pw,.slice pr pm pd],.agg #[.int .i8 a0,.int .i64 a1,.int .i64 a2,.int .i64 a3,.int .i64 a4,.int .i64 a5,.int .i64 a6,.int .i64 a7,.int .i64 a8,.int .i64 a9,.int .i64 a10,.slice sa an ac,.int .i64 ai,.int .i64 ak,.string aw,.slice ar am ad]] Y (zx qs Y))
 (hq:∀Y,Below w.heap.size w Y→Calls Tryz.prog 60 #[.agg #[.int .i8 a0,.int .i64 a1,.int .i64 a2,.int .i64 a3,.int .i64 a4,.int .i64 a5,.int .i64 a6,.int .i64 a7,.int .i64 a8,.int .i64 a9,.int .i64 a10,.slice sa an ac,.int .i64 ai,.int .i64 ak,.string aw,.slice ar am ad]] Y (zx qb Y)):
 Calls Tryz.prog 23 #[.agg #[.int .i8 a0,.int .i64 a1,.int .i64 a2,.int .i64 a3,.int .i64 a4,.int .i64 a5,.int .i64 a6,.int .i64 a7,.int .i64 a8,.int .i64 a9,.int .i64 a10,.slice sa an ac,.int .i64 ai,.int .i64 ak,.string aw,.slice ar am ad]] w (zx (qs && (decide (a1=0) && (decide (1≤a2) && (decide (a2≤8) && (zl 1 1125899906842624 a4 && (qb)))))) w):=by
 obtain⟨B,hB⟩:∃B,B=w.alloc (.cells #[.int .i8 a0,.int .i64 a1,.int .i64 a2,.int .i64 a3,.int .i64 a4,.int .i64 a5,.int .i64 a6,.int .i64 a7,.int .i64 a8,.int .i64 a9,.int .i64 a10,.slice sa an ac,.int .i64 ai,.int .i64 ak,.string aw,.slice ar am ad] 37):=⟨_,rfl⟩
 have hb:Below w.heap.size w B:=by rw[hB];exact (BrQ _ _).alloc (NlrQ _) _
 have e0:B.heap[w.heap.size]? =some (.cells #[.int .i8 a0,.int .i64 a1,.int .i64 a2,.int .i64 a3,.int .i64 a4,.int .i64 a5,.int .i64 a6,.int .i64 a7,.int .i64 a8,.int .i64 a9,.int .i64 a10,.slice sa an ac,.int .i64 ai,.int .i64 ak,.string aw,.slice ar am ad] 37 (0,0)):=by rw[hB];exact hanQ _ _
 have c0:B.cell? ⟨w.heap.size,0,none⟩=some (.int .i8 a0):=by rw[corQ _ _ 0 _ _ _ e0];rfl
 have c1:B.cell? ⟨w.heap.size,1,none⟩=some (.int .i64 a1):=by rw[corQ _ _ 1 _ _ _ e0];rfl
 have c2:B.cell? ⟨w.heap.size,2,none⟩=some (.int .i64 a2):=by rw[corQ _ _ 2 _ _ _ e0];rfl
 have c3:B.cell? ⟨w.heap.size,3,none⟩=some (.int .i64 a3):=by rw[corQ _ _ 3 _ _ _ e0];rfl
 have c4:B.cell? ⟨w.heap.size,4,none⟩=some (.int .i64 a4):=by rw[corQ _ _ 4 _ _ _ e0];rfl
 have c5:B.cell? ⟨w.heap.size,5,none⟩=some (.int .i64 a5):=by rw[corQ _ _ 5 _ _ _ e0];rfl
 have c6:B.cell? ⟨w.heap.size,6,none⟩=some (.int .i64 a6):=by rw[corQ _ _ 6 _ _ _ e0];rfl
 have c7:B.cell? ⟨w.heap.size,7,none⟩=some (.int .i64 a7):=by rw[corQ _ _ 7 _ _ _ e0];rfl
 have c8:B.cell? ⟨w.heap.size,8,none⟩=some (.int .i64 a8):=by rw[corQ _ _ 8 _ _ _ e0];rfl
 have c9:B.cell? ⟨w.heap.size,9,none⟩=some (.int .i64 a9):=by rw[corQ _ _ 9 _ _ _ e0];rfl
 have c10:B.cell? ⟨w.heap.size,10,none⟩=some (.int .i64 a10):=by rw[corQ _ _ 10 _ _ _ e0];rfl
 have c11:B.cell? ⟨w.heap.size,11,none⟩=some (.slice sa an ac):=by rw[corQ _ _ 11 _ _ _ e0];rfl
 have c12:B.cell? ⟨w.heap.size,12,none⟩=some (.int .i64 ai):=by rw[corQ _ _ 12 _ _ _ e0];rfl
 have c13:B.cell? ⟨w.heap.size,13,none⟩=some (.int .i64 ak):=by rw[corQ _ _ 13 _ _ _ e0];rfl
 have c14:B.cell? ⟨w.heap.size,14,none⟩=some (.string aw):=by rw[corQ _ _ 14 _ _ _ e0];rfl
 have c15:B.cell? ⟨w.heap.size,15,none⟩=some (.slice ar am ad):=by rw[corQ _ _ 15 _ _ _ e0];rfl
 have HB:=hH (aN hb (aN hB e0))
 have HP:=hH (hp B hb)
 have HS:=hH hs
 clear hb hB e0 hp hs
 obtain⟨b0,hb0⟩:∃b,b=decide (a1=0):=⟨_,rfl⟩
 rw[←hb0]
 obtain⟨b1,hb1⟩:∃b,b=decide (1≤a2):=⟨_,rfl⟩
 rw[←hb1]
 obtain⟨b2,hb2⟩:∃b,b=decide (a2≤8):=⟨_,rfl⟩
 rw[←hb2]
 obtain⟨b3,hb3⟩:∃b,b=zl 1 1125899906842624 a4:=⟨_,rfl⟩
 rw[←hb3]
 have HN3:=hH (fun Y=>zD Y a4 1)
 rw[←hb3] at HN3
 clear hb3
 have HN4:=hH hq
 clear hq
 go_enter Tryz.func23,Tryz.ntmps23
 go_upto_region 1 with fail
 change Code.wp _ _ _ _ (w.alloc (.cells #[.int .i8 a0,.int .i64 a1,.int .i64 a2,.int .i64 a3,.int .i64 a4,.int .i64 a5,.int .i64 a6,.int .i64 a7,.int .i64 a8,.int .i64 a9,.int .i64 a10,.slice sa an ac,.int .i64 ai,.int .i64 ak,.string aw,.slice ar am ad] 37))
 rw[←HB.out.2.1]
 go_wp2_with fail
 refine HP.out.mono ?_
 rintro e Z1 ⟨rfl,hz1⟩
 have b1:=HB.out.1.trans (hz1.mono HB.out.1.size)
 have e1:=(hz1.block _ (lohQ HB.out.2.2)).trans HB.out.2.2
 obtain⟨Z2,hZ2⟩:∃Z2,Z2=Z1.alloc (.cells #[.int .i8 p0,.int .i64 p1,.int .i64 p2,.int .i64 p3,.int .i64 p4,.int .i64 p5,.int .i64 p6,.int .i64 p7,.int .i64 p8,.int .i64 p9,.int .i64 p10,.slice sp pn pc,.int .i64 pi,.int .i64 pk,.string pw,.slice pr pm pd] 37):=⟨_,rfl⟩
 have b2:Below Z1.heap.size Z1 Z2:=by rw[hZ2];exact (BrQ _ _).alloc (NlrQ _) _
 have f0:=(b2.block _ (lohQ e1)).trans e1
 have f1:Z2.heap[Z1.heap.size]? =some (.cells #[.int .i8 p0,.int .i64 p1,.int .i64 p2,.int .i64 p3,.int .i64 p4,.int .i64 p5,.int .i64 p6,.int .i64 p7,.int .i64 p8,.int .i64 p9,.int .i64 p10,.slice sp pn pc,.int .i64 pi,.int .i64 pk,.string pw,.slice pr pm pd] 37 (0,0)):=by rw[hZ2];exact hanQ _ _
 have H2:=hH (aN (b1.trans (b2.mono b1.size)) (aN hZ2 f0))
 clear c0 c1 c2 c3 c4 c5 c6 c7 c8 c9 c10 c11 c12 c13 c14 c15 hz1 b1 e1 HP HB g1 g2 b2 hZ2
 have d0:Z2.cell? ⟨w.heap.size,0,none⟩=some (.int .i8 a0):=by rw[corQ _ _ 0 _ _ _ f0];rfl
 have d1:Z2.cell? ⟨w.heap.size,1,none⟩=some (.int .i64 a1):=by rw[corQ _ _ 1 _ _ _ f0];rfl
 have d2:Z2.cell? ⟨w.heap.size,2,none⟩=some (.int .i64 a2):=by rw[corQ _ _ 2 _ _ _ f0];rfl
 have d3:Z2.cell? ⟨w.heap.size,3,none⟩=some (.int .i64 a3):=by rw[corQ _ _ 3 _ _ _ f0];rfl
 have d4:Z2.cell? ⟨w.heap.size,4,none⟩=some (.int .i64 a4):=by rw[corQ _ _ 4 _ _ _ f0];rfl
 have d5:Z2.cell? ⟨w.heap.size,5,none⟩=some (.int .i64 a5):=by rw[corQ _ _ 5 _ _ _ f0];rfl
 have d6:Z2.cell? ⟨w.heap.size,6,none⟩=some (.int .i64 a6):=by rw[corQ _ _ 6 _ _ _ f0];rfl
 have d7:Z2.cell? ⟨w.heap.size,7,none⟩=some (.int .i64 a7):=by rw[corQ _ _ 7 _ _ _ f0];rfl
 have d8:Z2.cell? ⟨w.heap.size,8,none⟩=some (.int .i64 a8):=by rw[corQ _ _ 8 _ _ _ f0];rfl
 have d9:Z2.cell? ⟨w.heap.size,9,none⟩=some (.int .i64 a9):=by rw[corQ _ _ 9 _ _ _ f0];rfl
 have d10:Z2.cell? ⟨w.heap.size,10,none⟩=some (.int .i64 a10):=by rw[corQ _ _ 10 _ _ _ f0];rfl
 have d11:Z2.cell? ⟨w.heap.size,11,none⟩=some (.slice sa an ac):=by rw[corQ _ _ 11 _ _ _ f0];rfl
 have d12:Z2.cell? ⟨w.heap.size,12,none⟩=some (.int .i64 ai):=by rw[corQ _ _ 12 _ _ _ f0];rfl
 have d13:Z2.cell? ⟨w.heap.size,13,none⟩=some (.int .i64 ak):=by rw[corQ _ _ 13 _ _ _ f0];rfl
 have d14:Z2.cell? ⟨w.heap.size,14,none⟩=some (.string aw):=by rw[corQ _ _ 14 _ _ _ f0];rfl
 have d15:Z2.cell? ⟨w.heap.size,15,none⟩=some (.slice ar am ad):=by rw[corQ _ _ 15 _ _ _ f0];rfl
 have x0:Z2.cell? ⟨Z1.heap.size,0,none⟩=some (.int .i8 p0):=by rw[corQ _ _ 0 _ _ _ f1];rfl
 have x1:Z2.cell? ⟨Z1.heap.size,1,none⟩=some (.int .i64 p1):=by rw[corQ _ _ 1 _ _ _ f1];rfl
 have x2:Z2.cell? ⟨Z1.heap.size,2,none⟩=some (.int .i64 p2):=by rw[corQ _ _ 2 _ _ _ f1];rfl
 have x3:Z2.cell? ⟨Z1.heap.size,3,none⟩=some (.int .i64 p3):=by rw[corQ _ _ 3 _ _ _ f1];rfl
 have x4:Z2.cell? ⟨Z1.heap.size,4,none⟩=some (.int .i64 p4):=by rw[corQ _ _ 4 _ _ _ f1];rfl
 have x5:Z2.cell? ⟨Z1.heap.size,5,none⟩=some (.int .i64 p5):=by rw[corQ _ _ 5 _ _ _ f1];rfl
 have x6:Z2.cell? ⟨Z1.heap.size,6,none⟩=some (.int .i64 p6):=by rw[corQ _ _ 6 _ _ _ f1];rfl
 have x7:Z2.cell? ⟨Z1.heap.size,7,none⟩=some (.int .i64 p7):=by rw[corQ _ _ 7 _ _ _ f1];rfl
 have x8:Z2.cell? ⟨Z1.heap.size,8,none⟩=some (.int .i64 p8):=by rw[corQ _ _ 8 _ _ _ f1];rfl
 have x9:Z2.cell? ⟨Z1.heap.size,9,none⟩=some (.int .i64 p9):=by rw[corQ _ _ 9 _ _ _ f1];rfl
 have x10:Z2.cell? ⟨Z1.heap.size,10,none⟩=some (.int .i64 p10):=by rw[corQ _ _ 10 _ _ _ f1];rfl
 have x11:Z2.cell? ⟨Z1.heap.size,11,none⟩=some (.slice sp pn pc):=by rw[corQ _ _ 11 _ _ _ f1];rfl
 have x12:Z2.cell? ⟨Z1.heap.size,12,none⟩=some (.int .i64 pi):=by rw[corQ _ _ 12 _ _ _ f1];rfl
 have x13:Z2.cell? ⟨Z1.heap.size,13,none⟩=some (.int .i64 pk):=by rw[corQ _ _ 13 _ _ _ f1];rfl
 have x14:Z2.cell? ⟨Z1.heap.size,14,none⟩=some (.string pw):=by rw[corQ _ _ 14 _ _ _ f1];rfl
 have x15:Z2.cell? ⟨Z1.heap.size,15,none⟩=some (.slice pr pm pd):=by rw[corQ _ _ 15 _ _ _ f1];rfl
 clear f0 f1
 as_aux_lemma=>
  go_upto_region 4 with fail
  change Code.wp _ _ _ _ (Z1.alloc (.cells #[.int .i8 p0,.int .i64 p1,.int .i64 p2,.int .i64 p3,.int .i64 p4,.int .i64 p5,.int .i64 p6,.int .i64 p7,.int .i64 p8,.int .i64 p9,.int .i64 p10,.slice sp pn pc,.int .i64 pi,.int .i64 pk,.string pw,.slice pr pm pd] 37))
  rw[←H2.out.2.1]
  as_aux_lemma=>
   go_wp2_with fail
   refine (HS.out Z2 H2.out.1).mono ?_
   rintro e Z3 ⟨rfl,hz3⟩
   have HZ3:=hH (H2.out.1.trans (hz3.mono H2.out.1.size))
   have f0:=(hz3.block _ (lohQ H2.out.2.2)).trans H2.out.2.2
   clear d0 x0 d1 x1 d2 x2 d3 x3 d4 x4 d5 x5 d6 x6 d7 x7 d8 x8 d9 x9 d10 x10 d11 x11 d12 x12 d13 x13 d14 x14 d15 x15 hz3 HS H2
   have c0:Z3.cell? ⟨w.heap.size,0,none⟩=some (.int .i8 a0):=by rw[corQ _ _ 0 _ _ _ f0];rfl
   have c1:Z3.cell? ⟨w.heap.size,1,none⟩=some (.int .i64 a1):=by rw[corQ _ _ 1 _ _ _ f0];rfl
   have c2:Z3.cell? ⟨w.heap.size,2,none⟩=some (.int .i64 a2):=by rw[corQ _ _ 2 _ _ _ f0];rfl
   have c3:Z3.cell? ⟨w.heap.size,3,none⟩=some (.int .i64 a3):=by rw[corQ _ _ 3 _ _ _ f0];rfl
   have c4:Z3.cell? ⟨w.heap.size,4,none⟩=some (.int .i64 a4):=by rw[corQ _ _ 4 _ _ _ f0];rfl
   have c5:Z3.cell? ⟨w.heap.size,5,none⟩=some (.int .i64 a5):=by rw[corQ _ _ 5 _ _ _ f0];rfl
   have c6:Z3.cell? ⟨w.heap.size,6,none⟩=some (.int .i64 a6):=by rw[corQ _ _ 6 _ _ _ f0];rfl
   have c7:Z3.cell? ⟨w.heap.size,7,none⟩=some (.int .i64 a7):=by rw[corQ _ _ 7 _ _ _ f0];rfl
   have c8:Z3.cell? ⟨w.heap.size,8,none⟩=some (.int .i64 a8):=by rw[corQ _ _ 8 _ _ _ f0];rfl
   have c9:Z3.cell? ⟨w.heap.size,9,none⟩=some (.int .i64 a9):=by rw[corQ _ _ 9 _ _ _ f0];rfl
   have c10:Z3.cell? ⟨w.heap.size,10,none⟩=some (.int .i64 a10):=by rw[corQ _ _ 10 _ _ _ f0];rfl
   have c11:Z3.cell? ⟨w.heap.size,11,none⟩=some (.slice sa an ac):=by rw[corQ _ _ 11 _ _ _ f0];rfl
   have c12:Z3.cell? ⟨w.heap.size,12,none⟩=some (.int .i64 ai):=by rw[corQ _ _ 12 _ _ _ f0];rfl
   have c13:Z3.cell? ⟨w.heap.size,13,none⟩=some (.int .i64 ak):=by rw[corQ _ _ 13 _ _ _ f0];rfl
   have c14:Z3.cell? ⟨w.heap.size,14,none⟩=some (.string aw):=by rw[corQ _ _ 14 _ _ _ f0];rfl
   have c15:Z3.cell? ⟨w.heap.size,15,none⟩=some (.slice ar am ad):=by rw[corQ _ _ 15 _ _ _ f0];rfl
   clear f0
   as_aux_lemma=>
    cases qs
    · clear c0 c1 c2 c3 c4 c5 c6 c7 c8 c9 c10 c11 c12 c13 c14 c15
      go_wp2_with fail
      go_ret
      exact⟨rfl,HZ3.out⟩
    cases b0
    · have g0:(a1 == 0)=false:=by have:=of_decide_eq_false hb0.symm;simpa using this
      clear hb0
      go_wp2_with fail
      go_ret
      exact⟨by first | rfl | simp[g0],HZ3.out⟩
    as_aux_lemma=>
     have g0:(a1 == 0)=true:=by have:=of_decide_eq_true hb0.symm;simpa using this
     clear hb0
     cases b1
     · have g1:¬(1:Int)≤a2:=of_decide_eq_false hb1.symm
       clear hb1
       go_wp2_with fail
       go_ret
       exact⟨by first | rfl | simp[g1],HZ3.out⟩
     as_aux_lemma=>
      have g1:(1:Int)≤a2:=of_decide_eq_true hb1.symm
      clear hb1
      cases b2
      · have g2:¬a2≤(8:Int):=of_decide_eq_false hb2.symm
        clear hb2
        go_wp2_with fail
        go_ret
        exact⟨by first | rfl | simp[g2],HZ3.out⟩
      as_aux_lemma=>
       have g2:a2≤(8:Int):=of_decide_eq_true hb2.symm
       clear hb2
       as_aux_lemma=>
        go_wp2_with fail
        refine (HN3.out _).mono ?_
        rintro e w1 ⟨rfl,h2⟩
        rw[h2]
        clear h2 w1
        cases b3
        · go_wp2_with fail
          go_ret
          exact⟨rfl,HZ3.out⟩
        as_aux_lemma=>
         go_wp2_with fail
         refine (HN4.out _ HZ3.out).mono ?_
         rintro e Z ⟨rfl,hz⟩
         have HZ:=hH (HZ3.out.trans (hz.mono HZ3.out.size))
         clear hz
         go_wp2_with fail
         go_ret
         exact⟨rfl,HZ.out⟩
end Go.Proofs.YtoidedomenkbpaaGreat
