/-
  .
-/
import Derived.Test.YtoidedomenkbpaaGreatWRBy6Qr
set_option maxRecDepth 100000
set_option maxHeartbeats 40000000
namespace Go.Proofs.YtoidedomenkbpaaGreat
open Go.RowKit Go.Shelf
open Extern.Stop (cell)
set_option linter.unusedVariables false
set_option linter.unusedSimpArgs false
theorem zgh (w:World)(a1 a2 a3 a4 a5 a6 a7 a8 a9 a10:Int)(sa ar:Option Addr)(an ac am ad:Nat)(vs:List SV)(t:Tr)(h:zJ w sa ar an am ad vs t)(hr:∀Y,Below w.heap.size w Y→Calls Tryz.prog 23 #[.agg #[.int .i8 4,.int .i64 a1,.int .i64 a2,.int .i64 a3,.int .i64 a4,.int .i64 a5,.int .i64 a6,.int .i64 a7,.int .i64 a8,.int .i64 a9,.int .i64 a10,.slice sa an ac,.int .i64 t.id,.int .i64 t.kind,.string t.text,.slice ar am ad]] Y (zx true Y)):Calls Tryz.prog 32 #[.agg #[.int .i8 4,.int .i64 a1,.int .i64 a2,.int .i64 a3,.int .i64 a4,.int .i64 a5,.int .i64 a6,.int .i64 a7,.int .i64 a8,.int .i64 a9,.int .i64 a10,.slice sa an ac,.int .i64 t.id,.int .i64 t.kind,.string t.text,.slice ar am ad]] w (jv (zS (zbq a1 a2 a3 a4 a5 a6 a7 a8 a9 a10 sa ar an ac am ad vs t)) w):=by
 obtain⟨B,hB⟩:∃B,B=w.alloc (.cells #[.int .i8 4,.int .i64 a1,.int .i64 a2,.int .i64 a3,.int .i64 a4,.int .i64 a5,.int .i64 a6,.int .i64 a7,.int .i64 a8,.int .i64 a9,.int .i64 a10,.slice sa an ac,.int .i64 t.id,.int .i64 t.kind,.string t.text,.slice ar am ad] 37):=⟨_,rfl⟩
 have hb:Below w.heap.size w B:=by rw[hB];exact (BrQ _ _).alloc (NlrQ _) _
 have e0:B.heap[w.heap.size]? =some (.cells #[.int .i8 4,.int .i64 a1,.int .i64 a2,.int .i64 a3,.int .i64 a4,.int .i64 a5,.int .i64 a6,.int .i64 a7,.int .i64 a8,.int .i64 a9,.int .i64 a10,.slice sa an ac,.int .i64 t.id,.int .i64 t.kind,.string t.text,.slice ar am ad] 37 (0,0)):=by rw[hB];exact hanQ _ _
 have c0:B.cell? ⟨w.heap.size,0,none⟩=some (.int .i8 4):=by rw[corQ _ _ 0 _ _ _ e0];rfl
 have c1:B.cell? ⟨w.heap.size,1,none⟩=some (.int .i64 a1):=by rw[corQ _ _ 1 _ _ _ e0];rfl
 have c2:B.cell? ⟨w.heap.size,2,none⟩=some (.int .i64 a2):=by rw[corQ _ _ 2 _ _ _ e0];rfl
 have c3:B.cell? ⟨w.heap.size,3,none⟩=some (.int .i64 a3):=by rw[corQ _ _ 3 _ _ _ e0];rfl
 have c4:B.cell? ⟨w.heap.size,4,none⟩=some (.int .i64 a4):=by rw[corQ _ _ 4 _ _ _ e0];rfl
 have c5:B.cell? ⟨w.heap.size,5,none⟩=some (.int .i64 a5):=by rw[corQ _ _ 5 _ _ _ e0];rfl
 have c6:B.cell? ⟨w.heap.size,6,none⟩=some (.int .i64 a6):=by rw[corQ _ _ 6 _ _ _ e0];rfl
 have c7:B.cell? ⟨w.heap.size,7,none⟩=some (.int .i64 a7):=by rw[corQ _ _ 7 _ _ _ e0];rfl
 have c8:B.cell? ⟨w.heap.size,8,none⟩=some (.int .i64 a8):=by rw[corQ _ _ 8 _ _ _ e0];rfl
 have c9:B.cell? ⟨w.heap.size,9,none⟩=some (.int .i64 a9):=by rw[corQ _ _ 9 _ _ _ e0];rfl
 have c10:B.cell? ⟨w.heap.size,10,none⟩=some (.int .i64 a10):=by rw[corQ _ _ 10 _ _ _ e0];rfl
 have c11:B.cell? ⟨w.heap.size,11,none⟩=some (.slice sa an ac):=by rw[corQ _ _ 11 _ _ _ e0];rfl
 have c12:B.cell? ⟨w.heap.size,12,none⟩=some (.int .i64 t.id):=by rw[corQ _ _ 12 _ _ _ e0];rfl
 have c13:B.cell? ⟨w.heap.size,13,none⟩=some (.int .i64 t.kind):=by rw[corQ _ _ 13 _ _ _ e0];rfl
 have c14:B.cell? ⟨w.heap.size,14,none⟩=some (.string t.text):=by rw[corQ _ _ 14 _ _ _ e0];rfl
 have c15:B.cell? ⟨w.heap.size,15,none⟩=some (.slice ar am ad):=by rw[corQ _ _ 15 _ _ _ e0];rfl
 have HB:=hH (aN hb (aN hB e0))
 have HR:=hH (hr B hb)
 have HM:=hH h
 obtain⟨OWN,hown⟩:∃OWN,OWN=zbq a1 a2 a3 a4 a5 a6 a7 a8 a9 a10 sa ar an ac am ad vs t:=⟨_,rfl⟩
 have HO:=hH hown
 rw[←hown]
 have hol:OWN.length≤1000000000:=by
  have:=zV _ _ _ _ _ (zfy a1 a2 a3 a4 a5 a6 a7 a8 a9 a10 sa ar an ac am ad vs t) (zfK a1 a2 a3 a4 a5 a6 a7 a8 a9 a10 sa ar an ac am ad vs t)
  simp only[LlcQ,List.length_nil] at this
  rw[hown]
  unfold zbq
  omega
 have HOL:=hH hol
 obtain⟨i0,hi,hz0,hz1,hz2⟩:=info_parts Tryz.qY
 have HI:=hH (aN hi (aN hz0 (aN hz1 hz2)))
 clear h hb hB e0 hr hown hol hi hz0 hz1 hz2
 go_enter Tryz.func32,Tryz.ntmps32
 go_upto_region 1 with fail
 change Code.wp _ _ _ _ (w.alloc (.cells #[.int .i8 4,.int .i64 a1,.int .i64 a2,.int .i64 a3,.int .i64 a4,.int .i64 a5,.int .i64 a6,.int .i64 a7,.int .i64 a8,.int .i64 a9,.int .i64 a10,.slice sa an ac,.int .i64 t.id,.int .i64 t.kind,.string t.text,.slice ar am ad] 37))
 rw[←HB.out.2.1]
 go_wp2_with fail
 refine HR.out.mono ?_
 rintro e Z1 ⟨rfl,hz1⟩
 have b1:=HB.out.1.trans (hz1.mono HB.out.1.size)
 have m1:=(hz1.block _ (lohQ HB.out.2.2)).trans HB.out.2.2
 clear c0 c1 c2 c3 c4 c5 c6 c7 c8 c9 c10 c11 c12 c13 c14 c15 HR hz1
 obtain⟨g,hg⟩:∃g,g=Z1.heap.size:=⟨_,rfl⟩
 obtain⟨Y1,hY1⟩:∃Y1,Y1=Z1.alloc (.cells #[.int .u8 4] 5):=⟨_,rfl⟩
 have b1a:Below Z1.heap.size Z1 Y1:=by rw[hY1];exact (BrQ _ _).alloc (NlrQ _) _
 have m1a:=(b1a.block _ (lohQ m1)).trans m1
 have r1a:Y1.heap[g]? =some (.cells #[.int .u8 4] 5 (0,0)):=by rw[hY1,hg];exact hanQ _ _
 have hs1:Y1.heap.size=g+1:=by rw[hY1,hg,WsaQ]
 obtain⟨Z2,hZ2⟩:∃Z2,Z2=Y1.alloc (.cells #[.int .i64 a1,.int .i64 a2] 3):=⟨_,rfl⟩
 have b2:Below Y1.heap.size Y1 Z2:=by rw[hZ2];exact (BrQ _ _).alloc (NlrQ _) _
 have m2:=(b2.block _ (lohQ m1a)).trans m1a
 have r1:=(b2.block _ (lohQ r1a)).trans r1a
 have r2:Z2.heap[g+1]? =some (.cells #[.int .i64 a1,.int .i64 a2] 3 (0,0)):=by rw[hZ2,←hs1];exact hanQ _ _
 have hs2:Z2.heap.size=g+2:=by rw[hZ2,WsaQ,hs1]
 have d0:Z1.cell? ⟨w.heap.size,0,none⟩=some (.int .i8 4):=by rw[corQ _ _ 0 _ _ _ m1];rfl
 have f0:Y1.cell? ⟨w.heap.size,0,none⟩=some (.int .i8 4):=by rw[corQ _ _ 0 _ _ _ m1a];rfl
 have f1:Y1.cell? ⟨w.heap.size,1,none⟩=some (.int .i64 a1):=by rw[corQ _ _ 1 _ _ _ m1a];rfl
 have f2:Y1.cell? ⟨w.heap.size,2,none⟩=some (.int .i64 a2):=by rw[corQ _ _ 2 _ _ _ m1a];rfl
 have b12:=b1a.trans (b2.mono b1a.size)
 have H2:=hH (aN (b1.trans (b12.mono b1.size)) (aN hZ2 (aN m2 (aN r1 (aN r2 (aN hs2 hY1))))))
 have HGW:=hH (show w.heap.size<g by rw[hg];exact lohQ m1)
 clear b1 b2 b1a b12 m1 m1a m2 r1 r2 r1a hs2 hZ2 HB hY1
 go_upto_region 4 with fail
 change Code.wp _ _ _ _ (Z1.alloc (.cells #[.int .u8 4] 5))
 rw[←H2.out.2.2.2.2.2.2,←hg]
 clear d0 hg
 go_upto_region 5 with fail
 change Code.wp _ _ _ _ (Y1.alloc (.cells #[.int .i64 a1,.int .i64 a2] 3))
 rw[←H2.out.2.1]
 clear hs1 f0 f1 f2
 as_aux_lemma=>
  have d0:Z2.cell? ⟨w.heap.size,0,none⟩=some (.int .i8 4):=by rw[corQ _ _ 0 _ _ _ H2.out.2.2.1];rfl
  have d1:Z2.cell? ⟨w.heap.size,1,none⟩=some (.int .i64 a1):=by rw[corQ _ _ 1 _ _ _ H2.out.2.2.1];rfl
  have d2:Z2.cell? ⟨w.heap.size,2,none⟩=some (.int .i64 a2):=by rw[corQ _ _ 2 _ _ _ H2.out.2.2.1];rfl
  have d4:Z2.cell? ⟨w.heap.size,4,none⟩=some (.int .i64 a4):=by rw[corQ _ _ 4 _ _ _ H2.out.2.2.1];rfl
  have d5:Z2.cell? ⟨w.heap.size,5,none⟩=some (.int .i64 a5):=by rw[corQ _ _ 5 _ _ _ H2.out.2.2.1];rfl
  have d10:Z2.cell? ⟨w.heap.size,10,none⟩=some (.int .i64 a10):=by rw[corQ _ _ 10 _ _ _ H2.out.2.2.1];rfl
  have hrow:Z2.ownsRow g 3 1 (.slice (some ⟨g+1,0,none⟩) 2 2) 2 [.int .i64 a1,.int .i64 a2]:=⟨rfl,Or.inr ⟨g+1,2, #[.int .i64 a1,.int .i64 a2],rfl,by omega,H2.out.2.2.2.2.1,NlrQ _,by unfold maxLen;omega,rfl,rfl⟩⟩
  have HROW:=hH hrow
  clear hrow
  go_upto_region 14 with fail
  have hz2s:=H2.out.2.2.2.2.2.1
  go_wp2_with (at_builtin;refine wpList_append_lies _ rfl (.tmp 59) (.tmp 66) 30 rfl g 3 i0 (.int .i64 0) 1 8 Tryz.underlying30 HI.out.1 HI.out.2.1 HI.out.2.2.1 HI.out.2.2.2 rfl ue3 (.slice (some ⟨g+1,0,none⟩) 2 2) 2 [.int .i64 a1,.int .i64 a2] rfl (HROW.out.alloc _) ⟨g+2,0,none⟩ 3 3 [.int .i64 a4,.int .i64 a5,.int .i64 a10] rfl rfl (World.news_of_block (cs:= #[.int .i64 a4,.int .i64 a5,.int .i64 a10]) uc4) ud1 ue3 ud2 om ud7 _ rfl ?_;intro gl lcap w4 hown hgrow hat hlt;have HW:=hH (aN hown (aN hgrow hlt));clear hown hgrow hat hlt)
  have hgw:=HGW.out
  have hz2:(Z2.alloc (.cells #[.int .i64 a4,.int .i64 a5,.int .i64 a10] 3)).heap.size=g+3:=by rw[WsaQ,hz2s]
  have hkeep:∀y,y<g+1→w4.heap[y]? =Z2.heap[y]?:=fun y hy=>(HW.out.2.1.block y ud9 (fun e=>by simp[Value.ownBlock] at e;omega)).trans (BhaQ Z2 _ _ om)
  have b4:Below w.heap.size w w4:=⟨HW.out.2.1.os.trans H2.out.1.os,HW.out.2.1.tape.trans H2.out.1.tape,HW.out.2.1.output.trans H2.out.1.output,by have:=HW.out.2.1.size;have:=H2.out.1.size;omega,fun y hy=>(hkeep y om).trans (H2.out.1.block y hy)⟩
  have m4:=(hkeep _ om).trans H2.out.2.2.1
  have r4:=(hkeep g om).trans H2.out.2.2.2.1
  have hby:yt w4 (some ⟨g,0,none⟩) [zm 4]:=vz r4 (yY 4 ue3)
  have hlc:∀(j:Nat) (x:Int),([a1,a2,a4,a5,a10]:List Int)[j]? =some x→w4.cell? ⟨gl,j,none⟩=some (.int .i64 x):=fun j x hj=>by
   exact se9
  have H4:=hH (aN b4 (aN m4 (aN hby (aN hlc HW.out.2.2))))
  clear hgw hz2 hkeep b4 m4 r4 hby hlc HW H2 HROW hz2s HI HGW d0 d1 d2 d4 d5 d10
  as_aux_lemma=>
   go_loopw [4,6] (fun v i wr=>∃(j nn cp:Nat) (a:Option Addr),j≤5∧i= .int .i64 (j:Int)∧v= .slice a nn cp∧Hid (nn=([zm 4]++numsL (([a1,a2,a4,a5,a10]:List Int).take j)).length∧yt wr a ([zm 4]++numsL (([a1,a2,a4,a5,a10]:List Int).take j))∧Below w4.heap.size w4 wr)) (fun _ i _=>5 - (intOf i).toNat)
   case atStart=>exact⟨0,1,1,_,NzlQ _,rfl,rfl,hH ⟨rfl,H4.out.2.2.1,BrQ _ _⟩⟩
   case round=>
    obtain⟨j,nn,cp,a,hj,rfl,rfl,hh⟩:=hrel
    obtain⟨wo,hwo⟩:∃wo,wo=wr:=⟨_,rfl⟩
    subst hwo
    by_cases hlt:j<5
    · obtain⟨x,hx⟩:∃x,([a1,a2,a4,a5,a10]:List Int)[j]? =some x:=⟨_,List.getElem?_eq_getElem ud6⟩
      have cx:wo.cell? ⟨gl,j,none⟩=some (.int .i64 x):=(World.cell?_of_block (a:=⟨gl,j,none⟩) (hh.out.2.2.block gl H4.out.2.2.2.2)).trans (H4.out.2.2.2.1 j x hx)
      have hbl:([zm 4]++numsL (([a1,a2,a4,a5,a10]:List Int).take j)).length≤1000:=by
       exact sc6
      have HN:=hH (Zd wo a nn cp _ x hh.out.1 hh.out.2.1 om)
      have HX:=hH (aN (qg hx) (aN hh.out.2.2 hlt))
      have hjl:(j:Int)<5:=by omega
      exact sb0
    · have hjl:¬(j:Int)<5:=by omega
      have hjn:j=5:=by omega
      have hb8:Below w.heap.size w wo:=H4.out.1.trans (hh.out.2.2.mono H4.out.1.size)
      have m8:=(hh.out.2.2.block _ (lohQ H4.out.2.1)).trans H4.out.2.1
      have hat8:yt wo a ([zm 4]++numsL [a1,a2,a4,a5,a10]):=by have h1:=hh.out.2.1;rw[hjn] at h1;exact h1
      have hn8:nn=([zm 4]++numsL [a1,a2,a4,a5,a10]).length:=by have h1:=hh.out.1;rw[hjn] at h1;exact h1
      have H8:=hH (aN hb8 (aN hn8 (aN hat8 m8)))
      have c0:wo.cell? ⟨w.heap.size,0,none⟩=some (.int .i8 4):=by rw[corQ _ _ 0 _ _ _ m8];rfl
      clear hjn hb8 m8 hat8 hn8 hh hlt hj H4
      as_aux_lemma=>
       have HOE:=hH (show [zm 4]++numsL [a1,a2,a4,a5,a10]=OWN by rw[HO.out];unfold zbq numsL;simp[List.flatMap_cons,List.append_assoc])
       exact sb2
end Go.Proofs.YtoidedomenkbpaaGreat
