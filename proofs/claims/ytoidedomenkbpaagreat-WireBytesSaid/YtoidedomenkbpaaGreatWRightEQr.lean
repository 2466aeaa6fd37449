/-
  .
-/
import Derived.Test.YtoidedomenkbpaaGreatWRightAQr
import Derived.Test.YtoidedomenkbpaaGreatWRRightQr
import Derived.Test.YtoidedomenkbpaaGreatWSameDQr
import Derived.Test.YtoidedomenkbpaaGreatWRPl2Qr
import Derived.Test.YtoidedomenkbpaaGreatWRPl3Qr
import Derived.Test.YtoidedomenkbpaaGreatWRPl4Qr
import Derived.Test.YtoidedomenkbpaaGreatWRPl5Qr
import Derived.Test.YtoidedomenkbpaaGreatWRPl7Qr
import Derived.Test.YtoidedomenkbpaaGreatWRPl8Qr
import Derived.Test.YtoidedomenkbpaaGreatWRPl10Qr
set_option maxRecDepth 100000
set_option maxHeartbeats 40000000
set_option linter.unusedVariables false
set_option linter.unusedSimpArgs false
namespace Go.Proofs.YtoidedomenkbpaaGreat
open Go.RowKit Go.Shelf
structure zb7 (s:Sf):Prop where
 op:(Lit.int .i8 s.op).wf=true
 len:foLen s.sub.kids≤9223372036854775807
 fit:vY s.sub.kids
 ok:okF (spF 1 (yI s.sub))
 tx:(s.tx.size:Int)≤9223372036854775807
structure zeJ (w:World) (a:Option Addr) (vs:List SV):Prop where
 cells:zdv w (fun q=>q<w.heap.size) a vs
 lies:∀x∈vs,kI w x
 inn:∀x∈vs,zb7 x.s
theorem zeJ.on {w X:World}{a:Option Addr}{vs:List SV}(h:zeJ w a vs)(hb:Below w.heap.size w X):zeJ X a vs:=
 ⟨h.cells.kept fun y hy=>⟨nL hy hb.size,hb.block y hy⟩,fun x hx=>jo.on (h.lies x hx) hb,h.inn⟩
structure JW (w:World) (sa ar:Option Addr) (an am ad:Nat) (vs:List SV) (t:Tr):Prop where
 row:zeJ w sa vs
 len:an=vs.length
 kids:am=foLen t.kids
 cap:foLen t.kids≤ad
 lies:zK w (fun q=>q<w.heap.size) t.kids ar
 big:foLen t.kids≤9223372036854775807∧vY t.kids
 most:an≤9223372036854775807
theorem JW.on {w X:World}{sa ar:Option Addr}{an am ad:Nat}{vs:List SV}{t:Tr}(h:JW w sa ar an am ad vs t)(hb:Below w.heap.size w X):JW X sa ar an am ad vs t:=
 ⟨h.row.on hb,h.len,h.kids,h.cap,h.lies.kept fun q hq=>⟨nL hq hb.size,hb.block q hq⟩,h.big,h.most⟩
def JZ (vs:List SV)(t:Tr):Prop:=vs.length≤100∧zh t.kids+1≤2000∧∀x∈vs,zh x.s.sub.kids+1≤2000
theorem JW.at {w:World}{sa ar:Option Addr}{an am ad:Nat}{vs:List SV}{t:Tr}(h:JW w sa ar an am ad vs t)(hs:JZ vs t):zJ w sa ar an am ad vs t:=
 ⟨⟨h.row.cells,h.row.lies,fun x hx=>⟨(h.row.inn x hx).op,hs.2.2 x hx,(h.row.inn x hx).ok,(h.row.inn x hx).tx⟩,by have:=hs.1;omega⟩,h.len,h.kids,h.cap,h.lies,hs.2.1⟩
def zeB (w:World)(vs:List SV)(t:Tr)(e:Ending)(w' :World):Prop:=∃b,e= .returned (.bool b)∧(b=false→JZ vs t)∧Below w.heap.size w w'
theorem zcq (w :World)(a0 a1 a2 a3 a4 a5 a6 a7 a8 a9 a10:Int)(sa ar:Option Addr)(an ac am ad:Nat)(vs:List SV)(t:Tr)(h:JW w sa ar an am ad vs t):
 Calls Tryz.prog 20 #[.agg #[.int .i8 a0,.int .i64 a1,.int .i64 a2,.int .i64 a3,.int .i64 a4,.int .i64 a5,.int .i64 a6,.int .i64 a7,.int .i64 a8,.int .i64 a9,.int .i64 a10,.slice sa an ac,.int .i64 t.id,.int .i64 t.kind,.string t.text,.slice ar am ad]] w (zeB w vs t):=by
 obtain⟨B,hB⟩:∃B,B=w.alloc (.cells #[.int .i8 a0,.int .i64 a1,.int .i64 a2,.int .i64 a3,.int .i64 a4,.int .i64 a5,.int .i64 a6,.int .i64 a7,.int .i64 a8,.int .i64 a9,.int .i64 a10,.slice sa an ac,.int .i64 t.id,.int .i64 t.kind,.string t.text,.slice ar am ad] 37):=⟨_,rfl⟩
 have hb:Below w.heap.size w B:=by rw[hB];exact (BrQ _ _).alloc (NlrQ _) _
 have e0:B.heap[w.heap.size]? =some (.cells #[.int .i8 a0,.int .i64 a1,.int .i64 a2,.int .i64 a3,.int .i64 a4,.int .i64 a5,.int .i64 a6,.int .i64 a7,.int .i64 a8,.int .i64 a9,.int .i64 a10,.slice sa an ac,.int .i64 t.id,.int .i64 t.kind,.string t.text,.slice ar am ad] 37 (0,0)):=by rw[hB];exact hanQ _ _
 have HCE:=hH (fun (Y:World) (hY:Below B.heap.size B Y)=>(show Y.cell? ⟨w.heap.size,11,none⟩=some (.slice sa an ac)∧Y.cell? ⟨w.heap.size,12,none⟩=some (.int .i64 t.id)∧Y.cell? ⟨w.heap.size,13,none⟩=some (.int .i64 t.kind)∧Y.cell? ⟨w.heap.size,14,none⟩=some (.string t.text)∧Y.cell? ⟨w.heap.size,15,none⟩=some (.slice ar am ad) by
  have e:=(hY.block _ (lohQ e0)).trans e0
  exact⟨by rw[corQ _ _ 11 _ _ _ e];rfl,by rw[corQ _ _ 12 _ _ _ e];rfl,by rw[corQ _ _ 13 _ _ _ e];rfl,by rw[corQ _ _ 14 _ _ _ e];rfl,by rw[corQ _ _ 15 _ _ _ e];rfl⟩))
 have HG:=hH (QE B (fun q=>q<w.heap.size) (.agg #[.int .i64 t.id,.int .i64 t.kind,.string t.text,.slice ar am ad]) t h.big.1 h.big.2 (fun y hy=>nL hy hb.size) ⟨ar,ad,by rw[h.kids],h.cap,h.lies.below hb (fun _ hy=>hy)⟩)
 have HR:=hH h.row
 have HN:=hH h.len
 have HB:=hH (aN hb hB)
 have hmost:=h.most
 clear h hb hB e0
 obtain⟨c11,c12,c13,c14,c15⟩:=HCE.out B (BrQ _ _)
 go_enter Tryz.func20,Tryz.ntmps20
 go_upto_region 1 with fail
 change Code.wp _ _ _ _ (w.alloc (.cells #[.int .i8 a0,.int .i64 a1,.int .i64 a2,.int .i64 a3,.int .i64 a4,.int .i64 a5,.int .i64 a6,.int .i64 a7,.int .i64 a8,.int .i64 a9,.int .i64 a10,.slice sa an ac,.int .i64 t.id,.int .i64 t.kind,.string t.text,.slice ar am ad] 37))
 rw[←HB.out.2]
 by_cases h100:100<an
 · have h100i:(100:Int)<(an:Int):=by omega
   go_wp2_with fail
   go_ret
   exact⟨true,rfl,(fun h=>by cases h),HB.out.1⟩
 · have h100i :¬(100:Int)<(an:Int):=by omega
   go_wp2_with fail
   refine HG.out.mono ?_
   rintro e w1 ⟨bg,rfl,hbg,hb1⟩
   have HB1:=hH (aN (HB.out.1.trans (hb1.mono HB.out.1.size)) hb1)
   have HBG:=hH hbg
   have han:an≤100:=by omega
   clear hb1 hbg HG c11 c12 c13 c14 c15 h100 h100i hmost
   cases bg
   · have HSZ :=hH (HBG.out rfl)
     go_wp2_with fail
     go_loopw [3] (fun i wr=>∃k:Nat,k≤an∧i= .int .i64 (k:Int)∧Hid (Below B.heap.size B wr∧∀j x,j<k→vs[j]? =some x→zh x.s.sub.kids+1≤2000)) (fun i _=>an - (intOf i).toNat)
     case atStart=>exact⟨0,NzlQ _,rfl,hH ⟨HB1.out.2,fun j x hj=>by omega⟩⟩
     case round=>
      obtain⟨k,hk,rfl,hh⟩:=hrel
      obtain⟨wo,hwo⟩:∃wo,wo=wr:=⟨_,rfl⟩
      subst hwo
      obtain⟨c11,c12,c13,c14,c15⟩:=HCE.out wo hh.out.1
      by_cases hlt:k<an
      · have hkl:(k:Int)<(an:Int):=by omega
        obtain⟨x,hx⟩:∃x,vs[k]? =some x:=⟨_,List.getElem?_eq_getElem (by rw[←HN.out];exact hlt)⟩
        have hxm:=List.mem_of_getElem? hx
        obtain⟨b,off,rfl,hbl,hcs⟩:=HR.out.cells k x hx
        have hwB:=HB.out.1.trans (hh.out.1.mono HB.out.1.size)
        obtain⟨sn,hsn⟩:∃sn,sn=foLen x.s.sub.kids:=⟨_,rfl⟩
        have hce:wo.cell? ⟨b,off+k*9+5,none⟩=some (.int .i64 x.s.sub.id)∧wo.cell? ⟨b,off+k*9+6,none⟩=some (.int .i64 x.s.sub.kind)∧wo.cell? ⟨b,off+k*9+7,none⟩=some (.string x.s.sub.text)∧wo.cell? ⟨b,off+k*9+8,none⟩=some (.slice x.a sn x.c):=by
         have h:=fun j u hj=>(World.cell?_of_block (a:=⟨b,off+k*9+j,none⟩) (hwB.block b hbl)).trans (hcs j u hj)
         rw[hsn]
         exact⟨h 5 _ rfl,h 6 _ rfl,h 7 _ rfl,h 8 _ rfl⟩
        have hin:=HR.out.inn x hxm
        have HGR:=hH (QE wo (fun q=>q<w.heap.size) (.agg #[.int .i64 x.s.sub.id,.int .i64 x.s.sub.kind,.string x.s.sub.text,.slice x.a sn x.c]) x.s.sub hin.len hin.fit (fun y hy=>nL hy hwB.size) (by rw[hsn];exact kI.at (HR.out.lies x hxm) hwB))
        obtain⟨s5,s6,s7,s8⟩:=hce
        have HX:=hH (aN hx (aN hh.out.2 (aN hlt (aN hh.out.1 hwB))))
        clear hx hxm hcs hin hwB hsn hbl hh hk
        go_wp2_with fail
        refine HGR.out.mono ?_
        rintro e w6 ⟨bq,rfl,hbq,hb6⟩
        have HB6:=hH (aN (HX.out.2.2.2.1.trans (hb6.mono HX.out.2.2.2.1.size)) (HX.out.2.2.2.2.trans (hb6.mono HX.out.2.2.2.2.size)))
        have HBQ:=hH hbq
        clear hb6 hbq HGR c11 c12 c13 c14 c15 s5 s6 s7 s8
        cases bq
        · have HS2:=hH (HBQ.out rfl)
          go_wp2_with fail
          exact⟨⟨k+1,HX.out.2.2.1,by go_num,hH ⟨HB6.out.1,fun j y hj hy=>by
           rcases Nat.lt_or_ge j k with h | h
           · exact HX.out.2.1 j y h hy
           · have:j=k:=by omega
             subst this
             rw[HX.out.1] at hy;cases hy;exact HS2.out⟩⟩,by have:=HX.out.2.2.1;simp[intOf];omega⟩
        · go_wp2_with fail
          go_ret
          exact⟨true,rfl,(fun h=>by cases h),HB6.out.2⟩
      · have hkl:¬(k:Int)<(an:Int):=by omega
        have HE:=hH (show zeB w vs t (.returned (.bool false)) wo from⟨false,rfl,fun _=>⟨by rw[←HN.out];exact han,HSZ.out,fun x hx=>by
         obtain⟨j,hj,e⟩:=List.getElem_of_mem hx
         exact hh.out.2 j x (by rw[←HN.out] at hj;omega) ub5⟩,HB.out.1.trans (hh.out.1.mono HB.out.1.size)⟩)
        clear hlt hh hk
        go_wp2_with fail
        go_ret
        exact HE.out
   · go_wp2_with fail
     go_ret
     exact⟨true,rfl,(fun h=>by cases h),HB1.out.1⟩
theorem zcJ (t:Tr):zL ⟨0,0,⟨#[]⟩,.nil⟩ t=zL t ⟨0,0,⟨#[]⟩,.nil⟩:=by
 obtain⟨i,k,x,f⟩:=t
 unfold zL Yl
 cases f with
 | nil=>simp only[foLen,vP];congr 1;exact decide_eq_decide.2 ⟨fun ⟨h1,h2,h3⟩=>⟨h1.symm,h2.symm,h3.symm⟩,fun ⟨h1,h2,h3⟩=>⟨h1.symm,h2.symm,h3.symm⟩⟩
 | node _ _ _ _ _=>simp only[vP,Bool.and_false]
theorem Row.ziD (w:World)(a:Option Addr):Row w a []:=⟨fun k x hx=>by simp at hx,fun x hx=>by simp at hx,fun x hx=>by simp at hx,by simp⟩
theorem qN (w:World)(sa:Option Addr)(an ac:Nat)(vs:List SV)(hn:an=vs.length)(h:Row w sa vs):Calls Tryz.prog 14 #[.slice none 0 0,.slice sa an ac] w (zx (an == 0) w):=
 (zc3 w none sa 0 an 0 ac [] vs rfl hn (Row.ziD w none) h).mono fun e W h2=>⟨h2.1.trans (by
   subst hn
   cases vs<;>rfl),h2.2⟩
theorem YU (w:World)(sa:Option Addr)(an ac:Nat)(vs:List SV)(hn:an=vs.length)(h:Row w sa vs):Calls Tryz.prog 14 #[.slice sa an ac,.slice sa an ac] w (zx true w):=
 (zc3 w sa sa an an ac ac vs vs hn hn h h).mono fun e W h2=>⟨h2.1.trans (by rw[zaY]),h2.2⟩
theorem JK (w:World)(t u:Tr)(ar br:Option Addr)(am ad bm bd:Nat)(S1 S2:Nat→Prop)(hm:am=foLen t.kids)(hm2:bm=foLen u.kids)(hS1:∀y,S1 y→y<w.heap.size)(hS2:∀y,S2 y→y<w.heap.size)(hc1:foLen t.kids≤ad)(hc2:foLen u.kids≤bd)(h1:zK w S1 t.kids ar)(h2:zK w S2 u.kids br)(hz:zh t.kids+1≤2000):Calls Tryz.prog 64 #[.agg #[.int .i64 t.id,.int .i64 t.kind,.string t.text,.slice ar am ad],.agg #[.int .i64 u.id,.int .i64 u.kind,.string u.text,.slice br bm bd]] w (zx (zL t u) w):=by
 subst hm
 subst hm2
 exact QY _ w S1 S2 _ _ t u (Nat.lt_succ_self _) ⟨by have:=yV t.kids;omega,jX _ om⟩ hS1 hS2 ⟨ar,ad,rfl,hc1,h1⟩ ⟨br,bd,rfl,hc2,h2⟩
theorem vF {w:World}{sa ar:Option Addr}{an am ad:Nat}{vs:List SV}{t:Tr}(h:zJ w sa ar an am ad vs t):Calls Tryz.prog 64 #[.agg #[.int .i64 0,.int .i64 0,.string ⟨#[]⟩,.slice none 0 0],.agg #[.int .i64 t.id,.int .i64 t.kind,.string t.text,.slice ar am ad]] w (zx (zL t ⟨0,0,⟨#[]⟩,.nil⟩) w):=
 (JK w ⟨0,0,⟨#[]⟩,.nil⟩ t none ar 0 0 am ad (fun _=>False) (fun q=>q<w.heap.size) rfl h.kids (fun _ h=>h.elim) (fun _ h=>h) (NlrQ _) h.cap trivial h.lies ue3).mono fun e W h2=>⟨h2.1.trans (by rw[zcJ]),h2.2⟩
theorem QW {w:World}{sa ar:Option Addr}{an am ad:Nat}{vs:List SV}{t:Tr}(h:zJ w sa ar an am ad vs t):Calls Tryz.prog 64 #[.agg #[.int .i64 t.id,.int .i64 t.kind,.string t.text,.slice ar am ad],.agg #[.int .i64 t.id,.int .i64 t.kind,.string t.text,.slice ar am ad]] w (zx true w):=
 (JK w t t ar ar am ad am ad (fun q=>q<w.heap.size) (fun q=>q<w.heap.size) h.kids h.kids (fun _ h=>h) (fun _ h=>h) h.cap h.cap h.lies h.lies h.size).mono fun e W h2=>⟨h2.1.trans (by rw[ZY]),h2.2⟩
theorem zit (a1 a2 a3 a4 a5 a6 a7 a8 a9 a10:Int)(s u:Bool):(((zl 0 0 a1 && (zl 1 8 a2 && (zl 1 1125899906842624 a4 && (true)))) && (zP ⟨1,0,0,a3,0,a5,a6,a7,a8,a9,a10⟩ ⟨1,0,0,0,0,0,0,0,0,0,0⟩ && (s && u))):Bool)=((zP ⟨1,a1,a2,0,a4,0,0,0,0,0,0⟩ ⟨1,a1,a2,a3,a4,a5,a6,a7,a8,a9,a10⟩ && (s && u)) && (decide (a1=0) && (decide (1≤a2) && (decide (a2≤8) && (zl 1 1125899906842624 a4 && (true)))))):=by
 exact sc2
def Qe (a1 a2 a3 a4 a5 a6 a7 a8 a9 a10:Int)(sa ar:Option Addr)(an ac am ad:Nat)(vs:List SV)(t:Tr):Bool:=(yo (zt 1::toQ 1:: [ze 1]) #[.int .i8 1,.int .i64 a1,.int .i64 a2,.int .i64 a3,.int .i64 a4,.int .i64 a5,.int .i64 a6,.int .i64 a7,.int .i64 a8,.int .i64 a9,.int .i64 a10,.slice sa an ac,.int .i64 t.id,.int .i64 t.kind,.string t.text,.slice ar am ad]) && (zP ⟨1,0,0,a3,0,a5,a6,a7,a8,a9,a10⟩ ⟨1,0,0,0,0,0,0,0,0,0,0⟩ && ((an == 0) && zL t ⟨0,0,⟨#[]⟩,.nil⟩))
theorem Zo (a1 a2 a3 a4 a5 a6 a7 a8 a9 a10:Int)(sa ar:Option Addr)(an ac am ad:Nat)(vs:List SV)(t:Tr)(w:World)(h:zJ w sa ar an am ad vs t):Calls Tryz.prog 22 #[.agg #[.int .i8 1,.int .i64 a1,.int .i64 a2,.int .i64 a3,.int .i64 a4,.int .i64 a5,.int .i64 a6,.int .i64 a7,.int .i64 a8,.int .i64 a9,.int .i64 a10,.slice sa an ac,.int .i64 t.id,.int .i64 t.kind,.string t.text,.slice ar am ad]] w (zx (Qe a1 a2 a3 a4 a5 a6 a7 a8 a9 a10 sa ar an ac am ad vs t) w)∧Calls Tryz.prog 23 #[.agg #[.int .i8 1,.int .i64 a1,.int .i64 a2,.int .i64 a3,.int .i64 a4,.int .i64 a5,.int .i64 a6,.int .i64 a7,.int .i64 a8,.int .i64 a9,.int .i64 a10,.slice sa an ac,.int .i64 t.id,.int .i64 t.kind,.string t.text,.slice ar am ad]] w (zx (Qe a1 a2 a3 a4 a5 a6 a7 a8 a9 a10 sa ar an ac am ad vs t) w):=by
 unfold Qe
 refine⟨zgN w a1 a2 a3 a4 a5 a6 a7 a8 a9 a10 sa ar an ac am ad vs t h,?_⟩
 rw[show yo (zt 1::toQ 1:: [ze 1]) #[.int .i8 1,.int .i64 a1,.int .i64 a2,.int .i64 a3,.int .i64 a4,.int .i64 a5,.int .i64 a6,.int .i64 a7,.int .i64 a8,.int .i64 a9,.int .i64 a10,.slice sa an ac,.int .i64 t.id,.int .i64 t.kind,.string t.text,.slice ar am ad]=(zl 0 0 a1 && (zl 1 8 a2 && (zl 1 1125899906842624 a4 && (true)))) from by kernel_rfl]
 have hd:=qh w 1 a1 a2 a3 a4 a5 a6 a7 a8 a9 a10 t.id t.kind sa ar an ac am ad t.text 1 a1 a2 0 a4 0 0 0 0 0 0 0 0 none none 0 0 0 0 ⟨#[]⟩ (zP ⟨1,a1,a2,0,a4,0,0,0,0,0,0⟩ ⟨1,a1,a2,a3,a4,a5,a6,a7,a8,a9,a10⟩ && ((an == 0) && zL t ⟨0,0,⟨#[]⟩,.nil⟩)) (true) ue3 ue3
  (fun Y _=>zhR Y a1 a2 a3 a4 a5 a6 a7 a8 a9 a10 t.id t.kind sa ar an ac am ad t.text)
  (fun Y hY=>qD Y 1 a1 a2 0 a4 0 0 0 0 0 0 0 0 none none 0 0 0 0 ⟨#[]⟩ 1 a1 a2 a3 a4 a5 a6 a7 a8 a9 a10 t.id t.kind sa ar an ac am ad t.text (an == 0) (zL t ⟨0,0,⟨#[]⟩,.nil⟩) (fun V hV=>qN V sa an ac vs h.len (h.row.on (hY.trans (hV.mono hY.size)))) (fun V hV=>vF (h.on (hY.trans (hV.mono hY.size)))))
  (fun Y hY=>zgs Y a1 a2 a3 a4 a5 a6 a7 a8 a9 a10 t.id t.kind sa ar an ac am ad t.text)
 exact hd.mono fun e W hh=>⟨hh.1.trans (by rw[←zit a1 a2 a3 a4 a5 a6 a7 a8 a9 a10 (an == 0) (zL t ⟨0,0,⟨#[]⟩,.nil⟩)]),hh.2⟩
theorem ziu (a1 a2 a3 a4 a5 a6 a7 a8 a9 a10:Int)(s u:Bool):(((zl 1 8 a1 && (zl 0 0 a2 && (zl 1 1125899906842624 a3 && (zl 0 1125899906842624 a4 && (zl 1 1125899906842624 a5 && (zl 1 1125899906842624 a6 && (true))))))) && (zP ⟨2,0,0,0,0,0,0,a7,a8,a9,a10⟩ ⟨2,0,0,0,0,0,0,0,0,0,0⟩ && (s && u))):Bool)=((zP ⟨2,a1,a2,a3,a4,a5,a6,0,0,0,0⟩ ⟨2,a1,a2,a3,a4,a5,a6,a7,a8,a9,a10⟩ && (s && u)) && (decide (1≤a1) && (decide (a1≤8) && (decide (a2=0) && (zl 1 1125899906842624 a3 && (zl 0 1125899906842624 a4 && (zl 1 1125899906842624 a5 && (zl 1 1125899906842624 a6)))))))):=by
 exact sc2
def Qf (a1 a2 a3 a4 a5 a6 a7 a8 a9 a10:Int)(sa ar:Option Addr)(an ac am ad:Nat)(vs:List SV)(t:Tr):Bool:=(yo (zt 2::toQ 2:: [(3,1,1125899906842624),ze 2,(5,1,1125899906842624),(6,1,1125899906842624)]) #[.int .i8 2,.int .i64 a1,.int .i64 a2,.int .i64 a3,.int .i64 a4,.int .i64 a5,.int .i64 a6,.int .i64 a7,.int .i64 a8,.int .i64 a9,.int .i64 a10,.slice sa an ac,.int .i64 t.id,.int .i64 t.kind,.string t.text,.slice ar am ad]) && (zP ⟨2,0,0,0,0,0,0,a7,a8,a9,a10⟩ ⟨2,0,0,0,0,0,0,0,0,0,0⟩ && ((an == 0) && zL t ⟨0,0,⟨#[]⟩,.nil⟩))
theorem Zp (a1 a2 a3 a4 a5 a6 a7 a8 a9 a10:Int)(sa ar:Option Addr)(an ac am ad:Nat)(vs:List SV)(t:Tr)(w:World)(h:zJ w sa ar an am ad vs t):Calls Tryz.prog 22 #[.agg #[.int .i8 2,.int .i64 a1,.int .i64 a2,.int .i64 a3,.int .i64 a4,.int .i64 a5,.int .i64 a6,.int .i64 a7,.int .i64 a8,.int .i64 a9,.int .i64 a10,.slice sa an ac,.int .i64 t.id,.int .i64 t.kind,.string t.text,.slice ar am ad]] w (zx (Qf a1 a2 a3 a4 a5 a6 a7 a8 a9 a10 sa ar an ac am ad vs t) w)∧Calls Tryz.prog 23 #[.agg #[.int .i8 2,.int .i64 a1,.int .i64 a2,.int .i64 a3,.int .i64 a4,.int .i64 a5,.int .i64 a6,.int .i64 a7,.int .i64 a8,.int .i64 a9,.int .i64 a10,.slice sa an ac,.int .i64 t.id,.int .i64 t.kind,.string t.text,.slice ar am ad]] w (zx (Qf a1 a2 a3 a4 a5 a6 a7 a8 a9 a10 sa ar an ac am ad vs t) w):=by
 unfold Qf
 refine⟨zgO w a1 a2 a3 a4 a5 a6 a7 a8 a9 a10 sa ar an ac am ad vs t h,?_⟩
 rw[show yo (zt 2::toQ 2:: [(3,1,1125899906842624),ze 2,(5,1,1125899906842624),(6,1,1125899906842624)]) #[.int .i8 2,.int .i64 a1,.int .i64 a2,.int .i64 a3,.int .i64 a4,.int .i64 a5,.int .i64 a6,.int .i64 a7,.int .i64 a8,.int .i64 a9,.int .i64 a10,.slice sa an ac,.int .i64 t.id,.int .i64 t.kind,.string t.text,.slice ar am ad]=(zl 1 8 a1 && (zl 0 0 a2 && (zl 1 1125899906842624 a3 && (zl 0 1125899906842624 a4 && (zl 1 1125899906842624 a5 && (zl 1 1125899906842624 a6 && (true))))))) from by kernel_rfl]
 have hd:=jS w 2 a1 a2 a3 a4 a5 a6 a7 a8 a9 a10 t.id t.kind sa ar an ac am ad t.text 2 a1 a2 a3 a4 a5 a6 0 0 0 0 0 0 none none 0 0 0 0 ⟨#[]⟩ (zP ⟨2,a1,a2,a3,a4,a5,a6,0,0,0,0⟩ ⟨2,a1,a2,a3,a4,a5,a6,a7,a8,a9,a10⟩ && ((an == 0) && zL t ⟨0,0,⟨#[]⟩,.nil⟩)) (zl 1 1125899906842624 a5 && (zl 1 1125899906842624 a6)) ue3 ue3
  (fun Y _=>zhS Y a1 a2 a3 a4 a5 a6 a7 a8 a9 a10 t.id t.kind sa ar an ac am ad t.text)
  (fun Y hY=>qD Y 2 a1 a2 a3 a4 a5 a6 0 0 0 0 0 0 none none 0 0 0 0 ⟨#[]⟩ 2 a1 a2 a3 a4 a5 a6 a7 a8 a9 a10 t.id t.kind sa ar an ac am ad t.text (an == 0) (zL t ⟨0,0,⟨#[]⟩,.nil⟩) (fun V hV=>qN V sa an ac vs h.len (h.row.on (hY.trans (hV.mono hY.size)))) (fun V hV=>vF (h.on (hY.trans (hV.mono hY.size)))))
  (fun Y hY=>zhr Y a1 a2 a3 a4 a5 a6 a7 a8 a9 a10 t.id t.kind sa ar an ac am ad t.text)
 exact hd.mono fun e W hh=>⟨hh.1.trans (by rw[←ziu a1 a2 a3 a4 a5 a6 a7 a8 a9 a10 (an == 0) (zL t ⟨0,0,⟨#[]⟩,.nil⟩)]),hh.2⟩
theorem ziv (a1 a2 a3 a4 a5 a6 a7 a8 a9 a10:Int)(q s:Bool):((((zl 0 0 a1 && (zl 1 8 a2 && (zl 1 1125899906842624 a4 && (zl 1 1125899906842624 a5 && (zl 1 1125899906842624 a7 && (zl 1 1125899906842624 a8 && (zl 0 1125899906842624 a9 && (true)))))))) && q) && (zP ⟨3,0,0,a3,0,0,a6,0,0,0,a10⟩ ⟨3,0,0,0,0,0,0,0,0,0,0⟩ && (s && true))):Bool)=((zP ⟨3,a1,a2,0,a4,a5,0,a7,a8,a9,0⟩ ⟨3,a1,a2,a3,a4,a5,a6,a7,a8,a9,a10⟩ && (s && true)) && (decide (a1=0) && (decide (1≤a2) && (decide (a2≤8) && (zl 1 1125899906842624 a4 && (zl 1 1125899906842624 a5 && (zl 1 1125899906842624 a7 && (zl 1 1125899906842624 a8 && (zl 0 1125899906842624 a9 && (q)))))))))):=by
 exact sf8
def Yi (a1 a2 a3 a4 a5 a6 a7 a8 a9 a10:Int)(sa ar:Option Addr)(an ac am ad:Nat)(vs:List SV)(t:Tr):Bool:=(yo (zt 3::toQ 3:: [ze 3,(5,1,1125899906842624),(7,1,1125899906842624),(8,1,1125899906842624),(9,0,1125899906842624)]) #[.int .i8 3,.int .i64 a1,.int .i64 a2,.int .i64 a3,.int .i64 a4,.int .i64 a5,.int .i64 a6,.int .i64 a7,.int .i64 a8,.int .i64 a9,.int .i64 a10,.slice sa an ac,.int .i64 t.id,.int .i64 t.kind,.string t.text,.slice ar am ad] && zU t) && (zP ⟨3,0,0,a3,0,0,a6,0,0,0,a10⟩ ⟨3,0,0,0,0,0,0,0,0,0,0⟩ && ((an == 0) && true))
theorem Zq (a1 a2 a3 a4 a5 a6 a7 a8 a9 a10:Int)(sa ar:Option Addr)(an ac am ad:Nat)(vs:List SV)(t:Tr)(w:World)(h:zJ w sa ar an am ad vs t):Calls Tryz.prog 22 #[.agg #[.int .i8 3,.int .i64 a1,.int .i64 a2,.int .i64 a3,.int .i64 a4,.int .i64 a5,.int .i64 a6,.int .i64 a7,.int .i64 a8,.int .i64 a9,.int .i64 a10,.slice sa an ac,.int .i64 t.id,.int .i64 t.kind,.string t.text,.slice ar am ad]] w (zx (Yi a1 a2 a3 a4 a5 a6 a7 a8 a9 a10 sa ar an ac am ad vs t) w)∧Calls Tryz.prog 23 #[.agg #[.int .i8 3,.int .i64 a1,.int .i64 a2,.int .i64 a3,.int .i64 a4,.int .i64 a5,.int .i64 a6,.int .i64 a7,.int .i64 a8,.int .i64 a9,.int .i64 a10,.slice sa an ac,.int .i64 t.id,.int .i64 t.kind,.string t.text,.slice ar am ad]] w (zx (Yi a1 a2 a3 a4 a5 a6 a7 a8 a9 a10 sa ar an ac am ad vs t) w):=by
 unfold Yi
 refine⟨zgP w a1 a2 a3 a4 a5 a6 a7 a8 a9 a10 sa ar an ac am ad vs t h,?_⟩
 rw[show yo (zt 3::toQ 3:: [ze 3,(5,1,1125899906842624),(7,1,1125899906842624),(8,1,1125899906842624),(9,0,1125899906842624)]) #[.int .i8 3,.int .i64 a1,.int .i64 a2,.int .i64 a3,.int .i64 a4,.int .i64 a5,.int .i64 a6,.int .i64 a7,.int .i64 a8,.int .i64 a9,.int .i64 a10,.slice sa an ac,.int .i64 t.id,.int .i64 t.kind,.string t.text,.slice ar am ad]=(zl 0 0 a1 && (zl 1 8 a2 && (zl 1 1125899906842624 a4 && (zl 1 1125899906842624 a5 && (zl 1 1125899906842624 a7 && (zl 1 1125899906842624 a8 && (zl 0 1125899906842624 a9 && (true)))))))) from by kernel_rfl]
 have hd:=qh w 3 a1 a2 a3 a4 a5 a6 a7 a8 a9 a10 t.id t.kind sa ar an ac am ad t.text 3 a1 a2 0 a4 a5 0 a7 a8 a9 0 t.id t.kind none ar 0 0 am ad t.text (zP ⟨3,a1,a2,0,a4,a5,0,a7,a8,a9,0⟩ ⟨3,a1,a2,a3,a4,a5,a6,a7,a8,a9,a10⟩ && ((an == 0) && true)) (zl 1 1125899906842624 a5 && (zl 1 1125899906842624 a7 && (zl 1 1125899906842624 a8 && (zl 0 1125899906842624 a9 && (zU t))))) ue3 ue3
  (fun Y _=>zhT Y a1 a2 a3 a4 a5 a6 a7 a8 a9 a10 t.id t.kind sa ar an ac am ad t.text)
  (fun Y hY=>qD Y 3 a1 a2 0 a4 a5 0 a7 a8 a9 0 t.id t.kind none ar 0 0 am ad t.text 3 a1 a2 a3 a4 a5 a6 a7 a8 a9 a10 t.id t.kind sa ar an ac am ad t.text (an == 0) (true) (fun V hV=>qN V sa an ac vs h.len (h.row.on (hY.trans (hV.mono hY.size)))) (fun V hV=>QW (h.on (hY.trans (hV.mono hY.size)))))
  (fun Y hY=>zgt Y a1 a2 a3 a4 a5 a6 a7 a8 a9 a10 t.id t.kind sa ar an ac am ad t.text (zU t) (fun V hV=>ZV V (fun q=>q<w.heap.size) t ar am ad h.kids (fun y hy=>nL hy (hY.trans (hV.mono hY.size)).size) (h.lies.below (hY.trans (hV.mono hY.size)) (fun _ hy=>hy))))
 exact hd.mono fun e W hh=>⟨hh.1.trans (by rw[←ziv a1 a2 a3 a4 a5 a6 a7 a8 a9 a10 (zU t) (an == 0)]),hh.2⟩
theorem ziw (a1 a2 a3 a4 a5 a6 a7 a8 a9 a10:Int)(s u:Bool):(((zl 0 0 a1 && (zl 1 8 a2 && (zl 1 1125899906842624 a4 && (zl 1 1125899906842624 a5 && (zl 1 999 a10 && (true)))))) && (zP ⟨4,0,0,a3,0,0,a6,a7,a8,a9,0⟩ ⟨4,0,0,0,0,0,0,0,0,0,0⟩ && (s && u))):Bool)=((zP ⟨4,a1,a2,0,a4,a5,0,0,0,0,a10⟩ ⟨4,a1,a2,a3,a4,a5,a6,a7,a8,a9,a10⟩ && (s && u)) && (decide (a1=0) && (decide (1≤a2) && (decide (a2≤8) && (zl 1 1125899906842624 a4 && (zl 1 1125899906842624 a5 && (decide (1≤a10) && (decide (a10≤999))))))))):=by
 exact sc2
def Qg (a1 a2 a3 a4 a5 a6 a7 a8 a9 a10:Int)(sa ar:Option Addr)(an ac am ad:Nat)(vs:List SV)(t:Tr):Bool:=(yo (zt 4::toQ 4:: [ze 4,(5,1,1125899906842624),(10,1,999)]) #[.int .i8 4,.int .i64 a1,.int .i64 a2,.int .i64 a3,.int .i64 a4,.int .i64 a5,.int .i64 a6,.int .i64 a7,.int .i64 a8,.int .i64 a9,.int .i64 a10,.slice sa an ac,.int .i64 t.id,.int .i64 t.kind,.string t.text,.slice ar am ad]) && (zP ⟨4,0,0,a3,0,0,a6,a7,a8,a9,0⟩ ⟨4,0,0,0,0,0,0,0,0,0,0⟩ && ((an == 0) && zL t ⟨0,0,⟨#[]⟩,.nil⟩))
theorem Zr (a1 a2 a3 a4 a5 a6 a7 a8 a9 a10:Int)(sa ar:Option Addr)(an ac am ad:Nat)(vs:List SV)(t:Tr)(w:World)(h:zJ w sa ar an am ad vs t):Calls Tryz.prog 22 #[.agg #[.int .i8 4,.int .i64 a1,.int .i64 a2,.int .i64 a3,.int .i64 a4,.int .i64 a5,.int .i64 a6,.int .i64 a7,.int .i64 a8,.int .i64 a9,.int .i64 a10,.slice sa an ac,.int .i64 t.id,.int .i64 t.kind,.string t.text,.slice ar am ad]] w (zx (Qg a1 a2 a3 a4 a5 a6 a7 a8 a9 a10 sa ar an ac am ad vs t) w)∧Calls Tryz.prog 23 #[.agg #[.int .i8 4,.int .i64 a1,.int .i64 a2,.int .i64 a3,.int .i64 a4,.int .i64 a5,.int .i64 a6,.int .i64 a7,.int .i64 a8,.int .i64 a9,.int .i64 a10,.slice sa an ac,.int .i64 t.id,.int .i64 t.kind,.string t.text,.slice ar am ad]] w (zx (Qg a1 a2 a3 a4 a5 a6 a7 a8 a9 a10 sa ar an ac am ad vs t) w):=by
 unfold Qg
 refine⟨zgQ w a1 a2 a3 a4 a5 a6 a7 a8 a9 a10 sa ar an ac am ad vs t h,?_⟩
 rw[show yo (zt 4::toQ 4:: [ze 4,(5,1,1125899906842624),(10,1,999)]) #[.int .i8 4,.int .i64 a1,.int .i64 a2,.int .i64 a3,.int .i64 a4,.int .i64 a5,.int .i64 a6,.int .i64 a7,.int .i64 a8,.int .i64 a9,.int .i64 a10,.slice sa an ac,.int .i64 t.id,.int .i64 t.kind,.string t.text,.slice ar am ad]=(zl 0 0 a1 && (zl 1 8 a2 && (zl 1 1125899906842624 a4 && (zl 1 1125899906842624 a5 && (zl 1 999 a10 && (true)))))) from by kernel_rfl]
 have hd:=qh w 4 a1 a2 a3 a4 a5 a6 a7 a8 a9 a10 t.id t.kind sa ar an ac am ad t.text 4 a1 a2 0 a4 a5 0 0 0 0 a10 0 0 none none 0 0 0 0 ⟨#[]⟩ (zP ⟨4,a1,a2,0,a4,a5,0,0,0,0,a10⟩ ⟨4,a1,a2,a3,a4,a5,a6,a7,a8,a9,a10⟩ && ((an == 0) && zL t ⟨0,0,⟨#[]⟩,.nil⟩)) (zl 1 1125899906842624 a5 && (decide (1≤a10) && (decide (a10≤999)))) ue3 ue3
  (fun Y _=>zhU Y a1 a2 a3 a4 a5 a6 a7 a8 a9 a10 t.id t.kind sa ar an ac am ad t.text)
  (fun Y hY=>qD Y 4 a1 a2 0 a4 a5 0 0 0 0 a10 0 0 none none 0 0 0 0 ⟨#[]⟩ 4 a1 a2 a3 a4 a5 a6 a7 a8 a9 a10 t.id t.kind sa ar an ac am ad t.text (an == 0) (zL t ⟨0,0,⟨#[]⟩,.nil⟩) (fun V hV=>qN V sa an ac vs h.len (h.row.on (hY.trans (hV.mono hY.size)))) (fun V hV=>vF (h.on (hY.trans (hV.mono hY.size)))))
  (fun Y hY=>zgu Y a1 a2 a3 a4 a5 a6 a7 a8 a9 a10 t.id t.kind sa ar an ac am ad t.text)
 exact hd.mono fun e W hh=>⟨hh.1.trans (by rw[←ziw a1 a2 a3 a4 a5 a6 a7 a8 a9 a10 (an == 0) (zL t ⟨0,0,⟨#[]⟩,.nil⟩)]),hh.2⟩
theorem zix (a1 a2 a3 a4 a5 a6 a7 a8 a9 a10:Int)(q u:Bool):((((zl 1 8 a1 && (zl 0 0 a2 && (zl 1 1125899906842624 a3 && (zl 0 1125899906842624 a4 && (zl 1 1125899906842624 a5 && (zl 1 1125899906842624 a7 && (zl 1 1125899906842624 a8 && (true)))))))) && q) && (zP ⟨5,0,0,0,0,0,a6,0,0,a9,a10⟩ ⟨5,0,0,0,0,0,0,0,0,0,0⟩ && (true && u))):Bool)=((zP ⟨5,a1,a2,a3,a4,a5,0,a7,a8,0,0⟩ ⟨5,a1,a2,a3,a4,a5,a6,a7,a8,a9,a10⟩ && (true && u)) && (decide (1≤a1) && (decide (a1≤8) && (decide (a2=0) && (zl 1 1125899906842624 a3 && (zl 0 1125899906842624 a4 && (zl 1 1125899906842624 a5 && (zl 1 1125899906842624 a7 && (zl 1 1125899906842624 a8 && (q)))))))))):=by
 exact sf9
def Yj (a1 a2 a3 a4 a5 a6 a7 a8 a9 a10:Int)(sa ar:Option Addr)(an ac am ad:Nat)(vs:List SV)(t:Tr):Bool:=(yo (zt 5::toQ 5:: [(3,1,1125899906842624),ze 5,(5,1,1125899906842624),(7,1,1125899906842624),(8,1,1125899906842624)]) #[.int .i8 5,.int .i64 a1,.int .i64 a2,.int .i64 a3,.int .i64 a4,.int .i64 a5,.int .i64 a6,.int .i64 a7,.int .i64 a8,.int .i64 a9,.int .i64 a10,.slice sa an ac,.int .i64 t.id,.int .i64 t.kind,.string t.text,.slice ar am ad] && zM (steps vs)) && (zP ⟨5,0,0,0,0,0,a6,0,0,a9,a10⟩ ⟨5,0,0,0,0,0,0,0,0,0,0⟩ && (true && zL t ⟨0,0,⟨#[]⟩,.nil⟩))
theorem Zt (a1 a2 a3 a4 a5 a6 a7 a8 a9 a10:Int)(sa ar:Option Addr)(an ac am ad:Nat)(vs:List SV)(t:Tr)(w:World)(h:zJ w sa ar an am ad vs t):Calls Tryz.prog 22 #[.agg #[.int .i8 5,.int .i64 a1,.int .i64 a2,.int .i64 a3,.int .i64 a4,.int .i64 a5,.int .i64 a6,.int .i64 a7,.int .i64 a8,.int .i64 a9,.int .i64 a10,.slice sa an ac,.int .i64 t.id,.int .i64 t.kind,.string t.text,.slice ar am ad]] w (zx (Yj a1 a2 a3 a4 a5 a6 a7 a8 a9 a10 sa ar an ac am ad vs t) w)∧Calls Tryz.prog 23 #[.agg #[.int .i8 5,.int .i64 a1,.int .i64 a2,.int .i64 a3,.int .i64 a4,.int .i64 a5,.int .i64 a6,.int .i64 a7,.int .i64 a8,.int .i64 a9,.int .i64 a10,.slice sa an ac,.int .i64 t.id,.int .i64 t.kind,.string t.text,.slice ar am ad]] w (zx (Yj a1 a2 a3 a4 a5 a6 a7 a8 a9 a10 sa ar an ac am ad vs t) w):=by
 unfold Yj
 refine⟨zgR w a1 a2 a3 a4 a5 a6 a7 a8 a9 a10 sa ar an ac am ad vs t h,?_⟩
 rw[show yo (zt 5::toQ 5:: [(3,1,1125899906842624),ze 5,(5,1,1125899906842624),(7,1,1125899906842624),(8,1,1125899906842624)]) #[.int .i8 5,.int .i64 a1,.int .i64 a2,.int .i64 a3,.int .i64 a4,.int .i64 a5,.int .i64 a6,.int .i64 a7,.int .i64 a8,.int .i64 a9,.int .i64 a10,.slice sa an ac,.int .i64 t.id,.int .i64 t.kind,.string t.text,.slice ar am ad]=(zl 1 8 a1 && (zl 0 0 a2 && (zl 1 1125899906842624 a3 && (zl 0 1125899906842624 a4 && (zl 1 1125899906842624 a5 && (zl 1 1125899906842624 a7 && (zl 1 1125899906842624 a8 && (true)))))))) from by kernel_rfl]
 have hd:=jS w 5 a1 a2 a3 a4 a5 a6 a7 a8 a9 a10 t.id t.kind sa ar an ac am ad t.text 5 a1 a2 a3 a4 a5 0 a7 a8 0 0 0 0 sa none an ac 0 0 ⟨#[]⟩ (zP ⟨5,a1,a2,a3,a4,a5,0,a7,a8,0,0⟩ ⟨5,a1,a2,a3,a4,a5,a6,a7,a8,a9,a10⟩ && (true && zL t ⟨0,0,⟨#[]⟩,.nil⟩)) (zl 1 1125899906842624 a5 && (zl 1 1125899906842624 a7 && (zl 1 1125899906842624 a8 && (zM (steps vs))))) ue3 ue3
  (fun Y _=>zhV Y a1 a2 a3 a4 a5 a6 a7 a8 a9 a10 t.id t.kind sa ar an ac am ad t.text)
  (fun Y hY=>qD Y 5 a1 a2 a3 a4 a5 0 a7 a8 0 0 0 0 sa none an ac 0 0 ⟨#[]⟩ 5 a1 a2 a3 a4 a5 a6 a7 a8 a9 a10 t.id t.kind sa ar an ac am ad t.text true (zL t ⟨0,0,⟨#[]⟩,.nil⟩) (fun V hV=>YU V sa an ac vs h.len (h.row.on (hY.trans (hV.mono hY.size)))) (fun V hV=>vF (h.on (hY.trans (hV.mono hY.size)))))
  (fun Y hY=>zhs Y a1 a2 a3 a4 a5 a6 a7 a8 a9 a10 t.id t.kind sa ar an ac am ad t.text (zM (steps vs)) (fun V hV=>QX V sa an ac vs h.len (h.row.on (hY.trans (hV.mono hY.size)))))
 exact hd.mono fun e W hh=>⟨hh.1.trans (by rw[←zix a1 a2 a3 a4 a5 a6 a7 a8 a9 a10 (zM (steps vs)) (zL t ⟨0,0,⟨#[]⟩,.nil⟩)]),hh.2⟩
theorem ziy (a1 a2 a3 a4 a5 a6 a7 a8 a9 a10:Int)(s u:Bool):(((zl 0 0 a1 && (zl 1 8 a2 && (zl 1 1125899906842624 a4 && (zl 1 1125899906842624 a5 && (zl 0 1125899906842624 a9 && (true)))))) && (zP ⟨6,0,0,a3,0,0,a6,a7,a8,0,a10⟩ ⟨6,0,0,0,0,0,0,0,0,0,0⟩ && (s && u))):Bool)=((zP ⟨6,a1,a2,0,a4,a5,0,0,0,a9,0⟩ ⟨6,a1,a2,a3,a4,a5,a6,a7,a8,a9,a10⟩ && (s && u)) && (decide (a1=0) && (decide (1≤a2) && (decide (a2≤8) && (zl 1 1125899906842624 a4 && (zl 1 1125899906842624 a5 && (zl 0 1125899906842624 a9))))))):=by
 exact sc2
def Qh (a1 a2 a3 a4 a5 a6 a7 a8 a9 a10:Int)(sa ar:Option Addr)(an ac am ad:Nat)(vs:List SV)(t:Tr):Bool:=(yo (zt 6::toQ 6:: [ze 6,(5,1,1125899906842624),(9,0,1125899906842624)]) #[.int .i8 6,.int .i64 a1,.int .i64 a2,.int .i64 a3,.int .i64 a4,.int .i64 a5,.int .i64 a6,.int .i64 a7,.int .i64 a8,.int .i64 a9,.int .i64 a10,.slice sa an ac,.int .i64 t.id,.int .i64 t.kind,.string t.text,.slice ar am ad]) && (zP ⟨6,0,0,a3,0,0,a6,a7,a8,0,a10⟩ ⟨6,0,0,0,0,0,0,0,0,0,0⟩ && ((an == 0) && zL t ⟨0,0,⟨#[]⟩,.nil⟩))
theorem Zu (a1 a2 a3 a4 a5 a6 a7 a8 a9 a10:Int)(sa ar:Option Addr)(an ac am ad:Nat)(vs:List SV)(t:Tr)(w:World)(h:zJ w sa ar an am ad vs t):Calls Tryz.prog 22 #[.agg #[.int .i8 6,.int .i64 a1,.int .i64 a2,.int .i64 a3,.int .i64 a4,.int .i64 a5,.int .i64 a6,.int .i64 a7,.int .i64 a8,.int .i64 a9,.int .i64 a10,.slice sa an ac,.int .i64 t.id,.int .i64 t.kind,.string t.text,.slice ar am ad]] w (zx (Qh a1 a2 a3 a4 a5 a6 a7 a8 a9 a10 sa ar an ac am ad vs t) w)∧Calls Tryz.prog 23 #[.agg #[.int .i8 6,.int .i64 a1,.int .i64 a2,.int .i64 a3,.int .i64 a4,.int .i64 a5,.int .i64 a6,.int .i64 a7,.int .i64 a8,.int .i64 a9,.int .i64 a10,.slice sa an ac,.int .i64 t.id,.int .i64 t.kind,.string t.text,.slice ar am ad]] w (zx (Qh a1 a2 a3 a4 a5 a6 a7 a8 a9 a10 sa ar an ac am ad vs t) w):=by
 unfold Qh
 refine⟨zgS w a1 a2 a3 a4 a5 a6 a7 a8 a9 a10 sa ar an ac am ad vs t h,?_⟩
 rw[show yo (zt 6::toQ 6:: [ze 6,(5,1,1125899906842624),(9,0,1125899906842624)]) #[.int .i8 6,.int .i64 a1,.int .i64 a2,.int .i64 a3,.int .i64 a4,.int .i64 a5,.int .i64 a6,.int .i64 a7,.int .i64 a8,.int .i64 a9,.int .i64 a10,.slice sa an ac,.int .i64 t.id,.int .i64 t.kind,.string t.text,.slice ar am ad]=(zl 0 0 a1 && (zl 1 8 a2 && (zl 1 1125899906842624 a4 && (zl 1 1125899906842624 a5 && (zl 0 1125899906842624 a9 && (true)))))) from by kernel_rfl]
 have hd:=qh w 6 a1 a2 a3 a4 a5 a6 a7 a8 a9 a10 t.id t.kind sa ar an ac am ad t.text 6 a1 a2 0 a4 a5 0 0 0 a9 0 0 0 none none 0 0 0 0 ⟨#[]⟩ (zP ⟨6,a1,a2,0,a4,a5,0,0,0,a9,0⟩ ⟨6,a1,a2,a3,a4,a5,a6,a7,a8,a9,a10⟩ && ((an == 0) && zL t ⟨0,0,⟨#[]⟩,.nil⟩)) (zl 1 1125899906842624 a5 && (zl 0 1125899906842624 a9)) ue3 ue3
  (fun Y _=>zhW Y a1 a2 a3 a4 a5 a6 a7 a8 a9 a10 t.id t.kind sa ar an ac am ad t.text)
  (fun Y hY=>qD Y 6 a1 a2 0 a4 a5 0 0 0 a9 0 0 0 none none 0 0 0 0 ⟨#[]⟩ 6 a1 a2 a3 a4 a5 a6 a7 a8 a9 a10 t.id t.kind sa ar an ac am ad t.text (an == 0) (zL t ⟨0,0,⟨#[]⟩,.nil⟩) (fun V hV=>qN V sa an ac vs h.len (h.row.on (hY.trans (hV.mono hY.size)))) (fun V hV=>vF (h.on (hY.trans (hV.mono hY.size)))))
  (fun Y hY=>zgv Y a1 a2 a3 a4 a5 a6 a7 a8 a9 a10 t.id t.kind sa ar an ac am ad t.text)
 exact hd.mono fun e W hh=>⟨hh.1.trans (by rw[←ziy a1 a2 a3 a4 a5 a6 a7 a8 a9 a10 (an == 0) (zL t ⟨0,0,⟨#[]⟩,.nil⟩)]),hh.2⟩
theorem ziz (a1 a2 a3 a4 a5 a6 a7 a8 a9 a10:Int)(s u:Bool):(((zl 0 0 a1 && (zl 1 8 a2 && (zl 1 1125899906842624 a4 && (zl 1 1125899906842624 a5 && (zl 1 999 a10 && (true)))))) && (zP ⟨7,0,0,a3,0,0,a6,a7,a8,a9,0⟩ ⟨7,0,0,0,0,0,0,0,0,0,0⟩ && (s && u))):Bool)=((zP ⟨7,a1,a2,0,a4,a5,0,0,0,0,a10⟩ ⟨7,a1,a2,a3,a4,a5,a6,a7,a8,a9,a10⟩ && (s && u)) && (decide (a1=0) && (decide (1≤a2) && (decide (a2≤8) && (zl 1 1125899906842624 a4 && (zl 1 1125899906842624 a5 && (decide (1≤a10) && (decide (a10≤999))))))))):=by
 exact sc2
def Qi (a1 a2 a3 a4 a5 a6 a7 a8 a9 a10:Int)(sa ar:Option Addr)(an ac am ad:Nat)(vs:List SV)(t:Tr):Bool:=(yo (zt 7::toQ 7:: [ze 7,(5,1,1125899906842624),(10,1,999)]) #[.int .i8 7,.int .i64 a1,.int .i64 a2,.int .i64 a3,.int .i64 a4,.int .i64 a5,.int .i64 a6,.int .i64 a7,.int .i64 a8,.int .i64 a9,.int .i64 a10,.slice sa an ac,.int .i64 t.id,.int .i64 t.kind,.string t.text,.slice ar am ad]) && (zP ⟨7,0,0,a3,0,0,a6,a7,a8,a9,0⟩ ⟨7,0,0,0,0,0,0,0,0,0,0⟩ && ((an == 0) && zL t ⟨0,0,⟨#[]⟩,.nil⟩))
theorem Zv (a1 a2 a3 a4 a5 a6 a7 a8 a9 a10:Int)(sa ar:Option Addr)(an ac am ad:Nat)(vs:List SV)(t:Tr)(w:World)(h:zJ w sa ar an am ad vs t):Calls Tryz.prog 22 #[.agg #[.int .i8 7,.int .i64 a1,.int .i64 a2,.int .i64 a3,.int .i64 a4,.int .i64 a5,.int .i64 a6,.int .i64 a7,.int .i64 a8,.int .i64 a9,.int .i64 a10,.slice sa an ac,.int .i64 t.id,.int .i64 t.kind,.string t.text,.slice ar am ad]] w (zx (Qi a1 a2 a3 a4 a5 a6 a7 a8 a9 a10 sa ar an ac am ad vs t) w)∧Calls Tryz.prog 23 #[.agg #[.int .i8 7,.int .i64 a1,.int .i64 a2,.int .i64 a3,.int .i64 a4,.int .i64 a5,.int .i64 a6,.int .i64 a7,.int .i64 a8,.int .i64 a9,.int .i64 a10,.slice sa an ac,.int .i64 t.id,.int .i64 t.kind,.string t.text,.slice ar am ad]] w (zx (Qi a1 a2 a3 a4 a5 a6 a7 a8 a9 a10 sa ar an ac am ad vs t) w):=by
 unfold Qi
 refine⟨zgT w a1 a2 a3 a4 a5 a6 a7 a8 a9 a10 sa ar an ac am ad vs t h,?_⟩
 rw[show yo (zt 7::toQ 7:: [ze 7,(5,1,1125899906842624),(10,1,999)]) #[.int .i8 7,.int .i64 a1,.int .i64 a2,.int .i64 a3,.int .i64 a4,.int .i64 a5,.int .i64 a6,.int .i64 a7,.int .i64 a8,.int .i64 a9,.int .i64 a10,.slice sa an ac,.int .i64 t.id,.int .i64 t.kind,.string t.text,.slice ar am ad]=(zl 0 0 a1 && (zl 1 8 a2 && (zl 1 1125899906842624 a4 && (zl 1 1125899906842624 a5 && (zl 1 999 a10 && (true)))))) from by kernel_rfl]
 have hd:=qh w 7 a1 a2 a3 a4 a5 a6 a7 a8 a9 a10 t.id t.kind sa ar an ac am ad t.text 7 a1 a2 0 a4 a5 0 0 0 0 a10 0 0 none none 0 0 0 0 ⟨#[]⟩ (zP ⟨7,a1,a2,0,a4,a5,0,0,0,0,a10⟩ ⟨7,a1,a2,a3,a4,a5,a6,a7,a8,a9,a10⟩ && ((an == 0) && zL t ⟨0,0,⟨#[]⟩,.nil⟩)) (zl 1 1125899906842624 a5 && (decide (1≤a10) && (decide (a10≤999)))) ue3 ue3
  (fun Y _=>zhX Y a1 a2 a3 a4 a5 a6 a7 a8 a9 a10 t.id t.kind sa ar an ac am ad t.text)
  (fun Y hY=>qD Y 7 a1 a2 0 a4 a5 0 0 0 0 a10 0 0 none none 0 0 0 0 ⟨#[]⟩ 7 a1 a2 a3 a4 a5 a6 a7 a8 a9 a10 t.id t.kind sa ar an ac am ad t.text (an == 0) (zL t ⟨0,0,⟨#[]⟩,.nil⟩) (fun V hV=>qN V sa an ac vs h.len (h.row.on (hY.trans (hV.mono hY.size)))) (fun V hV=>vF (h.on (hY.trans (hV.mono hY.size)))))
  (fun Y hY=>zgw Y a1 a2 a3 a4 a5 a6 a7 a8 a9 a10 t.id t.kind sa ar an ac am ad t.text)
 exact hd.mono fun e W hh=>⟨hh.1.trans (by rw[←ziz a1 a2 a3 a4 a5 a6 a7 a8 a9 a10 (an == 0) (zL t ⟨0,0,⟨#[]⟩,.nil⟩)]),hh.2⟩
theorem ziA (a1 a2 a3 a4 a5 a6 a7 a8 a9 a10:Int)(q u:Bool):((((zl 0 0 a1 && (zl 1 8 a2 && (zl 1 1125899906842624 a4 && (zl 0 1125899906842624 a9 && (true))))) && q) && (zP ⟨8,0,0,a3,0,a5,a6,a7,a8,0,a10⟩ ⟨8,0,0,0,0,0,0,0,0,0,0⟩ && (true && u))):Bool)=((zP ⟨8,a1,a2,0,a4,0,0,0,0,a9,0⟩ ⟨8,a1,a2,a3,a4,a5,a6,a7,a8,a9,a10⟩ && (true && u)) && (decide (a1=0) && (decide (1≤a2) && (decide (a2≤8) && (zl 1 1125899906842624 a4 && (zl 0 1125899906842624 a9 && (q))))))):=by
 exact sf9
def Yk (a1 a2 a3 a4 a5 a6 a7 a8 a9 a10:Int)(sa ar:Option Addr)(an ac am ad:Nat)(vs:List SV)(t:Tr):Bool:=(yo (zt 8::toQ 8:: [ze 8,(9,0,1125899906842624)]) #[.int .i8 8,.int .i64 a1,.int .i64 a2,.int .i64 a3,.int .i64 a4,.int .i64 a5,.int .i64 a6,.int .i64 a7,.int .i64 a8,.int .i64 a9,.int .i64 a10,.slice sa an ac,.int .i64 t.id,.int .i64 t.kind,.string t.text,.slice ar am ad] && zM (steps vs)) && (zP ⟨8,0,0,a3,0,a5,a6,a7,a8,0,a10⟩ ⟨8,0,0,0,0,0,0,0,0,0,0⟩ && (true && zL t ⟨0,0,⟨#[]⟩,.nil⟩))
theorem Zw (a1 a2 a3 a4 a5 a6 a7 a8 a9 a10:Int)(sa ar:Option Addr)(an ac am ad:Nat)(vs:List SV)(t:Tr)(w:World)(h:zJ w sa ar an am ad vs t):Calls Tryz.prog 22 #[.agg #[.int .i8 8,.int .i64 a1,.int .i64 a2,.int .i64 a3,.int .i64 a4,.int .i64 a5,.int .i64 a6,.int .i64 a7,.int .i64 a8,.int .i64 a9,.int .i64 a10,.slice sa an ac,.int .i64 t.id,.int .i64 t.kind,.string t.text,.slice ar am ad]] w (zx (Yk a1 a2 a3 a4 a5 a6 a7 a8 a9 a10 sa ar an ac am ad vs t) w)∧Calls Tryz.prog 23 #[.agg #[.int .i8 8,.int .i64 a1,.int .i64 a2,.int .i64 a3,.int .i64 a4,.int .i64 a5,.int .i64 a6,.int .i64 a7,.int .i64 a8,.int .i64 a9,.int .i64 a10,.slice sa an ac,.int .i64 t.id,.int .i64 t.kind,.string t.text,.slice ar am ad]] w (zx (Yk a1 a2 a3 a4 a5 a6 a7 a8 a9 a10 sa ar an ac am ad vs t) w):=by
 unfold Yk
 refine⟨zgU w a1 a2 a3 a4 a5 a6 a7 a8 a9 a10 sa ar an ac am ad vs t h,?_⟩
 rw[show yo (zt 8::toQ 8:: [ze 8,(9,0,1125899906842624)]) #[.int .i8 8,.int .i64 a1,.int .i64 a2,.int .i64 a3,.int .i64 a4,.int .i64 a5,.int .i64 a6,.int .i64 a7,.int .i64 a8,.int .i64 a9,.int .i64 a10,.slice sa an ac,.int .i64 t.id,.int .i64 t.kind,.string t.text,.slice ar am ad]=(zl 0 0 a1 && (zl 1 8 a2 && (zl 1 1125899906842624 a4 && (zl 0 1125899906842624 a9 && (true))))) from by kernel_rfl]
 have hd:=qh w 8 a1 a2 a3 a4 a5 a6 a7 a8 a9 a10 t.id t.kind sa ar an ac am ad t.text 8 a1 a2 0 a4 0 0 0 0 a9 0 0 0 sa none an ac 0 0 ⟨#[]⟩ (zP ⟨8,a1,a2,0,a4,0,0,0,0,a9,0⟩ ⟨8,a1,a2,a3,a4,a5,a6,a7,a8,a9,a10⟩ && (true && zL t ⟨0,0,⟨#[]⟩,.nil⟩)) (zl 0 1125899906842624 a9 && (zM (steps vs))) ue3 ue3
  (fun Y _=>zhY Y a1 a2 a3 a4 a5 a6 a7 a8 a9 a10 t.id t.kind sa ar an ac am ad t.text)
  (fun Y hY=>qD Y 8 a1 a2 0 a4 0 0 0 0 a9 0 0 0 sa none an ac 0 0 ⟨#[]⟩ 8 a1 a2 a3 a4 a5 a6 a7 a8 a9 a10 t.id t.kind sa ar an ac am ad t.text true (zL t ⟨0,0,⟨#[]⟩,.nil⟩) (fun V hV=>YU V sa an ac vs h.len (h.row.on (hY.trans (hV.mono hY.size)))) (fun V hV=>vF (h.on (hY.trans (hV.mono hY.size)))))
  (fun Y hY=>zgx Y a1 a2 a3 a4 a5 a6 a7 a8 a9 a10 t.id t.kind sa ar an ac am ad t.text (zM (steps vs)) (fun V hV=>QX V sa an ac vs h.len (h.row.on (hY.trans (hV.mono hY.size)))))
 exact hd.mono fun e W hh=>⟨hh.1.trans (by rw[←ziA a1 a2 a3 a4 a5 a6 a7 a8 a9 a10 (zM (steps vs)) (zL t ⟨0,0,⟨#[]⟩,.nil⟩)]),hh.2⟩
theorem ziB (a1 a2 a3 a4 a5 a6 a7 a8 a9 a10:Int)(s u:Bool):(((zl 1 8 a1 && (zl 0 0 a2 && (zl 1 1125899906842624 a3 && (zl 0 1125899906842624 a4 && (true))))) && (zP ⟨9,0,0,0,0,a5,a6,a7,a8,a9,a10⟩ ⟨9,0,0,0,0,0,0,0,0,0,0⟩ && (s && u))):Bool)=((zP ⟨9,a1,a2,a3,a4,0,0,0,0,0,0⟩ ⟨9,a1,a2,a3,a4,a5,a6,a7,a8,a9,a10⟩ && (s && u)) && (decide (1≤a1) && (decide (a1≤8) && (decide (a2=0) && (zl 1 1125899906842624 a3 && (zl 0 1125899906842624 a4 && (true))))))):=by
 exact sc2
def Qj (a1 a2 a3 a4 a5 a6 a7 a8 a9 a10:Int)(sa ar:Option Addr)(an ac am ad:Nat)(vs:List SV)(t:Tr):Bool:=(yo (zt 9::toQ 9:: [(3,1,1125899906842624),ze 9]) #[.int .i8 9,.int .i64 a1,.int .i64 a2,.int .i64 a3,.int .i64 a4,.int .i64 a5,.int .i64 a6,.int .i64 a7,.int .i64 a8,.int .i64 a9,.int .i64 a10,.slice sa an ac,.int .i64 t.id,.int .i64 t.kind,.string t.text,.slice ar am ad]) && (zP ⟨9,0,0,0,0,a5,a6,a7,a8,a9,a10⟩ ⟨9,0,0,0,0,0,0,0,0,0,0⟩ && ((an == 0) && zL t ⟨0,0,⟨#[]⟩,.nil⟩))
theorem Zx (a1 a2 a3 a4 a5 a6 a7 a8 a9 a10:Int)(sa ar:Option Addr)(an ac am ad:Nat)(vs:List SV)(t:Tr)(w:World)(h:zJ w sa ar an am ad vs t):Calls Tryz.prog 22 #[.agg #[.int .i8 9,.int .i64 a1,.int .i64 a2,.int .i64 a3,.int .i64 a4,.int .i64 a5,.int .i64 a6,.int .i64 a7,.int .i64 a8,.int .i64 a9,.int .i64 a10,.slice sa an ac,.int .i64 t.id,.int .i64 t.kind,.string t.text,.slice ar am ad]] w (zx (Qj a1 a2 a3 a4 a5 a6 a7 a8 a9 a10 sa ar an ac am ad vs t) w)∧Calls Tryz.prog 23 #[.agg #[.int .i8 9,.int .i64 a1,.int .i64 a2,.int .i64 a3,.int .i64 a4,.int .i64 a5,.int .i64 a6,.int .i64 a7,.int .i64 a8,.int .i64 a9,.int .i64 a10,.slice sa an ac,.int .i64 t.id,.int .i64 t.kind,.string t.text,.slice ar am ad]] w (zx (Qj a1 a2 a3 a4 a5 a6 a7 a8 a9 a10 sa ar an ac am ad vs t) w):=by
 unfold Qj
 refine⟨zgV w a1 a2 a3 a4 a5 a6 a7 a8 a9 a10 sa ar an ac am ad vs t h,?_⟩
 rw[show yo (zt 9::toQ 9:: [(3,1,1125899906842624),ze 9]) #[.int .i8 9,.int .i64 a1,.int .i64 a2,.int .i64 a3,.int .i64 a4,.int .i64 a5,.int .i64 a6,.int .i64 a7,.int .i64 a8,.int .i64 a9,.int .i64 a10,.slice sa an ac,.int .i64 t.id,.int .i64 t.kind,.string t.text,.slice ar am ad]=(zl 1 8 a1 && (zl 0 0 a2 && (zl 1 1125899906842624 a3 && (zl 0 1125899906842624 a4 && (true))))) from by kernel_rfl]
 have hd:=jS w 9 a1 a2 a3 a4 a5 a6 a7 a8 a9 a10 t.id t.kind sa ar an ac am ad t.text 9 a1 a2 a3 a4 0 0 0 0 0 0 0 0 none none 0 0 0 0 ⟨#[]⟩ (zP ⟨9,a1,a2,a3,a4,0,0,0,0,0,0⟩ ⟨9,a1,a2,a3,a4,a5,a6,a7,a8,a9,a10⟩ && ((an == 0) && zL t ⟨0,0,⟨#[]⟩,.nil⟩)) (true) ue3 ue3
  (fun Y _=>zhZ Y a1 a2 a3 a4 a5 a6 a7 a8 a9 a10 t.id t.kind sa ar an ac am ad t.text)
  (fun Y hY=>qD Y 9 a1 a2 a3 a4 0 0 0 0 0 0 0 0 none none 0 0 0 0 ⟨#[]⟩ 9 a1 a2 a3 a4 a5 a6 a7 a8 a9 a10 t.id t.kind sa ar an ac am ad t.text (an == 0) (zL t ⟨0,0,⟨#[]⟩,.nil⟩) (fun V hV=>qN V sa an ac vs h.len (h.row.on (hY.trans (hV.mono hY.size)))) (fun V hV=>vF (h.on (hY.trans (hV.mono hY.size)))))
  (fun Y hY=>zht Y a1 a2 a3 a4 a5 a6 a7 a8 a9 a10 t.id t.kind sa ar an ac am ad t.text)
 exact hd.mono fun e W hh=>⟨hh.1.trans (by rw[←ziB a1 a2 a3 a4 a5 a6 a7 a8 a9 a10 (an == 0) (zL t ⟨0,0,⟨#[]⟩,.nil⟩)]),hh.2⟩
theorem zhK (a1 a2 a3 a4 a5 a6 a7 a8 a9 a10:Int)(q s:Bool):((((zl 0 0 a1 && (zl 1 8 a2 && (zl 1 1125899906842624 a4 && (zl 0 1125899906842624 a9 && (true))))) && q) && (zP ⟨10,0,0,a3,0,a5,a6,a7,a8,0,a10⟩ ⟨10,0,0,0,0,0,0,0,0,0,0⟩ && (s && true))):Bool)=((zP ⟨10,a1,a2,0,a4,0,0,0,0,a9,0⟩ ⟨10,a1,a2,a3,a4,a5,a6,a7,a8,a9,a10⟩ && (s && true)) && (decide (a1=0) && (decide (1≤a2) && (decide (a2≤8) && (zl 1 1125899906842624 a4 && (zl 0 1125899906842624 a9 && (q))))))):=by
 exact sf8
def Zc (a1 a2 a3 a4 a5 a6 a7 a8 a9 a10:Int)(sa ar:Option Addr)(an ac am ad:Nat)(vs:List SV)(t:Tr):Bool:=(yo (zt 10::toQ 10:: [ze 10,(9,0,1125899906842624)]) #[.int .i8 10,.int .i64 a1,.int .i64 a2,.int .i64 a3,.int .i64 a4,.int .i64 a5,.int .i64 a6,.int .i64 a7,.int .i64 a8,.int .i64 a9,.int .i64 a10,.slice sa an ac,.int .i64 t.id,.int .i64 t.kind,.string t.text,.slice ar am ad] && zU t) && (zP ⟨10,0,0,a3,0,a5,a6,a7,a8,0,a10⟩ ⟨10,0,0,0,0,0,0,0,0,0,0⟩ && ((an == 0) && true))
theorem kE (a1 a2 a3 a4 a5 a6 a7 a8 a9 a10:Int)(sa ar:Option Addr)(an ac am ad:Nat)(vs:List SV)(t:Tr)(w:World)(h:zJ w sa ar an am ad vs t):Calls Tryz.prog 22 #[.agg #[.int .i8 10,.int .i64 a1,.int .i64 a2,.int .i64 a3,.int .i64 a4,.int .i64 a5,.int .i64 a6,.int .i64 a7,.int .i64 a8,.int .i64 a9,.int .i64 a10,.slice sa an ac,.int .i64 t.id,.int .i64 t.kind,.string t.text,.slice ar am ad]] w (zx (Zc a1 a2 a3 a4 a5 a6 a7 a8 a9 a10 sa ar an ac am ad vs t) w)∧Calls Tryz.prog 23 #[.agg #[.int .i8 10,.int .i64 a1,.int .i64 a2,.int .i64 a3,.int .i64 a4,.int .i64 a5,.int .i64 a6,.int .i64 a7,.int .i64 a8,.int .i64 a9,.int .i64 a10,.slice sa an ac,.int .i64 t.id,.int .i64 t.kind,.string t.text,.slice ar am ad]] w (zx (Zc a1 a2 a3 a4 a5 a6 a7 a8 a9 a10 sa ar an ac am ad vs t) w):=by
 unfold Zc
 refine⟨zfG w a1 a2 a3 a4 a5 a6 a7 a8 a9 a10 sa ar an ac am ad vs t h,?_⟩
 rw[show yo (zt 10::toQ 10:: [ze 10,(9,0,1125899906842624)]) #[.int .i8 10,.int .i64 a1,.int .i64 a2,.int .i64 a3,.int .i64 a4,.int .i64 a5,.int .i64 a6,.int .i64 a7,.int .i64 a8,.int .i64 a9,.int .i64 a10,.slice sa an ac,.int .i64 t.id,.int .i64 t.kind,.string t.text,.slice ar am ad]=(zl 0 0 a1 && (zl 1 8 a2 && (zl 1 1125899906842624 a4 && (zl 0 1125899906842624 a9 && (true))))) from by kernel_rfl]
 have hd:=qh w 10 a1 a2 a3 a4 a5 a6 a7 a8 a9 a10 t.id t.kind sa ar an ac am ad t.text 10 a1 a2 0 a4 0 0 0 0 a9 0 t.id t.kind none ar 0 0 am ad t.text (zP ⟨10,a1,a2,0,a4,0,0,0,0,a9,0⟩ ⟨10,a1,a2,a3,a4,a5,a6,a7,a8,a9,a10⟩ && ((an == 0) && true)) (zl 0 1125899906842624 a9 && (zU t)) ue3 ue3
  (fun Y _=>zhv Y a1 a2 a3 a4 a5 a6 a7 a8 a9 a10 t.id t.kind sa ar an ac am ad t.text)
  (fun Y hY=>qD Y 10 a1 a2 0 a4 0 0 0 0 a9 0 t.id t.kind none ar 0 0 am ad t.text 10 a1 a2 a3 a4 a5 a6 a7 a8 a9 a10 t.id t.kind sa ar an ac am ad t.text (an == 0) (true) (fun V hV=>qN V sa an ac vs h.len (h.row.on (hY.trans (hV.mono hY.size)))) (fun V hV=>QW (h.on (hY.trans (hV.mono hY.size)))))
  (fun Y hY=>zfo Y a1 a2 a3 a4 a5 a6 a7 a8 a9 a10 t.id t.kind sa ar an ac am ad t.text (zU t) (fun V hV=>ZV V (fun q=>q<w.heap.size) t ar am ad h.kids (fun y hy=>nL hy (hY.trans (hV.mono hY.size)).size) (h.lies.below (hY.trans (hV.mono hY.size)) (fun _ hy=>hy))))
 exact hd.mono fun e W hh=>⟨hh.1.trans (by rw[←zhK a1 a2 a3 a4 a5 a6 a7 a8 a9 a10 (zU t) (an == 0)]),hh.2⟩
end Go.Proofs.YtoidedomenkbpaaGreat
