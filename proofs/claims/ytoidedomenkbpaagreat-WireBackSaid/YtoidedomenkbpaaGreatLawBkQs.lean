/-
  .
-/
import Derived.Test.YtoidedomenkbpaaGreatMsgYQs
set_option maxRecDepth 100000
set_option maxHeartbeats 40000000
set_option linter.unusedVariables false
set_option linter.unusedSimpArgs false
namespace Go.Proofs.YtoidedomenkbpaaGreat
open Go.RowKit Go.Shelf
structure zd4 (s:Sf):Prop where
 op:(Lit.int .i8 s.op).wf=true
 len:foLen s.sub.kids≤9223372036854775807
 fit:Z8 s.sub.kids
 ok:okF (spF 1 (qJ s.sub))
 tx:(s.tx.size:Int)≤9223372036854775807
structure zgJ (w:World) (a:Option Addr) (vs:List SV):Prop where
 cells:zfB w (fun q=>q<w.heap.size) a vs
 lies:∀x∈vs,ZB w x
 inn:∀x∈vs,zd4 x.s
theorem zgJ.on {w X:World}{a:Option Addr}{vs:List SV}(h:zgJ w a vs)(hb:Below w.heap.size w X):zgJ X a vs:=
 ⟨h.cells.kept fun y hy=>⟨nL hy hb.size,hb.block y hy⟩,fun x hx=>ZA.on (h.lies x hx) hb,h.inn⟩
structure zbS (w:World) (sa ar:Option Addr) (an am ad:Nat) (vs:List SV) (t:Tr):Prop where
 row:zgJ w sa vs
 len:an=vs.length
 kids:am=foLen t.kids
 cap:foLen t.kids≤ad
 lies:zQ w (fun q=>q<w.heap.size) t.kids ar
 big:foLen t.kids≤9223372036854775807∧Z8 t.kids
 most:an≤9223372036854775807
theorem zbS.on {w X:World}{sa ar:Option Addr}{an am ad:Nat}{vs:List SV}{t:Tr}(h:zbS w sa ar an am ad vs t)(hb:Below w.heap.size w X):zbS X sa ar an am ad vs t:=
 ⟨h.row.on hb,h.len,h.kids,h.cap,h.lies.kept fun q hq=>⟨nL hq hb.size,hb.block q hq⟩,h.big,h.most⟩
def zgN (vs:List SV)(t:Tr):Prop:=vs.length≤100∧zh t.kids+1≤2000∧∀x∈vs,zh x.s.sub.kids+1≤2000
theorem zbS.at {w:World}{sa ar:Option Addr}{an am ad:Nat}{vs:List SV}{t:Tr}(h:zbS w sa ar an am ad vs t)(hs:zgN vs t):zM w sa ar an am ad vs t:=
 ⟨⟨h.row.cells,h.row.lies,fun x hx=>⟨(h.row.inn x hx).op,hs.2.2 x hx,(h.row.inn x hx).ok,(h.row.inn x hx).tx⟩,by have:=hs.1;omega⟩,h.len,h.kids,h.cap,h.lies,hs.2.1⟩
def zgD (w:World)(vs:List SV)(t:Tr)(e:Ending)(w' :World):Prop:=∃b,e= .returned (.bool b)∧(b=false→zgN vs t)∧Below w.heap.size w w'
theorem zem (w :World)(a0 a1 a2 a3 a4 a5 a6 a7 a8 a9 a10:Int)(sa ar:Option Addr)(an ac am ad:Nat)(vs:List SV)(t:Tr)(h:zbS w sa ar an am ad vs t):
 Calls Tryz.prog 20 #[.agg #[.int .i8 a0,.int .i64 a1,.int .i64 a2,.int .i64 a3,.int .i64 a4,.int .i64 a5,.int .i64 a6,.int .i64 a7,.int .i64 a8,.int .i64 a9,.int .i64 a10,.slice sa an ac,.int .i64 t.id,.int .i64 t.kind,.string t.text,.slice ar am ad]] w (zgD w vs t):=by
 obtain⟨B,hB⟩:∃B,B=w.alloc (.cells #[.int .i8 a0,.int .i64 a1,.int .i64 a2,.int .i64 a3,.int .i64 a4,.int .i64 a5,.int .i64 a6,.int .i64 a7,.int .i64 a8,.int .i64 a9,.int .i64 a10,.slice sa an ac,.int .i64 t.id,.int .i64 t.kind,.string t.text,.slice ar am ad] 37):=⟨_,rfl⟩
 have hb:Below w.heap.size w B:=by rw[hB];exact (BrQ _ _).alloc (NlrQ _) _
 have e0:B.heap[w.heap.size]? =some (.cells #[.int .i8 a0,.int .i64 a1,.int .i64 a2,.int .i64 a3,.int .i64 a4,.int .i64 a5,.int .i64 a6,.int .i64 a7,.int .i64 a8,.int .i64 a9,.int .i64 a10,.slice sa an ac,.int .i64 t.id,.int .i64 t.kind,.string t.text,.slice ar am ad] 37 (0,0)):=by rw[hB];exact hanQ _ _
 have HCE:=hH (fun (Y:World) (hY:Below B.heap.size B Y)=>(show Y.cell? ⟨w.heap.size,11,none⟩=some (.slice sa an ac)∧Y.cell? ⟨w.heap.size,12,none⟩=some (.int .i64 t.id)∧Y.cell? ⟨w.heap.size,13,none⟩=some (.int .i64 t.kind)∧Y.cell? ⟨w.heap.size,14,none⟩=some (.string t.text)∧Y.cell? ⟨w.heap.size,15,none⟩=some (.slice ar am ad) by
  have e:=(hY.block _ (lohQ e0)).trans e0
  exact⟨by rw[corQ _ _ 11 _ _ _ e];rfl,by rw[corQ _ _ 12 _ _ _ e];rfl,by rw[corQ _ _ 13 _ _ _ e];rfl,by rw[corQ _ _ 14 _ _ _ e];rfl,by rw[corQ _ _ 15 _ _ _ e];rfl⟩))
 have HG:=hH (zaj B (fun q=>q<w.heap.size) (.agg #[.int .i64 t.id,.int .i64 t.kind,.string t.text,.slice ar am ad]) t h.big.1 h.big.2 (fun y hy=>nL hy hb.size) ⟨ar,ad,by rw[h.kids],h.cap,h.lies.below hb (fun _ hy=>hy)⟩)
 have HR:=hH h.row
 have HN:=hH h.len
 have HB:=hH (aN hb hB)
 have hmost:=h.most
 clear h hb hB e0
 obtain⟨c11,c12,c13,c14,c15⟩:=HCE.out B (BrQ _ _)
 go_enter Tryz.func20,Tryz.ntmps20
 go_upto_region 1 with fail
 change Code.wp _ _ _ _ (w.alloc (.cells #[.int .i8 a0,.int .i64 a1,.int .i64 a2,.int .i64 a3,.int .i64 a4,.int .i64 a5,.int .i64 a6,.int .i64 a7,.int .i64 a8,.int .i64 a9,.int .i64 a10,.slice sa an ac,.int .i64 t.id,.int .i64 t.kind,.string t.text,.slice ar am ad] 37))
 rw[←HB.out.2]
 by_cases h100:100<an
 · have h100i:(100:Int)<(an:Int):=by omega
   go_wp2_with fail
   go_ret
   exact⟨true,rfl,(fun h=>by cases h),HB.out.1⟩
 · have h100i :¬(100:Int)<(an:Int):=by omega
   go_wp2_with fail
   refine HG.out.mono ?_
   rintro e w1 ⟨bg,rfl,hbg,hb1⟩
   have HB1:=hH (aN (HB.out.1.trans (hb1.mono HB.out.1.size)) hb1)
   have HBG:=hH hbg
   have han:an≤100:=by omega
   clear hb1 hbg HG c11 c12 c13 c14 c15 h100 h100i hmost
   cases bg
   · have HSZ :=hH (HBG.out rfl)
     go_wp2_with fail
     go_loopw [3] (fun i wr=>∃k:Nat,k≤an∧i= .int .i64 (k:Int)∧Hid (Below B.heap.size B wr∧∀j x,j<k→vs[j]? =some x→zh x.s.sub.kids+1≤2000)) (fun i _=>an - (intOf i).toNat)
     case atStart=>exact⟨0,NzlQ _,rfl,hH ⟨HB1.out.2,fun j x hj=>by omega⟩⟩
     case round=>
      obtain⟨k,hk,rfl,hh⟩:=hrel
      obtain⟨wo,hwo⟩:∃wo,wo=wr:=⟨_,rfl⟩
      subst hwo
      obtain⟨c11,c12,c13,c14,c15⟩:=HCE.out wo hh.out.1
      by_cases hlt:k<an
      · have hkl:(k:Int)<(an:Int):=by omega
        obtain⟨x,hx⟩:∃x,vs[k]? =some x:=⟨_,List.getElem?_eq_getElem (by rw[←HN.out];exact hlt)⟩
        have hxm:=List.mem_of_getElem? hx
        obtain⟨b,off,rfl,hbl,hcs⟩:=HR.out.cells k x hx
        have hwB:=HB.out.1.trans (hh.out.1.mono HB.out.1.size)
        obtain⟨sn,hsn⟩:∃sn,sn=foLen x.s.sub.kids:=⟨_,rfl⟩
        have hce:wo.cell? ⟨b,off+k*9+5,none⟩=some (.int .i64 x.s.sub.id)∧wo.cell? ⟨b,off+k*9+6,none⟩=some (.int .i64 x.s.sub.kind)∧wo.cell? ⟨b,off+k*9+7,none⟩=some (.string x.s.sub.text)∧wo.cell? ⟨b,off+k*9+8,none⟩=some (.slice x.a sn x.c):=by
         have h:=fun j u hj=>(World.cell?_of_block (a:=⟨b,off+k*9+j,none⟩) (hwB.block b hbl)).trans (hcs j u hj)
         rw[hsn]
         exact⟨h 5 _ rfl,h 6 _ rfl,h 7 _ rfl,h 8 _ rfl⟩
        have hin:=HR.out.inn x hxm
        have HGR:=hH (zaj wo (fun q=>q<w.heap.size) (.agg #[.int .i64 x.s.sub.id,.int .i64 x.s.sub.kind,.string x.s.sub.text,.slice x.a sn x.c]) x.s.sub hin.len hin.fit (fun y hy=>nL hy hwB.size) (by rw[hsn];exact ZB.at (HR.out.lies x hxm) hwB))
        obtain⟨s5,s6,s7,s8⟩:=hce
        have HX:=hH (aN hx (aN hh.out.2 (aN hlt (aN hh.out.1 hwB))))
        clear hx hxm hcs hin hwB hsn hbl hh hk
        go_wp2_with fail
        refine HGR.out.mono ?_
        rintro e w6 ⟨bq,rfl,hbq,hb6⟩
        have HB6:=hH (aN (HX.out.2.2.2.1.trans (hb6.mono HX.out.2.2.2.1.size)) (HX.out.2.2.2.2.trans (hb6.mono HX.out.2.2.2.2.size)))
        have HBQ:=hH hbq
        clear hb6 hbq HGR c11 c12 c13 c14 c15 s5 s6 s7 s8
        cases bq
        · have HS2:=hH (HBQ.out rfl)
          go_wp2_with fail
          exact⟨⟨k+1,HX.out.2.2.1,by go_num,hH ⟨HB6.out.1,fun j y hj hy=>by
           rcases Nat.lt_or_ge j k with h | h
           · exact HX.out.2.1 j y h hy
           · have:j=k:=by omega
             subst this
             rw[HX.out.1] at hy;cases hy;exact HS2.out⟩⟩,by have:=HX.out.2.2.1;simp[intOf];omega⟩
        · go_wp2_with fail
          go_ret
          exact⟨true,rfl,(fun h=>by cases h),HB6.out.2⟩
      · have hkl:¬(k:Int)<(an:Int):=by omega
        have HE:=hH (show zgD w vs t (.returned (.bool false)) wo from⟨false,rfl,fun _=>⟨by rw[←HN.out];exact han,HSZ.out,fun x hx=>by
         obtain⟨j,hj,e⟩:=List.getElem_of_mem hx
         exact hh.out.2 j x (by rw[←HN.out] at hj;omega) (by rw[List.getElem?_eq_getElem hj,e])⟩,HB.out.1.trans (hh.out.1.mono HB.out.1.size)⟩)
        clear hlt hh hk
        go_wp2_with fail
        go_ret
        exact HE.out
   · go_wp2_with fail
     go_ret
     exact⟨true,rfl,(fun h=>by cases h),HB1.out.1⟩
end Go.Proofs.YtoidedomenkbpaaGreat
namespace Go.Proofs.YtoidedomenkbpaaGreat
open Go.RowKit Go.Shelf
open Extern.Stop (cell)
theorem zhL (w:World)(a0 a1 a2 a3 a4 a5 a6 a7 a8 a9 a10:Int)(sa ar:Option Addr)(an ac am ad:Nat)(vs:List SV)(t:Tr)(h:zM w sa ar an am ad vs t)(ha:IntKind.i64.wrap a0=a0)(b0 b1 b2 b3 b4 b5 b6 b7 b8 b9 b10:Int)(sb_ br:Option Addr)(bn bc bm bd:Nat)(us:List SV)(u:Tr)(h2:zM w sb_ br bn bm bd us u)(hb:IntKind.i64.wrap b0=b0)
 (hn:(⟨a0,a1,a2,a3,a4,a5,a6,a7,a8,a9,a10⟩:zjA)=⟨b0,b1,b2,b3,b4,b5,b6,b7,b8,b9,b10⟩) (hs:eqR (steps vs) (steps us)=true) (ht:yh t u=true):
 Calls Tryz.prog 24 #[.agg #[.int .i8 a0,.int .i64 a1,.int .i64 a2,.int .i64 a3,.int .i64 a4,.int .i64 a5,.int .i64 a6,.int .i64 a7,.int .i64 a8,.int .i64 a9,.int .i64 a10,.slice sa an ac,.int .i64 t.id,.int .i64 t.kind,.string t.text,.slice ar am ad],.agg #[.int .i8 b0,.int .i64 b1,.int .i64 b2,.int .i64 b3,.int .i64 b4,.int .i64 b5,.int .i64 b6,.int .i64 b7,.int .i64 b8,.int .i64 b9,.int .i64 b10,.slice sb_ bn bc,.int .i64 u.id,.int .i64 u.kind,.string u.text,.slice br bm bd]] w (zX true w):=by
 have hh:=vv w a0 a1 a2 a3 a4 a5 a6 a7 a8 a9 a10 t.id t.kind sa ar an ac am ad t.text b0 b1 b2 b3 b4 b5 b6 b7 b8 b9 b10 u.id u.kind sb_ br bn bc bm bd u.text (eqR (steps vs) (steps us)) (yh t u) ha hb (fun Y hY=>zaY Y sa sb_ an bn ac bc vs us h.len h2.len (h.row.on hY) (h2.row.on hY)) (fun Y hY=>kV Y (fun q=>q<w.heap.size) (fun q=>q<w.heap.size) t u ar br am bm ad bd h.kids h2.kids (fun y hy=>nL hy hY.size) (fun y hy=>nL hy hY.size) h.cap h2.cap (h.lies.below hY (fun _ hy=>hy)) (h2.lies.below hY (fun _ hy=>hy)) (by have:=h.size;omega) (by have:=h2.size;omega))
 refine hh.mono fun e Z hq=>⟨hq.1.trans ?_,hq.2⟩
 rw[hn,hs,ht]
 simp[yz]
theorem zdN {Z:World}{B:Nat}{v:Value}{bs:List UInt8}(h:Z.ownsRow B 5 1 v bs.length (bs.map cell)):(convert 45 9 v).run Tryz.prog Z= .ok (.string ⟨bs.toArray⟩) Z:=by
 by_cases h0:0<bs.length
 · obtain⟨g,cap,rfl,_,_,_,hat⟩:=zcl h h0
   exact hat.text cap
 · rcases h.2 with ⟨hv,_⟩ | ⟨g,cap,cur,hv,_⟩
   · have e:bs= []:=List.eq_nil_of_length_eq_zero om1
     subst e;subst hv
     exact (zL.nil Z none).text 0
   · have e:bs= []:=List.eq_nil_of_length_eq_zero om1
     subst e;subst hv
     exact (zL.nil Z _).text cap
theorem J8 (w:World)(s:ByteArray):(binOp .eql 9 (.string s) (.string s)).run Tryz.prog w= .ok (.bool true) w:=by
 go_simp
theorem zcv (w:World)(a0 a1 a2 a3 a4 a5 a6 a7 a8 a9 a10:Int)(sa ar:Option Addr)(an ac am ad:Nat)(vs:List SV)(t:Tr)(h:zbS w sa ar an am ad vs t)(ha:IntKind.i64.wrap a0=a0)(ba:Option Addr)(bc:Nat)(bs:List UInt8)(hby:zL w ba bs)(hbc:bs.length≤bc)(hbm:(bc:Int)≤9223372036854775807):
 Calls Tryz.prog 8 #[.agg #[.int .i8 a0,.int .i64 a1,.int .i64 a2,.int .i64 a3,.int .i64 a4,.int .i64 a5,.int .i64 a6,.int .i64 a7,.int .i64 a8,.int .i64 a9,.int .i64 a10,.slice sa an ac,.int .i64 t.id,.int .i64 t.kind,.string t.text,.slice ar am ad],.slice ba bs.length bc] w (zX true w):=by
 obtain⟨B,hB⟩:∃B,B=w.alloc (.cells #[.int .i8 a0,.int .i64 a1,.int .i64 a2,.int .i64 a3,.int .i64 a4,.int .i64 a5,.int .i64 a6,.int .i64 a7,.int .i64 a8,.int .i64 a9,.int .i64 a10,.slice sa an ac,.int .i64 t.id,.int .i64 t.kind,.string t.text,.slice ar am ad] 37):=⟨_,rfl⟩
 have hb:Below w.heap.size w B:=by rw[hB];exact (BrQ _ _).alloc (NlrQ _) _
 have e0:B.heap[w.heap.size]? =some (.cells #[.int .i8 a0,.int .i64 a1,.int .i64 a2,.int .i64 a3,.int .i64 a4,.int .i64 a5,.int .i64 a6,.int .i64 a7,.int .i64 a8,.int .i64 a9,.int .i64 a10,.slice sa an ac,.int .i64 t.id,.int .i64 t.kind,.string t.text,.slice ar am ad] 37 (0,0)):=by rw[hB];exact hanQ _ _
 have HA:=hH (fun (Y:World) (h:Below B.heap.size B Y)=>(show Y.cell? ⟨w.heap.size,0,none⟩=some (.int .i8 a0)∧Y.cell? ⟨w.heap.size,1,none⟩=some (.int .i64 a1)∧Y.cell? ⟨w.heap.size,2,none⟩=some (.int .i64 a2)∧Y.cell? ⟨w.heap.size,3,none⟩=some (.int .i64 a3)∧Y.cell? ⟨w.heap.size,4,none⟩=some (.int .i64 a4)∧Y.cell? ⟨w.heap.size,5,none⟩=some (.int .i64 a5)∧Y.cell? ⟨w.heap.size,6,none⟩=some (.int .i64 a6)∧Y.cell? ⟨w.heap.size,7,none⟩=some (.int .i64 a7)∧Y.cell? ⟨w.heap.size,8,none⟩=some (.int .i64 a8)∧Y.cell? ⟨w.heap.size,9,none⟩=some (.int .i64 a9)∧Y.cell? ⟨w.heap.size,10,none⟩=some (.int .i64 a10)∧Y.cell? ⟨w.heap.size,11,none⟩=some (.slice sa an ac)∧Y.cell? ⟨w.heap.size,12,none⟩=some (.int .i64 t.id)∧Y.cell? ⟨w.heap.size,13,none⟩=some (.int .i64 t.kind)∧Y.cell? ⟨w.heap.size,14,none⟩=some (.string t.text)∧Y.cell? ⟨w.heap.size,15,none⟩=some (.slice ar am ad) by
  have e:=(h.block _ (lohQ e0)).trans e0
  exact⟨by rw[corQ _ _ 0 _ _ _ e];rfl,by rw[corQ _ _ 1 _ _ _ e];rfl,by rw[corQ _ _ 2 _ _ _ e];rfl,by rw[corQ _ _ 3 _ _ _ e];rfl,by rw[corQ _ _ 4 _ _ _ e];rfl,by rw[corQ _ _ 5 _ _ _ e];rfl,by rw[corQ _ _ 6 _ _ _ e];rfl,by rw[corQ _ _ 7 _ _ _ e];rfl,by rw[corQ _ _ 8 _ _ _ e];rfl,by rw[corQ _ _ 9 _ _ _ e];rfl,by rw[corQ _ _ 10 _ _ _ e];rfl,by rw[corQ _ _ 11 _ _ _ e];rfl,by rw[corQ _ _ 12 _ _ _ e];rfl,by rw[corQ _ _ 13 _ _ _ e];rfl,by rw[corQ _ _ 14 _ _ _ e];rfl,by rw[corQ _ _ 15 _ _ _ e];rfl⟩))
 have HB:=hH (aN hb hB)
 have HM:=hH (fun (Y:World) (hY:Below B.heap.size B Y)=>h.on (hb.trans (hY.mono hb.size)))
 have HG:=hH (zem B a0 a1 a2 a3 a4 a5 a6 a7 a8 a9 a10 sa ar an ac am ad vs t (h.on hb))
 have HW:=hH ha
 obtain⟨o,ho⟩:=zhg a0 a1 a2 a3 a4 a5 a6 a7 a8 a9 a10 sa ar an ac am ad vs t h.len
 have HO:=hH ho
 obtain⟨bn,hbn⟩:∃bn,bn=bs.length:=⟨_,rfl⟩
 have HRB:=hH (fun (Y:World) (hY:Below B.heap.size B Y)=>(show Calls Tryz.prog 33 #[.slice ba bn bc] Y (kY bs Y) by rw[hbn];exact zdu Y ba bc bs (hby.below (hb.trans (hY.mono hb.size))) hbc hbm))
 have HTX:=hH (fun (Y:World) (hY:Below B.heap.size B Y)=>(show (convert 45 9 (.slice ba bn bc)).run Tryz.prog Y= .ok (.string ⟨bs.toArray⟩) Y by rw[hbn];exact (hby.below (hb.trans (hY.mono hb.size))).text bc))
 have HBN:=hH hbn
 rw[←hbn]
 clear ho h hb hB e0 ha hby hbc hbm hbn
 go_enter Tryz.func8,Tryz.ntmps8
 go_upto_region 1 with fail
 change Code.wp _ _ _ _ (w.alloc (.cells #[.int .i8 a0,.int .i64 a1,.int .i64 a2,.int .i64 a3,.int .i64 a4,.int .i64 a5,.int .i64 a6,.int .i64 a7,.int .i64 a8,.int .i64 a9,.int .i64 a10,.slice sa an ac,.int .i64 t.id,.int .i64 t.kind,.string t.text,.slice ar am ad] 37))
 rw[←HB.out.2]
 obtain⟨p0,p1,p2,p3,p4,p5,p6,p7,p8,p9,p10,p11,p12,p13,p14,p15⟩:=HA.out B (BrQ _ _)
 go_wp2_with fail
 refine HG.out.mono ?_
 rintro e w1 ⟨g1,rfl,hg1,hz1⟩
 have H1:=hH hz1
 clear hz1 HG p0 p1 p2 p3 p4 p5 p6 p7 p8 p9 p10 p11 p12 p13 p14 p15
 cases g1
 rotate_left
 · clear hg1
   as_aux_lemma=>
    go_wp2_with fail
    refine (Zj _).mono ?_
    rintro e w2 ⟨rfl,hb2⟩
    have H2:=hH (H1.out.trans (hb2.mono H1.out.size))
    clear hb2
    go_wp2_with fail
    go_ret
    exact⟨rfl,HB.out.1.trans (H2.out.mono HB.out.1.size)⟩
 have HZ:=hH (hg1 rfl)
 clear hg1
 obtain⟨p0,p1,p2,p3,p4,p5,p6,p7,p8,p9,p10,p11,p12,p13,p14,p15⟩:=HA.out w1 H1.out
 go_wp2_with fail
 refine (HO.out.bytes w1 ((HM.out w1 H1.out).at HZ.out)).mono ?_
 intro e w2 hby2
 cases o with
 | none =>
   obtain⟨rfl,hb2⟩:=hby2
   have H3:=hH (H1.out.trans (hb2.mono H1.out.size))
   clear hb2 p0 p1 p2 p3 p4 p5 p6 p7 p8 p9 p10 p11 p12 p13 p14 p15
   as_aux_lemma=>
    go_wp2_with fail
    refine (HRB.out w2 H3.out).mono ?_
    intro e Y1 hany
    rcases hany with ⟨at_,er,hwhy,hnone⟩ | ⟨k,q,hk,hend,hbY,hP,rfl,hrt⟩
    · obtain⟨rfl,hbY⟩:=hnone
      exact sb4
    · have H4:=hH (H3.out.trans (hbY.mono H3.out.size))
      have HK:=hH (fun (V:World) (hV:Below Y1.heap.size Y1 V)=>zbb bs k q Y1 hk hend hP hrt V hV)
      clear hbY hP hrt hend hk
      as_aux_lemma=>
       go_wp2_with fail
       refine (HK.out _ ((BrQ _ _).alloc (NlrQ _) _)).mono ?_
       rintro e Y2 ⟨v,Bx,rfl,hx1,hx2,hx3⟩
       obtain⟨cv,hcv⟩:∃x,x=(convert 45 9 v).run Tryz.prog Y2:=⟨_,rfl⟩
       have ht1:(convert 45 9 v).run Tryz.prog Y2= .ok (.string ⟨bs.toArray⟩) Y2:=zdN hx2
       have H5:=hH ((H4.out.alloc (H4.out.size) (.cells #[.int .i8 (k:Int),.int .i64 q.n1,.int .i64 q.n2,.int .i64 q.n3,.int .i64 q.n4,.int .i64 q.n5,.int .i64 q.n6,.int .i64 q.n7,.int .i64 q.n8,.int .i64 q.n9,.int .i64 q.n10,.slice q.sa q.sn q.sc,.int .i64 q.id,.int .i64 q.kd,.string q.tx,.slice q.ar q.am q.ad] 37)).trans (hx3.mono (by have:=H4.out.size;rw[WsaQ];omega)))
       have ht2:=HTX.out Y2 H5.out
       have hse:=J8 Y2 ⟨bs.toArray⟩
       obtain⟨p0,p1,p2,p3,p4,p5,p6,p7,p8,p9,p10,p11,p12,p13,p14,p15⟩:=HA.out Y2 H5.out
       clear hx1 hx2 hx3 hcv HK
       go_wp2_with fail
       refine (HO.out.right Y2 ((HM.out Y2 H5.out).at HZ.out)).mono ?_
       rintro e Y3 ⟨rfl,hb6⟩
       have H6:=hH (H5.out.trans (hb6.mono H5.out.size))
       clear hb6 ht1 ht2 hse p0 p1 p2 p3 p4 p5 p6 p7 p8 p9 p10 p11 p12 p13 p14 p15
       rw[show (Option.isSome (none:Option (List UInt8)))=false from rfl]
       exact se7
 | some os=>
   obtain⟨v,Bx,rfl,hv1,hv2,hv3⟩:=hby2
   have hsl:0<(zy os).length:=by rw[zS];omega
   obtain⟨g,cap,rfl,_,hc1,hc2,hat⟩:=zcl hv2 hsl
   obtain⟨sn,hsn⟩:∃sn,sn=(zy os).length:=⟨_,rfl⟩
   rw[←hsn]
   have H2:=hH (H1.out.trans (hv3.mono H1.out.size))
   have HRD:=hH (show Calls Tryz.prog 33 #[.slice (some ⟨g,0,none⟩) sn cap] w2 (kI a0 ⟨a0,a1,a2,a3,a4,a5,a6,a7,a8,a9,a10⟩ vs t w2) by
    rw[hsn];exact (zdu w2 (some ⟨g,0,none⟩) cap (zy os) hat hc1 hc2).mono fun e Z hz=>HO.out.back os rfl w2 e Z hz)
   clear hv1 hv2 hv3 hsl hc1 hc2 hat hsn p0 p1 p2 p3 p4 p5 p6 p7 p8 p9 p10 p11 p12 p13 p14 p15
   as_aux_lemma=>
    go_wp2_with fail
    refine HRD.out.mono ?_
    rintro e w3 ⟨hb3,m,us,u,rfl,hm1,hm2,hm3,hm4⟩
    obtain⟨W4,hW4⟩:∃W4,W4=w3.alloc (.cells #[.int .i8 a0,.int .i64 m.n1,.int .i64 m.n2,.int .i64 m.n3,.int .i64 m.n4,.int .i64 m.n5,.int .i64 m.n6,.int .i64 m.n7,.int .i64 m.n8,.int .i64 m.n9,.int .i64 m.n10,.slice m.sa m.sn m.sc,.int .i64 u.id,.int .i64 u.kind,.string u.text,.slice m.ar m.am m.ad] 37):=⟨_,rfl⟩
    have hb34:Below w3.heap.size w3 W4:=by rw[hW4];exact (BrQ _ _).alloc (NlrQ _) _
    have e7:W4.heap[w3.heap.size]? =some (.cells #[.int .i8 a0,.int .i64 m.n1,.int .i64 m.n2,.int .i64 m.n3,.int .i64 m.n4,.int .i64 m.n5,.int .i64 m.n6,.int .i64 m.n7,.int .i64 m.n8,.int .i64 m.n9,.int .i64 m.n10,.slice m.sa m.sn m.sc,.int .i64 u.id,.int .i64 u.kind,.string u.text,.slice m.ar m.am m.ad] 37 (0,0)):=by rw[hW4];exact hanQ _ _
    have H3a:=H2.out.trans (hb3.mono H2.out.size)
    have H4:=hH (H3a.trans (hb34.mono H3a.size))
    have HS:=hH (zhL W4 a0 a1 a2 a3 a4 a5 a6 a7 a8 a9 a10 sa ar an ac am ad vs t ((HM.out W4 H4.out).at HZ.out) HW.out a0 m.n1 m.n2 m.n3 m.n4 m.n5 m.n6 m.n7 m.n8 m.n9 m.n10 m.sa m.ar m.sn m.sc m.am m.ad us u (hm1.on hb34) HW.out hm2 hm3 hm4)
    obtain⟨p0,p1,p2,p3,p4,p5,p6,p7,p8,p9,p10,p11,p12,p13,p14,p15⟩:=HA.out W4 H4.out
    have q0:W4.cell? ⟨w3.heap.size,0,none⟩=some (.int .i8 a0):=by rw[corQ _ _ 0 _ _ _ e7];rfl
    have q1:W4.cell? ⟨w3.heap.size,1,none⟩=some (.int .i64 m.n1):=by rw[corQ _ _ 1 _ _ _ e7];rfl
    have q2:W4.cell? ⟨w3.heap.size,2,none⟩=some (.int .i64 m.n2):=by rw[corQ _ _ 2 _ _ _ e7];rfl
    have q3:W4.cell? ⟨w3.heap.size,3,none⟩=some (.int .i64 m.n3):=by rw[corQ _ _ 3 _ _ _ e7];rfl
    have q4:W4.cell? ⟨w3.heap.size,4,none⟩=some (.int .i64 m.n4):=by rw[corQ _ _ 4 _ _ _ e7];rfl
    have q5:W4.cell? ⟨w3.heap.size,5,none⟩=some (.int .i64 m.n5):=by rw[corQ _ _ 5 _ _ _ e7];rfl
    have q6:W4.cell? ⟨w3.heap.size,6,none⟩=some (.int .i64 m.n6):=by rw[corQ _ _ 6 _ _ _ e7];rfl
    have q7:W4.cell? ⟨w3.heap.size,7,none⟩=some (.int .i64 m.n7):=by rw[corQ _ _ 7 _ _ _ e7];rfl
    have q8:W4.cell? ⟨w3.heap.size,8,none⟩=some (.int .i64 m.n8):=by rw[corQ _ _ 8 _ _ _ e7];rfl
    have q9:W4.cell? ⟨w3.heap.size,9,none⟩=some (.int .i64 m.n9):=by rw[corQ _ _ 9 _ _ _ e7];rfl
    have q10:W4.cell? ⟨w3.heap.size,10,none⟩=some (.int .i64 m.n10):=by rw[corQ _ _ 10 _ _ _ e7];rfl
    have q11:W4.cell? ⟨w3.heap.size,11,none⟩=some (.slice m.sa m.sn m.sc):=by rw[corQ _ _ 11 _ _ _ e7];rfl
    have q12:W4.cell? ⟨w3.heap.size,12,none⟩=some (.int .i64 u.id):=by rw[corQ _ _ 12 _ _ _ e7];rfl
    have q13:W4.cell? ⟨w3.heap.size,13,none⟩=some (.int .i64 u.kind):=by rw[corQ _ _ 13 _ _ _ e7];rfl
    have q14:W4.cell? ⟨w3.heap.size,14,none⟩=some (.string u.text):=by rw[corQ _ _ 14 _ _ _ e7];rfl
    have q15:W4.cell? ⟨w3.heap.size,15,none⟩=some (.slice m.ar m.am m.ad):=by rw[corQ _ _ 15 _ _ _ e7];rfl
    have HW4:=hH hW4
    clear hb3 hm1 hm2 hm3 hm4 hb34 e7 H3a hW4 HRD
    go_upto_region 6 with fail
    try change Code.wp _ _ _ _ (w3.alloc (.cells #[.int .i8 a0,.int .i64 m.n1,.int .i64 m.n2,.int .i64 m.n3,.int .i64 m.n4,.int .i64 m.n5,.int .i64 m.n6,.int .i64 m.n7,.int .i64 m.n8,.int .i64 m.n9,.int .i64 m.n10,.slice m.sa m.sn m.sc,.int .i64 u.id,.int .i64 u.kind,.string u.text,.slice m.ar m.am m.ad] 37))
    rw[←HW4.out]
    go_wp2_with fail
    refine HS.out.mono ?_
    rintro e w5 ⟨rfl,hb5⟩
    have H3:=hH (H4.out.trans (hb5.mono H4.out.size))
    clear hb5 HS HW4 p0 p1 p2 p3 p4 p5 p6 p7 p8 p9 p10 p11 p12 p13 p14 p15 q0 q1 q2 q3 q4 q5 q6 q7 q8 q9 q10 q11 q12 q13 q14 q15
    as_aux_lemma=>
     go_wp2_with fail
     refine (HRB.out w5 H3.out).mono ?_
     intro e Y1 hany
     rcases hany with ⟨at_,er,hwhy,hnone⟩ | ⟨k,q,hk,hend,hbY,hP,rfl,hrt⟩
     · obtain⟨rfl,hbY⟩:=hnone
       exact sb4
     · have H4:=hH (H3.out.trans (hbY.mono H3.out.size))
       have HK:=hH (fun (V:World) (hV:Below Y1.heap.size Y1 V)=>zbb bs k q Y1 hk hend hP hrt V hV)
       clear hbY hP hrt hend hk
       as_aux_lemma=>
        go_wp2_with fail
        refine (HK.out _ ((BrQ _ _).alloc (NlrQ _) _)).mono ?_
        rintro e Y2 ⟨v,Bx,rfl,hx1,hx2,hx3⟩
        obtain⟨cv,hcv⟩:∃x,x=(convert 45 9 v).run Tryz.prog Y2:=⟨_,rfl⟩
        have ht1:(convert 45 9 v).run Tryz.prog Y2= .ok (.string ⟨bs.toArray⟩) Y2:=zdN hx2
        have H5:=hH ((H4.out.alloc (H4.out.size) (.cells #[.int .i8 (k:Int),.int .i64 q.n1,.int .i64 q.n2,.int .i64 q.n3,.int .i64 q.n4,.int .i64 q.n5,.int .i64 q.n6,.int .i64 q.n7,.int .i64 q.n8,.int .i64 q.n9,.int .i64 q.n10,.slice q.sa q.sn q.sc,.int .i64 q.id,.int .i64 q.kd,.string q.tx,.slice q.ar q.am q.ad] 37)).trans (hx3.mono (by have:=H4.out.size;rw[WsaQ];omega)))
        have ht2:=HTX.out Y2 H5.out
        have hse:=J8 Y2 ⟨bs.toArray⟩
        obtain⟨p0,p1,p2,p3,p4,p5,p6,p7,p8,p9,p10,p11,p12,p13,p14,p15⟩:=HA.out Y2 H5.out
        clear hx1 hx2 hx3 hcv HK
        go_wp2_with fail
        refine (HO.out.right Y2 ((HM.out Y2 H5.out).at HZ.out)).mono ?_
        rintro e Y3 ⟨rfl,hb6⟩
        have H6:=hH (H5.out.trans (hb6.mono H5.out.size))
        clear hb6 ht1 ht2 hse p0 p1 p2 p3 p4 p5 p6 p7 p8 p9 p10 p11 p12 p13 p14 p15
        rw[show (Option.isSome (some os))=true from rfl]
        exact se7
end Go.Proofs.YtoidedomenkbpaaGreat
