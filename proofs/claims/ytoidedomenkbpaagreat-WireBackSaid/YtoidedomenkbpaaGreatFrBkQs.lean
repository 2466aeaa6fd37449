/-
  .
-/
import Derived.Test.YtoidedomenkbpaaGreatLawBkQs
set_option maxRecDepth 100000
set_option maxHeartbeats 40000000
set_option linter.unusedVariables false
namespace Go.Proofs.YtoidedomenkbpaaGreat
open Go.ChangeShapes Go.WideShapes Go.ChangeAt Go.RowKit
open Extern.Stop (cell)
section
variable {H:Type} {enc:TypeId×Value→H} {w:World} {base:Nat} {spare:Nat→Bool} {held:Bool}
theorem zdq (fuel:Nat)(v:Value)(x:DataW H×List MemPlace)(h:DataW.trod enc Tryz.prog w base spare held fuel 22 [v]=some x):
 ∃(vs:List SV) (a:Option Addr) (cap:Nat),v= .slice a vs.length cap∧zgJ w a vs∧vs.length≤9223372036854775807:=by
 rcases Deep.open_slice Tryz.underlying22 h with ⟨hcs,_⟩ | ⟨ad,len,cap,m,n,D,Pl,hcs,_,hl,hm,hmm,_,hi⟩
 · simp only[List.cons.injEq,and_true] at hcs
   subst hcs
   exact⟨[],none,0,rfl,⟨fun k s hs=>by simp at hs,fun x hx=>by simp at hx,fun x hx=>by simp at hx⟩,by simp⟩
 · simp only[List.cons.injEq,and_true] at hcs
   subst hcs
   have h9:Tryz.prog.cellsOf 41=9:=by kernel_rfl
   have hle:len≤m:=by rw[hmm];split<;>omega
   rw[h9] at hi
   have each:∀i,i<len→∃(y:SV),(∀j u,(zfr y.s y.a y.c)[j]? =some u→w.cell? (ad.add (i*9+j))=some u)∧ZB w y∧zd4 y.s:=fun i hil=>by
    obtain⟨cs',hc,ht⟩:=hi i om1
    obtain⟨_,_,hat⟩:=World.cells?_some hc
    obtain⟨op,id,par,at_,tx,u,ka,kcap,rfl,hcp,hfo,hft,hw,htx⟩:=zex n cs' _ ht
    refine⟨⟨⟨op,id,par,at_,tx,u⟩,ka,kcap⟩,fun j u hj=>?_,⟨hcp,hfo.kept fun q hq=>⟨hq,rfl⟩⟩,⟨hw.1,hft.1,hft.2.1,zb8 1 (qJ u) ⟨hft.2.2.1,hft.2.2.2,True.intro⟩,htx⟩⟩
    have hj9:j<9:=(List.getElem?_eq_some_iff.1 hj).1
    have:=hat j hj9
    rw[Deep.add_add] at this
    exact this.trans hj
   haveI:Inhabited SV:=⟨⟨zjn,none,0⟩⟩
   obtain⟨f,hff⟩:=Deep.choose_lt each
   have hmem:∀x∈(List.range len).map f,ZB w x∧zd4 x.s:=fun x hx=>by
    obtain⟨j,hj,rfl⟩:=List.mem_map.1 hx
    obtain⟨_,h1,h2⟩:=hff j (List.mem_range.1 hj)
    exact⟨h1,h2⟩
   refine⟨(List.range len).map f,some ad,cap,by simp,⟨fun k s hs=>?_,fun x hx=>(hmem x hx).1,fun x hx=>(hmem x hx).2⟩,by simp only[List.length_map,List.length_range];unfold maxLen at hm;omega⟩
   rw[List.getElem?_map,Option.map_eq_some_iff] at hs
   obtain⟨j,hj,rfl⟩:=hs
   obtain⟨hlt',rfl⟩:=List.getElem?_eq_some_iff.1 hj
   simp only[List.length_range] at hlt'
   simp only[List.getElem_range]
   obtain⟨hz,h1,h2⟩:=hff k hlt'
   obtain⟨b,off,spot⟩:=ad
   obtain⟨hz',_,_⟩:=hff 0 om1
   have hz0:=hz' 0 _ rfl
   have hsp:spot=none:=by simpa [Addr.add] using World.cell?_spot hz0
   subst hsp
   have hlt:=ze5 hz0
   rw[JX] at hlt
   clear hz0 hz'
   refine⟨b,off,rfl,hlt,fun j u hj=>?_⟩
   have:=hz j u hj
   rw[Addr.add_mid,←Nat.add_assoc] at this
   exact this
theorem open_msg14 (fuel:Nat)(cs:List Value)(x:DataW H×List MemPlace)(h:DataW.trod enc Tryz.prog w base spare held fuel 37 cs=some x):
 ∃(a0 a1 a2 a3 a4 a5 a6 a7 a8 a9 a10:Int) (sa ar:Option Addr) (ac ad:Nat) (vs:List SV) (t:Tr),cs= [.int .i8 a0,.int .i64 a1,.int .i64 a2,.int .i64 a3,.int .i64 a4,.int .i64 a5,.int .i64 a6,.int .i64 a7,.int .i64 a8,.int .i64 a9,.int .i64 a10,.slice sa vs.length ac,.int .i64 t.id,.int .i64 t.kind,.string t.text,.slice ar (foLen t.kids) ad]∧zbS w sa ar vs.length (foLen t.kids) ad vs t∧(Lit.int .i8 a0).wf=true:=by
 obtain⟨xs,n,_,_,hl,hlen,hf⟩:=DataW.trod_struct Tryz.underlying37 h
 have h9:Tryz.prog.cellsOf 37=16:=by kernel_rfl
 rw[h9] at hl
 match cs,hl with
 | [c0,c1,c2,c3,c4,c5,c6,c7,c8,c9,c10,c11,c12,c13,c14,c15],_=>
   have k1:Tryz.prog.cellsOf 3=1:=by kernel_rfl
   have k2:Tryz.prog.cellsOf 25=1:=by kernel_rfl
   have k3:Tryz.prog.cellsOf 35=4:=by kernel_rfl
   have k4:Tryz.prog.cellsOf 32=1:=by kernel_rfl
   have k5:Tryz.prog.cellsOf 22=1:=by kernel_rfl
   match xs,hlen with
   | [y0,y1,y2,y3,y4,y5,y6,y7,y8,y9,y10,y11,y12],_=>
     have t0:DataW.trod enc Tryz.prog w base spare held n 32 (([c0,c1,c2,c3,c4,c5,c6,c7,c8,c9,c10,c11,c12,c13,c14,c15].drop 0).take (Tryz.prog.cellsOf 32))=some y0:=hf 0 _ rfl
     have t1:DataW.trod enc Tryz.prog w base spare held n 3 (([c0,c1,c2,c3,c4,c5,c6,c7,c8,c9,c10,c11,c12,c13,c14,c15].drop 1).take (Tryz.prog.cellsOf 3))=some y1:=hf 1 _ rfl
     have t2:DataW.trod enc Tryz.prog w base spare held n 3 (([c0,c1,c2,c3,c4,c5,c6,c7,c8,c9,c10,c11,c12,c13,c14,c15].drop 2).take (Tryz.prog.cellsOf 3))=some y2:=hf 2 _ rfl
     have t3:DataW.trod enc Tryz.prog w base spare held n 3 (([c0,c1,c2,c3,c4,c5,c6,c7,c8,c9,c10,c11,c12,c13,c14,c15].drop 3).take (Tryz.prog.cellsOf 3))=some y3:=hf 3 _ rfl
     have t4:DataW.trod enc Tryz.prog w base spare held n 3 (([c0,c1,c2,c3,c4,c5,c6,c7,c8,c9,c10,c11,c12,c13,c14,c15].drop 4).take (Tryz.prog.cellsOf 3))=some y4:=hf 4 _ rfl
     have t5:DataW.trod enc Tryz.prog w base spare held n 3 (([c0,c1,c2,c3,c4,c5,c6,c7,c8,c9,c10,c11,c12,c13,c14,c15].drop 5).take (Tryz.prog.cellsOf 3))=some y5:=hf 5 _ rfl
     have t6:DataW.trod enc Tryz.prog w base spare held n 3 (([c0,c1,c2,c3,c4,c5,c6,c7,c8,c9,c10,c11,c12,c13,c14,c15].drop 6).take (Tryz.prog.cellsOf 3))=some y6:=hf 6 _ rfl
     have t7:DataW.trod enc Tryz.prog w base spare held n 3 (([c0,c1,c2,c3,c4,c5,c6,c7,c8,c9,c10,c11,c12,c13,c14,c15].drop 7).take (Tryz.prog.cellsOf 3))=some y7:=hf 7 _ rfl
     have t8:DataW.trod enc Tryz.prog w base spare held n 3 (([c0,c1,c2,c3,c4,c5,c6,c7,c8,c9,c10,c11,c12,c13,c14,c15].drop 8).take (Tryz.prog.cellsOf 3))=some y8:=hf 8 _ rfl
     have t9:DataW.trod enc Tryz.prog w base spare held n 3 (([c0,c1,c2,c3,c4,c5,c6,c7,c8,c9,c10,c11,c12,c13,c14,c15].drop 9).take (Tryz.prog.cellsOf 3))=some y9:=hf 9 _ rfl
     have t10:DataW.trod enc Tryz.prog w base spare held n 25 (([c0,c1,c2,c3,c4,c5,c6,c7,c8,c9,c10,c11,c12,c13,c14,c15].drop 10).take (Tryz.prog.cellsOf 25))=some y10:=hf 10 _ rfl
     have t11:DataW.trod enc Tryz.prog w base spare held n 22 (([c0,c1,c2,c3,c4,c5,c6,c7,c8,c9,c10,c11,c12,c13,c14,c15].drop 11).take (Tryz.prog.cellsOf 22))=some y11:=hf 11 _ rfl
     have t12:DataW.trod enc Tryz.prog w base spare held n 35 (([c0,c1,c2,c3,c4,c5,c6,c7,c8,c9,c10,c11,c12,c13,c14,c15].drop 12).take (Tryz.prog.cellsOf 35))=some y12:=hf 12 _ rfl
     simp only[k1,k2,k3,k4,k5,List.drop_zero,List.take_succ_cons,List.take_zero,List.drop_succ_cons] at t0 t1 t2 t3 t4 t5 t6 t7 t8 t9 t10 t11 t12
     obtain⟨a0,e0,_,b0⟩:=DataW.trod_int Tryz.underlying32 t0
     obtain⟨a1,e1,_,b1⟩:=DataW.trod_int Tryz.underlying3 t1
     obtain⟨a2,e2,_,b2⟩:=DataW.trod_int Tryz.underlying3 t2
     obtain⟨a3,e3,_,b3⟩:=DataW.trod_int Tryz.underlying3 t3
     obtain⟨a4,e4,_,b4⟩:=DataW.trod_int Tryz.underlying3 t4
     obtain⟨a5,e5,_,b5⟩:=DataW.trod_int Tryz.underlying3 t5
     obtain⟨a6,e6,_,b6⟩:=DataW.trod_int Tryz.underlying3 t6
     obtain⟨a7,e7,_,b7⟩:=DataW.trod_int Tryz.underlying3 t7
     obtain⟨a8,e8,_,b8⟩:=DataW.trod_int Tryz.underlying3 t8
     obtain⟨a9,e9,_,b9⟩:=DataW.trod_int Tryz.underlying3 t9
     obtain⟨a10,e10,_,b10⟩:=DataW.trod_int Tryz.underlying25 t10
     obtain⟨vs,sa,ac,e11,hrow,hlen11⟩:=zdq n _ y11 t11
     obtain⟨t,ar,ad,e12,hcp,hfo,hft⟩:=zar n _ y12 t12
     simp only[List.cons.injEq,and_true] at e0 e1 e2 e3 e4 e5 e6 e7 e8 e9 e10 e12
     obtain⟨rfl,rfl,rfl,rfl⟩:=e12
     subst e11
     subst e0
     subst e1
     subst e2
     subst e3
     subst e4
     subst e5
     subst e6
     subst e7
     subst e8
     subst e9
     subst e10
     exact⟨a0,a1,a2,a3,a4,a5,a6,a7,a8,a9,a10,sa,ar,ac,ad,vs,t,rfl,⟨hrow,rfl,rfl,hcp,hfo.kept fun q hq=>⟨hq,rfl⟩,⟨hft.1,hft.2.1⟩,hlen11⟩,b0⟩
end
end Go.Proofs.YtoidedomenkbpaaGreat
namespace Go.Proofs.YtoidedomenkbpaaGreat
open Go.ChangeShapes Go.WideShapes Go.ChangeAt Go.RowKit
open Extern.Stop (cell)
theorem zkH {n:Int}(h:(Lit.int .u8 n).wf=true):0≤n∧n<256:=by
 simp only[Lit.wf,Bool.and_eq_true,decide_eq_true_eq] at h
 have e1:IntKind.u8.min=0:=rfl
 have e2:IntKind.u8.max=255:=rfl
 omega
theorem zfJ {n:Int}(h:(Lit.int .u8 n).wf=true):cell (UInt8.ofNat n.toNat)= .int .u8 n:=by
 have hb:=zkH h
 show Value.int .u8 ((UInt8.ofNat n.toNat).toNat:Int)=_
 rw[UInt8.toNat_ofNat']
 congr 1
 omega
theorem zd9 {w:World}{a:Addr}{len:Nat}{zs:List Int}(hc:∀i,i<zs.length→w.cell? (a.add i)=some (.int .u8 (zs.getD i 0)))(hw:∀n∈zs,(Lit.int .u8 n).wf=true):
 zL w (some a) ((zs.take len).map fun n=>UInt8.ofNat n.toNat):=by
 refine⟨fun e=>(by cases e),fun ad e j u hj=>?_⟩
 cases e
 rw[List.getElem?_map,Option.map_eq_some_iff] at hj
 obtain⟨n,hn,rfl⟩:=hj
 rw[List.getElem?_take] at hn
 split at hn
 · have hj' :j<zs.length:=(List.getElem?_eq_some_iff.1 hn).1
   rw[hc j hj',List.getD_eq_getElem?_getD,hn]
   exact congrArg some (zfJ (hw n (List.mem_of_getElem? hn))).symm
 · cases hn
section
variable {w:World} {base:Nat} {spare:Nat→Bool} {held:Bool} {H:Type} {enc:TypeId×Value→H}
theorem open_bytesY {fuel:Nat}{v:Value}{x:DataW H×List MemPlace}(h:DataW.trod enc Tryz.prog w base spare held fuel 45 [v]=some x):∃(bs:List UInt8) (a:Option Addr) (cap:Nat),v= .slice a bs.length cap∧zL w a bs∧bs.length≤cap∧(cap:Int)≤9223372036854775807:=by
 rcases open_ints Tryz.underlying45 Tryz.underlying5 kr1 h with ⟨hcs,_⟩ | ⟨a,len,cap,zs,hcs,_,hl,hm,hz,_,hcell,hwz⟩
 · simp only[List.cons.injEq,and_true] at hcs
   subst hcs
   exact⟨[],none,0,rfl,zL.nil _ _,NlrQ _,by omega⟩
 · simp only[List.cons.injEq,and_true] at hcs
   subst hcs
   have hlz:len≤zs.length:=by rw[hz];split<;>omega
   exact⟨(zs.take len).map fun n=>UInt8.ofNat n.toNat,some a,cap,by simp[Nat.min_eq_left hlz],zd9 hcell hwz,by simp;omega,by unfold maxLen at hm;omega⟩
end
end Go.Proofs.YtoidedomenkbpaaGreat
namespace Go.Proofs.YtoidedomenkbpaaGreat
open Go.RowKit Go.Shelf
theorem zh1 {a:Int}(h:(Lit.int .i8 a).wf=true):IntKind.i64.wrap a=a:=by
 have:=QR h
 exact IntWalk.i64_in _ om1
theorem wireBack_fr (w:World)(a0 a1 a2 a3 a4 a5 a6 a7 a8 a9 a10:Int)(sa ar:Option Addr)(ac ad:Nat)(vs:List SV)(t:Tr)(ba:Option Addr)(bc:Nat)(bs:List UInt8)(h:zbS w sa ar vs.length (foLen t.kids) ad vs t)(hw:(Lit.int .i8 a0).wf=true)(hby:zL w ba bs)(hbc:bs.length≤bc)(hbm:(bc:Int)≤9223372036854775807):
 Calls Tryz.prog 8 #[.agg #[.int .i8 a0,.int .i64 a1,.int .i64 a2,.int .i64 a3,.int .i64 a4,.int .i64 a5,.int .i64 a6,.int .i64 a7,.int .i64 a8,.int .i64 a9,.int .i64 a10,.slice sa vs.length ac,.int .i64 t.id,.int .i64 t.kind,.string t.text,.slice ar (foLen t.kids) ad],.slice ba bs.length bc] w (zX true w):=
 zcv w a0 a1 a2 a3 a4 a5 a6 a7 a8 a9 a10 sa ar vs.length ac (foLen t.kids) ad vs t h (zh1 hw) ba bc bs hby hbc hbm
end Go.Proofs.YtoidedomenkbpaaGreat
