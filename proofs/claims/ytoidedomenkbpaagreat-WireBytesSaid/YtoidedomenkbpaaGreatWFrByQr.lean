/-
  .
-/
import Derived.Test.YtoidedomenkbpaaGreatWBytesEQr
set_option maxRecDepth 100000
set_option maxHeartbeats 40000000
set_option linter.unusedVariables false
set_option linter.unusedSimpArgs false
namespace Go.Proofs.YtoidedomenkbpaaGreat
open Go.ChangeShapes Go.WideShapes Go.ChangeAt Go.RowKit
open Extern.Stop (cell)
theorem zcY {w:World}{a:Addr}{v:Value}(h:w.cell? a=some v):a.block<w.heap.size:=block_lt_of_cell h
theorem Qt (a:Addr)(j:Nat):(a.add j).block=a.block:=by unfold Addr.add;split<;>rfl
def J6:List Tr→Fo
 | []=> .nil
 | t::l=> .node 0 0 (t.id,t.kind,t.text) t.kids (J6 l)
theorem za6:∀l:List Tr,foLen (J6 l)=l.length
 | []=>rfl
 | _::l=>by simp[J6,foLen,za6 l]
theorem za5:∀l:List Tr,(∀t∈l,foLen t.kids≤9223372036854775807∧vY t.kids)→vY (J6 l)
 | [],_=>True.intro
 | t::l,h=>⟨(h t (List.mem_cons_self ..)).1,(h t (List.mem_cons_self ..)).2,za5 l fun u hu=>h u (List.mem_cons_of_mem _ hu)⟩
theorem zc6 {w:World}{S:Nat→Prop}{b:Nat}(hb:S b):∀(l:List Tr) (off:Nat),(∀i t,l[i]? =some t→∃ka cap,w.cell? ⟨b,off+i*4,none⟩=some (.int .i64 t.id)∧w.cell? ⟨b,off+i*4+1,none⟩=some (.int .i64 t.kind)∧
 w.cell? ⟨b,off+i*4+2,none⟩=some (.string t.text)∧w.cell? ⟨b,off+i*4+3,none⟩=some (.slice ka (foLen t.kids) cap)∧foLen t.kids≤cap∧zK w S t.kids ka)→zK w S (J6 l) (some ⟨b,off,none⟩)
 | [],_,_=>True.intro
 | t ::l,off,h=>by
   obtain⟨ka,cap,h0,h1,h2,h3,hcp,hf⟩:=h 0 t rfl
   refine⟨b,off,ka,cap,rfl,hb,by simpa using h0,by simpa using h1,by simpa using h2,by simpa using h3,hcp,hf,zc6 hb l (off+4) fun i u hu=>?_⟩
   obtain⟨ka,cap,h0,h1,h2,h3,hcp,hf⟩:=h (i+1) u (by simpa using hu)
   rw[show off+(i+1)*4=off+4+i*4 by omega] at h0 h1 h2 h3
   exact⟨ka,cap,h0,h1,h2,h3,hcp,hf⟩
def Old (w:World):Nat→Prop:=fun k=>k<w.heap.size
def zde (k:Int×Int×ByteArray):Prop:=(k.2.2.size:Int)≤9223372036854775807∧(Lit.int .i64 k.1).wf=true
def zdZ:Fo→Prop
 | .nil=>True
 | .node _ _ k l r=>zde k∧zdZ l∧zdZ r
theorem zcy:∀(d:Nat) (f:Fo),zdZ f→okF (spF d f)
 | _,.nil,_=>fun x hx=>by cases hx
 | d,.node _ _ k l r,h=>fun x hx=>by
   simp only[spF,List.mem_cons,List.mem_append] at hx
   rcases hx with rfl | hx | hx
   · exact h.1
   · exact zcy (d+1) l h.2.1 x hx
   · exact zcy d r h.2.2 x hx
def Fits (t:Tr):Prop:=foLen t.kids≤9223372036854775807∧vY t.kids∧zde (t.id,t.kind,t.text)∧zdZ t.kids
theorem zdd:∀l:List Tr,(∀t∈l,zde (t.id,t.kind,t.text)∧zdZ t.kids)→zdZ (J6 l)
 | [],_=>True.intro
 | t::l,h=>⟨(h t (List.mem_cons_self ..)).1,(h t (List.mem_cons_self ..)).2,zdd l fun u hu=>h u (List.mem_cons_of_mem _ hu)⟩
section
variable {H:Type} {enc:TypeId×Value→H} {w:World} {base:Nat} {spare:Nat→Bool} {held:Bool}
theorem QM : ∀ (fuel:Nat) (cs:List Value) (x:DataW H×List MemPlace),DataW.trod enc Tryz.prog w base spare held fuel 35 cs=some x→
 ∃(t:Tr) (ka:Option Addr) (cap:Nat),cs= [.int .i64 t.id,.int .i64 t.kind,.string t.text,.slice ka (foLen t.kids) cap]∧foLen t.kids≤cap∧zK w (Old w) t.kids ka∧Fits t:=by
 intro fuel
 induction fuel using Nat.strongRecOn with
 | ind fuel ih =>
   intro cs x h
   obtain⟨xs,n,hn,_,hl,hlen,hf⟩:=DataW.trod_struct Tryz.underlying35 h
   have h4:Tryz.prog.cellsOf 35=4:=by kernel_rfl
   rw[h4] at hl
   match cs,hl with
   | [c0, c1, c2,c3],_=>
     have k1:Tryz.prog.cellsOf 3=1:=by kernel_rfl
     have k2:Tryz.prog.cellsOf 9=1:=by kernel_rfl
     have k3:Tryz.prog.cellsOf 33=1:=by kernel_rfl
     match xs,hlen with
     | [y0, y1,y2,y3],_=>
       have t0:DataW.trod enc Tryz.prog w base spare held n 3 (([c0,c1,c2,c3].drop 0).take (Tryz.prog.cellsOf 3))=some y0:=hf 0 _ rfl
       have t1:DataW.trod enc Tryz.prog w base spare held n 3 (([c0,c1,c2,c3].drop 1).take (Tryz.prog.cellsOf 3))=some y1:=hf 1 _ rfl
       have t2:DataW.trod enc Tryz.prog w base spare held n 9 (([c0,c1,c2,c3].drop 2).take (Tryz.prog.cellsOf 9))=some y2:=hf 2 _ rfl
       have t3:DataW.trod enc Tryz.prog w base spare held n 33 (([c0,c1,c2,c3].drop 3).take (Tryz.prog.cellsOf 33))=some y3:=hf 3 _ rfl
       simp only[k1,k2,k3,List.drop_zero,List.take_succ_cons,List.take_zero,List.drop_succ_cons] at t0 t1 t2 t3
       obtain⟨id,e0,_,wf0⟩:=DataW.trod_int Tryz.underlying3 t0
       obtain⟨kd,e1,_,_⟩:=DataW.trod_int Tryz.underlying3 t1
       obtain⟨tx,e2,_,hsz⟩:=DataW.trod_string Tryz.underlying9 t2
       have hkey:zde (id,kd,tx):=⟨by show (tx.size:Int)≤_;unfold maxLen at hsz;omega,wf0⟩
       simp only[List.cons.injEq,and_true] at e0 e1 e2
       subst e0;subst e1;subst e2
       rcases DataW.trod_slice Tryz.underlying33 t3 with ⟨e3,_⟩ | ⟨ad,len,cap,elems,rest,m,hm,e3,_,_,hlc,hcm,_,hi,_⟩
       · simp only[List.cons.injEq,and_true] at e3
         subst e3
         exact⟨⟨id,kd,tx,.nil⟩,none,0,rfl,NlrQ _,True.intro,NzlQ _,True.intro,hkey,True.intro⟩
       · simp only[List.cons.injEq,and_true] at e3
         subst e3
         rw[h4] at hi
         have each:∀i,i<len→∃(u:Tr),∃(ka:Option Addr) (kcap:Nat),w.cell? (ad.add (i*4))=some (.int .i64 u.id)∧w.cell? (ad.add (i*4+1))=some (.int .i64 u.kind)∧w.cell? (ad.add (i*4+2))=some (.string u.text)∧
          w.cell? (ad.add (i*4+3))=some (.slice ka (foLen u.kids) kcap)∧foLen u.kids≤kcap∧zK w (Old w) u.kids ka∧Fits u:=fun i hil=>by
          have h1:=hi i hil
          obtain⟨y,hy⟩:∃y,elems[i]? =some y:=⟨elems[i]'om,List.getElem?_eq_getElem _⟩
          rw[hy,Option.bind_eq_some_iff] at h1
          obtain⟨cs',hc,ht⟩:=h1
          obtain⟨_,_,hat⟩:=World.cells?_some hc
          obtain⟨u,ka,kcap,rfl,hcp,hfo,hft⟩:=ih m om cs' y ht
          have a0:=hat 0 om
          have a1:=hat 1 om
          have a2:=hat 2 om
          have a3:=hat 3 om
          rw[Deep.add_add] at a0 a1 a2 a3
          exact⟨u,ka,kcap,a0,a1,a2,a3,hcp,hfo,hft⟩
         obtain⟨f,hff⟩:=Deep.choose_lt each
         have hls:foLen (J6 ((List.range len).map f))=len:=by rw[za6];simp
         refine⟨⟨id,kd,tx,J6 ((List.range len).map f)⟩,some ad,cap,by rw[hls],by rw[hls];exact hlc,?_,?_,?_,hkey,?_⟩
         · cases hl0:len with
           | zero=>exact True.intro
           | succ len'=>
             rw[←hl0]
             obtain⟨b,off,spot⟩:=ad
             obtain⟨_,_,hz,_⟩:=hff 0 om
             have hsp:spot=none:=by simpa [Addr.add] using World.cell?_spot hz
             subst hsp
             have hlt:=zcY hz
             rw[Qt] at hlt
             refine zc6 (show Old w b from hlt) _ off fun i u hu=>?_
             rw[List.getElem?_map,Option.map_eq_some_iff] at hu
             obtain⟨j,hj,rfl⟩:=hu
             obtain⟨hlt',rfl⟩:=List.getElem?_eq_some_iff.1 hj
             simp only[List.length_range] at hlt'
             simp only[List.getElem_range]
             obtain⟨ka,kcap,h0,h1,h2,h3,hcp,hfo,_⟩:=hff i hlt'
             rw[Addr.add_mid] at h0 h1 h2 h3
             exact⟨ka,kcap,h0,by rw[Nat.add_assoc];exact h1,by rw[Nat.add_assoc];exact h2,by rw[Nat.add_assoc];exact h3,hcp,hfo⟩
         · show foLen (J6 ((List.range len).map f))≤_
           rw[hls];unfold maxLen at hcm;omega
         · refine za5 _ fun u hu=>?_
           simp only[List.mem_map,List.mem_range] at hu
           obtain⟨i,hil,rfl⟩:=hu
           obtain⟨_,_,_,_,_,_,_,_,hft⟩:=hff i hil
           exact⟨hft.1,hft.2.1⟩
         · refine zdd _ fun u hu=>?_
           simp only[List.mem_map,List.mem_range] at hu
           obtain⟨i,hil,rfl⟩:=hu
           obtain⟨_,_,_,_,_,_,_,_,hft⟩:=hff i hil
           exact hft.2.2
theorem zcA (fuel:Nat)(cs:List Value)(x:DataW H×List MemPlace)(h:DataW.trod enc Tryz.prog w base spare held fuel 41 cs=some x):
 ∃(op id par at_:Int) (tx:ByteArray) (u:Tr) (ka:Option Addr) (cap:Nat),cs= [.int .i8 op,.int .i64 id,.int .i64 par,.int .i64 at_,.string tx,.int .i64 u.id,.int .i64 u.kind,.string u.text,.slice ka (foLen u.kids) cap]∧foLen u.kids≤cap∧zK w (Old w) u.kids ka∧Fits u∧((Lit.int .i8 op).wf=true∧(Lit.int .i64 id).wf=true∧(Lit.int .i64 par).wf=true∧(Lit.int .i64 at_).wf=true)∧(tx.size:Int)≤9223372036854775807:=by
 obtain⟨xs,n,_,_,hl,hlen,hf⟩:=DataW.trod_struct Tryz.underlying41 h
 have h9:Tryz.prog.cellsOf 41=9:=by kernel_rfl
 rw[h9] at hl
 match cs,hl with
 | [c0,c1,c2,c3,c4,c5,c6,c7,c8],_=>
   have k1:Tryz.prog.cellsOf 3=1:=by kernel_rfl
   have k2:Tryz.prog.cellsOf 9=1:=by kernel_rfl
   have k3:Tryz.prog.cellsOf 35=4:=by kernel_rfl
   have k4:Tryz.prog.cellsOf 32=1:=by kernel_rfl
   match xs,hlen with
   | [y0,y1,y2,y3,y4,y5],_=>
     have t0:DataW.trod enc Tryz.prog w base spare held n 32 (([c0,c1,c2,c3,c4,c5,c6,c7,c8].drop 0).take (Tryz.prog.cellsOf 32))=some y0:=hf 0 _ rfl
     have t1:DataW.trod enc Tryz.prog w base spare held n 3 (([c0,c1,c2,c3,c4,c5,c6,c7,c8].drop 1).take (Tryz.prog.cellsOf 3))=some y1:=hf 1 _ rfl
     have t2:DataW.trod enc Tryz.prog w base spare held n 3 (([c0,c1,c2,c3,c4,c5,c6,c7,c8].drop 2).take (Tryz.prog.cellsOf 3))=some y2:=hf 2 _ rfl
     have t3:DataW.trod enc Tryz.prog w base spare held n 3 (([c0,c1,c2,c3,c4,c5,c6,c7,c8].drop 3).take (Tryz.prog.cellsOf 3))=some y3:=hf 3 _ rfl
     have t4:DataW.trod enc Tryz.prog w base spare held n 9 (([c0,c1,c2,c3,c4,c5,c6,c7,c8].drop 4).take (Tryz.prog.cellsOf 9))=some y4:=hf 4 _ rfl
     have t5:DataW.trod enc Tryz.prog w base spare held n 35 (([c0,c1,c2,c3,c4,c5,c6,c7,c8].drop 5).take (Tryz.prog.cellsOf 35))=some y5:=hf 5 _ rfl
     simp only[k1,k2,k3,k4,List.drop_zero,List.take_succ_cons,List.take_zero,List.drop_succ_cons] at t0 t1 t2 t3 t4 t5
     obtain⟨op,e0,_,b0⟩:=DataW.trod_int Tryz.underlying32 t0
     obtain⟨id,e1,_,b1⟩:=DataW.trod_int Tryz.underlying3 t1
     obtain⟨pa,e2,_,b2⟩:=DataW.trod_int Tryz.underlying3 t2
     obtain⟨pl,e3,_,b3⟩:=DataW.trod_int Tryz.underlying3 t3
     obtain⟨tx,e4,_,b4⟩:=DataW.trod_string Tryz.underlying9 t4
     obtain⟨u,ka,cap,e5,hcp,hfo,hft⟩:=QM n _ y5 t5
     simp only[List.cons.injEq,and_true] at e0 e1 e2 e3 e4 e5
     obtain⟨rfl,rfl,rfl,rfl⟩:=e5
     subst e0;subst e1;subst e2;subst e3;subst e4
     exact⟨op,id,pa,pl,tx,u,ka,cap,rfl,hcp,hfo,hft,⟨b0,b1,b2,b3⟩,by unfold maxLen at b4;omega⟩
end
end Go.Proofs.YtoidedomenkbpaaGreat
namespace Go.Proofs.YtoidedomenkbpaaGreat
open Go.ChangeShapes Go.WideShapes Go.ChangeAt Go.RowKit
open Extern.Stop (cell)
section
variable {H:Type} {enc:TypeId×Value→H} {w:World} {base:Nat} {spare:Nat→Bool} {held:Bool}
theorem zbn (fuel:Nat)(v:Value)(x:DataW H×List MemPlace)(h:DataW.trod enc Tryz.prog w base spare held fuel 22 [v]=some x):
 ∃(vs:List SV) (a:Option Addr) (cap:Nat),v= .slice a vs.length cap∧zeJ w a vs∧vs.length≤9223372036854775807:=by
 rcases Deep.open_slice Tryz.underlying22 h with ⟨hcs,_⟩ | ⟨ad,len,cap,m,n,D,Pl,hcs,_,hl,hm,hmm,_,hi⟩
 · simp only[List.cons.injEq,and_true] at hcs
   subst hcs
   exact⟨[],none,0,rfl,⟨fun k s hs=>by simp at hs,fun x hx=>by simp at hx,fun x hx=>by simp at hx⟩,by simp⟩
 · simp only[List.cons.injEq,and_true] at hcs
   subst hcs
   have h9:Tryz.prog.cellsOf 41=9:=by kernel_rfl
   have hle:len≤m:=by rw[hmm];split<;>omega
   rw[h9] at hi
   have each:∀i,i<len→∃(y:SV),(∀j u,(zg2 y.s y.a y.c)[j]? =some u→w.cell? (ad.add (i*9+j))=some u)∧kI w y∧zb7 y.s:=fun i hil=>by
    obtain⟨cs',hc,ht⟩:=hi i om
    obtain⟨_,_,hat⟩:=World.cells?_some hc
    obtain⟨op,id,par,at_,tx,u,ka,kcap,rfl,hcp,hfo,hft,hw,htx⟩:=zcA n cs' _ ht
    refine⟨⟨⟨op,id,par,at_,tx,u⟩,ka,kcap⟩,fun j u hj=>?_,⟨hcp,hfo.kept fun q hq=>⟨hq,rfl⟩⟩,⟨hw.1,hft.1,hft.2.1,zcy 1 (yI u) ⟨hft.2.2.1,hft.2.2.2,True.intro⟩,htx⟩⟩
    have hj9:j<9:=(List.getElem?_eq_some_iff.1 hj).1
    have:=hat j hj9
    rw[Deep.add_add] at this
    exact this.trans hj
   haveI:Inhabited SV:=⟨⟨zid,none,0⟩⟩
   obtain⟨f,hff⟩:=Deep.choose_lt each
   have hmem:∀x∈(List.range len).map f,kI w x∧zb7 x.s:=fun x hx=>by
    obtain⟨j,hj,rfl⟩:=List.mem_map.1 hx
    obtain⟨_,h1,h2⟩:=hff j (List.mem_range.1 hj)
    exact⟨h1,h2⟩
   refine⟨(List.range len).map f,some ad,cap,by simp,⟨fun k s hs=>?_,fun x hx=>(hmem x hx).1,fun x hx=>(hmem x hx).2⟩,by simp only[List.length_map,List.length_range];unfold maxLen at hm;omega⟩
   rw[List.getElem?_map,Option.map_eq_some_iff] at hs
   obtain⟨j,hj,rfl⟩:=hs
   obtain⟨hlt',rfl⟩:=List.getElem?_eq_some_iff.1 hj
   simp only[List.length_range] at hlt'
   simp only[List.getElem_range]
   obtain⟨hz,h1,h2⟩:=hff k hlt'
   obtain⟨b,off,spot⟩:=ad
   obtain⟨hz',_,_⟩:=hff 0 om
   have hz0:=hz' 0 _ rfl
   have hsp:spot=none:=by simpa [Addr.add] using World.cell?_spot hz0
   subst hsp
   have hlt:=zcY hz0
   rw[Qt] at hlt
   clear hz0 hz'
   refine⟨b,off,rfl,hlt,fun j u hj=>?_⟩
   have:=hz j u hj
   rw[Addr.add_mid,←Nat.add_assoc] at this
   exact this
theorem open_msg14 (fuel:Nat)(cs:List Value)(x:DataW H×List MemPlace)(h:DataW.trod enc Tryz.prog w base spare held fuel 37 cs=some x):
 ∃(a0 a1 a2 a3 a4 a5 a6 a7 a8 a9 a10:Int) (sa ar:Option Addr) (ac ad:Nat) (vs:List SV) (t:Tr),cs= [.int .i8 a0,.int .i64 a1,.int .i64 a2,.int .i64 a3,.int .i64 a4,.int .i64 a5,.int .i64 a6,.int .i64 a7,.int .i64 a8,.int .i64 a9,.int .i64 a10,.slice sa vs.length ac,.int .i64 t.id,.int .i64 t.kind,.string t.text,.slice ar (foLen t.kids) ad]∧JW w sa ar vs.length (foLen t.kids) ad vs t∧(Lit.int .i8 a0).wf=true:=by
 obtain⟨xs,n,_,_,hl,hlen,hf⟩:=DataW.trod_struct Tryz.underlying37 h
 have h9:Tryz.prog.cellsOf 37=16:=by kernel_rfl
 rw[h9] at hl
 match cs,hl with
 | [c0,c1,c2,c3,c4,c5,c6,c7,c8,c9,c10,c11,c12,c13,c14,c15],_=>
   have k1:Tryz.prog.cellsOf 3=1:=by kernel_rfl
   have k2:Tryz.prog.cellsOf 25=1:=by kernel_rfl
   have k3:Tryz.prog.cellsOf 35=4:=by kernel_rfl
   have k4:Tryz.prog.cellsOf 32=1:=by kernel_rfl
   have k5:Tryz.prog.cellsOf 22=1:=by kernel_rfl
   match xs,hlen with
   | [y0,y1,y2,y3,y4,y5,y6,y7,y8,y9,y10,y11,y12],_=>
     have t0:DataW.trod enc Tryz.prog w base spare held n 32 (([c0,c1,c2,c3,c4,c5,c6,c7,c8,c9,c10,c11,c12,c13,c14,c15].drop 0).take (Tryz.prog.cellsOf 32))=some y0:=hf 0 _ rfl
     have t1:DataW.trod enc Tryz.prog w base spare held n 3 (([c0,c1,c2,c3,c4,c5,c6,c7,c8,c9,c10,c11,c12,c13,c14,c15].drop 1).take (Tryz.prog.cellsOf 3))=some y1:=hf 1 _ rfl
     have t2:DataW.trod enc Tryz.prog w base spare held n 3 (([c0,c1,c2,c3,c4,c5,c6,c7,c8,c9,c10,c11,c12,c13,c14,c15].drop 2).take (Tryz.prog.cellsOf 3))=some y2:=hf 2 _ rfl
     have t3:DataW.trod enc Tryz.prog w base spare held n 3 (([c0,c1,c2,c3,c4,c5,c6,c7,c8,c9,c10,c11,c12,c13,c14,c15].drop 3).take (Tryz.prog.cellsOf 3))=some y3:=hf 3 _ rfl
     have t4:DataW.trod enc Tryz.prog w base spare held n 3 (([c0,c1,c2,c3,c4,c5,c6,c7,c8,c9,c10,c11,c12,c13,c14,c15].drop 4).take (Tryz.prog.cellsOf 3))=some y4:=hf 4 _ rfl
     have t5:DataW.trod enc Tryz.prog w base spare held n 3 (([c0,c1,c2,c3,c4,c5,c6,c7,c8,c9,c10,c11,c12,c13,c14,c15].drop 5).take (Tryz.prog.cellsOf 3))=some y5:=hf 5 _ rfl
     have t6:DataW.trod enc Tryz.prog w base spare held n 3 (([c0,c1,c2,c3,c4,c5,c6,c7,c8,c9,c10,c11,c12,c13,c14,c15].drop 6).take (Tryz.prog.cellsOf 3))=some y6:=hf 6 _ rfl
     have t7:DataW.trod enc Tryz.prog w base spare held n 3 (([c0,c1,c2,c3,c4,c5,c6,c7,c8,c9,c10,c11,c12,c13,c14,c15].drop 7).take (Tryz.prog.cellsOf 3))=some y7:=hf 7 _ rfl
     have t8:DataW.trod enc Tryz.prog w base spare held n 3 (([c0,c1,c2,c3,c4,c5,c6,c7,c8,c9,c10,c11,c12,c13,c14,c15].drop 8).take (Tryz.prog.cellsOf 3))=some y8:=hf 8 _ rfl
     have t9:DataW.trod enc Tryz.prog w base spare held n 3 (([c0,c1,c2,c3,c4,c5,c6,c7,c8,c9,c10,c11,c12,c13,c14,c15].drop 9).take (Tryz.prog.cellsOf 3))=some y9:=hf 9 _ rfl
     have t10:DataW.trod enc Tryz.prog w base spare held n 25 (([c0,c1,c2,c3,c4,c5,c6,c7,c8,c9,c10,c11,c12,c13,c14,c15].drop 10).take (Tryz.prog.cellsOf 25))=some y10:=hf 10 _ rfl
     have t11:DataW.trod enc Tryz.prog w base spare held n 22 (([c0,c1,c2,c3,c4,c5,c6,c7,c8,c9,c10,c11,c12,c13,c14,c15].drop 11).take (Tryz.prog.cellsOf 22))=some y11:=hf 11 _ rfl
     have t12:DataW.trod enc Tryz.prog w base spare held n 35 (([c0,c1,c2,c3,c4,c5,c6,c7,c8,c9,c10,c11,c12,c13,c14,c15].drop 12).take (Tryz.prog.cellsOf 35))=some y12:=hf 12 _ rfl
     simp only[k1,k2,k3,k4,k5,List.drop_zero,List.take_succ_cons,List.take_zero,List.drop_succ_cons] at t0 t1 t2 t3 t4 t5 t6 t7 t8 t9 t10 t11 t12
     obtain⟨a0,e0,_,b0⟩:=DataW.trod_int Tryz.underlying32 t0
     obtain⟨a1,e1,_,b1⟩:=DataW.trod_int Tryz.underlying3 t1
     obtain⟨a2,e2,_,b2⟩:=DataW.trod_int Tryz.underlying3 t2
     obtain⟨a3,e3,_,b3⟩:=DataW.trod_int Tryz.underlying3 t3
     obtain⟨a4,e4,_,b4⟩:=DataW.trod_int Tryz.underlying3 t4
     obtain⟨a5,e5,_,b5⟩:=DataW.trod_int Tryz.underlying3 t5
     obtain⟨a6,e6,_,b6⟩:=DataW.trod_int Tryz.underlying3 t6
     obtain⟨a7,e7,_,b7⟩:=DataW.trod_int Tryz.underlying3 t7
     obtain⟨a8,e8,_,b8⟩:=DataW.trod_int Tryz.underlying3 t8
     obtain⟨a9,e9,_,b9⟩:=DataW.trod_int Tryz.underlying3 t9
     obtain⟨a10,e10,_,b10⟩:=DataW.trod_int Tryz.underlying25 t10
     obtain⟨vs,sa,ac,e11,hrow,hlen11⟩:=zbn n _ y11 t11
     obtain⟨t,ar,ad,e12,hcp,hfo,hft⟩:=QM n _ y12 t12
     simp only[List.cons.injEq,and_true] at e0 e1 e2 e3 e4 e5 e6 e7 e8 e9 e10 e12
     obtain⟨rfl,rfl,rfl,rfl⟩:=e12
     subst e11
     subst e0
     subst e1
     subst e2
     subst e3
     subst e4
     subst e5
     subst e6
     subst e7
     subst e8
     subst e9
     subst e10
     exact⟨a0,a1,a2,a3,a4,a5,a6,a7,a8,a9,a10,sa,ar,ac,ad,vs,t,rfl,⟨hrow,rfl,rfl,hcp,hfo.kept fun q hq=>⟨hq,rfl⟩,⟨hft.1,hft.2.1⟩,hlen11⟩,b0⟩
end
end Go.Proofs.YtoidedomenkbpaaGreat
namespace Go.Proofs.YtoidedomenkbpaaGreat
open Go.RowKit Go.Shelf
open Extern.Stop (cell)
theorem zX {U:World}{g j:Nat}{zs:Array Value}{T:TypeId}{v:Value}(h:U.heap[g]? =some (.cells zs T (0,0)))(hj:zs[j]? =some v):U.setCell ⟨g,j,none⟩ v=U:=by
 have hs:zs.setIfInBounds j v=zs:=by
  apply Array.ext_getElem?
  intro i
  rw[Array.getElem?_setIfInBounds]
  split
  · rename_i e;subst e
    have hlt:=(Array.getElem?_eq_some_iff.1 hj).1
    rw[ipQ hlt,hj]
  · rfl
 have hh:(U.setCell ⟨g,j,none⟩ v).heap=U.heap:=by
  apply Array.ext_getElem?
  intro i
  by_cases e:i=g
  · subst e;rw[hssQ _ _ _ _ _ _ h,hs,h]
  · exact heap_setCell_other _ _ _ _ e
 cases U
 simp only[World.setCell] at hh ⊢
 rw[hh]
theorem QU {P:Program}{fn:Func}{p u v:Tmp}{ty:TypeId}(h:fn.results= #[.cell p ty,.tmp u,.tmp v])(tmps:Array Value)(w:World)(g:Nat)(t:TypeId)(zs:Array Value)(fr:Nat×Nat)(d:TypeDesc)(x y:Value)
 (hp:tmps.getD p undef= .pointer (some ⟨g,0,none⟩)) (hg:w.heap[g]? =some (.cells zs t fr)) (hu:P.underlying ty=some d) (hd:(match d with | .struct _ | .array _ _=>true | _=>false)=true) (hi:(P.info? ty).map (·.size)=some zs.size) (hp2:tmps.getD u undef=x) (hp3:tmps.getD v undef=y):
 (results fn tmps).run P w= .ok (.tuple #[.agg zs,x,y]) w:=by
 have hp' :tmps[p]?.getD undef= .pointer (some ⟨g,0,none⟩):=by simpa using hp
 have hp2' :tmps[u]?.getD undef=x:=by simpa using hp2
 have hp3' :tmps[v]?.getD undef=y:=by simpa using hp3
 simp[results,h,hp',hp2',hp3',asAddr,run_loadVar_row w g t ty zs fr d hg hu hd hi]
theorem zdD (k:Nat)(h:k≤10):zcc (zm k)=(k:Int):=by
 exact sd0
theorem zcK (w:World)(b:Nat)(dv:Value)(own:List UInt8)(k:Nat)(hk:k≤10)(h0:own[0]? =some (zm k))(h:yJ w b dv ⟨own,0,false⟩):
 Calls Tryz.prog 78 #[.pointer (some ⟨b,0,none⟩)] w (fun e w'=>e= .returned (.int .i8 (k:Int))∧yJ w' b dv ⟨own,1,false⟩∧zb w w' (fun q=>q=b)):=
 (zdx w b dv _ h).mono fun e w' ⟨v,h1,h2⟩=>by
   have ho:QR own 0= .ok ((k:Int),1):=by unfold QR;rw[h0];show Except.ok (zcc (zm k),0+1)=_;rw[zdD k hk]
   unfold Jl at h2
   rw[inQ sp1,ho] at h2
   obtain⟨h3,h4,h5⟩:=h2
   exact⟨by rw[h1,h3],h4,h5⟩
theorem zfk (w:World)(a:Option Addr)(cap:Nat)(bs own:List UInt8)(c0 c1 c2 c3 c4 c5 c6 c7 c8 c9 c10 ci ck:Int)(sc cr:Option Addr)(cn cc cm cd:Nat)(cw:ByteArray)(k:Nat)(s:Rd)(hat:zW w a bs)(hl:bs.length≤65536)(hc:bs.length≤cap)(hc2:(cap:Int)≤9223372036854775807)(hok:okN bs=true)(hown:kY bs=own)(hol:own.length≤65536)(h0:own[0]? =some (zm k))(hk1:1≤k)(hk2:k≤10)
 (ho:∀(rb:Nat) (Y:World),Below w.heap.size w Y→Y.heap[w.heap.size]? =some (.cells #[.int .i8 (k:Int),.int .i64 0,.int .i64 0,.int .i64 0,.int .i64 0,.int .i64 0,.int .i64 0,.int .i64 0,.int .i64 0,.int .i64 0,.int .i64 0,.slice none 0 0,.int .i64 0,.int .i64 0,.string ⟨#[]⟩,.slice none 0 0] 37 (0,0))→zb4 w.heap.size rb ⟨own,1,false⟩ Y→w.heap.size<rb→Calls Tryz.prog 56 #[.pointer (some ⟨w.heap.size,0,none⟩),.iface 114 (.agg #[.pointer (some ⟨rb,0,none⟩)])] Y (fun e Z=>e= .returned (.tuple #[])∧zb4 w.heap.size rb s Z∧Z.heap[w.heap.size]? =some (.cells #[.int .i8 c0,.int .i64 c1,.int .i64 c2,.int .i64 c3,.int .i64 c4,.int .i64 c5,.int .i64 c6,.int .i64 c7,.int .i64 c8,.int .i64 c9,.int .i64 c10,.slice sc cn cc,.int .i64 ci,.int .i64 ck,.string cw,.slice cr cm cd] 37 (0,0))∧zb Y Z (fun q=>q=rb∨q=w.heap.size)))
 (he:s.zaV= .tuple #[.int .i64 0,.int .i64 0])
 (hR:∀Y,Below w.heap.size w Y→Calls Tryz.prog 22 #[.agg #[.int .i8 c0,.int .i64 c1,.int .i64 c2,.int .i64 c3,.int .i64 c4,.int .i64 c5,.int .i64 c6,.int .i64 c7,.int .i64 c8,.int .i64 c9,.int .i64 c10,.slice sc cn cc,.int .i64 ci,.int .i64 ck,.string cw,.slice cr cm cd]] Y (zx true Y)):
 Calls Tryz.prog 33 #[.slice a bs.length cap] w (fun e Z=>e= .returned (.tuple #[.agg #[.int .i8 c0,.int .i64 c1,.int .i64 c2,.int .i64 c3,.int .i64 c4,.int .i64 c5,.int .i64 c6,.int .i64 c7,.int .i64 c8,.int .i64 c9,.int .i64 c10,.slice sc cn cc,.int .i64 ci,.int .i64 ck,.string cw,.slice cr cm cd],.int .i64 0,.int .i64 0])∧Below w.heap.size w Z):=by
 obtain⟨B,hB⟩:∃B,B=w.alloc (.cells #[.int .i8 0,.int .i64 0,.int .i64 0,.int .i64 0,.int .i64 0,.int .i64 0,.int .i64 0,.int .i64 0,.int .i64 0,.int .i64 0,.int .i64 0,.slice none 0 0,.int .i64 0,.int .i64 0,.string ⟨#[]⟩,.slice none 0 0] 37):=⟨_,rfl⟩
 have hb:Below w.heap.size w B:=by rw[hB];exact (BrQ _ _).alloc (NlrQ _) _
 have hx:B.heap[w.heap.size]? =some (.cells #[.int .i8 0,.int .i64 0,.int .i64 0,.int .i64 0,.int .i64 0,.int .i64 0,.int .i64 0,.int .i64 0,.int .i64 0,.int .i64 0,.int .i64 0,.slice none 0 0,.int .i64 0,.int .i64 0,.string ⟨#[]⟩,.slice none 0 0] 37 (0,0)):=by rw[hB];exact hanQ _ _
 have HOP:=hH (zff B a cap bs (hat.below hb) om hc hc2)
 have HB:=hH (aN hb (aN hB hx))
 have HO:=hH ho
 have HR:=hH hR
 have HE:=hH he
 have HK:=hH (aN hok (aN hown (aN h0 (aN hk1 (aN hk2 hol)))))
 have hlen:(bs.length:Int)≤65536:=by omega
 obtain⟨n,hn⟩:∃n,n=bs.length:=⟨_,rfl⟩
 rw[←hn] at HOP hlen ⊢
 clear hat hl hc hc2 hok hown hol h0 hk1 hk2 ho he hR hb hB hx hn
 go_enter Tryz.func33,Tryz.ntmps33
 go_upto_region 1 with fail
 change Code.wp _ _ _ _ (w.alloc (.cells #[.int .i8 0,.int .i64 0,.int .i64 0,.int .i64 0,.int .i64 0,.int .i64 0,.int .i64 0,.int .i64 0,.int .i64 0,.int .i64 0,.int .i64 0,.slice none 0 0,.int .i64 0,.int .i64 0,.string ⟨#[]⟩,.slice none 0 0] 37))
 rw[←HB.out.2.1]
 go_wp2_with fail
 refine HOP.out.mono ?_
 rintro e B1 ⟨oa,oc,rfl,h1,h2⟩
 rw[HK.out.1,HK.out.2.1]
 rw[HK.out.2.1] at h1
 have HN:=hH (zdV B1 oa oc own ⟨h1.1,h1.2⟩ (by have:=HK.out.2.2.2.2.2;omega))
 have H1:=hH h2
 clear h1 h2 HOP hlen
 obtain⟨m,hm⟩:∃m,m=own.length:=⟨_,rfl⟩
 rw[←hm] at HN ⊢
 clear hm
 go_wp2_with fail
 refine HN.out.mono ?_
 rintro e B2 ⟨rb,dv,rfl,hr1,hr2,hr3,hr4⟩
 have HS:=hH (zcK B2 rb dv own k HK.out.2.2.2.2.1 HK.out.2.2.1 hr3)
 have hwB:=lohQ HB.out.2.2
 have hb12:=H1.out.trans (hr4.mono H1.out.size)
 have H2:=hH (aN (show w.heap.size<rb by have:=H1.out.size;omega) (aN (fun g hg=>(show g≠w.heap.size by have:=hr2 g hg;have:=H1.out.size;omega)) (aN (HB.out.1.trans (hb12.mono HB.out.1.size)) ((hb12.block _ hwB).trans HB.out.2.2))))
 clear hr1 hr2 hr3 hr4 hwB hb12 HN H1
 go_wp2_with fail
 refine HS.out.mono ?_
 rintro e B3 ⟨rfl,hs1,hs2⟩
 have e3:=(hs2.block _ (lohQ H2.out.2.2.2) (by have:=H2.out.1;omega)).trans H2.out.2.2.2
 have f0:B3.frozen? ⟨w.heap.size,0,none⟩=false:=forQ _ _ 0 _ _ e3
 have k0:B3.cell? ⟨w.heap.size,0,none⟩=some (.int .i8 0):=by rw[corQ _ _ 0 _ _ _ e3];rfl
 have hb3:Below w.heap.size w B3:=⟨hs2.os.trans H2.out.2.2.1.os,hs2.tape.trans H2.out.2.2.1.tape,hs2.output.trans H2.out.2.2.1.output,NltQ H2.out.2.2.1.size hs2.size,fun q hq=>(hs2.block q (nL hq H2.out.2.2.1.size) (by have:=H2.out.1;omega)).trans (H2.out.2.2.1.block q hq)⟩
 obtain⟨X,hX⟩:∃X,X=B3.setCell ⟨w.heap.size,0,none⟩ (.int .i8 (k:Int)):=⟨_,rfl⟩
 have hxs:zb B3 X (fun q=>q=w.heap.size):=by rw[hX];exact zB
 have eX:X.heap[w.heap.size]? =some (.cells #[.int .i8 (k:Int),.int .i64 0,.int .i64 0,.int .i64 0,.int .i64 0,.int .i64 0,.int .i64 0,.int .i64 0,.int .i64 0,.int .i64 0,.int .i64 0,.slice none 0 0,.int .i64 0,.int .i64 0,.string ⟨#[]⟩,.slice none 0 0] 37 (0,0)):=by rw[hX,hssQ _ _ 0 _ _ _ e3];rfl
 have hbX:Below w.heap.size w X:=⟨hxs.os.trans hb3.os,hxs.tape.trans hb3.tape,hxs.output.trans hb3.output,NltQ hb3.size hxs.size,fun q hq=>(hxs.block q (nL hq hb3.size) om).trans (hb3.block q hq)⟩
 have hrX:zb4 w.heap.size rb ⟨own,1,false⟩ X:=⟨dv,hs1.kept hxs (by have:=H2.out.1;omega) (fun g hg=>H2.out.2.1 g hg),by have:=H2.out.1;omega,fun e=>H2.out.2.1 _ e rfl⟩
 have HX:=hH (aN hX (aN eX (aN hbX (aN hrX H2.out.1))))
 clear e3 hb3 hX hxs eX hbX hrX hs1 hs2 HS H2
 go_upto_region 8 with fail
 try change Code.wp _ _ _ _ (B3.setCell ⟨w.heap.size,0,none⟩ (.int .i8 (k:Int)))
 rw[←HX.out.1]
 clear f0 k0
 have k0:X.cell? ⟨w.heap.size,0,none⟩=some (.int .i8 (k:Int)):=by rw[corQ _ _ 0 _ _ _ HX.out.2.1];rfl
 have HI:=hH (kw X (k:Int))
 rw[JD (k:=k) rfl HK.out.2.2.2.1 HK.out.2.2.2.2.1] at HI
 go_wp2_with fail
 refine HI.out.mono ?_
 rintro e X' ⟨rfl,h2⟩
 rw[h2]
 clear h2 X' HI k0
 go_wp2_with fail
 refine (HO.out rb X HX.out.2.2.1 HX.out.2.1 HX.out.2.2.2.1 HX.out.2.2.2.2).mono ?_
 rintro e Z ⟨rfl,hz1,hz2,hz3⟩
 obtain⟨dz,hd1,hd2,hd3⟩:=hz1
 have HEN:=hH (zfS Z rb dz s hd1)
 have HZ:=hH (aN (show Below w.heap.size w Z from⟨hz3.os.trans HX.out.2.2.1.os,hz3.tape.trans HX.out.2.2.1.tape,hz3.output.trans HX.out.2.2.1.output,NltQ HX.out.2.2.1.size hz3.size,fun q hq=>(hz3.block q (nL hq HX.out.2.2.1.size) (by have:=HX.out.2.2.2.2;omega)).trans (HX.out.2.2.1.block q hq)⟩) hz2)
 clear hd1 hd2 hd3 hz2 hz3
 go_wp2_with fail
 refine HEN.out.mono ?_
 rintro e V ⟨v,rfl,rfl,_,ht⟩
 rw[HE.out]
 have eV:=(ht.block _ (lohQ HZ.out.2) (fun h=>h)).trans HZ.out.2
 have HV:=hH (show Below w.heap.size w V from⟨ht.os.trans HZ.out.1.os,ht.tape.trans HZ.out.1.tape,ht.output.trans HZ.out.1.output,NltQ HZ.out.1.size ht.size,fun q hq=>(ht.block q (nL hq HZ.out.1.size) (fun h=>h)).trans (HZ.out.1.block q hq)⟩)
 clear ht
 have c_0:V.cell? ⟨w.heap.size,0,none⟩=some (.int .i8 c0):=by rw[corQ _ _ 0 _ _ _ eV];rfl
 have c_1:V.cell? ⟨w.heap.size,1,none⟩=some (.int .i64 c1):=by rw[corQ _ _ 1 _ _ _ eV];rfl
 have c_2:V.cell? ⟨w.heap.size,2,none⟩=some (.int .i64 c2):=by rw[corQ _ _ 2 _ _ _ eV];rfl
 have c_3:V.cell? ⟨w.heap.size,3,none⟩=some (.int .i64 c3):=by rw[corQ _ _ 3 _ _ _ eV];rfl
 have c_4:V.cell? ⟨w.heap.size,4,none⟩=some (.int .i64 c4):=by rw[corQ _ _ 4 _ _ _ eV];rfl
 have c_5:V.cell? ⟨w.heap.size,5,none⟩=some (.int .i64 c5):=by rw[corQ _ _ 5 _ _ _ eV];rfl
 have c_6:V.cell? ⟨w.heap.size,6,none⟩=some (.int .i64 c6):=by rw[corQ _ _ 6 _ _ _ eV];rfl
 have c_7:V.cell? ⟨w.heap.size,7,none⟩=some (.int .i64 c7):=by rw[corQ _ _ 7 _ _ _ eV];rfl
 have c_8:V.cell? ⟨w.heap.size,8,none⟩=some (.int .i64 c8):=by rw[corQ _ _ 8 _ _ _ eV];rfl
 have c_9:V.cell? ⟨w.heap.size,9,none⟩=some (.int .i64 c9):=by rw[corQ _ _ 9 _ _ _ eV];rfl
 have c_10:V.cell? ⟨w.heap.size,10,none⟩=some (.int .i64 c10):=by rw[corQ _ _ 10 _ _ _ eV];rfl
 have c_11:V.cell? ⟨w.heap.size,11,none⟩=some (.slice sc cn cc):=by rw[corQ _ _ 11 _ _ _ eV];rfl
 have c_12:V.cell? ⟨w.heap.size,12,none⟩=some (.int .i64 ci):=by rw[corQ _ _ 12 _ _ _ eV];rfl
 have c_13:V.cell? ⟨w.heap.size,13,none⟩=some (.int .i64 ck):=by rw[corQ _ _ 13 _ _ _ eV];rfl
 have c_14:V.cell? ⟨w.heap.size,14,none⟩=some (.string cw):=by rw[corQ _ _ 14 _ _ _ eV];rfl
 have c_15:V.cell? ⟨w.heap.size,15,none⟩=some (.slice cr cm cd):=by rw[corQ _ _ 15 _ _ _ eV];rfl
 have HEV:=hH eV
 clear eV
 go_wp2_with fail
 refine (HR.out V HV.out).mono ?_
 rintro e U ⟨rfl,hu⟩
 have eU:=(hu.block _ (lohQ HEV.out)).trans HEV.out
 have HU:=hH (aN (HV.out.trans (hu.mono HV.out.size)) eU)
 clear hu c_0 c_1 c_2 c_3 c_4 c_5 c_6 c_7 c_8 c_9 c_10 c_11 c_12 c_13 c_14 c_15
 have c_0:U.cell? ⟨w.heap.size,0,none⟩=some (.int .i8 c0):=by rw[corQ _ _ 0 _ _ _ eU];rfl
 have c_1:U.cell? ⟨w.heap.size,1,none⟩=some (.int .i64 c1):=by rw[corQ _ _ 1 _ _ _ eU];rfl
 have c_2:U.cell? ⟨w.heap.size,2,none⟩=some (.int .i64 c2):=by rw[corQ _ _ 2 _ _ _ eU];rfl
 have c_3:U.cell? ⟨w.heap.size,3,none⟩=some (.int .i64 c3):=by rw[corQ _ _ 3 _ _ _ eU];rfl
 have c_4:U.cell? ⟨w.heap.size,4,none⟩=some (.int .i64 c4):=by rw[corQ _ _ 4 _ _ _ eU];rfl
 have c_5:U.cell? ⟨w.heap.size,5,none⟩=some (.int .i64 c5):=by rw[corQ _ _ 5 _ _ _ eU];rfl
 have c_6:U.cell? ⟨w.heap.size,6,none⟩=some (.int .i64 c6):=by rw[corQ _ _ 6 _ _ _ eU];rfl
 have c_7:U.cell? ⟨w.heap.size,7,none⟩=some (.int .i64 c7):=by rw[corQ _ _ 7 _ _ _ eU];rfl
 have c_8:U.cell? ⟨w.heap.size,8,none⟩=some (.int .i64 c8):=by rw[corQ _ _ 8 _ _ _ eU];rfl
 have c_9:U.cell? ⟨w.heap.size,9,none⟩=some (.int .i64 c9):=by rw[corQ _ _ 9 _ _ _ eU];rfl
 have c_10:U.cell? ⟨w.heap.size,10,none⟩=some (.int .i64 c10):=by rw[corQ _ _ 10 _ _ _ eU];rfl
 have c_11:U.cell? ⟨w.heap.size,11,none⟩=some (.slice sc cn cc):=by rw[corQ _ _ 11 _ _ _ eU];rfl
 have c_12:U.cell? ⟨w.heap.size,12,none⟩=some (.int .i64 ci):=by rw[corQ _ _ 12 _ _ _ eU];rfl
 have c_13:U.cell? ⟨w.heap.size,13,none⟩=some (.int .i64 ck):=by rw[corQ _ _ 13 _ _ _ eU];rfl
 have c_14:U.cell? ⟨w.heap.size,14,none⟩=some (.string cw):=by rw[corQ _ _ 14 _ _ _ eU];rfl
 have c_15:U.cell? ⟨w.heap.size,15,none⟩=some (.slice cr cm cd):=by rw[corQ _ _ 15 _ _ _ eU];rfl
 have ff:∀j,U.frozen? ⟨w.heap.size,j,none⟩=false:=fun j=>forQ _ _ j _ _ eU
 clear eU
 go_wp2_with fail
 rw[zX (U:=U) (g:=w.heap.size) (j:=0) (v:= .int .i8 c0) HU.out.2 rfl,zX (U:=U) (g:=w.heap.size) (j:=1) (v:= .int .i64 c1) HU.out.2 rfl,zX (U:=U) (g:=w.heap.size) (j:=2) (v:= .int .i64 c2) HU.out.2 rfl,zX (U:=U) (g:=w.heap.size) (j:=3) (v:= .int .i64 c3) HU.out.2 rfl,zX (U:=U) (g:=w.heap.size) (j:=4) (v:= .int .i64 c4) HU.out.2 rfl,zX (U:=U) (g:=w.heap.size) (j:=5) (v:= .int .i64 c5) HU.out.2 rfl,zX (U:=U) (g:=w.heap.size) (j:=6) (v:= .int .i64 c6) HU.out.2 rfl,zX (U:=U) (g:=w.heap.size) (j:=7) (v:= .int .i64 c7) HU.out.2 rfl,zX (U:=U) (g:=w.heap.size) (j:=8) (v:= .int .i64 c8) HU.out.2 rfl,zX (U:=U) (g:=w.heap.size) (j:=9) (v:= .int .i64 c9) HU.out.2 rfl,zX (U:=U) (g:=w.heap.size) (j:=10) (v:= .int .i64 c10) HU.out.2 rfl,zX (U:=U) (g:=w.heap.size) (j:=11) (v:= .slice sc cn cc) HU.out.2 rfl,zX (U:=U) (g:=w.heap.size) (j:=12) (v:= .int .i64 ci) HU.out.2 rfl,zX (U:=U) (g:=w.heap.size) (j:=13) (v:= .int .i64 ck) HU.out.2 rfl,zX (U:=U) (g:=w.heap.size) (j:=14) (v:= .string cw) HU.out.2 rfl,zX (U:=U) (g:=w.heap.size) (j:=15) (v:= .slice cr cm cd) HU.out.2 rfl]
 refine brQ (QU rfl _ _ w.heap.size 37 #[.int .i8 c0,.int .i64 c1,.int .i64 c2,.int .i64 c3,.int .i64 c4,.int .i64 c5,.int .i64 c6,.int .i64 c7,.int .i64 c8,.int .i64 c9,.int .i64 c10,.slice sc cn cc,.int .i64 ci,.int .i64 ck,.string cw,.slice cr cm cd] (0,0) _ (.int .i64 0) (.int .i64 0) rfl HU.out.2 Tryz.underlying37 rfl kr1 rfl rfl) rfl ?_
 exact⟨rfl,HU.out.1⟩
theorem zbG:∀{qs:List (Nat×Int×Int)} {s s' :List UInt8} {cs cs' :Array Value},ve za qs s cs=some (s',cs')→s'.length=s.length+8*qs.length
 | [],s,s',cs,cs',h=>by simp only[ve] at h;cases h;simp
 | q ::r,s,s',cs,cs',h=>by
   simp only[ve,za] at h
   have:=zbG h
   rw[this,LlaQ,zH,LlcQ];omega
theorem QL (bs:List UInt8):okN (zS bs)=true∧kY (zS bs)=bs:=by
 have e:(zS bs).take ((zS bs).length - 4)=bs:=by rw[zQ,Nat.add_sub_cancel,zS,List.take_left]
 have h:okN (zS bs)=true:=by unfold okN;rw[e];simp
 exact⟨h,by unfold kY;rw[ipQ h,e]⟩
theorem zgy {A:World}{B:Nat}{v:Value}{bs:List UInt8}(ho:A.ownsRow B 5 1 v bs.length (bs.map cell))(h0:0<bs.length):∃g cap,v= .slice (some ⟨g,0,none⟩) bs.length cap∧B≤g∧bs.length≤cap∧(cap:Int)≤9223372036854775807∧zW A (some ⟨g,0,none⟩) bs:=by
 have hc:=fun g hg=>World.ownsRowF.cells (World.ownsRowF_of ho) (g:=g) hg
 rcases ho.2 with ⟨hv,hn⟩ | ⟨g,cap,cur,hv,hB,hh,h3,h4,_⟩
 · omega
 · subst hv
   exact⟨g,cap,rfl,hB,h3,by unfold maxLen at h4;omega,fun e=>(by cases e),fun ad e j u hj=>by
    cases e
    exact hc g rfl j _ ub9⟩
def qs9:List (Nat×Int×Int):=[(3,1,1125899906842624),ze 9]
def kZ:List UInt8:=[zm 9]++zq 2++zq 0++zq 1++zq 0
theorem zdi:(zS kZ).length=37:=by rw[zQ];rfl
theorem zex (b wb:Nat)(hne:wb≠b)(j:Nat)(F:FuncId)(q:Nat×Int×Int)(h1:([144,143]:List FuncId)[j]? =some F)(h2:qs9[j]? =some q):kN (σ:=List UInt8) (fun s=>s.length≤1000000000000) (fun s X=>ko b wb s X) (fun q=>q=wb) za b 101 (.pointer (some ⟨wb,0,none⟩)) 9 F q:=
 match j,h1,h2 with
 | 0,h1,h2=>by cases h1;cases h2;exact qZ (Zi b wb hne) 9
 | 1,h1,h2=>by cases h1;cases h2;exact zN (Zi b wb hne) 9
 | j+2,h1,h2=>by simp at h1
theorem zfj (b rb:Nat)(hne:rb≠b)(j:Nat)(F:FuncId)(q:Nat×Int×Int)(h1:([144,143]:List FuncId)[j]? =some F)(h2:qs9[j]? =some q):kN (σ:=Rd) (fun _=>True) (fun s X=>zb4 b rb s X) (fun q=>q=rb) zai b 114 (.agg #[.pointer (some ⟨rb,0,none⟩)]) 9 F q:=
 match j,h1,h2 with
 | 0,h1,h2=>by cases h1;cases h2;exact qZ (Za b rb hne) 9
 | 1,h1,h2=>by cases h1;cases h2;exact zN (Za b rb hne) 9
 | j+2,h1,h2=>by simp at h1
theorem zhg (w:World):Calls Tryz.prog 31 #[.agg #[.int .i8 9,.int .i64 2,.int .i64 0,.int .i64 1,.int .i64 0,.int .i64 0,.int .i64 0,.int .i64 0,.int .i64 0,.int .i64 0,.int .i64 0,.slice none 0 0,.int .i64 0,.int .i64 0,.string ⟨#[]⟩,.slice none 0 0]] w (jV (zS kZ) w):=
 ql w 9 2 0 1 0 0 0 0 0 0 0 0 0 none none 0 0 0 0 ⟨#[]⟩ 9 rfl ue3 kZ ue3 (fun Y _=>zfl Y) fun wb Y hY hx hw hlt=>
  (QN (Zi w.heap.size wb om) 9 9 rfl ue3 ue3 _ rfl qs9 rfl (zex w.heap.size wb om) ue3 [zm 9] Y _ hw hx (QI 9 2 0 1 0 0 0 0 0 0 0) (fun j s' cs' h=>by
    have h2:=zbG h
    have h3:((zt 9::toQ 9::qs9).take j).length≤4:=by rw[List.length_take];exact Nat.min_le_right _ _
    show s'.length≤_
    rw[h2];simp only[LlcQ,List.length_nil];omega)).mono fun e Z h=>by
  rw[show ve za (zt 9::toQ 9::qs9) [zm 9] #[.int .i8 9,.int .i64 2,.int .i64 0,.int .i64 1,.int .i64 0,.int .i64 0,.int .i64 0,.int .i64 0,.int .i64 0,.int .i64 0,.int .i64 0,.slice none 0 0,.int .i64 0,.int .i64 0,.string ⟨#[]⟩,.slice none 0 0]=some (kZ, #[.int .i8 9,.int .i64 2,.int .i64 0,.int .i64 1,.int .i64 0,.int .i64 0,.int .i64 0,.int .i64 0,.int .i64 0,.int .i64 0,.int .i64 0,.slice none 0 0,.int .i64 0,.int .i64 0,.string ⟨#[]⟩,.slice none 0 0]) from rfl] at h
  exact⟨h.1,h.2.1,h.2.2.2⟩
theorem ziE:ve zai (zt 9::toQ 9::qs9) (⟨kZ,1,false⟩:Rd) #[.int .i8 9,.int .i64 0,.int .i64 0,.int .i64 0,.int .i64 0,.int .i64 0,.int .i64 0,.int .i64 0,.int .i64 0,.int .i64 0,.int .i64 0,.slice none 0 0,.int .i64 0,.int .i64 0,.string ⟨#[]⟩,.slice none 0 0]=some ((⟨kZ,33,false⟩:Rd), #[.int .i8 9,.int .i64 2,.int .i64 0,.int .i64 1,.int .i64 0,.int .i64 0,.int .i64 0,.int .i64 0,.int .i64 0,.int .i64 0,.int .i64 0,.slice none 0 0,.int .i64 0,.int .i64 0,.string ⟨#[]⟩,.slice none 0 0]):=by kernel_rfl
theorem zhQ (w:World)(a:Option Addr)(cap:Nat)(hat:zW w a (zS kZ))(hc:37≤cap)(hc2:(cap:Int)≤9223372036854775807):Calls Tryz.prog 33 #[.slice a 37 cap] w (fun e Z=>e= .returned (.tuple #[.agg #[.int .i8 9,.int .i64 2,.int .i64 0,.int .i64 1,.int .i64 0,.int .i64 0,.int .i64 0,.int .i64 0,.int .i64 0,.int .i64 0,.int .i64 0,.slice none 0 0,.int .i64 0,.int .i64 0,.string ⟨#[]⟩,.slice none 0 0],.int .i64 0,.int .i64 0])∧Below w.heap.size w Z):=
 zfk w a cap (zS kZ) kZ 9 2 0 1 0 0 0 0 0 0 0 0 0 none none 0 0 0 0 ⟨#[]⟩ 9 ⟨kZ,33,false⟩ hat (by rw[zQ];decide) (by rw[zQ];exact hc) hc2 (QL _).1 (QL _).2 ue3 rfl ue3 ue3
  (fun rb Y hY hx hr hlt=>(QN (Za w.heap.size rb om) 9 9 rfl ue3 ue3 _ rfl qs9 rfl (zfj w.heap.size rb om) ue3 ⟨kZ,1,false⟩ Y #[.int .i8 9,.int .i64 0,.int .i64 0,.int .i64 0,.int .i64 0,.int .i64 0,.int .i64 0,.int .i64 0,.int .i64 0,.int .i64 0,.int .i64 0,.slice none 0 0,.int .i64 0,.int .i64 0,.string ⟨#[]⟩,.slice none 0 0] hr hx (QI 9 0 0 0 0 0 0 0 0 0 0) (fun _ _ _ _=>trivial)).mono fun e Z h=>by
    rw[ziE] at h
    exact⟨h.1,h.2.1,h.2.2.1,h.2.2.2⟩) rfl (fun Y _=>zfl Y)
theorem zhi (w:World):Calls Tryz.prog 31 #[.agg #[.int .i8 1,.int .i64 0,.int .i64 1,.int .i64 0,.int .i64 1,.int .i64 1,.int .i64 0,.int .i64 0,.int .i64 0,.int .i64 0,.int .i64 0,.slice none 0 0,.int .i64 0,.int .i64 0,.string ⟨#[]⟩,.slice none 0 0]] w (fun e Z=>e= .returned (.tuple #[.slice none 0 0,.int .i64 2])∧Below w.heap.size w Z):=
 qz w 1 0 1 0 1 1 0 0 0 0 0 0 0 none none 0 0 0 0 ⟨#[]⟩ fun Y _=>zhu Y
theorem Q7 (w:World):Calls Tryz.prog 21 #[] w (zx true w):=by
 have H9:=hH zhg
 have H1:=hH zhi
 have HR:=hH zhQ
 go_enter Tryz.func21,Tryz.ntmps21
 go_wp2_with fail
 refine (H9.out _).mono ?_
 rintro e A ⟨v,B,rfl,hB,ho,hb⟩
 have HA:=hH (aN hB (aN ho hb))
 obtain⟨g,cap,rfl,hg,hcap,hcap2,hat⟩:=zgy ho (by rw[zdi];decide)
 rw[zdi] at hcap ⊢
 have HAT:=hH (aN hb (aN hat (aN hcap hcap2)))
 clear hB ho hb hg hat hcap hcap2 HA H9
 go_wp2_with fail
 refine (H1.out _).mono ?_
 rintro e C ⟨rfl,hc⟩
 have HAC:=hH (aN (HAT.out.1.trans (hc.mono HAT.out.1.size)) (HAT.out.2.1.below hc))
 clear hc H1
 go_wp2_with fail
 refine (HR.out C _ cap HAC.out.2 HAT.out.2.2.1 HAT.out.2.2.2).mono ?_
 rintro e D ⟨rfl,hd⟩
 have hDt:=HAC.out.2.below hd
 have b0:D.cell? ⟨g,0,none⟩=some (.int .u8 9):=hDt.2 _ rfl 0 9 rfl
 have b8:D.cell? ⟨g,8,none⟩=some (.int .u8 2):=hDt.2 _ rfl 8 2 rfl
 have HD:=hH (HAC.out.1.trans (hd.mono HAC.out.1.size))
 obtain⟨Y,hY⟩:∃Y,Y=D.alloc (.cells #[.int .i8 9,.int .i64 2,.int .i64 0,.int .i64 1,.int .i64 0,.int .i64 0,.int .i64 0,.int .i64 0,.int .i64 0,.int .i64 0,.int .i64 0,.slice none 0 0,.int .i64 0,.int .i64 0,.string ⟨#[]⟩,.slice none 0 0] 37):=⟨_,rfl⟩
 have hyb:Below D.heap.size D Y:=by rw[hY];exact (BrQ _ _).alloc (NlrQ _) _
 have hyr:Y.heap[D.heap.size]? =some (.cells #[.int .i8 9,.int .i64 2,.int .i64 0,.int .i64 1,.int .i64 0,.int .i64 0,.int .i64 0,.int .i64 0,.int .i64 0,.int .i64 0,.int .i64 0,.slice none 0 0,.int .i64 0,.int .i64 0,.string ⟨#[]⟩,.slice none 0 0] 37 (0,0)):=by rw[hY];exact hanQ _ _
 have gD:g<D.heap.size:=World.block_lt_of_cell? _ _ b0
 have b0:Y.cell? ⟨g,0,none⟩=some (.int .u8 9):=(World.cell?_of_block (hyb.block _ gD)).trans b0
 have b8:Y.cell? ⟨g,8,none⟩=some (.int .u8 2):=(World.cell?_of_block (hyb.block _ gD)).trans b8
 have r1:Y.cell? ⟨D.heap.size,1,none⟩=some (.int .i64 2):=by rw[corQ _ _ 1 _ _ _ hyr];rfl
 have r3:Y.cell? ⟨D.heap.size,3,none⟩=some (.int .i64 1):=by rw[corQ _ _ 3 _ _ _ hyr];rfl
 have HY:=hH (aN hY (HD.out.trans (hyb.mono HD.out.size)))
 clear hd hDt hY hyb hyr gD HAC HAT HR
 go_upto_region 4 with fail
 change Code.wp _ _ _ _ (D.alloc (.cells #[.int .i8 9,.int .i64 2,.int .i64 0,.int .i64 1,.int .i64 0,.int .i64 0,.int .i64 0,.int .i64 0,.int .i64 0,.int .i64 0,.int .i64 0,.slice none 0 0,.int .i64 0,.int .i64 0,.string ⟨#[]⟩,.slice none 0 0] 37))
 rw[←HY.out.1]
 go_wp2_with (go_quiet (fail))
 go_ret
 exact⟨rfl,HY.out.2⟩
def zb9 (o:Option (List UInt8)):List UInt8×Int:=match o with
 | some bs=>(zS bs,0)
 | none=>([],2)
def zcW (p:List UInt8×Int)(w:World)(e:Ending)(Z:World):Prop:=∃a n cap,e= .returned (.tuple #[.slice a n cap,.int .i64 p.2])∧n=p.1.length∧zW Z a p.1∧Below w.heap.size w Z
theorem zgz {o:Option (List UInt8)}{w Z:World}{e:Ending}(h:jd o w e Z):zcW (zb9 o) w e Z:=by
 cases o with
 | none=>exact⟨none,0,0,h.1,rfl,zW.nil _ _,h.2⟩
 | some bs=>
   obtain⟨v,B,h1,h2,h3,h4⟩:=h
   have hsl:0<(zS bs).length:=by rw[zQ];omega
   obtain⟨g,cap,rfl,hat⟩:=qR h3 hsl
   exact⟨_,_,cap,h1,rfl,hat,h4⟩
theorem zgA {o:Option (List UInt8)}{w Z:World}{e:Ending}(h:je o w e Z):zcW (zb9 o) w e Z:=by
 cases o with
 | none=>exact⟨none,0,0,h.1,rfl,zW.nil _ _,h.2⟩
 | some bs=>
   obtain⟨a,n,cap,h1,h2,h3,h4⟩:=h
   exact⟨a,n,cap,h1,h2,h3,h4⟩
theorem zck (w:World)(s:ByteArray):(binOp .eql 9 (.string s) (.string s)).run Tryz.prog w= .ok (.bool true) w:=by
 go_simp
theorem Ji (w:World)(a0 a1 a2 a3 a4 a5 a6 a7 a8 a9 a10:Int)(sa ar:Option Addr)(an ac am ad:Nat)(vs:List SV)(t:Tr)(h:JW w sa ar an am ad vs t):
 Calls Tryz.prog 6 #[.agg #[.int .i8 a0,.int .i64 a1,.int .i64 a2,.int .i64 a3,.int .i64 a4,.int .i64 a5,.int .i64 a6,.int .i64 a7,.int .i64 a8,.int .i64 a9,.int .i64 a10,.slice sa an ac,.int .i64 t.id,.int .i64 t.kind,.string t.text,.slice ar am ad]] w (zx true w):=by
 obtain⟨B,hB⟩:∃B,B=w.alloc (.cells #[.int .i8 a0,.int .i64 a1,.int .i64 a2,.int .i64 a3,.int .i64 a4,.int .i64 a5,.int .i64 a6,.int .i64 a7,.int .i64 a8,.int .i64 a9,.int .i64 a10,.slice sa an ac,.int .i64 t.id,.int .i64 t.kind,.string t.text,.slice ar am ad] 37):=⟨_,rfl⟩
 have hb:Below w.heap.size w B:=by rw[hB];exact (BrQ _ _).alloc (NlrQ _) _
 have e0:B.heap[w.heap.size]? =some (.cells #[.int .i8 a0,.int .i64 a1,.int .i64 a2,.int .i64 a3,.int .i64 a4,.int .i64 a5,.int .i64 a6,.int .i64 a7,.int .i64 a8,.int .i64 a9,.int .i64 a10,.slice sa an ac,.int .i64 t.id,.int .i64 t.kind,.string t.text,.slice ar am ad] 37 (0,0)):=by rw[hB];exact hanQ _ _
 have HA:=hH (fun (Y:World) (h:Below B.heap.size B Y)=>(show Y.cell? ⟨w.heap.size,0,none⟩=some (.int .i8 a0)∧Y.cell? ⟨w.heap.size,1,none⟩=some (.int .i64 a1)∧Y.cell? ⟨w.heap.size,2,none⟩=some (.int .i64 a2)∧Y.cell? ⟨w.heap.size,3,none⟩=some (.int .i64 a3)∧Y.cell? ⟨w.heap.size,4,none⟩=some (.int .i64 a4)∧Y.cell? ⟨w.heap.size,5,none⟩=some (.int .i64 a5)∧Y.cell? ⟨w.heap.size,6,none⟩=some (.int .i64 a6)∧Y.cell? ⟨w.heap.size,7,none⟩=some (.int .i64 a7)∧Y.cell? ⟨w.heap.size,8,none⟩=some (.int .i64 a8)∧Y.cell? ⟨w.heap.size,9,none⟩=some (.int .i64 a9)∧Y.cell? ⟨w.heap.size,10,none⟩=some (.int .i64 a10)∧Y.cell? ⟨w.heap.size,11,none⟩=some (.slice sa an ac)∧Y.cell? ⟨w.heap.size,12,none⟩=some (.int .i64 t.id)∧Y.cell? ⟨w.heap.size,13,none⟩=some (.int .i64 t.kind)∧Y.cell? ⟨w.heap.size,14,none⟩=some (.string t.text)∧Y.cell? ⟨w.heap.size,15,none⟩=some (.slice ar am ad) by
  have e:=(h.block _ (lohQ e0)).trans e0
  exact⟨by rw[corQ _ _ 0 _ _ _ e];rfl,by rw[corQ _ _ 1 _ _ _ e];rfl,by rw[corQ _ _ 2 _ _ _ e];rfl,by rw[corQ _ _ 3 _ _ _ e];rfl,by rw[corQ _ _ 4 _ _ _ e];rfl,by rw[corQ _ _ 5 _ _ _ e];rfl,by rw[corQ _ _ 6 _ _ _ e];rfl,by rw[corQ _ _ 7 _ _ _ e];rfl,by rw[corQ _ _ 8 _ _ _ e];rfl,by rw[corQ _ _ 9 _ _ _ e];rfl,by rw[corQ _ _ 10 _ _ _ e];rfl,by rw[corQ _ _ 11 _ _ _ e];rfl,by rw[corQ _ _ 12 _ _ _ e];rfl,by rw[corQ _ _ 13 _ _ _ e];rfl,by rw[corQ _ _ 14 _ _ _ e];rfl,by rw[corQ _ _ 15 _ _ _ e];rfl⟩))
 have HB:=hH (aN hb hB)
 have HM:=hH (fun (Y:World) (hY:Below B.heap.size B Y)=>h.on (hb.trans (hY.mono hb.size)))
 have HG:=hH (zcq B a0 a1 a2 a3 a4 a5 a6 a7 a8 a9 a10 sa ar an ac am ad vs t (h.on hb))
 obtain⟨o,ho⟩:=zcd a0 a1 a2 a3 a4 a5 a6 a7 a8 a9 a10 sa ar an ac am ad vs t
 obtain⟨p,hp⟩:∃p,p=zb9 o:=⟨_,rfl⟩
 have HP:=hH (fun (hz:JZ vs t) (Y:World) (hY:Below B.heap.size B Y)=>(show Calls Tryz.prog 31 #[.agg #[.int .i8 a0,.int .i64 a1,.int .i64 a2,.int .i64 a3,.int .i64 a4,.int .i64 a5,.int .i64 a6,.int .i64 a7,.int .i64 a8,.int .i64 a9,.int .i64 a10,.slice sa an ac,.int .i64 t.id,.int .i64 t.kind,.string t.text,.slice ar am ad]] Y (zcW p Y) from ((ho Y ((HM.out Y hY).at hz)).1).mono fun e Z hh=>by rw[hp];exact zgz hh))
 have HR:=hH (fun (hz:JZ vs t) (Y:World) (hY:Below B.heap.size B Y)=>(show Calls Tryz.prog 32 #[.agg #[.int .i8 a0,.int .i64 a1,.int .i64 a2,.int .i64 a3,.int .i64 a4,.int .i64 a5,.int .i64 a6,.int .i64 a7,.int .i64 a8,.int .i64 a9,.int .i64 a10,.slice sa an ac,.int .i64 t.id,.int .i64 t.kind,.string t.text,.slice ar am ad]] Y (zcW p Y) from ((ho Y ((HM.out Y hY).at hz)).2).mono fun e Z hh=>by rw[hp];exact zgA hh))
 obtain⟨bs,er⟩:=p
 clear hp ho h hb hB e0
 go_enter Tryz.func6,Tryz.ntmps6
 go_upto_region 1 with fail
 change Code.wp _ _ _ _ (w.alloc (.cells #[.int .i8 a0,.int .i64 a1,.int .i64 a2,.int .i64 a3,.int .i64 a4,.int .i64 a5,.int .i64 a6,.int .i64 a7,.int .i64 a8,.int .i64 a9,.int .i64 a10,.slice sa an ac,.int .i64 t.id,.int .i64 t.kind,.string t.text,.slice ar am ad] 37))
 rw[←HB.out.2]
 obtain⟨p0,p1,p2,p3,p4,p5,p6,p7,p8,p9,p10,p11,p12,p13,p14,p15⟩:=HA.out B (BrQ _ _)
 go_wp2_with fail
 refine HG.out.mono ?_
 rintro e w1 ⟨g1,rfl,hg1,hz1⟩
 have H1:=hH hz1
 clear hz1 HG p0 p1 p2 p3 p4 p5 p6 p7 p8 p9 p10 p11 p12 p13 p14 p15
 cases g1
 · have HZ:=hH (hg1 rfl)
   clear hg1
   as_aux_lemma=>
    obtain⟨p0,p1,p2,p3,p4,p5,p6,p7,p8,p9,p10,p11,p12,p13,p14,p15⟩:=HA.out w1 H1.out
    go_wp2_with fail
    refine (HP.out HZ.out w1 H1.out).mono ?_
    rintro e w2 ⟨xa,xn,xc,rfl,hxn,hxa,hb2⟩
    have H2:=hH (aN (H1.out.trans (hb2.mono H1.out.size)) hxa)
    have HN:=hH hxn
    clear hxn hxa hb2 HP p0 p1 p2 p3 p4 p5 p6 p7 p8 p9 p10 p11 p12 p13 p14 p15
    obtain⟨p0,p1,p2,p3,p4,p5,p6,p7,p8,p9,p10,p11,p12,p13,p14,p15⟩:=HA.out w2 H2.out.1
    go_wp2_with fail
    refine (HR.out HZ.out w2 H2.out.1).mono ?_
    rintro e w3 ⟨ya,yn,yc,rfl,hyn,hya,hb3⟩
    have t1:=(H2.out.2.below hb3).text xc
    have t2:=hya.text yc
    have H3:=hH (H2.out.1.trans (hb3.mono H2.out.1.size))
    try simp only at hyn
    try simp only at t1
    try simp only at t2
    have HN1:=HN.out
    try simp only at HN1
    rw[←HN1] at t1
    rw[←hyn] at t2
    have hse:=zck w3 ⟨bs.toArray⟩
    clear hyn hya hb3 HR H2 HN1 HN p0 p1 p2 p3 p4 p5 p6 p7 p8 p9 p10 p11 p12 p13 p14 p15
    go_wp2_with fail
    refine (Q7 _).mono ?_
    rintro e w4 ⟨rfl,hb4⟩
    have H4:=hH (H3.out.trans (hb4.mono H3.out.size))
    clear hb4 t1 t2 hse
    go_wp2_with fail
    go_ret
    exact⟨rfl,HB.out.1.trans (H4.out.mono HB.out.1.size)⟩
 · clear hg1
   as_aux_lemma=>
    go_wp2_with fail
    refine (Q7 _).mono ?_
    rintro e w2 ⟨rfl,hb2⟩
    have H2:=hH (H1.out.trans (hb2.mono H1.out.size))
    clear hb2
    go_wp2_with fail
    go_ret
    exact⟨rfl,HB.out.1.trans (H2.out.mono HB.out.1.size)⟩
end Go.Proofs.YtoidedomenkbpaaGreat
namespace Go.Proofs.YtoidedomenkbpaaGreat
open Go.RowKit Go.Shelf
theorem wireBytes_fr (w:World)(a0 a1 a2 a3 a4 a5 a6 a7 a8 a9 a10:Int)(sa ar:Option Addr)(ac ad:Nat)(vs:List SV)(t:Tr)(h:JW w sa ar vs.length (foLen t.kids) ad vs t)(hw:(Lit.int .i8 a0).wf=true):
 Calls Tryz.prog 6 #[.agg #[.int .i8 a0,.int .i64 a1,.int .i64 a2,.int .i64 a3,.int .i64 a4,.int .i64 a5,.int .i64 a6,.int .i64 a7,.int .i64 a8,.int .i64 a9,.int .i64 a10,.slice sa vs.length ac,.int .i64 t.id,.int .i64 t.kind,.string t.text,.slice ar (foLen t.kids) ad]] w (zx true w):=
 Ji w a0 a1 a2 a3 a4 a5 a6 a7 a8 a9 a10 sa ar vs.length ac (foLen t.kids) ad vs t h
end Go.Proofs.YtoidedomenkbpaaGreat
