/-
  .
-/
import Derived.Test.YtgkmmnihaiopaaaGreatJPgQu
import Derived.Test.YtgkmmnihaiopaaaGreatVFaultQu
import Derived.Test.YtgkmmnihaiopaaaGreatKFreshQu
import Derived.Test.YtgkmmnihaiopaaaGreatKPlacePQu
import Derived.ProofKit
import Derived.OpenShut
import Derived.Deep.Slices
import Derived.Deep.Strs
import Derived.Lib.SmallJoins
import Derived.Laws.BytesArg
import Derived.Test.YtgkmmnihaiopaaaGreatGGreatQu
import Derived.Test.YtgkmmnihaiopaaaGreatRCheck11Qu
import Derived.Test.YtgkmmnihaiopaaaGreatWLawOQu
import Derived.Test.YtgkmmnihaiopaaaGreatJPsQu
set_option maxRecDepth 100000
set_option maxHeartbeats 40000000
set_option linter.unusedVariables false
namespace Go.Proofs.YtgkmmnihaiopaaaGreat
open Go.ChangeShapes Go.WideShapes Go.ChangeAt Go.RowKit
open Extern.Stop (cell)
theorem zev {w:World} {a:Addr} {v:Value} (h:w.cell? a=some v):a.block<w.heap.size:=block_lt_of_cell h
theorem Jv (a:Addr) (j:Nat):(a.add j).block=a.block:=by unfold Addr.add;split<;>rfl
def zbA:List Tr→Fo
 | []=> .nil
 | t::l=> .node 0 0 (t.id,t.kind,t.text) t.kids (zbA l)
theorem zcu:∀l:List Tr,foLen (zbA l)=l.length
 | []=>rfl
 | _::l=>by simp[zbA,foLen,zcu l]
theorem zct:∀l:List Tr,(∀t∈l,foLen t.kids≤9223372036854775807∧qD t.kids)→qD (zbA l)
 | [],_=>True.intro
 | t::l,h=>⟨(h t (List.mem_cons_self ..)).1,(h t (List.mem_cons_self ..)).2,zct l fun u hu=>h u (List.mem_cons_of_mem _ hu)⟩
theorem zez {w:World} {S:Nat→Prop} {b:Nat} (hb:S b):∀(l:List Tr) (off:Nat),(∀i t,l[i]? =some t→∃ka cap,w.cell? ⟨b,off+i*4,none⟩=some (.int .i64 t.id)∧w.cell? ⟨b,off+i*4+1,none⟩=some (.int .i64 t.kind)∧
 w.cell? ⟨b,off+i*4+2,none⟩=some (.string t.text)∧w.cell? ⟨b,off+i*4+3,none⟩=some (.slice ka (foLen t.kids) cap)∧foLen t.kids≤cap∧zu w S t.kids ka)→zu w S (zbA l) (some ⟨b,off,none⟩)
 | [],_,_=>True.intro
 | t ::l,off,h=>by
   obtain⟨ka,cap,h0,h1,h2,h3,hcp,hf⟩:=h 0 t rfl
   refine⟨b,off,ka,cap,rfl,hb,by simpa using h0,by simpa using h1,by simpa using h2,by simpa using h3,hcp,hf,zez hb l (off+4) fun i u hu=>?_⟩
   obtain⟨ka,cap,h0,h1,h2,h3,hcp,hf⟩:=h (i+1) u (by simpa using hu)
   rw[show off+(i+1)*4=off+4+i*4 by omega] at h0 h1 h2 h3
   exact⟨ka,cap,h0,h1,h2,h3,hcp,hf⟩
def Old (w:World):Nat→Prop:=fun k=>k<w.heap.size
def zeI (k:Int×Int×ByteArray):Prop:=(k.2.2.size:Int)≤9223372036854775807∧(Lit.int .i64 k.1).wf=true
def zfF:Fo→Prop
 | .nil=>True
 | .node _ _ k l r=>zeI k∧zfF l∧zfF r
theorem zbP:∀(d:Nat) (f:Fo),zfF f→okF (spF d f)
 | _,.nil,_=>fun x hx=>by cases hx
 | d,.node _ _ k l r,h=>fun x hx=>by
   simp only[spF,List.mem_cons,List.mem_append] at hx
   rcases hx with rfl | hx | hx
   · exact h.1
   · exact zbP (d+1) l h.2.1 x hx
   · exact zbP d r h.2.2 x hx
def Fits (t:Tr):Prop:=foLen t.kids≤9223372036854775807∧qD t.kids∧zeI (t.id,t.kind,t.text)∧zfF t.kids
theorem zeH:∀l:List Tr,(∀t∈l,zeI (t.id,t.kind,t.text)∧zfF t.kids)→zfF (zbA l)
 | [],_=>True.intro
 | t::l,h=>⟨(h t (List.mem_cons_self ..)).1,(h t (List.mem_cons_self ..)).2,zeH l fun u hu=>h u (List.mem_cons_of_mem _ hu)⟩
section
variable {H:Type} {enc:TypeId×Value→H} {w:World} {base:Nat} {spare:Nat→Bool} {held:Bool}
theorem open_node7:∀(fuel:Nat) (cs:List Value) (x:DataW H×List MemPlace),DataW.trod enc Tryz.prog w base spare held fuel 27 cs=some x→
 ∃(t:Tr) (ka:Option Addr) (cap:Nat),cs= [.int .i64 t.id,.int .i64 t.kind,.string t.text,.slice ka (foLen t.kids) cap]∧foLen t.kids≤cap∧zu w (Old w) t.kids ka∧Fits t:=by
 intro fuel
 induction fuel using Nat.strongRecOn with
 | ind fuel ih =>
   intro cs x h
   obtain⟨xs,n,hn,_,hl,hlen,hf⟩:=DataW.trod_struct Tryz.underlying27 h
   have h4:Tryz.prog.cellsOf 27=4:=by kernel_rfl
   rw[h4] at hl
   match cs,hl with
   | [c0, c1, c2,c3],_=>
     have k1:Tryz.prog.cellsOf 3=1:=by kernel_rfl
     have k2:Tryz.prog.cellsOf 9=1:=by kernel_rfl
     have k3:Tryz.prog.cellsOf 25=1:=by kernel_rfl
     match xs,hlen with
     | [y0, y1,y2,y3],_=>
       have t0:DataW.trod enc Tryz.prog w base spare held n 3 (([c0,c1,c2,c3].drop 0).take (Tryz.prog.cellsOf 3))=some y0:=hf 0 _ rfl
       have t1:DataW.trod enc Tryz.prog w base spare held n 3 (([c0,c1,c2,c3].drop 1).take (Tryz.prog.cellsOf 3))=some y1:=hf 1 _ rfl
       have t2:DataW.trod enc Tryz.prog w base spare held n 9 (([c0,c1,c2,c3].drop 2).take (Tryz.prog.cellsOf 9))=some y2:=hf 2 _ rfl
       have t3:DataW.trod enc Tryz.prog w base spare held n 25 (([c0,c1,c2,c3].drop 3).take (Tryz.prog.cellsOf 25))=some y3:=hf 3 _ rfl
       simp only[k1,k2,k3,List.drop_zero,List.take_succ_cons,List.take_zero,List.drop_succ_cons] at t0 t1 t2 t3
       obtain⟨id,e0,_,wf0⟩:=DataW.trod_int Tryz.underlying3 t0
       obtain⟨kd,e1,_,_⟩:=DataW.trod_int Tryz.underlying3 t1
       obtain⟨tx,e2,_,hsz⟩:=DataW.trod_string Tryz.underlying9 t2
       have hkey:zeI (id,kd,tx):=⟨by show (tx.size:Int)≤_;unfold maxLen at hsz;omega,wf0⟩
       simp only[List.cons.injEq,and_true] at e0 e1 e2
       subst e0;subst e1;subst e2
       rcases DataW.trod_slice Tryz.underlying25 t3 with ⟨e3,_⟩ | ⟨ad,len,cap,elems,rest,m,hm,e3,_,_,hlc,hcm,_,hi,_⟩
       · simp only[List.cons.injEq,and_true] at e3
         subst e3
         exact⟨⟨id,kd,tx,.nil⟩,none,0,rfl,Nat.le_refl _,True.intro,Nat.zero_le _,True.intro,hkey,True.intro⟩
       · simp only[List.cons.injEq,and_true] at e3
         subst e3
         rw[h4] at hi
         have each:∀i,i<len→∃(u:Tr),∃(ka:Option Addr) (kcap:Nat),w.cell? (ad.add (i*4))=some (.int .i64 u.id)∧w.cell? (ad.add (i*4+1))=some (.int .i64 u.kind)∧w.cell? (ad.add (i*4+2))=some (.string u.text)∧
          w.cell? (ad.add (i*4+3))=some (.slice ka (foLen u.kids) kcap)∧foLen u.kids≤kcap∧zu w (Old w) u.kids ka∧Fits u:=fun i hil=>by
          have h1:=hi i hil
          obtain⟨y,hy⟩:∃y,elems[i]? =some y:=⟨elems[i]'om,List.getElem?_eq_getElem _⟩
          rw[hy,Option.bind_eq_some_iff] at h1
          obtain⟨cs',hc,ht⟩:=h1
          obtain⟨_,_,hat⟩:=World.cells?_some hc
          obtain⟨u,ka,kcap,rfl,hcp,hfo,hft⟩:=ih m om cs' y ht
          have a0:=hat 0 om
          have a1:=hat 1 om
          have a2:=hat 2 om
          have a3:=hat 3 om
          rw[Deep.add_add] at a0 a1 a2 a3
          exact⟨u,ka,kcap,a0,a1,a2,a3,hcp,hfo,hft⟩
         obtain⟨f,hff⟩:=Deep.choose_lt each
         have hls:foLen (zbA ((List.range len).map f))=len:=by rw[zcu];simp
         refine⟨⟨id,kd,tx,zbA ((List.range len).map f)⟩,some ad,cap,by rw[hls],by rw[hls];exact hlc,?_,?_,?_,hkey,?_⟩
         · cases hl0:len with
           | zero=>exact True.intro
           | succ len'=>
             rw[←hl0]
             obtain⟨b,off,spot⟩:=ad
             obtain⟨_,_,hz,_⟩:=hff 0 om
             have hsp:spot=none:=by simpa [Addr.add] using World.cell?_spot hz
             subst hsp
             have hlt:=zev hz
             rw[Jv] at hlt
             refine zez (show Old w b from hlt) _ off fun i u hu=>?_
             rw[List.getElem?_map,Option.map_eq_some_iff] at hu
             obtain⟨j,hj,rfl⟩:=hu
             obtain⟨hlt',rfl⟩:=List.getElem?_eq_some_iff.1 hj
             simp only[List.length_range] at hlt'
             simp only[List.getElem_range]
             obtain⟨ka,kcap,h0,h1,h2,h3,hcp,hfo,_⟩:=hff i hlt'
             rw[Addr.add_mid] at h0 h1 h2 h3
             exact⟨ka,kcap,h0,by rw[Nat.add_assoc];exact h1,by rw[Nat.add_assoc];exact h2,by rw[Nat.add_assoc];exact h3,hcp,hfo⟩
         · show foLen (zbA ((List.range len).map f))≤_
           rw[hls];unfold maxLen at hcm;omega
         · refine zct _ fun u hu=>?_
           simp only[List.mem_map,List.mem_range] at hu
           obtain⟨i,hil,rfl⟩:=hu
           obtain⟨_,_,_,_,_,_,_,_,hft⟩:=hff i hil
           exact⟨hft.1,hft.2.1⟩
         · refine zeH _ fun u hu=>?_
           simp only[List.mem_map,List.mem_range] at hu
           obtain⟨i,hil,rfl⟩:=hu
           obtain⟨_,_,_,_,_,_,_,_,hft⟩:=hff i hil
           exact hft.2.2
theorem zd7 (fuel:Nat) (cs:List Value) (x:DataW H×List MemPlace) (h:DataW.trod enc Tryz.prog w base spare held fuel 44 cs=some x):
 ∃(op id par at_:Int) (tx:ByteArray) (u:Tr) (ka:Option Addr) (cap:Nat),cs= [.int .i8 op,.int .i64 id,.int .i64 par,.int .i64 at_,.string tx,.int .i64 u.id,.int .i64 u.kind,.string u.text,.slice ka (foLen u.kids) cap]∧foLen u.kids≤cap∧zu w (Old w) u.kids ka∧Fits u∧((Lit.int .i8 op).wf=true∧(Lit.int .i64 id).wf=true∧(Lit.int .i64 par).wf=true∧(Lit.int .i64 at_).wf=true)∧(tx.size:Int)≤9223372036854775807:=by
 obtain⟨xs,n,_,_,hl,hlen,hf⟩:=DataW.trod_struct Tryz.underlying44 h
 have h9:Tryz.prog.cellsOf 44=9:=by kernel_rfl
 rw[h9] at hl
 match cs,hl with
 | [c0,c1,c2,c3,c4,c5,c6,c7,c8],_=>
   have k1:Tryz.prog.cellsOf 3=1:=by kernel_rfl
   have k2:Tryz.prog.cellsOf 9=1:=by kernel_rfl
   have k3:Tryz.prog.cellsOf 27=4:=by kernel_rfl
   have k4:Tryz.prog.cellsOf 42=1:=by kernel_rfl
   match xs,hlen with
   | [y0,y1,y2,y3,y4,y5],_=>
     have t0:DataW.trod enc Tryz.prog w base spare held n 42 (([c0,c1,c2,c3,c4,c5,c6,c7,c8].drop 0).take (Tryz.prog.cellsOf 42))=some y0:=hf 0 _ rfl
     have t1:DataW.trod enc Tryz.prog w base spare held n 3 (([c0,c1,c2,c3,c4,c5,c6,c7,c8].drop 1).take (Tryz.prog.cellsOf 3))=some y1:=hf 1 _ rfl
     have t2:DataW.trod enc Tryz.prog w base spare held n 3 (([c0,c1,c2,c3,c4,c5,c6,c7,c8].drop 2).take (Tryz.prog.cellsOf 3))=some y2:=hf 2 _ rfl
     have t3:DataW.trod enc Tryz.prog w base spare held n 3 (([c0,c1,c2,c3,c4,c5,c6,c7,c8].drop 3).take (Tryz.prog.cellsOf 3))=some y3:=hf 3 _ rfl
     have t4:DataW.trod enc Tryz.prog w base spare held n 9 (([c0,c1,c2,c3,c4,c5,c6,c7,c8].drop 4).take (Tryz.prog.cellsOf 9))=some y4:=hf 4 _ rfl
     have t5:DataW.trod enc Tryz.prog w base spare held n 27 (([c0,c1,c2,c3,c4,c5,c6,c7,c8].drop 5).take (Tryz.prog.cellsOf 27))=some y5:=hf 5 _ rfl
     simp only[k1,k2,k3,k4,List.drop_zero,List.take_succ_cons,List.take_zero,List.drop_succ_cons] at t0 t1 t2 t3 t4 t5
     obtain⟨op,e0,_,b0⟩:=DataW.trod_int Tryz.underlying42 t0
     obtain⟨id,e1,_,b1⟩:=DataW.trod_int Tryz.underlying3 t1
     obtain⟨pa,e2,_,b2⟩:=DataW.trod_int Tryz.underlying3 t2
     obtain⟨pl,e3,_,b3⟩:=DataW.trod_int Tryz.underlying3 t3
     obtain⟨tx,e4,_,b4⟩:=DataW.trod_string Tryz.underlying9 t4
     obtain⟨u,ka,cap,e5,hcp,hfo,hft⟩:=open_node7 n _ y5 t5
     simp only[List.cons.injEq,and_true] at e0 e1 e2 e3 e4 e5
     obtain⟨rfl,rfl,rfl,rfl⟩:=e5
     subst e0;subst e1;subst e2;subst e3;subst e4
     exact⟨op,id,pa,pl,tx,u,ka,cap,rfl,hcp,hfo,hft,⟨b0,b1,b2,b3⟩,by unfold maxLen at b4;omega⟩
end
end Go.Proofs.YtgkmmnihaiopaaaGreat
namespace Go.Proofs.YtgkmmnihaiopaaaGreat
open Go.ChangeShapes Go.WideShapes Go.ChangeAt Go.RowKit
section
variable {H:Type} {enc:TypeId×Value→H} {w:World} {base:Nat} {spare:Nat→Bool} {held:Bool}
theorem add_block (a:Addr) (j:Nat):(a.add j).block=a.block:=by unfold Addr.add;split<;>rfl
theorem zd6 {fuel:Nat} {v:Value} {x:DataW H×List MemPlace} (h:DataW.trod enc Tryz.prog w base spare held fuel 53 [v]=some x):
 ∃(l:List Int) (a:Option Addr) (cap:Nat),v= .slice a l.length cap∧qw w a l∧(l.length:Int)≤9223372036854775807:=by
 rcases Deep.open_slice Tryz.underlying53 h with ⟨hcs,_⟩ | ⟨ad,len,cap,m,n,D,Pl,hcs,_,hl,hm,hmm,_,hi⟩
 · simp only[List.cons.injEq,and_true] at hcs
   subst hcs
   exact⟨[],none,0,rfl,fun h=>by simp at h,by simp⟩
 · simp only[List.cons.injEq,and_true] at hcs
   subst hcs
   have hle:len≤m:=by rw[hmm];split<;>omega
   have each:∀i,i<len→∃x:Int,w.cell? (ad.add i)=some (.int .i64 x):=fun i hil=>by
    obtain⟨cs',hc,ht⟩:=hi i om
    have h3:Tryz.prog.cellsOf 3=1:=by kernel_rfl
    rw[h3,Nat.mul_one] at hc
    obtain⟨_,hcl,hat⟩:=World.cells?_some hc
    match cs',hcl with
    | [c0],_=>
      obtain⟨x0,e0,_,_⟩:=DataW.trod_int Tryz.underlying3 ht
      have a0:=hat 0 om
      rw[Deep.add_add] at a0
      simp only[List.cons.injEq,and_true] at e0
      subst e0
      exact⟨x0,by simpa using a0⟩
   obtain⟨f,hf⟩:=Deep.choose_lt each
   refine⟨(List.range len).map f,some ad,cap,by simp,fun h0=>?_,by simp only[List.length_map,List.length_range];unfold maxLen at hm;omega⟩
   have h0' :0<len:=by simpa using h0
   obtain⟨b,off,spot⟩:=ad
   have hsp:=World.cell?_spot (hf 0 h0')
   have:spot=none:=by simpa [Addr.add] using hsp
   subst this
   have hlt:=World.block_lt_of_cell? w _ (hf 0 h0')
   rw[Addr.add_mid] at hlt
   refine⟨b,off,rfl,hlt,fun i x hi=>?_⟩
   rw[List.getElem?_map,Option.map_eq_some_iff] at hi
   obtain⟨j,hj,rfl⟩:=hi
   obtain⟨hlt,rfl⟩:=List.getElem?_eq_some_iff.1 hj
   simp only[List.length_range] at hlt
   simp only[List.getElem_range]
   have h1:=hf i hlt
   rw[Addr.add_mid] at h1
   exact h1
theorem zfH (fuel:Nat) (cs:List Value) (x:DataW H×List MemPlace) (h:DataW.trod enc Tryz.prog w base spare held fuel 55 cs=some x):
 ∃(s:Sl) (ka:Option Addr) (kc:Nat),cs= [.slice ka s.kinds.length kc,.int .i64 s.least,.int .i64 s.most]∧qw w ka s.kinds∧s.fits:=by
 obtain⟨xs,n,_,_,hl,hlen,hf⟩:=DataW.trod_struct Tryz.underlying55 h
 have h3:Tryz.prog.cellsOf 55=3:=by kernel_rfl
 rw[h3] at hl
 match cs,hl with
 | [c0,c1,c2],_=>
   have k1:Tryz.prog.cellsOf 3=1:=by kernel_rfl
   have k2:Tryz.prog.cellsOf 53=1:=by kernel_rfl
   match xs,hlen with
   | [y0,y1,y2],_=>
     have t0:DataW.trod enc Tryz.prog w base spare held n 53 (([c0,c1,c2].drop 0).take (Tryz.prog.cellsOf 53))=some y0:=hf 0 _ rfl
     have t1:DataW.trod enc Tryz.prog w base spare held n 3 (([c0,c1,c2].drop 1).take (Tryz.prog.cellsOf 3))=some y1:=hf 1 _ rfl
     have t2:DataW.trod enc Tryz.prog w base spare held n 3 (([c0,c1,c2].drop 2).take (Tryz.prog.cellsOf 3))=some y2:=hf 2 _ rfl
     simp only[k1,k2,List.drop_zero,List.take_succ_cons,List.take_zero,List.drop_succ_cons] at t0 t1 t2
     obtain⟨l,ka,kc,rfl,hi,hle⟩:=zd6 t0
     obtain⟨lo,e1,_,_⟩:=DataW.trod_int Tryz.underlying3 t1
     obtain⟨hi2,e2,_,_⟩:=DataW.trod_int Tryz.underlying3 t2
     simp only[List.cons.injEq,and_true] at e1 e2
     subst e1;subst e2
     exact⟨⟨l,lo,hi2⟩,ka,kc,rfl,hi,hle⟩
theorem zcY {fuel:Nat} {v:Value} {x:DataW H×List MemPlace} (h:DataW.trod enc Tryz.prog w base spare held fuel 50 [v]=some x):
 ∃(l:List Sl) (a:Option Addr) (cap:Nat),v= .slice a l.length cap∧vg w a l∧(l.length:Int)≤9223372036854775807∧∀s∈l,s.fits:=by
 rcases Deep.open_slice Tryz.underlying50 h with ⟨hcs,_⟩ | ⟨ad,len,cap,m,n,D,Pl,hcs,_,hl,hm,hmm,_,hi⟩
 · simp only[List.cons.injEq,and_true] at hcs
   subst hcs
   exact⟨[],none,0,rfl,fun h=>by simp at h,by simp,fun s hs=>by cases hs⟩
 · simp only[List.cons.injEq,and_true] at hcs
   subst hcs
   have hle:len≤m:=by rw[hmm];split<;>omega
   have h3:Tryz.prog.cellsOf 55=3:=by kernel_rfl
   rw[h3] at hi
   have each:∀i,i<len→∃(s:Sl),∃(ka:Option Addr) (kc:Nat),w.cell? (ad.add (i*3))=some (.slice ka s.kinds.length kc)∧w.cell? (ad.add (i*3+1))=some (.int .i64 s.least)∧w.cell? (ad.add (i*3+2))=some (.int .i64 s.most)∧qw w ka s.kinds∧s.fits:=fun i hil=>by
    obtain⟨cs',hc,ht⟩:=hi i om
    obtain⟨_,_,hat⟩:=World.cells?_some hc
    obtain⟨s,ka,kc,rfl,hia,hfi⟩:=zfH n cs' _ ht
    exact sh1
   exact sb6
theorem zfG (fuel:Nat) (cs:List Value) (x:DataW H×List MemPlace) (h:DataW.trod enc Tryz.prog w base spare held fuel 52 cs=some x):
 ∃(k:Kd) (sa:Option Addr) (sc:Nat),cs= [.string k.name,.bool k.text,.slice sa k.slots.length sc]∧vg w sa k.slots∧k.fits:=by
 obtain⟨xs,n,_,_,hl,hlen,hf⟩:=DataW.trod_struct Tryz.underlying52 h
 have h3:Tryz.prog.cellsOf 52=3:=by kernel_rfl
 rw[h3] at hl
 match cs,hl with
 | [c0,c1,c2],_=>
   have k1:Tryz.prog.cellsOf 9=1:=by kernel_rfl
   have k2:Tryz.prog.cellsOf 4=1:=by kernel_rfl
   have k3:Tryz.prog.cellsOf 50=1:=by kernel_rfl
   match xs,hlen with
   | [y0,y1,y2],_=>
     have t0:DataW.trod enc Tryz.prog w base spare held n 9 (([c0,c1,c2].drop 0).take (Tryz.prog.cellsOf 9))=some y0:=hf 0 _ rfl
     have t1:DataW.trod enc Tryz.prog w base spare held n 4 (([c0,c1,c2].drop 1).take (Tryz.prog.cellsOf 4))=some y1:=hf 1 _ rfl
     have t2:DataW.trod enc Tryz.prog w base spare held n 50 (([c0,c1,c2].drop 2).take (Tryz.prog.cellsOf 50))=some y2:=hf 2 _ rfl
     simp only[k1,k2,k3,List.drop_zero,List.take_succ_cons,List.take_zero,List.drop_succ_cons] at t0 t1 t2
     obtain⟨nm,e0,_,hns⟩:=DataW.trod_string Tryz.underlying9 t0
     obtain⟨tx,e1,_⟩:=DataW.trod_bool Tryz.underlying4 t1
     obtain⟨l,sa,sc,rfl,hs,hle,hfs⟩:=zcY t2
     simp only[List.cons.injEq,and_true] at e0 e1
     subst e0;subst e1
     exact⟨⟨nm,tx,l⟩,sa,sc,rfl,hs,by show (nm.size:Int)≤_;unfold maxLen at hns;omega,hle,hfs⟩
theorem zcX {fuel:Nat} {v:Value} {x:DataW H×List MemPlace} (h:DataW.trod enc Tryz.prog w base spare held fuel 22 [v]=some x):
 ∃(l:List Kd) (a:Option Addr) (cap:Nat),v= .slice a l.length cap∧jP w a l∧(l.length:Int)≤9223372036854775807∧∀s∈l,s.fits:=by
 rcases Deep.open_slice Tryz.underlying22 h with ⟨hcs,_⟩ | ⟨ad,len,cap,m,n,D,Pl,hcs,_,hl,hm,hmm,_,hi⟩
 · simp only[List.cons.injEq,and_true] at hcs
   subst hcs
   exact⟨[],none,0,rfl,fun h=>by simp at h,by simp,fun s hs=>by cases hs⟩
 · simp only[List.cons.injEq,and_true] at hcs
   subst hcs
   have hle:len≤m:=by rw[hmm];split<;>omega
   have h3:Tryz.prog.cellsOf 52=3:=by kernel_rfl
   rw[h3] at hi
   have each:∀i,i<len→∃(k:Kd),∃(sa:Option Addr) (sc:Nat),w.cell? (ad.add (i*3))=some (.string k.name)∧w.cell? (ad.add (i*3+1))=some (.bool k.text)∧w.cell? (ad.add (i*3+2))=some (.slice sa k.slots.length sc)∧vg w sa k.slots∧k.fits:=fun i hil=>by
    obtain⟨cs',hc,ht⟩:=hi i om
    obtain⟨_,_,hat⟩:=World.cells?_some hc
    obtain⟨s,ka,kc,rfl,hia,hfi⟩:=zfG n cs' _ ht
    exact sh1
   exact sb6
theorem zim {fuel:Nat} {cs:List Value} {x:DataW H×List MemPlace} (h:DataW.trod enc Tryz.prog w base spare held fuel 24 cs=some x):
 ∃(g:Gr) (ka:Option Addr) (kc:Nat),cs= [.slice ka g.kinds.length kc,.int .i64 g.root]∧jP w ka g.kinds∧g.fits:=by
 obtain⟨xs,n,_,_,hl,hlen,hf⟩:=DataW.trod_struct Tryz.underlying24 h
 have h3:Tryz.prog.cellsOf 24=2:=by kernel_rfl
 rw[h3] at hl
 match cs,hl with
 | [c0,c1],_=>
   have k1:Tryz.prog.cellsOf 3=1:=by kernel_rfl
   have k2:Tryz.prog.cellsOf 22=1:=by kernel_rfl
   match xs,hlen with
   | [y0,y1],_=>
     have t0:DataW.trod enc Tryz.prog w base spare held n 22 (([c0,c1].drop 0).take (Tryz.prog.cellsOf 22))=some y0:=hf 0 _ rfl
     have t1:DataW.trod enc Tryz.prog w base spare held n 3 (([c0,c1].drop 1).take (Tryz.prog.cellsOf 3))=some y1:=hf 1 _ rfl
     simp only[k1,k2,List.drop_zero,List.take_succ_cons,List.take_zero,List.drop_succ_cons] at t0 t1
     obtain⟨l,ka,kc,rfl,hk,hle,hfk⟩:=zcX t0
     obtain⟨r,e1,_,_⟩:=DataW.trod_int Tryz.underlying3 t1
     simp only[List.cons.injEq,and_true] at e1
     subst e1
     exact⟨⟨l,r⟩,ka,kc,rfl,hk,hle,hfk⟩
theorem open_grV {v:Value} {d:DataW H} {ps:List MemPlace} {cs:Array Value} (hv:v= .agg cs) (h:DataW.Trod enc Tryz.prog w base spare held 24 v d ps):∃g,GrV w v g∧g.fits:=by
 subst hv
 obtain⟨fuel,hf⟩:=h
 obtain⟨g,ka,kc,e,hk,hfit⟩:=zim hf
 refine⟨g,⟨ka,kc,?_,hk⟩,hfit⟩
 have e2:cs.toList= [.slice ka g.kinds.length kc,.int .i64 g.root]:=by simpa [Value.cells] using e
 rw[show cs=cs.toList.toArray by simp,e2]
end
end Go.Proofs.YtgkmmnihaiopaaaGreat
namespace Go.Proofs.YtgkmmnihaiopaaaGreat
open Go.ChangeShapes Go.WideShapes Go.ChangeAt Go.RowKit
open Extern.Stop (cell)
section
variable {H:Type} {enc:TypeId×Value→H} {w:World} {base:Nat} {spare:Nat→Bool} {held:Bool}
end
structure zdz (w:World) (v:Value) (t:Tr):Prop where
 at_:zJ w (Old w) v t
 fit:Fits t
theorem zdz.open {w:World} {v:Value} {t:Tr} (h:zdz w v t):∃ta tc,v= .agg #[.int .i64 t.id,.int .i64 t.kind,.string t.text,.slice ta (foLen t.kids) tc]∧jC w t.kids ta tc∧foLen t.kids≤9223372036854775807∧qD t.kids∧okF (spF 1 (zl t)):=by
 obtain⟨ta,tc,e,h1,h2⟩:=h.at_
 exact⟨ta,tc,e,⟨h1,h2.kept fun q hq=>⟨hq,rfl⟩⟩,h.fit.1,h.fit.2.1,zbP 1 (zl t) ⟨h.fit.2.2.1,h.fit.2.2.2,True.intro⟩⟩
end Go.Proofs.YtgkmmnihaiopaaaGreat
namespace Go.Proofs.YtgkmmnihaiopaaaGreat
open Go.ChangeShapes Go.WideShapes Go.ChangeAt Go.RowKit
open Extern.Stop (cell)
section
variable {H:Type} {enc:TypeId×Value→H} {w:World} {base:Nat} {spare:Nat→Bool} {held:Bool}
theorem open_stepsW (fuel:Nat) (v:Value) (x:DataW H×List MemPlace) (h:DataW.trod enc Tryz.prog w base spare held fuel 28 [v]=some x):
 ∃(vs:List SV) (a:Option Addr) (cap:Nat),v= .slice a vs.length cap∧(zbl w a vs∧∀x∈vs,(Lit.int .i64 x.s.id).wf=true∧(Lit.int .i64 x.s.par).wf=true):=by
 rcases Deep.open_slice Tryz.underlying28 h with ⟨hcs,_⟩ | ⟨ad,len,cap,m,n,D,Pl,hcs,_,hl,hm,hmm,_,hi⟩
 · simp only[List.cons.injEq,and_true] at hcs
   subst hcs
   exact⟨[],none,0,rfl,⟨fun k s hs=>by simp at hs,fun x hx=>by simp at hx,fun x hx=>by simp at hx⟩,fun x hx=>by simp at hx⟩
 · simp only[List.cons.injEq,and_true] at hcs
   subst hcs
   have h9:Tryz.prog.cellsOf 44=9:=by kernel_rfl
   have hle:len≤m:=by rw[hmm];split<;>omega
   rw[h9] at hi
   have each:∀i,i<len→∃(y:SV),(∀j u,(zeO y.s y.a y.c)[j]? =some u→w.cell? (ad.add (i*9+j))=some u)∧Zx w y∧zdy y.s∧((Lit.int .i64 y.s.id).wf=true∧(Lit.int .i64 y.s.par).wf=true):=fun i hil=>by
    obtain⟨cs',hc,ht⟩:=hi i om
    obtain⟨_,_,hat⟩:=World.cells?_some hc
    obtain⟨op,id,par,at_,tx,u,ka,kcap,rfl,hcp,hfo,hft,hw,htx⟩:=zd7 n cs' _ ht
    refine⟨⟨⟨op,id,par,at_,tx,u⟩,ka,kcap⟩,fun j u hj=>?_,⟨hcp,hfo.kept fun q hq=>⟨hq,rfl⟩⟩,⟨hw.1,hft.1,hft.2.1,zbP 1 (zl u) ⟨hft.2.2.1,hft.2.2.2,True.intro⟩,htx⟩,hw.2.1,hw.2.2.1⟩
    have hj9:j<9:=(List.getElem?_eq_some_iff.1 hj).1
    have:=hat j hj9
    rw[Deep.add_add] at this
    exact this.trans hj
   haveI:Inhabited SV:=⟨⟨zjC,none,0⟩⟩
   obtain⟨f,hff⟩:=Deep.choose_lt each
   have hmem:∀x∈(List.range len).map f,Zx w x∧zdy x.s∧((Lit.int .i64 x.s.id).wf=true∧(Lit.int .i64 x.s.par).wf=true):=fun x hx=>by
    obtain⟨j,hj,rfl⟩:=List.mem_map.1 hx
    obtain⟨_,h1,h2⟩:=hff j (List.mem_range.1 hj)
    exact⟨h1,h2⟩
   refine⟨(List.range len).map f,some ad,cap,by simp,⟨fun k s hs=>?_,fun x hx=>(hmem x hx).1,fun x hx=>(hmem x hx).2.1⟩,fun x hx=>(hmem x hx).2.2⟩
   rw[List.getElem?_map,Option.map_eq_some_iff] at hs
   obtain⟨j,hj,rfl⟩:=hs
   obtain⟨hlt',rfl⟩:=List.getElem?_eq_some_iff.1 hj
   simp only[List.length_range] at hlt'
   simp only[List.getElem_range]
   obtain⟨hz,h1,h2⟩:=hff k hlt'
   obtain⟨b,off,spot⟩:=ad
   obtain⟨hz',_,_⟩:=hff 0 om
   have hz0:=hz' 0 _ rfl
   have hsp:spot=none:=by simpa [Addr.add] using World.cell?_spot hz0
   subst hsp
   have hlt:=zev hz0
   rw[Jv] at hlt
   clear hz0 hz'
   refine⟨b,off,rfl,hlt,fun j u hj=>?_⟩
   have:=hz j u hj
   rw[Addr.add_mid,←Nat.add_assoc] at this
   exact this
end
end Go.Proofs.YtgkmmnihaiopaaaGreat
namespace Go.Proofs.YtgkmmnihaiopaaaGreat
open Go.RowKit Go.Shelf
theorem withinAlone_fr (w:World) (gv:Value) (g:Gr) (nv:Value) (t:Tr) (root:Int) (pa:List SV) (la:Option Addr) (ca:Nat) (hg:GrV w gv g) (hfg:g.fits) (ht:zJ w (Old w) nv t) (hft:Fits t) (ha:zbl w la pa∧∀x∈pa,(Lit.int .i64 x.s.id).wf=true∧(Lit.int .i64 x.s.par).wf=true):
 Calls Tryz.prog 4 #[gv,nv,.int .i64 root,.slice la pa.length ca] w (zjw w):=by
 obtain⟨ga,gc,rfl,hk⟩:=hg
 obtain⟨ta,tc,rfl,h1,h2,h3,h4⟩:=zdz.open ⟨ht,hft⟩
 exact Jb w g t ga ta la _ gc _ tc _ ca pa root rfl ⟨ga,gc,rfl,hk⟩ hfg rfl h1 h2 h3 h4 rfl ha.1 ha.2
end Go.Proofs.YtgkmmnihaiopaaaGreat
