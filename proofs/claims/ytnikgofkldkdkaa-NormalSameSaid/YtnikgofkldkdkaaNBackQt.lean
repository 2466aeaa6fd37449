/-
  .
-/
import Derived.Test.YtnikgofkldkdkaaNMapQt
set_option maxRecDepth 100000
set_option maxHeartbeats 40000000
set_option linter.unusedVariables false
set_option linter.unusedSimpArgs false
namespace Go.Proofs.Ytnikgofkldkdkaa
open Go.ChangeShapes Go.WideShapes Go.ChangeAt Go.RowKit
open Extern.Stop (cell)
theorem zeV {w:World}{a:Addr}{v:Value}(h:w.cell? a=some v):a.block<w.heap.size:=block_lt_of_cell h
theorem JH (a:Addr)(j:Nat):(a.add j).block=a.block:=by unfold Addr.add;split<;>rfl
def zbU:List Tr→Fo
 | []=> .nil
 | t::l=> .node 0 0 (t.id,t.kind,t.text) t.kids (zbU l)
theorem zcI:∀l:List Tr,foLen (zbU l)=l.length
 | []=>rfl
 | _::l=>by simp[zbU,foLen,zcI l]
theorem zcH:∀l:List Tr,(∀t∈l,foLen t.kids≤9223372036854775807∧vB t.kids)→vB (zbU l)
 | [],_=>True.intro
 | t::l,h=>⟨(h t (List.mem_cons_self ..)).1,(h t (List.mem_cons_self ..)).2,zcH l fun u hu=>h u (List.mem_cons_of_mem _ hu)⟩
theorem ze3 {w:World}{S:Nat→Prop}{b:Nat}(hb:S b):∀(l:List Tr) (off:Nat),(∀i t,l[i]? =some t→∃ka cap,w.cell? ⟨b,off+i*4,none⟩=some (.int .i64 t.id)∧w.cell? ⟨b,off+i*4+1,none⟩=some (.int .i64 t.kind)∧
 w.cell? ⟨b,off+i*4+2,none⟩=some (.string t.text)∧w.cell? ⟨b,off+i*4+3,none⟩=some (.slice ka (foLen t.kids) cap)∧foLen t.kids≤cap∧zk w S t.kids ka)→zk w S (zbU l) (some ⟨b,off,none⟩)
 | [],_,_=>True.intro
 | t ::l,off,h=>by
   obtain⟨ka,cap,h0,h1,h2,h3,hcp,hf⟩:=h 0 t rfl
   refine⟨b,off,ka,cap,rfl,hb,by simpa using h0,by simpa using h1,by simpa using h2,by simpa using h3,hcp,hf,ze3 hb l (off+4) fun i u hu=>?_⟩
   obtain⟨ka,cap,h0,h1,h2,h3,hcp,hf⟩:=h (i+1) u (by simpa using hu)
   rw[show off+(i+1)*4=off+4+i*4 by omega] at h0 h1 h2 h3
   exact⟨ka,cap,h0,h1,h2,h3,hcp,hf⟩
def Old (w:World):Nat→Prop:=fun k=>k<w.heap.size
def zc9 (k:Int×Int×ByteArray):Prop:=(k.2.2.size:Int)≤9223372036854775807∧(Lit.int .i64 k.1).wf=true
def za5:Fo→Prop
 | .nil=>True
 | .node _ _ k l r=>zc9 k∧za5 l∧za5 r
theorem zcd:∀(d:Nat) (f:Fo),za5 f→okF (spF d f)
 | _,.nil,_=>fun x hx=>by cases hx
 | d,.node _ _ k l r,h=>fun x hx=>by
   simp only[spF,List.mem_cons,List.mem_append] at hx
   rcases hx with rfl | hx | hx
   · exact h.1
   · exact zcd (d+1) l h.2.1 x hx
   · exact zcd d r h.2.2 x hx
def Fits (t:Tr):Prop:=foLen t.kids≤9223372036854775807∧vB t.kids∧zc9 (t.id,t.kind,t.text)∧za5 t.kids
theorem zfj:∀l:List Tr,(∀t∈l,zc9 (t.id,t.kind,t.text)∧za5 t.kids)→za5 (zbU l)
 | [],_=>True.intro
 | t::l,h=>⟨(h t (List.mem_cons_self ..)).1,(h t (List.mem_cons_self ..)).2,zfj l fun u hu=>h u (List.mem_cons_of_mem _ hu)⟩
section
variable {H:Type} {enc:TypeId×Value→H} {w:World} {base:Nat} {spare:Nat→Bool} {held:Bool}
theorem open_node7:∀(fuel:Nat) (cs:List Value) (x:DataW H×List MemPlace),DataW.trod enc Try.prog w base spare held fuel 27 cs=some x→
 ∃(t:Tr) (ka:Option Addr) (cap:Nat),cs= [.int .i64 t.id,.int .i64 t.kind,.string t.text,.slice ka (foLen t.kids) cap]∧foLen t.kids≤cap∧zk w (Old w) t.kids ka∧Fits t:=by
 intro fuel
 induction fuel using Nat.strongRecOn with
 | ind fuel ih =>
   intro cs x h
   obtain⟨xs,n,hn,_,hl,hlen,hf⟩:=DataW.trod_struct Try.underlying27 h
   have h4:Try.prog.cellsOf 27=4:=by kernel_rfl
   rw[h4] at hl
   match cs,hl with
   | [c0, c1, c2,c3],_=>
     have k1:Try.prog.cellsOf 3=1:=by kernel_rfl
     have k2:Try.prog.cellsOf 9=1:=by kernel_rfl
     have k3:Try.prog.cellsOf 25=1:=by kernel_rfl
     match xs,hlen with
     | [y0, y1,y2,y3],_=>
       have t0:DataW.trod enc Try.prog w base spare held n 3 (([c0,c1,c2,c3].drop 0).take (Try.prog.cellsOf 3))=some y0:=hf 0 _ rfl
       have t1:DataW.trod enc Try.prog w base spare held n 3 (([c0,c1,c2,c3].drop 1).take (Try.prog.cellsOf 3))=some y1:=hf 1 _ rfl
       have t2:DataW.trod enc Try.prog w base spare held n 9 (([c0,c1,c2,c3].drop 2).take (Try.prog.cellsOf 9))=some y2:=hf 2 _ rfl
       have t3:DataW.trod enc Try.prog w base spare held n 25 (([c0,c1,c2,c3].drop 3).take (Try.prog.cellsOf 25))=some y3:=hf 3 _ rfl
       simp only[k1,k2,k3,List.drop_zero,List.take_succ_cons,List.take_zero,List.drop_succ_cons] at t0 t1 t2 t3
       obtain⟨id,e0,_,wf0⟩:=DataW.trod_int Try.underlying3 t0
       obtain⟨kd,e1,_,_⟩:=DataW.trod_int Try.underlying3 t1
       obtain⟨tx,e2,_,hsz⟩:=DataW.trod_string Try.underlying9 t2
       have hkey:zc9 (id,kd,tx):=⟨by show (tx.size:Int)≤_;unfold maxLen at hsz;omega,wf0⟩
       simp only[List.cons.injEq,and_true] at e0 e1 e2
       subst e0;subst e1;subst e2
       rcases DataW.trod_slice Try.underlying25 t3 with ⟨e3,_⟩ | ⟨ad,len,cap,elems,rest,m,hm,e3,_,_,hlc,hcm,_,hi,_⟩
       · simp only[List.cons.injEq,and_true] at e3
         subst e3
         exact⟨⟨id,kd,tx,.nil⟩,none,0,rfl,NlrQ _,True.intro,NzlQ _,True.intro,hkey,True.intro⟩
       · simp only[List.cons.injEq,and_true] at e3
         subst e3
         rw[h4] at hi
         have each:∀i,i<len→∃(u:Tr),∃(ka:Option Addr) (kcap:Nat),w.cell? (ad.add (i*4))=some (.int .i64 u.id)∧w.cell? (ad.add (i*4+1))=some (.int .i64 u.kind)∧w.cell? (ad.add (i*4+2))=some (.string u.text)∧
          w.cell? (ad.add (i*4+3))=some (.slice ka (foLen u.kids) kcap)∧foLen u.kids≤kcap∧zk w (Old w) u.kids ka∧Fits u:=fun i hil=>by
          have h1:=hi i hil
          obtain⟨y,hy⟩:∃y,elems[i]? =some y:=⟨elems[i]'om,List.getElem?_eq_getElem _⟩
          rw[hy,Option.bind_eq_some_iff] at h1
          obtain⟨cs',hc,ht⟩:=h1
          obtain⟨_,_,hat⟩:=World.cells?_some hc
          obtain⟨u,ka,kcap,rfl,hcp,hfo,hft⟩:=ih m om cs' y ht
          have a0:=hat 0 om
          have a1:=hat 1 om
          have a2:=hat 2 om
          have a3:=hat 3 om
          rw[Deep.add_add] at a0 a1 a2 a3
          exact⟨u,ka,kcap,a0,a1,a2,a3,hcp,hfo,hft⟩
         obtain⟨f,hff⟩:=Deep.choose_lt each
         have hls:foLen (zbU ((List.range len).map f))=len:=by rw[zcI];simp
         refine⟨⟨id,kd,tx,zbU ((List.range len).map f)⟩,some ad,cap,by rw[hls],by rw[hls];exact hlc,?_,?_,?_,hkey,?_⟩
         · cases hl0:len with
           | zero=>exact True.intro
           | succ len'=>
             rw[←hl0]
             obtain⟨b,off,spot⟩:=ad
             obtain⟨_,_,hz,_⟩:=hff 0 om
             have hsp:spot=none:=by simpa [Addr.add] using World.cell?_spot hz
             subst hsp
             have hlt:=zeV hz
             rw[JH] at hlt
             refine ze3 (show Old w b from hlt) _ off fun i u hu=>?_
             rw[List.getElem?_map,Option.map_eq_some_iff] at hu
             obtain⟨j,hj,rfl⟩:=hu
             obtain⟨hlt',rfl⟩:=List.getElem?_eq_some_iff.1 hj
             simp only[List.length_range] at hlt'
             simp only[List.getElem_range]
             obtain⟨ka,kcap,h0,h1,h2,h3,hcp,hfo,_⟩:=hff i hlt'
             rw[Addr.add_mid] at h0 h1 h2 h3
             exact⟨ka,kcap,h0,by rw[Nat.add_assoc];exact h1,by rw[Nat.add_assoc];exact h2,by rw[Nat.add_assoc];exact h3,hcp,hfo⟩
         · show foLen (zbU ((List.range len).map f))≤_
           rw[hls];unfold maxLen at hcm;omega
         · refine zcH _ fun u hu=>?_
           simp only[List.mem_map,List.mem_range] at hu
           obtain⟨i,hil,rfl⟩:=hu
           obtain⟨_,_,_,_,_,_,_,_,hft⟩:=hff i hil
           exact⟨hft.1,hft.2.1⟩
         · refine zfj _ fun u hu=>?_
           simp only[List.mem_map,List.mem_range] at hu
           obtain⟨i,hil,rfl⟩:=hu
           obtain⟨_,_,_,_,_,_,_,_,hft⟩:=hff i hil
           exact hft.2.2
theorem zeo (fuel:Nat)(cs:List Value)(x:DataW H×List MemPlace)(h:DataW.trod enc Try.prog w base spare held fuel 49 cs=some x):
 ∃(op id par at_:Int) (tx:ByteArray) (u:Tr) (ka:Option Addr) (cap:Nat),cs= [.int .i8 op,.int .i64 id,.int .i64 par,.int .i64 at_,.string tx,.int .i64 u.id,.int .i64 u.kind,.string u.text,.slice ka (foLen u.kids) cap]∧foLen u.kids≤cap∧zk w (Old w) u.kids ka∧Fits u∧((Lit.int .i8 op).wf=true∧(Lit.int .i64 id).wf=true∧(Lit.int .i64 par).wf=true∧(Lit.int .i64 at_).wf=true)∧(tx.size:Int)≤9223372036854775807:=by
 obtain⟨xs,n,_,_,hl,hlen,hf⟩:=DataW.trod_struct Try.underlying49 h
 have h9:Try.prog.cellsOf 49=9:=by kernel_rfl
 rw[h9] at hl
 match cs,hl with
 | [c0,c1,c2,c3,c4,c5,c6,c7,c8],_=>
   have k1:Try.prog.cellsOf 3=1:=by kernel_rfl
   have k2:Try.prog.cellsOf 9=1:=by kernel_rfl
   have k3:Try.prog.cellsOf 27=4:=by kernel_rfl
   have k4:Try.prog.cellsOf 47=1:=by kernel_rfl
   match xs,hlen with
   | [y0,y1,y2,y3,y4,y5],_=>
     have t0:DataW.trod enc Try.prog w base spare held n 47 (([c0,c1,c2,c3,c4,c5,c6,c7,c8].drop 0).take (Try.prog.cellsOf 47))=some y0:=hf 0 _ rfl
     have t1:DataW.trod enc Try.prog w base spare held n 3 (([c0,c1,c2,c3,c4,c5,c6,c7,c8].drop 1).take (Try.prog.cellsOf 3))=some y1:=hf 1 _ rfl
     have t2:DataW.trod enc Try.prog w base spare held n 3 (([c0,c1,c2,c3,c4,c5,c6,c7,c8].drop 2).take (Try.prog.cellsOf 3))=some y2:=hf 2 _ rfl
     have t3:DataW.trod enc Try.prog w base spare held n 3 (([c0,c1,c2,c3,c4,c5,c6,c7,c8].drop 3).take (Try.prog.cellsOf 3))=some y3:=hf 3 _ rfl
     have t4:DataW.trod enc Try.prog w base spare held n 9 (([c0,c1,c2,c3,c4,c5,c6,c7,c8].drop 4).take (Try.prog.cellsOf 9))=some y4:=hf 4 _ rfl
     have t5:DataW.trod enc Try.prog w base spare held n 27 (([c0,c1,c2,c3,c4,c5,c6,c7,c8].drop 5).take (Try.prog.cellsOf 27))=some y5:=hf 5 _ rfl
     simp only[k1,k2,k3,k4,List.drop_zero,List.take_succ_cons,List.take_zero,List.drop_succ_cons] at t0 t1 t2 t3 t4 t5
     obtain⟨op,e0,_,b0⟩:=DataW.trod_int Try.underlying47 t0
     obtain⟨id,e1,_,b1⟩:=DataW.trod_int Try.underlying3 t1
     obtain⟨pa,e2,_,b2⟩:=DataW.trod_int Try.underlying3 t2
     obtain⟨pl,e3,_,b3⟩:=DataW.trod_int Try.underlying3 t3
     obtain⟨tx,e4,_,b4⟩:=DataW.trod_string Try.underlying9 t4
     obtain⟨u,ka,cap,e5,hcp,hfo,hft⟩:=open_node7 n _ y5 t5
     simp only[List.cons.injEq,and_true] at e0 e1 e2 e3 e4 e5
     obtain⟨rfl,rfl,rfl,rfl⟩:=e5
     subst e0;subst e1;subst e2;subst e3;subst e4
     exact⟨op,id,pa,pl,tx,u,ka,cap,rfl,hcp,hfo,hft,⟨b0,b1,b2,b3⟩,by unfold maxLen at b4;omega⟩
end
end Go.Proofs.Ytnikgofkldkdkaa
namespace Go.Proofs.Ytnikgofkldkdkaa
open Go.RowKit Go.Shelf
theorem zdY {w:World}{b:Nat}{c0 c1 c2 c3 c4 c5 c6 c7 c8:Value}{T:TypeId}(h:w.heap[b]? =some (.cells #[c0,c1,c2,c3,c4,c5,c6,c7,c8] T (0,0))):w.cell? ⟨b,0,none⟩=some c0∧w.cell? ⟨b,1,none⟩=some c1∧w.cell? ⟨b,2,none⟩=some c2∧w.cell? ⟨b,3,none⟩=some c3∧w.cell? ⟨b,4,none⟩=some c4∧w.cell? ⟨b,5,none⟩=some c5∧w.cell? ⟨b,6,none⟩=some c6∧w.cell? ⟨b,7,none⟩=some c7∧w.cell? ⟨b,8,none⟩=some c8:=
 ⟨by rw[corQ _ _ 0 _ _ _ h];rfl,by rw[corQ _ _ 1 _ _ _ h];rfl,by rw[corQ _ _ 2 _ _ _ h];rfl,by rw[corQ _ _ 3 _ _ _ h];rfl,by rw[corQ _ _ 4 _ _ _ h];rfl,by rw[corQ _ _ 5 _ _ _ h];rfl,by rw[corQ _ _ 6 _ _ _ h];rfl,by rw[corQ _ _ 7 _ _ _ h];rfl,by rw[corQ _ _ 8 _ _ _ h];rfl⟩
theorem Try.zfa:(Try.prog.info? 49).map (fun i=>(i.size,i.bytes,i.zero.map (fun z=>z.cells.size)))=some (9,104,some 9):=by kernel_rfl
def yL (vs:List SV):List Value:=vs.flatMap fun x=>vO x.s x.a x.c
theorem Ya:∀{vs:List SV} {k j:Nat} {x:SV} {u:Value},vs[k]? =some x→(vO x.s x.a x.c)[j]? =some u→(yL vs)[k*9+j]? =some u
 | [],_,_,_,_,h,_=>by simp at h
 | y ::vs,0,j,x,u,h,hu=>by
   simp at h;subst h
   have e:yL (y::vs)=vO y.s y.a y.c++yL vs:=rfl
   rw[e,Nat.zero_mul,Nat.zero_add,List.getElem?_append_left (List.getElem?_eq_some_iff.1 hu).1];exact hu
 | y ::vs,k+1,j,x,u,h,hu=>by
   have e:yL (y::vs)=vO y.s y.a y.c++yL vs:=rfl
   rw[e,List.getElem?_append_right (by simp[vO];omega)]
   have:=Ya (vs:=vs) (k:=k) ue3 hu
   rw[←this];congr 1;simp[vO];omega
theorem JU (vs:List SV):∀u∈yL vs,u.oneCell'=true:=fun u hu=>by
 obtain⟨x,_,h⟩:=List.mem_flatMap.1 hu
 simp only[vO,List.mem_cons,List.not_mem_nil,or_false] at h
 rcases h with rfl | rfl | rfl | rfl | rfl | rfl | rfl | rfl | rfl<;>rfl
theorem zjf {w X:World}{a:Option Addr}{c n:Nat}{vs:List SV}(hn:n=vs.length)(h:X.ownsRow w.heap.size 49 9 (.slice a n c) n (yL vs))(hl:∀x∈vs,qC X x.s.sub.kids x.a x.c)(hf:∀x∈vs,za x.s.sub.kids+1≤100000)(hlen:vs.length≤1000000):Row X a vs:=
 ⟨fun k x hx=>by
  have hpos:0<n:=by have:=(List.getElem?_eq_some_iff.1 hx).1;omega
  rcases h.2 with ⟨_,h0⟩ | ⟨g,cap,cur,e,_,hg,_⟩
  · omega
  · cases e
    exact⟨g,0,rfl,lohQ hg,fun j u hj=>by rw[Nat.zero_add];exact zC h rfl _ u (Ya hx hj)⟩,hl,hf,hlen⟩
structure Y3 (w:World) (a:Option Addr) (n c:Nat) (vs:List SV):Prop where
 row:Row w a vs
 len:n=vs.length
 cap:n≤c
 nil:a=Option.none→c=0
theorem Y3.on {w X:World}{a:Option Addr}{n c:Nat}{vs:List SV}(h:Y3 w a n c vs)(hb:Below w.heap.size w X):Y3 X a n c vs:=⟨h.row.on hb,h.len,h.cap,h.nil⟩
theorem zih {w X:World}{v:Value}{n:Nat}{vs:List SV}(hn:n=vs.length)(h:X.ownsRow w.heap.size 49 9 v n (yL vs))(hl:∀x∈vs,qC X x.s.sub.kids x.a x.c)(hf:∀x∈vs,za x.s.sub.kids+1≤100000)(hlen:vs.length≤1000000):∃a c,v= .slice a n c∧Y3 X a n c vs:=by
 obtain⟨a,c,rfl⟩:=zt h
 refine⟨a,c,rfl,zjf hn h hl hf hlen,hn,?_,?_⟩
 · rcases h.2 with ⟨hv,h0⟩ | ⟨g,cap,cur,hv,_,_,hc,_⟩
   · omega
   · cases hv;exact hc
 · intro ha
   subst ha
   rcases h.2 with ⟨hv,h0⟩ | ⟨g,cap,cur,hv,_⟩
   · cases hv;rfl
   · cases hv
end Go.Proofs.Ytnikgofkldkdkaa
namespace Go.Proofs.Ytnikgofkldkdkaa
open Go.ChangeShapes Go.WideShapes Go.ChangeAt Go.RowKit
open Extern.Stop (cell)
def InG (s:Sf):Prop:=Fits s.sub∧((Lit.int .i8 s.op).wf=true∧(Lit.int .i64 s.id).wf=true∧(Lit.int .i64 s.par).wf=true∧(Lit.int .i64 s.at_).wf=true)∧(s.tx.size:Int)≤9223372036854775807
section
variable {H:Type} {enc:TypeId×Value→H} {w:World} {base:Nat} {spare:Nat→Bool} {held:Bool}
theorem open_stepsG (fuel:Nat)(v:Value)(x:DataW H×List MemPlace)(h:DataW.trod enc Try.prog w base spare held fuel 28 [v]=some x):
 ∃(vs:List SV) (a:Option Addr) (cap:Nat),v= .slice a vs.length cap∧zfv w a vs∧(∀x∈vs,InG x.s)∧(a=none→cap=0)∧vs.length≤cap:=by
 rcases Deep.open_slice Try.underlying28 h with ⟨hcs,_⟩ | ⟨ad,len,cap,m,n,D,Pl,hcs,hq,hlc,hm,hmm,hq2,hi⟩
 · simp only[List.cons.injEq,and_true] at hcs
   subst hcs
   exact⟨[],none,0,rfl,⟨fun k s hs=>by simp at hs,fun x hx=>by simp at hx,fun x hx=>by simp at hx⟩,(fun x hx=>by simp at hx),(fun _=>rfl),NlrQ _⟩
 · simp only[List.cons.injEq,and_true] at hcs
   subst hcs
   have h9:Try.prog.cellsOf 49=9:=by kernel_rfl
   have hle:len≤m:=by rw[hmm];split<;>omega
   rw[h9] at hi
   have each:∀i,i<len→∃(y:SV),(∀j u,(vO y.s y.a y.c)[j]? =some u→w.cell? (ad.add (i*9+j))=some u)∧qC w y.s.sub.kids y.a y.c∧InG y.s:=fun i hil=>by
    obtain⟨cs',hc,ht⟩:=hi i om
    obtain⟨_,_,hat⟩:=World.cells?_some hc
    obtain⟨op,id,par,at_,tx,u,ka,kcap,rfl,hcp,hfo,hft,hw,htx⟩:=zeo n cs' _ ht
    refine⟨⟨⟨op,id,par,at_,tx,u⟩,ka,kcap⟩,fun j u hj=>?_,⟨hcp,hfo.kept fun q hq=>⟨hq,rfl⟩⟩,⟨hft,hw,htx⟩⟩
    have hj9:j<9:=(List.getElem?_eq_some_iff.1 hj).1
    have:=hat j hj9
    rw[Deep.add_add] at this
    exact this.trans hj
   haveI:Inhabited SV:=⟨⟨⟨0,0,0,0,⟨#[]⟩,⟨0,0,⟨#[]⟩,.nil⟩⟩,none,0⟩⟩
   obtain⟨f,hff⟩:=Deep.choose_lt each
   have hmem:∀x∈(List.range len).map f,qC w x.s.sub.kids x.a x.c∧InG x.s:=fun x hx=>by
    obtain⟨j,hj,rfl⟩:=List.mem_map.1 hx
    obtain⟨_,h1,h2⟩:=hff j (List.mem_range.1 hj)
    exact⟨h1,h2⟩
   refine⟨(List.range len).map f,some ad,cap,by simp,⟨fun k s hs=>?_,fun x hx=>(hmem x hx).1,fun x hx=>⟨(hmem x hx).2.1.1,(hmem x hx).2.1.2.1⟩⟩,(fun x hx=>(hmem x hx).2),(fun h=>by cases h),by simp only[List.length_map,List.length_range];exact hlc⟩
   rw[List.getElem?_map,Option.map_eq_some_iff] at hs
   obtain⟨j,hj,rfl⟩:=hs
   obtain⟨hlt',rfl⟩:=List.getElem?_eq_some_iff.1 hj
   simp only[List.length_range] at hlt'
   simp only[List.getElem_range]
   obtain⟨hz,h1,h2,_⟩:=hff k hlt'
   obtain⟨b,off,spot⟩:=ad
   obtain⟨hz',_,_⟩:=hff 0 om
   have hz0:=hz' 0 _ rfl
   have hsp:spot=none:=by simpa [Addr.add] using World.cell?_spot hz0
   subst hsp
   have hlt:=zeV hz0
   rw[JH] at hlt
   clear hz0 hz'
   refine⟨b,off,rfl,hlt,fun j u hj=>?_⟩
   have:=hz j u hj
   rw[Addr.add_mid,←Nat.add_assoc] at this
   exact this
end
end Go.Proofs.Ytnikgofkldkdkaa
namespace Go.Proofs.Ytnikgofkldkdkaa
open Go.RowKit Go.Shelf
theorem yV {V:World}{R1 i:Nat}{cs:Array Value}{T:TypeId}{u:Value}(h2:V.heap[R1]? =some (.cells cs T (0,0))):
 ∃V5,V5=V.setCell ⟨R1,i,none⟩ u∧V5.heap[R1]? =some (.cells (cs.setIfInBounds i u) T (0,0))∧(∀y,y≠R1→V5.heap[y]? =V.heap[y]?)∧V5.os=V.os∧V5.tape=V.tape∧V5.output=V.output∧V5.heap.size=V.heap.size:=
 ⟨_,rfl,hssQ V R1 i _ _ u h2,fun y hy=>BhsQ _ _ _ _ hy,rfl,rfl,rfl,by simp[World.setCell]⟩
theorem zbr {V:World}{R1:Nat}{T:TypeId}{c0 c1 c2 c3 c4 c5 c6 c7 c8 u0 u1 u2 u3 u4 u5 u6 u7 u8:Value}(h2:V.heap[R1]? =some (.cells #[c0,c1,c2,c3,c4,c5,c6,c7,c8] T (0,0))):
 ∃V5,V5=(((((((((V.setCell ⟨R1,0,none⟩ u0).setCell ⟨R1,1,none⟩ u1).setCell ⟨R1,2,none⟩ u2).setCell ⟨R1,3,none⟩ u3).setCell ⟨R1,4,none⟩ u4).setCell ⟨R1,5,none⟩ u5).setCell ⟨R1,6,none⟩ u6).setCell ⟨R1,7,none⟩ u7).setCell ⟨R1,8,none⟩ u8)∧V5.heap[R1]? =some (.cells #[u0,u1,u2,u3,u4,u5,u6,u7,u8] T (0,0))∧(∀y,y≠R1→V5.heap[y]? =V.heap[y]?)∧V5.os=V.os∧V5.tape=V.tape∧V5.output=V.output∧V5.heap.size=V.heap.size:=by
 obtain⟨V1,e1,g1,o1,a1,t1,p1,s1⟩:=yV (i:=0) (u:=u0) h2
 obtain⟨V2,e2,g2,o2,a2,t2,p2,s2⟩:=yV (i:=1) (u:=u1) g1
 obtain⟨V3,e3,g3,o3,a3,t3,p3,s3⟩:=yV (i:=2) (u:=u2) g2
 obtain⟨V4,e4,g4,o4,a4,t4,p4,s4⟩:=yV (i:=3) (u:=u3) g3
 obtain⟨V5,e5,g5,o5,a5,t5,p5,s5⟩:=yV (i:=4) (u:=u4) g4
 obtain⟨V6,e6,g6,o6,a6,t6,p6,s6⟩:=yV (i:=5) (u:=u5) g5
 obtain⟨V7,e7,g7,o7,a7,t7,p7,s7⟩:=yV (i:=6) (u:=u6) g6
 obtain⟨V8,e8,g8,o8,a8,t8,p8,s8⟩:=yV (i:=7) (u:=u7) g7
 obtain⟨V9,e9,g9,o9,a9,t9,p9,s9⟩:=yV (i:=8) (u:=u8) g8
 refine⟨V9,by rw[e9,e8,e7,e6,e5,e4,e3,e2,e1],by simpa using g9,fun y hy=>by rw[o9 y hy,o8 y hy,o7 y hy,o6 y hy,o5 y hy,o4 y hy,o3 y hy,o2 y hy,o1 y hy],by rw[a9,a8,a7,a6,a5,a4,a3,a2,a1],by rw[t9,t8,t7,t6,t5,t4,t3,t2,t1],by rw[p9,p8,p7,p6,p5,p4,p3,p2,p1],by rw[s9,s8,s7,s6,s5,s4,s3,s2,s1]⟩
def ziE (s:Sf)(w:World)(e:Ending)(w' :World):Prop:=∃va vc,e= .returned (.agg #[.int .i8 s.op,.int .i64 s.id,.int .i64 s.par,.int .i64 s.at_,.string s.tx,.int .i64 s.sub.id,.int .i64 s.sub.kind,.string s.sub.text,.slice va (foLen s.sub.kids) vc])∧foLen s.sub.kids≤vc∧zk w' (kP w w') s.sub.kids va∧Below w.heap.size w w'
attribute [local go_sem] Oper.semAt_some
def JF (w:World)(NB:Nat)(a:Option Addr)(c:Nat)(f:Fo)(S:Nat→Prop):Prop:=w.heap[NB]? =some (.cells #[.slice a (foLen f) c] 25 (0,0))∧S NB∧(∀y,S y→y<w.heap.size)∧zk w S f a∧foLen f≤c
theorem JF.kept {w w' :World}{NB c:Nat}{a:Option Addr}{f:Fo}{S:Nat→Prop}(h:JF w NB a c f S)(hs:w.heap.size≤w'.heap.size)(hk:∀y,S y→w'.heap[y]? =w.heap[y]?):JF w' NB a c f S:=by
 obtain⟨h1,h2,h3,h4,h5⟩:=h
 exact⟨(hk NB h2).trans h1,h2,fun y hy=>nL (h3 y hy) hs,h4.kept fun y hy=>⟨hy,hk y hy⟩,h5⟩
def zgI (P:Program)(m l:Nat)(S:Nat→Prop)(n:Nat)(J:Nat→World→Prop)(Jx:World→Prop):Prop:=
 ∀(k j:Nat) (v:Value) (w:World),j+k+1=n→(∀y,S y→y<w.heap.size)→J k w→YieldAt Fence.wide m P l #[.int .i64 (j:Int),v] w fun e w'=>w.heap.size≤w'.heap.size∧(∀y,S y→w'.heap[y]? =w.heap[y]?)∧((e= .returned (.bool true)∧J (k+1) w')∨(e= .returned (.bool false)∧Jx w'))
def Yz (n:Nat)(J:Nat→World→Prop)(Jx:World→Prop)(e:Ending)(V:World):Prop:=(∃v,e= .returned v)∧(J n V∨Jx V)
def zdP (NB:Nat)(a:Option Addr)(c:Nat)(f:Fo)(S:Nat→Prop)(J:Nat→World→Prop)(k:Nat)(wr:World):Prop:=JF wr NB a c f S∧J k wr
theorem Yz.mk0 {n:Nat}{J:Nat→World→Prop}{Jx:World→Prop}{V:World}{k:Nat}{v:Value}(h:J k V)(hk:k=n):Yz n J Jx (.returned v) V:=⟨⟨v,rfl⟩,Or.inl (hk▸h)⟩
theorem Yz.mkx {n:Nat}{J:Nat→World→Prop}{Jx:World→Prop}{V:World}{v:Value}(h:Jx V):Yz n J Jx (.returned v) V:=⟨⟨v,rfl⟩,Or.inr h⟩
theorem zfC {m l:Nat}{S:Nat→Prop}{f:Fo}{J:Nat→World→Prop}{Jx:World→Prop}(hB:zgI Try.prog m l S (foLen f) J Jx)(W:World)(NB c:Nat)(a:Option Addr)(hI:JF W NB a c f S)(hn:foLen f≤1000000)(h0:J 0 W):
 Calls Try.prog 106 #[.func (.yield l) #[] #[],.pointer (some ⟨NB,0,none⟩)] W (Yz (foLen f) J Jx):=by
 have HST:Hid (zdP NB a c f S J 0 W):=hH ⟨hI,h0⟩
 obtain⟨n,hn'⟩:∃n,n=foLen f:=⟨_,rfl⟩
 have h1:=hI.1
 rw[←hn'] at hn h1 hB ⊢
 have c0:W.cell? ⟨NB,0,none⟩=some (.slice a n c):=by rw[corQ _ _ 0 _ _ _ h1];rfl
 have HN:=hH hn'
 have hcn:n≤c:=by rw[hn'];exact hI.2.2.2.2
 clear h0 h1 hn' hI
 refine (callsIn_wide (n:=6)).1 ?_
 refine callsIn_of_wp Try.func106 rfl trivial ?_ rfl
 simp only[Try.ntmps106,List.size_toArray,LlcQ,List.length_nil,Nat.reduceAdd,Nat.reduceSub,Array.replicate_succ,Array.replicate_zero,List.push_toArray,List.append_toArray,List.nil_append,List.cons_append]
 have hw0:IntKind.i64.wrap ((n:Int) - 1)=(n:Int) - 1:=IntWalk.i64_in _ om
 gi_wp2
 clear hw0
 gi_loopw [3] (fun i wr=>∃k:Nat,i= .int .i64 ((n:Int) - 1 - (k:Int))∧k≤n∧Hid (zdP NB a c f S J k wr)) (fun i _=>(intOf i+1).toNat)
 case atStart=>exact⟨0,by simp,NzlQ _,HST⟩
 case round=>
  obtain⟨k,rfl,hkn,hh⟩:=hrel
  clear HST c0
  by_cases hlt:k<n
  · obtain⟨j,hj⟩:∃j:Nat,j+k+1=n:=⟨n - 1 - k,by omega⟩
    have hji:(n:Int) - 1 - (k:Int)=(j:Int):=by omega
    have hj0:(0:Int)≤(j:Int):=by omega
    have hjl:(j:Int)<(n:Int):=by omega
    have HJK:=hH (aN hj hji)
    rw[hji]
    obtain⟨b0,o0,key,kl,kr,hd,b,off,ka,kc,ea,hSb,d0,d1,d2,d3,hkc,hkl⟩:=hh.out.1.2.2.2.1.at j (by rw[←HN.out];omega)
    subst ea
    have c0:wr.cell? ⟨NB,0,none⟩=some (.slice (some ⟨b,off,none⟩) n c):=by rw[corQ _ _ 0 _ _ _ hh.out.1.1,HN.out];rfl
    obtain⟨sn,hsn⟩:∃sn,sn=foLen kl:=⟨_,rfl⟩
    rw[←hsn] at d3
    obtain⟨fn,tmps,assign,body,hy,hR⟩:=YieldAt.Z9 5 (hB k j (.agg #[.int .i64 key.1,.int .i64 key.2.1,.string key.2.2,.slice ka sn kc]) _ hj hh.out.1.2.2.1 hh.out.2)
    have HVI:=hh
    have HRR:=hH hR
    have hjw:IntKind.i64.wrap ((j:Int) - 1)=(j:Int) - 1:=IntWalk.i64_in _ om
    clear hd hkl hkc hSb hsn hR hh hj hji hkn hlt
    gi_wp2
    refine HRR.out.mono ?_
    clear HRR hy d0 d1 d2 d3 c0
    rintro e w2 ⟨hs2,hk2,(⟨rfl,hJ4⟩ | ⟨rfl,hJ4⟩)⟩
    · have HNX:Hid (zdP NB (some ⟨b,off,none⟩) c f S J (k+1) w2):=hH ⟨HVI.out.1.kept hs2 hk2,hJ4⟩
      clear hs2 hk2 hJ4 HVI
      gi_wp2
      refine⟨⟨k+1,by have:=HJK.out.2;congr 1;push_cast;omega,by have:=HJK.out.1;omega,HNX⟩,by have:=HJK.out.2;simp[intOf]⟩
    · have HE:=hH (Yz.mkx (n:=n) (J:=J) (v:= .tuple #[]) hJ4)
      clear hs2 hk2 hJ4 HVI
      gi_wp2
      go_end0
      exact HE.out
  · have hkl:¬(0:Int)≤(n:Int) - 1 - (k:Int):=by omega
    have HE:=hH (Yz.mk0 (n:=n) (Jx:=Jx) (v:= .tuple #[]) hh.out.2 om)
    clear hh hkn hlt
    gi_wp2
    go_end0
    exact HE.out
def zdL (B:Nat)(S:Nat→Prop)(I:Nat→World→Prop)(Ix:Code→World→Prop)(k:Nat)(W:World)(e:Exit)(_:Act)(V:World):Prop:=
 W.heap.size≤V.heap.size∧(∀y,(y=B∨y=B+1∨S y)→V.heap[y]? =W.heap[y]?)∧((e= .normal∧I (k+1) V)∨(e= .ret∧Ix .ret V)∨∃id,e= .exit id∧Ix (.exit id) V)
theorem zeu {n:Nat}{g:Operand}{ps:Array Tmp}{assign body:Code}{Q:Exit→Act→World→Prop}{a:Act}{w:World}(h1:1≤n){NB:Nat}(hg:a.eval g= .func (.func 106) #[] #[.pointer (some ⟨NB,0,none⟩)])
 (ra:Option Addr) (rc:Nat) (f:Fo) (S:Nat→Prop) (hids:JF w NB ra rc f S) (hn:foLen f≤1000000) (hps:ps.size=2)
 (I:Nat→World→Prop) (Ix:Code→World→Prop)
 (hI:∀{k:Nat} {V V' :World},I k V→zo V V' (fun x=>x=w.heap.size+1)→I k V')
 (hIx:∀{c:Code} {V V' :World},Ix c V→zo V V' (fun x=>x=w.heap.size+1)→Ix c V')
 (h0:I 0 w)
 (hround:∀(l:Nat),l=w.heap.size+1→∀(k j:Nat) (v:Value) (V:World),w.heap.size+2≤V.heap.size→j+k+1=foLen f→I k V→
   ∀ (K:Act→World→Prop),(∀a₁ V0,zo V V0 (fun _=>False)→(∀V',(∃o',V'=V0.putObj l o'∧∃o,V0.heap[l]? =some o∧o.isCells=false)→body.wpIn (Fence.wide.inRound l) (n - 1 - 1) Try.prog (zdL w.heap.size S I Ix k V') a₁ V')→K a₁ V0)→
    assign.wpIn (Fence.wide.inRound l) (n - 1 - 1) Try.prog (Exit.then K (fun _ _ _=>False)) { tmps:=(ps.zip #[.int .i64 (j:Int),v]).foldl (fun t (p,v)=>t.setIfInBounds p v) a.tmps,defers:=[] } V)
 (hdone:∀(D:Nat) (V:World),D=w.heap.size→I (foLen f) V→V.heap[D]? =some (.deferred (some []))→Q .normal { a with defers:={ target:= .collected D,args:= #[] }::a.defers } V)
 (hstop:∀(D:Nat) (c:Code) (V:World),D=w.heap.size→Ix c V→V.heap[D]? =some (.deferred (some []))→c.wpIn Fence.wide n Try.prog Q { a with defers:={ target:= .collected D,args:= #[] }::a.defers } V):
 (Code.rangeFunc g ps assign body).wpIn Fence.wide n Try.prog Q a w:=by
 obtain⟨B,hB⟩:∃B,w.heap.size=B:=⟨_,rfl⟩
 have hSB:∀y,S y→y<B:=fun y hy=>by have:=hids.2.2.1 y hy;omega
 simp only[hB] at hI hIx hround hdone hstop h0
 refine wpIn_rangeFunc fun fn hfn=>?_
 obtain⟨rec,hrec⟩:∃rec:LoopState→Option Code→Loop,rec=fun st pe=>{ state:=st,pending:=pe,fn,tmps:=a.tmps,params:=ps,assign,body,defers:=B }:=⟨_,rfl⟩
 obtain⟨W1,hW1⟩:∃W1,W1=(w.alloc (.deferred (some []))).alloc (.loop (rec .ready none)):=⟨_,rfl⟩
 have hsz1:W1.heap.size=B+2:=by rw[hW1];simp[hB]
 have hblk:∀x,x<B→W1.heap[x]? =w.heap[x]?:=fun x hx=>by rw[hW1,BhaQ _ _ _ ue6,BhaQ _ _ _ om]
 have hbk:Book B (rec .ready none) W1:=by
  exact sc6
 have hb1:zo w W1 (fun _=>False):=by rw[hW1];exact ((zo.refl w _).alloc _).alloc _
 have hI1:I 0 W1:=hI h0 (hb1.mono (fun _ h=>h.elim))
 refine⟨B+1,[{ target:= .collected B,args:= #[] }],W1,{ target:= .fn (.func 106) #[.pointer (some ⟨NB,0,none⟩)],args:= #[.func (.yield (B+1)) #[] #[]] },W1,106, #[.func (.yield (B+1)) #[] #[]]++ #[.pointer (some ⟨NB,0,none⟩)],W1,?_,?_,?_,?_,fun _=>h1,?_⟩
 · exact ua1
 · simp only[resolve,hg]
   simp[go_sem]
 · exact ua2
 · simp[invoke,go_sem]
 · obtain⟨J,hJ⟩:∃J:Nat→World→Prop,J=fun k V=>I k V∧Book B (rec .ready none) V:=⟨_,rfl⟩
   obtain⟨Jx,hJx⟩:∃Jx:World→Prop,Jx=fun V=>∃c,Ix c V∧Book B (rec .done (some c)) V:=⟨_,rfl⟩
   have hbody:zgI Try.prog (n - 1 - 1) (B+1) S (foLen f) J Jx:=by
    subst hJ hJx
    rintro k j v V hx hS ⟨j1,j2⟩
    have hr:=hround (B+1) rfl k j v V (by have:=lohQ j2.1;omega) hx j1
    have hSl:∀y,S y→y≠B+1:=fun y hy=>by have:=hSB y hy;omega
    have hy:=run_yield (P:=Try.prog) (args:= #[.int .i64 (j:Int),v]) j2.1 ud2
    rw[hrec] at hy
    refine⟨fn,_,assign,body,hy,roundIn_of_wpIn hfn (hr _ fun a₁ V0 h0 hb=>?_)⟩
    have j3:Book B (rec .ready none) V0:=⟨(h0.block _ (lohQ j2.1) (fun h=>h)).trans j2.1,(h0.block _ (lohQ j2.2) (fun h=>h)).trans j2.2⟩
    refine⟨_,run_beginRound j3.1 (by rw[hrec]),?_⟩
    have hb2:Book B { rec .ready none with state:= .busy } (V0.putObj (B+1) (.loop { rec .ready none with state:= .busy })):=j3.put
    refine wpIn_mono (hb _ ⟨_,rfl,_,j3.1,rfl⟩) ?_
    rintro e3 a3 U ⟨hkU,hkS,hp⟩
    have hb3:Book B { rec .ready none with state:= .busy } U:=⟨(hkS _ (Or.inr (Or.inl rfl))).trans hb2.1,(hkS _ (Or.inl rfl)).trans hb2.2⟩
    have fin:=fun jump=>run_endRound (P:=Try.prog) jump hb3.1
    rw[hrec] at fin hb3
    have hUs:V.heap.size≤U.heap.size:=by have:=hkU;have:=h0.size;simp[World.putObj] at*;omega
    have hsz:∀o',V.heap.size≤(U.putObj (B+1) o').heap.size:=fun o'=>by simp[World.putObj];exact hUs
    have hallS:∀o' y,S y→(U.putObj (B+1) o').heap[y]? =V.heap[y]?:=fun o' y hy=>by
     rw[WphQ (hSl y hy),hkS y (Or.inr (Or.inr hy)),WphQ (hSl y hy),h0.block y (hS y hy) (fun h=>h)]
    have htp:∀o',zo U (U.putObj (B+1) o') (fun x=>x=B+1):=fun o'=>yQ o' hb3.1
    rcases hp with ⟨rfl,hi3⟩ | ⟨rfl,hi3⟩ | ⟨id,rfl,hi3⟩
    · refine⟨_,_,fin none,hsz _,hallS _,.inl ⟨rfl,hI hi3 (htp _),?_⟩⟩
      rw[hrec];exact hb3.put
    · refine⟨_,_,fin (some .ret),hsz _,hallS _,.inr ⟨rfl,.ret,hIx hi3 (htp _),?_⟩⟩
      rw[hrec];exact hb3.put
    · refine⟨_,_,fin (some (.exit id)),hsz _,hallS _,.inr ⟨rfl,.exit id,hIx hi3 (htp _),?_⟩⟩
      rw[hrec];exact hb3.put
   have hstart:J 0 W1:=by rw[hJ];exact⟨hI1,hbk⟩
   refine (callsIn_wide.2 (zfC hbody W1 NB rc ra (hids.kept hb1.size (fun y hy=>hblk y (hSB y hy))) hn hstart)).mono ?_
   rintro e W2 ⟨⟨v,rfl⟩,hj | hj⟩
   · rw[hJ] at hj
     obtain⟨hi,hb⟩:=hj
     have:=run_endLoop (P:=Try.prog) hb.1 ue4
     rw[hrec] at this
     refine⟨none,_,this,hdone B _ rfl (hI hi (yQ _ hb.1)) ((WphQ om).trans hb.2)⟩
   · rw[hJx] at hj
     obtain⟨c,hi,hb⟩:=hj
     have:=run_endLoop (P:=Try.prog) hb.1 ue4
     rw[hrec] at this
     exact⟨some c,_,this,hstop B c _ rfl (hIx hi (yQ _ hb.1)) ((WphQ om).trans hb.2)⟩
theorem ziL (w:World)(a:Option Addr)(n c:Nat):Calls Try.prog 84 #[.slice a n c] w fun e w'=>e= .returned (.func (.func 106) #[] #[.pointer (some ⟨w.heap.size,0,none⟩)])∧w.alloc (.cells #[.slice a n c] 25)=w':=by
 have hmf:∀W:World,(Instr.makeFunc (.func 106) #[] #[.pointer (some ⟨w.heap.size,0,none⟩)]).run Try.prog W= .ok (.func (.func 106) #[] #[.pointer (some ⟨w.heap.size,0,none⟩)]) W:=fun _=>rfl
 go_enter Try.func84,Try.ntmps84
 go_wp2_with fail
 go_ret
 exact⟨rfl,rfl⟩
end Go.Proofs.Ytnikgofkldkdkaa
namespace Go.Proofs.Ytnikgofkldkdkaa
open Go.RowKit Go.Shelf
theorem zke (i:Int)(a b:ByteArray)(f:Fo):(wiF i a f).2=(wiF i b f).2:=by
 have V:World:=default
 rw[jl (V:=V) i a f 0 0,jl (V:=V) i b f 0 0]
theorem Z6 (i j:Int)(a b:ByteArray):∀f:Fo,(wiF i a (wiF j b f).1).2=(wiF i a f).2
 | .nil=>rfl
 | .node x y k l r=>by
   rw[wiF]
   by_cases h:k.1=j
   · rw [ipQ h,wiF,wiF]
     by_cases h2:k.1=i
     · rw[ipQ h2,ipQ h2]
     · rw[inQ h2,inQ h2]
       by_cases h3:(wiF i a l).2=true
       · rw[ipQ h3,ipQ h3]
       · rw[inQ h3,inQ h3]
   · rw [inQ h]
     have e1:=Z6 i j a b l
     have e2:=Z6 i j a b r
     by_cases h1:(wiF j b l).2=true
     · rw [ipQ h1,wiF,wiF]
       by_cases h2:k.1=i
       · rw[ipQ h2,ipQ h2]
       · rw[inQ h2,inQ h2]
         by_cases h3:(wiF i a l).2=true
         · rw[ipQ h3,ipQ (by rw[e1];exact h3)]
         · rw[inQ h3,inQ (by rw[e1];exact h3)]
     · rw [inQ h1,wiF,wiF]
       by_cases h2:k.1=i
       · rw[ipQ h2,ipQ h2]
       · rw[inQ h2,inQ h2]
         by_cases h3:(wiF i a l).2=true
         · rw[ipQ h3,ipQ h3]
         · rw[inQ h3,inQ h3];exact e2
theorem jG (i:Int)(a:ByteArray)(t:Tr):zh (wiT i a t).1=(wiF i a (zh t)).1∧(wiT i a t).2=(wiF i a (zh t)).2:=by rw[ziw];exact⟨rfl,rfl⟩
def jk (u:Tr)(ts:List SV):Tr:=ts.foldl (fun u t=>(wiT t.s.id t.s.tx u).1) u
theorem zbC (u:Tr)(ts:List SV)(t:SV):jk u (ts++[t])=(wiT t.s.id t.s.tx (jk u ts)).1:=by simp[jk,List.foldl_append]
theorem zbB:∀(ts:List SV) (u:Tr),za (jk u ts).kids=za u.kids
 | [],_=>rfl
 | t ::ts,u=>by
   show za (jk (wiT t.s.id t.s.tx u).1 ts).kids=_
   rw[zbB ts,QB]
theorem Qz (i:Int)(a:ByteArray):∀(ts:List SV) (u:Tr),(wiT i a (jk u ts)).2=(wiT i a u).2
 | [],_=>rfl
 | t ::ts,u=>by
   show (wiT i a (jk (wiT t.s.id t.s.tx u).1 ts)).2=_
   rw[Qz i a ts,(jG i a _).2,(jG _ _ _).1,Z6,←(jG i a u).2]
structure HV where
 x:SV
 ts:List SV
 ta:Option Addr
 tc:Nat
 m:Option Nat
def HV.sf (h:HV):Sf:=⟨h.x.s.op,h.x.s.id,h.x.s.par,h.x.s.at_,h.x.s.tx,jk h.x.s.sub h.ts⟩
def HV.tv (h:HV):Value:= .slice h.ta h.ts.length h.tc
def Z7 (V:World)(m:Option Nat)(u:Tr):Prop:=match m with
 | none=>True
 | some mb=>∃n L,zV V mb n L∧∀i,(zR i L).isSome=(wiT i ⟨#[]⟩ u).2
structure jH (h:HV):Prop where
 small:za h.x.s.sub.kids+1≤100000
 ids:ZE (zh h.x.s.sub)
 zkF:∀t∈h.ts,(wiT t.s.id t.s.tx h.x.s.sub).2=true∧(Lit.int .i64 t.s.id).wf=true
 few:h.ts.length≤10000
structure zY (w0 V:World) (hb:Nat) (h:HV):Prop where
 cells:V.heap[hb]? =some (.cells #[.int .i8 h.x.s.op,.int .i64 h.x.s.id,.int .i64 h.x.s.par,.int .i64 h.x.s.at_,.string h.x.s.tx,.int .i64 h.x.s.sub.id,.int .i64 h.x.s.sub.kind,.string h.x.s.sub.text,.slice h.x.a (foLen h.x.s.sub.kids) h.x.c,.map h.m,.slice h.ta h.ts.length h.tc] 99 (0,0))
 lies:qC w0 h.x.s.sub.kids h.x.a h.x.c
 texts:V.ownsRow w0.heap.size 49 9 (.slice h.ta h.ts.length h.tc) h.ts.length (yL h.ts)
 nodes:Z7 V h.m h.x.s.sub
 base:w0.heap.size≤hb
 zc0:∀m,h.m=some m→w0.heap.size≤m
def HV.own (h:HV)(hb:Nat)(q:Nat):Prop:=q=hb∨h.tv.ownBlock=some q∨h.m=some q
theorem zY.kept {w0 V V' :World}{hb:Nat}{h:HV}(hh:zY w0 V hb h)(hk:∀q,h.own hb q→V'.heap[q]? =V.heap[q]?):zY w0 V' hb h where
 cells:=(hk hb (Or.inl rfl)).trans hh.cells
 lies:=hh.lies
 texts:=zA hh.texts (fun g cur _ hg=>hk g (Or.inr (Or.inl hg)))
 nodes:=by
  have h1:=hh.nodes
  unfold Z7 at h1 ⊢
  cases hm:h.m with
  | none=>trivial
  | some mb=>
    rw[hm] at h1
    obtain⟨n,L,h2,h3⟩:=h1
    exact⟨n,L,h2.at (hk mb (Or.inr (Or.inr hm))),h3⟩
 base:=hh.base
 zc0:=hh.zc0
theorem zY.lt {w0 V:World}{hb:Nat}{h:HV}(hh:zY w0 V hb h):∀q,h.own hb q→w0.heap.size≤q∧q<V.heap.size:=fun q hq=>by
 rcases hq with rfl | hq | hq
 · exact⟨hh.base,lohQ hh.cells⟩
 · exact zi hh.texts hq
 · have h1:=hh.nodes
   unfold Z7 at h1
   rw[hq] at h1
   obtain⟨n,L,h2,_⟩:=h1
   exact⟨hh.zc0 q hq,h2.lt⟩
theorem zhx {w:World}{S:Nat→Prop}:∀{f:Fo} {a:Option Addr},zk w S f a→zk w (fun q=>S q∧yD w q) f a
 | .nil,_,_=>True.intro
 | .node _ _ k l r,a,h=>by
   obtain⟨b,off,ka,cap,e,hb,h0,h1,h2,h3,hc,hl,hr⟩:=h
   exact⟨b,off,ka,cap,e,⟨hb,zbP h0⟩,h0,h1,h2,h3,hc,zhx hl,zhx hr⟩
theorem Q3 {V:World}{X:Nat→Prop}:∀{f:Fo} {b o:Nat} {p:Int×(Nat×Nat)},zk V X f (some ⟨b,o,none⟩)→p∈yP V f b o→∃tx,V.cell? ⟨p.2.1,p.2.2+2,none⟩=some (.string tx)
 | .nil,_,_,_,_,h=>by simp[yP] at h
 | .node _ _ k l r,b,o,p,hf,h=>by
   obtain⟨b1,o1,ka,cap,e,hb,_,_,c2,h3,_,hl,hr⟩:=hf
   cases e
   rw[yP,zI h3] at h
   rcases List.mem_cons.1 h with rfl | h
   · exact⟨_,c2⟩
   · rcases List.mem_append.1 h with h | h
     · cases l with
       | nil=>simp[yP] at h
       | node x y k2 l2 r2=>
         obtain⟨g,go,e,hg⟩:=yS hl sp1
         subst e
         exact Q3 hl h
     · exact Q3 hr h
def Beside (w:World)(v:Value):Nat→Prop:=fun q=>q<w.heap.size∧v.ownBlock≠some q
def OfC (l:List Sf)(w:World)(e:Ending)(w' :World):Prop:=∃a n c vs,e= .returned (.slice a n c)∧Y3 w' a n c vs∧steps vs=l∧Below w.heap.size w w'
end Go.Proofs.Ytnikgofkldkdkaa
namespace Go.Proofs.Ytnikgofkldkdkaa
open Go.RowKit
def IsC (l:List Sf)(w:World)(e:Ending)(w' :World):Prop:=e= .returned (.bool (!(yu l).2))∧Below w.heap.size w w'
end Go.Proofs.Ytnikgofkldkdkaa
