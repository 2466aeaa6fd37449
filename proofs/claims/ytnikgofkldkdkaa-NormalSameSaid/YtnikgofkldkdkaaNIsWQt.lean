/-
  .
-/
import Derived.Test.YtnikgofkldkdkaaNPutWQt
set_option maxRecDepth 100000
set_option maxHeartbeats 40000000
set_option linter.unusedVariables false
set_option linter.unusedSimpArgs false
namespace Go.Proofs.Ytnikgofkldkdkaa
open Go.RowKit Go.Shelf
attribute [local go_sem] Oper.semAt_some
def Js (s:Sf):Prop:=ZE (zh s.sub)∧(Lit.int .i64 s.id).wf=true
theorem zj8 {x:SV}(hz:za x.s.sub.kids+1≤100000)(hw:Js x.s):jH (HV.new x):=⟨hz,hw.1,fun t h=>(by cases h),by show ([]:List SV).length≤10000;decide⟩
theorem zjb {ha hb:HV}{m:Option Nat}{ta:Option Addr}{tc:Nat}(h:jH ha)(hw:(Lit.int .i64 hb.x.s.id).wf=true)(hin:(wiT hb.x.s.id ⟨#[]⟩ ha.x.s.sub).2=true)(hf:ha.ts.length+1≤10000):jH ((ha.yg m).kG hb.x ta tc):=
 ⟨h.small,h.ids,fun t ht=>by
  rcases List.mem_append.1 ht with h1 | h1
  · exact h.zkF t h1
  · rw[List.mem_singleton] at h1
    subst h1
    exact⟨by rw[zeO _ _ ⟨#[]⟩];exact hin,hw⟩,by show (ha.ts++[hb.x]).length≤10000;rw[LlaQ];exact hf⟩
theorem zj5 (x:SV):(HV.new x).sf=x.s:=rfl
end Go.Proofs.Ytnikgofkldkdkaa
namespace Go.Proofs.Ytnikgofkldkdkaa
open Go.RowKit Go.Shelf
abbrev HP:=Nat×HV
def HP.apart (p q:HP):Prop:=∀x,p.2.own p.1 x→¬q.2.own q.1 x
structure jy (w0 V:World) (L:List HP):Prop where
 held:∀p∈L,zY w0 V p.1 p.2
 apart:L.Pairwise HP.apart
 ok:∀p∈L,jH p.2∧(Lit.int .i64 p.2.x.s.id).wf=true
def sfs (L:List HP):List Sf:=L.map fun p=>p.2.sf
theorem jy.kept {w0 V V' :World}{L:List HP}(h:jy w0 V L)(hk:∀p∈L,∀q,p.2.own p.1 q→V'.heap[q]? =V.heap[q]?):jy w0 V' L:=⟨fun p hp=>(h.held p hp).kept (hk p hp),h.apart,h.ok⟩
theorem jy.below {w0 V V' :World}{L:List HP}(h:jy w0 V L)(hb:Below V.heap.size V V'):jy w0 V' L:=h.kept fun p hp q hq=>hb.block q ((h.held p hp).lt q hq).2
theorem jy.sub {w0 V:World}{L L' :List HP}(h:jy w0 V L)(hs:L'.Sublist L):jy w0 V L':=⟨fun p hp=>h.held p (hs.subset hp),h.apart.sublist hs,fun p hp=>h.ok p (hs.subset hp)⟩
theorem JN {p q:HP}(h:HP.apart p q):HP.apart q p:=fun x h1 h2=>h x h2 h1
theorem jy.turn {w0 V W:World}{P Q:List HP}{A:Nat}{ha ha' :HV}(h:jy w0 V (P++(A,ha)::Q))(ht:qM w0 A ha ha' V W)(hok:jH ha'):jy w0 W (P++(A,ha')::Q):=by
 obtain⟨a1,a2,a3⟩:=List.pairwise_append.1 h.apart
 obtain⟨a4,a5⟩:=List.pairwise_cons.1 a2
 have hn:∀p,(p∈P∨p∈Q)→HP.apart p (A,ha):=fun p hp=>by
  rcases hp with hp | hp
  · exact a3 p hp _ (List.mem_cons_self ..)
  · exact JN (a4 p hp)
 have hmem:∀p,(p∈P∨p∈Q)→p∈P++(A,ha)::Q:=fun p hp=>by
  rcases hp with hp | hp
  · exact List.mem_append_left _ hp
  · exact List.mem_append_right _ (List.mem_cons_of_mem _ hp)
 have hheld:∀p,(p∈P∨p∈Q)→zY w0 W p.1 p.2:=fun p hp=>(h.held p (hmem p hp)).kept fun q hq=>ht.turned.block q ((h.held p (hmem p hp)).lt q hq).2 (fun e=>hn p hp q hq e)
 have hn' :∀p,(p∈P∨p∈Q)→HP.apart p (A,ha'):=fun p hp x h1 h2=>by
  rcases ht.own x h2 with h3 | h3
  · exact hn p hp x h1 h3
  · have:=((h.held p (hmem p hp)).lt x h1).2;omega
 refine⟨fun p hp=>?_,?_,fun p hp=>?_⟩
 · rcases List.mem_append.1 hp with hp | hp
   · exact hheld p (Or.inl hp)
   · rcases List.mem_cons.1 hp with rfl | hp
     · exact ht.held
     · exact hheld p (Or.inr hp)
 · refine List.pairwise_append.2 ⟨a1,List.pairwise_cons.2 ⟨fun q hq=>JN (hn' q (Or.inr hq)),a5⟩,fun p hp q hq=>?_⟩
   rcases List.mem_cons.1 hq with rfl | hq
   · exact hn' p (Or.inl hp)
   · exact a3 p hp q (List.mem_cons_of_mem _ hq)
 · rcases List.mem_append.1 hp with hp | hp
   · exact h.ok p (hmem p (Or.inl hp))
   · rcases List.mem_cons.1 hp with rfl | hp
     · refine⟨hok,?_⟩
       simp only
       rw[ht.x]
       exact (h.ok (A,ha) (List.mem_append_right _ (List.mem_cons_self ..))).2
     · exact h.ok p (hmem p (Or.inr hp))
theorem zY.jI {w0 V:World}{b:Nat}{h:HV}(hh:zY w0 V b h){G:Nat}{cs:Array Value}{T:TypeId}{fr:Nat×Nat}(hG:V.heap[G]? =some (.cells cs T fr))(h1:T≠99)(h2:T≠49):¬h.own b G:=fun e=>by
 rcases e with e | e | e
 · exact zD hG hh.cells h1 e
 · obtain⟨cur,hc⟩:=yU hh.texts e
   exact zD hG hc h2 rfl
 · have h3:=hh.nodes
   unfold Z7 at h3
   rw[e] at h3
   obtain⟨n,L,⟨M,⟨es,clock,hb9,_⟩,_⟩,_⟩:=h3
   rw[hG] at hb9;cases hb9
def Yp:List Nat→List SV→List HP
 | b::bs,x::vs=>(b,HV.new x)::Yp bs vs
 | _,_=>[]
theorem QD:∀(bs:List Nat) (vs:List SV) (p:HP),p∈Yp bs vs→∃(i:Nat) (x:SV),bs[i]? =some p.1∧vs[i]? =some x∧p.2=HV.new x
 | [],_,p,h=>by simp[Yp] at h
 | _::_,[],p,h=>by simp[Yp] at h
 | b ::bs,x::vs,p,h=>by
   rw[Yp] at h
   rcases List.mem_cons.1 h with rfl | h
   · exact⟨0,x,rfl,rfl,rfl⟩
   · obtain⟨i,y,h1,h2,h3⟩:=QD bs vs p h
     exact⟨i+1,y,h1,h2,h3⟩
theorem QE:∀(bs:List Nat) (vs:List SV),bs.length=vs.length→(Yp bs vs).map Prod.fst=bs
 | [],[],_=>rfl
 | [],_::_,h=>by simp at h
 | _::_,[],h=>by simp at h
 | b::bs,x::vs,h=>by rw[Yp,List.map_cons,QE bs vs ue3]
theorem za3:∀(bs:List Nat) (vs:List SV),bs.length=vs.length→sfs (Yp bs vs)=steps vs
 | [],[],_=>rfl
 | [],_::_,h=>by simp at h
 | _::_,[],h=>by simp at h
 | b ::bs,x::vs,h=>by
   have:=za3 bs vs ue3
   show (HV.new x).sf::sfs (Yp bs vs)=x.s::steps vs
   rw[this,zj5]
theorem za2:∀(bs:List Nat) (vs:List SV),bs.Nodup→(Yp bs vs).Pairwise HP.apart
 | [],_,_=>by simp[Yp]
 | _::_,[],_=>by simp[Yp]
 | b :: bs,x::vs,h=>by
   obtain⟨h1,h2⟩:=List.nodup_cons.1 h
   rw[Yp]
   refine List.pairwise_cons.2 ⟨fun q hq y e1 e2=>?_,za2 bs vs h2⟩
   obtain⟨i,z,g1,g2,g3⟩:=QD bs vs q hq
   rw[g3] at e2
   rcases e1 with e1 | e1 | e1
   · rcases e2 with e2 | e2 | e2
     · have e3:b=q.1:=e1.symm.trans e2
       exact h1 (by rw[e3];exact List.mem_of_getElem? g1)
     · cases e2
     · cases e2
   · cases e1
   · cases e1
theorem zcT {w w' :World}{vs:List SV}{hbs:List Nat}(hl:hbs.length=vs.length)(hh:∀(i b:Nat) (x:SV),hbs[i]? =some b→vs[i]? =some x→zY w w' b (HV.new x))(hn:hbs.Nodup)(hz:∀x∈vs,za x.s.sub.kids+1≤100000)(hw:∀x∈vs,Js x.s):jy w w' (Yp hbs vs):=by
 refine⟨fun p hp=>?_,za2 _ _ hn,fun p hp=>?_⟩
 · obtain⟨i,x,h1,h2,h3⟩:=QD _ _ p hp
   rw[h3]
   exact hh i _ x h1 h2
 · obtain⟨i,x,h1,h2,h3⟩:=QD _ _ p hp
   rw[h3]
   have hm:=List.mem_of_getElem? h2
   exact⟨zj8 (hz x hm) (hw x hm),(hw x hm).2⟩
theorem zbz {α:Type}:∀(l:List α) (i:Nat) (a b:α),l[i]? =some a→l[i+1]? =some b→∃P Q,l=P++a::b::Q∧P.length=i
 | [],_,_,_,h,_=>by simp at h
 | [x],i,a,b,_,h=>by simp at h
 | x::y::l,0,a,b,h1,h2=>by simp at h1 h2;subst h1 h2;exact⟨[],l,rfl,rfl⟩
 | x ::y::l,i+1,a,b,h1,h2=>by
   obtain⟨P,Q,e,hl⟩:=zbz (y::l) i a b (by simpa using h1) (by simpa using h2)
   exact⟨x::P,Q,by rw[e];rfl,by simp[hl]⟩
def ptrs (L:List HP):List Value:=L.map fun p=>yJ p.1
structure Yn (w0 V:World) (R:Nat) (ga:Option Addr) (gc:Nat) (H:Nat) (ra:Option Addr) (rc:Nat) (gone rest:List HP):Prop where
 obj:V.heap[R]? =some (.cells #[.slice ga gone.length gc,.slice ra rest.length rc] 78 (0,0))
 grow:V.ownsRow w0.heap.size 73 1 (.slice ga gone.length gc) gone.length (ptrs gone)
 gH:(Value.slice ga gone.length gc).ownBlock≠some H
 hblk:∃cs,V.heap[H]? =some (.cells cs 73 (0,0))
 hrow:∀(i:Nat) (p:HP),rest[i]? =some p→∃o,ra=some ⟨H,o,none⟩∧V.cell? ⟨H,o+i,none⟩=some (yJ p.1)
 qj:rest.length≤rc
 held:jy w0 V (gone++rest)
 lo:w0.heap.size≤R∧w0.heap.size≤H
section
variable {w0 V W:World} {R H gc rc:Nat} {ga ra:Option Addr} {gone rest:List HP}
theorem Yn.turn {P Q:List HP}{A:Nat}{ha ha' :HV}{gone' rest' :List HP}(h:Yn w0 V R ga gc H ra rc gone rest)(e:gone++rest=P++(A,ha)::Q)(e' :gone'++rest'=P++(A,ha')::Q)(hg:gone'.map Prod.fst=gone.map Prod.fst)(hr:rest'.map Prod.fst=rest.map Prod.fst)(ht:qM w0 A ha ha' V W)(hok:jH ha'):Yn w0 W R ga gc H ra rc gone' rest':=by
 have hA:zY w0 V A ha:=h.held.held (A,ha) (by rw[e];exact List.mem_append_right _ (List.mem_cons_self ..))
 obtain⟨cs,hcs⟩:=h.hblk
 have hnR:¬ha.own A R:=hA.jI h.obj ue9 ue9
 have hnH:¬ha.own A H:=hA.jI hcs ue9 ue9
 have eR:=ht.turned.block R (lohQ h.obj) hnR
 have eH:=ht.turned.block H (lohQ hcs) hnH
 have lg:gone'.length=gone.length:=by have:=congrArg List.length hg;simpa using this
 have lr:rest'.length=rest.length:=by have:=congrArg List.length hr;simpa using this
 have pg:ptrs gone'=ptrs gone:=by
  have:∀L:List HP,ptrs L=(L.map Prod.fst).map yJ:=fun L=>by simp[ptrs]
  rw[this,this,hg]
 refine⟨by rw[lg,lr];exact eR.trans h.obj,by rw[lg,pg];exact zA h.grow (fun g cur hgc hgo=>ht.turned.block g (lohQ hgc) (fun e=>hA.jI hgc ue9 ue9 e)),by rw[lg];exact h.gH,⟨cs,eH.trans hcs⟩,fun i p hp=>?_,by rw[lr];exact h.qj,?_,h.lo⟩
 · obtain⟨q,hq⟩:∃q,rest[i]? =some q:=⟨_,List.getElem?_eq_getElem (by rw[←lr];exact (List.getElem?_eq_some_iff.1 hp).1)⟩
   have hpq:p.1=q.1:=by
    have h1:(rest'.map Prod.fst)[i]? =some p.1:=by rw[List.getElem?_map,hp];rfl
    have h2:(rest.map Prod.fst)[i]? =some q.1:=by rw[List.getElem?_map,hq];rfl
    rw[hr,h2] at h1
    exact (Option.some.inj h1).symm
   obtain⟨o,h1,h2⟩:=h.hrow i q hq
   exact⟨o,h1,(World.cell?_of_block (a:=⟨H,o+i,none⟩) eH).trans (by rw[hpq];exact h2)⟩
 · rw[e']
   have h1:=h.held
   rw[e] at h1
   exact h1.turn ht hok
theorem zcf {V:World}{lo n cap:Nat}{a:Option Addr}{T:TypeId}{xs:List Value}{x:Value}(h:V.ownsRow lo T 1 (.slice a (n+1) cap) (n+1) (xs++[x]))(hn:xs.length=n):V.ownsRow lo T 1 (.slice a n cap) n xs:=by
 obtain⟨e0,h2⟩:=h
 refine⟨by omega,?_⟩
 rcases h2 with ⟨hv,h0⟩ | ⟨g,cap',cur,hv,hg,hh,q1,q2,q3,q4⟩
 · omega
 · cases hv
   refine Or.inr ⟨g,cap,cur,rfl,hg,hh,by omega,q2,q3,?_⟩
   have:=congrArg (List.take n) q4
   rw[List.take_take,Nat.mul_one,show min n (n+1)=n by omega] at this
   rw[Nat.mul_one,this,List.take_left' hn]
theorem Yn.cut {g0:List HP}{p:HP}{n:Nat}(h:Yn w0 V R ga gc H ra rc (g0++[p]) rest)(hn:n=g0.length)(hW:W=V.setCell ⟨R,0,none⟩ (.slice ga n gc)):Yn w0 W R ga gc H ra rc g0 rest:=by
 obtain⟨cs,hcs⟩:=h.hblk
 have hob:=h.obj
 have hHR:H≠R:=zD hcs hob ue9
 have hk:∀q,q≠R→W.heap[q]? =V.heap[q]?:=fun q hq=>by rw[hW];exact BhsQ _ _ _ _ hq
 have hg:=h.grow
 simp only[LlaQ,LlcQ,List.length_nil,ptrs,List.map_append,List.map_cons,List.map_nil,Nat.zero_add] at hg
 refine⟨?_,zA (zcf (n:=g0.length) hg (List.length_map ..)) (fun g cur hgc _=>hk g (zD hgc hob ue9)),fun e=>h.gH (by cases ga with
  | none=>cases e
  | some a=>exact e),⟨cs,(hk H hHR).trans hcs⟩,fun i q hq=>?_,h.qj,?_,h.lo⟩
 · have:=hssQ V R 0 _ _ (.slice ga n gc) hob
   rw[hW,this,←hn];rfl
 · obtain⟨o,h1,h2⟩:=h.hrow i q hq
   exact⟨o,h1,(World.cell?_of_block (a:=⟨H,o+i,none⟩) (hk H hHR)).trans h2⟩
 · have h1:jy w0 V (g0++rest):=h.held.sub (by
    rw[List.append_assoc]
    exact List.Sublist.append_left (List.sublist_cons_self _ _) _)
   refine h1.kept fun p hp q hq=>hk q (fun e=>?_)
   subst e
   exact (h1.held p hp).jI hob ue9 ue9 hq
theorem jy.far {w0 V:World}{L:List HP}{R j:Nat}{cs:Array Value}{T:TypeId}{fr:Nat×Nat}{u:Value}(h:jy w0 V L)(hR:V.heap[R]? =some (.cells cs T fr))(h1:T≠99)(h2:T≠49):jy w0 (V.setCell ⟨R,j,none⟩ u) L:=
 h.kept fun p hp q hq=>BhsQ _ _ _ _ (fun e=>by subst e;exact (h.held p hp).jI hR h1 h2 hq)
theorem Yn.first {p p' :HP}{r:List HP}{o:Nat}(h:Yn w0 V R ga gc H ra rc gone (p::r))(ho:ra=some ⟨H,o,none⟩)(hh:jy w0 V (gone++p'::r))(hW:W=V.setCell ⟨H,o,none⟩ (yJ p'.1)):Yn w0 W R ga gc H ra rc gone (p'::r):=by
 obtain⟨cs,hcs⟩:=h.hblk
 have hob:=h.obj
 have hHR:R≠H:=zD hob hcs ue9
 have hk:∀q,q≠H→W.heap[q]? =V.heap[q]?:=fun q hq=>by rw[hW];exact BhsQ _ _ _ _ hq
 refine⟨(hk R hHR).trans hob,zA h.grow (fun g cur hgc hgo=>hk g (fun e=>h.gH (by rw[hgo,e]))),h.gH,⟨_,by rw[hW];exact hssQ V H o _ _ _ hcs⟩,fun i q hq=>?_,h.qj,?_,h.lo⟩
 · cases i with
   | zero=>
     simp at hq
     subst hq
     obtain⟨o',e1,e2⟩:=h.hrow 0 p rfl
     rw[ho] at e1
     cases e1
     exact⟨o,ho,by rw[hW,Nat.add_zero];exact World.cell?_setCell_same' _ _ _ (by rw[Nat.add_zero] at e2;rw[e2];rfl)⟩
   | succ i=>
     obtain⟨o',e1,e2⟩:=h.hrow (i+1) q (by simpa using hq)
     rw[ho] at e1
     cases e1
     exact⟨o,ho,by rw[hW,World.cell?_setCell_other _ _ _ _ (fun e=>by have:=congrArg Addr.off e;simp at this)];exact e2⟩
 · refine hh.kept fun p hp q hq=>hk q (fun e=>?_)
   subst e
   exact (hh.held p hp).jI hcs ue9 ue9 hq
theorem Yn.skip {p:HP}{r:List HP}{o n:Nat}{ra' :Option Addr}{V1:World}{u:Value}(h:Yn w0 V R ga gc H ra rc gone (p::r))(ho:ra=some ⟨H,o,none⟩)(ho' :0<r.length→ra'=some ⟨H,o+1,none⟩)(hn:n=r.length)(hV1:V1=V∨V1=V.setCell ⟨H,o,none⟩ u)(hW:W=V1.setCell ⟨R,1,none⟩ (.slice ra' n (rc - 1))):Yn w0 W R ga gc H ra' (rc - 1) gone r:=by
 obtain⟨cs,hcs⟩:=h.hblk
 have hob:=h.obj
 have hHR:R≠H:=zD hob hcs ue9
 have hk1:∀q,q≠H→V1.heap[q]? =V.heap[q]?:=fun q hq=>by
  rcases hV1 with e | e
  · rw[e]
  · rw[e];exact BhsQ _ _ _ _ hq
 have hH1:(∃cs',V1.heap[H]? =some (.cells cs' 73 (0,0)))∧∀j,j≠o→V1.cell? ⟨H,j,none⟩=V.cell? ⟨H,j,none⟩:=by
  rcases hV1 with e | e
  · rw[e];exact⟨⟨cs,hcs⟩,fun _ _=>rfl⟩
  · rw[e]
    exact⟨⟨_,hssQ V H o _ _ _ hcs⟩,fun j hj=>World.cell?_setCell_other _ _ _ _ (fun e=>hj (by cases e;rfl))⟩
 have hk2:∀q,q≠R→W.heap[q]? =V1.heap[q]?:=fun q hq=>by rw[hW];exact BhsQ _ _ _ _ hq
 have hob1:=(hk1 R hHR).trans hob
 obtain⟨⟨cs',hcs'⟩,hHc⟩:=hH1
 refine⟨?_,zA h.grow (fun g cur hgc hgo=>(hk2 g (zD hgc hob ue9)).trans (hk1 g (fun e=>h.gH (by rw[hgo,e])))),h.gH,⟨cs',(hk2 H hHR.symm).trans hcs'⟩,fun i q hq=>?_,?_,?_,h.lo⟩
 · have:=hssQ V1 R 1 _ _ (.slice ra' n (rc - 1)) hob1
   rw[hW,this,←hn];rfl
 · have hpos:0<r.length:=by have:=(List.getElem?_eq_some_iff.1 hq).1;omega
   obtain⟨o',e1,e2⟩:=h.hrow (i+1) q (by simpa using hq)
   rw[ho] at e1
   cases e1
   refine⟨o+1,ho' hpos,?_⟩
   rw[World.cell?_of_block (a:=⟨H,o+1+i,none⟩) (hk2 H hHR.symm),hHc _ om,show o+1+i=o+(i+1) by omega]
   exact e2
 · have:=h.qj;simp at this;omega
 · have h1:jy w0 V (gone++r):=h.held.sub (List.Sublist.append_left (List.sublist_cons_self _ _) _)
   refine h1.kept fun p hp q hq=>(hk2 q (fun e=>?_)).trans (hk1 q (fun e=>?_))
   · subst e
     exact (h1.held p hp).jI hob ue9 ue9 hq
   · subst e
     exact (h1.held p hp).jI hcs ue9 ue9 hq
theorem Yn.shift {p:HP}{r:List HP}{o n m g cap:Nat}{ra' :Option Addr}{U V1 V2:World}(h:Yn w0 V R ga gc H ra rc gone (p::r))(ho:ra=some ⟨H,o,none⟩)(ho' :0<r.length→ra'=some ⟨H,o+1,none⟩)(hn:n=r.length)(hm:m=gone.length)
 (hU:Below V.heap.size V U) (hown:V1.ownsRow w0.heap.size 73 1 (.slice (some ⟨g,0,none⟩) (m+1) cap) (m+1) (ptrs gone++[yJ p.1])) (hgr:U.grownBy V1 (Value.slice ga m gc).ownBlock) (hat:(Value.slice ga m gc).ownBlock=some g∨V.heap.size≤g) (hV2:V2=V1.setCell ⟨R,0,none⟩ (.slice (some ⟨g,0,none⟩) (m+1) cap)) (hW:W=V2.setCell ⟨R,1,none⟩ (.slice ra' n (rc - 1))):
 Yn w0 W R (some ⟨g,0,none⟩) cap H ra' (rc - 1) (gone++[p]) r∧V1.heap[R]? =V.heap[R]?:=by
 obtain⟨cs,hcs⟩:=h.hblk
 have hob:=h.obj
 have hHR:R≠H:=zD hob hcs ue9
 have hRl:=lohQ hob
 have hHl:=lohQ hcs
 have hUs:=hU.size
 have hgR:(Value.slice ga m gc).ownBlock≠some R:=fun e=>by
  rw[hm] at e
  obtain⟨cur,hc⟩:=yU h.grow e
  exact zD hc hob ue9 rfl
 have hgH:(Value.slice ga m gc).ownBlock≠some H:=by rw[hm];exact h.gH
 have hk1:∀q,q<V.heap.size→(Value.slice ga m gc).ownBlock≠some q→V1.heap[q]? =V.heap[q]?:=fun q hq hne=>(hgr.block q om (fun e=>hne e.symm)).trans (hU.block q hq)
 have hk2:∀q,q≠R→W.heap[q]? =V1.heap[q]?:=fun q hq=>by rw[hW,hV2,BhsQ _ _ _ _ hq,BhsQ _ _ _ _ hq]
 have hob1:V1.heap[R]? =_:=(hk1 R hRl hgR).trans hob
 refine⟨⟨?_,?_,fun e=>?_,⟨cs,(hk2 H hHR.symm).trans ((hk1 H hHl hgH).trans hcs)⟩,fun i q hq=>?_,?_,?_,h.lo⟩,hk1 R hRl hgR⟩
 · have e1:=hssQ V1 R 0 _ _ (.slice (some ⟨g,0,none⟩) (m+1) cap) hob1
   rw[←hV2] at e1
   have e2:=hssQ V2 R 1 _ _ (.slice ra' n (rc - 1)) e1
   rw[hW,e2,hn,hm,LlaQ];rfl
 · have e:ptrs (gone++[p])=ptrs gone++[yJ p.1]:=by simp[ptrs]
   rw[e,LlaQ,←hm]
   exact zA hown (fun q cur hq _=>hk2 q (zD hq hob1 ue9))
 · have hgq:g=H:=Option.some.inj e
   rcases hat with h1 | h1
   · exact hgH (by rw[h1,hgq])
   · omega
 · have hpos:0<r.length:=by have:=(List.getElem?_eq_some_iff.1 hq).1;omega
   obtain⟨o',e1,e2⟩:=h.hrow (i+1) q (by simpa using hq)
   rw[ho] at e1
   cases e1
   refine⟨o+1,ho' hpos,?_⟩
   rw[World.cell?_of_block (a:=⟨H,o+1+i,none⟩) ((hk2 H hHR.symm).trans (hk1 H hHl hgH)),show o+1+i=o+(i+1) by omega]
   exact e2
 · have:=h.qj;simp at this;omega
 · have h1:jy w0 V (gone++[p]++r):=by rw[List.append_assoc];exact h.held
   refine h1.kept fun p hp q hq=>(hk2 q (fun e=>?_)).trans (hk1 q ((h1.held p hp).lt q hq).2 (fun e=>?_))
   · subst e
     exact (h1.held p hp).jI hob ue9 ue9 hq
   · rw[hm] at e
     obtain⟨cur,hc⟩:=yU h.grow e
     exact (h1.held p hp).jI hc ue9 ue9 hq
end
end Go.Proofs.Ytnikgofkldkdkaa
namespace Go.Proofs.Ytnikgofkldkdkaa
open Go.RowKit Go.Shelf
attribute [local go_sem] Oper.semAt_some
structure IsI (w:World) (hbs:List Nat) (l:List Sf) (k:Nat) (V:World):Prop where
 row:V.heap[w.heap.size]? =some (.cells (hbs.map yJ).toArray 73 (0,0))
 held:∃L,jy w V L∧L.map Prod.fst=hbs∧sfs L=l
 below:Below w.heap.size w V
 no:∀j x y,j<k→l[j]? =some x→l[j+1]? =some y→(yC x y).2=false
theorem zi1 (w:World)(la:Option Addr)(n c:Nat)(vs:List SV)(hr:Y3 w la n c vs)(hn6:n≤10000)(hz:∀x∈vs,za x.s.sub.kids+1≤100000)(hw:∀x∈vs,Js x.s):
 Calls Try.prog 22 #[.slice la n c] w (IsC (steps vs) w):=by
 have hho:=zcS w la n c vs hr.len hr.row hn6
 have HHO:=hH (aN hho (aN hr.len (aN hz hw)))
 clear hho hr hz hw
 go_enter Try.func22,Try.ntmps22
 go_wp2_with fail
 refine HHO.out.1.mono ?_
 rintro e V ⟨hbs,rfl,hl,hrow,hheld,hnd,_,hb⟩
 have hI0:IsI w hbs (steps vs) 0 V:=⟨hrow,⟨_,zcT hl hheld hnd HHO.out.2.2.1 HHO.out.2.2.2,QE _ _ hl,za3 _ _ hl⟩,hb,fun j x y h=>by omega⟩
 obtain⟨m,hm⟩:∃m,m=hbs.length:=⟨_,rfl⟩
 have hmn:m=n:=by rw[hm,hl,HHO.out.2.1]
 have hls:(steps vs).length=m:=by rw[ji,hm,hl]
 have HI0:=hH hI0
 have HM:=hH (aN hm hls)
 rw[←hm]
 have hmw:IntKind.i64.wrap ((m:Int) - 1)=(m:Int) - 1:=IntWalk.i64_in _ om
 have hm6:m≤10000:=by omega
 clear hI0 hl hrow hheld hnd hb hm hls hmn hn6
 go_wp2_with fail
 go_loopw [12] (fun i wr=>∃k:Nat,i= .int .i64 (k:Int)∧(k=0∨k+1≤m)∧Hid (IsI w hbs (steps vs) k wr)) (fun i _=>m+1 - (intOf i).toNat)
 case atStart=>exact⟨0,rfl,Or.inl rfl,HI0⟩
 case round =>
  obtain⟨k,rfl,hkm,hh⟩:=hrel
  clear HI0
  obtain⟨wo,hwo⟩:∃wo,wo=wr:=⟨_,rfl⟩
  subst hwo
  by_cases hlt:k+1<m
  · have hki :(k:Int)<(m:Int) - 1:=by omega
    obtain⟨L,hL,hLf,hLs⟩:=hh.out.held
    have hLl:L.length=m:=by rw[HM.out.1,←hLf,List.length_map]
    obtain⟨p,hp⟩:∃p,L[k]? =some p:=⟨_,List.getElem?_eq_getElem om⟩
    obtain⟨q,hq⟩:∃q,L[k+1]? =some q:=⟨_,List.getElem?_eq_getElem om⟩
    obtain⟨P,Q,hPQ,hPl⟩:=zbz L k p q hp hq
    obtain⟨A,ha⟩:=p
    obtain⟨B,hbv⟩:=q
    have hgA:wo.cell? ⟨w.heap.size,k,none⟩=some (.pointer (some ⟨A,0,none⟩)):=by
     rw[corQ _ _ _ _ _ _ hh.out.row,←hLf]
     simp[hp,yJ]
    have hgB:wo.cell? ⟨w.heap.size,k+1,none⟩=some (.pointer (some ⟨B,0,none⟩)):=by
     rw[corQ _ _ _ _ _ _ hh.out.row,←hLf]
     simp[hq,yJ]
    have hpm:((A,ha):HP)∈L:=List.mem_of_getElem? hp
    have hqm:((B,hbv):HP)∈L:=List.mem_of_getElem? hq
    have hap:HP.apart (A,ha) (B,hbv):=by
     have h1:=hL.apart
     rw[hPQ] at h1
     exact (List.pairwise_cons.1 (List.pairwise_append.1 h1).2.1).1 _ (List.mem_cons_self ..)
    have hbd:Below w.heap.size w wo.drew:=⟨hh.out.below.os,hh.out.below.tape,hh.out.below.output,hh.out.below.size,hh.out.below.block⟩
    have hput:=zdh (w0:=w) (V:=wo.drew) (A:=A) (B:=B) (ha:=ha) (hb:=hbv) ⟨(hL.held _ hpm).kept fun _ _=>rfl,(hL.held _ hqm).kept fun _ _=>rfl,hbd,(hL.ok _ hpm).1,(hL.ok _ hqm).2,hap⟩
    have hx:(steps vs)[k]? =some ha.sf:=by rw[←hLs,sfs,List.getElem?_map,hp];rfl
    have hy:(steps vs)[k+1]? =some hbv.sf:=by rw[←hLs,sfs,List.getElem?_map,hq];rfl
    obtain⟨SW,hSW⟩:∃SW:World→Prop,SW=fun Z=>Z.cell? ⟨w.heap.size,k,none⟩=some (.pointer (some ⟨A,0,none⟩))∧Z.cell? ⟨w.heap.size,k+1,none⟩=some (.pointer (some ⟨B,0,none⟩)):=⟨_,rfl⟩
    have HSW:=hH (fun (Z:World) (h:SW Z)=>(show Z.cell? ⟨w.heap.size,k,none⟩=some (.pointer (some ⟨A,0,none⟩))∧Z.cell? ⟨w.heap.size,k+1,none⟩=some (.pointer (some ⟨B,0,none⟩)) by rw[hSW] at h;exact h))
    have hS0:SW wo.drew:=by rw[hSW];exact⟨hgA,hgB⟩
    have hnG:¬ha.own A w.heap.size:=(hL.held _ hpm).jI hh.out.row ue9 ue9
    have hSt:∀Z ha',qM w A ha ha' wo.drew Z→SW Z∧Z.heap[w.heap.size]? =wo.heap[w.heap.size]?:=fun Z ha' ht=>by
     have he:Z.heap[w.heap.size]? =wo.heap[w.heap.size]?:=ht.turned.block _ (lohQ hh.out.row) hnG
     rw[hSW]
     exact⟨⟨(World.cell?_of_block (a:=⟨w.heap.size,k,none⟩) he).trans hgA,(World.cell?_of_block (a:=⟨w.heap.size,k+1,none⟩) he).trans hgB⟩,he⟩
    have HG:=hH (aN hL (aN hLf (aN hLs (aN hPQ (aN hPl (aN hx (aN hy (aN hSt hbd))))))))
    have HPUT:=hH hput
    have HKM:=hH (aN hkm hlt)
    have hkw:IntKind.i64.wrap ((k:Int)+1)=(k:Int)+1:=IntWalk.i64_in _ om
    have hk1:(k:Int)+1<(m:Int):=by omega
    have hk0:(k:Int)<(m:Int):=by omega
    have hk2:¬(k:Int)+1<0:=by omega
    simp only[yJ] at HPUT
    clear hL hLf hLs hLl hp hq hPQ hPl hgA hgB hpm hqm hap hput hx hy hSW hSt hnG hkm hlt hbd
    go_upto_region 5 with fail
    refine jv ?_
    refine wrhQ (S:=SW) kr1 hS0 (fun uH=>?_)
    clear hS0
    refine wpAnyH_take (i:=0) (oi:=_) (v:= .slice (some ⟨w.heap.size,0,none⟩) m m) rfl kr1 kr1 kr1 (fun _ _ _ h=>by cases h.1) (Or.inl ⟨by rfl,?_⟩) ue7 ?_
    · exact ub3
    simp only[Act.put,pg]
    refine wpAnyH_take (i:=1) (oi:=_) (v:= .int .i64 (k:Int)) rfl kr1 kr1 kr1 (fun _ _ _ h=>by cases h.1) (Or.inl ⟨by rfl,?_⟩) ue7 ?_
    · exact ub3
    simp only[Act.put,pg]
    refine wpAnyH_take (i:=2) (oi:=_) (v:= .pointer (some ⟨w.heap.size,k,none⟩)) rfl kr1 kr1 kr1 (fun _ _ _ h=>by cases h.1) (Or.inl ⟨by rfl,?_⟩) ue7 ?_
    · exact ub3
    simp only[Act.put,pg]
    refine wpAnyH_take (i:=3) (oi:=_) (v:= .pointer (some ⟨A,0,none⟩)) rfl kr1 kr1 kr1 (fun _ _ _ h=>by cases h.1) (Or.inl ⟨by rfl,?_⟩) ue7 ?_
    · exact ub3
    simp only[Act.put,pg]
    refine wpAnyH_take (i:=4) (oi:=_) (v:= .slice (some ⟨w.heap.size,0,none⟩) m m) rfl kr1 kr1 kr1 (fun _ _ _ h=>by cases h.1) (Or.inl ⟨by rfl,?_⟩) ue7 ?_
    · exact ub3
    simp only[Act.put,pg]
    refine wpAnyH_take (i:=5) (oi:=_) (v:= .int .i64 (k:Int)) rfl kr1 kr1 kr1 (fun _ _ _ h=>by cases h.1) (Or.inl ⟨by rfl,?_⟩) ue7 ?_
    · exact ub3
    simp only[Act.put,pg]
    refine wpAnyH_take (i:=6) (oi:=_) (v:= .int .i64 ((k:Int)+1)) rfl kr1 kr1 kr1 (fun _ _ _ h=>by cases h.1) (Or.inl ⟨by rfl,?_⟩) ue7 ?_
    · exact ub3
    simp only[Act.put,pg]
    refine wpAnyH_take (i:=7) (oi:=_) (v:= .pointer (some ⟨w.heap.size,k+1,none⟩)) rfl kr1 kr1 kr1 (fun _ _ _ h=>by cases h.1) (Or.inl ⟨by rfl,?_⟩) ue7 ?_
    · exact ub3
    simp only[Act.put,pg]
    refine wpAnyH_take (i:=8) (oi:=_) (v:= .pointer (some ⟨B,0,none⟩)) rfl kr1 kr1 kr1 (fun _ _ _ h=>by cases h.1) (Or.inl ⟨by rfl,?_⟩) ue7 ?_
    · exact ub3
    simp only[Act.put,pg]
    refine rd [9] ?_
    refine AcQ (o:=_) rfl (fun K hK=>?_) (AnQ)
    rw[ipQ uf0]
    simp only[pg3]
    have HK:=hH hK
    clear hK uH
    go_wp2_with fail
    refine HPUT.out.mono ?_
    rintro e Z ⟨ha',ht,hcase⟩
    obtain⟨hSZ,hGZ⟩:=HG.out.2.2.2.2.2.2.2.1 Z ha' ht
    have hcs:∃v,e= .returned (.tuple #[v,.bool (yC ha.sf hbv.sf).2])∧((yC ha.sf hbv.sf).2=false→∃mm,ha'=ha.yg mm):=by
     rcases hcase with ⟨mm,h1,h2,h3⟩ | ⟨mm,h1,h2,h3⟩ | ⟨mm,h1,h2,h3⟩ | ⟨mm,ta,tc,h1,h2,h3,_⟩
     · exact⟨_,by rw[h2,h3],fun _=>⟨mm,h1⟩⟩
     · exact ub4
     · exact ub4
     · exact ub4
    obtain⟨v,rfl,hwm⟩:=hcs
    obtain⟨b,hb⟩:∃b,b=(yC ha.sf hbv.sf).2:=⟨_,rfl⟩
    rw[←hb]
    have hbZ:Below w.heap.size w Z:=⟨ht.turned.os.trans HG.out.2.2.2.2.2.2.2.2.os,ht.turned.tape.trans HG.out.2.2.2.2.2.2.2.2.tape,ht.turned.output.trans HG.out.2.2.2.2.2.2.2.2.output,NltQ HG.out.2.2.2.2.2.2.2.2.size ht.turned.size,fun x hx=>(ht.turned.block x (by have:=HG.out.2.2.2.2.2.2.2.2.size;omega) (fun e=>by
     have h9:=HG.out.1
     rw[HG.out.2.2.2.1] at h9
     have:=((h9.held (A,ha) (List.mem_append_right _ (List.mem_cons_self ..))).lt x e).1
     omega)).trans (HG.out.2.2.2.2.2.2.2.2.block x hx)⟩
    have HZ:=hH (aN ht (aN hwm (aN hb (aN hGZ hbZ))))
    clear ht hwm hcase hb hGZ hbZ
    refine HK.out _ _ hSZ (fun uH=>?_)
    clear HK hSZ
    refine wpAnyH_take (i:=10) (oi:=_) (v:= .tuple #[v,.bool b]) rfl kr1 kr1 kr1 (fun _ _ _ h=>by cases h.1) (Or.inl ⟨by rfl,?_⟩) ue7 ?_
    · clear uH;intro X hSw;clear hSw;go_simp
    simp only[Act.put,pg]
    refine wpAnyH_take (i:=11) (oi:=_) (v:=v) rfl kr1 kr1 kr1 (fun _ _ _ h=>by cases h.1) (Or.inl ⟨by rfl,?_⟩) ue7 ?_
    · clear uH;intro X hSw;clear hSw;go_simp
    simp only[Act.put,pg]
    refine wpAnyH_take (i:=12) (oi:=_) (v:= .bool b) rfl kr1 kr1 kr1 (fun _ _ _ h=>by cases h.1) (Or.inl ⟨by rfl,?_⟩) ue7 ?_
    · clear uH;intro X hSw;clear hSw;go_simp
    simp only[Act.put,pg]
    refine wpAnyH_take (i:=13) (oi:=_) (v:=v) rfl kr1 kr1 kr1 (fun _ _ _ h=>by cases h.1) (Or.inl ⟨by rfl,?_⟩) ue7 ?_
    · clear uH;intro X hSw;clear hSw;go_simp
    simp only[Act.put,pg]
    refine wpAnyH_take (i:=14) (oi:=_) (v:= .bool b) rfl kr1 kr1 kr1 (fun _ _ _ h=>by cases h.1) (Or.inl ⟨by rfl,?_⟩) ue7 ?_
    · clear uH;intro X hSw;clear hSw;go_simp
    simp only[Act.put,pg]
    refine wpAnyH_done kr1 ?_ _
    refine⟨rfl,?_⟩
    clear uH
    obtain⟨ht,hwm,hb,hGZ,hbZ⟩:=HZ.out
    cases b with
    | true=>
      have HE:Hid (IsC (steps vs) w (.returned (.bool false)) Z):=hH ⟨by
       rw[zaB (steps vs) k ha.sf hbv.sf HG.out.2.2.2.2.2.1 HG.out.2.2.2.2.2.2.1 (fun j x y hj=>hh.out.no j x y hj) hb.symm];rfl,hbZ⟩
      clear ht hwm hb hGZ hbZ HZ hh
      go_wp2_with fail
      go_ret
      exact HE.out
    | false =>
      obtain⟨mm,rfl⟩:=hwm hb.symm
      have hnx:Hid (IsI w hbs (steps vs) (k+1) Z):=hH (by
       have h9:=HG.out.1
       have e9:=HG.out.2.2.2.1
       rw[e9] at h9
       have h9d:jy w wo.drew (P++(A,ha)::(B,hbv)::Q):=h9.kept fun _ _ _ _=>rfl
       refine⟨hGZ.trans hh.out.row,⟨P++(A,ha.yg mm)::(B,hbv)::Q,h9d.turn ht (Qr (h9.ok (A,ha) (List.mem_append_right _ (List.mem_cons_self ..))).1 mm),?_,?_⟩,hbZ,fun j x y hj hx hy=>?_⟩
       · rw[←HG.out.2.1,e9];simp
       · rw[←HG.out.2.2.1,e9];simp[sfs];rfl
       · by_cases hjk:j=k
         · subst hjk
           rw[HG.out.2.2.2.2.2.1] at hx
           rw[HG.out.2.2.2.2.2.2.1] at hy
           cases hx;cases hy
           exact hb.symm
         · exact hh.out.no j x y om hx hy)
      clear ht hwm hb hGZ hbZ HZ hh
      go_wp2_with fail
      exact⟨⟨k+1,by go_num,Or.inr (by have:=HKM.out.2;omega),hnx⟩,by have:=HKM.out.2;simp[intOf];omega⟩
  · have hki:¬(k:Int)<(m:Int) - 1:=by omega
    have HE:Hid (IsC (steps vs) w (.returned (.bool true)) wo):=hH ⟨by
     rw [YN (steps vs) (fun j x y hx hy=>hh.out.no j x y (by
      have h1:=(List.getElem?_eq_some_iff.1 hy).1
      rw[HM.out.2] at h1
      omega) hx hy)];rfl,hh.out.below⟩
    clear hh hkm hlt
    go_wp2_with fail
    go_ret
    exact HE.out
end Go.Proofs.Ytnikgofkldkdkaa
