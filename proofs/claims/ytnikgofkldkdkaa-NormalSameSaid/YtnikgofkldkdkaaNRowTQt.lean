/-
  .
-/
import Derived.Test.YtnikgofkldkdkaaNShortQt
set_option maxRecDepth 100000
set_option maxHeartbeats 40000000
namespace Go.Proofs.Ytnikgofkldkdkaa
open Go.RowKit Go.Shelf
attribute [local go_sem] Oper.semAt_some
set_option linter.unusedVariables false
set_option linter.unusedSimpArgs false
theorem zhf (w:World)(va ra:Option Addr)(n m c:Nat)(olds news:List Value)(hol:olds.length=n)(ho:∀(j:Nat) (u:Value),olds[j]? =some u→∃b o,va=some ⟨b,o,none⟩∧w.cell? ⟨b,o+j,none⟩=some u)
 (hnl:news.length=m) (hnw:∀(j:Nat) (u:Value),news[j]? =some u→∃b o,ra=some ⟨b,o,none⟩∧w.cell? ⟨b,o+j,none⟩=some u) (hb:n+m≤100000) (hv0:n=0→va=none→True):
 ∃a' c' W,(Builtin.append_ #[71,71] 71 #[.slice va n n,.slice ra m c]).run Try.prog w= .ok (.slice a' (n+m) c') W∧Below w.heap.size w W∧∀(j:Nat) (u:Value),(olds++news)[j]? =some u→∃b o,a'=some ⟨b,o,none⟩∧b<W.heap.size∧W.cell? ⟨b,o+j,none⟩=some u:=by
 obtain⟨i0,z0,hi0,hz0,hz1,hz2,hz3⟩:=zW Try.zhF
 have ht:=Try.underlying71
 by_cases hm:m=0
 · subst hm
   have hnil:news= []:=List.eq_nil_of_length_eq_zero hnl
   subst hnil
   refine⟨va,n,w,?_,BrQ _ _,fun j u hj=>?_⟩
   · cases va<;>cases ra<;>simp[Builtin.append_,run_underlying ht,sizeOf,typeInfo,hi0,Builtin.lenOf,Builtin.firstCells,storeCells,loadCells,loadCellsFrom]
   · rw[List.append_nil] at hj
     obtain⟨b,o,e,hc⟩:=ho j u hj
     exact⟨b,o,e,World.block_lt_of_cell? _ _ hc,hc⟩
 · have hsz:i0.size=1:=hz1
   obtain⟨u0,hu0⟩:∃u,news[0]? =some u:=⟨_,List.getElem?_eq_getElem om⟩
   obtain⟨rb,ro,hra,_⟩:=hnw 0 u0 hu0
   subst hra
   have hnews:∀j u,news[j]? =some u→w.cell? ((⟨rb,ro,none⟩:Addr).add j)=some u:=fun j u hj=>by
    obtain⟨b,o,e,hc⟩:=hnw j u hj
    cases e
    rw[Addr.add_mid];exact hc
   have hfin:∀(W:World) (cs:Array Value),W=w.drew.alloc (.cells cs 73)→(∀(j:Nat) (u:Value),(olds++news)[j]? =some u→cs[j]? =some u)→Below w.heap.size w W∧∀(j:Nat) (u:Value),(olds++news)[j]? =some u→∃b o,(some ⟨w.heap.size,0,none⟩:Option Addr)=some ⟨b,o,none⟩∧b<W.heap.size∧W.cell? ⟨b,o+j,none⟩=some u:=fun W cs hW hcs=>by
    have hn:=hanQ w.drew (.cells cs 73)
    have hbl:=(BrQ w.heap.size w.drew).alloc (NlrQ _) (.cells cs 73)
    rw[hW]
    refine⟨⟨hbl.os,hbl.tape,hbl.output,hbl.size,hbl.block⟩,fun j u hj=>⟨w.heap.size,0,rfl,lohQ hn,?_⟩⟩
    show (w.drew.alloc (.cells cs 73)).cell? ⟨w.drew.heap.size,0+j,none⟩=some u
    rw[corQ _ _ _ _ _ _ hn,Nat.zero_add]
    exact hcs j u hj
   cases va with
   | none =>
     have hn0:n=0:=by
      cases olds with
      | nil=>simpa using hol.symm
      | cons x xs=>
        obtain⟨b,o,e,_⟩:=ho 0 x rfl
        cases e
     subst hn0
     have holds:olds= []:=List.eq_nil_of_length_eq_zero hol
     subst holds
     have hr:=run_append_nil (P:=Try.prog) w 71 71 73 i0 z0 ht hi0 hz0 ⟨rb,ro,none⟩ m c news (by rw[hsz,hnl,Nat.mul_one]) hnews om om (by rw[hz2];omega)
     obtain⟨h1,h2⟩:=hfin _ (news.toArray++Builtin.zeroCells z0.cells (grownCap w m 0 73 - m)) rfl (fun j u hj=>by
      rw[List.nil_append] at hj
      have hjl:j<news.toArray.size:=(List.getElem?_eq_some_iff.1 hj).1
      rw[Array.getElem?_append_left hjl]
      simpa using hj)
     exact⟨some ⟨w.heap.size,0,none⟩,_,_,by rw[Nat.zero_add];exact hr,h1,h2⟩
   | some ad=>
     have holds:∀j u,olds[j]? =some u→w.cell? (ad.add j)=some u:=fun j u hj=>by
      obtain⟨b,o,e,hc⟩:=ho j u hj
      cases e
      rw[Addr.add_mid];exact hc
     have hr:=run_append_grow (P:=Try.prog) w 71 71 73 i0 z0 ht hi0 hz0 ad n n olds (by rw[hsz,hol,Nat.mul_one]) holds ⟨rb,ro,none⟩ m c news (by rw[hsz,hnl,Nat.mul_one]) hnews om om (growslice_fits om (by rw[hz2];omega))
     obtain⟨h1,h2⟩:=hfin _ (olds.toArray++news.toArray++Builtin.zeroCells z0.cells (grownCap w (n+m) n 73 - (n+m))) rfl (fun j u hj=>by
      have e:olds.toArray++news.toArray=(olds++news).toArray:=by simp
      rw[e]
      have hjl:j<(olds++news).toArray.size:=(List.getElem?_eq_some_iff.1 hj).1
      rw[Array.getElem?_append_left hjl]
      simpa using hj)
     exact⟨some ⟨w.heap.size,0,none⟩,_,_,hr,h1,h2⟩
structure RTI (w X:World) (L:List HP) (k:Nat) (lv:Value) (js:List SV) (V:World):Prop where
 row:V.ownsRow X.heap.size 49 9 lv k (yL js)
 len:js.length=k
 st:steps js=(sfs L).take k
 lies:∀x∈js,foLen x.s.sub.kids≤x.c∧zk V (Beside V lv) x.s.sub.kids x.a
 fit:∀x∈js,za x.s.sub.kids+1≤100000
 below:Below X.heap.size X V
theorem RTI.next {w X V U V2 W:World}{L:List HP}{k:Nat}{lv lv' :Value}{js:List SV}{p:HP}{va:Option Addr}{vc:Nat}(h:RTI w X L k lv js V)(hp:L[k]? =some p)(hz:za p.2.sf.sub.kids+1≤100000)(hvc:foLen p.2.sf.sub.kids≤vc)(hf:zk V2 (kP V V2) p.2.sf.sub.kids va)(hb:Below V.heap.size V V2)(hU:Below V2.heap.size V2 U)
 (hown:W.ownsRow X.heap.size 49 9 lv' (k+1) (yL js++vO p.2.sf va vc)) (hgr:U.grownBy W lv.ownBlock) (hat:lv'.ownBlock=lv.ownBlock∨lv'.ownBlock=some U.heap.size):RTI w X L (k+1) lv' (js++[⟨p.2.sf,va,vc⟩]) W:=by
 have hXs:=h.below.size
 have hbs:=hb.size
 have hUs:=hU.size
 have hlo:∀q,lv.ownBlock=some q→X.heap.size≤q∧q<V.heap.size:=fun q hq=>zi h.row hq
 have hk1:∀q,q<U.heap.size→lv.ownBlock≠some q→W.heap[q]? =U.heap[q]?:=fun q h1 h2=>hgr.block q h1 (fun e=>h2 e.symm)
 have hgs:=hgr.size
 refine⟨?_,by simp[h.len],?_,fun x hx=>?_,fun x hx=>?_,?_⟩
 · have:yL (js++[⟨p.2.sf,va,vc⟩])=yL js++vO p.2.sf va vc:=by simp[yL]
   rw[this];exact hown
 · rw[steps,List.map_append,List.take_add_one]
   have h1:=h.st
   unfold steps at h1
   rw[h1]
   congr 1
   rw[sfs,List.getElem?_map,hp];rfl
 · rcases List.mem_append.1 hx with hx | hx
   · obtain⟨h1,h2⟩:=h.lies x hx
     refine⟨h1,h2.kept fun q hq=>⟨⟨by have:=hq.1;omega,fun e=>?_⟩,(hk1 q (by have:=hq.1;omega) hq.2).trans ((hU.block q (by have:=hq.1;omega)).trans (hb.block q hq.1))⟩⟩
     rcases hat with h3 | h3
     · exact hq.2 (by rw[←h3];exact e)
     · rw[h3] at e
       have:=Option.some.inj e
       have:=hq.1
       omega
   · rw [List.mem_singleton] at hx
     subst hx
     refine⟨hvc,hf.kept fun q hq=>⟨⟨by have:=hq.2;omega,fun e=>?_⟩,(hk1 q (by have:=hq.2;omega) (fun e=>by have:=(hlo q e).2;have:=hq.1;omega)).trans (hU.block q hq.2)⟩⟩
     rcases hat with h3 | h3
     · rw[h3] at e
       have:=(hlo q e).2
       have:=hq.1
       omega
     · rw[h3] at e
       have:=Option.some.inj e
       have:=hq.2
       omega
 · rcases List.mem_append.1 hx with hx | hx
   · exact h.fit x hx
   · rw[List.mem_singleton] at hx;subst hx;exact hz
 · refine⟨hgr.os.trans (hU.os.trans (hb.os.trans h.below.os)),hgr.tape.trans (hU.tape.trans (hb.tape.trans h.below.tape)),hgr.output.trans (hU.output.trans (hb.output.trans h.below.output)),by have:=hgr.size;omega,fun q hq=>?_⟩
   rw[hk1 q om (fun e=>by have:=(hlo q e).1;omega),hU.block q om,hb.block q om]
   exact h.below.block q hq
theorem zgp {w0 w:World}{R:Nat}{l:List Sf}(h:vR w0 R l w):Calls Try.prog 24 #[.pointer (some ⟨R,0,none⟩)] w (OfC l w):=by
 obtain⟨ga,gc,H,ra,rc,gone,rest,hI⟩:=h
 obtain⟨m,hm⟩:∃m,m=gone.length:=⟨_,rfl⟩
 obtain⟨n,hn⟩:∃n,n=rest.length:=⟨_,rfl⟩
 have hob:=hI.row.obj
 rw[←hm,←hn] at hob
 have hgr:=hI.row.grow
 rw[←hm] at hgr
 have hlen:=hI.len
 rw[LlaQ,←hm,←hn] at hlen
 have hmc:m≤gc:=by
  rcases hgr.2 with ⟨hv,h0⟩ | ⟨_,_,_,hv,_,_,h3,_⟩
  · omega
  · cases hv;exact h3
 obtain⟨ta,tc,X,hrun,hbX,hcX⟩:=zhf w.drew ga ra m n rc (ptrs gone) (ptrs rest) (by simp[ptrs,hm]) (fun j u hj=>by
  have hpos:0<m:=by have:=(List.getElem?_eq_some_iff.1 hj).1;simp[ptrs] at this;omega
  obtain⟨g,cap,e,_⟩:=hgr.form hpos
  cases e
  exact⟨g,0,rfl,by rw[Nat.zero_add];exact zC hgr rfl j u hj⟩) (by simp[ptrs,hn]) (fun j u hj=>by
  rw[ptrs,List.getElem?_map] at hj
  obtain⟨p,hp,rfl⟩:=Option.map_eq_some_iff.1 hj
  obtain⟨o,e,hc⟩:=hI.row.hrow j p hp
  exact⟨H,o,e,hc⟩) om (fun _ _=>trivial)
 have hbX' :Below w.heap.size w X:=⟨hbX.os,hbX.tape,hbX.output,hbX.size,hbX.block⟩
 obtain⟨L,hL⟩:∃L,L=gone++rest:=⟨_,rfl⟩
 have hLl:L.length=m+n:=by rw[hL,LlaQ,hm,hn]
 have hrow:jy w0 X L:=by rw[hL];exact hI.row.held.below hbX'
 have hall:sfs L=l:=by rw[hL,qL];exact hI.all
 have hcL:∀k p,L[k]? =some p→∃b o,ta=some ⟨b,o,none⟩∧b<X.heap.size∧X.cell? ⟨b,o+k,none⟩=some (yJ p.1):=fun k p hp=>by
  have e:ptrs gone++ptrs rest=ptrs L:=by rw[hL];simp[ptrs]
  rw[e] at hcX
  exact hcX k _ (by rw[ptrs,List.getElem?_map,hp];rfl)
 have hB0:Below w0.heap.size w0 X:=hI.below.trans (hbX'.mono hI.below.size)
 have hR0:RTI w X L 0 (.slice none 0 0) [] X:=⟨World.ownsRow_nil _ _ _ _,rfl,by simp[steps],fun x hx=>by simp at hx,fun x hx=>by simp at hx,BrQ _ _⟩
 have hLl2:L.length=m+n:=hLl
 have HX:=hH (aN hrow (aN hall (aN hcL (aN hB0 (aN hbX' hLl2)))))
 have HR0:=hH hR0
 have HRUN0:=hH hrun
 obtain⟨N,hN⟩:∃N,N=m+n:=⟨_,rfl⟩
 have hmn9:N≤10000:=by omega
 have HNE:=hH hN
 obtain⟨i0,z0,hi0,hz0,hz1,hz2,hz3⟩:=zW Try.zfa
 have HIN:=hH (aN hi0 (aN hz0 (aN hz1 (aN hz2 hz3))))
 have c0:w.cell? ⟨R,0,none⟩=some (.slice ga m gc):=by rw[corQ _ _ _ _ _ _ hob];rfl
 have c1:w.cell? ⟨R,1,none⟩=some (.slice ra n rc):=by rw[corQ _ _ _ _ _ _ hob];rfl
 obtain⟨SW,hSW⟩:∃SW:World→Prop,SW=fun Z=>Z.cell? ⟨R,0,none⟩=some (.slice ga m gc)∧Z.cell? ⟨R,1,none⟩=some (.slice ra n rc):=⟨_,rfl⟩
 have HSW:=hH (fun (Z:World) (h:SW Z)=>(show Z.cell? ⟨R,0,none⟩=some (.slice ga m gc)∧Z.cell? ⟨R,1,none⟩=some (.slice ra n rc) by rw[hSW] at h;exact h))
 have hS0:SW w.drew:=by rw[hSW];exact⟨c0,c1⟩
 have hSX:SW X:=by rw[hSW];exact⟨(World.cell?_of_block (a:=⟨R,0,none⟩) (hbX'.block R (lohQ hob))).trans c0,(World.cell?_of_block (a:=⟨R,1,none⟩) (hbX'.block R (lohQ hob))).trans c1⟩
 have HS:=hH (aN hS0 hSX)
 rw[←hN] at hrun hLl
 have HRUN:=hH hrun
 clear HRUN0
 clear hN
 clear hrow hall hcL hB0 hR0 hrun hcX hbX hbX' hLl hLl2 hL hob hgr hlen hI hS0 hSX hSW hi0 hz0 hz1 hz2 hz3 hm hn
 go_enter Try.func24,Try.ntmps24
 go_upto_region 3 with fail
 refine jv ?_
 refine wrhQ (S:=SW) kr1 HS.out.1 (fun uH=>?_)
 refine wpAnyH_take (i:=0) (oi:=_) (v:= .pointer (some ⟨R,0,none⟩)) rfl kr1 kr1 kr1 (fun _ _ _ h=>by cases h.1) (Or.inl ⟨by rfl,?_⟩) ue7 ?_
 · exact ub3
 simp only[Act.put,pg]
 refine wpAnyH_take (i:=1) (oi:=_) (v:= .pointer (some ⟨R,0,none⟩)) rfl kr1 kr1 kr1 (fun _ _ _ h=>by cases h.1) (Or.inl ⟨by rfl,?_⟩) ue7 ?_
 · exact ub3
 simp only[Act.put,pg]
 refine wpAnyH_take (i:=2) (oi:=_) (v:= .pointer (some ⟨R,0,none⟩)) rfl kr1 kr1 kr1 (fun _ _ _ h=>by cases h.1) (Or.inl ⟨by rfl,?_⟩) ue7 ?_
 · exact ub3
 simp only[Act.put,pg]
 refine wpAnyH_take (i:=3) (oi:=_) (v:= .slice ga m gc) rfl kr1 kr1 kr1 (fun _ _ _ h=>by cases h.1) (Or.inl ⟨by rfl,?_⟩) ue7 ?_
 · exact ub3
 simp only[Act.put,pg]
 refine wpAnyH_take (i:=4) (oi:=_) (v:= .int .i64 (m:Int)) rfl kr1 kr1 kr1 (fun _ _ _ h=>by cases h.1) (Or.inl ⟨by rfl,?_⟩) ue7 ?_
 · exact ub3
 simp only[Act.put,pg]
 refine wpAnyH_take (i:=5) (oi:=_) (v:= .int .i64 (m:Int)) rfl kr1 kr1 kr1 (fun _ _ _ h=>by cases h.1) (Or.inl ⟨by rfl,?_⟩) ue7 ?_
 · exact ub3
 simp only[Act.put,pg]
 refine wpAnyH_take (i:=6) (oi:=_) (v:= .slice ga m m) rfl kr1 kr1 kr1 (fun _ _ _ h=>by cases h.1) (Or.inl ⟨by rfl,?_⟩) ue7 ?_
 · exact ub3
 simp only[Act.put,pg]
 refine wpAnyH_take (i:=7) (oi:=_) (v:= .pointer (some ⟨R,0,none⟩)) rfl kr1 kr1 kr1 (fun _ _ _ h=>by cases h.1) (Or.inl ⟨by rfl,?_⟩) ue7 ?_
 · exact ub3
 simp only[Act.put,pg]
 refine wpAnyH_take (i:=8) (oi:=_) (v:= .pointer (some ⟨R,0,none⟩)) rfl kr1 kr1 kr1 (fun _ _ _ h=>by cases h.1) (Or.inl ⟨by rfl,?_⟩) ue7 ?_
 · exact ub3
 simp only[Act.put,pg]
 refine wpAnyH_take (i:=9) (oi:=_) (v:= .pointer (some ⟨R,1,none⟩)) rfl kr1 kr1 kr1 (fun _ _ _ h=>by cases h.1) (Or.inl ⟨by rfl,?_⟩) ue7 ?_
 · exact ub3
 simp only[Act.put,pg]
 refine wpAnyH_take (i:=10) (oi:=_) (v:= .slice ra n rc) rfl kr1 kr1 kr1 (fun _ _ _ h=>by cases h.1) (Or.inl ⟨by rfl,?_⟩) ue7 ?_
 · exact ub3
 simp only[Act.put,pg]
 refine wpAnyH_take (i:=13) (oi:=_) (v:= .int .i64 0) rfl kr1 kr1 kr1 (fun _ _ _ h=>by cases h.1) (Or.inl ⟨by rfl,?_⟩) ue7 ?_
 · clear uH;intro X hSw;clear hSw;go_simp
 simp only[Act.put,pg]
 refine rd [11] ?_
 refine AcQ (o:=_) rfl (fun K hK=>?_) (AnQ)
 refine yj rfl (.tmp 18) (.tmp 22) 71 71 rfl (.slice ga m m) (.slice ra n rc) ud7 ud7 HRUN.out (hK _ _ HS.out.2 (fun uH=>?_))
 clear hK
 refine wpAnyH_take (i:=12) (oi:=_) (v:= .int .i64 (N:Int)) rfl kr1 kr1 kr1 (fun _ _ _ h=>by cases h.1) (Or.inl ⟨by rfl,?_⟩) ue7 ?_
 · clear uH;intro X hSw;clear hSw;go_simp
 simp only[Act.put,pg]
 refine wpAnyH_done kr1 ?_ _
 refine⟨rfl,?_⟩
 clear uH
 go_wp2_with fail
 go_loopw [3,25] (fun lv i wr=>∃k:Nat,k≤N∧i= .int .i64 (k:Int)∧∃js,Hid (RTI w X L k lv js wr)) (fun _ i _=>N - (intOf i).toNat)
 case atStart=>exact⟨0,NzlQ _,rfl,[],HR0⟩
 case round=>
  obtain⟨k,hk,rfl,js,hh⟩:=hrel
  clear HR0
  obtain⟨wo,hwo⟩:∃wo,wo=wr:=⟨_,rfl⟩
  subst hwo
  obtain⟨lv,hlv⟩:∃lv,lv=u3:=⟨_,rfl⟩
  subst hlv
  by_cases hlt:k<N
  · have hki:(k:Int)<(N:Int):=by omega
    obtain⟨p,hp⟩:∃p,L[k]? =some p:=⟨_,List.getElem?_eq_getElem (by rw[HX.out.2.2.2.2.2,←HNE.out];exact hlt)⟩
    have hpm:=List.mem_of_getElem? hp
    obtain⟨tb,to,rfl,htb,hcp⟩:=HX.out.2.2.1 k p hp
    have hbw:=hh.out.below
    have hcw:wo.cell? ⟨tb,to+k,none⟩=some (.pointer (some ⟨p.1,0,none⟩)):=(World.cell?_of_block (a:=⟨tb,to+k,none⟩) (hbw.block tb htb)).trans hcp
    have hheld:=(HX.out.1.below hbw).held p hpm
    have htold:=ziu hheld (HX.out.2.2.2.1.trans (hbw.mono HX.out.2.2.2.1.size)) (HX.out.1.ok p hpm).1
    have hz:za p.2.sf.sub.kids+1≤100000:=by
     show za (jk _ _).kids+1≤100000
     rw[zbB]
     exact (HX.out.1.ok p hpm).1.small
    have HT:=hH htold
    have HPP:=hH (aN hp (aN hz hk))
    have hkw:IntKind.i64.wrap ((k:Int)+1)=(k:Int)+1:=IntWalk.i64_in _ om
    have hk9:k<10000:=by omega
    clear hp hpm hcp hheld htold hz hbw htb hk hlt
    go_wp2_with fail
    refine HT.out.mono ?_
    rintro e V2 ⟨va,vc,rfl,hvc,hvf,hb2⟩
    obtain⟨sf,hsf⟩:∃sf,sf=p.2.sf:=⟨_,rfl⟩
    rw[←hsf] at hvc hvf ⊢
    obtain⟨sn,hsn⟩:∃sn,sn=foLen sf.sub.kids:=⟨_,rfl⟩
    rw[←hsn]
    obtain⟨U,hU⟩:∃U,U=V2.alloc (.cells #[.int .i8 sf.op,.int .i64 sf.id,.int .i64 sf.par,.int .i64 sf.at_,.string sf.tx,.int .i64 sf.sub.id,.int .i64 sf.sub.kind,.string sf.sub.text,.slice va sn vc] 49):=⟨_,rfl⟩
    have hUn:U.heap[V2.heap.size]? =some (.cells #[.int .i8 sf.op,.int .i64 sf.id,.int .i64 sf.par,.int .i64 sf.at_,.string sf.tx,.int .i64 sf.sub.id,.int .i64 sf.sub.kind,.string sf.sub.text,.slice va sn vc] 49 (0,0)):=by rw[hU];exact hanQ _ _
    have hUb:Below V2.heap.size V2 U:=by rw[hU];exact (BrQ _ _).alloc (NlrQ _) _
    have hrU:=zA (w':=U) hh.out.row (fun q cur hq _=>(hUb.block q (by have:=lohQ hq;have:=hb2.size;omega)).trans (hb2.block q (lohQ hq)))
    have hXU:X.heap.size≤U.heap.size:=by have:=hh.out.below.size;have:=hb2.size;have:=hUb.size;omega
    have HS2:=hH (aN hvc (aN hvf (aN hb2 (aN hUb (aN hUn (aN hrU (aN hXU (aN hsf hsn))))))))
    have HUE:=hH hU
    clear hvc hvf hb2 hUb hUn hrU hXU hsf hsn hU HT hcw
    go_upto_region 7 with (at_builtin;change wpList _ _ _ _ _ (V2.alloc (.cells #[.int .i8 sf.op,.int .i64 sf.id,.int .i64 sf.par,.int .i64 sf.at_,.string sf.tx,.int .i64 sf.sub.id,.int .i64 sf.sub.kind,.string sf.sub.text,.slice va sn vc] 49));rw[←HUE.out];refine wpList_append_own_at _ rfl (.tmp 29) (.tmp 32) _ rfl X.heap.size 49 i0 z0 9 104 Try.underlying28 HIN.out.1 HIN.out.2.1 HIN.out.2.2.1 HIN.out.2.2.2.1 HIN.out.2.2.2.2 om lv k (yL js) rfl HS2.out.2.2.2.2.2.1 ⟨V2.heap.size,0,none⟩ 1 1 (vO sf va vc) rfl rfl (fun i u hu=>by rw[Yt,corQ _ _ _ _ _ _ HS2.out.2.2.2.2.1,HS2.out.2.2.2.2.2.2.2.2];simpa [vO] using hu) (JU [⟨sf,va,vc⟩] |> fun h u hu=>h u (by simpa [yL] using hu)) ue1 om HS2.out.2.2.2.2.2.2.1 ?_;intro lv' W hown hgrow hnil hat;have HN:=hH (hh.out.next HPP.out.1 HPP.out.2.1 (by rw[←HS2.out.2.2.2.2.2.2.2.1];exact HS2.out.1) (by rw[←HS2.out.2.2.2.2.2.2.2.1];exact HS2.out.2.1) HS2.out.2.2.1 HS2.out.2.2.2.1 (by rw[←HS2.out.2.2.2.2.2.2.2.1];exact hown) hgrow hat);clear hown hgrow hnil hat)
    go_wp2_with fail
    exact⟨⟨k+1,by have:=HPP.out.2.2;omega,by go_num,_,HN⟩,by simp[intOf];omega⟩
  · have hki:¬(k:Int)<(N:Int):=by omega
    have hkN:k=N:=by omega
    have HE:Hid (OfC l w (.returned lv) wo):=hH (by
     have hr:=hh.out
     have hl:=hr.len
     have hL9:L.length=N:=by rw[HX.out.2.2.2.2.2,HNE.out]
     obtain⟨a,c,e,hS⟩:=zih (w:=X) (X:=wo) (v:=lv) (n:=k) (vs:=js) hl.symm hr.row (fun x hx=>⟨(hr.lies x hx).1,(hr.lies x hx).2.kept fun q hq=>⟨hq.1,rfl⟩⟩) hr.fit om
     refine⟨a,k,c,js,by rw[e],hS,?_,HX.out.2.2.2.2.1.trans (hr.below.mono HX.out.2.2.2.2.1.size)⟩
     rw[hr.st,HX.out.2.1,List.take_of_length_le]
     rw[←HX.out.2.1,zjk,hL9];omega)
    clear hh hk hlt hkN
    go_wp2_with fail
    go_ret
    exact HE.out
end Go.Proofs.Ytnikgofkldkdkaa
