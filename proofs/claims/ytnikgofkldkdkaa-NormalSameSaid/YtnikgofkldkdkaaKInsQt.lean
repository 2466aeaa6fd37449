/-
  .
-/
import Derived.Test.YtnikgofkldkdkaaHWalkPQt
set_option maxRecDepth 100000
set_option maxHeartbeats 40000000
namespace Go.Proofs.Ytnikgofkldkdkaa
open Go.RowKit Go.Lib
set_option linter.unusedVariables false
set_option linter.unusedSimpArgs false
theorem qy {b:Nat}{t:TypeId}:∀(vs pre mid post:List Value) (w:World),w.heap[b]? =some (.cells (pre++(mid++post)).toArray t (0,0))→mid.length=vs.length→
 (w.setCells b pre.length vs).heap[b]? =some (.cells (pre++(vs++post)).toArray t (0,0))
 | [],pre,mid,post,w,h,hl=>by
   have:mid= []:=List.eq_nil_of_length_eq_zero (by simpa using hl)
   subst this
   exact h
 | v::r,pre,[],post,w,h,hl=>by simp at hl
 | v ::r,pre,p::ps,post,w,h,hl=>by
   have h1:=hssQ w b pre.length _ _ v h
   have e:((pre++(p::ps++post)).toArray.setIfInBounds pre.length v)=((pre++[v])++(ps++post)).toArray:=by simp
   rw[e] at h1
   have:=qy r (pre++[v]) ps post (w.setCell ⟨b,pre.length,none⟩ v) h1 (by simpa using hl)
   rw[LlaQ,List.append_assoc] at this
   exact this
theorem qz {b:Nat}:∀(vs:List Value) (o:Nat) (w:World),(w.setCells b o vs).heap.size=w.heap.size∧(w.setCells b o vs).os=w.os∧(w.setCells b o vs).tape=w.tape∧(w.setCells b o vs).output=w.output∧∀y,y≠b→(w.setCells b o vs).heap[y]? =w.heap[y]?
 | [],o,w=>⟨rfl,rfl,rfl,rfl,fun _ _=>rfl⟩
 | v ::r,o,w=>by
   obtain⟨h1,h2,h3,h4,h5⟩:=qz r (o+1) (w.setCell ⟨b,o,none⟩ v)
   exact⟨h1.trans (by simp[World.setCell]),h2,h3,h4,fun y hy=>(h5 y hy).trans (BhsQ _ _ _ _ hy)⟩
theorem vw {w:World}{g:Nat}{cs:List Value}{t:TypeId}(hg:w.heap[g]? =some (.cells cs.toArray t (0,0))){j:Nat}(h:j<cs.length):(w.cell? ⟨g,j,none⟩).isSome=true∧w.frozen? ⟨g,j,none⟩=false:=⟨by
 rw[corQ w _ _ _ _ _ hg,List.getElem?_toArray,List.getElem?_eq_getElem h];rfl,forQ w _ _ _ _ hg⟩
theorem jS {w:World}{g:Nat}{cs:List Value}{t:TypeId}(hg:w.heap[g]? =some (.cells cs.toArray t (0,0)))(j:Nat):w.cell? ⟨g,j,none⟩=cs[j]?:=by
 rw[corQ w _ _ _ _ _ hg,List.getElem?_toArray]
theorem jr {P:Program}(w:World)(dT sT ty elem:TypeId)(sz b o dLen dCap:Nat)(a:Addr)(sLen sCap m:Nat)(cs:List Value)
 (hu:P.underlying dT=some (.slice elem)) (hs:(P.info? elem).map (·.size)=some sz) (hn:m=Nat.min sLen dLen) (hm:cs.length=m*sz)
 (hsrc:∀j v,cs[j]? =some v→w.cell? (a.add j)=some v) (hc:∀j,j<cs.length→(w.cell? ⟨b,o+j,none⟩).isSome=true) (hf:∀j,j<cs.length→w.frozen? ⟨b,o+j,none⟩=false) (h1:∀v∈cs,v.oneCell'=true):
 (Builtin.copy_ #[dT,sT] ty #[.slice (some ⟨b,o,none⟩) dLen dCap,.slice (some a) sLen sCap]).run P w= .ok (goInt m) (w.setCells b o cs):=by
 have hl:=run_loadCells_list (P:=P) w a cs hsrc
 have hst:=run_storeCells_cells (P:=P) b o cs 0 w (by simpa using hc) (by simpa using hf) h1
 cases hq:P.info? elem with
 | none=>simp[hq] at hs
 | some i=>
   have hi:i.size=sz:=by simpa [hq] using hs
   simp[Builtin.copy_,run_underlying hu,Builtin.lenOf,Builtin.firstCells,sizeOf,typeInfo,hq,hi,←hn,←hm,hl,hst]
theorem YP {w:World}{B g n cap:Nat}{xs:List Value}(h:w.ownsRow B 27 4 (.slice (some ⟨g,0,none⟩) n cap) n xs):
 ∃sp,w.heap[g]? =some (.cells (xs++sp).toArray 27 (0,0))∧n≤cap∧cap≤maxLen∧(xs++sp).length=cap*4∧B≤g:=by
 rcases h.2 with ⟨h',_⟩ | ⟨g',cap',cur,h',hb,hg,hnc,hcm,hcs,htake⟩
 · simp at h'
 · simp only[Value.slice.injEq,Option.some.injEq,Addr.mk.injEq,and_true,true_and] at h'
   obtain⟨rfl,rfl⟩:=h'
   have e:xs++cur.toList.drop (n*4)=cur.toList:=by rw[←htake,List.take_append_drop]
   refine⟨cur.toList.drop (n*4),?_,hnc,hcm,?_,hb⟩
   · rw[e];simpa using hg
   · rw[e];simpa using hcs
theorem QX {w:World}{B g n cap:Nat}{xs sp:List Value}(hx:xs.length=n*4)(hg:w.heap[g]? =some (.cells (xs++sp).toArray 27 (0,0)))(hn:n≤cap)(hm:cap≤maxLen)(hs:(xs++sp).length=cap*4)(hB:B≤g):
 w.ownsRow B 27 4 (.slice (some ⟨g,0,none⟩) n cap) n xs:=
 ⟨hx,.inr ⟨g,cap,_,rfl,hB,hg,hn,hm,by simpa using hs,by rw[←hx];simp⟩⟩
def zdK (w:World)(B:Nat)(ob:Option Nat)(n:Nat)(ys:List Value)(e:Ending)(w' :World):Prop:=∃v',e= .returned v'∧w'.ownsRow B 27 4 v' n ys∧w.grownBy w' ob
theorem Zy (z:Array Value)(n:Nat):(Builtin.zeroCells z n).toList.length=n*z.size:=by simp[Builtin.zeroCells]
theorem ziX (w:World)(B n vb:Nat)(sv:Value)(xs vs:List Value)(h:w.ownsRow B 27 4 sv n xs)(hB:B≤w.heap.size)(hn:n≤1000000)(hv:w.heap[vb]? =some (.cells vs.toArray 27 (0,0)))(hvl:vs.length=4)(h1v:∀v∈vs,v.oneCell'=true):
 Calls Try.prog 108 #[sv,.int .i64 n,.slice (some ⟨vb,0,none⟩) 1 1] w (zdK w B sv.ownBlock (n+1) (xs++vs)):=by
 obtain⟨a,cap,rfl⟩:=zt h
 obtain⟨i0,z0,hi0,hz0,hz1,hz2,hz3⟩:=zW Try.Qi
 have hcap:n≤cap∧cap≤9223372036854775807:=by
  rcases h.2 with ⟨h',h0⟩ | ⟨g',cap',cur,h',hb,hg,hnc,hcm,hcs,htake⟩
  · simp only[Value.slice.injEq] at h';omega
  · simp only[Value.slice.injEq] at h';unfold maxLen at hcm;omega
 have hcap1:=hcap.1
 have mixed:Try.prog.follows .mixedOrders=true:=by kernel_rfl
 obtain⟨ob,hob⟩:∃ob,ob=(Value.slice a n cap).ownBlock:=⟨_,rfl⟩
 rw[←hob]
 have HOB:=hH hob
 have HI:=hH (aN hi0 (aN hz0 (aN hz1 (aN hz2 hz3))))
 have HO:=hH (aN h hB)
 have HV:=hH (aN hvl (aN (fun j u (hj:vs[j]? =some u)=>(show w.cell? ((⟨vb,0,none⟩:Addr).add j)=some u by rw[Addr.add_mid,Nat.zero_add,jS hv];exact hj)) h1v))
 clear h hB hi0 hz0 hz1 hz2 hz3 hcap hv hvl h1v hob
 go_enter Try.func108,Try.ntmps108
 go_wp2_with (at_builtin;refine wpList_append_own_at _ rfl (.tmp 23) (.tmp 24) _ rfl B 27 i0 z0 4 56 Try.underlying25 HI.out.1 HI.out.2.1 HI.out.2.2.1 HI.out.2.2.2.1 HI.out.2.2.2.2 om (.slice a n cap) n xs rfl HO.out.1 ⟨vb,0,none⟩ 1 1 vs rfl (by rw[HV.out.1]) HV.out.2.1 HV.out.2.2 ue1 om HO.out.2 ?_;intro v' w1 hown hgrow hnil hat)
 all_goals (go_ret;rw[←HOB.out] at hgrow;exact⟨_,rfl,hown,hgrow⟩)
theorem zfU (w:World)(B g n cap i vb:Nat)(xs vs:List Value)(h:w.ownsRow B 27 4 (.slice (some ⟨g,0,none⟩) n cap) n xs)(hi:i<n)(hroom:n+1≤cap)(hv:w.heap[vb]? =some (.cells vs.toArray 27 (0,0)))(hvl:vs.length=4)(h1v:∀v∈vs,v.oneCell'=true)(h1x:∀v∈xs,v.oneCell'=true)(hvg:vb≠g):
 Calls Try.prog 108 #[.slice (some ⟨g,0,none⟩) n cap,.int .i64 i,.slice (some ⟨vb,0,none⟩) 1 1] w (zdK w B (some g) (n+1) (xs.take (i*4)++vs++xs.drop (i*4))):=by
 obtain⟨sp,s1,s2,s3,s4,s5⟩:=YP h
 have hxl:=h.1
 obtain⟨i0,z0,hi0,hz0,hzs,hz2,hz3⟩:=zW Try.Qi
 have hsz:(Try.prog.info? 27).map (·.size)=some 4:=by rw[hi0];simp[hzs]
 have hc63:cap≤9223372036854775807:=by unfold maxLen at s3;omega
 obtain⟨A,hA⟩:∃A,A=xs.take (i*4):=⟨_,rfl⟩
 obtain⟨D,hD⟩:∃D,D=xs.drop (i*4):=⟨_,rfl⟩
 have hAl:A.length=i*4:=by rw[hA,List.length_take];omega
 have hDl:D.length=(n - i)*4:=by rw[hD,List.length_drop];omega
 have hxAD:xs=A++D:=by rw[hA,hD,List.take_append_drop]
 have h1D:∀v∈D,v.oneCell'=true:=fun v hv=>h1x v (by rw[hxAD];exact List.mem_append_right _ hv)
 rw[←hA,←hD]
 rw[hxAD] at s1 s4
 have hDsl:(D++sp).length=(cap - i)*4:=by simp only[LlaQ] at s4 ⊢;omega
 obtain⟨W1,hW1⟩:∃W1,W1=w.drew.setCells g ((i+1)*4) D:=⟨_,rfl⟩
 have hb1:W1.heap[g]? =some (.cells (A++((D++sp).take 4++(D++((D++sp).drop 4).drop D.length))).toArray 27 (0,0)):=by
  have:=qy D (A++(D++sp).take 4) (((D++sp).drop 4).take D.length) (((D++sp).drop 4).drop D.length) w.drew (b:=g) (t:=27) (by rw[List.take_append_drop,List.append_assoc,List.take_append_drop,←List.append_assoc];exact s1) (by rw[List.length_take,List.length_drop,hDsl,hDl];omega)
  rw[hW1,show (i+1)*4=(A++(D++sp).take 4).length by rw[LlaQ,hAl,List.length_take,hDsl];omega]
  rw[List.append_assoc] at this
  exact this
 obtain⟨R,hR⟩:∃R,R=((D++sp).drop 4).drop D.length:=⟨_,rfl⟩
 rw[←hR] at hb1
 have hRl:R.length=(cap - n - 1)*4:=by rw[hR,List.length_drop,List.length_drop,hDsl,hDl];omega
 obtain⟨W2,hW2⟩:∃W2,W2=W1.setCells g (i*4) vs:=⟨_,rfl⟩
 have hb2:W2.heap[g]? =some (.cells ((A++vs++D)++R).toArray 27 (0,0)):=by
  have:=qy vs A ((D++sp).take 4) (D++R) W1 (b:=g) (t:=27) hb1 (by rw[List.length_take,hDsl,hvl];omega)
  rw[hW2,←hAl,List.append_assoc,List.append_assoc]
  exact this
 have hf1:=qz (b:=g) D ((i+1)*4) w.drew
 have hf2:=qz (b:=g) vs (i*4) W1
 rw[←hW1] at hf1
 rw[←hW2] at hf2
 have hlt:g<w.heap.size:=lohQ s1
 have HEND:Hid (zdK w B (some g) (n+1) (A++vs++D) (.returned (.slice (some ⟨g,0,none⟩) (n+1) cap)) W2):=hH
  ⟨_, rfl,QX (by simp only[LlaQ,hAl,hvl,hDl];omega) hb2 hroom s3 (by simp only[LlaQ,hAl,hvl,hDl,hRl];omega) s5,
   { os :=hf2.2.1.trans hf1.2.1,tape:=hf2.2.2.1.trans hf1.2.2.1,output:=hf2.2.2.2.1.trans hf1.2.2.2.1,size:=by rw[hf2.1,hf1.1];exact NlrQ _,block:=fun y hy hn=>by
      have hyg:y≠g:=fun e=>hn (by rw[e])
      rw[hf2.2.2.2.2 y hyg,hf1.2.2.2.2 y hyg];rfl }⟩
 have hz2:¬((i:Int)=(n:Int)):=by omega
 have hv4:vs.length=4:=hvl
 have hov:∀lb cb,(callFunc 120 #[.slice (some ⟨vb,0,none⟩) 1 1,.slice (some ⟨g,(i+1)*4,none⟩) lb cb]).run Try.prog w= .ok (.value (.bool false)) w:=fun lb cb=>by
  rw [run_callFunc_extern Try.func120 kr1 kr1 kr1 (e:=Extern.SlicesOverlaps.overlaps #[25,25] #[4]) kr1,
   Lib.run_overlaps_apart w 25 4 27 Try.underlying25 4 (fun w=>by simp[sizeOf,typeInfo,hi0,hzs]) ⟨vb,0,none⟩ ⟨g,(i+1)*4,none⟩ 1 1 lb cb hvg 27 27 vs.length (A++D++sp).length (by unfold World.shape?;rw[hv];simp) (by unfold World.shape?;rw[s1];simp) (by rw[s4];omega) (forQ w _ _ _ _ hv) (forQ w _ _ _ _ hv)]
  rfl
 have hcp1:∀ty dc sc,(Builtin.copy_ #[25,25] ty #[.slice (some ⟨g,(i+1)*4,none⟩) (n - i) dc,.slice (some ⟨g,i*4,none⟩) (n+1 - i) sc]).run Try.prog w.drew= .ok (goInt ((n - i:Nat):Int)) W1:=fun ty dc sc=>by
  rw[hW1]
  exact jr w.drew 25 25 ty 27 4 g ((i+1)*4) (n - i) dc ⟨g,i*4,none⟩ (n+1 - i) sc (n - i) D Try.underlying25 hsz uc5 hDl
   (fun j v hj=>by
     rw[Addr.add_mid]
     show w.cell? _=_
     rw[jS s1,List.append_assoc,List.getElem?_append_right om,hAl,show i*4+j - i*4=j by omega,List.getElem?_append_left (List.getElem?_eq_some_iff.1 hj).1]
     exact hj)
   (fun j hj=>(vw (w:=w.drew) s1 (by rw[s4];rw[hDl] at hj;omega)).1) (fun j hj=>(vw (w:=w.drew) s1 (j:=(i+1)*4+j) (by rw[s4];rw[hDl] at hj;omega)).2) h1D
 have hvW:W1.heap[vb]? =some (.cells vs.toArray 27 (0,0)):=(hf1.2.2.2.2 vb hvg).trans hv
 have hcp2:∀ty dc,(Builtin.copy_ #[25,25] ty #[.slice (some ⟨g,i*4,none⟩) (n+1 - i) dc,.slice (some ⟨vb,0,none⟩) 1 1]).run Try.prog W1= .ok (goInt 1) W2:=fun ty dc=>by
  rw[hW2]
  exact jr W1 25 25 ty 27 4 g (i*4) (n+1 - i) dc ⟨vb,0,none⟩ 1 1 1 vs Try.underlying25 hsz uc5 om
   (fun j v hj=>by rw[Addr.add_mid,Nat.zero_add,jS hvW];exact hj)
   (fun j hj=>(vw hb1 (by simp only[LlaQ,hAl,List.length_take,hDsl,hDl,hRl];omega)).1) (fun j hj=>(vw hb1 (j:=i*4+j) (by simp only[LlaQ,hAl,List.length_take,hDsl,hDl,hRl];omega)).2) h1v
 have hw1:IntKind.i64.wrap ((i:Int)+1)=(i:Int)+1:=by rw[IntKind.wrap_i64];omega
 have hb1' :(0:Int)≤(i:Int)+1:=by omega
 have hin:i≤n:=by omega
 have htn:((i:Int)+1).toNat=i+1:=by omega
 have hb2' :¬(cap=i+1):=by omega
 have hb3:(i:Int)≤(n:Int)+1:=by omega
 have hb4:¬(cap=i):=by omega
 have HCP:=hH (aN hcp1 hcp2)
 have mixed:Try.prog.follows .mixedOrders=true:=by kernel_rfl
 clear h s1 s2 s3 s4 s5 hxl hA hD hAl hDl hxAD h1D hDsl hW1 hb1 hR hRl hW2 hb2 hf1 hf2 hlt hvW hcp1 hcp2 hv hvl h1v h1x hvg hv4 hi0 hz0 hzs hz2 hz3 hsz
 have hz2:¬((i:Int)=(n:Int)):=by omega
 go_enter Try.func108,Try.ntmps108
 go_wp2_with (simp only[hov])
 go_region_law_o (refine step_copy_runI rfl _ _ 25 25 rfl (.slice (some ⟨g,(i+1)*4,none⟩) (n - i) (cap - (i+1))) (.slice (some ⟨g,i*4,none⟩) (n+1 - i) (cap - i)) ud7 ud7 (HCP.out.1 3 (cap - (i+1)) (cap - i)) ?_)
 have hc2:=HCP.out.2 3 (cap - i)
 go_wp2_with fail
 go_ret
 exact HEND.out
theorem zhK (w:World)(B g n cap i vb:Nat)(xs vs:List Value)(h:w.ownsRow B 27 4 (.slice (some ⟨g,0,none⟩) n cap) n xs)(hB:B≤w.heap.size)(hi:i<n)(hn6:n≤1000000)(hroom:cap<n+1)(hv:w.heap[vb]? =some (.cells vs.toArray 27 (0,0)))(hvl:vs.length=4)(h1v:∀v∈vs,v.oneCell'=true)(h1x:∀v∈xs,v.oneCell'=true):
 Calls Try.prog 108 #[.slice (some ⟨g,0,none⟩) n cap,.int .i64 i,.slice (some ⟨vb,0,none⟩) 1 1] w (zdK w B (some g) (n+1) (xs.take (i*4)++vs++xs.drop (i*4))):=by
 obtain⟨sp,s1,s2,s3,s4,s5⟩:=YP h
 have hxl:=h.1
 obtain⟨i0,z0,hi0,hz0,hzs,hzb,hz3⟩:=zW Try.Qi
 have hsz:(Try.prog.info? 27).map (·.size)=some 4:=by rw[hi0];simp[hzs]
 obtain⟨A,hA⟩:∃A,A=xs.take (i*4):=⟨_,rfl⟩
 obtain⟨D,hD⟩:∃D,D=xs.drop (i*4):=⟨_,rfl⟩
 have hAl:A.length=i*4:=by rw[hA,List.length_take];omega
 have hDl:D.length=(n - i)*4:=by rw[hD,List.length_drop];omega
 have hxAD:xs=A++D:=by rw[hA,hD,List.take_append_drop]
 have h1D:∀v∈D,v.oneCell'=true:=fun v hv=>h1x v (by rw[hxAD];exact List.mem_append_right _ hv)
 rw[←hA,←hD]
 rw[hxAD] at s1 s4
 have hglt:g<w.heap.size:=lohQ s1
 have hvlt:vb<w.heap.size:=lohQ hv
 have hik:i+(n+1 - i)=n+1:=by omega
 have hkk:(n:Int)+1 - (i:Int)=((n+1 - i:Nat):Int):=by omega
 have hold:(Builtin.firstCells i0.size i (.slice (some ⟨g,0,none⟩) i cap)).run Try.prog w.drew= .ok A.toArray w.drew:=by
  rw[hzs]
  exact run_firstCells_some w.drew 4 i ⟨g,0,none⟩ i cap A (by rw[hAl]) (fun j v hj=>by
   rw[Addr.add_mid,Nat.zero_add]
   show w.cell? _=_
   rw[jS s1,List.append_assoc,List.getElem?_append_left (List.getElem?_eq_some_iff.1 hj).1]
   exact hj)
 obtain⟨G,hG⟩:∃G,G=grownCap w (n+1) cap 27:=⟨_,rfl⟩
 obtain⟨Z1,hZ1⟩:∃Z,Z=(Builtin.zeroCells z0.cells (n+1 - i)).toList:=⟨_,rfl⟩
 obtain⟨Z2,hZ2⟩:∃Z,Z=(Builtin.zeroCells z0.cells (G - (n+1))).toList:=⟨_,rfl⟩
 have hGn:n+1≤G:=by rw[hG];exact grownCap_ge w _ _ _
 have hG63:G≤maxLen:=by rw[hG];exact grownCap_le_maxLen w (n+1) cap 27 ue1
 have hZ1l:Z1.length=(n+1 - i)*4:=by rw[hZ1,Zy,hz3]
 have hZ2l:Z2.length=(G - (n+1))*4:=by rw[hZ2,Zy,hz3]
 have hrow:A.toArray++Builtin.zeroCells z0.cells (n+1 - i)++Builtin.zeroCells z0.cells (G - (n+1))=(A++(Z1++Z2)).toArray:=by
  apply Array.ext'
  rw[hZ1,hZ2]
  simp
 obtain⟨W1,hW1⟩:∃W1,W1=w.drew.alloc (.cells (A++(Z1++Z2)).toArray 27):=⟨_,rfl⟩
 have hrz:∀ty,(Builtin.append_ #[25,3] ty #[.slice (some ⟨g,0,none⟩) i cap,.int .i64 ((n:Int)+1 - (i:Int))]).run Try.prog w= .ok (.slice (some ⟨w.heap.size,0,none⟩) (n+1) G) W1:=fun ty=>by
  have h:=Lib.run_append_grow_zeros w 25 3 ty 27 i0 _ .i64 .i64 Try.underlying25 Try.underlying3 hi0 hz0 (some ⟨g,0,none⟩) i cap A hold (n+1 - i) om om om om (by rw[hzb];omega) (by rw[hzb,hik];exact growslice_fits hroom om)
  rw[hik] at h
  rw[hkk,hW1,←hrow,hG]
  exact h
 have hN:W1.heap[w.heap.size]? =some (.cells (A++(Z1++Z2)).toArray 27 (0,0)):=by rw[hW1];exact hanQ w.drew _
 have hbW:Below w.heap.size w W1:=by
  rw[hW1]
  have h:=(BrQ w.drew.heap.size w.drew).alloc (NlrQ _) (.cells (A++(Z1++Z2)).toArray 27)
  exact⟨h.os,h.tape,h.output,h.size,h.block⟩
 have hgN:g≠w.heap.size:=by omega
 have hvN:vb≠w.heap.size:=by omega
 obtain⟨W2,hW2⟩:∃W2,W2=W1.setCells w.heap.size (i*4) vs:=⟨_,rfl⟩
 have hb2:W2.heap[w.heap.size]? =some (.cells ((A++vs)++((Z1++Z2).drop 4)).toArray 27 (0,0)):=by
  have:=qy vs A ((Z1++Z2).take 4) ((Z1++Z2).drop 4) W1 (b:=w.heap.size) (t:=27) (by rw[List.take_append_drop];exact hN) (by rw[List.length_take,LlaQ,hZ1l,hvl];omega)
  rw[hW2,←hAl,List.append_assoc]
  exact this
 have hZl:((Z1++Z2).drop 4).length=(G - i)*4 - 4:=by rw[List.length_drop,LlaQ,hZ1l,hZ2l];omega
 obtain⟨W3,hW3⟩:∃W3,W3=W2.drew.setCells w.heap.size ((i+1)*4) D:=⟨_,rfl⟩
 have hb3:W3.heap[w.heap.size]? =some (.cells ((A++vs++D)++(((Z1++Z2).drop 4).drop D.length)).toArray 27 (0,0)):=by
  have:=qy D (A++vs) (((Z1++Z2).drop 4).take D.length) (((Z1++Z2).drop 4).drop D.length) W2.drew (b:=w.heap.size) (t:=27) (by rw[List.take_append_drop];exact hb2) (by rw[List.length_take,hZl,hDl];omega)
  rw[hW3,show (i+1)*4=(A++vs).length by rw[LlaQ,hAl,hvl];omega]
  rw[←List.append_assoc] at this
  exact this
 have hf2:=qz (b:=w.heap.size) vs (i*4) W1
 have hf3:=qz (b:=w.heap.size) D ((i+1)*4) W2.drew
 rw[←hW2] at hf2
 rw[←hW3] at hf3
 have HEND:Hid (zdK w B (some g) (n+1) (A++vs++D) (.returned (.slice (some ⟨w.heap.size,0,none⟩) (n+1) G)) W3):=hH
  ⟨_, rfl,QX (by simp only[LlaQ,hAl,hvl,hDl];omega) hb3 hGn hG63 (by simp only[LlaQ,hAl,hvl,hDl,List.length_drop,hZ1l,hZ2l];omega) hB,
   { os :=hf3.2.1.trans (hf2.2.1.trans hbW.os),tape:=hf3.2.2.1.trans (hf2.2.2.1.trans hbW.tape),output:=hf3.2.2.2.1.trans (hf2.2.2.2.1.trans hbW.output),size:=by rw[hf3.1];show w.heap.size≤W2.heap.size;rw[hf2.1];exact hbW.size,block:=fun y hy hn=>by
      rw[hf3.2.2.2.2 y om]
      show W2.heap[y]? =_
      rw[hf2.2.2.2.2 y om]
      exact hbW.block y hy }⟩
 have hcpA:∀ty dc,(Builtin.copy_ #[25,25] ty #[.slice (some ⟨w.heap.size,i*4,none⟩) (n+1 - i) dc,.slice (some ⟨vb,0,none⟩) 1 1]).run Try.prog W1= .ok (goInt 1) W2:=fun ty dc=>by
  rw[hW2]
  exact jr W1 25 25 ty 27 4 w.heap.size (i*4) (n+1 - i) dc ⟨vb,0,none⟩ 1 1 1 vs Try.underlying25 hsz uc5 om
   (fun j v hj=>by rw[Addr.add_mid,Nat.zero_add,jS ((hbW.block vb hvlt).trans hv)];exact hj)
   (fun j hj=>(vw hN (by simp only[LlaQ,hAl,hZ1l,hZ2l];omega)).1) (fun j hj=>(vw hN (j:=i*4+j) (by simp only[LlaQ,hAl,hZ1l,hZ2l];omega)).2) h1v
 have hcpB:∀ty dc sc,(Builtin.copy_ #[25,25] ty #[.slice (some ⟨w.heap.size,(i+1)*4,none⟩) (n - i) dc,.slice (some ⟨g,i*4,none⟩) (n - i) sc]).run Try.prog W2.drew= .ok (goInt ((n - i:Nat):Int)) W3:=fun ty dc sc=>by
  rw[hW3]
  exact jr W2.drew 25 25 ty 27 4 w.heap.size ((i+1)*4) (n - i) dc ⟨g,i*4,none⟩ (n - i) sc (n - i) D Try.underlying25 hsz uc5 hDl
   (fun j v hj=>by
     have hgW:W2.drew.heap[g]? =some (.cells (A++D++sp).toArray 27 (0,0)):=(hf2.2.2.2.2 g hgN).trans ((hbW.block g hglt).trans s1)
     rw[Addr.add_mid,jS hgW,List.append_assoc,List.getElem?_append_right om,hAl,show i*4+j - i*4=j by omega,List.getElem?_append_left (List.getElem?_eq_some_iff.1 hj).1]
     exact hj)
   (fun j hj=>(vw (w:=W2.drew) hb2 (by simp only[LlaQ,hAl,hvl,hZl];rw[hDl] at hj;omega)).1) (fun j hj=>(vw (w:=W2.drew) hb2 (j:=(i+1)*4+j) (by simp only[LlaQ,hAl,hvl,hZl];rw[hDl] at hj;omega)).2) h1D
 have hz2:¬((i:Int)=(n:Int)):=by omega
 have hz3' :(cap:Int)<(n:Int)+1:=by omega
 have hGi:¬(G=i):=by omega
 have hGim:¬(G=i+1):=by omega
 have hci:¬(cap=i):=by omega
 have hw1:IntKind.i64.wrap ((i:Int)+1)=(i:Int)+1:=by rw[IntKind.wrap_i64];omega
 have hb1' :(0:Int)≤(i:Int)+1:=by omega
 have hin:i≤n:=by omega
 have htn:((i:Int)+1).toNat=i+1:=by omega
 have hb3' :(i:Int)≤(n:Int):=by omega
 have hnc:n≤cap:=s2
 have hcc:cap≤9223372036854775807:=by unfold maxLen at s3;omega
 have hGG:G≤9223372036854775807:=by unfold maxLen at hG63;omega
 have HCP:=hH (aN hrz (aN hcpA hcpB))
 have mixed:Try.prog.follows .mixedOrders=true:=by kernel_rfl
 clear h s1 s2 s3 s4 s5 hxl hA hD hAl hDl hxAD h1D hW1 hW2 hb2 hf2 hv hvl h1v h1x hi0 hz0 hzs hzb hz3 hsz hglt hvlt hik hkk hold hG hZ1 hZ2 hZ1l hZ2l hrow hrz hN hbW hgN hvN hZl hW3 hb3 hf3 hcpA hcpB hB hG63
 go_enter Try.func108,Try.ntmps108
 have hcA:=HCP.out.2.1 3 (G - i)
 go_wp2_with (at_builtin;refine Lib.wpList_append_run _ rfl _ _ _ _ rfl _ _ rfl rfl _ _ (HCP.out.1 _) ?_)
 go_region_law_o (refine step_copy_runI rfl _ _ 25 25 rfl (.slice (some ⟨w.heap.size,(i+1)*4,none⟩) (n - i) (G - (i+1))) (.slice (some ⟨g,i*4,none⟩) (n - i) (cap - i)) ud7 ud7 (HCP.out.2.2 3 (G - (i+1)) (cap - i)) ?_)
 go_wp2_with fail
 go_ret
 exact HEND.out
theorem ziV (w:World)(B n i vb:Nat)(sv:Value)(xs vs:List Value)(h:w.ownsRow B 27 4 sv n xs)(hB:B≤w.heap.size)(hi:i≤n)(hn:n≤1000000)(hv:w.heap[vb]? =some (.cells vs.toArray 27 (0,0)))(hvl:vs.length=4)(h1v:∀v∈vs,v.oneCell'=true)(h1x:∀v∈xs,v.oneCell'=true)(hvg:sv.ownBlock≠some vb):
 Calls Try.prog 108 #[sv,.int .i64 i,.slice (some ⟨vb,0,none⟩) 1 1] w (zdK w B sv.ownBlock (n+1) (xs.take (i*4)++vs++xs.drop (i*4))):=by
 by_cases he:i=n
 · subst he
   have hx:=h.1
   rw[List.take_of_length_le om,List.drop_eq_nil_of_le om,List.append_nil]
   exact ziX w B i vb sv xs vs h hB hn hv hvl h1v
 · obtain⟨g,cap,rfl,_⟩:=World.ownsRow.form h om
   have hvg' :vb≠g:=fun e=>hvg (by rw[e];rfl)
   by_cases hc:n+1≤cap
   · exact zfU w B g n cap i vb xs vs h om hc hv hvl h1v h1x hvg'
   · exact zhK w B g n cap i vb xs vs h hB om hn om hv hvl h1v h1x
end Go.Proofs.Ytnikgofkldkdkaa
