/-
  .
-/
import Derived.Test.YtgkmmnihaiopaaaGreatKApplyXQv
set_option maxRecDepth 100000
set_option maxHeartbeats 40000000
set_option linter.unusedVariables false
set_option linter.unusedSimpArgs false
namespace Go.Proofs.YtgkmmnihaiopaaaGreat
open Go.RowKit Go.Shelf
open Go.Maps
attribute [local go_sem] Oper.semAt_some
def qR (g:Gr):List Int→Nat→List Sp→Option Nat
 | _,_,[]=>none
 | ids,i,x::r=>if atB g ids x.1 (kX x)=true then some i else qR g (ids++[x.2.1.1]) (i+1) r
def zM (l:List Sp):List Int:=l.map fun x=>x.2.1.1
theorem Za (g:Gr):∀(pre:List Sp) (ids:List Int) (i:Nat) (r:List Sp),qR g ids i pre=none→qR g ids i (pre++r)=qR g (ids++zM pre) (i+pre.length) r
 | [],ids,i,r,_=>by simp[zM]
 | x ::p,ids,i,r,h=>by
   unfold qR at h
   split at h
   · cases h
   · rename_i hx
     rw[List.cons_append]
     conv=>lhs;unfold qR
     rw[inQ hx,Za g p _ _ r h]
     simp only[zM,List.map_cons,List.append_assoc,List.cons_append,List.nil_append,LlcQ]
     rw[show i+1+p.length=i+(p.length+1) by omega]
def vZ (g:Gr)(l:List Sp):Int×Int:=match qR g [] 0 l with | some i=>((i:Int),70) | none=>(0,0)
def Qe (p:Int×Int)(w:World)(e:Ending)(w' :World):Prop:=e= .returned (.tuple #[.int .i64 p.1,.int .i64 p.2])∧Below w.heap.size w w'
def okF (l:List Sp):Prop:=∀x∈l,(x.2.1.2.2.size:Int)≤9223372036854775807∧(Lit.int .i64 x.2.1.1).wf=true
theorem Yl {P:Program}{fn:Func}{p q:Tmp}{tp tq:TypeId}(h:fn.results= #[.cell p tp,.cell q tq])(tmps:Array Value)(w:World)(g1 g2:Nat)(a b:Int)(hp:tmps.getD p undef= .pointer (some ⟨g1,0,none⟩))(hq:tmps.getD q undef= .pointer (some ⟨g2,0,none⟩))
 (hc1:w.cell? ⟨g1,0,none⟩=some (.int .i64 a)) (hc2:w.cell? ⟨g2,0,none⟩=some (.int .i64 b)) (hb:∀w,(isAgg tp).run P w= .ok false w) (hb2:∀w,(isAgg tq).run P w= .ok false w):(results fn tmps).run P w= .ok (.tuple #[.int .i64 a,.int .i64 b]) w:=by
 have hp' :tmps[p]?.getD undef= .pointer (some ⟨g1,0,none⟩):=by simpa using hp
 have hq' :tmps[q]?.getD undef= .pointer (some ⟨g2,0,none⟩):=by simpa using hq
 have hl:(loadVar tp ⟨g1,0,none⟩).run P w= .ok (.int .i64 a) w:=by simp[go_sem,hc1,hb,Result.andThen]
 have hl2:(loadVar tq ⟨g2,0,none⟩).run P w= .ok (.int .i64 b) w:=by simp[go_sem,hc2,hb2,Result.andThen]
 have hm:∀(f:ResultVar→Sem Value),(#[ResultVar.cell p tp,ResultVar.cell q tq]:Array ResultVar).mapM f=(do let x←f (.cell p tp);let y←f (.cell q tq);pure #[x,y]):=fun f=>by simp[Array.mapM_eq_mapM_toList]
 unfold results
 rw[h,hm]
 simp[hp',hq',asAddr,hb,hb2,hc1,hc2,go_sem,Result.andThen]
section
variable {P:Program} {H:Type} {n:Nat}
theorem zaT (w:World){o:Oper}{a:Act}{K:Act→World→Prop}{Q:Exit→Act→World→Prop}(m x v:Operand)(t:TypeId)(hop:o.op=Op.mapUpdate t m x v)(k e:TypeId)(KK:Keyed P k)(ht:P.underlying t=some (.map k e))(R:Value→Option (DataW H×List MemPlace))(b nn:Nat)(D:DataW H)
 (hm:a.eval m= .map (some b)) (hown:w.ownsMap P k R b nn D) (hn:nn<maxLen) (key val:Value) (kl:Lit) (hx:a.eval x=key) (hv:a.eval v=val) (hkey:keyOf P k key=some kl) (d:DataW H) (ps:List MemPlace) (hval:R val=some (d,ps))
 (hK:∀w',w'.ownsMap P k R b (nn+1) (D.put kl d)→w.grownBy w' (some b)→K (a.put o.dst undef) w'):Oper.wpIn Fence.wide n P o a w K Q:=by
 obtain⟨w',hrun,r1,r2⟩:=hown.update KK ht hn hkey hval
 unfold Oper.wpIn
 refine⟨by simp[Oper.about,hop],?_⟩
 rw[Oper.semAt_plain Fence.wide _ _ (by rw[hop];intro c hc';cases hc')]
 simp[execOp,hop,hm,hx,hv,hrun,Result.andThen]
 exact hK _ r1 r2
end
def FaI (g:Gr)(W:World)(nb:Nat)(pre:List Sp)(V:World):Prop:=zh W V (fun y=>y=nb+4∨y=nb+6)∧V.heap[nb+6]? =some (.cells #[.int .i64 (pre.length:Int)] 3 (0,0))∧jN V (nb+4) pre.length (zM pre)∧qR g [] 0 pre=none
def FaX (g:Gr)(W:World)(nb:Nat)(tot:List Sp)(c:Code)(V:World):Prop:=c= .ret∧zh W V (fun y=>y=nb+2∨y=nb+3∨y=nb+4∨y=nb+6)∧∃i:Nat,V.heap[nb+2]? =some (.cells #[.int .i64 (i:Int)] 3 (0,0))∧V.heap[nb+3]? =some (.cells #[.int .i64 70] 33 (0,0))∧qR g [] 0 tot=some i
theorem cell1 {w:World}{b:Nat}{v:Value}{t:TypeId}(h:w.heap[b]? =some (.cells #[v] t (0,0))):w.cell? ⟨b,0,none⟩=some v∧w.frozen? ⟨b,0,none⟩=false:=⟨by rw[corQ _ _ 0 _ _ _ h];rfl,forQ _ _ 0 _ _ h⟩
theorem set1 {w:World}{b:Nat}{v u:Value}{t:TypeId}(h:w.heap[b]? =some (.cells #[v] t (0,0))):(w.setCell ⟨b,0,none⟩ u).heap[b]? =some (.cells #[u] t (0,0)):=by rw[hssQ w b 0 _ _ _ h];simp
theorem jI {W V:World}{S:Nat→Prop}(h:zh W V S)(b:Nat)(v:Value)(hb:S b):zh W (V.setCell ⟨b,0,none⟩ v) S:=
 ⟨h.os,h.tape,h.output,by simp[World.setCell];exact h.size,fun y hy hn=>by rw[BhsQ _ _ _ _ (fun e=>hn (by rw[e];exact hb))];exact h.block y hy hn⟩
theorem kW {w W V:World}{S:Nat→Prop}(h0:Below w.heap.size w W)(h:zh W V S)(hS:∀y,S y→w.heap.size≤y):Below w.heap.size w V:=
 ⟨h.os.trans h0.os,h.tape.trans h0.tape,h.output.trans h0.output,NltQ h0.size h.size,fun y hy=>(h.block y (nL hy h0.size) (fun e=>by have:=hS y e;omega)).trans (h0.block y hy)⟩
theorem QK {w V:World}{D:Nat}{o:Obj}(h:Below w.heap.size w V)(hD:w.heap.size≤D):Below w.heap.size w (V.putObj D o):=
 ⟨h.os,h.tape,h.output,by simp[World.putObj];exact h.size,fun y hy=>(WphQ om).trans (h.block y hy)⟩
theorem zgg (w:World)(S:Nat→Prop)(gv nv:Value)(g:Gr)(t:Tr)(hg:GrV w gv g)(hf:g.few)(hS:∀x,S x→x<w.heap.size)(ht:zG w S nv t)(hsz:zb t.kids+1≤500000)(hok:okF (spF 1 (zm t))):
 Calls Tryz.prog 83 #[gv,nv] w (Qe (vZ g (spF 1 (zm t))) w):=by
 obtain⟨ga,gc,rfl,hgk⟩:=hg
 obtain⟨ka,cap,rfl,hcap,hk⟩:=ht
 obtain⟨n,hn⟩:∃n,n=foLen t.kids:=⟨_,rfl⟩
 obtain⟨gn,hgn⟩:∃gn,gn=g.kinds.length:=⟨_,rfl⟩
 rw[←hn,←hgn]
 obtain⟨nb,hnb⟩:∃nb,nb=w.heap.size:=⟨_,rfl⟩
 have hmm:=@run_makeMap Tryz.prog
 have hal:=ze [.cells #[.slice ga gn gc,.int .i64 g.root] 24,.cells #[.int .i64 t.id,.int .i64 t.kind,.string t.text,.slice ka n cap] 27,.cells #[.int .i64 0] 3,.cells #[.int .i64 0] 33,.map #[] 0,.cells #[.map (some (w.heap.size+4))] 93,.cells #[.int .i64 0] 3,.cells #[.int .i64 t.id,.int .i64 t.kind,.string t.text,.slice ka n cap] 27] w
 have hab:=zi [.cells #[.slice ga gn gc,.int .i64 g.root] 24,.cells #[.int .i64 t.id,.int .i64 t.kind,.string t.text,.slice ka n cap] 27,.cells #[.int .i64 0] 3,.cells #[.int .i64 0] 33,.map #[] 0,.cells #[.map (some (w.heap.size+4))] 93,.cells #[.int .i64 0] 3,.cells #[.int .i64 t.id,.int .i64 t.kind,.string t.text,.slice ka n cap] 27] w
 have has:=zw [.cells #[.slice ga gn gc,.int .i64 g.root] 24,.cells #[.int .i64 t.id,.int .i64 t.kind,.string t.text,.slice ka n cap] 27,.cells #[.int .i64 0] 3,.cells #[.int .i64 0] 33,.map #[] 0,.cells #[.map (some (w.heap.size+4))] 93,.cells #[.int .i64 0] 3,.cells #[.int .i64 t.id,.int .i64 t.kind,.string t.text,.slice ka n cap] 27] w
 have HA:=hH (aN hab (aN (hal 0 _ rfl) (aN (hal 2 _ rfl) (aN (hal 3 _ rfl) (aN (hal 4 _ rfl) (aN (hal 5 _ rfl) (aN (hal 6 _ rfl) (aN (hal 7 _ rfl) has))))))))
 have H:=hH (aN hS (aN hcap (aN hk (aN hsz (aN hn hnb)))))
 have HG:=hH (aN hgk (aN hf (aN hgn hok)))
 clear hS hcap hk hsz hn hnb hal hab has hgk hf hgn hok
 refine (callsIn_wide (n:=8)).1 ?_
 refine callsIn_of_wp_marks Tryz.func83 rfl trivial ?_ rfl
 simp only[Tryz.ntmps83,List.size_toArray,LlcQ,List.length_nil,Nat.reduceAdd,Nat.reduceSub,Array.replicate_succ,Array.replicate_zero,List.push_toArray,List.append_toArray,List.nil_append,List.cons_append]
 gi_wp2_with (refine⟨trivial,?_⟩;gi_at_call 102;refine (callsIn_wide.2 (zea _ _ _ _ _ _ _)).mono ?_;rintro e w' ⟨rfl,rfl⟩)
 clear hmm
 change Code.wpIn _ _ _ _ _ _ (zl w [.cells #[.slice ga gn gc,.int .i64 g.root] 24,.cells #[.int .i64 t.id,.int .i64 t.kind,.string t.text,.slice ka n cap] 27,.cells #[.int .i64 0] 3,.cells #[.int .i64 0] 33,.map #[] 0,.cells #[.map (some (w.heap.size+4))] 93,.cells #[.int .i64 0] 3,.cells #[.int .i64 t.id,.int .i64 t.kind,.string t.text,.slice ka n cap] 27])
 generalize hW:zl w _=W at HA ⊢
 clear hW
 rw[←H.out.2.2.2.2.2]
 obtain⟨k0,k1,k2,k3,k4,k5,k6,k7,k8⟩:=HA.out
 rw[←H.out.2.2.2.2.2] at k1 k2 k3 k4 k5 k6 k7 k8
 rw[Nat.add_zero] at k1
 have k8' :W.heap.size=nb+8:=k8
 have hwn:=H.out.2.2.2.2.2
 have hnode:Qd W (fun x=>S x∨x=nb+7) t (nb+7):=⟨ka,cap,Or.inr rfl,by rw[k7,H.out.2.2.2.2.1],H.out.2.1,H.out.2.2.1.kept fun x hx=>⟨Or.inl hx,k0.block x (H.out.1 x hx)⟩⟩
 refine zfO om rfl (fun x=>S x∨x=nb+7) t hnode (fun x hx=>by rcases hx with hx | hx;have:=H.out.1 x hx;omega;omega) H.out.2.2.2.1 rfl (FaI g W nb) (FaX g W nb (spF 1 (zm t))) (fun h hb=>⟨jV h.1 hb,(hb.block _ om).trans h.2.1,h.2.2.1.at (hb.block _ om),h.2.2.2⟩)
  (fun h hb=>by obtain⟨h1,h2,i,h3,h4,h5⟩:=h;exact⟨h1,jV h2 hb,i,(hb.block _ om).trans h3,(hb.block _ om).trans h4,h5⟩) ⟨zh.refl _ _,k6,⟨#[],0,k4,⟨by simp,MapKept.stamped_empty 0,by simp⟩,NlrQ _,rfl⟩,rfl⟩ ?round ?done ?stop
 case done=>
  rintro D V hD ⟨h1,h2,h3,h4⟩ hK
  have e2:V.heap[nb+2]? =some (.cells #[.int .i64 0] 3 (0,0)):=(h1.block _ om om).trans k2
  have e3:V.heap[nb+3]? =some (.cells #[.int .i64 0] 33 (0,0)):=(h1.block _ om om).trans k3
  obtain⟨b2,f2⟩:=cell1 e2
  obtain⟨V2,hV2⟩:∃V2,V2=V.setCell ⟨nb+2,0,none⟩ (.int .i64 0):=⟨_,rfl⟩
  have e32:V2.heap[nb+3]? =some (.cells #[.int .i64 0] 33 (0,0)):=by rw[hV2,BhsQ _ _ _ _ (show nb+3≠nb+2 by omega)];exact e3
  have e22:V2.heap[nb+2]? =some (.cells #[.int .i64 0] 3 (0,0)):=by rw[hV2];exact set1 e2
  obtain⟨b3,f3⟩:=cell1 e32
  rw[hV2] at b3 f3
  have hKK:(V2.setCell ⟨nb+3,0,none⟩ (.int .i64 0)).heap[D]? =some (.deferred (some [])):=by rw[BhsQ _ _ _ _ (show D≠nb+3 by omega),hV2,BhsQ _ _ _ _ (show D≠nb+2 by omega)];exact hK
  have q2:((V2.setCell ⟨nb+3,0,none⟩ (.int .i64 0)).putObj D (.deferred none)).cell? ⟨nb+2,0,none⟩=some (.int .i64 0):=(cell1 (t:=3) (by rw[WphQ (show nb+2≠D by omega),BhsQ _ _ _ _ (show nb+2≠nb+3 by omega)];exact e22)).1
  have q3:((V2.setCell ⟨nb+3,0,none⟩ (.int .i64 0)).putObj D (.deferred none)).cell? ⟨nb+3,0,none⟩=some (.int .i64 0):=(cell1 (t:=33) (by rw[WphQ om];exact set1 e32)).1
  have hT:zh W (V2.setCell ⟨nb+3,0,none⟩ (.int .i64 0)) (fun y=>y=nb+2∨y=nb+3∨y=nb+4∨y=nb+6):=by
   rw[hV2];exact jI (jI ⟨h1.os,h1.tape,h1.output,h1.size,fun y hy hn=>h1.block y hy (fun e=>hn om)⟩ _ _ (Or.inl rfl)) _ _ (Or.inr (Or.inl rfl))
  have hB:=QK (D:=D) (o:= .deferred none) (kW k0 hT (fun y hy=>by omega)) om
  rw[hV2] at hKK q2 q3 hB
  have HE:=hH (aN hKK (aN q2 (aN q3 hB)))
  have HB:=hH (show vZ g (spF 1 (zm t))=(0,0) by rw[vZ,h4])
  clear h1 h2 h3 h4 e2 e3 e22 e32 hV2 hKK q2 q3 hT hB hD k0 k1 k2 k3 k4 k5 k6 k7 k8 k8' hwn hnode HA H HG
  gi_wp2
  obtain⟨q1,q2,q3,q4⟩:=HE.out
  refine⟨by simp,.inl ⟨_,_,rfl,run_takeDeferred q1,?_⟩⟩
  exact⟨_,Yl rfl _ _ _ _ 0 0 rfl rfl q2 q3 (fun _=>by kernel_rfl) (fun _=>by kernel_rfl),by rw[HB.out],q4⟩
 case stop=>
  rintro D c V hD ⟨rfl,h1,i,h2,h3,h4⟩ hK
  have q2:(V.putObj D (.deferred none)).cell? ⟨nb+2,0,none⟩=some (.int .i64 (i:Int)):=(cell1 (t:=3) (by rw[WphQ om];exact h2)).1
  have q3:(V.putObj D (.deferred none)).cell? ⟨nb+3,0,none⟩=some (.int .i64 70):=(cell1 (t:=33) (by rw[WphQ om];exact h3)).1
  have hB:=QK (D:=D) (o:= .deferred none) (kW k0 h1 (fun y hy=>by omega)) om
  have HE:=hH (aN hK (aN q2 (aN q3 hB)))
  have HB:=hH (show vZ g (spF 1 (zm t))=((i:Int),70) by rw[vZ,h4])
  clear h1 h2 h3 h4 q2 q3 hB hD k0 k1 k2 k3 k4 k5 k6 k7 k8 k8' hwn hnode HA H HG
  gi_wp2
  obtain⟨q1,q2,q3,q4⟩:=HE.out
  refine⟨by simp,.inl ⟨_,_,rfl,run_takeDeferred q1,?_⟩⟩
  exact⟨_,Yl rfl _ _ _ _ (i:Int) 70 rfl rfl q2 q3 (fun _=>by kernel_rfl) (fun _=>by kernel_rfl),by rw[HB.out],q4⟩
 case round=>
  rintro l hl pre rest d key k V b off kc ka2 htot hV ⟨h1,h2,h3,h4⟩ hSb d0 d1 d2 d3 dc dk K hK
  obtain⟨np,hnp⟩:∃np,np=pre.length:=⟨_,rfl⟩
  rw[←hnp] at h2 h3
  have htn:np+1≤500000:=by
   have:=congrArg List.length htot
   rw[qM,yt,LlaQ,LlcQ] at this
   have:=H.out.2.2.2.1;omega
  have hxm:(d,key,k)∈spF 1 (zm t):=by rw[htot];simp
  have hkl:foLen k≤1000000:=by
   have h1:=(jU 1 _ _ hxm).1
   have h2:=zL k
   have h3:=H.out.2.2.2.1
   rw[yt] at h1;simp only at h1;omega
  have hob:=HG.out.2.2.2 _ hxm
  have hbb:b<nb+8∧b≠nb+4∧b≠nb+6:=by
   rcases hSb with h | h
   · have:=H.out.1 b h;omega
   · omega
  have HR:=hH (aN h1 (aN h2 (aN h3 (aN h4 (aN hV (aN hl (aN hnp (aN htot hob))))))))
  have HK:=hH hK
  have HC:=hH (aN hSb (aN d0 (aN d1 (aN d2 (aN d3 (aN dc dk))))))
  have HZ:=hH (aN k0 (aN k1 (aN k2 (aN k3 (aN k5 (aN k8' hwn))))))
  clear h1 h2 h3 h4 hV hl hnp hK htot hxm hob hSb d0 d1 d2 d3 dc dk k0 k1 k2 k3 k4 k5 k6 k7 k8 k8' hwn hnode HA
  gi_wp2
  refine HK.out _ V (BrQ _ _) fun V1 hV1=>?_
  clear HK
  obtain⟨o',ev,o,ho,hoc⟩:=hV1
  obtain⟨h1,h2,h3,h4,hV,hl,hnp,htot,hob1,hob2⟩:=HR.out
  obtain⟨hSb,d0,d1,d2,d3,dc,dk⟩:=HC.out
  obtain⟨k0,k1,k2,k3,k5,k8',hwn⟩:=HZ.out
  have hlW:l=nb+9:=by omega
  have hk1:∀y,y≠l→V1.heap[y]? =V.heap[y]?:=fun y hy=>by rw[ev];exact WphQ hy
  have hs1:V1.heap.size=V.heap.size:=by rw[ev];simp[World.putObj]
  have hbV1:Below w.heap.size w V1:=by rw[ev];exact QK (kW k0 h1 (fun y hy=>by omega)) om
  have e1:∀y,y<nb+8→y≠nb+4→y≠nb+6→V1.heap[y]? =W.heap[y]?:=fun y hy n4 n6=>(hk1 y om).trans (h1.block y om om)
  obtain⟨g0,g1⟩:=zc3 ((e1 nb om om om).trans k1)
  obtain⟨m5,_⟩:=cell1 ((e1 (nb+5) om om om).trans k5)
  have hb1:V1.heap[b]? =V.heap[b]?:=hk1 b om
  have hat:=zc2 V1 (fun y=>S y∨y=nb+7) (.agg #[.slice ga gn gc,.int .i64 g.root]) g (nb+4) np (zM pre) d (kX (d,key,k)) b off kc ka2 ⟨ga,gc,by rw[HG.out.2.2.1],HG.out.1.below hbV1⟩ HG.out.2.1
   (fun y hy=>by rcases hy with hy | hy;have:=H.out.1 y hy;omega;omega) hSb ((World.cell?_of_block (a:=⟨b,off,none⟩) hb1).trans d0) ((World.cell?_of_block (a:=⟨b,off+1,none⟩) hb1).trans d1) ((World.cell?_of_block (a:=⟨b,off+2,none⟩) hb1).trans d2) ((World.cell?_of_block (a:=⟨b,off+3,none⟩) hb1).trans d3) dc
   (dk.kept fun x hx=>⟨hx,hk1 x (by rcases hx with hx | hx;have:=H.out.1 x hx;omega;omega)⟩) hkl hob1 hob2 (h3.at (hk1 _ om))
  obtain⟨bd,hbd⟩:∃bd,bd=atB g (zM pre) d (kX (d,key,k)):=⟨_,rfl⟩
  rw[←hbd] at hat
  have HAT:=hH hat
  have HBD:=hH hbd
  have HEV:=hH ev
  have HV1:=hH (aN hk1 (aN hs1 (aN e1 hlW)))
  clear hat hbd h1 h2 h3 h4 hV hl hnp htot hob1 hob2 hSb d0 d1 d2 d3 dc dk k0 k1 k2 k3 k5 k8' hwn hk1 hs1 hbV1 e1 hlW hb1 ev ho hoc
  cases bd
  · gi_wp2_with (refine⟨trivial,?_⟩;gi_at_call 103;refine ((callsIn_wide.2 HAT.out).inRound _).mono ?_;rintro e V2 ⟨rfl,hb2⟩;have HV2:=hH hb2;clear hb2)
    obtain⟨h1,h2,h3,h4,hV,hl,hnp,htot,hob1,hob2⟩:=HR.out
    obtain⟨hk1,hs1,e1,hlW⟩:=HV1.out
    have k8':=HZ.out.2.2.2.2.2.1
    have hwn:=HZ.out.2.2.2.2.2.2
    have hsV2:=HV2.out.size
    have hb28:∀y,y<nb+8→V2.heap[y]? =V1.heap[y]?:=fun y hy=>HV2.out.block y om
    have m52:=((hb28 (nb+5) om).trans (e1 (nb+5) om om om)).trans HZ.out.2.2.2.2.1
    have c62:V2.heap[nb+6]? =some (.cells #[.int .i64 (np:Int)] 3 (0,0)):=((hb28 _ om).trans (hk1 _ om)).trans h2
    have hc0:V2.cell? ⟨b,off,none⟩=some (.int .i64 key.1):=(World.cell?_of_block (a:=⟨b,off,none⟩) ((hb28 b hbb.1).trans (hk1 b om))).trans HC.out.2.1
    have hM2:jN V2.drew (nb+4) np (zM pre):=h3.at ((hb28 _ om).trans (hk1 _ om))
    obtain⟨SX,hSX⟩:∃SX:World→Prop,SX=fun X=>X.heap[nb+5]? =V2.heap[nb+5]?∧X.heap[b]? =V2.heap[b]?:=⟨_,rfl⟩
    have HSx:∀X,SX X→X.cell? ⟨nb+5,0,none⟩=some (.map (some (nb+4)))∧X.cell? ⟨b,off,none⟩=some (.int .i64 key.1):=fun X h=>by
     rw[hSX] at h
     exact⟨(cell1 (h.1.trans m52)).1,(World.cell?_of_block (a:=⟨b,off,none⟩) h.2).trans hc0⟩
    have eH:SX V2.drew:=by rw[hSX];exact⟨rfl,rfl⟩
    have HM2:=hH hM2
    have HKEY:=hH (keyOf_int_mk (P:=Tryz.prog) Tryz.underlying3 hob2)
    have HE2:=hH (aN hb28 c62)
    have HNP:=hH htn
    have HSX:=hH hSX
    clear h1 h2 h3 h4 hV hl hnp htot hob1 hob2 hk1 hs1 e1 hlW k8' hwn hsV2 hb28 m52 c62 hc0 hM2 hSX m5 g0 g1
    refine QB (S:=SX) kr1 (zfH kr1) ?_
    refine zL1 (i:=0) ((.map (some (nb+4)))) rfl ?_ ?_
    · clear eH;intro X hSw;obtain⟨s0,s1⟩:=HSx X hSw;clear hSw;go_simp
    simp only[Act.put,pg]
    refine zG1 (i:=1) ((.pointer (some ⟨b,off,none⟩))) rfl ?_
    simp only[Act.put,pg]
    refine zG1 (i:=2) ((.pointer (some ⟨b,off,none⟩))) rfl ?_
    simp only[Act.put,pg]
    refine zG1 (i:=3) ((.pointer (some ⟨b,off,none⟩))) rfl ?_
    simp only[Act.put,pg]
    refine zL1 (i:=4) (.int .i64 key.1) rfl ?_ ?_
    · clear eH;intro X hSw;obtain⟨s0,s1⟩:=HSx X hSw;clear hSw;go_simp
    simp only[Act.put,pg]
    refine zG1 (i:=5) (.agg #[]) rfl ?_
    simp only[Act.put,pg]
    refine yG (i:=6) (o:=_) kr1 rfl fun K6 hK6=>?_
    rw[ipQ ug8]
    simp only[pg3]
    refine zaT _ (.tmp 21) (.tmp 25) (.tmp 26) 93 rfl 3 121 zaN Tryz.underlying93 _ (nb+4) np _ rfl HM2.out (by have:=HNP.out;unfold maxLen;omega) _ _ _ rfl rfl HKEY.out (.agg []) [] unitElem_mk ?_
    intro w4 hown4 hgr4
    refine hK6 _ _ (by have hb4:=hbb.2.1;rw[HSX.out] at eH ⊢;exact⟨(hgr4.block _ uc8 sp1).trans eH.1,(hgr4.block _ uc8 ug5).trans eH.2⟩) ?_
    clear hK6 eH HSx
    refine qp kr1 ?_ _
    obtain⟨h1,h2,h3,h4,hV,hl,hnp,htot,hob1,hob2⟩:=HR.out
    obtain⟨hk1,hs1,e1,hlW⟩:=HV1.out
    have k8':=HZ.out.2.2.2.2.2.1
    have hwn:=HZ.out.2.2.2.2.2.2
    have hsV2:=HV2.out.size
    obtain⟨hb28,c62⟩:=HE2.out
    have hs4:V2.heap.size≤w4.heap.size:=hgr4.size
    have c64:w4.heap[nb+6]? =some (.cells #[.int .i64 (np:Int)] 3 (0,0)):=(hgr4.block _ (show nb+6<V2.heap.size by omega) sp1).trans c62
    obtain⟨b6,f6⟩:=cell1 c64
    have hT:zh W (w4.setCell ⟨nb+6,0,none⟩ (.int .i64 ((np:Int)+1))) (fun y=>y=nb+4∨y=nb+6):=by
     refine jI ⟨hgr4.os.trans (HV2.out.os.trans ?_),hgr4.tape.trans (HV2.out.tape.trans ?_),hgr4.output.trans (HV2.out.output.trans ?_),by omega,fun y hy hn=>?_⟩ _ _ (Or.inr rfl)
     · rw[HEV.out];exact h1.os
     · rw[HEV.out];exact h1.tape
     · rw[HEV.out];exact h1.output
     · exact (((hgr4.block y (show y<V2.heap.size by omega) ug5).trans (hb28 y om)).trans (hk1 y om)).trans (h1.block y hy hn)
    have hbad:qR g [] 0 (pre++[(d,key,k)])=none:=by
     rw[Za g pre [] 0 _ h4]
     have:=HBD.out
     simp only[qR,List.nil_append]
     rw[inQ (by rw[show atB g (zM pre) d (kX (d,key,k))=false from this.symm];simp)]
    have hend:∀aa:Act,zcR W.heap.size (fun x=>S x∨x=nb+7) (FaI g W nb) (FaX g W nb (spF 1 (zm t))) (pre++[(d,key,k)]) V1 .normal aa (w4.setCell ⟨nb+6,0,none⟩ (.int .i64 ((np:Int)+1))):=fun aa=>by
     refine⟨⟨by simp[World.setCell];omega,fun y hy hyl=>?_⟩,.inl ⟨rfl,hT,?_,?_,hbad⟩⟩
     · have hy4:y≠nb+4∧y≠nb+6:=by
        rcases hy with hy | hy | hy
        · omega
        · have:=H.out.1 y hy;omega
        · omega
       rw[BhsQ _ _ _ _ (show y≠nb+6 from hy4.2)]
       exact (hgr4.block y (show y<V2.heap.size by omega) ug5).trans (HV2.out.block y hyl)
     · rw[set1 c64,LlaQ,←hnp];rfl
     · have hm4:jN w4 (nb+4) (np+1) (zM (pre++[(d,key,k)])):=by
        unfold jN zM
        rw[List.map_append,List.map_append,List.map_cons,List.map_nil,List.map_cons,List.map_nil,setOf_snoc]
        exact hown4
       rw[LlaQ,←hnp]
       exact hm4.at (BhsQ _ _ _ _ (show nb+4≠nb+6 by omega))
    have HEND:=hH hend
    clear hend hT hbad c64 hs4 hb28 c62 h1 h2 h3 h4 hV hl hnp htot hob1 hob2 hk1 hs1 e1 hlW k8' hwn hsV2 hown4 hgr4
    gi_wp2
    exact HEND.out _
  · gi_wp2_with (
    refine⟨trivial,?_⟩
    gi_at_call 103
    refine ((callsIn_wide.2 HAT.out).inRound _).mono ?_
    rintro e V2 ⟨rfl,hb2⟩
    have HV2:=hH hb2
    clear hb2
    obtain⟨h1,h2,h3,h4,hV,hl,hnp,htot,hob1,hob2⟩:=HR.out
    obtain⟨hk1,hs1,e1,hlW⟩:=HV1.out
    have k8':=HZ.out.2.2.2.2.2.1
    have hwn:=HZ.out.2.2.2.2.2.2
    have hsV2:=HV2.out.size
    have hb28:∀y,y<nb+8→V2.heap[y]? =V1.heap[y]?:=fun y hy=>HV2.out.block y om
    have c62:V2.heap[nb+6]? =some (.cells #[.int .i64 (np:Int)] 3 (0,0)):=((hb28 _ om).trans (hk1 _ om)).trans h2
    have e22:V2.heap[nb+2]? =some (.cells #[.int .i64 0] 3 (0,0)):=((hb28 _ om).trans (e1 _ om om om)).trans HZ.out.2.2.1
    have e32:V2.heap[nb+3]? =some (.cells #[.int .i64 0] 33 (0,0)):=((hb28 _ om).trans (e1 _ om om om)).trans HZ.out.2.2.2.1
    obtain⟨b6,_⟩:=cell1 c62
    obtain⟨_,f2⟩:=cell1 e22
    obtain⟨V3,hV3⟩:∃V3,V3=V2.setCell ⟨nb+2,0,none⟩ (.int .i64 (np:Int)):=⟨_,rfl⟩
    have e33:V3.heap[nb+3]? =some (.cells #[.int .i64 0] 33 (0,0)):=by rw[hV3,BhsQ _ _ _ _ (show nb+3≠nb+2 by omega)];exact e32
    have e23:V3.heap[nb+2]? =some (.cells #[.int .i64 (np:Int)] 3 (0,0)):=by rw[hV3];exact set1 e22
    obtain⟨b3,f3⟩:=cell1 e33
    rw[hV3] at b3 f3
    have hT:zh W (V3.setCell ⟨nb+3,0,none⟩ (.int .i64 70)) (fun y=>y=nb+2∨y=nb+3∨y=nb+4∨y=nb+6):=by
     rw[hV3]
     refine jI (jI ⟨HV2.out.os.trans ?_,HV2.out.tape.trans ?_,HV2.out.output.trans ?_,by omega,fun y hy hn=>?_⟩ _ _ (Or.inl rfl)) _ _ (Or.inr (Or.inl rfl))
     · rw[HEV.out];exact h1.os
     · rw[HEV.out];exact h1.tape
     · rw[HEV.out];exact h1.output
     · exact ((hb28 y om).trans (hk1 y om)).trans (h1.block y hy (fun e=>hn om))
    have hbad:qR g [] 0 (spF 1 (zm t))=some np:=by
     rw[htot,Za g pre [] 0 _ h4]
     have:=HBD.out
     simp only[qR,List.nil_append]
     rw[ipQ (by exact this.symm),←hnp,Nat.zero_add]
    have hend:∀aa:Act,zcR W.heap.size (fun x=>S x∨x=nb+7) (FaI g W nb) (FaX g W nb (spF 1 (zm t))) (pre++[(d,key,k)]) V1 .ret aa (V3.setCell ⟨nb+3,0,none⟩ (.int .i64 70)):=fun aa=>by
     refine⟨⟨by rw[hV3];simp[World.setCell];omega,fun y hy hyl=>?_⟩,.inr (.inl ⟨rfl,rfl,hT,np,?_,set1 e33,hbad⟩)⟩
     · have hy4:y≠nb+2∧y≠nb+3:=by
        rcases hy with hy | hy | hy
        · omega
        · have:=H.out.1 y hy;omega
        · omega
       rw[BhsQ _ _ _ _ (show y≠nb+3 from hy4.2),hV3,BhsQ _ _ _ _ (show y≠nb+2 from hy4.1)]
       exact HV2.out.block y hyl
     · rw[BhsQ _ _ _ _ (show nb+2≠nb+3 by omega)];exact e23
    rw[hV3] at hend
    have HEND:=hH hend
    clear hend hT hbad hb28 c62 e22 e32 e33 e23 hV3 h1 h2 h3 h4 hV hl hnp htot hob1 hob2 hk1 hs1 e1 hlW k8' hwn hsV2 m5 g0 g1
    )
    exact HEND.out _
end Go.Proofs.YtgkmmnihaiopaaaGreat
namespace Go.Proofs.YtgkmmnihaiopaaaGreat
open Go.RowKit Go.Shelf
attribute [local go_sem] Oper.semAt_some
def vT (g:Gr)(t:Tr):Int×Int:=if qB g=true then (if 200<zb t.kids+1 then (0,70) else vZ g (spF 1 (zm t))) else (0,50)
def qG (g:Gr)(t:Tr):Int×Int:=if qB g=true∧¬t.kind=g.root then (0,70) else vT g t
theorem zjh (w:World)(S:Nat→Prop)(gv nv:Value)(g:Gr)(t:Tr)(hg:GrV w gv g)(hf:g.few)(hS:∀x,S x→x<w.heap.size)(ht:zG w S nv t)(hsz:zb t.kids+1≤500000)(hok:okF (spF 1 (zm t))):
 Calls Tryz.prog 65 #[gv,nv] w (Qe (vT g t) w):=by
 obtain⟨ga,gc,rfl,hgk⟩:=hg
 obtain⟨ka,cap,rfl,hcap,hk⟩:=ht
 obtain⟨n,hn⟩:∃n,n=foLen t.kids:=⟨_,rfl⟩
 obtain⟨gn,hgn⟩:∃gn,gn=g.kinds.length:=⟨_,rfl⟩
 rw[←hn,←hgn]
 have kx:((w.alloc (.cells #[.slice ga gn gc,.int .i64 g.root] 24)).alloc (.cells #[.int .i64 t.id,.int .i64 t.kind,.string t.text,.slice ka n cap] 27)).heap[w.heap.size]? =_:=ze [.cells #[.slice ga gn gc,.int .i64 g.root] 24,.cells #[.int .i64 t.id,.int .i64 t.kind,.string t.text,.slice ka n cap] 27] w 0 _ rfl
 have ky:((w.alloc (.cells #[.slice ga gn gc,.int .i64 g.root] 24)).alloc (.cells #[.int .i64 t.id,.int .i64 t.kind,.string t.text,.slice ka n cap] 27)).heap[w.heap.size+1]? =_:=ze [.cells #[.slice ga gn gc,.int .i64 g.root] 24,.cells #[.int .i64 t.id,.int .i64 t.kind,.string t.text,.slice ka n cap] 27] w 1 _ rfl
 have hab:Below w.heap.size w ((w.alloc (.cells #[.slice ga gn gc,.int .i64 g.root] 24)).alloc (.cells #[.int .i64 t.id,.int .i64 t.kind,.string t.text,.slice ka n cap] 27)):=zi [.cells #[.slice ga gn gc,.int .i64 g.root] 24,.cells #[.int .i64 t.id,.int .i64 t.kind,.string t.text,.slice ka n cap] 27] w
 obtain⟨SX,hSX⟩:∃SX:World→Prop,SX=fun X=>Below (w.heap.size+2) ((w.alloc (.cells #[.slice ga gn gc,.int .i64 g.root] 24)).alloc (.cells #[.int .i64 t.id,.int .i64 t.kind,.string t.text,.slice ka n cap] 27)) X:=⟨_,rfl⟩
 have HSx:∀X,SX X→X.cell? ⟨w.heap.size,0,none⟩=some (.slice ga gn gc)∧X.cell? ⟨w.heap.size,1,none⟩=some (.int .i64 g.root)∧ug9 X (w.heap.size+1) t.id t.kind t.text ka n cap:=fun X h=>by
  exact sd1
 have HS:=hH (show SX ((w.alloc (.cells #[.slice ga gn gc,.int .i64 g.root] 24)).alloc (.cells #[.int .i64 t.id,.int .i64 t.kind,.string t.text,.slice ka n cap] 27)) by rw[hSX];exact BrQ _ _)
 have HSB:=hH (fun (X Y:World) (h:SX X) (hb:Below X.heap.size X Y)=>(show SX Y by rw[hSX] at h ⊢;exact h.trans (hb.mono ud7)))
 have hwX:∀X,SX X→Below w.heap.size w X:=fun X h=>by rw[hSX] at h;exact hab.trans (h.mono om)
 have hgX:∀X,SX X→GrV X (.agg #[.slice ga gn gc,.int .i64 g.root]) g:=fun X h=>⟨ga,gc,by rw[hgn],hgk.below (hwX X h)⟩
 have htX:∀X,SX X→zG X S (.agg #[.int .i64 t.id,.int .i64 t.kind,.string t.text,.slice ka n cap]) t:=fun X h=>⟨ka,cap,by rw[hn],hcap,hk.below (hwX X h) hS⟩
 have hSXl:∀X,SX X→∀y,S y→y<X.heap.size:=fun X h y hy=>nL (hS y hy) (hwX X h).size
 have HCK:Hid (∀X,SX X→Calls Tryz.prog 64 #[.agg #[.slice ga gn gc,.int .i64 g.root]] X (y8 (Zw (qB g)) X)):=hH fun X h=>zbB X _ g (hgX X h) hf
 obtain⟨b1,hb1⟩:∃b,b=decide (200<zb t.kids+1):=⟨_,rfl⟩
 obtain⟨⟨f1,f2⟩,hfr⟩:∃p:Int×Int,p=vZ g (spF 1 (zm t)):=⟨_,rfl⟩
 have HTM:Hid (∀X,SX X→Calls Tryz.prog 82 #[.agg #[.int .i64 t.id,.int .i64 t.kind,.string t.text,.slice ka n cap]] X (Says b1 X)):=hH fun X h=>by
  have:=zd6 X S _ t (hSXl X h) (htX X h) hsz
  rw[←hb1] at this;exact this
 have HFA:Hid (∀X,SX X→Calls Tryz.prog 83 #[.agg #[.slice ga gn gc,.int .i64 g.root],.agg #[.int .i64 t.id,.int .i64 t.kind,.string t.text,.slice ka n cap]] X (Qe (f1,f2) X)):=hH fun X h=>by
  have:=zgg X S _ _ g t (hgX X h) hf (hSXl X h) (htX X h) hsz hok
  rw[←hfr] at this;exact this
 have HB1:=hH hb1
 have HFR:=hH hfr
 have HFIN:=hH hwX
 obtain⟨ck,hck⟩:∃ck,ck=qB g:=⟨_,rfl⟩
 have HK:=hH hck
 rw[←hck] at HCK
 clear hS hcap hk hn hgn hf hgk hsz hok kx ky hab hSX hwX hgX htX hSXl hb1 hfr hck
 cases ck
 · have HB:=hH (show vT g t=(0,50) by rw[vT,←HK.out];rfl)
   rw[show Zw false=50 from rfl] at HCK
   go_enter Tryz.func65,Tryz.ntmps65
   exact sf2
 · rw [show Zw true=0 from rfl] at HCK
   cases b1
   · have HB:=hH (show vT g t=(f1,f2) by rw[vT,←HK.out,ipQ rfl,inQ (of_decide_eq_false HB1.out.symm),HFR.out])
     go_enter Tryz.func65,Tryz.ntmps65
     go_wp2_with (first
      | (go_at_call 64;refine (HCK.out _ HS.out).mono ?_;rintro e w2 ⟨rfl,hb⟩;have HS2:=hH (HSB.out _ w2 HS.out hb);obtain⟨p0,p1,p2,p3,p4,p5⟩:=HSx w2 HS2.out;clear hb)
      | (go_at_call 82;refine (HTM.out _ HS2.out).mono ?_;rintro e w3 ⟨rfl,hb⟩;have HS3:=hH (HSB.out _ w3 HS2.out hb);obtain⟨q0,q1,q2,q3,q4,q5⟩:=HSx w3 HS3.out;clear hb)
      | (go_at_call 83;refine (HFA.out _ HS3.out).mono ?_;rintro e w4 ⟨rfl,hb⟩;have HS4:=hH (HSB.out _ w4 HS3.out hb);obtain⟨r0,r1,r2,r3,r4,r5⟩:=HSx w4 HS4.out;clear hb))
     go_ret2
     exact⟨by rw[HB.out];rfl,HFIN.out _ HS4.out⟩
   · have HB:=hH (show vT g t=(0,70) by rw[vT,←HK.out,ipQ rfl,ipQ (of_decide_eq_true HB1.out.symm)])
     go_enter Tryz.func65,Tryz.ntmps65
     go_wp2_with (first
      | (go_at_call 64;refine (HCK.out _ HS.out).mono ?_;rintro e w2 ⟨rfl,hb⟩;have HS2:=hH (HSB.out _ w2 HS.out hb);obtain⟨p0,p1,p2,p3,p4,p5⟩:=HSx w2 HS2.out;clear hb)
      | (go_at_call 82;refine (HTM.out _ HS2.out).mono ?_;rintro e w3 ⟨rfl,hb⟩;have HS3:=hH (HSB.out _ w3 HS2.out hb);obtain⟨q0,q1,q2,q3,q4,q5⟩:=HSx w3 HS3.out;clear hb))
     go_ret2
     exact⟨by rw[HB.out];rfl,HFIN.out _ HS3.out⟩
theorem ziu (w:World)(S:Nat→Prop)(gv nv:Value)(g:Gr)(t:Tr)(hg:GrV w gv g)(hf:g.few)(hS:∀x,S x→x<w.heap.size)(ht:zG w S nv t)(hsz:zb t.kids+1≤500000)(hok:okF (spF 1 (zm t))):
 Calls Tryz.prog 45 #[gv,nv] w (Qe (qG g t) w):=by
 obtain⟨ga,gc,rfl,hgk⟩:=hg
 obtain⟨ka,cap,rfl,hcap,hk⟩:=ht
 obtain⟨n,hn⟩:∃n,n=foLen t.kids:=⟨_,rfl⟩
 obtain⟨gn,hgn⟩:∃gn,gn=g.kinds.length:=⟨_,rfl⟩
 rw[←hn,←hgn]
 have kx:((w.alloc (.cells #[.slice ga gn gc,.int .i64 g.root] 24)).alloc (.cells #[.int .i64 t.id,.int .i64 t.kind,.string t.text,.slice ka n cap] 27)).heap[w.heap.size]? =_:=ze [.cells #[.slice ga gn gc,.int .i64 g.root] 24,.cells #[.int .i64 t.id,.int .i64 t.kind,.string t.text,.slice ka n cap] 27] w 0 _ rfl
 have ky:((w.alloc (.cells #[.slice ga gn gc,.int .i64 g.root] 24)).alloc (.cells #[.int .i64 t.id,.int .i64 t.kind,.string t.text,.slice ka n cap] 27)).heap[w.heap.size+1]? =_:=ze [.cells #[.slice ga gn gc,.int .i64 g.root] 24,.cells #[.int .i64 t.id,.int .i64 t.kind,.string t.text,.slice ka n cap] 27] w 1 _ rfl
 have hab:Below w.heap.size w ((w.alloc (.cells #[.slice ga gn gc,.int .i64 g.root] 24)).alloc (.cells #[.int .i64 t.id,.int .i64 t.kind,.string t.text,.slice ka n cap] 27)):=zi [.cells #[.slice ga gn gc,.int .i64 g.root] 24,.cells #[.int .i64 t.id,.int .i64 t.kind,.string t.text,.slice ka n cap] 27] w
 obtain⟨SX,hSX⟩:∃SX:World→Prop,SX=fun X=>Below (w.heap.size+2) ((w.alloc (.cells #[.slice ga gn gc,.int .i64 g.root] 24)).alloc (.cells #[.int .i64 t.id,.int .i64 t.kind,.string t.text,.slice ka n cap] 27)) X:=⟨_,rfl⟩
 have HSx:∀X,SX X→X.cell? ⟨w.heap.size,0,none⟩=some (.slice ga gn gc)∧X.cell? ⟨w.heap.size,1,none⟩=some (.int .i64 g.root)∧ug9 X (w.heap.size+1) t.id t.kind t.text ka n cap:=fun X h=>by
  exact sd1
 have HS:=hH (show SX ((w.alloc (.cells #[.slice ga gn gc,.int .i64 g.root] 24)).alloc (.cells #[.int .i64 t.id,.int .i64 t.kind,.string t.text,.slice ka n cap] 27)) by rw[hSX];exact BrQ _ _)
 have HSB:=hH (fun (X Y:World) (h:SX X) (hb:Below X.heap.size X Y)=>(show SX Y by rw[hSX] at h ⊢;exact h.trans (hb.mono ud7)))
 have hwX:∀X,SX X→Below w.heap.size w X:=fun X h=>by rw[hSX] at h;exact hab.trans (h.mono om)
 have hgX:∀X,SX X→GrV X (.agg #[.slice ga gn gc,.int .i64 g.root]) g:=fun X h=>⟨ga,gc,by rw[hgn],hgk.below (hwX X h)⟩
 have htX:∀X,SX X→zG X S (.agg #[.int .i64 t.id,.int .i64 t.kind,.string t.text,.slice ka n cap]) t:=fun X h=>⟨ka,cap,by rw[hn],hcap,hk.below (hwX X h) hS⟩
 have hSXl:∀X,SX X→∀y,S y→y<X.heap.size:=fun X h y hy=>nL (hS y hy) (hwX X h).size
 have HCK:Hid (∀X,SX X→Calls Tryz.prog 64 #[.agg #[.slice ga gn gc,.int .i64 g.root]] X (y8 (Zw (qB g)) X)):=hH fun X h=>zbB X _ g (hgX X h) hf
 obtain⟨⟨f1,f2⟩,hfr⟩:∃p:Int×Int,p=vT g t:=⟨_,rfl⟩
 have HFA:Hid (∀X,SX X→Calls Tryz.prog 65 #[.agg #[.slice ga gn gc,.int .i64 g.root],.agg #[.int .i64 t.id,.int .i64 t.kind,.string t.text,.slice ka n cap]] X (Qe (f1,f2) X)):=hH fun X h=>by
  have:=zjh X S _ _ g t (hgX X h) hf (hSXl X h) (htX X h) hsz hok
  rw[←hfr] at this;exact this
 have HFR:=hH hfr
 have HFIN:=hH hwX
 obtain⟨ck,hck⟩:∃ck,ck=qB g:=⟨_,rfl⟩
 have HK:=hH hck
 rw[←hck] at HCK
 clear hS hcap hk hn hgn hf hgk hsz hok kx ky hab hSX hwX hgX htX hSXl hfr hck
 cases ck
 · have HB:=hH (show qG g t=(f1,f2) by rw[qG,←HK.out,inQ sp1,HFR.out])
   rw[show Zw false=50 from rfl] at HCK
   exact sc9
 · rw [show Zw true=0 from rfl] at HCK
   by_cases hr:t.kind=g.root
   · have HB:=hH (show qG g t=(f1,f2) by rw[qG,←HK.out,inQ (by simp[hr]),HFR.out])
     have hne:(t.kind != g.root)=false:=by simp[hr]
     clear hr
     exact sc9
   · have HB:=hH (show qG g t=(0,70) by rw[qG,←HK.out,ipQ ⟨rfl,hr⟩])
     go_enter Tryz.func45,Tryz.ntmps45
     exact sf2
end Go.Proofs.YtgkmmnihaiopaaaGreat
namespace Go.Proofs.YtgkmmnihaiopaaaGreat
open Go.RowKit Go.Shelf
def okB (k:Key):Bool:=decide ((k.2.2.size:Int)≤9223372036854775807) && (Lit.int .i64 k.1).wf
theorem zcB (k:Key):okB k=true↔(k.2.2.size:Int)≤9223372036854775807∧(Lit.int .i64 k.1).wf=true:=by simp[okB]
theorem zcC (t:Tr):okF (spF 1 (zm t))↔yS (fun k=> !okB k) t=0:=by
 have h:=zak (fun k=> !okB k) t
 constructor
 · intro ho
   rcases Nat.eq_zero_or_pos (yS (fun k=> !okB k) t) with h0 | h0
   · exact h0
   · obtain⟨x,hx,hp⟩:=h.2 h0
     have:=(zcB x.2.1).2 (ho x hx)
     simp[this] at hp
 · intro h0 x hx
   have hp:okB x.2.1=true:=by
    cases hb:okB x.2.1 with
    | true=>rfl
    | false=>
      have:=h.1 ⟨x,hx,by simp[hb]⟩
      omega
   exact (zcB _).1 hp
theorem Fx.ok {op id:Int}{tx:ByteArray}{x t y:Tr}(h:Fx op id tx x t y)(ht:okF (spF 1 (zm t)))(hx:okF (spF 1 (zm x)))(htx:(tx.size:Int)≤9223372036854775807):okF (spF 1 (zm y)):=by
 have ht0:=(zcC t).1 ht
 have hx0:=(zcC x).1 hx
 rw[zcC]
 cases h with
 | ins ho h=>rw[h _];omega
 | del ho q v hq hv h=>have:=h (fun k=> !okB k);omega
 | mov ho h=>rw[h _];exact ht0
 | wri ho q u hq hu h=>
   have h1:=h (fun k=> !okB k)
   obtain⟨z,hz,e⟩:=zgE hu
   have h2:=(ht z hz).2
   have h3:okB (u.id,u.kind,tx)=true:=(zcB _).2 ⟨htx,by rw[←e];exact h2⟩
   have h4:jr (fun k=> !okB k) (u.id,u.kind,tx)=0:=by simp[jr,h3]
   omega
theorem zfk (op id par at_:Int)(tx:ByteArray)(x t:Tr):zb (zK op id par at_ tx x t).1.kids≤zb t.kids+zb x.kids+1:=by
 unfold zK
 split
 · exact Qq par at_ x t
 · split
   · have:=QC id t;omega
   · split
     · have:=zaS id par at_ t;omega
     · split
       · have:=JB id tx t;omega
       · simp[zu,zb]
theorem zcm:∀f:Fo,idF f=jE f
 | .nil=>rfl
 | .node b o k l r=>by rw[yO,idF,zcm l,zcm r]
def doK (g:Gr)(r:Tr×Int):Tr×Int:=if r.2=0 then (if (qG g r.1).2=0 then (r.1,0) else (zu,(qG g r.1).2)) else (zu,r.2)
theorem zjY (w:World)(S Sx:Nat→Prop)(gv nv:Value)(g:Gr)(t x:Tr)(op id par at_:Int)(tx:ByteArray)(sa:Option Addr)(sn sc:Nat)(hg:GrV w gv g)(hf:g.few)(hS:∀y,S y→y<w.heap.size)(hSx:∀y,Sx y→y<w.heap.size)(ht:zG w S nv t)(hx:zG w Sx (.agg #[.int .i64 x.id,.int .i64 x.kind,.string x.text,.slice sa sn sc]) x)(hsz:zb t.kids+1≤2000)(hxz:zb x.kids+1≤2000)(hop:(Lit.int .i8 op).wf=true)(hok:okF (spF 1 (zm t)))(hxk:okF (spF 1 (zm x)))(htx:(tx.size:Int)≤9223372036854775807):
 Calls Tryz.prog 25 #[gv,nv,.agg #[.int .i8 op,.int .i64 id,.int .i64 par,.int .i64 at_,.string tx,.int .i64 x.id,.int .i64 x.kind,.string x.text,.slice sa sn sc]] w (qI w (fun y=>S y∨Sx y) (doK g (zK op id par at_ tx x t))):=by
 obtain⟨ga,gc,rfl,hgk⟩:=hg
 obtain⟨gn,hgn⟩:∃gn,gn=g.kinds.length:=⟨_,rfl⟩
 obtain⟨ka,tc,rfl,hcap,hk⟩:=ht
 obtain⟨nk,hnk⟩:∃nk,nk=foLen t.kids:=⟨_,rfl⟩
 rw[←hnk,←hgn]
 obtain⟨B,hB⟩:∃B,B=zl w [.cells #[.slice ga gn gc,.int .i64 g.root] 24,.cells #[.int .i64 t.id,.int .i64 t.kind,.string t.text,.slice ka nk tc] 27,.cells #[.int .i8 op,.int .i64 id,.int .i64 par,.int .i64 at_,.string tx,.int .i64 x.id,.int .i64 x.kind,.string x.text,.slice sa sn sc] 44,.cells #[.int .i64 0,.int .i64 0,.string ⟨#[]⟩,.slice none 0 0] 27]:=⟨_,rfl⟩
 have hb:Below w.heap.size w B:=by rw[hB];exact zi _ _
 have hs:B.heap.size=w.heap.size+4:=by rw[hB];exact zw _ _
 have hgb0:B.heap[w.heap.size]? =some (.cells #[.slice ga gn gc,.int .i64 g.root] 24 (0,0)):=by rw[hB];exact ze _ _ 0 _ rfl
 have ht0:B.heap[w.heap.size+1]? =some (.cells #[.int .i64 t.id,.int .i64 t.kind,.string t.text,.slice ka nk tc] 27 (0,0)):=by rw[hB];exact ze _ _ 1 _ rfl
 have hs0:B.heap[w.heap.size+1+1]? =some (.cells #[.int .i8 op,.int .i64 id,.int .i64 par,.int .i64 at_,.string tx,.int .i64 x.id,.int .i64 x.kind,.string x.text,.slice sa sn sc] 44 (0,0)):=by rw[hB];exact ze _ _ 2 _ rfl
 have hr0:B.heap[w.heap.size+1+1+1]? =some (.cells #[.int .i64 0,.int .i64 0,.string ⟨#[]⟩,.slice none 0 0] 27 (0,0)):=by rw[hB];exact ze _ _ 3 _ rfl
 have hcell:∀X,Below B.heap.size B X→(X.cell? ⟨w.heap.size,0,none⟩=some (.slice ga gn gc)∧X.cell? ⟨w.heap.size,1,none⟩=some (.int .i64 g.root))∧(ug9 X (w.heap.size+1) t.id t.kind t.text ka nk tc)∧uh0 X (w.heap.size+1+1) op id par at_ tx x.id x.kind x.text sa sn sc:=fun X hX=>by
  have eg:=(hX.block _ (lohQ hgb0)).trans hgb0
  have e0:=(hX.block _ (lohQ ht0)).trans ht0
  have e1:=(hX.block _ (lohQ hs0)).trans hs0
  exact⟨⟨by rw[corQ _ _ 0 _ _ _ eg];rfl,by rw[corQ _ _ 1 _ _ _ eg];rfl⟩,zD e0,by rw[corQ _ _ 0 _ _ _ e1];rfl,by rw[corQ _ _ 1 _ _ _ e1];rfl,by rw[corQ _ _ 2 _ _ _ e1];rfl,by rw[corQ _ _ 3 _ _ _ e1];rfl,by rw[corQ _ _ 4 _ _ _ e1];rfl,by rw[corQ _ _ 5 _ _ _ e1];rfl,by rw[corQ _ _ 6 _ _ _ e1];rfl,by rw[corQ _ _ 7 _ _ _ e1];rfl,by rw[corQ _ _ 8 _ _ _ e1];rfl⟩
 have hidk:∀{u:Tr},okF (spF 1 (zm u))→∀i∈idT u,(Lit.int .i64 i).wf=true:=fun {u} hu i hi=>by
  have hz:yS (YE i) u≠0:=by
   rw[vJ]
   intro h0
   have h1:=(vW i (zm u)).1
   rw[Ya] at h1
   have h2:i∈jE (zm u):=by
    rw[zm,yO]
    rw[idT] at hi
    rcases List.mem_cons.1 hi with rfl | hi
    · exact List.mem_cons_self ..
    · have e:idF u.kids=jE u.kids:=zcm u.kids
      rw[e] at hi
      exact List.mem_cons_of_mem _ (List.mem_append_left _ hi)
   have:=h1 h2
   omega
  obtain⟨y,hy,hp⟩:=(zak (YE i) u).2 om
  have h3:=(hu y hy).2
  simp only[YE,decide_eq_true_eq] at hp
  rw[←hp];exact h3
 have hap:=jh B S Sx (.agg #[.int .i64 t.id,.int .i64 t.kind,.string t.text,.slice ka nk tc]) t x op id par at_ tx sa sn sc (fun y hy=>nL (hS y hy) hb.size) (fun y hy=>nL (hSx y hy) hb.size) ⟨ka,tc,by rw[hnk],by rw[hnk] at*;exact hcap,hk.below hb hS⟩ (hx.kept fun y hy=>⟨hy,hb.block y (hSx y hy)⟩) hsz hxz hop (hidk hok) (hidk hxk)
 have hgr:∀X,Below w.heap.size w X→GrV X (.agg #[.slice ga gn gc,.int .i64 g.root]) g:=fun X hX=>⟨ga,gc,by rw[hgn],hgk.below hX⟩
 obtain⟨r,hr⟩:∃r,r=zK op id par at_ tx x t:=⟨_,rfl⟩
 have hrs:=zfk op id par at_ tx x t
 have hfx:r.2=0→okF (spF 1 (zm r.1)):=fun h0=>(Ym (op:=op) (id:=id) (par:=par) (at_:=at_) (tx:=tx) (x:=x) (t:=t) (y:=r.1) (by rw[←hr];exact Prod.ext rfl h0)).1.ok hok hxk htx
 rw[←hr] at hap hrs ⊢
 obtain⟨d,hd⟩:∃d,d=doK g r:=⟨_,rfl⟩
 rw[←hd]
 obtain⟨y,hy⟩:∃y,y=zV r:=⟨_,rfl⟩
 obtain⟨yn,hyn⟩:∃yn,yn=foLen y.kids:=⟨_,rfl⟩
 obtain⟨ye,hye⟩:∃ye,ye=r.2:=⟨_,rfl⟩
 have HAP:=hH hap
 have HGR:=hH (aN hgr hf)
 have HR:=hH (aN hrs (aN hfx (aN hsz hxz)))
 have HY:=hH (aN hy (aN hyn (aN hye hd)))
 have HCE:=hH hcell
 have HB:=hH (aN hb (aN hs hr0))
 have HBE:=hH hB
 have HSS:=hH (aN hS hSx)
 obtain⟨⟨g0,g1⟩,⟨n0,n1,n2,n3⟩,m0,m1,m2,m3,m4,m5,m6,m7,m8⟩:=hcell B (BrQ _ _)
 rw[hB] at g0 g1 n0 n1 n2 n3 m0 m1 m2 m3 m4 m5 m6 m7 m8
 clear hap hgr hf hrs hfx hcell hb hs hgb0 ht0 hs0 hr0 hB hS hSx hk hcap hgk hgn hnk hsz hxz hop hok hxk htx hx hr hd hy hyn hye hidk
 go_enter Tryz.func25,Tryz.ntmps25
 go_wp2_with fail
 clear g0 g1 n0 n1 n2 n3 m0 m1 m2 m3 m4 m5 m6 m7 m8
 change Calls _ _ _ (zl w [.cells #[.slice ga gn gc,.int .i64 g.root] 24,.cells #[.int .i64 t.id,.int .i64 t.kind,.string t.text,.slice ka nk tc] 27,.cells #[.int .i8 op,.int .i64 id,.int .i64 par,.int .i64 at_,.string tx,.int .i64 x.id,.int .i64 x.kind,.string x.text,.slice sa sn sc] 44,.cells #[.int .i64 0,.int .i64 0,.string ⟨#[]⟩,.slice none 0 0] 27]) _
 rw[←HBE.out]
 refine HAP.out.mono ?_
 rintro e W5 ⟨_,rfl,⟨yb,yc,rfl,hyc,hyk⟩,hb5⟩
 rw[←HY.out.1] at hyc hyk ⊢
 rw[←HY.out.2.1] at hyc ⊢
 rw[←HY.out.2.2.1]
 obtain⟨W6,hW6⟩:∃W6,W6=W5.alloc (.cells #[.int .i64 y.id,.int .i64 y.kind,.string y.text,.slice yb yn yc] 27):=⟨_,rfl⟩
 have hb56:Below W5.heap.size W5 W6:=by rw[hW6];exact zg _ _
 have hs6:W6.heap.size=W5.heap.size+1:=by rw[hW6];simp
 have hy6:W6.heap[W5.heap.size]? =some (.cells #[.int .i64 y.id,.int .i64 y.kind,.string y.text,.slice yb yn yc] 27 (0,0)):=by rw[hW6];exact hanQ _ _
 have HB6:=hH (hb5.trans (hb56.mono hb5.size))
 have HYA:=hH (aN hyc (aN hyk (aN hb56 (aN hs6 hb5.size))))
 have HY6:=hH hy6
 have HW6:=hH hW6
 obtain⟨xb,hxb⟩:∃xb,xb=W5.heap.size:=⟨_,rfl⟩
 clear hyc hyk hb56 hy6 hW6 hb5 hs6
 go_upto_region 2 with fail
 change Code.wp _ _ _ _ (W5.alloc (.cells #[.int .i64 y.id,.int .i64 y.kind,.string y.text,.slice yb yn yc] 27))
 rw[←HW6.out,←hxb]
 rw[←hxb] at HY6
 have HXBB:=hH hxb
 clear HW6 hxb
 by_cases hz:ye=0
 · have h0:r.2=0:=by rw[←HY.out.2.2.1];exact hz
   have hyr:y=r.1:=by rw[HY.out.1,zV,ipQ h0]
   have hyok:=HR.out.2.1 h0
   have hysz:=HR.out.1
   rw[←hyr] at hyok hysz
   have hbw6:Below w.heap.size w W6:=HB.out.1.trans (HB6.out.mono HB.out.1.size)
   have htr:=ziu W6 (fun z=>z<W5.heap.size∧(yj W5 z∧((S z∨Sx z)∨B.heap.size≤z))) (.agg #[.slice ga gn gc,.int .i64 g.root]) (.agg #[.int .i64 y.id,.int .i64 y.kind,.string y.text,.slice yb yn yc]) g y (HGR.out.1 W6 hbw6) HGR.out.2 (fun z hz=>nL hz.1 HYA.out.2.2.1.size) ⟨yb,yc,by rw[HY.out.2.1],by rw[←HY.out.2.1];exact HYA.out.1,HYA.out.2.1.kept fun z hz=>⟨⟨hz.1.lt,hz⟩,HYA.out.2.2.1.block z hz.1.lt⟩⟩ (by have:=HR.out.2.2;omega) hyok
   obtain⟨c,hc⟩:∃c,c=qG g y:=⟨_,rfl⟩
   rw[←hc] at htr
   obtain⟨c1,hc1⟩:∃c1,c1=c.1:=⟨_,rfl⟩
   obtain⟨c2,hc2⟩:∃c2,c2=c.2:=⟨_,rfl⟩
   unfold Qe at htr;rw[←hc1,←hc2] at htr
   have HTR:=hH htr
   have HCC:=hH (aN hc hc2)
   have HRY:=hH (aN hyr h0)
   subst hz
   obtain⟨⟨g0,g1⟩,⟨n0,n1,n2,n3⟩,m0,m1,m2,m3,m4,m5,m6,m7,m8⟩:=HCE.out W6 HB6.out
   obtain⟨y0,y1,y2,y3⟩:=zD HY6.out
   clear h0 hyr hyok hysz hbw6 htr hc hc1 hc2
   go_wp2_with fail
   refine HTR.out.mono ?_
   rintro e W7 ⟨rfl,hb7⟩
   have HB7:=hH (HB6.out.trans (hb7.mono HB6.out.size))
   have HL7:=hH hb7
   have hy7:=(hb7.block _ (lohQ HY6.out)).trans HY6.out
   clear hb7 g0 g1 n0 n1 n2 n3 m0 m1 m2 m3 m4 m5 m6 m7 m8 y0 y1 y2 y3
   by_cases hcz:c2=0
   · have hd:d=(y,0):=by rw[HY.out.2.2.2,doK,ipQ HRY.out.2,←HRY.out.1,←HCC.out.1,←HCC.out.2,ipQ hcz]
     have HEQ:=hH hd
     subst hcz
     obtain⟨y0,y1,y2,y3⟩:=zD hy7
     have hr3:=(HB7.out.block _ (lohQ HB.out.2.2)).trans HB.out.2.2
     have hbz:Below w.heap.size w W7:=HB.out.1.trans (HB7.out.mono HB.out.1.size)
     obtain⟨z0,z1,z2,z3⟩:=zD hr3
     have zf:∀j,W7.frozen? ⟨w.heap.size+1+1+1,j,none⟩=false:=fun j=>forQ _ _ j _ _ hr3
     obtain⟨V,hV,r1,r2,r3,r4,r5,r6⟩:=zo (u0:= .int .i64 y.id) (u1:= .int .i64 y.kind) (u2:= .string y.text) (u3:= .slice yb yn yc) hr3
     have hokV:zt V (fun z=>yj V z∧((S z∨Sx z)∨w.heap.size≤z)) y.kids yb:=HYA.out.2.1.kept fun z hz=>by
      obtain⟨⟨cs,ty,fr,hcz⟩,hz2⟩:=hz
      have h1:=HB.out.2.1
      have h2:=HYA.out.2.2.2.2
      have hlt:=lohQ hcz
      have hne:z≠w.heap.size+1+1+1:=fun e=>by
       rcases hz2 with (h | h) | h
       · have:=HSS.out.1 z h;omega
       · have:=HSS.out.2 z h;omega
       · omega
      have e1:V.heap[z]? =W5.heap[z]?:=(r2 z hne).trans ((HL7.out.block z (by have:=HYA.out.2.2.2.1;omega)).trans (HYA.out.2.2.1.block z hlt))
      exact⟨⟨⟨cs,ty,fr,e1.trans hcz⟩,hz2.imp (fun h=>h) (fun h=>by omega)⟩,e1⟩
     have HE:=hH (aN hbz (aN hV (aN r1 (aN r2 (aN r3 (aN r4 (aN r5 (aN r6 hokV))))))))
     clear hd hy7 hbz hr3 hV r1 r2 r3 r4 r5 r6 hokV
     go_wp2_with fail
     rw[←HE.out.2.1]
     obtain⟨hbz,hV,r1,r2,r3,r4,r5,r6,hokV⟩:=HE.out
     exact zQ (p:=6) (u:=7) rfl rfl (g:=w.heap.size+1+1+1) (y:=y) ⟨r3.trans hbz.os,r4.trans hbz.tape,r5.trans hbz.output,by rw[r6];exact hbz.size,fun k hk=>(r2 k om).trans (hbz.block k hk)⟩ r1 HY.out.2.1 (by rw[←HY.out.2.1];exact HYA.out.1) hokV (by rw[HEQ.out,zV,ipQ rfl]) rfl (by rw[HEQ.out];rfl)
   · have hzb:(c2 != 0)=true:=by simpa using hcz
     have hd:d=(zu,c2):=by rw[HY.out.2.2.2,doK,ipQ HRY.out.2,←HRY.out.1,←HCC.out.1,←HCC.out.2,inQ hcz]
     have HEQ:=hH hd
     have HNE:=hH hcz
     clear hd hcz hy7
     have hr3:=(HB7.out.block _ (lohQ HB.out.2.2)).trans HB.out.2.2
     have hbz:Below w.heap.size w W7:=HB.out.1.trans (HB7.out.mono HB.out.1.size)
     obtain⟨z0,z1,z2,z3⟩:=zD hr3
     have zf:∀j,W7.frozen? ⟨w.heap.size+1+1+1,j,none⟩=false:=fun j=>forQ _ _ j _ _ hr3
     exact sc6
 · have hzb:(ye != 0)=true:=by simpa using hz
   have hd:d=(zu,ye):=by rw[HY.out.2.2.2,doK,inQ (by rw[←HY.out.2.2.1];exact hz),←HY.out.2.2.1]
   have HEQ:=hH hd
   have HNE:=hH hz
   clear hd hz
   have hr3:=(HB6.out.block _ (lohQ HB.out.2.2)).trans HB.out.2.2
   have hbz:Below w.heap.size w W6:=HB.out.1.trans (HB6.out.mono HB.out.1.size)
   obtain⟨z0,z1,z2,z3⟩:=zD hr3
   have zf:∀j,W6.frozen? ⟨w.heap.size+1+1+1,j,none⟩=false:=fun j=>forQ _ _ j _ _ hr3
   exact sc6
end Go.Proofs.YtgkmmnihaiopaaaGreat
