/-
  .
-/
import Derived.Test.YtgkmmnihaiopaaaGreatKFreshQu
import Derived.Test.YtgkmmnihaiopaaaGreatJPgQu
set_option maxRecDepth 100000
set_option maxHeartbeats 40000000
namespace Go.Proofs.YtgkmmnihaiopaaaGreat
open Go.RowKit Go.Shelf
open Go.Maps
attribute [local go_sem] Oper.semAt_some
set_option linter.unusedVariables false
set_option linter.unusedSimpArgs false
def qZ (g:Gr):List Int→Nat→List Sp→Option Nat
 | _,_,[]=>none
 | ids,i,x::r=>if atB g ids x.1 (kR x)=true then some i else qZ g (ids++[x.2.1.1]) (i+1) r
def zO (l:List Sp):List Int:=l.map fun x=>x.2.1.1
theorem kr (g:Gr):∀(pre:List Sp) (ids:List Int) (i:Nat) (r:List Sp),qZ g ids i pre=none→qZ g ids i (pre++r)=qZ g (ids++zO pre) (i+pre.length) r
 | [],ids,i,r,_=>by simp[zO]
 | x ::p,ids,i,r,h=>by
   unfold qZ at h
   split at h
   · cases h
   · rename_i hx
     rw[List.cons_append]
     conv=>lhs;unfold qZ
     rw[if_neg hx,kr g p _ _ r h]
     simp only[zO,List.map_cons,List.append_assoc,List.cons_append,List.nil_append,List.length_cons]
     rw[show i+1+p.length=i+(p.length+1) by omega]
def vN (g:Gr) (l:List Sp):Int×Int:=match qZ g [] 0 l with | some i=>((i:Int),70) | none=>(0,0)
def YQ (p:Int×Int) (w:World) (e:Ending) (w' :World):Prop:=e= .returned (.tuple #[.int .i64 p.1,.int .i64 p.2])∧Below w.heap.size w w'
def okF (l:List Sp):Prop:=∀x∈l,(x.2.1.2.2.size:Int)≤9223372036854775807∧(Lit.int .i64 x.2.1.1).wf=true
theorem ZQ {P:Program} {fn:Func} {p q:Tmp} {tp tq:TypeId} (h:fn.results= #[.cell p tp,.cell q tq]) (tmps:Array Value) (w:World) (g1 g2:Nat) (a b:Int) (hp:tmps.getD p undef= .pointer (some ⟨g1,0,none⟩)) (hq:tmps.getD q undef= .pointer (some ⟨g2,0,none⟩))
 (hc1:w.cell? ⟨g1,0,none⟩=some (.int .i64 a)) (hc2:w.cell? ⟨g2,0,none⟩=some (.int .i64 b)) (hb:∀w,(isAgg tp).run P w= .ok false w) (hb2:∀w,(isAgg tq).run P w= .ok false w):(results fn tmps).run P w= .ok (.tuple #[.int .i64 a,.int .i64 b]) w:=by
 have hp' :tmps[p]?.getD undef= .pointer (some ⟨g1,0,none⟩):=by simpa using hp
 have hq' :tmps[q]?.getD undef= .pointer (some ⟨g2,0,none⟩):=by simpa using hq
 have hl:(loadVar tp ⟨g1,0,none⟩).run P w= .ok (.int .i64 a) w:=by simp[go_sem,hc1,hb,Result.andThen]
 have hl2:(loadVar tq ⟨g2,0,none⟩).run P w= .ok (.int .i64 b) w:=by simp[go_sem,hc2,hb2,Result.andThen]
 have hm:∀(f:ResultVar→Sem Value),(#[ResultVar.cell p tp,ResultVar.cell q tq]:Array ResultVar).mapM f=(do let x←f (.cell p tp);let y←f (.cell q tq);pure #[x,y]):=fun f=>by simp[Array.mapM_eq_mapM_toList]
 unfold results
 rw[h,hm]
 simp[hp',hq',asAddr,hb,hb2,hc1,hc2,go_sem,Result.andThen]
section
variable {P:Program} {H:Type} {n:Nat}
theorem zal (w:World) {o:Oper} {a:Act} {K:Act→World→Prop} {Q:Exit→Act→World→Prop} (m x v:Operand) (t:TypeId) (hop:o.op=Op.mapUpdate t m x v) (k e:TypeId) (KK:Keyed P k) (ht:P.underlying t=some (.map k e)) (R:Value→Option (DataW H×List MemPlace)) (b nn:Nat) (D:DataW H)
 (hm:a.eval m= .map (some b)) (hown:w.ownsMap P k R b nn D) (hn:nn<maxLen) (key val:Value) (kl:Lit) (hx:a.eval x=key) (hv:a.eval v=val) (hkey:keyOf P k key=some kl) (d:DataW H) (ps:List MemPlace) (hval:R val=some (d,ps))
 (hK:∀w',w'.ownsMap P k R b (nn+1) (D.put kl d)→w.grownBy w' (some b)→K (a.put o.dst undef) w'):Oper.wpIn Fence.wide n P o a w K Q:=by
 obtain⟨w',hrun,r1,r2⟩:=hown.update KK ht hn hkey hval
 unfold Oper.wpIn
 refine⟨by simp[Oper.about,hop],?_⟩
 rw[Oper.semAt_plain Fence.wide _ _ (by rw[hop];intro c hc';cases hc')]
 simp[execOp,hop,hm,hx,hv,hrun,Result.andThen]
 exact hK _ r1 r2
end
def FaI (g:Gr) (W:World) (nb:Nat) (pre:List Sp) (V:World):Prop:=zk W V (fun y=>y=nb+4∨y=nb+6)∧V.heap[nb+6]? =some (.cells #[.int .i64 (pre.length:Int)] 3 (0,0))∧qI V (nb+4) pre.length (zO pre)∧qZ g [] 0 pre=none
def FaX (g:Gr) (W:World) (nb:Nat) (tot:List Sp) (c:Code) (V:World):Prop:=c= .ret∧zk W V (fun y=>y=nb+2∨y=nb+3∨y=nb+4∨y=nb+6)∧∃i:Nat,V.heap[nb+2]? =some (.cells #[.int .i64 (i:Int)] 3 (0,0))∧V.heap[nb+3]? =some (.cells #[.int .i64 70] 33 (0,0))∧qZ g [] 0 tot=some i
theorem cell1 {w:World} {b:Nat} {v:Value} {t:TypeId} (h:w.heap[b]? =some (.cells #[v] t (0,0))):w.cell? ⟨b,0,none⟩=some v∧w.frozen? ⟨b,0,none⟩=false:=⟨by rw[corQ _ _ 0 _ _ _ h];rfl,forQ _ _ 0 _ _ h⟩
theorem set1 {w:World} {b:Nat} {v u:Value} {t:TypeId} (h:w.heap[b]? =some (.cells #[v] t (0,0))):(w.setCell ⟨b,0,none⟩ u).heap[b]? =some (.cells #[u] t (0,0)):=by rw[hssQ w b 0 _ _ _ h];simp
theorem jh {W V:World} {S:Nat→Prop} (h:zk W V S) (b:Nat) (v:Value) (hb:S b):zk W (V.setCell ⟨b,0,none⟩ v) S:=
 ⟨h.os,h.tape,h.output,by simp[World.setCell];exact h.size,fun y hy hn=>by rw[BhsQ _ _ _ _ (fun e=>hn (by rw[e];exact hb))];exact h.block y hy hn⟩
theorem kg {w W V:World} {S:Nat→Prop} (h0:Below w.heap.size w W) (h:zk W V S) (hS:∀y,S y→w.heap.size≤y):Below w.heap.size w V:=
 ⟨h.os.trans h0.os,h.tape.trans h0.tape,h.output.trans h0.output,Nat.le_trans h0.size h.size,fun y hy=>(h.block y (nL hy h0.size) (fun e=>by have:=hS y e;omega)).trans (h0.block y hy)⟩
theorem Qj {w V:World} {D:Nat} {o:Obj} (h:Below w.heap.size w V) (hD:w.heap.size≤D):Below w.heap.size w (V.putObj D o):=
 ⟨h.os,h.tape,h.output,by simp[World.putObj];exact h.size,fun y hy=>(WphQ om).trans (h.block y hy)⟩
theorem zfn (w:World) (S:Nat→Prop) (gv nv:Value) (g:Gr) (t:Tr) (hg:GrV w gv g) (hf:g.few) (hS:∀x,S x→x<w.heap.size) (ht:zJ w S nv t) (hsz:zg t.kids+1≤500000) (hok:okF (spF 1 (zl t))):
 Calls Tryz.prog 83 #[gv,nv] w (YQ (vN g (spF 1 (zl t))) w):=by
 obtain⟨ga,gc,rfl,hgk⟩:=hg
 obtain⟨ka,cap,rfl,hcap,hk⟩:=ht
 obtain⟨n,hn⟩:∃n,n=foLen t.kids:=⟨_,rfl⟩
 obtain⟨gn,hgn⟩:∃gn,gn=g.kinds.length:=⟨_,rfl⟩
 rw[←hn,←hgn]
 obtain⟨nb,hnb⟩:∃nb,nb=w.heap.size:=⟨_,rfl⟩
 have hmm:=@run_makeMap Tryz.prog
 have hal:=zi [.cells #[.slice ga gn gc,.int .i64 g.root] 24,.cells #[.int .i64 t.id,.int .i64 t.kind,.string t.text,.slice ka n cap] 27,.cells #[.int .i64 0] 3,.cells #[.int .i64 0] 33,.map #[] 0,.cells #[.map (some (w.heap.size+4))] 93,.cells #[.int .i64 0] 3,.cells #[.int .i64 t.id,.int .i64 t.kind,.string t.text,.slice ka n cap] 27] w
 have hab:=zm [.cells #[.slice ga gn gc,.int .i64 g.root] 24,.cells #[.int .i64 t.id,.int .i64 t.kind,.string t.text,.slice ka n cap] 27,.cells #[.int .i64 0] 3,.cells #[.int .i64 0] 33,.map #[] 0,.cells #[.map (some (w.heap.size+4))] 93,.cells #[.int .i64 0] 3,.cells #[.int .i64 t.id,.int .i64 t.kind,.string t.text,.slice ka n cap] 27] w
 have has:=zC [.cells #[.slice ga gn gc,.int .i64 g.root] 24,.cells #[.int .i64 t.id,.int .i64 t.kind,.string t.text,.slice ka n cap] 27,.cells #[.int .i64 0] 3,.cells #[.int .i64 0] 33,.map #[] 0,.cells #[.map (some (w.heap.size+4))] 93,.cells #[.int .i64 0] 3,.cells #[.int .i64 t.id,.int .i64 t.kind,.string t.text,.slice ka n cap] 27] w
 have HA:=hH (aN hab (aN (hal 0 _ rfl) (aN (hal 2 _ rfl) (aN (hal 3 _ rfl) (aN (hal 4 _ rfl) (aN (hal 5 _ rfl) (aN (hal 6 _ rfl) (aN (hal 7 _ rfl) has))))))))
 have H:=hH (aN hS (aN hcap (aN hk (aN hsz (aN hn hnb)))))
 have HG:=hH (aN hgk (aN hf (aN hgn hok)))
 clear hS hcap hk hsz hn hnb hal hab has hgk hf hgn hok
 refine (callsIn_wide (n:=8)).1 ?_
 refine callsIn_of_wp_marks Tryz.func83 rfl trivial ?_ rfl
 simp only[Tryz.ntmps83,List.size_toArray,List.length_cons,List.length_nil,Nat.reduceAdd,Nat.reduceSub,Array.replicate_succ,Array.replicate_zero,List.push_toArray,List.append_toArray,List.nil_append,List.cons_append]
 gi_wp2_with (refine⟨trivial,?_⟩;gi_at_call 102;refine (callsIn_wide.2 (zdp _ _ _ _ _ _ _)).mono ?_;rintro e w' ⟨rfl,rfl⟩)
 clear hmm
 change Code.wpIn _ _ _ _ _ _ (zt w [.cells #[.slice ga gn gc,.int .i64 g.root] 24,.cells #[.int .i64 t.id,.int .i64 t.kind,.string t.text,.slice ka n cap] 27,.cells #[.int .i64 0] 3,.cells #[.int .i64 0] 33,.map #[] 0,.cells #[.map (some (w.heap.size+4))] 93,.cells #[.int .i64 0] 3,.cells #[.int .i64 t.id,.int .i64 t.kind,.string t.text,.slice ka n cap] 27])
 generalize hW:zt w _=W at HA ⊢
 clear hW
 rw[←H.out.2.2.2.2.2]
 obtain⟨k0,k1,k2,k3,k4,k5,k6,k7,k8⟩:=HA.out
 rw[←H.out.2.2.2.2.2] at k1 k2 k3 k4 k5 k6 k7 k8
 rw[Nat.add_zero] at k1
 have k8' :W.heap.size=nb+8:=k8
 have hwn:=H.out.2.2.2.2.2
 have hnode:YO W (fun x=>S x∨x=nb+7) t (nb+7):=⟨ka,cap,Or.inr rfl,by rw[k7,H.out.2.2.2.2.1],H.out.2.1,H.out.2.2.1.kept fun x hx=>⟨Or.inl hx,k0.block x (H.out.1 x hx)⟩⟩
 refine zeM om rfl (fun x=>S x∨x=nb+7) t hnode (fun x hx=>by rcases hx with hx | hx;have:=H.out.1 x hx;omega;omega) H.out.2.2.2.1 rfl (FaI g W nb) (FaX g W nb (spF 1 (zl t))) (fun h hb=>⟨jv h.1 hb,(hb.block _ om).trans h.2.1,h.2.2.1.at (hb.block _ om),h.2.2.2⟩)
  (fun h hb=>by obtain⟨h1,h2,i,h3,h4,h5⟩:=h;exact⟨h1,jv h2 hb,i,(hb.block _ om).trans h3,(hb.block _ om).trans h4,h5⟩) ⟨zk.refl _ _,k6,⟨#[],0,k4,⟨by simp,MapKept.stamped_empty 0,by simp⟩,Nat.le_refl _,rfl⟩,rfl⟩ ?round ?done ?stop
 case done=>
  rintro D V hD ⟨h1,h2,h3,h4⟩ hK
  have e2:V.heap[nb+2]? =some (.cells #[.int .i64 0] 3 (0,0)):=(h1.block _ om om).trans k2
  have e3:V.heap[nb+3]? =some (.cells #[.int .i64 0] 33 (0,0)):=(h1.block _ om om).trans k3
  obtain⟨b2,f2⟩:=cell1 e2
  obtain⟨V2,hV2⟩:∃V2,V2=V.setCell ⟨nb+2,0,none⟩ (.int .i64 0):=⟨_,rfl⟩
  have e32:V2.heap[nb+3]? =some (.cells #[.int .i64 0] 33 (0,0)):=by rw[hV2,BhsQ _ _ _ _ (show nb+3≠nb+2 by omega)];exact e3
  have e22:V2.heap[nb+2]? =some (.cells #[.int .i64 0] 3 (0,0)):=by rw[hV2];exact set1 e2
  obtain⟨b3,f3⟩:=cell1 e32
  rw[hV2] at b3 f3
  have hKK:(V2.setCell ⟨nb+3,0,none⟩ (.int .i64 0)).heap[D]? =some (.deferred (some [])):=by rw[BhsQ _ _ _ _ (show D≠nb+3 by omega),hV2,BhsQ _ _ _ _ (show D≠nb+2 by omega)];exact hK
  have q2:((V2.setCell ⟨nb+3,0,none⟩ (.int .i64 0)).putObj D (.deferred none)).cell? ⟨nb+2,0,none⟩=some (.int .i64 0):=(cell1 (t:=3) (by rw[WphQ (show nb+2≠D by omega),BhsQ _ _ _ _ (show nb+2≠nb+3 by omega)];exact e22)).1
  have q3:((V2.setCell ⟨nb+3,0,none⟩ (.int .i64 0)).putObj D (.deferred none)).cell? ⟨nb+3,0,none⟩=some (.int .i64 0):=(cell1 (t:=33) (by rw[WphQ om];exact set1 e32)).1
  have hT:zk W (V2.setCell ⟨nb+3,0,none⟩ (.int .i64 0)) (fun y=>y=nb+2∨y=nb+3∨y=nb+4∨y=nb+6):=by
   rw[hV2];exact jh (jh ⟨h1.os,h1.tape,h1.output,h1.size,fun y hy hn=>h1.block y hy (fun e=>hn om)⟩ _ _ (Or.inl rfl)) _ _ (Or.inr (Or.inl rfl))
  have hB:=Qj (D:=D) (o:= .deferred none) (kg k0 hT (fun y hy=>by omega)) om
  rw[hV2] at hKK q2 q3 hB
  have HE:=hH (aN hKK (aN q2 (aN q3 hB)))
  have HB:=hH (show vN g (spF 1 (zl t))=(0,0) by rw[vN,h4])
  clear h1 h2 h3 h4 e2 e3 e22 e32 hV2 hKK q2 q3 hT hB hD k0 k1 k2 k3 k4 k5 k6 k7 k8 k8' hwn hnode HA H HG
  gi_wp2
  obtain⟨q1,q2,q3,q4⟩:=HE.out
  refine⟨by simp,.inl ⟨_,_,rfl,run_takeDeferred q1,?_⟩⟩
  exact⟨_,ZQ rfl _ _ _ _ 0 0 rfl rfl q2 q3 (fun _=>by kernel_rfl) (fun _=>by kernel_rfl),by rw[HB.out],q4⟩
 case stop=>
  rintro D c V hD ⟨rfl,h1,i,h2,h3,h4⟩ hK
  have q2:(V.putObj D (.deferred none)).cell? ⟨nb+2,0,none⟩=some (.int .i64 (i:Int)):=(cell1 (t:=3) (by rw[WphQ om];exact h2)).1
  have q3:(V.putObj D (.deferred none)).cell? ⟨nb+3,0,none⟩=some (.int .i64 70):=(cell1 (t:=33) (by rw[WphQ om];exact h3)).1
  have hB:=Qj (D:=D) (o:= .deferred none) (kg k0 h1 (fun y hy=>by omega)) om
  have HE:=hH (aN hK (aN q2 (aN q3 hB)))
  have HB:=hH (show vN g (spF 1 (zl t))=((i:Int),70) by rw[vN,h4])
  clear h1 h2 h3 h4 q2 q3 hB hD k0 k1 k2 k3 k4 k5 k6 k7 k8 k8' hwn hnode HA H HG
  gi_wp2
  obtain⟨q1,q2,q3,q4⟩:=HE.out
  refine⟨by simp,.inl ⟨_,_,rfl,run_takeDeferred q1,?_⟩⟩
  exact⟨_,ZQ rfl _ _ _ _ (i:Int) 70 rfl rfl q2 q3 (fun _=>by kernel_rfl) (fun _=>by kernel_rfl),by rw[HB.out],q4⟩
 case round=>
  rintro l hl pre rest d key k V b off kc ka2 htot hV ⟨h1,h2,h3,h4⟩ hSb d0 d1 d2 d3 dc dk K hK
  obtain⟨np,hnp⟩:∃np,np=pre.length:=⟨_,rfl⟩
  rw[←hnp] at h2 h3
  have htn:np+1≤500000:=by
   have:=congrArg List.length htot
   rw[yE,zL,List.length_append,List.length_cons] at this
   have:=H.out.2.2.2.1;omega
  have hxm:(d,key,k)∈spF 1 (zl t):=by rw[htot];simp
  have hkl:foLen k≤1000000:=by
   have h1:=(jr 1 _ _ hxm).1
   have h2:=zK k
   have h3:=H.out.2.2.2.1
   rw[zL] at h1;simp only at h1;omega
  have hob:=HG.out.2.2.2 _ hxm
  have hbb:b<nb+8∧b≠nb+4∧b≠nb+6:=by
   rcases hSb with h | h
   · have:=H.out.1 b h;omega
   · omega
  have HR:=hH (aN h1 (aN h2 (aN h3 (aN h4 (aN hV (aN hl (aN hnp (aN htot hob))))))))
  have HK:=hH hK
  have HC:=hH (aN hSb (aN d0 (aN d1 (aN d2 (aN d3 (aN dc dk))))))
  have HZ:=hH (aN k0 (aN k1 (aN k2 (aN k3 (aN k5 (aN k8' hwn))))))
  clear h1 h2 h3 h4 hV hl hnp hK htot hxm hob hSb d0 d1 d2 d3 dc dk k0 k1 k2 k3 k4 k5 k6 k7 k8 k8' hwn hnode HA
  gi_wp2
  refine HK.out _ V (BrQ _ _) fun V1 hV1=>?_
  clear HK
  obtain⟨o',ev,o,ho,hoc⟩:=hV1
  obtain⟨h1,h2,h3,h4,hV,hl,hnp,htot,hob1,hob2⟩:=HR.out
  obtain⟨hSb,d0,d1,d2,d3,dc,dk⟩:=HC.out
  obtain⟨k0,k1,k2,k3,k5,k8',hwn⟩:=HZ.out
  have hlW:l=nb+9:=by omega
  have hk1:∀y,y≠l→V1.heap[y]? =V.heap[y]?:=fun y hy=>by rw[ev];exact WphQ hy
  have hs1:V1.heap.size=V.heap.size:=by rw[ev];simp[World.putObj]
  have hbV1:Below w.heap.size w V1:=by rw[ev];exact Qj (kg k0 h1 (fun y hy=>by omega)) om
  have e1:∀y,y<nb+8→y≠nb+4→y≠nb+6→V1.heap[y]? =W.heap[y]?:=fun y hy n4 n6=>(hk1 y om).trans (h1.block y om om)
  obtain⟨g0,g1⟩:=zci ((e1 nb om om om).trans k1)
  obtain⟨m5,_⟩:=cell1 ((e1 (nb+5) om om om).trans k5)
  have hb1:V1.heap[b]? =V.heap[b]?:=hk1 b om
  have hat:=zch V1 (fun y=>S y∨y=nb+7) (.agg #[.slice ga gn gc,.int .i64 g.root]) g (nb+4) np (zO pre) d (kR (d,key,k)) b off kc ka2 ⟨ga,gc,by rw[HG.out.2.2.1],HG.out.1.below hbV1⟩ HG.out.2.1
   (fun y hy=>by rcases hy with hy | hy;have:=H.out.1 y hy;omega;omega) hSb ((World.cell?_of_block (a:=⟨b,off,none⟩) hb1).trans d0) ((World.cell?_of_block (a:=⟨b,off+1,none⟩) hb1).trans d1) ((World.cell?_of_block (a:=⟨b,off+2,none⟩) hb1).trans d2) ((World.cell?_of_block (a:=⟨b,off+3,none⟩) hb1).trans d3) dc
   (dk.kept fun x hx=>⟨hx,hk1 x (by rcases hx with hx | hx;have:=H.out.1 x hx;omega;omega)⟩) hkl hob1 hob2 (h3.at (hk1 _ om))
  obtain⟨bd,hbd⟩:∃bd,bd=atB g (zO pre) d (kR (d,key,k)):=⟨_,rfl⟩
  rw[←hbd] at hat
  have HAT:=hH hat
  have HBD:=hH hbd
  have HEV:=hH ev
  have HV1:=hH (aN hk1 (aN hs1 (aN e1 hlW)))
  clear hat hbd h1 h2 h3 h4 hV hl hnp htot hob1 hob2 hSb d0 d1 d2 d3 dc dk k0 k1 k2 k3 k5 k8' hwn hk1 hs1 hbV1 e1 hlW hb1 ev ho hoc
  cases bd
  · gi_wp2_with (refine⟨trivial,?_⟩;gi_at_call 103;refine ((callsIn_wide.2 HAT.out).inRound _).mono ?_;rintro e V2 ⟨rfl,hb2⟩;have HV2:=hH hb2;clear hb2)
    obtain⟨h1,h2,h3,h4,hV,hl,hnp,htot,hob1,hob2⟩:=HR.out
    obtain⟨hk1,hs1,e1,hlW⟩:=HV1.out
    have k8':=HZ.out.2.2.2.2.2.1
    have hwn:=HZ.out.2.2.2.2.2.2
    have hsV2:=HV2.out.size
    have hb28:∀y,y<nb+8→V2.heap[y]? =V1.heap[y]?:=fun y hy=>HV2.out.block y om
    have m52:=((hb28 (nb+5) om).trans (e1 (nb+5) om om om)).trans HZ.out.2.2.2.2.1
    have c62:V2.heap[nb+6]? =some (.cells #[.int .i64 (np:Int)] 3 (0,0)):=((hb28 _ om).trans (hk1 _ om)).trans h2
    have hc0:V2.cell? ⟨b,off,none⟩=some (.int .i64 key.1):=(World.cell?_of_block (a:=⟨b,off,none⟩) ((hb28 b hbb.1).trans (hk1 b om))).trans HC.out.2.1
    have hM2:qI V2.drew (nb+4) np (zO pre):=h3.at ((hb28 _ om).trans (hk1 _ om))
    obtain⟨SX,hSX⟩:∃SX:World→Prop,SX=fun X=>X.heap[nb+5]? =V2.heap[nb+5]?∧X.heap[b]? =V2.heap[b]?:=⟨_,rfl⟩
    have HSx:∀X,SX X→X.cell? ⟨nb+5,0,none⟩=some (.map (some (nb+4)))∧X.cell? ⟨b,off,none⟩=some (.int .i64 key.1):=fun X h=>by
     rw[hSX] at h
     exact⟨(cell1 (h.1.trans m52)).1,(World.cell?_of_block (a:=⟨b,off,none⟩) h.2).trans hc0⟩
    have hHeld:SX V2.drew:=by rw[hSX];exact⟨rfl,rfl⟩
    have HM2:=hH hM2
    have HKEY:=hH (keyOf_int_mk (P:=Tryz.prog) Tryz.underlying3 hob2)
    have HE2:=hH (aN hb28 c62)
    have HNP:=hH htn
    have HSX:=hH hSX
    clear h1 h2 h3 h4 hV hl hnp htot hob1 hob2 hk1 hs1 e1 hlW k8' hwn hsV2 hb28 m52 c62 hc0 hM2 hSX m5 g0 g1
    refine jq (S:=SX) kr1 (Ji kr1) ?_
    refine zL1 (i:=0) ((.map (some (nb+4)))) rfl ?_ ?_
    · clear hHeld;intro X hSw;obtain⟨s0,s1⟩:=HSx X hSw;clear hSw;go_simp
    simp only[Act.put,pg]
    refine zG1 (i:=1) ((.pointer (some ⟨b,off,none⟩))) rfl ?_
    simp only[Act.put,pg]
    refine zG1 (i:=2) ((.pointer (some ⟨b,off,none⟩))) rfl ?_
    simp only[Act.put,pg]
    refine zG1 (i:=3) ((.pointer (some ⟨b,off,none⟩))) rfl ?_
    simp only[Act.put,pg]
    refine zL1 (i:=4) (.int .i64 key.1) rfl ?_ ?_
    · clear hHeld;intro X hSw;obtain⟨s0,s1⟩:=HSx X hSw;clear hSw;go_simp
    simp only[Act.put,pg]
    refine zG1 (i:=5) (.agg #[]) rfl ?_
    simp only[Act.put,pg]
    refine zM (i:=6) (o:=_) kr1 rfl fun K6 hK6=>?_
    rw[if_pos (by rfl)]
    simp only[pg3]
    refine zal _ (.tmp 21) (.tmp 25) (.tmp 26) 93 rfl 3 121 Y3 Tryz.underlying93 _ (nb+4) np _ rfl HM2.out (by have:=HNP.out;unfold maxLen;omega) _ _ _ rfl rfl HKEY.out (.agg []) [] unitElem_mk ?_
    intro w4 hown4 hgr4
    refine hK6 _ _ (by have hb4:=hbb.2.1;rw[HSX.out] at hHeld ⊢;exact⟨(hgr4.block _ (by have:=HV2.out.size;have:=HV1.out.2.1;have:=HR.out.2.2.2.2.1;have:=HZ.out.2.2.2.2.2.1;show _<V2.heap.size;omega) sp1).trans hHeld.1,(hgr4.block _ (by have:=HV2.out.size;have:=HV1.out.2.1;have:=HR.out.2.2.2.2.1;have:=HZ.out.2.2.2.2.2.1;show _<V2.heap.size;omega) (by simp;omega)).trans hHeld.2⟩) ?_
    clear hK6 hHeld HSx
    refine yx kr1 ?_ _
    obtain⟨h1,h2,h3,h4,hV,hl,hnp,htot,hob1,hob2⟩:=HR.out
    obtain⟨hk1,hs1,e1,hlW⟩:=HV1.out
    have k8':=HZ.out.2.2.2.2.2.1
    have hwn:=HZ.out.2.2.2.2.2.2
    have hsV2:=HV2.out.size
    obtain⟨hb28,c62⟩:=HE2.out
    have hs4:V2.heap.size≤w4.heap.size:=hgr4.size
    have c64:w4.heap[nb+6]? =some (.cells #[.int .i64 (np:Int)] 3 (0,0)):=(hgr4.block _ (show nb+6<V2.heap.size by omega) sp1).trans c62
    obtain⟨b6,f6⟩:=cell1 c64
    have hT:zk W (w4.setCell ⟨nb+6,0,none⟩ (.int .i64 ((np:Int)+1))) (fun y=>y=nb+4∨y=nb+6):=by
     refine jh ⟨hgr4.os.trans (HV2.out.os.trans ?_),hgr4.tape.trans (HV2.out.tape.trans ?_),hgr4.output.trans (HV2.out.output.trans ?_),by omega,fun y hy hn=>?_⟩ _ _ (Or.inr rfl)
     · rw[HEV.out];exact h1.os
     · rw[HEV.out];exact h1.tape
     · rw[HEV.out];exact h1.output
     · exact (((hgr4.block y (show y<V2.heap.size by omega) (by simp;omega)).trans (hb28 y om)).trans (hk1 y om)).trans (h1.block y hy hn)
    have hbad:qZ g [] 0 (pre++[(d,key,k)])=none:=by
     rw[kr g pre [] 0 _ h4]
     have:=HBD.out
     simp only[qZ,List.nil_append]
     rw[if_neg (by rw[show atB g (zO pre) d (kR (d,key,k))=false from this.symm];simp)]
    have hend:∀aa:Act,zb6 W.heap.size (fun x=>S x∨x=nb+7) (FaI g W nb) (FaX g W nb (spF 1 (zl t))) (pre++[(d,key,k)]) V1 .normal aa (w4.setCell ⟨nb+6,0,none⟩ (.int .i64 ((np:Int)+1))):=fun aa=>by
     refine⟨⟨by simp[World.setCell];omega,fun y hy hyl=>?_⟩,.inl ⟨rfl,hT,?_,?_,hbad⟩⟩
     · have hy4:y≠nb+4∧y≠nb+6:=by
        rcases hy with hy | hy | hy
        · omega
        · have:=H.out.1 y hy;omega
        · omega
       rw[BhsQ _ _ _ _ (show y≠nb+6 from hy4.2)]
       exact (hgr4.block y (show y<V2.heap.size by omega) (by simp;omega)).trans (HV2.out.block y hyl)
     · rw[set1 c64,List.length_append,←hnp];rfl
     · have hm4:qI w4 (nb+4) (np+1) (zO (pre++[(d,key,k)])):=by
        unfold qI zO
        rw[List.map_append,List.map_append,List.map_cons,List.map_nil,List.map_cons,List.map_nil,setOf_snoc]
        exact hown4
       rw[List.length_append,←hnp]
       exact hm4.at (BhsQ _ _ _ _ (show nb+4≠nb+6 by omega))
    have HEND:=hH hend
    clear hend hT hbad c64 hs4 hb28 c62 h1 h2 h3 h4 hV hl hnp htot hob1 hob2 hk1 hs1 e1 hlW k8' hwn hsV2 hown4 hgr4
    gi_wp2
    exact HEND.out _
  · gi_wp2_with (
    refine⟨trivial,?_⟩
    gi_at_call 103
    refine ((callsIn_wide.2 HAT.out).inRound _).mono ?_
    rintro e V2 ⟨rfl,hb2⟩
    have HV2:=hH hb2
    clear hb2
    obtain⟨h1,h2,h3,h4,hV,hl,hnp,htot,hob1,hob2⟩:=HR.out
    obtain⟨hk1,hs1,e1,hlW⟩:=HV1.out
    have k8':=HZ.out.2.2.2.2.2.1
    have hwn:=HZ.out.2.2.2.2.2.2
    have hsV2:=HV2.out.size
    have hb28:∀y,y<nb+8→V2.heap[y]? =V1.heap[y]?:=fun y hy=>HV2.out.block y om
    have c62:V2.heap[nb+6]? =some (.cells #[.int .i64 (np:Int)] 3 (0,0)):=((hb28 _ om).trans (hk1 _ om)).trans h2
    have e22:V2.heap[nb+2]? =some (.cells #[.int .i64 0] 3 (0,0)):=((hb28 _ om).trans (e1 _ om om om)).trans HZ.out.2.2.1
    have e32:V2.heap[nb+3]? =some (.cells #[.int .i64 0] 33 (0,0)):=((hb28 _ om).trans (e1 _ om om om)).trans HZ.out.2.2.2.1
    obtain⟨b6,_⟩:=cell1 c62
    obtain⟨_,f2⟩:=cell1 e22
    obtain⟨V3,hV3⟩:∃V3,V3=V2.setCell ⟨nb+2,0,none⟩ (.int .i64 (np:Int)):=⟨_,rfl⟩
    have e33:V3.heap[nb+3]? =some (.cells #[.int .i64 0] 33 (0,0)):=by rw[hV3,BhsQ _ _ _ _ (show nb+3≠nb+2 by omega)];exact e32
    have e23:V3.heap[nb+2]? =some (.cells #[.int .i64 (np:Int)] 3 (0,0)):=by rw[hV3];exact set1 e22
    obtain⟨b3,f3⟩:=cell1 e33
    rw[hV3] at b3 f3
    have hT:zk W (V3.setCell ⟨nb+3,0,none⟩ (.int .i64 70)) (fun y=>y=nb+2∨y=nb+3∨y=nb+4∨y=nb+6):=by
     rw[hV3]
     refine jh (jh ⟨HV2.out.os.trans ?_,HV2.out.tape.trans ?_,HV2.out.output.trans ?_,by omega,fun y hy hn=>?_⟩ _ _ (Or.inl rfl)) _ _ (Or.inr (Or.inl rfl))
     · rw[HEV.out];exact h1.os
     · rw[HEV.out];exact h1.tape
     · rw[HEV.out];exact h1.output
     · exact ((hb28 y om).trans (hk1 y om)).trans (h1.block y hy (fun e=>hn om))
    have hbad:qZ g [] 0 (spF 1 (zl t))=some np:=by
     rw[htot,kr g pre [] 0 _ h4]
     have:=HBD.out
     simp only[qZ,List.nil_append]
     rw[if_pos (by exact this.symm),←hnp,Nat.zero_add]
    have hend:∀aa:Act,zb6 W.heap.size (fun x=>S x∨x=nb+7) (FaI g W nb) (FaX g W nb (spF 1 (zl t))) (pre++[(d,key,k)]) V1 .ret aa (V3.setCell ⟨nb+3,0,none⟩ (.int .i64 70)):=fun aa=>by
     refine⟨⟨by rw[hV3];simp[World.setCell];omega,fun y hy hyl=>?_⟩,.inr (.inl ⟨rfl,rfl,hT,np,?_,set1 e33,hbad⟩)⟩
     · have hy4:y≠nb+2∧y≠nb+3:=by
        rcases hy with hy | hy | hy
        · omega
        · have:=H.out.1 y hy;omega
        · omega
       rw[BhsQ _ _ _ _ (show y≠nb+3 from hy4.2),hV3,BhsQ _ _ _ _ (show y≠nb+2 from hy4.1)]
       exact HV2.out.block y hyl
     · rw[BhsQ _ _ _ _ (show nb+2≠nb+3 by omega)];exact e23
    rw[hV3] at hend
    have HEND:=hH hend
    clear hend hT hbad hb28 c62 e22 e32 e33 e23 hV3 h1 h2 h3 h4 hV hl hnp htot hob1 hob2 hk1 hs1 e1 hlW k8' hwn hsV2 m5 g0 g1
    )
    exact HEND.out _
end Go.Proofs.YtgkmmnihaiopaaaGreat
