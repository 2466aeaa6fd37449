/-
  .
-/
import Derived.Test.YtgkmmnihaiopaaaGreatEFindWQu
import Derived.Test.YtgkmmnihaiopaaaGreatRGreatXQu
import Derived.Test.YtgkmmnihaiopaaaGreatECountNQu
import Derived.Test.YtgkmmnihaiopaaaGreatJPgQu
import Derived.Test.YtgkmmnihaiopaaaGreatJPsQu
set_option maxRecDepth 100000
set_option maxHeartbeats 40000000
namespace Go.Proofs.YtgkmmnihaiopaaaGreat
open Go.RowKit Go.Shelf
attribute [local go_sem] Oper.semAt_some
set_option linter.unusedVariables false
set_option linter.unusedSimpArgs false
def zjq (w:World) (et:TypeId) (size:Nat) (f:Sp→List Value) (l:List Sp) (e:Ending) (w' :World):Prop:=∃v,e= .returned v∧w'.ownsRow w.heap.size et size v l.length (l.flatMap f)∧Below w.heap.size w w'
structure Js (w:World) (st et ft:TypeId) (size LB OB g cap:Nat) (fv:Value) (f:Sp→List Value) (pre:List Sp) (V:World):Prop where
 cell:V.heap[LB]? =some (.cells #[.slice (some ⟨g,0,none⟩) pre.length cap] st (0,0))
 of_:V.heap[OB]? =some (.cells #[fv] ft (0,0))
 own:V.ownsRow w.heap.size et size (.slice (some ⟨g,0,none⟩) pre.length cap) pre.length (pre.flatMap f)
 below:Below w.heap.size w V
theorem Js.keep {w V V' :World} {st et ft:TypeId} {size LB OB g cap:Nat} {fv:Value} {f:Sp→List Value} {pre:List Sp} (h:Js w st et ft size LB OB g cap fv f pre V) (ho:V'.os=V.os∧V'.tape=V.tape∧V'.output=V.output∧V.heap.size≤V'.heap.size) (M:Nat) (hL:LB<M) (hO:OB<M) (hg:g<M) (hw:w.heap.size≤M) (hk:∀x,x<M→x<V.heap.size→V'.heap[x]? =V.heap[x]?):Js w st et ft size LB OB g cap fv f pre V':=
 ⟨(hk _ hL (lohQ h.cell)).trans h.cell,(hk _ hO (lohQ h.of_)).trans h.of_,zI h.own (fun g' cur hc hg'=>by cases hg';exact hk _ hg (lohQ hc)),ho.1.trans h.below.os,ho.2.1.trans h.below.tape,ho.2.2.1.trans h.below.output,Nat.le_trans h.below.size ho.2.2.2,fun x hx=>(hk x om (by have:=h.below.size;omega)).trans (h.below.block x hx)⟩
section
variable {n:Nat} {P:Program}
theorem zaQ {ops:Array Oper} {Q:Exit→Act→World→Prop} {md:Region.Mode} {S:World→Prop} {i j:Nat} {o o' :Oper} {fuel:Nat} {listed:Array Bool} {a:Act} {w:World} (hr:Region.ready md ops listed= [i,j]) (ho:ops[i]? =some o) (ho' :ops[j]? =some o')
 (h:∀K:Act→World→Prop,(∀a' w',S w'→vE n P md ops Q S fuel (listed.setIfInBounds i true) a' w'→K a' w')→if Region.wanted o (yielded ops a.tmps)=true then Oper.wpIn Fence.wide n P o a w K Q else K (a.put o.dst undef) w)
 (h' :∀K:Act→World→Prop,(∀a' w',S w'→vE n P md ops Q S fuel (listed.setIfInBounds j true) a' w'→K a' w')→if Region.wanted o' (yielded ops a.tmps)=true then Oper.wpIn Fence.wide n P o' a w K Q else K (a.put o'.dst undef) w):vE n P md ops Q S (fuel+1) listed a w:=by
 have one:∀(k:Nat) (o:Oper),ops[k]? =some o→(∀K:Act→World→Prop,(∀a' w',S w'→vE n P md ops Q S fuel (listed.setIfInBounds k true) a' w'→K a' w')→if Region.wanted o (yielded ops a.tmps)=true then Oper.wpIn Fence.wide n P o a w K Q else K (a.put o.dst undef) w)→wpOpIn Fence.wide n P ops Q k (fun a' w'=>S w'∧vE n P md ops Q S fuel (listed.setIfInBounds k true) a' w') a w:=fun k o ho h=>by
  unfold wpOpIn
  rw[ho]
  have:=h (fun a' w'=>S w'∧vE n P md ops Q S fuel (listed.setIfInBounds k true) a' w') (fun a' w' h1 h2=>⟨h1,h2⟩)
  exact sg3
 refine⟨fun h0=>(by rw[hr] at h0;cases h0),fun k hk=>?_⟩
 rw[hr] at hk
 simp only[List.mem_cons,List.not_mem_nil,or_false] at hk
 rcases hk with rfl | rfl
 · exact one _ _ ho h
 · exact one _ _ ho' h'
theorem vP (w:World) {o:Oper} {a:Act} {K:Act→World→Prop} {Q:Exit→Act→World→Prop} (s x:Operand) (t:TypeId) (hop:o.op=Op.call { callee:=Callee.builtin Builtin.append,args:= #[s,x],argTypes:= #[t,t] })
 (base:Nat) (e:TypeId) (i:TypeInfo) (size:Nat) (h1:P.underlying t=some (.slice e)) (h2:P.info? e=some i) (h4:i.size=size)
 (g k cap:Nat) (xs:List Value) (hs:a.eval s= .slice (some ⟨g,0,none⟩) k cap) (hown:w.ownsRow base e size (.slice (some ⟨g,0,none⟩) k cap) k xs) (ad:Addr) (m c:Nat) (news:List Value) (hx:a.eval x= .slice (some ad) m c) (hn:news.length=m*size)
 (hc:∀j u,news[j]? =some u→w.cell? (ad.add j)=some u) (h1c:∀u∈news,u.oneCell'=true) (b1:k+m≤cap)
 (hK:∀w',w'.ownsRow base e size (.slice (some ⟨g,0,none⟩) (k+m) cap) (k+m) (xs++news)→w.grownBy w' (some g)→K (a.put o.dst (.slice (some ⟨g,0,none⟩) (k+m) cap)) w'):Oper.wpIn Fence.wide n P o a w K Q:=by
 obtain⟨w',hrun,r1,r2⟩:=run_append_fits (P:=P) w base t o.type e i size h1 h2 h4 g k cap xs hown ad m c news hn hc h1c b1
 unfold Oper.wpIn
 refine⟨?_,?_⟩
 · simp[Oper.about,hop,resolve,Target.leads,Sem.run_pure]
 · rw[Oper.semAt_plain Fence.wide _ _ (by rw[hop];intro c hc';cases hc')]
   simp[execOp,hop,resolve,invoke,builtin,hs,hx,hrun,Result.andThen]
   exact hK w' r1 r2
end
theorem zbX {w V1 V2 w4:World} {st et ft:TypeId} {size LB OB g cap:Nat} {fv:Value} {f:Sp→List Value} {pre:List Sp} {x:Sp} {o:Obj} (hR:Js w st et ft size LB OB g cap fv f pre V1) (hb:Below V1.heap.size V1 V2) (hown:w4.ownsRow w.heap.size et size (.slice (some ⟨g,0,none⟩) (pre.length+1) cap) (pre.length+1) (pre.flatMap f++f x))
 (hgr:(V2.alloc o).grownBy w4 (some g)) (hLg:LB≠g) (hOg:OB≠g) (hLO:LB≠OB) (hwL:w.heap.size≤LB) (hwg:w.heap.size≤g):
 ∃V5,V5=w4.setCell ⟨LB,0,none⟩ (.slice (some ⟨g,0,none⟩) (pre.length+1) cap)∧Js w st et ft size LB OB g cap fv f (pre++[x]) V5∧(∀y,y<V1.heap.size→y≠g→y≠LB→V5.heap[y]? =V1.heap[y]?)∧V1.heap.size≤V5.heap.size∧w4.frozen? ⟨LB,0,none⟩=false:=by
 have hs:=hb.size
 have hs4:=hgr.size
 rw[WsaQ] at hs4
 have h4:∀y,y<V1.heap.size→y≠g→w4.heap[y]? =V1.heap[y]?:=fun y hy hg=>by
  rw[hgr.block y (by rw[WsaQ];omega) (by simpa using hg),BhaQ V2 _ _ om,hb.block y hy]
 have h5:∀y,y≠LB→(w4.setCell ⟨LB,0,none⟩ (.slice (some ⟨g,0,none⟩) (pre.length+1) cap)).heap[y]? =w4.heap[y]?:=fun y hy=>BhsQ _ _ _ _ hy
 have hL4:=(h4 LB (lohQ hR.cell) hLg).trans hR.cell
 have hO4:=(h4 OB (lohQ hR.of_) hOg).trans hR.of_
 have hbl:=hR.below
 refine⟨_,rfl,⟨?_,(h5 _ hLO.symm).trans hO4,?_,?_⟩,fun y hy h1 h2=>(h5 y h2).trans (h4 y hy h1),by simp[World.setCell];omega,forQ _ _ 0 _ _ hL4⟩
 · rw[hssQ _ LB 0 _ _ _ hL4];simp
 · have:=zI hown (w':=w4.setCell ⟨LB,0,none⟩ (.slice (some ⟨g,0,none⟩) (pre.length+1) cap)) (fun g' cur hc hg'=>by cases hg';exact h5 _ hLg.symm)
   simpa using this
 · exact⟨hgr.os.trans (hb.os.trans hbl.os),hgr.tape.trans (hb.tape.trans hbl.tape),hgr.output.trans (hb.output.trans hbl.output),by have:=hbl.size;simp[World.setCell];omega,fun y hy=>by
    have:=hbl.size
    rw[h5 y om,h4 y om om];exact hbl.block y hy⟩
def idC (x:Sp):List Value:=[.int .i64 x.2.1.1]
theorem Tryz.zh8:(Tryz.prog.info? 3).map (fun i=>(i.zero,i.size,i.bytes))=some (some (.int .i64 0),1,8):=by kernel_rfl
theorem zfy (W:World) (q:Nat) (h:q≤400000):∃zs:Array Value,zs.size=q*1∧(Instr.makeSlice 53 (.int .i64 0) (.int .i64 (q:Int))).run Tryz.prog W= .ok (.slice (some ⟨W.heap.size,0,none⟩) 0 q) (W.alloc (.cells zs 3)):=by
 obtain⟨i0,hi,hz0,hz1,hz2⟩:=info_parts Tryz.zh8
 have hr:=run_makeSlice (P:=Tryz.prog) W 53 3 i0 (.int .i64 0) Tryz.underlying53 hi hz0 .i64 .i64 0 (q:Int) om om (by rw[hz1];omega) (by rw[hz2];omega) om
 rw[hz1] at hr
 exact⟨_,size_madeCells _ _,by rw[hr];simp;rfl⟩
theorem zg8 (w:World) (b off:Nat) (id:Int) (h:w.cell? ⟨b,off,none⟩=some (.int .i64 id)):Calls Tryz.prog 91 #[.pointer (some ⟨b,off,none⟩)] w fun e w'=>e= .returned (.int .i64 id)∧Below w.heap.size w w':=by
 go_enter Tryz.func91,Tryz.ntmps91
 go_wp2
 go_ret
 exact⟨rfl,BrQ _ _⟩
theorem zhu (w:World) (S:Nat→Prop) (nv:Value) (t:Tr) (hS:∀x,S x→x<w.heap.size) (ht:zJ w S nv t) (hsz:zg t.kids+1≤400000):Calls Tryz.prog 90 #[nv,.func (.func 91) #[] #[]] w (zjq w 3 1 idC (spF 1 (zl t))):=by
 obtain⟨ka,cap,rfl,hcap,hk⟩:=ht
 obtain⟨n,hn⟩:∃n,n=foLen t.kids:=⟨_,rfl⟩
 rw[←hn]
 obtain⟨q,hq⟩:∃q:Nat,q=zg t.kids+1:=⟨_,rfl⟩
 have hq5:q≤400000:=by omega
 have hbx:∀o:Obj,∃W1,W1=(w.alloc (.cells #[.int .i64 t.id,.int .i64 t.kind,.string t.text,.slice ka n cap] 27)).alloc o:=fun _=>⟨_,rfl⟩
 obtain⟨W1,hW1⟩:=hbx (.cells #[.func (.func 91) #[] #[]] 131)
 have hb1:Below w.heap.size w W1:=by rw[hW1];exact ((BrQ _ w).alloc (Nat.le_refl _) _).alloc sp1 _
 have hs1:W1.heap.size=w.heap.size+2:=by rw[hW1];simp
 have h10:W1.heap[w.heap.size]? =some (.cells #[.int .i64 t.id,.int .i64 t.kind,.string t.text,.slice ka n cap] 27 (0,0)):=by rw[hW1,BhaQ _ _ _ sp1];exact hanQ w _
 have h11:W1.heap[w.heap.size+1]? =some (.cells #[.func (.func 91) #[] #[]] 131 (0,0)):=by rw[hW1];have:=hanQ (w.alloc (.cells #[.int .i64 t.id,.int .i64 t.kind,.string t.text,.slice ka n cap] 27)) (.cells #[.func (.func 91) #[] #[]] 131);rw[WsaQ] at this;exact this
 have hcount:=zfe W1 S (.agg #[.int .i64 t.id,.int .i64 t.kind,.string t.text,.slice ka n cap]) t (fun x hx=>by have:=hS x hx;omega) ⟨ka,cap,by rw[hn],hcap,hk.kept fun x hx=>⟨hx,hb1.block x (hS x hx)⟩⟩ om
 rw[zfv] at hcount
 rw[show ((zg t.kids:Int)+1)=(q:Int) by omega] at hcount
 have HCT:=hH hcount
 have HW1:=hH (aN hb1 (aN hs1 (aN h10 (aN h11 hW1))))
 have H:=hH (aN hS (aN hcap (aN hk (aN hsz (aN hn hq)))))
 clear hS hcap hk hsz hn hq hcount hb1 hs1 h10 h11 hW1 hbx
 refine (callsIn_wide (n:=8)).1 ?_
 refine callsIn_of_wp_marks Tryz.func90 rfl trivial ?_ rfl
 simp only[Tryz.ntmps90,List.size_toArray,List.length_cons,List.length_nil,Nat.reduceAdd,Nat.reduceSub,Array.replicate_succ,Array.replicate_zero,List.push_toArray,List.append_toArray,List.nil_append,List.cons_append]
 gi_wp2_with fail
 change Fence.wide.fn _∧CallsIn Fence.wide _ _ _ _ _ _
 rw[←HW1.out.2.2.2.2]
 refine⟨trivial,?_⟩
 gi_at_call 106
 refine (callsIn_wide.2 HCT.out).mono ?_
 rintro e W2 ⟨rfl,hb2⟩
 have hmk:=zfy W2 q hq5
 have HB2:=hH hb2
 clear hb2
 have hs2:=HB2.out.size
 have e20:=(HB2.out.block _ (lohQ HW1.out.2.2.1)).trans HW1.out.2.2.1
 have b0:W2.cell? ⟨w.heap.size,0,none⟩=some (.int .i64 t.id):=by rw[corQ _ _ 0 _ _ _ e20];rfl
 have b1:W2.cell? ⟨w.heap.size,1,none⟩=some (.int .i64 t.kind):=by rw[corQ _ _ 1 _ _ _ e20];rfl
 have b2:W2.cell? ⟨w.heap.size,2,none⟩=some (.string t.text):=by rw[corQ _ _ 2 _ _ _ e20];rfl
 have b3:W2.cell? ⟨w.heap.size,3,none⟩=some (.slice ka n cap):=by rw[corQ _ _ 3 _ _ _ e20];rfl
 have hwl:=lohQ e20
 obtain⟨zs,hzs,hmk⟩:=hmk
 have HZ:=hH hzs
 clear e20 hs2 hzs
 gi_wp2_with (refine⟨trivial,?_⟩;gi_at_call 46;refine (callsIn_wide.2 (Je _ _ _ _)).mono ?_;rintro e w' ⟨rfl,rfl⟩)
 change Code.wpIn _ _ _ _ _ _ (zt W2 [.cells zs 3,.cells #[.slice (some ⟨W2.heap.size,0,none⟩) 0 q] 53,.cells #[.int .i64 t.id,.int .i64 t.kind,.string t.text,.slice ka n cap] 27,.cells #[.slice (some ⟨W2.heap.size+1+1,0,none⟩) 1 1] 25])
 have hal:=zi [.cells zs 3,.cells #[.slice (some ⟨W2.heap.size,0,none⟩) 0 q] 53,.cells #[.int .i64 t.id,.int .i64 t.kind,.string t.text,.slice ka n cap] 27,.cells #[.slice (some ⟨W2.heap.size+1+1,0,none⟩) 1 1] 25] W2
 have hab:=zm [.cells zs 3,.cells #[.slice (some ⟨W2.heap.size,0,none⟩) 0 q] 53,.cells #[.int .i64 t.id,.int .i64 t.kind,.string t.text,.slice ka n cap] 27,.cells #[.slice (some ⟨W2.heap.size+1+1,0,none⟩) 1 1] 25] W2
 have has:=zC [.cells zs 3,.cells #[.slice (some ⟨W2.heap.size,0,none⟩) 0 q] 53,.cells #[.int .i64 t.id,.int .i64 t.kind,.string t.text,.slice ka n cap] 27,.cells #[.slice (some ⟨W2.heap.size+1+1,0,none⟩) 1 1] 25] W2
 have HA:=hH (aN hab (aN (hal 0 _ rfl) (aN (hal 1 _ rfl) (aN (hal 2 _ rfl) (aN (hal 3 _ rfl) has)))))
 clear hal hab has hmk
 generalize hW:zt W2 _=W at HA ⊢
 clear hW
 obtain⟨k0,k1,k2,k3,k4,k5⟩:=HA.out
 have k5' :W.heap.size=W2.heap.size+4:=k5
 obtain⟨g1,g2,g3,g4,_⟩:=HW1.out
 have hgw:w.heap.size+2≤W2.heap.size:=by have:=HB2.out.size;omega
 have hSk:∀x,S x→W.heap[x]? =w.heap[x]?:=fun x hx=>by
  have:=H.out.1 x hx
  rw[k0.block x om,HB2.out.block x om,g1.block x this]
 have hroot:=kM hSk H.out.2.1 H.out.2.2.1 (by rw[←H.out.2.2.2.2.1];exact k3)
 have hbW:Below w.heap.size w W:=(g1.trans (HB2.out.mono om)).trans (k0.mono om)
 have hOB:W.heap[w.heap.size+1]? =some (.cells #[.func (.func 91) #[] #[]] 131 (0,0)):=by rw[k0.block _ om,HB2.out.block _ om];exact g4
 have h0:Js w 53 3 131 1 (W2.heap.size+1) (w.heap.size+1) W2.heap.size q (.func (.func 91) #[] #[]) idC [] W:=
  ⟨k2,hOB,⟨by simp,.inr ⟨W2.heap.size,q,zs,rfl,by omega,k1,Nat.zero_le _,by unfold maxLen;omega,HZ.out,by simp⟩⟩,hbW⟩
 refine YI om rfl ⟨1,some ⟨W2.heap.size+1+1,0,none⟩,1,zl t⟩ rfl (by simp[zl]) (by simp[zl,foLen]) (by rw[zL];have:=H.out.2.2.2.1;omega) (by rw[corQ _ _ 0 _ _ _ k4];rfl) rfl (fun x=>S x∨x=W2.heap.size+2) (fun x hx=>by rcases hx with hx | hx;have:=H.out.1 x hx;omega;omega) hroot
  (fun pre _ V=>Js w 53 3 131 1 (W2.heap.size+1) (w.heap.size+1) W2.heap.size q (.func (.func 91) #[] #[]) idC pre V) (fun _ _ _=>False)
  (fun h hT ht _=>h.keep ⟨ht.os,ht.tape,ht.output,ht.size⟩ W.heap.size om om om om (fun x hx hv=>ht.block x hv (fun hh=>by rcases hh with hh | hh;have:=hT x hh;omega;omega))) (fun h _ _ _=>h.elim) h0 ?round ?done ?stop
 case stop=>exact fun _ _ _ _ _ h _=>h.elim
 case done=>
  rintro D T V hD hI hK
  have c0:V.cell? ⟨W2.heap.size+1,0,none⟩=some (.slice (some ⟨W2.heap.size,0,none⟩) (spF 1 (zl t)).length q):=by rw[corQ _ _ 0 _ _ _ hI.cell];rfl
  have hI2:=hI.keep (V':=V.putObj D (.deferred none)) ⟨rfl,rfl,rfl,by simp[World.putObj]⟩ W.heap.size om om om om (fun x hx _=>WphQ om)
  have HE:=hH hI2
  generalize hln:(spF 1 (zl t)).length=ln at c0
  have HLN:=hH hln
  clear hln hI hI2 HA HB2 HW1 H HCT HZ k0 k1 k2 k3 k4 k5 hSk hroot hbW hOB h0 g1 g2 g3 g4 b0 b1 b2 b3
  gi_wp2
  refine⟨by simp,.inl ⟨_,_,rfl,run_takeDeferred hK,?_⟩⟩
  exact⟨_,results_tmp rfl _ _ _,_,rfl,by have:=HE.out.own;rw[HLN.out] at this ⊢;exact this,HE.out.below⟩
 case round=>
  rintro l hl T pre rest d key k V b off kcc ka2 hT hV htot hb d0 d1 d2 d3 d4 dk hR K hK
  have hpl:pre.length+1≤q:=by
   have:=congrArg List.length htot
   rw[yE,zL,List.length_append,List.length_cons] at this;have:=H.out.2.2.2.2.2;omega
  obtain⟨n2,hn2⟩:∃n2,n2=foLen k:=⟨_,rfl⟩
  rw[←hn2] at d3 d4
  have hbl:b<W.heap.size:=by rcases hb with hb | hb;have:=H.out.1 b hb;omega;omega
  obtain⟨np,hnp⟩:∃np,np=pre.length:=⟨_,rfl⟩
  have hnq:np+1≤q:=by omega
  have HR:=hH (aN hR (aN hT (aN hV (aN hpl (aN hl (aN hnp hn2))))))
  have HK:=hH hK
  have HC:=hH (aN d0 (aN d1 (aN d2 d3)))
  clear hR hT hV htot hb dk hl d4 hK d0 d1 d2 d3 hn2 hpl hnp k0 k1 k2 k3 k4 k5 hroot h0 hOB b0 b1 b2 b3 g1 g2 g3 g4
  gi_wp2
  refine HK.out _ fun V1 hV1=>?_
  clear HK
  obtain⟨o',ev,o,ho,hoc⟩:=hV1
  have hV1s:∀x,x<W.heap.size→V1.heap[x]? =V.heap[x]?:=fun x hx=>by rw[ev];exact WphQ (by have:=HR.out.2.2.2.2.1;omega)
  have hsz1:V1.heap.size=V.heap.size:=by rw[ev];simp[World.putObj]
  have hR1:Js w 53 3 131 1 (W2.heap.size+1) (w.heap.size+1) W2.heap.size q (.func (.func 91) #[] #[]) idC pre V1.drew:=HR.out.1.keep ⟨by rw[ev];rfl,by rw[ev];rfl,by rw[ev];rfl,by show V.heap.size≤V1.heap.size;omega⟩ W.heap.size om om om om (fun x hx _=>hV1s x hx)
  have e0:V1.drew.cell? ⟨b,off,none⟩=some (.int .i64 key.1):=(World.cell?_of_block (w:=V) (w':=V1.drew) (a:=⟨b,off,none⟩) (hV1s b hbl)).trans HC.out.1
  have e1:V1.drew.cell? ⟨b,off+1,none⟩=some (.int .i64 key.2.1):=(World.cell?_of_block (w:=V) (w':=V1.drew) (a:=⟨b,off+1,none⟩) (hV1s b hbl)).trans HC.out.2.1
  have e2:V1.drew.cell? ⟨b,off+2,none⟩=some (.string key.2.2):=(World.cell?_of_block (w:=V) (w':=V1.drew) (a:=⟨b,off+2,none⟩) (hV1s b hbl)).trans HC.out.2.2.1
  have e3:V1.drew.cell? ⟨b,off+3,none⟩=some (.slice ka2 n2 kcc):=(World.cell?_of_block (w:=V) (w':=V1.drew) (a:=⟨b,off+3,none⟩) (hV1s b hbl)).trans HC.out.2.2.2
  have HOF:=hH (zg8 _ b off _ e0:Calls Tryz.prog 91 #[.pointer (some ⟨b,off,none⟩)] V1.drew _)
  have l0:V1.cell? ⟨W2.heap.size+1,0,none⟩=some (.slice (some ⟨W2.heap.size,0,none⟩) np q):=by rw[HR.out.2.2.2.2.2.1];have:=corQ V1.drew _ 0 _ _ _ hR1.cell;exact this
  have f0:V1.cell? ⟨w.heap.size+1,0,none⟩=some (.func (.func 91) #[] #[]):=by have:=corQ V1.drew _ 0 _ _ _ hR1.of_;exact this
  have HR1:=hH hR1
  have HV1:=hH (aN hV1s hsz1)
  have hLl:=lohQ hR1.cell
  have hOl:=lohQ hR1.of_
  have hgl:W2.heap.size<V1.heap.size:=by have:W2.heap.size+1<V1.heap.size:=hLl;omega
  clear ev ho hoc hV1s hsz1 hR1 e0 e1 e2 e3
  obtain⟨SX,hSX⟩:∃SX:World→Prop,SX=fun X=>X.cell? ⟨w.heap.size+1,0,none⟩=some (.func (.func 91) #[] #[]):=⟨_,rfl⟩
  have HSx:∀X,SX X→X.cell? ⟨w.heap.size+1,0,none⟩=some (.func (.func 91) #[] #[]):=fun X h=>by rw[hSX] at h;exact h
  have hS0:SX V1.drew:=by rw[hSX];exact f0
  have HSM:=hH (show ∀X,X.cell? ⟨w.heap.size+1,0,none⟩=some (.func (.func 91) #[] #[])→SX X from fun X h=>by rw[hSX];exact h)
  obtain⟨i0,hi0,hi1⟩:∃i0,Tryz.prog.info? 3=some i0∧i0.size=1:=by
   obtain⟨i0,h,h'⟩:=Option.map_eq_some_iff.1 (show (Tryz.prog.info? 3).map (fun i=>i.size)=some 1 by kernel_rfl)
   exact⟨i0,h,h'⟩
  have HI:=hH (aN hi0 hi1)
  clear hSX f0 hi0 hi1
  gi_wp2
  refine jq (S:=SX) kr1 (Ji kr1) ?_
  have hHeld:=hS0
  clear hS0
  refine zL1 (i:=1) (.func (.func 91) #[] #[]) rfl ?_ ?_
  · clear hHeld;intro X hSw;obtain s0:=HSx X hSw;clear hSw;go_simp
  simp only[Act.put,pg]
  refine zG1 (i:=2) (.pointer (some ⟨b,off,none⟩)) rfl ?_
  simp only[Act.put,pg]
  have HH0:=hH hHeld
  refine zaQ (i:=0) (j:=3) (o:=_) (o':=_) kr1 rfl rfl ?_ ?_
  · intro K0 hK0
    rw[if_pos (by rfl)]
    simp only[pg3]
    have HK0:=hH hK0
    clear hK0
    have HH0:=hH hHeld
    clear hHeld
    gi_wp2
    refine HK0.out _ _ HH0.out ?_
    have hHeld:=HH0.out
    clear HK0 HH0
    refine zM (i:=3) (o:=_) kr1 rfl ?_
    intro K3 hK3
    rw[if_pos (by rfl)]
    simp only[pg3]
    have HK3:=hH hK3
    clear hK3
    clear hHeld
    gi_wp2_with (refine⟨trivial,?_⟩;gi_at_call 91;refine (callsIn_wide.2 HOF.out).mono ?_;rintro e V2 ⟨rfl,hb2⟩;have HV2:=hH hb2;clear hb2)
    have hHeld:=HSM.out V2 ((HV2.out.cell (p:=⟨w.heap.size+1,0,none⟩) hOl).trans (HSx _ HH0.out))
    have l0:V2.cell? ⟨W2.heap.size+1,0,none⟩=some (.slice (some ⟨W2.heap.size,0,none⟩) np q):=(HV2.out.cell (p:=⟨W2.heap.size+1,0,none⟩) hLl).trans l0
    have hsV2:V1.heap.size≤V2.heap.size:=HV2.out.size
    refine HK3.out _ _ hHeld ?_
    clear HK3
    refine zM (i:=4) (o:=_) kr1 rfl ?_
    intro K4 hK4
    rw[if_pos (by rfl)]
    simp only[pg3]
    have HK4:=hH hK4
    clear hK4
    have hO2:=HSx _ hHeld
    clear hHeld
    gi_wp2
    have hHeld:=HSM.out (V2.alloc (.cells #[.int .i64 key.1] 3)) ((World.cell?_of_block (a:=⟨w.heap.size+1,0,none⟩) (BhaQ V2 _ _ (nL hOl hsV2))).trans hO2)
    have l0:(V2.alloc (.cells #[.int .i64 key.1] 3)).cell? ⟨W2.heap.size+1,0,none⟩=some (.slice (some ⟨W2.heap.size,0,none⟩) np q):=(World.cell?_of_block (a:=⟨W2.heap.size+1,0,none⟩) (BhaQ V2 _ _ (nL hLl hsV2))).trans l0
    refine HK4.out _ _ hHeld ?_
    clear HK4 hO2
    exact sa3
  · intro K3 hK3
    rw[if_pos (by rfl)]
    simp only[pg3]
    have HK3:=hH hK3
    clear hK3
    clear hHeld
    gi_wp2_with (refine⟨trivial,?_⟩;gi_at_call 91;refine (callsIn_wide.2 HOF.out).mono ?_;rintro e V2 ⟨rfl,hb2⟩;have HV2:=hH hb2;clear hb2)
    have hHeld:=HSM.out V2 ((HV2.out.cell (p:=⟨w.heap.size+1,0,none⟩) hOl).trans (HSx _ HH0.out))
    have l0:V2.cell? ⟨W2.heap.size+1,0,none⟩=some (.slice (some ⟨W2.heap.size,0,none⟩) np q):=(HV2.out.cell (p:=⟨W2.heap.size+1,0,none⟩) hLl).trans l0
    have hsV2:V1.heap.size≤V2.heap.size:=HV2.out.size
    refine HK3.out _ _ hHeld ?_
    clear HK3
    refine zaQ (i:=0) (j:=4) (o:=_) (o':=_) kr1 rfl rfl ?_ ?_
    · intro K0 hK0
      rw[if_pos (by rfl)]
      simp only[pg3]
      have HK0:=hH hK0
      clear hK0
      have HH0:=hH hHeld
      clear hHeld
      gi_wp2
      refine HK0.out _ _ HH0.out ?_
      have hHeld:=HH0.out
      clear HK0 HH0
      refine zM (i:=4) (o:=_) kr1 rfl ?_
      intro K4 hK4
      rw[if_pos (by rfl)]
      simp only[pg3]
      have HK4:=hH hK4
      clear hK4
      have hO2:=HSx _ hHeld
      clear hHeld
      gi_wp2
      have hHeld:=HSM.out (V2.alloc (.cells #[.int .i64 key.1] 3)) ((World.cell?_of_block (a:=⟨w.heap.size+1,0,none⟩) (BhaQ V2 _ _ (nL hOl hsV2))).trans hO2)
      have l0:(V2.alloc (.cells #[.int .i64 key.1] 3)).cell? ⟨W2.heap.size+1,0,none⟩=some (.slice (some ⟨W2.heap.size,0,none⟩) np q):=(World.cell?_of_block (a:=⟨W2.heap.size+1,0,none⟩) (BhaQ V2 _ _ (nL hLl hsV2))).trans l0
      refine HK4.out _ _ hHeld ?_
      clear HK4 hO2
      exact sa3
    · intro K4 hK4
      rw[if_pos (by rfl)]
      simp only[pg3]
      have HK4:=hH hK4
      clear hK4
      have hO2:=HSx _ hHeld
      clear hHeld
      gi_wp2
      have hHeld:=HSM.out (V2.alloc (.cells #[.int .i64 key.1] 3)) ((World.cell?_of_block (a:=⟨w.heap.size+1,0,none⟩) (BhaQ V2 _ _ (nL hOl hsV2))).trans hO2)
      have l0:(V2.alloc (.cells #[.int .i64 key.1] 3)).cell? ⟨W2.heap.size+1,0,none⟩=some (.slice (some ⟨W2.heap.size,0,none⟩) np q):=(World.cell?_of_block (a:=⟨W2.heap.size+1,0,none⟩) (BhaQ V2 _ _ (nL hLl hsV2))).trans l0
      refine HK4.out _ _ hHeld ?_
      clear HK4 hO2
      refine zM (i:=0) (o:=_) kr1 rfl ?_
      intro K0 hK0
      rw[if_pos (by rfl)]
      simp only[pg3]
      have HK0:=hH hK0
      clear hK0
      have HH0:=hH hHeld
      clear hHeld
      gi_wp2
      refine HK0.out _ _ HH0.out ?_
      have hHeld:=HH0.out
      clear HK0 HH0
      exact sa3
end Go.Proofs.YtgkmmnihaiopaaaGreat
