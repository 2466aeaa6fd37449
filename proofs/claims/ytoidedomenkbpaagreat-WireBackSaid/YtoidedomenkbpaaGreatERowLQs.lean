/-
  .
-/
import Derived.Test.YtoidedomenkbpaaGreatICopyPQs
set_option maxRecDepth 100000
set_option maxHeartbeats 40000000
namespace Go.Proofs.YtoidedomenkbpaaGreat
open Go.RowKit Go.Shelf
attribute [local go_sem] Oper.semAt_some
set_option linter.unusedVariables false
set_option linter.unusedSimpArgs false
def qY (x:Sp):List Value:=[.int .i64 x.2.1.1,.int .i64 x.2.1.2.1,.int .i64 (foLen x.2.2:Int),.string x.2.1.2.2]
theorem Tryz.zkU:(Tryz.prog.info? 182).map (fun i=>(i.size,i.bytes,i.zero.map (fun z=>z.cells.size)))=some (4,40,some 4):=by kernel_rfl
theorem zeq (W:World)(q:Nat)(h:q≤400000):∃zs:Array Value,zs.size=q*4∧(Instr.makeSlice 180 (.int .i64 0) (.int .i64 (q:Int))).run Tryz.prog W= .ok (.slice (some ⟨W.heap.size,0,none⟩) 0 q) (W.alloc (.cells zs 182)):=by
 obtain⟨i0,z0,hi,hz0,hz1,hz2,hz3⟩:=jk Tryz.zkU
 have hr:=run_makeSlice (P:=Tryz.prog) W 180 182 i0 z0 Tryz.underlying180 hi hz0 .i64 .i64 0 (q:Int) om1 om1 (by rw[hz1];omega) (by rw[hz2];omega) om1
 rw[hz1] at hr
 exact⟨_,size_madeCells _ _,by rw[hr];simp;rfl⟩
theorem zhe {V:World}{R:Nat}{u0 u1 u2 u3:Value}(h:V.heap[R]? =some (.cells #[.int .i64 0,.int .i64 0,.int .i64 0,.string ⟨#[]⟩] 182 (0,0))):
 ∃V4,V4=(((V.setCell ⟨R,0,none⟩ u0).setCell ⟨R,1,none⟩ u1).setCell ⟨R,2,none⟩ u2).setCell ⟨R,3,none⟩ u3∧V4.heap[R]? =some (.cells #[u0,u1,u2,u3] 182 (0,0))∧(∀w:World,R=w.heap.size→Below w.heap.size w V→Below w.heap.size w V4)∧V.cell? ⟨R,0,none⟩=some (.int .i64 0)∧V.cell? ⟨R,1,none⟩=some (.int .i64 0)∧V.cell? ⟨R,2,none⟩=some (.int .i64 0)∧V.cell? ⟨R,3,none⟩=some (.string ⟨#[]⟩)∧∀j,V.frozen? ⟨R,j,none⟩=false:=by
 refine⟨_,rfl,?_,fun w e hb=>(((hb.setCell ud8 _).setCell ud8 _).setCell ud8 _).setCell ud8 _,by rw[corQ _ _ 0 _ _ _ h];rfl,by rw[corQ _ _ 1 _ _ _ h];rfl,by rw[corQ _ _ 2 _ _ _ h];rfl,by rw[corQ _ _ 3 _ _ _ h];rfl,fun j=>forQ _ _ j _ _ h⟩
 have g1:=hssQ V R 0 _ _ u0 h
 have g2:=hssQ _ R 1 _ _ u1 g1
 have g3:=hssQ _ R 2 _ _ u2 g2
 rw[hssQ _ R 3 _ _ u3 g3];simp
theorem zfG (w:World)(b off n c:Nat)(id kd:Int)(tx:ByteArray)(ka:Option Addr)(h0:w.cell? ⟨b,off,none⟩=some (.int .i64 id))(h1:w.cell? ⟨b,off+1,none⟩=some (.int .i64 kd))(h2:w.cell? ⟨b,off+2,none⟩=some (.string tx))(h3:w.cell? ⟨b,off+3,none⟩=some (.slice ka n c)):
 Calls Tryz.prog 136 #[.pointer (some ⟨b,off,none⟩)] w fun e w'=>e= .returned (.agg #[.int .i64 id,.int .i64 kd,.int .i64 (n:Int),.string tx])∧Below w.heap.size w w':=by
 have hl:b<w.heap.size:=World.block_lt_of_cell? _ _ h0
 obtain⟨W0,hW0⟩:∃W0,W0=w.alloc (.cells #[.int .i64 0,.int .i64 0,.int .i64 0,.string ⟨#[]⟩] 182):=⟨_,rfl⟩
 obtain⟨W,hW⟩:∃W,W=W0.drew:=⟨_,rfl⟩
 have hz:W.heap[w.heap.size]? =some (.cells #[.int .i64 0,.int .i64 0,.int .i64 0,.string ⟨#[]⟩] 182 (0,0)):=by rw[hW,hW0];exact hanQ w _
 have hb:W.heap[b]? =w.heap[b]?:=by rw[hW,hW0];exact BhaQ w _ b hl
 have hB:Below w.heap.size w W:=by rw[hW,hW0];exact⟨rfl,rfl,rfl,by show w.heap.size≤(w.alloc _).heap.size;rw[WsaQ];omega,fun y hy=>BhaQ w _ y hy⟩
 obtain⟨R,hR⟩:∃R,R=w.heap.size:=⟨_,rfl⟩
 rw[←hR] at hz
 have q0:W.cell? ⟨b,off,none⟩=some (.int .i64 id):=(World.cell?_of_block (a:=⟨b,off,none⟩) hb).trans h0
 have q1:W.cell? ⟨b,off+1,none⟩=some (.int .i64 kd):=(World.cell?_of_block (a:=⟨b,off+1,none⟩) hb).trans h1
 have q2:W.cell? ⟨b,off+2,none⟩=some (.string tx):=(World.cell?_of_block (a:=⟨b,off+2,none⟩) hb).trans h2
 have q3:W.cell? ⟨b,off+3,none⟩=some (.slice ka n c):=(World.cell?_of_block (a:=⟨b,off+3,none⟩) hb).trans h3
 obtain⟨V,eV,g1,g2,c0,c1,c2,c3,fz⟩:=zhe (u0:= .int .i64 id) (u1:= .int .i64 kd) (u2:= .int .i64 (n:Int)) (u3:= .string tx) hz
 have HE:=hH (aN eV (aN g1 (aN hB (aN hR g2))))
 have HH:=hH (aN hW0 hW)
 clear hl hb hB eV g1 g2 h0 h1 h2 h3 hz hW hW0
 go_enter Tryz.func136,Tryz.ntmps136
 go_wp2_with fail
 rw[←HH.out.1,←HE.out.2.2.2.1]
 clear hR
 refine wp_region_still_tail 18 kr1 kr1 ?_
 simp only[List.take_succ_cons,List.take_zero,List.drop_succ_cons,List.drop_zero]
 have hdr:({ heap:=W0.heap,tape:=W0.tape,drawn:=W0.drawn+1,os:=W0.os,output:=W0.output }:World)=W:=HH.out.2.symm
 rw[hdr]
 clear hdr
 repeat still_step
 try refine wpStill_nil ?_
 go_wp2_with fail
 rw[←HE.out.1]
 exact brQ (v:= .agg #[.int .i64 id,.int .i64 kd,.int .i64 (n:Int),.string tx]) (zaX rfl _ _ R 182 _ _ _ rfl HE.out.2.1 Tryz.underlying182 rfl kr1) rfl ⟨rfl,HE.out.2.2.2.2 w HE.out.2.2.2.1 HE.out.2.2.1⟩
theorem zdz (w:World)(S:Nat→Prop)(nv:Value)(t:Tr)(hS:∀x,S x→x<w.heap.size)(ht:kT w S nv t)(hsz:zh t.kids+1≤400000):Calls Tryz.prog 135 #[nv,.func (.func 136) #[] #[]] w (zgK w 182 4 qY (spF 1 (qJ t))):=by
 obtain⟨ka,cap,rfl,hcap,hk⟩:=ht
 obtain⟨n,hn⟩:∃n,n=foLen t.kids:=⟨_,rfl⟩
 rw[←hn]
 obtain⟨q,hq⟩:∃q:Nat,q=zh t.kids+1:=⟨_,rfl⟩
 have hq5:q≤400000:=by omega
 have hbx:∀o:Obj,∃W1,W1=(w.alloc (.cells #[.int .i64 t.id,.int .i64 t.kind,.string t.text,.slice ka n cap] 35)).alloc o:=fun _=>⟨_,rfl⟩
 obtain⟨W1,hW1⟩:=hbx (.cells #[.func (.func 136) #[] #[]] 184)
 have hb1:Below w.heap.size w W1:=by rw[hW1];exact ((BrQ _ w).alloc (NlrQ _) _).alloc sp _
 have hs1:W1.heap.size=w.heap.size+2:=by rw[hW1];simp
 have h10:W1.heap[w.heap.size]? =some (.cells #[.int .i64 t.id,.int .i64 t.kind,.string t.text,.slice ka n cap] 35 (0,0)):=by rw[hW1,BhaQ _ _ _ sp];exact hanQ w _
 have h11:W1.heap[w.heap.size+1]? =some (.cells #[.func (.func 136) #[] #[]] 184 (0,0)):=by rw[hW1];have:=hanQ (w.alloc (.cells #[.int .i64 t.id,.int .i64 t.kind,.string t.text,.slice ka n cap] 35)) (.cells #[.func (.func 136) #[] #[]] 184);rw[WsaQ] at this;exact this
 have hcount:=zfM W1 S (.agg #[.int .i64 t.id,.int .i64 t.kind,.string t.text,.slice ka n cap]) t (fun x hx=>by have:=hS x hx;omega) ⟨ka,cap,by rw[hn],hcap,hk.kept fun x hx=>⟨hx,hb1.block x (hS x hx)⟩⟩ om1
 rw[zfZ] at hcount
 rw[show ((zh t.kids:Int)+1)=(q:Int) by omega] at hcount
 have HCT:=hH hcount
 have HW1:=hH (aN hb1 (aN hs1 (aN h10 (aN h11 hW1))))
 have H:=hH (aN hS (aN hcap (aN hk (aN hsz (aN hn hq)))))
 clear hS hcap hk hsz hn hq hcount hb1 hs1 h10 h11 hW1 hbx
 refine (callsIn_wide (n:=8)).1 ?_
 refine callsIn_of_wp_marks Tryz.func135 rfl trivial ?_ rfl
 simp only[Tryz.ntmps135,List.size_toArray,LlcQ,List.length_nil,Nat.reduceAdd,Nat.reduceSub,Array.replicate_succ,Array.replicate_zero,List.push_toArray,List.append_toArray,List.nil_append,List.cons_append]
 gi_wp2_with fail
 change Fence.wide.fn _∧CallsIn Fence.wide _ _ _ _ _ _
 rw[←HW1.out.2.2.2.2]
 refine⟨trivial,?_⟩
 gi_at_call 164
 refine (callsIn_wide.2 HCT.out).mono ?_
 rintro e W2 ⟨rfl,hb2⟩
 have hmk:=zeq W2 q hq5
 have HB2:=hH hb2
 clear hb2
 have hs2:=HB2.out.size
 have e20:=(HB2.out.block _ (lohQ HW1.out.2.2.1)).trans HW1.out.2.2.1
 have b0:W2.cell? ⟨w.heap.size,0,none⟩=some (.int .i64 t.id):=by rw[corQ _ _ 0 _ _ _ e20];rfl
 have b1:W2.cell? ⟨w.heap.size,1,none⟩=some (.int .i64 t.kind):=by rw[corQ _ _ 1 _ _ _ e20];rfl
 have b2:W2.cell? ⟨w.heap.size,2,none⟩=some (.string t.text):=by rw[corQ _ _ 2 _ _ _ e20];rfl
 have b3:W2.cell? ⟨w.heap.size,3,none⟩=some (.slice ka n cap):=by rw[corQ _ _ 3 _ _ _ e20];rfl
 have hwl:=lohQ e20
 obtain⟨zs,hzs,hmk⟩:=hmk
 have HZ:=hH hzs
 clear e20 hs2 hzs
 gi_wp2_with (refine⟨trivial,?_⟩;gi_at_call 97;refine (callsIn_wide.2 (ze8 _ _ _ _)).mono ?_;rintro e w' ⟨rfl,rfl⟩)
 change Code.wpIn _ _ _ _ _ _ (zU W2 [.cells zs 182,.cells #[.slice (some ⟨W2.heap.size,0,none⟩) 0 q] 180,.cells #[.int .i64 t.id,.int .i64 t.kind,.string t.text,.slice ka n cap] 35,.cells #[.slice (some ⟨W2.heap.size+1+1,0,none⟩) 1 1] 33])
 have hal:=zD [.cells zs 182,.cells #[.slice (some ⟨W2.heap.size,0,none⟩) 0 q] 180,.cells #[.int .i64 t.id,.int .i64 t.kind,.string t.text,.slice ka n cap] 35,.cells #[.slice (some ⟨W2.heap.size+1+1,0,none⟩) 1 1] 33] W2
 have hab:=zR [.cells zs 182,.cells #[.slice (some ⟨W2.heap.size,0,none⟩) 0 q] 180,.cells #[.int .i64 t.id,.int .i64 t.kind,.string t.text,.slice ka n cap] 35,.cells #[.slice (some ⟨W2.heap.size+1+1,0,none⟩) 1 1] 33] W2
 have has:=qV [.cells zs 182,.cells #[.slice (some ⟨W2.heap.size,0,none⟩) 0 q] 180,.cells #[.int .i64 t.id,.int .i64 t.kind,.string t.text,.slice ka n cap] 35,.cells #[.slice (some ⟨W2.heap.size+1+1,0,none⟩) 1 1] 33] W2
 have HA:=hH (aN hab (aN (hal 0 _ rfl) (aN (hal 1 _ rfl) (aN (hal 2 _ rfl) (aN (hal 3 _ rfl) has)))))
 clear hal hab has hmk
 generalize hW:zU W2 _=W at HA ⊢
 clear hW
 obtain⟨k0,k1,k2,k3,k4,k5⟩:=HA.out
 have k5' :W.heap.size=W2.heap.size+4:=k5
 obtain⟨g1,g2,g3,g4,_⟩:=HW1.out
 have hgw:w.heap.size+2≤W2.heap.size:=by have:=HB2.out.size;omega
 have hSk:∀x,S x→W.heap[x]? =w.heap[x]?:=fun x hx=>by
  have:=H.out.1 x hx
  rw[k0.block x om1,HB2.out.block x om1,g1.block x this]
 have hroot:=zbE hSk H.out.2.1 H.out.2.2.1 (by rw[←H.out.2.2.2.2.1];exact k3)
 have hbW:Below w.heap.size w W:=(g1.trans (HB2.out.mono om1)).trans (k0.mono om1)
 have hOB:W.heap[w.heap.size+1]? =some (.cells #[.func (.func 136) #[] #[]] 184 (0,0)):=by rw[k0.block _ om1,HB2.out.block _ om1];exact g4
 have h0:JR w 180 182 184 4 (W2.heap.size+1) (w.heap.size+1) W2.heap.size q (.func (.func 136) #[] #[]) qY [] W:=
  ⟨k2,hOB,⟨by simp,.inr ⟨W2.heap.size,q,zs,rfl,by omega,k1,NzlQ _,by unfold maxLen;omega,HZ.out,by simp⟩⟩,hbW⟩
 refine zaw om1 rfl ⟨1,some ⟨W2.heap.size+1+1,0,none⟩,1,qJ t⟩ rfl (by simp[qJ]) (by simp[qJ,foLen]) (by rw[jf];have:=H.out.2.2.2.1;omega) (by rw[corQ _ _ 0 _ _ _ k4];rfl) rfl (fun x=>S x∨x=W2.heap.size+2) (fun x hx=>by rcases hx with hx | hx;have:=H.out.1 x hx;omega;omega) hroot
  (fun pre _ V=>JR w 180 182 184 4 (W2.heap.size+1) (w.heap.size+1) W2.heap.size q (.func (.func 136) #[] #[]) qY pre V) (fun _ _ _=>False)
  (fun h hT ht _=>h.keep ⟨ht.os,ht.tape,ht.output,ht.size⟩ W.heap.size om1 om1 om1 om1 (fun x hx hv=>ht.block x hv (fun hh=>by rcases hh with hh | hh;have:=hT x hh;omega;omega))) (fun h _ _ _=>h.elim) h0 ?round ?done ?stop
 case stop=>exact fun _ _ _ _ _ h _=>h.elim
 case done=>
  rintro D T V hD hI hK
  have c0:V.cell? ⟨W2.heap.size+1,0,none⟩=some (.slice (some ⟨W2.heap.size,0,none⟩) (spF 1 (qJ t)).length q):=by rw[corQ _ _ 0 _ _ _ hI.cell];rfl
  have hI2:=hI.keep (V':=V.putObj D (.deferred none)) ⟨rfl,rfl,rfl,by simp[World.putObj]⟩ W.heap.size om1 om1 om1 om1 (fun x hx _=>WphQ om1)
  have HE:=hH hI2
  generalize hln:(spF 1 (qJ t)).length=ln at c0
  have HLN:=hH hln
  clear hln hI hI2 HA HB2 HW1 H HCT HZ k0 k1 k2 k3 k4 k5 hSk hroot hbW hOB h0 g1 g2 g3 g4 b0 b1 b2 b3
  gi_wp2
  refine⟨by simp,.inl ⟨_,_,rfl,run_takeDeferred hK,?_⟩⟩
  exact⟨_,results_tmp rfl _ _ _,_,rfl,by have:=HE.out.own;rw[HLN.out] at this ⊢;exact this,HE.out.below⟩
 case round=>
  rintro l hl T pre rest d key k V b off kcc ka2 hT hV htot hb d0 d1 d2 d3 d4 dk hR K hK
  have hpl:pre.length+1≤q:=by
   have:=congrArg List.length htot
   rw[jg,jf,LlaQ,LlcQ] at this;have:=H.out.2.2.2.2.2;omega
  obtain⟨n2,hn2⟩:∃n2,n2=foLen k:=⟨_,rfl⟩
  rw[←hn2] at d3 d4
  have hbl:b<W.heap.size:=by rcases hb with hb | hb;have:=H.out.1 b hb;omega;omega
  obtain⟨np,hnp⟩:∃np,np=pre.length:=⟨_,rfl⟩
  have hnq:np+1≤q:=by omega
  have HR:=hH (aN hR (aN hT (aN hV (aN hpl (aN hl (aN hnp hn2))))))
  have HK:=hH hK
  have HC:=hH (aN d0 (aN d1 (aN d2 d3)))
  clear hR hT hV htot hb dk hl d4 hK d0 d1 d2 d3 hn2 hpl hnp k0 k1 k2 k3 k4 k5 hroot h0 hOB b0 b1 b2 b3 g1 g2 g3 g4
  gi_wp2
  refine HK.out _ fun V1 hV1=>?_
  clear HK
  obtain⟨o',ev,o,ho,hoc⟩:=hV1
  have hV1s:∀x,x<W.heap.size→V1.heap[x]? =V.heap[x]?:=fun x hx=>by rw[ev];exact WphQ (by have:=HR.out.2.2.2.2.1;omega)
  have hsz1:V1.heap.size=V.heap.size:=by rw[ev];simp[World.putObj]
  have hR1:JR w 180 182 184 4 (W2.heap.size+1) (w.heap.size+1) W2.heap.size q (.func (.func 136) #[] #[]) qY pre V1.drew:=HR.out.1.keep ⟨by rw[ev];rfl,by rw[ev];rfl,by rw[ev];rfl,by show V.heap.size≤V1.heap.size;omega⟩ W.heap.size om1 om1 om1 om1 (fun x hx _=>hV1s x hx)
  have e0:V1.drew.cell? ⟨b,off,none⟩=some (.int .i64 key.1):=(World.cell?_of_block (w:=V) (w':=V1.drew) (a:=⟨b,off,none⟩) (hV1s b hbl)).trans HC.out.1
  have e1:V1.drew.cell? ⟨b,off+1,none⟩=some (.int .i64 key.2.1):=(World.cell?_of_block (w:=V) (w':=V1.drew) (a:=⟨b,off+1,none⟩) (hV1s b hbl)).trans HC.out.2.1
  have e2:V1.drew.cell? ⟨b,off+2,none⟩=some (.string key.2.2):=(World.cell?_of_block (w:=V) (w':=V1.drew) (a:=⟨b,off+2,none⟩) (hV1s b hbl)).trans HC.out.2.2.1
  have e3:V1.drew.cell? ⟨b,off+3,none⟩=some (.slice ka2 n2 kcc):=(World.cell?_of_block (w:=V) (w':=V1.drew) (a:=⟨b,off+3,none⟩) (hV1s b hbl)).trans HC.out.2.2.2
  have HOF:=hH (zfG _ b off n2 kcc _ _ _ ka2 e0 e1 e2 e3:Calls Tryz.prog 136 #[.pointer (some ⟨b,off,none⟩)] V1.drew _)
  have l0:V1.cell? ⟨W2.heap.size+1,0,none⟩=some (.slice (some ⟨W2.heap.size,0,none⟩) np q):=by rw[HR.out.2.2.2.2.2.1];have:=corQ V1.drew _ 0 _ _ _ hR1.cell;exact this
  have f0:V1.cell? ⟨w.heap.size+1,0,none⟩=some (.func (.func 136) #[] #[]):=by have:=corQ V1.drew _ 0 _ _ _ hR1.of_;exact this
  have HR1:=hH hR1
  have HV1:=hH (aN hV1s hsz1)
  have hLl:=lohQ hR1.cell
  have hOl:=lohQ hR1.of_
  have hgl:W2.heap.size<V1.heap.size:=by have:W2.heap.size+1<V1.heap.size:=hLl;omega
  clear ev ho hoc hV1s hsz1 hR1 e0 e1 e2 e3
  obtain⟨SX,hSX⟩:∃SX:World→Prop,SX=fun X=>X.cell? ⟨w.heap.size+1,0,none⟩=some (.func (.func 136) #[] #[]):=⟨_,rfl⟩
  have HSx:∀X,SX X→X.cell? ⟨w.heap.size+1,0,none⟩=some (.func (.func 136) #[] #[]):=fun X h=>by rw[hSX] at h;exact h
  have hS0:SX V1.drew:=by rw[hSX];exact f0
  have HSM:=hH (show ∀X,X.cell? ⟨w.heap.size+1,0,none⟩=some (.func (.func 136) #[] #[])→SX X from fun X h=>by rw[hSX];exact h)
  obtain⟨i0,hi0,hi1⟩:∃i0,Tryz.prog.info? 182=some i0∧i0.size=4:=by
   obtain⟨i0,h,h'⟩:=Option.map_eq_some_iff.1 (show (Tryz.prog.info? 182).map (fun i=>i.size)=some 4 by kernel_rfl)
   exact⟨i0,h,h'⟩
  have HI:=hH (aN hi0 hi1)
  clear hSX f0 hi0 hi1
  gi_wp2
  refine zcg (S:=SX) kr1 (zis kr1) ?_
  have eH:=hS0
  clear hS0
  refine zL1 (i:=1) (.func (.func 136) #[] #[]) rfl ?_ ?_
  · clear eH;intro X hSw;obtain s0:=HSx X hSw;clear hSw;go_simp
  simp only[Act.put,pg]
  refine zG1 (i:=2) (.pointer (some ⟨b,off,none⟩)) rfl ?_
  simp only[Act.put,pg]
  have HH0:=hH eH
  refine zbd (i:=0) (j:=3) (o:=_) (o':=_) kr1 rfl rfl ?_ ?_
  · intro K0 hK0
    rw[ipQ ue1]
    simp only[pg3]
    have HK0:=hH hK0
    clear hK0
    have HH0:=hH eH
    clear eH
    gi_wp2
    refine HK0.out _ _ HH0.out ?_
    have eH:=HH0.out
    clear HK0 HH0
    refine qp (i:=3) (o:=_) kr1 rfl ?_
    intro K3 hK3
    rw[ipQ ue1]
    simp only[pg3]
    have HK3:=hH hK3
    clear hK3
    clear eH
    gi_wp2_with (refine⟨trivial,?_⟩;gi_at_call 136;refine (callsIn_wide.2 HOF.out).mono ?_;rintro e V2 ⟨rfl,hb2⟩;have HV2:=hH hb2;clear hb2)
    have eH:=HSM.out V2 ((HV2.out.cell (p:=⟨w.heap.size+1,0,none⟩) hOl).trans (HSx _ HH0.out))
    have l0:V2.cell? ⟨W2.heap.size+1,0,none⟩=some (.slice (some ⟨W2.heap.size,0,none⟩) np q):=(HV2.out.cell (p:=⟨W2.heap.size+1,0,none⟩) hLl).trans l0
    have hsV2:V1.heap.size≤V2.heap.size:=HV2.out.size
    refine HK3.out _ _ eH ?_
    clear HK3
    refine qp (i:=4) (o:=_) kr1 rfl ?_
    intro K4 hK4
    rw[ipQ ue1]
    simp only[pg3]
    have HK4:=hH hK4
    clear hK4
    have hO2:=HSx _ eH
    clear eH
    gi_wp2
    have eH:=HSM.out (V2.alloc (.cells #[.int .i64 key.1,.int .i64 key.2.1,.int .i64 (n2:Int),.string key.2.2] 182)) ((World.cell?_of_block (a:=⟨w.heap.size+1,0,none⟩) (BhaQ V2 _ _ (nL hOl hsV2))).trans hO2)
    have l0:(V2.alloc (.cells #[.int .i64 key.1,.int .i64 key.2.1,.int .i64 (n2:Int),.string key.2.2] 182)).cell? ⟨W2.heap.size+1,0,none⟩=some (.slice (some ⟨W2.heap.size,0,none⟩) np q):=(World.cell?_of_block (a:=⟨W2.heap.size+1,0,none⟩) (BhaQ V2 _ _ (nL hLl hsV2))).trans l0
    refine HK4.out _ _ eH ?_
    clear HK4 hO2
    exact sa5
  · intro K3 hK3
    rw[ipQ ue1]
    simp only[pg3]
    have HK3:=hH hK3
    clear hK3
    clear eH
    gi_wp2_with (refine⟨trivial,?_⟩;gi_at_call 136;refine (callsIn_wide.2 HOF.out).mono ?_;rintro e V2 ⟨rfl,hb2⟩;have HV2:=hH hb2;clear hb2)
    have eH:=HSM.out V2 ((HV2.out.cell (p:=⟨w.heap.size+1,0,none⟩) hOl).trans (HSx _ HH0.out))
    have l0:V2.cell? ⟨W2.heap.size+1,0,none⟩=some (.slice (some ⟨W2.heap.size,0,none⟩) np q):=(HV2.out.cell (p:=⟨W2.heap.size+1,0,none⟩) hLl).trans l0
    have hsV2:V1.heap.size≤V2.heap.size:=HV2.out.size
    refine HK3.out _ _ eH ?_
    clear HK3
    refine zbd (i:=0) (j:=4) (o:=_) (o':=_) kr1 rfl rfl ?_ ?_
    · intro K0 hK0
      rw[ipQ ue1]
      simp only[pg3]
      have HK0:=hH hK0
      clear hK0
      have HH0:=hH eH
      clear eH
      gi_wp2
      refine HK0.out _ _ HH0.out ?_
      have eH:=HH0.out
      clear HK0 HH0
      refine qp (i:=4) (o:=_) kr1 rfl ?_
      intro K4 hK4
      rw[ipQ ue1]
      simp only[pg3]
      have HK4:=hH hK4
      clear hK4
      have hO2:=HSx _ eH
      clear eH
      gi_wp2
      have eH:=HSM.out (V2.alloc (.cells #[.int .i64 key.1,.int .i64 key.2.1,.int .i64 (n2:Int),.string key.2.2] 182)) ((World.cell?_of_block (a:=⟨w.heap.size+1,0,none⟩) (BhaQ V2 _ _ (nL hOl hsV2))).trans hO2)
      have l0:(V2.alloc (.cells #[.int .i64 key.1,.int .i64 key.2.1,.int .i64 (n2:Int),.string key.2.2] 182)).cell? ⟨W2.heap.size+1,0,none⟩=some (.slice (some ⟨W2.heap.size,0,none⟩) np q):=(World.cell?_of_block (a:=⟨W2.heap.size+1,0,none⟩) (BhaQ V2 _ _ (nL hLl hsV2))).trans l0
      refine HK4.out _ _ eH ?_
      clear HK4 hO2
      exact sa5
    · intro K4 hK4
      rw[ipQ ue1]
      simp only[pg3]
      have HK4:=hH hK4
      clear hK4
      have hO2:=HSx _ eH
      clear eH
      gi_wp2
      have eH:=HSM.out (V2.alloc (.cells #[.int .i64 key.1,.int .i64 key.2.1,.int .i64 (n2:Int),.string key.2.2] 182)) ((World.cell?_of_block (a:=⟨w.heap.size+1,0,none⟩) (BhaQ V2 _ _ (nL hOl hsV2))).trans hO2)
      have l0:(V2.alloc (.cells #[.int .i64 key.1,.int .i64 key.2.1,.int .i64 (n2:Int),.string key.2.2] 182)).cell? ⟨W2.heap.size+1,0,none⟩=some (.slice (some ⟨W2.heap.size,0,none⟩) np q):=(World.cell?_of_block (a:=⟨W2.heap.size+1,0,none⟩) (BhaQ V2 _ _ (nL hLl hsV2))).trans l0
      refine HK4.out _ _ eH ?_
      clear HK4 hO2
      refine qp (i:=0) (o:=_) kr1 rfl ?_
      intro K0 hK0
      rw[ipQ ue1]
      simp only[pg3]
      have HK0:=hH hK0
      clear hK0
      have HH0:=hH eH
      clear eH
      gi_wp2
      refine HK0.out _ _ HH0.out ?_
      have eH:=HH0.out
      clear HK0 HH0
      exact sa5
end Go.Proofs.YtoidedomenkbpaaGreat
