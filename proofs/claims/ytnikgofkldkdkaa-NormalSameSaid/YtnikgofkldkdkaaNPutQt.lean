/-
  .
-/
import Derived.Test.YtnikgofkldkdkaaNRulesQt
set_option maxRecDepth 100000
set_option maxHeartbeats 40000000
set_option linter.unusedVariables false
set_option linter.unusedSimpArgs false
namespace Go.Proofs.Ytnikgofkldkdkaa
open Go.RowKit Go.Shelf
attribute [local go_sem] Oper.semAt_some
theorem qM.zaY {w0 V W:World}{A:Nat}{ha hb:HV}(h:qM w0 A ha hb V.drew W):qM w0 A ha hb V W:=⟨h.held,h.x,⟨h.turned.os,h.turned.tape,h.turned.output,h.turned.size,h.turned.block⟩,h.own⟩
def zjz (w0:World)(A:Nat)(ha hb:HV)(w:World)(e:Ending)(w' :World):Prop:=∃m,e= .returned (.bool (wiT hb.x.s.id ⟨#[]⟩ ha.x.s.sub).2)∧qM w0 A ha (ha.yg (some m)) w w'
theorem zb2 {w0 V:World}{A B:Nat}{ha hb:HV}(h1:zY w0 V A ha)(h2:zY w0 V B hb)(hB:Below w0.heap.size w0 V)(hok:jH ha)(hwf:(Lit.int .i64 hb.x.s.id).wf=true)(hAB:¬ha.own A B):Calls Try.prog 82 #[yJ A,yJ B] V (zjz w0 A ha hb V):=by
 obtain⟨_,b1,_⟩:=h2.box
 obtain⟨SW,hSW⟩:∃SW:World→Prop,SW=fun Z=>Z.cell? ⟨B,1,none⟩=some (.int .i64 hb.x.s.id):=⟨_,rfl⟩
 have HSW:=hH (fun (Z:World) (h:SW Z)=>(show Z.cell? ⟨B,1,none⟩=some (.int .i64 hb.x.s.id) by rw[hSW] at h;exact h))
 have hS0:SW V.drew:=by rw[hSW];exact b1
 have hN:=zfX (V:=V.drew) (h1.kept fun _ _=>rfl) ⟨hB.os,hB.tape,hB.output,hB.size,hB.block⟩ hok
 have hSt:∀Z,(∃m,qM w0 A ha (ha.yg (some m)) V.drew Z)→SW Z:=fun Z ⟨m,ht⟩=>by
  rw[hSW]
  exact (World.cell?_of_block (a:=⟨B,1,none⟩) (ht.turned.block B (lohQ h2.cells) hAB)).trans b1
 have HN:=hH (aN hN (aN hSt hwf))
 simp only[yJ] at HN ⊢
 clear hSW hN hSt h1 h2 hB hok hAB b1
 go_enter Try.func82,Try.ntmps82
 go_upto_region 1 with fail
 refine jv ?_
 refine wrhQ (S:=SW) kr1 hS0 (fun uH=>?_)
 clear hS0
 refine wpAnyH_take (i:=0) (oi:=_) (v:= .pointer (some ⟨A,0,none⟩)) rfl kr1 kr1 kr1 (fun _ _ _ h=>by cases h.1) (Or.inl ⟨by rfl,?_⟩) ue7 ?_
 · clear uH;intro X hSw;clear hSw;go_simp
 simp only[Act.put,pg]
 refine wpAnyH_take (i:=2) (oi:=_) (v:= .pointer (some ⟨B,0,none⟩)) rfl kr1 kr1 kr1 (fun _ _ _ h=>by cases h.1) (Or.inl ⟨by rfl,?_⟩) ue7 ?_
 · clear uH;intro X hSw;clear hSw;go_simp
 simp only[Act.put,pg]
 refine wpAnyH_take (i:=3) (oi:=_) (v:= .pointer (some ⟨B,0,none⟩)) rfl kr1 kr1 kr1 (fun _ _ _ h=>by cases h.1) (Or.inl ⟨by rfl,?_⟩) ue7 ?_
 · clear uH;intro X hSw;clear hSw;go_simp
 simp only[Act.put,pg]
 refine wpAnyH_take (i:=4) (oi:=_) (v:= .pointer (some ⟨B,0,none⟩)) rfl kr1 kr1 kr1 (fun _ _ _ h=>by cases h.1) (Or.inl ⟨by rfl,?_⟩) ue7 ?_
 · clear uH;intro X hSw;clear hSw;go_simp
 simp only[Act.put,pg]
 refine wpAnyH_take (i:=5) (oi:=_) (v:= .pointer (some ⟨B,1,none⟩)) rfl kr1 kr1 kr1 (fun _ _ _ h=>by cases h.1) (Or.inl ⟨by rfl,?_⟩) ue7 ?_
 · clear uH;intro X hSw;clear hSw;go_simp
 simp only[Act.put,pg]
 refine wpAnyH_take (i:=6) (oi:=_) (v:= .int .i64 hb.x.s.id) rfl kr1 kr1 kr1 (fun _ _ _ h=>by cases h.1) (Or.inl ⟨by rfl,?_⟩) ue7 ?_
 · clear uH;intro X hSw;have q1:=HSW.out X hSw;clear hSw;go_simp
 simp only[Act.put,pg]
 refine rd [1] ?_
 refine AcQ (o:=_) rfl (fun K hK=>?_) (AnQ)
 rw[ipQ uf0]
 simp only[pg3]
 have HK:=hH hK
 clear hK uH
 go_wp2_with fail
 refine HN.out.1.mono ?_
 rintro e V1 ⟨m,rfl,ht⟩
 have hnd:=ht.held.nodes
 have hlook:(Instr.lookup 97 (.map (some m)) (.int .i64 hb.x.s.id) true).run Try.prog V1= .ok (.tuple #[zh7 (zR hb.x.s.id (Classical.choose (Classical.choose_spec hnd))),.bool (wiT hb.x.s.id ⟨#[]⟩ ha.x.s.sub).2]) V1:=by
  have h3:=Classical.choose_spec (Classical.choose_spec hnd)
  rw[look_ok h3.1 HN.out.2.2,h3.2];rfl
 generalize zh7 _=pv at hlook
 generalize hbv:(wiT hb.x.s.id ⟨#[]⟩ ha.x.s.sub).2=bv at hlook
 have HE:Hid (zjz w0 A ha hb V (.returned (.bool bv)) V1):=hH ⟨m,by rw[hbv],ht.zaY⟩
 have hS1:SW V1:=HN.out.2.1 V1 ⟨m,ht⟩
 have HS1:=hH hS1
 clear ht hnd hbv
 refine HK.out _ _ hS1 (fun uH=>?_)
 clear HK hS1
 refine rd [7] ?_
 refine AcQ (o:=_) rfl (fun K hK=>?_) (AnQ)
 rw[ipQ uf0]
 simp only[pg3]
 have HK:=hH hK
 clear hK uH
 go_wp2_with fail
 refine HK.out _ _ HS1.out (fun uH=>?_)
 clear HK hlook
 refine wpAnyH_take (i:=8) (oi:=_) (v:= .tuple #[pv,.bool bv]) rfl kr1 kr1 kr1 (fun _ _ _ h=>by cases h.1) (Or.inl ⟨by rfl,?_⟩) ue7 ?_
 · clear uH;intro X hSw;clear hSw;go_simp
 simp only[Act.put,pg]
 refine wpAnyH_take (i:=9) (oi:=_) (v:=pv) rfl kr1 kr1 kr1 (fun _ _ _ h=>by cases h.1) (Or.inl ⟨by rfl,?_⟩) ue7 ?_
 · clear uH;intro X hSw;clear hSw;go_simp
 simp only[Act.put,pg]
 refine wpAnyH_take (i:=10) (oi:=_) (v:= .bool bv) rfl kr1 kr1 kr1 (fun _ _ _ h=>by cases h.1) (Or.inl ⟨by rfl,?_⟩) ue7 ?_
 · clear uH;intro X hSw;clear hSw;go_simp
 simp only[Act.put,pg]
 refine wpAnyH_take (i:=11) (oi:=_) (v:=pv) rfl kr1 kr1 kr1 (fun _ _ _ h=>by cases h.1) (Or.inl ⟨by rfl,?_⟩) ue7 ?_
 · clear uH;intro X hSw;clear hSw;go_simp
 simp only[Act.put,pg]
 refine wpAnyH_take (i:=12) (oi:=_) (v:= .bool bv) rfl kr1 kr1 kr1 (fun _ _ _ h=>by cases h.1) (Or.inl ⟨by rfl,?_⟩) ue7 ?_
 · clear uH;intro X hSw;clear hSw;go_simp
 simp only[Act.put,pg]
 refine wpAnyH_done kr1 ?_ _
 refine⟨rfl,?_⟩
 clear uH
 go_wp2_with fail
 go_ret
 exact HE.out
def HV.kG (h:HV)(x:SV)(ta:Option Addr)(tc:Nat):HV:=⟨h.x,h.ts++[x],ta,tc,h.m⟩
def zeT (w0:World)(A:Nat)(ha hb:HV)(w:World)(e:Ending)(w' :World):Prop:=∃ta tc,e= .returned (yJ A)∧qM w0 A ha (ha.kG hb.x ta tc) w w'
theorem zeL {w0 V:World}{A B:Nat}{ha hb:HV}(h1:zY w0 V A ha)(h2:zY w0 V B hb)(hB:Below w0.heap.size w0 V)(hfew:ha.ts.length≤10000)(hAB:¬ha.own A B)(hAA:ha.tv.ownBlock≠some A∧ha.m≠some A):Calls Try.prog 83 #[yJ A,yJ B] V (zeT w0 A ha hb V):=by
 obtain⟨b0,b1,b2,b3,b4,b5,b6,b7,b8,_⟩:=h2.box
 obtain⟨tn,htn⟩:∃tn,tn=ha.ts.length:=⟨_,rfl⟩
 obtain⟨sn,hsn⟩:∃sn,sn=foLen hb.x.s.sub.kids:=⟨_,rfl⟩
 rw[←hsn] at b8
 have hcA:=h1.cells
 rw[←htn] at hcA hfew
 obtain⟨U,hU⟩:∃U,U=(V.alloc (.cells #[.int .i8 hb.x.s.op,.int .i64 hb.x.s.id,.int .i64 hb.x.s.par,.int .i64 hb.x.s.at_,.string hb.x.s.tx,.int .i64 hb.x.s.sub.id,.int .i64 hb.x.s.sub.kind,.string hb.x.s.sub.text,.slice hb.x.a sn hb.x.c] 49)).drew:=⟨_,rfl⟩
 have hUk:∀q,q<V.heap.size→U.heap[q]? =V.heap[q]?:=fun q hq=>by rw[hU];exact BhaQ _ _ _ hq
 have hUs:U.heap.size=V.heap.size+1:=by rw[hU];show (V.alloc _).heap.size=_;simp
 have hUn:U.heap[V.heap.size]? =some (.cells #[.int .i8 hb.x.s.op,.int .i64 hb.x.s.id,.int .i64 hb.x.s.par,.int .i64 hb.x.s.at_,.string hb.x.s.tx,.int .i64 hb.x.s.sub.id,.int .i64 hb.x.s.sub.kind,.string hb.x.s.sub.text,.slice hb.x.a sn hb.x.c] 49 (0,0)):=by rw[hU];exact hanQ _ _
 obtain⟨i0,z0,hi0,hz0,hz1,hz2,hz3⟩:=zW Try.zfa
 have htx:=h1.texts
 rw[←htn] at htx
 have h2U:=zA (w':=U) htx (fun q cur hq _=>hUk q (lohQ hq))
 have hBs:=hB.size
 obtain⟨g,cap,W,hrun,hown,hgr,hat,hlt9⟩:=run_append_lies (P:=Try.prog) U 28 28 w0.heap.size 49 i0 z0 9 104 Try.underlying28 hi0 hz0 hz1 hz2 hz3 om (.slice ha.ta tn ha.tc) tn _ h2U ⟨V.heap.size,0,none⟩ 1 1 (vO hb.x.s hb.x.a hb.x.c) rfl (fun i u hu=>by
  have hadd:(⟨V.heap.size,0,none⟩:Addr).add i=⟨V.heap.size,i,none⟩:=by unfold Addr.add;split<;>simp_all
  rw[hadd,corQ _ _ _ _ _ _ hUn]
  rw[hsn]
  simpa [vO] using hu) (JU [hb.x] |> fun h u hu=>h u (by simpa [yL] using hu)) om ue1 om om U.heap.size rfl
 have hcW:=(hgr.block A (by have:=lohQ hcA;omega) (fun e=>hAA.1 (by rw[HV.tv,←htn];exact e.symm))).trans ((hUk A (lohQ hcA)).trans hcA)
 obtain⟨V2,e2,g2,o2,a2,t2,p2,s2⟩:=yV (i:=10) (u:= .slice (some ⟨g,0,none⟩) (tn+1) cap) hcW
 have hgs:=hgr.size
 have hA:=lohQ hcA
 have hgA:g≠A:=fun e=>by
  rcases hat with h | h
  · exact hAA.1 (by rw[HV.tv,←htn,h,e])
  · omega
 have hk2:∀q,q<V.heap.size→¬ha.own A q→V2.heap[q]? =V.heap[q]?:=fun q hq hn=>by
  rw[o2 q (fun e=>hn (Or.inl e))]
  exact (hgr.block q om (fun e=>hn (Or.inr (Or.inl (by rw[HV.tv,←htn];exact e.symm))))).trans (hUk q hq)
 have hT:qM w0 A ha (ha.kG hb.x (some ⟨g,0,none⟩) cap) V V2:=by
  refine⟨⟨?_,h1.lies,?_,?_,h1.base,h1.zc0⟩,rfl,⟨?_,?_,?_,by omega,hk2⟩,fun q hq=>?_⟩
  · simp only[HV.kG,LlaQ,LlcQ,List.length_nil,←htn]
    simpa using g2
  · simp only[HV.kG,LlaQ,LlcQ,List.length_nil,←htn]
    have e9:yL (ha.ts++[hb.x])=yL ha.ts++vO hb.x.s hb.x.a hb.x.c:=by simp[yL]
    rw[e9]
    exact zA hown (fun q cur hq hqo=>o2 q (fun e=>hgA (by have:=Option.some.inj hqo;rw[←e,←this])))
  · have h3:=h1.nodes
    unfold Z7 at h3 ⊢
    simp only[HV.kG]
    cases hm:ha.m with
    | none=>trivial
    | some mb=>
      rw[hm] at h3
      obtain⟨n,L,h4,h5⟩:=h3
      refine⟨n,L,h4.at ?_,h5⟩
      have hml:=h4.lt
      rw[o2 mb (fun e=>hAA.2 (by rw[hm,e]))]
      refine (hgr.block mb om (fun e=>?_)).trans (hUk mb hml)
      obtain⟨cur,hc⟩:=yU htx e.symm
      obtain⟨M,⟨es,clock,hb9,_⟩,_⟩:=h4
      rw[hc] at hb9;cases hb9
  · rw[a2,hgr.os,hU];rfl
  · rw[t2,hgr.tape,hU];rfl
  · rw[p2,hgr.output,hU];rfl
  · rcases hq with hq | hq | hq
    · exact Or.inl (Or.inl hq)
    · have hqg:g=q:=Option.some.inj hq
      subst hqg
      rcases hat with h | h
      · exact Or.inl (Or.inr (Or.inl (by rw[HV.tv,←htn];exact h)))
      · exact Or.inr om
    · exact Or.inl (Or.inr (Or.inr hq))
 have HE:Hid (zeT w0 A ha hb V (.returned (yJ A)) V2):=hH ⟨_,_,rfl,hT⟩
 obtain⟨SW,hSW⟩:∃SW:World→Prop,SW=fun Z=>uf2 Z B hb.x.s.op hb.x.s.id hb.x.s.par hb.x.s.at_ hb.x.s.tx hb.x.s.sub.id hb.x.s.sub.kind hb.x.s.sub.text hb.x.a sn hb.x.c:=⟨_,rfl⟩
 have HSW:=hH (fun (Z:World) (h:SW Z)=>(show Z.cell? ⟨B,0,none⟩=some (.int .i8 hb.x.s.op)∧Z.cell? ⟨B,1,none⟩=some (.int .i64 hb.x.s.id)∧Z.cell? ⟨B,2,none⟩=some (.int .i64 hb.x.s.par)∧Z.cell? ⟨B,3,none⟩=some (.int .i64 hb.x.s.at_)∧Z.cell? ⟨B,4,none⟩=some (.string hb.x.s.tx)∧Z.cell? ⟨B,5,none⟩=some (.int .i64 hb.x.s.sub.id)∧Z.cell? ⟨B,6,none⟩=some (.int .i64 hb.x.s.sub.kind)∧Z.cell? ⟨B,7,none⟩=some (.string hb.x.s.sub.text)∧Z.cell? ⟨B,8,none⟩=some (.slice hb.x.a sn hb.x.c) by rw[hSW] at h;exact h))
 have hSof:∀Z:World,Z.heap[B]? =V.heap[B]?→SW Z:=fun Z e=>by
  rw[hSW]
  refine⟨?_,?_,?_,?_,?_,?_,?_,?_,?_⟩<;>(refine (World.cell?_of_block e).trans ?_;assumption)
 have hBl:=lohQ h2.cells
 have hBg:some B≠(Value.slice ha.ta tn ha.tc).ownBlock:=fun e=>hAB (Or.inr (Or.inl (by rw[HV.tv,←htn];exact e.symm)))
 have hS0:SW V.drew:=hSof _ rfl
 have hSU:SW U:=hSof _ (hUk B hBl)
 have hSWW:SW W:=hSof _ ((hgr.block B om hBg).trans (hUk B hBl))
 have hS2:SW V2:=hSof _ (hk2 B hBl hAB)
 have c0:V.drew.cell? ⟨A,10,none⟩=some (.slice ha.ta tn ha.tc):=by show V.cell? _=_;rw[corQ _ _ _ _ _ _ hcA];rfl
 have cU:U.cell? ⟨A,10,none⟩=some (.slice ha.ta tn ha.tc):=by rw[corQ _ _ _ _ _ _ ((hUk A hA).trans hcA)];rfl
 have b7' :W.cell? ⟨A,10,none⟩=some (.slice ha.ta tn ha.tc):=by rw[corQ _ _ _ _ _ _ hcW];rfl
 have f7:W.frozen? ⟨A,10,none⟩=false:=forQ _ _ _ _ _ hcW
 have HSQ:=hH (aN hS0 (aN hSU (aN hSWW hS2)))
 have HWC:=hH (aN c0 cU)
 have HB7:=hH (aN b7' f7)
 have HRUN:=hH hrun
 have HU:=hH hU
 have HW9:=hH e2
 simp only[yJ] at HE ⊢
 clear hT hSW hSof hBg hBl hS0 hSU hSWW hS2 c0 cU b7' f7 hrun hU e2 g2 o2 a2 t2 p2 s2 hgs hA hgA hk2 hcW hown hgr hat hlt9 h2U htx hz0 hz1 hz2 hz3 hi0 hUn hUs hUk hcA h1 h2 hB hAB hAA htn hsn b0 b1 b2 b3 b4 b5 b6 b7 b8 hBs
 go_enter Try.func83,Try.ntmps83
 go_upto_region 1 with fail
 refine jv ?_
 refine wrhQ (S:=SW) kr1 HSQ.out.1 (fun uH=>?_)
 refine wpAnyH_take (i:=0) (oi:=_) (v:= .pointer (some ⟨A,0,none⟩)) rfl kr1 kr1 kr1 (fun _ _ _ h=>by cases h.1) (Or.inl ⟨by rfl,?_⟩) ue7 ?_
 · clear uH;intro X hSw;clear hSw;go_simp
 simp only[Act.put,pg]
 refine wpAnyH_take (i:=1) (oi:=_) (v:= .pointer (some ⟨A,0,none⟩)) rfl kr1 kr1 kr1 (fun _ _ _ h=>by cases h.1) (Or.inl ⟨by rfl,?_⟩) ue7 ?_
 · clear uH;intro X hSw;clear hSw;go_simp
 simp only[Act.put,pg]
 refine wpAnyH_take (i:=2) (oi:=_) (v:= .pointer (some ⟨A,0,none⟩)) rfl kr1 kr1 kr1 (fun _ _ _ h=>by cases h.1) (Or.inl ⟨by rfl,?_⟩) ue7 ?_
 · clear uH;intro X hSw;clear hSw;go_simp
 simp only[Act.put,pg]
 refine wpAnyH_take (i:=3) (oi:=_) (v:= .pointer (some ⟨A,10,none⟩)) rfl kr1 kr1 kr1 (fun _ _ _ h=>by cases h.1) (Or.inl ⟨by rfl,?_⟩) ue7 ?_
 · clear uH;intro X hSw;clear hSw;go_simp
 simp only[Act.put,pg]
 refine wpAnyH_take (i:=5) (oi:=_) (v:= .pointer (some ⟨B,0,none⟩)) rfl kr1 kr1 kr1 (fun _ _ _ h=>by cases h.1) (Or.inl ⟨by rfl,?_⟩) ue7 ?_
 · clear uH;intro X hSw;clear hSw;go_simp
 simp only[Act.put,pg]
 refine wpAnyH_take (i:=6) (oi:=_) (v:= .pointer (some ⟨B,0,none⟩)) rfl kr1 kr1 kr1 (fun _ _ _ h=>by cases h.1) (Or.inl ⟨by rfl,?_⟩) ue7 ?_
 · clear uH;intro X hSw;clear hSw;go_simp
 simp only[Act.put,pg]
 refine wpAnyH_take (i:=7) (oi:=_) (v:= .pointer (some ⟨B,0,none⟩)) rfl kr1 kr1 kr1 (fun _ _ _ h=>by cases h.1) (Or.inl ⟨by rfl,?_⟩) ue7 ?_
 · clear uH;intro X hSw;clear hSw;go_simp
 simp only[Act.put,pg]
 refine wpAnyH_take (i:=8) (oi:=_) (v:= .agg #[.int .i8 hb.x.s.op,.int .i64 hb.x.s.id,.int .i64 hb.x.s.par,.int .i64 hb.x.s.at_,.string hb.x.s.tx,.int .i64 hb.x.s.sub.id,.int .i64 hb.x.s.sub.kind,.string hb.x.s.sub.text,.slice hb.x.a sn hb.x.c]) rfl kr1 kr1 kr1 (fun _ _ _ h=>by cases h.1) (Or.inl ⟨by rfl,?_⟩) ue7 ?_
 · clear uH;intro X hSw;obtain⟨q0,q1,q2,q3,q4,q5,q6,q7,q8⟩:=HSW.out X hSw;clear hSw;go_simp
 simp only[Act.put,pg]
 refine rd [4,9] ?_
 refine AcQ (o:=_) rfl (fun K hK=>?_) (AcQ (o:=_) rfl (fun K hK=>?_) (AnQ))
 · skip
   rw[ipQ uf0]
   simp only[pg3]
   have HK:=hH hK
   clear hK uH
   have l0:=HWC.out.1
   go_wp2_with fail
   refine HK.out _ _ HSQ.out.1 (fun uH=>?_)
   clear HK l0
   refine rd [9] ?_
   refine AcQ (o:=_) rfl (fun K hK=>?_) (AnQ)
   rw[ipQ uf0]
   simp only[pg3]
   have HK:=hH hK
   clear hK uH
   go_wp2_with fail
   rw[←HU.out]
   refine HK.out _ _ HSQ.out.2.1 (fun uH=>?_)
   clear HK
   exact sb7
 · skip
   rw[ipQ uf0]
   simp only[pg3]
   have HK:=hH hK
   clear hK uH
   go_wp2_with fail
   rw[←HU.out]
   refine HK.out _ _ HSQ.out.2.1 (fun uH=>?_)
   clear HK
   refine rd [4] ?_
   refine AcQ (o:=_) rfl (fun K hK=>?_) (AnQ)
   rw[ipQ uf0]
   simp only[pg3]
   have HK:=hH hK
   clear hK uH
   have l0:=HWC.out.2
   go_wp2_with fail
   refine HK.out _ _ HSQ.out.2.1 (fun uH=>?_)
   clear HK l0
   exact sb7
end Go.Proofs.Ytnikgofkldkdkaa
namespace Go.Proofs.Ytnikgofkldkdkaa
open Go.RowKit Go.Shelf
attribute [local go_sem] Oper.semAt_some
theorem zkf (i:Int)(a:ByteArray)(t:Tr):(wiT i a t).1.id=t.id:=by
 unfold wiT
 split
 · rfl
 · split<;>rfl
theorem zcm:∀(ts:List SV) (u:Tr),(jk u ts).id=u.id
 | [],_=>rfl
 | t ::ts,u=>by
   show (jk (wiT t.s.id t.s.tx u).1 ts).id=_
   rw[zcm ts,zkf]
def ZB (j:Nat)(ha hb:HV):Prop:=match j with
 | 0=>ha.x.s.op=4∧hb.x.s.op=4∧ha.x.s.id=hb.x.s.id
 | 1=>ha.x.s.op=1∧hb.x.s.op=2∧ha.x.s.sub.id=hb.x.s.id
 | 2=>ha.x.s.op=3∧hb.x.s.op=3∧ha.x.s.id=hb.x.s.id
 | 3=>ha.x.s.op=1∧hb.x.s.op=4∧(wiT hb.x.s.id ⟨#[]⟩ ha.x.s.sub).2=true
 | _=>False
theorem zeO (i:Int)(a b:ByteArray)(t:Tr):(wiT i a t).2=(wiT i b t).2:=by rw[(jG i a t).2,(jG i b t).2];exact zke i a b _
theorem zf8 {ha hb:HV}(h:∀j,j<4→¬ZB j ha hb):(yC ha.sf hb.sf).2=false:=by
 have h0:=h 0 om
 have h1:=h 1 om
 have h2:=h 2 om
 have h3:=h 3 om
 simp only[ZB] at h0 h1 h2 h3
 have n1:¬(ha.x.s.op=hb.x.s.op∧(ha.x.s.op=4∨ha.x.s.op=3)∧ha.x.s.id=hb.x.s.id):=by
  rintro ⟨e1,e2 | e2,e3⟩
  · exact h0 ⟨e2,by rw[←e1];exact e2,e3⟩
  · exact h2 ⟨e2,by rw[←e1];exact e2,e3⟩
 have n2:¬(ha.x.s.op=1∧hb.x.s.op=2∧(jk ha.x.s.sub ha.ts).id=hb.x.s.id):=by rw[zcm];exact h1
 have n3:¬(ha.x.s.op=1∧hb.x.s.op=4∧(wiT hb.x.s.id hb.x.s.tx (jk ha.x.s.sub ha.ts)).2=true):=by
  rintro ⟨e1,e2,e3⟩
  rw[Qz] at e3
  exact h3 ⟨e1,e2,by rw[zeO _ _ hb.x.s.tx];exact e3⟩
 unfold yC
 rw[inQ (show ¬(ha.sf.op=hb.sf.op∧(ha.sf.op=4∨ha.sf.op=3)∧ha.sf.id=hb.sf.id) from n1),inQ (show ¬(ha.sf.op=1∧hb.sf.op=2∧ha.sf.sub.id=hb.sf.id) from n2),inQ (show ¬(ha.sf.op=1∧hb.sf.op=4∧(wiT hb.sf.id hb.sf.tx ha.sf.sub).2=true) from n3)]
theorem zh6 {ha hb:HV}(h:ZB 0 ha hb∨ZB 2 ha hb):yC ha.sf hb.sf=([hb.sf],true):=by
 unfold yC
 rw[ipQ]
 rcases h with ⟨h1,h2,h3⟩ | ⟨h1,h2,h3⟩
 · exact⟨h1.trans h2.symm,Or.inl h1,h3⟩
 · exact⟨h1.trans h2.symm,Or.inr h1,h3⟩
theorem zh5 {ha hb:HV}(h:ZB 1 ha hb):yC ha.sf hb.sf=([],true):=by
 obtain⟨h1,h2,h3⟩:=h
 have n1:¬(ha.x.s.op=hb.x.s.op∧(ha.x.s.op=4∨ha.x.s.op=3)∧ha.x.s.id=hb.x.s.id):=by rw[h1,h2];rintro ⟨e,_⟩;cases e
 have n2:ha.x.s.op=1∧hb.x.s.op=2∧(jk ha.x.s.sub ha.ts).id=hb.x.s.id:=⟨h1,h2,by rw[zcm];exact h3⟩
 unfold yC
 rw[inQ (show ¬(ha.sf.op=hb.sf.op∧(ha.sf.op=4∨ha.sf.op=3)∧ha.sf.id=hb.sf.id) from n1),ipQ (show (ha.sf.op=1∧hb.sf.op=2∧ha.sf.sub.id=hb.sf.id) from n2)]
theorem zer {ha hb:HV}(h:ZB 3 ha hb)(m:Option Nat)(ta:Option Addr)(tc:Nat):yC ha.sf hb.sf=([((ha.yg m).kG hb.x ta tc).sf],true):=by
 obtain⟨h1,h2,h3⟩:=h
 have h4:(wiT hb.x.s.id hb.x.s.tx (jk ha.x.s.sub ha.ts)).2=true:=by rw[Qz,←zeO _ ⟨#[]⟩];exact h3
 have n1:¬(ha.x.s.op=hb.x.s.op∧(ha.x.s.op=4∨ha.x.s.op=3)∧ha.x.s.id=hb.x.s.id):=by rw[h1,h2];rintro ⟨e,_⟩;cases e
 have n2:¬(ha.x.s.op=1∧hb.x.s.op=2∧(jk ha.x.s.sub ha.ts).id=hb.x.s.id):=by rw[h2];rintro ⟨_,e,_⟩;cases e
 have n3:ha.x.s.op=1∧hb.x.s.op=4∧(wiT hb.x.s.id hb.x.s.tx (jk ha.x.s.sub ha.ts)).2=true:=⟨h1,h2,h4⟩
 unfold yC
 rw[inQ (show ¬(ha.sf.op=hb.sf.op∧(ha.sf.op=4∨ha.sf.op=3)∧ha.sf.id=hb.sf.id) from n1),inQ (show ¬(ha.sf.op=1∧hb.sf.op=2∧ha.sf.sub.id=hb.sf.id) from n2),ipQ (show (ha.sf.op=1∧hb.sf.op=4∧(wiT hb.sf.id hb.sf.tx ha.sf.sub).2=true) from n3)]
 simp only[HV.sf,HV.yg,HV.kG,zbC]
theorem zY.self {w0 V:World}{A:Nat}{ha:HV}(h:zY w0 V A ha):ha.tv.ownBlock≠some A∧ha.m≠some A:=by
 refine⟨fun e=>?_,fun e=>?_⟩
 · obtain⟨cur,hc⟩:=yU h.texts e
   exact zD hc h.cells ue9 rfl
 · have h1:=h.nodes
   unfold Z7 at h1
   rw[e] at h1
   obtain⟨n,L,⟨M,⟨es,clock,hb9,_⟩,_⟩,_⟩:=h1
   rw[h.cells] at hb9;cases hb9
theorem zeP (h:HV):h.yg h.m=h:=by cases h;rfl
def zjS (w0:World)(A B:Nat)(ha hb:HV)(V:World)(e:Ending)(w' :World):Prop:=∃ha',qM w0 A ha ha' V w'∧
 ((∃m,ha'=ha.yg m∧e= .returned (.tuple #[.pointer none,.bool false])∧(yC ha.sf hb.sf).2=false)∨
  (∃m,ha'=ha.yg m∧e= .returned (.tuple #[.pointer none,.bool true])∧yC ha.sf hb.sf=([],true))∨
  (∃m,ha'=ha.yg m∧e= .returned (.tuple #[yJ B,.bool true])∧yC ha.sf hb.sf=([hb.sf],true))∨
  (∃m ta tc,ha'=(ha.yg m).kG hb.x ta tc∧e= .returned (.tuple #[yJ A,.bool true])∧yC ha.sf hb.sf=([ha'.sf],true)∧(wiT hb.x.s.id ⟨#[]⟩ ha.x.s.sub).2=true))
structure zbI (w0 V:World) (A B:Nat) (ha hb:HV) (k:Nat) (ah be:Int) (ff sf:FuncId):Prop where
 enter:∀(args:Array Value) (w:World),(callFunc ff args).run Try.prog w= .ok (.enter ff args) w
 zj1:∀(args:Array Value) (w:World),(callFunc sf args).run Try.prog w= .ok (.enter sf args) w
 fit:∀(W:World) (m:Option Nat),qM w0 A ha (ha.yg m) V W→Calls Try.prog ff #[yJ A,yJ B] W (fun e w'=>∃b m',e= .returned (.bool b)∧qM w0 A ha (ha.yg m') V w'∧(b=true→ha.x.s.op=ah→hb.x.s.op=be→ZB k ha hb)∧(b=false→¬ZB k ha hb)∧qM w0 A (ha.yg m) (ha.yg m') W w')
 no:¬(ha.x.s.op=ah∧hb.x.s.op=be)→¬ZB k ha hb
 stay:∀(W:World) (m:Option Nat),qM w0 A ha (ha.yg m) V W→ZB k ha hb→Calls Try.prog sf #[yJ A,yJ B] W (fun e w'=>∃v,e= .returned v∧zjS w0 A B ha hb V (.returned (.tuple #[v,.bool true])) w')
theorem qM.other {w0 V W:World}{A B:Nat}{ha ha' hb:HV}(h:qM w0 A ha ha' V W)(h2:zY w0 V B hb)(hap:∀q,ha.own A q→¬hb.own B q):zY w0 W B hb:=h2.kept fun q hq=>h.turned.block q (h2.lt q hq).2 (fun e=>hap q e hq)
theorem qM.more {w0 V W W' :World}{A:Nat}{ha ha' :HV}(h:qM w0 A ha ha' V W)(hb:Below W.heap.size W W'):qM w0 A ha ha' V W':=h.trans (qM.still h.held hb)
structure zdN (w0 V:World) (A B:Nat) (ha hb:HV):Prop where
 h1:zY w0 V A ha
 h2:zY w0 V B hb
 hB:Below w0.heap.size w0 V
 hok:jH ha
 hwf:(Lit.int .i64 hb.x.s.id).wf=true
 hap:∀q,ha.own A q→¬hb.own B q
section
variable {w0 V:World} {A B:Nat} {ha hb:HV}
theorem JQ (H:zdN w0 V A B ha hb){W:World}{m:Option Nat}(ht:qM w0 A ha (ha.yg m) V W):Below w0.heap.size w0 W:=⟨ht.turned.os.trans H.hB.os,ht.turned.tape.trans H.hB.tape,ht.turned.output.trans H.hB.output,NltQ H.hB.size ht.turned.size,fun q hq=>(ht.turned.block q (nL hq H.hB.size) (fun e=>by have:=(H.h1.lt q e).1;omega)).trans (H.hB.block q hq)⟩
theorem JO (H:zdN w0 V A B ha hb){W:World}{m:Option Nat}(ht:qM w0 A ha (ha.yg m) V W):¬(ha.yg m).own A B:=fun e=>by
 rcases ht.own B e with h | h
 · exact H.hap B h (Or.inl rfl)
 · have:=lohQ H.h2.cells;omega
theorem Qr (h:jH ha)(m:Option Nat):jH (ha.yg m):=⟨h.small,h.ids,h.zkF,h.few⟩
theorem zby (H:zdN w0 V A B ha hb)(k:Nat)(o:Int)(hk:k=0∧o=4∨k=2∧o=3):zbI w0 V A B ha hb k o o 78 79:=by
 have hd:ZB k ha hb↔(ha.x.s.op=o∧hb.x.s.op=o∧ha.x.s.id=hb.x.s.id):=by
  rcases hk with ⟨rfl,rfl⟩ | ⟨rfl,rfl⟩<;>rfl
 refine⟨fun _ _=>rfl,fun _ _=>rfl,fun W m ht=>?_,fun hn hf=>hn ⟨(hd.1 hf).1,(hd.1 hf).2.1⟩,fun W m ht hf=>?_⟩
 · refine (zeE ht.held (ht.other H.h2 H.hap)).mono ?_
   rintro e w' ⟨rfl,hb'⟩
   exact⟨_,m,rfl,ht.more hb',fun h e1 e2=>hd.2 ⟨e1,e2,of_decide_eq_true h⟩,fun h hf=>of_decide_eq_false h (hd.1 hf).2.2,qM.still ht.held hb'⟩
 · refine (zeG W A B).mono ?_
   rintro e w' ⟨rfl,rfl⟩
   exact⟨_,rfl,_,ht,Or.inr (Or.inr (Or.inl ⟨m,rfl,rfl,zh6 (by rcases hk with ⟨rfl,rfl⟩ | ⟨rfl,rfl⟩;exact Or.inl hf;exact Or.inr hf)⟩))⟩
theorem zgr (H:zdN w0 V A B ha hb):zbI w0 V A B ha hb 1 1 2 80 81:=by
 refine⟨fun _ _=>rfl,fun _ _=>rfl,fun W m ht=>?_,fun hn hf=>hn ⟨hf.1,hf.2.1⟩,fun W m ht hf=>?_⟩
 · refine (zie ht.held (ht.other H.h2 H.hap)).mono ?_
   rintro e w' ⟨rfl,hb'⟩
   exact⟨_,m,rfl,ht.more hb',fun h e1 e2=>⟨e1,e2,of_decide_eq_true h⟩,fun h hf=>of_decide_eq_false h hf.2.2,qM.still ht.held hb'⟩
 · refine (zhX W A B).mono ?_
   rintro e w' ⟨rfl,rfl⟩
   exact⟨_,rfl,_,ht,Or.inr (Or.inl ⟨m,rfl,rfl,zh5 hf⟩)⟩
theorem zgs (H:zdN w0 V A B ha hb):zbI w0 V A B ha hb 3 1 4 82 83:=by
 refine⟨fun _ _=>rfl,fun _ _=>rfl,fun W m ht=>?_,fun hn hf=>hn ⟨hf.1,hf.2.1⟩,fun W m ht hf=>?_⟩
 · refine (zb2 ht.held (ht.other H.h2 H.hap) (JQ H ht) (Qr H.hok m) H.hwf (JO H ht)).mono ?_
   rintro e w' ⟨m',rfl,ht'⟩
   exact⟨_,some m',rfl,ht.trans ht',fun h e1 e2=>⟨e1,e2,h⟩,fun h hf=>(by
    have h9:(wiT hb.x.s.id ⟨#[]⟩ ha.x.s.sub).2=false:=h
    rw[hf.2.2] at h9;cases h9),ht'⟩
 · refine (zeL ht.held (ht.other H.h2 H.hap) (JQ H ht) H.hok.few (JO H ht) ht.held.self).mono ?_
   rintro e w' ⟨ta,tc,rfl,ht'⟩
   exact⟨_,rfl,_,ht.trans ht',Or.inr (Or.inr (Or.inr ⟨m,ta,tc,rfl,rfl,zer hf m ta tc,hf.2.2⟩))⟩
end
end Go.Proofs.Ytnikgofkldkdkaa
