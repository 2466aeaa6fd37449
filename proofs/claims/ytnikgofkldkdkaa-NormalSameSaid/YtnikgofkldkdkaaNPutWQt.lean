/-
  .
-/
import Derived.Test.YtnikgofkldkdkaaNPutQt
set_option maxRecDepth 100000
set_option maxHeartbeats 40000000
namespace Go.Proofs.Ytnikgofkldkdkaa
open Go.RowKit Go.Shelf
attribute [local go_sem] Oper.semAt_some
set_option linter.unusedVariables false
set_option linter.unusedSimpArgs false
def zjD (ah be:Int)(ff sf:FuncId):Value:= .agg #[.int .i8 ah,.int .i8 be,.func (.func ff) #[] #[],.func (.func sf) #[] #[]]
theorem zjh {w0 V:World}{A B:Nat}{ha hb:HV}(H:zdN w0 V A B ha hb)(k:Nat)(hk:k<4):∃ah be ff sf,zbI w0 V A B ha hb k ah be ff sf∧∀W,(Instr.index 104 (.agg zil) (.int .i64 (k:Int))).run Try.prog W= .ok (zjD ah be ff sf) W:=by
 match k,hk with
 | 0,_=>exact⟨_,_,_,_,zby H 0 4 (Or.inl ⟨rfl,rfl⟩),fun W=>by kernel_rfl⟩
 | 1,_=>exact⟨_,_,_,_,zgr H,fun W=>by kernel_rfl⟩
 | 2,_=>exact⟨_,_,_,_,zby H 2 3 (Or.inr ⟨rfl,rfl⟩),fun W=>by kernel_rfl⟩
 | 3,_=>exact⟨_,_,_,_,zgs H,fun W=>by kernel_rfl⟩
def zgR (w0 V:World)(A:Nat)(ha hb:HV)(k:Nat)(W:World):Prop:=(∃m,qM w0 A ha (ha.yg m) V W)∧∀j,j<k→¬ZB j ha hb
theorem zdh {w0 V:World}{A B:Nat}{ha hb:HV}(H:zdN w0 V A B ha hb):Calls Try.prog 34 #[yJ A,yJ B] V (zjS w0 A B ha hb V):=by
 have HH:=hH H
 clear H
 simp only[yJ]
 go_enter Try.func34,Try.ntmps34
 go_wp2_with (go_at_call 50;refine (zgt _).mono ?_;rintro e V1 ⟨rfl,hb1⟩)
 have hI0:Hid (zgR w0 V A ha hb 0 V1):=hH ⟨⟨ha.m,by rw[zeP];exact qM.still HH.out.h1 hb1⟩,fun j h=>by omega⟩
 clear hb1
 go_loopw [9] (fun i wr=>∃k:Nat,k≤4∧i= .int .i64 (k:Int)∧Hid (zgR w0 V A ha hb k wr)) (fun i _=>4 - (intOf i).toNat)
 case atStart=>exact⟨0,by omega,rfl,hI0⟩
 case round =>
  obtain⟨k,hk,rfl,hh⟩:=hrel
  clear hI0
  obtain⟨wo,hwo⟩:∃wo,wo=wr:=⟨_,rfl⟩
  subst hwo
  by_cases hlt:k<4
  · have hki :(k:Int)<4:=by omega
    obtain⟨ah,be,ff,sf,hR,hidx⟩:=zjh HH.out k hlt
    obtain⟨⟨m,ht⟩,hno⟩:=hh.out
    obtain⟨a0,_⟩:=ht.held.box
    have hB2:=ht.other HH.out.h2 HH.out.hap
    obtain⟨b0,_⟩:=hB2.box
    obtain⟨aop,haop⟩:∃aop,aop=ha.x.s.op:=⟨_,rfl⟩
    obtain⟨bop,hbop⟩:∃bop,bop=hb.x.s.op:=⟨_,rfl⟩
    have a0' :wo.cell? ⟨A,0,none⟩=some (.int .i8 aop):=by rw[haop];exact a0
    rw[←hbop] at b0
    have HT:=hH (aN hR (aN ht (aN hno (aN haop hbop))))
    have hAl:=lohQ ht.held.cells
    have hBl:=lohQ hB2.cells
    simp only[zjD] at hidx
    clear hR ht hno a0 haop hbop hB2 hh
    have HT2:=hH (aN hAl hBl)
    obtain⟨U,hU⟩:∃U,U=wo.alloc (.cells #[.int .i8 ah,.int .i8 be,.func (.func ff) #[] #[],.func (.func sf) #[] #[]] 103):=⟨_,rfl⟩
    have hUk:∀q,q<wo.heap.size→U.heap[q]? =wo.heap[q]?:=fun q hq=>by rw[hU];exact BhaQ _ _ _ hq
    have hUn:U.heap[wo.heap.size]? =some (.cells #[.int .i8 ah,.int .i8 be,.func (.func ff) #[] #[],.func (.func sf) #[] #[]] 103 (0,0)):=by rw[hU];exact hanQ _ _
    have hUb:Below wo.heap.size wo U:=by rw[hU];exact (BrQ _ _).alloc (NlrQ _) _
    have HU:=hH hU
    have HUB:=hH (aN hUb hUn)
    have u0:U.cell? ⟨A,0,none⟩=some (.int .i8 aop):=(World.cell?_of_block (a:=⟨A,0,none⟩) (hUk A hAl)).trans a0'
    have v0:U.cell? ⟨B,0,none⟩=some (.int .i8 bop):=(World.cell?_of_block (a:=⟨B,0,none⟩) (hUk B hBl)).trans b0
    obtain⟨r0,r1,r2,r3⟩:=zH hUn
    have HKN:=hH (aN hk hlt)
    have hkw:IntKind.i64.wrap ((k:Int)+1)=(k:Int)+1:=IntWalk.i64_in _ om
    have HT2:=hH (aN hAl hBl)
    obtain⟨U,hU⟩:∃U,U=wo.alloc (.cells #[.int .i8 ah,.int .i8 be,.func (.func ff) #[] #[],.func (.func sf) #[] #[]] 103):=⟨_,rfl⟩
    have hUk:∀q,q<wo.heap.size→U.heap[q]? =wo.heap[q]?:=fun q hq=>by rw[hU];exact BhaQ _ _ _ hq
    have hUn:U.heap[wo.heap.size]? =some (.cells #[.int .i8 ah,.int .i8 be,.func (.func ff) #[] #[],.func (.func sf) #[] #[]] 103 (0,0)):=by rw[hU];exact hanQ _ _
    have hUb:Below wo.heap.size wo U:=by rw[hU];exact (BrQ _ _).alloc (NlrQ _) _
    have HU:=hH hU
    have HUB:=hH (aN hUb hUn)
    have u0:U.cell? ⟨A,0,none⟩=some (.int .i8 aop):=(World.cell?_of_block (a:=⟨A,0,none⟩) (hUk A hAl)).trans a0'
    have v0:U.cell? ⟨B,0,none⟩=some (.int .i8 bop):=(World.cell?_of_block (a:=⟨B,0,none⟩) (hUk B hBl)).trans b0
    obtain⟨r0,r1,r2,r3⟩:=zH hUn
    have HKN:=hH (aN hk hlt)
    have hkw:IntKind.i64.wrap ((k:Int)+1)=(k:Int)+1:=IntWalk.i64_in _ om
    go_upto_region 4 with fail
    rw[←HU.out]
    clear HU hUk hUn hUb hU a0' b0 hAl hBl hidx
    by_cases e1:aop=ah
    · by_cases e2:bop=be
      · obtain⟨hR,ht,hno,haop,hbop⟩:=HT.out
        have hfit:=hR.fit U.drew _ (ht.more (W':=U.drew) ⟨HUB.out.1.os,HUB.out.1.tape,HUB.out.1.output,HUB.out.1.size,HUB.out.1.block⟩)
        subst e1 e2
        obtain⟨SW,hSW⟩:∃SW:World→Prop,SW=fun Z=>Z.cell? ⟨A,0,none⟩=some (.int .i8 aop)∧Z.cell? ⟨B,0,none⟩=some (.int .i8 bop)∧Z.cell? ⟨wo.heap.size,0,none⟩=some (.int .i8 aop)∧Z.cell? ⟨wo.heap.size,1,none⟩=some (.int .i8 bop)∧Z.cell? ⟨wo.heap.size,2,none⟩=some (.func (.func ff) #[] #[]):=⟨_,rfl⟩
        have HSW:=hH (fun (Z:World) (h:SW Z)=>(show Z.cell? ⟨A,0,none⟩=some (.int .i8 aop)∧Z.cell? ⟨B,0,none⟩=some (.int .i8 bop)∧Z.cell? ⟨wo.heap.size,0,none⟩=some (.int .i8 aop)∧Z.cell? ⟨wo.heap.size,1,none⟩=some (.int .i8 bop)∧Z.cell? ⟨wo.heap.size,2,none⟩=some (.func (.func ff) #[] #[]) by rw[hSW] at h;exact h))
        have hS0:SW U.drew:=by rw[hSW];exact⟨u0,v0,r0,r1,r2⟩
        have hSt:∀(W:World) (m' :Option Nat),qM w0 A ha (ha.yg m') V W→qM w0 A (ha.yg m) (ha.yg m') U.drew W→SW W∧W.cell? ⟨wo.heap.size,3,none⟩=some (.func (.func sf) #[] #[]):=fun W m' h3 h4=>by
         have hb3:=(h3.other HH.out.h2 HH.out.hap).box.1
         have ha3:=h3.held.box.1
         have hnw:¬(ha.yg m).own A wo.heap.size:=fun e=>by
          have:=(ht.held.lt _ e).2
          omega
         have hre:W.heap[wo.heap.size]? =U.heap[wo.heap.size]?:=h4.turned.block _ (lohQ HUB.out.2) hnw
         obtain⟨s0,s1,s2,s3⟩:=zH (hre.trans HUB.out.2)
         rw[hSW]
         exact⟨⟨by rw[haop];exact ha3,by rw[hbop];exact hb3,s0,s1,s2⟩,s3⟩
        have HC:=hH (aN hfit hSt)
        have hent:=hR.enter
        have hent2:=hR.zj1
        have HRR:=hH hR
        simp only[yJ] at HC
        clear hR ht hno haop hbop hfit hSt hSW
        refine jv ?_
        refine wrhQ (S:=SW) kr1 hS0 (fun uH=>?_)
        clear hS0 u0 v0 r0 r1 r2 r3
        refine wpAnyH_take (i:=0) (oi:=_) (v:= .pointer (some ⟨A,0,none⟩)) rfl kr1 kr1 kr1 (fun _ _ _ h=>by cases h.1) (Or.inl ⟨by rfl,?_⟩) ue7 ?_
        · exact ub5
        simp only[Act.put,pg]
        refine wpAnyH_take (i:=1) (oi:=_) (v:= .pointer (some ⟨A,0,none⟩)) rfl kr1 kr1 kr1 (fun _ _ _ h=>by cases h.1) (Or.inl ⟨by rfl,?_⟩) ue7 ?_
        · exact ub5
        simp only[Act.put,pg]
        refine wpAnyH_take (i:=2) (oi:=_) (v:= .pointer (some ⟨A,0,none⟩)) rfl kr1 kr1 kr1 (fun _ _ _ h=>by cases h.1) (Or.inl ⟨by rfl,?_⟩) ue7 ?_
        · exact ub5
        simp only[Act.put,pg]
        refine wpAnyH_take (i:=3) (oi:=_) (v:= .pointer (some ⟨A,0,none⟩)) rfl kr1 kr1 kr1 (fun _ _ _ h=>by cases h.1) (Or.inl ⟨by rfl,?_⟩) ue7 ?_
        · exact ub5
        simp only[Act.put,pg]
        refine wpAnyH_take (i:=4) (oi:=_) (v:= .int .i8 aop) rfl kr1 kr1 kr1 (fun _ _ _ h=>by cases h.1) (Or.inl ⟨by rfl,?_⟩) ue7 ?_
        · exact ub5
        simp only[Act.put,pg]
        refine wpAnyH_take (i:=5) (oi:=_) (v:= .pointer (some ⟨wo.heap.size,0,none⟩)) rfl kr1 kr1 kr1 (fun _ _ _ h=>by cases h.1) (Or.inl ⟨by rfl,?_⟩) ue7 ?_
        · exact ub5
        simp only[Act.put,pg]
        refine wpAnyH_take (i:=6) (oi:=_) (v:= .int .i8 aop) rfl kr1 kr1 kr1 (fun _ _ _ h=>by cases h.1) (Or.inl ⟨by rfl,?_⟩) ue7 ?_
        · exact ub5
        simp only[Act.put,pg]
        refine wpAnyH_take (i:=7) (oi:=_) (v:= .bool true) rfl kr1 kr1 kr1 (fun _ _ _ h=>by cases h.1) (Or.inl ⟨by rfl,?_⟩) ue7 ?_
        · exact ub5
        simp only[Act.put,pg]
        refine wpAnyH_take (i:=8) (oi:=_) (v:= .bool true) rfl kr1 kr1 kr1 (fun _ _ _ h=>by cases h.1) (Or.inl ⟨by rfl,?_⟩) ue7 ?_
        · exact ub5
        simp only[Act.put,pg]
        refine wpAnyH_take (i:=9) (oi:=_) (v:= .pointer (some ⟨B,0,none⟩)) rfl kr1 kr1 kr1 (fun _ _ _ h=>by cases h.1) (Or.inl ⟨by rfl,?_⟩) ue7 ?_
        · exact ub5
        simp only[Act.put,pg]
        refine wpAnyH_take (i:=10) (oi:=_) (v:= .pointer (some ⟨B,0,none⟩)) rfl kr1 kr1 kr1 (fun _ _ _ h=>by cases h.1) (Or.inl ⟨by rfl,?_⟩) ue7 ?_
        · exact ub5
        simp only[Act.put,pg]
        refine wpAnyH_take (i:=11) (oi:=_) (v:= .pointer (some ⟨B,0,none⟩)) rfl kr1 kr1 kr1 (fun _ _ _ h=>by cases h.1) (Or.inl ⟨by rfl,?_⟩) ue7 ?_
        · exact ub5
        simp only[Act.put,pg]
        refine wpAnyH_take (i:=12) (oi:=_) (v:= .pointer (some ⟨B,0,none⟩)) rfl kr1 kr1 kr1 (fun _ _ _ h=>by cases h.1) (Or.inl ⟨by rfl,?_⟩) ue7 ?_
        · exact ub5
        simp only[Act.put,pg]
        refine wpAnyH_take (i:=13) (oi:=_) (v:= .int .i8 bop) rfl kr1 kr1 kr1 (fun _ _ _ h=>by cases h.1) (Or.inl ⟨by rfl,?_⟩) ue7 ?_
        · exact ub5
        simp only[Act.put,pg]
        refine wpAnyH_take (i:=14) (oi:=_) (v:= .pointer (some ⟨wo.heap.size,1,none⟩)) rfl kr1 kr1 kr1 (fun _ _ _ h=>by cases h.1) (Or.inl ⟨by rfl,?_⟩) ue7 ?_
        · exact ub5
        simp only[Act.put,pg]
        refine wpAnyH_take (i:=15) (oi:=_) (v:= .int .i8 bop) rfl kr1 kr1 kr1 (fun _ _ _ h=>by cases h.1) (Or.inl ⟨by rfl,?_⟩) ue7 ?_
        · exact ub5
        simp only[Act.put,pg]
        refine wpAnyH_take (i:=16) (oi:=_) (v:= .bool true) rfl kr1 kr1 kr1 (fun _ _ _ h=>by cases h.1) (Or.inl ⟨by rfl,?_⟩) ue7 ?_
        · exact ub5
        simp only[Act.put,pg]
        refine wpAnyH_take (i:=17) (oi:=_) (v:= .bool true) rfl kr1 kr1 kr1 (fun _ _ _ h=>by cases h.1) (Or.inl ⟨by rfl,?_⟩) ue7 ?_
        · exact ub5
        simp only[Act.put,pg]
        refine wpAnyH_take (i:=18) (oi:=_) (v:= .bool true) rfl kr1 kr1 kr1 (fun _ _ _ h=>by cases h.1) (Or.inl ⟨by rfl,?_⟩) ue7 ?_
        · exact ub5
        simp only[Act.put,pg]
        refine wpAnyH_take (i:=19) (oi:=_) (v:= .pointer (some ⟨wo.heap.size,2,none⟩)) rfl kr1 kr1 kr1 (fun _ _ _ h=>by cases h.1) (Or.inl ⟨by rfl,?_⟩) ue7 ?_
        · exact ub5
        simp only[Act.put,pg]
        refine wpAnyH_take (i:=20) (oi:=_) (v:= .func (.func ff) #[] #[]) rfl kr1 kr1 kr1 (fun _ _ _ h=>by cases h.1) (Or.inl ⟨by rfl,?_⟩) ue7 ?_
        · exact ub5
        simp only[Act.put,pg]
        refine wpAnyH_take (i:=21) (oi:=_) (v:= .pointer (some ⟨A,0,none⟩)) rfl kr1 kr1 kr1 (fun _ _ _ h=>by cases h.1) (Or.inl ⟨by rfl,?_⟩) ue7 ?_
        · exact ub5
        simp only[Act.put,pg]
        refine wpAnyH_take (i:=22) (oi:=_) (v:= .pointer (some ⟨B,0,none⟩)) rfl kr1 kr1 kr1 (fun _ _ _ h=>by cases h.1) (Or.inl ⟨by rfl,?_⟩) ue7 ?_
        · exact ub5
        simp only[Act.put,pg]
        refine rd [23] ?_
        refine AcQ (o:=_) rfl (fun K hK=>?_) (AnQ)
        rw[ipQ uf0]
        simp only[pg3]
        have HK:=hH hK
        clear hK uH
        go_wp2_with fail
        refine HC.out.1.mono ?_
        rintro e W ⟨b,m',rfl,ht,hyes,hnot,ht2⟩
        obtain⟨hS1,w3⟩:=HC.out.2 W m' ht ht2
        have HY:=hH (aN ht (aN hyes hnot))
        clear ht hyes hnot ht2
        refine HK.out _ _ hS1 (fun uH=>?_)
        clear HK hS1
        refine wpAnyH_take (i:=24) (oi:=_) (v:= .bool b) rfl kr1 kr1 kr1 (fun _ _ _ h=>by cases h.1) (Or.inl ⟨by rfl,?_⟩) ue7 ?_
        · clear uH;intro X hSw;clear hSw;go_simp
        simp only[Act.put,pg]
        refine wpAnyH_done kr1 ?_ _
        refine⟨rfl,?_⟩
        clear uH HC
        cases b with
        | true=>
          have hf:=HY.out.2.1 rfl HT.out.2.2.2.1.symm HT.out.2.2.2.2.symm
          have hst:=HRR.out.stay W m' HY.out.1 hf
          simp only[yJ] at hst
          clear hf
          go_wp2_with fail
          refine hst.mono ?_
          rintro e W2 ⟨v,rfl,hp⟩
          have HP:=hH hp
          clear hp hst w3
          go_wp2_with fail
          go_ret2
          exact HP.out
        | false=>
          have hnx:Hid (zgR w0 V A ha hb (k+1) W):=hH ⟨⟨m',HY.out.1⟩,fun j hj=>by
           by_cases hjk:j=k
           · rw[hjk];exact HY.out.2.2 rfl
           · exact HT.out.2.2.1 j om⟩
          clear w3
          go_wp2_with fail
          exact⟨⟨k+1,by have:=HKN.out;omega,by go_num,hnx⟩,by have:=HKN.out;simp[intOf];omega⟩
      · have hnx:Hid (zgR w0 V A ha hb (k+1) U.drew):=hH ⟨⟨m,HT.out.2.1.more (HUB.out.1.trans ((kD U 1).mono HUB.out.1.size))⟩,fun j hj=>by
         by_cases hjk:j=k
         · rw[hjk];exact HT.out.1.no (fun h=>e2 (by rw[HT.out.2.2.2.2];exact h.2))
         · exact HT.out.2.2.1 j om⟩
        have d1:decide (aop=ah)=true:=decide_eq_true e1
        have d2:decide (bop=be)=false:=decide_eq_false e2
        clear r2 r3
        obtain⟨SW,hSW⟩:∃SW:World→Prop,SW=fun Z=>Z.cell? ⟨A,0,none⟩=some (.int .i8 aop)∧Z.cell? ⟨B,0,none⟩=some (.int .i8 bop)∧Z.cell? ⟨wo.heap.size,0,none⟩=some (.int .i8 ah)∧Z.cell? ⟨wo.heap.size,1,none⟩=some (.int .i8 be):=⟨_,rfl⟩
        have HSW:=hH (fun (Z:World) (h:SW Z)=>(show Z.cell? ⟨A,0,none⟩=some (.int .i8 aop)∧Z.cell? ⟨B,0,none⟩=some (.int .i8 bop)∧Z.cell? ⟨wo.heap.size,0,none⟩=some (.int .i8 ah)∧Z.cell? ⟨wo.heap.size,1,none⟩=some (.int .i8 be) by rw[hSW] at h;exact h))
        have hS0:SW U.drew:=by rw[hSW];exact⟨u0,v0,r0,r1⟩
        refine jv ?_
        refine wrhQ (S:=SW) kr1 hS0 (fun uH=>?_)
        clear hS0 u0 v0 r0 r1 hSW
        refine wpAnyH_take (i:=0) (oi:=_) (v:= .pointer (some ⟨A,0,none⟩)) rfl kr1 kr1 kr1 (fun _ _ _ h=>by cases h.1) (Or.inl ⟨by rfl,?_⟩) ue7 ?_
        · exact ub6
        simp only[Act.put,pg]
        refine wpAnyH_take (i:=1) (oi:=_) (v:= .pointer (some ⟨A,0,none⟩)) rfl kr1 kr1 kr1 (fun _ _ _ h=>by cases h.1) (Or.inl ⟨by rfl,?_⟩) ue7 ?_
        · exact ub6
        simp only[Act.put,pg]
        refine wpAnyH_take (i:=2) (oi:=_) (v:= .pointer (some ⟨A,0,none⟩)) rfl kr1 kr1 kr1 (fun _ _ _ h=>by cases h.1) (Or.inl ⟨by rfl,?_⟩) ue7 ?_
        · exact ub6
        simp only[Act.put,pg]
        refine wpAnyH_take (i:=3) (oi:=_) (v:= .pointer (some ⟨A,0,none⟩)) rfl kr1 kr1 kr1 (fun _ _ _ h=>by cases h.1) (Or.inl ⟨by rfl,?_⟩) ue7 ?_
        · exact ub6
        simp only[Act.put,pg]
        refine wpAnyH_take (i:=4) (oi:=_) (v:= .int .i8 aop) rfl kr1 kr1 kr1 (fun _ _ _ h=>by cases h.1) (Or.inl ⟨by rfl,?_⟩) ue7 ?_
        · exact ub6
        simp only[Act.put,pg]
        refine wpAnyH_take (i:=5) (oi:=_) (v:= .pointer (some ⟨wo.heap.size,0,none⟩)) rfl kr1 kr1 kr1 (fun _ _ _ h=>by cases h.1) (Or.inl ⟨by rfl,?_⟩) ue7 ?_
        · exact ub6
        simp only[Act.put,pg]
        refine wpAnyH_take (i:=6) (oi:=_) (v:= .int .i8 ah) rfl kr1 kr1 kr1 (fun _ _ _ h=>by cases h.1) (Or.inl ⟨by rfl,?_⟩) ue7 ?_
        · exact ub6
        simp only[Act.put,pg]
        refine wpAnyH_take (i:=7) (oi:=_) (v:= .bool true) rfl kr1 kr1 kr1 (fun _ _ _ h=>by cases h.1) (Or.inl ⟨by rfl,?_⟩) ue7 ?_
        · exact ub6
        simp only[Act.put,pg]
        refine wpAnyH_take (i:=8) (oi:=_) (v:= .bool true) rfl kr1 kr1 kr1 (fun _ _ _ h=>by cases h.1) (Or.inl ⟨by rfl,?_⟩) ue7 ?_
        · exact ub6
        simp only[Act.put,pg]
        refine wpAnyH_take (i:=9) (oi:=_) (v:= .pointer (some ⟨B,0,none⟩)) rfl kr1 kr1 kr1 (fun _ _ _ h=>by cases h.1) (Or.inl ⟨by rfl,?_⟩) ue7 ?_
        · exact ub6
        simp only[Act.put,pg]
        refine wpAnyH_take (i:=10) (oi:=_) (v:= .pointer (some ⟨B,0,none⟩)) rfl kr1 kr1 kr1 (fun _ _ _ h=>by cases h.1) (Or.inl ⟨by rfl,?_⟩) ue7 ?_
        · exact ub6
        simp only[Act.put,pg]
        refine wpAnyH_take (i:=11) (oi:=_) (v:= .pointer (some ⟨B,0,none⟩)) rfl kr1 kr1 kr1 (fun _ _ _ h=>by cases h.1) (Or.inl ⟨by rfl,?_⟩) ue7 ?_
        · exact ub6
        simp only[Act.put,pg]
        refine wpAnyH_take (i:=12) (oi:=_) (v:= .pointer (some ⟨B,0,none⟩)) rfl kr1 kr1 kr1 (fun _ _ _ h=>by cases h.1) (Or.inl ⟨by rfl,?_⟩) ue7 ?_
        · exact ub6
        simp only[Act.put,pg]
        refine wpAnyH_take (i:=13) (oi:=_) (v:= .int .i8 bop) rfl kr1 kr1 kr1 (fun _ _ _ h=>by cases h.1) (Or.inl ⟨by rfl,?_⟩) ue7 ?_
        · exact ub6
        simp only[Act.put,pg]
        refine wpAnyH_take (i:=14) (oi:=_) (v:= .pointer (some ⟨wo.heap.size,1,none⟩)) rfl kr1 kr1 kr1 (fun _ _ _ h=>by cases h.1) (Or.inl ⟨by rfl,?_⟩) ue7 ?_
        · exact ub6
        simp only[Act.put,pg]
        refine wpAnyH_take (i:=15) (oi:=_) (v:= .int .i8 be) rfl kr1 kr1 kr1 (fun _ _ _ h=>by cases h.1) (Or.inl ⟨by rfl,?_⟩) ue7 ?_
        · exact ub6
        simp only[Act.put,pg]
        refine wpAnyH_take (i:=16) (oi:=_) (v:= .bool false) rfl kr1 kr1 kr1 (fun _ _ _ h=>by cases h.1) (Or.inl ⟨by rfl,?_⟩) ue7 ?_
        · exact ub6
        exact sa9
    · have hnx:Hid (zgR w0 V A ha hb (k+1) U.drew):=hH ⟨⟨m,HT.out.2.1.more (HUB.out.1.trans ((kD U 1).mono HUB.out.1.size))⟩,fun j hj=>by
       by_cases hjk:j=k
       · rw[hjk];exact HT.out.1.no (fun h=>e1 (by rw[HT.out.2.2.2.1];exact h.1))
       · exact HT.out.2.2.1 j om⟩
      have d1:decide (aop=ah)=false:=decide_eq_false e1
      clear r2 r3
      obtain⟨SW,hSW⟩:∃SW:World→Prop,SW=fun Z=>Z.cell? ⟨A,0,none⟩=some (.int .i8 aop)∧Z.cell? ⟨B,0,none⟩=some (.int .i8 bop)∧Z.cell? ⟨wo.heap.size,0,none⟩=some (.int .i8 ah)∧Z.cell? ⟨wo.heap.size,1,none⟩=some (.int .i8 be):=⟨_,rfl⟩
      have HSW:=hH (fun (Z:World) (h:SW Z)=>(show Z.cell? ⟨A,0,none⟩=some (.int .i8 aop)∧Z.cell? ⟨B,0,none⟩=some (.int .i8 bop)∧Z.cell? ⟨wo.heap.size,0,none⟩=some (.int .i8 ah)∧Z.cell? ⟨wo.heap.size,1,none⟩=some (.int .i8 be) by rw[hSW] at h;exact h))
      have hS0:SW U.drew:=by rw[hSW];exact⟨u0,v0,r0,r1⟩
      refine jv ?_
      refine wrhQ (S:=SW) kr1 hS0 (fun uH=>?_)
      clear hS0 u0 v0 r0 r1 hSW
      refine wpAnyH_take (i:=0) (oi:=_) (v:= .pointer (some ⟨A,0,none⟩)) rfl kr1 kr1 kr1 (fun _ _ _ h=>by cases h.1) (Or.inl ⟨by rfl,?_⟩) ue7 ?_
      · exact ub6
      simp only[Act.put,pg]
      refine wpAnyH_take (i:=1) (oi:=_) (v:= .pointer (some ⟨A,0,none⟩)) rfl kr1 kr1 kr1 (fun _ _ _ h=>by cases h.1) (Or.inl ⟨by rfl,?_⟩) ue7 ?_
      · exact ub6
      simp only[Act.put,pg]
      refine wpAnyH_take (i:=2) (oi:=_) (v:= .pointer (some ⟨A,0,none⟩)) rfl kr1 kr1 kr1 (fun _ _ _ h=>by cases h.1) (Or.inl ⟨by rfl,?_⟩) ue7 ?_
      · exact ub6
      simp only[Act.put,pg]
      refine wpAnyH_take (i:=3) (oi:=_) (v:= .pointer (some ⟨A,0,none⟩)) rfl kr1 kr1 kr1 (fun _ _ _ h=>by cases h.1) (Or.inl ⟨by rfl,?_⟩) ue7 ?_
      · exact ub6
      simp only[Act.put,pg]
      refine wpAnyH_take (i:=4) (oi:=_) (v:= .int .i8 aop) rfl kr1 kr1 kr1 (fun _ _ _ h=>by cases h.1) (Or.inl ⟨by rfl,?_⟩) ue7 ?_
      · exact ub6
      simp only[Act.put,pg]
      refine wpAnyH_take (i:=5) (oi:=_) (v:= .pointer (some ⟨wo.heap.size,0,none⟩)) rfl kr1 kr1 kr1 (fun _ _ _ h=>by cases h.1) (Or.inl ⟨by rfl,?_⟩) ue7 ?_
      · exact ub6
      simp only[Act.put,pg]
      refine wpAnyH_take (i:=6) (oi:=_) (v:= .int .i8 ah) rfl kr1 kr1 kr1 (fun _ _ _ h=>by cases h.1) (Or.inl ⟨by rfl,?_⟩) ue7 ?_
      · exact ub6
      simp only[Act.put,pg]
      refine wpAnyH_take (i:=7) (oi:=_) (v:= .bool false) rfl kr1 kr1 kr1 (fun _ _ _ h=>by cases h.1) (Or.inl ⟨by rfl,?_⟩) ue7 ?_
      · exact ub6
      simp only[Act.put,pg]
      refine wpAnyH_take (i:=8) (oi:=_) (v:= .bool false) rfl kr1 kr1 kr1 (fun _ _ _ h=>by cases h.1) (Or.inl ⟨by rfl,?_⟩) ue7 ?_
      · exact ub6
      simp only[Act.put,pg]
      refine wpAnyH_take (i:=9) (oi:=_) (v:=undef) rfl kr1 kr1 kr1 (fun _ _ _ h=>by cases h.1) (Or.inr ⟨by rfl,rfl⟩) ue7 ?_
      simp only[Act.put,pg]
      refine wpAnyH_take (i:=10) (oi:=_) (v:=undef) rfl kr1 kr1 kr1 (fun _ _ _ h=>by cases h.1) (Or.inr ⟨by rfl,rfl⟩) ue7 ?_
      simp only[Act.put,pg]
      refine wpAnyH_take (i:=11) (oi:=_) (v:=undef) rfl kr1 kr1 kr1 (fun _ _ _ h=>by cases h.1) (Or.inr ⟨by rfl,rfl⟩) ue7 ?_
      simp only[Act.put,pg]
      refine wpAnyH_take (i:=12) (oi:=_) (v:=undef) rfl kr1 kr1 kr1 (fun _ _ _ h=>by cases h.1) (Or.inr ⟨by rfl,rfl⟩) ue7 ?_
      simp only[Act.put,pg]
      refine wpAnyH_take (i:=13) (oi:=_) (v:=undef) rfl kr1 kr1 kr1 (fun _ _ _ h=>by cases h.1) (Or.inr ⟨by rfl,rfl⟩) ue7 ?_
      simp only[Act.put,pg]
      refine wpAnyH_take (i:=14) (oi:=_) (v:=undef) rfl kr1 kr1 kr1 (fun _ _ _ h=>by cases h.1) (Or.inr ⟨by rfl,rfl⟩) ue7 ?_
      simp only[Act.put,pg]
      refine wpAnyH_take (i:=15) (oi:=_) (v:=undef) rfl kr1 kr1 kr1 (fun _ _ _ h=>by cases h.1) (Or.inr ⟨by rfl,rfl⟩) ue7 ?_
      simp only[Act.put,pg]
      refine wpAnyH_take (i:=16) (oi:=_) (v:=undef) rfl kr1 kr1 kr1 (fun _ _ _ h=>by cases h.1) (Or.inr ⟨by rfl,rfl⟩) ue7 ?_
      exact sa9
  · have hki:¬(k:Int)<4:=by omega
    have hk4:k=4:=by omega
    obtain⟨⟨m,ht⟩,hno⟩:=hh.out
    rw[hk4] at hno
    have HE:Hid (zjS w0 A B ha hb V (.returned (.tuple #[.pointer none,.bool false])) wo):=hH ⟨_,ht,Or.inl ⟨m,rfl,rfl,zf8 hno⟩⟩
    clear hh ht hno hk4 hlt hk
    go_wp2_with fail
    go_ret2
    exact HE.out
end Go.Proofs.Ytnikgofkldkdkaa
