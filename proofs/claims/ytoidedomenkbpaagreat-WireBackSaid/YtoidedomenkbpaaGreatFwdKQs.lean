/-
  .
-/
import Derived.Test.YtoidedomenkbpaaGreatInvYQs
set_option maxRecDepth 100000
set_option maxHeartbeats 40000000
namespace Go.Proofs.YtoidedomenkbpaaGreat
open Go.RowKit Go.Shelf
open Extern.Stop (cell)
set_option linter.unusedVariables false
set_option linter.unusedSimpArgs false
theorem zeu {s:Rd}{n:Int}{rest:List UInt8}(hb:s.bad=false)(hd:s.data.drop s.pos=zq n++rest)(hn:zP n):s.number=(n,{ s with pos:=s.pos+8 })∧s.data.drop (s.pos+8)=rest:=by
 obtain⟨h1,h2,h3⟩:=Zh hd hn
 unfold jW at h1
 rw[ipQ h3] at h1
 have h4:numOf ((s.data.drop s.pos).take 8)=n:=by
  injection h1 with h1
  injection h1
 refine⟨?_,h2⟩
 unfold Rd.number
 rw[inQ (by rw[hb];decide),ipQ h3]
 show (s.num,_)=_
 unfold Rd.num
 rw[h4]
theorem zax (s:Rd):∀j,rdN s (j+1)=rdN s.number.2 j
 | 0=>rfl
 | j+1=>by rw[rdN,zax s j];rfl
theorem vQ:∀(ns:List Int) (s:Rd) (rest:List UInt8),s.bad=false→s.data.drop s.pos=ns.flatMap zq++rest→(∀n∈ns,zP n)→
 (∀j n,ns[j]? =some n→zo s j=n)∧rdN s ns.length= { s with pos:=s.pos+8*ns.length }∧s.data.drop (s.pos+8*ns.length)=rest
 | [],s,rest,hb,hd,hn=>⟨fun j n h=>by simp at h,rfl,by simpa using hd⟩
 | n :: ns,s,rest,hb,hd,hn=>by
   rw[List.flatMap_cons,List.append_assoc] at hd
   obtain⟨h1,h2⟩:=zeu hb hd (hn n sp)
   obtain⟨a1,a2,a3⟩:=vQ ns { s with pos:=s.pos+8 } rest hb h2 (fun x hx=>hn x (by simp[hx]))
   have e:s.number.2= { s with pos:=s.pos+8 }:=by rw[h1]
   refine⟨fun j x hj=>?_,?_,?_⟩
   · cases j with
     | zero=>
       simp at hj
       subst hj
       show s.number.1=_
       rw[h1]
     | succ j=>
       have:=a1 j x (by simpa using hj)
       unfold zo at this ⊢
       rw[zax,e];exact this
   · rw[LlcQ,zax,e,a2]
     simp only[Rd.mk.injEq,and_true,true_and]
     omega
   · rw[LlcQ,show s.pos+8*(ns.length+1)=s.pos+8+8*ns.length by omega];exact a3
theorem zbL {s:Rd}{l:List Stp}(hb:s.bad=false)(hd:s.data.drop s.pos=zq (l.length:Int)++qd l)(hin:∀x∈l,x.Qt)(hg:∀x∈l,x.sub.good)(hl:l.length≤60):s.steps=(l.map nS,{ s with pos:=s.pos+8+(qd l).length }):=by
 have h:=(zeB hin hl (show s.data.drop s.pos=zq (l.length:Int)++(qd l++[]) by rw[List.append_nil];exact hd)).1 hg
 unfold Rd.steps
 rw[inQ (by rw[hb];decide),h]
theorem zdQ {s:Rd}{t:Tr}(hb:s.bad=false)(hd:s.data.drop s.pos=qa t)(hin:t.Qt)(hg:t.good):s.tree=(nT t,{ s with pos:=s.pos+(qa t).length }):=by
 have h:=(zbC hin (show s.data.drop s.pos=qa t++[] by rw[List.append_nil];exact hd)).1 hg
 unfold Rd.tree
 rw[inQ (by rw[hb];decide),h]
theorem jb {e:Rd}(hb:e.bad=false)(hp:e.data.length≤e.pos):e.yR= .tuple #[.int .i64 0,.int .i64 0]:=by
 unfold Rd.yR
 rw[inQ (by rw[hb];simp;omega)]
theorem zly (a1 a2 a3 a4 a5 a6 a7 a8 a9 a10:Int)(sa ar:Option Addr)(an ac am ad:Nat)(vs:List SV)(t:Tr)(h1:zP a1)(h2:zP a2)(h4:zP a4):
 ((zb 1 (⟨qZ a1 a2 a3 a4 a5 a6 a7 a8 a9 a10 sa ar an ac am ad vs t,1,false⟩:Rd)).n1=a1∧(zb 1 (⟨qZ a1 a2 a3 a4 a5 a6 a7 a8 a9 a10 sa ar an ac am ad vs t,1,false⟩:Rd)).n2=a2∧(zb 1 (⟨qZ a1 a2 a3 a4 a5 a6 a7 a8 a9 a10 sa ar an ac am ad vs t,1,false⟩:Rd)).n3=0∧(zb 1 (⟨qZ a1 a2 a3 a4 a5 a6 a7 a8 a9 a10 sa ar an ac am ad vs t,1,false⟩:Rd)).n4=a4∧(zb 1 (⟨qZ a1 a2 a3 a4 a5 a6 a7 a8 a9 a10 sa ar an ac am ad vs t,1,false⟩:Rd)).n5=0∧(zb 1 (⟨qZ a1 a2 a3 a4 a5 a6 a7 a8 a9 a10 sa ar an ac am ad vs t,1,false⟩:Rd)).n6=0∧(zb 1 (⟨qZ a1 a2 a3 a4 a5 a6 a7 a8 a9 a10 sa ar an ac am ad vs t,1,false⟩:Rd)).n7=0∧(zb 1 (⟨qZ a1 a2 a3 a4 a5 a6 a7 a8 a9 a10 sa ar an ac am ad vs t,1,false⟩:Rd)).n8=0∧(zb 1 (⟨qZ a1 a2 a3 a4 a5 a6 a7 a8 a9 a10 sa ar an ac am ad vs t,1,false⟩:Rd)).n9=0∧(zb 1 (⟨qZ a1 a2 a3 a4 a5 a6 a7 a8 a9 a10 sa ar an ac am ad vs t,1,false⟩:Rd)).n10=0)∧(zb 1 (⟨qZ a1 a2 a3 a4 a5 a6 a7 a8 a9 a10 sa ar an ac am ad vs t,1,false⟩:Rd)).l= []∧(zb 1 (⟨qZ a1 a2 a3 a4 a5 a6 a7 a8 a9 a10 sa ar an ac am ad vs t,1,false⟩:Rd)).t=yM∧(zb 1 (⟨qZ a1 a2 a3 a4 a5 a6 a7 a8 a9 a10 sa ar an ac am ad vs t,1,false⟩:Rd)).e.yR= .tuple #[.int .i64 0,.int .i64 0]:=by
 obtain⟨S,hS⟩:∃S:Rd,S=(⟨qZ a1 a2 a3 a4 a5 a6 a7 a8 a9 a10 sa ar an ac am ad vs t,1,false⟩:Rd):=⟨_,rfl⟩
 rw[←hS]
 have hb:S.bad=false:=by rw[hS]
 have hdt:S.data=qZ a1 a2 a3 a4 a5 a6 a7 a8 a9 a10 sa ar an ac am ad vs t:=by rw[hS]
 have hps:S.pos=1:=by rw[hS]
 have hd:S.data.drop S.pos=([a1,a2,a4]:List Int).flatMap zq++([]):=by
  rw[hS]
  simp[qZ,List.flatMap_cons]
 obtain⟨n1,n2,n3⟩:=vQ [a1,a2,a4] S _ hb hd (by
  intro x hx
  simp only[List.mem_cons,List.not_mem_nil,or_false] at hx
  rcases hx with rfl | rfl | rfl<;>assumption)
 simp only[LlcQ,List.length_nil,Nat.zero_add,Nat.reduceAdd,Nat.reduceMul] at n2 n3
 have hlen:=congrArg List.length hd
 simp only[List.length_drop,LlaQ,List.flatMap_cons,List.flatMap_nil,zw,List.length_nil] at hlen
 have e1:=n1 0 a1 rfl
 have e2:=n1 1 a2 rfl
 have e4:=n1 2 a4 rfl
 refine⟨⟨e1,e2,rfl,e4,rfl,rfl,rfl,rfl,rfl,rfl⟩,rfl,rfl,?_⟩
 show (rdN S 3).yR=_
 refine jb ud2 ?_
 rw[n2]
 show S.data.length≤S.pos+24
 omega
theorem zlz (a1 a2 a3 a4 a5 a6 a7 a8 a9 a10:Int)(sa ar:Option Addr)(an ac am ad:Nat)(vs:List SV)(t:Tr)(h1:zP a1)(h2:zP a2)(h3:zP a3)(h4:zP a4)(h5:zP a5)(h6:zP a6):
 ((zb 2 (⟨vG a1 a2 a3 a4 a5 a6 a7 a8 a9 a10 sa ar an ac am ad vs t,1,false⟩:Rd)).n1=a1∧(zb 2 (⟨vG a1 a2 a3 a4 a5 a6 a7 a8 a9 a10 sa ar an ac am ad vs t,1,false⟩:Rd)).n2=a2∧(zb 2 (⟨vG a1 a2 a3 a4 a5 a6 a7 a8 a9 a10 sa ar an ac am ad vs t,1,false⟩:Rd)).n3=a3∧(zb 2 (⟨vG a1 a2 a3 a4 a5 a6 a7 a8 a9 a10 sa ar an ac am ad vs t,1,false⟩:Rd)).n4=a4∧(zb 2 (⟨vG a1 a2 a3 a4 a5 a6 a7 a8 a9 a10 sa ar an ac am ad vs t,1,false⟩:Rd)).n5=a5∧(zb 2 (⟨vG a1 a2 a3 a4 a5 a6 a7 a8 a9 a10 sa ar an ac am ad vs t,1,false⟩:Rd)).n6=a6∧(zb 2 (⟨vG a1 a2 a3 a4 a5 a6 a7 a8 a9 a10 sa ar an ac am ad vs t,1,false⟩:Rd)).n7=0∧(zb 2 (⟨vG a1 a2 a3 a4 a5 a6 a7 a8 a9 a10 sa ar an ac am ad vs t,1,false⟩:Rd)).n8=0∧(zb 2 (⟨vG a1 a2 a3 a4 a5 a6 a7 a8 a9 a10 sa ar an ac am ad vs t,1,false⟩:Rd)).n9=0∧(zb 2 (⟨vG a1 a2 a3 a4 a5 a6 a7 a8 a9 a10 sa ar an ac am ad vs t,1,false⟩:Rd)).n10=0)∧(zb 2 (⟨vG a1 a2 a3 a4 a5 a6 a7 a8 a9 a10 sa ar an ac am ad vs t,1,false⟩:Rd)).l= []∧(zb 2 (⟨vG a1 a2 a3 a4 a5 a6 a7 a8 a9 a10 sa ar an ac am ad vs t,1,false⟩:Rd)).t=yM∧(zb 2 (⟨vG a1 a2 a3 a4 a5 a6 a7 a8 a9 a10 sa ar an ac am ad vs t,1,false⟩:Rd)).e.yR= .tuple #[.int .i64 0,.int .i64 0]:=by
 obtain⟨S,hS⟩:∃S:Rd,S=(⟨vG a1 a2 a3 a4 a5 a6 a7 a8 a9 a10 sa ar an ac am ad vs t,1,false⟩:Rd):=⟨_,rfl⟩
 rw[←hS]
 have hb:S.bad=false:=by rw[hS]
 have hdt:S.data=vG a1 a2 a3 a4 a5 a6 a7 a8 a9 a10 sa ar an ac am ad vs t:=by rw[hS]
 have hps:S.pos=1:=by rw[hS]
 have hd:S.data.drop S.pos=([a1,a2,a3,a4,a5,a6]:List Int).flatMap zq++([]):=by
  rw[hS]
  simp[vG,List.flatMap_cons]
 obtain⟨n1,n2,n3⟩:=vQ [a1,a2,a3,a4,a5,a6] S _ hb hd (by
  intro x hx
  simp only[List.mem_cons,List.not_mem_nil,or_false] at hx
  rcases hx with rfl | rfl | rfl | rfl | rfl | rfl<;>assumption)
 simp only[LlcQ,List.length_nil,Nat.zero_add,Nat.reduceAdd,Nat.reduceMul] at n2 n3
 have hlen:=congrArg List.length hd
 simp only[List.length_drop,LlaQ,List.flatMap_cons,List.flatMap_nil,zw,List.length_nil] at hlen
 have e1:=n1 0 a1 rfl
 have e2:=n1 1 a2 rfl
 have e3:=n1 2 a3 rfl
 have e4:=n1 3 a4 rfl
 have e5:=n1 4 a5 rfl
 have e6:=n1 5 a6 rfl
 refine⟨⟨e1,e2,e3,e4,e5,e6,rfl,rfl,rfl,rfl⟩,rfl,rfl,?_⟩
 show (rdN S 6).yR=_
 refine jb ud2 ?_
 rw[n2]
 show S.data.length≤S.pos+48
 omega
theorem zlA (a1 a2 a3 a4 a5 a6 a7 a8 a9 a10:Int)(sa ar:Option Addr)(an ac am ad:Nat)(vs:List SV)(t:Tr)(h1:zP a1)(h2:zP a2)(h4:zP a4)(h5:zP a5)(h7:zP a7)(h8:zP a8)(h9:zP a9)(ht:yj t=true):
 ((zb 3 (⟨vH a1 a2 a3 a4 a5 a6 a7 a8 a9 a10 sa ar an ac am ad vs t,1,false⟩:Rd)).n1=a1∧(zb 3 (⟨vH a1 a2 a3 a4 a5 a6 a7 a8 a9 a10 sa ar an ac am ad vs t,1,false⟩:Rd)).n2=a2∧(zb 3 (⟨vH a1 a2 a3 a4 a5 a6 a7 a8 a9 a10 sa ar an ac am ad vs t,1,false⟩:Rd)).n3=0∧(zb 3 (⟨vH a1 a2 a3 a4 a5 a6 a7 a8 a9 a10 sa ar an ac am ad vs t,1,false⟩:Rd)).n4=a4∧(zb 3 (⟨vH a1 a2 a3 a4 a5 a6 a7 a8 a9 a10 sa ar an ac am ad vs t,1,false⟩:Rd)).n5=a5∧(zb 3 (⟨vH a1 a2 a3 a4 a5 a6 a7 a8 a9 a10 sa ar an ac am ad vs t,1,false⟩:Rd)).n6=0∧(zb 3 (⟨vH a1 a2 a3 a4 a5 a6 a7 a8 a9 a10 sa ar an ac am ad vs t,1,false⟩:Rd)).n7=a7∧(zb 3 (⟨vH a1 a2 a3 a4 a5 a6 a7 a8 a9 a10 sa ar an ac am ad vs t,1,false⟩:Rd)).n8=a8∧(zb 3 (⟨vH a1 a2 a3 a4 a5 a6 a7 a8 a9 a10 sa ar an ac am ad vs t,1,false⟩:Rd)).n9=a9∧(zb 3 (⟨vH a1 a2 a3 a4 a5 a6 a7 a8 a9 a10 sa ar an ac am ad vs t,1,false⟩:Rd)).n10=0)∧(zb 3 (⟨vH a1 a2 a3 a4 a5 a6 a7 a8 a9 a10 sa ar an ac am ad vs t,1,false⟩:Rd)).l= []∧(zb 3 (⟨vH a1 a2 a3 a4 a5 a6 a7 a8 a9 a10 sa ar an ac am ad vs t,1,false⟩:Rd)).t=nT t∧(zb 3 (⟨vH a1 a2 a3 a4 a5 a6 a7 a8 a9 a10 sa ar an ac am ad vs t,1,false⟩:Rd)).e.yR= .tuple #[.int .i64 0,.int .i64 0]:=by
 obtain⟨S,hS⟩:∃S:Rd,S=(⟨vH a1 a2 a3 a4 a5 a6 a7 a8 a9 a10 sa ar an ac am ad vs t,1,false⟩:Rd):=⟨_,rfl⟩
 rw[←hS]
 have hb:S.bad=false:=by rw[hS]
 have hdt:S.data=vH a1 a2 a3 a4 a5 a6 a7 a8 a9 a10 sa ar an ac am ad vs t:=by rw[hS]
 have hps:S.pos=1:=by rw[hS]
 have hd:S.data.drop S.pos=([a1,a2,a4,a5,a7,a8,a9]:List Int).flatMap zq++(qa t):=by
  rw[hS]
  simp[vH,List.flatMap_cons]
 obtain⟨n1,n2,n3⟩:=vQ [a1,a2,a4,a5,a7,a8,a9] S _ hb hd (by
  intro x hx
  simp only[List.mem_cons,List.not_mem_nil,or_false] at hx
  rcases hx with rfl | rfl | rfl | rfl | rfl | rfl | rfl<;>assumption)
 simp only[LlcQ,List.length_nil,Nat.zero_add,Nat.reduceAdd,Nat.reduceMul] at n2 n3
 have hlen:=congrArg List.length hd
 simp only[List.length_drop,LlaQ,List.flatMap_cons,List.flatMap_nil,zw,List.length_nil] at hlen
 have e1:=n1 0 a1 rfl
 have e2:=n1 1 a2 rfl
 have e4:=n1 2 a4 rfl
 have e5:=n1 3 a5 rfl
 have e7:=n1 4 a7 rfl
 have e8:=n1 5 a8 rfl
 have e9:=n1 6 a9 rfl
 obtain⟨s1,s2⟩:=ZP ht
 have ho:=zdQ (s:=rdN S 7) (t:=t) ud2 (by rw[n2];exact n3) s1 s2
 refine⟨⟨e1,e2,rfl,e4,e5,rfl,e7,e8,e9,rfl⟩,rfl,by show (rdN S 7).tree.1=_;rw[ho],?_⟩
 show (rdN S 7).tree.2.yR=_
 rw[ho]
 refine jb ud2 ?_
 rw[n2]
 show S.data.length≤S.pos+56+_
 omega
theorem zlB (a1 a2 a3 a4 a5 a6 a7 a8 a9 a10:Int)(sa ar:Option Addr)(an ac am ad:Nat)(vs:List SV)(t:Tr)(h1:zP a1)(h2:zP a2)(h4:zP a4)(h5:zP a5)(h10:zP a10):
 ((zb 4 (⟨vI a1 a2 a3 a4 a5 a6 a7 a8 a9 a10 sa ar an ac am ad vs t,1,false⟩:Rd)).n1=a1∧(zb 4 (⟨vI a1 a2 a3 a4 a5 a6 a7 a8 a9 a10 sa ar an ac am ad vs t,1,false⟩:Rd)).n2=a2∧(zb 4 (⟨vI a1 a2 a3 a4 a5 a6 a7 a8 a9 a10 sa ar an ac am ad vs t,1,false⟩:Rd)).n3=0∧(zb 4 (⟨vI a1 a2 a3 a4 a5 a6 a7 a8 a9 a10 sa ar an ac am ad vs t,1,false⟩:Rd)).n4=a4∧(zb 4 (⟨vI a1 a2 a3 a4 a5 a6 a7 a8 a9 a10 sa ar an ac am ad vs t,1,false⟩:Rd)).n5=a5∧(zb 4 (⟨vI a1 a2 a3 a4 a5 a6 a7 a8 a9 a10 sa ar an ac am ad vs t,1,false⟩:Rd)).n6=0∧(zb 4 (⟨vI a1 a2 a3 a4 a5 a6 a7 a8 a9 a10 sa ar an ac am ad vs t,1,false⟩:Rd)).n7=0∧(zb 4 (⟨vI a1 a2 a3 a4 a5 a6 a7 a8 a9 a10 sa ar an ac am ad vs t,1,false⟩:Rd)).n8=0∧(zb 4 (⟨vI a1 a2 a3 a4 a5 a6 a7 a8 a9 a10 sa ar an ac am ad vs t,1,false⟩:Rd)).n9=0∧(zb 4 (⟨vI a1 a2 a3 a4 a5 a6 a7 a8 a9 a10 sa ar an ac am ad vs t,1,false⟩:Rd)).n10=a10)∧(zb 4 (⟨vI a1 a2 a3 a4 a5 a6 a7 a8 a9 a10 sa ar an ac am ad vs t,1,false⟩:Rd)).l= []∧(zb 4 (⟨vI a1 a2 a3 a4 a5 a6 a7 a8 a9 a10 sa ar an ac am ad vs t,1,false⟩:Rd)).t=yM∧(zb 4 (⟨vI a1 a2 a3 a4 a5 a6 a7 a8 a9 a10 sa ar an ac am ad vs t,1,false⟩:Rd)).e.yR= .tuple #[.int .i64 0,.int .i64 0]:=by
 obtain⟨S,hS⟩:∃S:Rd,S=(⟨vI a1 a2 a3 a4 a5 a6 a7 a8 a9 a10 sa ar an ac am ad vs t,1,false⟩:Rd):=⟨_,rfl⟩
 rw[←hS]
 have hb:S.bad=false:=by rw[hS]
 have hdt:S.data=vI a1 a2 a3 a4 a5 a6 a7 a8 a9 a10 sa ar an ac am ad vs t:=by rw[hS]
 have hps:S.pos=1:=by rw[hS]
 have hd:S.data.drop S.pos=([a1,a2,a4,a5,a10]:List Int).flatMap zq++([]):=by
  rw[hS]
  simp[vI,List.flatMap_cons]
 exact sc0
theorem zlC (a1 a2 a3 a4 a5 a6 a7 a8 a9 a10:Int)(sa ar:Option Addr)(an ac am ad:Nat)(vs:List SV)(t:Tr)(h1:zP a1)(h2:zP a2)(h3:zP a3)(h4:zP a4)(h5:zP a5)(h7:zP a7)(h8:zP a8)(hs:zO (steps vs)=true)(han:an=vs.length):
 ((zb 5 (⟨vk a1 a2 a3 a4 a5 a6 a7 a8 a9 a10 sa ar an ac am ad vs t,1,false⟩:Rd)).n1=a1∧(zb 5 (⟨vk a1 a2 a3 a4 a5 a6 a7 a8 a9 a10 sa ar an ac am ad vs t,1,false⟩:Rd)).n2=a2∧(zb 5 (⟨vk a1 a2 a3 a4 a5 a6 a7 a8 a9 a10 sa ar an ac am ad vs t,1,false⟩:Rd)).n3=a3∧(zb 5 (⟨vk a1 a2 a3 a4 a5 a6 a7 a8 a9 a10 sa ar an ac am ad vs t,1,false⟩:Rd)).n4=a4∧(zb 5 (⟨vk a1 a2 a3 a4 a5 a6 a7 a8 a9 a10 sa ar an ac am ad vs t,1,false⟩:Rd)).n5=a5∧(zb 5 (⟨vk a1 a2 a3 a4 a5 a6 a7 a8 a9 a10 sa ar an ac am ad vs t,1,false⟩:Rd)).n6=0∧(zb 5 (⟨vk a1 a2 a3 a4 a5 a6 a7 a8 a9 a10 sa ar an ac am ad vs t,1,false⟩:Rd)).n7=a7∧(zb 5 (⟨vk a1 a2 a3 a4 a5 a6 a7 a8 a9 a10 sa ar an ac am ad vs t,1,false⟩:Rd)).n8=a8∧(zb 5 (⟨vk a1 a2 a3 a4 a5 a6 a7 a8 a9 a10 sa ar an ac am ad vs t,1,false⟩:Rd)).n9=0∧(zb 5 (⟨vk a1 a2 a3 a4 a5 a6 a7 a8 a9 a10 sa ar an ac am ad vs t,1,false⟩:Rd)).n10=0)∧(zb 5 (⟨vk a1 a2 a3 a4 a5 a6 a7 a8 a9 a10 sa ar an ac am ad vs t,1,false⟩:Rd)).l=((steps vs).map yS).map nS∧(zb 5 (⟨vk a1 a2 a3 a4 a5 a6 a7 a8 a9 a10 sa ar an ac am ad vs t,1,false⟩:Rd)).t=yM∧(zb 5 (⟨vk a1 a2 a3 a4 a5 a6 a7 a8 a9 a10 sa ar an ac am ad vs t,1,false⟩:Rd)).e.yR= .tuple #[.int .i64 0,.int .i64 0]:=by
 obtain⟨S,hS⟩:∃S:Rd,S=(⟨vk a1 a2 a3 a4 a5 a6 a7 a8 a9 a10 sa ar an ac am ad vs t,1,false⟩:Rd):=⟨_,rfl⟩
 rw[←hS]
 have hb:S.bad=false:=by rw[hS]
 have hdt:S.data=vk a1 a2 a3 a4 a5 a6 a7 a8 a9 a10 sa ar an ac am ad vs t:=by rw[hS]
 have hps:S.pos=1:=by rw[hS]
 have hd:S.data.drop S.pos=([a1,a2,a3,a4,a5,a7,a8]:List Int).flatMap zq++(zq (an:Int)++qd ((steps vs).map yS)):=by
  rw[hS]
  simp[vk,List.flatMap_cons]
 obtain⟨n1,n2,n3⟩:=vQ [a1,a2,a3,a4,a5,a7,a8] S _ hb hd (by
  intro x hx
  simp only[List.mem_cons,List.not_mem_nil,or_false] at hx
  rcases hx with rfl | rfl | rfl | rfl | rfl | rfl | rfl<;>assumption)
 simp only[LlcQ,List.length_nil,Nat.zero_add,Nat.reduceAdd,Nat.reduceMul] at n2 n3
 have hlen:=congrArg List.length hd
 simp only[List.length_drop,LlaQ,List.flatMap_cons,List.flatMap_nil,zw,List.length_nil] at hlen
 have e1:=n1 0 a1 rfl
 have e2:=n1 1 a2 rfl
 have e3:=n1 2 a3 rfl
 have e4:=n1 3 a4 rfl
 have e5:=n1 4 a5 rfl
 have e7:=n1 5 a7 rfl
 have e8:=n1 6 a8 rfl
 obtain⟨s1,s2,s3,s4⟩:=Z5 hs
 have hal:(an:Int)=(((steps vs).map yS).length:Int):=by rw[han];simp[steps]
 have ho:=zbL (s:=rdN S 7) (l:=(steps vs).map yS) ud2 (by rw[n2,←hal];exact n3) s2 s3 (by rw[List.length_map];exact s1)
 refine⟨⟨e1,e2,e3,e4,e5,rfl,e7,e8,rfl,rfl⟩,by show (rdN S 7).steps.1=_;rw[ho],rfl,?_⟩
 show (rdN S 7).steps.2.yR=_
 rw[ho]
 refine jb ud2 ?_
 rw[n2]
 show S.data.length≤S.pos+56+8+_
 omega
theorem zlD (a1 a2 a3 a4 a5 a6 a7 a8 a9 a10:Int)(sa ar:Option Addr)(an ac am ad:Nat)(vs:List SV)(t:Tr)(h1:zP a1)(h2:zP a2)(h4:zP a4)(h5:zP a5)(h9:zP a9):
 ((zb 6 (⟨qR a1 a2 a3 a4 a5 a6 a7 a8 a9 a10 sa ar an ac am ad vs t,1,false⟩:Rd)).n1=a1∧(zb 6 (⟨qR a1 a2 a3 a4 a5 a6 a7 a8 a9 a10 sa ar an ac am ad vs t,1,false⟩:Rd)).n2=a2∧(zb 6 (⟨qR a1 a2 a3 a4 a5 a6 a7 a8 a9 a10 sa ar an ac am ad vs t,1,false⟩:Rd)).n3=0∧(zb 6 (⟨qR a1 a2 a3 a4 a5 a6 a7 a8 a9 a10 sa ar an ac am ad vs t,1,false⟩:Rd)).n4=a4∧(zb 6 (⟨qR a1 a2 a3 a4 a5 a6 a7 a8 a9 a10 sa ar an ac am ad vs t,1,false⟩:Rd)).n5=a5∧(zb 6 (⟨qR a1 a2 a3 a4 a5 a6 a7 a8 a9 a10 sa ar an ac am ad vs t,1,false⟩:Rd)).n6=0∧(zb 6 (⟨qR a1 a2 a3 a4 a5 a6 a7 a8 a9 a10 sa ar an ac am ad vs t,1,false⟩:Rd)).n7=0∧(zb 6 (⟨qR a1 a2 a3 a4 a5 a6 a7 a8 a9 a10 sa ar an ac am ad vs t,1,false⟩:Rd)).n8=0∧(zb 6 (⟨qR a1 a2 a3 a4 a5 a6 a7 a8 a9 a10 sa ar an ac am ad vs t,1,false⟩:Rd)).n9=a9∧(zb 6 (⟨qR a1 a2 a3 a4 a5 a6 a7 a8 a9 a10 sa ar an ac am ad vs t,1,false⟩:Rd)).n10=0)∧(zb 6 (⟨qR a1 a2 a3 a4 a5 a6 a7 a8 a9 a10 sa ar an ac am ad vs t,1,false⟩:Rd)).l= []∧(zb 6 (⟨qR a1 a2 a3 a4 a5 a6 a7 a8 a9 a10 sa ar an ac am ad vs t,1,false⟩:Rd)).t=yM∧(zb 6 (⟨qR a1 a2 a3 a4 a5 a6 a7 a8 a9 a10 sa ar an ac am ad vs t,1,false⟩:Rd)).e.yR= .tuple #[.int .i64 0,.int .i64 0]:=by
 obtain⟨S,hS⟩:∃S:Rd,S=(⟨qR a1 a2 a3 a4 a5 a6 a7 a8 a9 a10 sa ar an ac am ad vs t,1,false⟩:Rd):=⟨_,rfl⟩
 rw[←hS]
 have hb:S.bad=false:=by rw[hS]
 have hdt:S.data=qR a1 a2 a3 a4 a5 a6 a7 a8 a9 a10 sa ar an ac am ad vs t:=by rw[hS]
 have hps:S.pos=1:=by rw[hS]
 have hd:S.data.drop S.pos=([a1,a2,a4,a5,a9]:List Int).flatMap zq++([]):=by
  rw[hS]
  simp[qR,List.flatMap_cons]
 obtain⟨n1,n2,n3⟩:=vQ [a1,a2,a4,a5,a9] S _ hb hd (by
  intro x hx
  simp only[List.mem_cons,List.not_mem_nil,or_false] at hx
  rcases hx with rfl | rfl | rfl | rfl | rfl<;>assumption)
 simp only[LlcQ,List.length_nil,Nat.zero_add,Nat.reduceAdd,Nat.reduceMul] at n2 n3
 have hlen:=congrArg List.length hd
 simp only[List.length_drop,LlaQ,List.flatMap_cons,List.flatMap_nil,zw,List.length_nil] at hlen
 have e1:=n1 0 a1 rfl
 have e2:=n1 1 a2 rfl
 have e4:=n1 2 a4 rfl
 have e5:=n1 3 a5 rfl
 have e9:=n1 4 a9 rfl
 refine⟨⟨e1,e2,rfl,e4,e5,rfl,rfl,rfl,e9,rfl⟩,rfl,rfl,?_⟩
 show (rdN S 5).yR=_
 refine jb ud2 ?_
 rw[n2]
 show S.data.length≤S.pos+40
 omega
theorem zlE (a1 a2 a3 a4 a5 a6 a7 a8 a9 a10:Int)(sa ar:Option Addr)(an ac am ad:Nat)(vs:List SV)(t:Tr)(h1:zP a1)(h2:zP a2)(h4:zP a4)(h5:zP a5)(h10:zP a10):
 ((zb 7 (⟨vJ a1 a2 a3 a4 a5 a6 a7 a8 a9 a10 sa ar an ac am ad vs t,1,false⟩:Rd)).n1=a1∧(zb 7 (⟨vJ a1 a2 a3 a4 a5 a6 a7 a8 a9 a10 sa ar an ac am ad vs t,1,false⟩:Rd)).n2=a2∧(zb 7 (⟨vJ a1 a2 a3 a4 a5 a6 a7 a8 a9 a10 sa ar an ac am ad vs t,1,false⟩:Rd)).n3=0∧(zb 7 (⟨vJ a1 a2 a3 a4 a5 a6 a7 a8 a9 a10 sa ar an ac am ad vs t,1,false⟩:Rd)).n4=a4∧(zb 7 (⟨vJ a1 a2 a3 a4 a5 a6 a7 a8 a9 a10 sa ar an ac am ad vs t,1,false⟩:Rd)).n5=a5∧(zb 7 (⟨vJ a1 a2 a3 a4 a5 a6 a7 a8 a9 a10 sa ar an ac am ad vs t,1,false⟩:Rd)).n6=0∧(zb 7 (⟨vJ a1 a2 a3 a4 a5 a6 a7 a8 a9 a10 sa ar an ac am ad vs t,1,false⟩:Rd)).n7=0∧(zb 7 (⟨vJ a1 a2 a3 a4 a5 a6 a7 a8 a9 a10 sa ar an ac am ad vs t,1,false⟩:Rd)).n8=0∧(zb 7 (⟨vJ a1 a2 a3 a4 a5 a6 a7 a8 a9 a10 sa ar an ac am ad vs t,1,false⟩:Rd)).n9=0∧(zb 7 (⟨vJ a1 a2 a3 a4 a5 a6 a7 a8 a9 a10 sa ar an ac am ad vs t,1,false⟩:Rd)).n10=a10)∧(zb 7 (⟨vJ a1 a2 a3 a4 a5 a6 a7 a8 a9 a10 sa ar an ac am ad vs t,1,false⟩:Rd)).l= []∧(zb 7 (⟨vJ a1 a2 a3 a4 a5 a6 a7 a8 a9 a10 sa ar an ac am ad vs t,1,false⟩:Rd)).t=yM∧(zb 7 (⟨vJ a1 a2 a3 a4 a5 a6 a7 a8 a9 a10 sa ar an ac am ad vs t,1,false⟩:Rd)).e.yR= .tuple #[.int .i64 0,.int .i64 0]:=by
 obtain⟨S,hS⟩:∃S:Rd,S=(⟨vJ a1 a2 a3 a4 a5 a6 a7 a8 a9 a10 sa ar an ac am ad vs t,1,false⟩:Rd):=⟨_,rfl⟩
 rw[←hS]
 have hb:S.bad=false:=by rw[hS]
 have hdt:S.data=vJ a1 a2 a3 a4 a5 a6 a7 a8 a9 a10 sa ar an ac am ad vs t:=by rw[hS]
 have hps:S.pos=1:=by rw[hS]
 have hd:S.data.drop S.pos=([a1,a2,a4,a5,a10]:List Int).flatMap zq++([]):=by
  rw[hS]
  simp[vJ,List.flatMap_cons]
 exact sc0
theorem zlF (a1 a2 a3 a4 a5 a6 a7 a8 a9 a10:Int)(sa ar:Option Addr)(an ac am ad:Nat)(vs:List SV)(t:Tr)(h1:zP a1)(h2:zP a2)(h4:zP a4)(h9:zP a9)(hs:zO (steps vs)=true)(han:an=vs.length):
 ((zb 8 (⟨vo a1 a2 a3 a4 a5 a6 a7 a8 a9 a10 sa ar an ac am ad vs t,1,false⟩:Rd)).n1=a1∧(zb 8 (⟨vo a1 a2 a3 a4 a5 a6 a7 a8 a9 a10 sa ar an ac am ad vs t,1,false⟩:Rd)).n2=a2∧(zb 8 (⟨vo a1 a2 a3 a4 a5 a6 a7 a8 a9 a10 sa ar an ac am ad vs t,1,false⟩:Rd)).n3=0∧(zb 8 (⟨vo a1 a2 a3 a4 a5 a6 a7 a8 a9 a10 sa ar an ac am ad vs t,1,false⟩:Rd)).n4=a4∧(zb 8 (⟨vo a1 a2 a3 a4 a5 a6 a7 a8 a9 a10 sa ar an ac am ad vs t,1,false⟩:Rd)).n5=0∧(zb 8 (⟨vo a1 a2 a3 a4 a5 a6 a7 a8 a9 a10 sa ar an ac am ad vs t,1,false⟩:Rd)).n6=0∧(zb 8 (⟨vo a1 a2 a3 a4 a5 a6 a7 a8 a9 a10 sa ar an ac am ad vs t,1,false⟩:Rd)).n7=0∧(zb 8 (⟨vo a1 a2 a3 a4 a5 a6 a7 a8 a9 a10 sa ar an ac am ad vs t,1,false⟩:Rd)).n8=0∧(zb 8 (⟨vo a1 a2 a3 a4 a5 a6 a7 a8 a9 a10 sa ar an ac am ad vs t,1,false⟩:Rd)).n9=a9∧(zb 8 (⟨vo a1 a2 a3 a4 a5 a6 a7 a8 a9 a10 sa ar an ac am ad vs t,1,false⟩:Rd)).n10=0)∧(zb 8 (⟨vo a1 a2 a3 a4 a5 a6 a7 a8 a9 a10 sa ar an ac am ad vs t,1,false⟩:Rd)).l=((steps vs).map yS).map nS∧(zb 8 (⟨vo a1 a2 a3 a4 a5 a6 a7 a8 a9 a10 sa ar an ac am ad vs t,1,false⟩:Rd)).t=yM∧(zb 8 (⟨vo a1 a2 a3 a4 a5 a6 a7 a8 a9 a10 sa ar an ac am ad vs t,1,false⟩:Rd)).e.yR= .tuple #[.int .i64 0,.int .i64 0]:=by
 obtain⟨S,hS⟩:∃S:Rd,S=(⟨vo a1 a2 a3 a4 a5 a6 a7 a8 a9 a10 sa ar an ac am ad vs t,1,false⟩:Rd):=⟨_,rfl⟩
 rw[←hS]
 have hb:S.bad=false:=by rw[hS]
 have hdt:S.data=vo a1 a2 a3 a4 a5 a6 a7 a8 a9 a10 sa ar an ac am ad vs t:=by rw[hS]
 have hps:S.pos=1:=by rw[hS]
 have hd:S.data.drop S.pos=([a1,a2,a4,a9]:List Int).flatMap zq++(zq (an:Int)++qd ((steps vs).map yS)):=by
  rw[hS]
  simp[vo,List.flatMap_cons]
 obtain⟨n1,n2,n3⟩:=vQ [a1,a2,a4,a9] S _ hb hd (by
  intro x hx
  simp only[List.mem_cons,List.not_mem_nil,or_false] at hx
  rcases hx with rfl | rfl | rfl | rfl<;>assumption)
 simp only[LlcQ,List.length_nil,Nat.zero_add,Nat.reduceAdd,Nat.reduceMul] at n2 n3
 have hlen:=congrArg List.length hd
 simp only[List.length_drop,LlaQ,List.flatMap_cons,List.flatMap_nil,zw,List.length_nil] at hlen
 have e1:=n1 0 a1 rfl
 have e2:=n1 1 a2 rfl
 have e4:=n1 2 a4 rfl
 have e9:=n1 3 a9 rfl
 obtain⟨s1,s2,s3,s4⟩:=Z5 hs
 have hal:(an:Int)=(((steps vs).map yS).length:Int):=by rw[han];simp[steps]
 have ho:=zbL (s:=rdN S 4) (l:=(steps vs).map yS) ud2 (by rw[n2,←hal];exact n3) s2 s3 (by rw[List.length_map];exact s1)
 refine⟨⟨e1,e2,rfl,e4,rfl,rfl,rfl,rfl,e9,rfl⟩,by show (rdN S 4).steps.1=_;rw[ho],rfl,?_⟩
 show (rdN S 4).steps.2.yR=_
 rw[ho]
 refine jb ud2 ?_
 rw[n2]
 show S.data.length≤S.pos+32+8+_
 omega
theorem zlG (a1 a2 a3 a4 a5 a6 a7 a8 a9 a10:Int)(sa ar:Option Addr)(an ac am ad:Nat)(vs:List SV)(t:Tr)(h1:zP a1)(h2:zP a2)(h3:zP a3)(h4:zP a4):
 ((zb 9 (⟨vK a1 a2 a3 a4 a5 a6 a7 a8 a9 a10 sa ar an ac am ad vs t,1,false⟩:Rd)).n1=a1∧(zb 9 (⟨vK a1 a2 a3 a4 a5 a6 a7 a8 a9 a10 sa ar an ac am ad vs t,1,false⟩:Rd)).n2=a2∧(zb 9 (⟨vK a1 a2 a3 a4 a5 a6 a7 a8 a9 a10 sa ar an ac am ad vs t,1,false⟩:Rd)).n3=a3∧(zb 9 (⟨vK a1 a2 a3 a4 a5 a6 a7 a8 a9 a10 sa ar an ac am ad vs t,1,false⟩:Rd)).n4=a4∧(zb 9 (⟨vK a1 a2 a3 a4 a5 a6 a7 a8 a9 a10 sa ar an ac am ad vs t,1,false⟩:Rd)).n5=0∧(zb 9 (⟨vK a1 a2 a3 a4 a5 a6 a7 a8 a9 a10 sa ar an ac am ad vs t,1,false⟩:Rd)).n6=0∧(zb 9 (⟨vK a1 a2 a3 a4 a5 a6 a7 a8 a9 a10 sa ar an ac am ad vs t,1,false⟩:Rd)).n7=0∧(zb 9 (⟨vK a1 a2 a3 a4 a5 a6 a7 a8 a9 a10 sa ar an ac am ad vs t,1,false⟩:Rd)).n8=0∧(zb 9 (⟨vK a1 a2 a3 a4 a5 a6 a7 a8 a9 a10 sa ar an ac am ad vs t,1,false⟩:Rd)).n9=0∧(zb 9 (⟨vK a1 a2 a3 a4 a5 a6 a7 a8 a9 a10 sa ar an ac am ad vs t,1,false⟩:Rd)).n10=0)∧(zb 9 (⟨vK a1 a2 a3 a4 a5 a6 a7 a8 a9 a10 sa ar an ac am ad vs t,1,false⟩:Rd)).l= []∧(zb 9 (⟨vK a1 a2 a3 a4 a5 a6 a7 a8 a9 a10 sa ar an ac am ad vs t,1,false⟩:Rd)).t=yM∧(zb 9 (⟨vK a1 a2 a3 a4 a5 a6 a7 a8 a9 a10 sa ar an ac am ad vs t,1,false⟩:Rd)).e.yR= .tuple #[.int .i64 0,.int .i64 0]:=by
 obtain⟨S,hS⟩:∃S:Rd,S=(⟨vK a1 a2 a3 a4 a5 a6 a7 a8 a9 a10 sa ar an ac am ad vs t,1,false⟩:Rd):=⟨_,rfl⟩
 rw[←hS]
 have hb:S.bad=false:=by rw[hS]
 have hdt:S.data=vK a1 a2 a3 a4 a5 a6 a7 a8 a9 a10 sa ar an ac am ad vs t:=by rw[hS]
 have hps:S.pos=1:=by rw[hS]
 have hd:S.data.drop S.pos=([a1,a2,a3,a4]:List Int).flatMap zq++([]):=by
  rw[hS]
  simp[vK,List.flatMap_cons]
 obtain⟨n1,n2,n3⟩:=vQ [a1,a2,a3,a4] S _ hb hd (by
  intro x hx
  simp only[List.mem_cons,List.not_mem_nil,or_false] at hx
  rcases hx with rfl | rfl | rfl | rfl<;>assumption)
 simp only[LlcQ,List.length_nil,Nat.zero_add,Nat.reduceAdd,Nat.reduceMul] at n2 n3
 have hlen:=congrArg List.length hd
 simp only[List.length_drop,LlaQ,List.flatMap_cons,List.flatMap_nil,zw,List.length_nil] at hlen
 have e1:=n1 0 a1 rfl
 have e2:=n1 1 a2 rfl
 have e3:=n1 2 a3 rfl
 have e4:=n1 3 a4 rfl
 refine⟨⟨e1,e2,e3,e4,rfl,rfl,rfl,rfl,rfl,rfl⟩,rfl,rfl,?_⟩
 show (rdN S 4).yR=_
 refine jb ud2 ?_
 rw[n2]
 show S.data.length≤S.pos+32
 omega
theorem zkT (a1 a2 a3 a4 a5 a6 a7 a8 a9 a10:Int)(sa ar:Option Addr)(an ac am ad:Nat)(vs:List SV)(t:Tr)(h1:zP a1)(h2:zP a2)(h4:zP a4)(h9:zP a9)(ht:yj t=true):
 ((zb 10 (⟨yX a1 a2 a3 a4 a5 a6 a7 a8 a9 a10 sa ar an ac am ad vs t,1,false⟩:Rd)).n1=a1∧(zb 10 (⟨yX a1 a2 a3 a4 a5 a6 a7 a8 a9 a10 sa ar an ac am ad vs t,1,false⟩:Rd)).n2=a2∧(zb 10 (⟨yX a1 a2 a3 a4 a5 a6 a7 a8 a9 a10 sa ar an ac am ad vs t,1,false⟩:Rd)).n3=0∧(zb 10 (⟨yX a1 a2 a3 a4 a5 a6 a7 a8 a9 a10 sa ar an ac am ad vs t,1,false⟩:Rd)).n4=a4∧(zb 10 (⟨yX a1 a2 a3 a4 a5 a6 a7 a8 a9 a10 sa ar an ac am ad vs t,1,false⟩:Rd)).n5=0∧(zb 10 (⟨yX a1 a2 a3 a4 a5 a6 a7 a8 a9 a10 sa ar an ac am ad vs t,1,false⟩:Rd)).n6=0∧(zb 10 (⟨yX a1 a2 a3 a4 a5 a6 a7 a8 a9 a10 sa ar an ac am ad vs t,1,false⟩:Rd)).n7=0∧(zb 10 (⟨yX a1 a2 a3 a4 a5 a6 a7 a8 a9 a10 sa ar an ac am ad vs t,1,false⟩:Rd)).n8=0∧(zb 10 (⟨yX a1 a2 a3 a4 a5 a6 a7 a8 a9 a10 sa ar an ac am ad vs t,1,false⟩:Rd)).n9=a9∧(zb 10 (⟨yX a1 a2 a3 a4 a5 a6 a7 a8 a9 a10 sa ar an ac am ad vs t,1,false⟩:Rd)).n10=0)∧(zb 10 (⟨yX a1 a2 a3 a4 a5 a6 a7 a8 a9 a10 sa ar an ac am ad vs t,1,false⟩:Rd)).l= []∧(zb 10 (⟨yX a1 a2 a3 a4 a5 a6 a7 a8 a9 a10 sa ar an ac am ad vs t,1,false⟩:Rd)).t=nT t∧(zb 10 (⟨yX a1 a2 a3 a4 a5 a6 a7 a8 a9 a10 sa ar an ac am ad vs t,1,false⟩:Rd)).e.yR= .tuple #[.int .i64 0,.int .i64 0]:=by
 obtain⟨S,hS⟩:∃S:Rd,S=(⟨yX a1 a2 a3 a4 a5 a6 a7 a8 a9 a10 sa ar an ac am ad vs t,1,false⟩:Rd):=⟨_,rfl⟩
 rw[←hS]
 have hb:S.bad=false:=by rw[hS]
 have hdt:S.data=yX a1 a2 a3 a4 a5 a6 a7 a8 a9 a10 sa ar an ac am ad vs t:=by rw[hS]
 have hps:S.pos=1:=by rw[hS]
 have hd:S.data.drop S.pos=([a1,a2,a4,a9]:List Int).flatMap zq++(qa t):=by
  rw[hS]
  simp[yX,List.flatMap_cons]
 obtain⟨n1,n2,n3⟩:=vQ [a1,a2,a4,a9] S _ hb hd (by
  intro x hx
  simp only[List.mem_cons,List.not_mem_nil,or_false] at hx
  rcases hx with rfl | rfl | rfl | rfl<;>assumption)
 simp only[LlcQ,List.length_nil,Nat.zero_add,Nat.reduceAdd,Nat.reduceMul] at n2 n3
 have hlen:=congrArg List.length hd
 simp only[List.length_drop,LlaQ,List.flatMap_cons,List.flatMap_nil,zw,List.length_nil] at hlen
 have e1:=n1 0 a1 rfl
 have e2:=n1 1 a2 rfl
 have e4:=n1 2 a4 rfl
 have e9:=n1 3 a9 rfl
 obtain⟨s1,s2⟩:=ZP ht
 have ho:=zdQ (s:=rdN S 4) (t:=t) ud2 (by rw[n2];exact n3) s1 s2
 refine⟨⟨e1,e2,rfl,e4,rfl,rfl,rfl,rfl,e9,rfl⟩,rfl,by show (rdN S 4).tree.1=_;rw[ho],?_⟩
 show (rdN S 4).tree.2.yR=_
 rw[ho]
 refine jb ud2 ?_
 rw[n2]
 show S.data.length≤S.pos+32+_
 omega
end Go.Proofs.YtoidedomenkbpaaGreat
