/-
  .
-/
import Derived.Test.YtoidedomenkbpaaGreatWOverNQr
set_option maxRecDepth 100000
set_option maxHeartbeats 40000000
set_option linter.unusedVariables false
set_option linter.unusedSimpArgs false
namespace Go.Proofs.YtoidedomenkbpaaGreat
open Go.RowKit Go.Shelf
abbrev yj (σ:Type):=σ→Array Value→Option (σ×Array Value)
def zk {σ:Type}(num:σ→Int→Int→Int→Option (Int×σ))(q:Nat×Int×Int):yj σ:=fun s cs=>match num s (vE cs q.1) q.2.1 q.2.2 with
 | some (m,s')=>some (s',cs.setIfInBounds q.1 (.int .i64 m))
 | none=>none
def yz {σ:Type}:List (yj σ)→σ→Array Value→Option (σ×Array Value)
 | [],s,cs=>some (s,cs)
 | a ::r,s,cs=>match a s cs with
   | some (s',cs')=>yz r s' cs'
   | none=>none
theorem YA {σ:Type}:∀{l:List (yj σ)} {j:Nat} {a:yj σ} {s s' t:σ} {cs cs' ct:Array Value},yz (l.take j) s cs=some (s',cs')→l[j]? =some a→a s' cs'=some (t,ct)→yz (l.take (j+1)) s cs=some (t,ct)
 | [],j,a,s,s',t,cs,cs',ct,_,hq,_=>by simp at hq
 | p ::r,0,a,s,s',t,cs,cs',ct,h,hq,hn=>by
   simp at hq;subst hq
   simp only[List.take_zero,yz] at h
   cases h
   simp only[Nat.zero_add,List.take_succ_cons,List.take_zero,yz,hn]
 | p ::r,j+1,a,s,s',t,cs,cs',ct,h,hq,hn=>by
   rw[List.take_succ_cons,yz] at h ⊢
   split at h
   · rename_i m1 s1 h1
     exact YA h (by simpa using hq) hn
   · cases h
theorem JM {σ:Type}:∀{l:List (yj σ)} {j:Nat} {a:yj σ} {s s' :σ} {cs cs' :Array Value},yz (l.take j) s cs=some (s',cs')→l[j]? =some a→a s' cs'=none→yz l s cs=none
 | [],j,a,s,s',cs,cs',_,hq,_=>by simp at hq
 | p ::r,0,a,s,s',cs,cs',h,hq,hn=>by
   simp at hq;subst hq
   simp only[List.take_zero,yz] at h
   cases h
   rw[yz,hn]
 | p ::r,j+1,a,s,s',cs,cs',h,hq,hn=>by
   rw[List.take_succ_cons,yz] at h
   rw[yz]
   split at h
   · rename_i m1 s1 h1
     exact JM h (by simpa using hq) hn
   · cases h
def kK (c0 cs:Array Value):Prop:=∀i,11≤i→cs[i]? =c0[i]?
theorem kK.set {c0 cs:Array Value}(h:kK c0 cs){i:Nat}(hi:i≤10)(m:Int):kK c0 (cs.setIfInBounds i (.int .i64 m)):=fun j hj=>by
 rw[Array.getElem?_setIfInBounds_ne om];exact h j hj
def zbZ {σ:Type}(G:σ→Prop)(R:σ→World→Prop)(O:Nat→Prop)(o:Option (σ×Array Value))(b:Nat)(X:World)(e:Ending)(X' :World):Prop:=match o with
 | some (s',cs')=>e= .returned (.tuple #[])∧(G s'→R s' X')∧X'.heap[b]? =some (.cells cs' 37 (0,0))∧zb X X' (fun q=>O q∨q=b)
 | none=>e= .panicked jQ∧zb X X' (fun q=>O q∨q=b)
structure JV {σ:Type} (G:σ→Prop) (R:σ→World→Prop) (O:Nat→Prop) (act:yj σ) (b:Nat) (T:TypeId) (v:Value) (kd:Int) (F:FuncId) (X0:World) (c0:Array Value) (last:Bool):Prop where
 enter:∀(args:Array Value) (w:World),(callFunc F args).run Tryz.prog w= .ok (.enter F args) w
 does:∀(s:σ) (X:World) (cs:Array Value),R s X→zb X0 X (fun q=>O q∨q=b)→X.heap[b]? =some (.cells cs 37 (0,0))→Yo cs kd→kK c0 cs→Calls Tryz.prog F #[.agg #[.pointer (some ⟨b,0,none⟩),.iface T v]] X (zbZ G R O (act s cs) b X)
 keep:last=false→∀(s:σ) (cs:Array Value) (s' :σ) (cs' :Array Value),act s cs=some (s',cs')→Yo cs kd→kK c0 cs→Yo cs' kd∧kK c0 cs'
theorem kN.act {σ:Type}{G:σ→Prop}{R:σ→World→Prop}{O:Nat→Prop}{num:σ→Int→Int→Int→Option (Int×σ)}{b:Nat}{T:TypeId}{v:Value}{kd:Int}{F:FuncId}{q:Nat×Int×Int}(h:kN G R O num b T v kd F q)(X0:World)(c0:Array Value)(last:Bool):JV G R O (zk num q) b T v kd F X0 c0 last where
 enter:=h.enter
 does:=fun s X cs hR _ hX hm _=>by
  obtain⟨n,hn⟩:=hm.nums q.1 h.one.1 h.one.2
  refine (h.does s X cs n hR hX hn hm.kind).mono fun e X' hq=>?_
  unfold zI at hq
  unfold zbZ zk
  rw[jZ hn]
  cases ho:num s n q.2.1 q.2.2 with
  | none=>rw[ho] at hq;exact hq
  | some ms=>rw[ho] at hq;exact hq
 keep :=fun _ s cs s' cs' ha hm ht=>by
  unfold zk at ha
  split at ha
  · rename_i m t h1
    cases ha
    exact⟨hm.set h.one.1 m,ht.set h.one.2 m⟩
  · cases ha
theorem yw {σ:Type}{G:σ→Prop}{R:σ→World→Prop}{O:Nat→Prop}{num:σ→Int→Int→Int→Option (Int×σ)}{b:Nat}{T:TypeId}{v rv:Value}{fn:FuncId}(H:yQ G R O num b T v rv fn)(kd:Int)(k:Nat)(hk:kd=(k:Int))(hk1:1≤k)(hk2:k≤10)(l:List FuncId)(hl:kU[k]? =some l)(qs:List (yj σ))(hlen:l.length=qs.length)(hll:l.length≤100)(s:σ)(X:World)(cs:Array Value)(hqs:∀(j:Nat) (F:FuncId) (q:yj σ),l[j]? =some F→qs[j]? =some q→JV G R O q b T v kd F X cs (decide (j+1=l.length)))(hR:R s X)(hX:X.heap[b]? =some (.cells cs 37 (0,0)))(hm:Yo cs kd)(hG:∀(j:Nat) (s' :σ) (cs' :Array Value),yz ((zk num (zt kd)::zk num (toQ kd)::qs).take j) s cs=some (s',cs')→G s'):
 Calls Tryz.prog 56 #[.pointer (some ⟨b,0,none⟩),.iface T v] X (jr R O (yz (zk num (zt kd)::zk num (toQ kd)::qs) s cs) b X):=by
 obtain⟨B,hB⟩:∃B,B=X.alloc (.cells #[.pointer (some ⟨b,0,none⟩),.iface T v] 146):=⟨_,rfl⟩
 have hb:Below X.heap.size X B:=by rw[hB];exact (BrQ _ _).alloc (NlrQ _) _
 have eB:B.heap[X.heap.size]? =some (.cells #[.pointer (some ⟨b,0,none⟩),.iface T v] 146 (0,0)):=by rw[hB];exact hanQ _ _
 have hXb:b<X.heap.size:=lohQ hX
 have hBX:=(hb.block _ hXb).trans hX
 have hRB:=H.keep s X B hR (fun q hq _=>hb.block q hq) hb.size
 have hno:∀q,X.heap.size≤q→¬(O q∨q=b):=fun q hq h=>by
  rcases h with h | h
  · have:=H.inn s X q hR h;omega
  · omega
 obtain⟨N,hN⟩:∃N,N=yz (zk num (zt kd)::zk num (toQ kd)::qs) s cs:=⟨_,rfl⟩
 rw[←hN]
 have HN:=hH hN
 have HG:=hH hG
 have HM:=hH hm
 have HNO:=hH hno
 have HH:=hH H
 have HL:=hH (aN hl (aN hlen (aN hqs (aN hll (aN hk1 (aN hk2 hk))))))
 have HB:=hH (aN (zA hb (fun q=>O q∨q=b)) (aN hB (aN hBX (aN eB hRB))))
 have k0:B.cell? ⟨X.heap.size,0,none⟩=some (.pointer (some ⟨b,0,none⟩)):=by rw[corQ _ _ 0 _ _ _ eB];rfl
 have k1:B.cell? ⟨X.heap.size,1,none⟩=some (.iface T v):=by rw[corQ _ _ 1 _ _ _ eB];rfl
 clear hG hb hB eB hXb hBX hRB hR hX hm hno H hN hl hlen hqs hll hk hk1 hk2
 go_enter Tryz.func56,Tryz.ntmps56
 go_upto_region 1 with fail
 change Code.wp _ _ _ _ (X.alloc (.cells #[.pointer (some ⟨b,0,none⟩),.iface T v] 146))
 rw[←HB.out.2.1]
 go_wp2_with fail
 obtain⟨n1,hn1⟩:=HM.out.nums 1 om om
 refine ((JE HH.out kd).does s B cs n1 HB.out.2.2.2.2 HB.out.2.2.1 hn1 HM.out.kind).mono ?_
 intro e W1 hq
 have e1:vE cs (zt kd).1=n1:=jZ hn1
 unfold zI at hq
 cases ho:num s n1 (zt kd).2.1 (zt kd).2.2 with
 | none=>
   rw[ho] at hq
   obtain⟨rfl,ht⟩:=hq
   exact⟨rfl,jr.none (by rw[HN.out,yz,zk,e1,ho]) (HB.out.1.yg ht)⟩
 | some ms=>
 obtain⟨m1,s1⟩:=ms
 rw[ho] at hq
 obtain⟨rfl,hr1,hc1,ht1⟩:=hq
 have hr1:=hr1 (HG.out 1 s1 (cs.setIfInBounds (zt kd).1 (.int .i64 m1)) (by simp only[List.take_succ_cons,List.take_zero,yz,zk,e1,ho]))
 have hm1:=HM.out.set (i:=1) om m1
 have htl1:kK cs (cs.setIfInBounds 1 (.int .i64 m1)):=kK.set (fun _ _=>rfl) om m1
 obtain⟨cs1,hcs1⟩:∃cs1,cs1=cs.setIfInBounds (zt kd).1 (.int .i64 m1):=⟨_,rfl⟩
 rw[←hcs1] at hc1
 rw[show cs.setIfInBounds 1 (.int .i64 m1)=cs1 from hcs1.symm] at hm1 htl1
 have HTL1:=hH htl1
 clear htl1
 have HG1:=hH (fun (j:Nat) (s' :σ) (cs' :Array Value) (h:yz ((zk num (toQ kd)::qs).take j) s1 cs1=some (s',cs'))=>HG.out (j+1) s' cs' (by rw[List.take_succ_cons,yz,zk,e1,ho];rw[hcs1] at h;exact h))
 have HN1:=hH (show N=yz (zk num (toQ kd)::qs) s1 cs1 by rw[HN.out,yz,zk,e1,ho,hcs1])
 have ht:=HB.out.1.yg ht1
 have eP1:=(ht1.block X.heap.size (lohQ HB.out.2.2.2.1) (HNO.out _ (NlrQ _))).trans HB.out.2.2.2.1
 have H1:=hH (aN hr1 (aN hc1 (aN hm1 (aN ht eP1))))
 clear hn1 e1 ho hr1 hc1 ht1 hm1 hcs1 ht k0 k1 HN HM HB HG
 have k0:W1.cell? ⟨X.heap.size,0,none⟩=some (.pointer (some ⟨b,0,none⟩)):=by rw[corQ _ _ 0 _ _ _ eP1];rfl
 have k1:W1.cell? ⟨X.heap.size,1,none⟩=some (.iface T v):=by rw[corQ _ _ 1 _ _ _ eP1];rfl
 clear eP1
 go_wp2_with fail
 obtain⟨n2,hn2⟩:=H1.out.2.2.1.nums 2 om om
 refine ((zdb HH.out kd).does s1 W1 cs1 n2 H1.out.1 H1.out.2.1 hn2 H1.out.2.2.1.kind).mono ?_
 intro e W2 hq
 have e1:vE cs1 (toQ kd).1=n2:=jZ hn2
 unfold zI at hq
 cases ho:num s1 n2 (toQ kd).2.1 (toQ kd).2.2 with
 | none=>
   rw[ho] at hq
   obtain⟨rfl,ht⟩:=hq
   exact⟨rfl,jr.none (by rw[HN1.out,yz,zk,e1,ho]) (H1.out.2.2.2.1.yg ht)⟩
 | some ms=>
 obtain⟨m2,s2⟩:=ms
 rw[ho] at hq
 obtain⟨rfl,hr1,hc1,ht1⟩:=hq
 have hr1:=hr1 (HG1.out 1 s2 (cs1.setIfInBounds (toQ kd).1 (.int .i64 m2)) (by simp only[List.take_succ_cons,List.take_zero,yz,zk,e1,ho]))
 have hm1:=H1.out.2.2.1.set (i:=2) om m2
 have htl1:kK cs (cs1.setIfInBounds 2 (.int .i64 m2)):=kK.set HTL1.out om m2
 obtain⟨cs2,hcs2⟩:∃cs2,cs2=cs1.setIfInBounds (toQ kd).1 (.int .i64 m2):=⟨_,rfl⟩
 rw[←hcs2] at hc1
 rw[show cs1.setIfInBounds 2 (.int .i64 m2)=cs2 from hcs2.symm] at hm1 htl1
 have HTL2:=hH htl1
 clear htl1 HTL1
 have HG2:=hH (fun (j:Nat) (s' :σ) (cs' :Array Value) (h:yz (qs.take j) s2 cs2=some (s',cs'))=>HG1.out (j+1) s' cs' (by rw[List.take_succ_cons,yz,zk,e1,ho];rw[hcs2] at h;exact h))
 have HN2:=hH (show N=yz qs s2 cs2 by rw[HN1.out,yz,zk,e1,ho,hcs2])
 have ht:=H1.out.2.2.2.1.yg ht1
 have eP2:=(ht1.block X.heap.size (lohQ H1.out.2.2.2.2) (HNO.out _ (NlrQ _))).trans H1.out.2.2.2.2
 have H2:=hH (aN hr1 (aN hc1 (aN hm1 (aN ht eP2))))
 clear hn2 e1 ho hr1 hc1 ht1 hm1 hcs2 ht k0 k1 HN1 H1 HG1 eP2
 have HKD:=hH (fun (Y:World) (hY:Below W2.heap.size W2 Y)=>(show Y.cell? ⟨X.heap.size,0,none⟩=some (.pointer (some ⟨b,0,none⟩))∧Y.cell? ⟨X.heap.size,1,none⟩=some (.iface T v)∧Y.cell? ⟨b,0,none⟩=some (.int .i8 kd) by
  have eP:=(hY.block _ (lohQ H2.out.2.2.2.2)).trans H2.out.2.2.2.2
  have eM:=(hY.block _ (lohQ H2.out.2.1)).trans H2.out.2.1
  exact⟨by rw[corQ _ _ 0 _ _ _ eP];rfl,by rw[corQ _ _ 1 _ _ _ eP];rfl,by rw[corQ _ _ 0 _ _ _ eM];exact H2.out.2.2.1.kind⟩))
 go_upto_region 3 with fail
 refine wrhQ (S:=fun Y=>Below W2.heap.size W2 Y) kr1 (yD (BrQ _ _) 1) (fun eH=>?_)
 refine tJ (i:=0) (.agg #[.pointer (some ⟨b,0,none⟩),.iface T v]) rfl ?_ ?_
 · exact ua5
 simp only[Act.put,pg]
 refine tJ (i:=2) (.pointer (some ⟨b,0,none⟩)) rfl ?_ ?_
 · clear eH;intro Y hSw;clear hSw;go_simp
 simp only[Act.put,pg]
 refine tJ (i:=3) (.pointer (some ⟨b,0,none⟩)) rfl ?_ ?_
 · clear eH;intro Y hSw;clear hSw;go_simp
 simp only[Act.put,pg]
 refine tJ (i:=4) (.pointer (some ⟨b,0,none⟩)) rfl ?_ ?_
 · clear eH;intro Y hSw;clear hSw;go_simp
 simp only[Act.put,pg]
 refine tJ (i:=5) (.int .i8 kd) rfl ?_ ?_
 · exact ua5
 simp only[Act.put,pg]
 refine tJ (i:=8) (.int .i64 0) rfl ?_ ?_
 · clear eH;intro Y hSw;clear hSw;go_simp
 simp only[Act.put,pg]
 refine rd [1] ?_
 refine AcQ (o:=_) rfl (fun K hK=>?_) AnQ
 rw[ipQ ue4]
 simp only[pg3]
 have HK:=hH hK
 have HS:=hH eH
 clear hK eH
 go_wp2_with fail
 refine (QB _ b T v).mono ?_
 rintro e W3 ⟨A,rfl,hA,htab,hb3⟩
 have hb23:=HS.out.trans (hb3.mono HS.out.size)
 obtain⟨r,hAk,hr,hrow⟩:=htab k l HL.out.2.2.2.2.1 HL.out.1
 have H3:=hH (aN hb23 (aN hrow (aN (show W2.heap.size≤r from hr) (aN hA hAk))))
 clear hA htab hb3 hAk hr hrow
 go_wp2_with fail
 refine HK.out _ _ hb23 (fun eH=>?_)
 clear HK HS hb23
 obtain⟨ll,hll⟩:∃ll,ll=l.length:=⟨_,rfl⟩
 have HLL:=hH hll
 have hidx:∀w:World,(Instr.index 148 (.agg A) (.int .i8 kd)).run Tryz.prog w= .ok (.slice (some ⟨r,0,none⟩) ll ll) w:=fun w=>by
  rw[HL.out.2.2.2.2.2.2]
  exact JB w A H3.out.2.2.2.1 k HL.out.2.2.2.2.1 HL.out.2.2.2.2.2.1 _ (by rw[hll];exact H3.out.2.2.2.2)
 clear hll
 refine tJ (i:=6) (.slice (some ⟨r,0,none⟩) ll ll) rfl ?_ ?_
 · clear eH;intro Y hSw;clear hSw;simp[execOp,Act.eval,hidx]
 simp only[Act.put,pg]
 clear hidx
 refine tJ (i:=7) (.int .i64 (ll:Int)) rfl ?_ ?_
 · clear eH;intro Y hSw;clear hSw;go_simp
 simp only[Act.put,pg]
 refine wpAnyH_done kr1 ?_ _
 clear eH HKD
 have hl100:ll≤100:=by rw[HLL.out];exact HL.out.2.2.2.1
 have HR3:=hH (HH.out.keep s2 W2 W3 H2.out.1 (fun q h _=>H3.out.1.block q h) H3.out.1.size)
 have HM3:=hH ((H3.out.1.block b (lohQ H2.out.2.1)).trans H2.out.2.1)
 go_wp2_with fail
 go_loopw [22] (fun i wr=>∃j:Nat,j≤ll∧i= .int .i64 (j:Int)∧Hid (∃s' cs',yz (qs.take j) s2 cs2=some (s',cs')∧R s' wr∧wr.heap[b]? =some (.cells cs' 37 (0,0))∧(j<ll→Yo cs' kd∧kK cs cs')∧zb W3 wr (fun q=>O q∨q=b))) (fun i _=>ll - (intOf i).toNat)
 case atStart=>exact⟨0,NzlQ _,rfl,hH ⟨s2,cs2,rfl,HR3.out,HM3.out,fun _=>⟨H2.out.2.2.1,HTL2.out⟩,⟨rfl,rfl,rfl,NlrQ _,fun _ _ _=>rfl⟩⟩⟩
 case round=>
  obtain⟨j,hj,rfl,hh⟩:=hrel
  obtain⟨wo,hwo⟩:∃wo,wo=wr:=⟨_,rfl⟩
  subst hwo
  obtain⟨s',cs',hrun,hrr,hcc,hmm,htt⟩:=hh.out
  clear hh
  by_cases hlt:j<ll
  · obtain⟨F,hF⟩:∃F,l[j]? =some F:=⟨_,List.getElem?_eq_getElem (by rw[←HLL.out];exact hlt)⟩
    obtain⟨q,hq⟩:∃q,qs[j]? =some q:=⟨_,List.getElem?_eq_getElem (by rw[←HL.out.2.1,←HLL.out];exact hlt)⟩
    have HF:=hH (HL.out.2.2.1 j F q hF hq)
    have hji:(j:Int)<(ll:Int):=by omega
    have hj0:(0:Int)≤(j:Int):=by omega
    have hj2:(j:Int)≤100:=by omega
    have hrow:wo.heap[r]? =some (.cells (l.map (mfV (.agg #[.pointer (some ⟨b,0,none⟩),.iface T v]))).toArray 1 (0,0)):=(htt.block r (lohQ H3.out.2.1) (HNO.out r (NltQ (Nat.le_of_lt (lohQ H2.out.2.2.2.2)) H3.out.2.2.1))).trans H3.out.2.1
    have rj:wo.cell? ⟨r,j,none⟩=some (.func (.func F) #[.agg #[.pointer (some ⟨b,0,none⟩),.iface T v]] #[]):=by
     rw[corQ _ _ j _ _ _ hrow]
     simp[hF,mfV]
    have hen:=HF.out.enter
    have hdo:=HF.out.does s' wo cs' hrr (H2.out.2.2.2.1.yg ((zA H3.out.1 _).yg htt)) hcc (hmm hlt).1 (hmm hlt).2
    have HD:=hH (aN hdo (aN hrun (aN hq (aN (hmm hlt) htt))))
    clear hdo hrun hq hmm htt hrr hcc hrow hF hj
    go_wp2_with fail
    refine HD.out.1.mono ?_
    intro e W6 hq
    unfold zbZ at hq
    cases ho:q s' cs' with
    | none=>
      rw[ho] at hq
      obtain⟨rfl,ht⟩:=hq
      refine⟨rfl,jr.none (by rw[HN2.out];exact JM HD.out.2.1 HD.out.2.2.1 ho) (H2.out.2.2.2.1.yg ((zA H3.out.1 _).yg (HD.out.2.2.2.2.yg ht)))⟩
    | some ms=>
      obtain⟨t,ct⟩:=ms
      rw[ho] at hq
      obtain⟨rfl,hr6,hc6,ht6⟩:=hq
      have hr6:=hr6 (HG2.out _ _ _ (YA HD.out.2.1 HD.out.2.2.1 ho))
      have hnx:j+1<ll→Yo ct kd∧kK cs ct:=fun h=>HF.out.keep (by rw[←HLL.out];exact decide_eq_false om) s' cs' t ct ho HD.out.2.2.2.1.1 HD.out.2.2.2.1.2
      have HQ:=hH (aN (YA HD.out.2.1 HD.out.2.2.1 ho) (aN hr6 (aN hc6 (aN hnx (HD.out.2.2.2.2.yg ht6)))))
      have HJ:=hH hlt
      clear ho hr6 hc6 ht6 rj hlt hnx
      exact sg6
  · have hji:¬(j:Int)<(ll:Int):=by omega
    exact se6
structure Jk {σ α:Type} (G:σ→Prop) (R:σ→World→Prop) (O:Nat→Prop) (val:σ→Option (α×σ)) (out:α→Value) (b:Nat) (T:TypeId) (v rv:Value) (fn:FuncId) (name:String) (X0:World) (av:Value):Prop where
 jH:∀w,(method 397 T v name).run Tryz.prog w= .ok (fn,rv) w
 enter:∀(args:Array Value) (w:World),(callFunc fn args).run Tryz.prog w= .ok (.enter fn args) w
 does:∀(s:σ) (X:World),R s X→zb X0 X (fun q=>O q∨q=b)→Calls Tryz.prog fn #[rv,av] X (fun e X'=>match val s with
  | some (m,s')=>e= .returned (out m)∧(G s'→R s' X')∧zb X X' O
  | none=>e= .panicked jQ∧zb X X' O)
 keep:∀(s:σ) (X X' :World),R s X→(∀q,q<X.heap.size→q≠b→X'.heap[q]? =X.heap[q]?)→X.heap.size≤X'.heap.size→R s X'
 apart:¬O b
 inn:∀(s:σ) (X:World) (q:Nat),R s X→O q→q<X.heap.size
def zam (m:Option Addr×Nat×Nat):Value:= .slice m.1 m.2.1 m.2.2
def Qk (m:Int×Int×ByteArray×Option Addr×Nat×Nat):Value:= .agg #[.int .i64 m.1,.int .i64 m.2.1,.string m.2.2.1,.slice m.2.2.2.1 m.2.2.2.2.1 m.2.2.2.2.2]
def ji {σ:Type}(val:σ→Option ((Option Addr×Nat×Nat)×σ)):yj σ:=fun s cs=>match val s with
 | some (m,s')=>some (s',cs.setIfInBounds 11 (.slice m.1 m.2.1 m.2.2))
 | none=>none
def qG {σ:Type}(val:σ→Option ((Int×Int×ByteArray×Option Addr×Nat×Nat)×σ)):yj σ:=fun s cs=>match val s with
 | some (m,s')=>some (s',(((cs.setIfInBounds 12 (.int .i64 m.1)).setIfInBounds 13 (.int .i64 m.2.1)).setIfInBounds 14 (.string m.2.2.1)).setIfInBounds 15 (.slice m.2.2.2.1 m.2.2.2.2.1 m.2.2.2.2.2))
 | none=>none
theorem YL {σ:Type}{G:σ→Prop}{R:σ→World→Prop}{O:Nat→Prop}{val:σ→Option ((Option Addr×Nat×Nat)×σ)}{b:Nat}{T:TypeId}{v rv:Value}{fn:FuncId}{X0:World}(sa:Option Addr)(sn sc:Nat)(H:Jk G R O val zam b T v rv fn "allotment/wire.steps" X0 (.slice sa sn sc))(s:σ)(X:World)(cs:Array Value)(hR:R s X)(hT:zb X0 X (fun q=>O q∨q=b))(hX:X.heap[b]? =some (.cells cs 37 (0,0)))(hn:cs[11]? =some (.slice sa sn sc)):
 Calls Tryz.prog 152 #[.agg #[.pointer (some ⟨b,0,none⟩),.iface T v]] X (zbZ G R O (ji val s cs) b X):=by
 obtain⟨B,hB⟩:∃B,B=X.alloc (.cells #[.pointer (some ⟨b,0,none⟩),.iface T v] 146):=⟨_,rfl⟩
 have hb:Below X.heap.size X B:=by rw[hB];exact (BrQ _ _).alloc (NlrQ _) _
 have eB:B.heap[X.heap.size]? =some (.cells #[.pointer (some ⟨b,0,none⟩),.iface T v] 146 (0,0)):=by rw[hB];exact hanQ _ _
 have hXb:b<X.heap.size:=lohQ hX
 have hBX:=(hb.block _ hXb).trans hX
 have hRB:=H.keep s X B hR (fun q hq _=>hb.block q hq) hb.size
 obtain⟨SW,hSW⟩:∃SW:World→Prop,SW=fun Y=>Y.heap[X.heap.size]? =some (.cells #[.pointer (some ⟨b,0,none⟩),.iface T v] 146 (0,0)):=⟨_,rfl⟩
 have HP:=hH (fun (Y:World) (h:SW Y)=>(show Y.cell? ⟨X.heap.size,0,none⟩=some (.pointer (some ⟨b,0,none⟩))∧Y.cell? ⟨X.heap.size,1,none⟩=some (.iface T v) by
  rw[hSW] at h
  exact⟨by rw[corQ _ _ 0 _ _ _ h];rfl,by rw[corQ _ _ 1 _ _ _ h];rfl⟩))
 have hS0:SW B.drew:=by rw[hSW];exact eB
 have HSM:=hH (fun (Y:World) (h:Y.heap[X.heap.size]? =B.heap[X.heap.size]?)=>(show SW Y by rw[hSW];exact h.trans eB))
 have HB:=hH (aN hb (aN hB (aN hBX (aN hXb (show X.heap.size<B.heap.size from lohQ eB)))))
 have HH:=hH H
 have HR:=hH hRB
 have c0:B.drew.cell? ⟨b,11,none⟩=some (.slice sa sn sc):=by show B.cell? _=_;rw[corQ _ _ 11 _ _ _ hBX];exact hn
 have HI:=hH (fun q (h:O q)=>H.inn s X q hR h)
 have HN:=hH hn
 have HTT:=hH (show zb X0 B.drew (fun q=>O q∨q=b) from ZF (hT.yg (zA hb _)) 1)
 have hm:=H.jH
 have he:=H.enter
 clear hb hB eB hXb hBX hRB hSW hR hX hn H hT
 go_enter Tryz.func152,Tryz.ntmps152
 go_upto_region 1 with fail
 change Code.wp _ _ _ _ (X.alloc (.cells #[.pointer (some ⟨b,0,none⟩),.iface T v] 146))
 rw[←HB.out.2.1]
 refine wrhQ (S:=SW) kr1 hS0 (fun eH=>?_)
 clear hS0
 refine tJ (i:=0) (.pointer (some ⟨X.heap.size,0,none⟩)) rfl ?_ ?_
 · clear eH;intro Y hSw;clear hSw;go_simp
 simp only[Act.put,pg]
 refine tJ (i:=1) (.pointer (some ⟨b,0,none⟩)) rfl ?_ ?_
 · exact ua6
 simp only[Act.put,pg]
 refine tJ (i:=2) (.pointer (some ⟨X.heap.size,1,none⟩)) rfl ?_ ?_
 · clear eH;intro Y hSw;clear hSw;go_simp
 simp only[Act.put,pg]
 refine tJ (i:=3) (.iface T v) rfl ?_ ?_
 · exact ua6
 simp only[Act.put,pg]
 refine tJ (i:=4) (.pointer (some ⟨X.heap.size,0,none⟩)) rfl ?_ ?_
 · clear eH;intro Y hSw;clear hSw;go_simp
 simp only[Act.put,pg]
 refine tJ (i:=5) (.pointer (some ⟨b,0,none⟩)) rfl ?_ ?_
 · exact ua6
 simp only[Act.put,pg]
 refine tJ (i:=6) (.pointer (some ⟨b,0,none⟩)) rfl ?_ ?_
 · clear eH;intro Y hSw;clear hSw;go_simp
 simp only[Act.put,pg]
 refine tJ (i:=7) (.pointer (some ⟨b,11,none⟩)) rfl ?_ ?_
 · clear eH;intro Y hSw;clear hSw;go_simp
 simp only[Act.put,pg]
 refine tJ (i:=9) (.iface T v) rfl ?_ ?_
 · clear eH;intro Y hSw;clear hSw;go_simp
 simp only[Act.put,pg]
 refine tJ (i:=10) (.iface T v) rfl ?_ ?_
 · clear eH;intro Y hSw;clear hSw;go_simp
 simp only[Act.put,pg]
 have hH0:=eH
 refine rd [8] ?_
 refine AcQ (o:=_) rfl (fun K hK=>?_) AnQ
 rw[ipQ ue4]
 simp only[pg3]
 have HK:=hH hK
 have HS:=hH eH
 clear hK eH
 go_wp2_with fail
 refine HK.out _ _ hH0 (fun eH=>?_)
 clear HK HS c0 hH0
 refine rd [11] ?_
 refine AcQ (o:=_) rfl (fun K hK=>?_) AnQ
 rw[ipQ ue4]
 simp only[pg3]
 have HK:=hH hK
 have HS:=hH eH
 clear hK eH
 go_wp2_with fail
 refine (HH.out.does s B.drew (HH.out.keep s B B.drew HR.out (fun _ _ _=>rfl) (NlrQ _)) HTT.out).mono ?_
 intro e W' hq
 cases ho:val s with
 | none=>
   rw[ho] at hq
   obtain⟨rfl,ht⟩:=hq
   refine⟨rfl,?_⟩
   unfold ji
   rw[ho]
   exact sa9
 | some ms=>
   obtain⟨⟨m0,m1,m2⟩,s'⟩:=ms
   rw[ho] at hq
   obtain⟨rfl,hr,ht⟩:=hq
   have hbW:W'.heap[b]? =some (.cells cs 37 (0,0)):=(ht.block b (nL HB.out.2.2.2.1 HB.out.1.size) HH.out.apart).trans HB.out.2.2.1
   have hpW:W'.heap[X.heap.size]? =B.heap[X.heap.size]?:=ht.block _ HB.out.2.2.2.2 (fun h=>by have:=HI.out _ h;omega)
   have HW:=hH (aN hbW (aN hpW (aN hr ht)))
   obtain⟨Z0,hZ0⟩:∃Z0,Z0=W'.setCell ⟨b,11,none⟩ (.slice m0 m1 m2):=⟨_,rfl⟩
   have hZ0s:zb W' Z0 (fun q=>q=b):=by rw[hZ0];exact zB
   have hZ0b:Z0.heap[b]? =some (.cells (cs.setIfInBounds 11 (.slice m0 m1 m2)) 37 (0,0)):=by rw[hZ0];exact hssQ _ _ _ _ _ _ hbW
   have hZs:zb W' Z0 (fun q=>q=b):=hZ0s
   have d0:W'.cell? ⟨b,11,none⟩=some (.slice sa sn sc):=by rw[corQ _ _ 11 _ _ _ hbW];exact HN.out
   have f0:∀j,W'.frozen? ⟨b,j,none⟩=false:=fun j=>forQ _ _ j _ _ hbW
   have hE:zbZ G R O (some (s',(cs.setIfInBounds 11 (.slice m0 m1 m2)))) b X (.returned (.tuple #[])) Z0:=by
    refine⟨rfl,fun g=>HH.out.keep s' W' Z0 (hr g) (fun q h1 h2=>hZs.block q h1 h2) hZs.size,hZ0b,?_⟩
    exact sa4
   have HE:=hH (aN hE (show Z0.heap[X.heap.size]? =B.heap[X.heap.size]? from (hZs.block _ (nL HB.out.2.2.2.2 ht.size) uc1).trans hpW))
   have HO:=hH ho
   have HZC:=hH (show Z0=(W'.setCell ⟨b,11,none⟩ (.slice m0 m1 m2)) by rw[hZ0])
   clear hbW hpW hr ht hZs hZ0s hZ0b hZ0 hE ho
   unfold zam
   go_wp2_with fail
   refine HK.out _ _ (HSM.out _ HW.out.2.1) (fun eH=>?_)
   clear HK HS
   refine tJ (i:=12) (.pointer (some ⟨b,0,none⟩)) rfl ?_ ?_
   · clear eH;intro Y hSw;clear hSw;go_simp
   simp only[Act.put,pg]
   refine tJ (i:=13) (.pointer (some ⟨b,11,none⟩)) rfl ?_ ?_
   · clear eH;intro Y hSw;clear hSw;go_simp
   simp only[Act.put,pg]
   refine rd [14] ?_
   refine AcQ (o:=_) rfl (fun K hK=>?_) AnQ
   rw[ipQ ue4]
   simp only[pg3]
   have HK:=hH hK
   have HS:=hH eH
   clear hK eH
   go_wp2_with fail
   rw[←HZC.out]
   refine HK.out _ _ (HSM.out _ HE.out.2) (fun eH=>?_)
   clear HK HS d0 f0
   refine wpAnyH_done kr1 ?_ _
   clear eH
   go_wp2_with fail
   go_end0
   unfold ji
   rw[HO.out]
   exact HE.out.1
theorem QA {σ:Type}{G:σ→Prop}{R:σ→World→Prop}{O:Nat→Prop}{val:σ→Option ((Int×Int×ByteArray×Option Addr×Nat×Nat)×σ)}{b:Nat}{T:TypeId}{v rv:Value}{fn:FuncId}{X0:World}(ti tk:Int)(tt:ByteArray)(ta:Option Addr)(tn tc:Nat)(H:Jk G R O val Qk b T v rv fn "allotment/wire.tree" X0 (.agg #[.int .i64 ti,.int .i64 tk,.string tt,.slice ta tn tc]))(s:σ)(X:World)(cs:Array Value)(hR:R s X)(hT:zb X0 X (fun q=>O q∨q=b))(hX:X.heap[b]? =some (.cells cs 37 (0,0)))(hn:cs[12]? =some (.int .i64 ti)∧cs[13]? =some (.int .i64 tk)∧cs[14]? =some (.string tt)∧cs[15]? =some (.slice ta tn tc)):
 Calls Tryz.prog 150 #[.agg #[.pointer (some ⟨b,0,none⟩),.iface T v]] X (zbZ G R O (qG val s cs) b X):=by
 obtain⟨B,hB⟩:∃B,B=X.alloc (.cells #[.pointer (some ⟨b,0,none⟩),.iface T v] 146):=⟨_,rfl⟩
 have hb:Below X.heap.size X B:=by rw[hB];exact (BrQ _ _).alloc (NlrQ _) _
 have eB:B.heap[X.heap.size]? =some (.cells #[.pointer (some ⟨b,0,none⟩),.iface T v] 146 (0,0)):=by rw[hB];exact hanQ _ _
 have hXb:b<X.heap.size:=lohQ hX
 have hBX:=(hb.block _ hXb).trans hX
 have hRB:=H.keep s X B hR (fun q hq _=>hb.block q hq) hb.size
 obtain⟨SW,hSW⟩:∃SW:World→Prop,SW=fun Y=>Y.heap[X.heap.size]? =some (.cells #[.pointer (some ⟨b,0,none⟩),.iface T v] 146 (0,0)):=⟨_,rfl⟩
 have HP:=hH (fun (Y:World) (h:SW Y)=>(show Y.cell? ⟨X.heap.size,0,none⟩=some (.pointer (some ⟨b,0,none⟩))∧Y.cell? ⟨X.heap.size,1,none⟩=some (.iface T v) by
  rw[hSW] at h
  exact⟨by rw[corQ _ _ 0 _ _ _ h];rfl,by rw[corQ _ _ 1 _ _ _ h];rfl⟩))
 have hS0:SW B.drew:=by rw[hSW];exact eB
 have HSM:=hH (fun (Y:World) (h:Y.heap[X.heap.size]? =B.heap[X.heap.size]?)=>(show SW Y by rw[hSW];exact h.trans eB))
 have HB:=hH (aN hb (aN hB (aN hBX (aN hXb (show X.heap.size<B.heap.size from lohQ eB)))))
 have HH:=hH H
 have HR:=hH hRB
 have c0:B.drew.cell? ⟨b,12,none⟩=some (.int .i64 ti):=by show B.cell? _=_;rw[corQ _ _ 12 _ _ _ hBX];exact hn.1
 have c1:B.drew.cell? ⟨b,13,none⟩=some (.int .i64 tk):=by show B.cell? _=_;rw[corQ _ _ 13 _ _ _ hBX];exact hn.2.1
 have c2:B.drew.cell? ⟨b,14,none⟩=some (.string tt):=by show B.cell? _=_;rw[corQ _ _ 14 _ _ _ hBX];exact hn.2.2.1
 have c3:B.drew.cell? ⟨b,15,none⟩=some (.slice ta tn tc):=by show B.cell? _=_;rw[corQ _ _ 15 _ _ _ hBX];exact hn.2.2.2
 have HI:=hH (fun q (h:O q)=>H.inn s X q hR h)
 have HN:=hH hn
 have HTT:=hH (show zb X0 B.drew (fun q=>O q∨q=b) from ZF (hT.yg (zA hb _)) 1)
 have hm:=H.jH
 have he:=H.enter
 clear hb hB eB hXb hBX hRB hSW hR hX hn H hT
 go_enter Tryz.func150,Tryz.ntmps150
 go_upto_region 1 with fail
 change Code.wp _ _ _ _ (X.alloc (.cells #[.pointer (some ⟨b,0,none⟩),.iface T v] 146))
 rw[←HB.out.2.1]
 refine wrhQ (S:=SW) kr1 hS0 (fun eH=>?_)
 clear hS0
 refine tJ (i:=0) (.pointer (some ⟨X.heap.size,0,none⟩)) rfl ?_ ?_
 · clear eH;intro Y hSw;clear hSw;go_simp
 simp only[Act.put,pg]
 refine tJ (i:=1) (.pointer (some ⟨b,0,none⟩)) rfl ?_ ?_
 · exact ua6
 simp only[Act.put,pg]
 refine tJ (i:=2) (.pointer (some ⟨X.heap.size,1,none⟩)) rfl ?_ ?_
 · clear eH;intro Y hSw;clear hSw;go_simp
 simp only[Act.put,pg]
 refine tJ (i:=3) (.iface T v) rfl ?_ ?_
 · exact ua6
 simp only[Act.put,pg]
 refine tJ (i:=4) (.pointer (some ⟨X.heap.size,0,none⟩)) rfl ?_ ?_
 · clear eH;intro Y hSw;clear hSw;go_simp
 simp only[Act.put,pg]
 refine tJ (i:=5) (.pointer (some ⟨b,0,none⟩)) rfl ?_ ?_
 · exact ua6
 simp only[Act.put,pg]
 refine tJ (i:=6) (.pointer (some ⟨b,0,none⟩)) rfl ?_ ?_
 · clear eH;intro Y hSw;clear hSw;go_simp
 simp only[Act.put,pg]
 refine tJ (i:=7) (.pointer (some ⟨b,12,none⟩)) rfl ?_ ?_
 · clear eH;intro Y hSw;clear hSw;go_simp
 simp only[Act.put,pg]
 refine tJ (i:=9) (.iface T v) rfl ?_ ?_
 · clear eH;intro Y hSw;clear hSw;go_simp
 simp only[Act.put,pg]
 refine tJ (i:=10) (.iface T v) rfl ?_ ?_
 · clear eH;intro Y hSw;clear hSw;go_simp
 simp only[Act.put,pg]
 have hH0:=eH
 refine rd [8] ?_
 refine AcQ (o:=_) rfl (fun K hK=>?_) AnQ
 rw[ipQ ue4]
 simp only[pg3]
 have HK:=hH hK
 have HS:=hH eH
 clear hK eH
 go_wp2_with fail
 refine HK.out _ _ hH0 (fun eH=>?_)
 clear HK HS c0 c1 c2 c3 hH0
 refine rd [11] ?_
 refine AcQ (o:=_) rfl (fun K hK=>?_) AnQ
 rw[ipQ ue4]
 simp only[pg3]
 have HK:=hH hK
 have HS:=hH eH
 clear hK eH
 go_wp2_with fail
 refine (HH.out.does s B.drew (HH.out.keep s B B.drew HR.out (fun _ _ _=>rfl) (NlrQ _)) HTT.out).mono ?_
 intro e W' hq
 cases ho:val s with
 | none=>
   rw[ho] at hq
   obtain⟨rfl,ht⟩:=hq
   refine⟨rfl,?_⟩
   unfold qG
   rw[ho]
   exact sa9
 | some ms=>
   obtain⟨⟨m0,m1,m2,m3,m4,m5⟩,s'⟩:=ms
   rw[ho] at hq
   obtain⟨rfl,hr,ht⟩:=hq
   have hbW:W'.heap[b]? =some (.cells cs 37 (0,0)):=(ht.block b (nL HB.out.2.2.2.1 HB.out.1.size) HH.out.apart).trans HB.out.2.2.1
   have hpW:W'.heap[X.heap.size]? =B.heap[X.heap.size]?:=ht.block _ HB.out.2.2.2.2 (fun h=>by have:=HI.out _ h;omega)
   have HW:=hH (aN hbW (aN hpW (aN hr ht)))
   obtain⟨Z0,hZ0⟩:∃Z0,Z0=W'.setCell ⟨b,12,none⟩ (.int .i64 m0):=⟨_,rfl⟩
   have hZ0s:zb W' Z0 (fun q=>q=b):=by rw[hZ0];exact zB
   have hZ0b:Z0.heap[b]? =some (.cells (cs.setIfInBounds 12 (.int .i64 m0)) 37 (0,0)):=by rw[hZ0];exact hssQ _ _ _ _ _ _ hbW
   obtain⟨Z1,hZ1⟩:∃Z1,Z1=Z0.setCell ⟨b,13,none⟩ (.int .i64 m1):=⟨_,rfl⟩
   have hZ1s:zb Z0 Z1 (fun q=>q=b):=by rw[hZ1];exact zB
   have hZ1b:Z1.heap[b]? =some (.cells ((cs.setIfInBounds 12 (.int .i64 m0)).setIfInBounds 13 (.int .i64 m1)) 37 (0,0)):=by rw[hZ1];exact hssQ _ _ _ _ _ _ hZ0b
   obtain⟨Z2,hZ2⟩:∃Z2,Z2=Z1.setCell ⟨b,14,none⟩ (.string m2):=⟨_,rfl⟩
   have hZ2s:zb Z1 Z2 (fun q=>q=b):=by rw[hZ2];exact zB
   have hZ2b:Z2.heap[b]? =some (.cells (((cs.setIfInBounds 12 (.int .i64 m0)).setIfInBounds 13 (.int .i64 m1)).setIfInBounds 14 (.string m2)) 37 (0,0)):=by rw[hZ2];exact hssQ _ _ _ _ _ _ hZ1b
   obtain⟨Z3,hZ3⟩:∃Z3,Z3=Z2.setCell ⟨b,15,none⟩ (.slice m3 m4 m5):=⟨_,rfl⟩
   have hZ3s:zb Z2 Z3 (fun q=>q=b):=by rw[hZ3];exact zB
   have hZ3b:Z3.heap[b]? =some (.cells ((((cs.setIfInBounds 12 (.int .i64 m0)).setIfInBounds 13 (.int .i64 m1)).setIfInBounds 14 (.string m2)).setIfInBounds 15 (.slice m3 m4 m5)) 37 (0,0)):=by rw[hZ3];exact hssQ _ _ _ _ _ _ hZ2b
   have hZs:zb W' Z3 (fun q=>q=b):=(((hZ0s.yg hZ1s).yg hZ2s).yg hZ3s)
   have d0:W'.cell? ⟨b,12,none⟩=some (.int .i64 ti):=by rw[corQ _ _ 12 _ _ _ hbW];exact HN.out.1
   have d1:W'.cell? ⟨b,13,none⟩=some (.int .i64 tk):=by rw[corQ _ _ 13 _ _ _ hbW];exact HN.out.2.1
   have d2:W'.cell? ⟨b,14,none⟩=some (.string tt):=by rw[corQ _ _ 14 _ _ _ hbW];exact HN.out.2.2.1
   have d3:W'.cell? ⟨b,15,none⟩=some (.slice ta tn tc):=by rw[corQ _ _ 15 _ _ _ hbW];exact HN.out.2.2.2
   have f0:∀j,W'.frozen? ⟨b,j,none⟩=false:=fun j=>forQ _ _ j _ _ hbW
   have hE:zbZ G R O (some (s',((((cs.setIfInBounds 12 (.int .i64 m0)).setIfInBounds 13 (.int .i64 m1)).setIfInBounds 14 (.string m2)).setIfInBounds 15 (.slice m3 m4 m5)))) b X (.returned (.tuple #[])) Z3:=by
    refine⟨rfl,fun g=>HH.out.keep s' W' Z3 (hr g) (fun q h1 h2=>hZs.block q h1 h2) hZs.size,hZ3b,?_⟩
    exact sa4
   have HE:=hH (aN hE (show Z3.heap[X.heap.size]? =B.heap[X.heap.size]? from (hZs.block _ (nL HB.out.2.2.2.2 ht.size) uc1).trans hpW))
   have HO:=hH ho
   have HZC:=hH (show Z3=((((W'.setCell ⟨b,12,none⟩ (.int .i64 m0)).setCell ⟨b,13,none⟩ (.int .i64 m1)).setCell ⟨b,14,none⟩ (.string m2)).setCell ⟨b,15,none⟩ (.slice m3 m4 m5)) by rw[hZ3,hZ2,hZ1,hZ0])
   clear hbW hpW hr ht hZs hZ0s hZ0b hZ1s hZ1b hZ2s hZ2b hZ3s hZ3b hZ0 hZ1 hZ2 hZ3 hE ho
   unfold Qk
   go_wp2_with fail
   refine HK.out _ _ (HSM.out _ HW.out.2.1) (fun eH=>?_)
   clear HK HS
   refine tJ (i:=12) (.pointer (some ⟨b,0,none⟩)) rfl ?_ ?_
   · clear eH;intro Y hSw;clear hSw;go_simp
   simp only[Act.put,pg]
   refine tJ (i:=13) (.pointer (some ⟨b,12,none⟩)) rfl ?_ ?_
   · clear eH;intro Y hSw;clear hSw;go_simp
   simp only[Act.put,pg]
   refine rd [14] ?_
   refine AcQ (o:=_) rfl (fun K hK=>?_) AnQ
   rw[ipQ ue4]
   simp only[pg3]
   have HK:=hH hK
   have HS:=hH eH
   clear hK eH
   go_wp2_with fail
   rw[←HZC.out]
   refine HK.out _ _ (HSM.out _ HE.out.2) (fun eH=>?_)
   clear HK HS d0 d1 d2 d3 f0
   refine wpAnyH_done kr1 ?_ _
   clear eH
   go_wp2_with fail
   go_end0
   unfold qG
   rw[HO.out]
   exact HE.out.1
end Go.Proofs.YtoidedomenkbpaaGreat
