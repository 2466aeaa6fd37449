/-
  .
-/
import Derived.Test.YtoidedomenkbpaaGreatWOverNQs
set_option maxRecDepth 100000
set_option maxHeartbeats 40000000
set_option linter.unusedVariables false
set_option linter.unusedSimpArgs false
namespace Go.Proofs.YtoidedomenkbpaaGreat
open Go.RowKit Go.Shelf
abbrev yt (σ:Type):=σ→Array Value→Option (σ×Array Value)
def zk {σ:Type}(num:σ→Int→Int→Int→Option (Int×σ))(q:Nat×Int×Int):yt σ:=fun s cs=>match num s (vV cs q.1) q.2.1 q.2.2 with
 | some (m,s')=>some (s',cs.setIfInBounds q.1 (.int .i64 m))
 | none=>none
def yl {σ:Type}:List (yt σ)→σ→Array Value→Option (σ×Array Value)
 | [],s,cs=>some (s,cs)
 | a ::r,s,cs=>match a s cs with
   | some (s',cs')=>yl r s' cs'
   | none=>none
theorem ZL {σ:Type}:∀{l:List (yt σ)} {j:Nat} {a:yt σ} {s s' t:σ} {cs cs' ct:Array Value},yl (l.take j) s cs=some (s',cs')→l[j]? =some a→a s' cs'=some (t,ct)→yl (l.take (j+1)) s cs=some (t,ct)
 | [],j,a,s,s',t,cs,cs',ct,_,hq,_=>by simp at hq
 | p ::r,0,a,s,s',t,cs,cs',ct,h,hq,hn=>by
   simp at hq;subst hq
   simp only[List.take_zero,yl] at h
   cases h
   simp only[Nat.zero_add,List.take_succ_cons,List.take_zero,yl,hn]
 | p ::r,j+1,a,s,s',t,cs,cs',ct,h,hq,hn=>by
   rw[List.take_succ_cons,yl] at h ⊢
   split at h
   · rename_i m1 s1 h1
     exact ZL h (by simpa using hq) hn
   · cases h
theorem Q9 {σ:Type}:∀{l:List (yt σ)} {j:Nat} {a:yt σ} {s s' :σ} {cs cs' :Array Value},yl (l.take j) s cs=some (s',cs')→l[j]? =some a→a s' cs'=none→yl l s cs=none
 | [],j,a,s,s',cs,cs',_,hq,_=>by simp at hq
 | p ::r,0,a,s,s',cs,cs',h,hq,hn=>by
   simp at hq;subst hq
   simp only[List.take_zero,yl] at h
   cases h
   rw[yl,hn]
 | p ::r,j+1,a,s,s',cs,cs',h,hq,hn=>by
   rw[List.take_succ_cons,yl] at h
   rw[yl]
   split at h
   · rename_i m1 s1 h1
     exact Q9 h (by simpa using hq) hn
   · cases h
def jE (c0 cs:Array Value):Prop:=∀i,11≤i→cs[i]? =c0[i]?
theorem jE.set {c0 cs:Array Value}(h:jE c0 cs){i:Nat}(hi:i≤10)(m:Int):jE c0 (cs.setIfInBounds i (.int .i64 m)):=fun j hj=>by
 rw[Array.getElem?_setIfInBounds_ne om1];exact h j hj
def zcB {σ:Type}(G:σ→Prop)(R:σ→World→Prop)(O:Nat→Prop)(o:Option (σ×Array Value))(b:Nat)(X:World)(e:Ending)(X' :World):Prop:=match o with
 | some (s',cs')=>e= .returned (.tuple #[])∧(G s'→R s' X')∧X'.heap[b]? =some (.cells cs' 37 (0,0))∧za X X' (fun q=>O q∨q=b)
 | none=>e= .panicked Zi∧za X X' (fun q=>O q∨q=b)
structure ZR {σ:Type} (G:σ→Prop) (R:σ→World→Prop) (O:Nat→Prop) (act:yt σ) (b:Nat) (T:TypeId) (v:Value) (kd:Int) (F:FuncId) (X0:World) (c0:Array Value) (last:Bool):Prop where
 enter:∀(args:Array Value) (w:World),(callFunc F args).run Tryz.prog w= .ok (.enter F args) w
 does:∀(s:σ) (X:World) (cs:Array Value),R s X→za X0 X (fun q=>O q∨q=b)→X.heap[b]? =some (.cells cs 37 (0,0))→Yf cs kd→jE c0 cs→Calls Tryz.prog F #[.agg #[.pointer (some ⟨b,0,none⟩),.iface T v]] X (zcB G R O (act s cs) b X)
 keep:last=false→∀(s:σ) (cs:Array Value) (s' :σ) (cs' :Array Value),act s cs=some (s',cs')→Yf cs kd→jE c0 cs→Yf cs' kd∧jE c0 cs'
theorem kS.act {σ:Type}{G:σ→Prop}{R:σ→World→Prop}{O:Nat→Prop}{num:σ→Int→Int→Int→Option (Int×σ)}{b:Nat}{T:TypeId}{v:Value}{kd:Int}{F:FuncId}{q:Nat×Int×Int}(h:kS G R O num b T v kd F q)(X0:World)(c0:Array Value)(last:Bool):ZR G R O (zk num q) b T v kd F X0 c0 last where
 enter:=h.enter
 does:=fun s X cs hR _ hX hm _=>by
  obtain⟨n,hn⟩:=hm.nums q.1 h.one.1 h.one.2
  refine (h.does s X cs n hR hX hn hm.kind).mono fun e X' hq=>?_
  unfold zJ at hq
  unfold zcB zk
  rw[kG hn]
  cases ho:num s n q.2.1 q.2.2 with
  | none=>rw[ho] at hq;exact hq
  | some ms=>rw[ho] at hq;exact hq
 keep :=fun _ s cs s' cs' ha hm ht=>by
  unfold zk at ha
  split at ha
  · rename_i m t h1
    cases ha
    exact⟨hm.set h.one.1 m,ht.set h.one.2 m⟩
  · cases ha
theorem yN {σ:Type}{G:σ→Prop}{R:σ→World→Prop}{O:Nat→Prop}{num:σ→Int→Int→Int→Option (Int×σ)}{b:Nat}{T:TypeId}{v rv:Value}{fn:FuncId}(H:qm G R O num b T v rv fn)(kd:Int)(k:Nat)(hk:kd=(k:Int))(hk1:1≤k)(hk2:k≤10)(l:List FuncId)(hl:ZH[k]? =some l)(qs:List (yt σ))(hlen:l.length=qs.length)(hll:l.length≤100)(s:σ)(X:World)(cs:Array Value)(hqs:∀(j:Nat) (F:FuncId) (q:yt σ),l[j]? =some F→qs[j]? =some q→ZR G R O q b T v kd F X cs (decide (j+1=l.length)))(hR:R s X)(hX:X.heap[b]? =some (.cells cs 37 (0,0)))(hm:Yf cs kd)(hG:∀(j:Nat) (s' :σ) (cs' :Array Value),yl ((zk num (zl kd)::zk num (toQ kd)::qs).take j) s cs=some (s',cs')→G s'):
 Calls Tryz.prog 56 #[.pointer (some ⟨b,0,none⟩),.iface T v] X (Zb R O (yl (zk num (zl kd)::zk num (toQ kd)::qs) s cs) b X):=by
 obtain⟨B,hB⟩:∃B,B=X.alloc (.cells #[.pointer (some ⟨b,0,none⟩),.iface T v] 146):=⟨_,rfl⟩
 have hb:Below X.heap.size X B:=by rw[hB];exact (BrQ _ _).alloc (NlrQ _) _
 have eB:B.heap[X.heap.size]? =some (.cells #[.pointer (some ⟨b,0,none⟩),.iface T v] 146 (0,0)):=by rw[hB];exact hanQ _ _
 have hXb:b<X.heap.size:=lohQ hX
 have hBX:=(hb.block _ hXb).trans hX
 have hRB:=H.keep s X B hR (fun q hq _=>hb.block q hq) hb.size
 have hno:∀q,X.heap.size≤q→¬(O q∨q=b):=fun q hq h=>by
  rcases h with h | h
  · have:=H.inn s X q hR h;omega
  · omega
 obtain⟨N,hN⟩:∃N,N=yl (zk num (zl kd)::zk num (toQ kd)::qs) s cs:=⟨_,rfl⟩
 rw[←hN]
 have HN:=hH hN
 have HG:=hH hG
 have HM:=hH hm
 have HNO:=hH hno
 have HH:=hH H
 have HL:=hH (aN hl (aN hlen (aN hqs (aN hll (aN hk1 (aN hk2 hk))))))
 have HB:=hH (aN (zn hb (fun q=>O q∨q=b)) (aN hB (aN hBX (aN eB hRB))))
 have k0:B.cell? ⟨X.heap.size,0,none⟩=some (.pointer (some ⟨b,0,none⟩)):=by rw[corQ _ _ 0 _ _ _ eB];rfl
 have k1:B.cell? ⟨X.heap.size,1,none⟩=some (.iface T v):=by rw[corQ _ _ 1 _ _ _ eB];rfl
 clear hG hb hB eB hXb hBX hRB hR hX hm hno H hN hl hlen hqs hll hk hk1 hk2
 go_enter Tryz.func56,Tryz.ntmps56
 go_upto_region 1 with fail
 change Code.wp _ _ _ _ (X.alloc (.cells #[.pointer (some ⟨b,0,none⟩),.iface T v] 146))
 rw[←HB.out.2.1]
 go_wp2_with fail
 obtain⟨n1,hn1⟩:=HM.out.nums 1 om1 om1
 refine ((QY HH.out kd).does s B cs n1 HB.out.2.2.2.2 HB.out.2.2.1 hn1 HM.out.kind).mono ?_
 intro e W1 hq
 have e1:vV cs (zl kd).1=n1:=kG hn1
 unfold zJ at hq
 cases ho:num s n1 (zl kd).2.1 (zl kd).2.2 with
 | none=>
   rw[ho] at hq
   obtain⟨rfl,ht⟩:=hq
   exact⟨rfl,Zb.none (by rw[HN.out,yl,zk,e1,ho]) (HB.out.1.zK ht)⟩
 | some ms=>
 obtain⟨m1,s1⟩:=ms
 rw[ho] at hq
 obtain⟨rfl,hr1,hc1,ht1⟩:=hq
 have hr1:=hr1 (HG.out 1 s1 (cs.setIfInBounds (zl kd).1 (.int .i64 m1)) uc0)
 have hm1:=HM.out.set (i:=1) om1 m1
 have htl1:jE cs (cs.setIfInBounds 1 (.int .i64 m1)):=jE.set (fun _ _=>rfl) om1 m1
 obtain⟨cs1,hcs1⟩:∃cs1,cs1=cs.setIfInBounds (zl kd).1 (.int .i64 m1):=⟨_,rfl⟩
 rw[←hcs1] at hc1
 rw[show cs.setIfInBounds 1 (.int .i64 m1)=cs1 from hcs1.symm] at hm1 htl1
 have HTL1:=hH htl1
 clear htl1
 have HG1:=hH (fun (j:Nat) (s' :σ) (cs' :Array Value) (h:yl ((zk num (toQ kd)::qs).take j) s1 cs1=some (s',cs'))=>HG.out (j+1) s' cs' (by rw[List.take_succ_cons,yl,zk,e1,ho];rw[hcs1] at h;exact h))
 have HN1:=hH (show N=yl (zk num (toQ kd)::qs) s1 cs1 by rw[HN.out,yl,zk,e1,ho,hcs1])
 have ht:=HB.out.1.zK ht1
 have eP1:=(ht1.block X.heap.size (lohQ HB.out.2.2.2.1) (HNO.out _ (NlrQ _))).trans HB.out.2.2.2.1
 have H1:=hH (aN hr1 (aN hc1 (aN hm1 (aN ht eP1))))
 clear hn1 e1 ho hr1 hc1 ht1 hm1 hcs1 ht k0 k1 HN HM HB HG
 have k0:W1.cell? ⟨X.heap.size,0,none⟩=some (.pointer (some ⟨b,0,none⟩)):=by rw[corQ _ _ 0 _ _ _ eP1];rfl
 have k1:W1.cell? ⟨X.heap.size,1,none⟩=some (.iface T v):=by rw[corQ _ _ 1 _ _ _ eP1];rfl
 clear eP1
 go_wp2_with fail
 obtain⟨n2,hn2⟩:=H1.out.2.2.1.nums 2 om1 om1
 refine ((zb6 HH.out kd).does s1 W1 cs1 n2 H1.out.1 H1.out.2.1 hn2 H1.out.2.2.1.kind).mono ?_
 intro e W2 hq
 have e1:vV cs1 (toQ kd).1=n2:=kG hn2
 unfold zJ at hq
 cases ho:num s1 n2 (toQ kd).2.1 (toQ kd).2.2 with
 | none=>
   rw[ho] at hq
   obtain⟨rfl,ht⟩:=hq
   exact⟨rfl,Zb.none (by rw[HN1.out,yl,zk,e1,ho]) (H1.out.2.2.2.1.zK ht)⟩
 | some ms=>
 obtain⟨m2,s2⟩:=ms
 rw[ho] at hq
 obtain⟨rfl,hr1,hc1,ht1⟩:=hq
 have hr1:=hr1 (HG1.out 1 s2 (cs1.setIfInBounds (toQ kd).1 (.int .i64 m2)) uc0)
 have hm1:=H1.out.2.2.1.set (i:=2) om1 m2
 have htl1:jE cs (cs1.setIfInBounds 2 (.int .i64 m2)):=jE.set HTL1.out om1 m2
 obtain⟨cs2,hcs2⟩:∃cs2,cs2=cs1.setIfInBounds (toQ kd).1 (.int .i64 m2):=⟨_,rfl⟩
 rw[←hcs2] at hc1
 rw[show cs1.setIfInBounds 2 (.int .i64 m2)=cs2 from hcs2.symm] at hm1 htl1
 have HTL2:=hH htl1
 clear htl1 HTL1
 have HG2:=hH (fun (j:Nat) (s' :σ) (cs' :Array Value) (h:yl (qs.take j) s2 cs2=some (s',cs'))=>HG1.out (j+1) s' cs' (by rw[List.take_succ_cons,yl,zk,e1,ho];rw[hcs2] at h;exact h))
 have HN2:=hH (show N=yl qs s2 cs2 by rw[HN1.out,yl,zk,e1,ho,hcs2])
 have ht:=H1.out.2.2.2.1.zK ht1
 have eP2:=(ht1.block X.heap.size (lohQ H1.out.2.2.2.2) (HNO.out _ (NlrQ _))).trans H1.out.2.2.2.2
 have H2:=hH (aN hr1 (aN hc1 (aN hm1 (aN ht eP2))))
 clear hn2 e1 ho hr1 hc1 ht1 hm1 hcs2 ht k0 k1 HN1 H1 HG1 eP2
 have HKD:=hH (fun (Y:World) (hY:Below W2.heap.size W2 Y)=>(show Y.cell? ⟨X.heap.size,0,none⟩=some (.pointer (some ⟨b,0,none⟩))∧Y.cell? ⟨X.heap.size,1,none⟩=some (.iface T v)∧Y.cell? ⟨b,0,none⟩=some (.int .i8 kd) by
  have eP:=(hY.block _ (lohQ H2.out.2.2.2.2)).trans H2.out.2.2.2.2
  have eM:=(hY.block _ (lohQ H2.out.2.1)).trans H2.out.2.1
  exact⟨by rw[corQ _ _ 0 _ _ _ eP];rfl,by rw[corQ _ _ 1 _ _ _ eP];rfl,by rw[corQ _ _ 0 _ _ _ eM];exact H2.out.2.2.1.kind⟩))
 go_upto_region 3 with fail
 refine wrhQ (S:=fun Y=>Below W2.heap.size W2 Y) kr1 (qW (BrQ _ _) 1) (fun eH=>?_)
 refine tJ (i:=0) (.agg #[.pointer (some ⟨b,0,none⟩),.iface T v]) rfl ?_ ?_
 · exact ua7
 simp only[Act.put,pg]
 refine tJ (i:=2) (.pointer (some ⟨b,0,none⟩)) rfl ?_ ?_
 · clear eH;intro Y hSw;clear hSw;go_simp
 simp only[Act.put,pg]
 refine tJ (i:=3) (.pointer (some ⟨b,0,none⟩)) rfl ?_ ?_
 · clear eH;intro Y hSw;clear hSw;go_simp
 simp only[Act.put,pg]
 refine tJ (i:=4) (.pointer (some ⟨b,0,none⟩)) rfl ?_ ?_
 · clear eH;intro Y hSw;clear hSw;go_simp
 simp only[Act.put,pg]
 refine tJ (i:=5) (.int .i8 kd) rfl ?_ ?_
 · exact ua7
 simp only[Act.put,pg]
 refine tJ (i:=8) (.int .i64 0) rfl ?_ ?_
 · clear eH;intro Y hSw;clear hSw;go_simp
 simp only[Act.put,pg]
 refine rd1 [1] ?_
 refine AcQ (o:=_) rfl (fun K hK=>?_) AnQ
 rw[ipQ ue1]
 simp only[pg3]
 have HK:=hH hK
 have HS:=hH eH
 clear hK eH
 go_wp2_with fail
 refine (YY _ b T v).mono ?_
 rintro e W3 ⟨A,rfl,hA,htab,hb3⟩
 have hb23:=HS.out.trans (hb3.mono HS.out.size)
 obtain⟨r,hAk,hr,hrow⟩:=htab k l HL.out.2.2.2.2.1 HL.out.1
 have H3:=hH (aN hb23 (aN hrow (aN (show W2.heap.size≤r from hr) (aN hA hAk))))
 clear hA htab hb3 hAk hr hrow
 go_wp2_with fail
 refine HK.out _ _ hb23 (fun eH=>?_)
 clear HK HS hb23
 obtain⟨ll,hll⟩:∃ll,ll=l.length:=⟨_,rfl⟩
 have HLL:=hH hll
 have hidx:∀w:World,(Instr.index 148 (.agg A) (.int .i8 kd)).run Tryz.prog w= .ok (.slice (some ⟨r,0,none⟩) ll ll) w:=fun w=>by
  exact se5
 clear hll
 refine tJ (i:=6) (.slice (some ⟨r,0,none⟩) ll ll) rfl ?_ ?_
 · exact ua8
 simp only[Act.put,pg]
 clear hidx
 refine tJ (i:=7) (.int .i64 (ll:Int)) rfl ?_ ?_
 · clear eH;intro Y hSw;clear hSw;go_simp
 simp only[Act.put,pg]
 refine wpAnyH_done kr1 ?_ _
 clear eH HKD
 have hl100:ll≤100:=by rw[HLL.out];exact HL.out.2.2.2.1
 have HR3:=hH (HH.out.keep s2 W2 W3 H2.out.1 (fun q h _=>H3.out.1.block q h) H3.out.1.size)
 have HM3:=hH ((H3.out.1.block b (lohQ H2.out.2.1)).trans H2.out.2.1)
 go_wp2_with fail
 go_loopw [22] (fun i wr=>∃j:Nat,j≤ll∧i= .int .i64 (j:Int)∧Hid (∃s' cs',yl (qs.take j) s2 cs2=some (s',cs')∧R s' wr∧wr.heap[b]? =some (.cells cs' 37 (0,0))∧(j<ll→Yf cs' kd∧jE cs cs')∧za W3 wr (fun q=>O q∨q=b))) (fun i _=>ll - (intOf i).toNat)
 case atStart=>exact⟨0,NzlQ _,rfl,hH ⟨s2,cs2,rfl,HR3.out,HM3.out,fun _=>⟨H2.out.2.2.1,HTL2.out⟩,⟨rfl,rfl,rfl,NlrQ _,fun _ _ _=>rfl⟩⟩⟩
 case round=>
  obtain⟨j,hj,rfl,hh⟩:=hrel
  obtain⟨wo,hwo⟩:∃wo,wo=wr:=⟨_,rfl⟩
  subst hwo
  obtain⟨s',cs',hrun,hrr,hcc,hmm,htt⟩:=hh.out
  clear hh
  by_cases hlt:j<ll
  · obtain⟨F,hF⟩:∃F,l[j]? =some F:=⟨_,List.getElem?_eq_getElem (by rw[←HLL.out];exact hlt)⟩
    obtain⟨q,hq⟩:∃q,qs[j]? =some q:=⟨_,List.getElem?_eq_getElem (by rw[←HL.out.2.1,←HLL.out];exact hlt)⟩
    have HF:=hH (HL.out.2.2.1 j F q hF hq)
    have hji:(j:Int)<(ll:Int):=by omega
    have hj0:(0:Int)≤(j:Int):=by omega
    have hj2:(j:Int)≤100:=by omega
    have hrow:wo.heap[r]? =some (.cells (l.map (mfV (.agg #[.pointer (some ⟨b,0,none⟩),.iface T v]))).toArray 1 (0,0)):=(htt.block r (lohQ H3.out.2.1) (HNO.out r (NltQ (Nat.le_of_lt (lohQ H2.out.2.2.2.2)) H3.out.2.2.1))).trans H3.out.2.1
    have rj:wo.cell? ⟨r,j,none⟩=some (.func (.func F) #[.agg #[.pointer (some ⟨b,0,none⟩),.iface T v]] #[]):=by
     rw[corQ _ _ j _ _ _ hrow]
     simp[hF,mfV]
    have hen:=HF.out.enter
    have hdo:=HF.out.does s' wo cs' hrr (H2.out.2.2.2.1.zK ((zn H3.out.1 _).zK htt)) hcc (hmm hlt).1 (hmm hlt).2
    have HD:=hH (aN hdo (aN hrun (aN hq (aN (hmm hlt) htt))))
    clear hdo hrun hq hmm htt hrr hcc hrow hF hj
    go_wp2_with fail
    refine HD.out.1.mono ?_
    intro e W6 hq
    unfold zcB at hq
    cases ho:q s' cs' with
    | none=>
      rw[ho] at hq
      obtain⟨rfl,ht⟩:=hq
      refine⟨rfl,Zb.none (by rw[HN2.out];exact Q9 HD.out.2.1 HD.out.2.2.1 ho) (H2.out.2.2.2.1.zK ((zn H3.out.1 _).zK (HD.out.2.2.2.2.zK ht)))⟩
    | some ms=>
      obtain⟨t,ct⟩:=ms
      rw[ho] at hq
      obtain⟨rfl,hr6,hc6,ht6⟩:=hq
      have hr6:=hr6 (HG2.out _ _ _ (ZL HD.out.2.1 HD.out.2.2.1 ho))
      have hnx:j+1<ll→Yf ct kd∧jE cs ct:=fun h=>HF.out.keep (by rw[←HLL.out];exact decide_eq_false om1) s' cs' t ct ho HD.out.2.2.2.1.1 HD.out.2.2.2.1.2
      have HQ:=hH (aN (ZL HD.out.2.1 HD.out.2.2.1 ho) (aN hr6 (aN hc6 (aN hnx (HD.out.2.2.2.2.zK ht6)))))
      have HJ:=hH hlt
      clear ho hr6 hc6 ht6 rj hlt hnx
      exact sf3
  · have hji:¬(j:Int)<(ll:Int):=by omega
    exact sd8
def JO {σ α:Type}(Fin:σ→α→World→Prop)(put:Array Value→α→Array Value)(O:Nat→Prop)(b:Nat)(s:σ)(cs:Array Value)(X:World)(e:Ending)(Z:World):Prop:=e= .returned (.tuple #[])∧∃m,Fin s m Z∧Z.heap[b]? =some (.cells (put cs m) 37 (0,0))∧za X Z (fun q=>O q∨q=b)
def YK {σ α:Type}(Fin:σ→α→World→Prop)(put:Array Value→α→Array Value)(O:Nat→Prop)(o:Option (σ×Array Value))(b:Nat)(X:World)(e:Ending)(X' :World):Prop:=match o with
 | some (s',cs')=>JO Fin put O b s' cs' X e X'
 | none=>e= .panicked Zi∧za X X' (fun q=>O q∨q=b)
theorem YK.none {σ α:Type}{Fin:σ→α→World→Prop}{put:Array Value→α→Array Value}{O:Nat→Prop}{o:Option (σ×Array Value)}{b:Nat}{X X' :World}(h:o=Option.none)(ht:za X X' (fun q=>O q∨q=b)):YK Fin put O o b X (.panicked Zi) X':=by subst h;exact⟨rfl,ht⟩
theorem YK.some {σ α:Type}{Fin:σ→α→World→Prop}{put:Array Value→α→Array Value}{O:Nat→Prop}{o:Option (σ×Array Value)}{b:Nat}{X X' :World}{s' :σ}{cs' :Array Value}{m:α}(h:o=Option.some (s',cs'))(hf:Fin s' m X')(hc:X'.heap[b]? =Option.some (.cells (put cs' m) 37 (0,0)))(ht:za X X' (fun q=>O q∨q=b)):YK Fin put O o b X (.returned (.tuple #[])) X':=by subst h;exact⟨rfl,m,hf,hc,ht⟩
theorem ZZ {σ α:Type}{G:σ→Prop}{R:σ→World→Prop}{O:Nat→Prop}{num:σ→Int→Int→Int→Option (Int×σ)}{b:Nat}{T:TypeId}{v rv:Value}{fn:FuncId}(H:qm G R O num b T v rv fn)(kd:Int)(k:Nat)(hk:kd=(k:Int))(hk1:1≤k)(hk2:k≤10)(l:List FuncId)(hl:ZH[k]? =some l)(qs:List (yt σ))(hlen:l.length=qs.length+1)(hll:l.length≤100)(s:σ)(X:World)(cs:Array Value)(hqs:∀(j:Nat) (F:FuncId) (q:yt σ),l[j]? =some F→qs[j]? =some q→ZR G R O q b T v kd F X cs false)(FL:FuncId)(hFL:l[qs.length]? =some FL)(henter:∀(args:Array Value) (w:World),(callFunc FL args).run Tryz.prog w= .ok (.enter FL args) w)(Fin:σ→α→World→Prop)(put:Array Value→α→Array Value)(hlast:∀(s' :σ) (Y:World) (cs' :Array Value),R s' Y→za X Y (fun q=>O q∨q=b)→Y.heap[b]? =some (.cells cs' 37 (0,0))→Yf cs' kd→jE cs cs'→Calls Tryz.prog FL #[.agg #[.pointer (some ⟨b,0,none⟩),.iface T v]] Y (JO Fin put O b s' cs' Y))(hR:R s X)(hX:X.heap[b]? =some (.cells cs 37 (0,0)))(hm:Yf cs kd)(hG:∀(j:Nat) (s' :σ) (cs' :Array Value),yl ((zk num (zl kd)::zk num (toQ kd)::qs).take j) s cs=some (s',cs')→G s'):
 Calls Tryz.prog 56 #[.pointer (some ⟨b,0,none⟩),.iface T v] X (YK Fin put O (yl (zk num (zl kd)::zk num (toQ kd)::qs) s cs) b X):=by
 obtain⟨B,hB⟩:∃B,B=X.alloc (.cells #[.pointer (some ⟨b,0,none⟩),.iface T v] 146):=⟨_,rfl⟩
 have hb:Below X.heap.size X B:=by rw[hB];exact (BrQ _ _).alloc (NlrQ _) _
 have eB:B.heap[X.heap.size]? =some (.cells #[.pointer (some ⟨b,0,none⟩),.iface T v] 146 (0,0)):=by rw[hB];exact hanQ _ _
 have hXb:b<X.heap.size:=lohQ hX
 have hBX:=(hb.block _ hXb).trans hX
 have hRB:=H.keep s X B hR (fun q hq _=>hb.block q hq) hb.size
 have hno:∀q,X.heap.size≤q→¬(O q∨q=b):=fun q hq h=>by
  rcases h with h | h
  · have:=H.inn s X q hR h;omega
  · omega
 obtain⟨N,hN⟩:∃N,N=yl (zk num (zl kd)::zk num (toQ kd)::qs) s cs:=⟨_,rfl⟩
 rw[←hN]
 have HN:=hH hN
 have HG:=hH hG
 have HM:=hH hm
 have HNO:=hH hno
 have HH:=hH H
 have HFL:=hH (aN hFL (aN henter hlast))
 have HL:=hH (aN hl (aN hlen (aN hqs (aN hll (aN hk1 (aN hk2 hk))))))
 have HB:=hH (aN (zn hb (fun q=>O q∨q=b)) (aN hB (aN hBX (aN eB hRB))))
 have k0:B.cell? ⟨X.heap.size,0,none⟩=some (.pointer (some ⟨b,0,none⟩)):=by rw[corQ _ _ 0 _ _ _ eB];rfl
 have k1:B.cell? ⟨X.heap.size,1,none⟩=some (.iface T v):=by rw[corQ _ _ 1 _ _ _ eB];rfl
 clear hG hb hB eB hXb hBX hRB hR hX hm hno H hN hl hlen hqs hll hk hk1 hk2 hFL henter hlast
 go_enter Tryz.func56,Tryz.ntmps56
 go_upto_region 1 with fail
 change Code.wp _ _ _ _ (X.alloc (.cells #[.pointer (some ⟨b,0,none⟩),.iface T v] 146))
 rw[←HB.out.2.1]
 go_wp2_with fail
 obtain⟨n1,hn1⟩:=HM.out.nums 1 om1 om1
 refine ((QY HH.out kd).does s B cs n1 HB.out.2.2.2.2 HB.out.2.2.1 hn1 HM.out.kind).mono ?_
 intro e W1 hq
 have e1:vV cs (zl kd).1=n1:=kG hn1
 unfold zJ at hq
 cases ho:num s n1 (zl kd).2.1 (zl kd).2.2 with
 | none=>
   rw[ho] at hq
   obtain⟨rfl,ht⟩:=hq
   exact⟨rfl,YK.none (by rw[HN.out,yl,zk,e1,ho]) (HB.out.1.zK ht)⟩
 | some ms=>
 obtain⟨m1,s1⟩:=ms
 rw[ho] at hq
 obtain⟨rfl,hr1,hc1,ht1⟩:=hq
 have hr1:=hr1 (HG.out 1 s1 (cs.setIfInBounds (zl kd).1 (.int .i64 m1)) uc0)
 have hm1:=HM.out.set (i:=1) om1 m1
 have htl1:jE cs (cs.setIfInBounds 1 (.int .i64 m1)):=jE.set (fun _ _=>rfl) om1 m1
 obtain⟨cs1,hcs1⟩:∃cs1,cs1=cs.setIfInBounds (zl kd).1 (.int .i64 m1):=⟨_,rfl⟩
 rw[←hcs1] at hc1
 rw[show cs.setIfInBounds 1 (.int .i64 m1)=cs1 from hcs1.symm] at hm1 htl1
 have HTL1:=hH htl1
 clear htl1
 have HG1:=hH (fun (j:Nat) (s' :σ) (cs' :Array Value) (h:yl ((zk num (toQ kd)::qs).take j) s1 cs1=some (s',cs'))=>HG.out (j+1) s' cs' (by rw[List.take_succ_cons,yl,zk,e1,ho];rw[hcs1] at h;exact h))
 have HN1:=hH (show N=yl (zk num (toQ kd)::qs) s1 cs1 by rw[HN.out,yl,zk,e1,ho,hcs1])
 have ht:=HB.out.1.zK ht1
 have eP1:=(ht1.block X.heap.size (lohQ HB.out.2.2.2.1) (HNO.out _ (NlrQ _))).trans HB.out.2.2.2.1
 have H1:=hH (aN hr1 (aN hc1 (aN hm1 (aN ht eP1))))
 clear hn1 e1 ho hr1 hc1 ht1 hm1 hcs1 ht k0 k1 HN HM HB HG
 have k0:W1.cell? ⟨X.heap.size,0,none⟩=some (.pointer (some ⟨b,0,none⟩)):=by rw[corQ _ _ 0 _ _ _ eP1];rfl
 have k1:W1.cell? ⟨X.heap.size,1,none⟩=some (.iface T v):=by rw[corQ _ _ 1 _ _ _ eP1];rfl
 clear eP1
 go_wp2_with fail
 obtain⟨n2,hn2⟩:=H1.out.2.2.1.nums 2 om1 om1
 refine ((zb6 HH.out kd).does s1 W1 cs1 n2 H1.out.1 H1.out.2.1 hn2 H1.out.2.2.1.kind).mono ?_
 intro e W2 hq
 have e1:vV cs1 (toQ kd).1=n2:=kG hn2
 unfold zJ at hq
 cases ho:num s1 n2 (toQ kd).2.1 (toQ kd).2.2 with
 | none=>
   rw[ho] at hq
   obtain⟨rfl,ht⟩:=hq
   exact⟨rfl,YK.none (by rw[HN1.out,yl,zk,e1,ho]) (H1.out.2.2.2.1.zK ht)⟩
 | some ms=>
 obtain⟨m2,s2⟩:=ms
 rw[ho] at hq
 obtain⟨rfl,hr1,hc1,ht1⟩:=hq
 have hr1:=hr1 (HG1.out 1 s2 (cs1.setIfInBounds (toQ kd).1 (.int .i64 m2)) uc0)
 have hm1:=H1.out.2.2.1.set (i:=2) om1 m2
 have htl1:jE cs (cs1.setIfInBounds 2 (.int .i64 m2)):=jE.set HTL1.out om1 m2
 obtain⟨cs2,hcs2⟩:∃cs2,cs2=cs1.setIfInBounds (toQ kd).1 (.int .i64 m2):=⟨_,rfl⟩
 rw[←hcs2] at hc1
 rw[show cs1.setIfInBounds 2 (.int .i64 m2)=cs2 from hcs2.symm] at hm1 htl1
 have HTL2:=hH htl1
 clear htl1 HTL1
 have HG2:=hH (fun (j:Nat) (s' :σ) (cs' :Array Value) (h:yl (qs.take j) s2 cs2=some (s',cs'))=>HG1.out (j+1) s' cs' (by rw[List.take_succ_cons,yl,zk,e1,ho];rw[hcs2] at h;exact h))
 have HN2:=hH (show N=yl qs s2 cs2 by rw[HN1.out,yl,zk,e1,ho,hcs2])
 have ht:=H1.out.2.2.2.1.zK ht1
 have eP2:=(ht1.block X.heap.size (lohQ H1.out.2.2.2.2) (HNO.out _ (NlrQ _))).trans H1.out.2.2.2.2
 have H2:=hH (aN hr1 (aN hc1 (aN hm1 (aN ht eP2))))
 clear hn2 e1 ho hr1 hc1 ht1 hm1 hcs2 ht k0 k1 HN1 H1 HG1 eP2
 have HKD:=hH (fun (Y:World) (hY:Below W2.heap.size W2 Y)=>(show Y.cell? ⟨X.heap.size,0,none⟩=some (.pointer (some ⟨b,0,none⟩))∧Y.cell? ⟨X.heap.size,1,none⟩=some (.iface T v)∧Y.cell? ⟨b,0,none⟩=some (.int .i8 kd) by
  have eP:=(hY.block _ (lohQ H2.out.2.2.2.2)).trans H2.out.2.2.2.2
  have eM:=(hY.block _ (lohQ H2.out.2.1)).trans H2.out.2.1
  exact⟨by rw[corQ _ _ 0 _ _ _ eP];rfl,by rw[corQ _ _ 1 _ _ _ eP];rfl,by rw[corQ _ _ 0 _ _ _ eM];exact H2.out.2.2.1.kind⟩))
 go_upto_region 3 with fail
 refine wrhQ (S:=fun Y=>Below W2.heap.size W2 Y) kr1 (qW (BrQ _ _) 1) (fun eH=>?_)
 refine tJ (i:=0) (.agg #[.pointer (some ⟨b,0,none⟩),.iface T v]) rfl ?_ ?_
 · exact ua7
 simp only[Act.put,pg]
 refine tJ (i:=2) (.pointer (some ⟨b,0,none⟩)) rfl ?_ ?_
 · clear eH;intro Y hSw;clear hSw;go_simp
 simp only[Act.put,pg]
 refine tJ (i:=3) (.pointer (some ⟨b,0,none⟩)) rfl ?_ ?_
 · clear eH;intro Y hSw;clear hSw;go_simp
 simp only[Act.put,pg]
 refine tJ (i:=4) (.pointer (some ⟨b,0,none⟩)) rfl ?_ ?_
 · clear eH;intro Y hSw;clear hSw;go_simp
 simp only[Act.put,pg]
 refine tJ (i:=5) (.int .i8 kd) rfl ?_ ?_
 · exact ua7
 simp only[Act.put,pg]
 refine tJ (i:=8) (.int .i64 0) rfl ?_ ?_
 · clear eH;intro Y hSw;clear hSw;go_simp
 simp only[Act.put,pg]
 refine rd1 [1] ?_
 refine AcQ (o:=_) rfl (fun K hK=>?_) AnQ
 rw[ipQ ue1]
 simp only[pg3]
 have HK:=hH hK
 have HS:=hH eH
 clear hK eH
 go_wp2_with fail
 refine (YY _ b T v).mono ?_
 rintro e W3 ⟨A,rfl,hA,htab,hb3⟩
 have hb23:=HS.out.trans (hb3.mono HS.out.size)
 obtain⟨r,hAk,hr,hrow⟩:=htab k l HL.out.2.2.2.2.1 HL.out.1
 have H3:=hH (aN hb23 (aN hrow (aN (show W2.heap.size≤r from hr) (aN hA hAk))))
 clear hA htab hb3 hAk hr hrow
 go_wp2_with fail
 refine HK.out _ _ hb23 (fun eH=>?_)
 clear HK HS hb23
 obtain⟨ll,hll⟩:∃ll,ll=l.length:=⟨_,rfl⟩
 have HLL:=hH hll
 have hidx:∀w:World,(Instr.index 148 (.agg A) (.int .i8 kd)).run Tryz.prog w= .ok (.slice (some ⟨r,0,none⟩) ll ll) w:=fun w=>by
  exact se5
 clear hll
 refine tJ (i:=6) (.slice (some ⟨r,0,none⟩) ll ll) rfl ?_ ?_
 · exact ua8
 simp only[Act.put,pg]
 clear hidx
 refine tJ (i:=7) (.int .i64 (ll:Int)) rfl ?_ ?_
 · clear eH;intro Y hSw;clear hSw;go_simp
 simp only[Act.put,pg]
 refine wpAnyH_done kr1 ?_ _
 clear eH HKD
 have hl100:ll≤100:=by rw[HLL.out];exact HL.out.2.2.2.1
 have HR3:=hH (HH.out.keep s2 W2 W3 H2.out.1 (fun q h _=>H3.out.1.block q h) H3.out.1.size)
 have HM3:=hH ((H3.out.1.block b (lohQ H2.out.2.1)).trans H2.out.2.1)
 go_wp2_with fail
 go_loopw [22] (fun i wr=>∃j:Nat,j≤ll∧i= .int .i64 (j:Int)∧Hid ((j<ll→∃s' cs',yl (qs.take j) s2 cs2=some (s',cs')∧R s' wr∧wr.heap[b]? =some (.cells cs' 37 (0,0))∧(Yf cs' kd∧jE cs cs')∧za W3 wr (fun q=>O q∨q=b))∧(j=ll→∃s1 cs1,yl qs s2 cs2=some (s1,cs1)∧JO Fin put O b s1 cs1 W3 (.returned (.tuple #[])) wr))) (fun i _=>ll - (intOf i).toNat)
 case atStart=>exact⟨0,NzlQ _,rfl,hH ⟨fun _=>⟨s2,cs2,rfl,HR3.out,HM3.out,⟨H2.out.2.2.1,HTL2.out⟩,⟨rfl,rfl,rfl,NlrQ _,fun _ _ _=>rfl⟩⟩,fun h=>by have:=HLL.out;have:=HL.out.2.1;omega⟩⟩
 case round=>
  obtain⟨j,hj,rfl,hh⟩:=hrel
  obtain⟨wo,hwo⟩:∃wo,wo=wr:=⟨_,rfl⟩
  subst hwo
  by_cases hlt:j<ll
  · obtain⟨s',cs',hrun,hrr,hcc,hmm,htt⟩:=hh.out.1 hlt
    clear hh
    obtain⟨F,hF⟩:∃F,l[j]? =some F:=⟨_,List.getElem?_eq_getElem (by rw[←HLL.out];exact hlt)⟩
    have hji:(j:Int)<(ll:Int):=by omega
    have hj0:(0:Int)≤(j:Int):=by omega
    have hj2:(j:Int)≤100:=by omega
    have hrow:wo.heap[r]? =some (.cells (l.map (mfV (.agg #[.pointer (some ⟨b,0,none⟩),.iface T v]))).toArray 1 (0,0)):=(htt.block r (lohQ H3.out.2.1) (HNO.out r (NltQ (Nat.le_of_lt (lohQ H2.out.2.2.2.2)) H3.out.2.2.1))).trans H3.out.2.1
    have rj:wo.cell? ⟨r,j,none⟩=some (.func (.func F) #[.agg #[.pointer (some ⟨b,0,none⟩),.iface T v]] #[]):=by
     rw[corQ _ _ j _ _ _ hrow]
     simp[hF,mfV]
    by_cases hl2:j<qs.length
    · obtain⟨q,hq⟩:∃q,qs[j]? =some q:=⟨_,List.getElem?_eq_getElem hl2⟩
      have HF:=hH (HL.out.2.2.1 j F q hF hq)
      have hen:=HF.out.enter
      have hdo:=HF.out.does s' wo cs' hrr (H2.out.2.2.2.1.zK ((zn H3.out.1 _).zK htt)) hcc hmm.1 hmm.2
      have HD:=hH (aN hdo (aN hrun (aN hq (aN hmm htt))))
      clear hdo hrun hq hmm htt hrr hcc hrow hF hj
      go_wp2_with fail
      refine HD.out.1.mono ?_
      intro e W6 hq
      unfold zcB at hq
      cases ho:q s' cs' with
      | none=>
        rw[ho] at hq
        obtain⟨rfl,ht⟩:=hq
        refine⟨rfl,YK.none (by rw[HN2.out];exact Q9 HD.out.2.1 HD.out.2.2.1 ho) (H2.out.2.2.2.1.zK ((zn H3.out.1 _).zK (HD.out.2.2.2.2.zK ht)))⟩
      | some ms=>
        obtain⟨t,ct⟩:=ms
        rw[ho] at hq
        obtain⟨rfl,hr6,hc6,ht6⟩:=hq
        have hr6:=hr6 (HG2.out _ _ _ (ZL HD.out.2.1 HD.out.2.2.1 ho))
        have hnx:Yf ct kd∧jE cs ct:=HF.out.keep rfl s' cs' t ct ho HD.out.2.2.2.1.1 HD.out.2.2.2.1.2
        have HQ:=hH (aN (ZL HD.out.2.1 HD.out.2.2.1 ho) (aN hr6 (aN hc6 (aN hnx (HD.out.2.2.2.2.zK ht6)))))
        have HJ:=hH hlt
        have HJ2:=hH hl2
        clear ho hr6 hc6 ht6 rj hlt hnx hl2
        go_wp2_with fail
        exact⟨⟨j+1,HJ.out,by go_num,hH ⟨fun _=>⟨t,_,HQ.out.1,HQ.out.2.1,HQ.out.2.2.1,HQ.out.2.2.2.1,HQ.out.2.2.2.2⟩,fun h=>by have:=HJ2.out;have:=HLL.out;have:=HL.out.2.1;omega⟩⟩,by have:=HJ.out;simp[intOf];omega⟩
    · have hjq:j=qs.length:=by have:=HLL.out;have:=HL.out.2.1;omega
      have hFF:F=FL:=by rw[hjq,HFL.out.1] at hF;exact (Option.some.inj hF).symm
      subst hFF
      have hrun2:yl qs s2 cs2=some (s',cs'):=by rw[hjq,List.take_length] at hrun;exact hrun
      have hen:=HFL.out.2.1
      have hdo:=HFL.out.2.2 s' wo cs' hrr (H2.out.2.2.2.1.zK ((zn H3.out.1 _).zK htt)) hcc hmm.1 hmm.2
      have HD:=hH (aN hdo (aN hrun2 htt))
      have HJ:=hH (aN hlt hjq)
      clear hdo hrun hrun2 hmm htt hrr hcc hrow hF hj hjq hlt hl2
      go_wp2_with fail
      refine HD.out.1.mono ?_
      rintro e W6 ⟨rfl,m,hf6,hc6,ht6⟩
      have HQ:=hH (aN hf6 (aN hc6 (HD.out.2.2.zK ht6)))
      clear hf6 hc6 ht6 rj
      go_wp2_with fail
      exact⟨⟨j+1,HJ.out.1,by go_num,hH ⟨fun h=>by have:=HJ.out;have:=HLL.out;have:=HL.out.2.1;omega,fun _=>⟨s',cs',HD.out.2.1,rfl,m,HQ.out.1,HQ.out.2.1,HQ.out.2.2⟩⟩⟩,by have:=HJ.out.1;simp[intOf];omega⟩
  · have hji:¬(j:Int)<(ll:Int):=by omega
    have hjl:j=ll:=by omega
    obtain⟨s1,cs1,hrun,hrr,m,hf,hcc,htt⟩:=hh.out.2 hjl
    have HE:=hH (YK.some (Fin:=Fin) (put:=put) (O:=O) (b:=b) (X:=X) (o:=N) (by rw[HN2.out,hrun]) hf hcc (H2.out.2.2.2.1.zK ((zn H3.out.1 _).zK htt)))
    clear hrun hrr hcc hf htt hjl hlt hj hh
    go_wp2_with fail
    go_end0
    exact HE.out
end Go.Proofs.YtoidedomenkbpaaGreat
