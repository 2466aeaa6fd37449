/-
  .
-/
import Derived.Test.YtoidedomenkbpaaGreatJIdsQs
set_option maxRecDepth 100000
set_option maxHeartbeats 40000000
namespace Go.Proofs.YtoidedomenkbpaaGreat
open Go.RowKit Go.Shelf
attribute [local go_sem] Oper.semAt_some
set_option linter.unusedVariables false
set_option linter.unusedSimpArgs false
structure RV where
 i:Int
 k:Int
def RV.v (v:RV):Value:= .agg #[.int .i64 v.i,.int .i64 v.k]
structure DoQ (P:Program) (lf:FuncId) (caps:Array Value) (N0:Nat) (S:Nat→Prop) (vs:List SV) (J:Nat→RV→World→Prop) (Jx:Nat→RV→Int→World→Prop):Prop where
 enter:∀(args:Array Value) (w:World),(callFunc lf args).run P w= .ok (.enter lf args) w
 own:∀{k:Nat} {v:RV} {V V' :World},J k v V→za V V' (fun x=>N0≤x∧x<N0+7)→J k v V'
 zj8:∀{k:Nat} {v:RV} {n:Int} {V V' :World},Jx k v n V→za V V' (fun x=>N0≤x∧x<N0+7)→Jx k v n V'
 call:∀(k:Nat) (x:SV) (v:RV) (W:World),vs[k]? =some x→N0+7≤W.heap.size→J k v W→Calls P lf (#[v.v,x.v]++caps) W fun e W'=>∃(v' :RV) (n:Int),e= .returned (.tuple #[v'.v,.int .i64 n])∧W.heap.size≤W'.heap.size∧(∀q,(S q∨(N0≤q∧q<N0+7))→W'.heap[q]? =W.heap[q]?)∧(n=0→J (k+1) v' W')∧(n≠0→Jx k v n W')
def Yh (N0:Nat)(lf:FuncId)(caps:Array Value)(v:RV)(k:Int)(n:Int)(V:World):Prop:=V.heap[N0+1]? =some (.cells #[.func (.func lf) #[] caps] 132 (0,0))∧V.heap[N0+2]? =some (.cells #[.int .i64 v.i,.int .i64 v.k] 128 (0,0))∧V.heap[N0+3]? =some (.cells #[.int .i64 k] 3 (0,0))∧V.heap[N0+4]? =some (.cells #[.int .i64 n] 25 (0,0))∧N0+5≤V.heap.size
theorem Yh.kept {N0:Nat}{lf:FuncId}{caps:Array Value}{v:RV}{k n:Int}{V V' :World}(h:Yh N0 lf caps v k n V)(hs:V.heap.size≤V'.heap.size)(hk:∀q,N0≤q→q<N0+5→V'.heap[q]? =V.heap[q]?):Yh N0 lf caps v k n V':=by
 obtain⟨h1,h2,h3,h4,h5⟩:=h
 exact⟨(hk _ om1 om1).trans h1,(hk _ om1 om1).trans h2,(hk _ om1 om1).trans h3,(hk _ om1 om1).trans h4,by omega⟩
def zjv (N0:Nat)(lf:FuncId)(caps:Array Value)(J:Nat→RV→World→Prop)(k:Nat)(V:World):Prop:=∃v,J k v V∧Yh N0 lf caps v (k:Int) 0 V
def zjw (N0:Nat)(lf:FuncId)(caps:Array Value)(len:Nat)(Jx:Nat→RV→Int→World→Prop)(c:Code)(V:World):Prop:=c= .exit 0∧∃k v n,k<len∧n≠0∧Jx k v n V∧Yh N0 lf caps v (k:Int) n V
def zlp (len:Nat)(J:Nat→RV→World→Prop)(Jx:Nat→RV→Int→World→Prop)(e:Ending)(w' :World):Prop:=∃(k:Nat) (v:RV) (n:Int),e= .returned (.tuple #[v.v,.int .i64 (k:Int),.int .i64 n])∧((n=0∧k=len∧J k v w')∨(n≠0∧k<len∧Jx k v n w'))
theorem kC {V:World}{R1:Nat}{c0 c1 u0 u1:Value}(h2:V.heap[R1]? =some (.cells #[c0,c1] 128 (0,0))):
 ∃V5,V5=(V.setCell ⟨R1,0,none⟩ u0).setCell ⟨R1,1,none⟩ u1∧V5.heap[R1]? =some (.cells #[u0,u1] 128 (0,0))∧(∀y,y≠R1→V5.heap[y]? =V.heap[y]?)∧V5.os=V.os∧V5.tape=V.tape∧V5.output=V.output∧V5.heap.size=V.heap.size:=by
 obtain⟨V1,e1,g1,o1,a1,t1,p1,s1⟩:=one_set (i:=0) (u:=u0) h2
 obtain⟨V2,e2,g2,o2,a2,t2,p2,s2⟩:=one_set (i:=1) (u:=u1) g1
 refine⟨V2,by rw[e2,e1],by simpa using g2,fun y hy=>by rw[o2 y hy,o1 y hy],by rw[a2,a1],by rw[t2,t1],by rw[p2,p1],by rw[s2,s1]⟩
theorem YI {w:World}{b:Nat}{c0 c1:Value}{T:TypeId}(h:w.heap[b]? =some (.cells #[c0,c1] T (0,0))):w.cell? ⟨b,0,none⟩=some c0∧w.cell? ⟨b,1,none⟩=some c1:=
 ⟨by rw[corQ _ _ 0 _ _ _ h];rfl,by rw[corQ _ _ 1 _ _ _ h];rfl⟩
theorem zfT {lf:FuncId}{caps:Array Value}{S:Nat→Prop}{rs:List RH}{J:Nat→RV→World→Prop}{Jx:Nat→RV→Int→World→Prop}(w:World)(NB R:Nat)(v:RV)(hD:DoQ Tryz.prog lf caps w.heap.size S (flat rs) J Jx)(hI:Ql w NB R rs S)(hn:rs.length≤1000000)(hm:∀r∈rs,r.vs.length≤1000000)(hfl:(flat rs).length≤2000000)(h0:J 0 v w):
 Calls Tryz.prog 93 #[.agg #[.int .i64 v.i,.int .i64 v.k],.func (.func 96) #[] #[.pointer (some ⟨NB,0,none⟩)],.func (.func lf) #[] caps] w (zlp (flat rs).length J Jx):=by
 obtain⟨N0,hN0⟩:∃N0,N0=w.heap.size:=⟨_,rfl⟩
 obtain⟨W,hW⟩:∃W,W=zU w [.cells #[.int .i64 v.i,.int .i64 v.k] 128,.cells #[.func (.func lf) #[] caps] 132,.cells #[.int .i64 0,.int .i64 0] 128,.cells #[.int .i64 0] 3,.cells #[.int .i64 0] 25]:=⟨_,rfl⟩
 have hb:Below w.heap.size w W:=by rw[hW];exact zR _ _
 have hs:W.heap.size=N0+5:=by rw[hW,hN0];exact qV _ _
 have e0:W.heap[N0]? =some (.cells #[.int .i64 v.i,.int .i64 v.k] 128 (0,0)):=by rw[hN0,hW];exact zD _ _ 0 _ rfl
 have e1:W.heap[N0+1]? =some (.cells #[.func (.func lf) #[] caps] 132 (0,0)):=by rw[hN0,hW];exact zD _ _ 1 _ rfl
 have e2:W.heap[N0+1+1]? =some (.cells #[.int .i64 0,.int .i64 0] 128 (0,0)):=by rw[hN0,hW];exact zD _ _ 2 _ rfl
 have e3:W.heap[N0+3]? =some (.cells #[.int .i64 0] 3 (0,0)):=by rw[hN0,hW];exact zD _ _ 3 _ rfl
 have e4:W.heap[N0+4]? =some (.cells #[.int .i64 0] 25 (0,0)):=by rw[hN0,hW];exact zD _ _ 4 _ rfl
 obtain⟨n0,n1⟩:=YI e0
 obtain⟨z0,z1⟩:=YI e2
 have zf:∀j,W.frozen? ⟨N0+1+1,j,none⟩=false:=fun j=>forQ _ _ j _ _ e2
 obtain⟨X,hX,r1,r2,r3,r4,r5,r6⟩:=kC (u0:= .int .i64 v.i) (u1:= .int .i64 v.k) e2
 have hsX:X.heap.size=N0+5:=by rw[r6];exact hs
 have hbX:Below w.heap.size w X:=⟨r3.trans hb.os,r4.trans hb.tape,r5.trans hb.output,by rw[r6];exact hb.size,fun q hq=>(r2 q om1).trans (hb.block q hq)⟩
 have hown:Yh N0 lf caps v ((0:Nat):Int) 0 X:=⟨(r2 _ om1).trans e1,r1,(r2 _ om1).trans e3,(r2 _ om1).trans e4,by omega⟩
 have hJ0:J 0 v X:=hD.own h0 ⟨hbX.os,hbX.tape,hbX.output,hbX.size,fun q hq _=>hbX.block q hq⟩
 have hIW:Ql X NB R rs S:=hI.kept hbX.size (fun y hy=>hbX.block y (hI.2.2.2.2.1 y hy))
 have hSN:∀y,S y→y<N0:=fun y hy=>by rw[hN0];exact hI.2.2.2.2.1 y hy
 rw[←hN0] at hD
 have HW:=hH hW
 have H:=hH (aN hD (aN hIW (aN hSN (aN hn (aN hm (aN hsX (aN hJ0 (aN hown (aN hbX hN0)))))))))
 have HX:=hH hX
 have HN:=hH hN0
 clear hD hI hn hm h0 hW hb hs hown hJ0 hIW hSN e0 e1 e2 e3 e4 hX r1 r2 r3 r4 r5 r6 hsX hbX hN0
 refine (callsIn_wide (n:=8)).1 ?_
 refine callsIn_of_wp_marks Tryz.func93 rfl trivial ?_ rfl
 simp only[Tryz.ntmps93,List.size_toArray,LlcQ,List.length_nil,Nat.reduceAdd,Nat.reduceSub,Array.replicate_succ,Array.replicate_zero,List.push_toArray,List.append_toArray,List.nil_append,List.cons_append]
 gi_wp2
 change Code.wpIn _ _ _ _ _ _ (zU w [.cells #[.int .i64 v.i,.int .i64 v.k] 128,.cells #[.func (.func lf) #[] caps] 132,.cells #[.int .i64 0,.int .i64 0] 128,.cells #[.int .i64 0] 3,.cells #[.int .i64 0] 25])
 rw[←HW.out,←HN.out]
 clear HW
 refine wpIn_wide.2 (wp_scope_straight (wpIn_wide (n:=8).1 ?_))
 refine wpIn_seq_k ?_
 intro K hK
 gi_wp2
 rw[←HX.out]
 clear HX n0 n1 z0 z1 zf
 refine wpIn_label ?_
 gi_wp2
 have hs:=H.out.2.2.2.2.2.1
 have HLEN:=hH hfl
 clear hfl
 refine zcc om1 rfl R rs S H.out.2.1 H.out.2.2.2.1 H.out.2.2.2.2.1 rfl (zjv N0 lf caps J) (zjw N0 lf caps (flat rs).length Jx) ?hI ?hIx ?h0 ?round ?done ?stop
 case hI=>
  rintro k V V' ⟨v,h1,h2⟩ ht
  exact⟨v,H.out.1.own h1 (ht.mono (fun x hx=>by omega)),h2.kept ht.size (fun q h3 h4=>ht.block q (by have:=h2.2.2.2.2;omega) om1)⟩
 case hIx=>
  rintro c V V' ⟨hc,k,v,n,hk,hn,h1,h2⟩ ht
  exact⟨hc,k,v,n,hk,hn,H.out.1.zj8 h1 (ht.mono (fun x hx=>by omega)),h2.kept ht.size (fun q h3 h4=>ht.block q (by have:=h2.2.2.2.2;omega) om1)⟩
 case h0=>exact⟨v,H.out.2.2.2.2.2.2.1,H.out.2.2.2.2.2.2.2.1⟩
 case done=>
  rintro D V hD ⟨v',hJ,hO⟩ hK
  have HX:=hH (aN hD (aN hJ hO))
  obtain⟨vb0,vb1⟩:=YI hO.2.1
  have zf:∀j,V.frozen? ⟨N0+2,j,none⟩=false:=fun j=>forQ _ _ j _ _ hO.2.1
  have q3:V.cell? ⟨N0+3,0,none⟩=some (.int .i64 ((flat rs).length:Int)):=by rw[corQ _ _ 0 _ _ _ hO.2.2.1];rfl
  have f3:V.frozen? ⟨N0+3,0,none⟩=false:=forQ _ _ 0 _ _ hO.2.2.1
  have q4:V.cell? ⟨N0+4,0,none⟩=some (.int .i64 0):=by rw[corQ _ _ 0 _ _ _ hO.2.2.2.1];rfl
  have f4:V.frozen? ⟨N0+4,0,none⟩=false:=forQ _ _ 0 _ _ hO.2.2.2.1
  clear hJ hO
  obtain⟨ln,hln⟩:∃ln,ln=(flat rs).length:=⟨_,rfl⟩
  rw[←hln] at q3
  have HLN:=hH hln
  clear hln hD
  gi_wp2
  refine wpIn_wide.2 (zfw ?_)
  obtain⟨SW,hSW⟩:∃SW:World→Prop,SW=fun X=>(X.cell? ⟨N0+2,0,none⟩=some (.int .i64 v'.i)∧X.cell? ⟨N0+2,1,none⟩=some (.int .i64 v'.k))∧X.cell? ⟨N0+3,0,none⟩=some (.int .i64 (ln:Int))∧X.cell? ⟨N0+4,0,none⟩=some (.int .i64 0):=⟨_,rfl⟩
  have SWO:∀X,Yh N0 lf caps v' (ln:Int) 0 X→SW X:=fun X h=>by rw[hSW];exact⟨YI h.2.1,by rw[corQ _ _ 0 _ _ _ h.2.2.1];rfl,by rw[corQ _ _ 0 _ _ _ h.2.2.2.1];rfl⟩
  have hS0:SW V.drew:=by rw[hSW];exact⟨⟨vb0,vb1⟩,q3,q4⟩
  have HSX:=hH (fun X (h:SW X)=>(show (X.cell? ⟨N0+2,0,none⟩=some (.int .i64 v'.i)∧X.cell? ⟨N0+2,1,none⟩=some (.int .i64 v'.k))∧X.cell? ⟨N0+3,0,none⟩=some (.int .i64 (ln:Int))∧X.cell? ⟨N0+4,0,none⟩=some (.int .i64 0) by rw[hSW] at h;exact h))
  clear hSW
  refine wrhQ (S:=SW) kr1 hS0 (fun eH=>?_)
  refine wpAnyH_take (i:=0) (oi:=_) (v:= .agg #[.int .i64 v'.i,.int .i64 v'.k]) rfl kr1 kr1 kr1 (fun _ _ _ h=>by cases h.1) (Or.inl ⟨by rfl,?_⟩) ud9 ?_
  · exact ua4
  simp only[Act.put,pg]
  refine wpAnyH_take (i:=1) (oi:=_) (v:= .int .i64 (ln:Int)) rfl kr1 kr1 kr1 (fun _ _ _ h=>by cases h.1) (Or.inl ⟨by rfl,?_⟩) ud9 ?_
  · exact ua4
  simp only[Act.put,pg]
  refine wpAnyH_take (i:=2) (oi:=_) (v:= .int .i64 0) rfl kr1 kr1 kr1 (fun _ _ _ h=>by cases h.1) (Or.inl ⟨by rfl,?_⟩) ud9 ?_
  · exact ua4
  simp only[Act.put,pg]
  refine rd1 [3] ?_
  refine AcQ (o:=_) rfl (fun K hK=>?_) AnQ
  rw[ipQ ue1]
  simp only[pg3]
  have HK:=hH hK
  clear hK
  go_wp2_with fail
  obtain⟨X0,e1,r1,r2,r3,r4,r5,r6⟩:=kC (V:=V) (R1:=N0+1+1) (u0:= .int .i64 v'.i) (u1:= .int .i64 v'.k) HX.out.2.2.2.1
  rw[←e1]
  obtain⟨X1,eX1⟩:∃X1,X1=X0.drew:=⟨_,rfl⟩
  rw[←eX1]
  have hO1:Yh N0 lf caps v' (ln:Int) 0 X1:=by rw[HLN.out,eX1];exact⟨(r2 _ om1).trans HX.out.2.2.1,r1,(r2 _ om1).trans HX.out.2.2.2.2.1,(r2 _ om1).trans HX.out.2.2.2.2.2.1,by show _≤X0.heap.size;rw[r6];exact HX.out.2.2.2.2.2.2⟩
  have hk1:∀q,q≠N0+2→X1.heap[q]? =V.heap[q]?:=by rw[eX1];exact r2
  have ht1:za V X1 (fun x=>N0≤x∧x<N0+7):=by rw[eX1];exact⟨r3,r4,r5,by show _≤X0.heap.size;rw[r6];exact NlrQ _,fun q h1 h2=>r2 q om1⟩
  clear e1 r1 r2 r3 r4 r5 r6 eX1
  refine HK.out _ _ (SWO _ hO1) (fun eH=>?_)
  clear HK vb0 vb1 zf q3 f3 q4 f4
  have q3:X1.cell? ⟨N0+3,0,none⟩=some (.int .i64 (ln:Int)):=by rw[corQ _ _ 0 _ _ _ hO1.2.2.1];rfl
  have f3:X1.frozen? ⟨N0+3,0,none⟩=false:=forQ _ _ 0 _ _ hO1.2.2.1
  refine rd1 [4] ?_
  refine AcQ (o:=_) rfl (fun K hK=>?_) AnQ
  rw[ipQ ue1]
  simp only[pg3]
  have HK:=hH hK
  clear hK
  go_wp2_with fail
  obtain⟨X2,e2,r1,r2,r3,r4,r5,r6⟩:=one_set (i:=0) (u:= .int .i64 (ln:Int)) hO1.2.2.1
  rw[←e2]
  have hO2:Yh N0 lf caps v' (ln:Int) 0 X2:=⟨(r2 _ om1).trans hO1.1,(r2 _ om1).trans hO1.2.1,r1,(r2 _ om1).trans hO1.2.2.2.1,by rw[r6];exact hO1.2.2.2.2⟩
  have ht2:za V X2 (fun x=>N0≤x∧x<N0+7):=⟨r3.trans ht1.os,r4.trans ht1.tape,r5.trans ht1.output,by rw[r6];exact ht1.size,fun q h1 h2=>(r2 q om1).trans (ht1.block q h1 h2)⟩
  have hk2:∀q,q≠N0+2→q≠N0+3→X2.heap[q]? =V.heap[q]?:=fun q h1 h2=>(r2 q h2).trans (hk1 q h1)
  clear e2 r1 r2 r3 r4 r5 r6
  refine HK.out _ _ (SWO _ hO2) (fun eH=>?_)
  clear HK q3 f3 hO1 ht1 hk1
  have q4:X2.cell? ⟨N0+4,0,none⟩=some (.int .i64 0):=by rw[corQ _ _ 0 _ _ _ hO2.2.2.2.1];rfl
  have f4:X2.frozen? ⟨N0+4,0,none⟩=false:=forQ _ _ 0 _ _ hO2.2.2.2.1
  refine rd1 [5] ?_
  refine AcQ (o:=_) rfl (fun K hK=>?_) AnQ
  rw[ipQ ue1]
  simp only[pg3]
  have HK:=hH hK
  clear hK
  go_wp2_with fail
  obtain⟨X3,e3,r1,r2,r3,r4,r5,r6⟩:=one_set (i:=0) (u:= .int .i64 0) hO2.2.2.2.1
  rw[←e3]
  have hO3:Yh N0 lf caps v' (ln:Int) 0 X3:=⟨(r2 _ om1).trans hO2.1,(r2 _ om1).trans hO2.2.1,(r2 _ om1).trans hO2.2.2.1,r1,by rw[r6];exact hO2.2.2.2.2⟩
  have ht3:za V X3 (fun x=>N0≤x∧x<N0+7):=⟨r3.trans ht2.os,r4.trans ht2.tape,r5.trans ht2.output,by rw[r6];exact ht2.size,fun q h1 h2=>(r2 q om1).trans (ht2.block q h1 h2)⟩
  have hk3:∀q,q≠N0+2→q≠N0+3→q≠N0+4→X3.heap[q]? =V.heap[q]?:=fun q h1 h2 h3=>(r2 q h3).trans (hk2 q h1 h2)
  clear e3 r1 r2 r3 r4 r5 r6
  refine HK.out _ _ (SWO _ hO3) (fun eH=>?_)
  clear HK q4 f4 hO2 ht2 hk2
  refine wpAnyH_done kr1 ⟨rfl,?_⟩ _
  clear eH SWO hS0 HSX
  gi_wp2
  have hDn:D=N0+5:=by have:=HX.out.1;have:=H.out.2.2.2.2.2.1;omega
  have hKX:X3.heap[D]? =some (.deferred (some [])):=(hk3 D om1 om1 om1).trans hK
  have hpo:∀q,q≠D→(X3.putObj D (.deferred none)).heap[q]? =X3.heap[q]?:=fun q hq=>WphQ hq
  have htf:za V (X3.putObj D (.deferred none)) (fun x=>N0≤x∧x<N0+7):=⟨ht3.os,ht3.tape,ht3.output,by have:=ht3.size;simp[World.putObj];exact this,fun q h1 h2=>(hpo q om1).trans (ht3.block q h1 h2)⟩
  refine⟨by simp,.inl ⟨_,_,rfl,run_takeDeferred hKX,?_⟩⟩
  refine⟨_,YN rfl _ _ (N0+2) (N0+3) (N0+4) 128 _ (0,0) _ (ln:Int) 0 rfl rfl rfl ((hpo _ om1).trans hO3.2.1) Tryz.underlying128 rfl kr1 ?_ ?_ (fun _=>by kernel_rfl) (fun _=>by kernel_rfl),?_⟩
  · rw[corQ _ _ 0 _ _ _ ((hpo _ om1).trans hO3.2.2.1)];rfl
  · rw[corQ _ _ 0 _ _ _ ((hpo _ om1).trans hO3.2.2.2.1)];rfl
  · exact⟨ln,v',0,rfl,.inl ⟨rfl,HLN.out,by rw[HLN.out];exact H.out.1.own HX.out.2.1 htf⟩⟩
 case stop=>
  rintro D c V hD ⟨rfl,k,v',n,hk,hn,hJ,hO⟩ hK
  have HS:=hH (aN hk hn)
  clear hk hn
  have HX:=hH (aN hD (aN hJ hO))
  obtain⟨vb0,vb1⟩:=YI hO.2.1
  have zf:∀j,V.frozen? ⟨N0+2,j,none⟩=false:=fun j=>forQ _ _ j _ _ hO.2.1
  have q3:V.cell? ⟨N0+3,0,none⟩=some (.int .i64 (k:Int)):=by rw[corQ _ _ 0 _ _ _ hO.2.2.1];rfl
  have f3:V.frozen? ⟨N0+3,0,none⟩=false:=forQ _ _ 0 _ _ hO.2.2.1
  have q4:V.cell? ⟨N0+4,0,none⟩=some (.int .i64 n):=by rw[corQ _ _ 0 _ _ _ hO.2.2.2.1];rfl
  have f4:V.frozen? ⟨N0+4,0,none⟩=false:=forQ _ _ 0 _ _ hO.2.2.2.1
  clear hJ hO
  obtain⟨ln,hln⟩:∃ln,ln=k:=⟨_,rfl⟩
  rw[←hln] at q3
  have HLN:=hH hln
  clear hln hD
  gi_wp2
  refine wpIn_wide.2 (zfw ?_)
  obtain⟨SW,hSW⟩:∃SW:World→Prop,SW=fun X=>(X.cell? ⟨N0+2,0,none⟩=some (.int .i64 v'.i)∧X.cell? ⟨N0+2,1,none⟩=some (.int .i64 v'.k))∧X.cell? ⟨N0+3,0,none⟩=some (.int .i64 (ln:Int))∧X.cell? ⟨N0+4,0,none⟩=some (.int .i64 n):=⟨_,rfl⟩
  have SWO:∀X,Yh N0 lf caps v' (ln:Int) n X→SW X:=fun X h=>by rw[hSW];exact⟨YI h.2.1,by rw[corQ _ _ 0 _ _ _ h.2.2.1];rfl,by rw[corQ _ _ 0 _ _ _ h.2.2.2.1];rfl⟩
  have hS0:SW V.drew:=by rw[hSW];exact⟨⟨vb0,vb1⟩,q3,q4⟩
  have HSX:=hH (fun X (h:SW X)=>(show (X.cell? ⟨N0+2,0,none⟩=some (.int .i64 v'.i)∧X.cell? ⟨N0+2,1,none⟩=some (.int .i64 v'.k))∧X.cell? ⟨N0+3,0,none⟩=some (.int .i64 (ln:Int))∧X.cell? ⟨N0+4,0,none⟩=some (.int .i64 n) by rw[hSW] at h;exact h))
  clear hSW
  refine wrhQ (S:=SW) kr1 hS0 (fun eH=>?_)
  refine wpAnyH_take (i:=0) (oi:=_) (v:= .agg #[.int .i64 v'.i,.int .i64 v'.k]) rfl kr1 kr1 kr1 (fun _ _ _ h=>by cases h.1) (Or.inl ⟨by rfl,?_⟩) ud9 ?_
  · exact ua4
  simp only[Act.put,pg]
  refine wpAnyH_take (i:=1) (oi:=_) (v:= .int .i64 (ln:Int)) rfl kr1 kr1 kr1 (fun _ _ _ h=>by cases h.1) (Or.inl ⟨by rfl,?_⟩) ud9 ?_
  · exact ua4
  simp only[Act.put,pg]
  refine wpAnyH_take (i:=2) (oi:=_) (v:= .int .i64 n) rfl kr1 kr1 kr1 (fun _ _ _ h=>by cases h.1) (Or.inl ⟨by rfl,?_⟩) ud9 ?_
  · exact ua4
  simp only[Act.put,pg]
  refine rd1 [3] ?_
  refine AcQ (o:=_) rfl (fun K hK=>?_) AnQ
  rw[ipQ ue1]
  simp only[pg3]
  have HK:=hH hK
  clear hK
  go_wp2_with fail
  obtain⟨X0,e1,r1,r2,r3,r4,r5,r6⟩:=kC (V:=V) (R1:=N0+1+1) (u0:= .int .i64 v'.i) (u1:= .int .i64 v'.k) HX.out.2.2.2.1
  rw[←e1]
  obtain⟨X1,eX1⟩:∃X1,X1=X0.drew:=⟨_,rfl⟩
  rw[←eX1]
  have hO1:Yh N0 lf caps v' (ln:Int) n X1:=by rw[HLN.out,eX1];exact⟨(r2 _ om1).trans HX.out.2.2.1,r1,(r2 _ om1).trans HX.out.2.2.2.2.1,(r2 _ om1).trans HX.out.2.2.2.2.2.1,by show _≤X0.heap.size;rw[r6];exact HX.out.2.2.2.2.2.2⟩
  have hk1:∀q,q≠N0+2→X1.heap[q]? =V.heap[q]?:=by rw[eX1];exact r2
  have ht1:za V X1 (fun x=>N0≤x∧x<N0+7):=by rw[eX1];exact⟨r3,r4,r5,by show _≤X0.heap.size;rw[r6];exact NlrQ _,fun q h1 h2=>r2 q om1⟩
  clear e1 r1 r2 r3 r4 r5 r6 eX1
  refine HK.out _ _ (SWO _ hO1) (fun eH=>?_)
  clear HK vb0 vb1 zf q3 f3 q4 f4
  have q3:X1.cell? ⟨N0+3,0,none⟩=some (.int .i64 (ln:Int)):=by rw[corQ _ _ 0 _ _ _ hO1.2.2.1];rfl
  have f3:X1.frozen? ⟨N0+3,0,none⟩=false:=forQ _ _ 0 _ _ hO1.2.2.1
  refine rd1 [4] ?_
  refine AcQ (o:=_) rfl (fun K hK=>?_) AnQ
  rw[ipQ ue1]
  simp only[pg3]
  have HK:=hH hK
  clear hK
  go_wp2_with fail
  obtain⟨X2,e2,r1,r2,r3,r4,r5,r6⟩:=one_set (i:=0) (u:= .int .i64 (ln:Int)) hO1.2.2.1
  rw[←e2]
  have hO2:Yh N0 lf caps v' (ln:Int) n X2:=⟨(r2 _ om1).trans hO1.1,(r2 _ om1).trans hO1.2.1,r1,(r2 _ om1).trans hO1.2.2.2.1,by rw[r6];exact hO1.2.2.2.2⟩
  have ht2:za V X2 (fun x=>N0≤x∧x<N0+7):=⟨r3.trans ht1.os,r4.trans ht1.tape,r5.trans ht1.output,by rw[r6];exact ht1.size,fun q h1 h2=>(r2 q om1).trans (ht1.block q h1 h2)⟩
  have hk2:∀q,q≠N0+2→q≠N0+3→X2.heap[q]? =V.heap[q]?:=fun q h1 h2=>(r2 q h2).trans (hk1 q h1)
  clear e2 r1 r2 r3 r4 r5 r6
  refine HK.out _ _ (SWO _ hO2) (fun eH=>?_)
  clear HK q3 f3 hO1 ht1 hk1
  have q4:X2.cell? ⟨N0+4,0,none⟩=some (.int .i64 n):=by rw[corQ _ _ 0 _ _ _ hO2.2.2.2.1];rfl
  have f4:X2.frozen? ⟨N0+4,0,none⟩=false:=forQ _ _ 0 _ _ hO2.2.2.2.1
  refine rd1 [5] ?_
  refine AcQ (o:=_) rfl (fun K hK=>?_) AnQ
  rw[ipQ ue1]
  simp only[pg3]
  have HK:=hH hK
  clear hK
  go_wp2_with fail
  obtain⟨X3,e3,r1,r2,r3,r4,r5,r6⟩:=one_set (i:=0) (u:= .int .i64 n) hO2.2.2.2.1
  rw[←e3]
  have hO3:Yh N0 lf caps v' (ln:Int) n X3:=⟨(r2 _ om1).trans hO2.1,(r2 _ om1).trans hO2.2.1,(r2 _ om1).trans hO2.2.2.1,r1,by rw[r6];exact hO2.2.2.2.2⟩
  have ht3:za V X3 (fun x=>N0≤x∧x<N0+7):=⟨r3.trans ht2.os,r4.trans ht2.tape,r5.trans ht2.output,by rw[r6];exact ht2.size,fun q h1 h2=>(r2 q om1).trans (ht2.block q h1 h2)⟩
  have hk3:∀q,q≠N0+2→q≠N0+3→q≠N0+4→X3.heap[q]? =V.heap[q]?:=fun q h1 h2 h3=>(r2 q h3).trans (hk2 q h1 h2)
  clear e3 r1 r2 r3 r4 r5 r6
  refine HK.out _ _ (SWO _ hO3) (fun eH=>?_)
  clear HK q4 f4 hO2 ht2 hk2
  refine wpAnyH_done kr1 ⟨rfl,?_⟩ _
  clear eH SWO hS0 HSX
  gi_wp2
  have hDn:D=N0+5:=by have:=HX.out.1;have:=H.out.2.2.2.2.2.1;omega
  have hKX:X3.heap[D]? =some (.deferred (some [])):=(hk3 D om1 om1 om1).trans hK
  have hpo:∀q,q≠D→(X3.putObj D (.deferred none)).heap[q]? =X3.heap[q]?:=fun q hq=>WphQ hq
  have htf:za V (X3.putObj D (.deferred none)) (fun x=>N0≤x∧x<N0+7):=⟨ht3.os,ht3.tape,ht3.output,by have:=ht3.size;simp[World.putObj];exact this,fun q h1 h2=>(hpo q om1).trans (ht3.block q h1 h2)⟩
  refine⟨by simp,.inl ⟨_,_,rfl,run_takeDeferred hKX,?_⟩⟩
  refine⟨_,YN rfl _ _ (N0+2) (N0+3) (N0+4) 128 _ (0,0) _ (ln:Int) n rfl rfl rfl ((hpo _ om1).trans hO3.2.1) Tryz.underlying128 rfl kr1 ?_ ?_ (fun _=>by kernel_rfl) (fun _=>by kernel_rfl),?_⟩
  · rw[corQ _ _ 0 _ _ _ ((hpo _ om1).trans hO3.2.2.1)];rfl
  · rw[corQ _ _ 0 _ _ _ ((hpo _ om1).trans hO3.2.2.2.1)];rfl
  · exact⟨ln,v',n,rfl,.inr ⟨HS.out.2,by rw[HLN.out];exact HS.out.1,by rw[HLN.out];exact H.out.1.zj8 HX.out.2.1 htf⟩⟩
 case round=>
  rintro l hl k x V hV hx ⟨v',hJ,hO⟩ K hK
  obtain⟨sn,hsn⟩:∃sn,sn=foLen x.s.sub.kids:=⟨_,rfl⟩
  have hxv:x.v= .agg #[.int .i8 x.s.op,.int .i64 x.s.id,.int .i64 x.s.par,.int .i64 x.s.at_,.string x.s.tx,.int .i64 x.s.sub.id,.int .i64 x.s.sub.kind,.string x.s.sub.text,.slice x.a sn x.c]:=by rw[hsn];rfl
  rw[hxv]
  have hxk:k<(flat rs).length:=(List.getElem?_eq_some_iff.1 hx).1
  have HR:=hH (aN hl (aN hV (aN hx (aN hJ (aN hO (aN hxv hxk))))))
  have HK:=hH hK
  clear hl hV hx hJ hO hsn hK hxv hxk hs
  gi_wp2
  refine HK.out _ _ (Ju _ _) fun V1 hV1=>?_
  clear HK
  obtain⟨o',ev,o,ho,hoc⟩:=hV1
  obtain⟨hl,hV,hx,hJ,hO,hxv,hxk⟩:=HR.out
  have hsl:l=N0+6:=by have:=H.out.2.2.2.2.2.1;omega
  have hV7:N0+7≤V.heap.size:=by have:=H.out.2.2.2.2.2.1;omega
  obtain⟨sB,hsB⟩:∃sB,sB=V.heap.size:=⟨_,rfl⟩
  have hk1:∀y,y<V.heap.size→y≠N0+6→V1.heap[y]? =V.heap[y]?:=fun y h1 h2=>by rw[ev,WphQ om1,BhaQ _ _ _ h1]
  have hs1:V1.heap.size=V.heap.size+1:=by rw[ev];simp[World.putObj]
  have hstep:V1.heap[sB]? =some (.cells #[.int .i8 x.s.op,.int .i64 x.s.id,.int .i64 x.s.par,.int .i64 x.s.at_,.string x.s.tx,.int .i64 x.s.sub.id,.int .i64 x.s.sub.kind,.string x.s.sub.text,.slice x.a sn x.c] 41 (0,0)):=by rw[ev,hsB,WphQ om1];exact hanQ _ _
  have ht1:za V V1 (fun y=>N0≤y∧y<N0+7):=by
   rw[ev]
   exact⟨rfl,rfl,rfl,by simp[World.putObj],fun y h1 h2=>by rw[WphQ om1,BhaQ _ _ _ h1]⟩
  have hJ1:=H.out.1.own hJ ht1
  have hO1:Yh N0 lf caps v' (k:Int) 0 V1:=hO.kept om1 (fun q h1 h2=>hk1 q om1 om1)
  have hc:=H.out.1.call k x v' V1 hx om1 hJ1
  have f0:V1.cell? ⟨N0+1,0,none⟩=some (.func (.func lf) #[] caps):=by rw[corQ _ _ 0 _ _ _ hO1.1];rfl
  obtain⟨vb0,vb1⟩:=YI hO1.2.1
  obtain⟨m0,m1,m2,m3,m4,m5,m6,m7,m8⟩:=Zt hstep
  have HC:=hH hc
  rw[hxv] at HC
  have HO:=hH (aN hO1 (aN hs1 (aN hsB (aN hk1 (aN hsl hV7)))))
  have hent:=H.out.1.enter
  rw[←hsB]
  clear hl hV hx hJ hO hxv hxk hsl hV7 hsB hk1 hs1 hstep ht1 hJ1 hO1 hc ev ho hoc
  gi_wp2
  refine⟨trivial,?_⟩
  refine (CallsIn.inRound l (callsIn_wide.2 HC.out)).mono ?_
  clear HC f0 vb0 vb1 m0 m1 m2 m3 m4 m5 m6 m7 m8
  rintro e W2 ⟨v2,n,rfl,hs2,hk2,hj2,hx2⟩
  obtain⟨i2,k2⟩:=v2
  simp only[RV.v]
  have hO2:Yh N0 lf caps v' (k:Int) 0 W2:=HO.out.1.kept hs2 (fun q h1 h2=>hk2 q (Or.inr ⟨h1,by omega⟩))
  obtain⟨Y,hY⟩:∃Y,Y=W2.alloc (.cells #[.int .i64 i2,.int .i64 k2] 128):=⟨_,rfl⟩
  have hkY:∀y,y<W2.heap.size→Y.heap[y]? =W2.heap[y]?:=fun y hy=>by rw[hY];exact BhaQ _ _ _ hy
  have hsY:Y.heap.size=W2.heap.size+1:=by rw[hY];simp
  have hO3:Yh N0 lf caps v' (k:Int) 0 Y:=hO2.kept om1 (fun q h1 h2=>hkY q (by have:=hO2.2.2.2.2;omega))
  have hnew:Y.heap[W2.heap.size]? =some (.cells #[.int .i64 i2,.int .i64 k2] 128 (0,0)):=by rw[hY];exact hanQ _ _
  have htY:za W2 Y (fun y=>N0≤y∧y<N0+7):=by rw[hY];exact (za.refl _ _).alloc _
  obtain⟨wb0,wb1⟩:=YI hnew
  obtain⟨vb0,vb1⟩:=YI hO3.2.1
  have zf:∀j,Y.frozen? ⟨N0+2,j,none⟩=false:=fun j=>forQ _ _ j _ _ hO3.2.1
  have q3:Y.cell? ⟨N0+3,0,none⟩=some (.int .i64 (k:Int)):=by rw[corQ _ _ 0 _ _ _ hO3.2.2.1];rfl
  have f3:Y.frozen? ⟨N0+3,0,none⟩=false:=forQ _ _ 0 _ _ hO3.2.2.1
  have q4:Y.cell? ⟨N0+4,0,none⟩=some (.int .i64 0):=by rw[corQ _ _ 0 _ _ _ hO3.2.2.2.1];rfl
  have f4:Y.frozen? ⟨N0+4,0,none⟩=false:=forQ _ _ 0 _ _ hO3.2.2.2.1
  have hk7:∀q,(S q∨(N0≤q∧q<N0+7))→Y.heap[q]? =V1.heap[q]?:=fun q hq=>(hkY q (by
   rcases hq with hq | hq
   · have:=H.out.2.2.1 q hq;have:=HO.out.2.2.2.2.2;have:=HO.out.2.1;omega
   · have:=HO.out.2.2.2.2.2;have:=HO.out.2.1;omega)).trans (hk2 q hq)
  have hkw:IntKind.i64.wrap ((k:Int)+1)=(k:Int)+1:=IntWalk.i64_in _ (by have:=HR.out.2.2.2.2.2.2;have:=HLEN.out;omega)
  by_cases hn0:n=0
  · subst hn0
    have hj3:=hj2 rfl
    obtain⟨X4,hX,r1,r2,r3,r4,r5,r6⟩:=kC (u0:= .int .i64 i2) (u1:= .int .i64 k2) hO3.2.1
    obtain⟨X5,hX5,y1,y2,y3,y4,y5,y6⟩:=one_set (i:=0) (u:= .int .i64 ((k:Int)+1)) ((r2 _ om1).trans hO3.2.2.1)
    have hend:∀aa:Act,zgE X.heap.size S (zjv N0 lf caps J) (zjw N0 lf caps (flat rs).length Jx) k V1 .normal aa X5:=fun aa=>by
     have hx0:=H.out.2.2.2.2.2.1
     refine⟨by omega,fun y hy=>?_,.inl ⟨rfl,⟨i2,k2⟩,H.out.1.own hj3 ⟨y3.trans (r3.trans htY.os),y4.trans (r4.trans htY.tape),y5.trans (r5.trans htY.output),by omega,fun q hq hn=>?_⟩,?_⟩⟩
     · rw[y2 y ub8,r2 y ub8]
       exact hk7 y ub5
     · rw[y2 q om1,r2 q om1];exact hkY q hq
     · exact⟨(y2 _ om1).trans ((r2 _ om1).trans hO3.1),(y2 _ om1).trans r1,y1,(y2 _ om1).trans ((r2 _ om1).trans hO3.2.2.2.1),by have:=hO3.2.2.2.2;omega⟩
    have HE:=hH (aN hend (aN hX5 hX))
    rw[hY] at wb0 wb1 vb0 vb1 zf q3 f3
    have HY:=hH hY
    clear hend hX hX5 r1 r2 r3 r4 r5 r6 y1 y2 y3 y4 y5 y6 hj2 hj3 hx2 hO2 hO3 hkY hsY hnew htY hk7 hs2 hk2 q4 f4 hY
    gi_wp2
    have h:=HE.out.1
    rw[HE.out.2.1,HE.out.2.2,HY.out] at h
    exact h _
  · have hnb:(n == 0)=false:=by simpa using hn0
    have hj3:=hx2 hn0
    obtain⟨X5,hX5,y1,y2,y3,y4,y5,y6⟩:=one_set (i:=0) (u:= .int .i64 n) hO3.2.2.2.1
    have hend:∀aa:Act,zgE X.heap.size S (zjv N0 lf caps J) (zjw N0 lf caps (flat rs).length Jx) k V1 (.exit 0) aa X5:=fun aa=>by
     have hx0:=H.out.2.2.2.2.2.1
     refine⟨by omega,fun y hy=>?_,.inr (.inr ⟨0,rfl,rfl,k,v',n,HR.out.2.2.2.2.2.2,hn0,H.out.1.zj8 hj3 ⟨y3.trans htY.os,y4.trans htY.tape,y5.trans htY.output,by omega,fun q hq hn=>?_⟩,?_⟩)⟩
     · rw[y2 y ub8]
       exact hk7 y ub5
     · rw[y2 q om1];exact hkY q hq
     · exact⟨(y2 _ om1).trans hO3.1,(y2 _ om1).trans hO3.2.1,(y2 _ om1).trans hO3.2.2.1,y1,by have:=hO3.2.2.2.2;omega⟩
    have HE:=hH (aN hend hX5)
    rw[hY] at q4 f4
    have HY:=hH hY
    clear hend hX5 y1 y2 y3 y4 y5 y6 hj2 hj3 hx2 hO2 hO3 hkY hsY hnew htY hk7 hs2 hk2 q3 f3 hn0 hY wb0 wb1 vb0 vb1 zf
    gi_wp2
    have h:=HE.out.1
    rw[HE.out.2,HY.out] at h
    exact h _
end Go.Proofs.YtoidedomenkbpaaGreat
