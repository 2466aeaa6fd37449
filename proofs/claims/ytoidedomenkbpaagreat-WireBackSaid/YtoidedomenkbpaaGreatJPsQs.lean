/-
  Ends of proofs that stand in more than one place: each is stated once, to be run where it is named.
-/
import Derived.Test.YtoidedomenkbpaaGreatJPgQs
namespace Go.Proofs.YtoidedomenkbpaaGreat
theorem sa1 {p:Prop}(h:p:=by
  obtain⟨m,s'⟩:=ms
  rw[ho] at hq
  obtain⟨rfl,hr,ht⟩:=hq
  have hbW:W'.heap[b]? =some (.cells cs 37 (0,0)):=(ht.block b (nL HB.out.2.2.2.1 HB.out.1.size) HH.out.apart).trans HB.out.2.2.1
  have hpW:W'.heap[X.heap.size]? =B.heap[X.heap.size]?:=ht.block _ HB.out.2.2.2.2 (fun h=>by have:=HI.out _ h;omega)
  have c0:W'.cell? ⟨b,1,none⟩=some (.int .i64 n):=by rw[corQ _ _ 1 _ _ _ hbW];exact HN.out
  have cf:∀j,W'.frozen? ⟨b,j,none⟩=false:=fun j=>forQ _ _ j _ _ hbW
  have HW:=hH (aN hbW (aN hpW (aN hr ht)))
  obtain⟨Z,hZ⟩:∃Z,Z=W'.setCell ⟨b,1,none⟩ (.int .i64 m):=⟨_,rfl⟩
  have hZs:za W' Z (fun q=>q=b):=by rw[hZ];exact zu
  have hZb:Z.heap[b]? =some (.cells (cs.setIfInBounds 1 (.int .i64 m)) 37 (0,0)):=by rw[hZ];exact hssQ _ _ _ _ _ _ hbW
  have hE:zJ G R O (some (m,s')) b cs 1 X (.returned (.tuple #[])) Z:=by
   refine⟨rfl,fun g=>HH.out.keep s' W' Z (hr g) (fun q h1 h2=>hZs.block q h1 h2) hZs.size,hZb,?_⟩
   exact⟨hZs.os.trans (ht.os.trans HB.out.1.os),hZs.tape.trans (ht.tape.trans HB.out.1.tape),hZs.output.trans (ht.output.trans HB.out.1.output),NltQ HB.out.1.size (NltQ ht.size hZs.size),fun k h1 h2=>(hZs.block k (nL h1 (NltQ HB.out.1.size ht.size)) (fun h=>h2 (Or.inr h))).trans ((ht.block k (nL h1 HB.out.1.size) (fun h=>h2 (Or.inl h))).trans (HB.out.1.block k h1))⟩
  have HE:=hH (aN hE (aN hZ (show Z.heap[X.heap.size]? =B.heap[X.heap.size]? from (hZs.block _ (nL HB.out.2.2.2.2 ht.size) (by have:=HB.out.2.2.2.1;omega)).trans hpW)))
  clear hbW hpW hr ht hZ hZs hZb hE
  go_wp2_with fail
  refine HK.out _ _ (HSM.out _ HW.out.2.1) (fun eH=>?_)
  clear HK HS
  refine tJ (i:=15) (.pointer (some ⟨b,0,none⟩)) rfl ?_ ?_
  · clear eH;intro Y hSw;clear hSw;go_simp
  simp only[Act.put,pg]
  refine tJ (i:=16) (.pointer (some ⟨b,1,none⟩)) rfl ?_ ?_
  · clear eH;intro Y hSw;clear hSw;go_simp
  simp only[Act.put,pg]
  refine rd1 [17] ?_
  refine AcQ (o:=_) rfl (fun K hK=>?_) AnQ
  rw[ipQ (by rfl)]
  simp only[pg3]
  have HK:=hH hK
  have HS:=hH eH
  clear hK eH
  go_wp2_with fail
  rw[←HE.out.2.1]
  refine HK.out _ _ (HSM.out _ HE.out.2.2) (fun eH=>?_)
  clear HK HS c0 cf
  refine wpAnyH_done kr1 ?_ _
  clear eH
  go_wp2_with fail
  go_end0
  rw[ho]
  exact HE.out.1):p:=h
theorem sa2 {p:Prop}(h:p:=by
  obtain⟨m,s'⟩:=ms
  rw[ho] at hq
  obtain⟨rfl,hr,ht⟩:=hq
  have hbW:W'.heap[b]? =some (.cells cs 37 (0,0)):=(ht.block b (nL HB.out.2.2.2.1 HB.out.1.size) HH.out.apart).trans HB.out.2.2.1
  have hpW:W'.heap[X.heap.size]? =B.heap[X.heap.size]?:=ht.block _ HB.out.2.2.2.2 (fun h=>by have:=HI.out _ h;omega)
  have c0:W'.cell? ⟨b,2,none⟩=some (.int .i64 n):=by rw[corQ _ _ 2 _ _ _ hbW];exact HN.out
  have cf:∀j,W'.frozen? ⟨b,j,none⟩=false:=fun j=>forQ _ _ j _ _ hbW
  have HW:=hH (aN hbW (aN hpW (aN hr ht)))
  obtain⟨Z,hZ⟩:∃Z,Z=W'.setCell ⟨b,2,none⟩ (.int .i64 m):=⟨_,rfl⟩
  have hZs:za W' Z (fun q=>q=b):=by rw[hZ];exact zu
  have hZb:Z.heap[b]? =some (.cells (cs.setIfInBounds 2 (.int .i64 m)) 37 (0,0)):=by rw[hZ];exact hssQ _ _ _ _ _ _ hbW
  have hE:zJ G R O (some (m,s')) b cs 2 X (.returned (.tuple #[])) Z:=by
   refine⟨rfl,fun g=>HH.out.keep s' W' Z (hr g) (fun q h1 h2=>hZs.block q h1 h2) hZs.size,hZb,?_⟩
   exact⟨hZs.os.trans (ht.os.trans HB.out.1.os),hZs.tape.trans (ht.tape.trans HB.out.1.tape),hZs.output.trans (ht.output.trans HB.out.1.output),NltQ HB.out.1.size (NltQ ht.size hZs.size),fun k h1 h2=>(hZs.block k (nL h1 (NltQ HB.out.1.size ht.size)) (fun h=>h2 (Or.inr h))).trans ((ht.block k (nL h1 HB.out.1.size) (fun h=>h2 (Or.inl h))).trans (HB.out.1.block k h1))⟩
  have HE:=hH (aN hE (aN hZ (show Z.heap[X.heap.size]? =B.heap[X.heap.size]? from (hZs.block _ (nL HB.out.2.2.2.2 ht.size) (by have:=HB.out.2.2.2.1;omega)).trans hpW)))
  clear hbW hpW hr ht hZ hZs hZb hE
  go_wp2_with fail
  refine HK.out _ _ (HSM.out _ HW.out.2.1) (fun eH=>?_)
  clear HK HS
  refine tJ (i:=16) (.pointer (some ⟨b,0,none⟩)) rfl ?_ ?_
  · clear eH;intro Y hSw;clear hSw;go_simp
  simp only[Act.put,pg]
  refine tJ (i:=17) (.pointer (some ⟨b,2,none⟩)) rfl ?_ ?_
  · clear eH;intro Y hSw;clear hSw;go_simp
  simp only[Act.put,pg]
  refine rd1 [18] ?_
  refine AcQ (o:=_) rfl (fun K hK=>?_) AnQ
  rw[ipQ (by rfl)]
  simp only[pg3]
  have HK:=hH hK
  have HS:=hH eH
  clear hK eH
  go_wp2_with fail
  rw[←HE.out.2.1]
  refine HK.out _ _ (HSM.out _ HE.out.2.2) (fun eH=>?_)
  clear HK HS c0 cf
  refine wpAnyH_done kr1 ?_ _
  clear eH
  go_wp2_with fail
  go_end0
  rw[ho]
  exact HE.out.1):p:=h
theorem sa3 {p:Prop}(h:p:=by
  refine⟨rfl,fun g=>HH.out.keep s' W' Z (hr g) (fun q h1 h2=>hZs.block q h1 h2) hZs.size,hZb,?_⟩
  exact⟨hZs.os.trans (ht.os.trans HB.out.1.os),hZs.tape.trans (ht.tape.trans HB.out.1.tape),hZs.output.trans (ht.output.trans HB.out.1.output),NltQ HB.out.1.size (NltQ ht.size hZs.size),fun k h1 h2=>(hZs.block k (nL h1 (NltQ HB.out.1.size ht.size)) (fun h=>h2 (Or.inr h))).trans ((ht.block k (nL h1 HB.out.1.size) (fun h=>h2 (Or.inl h))).trans (HB.out.1.block k h1))⟩):p:=h
theorem sa4 {p:Prop}(h:p:=by
  exact⟨hZs.os.trans (ht.os.trans HB.out.1.os),hZs.tape.trans (ht.tape.trans HB.out.1.tape),hZs.output.trans (ht.output.trans HB.out.1.output),NltQ HB.out.1.size (NltQ ht.size hZs.size),fun k h1 h2=>(hZs.block k (nL h1 (NltQ HB.out.1.size ht.size)) (fun h=>h2 (Or.inr h))).trans ((ht.block k (nL h1 HB.out.1.size) (fun h=>h2 (Or.inl h))).trans (HB.out.1.block k h1))⟩):p:=h
theorem sa5 {p:Prop}(h:p:=by
  refine qp (i:=5) (o:=_) kr1 rfl ?_
  intro K5 hK5
  rw[ipQ (by rfl)]
  simp only[pg3]
  have HK5:=hH hK5
  clear hK5
  have hO3:=HSx _ eH
  clear eH
  have hown:=HR1.out.own
  rw[←HR.out.2.2.2.2.2.1] at hown
  have hownA:(V2.alloc (.cells #[.int .i64 key.1,.int .i64 key.2.1,.int .i64 (n2:Int),.string key.2.2] 182)).ownsRow w.heap.size 182 4 (.slice (some ⟨W2.heap.size,0,none⟩) np q) np (pre.flatMap qY):=yo hown (fun g' cur hc hg'=>by cases hg';rw[BhaQ V2 _ _ (nL hgl hsV2)];exact HV2.out.block _ hgl)
  refine jV _ (.tmp 16) (.tmp 20) 180 rfl w.heap.size 182 i0 4 Tryz.underlying180 HI.out.1 HI.out.2 W2.heap.size np q _ rfl hownA ⟨V2.heap.size,0,none⟩ 1 1 [.int .i64 key.1,.int .i64 key.2.1,.int .i64 (n2:Int),.string key.2.2] rfl rfl (World.news_of_block (hanQ V2 _)) (by simp[Value.oneCell']) hnq ?_
  intro w4 hown4 hgr4
  have eH:=HSM.out w4 ((World.cell?_of_block (a:=⟨w.heap.size+1,0,none⟩) (hgr4.block _ (by rw[WsaQ];exact Nat.lt_succ_of_lt (nL hOl hsV2)) (by simp;omega))).trans hO3)
  have HG4:=hH (aN hown4 hgr4)
  refine HK5.out _ _ eH ?_
  clear HK5 hown hownA hown4 hgr4 hO3
  refine qp (i:=6) (o:=_) kr1 rfl ?_
  intro K6 hK6
  rw[ipQ (by rfl)]
  simp only[pg3]
  have HK6:=hH hK6
  clear hK6
  have hO4:=HSx _ eH
  clear eH
  obtain⟨V5,hV5,r1,r2,r3,r4⟩:=zch (x:=(d,key,k)) HR1.out HV2.out (by rw[←HR.out.2.2.2.2.2.1];have h:=HG4.out.1;rw[show [Value.int .i64 key.1,.int .i64 key.2.1,.int .i64 (n2:Int),.string key.2.2]=qY (d,key,k) from by rw[HR.out.2.2.2.2.2.2];rfl] at h;exact h) HG4.out.2 (show W2.heap.size+1≠W2.heap.size by omega) (show w.heap.size+1≠W2.heap.size by omega) (show W2.heap.size+1≠w.heap.size+1 by omega) om1 om1
  rw[←HR.out.2.2.2.2.2.1] at hV5
  have l4:w4.cell? ⟨W2.heap.size+1,0,none⟩=some (.slice (some ⟨W2.heap.size,0,none⟩) np q):=(World.cell?_of_block (a:=⟨W2.heap.size+1,0,none⟩) (HG4.out.2.block _ (by rw[WsaQ];exact Nat.lt_succ_of_lt (nL hLl hsV2)) sp)).trans l0
  have fz4:w4.frozen? ⟨W2.heap.size+1,0,none⟩=false:=r4
  have HV5:=hH (aN hV5 (aN r1 (aN r2 r3)))
  have hO5:(w4.setCell ⟨W2.heap.size+1,0,none⟩ (.slice (some ⟨W2.heap.size,0,none⟩) (np+1) q)).cell? ⟨w.heap.size+1,0,none⟩=some (.func (.func 136) #[] #[]):=(World.cell?_of_block (a:=⟨w.heap.size+1,0,none⟩) (BhsQ _ _ _ _ (by show w.heap.size+1≠W2.heap.size+1;omega))).trans hO4
  have eH:=HSM.out _ hO5
  clear hV5 r1 r2 r3 r4 hO5 hO4
  have HH6:=hH eH
  clear eH
  gi_wp2
  refine HK6.out _ _ HH6.out ?_
  clear HK6 HH6
  refine ZW kr1 ?_ _
  have hend:∀aa:Act,zcD W.heap.size T (fun x=>S x∨x=W2.heap.size+2) (fun pre _ V=>JR w 180 182 184 4 (W2.heap.size+1) (w.heap.size+1) W2.heap.size q (.func (.func 136) #[] #[]) qY pre V) (fun _ _ _=>False) (pre++[(d,key,k)]) V1 .normal aa (w4.setCell ⟨W2.heap.size+1,0,none⟩ (.slice (some ⟨W2.heap.size,0,none⟩) (np+1) q)):=fun aa=>by
   obtain⟨e5,r1,r2,r3⟩:=HV5.out
   rw[←e5]
   have hsW:W.heap.size≤V1.heap.size:=by have:=HV1.out.2;have:=HR.out.2.2.1;omega
   refine⟨⟨r3,fun x o hx ho _=>?_⟩,⟨r3,fun x hx=>?_⟩,fun x hx=>?_,.inl ⟨rfl,r1⟩⟩
   · rw[r2 x (lohQ ho) om1 om1];exact ho
   · have:=HR.out.2.1 x hx;have:=HV1.out.2;exact r2 x (show x<V1.heap.size by omega) om1 om1
   · have hx' :x<W.heap.size∧x≠W2.heap.size∧x≠W2.heap.size+1:=by
      rcases hx with hx | hx
      · have:=H.out.1 x hx;omega
      · omega
     exact r2 x (show x<V1.heap.size by omega) hx'.2.1 hx'.2.2
  have HE:=hH hend
  clear hend
  gi_wp2
  exact HE.out _):p:=h
theorem sa6 {p:Prop}(h:p:=by
  refine AcQ (o:=_) rfl (fun K hK=>?_) AnQ
  rw[ipQ (by rfl)]
  simp only[pg3]
  have HK:=hH hK
  have HS:=hH eH
  clear hK eH
  go_wp2_with fail
  rw[←HE.out.2.1]
  refine HK.out _ _ (HSM.out _ HE.out.2.2) (fun eH=>?_)
  clear HK HS c0 cf
  refine wpAnyH_done kr1 ?_ _
  clear eH
  go_wp2_with fail
  go_end0
  rw[ho]
  exact HE.out.1):p:=h
theorem sa7 {p:Prop}(h:p:=by
  refine rd1 [6] ?_
  refine AcQ (o:=_) rfl (fun K hK=>?_) (AnQ)
  refine qx rfl (.tmp 6) (.tmp 11) 30 30 rfl (.slice a ln c) (.slice (some ⟨X.heap.size,0,none⟩) 1 1) (by simp[Act.eval,Act.put]) (by simp[Act.eval,Act.put]) HRUN.out (hK _ _ HSS.out.2.1 (fun eH=>?_))
  clear hK
  refine rd1 [7] ?_
  refine AcQ (o:=_) rfl (fun K hK=>?_) (AnQ)
  rw[ipQ (by rfl)]
  simp only[pg3]
  have HK:=hH hK
  clear hK eH
  obtain⟨hzl0,hzf⟩:=HZ.out
  go_wp2_with fail
  rw[←HVE.out]
  refine HK.out _ _ HSS.out.2.2 (fun eH=>?_)
  clear HK eH hzl0 hzf hl0
  refine wpAnyH_done kr1 ?_ _
  go_wp2_with fail
  go_loopw [5] (fun i wr=>∃k:Nat,k≤n∧i= .int .i64 (k:Int)∧Hid (JA W LB UB DB up (l++[u.id]++idF (zW k u.kids)) wr)) (fun i _=>n - (intOf i).toNat)
  case atStart=>exact⟨0,NzlQ _,rfl,hH (by
   have e:zW 0 u.kids= .nil:=by cases u.kids<;>rfl
   rw[e];simpa [idF] using HA.out)⟩
  case round=>
   obtain⟨k,hk,rfl,hr⟩:=hrel
   obtain⟨wo,hwo⟩:∃wo,wo=wr:=⟨_,rfl⟩
   subst hwo
   obtain⟨w0,w3,wd,wu⟩:=HCELL.out _ _ hr.out
   obtain⟨a2,c2,hl2,_⟩:=hr.out.row
   obtain⟨L,hL⟩:∃L,L=(l++[u.id]++idF (zW k u.kids)).length:=⟨_,rfl⟩
   rw[←hL] at hl2
   have wl:wo.cell? ⟨LB,0,none⟩=some (.slice a2 L c2):=by rw[corQ _ _ 0 _ _ _ hl2];rfl
   by_cases hlt:k<n
   · obtain⟨hb,hkk,hn,hkc,hle,hM,hln⟩:=HT.out
     obtain⟨b0,o0,key,ll,rr,hd,g,go,na,nc,hka,hSg,q0,q1,q2,q3,qc,qk⟩:=hkk.at k om1
     have hkid:Yc u.kids k=some ⟨key.1,key.2.1,key.2.2,ll⟩:=by rw[Yc,hd];rfl
     have hksz:=QT hkid
     have htk:=Qs u.kids k _ hkid
     have hlen:L=l.length+1+zh (zW k u.kids):=by rw[hL];simp[qy];omega
     have hfs:zh (zW (k+1) u.kids)=zh (zW k u.kids)+zh ll+1:=by
      have:=congrArg List.length htk
      rw[LlaQ,qy,qy,Zg] at this
      simp only at this;omega
     have hfl:∀(j:Nat) (f:Fo),zh (zW j f)≤zh f:=by
      intro j
      induction j with
      | zero=>intro f;cases f<;>simp[zW,zh]
      | succ j ih=>intro f;cases f with
        | nil=>simp[zW,zh]
        | node _ _ _ l r=>have:=ih r;simp only[zW,zh];omega
     have hfk:=hfl (k+1) u.kids
     have hLu:(L:Int)<up:=by omega
     have hkl:(k:Int)<(n:Int):=by omega
     have hk0:(0:Int)≤(k:Int):=by omega
     have hk6:(k:Int)≤1000000:=by have:=jG u.kids;omega
     have hnode:zbT W S ⟨key.1,key.2.1,key.2.2,ll⟩ g (go+k*4):=⟨hSg,q0,q1,q2,na,nc,q3,qc,qk⟩
     have hcall:=HIH.out wo.drew (l++[u.id]++idF (zW k u.kids)) ⟨key.1,key.2.1,key.2.2,ll⟩ g (go+k*4) (by simp only;omega) hnode ⟨hr.out.row,hr.out.below,hr.out.size,hr.out.os,hr.out.tape,hr.out.output⟩ (by rw[←hL];simp only;omega)
     subst hka
     have HCALL:=hH hcall
     have HLT:=hH hlt
     have HTK:=hH htk
     obtain⟨S4,hS4⟩:∃S4:World→Prop,S4=fun Y=>Y.cell? ⟨DB,0,none⟩=some (.func (.func 137) #[] #[.pointer (some ⟨LB,0,none⟩),.pointer (some ⟨UB,0,none⟩),.pointer (some ⟨DB,0,none⟩)])∧Y.cell? ⟨b,off+3,none⟩=some (.slice (some ⟨g,go,none⟩) n kc):=⟨_,rfl⟩
     have HS4:=hH (fun (Y:World) (h:S4 Y)=>(show Y.cell? ⟨DB,0,none⟩=some (.func (.func 137) #[] #[.pointer (some ⟨LB,0,none⟩),.pointer (some ⟨UB,0,none⟩),.pointer (some ⟨DB,0,none⟩)])∧Y.cell? ⟨b,off+3,none⟩=some (.slice (some ⟨g,go,none⟩) n kc) by rw[hS4] at h;exact h))
     have HMK:=hH (fun (Y:World) (m:List Int) (h:JA W LB UB DB up m Y)=>(show S4 Y by rw[hS4];exact⟨(HCELL.out Y m h).2.2.1,(HCELL.out Y m h).2.1⟩))
     have hS0:S4 wo.drew:=by rw[hS4];exact⟨wd,w3⟩
     clear hb hkk hn hkc hle hM hln hd hSg q0 q1 q2 q3 qc qk hkid hksz htk hlen hfs hfl hfk hnode hcall hlt hS4 hl2 hL
     go_wp2_with fail
     refine wrhQ (S:=S4) kr1 hS0 (fun eH=>?_)
     clear hS0
     refine tJ (i:=0) (.func (.func 137) #[] #[.pointer (some ⟨LB,0,none⟩),.pointer (some ⟨UB,0,none⟩),.pointer (some ⟨DB,0,none⟩)]) rfl ?_ ?_
     · clear eH;intro X hSw;obtain⟨s0,s1⟩:=HS4.out X hSw;clear hSw;go_simp
     simp only[Act.put,pg]
     refine tG (i:=1) (.pointer (some ⟨b,off,none⟩)) rfl ?_
     simp only[Act.put,pg]
     refine tG (i:=2) (.pointer (some ⟨b,off,none⟩)) rfl ?_
     simp only[Act.put,pg]
     refine tG (i:=3) (.pointer (some ⟨b,off+3,none⟩)) rfl ?_
     simp only[Act.put,pg]
     refine tJ (i:=4) (.slice (some ⟨g,go,none⟩) n kc) rfl ?_ ?_
     · clear eH;intro X hSw;obtain⟨s0,s1⟩:=HS4.out X hSw;clear hSw;go_simp
     simp only[Act.put,pg]
     refine tG (i:=5) (.int .i64 (k:Int)) rfl ?_
     simp only[Act.put,pg]
     refine tG (i:=6) (.pointer (some ⟨g,go+k*4,none⟩)) rfl ?_
     simp only[Act.put,pg]
     refine rd1 [7] ?_
     refine AcQ (o:=_) rfl (fun K hK=>?_) (AnQ)
     rw[ipQ (by rfl)]
     simp only[pg3]
     have HK:=hH hK
     clear hK eH
     go_wp2_with (go_at_call 137;refine HCALL.out.mono ?_;rintro e X' ⟨rfl,hd⟩;have HD:=hH hd;clear hd)
     refine HK.out _ _ (HMK.out _ _ HD.out) (fun eH=>?_)
     clear HK eH
     refine wpAnyH_done kr1 ?_ _
     clear w0 w3 wd wu wl hLu
     go_wp2_with fail
     exact⟨⟨k+1,HLT.out,by go_num,hH (by rw[HTK.out,←List.append_assoc];exact HD.out)⟩,by have:=HLT.out;simp[intOf];omega⟩
   · have hkn:k=n:=by omega
     subst hkn
     have HN:=hH HT.out.2.2.1
     clear hlt hL hl2
     go_wp2_with fail
     go_end0
     refine⟨rfl,?_⟩
     have:=hr.out
     rw[Zf k u.kids (by rw[HN.out];exact NlrQ _)] at this
     simpa [idT,List.append_assoc] using this):p:=h
theorem sa8 {p:Prop}(h:p:=by
  have ht2:=zG ht (S':=fun q=>O q∨q=b) (fun q h=>Or.inl h)
  exact⟨rfl,ht2.os.trans HB.out.1.os,ht2.tape.trans HB.out.1.tape,ht2.output.trans HB.out.1.output,NltQ HB.out.1.size ht2.size,fun k h1 h2=>(ht2.block k (nL h1 HB.out.1.size) h2).trans (HB.out.1.block k h1)⟩):p:=h
theorem sa9 {p:Prop}(h:p:=by
  refine tJ (i:=4) (.int .i64 q1) rfl ?_ ?_
  · clear eH;intro X hSw;obtain⟨m0,m1,m2,m3,m4,m5,m6,m7,m8⟩:=HST.out X hSw;clear hSw;go_simp
  simp only[Act.put,pg]
  refine tJ (i:=5) (.pointer (some ⟨w.heap.size,1,none⟩)) rfl ?_ ?_
  · clear eH;intro X hSw;obtain⟨m0,m1,m2,m3,m4,m5,m6,m7,m8⟩:=HST.out X hSw;clear hSw;go_simp
  simp only[Act.put,pg]
  refine rd1 [6] ?_
  refine AcQ (o:=_) rfl (fun K hK=>?_) AnQ
  rw[ipQ (by rfl)]
  simp only[pg3]
  have HK:=hH hK
  have HS:=hH eH
  clear hK eH
  obtain⟨k0,k1,_⟩:=HC.out w4 HIB.out
  have e4:=(HIB.out.block _ (lohQ HE.out.2.2.2.1)).trans HE.out.2.2.2.1
  have q1f:w4.frozen? ⟨w.heap.size,1,none⟩=false:=forQ _ _ 1 _ _ e4
  obtain⟨W5,hW5,r1,r2,r3,r4,r5,r6⟩:=one_set (i:=1) (u:= .int .i64 q1) e4
  have r1' :W5.heap[w.heap.size]? =some (.cells #[.int .i64 p1,.int .i64 q1] 128 (0,0)):=by simpa using r1
  have hbz:=HE.out.2.2.1.trans (HIB.out.mono HE.out.2.2.1.size)
  have hb5:Below w.heap.size w W5:=⟨r3.trans hbz.os,r4.trans hbz.tape,r5.trans hbz.output,by rw[r6];exact hbz.size,fun y hy=>(r2 y om1).trans (hbz.block y hy)⟩
  have f5:W5.heap[w.heap.size+1+1]? =some (.cells #[.int .i64 0,.int .i64 0] 128 (0,0)):=(r2 _ om1).trans ((HIB.out.block _ (lohQ HE.out.2.2.2.2)).trans HE.out.2.2.2.2)
  have ht5:za W1 W5 (fun y=>y=w.heap.size):=⟨r3.trans HIB.out.os,r4.trans HIB.out.tape,r5.trans HIB.out.output,by rw[r6];exact HIB.out.size,fun y h1 h2=>(r2 y h2).trans (HIB.out.block y h1)⟩
  have H5:=hH (aN hW5 (aN r1' (aN hb5 (aN f5 ht5))))
  clear hW5 r1 r1' r2 r3 r4 r5 r6 hbz hb5 f5 e4 ht5
  go_wp2_with fail
  rw[←H5.out.1]
  refine HK.out _ _ H5.out.2.2.2.2 (fun eH=>?_)
  clear HK HS k0 k1 q1f
  refine wpAnyH_done kr1 ?_ _
  clear eH
  obtain⟨k0,k1⟩:=YI H5.out.2.1
  obtain⟨y0,y1⟩:=YI H5.out.2.2.2.1
  have yf:∀j,W5.frozen? ⟨w.heap.size+1+1,j,none⟩=false:=fun j=>forQ _ _ j _ _ H5.out.2.2.2.1
  by_cases hp0:p1<0
  · obtain⟨V,hV,r1,r2,r3,r4,r5,r6⟩:=kC (u0:= .int .i64 0) (u1:= .int .i64 0) H5.out.2.2.2.1
    have HEE:=hH (aN hV (aN r1 (aN r2 (aN r3 (aN r4 (aN r5 (aN r6 hp0)))))))
    clear hV r1 r2 r3 r4 r5 r6
    go_wp2_with fail
    rw[←HEE.out.1]
    obtain⟨hV,r1,r2,r3,r4,r5,r6,hp0⟩:=HEE.out
    have hb5:=H5.out.2.2.1
    exact kW rfl ⟨r3.trans hb5.os,r4.trans hb5.tape,r5.trans hb5.output,by rw[r6];exact hb5.size,fun k hk=>(r2 k om1).trans (hb5.block k hk)⟩ r1 (Or.inr ⟨rfl,Or.inl (by rw[←HP.out.1];exact hp0)⟩) rfl rfl
  · by_cases hq0:q1<0
    · obtain⟨V,hV,r1,r2,r3,r4,r5,r6⟩:=kC (u0:= .int .i64 0) (u1:= .int .i64 0) H5.out.2.2.2.1
      have HEE:=hH (aN hV (aN r1 (aN r2 (aN r3 (aN r4 (aN r5 (aN r6 hq0)))))))
      clear hV r1 r2 r3 r4 r5 r6
      go_wp2_with fail
      rw[←HEE.out.1]
      obtain⟨hV,r1,r2,r3,r4,r5,r6,hp0⟩:=HEE.out
      have hb5:=H5.out.2.2.1
      exact kW rfl ⟨r3.trans hb5.os,r4.trans hb5.tape,r5.trans hb5.output,by rw[r6];exact hb5.size,fun k hk=>(r2 k om1).trans (hb5.block k hk)⟩ r1 (Or.inr ⟨rfl,Or.inr (by rw[←HP.out.2];exact hp0)⟩) rfl rfl
    · obtain⟨V,hV,r1,r2,r3,r4,r5,r6⟩:=kC (u0:= .int .i64 p1) (u1:= .int .i64 q1) H5.out.2.2.2.1
      have HEE:=hH (aN hV (aN r1 (aN r2 (aN r3 (aN r4 (aN r5 (aN r6 (aN hp0 hq0))))))))
      clear hV r1 r2 r3 r4 r5 r6
      go_wp2_with fail
      rw[←HEE.out.1]
      obtain⟨hV,r1,r2,r3,r4,r5,r6,hp0,hq0⟩:=HEE.out
      have hb5:=H5.out.2.2.1
      exact kW rfl ⟨r3.trans hb5.os,r4.trans hb5.tape,r5.trans hb5.output,by rw[r6];exact hb5.size,fun k hk=>(r2 k om1).trans (hb5.block k hk)⟩ r1 (Or.inl ⟨rfl,HP.out.1,HP.out.2,by rw[←HP.out.1];omega,by rw[←HP.out.2];omega⟩) rfl rfl):p:=h
theorem sb0 {p:Prop}(h:p:=by
  refine tJ (i:=11) (.bool false) rfl ?_ ?_
  · clear eH;intro Y hSw;clear hSw;go_simp
  simp only[Act.put,pg]
  refine tJ (i:=12) (.bool false) rfl ?_ ?_
  · clear eH;intro Y hSw;clear hSw;go_simp
  simp only[Act.put,pg]
  refine wpAnyH_take (i:=13) (oi:=_) (v:=undef) rfl kr1 kr1 kr1 (fun _ _ _ h=>h) (Or.inr ⟨by rfl,rfl⟩) (by assumption) ?_
  simp only[Act.put,pg]
  refine wpAnyH_take (i:=14) (oi:=_) (v:=undef) rfl kr1 kr1 kr1 (fun _ _ _ h=>h) (Or.inr ⟨by rfl,rfl⟩) (by assumption) ?_
  simp only[Act.put,pg]
  refine wpAnyH_take (i:=15) (oi:=_) (v:=undef) rfl kr1 kr1 kr1 (fun _ _ _ h=>h) (Or.inr ⟨by rfl,rfl⟩) (by assumption) ?_
  simp only[Act.put,pg]
  refine wpAnyH_take (i:=16) (oi:=_) (v:=undef) rfl kr1 kr1 kr1 (fun _ _ _ h=>h) (Or.inr ⟨by rfl,rfl⟩) (by assumption) ?_
  simp only[Act.put,pg]
  refine wpAnyH_take (i:=17) (oi:=_) (v:=undef) rfl kr1 kr1 kr1 (fun _ _ _ h=>h) (Or.inr ⟨by rfl,rfl⟩) (by assumption) ?_
  simp only[Act.put,pg]
  refine tJ (i:=18) (.bool false) rfl ?_ ?_
  · clear eH;intro Y hSw;clear hSw;go_simp
  simp only[Act.put,pg]
  refine tJ (i:=19) (.bool false) rfl ?_ ?_
  · clear eH;intro Y hSw;clear hSw;go_simp
  simp only[Act.put,pg]
  refine wpAnyH_done kr1 ?_ _
  have HW:=hH eH
  clear eH
  go_wp2_with fail
  go_ret
  exact⟨rfl,HBW.out _ HW.out⟩):p:=h
theorem sb1 {p:Prop}(h:p:=by
  obtain⟨n,hn⟩:∃n:Nat,n=Ym 0 bs:=⟨_,rfl⟩
  rw[←hn]
  have HN:=hH hn
  clear hn
  go_loopw [4,5] (fun v i wr=>zeT w.heap.size bs (n:Int) w v i wr) (fun _ i _=>(intOf i+8).toNat)
  case atStart=>exact⟨0,NzlQ _,rfl,by simpa using HO.out⟩
  case round=>
   obtain⟨k,hk,rfl,hinv⟩:=hrel
   have HV:=hH hinv
   clear hinv
   by_cases hlt:k<4
   · obtain⟨q,hq⟩:∃q:Nat,q=24 - 8*k:=⟨_,rfl⟩
     have hqi:(24 - 8*(k:Int))=(q:Int):=by omega
     have hq24:q≤24:=by omega
     have HQ:=hH (aN hq (aN hlt hqi))
     rw[hqi]
     clear hq hqi hlt hk
     go_wp2_with (at_builtin;refine YQ rfl (.tmp 19) (.tmp 24) 45 rfl w.heap.size i0 Tryz.underlying45 HI.out.1 HI.out.2.1 HI.out.2.2.1 HI.out.2.2.2 _ (bs++(be4 n).take k).length ((bs++(be4 n).take k).map cell) rfl w wr ((n:Int) / 2 ^ q % 256) HV.out _ rfl rfl (by have:=HQ.out.2.1;have:=HL.out;simp only[LlaQ,List.length_take,YU];omega) ?_;intro v' w1 ho;have HO2:=hH ho;clear ho)
     refine⟨⟨k+1,by have:=HQ.out.2.1;omega,by have:=HQ.out.2.2;congr 1;omega,?_⟩,by simp[intOf];omega⟩
     have h1:=zcK bs n k HQ.out.2.1
     rw[←HQ.out.1] at h1
     have h2:=HO2.out
     show yQ w.heap.size v' (bs++(be4 n).take (k+1)).length ((bs++(be4 n).take (k+1)).map cell) w w1
     rw[h1.1,h1.2]
     exact h2
   · have hk4:k=4:=by omega
     subst hk4
     have hi4:(24 - 8*((4:Nat):Int))= -8:=by omega
     rw[hi4]
     clear hlt hk hi4
     go_wp2_with fail
     go_ret
     have h2:=HV.out
     rw[HN.out] at h2
     exact⟨_,rfl,h2⟩):p:=h
theorem sb2 {p:Prop}(h:p:=by
  rw[←hym]
  rw[←hym] at HV
  refine HK.out _ _ HV.out.1 (fun eH=>?_)
  clear HK HS
  have HSC:=hH (HSM.out V1 ya ym yc _ hym (HB.out.1.trans (HV.out.1.mono HB.out.1.size)) (fun y hy=>hy.2) HV.out.2.1 HV.out.2.2)
  clear hym
  refine rd1 [3] ?_
  refine AcQ (o:=_) rfl (fun K hK=>?_) AnQ
  rw[ipQ (by rfl)]
  simp only[pg3]
  have HK:=hH hK
  have HS:=hH eH
  clear hK eH
  go_wp2_with (go_at_call 109;refine HSC.out.mono ?_;rintro e V2 ⟨rfl,hbv⟩;have HV2:=hH (HV.out.1.trans (hbv.mono HV.out.1.size));clear hbv)
  refine HK.out _ _ HV2.out (fun eH=>?_)
  clear HK HS HSC
  refine rd1 [4] ?_
  refine AcQ (o:=_) rfl (fun K hK=>?_) AnQ
  rw[ipQ (by rfl)]
  simp only[pg3]
  have HK:=hH hK
  have HS:=hH eH
  clear hK eH
  cases E
  · go_wp2_with fail
    refine (yV V2 false).mono ?_
    intro e V3 hq;obtain⟨rfl,hb2⟩:=hq.f
    exact⟨rfl,ql.no (by rw[HST.out];simp) (HB.out.1.trans ((HV2.out.trans (hb2.mono HV2.out.size)).mono HB.out.1.size))⟩
  go_wp2_with fail
  refine (yV V2 true).mono ?_
  intro e V3 hq;obtain⟨rfl,hb2⟩:=hq.t
  have HV3:=hH (HV2.out.trans (hb2.mono HV2.out.size))
  clear hq hb2
  refine HK.out _ _ HV3.out (fun eH=>?_)
  clear HK HS
  refine wpAnyH_done kr1 ?_ _
  clear eH
  go_wp2_with fail
  go_end0
  exact ql.yes (by rw[HST.out,HF0.out,HF1.out,HF2.out];rfl) (HB.out.1.trans (HV3.out.mono HB.out.1.size))):p:=h
theorem sb3 {p:Prop}(h:p:=by
  go_enter Tryz.func284,Tryz.ntmps284
  go_wp2_with (first
   | (go_at_call 274;refine HN.out.mono ?_;clear HN;rintro e w1 ⟨v,rfl,rfl,h1,h2⟩;obtain⟨e0,e1⟩:=HC.out w1 h1;have H1:=hH (aN h1 h2);clear h1 h2)
   | (go_at_call 178;refine (HF.out _ _ H1.out.1).mono ?_;clear HF;rintro e w2 ⟨rfl,h1,h2⟩)
   | go_quiet (fail))
  exact⟨rfl,rfl,h1,H1.out.2.trans (((za.refl w1 (fun k=>k=b)).drewN _).trans h2 (fun k hk=>Or.inl hk)) (fun k hk=>Or.inl hk)⟩):p:=h
theorem sb4 {p:Prop}(h:p:=by
  obtain⟨hw1,hw2,hw3⟩:=zhZ hwhy
  have hm0:(er == 0)=false:=by simpa using hw1
  have hmn:(er != 0)=true:=by simpa using hw1
  rw[←HBN.out] at hw3
  have H4:=hH (H3.out.trans (hbY.mono H3.out.size))
  clear hwhy hbY hw1
  as_aux_lemma=>
   have hg1:decide (0≤at_)=true:=decide_eq_true hw2
   have hg2:decide (at_≤(bn:Int))=true:=decide_eq_true hw3
   go_wp2_with fail
   refine (zhL _ 0 0 0 0 0 0 0 0 0 0 0 none none 0 0 0 0 [] yM (ko _) rfl 0 0 0 0 0 0 0 0 0 0 0 none none 0 0 0 0 [] yM (ko _) rfl rfl rfl (qj _)).mono ?_
   rintro e Y2 ⟨rfl,hb5⟩
   have H5:=hH ((H4.out.alloc (H4.out.size) (.cells #[.int .i8 0,.int .i64 0,.int .i64 0,.int .i64 0,.int .i64 0,.int .i64 0,.int .i64 0,.int .i64 0,.int .i64 0,.int .i64 0,.int .i64 0,.slice none 0 0,.int .i64 0,.int .i64 0,.string ⟨#[]⟩,.slice none 0 0] 37)).trans (hb5.mono (by have:=H4.out.size;rw[WsaQ];omega)))
   clear hb5
   go_wp2_with fail
   refine (Zj _).mono ?_
   rintro e x9 ⟨rfl,hb9⟩
   have H9:=hH (H5.out.trans (hb9.mono H5.out.size))
   clear hb9
   go_wp2_with fail
   go_ret
   exact⟨rfl,HB.out.1.trans (H9.out.mono HB.out.1.size)⟩):p:=h
theorem sb5 {p:Prop}(h:p:=by
  simp only[if_true,e] at hb
  change Calls _ _ _ _ (qf (zy (zI bs)) Y) at hb
  rw[vF hk.2.2.1] at hb
  rw[h1,h2,h3]
  exact hb):p:=h
theorem sb6 {p:Prop}(h:p:=by
  obtain⟨a',c',rfl⟩:=yE hown
  have hbZ:Below B.heap.size B Z:=HS.out.grown hgr HS.out.size (fun k hk=>(zY hro hk).1)
  have HE:=hH (aN hown hbZ)
  clear hown hgr hi0 hz0 hz1 hz2 hpos
  refine qx rfl (.tmp 9) (.tmp 12) 30 30 rfl (.slice (some ⟨pb,0,none⟩) 1 1) (.slice (some ⟨ig,0,none⟩) ln ic) (by simp[Act.eval,Act.put]) (by simp[Act.eval,Act.put]) hrun (HK.out _ _ hbZ (fun eH=>?_))
  simp only[Act.put,pg]
  clear HK HS hrun hbZ
  refine tJ (i:=7) (.slice a' (1+ln) c') rfl ?_ ?_
  · clear eH;intro X hSw;obtain⟨k0,k1,k2,k3,k4,k5,k6,k7,k8⟩:=HC.out X hSw;clear hSw;go_simp
  simp only[Act.put,pg]
  refine wpAnyH_done kr1 ?_ _
  clear eH
  go_wp2_with fail
  go_ret
  refine⟨a',c',?_,?_,HBW.out.trans (HE.out.2.mono HBW.out.size)⟩
  · rw[HNM.out,LlcQ,←HLN.out,Nat.add_comm];rfl
  · rw[HNM.out,LlcQ,←HLN.out,Nat.add_comm ln 1];exact zas HE.out.1 HBW.out.size):p:=h
theorem sb7 {p:Prop}(h:p:=by
  clear hbad h40
  go_enter Tryz.func287,Tryz.ntmps287
  go_wp2_with fail
  refine wp_region_still_tail 5 kr1 kr1 ?_
  simp only[List.take_succ_cons,List.take_zero,List.drop_succ_cons,List.drop_zero]
  rw[show ({ (((w.setCell ⟨nb,0,none⟩ (.int .i64 ((m:Int)+1))).alloc (.cells #[.int .i64 (depth:Int)] 3)).alloc (.cells yT 35)) with drawn:=(((w.setCell ⟨nb,0,none⟩ (.int .i64 ((m:Int)+1))).alloc (.cells #[.int .i64 (depth:Int)] 3)).alloc (.cells yT 35)).drawn+1 }:World)=W from HW.out.symm]
  repeat still_step
  try refine wpStill_nil ?_
  go_wp2_with (go_at_call 178;refine HF.out.mono ?_;rintro e w4 ⟨rfl,h1,h2⟩)
  exact⟨rfl,rfl,h1,HT.out.trans h2 (fun k hk=>Or.inl (Or.inl hk))⟩):p:=h
theorem sb8 {p:Prop}(h:p:=by
  have h1:=hk'.2.2.2
  rw[hop,h0] at h1
  exact (vB (by decide) hk'.1.2 (Option.some.inj h1)).symm):p:=h
theorem sb9 {p:Prop}(h:p:=by
  refine rd1 [6] ?_
  refine AcQ (o:=_) rfl (fun K hK=>?_) (AnQ)
  refine qx rfl (.tmp 11) (.tmp 16) 214 214 rfl (.slice wa wn wc) (.slice (some ⟨X.heap.size,0,none⟩) 1 1) (by simp[Act.eval,Act.put]) (by simp[Act.eval,Act.put]) HRUN.out (hK _ _ HSQ.out.2.1 (fun eH=>?_))
  clear hK
  refine rd1 [7] ?_
  refine AcQ (o:=_) rfl (fun K hK=>?_) (AnQ)
  rw[ipQ (by rfl)]
  simp only[pg3]
  have HK:=hH hK
  clear hK eH
  obtain⟨hzl0,hzf⟩:=HZ.out
  go_wp2_with fail
  rw[←HVE.out]
  refine HK.out _ _ HSQ.out.2.2 (fun eH=>?_)
  clear HK eH hzl0 hzf hl0
  refine wpAnyH_done kr1 ?_ _
  go_wp2_with fail
  go_end0
  exact⟨rfl,HEND.out⟩):p:=h
theorem sc0 {p:Prop}(h:p:=by
  obtain⟨n1,n2,n3⟩:=vQ [a1,a2,a4,a5,a10] S _ hb hd (by
   intro x hx
   simp only[List.mem_cons,List.not_mem_nil,or_false] at hx
   rcases hx with rfl | rfl | rfl | rfl | rfl<;>assumption)
  simp only[LlcQ,List.length_nil,Nat.zero_add,Nat.reduceAdd,Nat.reduceMul] at n2 n3
  have hlen:=congrArg List.length hd
  simp only[List.length_drop,LlaQ,List.flatMap_cons,List.flatMap_nil,zw,List.length_nil] at hlen
  have e1:=n1 0 a1 rfl
  have e2:=n1 1 a2 rfl
  have e4:=n1 2 a4 rfl
  have e5:=n1 3 a5 rfl
  have e10:=n1 4 a10 rfl
  refine⟨⟨e1,e2,rfl,e4,e5,rfl,rfl,rfl,rfl,e10⟩,rfl,rfl,?_⟩
  show (rdN S 5).yR=_
  refine jb (by rw[n2];exact hb) ?_
  rw[n2]
  show S.data.length≤S.pos+40
  omega):p:=h
theorem sc1 {p:Prop}(h:p:=by
  simp only[LlaQ,LlcQ,List.length_nil,zw]
  omega):p:=h
theorem sc2 {p:Prop}(h:p:=by
  have:k=0∨k=1∨k=2∨k=3∨k=4∨k=5∨k=6∨k=7∨k=8∨k=9∨k=10:=by omega
  rcases this with rfl | rfl | rfl | rfl | rfl | rfl | rfl | rfl | rfl | rfl | rfl<;>rfl):p:=h
theorem sc3 {p:Prop}(h:p:=by
  subst this
  rw[hrd,hpe] at h1
  rw[h2] at h1
  exact absurd h1 sp):p:=h
theorem sc4 {p:Prop}(h:p:=by
  refine (yV V2 false).mono ?_
  intro e V3 hq;obtain⟨rfl,hb2⟩:=hq.f
  exact⟨rfl,ql.no (by rw[HST.out];simp) (HB.out.1.trans ((HV2.out.trans (hb2.mono HV2.out.size)).mono HB.out.1.size))⟩):p:=h
theorem sc5 {p:Prop}(h:p:=by
  clear HC
  go_enter Tryz.func109,Tryz.ntmps109
  go_wp2_with fail
  go_ret
  exact EqC.mk HV.out (jw _ _ _)):p:=h
theorem sc6 {p:Prop}(h:p:=by
  have h2:vs= []:=List.eq_nil_of_length_eq_zero om1
  rw[hu,hpl,h2];rfl):p:=h
theorem sc7 {p:Prop}(h:p:=by
  rw[hpl] at hu
  have:=jq (us:=us) (by simpa using hu)
  rw[hm.len,this];rfl):p:=h
theorem sc8 {p:Prop}(h:p:=by
  have ho:=h.1.1
  have hc:=fun g hg=>World.ownsRowF.cells ho (g:=g) hg
  rcases ho.2 with ⟨hv,hn⟩ | ⟨g,cap,cur,fz,hv,hB,hh,_⟩
  · refine⟨Option.none,0,by rw[hv,hn],⟨fun _=>List.eq_nil_of_length_eq_zero hn,fun ad e=>by cases e⟩,fun ad e=>by cases e⟩
  · subst hv
    exact⟨_,cap,rfl,⟨fun e=>(by cases e),fun ad e j u hj=>by
     cases e
     exact hc g rfl j _ (by rw[List.getElem?_map,hj];rfl)⟩,fun ad e=>by cases e;exact⟨hB,lohQ hh⟩⟩):p:=h
theorem sc9 {p:Prop}(h:p:=by
  go_wp2_with fail
  exact brQ (qz rfl _ _ w.heap.size 37 #[.int .i8 0,.int .i64 0,.int .i64 0,.int .i64 0,.int .i64 0,.int .i64 0,.int .i64 0,.int .i64 0,.int .i64 0,.int .i64 0,.int .i64 0,.slice none 0 0,.int .i64 0,.int .i64 0,.string ⟨#[]⟩,.slice none 0 0] (0,0) _ (.int .i64 0) (.int .i64 30) rfl HS.out.1 Tryz.underlying37 rfl kr1 rfl rfl) rfl ⟨rfl,HV.out.1.trans (HS.out.2 w.heap.size (NlrQ _))⟩):p:=h
theorem sd0 {p:Prop}(h:p:=by
  rw[←HBE.out]
  clear HBE
  go_wp2_with fail
  rw[←HV9.out.1]
  refine brQ (qo rfl _ _ (w.heap.size+1) 41 _ (0,0) _ rfl HV9.out.2 Tryz.underlying41 rfl kr1) rfl ?_
  exact HEND.out):p:=h
theorem sd1 {p:Prop}(h:p:=by
  clear hcd h1 hc1 hd1
  go_enter Tryz.func114,Tryz.ntmps114
  go_upto_region 1 with fail
  change Code.wp _ _ _ _ (X.alloc (.cells #[.int .i64 t.id,.int .i64 t.kind,.string t.text,.slice ka kn kc] 35))
  rw[←HBE.out.1]
  go_upto_region 2 with fail
  rw[←HBE.out.2]
  go_wp2_with fail
  refine (HA.out V).mono ?_
  intro e w' hq;obtain⟨rfl,hb'⟩:=hq.f
  exact⟨rfl,Qh.none HNN.out (HV.out.on hb')⟩):p:=h
theorem sd2 {p:Prop}(h:p:=by
  clear e hb
  go_enter Tryz.func79,Tryz.ntmps79
  go_wp2_with (go_quiet (fail))
  go_ret2
  exact⟨_,rfl,rfl,H.out.drewN _,(za.refl _ _).drewN _⟩):p:=h
theorem sd3 {p:Prop}(h:p:=by
  obtain⟨m,s'⟩:=ms
  rw[ho] at hq
  obtain⟨rfl,hr,ht⟩:=hq
  have HW:=hH (aN hr (show za X W' O from⟨ht.os.trans HB.out.1.os,ht.tape.trans HB.out.1.tape,ht.output.trans HB.out.1.output,NltQ HB.out.1.size ht.size,fun k h1 h2=>(ht.block k (nL h1 HB.out.1.size) h2).trans (HB.out.1.block k h1)⟩))
  clear hr ht
  go_wp2_with fail
  go_ret
  rw[ho]
  exact⟨rfl,HW.out.1,HW.out.2⟩):p:=h
theorem sd4 {p:Prop}(h:p:=by
  rcases h.2 with ⟨hv,_⟩ | ⟨g',cap',cur,hv,hB,hh,h3,h4,h5,h6⟩
  · cases hv
  · cases hv
    refine⟨by omega,Or.inr ⟨g,cap,cur,rfl,hB,hh,by omega,h4,h5,?_⟩⟩
    have h7:(cur.toList.take ((n+1)*1)).take (n*1)=(xs++[u]).take (n*1):=by rw[h6]
    rw[List.take_take,Nat.min_eq_left om1] at h7
    rw[h7,List.take_left' om1]):p:=h
theorem sd5 {p:Prop}(h:p:=by
  obtain⟨rfl,hb2⟩:=hq.f
  exact⟨rfl,ql.no (by rw[HST.out,hb0];simp) (HB.out.1.trans (hb2.mono HB.out.1.size))⟩):p:=h
theorem sd6 {p:Prop}(h:p:=by
  simp only[List.mem_cons,List.not_mem_nil,or_false] at ha
  rcases ha with rfl | rfl | rfl | rfl | rfl
  · exact zC _
  · exact zC _
  · exact zC _
  · exact zC _
  · exact zC _):p:=h
theorem sd7 {p:Prop}(h:p:=by
  obtain⟨rfl,hb2⟩:=hq.f
  exact⟨rfl,ql.no (by rw[HST.out,hb0,HF0.out];simp) (HB.out.1.trans ((H1.out.trans (hb2.mono H1.out.size)).mono HB.out.1.size))⟩):p:=h
theorem sd8 {p:Prop}(h:p:=by
  have hjl:j=ll:=by omega
  have HE:=hH (Zb.some (R:=R) (O:=O) (b:=b) (X:=X) (o:=N) (by rw[HN2.out,←hrun,List.take_of_length_le (by rw[←HL.out.2.1,←HLL.out];omega)]) hrr hcc (H2.out.2.2.2.1.zK ((zn H3.out.1 _).zK htt)))
  clear hrun hrr hcc hmm htt hjl hlt hj
  go_wp2_with fail
  go_end0
  exact HE.out):p:=h
theorem sd9 {p:Prop}(h:p:=by
  have hx1:=hx.1
  have hx2:=hx.2
  have hne:rv.ownBlock≠some x:=fun e=>by have:=hrv x e;omega
  refine⟨⟨by omega,by omega,fun e=>?_⟩,t3.block x hx2 hne⟩
  simp only[Value.ownBlock,Option.some.injEq] at e
  rcases hat with h' | h'
  · exact hne (by rw[h',e])
  · omega):p:=h
theorem se0 {p:Prop}(h:p:=by
  go_enter Tryz.func55,Tryz.ntmps55
  go_wp2_with fail
  go_ret
  exact⟨by rw[HB.out];rfl,rfl⟩):p:=h
theorem se1 {p:Prop}(h:p:=by
  obtain⟨h1,h2,h3,h4⟩:=h
  exact⟨h1,h4,h2,⟨(zo s 0),(zo s 1),0,(zo s 2),(zo s 3),0,0,0,0,(zo s 4),none,0,0,0,0,⟨#[]⟩,none,0,0⟩,⟨⟨rfl,rfl,rfl,rfl,rfl,rfl,rfl,rfl,rfl,rfl⟩,⟨rfl,rfl,rfl⟩,[],ko Z,rfl⟩,h3⟩):p:=h
theorem se2 {p:Prop}(h:p:=by
  rw[ho] at hq
  obtain⟨rfl,ht⟩:=hq
  exact⟨rfl,rfl,ht.os.trans HB.out.1.os,ht.tape.trans HB.out.1.tape,ht.output.trans HB.out.1.output,NltQ HB.out.1.size ht.size,fun k h1 h2=>(ht.block k (nL h1 HB.out.1.size) h2).trans (HB.out.1.block k h1)⟩):p:=h
theorem se3 {p:Prop}(h:p:=by
  go_enter Tryz.func142,Tryz.ntmps142
  go_wp2_with fail
  go_ret
  exact⟨rfl,rfl⟩):p:=h
theorem se4 {p:Prop}(h:p:=by
  have HA:=hH (yV w false)
  have HB:=hH hb
  clear hb
  go_enter Tryz.func110,Tryz.ntmps110
  go_wp2_with fail
  refine HA.out.mono ?_
  intro e w' hq;obtain⟨rfl,hb'⟩:=hq.f
  exact⟨rfl,ql.no HB.out hb'⟩):p:=h
theorem se5 {p:Prop}(h:p:=by
  rw[HL.out.2.2.2.2.2.2]
  exact QS w A H3.out.2.2.2.1 k HL.out.2.2.2.2.1 HL.out.2.2.2.2.2.1 _ (by rw[hll];exact H3.out.2.2.2.2)):p:=h
theorem se6 {p:Prop}(h:p:=by
  rw[hW1,←hB]
  refine⟨?_,(BhaQ _ _ _ sp).trans (World.alloc_heap_new w _)⟩
  have:=World.alloc_heap_new (w.alloc (.deferred (some []))) (.loop (rec .ready none))
  rwa [WsaQ] at this):p:=h
theorem se7 {p:Prop}(h:p:=by
  go_wp2_with fail
  refine (Zj _).mono ?_
  rintro e x9 ⟨rfl,hb9⟩
  have H9:=hH (H6.out.trans (hb9.mono H6.out.size))
  clear hb9
  go_wp2_with fail
  go_ret
  exact⟨rfl,HB.out.1.trans (H9.out.mono HB.out.1.size)⟩):p:=h
theorem se8 {p:Prop}(h:p:=by
  show if Region.wanted o (yielded ops a.tmps)=true then _ else _
  split
  · rename_i hw;rw[ipQ hw] at this;exact this
  · rename_i hw;rw[inQ hw] at this;exact⟨fun _ _=>trivial,this⟩):p:=h
theorem se9 {p:Prop}(h:p:=by
  obtain⟨h1,h2⟩:=h
  refine⟨h1,?_⟩
  rcases h2 with h2 | ⟨g,cap,cur,hv,hg,hh,r⟩
  · exact Or.inl h2
  · exact Or.inr ⟨g,cap,cur,hv,hg,(hk g (by rw[hv];rfl)).trans hh,r⟩):p:=h
theorem sf0 {p:Prop}(h:p:=by
  exact⟨⟨ht.os.trans h1.os,ht.tape.trans h1.tape,ht.output.trans h1.output,NltQ h1.size ht.size,fun q hq=>(ht.block q (nL hq h1.size) om1).trans (h1.block q hq)⟩,h2⟩):p:=h
theorem sf1 {p:Prop}(h:p:=by
  obtain⟨rfl,⟨m0,m1,m2,ar,am,ad⟩,⟨f1,⟨f2,f3,f4,f5⟩,f6,f7⟩,h3,h4⟩:=h
  simp only at f2 f3 f4 f5 f6 f7
  subst f2 f3 f4 f5
  exact⟨rfl,h4,ar,ad,f1,f6,f7,h3⟩):p:=h
theorem sf2 {p:Prop}(h:p:=by
  rw[Option.map_eq_some_iff] at h
  obtain⟨i,hi,he⟩:=h
  simp only[Prod.mk.injEq,Option.map_eq_some_iff] at he
  obtain⟨h1,h2,z,hz,h3⟩:=he
  exact⟨i,z,hi,hz,h1,h2,h3⟩):p:=h
theorem sf3 {p:Prop}(h:p:=by
  go_wp2_with fail
  exact⟨⟨j+1,HJ.out,by go_num,hH ⟨t,_,HQ.out.1,HQ.out.2.1,HQ.out.2.2.1,HQ.out.2.2.2.1,HQ.out.2.2.2.2⟩⟩,by have:=HJ.out;simp[intOf];omega⟩):p:=h
theorem sf4 {p:Prop}(h:p:=by
  obtain⟨hq1,hq2,hq3,hq4⟩:=HEQ.out
  subst hq1 hq2 hq3 hq4
  go_roundg gk'
  case measure=>have h1:=HT.out.2.2.2.1;rw[vz,qM,jd] at h1;omega
  case rel=>exact hH hinv):p:=h
theorem sf5 {p:Prop}(h:p:=by
  obtain⟨rfl,hb2⟩:=hq.f
  exact⟨rfl,ql.no (by rw[HST.out,hb0,HF0.out,HF1.out];simp) (HB.out.1.trans ((H2.out.trans (hb2.mono H2.out.size)).mono HB.out.1.size))⟩):p:=h
theorem sf6 {p:Prop}(h:p:=by
  go_wp2_with fail
  refine HA.out.mono ?_
  intro e w' hq;obtain⟨rfl,hb'⟩:=hq.t
  have HB':=hH hb'
  clear hb'
  go_wp2_with fail
  go_end0
  exact ql.yes HB.out HB'.out):p:=h
theorem sf7 {p:Prop}(h:p:=by
  have hp' :tmps[p]?.getD undef= .pointer (some ⟨g,0,none⟩):=by simpa using hp
  simp[results,h,hp',asAddr,run_loadVar_row w g t ty cs fr d hg hu hd hi]):p:=h
theorem sf8 {p:Prop}(h:p:=by
  have hp1:=HP1.out;have hp2:=HP2.out;have hp3:=HP3.out;have hp4:=HP4.out;have hp5:=HP5.out;rw[HO.out];simp only[jL,hp1,hp2,hp3,hp4,hp5,hp6]):p:=h
theorem sf9 {p:Prop}(h:p:=by
  obtain⟨cur,hcur⟩:=YD hroX e.symm
  exact absurd (QA (hcur) hcs) (by decide)):p:=h
theorem sg0 {p:Prop}(h:p:=by
  exact⟨⟨by omega,by rw[s3];exact hx.2⟩,s2.block x hx.2 om1⟩):p:=h
theorem sg1 {p:Prop}(h:p:=by
  cases e with
  | returned u=>exact⟨keep a hy u,by rw[←Act.put_comm a v u h2];exact he⟩
  | panicked c=>exact hQ _ _ _ he
  | outgrown=>exact he):p:=h
theorem sg2 {p:Prop}(h:p:=by
  go_wp2_with (go_at_call 284;refine HN.out.mono ?_;clear HN;rintro e w1 ⟨rfl,h1,h2⟩)
  exact⟨rfl,rfl,h1,h2⟩):p:=h
theorem sg3 {p:Prop}(h:p:=by
  have hp1:=HP1.out;have hp2:=HP2.out;have hp3:=HP3.out;have hp4:=HP4.out;rw[HO.out];simp only[yA,inQ HZ.out.1,hp1,hp2,hp3,hp4,hp5]):p:=h
theorem sg4 {p:Prop}(h:p:=by
  go_wp2_with fail
  refine HC.out.mono ?_
  intro e w' hq;obtain⟨rfl,hb'⟩:=hq.f
  exact⟨rfl,kJ.no rfl (HB.out.1.trans (hb'.mono HB.out.1.size))⟩):p:=h
theorem sg5 {p:Prop}(h:p:=by
  go_wp2_with (go_at_call 157;refine HT.out.mono ?_;rintro e w1 ⟨rfl,h1,h2⟩)
  exact⟨rfl,rfl,h1,h2⟩):p:=h
theorem ua0 {p:Prop}(h:p:=by simp[Builtin.append_,run_underlying ht,sizeOf,typeInfo,hi,Builtin.lenOf,Builtin.firstCells]):p:=h
theorem ua1 {p:Prop}(h:p:=by simp[Builtin.append_,run_underlying ht,sizeOf,typeInfo,hi,Builtin.lenOf,Builtin.firstCells,hnc,storeCells]):p:=h
theorem ua2 {p:Prop}(h:p:=by clear eH;intro Y hSw;obtain⟨p0,p1⟩:=HP.out Y hSw;clear hSw;go_simp):p:=h
theorem ua3 {p:Prop}(h:p:=by clear eH;intro X hSw;obtain⟨m0,m1,m2,m3,m4,m5,m6,m7,m8⟩:=Zt ((hSw.block _ (lohQ HST.out) om1).trans HST.out);clear hSw;go_simp):p:=h
theorem ua4 {p:Prop}(h:p:=by clear eH;intro X hSw;obtain⟨⟨vb0,vb1⟩,q3,q4⟩:=HSX.out X hSw;clear hSw;go_simp):p:=h
theorem ua5 {p:Prop}(h:p:=by clear eH;intro X hSw;obtain⟨k0,k1,k2,k3,k4,k5,k6,k7,k8⟩:=HC.out X hSw;clear hSw;go_simp):p:=h
theorem ua6 {p:Prop}(h:p:=by clear eH;intro X hSw;obtain⟨m0,m1,m2,m3,m4,m5,m6,m7,m8⟩:=HST.out X hSw;clear hSw;go_simp):p:=h
theorem ua7 {p:Prop}(h:p:=by clear eH;intro Y hSw;obtain⟨k0,k1,k2⟩:=HKD.out Y hSw;clear hSw;go_simp):p:=h
theorem ua8 {p:Prop}(h:p:=by clear eH;intro Y hSw;clear hSw;simp[execOp,Act.eval,hidx]):p:=h
theorem ua9 {p:Prop}(h:p:=by exact⟨by simp[zh],⟨show ((0:Nat):Int)≤9223372036854775807 by omega,show (Lit.int .i64 0).wf=true by decide⟩,True.intro⟩):p:=h
theorem ub0 {p:Prop}(h:p:=by clear eH;intro Y hSw;obtain⟨p0,p1,p2,p3,p4,p5,p6,p7,p8,p9,p10,p11,p12,p13,p14,p15⟩:=HA.out Y hSw;clear hSw;go_simp):p:=h
theorem ub1 {p:Prop}(h:p:=by clear eH;intro Y hSw;obtain⟨q0,q1,q2,q3,q4,q5,q6,q7,q8,q9,q10,q11,q12,q13,q14,q15⟩:=HB.out Y hSw;clear hSw;go_simp):p:=h
theorem ub2 {p:Prop}(h:p:=by clear eH;intro Y hSw;clear hSw;simp[execOp,Act.eval,HE.out Y,Y0]):p:=h
theorem ub3 {p:Prop}(h:p:=by have:=QV (WB (w.alloc (.cells yT 35)) b) b dv s (((h.alloc _).alloc _).alloc _);rw[ho] at this;exact this):p:=h
theorem ub4 {p:Prop}(h:p:=by rw[h4,List.map_map];have:(yS∘JI)=id:=funext fun x=>zaI x;rw[this,List.map_id];rfl):p:=h
theorem ub5 {p:Prop}(h:p:=by rcases hy with h | h | h;exact Or.inr om1;exact Or.inr om1;exact Or.inl h):p:=h
theorem ub6 {p:Prop}(h:p:=by rw[hm.len];have:=congrArg List.length h4;simp[steps] at this;rw[this];rfl):p:=h
theorem ub7 {p:Prop}(h:p:=by have:=H.out.2.2.2.1;simp only[LlaQ,List.length_singleton,zw];omega):p:=h
theorem ub8 {p:Prop}(h:p:=by rcases hy with h | h | h;omega;omega;have:=H.out.2.2.1 y h;omega):p:=h
theorem ub9 {p:Prop}(h:p:=by have:=ZN _ b dv s (h.alloc (yL b));rw[ho] at this;exact this):p:=h
theorem uc0 {p:Prop}(h:p:=by simp only[List.take_succ_cons,List.take_zero,yl,zk,e1,ho]):p:=h
theorem uc1 {p:Prop}(h:p:=by have:=H1.out.2.1.cells.2.2.1;rw[hs'] at this;exact this):p:=h
theorem uc2 {p:Prop}(h:p:=by show (zI bs).length≤100000;omega):p:=h
theorem uc3 {p:Prop}(h:p:=by have:=HROW.out.2.2.1;simp;omega):p:=h
theorem uc4 {p:Prop}(h:p:=by show zh zN.kids+1≤400000;decide):p:=h
theorem uc5 {p:Prop}(h:p:=by have:=HB.out.2.2.2.1;omega):p:=h
theorem uc6 {p:Prop}(h:p:=by show _<(foLen r+1)*4;omega):p:=h
theorem uc7 {p:Prop}(h:p:=by simp[World.setCell];omega):p:=h
theorem uc8 {p:Prop}(h:p:=by simp only[WsaQ];omega):p:=h
theorem uc9 {p:Prop}(h:p:=by simp[Value.oneCell']):p:=h
theorem ud0 {p:Prop}(h:p:=by have:=H2.out.1;omega):p:=h
theorem ud1 {p:Prop}(h:p:=by unfold maxLen;omega):p:=h
theorem ud2 {p:Prop}(h:p:=by rw[n2];exact hb):p:=h
theorem ud3 {p:Prop}(h:p:=by simp only;omega):p:=h
theorem ud4 {p:Prop}(h:p:=by rw[WsaQ];omega):p:=h
theorem ud5 {p:Prop}(h:p:=by simp[Act.eval]):p:=h
theorem ud6 {p:Prop}(h:p:=by simpa using h):p:=h
theorem ud7 {p:Prop}(h:p:=by simp[go_sem]):p:=h
theorem ud8 {p:Prop}(h:p:=by simp;omega):p:=h
theorem ud9 {p:Prop}(h:p:=by assumption):p:=h
theorem ue0 {p:Prop}(h:p:=by decide):p:=h
theorem ue1 {p:Prop}(h:p:=by rfl):p:=h
end Go.Proofs.YtoidedomenkbpaaGreat
