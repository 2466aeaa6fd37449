/-
  .
-/
import Derived.Test.YtnikgofkldkdkaaNFirstQt
set_option maxRecDepth 100000
set_option maxHeartbeats 40000000
set_option linter.unusedVariables false
set_option linter.unusedSimpArgs false
namespace Go.Proofs.Ytnikgofkldkdkaa
open Go.RowKit Go.Shelf
attribute [local go_sem] Oper.semAt_some
structure Y5 (w:World) (s:Sf) (u:Tr) (SB B1 mb n:Nat) (L:List (Int×(Nat×Nat))) (V:World):Prop where
 fo:zk V (fun q=>w.heap.size+1≤q∧q<B1) (zh u) (some ⟨SB,5,none⟩)
 pre:yP V (zh u) SB 5=L
 nodup:(SB::zz V 0 (zh u) SB 5).Nodup
 free:∀q∈SB::zz V 0 (zh u) SB 5,kN V q
 map:zV V mb n L
 mlo:B1≤mb
 head:V.cell? ⟨SB,0,none⟩=some (.int .i8 s.op)∧V.cell? ⟨SB,1,none⟩=some (.int .i64 s.id)∧V.cell? ⟨SB,2,none⟩=some (.int .i64 s.par)∧V.cell? ⟨SB,3,none⟩=some (.int .i64 s.at_)∧V.cell? ⟨SB,4,none⟩=some (.string s.tx)
 res:V.heap[w.heap.size]? =some (.cells #[.int .i8 0,.int .i64 0,.int .i64 0,.int .i64 0,.string ⟨#[]⟩,.int .i64 0,.int .i64 0,.string ⟨#[]⟩,.slice none 0 0] 49 (0,0))
 below:Below w.heap.size w V
 size:B1≤V.heap.size
theorem Y5.step {w V U V' :World}{s:Sf}{u:Tr}{SB B1 mb n pb po:Nat}{L:List (Int×(Nat×Nat))}{id:Int}{tx:ByteArray}(h:Y5 w s u SB B1 mb n L V)(hSB:w.heap.size+1≤SB∧SB<B1)(hU:∀q,q<V.heap.size→U.heap[q]? =V.heap[q]?)(hUs:V.heap.size≤U.heap.size)(hUo:U.os=V.os∧U.tape=V.tape∧U.output=V.output)(hp:zR id L=some (pb,po))(hV' :V'=U.setCell ⟨pb,po+2,none⟩ (.string tx)):
 (∃tx0,U.cell? ⟨pb,po+2,none⟩=some (.string tx0))∧U.frozen? ⟨pb,po+2,none⟩=false∧pb<V.heap.size∧Y5 w s (wiT id tx u).1 SB B1 mb n L V':=by
 have hs:=h.size
 have hfoU:zk U (fun q=>w.heap.size+1≤q∧q<B1) (zh u) (some ⟨SB,5,none⟩):=h.fo.kept fun q hq=>⟨hq,hU q om⟩
 have hkept:=fun q (hq:w.heap.size+1≤q∧q<B1)=>hU q (show q<V.heap.size by omega)
 have hrU:zz U 0 (zh u) SB 5=zz V 0 (zh u) SB 5:=jg h.fo (fun q hq j=>jV (hkept q hq) j)
 have hpU:yP U (zh u) SB 5=L:=by
  rw[←h.pre]
  exact (jB (zh u) SB 5 h.fo (fun j _=>World.cell?_of_block (a:=⟨SB,j,none⟩) (hkept SB hSB)) (fun q hq j=>World.cell?_of_block (a:=⟨q,j,none⟩) (hkept q (qF h.fo hq)))).2.1
 have hmem:=Zh id L _ hp
 rw[←hpU] at hmem
 obtain⟨tx0,ht0⟩:=Q3 hfoU hmem
 have hin:=Yf hfoU hmem
 rw[hrU] at hin
 simp only at ht0 hin
 have hpbL:pb∈SB::zz V 0 (zh u) SB 5:=by
  rcases hin with h1 | h1
  · rw[h1.1];exact List.mem_cons_self ..
  · exact List.mem_cons_of_mem _ h1
 have hpbX:w.heap.size+1≤pb∧pb<B1:=by
  rcases hin with h1 | h1
  · rw[h1.1];exact hSB
  · exact qF h.fo h1
 obtain⟨cs,ty,hfr⟩:=h.free pb hpbL
 have hfrU:=(hU pb om).trans hfr
 have hset:V'.cell? ⟨pb,po+2,none⟩=some (.string tx):=by rw[hV'];exact World.cell?_setCell_same' _ _ _ (by rw[ht0];rfl)
 have hoth:∀q j,¬(q=pb∧j=po+2)→V'.cell? ⟨q,j,none⟩=U.cell? ⟨q,j,none⟩:=fun q j hne=>by rw[hV'];exact World.cell?_setCell_other _ _ _ _ (fun e=>hne (by cases e;exact⟨rfl,rfl⟩))
 obtain⟨f1,f2,f3⟩:=Q7 (id:=id) (tx:=tx) hset hoth (zh u) SB 5 hfoU (by rw[hrU];exact h.nodup) (by rw[hpU];exact hp)
 rw[←(jG id tx u).1] at f1 f2 f3
 have hblk:∀q,q<V.heap.size→q≠pb→V'.heap[q]? =V.heap[q]?:=fun q hq hne=>by rw[hV',BhsQ _ _ _ _ hne];exact hU q hq
 have hs' :V'.heap.size=U.heap.size:=by rw[hV'];simp[World.setCell]
 have hhead:∀j,j<5→V'.cell? ⟨SB,j,none⟩=V.cell? ⟨SB,j,none⟩:=fun j hj=>(hoth SB j (fun e=>by
  have h2:=e.2
  rcases hin with h1 | h1
  · have:=h1.2;omega
  · have h9:=h1
    rw[←e.1] at h9
    exact (List.nodup_cons.1 h.nodup).1 h9)).trans (World.cell?_of_block (a:=⟨SB,j,none⟩) (hU SB om))
 have hws:=h.below.size
 have hmlt:=h.map.lt
 have hml:=h.mlo
 refine⟨⟨tx0,ht0⟩,forQ _ _ _ _ _ hfrU,by omega,⟨f1,f2.trans hpU,by rw[f3,hrU];exact h.nodup,fun q hq=>?_,h.map.at (hblk mb hmlt om),h.mlo,⟨(hhead 0 om).trans h.head.1,(hhead 1 om).trans h.head.2.1,(hhead 2 om).trans h.head.2.2.1,(hhead 3 om).trans h.head.2.2.2.1,(hhead 4 om).trans h.head.2.2.2.2⟩,(hblk _ om om).trans h.res,⟨by rw[hV'];exact hUo.1.trans h.below.os,by rw[hV'];exact hUo.2.1.trans h.below.tape,by rw[hV'];exact hUo.2.2.trans h.below.output,by omega,fun q hq=>(hblk q om om).trans (h.below.block q hq)⟩,by omega⟩⟩
 rw[f3,hrU] at hq
 have hqX:q<V.heap.size:=by
  rcases List.mem_cons.1 hq with rfl | hq
  · omega
  · have:=qF h.fo hq;omega
 obtain⟨cs2,ty2,hc2⟩:=h.free q hq
 have hcU:=(hU q hqX).trans hc2
 by_cases hqp:q=pb
 · subst hqp
   rw[hV']
   exact⟨_,_,hssQ U q (po+2) _ _ (.string tx) hcU⟩
 · exact⟨cs2,ty2,(hblk q hqX hqp).trans hc2⟩
theorem Y5.cells {w V:World}{s:Sf}{u:Tr}{SB B1 mb n:Nat}{L:List (Int×(Nat×Nat))}(h:Y5 w s u SB B1 mb n L V):∃ra rc,V.cell? ⟨SB,5,none⟩=some (.int .i64 u.id)∧V.cell? ⟨SB,6,none⟩=some (.int .i64 u.kind)∧V.cell? ⟨SB,7,none⟩=some (.string u.text)∧V.cell? ⟨SB,8,none⟩=some (.slice ra (foLen u.kids) rc)∧foLen u.kids≤rc∧zk V (fun q=>w.heap.size+1≤q∧q<B1) u.kids ra:=by
 obtain⟨b,o,ra,rc,e,_,c0,c1,c2,c3,c4,hk,_⟩:=h.fo
 cases e
 exact⟨ra,rc,c0,c1,c2,c3,c4,hk⟩
theorem zeM {w W1 V:World}{s:Sf}{a9:Option Addr}{rc SB:Nat}{c0 c1 c2 c3 c4:Value}(hSB:w.heap.size+1≤SB)(hS1:SB<W1.heap.size)(hc:V.heap[SB]? =some (.cells #[c0,c1,c2,c3,c4,.int .i64 s.sub.id,.int .i64 s.sub.kind,.string s.sub.text,.slice a9 (foLen s.sub.kids) rc] 49 (0,0)))(hrc:foLen s.sub.kids≤rc)
 (hk:zk W1 (fun q=>SB<q∧q<W1.heap.size) s.sub.kids a9) (hn:(Zl W1 s.sub.kids a9).Nodup) (hf:∀q∈Zl W1 s.sub.kids a9,kN W1 q) (hV:∀q,q≠SB→V.heap[q]? =W1.heap[q]?):
 zk V (fun q=>w.heap.size+1≤q∧q<W1.heap.size) (zh s.sub) (some ⟨SB,5,none⟩)∧(SB::zz V 0 (zh s.sub) SB 5).Nodup∧∀q∈SB::zz V 0 (zh s.sub) SB 5,kN V q:=by
 have hkV:zk V (fun q=>SB<q∧q<W1.heap.size) s.sub.kids a9:=hk.kept fun q hq=>⟨hq,hV q om⟩
 have e3:V.cell? ⟨SB,5+3,none⟩=some (.slice a9 (foLen s.sub.kids) rc):=by rw[corQ _ _ _ _ _ _ hc];rfl
 have er:zz V 0 (zh s.sub) SB 5=Zl V s.sub.kids a9:=by
  rw[zh,zz,zI e3,Zl,zz,List.append_nil]
 have ek:Zl V s.sub.kids a9=Zl W1 s.sub.kids a9:=zbk hk (fun q hq=>hV q om)
 rw[er,ek]
 have hin:∀q∈Zl W1 s.sub.kids a9,SB<q∧q<W1.heap.size:=fun q hq=>by
  obtain⟨kf,hkf⟩:∃kf,kf=s.sub.kids:=⟨_,rfl⟩
  rw[←hkf] at hk hq
  cases kf with
  | nil=>simp[Zl,hdB,zz] at hq
  | node x y k l r=>
    obtain⟨b,o,e,hb⟩:=yS hk sp1
    subst e
    rcases List.mem_append.1 hq with hq | hq
    · rw[(zbZ hq).2];exact hb
    · exact qF hk hq
 refine⟨⟨SB,5,a9,rc,rfl,⟨hSB,hS1⟩,by rw[corQ _ _ _ _ _ _ hc];rfl,by rw[corQ _ _ _ _ _ _ hc];rfl,by rw[corQ _ _ _ _ _ _ hc];rfl,e3,hrc,hkV.kept fun q hq=>⟨⟨by omega,hq.2⟩,rfl⟩,True.intro⟩,List.nodup_cons.2 ⟨fun hq=>by have:=(hin SB hq).1;omega,hn⟩,fun q hq=>?_⟩
 rcases List.mem_cons.1 hq with rfl | hq
 · exact⟨_,_,hc⟩
 · obtain⟨cs,ty,hcq⟩:=hf q hq
   exact⟨cs,ty,(hV q (by have:=(hin q hq).1;omega)).trans hcq⟩
theorem ziu {w0 w:World}{hb:Nat}{h:HV}(hh:zY w0 w hb h)(hB:Below w0.heap.size w0 w)(hok:jH h):
 Calls Try.prog 37 #[.pointer (some ⟨hb,0,none⟩)] w (ziE h.sf w):=by
 obtain⟨⟨⟨op,id,par,at_,tx,sub⟩,xa,xc⟩,ts,ta,tc,mo⟩:=h
 obtain⟨hcells,hlies,htexts,hnodes,hbase,hmbase⟩:=hh
 obtain⟨hsmall,hids,htsIn,hfew⟩:=hok
 simp only at hcells hlies htexts hnodes hbase hmbase hsmall hids htsIn hfew
 obtain⟨n,hn⟩:∃n,n=foLen sub.kids:=⟨_,rfl⟩
 obtain⟨tn,htn⟩:∃tn,tn=ts.length:=⟨_,rfl⟩
 rw[←hn,←htn] at hcells
 rw[←htn] at htexts hfew
 obtain⟨B,hBd⟩:∃B,B=zx w [.cells #[.int .i8 0,.int .i64 0,.int .i64 0,.int .i64 0,.string ⟨#[]⟩,.int .i64 0,.int .i64 0,.string ⟨#[]⟩,.slice none 0 0] 49,.cells #[.int .i8 op,.int .i64 id,.int .i64 par,.int .i64 at_,.string tx,.int .i64 sub.id,.int .i64 sub.kind,.string sub.text,.slice xa n xc] 49]:=⟨_,rfl⟩
 have hb1:Below w.heap.size w B:=by rw[hBd];exact zl _ _
 have hs:B.heap.size=w.heap.size+2:=by rw[hBd];exact zJ _ _
 have e0:B.heap[w.heap.size]? =some (.cells #[.int .i8 0,.int .i64 0,.int .i64 0,.int .i64 0,.string ⟨#[]⟩,.int .i64 0,.int .i64 0,.string ⟨#[]⟩,.slice none 0 0] 49 (0,0)):=by rw[hBd];exact ze _ _ 0 _ rfl
 have e1:B.heap[w.heap.size+1]? =some (.cells #[.int .i8 op,.int .i64 id,.int .i64 par,.int .i64 at_,.string tx,.int .i64 sub.id,.int .i64 sub.kind,.string sub.text,.slice xa n xc] 49 (0,0)):=by rw[hBd];exact ze _ _ 1 _ rfl
 have hbw:=lohQ hcells
 have hcopy:Calls Try.prog 40 #[.agg #[.int .i64 sub.id,.int .i64 sub.kind,.string sub.text,.slice xa n xc]] B (zgM sub B):=by
  rw[hn]
  have hW:Below w0.heap.size w0 B:=hB.trans (hb1.mono hB.size)
  refine zfH B (fun q=>q<w0.heap.size∧yD B q) _ sub (fun q hq=>hq.2) ⟨xa,xc,rfl,hlies.1,?_⟩ om
  exact zhx (hlies.2.kept fun q hq=>⟨hq,hW.block q hq⟩)
 have HCP:=hH hcopy
 have HB:=hH (aN hb1 (aN hs (aN e0 e1)))
 have HBE:=hH hBd
 have HN:=hH (aN hn htn)
 have HH:=hH (aN hcells (aN htexts (aN hsmall (aN hids (aN htsIn hfew)))))
 obtain⟨b0,b1,b2,b3,b4,b5,b6,b7,b8⟩:uf2 w hb op id par at_ tx sub.id sub.kind sub.text xa n xc:=by
  refine⟨?_,?_,?_,?_,?_,?_,?_,?_,?_⟩<;>(rw[corQ _ _ _ _ _ _ hcells];rfl)
 clear hcopy hb1 hs e0 e1 hBd hn htn hcells htexts hnodes hbase hmbase hsmall hids htsIn hfew hlies hB
 go_enter Try.func37,Try.ntmps37
 go_upto_region 2 with fail
 change Code.wp _ _ _ _ (zx w [.cells #[.int .i8 0,.int .i64 0,.int .i64 0,.int .i64 0,.string ⟨#[]⟩,.int .i64 0,.int .i64 0,.string ⟨#[]⟩,.slice none 0 0] 49,.cells #[.int .i8 op,.int .i64 id,.int .i64 par,.int .i64 at_,.string tx,.int .i64 sub.id,.int .i64 sub.kind,.string sub.text,.slice xa n xc] 49])
 rw[←HBE.out]
 clear HBE b0 b1 b2 b3 b4 b5 b6 b7 b8
 obtain⟨n0,n1,n2,n3,n4,n5,n6,n7,n8⟩:=zdY HB.out.2.2.2
 go_wp2_with fail
 refine HCP.out.mono ?_
 rintro e W1 ⟨ra,rc,rfl,hrc,hfo,hnd,hfree,hb1⟩
 rw[←HN.out.1] at hrc ⊢
 have et:=(hb1.block _ (lohQ HB.out.2.2.2)).trans HB.out.2.2.2
 have yf:∀j,W1.frozen? ⟨w.heap.size+1,j,none⟩=false:=fun j=>forQ _ _ j _ _ et
 obtain⟨V5,e5,g5,o5,a5,t5,p5,z5⟩:=yV (i:=5) (u:= .int .i64 sub.id) et
 obtain⟨V6,e6,g6,o6,a6,t6,p6,z6⟩:=yV (i:=6) (u:= .int .i64 sub.kind) g5
 obtain⟨V7,e7,g7,o7,a7,t7,p7,z7⟩:=yV (i:=7) (u:= .string sub.text) g6
 obtain⟨V8,e8,g8,o8,a8,t8,p8,z8⟩:=yV (i:=8) (u:= .slice ra n rc) g7
 have hV8:V8=((((W1.setCell ⟨w.heap.size+1,5,none⟩ (.int .i64 sub.id)).setCell ⟨w.heap.size+1,6,none⟩ (.int .i64 sub.kind)).setCell ⟨w.heap.size+1,7,none⟩ (.string sub.text)).setCell ⟨w.heap.size+1,8,none⟩ (.slice ra n rc)):=by rw[e8,e7,e6,e5]
 have g8' :V8.heap[w.heap.size+1]? =some (.cells #[.int .i8 op,.int .i64 id,.int .i64 par,.int .i64 at_,.string tx,.int .i64 sub.id,.int .i64 sub.kind,.string sub.text,.slice ra n rc] 49 (0,0)):=by simpa using g8
 obtain⟨m0,m1,m2,m3,m4,m5,m6,m7,m8⟩:=zdY et
 have hkV8:∀y,y≠w.heap.size+1→V8.heap[y]? =W1.heap[y]?:=fun y hy=>by rw[o8 y hy,o7 y hy,o6 y hy,o5 y hy]
 have hsV8:V8.heap.size=W1.heap.size:=by rw[z8,z7,z6,z5]
 have hWs:w.heap.size+2≤W1.heap.size:=by have:=hb1.size;have:=HB.out.2.1;omega
 have hst:=zeM (w:=w) (W1:=W1) (V:=V8) (s:=⟨op,id,par,at_,tx,sub⟩) (SB:=w.heap.size+1) (NlrQ _) om (by rw[←HN.out.1];exact g8') (by rw[←HN.out.1];exact hrc) (hfo.kept fun q hq=>⟨⟨by have:=hq.1;have:=HB.out.2.1;omega,hq.2⟩,rfl⟩) hnd hfree hkV8
 have hbV8:Below w.heap.size w V8:=⟨by rw[a8,a7,a6,a5,hb1.os];exact HB.out.1.os,by rw[t8,t7,t6,t5,hb1.tape];exact HB.out.1.tape,by rw[p8,p7,p6,p5,hb1.output];exact HB.out.1.output,by omega,fun q hq=>(hkV8 q om).trans ((hb1.block q (by have:=HB.out.2.1;omega)).trans (HB.out.1.block q hq))⟩
 have hres:V8.heap[w.heap.size]? =some (.cells #[.int .i8 0,.int .i64 0,.int .i64 0,.int .i64 0,.string ⟨#[]⟩,.int .i64 0,.int .i64 0,.string ⟨#[]⟩,.slice none 0 0] 49 (0,0)):=(hkV8 _ om).trans ((hb1.block _ (by have:=HB.out.2.1;omega)).trans HB.out.2.2.1)
 have HVV:=hH (aN hst (aN hbV8 (aN hres (aN g8' (aN hsV8 (aN hWs hrc))))))
 have HV8:=hH hV8
 clear e5 g5 o5 a5 t5 p5 z5 e6 g6 o6 a6 t6 p6 z6 e7 g7 o7 a7 t7 p7 z7 e8 g8 o8 a8 t8 p8 z8 hV8 g8' hrc hfo hnd hfree hb1 et n0 n1 n2 n3 n4 n5 n6 n7 n8 V5 V6 V7 hkV8 hsV8 hWs hst hbV8 hres HCP
 go_upto_region 3 with fail
 rw[←HV8.out]
 clear HV8 yf m0 m1 m2 m3 m4 m5 m6 m7 m8
 rename_i K1 hK1 K2 hK2
 have hFin:∀(u1 u4 u5 u6 u7 u8 u9 u10 u11 u12 u13 u14 u15 u16 u17 u18 u19 u20 u21 u22 u23 u24 u25 u26 u27 u28 u29 u30 u31 u32 u33 u34 u35 u36 u37 u38 u39 u40 u41:Value) (V:World) (u:Tr) (fa:Option Addr) (fc:Nat),u=jk sub ts→V.cell? ⟨w.heap.size+1,0,none⟩=some (.int .i8 op)∧V.cell? ⟨w.heap.size+1,1,none⟩=some (.int .i64 id)∧V.cell? ⟨w.heap.size+1,2,none⟩=some (.int .i64 par)∧V.cell? ⟨w.heap.size+1,3,none⟩=some (.int .i64 at_)∧V.cell? ⟨w.heap.size+1,4,none⟩=some (.string tx)→V.cell? ⟨w.heap.size+1,5,none⟩=some (.int .i64 u.id)→V.cell? ⟨w.heap.size+1,6,none⟩=some (.int .i64 u.kind)→V.cell? ⟨w.heap.size+1,7,none⟩=some (.string u.text)→V.cell? ⟨w.heap.size+1,8,none⟩=some (.slice fa (foLen u.kids) fc)→foLen u.kids≤fc→zk V (fun q=>w.heap.size+1≤q∧q<V.heap.size) u.kids fa→
  V.heap[w.heap.size]? =some (.cells #[.int .i8 0,.int .i64 0,.int .i64 0,.int .i64 0,.string ⟨#[]⟩,.int .i64 0,.int .i64 0,.string ⟨#[]⟩,.slice none 0 0] 49 (0,0))→Below w.heap.size w V→K1 { tmps:= #[.pointer (some ⟨hb,0,none⟩),u1,.pointer (some ⟨w.heap.size,0,none⟩),.pointer (some ⟨w.heap.size+1,0,none⟩),u4,u5,u6,u7,u8,u9,u10,u11,u12,u13,u14,u15,u16,u17,u18,u19,u20,u21,u22,u23,u24,u25,u26,u27,u28,u29,u30,u31,u32,u33,u34,u35,u36,u37,u38,u39,u40,u41],defers:=[] } V:=by
  clear hK2
  intro u1 u4 u5 u6 u7 u8 u9 u10 u11 u12 u13 u14 u15 u16 u17 u18 u19 u20 u21 u22 u23 u24 u25 u26 u27 u28 u29 u30 u31 u32 u33 u34 u35 u36 u37 u38 u39 u40 u41 V u fa fc hu ⟨m0,m1,m2,m3,m4⟩ m5 m6 m7 m8 hfc hfo er hbl
  refine hK1 _ _ ?_
  clear hK1
  obtain⟨un,hun⟩:∃un,un=foLen u.kids:=⟨_,rfl⟩
  rw[←hun] at m8 hfc
  obtain⟨z0,z1,z2,z3,z4,z5,z6,z7,z8⟩:=zdY er
  have zf:∀j,V.frozen? ⟨w.heap.size,j,none⟩=false:=fun j=>forQ _ _ j _ _ er
  obtain⟨Z,hZ,r1,r2,r3,r4,r5,r6⟩:=zbr (u0:= .int .i8 op) (u1:= .int .i64 id) (u2:= .int .i64 par) (u3:= .int .i64 at_) (u4:= .string tx) (u5:= .int .i64 u.id) (u6:= .int .i64 u.kind) (u7:= .string u.text) (u8:= .slice fa un fc) er
  have HE:=hH (aN hZ (aN r1 (aN r2 (aN r3 (aN r4 (aN r5 (aN r6 (aN hu (aN hun (aN hfc (aN hfo hbl)))))))))))
  clear hZ r1 r2 r3 r4 r5 r6 er hu hun hfc hfo hbl
  go_wp2_with fail
  rw[←HE.out.1]
  obtain⟨hZ,r1,r2,r3,r4,r5,r6,hu,hun,hfc,hfo,hbl⟩:=HE.out
  refine brQ (results_cell_row rfl _ _ w.heap.size 49 _ (0,0) _ rfl r1 Try.underlying49 rfl kr1) rfl ?_
  refine⟨fa,fc,?_,by show foLen (jk sub ts).kids≤fc;rw[←hu,←hun];exact hfc,?_,⟨r3.trans hbl.os,r4.trans hbl.tape,r5.trans hbl.output,by rw[r6];exact hbl.size,fun q hq=>(r2 q om).trans (hbl.block q hq)⟩⟩
  · simp only[HV.sf]
    rw[←hu,←hun]
  · show zk Z _ (jk sub ts).kids fa
    rw[←hu]
    exact hfo.kept fun q hq=>⟨⟨by omega,by rw[r6];exact hq.2⟩,r2 q om⟩
 clear hK1
 have HT:=hH hFin
 clear hFin
 have t10:V8.cell? ⟨hb,10,none⟩=some (.slice ta tn tc):=by
  rw[corQ _ _ _ _ _ _ ((HVV.out.2.1.block hb (lohQ HH.out.1)).trans HH.out.1)];rfl
 by_cases h0:tn=0
 · have hts:ts= []:=List.eq_nil_of_length_eq_zero (by rw[←HN.out.2];exact h0)
   have HTS:=hH hts
   clear hts
   subst h0
   go_wp2_with fail
   obtain⟨q0,q1,q2,q3,q4,q5,q6,q7,q8⟩:=zdY HVV.out.2.2.2.1
   have hsV:=HVV.out.2.2.2.2.1
   have hfo:=HVV.out.1.1
   obtain⟨b9,o9,ka9,kc9,ee,_,_,_,_,k3,_,hk9,_⟩:=hfo
   cases ee
   have h53:V8.cell? ⟨w.heap.size+1,5+3,none⟩=some (.slice ra n rc):=q8
   rw[h53] at k3
   cases k3
   exact HT.out _ _ _ _ _ _ _ _ _ _ _ _ _ _ _ _ _ _ _ _ _ _ _ _ _ _ _ _ _ _ _ _ _ _ _ _ _ _ _ V8 sub ra rc (by rw[HTS.out];rfl) ⟨q0,q1,q2,q3,q4⟩ q5 q6 q7 q8 HVV.out.2.2.2.2.2.2 (hk9.kept fun q hq=>⟨⟨hq.1,by rw[hsV];exact hq.2⟩,rfl⟩) HVV.out.2.2.1 HVV.out.2.1
 · have h0i:(0:Int)<(tn:Int):=by omega
   clear h0
   obtain⟨L,hL⟩:∃L,L=yP V8 (zh sub) (w.heap.size+1) 5:=⟨_,rfl⟩
   have hfs:Calls Try.prog 51 #[.pointer (some ⟨w.heap.size+1,5,none⟩)] V8 (zbF V8 L):=by
    rw[hL]
    exact J9 V8 (fun q=>w.heap.size+1≤q∧q<W1.heap.size) ⟨w.heap.size+1,5,(sub.id,sub.kind,sub.text),sub.kids⟩ (fun q hq=>by have:=HVV.out.2.2.2.2.1;omega) HVV.out.1.1 HH.out.2.2.2.1 HH.out.2.2.1
   go_wp2_with fail
   refine hfs.mono ?_
   clear hfs t10
   rintro e V9 ⟨mb,mn,rfl,hmb,hfm,hb9⟩
   obtain⟨SB,hSB⟩:∃SB,SB=w.heap.size+1:=⟨_,rfl⟩
   have hI0:Y5 w ⟨op,id,par,at_,tx,sub⟩ (jk sub (ts.take 0)) SB W1.heap.size mb mn L V9:=by
    rw[hSB]
    have hsV:=HVV.out.2.2.2.2.1
    have hk9:∀q,q<V8.heap.size→V9.heap[q]? =V8.heap[q]?:=fun q hq=>hb9.block q hq
    have hf:=HVV.out.1.1
    have hst:zk V9 (fun q=>w.heap.size+1≤q∧q<W1.heap.size) (zh sub) (some ⟨w.heap.size+1,5,none⟩)∧yP V9 (zh sub) (w.heap.size+1) 5=yP V8 (zh sub) (w.heap.size+1) 5∧zz V9 0 (zh sub) (w.heap.size+1) 5=zz V8 0 (zh sub) (w.heap.size+1) 5:=jB (zh sub) (w.heap.size+1) 5 hf (fun j _=>World.cell?_of_block (a:=⟨w.heap.size+1,j,none⟩) (hk9 _ (show w.heap.size+1<V8.heap.size by have:=HVV.out.2.2.2.2.2.1;omega))) (fun q hq j=>World.cell?_of_block (a:=⟨q,j,none⟩) (hk9 q (by have h9:q<W1.heap.size:=(qF hf hq).2;omega)))
    have eS:V9.heap[w.heap.size+1]? =_:=(hk9 _ (by have:=HVV.out.2.2.2.2.2.1;omega)).trans HVV.out.2.2.2.1
    obtain⟨q0,q1,q2,q3,q4,q5,q6,q7,q8⟩:=zdY eS
    have hW2:=HVV.out.2.2.2.2.2.1
    refine⟨hst.1,hst.2.1.trans hL.symm,by rw[show jk sub (ts.take 0)=sub from rfl,hst.2.2];exact HVV.out.1.2.1,fun q hq=>?_,hfm,by omega,⟨q0,q1,q2,q3,q4⟩,(hk9 _ om).trans HVV.out.2.2.1,HVV.out.2.1.trans (hb9.mono HVV.out.2.1.size),by have:=hb9.size;omega⟩
    rw[show jk sub (ts.take 0)=sub from rfl,hst.2.2] at hq
    obtain⟨cs,ty,hc⟩:=HVV.out.1.2.2 q hq
    refine⟨cs,ty,(hk9 q ?_).trans hc⟩
    rcases List.mem_cons.1 hq with rfl | hq
    · omega
    · have h9:q<W1.heap.size:=(qF hf hq).2
      omega
   have HI0:=hH hI0
   have HSBE:=hH (aN hSB (show w.heap.size+1≤SB∧SB<W1.heap.size by have:=HVV.out.2.2.2.2.2.1;omega))
   have HLE:=hH (aN hL hmb)
   have t10:V9.cell? ⟨hb,10,none⟩=some (.slice ta tn tc):=by
    rw[corQ _ _ _ _ _ _ ((hI0.below.block hb (lohQ HH.out.1)).trans HH.out.1)];rfl
   clear hI0 hL hmb hfm hb9
   rw[←hSB]
   clear hSB
   go_wp2_with fail
   go_loopw [28] (fun i wr=>∃k:Nat,k≤tn∧i= .int .i64 (k:Int)∧Hid (Y5 w ⟨op,id,par,at_,tx,sub⟩ (jk sub (ts.take k)) SB W1.heap.size mb mn L wr)) (fun i _=>tn - (intOf i).toNat)
   case atStart=>exact⟨0,NzlQ _,rfl,HI0⟩
   case round=>
    obtain⟨k,hk,rfl,hh⟩:=hrel
    clear HI0 t10 h0i
    obtain⟨wo,hwo⟩:∃wo,wo=wr:=⟨_,rfl⟩
    subst hwo
    by_cases hlt:k<tn
    · have hki:(k:Int)<(tn:Int):=by omega
      obtain⟨y,hy⟩:∃y,ts[k]? =some y:=⟨_,List.getElem?_eq_getElem (by rw[←HN.out.2];exact hlt)⟩
      have hym:=List.mem_of_getElem? hy
      obtain⟨hyin,hywf⟩:=HH.out.2.2.2.2.1 y hym
      obtain⟨tg,tc2,e,htg,_⟩:=HH.out.2.1.form om
      cases e
      have hbl:=hh.out.below
      have hcs:∀j u,(vO y.s y.a y.c)[j]? =some u→wo.cell? ⟨tg,k*9+j,none⟩=some u:=fun j u hj=>(World.cell?_of_block (a:=⟨tg,k*9+j,none⟩) (hbl.block tg (zi HH.out.2.1 rfl).2)).trans (zC HH.out.2.1 rfl _ u (Ya hy hj))
      obtain⟨⟨yop,yid,ypar,yat,ytx,ysub⟩,ya,yc⟩:=y
      obtain⟨yn,hyn⟩:∃yn,yn=foLen ysub.kids:=⟨_,rfl⟩
      simp only at hyin hywf
      have d0:wo.cell? ⟨tg,k*9,none⟩=some (.int .i8 yop):=hcs 0 _ rfl
      have d1:wo.cell? ⟨tg,k*9+1,none⟩=some (.int .i64 yid):=hcs 1 _ rfl
      have d2:wo.cell? ⟨tg,k*9+2,none⟩=some (.int .i64 ypar):=hcs 2 _ rfl
      have d3:wo.cell? ⟨tg,k*9+3,none⟩=some (.int .i64 yat):=hcs 3 _ rfl
      have d4:wo.cell? ⟨tg,k*9+4,none⟩=some (.string ytx):=hcs 4 _ rfl
      have d5:wo.cell? ⟨tg,k*9+5,none⟩=some (.int .i64 ysub.id):=hcs 5 _ rfl
      have d6:wo.cell? ⟨tg,k*9+6,none⟩=some (.int .i64 ysub.kind):=hcs 6 _ rfl
      have d7:wo.cell? ⟨tg,k*9+7,none⟩=some (.string ysub.text):=hcs 7 _ rfl
      have d8:wo.cell? ⟨tg,k*9+8,none⟩=some (.slice ya yn yc):=by rw[hyn];exact hcs 8 _ rfl
      obtain⟨U,hU⟩:∃U,U=wo.alloc (.cells #[.int .i8 yop,.int .i64 yid,.int .i64 ypar,.int .i64 yat,.string ytx,.int .i64 ysub.id,.int .i64 ysub.kind,.string ysub.text,.slice ya yn yc] 49):=⟨_,rfl⟩
      have hUk:∀q,q<wo.heap.size→U.heap[q]? =wo.heap[q]?:=fun q hq=>by rw[hU];exact BhaQ _ _ _ hq
      have hUn:U.heap[wo.heap.size]? =some (.cells #[.int .i8 yop,.int .i64 yid,.int .i64 ypar,.int .i64 yat,.string ytx,.int .i64 ysub.id,.int .i64 ysub.kind,.string ysub.text,.slice ya yn yc] 49 (0,0)):=by rw[hU];exact hanQ _ _
      have hhas:(zR yid L).isSome=true:=by
       rw[←hh.out.pre,←jl yid ytx,←(jG yid ytx _).2,Qz]
       exact hyin
      obtain⟨⟨pb,po⟩,hp⟩:=Option.isSome_iff_exists.1 hhas
      have hlook:=zi4 (i:=yid) (hh.out.map.at (hUk _ hh.out.map.lt)) hywf
      rw[hp] at hlook
      simp only[zh7,Option.map_some] at hlook
      obtain⟨V',hV'⟩:∃V',V'=U.setCell ⟨pb,po+2,none⟩ (.string ytx):=⟨_,rfl⟩
      obtain⟨⟨tx0,ht0⟩,htf,hpl,hst⟩:=hh.out.step (id:=yid) (tx:=ytx) (HSBE.out.2) hUk (by rw[hU];simp) (by rw[hU];exact⟨rfl,rfl,rfl⟩) hp hV'
      obtain⟨x0,x1,x2,x3,x4,x5,x6,x7,x8⟩:=zdY hUn
      have hnx:Hid (Y5 w ⟨op,id,par,at_,tx,sub⟩ (jk sub (ts.take (k+1))) SB W1.heap.size mb mn L V'):=hH (by
       rw[List.take_add_one,hy]
       show Y5 w _ (jk sub (ts.take k++[_])) _ _ _ _ _ _
       rw[zbC];exact hst)
      have HUE:=hH hU
      have HVE:=hH hV'
      have HKN:=hH (aN hk hlt)
      have hkw:IntKind.i64.wrap ((k:Int)+1)=(k:Int)+1:=IntWalk.i64_in _ (by have:=HH.out.2.2.2.2.2;omega)
      clear hU hV' hst hp hhas hUk hUn hcs hbl hyin hywf hym hy htg hh hpl hk hlt hyn
      go_upto_region 8 with fail
      rw[←HUE.out]
      clear d0 d1 d2 d3 d4 d5 d6 d7 d8 HUE
      go_wp2_with fail
      rw[←HVE.out]
      exact⟨⟨k+1,by have:=HKN.out;omega,by go_num,hnx⟩,by have:=HKN.out;simp[intOf];omega⟩
    · have hki:¬(k:Int)<(tn:Int):=by omega
      have hkn:k=tn:=by omega
      have HE:=hh.out
      rw[hkn,List.take_of_length_le (by rw[HN.out.2];exact NlrQ _)] at HE
      obtain⟨fa,fc,q5,q6,q7,q8,q9,qk⟩:=HE.cells
      have hsz:=HE.size
      have HEE:=hH (aN HE (aN q5 (aN q6 (aN q7 (aN q8 (aN q9 qk))))))
      clear HE q5 q6 q7 q8 q9 qk hh hkn hlt hk
      go_wp2_with fail
      obtain⟨HE,q5,q6,q7,q8,q9,qk⟩:=HEE.out
      obtain⟨hd0,hd1,hd2,hd3,hd4⟩:=HE.head
      rw[HSBE.out.1] at*
      exact HT.out _ _ _ _ _ _ _ _ _ _ _ _ _ _ _ _ _ _ _ _ _ _ _ _ _ _ _ _ _ _ _ _ _ _ _ _ _ _ _ _ (jk sub ts) fa fc rfl ⟨hd0,hd1,hd2,hd3,hd4⟩ q5 q6 q7 q8 q9 (qk.kept fun q hq=>⟨⟨hq.1,by omega⟩,rfl⟩) HE.res HE.below
end Go.Proofs.Ytnikgofkldkdkaa
namespace Go.Proofs.Ytnikgofkldkdkaa
open Go.RowKit Go.Shelf
def yJ (b:Nat):Value:= .pointer (some ⟨b,0,none⟩)
def HV.new (x:SV):HV:=⟨x,[],none,0,none⟩
theorem Try.zkB:(Try.prog.info? 73).map (fun i=>(i.zero,i.size,i.bytes))=some (some (.pointer none),1,8):=by kernel_rfl
theorem zhE {w V:World}{hb:Nat}{x:SV}(hl:qC w x.s.sub.kids x.a x.c)(hb0:w.heap.size≤hb)(hw:w.heap.size≤V.heap.size)(hc:V.heap[hb]? =some (.cells #[.int .i8 x.s.op,.int .i64 x.s.id,.int .i64 x.s.par,.int .i64 x.s.at_,.string x.s.tx,.int .i64 x.s.sub.id,.int .i64 x.s.sub.kind,.string x.s.sub.text,.slice x.a (foLen x.s.sub.kids) x.c,.map none,.slice none 0 0] 99 (0,0))):zY w V hb (HV.new x):=
 ⟨hc,hl,World.ownsRow_nil _ _ _ _,True.intro,hb0,fun m h=>by cases h⟩
structure HoI (w:World) (n:Nat) (vs:List SV) (k:Nat) (hbs:List Nat) (V:World):Prop where
 row:∃cs:Array Value,V.heap[w.heap.size]? =some (.cells cs 73 (0,0))∧cs.size=n∧∀(i b:Nat),hbs[i]? =some b→cs[i]? =some (yJ b)
 len:hbs.length=k
 held:∀(i b:Nat) (x:SV),hbs[i]? =some b→vs[i]? =some x→zY w V b (HV.new x)
 nodup:hbs.Nodup
 lo:∀b∈hbs,w.heap.size<b
 below:Below w.heap.size w V
def zjy (vs:List SV)(w:World)(e:Ending)(w' :World):Prop:=∃hbs:List Nat,e= .returned (.slice (some ⟨w.heap.size,0,none⟩) hbs.length hbs.length)∧hbs.length=vs.length∧w'.heap[w.heap.size]? =some (.cells (hbs.map yJ).toArray 73 (0,0))∧(∀(i b:Nat) (x:SV),hbs[i]? =some b→vs[i]? =some x→zY w w' b (HV.new x))∧hbs.Nodup∧(∀b∈hbs,w.heap.size<b)∧Below w.heap.size w w'
theorem HoI.end {w V:World}{n:Nat}{vs:List SV}{hbs:List Nat}(h:HoI w n vs n hbs V)(hn:n=vs.length):zjy vs w (.returned (.slice (some ⟨w.heap.size,0,none⟩) n n)) V:=by
 obtain⟨cs,h1,h2,h3⟩:=h.row
 have hl:=h.len
 refine⟨hbs,by rw[hl],by rw[hl,hn],?_,h.held,h.nodup,h.lo,h.below⟩
 have e:cs=(hbs.map yJ).toArray:=by
  apply Array.ext
  · simp[h2,hl]
  · intro i hi1 hi2
    have hi:i<hbs.length:=by rw[hl];omega
    have h4:=h3 i hbs[i] (List.getElem?_eq_getElem hi)
    rw[Array.getElem?_eq_getElem hi1] at h4
    have:=Option.some.inj h4
    rw[this];simp
 rw[h1,e]
theorem HoI.next {w V V' :World}{n k:Nat}{vs:List SV}{hbs:List Nat}{x:SV}{so:Obj}(h:HoI w n vs k hbs V)(hx:vs[k]? =some x)(hk:k<n)(hl:qC w x.s.sub.kids x.a x.c)(hV' :V'=((V.setCell ⟨w.heap.size,k,none⟩ (yJ (V.heap.size+1))).alloc so).alloc (.cells #[.int .i8 x.s.op,.int .i64 x.s.id,.int .i64 x.s.par,.int .i64 x.s.at_,.string x.s.tx,.int .i64 x.s.sub.id,.int .i64 x.s.sub.kind,.string x.s.sub.text,.slice x.a (foLen x.s.sub.kids) x.c,.map none,.slice none 0 0] 99)):HoI w n vs (k+1) (hbs++[V.heap.size+1]) V':=by
 obtain⟨cs,h1,h2,h3⟩:=h.row
 have hl0:=h.len
 have hws:=h.below.size
 have hwl:=lohQ h1
 obtain⟨U,hU⟩:∃U,U=V.setCell ⟨w.heap.size,k,none⟩ (yJ (V.heap.size+1)):=⟨_,rfl⟩
 rw[←hU] at hV'
 have hUs:U.heap.size=V.heap.size:=by rw[hU];simp[World.setCell]
 have hUk:∀q,q<V.heap.size→q≠w.heap.size→U.heap[q]? =V.heap[q]?:=fun q hq hne=>by rw[hU];exact BhsQ _ _ _ _ hne
 have hk' :∀q,q<V.heap.size→V'.heap[q]? =U.heap[q]?:=fun q hq=>by rw[hV',BhaQ _ _ _ ue6,BhaQ _ _ _ om]
 have hUn:V'.heap[V.heap.size+1]? =some (.cells #[.int .i8 x.s.op,.int .i64 x.s.id,.int .i64 x.s.par,.int .i64 x.s.at_,.string x.s.tx,.int .i64 x.s.sub.id,.int .i64 x.s.sub.kind,.string x.s.sub.text,.slice x.a (foLen x.s.sub.kids) x.c,.map none,.slice none 0 0] 99 (0,0)):=by
  have:=hanQ (U.alloc so) (.cells #[.int .i8 x.s.op,.int .i64 x.s.id,.int .i64 x.s.par,.int .i64 x.s.at_,.string x.s.tx,.int .i64 x.s.sub.id,.int .i64 x.s.sub.kind,.string x.s.sub.text,.slice x.a (foLen x.s.sub.kids) x.c,.map none,.slice none 0 0] 99)
  rw[WsaQ,hUs] at this
  rw[hV'];exact this
 have h1V:V'.heap[w.heap.size]? =some (.cells (cs.setIfInBounds k (yJ (V.heap.size+1))) 73 (0,0)):=(hk' _ hwl).trans (by rw[hU];exact hssQ V w.heap.size k _ _ _ h1)
 have hb:∀q,q<V.heap.size→q≠w.heap.size→V'.heap[q]? =V.heap[q]?:=fun q hq hne=>(hk' q hq).trans (hUk q hq hne)
 have hs' :V'.heap.size=V.heap.size+2:=by rw[hV'];simp;omega
 refine⟨⟨cs.setIfInBounds k (yJ (V.heap.size+1)),h1V,by simpa using h2,fun i b hi=>?_⟩,by simp[hl0],fun i b y hi hy=>?_,?_,fun b hb2=>?_,⟨by rw[hV',hU];exact h.below.os,by rw[hV',hU];exact h.below.tape,by rw[hV',hU];exact h.below.output,by omega,fun q hq=>(hb q om om).trans (h.below.block q hq)⟩⟩
 · by_cases hik:i=k
   · subst hik
     rw[List.getElem?_append_right om,hl0,Nat.sub_self] at hi
     simp at hi
     subst hi
     rw[Array.getElem?_setIfInBounds_self_of_lt om]
   · have hil:i<hbs.length:=by
      have:=(List.getElem?_eq_some_iff.1 hi).1
      simp at this;omega
     rw[List.getElem?_append_left hil] at hi
     rw[Array.getElem?_setIfInBounds_ne om]
     exact h3 i b hi
 · by_cases hik:i=k
   · subst hik
     rw[List.getElem?_append_right om,hl0,Nat.sub_self] at hi
     simp at hi
     subst hi
     rw[hx] at hy
     cases hy
     exact zhE hl om om hUn
   · have hil:i<hbs.length:=by
      have:=(List.getElem?_eq_some_iff.1 hi).1
      simp at this;omega
     rw[List.getElem?_append_left hil] at hi
     have hh:=h.held i b y hi hy
     have hbl:=h.lo b (List.mem_of_getElem? hi)
     refine hh.kept fun q hq=>?_
     have hq2:=(hh.lt q hq).2
     rcases hq with rfl | hq | hq
     · exact hb q hq2 om
     · cases hq
     · cases hq
 · rw [List.nodup_append]
   refine⟨h.nodup,by simp,fun a ha b hb2 e=>?_⟩
   simp at hb2
   subst e
   obtain⟨i,hi⟩:=List.getElem?_of_mem ha
   have hiv:i<vs.length:=by
    have h8:=(List.getElem?_eq_some_iff.1 hi).1
    have h9:=(List.getElem?_eq_some_iff.1 hx).1
    omega
   have:=lohQ (h.held i a _ hi (List.getElem?_eq_getElem hiv)).cells
   omega
 · rcases List.mem_append.1 hb2 with h4 | h4
   · exact h.lo b h4
   · simp at h4;omega
theorem zcS (w:World)(la:Option Addr)(n c:Nat)(vs:List SV)(hn:n=vs.length)(hr:Row w la vs)(hn6:n≤10000):
 Calls Try.prog 33 #[.slice la n c] w (zjy vs w):=by
 have hmk:=run_make_row' (P:=Try.prog) 71 73 (.pointer none) 8 Try.underlying71 Try.zkB rfl .i64 .i64 n om om
 obtain⟨W,hW⟩:∃W,W=w.alloc (.cells (madeCells #[.pointer none] n) 73):=⟨_,rfl⟩
 have hI0:HoI w n vs 0 [] W:=by
  rw[hW]
  exact⟨⟨_,hanQ _ _,by simp[madeCells],fun i b h=>by simp at h⟩,rfl,fun i b x h=>by simp at h,by simp,fun b h=>by simp at h,(BrQ _ _).alloc (NlrQ _) _⟩
 have HI0:=hH hI0
 have HW:=hH hW
 have HR:=hH (aN hn hr)
 clear hI0 hW hn hr
 go_enter Try.func33,Try.ntmps33
 go_wp2_with fail
 rw[←HW.out]
 clear HW hmk
 go_loopw [11] (fun i wr=>∃k:Nat,k≤n∧i= .int .i64 (k:Int)∧∃hbs,Hid (HoI w n vs k hbs wr)) (fun i _=>n - (intOf i).toNat)
 case atStart=>exact⟨0,NzlQ _,rfl,[],HI0⟩
 case round=>
  obtain⟨k,hk,rfl,hbs,hh⟩:=hrel
  clear HI0
  obtain⟨wo,hwo⟩:∃wo,wo=wr:=⟨_,rfl⟩
  subst hwo
  by_cases hlt:k<n
  · have hki:(k:Int)<(n:Int):=by omega
    obtain⟨x,hx⟩:∃x,vs[k]? =some x:=⟨_,List.getElem?_eq_getElem (by rw[←HR.out.1];exact hlt)⟩
    obtain⟨b,off,rfl,d0,d1,d2,d3,d4,d5,d6,d7,d8⟩:=HR.out.2.at hh.out.below hx
    have hl:=HR.out.2.lies x (List.mem_of_getElem? hx)
    obtain⟨cs,r1,r2,_⟩:=hh.out.row
    have hnx:=fun so V' hV'=>hh.out.next (so:=so) (V':=V') hx hlt hl hV'
    obtain⟨⟨op,id,par,at_,tx,sub⟩,xa,xc⟩:=x
    obtain⟨sn,hsn⟩:∃sn,sn=foLen sub.kids:=⟨_,rfl⟩
    simp only at d0 d1 d2 d3 d4 d5 d6 d7 d8 hnx
    rw[←hsn] at d8 hnx
    have hGl:=lohQ r1
    obtain⟨u,hu⟩:∃u,cs[k]? =some u:=⟨_,Array.getElem?_eq_getElem om⟩
    have g0:wo.cell? ⟨w.heap.size,k,none⟩=some u:=by rw[corQ _ _ _ _ _ _ r1,hu]
    have gf:wo.frozen? ⟨w.heap.size,k,none⟩=false:=forQ _ _ _ _ _ r1
    have hkw:IntKind.i64.wrap ((k:Int)+1)=(k:Int)+1:=IntWalk.i64_in _ om
    have hkn:(k:Int)<(n:Int):=hki
    have HNX:=hH hnx
    have HKN:=hH (aN hk hlt)
    clear hnx hl hx r1 r2 hu hk hlt hsn
    go_wp2_with fail
    exact⟨⟨k+1,by have:=HKN.out;omega,by go_num,_,hH (HNX.out _ _ rfl)⟩,by have:=HKN.out;simp[intOf];omega⟩
  · have hki:¬(k:Int)<(n:Int):=by omega
    have hkn:k=n:=by omega
    have HE:=hh.out
    rw[hkn] at HE
    have HEE:=hH (HE.end HR.out.1)
    clear HE hh hkn hlt hk
    go_wp2_with fail
    go_ret
    exact HEE.out
attribute [local go_sem] Oper.semAt_some
theorem zY.box {w0 V:World}{hb:Nat}{h:HV}(hh:zY w0 V hb h):V.cell? ⟨hb,0,none⟩=some (.int .i8 h.x.s.op)∧V.cell? ⟨hb,1,none⟩=some (.int .i64 h.x.s.id)∧V.cell? ⟨hb,2,none⟩=some (.int .i64 h.x.s.par)∧V.cell? ⟨hb,3,none⟩=some (.int .i64 h.x.s.at_)∧V.cell? ⟨hb,4,none⟩=some (.string h.x.s.tx)∧V.cell? ⟨hb,5,none⟩=some (.int .i64 h.x.s.sub.id)∧V.cell? ⟨hb,6,none⟩=some (.int .i64 h.x.s.sub.kind)∧V.cell? ⟨hb,7,none⟩=some (.string h.x.s.sub.text)∧V.cell? ⟨hb,8,none⟩=some (.slice h.x.a (foLen h.x.s.sub.kids) h.x.c)∧V.cell? ⟨hb,9,none⟩=some (.map h.m)∧V.cell? ⟨hb,10,none⟩=some (.slice h.ta h.ts.length h.tc):=by
 refine⟨?_,?_,?_,?_,?_,?_,?_,?_,?_,?_,?_⟩<;>(rw[corQ _ _ _ _ _ _ hh.cells];rfl)
theorem kD (V:World)(k:Nat):Below V.heap.size V (V.drewN k):=⟨rfl,rfl,rfl,NlrQ _,fun _ _=>rfl⟩
theorem JR (a b:Int):(a == b)=decide (a=b):=by by_cases h:a=b<;>simp[h]
def zjB (b:Bool)(w:World)(e:Ending)(w' :World):Prop:=e= .returned (.bool b)∧Below w.heap.size w w'
theorem zeE {w0 V:World}{A B:Nat}{ha hb:HV}(h1:zY w0 V A ha)(h2:zY w0 V B hb):Calls Try.prog 78 #[yJ A,yJ B] V (zjB (decide (ha.x.s.id=hb.x.s.id)) V):=by
 obtain⟨_,a1,_⟩:=h1.box
 obtain⟨_,b1,_⟩:=h2.box
 simp only[yJ]
 clear h1 h2
 go_enter Try.func78,Try.ntmps78
 go_wp2_with (go_quiet (fail))
 go_ret
 exact⟨by rw[←JR];rfl,kD _ _⟩
theorem zie {w0 V:World}{A B:Nat}{ha hb:HV}(h1:zY w0 V A ha)(h2:zY w0 V B hb):Calls Try.prog 80 #[yJ A,yJ B] V (zjB (decide (ha.x.s.sub.id=hb.x.s.id)) V):=by
 obtain⟨_,_,_,_,_,a5,_⟩:=h1.box
 obtain⟨_,b1,_⟩:=h2.box
 simp only[yJ]
 clear h1 h2
 go_enter Try.func80,Try.ntmps80
 go_wp2_with (go_quiet (fail))
 go_ret
 exact⟨by rw[←JR];rfl,kD _ _⟩
theorem zeG (V:World)(A B:Nat):Calls Try.prog 79 #[yJ A,yJ B] V (fun e w'=>e= .returned (yJ B)∧w'=V):=by
 simp only[yJ]
 go_enter Try.func79,Try.ntmps79
 go_wp2_with fail
 go_ret
 exact⟨rfl,rfl⟩
theorem zhX (V:World)(A B:Nat):Calls Try.prog 81 #[yJ A,yJ B] V (fun e w'=>e= .returned (.pointer none)∧w'=V):=by
 simp only[yJ]
 go_enter Try.func81,Try.ntmps81
 go_wp2_with fail
 go_ret
 exact⟨rfl,rfl⟩
structure qM (w0:World) (A:Nat) (ha ha' :HV) (w w' :World):Prop where
 held:zY w0 w' A ha'
 x:ha'.x=ha.x
 turned:zo w w' (ha.own A)
 own:∀q,ha'.own A q→ha.own A q∨w.heap.size≤q
theorem qM.still {w0 V V' :World}{A:Nat}{ha:HV}(h:zY w0 V A ha)(hb:Below V.heap.size V V'):qM w0 A ha ha V V':=
 ⟨h.kept fun q hq=>hb.block q (h.lt q hq).2,rfl,⟨hb.os,hb.tape,hb.output,hb.size,fun q hq _=>hb.block q hq⟩,fun q hq=>Or.inl hq⟩
theorem qM.trans {w0 V V' V'' :World}{A:Nat}{ha hb hc:HV}(h:qM w0 A ha hb V V')(k:qM w0 A hb hc V' V''):qM w0 A ha hc V V'' where
 held:=k.held
 x:=k.x.trans h.x
 turned:=⟨k.turned.os.trans h.turned.os,k.turned.tape.trans h.turned.tape,k.turned.output.trans h.turned.output,NltQ h.turned.size k.turned.size,fun q hq hn=>(k.turned.block q (nL hq h.turned.size) (fun e=>by
  rcases h.own q e with h1 | h1
  · exact hn h1
  · omega)).trans (h.turned.block q hq hn)⟩
 own:=fun q hq=>by
  rcases k.own q hq with h1 | h1
  · exact h.own q h1
  · exact Or.inr (NltQ h.turned.size h1)
def HV.yg (h:HV)(m:Option Nat):HV:=⟨h.x,h.ts,h.ta,h.tc,m⟩
def zdM (w0:World)(A:Nat)(ha:HV)(w:World)(e:Ending)(w' :World):Prop:=∃m,e= .returned (.map (some m))∧qM w0 A ha (ha.yg (some m)) w w'
theorem zfX {w0 V:World}{A:Nat}{ha:HV}(h1:zY w0 V A ha)(hB:Below w0.heap.size w0 V)(hok:jH ha):Calls Try.prog 105 #[yJ A] V (zdM w0 A ha V):=by
 obtain⟨a0,a1,a2,a3,a4,a5,a6,a7,a8,a9,a10⟩:=h1.box
 obtain⟨mo,hmo⟩:∃mo,mo=ha.m:=⟨_,rfl⟩
 rw[←hmo] at a9
 simp only[yJ]
 have hq:∀(w:World) (r:Option Nat),(binOp .eql 97 (.map r) (.map none)).run Try.prog w= .ok (.bool r.isNone) w:=fun w r=>run_eql_map_nil w _ _ _ r Try.underlying97
 cases mo with
 | some mb=>
   have HE:Hid (zdM w0 A ha V (.returned (.map (some mb))) V):=hH ⟨mb,rfl,by
    have:ha.yg (some mb)=ha:=by rw[hmo];cases ha;rfl
    rw[this]
    exact qM.still h1 (BrQ _ _)⟩
   clear h1 hmo hok hB a0 a1 a2 a3 a4 a5 a6 a7 a8 a10
   go_enter Try.func105,Try.ntmps105
   go_wp2_with fail
   go_ret
   exact HE.out
 | none=>
   have hfs:=J9 V (fun q=>q<V.heap.size) ⟨A,5,(ha.x.s.sub.id,ha.x.s.sub.kind,ha.x.s.sub.text),ha.x.s.sub.kids⟩ (fun q hq=>hq) ⟨A,5,ha.x.a,ha.x.c,rfl,lohQ h1.cells,a5,a6,a7,a8,h1.lies.1,h1.lies.2.kept fun q hq=>⟨nL hq hB.size,hB.block q hq⟩,True.intro⟩ hok.ids hok.small
   have HF:=hH hfs
   have H1:=hH (aN h1 hmo)
   clear hfs h1 hmo hok a0 a1 a2 a3 a4 a5 a6 a7 a8 a10
   go_enter Try.func105,Try.ntmps105
   go_wp2_with fail
   refine HF.out.mono ?_
   rintro e V1 ⟨m,n,rfl,hm,hfm,hb1⟩
   have hc1:=(hb1.block _ (lohQ H1.out.1.cells)).trans H1.out.1.cells
   obtain⟨V2,e2,g2,o2,a2,t2,p2,s2⟩:=yV (i:=9) (u:= .map (some m)) hc1
   have b9:V1.cell? ⟨A,9,none⟩=some (.map ha.m):=by rw[corQ _ _ _ _ _ _ hc1];rfl
   rw[←H1.out.2] at b9
   have bf:V1.frozen? ⟨A,9,none⟩=false:=forQ _ _ _ _ _ hc1
   have hA:=lohQ H1.out.1.cells
   have HE:Hid (zdM w0 A ha V (.returned (.map (some m))) V2):=hH ⟨m,rfl,⟨⟨by simpa [HV.yg] using g2,H1.out.1.lies,zA H1.out.1.texts (fun g cur hg hgo=>(o2 g (fun e=>by
    subst e
    exact zD hg H1.out.1.cells ue9 rfl)).trans (hb1.block g (lohQ hg))),⟨n,_,hfm.at (o2 m om),fun i=>?_⟩,H1.out.1.base,fun m' h'=>by cases h';have:=hB.size;omega⟩,rfl,⟨a2.trans hb1.os,t2.trans hb1.tape,p2.trans hb1.output,by rw[s2];exact hb1.size,fun q hq hn=>(o2 q (fun e=>hn (Or.inl e))).trans (hb1.block q hq)⟩,fun q hq=>by
    rcases hq with hq | hq | hq
    · exact Or.inl (Or.inl hq)
    · exact Or.inl (Or.inr (Or.inl hq))
    · cases hq;exact Or.inr hm⟩⟩
   · have HV2:=hH (aN e2 g2)
     clear e2 g2 o2 a2 t2 p2 s2 hfm hb1 hc1 HF a9
     go_wp2_with fail
     rw[←HV2.out.1]
     have c9:V2.cell? ⟨A,9,none⟩=some (.map (some m)):=by rw[corQ _ _ _ _ _ _ HV2.out.2];rfl
     clear HV2
     go_wp2_with fail
     go_ret
     exact HE.out
   · rw[←jl i ⟨#[]⟩]
     exact (jG i ⟨#[]⟩ ha.x.s.sub).2.symm
end Go.Proofs.Ytnikgofkldkdkaa
namespace Go.Proofs.Ytnikgofkldkdkaa
open Go.RowKit Go.Shelf
def zil:Array Value:= #[.int .i8 4,.int .i8 4,.func (.func 78) #[] #[],.func (.func 79) #[] #[],.int .i8 1,.int .i8 2,.func (.func 80) #[] #[],.func (.func 81) #[] #[],.int .i8 3,.int .i8 3,.func (.func 78) #[] #[],.func (.func 79) #[] #[],.int .i8 1,.int .i8 4,.func (.func 82) #[] #[],.func (.func 83) #[] #[]]
theorem zgt (w:World):Calls Try.prog 50 #[] w (fun e w'=>e= .returned (.agg zil)∧Below w.heap.size w w'):=by
 go_enter Try.func50,Try.ntmps50
 go_wp2_with fail
 exact brQ (results_cell_row rfl _ _ w.heap.size 104 zil (0,0) _ rfl (hanQ _ _) Try.underlying104 rfl kr1) rfl ⟨rfl,(BrQ _ _).alloc (NlrQ _) _⟩
end Go.Proofs.Ytnikgofkldkdkaa
