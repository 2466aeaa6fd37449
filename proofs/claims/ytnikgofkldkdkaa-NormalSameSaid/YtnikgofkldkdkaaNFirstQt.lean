/-
  .
-/
import Derived.Test.YtnikgofkldkdkaaKIdsQt
import Derived.Test.YtnikgofkldkdkaaNBackQt
set_option maxRecDepth 100000
set_option maxHeartbeats 40000000
namespace Go.Proofs.Ytnikgofkldkdkaa
open Go.RowKit Go.Shelf
open Go.Maps
attribute [local go_sem] Oper.semAt_some
set_option linter.unusedVariables false
set_option linter.unusedSimpArgs false
structure It where
 b:Nat
 o:Nat
 k:Int×Int×ByteArray
 l:Fo
def It.f (x:It):Fo:= .node 0 0 x.k x.l .nil
def It.v (x:It):Value:= .pointer (some ⟨x.b,x.o,none⟩)
def It.pre (w:World)(x:It):List (Int×(Nat×Nat)):=yP w x.f x.b x.o
def vZ (w:World):Fo→Nat→Nat→List It
 | .nil,_,_=>[]
 | .node _ _ k l r,b,o=>⟨b,o,k,l⟩::vZ w r b (o+4)
theorem zbl (w:World):∀(f:Fo) (b o:Nat),(vZ w f b o).length=foLen f
 | .nil,_,_=>rfl
 | .node _ _ k l r,b,o=>by rw[vZ,LlcQ,zbl w r];simp[foLen]
theorem zcV (w:World):∀(f:Fo) (b o i:Nat) (x:It),(vZ w f b o)[i]? =some x→x.b=b∧x.o=o+i*4
 | .nil,_,_,_,_,h=>by simp[vZ] at h
 | .node _ _ k l r,b,o,0,x,h=>by simp[vZ] at h;subst h;exact⟨rfl,by simp⟩
 | .node _ _ k l r,b,o,i+1,x,h=>by
   have:=zcV w r b (o+4) i x (by simpa [vZ] using h)
   exact⟨this.1,by omega⟩
theorem zar {w:World}{X:Nat→Prop}:∀{f:Fo} {b o:Nat},zk w X f (some ⟨b,o,none⟩)→∀x∈vZ w f b o,zk w X x.f (some ⟨x.b,x.o,none⟩)
 | .nil,_,_,_,x,h=>by simp[vZ] at h
 | .node _ _ k l r,b,o,hf,x,h=>by
   obtain⟨b1,o1,ka,cap,e,hb,c0,c1,c2,c3,c4,hl,hr⟩:=hf
   cases e
   rw[vZ] at h
   rcases List.mem_cons.1 h with rfl | h
   · exact⟨b,o,ka,cap,rfl,hb,c0,c1,c2,c3,c4,hl,True.intro⟩
   · exact zar hr x h
theorem zcW {w:World}:∀{f:Fo} {b o:Nat},ZE f→∀x∈vZ w f b o,ZE x.f
 | .nil,_,_,_,x,h=>by simp[vZ] at h
 | .node _ _ k l r,b,o,hf,x,h=>by
   rw[vZ] at h
   rcases List.mem_cons.1 h with rfl | h
   · exact⟨hf.1,hf.2.1,True.intro⟩
   · exact zcW hf.2.2 x h
theorem zbm (w:World):∀(f:Fo) (b o:Nat),(vZ w f b o).flatMap (It.pre w)=yP w f b o
 | .nil,_,_=>rfl
 | .node _ _ k l r,b,o=>by
   rw[vZ,List.flatMap_cons,zbm w r,yP]
   simp[It.pre,It.f,yP]
def zg5 (V:World)(WB lo:Nat)(st:List It):Prop:=∃wa wc,V.heap[WB]? =some (.cells #[.slice wa st.length wc] 134 (0,0))∧V.ownsRow lo 96 1 (.slice wa st.length wc) st.length (st.reverse.map It.v)
theorem Try.zkC:(Try.prog.info? 96).map (fun i=>(i.size,i.bytes,i.zero.map (fun z=>z.cells.size)))=some (1,8,some 1):=by kernel_rfl
theorem zg5.pop {V:World}{WB lo n wc:Nat}{wa:Option Addr}{x:It}{st:List It}(h1:V.heap[WB]? =some (.cells #[.slice wa (n+1) wc] 134 (0,0)))(h2:V.ownsRow lo 96 1 (.slice wa (n+1) wc) (n+1) ((x::st).reverse.map It.v))(hn:n=st.length):(V.setCell ⟨WB,0,none⟩ (.slice wa n wc)).heap[WB]? =some (.cells #[.slice wa n wc] 134 (0,0))∧(V.setCell ⟨WB,0,none⟩ (.slice wa n wc)).ownsRow lo 96 1 (.slice wa n wc) n (st.reverse.map It.v):=by
 have hne:∀g,(Value.slice wa (n+1) wc).ownBlock=some g→g≠WB:=fun g hg=>by
  obtain⟨cur,hc⟩:=yU h2 hg
  exact zD hc h1 ue9
 refine⟨by have:=hssQ V WB 0 _ _ (.slice wa n wc) h1;exact this,?_⟩
 obtain⟨e0,h2⟩:=h2
 rw[List.reverse_cons,List.map_append] at h2
 refine⟨by rw[List.length_map,List.length_reverse,hn,Nat.mul_one],?_⟩
 rcases h2 with ⟨hv,h0⟩ | ⟨g,cap,cur,hv,hg,hh,q1,q2,q3,q4⟩
 · omega
 · cases hv
   have hgw:g≠WB:=hne g rfl
   refine Or.inr ⟨g,wc,cur,rfl,hg,by rw[BhsQ _ _ _ _ hgw];exact hh,by omega,q2,q3,?_⟩
   have:=congrArg (List.take n) q4
   rw[List.take_take,Nat.mul_one] at this
   rw[Nat.mul_one,show min n (n+1)=n by omega] at*
   rw[this,List.take_left' (by simp[hn])]
theorem jv {c:Code}{P:Program}{Q:Exit→Act→World→Prop}{a:Act}{w:World}(h:c.wp P (fun e a w=>e= .normal∧Q .normal a w) a w):c.wp P Q a w:=wp_mono h (fun e a w h=>by obtain⟨rfl,h⟩:=h;exact h)
def zbF (w:World)(L:List (Int×(Nat×Nat)))(e:Ending)(w' :World):Prop:=∃m n,e= .returned (.map (some m))∧w.heap.size≤m∧zV w' m n L∧Below w.heap.size w w'
structure FIN (w:World) (X:Nat→Prop) (L P:List (Int×(Nat×Nat))) (st:List It) (Ds:List Nat) (wr:World):Prop where
 map:zV wr w.heap.size P.length P
 wait:zg5 wr (w.heap.size+1+1) (w.heap.size+1) st
 lies:∀x∈st,zk w X x.f (some ⟨x.b,x.o,none⟩)∧ZE x.f
 all:P++st.flatMap (It.pre w)=L
 below:Below w.heap.size w wr
 nodup:Ds.Nodup
 marks:∀D∈Ds,w.heap.size+3≤D∧wr.heap[D]? =some (.deferred (some []))
theorem FIN.end {w wr:World}{X:Nat→Prop}{L P:List (Int×(Nat×Nat))}{Ds:List Nat}(h:FIN w X L P [] Ds wr):zbF w L (.returned (.map (some w.heap.size))) (kL wr Ds):=by
 have hl:=h.map.lt
 refine⟨_,P.length,rfl,NlrQ _,?_,h.below.trans (zcn Ds wr _ (fun D hD=>by have:=(h.marks D hD).1;omega) h.below.size)⟩
 have e:=h.all
 simp only[List.flatMap_nil,List.append_nil] at e
 rw[←e]
 exact h.map.at (Zw Ds wr (fun hD=>by have:=(h.marks _ hD).1;omega))
structure RI (w:World) (P:List (Int×(Nat×Nat))) (st:List It) (Ds:List Nat) (x:It) (NB R0:Nat) (V:World):Prop where
 map:zV V w.heap.size P.length P
 wait:∃wa wc,V.heap[w.heap.size+1+1]? =some (.cells #[.slice wa st.length wc] 134 (0,0))∧V.ownsRow (w.heap.size+1) 96 1 (.slice wa st.length wc) st.length (st.reverse.map It.v)∧∀g,(Value.slice wa st.length wc).ownBlock=some g→(g<R0∨R0+2≤g)∧g≠NB∧g+1≠R0
 zj4:V.heap[NB]? =some (.cells #[x.v] 96 (0,0))
 below:Below w.heap.size w V
 marks:∀D∈Ds,w.heap.size+3≤D∧D<R0∧V.heap[D]? =some (.deferred (some []))
 size:R0≤V.heap.size
theorem RI.kept {w V V' :World}{P:List (Int×(Nat×Nat))}{st:List It}{Ds:List Nat}{x:It}{NB R0:Nat}(h:RI w P st Ds x NB R0 V)(hR:w.heap.size+3≤R0)(hN:NB<R0)(ht:zo V V' (fun q=>q=R0+1)):RI w P st Ds x NB R0 V':=by
 have hs:=h.size
 have hws:=h.below.size
 have hk:∀q,q<R0→V'.heap[q]? =V.heap[q]?:=fun q hq=>ht.block q om om
 obtain⟨wa,wc,h1,h2,h3⟩:=h.wait
 refine⟨h.map.at (hk _ om),⟨wa,wc,(hk _ om).trans h1,zA h2 (fun g cur hg hgo=>ht.block g (lohQ hg) (fun e=>by have:=(h3 g hgo).1;omega)),h3⟩,(hk _ hN).trans h.zj4,⟨ht.os.trans h.below.os,ht.tape.trans h.below.tape,ht.output.trans h.below.output,NltQ hws ht.size,fun q hq=>(hk q om).trans (h.below.block q hq)⟩,fun D hD=>⟨(h.marks D hD).1,(h.marks D hD).2.1,(hk D (h.marks D hD).2.1).trans (h.marks D hD).2.2⟩,NltQ hs ht.size⟩
theorem RI.push {w V U W W9:World}{P:List (Int×(Nat×Nat))}{st:List It}{Ds:List Nat}{x y:It}{NB R0 m wc g cap:Nat}{wa:Option Addr}(h:RI w P st Ds x NB R0 V)(hR:w.heap.size+3≤R0)(hN:NB<R0)(hNw:w.heap.size+3≤NB)(hV2:R0+2≤V.heap.size)(hm:m=st.length)(h1:V.heap[w.heap.size+1+1]? =some (.cells #[.slice wa m wc] 134 (0,0)))(h2:V.ownsRow (w.heap.size+1) 96 1 (.slice wa m wc) m (st.reverse.map It.v))(h3:∀g,(Value.slice wa m wc).ownBlock=some g→(g<R0∨R0+2≤g)∧g≠NB∧g+1≠R0)
 (hU:∀q,q<V.heap.size→U.heap[q]? =V.heap[q]?) (hUs:V.heap.size≤U.heap.size) (hUo:U.os=V.os∧U.tape=V.tape∧U.output=V.output) (hown:W.ownsRow (w.heap.size+1) 96 1 (.slice (some ⟨g,0,none⟩) (m+1) cap) (m+1) (st.reverse.map It.v++[y.v])) (hgr:U.grownBy W (Value.slice wa m wc).ownBlock) (hat:(Value.slice wa m wc).ownBlock=some g∨V.heap.size≤g) (hW9:W9=W.setCell ⟨w.heap.size+1+1,0,none⟩ (.slice (some ⟨g,0,none⟩) (m+1) cap)):
 RI w P (y::st) Ds x NB R0 W9∧W.heap[w.heap.size+1+1]? =some (.cells #[.slice wa m wc] 134 (0,0))∧V.heap.size≤W9.heap.size∧∀q,q<V.heap.size→q≠w.heap.size+1+1→(Value.slice wa m wc).ownBlock≠some q→W9.heap[q]? =V.heap[q]?:=by
 have hs:=h.size
 have hws:=h.below.size
 have hgs:=hgr.size
 have hnm:∀g,(Value.slice wa m wc).ownBlock=some g→∃cur,V.heap[g]? =some (.cells cur 96 (0,0)):=fun g hg=>yU h2 hg
 have hlo:∀g,(Value.slice wa m wc).ownBlock=some g→w.heap.size+1≤g:=fun g hg=>(zi h2 hg).1
 have h4:(Value.slice wa m wc).ownBlock≠some (w.heap.size+1+1):=fun e=>by
  obtain⟨cur,hc⟩:=hnm _ e
  exact zD hc h1 ue9 rfl
 have hs9:W9.heap.size=W.heap.size:=by rw[hW9];simp[World.setCell]
 have hk:∀q,q<V.heap.size→q≠w.heap.size+1+1→(Value.slice wa m wc).ownBlock≠some q→W9.heap[q]? =V.heap[q]?:=fun q h5 h7 h8=>by
  rw[hW9,BhsQ _ _ _ _ h7]
  exact (hgr.block q om (fun e=>h8 e.symm)).trans (hU q h5)
 have hWB:W.heap[w.heap.size+1+1]? =some (.cells #[.slice wa m wc] 134 (0,0)):=(hgr.block _ om (fun e=>h4 e.symm)).trans ((hU _ om).trans h1)
 have hgne:g≠w.heap.size+1+1:=fun e=>by
  rcases hat with h5 | h5
  · exact h4 (by rw[h5,e])
  · omega
 refine⟨⟨h.map.at (hk _ om om (fun e=>by have:=hlo _ e;omega)),⟨some ⟨g,0,none⟩,cap,?_,?_,fun q hq=>?_⟩,(hk _ om om (fun e=>(h3 _ e).2.1 rfl)).trans h.zj4,⟨?_,?_,?_,by omega,fun q hq=>(hk q om om (fun e=>by have:=hlo _ e;omega)).trans (h.below.block q hq)⟩,fun D hD=>⟨(h.marks D hD).1,(h.marks D hD).2.1,(hk D (by have:=(h.marks D hD).2.1;omega) (by have:=(h.marks D hD).1;omega) (fun e=>by
  obtain⟨cur,hc⟩:=hnm D e
  rw[(h.marks D hD).2.2] at hc;cases hc)).trans (h.marks D hD).2.2⟩,by omega⟩,hWB,by omega,hk⟩
 · rw[hW9,LlcQ,←hm];exact hssQ W (w.heap.size+1+1) 0 _ _ (.slice (some ⟨g,0,none⟩) (m+1) cap) hWB
 · rw[hW9,LlcQ,←hm,List.reverse_cons,List.map_append]
   exact zA hown (fun q cur hq hqo=>BhsQ _ _ _ _ (fun e=>by cases hqo;exact hgne e))
 · have hqg:g=q:=Option.some.inj hq
   subst hqg
   rcases hat with h5 | h5
   · exact h3 g h5
   · exact⟨Or.inr om,by omega,by omega⟩
 · rw[hW9];exact hgr.os.trans (hUo.1.trans h.below.os)
 · rw[hW9];exact hgr.tape.trans (hUo.2.1.trans h.below.tape)
 · rw[hW9];exact hgr.output.trans (hUo.2.2.trans h.below.output)
theorem RI.done {w V:World}{X:Nat→Prop}{L P' :List (Int×(Nat×Nat))}{st' :List It}{Ds:List Nat}{x:It}{NB R0:Nat}(h:RI w P' st' Ds x NB R0 V)(hR:w.heap.size+3≤R0)(hl:∀x∈st',zk w X x.f (some ⟨x.b,x.o,none⟩)∧ZE x.f)(ha:P'++st'.flatMap (It.pre w)=L)(hn:Ds.Nodup)(hD:V.heap[R0]? =some (.deferred (some []))):FIN w X L P' st' (R0::Ds) V:=by
 obtain⟨wa,wc,h1,h2,_⟩:=h.wait
 exact⟨h.map,⟨wa,wc,h1,h2⟩,hl,ha,h.below,List.nodup_cons.2 ⟨fun hd=>by have:=(h.marks _ hd).2.1;omega,hn⟩,fun D' hD'=>by
  rcases List.mem_cons.1 hD' with rfl | hD'
  · exact⟨hR,hD⟩
  · exact⟨(h.marks D' hD').1,(h.marks D' hD').2.2⟩⟩
theorem J9 (w:World)(X:Nat→Prop)(x:It)(hX:∀q,X q→q<w.heap.size)(hx:zk w X x.f (some ⟨x.b,x.o,none⟩))(hok:ZE x.f)(hsz:za x.l+1≤100000):
 Calls Try.prog 51 #[.pointer (some ⟨x.b,x.o,none⟩)] w (zbF w (yP w x.f x.b x.o)):=by
 have hmm:=@run_makeMap Try.prog
 obtain⟨L,hL⟩:∃L,L=yP w x.f x.b x.o:=⟨_,rfl⟩
 rw[←hL]
 obtain⟨W,hW⟩:∃W,W=((w.alloc (.map #[] 0)).alloc (.cells #[.pointer (some ⟨x.b,x.o,none⟩)] 96)).alloc (.cells #[.slice (some ⟨w.heap.size+1,0,none⟩) 1 1] 134):=⟨_,rfl⟩
 have hFI:FIN w X L [] [x] [] W:=by
  have e1:W.heap[w.heap.size]? =(w.alloc (.map #[] 0)).heap[w.heap.size]?:=by rw[hW,BhaQ _ _ _ ue6,BhaQ _ _ _ sp1]
  have e2:W.heap[w.heap.size+1]? =some (.cells #[.pointer (some ⟨x.b,x.o,none⟩)] 96 (0,0)):=by
   rw[hW,BhaQ _ _ _ sp1]
   have:=hanQ (w.alloc (.map #[] 0)) (.cells #[.pointer (some ⟨x.b,x.o,none⟩)] 96)
   rwa [WsaQ] at this
  have e3:W.heap[w.heap.size+1+1]? =some (.cells #[.slice (some ⟨w.heap.size+1,0,none⟩) 1 1] 134 (0,0)):=by
   rw[hW]
   have:=hanQ ((w.alloc (.map #[] 0)).alloc (.cells #[.pointer (some ⟨x.b,x.o,none⟩)] 96)) (.cells #[.slice (some ⟨w.heap.size+1,0,none⟩) 1 1] 134)
   rwa [WsaQ,WsaQ] at this
  refine⟨(zV.made w).at e1,⟨some ⟨w.heap.size+1,0,none⟩,1,e3,rfl,Or.inr ⟨w.heap.size+1,1,_,rfl,NlrQ _,e2,NlrQ _,by decide,by simp,rfl⟩⟩,fun y hy=>?_,by rw[hL];simp[It.pre],?_,by simp,fun D hD=>by cases hD⟩
  · rw[List.mem_singleton] at hy;subst hy;exact⟨hx,hok⟩
  · rw[hW];exact (((BrQ _ _).alloc (NlrQ _) _).alloc sp1 _).alloc ue6 _
 have hL6:L.length≤100000:=by rw[hL,Qu];simp[It.f,za];omega
 have HFI:=hH (aN hFI (aN hL6 hX))
 have HL:=hH hL
 have HWE:=hH hW
 clear hFI hL6 hX hL hx hok hsz hW
 refine (callsIn_wide (n:=6)).1 ?_
 refine callsIn_of_wp_marks Try.func51 rfl trivial ?_ rfl
 simp only[Try.ntmps51,List.size_toArray,LlcQ,List.length_nil,Nat.reduceAdd,Nat.reduceSub,Array.replicate_succ,Array.replicate_zero,List.push_toArray,List.append_toArray,List.nil_append,List.cons_append]
 gi_wp2
 rw[←HWE.out]
 clear HWE hmm
 refine wpIn_wide.2 ?_
 refine wp_loop_ghost_k (fun gk a' w'=>∃(u1 u2 u5 u6 u7 u8 u9 u10 u11 u12 u13 u14 u15 u16 u17 u18 u19 u20 u21 u22 u23 u24 u25 u26 u27 u28 u29 u30 u31 u32 u33 u34 u35 u36 u37 u38 u39 u40 u41 u42 u43 u44 u45 u46 u47 u48 u49 u50 u51 u52 u53 u54 u55 u56 u57 u58 u59:Value) (P:List (Int×(Nat×Nat))) (st:List It) (Ds:List Nat),(gk=((st.flatMap (It.pre w)).length)∧FIN w X L P st Ds w')∧a'= { tmps:= #[.pointer (some ⟨x.b,x.o,none⟩),u1,u2,.map (some w.heap.size),.pointer (some ⟨w.heap.size+1+1,0,none⟩),u5,u6,u7,u8,u9,u10,u11,u12,u13,u14,u15,u16,u17,u18,u19,u20,u21,u22,u23,u24,u25,u26,u27,u28,u29,u30,u31,u32,u33,u34,u35,u36,u37,u38,u39,u40,u41,u42,u43,u44,u45,u46,u47,u48,u49,u50,u51,u52,u53,u54,u55,u56,u57,u58,u59],defers:=marks Ds }) (([x].flatMap (It.pre w)).length) ?start ?round
 case start=>exact⟨_,_,_,_,_,_,_,_,_,_,_,_,_,_,_,_,_,_,_,_,_,_,_,_,_,_,_,_,_,_,_,_,_,_,_,_,_,_,_,_,_,_,_,_,_,_,_,_,_,_,_,_,_,_,_,_,_,[],[x],[],⟨rfl,HFI.out.1⟩,rfl⟩
 case round =>
  rintro gk a' wr ⟨u1,u2,u5,u6,u7,u8,u9,u10,u11,u12,u13,u14,u15,u16,u17,u18,u19,u20,u21,u22,u23,u24,u25,u26,u27,u28,u29,u30,u31,u32,u33,u34,u35,u36,u37,u38,u39,u40,u41,u42,u43,u44,u45,u46,u47,u48,u49,u50,u51,u52,u53,u54,u55,u56,u57,u58,u59,P,st,Ds,⟨hgk,hF⟩,rfl⟩ J KK hJ hKK
  obtain⟨wa,wc,hw1,hw2⟩:=hF.wait
  cases st with
  | nil=>
    have c0:wr.cell? ⟨w.heap.size+1+1,0,none⟩=some (.slice wa 0 wc):=by rw[corQ _ _ 0 _ _ _ hw1];rfl
    have HE:=hH hF
    clear hF hw1 hw2 hgk HFI hJ hKK
    go_wp2_with fail
    gi_wp2
    exact Zn Ds _ HE.out.nodup (fun D hD=>(HE.out.marks D hD).2) (fun w'=>by simp[results]) HE.out.end
  | cons y st=>
    obtain⟨n,hn⟩:∃n,n=st.length:=⟨_,rfl⟩
    rw[LlcQ,←hn] at hw1 hw2
    obtain⟨g,wc2,e,hg0,hgl⟩:=hw2.form om
    cases e
    have c0:wr.cell? ⟨w.heap.size+1+1,0,none⟩=some (.slice (some ⟨g,0,none⟩) (n+1) wc):=by rw[corQ _ _ 0 _ _ _ hw1];rfl
    have cf:wr.frozen? ⟨w.heap.size+1+1,0,none⟩=false:=forQ _ _ 0 _ _ hw1
    have t0:wr.cell? ⟨g,n,none⟩=some (.pointer (some ⟨y.b,y.o,none⟩)):=zC hw2 rfl n _ (by rw[List.reverse_cons,List.map_append,List.getElem?_append_right (by simp[hn]),List.length_map,List.length_reverse,hn,Nat.sub_self];rfl)
    have hnc:n+1≤wc:=by
     rcases hw2.2 with ⟨hv,_⟩ | ⟨_,_,_,hv,_,_,h3,_⟩
     · cases hv
     · cases hv;exact h3
    have hn6:n≤100000:=by
     have h1:=HFI.out.2.1
     have h2:=hF.all
     have h3:st.length≤(st.flatMap (It.pre w)).length:=by
      clear h2 hgk hF hJ hKK hw1 hw2 t0 hn
      have hpre:∀z,1≤(It.pre w z).length:=fun z=>by simp[It.pre,It.f,yP]
      induction st with
      | nil=>simp
      | cons z st ih=>
        have:=hpre z
        rw[List.flatMap_cons,LlaQ,LlcQ];omega
     have h4:=congrArg List.length h2
     rw[List.flatMap_cons,LlaQ,LlaQ] at h4
     omega
    obtain⟨V1,hV1⟩:∃V1,V1=(wr.setCell ⟨w.heap.size+1+1,0,none⟩ (.slice (some ⟨g,0,none⟩) n wc)).alloc (.cells #[.pointer (some ⟨y.b,y.o,none⟩)] 96):=⟨_,rfl⟩
    have hWBl:=lohQ hw1
    have hsS:(wr.setCell ⟨w.heap.size+1+1,0,none⟩ (.slice (some ⟨g,0,none⟩) n wc)).heap.size=wr.heap.size:=by simp[World.setCell]
    obtain⟨hp1,hp2⟩:=zg5.pop hw1 hw2 hn
    have hwt1:V1.heap[w.heap.size+1+1]? =some (.cells #[.slice (some ⟨g,0,none⟩) n wc] 134 (0,0))∧V1.ownsRow (w.heap.size+1) 96 1 (.slice (some ⟨g,0,none⟩) n wc) n (st.reverse.map It.v):=by
     rw[hV1]
     exact⟨(BhaQ _ _ _ (lohQ hp1)).trans hp1,zA hp2 (fun q cur hq _=>BhaQ _ _ _ (lohQ hq))⟩
    clear hp1 hp2
    have hblk1:∀q,q<wr.heap.size→q≠w.heap.size+1+1→V1.heap[q]? =wr.heap[q]?:=fun q hq hne=>by rw[hV1,BhaQ _ _ _ (by rw[hsS];exact hq)];exact BhsQ _ _ _ _ hne
    have hs1:V1.heap.size=wr.heap.size+1:=by rw[hV1,WsaQ,hsS]
    have hnb1:V1.heap[wr.heap.size]? =some (.cells #[.pointer (some ⟨y.b,y.o,none⟩)] 96 (0,0)):=by
     have:=hanQ (wr.setCell ⟨w.heap.size+1+1,0,none⟩ (.slice (some ⟨g,0,none⟩) n wc)) (.cells #[.pointer (some ⟨y.b,y.o,none⟩)] 96)
     rw[hsS] at this
     rw[hV1];exact this
    have hws:=hF.below.size
    have hm1:zV V1 w.heap.size P.length P:=hF.map.at (hblk1 _ hF.map.lt om)
    have hbel1:Below w.heap.size w V1:=⟨by rw[hV1];exact hF.below.os,by rw[hV1];exact hF.below.tape,by rw[hV1];exact hF.below.output,by omega,fun q hq=>(hblk1 q om om).trans (hF.below.block q hq)⟩
    obtain⟨hly,hoky⟩:=hF.lies y (List.mem_cons_self ..)
    obtain⟨yb,yo,yk,yl⟩:=y
    obtain⟨b1,o1,ka,kc,e1,hXb,d0,d1,d2,d3,d4,hkl,_⟩:=hly
    cases e1
    simp only at t0 d0 d1 d2 d3 d4 hkl hoky hV1 hnb1
    have hybl:yb<w.heap.size:=HFI.out.2.2 yb hXb
    obtain⟨kn,hkn⟩:∃kn,kn=foLen yl:=⟨_,rfl⟩
    rw[←hkn] at d3 d4
    have hkeep:∀Z:World,Below w.heap.size w Z→∀j,Z.cell? ⟨yb,j,none⟩=w.cell? ⟨yb,j,none⟩:=fun Z hZ j=>World.cell?_of_block (hZ.block yb hybl)
    have i1:V1.cell? ⟨yb,yo,none⟩=some (.int .i64 yk.1):=(hkeep V1 hbel1 _).trans d0
    have n1:V1.cell? ⟨wr.heap.size,0,none⟩=some (.pointer (some ⟨yb,yo,none⟩)):=by rw[corQ _ _ 0 _ _ _ hnb1];rfl
    have hlook:=look_ok (i:=yk.1) hm1 hoky.1
    have ht0:0<(n:Int)+1:=by omega
    have hnw:IntKind.i64.wrap ((n:Int)+1 - 1)=(n:Int):=by rw[show (n:Int)+1 - 1=(n:Int) by omega];exact IntWalk.i64_in _ om
    have HY:=hH (aN hF (aN hw1 (aN hw2 (aN hgk (aN hn (aN hwt1 (aN hm1 (aN hbel1 (aN hnb1 (aN hkl (aN hoky (aN hkn (aN hkeep (aN hXb hybl))))))))))))))
    have HD:=hH (aN d0 (aN d1 (aN d2 (aN d3 (aN d4 (aN hs1 hblk1))))))
    have HJ:=hH (aN hJ hKK)
    have HL1:=hH (aN i1 (aN n1 hlook))
    have HV1:=hH hV1
    clear hF hw1 hw2 hgk hn hwt1 hm1 hbel1 hnb1 hkl hoky hkn hkeep hXb hybl d0 d1 d2 d3 d4 hs1 hblk1 hJ hKK hV1 hsS hws i1 n1 hg0 hlook
    go_upto_region 7 with fail
    rw[←HV1.out]
    obtain⟨i1,n1,hlook⟩:=HL1.out
    clear c0 cf t0 hWBl
    rename_i K1 hK1 K2 hK2
    have hT :∀(u1 u2 u5 u7 u8 u9 u10 u11 u12 u13 u14 u15 u16 u17 u18 u19 u20 u21 u22 u23 u24 u25 u26 u27 u28 u29 u30 u31 u32 u33 u34 u35 u36 u37 u38 u39 u40 u41 u42 u43 u44 u45 u46 u47 u48 u49 u50 u51 u52 u53 u54 u55 u56 u57 u58 u59:Value) (V2:World),zV V2 w.heap.size (P.length+1) (P++[(yk.1,(yb,yo))])→(∀q,q<V1.heap.size→q≠w.heap.size→V2.heap[q]? =V1.heap[q]?)→V1.heap.size≤V2.heap.size→Below w.heap.size w V2→K1 { tmps:= #[.pointer (some ⟨x.b,x.o,none⟩),u1,u2,.map (some w.heap.size),.pointer (some ⟨w.heap.size+1+1,0,none⟩),u5,.pointer (some ⟨wr.heap.size,0,none⟩),u7,u8,u9,u10,u11,u12,u13,u14,u15,u16,u17,u18,u19,u20,u21,u22,u23,u24,u25,u26,u27,u28,u29,u30,u31,u32,u33,u34,u35,u36,u37,u38,u39,u40,u41,u42,u43,u44,u45,u46,u47,u48,u49,u50,u51,u52,u53,u54,u55,u56,u57,u58,u59],defers:=marks Ds } V2:=by
     clear hK2 hlook i1 n1 HL1
     intro u1 u2 u5 u7 u8 u9 u10 u11 u12 u13 u14 u15 u16 u17 u18 u19 u20 u21 u22 u23 u24 u25 u26 u27 u28 u29 u30 u31 u32 u33 u34 u35 u36 u37 u38 u39 u40 u41 u42 u43 u44 u45 u46 u47 u48 u49 u50 u51 u52 u53 u54 u55 u56 u57 u58 u59 V2 hm2 hk2 hs2 hb2
     refine hK1 _ _ ?_
     clear hK1
     obtain⟨hF,hw1,hw2,hgk,hn,hwt1,hm1,hbel1,hnb1,hkl,hoky,hkn,hkeep,hXb,hybl⟩:=HY.out
     obtain⟨d0,d1,d2,d3,d4,hs1,hblk1⟩:=HD.out
     have hws:=hF.below.size
     have hWBl:=lohQ hw1
     have hnb2:V2.heap[wr.heap.size]? =some (.cells #[.pointer (some ⟨yb,yo,none⟩)] 96 (0,0)):=(hk2 _ om om).trans hnb1
     have n2:V2.cell? ⟨wr.heap.size,0,none⟩=some (.pointer (some ⟨yb,yo,none⟩)):=by rw[corQ _ _ 0 _ _ _ hnb2];rfl
     have k2:V2.cell? ⟨yb,yo+3,none⟩=some (.slice ka kn kc):=(hkeep V2 hb2 _).trans d3
     obtain⟨kd,hkd⟩:∃kd,kd=vZ w yl (adB ka) (adO ka):=⟨_,rfl⟩
     have hkdl:kd.length=kn:=by rw[hkd,zbl,hkn]
     obtain⟨V3,hV3⟩:∃V3,V3=V2.alloc (.cells #[.slice ka kn kc] 25):=⟨_,rfl⟩
     have hs3:V3.heap.size=V2.heap.size+1:=by rw[hV3];simp
     have hk3:∀q,q<V2.heap.size→V3.heap[q]? =V2.heap[q]?:=fun q hq=>by rw[hV3];exact BhaQ _ _ _ hq
     have hb3:Below w.heap.size w V3:=by rw[hV3];exact hb2.alloc hb2.size _
     have hRI:RI w (P++[(yk.1,(yb,yo))]) (kd.drop (kd.length - 0)++st) Ds ⟨yb,yo,yk,yl⟩ wr.heap.size V3.heap.size V3:=by
      rw[Nat.sub_zero,List.drop_length,List.nil_append]
      refine⟨by rw[LlaQ];exact hm2.at (hk3 _ om),⟨some ⟨g,0,none⟩,wc,?_,?_,fun q hq=>?_⟩,(hk3 _ om).trans hnb2,hb3,fun D hD=>⟨(hF.marks D hD).1,?_,?_⟩,NlrQ _⟩
      · rw[←hn];exact (hk3 _ om).trans ((hk2 _ om om).trans hwt1.1)
      · rw[←hn]
        exact zA hwt1.2 (fun q cur hq hqo=>(hk3 q (by have:=lohQ hq;omega)).trans (hk2 q (lohQ hq) (by have:=(zi hwt1.2 hqo).1;omega)))
      · have hqg:g=q:=Option.some.inj hq
        subst hqg
        exact⟨Or.inl om,by omega,by omega⟩
      · have:=lohQ (hF.marks D hD).2;omega
      · have h1:=lohQ (hF.marks D hD).2
        have h2:=(hF.marks D hD).1
        exact (hk3 D om).trans ((hk2 D om om).trans ((hblk1 D h1 om).trans (hF.marks D hD).2))
     have hRB:JF V3 V2.heap.size ka kc yl (fun q=>X q∨q=V2.heap.size):=by
      refine⟨by rw[hV3,←hkn];exact hanQ _ _,Or.inr rfl,fun q hq=>?_,hkl.kept fun q hq=>⟨Or.inl hq,hb3.block q (HFI.out.2.2 q hq)⟩,by rw[←hkn];exact d4⟩
      rcases hq with hq | hq
      · have:=HFI.out.2.2 q hq;omega
      · omega
     have hkn6:kn≤1000000:=by
      have h1:=HFI.out.2.1
      have h4:=congrArg List.length hF.all
      rw[List.flatMap_cons,LlaQ,LlaQ] at h4
      have h5:(It.pre w ⟨yb,yo,yk,yl⟩).length=za yl+1:=by rw[It.pre,Qu];simp[It.f,za]
      have:=zM yl
      omega
     have hall:P++[(yk.1,(yb,yo))]++(kd++st).flatMap (It.pre w)=L∧((kd++st).flatMap (It.pre w)).length+1=gk:=by
      have h5:kd.flatMap (It.pre w)=yP w yl (adB ka) (adO ka):=by rw[hkd];exact zbm w yl _ _
      have h6:It.pre w ⟨yb,yo,yk,yl⟩=(yk.1,(yb,yo))::yP w yl (adB ka) (adO ka):=by
       simp only[It.pre,It.f,yP]
       rw[zI d3,List.append_nil]
      have h4:=hF.all
      rw[List.flatMap_cons,h6] at h4 hgk
      rw[List.flatMap_append,h5]
      exact⟨by rw[←h4];simp,by rw[hgk];simp only[LlaQ,LlcQ];omega⟩
     have HT:=hH (aN hRI (aN hRB (aN hall (aN hkdl (aN hkd (aN hs3 (aN hs2 (aN hb3 (aN hws hWBl)))))))))
     have HKN:=hH (show foLen yl≤1000000 by omega)
     have HN:=hH (show st.length≤100000 by omega)
     have HZ:=hH (show ∀z∈kd++st,zk w X z.f (some ⟨z.b,z.o,none⟩)∧ZE z.f from fun z hz=>by
      rcases List.mem_append.1 hz with hz | hz
      · rw [hkd] at hz
        cases yl with
        | nil=>simp[vZ] at hz
        | node x9 y9 k9 l9 r9=>
          obtain⟨kb,ko,e,_⟩:=yS hkl sp1
          subst e
          exact⟨zar hkl z hz,zcW hoky.2.1 z hz⟩
      · exact hF.lies z (List.mem_cons_of_mem _ hz))
     have HR3:=hH (show w.heap.size+3≤V3.heap.size∧wr.heap.size<V3.heap.size by omega)
     have HV3:=hH hV3
     clear hF hw1 hw2 hgk hn hwt1 hm1 hbel1 hnb1 hkl hoky hkn hkeep hXb hybl d0 d1 d2 d3 d4 hs1 hblk1 hws hWBl hnb2 hkd hkdl hV3 hs3 hk3 hb3 hRI hRB hm2 hk2 hs2 hb2 hall
     go_wp2_with (go_at_call 84;refine (ziL _ _ _ _).mono ?_;rintro e w' ⟨rfl,rfl⟩)
     rw[←HV3.out]
     have hkk:=HT.out.2.2.2.1
     refine (wpIn_wide (n:=6)).1 ?_
     refine zeu (NB:=V2.heap.size) om rfl ka kc yl (fun q=>X q∨q=V2.heap.size) HT.out.2.1 HKN.out rfl (fun k V=>RI w (P++[(yk.1,(yb,yo))]) (kd.drop (kd.length - k)++st) Ds ⟨yb,yo,yk,yl⟩ wr.heap.size V3.heap.size V) (fun _ _=>False) ?hI ?hIx ?h0 ?rnd ?done ?stop
     case hI=>exact fun h ht=>h.kept HR3.out.1 HR3.out.2 ht
     case hIx=>exact fun h _=>h.elim
     case h0=>exact HT.out.1
     case stop=>exact fun _ _ _ _ h _=>h.elim
     case done=>
      rintro D V hD hR hK
      have hl2:∀z∈kd++st,zk w X z.f (some ⟨z.b,z.o,none⟩)∧ZE z.f:=HZ.out
      rw[show foLen yl=kd.length from by rw[hkk];exact HY.out.2.2.2.2.2.2.2.2.2.2.2.1.symm,Nat.sub_self,List.drop_zero] at hR
      rw[hD] at hK
      have hfi:=hR.done (X:=X) HR3.out.1 hl2 HT.out.2.2.1.1 HY.out.1.nodup hK
      rw[←hD] at hfi
      change KK _ _
      refine HJ.out.2 _ _ (Handed.intro _ ?_ (HJ.out.1 _ _ _ ⟨_,_,_,_,_,_,_,_,_,_,_,_,_,_,_,_,_,_,_,_,_,_,_,_,_,_,_,_,_,_,_,_,_,_,_,_,_,_,_,_,_,_,_,_,_,_,_,_,_,_,_,_,_,_,_,_,_,_,_,D::Ds,⟨rfl,hfi⟩,rfl⟩))
      have:=HT.out.2.2.1.2
      omega
     case rnd=>
      rintro l hl k j v V hV hj hR K hK
      have hHK:=hH hK
      have HR:=hH (aN hl (aN hV (aN hj hR)))
      clear hK hl hV hj hR n2 k2
      gi_wp2
      refine hHK.out _ _ (zo.refl _ _) fun V1' hV1=>?_
      clear hHK
      obtain⟨hl,hV,hj,hR0⟩:=HR.out
      obtain⟨o',ev,o,ho,hoc⟩:=hV1
      have hsz1:V1'.heap.size=V.heap.size:=by rw[ev];simp[World.putObj]
      have hws:=HT.out.2.2.2.2.2.2.2.2.1
      have hs3:=HT.out.2.2.2.2.2.1
      have hs2:=HT.out.2.2.2.2.2.2.1
      have hs1:=HD.out.2.2.2.2.2.1
      have hWBl:=HT.out.2.2.2.2.2.2.2.2.2
      have hR:=hR0.kept om om (show zo V V1' (fun q=>q=V3.heap.size+1) by rw[ev,hl] at*;exact yQ o' ho)
      obtain⟨wa,wc',h1,h2,h3⟩:=hR.wait
      obtain⟨m,hm⟩:∃m,m=(kd.drop (kd.length - k)++st).length:=⟨_,rfl⟩
      rw[←hm] at h1 h2 h3
      have hkln:=HY.out.2.2.2.2.2.2.2.2.2.2.2.1
      have hjn:j<kn:=by omega
      obtain⟨z,hz⟩:∃z,kd[j]? =some z:=⟨_,List.getElem?_eq_getElem om⟩
      obtain⟨b0,o0,key,kl,kr,hd0,kb,ko,kka,kkc,ea,hSb,_⟩:=HY.out.2.2.2.2.2.2.2.2.2.1.at j om
      subst ea
      have hkd' :kd=vZ w yl kb ko:=HT.out.2.2.2.2.1
      have hzat:=zcV w yl kb ko j z (by rw[←hkd'];exact hz)
      clear hkd'
      have hzv:z.v= .pointer (some ⟨kb,ko+j*4,none⟩):=by rw[It.v,hzat.1,hzat.2]
      have hdrop:kd.drop (kd.length - (k+1))=z::kd.drop (kd.length - k):=by
       have hlt:kd.length - (k+1)<kd.length:=by omega
       have hje:kd.length - (k+1)=j:=by omega
       rw[List.drop_eq_getElem_cons hlt]
       have hje2:kd.length - (k+1)+1=kd.length - k:=by omega
       rw[hje2]
       congr 1
       have:=List.getElem?_eq_some_iff.1 hz
       obtain⟨_,hz2⟩:=this
       rw[←hz2]
       congr 1
      obtain⟨U,hU⟩:∃U,U=(V1'.alloc (.cells #[.pointer (some ⟨kb,ko+j*4,none⟩)] 96)).drew:=⟨_,rfl⟩
      have hUk:∀q,q<V1'.heap.size→U.heap[q]? =V1'.heap[q]?:=fun q hq=>by rw[hU];exact BhaQ _ _ _ hq
      have hUs:U.heap.size=V1'.heap.size+1:=by rw[hU];show (V1'.alloc _).heap.size=_;simp
      have hUn:U.heap[V1'.heap.size]? =some (.cells #[.pointer (some ⟨kb,ko+j*4,none⟩)] 96 (0,0)):=by rw[hU];exact hanQ _ _
      obtain⟨i0,z0,hi0,hz0,hz1,hz2,hz3⟩:=zW Try.zkC
      have h2U:=zA (w':=U) h2 (fun q cur hq _=>hUk q (lohQ hq))
      have hm9:m≤2000000:=by
       have h6:(kd.drop (kd.length - k)).length≤kd.length:=by rw[List.length_drop];omega
       have h7:=HKN.out
       have h8:=HN.out
       rw[hm,LlaQ]
       omega
      obtain⟨g9,cap9,W,hrun,hown,hgr,hat,hlt9⟩:=run_append_lies (P:=Try.prog) U 134 134 (w.heap.size+1) 96 i0 z0 1 8 Try.underlying134 hi0 hz0 hz1 hz2 hz3 om (.slice wa m wc') m _ h2U ⟨V1'.heap.size,0,none⟩ 1 1 [.pointer (some ⟨kb,ko+j*4,none⟩)] rfl (fun i u hu=>by
       have hadd:(⟨V1'.heap.size,0,none⟩:Addr).add i=⟨V1'.heap.size,i,none⟩:=by unfold Addr.add;split<;>simp_all
       rw[hadd,corQ _ _ _ _ _ _ hUn]
       simpa using hu) (fun u hu=>by simp only[List.mem_cons,List.not_mem_nil,or_false] at hu;rw[hu];rfl) om ue1 om om U.heap.size rfl
      obtain⟨W9,hW9⟩:∃W9,W9=W.setCell ⟨w.heap.size+1+1,0,none⟩ (.slice (some ⟨g9,0,none⟩) (m+1) cap9):=⟨_,rfl⟩
      rw[←hzv] at hown
      have hpush:=hR.push (y:=z) (U:=U) (W:=W) (W9:=W9) (g:=g9) (cap:=cap9) om om om om hm h1 h2 h3 hUk om (by rw[hU];exact⟨rfl,rfl,rfl⟩) hown hgr (hat.imp id (fun h=>by omega)) hW9
      obtain⟨hp1,hpW,hps,hpk⟩:=hpush
      obtain⟨SW,hSW⟩:∃SW:World→Prop,SW=fun Z=>Z.cell? ⟨wr.heap.size,0,none⟩=some (.pointer (some ⟨yb,yo,none⟩))∧Z.cell? ⟨yb,yo+3,none⟩=some (.slice (some ⟨kb,ko,none⟩) kn kc):=⟨_,rfl⟩
      have HSW:=hH (fun (Z:World) (h:SW Z)=>(show Z.cell? ⟨wr.heap.size,0,none⟩=some (.pointer (some ⟨yb,yo,none⟩))∧Z.cell? ⟨yb,yo+3,none⟩=some (.slice (some ⟨kb,ko,none⟩) kn kc) by rw[hSW] at h;exact h))
      have hybl:=HY.out.2.2.2.2.2.2.2.2.2.2.2.2.2.2
      have hSof:∀Z:World,Z.heap[wr.heap.size]? =V1'.heap[wr.heap.size]?→Z.heap[yb]? =V1'.heap[yb]?→SW Z:=fun Z e1 e2=>by
       rw[hSW]
       refine⟨by rw[corQ _ _ 0 _ _ _ (e1.trans hR.zj4)];rfl,?_⟩
       exact (World.cell?_of_block (a:=⟨yb,yo+3,none⟩) (e2.trans (hR.below.block yb hybl))).trans HD.out.2.2.2.1
      have hoNB:(Value.slice wa m wc').ownBlock≠some wr.heap.size:=fun e=>(h3 _ e).2.1 rfl
      have hoy:(Value.slice wa m wc').ownBlock≠some yb:=fun e=>by have:=(zi h2 e).1;omega
      have hS0:SW V1'.drew:=hSof _ rfl rfl
      have hSU:SW U:=hSof _ (hUk _ om) (hUk _ om)
      have hSWW:SW W:=hSof _ ((hgr.block _ om (fun e=>hoNB e.symm)).trans (hUk _ om)) ((hgr.block _ om (fun e=>hoy e.symm)).trans (hUk _ om))
      have hS9:SW W9:=hSof _ (hpk _ om om hoNB) (hpk _ om om hoy)
      have c0:V1'.drew.cell? ⟨w.heap.size+1+1,0,none⟩=some (.slice wa m wc'):=by show V1'.cell? _=_;rw[corQ _ _ 0 _ _ _ h1];rfl
      have cU:U.cell? ⟨w.heap.size+1+1,0,none⟩=some (.slice wa m wc'):=by rw[corQ _ _ 0 _ _ _ ((hUk _ om).trans h1)];rfl
      have b7:W.cell? ⟨w.heap.size+1+1,0,none⟩=some (.slice wa m wc'):=by rw[corQ _ _ 0 _ _ _ hpW];rfl
      have f7:W.frozen? ⟨w.heap.size+1+1,0,none⟩=false:=forQ _ _ 0 _ _ hpW
      have hEND:zdL V3.heap.size (fun q=>X q∨q=V2.heap.size) (fun k V=>RI w (P++[(yk.1,(yb,yo))]) (kd.drop (kd.length - k)++st) Ds ⟨yb,yo,yk,yl⟩ wr.heap.size V3.heap.size V) (fun _ _=>False) k V1' .normal { tmps:= #[],defers:=[] } W9:=by
       refine⟨hps,fun q hq=>hpk q ?_ ?_ ?_,.inl ⟨rfl,by show RI w _ (kd.drop (kd.length - (k+1))++st) _ _ _ _ W9;rw[hdrop];exact hp1⟩⟩
       · rcases hq with rfl | rfl | hq | rfl
         · omega
         · omega
         · have:=HFI.out.2.2 q hq;omega
         · omega
       · rcases hq with rfl | rfl | hq | rfl
         · omega
         · omega
         · have:=HFI.out.2.2 q hq;omega
         · omega
       · intro e
         have hb:=zi h2 e
         have h5:=h3 _ e
         rcases hq with rfl | rfl | hq | rfl
         · omega
         · omega
         · have:=HFI.out.2.2 q hq;omega
         · omega
      have HEND:=hH hEND
      have HSQ:=hH (aN hS0 (aN hSU (aN hSWW hS9)))
      have HWC:=hH (aN c0 cU)
      have HB7:=hH (aN b7 f7)
      have HRUN:=hH hrun
      have HU:=hH hU
      have HW9:=hH hW9
      have HJN:=hH (aN hjn (show (j:Int)<(kn:Int) by omega))
      clear hEND hS0 hSU hSWW hS9 c0 cU b7 f7 hrun hU hW9 hSof hoNB hoy hp1 hpW hps hpk hown hgr hat hlt9 hm9 h2U hUk hUs hUn hi0 hz0 hz1 hz2 hz3 hdrop hzv hzat hz hd0 hSb hjn h1 h2 h3 hm hR hR0 ev ho hoc hsz1 hws hs3 hs2 hs1 hWBl hybl hSW hkln hl hV hj
      refine wpIn_block ?_
      refine Zx (S:=SW) kr1 (by rintro ⟨aa,ww,hh⟩;simp only[Exit.then,Exit.inBlock,zdL] at hh;rcases hh.2.2 with h | h | ⟨id,h,_⟩<;>(first | (cases h.1;done) | cases h)) (zfg kr1) HSQ.out.1 (fun uH=>?_)
      refine tJ (i:=1) (.pointer (some ⟨yb,yo,none⟩)) rfl ?_ ?_
      · exact ub1
      simp only[Act.put,pg]
      refine tJ (i:=2) (.pointer (some ⟨yb,yo,none⟩)) rfl ?_ ?_
      · exact ub1
      simp only[Act.put,pg]
      refine tJ (i:=3) (.pointer (some ⟨yb,yo+3,none⟩)) rfl ?_ ?_
      · exact ub1
      simp only[Act.put,pg]
      refine tJ (i:=4) (.slice (some ⟨kb,ko,none⟩) kn kc) rfl ?_ ?_
      · exact ub1
      simp only[Act.put,pg]
      refine tJ (i:=5) (.int .i64 (j:Int)) rfl ?_ ?_
      · exact ub1
      simp only[Act.put,pg]
      refine tJ (i:=6) (.pointer (some ⟨kb,ko+j*4,none⟩)) rfl ?_ ?_
      · exact ub1
      simp only[Act.put,pg]
      refine rd [0,7] ?_
      refine AcQ (o:=_) rfl (fun K hK=>?_) (AcQ (o:=_) rfl (fun K hK=>?_) (AnQ))
      · skip
        rw[ipQ uf0]
        simp only[pg3]
        have HK:=hH hK
        clear hK uH
        have l0:=HWC.out.1
        go_wp2_with fail
        refine HK.out _ _ HSQ.out.1 (fun uH=>?_)
        clear HK l0
        refine rd [7] ?_
        refine AcQ (o:=_) rfl (fun K hK=>?_) (AnQ)
        rw[ipQ uf0]
        simp only[pg3]
        have HK:=hH hK
        clear hK uH
        go_wp2_with fail
        rw[←HU.out]
        refine HK.out _ _ HSQ.out.2.1 (fun uH=>?_)
        clear HK
        exact sc3
      · skip
        rw[ipQ uf0]
        simp only[pg3]
        have HK:=hH hK
        clear hK uH
        go_wp2_with fail
        rw[←HU.out]
        refine HK.out _ _ HSQ.out.2.1 (fun uH=>?_)
        clear HK
        refine rd [0] ?_
        refine AcQ (o:=_) rfl (fun K hK=>?_) (AnQ)
        rw[ipQ uf0]
        simp only[pg3]
        have HK:=hH hK
        clear hK uH
        have l0:=HWC.out.2
        go_wp2_with fail
        refine HK.out _ _ HSQ.out.2.1 (fun uH=>?_)
        clear HK l0
        exact sc3
    clear hK1
    by_cases htw:(zR yk.1 P).isSome=true
    · rw[htw] at hlook
      have HTW:=hH htw
      clear htw
      have HT:=hH hT
      clear hT
      go_wp2_with fail
      exact HT.out _ _ _ _ _ _ _ _ _ _ _ _ _ _ _ _ _ _ _ _ _ _ _ _ _ _ _ _ _ _ _ _ _ _ _ _ _ _ _ _ _ _ _ _ _ _ _ _ _ _ _ _ _ _ _ _ V1 (HY.out.2.2.2.2.2.2.1.skip HTW.out) (fun _ _ _=>rfl) (NlrQ _) HY.out.2.2.2.2.2.2.2.1
    · have htw2:(zR yk.1 P).isSome=false:=by simpa using htw
      have hnone:zR yk.1 P=none:=by
       cases hf:zR yk.1 P with
       | none=>rfl
       | some a=>rw[hf] at htw2;cases htw2
      rw[htw2] at hlook
      have HTW:=hH hnone
      clear htw htw2 hnone
      have HT:=hH hT
      clear hT
      go_upto_region 9 with fail
      have hok1:=HY.out.2.2.2.2.2.2.2.2.2.2.1.1
      obtain⟨M,hM1,hM2⟩:=HY.out.2.2.2.2.2.2.1
      obtain⟨V2,hmu,hMo,hgr⟩:=World.ownsMap.update (World.ownsMap.drew hM1) zcX Try.underlying97 (by
       have h1:=HFI.out.2.1
       have h4:=congrArg List.length HY.out.1.all
       rw[LlaQ] at h4
       unfold maxLen;omega) (keyOf_int_mk (P:=Try.prog) Try.underlying3 hok1) (show zet (.pointer (some ⟨yb,yo,none⟩))=some (.held (.pointer (some ⟨yb,yo,none⟩)),[]) from rfl)
      have hF2:zV V2 w.heap.size (P.length+1) (P++[(yk.1,(yb,yo))]):=zV.put (p:=(yk.1,(yb,yo))) hM2 HTW.out (by unfold zbb;rw[QT];exact hMo)
      have hk2:∀q,q<V1.heap.size→q≠w.heap.size→V2.heap[q]? =V1.heap[q]?:=fun q h1 h2=>hgr.block q h1 (fun e=>h2 (Option.some.inj e))
      have hb1:=HY.out.2.2.2.2.2.2.2.1
      have hb2:Below w.heap.size w V2:=⟨hgr.os.trans hb1.os,hgr.tape.trans hb1.tape,hgr.output.trans hb1.output,NltQ hb1.size hgr.size,fun q hq=>(hk2 q (by have:=hb1.size;omega) om).trans (hb1.block q hq)⟩
      have hdone:=HT.out
      have HF2:=hH (aN hF2 (aN hk2 (aN (show V1.heap.size≤V2.heap.size from hgr.size) hb2)))
      obtain⟨SW,hSW⟩:∃SW:World→Prop,SW=fun Z=>Z.cell? ⟨wr.heap.size,0,none⟩=some (.pointer (some ⟨yb,yo,none⟩))∧Z.cell? ⟨yb,yo,none⟩=some (.int .i64 yk.1):=⟨_,rfl⟩
      have HSW:=hH (fun (Z:World) (h:SW Z)=>(show Z.cell? ⟨wr.heap.size,0,none⟩=some (.pointer (some ⟨yb,yo,none⟩))∧Z.cell? ⟨yb,yo,none⟩=some (.int .i64 yk.1) by rw[hSW] at h;exact h))
      have hS0:SW V1.drew:=by rw[hSW];exact⟨n1,i1⟩
      have hS2:SW V2:=by
       rw[hSW]
       have hws:=HY.out.1.below.size
       have h9:=lohQ HY.out.2.1
       have h8:=HD.out.2.2.2.2.2.1
       have h7:=HY.out.2.2.2.2.2.2.2.2.2.2.2.2.2.2
       exact⟨(World.cell?_of_block (a:=⟨wr.heap.size,0,none⟩) (hk2 wr.heap.size om om)).trans n1,(World.cell?_of_block (a:=⟨yb,yo,none⟩) (hk2 yb om om)).trans i1⟩
      have HS2:=hH hS2
      clear hSW hM1 hM2 hMo hgr hF2 hk2 hb1 hb2 hok1 hlook i1 n1 hdone hS2 HL1
      refine jv ?_
      refine wrhQ (S:=SW) kr1 hS0 (fun uH=>?_)
      clear hS0
      refine wpAnyH_take (i:=0) (oi:=_) (v:= .map (some w.heap.size)) rfl kr1 kr1 kr1 (fun _ _ _ h=>by cases h.1) (Or.inl ⟨by rfl,?_⟩) ue7 ?_
      · exact ub2
      simp only[Act.put,pg]
      refine wpAnyH_take (i:=1) (oi:=_) (v:= .pointer (some ⟨yb,yo,none⟩)) rfl kr1 kr1 kr1 (fun _ _ _ h=>by cases h.1) (Or.inl ⟨by rfl,?_⟩) ue7 ?_
      · exact ub2
      simp only[Act.put,pg]
      refine wpAnyH_take (i:=2) (oi:=_) (v:= .pointer (some ⟨yb,yo,none⟩)) rfl kr1 kr1 kr1 (fun _ _ _ h=>by cases h.1) (Or.inl ⟨by rfl,?_⟩) ue7 ?_
      · exact ub2
      simp only[Act.put,pg]
      refine wpAnyH_take (i:=3) (oi:=_) (v:= .pointer (some ⟨yb,yo,none⟩)) rfl kr1 kr1 kr1 (fun _ _ _ h=>by cases h.1) (Or.inl ⟨by rfl,?_⟩) ue7 ?_
      · exact ub2
      simp only[Act.put,pg]
      refine wpAnyH_take (i:=4) (oi:=_) (v:= .int .i64 yk.1) rfl kr1 kr1 kr1 (fun _ _ _ h=>by cases h.1) (Or.inl ⟨by rfl,?_⟩) ue7 ?_
      · exact ub2
      simp only[Act.put,pg]
      refine wpAnyH_take (i:=5) (oi:=_) (v:= .pointer (some ⟨yb,yo,none⟩)) rfl kr1 kr1 kr1 (fun _ _ _ h=>by cases h.1) (Or.inl ⟨by rfl,?_⟩) ue7 ?_
      · exact ub2
      simp only[Act.put,pg]
      refine rd [6] ?_
      refine AcQ (o:=_) rfl (fun K hK=>?_) (AnQ)
      rw[ipQ uf0]
      simp only[pg3]
      have HK:=hH hK
      clear hK uH
      go_wp2_with fail
      refine HK.out _ _ HS2.out (fun uH=>?_)
      clear HK
      refine wpAnyH_done kr1 ?_ _
      refine⟨rfl,?_⟩
      change K1 _ _
      exact HT.out _ _ _ _ _ _ _ _ _ _ _ _ _ _ _ _ _ _ _ _ _ _ _ _ _ _ _ _ _ _ _ _ _ _ _ _ _ _ _ _ _ _ _ _ _ _ _ _ _ _ _ _ _ _ _ _ V2 HF2.out.1 HF2.out.2.1 HF2.out.2.2.1 HF2.out.2.2.2
end Go.Proofs.Ytnikgofkldkdkaa
