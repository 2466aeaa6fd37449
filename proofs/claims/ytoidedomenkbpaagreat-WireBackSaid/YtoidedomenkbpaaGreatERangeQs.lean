/-
  .
-/
import Derived.Test.YtoidedomenkbpaaGreatEDownQs
set_option maxRecDepth 100000
set_option maxHeartbeats 40000000
set_option linter.unusedVariables false
namespace Go.Proofs.YtoidedomenkbpaaGreat
open Go.RowKit Go.Shelf
theorem zcP {m l:Nat}{J:(Nat→Prop)→List Seg→World→Prop}{Jx:(Nat→Prop)→World→Prop}(hB:Body Tryz.prog m l J Jx)(M LB YB FB DB:Nat)(hM:M≤1000000000):∀k,k≤1000→zd0 J Jx M l LB YB FB DB k
 | 0,_=>zcQ hB M LB YB FB DB hM 0 om1 (Or.inl rfl)
 | k+1,h=>zcQ hB M LB YB FB DB hM (k+1) h (Or.inr (by rw[Nat.add_sub_cancel];exact zcP hB M LB YB FB DB hM k om1))
theorem Qg {P:Program}(w:World){ops:Array Oper}{rest:List Oper}{o:Oper}{a:Act}{Q:Exit→Act→World→Prop}(hgd:o.guard=none)(s x:Operand)(t:TypeId)
 (ho:o.op= .call { callee:= .builtin .append,args:= #[s,x],argTypes:= #[t,t] }) (base:Nat) (e:TypeId) (i:TypeInfo) (size:Nat) (ht:P.underlying t=some (.slice e)) (hi:P.info? e=some i)
 (v:Value) (n:Nat) (xs:List Value) (hs:a.eval s=v) (hown:w.ownsRow base e size v n xs) (c:Nat) (hx:a.eval x= .slice none 0 c) (h:wpList P ops Q rest (a.put o.dst v) w):wpList P ops Q (o::rest) a w:=by
 refine wpList_plain hgd fun K hK=>?_
 have hr:(Builtin.append_ #[t,t] o.type #[v,.slice none 0 c]).run P w= .ok v w:=by
  rcases hown.2 with ⟨rfl,rfl⟩ | ⟨g,cap,cur,rfl,_,_,hnc,_⟩
  · exact ua0
  · exact ua1
 unfold Oper.wp execOp
 simp only[ho,resolve,invoke,builtin,Sem.run_bind,Sem.run_pure,Result.andThen_ok,List.map_toArray,List.map_cons,List.map_nil,hs,hx,hr]
 exact hK _ _ h
section
variable (J:(Nat→Prop)→List Seg→World→Prop) (Jx:(Nat→Prop)→World→Prop) (M l LB YB FB DB:Nat)
structure JW (T:Nat→Prop) (wr:World) (lv wv:Value) (Lw:List Seg):Prop where
 row:wr.ownsRow 0 175 2 wv Lw.length (Lw.flatMap Seg.cells)
 own:∀g,wv.ownBlock=some g→T g∧lv.ownBlock≠some g
def zjs (gk:Nat)(wv:Value)(wr:World):Prop:=
 ∃T lv L Lw lf,Its T wr l LB YB FB DB lv L lf∧JW T wr lv wv Lw∧((lf=false∧J T Lw.reverse wr∧(∀s∈Lw,Qm M s∧s.f≠ .nil)∧yU Lw≤500000∧gk=yU Lw+1)∨(lf=true∧Jx T wr∧gk=0))
end
def zjr (J:(Nat→Prop)→List Seg→World→Prop)(Jx:(Nat→Prop)→World→Prop)(e:Ending)(V:World):Prop:=(∃v,e= .returned v)∧((∃T,J T [] V)∨∃T,Jx T V)
section
variable {P:Program} {m:Nat} {J:(Nat→Prop)→List Seg→World→Prop} {Jx:(Nat→Prop)→World→Prop} {M l LB YB FB DB:Nat}
theorem zdk:∀(L:List Seg),L= []∨∃A s,L=A++[s]:=fun L=>by
 rcases List.eq_nil_or_concat L with h | ⟨A,s,h⟩
 · exact Or.inl h
 · exact Or.inr ⟨A,s,by rw[h,List.concat_eq_append]⟩
theorem zf9 {w:World}{B n cap:Nat}{a:Option Addr}{e:TypeId}{xs ys:List Value}(h:w.ownsRow B e 2 (.slice a (n+1) cap) (n+1) (xs++ys))(hn:xs.length=n*2):w.ownsRow B e 2 (.slice a n cap) n xs:=by
 rcases h.2 with ⟨hv,_⟩ | ⟨g',cap',cur,hv,hB,hh,h3,h4,h5,h6⟩
 · cases hv
 · cases hv
   refine⟨hn,Or.inr ⟨g',cap,cur,rfl,hB,hh,by omega,h4,h5,?_⟩⟩
   have h7:(cur.toList.take ((n+1)*2)).take (n*2)=(xs++ys).take (n*2):=by rw[h6]
   rw[List.take_take,Nat.min_eq_left om1] at h7
   rw[h7,List.take_left' om1]
theorem zf8 {w:World}{B n cap:Nat}{a:Option Addr}{e:TypeId}{size:Nat}{xs:List Value}(h:w.ownsRow B e size (.slice a n cap) n xs):w.ownsRow B e size (.slice a 0 cap) 0 []:=by
 rcases h.2 with ⟨hv,_⟩ | ⟨g',cap',cur,hv,hB,hh,h3,h4,h5,h6⟩
 · cases hv;exact World.ownsRow_nil _ _ _ _
 · cases hv
   exact⟨by simp,Or.inr ⟨g',cap,cur,rfl,hB,hh,by omega,h4,h5,by simp⟩⟩
theorem zfS {T:Nat→Prop}{wr w1:World}{la wa:Option Addr}{ln lc n wc:Nat}{L Ls:List Seg}{top:Seg}(hB:Body P m l J Jx)(h:Its T wr l LB YB FB DB (.slice la ln lc) L false)(hw:JW T wr (.slice la ln lc) (.slice wa (n+1) wc) (Ls++[top]))(hJ:J T (Ls++[top]).reverse wr)(hn:n=Ls.length)
 (h1:w1.heap=((wr.setCell ⟨LB,0,none⟩ (.slice la 0 lc)).alloc (.cells #[.int .i64 (top.d:Int),top.v] 175)).heap) (h12:w1.os=wr.os∧w1.tape=wr.tape∧w1.output=wr.output):
 ∃T2,Its T2 w1 l LB YB FB DB (.slice la 0 lc) [] false∧JW T2 w1 (.slice la 0 lc) (.slice wa n wc) Ls∧J T2 (top::Ls.reverse) w1∧w1.cell? ⟨wr.heap.size,0,none⟩=some (.int .i64 (top.d:Int))∧w1.cell? ⟨wr.heap.size,1,none⟩=some top.v:=by
 obtain⟨n1,n2,n3,n4,n5,n6,n7⟩:=h.zer
 have hz0:(wr.setCell ⟨LB,0,none⟩ (.slice la 0 lc)).heap.size=wr.heap.size:=by simp[World.setCell]
 have hsz:w1.heap.size=wr.heap.size+1:=by rw[h1,WsaQ,hz0]
 have hLl:=h.sub _ h.hl
 have hblk:∀x,x<wr.heap.size→x≠LB→w1.heap[x]? =wr.heap[x]?:=fun x hx hn=>by rw[h1,BhaQ _ _ _ (by rw[hz0];exact hx),BhsQ _ _ _ _ hn]
 have hLB:w1.heap[LB]? =some (.cells #[.slice la 0 lc] 176 (0,0)):=by
  have:=hssQ wr LB 0 _ _ (.slice la 0 lc) h.later
  rw[h1,BhaQ _ _ _ (by rw[hz0];exact hLl),this];rfl
 have hX:w1.heap[wr.heap.size]? =some (.cells #[.int .i64 (top.d:Int),top.v] 175 (0,0)):=by
  have:=hanQ (wr.setCell ⟨LB,0,none⟩ (.slice la 0 lc)) (.cells #[.int .i64 (top.d:Int),top.v] 175)
  rw[hz0] at this
  rw[h1];exact this
 have ho:(Value.slice la 0 lc).ownBlock=(Value.slice la ln lc).ownBlock:=by cases la<;>rfl
 have how:(Value.slice wa n wc).ownBlock=(Value.slice wa (n+1) wc).ownBlock:=by cases wa<;>rfl
 have hrow:=h.row
 have hT:∀x,T x→(T x∨x=wr.heap.size):=fun x hx=>Or.inl hx
 have hrl:L.length=ln:=by
  rcases hrow.2 with ⟨hv,h0⟩ | ⟨g,cap,cur,hv,_⟩
  · cases hv;exact h0
  · cases hv;rfl
 rw[hrl] at hrow
 refine⟨fun x=>T x∨x=wr.heap.size,?_,⟨?_,fun g hg=>?_⟩,?_,by rw[corQ _ _ 0 _ _ _ hX];rfl,by rw[corQ _ _ 1 _ _ _ hX];rfl⟩
 · refine h.zhK (fun x hx a1 a2=>hblk x (h.sub x hx) a1) hLB ?_ (fun g hg=>hT g (h.hr g (by rw[←ho];exact hg))) hT (fun x hx=>?_)
   · exact yo (zf8 hrow) (fun g cur hc hgo=>hblk g (lt_of_some hc) (fun e=>(n7 g (by rw[←ho];exact hgo)).1 e))
   · rcases hx with hx | hx
     · have:=h.sub x hx;omega
     · omega
 · have hr:=hw.row
   rw[LlaQ,List.length_singleton,List.flatMap_append,←hn] at hr
   have h9:=zf9 hr (by rw[zfL,hn])
   rw[←hn]
   exact yo h9 (fun g cur hc hgo=>hblk g (lt_of_some hc) (yD hc h.later ue0))
 · have:=hw.own g (by rw[←how];exact hg)
   exact⟨Or.inl this.1,by rw[ho];exact this.2⟩
 · have ht:za wr w1 T:=by
    refine⟨h12.1,h12.2.1,h12.2.2,by omega,fun x hx hn=>hblk x hx (fun e=>hn (e▸h.hl))⟩
   rw[List.reverse_append,List.reverse_singleton,List.singleton_append] at hJ
   exact hB.turn hJ ht (fun x hx=>hx.imp id (fun e=>⟨by omega,by omega⟩))
theorem zg3 {T2 T3:Nat→Prop}{w1 w5 w6:World}{la wa:Option Addr}{lc n wc:Nat}{lv3:Value}{Ls A' :List Seg}{top:Seg}{lf bl:Bool}(hB:Body P m l J Jx)(h:Its T2 w1 l LB YB FB DB (.slice la 0 lc) [] false)(hw:JW T2 w1 (.slice la 0 lc) (.slice wa n wc) Ls)
 (g1:Zk T2 T3 w1 w5 LB FB (.slice la 0 lc) lv3) (g2:Its T3 w5 l LB YB FB DB lv3 A' lf) (g3:Qj J Jx M 100 top Ls.reverse A' T3 bl lf w5) (hr:zjD lv3 A' w5 (.returned (.tuple #[])) w6) (hok:∀s∈Ls,Qm M s∧s.f≠ .nil) (hz:zh top.f+yU Ls≤500000):
 Its T3 w6 l LB YB FB DB lv3 A'.reverse lf∧JW T3 w6 lv3 (.slice wa n wc) Ls∧A'.length≤500000∧
  ((lf=false∧J T3 (A'++Ls.reverse) w6∧(∀s∈Ls++A'.reverse,Qm M s∧s.f≠ .nil)∧yU (Ls++A'.reverse)<zh top.f+yU Ls∨(lf=false∧A'= []∧J T3 Ls.reverse w6))∨(lf=true∧Jx T3 w6)):=by
 obtain⟨_,r1,r2⟩:=hr
 have hsz:=r2.size
 have hown:∀x,lv3.ownBlock=some x→T3 x:=g2.hr
 have hbl:∀x,T3 x→lv3.ownBlock≠some x→w6.heap[x]? =w5.heap[x]?:=fun x hx hn=>r2.block x (g2.sub x hx) hn
 have ht:za w5 w6 T3:=⟨r2.os,r2.tape,r2.output,r2.size,fun x hx hn=>r2.block x hx (fun e=>hn (hown x e))⟩
 have hI:Its T3 w6 l LB YB FB DB lv3 A'.reverse lf:=g2.zhK (fun x hx _ a2=>hbl x hx a2) ((hbl LB g2.hl (fun e=>(g2.zer.2.2.2.2.2.2 _ e).1 rfl)).trans g2.later) (by rw[List.length_reverse];exact r1) hown (fun x hx=>hx) (fun x hx=>by have:=g2.sub x hx;omega)
 have hne:∀g,(Value.slice wa n wc).ownBlock=some g→lv3.ownBlock≠some g:=fun g hg e=>by
  rcases g1.row with h1 | h1
  · rw[h1] at e;exact (hw.own g hg).2 e
  · have:=h1 g e;have:=h.sub g (hw.own g hg).1;omega
 refine⟨hI,⟨yo hw.row (fun g cur hc hgo=>?_),fun g hg=>⟨g1.wide g (hw.own g hg).1,hne g hg⟩⟩,?_,?_⟩
 · have ha:=hw.own g hgo
   have hcl:=yD hc h.later ue0
   have hcf:=yD hc h.flag ue0
   exact (hbl g (g1.wide g ha.1) (hne g hgo)).trans (g1.same g ha.1 hcl hcf ha.2)
 · rcases g3 with ⟨_,_,rfl,_⟩ | ⟨_,h1,_⟩
   · simp
   · omega
 · rcases g3 with ⟨_,rfl,rfl,hJ⟩ | ⟨_,h1,(⟨rfl,hJ,h2,h3,h4⟩ | ⟨rfl,hJ⟩)⟩
   · exact Or.inl (Or.inr ⟨rfl,rfl,hB.turn hJ ht (fun x hx=>Or.inl hx)⟩)
   · refine Or.inl (Or.inl ⟨rfl,hB.turn hJ ht (fun x hx=>Or.inl hx),fun s hs=>?_,?_⟩)
     · rcases List.mem_append.1 hs with hs | hs
       · exact hok s hs
       · exact h2 s (List.mem_reverse.1 hs)
     · rw[vz,JZ];have:=h4 om1;omega
   · exact Or.inr ⟨rfl,hB.zft hJ ht (fun x hx=>Or.inl hx)⟩
theorem zg2 {T3:Nat→Prop}{w6 w7:World}{lv3 wv wv' :Value}{Ls A' :List Seg}{top:Seg}{lf:Bool}(hB:Body P m l J Jx)(h:Its T3 w6 l LB YB FB DB lv3 A'.reverse lf)(hw:JW T3 w6 lv3 wv Ls)
 (hd:(lf=false∧J T3 (A'++Ls.reverse) w6∧(∀s∈Ls++A'.reverse,Qm M s∧s.f≠ .nil)∧yU (Ls++A'.reverse)<zh top.f+yU Ls∨(lf=false∧A'= []∧J T3 Ls.reverse w6))∨(lf=true∧Jx T3 w6)) (hok:∀s∈Ls,Qm M s∧s.f≠ .nil) (htop:0<zh top.f) (hz:zh top.f+yU Ls≤500000)
 (ho:w7.ownsRow 0 175 2 wv' (Ls.length+A'.length) (Ls.flatMap Seg.cells++A'.reverse.flatMap Seg.cells)) (hg:w6.grownBy w7 wv.ownBlock) (hat:wv'.ownBlock=wv.ownBlock∨wv'.ownBlock=some w6.heap.size):
 ∃gk,gk<zh top.f+yU Ls+1∧zjs J Jx M l LB YB FB DB gk wv' w7:=by
 have hs:=hg.size
 have hT:∀x,T3 x→(T3 x∨(w6.heap.size≤x∧x<w7.heap.size)):=fun x hx=>Or.inl hx
 have hsub:∀x,(T3 x∨(w6.heap.size≤x∧x<w7.heap.size))→x<w7.heap.size:=fun x hx=>by
  rcases hx with hx | hx
  · have:=h.sub x hx;omega
  · exact hx.2
 have hwT:∀x,T3 x→some x≠wv.ownBlock→w7.heap[x]? =w6.heap[x]?:=fun x hx hn=>hg.block x (h.sub x hx) hn
 have ht:za w6 w7 T3:=⟨hg.os,hg.tape,hg.output,hg.size,fun x hx hn=>hg.block x hx (fun e=>hn (hw.own x e.symm).1)⟩
 have hne:∀{cs:Array Value} {t:TypeId} {x:Nat},w6.heap[x]? =some (.cells cs t (0,0))→t≠175→some x≠wv.ownBlock:=fun hc htt e=>by
  obtain⟨cur,hcur⟩:=zbv hw.row e.symm
  exact yD hc hcur htt rfl
 have hI:Its (fun x=>T3 x∨(w6.heap.size≤x∧x<w7.heap.size)) w7 l LB YB FB DB lv3 A'.reverse lf:=by
  refine⟨(hwT _ h.hl (hne h.later ue0)).trans h.later,yo h.row (fun g cur hc hgo=>hwT g (h.hr g hgo) (fun e=>(hw.own g e.symm).2 hgo)),(hwT _ h.hy (hne h.yld ue0)).trans h.yld,(hwT _ h.hf (hne h.flag ue0)).trans h.flag,(hwT _ h.hd (hne h.down ue0)).trans h.down,hT _ h.hl,hT _ h.hy,hT _ h.hf,hT _ h.hd,fun g hg=>hT g (h.hr g hg),hsub⟩
 have hW:JW (fun x=>T3 x∨(w6.heap.size≤x∧x<w7.heap.size)) w7 lv3 wv' (Ls++A'.reverse):=by
  refine⟨by rw[LlaQ,List.length_reverse,List.flatMap_append];exact ho,fun g hg'=>?_⟩
  rcases hat with e | e
  · rw[e] at hg'
    exact⟨Or.inl (hw.own g hg').1,(hw.own g hg').2⟩
  · have hb:=zY ho hg'
    rw[e] at hg'
    cases hg'
    exact⟨Or.inr ⟨NlrQ _,hb.2⟩,fun e2=>by have:=h.sub _ (h.hr _ e2);omega⟩
 rcases hd with (⟨rfl,hJ,h1,h2⟩ | ⟨rfl,rfl,hJ⟩) | ⟨rfl,hJ⟩
 · refine⟨yU (Ls++A'.reverse)+1,by omega,_,lv3,_,Ls++A'.reverse,false,hI,hW,Or.inl ⟨rfl,?_,h1,by omega,rfl⟩⟩
   rw[List.reverse_append,List.reverse_reverse]
   exact hB.turn hJ ht (fun x hx=>hx)
 · refine⟨yU (Ls++[].reverse)+1,?_,_,lv3,_,Ls++[].reverse,false,hI,hW,Or.inl ⟨rfl,?_,?_,?_,rfl⟩⟩
   · simp;omega
   · simp;exact hB.turn hJ ht (fun x hx=>hx)
   · simpa using hok
   · simp;omega
 · exact⟨0,by omega,_,lv3,_,Ls++A'.reverse,true,hI,hW,Or.inr ⟨rfl,hB.zft hJ ht (fun x hx=>hx),rfl⟩⟩
end
theorem cells_one (L:List Seg):∀u∈L.flatMap Seg.cells,u.oneCell'=true:=fun u hu=>by
 obtain⟨s,_,hs⟩:=List.mem_flatMap.1 hu
 simp only[Seg.cells,Seg.v,List.mem_cons,List.not_mem_nil,or_false] at hs
 rcases hs with rfl | rfl<;>rfl
theorem zef {P:Program}{m l:Nat}{J:(Nat→Prop)→List Seg→World→Prop}{Jx:(Nat→Prop)→World→Prop}(hB:Body P m l J Jx)(W:World)(s:Seg)(hd:s.d=1)(hne:s.f≠ .nil)(hcap:foLen s.f≤s.cap)(hsz:zh s.f≤500000)(hJ:J (fun _=>False) [s] W):
 zjs J Jx 1000000000 l (W.heap.size+1+1+1) W.heap.size (W.heap.size+1) (W.heap.size+1+1+1+1) (yU [s]+1) (.slice (some ⟨W.heap.size+1+1,0,none⟩) 1 1)
  (((((W.alloc (.cells #[.func (.yield l) #[] #[]] 173)).alloc (.cells #[.bool false] 4)).alloc (.cells #[.int .i64 1,s.v] 175)).alloc (.cells #[.slice none 0 0] 176)).alloc
    (.cells #[.func (.func 132) #[] #[.pointer (some ⟨W.heap.size+1+1+1,0,none⟩),.pointer (some ⟨W.heap.size,0,none⟩),.pointer (some ⟨W.heap.size+1,0,none⟩),.pointer (some ⟨W.heap.size+1+1+1+1,0,none⟩)]] 177)):=by
 obtain⟨A1,hA1⟩:∃A1,A1=W.alloc (.cells #[.func (.yield l) #[] #[]] 173):=⟨_,rfl⟩
 rw[←hA1]
 obtain⟨A2,hA2⟩:∃A2,A2=A1.alloc (.cells #[.bool false] 4):=⟨_,rfl⟩
 rw[←hA2]
 obtain⟨A3,hA3⟩:∃A3,A3=A2.alloc (.cells #[.int .i64 1,s.v] 175):=⟨_,rfl⟩
 rw[←hA3]
 obtain⟨A4,hA4⟩:∃A4,A4=A3.alloc (.cells #[.slice none 0 0] 176):=⟨_,rfl⟩
 rw[←hA4]
 obtain⟨o5,ho5⟩:∃o5,o5=(Obj.cells #[.func (.func 132) #[] #[.pointer (some ⟨W.heap.size+1+1+1,0,none⟩),.pointer (some ⟨W.heap.size,0,none⟩),.pointer (some ⟨W.heap.size+1,0,none⟩),.pointer (some ⟨W.heap.size+1+1+1+1,0,none⟩)]] 177):=⟨_,rfl⟩
 rw[←ho5]
 have s1:A1.heap.size=W.heap.size+1:=by rw[hA1,WsaQ]
 have s2:A2.heap.size=W.heap.size+1+1:=by rw[hA2,WsaQ,s1]
 have s3:A3.heap.size=W.heap.size+1+1+1:=by rw[hA3,WsaQ,s2]
 have s4:A4.heap.size=W.heap.size+1+1+1+1:=by rw[hA4,WsaQ,s3]
 have s5:(A4.alloc o5).heap.size=W.heap.size+5:=by rw[WsaQ,s4]
 have k5:∀x,x<A4.heap.size→(A4.alloc o5).heap[x]? =A4.heap[x]?:=fun x hx=>BhaQ _ _ _ hx
 have k4:∀x,x<A3.heap.size→A4.heap[x]? =A3.heap[x]?:=fun x hx=>by rw[hA4];exact BhaQ _ _ _ hx
 have k3:∀x,x<A2.heap.size→A3.heap[x]? =A2.heap[x]?:=fun x hx=>by rw[hA3];exact BhaQ _ _ _ hx
 have k2:∀x,x<A1.heap.size→A2.heap[x]? =A1.heap[x]?:=fun x hx=>by rw[hA2];exact BhaQ _ _ _ hx
 have k1:∀x,x<W.heap.size→A1.heap[x]? =W.heap[x]?:=fun x hx=>by rw[hA1];exact BhaQ _ _ _ hx
 have e1:(A4.alloc o5).heap[W.heap.size]? =some (.cells #[.func (.yield l) #[] #[]] 173 (0,0)):=by
  rw[k5 _ om1,k4 _ om1,k3 _ om1,k2 _ om1,hA1];exact hanQ W _
 have e2:(A4.alloc o5).heap[W.heap.size+1]? =some (.cells #[.bool false] 4 (0,0)):=by
  rw[k5 _ om1,k4 _ om1,k3 _ om1,hA2,←s1];exact hanQ A1 _
 have e3:(A4.alloc o5).heap[W.heap.size+1+1]? =some (.cells #[.int .i64 1,s.v] 175 (0,0)):=by
  rw[k5 _ om1,k4 _ om1,hA3,←s2];exact hanQ A2 _
 have e4:(A4.alloc o5).heap[W.heap.size+1+1+1]? =some (.cells #[.slice none 0 0] 176 (0,0)):=by
  rw[k5 _ om1,hA4,←s3];exact hanQ A3 _
 have e5:(A4.alloc o5).heap[W.heap.size+1+1+1+1]? =some o5:=by rw[←s4];exact World.alloc_heap_new A4 _
 rw[ho5] at e5
 refine⟨fun x=>W.heap.size≤x∧x<W.heap.size+5,.slice none 0 0,[],[s],false,⟨e4,World.ownsRow_nil _ _ _ _,e1,e2,by rw[ho5] at*;exact e5,by omega,by omega,by omega,by omega,fun g hg=>(by cases hg),fun x hx=>by omega⟩,⟨?_,fun g hg=>?_⟩,Or.inl ⟨rfl,?_,fun x hx=>?_,?_,rfl⟩⟩
 · refine⟨by simp[Seg.cells],Or.inr ⟨_,1,_,rfl,by omega,e3,by simp,by unfold maxLen;omega,by simp,by simp[Seg.cells,hd]⟩⟩
 · obtain rfl:W.heap.size+1+1=g:=by simpa [Value.ownBlock] using hg
   exact⟨⟨by omega,by omega⟩,fun e=>by cases e⟩
 · refine hB.turn hJ ⟨?_,?_,?_,by omega,fun x hx _=>by rw[k5 _ om1,k4 _ om1,k3 _ om1,k2 _ om1,k1 _ hx]⟩ (fun x hx=>Or.inr ⟨hx.1,by omega⟩)
   · rw[hA4,hA3,hA2,hA1];rfl
   · rw[hA4,hA3,hA2,hA1];rfl
   · rw[hA4,hA3,hA2,hA1];rfl
 · rw[List.mem_singleton] at hx
   subst hx
   exact⟨⟨by omega,hcap⟩,hne⟩
 · rw[qM,jd];omega
theorem zg1 {m l:Nat}{J:(Nat→Prop)→List Seg→World→Prop}{Jx:(Nat→Prop)→World→Prop}(hB:Body Tryz.prog m l J Jx)(W:World)(NB:Nat)(s:Seg)(hd:s.d=1)(hne:s.f≠ .nil)(hcap:foLen s.f≤s.cap)(hsz:zh s.f≤500000)(hNB:W.cell? ⟨NB,0,none⟩=some s.v)(hJ:J (fun _=>False) [s] W):
 Calls Tryz.prog 131 #[.func (.yield l) #[] #[],.pointer (some ⟨NB,0,none⟩)] W (zjr J Jx):=by
 obtain⟨sd,sa,sc,sf⟩:=s
 simp only at hd
 subst hd
 obtain⟨n,hn⟩:∃n,n=foLen sf:=⟨_,rfl⟩
 simp only[Seg.v] at hNB
 rw[←hn] at hNB
 have HN:=hH hn
 have HP:=hH (aN hne (aN hcap (aN hsz hJ)))
 have hNl:=World.block_lt_of_cell? _ _ hNB
 clear hne hcap hsz hJ hn
 obtain⟨i0,z0,hi0,hz0,hz1,hz2,hz3⟩:=jk Tryz.zhc
 have HI:=hH (aN hi0 (aN hz0 (aN hz1 (aN hz2 hz3))))
 clear hi0 hz0 hz1 hz2 hz3
 have hst:=zef hB W ⟨1,sa,sc,sf⟩ rfl HP.out.1 HP.out.2.1 HP.out.2.2.1 HP.out.2.2.2
 simp only[Seg.v] at hst
 rw[←HN.out] at hst
 have HS:=hH hst
 clear hst
 go_enter Tryz.func131,Tryz.ntmps131
 go_wp2_with fail
 go_loopg [4] (yU [Seg.mk 1 sa sc sf]+1) (fun gk s4 wr=>Hid (zjs J Jx 1000000000 l (W.heap.size+1+1+1) W.heap.size (W.heap.size+1) (W.heap.size+1+1+1+1) gk s4 wr))
 case atStart=>exact HS
 case round =>
  obtain⟨FB,hFB⟩:∃FB,FB=W.heap.size+1:=⟨_,rfl⟩
  obtain⟨LB,hLB⟩:∃LB,LB=W.heap.size+1+1+1:=⟨_,rfl⟩
  obtain⟨DB,hDB⟩:∃DB,DB=W.heap.size+1+1+1+1:=⟨_,rfl⟩
  rw[←hDB,←hLB,←hFB] at hrel ⊢
  obtain⟨YB,hYB⟩:∃YB,YB=W.heap.size:=⟨_,rfl⟩
  rw[←hYB] at hrel ⊢
  have HEQ:=hH (aN hFB (aN hLB (aN hDB hYB)))
  clear hFB hLB hDB hYB HS
  obtain⟨T,lv,L,Lw,lf,q1,q2,q3⟩:=hrel.out
  obtain⟨wa,wc,hwv⟩:=yE q2.row
  obtain⟨la,lc,hlv⟩:=yE q1.row
  subst hlv
  have fl:=q1.flag
  have f0:wr.cell? ⟨FB,0,none⟩=some (.bool lf):=by rw[corQ _ _ 0 _ _ _ fl];rfl
  rcases q3 with ⟨rfl,q4,q5,q6,q7⟩ | ⟨rfl,q4,q5⟩
  · rcases zdk Lw with rfl | ⟨Ls,top,rfl⟩
    · subst hwv
      have HE:Hid (zjr J Jx (.returned (.tuple #[])) wr):=hH ⟨⟨_,rfl⟩,Or.inl ⟨T,q4⟩⟩
      clear q1 q2 q4 q5 q6 q7 fl hrel
      simp only[List.length_nil]
      go_wp2_with fail
      go_end0
      exact HE.out
    · obtain⟨n',hn'⟩:∃n',n'=Ls.length:=⟨_,rfl⟩
      have hwv2:u4= .slice wa (n'+1) wc:=by rw[hwv,hn'];simp
      subst hwv2
      clear hwv
      obtain⟨ln,hln⟩:∃ln,ln=L.length:=⟨_,rfl⟩
      rw[←hln] at q1 q2
      have hw0:=q2.row
      rw[LlaQ,List.length_singleton,←hn'] at hw0
      obtain⟨g,cap2,e,_⟩:=hw0.form om1
      cases e
      have htc:=Qo (Ls++[top]) n' top (by rw[List.getElem?_append_right om1];simp[hn'])
      have t0:wr.cell? ⟨g,n'*2,none⟩=some (.int .i64 (top.d:Int)):=yH hw0 rfl _ _ htc.1
      have t1:wr.cell? ⟨g,n'*2+1,none⟩=some (.slice top.a (foLen top.f) top.cap):=yH hw0 rfl _ _ htc.2
      have htake:=fun w1 hw1 hw2=>zfS (w1:=w1) hB q1 q2 q4 hn' hw1 hw2
      have hb6:n'+1≤500000:=by
       have:=zba (Ls++[top]) (fun s hs=>(q5 s hs).2)
       rw[LlaQ,List.length_singleton] at this;omega
      have hcap' :n'+1≤wc:=by
       rcases hw0.2 with ⟨hv,_⟩ | ⟨_,_,_,hv,_,_,h3,_⟩
       · cases hv
       · cases hv;exact h3
      have c0:wr.cell? ⟨LB,0,none⟩=some (.slice la ln lc):=by rw[corQ _ _ 0 _ _ _ q1.later];rfl
      have c1:wr.frozen? ⟨LB,0,none⟩=false:=forQ _ _ 0 _ _ q1.later
      have hLl:=lohQ q1.later
      have HT:=hH (aN htake (aN q5 (aN q6 (aN q7 hn'))))
      have hlla:la=none→ln=0:=fun e=>by
       have:=q1.row
       rw[e] at this
       rcases this.2 with ⟨hv,h0⟩ | ⟨_,_,_,hv,_⟩
       · cases hv;rfl
       · cases hv
      clear htake q1 q2 q4 q5 q6 q7 hw0 htc fl hrel hn' hln
      go_wp2_with fail
      have c0a:(wr.alloc (.cells #[.int .i64 (top.d:Int),.slice top.a (foLen top.f) top.cap] 175)).cell? ⟨LB,0,none⟩=some (.slice la ln lc):=(World.cell?_of_block (BhaQ wr _ LB hLl)).trans c0
      have c1a:(wr.alloc (.cells #[.int .i64 (top.d:Int),.slice top.a (foLen top.f) top.cap] 175)).frozen? ⟨LB,0,none⟩=false:=(World.frozen?_of_block (BhaQ wr _ LB hLl)).trans c1
      have hn0:(0:Int)≤(n' :Int):=by omega
      have hnw:(n' :Int)≤(wc:Int):=by omega
      go_region_law (fail)
      all_goals
       obtain⟨w1,hw1⟩:∃w1,w1=((wr.setCell ⟨LB,0,none⟩ (.slice la 0 lc)).alloc (.cells #[.int .i64 (top.d:Int),.slice top.a (foLen top.f) top.cap] 175)).drew:=⟨_,rfl⟩
       obtain⟨T2,r1,r2,r3,r4,r5⟩:=HT.out.1 w1 (by rw[hw1];rfl) ⟨by rw[hw1];rfl,by rw[hw1];rfl,by rw[hw1];rfl⟩
       rw[←hw1]
       clear hw1 c0a c1a c0 c1 t0 t1 f0 hn0 hnw
       have d0:w1.cell? ⟨DB,0,none⟩=some (.func (.func 132) #[] #[.pointer (some ⟨LB,0,none⟩),.pointer (some ⟨YB,0,none⟩),.pointer (some ⟨FB,0,none⟩),.pointer (some ⟨DB,0,none⟩)]):=by rw[corQ _ _ 0 _ _ _ r1.down];rfl
       simp only[Seg.v] at r5
       have hag:=HT.out.2.2.1
       rw[vz,qM,jd] at hag
       have hcall:=zcP hB 1000000000 LB YB FB DB (NlrQ _) 100 om1 T2 w1 top Ls.reverse [] (.slice la 0 lc) r1 r3 (HT.out.2.1 top sp).1 (by simp only[List.length_nil];omega)
       simp only[Seg.v] at hcall
       have HC:=hH hcall
       have HR:=hH (aN r1 (aN r2 hag))
       clear hcall r1 r2 r3 hag
       go_wp2_with fail
       refine HC.out.mono ?_
       rintro e w5 ⟨bl,lf,T3,lv3,A',rfl,g1,g2,g3⟩
       rw[List.nil_append] at g2
       clear HC d0 r4 r5
       obtain⟨la3,lc3,hlv3⟩:=yE g2.row
       obtain⟨l3,hl3⟩:∃l3,l3=A'.length:=⟨_,rfl⟩
       rw[←hl3] at hlv3
       subst hlv3
       have hl36:l3≤500000:=by
        rw[hl3]
        rcases g3 with ⟨_,_,rfl,_⟩ | ⟨_,h1,_⟩
        · simp
        · have:=HR.out.2.2;omega
       have g2r:=g2.row
       rw[←hl3] at g2r
       have hrev:=zdw w5 la3 l3 lc3 A' hl3 om1 g2r
       have c0:w5.cell? ⟨LB,0,none⟩=some (.slice la3 l3 lc3):=by rw[corQ _ _ 0 _ _ _ g2.later];rfl
       have HC:=hH hrev
       have HG:=hH (aN g1 (aN g2 (aN g3 hl3)))
       clear hrev g1 g2 g3 g2r hl3
       go_wp2_with fail
       refine HC.out.mono ?_
       rintro e w6 hr
       obtain rfl:=hr.1
       obtain⟨p1,p2,p3,p4⟩:=zg3 hB HR.out.1 HR.out.2.1 HG.out.1 HG.out.2.1 HG.out.2.2.1 hr (fun s hs=>HT.out.2.1 s (List.mem_append_left _ hs)) (by have:=HR.out.2.2;omega)
       have c0' :w6.cell? ⟨LB,0,none⟩=some (.slice la3 l3 lc3):=by rw[corQ _ _ 0 _ _ _ p1.later];rfl
       have hwrow:=p2.row
       have hlrow:=p1.row
       rw[List.length_reverse,←HG.out.2.2.2] at hlrow
       rw[←HT.out.2.2.2.2] at hwrow
       have hend:=fun (w7:World) (wv' :Value)=>zg2 (w7:=w7) (wv':=wv') hB p1 p2 p4 (fun s hs=>HT.out.2.1 s (List.mem_append_left _ hs)) (zah (HT.out.2.1 top sp).2) (by have:=HR.out.2.2;omega)
       have HE:=hH (aN hend (aN hwrow hlrow))
       clear hend hwrow hlrow p1 p2 p3 p4 hr HC c0
       cases la3 with
       | none=>
         have hl0:l3=0:=by
          rcases HE.out.2.2.2 with ⟨hv,h0⟩ | ⟨_,_,_,hv,_⟩
          · exact h0
          · cases hv
         subst hl0
         go_wp2_with (at_builtin;refine Qg _ rfl (.tmp 37) (.tmp 38) _ rfl 0 175 i0 2 Tryz.underlying176 HI.out.1 (.slice (some ⟨g,0,none⟩) n' wc) n' _ rfl HE.out.2.1 lc3 rfl ?_)
         have hA:=HG.out.2.2.2
         have hA0:A'= []:=List.eq_nil_of_length_eq_zero hA.symm
         have ho:=HE.out.2.1
         obtain⟨gk',hlt,hinv⟩:=HE.out.1 w6 (.slice (some ⟨g,0,none⟩) n' wc) (by rw[hA0,←HT.out.2.2.2.2];simpa using ho) (World.grownBy.refl _ _) (Or.inl rfl)
         exact sf4
       | some ad=>
         obtain⟨ab,rfl⟩:∃ab,ad=⟨ab,0,none⟩:=by
          rcases HE.out.2.2.2 with ⟨hv,h0⟩ | ⟨_,_,_,hv,_⟩
          · cases hv
          · cases hv;exact⟨_,rfl⟩
         go_wp2_with (at_builtin;refine wpList_append_own_at _ rfl (.tmp 37) (.tmp 38) _ rfl 0 175 i0 z0 2 32 Tryz.underlying176 HI.out.1 HI.out.2.1 HI.out.2.2.1 HI.out.2.2.2.1 HI.out.2.2.2.2 om1 (.slice (some ⟨g,0,none⟩) n' wc) n' _ rfl HE.out.2.1 ⟨ab,0,none⟩ l3 lc3 _ rfl HE.out.2.2.1 (HE.out.2.2.cells rfl) (cells_one _) ud1 om1 sp ?_;intro v' w7 hown7 hgrow _ hat)
         obtain⟨gk',hlt,hinv⟩:=HE.out.1 w7 v' (by rw[←HG.out.2.2.2,←HT.out.2.2.2.2];exact hown7) hgrow hat
         exact sf4
  · have HE:Hid (zjr J Jx (.returned (.tuple #[])) wr):=hH ⟨⟨_,rfl⟩,Or.inr ⟨T,q4⟩⟩
    obtain⟨nw,hnw⟩:∃nw,nw=Lw.length:=⟨_,rfl⟩
    rw[←hnw] at hwv
    subst hwv
    clear q1 q2 q4 q5 fl hrel hnw
    by_cases h0:0<nw
    · have h0i:(0:Int)<(nw:Int):=by omega
      go_wp2_with fail
      go_end0
      exact HE.out
    · obtain rfl:nw=0:=by omega
      go_wp2_with fail
      go_end0
      exact HE.out
end Go.Proofs.YtoidedomenkbpaaGreat
namespace Go.Proofs.YtoidedomenkbpaaGreat
open Go.RowKit
def Book (B:Nat)(r:Loop)(W:World):Prop:=W.heap[B+1]? =some (.loop r)∧W.heap[B]? =some (.deferred (some []))
theorem Book.put {B:Nat}{r r' :Loop}{W:World}(h:Book B r W):Book B r' (W.putObj (B+1) (.loop r')):=
 ⟨World.putObj_heap_same (Array.getElem?_eq_some_iff.1 h.1).1,(WphQ om1).trans h.2⟩
theorem Book.kept {B:Nat}{r:Loop}{W V:World}(h:Book B r W)(hk:KeepsFrom B W V):Book B r V:=⟨hk.same _ _ om1 h.1 rfl,hk.same _ _ (NlrQ _) h.2 rfl⟩
theorem Book.touched {B:Nat}{r:Loop}{W V:World}{T:Nat→Prop}(h:Book B r W)(ht:za W V T)(hT:∀x,T x→B+2≤x):Book B r V:=
 ⟨(ht.block _ (lohQ h.1) (fun e=>by have:=hT _ e;omega)).trans h.1,(ht.block _ (lohQ h.2) (fun e=>by have:=hT _ e;omega)).trans h.2⟩
def Za (V:World)(x:Nat):Prop:=∃o,V.heap[x]? =some o∧o.isCells=false
def zkJ (B:Nat)(T:Nat→Prop)(I:(Nat→Prop)→List Seg→World→Prop)(Ix:Code→(Nat→Prop)→World→Prop)(d c b off:Nat)(k r:Fo)(A:List Seg)(W:World)(e:Exit)(_:Act)(V:World):Prop:=
 KeepsFrom B W V∧Kept T W V∧((e= .normal∧∃ka kc,V.cell? ⟨b,off+3,none⟩=some (.slice ka (foLen k) kc)∧foLen k≤kc∧I T (⟨d+1,ka,kc,k⟩::⟨d,some ⟨b,off+4,none⟩,c - 1,r⟩::A) V)∨(e= .ret∧Ix .ret T V)∨∃id,e= .exit id∧Ix (.exit id) T V)
theorem jv {V:World}{l:Nat}{o:Obj}(o' :Obj)(hl:V.heap[l]? =some o):za V (V.putObj l o') (fun x=>x=l):=
 ⟨rfl,rfl,rfl,by simp[World.putObj],fun x _ hn=>WphQ hn⟩
theorem za.mono {w w' :World}{S S' :Nat→Prop}(h:za w w' S)(hS:∀x,S x→S' x):za w w' S':=⟨h.os,h.tape,h.output,h.size,fun x hx hn=>h.block x hx (fun hs=>hn (hS x hs))⟩
theorem zdf {T:Nat→Prop}{V:World}{l:Nat}(o' :Obj)(hT:¬T l):Kept T V (V.putObj l o'):=⟨by simp[World.putObj],fun x hx=>WphQ (fun e=>hT (e▸hx))⟩
theorem zeC {n:Nat}{g:Operand}{ps:Array Tmp}{assign body:Code}{Q:Exit→Act→World→Prop}{a:Act}{w:World}(h1:1≤n){NB:Nat}(hg:a.eval g= .func (.func 131) #[] #[.pointer (some ⟨NB,0,none⟩)])
 (s:Seg) (hd:s.d=1) (hne:s.f≠ .nil) (hcap:foLen s.f≤s.cap) (hsz:zh s.f≤500000) (hNB:w.cell? ⟨NB,0,none⟩=some s.v) (hps:ps.size=2)
 (I:(Nat→Prop)→List Seg→World→Prop) (Ix:Code→(Nat→Prop)→World→Prop)
 (hI:∀{T T' :Nat→Prop} {A:List Seg} {V V' :World},I T A V→za V V' (fun x=>T x∨(w.heap.size≤x∧Za V x))→Qn T T' V V'→I T' A V')
 (hIx:∀{c:Code} {T T' :Nat→Prop} {V V' :World},Ix c T V→za V V' (fun x=>T x∨(w.heap.size≤x∧Za V x))→Qn T T' V V'→Ix c T' V')
 (hIe:∀{T:Nat→Prop} {A B:List Seg} {d c:Nat} {a:Option Addr} {V:World},I T (A++⟨d,a,c,.nil⟩::B) V→I T (A++B) V)
 (h0:I (fun _=>False) [s] w)
 (hround:∀(l:Nat),l=w.heap.size+1→∀(T:Nat→Prop) (d c bo oo:Nat) (ad:Option Addr) (key:Int×Int×ByteArray) (k r:Fo) (A:List Seg) (V:World),(∀x,T x→x<V.heap.size∧w.heap.size+2≤x)→w.heap.size+2≤V.heap.size→I T (⟨d,ad,c,.node bo oo key k r⟩::A) V→
   ∃ b off,ad=some ⟨b,off,none⟩∧∀(K:Act→World→Prop),(∀a₁,(∀V',(∃o',V'=V.putObj l o'∧∃o,V.heap[l]? =some o∧o.isCells=false)→body.wpIn (Fence.wide.inRound l) (n - 1 - 1) Tryz.prog (zkJ w.heap.size T I Ix d c b off k r A V') a₁ V')→K a₁ V)→
    assign.wpIn (Fence.wide.inRound l) (n - 1 - 1) Tryz.prog (Exit.then K (fun _ _ _=>False)) { tmps:=(ps.zip #[.int .i64 (d:Int),.pointer (some ⟨b,off,none⟩)]).foldl (fun t (p,v)=>t.setIfInBounds p v) a.tmps,defers:=[] } V)
 (hdone:∀(D:Nat) (T:Nat→Prop) (V:World),w.heap.size≤D→I T [] V→V.heap[D]? =some (.deferred (some []))→Q .normal { a with defers:={ target:= .collected D,args:= #[] }::a.defers } V)
 (hstop:∀(D:Nat) (c:Code) (T:Nat→Prop) (V:World),w.heap.size≤D→Ix c T V→V.heap[D]? =some (.deferred (some []))→c.wpIn Fence.wide n Tryz.prog Q { a with defers:={ target:= .collected D,args:= #[] }::a.defers } V):
 (Code.rangeFunc g ps assign body).wpIn Fence.wide n Tryz.prog Q a w:=by
 obtain⟨B,hB⟩:∃B,w.heap.size=B:=⟨_,rfl⟩
 simp only[hB] at hI hIx hround hdone hstop
 refine wpIn_rangeFunc fun fn hfn=>?_
 obtain⟨rec,hrec⟩:∃rec:LoopState→Option Code→Loop,rec=fun st pe=>{ state:=st,pending:=pe,fn,tmps:=a.tmps,params:=ps,assign,body,defers:=B }:=⟨_,rfl⟩
 obtain⟨W1,hW1⟩:∃W1,W1=(w.alloc (.deferred (some []))).alloc (.loop (rec .ready none)):=⟨_,rfl⟩
 have hsz1:W1.heap.size=B+2:=by rw[hW1];simp[hB]
 have hblk:∀x,x<B→W1.heap[x]? =w.heap[x]?:=fun x hx=>by rw[hW1,BhaQ _ _ _ ud8,BhaQ _ _ _ om1]
 have hbk:Book B (rec .ready none) W1:=by
  exact se6
 have hb1:za w W1 (fun _=>False):=by rw[hW1];exact ((za.refl w _).alloc _).alloc _
 have hI1:I (fun _=>False) [s] W1:=hI h0 (hb1.mono (fun _ h=>h.elim)) (fun x hx=>Or.inl hx)
 have hNBl:=World.block_lt_of_cell? _ _ hNB
 have hNB1:W1.cell? ⟨NB,0,none⟩=some s.v:=(World.cell?_of_block (hblk NB (by simp only at hNBl;omega))).trans hNB
 refine⟨B+1,[{ target:= .collected B,args:= #[] }],W1,{ target:= .fn (.func 131) #[.pointer (some ⟨NB,0,none⟩)],args:= #[.func (.yield (B+1)) #[] #[]] },W1,131, #[.func (.yield (B+1)) #[] #[]]++ #[.pointer (some ⟨NB,0,none⟩)],W1,?_,?_,?_,?_,fun _=>h1,?_⟩
 · rw[hW1,hrec,←hB];exact run_enterLoop_outer _ _ _ _ _
 · simp only[resolve,hg]
   simp[go_sem]
 · intro f' hf';simp[Target.leads] at hf';subst hf';exact trivial
 · simp[invoke,go_sem]
 · obtain ⟨J,hJ⟩:∃J:(Nat→Prop)→List Seg→World→Prop,J=fun T A V=>I T A V∧Book B (rec .ready none) V∧∀x,T x→B+2≤x:=⟨_,rfl⟩
   obtain⟨Jx,hJx⟩:∃Jx:(Nat→Prop)→World→Prop,Jx=fun T V=>∃c,Ix c T V∧Book B (rec .done (some c)) V∧∀x,T x→B+2≤x:=⟨_,rfl⟩
   have hbody:Body Tryz.prog (n - 1 - 1) (B+1) J Jx:=by
    subst hJ hJx
    refine⟨?_,?_,?_,?_⟩
    · rintro T T' A V V' ⟨j1,j2,j3⟩ ht hw
      have hs:=lohQ j2.1
      exact⟨hI j1 (ht.mono (fun x hx=>Or.inl hx)) hw,j2.touched ht j3,fun x hx=>(hw x hx).elim (j3 x) (fun h=>by omega)⟩
    · rintro T T' V V' ⟨c,j1,j2,j3⟩ ht hw
      have hs:=lohQ j2.1
      exact⟨c,hIx j1 (ht.mono (fun x hx=>Or.inl hx)) hw,j2.touched ht j3,fun x hx=>(hw x hx).elim (j3 x) (fun h=>by omega)⟩
    · rintro T A A' d c ad V ⟨j1,j2⟩
      exact⟨hIe j1,j2⟩
    · rintro T d c bo oo ad key k r A V hT ⟨j1,j2,j3⟩
      obtain⟨b,off,e,hr⟩:=hround (B+1) rfl T d c bo oo ad key k r A V (fun x hx=>⟨hT x hx,j3 x hx⟩) (by have:=lohQ j2.1;omega) j1
      refine⟨b,off,e,?_⟩
      have hTl:¬T (B+1):=fun h=>by have:=j3 _ h;omega
      have hy:=run_yield (P:=Tryz.prog) (args:= #[.int .i64 (d:Int),.pointer (some ⟨b,off,none⟩)]) j2.1 (by rw[hrec];exact hps.symm)
      rw[hrec] at hy
      refine⟨fn,_,assign,body,hy,roundIn_of_wpIn hfn (hr _ fun a₁ hb=>?_)⟩
      refine⟨_,run_beginRound j2.1 (by rw[hrec]),?_⟩
      have hb2:Book B { rec .ready none with state:= .busy } (V.putObj (B+1) (.loop { rec .ready none with state:= .busy })):=j2.put
      refine wpIn_mono (hb _ ⟨_,rfl,_,j2.1,rfl⟩) ?_
      rintro e3 a3 U ⟨hkU,hkT,hp⟩
      have hb3:=hb2.kept hkU
      have fin:=fun jump=>run_endRound (P:=Tryz.prog) jump hb3.1
      rw[hrec] at fin hb3
      have hall:∀o',Kept T V (U.putObj (B+1) o'):=fun o'=>((zdf _ hTl).trans hkT).trans (zdf _ hTl)
      have htp:∀o',za U (U.putObj (B+1) o') (fun x=>T x∨(B≤x∧Za U x)):=fun o'=>(jv o' hb3.1).mono (fun x hx=>Or.inr ⟨by omega,by rw[hx];exact⟨_,hb3.1,rfl⟩⟩)
      rcases hp with ⟨rfl,ka,kc,c1,c2,hi3⟩ | ⟨rfl,hi3⟩ | ⟨id,rfl,hi3⟩
      · refine⟨_,_,fin none,hall _,.inl ⟨rfl,ka,kc,?_,c2,hI hi3 (htp _) (fun x hx=>Or.inl hx),?_,j3⟩⟩
        · refine (World.cell?_of_block (WphQ fun e4=>?_)).trans c1
          have h5:U.cell? ⟨B+1,off+3,none⟩=none:=by simp[World.cell?,hb3.1]
          simp only at e4
          rw[e4,h5] at c1;cases c1
        · rw[hrec];exact hb3.put
      · refine⟨_,_,fin (some .ret),hall _,.inr ⟨rfl,.ret,hIx hi3 (htp _) (fun x hx=>Or.inl hx),?_,j3⟩⟩
        rw[hrec];exact hb3.put
      · refine⟨_,_,fin (some (.exit id)),hall _,.inr ⟨rfl,.exit id,hIx hi3 (htp _) (fun x hx=>Or.inl hx),?_,j3⟩⟩
        rw[hrec];exact hb3.put
   have hstart:J (fun _=>False) [s] W1:=by rw[hJ];exact⟨hI1,hbk,fun _ h=>h.elim⟩
   refine (callsIn_wide.2 (zg1 hbody W1 NB s hd hne hcap hsz hNB1 hstart)).mono ?_
   rintro e W2 ⟨⟨v,rfl⟩,(⟨T,hj⟩ | ⟨T,hj⟩)⟩
   · rw[hJ] at hj
     obtain⟨hi,hb,hT⟩:=hj
     have:=run_endLoop (P:=Tryz.prog) hb.1 (by rw[hrec];simp)
     rw[hrec] at this
     refine⟨none,_,this,hdone B T _ (NlrQ _) (hI hi ((jv _ hb.1).mono (fun x hx=>Or.inr ⟨by omega,by rw[hx];exact⟨_,hb.1,rfl⟩⟩)) (fun x hx=>Or.inl hx)) ((WphQ om1).trans hb.2)⟩
   · rw[hJx] at hj
     obtain⟨c,hi,hb,hT⟩:=hj
     have:=run_endLoop (P:=Tryz.prog) hb.1 (by rw[hrec];simp)
     rw[hrec] at this
     exact⟨some c,_,this,hstop B c T _ (NlrQ _) (hIx hi ((jv _ hb.1).mono (fun x hx=>Or.inr ⟨by omega,by rw[hx];exact⟨_,hb.1,rfl⟩⟩)) (fun x hx=>Or.inl hx)) ((WphQ om1).trans hb.2)⟩
theorem ze8 (w:World)(a:Option Addr)(n c:Nat):Calls Tryz.prog 97 #[.slice a n c] w fun e w'=>e= .returned (.func (.func 131) #[] #[.pointer (some ⟨w.heap.size,0,none⟩)])∧w'=w.alloc (.cells #[.slice a n c] 33):=by
 have hmf:∀(fn:Fn) (first cap:Array Value) (w:World),(Instr.makeFunc fn first cap).run Tryz.prog w= .ok (.func fn first cap) w:=fun _ _ _ _=>rfl
 go_enter Tryz.func97,Tryz.ntmps97
 go_wp2_with fail
 go_ret
 exact⟨rfl,rfl⟩
end Go.Proofs.YtoidedomenkbpaaGreat
