/-
  .
-/
import Derived.Test.YtoidedomenkbpaaGreatERevQs
set_option maxRecDepth 100000
set_option maxHeartbeats 40000000
namespace Go.Proofs.YtoidedomenkbpaaGreat
open Go.RowKit Go.Shelf
attribute [local go_sem] Oper.semAt_some
set_option linter.unusedVariables false
theorem Qf {F:Fence}{n:Nat}{P:Program}(w:World){ops:Array Oper}{rest:List Oper}{o:Oper}{a:Act}{Q:Exit→Act→World→Prop}
 (hg:o.guard=none) (s x:Operand) (t:TypeId) (hop:o.op=Op.call { callee:=Callee.builtin Builtin.append,args:= #[s,x],argTypes:= #[t,t] })
 (base:Nat) (e:TypeId) (i:TypeInfo) (z:Value) (size bytes:Nat) (h1:P.underlying t=some (.slice e)) (h2:P.info? e=some i) (h3:i.zero=some z) (h4:i.size=size) (h5:i.bytes=bytes) (h6:z.cells.size=size) (h7:0<size)
 (v:Value) (k:Nat) (xs:List Value) (hs:a.eval s=v) (hown:w.ownsRow base e size v k xs) (ad:Addr) (m c:Nat) (news:List Value) (hx:a.eval x= .slice (some ad) m c) (hn:news.length=m*size)
 (hc:∀j u,news[j]? =some u→w.cell? (ad.add j)=some u) (h1c:∀u∈news,u.oneCell'=true) (b1:k+m≤maxLen) (b2:(k+m)*bytes≤140737488355328) (b3:base≤w.heap.size)
 (hK:∀v' w',w'.ownsRow base e size v' (k+m) (xs++news)→w.grownBy w' v.ownBlock→(v'.ownBlock=v.ownBlock∨v'.ownBlock=some w.heap.size)→wpListIn F n P ops Q rest (a.put o.dst v') w'):
 wpListIn F n P ops Q (o::rest) a w:=by
 refine wpListIn_plain hg fun K hK'=>?_
 obtain⟨v',w',hrun,r1,r2,_,r3⟩:=run_append_own_at (P:=P) w base t o.type e i z size bytes h1 h2 h3 h4 h5 h6 h7 v k xs hown ad m c news hn hc h1c b1 b2 b3
 unfold Oper.wpIn
 refine⟨?_,?_⟩
 · simp[Oper.about,hop,resolve,Target.leads,Sem.run_pure]
 · rw[Oper.semAt_plain F _ _ (by rw[hop];intro c hc';cases hc')]
   simp[execOp,hop,resolve,invoke,builtin,hs,hx,hrun,Result.andThen]
   exact hK' _ _ (hK v' w' r1 r2 r3)
def adv (a:Option Addr)(i:Nat):Option Addr:=a.map fun p=>⟨p.block,p.off+i*4,p.spot⟩
theorem zgQ (a:Option Addr):adv a 0=a:=by cases a<;>simp[adv]
theorem zgO {a:Option Addr}{i b off:Nat}(h:adv a i=some ⟨b,off,none⟩):∃o,a=some ⟨b,o,none⟩∧off=o+i*4:=by
 cases a with
 | none=>cases h
 | some p=>obtain⟨pb,po,ps⟩:=p;simp only[adv,Option.map_some,Option.some.injEq,Addr.mk.injEq] at h;obtain⟨rfl,rfl,rfl⟩:=h;exact⟨po,rfl,rfl⟩
theorem zgP {a:Option Addr}{i b off:Nat}(h:adv a i=some ⟨b,off,none⟩):adv a (i+1)=some ⟨b,off+4,none⟩:=by
 obtain⟨o,rfl,rfl⟩:=zgO h
 simp only[adv,Option.map_some,Option.some.injEq,Addr.mk.injEq,true_and,and_true];omega
def Seg.from (s:Seg)(i:Nat):Seg:=⟨s.d,adv s.a i,s.cap - i,yx i s.f⟩
theorem Seg.zbm (s:Seg):s.from 0=s:=by cases s;simp[Seg.from,zgQ,yx]
section
variable (J:(Nat→Prop)→List Seg→World→Prop) (M l LB YB FB DB:Nat) (T0:Nat→Prop) (w0:World) (s:Seg) (A L:List Seg) (lv:Value) (X:Nat)
def Qi (i:Nat)(wr:World):Prop:=
 ∃T1 lv1,Zk T0 T1 w0 wr LB FB lv lv1∧Its T1 wr l LB YB FB DB lv1 L false∧T1 X∧wr.heap[X]? =some (.cells #[.int .i64 (s.d:Int),s.v] 175 (0,0))∧lv1.ownBlock≠some X∧J T1 (s.from i::A) wr
end
section
variable {P:Program} {m:Nat} {J:(Nat→Prop)→List Seg→World→Prop} {Jx:(Nat→Prop)→World→Prop} {M l LB YB FB DB:Nat} {T0:Nat→Prop} {w0:World} {s:Seg} {A L:List Seg} {lv:Value} {X:Nat}
theorem zee (hB:Body P m l J Jx)(hI:Its T0 w0 l LB YB FB DB lv L false)(hJ:J T0 (s::A) w0):
 Qi J l LB YB FB DB T0 w0 s A L lv w0.heap.size 0 (w0.alloc (.cells #[.int .i64 (s.d:Int),s.v] 175)):=by
 have hb:∀x,T0 x→(w0.alloc (.cells #[.int .i64 (s.d:Int),s.v] 175)).heap[x]? =w0.heap[x]?:=fun x hx=>BhaQ _ _ _ (hI.sub x hx)
 have ht:za w0 (w0.alloc (.cells #[.int .i64 (s.d:Int),s.v] 175)) T0:=(za.refl w0 T0).alloc _
 have hsz:(w0.alloc (.cells #[.int .i64 (s.d:Int),s.v] 175)).heap.size=w0.heap.size+1:=by simp
 refine⟨fun x=>T0 x∨x=w0.heap.size,lv,⟨fun x hx=>Or.inl hx,fun x hx=>hx.imp id (fun e=>by omega),ht.size,fun x hx _ _ _=>hb x hx,Or.inl rfl⟩,hI.kept hb (fun x hx=>Or.inl hx) (fun x hx=>?_),Or.inr rfl,hanQ w0 _,fun e=>?_,?_⟩
 · rcases hx with hx | rfl
   · have:=hI.sub x hx;omega
   · omega
 · have:=hI.sub _ (hI.hr _ e);omega
 · rw[Seg.zbm];exact hB.turn hJ ht (fun x hx=>hx.imp id (fun e=>⟨by omega,by omega⟩))
theorem zgX (hB:Body P m l J Jx){i:Nat}{wr:World}{k:Nat}(h:Qi J l LB YB FB DB T0 w0 s A L lv X i wr)(hi:foLen s.f≤i):za2 J Jx M k l LB YB FB DB T0 s A L lv w0 (.returned (.bool true)) wr:=by
 obtain⟨T1,lv1,h1,h2,h3,h4,h5,h6⟩:=h
 refine⟨true,false,T1,lv1,[],rfl,h1,by rw[List.append_nil];exact h2,Or.inl ⟨rfl,rfl,rfl,?_⟩⟩
 have e:s.from i=⟨s.d,adv s.a i,s.cap - i,.nil⟩:=by simp[Seg.from,Ze i s.f hi]
 rw[e] at h6
 exact hB.empty (A:=[]) h6
theorem zfK {w:World}{b:Nat}{v:Value}{t:TypeId}{fr:Nat×Nat}(h:w.heap[b]? =some (.cells #[v] t fr)){o:Nat}(ho:1≤o):w.cell? ⟨b,o,none⟩=none:=by
 rw[corQ w b o _ _ _ h]
 exact Array.getElem?_eq_none (by simpa using ho)
theorem zed (hB:Body P m l J Jx){i:Nat}{wr:World}(h:Qi J l LB YB FB DB T0 w0 s A L lv X i wr)(hi:i<foLen s.f):
 ∃ T1 lv1 b o0 bo oo key k r,s.a=some ⟨b,o0,none⟩∧yx i s.f= .node bo oo key k r∧yx (i+1) s.f=r∧zh k<zh s.f∧Zk T0 T1 w0 wr LB FB lv lv1∧Its T1 wr l LB YB FB DB lv1 L false∧T1 X∧wr.heap[X]? =some (.cells #[.int .i64 (s.d:Int),s.v] 175 (0,0))∧lv1.ownBlock≠some X∧J T1 (s.from i::A) wr∧
  YieldAt Fence.wide m P l #[.int .i64 (s.d:Int),.pointer (some ⟨b,o0+i*4,none⟩)] wr fun e w'=>Kept T1 wr w'∧((e= .returned (.bool true)∧∃ka kc,w'.cell? ⟨b,o0+i*4+3,none⟩=some (.slice ka (foLen k) kc)∧foLen k≤kc∧J T1 (⟨s.d+1,ka,kc,k⟩::s.from (i+1)::A) w')∨(e= .returned (.bool false)∧Jx T1 w')):=by
 obtain⟨T1,lv1,h1,h2,h3,h4,h5,h6⟩:=h
 obtain⟨bo,oo,key,k,r,e1,e2,e3,_⟩:=kF i s.f hi
 have h7:=h6
 rw[Seg.from,e1] at h7
 obtain⟨b,off,ea,hy⟩:=hB.yield h2.sub h7
 obtain⟨o0,ha,rfl⟩:=zgO ea
 refine⟨T1,lv1,b,o0,bo,oo,key,k,r,ha,e1,e2,e3,h1,h2,h3,h4,h5,h6,YieldAt.mono hy fun e w' hh=>⟨hh.1,hh.2.imp ?_ id⟩⟩
 rintro ⟨he,ka,kc,c1,c2,c3⟩
 refine⟨he,ka,kc,c1,c2,?_⟩
 have e4:s.from (i+1)=⟨s.d,some ⟨b,o0+i*4+4,none⟩,s.cap - i - 1,r⟩:=by rw[Seg.from,zgP ea,e2];rfl
 rw[e4];exact c3
theorem zgZ (hB:Body P m l J Jx){T1:Nat→Prop}{lv1:Value}{i:Nat}{wr w' :World}{b o0 kc:Nat}{ka:Option Addr}{k:Fo}(h1:Zk T0 T1 w0 wr LB FB lv lv1)(h2:Its T1 wr l LB YB FB DB lv1 L false)(h3:T1 X)(h4:wr.heap[X]? =some (.cells #[.int .i64 (s.d:Int),s.v] 175 (0,0)))(h5:lv1.ownBlock≠some X)
 (hk:Kept T1 wr w') (c1:w'.cell? ⟨b,o0+i*4+3,none⟩=some (.slice ka (foLen k) kc)) (hJ:J T1 (⟨s.d+1,ka,kc,k⟩::s.from (i+1)::A) w') (W:World) (hW:Below (w'.setCell ⟨FB,0,none⟩ (.bool false)).heap.size (w'.setCell ⟨FB,0,none⟩ (.bool false)) W):
 Zk T0 T1 w0 W LB FB lv lv1∧Its T1 W l LB YB FB DB lv1 L false∧W.heap[X]? =some (.cells #[.int .i64 (s.d:Int),s.v] 175 (0,0))∧W.cell? ⟨b,o0+i*4+3,none⟩=some (.slice ka (foLen k) kc)∧J T1 (⟨s.d+1,ka,kc,k⟩::s.from (i+1)::A) W∧wr.heap.size≤W.heap.size:=by
 have hsz:(w'.setCell ⟨FB,0,none⟩ (.bool false)).heap.size=w'.heap.size:=by simp[World.setCell]
 rw[hsz] at hW
 have hws:=hW.size
 rw[hsz] at hws
 have hks:=hk.1
 have hfb':=(hk.2 _ h2.hf).trans h2.flag
 have hF:(w'.setCell ⟨FB,0,none⟩ (.bool false)).heap[FB]? =some (.cells #[.bool false] 4 (0,0)):=by
  have:=hssQ w' FB 0 _ _ (.bool false) hfb'
  rw[this];rfl
 have hblk:∀x,x<w'.heap.size→x≠FB→W.heap[x]? =w'.heap[x]?:=fun x hx hn=>(hW.block x hx).trans (BhsQ _ _ _ _ hn)
 have hsub:=h2.sub
 have hTk:∀x,T1 x→x≠FB→W.heap[x]? =wr.heap[x]?:=fun x hx hn=>(hblk x (by have:=hsub x hx;omega) hn).trans (hk.2 x hx)
 have hFW:W.heap[FB]? =some (.cells #[.bool false] 4 (0,0)):=(hW.block FB (by have:=hsub _ h2.hf;omega)).trans hF
 have ht:za w' W T1:=⟨hW.os,hW.tape,hW.output,hws,fun x hx hn=>hblk x hx (fun e=>hn (e▸h2.hf))⟩
 have hXF:X≠FB:=yD h4 h2.flag ue0
 refine⟨⟨h1.wide,h1.new,by have:=h1.size;omega,fun x hx n1 n2 n3=>(hTk x (h1.wide x hx) n2).trans (h1.same x hx n1 n2 n3),h1.row⟩,h2.zfc hTk hFW (fun x hx=>hx) (fun x hx=>by have:=hsub x hx;omega),(hTk X h3 hXF).trans h4,?_,hB.turn hJ ht (fun x hx=>Or.inl hx),by omega⟩
 have hbF:b≠FB:=fun e=>by
  rw[e,zfK hfb' om1] at c1;cases c1
 exact (World.cell?_of_block (hblk b (World.block_lt_of_cell? _ _ c1) hbF)).trans c1
theorem zfO {T1:Nat→Prop}{lv1:Value}{wr w' :World}{k:Nat}(h1:Zk T0 T1 w0 wr LB FB lv lv1)(h2:Its T1 wr l LB YB FB DB lv1 L false)(hB:Body P m l J Jx)(hk:Kept T1 wr w')(hJ:Jx T1 w'):za2 J Jx M k l LB YB FB DB T0 s A L lv w0 (.returned (.bool false)) (w'.setCell ⟨FB,0,none⟩ (.bool true)):=by
 have hsz:(w'.setCell ⟨FB,0,none⟩ (.bool true)).heap.size=w'.heap.size:=by simp[World.setCell]
 have hfb':=(hk.2 _ h2.hf).trans h2.flag
 have hF:(w'.setCell ⟨FB,0,none⟩ (.bool true)).heap[FB]? =some (.cells #[.bool true] 4 (0,0)):=by
  have:=hssQ w' FB 0 _ _ (.bool true) hfb'
  rw[this];rfl
 have ht:za w' (w'.setCell ⟨FB,0,none⟩ (.bool true)) T1:=za.setCell (a:=⟨FB,0,none⟩) h2.hf _
 have hTk:∀x,T1 x→x≠FB→(w'.setCell ⟨FB,0,none⟩ (.bool true)).heap[x]? =wr.heap[x]?:=fun x hx hn=>(BhsQ _ _ _ _ hn).trans (hk.2 x hx)
 have h0:=h1.size
 have h01:=hk.1
 refine⟨false,true,T1,lv1,[],rfl,⟨h1.wide,h1.new,by omega,fun x hx n1 n2 n3=>(hTk x (h1.wide x hx) n2).trans (h1.same x hx n1 n2 n3),h1.row⟩,?_,Or.inr ⟨rfl,NzlQ _,Or.inr ⟨rfl,hB.zft hJ ht (fun x hx=>Or.inl hx)⟩⟩⟩
 rw[List.append_nil]
 exact h2.zfc hTk hF (fun x hx=>hx) (fun x hx=>by have:=h2.sub x hx;omega)
theorem zbu {w0 W w5:World}{T0 T1 T2:Nat→Prop}{lv1 lv2:Value}{X:Nat}{o:Obj}(hx:W.heap[X]? =some (.cells #[.int .i64 (s.d:Int),s.v] 175 (0,0)))(h2:Its T1 W l LB YB FB DB lv1 L false)(h3:T1 X)(h5:lv1.ownBlock≠some X)(g1:Zk T1 T2 W w5 LB FB lv1 lv2):
 w5.heap[X]? =some (.cells #[.int .i64 (s.d:Int),s.v] 175 (0,0))∧lv2.ownBlock≠some X:=by
 refine⟨(g1.same X h3 (yD hx h2.later ue0) (yD hx h2.flag ue0) h5).trans hx,fun e=>?_⟩
 rcases g1.row with h | h
 · rw[h] at e;exact h5 e
 · have:=h _ e;have:=h2.sub _ h3;omega
theorem zfQ {T1 T2:Nat→Prop}{lv1 lv2:Value}{W w5:World}{lf:Bool}{A2:List Seg}{s2:Seg}{i k:Nat}(hx:W.heap[X]? =some (.cells #[.int .i64 (s.d:Int),s.v] 175 (0,0)))(h1:Zk T0 T1 w0 W LB FB lv lv1)(h2:Its T1 W l LB YB FB DB lv1 L false)(h3:T1 X)(h5:lv1.ownBlock≠some X)(hs:∀x,T0 x→x<w0.heap.size)
 (g1:Zk T1 T2 W w5 LB FB lv1 lv2) (g2:Its T2 w5 l LB YB FB DB lv2 (L++A2) lf) (g3:Qj J Jx M k s2 (s.from (i+1)::A) A2 T2 true lf w5):Qi J l LB YB FB DB T0 w0 s A L lv X (i+1) w5:=by
 obtain⟨c1,c2⟩:=zbu (o:= .loop default) (w0:=w0) (T0:=T0) hx h2 h3 h5 g1
 rcases g3 with ⟨_,rfl,rfl,hJ⟩ | ⟨hf,_⟩
 · rw[List.append_nil] at g2
   exact⟨T2,lv2,h1.trans g1 hs,g2,g1.wide X h3,c1,c2,hJ⟩
 · cases hf
theorem zfm {T2:Nat→Prop}{lv2:Value}{w5 V0 w6:World}{lf:Bool}{L2:List Seg}{sg:Seg}{gg m cap' :Nat}(h2:Its T2 w5 l LB YB FB DB lv2 L2 lf)(hV:Below w5.heap.size w5 V0)(hm:m=L2.length)
 (hown:w6.ownsRow 0 175 2 (.slice (some ⟨gg,0,none⟩) (m+1) cap') (m+1) (L2.flatMap Seg.cells++sg.cells)) (hg:V0.grownBy w6 lv2.ownBlock) (hat:lv2.ownBlock=some gg∨V0.heap.size≤gg):
 ∃ T3,Zk T2 T3 w5 (w6.setCell ⟨LB,0,none⟩ (.slice (some ⟨gg,0,none⟩) (m+1) cap')) LB FB lv2 (.slice (some ⟨gg,0,none⟩) (m+1) cap')∧Its T3 (w6.setCell ⟨LB,0,none⟩ (.slice (some ⟨gg,0,none⟩) (m+1) cap')) l LB YB FB DB (.slice (some ⟨gg,0,none⟩) (m+1) cap') (L2++[sg]) lf∧
  za w5 (w6.setCell ⟨LB,0,none⟩ (.slice (some ⟨gg,0,none⟩) (m+1) cap')) T2∧Qn T2 T3 w5 (w6.setCell ⟨LB,0,none⟩ (.slice (some ⟨gg,0,none⟩) (m+1) cap')):=by
 subst hm
 obtain⟨n1,n2,n3,n4,n5,n6,n7⟩:=h2.zer
 have hsz:(w6.setCell ⟨LB,0,none⟩ (.slice (some ⟨gg,0,none⟩) (L2.length+1) cap')).heap.size=w6.heap.size:=by simp[World.setCell]
 have hs1:=hV.size
 have hs2:=hg.size
 have hLw:=h2.sub _ h2.hl
 have hgb:=zY hown (g:=gg) rfl
 have h6:∀x,x<w5.heap.size→lv2.ownBlock≠some x→w6.heap[x]? =w5.heap[x]?:=fun x hx hn=>(hg.block x om1 (fun e=>hn e.symm)).trans (hV.block x hx)
 have h7:∀x,x<w5.heap.size→x≠LB→lv2.ownBlock≠some x→(w6.setCell ⟨LB,0,none⟩ (.slice (some ⟨gg,0,none⟩) (L2.length+1) cap')).heap[x]? =w5.heap[x]?:=fun x hx hl hn=>(BhsQ _ _ _ _ hl).trans (h6 x hx hn)
 have hLne:lv2.ownBlock≠some LB:=fun e=>(n7 _ e).1 rfl
 have hLB:w6.heap[LB]? =some (.cells #[lv2] 176 (0,0)):=(h6 LB hLw hLne).trans h2.later
 have hLB' :(w6.setCell ⟨LB,0,none⟩ (.slice (some ⟨gg,0,none⟩) (L2.length+1) cap')).heap[LB]? =some (.cells #[.slice (some ⟨gg,0,none⟩) (L2.length+1) cap'] 176 (0,0)):=by
  have:=hssQ w6 LB 0 _ _ (.slice (some ⟨gg,0,none⟩) (L2.length+1) cap') hLB
  rw[this];rfl
 have hggL:gg≠LB:=fun e=>by
  rcases hat with h | h
  · exact (n7 _ h).1 e
  · omega
 have hT3:∀g,(Value.slice (some ⟨gg,0,none⟩) (L2.length+1) cap').ownBlock=some g→T2 g∨(w5.heap.size≤g∧g<w6.heap.size):=fun g e=>by
  cases e
  rcases hat with h | h
  · exact Or.inl (h2.hr _ h)
  · exact Or.inr ⟨(show w5.heap.size≤gg by omega),hgb.2⟩
 refine⟨fun x=>T2 x∨(w5.heap.size≤x∧x<w6.heap.size),⟨fun x hx=>Or.inl hx,fun x hx=>hx.imp id (fun h=>h.1),by omega,fun x hx a1 _ a3=>h7 x (h2.sub x hx) a1 a3,?_⟩,?_,⟨?_,?_,?_,by omega,fun x hx hn=>h7 x hx (fun e=>hn (e▸h2.hl)) (fun e=>hn (h2.hr _ e))⟩,fun x hx=>by rw[hsz];exact hx⟩
 · rcases hat with h | h
   · exact Or.inl h.symm
   · exact Or.inr fun g e=>by cases e;show w5.heap.size≤gg;omega
 · refine h2.zhK (fun x hx a1 a3=>h7 x (h2.sub x hx) a1 a3) hLB' ?_ hT3 (fun x hx=>Or.inl hx) (fun x hx=>?_)
   · rw[LlaQ,List.flatMap_append]
     have e: [sg].flatMap Seg.cells=sg.cells:=by simp
     rw[e]
     exact yo hown (fun g cur hc hgo=>by cases hgo;exact BhsQ _ _ _ _ hggL)
   · rw[hsz]
     rcases hx with hx | hx
     · have:=h2.sub x hx;omega
     · exact hx.2
 · exact hg.os.trans hV.os
 · exact hg.tape.trans hV.tape
 · exact hg.output.trans hV.output
theorem Jn:∀(j:Nat) (f:Fo),zh (yx j f)≤zh f
 | 0,_=>NlrQ _
 | _+1,.nil=>by simp[yx]
 | j+1,.node _ _ _ l r=>by have:=Jn j r;simp only[yx,zh];omega
theorem YZ:∀(j:Nat) (f:Fo),foLen (yx j f)=foLen f - j
 | 0,_=>rfl
 | _+1,.nil=>by simp[yx,foLen]
 | j+1,.node _ _ _ l r=>by rw[yx,YZ j r];simp only[foLen];omega
theorem zfR (hB:Body P m l J Jx){T1:Nat→Prop}{lv1 lv3:Value}{wr w7:World}(hs:∀x,T0 x→x<w0.heap.size)(hok:Qm M s)(hne:s.f≠ .nil)(h1:Zk T0 T1 w0 wr LB FB lv lv1)(hJ:J T1 (s::A) wr)
 (h:∃T3,Zk T1 T3 wr w7 LB FB lv1 lv3∧Its T3 w7 l LB YB FB DB lv3 (L++[s]) false∧za wr w7 T1∧Qn T1 T3 wr w7):za2 J Jx M 0 l LB YB FB DB T0 s A L lv w0 (.returned (.bool false)) w7:=by
 obtain⟨T3,g1,g2,g3,g4⟩:=h
 refine⟨false,false,T3,lv3,[s],rfl,h1.trans g1 hs,g2,Or.inr ⟨rfl,zah hne,Or.inl ⟨rfl,hB.turn hJ g3 g4,fun x hx=>?_,?_,fun h=>absurd h (Nat.lt_irrefl _)⟩⟩⟩
 · rw[List.mem_singleton] at hx;subst hx;exact⟨hok,hne⟩
 · rw[qM,jd];omega
section
variable {T1 T2:Nat→Prop} {lv1 lv2 lv3:Value} {W w5 w7:World} {lf:Bool} {A2:List Seg} {ka:Option Addr} {kc:Nat} {kd r:Fo} {bo oo:Nat} {key:Int×Int×ByteArray} {i k:Nat}
theorem YW {f:Fo}(e1:yx i f= .node bo oo key kd r):zh kd+zh r+1≤zh f:=by
 have:=Jn i f
 rw[e1] at this;simp only[zh] at this;omega
theorem zg0 (hB:Body P m l J Jx)(hs:∀x,T0 x→x<w0.heap.size)(e1:yx i s.f= .node bo oo key kd r)(hl:foLen s.f=i+1)(h1:Zk T0 T1 w0 W LB FB lv lv1)(g1:Zk T1 T2 W w5 LB FB lv1 lv2)(g2:Its T2 w5 l LB YB FB DB lv2 (L++A2) lf)
 (g3:Qj J Jx M (k - 1) ⟨s.d+1,ka,kc,kd⟩ (s.from (i+1)::A) A2 T2 false lf w5):za2 J Jx M k l LB YB FB DB T0 s A L lv w0 (.returned (.bool false)) w5:=by
 have hsz:=YW e1
 refine⟨false,lf,T2,lv2,A2,rfl,h1.trans g1 hs,g2,Or.inr ⟨rfl,?_⟩⟩
 rcases g3 with ⟨hf,_⟩ | ⟨_,g4,g5⟩
 · cases hf
 simp only at g4 g5
 refine⟨by omega,g5.imp ?_ id⟩
 rintro ⟨e,hJ,h3,h4,_⟩
 refine⟨e,?_,h3,by omega,fun _=>by omega⟩
 have e5:s.from (i+1)=⟨s.d,adv s.a (i+1),s.cap - (i+1),.nil⟩:=by simp[Seg.from,Ze (i+1) s.f om1]
 rw[e5] at hJ
 exact hB.empty hJ
theorem zfP (hB:Body P m l J Jx)(hs:∀x,T0 x→x<w0.heap.size)(hok:Qm M s)(e1:yx i s.f= .node bo oo key kd r)(e2:yx (i+1) s.f=r)(hl:i+1<foLen s.f)(h1:Zk T0 T1 w0 W LB FB lv lv1)(g1:Zk T1 T2 W w5 LB FB lv1 lv2)(hs1:∀x,T1 x→x<W.heap.size)
 (g3:Qj J Jx M (k - 1) ⟨s.d+1,ka,kc,kd⟩ (s.from (i+1)::A) A2 T2 false lf w5)
 (h:∃T3,Zk T2 T3 w5 w7 LB FB lv2 lv3∧Its T3 w7 l LB YB FB DB lv3 (L++A2++[s.from (i+1)]) lf∧za w5 w7 T2∧Qn T2 T3 w5 w7):za2 J Jx M k l LB YB FB DB T0 s A L lv w0 (.returned (.bool false)) w7:=by
 obtain⟨T3,k1,k2,k3,k4⟩:=h
 have hsz:=YW e1
 have hr1:=YZ (i+1) s.f
 rw[e2] at hr1
 have hrn:r≠ .nil:=fun e=>by rw[e] at hr1;simp only[foLen] at hr1;omega
 have e5:(s.from (i+1)).f=r:=by simp only[Seg.from];exact e2
 refine⟨false,lf,T3,lv3,A2++[s.from (i+1)],rfl,h1.trans (g1.trans k1 hs1) hs,by rw[←List.append_assoc];exact k2,Or.inr ⟨rfl,?_⟩⟩
 rcases g3 with ⟨hf,_⟩ | ⟨_,g4,g5⟩
 · cases hf
 simp only at g4 g5
 have hrp:=zah hrn
 refine⟨by rw[LlaQ,List.length_singleton];omega,g5.imp ?_ ?_⟩
 · rintro ⟨e,hJ,h3,h4,_⟩
   have hag:yU (A2++[s.from (i+1)])=yU A2+zh r:=by rw[vz,qM,jd,e5];omega
   refine⟨e,?_,fun x hx=>?_,by omega,fun _=>by omega⟩
   · rw[List.append_assoc];exact hB.turn hJ k3 k4
   · rcases List.mem_append.1 hx with hx | hx
     · exact h3 x hx
     · rw[List.mem_singleton] at hx;subst hx
       refine⟨⟨?_,?_⟩,by rw[e5];exact hrn⟩
       · have:=hok.deep;rw[e5];simp only[Seg.from];omega
       · have:=hok.cap;rw[e5,hr1];simp only[Seg.from];omega
 · rintro ⟨e,hJ⟩
   exact⟨e,hB.zft hJ k3 k4⟩
end
theorem Tryz.zhc:(Tryz.prog.info? 175).map (fun i=>(i.size,i.bytes,i.zero.map (fun z=>z.cells.size)))=some (2,32,some 2):=by kernel_rfl
theorem jk {P:Program}{e:TypeId}{size bytes:Nat}(h:(P.info? e).map (fun i=>(i.size,i.bytes,i.zero.map (fun z=>z.cells.size)))=some (size,bytes,some size)):
 ∃i z,P.info? e=some i∧i.zero=some z∧i.size=size∧i.bytes=bytes∧z.cells.size=size:=by
 exact sf2
end
theorem zcQ {m l :Nat}{J:(Nat→Prop)→List Seg→World→Prop}{Jx:(Nat→Prop)→World→Prop}(hB:Body Tryz.prog m l J Jx)(M LB YB FB DB:Nat)(hM:M≤1000000000)(k:Nat)(hk:k≤1000)(ih:k=0∨zd0 J Jx M l LB YB FB DB (k - 1)):zd0 J Jx M l LB YB FB DB k:=by
 intro T w s A L lv hI hJ hok hlen
 have hst:=zee hB hI hJ
 obtain⟨sd,sa,sc,sf⟩:=s
 obtain⟨n,hn⟩:∃n,n=foLen sf:=⟨_,rfl⟩
 have hcap:n≤sc:=by have:=hok.cap;simp only at this;omega
 have hn6:n≤1000000:=by have:=jG sf;simp only at hlen;omega
 simp only[Seg.v] at hst ⊢
 rw[←hn] at hst ⊢
 have HN:=hH hn
 have HS:=hH hst
 have HP:=hH (aN hI (aN hJ (aN hok (aN hlen hM))))
 clear hst hI hJ hok hlen hn hM
 refine (callsIn_wide (n:=6)).1 ?_
 refine callsIn_of_wp Tryz.func132 rfl trivial ?_ rfl
 simp only[Tryz.ntmps132,List.size_toArray,LlcQ,List.length_nil,Nat.reduceAdd,Nat.reduceSub,Array.replicate_succ,Array.replicate_zero,List.push_toArray,List.append_toArray,List.nil_append,List.cons_append]
 gi_wp2
 gi_loopw [14] (fun i wr=>∃j:Nat,j≤n∧(k=0→j=0)∧i= .int .i64 j∧Hid (Qi J l LB YB FB DB T w ⟨sd,sa,sc,sf⟩ A L lv w.heap.size j wr)) (fun i _=>n - (intOf i).toNat)
 case atStart=>exact⟨0,NzlQ _,fun _=>rfl,rfl,HS⟩
 case round =>
  obtain⟨j,hj,hjk,rfl,hh⟩:=hrel
  by_cases hlt:j<n
  · obtain ⟨T1, lv1,b,o0,bo,oo,key,kd,r,rfl,e1,e2,e3,w1,w2,w3,w4,w5,w6,hy⟩:=zed (J:=J) (s:=⟨sd,sa,sc,sf⟩) hB hh.out (by have:=HN.out;simp only;omega)
    obtain⟨fn,tmps,assign,body,hy,hR⟩:=YieldAt.zbc 5 hy
    have hji:(j:Int)<(n:Int):=by omega
    have hj0:(0:Int)≤(j:Int):=by omega
    simp only[Seg.v] at w4
    rw[←HN.out] at w4
    have x0:wr.cell? ⟨w.heap.size,0,none⟩=some (.int .i64 (sd:Int)):=by rw[corQ _ _ 0 _ _ _ w4];rfl
    have x1:wr.cell? ⟨w.heap.size,1,none⟩=some (.slice (some ⟨b,o0,none⟩) n sc):=by rw[corQ _ _ 1 _ _ _ w4];rfl
    by_cases hk0:k=0
    · subst hk0
      have hj0':=hjk rfl
      subst hj0'
      rw[Seg.zbm] at w6
      obtain⟨la,lc,hlv⟩:=yE w2.row
      obtain⟨m,hme⟩:∃m,m=L.length:=⟨_,rfl⟩
      rw[←hme] at hlv
      subst hlv
      have h5row:=w2.row
      rw[←hme] at h5row
      have hm6:m≤1000000:=by have h1:=HP.out.2.2.2.1;omega
      have hLB:=w2.later
      have l0:wr.cell? ⟨LB,0,none⟩=some (.slice la m lc):=by rw[corQ _ _ 0 _ _ _ hLB];rfl
      have l1:wr.frozen? ⟨LB,0,none⟩=false:=forQ _ _ 0 _ _ hLB
      have hLBl:=lohQ hLB
      have hlne:(Value.slice la m lc).ownBlock≠some LB:=fun e=>(w2.zer.2.2.2.2.2.2 LB e).1 rfl
      have HROW:=hH (aN h5row (aN hme (aN hLBl (aN hlne (aN l0 l1)))))
      have HX:=hH (aN w1 (aN w2 w6))
      obtain⟨i0,z0,hi0,hz0,hz1,hz2,hz3⟩:=jk Tryz.zhc
      have HI:=hH (aN hi0 (aN hz0 (aN hz1 (aN hz2 hz3))))
      clear h5row hLB hi0 hz0 hz1 hz2 hz3 hme hLBl hlne w1 w2 w3 w4 w5 w6 e1 e2 e3 hR hy hh hjk
      gi_wp2_with (gi_at_builtin;refine Qf _ rfl (.tmp 19) (.tmp 21) _ rfl 0 175 i0 z0 2 32 Tryz.underlying176 HI.out.1 HI.out.2.1 HI.out.2.2.1 HI.out.2.2.2.1 HI.out.2.2.2.2 om1 (.slice la m lc) m _ rfl (HROW.out.1.alloc _) ⟨wr.heap.size,0,none⟩ 1 1 [.int .i64 (sd:Int),.slice (some ⟨b,o0,none⟩) n sc] rfl rfl (World.news_of_block (hanQ wr _)) uc9 ud1 om1 sp ?_;intro v' w6 hown6 hgrow hat;obtain⟨gg,cap',rfl⟩:=ownsRow_succ hown6;have c1w:=(hgrow.cell_far (a:=⟨LB,0,none⟩) uc3 (Ne.symm HROW.out.2.2.2.1)).trans ((World.cell?_of_block (BhaQ wr _ LB HROW.out.2.2.1)).trans HROW.out.2.2.2.2.1);have f1w:=(hgrow.frozen_far (a:=⟨LB,0,none⟩) uc3 (Ne.symm HROW.out.2.2.2.1)).trans ((World.frozen?_of_block (BhaQ wr _ LB HROW.out.2.2.1)).trans HROW.out.2.2.2.2.2))
      have hcl:(Seg.mk sd (some ⟨b,o0,none⟩) sc sf).cells= [.int .i64 (sd:Int),.slice (some ⟨b,o0,none⟩) n sc]:=by simp[Seg.cells,Seg.v,←HN.out]
      rw[←hcl] at hown6
      go_ret
      exact zfR (s:=⟨sd,some ⟨b,o0,none⟩,sc,sf⟩) hB HP.out.1.sub HP.out.2.2.1 (fun e=>by have h1:=HN.out;simp only at e;rw[e] at h1;simp only[foLen] at h1;omega) HX.out.1 HX.out.2.2 (zfm (V0:=wr.alloc _) HX.out.2.1 ((BrQ _ wr).alloc (NlrQ _) _) HROW.out.2.1 hown6 hgrow (hat.elim (fun e=>Or.inl e.symm) (fun e=>Or.inr (Nat.le_of_eq (Option.some.inj e).symm))))
    · have ih := ih.resolve_left hk0
      · have hk1 :((k:Int) == 0)=false:=by simpa using hk0
        have y0:wr.cell? ⟨YB,0,none⟩=some (.func (.yield l) #[] #[]):=by rw[corQ _ _ 0 _ _ _ w2.yld];rfl
        have HX:=hH (aN w1 (aN w2 (aN w3 (aN w4 (aN w5 (aN w6 (aN e1 (aN e2 e3))))))))
        have HR:=hH hR
        clear w1 w2 w3 w4 w5 w6 e1 e2 e3 hR hh
        gi_wp2
        refine HR.out.mono ?_
        clear HR hy
        rintro e w' ⟨hkp,(⟨rfl,ka,kc,c1,c2,c3⟩ | ⟨rfl,hx⟩)⟩
        · have fl:=(hkp.2 FB HX.out.2.1.hf).trans HX.out.2.1.flag
          have f0:w'.cell? ⟨FB,0,none⟩=some (.bool false):=by rw[corQ _ _ 0 _ _ _ fl];rfl
          have f1:w'.frozen? ⟨FB,0,none⟩=false:=forQ _ _ 0 _ _ fl
          have hmid:=fun W hW=>zgZ (s:=⟨sd,some ⟨b,o0,none⟩,sc,sf⟩) hB HX.out.1 HX.out.2.1 HX.out.2.2.1 (by simp only[Seg.v];rw[←HN.out];exact HX.out.2.2.2.1) HX.out.2.2.2.2.1 hkp c1 c3 W hW
          have HM:=hH hmid
          clear hmid hkp fl c1 c3
          gi_wp2
          have hWb:Below (w'.setCell ⟨FB,0,none⟩ (.bool false)).heap.size (w'.setCell ⟨FB,0,none⟩ (.bool false)) (w'.setCell ⟨FB,0,none⟩ (.bool false)).drew:=⟨rfl,rfl,rfl,NlrQ _,fun _ _=>rfl⟩
          obtain⟨W,hW⟩:∃W,W=(w'.setCell ⟨FB,0,none⟩ (.bool false)).drew:=⟨_,rfl⟩
          rw[←hW] at hWb
          obtain⟨m1,m2,m3,m4,m5,m6⟩:=HM.out W hWb
          have c4:W.cell? ⟨b,o0+j*4+3,none⟩=some (.slice ka (foLen kd) kc):=m4
          have d0:W.cell? ⟨DB,0,none⟩=some (.func (.func 132) #[] #[.pointer (some ⟨LB,0,none⟩),.pointer (some ⟨YB,0,none⟩),.pointer (some ⟨FB,0,none⟩),.pointer (some ⟨DB,0,none⟩)]):=by rw[corQ _ _ 0 _ _ _ m2.down];rfl
          simp only[Seg.v] at m3
          rw[←HN.out] at m3
          have z0:W.cell? ⟨w.heap.size,0,none⟩=some (.int .i64 (sd:Int)):=by rw[corQ _ _ 0 _ _ _ m3];rfl
          have hcall:=ih T1 W ⟨sd+1,ka,kc,kd⟩ (Seg.from ⟨sd,some ⟨b,o0,none⟩,sc,sf⟩ (j+1)::A) L lv1 m2 m5 ⟨by have:=HP.out.2.2.1.deep;have:=HX.out.2.2.2.2.2.2.2.2;simp only at*;omega,c2⟩ (by have:=HP.out.2.2.2.1;have:=HX.out.2.2.2.2.2.2.2.2;simp only at*;omega)
          simp only[Seg.v] at hcall
          have hk1' :((k - 1:Nat):Int)=(k:Int) - 1:=by omega
          have hd1' :((sd+1:Nat):Int)=(sd:Int)+1:=by omega
          rw[hk1',hd1'] at hcall
          have hdb:(sd:Int)+1≤1000000000:=by have:=HP.out.2.2.1.deep;have:=HP.out.2.2.2.2;have:=zah (f:=sf) (fun e=>by have:=HN.out;rw[e] at this;simp only[foLen] at this;omega);simp only at*;omega
          have hd0:(0:Int)≤(sd:Int):=by omega
          have hk0' :(0:Int)≤(k:Int):=by omega
          have hkl:(k:Int)≤1000:=by omega
          have HC:=hH hcall
          have HW:=hH (aN m1 (aN m2 (aN m3 m5)))
          have HWe:=hH hW
          clear hcall m1 m2 m3 m4 m5 m6 hk1' hd1' hWb HM f0 f1 hW
          refine wpIn_wide.2 ?_
          refine wp_region_still_tail 11 kr1 kr1 ?_
          simp only[List.take_succ_cons,List.take_zero,List.drop_succ_cons,List.drop_zero]
          have hdr:({ heap:=(w'.setCell ⟨FB,0,none⟩ (.bool false)).heap,tape:=(w'.setCell ⟨FB,0,none⟩ (.bool false)).tape,drawn:=(w'.setCell ⟨FB,0,none⟩ (.bool false)).drawn+1,os:=(w'.setCell ⟨FB,0,none⟩ (.bool false)).os,output:=(w'.setCell ⟨FB,0,none⟩ (.bool false)).output }:World)=W:=HWe.out.symm
          rw[hdr]
          clear hdr
          repeat still_step
          try refine wpStill_nil ?_
          have q1:IntKind.i64.wrap ((sd:Int)+1)=(sd:Int)+1:=IntWalk.i64_in _ om1
          have q2:IntKind.i64.wrap ((k:Int) - 1)=(k:Int) - 1:=IntWalk.i64_in _ om1
          rw[q1,q2]
          clear hy x0 x1 y0 hk1 q1 q2
          go_wp2_with fail
          refine HC.out.mono ?_
          rintro e w5 ⟨bl,lf,T2,lv2,A2,rfl,g1,g2,g3⟩
          cases bl with
          | true=>
            have HE:=hH (zfQ (s:=⟨sd,some ⟨b,o0,none⟩,sc,sf⟩) (by simp only[Seg.v];rw[←HN.out];exact HW.out.2.2.1) HW.out.1 HW.out.2.1 HX.out.2.2.1 HX.out.2.2.2.2.1 HP.out.1.sub g1 g2 g3)
            clear g1 g2 g3 HC d0 c4 z0
            go_wp2_with fail
            gi_wp2
            go_roundw
            case rel=>exact⟨j+1,by omega,fun h=>absurd h hk0,by go_num,HE⟩
            case measure=>simp[intOf];omega
          | false=>
            have hx5:=(zbu (o:= .loop default) (w0:=w) (T0:=T) (s:=⟨sd,some ⟨b,o0,none⟩,sc,sf⟩) (by simp only[Seg.v];rw[←HN.out];exact HW.out.2.2.1) HW.out.2.1 HX.out.2.2.1 HX.out.2.2.2.2.1 g1).1
            simp only[Seg.v] at hx5
            rw[←HN.out] at hx5
            have x0:w5.cell? ⟨w.heap.size,0,none⟩=some (.int .i64 (sd:Int)):=by rw[corQ _ _ 0 _ _ _ hx5];rfl
            have x1:w5.cell? ⟨w.heap.size,1,none⟩=some (.slice (some ⟨b,o0,none⟩) n sc):=by rw[corQ _ _ 1 _ _ _ hx5];rfl
            clear hx5
            have HE:=hH (aN g1 (aN g2 g3))
            clear g1 g2 g3 HC d0 c4 z0
            by_cases hm:j+1<n
            · obtain⟨la,lc,hlv⟩:=yE HE.out.2.1.row
              obtain⟨m,hme⟩:∃m,m=(L++A2).length:=⟨_,rfl⟩
              rw[←hme] at hlv
              subst hlv
              have h5row:=HE.out.2.1.row
              have hLB:=HE.out.2.1.later
              rw[←hme] at h5row
              have hm6:m≤2000000:=by
               have h1:=HP.out.2.2.2.1
               have h3:A2.length≤zh kd:=by rcases HE.out.2.2 with ⟨hf,_⟩ | ⟨_,h,_⟩;cases hf;exact h
               have h4:=YW HX.out.2.2.2.2.2.2.1
               rw[hme,LlaQ];omega
              have l0:w5.cell? ⟨LB,0,none⟩=some (.slice la m lc):=by rw[corQ _ _ 0 _ _ _ hLB];rfl
              have l1:w5.frozen? ⟨LB,0,none⟩=false:=forQ _ _ 0 _ _ hLB
              have hLBl:=lohQ hLB
              have hlne:(Value.slice la m lc).ownBlock≠some LB:=fun e=>(HE.out.2.1.zer.2.2.2.2.2.2 LB e).1 rfl
              have HROW:=hH (aN h5row (aN hme (aN hLBl hlne)))
              obtain⟨i0,z0,hi0,hz0,hz1,hz2,hz3⟩:=jk Tryz.zhc
              have HI:=hH (aN hi0 (aN hz0 (aN hz1 (aN hz2 hz3))))
              have hmi:(j:Int)+1<(n:Int):=by omega
              clear h5row hLB hi0 hz0 hz1 hz2 hz3 hme hLBl hlne
              go_wp2_with fail
              gi_wp2
              refine wpIn_wide.2 ?_
              have hcs:j+1<sc:=by omega
              have hcs2:¬sc=j+1:=by omega
              have l0a:(w5.alloc (.cells #[.int .i64 (sd:Int),.slice (some ⟨b,o0+(j+1)*4,none⟩) (n - (j+1)) (sc - (j+1))] 175)).cell? ⟨LB,0,none⟩=some (.slice la m lc):=(World.cell?_of_block (BhaQ w5 _ LB HROW.out.2.2.1)).trans l0
              have hjle:(j:Int)+1≤(n:Int):=by omega
              have hj10:(0:Int)≤(j:Int)+1:=by omega
              have hjn:((j:Int)+1).toNat=j+1:=by omega
              have hjw:IntKind.i64.wrap ((j:Int)+1)=(j:Int)+1:=IntWalk.i64_in _ om1
              go_region_law (first
               | (refine step_append_lies _ ue1 _ _ _ ue1 0 175 i0 z0 2 32 Tryz.underlying176 HI.out.1 HI.out.2.1 HI.out.2.2.1 HI.out.2.2.2.1 HI.out.2.2.2.2 om1 (.slice la m lc) m ((L++A2).flatMap Seg.cells) ue1 (HROW.out.1.alloc _) ⟨w5.heap.size,0,none⟩ 1 1 [.int .i64 (sd:Int),.slice (some ⟨b,o0+(j+1)*4,none⟩) (n - (j+1)) (sc - (j+1))] ue1 ue1 (World.news_of_block (hanQ w5 _)) uc9 om1 ud1 om1 sp (w5.heap.size+1) sp ?_;intro gg cap' w6 hown6 hgrow hat hlt6;have c1w:=(hgrow.cell_far (a:=⟨LB,0,none⟩) uc3 (Ne.symm HROW.out.2.2.2)).trans ((World.cell?_of_block (BhaQ w5 _ LB HROW.out.2.2.1)).trans l0);have f1w:=(hgrow.frozen_far (a:=⟨LB,0,none⟩) uc3 (Ne.symm HROW.out.2.2.2)).trans ((World.frozen?_of_block (BhaQ w5 _ LB HROW.out.2.2.1)).trans l1)))
              all_goals
               have hcl:(Seg.from ⟨sd,some ⟨b,o0,none⟩,sc,sf⟩ (j+1)).cells= [.int .i64 (sd:Int),.slice (some ⟨b,o0+(j+1)*4,none⟩) (n - (j+1)) (sc - (j+1))]:=by simp[Seg.cells,Seg.v,Seg.from,adv,YZ,←HN.out]
               rw[←hcl] at hown6
               have HF:=hH (zfP (s:=⟨sd,some ⟨b,o0,none⟩,sc,sf⟩) hB HP.out.1.sub HP.out.2.2.1 HX.out.2.2.2.2.2.2.1 HX.out.2.2.2.2.2.2.2.1 (by have:=HN.out;simp only;omega) HW.out.1 HE.out.1 HW.out.2.1.sub HE.out.2.2 (zfm (V0:=(w5.alloc (.cells #[.int .i64 (sd:Int),.slice (some ⟨b,o0+(j+1)*4,none⟩) (n - (j+1)) (sc - (j+1))] 175)).drew) HE.out.2.1 ⟨rfl,rfl,rfl,by rw[World.size_drew,WsaQ];omega,fun x hx=>BhaQ _ _ _ hx⟩ HROW.out.2.1 hown6 hgrow (hat.imp id (fun e=>by rw[e,World.size_drew,WsaQ];exact NlrQ _))))
               clear hgrow hown6 hat hlt6 c1w f1w hcl hcs hcs2 l0a hjle hj10 hjn hjw
               go_wp2_with fail
               gi_wp2
               go_ret
               exact HF.out
            · have hnj:n=j+1:=by omega
              subst hnj
              clear hm hlt hji
              go_wp2_with fail
              gi_wp2
              go_ret
              exact zg0 (s:=⟨sd,some ⟨b,o0,none⟩,sc,sf⟩) hB HP.out.1.sub HX.out.2.2.2.2.2.2.1 HN.out.symm HW.out.1 HE.out.1 HE.out.2.1 HE.out.2.2
        · have fl:=(hkp.2 FB HX.out.2.1.hf).trans HX.out.2.1.flag
          have f0:w'.cell? ⟨FB,0,none⟩=some (.bool false):=by rw[corQ _ _ 0 _ _ _ fl];rfl
          have f1:w'.frozen? ⟨FB,0,none⟩=false:=forQ _ _ 0 _ _ fl
          have HM:=hH (aN hkp hx)
          clear hkp fl hx
          gi_wp2
          go_ret
          exact zfO (s:=⟨sd,some ⟨b,o0,none⟩,sc,sf⟩) (k:=k) HX.out.1 HX.out.2.1 hB HM.out.1 HM.out.2
  · have hji:¬(j:Int)<(n:Int):=by omega
    have HE:=hH (zgX (M:=M) (k:=k) hB hh.out (by have:=HN.out;simp only;omega))
    clear hh
    gi_wp2
    go_ret
    exact HE.out
end Go.Proofs.YtoidedomenkbpaaGreat
