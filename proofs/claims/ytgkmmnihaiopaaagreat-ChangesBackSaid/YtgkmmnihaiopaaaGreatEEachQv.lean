/-
  .
-/
import Derived.Test.YtgkmmnihaiopaaaGreatERevQv
set_option maxRecDepth 100000
set_option maxHeartbeats 40000000
set_option linter.unusedVariables false
namespace Go.Proofs.YtgkmmnihaiopaaaGreat
open Go.RowKit Go.Shelf
attribute [local go_sem] Oper.semAt_some
theorem kz {F:Fence}{n:Nat}{P:Program}(w:World){ops:Array Oper}{rest:List Oper}{o:Oper}{a:Act}{Q:Exit→Act→World→Prop}
 (hg:o.guard=none) (s x:Operand) (t:TypeId) (hop:o.op=Op.call { callee:=Callee.builtin Builtin.append,args:= #[s,x],argTypes:= #[t,t] })
 (base:Nat) (e:TypeId) (i:TypeInfo) (z:Value) (size bytes:Nat) (h1:P.underlying t=some (.slice e)) (h2:P.info? e=some i) (h3:i.zero=some z) (h4:i.size=size) (h5:i.bytes=bytes) (h6:z.cells.size=size) (h7:0<size)
 (v:Value) (k:Nat) (xs:List Value) (hs:a.eval s=v) (hown:w.ownsRow base e size v k xs) (ad:Addr) (m c:Nat) (news:List Value) (hx:a.eval x= .slice (some ad) m c) (hn:news.length=m*size)
 (hc:∀j u,news[j]? =some u→w.cell? (ad.add j)=some u) (h1c:∀u∈news,u.oneCell'=true) (b1:k+m≤maxLen) (b2:(k+m)*bytes≤140737488355328) (b3:base≤w.heap.size)
 (hK:∀v' w',w'.ownsRow base e size v' (k+m) (xs++news)→w.grownBy w' v.ownBlock→(v'.ownBlock=v.ownBlock∨v'.ownBlock=some w.heap.size)→wpListIn F n P ops Q rest (a.put o.dst v') w'):
 wpListIn F n P ops Q (o::rest) a w:=by
 refine wpListIn_plain hg fun K hK'=>?_
 obtain⟨v',w',hrun,r1,r2,_,r3⟩:=run_append_own_at (P:=P) w base t o.type e i z size bytes h1 h2 h3 h4 h5 h6 h7 v k xs hown ad m c news hn hc h1c b1 b2 b3
 unfold Oper.wpIn
 refine⟨?_,?_⟩
 · simp[Oper.about,hop,resolve,Target.leads,Sem.run_pure]
 · rw[Oper.semAt_plain F _ _ (by rw[hop];intro c hc';cases hc')]
   simp[execOp,hop,resolve,invoke,builtin,hs,hx,hrun,Result.andThen]
   exact hK' _ _ (hK v' w' r1 r2 r3)
def adv (a:Option Addr)(i:Nat):Option Addr:=a.map fun p=>⟨p.block,p.off+i*4,p.spot⟩
theorem zhr (a:Option Addr):adv a 0=a:=by cases a<;>simp[adv]
theorem zhp {a:Option Addr}{i b off:Nat}(h:adv a i=some ⟨b,off,none⟩):∃o,a=some ⟨b,o,none⟩∧off=o+i*4:=by
 cases a with
 | none=>cases h
 | some p=>obtain⟨pb,po,ps⟩:=p;simp only[adv,Option.map_some,Option.some.injEq,Addr.mk.injEq] at h;obtain⟨rfl,rfl,rfl⟩:=h;exact⟨po,rfl,rfl⟩
theorem zhq {a:Option Addr}{i b off:Nat}(h:adv a i=some ⟨b,off,none⟩):adv a (i+1)=some ⟨b,off+4,none⟩:=by
 obtain⟨o,rfl,rfl⟩:=zhp h
 simp only[adv,Option.map_some,Option.some.injEq,Addr.mk.injEq,true_and,and_true];omega
def Seg.from (s:Seg)(i:Nat):Seg:=⟨s.d,adv s.a i,s.cap - i,zq i s.f⟩
theorem Seg.zbJ (s:Seg):s.from 0=s:=by cases s;simp[Seg.from,zhr,zq]
section
variable (J:(Nat→Prop)→List Seg→World→Prop) (M l LB YB FB DB:Nat) (T0:Nat→Prop) (w0:World) (s:Seg) (A L:List Seg) (lv:Value) (X:Nat)
def Qb (i:Nat)(wr:World):Prop:=
 ∃T1 lv1,kC T0 T1 w0 wr LB FB lv lv1∧Its T1 wr l LB YB FB DB lv1 L false∧T1 X∧wr.heap[X]? =some (.cells #[.int .i64 (s.d:Int),s.v] 109 (0,0))∧lv1.ownBlock≠some X∧J T1 (s.from i::A) wr
end
section
variable {P:Program} {m:Nat} {J:(Nat→Prop)→List Seg→World→Prop} {Jx:(Nat→Prop)→World→Prop} {M l LB YB FB DB:Nat} {T0:Nat→Prop} {w0:World} {s:Seg} {A L:List Seg} {lv:Value} {X:Nat}
theorem zeE (hB:Body P m l J Jx)(hI:Its T0 w0 l LB YB FB DB lv L false)(hJ:J T0 (s::A) w0):
 Qb J l LB YB FB DB T0 w0 s A L lv w0.heap.size 0 (w0.alloc (.cells #[.int .i64 (s.d:Int),s.v] 109)):=by
 have hb:∀x,T0 x→(w0.alloc (.cells #[.int .i64 (s.d:Int),s.v] 109)).heap[x]? =w0.heap[x]?:=fun x hx=>BhaQ _ _ _ (hI.sub x hx)
 have ht:zh w0 (w0.alloc (.cells #[.int .i64 (s.d:Int),s.v] 109)) T0:=(zh.refl w0 T0).alloc _
 have hsz:(w0.alloc (.cells #[.int .i64 (s.d:Int),s.v] 109)).heap.size=w0.heap.size+1:=by simp
 refine⟨fun x=>T0 x∨x=w0.heap.size,lv,⟨fun x hx=>Or.inl hx,fun x hx=>hx.imp id (fun e=>by omega),ht.size,fun x hx _ _ _=>hb x hx,Or.inl rfl⟩,hI.kept hb (fun x hx=>Or.inl hx) (fun x hx=>?_),Or.inr rfl,hanQ w0 _,fun e=>?_,?_⟩
 · rcases hx with hx | rfl
   · have:=hI.sub x hx;omega
   · omega
 · have:=hI.sub _ (hI.hr _ e);omega
 · rw[Seg.zbJ];exact hB.turn hJ ht (fun x hx=>hx.imp id (fun e=>⟨by omega,by omega⟩))
theorem zhH (hB:Body P m l J Jx){i:Nat}{wr:World}{k:Nat}(h:Qb J l LB YB FB DB T0 w0 s A L lv X i wr)(hi:foLen s.f≤i):zbt J Jx M k l LB YB FB DB T0 s A L lv w0 (.returned (.bool true)) wr:=by
 obtain⟨T1,lv1,h1,h2,h3,h4,h5,h6⟩:=h
 refine⟨true,false,T1,lv1,[],rfl,h1,by rw[List.append_nil];exact h2,Or.inl ⟨rfl,rfl,rfl,?_⟩⟩
 have e:s.from i=⟨s.d,adv s.a i,s.cap - i,.nil⟩:=by simp[Seg.from,qK i s.f hi]
 rw[e] at h6
 exact hB.empty (A:=[]) h6
theorem zf3 {w:World}{b:Nat}{v:Value}{t:TypeId}{fr:Nat×Nat}(h:w.heap[b]? =some (.cells #[v] t fr)){o:Nat}(ho:1≤o):w.cell? ⟨b,o,none⟩=none:=by
 rw[corQ w b o _ _ _ h]
 exact Array.getElem?_eq_none (by simpa using ho)
theorem zeD (hB:Body P m l J Jx){i:Nat}{wr:World}(h:Qb J l LB YB FB DB T0 w0 s A L lv X i wr)(hi:i<foLen s.f):
 ∃ T1 lv1 b o0 bo oo key k r,s.a=some ⟨b,o0,none⟩∧zq i s.f= .node bo oo key k r∧zq (i+1) s.f=r∧zb k<zb s.f∧kC T0 T1 w0 wr LB FB lv lv1∧Its T1 wr l LB YB FB DB lv1 L false∧T1 X∧wr.heap[X]? =some (.cells #[.int .i64 (s.d:Int),s.v] 109 (0,0))∧lv1.ownBlock≠some X∧J T1 (s.from i::A) wr∧
  YieldAt Fence.wide m P l #[.int .i64 (s.d:Int),.pointer (some ⟨b,o0+i*4,none⟩)] wr fun e w'=>Kept T1 wr w'∧((e= .returned (.bool true)∧∃ka kc,w'.cell? ⟨b,o0+i*4+3,none⟩=some (.slice ka (foLen k) kc)∧foLen k≤kc∧J T1 (⟨s.d+1,ka,kc,k⟩::s.from (i+1)::A) w')∨(e= .returned (.bool false)∧Jx T1 w')):=by
 obtain⟨T1,lv1,h1,h2,h3,h4,h5,h6⟩:=h
 obtain⟨bo,oo,key,k,r,e1,e2,e3,_⟩:=zX i s.f hi
 have h7:=h6
 rw[Seg.from,e1] at h7
 obtain⟨b,off,ea,hy⟩:=hB.yield h2.sub h7
 obtain⟨o0,ha,rfl⟩:=zhp ea
 refine⟨T1,lv1,b,o0,bo,oo,key,k,r,ha,e1,e2,e3,h1,h2,h3,h4,h5,h6,YieldAt.mono hy fun e w' hh=>⟨hh.1,hh.2.imp ?_ id⟩⟩
 rintro ⟨he,ka,kc,c1,c2,c3⟩
 refine⟨he,ka,kc,c1,c2,?_⟩
 have e4:s.from (i+1)=⟨s.d,some ⟨b,o0+i*4+4,none⟩,s.cap - i - 1,r⟩:=by rw[Seg.from,zhq ea,e2];rfl
 rw[e4];exact c3
theorem zhJ (hB:Body P m l J Jx){T1:Nat→Prop}{lv1:Value}{i:Nat}{wr w' :World}{b o0 kc:Nat}{ka:Option Addr}{k:Fo}(h1:kC T0 T1 w0 wr LB FB lv lv1)(h2:Its T1 wr l LB YB FB DB lv1 L false)(h3:T1 X)(h4:wr.heap[X]? =some (.cells #[.int .i64 (s.d:Int),s.v] 109 (0,0)))(h5:lv1.ownBlock≠some X)
 (hk:Kept T1 wr w') (c1:w'.cell? ⟨b,o0+i*4+3,none⟩=some (.slice ka (foLen k) kc)) (hJ:J T1 (⟨s.d+1,ka,kc,k⟩::s.from (i+1)::A) w') (W:World) (hW:Below (w'.setCell ⟨FB,0,none⟩ (.bool false)).heap.size (w'.setCell ⟨FB,0,none⟩ (.bool false)) W):
 kC T0 T1 w0 W LB FB lv lv1∧Its T1 W l LB YB FB DB lv1 L false∧W.heap[X]? =some (.cells #[.int .i64 (s.d:Int),s.v] 109 (0,0))∧W.cell? ⟨b,o0+i*4+3,none⟩=some (.slice ka (foLen k) kc)∧J T1 (⟨s.d+1,ka,kc,k⟩::s.from (i+1)::A) W∧wr.heap.size≤W.heap.size:=by
 have hsz:(w'.setCell ⟨FB,0,none⟩ (.bool false)).heap.size=w'.heap.size:=by simp[World.setCell]
 rw[hsz] at hW
 have hws:=hW.size
 rw[hsz] at hws
 have hks:=hk.1
 have hfb':=(hk.2 _ h2.hf).trans h2.flag
 have hF:(w'.setCell ⟨FB,0,none⟩ (.bool false)).heap[FB]? =some (.cells #[.bool false] 4 (0,0)):=by
  have:=hssQ w' FB 0 _ _ (.bool false) hfb'
  rw[this];rfl
 have hblk:∀x,x<w'.heap.size→x≠FB→W.heap[x]? =w'.heap[x]?:=fun x hx hn=>(hW.block x hx).trans (BhsQ _ _ _ _ hn)
 have hsub:=h2.sub
 have hTk:∀x,T1 x→x≠FB→W.heap[x]? =wr.heap[x]?:=fun x hx hn=>(hblk x (by have:=hsub x hx;omega) hn).trans (hk.2 x hx)
 have hFW:W.heap[FB]? =some (.cells #[.bool false] 4 (0,0)):=(hW.block FB (by have:=hsub _ h2.hf;omega)).trans hF
 have ht:zh w' W T1:=⟨hW.os,hW.tape,hW.output,hws,fun x hx hn=>hblk x hx (fun e=>hn (e▸h2.hf))⟩
 have hXF:X≠FB:=zY h4 h2.flag ug7
 refine⟨⟨h1.wide,h1.new,by have:=h1.size;omega,fun x hx n1 n2 n3=>(hTk x (h1.wide x hx) n2).trans (h1.same x hx n1 n2 n3),h1.row⟩,h2.zfy hTk hFW (fun x hx=>hx) (fun x hx=>by have:=hsub x hx;omega),(hTk X h3 hXF).trans h4,?_,hB.turn hJ ht (fun x hx=>Or.inl hx),by omega⟩
 have hbF:b≠FB:=fun e=>by
  rw[e,zf3 hfb' om] at c1;cases c1
 exact (World.cell?_of_block (hblk b (World.block_lt_of_cell? _ _ c1) hbF)).trans c1
theorem zga {T1:Nat→Prop}{lv1:Value}{wr w' :World}{k:Nat}(h1:kC T0 T1 w0 wr LB FB lv lv1)(h2:Its T1 wr l LB YB FB DB lv1 L false)(hB:Body P m l J Jx)(hk:Kept T1 wr w')(hJ:Jx T1 w'):zbt J Jx M k l LB YB FB DB T0 s A L lv w0 (.returned (.bool false)) (w'.setCell ⟨FB,0,none⟩ (.bool true)):=by
 have hsz:(w'.setCell ⟨FB,0,none⟩ (.bool true)).heap.size=w'.heap.size:=by simp[World.setCell]
 have hfb':=(hk.2 _ h2.hf).trans h2.flag
 have hF:(w'.setCell ⟨FB,0,none⟩ (.bool true)).heap[FB]? =some (.cells #[.bool true] 4 (0,0)):=by
  have:=hssQ w' FB 0 _ _ (.bool true) hfb'
  rw[this];rfl
 have ht:zh w' (w'.setCell ⟨FB,0,none⟩ (.bool true)) T1:=zh.setCell (a:=⟨FB,0,none⟩) h2.hf _
 have hTk:∀x,T1 x→x≠FB→(w'.setCell ⟨FB,0,none⟩ (.bool true)).heap[x]? =wr.heap[x]?:=fun x hx hn=>(BhsQ _ _ _ _ hn).trans (hk.2 x hx)
 have h0:=h1.size
 have h01:=hk.1
 refine⟨false,true,T1,lv1,[],rfl,⟨h1.wide,h1.new,by omega,fun x hx n1 n2 n3=>(hTk x (h1.wide x hx) n2).trans (h1.same x hx n1 n2 n3),h1.row⟩,?_,Or.inr ⟨rfl,NzlQ _,Or.inr ⟨rfl,hB.zd8 hJ ht (fun x hx=>Or.inl hx)⟩⟩⟩
 rw[List.append_nil]
 exact h2.zfy hTk hF (fun x hx=>hx) (fun x hx=>by have:=h2.sub x hx;omega)
theorem zbS {w0 W w5:World}{T0 T1 T2:Nat→Prop}{lv1 lv2:Value}{X:Nat}{o:Obj}(hx:W.heap[X]? =some (.cells #[.int .i64 (s.d:Int),s.v] 109 (0,0)))(h2:Its T1 W l LB YB FB DB lv1 L false)(h3:T1 X)(h5:lv1.ownBlock≠some X)(g1:kC T1 T2 W w5 LB FB lv1 lv2):
 w5.heap[X]? =some (.cells #[.int .i64 (s.d:Int),s.v] 109 (0,0))∧lv2.ownBlock≠some X:=by
 refine⟨(g1.same X h3 (zY hx h2.later ug7) (zY hx h2.flag ug7) h5).trans hx,fun e=>?_⟩
 rcases g1.row with h | h
 · rw[h] at e;exact h5 e
 · have:=h _ e;have:=h2.sub _ h3;omega
theorem zgc {T1 T2:Nat→Prop}{lv1 lv2:Value}{W w5:World}{lf:Bool}{A2:List Seg}{s2:Seg}{i k:Nat}(hx:W.heap[X]? =some (.cells #[.int .i64 (s.d:Int),s.v] 109 (0,0)))(h1:kC T0 T1 w0 W LB FB lv lv1)(h2:Its T1 W l LB YB FB DB lv1 L false)(h3:T1 X)(h5:lv1.ownBlock≠some X)(hs:∀x,T0 x→x<w0.heap.size)
 (g1:kC T1 T2 W w5 LB FB lv1 lv2) (g2:Its T2 w5 l LB YB FB DB lv2 (L++A2) lf) (g3:Qc J Jx M k s2 (s.from (i+1)::A) A2 T2 true lf w5):Qb J l LB YB FB DB T0 w0 s A L lv X (i+1) w5:=by
 obtain⟨c1,c2⟩:=zbS (o:= .loop default) (w0:=w0) (T0:=T0) hx h2 h3 h5 g1
 rcases g3 with ⟨_,rfl,rfl,hJ⟩ | ⟨hf,_⟩
 · rw[List.append_nil] at g2
   exact⟨T2,lv2,h1.trans g1 hs,g2,g1.wide X h3,c1,c2,hJ⟩
 · cases hf
theorem zfN {T2:Nat→Prop}{lv2:Value}{w5 V0 w6:World}{lf:Bool}{L2:List Seg}{sg:Seg}{gg m cap' :Nat}(h2:Its T2 w5 l LB YB FB DB lv2 L2 lf)(hV:Below w5.heap.size w5 V0)(hm:m=L2.length)
 (hown:w6.ownsRow 0 109 2 (.slice (some ⟨gg,0,none⟩) (m+1) cap') (m+1) (L2.flatMap Seg.cells++sg.cells)) (hg:V0.grownBy w6 lv2.ownBlock) (hat:lv2.ownBlock=some gg∨V0.heap.size≤gg):
 ∃ T3,kC T2 T3 w5 (w6.setCell ⟨LB,0,none⟩ (.slice (some ⟨gg,0,none⟩) (m+1) cap')) LB FB lv2 (.slice (some ⟨gg,0,none⟩) (m+1) cap')∧Its T3 (w6.setCell ⟨LB,0,none⟩ (.slice (some ⟨gg,0,none⟩) (m+1) cap')) l LB YB FB DB (.slice (some ⟨gg,0,none⟩) (m+1) cap') (L2++[sg]) lf∧
  zh w5 (w6.setCell ⟨LB,0,none⟩ (.slice (some ⟨gg,0,none⟩) (m+1) cap')) T2∧kG T2 T3 w5 (w6.setCell ⟨LB,0,none⟩ (.slice (some ⟨gg,0,none⟩) (m+1) cap')):=by
 subst hm
 obtain⟨n1,n2,n3,n4,n5,n6,n7⟩:=h2.zeZ
 have hsz:(w6.setCell ⟨LB,0,none⟩ (.slice (some ⟨gg,0,none⟩) (L2.length+1) cap')).heap.size=w6.heap.size:=by simp[World.setCell]
 have hs1:=hV.size
 have hs2:=hg.size
 have hLw:=h2.sub _ h2.hl
 have hgb:=zk hown (g:=gg) rfl
 have h6:∀x,x<w5.heap.size→lv2.ownBlock≠some x→w6.heap[x]? =w5.heap[x]?:=fun x hx hn=>(hg.block x om (fun e=>hn e.symm)).trans (hV.block x hx)
 have h7:∀x,x<w5.heap.size→x≠LB→lv2.ownBlock≠some x→(w6.setCell ⟨LB,0,none⟩ (.slice (some ⟨gg,0,none⟩) (L2.length+1) cap')).heap[x]? =w5.heap[x]?:=fun x hx hl hn=>(BhsQ _ _ _ _ hl).trans (h6 x hx hn)
 have hLne:lv2.ownBlock≠some LB:=fun e=>(n7 _ e).1 rfl
 have hLB:w6.heap[LB]? =some (.cells #[lv2] 110 (0,0)):=(h6 LB hLw hLne).trans h2.later
 have hLB' :(w6.setCell ⟨LB,0,none⟩ (.slice (some ⟨gg,0,none⟩) (L2.length+1) cap')).heap[LB]? =some (.cells #[.slice (some ⟨gg,0,none⟩) (L2.length+1) cap'] 110 (0,0)):=by
  have:=hssQ w6 LB 0 _ _ (.slice (some ⟨gg,0,none⟩) (L2.length+1) cap') hLB
  rw[this];rfl
 have hggL:gg≠LB:=fun e=>by
  rcases hat with h | h
  · exact (n7 _ h).1 e
  · omega
 have hT3:∀g,(Value.slice (some ⟨gg,0,none⟩) (L2.length+1) cap').ownBlock=some g→T2 g∨(w5.heap.size≤g∧g<w6.heap.size):=fun g e=>by
  cases e
  rcases hat with h | h
  · exact Or.inl (h2.hr _ h)
  · exact Or.inr ⟨(show w5.heap.size≤gg by omega),hgb.2⟩
 refine⟨fun x=>T2 x∨(w5.heap.size≤x∧x<w6.heap.size),⟨fun x hx=>Or.inl hx,fun x hx=>hx.imp id (fun h=>h.1),by omega,fun x hx a1 _ a3=>h7 x (h2.sub x hx) a1 a3,?_⟩,?_,⟨?_,?_,?_,by omega,fun x hx hn=>h7 x hx (fun e=>hn (e▸h2.hl)) (fun e=>hn (h2.hr _ e))⟩,fun x hx=>by rw[hsz];exact hx⟩
 · rcases hat with h | h
   · exact Or.inl h.symm
   · exact Or.inr fun g e=>by cases e;show w5.heap.size≤gg;omega
 · refine h2.zik (fun x hx a1 a3=>h7 x (h2.sub x hx) a1 a3) hLB' ?_ hT3 (fun x hx=>Or.inl hx) (fun x hx=>?_)
   · rw[LlaQ,List.flatMap_append]
     have e: [sg].flatMap Seg.cells=sg.cells:=by simp
     rw[e]
     exact zH hown (fun g cur hc hgo=>by cases hgo;exact BhsQ _ _ _ _ hggL)
   · rw[hsz]
     rcases hx with hx | hx
     · have:=h2.sub x hx;omega
     · exact hx.2
 · exact hg.os.trans hV.os
 · exact hg.tape.trans hV.tape
 · exact hg.output.trans hV.output
theorem Jk:∀(j:Nat) (f:Fo),zb (zq j f)≤zb f
 | 0,_=>NlrQ _
 | _+1,.nil=>by simp[zq]
 | j+1,.node _ _ _ l r=>by have:=Jk j r;simp only[zq,zb];omega
theorem YO:∀(j:Nat) (f:Fo),foLen (zq j f)=foLen f - j
 | 0,_=>rfl
 | _+1,.nil=>by simp[zq,foLen]
 | j+1,.node _ _ _ l r=>by rw[zq,YO j r];simp only[foLen];omega
theorem zgd (hB:Body P m l J Jx){T1:Nat→Prop}{lv1 lv3:Value}{wr w7:World}(hs:∀x,T0 x→x<w0.heap.size)(hok:Qf M s)(hne:s.f≠ .nil)(h1:kC T0 T1 w0 wr LB FB lv lv1)(hJ:J T1 (s::A) wr)
 (h:∃T3,kC T1 T3 wr w7 LB FB lv1 lv3∧Its T3 w7 l LB YB FB DB lv3 (L++[s]) false∧zh wr w7 T1∧kG T1 T3 wr w7):zbt J Jx M 0 l LB YB FB DB T0 s A L lv w0 (.returned (.bool false)) w7:=by
 obtain⟨T3,g1,g2,g3,g4⟩:=h
 refine⟨false,false,T3,lv3,[s],rfl,h1.trans g1 hs,g2,Or.inr ⟨rfl,zas hne,Or.inl ⟨rfl,hB.turn hJ g3 g4,fun x hx=>?_,?_,fun h=>absurd h (Nat.lt_irrefl _)⟩⟩⟩
 · rw[List.mem_singleton] at hx;subst hx;exact⟨hok,hne⟩
 · rw[yh,qW];omega
section
variable {T1 T2:Nat→Prop} {lv1 lv2 lv3:Value} {W w5 w7:World} {lf:Bool} {A2:List Seg} {ka:Option Addr} {kc:Nat} {kd r:Fo} {bo oo:Nat} {key:Int×Int×ByteArray} {i k:Nat}
theorem YN {f:Fo}(e1:zq i f= .node bo oo key kd r):zb kd+zb r+1≤zb f:=by
 have:=Jk i f
 rw[e1] at this;simp only[zb] at this;omega
theorem zhK (hB:Body P m l J Jx)(hs:∀x,T0 x→x<w0.heap.size)(e1:zq i s.f= .node bo oo key kd r)(hl:foLen s.f=i+1)(h1:kC T0 T1 w0 W LB FB lv lv1)(g1:kC T1 T2 W w5 LB FB lv1 lv2)(g2:Its T2 w5 l LB YB FB DB lv2 (L++A2) lf)
 (g3:Qc J Jx M (k - 1) ⟨s.d+1,ka,kc,kd⟩ (s.from (i+1)::A) A2 T2 false lf w5):zbt J Jx M k l LB YB FB DB T0 s A L lv w0 (.returned (.bool false)) w5:=by
 have hsz:=YN e1
 refine⟨false,lf,T2,lv2,A2,rfl,h1.trans g1 hs,g2,Or.inr ⟨rfl,?_⟩⟩
 rcases g3 with ⟨hf,_⟩ | ⟨_,g4,g5⟩
 · cases hf
 simp only at g4 g5
 refine⟨by omega,g5.imp ?_ id⟩
 rintro ⟨e,hJ,h3,h4,_⟩
 refine⟨e,?_,h3,by omega,fun _=>by omega⟩
 have e5:s.from (i+1)=⟨s.d,adv s.a (i+1),s.cap - (i+1),.nil⟩:=by simp[Seg.from,qK (i+1) s.f om]
 rw[e5] at hJ
 exact hB.empty hJ
theorem zgb (hB:Body P m l J Jx)(hs:∀x,T0 x→x<w0.heap.size)(hok:Qf M s)(e1:zq i s.f= .node bo oo key kd r)(e2:zq (i+1) s.f=r)(hl:i+1<foLen s.f)(h1:kC T0 T1 w0 W LB FB lv lv1)(g1:kC T1 T2 W w5 LB FB lv1 lv2)(hs1:∀x,T1 x→x<W.heap.size)
 (g3:Qc J Jx M (k - 1) ⟨s.d+1,ka,kc,kd⟩ (s.from (i+1)::A) A2 T2 false lf w5)
 (h:∃T3,kC T2 T3 w5 w7 LB FB lv2 lv3∧Its T3 w7 l LB YB FB DB lv3 (L++A2++[s.from (i+1)]) lf∧zh w5 w7 T2∧kG T2 T3 w5 w7):zbt J Jx M k l LB YB FB DB T0 s A L lv w0 (.returned (.bool false)) w7:=by
 obtain⟨T3,k1,k2,k3,k4⟩:=h
 have hsz:=YN e1
 have hr1:=YO (i+1) s.f
 rw[e2] at hr1
 have hrn:r≠ .nil:=fun e=>by rw[e] at hr1;simp only[foLen] at hr1;omega
 have e5:(s.from (i+1)).f=r:=by simp only[Seg.from];exact e2
 refine⟨false,lf,T3,lv3,A2++[s.from (i+1)],rfl,h1.trans (g1.trans k1 hs1) hs,by rw[←List.append_assoc];exact k2,Or.inr ⟨rfl,?_⟩⟩
 rcases g3 with ⟨hf,_⟩ | ⟨_,g4,g5⟩
 · cases hf
 simp only at g4 g5
 have hrp:=zas hrn
 refine⟨by rw[LlaQ,List.length_singleton];omega,g5.imp ?_ ?_⟩
 · rintro ⟨e,hJ,h3,h4,_⟩
   have hag:yB (A2++[s.from (i+1)])=yB A2+zb r:=by rw[yN,yh,qW,e5];omega
   refine⟨e,?_,fun x hx=>?_,by omega,fun _=>by omega⟩
   · rw[List.append_assoc];exact hB.turn hJ k3 k4
   · rcases List.mem_append.1 hx with hx | hx
     · exact h3 x hx
     · rw[List.mem_singleton] at hx;subst hx
       refine⟨⟨?_,?_⟩,by rw[e5];exact hrn⟩
       · have:=hok.deep;rw[e5];simp only[Seg.from];omega
       · have:=hok.cap;rw[e5,hr1];simp only[Seg.from];omega
 · rintro ⟨e,hJ⟩
   exact⟨e,hB.zd8 hJ k3 k4⟩
end
theorem Tryz.zhU:(Tryz.prog.info? 109).map (fun i=>(i.size,i.bytes,i.zero.map (fun z=>z.cells.size)))=some (2,32,some 2):=by kernel_rfl
theorem yw {P:Program}{e:TypeId}{size bytes:Nat}(h:(P.info? e).map (fun i=>(i.size,i.bytes,i.zero.map (fun z=>z.cells.size)))=some (size,bytes,some size)):
 ∃i z,P.info? e=some i∧i.zero=some z∧i.size=size∧i.bytes=bytes∧z.cells.size=size:=by
 exact sd9
end
theorem zda {m l :Nat}{J:(Nat→Prop)→List Seg→World→Prop}{Jx:(Nat→Prop)→World→Prop}(hB:Body Tryz.prog m l J Jx)(M LB YB FB DB:Nat)(hM:M≤1000000000)(k:Nat)(hk:k≤1000)(ih:k=0∨zed J Jx M l LB YB FB DB (k - 1)):zed J Jx M l LB YB FB DB k:=by
 intro T w s A L lv hI hJ hok hlen
 have hst:=zeE hB hI hJ
 obtain⟨sd,sa,sc,sf⟩:=s
 obtain⟨n,hn⟩:∃n,n=foLen sf:=⟨_,rfl⟩
 have hcap:n≤sc:=by have:=hok.cap;simp only at this;omega
 have hn6:n≤1000000:=by have:=zL sf;simp only at hlen;omega
 simp only[Seg.v] at hst ⊢
 rw[←hn] at hst ⊢
 have HN:=hH hn
 have HS:=hH hst
 have HP:=hH (aN hI (aN hJ (aN hok (aN hlen hM))))
 clear hst hI hJ hok hlen hn hM
 refine (callsIn_wide (n:=6)).1 ?_
 refine callsIn_of_wp Tryz.func67 rfl trivial ?_ rfl
 simp only[Tryz.ntmps67,List.size_toArray,LlcQ,List.length_nil,Nat.reduceAdd,Nat.reduceSub,Array.replicate_succ,Array.replicate_zero,List.push_toArray,List.append_toArray,List.nil_append,List.cons_append]
 gi_wp2
 gi_loopw [14] (fun i wr=>∃j:Nat,j≤n∧(k=0→j=0)∧i= .int .i64 j∧Hid (Qb J l LB YB FB DB T w ⟨sd,sa,sc,sf⟩ A L lv w.heap.size j wr)) (fun i _=>n - (intOf i).toNat)
 case atStart=>exact⟨0,NzlQ _,fun _=>rfl,rfl,HS⟩
 case round =>
  obtain⟨j,hj,hjk,rfl,hh⟩:=hrel
  by_cases hlt:j<n
  · obtain ⟨T1, lv1,b,o0,bo,oo,key,kd,r,rfl,e1,e2,e3,w1,w2,w3,w4,w5,w6,hy⟩:=zeD (J:=J) (s:=⟨sd,sa,sc,sf⟩) hB hh.out (by have:=HN.out;simp only;omega)
    obtain⟨fn,tmps,assign,body,hy,hR⟩:=YieldAt.QJ 5 hy
    have hji:(j:Int)<(n:Int):=by omega
    have hj0:(0:Int)≤(j:Int):=by omega
    simp only[Seg.v] at w4
    rw[←HN.out] at w4
    have x0:wr.cell? ⟨w.heap.size,0,none⟩=some (.int .i64 (sd:Int)):=by rw[corQ _ _ 0 _ _ _ w4];rfl
    have x1:wr.cell? ⟨w.heap.size,1,none⟩=some (.slice (some ⟨b,o0,none⟩) n sc):=by rw[corQ _ _ 1 _ _ _ w4];rfl
    by_cases hk0:k=0
    · subst hk0
      have hj0':=hjk rfl
      subst hj0'
      rw[Seg.zbJ] at w6
      obtain⟨la,lc,hlv⟩:=zy w2.row
      obtain⟨m,hme⟩:∃m,m=L.length:=⟨_,rfl⟩
      rw[←hme] at hlv
      subst hlv
      have h5row:=w2.row
      rw[←hme] at h5row
      have hm6:m≤1000000:=by have h1:=HP.out.2.2.2.1;omega
      have hLB:=w2.later
      have l0:wr.cell? ⟨LB,0,none⟩=some (.slice la m lc):=by rw[corQ _ _ 0 _ _ _ hLB];rfl
      have l1:wr.frozen? ⟨LB,0,none⟩=false:=forQ _ _ 0 _ _ hLB
      have hLBl:=lohQ hLB
      have hlne:(Value.slice la m lc).ownBlock≠some LB:=fun e=>(w2.zeZ.2.2.2.2.2.2 LB e).1 rfl
      have HROW:=hH (aN h5row (aN hme (aN hLBl (aN hlne (aN l0 l1)))))
      have HX:=hH (aN w1 (aN w2 w6))
      obtain⟨i0,z0,hi0,hz0,hz1,hz2,hz3⟩:=yw Tryz.zhU
      have HI:=hH (aN hi0 (aN hz0 (aN hz1 (aN hz2 hz3))))
      clear h5row hLB hi0 hz0 hz1 hz2 hz3 hme hLBl hlne w1 w2 w3 w4 w5 w6 e1 e2 e3 hR hy hh hjk
      gi_wp2_with (gi_at_builtin;refine kz _ rfl (.tmp 19) (.tmp 21) _ rfl 0 109 i0 z0 2 32 Tryz.underlying110 HI.out.1 HI.out.2.1 HI.out.2.2.1 HI.out.2.2.2.1 HI.out.2.2.2.2 om (.slice la m lc) m _ rfl (HROW.out.1.alloc _) ⟨wr.heap.size,0,none⟩ 1 1 [.int .i64 (sd:Int),.slice (some ⟨b,o0,none⟩) n sc] rfl rfl (World.news_of_block (hanQ wr _)) uf6 uf7 om sp1 ?_;intro v' w6 hown6 hgrow hat;obtain⟨gg,cap',rfl⟩:=ownsRow_succ hown6;have c1w:=(hgrow.cell_far (a:=⟨LB,0,none⟩) ud8 (Ne.symm HROW.out.2.2.2.1)).trans ((World.cell?_of_block (BhaQ wr _ LB HROW.out.2.2.1)).trans HROW.out.2.2.2.2.1);have f1w:=(hgrow.frozen_far (a:=⟨LB,0,none⟩) ud8 (Ne.symm HROW.out.2.2.2.1)).trans ((World.frozen?_of_block (BhaQ wr _ LB HROW.out.2.2.1)).trans HROW.out.2.2.2.2.2))
      have hcl:(Seg.mk sd (some ⟨b,o0,none⟩) sc sf).cells= [.int .i64 (sd:Int),.slice (some ⟨b,o0,none⟩) n sc]:=by simp[Seg.cells,Seg.v,←HN.out]
      rw[←hcl] at hown6
      go_ret
      exact zgd (s:=⟨sd,some ⟨b,o0,none⟩,sc,sf⟩) hB HP.out.1.sub HP.out.2.2.1 (fun e=>by have h1:=HN.out;simp only at e;rw[e] at h1;simp only[foLen] at h1;omega) HX.out.1 HX.out.2.2 (zfN (V0:=wr.alloc _) HX.out.2.1 ((BrQ _ wr).alloc (NlrQ _) _) HROW.out.2.1 hown6 hgrow (hat.elim (fun e=>Or.inl e.symm) (fun e=>Or.inr (Nat.le_of_eq (Option.some.inj e).symm))))
    · have ih := ih.resolve_left hk0
      · have hk1 :((k:Int) == 0)=false:=by simpa using hk0
        have y0:wr.cell? ⟨YB,0,none⟩=some (.func (.yield l) #[] #[]):=by rw[corQ _ _ 0 _ _ _ w2.yld];rfl
        have HX:=hH (aN w1 (aN w2 (aN w3 (aN w4 (aN w5 (aN w6 (aN e1 (aN e2 e3))))))))
        have HR:=hH hR
        clear w1 w2 w3 w4 w5 w6 e1 e2 e3 hR hh
        gi_wp2
        refine HR.out.mono ?_
        clear HR hy
        rintro e w' ⟨hkp,(⟨rfl,ka,kc,c1,c2,c3⟩ | ⟨rfl,hx⟩)⟩
        · have fl:=(hkp.2 FB HX.out.2.1.hf).trans HX.out.2.1.flag
          have f0:w'.cell? ⟨FB,0,none⟩=some (.bool false):=by rw[corQ _ _ 0 _ _ _ fl];rfl
          have f1:w'.frozen? ⟨FB,0,none⟩=false:=forQ _ _ 0 _ _ fl
          have hmid:=fun W hW=>zhJ (s:=⟨sd,some ⟨b,o0,none⟩,sc,sf⟩) hB HX.out.1 HX.out.2.1 HX.out.2.2.1 (by simp only[Seg.v];rw[←HN.out];exact HX.out.2.2.2.1) HX.out.2.2.2.2.1 hkp c1 c3 W hW
          have HM:=hH hmid
          clear hmid hkp fl c1 c3
          gi_wp2
          have hWb:Below (w'.setCell ⟨FB,0,none⟩ (.bool false)).heap.size (w'.setCell ⟨FB,0,none⟩ (.bool false)) (w'.setCell ⟨FB,0,none⟩ (.bool false)).drew:=⟨rfl,rfl,rfl,NlrQ _,fun _ _=>rfl⟩
          obtain⟨W,hW⟩:∃W,W=(w'.setCell ⟨FB,0,none⟩ (.bool false)).drew:=⟨_,rfl⟩
          rw[←hW] at hWb
          obtain⟨m1,m2,m3,m4,m5,m6⟩:=HM.out W hWb
          have c4:W.cell? ⟨b,o0+j*4+3,none⟩=some (.slice ka (foLen kd) kc):=m4
          have d0:W.cell? ⟨DB,0,none⟩=some (.func (.func 67) #[] #[.pointer (some ⟨LB,0,none⟩),.pointer (some ⟨YB,0,none⟩),.pointer (some ⟨FB,0,none⟩),.pointer (some ⟨DB,0,none⟩)]):=by rw[corQ _ _ 0 _ _ _ m2.down];rfl
          simp only[Seg.v] at m3
          rw[←HN.out] at m3
          have z0:W.cell? ⟨w.heap.size,0,none⟩=some (.int .i64 (sd:Int)):=by rw[corQ _ _ 0 _ _ _ m3];rfl
          have hcall:=ih T1 W ⟨sd+1,ka,kc,kd⟩ (Seg.from ⟨sd,some ⟨b,o0,none⟩,sc,sf⟩ (j+1)::A) L lv1 m2 m5 ⟨by have:=HP.out.2.2.1.deep;have:=HX.out.2.2.2.2.2.2.2.2;simp only at*;omega,c2⟩ (by have:=HP.out.2.2.2.1;have:=HX.out.2.2.2.2.2.2.2.2;simp only at*;omega)
          simp only[Seg.v] at hcall
          have hk1' :((k - 1:Nat):Int)=(k:Int) - 1:=by omega
          have hd1' :((sd+1:Nat):Int)=(sd:Int)+1:=by omega
          rw[hk1',hd1'] at hcall
          have hdb:(sd:Int)+1≤1000000000:=by have:=HP.out.2.2.1.deep;have:=HP.out.2.2.2.2;have:=zas (f:=sf) (fun e=>by have:=HN.out;rw[e] at this;simp only[foLen] at this;omega);simp only at*;omega
          have hd0:(0:Int)≤(sd:Int):=by omega
          have hk0' :(0:Int)≤(k:Int):=by omega
          have hkl:(k:Int)≤1000:=by omega
          have HC:=hH hcall
          have HW:=hH (aN m1 (aN m2 (aN m3 m5)))
          have HWe:=hH hW
          clear hcall m1 m2 m3 m4 m5 m6 hk1' hd1' hWb HM f0 f1 hW
          refine wpIn_wide.2 ?_
          refine wp_region_still_tail 11 kr1 kr1 ?_
          simp only[List.take_succ_cons,List.take_zero,List.drop_succ_cons,List.drop_zero]
          have hdr:({ heap:=(w'.setCell ⟨FB,0,none⟩ (.bool false)).heap,tape:=(w'.setCell ⟨FB,0,none⟩ (.bool false)).tape,drawn:=(w'.setCell ⟨FB,0,none⟩ (.bool false)).drawn+1,os:=(w'.setCell ⟨FB,0,none⟩ (.bool false)).os,output:=(w'.setCell ⟨FB,0,none⟩ (.bool false)).output }:World)=W:=HWe.out.symm
          rw[hdr]
          clear hdr
          repeat still_step
          try refine wpStill_nil ?_
          have q1:IntKind.i64.wrap ((sd:Int)+1)=(sd:Int)+1:=IntWalk.i64_in _ om
          have q2:IntKind.i64.wrap ((k:Int) - 1)=(k:Int) - 1:=IntWalk.i64_in _ om
          rw[q1,q2]
          clear hy x0 x1 y0 hk1 q1 q2
          go_wp2_with fail
          refine HC.out.mono ?_
          rintro e w5 ⟨bl,lf,T2,lv2,A2,rfl,g1,g2,g3⟩
          cases bl with
          | true=>
            have HE:=hH (zgc (s:=⟨sd,some ⟨b,o0,none⟩,sc,sf⟩) (by simp only[Seg.v];rw[←HN.out];exact HW.out.2.2.1) HW.out.1 HW.out.2.1 HX.out.2.2.1 HX.out.2.2.2.2.1 HP.out.1.sub g1 g2 g3)
            clear g1 g2 g3 HC d0 c4 z0
            go_wp2_with fail
            gi_wp2
            go_roundw
            case rel=>exact⟨j+1,by omega,fun h=>absurd h hk0,by go_num,HE⟩
            case measure=>simp[intOf];omega
          | false=>
            have hx5:=(zbS (o:= .loop default) (w0:=w) (T0:=T) (s:=⟨sd,some ⟨b,o0,none⟩,sc,sf⟩) (by simp only[Seg.v];rw[←HN.out];exact HW.out.2.2.1) HW.out.2.1 HX.out.2.2.1 HX.out.2.2.2.2.1 g1).1
            simp only[Seg.v] at hx5
            rw[←HN.out] at hx5
            have x0:w5.cell? ⟨w.heap.size,0,none⟩=some (.int .i64 (sd:Int)):=by rw[corQ _ _ 0 _ _ _ hx5];rfl
            have x1:w5.cell? ⟨w.heap.size,1,none⟩=some (.slice (some ⟨b,o0,none⟩) n sc):=by rw[corQ _ _ 1 _ _ _ hx5];rfl
            clear hx5
            have HE:=hH (aN g1 (aN g2 g3))
            clear g1 g2 g3 HC d0 c4 z0
            by_cases hm:j+1<n
            · obtain⟨la,lc,hlv⟩:=zy HE.out.2.1.row
              obtain⟨m,hme⟩:∃m,m=(L++A2).length:=⟨_,rfl⟩
              rw[←hme] at hlv
              subst hlv
              have h5row:=HE.out.2.1.row
              have hLB:=HE.out.2.1.later
              rw[←hme] at h5row
              have hm6:m≤2000000:=by
               have h1:=HP.out.2.2.2.1
               have h3:A2.length≤zb kd:=by rcases HE.out.2.2 with ⟨hf,_⟩ | ⟨_,h,_⟩;cases hf;exact h
               have h4:=YN HX.out.2.2.2.2.2.2.1
               rw[hme,LlaQ];omega
              have l0:w5.cell? ⟨LB,0,none⟩=some (.slice la m lc):=by rw[corQ _ _ 0 _ _ _ hLB];rfl
              have l1:w5.frozen? ⟨LB,0,none⟩=false:=forQ _ _ 0 _ _ hLB
              have hLBl:=lohQ hLB
              have hlne:(Value.slice la m lc).ownBlock≠some LB:=fun e=>(HE.out.2.1.zeZ.2.2.2.2.2.2 LB e).1 rfl
              have HROW:=hH (aN h5row (aN hme (aN hLBl hlne)))
              obtain⟨i0,z0,hi0,hz0,hz1,hz2,hz3⟩:=yw Tryz.zhU
              have HI:=hH (aN hi0 (aN hz0 (aN hz1 (aN hz2 hz3))))
              have hmi:(j:Int)+1<(n:Int):=by omega
              clear h5row hLB hi0 hz0 hz1 hz2 hz3 hme hLBl hlne
              go_wp2_with fail
              gi_wp2
              refine wpIn_wide.2 ?_
              have hcs:j+1<sc:=by omega
              have hcs2:¬sc=j+1:=by omega
              have l0a:(w5.alloc (.cells #[.int .i64 (sd:Int),.slice (some ⟨b,o0+(j+1)*4,none⟩) (n - (j+1)) (sc - (j+1))] 109)).cell? ⟨LB,0,none⟩=some (.slice la m lc):=(World.cell?_of_block (BhaQ w5 _ LB HROW.out.2.2.1)).trans l0
              have hjle:(j:Int)+1≤(n:Int):=by omega
              have hj10:(0:Int)≤(j:Int)+1:=by omega
              have hjn:((j:Int)+1).toNat=j+1:=by omega
              have hjw:IntKind.i64.wrap ((j:Int)+1)=(j:Int)+1:=IntWalk.i64_in _ om
              go_region_law (first
               | (refine step_append_lies _ ug8 _ _ _ ug8 0 109 i0 z0 2 32 Tryz.underlying110 HI.out.1 HI.out.2.1 HI.out.2.2.1 HI.out.2.2.2.1 HI.out.2.2.2.2 om (.slice la m lc) m ((L++A2).flatMap Seg.cells) ug8 (HROW.out.1.alloc _) ⟨w5.heap.size,0,none⟩ 1 1 [.int .i64 (sd:Int),.slice (some ⟨b,o0+(j+1)*4,none⟩) (n - (j+1)) (sc - (j+1))] ug8 ug8 (World.news_of_block (hanQ w5 _)) uf6 om uf7 om sp1 (w5.heap.size+1) sp1 ?_;intro gg cap' w6 hown6 hgrow hat hlt6;have c1w:=(hgrow.cell_far (a:=⟨LB,0,none⟩) ud8 (Ne.symm HROW.out.2.2.2)).trans ((World.cell?_of_block (BhaQ w5 _ LB HROW.out.2.2.1)).trans l0);have f1w:=(hgrow.frozen_far (a:=⟨LB,0,none⟩) ud8 (Ne.symm HROW.out.2.2.2)).trans ((World.frozen?_of_block (BhaQ w5 _ LB HROW.out.2.2.1)).trans l1)))
              all_goals
               have hcl:(Seg.from ⟨sd,some ⟨b,o0,none⟩,sc,sf⟩ (j+1)).cells= [.int .i64 (sd:Int),.slice (some ⟨b,o0+(j+1)*4,none⟩) (n - (j+1)) (sc - (j+1))]:=by simp[Seg.cells,Seg.v,Seg.from,adv,YO,←HN.out]
               rw[←hcl] at hown6
               have HF:=hH (zgb (s:=⟨sd,some ⟨b,o0,none⟩,sc,sf⟩) hB HP.out.1.sub HP.out.2.2.1 HX.out.2.2.2.2.2.2.1 HX.out.2.2.2.2.2.2.2.1 (by have:=HN.out;simp only;omega) HW.out.1 HE.out.1 HW.out.2.1.sub HE.out.2.2 (zfN (V0:=(w5.alloc (.cells #[.int .i64 (sd:Int),.slice (some ⟨b,o0+(j+1)*4,none⟩) (n - (j+1)) (sc - (j+1))] 109)).drew) HE.out.2.1 ⟨rfl,rfl,rfl,by rw[World.size_drew,WsaQ];omega,fun x hx=>BhaQ _ _ _ hx⟩ HROW.out.2.1 hown6 hgrow (hat.imp id (fun e=>by rw[e,World.size_drew,WsaQ];exact NlrQ _))))
               clear hgrow hown6 hat hlt6 c1w f1w hcl hcs hcs2 l0a hjle hj10 hjn hjw
               go_wp2_with fail
               gi_wp2
               go_ret
               exact HF.out
            · have hnj:n=j+1:=by omega
              subst hnj
              clear hm hlt hji
              go_wp2_with fail
              gi_wp2
              go_ret
              exact zhK (s:=⟨sd,some ⟨b,o0,none⟩,sc,sf⟩) hB HP.out.1.sub HX.out.2.2.2.2.2.2.1 HN.out.symm HW.out.1 HE.out.1 HE.out.2.1 HE.out.2.2
        · have fl:=(hkp.2 FB HX.out.2.1.hf).trans HX.out.2.1.flag
          have f0:w'.cell? ⟨FB,0,none⟩=some (.bool false):=by rw[corQ _ _ 0 _ _ _ fl];rfl
          have f1:w'.frozen? ⟨FB,0,none⟩=false:=forQ _ _ 0 _ _ fl
          have HM:=hH (aN hkp hx)
          clear hkp fl hx
          gi_wp2
          go_ret
          exact zga (s:=⟨sd,some ⟨b,o0,none⟩,sc,sf⟩) (k:=k) HX.out.1 HX.out.2.1 hB HM.out.1 HM.out.2
  · have hji:¬(j:Int)<(n:Int):=by omega
    have HE:=hH (zhH (M:=M) (k:=k) hB hh.out (by have:=HN.out;simp only;omega))
    clear hh
    gi_wp2
    go_ret
    exact HE.out
end Go.Proofs.YtgkmmnihaiopaaaGreat
namespace Go.Proofs.YtgkmmnihaiopaaaGreat
open Go.RowKit Go.Shelf
theorem zc7 {m l:Nat}{J:(Nat→Prop)→List Seg→World→Prop}{Jx:(Nat→Prop)→World→Prop}(hB:Body Tryz.prog m l J Jx)(M LB YB FB DB:Nat)(hM:M≤1000000000):∀k,k≤1000→zed J Jx M l LB YB FB DB k
 | 0,_=>zda hB M LB YB FB DB hM 0 om (Or.inl rfl)
 | k+1,h=>zda hB M LB YB FB DB hM (k+1) h (Or.inr (by rw[Nat.add_sub_cancel];exact zc7 hB M LB YB FB DB hM k om))
theorem Qa {P:Program}(w:World){ops:Array Oper}{rest:List Oper}{o:Oper}{a:Act}{Q:Exit→Act→World→Prop}(hgd:o.guard=none)(s x:Operand)(t:TypeId)
 (ho:o.op= .call { callee:= .builtin .append,args:= #[s,x],argTypes:= #[t,t] }) (base:Nat) (e:TypeId) (i:TypeInfo) (size:Nat) (ht:P.underlying t=some (.slice e)) (hi:P.info? e=some i)
 (v:Value) (n:Nat) (xs:List Value) (hs:a.eval s=v) (hown:w.ownsRow base e size v n xs) (c:Nat) (hx:a.eval x= .slice none 0 c) (h:wpList P ops Q rest (a.put o.dst v) w):wpList P ops Q (o::rest) a w:=by
 refine wpList_plain hgd fun K hK=>?_
 have hr:(Builtin.append_ #[t,t] o.type #[v,.slice none 0 c]).run P w= .ok v w:=by
  exact se9
 unfold Oper.wp execOp
 simp only[ho,resolve,invoke,builtin,Sem.run_bind,Sem.run_pure,Result.andThen_ok,List.map_toArray,List.map_cons,List.map_nil,hs,hx,hr]
 exact hK _ _ h
section
variable (J:(Nat→Prop)→List Seg→World→Prop) (Jx:(Nat→Prop)→World→Prop) (M l LB YB FB DB:Nat)
structure J3 (T:Nat→Prop) (wr:World) (lv wv:Value) (Lw:List Seg):Prop where
 row:wr.ownsRow 0 109 2 wv Lw.length (Lw.flatMap Seg.cells)
 own:∀g,wv.ownBlock=some g→T g∧lv.ownBlock≠some g
def zjG (gk:Nat)(wv:Value)(wr:World):Prop:=
 ∃T lv L Lw lf,Its T wr l LB YB FB DB lv L lf∧J3 T wr lv wv Lw∧((lf=false∧J T Lw.reverse wr∧(∀s∈Lw,Qf M s∧s.f≠ .nil)∧yB Lw≤500000∧gk=yB Lw+1)∨(lf=true∧Jx T wr∧gk=0))
end
def zjF (J:(Nat→Prop)→List Seg→World→Prop)(Jx:(Nat→Prop)→World→Prop)(e:Ending)(V:World):Prop:=(∃v,e= .returned v)∧((∃T,J T [] V)∨∃T,Jx T V)
section
variable {P:Program} {m:Nat} {J:(Nat→Prop)→List Seg→World→Prop} {Jx:(Nat→Prop)→World→Prop} {M l LB YB FB DB:Nat}
theorem zdE:∀(L:List Seg),L= []∨∃A s,L=A++[s]:=fun L=>by
 rcases List.eq_nil_or_concat L with h | ⟨A,s,h⟩
 · exact Or.inl h
 · exact Or.inr ⟨A,s,by rw[h,List.concat_eq_append]⟩
theorem zgz {w:World}{B n cap:Nat}{a:Option Addr}{e:TypeId}{xs ys:List Value}(h:w.ownsRow B e 2 (.slice a (n+1) cap) (n+1) (xs++ys))(hn:xs.length=n*2):w.ownsRow B e 2 (.slice a n cap) n xs:=by
 rcases h.2 with ⟨hv,_⟩ | ⟨g',cap',cur,hv,hB,hh,h3,h4,h5,h6⟩
 · cases hv
 · cases hv
   refine⟨hn,Or.inr ⟨g',cap,cur,rfl,hB,hh,by omega,h4,h5,?_⟩⟩
   have h7:(cur.toList.take ((n+1)*2)).take (n*2)=(xs++ys).take (n*2):=by rw[h6]
   rw[List.take_take,Nat.min_eq_left om] at h7
   rw[h7,List.take_left' om]
theorem zgy {w:World}{B n cap:Nat}{a:Option Addr}{e:TypeId}{size:Nat}{xs:List Value}(h:w.ownsRow B e size (.slice a n cap) n xs):w.ownsRow B e size (.slice a 0 cap) 0 []:=by
 rcases h.2 with ⟨hv,_⟩ | ⟨g',cap',cur,hv,hB,hh,h3,h4,h5,h6⟩
 · cases hv;exact World.ownsRow_nil _ _ _ _
 · cases hv
   exact⟨by simp,Or.inr ⟨g',cap,cur,rfl,hB,hh,by omega,h4,h5,by simp⟩⟩
theorem zgf {T:Nat→Prop}{wr w1:World}{la wa:Option Addr}{ln lc n wc:Nat}{L Ls:List Seg}{top:Seg}(hB:Body P m l J Jx)(h:Its T wr l LB YB FB DB (.slice la ln lc) L false)(hw:J3 T wr (.slice la ln lc) (.slice wa (n+1) wc) (Ls++[top]))(hJ:J T (Ls++[top]).reverse wr)(hn:n=Ls.length)
 (h1:w1.heap=((wr.setCell ⟨LB,0,none⟩ (.slice la 0 lc)).alloc (.cells #[.int .i64 (top.d:Int),top.v] 109)).heap) (h12:w1.os=wr.os∧w1.tape=wr.tape∧w1.output=wr.output):
 ∃T2,Its T2 w1 l LB YB FB DB (.slice la 0 lc) [] false∧J3 T2 w1 (.slice la 0 lc) (.slice wa n wc) Ls∧J T2 (top::Ls.reverse) w1∧w1.cell? ⟨wr.heap.size,0,none⟩=some (.int .i64 (top.d:Int))∧w1.cell? ⟨wr.heap.size,1,none⟩=some top.v:=by
 obtain⟨n1,n2,n3,n4,n5,n6,n7⟩:=h.zeZ
 have hz0:(wr.setCell ⟨LB,0,none⟩ (.slice la 0 lc)).heap.size=wr.heap.size:=by simp[World.setCell]
 have hsz:w1.heap.size=wr.heap.size+1:=by rw[h1,WsaQ,hz0]
 have hLl:=h.sub _ h.hl
 have hblk:∀x,x<wr.heap.size→x≠LB→w1.heap[x]? =wr.heap[x]?:=fun x hx hn=>by rw[h1,BhaQ _ _ _ (by rw[hz0];exact hx),BhsQ _ _ _ _ hn]
 have hLB:w1.heap[LB]? =some (.cells #[.slice la 0 lc] 110 (0,0)):=by
  have:=hssQ wr LB 0 _ _ (.slice la 0 lc) h.later
  rw[h1,BhaQ _ _ _ (by rw[hz0];exact hLl),this];rfl
 have hX:w1.heap[wr.heap.size]? =some (.cells #[.int .i64 (top.d:Int),top.v] 109 (0,0)):=by
  have:=hanQ (wr.setCell ⟨LB,0,none⟩ (.slice la 0 lc)) (.cells #[.int .i64 (top.d:Int),top.v] 109)
  rw[hz0] at this
  rw[h1];exact this
 have ho:(Value.slice la 0 lc).ownBlock=(Value.slice la ln lc).ownBlock:=by cases la<;>rfl
 have how:(Value.slice wa n wc).ownBlock=(Value.slice wa (n+1) wc).ownBlock:=by cases wa<;>rfl
 have hrow:=h.row
 have hT:∀x,T x→(T x∨x=wr.heap.size):=fun x hx=>Or.inl hx
 have hrl:L.length=ln:=by
  rcases hrow.2 with ⟨hv,h0⟩ | ⟨g,cap,cur,hv,_⟩
  · cases hv;exact h0
  · cases hv;rfl
 rw[hrl] at hrow
 refine⟨fun x=>T x∨x=wr.heap.size,?_,⟨?_,fun g hg=>?_⟩,?_,by rw[corQ _ _ 0 _ _ _ hX];rfl,by rw[corQ _ _ 1 _ _ _ hX];rfl⟩
 · refine h.zik (fun x hx a1 a2=>hblk x (h.sub x hx) a1) hLB ?_ (fun g hg=>hT g (h.hr g (by rw[←ho];exact hg))) hT (fun x hx=>?_)
   · exact zH (zgy hrow) (fun g cur hc hgo=>hblk g (lt_of_some hc) (fun e=>(n7 g (by rw[←ho];exact hgo)).1 e))
   · rcases hx with hx | hx
     · have:=h.sub x hx;omega
     · omega
 · have hr:=hw.row
   rw[LlaQ,List.length_singleton,List.flatMap_append,←hn] at hr
   have h9:=zgz hr (by rw[zf4,hn])
   rw[←hn]
   exact zH h9 (fun g cur hc hgo=>hblk g (lt_of_some hc) (zY hc h.later ug7))
 · have:=hw.own g (by rw[←how];exact hg)
   exact⟨Or.inl this.1,by rw[ho];exact this.2⟩
 · have ht:zh wr w1 T:=by
    refine⟨h12.1,h12.2.1,h12.2.2,by omega,fun x hx hn=>hblk x hx (fun e=>hn (e▸h.hl))⟩
   rw[List.reverse_append,List.reverse_singleton,List.singleton_append] at hJ
   exact hB.turn hJ ht (fun x hx=>hx.imp id (fun e=>⟨by omega,by omega⟩))
theorem zhN {T2 T3:Nat→Prop}{w1 w5 w6:World}{la wa:Option Addr}{lc n wc:Nat}{lv3:Value}{Ls A' :List Seg}{top:Seg}{lf bl:Bool}(hB:Body P m l J Jx)(h:Its T2 w1 l LB YB FB DB (.slice la 0 lc) [] false)(hw:J3 T2 w1 (.slice la 0 lc) (.slice wa n wc) Ls)
 (g1:kC T2 T3 w1 w5 LB FB (.slice la 0 lc) lv3) (g2:Its T3 w5 l LB YB FB DB lv3 A' lf) (g3:Qc J Jx M 100 top Ls.reverse A' T3 bl lf w5) (hr:zjQ lv3 A' w5 (.returned (.tuple #[])) w6) (hok:∀s∈Ls,Qf M s∧s.f≠ .nil) (hz:zb top.f+yB Ls≤500000):
 Its T3 w6 l LB YB FB DB lv3 A'.reverse lf∧J3 T3 w6 lv3 (.slice wa n wc) Ls∧A'.length≤500000∧
  ((lf=false∧J T3 (A'++Ls.reverse) w6∧(∀s∈Ls++A'.reverse,Qf M s∧s.f≠ .nil)∧yB (Ls++A'.reverse)<zb top.f+yB Ls∨(lf=false∧A'= []∧J T3 Ls.reverse w6))∨(lf=true∧Jx T3 w6)):=by
 obtain⟨_,r1,r2⟩:=hr
 have hsz:=r2.size
 have hown:∀x,lv3.ownBlock=some x→T3 x:=g2.hr
 have hbl:∀x,T3 x→lv3.ownBlock≠some x→w6.heap[x]? =w5.heap[x]?:=fun x hx hn=>r2.block x (g2.sub x hx) hn
 have ht:zh w5 w6 T3:=⟨r2.os,r2.tape,r2.output,r2.size,fun x hx hn=>r2.block x hx (fun e=>hn (hown x e))⟩
 have hI:Its T3 w6 l LB YB FB DB lv3 A'.reverse lf:=g2.zik (fun x hx _ a2=>hbl x hx a2) ((hbl LB g2.hl (fun e=>(g2.zeZ.2.2.2.2.2.2 _ e).1 rfl)).trans g2.later) (by rw[List.length_reverse];exact r1) hown (fun x hx=>hx) (fun x hx=>by have:=g2.sub x hx;omega)
 have hne:∀g,(Value.slice wa n wc).ownBlock=some g→lv3.ownBlock≠some g:=fun g hg e=>by
  rcases g1.row with h1 | h1
  · rw[h1] at e;exact (hw.own g hg).2 e
  · have:=h1 g e;have:=h.sub g (hw.own g hg).1;omega
 refine⟨hI,⟨zH hw.row (fun g cur hc hgo=>?_),fun g hg=>⟨g1.wide g (hw.own g hg).1,hne g hg⟩⟩,?_,?_⟩
 · have ha:=hw.own g hgo
   have hcl:=zY hc h.later ug7
   have hcf:=zY hc h.flag ug7
   exact (hbl g (g1.wide g ha.1) (hne g hgo)).trans (g1.same g ha.1 hcl hcf ha.2)
 · rcases g3 with ⟨_,_,rfl,_⟩ | ⟨_,h1,_⟩
   · simp
   · omega
 · rcases g3 with ⟨_,rfl,rfl,hJ⟩ | ⟨_,h1,(⟨rfl,hJ,h2,h3,h4⟩ | ⟨rfl,hJ⟩)⟩
   · exact Or.inl (Or.inr ⟨rfl,rfl,hB.turn hJ ht (fun x hx=>Or.inl hx)⟩)
   · refine Or.inl (Or.inl ⟨rfl,hB.turn hJ ht (fun x hx=>Or.inl hx),fun s hs=>?_,?_⟩)
     · rcases List.mem_append.1 hs with hs | hs
       · exact hok s hs
       · exact h2 s (List.mem_reverse.1 hs)
     · rw[yN,J6];have:=h4 om;omega
   · exact Or.inr ⟨rfl,hB.zd8 hJ ht (fun x hx=>Or.inl hx)⟩
theorem zhM {T3:Nat→Prop}{w6 w7:World}{lv3 wv wv' :Value}{Ls A' :List Seg}{top:Seg}{lf:Bool}(hB:Body P m l J Jx)(h:Its T3 w6 l LB YB FB DB lv3 A'.reverse lf)(hw:J3 T3 w6 lv3 wv Ls)
 (hd:(lf=false∧J T3 (A'++Ls.reverse) w6∧(∀s∈Ls++A'.reverse,Qf M s∧s.f≠ .nil)∧yB (Ls++A'.reverse)<zb top.f+yB Ls∨(lf=false∧A'= []∧J T3 Ls.reverse w6))∨(lf=true∧Jx T3 w6)) (hok:∀s∈Ls,Qf M s∧s.f≠ .nil) (htop:0<zb top.f) (hz:zb top.f+yB Ls≤500000)
 (ho:w7.ownsRow 0 109 2 wv' (Ls.length+A'.length) (Ls.flatMap Seg.cells++A'.reverse.flatMap Seg.cells)) (hg:w6.grownBy w7 wv.ownBlock) (hat:wv'.ownBlock=wv.ownBlock∨wv'.ownBlock=some w6.heap.size):
 ∃gk,gk<zb top.f+yB Ls+1∧zjG J Jx M l LB YB FB DB gk wv' w7:=by
 have hs:=hg.size
 have hT:∀x,T3 x→(T3 x∨(w6.heap.size≤x∧x<w7.heap.size)):=fun x hx=>Or.inl hx
 have hsub:∀x,(T3 x∨(w6.heap.size≤x∧x<w7.heap.size))→x<w7.heap.size:=fun x hx=>by
  rcases hx with hx | hx
  · have:=h.sub x hx;omega
  · exact hx.2
 have hwT:∀x,T3 x→some x≠wv.ownBlock→w7.heap[x]? =w6.heap[x]?:=fun x hx hn=>hg.block x (h.sub x hx) hn
 have ht:zh w6 w7 T3:=⟨hg.os,hg.tape,hg.output,hg.size,fun x hx hn=>hg.block x hx (fun e=>hn (hw.own x e.symm).1)⟩
 have hne:∀{cs:Array Value} {t:TypeId} {x:Nat},w6.heap[x]? =some (.cells cs t (0,0))→t≠109→some x≠wv.ownBlock:=fun hc htt e=>by
  obtain⟨cur,hcur⟩:=Yx hw.row e.symm
  exact zY hc hcur htt rfl
 have hI:Its (fun x=>T3 x∨(w6.heap.size≤x∧x<w7.heap.size)) w7 l LB YB FB DB lv3 A'.reverse lf:=by
  refine⟨(hwT _ h.hl (hne h.later ug7)).trans h.later,zH h.row (fun g cur hc hgo=>hwT g (h.hr g hgo) (fun e=>(hw.own g e.symm).2 hgo)),(hwT _ h.hy (hne h.yld ug7)).trans h.yld,(hwT _ h.hf (hne h.flag ug7)).trans h.flag,(hwT _ h.hd (hne h.down ug7)).trans h.down,hT _ h.hl,hT _ h.hy,hT _ h.hf,hT _ h.hd,fun g hg=>hT g (h.hr g hg),hsub⟩
 have hW:J3 (fun x=>T3 x∨(w6.heap.size≤x∧x<w7.heap.size)) w7 lv3 wv' (Ls++A'.reverse):=by
  refine⟨by rw[LlaQ,List.length_reverse,List.flatMap_append];exact ho,fun g hg'=>?_⟩
  rcases hat with e | e
  · rw[e] at hg'
    exact⟨Or.inl (hw.own g hg').1,(hw.own g hg').2⟩
  · have hb:=zk ho hg'
    rw[e] at hg'
    cases hg'
    exact⟨Or.inr ⟨NlrQ _,hb.2⟩,fun e2=>by have:=h.sub _ (h.hr _ e2);omega⟩
 rcases hd with (⟨rfl,hJ,h1,h2⟩ | ⟨rfl,rfl,hJ⟩) | ⟨rfl,hJ⟩
 · refine⟨yB (Ls++A'.reverse)+1,by omega,_,lv3,_,Ls++A'.reverse,false,hI,hW,Or.inl ⟨rfl,?_,h1,by omega,rfl⟩⟩
   rw[List.reverse_append,List.reverse_reverse]
   exact hB.turn hJ ht (fun x hx=>hx)
 · refine⟨yB (Ls++[].reverse)+1,?_,_,lv3,_,Ls++[].reverse,false,hI,hW,Or.inl ⟨rfl,?_,?_,?_,rfl⟩⟩
   · simp;omega
   · simp;exact hB.turn hJ ht (fun x hx=>hx)
   · simpa using hok
   · simp;omega
 · exact⟨0,by omega,_,lv3,_,Ls++A'.reverse,true,hI,hW,Or.inr ⟨rfl,hB.zd8 hJ ht (fun x hx=>hx),rfl⟩⟩
end
theorem cells_one (L:List Seg):∀u∈L.flatMap Seg.cells,u.oneCell'=true:=fun u hu=>by
 obtain⟨s,_,hs⟩:=List.mem_flatMap.1 hu
 simp only[Seg.cells,Seg.v,List.mem_cons,List.not_mem_nil,or_false] at hs
 rcases hs with rfl | rfl<;>rfl
theorem zeF {P:Program}{m l:Nat}{J:(Nat→Prop)→List Seg→World→Prop}{Jx:(Nat→Prop)→World→Prop}(hB:Body P m l J Jx)(W:World)(s:Seg)(hd:s.d=1)(hne:s.f≠ .nil)(hcap:foLen s.f≤s.cap)(hsz:zb s.f≤500000)(hJ:J (fun _=>False) [s] W):
 zjG J Jx 1000000000 l (W.heap.size+1+1+1) W.heap.size (W.heap.size+1) (W.heap.size+1+1+1+1) (yB [s]+1) (.slice (some ⟨W.heap.size+1+1,0,none⟩) 1 1)
  (((((W.alloc (.cells #[.func (.yield l) #[] #[]] 107)).alloc (.cells #[.bool false] 4)).alloc (.cells #[.int .i64 1,s.v] 109)).alloc (.cells #[.slice none 0 0] 110)).alloc
    (.cells #[.func (.func 67) #[] #[.pointer (some ⟨W.heap.size+1+1+1,0,none⟩),.pointer (some ⟨W.heap.size,0,none⟩),.pointer (some ⟨W.heap.size+1,0,none⟩),.pointer (some ⟨W.heap.size+1+1+1+1,0,none⟩)]] 111)):=by
 obtain⟨A1,hA1⟩:∃A1,A1=W.alloc (.cells #[.func (.yield l) #[] #[]] 107):=⟨_,rfl⟩
 rw[←hA1]
 obtain⟨A2,hA2⟩:∃A2,A2=A1.alloc (.cells #[.bool false] 4):=⟨_,rfl⟩
 rw[←hA2]
 obtain⟨A3,hA3⟩:∃A3,A3=A2.alloc (.cells #[.int .i64 1,s.v] 109):=⟨_,rfl⟩
 rw[←hA3]
 obtain⟨A4,hA4⟩:∃A4,A4=A3.alloc (.cells #[.slice none 0 0] 110):=⟨_,rfl⟩
 rw[←hA4]
 obtain⟨o5,ho5⟩:∃o5,o5=(Obj.cells #[.func (.func 67) #[] #[.pointer (some ⟨W.heap.size+1+1+1,0,none⟩),.pointer (some ⟨W.heap.size,0,none⟩),.pointer (some ⟨W.heap.size+1,0,none⟩),.pointer (some ⟨W.heap.size+1+1+1+1,0,none⟩)]] 111):=⟨_,rfl⟩
 rw[←ho5]
 have s1:A1.heap.size=W.heap.size+1:=by rw[hA1,WsaQ]
 have s2:A2.heap.size=W.heap.size+1+1:=by rw[hA2,WsaQ,s1]
 have s3:A3.heap.size=W.heap.size+1+1+1:=by rw[hA3,WsaQ,s2]
 have s4:A4.heap.size=W.heap.size+1+1+1+1:=by rw[hA4,WsaQ,s3]
 have s5:(A4.alloc o5).heap.size=W.heap.size+5:=by rw[WsaQ,s4]
 have k5:∀x,x<A4.heap.size→(A4.alloc o5).heap[x]? =A4.heap[x]?:=fun x hx=>BhaQ _ _ _ hx
 have k4:∀x,x<A3.heap.size→A4.heap[x]? =A3.heap[x]?:=fun x hx=>by rw[hA4];exact BhaQ _ _ _ hx
 have k3:∀x,x<A2.heap.size→A3.heap[x]? =A2.heap[x]?:=fun x hx=>by rw[hA3];exact BhaQ _ _ _ hx
 have k2:∀x,x<A1.heap.size→A2.heap[x]? =A1.heap[x]?:=fun x hx=>by rw[hA2];exact BhaQ _ _ _ hx
 have k1:∀x,x<W.heap.size→A1.heap[x]? =W.heap[x]?:=fun x hx=>by rw[hA1];exact BhaQ _ _ _ hx
 have e1:(A4.alloc o5).heap[W.heap.size]? =some (.cells #[.func (.yield l) #[] #[]] 107 (0,0)):=by
  rw[k5 _ om,k4 _ om,k3 _ om,k2 _ om,hA1];exact hanQ W _
 have e2:(A4.alloc o5).heap[W.heap.size+1]? =some (.cells #[.bool false] 4 (0,0)):=by
  rw[k5 _ om,k4 _ om,k3 _ om,hA2,←s1];exact hanQ A1 _
 have e3:(A4.alloc o5).heap[W.heap.size+1+1]? =some (.cells #[.int .i64 1,s.v] 109 (0,0)):=by
  rw[k5 _ om,k4 _ om,hA3,←s2];exact hanQ A2 _
 have e4:(A4.alloc o5).heap[W.heap.size+1+1+1]? =some (.cells #[.slice none 0 0] 110 (0,0)):=by
  rw[k5 _ om,hA4,←s3];exact hanQ A3 _
 have e5:(A4.alloc o5).heap[W.heap.size+1+1+1+1]? =some o5:=by rw[←s4];exact World.alloc_heap_new A4 _
 rw[ho5] at e5
 refine⟨fun x=>W.heap.size≤x∧x<W.heap.size+5,.slice none 0 0,[],[s],false,⟨e4,World.ownsRow_nil _ _ _ _,e1,e2,by rw[ho5] at*;exact e5,by omega,by omega,by omega,by omega,fun g hg=>(by cases hg),fun x hx=>by omega⟩,⟨?_,fun g hg=>?_⟩,Or.inl ⟨rfl,?_,fun x hx=>?_,?_,rfl⟩⟩
 · refine⟨by simp[Seg.cells],Or.inr ⟨_,1,_,rfl,by omega,e3,by simp,by unfold maxLen;omega,by simp,by simp[Seg.cells,hd]⟩⟩
 · obtain rfl:W.heap.size+1+1=g:=by simpa [Value.ownBlock] using hg
   exact⟨⟨by omega,by omega⟩,fun e=>by cases e⟩
 · refine hB.turn hJ ⟨?_,?_,?_,by omega,fun x hx _=>by rw[k5 _ om,k4 _ om,k3 _ om,k2 _ om,k1 _ hx]⟩ (fun x hx=>Or.inr ⟨hx.1,by omega⟩)
   · rw[hA4,hA3,hA2,hA1];rfl
   · rw[hA4,hA3,hA2,hA1];rfl
   · rw[hA4,hA3,hA2,hA1];rfl
 · rw[List.mem_singleton] at hx
   subst hx
   exact⟨⟨by omega,hcap⟩,hne⟩
 · rw[yh,qW];omega
theorem zhL {m l:Nat}{J:(Nat→Prop)→List Seg→World→Prop}{Jx:(Nat→Prop)→World→Prop}(hB:Body Tryz.prog m l J Jx)(W:World)(NB:Nat)(s:Seg)(hd:s.d=1)(hne:s.f≠ .nil)(hcap:foLen s.f≤s.cap)(hsz:zb s.f≤500000)(hNB:W.cell? ⟨NB,0,none⟩=some s.v)(hJ:J (fun _=>False) [s] W):
 Calls Tryz.prog 66 #[.func (.yield l) #[] #[],.pointer (some ⟨NB,0,none⟩)] W (zjF J Jx):=by
 obtain⟨sd,sa,sc,sf⟩:=s
 simp only at hd
 subst hd
 obtain⟨n,hn⟩:∃n,n=foLen sf:=⟨_,rfl⟩
 simp only[Seg.v] at hNB
 rw[←hn] at hNB
 have HN:=hH hn
 have HP:=hH (aN hne (aN hcap (aN hsz hJ)))
 have hNl:=World.block_lt_of_cell? _ _ hNB
 clear hne hcap hsz hJ hn
 obtain⟨i0,z0,hi0,hz0,hz1,hz2,hz3⟩:=yw Tryz.zhU
 have HI:=hH (aN hi0 (aN hz0 (aN hz1 (aN hz2 hz3))))
 clear hi0 hz0 hz1 hz2 hz3
 have hst:=zeF hB W ⟨1,sa,sc,sf⟩ rfl HP.out.1 HP.out.2.1 HP.out.2.2.1 HP.out.2.2.2
 simp only[Seg.v] at hst
 rw[←HN.out] at hst
 have HS:=hH hst
 clear hst
 go_enter Tryz.func66,Tryz.ntmps66
 go_wp2_with fail
 go_loopg [4] (yB [Seg.mk 1 sa sc sf]+1) (fun gk s4 wr=>Hid (zjG J Jx 1000000000 l (W.heap.size+1+1+1) W.heap.size (W.heap.size+1) (W.heap.size+1+1+1+1) gk s4 wr))
 case atStart=>exact HS
 case round =>
  obtain⟨FB,hFB⟩:∃FB,FB=W.heap.size+1:=⟨_,rfl⟩
  obtain⟨LB,hLB⟩:∃LB,LB=W.heap.size+1+1+1:=⟨_,rfl⟩
  obtain⟨DB,hDB⟩:∃DB,DB=W.heap.size+1+1+1+1:=⟨_,rfl⟩
  rw[←hDB,←hLB,←hFB] at hrel ⊢
  obtain⟨YB,hYB⟩:∃YB,YB=W.heap.size:=⟨_,rfl⟩
  rw[←hYB] at hrel ⊢
  have HEQ:=hH (aN hFB (aN hLB (aN hDB hYB)))
  clear hFB hLB hDB hYB HS
  obtain⟨T,lv,L,Lw,lf,q1,q2,q3⟩:=hrel.out
  obtain⟨wa,wc,hwv⟩:=zy q2.row
  obtain⟨la,lc,hlv⟩:=zy q1.row
  subst hlv
  have fl:=q1.flag
  have f0:wr.cell? ⟨FB,0,none⟩=some (.bool lf):=by rw[corQ _ _ 0 _ _ _ fl];rfl
  rcases q3 with ⟨rfl,q4,q5,q6,q7⟩ | ⟨rfl,q4,q5⟩
  · rcases zdE Lw with rfl | ⟨Ls,top,rfl⟩
    · subst hwv
      have HE:Hid (zjF J Jx (.returned (.tuple #[])) wr):=hH ⟨⟨_,rfl⟩,Or.inl ⟨T,q4⟩⟩
      clear q1 q2 q4 q5 q6 q7 fl hrel
      simp only[List.length_nil]
      go_wp2_with fail
      go_end0
      exact HE.out
    · obtain⟨n',hn'⟩:∃n',n'=Ls.length:=⟨_,rfl⟩
      have hwv2:u4= .slice wa (n'+1) wc:=by rw[hwv,hn'];simp
      subst hwv2
      clear hwv
      obtain⟨ln,hln⟩:∃ln,ln=L.length:=⟨_,rfl⟩
      rw[←hln] at q1 q2
      have hw0:=q2.row
      rw[LlaQ,List.length_singleton,←hn'] at hw0
      obtain⟨g,cap2,e,_⟩:=hw0.form om
      cases e
      have htc:=Qk (Ls++[top]) n' top (by rw[List.getElem?_append_right om];simp[hn'])
      have t0:wr.cell? ⟨g,n'*2,none⟩=some (.int .i64 (top.d:Int)):=zF hw0 rfl _ _ htc.1
      have t1:wr.cell? ⟨g,n'*2+1,none⟩=some (.slice top.a (foLen top.f) top.cap):=zF hw0 rfl _ _ htc.2
      have htake:=fun w1 hw1 hw2=>zgf (w1:=w1) hB q1 q2 q4 hn' hw1 hw2
      have hb6:n'+1≤500000:=by
       have:=zbx (Ls++[top]) (fun s hs=>(q5 s hs).2)
       rw[LlaQ,List.length_singleton] at this;omega
      have hcap' :n'+1≤wc:=by
       rcases hw0.2 with ⟨hv,_⟩ | ⟨_,_,_,hv,_,_,h3,_⟩
       · cases hv
       · cases hv;exact h3
      have c0:wr.cell? ⟨LB,0,none⟩=some (.slice la ln lc):=by rw[corQ _ _ 0 _ _ _ q1.later];rfl
      have c1:wr.frozen? ⟨LB,0,none⟩=false:=forQ _ _ 0 _ _ q1.later
      have hLl:=lohQ q1.later
      have HT:=hH (aN htake (aN q5 (aN q6 (aN q7 hn'))))
      have hlla:la=none→ln=0:=fun e=>by
       have:=q1.row
       rw[e] at this
       rcases this.2 with ⟨hv,h0⟩ | ⟨_,_,_,hv,_⟩
       · cases hv;rfl
       · cases hv
      clear htake q1 q2 q4 q5 q6 q7 hw0 htc fl hrel hn' hln
      go_wp2_with fail
      have c0a:(wr.alloc (.cells #[.int .i64 (top.d:Int),.slice top.a (foLen top.f) top.cap] 109)).cell? ⟨LB,0,none⟩=some (.slice la ln lc):=(World.cell?_of_block (BhaQ wr _ LB hLl)).trans c0
      have c1a:(wr.alloc (.cells #[.int .i64 (top.d:Int),.slice top.a (foLen top.f) top.cap] 109)).frozen? ⟨LB,0,none⟩=false:=(World.frozen?_of_block (BhaQ wr _ LB hLl)).trans c1
      have hn0:(0:Int)≤(n' :Int):=by omega
      have hnw:(n' :Int)≤(wc:Int):=by omega
      go_region_law (fail)
      all_goals
       obtain⟨w1,hw1⟩:∃w1,w1=((wr.setCell ⟨LB,0,none⟩ (.slice la 0 lc)).alloc (.cells #[.int .i64 (top.d:Int),.slice top.a (foLen top.f) top.cap] 109)).drew:=⟨_,rfl⟩
       obtain⟨T2,r1,r2,r3,r4,r5⟩:=HT.out.1 w1 (by rw[hw1];rfl) ⟨by rw[hw1];rfl,by rw[hw1];rfl,by rw[hw1];rfl⟩
       rw[←hw1]
       clear hw1 c0a c1a c0 c1 t0 t1 f0 hn0 hnw
       have d0:w1.cell? ⟨DB,0,none⟩=some (.func (.func 67) #[] #[.pointer (some ⟨LB,0,none⟩),.pointer (some ⟨YB,0,none⟩),.pointer (some ⟨FB,0,none⟩),.pointer (some ⟨DB,0,none⟩)]):=by rw[corQ _ _ 0 _ _ _ r1.down];rfl
       simp only[Seg.v] at r5
       have hag:=HT.out.2.2.1
       rw[yN,yh,qW] at hag
       have hcall:=zc7 hB 1000000000 LB YB FB DB (NlrQ _) 100 om T2 w1 top Ls.reverse [] (.slice la 0 lc) r1 r3 (HT.out.2.1 top sp1).1 (by simp only[List.length_nil];omega)
       simp only[Seg.v] at hcall
       have HC:=hH hcall
       have HR:=hH (aN r1 (aN r2 hag))
       clear hcall r1 r2 r3 hag
       go_wp2_with fail
       refine HC.out.mono ?_
       rintro e w5 ⟨bl,lf,T3,lv3,A',rfl,g1,g2,g3⟩
       rw[List.nil_append] at g2
       clear HC d0 r4 r5
       obtain⟨la3,lc3,hlv3⟩:=zy g2.row
       obtain⟨l3,hl3⟩:∃l3,l3=A'.length:=⟨_,rfl⟩
       rw[←hl3] at hlv3
       subst hlv3
       have hl36:l3≤500000:=by
        rw[hl3]
        rcases g3 with ⟨_,_,rfl,_⟩ | ⟨_,h1,_⟩
        · simp
        · have:=HR.out.2.2;omega
       have g2r:=g2.row
       rw[←hl3] at g2r
       have hrev:=zdO w5 la3 l3 lc3 A' hl3 om g2r
       have c0:w5.cell? ⟨LB,0,none⟩=some (.slice la3 l3 lc3):=by rw[corQ _ _ 0 _ _ _ g2.later];rfl
       have HC:=hH hrev
       have HG:=hH (aN g1 (aN g2 (aN g3 hl3)))
       clear hrev g1 g2 g3 g2r hl3
       go_wp2_with fail
       refine HC.out.mono ?_
       rintro e w6 hr
       obtain rfl:=hr.1
       obtain⟨p1,p2,p3,p4⟩:=zhN hB HR.out.1 HR.out.2.1 HG.out.1 HG.out.2.1 HG.out.2.2.1 hr (fun s hs=>HT.out.2.1 s (List.mem_append_left _ hs)) (by have:=HR.out.2.2;omega)
       have c0' :w6.cell? ⟨LB,0,none⟩=some (.slice la3 l3 lc3):=by rw[corQ _ _ 0 _ _ _ p1.later];rfl
       have hwrow:=p2.row
       have hlrow:=p1.row
       rw[List.length_reverse,←HG.out.2.2.2] at hlrow
       rw[←HT.out.2.2.2.2] at hwrow
       have hend:=fun (w7:World) (wv' :Value)=>zhM (w7:=w7) (wv':=wv') hB p1 p2 p4 (fun s hs=>HT.out.2.1 s (List.mem_append_left _ hs)) (zas (HT.out.2.1 top sp1).2) (by have:=HR.out.2.2;omega)
       have HE:=hH (aN hend (aN hwrow hlrow))
       clear hend hwrow hlrow p1 p2 p3 p4 hr HC c0
       cases la3 with
       | none=>
         have hl0:l3=0:=by
          rcases HE.out.2.2.2 with ⟨hv,h0⟩ | ⟨_,_,_,hv,_⟩
          · exact h0
          · cases hv
         subst hl0
         go_wp2_with (at_builtin;refine Qa _ rfl (.tmp 37) (.tmp 38) _ rfl 0 109 i0 2 Tryz.underlying110 HI.out.1 (.slice (some ⟨g,0,none⟩) n' wc) n' _ rfl HE.out.2.1 lc3 rfl ?_)
         have hA:=HG.out.2.2.2
         have hA0:A'= []:=List.eq_nil_of_length_eq_zero hA.symm
         have ho:=HE.out.2.1
         obtain⟨gk',hlt,hinv⟩:=HE.out.1 w6 (.slice (some ⟨g,0,none⟩) n' wc) (by rw[hA0,←HT.out.2.2.2.2];simpa using ho) (World.grownBy.refl _ _) (Or.inl rfl)
         exact si0
       | some ad=>
         obtain⟨ab,rfl⟩:∃ab,ad=⟨ab,0,none⟩:=by
          rcases HE.out.2.2.2 with ⟨hv,h0⟩ | ⟨_,_,_,hv,_⟩
          · cases hv
          · cases hv;exact⟨_,rfl⟩
         go_wp2_with (at_builtin;refine wpList_append_own_at _ rfl (.tmp 37) (.tmp 38) _ rfl 0 109 i0 z0 2 32 Tryz.underlying110 HI.out.1 HI.out.2.1 HI.out.2.2.1 HI.out.2.2.2.1 HI.out.2.2.2.2 om (.slice (some ⟨g,0,none⟩) n' wc) n' _ rfl HE.out.2.1 ⟨ab,0,none⟩ l3 lc3 _ rfl HE.out.2.2.1 (HE.out.2.2.cells rfl) (cells_one _) uf7 om sp1 ?_;intro v' w7 hown7 hgrow _ hat)
         obtain⟨gk',hlt,hinv⟩:=HE.out.1 w7 v' (by rw[←HG.out.2.2.2,←HT.out.2.2.2.2];exact hown7) hgrow hat
         exact si0
  · have HE:Hid (zjF J Jx (.returned (.tuple #[])) wr):=hH ⟨⟨_,rfl⟩,Or.inr ⟨T,q4⟩⟩
    obtain⟨nw,hnw⟩:∃nw,nw=Lw.length:=⟨_,rfl⟩
    rw[←hnw] at hwv
    subst hwv
    clear q1 q2 q4 q5 fl hrel hnw
    by_cases h0:0<nw
    · have h0i:(0:Int)<(nw:Int):=by omega
      go_wp2_with fail
      go_end0
      exact HE.out
    · obtain rfl:nw=0:=by omega
      go_wp2_with fail
      go_end0
      exact HE.out
end Go.Proofs.YtgkmmnihaiopaaaGreat
