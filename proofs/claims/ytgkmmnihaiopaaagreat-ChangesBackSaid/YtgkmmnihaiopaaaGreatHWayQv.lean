/-
  .
-/
import Derived.Test.YtgkmmnihaiopaaaGreatRCountQv
set_option maxRecDepth 100000
set_option maxHeartbeats 40000000
set_option linter.unusedVariables false
set_option linter.unusedSimpArgs false
namespace Go.Proofs.YtgkmmnihaiopaaaGreat
open Go.RowKit Go.Shelf
attribute [local go_sem] Oper.semAt_some
structure zgY (P:Program) (m l:Nat) (t:Tr) (S:Nat→Prop) (J:(Nat→Prop)→List Fr→World→Prop) (Jx:(Nat→Prop)→World→Prop):Prop where
 turn:∀{T T' :Nat→Prop} {L:List Fr} {w w' :World},J T L w→zh w w' T→kG T T' w w'→J T' L w'
 yield:∀{T:Nat→Prop} {rv:Value} {x:Fr} {r:List Fr} {u:Tr} {w:World},vL w S t T rv (x::r)→zB x.f x.p.toNat=some u→J T (x::r) w→
  YieldAt Fence.wide m P l #[rv] w fun e w'=>Kept T w w'∧(∀y,S y→w'.heap[y]? =w.heap[y]?)∧((e= .returned (.bool true)∧∀a c,J T (yH (⟨a,c,u.kids, -1⟩::x::r)) w')∨(e= .returned (.bool false)∧Jx T w'))
def ziN (S:Nat→Prop)(t:Tr)(J:(Nat→Prop)→List Fr→World→Prop)(gk:Nat)(rv:Value)(wr:World):Prop:=∃T L,vL wr S t T rv L∧J T L wr∧gk=jP L
def zeo (J:(Nat→Prop)→List Fr→World→Prop)(Jx:(Nat→Prop)→World→Prop)(e:Ending)(V:World):Prop:=(∃v,e= .returned v)∧((∃T,J T [] V)∨∃T,Jx T V)
theorem zh5 {α β:Type}(p:Nat→α→β→Prop):∃ms:α→β→Nat,∀x y,(∃n,p n x y)→p (ms x y) x y∧∀n,p n x y→ms x y≤n:=by
 refine Classical.axiomOfChoice (β:=fun _=>β→Nat) (r:=fun x f=>∀y,(∃n,p n x y)→p (f y) x y∧∀n,p n x y→f y≤n) fun x=>?_
 refine Classical.axiomOfChoice (β:=fun _=>Nat) (r:=fun y k=>(∃n,p n x y)→p k x y∧∀n,p n x y→k≤n) fun y=>?_
 by_cases h:∃n,p n x y
 · obtain ⟨n,hn⟩:=h
   induction n using Nat.strongRecOn with
   | ind n ih=>
     by_cases hm:∃m,m<n∧p m x y
     · obtain⟨m,hm,hp⟩:=hm
       exact ih m hm hp
     · exact⟨n,fun _=>⟨hn,fun m hp=>by
        rcases Nat.lt_or_ge m n with h | h
        · exact absurd ⟨m,h,hp⟩ hm
        · exact h⟩⟩
 · exact⟨0,fun h'=>absurd h' h⟩
theorem Tryz.zhV:(Tryz.prog.info? 154).map (fun i=>(i.size,i.bytes,i.zero.map (fun z=>z.cells.size)))=some (2,32,some 2):=by kernel_rfl
theorem zfp {P:Program}{m l:Nat}{t:Tr}{S:Nat→Prop}{J:(Nat→Prop)→List Fr→World→Prop}{Jx:(Nat→Prop)→World→Prop}{W W2:World}{ka:Option Addr}{cap:Nat}(hB:zgY P m l t (fun y=>S y∨y=W.heap.size) J Jx)(hS:∀y,S y→y<W.heap.size)(hk:zt W S t.kids ka)(hc:foLen t.kids≤cap)
 (hJ:J (fun _=>False) (yH [⟨some ⟨W.heap.size,0,none⟩,1,zm t, -1⟩]) W)
 (hW2:W2=(W.alloc (.cells #[.int .i64 t.id,.int .i64 t.kind,.string t.text,.slice ka (foLen t.kids) cap] 27)).alloc (.cells #[.slice (some ⟨W.heap.size,0,none⟩) 1 1,.int .i64 (-1)] 154)):
 zhm W2 (fun y=>S y∨y=W.heap.size) t (fun y=>y=W.heap.size+1) (.slice (some ⟨W.heap.size+1,0,none⟩) 1 1) [⟨some ⟨W.heap.size,0,none⟩,1,zm t, -1⟩]∧J (fun y=>y=W.heap.size+1) (yH [⟨some ⟨W.heap.size,0,none⟩,1,zm t, -1⟩]) W2:=by
 have hsz:W2.heap.size=W.heap.size+2:=by rw[hW2];simp
 have hb:∀y,y<W.heap.size→W2.heap[y]? =W.heap[y]?:=fun y hy=>by rw[hW2,BhaQ _ _ _ ug5,BhaQ _ _ _ hy]
 have h0:W2.heap[W.heap.size]? =some (.cells #[.int .i64 t.id,.int .i64 t.kind,.string t.text,.slice ka (foLen t.kids) cap] 27 (0,0)):=by rw[hW2,BhaQ _ _ _ sp1];exact hanQ W _
 have h1:W2.heap[W.heap.size+1]? =some (.cells #[.slice (some ⟨W.heap.size,0,none⟩) 1 1,.int .i64 (-1)] 154 (0,0)):=by
  have:=hanQ (W.alloc (.cells #[.int .i64 t.id,.int .i64 t.kind,.string t.text,.slice ka (foLen t.kids) cap] 27)) (.cells #[.slice (some ⟨W.heap.size,0,none⟩) 1 1,.int .i64 (-1)] 154)
  rw[WsaQ] at this;rw[hW2];exact this
 have hl:=zbV (S:=S) (fun x hx=>hb x (hS x hx)) hc hk h0
 refine⟨⟨?_,fun g hg=>?_,fun y hy=>?_,fun y hy=>(by cases hy),fun y hy=>?_,rfl,fun y hy=>?_,?_,fun y hy=>?_⟩,?_⟩
 · exact⟨by simp[Fr.cells],Or.inr ⟨_,1,_,rfl,by omega,h1,by simp,by unfold maxLen;omega,by simp,by simp[Fr.cells,zm,foLen]⟩⟩
 · simp[Value.ownBlock] at hg;exact hg.symm
 · rw[List.mem_singleton] at hy;subst hy;exact⟨by simp,by simp only;omega⟩
 · rw[List.mem_singleton] at hy;subst hy;exact⟨hl,by simp[zm,foLen]⟩
 · refine⟨by omega,fun h=>?_⟩
   rcases h with h | h
   · have:=hS y h;omega
   · omega
 · simp[Qs,Fr.nx,qH,yt];omega
 · rcases hy with hy | hy
   · have:=hS y hy;omega
   · omega
 · refine hB.turn hJ ⟨by rw[hW2];rfl,by rw[hW2];rfl,by rw[hW2];rfl,by omega,fun y hy _=>hb y hy⟩ fun y hy=>Or.inr ⟨by omega,by omega⟩
theorem zgS {w2 w3 w6:World}{S T:Nat→Prop}{t:Tr}{rv v' :Value}{x:Fr}{r:List Fr}{u:Tr}{kb:Option Addr}{k v kc:Nat}{o:Obj}(hf:vL w2 S t T rv (x::r))(hu:zB x.f x.p.toNat=some u)(hk:k=r.length)(hv:v=foLen u.kids)(hku:zt w2 S u.kids kb)(hkk:v≤kc)(hb:Below w2.heap.size w2 w3)
 (ho:w6.ownsRow 0 154 2 v' (k+1+1) ((x::r).reverse.flatMap Fr.cells++[.slice kb v kc,.int .i64 (-1)])) (hg:(w3.alloc o).grownBy w6 rv.ownBlock) (hat:v'.ownBlock=rv.ownBlock∨v'.ownBlock=some (w3.alloc o).heap.size):
 ∃T3,zhm w6 S t T3 v' (⟨kb,kc,u.kids, -1⟩::x::r)∧zh w2 w6 T∧kG T T3 w2 w6:=by
 have h1:=hb.size
 have h2:=hg.size
 rw[WsaQ] at h2
 have hblk:∀y,y<w2.heap.size→rv.ownBlock≠some y→w6.heap[y]? =w2.heap[y]?:=fun y hy hn=>by
  rw[hg.block y (by rw[WsaQ];omega) (fun e=>hn e.symm),BhaQ _ _ _ om,hb.block y hy]
 have hS:∀y,S y→w6.heap[y]? =w2.heap[y]?:=fun y hy=>hblk y (hf.sl y hy) (fun e=>(hf.apart y (hf.own y e)).2 hy)
 subst hk
 subst hv
 refine⟨fun y=>T y∨(w2.heap.size≤y∧y<w6.heap.size),hf.push hu hku hkk om hS ho (fun g hg'=>?_) (fun y hy=>?_),⟨?_,?_,?_,by omega,fun y hy hn=>hblk y hy (fun e=>hn (hf.own y e))⟩,fun y hy=>hy⟩
 · rcases hat with e | e
   · exact Or.inl (hf.own g (e▸hg'))
   · have h3:=zk ho hg'
     rw[e] at hg';cases hg'
     rw[WsaQ] at h3 ⊢
     exact Or.inr ⟨by omega,h3.2⟩
 · rcases hy with hy | hy
   · have:=hf.apart y hy;exact⟨by omega,this.2⟩
   · exact⟨hy.2,fun h=>by have:=hf.sl y h;omega⟩
 · exact hg.os.trans hb.os
 · exact hg.tape.trans hb.tape
 · exact hg.output.trans hb.output
theorem zeo.mk0 {J:(Nat→Prop)→List Fr→World→Prop}{Jx:(Nat→Prop)→World→Prop}{T:Nat→Prop}{V:World}{v:Value}(h:J T [] V):zeo J Jx (.returned v) V:=⟨⟨v,rfl⟩,Or.inl ⟨T,h⟩⟩
theorem zeo.mkx {J:(Nat→Prop)→List Fr→World→Prop}{Jx:(Nat→Prop)→World→Prop}{T:Nat→Prop}{V:World}{v:Value}(h:Jx T V):zeo J Jx (.returned v) V:=⟨⟨v,rfl⟩,Or.inr ⟨T,h⟩⟩
theorem zgR {m l:Nat}{t:Tr}{S:Nat→Prop}{J:(Nat→Prop)→List Fr→World→Prop}{Jx:(Nat→Prop)→World→Prop}(W:World)(hB:zgY Tryz.prog m l t (fun y=>S y∨y=W.heap.size) J Jx)(NB:Nat)(ka:Option Addr)(cap:Nat)(hS:∀y,S y→y<W.heap.size)(hk:zt W S t.kids ka)(hc:foLen t.kids≤cap)(hsz:zb t.kids≤400000)
 (hNB:W.heap[NB]? =some (.cells #[.int .i64 t.id,.int .i64 t.kind,.string t.text,.slice ka (foLen t.kids) cap] 27 (0,0))) (hJ:J (fun _=>False) (yH [⟨some ⟨W.heap.size,0,none⟩,1,zm t, -1⟩]) W):
 Calls Tryz.prog 126 #[.func (.yield l) #[] #[],.pointer (some ⟨NB,0,none⟩)] W (zeo J Jx):=by
 obtain⟨W2,hW2⟩:∃W2,W2=(W.alloc (.cells #[.int .i64 t.id,.int .i64 t.kind,.string t.text,.slice ka (foLen t.kids) cap] 27)).alloc (.cells #[.slice (some ⟨W.heap.size,0,none⟩) 1 1,.int .i64 (-1)] 154):=⟨_,rfl⟩
 obtain⟨hpre,hJ2⟩:=zfp hB hS hk hc hJ hW2
 have hnext:=zdD W2 _ _ hpre.rows sp1 (fun x hx=>by rw[List.mem_singleton] at hx;subst hx;simp)
 obtain⟨n,hn⟩:∃n,n=foLen t.kids:=⟨_,rfl⟩
 rw[←hn] at hNB hW2
 have n0:W.cell? ⟨NB,0,none⟩=some (.int .i64 t.id):=by rw[corQ _ _ 0 _ _ _ hNB];rfl
 have n1:W.cell? ⟨NB,1,none⟩=some (.int .i64 t.kind):=by rw[corQ _ _ 1 _ _ _ hNB];rfl
 have n2:W.cell? ⟨NB,2,none⟩=some (.string t.text):=by rw[corQ _ _ 2 _ _ _ hNB];rfl
 have n3:W.cell? ⟨NB,3,none⟩=some (.slice ka n cap):=by rw[corQ _ _ 3 _ _ _ hNB];rfl
 obtain⟨ms,hms⟩:=zh5 (fun gk rv wr=>ziN (fun y=>S y∨y=W.heap.size) t J gk rv wr)
 have HP:=hH (aN hpre (aN hJ2 (aN hnext hn)))
 have HW2:=hH hW2
 have HMS:=hH hms
 have HSZ:=hH hsz
 clear hpre hJ2 hnext hn hk hc hJ hNB hW2 hms hsz
 obtain⟨i0,z0,hi0,hz0,hz1,hz2,hz3⟩:=yw Tryz.zhV
 have HI:=hH (aN hi0 (aN hz0 (aN hz1 (aN hz2 hz3))))
 clear hi0 hz0 hz1 hz2 hz3
 refine (callsIn_wide (n:=6)).1 ?_
 refine callsIn_of_wp Tryz.func126 rfl trivial ?_ rfl
 simp only[Tryz.ntmps126,List.size_toArray,LlcQ,List.length_nil,Nat.reduceAdd,Nat.reduceSub,Array.replicate_succ,Array.replicate_zero,List.push_toArray,List.append_toArray,List.nil_append,List.cons_append]
 gi_wp2
 refine⟨trivial,?_⟩
 rw[←HW2.out]
 refine (callsIn_wide.2 HP.out.2.2.1).mono ?_
 rintro e W3 ⟨rv,rfl,r1,r2,r3⟩
 have HST:Hid (∃gk,ziN (fun y=>S y∨y=W.heap.size) t J gk rv W3):=hH ⟨_,_,_,HP.out.1.next r1 r2 r3,hB.turn HP.out.2.1 (r3.mono (fun y hy=>HP.out.1.own y hy)) (fun y hy=>Or.inl hy),rfl⟩
 clear r1 r2 r3 n0 n1 n2 n3
 gi_wp2
 gi_loopw [3] (fun rv wr=>Hid (∃gk,ziN (fun y=>S y∨y=W.heap.size) t J gk rv wr)) (fun rv wr=>ms rv wr)
 case atStart=>exact HST
 case round=>
  clear HST
  obtain⟨T,L,hf,hJ3,hgk⟩:=(HMS.out _ _ hrel.out).1
  have HG:=hH hgk
  clear hrel hgk
  cases L with
  | nil=>
    obtain⟨ra,rc,rfl⟩:=zy hf.rows
    have HE:=hH (zeo.mk0 (Jx:=Jx) (v:= .tuple #[]) hJ3)
    clear hf hJ3
    simp only[List.length_nil]
    gi_wp2
    refine⟨fun f hf=>(by cases hf),?_⟩
    gi_wp2
    go_end0
    exact HE.out
  | cons x r=>
    obtain⟨g,rc,k,p,u,b,off,kb,kc,rfl,hk,hkN,hkc,hTg,c0,c1,hxp,hpl,hpN,hu,hxa,hSb,d0,d3,hkk,hku⟩:=hf.here
    obtain⟨fn,tmps,assign,body,hy,hR⟩:=YieldAt.QJ 5 (hB.yield hf hu hJ3)
    have hk0:(0:Int)<(k:Int)+1:=by omega
    have HR:=hH hR
    obtain⟨q,hq⟩:∃q,q=foLen x.f:=⟨_,rfl⟩
    obtain⟨v,hv⟩:∃v,v=foLen u.kids:=⟨_,rfl⟩
    rw[←hq] at c0 hpl hpN
    rw[←hv] at d3 hkk
    have HF:=hH (aN hf (aN hu (aN hk (aN hxp (aN hq (aN hv (aN hTg (aN hSb (aN hkk hku)))))))))
    have HC:=hH (aN c0 (aN c1 d3))
    have hxa':=hxa
    clear hf hu hk hJ3 hR c0 c1 d0 d3 hxp hq hv hTg hSb hkk hku
    gi_wp2
    refine HR.out.mono ?_
    clear HR hy
    rintro e w2 ⟨hkT,hkS,(⟨rfl,hJ4⟩ | ⟨rfl,hJ4⟩)⟩
    · obtain⟨f1,f2,f3,f4,f5,f6,f7,f8,f9,f10⟩:=HF.out
      have c0:w2.cell? ⟨g,k*2,none⟩=some (.slice (some ⟨b,off,none⟩) q x.cap):=by rw[←hxa];exact (World.cell?_of_block (hkT.2 g f7)).trans HC.out.1
      have c1:w2.cell? ⟨g,k*2+1,none⟩=some (.int .i64 (p:Int)):=(World.cell?_of_block (hkT.2 g f7)).trans HC.out.2.1
      have d3:w2.cell? ⟨b,off+p*4+3,none⟩=some (.slice kb v kc):=(World.cell?_of_block (hkS b f8)).trans HC.out.2.2
      have hf2:=f1.kept hkT.1 hkT.2 hkS
      have hnode:=zdF w2 b off q x.cap p hpl (by have:=HSZ.out;omega)
      have hkl:(k:Int)<(k:Int)+1:=by omega
      have hk00:(0:Int)≤(k:Int):=by omega
      have hkb:k≤1000000:=by have:=HSZ.out;omega
      have hpb:p≤1000000:=by have:=HSZ.out;omega
      have hkw:IntKind.i64.wrap ((k:Int)+1 - 1)=(k:Int):=by rw[IntWalk.i64_in _ om];omega
      have hbl:=World.block_lt_of_cell? _ _ d3
      have HN:=hH hnode
      have HR3:Hid (∀w3,Below w2.heap.size w2 w3→w3.ownsRow 0 154 2 (.slice (some ⟨g,0,none⟩) (k+1) rc) (k+1) ((x::r).reverse.flatMap Fr.cells)):=hH fun w3 hb=>by
       have h9:=qo.kept (w':=w3) hf2.rows (fun g' hg'=>hb.block g' (hf2.apart g' (hf2.own g' hg')).1)
       unfold qo at h9
       rw[LlcQ,←f3] at h9
       exact h9
      have HJ:=hH (aN hJ4 (aN hf2 hkS))
      clear hnode hJ4 hf2 hkT hkS f1 f2 f3 f4 f5 f6 f7 f8 f9 f10 HC
      gi_wp2_with (first
       | (refine⟨trivial,?_⟩;gi_at_call 121;refine (callsIn_wide.2 HN.out).mono ?_;rintro e w3 ⟨rfl,hb3⟩;have d3':=(hb3.cell (p:=⟨b,off+p*4+3,none⟩) hbl).trans d3;have HB3:=hH hb3;clear hb3;have hrow3:=HR3.out w3 HB3.out)
       | (gi_at_builtin;refine kz _ rfl (.tmp 28) (.tmp 31) _ rfl 0 154 i0 z0 2 32 Tryz.underlying151 HI.out.1 HI.out.2.1 HI.out.2.2.1 HI.out.2.2.2.1 HI.out.2.2.2.2 om (.slice (some ⟨g,0,none⟩) (k+1) rc) (k+1) _ rfl (hrow3.alloc _) ⟨w3.heap.size,0,none⟩ 1 1 [.slice kb v kc,.int .i64 (-1)] rfl rfl (World.news_of_block (hanQ w3 _)) uf6 uf7 om sp1 ?_;intro v' w6 hown6 hgrow hat;obtain⟨T3,hpre,ht3,hw3⟩:=zgS HJ.out.2.1 HF.out.2.1 HF.out.2.2.1 HF.out.2.2.2.2.2.1 (HF.out.2.2.2.2.2.2.2.2.2.kept (w':=w2) fun y hy=>⟨hy,HJ.out.2.2 y hy⟩) HF.out.2.2.2.2.2.2.2.2.1 HB3.out hown6 hgrow hat;have HPRE:=hH (aN hpre (aN ht3 hw3));clear hpre ht3 hw3 hown6 hgrow hat)
       | (refine⟨trivial,?_⟩;gi_at_call 127;refine (callsIn_wide.2 (zdD w6 v' _ HPRE.out.1.rows (by have h9:=HPRE.out.1.few;have:=HSZ.out;simp only[LlcQ] at*;omega) (fun y hy=>⟨(HPRE.out.1.p y hy).1,by have h9:=(HPRE.out.1.p y hy).2;have h8:=Zv _ HPRE.out.1.chain y hy;rw[yt] at h8;have:=HSZ.out;omega⟩))).mono ?_;rintro e w7 ⟨rv7,rfl,r1,r2,r3⟩;have HNX:=hH (aN r1 (aN r2 r3));clear r1 r2 r3))
      have hwf:=HPRE.out.1.next HNX.out.1 HNX.out.2.1 HNX.out.2.2
      have hj:=hB.turn (HJ.out.1 kb kc) HPRE.out.2.1 HPRE.out.2.2
      have hj2:=hB.turn hj (HNX.out.2.2.mono (fun y hy=>HPRE.out.1.own y hy)) (fun y hy=>Or.inl hy)
      have hinv:ziN (fun y=>S y∨y=W.heap.size) t J (jP (yH (⟨kb,kc,u.kids, -1⟩::x::r))) rv7 w7:=⟨_,_,hwf,hj2,rfl⟩
      refine⟨hH ⟨_,hinv⟩,?_⟩
      have q1:=(HMS.out _ _ ⟨_,hinv⟩).2 _ hinv
      have q2:=YW (⟨kb,kc,u.kids, -1⟩::x::r) (fun y hy=>(HPRE.out.1.p y hy).1)
      have q3:=zaP (a:=kb) (c:=kc) (r:=r) (HF.out.1.ok x sp1) HF.out.2.1
      have q4:=HG.out
      omega
    · have HE:=hH (zeo.mkx (J:=J) (v:= .tuple #[]) hJ4)
      clear hkT hkS hJ4 HF HC
      gi_wp2
      go_end0
      exact HE.out
end Go.Proofs.YtgkmmnihaiopaaaGreat
namespace Go.Proofs.YtgkmmnihaiopaaaGreat
open Go.RowKit Go.Shelf
def zg6 (B:Nat)(T S:Nat→Prop)(I:(Nat→Prop)→List Fr→World→Prop)(Ix:Code→(Nat→Prop)→World→Prop)(x:Fr)(r:List Fr)(u:Tr)(W:World)(e:Exit)(_:Act)(V:World):Prop:=
 KeepsFrom B W V∧Kept T W V∧(∀y,S y→V.heap[y]? =W.heap[y]?)∧((e= .normal∧∀a c,I T (yH (⟨a,c,u.kids, -1⟩::x::r)) V)∨(e= .ret∧Ix .ret T V)∨∃id,e= .exit id∧Ix (.exit id) T V)
theorem ze8 {n:Nat}{g:Operand}{ps:Array Tmp}{assign body:Code}{Q:Exit→Act→World→Prop}{a:Act}{w:World}(h1:1≤n){NB:Nat}(hg:a.eval g= .func (.func 126) #[] #[.pointer (some ⟨NB,0,none⟩)])
 (t:Tr) (ka:Option Addr) (cap:Nat) (S:Nat→Prop) (hS:∀y,S y→y<w.heap.size) (hk:zt w S t.kids ka) (hc:foLen t.kids≤cap) (hsz:zb t.kids≤400000) (hNB:w.heap[NB]? =some (.cells #[.int .i64 t.id,.int .i64 t.kind,.string t.text,.slice ka (foLen t.kids) cap] 27 (0,0))) (hps:ps.size=1)
 (I:(Nat→Prop)→List Fr→World→Prop) (Ix:Code→(Nat→Prop)→World→Prop)
 (hI:∀{T T' :Nat→Prop} {L:List Fr} {V V' :World},I T L V→zh V V' (fun x=>T x∨(w.heap.size≤x∧vU V x))→kG T T' V V'→I T' L V')
 (hIx:∀{c:Code} {T:Nat→Prop} {V:World} (o o' :Loop),Ix c T V→(∀x,T x→w.heap.size+2≤x)→V.heap[w.heap.size+1]? =some (.loop o)→Ix c T (V.putObj (w.heap.size+1) (.loop o')))
 (h0:I (fun _=>False) (yH [⟨some ⟨w.heap.size+2,0,none⟩,1,zm t, -1⟩]) w)
 (hround:∀(l:Nat),l=w.heap.size+1→∀(T:Nat→Prop) (rv:Value) (x:Fr) (r:List Fr) (u:Tr) (V:World),(∀y,T y→w.heap.size+2≤y)→w.heap.size+2≤V.heap.size→vL V (fun y=>S y∨y=w.heap.size+2) t T rv (x::r)→zB x.f x.p.toNat=some u→I T (x::r) V→
   ∀ (K:Act→World→Prop),(∀a₁,(∀V',(∃o',V'=V.putObj l o'∧∃o,V.heap[l]? =some o∧o.isCells=false)→body.wpIn (Fence.wide.inRound l) (n - 1 - 1) Tryz.prog (zg6 w.heap.size T (fun y=>S y∨y=w.heap.size+2) I Ix x r u V') a₁ V')→K a₁ V)→
    assign.wpIn (Fence.wide.inRound l) (n - 1 - 1) Tryz.prog (Exit.then K (fun _ _ _=>False)) { tmps:=(ps.zip #[rv]).foldl (fun t (p,v)=>t.setIfInBounds p v) a.tmps,defers:=[] } V)
 (hdone:∀(D:Nat) (T:Nat→Prop) (V:World),w.heap.size≤D→I T [] V→V.heap[D]? =some (.deferred (some []))→Q .normal { a with defers:={ target:= .collected D,args:= #[] }::a.defers } V)
 (hstop:∀(D:Nat) (c:Code) (T:Nat→Prop) (V:World),D=w.heap.size→(∀x,T x→w.heap.size+2≤x)→Ix c T V→V.heap[D]? =some (.deferred (some []))→c.wpIn Fence.wide n Tryz.prog Q { a with defers:={ target:= .collected D,args:= #[] }::a.defers } V):
 (Code.rangeFunc g ps assign body).wpIn Fence.wide n Tryz.prog Q a w:=by
 obtain⟨B,hB⟩:∃B,w.heap.size=B:=⟨_,rfl⟩
 simp only[hB] at hI hIx hround hdone hstop h0
 refine wpIn_rangeFunc fun fn hfn=>?_
 obtain⟨rec,hrec⟩:∃rec:LoopState→Option Code→Loop,rec=fun st pe=>{ state:=st,pending:=pe,fn,tmps:=a.tmps,params:=ps,assign,body,defers:=B }:=⟨_,rfl⟩
 obtain⟨W1,hW1⟩:∃W1,W1=(w.alloc (.deferred (some []))).alloc (.loop (rec .ready none)):=⟨_,rfl⟩
 have hsz1:W1.heap.size=B+2:=by rw[hW1];simp[hB]
 have hblk:∀x,x<B→W1.heap[x]? =w.heap[x]?:=fun x hx=>by rw[hW1,BhaQ _ _ _ ug5,BhaQ _ _ _ om]
 have hbk:Book B (rec .ready none) W1:=by
  exact sc7
 have hb1:zh w W1 (fun _=>False):=by rw[hW1];exact ((zh.refl w _).alloc _).alloc _
 have hI1:I (fun _=>False) (yH [⟨some ⟨B+2,0,none⟩,1,zm t, -1⟩]) W1:=hI h0 (hb1.mono (fun _ h=>h.elim)) (fun x hx=>Or.inl hx)
 have hNBl:=lohQ hNB
 have hNB1:=(hblk NB om).trans hNB
 refine⟨B+1,[{ target:= .collected B,args:= #[] }],W1,{ target:= .fn (.func 126) #[.pointer (some ⟨NB,0,none⟩)],args:= #[.func (.yield (B+1)) #[] #[]] },W1,126, #[.func (.yield (B+1)) #[] #[]]++ #[.pointer (some ⟨NB,0,none⟩)],W1,?_,?_,?_,?_,fun _=>h1,?_⟩
 · exact ua1
 · simp only[resolve,hg]
   simp[go_sem]
 · exact ua2
 · simp[invoke,go_sem]
 · obtain ⟨J,hJ⟩:∃J:(Nat→Prop)→List Fr→World→Prop,J=fun T L V=>I T L V∧Book B (rec .ready none) V∧∀x,T x→B+2≤x:=⟨_,rfl⟩
   obtain⟨Jx,hJx⟩:∃Jx:(Nat→Prop)→World→Prop,Jx=fun T V=>∃c,Ix c T V∧Book B (rec .done (some c)) V∧∀x,T x→B+2≤x:=⟨_,rfl⟩
   have hS1:∀y,S y→y<W1.heap.size:=fun y hy=>by have:=hS y hy;omega
   have hbody:zgY Tryz.prog (n - 1 - 1) (B+1) t (fun y=>S y∨y=W1.heap.size) J Jx:=by
    rw[hsz1]
    subst hJ hJx
    refine⟨?_,?_⟩
    · rintro T T' L V V' ⟨j1,j2,j3⟩ ht hw
      exact si7
    · rintro T rv x r u V hf hu ⟨j1,j2,j3⟩
      have hr:=hround (B+1) rfl T rv x r u V j3 (by have:=lohQ j2.1;omega) hf hu j1
      have hTl:¬T (B+1):=fun h=>by have:=j3 _ h;omega
      have hSl:¬(S (B+1)∨B+1=B+2):=fun h=>by
       rcases h with h | h
       · have:=hS _ h;omega
       · omega
      have hy:=run_yield (P:=Tryz.prog) (args:= #[rv]) j2.1 ue6
      rw[hrec] at hy
      refine⟨fn,_,assign,body,hy,roundIn_of_wpIn hfn (hr _ fun a₁ hb=>?_)⟩
      refine⟨_,run_beginRound j2.1 (by rw[hrec]),?_⟩
      have hb2:Book B { rec .ready none with state:= .busy } (V.putObj (B+1) (.loop { rec .ready none with state:= .busy })):=j2.put
      refine wpIn_mono (hb _ ⟨_,rfl,_,j2.1,rfl⟩) ?_
      rintro e3 a3 U ⟨hkU,hkT,hkS,hp⟩
      have hb3:=hb2.kept hkU
      have fin:=fun jump=>run_endRound (P:=Tryz.prog) jump hb3.1
      rw[hrec] at fin hb3
      have hall:∀o',Kept T V (U.putObj (B+1) o'):=fun o'=>((Qr _ hTl).trans hkT).trans (Qr _ hTl)
      have hallS:∀o' y,(S y∨y=B+2)→(U.putObj (B+1) o').heap[y]? =V.heap[y]?:=fun o' y hy=>by
       have hne:y≠B+1:=fun e=>hSl (e▸hy)
       rw[WphQ hne,hkS y hy,WphQ hne]
      have htp:∀o',zh U (U.putObj (B+1) o') (fun x=>T x∨(B≤x∧vU U x)):=fun o'=>(qj o' hb3.1).mono (fun x hx=>Or.inr ⟨by omega,by rw[hx];exact⟨_,hb3.1,rfl⟩⟩)
      rcases hp with ⟨rfl,hi3⟩ | ⟨rfl,hi3⟩ | ⟨id,rfl,hi3⟩
      · refine⟨_,_,fin none,hall _,hallS _,.inl ⟨rfl,fun a c=>⟨hI (hi3 a c) (htp _) (fun x hx=>Or.inl hx),?_,j3⟩⟩⟩
        rw[hrec];exact hb3.put
      · refine⟨_,_,fin (some .ret),hall _,hallS _,.inr ⟨rfl,.ret,hIx _ _ hi3 j3 hb3.1,?_,j3⟩⟩
        rw[hrec];exact hb3.put
      · refine⟨_,_,fin (some (.exit id)),hall _,hallS _,.inr ⟨rfl,.exit id,hIx _ _ hi3 j3 hb3.1,?_,j3⟩⟩
        rw[hrec];exact hb3.put
   have hstart:J (fun _=>False) (yH [⟨some ⟨W1.heap.size,0,none⟩,1,zm t, -1⟩]) W1:=by rw[hJ,hsz1];exact⟨hI1,hbk,fun _ h=>h.elim⟩
   refine (callsIn_wide.2 (zgR W1 hbody NB ka cap hS1 (hk.kept fun y hy=>⟨hy,hblk y (by have:=hS y hy;omega)⟩) hc hsz hNB1 hstart)).mono ?_
   rintro e W2 ⟨⟨v,rfl⟩,(⟨T,hj⟩ | ⟨T,hj⟩)⟩
   · rw[hJ] at hj
     exact se1
   · rw[hJx] at hj
     obtain⟨c,hi,hb,hT⟩:=hj
     have:=run_endLoop (P:=Tryz.prog) hb.1 ug4
     rw[hrec] at this
     exact⟨some c,_,this,hstop B c T _ rfl hT (hIx _ _ hi hT hb.1) ((WphQ om).trans hb.2)⟩
theorem zjk (w:World)(id kd:Int)(tx:ByteArray)(ka:Option Addr)(n c:Nat):Calls Tryz.prog 120 #[.agg #[.int .i64 id,.int .i64 kd,.string tx,.slice ka n c]] w fun e w'=>e= .returned (.func (.func 126) #[] #[.pointer (some ⟨w.heap.size,0,none⟩)])∧w'=w.alloc (.cells #[.int .i64 id,.int .i64 kd,.string tx,.slice ka n c] 27):=by
 have hmf:∀(fn:Fn) (first cap:Array Value) (w:World),(Instr.makeFunc fn first cap).run Tryz.prog w= .ok (.func fn first cap) w:=fun _ _ _ _=>rfl
 go_enter Tryz.func120,Tryz.ntmps120
 go_wp2_with fail
 go_ret
 exact⟨rfl,rfl⟩
attribute [local go_sem] Oper.semAt_some
structure Je (w' :World) (S:Nat→Prop) (t:Tr) (id:Int) (rv:Value) (L:List Fr):Prop where
 rows:qo w' rv L
 ok:∀y∈L,y.ok
 lies:∀y∈L,zt w' S y.f y.a∧foLen y.f≤y.cap
 chain:qV (zm t) L
 is:(L= []∧fpi id 0 (zm t)=none)∨(L≠[]∧fpi id 0 (zm t)=some (places L))
 few:L.length≤zb t.kids+2
 sl:∀y,S y→y<w'.heap.size
def zku (w:World)(S:Nat→Prop)(t:Tr)(id:Int)(e:Ending)(w' :World):Prop:=∃rv L,e= .returned rv∧Je w' (fun y=>(S y∨w.heap.size≤y)∧y<w'.heap.size) t id rv L∧Below w.heap.size w w'∧∀g,rv.ownBlock=some g→w.heap.size≤g
theorem YJ {P:Program}{fn:Func}{p:Tmp}{tb:TypeId}(h:fn.results= #[.cell p tb])(tmps:Array Value)(w:World)(g:Nat)(v:Value)(hp:tmps.getD p undef= .pointer (some ⟨g,0,none⟩))(hc:w.cell? ⟨g,0,none⟩=some v)(hb:∀w,(isAgg tb).run P w= .ok false w):
 (results fn tmps).run P w= .ok v w:=by
 have hp' :tmps[p]?.getD undef= .pointer (some ⟨g,0,none⟩):=by simpa using hp
 have hl:(loadVar tb ⟨g,0,none⟩).run P w= .ok v w:=by simp[go_sem,hc,hb,Result.andThen]
 simp[results,h,hp',asAddr,hl]
def zeb (t:Tr)(ka:Option Addr)(n cap:Nat)(id:Int):List Obj:=
 [.cells #[.int .i64 t.id,.int .i64 t.kind,.string t.text,.slice ka n cap] 27,.cells #[.int .i64 id] 3,.cells #[.slice none 0 0] 151,.cells #[.int .i64 t.id,.int .i64 t.kind,.string t.text,.slice ka n cap] 27]
def zcY (w W:World)(t:Tr)(id:Int)(T:Nat→Prop)(L:List Fr)(V:World):Prop:=zf7 id L=fpi id 0 (zm t)∧Below w.heap.size w V∧(∀x,T x→W.heap.size≤x)∧W.heap.size≤V.heap.size∧∀x,x<W.heap.size→V.heap[x]? =W.heap[x]?
def zfZ (w W:World)(S:Nat→Prop)(t:Tr)(id:Int)(T:Nat→Prop)(V:World):Prop:=Below w.heap.size w V∧W.heap.size≤V.heap.size∧∃rv L,V.heap[w.heap.size+2]? =some (.cells #[rv] 151 (0,0))∧vL V (fun y=>S y∨y=W.heap.size+2) t T rv L∧L≠[]∧fpi id 0 (zm t)=some (places L)
theorem zcY.turn {w W V V' :World}{t:Tr}{id:Int}{T T' :Nat→Prop}{L:List Fr}(hw:w.heap.size≤W.heap.size)(h:zcY w W t id T L V)(ht:zh V V' (fun x=>T x∨(W.heap.size≤x∧vU V x)))(hwd:kG T T' V V'):zcY w W t id T' L V':=by
 obtain⟨h1,h2,h3,h4,h5⟩:=h
 have hk:∀x,x<W.heap.size→V'.heap[x]? =V.heap[x]?:=fun x hx=>ht.block x om (fun h=>by
  rcases h with h | h
  · have:=h3 x h;omega
  · omega)
 exact⟨h1,⟨ht.os.trans h2.os,ht.tape.trans h2.tape,ht.output.trans h2.output,NltQ h2.size ht.size,fun x hx=>(hk x om).trans (h2.block x hx)⟩,fun x hx=>(hwd x hx).elim (h3 x) (fun h=>by omega),NltQ h4 ht.size,fun x hx=>(hk x hx).trans (h5 x hx)⟩
theorem zfZ.put {w W V:World}{S:Nat→Prop}{t:Tr}{id:Int}{T:Nat→Prop}(hw:w.heap.size+3≤W.heap.size)(hS:∀y,S y→y<W.heap.size)(o o' :Loop)(h:zfZ w W S t id T V)(hT:∀x,T x→W.heap.size+2≤x):zfZ w W S t id T (V.putObj (W.heap.size+1) (.loop o')):=by
 obtain⟨h1,h2,rv,L,h3,h4,h5,h6⟩:=h
 have hs:(V.putObj (W.heap.size+1) (.loop o')).heap.size=V.heap.size:=by simp[World.putObj]
 have hk:∀x,x≠W.heap.size+1→(V.putObj (W.heap.size+1) (.loop o')).heap[x]? =V.heap[x]?:=fun x hx=>WphQ hx
 refine⟨⟨h1.os,h1.tape,h1.output,by have:=h1.size;omega,fun x hx=>(hk x om).trans (h1.block x hx)⟩,by omega,rv,L,(hk _ om).trans h3,h4.kept om (fun y hy=>hk y (by have:=hT y hy;omega)) (fun y hy=>hk y (by
  rcases hy with hy | hy
  · have:=hS y hy;omega
  · omega)),h5,h6⟩
theorem zj9 {w W V V1 V3:World}{S T:Nat→Prop}{t:Tr}{id:Int}{rv:Value}{x:Fr}{r:List Fr}{u:Tr}{aa:Act}{o:Obj}(hwW:w.heap.size≤W.heap.size)(hf:vL V (fun y=>S y∨y=W.heap.size+2) t T rv (x::r))(hu:zB x.f x.p.toNat=some u)(hI:zcY w W t id T (x::r) V)(hne:¬u.id=id)(hT:∀y,T y→W.heap.size+2≤y)(ev:V1=V.putObj (W.heap.size+1) o)(hb:Below V1.heap.size V1 V3):
 zg6 W.heap.size T (fun y=>S y∨y=W.heap.size+2) (zcY w W t id) (fun c T V=>c= .ret∧zfZ w W S t id T V) x r u V1 .normal aa V3:=by
 have hs1:V1.heap.size=V.heap.size:=by rw[ev];simp[World.putObj]
 have hs3:=hb.size
 obtain⟨h1,h2,h3,h4,h5⟩:=hI
 have hk:∀y,y<V.heap.size→y≠W.heap.size+1→V3.heap[y]? =V.heap[y]?:=fun y hy hn=>by rw[hb.block y om,ev,WphQ hn]
 have hpos:∀y∈x::r,0≤y.p:=fun y hy=>(hf.ok y hy).1
 refine⟨⟨hs3,fun y o hy ho _=>(hb.block y (lohQ ho)).trans ho⟩,⟨hs3,fun y hy=>hb.block y (by have:=(hf.apart y hy).1;omega)⟩,fun y hy=>hb.block y (by have:=hf.sl y hy;omega),.inl ⟨rfl,fun a c=>⟨?_,⟨hb.os.trans (by rw[ev];exact h2.os),hb.tape.trans (by rw[ev];exact h2.tape),hb.output.trans (by rw[ev];exact h2.output),by have:=h2.size;omega,fun y hy=>(hk y (by have:=h2.size;omega) om).trans (h2.block y hy)⟩,h3,by omega,fun y hy=>(hk y om om).trans (h5 y hy)⟩⟩⟩
 rw [QZ id _ (fun y hy=>by
  rcases List.mem_cons.1 hy with rfl | hy
  · simp
  · have:=hpos y hy;omega),←zjX (hf.ok x sp1) hu hne]
 exact h1
theorem zgT {w W V V1 V3:World}{S T:Nat→Prop}{t:Tr}{id:Int}{rv:Value}{x:Fr}{r:List Fr}{u:Tr}{aa:Act}{o:Obj}(hwW:w.heap.size+3≤W.heap.size)(hf:vL V (fun y=>S y∨y=W.heap.size+2) t T rv (x::r))(hS:∀y,S y→y<w.heap.size)(hu:zB x.f x.p.toNat=some u)(hI:zcY w W t id T (x::r) V)(heq:u.id=id)(hT:∀y,T y→W.heap.size+2≤y)(ev:V1=V.putObj (W.heap.size+1) o)(hb:Below V1.heap.size V1 V3){v0:Value}(hc:W.heap[w.heap.size+2]? =some (.cells #[v0] 151 (0,0))):
 zg6 W.heap.size T (fun y=>S y∨y=W.heap.size+2) (zcY w W t id) (fun c T V=>c= .ret∧zfZ w W S t id T V) x r u V1 .ret aa (V3.setCell ⟨w.heap.size+1+1,0,none⟩ rv):=by
 have hs1:V1.heap.size=V.heap.size:=by rw[ev];simp[World.putObj]
 have hs3:=hb.size
 obtain⟨h1,h2,h3,h4,h5⟩:=hI
 have hb2:∀y,y≠w.heap.size+2→(V3.setCell ⟨w.heap.size+1+1,0,none⟩ rv).heap[y]? =V3.heap[y]?:=fun y hy=>BhsQ _ _ _ _ hy
 have hk:∀y,y<V.heap.size→y≠W.heap.size+1→V3.heap[y]? =V.heap[y]?:=fun y hy hn=>by rw[hb.block y om,ev,WphQ hn]
 have hsz:(V3.setCell ⟨w.heap.size+1+1,0,none⟩ rv).heap.size=V3.heap.size:=by simp[World.setCell]
 have hT1:∀y,T y→y≠w.heap.size+2∧y≠W.heap.size+1∧y<V.heap.size:=fun y hy=>by have:=hT y hy;have:=(hf.apart y hy).1;omega
 have hS1:∀y,(S y∨y=W.heap.size+2)→y≠w.heap.size+2∧y≠W.heap.size+1∧y<V.heap.size:=fun y hy=>by
  have:=hf.sl y hy
  rcases hy with hy | hy
  · have:=hS y hy;omega
  · omega
 have hc3:V3.heap[w.heap.size+2]? =some (.cells #[v0] 151 (0,0)):=by rw[hk _ om om,h5 _ om];exact hc
 refine⟨⟨by omega,fun y o hy ho _=>(hb2 y om).trans ((hb.block y (lohQ ho)).trans ho)⟩,⟨by omega,fun y hy=>(hb2 y (hT1 y hy).1).trans (hb.block y (by have:=(hT1 y hy).2.2;omega))⟩,fun y hy=>(hb2 y (hS1 y hy).1).trans (hb.block y (by have:=(hS1 y hy).2.2;omega)),.inr (.inl ⟨rfl,rfl,⟨?_,?_,?_,by have:=h2.size;omega,fun y hy=>(hb2 y om).trans ((hk y (by have:=h2.size;omega) om).trans (h2.block y hy))⟩,by omega,rv,x::r,?_,hf.kept om (fun y hy=>(hb2 y (hT1 y hy).1).trans (hk y (hT1 y hy).2.2 (hT1 y hy).2.1)) (fun y hy=>(hb2 y (hS1 y hy).1).trans (hk y (hS1 y hy).2.2 (hS1 y hy).2.1)),by simp,?_⟩)⟩
 · show V3.os=_;rw[hb.os,ev];exact h2.os
 · show V3.tape=_;rw[hb.tape,ev];exact h2.tape
 · show V3.output=_;rw[hb.output,ev];exact h2.output
 · have:=hssQ V3 (w.heap.size+2) 0 _ _ rv hc3
   rw[show w.heap.size+1+1=w.heap.size+2 from rfl,this];simp
 · rw[←h1];exact zhF (hf.ok x sp1) hu heq
theorem zfR (w:World)(S:Nat→Prop)(nv:Value)(t:Tr)(id:Int)(hS:∀x,S x→x<w.heap.size)(ht:zG w S nv t)(hsz:zb t.kids≤400000):Calls Tryz.prog 109 #[nv,.int .i64 id] w (zku w S t id):=by
 obtain⟨ka,cap,rfl,hcap,hk⟩:=ht
 obtain⟨n,hn⟩:∃n,n=foLen t.kids:=⟨_,rfl⟩
 rw[←hn]
 have h0:=ze (zeb t ka n cap id) w
 have hb0:=zi (zeb t ka n cap id) w
 have hs0:=zw (zeb t ka n cap id) w
 have HA:=hH (aN hb0 (aN (h0 1 _ rfl) (aN (h0 2 _ rfl) (aN (h0 3 _ rfl) hs0))))
 have H:=hH (aN hS (aN hcap (aN hk (aN hsz hn))))
 clear hS hcap hk hsz hn h0 hb0 hs0
 refine (callsIn_wide (n:=8)).1 ?_
 refine callsIn_of_wp_marks Tryz.func109 rfl trivial ?_ rfl
 simp only[Tryz.ntmps109,List.size_toArray,LlcQ,List.length_nil,Nat.reduceAdd,Nat.reduceSub,Array.replicate_succ,Array.replicate_zero,List.push_toArray,List.append_toArray,List.nil_append,List.cons_append]
 gi_wp2_with (refine⟨trivial,?_⟩;gi_at_call 120;refine (callsIn_wide.2 (zjk _ _ _ _ _ _ _)).mono ?_;rintro e w' ⟨rfl,rfl⟩)
 change Code.wpIn _ _ _ _ _ _ (zl w (zeb t ka n cap id))
 generalize hW:zl w (zeb t ka n cap id)=W at HA ⊢
 clear hW
 obtain⟨k0,k1,k2,k3,k4⟩:=HA.out
 have k4' :W.heap.size=w.heap.size+4:=k4
 have hSl:=H.out.1
 have hSW:∀y,S y→y<W.heap.size:=fun y hy=>by have:=hSl y hy;omega
 have hkW:zt W S t.kids ka:=H.out.2.2.1.kept fun y hy=>⟨hy,k0.block y (hSl y hy)⟩
 have k3' :W.heap[w.heap.size+3]? =some (.cells #[.int .i64 t.id,.int .i64 t.kind,.string t.text,.slice ka (foLen t.kids) cap] 27 (0,0)):=by rw[←H.out.2.2.2.2];exact k3
 refine ze8 om rfl t ka cap S hSW hkW H.out.2.1 H.out.2.2.2.1 k3' rfl
  (zcY w W t id) (fun c T V=>c= .ret∧zfZ w W S t id T V) (fun h ht hwd=>h.turn om ht hwd) (fun o o' h hT ho=>⟨h.1,h.2.put om hSW o o' hT⟩)
  ⟨?_,k0,fun _ h=>h.elim,NlrQ _,fun _ _=>rfl⟩ ?round ?done ?stop
 · rw[QZ id _ (fun y hy=>by rw[List.mem_singleton] at hy;subst hy;simp),za6]
   show (match fpi id 0 (zq 0 (zm t)) with | some q=>some (places []++q) | none=>none)=_
   rw[qH]
   cases fpi id 0 (zm t)<;>rfl
 case done=>
  rintro D T V hD hI hK
  have hd:=(hI.2.2.2.2 (w.heap.size+2) om).trans k2
  have c0:V.cell? ⟨w.heap.size+1+1,0,none⟩=some (.slice none 0 0):=by rw[corQ _ _ 0 _ _ _ hd];rfl
  have cf:V.frozen? ⟨w.heap.size+1+1,0,none⟩=false:=forQ _ _ 0 _ _ hd
  have HE:=hH (aN hI (aN hd (aN hD hK)))
  clear hI hd hK HA H k0 k1 k2 k3 k3' k4 hSW hkW
  gi_wp2
  obtain⟨hI,hd,hD,hK⟩:=HE.out
  have hne:D≠w.heap.size+1+1:=by omega
  refine⟨by simp,.inl ⟨_,_,rfl,run_takeDeferred ((BhsQ V ⟨w.heap.size+1+1,0,none⟩ _ _ hne).trans hK),?_⟩⟩
  have hg:((V.setCell ⟨w.heap.size+1+1,0,none⟩ (.slice none 0 0)).putObj D (.deferred none)).cell? ⟨w.heap.size+1+1,0,none⟩=some (.slice none 0 0):=by
   rw[World.cell?_of_block (w:=V.setCell ⟨w.heap.size+1+1,0,none⟩ (.slice none 0 0)) (WphQ (Ne.symm hne))]
   exact World.cell?_setCell_same' V _ _ (by rw[c0];rfl)
  refine⟨_,YJ rfl _ _ (w.heap.size+1+1) _ rfl hg (fun _=>by kernel_rfl),_,[],rfl,⟨World.ownsRow_nil _ _ _ _,fun _ h=>(by cases h),fun _ h=>(by cases h),trivial,Or.inl ⟨rfl,hI.1.symm⟩,by simp,fun y hy=>hy.2⟩,⟨hI.2.1.os,hI.2.1.tape,hI.2.1.output,by have:=hI.2.1.size;simp[World.putObj,World.setCell];exact this,fun y hy=>?_⟩,fun g hg=>(by cases hg)⟩
  rw[WphQ om,BhsQ _ _ _ _ ug1]
  exact hI.2.1.block y hy
 case stop=>
  rintro D c T V hD hT ⟨rfl,h1,h2,rv,L,h3,h4,h5,h6⟩ hK
  have c0:(V.putObj D (.deferred none)).cell? ⟨w.heap.size+1+1,0,none⟩=some rv:=by
   rw[World.cell?_of_block (WphQ ug1),corQ _ _ 0 _ _ _ h3];rfl
  have hend:zku w S t id (.returned rv) (V.putObj D (.deferred none)):=by
   have hs:(V.putObj D (.deferred none)).heap.size=V.heap.size:=by simp[World.putObj]
   have hf:=h4.kept (w':=V.putObj D (.deferred none)) om (fun y hy=>WphQ (by have:=hT y hy;omega)) (fun y hy=>WphQ (by
    rcases hy with hy | hy
    · have:=hSl y hy;omega
    · omega))
   refine⟨rv,L,rfl,⟨hf.rows,hf.ok,fun y hy=>⟨(hf.lies y hy).1.kept fun z hz=>⟨⟨hz.imp (fun h=>h) (fun e=>by omega),hf.sl z hz⟩,rfl⟩,(hf.lies y hy).2⟩,hf.chain,Or.inr ⟨h5,h6⟩,by have:=hf.few;omega,fun y hy=>hy.2⟩,⟨h1.os,h1.tape,h1.output,by have:=h1.size;omega,fun y hy=>?_⟩,fun g hg=>by have:=hT g (hf.own g hg);omega⟩
   rw[WphQ om]
   exact h1.block y hy
  have HE:=hH (aN c0 hend)
  clear c0 hend h1 h2 h3 h4 h5 h6 HA H k0 k1 k2 k3 k3' k4 hSl hSW hkW
  gi_wp2
  refine⟨by simp,.inl ⟨_,_,rfl,run_takeDeferred hK,?_⟩⟩
  exact⟨_,YJ rfl _ _ (w.heap.size+1+1) _ rfl HE.out.1 (fun _=>by kernel_rfl),HE.out.2⟩
 case round=>
  rintro l hl T rv x r u V hT hV hf hu hI K hK
  obtain⟨g,rc,k,p,u',b,off,kb,kc,rfl,hk',hkN,hkc,hTg,c0,c1,hxp,hpl,hpN,hu',hxa,hSb,d0,d3,hkk,hku⟩:=hf.here
  rw[hu] at hu'
  cases hu'
  obtain⟨q,hq⟩:∃q,q=foLen x.f:=⟨_,rfl⟩
  obtain⟨uid,huid⟩:∃uid,uid=u.id:=⟨_,rfl⟩
  rw[←hq] at c0 hpl hpN
  rw[←huid] at d0
  rw[hxa] at c0
  have HK:=hH hK
  have hsz:=H.out.2.2.2.1
  have HR:=hH (aN hf (aN hu (aN hI (aN hT (aN hV (aN huid hl))))))
  have HC:=hH (aN c0 (aN c1 d0))
  have hnode:=fun X=>zdF X b off q x.cap p hpl om
  have HN:=hH hnode
  have hk00:(0:Int)≤(k:Int):=by omega
  have hkl:(k:Int)<(k:Int)+1:=by omega
  have hkb:k≤1000000:=by omega
  have hpb:p≤1000000:=by omega
  have hkw:IntKind.i64.wrap (k:Int)=(k:Int):=IntWalk.i64_in _ om
  have hgl:=World.block_lt_of_cell? _ _ c0
  have hbl:=World.block_lt_of_cell? _ _ d0
  clear hf hu hI hT hV hK hq huid c0 c1 d0 d3 hkk hku hnode hxa hl hxp hk'
  gi_wp2
  refine HK.out _ fun V1 hV1=>?_
  clear HK
  obtain⟨o',ev,o,ho,hoc⟩:=hV1
  have hl:=HR.out.2.2.2.2.2.2
  have hV1s:∀y,y≠W.heap.size+1→V1.heap[y]? =V.heap[y]?:=fun y hy=>by rw[ev,hl];exact WphQ hy
  have hgT:g≠W.heap.size+1:=by have:=HR.out.2.2.2.1 g hTg;omega
  have hbT:b≠W.heap.size+1:=by
   rcases hSb with hb | hb
   · have:=hSW b hb;omega
   · omega
  have e0:V1.cell? ⟨g,k*2,none⟩=some (.slice (some ⟨b,off,none⟩) q x.cap):=(World.cell?_of_block (hV1s g hgT)).trans HC.out.1
  have e1:V1.cell? ⟨g,k*2+1,none⟩=some (.int .i64 (p:Int)):=(World.cell?_of_block (hV1s g hgT)).trans HC.out.2.1
  have e2:V1.cell? ⟨b,off+p*4,none⟩=some (.int .i64 uid):=(World.cell?_of_block (hV1s b hbT)).trans HC.out.2.2
  have i0:V1.cell? ⟨w.heap.size+1,0,none⟩=some (.int .i64 id):=by rw[corQ _ _ 0 _ _ _ ((hV1s _ om).trans ((HR.out.2.2.1.2.2.2.2 _ om).trans k1))];rfl
  obtain⟨SX,hSX⟩:∃SX:World→Prop,SX=fun X=>X.cell? ⟨g,k*2,none⟩=some (.slice (some ⟨b,off,none⟩) q x.cap)∧X.cell? ⟨g,k*2+1,none⟩=some (.int .i64 (p:Int))∧X.cell? ⟨b,off+p*4,none⟩=some (.int .i64 uid)∧X.cell? ⟨w.heap.size+1,0,none⟩=some (.int .i64 id):=⟨_,rfl⟩
  have HSx:∀X,SX X→X.cell? ⟨g,k*2,none⟩=some (.slice (some ⟨b,off,none⟩) q x.cap)∧X.cell? ⟨g,k*2+1,none⟩=some (.int .i64 (p:Int))∧X.cell? ⟨b,off+p*4,none⟩=some (.int .i64 uid)∧X.cell? ⟨w.heap.size+1,0,none⟩=some (.int .i64 id):=fun X h=>by rw[hSX] at h;exact h
  have hS0:SX V1.drew:=by rw[hSX];exact⟨e0,e1,e2,i0⟩
  have HSB:Hid (∀X Y,SX X→Below X.heap.size X Y→SX Y):=hH fun X Y h hb=>by
   rw[hSX] at h ⊢
   exact⟨(hb.cell (World.block_lt_of_cell? _ _ h.1)).trans h.1,(hb.cell (World.block_lt_of_cell? _ _ h.2.1)).trans h.2.1,(hb.cell (World.block_lt_of_cell? _ _ h.2.2.1)).trans h.2.2.1,(hb.cell (World.block_lt_of_cell? _ _ h.2.2.2)).trans h.2.2.2⟩
  have HV1:=hH (aN ev hl)
  have HZ:=hH (aN k0 (aN k2 (aN k4' (aN hSl hSW))))
  clear hSX e0 e1 e2 i0 HC ev ho hoc hl hV1s hgT hbT k0 k1 k2 k3 k3' k4 k4' hSl hSW hkW HA
  gi_wp2
  refine QB (S:=SX) kr1 (zfH kr1) ?_
  have eH:=hS0
  refine zL1 (i:=0) (.slice (some ⟨g,0,none⟩) (k+1) rc) rfl ?_ ?_
  · exact ua3
  simp only[Act.put,pg]
  refine zL1 (i:=1) (.slice (some ⟨g,0,none⟩) (k+1) rc) rfl ?_ ?_
  · exact ua3
  simp only[Act.put,pg]
  refine zL1 (i:=2) (.int .i64 ((k:Int)+1)) rfl ?_ ?_
  · exact ua3
  simp only[Act.put,pg]
  refine zL1 (i:=3) (.int .i64 (k:Int)) rfl ?_ ?_
  · exact ua3
  simp only[Act.put,pg]
  refine zL1 (i:=4) (.pointer (some ⟨g,k*2,none⟩)) rfl ?_ ?_
  · exact ua3
  simp only[Act.put,pg]
  refine zL1 (i:=5) (.agg #[.slice (some ⟨b,off,none⟩) q x.cap,.int .i64 (p:Int)]) rfl ?_ ?_
  · exact ua3
  simp only[Act.put,pg]
  refine zL1 (i:=10) (.int .i64 id) rfl ?_ ?_
  · exact ua3
  simp only[Act.put,pg]
  refine yG (i:=6) (o:=_) kr1 rfl ?_
  intro K3 hK3
  rw[ipQ ug8]
  simp only[pg3]
  have HK3:=hH hK3
  have HS0:=hH hS0
  clear hK3 eH hS0
  gi_wp2_with (refine⟨trivial,?_⟩;gi_at_call 121;refine (callsIn_wide.2 (HN.out _)).mono ?_;rintro e V3 ⟨rfl,hb3⟩;have HV3:=hH hb3;clear hb3)
  have eH:=HSB.out _ V3 HS0.out HV3.out
  refine HK3.out _ _ eH ?_
  clear HK3 HS0
  refine zL1 (i:=7) (.pointer (some ⟨b,off+p*4,none⟩)) rfl ?_ ?_
  · exact ua3
  simp only[Act.put,pg]
  refine zL1 (i:=8) (.pointer (some ⟨b,off+p*4,none⟩)) rfl ?_ ?_
  · exact ua3
  simp only[Act.put,pg]
  refine zL1 (i:=9) (.int .i64 uid) rfl ?_ ?_
  · exact ua3
  simp only[Act.put,pg]
  refine zL1 (i:=11) (.bool (uid == id)) rfl ?_ ?_
  · exact ua3
  simp only[Act.put,pg]
  refine qp kr1 ?_ _
  clear eH HSx HSB
  have hb3:Below V1.heap.size V1 V3:=⟨HV3.out.os,HV3.out.tape,HV3.out.output,HV3.out.size,HV3.out.block⟩
  by_cases heq:uid=id
  · have hbq:(uid == id)=true:=by simpa using heq
    rw[hbq]
    have hz:V3.heap[w.heap.size+1+1]? =some (.cells #[.slice none 0 0] 151 (0,0)):=by
     have h9:=HR.out.2.2.1
     rw[hb3.block _ (by rw[HV1.out.1];have:=HZ.out.2.2.1;have:=h9.2.2.2.1;simp[World.putObj];omega),HV1.out.1,HV1.out.2,WphQ ue4,h9.2.2.2.2 _ ue4]
     exact HZ.out.2.1
    have z0:V3.cell? ⟨w.heap.size+1+1,0,none⟩=some (.slice none 0 0):=by rw[corQ _ _ 0 _ _ _ hz];rfl
    have zf:V3.frozen? ⟨w.heap.size+1+1,0,none⟩=false:=forQ _ _ 0 _ _ hz
    have HE:=hH (fun aa=>zgT (aa:=aa) ue4 HR.out.1 HZ.out.2.2.2.1 HR.out.2.1 HR.out.2.2.1 (by rw[←HR.out.2.2.2.2.2.1];exact heq) HR.out.2.2.2.1 (by rw[←HV1.out.2];exact HV1.out.1) hb3 HZ.out.2.1)
    clear hz hb3 heq hbq
    gi_wp2
    exact HE.out _
  · have hbq:(uid == id)=false:=by simpa using heq
    rw[hbq]
    have HE:=hH (fun aa=>zj9 (S:=S) (aa:=aa) ue4 HR.out.1 HR.out.2.1 HR.out.2.2.1 (by rw[←HR.out.2.2.2.2.2.1];exact heq) HR.out.2.2.2.1 (by rw[←HV1.out.2];exact HV1.out.1) hb3)
    clear hb3 heq hbq
    gi_wp2
    exact HE.out _
end Go.Proofs.YtgkmmnihaiopaaaGreat
