/-
  .
-/
import Derived.Test.YtgkmmnihaiopaaaGreatHSharedQu
import Derived.Test.YtgkmmnihaiopaaaGreatEFindWQu
import Derived.Test.YtgkmmnihaiopaaaGreatECountNQu
import Derived.Test.YtgkmmnihaiopaaaGreatJPgQu
import Derived.Test.YtgkmmnihaiopaaaGreatJPsQu
set_option maxRecDepth 100000
set_option maxHeartbeats 40000000
set_option linter.unusedVariables false
set_option linter.unusedSimpArgs false
namespace Go.Proofs.YtgkmmnihaiopaaaGreat
open Go.RowKit Go.Shelf
attribute [local go_sem] Oper.semAt_some
structure zga (P:Program) (m l:Nat) (t:Tr) (S:Nat→Prop) (J:(Nat→Prop)→List Fr→World→Prop) (Jx:(Nat→Prop)→World→Prop):Prop where
 turn:∀{T T' :Nat→Prop} {L:List Fr} {w w' :World},J T L w→zk w w' T→jd T T' w w'→J T' L w'
 yield:∀{T:Nat→Prop} {rv:Value} {x:Fr} {r:List Fr} {u:Tr} {w:World},vo w S t T rv (x::r)→zB x.f x.p.toNat=some u→J T (x::r) w→
  YieldAt Fence.wide m P l #[rv] w fun e w'=>Kept T w w'∧(∀y,S y→w'.heap[y]? =w.heap[y]?)∧((e= .returned (.bool true)∧∀a c,J T (yG (⟨a,c,u.kids, -1⟩::x::r)) w')∨(e= .returned (.bool false)∧Jx T w'))
def zhU (S:Nat→Prop) (t:Tr) (J:(Nat→Prop)→List Fr→World→Prop) (gk:Nat) (rv:Value) (wr:World):Prop:=∃T L,vo wr S t T rv L∧J T L wr∧gk=jl L
def zdA (J:(Nat→Prop)→List Fr→World→Prop) (Jx:(Nat→Prop)→World→Prop) (e:Ending) (V:World):Prop:=(∃v,e= .returned v)∧((∃T,J T [] V)∨∃T,Jx T V)
theorem zhh {α β:Type} (p:Nat→α→β→Prop):∃ms:α→β→Nat,∀x y,(∃n,p n x y)→p (ms x y) x y∧∀n,p n x y→ms x y≤n:=by
 refine Classical.axiomOfChoice (β:=fun _=>β→Nat) (r:=fun x f=>∀y,(∃n,p n x y)→p (f y) x y∧∀n,p n x y→f y≤n) fun x=>?_
 refine Classical.axiomOfChoice (β:=fun _=>Nat) (r:=fun y k=>(∃n,p n x y)→p k x y∧∀n,p n x y→k≤n) fun y=>?_
 by_cases h:∃n,p n x y
 · obtain ⟨n,hn⟩:=h
   induction n using Nat.strongRecOn with
   | ind n ih=>
     by_cases hm:∃m,m<n∧p m x y
     · obtain⟨m,hm,hp⟩:=hm
       exact ih m hm hp
     · exact⟨n,fun _=>⟨hn,fun m hp=>by
        rcases Nat.lt_or_ge m n with h | h
        · exact absurd ⟨m,h,hp⟩ hm
        · exact h⟩⟩
 · exact⟨0,fun h'=>absurd h' h⟩
theorem Tryz.zhb:(Tryz.prog.info? 154).map (fun i=>(i.size,i.bytes,i.zero.map (fun z=>z.cells.size)))=some (2,32,some 2):=by kernel_rfl
theorem zeq {P:Program} {m l:Nat} {t:Tr} {S:Nat→Prop} {J:(Nat→Prop)→List Fr→World→Prop} {Jx:(Nat→Prop)→World→Prop} {W W2:World} {ka:Option Addr} {cap:Nat} (hB:zga P m l t (fun y=>S y∨y=W.heap.size) J Jx) (hS:∀y,S y→y<W.heap.size) (hk:zu W S t.kids ka) (hc:foLen t.kids≤cap)
 (hJ:J (fun _=>False) (yG [⟨some ⟨W.heap.size,0,none⟩,1,zl t, -1⟩]) W)
 (hW2:W2=(W.alloc (.cells #[.int .i64 t.id,.int .i64 t.kind,.string t.text,.slice ka (foLen t.kids) cap] 27)).alloc (.cells #[.slice (some ⟨W.heap.size,0,none⟩) 1 1,.int .i64 (-1)] 154)):
 zgz W2 (fun y=>S y∨y=W.heap.size) t (fun y=>y=W.heap.size+1) (.slice (some ⟨W.heap.size+1,0,none⟩) 1 1) [⟨some ⟨W.heap.size,0,none⟩,1,zl t, -1⟩]∧J (fun y=>y=W.heap.size+1) (yG [⟨some ⟨W.heap.size,0,none⟩,1,zl t, -1⟩]) W2:=by
 have hsz:W2.heap.size=W.heap.size+2:=by rw[hW2];simp
 have hb:∀y,y<W.heap.size→W2.heap[y]? =W.heap[y]?:=fun y hy=>by rw[hW2,BhaQ _ _ _ (by simp;omega),BhaQ _ _ _ hy]
 have h0:W2.heap[W.heap.size]? =some (.cells #[.int .i64 t.id,.int .i64 t.kind,.string t.text,.slice ka (foLen t.kids) cap] 27 (0,0)):=by rw[hW2,BhaQ _ _ _ sp1];exact hanQ W _
 have h1:W2.heap[W.heap.size+1]? =some (.cells #[.slice (some ⟨W.heap.size,0,none⟩) 1 1,.int .i64 (-1)] 154 (0,0)):=by
  have:=hanQ (W.alloc (.cells #[.int .i64 t.id,.int .i64 t.kind,.string t.text,.slice ka (foLen t.kids) cap] 27)) (.cells #[.slice (some ⟨W.heap.size,0,none⟩) 1 1,.int .i64 (-1)] 154)
  rw[WsaQ] at this;rw[hW2];exact this
 have hl:=kM (S:=S) (fun x hx=>hb x (hS x hx)) hc hk h0
 refine⟨⟨?_,fun g hg=>?_,fun y hy=>?_,fun y hy=>(by cases hy),fun y hy=>?_,rfl,fun y hy=>?_,?_,fun y hy=>?_⟩,?_⟩
 · exact⟨by simp[Fr.cells],Or.inr ⟨_,1,_,rfl,by omega,h1,by simp,by unfold maxLen;omega,by simp,by simp[Fr.cells,zl,foLen]⟩⟩
 · simp[Value.ownBlock] at hg;exact hg.symm
 · rw[List.mem_singleton] at hy;subst hy;exact⟨by simp,by simp only;omega⟩
 · rw[List.mem_singleton] at hy;subst hy;exact⟨hl,by simp[zl,foLen]⟩
 · refine⟨by omega,fun h=>?_⟩
   rcases h with h | h
   · have:=hS y h;omega
   · omega
 · simp[Y4,Fr.nx,qC,zL];omega
 · rcases hy with hy | hy
   · have:=hS y hy;omega
   · omega
 · refine hB.turn hJ ⟨by rw[hW2];rfl,by rw[hW2];rfl,by rw[hW2];rfl,by omega,fun y hy _=>hb y hy⟩ fun y hy=>Or.inr ⟨by omega,by omega⟩
theorem zf4 {w2 w3 w6:World} {S T:Nat→Prop} {t:Tr} {rv v' :Value} {x:Fr} {r:List Fr} {u:Tr} {kb:Option Addr} {k v kc:Nat} {o:Obj} (hf:vo w2 S t T rv (x::r)) (hu:zB x.f x.p.toNat=some u) (hk:k=r.length) (hv:v=foLen u.kids) (hku:zu w2 S u.kids kb) (hkk:v≤kc) (hb:Below w2.heap.size w2 w3)
 (ho:w6.ownsRow 0 154 2 v' (k+1+1) ((x::r).reverse.flatMap Fr.cells++[.slice kb v kc,.int .i64 (-1)])) (hg:(w3.alloc o).grownBy w6 rv.ownBlock) (hat:v'.ownBlock=rv.ownBlock∨v'.ownBlock=some (w3.alloc o).heap.size):
 ∃T3,zgz w6 S t T3 v' (⟨kb,kc,u.kids, -1⟩::x::r)∧zk w2 w6 T∧jd T T3 w2 w6:=by
 have h1:=hb.size
 have h2:=hg.size
 rw[WsaQ] at h2
 have hblk:∀y,y<w2.heap.size→rv.ownBlock≠some y→w6.heap[y]? =w2.heap[y]?:=fun y hy hn=>by
  rw[hg.block y (by rw[WsaQ];omega) (fun e=>hn e.symm),BhaQ _ _ _ om,hb.block y hy]
 have hS:∀y,S y→w6.heap[y]? =w2.heap[y]?:=fun y hy=>hblk y (hf.sl y hy) (fun e=>(hf.apart y (hf.own y e)).2 hy)
 subst hk
 subst hv
 refine⟨fun y=>T y∨(w2.heap.size≤y∧y<w6.heap.size),hf.push hu hku hkk om hS ho (fun g hg'=>?_) (fun y hy=>?_),⟨?_,?_,?_,by omega,fun y hy hn=>hblk y hy (fun e=>hn (hf.own y e))⟩,fun y hy=>hy⟩
 · rcases hat with e | e
   · exact Or.inl (hf.own g (e▸hg'))
   · have h3:=zo ho hg'
     rw[e] at hg';cases hg'
     rw[WsaQ] at h3 ⊢
     exact Or.inr ⟨by omega,h3.2⟩
 · rcases hy with hy | hy
   · have:=hf.apart y hy;exact⟨by omega,this.2⟩
   · exact⟨hy.2,fun h=>by have:=hf.sl y h;omega⟩
 · exact hg.os.trans hb.os
 · exact hg.tape.trans hb.tape
 · exact hg.output.trans hb.output
theorem zdA.mk0 {J:(Nat→Prop)→List Fr→World→Prop} {Jx:(Nat→Prop)→World→Prop} {T:Nat→Prop} {V:World} {v:Value} (h:J T [] V):zdA J Jx (.returned v) V:=⟨⟨v,rfl⟩,Or.inl ⟨T,h⟩⟩
theorem zdA.mkx {J:(Nat→Prop)→List Fr→World→Prop} {Jx:(Nat→Prop)→World→Prop} {T:Nat→Prop} {V:World} {v:Value} (h:Jx T V):zdA J Jx (.returned v) V:=⟨⟨v,rfl⟩,Or.inr ⟨T,h⟩⟩
theorem zf3 {m l:Nat} {t:Tr} {S:Nat→Prop} {J:(Nat→Prop)→List Fr→World→Prop} {Jx:(Nat→Prop)→World→Prop} (W:World) (hB:zga Tryz.prog m l t (fun y=>S y∨y=W.heap.size) J Jx) (NB:Nat) (ka:Option Addr) (cap:Nat) (hS:∀y,S y→y<W.heap.size) (hk:zu W S t.kids ka) (hc:foLen t.kids≤cap) (hsz:zg t.kids≤400000)
 (hNB:W.heap[NB]? =some (.cells #[.int .i64 t.id,.int .i64 t.kind,.string t.text,.slice ka (foLen t.kids) cap] 27 (0,0))) (hJ:J (fun _=>False) (yG [⟨some ⟨W.heap.size,0,none⟩,1,zl t, -1⟩]) W):
 Calls Tryz.prog 126 #[.func (.yield l) #[] #[],.pointer (some ⟨NB,0,none⟩)] W (zdA J Jx):=by
 obtain⟨W2,hW2⟩:∃W2,W2=(W.alloc (.cells #[.int .i64 t.id,.int .i64 t.kind,.string t.text,.slice ka (foLen t.kids) cap] 27)).alloc (.cells #[.slice (some ⟨W.heap.size,0,none⟩) 1 1,.int .i64 (-1)] 154):=⟨_,rfl⟩
 obtain⟨hpre,hJ2⟩:=zeq hB hS hk hc hJ hW2
 have hnext:=zcR W2 _ _ hpre.rows sp1 (fun x hx=>by rw[List.mem_singleton] at hx;subst hx;simp)
 obtain⟨n,hn⟩:∃n,n=foLen t.kids:=⟨_,rfl⟩
 rw[←hn] at hNB hW2
 have n0:W.cell? ⟨NB,0,none⟩=some (.int .i64 t.id):=by rw[corQ _ _ 0 _ _ _ hNB];rfl
 have n1:W.cell? ⟨NB,1,none⟩=some (.int .i64 t.kind):=by rw[corQ _ _ 1 _ _ _ hNB];rfl
 have n2:W.cell? ⟨NB,2,none⟩=some (.string t.text):=by rw[corQ _ _ 2 _ _ _ hNB];rfl
 have n3:W.cell? ⟨NB,3,none⟩=some (.slice ka n cap):=by rw[corQ _ _ 3 _ _ _ hNB];rfl
 obtain⟨ms,hms⟩:=zhh (fun gk rv wr=>zhU (fun y=>S y∨y=W.heap.size) t J gk rv wr)
 have HP:=hH (aN hpre (aN hJ2 (aN hnext hn)))
 have HW2:=hH hW2
 have HMS:=hH hms
 have HSZ:=hH hsz
 clear hpre hJ2 hnext hn hk hc hJ hNB hW2 hms hsz
 obtain⟨i0,z0,hi0,hz0,hz1,hz2,hz3⟩:=yz Tryz.zhb
 have HI:=hH (aN hi0 (aN hz0 (aN hz1 (aN hz2 hz3))))
 clear hi0 hz0 hz1 hz2 hz3
 refine (callsIn_wide (n:=6)).1 ?_
 refine callsIn_of_wp Tryz.func126 rfl trivial ?_ rfl
 simp only[Tryz.ntmps126,List.size_toArray,List.length_cons,List.length_nil,Nat.reduceAdd,Nat.reduceSub,Array.replicate_succ,Array.replicate_zero,List.push_toArray,List.append_toArray,List.nil_append,List.cons_append]
 gi_wp2
 refine⟨trivial,?_⟩
 rw[←HW2.out]
 refine (callsIn_wide.2 HP.out.2.2.1).mono ?_
 rintro e W3 ⟨rv,rfl,r1,r2,r3⟩
 have HST:Hid (∃gk,zhU (fun y=>S y∨y=W.heap.size) t J gk rv W3):=hH ⟨_,_,_,HP.out.1.next r1 r2 r3,hB.turn HP.out.2.1 (r3.mono (fun y hy=>HP.out.1.own y hy)) (fun y hy=>Or.inl hy),rfl⟩
 clear r1 r2 r3 n0 n1 n2 n3
 gi_wp2
 gi_loopw [3] (fun rv wr=>Hid (∃gk,zhU (fun y=>S y∨y=W.heap.size) t J gk rv wr)) (fun rv wr=>ms rv wr)
 case atStart=>exact HST
 case round=>
  clear HST
  obtain⟨T,L,hf,hJ3,hgk⟩:=(HMS.out _ _ hrel.out).1
  have HG:=hH hgk
  clear hrel hgk
  cases L with
  | nil=>
    obtain⟨ra,rc,rfl⟩:=zw hf.rows
    have HE:=hH (zdA.mk0 (Jx:=Jx) (v:= .tuple #[]) hJ3)
    clear hf hJ3
    simp only[List.length_nil]
    gi_wp2
    refine⟨fun f hf=>(by cases hf),?_⟩
    gi_wp2
    go_end0
    exact HE.out
  | cons x r=>
    obtain⟨g,rc,k,p,u,b,off,kb,kc,rfl,hk,hkN,hkc,hTg,c0,c1,hxp,hpl,hpN,hu,hxa,hSb,d0,d3,hkk,hku⟩:=hf.here
    obtain⟨fn,tmps,assign,body,hy,hR⟩:=YieldAt.vB 5 (hB.yield hf hu hJ3)
    have hk0:(0:Int)<(k:Int)+1:=by omega
    have HR:=hH hR
    obtain⟨q,hq⟩:∃q,q=foLen x.f:=⟨_,rfl⟩
    obtain⟨v,hv⟩:∃v,v=foLen u.kids:=⟨_,rfl⟩
    rw[←hq] at c0 hpl hpN
    rw[←hv] at d3 hkk
    have HF:=hH (aN hf (aN hu (aN hk (aN hxp (aN hq (aN hv (aN hTg (aN hSb (aN hkk hku)))))))))
    have HC:=hH (aN c0 (aN c1 d3))
    have hxa':=hxa
    clear hf hu hk hJ3 hR c0 c1 d0 d3 hxp hq hv hTg hSb hkk hku
    gi_wp2
    refine HR.out.mono ?_
    clear HR hy
    rintro e w2 ⟨hkT,hkS,(⟨rfl,hJ4⟩ | ⟨rfl,hJ4⟩)⟩
    · obtain⟨f1,f2,f3,f4,f5,f6,f7,f8,f9,f10⟩:=HF.out
      have c0:w2.cell? ⟨g,k*2,none⟩=some (.slice (some ⟨b,off,none⟩) q x.cap):=by rw[←hxa];exact (World.cell?_of_block (hkT.2 g f7)).trans HC.out.1
      have c1:w2.cell? ⟨g,k*2+1,none⟩=some (.int .i64 (p:Int)):=(World.cell?_of_block (hkT.2 g f7)).trans HC.out.2.1
      have d3:w2.cell? ⟨b,off+p*4+3,none⟩=some (.slice kb v kc):=(World.cell?_of_block (hkS b f8)).trans HC.out.2.2
      have hf2:=f1.kept hkT.1 hkT.2 hkS
      have hnode:=zcT w2 b off q x.cap p hpl (by have:=HSZ.out;omega)
      have hkl:(k:Int)<(k:Int)+1:=by omega
      have hk00:(0:Int)≤(k:Int):=by omega
      have hkb:k≤1000000:=by have:=HSZ.out;omega
      have hpb:p≤1000000:=by have:=HSZ.out;omega
      have hkw:IntKind.i64.wrap ((k:Int)+1 - 1)=(k:Int):=by rw[IntWalk.i64_in _ om];omega
      have hbl:=World.block_lt_of_cell? _ _ d3
      have HN:=hH hnode
      have HR3:Hid (∀w3,Below w2.heap.size w2 w3→w3.ownsRow 0 154 2 (.slice (some ⟨g,0,none⟩) (k+1) rc) (k+1) ((x::r).reverse.flatMap Fr.cells)):=hH fun w3 hb=>by
       have h9:=qd.kept (w':=w3) hf2.rows (fun g' hg'=>hb.block g' (hf2.apart g' (hf2.own g' hg')).1)
       unfold qd at h9
       rw[List.length_cons,←f3] at h9
       exact h9
      have HJ:=hH (aN hJ4 (aN hf2 hkS))
      clear hnode hJ4 hf2 hkT hkS f1 f2 f3 f4 f5 f6 f7 f8 f9 f10 HC
      gi_wp2_with (first
       | (refine⟨trivial,?_⟩;gi_at_call 121;refine (callsIn_wide.2 HN.out).mono ?_;rintro e w3 ⟨rfl,hb3⟩;have d3':=(hb3.cell (p:=⟨b,off+p*4+3,none⟩) hbl).trans d3;have HB3:=hH hb3;clear hb3;have hrow3:=HR3.out w3 HB3.out)
       | (gi_at_builtin;refine jM _ rfl (.tmp 28) (.tmp 31) _ rfl 0 154 i0 z0 2 32 Tryz.underlying151 HI.out.1 HI.out.2.1 HI.out.2.2.1 HI.out.2.2.2.1 HI.out.2.2.2.2 om (.slice (some ⟨g,0,none⟩) (k+1) rc) (k+1) _ rfl (hrow3.alloc _) ⟨w3.heap.size,0,none⟩ 1 1 [.slice kb v kc,.int .i64 (-1)] rfl rfl (World.news_of_block (hanQ w3 _)) (by simp[Value.oneCell']) (by unfold maxLen;omega) om sp1 ?_;intro v' w6 hown6 hgrow hat;obtain⟨T3,hpre,ht3,hw3⟩:=zf4 HJ.out.2.1 HF.out.2.1 HF.out.2.2.1 HF.out.2.2.2.2.2.1 (HF.out.2.2.2.2.2.2.2.2.2.kept (w':=w2) fun y hy=>⟨hy,HJ.out.2.2 y hy⟩) HF.out.2.2.2.2.2.2.2.2.1 HB3.out hown6 hgrow hat;have HPRE:=hH (aN hpre (aN ht3 hw3));clear hpre ht3 hw3 hown6 hgrow hat)
       | (refine⟨trivial,?_⟩;gi_at_call 127;refine (callsIn_wide.2 (zcR w6 v' _ HPRE.out.1.rows (by have h9:=HPRE.out.1.few;have:=HSZ.out;simp only[List.length_cons] at*;omega) (fun y hy=>⟨(HPRE.out.1.p y hy).1,by have h9:=(HPRE.out.1.p y hy).2;have h8:=kX _ HPRE.out.1.chain y hy;rw[zL] at h8;have:=HSZ.out;omega⟩))).mono ?_;rintro e w7 ⟨rv7,rfl,r1,r2,r3⟩;have HNX:=hH (aN r1 (aN r2 r3));clear r1 r2 r3))
      have hwf:=HPRE.out.1.next HNX.out.1 HNX.out.2.1 HNX.out.2.2
      have hj:=hB.turn (HJ.out.1 kb kc) HPRE.out.2.1 HPRE.out.2.2
      have hj2:=hB.turn hj (HNX.out.2.2.mono (fun y hy=>HPRE.out.1.own y hy)) (fun y hy=>Or.inl hy)
      have hinv:zhU (fun y=>S y∨y=W.heap.size) t J (jl (yG (⟨kb,kc,u.kids, -1⟩::x::r))) rv7 w7:=⟨_,_,hwf,hj2,rfl⟩
      refine⟨hH ⟨_,hinv⟩,?_⟩
      have q1:=(HMS.out _ _ ⟨_,hinv⟩).2 _ hinv
      have q2:=YC (⟨kb,kc,u.kids, -1⟩::x::r) (fun y hy=>(HPRE.out.1.p y hy).1)
      have q3:=zah (a:=kb) (c:=kc) (r:=r) (HF.out.1.ok x sp1) HF.out.2.1
      have q4:=HG.out
      omega
    · have HE:=hH (zdA.mkx (J:=J) (v:= .tuple #[]) hJ4)
      clear hkT hkS hJ4 HF HC
      gi_wp2
      go_end0
      exact HE.out
end Go.Proofs.YtgkmmnihaiopaaaGreat
namespace Go.Proofs.YtgkmmnihaiopaaaGreat
open Go.RowKit Go.Shelf
def zgm (B:Nat) (T S:Nat→Prop) (I:(Nat→Prop)→List Fr→World→Prop) (Ix:Code→(Nat→Prop)→World→Prop) (x:Fr) (r:List Fr) (u:Tr) (W:World) (e:Exit) (_:Act) (V:World):Prop:=
 KeepsFrom B W V∧Kept T W V∧(∀y,S y→V.heap[y]? =W.heap[y]?)∧((e= .normal∧∀a c,I T (yG (⟨a,c,u.kids, -1⟩::x::r)) V)∨(e= .ret∧Ix .ret T V)∨∃id,e= .exit id∧Ix (.exit id) T V)
theorem zea {n:Nat} {g:Operand} {ps:Array Tmp} {assign body:Code} {Q:Exit→Act→World→Prop} {a:Act} {w:World} (h1:1≤n) {NB:Nat} (hg:a.eval g= .func (.func 126) #[] #[.pointer (some ⟨NB,0,none⟩)])
 (t:Tr) (ka:Option Addr) (cap:Nat) (S:Nat→Prop) (hS:∀y,S y→y<w.heap.size) (hk:zu w S t.kids ka) (hc:foLen t.kids≤cap) (hsz:zg t.kids≤400000) (hNB:w.heap[NB]? =some (.cells #[.int .i64 t.id,.int .i64 t.kind,.string t.text,.slice ka (foLen t.kids) cap] 27 (0,0))) (hps:ps.size=1)
 (I:(Nat→Prop)→List Fr→World→Prop) (Ix:Code→(Nat→Prop)→World→Prop)
 (hI:∀{T T' :Nat→Prop} {L:List Fr} {V V' :World},I T L V→zk V V' (fun x=>T x∨(w.heap.size≤x∧z8 V x))→jd T T' V V'→I T' L V')
 (hIx:∀{c:Code} {T:Nat→Prop} {V:World} (o o' :Loop),Ix c T V→(∀x,T x→w.heap.size+2≤x)→V.heap[w.heap.size+1]? =some (.loop o)→Ix c T (V.putObj (w.heap.size+1) (.loop o')))
 (h0:I (fun _=>False) (yG [⟨some ⟨w.heap.size+2,0,none⟩,1,zl t, -1⟩]) w)
 (hround:∀(l:Nat),l=w.heap.size+1→∀(T:Nat→Prop) (rv:Value) (x:Fr) (r:List Fr) (u:Tr) (V:World),(∀y,T y→w.heap.size+2≤y)→w.heap.size+2≤V.heap.size→vo V (fun y=>S y∨y=w.heap.size+2) t T rv (x::r)→zB x.f x.p.toNat=some u→I T (x::r) V→
   ∀ (K:Act→World→Prop),(∀a₁,(∀V',(∃o',V'=V.putObj l o'∧∃o,V.heap[l]? =some o∧o.isCells=false)→body.wpIn (Fence.wide.inRound l) (n - 1 - 1) Tryz.prog (zgm w.heap.size T (fun y=>S y∨y=w.heap.size+2) I Ix x r u V') a₁ V')→K a₁ V)→
    assign.wpIn (Fence.wide.inRound l) (n - 1 - 1) Tryz.prog (Exit.then K (fun _ _ _=>False)) { tmps:=(ps.zip #[rv]).foldl (fun t (p,v)=>t.setIfInBounds p v) a.tmps,defers:=[] } V)
 (hdone:∀(D:Nat) (T:Nat→Prop) (V:World),w.heap.size≤D→I T [] V→V.heap[D]? =some (.deferred (some []))→Q .normal { a with defers:={ target:= .collected D,args:= #[] }::a.defers } V)
 (hstop:∀(D:Nat) (c:Code) (T:Nat→Prop) (V:World),D=w.heap.size→(∀x,T x→w.heap.size+2≤x)→Ix c T V→V.heap[D]? =some (.deferred (some []))→c.wpIn Fence.wide n Tryz.prog Q { a with defers:={ target:= .collected D,args:= #[] }::a.defers } V):
 (Code.rangeFunc g ps assign body).wpIn Fence.wide n Tryz.prog Q a w:=by
 obtain⟨B,hB⟩:∃B,w.heap.size=B:=⟨_,rfl⟩
 simp only[hB] at hI hIx hround hdone hstop h0
 refine wpIn_rangeFunc fun fn hfn=>?_
 obtain⟨rec,hrec⟩:∃rec:LoopState→Option Code→Loop,rec=fun st pe=>{ state:=st,pending:=pe,fn,tmps:=a.tmps,params:=ps,assign,body,defers:=B }:=⟨_,rfl⟩
 obtain⟨W1,hW1⟩:∃W1,W1=(w.alloc (.deferred (some []))).alloc (.loop (rec .ready none)):=⟨_,rfl⟩
 have hsz1:W1.heap.size=B+2:=by rw[hW1];simp[hB]
 have hblk:∀x,x<B→W1.heap[x]? =w.heap[x]?:=fun x hx=>by rw[hW1,BhaQ _ _ _ (by simp;omega),BhaQ _ _ _ om]
 have hbk:Book B (rec .ready none) W1:=by
  exact sc1
 have hb1:zk w W1 (fun _=>False):=by rw[hW1];exact ((zk.refl w _).alloc _).alloc _
 have hI1:I (fun _=>False) (yG [⟨some ⟨B+2,0,none⟩,1,zl t, -1⟩]) W1:=hI h0 (hb1.mono (fun _ h=>h.elim)) (fun x hx=>Or.inl hx)
 have hNBl:=lohQ hNB
 have hNB1:=(hblk NB om).trans hNB
 refine⟨B+1,[{ target:= .collected B,args:= #[] }],W1,{ target:= .fn (.func 126) #[.pointer (some ⟨NB,0,none⟩)],args:= #[.func (.yield (B+1)) #[] #[]] },W1,126, #[.func (.yield (B+1)) #[] #[]]++ #[.pointer (some ⟨NB,0,none⟩)],W1,?_,?_,?_,?_,fun _=>h1,?_⟩
 · rw[hW1,hrec,←hB];exact run_enterLoop_outer _ _ _ _ _
 · simp only[resolve,hg]
   simp[go_sem]
 · intro f' hf';simp[Target.leads] at hf';subst hf';exact trivial
 · simp[invoke,go_sem]
 · obtain ⟨J,hJ⟩:∃J:(Nat→Prop)→List Fr→World→Prop,J=fun T L V=>I T L V∧Book B (rec .ready none) V∧∀x,T x→B+2≤x:=⟨_,rfl⟩
   obtain⟨Jx,hJx⟩:∃Jx:(Nat→Prop)→World→Prop,Jx=fun T V=>∃c,Ix c T V∧Book B (rec .done (some c)) V∧∀x,T x→B+2≤x:=⟨_,rfl⟩
   have hS1:∀y,S y→y<W1.heap.size:=fun y hy=>by have:=hS y hy;omega
   have hbody:zga Tryz.prog (n - 1 - 1) (B+1) t (fun y=>S y∨y=W1.heap.size) J Jx:=by
    rw[hsz1]
    subst hJ hJx
    refine⟨?_,?_⟩
    · rintro T T' L V V' ⟨j1,j2,j3⟩ ht hw
      exact sh2
    · rintro T rv x r u V hf hu ⟨j1,j2,j3⟩
      have hr:=hround (B+1) rfl T rv x r u V j3 (by have:=lohQ j2.1;omega) hf hu j1
      have hTl:¬T (B+1):=fun h=>by have:=j3 _ h;omega
      have hSl:¬(S (B+1)∨B+1=B+2):=fun h=>by
       rcases h with h | h
       · have:=hS _ h;omega
       · omega
      have hy:=run_yield (P:=Tryz.prog) (args:= #[rv]) j2.1 (by rw[hrec];exact hps.symm)
      rw[hrec] at hy
      refine⟨fn,_,assign,body,hy,roundIn_of_wpIn hfn (hr _ fun a₁ hb=>?_)⟩
      refine⟨_,run_beginRound j2.1 (by rw[hrec]),?_⟩
      have hb2:Book B { rec .ready none with state:= .busy } (V.putObj (B+1) (.loop { rec .ready none with state:= .busy })):=j2.put
      refine wpIn_mono (hb _ ⟨_,rfl,_,j2.1,rfl⟩) ?_
      rintro e3 a3 U ⟨hkU,hkT,hkS,hp⟩
      have hb3:=hb2.kept hkU
      have fin:=fun jump=>run_endRound (P:=Tryz.prog) jump hb3.1
      rw[hrec] at fin hb3
      have hall:∀o',Kept T V (U.putObj (B+1) o'):=fun o'=>((Y0 _ hTl).trans hkT).trans (Y0 _ hTl)
      have hallS:∀o' y,(S y∨y=B+2)→(U.putObj (B+1) o').heap[y]? =V.heap[y]?:=fun o' y hy=>by
       have hne:y≠B+1:=fun e=>hSl (e▸hy)
       rw[WphQ hne,hkS y hy,WphQ hne]
      have htp:∀o',zk U (U.putObj (B+1) o') (fun x=>T x∨(B≤x∧z8 U x)):=fun o'=>(yA o' hb3.1).mono (fun x hx=>Or.inr ⟨by omega,by rw[hx];exact⟨_,hb3.1,rfl⟩⟩)
      rcases hp with ⟨rfl,hi3⟩ | ⟨rfl,hi3⟩ | ⟨id,rfl,hi3⟩
      · refine⟨_,_,fin none,hall _,hallS _,.inl ⟨rfl,fun a c=>⟨hI (hi3 a c) (htp _) (fun x hx=>Or.inl hx),?_,j3⟩⟩⟩
        rw[hrec];exact hb3.put
      · refine⟨_,_,fin (some .ret),hall _,hallS _,.inr ⟨rfl,.ret,hIx _ _ hi3 j3 hb3.1,?_,j3⟩⟩
        rw[hrec];exact hb3.put
      · refine⟨_,_,fin (some (.exit id)),hall _,hallS _,.inr ⟨rfl,.exit id,hIx _ _ hi3 j3 hb3.1,?_,j3⟩⟩
        rw[hrec];exact hb3.put
   have hstart:J (fun _=>False) (yG [⟨some ⟨W1.heap.size,0,none⟩,1,zl t, -1⟩]) W1:=by rw[hJ,hsz1];exact⟨hI1,hbk,fun _ h=>h.elim⟩
   refine (callsIn_wide.2 (zf3 W1 hbody NB ka cap hS1 (hk.kept fun y hy=>⟨hy,hblk y (by have:=hS y hy;omega)⟩) hc hsz hNB1 hstart)).mono ?_
   rintro e W2 ⟨⟨v,rfl⟩,(⟨T,hj⟩ | ⟨T,hj⟩)⟩
   · rw[hJ] at hj
     exact se0
   · rw[hJx] at hj
     obtain⟨c,hi,hb,hT⟩:=hj
     have:=run_endLoop (P:=Tryz.prog) hb.1 (by rw[hrec];simp)
     rw[hrec] at this
     exact⟨some c,_,this,hstop B c T _ rfl hT (hIx _ _ hi hT hb.1) ((WphQ om).trans hb.2)⟩
theorem ziz (w:World) (id kd:Int) (tx:ByteArray) (ka:Option Addr) (n c:Nat):Calls Tryz.prog 120 #[.agg #[.int .i64 id,.int .i64 kd,.string tx,.slice ka n c]] w fun e w'=>e= .returned (.func (.func 126) #[] #[.pointer (some ⟨w.heap.size,0,none⟩)])∧w'=w.alloc (.cells #[.int .i64 id,.int .i64 kd,.string tx,.slice ka n c] 27):=by
 have hmf:∀(fn:Fn) (first cap:Array Value) (w:World),(Instr.makeFunc fn first cap).run Tryz.prog w= .ok (.func fn first cap) w:=fun _ _ _ _=>rfl
 go_enter Tryz.func120,Tryz.ntmps120
 go_wp2_with fail
 go_ret
 exact⟨rfl,rfl⟩
end Go.Proofs.YtgkmmnihaiopaaaGreat
