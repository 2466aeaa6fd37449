/-
  .
-/
import Derived.Test.YtoidedomenkbpaaGreatEEachQr
set_option maxRecDepth 100000
set_option maxHeartbeats 40000000
set_option linter.unusedVariables false
namespace Go.Proofs.YtoidedomenkbpaaGreat
open Go.RowKit
def Book (B:Nat)(r:Loop)(W:World):Prop:=W.heap[B+1]? =some (.loop r)∧W.heap[B]? =some (.deferred (some []))
theorem Book.put {B:Nat}{r r' :Loop}{W:World}(h:Book B r W):Book B r' (W.putObj (B+1) (.loop r')):=
 ⟨World.putObj_heap_same (Array.getElem?_eq_some_iff.1 h.1).1,(WphQ om).trans h.2⟩
theorem Book.kept {B:Nat}{r:Loop}{W V:World}(h:Book B r W)(hk:KeepsFrom B W V):Book B r V:=⟨hk.same _ _ om h.1 rfl,hk.same _ _ (NlrQ _) h.2 rfl⟩
theorem Book.touched {B:Nat}{r:Loop}{W V:World}{T:Nat→Prop}(h:Book B r W)(ht:zb W V T)(hT:∀x,T x→B+2≤x):Book B r V:=
 ⟨(ht.block _ (lohQ h.1) (fun e=>by have:=hT _ e;omega)).trans h.1,(ht.block _ (lohQ h.2) (fun e=>by have:=hT _ e;omega)).trans h.2⟩
def jq (V:World)(x:Nat):Prop:=∃o,V.heap[x]? =some o∧o.isCells=false
def zhD (B:Nat)(T:Nat→Prop)(I:(Nat→Prop)→List Seg→World→Prop)(Ix:Code→(Nat→Prop)→World→Prop)(d c b off:Nat)(k r:Fo)(A:List Seg)(W:World)(e:Exit)(_:Act)(V:World):Prop:=
 KeepsFrom B W V∧Kept T W V∧((e= .normal∧∃ka kc,V.cell? ⟨b,off+3,none⟩=some (.slice ka (foLen k) kc)∧foLen k≤kc∧I T (⟨d+1,ka,kc,k⟩::⟨d,some ⟨b,off+4,none⟩,c - 1,r⟩::A) V)∨(e= .ret∧Ix .ret T V)∨∃id,e= .exit id∧Ix (.exit id) T V)
theorem vG {V:World}{l:Nat}{o:Obj}(o' :Obj)(hl:V.heap[l]? =some o):zb V (V.putObj l o') (fun x=>x=l):=
 ⟨rfl,rfl,rfl,by simp[World.putObj],fun x _ hn=>WphQ hn⟩
theorem zb.mono {w w' :World}{S S' :Nat→Prop}(h:zb w w' S)(hS:∀x,S x→S' x):zb w w' S':=⟨h.os,h.tape,h.output,h.size,fun x hx hn=>h.block x hx (fun hs=>hn (hS x hs))⟩
theorem zbg {T:Nat→Prop}{V:World}{l:Nat}(o' :Obj)(hT:¬T l):Kept T V (V.putObj l o'):=⟨by simp[World.putObj],fun x hx=>WphQ (fun e=>hT (e▸hx))⟩
theorem zcB {n:Nat}{g:Operand}{ps:Array Tmp}{assign body:Code}{Q:Exit→Act→World→Prop}{a:Act}{w:World}(h1:1≤n){NB:Nat}(hg:a.eval g= .func (.func 131) #[] #[.pointer (some ⟨NB,0,none⟩)])
 (s:Seg) (hd:s.d=1) (hne:s.f≠ .nil) (hcap:foLen s.f≤s.cap) (hsz:zh s.f≤500000) (hNB:w.cell? ⟨NB,0,none⟩=some s.v) (hps:ps.size=2)
 (I:(Nat→Prop)→List Seg→World→Prop) (Ix:Code→(Nat→Prop)→World→Prop)
 (hI:∀{T T' :Nat→Prop} {A:List Seg} {V V' :World},I T A V→zb V V' (fun x=>T x∨(w.heap.size≤x∧jq V x))→Yc T T' V V'→I T' A V')
 (hIx:∀{c:Code} {T T' :Nat→Prop} {V V' :World},Ix c T V→zb V V' (fun x=>T x∨(w.heap.size≤x∧jq V x))→Yc T T' V V'→Ix c T' V')
 (hIe:∀{T:Nat→Prop} {A B:List Seg} {d c:Nat} {a:Option Addr} {V:World},I T (A++⟨d,a,c,.nil⟩::B) V→I T (A++B) V)
 (h0:I (fun _=>False) [s] w)
 (hround:∀(l:Nat),l=w.heap.size+1→∀(T:Nat→Prop) (d c bo oo:Nat) (ad:Option Addr) (key:Int×Int×ByteArray) (k r:Fo) (A:List Seg) (V:World),(∀x,T x→x<V.heap.size∧w.heap.size+2≤x)→w.heap.size+2≤V.heap.size→I T (⟨d,ad,c,.node bo oo key k r⟩::A) V→
   ∃ b off,ad=some ⟨b,off,none⟩∧∀(K:Act→World→Prop),(∀a₁,(∀V',(∃o',V'=V.putObj l o'∧∃o,V.heap[l]? =some o∧o.isCells=false)→body.wpIn (Fence.wide.inRound l) (n - 1 - 1) Tryz.prog (zhD w.heap.size T I Ix d c b off k r A V') a₁ V')→K a₁ V)→
    assign.wpIn (Fence.wide.inRound l) (n - 1 - 1) Tryz.prog (Exit.then K (fun _ _ _=>False)) { tmps:=(ps.zip #[.int .i64 (d:Int),.pointer (some ⟨b,off,none⟩)]).foldl (fun t (p,v)=>t.setIfInBounds p v) a.tmps,defers:=[] } V)
 (hdone:∀(D:Nat) (T:Nat→Prop) (V:World),w.heap.size≤D→I T [] V→V.heap[D]? =some (.deferred (some []))→Q .normal { a with defers:={ target:= .collected D,args:= #[] }::a.defers } V)
 (hstop:∀(D:Nat) (c:Code) (T:Nat→Prop) (V:World),w.heap.size≤D→Ix c T V→V.heap[D]? =some (.deferred (some []))→c.wpIn Fence.wide n Tryz.prog Q { a with defers:={ target:= .collected D,args:= #[] }::a.defers } V):
 (Code.rangeFunc g ps assign body).wpIn Fence.wide n Tryz.prog Q a w:=by
 obtain⟨B,hB⟩:∃B,w.heap.size=B:=⟨_,rfl⟩
 simp only[hB] at hI hIx hround hdone hstop
 refine wpIn_rangeFunc fun fn hfn=>?_
 obtain⟨rec,hrec⟩:∃rec:LoopState→Option Code→Loop,rec=fun st pe=>{ state:=st,pending:=pe,fn,tmps:=a.tmps,params:=ps,assign,body,defers:=B }:=⟨_,rfl⟩
 obtain⟨W1,hW1⟩:∃W1,W1=(w.alloc (.deferred (some []))).alloc (.loop (rec .ready none)):=⟨_,rfl⟩
 have hsz1:W1.heap.size=B+2:=by rw[hW1];simp[hB]
 have hblk:∀x,x<B→W1.heap[x]? =w.heap[x]?:=fun x hx=>by rw[hW1,BhaQ _ _ _ ue1,BhaQ _ _ _ om]
 have hbk:Book B (rec .ready none) W1:=by
  exact sg0
 have hb1:zb w W1 (fun _=>False):=by rw[hW1];exact ((zb.refl w _).alloc _).alloc _
 have hI1:I (fun _=>False) [s] W1:=hI h0 (hb1.mono (fun _ h=>h.elim)) (fun x hx=>Or.inl hx)
 have hNBl:=World.block_lt_of_cell? _ _ hNB
 have hNB1:W1.cell? ⟨NB,0,none⟩=some s.v:=(World.cell?_of_block (hblk NB (by simp only at hNBl;omega))).trans hNB
 refine⟨B+1,[{ target:= .collected B,args:= #[] }],W1,{ target:= .fn (.func 131) #[.pointer (some ⟨NB,0,none⟩)],args:= #[.func (.yield (B+1)) #[] #[]] },W1,131, #[.func (.yield (B+1)) #[] #[]]++ #[.pointer (some ⟨NB,0,none⟩)],W1,?_,?_,?_,?_,fun _=>h1,?_⟩
 · rw[hW1,hrec,←hB];exact run_enterLoop_outer _ _ _ _ _
 · simp only[resolve,hg]
   simp[go_sem]
 · intro f' hf';simp[Target.leads] at hf';subst hf';exact trivial
 · simp[invoke,go_sem]
 · obtain ⟨J,hJ⟩:∃J:(Nat→Prop)→List Seg→World→Prop,J=fun T A V=>I T A V∧Book B (rec .ready none) V∧∀x,T x→B+2≤x:=⟨_,rfl⟩
   obtain⟨Jx,hJx⟩:∃Jx:(Nat→Prop)→World→Prop,Jx=fun T V=>∃c,Ix c T V∧Book B (rec .done (some c)) V∧∀x,T x→B+2≤x:=⟨_,rfl⟩
   have hbody:Body Tryz.prog (n - 1 - 1) (B+1) J Jx:=by
    subst hJ hJx
    refine⟨?_,?_,?_,?_⟩
    · rintro T T' A V V' ⟨j1,j2,j3⟩ ht hw
      have hs:=lohQ j2.1
      exact⟨hI j1 (ht.mono (fun x hx=>Or.inl hx)) hw,j2.touched ht j3,fun x hx=>(hw x hx).elim (j3 x) (fun h=>by omega)⟩
    · rintro T T' V V' ⟨c,j1,j2,j3⟩ ht hw
      have hs:=lohQ j2.1
      exact⟨c,hIx j1 (ht.mono (fun x hx=>Or.inl hx)) hw,j2.touched ht j3,fun x hx=>(hw x hx).elim (j3 x) (fun h=>by omega)⟩
    · rintro T A A' d c ad V ⟨j1,j2⟩
      exact⟨hIe j1,j2⟩
    · rintro T d c bo oo ad key k r A V hT ⟨j1,j2,j3⟩
      obtain⟨b,off,e,hr⟩:=hround (B+1) rfl T d c bo oo ad key k r A V (fun x hx=>⟨hT x hx,j3 x hx⟩) (by have:=lohQ j2.1;omega) j1
      refine⟨b,off,e,?_⟩
      have hTl:¬T (B+1):=fun h=>by have:=j3 _ h;omega
      have hy:=run_yield (P:=Tryz.prog) (args:= #[.int .i64 (d:Int),.pointer (some ⟨b,off,none⟩)]) j2.1 (by rw[hrec];exact hps.symm)
      rw[hrec] at hy
      refine⟨fn,_,assign,body,hy,roundIn_of_wpIn hfn (hr _ fun a₁ hb=>?_)⟩
      refine⟨_,run_beginRound j2.1 (by rw[hrec]),?_⟩
      have hb2:Book B { rec .ready none with state:= .busy } (V.putObj (B+1) (.loop { rec .ready none with state:= .busy })):=j2.put
      refine wpIn_mono (hb _ ⟨_,rfl,_,j2.1,rfl⟩) ?_
      rintro e3 a3 U ⟨hkU,hkT,hp⟩
      have hb3:=hb2.kept hkU
      have fin:=fun jump=>run_endRound (P:=Tryz.prog) jump hb3.1
      rw[hrec] at fin hb3
      have hall:∀o',Kept T V (U.putObj (B+1) o'):=fun o'=>((zbg _ hTl).trans hkT).trans (zbg _ hTl)
      have htp:∀o',zb U (U.putObj (B+1) o') (fun x=>T x∨(B≤x∧jq U x)):=fun o'=>(vG o' hb3.1).mono (fun x hx=>Or.inr ⟨by omega,by rw[hx];exact⟨_,hb3.1,rfl⟩⟩)
      rcases hp with ⟨rfl,ka,kc,c1,c2,hi3⟩ | ⟨rfl,hi3⟩ | ⟨id,rfl,hi3⟩
      · refine⟨_,_,fin none,hall _,.inl ⟨rfl,ka,kc,?_,c2,hI hi3 (htp _) (fun x hx=>Or.inl hx),?_,j3⟩⟩
        · refine (World.cell?_of_block (WphQ fun e4=>?_)).trans c1
          have h5:U.cell? ⟨B+1,off+3,none⟩=none:=by simp[World.cell?,hb3.1]
          simp only at e4
          rw[e4,h5] at c1;cases c1
        · rw[hrec];exact hb3.put
      · refine⟨_,_,fin (some .ret),hall _,.inr ⟨rfl,.ret,hIx hi3 (htp _) (fun x hx=>Or.inl hx),?_,j3⟩⟩
        rw[hrec];exact hb3.put
      · refine⟨_,_,fin (some (.exit id)),hall _,.inr ⟨rfl,.exit id,hIx hi3 (htp _) (fun x hx=>Or.inl hx),?_,j3⟩⟩
        rw[hrec];exact hb3.put
   have hstart:J (fun _=>False) [s] W1:=by rw[hJ];exact⟨hI1,hbk,fun _ h=>h.elim⟩
   refine (callsIn_wide.2 (ze0 hbody W1 NB s hd hne hcap hsz hNB1 hstart)).mono ?_
   rintro e W2 ⟨⟨v,rfl⟩,(⟨T,hj⟩ | ⟨T,hj⟩)⟩
   · rw[hJ] at hj
     obtain⟨hi,hb,hT⟩:=hj
     have:=run_endLoop (P:=Tryz.prog) hb.1 (by rw[hrec];simp)
     rw[hrec] at this
     refine⟨none,_,this,hdone B T _ (NlrQ _) (hI hi ((vG _ hb.1).mono (fun x hx=>Or.inr ⟨by omega,by rw[hx];exact⟨_,hb.1,rfl⟩⟩)) (fun x hx=>Or.inl hx)) ((WphQ om).trans hb.2)⟩
   · rw[hJx] at hj
     obtain⟨c,hi,hb,hT⟩:=hj
     have:=run_endLoop (P:=Tryz.prog) hb.1 (by rw[hrec];simp)
     rw[hrec] at this
     exact⟨some c,_,this,hstop B c T _ (NlrQ _) (hIx hi ((vG _ hb.1).mono (fun x hx=>Or.inr ⟨by omega,by rw[hx];exact⟨_,hb.1,rfl⟩⟩)) (fun x hx=>Or.inl hx)) ((WphQ om).trans hb.2)⟩
theorem zc1 (w:World)(a:Option Addr)(n c:Nat):Calls Tryz.prog 97 #[.slice a n c] w fun e w'=>e= .returned (.func (.func 131) #[] #[.pointer (some ⟨w.heap.size,0,none⟩)])∧w'=w.alloc (.cells #[.slice a n c] 33):=by
 have hmf:∀(fn:Fn) (first cap:Array Value) (w:World),(Instr.makeFunc fn first cap).run Tryz.prog w= .ok (.func fn first cap) w:=fun _ _ _ _=>rfl
 go_enter Tryz.func97,Tryz.ntmps97
 go_wp2_with fail
 go_ret
 exact⟨rfl,rfl⟩
theorem Tryz.zg0:(Tryz.prog.info? 35).map (fun i=>(i.size,i.bytes,i.zero.map (fun z=>z.cells.size)))=some (4,56,some 4):=by kernel_rfl
def zg4 (w:World)(t:TypeId)(size n:Nat)(xs:List Value)(e:Ending)(w' :World):Prop:=∃v',e= .returned v'∧Below w.heap.size w w'∧w'.ownsRow w.heap.size t size v' n xs
theorem Tryz.zdX (w:World)(a:Option Addr)(n c:Nat):(binOp .eql 33 (.slice a n c) (.slice none 0 0)).run Tryz.prog w= .ok (.bool a.isNone) w:=Lib.run_eql_slice_nil w _ _ a n c 0 0 Tryz.underlying33
theorem zaR (w:World)(a:Option Addr)(n cap:Nat)(xs:List Value)(hl:xs.length=n*4)(h1:∀u∈xs,u.oneCell'=true)(hn:n≤1000000)(hc:∀ad,a=some ad→∀j u,xs[j]? =some u→w.cell? (ad.add j)=some u)(h0:a=none→n=0):
 Calls Tryz.prog 98 #[.slice a n cap] w (zg4 w 35 4 n xs):=by
 have hq:=Tryz.zdX
 cases a with
 | none=>
   have hn0:=h0 rfl
   subst hn0
   have hx:xs= []:=List.eq_nil_of_length_eq_zero (by simpa using hl)
   subst hx
   clear hl h1 hn hc h0
   go_enter Tryz.func98,Tryz.ntmps98
   go_wp2_with fail
   go_ret
   exact⟨_,rfl,BrQ _ _,World.ownsRow_nil _ _ _ _⟩
 | some ad=>
   have HC:=hH (aN hl (aN h1 (hc ad rfl)))
   obtain⟨i0,z0,hi0,hz0,hz1,hz2,hz3⟩:=vT Tryz.zg0
   have HI:=hH (aN hi0 (aN hz0 (aN hz1 (aN hz2 hz3))))
   clear hl h1 hc h0 hi0 hz0 hz1 hz2 hz3
   go_enter Tryz.func98,Tryz.ntmps98
   go_wp2_with (at_builtin;refine wpList_append_own_at _ rfl (.tmp 5) (.tmp 6) _ rfl w.heap.size 35 i0 z0 4 56 Tryz.underlying33 HI.out.1 HI.out.2.1 HI.out.2.2.1 HI.out.2.2.2.1 HI.out.2.2.2.2 om (.slice (some ⟨w.heap.size,0,none⟩) 0 0) 0 [] rfl (World.ownsRow_made w #[] 0 (NlrQ _) ud2 rfl) ad n cap xs rfl HC.out.1 (fun j u hj=>Lib.cell?_alloc_some _ (HC.out.2.2 j u hj)) HC.out.2.1 ud2 om sp1 ?_;intro v' w1 hown hgrow _ hat)
   go_ret
   have hs:=hgrow.size
   rw[WsaQ] at hs
   exact⟨_,rfl,⟨hgrow.os,hgrow.tape,hgrow.output,by omega,fun x hx=>by
    rw[hgrow.block x ud7 (by simp[Value.ownBlock];omega),BhaQ _ _ _ hx]⟩,by rw[Nat.zero_add,List.nil_append] at hown;exact hown⟩
abbrev Sp:=Nat×(Int×Int×ByteArray)×Fo
def spF:Nat→Fo→List Sp
 | _,.nil=>[]
 | d,.node _ _ k l r=>(d,k,l)::(spF (d+1) l++spF d r)
def spA (A:List Seg):List Sp:=A.flatMap fun s=>spF s.d s.f
theorem qU:∀(d:Nat) (f:Fo),(spF d f).length=zh f
 | _,.nil=>rfl
 | d,.node _ _ k l r=>by simp[spF,zh,qU (d+1) l,qU d r]
theorem zbL (A B:List Seg)(d c:Nat)(a:Option Addr):spA (A++⟨d,a,c,.nil⟩::B)=spA (A++B):=by simp[spA,spF]
def zhI (B:Nat)(S:Nat→Prop)(tot:List Sp)(R:List Sp→(Nat→Prop)→World→Prop)(T:Nat→Prop)(A:List Seg)(V:World):Prop:=
 ∃pre,tot=pre++spA A∧(∀s∈A,zK V S s.f s.a)∧(∀x,T x→B≤x)∧B≤V.heap.size∧R pre T V
def zax (B:Nat)(T S:Nat→Prop)(R:List Sp→(Nat→Prop)→World→Prop)(Rx:Code→(Nat→Prop)→World→Prop)(pre:List Sp)(W:World)(e:Exit)(_:Act)(V:World):Prop:=
 KeepsFrom B W V∧Kept T W V∧(∀x,S x→V.heap[x]? =W.heap[x]?)∧((e= .normal∧R pre T V)∨(e= .ret∧Rx .ret T V)∨∃id,e= .exit id∧Rx (.exit id) T V)
theorem QT {n:Nat}{g:Operand}{ps:Array Tmp}{assign body:Code}{Q:Exit→Act→World→Prop}{a:Act}{w:World}(h1:1≤n){NB:Nat}(hg:a.eval g= .func (.func 131) #[] #[.pointer (some ⟨NB,0,none⟩)])
 (s:Seg) (hd:s.d=1) (hne:s.f≠ .nil) (hcap:foLen s.f≤s.cap) (hsz:zh s.f≤500000) (hNB:w.cell? ⟨NB,0,none⟩=some s.v) (hps:ps.size=2) (S:Nat→Prop) (hS:∀x,S x→x<w.heap.size) (hf:zK w S s.f s.a)
 (R:List Sp→(Nat→Prop)→World→Prop) (Rx:Code→(Nat→Prop)→World→Prop)
 (hR:∀{pre:List Sp} {T T' :Nat→Prop} {V V' :World},R pre T V→(∀x,T x→w.heap.size≤x)→zb V V' (fun x=>T x∨(w.heap.size≤x∧jq V x))→Yc T T' V V'→R pre T' V')
 (hRx:∀{c:Code} {T T' :Nat→Prop} {V V' :World},Rx c T V→(∀x,T x→w.heap.size≤x)→zb V V' (fun x=>T x∨(w.heap.size≤x∧jq V x))→Yc T T' V V'→Rx c T' V')
 (h0:R [] (fun _=>False) w)
 (hround:∀(l:Nat),l=w.heap.size+1→∀(T:Nat→Prop) (pre rest:List Sp) (d:Nat) (key:Int×Int×ByteArray) (k:Fo) (V:World) (b off kc:Nat) (ka:Option Addr),(∀x,T x→x<V.heap.size∧w.heap.size+2≤x)→w.heap.size+2≤V.heap.size→spF 1 s.f=pre++(d,key,k)::rest→S b→
   V.cell? ⟨b,off,none⟩=some (.int .i64 key.1)→V.cell? ⟨b,off+1,none⟩=some (.int .i64 key.2.1)→V.cell? ⟨b,off+2,none⟩=some (.string key.2.2)→V.cell? ⟨b,off+3,none⟩=some (.slice ka (foLen k) kc)→foLen k≤kc→zK V S k ka→R pre T V→
   ∀ (K:Act→World→Prop),(∀a₁,(∀V',(∃o',V'=V.putObj l o'∧∃o,V.heap[l]? =some o∧o.isCells=false)→body.wpIn (Fence.wide.inRound l) (n - 1 - 1) Tryz.prog (zax w.heap.size T S R Rx (pre++[(d,key,k)]) V') a₁ V')→K a₁ V)→
    assign.wpIn (Fence.wide.inRound l) (n - 1 - 1) Tryz.prog (Exit.then K (fun _ _ _=>False)) { tmps:=(ps.zip #[.int .i64 (d:Int),.pointer (some ⟨b,off,none⟩)]).foldl (fun t (p,v)=>t.setIfInBounds p v) a.tmps,defers:=[] } V)
 (hdone:∀(D:Nat) (T:Nat→Prop) (V:World),w.heap.size≤D→R (spF 1 s.f) T V→V.heap[D]? =some (.deferred (some []))→Q .normal { a with defers:={ target:= .collected D,args:= #[] }::a.defers } V)
 (hstop:∀(D:Nat) (c:Code) (T:Nat→Prop) (V:World),w.heap.size≤D→Rx c T V→V.heap[D]? =some (.deferred (some []))→c.wpIn Fence.wide n Tryz.prog Q { a with defers:={ target:= .collected D,args:= #[] }::a.defers } V):
 (Code.rangeFunc g ps assign body).wpIn Fence.wide n Tryz.prog Q a w:=by
 have keepS:∀{T:Nat→Prop} {V V' :World},(∀x,T x→w.heap.size≤x)→w.heap.size≤V.heap.size→zb V V' (fun x=>T x∨(w.heap.size≤x∧jq V x))→∀x,S x→V'.heap[x]? =V.heap[x]?:=fun hT hV ht x hx=>by
  have hxl:=hS x hx
  exact ht.block x om (fun h=>by
   rcases h with h | h
   · have:=hT x h;omega
   · omega)
 refine zcB h1 hg s hd hne hcap hsz hNB hps (zhI w.heap.size S (spF 1 s.f) R) (fun c T V=>Rx c T V∧(∀x,T x→w.heap.size≤x)∧w.heap.size≤V.heap.size) ?_ ?_ ?_ ?_ ?_ ?_ ?_
 · rintro T T' A V V' ⟨pre,e,h2,h3,h4,h5⟩ ht hw
   refine⟨pre,e,fun x hx=>(h2 x hx).kept fun y hy=>⟨hy,keepS h3 h4 ht y hy⟩,fun x hx=>(hw x hx).elim (h3 x) (fun h=>by omega),NltQ h4 ht.size,hR h5 h3 ht hw⟩
 · rintro c T T' V V' ⟨h5,h3,h4⟩ ht hw
   exact⟨hRx h5 h3 ht hw,fun x hx=>(hw x hx).elim (h3 x) (fun h=>by omega),NltQ h4 ht.size⟩
 · rintro T A B d c ad V ⟨pre,e,h2,h3⟩
   rw[zbL] at e
   exact⟨pre,e,fun x hx=>h2 x (by rcases List.mem_append.1 hx with hx | hx;exact List.mem_append_left _ hx;exact List.mem_append_right _ (List.mem_cons_of_mem _ hx)),h3⟩
 · exact⟨[],by simp[spA,hd],fun x hx=>by rw[List.mem_singleton] at hx;subst hx;exact hf,fun _ h=>h.elim,NlrQ _,h0⟩
 · rintro l hl T d c bo oo ad key k r A V hT hV ⟨pre,e,h2,h3,h4,h5⟩
   obtain⟨b,off,ka,kc,e1,hb,c0,c1,c2,c3,c4,hk,hr⟩:=h2 _ (List.mem_cons_self ..)
   simp only at e1 c3 c4 hk hr
   have e2:spF 1 s.f=pre++(d,key,k)::(spF (d+1) k++(spF d r++spA A)):=by rw[e];simp[spA,spF]
   refine⟨b,off,e1,fun K hK=>hround l hl T pre _ d key k V b off kc ka hT hV e2 hb c0 c1 c2 c3 c4 hk h5 K fun a₁ hbody=>hK a₁ fun V' hV'=>wpIn_mono (hbody V' hV') ?_⟩
   rintro e5 a5 V2 ⟨k1,k2,k3,hx⟩
   obtain⟨o',ev,o,ho,hoc⟩:=hV'
   have hs2:=k1.size
   have hsv:V'.heap.size=V.heap.size:=by rw[ev];simp[World.putObj]
   have hSk:∀x,S x→V2.heap[x]? =V.heap[x]?:=fun x hx=>by
    have:=hS x hx
    rw[k3 x hx,ev,WphQ om]
   refine⟨k1,k2,?_⟩
   rcases hx with ⟨rfl,hr'⟩ | ⟨rfl,hx⟩ | ⟨id,rfl,hx⟩
   · refine .inl ⟨rfl,ka,kc,(World.cell?_of_block (hSk b hb)).trans c3,c4,pre++[(d,key,k)],?_,?_,fun x hx=>by have:=(hT x hx).2;omega,by omega,hr'⟩
     · rw[e2];simp[spA]
     · intro x hx
       rcases List.mem_cons.1 hx with rfl | hx
       · exact hk.kept fun y hy=>⟨hy,hSk y hy⟩
       · rcases List.mem_cons.1 hx with rfl | hx
         · exact hr.kept fun y hy=>⟨hy,hSk y hy⟩
         · exact (h2 x (List.mem_cons_of_mem _ hx)).kept fun y hy=>⟨hy,hSk y hy⟩
   · exact .inr (.inl ⟨rfl,hx,fun x hx=>by have:=(hT x hx).2;omega,by omega⟩)
   · exact .inr (.inr ⟨id,rfl,hx,fun x hx=>by have:=(hT x hx).2;omega,by omega⟩)
 · rintro D T V hD ⟨pre,e,h2,h3,h4,h5⟩ hV
   rw[show spA []= [] from rfl,List.append_nil] at e
   rw[←e] at h5
   exact hdone D T V hD h5 hV
 · rintro D c T V hD ⟨h5,_⟩ hV
   exact hstop D c T V hD h5 hV
end Go.Proofs.YtoidedomenkbpaaGreat
namespace Go.Proofs.YtoidedomenkbpaaGreat
open Go.RowKit Go.Shelf
attribute [local go_sem] Oper.semAt_some
def yI (t:Tr):Fo:= .node 0 0 (t.id,t.kind,t.text) t.kids .nil
theorem qO (t:Tr):zh (yI t)=zh t.kids+1:=by simp[yI,zh]
theorem JL {w W:World}{S:Nat→Prop}{nb cap:Nat}{ka:Option Addr}{t:Tr}(hS:∀x,S x→W.heap[x]? =w.heap[x]?)(hc:foLen t.kids≤cap)(hk:zK w S t.kids ka)(hb:W.heap[nb]? =some (.cells #[.int .i64 t.id,.int .i64 t.kind,.string t.text,.slice ka (foLen t.kids) cap] 35 (0,0))):zK W (fun x=>S x∨x=nb) (yI t) (some ⟨nb,0,none⟩):=
 ⟨nb,0,ka,cap,rfl,Or.inr rfl,by rw[corQ _ _ 0 _ _ _ hb];rfl,by rw[corQ _ _ 1 _ _ _ hb];rfl,by rw[corQ _ _ 2 _ _ _ hb];rfl,by rw[corQ _ _ 3 _ _ _ hb];rfl,hc,hk.kept fun x hx=>⟨Or.inl hx,hS x hx⟩,True.intro⟩
def zik (w:World)(n:Int)(e:Ending)(w' :World):Prop:=e= .returned (.int .i64 n)∧Below w.heap.size w w'
def ZT (l:List Sp):Int:=(l.length:Int)
end Go.Proofs.YtoidedomenkbpaaGreat
namespace Go.Proofs.YtoidedomenkbpaaGreat
open Go.RowKit Go.Shelf
attribute [local go_sem] Oper.semAt_some
theorem Jf {P:Program}{fn:Func}{p:Tmp}{ty:TypeId}(h:fn.results= #[.cell p ty])(tmps:Array Value)(w:World)(g:Nat)(t:TypeId)(cs:Array Value)(fr:Nat×Nat)(d:TypeDesc)
 (hp:tmps.getD p undef= .pointer (some ⟨g,0,none⟩)) (hg:w.heap[g]? =some (.cells cs t fr)) (hu:P.underlying ty=some d) (hd:(match d with | .struct _ | .array _ _=>true | _=>false)=true) (hi:(P.info? ty).map (·.size)=some cs.size):
 (results fn tmps).run P w= .ok (.agg cs) w:=by
 exact sh1
end Go.Proofs.YtoidedomenkbpaaGreat
namespace Go.Proofs.YtoidedomenkbpaaGreat
open Go.RowKit
def zy (w:World)(os:List Obj):World:=os.foldl (fun w o=>w.alloc o) w
theorem qa:∀(os:List Obj) (w:World),(zy w os).heap.size=w.heap.size+os.length
 | [],_=>rfl
 | o ::os,w=>by
   show (zy (w.alloc o) os).heap.size=_
   rw[qa os,WsaQ,LlcQ];omega
theorem zu:∀(os:List Obj) (w:World),Below w.heap.size w (zy w os)
 | [],w=>BrQ _ _
 | o::os,w=>((BrQ _ w).alloc (NlrQ _) o).trans ((zu os (w.alloc o)).mono sp1)
theorem zi:∀(os:List Obj) (w:World) (i:Nat) (o:Obj),os[i]? =some o→(zy w os).heap[w.heap.size+i]? =some o
 | [],_,_,_,h=>by simp at h
 | o ::os,w,0,o',h=>by
   simp at h;subst h
   show (zy (w.alloc o) os).heap[w.heap.size]? =_
   rw[(zu os (w.alloc o)).block _ sp1];exact World.alloc_heap_new w o
 | o ::os,w,i+1,o',h=>by
   have:=zi os (w.alloc o) i o' ud8
   rw[WsaQ] at this
   show (zy (w.alloc o) os).heap[w.heap.size+(i+1)]? =_
   rw[show w.heap.size+(i+1)=w.heap.size+1+i by omega];exact this
end Go.Proofs.YtoidedomenkbpaaGreat
namespace Go.Proofs.YtoidedomenkbpaaGreat
open Go.RowKit Go.Shelf
attribute [local go_sem] Oper.semAt_some
def zds (w:World)(CB:Nat)(f:List Sp→Int)(pre:List Sp)(_:Nat→Prop)(V:World):Prop:=V.heap[CB]? =some (.cells #[.int .i64 (f pre)] 3 (0,0))∧Below w.heap.size w V
theorem zds.turn {w w1 V V' :World}{CB:Nat}{f:List Sp→Int}{pre:List Sp}{T T' :Nat→Prop}(hw:w.heap.size≤w1.heap.size)(hC:CB<w1.heap.size)(h:zds w CB f pre T V)(hT:∀x,T x→w1.heap.size≤x)(ht:zb V V' (fun x=>T x∨(w1.heap.size≤x∧jq V x))):zds w CB f pre T' V':=by
 have hk:∀x,x<w1.heap.size→x<V.heap.size→V'.heap[x]? =V.heap[x]?:=fun x hx hv=>ht.block x hv (fun h=>by
  rcases h with h | h
  · have:=hT x h;omega
  · omega)
 refine⟨(hk CB hC (lohQ h.1)).trans h.1,ht.os.trans h.2.os,ht.tape.trans h.2.tape,ht.output.trans h.2.output,NltQ h.2.size ht.size,fun x hx=>?_⟩
 rw[hk x om (by have:=h.2.size;omega)];exact h.2.block x hx
theorem zfu (w:World)(cs:Array Value)(v:Value)(x:Value):
 ((((w.alloc (.cells cs 35)).alloc (.cells #[x] 3)).alloc (.cells cs 35)).alloc (.cells #[v] 33)).heap.size=w.heap.size+4∧
 Below w.heap.size w ((((w.alloc (.cells cs 35)).alloc (.cells #[x] 3)).alloc (.cells cs 35)).alloc (.cells #[v] 33))∧
 ((((w.alloc (.cells cs 35)).alloc (.cells #[x] 3)).alloc (.cells cs 35)).alloc (.cells #[v] 33)).heap[w.heap.size+1]? =some (.cells #[x] 3 (0,0))∧
 ((((w.alloc (.cells cs 35)).alloc (.cells #[x] 3)).alloc (.cells cs 35)).alloc (.cells #[v] 33)).heap[w.heap.size+1+1]? =some (.cells cs 35 (0,0))∧
 ((((w.alloc (.cells cs 35)).alloc (.cells #[x] 3)).alloc (.cells cs 35)).alloc (.cells #[v] 33)).heap[w.heap.size+1+1+1]? =some (.cells #[v] 33 (0,0)):=by
 refine⟨by simp,?_,?_,?_,?_⟩
 · exact ((((BrQ _ w).alloc (NlrQ _) _).alloc ud0 _).alloc ud0 _).alloc ud0 _
 · rw[BhaQ _ _ _ ud0,BhaQ _ _ _ ud0]
   have:=hanQ (w.alloc (.cells cs 35)) (.cells #[x] 3)
   rw[WsaQ] at this;exact this
 · rw[BhaQ _ _ _ ud0]
   have:=hanQ ((w.alloc (.cells cs 35)).alloc (.cells #[x] 3)) (.cells cs 35)
   rw[WsaQ,WsaQ] at this;exact this
 · have:=hanQ (((w.alloc (.cells cs 35)).alloc (.cells #[x] 3)).alloc (.cells cs 35)) (.cells #[v] 33)
   rw[WsaQ,WsaQ,WsaQ] at this;exact this
theorem zgd {w w1 V:World}{CB D:Nat}{f:List Sp→Int}{pre:List Sp}{T:Nat→Prop}(h:zds w CB f pre T V)(hD:w1.heap.size≤D)(hw:w.heap.size≤w1.heap.size)(o:Obj)(hK:V.heap[D]? =some o):Below w.heap.size w (V.putObj D (.deferred none)):=
 ⟨h.2.os,h.2.tape,h.2.output,by have:=h.2.size;simp[World.putObj];exact this,fun x hx=>by rw[WphQ om];exact h.2.block x hx⟩
theorem zdG (w:World)(S:Nat→Prop)(nv:Value)(t:Tr)(hS:∀x,S x→x<w.heap.size)(ht:vL w S nv t)(hsz:zh t.kids+1≤500000):Calls Tryz.prog 164 #[nv] w (zik w (ZT (spF 1 (yI t)))):=by
 obtain⟨ka,cap,rfl,hcap,hk⟩:=ht
 obtain⟨n,hn⟩:∃n,n=foLen t.kids:=⟨_,rfl⟩
 rw[←hn]
 obtain⟨k1,k2,k3,k4,k5⟩:=zfu w #[.int .i64 t.id,.int .i64 t.kind,.string t.text,.slice ka n cap] (.slice (some ⟨w.heap.size+1+1,0,none⟩) 1 1) (.int .i64 0)
 have HW:=hH (aN k1 (aN k2 (aN k3 (aN k4 k5))))
 have H:=hH (aN hS (aN hcap (aN hk (aN hsz hn))))
 clear hS hcap hk hsz hn k1 k2 k3 k4 k5
 refine (callsIn_wide (n:=6)).1 ?_
 refine callsIn_of_wp_marks Tryz.func164 rfl trivial ?_ rfl
 simp only[Tryz.ntmps164,List.size_toArray,LlcQ,List.length_nil,Nat.reduceAdd,Nat.reduceSub,Array.replicate_succ,Array.replicate_zero,List.push_toArray,List.append_toArray,List.nil_append,List.cons_append]
 gi_wp2_with (refine⟨trivial,?_⟩;gi_at_call 97;refine (callsIn_wide.2 (zc1 _ _ _ _)).mono ?_;rintro e w' ⟨rfl,rfl⟩)
 generalize hW:World.alloc _ _=W at HW ⊢
 clear hW
 obtain⟨k1,k2,k3,k4,k5⟩:=HW.out
 have hSW:∀x,S x→W.heap[x]? =w.heap[x]?:=fun x hx=>k2.block x (H.out.1 x hx)
 have hroot:=JL hSW H.out.2.1 H.out.2.2.1 (by rw[←H.out.2.2.2.2];exact k4)
 refine QT om rfl ⟨1,some ⟨w.heap.size+1+1,0,none⟩,1,yI t⟩ rfl (by simp[yI]) (by simp[yI,foLen]) (by rw[qO];exact H.out.2.2.2.1) (by rw[corQ _ _ 0 _ _ _ k5];rfl) rfl (fun x=>S x∨x=w.heap.size+1+1) (fun x hx=>by rcases hx with hx | hx;have:=H.out.1 x hx;omega;omega) hroot
  (zds w (w.heap.size+1) ZT) (fun _ _ _=>False) (fun h hT ht _=>h.turn om om hT ht) (fun h _ _ _=>h.elim) ⟨k3,k2⟩ ?round ?done ?stop
 case done=>
  rintro D T V hD hI hK
  have c0:V.cell? ⟨w.heap.size+1,0,none⟩=some (.int .i64 (ZT (spF 1 (yI t)))):=by rw[corQ _ _ 0 _ _ _ hI.1];rfl
  have HE:=hH (zgd hI hD om _ hK)
  clear hI HW H k1 k2 k3 k4 k5 hSW hroot
  gi_wp2
  refine⟨by simp,.inl ⟨_,_,rfl,run_takeDeferred hK,?_⟩⟩
  exact⟨_,results_tmp rfl _ _ _,rfl,HE.out⟩
 case stop=>exact fun _ _ _ _ _ h _=>h.elim
 case round=>
  rintro l hl T pre rest d key k V b off kc ka2 hT hV htot hb d0 d1 d2 d3 d4 dk hR K hK
  have hpl:pre.length≤500000:=by
   have:=congrArg List.length htot
   rw[qU,qO,LlaQ] at this;have:=H.out.2.2.2.1;omega
  have hb0:0≤ZT pre:=by unfold ZT;omega
  have hb1:ZT pre≤500000:=by unfold ZT;omega
  have HK:=hH hK
  have HR:=hH (aN hR (aN hT hV))
  have HZ:=hH (aN k1 (aN hl hb))
  clear hR hK hT hV k1 k2 k3 k4 k5 hSW hroot HW htot d0 d1 d2 d3 d4 dk hl hb
  gi_wp2
  refine HK.out _ fun V1 hV1=>?_
  obtain⟨o',ev,o,ho,hoc⟩:=hV1
  have hC1:V1.heap[w.heap.size+1]? =some (.cells #[.int .i64 (ZT pre)] 3 (0,0)):=by
   rw[ev,WphQ (by have:=HZ.out.2.1;have:=HZ.out.1;omega)];exact HR.out.1.1
  have hs1:V1.heap.size=V.heap.size:=by rw[ev];simp[World.putObj]
  have hB1:Below w.heap.size w V1:=by
   have h2:=HR.out.1.2
   rw[ev]
   exact⟨h2.os,h2.tape,h2.output,by have:=h2.size;simp[World.putObj];exact this,fun x hx=>by rw[WphQ (by have:=HZ.out.2.1;have:=HZ.out.1;omega)];exact h2.block x hx⟩
  have hend:∀aa:Act,zax W.heap.size T (fun x=>S x∨x=w.heap.size+1+1) (zds w (w.heap.size+1) ZT) (fun _ _ _=>False) (pre++[(d,key,k)]) V1 .normal aa (V1.setCell ⟨w.heap.size+1,0,none⟩ (.int .i64 (ZT pre+1))):=by
   intro aa
   have hbk:∀x,x≠w.heap.size+1→(V1.setCell ⟨w.heap.size+1,0,none⟩ (.int .i64 (ZT pre+1))).heap[x]? =V1.heap[x]?:=fun x hx=>BhsQ _ _ _ _ hx
   have hk1:=HZ.out.1
   refine⟨⟨by simp[World.setCell],fun x o hx ho _=>?_⟩,⟨by simp[World.setCell],fun x hx=>hbk x (by have:=(HR.out.2.1 x hx).2;omega)⟩,fun x hx=>hbk x ?_,.inl ⟨rfl,?_,hB1.setCell (p:=⟨w.heap.size+1,0,none⟩) sp1 _⟩⟩
   · rw[hbk x om];exact ho
   · rcases hx with hx | hx
     · have:=H.out.1 x hx;omega
     · omega
   · rw[hssQ V1 (w.heap.size+1) 0 _ _ _ hC1]
     simp[ZT]
  have c0:V1.cell? ⟨w.heap.size+1,0,none⟩=some (.int .i64 (ZT pre)):=by rw[corQ _ _ 0 _ _ _ hC1];rfl
  have f0:V1.frozen? ⟨w.heap.size+1,0,none⟩=false:=forQ _ _ 0 _ _ hC1
  have HE:=hH hend
  clear hend hC1 hB1 hs1 ev ho hoc
  gi_wp2
  all_goals first
   | exact HE.out _
   | (have h:=HE.out;rw[Int.max_eq_right om] at h;exact h _)
   | (have h:=HE.out;rw[Int.max_eq_left om] at h;exact h _)
end Go.Proofs.YtoidedomenkbpaaGreat
