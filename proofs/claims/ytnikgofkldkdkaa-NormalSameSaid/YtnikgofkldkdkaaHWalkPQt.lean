/-
  .
-/
import Derived.Test.YtnikgofkldkdkaaEEachQt
set_option maxRecDepth 100000
set_option maxHeartbeats 40000000
set_option linter.unusedVariables false
set_option linter.unusedSimpArgs false
namespace Go.Proofs.Ytnikgofkldkdkaa
open Go.RowKit
def Book (B:Nat)(r:Loop)(W:World):Prop:=W.heap[B+1]? =some (.loop r)∧W.heap[B]? =some (.deferred (some []))
theorem Book.put {B:Nat}{r r' :Loop}{W:World}(h:Book B r W):Book B r' (W.putObj (B+1) (.loop r')):=
 ⟨World.putObj_heap_same (Array.getElem?_eq_some_iff.1 h.1).1,(WphQ om).trans h.2⟩
theorem Book.kept {B:Nat}{r:Loop}{W V:World}(h:Book B r W)(hk:KeepsFrom B W V):Book B r V:=⟨hk.same _ _ om h.1 rfl,hk.same _ _ (NlrQ _) h.2 rfl⟩
theorem Book.touched {B:Nat}{r:Loop}{W V:World}{T:Nat→Prop}(h:Book B r W)(ht:zo W V T)(hT:∀x,T x→B+2≤x):Book B r V:=
 ⟨(ht.block _ (lohQ h.1) (fun e=>by have:=hT _ e;omega)).trans h.1,(ht.block _ (lohQ h.2) (fun e=>by have:=hT _ e;omega)).trans h.2⟩
def vQ (V:World)(x:Nat):Prop:=∃o,V.heap[x]? =some o∧o.isCells=false
def zkr (B:Nat)(T:Nat→Prop)(I:(Nat→Prop)→List Seg→World→Prop)(Ix:Code→(Nat→Prop)→World→Prop)(d c b off:Nat)(k r:Fo)(A:List Seg)(W:World)(e:Exit)(_:Act)(V:World):Prop:=
 KeepsFrom B W V∧Kept T W V∧((e= .normal∧∃ka kc,V.cell? ⟨b,off+3,none⟩=some (.slice ka (foLen k) kc)∧foLen k≤kc∧I T (⟨d+1,ka,kc,k⟩::⟨d,some ⟨b,off+4,none⟩,c - 1,r⟩::A) V)∨(e= .ret∧Ix .ret T V)∨∃id,e= .exit id∧Ix (.exit id) T V)
theorem yQ {V:World}{l:Nat}{o:Obj}(o' :Obj)(hl:V.heap[l]? =some o):zo V (V.putObj l o') (fun x=>x=l):=
 ⟨rfl,rfl,rfl,by simp[World.putObj],fun x _ hn=>WphQ hn⟩
theorem zo.mono {w w' :World}{S S' :Nat→Prop}(h:zo w w' S)(hS:∀x,S x→S' x):zo w w' S':=⟨h.os,h.tape,h.output,h.size,fun x hx hn=>h.block x hx (fun hs=>hn (hS x hs))⟩
theorem Ql {T:Nat→Prop}{V:World}{l:Nat}(o' :Obj)(hT:¬T l):Kept T V (V.putObj l o'):=⟨by simp[World.putObj],fun x hx=>WphQ (fun e=>hT (e▸hx))⟩
theorem zaK {n:Nat}{g:Operand}{ps:Array Tmp}{assign body:Code}{Q:Exit→Act→World→Prop}{a:Act}{w:World}(h1:1≤n){NB:Nat}(hg:a.eval g= .func (.func 73) #[] #[.pointer (some ⟨NB,0,none⟩)])
 (s:Seg) (hd:s.d=1) (hne:s.f≠ .nil) (hcap:foLen s.f≤s.cap) (hsz:za s.f≤500000) (hNB:w.cell? ⟨NB,0,none⟩=some s.v) (hps:ps.size=2)
 (I:(Nat→Prop)→List Seg→World→Prop) (Ix:Code→(Nat→Prop)→World→Prop)
 (hI:∀{T T' :Nat→Prop} {A:List Seg} {V V' :World},I T A V→zo V V' (fun x=>T x∨(w.heap.size≤x∧vQ V x))→kg T T' V V'→I T' A V')
 (hIx:∀{c:Code} {T T' :Nat→Prop} {V V' :World},Ix c T V→zo V V' (fun x=>T x∨(w.heap.size≤x∧vQ V x))→kg T T' V V'→Ix c T' V')
 (hIe:∀{T:Nat→Prop} {A B:List Seg} {d c:Nat} {a:Option Addr} {V:World},I T (A++⟨d,a,c,.nil⟩::B) V→I T (A++B) V)
 (h0:I (fun _=>False) [s] w)
 (hround:∀(l:Nat),l=w.heap.size+1→∀(T:Nat→Prop) (d c bo oo:Nat) (ad:Option Addr) (key:Int×Int×ByteArray) (k r:Fo) (A:List Seg) (V:World),(∀x,T x→x<V.heap.size∧w.heap.size+2≤x)→w.heap.size+2≤V.heap.size→I T (⟨d,ad,c,.node bo oo key k r⟩::A) V→
   ∃ b off,ad=some ⟨b,off,none⟩∧∀(K:Act→World→Prop),(∀a₁,(∀V',(∃o',V'=V.putObj l o'∧∃o,V.heap[l]? =some o∧o.isCells=false)→body.wpIn (Fence.wide.inRound l) (n - 1 - 1) Try.prog (zkr w.heap.size T I Ix d c b off k r A V') a₁ V')→K a₁ V)→
    assign.wpIn (Fence.wide.inRound l) (n - 1 - 1) Try.prog (Exit.then K (fun _ _ _=>False)) { tmps:=(ps.zip #[.int .i64 (d:Int),.pointer (some ⟨b,off,none⟩)]).foldl (fun t (p,v)=>t.setIfInBounds p v) a.tmps,defers:=[] } V)
 (hdone:∀(D:Nat) (T:Nat→Prop) (V:World),w.heap.size≤D→I T [] V→V.heap[D]? =some (.deferred (some []))→Q .normal { a with defers:={ target:= .collected D,args:= #[] }::a.defers } V)
 (hstop:∀(D:Nat) (c:Code) (T:Nat→Prop) (V:World),w.heap.size≤D→Ix c T V→V.heap[D]? =some (.deferred (some []))→c.wpIn Fence.wide n Try.prog Q { a with defers:={ target:= .collected D,args:= #[] }::a.defers } V):
 (Code.rangeFunc g ps assign body).wpIn Fence.wide n Try.prog Q a w:=by
 obtain⟨B,hB⟩:∃B,w.heap.size=B:=⟨_,rfl⟩
 simp only[hB] at hI hIx hround hdone hstop
 refine wpIn_rangeFunc fun fn hfn=>?_
 obtain⟨rec,hrec⟩:∃rec:LoopState→Option Code→Loop,rec=fun st pe=>{ state:=st,pending:=pe,fn,tmps:=a.tmps,params:=ps,assign,body,defers:=B }:=⟨_,rfl⟩
 obtain⟨W1,hW1⟩:∃W1,W1=(w.alloc (.deferred (some []))).alloc (.loop (rec .ready none)):=⟨_,rfl⟩
 have hsz1:W1.heap.size=B+2:=by rw[hW1];simp[hB]
 have hblk:∀x,x<B→W1.heap[x]? =w.heap[x]?:=fun x hx=>by rw[hW1,BhaQ _ _ _ ue6,BhaQ _ _ _ om]
 have hbk:Book B (rec .ready none) W1:=by
  exact sc6
 have hb1:zo w W1 (fun _=>False):=by rw[hW1];exact ((zo.refl w _).alloc _).alloc _
 have hI1:I (fun _=>False) [s] W1:=hI h0 (hb1.mono (fun _ h=>h.elim)) (fun x hx=>Or.inl hx)
 have hNBl:=World.block_lt_of_cell? _ _ hNB
 have hNB1:W1.cell? ⟨NB,0,none⟩=some s.v:=(World.cell?_of_block (hblk NB (by simp only at hNBl;omega))).trans hNB
 refine⟨B+1,[{ target:= .collected B,args:= #[] }],W1,{ target:= .fn (.func 73) #[.pointer (some ⟨NB,0,none⟩)],args:= #[.func (.yield (B+1)) #[] #[]] },W1,73, #[.func (.yield (B+1)) #[] #[]]++ #[.pointer (some ⟨NB,0,none⟩)],W1,?_,?_,?_,?_,fun _=>h1,?_⟩
 · exact ua1
 · simp only[resolve,hg]
   simp[go_sem]
 · exact ua2
 · simp[invoke,go_sem]
 · obtain ⟨J,hJ⟩:∃J:(Nat→Prop)→List Seg→World→Prop,J=fun T A V=>I T A V∧Book B (rec .ready none) V∧∀x,T x→B+2≤x:=⟨_,rfl⟩
   obtain⟨Jx,hJx⟩:∃Jx:(Nat→Prop)→World→Prop,Jx=fun T V=>∃c,Ix c T V∧Book B (rec .done (some c)) V∧∀x,T x→B+2≤x:=⟨_,rfl⟩
   have hbody:Body Try.prog (n - 1 - 1) (B+1) J Jx:=by
    subst hJ hJx
    refine⟨?_,?_,?_,?_⟩
    · rintro T T' A V V' ⟨j1,j2,j3⟩ ht hw
      exact sg8
    · rintro T T' V V' ⟨c,j1,j2,j3⟩ ht hw
      have hs:=lohQ j2.1
      exact⟨c,hIx j1 (ht.mono (fun x hx=>Or.inl hx)) hw,j2.touched ht j3,fun x hx=>(hw x hx).elim (j3 x) (fun h=>by omega)⟩
    · rintro T A A' d c ad V ⟨j1,j2⟩
      exact⟨hIe j1,j2⟩
    · rintro T d c bo oo ad key k r A V hT ⟨j1,j2,j3⟩
      obtain⟨b,off,e,hr⟩:=hround (B+1) rfl T d c bo oo ad key k r A V (fun x hx=>⟨hT x hx,j3 x hx⟩) (by have:=lohQ j2.1;omega) j1
      refine⟨b,off,e,?_⟩
      have hTl:¬T (B+1):=fun h=>by have:=j3 _ h;omega
      have hy:=run_yield (P:=Try.prog) (args:= #[.int .i64 (d:Int),.pointer (some ⟨b,off,none⟩)]) j2.1 ud2
      rw[hrec] at hy
      refine⟨fn,_,assign,body,hy,roundIn_of_wpIn hfn (hr _ fun a₁ hb=>?_)⟩
      refine⟨_,run_beginRound j2.1 (by rw[hrec]),?_⟩
      have hb2:Book B { rec .ready none with state:= .busy } (V.putObj (B+1) (.loop { rec .ready none with state:= .busy })):=j2.put
      refine wpIn_mono (hb _ ⟨_,rfl,_,j2.1,rfl⟩) ?_
      rintro e3 a3 U ⟨hkU,hkT,hp⟩
      have hb3:=hb2.kept hkU
      have fin:=fun jump=>run_endRound (P:=Try.prog) jump hb3.1
      rw[hrec] at fin hb3
      have hall:∀o',Kept T V (U.putObj (B+1) o'):=fun o'=>((Ql _ hTl).trans hkT).trans (Ql _ hTl)
      have htp:∀o',zo U (U.putObj (B+1) o') (fun x=>T x∨(B≤x∧vQ U x)):=fun o'=>(yQ o' hb3.1).mono (fun x hx=>Or.inr ⟨by omega,by rw[hx];exact⟨_,hb3.1,rfl⟩⟩)
      rcases hp with ⟨rfl,ka,kc,c1,c2,hi3⟩ | ⟨rfl,hi3⟩ | ⟨id,rfl,hi3⟩
      · refine⟨_,_,fin none,hall _,.inl ⟨rfl,ka,kc,?_,c2,hI hi3 (htp _) (fun x hx=>Or.inl hx),?_,j3⟩⟩
        · refine (World.cell?_of_block (WphQ fun e4=>?_)).trans c1
          have h5:U.cell? ⟨B+1,off+3,none⟩=none:=by simp[World.cell?,hb3.1]
          simp only at e4
          rw[e4,h5] at c1;cases c1
        · rw[hrec];exact hb3.put
      · refine⟨_,_,fin (some .ret),hall _,.inr ⟨rfl,.ret,hIx hi3 (htp _) (fun x hx=>Or.inl hx),?_,j3⟩⟩
        rw[hrec];exact hb3.put
      · refine⟨_,_,fin (some (.exit id)),hall _,.inr ⟨rfl,.exit id,hIx hi3 (htp _) (fun x hx=>Or.inl hx),?_,j3⟩⟩
        rw[hrec];exact hb3.put
   have hstart:J (fun _=>False) [s] W1:=by rw[hJ];exact⟨hI1,hbk,fun _ h=>h.elim⟩
   refine (callsIn_wide.2 (zht hbody W1 NB s hd hne hcap hsz hNB1 hstart)).mono ?_
   rintro e W2 ⟨⟨v,rfl⟩,(⟨T,hj⟩ | ⟨T,hj⟩)⟩
   · rw[hJ] at hj
     exact sd4
   · rw[hJx] at hj
     obtain⟨c,hi,hb,hT⟩:=hj
     have:=run_endLoop (P:=Try.prog) hb.1 ue4
     rw[hrec] at this
     exact⟨some c,_,this,hstop B c T _ (NlrQ _) (hIx hi ((yQ _ hb.1).mono (fun x hx=>Or.inr ⟨by omega,by rw[hx];exact⟨_,hb.1,rfl⟩⟩)) (fun x hx=>Or.inl hx)) ((WphQ om).trans hb.2)⟩
theorem ze1 (w:World)(a:Option Addr)(n c:Nat):Calls Try.prog 48 #[.slice a n c] w fun e w'=>e= .returned (.func (.func 73) #[] #[.pointer (some ⟨w.heap.size,0,none⟩)])∧w'=w.alloc (.cells #[.slice a n c] 25):=by
 have hmf:∀(fn:Fn) (first cap:Array Value) (w:World),(Instr.makeFunc fn first cap).run Try.prog w= .ok (.func fn first cap) w:=fun _ _ _ _=>rfl
 go_enter Try.func48,Try.ntmps48
 go_wp2_with fail
 go_ret
 exact⟨rfl,rfl⟩
abbrev Sp:=Nat×(Int×Int×ByteArray)×Fo
def spF:Nat→Fo→List Sp
 | _,.nil=>[]
 | d,.node _ _ k l r=>(d,k,l)::(spF (d+1) l++spF d r)
theorem vL:∀(d:Nat) (f:Fo),(spF d f).length=za f
 | _,.nil=>rfl
 | d,.node _ _ k l r=>by simp[spF,za,vL (d+1) l,vL d r]
end Go.Proofs.Ytnikgofkldkdkaa
namespace Go.Proofs.Ytnikgofkldkdkaa
open Go.RowKit Go.Shelf
attribute [local go_sem] Oper.semAt_some
def zh (t:Tr):Fo:= .node 0 0 (t.id,t.kind,t.text) t.kids .nil
theorem yH (t:Tr):za (zh t)=za t.kids+1:=by simp[zh,za]
theorem Q4 {w W:World}{S:Nat→Prop}{nb cap:Nat}{ka:Option Addr}{t:Tr}(hS:∀x,S x→W.heap[x]? =w.heap[x]?)(hc:foLen t.kids≤cap)(hk:zk w S t.kids ka)(hb:W.heap[nb]? =some (.cells #[.int .i64 t.id,.int .i64 t.kind,.string t.text,.slice ka (foLen t.kids) cap] 27 (0,0))):zk W (fun x=>S x∨x=nb) (zh t) (some ⟨nb,0,none⟩):=
 ⟨nb,0,ka,cap,rfl,Or.inr rfl,by rw[corQ _ _ 0 _ _ _ hb];rfl,by rw[corQ _ _ 1 _ _ _ hb];rfl,by rw[corQ _ _ 2 _ _ _ hb];rfl,by rw[corQ _ _ 3 _ _ _ hb];rfl,hc,hk.kept fun x hx=>⟨Or.inl hx,hS x hx⟩,True.intro⟩
end Go.Proofs.Ytnikgofkldkdkaa
namespace Go.Proofs.Ytnikgofkldkdkaa
open Go.RowKit
def fpi (id:Int):Nat→Fo→Option (List Nat)
 | _,.nil=>none
 | i,.node _ _ k l r=>if k.1=id then some [i] else match fpi id 0 l with
   | some p=>some (i::p)
   | none=>fpi id (i+1) r
def zw (id:Int)(t:Tr):Option (List Nat):=if t.id=id then some [] else fpi id 0 t.kids
def qA:Fo→Option Tr
 | .nil=>none
 | .node _ _ k l _=>some ⟨k.1,k.2.1,k.2.2,l⟩
def zB (f:Fo)(j:Nat):Option Tr:=qA (zm j f)
def atT:Tr→List Nat→Option Tr
 | t,[]=>some t
 | t,i::p=>match zB t.kids i with
   | none=>none
   | some u=>atT u p
theorem zb3 {f:Fo}{j:Nat}(h:j<foLen f):∃b o k l r,zm j f= .node b o k l r∧zB f j=some ⟨k.1,k.2.1,k.2.2,l⟩∧zm (j+1) f=r:=by
 obtain⟨b,o,k,l,r,h1,h2,_⟩:=yw j f h
 exact⟨b,o,k,l,r,h1,by rw[zB,h1];rfl,h2⟩
theorem Jy {f:Fo}{j:Nat}(h:foLen f≤j):zB f j=none:=by rw[zB,qJ j f h];rfl
theorem qd {f:Fo}{j:Nat}{u:Tr}(h:zB f j=some u):j<foLen f:=by
 rcases Nat.lt_or_ge j (foLen f) with h1 | h1
 · exact h1
 · rw[Jy h1] at h;cases h
theorem zac {id:Int}{f:Fo}{j:Nat}(h:j<foLen f):∀{u:Tr},zB f j=some u→fpi id j (zm j f)=if u.id=id then some [j] else match fpi id 0 u.kids with
 | some p=>some (j::p)
 | none=>fpi id (j+1) (zm (j+1) f):=by
 intro u hu
 obtain⟨b,o,k,l,r,h1,h2,h3⟩:=zb3 h
 rw[h2] at hu;cases hu
 rw[h1,h3];rfl
theorem qG (f:Fo):zm 0 f=f:=by cases f<;>rfl
structure Fr where
 a:Option Addr
 cap:Nat
 f:Fo
 p:Int
def Fr.cells (x:Fr):List Value:=[.slice x.a (foLen x.f) x.cap,.int .i64 x.p]
def Fr.nx (x:Fr):Nat:=(x.p+1).toNat
def places (L:List Fr):List Nat:=L.reverse.map fun x=>x.p.toNat
def yN:List Fr→List Fr
 | []=>[]
 | x::r=>if x.p+1<(foLen x.f:Int) then ⟨x.a,x.cap,x.f,x.p+1⟩::r else yN r
def zaQ (id:Int):List Fr→Option (List Nat)
 | []=>none
 | x ::r=>match fpi id x.nx (zm x.nx x.f) with
   | some q=>some (places r++q)
   | none=>zaQ id r
def zfJ (id:Int):List Fr→Option (List Nat)
 | []=>none
 | x ::r=>match fpi id x.p.toNat (zm x.p.toNat x.f) with
   | some q=>some (places r++q)
   | none=>zaQ id r
def Qm:List Fr→Nat
 | []=>0
 | x::r=>za (zm x.nx x.f)+Qm r
def qV (root:Fo):List Fr→Prop
 | []=>True
 | [x]=>x.f=root
 | x::y::r=>(0≤y.p∧∃u,zB y.f y.p.toNat=some u∧x.f=u.kids)∧qV root (y::r)
def Fr.ok (x:Fr):Prop:=0≤x.p∧x.p<(foLen x.f:Int)
theorem qV.tail {root:Fo}{x:Fr}{r:List Fr}(h:qV root (x::r)):qV root r:=by
 cases r with
 | nil=>trivial
 | cons y r=>exact h.2
theorem QV (id:Int):∀L:List Fr,(∀x∈L, -1≤x.p)→zfJ id (yN L)=zaQ id L
 | [],_=>rfl
 | x ::r,h=>by
   have hx:=h x sp1
   by_cases hl:x.p+1<(foLen x.f:Int)
   · rw[yN,ipQ hl];rfl
   · rw[yN,inQ hl,QV id r (fun y hy=>h y (by simp[hy])),zaQ]
     rw[qJ x.nx x.f (by unfold Fr.nx;omega)];rfl
theorem Jh {root:Fo}:∀L:List Fr,qV root L→qV root (yN L)
 | [],_=>trivial
 | x ::r,h=>by
   by_cases hl:x.p+1<(foLen x.f:Int)
   · rw[yN,ipQ hl]
     cases r with
     | nil=>exact h
     | cons y r=>exact h
   · rw[yN,inQ hl];exact Jh r h.tail
theorem zc3:∀L:List Fr,(∀x∈L, -1≤x.p)→(∀x∈L.tail,x.ok)→∀x∈yN L,x.ok
 | [],_,_,_,h=>by cases h
 | x ::r,h1,h2,y,hy=>by
   by_cases hl:x.p+1<(foLen x.f:Int)
   · rw[yN,ipQ hl] at hy
     rcases List.mem_cons.1 hy with rfl | hy
     · exact⟨by have:=h1 x sp1;simp only;omega,hl⟩
     · exact h2 y hy
   · rw[yN,inQ hl] at hy
     exact zc3 r (fun z hz=>h1 z (by simp[hz])) (fun z hz=>h2 z (List.mem_of_mem_tail hz)) y hy
theorem zbq (P:Option Addr→Nat→Fo→Prop):∀L:List Fr,(∀x∈L,P x.a x.cap x.f)→∀x∈yN L,P x.a x.cap x.f
 | [],_,_,h=>by cases h
 | x ::r,h,y,hy=>by
   by_cases hl:x.p+1<(foLen x.f:Int)
   · rw[yN,ipQ hl] at hy
     rcases List.mem_cons.1 hy with rfl | hy
     · exact h x sp1
     · exact h y (by simp[hy])
   · rw[yN,inQ hl] at hy
     exact zbq P r (fun z hz=>h z (by simp[hz])) y hy
theorem Qq:∀L:List Fr,(yN L).length≤L.length
 | []=>NlrQ _
 | x ::r=>by
   by_cases hl:x.p+1<(foLen x.f:Int)
   · rw[yN,ipQ hl];simp
   · rw[yN,inQ hl];have:=Qq r;simp;omega
theorem ZM {f:Fo}{j:Nat}{u:Tr}(h:zB f j=some u):za (zm j f)=za u.kids+za (zm (j+1) f)+1:=by
 obtain⟨b,o,k,l,r,h1,h2,h3⟩:=zb3 (qd h)
 rw[h2] at h;cases h
 rw[h1,h3];simp[za]
def jJ:List Fr→Nat
 | []=>0
 | x::r=>za (zm x.p.toNat x.f)+Qm r
theorem YK:∀L:List Fr,(∀x∈L, -1≤x.p)→jJ (yN L)≤Qm L
 | [],_=>NlrQ _
 | x ::r,h=>by
   have hx:=h x sp1
   by_cases hl:x.p+1<(foLen x.f:Int)
   · rw[yN,ipQ hl]
     simp only[jJ,Qm,Fr.nx]
     exact NlrQ _
   · rw[yN,inQ hl]
     have h1:=YK r (fun z hz=>h z (by simp[hz]))
     rw[Qm];omega
theorem zau {x:Fr}{r:List Fr}{u:Tr}{a:Option Addr}{c:Nat}(hx:x.ok)(hu:zB x.f x.p.toNat=some u):Qm (⟨a,c,u.kids, -1⟩::x::r)+1=jJ (x::r):=by
 have h1:=ZM hu
 have h2:x.nx=x.p.toNat+1:=by unfold Fr.nx;have:=hx.1;omega
 have h3:(Fr.mk a c u.kids (-1)).nx=0:=by unfold Fr.nx;simp
 simp only[jJ,Qm,h2,h3,qG];omega
theorem zhm {id:Int}{x:Fr}{r:List Fr}{u:Tr}(hx:x.ok)(hu:zB x.f x.p.toNat=some u)(hid:u.id=id):zfJ id (x::r)=some (places (x::r)):=by
 rw[zfJ,zac (qd hu) hu,ipQ hid]
 simp[places]
theorem zj0 {id:Int}{x:Fr}{r:List Fr}{u:Tr}{a:Option Addr}{c:Nat}(hx:x.ok)(hu:zB x.f x.p.toNat=some u)(hid:¬u.id=id):zfJ id (x::r)=zaQ id (⟨a,c,u.kids, -1⟩::x::r):=by
 rw[zfJ,zac (qd hu) hu,inQ hid]
 have h2:x.nx=x.p.toNat+1:=by unfold Fr.nx;have:=hx.1;omega
 have h3:(Fr.mk a c u.kids (-1)).nx=0:=by unfold Fr.nx;simp
 simp only[zaQ,h2,h3,qG]
 cases h:fpi id 0 u.kids with
 | none=>rfl
 | some p=>simp[places]
theorem zcz {t:Tr}{b o:Nat}:∀(L:List Fr),qV (.node b o (t.id,t.kind,t.text) t.kids .nil) L→(∀x∈L,x.ok)→∀x r,L=x::r→∃p u,places L=0::p∧atT t p=some u∧zB x.f x.p.toNat=some u
 | [x],h,hok,_,_,rfl=>by
   simp only[qV] at h
   have h1:=hok x sp1
   rw[Fr.ok,h] at h1
   simp only[foLen] at h1
   have h2:x.p=0:=by omega
   exact⟨[],t,by simp[places,h2],rfl,by rw[h,h2];rfl⟩
 | x :: y ::r,h,hok,_,_,rfl=>by
   obtain⟨p,u,h1,h2,h3⟩:=zcz (y::r) h.2 (fun z hz=>hok z (by simp[hz])) y r rfl
   obtain⟨v,h4,h5⟩:=h.1.2
   rw[h3] at h4;cases h4
   have h6:=hok x sp1
   obtain⟨b',o',k,l,q,h7,h8,_⟩:=zb3 (f:=x.f) (j:=x.p.toNat) (by have:=h6.1;have:=h6.2;omega)
   refine⟨p++[x.p.toNat],_,?_,?_,h8⟩
   · rw[places,List.reverse_cons,List.map_append]
     have h9:=h1
     rw[places] at h9
     rw[h9];rfl
   · have e:∀(p:List Nat) (t:Tr) (u:Tr) (j:Nat),atT t p=some u→atT t (p++[j])=zB u.kids j:=by
      intro p
      induction p with
      | nil=>intro t u j h;cases h;simp[atT];cases zB t.kids j<;>rfl
      | cons i p ih=>
        intro t u j h
        simp only[List.cons_append,atT] at h ⊢
        cases hk:zB t.kids i with
        | none=>rw[hk] at h;cases h
        | some v=>rw[hk] at h;simp only at h ⊢;exact ih v u j h
     rw[e p t u _ h2,←h5];exact h8
theorem zc7 (w:World)(b off n cap p:Nat)(hp:p<n)(hn:n≤1000000000):Calls Try.prog 123 #[.agg #[.slice (some ⟨b,off,none⟩) n cap,.int .i64 (p:Int)]] w fun e w'=>e= .returned (.pointer (some ⟨b,off+p*4,none⟩))∧Below w.heap.size w w':=by
 have hpl:(p:Int)<(n:Int):=by omega
 go_enter Try.func123,Try.ntmps123
 go_wp2_with fail
 go_ret
 exact⟨rfl,(BrQ _ _).alloc (NlrQ _) _⟩
theorem YR {P:Program}{ops:Array Oper}{C:World→Prop}{Q:Exit→Act→World→Prop}{l:List Oper}{a:Act}(h:∀QQ:Act→Prop,(∀a,(∀w',C w'→Q .normal a w')→QQ a)→wpQuiet P ops C QQ l a):wpQuiet P ops C (fun a'=>∀w',C w'→Q .normal a' w') l a:=h _ (fun _ h=>h)
theorem YG:∀(M:List Fr) (k:Nat) (s:Fr),M[k]? =some s→(M.flatMap Fr.cells)[k*2]? =some (.slice s.a (foLen s.f) s.cap)∧(M.flatMap Fr.cells)[k*2+1]? =some (.int .i64 s.p)
 | [],_,_,h=>by simp at h
 | x ::M,0,s,h=>by
   simp at h;subst h
   simp[Fr.cells]
 | x ::M,k+1,s,h=>by
   have:=YG M k s ue3
   rw[List.flatMap_cons]
   have e1:(k+1)*2=k*2+1+1:=by omega
   rw[e1]
   simpa [Fr.cells] using this
theorem zcL (L:List Fr):(L.flatMap Fr.cells).length=L.length*2:=by
 induction L with
 | nil=>rfl
 | cons s L ih=>rw[List.flatMap_cons,LlaQ,ih,LlcQ];simp[Fr.cells];omega
theorem Jd:∀(M:List Fr) (k:Nat) (s:Fr) (p:Int),M[k]? =some s→(M.flatMap Fr.cells).set (k*2+1) (.int .i64 p)=(M.set k ⟨s.a,s.cap,s.f,p⟩).flatMap Fr.cells
 | [],_,_,_,h=>by simp at h
 | x ::M,0,s,p,h=>by
   simp at h;subst h
   simp[Fr.cells]
 | x ::M,k+1,s,p,h=>by
   have:=Jd M k s p ue3
   rw[pgF,List.flatMap_cons,List.flatMap_cons,←this]
   have e1:(k+1)*2+1=k*2+1+1+1:=by omega
   rw[e1]
   simp[Fr.cells]
theorem zep {w:World}{B n j cap:Nat}{a:Option Addr}{e:TypeId}{xs ys:List Value}(h:w.ownsRow B e 2 (.slice a n cap) n (xs++ys))(hj:xs.length=j*2)(hjn:j≤n):w.ownsRow B e 2 (.slice a j cap) j xs:=by
 rcases h.2 with ⟨hv,hn⟩ | ⟨g',cap',cur,hv,hB,hh,h3,h4,h5,h6⟩
 · cases hv
   have:j=0:=by omega
   subst this
   rw[List.length_eq_zero_iff.1 (by omega:xs.length=0)]
   exact World.ownsRow_nil _ _ _ _
 · cases hv
   refine⟨hj,Or.inr ⟨g',cap,cur,rfl,hB,hh,by omega,h4,h5,?_⟩⟩
   have h7:(cur.toList.take (n*2)).take (j*2)=(xs++ys).take (j*2):=by rw[h6]
   rw[List.take_take,Nat.min_eq_left om] at h7
   rw[h7,List.take_left' hj]
def qo (w:World)(rv:Value)(L:List Fr):Prop:=w.ownsRow 0 168 2 rv L.length (L.reverse.flatMap Fr.cells)
theorem qo.kept {w w' :World}{rv:Value}{L:List Fr}(h:qo w rv L)(hk:∀g,rv.ownBlock=some g→w'.heap[g]? =w.heap[g]?):qo w' rv L:=zA h fun g _ _ hg=>hk g hg
theorem qo.at {w:World}{a:Option Addr}{n cap:Nat}{L:List Fr}(h:qo w (.slice a n cap) L){k:Nat}{x:Fr}(hx:L.reverse[k]? =some x):∃g,a=some ⟨g,0,none⟩∧n=L.length∧w.cell? ⟨g,k*2,none⟩=some (.slice x.a (foLen x.f) x.cap)∧w.cell? ⟨g,k*2+1,none⟩=some (.int .i64 x.p)∧(∀j,w.frozen? ⟨g,j,none⟩=false):=by
 have hk:k<L.length:=by have:=(List.getElem?_eq_some_iff.1 hx).1;rwa [List.length_reverse] at this
 have hn:n=L.length:=by
  rcases h.2 with ⟨hv,h0⟩ | ⟨g,cap,cur,hv,_⟩
  · omega
  · cases hv;rfl
 subst hn
 have hf:=h
 obtain⟨g,cap',e,_⟩:=World.ownsRow.form h om
 cases e
 obtain⟨c0,c1⟩:=YG _ k x hx
 exact⟨g,rfl,rfl,zC h rfl _ _ c0,zC h rfl _ _ c1,fun j=>World.ownsRow.frozenAt hf j⟩
def zba (rv:Value)(L:List Fr)(w:World)(e:Ending)(w' :World):Prop:=∃rv',e= .returned rv'∧qo w' rv' (yN L)∧(rv'.ownBlock=rv.ownBlock∨rv'.ownBlock=none)∧zo w w' (fun x=>rv.ownBlock=some x)
def Yq (ra:Option Addr)(n rc:Nat)(L:List Fr)(w:World)(j:Nat)(wr:World):Prop:=∃A R,A.length=j∧R.length+j=n∧yN A=yN L∧(∀x∈A,x∈L)∧wr.ownsRow 0 168 2 (.slice ra n rc) n ((A.reverse++R).flatMap Fr.cells)∧zo w wr (fun x=>(Value.slice ra n rc).ownBlock=some x)
theorem Yq.drew {ra:Option Addr}{n rc j:Nat}{L:List Fr}{w wr:World}(h:Yq ra n rc L w j wr):Yq ra n rc L w j wr.drew:=by
 obtain⟨A,R,h1,h2,h3,h4,h5,h6⟩:=h
 exact⟨A,R,h1,h2,h3,h4,h5,h6.drew⟩
theorem zba.drew {rv:Value}{L:List Fr}{w w' :World}{e:Ending}(h:zba rv L w e w'):zba rv L w e w'.drew:=by
 obtain⟨rv',h1,h2,h3,h4⟩:=h
 exact⟨rv',h1,h2,h3,h4.drew⟩
theorem Yq.at {ra:Option Addr}{n rc k:Nat}{L:List Fr}{w wr:World}(h:Yq ra n rc L w (k+1) wr):∃(g:Nat) (x:Fr),ra=some ⟨g,0,none⟩∧x∈L∧(∀j,wr.frozen? ⟨g,j,none⟩=false)∧wr.cell? ⟨g,k*2,none⟩=some (.slice x.a (foLen x.f) x.cap)∧wr.cell? ⟨g,k*2+1,none⟩=some (.int .i64 x.p)∧k+1≤n∧n≤rc∧
 ((x.p+1<(foLen x.f:Int)→zba (.slice (some ⟨g,0,none⟩) n rc) L w (.returned (.slice (some ⟨g,0,none⟩) (k+1) rc)) (wr.setCell ⟨g,k*2+1,none⟩ (.int .i64 (x.p+1))))∧(¬x.p+1<(foLen x.f:Int)→Yq (some ⟨g,0,none⟩) n rc L w k (wr.setCell ⟨g,k*2+1,none⟩ (.int .i64 (x.p+1))))):=by
 obtain⟨A,R,h1,h2,h3,h4,h5,h6⟩:=h
 obtain⟨g,cap,e,hcap⟩:=h5.form om
 cases e
 cases A with
 | nil=>simp at h1
 | cons x A=>
   have hA:A.length=k:=by simpa using h1
   have hx:((x::A).reverse++R)[k]? =some x:=by
    rw[List.reverse_cons,List.append_assoc,List.getElem?_append_right (by simp[hA])];simp[hA]
   have hc:=YG _ k x hx
   have hst:=(h5.stored (k*2+1) (.int .i64 (x.p+1))).1
   rw[Jd _ k x _ hx] at hst
   have hset:((x::A).reverse++R).set k ⟨x.a,x.cap,x.f,x.p+1⟩=(⟨x.a,x.cap,x.f,x.p+1⟩::A).reverse++R:=by
    rw[List.reverse_cons,List.reverse_cons,List.append_assoc,List.append_assoc,List.set_append_right _ _ (by simp[hA])]
    simp[hA]
   rw[hset] at hst
   have hb:(fun y=>(Value.slice (some ⟨g,0,none⟩) n rc).ownBlock=some y)=fun y=>y=g:=by
    funext y;simp[Value.ownBlock];exact eq_comm
   have ht:zo w (wr.setCell ⟨g,k*2+1,none⟩ (.int .i64 (x.p+1))) (fun y=>(Value.slice (some ⟨g,0,none⟩) n rc).ownBlock=some y):=by
    rw[hb] at h6 ⊢
    exact h6.trans (zo.setCell (S:=fun y=>y=g) (a:=⟨g,_,none⟩) rfl _) (fun y hy=>Or.inl hy)
   have hrc:n≤rc:=by
    rcases h5.2 with ⟨hv,hn⟩ | ⟨g',cap',cur,hv,hB,hh,h3',_⟩
    · cases hv
    · cases hv;exact h3'
   refine⟨g,x,rfl,h4 x sp1,fun j=>h5.frozenAt j,zC h5 rfl _ _ hc.1,zC h5 rfl _ _ hc.2,by omega,hrc,fun hl=>?_,fun hl=>?_⟩
   · have e:yN L=⟨x.a,x.cap,x.f,x.p+1⟩::A:=by rw[←h3,yN,ipQ hl]
     refine⟨_,rfl,?_,Or.inl rfl,ht⟩
     unfold qo
     rw[e]
     rw[List.flatMap_append] at hst
     have:=zep (j:=k+1) hst (by rw[zcL,List.length_reverse,LlcQ,hA]) om
     rw[LlcQ,hA]
     exact this
   · refine⟨A,⟨x.a,x.cap,x.f,x.p+1⟩::R,hA,by rw[LlcQ];omega,by rw[←h3,yN,inQ hl],fun y hy=>h4 y (by simp[hy]),?_,ht⟩
     rw[List.reverse_cons,List.append_assoc] at hst
     exact hst
theorem Yq.end {ra:Option Addr}{n rc:Nat}{L:List Fr}{w wr:World}(h:Yq ra n rc L w 0 wr):zba (.slice ra n rc) L w (.returned (.slice none 0 0)) wr:=by
 obtain⟨A,R,h1,h2,h3,h4,h5,h6⟩:=h
 rw[List.length_eq_zero_iff.1 h1] at h3
 refine⟨_,rfl,?_,Or.inr rfl,h6⟩
 rw[←h3]
 exact World.ownsRow_nil _ _ _ _
theorem zc5 (w:World)(rv:Value)(L:List Fr)(h:qo w rv L)(hL:L.length≤1000000)(hx:∀x∈L, -1≤x.p∧x.p≤1000000000):Calls Try.prog 130 #[rv] w (zba rv L w):=by
 obtain⟨ra,rc,rfl⟩:=zt h
 obtain⟨n,hn⟩:∃n,n=L.length:=⟨_,rfl⟩
 have HS:Hid (Yq ra n rc L w n w):=hH ⟨L,[],hn.symm,by simp,rfl,fun x hx=>hx,by rw[List.append_nil,hn];exact h,by rw[hn];exact zo.refl _ _⟩
 have HX:=hH hx
 rw[←hn] at hL ⊢
 clear h hx hn
 go_enter Try.func130,Try.ntmps130
 go_wp2_with fail
 go_loopw [3] (fun i wr=>∃j:Nat,j≤n∧i= .int .i64 ((j:Int) - 1)∧Hid (Yq ra n rc L w j wr)) (fun i _=>(intOf i+1).toNat)
 case atStart=>exact⟨n,NlrQ _,rfl,HS⟩
 case round=>
  obtain⟨j,hj,rfl,hh⟩:=hrel
  clear HS
  cases j with
  | zero=>
    have HE:=hH hh.out.end
    clear hh
    have hz:((0:Nat):Int) - 1= -1:=by omega
    rw[hz]
    go_wp2_with fail
    go_ret
    exact HE.out
  | succ k=>
    obtain⟨g,x,rfl,hxL,fz,c0,c1,hkn,hnr,hy,hno⟩:=hh.out.at
    have hxp:=HX.out x hxL
    obtain⟨xa,xc,xf,p⟩:=x
    obtain⟨q,hq⟩:∃q,q=foLen xf:=⟨_,rfl⟩
    simp only at c0 c1 hy hno hxp
    rw[←hq] at c0 hy hno
    have hk1:((k+1:Nat):Int) - 1=(k:Int):=by omega
    rw[hk1]
    have hkl:(k:Int)<(n:Int):=by omega
    have hkl1:(k:Int)+1≤(n:Int):=by omega
    have hp1:IntKind.i64.wrap (p+1)=p+1:=IntWalk.i64_in _ om
    have HXP:=hH (aN hxp (aN hj hkn))
    by_cases hlt:p+1<(q:Int)
    · have HY:=hH (hy hlt)
      clear hy hno hh hxp hj hk1 hkn
      go_wp2_with fail
      go_region
      all_goals
       go_wp2_with fail
       go_ret
       exact HY.out.drew
    · have HY:=hH (hno hlt)
      clear hy hno hh hxp hj hk1 hkn
      go_wp2_with fail
      go_region
      all_goals
       go_wp2_with fail
       go_roundw
       case rel=>exact⟨k,by have:=HXP.out.2.2;omega,by go_num,hH HY.out.drew⟩
       case measure=>simp[intOf]
end Go.Proofs.Ytnikgofkldkdkaa
namespace Go.Proofs.Ytnikgofkldkdkaa
open Go.RowKit Go.Shelf
structure vH (w:World) (S:Nat→Prop) (t:Tr) (T:Nat→Prop) (rv:Value) (L:List Fr):Prop where
 rows:qo w rv L
 own:∀g,rv.ownBlock=some g→T g
 ok:∀y∈L,y.ok
 lies:∀y∈L,zk w S y.f y.a∧foLen y.f≤y.cap
 chain:qV (zh t) L
 apart:∀y,T y→y<w.heap.size∧¬S y
 few:L.length+jJ L≤za t.kids+2
 sl:∀y,S y→y<w.heap.size
structure zg4 (w:World) (S:Nat→Prop) (t:Tr) (T:Nat→Prop) (rv:Value) (L:List Fr):Prop where
 rows:qo w rv L
 own:∀g,rv.ownBlock=some g→T g
 p:∀y∈L, -1≤y.p∧y.p≤(foLen y.f:Int)
 ok:∀y∈L.tail,y.ok
 lies:∀y∈L,zk w S y.f y.a∧foLen y.f≤y.cap
 chain:qV (zh t) L
 apart:∀y,T y→y<w.heap.size∧¬S y
 few:L.length+Qm L≤za t.kids+2
 sl:∀y,S y→y<w.heap.size
theorem Zf {root:Fo}:∀(L:List Fr),qV root L→∀x∈L,foLen x.f≤za root
 | [],_,_,h=>by cases h
 | [x],h,y,hy=>by
   rw[List.mem_singleton] at hy;subst hy
   rw[qV] at h;rw[h];exact zM _
 | x :: z :: r,h,y,hy=>by
   rcases List.mem_cons.1 hy with rfl | hy
   · obtain ⟨_,u,hu,he⟩:=h.1
     have h1 : ∀(L:List Fr),qV root L→∀x∈L,za x.f≤za root:=by
      intro L
      induction L with
      | nil=>intro _ x hx;cases hx
      | cons a L ih=>
        intro hL x hx
        cases L with
        | nil=>rw[List.mem_singleton] at hx;subst hx;rw[qV] at hL;rw[hL];exact NlrQ _
        | cons b L=>
          rcases List.mem_cons.1 hx with rfl | hx
          · obtain⟨_,v,hv,hf⟩:=hL.1
            have h2:=ih hL.2 b sp1
            have h3:=ZM hv
            have h4:∀(j:Nat) (f:Fo),za (zm j f)≤za f:=by
             exact sf8
            have h5:=h4 b.p.toNat b.f
            rw[hf];omega
          · exact ih hL.2 x hx
     have h2:=h1 (y::z::r) h y sp1
     have:=zM y.f
     omega
   · exact Zf (z::r) h.2 y hy
theorem vH.kept {w w' :World}{S T:Nat→Prop}{t:Tr}{rv:Value}{L:List Fr}(h:vH w S t T rv L)(hs:w.heap.size≤w'.heap.size)(hT:∀y,T y→w'.heap[y]? =w.heap[y]?)(hS:∀y,S y→w'.heap[y]? =w.heap[y]?):vH w' S t T rv L:=
 ⟨h.rows.kept fun g hg=>hT g (h.own g hg),h.own,h.ok,fun y hy=>⟨(h.lies y hy).1.kept fun k hk=>⟨hk,hS k hk⟩,(h.lies y hy).2⟩,h.chain,fun y hy=>⟨nL (h.apart y hy).1 hs,(h.apart y hy).2⟩,h.few,fun y hy=>nL (h.sl y hy) hs⟩
theorem zg4.next {w w' :World}{S T:Nat→Prop}{t:Tr}{rv rv' :Value}{L:List Fr}(h:zg4 w S t T rv L)(h1:qo w' rv' (yN L))(h2:rv'.ownBlock=rv.ownBlock∨rv'.ownBlock=none)(h3:zo w w' (fun x=>rv.ownBlock=some x)):vH w' S t T rv' (yN L):=by
 have hp:∀x∈L, -1≤x.p:=fun x hx=>(h.p x hx).1
 refine⟨h1,fun g hg=>?_,zc3 L hp h.ok,zbq (fun a c f=>zk w' S f a∧foLen f≤c) L (fun y hy=>⟨(h.lies y hy).1.kept fun k hk=>⟨hk,h3.block k (h.sl k hk) (fun e=>(h.apart k (h.own k e)).2 hk)⟩,(h.lies y hy).2⟩),Jh L h.chain,fun y hy=>⟨nL (h.apart y hy).1 h3.size,(h.apart y hy).2⟩,?_,fun y hy=>nL (h.sl y hy) h3.size⟩
 · rcases h2 with e | e
   · exact h.own g (e▸hg)
   · rw[e] at hg;cases hg
 · have:=Qq L
   have:=YK L hp
   have:=h.few
   omega
theorem vH.here {w:World}{S T:Nat→Prop}{t:Tr}{rv:Value}{x:Fr}{r:List Fr}(h:vH w S t T rv (x::r)):∃(g cap n p:Nat) (u:Tr) (b off:Nat) (ka:Option Addr) (kc:Nat),rv= .slice (some ⟨g,0,none⟩) (n+1) cap∧n=r.length∧n≤za t.kids+1∧(n:Int)+1≤cap∧T g∧w.cell? ⟨g,n*2,none⟩=some (.slice x.a (foLen x.f) x.cap)∧w.cell? ⟨g,n*2+1,none⟩=some (.int .i64 (p:Int))∧x.p=(p:Int)∧p<foLen x.f∧foLen x.f≤za t.kids+1∧
 zB x.f x.p.toNat=some u∧x.a=some ⟨b,off,none⟩∧S b∧w.cell? ⟨b,off+p*4,none⟩=some (.int .i64 u.id)∧w.cell? ⟨b,off+p*4+3,none⟩=some (.slice ka (foLen u.kids) kc)∧foLen u.kids≤kc∧zk w S u.kids ka:=by
 have hok:=h.ok x sp1
 obtain⟨ra,rc,rfl⟩:=zt h.rows
 obtain⟨g,rfl,hn,c0,c1,_⟩:=qo.at h.rows (k:=r.length) (x:=x) (by rw[List.reverse_cons,List.getElem?_append_right sp1];simp)
 have hl:=Zf _ h.chain x sp1
 rw[yH] at hl
 have hf:=h.few
 have hcap:(r.length:Int)+1≤rc:=by
  rcases h.rows.2 with ⟨hv,_⟩ | ⟨_,_,_,hv,_,_,h3,_⟩
  · cases hv
  · cases hv;simp only[LlcQ] at h3;omega
 obtain⟨b0,o0,key,l,q,hd,b,off,ka,kc,ha,hSb,d0,_,_,d3,hkc,hk⟩:=(h.lies x sp1).1.at x.p.toNat (by have:=hok.1;have:=hok.2;omega)
 have hp:x.p=(x.p.toNat:Int):=by have:=hok.1;omega
 rw[hp] at c1
 refine⟨g,rc,r.length,x.p.toNat,⟨key.1,key.2.1,key.2.2,l⟩,b,off,ka,kc,by rw[LlcQ],rfl,?_,hcap,h.own g rfl,c0,c1,hp,by have:=hok.2;omega,by omega,by rw[zB,hd];rfl,ha,hSb,d0,d3,hkc,hk⟩
 have h9:1≤jJ (x::r):=by
  rw[jJ,hd];simp only[za];omega
 simp only[LlcQ] at hf;omega
theorem vH.push {w w3:World}{S T T3:Nat→Prop}{t:Tr}{rv rv3:Value}{x:Fr}{r:List Fr}{u:Tr}{ka:Option Addr}{kc:Nat}(h:vH w S t T rv (x::r))(hu:zB x.f x.p.toNat=some u)(hk:zk w S u.kids ka)(hkc:foLen u.kids≤kc)(hs:w.heap.size≤w3.heap.size)(hS:∀y,S y→w3.heap[y]? =w.heap[y]?)
 (hr:w3.ownsRow 0 168 2 rv3 (r.length+1+1) ((x::r).reverse.flatMap Fr.cells++[.slice ka (foLen u.kids) kc,.int .i64 (-1)])) (ho:∀g,rv3.ownBlock=some g→T3 g) (hT:∀y,T3 y→y<w3.heap.size∧¬S y):zg4 w3 S t T3 rv3 (⟨ka,kc,u.kids, -1⟩::x::r):=by
 have hok:=h.ok x sp1
 refine⟨?_,ho,fun y hy=>?_,h.ok,fun y hy=>?_,⟨⟨hok.1,u,hu,rfl⟩,h.chain⟩,hT,?_,fun y hy=>nL (h.sl y hy) hs⟩
 · unfold qo
   rw[List.reverse_cons,List.flatMap_append]
   exact hr
 · rcases List.mem_cons.1 hy with rfl | hy
   · exact⟨by simp,by simp only;omega⟩
   · have:=h.ok y hy;exact⟨by have:=this.1;omega,by have:=this.2;omega⟩
 · rcases List.mem_cons.1 hy with rfl | hy
   · exact⟨hk.kept fun k hk=>⟨hk,hS k hk⟩,hkc⟩
   · exact⟨(h.lies y hy).1.kept fun k hk=>⟨hk,hS k hk⟩,(h.lies y hy).2⟩
 · have h1:=zau (a:=ka) (c:=kc) (r:=r) hok hu
   have h2:=h.few
   simp only[LlcQ] at h2 ⊢
   omega
end Go.Proofs.Ytnikgofkldkdkaa
namespace Go.Proofs.Ytnikgofkldkdkaa
open Go.RowKit
theorem Try.Qi:(Try.prog.info? 27).map (fun i=>(i.size,i.bytes,i.zero.map (fun z=>z.cells.size)))=some (4,56,some 4):=by kernel_rfl
def zjJ (w:World)(t:TypeId)(size n:Nat)(xs:List Value)(e:Ending)(w' :World):Prop:=∃v',e= .returned v'∧Below w.heap.size w w'∧w'.ownsRow w.heap.size t size v' n xs
theorem Try.zfZ (w:World)(a:Option Addr)(n c:Nat):(binOp .eql 25 (.slice a n c) (.slice none 0 0)).run Try.prog w= .ok (.bool a.isNone) w:=Lib.run_eql_slice_nil w _ _ a n c 0 0 Try.underlying25
theorem kz (w:World)(a:Option Addr)(n cap:Nat)(xs:List Value)(hl:xs.length=n*4)(h1:∀u∈xs,u.oneCell'=true)(hn:n≤1000000)(hc:∀ad,a=some ad→∀j u,xs[j]? =some u→w.cell? (ad.add j)=some u)(h0:a=none→n=0):
 Calls Try.prog 57 #[.slice a n cap] w (zjJ w 27 4 n xs):=by
 have hq:=Try.zfZ
 cases a with
 | none=>
   have hn0:=h0 rfl
   subst hn0
   have hx:xs= []:=List.eq_nil_of_length_eq_zero (by simpa using hl)
   subst hx
   clear hl h1 hn hc h0
   go_enter Try.func57,Try.ntmps57
   go_wp2_with fail
   go_ret
   exact⟨_,rfl,BrQ _ _,World.ownsRow_nil _ _ _ _⟩
 | some ad=>
   have HC:=hH (aN hl (aN h1 (hc ad rfl)))
   obtain⟨i0,z0,hi0,hz0,hz1,hz2,hz3⟩:=zW Try.Qi
   have HI:=hH (aN hi0 (aN hz0 (aN hz1 (aN hz2 hz3))))
   clear hl h1 hc h0 hi0 hz0 hz1 hz2 hz3
   go_enter Try.func57,Try.ntmps57
   go_wp2_with (at_builtin;refine wpList_append_own_at _ rfl (.tmp 5) (.tmp 6) _ rfl w.heap.size 27 i0 z0 4 56 Try.underlying25 HI.out.1 HI.out.2.1 HI.out.2.2.1 HI.out.2.2.2.1 HI.out.2.2.2.2 om (.slice (some ⟨w.heap.size,0,none⟩) 0 0) 0 [] rfl (World.ownsRow_made w #[] 0 (NlrQ _) ue1 rfl) ad n cap xs rfl HC.out.1 (fun j u hj=>Lib.cell?_alloc_some _ (HC.out.2.2 j u hj)) HC.out.2.1 ue1 om sp1 ?_;intro v' w1 hown hgrow _ hat)
   go_ret
   have hs:=hgrow.size
   rw[WsaQ] at hs
   exact⟨_,rfl,⟨hgrow.os,hgrow.tape,hgrow.output,by omega,fun x hx=>by
    rw[hgrow.block x (by rw[WsaQ];omega) (by simp[Value.ownBlock];omega),BhaQ _ _ _ hx]⟩,by rw[Nat.zero_add,List.nil_append] at hown;exact hown⟩
end Go.Proofs.Ytnikgofkldkdkaa
