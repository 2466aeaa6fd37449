/-
  .
-/
import Derived.Test.YtgkmmnihaiopaaaGreatEEachQv
set_option maxRecDepth 100000
set_option maxHeartbeats 40000000
set_option linter.unusedVariables false
set_option linter.unusedSimpArgs false
namespace Go.Proofs.YtgkmmnihaiopaaaGreat
open Go.RowKit
def Book (B:Nat)(r:Loop)(W:World):Prop:=W.heap[B+1]? =some (.loop r)∧W.heap[B]? =some (.deferred (some []))
theorem Book.put {B:Nat}{r r' :Loop}{W:World}(h:Book B r W):Book B r' (W.putObj (B+1) (.loop r')):=
 ⟨World.putObj_heap_same (Array.getElem?_eq_some_iff.1 h.1).1,(WphQ om).trans h.2⟩
theorem Book.kept {B:Nat}{r:Loop}{W V:World}(h:Book B r W)(hk:KeepsFrom B W V):Book B r V:=⟨hk.same _ _ om h.1 rfl,hk.same _ _ (NlrQ _) h.2 rfl⟩
theorem Book.touched {B:Nat}{r:Loop}{W V:World}{T:Nat→Prop}(h:Book B r W)(ht:zh W V T)(hT:∀x,T x→B+2≤x):Book B r V:=
 ⟨(ht.block _ (lohQ h.1) (fun e=>by have:=hT _ e;omega)).trans h.1,(ht.block _ (lohQ h.2) (fun e=>by have:=hT _ e;omega)).trans h.2⟩
def vU (V:World)(x:Nat):Prop:=∃o,V.heap[x]? =some o∧o.isCells=false
def zkn (B:Nat)(T:Nat→Prop)(I:(Nat→Prop)→List Seg→World→Prop)(Ix:Code→(Nat→Prop)→World→Prop)(d c b off:Nat)(k r:Fo)(A:List Seg)(W:World)(e:Exit)(_:Act)(V:World):Prop:=
 KeepsFrom B W V∧Kept T W V∧((e= .normal∧∃ka kc,V.cell? ⟨b,off+3,none⟩=some (.slice ka (foLen k) kc)∧foLen k≤kc∧I T (⟨d+1,ka,kc,k⟩::⟨d,some ⟨b,off+4,none⟩,c - 1,r⟩::A) V)∨(e= .ret∧Ix .ret T V)∨∃id,e= .exit id∧Ix (.exit id) T V)
theorem qj {V:World}{l:Nat}{o:Obj}(o' :Obj)(hl:V.heap[l]? =some o):zh V (V.putObj l o') (fun x=>x=l):=
 ⟨rfl,rfl,rfl,by simp[World.putObj],fun x _ hn=>WphQ hn⟩
theorem zh.mono {w w' :World}{S S' :Nat→Prop}(h:zh w w' S)(hS:∀x,S x→S' x):zh w w' S':=⟨h.os,h.tape,h.output,h.size,fun x hx hn=>h.block x hx (fun hs=>hn (hS x hs))⟩
theorem Qr {T:Nat→Prop}{V:World}{l:Nat}(o' :Obj)(hT:¬T l):Kept T V (V.putObj l o'):=⟨by simp[World.putObj],fun x hx=>WphQ (fun e=>hT (e▸hx))⟩
theorem ze7 {n:Nat}{g:Operand}{ps:Array Tmp}{assign body:Code}{Q:Exit→Act→World→Prop}{a:Act}{w:World}(h1:1≤n){NB:Nat}(hg:a.eval g= .func (.func 66) #[] #[.pointer (some ⟨NB,0,none⟩)])
 (s:Seg) (hd:s.d=1) (hne:s.f≠ .nil) (hcap:foLen s.f≤s.cap) (hsz:zb s.f≤500000) (hNB:w.cell? ⟨NB,0,none⟩=some s.v) (hps:ps.size=2)
 (I:(Nat→Prop)→List Seg→World→Prop) (Ix:Code→(Nat→Prop)→World→Prop)
 (hI:∀{T T' :Nat→Prop} {A:List Seg} {V V' :World},I T A V→zh V V' (fun x=>T x∨(w.heap.size≤x∧vU V x))→kG T T' V V'→I T' A V')
 (hIx:∀{c:Code} {T T' :Nat→Prop} {V V' :World},Ix c T V→zh V V' (fun x=>T x∨(w.heap.size≤x∧vU V x))→kG T T' V V'→Ix c T' V')
 (hIe:∀{T:Nat→Prop} {A B:List Seg} {d c:Nat} {a:Option Addr} {V:World},I T (A++⟨d,a,c,.nil⟩::B) V→I T (A++B) V)
 (h0:I (fun _=>False) [s] w)
 (hround:∀(l:Nat),l=w.heap.size+1→∀(T:Nat→Prop) (d c bo oo:Nat) (ad:Option Addr) (key:Int×Int×ByteArray) (k r:Fo) (A:List Seg) (V:World),(∀x,T x→x<V.heap.size∧w.heap.size+2≤x)→w.heap.size+2≤V.heap.size→I T (⟨d,ad,c,.node bo oo key k r⟩::A) V→
   ∃ b off,ad=some ⟨b,off,none⟩∧∀(K:Act→World→Prop),(∀a₁,(∀V',(∃o',V'=V.putObj l o'∧∃o,V.heap[l]? =some o∧o.isCells=false)→body.wpIn (Fence.wide.inRound l) (n - 1 - 1) Tryz.prog (zkn w.heap.size T I Ix d c b off k r A V') a₁ V')→K a₁ V)→
    assign.wpIn (Fence.wide.inRound l) (n - 1 - 1) Tryz.prog (Exit.then K (fun _ _ _=>False)) { tmps:=(ps.zip #[.int .i64 (d:Int),.pointer (some ⟨b,off,none⟩)]).foldl (fun t (p,v)=>t.setIfInBounds p v) a.tmps,defers:=[] } V)
 (hdone:∀(D:Nat) (T:Nat→Prop) (V:World),w.heap.size≤D→I T [] V→V.heap[D]? =some (.deferred (some []))→Q .normal { a with defers:={ target:= .collected D,args:= #[] }::a.defers } V)
 (hstop:∀(D:Nat) (c:Code) (T:Nat→Prop) (V:World),w.heap.size≤D→Ix c T V→V.heap[D]? =some (.deferred (some []))→c.wpIn Fence.wide n Tryz.prog Q { a with defers:={ target:= .collected D,args:= #[] }::a.defers } V):
 (Code.rangeFunc g ps assign body).wpIn Fence.wide n Tryz.prog Q a w:=by
 obtain⟨B,hB⟩:∃B,w.heap.size=B:=⟨_,rfl⟩
 simp only[hB] at hI hIx hround hdone hstop
 refine wpIn_rangeFunc fun fn hfn=>?_
 obtain⟨rec,hrec⟩:∃rec:LoopState→Option Code→Loop,rec=fun st pe=>{ state:=st,pending:=pe,fn,tmps:=a.tmps,params:=ps,assign,body,defers:=B }:=⟨_,rfl⟩
 obtain⟨W1,hW1⟩:∃W1,W1=(w.alloc (.deferred (some []))).alloc (.loop (rec .ready none)):=⟨_,rfl⟩
 have hsz1:W1.heap.size=B+2:=by rw[hW1];simp[hB]
 have hblk:∀x,x<B→W1.heap[x]? =w.heap[x]?:=fun x hx=>by rw[hW1,BhaQ _ _ _ ug5,BhaQ _ _ _ om]
 have hbk:Book B (rec .ready none) W1:=by
  exact sc7
 have hb1:zh w W1 (fun _=>False):=by rw[hW1];exact ((zh.refl w _).alloc _).alloc _
 have hI1:I (fun _=>False) [s] W1:=hI h0 (hb1.mono (fun _ h=>h.elim)) (fun x hx=>Or.inl hx)
 have hNBl:=World.block_lt_of_cell? _ _ hNB
 have hNB1:W1.cell? ⟨NB,0,none⟩=some s.v:=(World.cell?_of_block (hblk NB (by simp only at hNBl;omega))).trans hNB
 refine⟨B+1,[{ target:= .collected B,args:= #[] }],W1,{ target:= .fn (.func 66) #[.pointer (some ⟨NB,0,none⟩)],args:= #[.func (.yield (B+1)) #[] #[]] },W1,66, #[.func (.yield (B+1)) #[] #[]]++ #[.pointer (some ⟨NB,0,none⟩)],W1,?_,?_,?_,?_,fun _=>h1,?_⟩
 · exact ua1
 · simp only[resolve,hg]
   simp[go_sem]
 · exact ua2
 · simp[invoke,go_sem]
 · obtain ⟨J,hJ⟩:∃J:(Nat→Prop)→List Seg→World→Prop,J=fun T A V=>I T A V∧Book B (rec .ready none) V∧∀x,T x→B+2≤x:=⟨_,rfl⟩
   obtain⟨Jx,hJx⟩:∃Jx:(Nat→Prop)→World→Prop,Jx=fun T V=>∃c,Ix c T V∧Book B (rec .done (some c)) V∧∀x,T x→B+2≤x:=⟨_,rfl⟩
   have hbody:Body Tryz.prog (n - 1 - 1) (B+1) J Jx:=by
    subst hJ hJx
    refine⟨?_,?_,?_,?_⟩
    · rintro T T' A V V' ⟨j1,j2,j3⟩ ht hw
      exact si7
    · rintro T T' V V' ⟨c,j1,j2,j3⟩ ht hw
      have hs:=lohQ j2.1
      exact⟨c,hIx j1 (ht.mono (fun x hx=>Or.inl hx)) hw,j2.touched ht j3,fun x hx=>(hw x hx).elim (j3 x) (fun h=>by omega)⟩
    · rintro T A A' d c ad V ⟨j1,j2⟩
      exact⟨hIe j1,j2⟩
    · rintro T d c bo oo ad key k r A V hT ⟨j1,j2,j3⟩
      obtain⟨b,off,e,hr⟩:=hround (B+1) rfl T d c bo oo ad key k r A V (fun x hx=>⟨hT x hx,j3 x hx⟩) (by have:=lohQ j2.1;omega) j1
      refine⟨b,off,e,?_⟩
      have hTl:¬T (B+1):=fun h=>by have:=j3 _ h;omega
      have hy:=run_yield (P:=Tryz.prog) (args:= #[.int .i64 (d:Int),.pointer (some ⟨b,off,none⟩)]) j2.1 ue6
      rw[hrec] at hy
      refine⟨fn,_,assign,body,hy,roundIn_of_wpIn hfn (hr _ fun a₁ hb=>?_)⟩
      refine⟨_,run_beginRound j2.1 (by rw[hrec]),?_⟩
      have hb2:Book B { rec .ready none with state:= .busy } (V.putObj (B+1) (.loop { rec .ready none with state:= .busy })):=j2.put
      refine wpIn_mono (hb _ ⟨_,rfl,_,j2.1,rfl⟩) ?_
      rintro e3 a3 U ⟨hkU,hkT,hp⟩
      have hb3:=hb2.kept hkU
      have fin:=fun jump=>run_endRound (P:=Tryz.prog) jump hb3.1
      rw[hrec] at fin hb3
      have hall:∀o',Kept T V (U.putObj (B+1) o'):=fun o'=>((Qr _ hTl).trans hkT).trans (Qr _ hTl)
      have htp:∀o',zh U (U.putObj (B+1) o') (fun x=>T x∨(B≤x∧vU U x)):=fun o'=>(qj o' hb3.1).mono (fun x hx=>Or.inr ⟨by omega,by rw[hx];exact⟨_,hb3.1,rfl⟩⟩)
      rcases hp with ⟨rfl,ka,kc,c1,c2,hi3⟩ | ⟨rfl,hi3⟩ | ⟨id,rfl,hi3⟩
      · refine⟨_,_,fin none,hall _,.inl ⟨rfl,ka,kc,?_,c2,hI hi3 (htp _) (fun x hx=>Or.inl hx),?_,j3⟩⟩
        · refine (World.cell?_of_block (WphQ fun e4=>?_)).trans c1
          have h5:U.cell? ⟨B+1,off+3,none⟩=none:=by simp[World.cell?,hb3.1]
          simp only at e4
          rw[e4,h5] at c1;cases c1
        · rw[hrec];exact hb3.put
      · refine⟨_,_,fin (some .ret),hall _,.inr ⟨rfl,.ret,hIx hi3 (htp _) (fun x hx=>Or.inl hx),?_,j3⟩⟩
        rw[hrec];exact hb3.put
      · refine⟨_,_,fin (some (.exit id)),hall _,.inr ⟨rfl,.exit id,hIx hi3 (htp _) (fun x hx=>Or.inl hx),?_,j3⟩⟩
        rw[hrec];exact hb3.put
   have hstart:J (fun _=>False) [s] W1:=by rw[hJ];exact⟨hI1,hbk,fun _ h=>h.elim⟩
   refine (callsIn_wide.2 (zhL hbody W1 NB s hd hne hcap hsz hNB1 hstart)).mono ?_
   rintro e W2 ⟨⟨v,rfl⟩,(⟨T,hj⟩ | ⟨T,hj⟩)⟩
   · rw[hJ] at hj
     exact se1
   · rw[hJx] at hj
     obtain⟨c,hi,hb,hT⟩:=hj
     have:=run_endLoop (P:=Tryz.prog) hb.1 ug4
     rw[hrec] at this
     exact⟨some c,_,this,hstop B c T _ (NlrQ _) (hIx hi ((qj _ hb.1).mono (fun x hx=>Or.inr ⟨by omega,by rw[hx];exact⟨_,hb.1,rfl⟩⟩)) (fun x hx=>Or.inl hx)) ((WphQ om).trans hb.2)⟩
theorem ziT (w:World)(a:Option Addr)(n c:Nat):Calls Tryz.prog 46 #[.slice a n c] w fun e w'=>e= .returned (.func (.func 66) #[] #[.pointer (some ⟨w.heap.size,0,none⟩)])∧w'=w.alloc (.cells #[.slice a n c] 25):=by
 have hmf:∀(fn:Fn) (first cap:Array Value) (w:World),(Instr.makeFunc fn first cap).run Tryz.prog w= .ok (.func fn first cap) w:=fun _ _ _ _=>rfl
 go_enter Tryz.func46,Tryz.ntmps46
 go_wp2_with fail
 go_ret
 exact⟨rfl,rfl⟩
abbrev Sp:=Nat×(Int×Int×ByteArray)×Fo
def spF:Nat→Fo→List Sp
 | _,.nil=>[]
 | d,.node _ _ k l r=>(d,k,l)::(spF (d+1) l++spF d r)
theorem qM:∀(d:Nat) (f:Fo),(spF d f).length=zb f
 | _,.nil=>rfl
 | d,.node _ _ k l r=>by simp[spF,zb,qM (d+1) l,qM d r]
end Go.Proofs.YtgkmmnihaiopaaaGreat
namespace Go.Proofs.YtgkmmnihaiopaaaGreat
open Go.RowKit Go.Shelf
attribute [local go_sem] Oper.semAt_some
def zm (t:Tr):Fo:= .node 0 0 (t.id,t.kind,t.text) t.kids .nil
theorem yt (t:Tr):zb (zm t)=zb t.kids+1:=by simp[zm,zb]
theorem zbV {w W:World}{S:Nat→Prop}{nb cap:Nat}{ka:Option Addr}{t:Tr}(hS:∀x,S x→W.heap[x]? =w.heap[x]?)(hc:foLen t.kids≤cap)(hk:zt w S t.kids ka)(hb:W.heap[nb]? =some (.cells #[.int .i64 t.id,.int .i64 t.kind,.string t.text,.slice ka (foLen t.kids) cap] 27 (0,0))):zt W (fun x=>S x∨x=nb) (zm t) (some ⟨nb,0,none⟩):=
 ⟨nb,0,ka,cap,rfl,Or.inr rfl,by rw[corQ _ _ 0 _ _ _ hb];rfl,by rw[corQ _ _ 1 _ _ _ hb];rfl,by rw[corQ _ _ 2 _ _ _ hb];rfl,by rw[corQ _ _ 3 _ _ _ hb];rfl,hc,hk.kept fun x hx=>⟨Or.inl hx,hS x hx⟩,True.intro⟩
end Go.Proofs.YtgkmmnihaiopaaaGreat
namespace Go.Proofs.YtgkmmnihaiopaaaGreat
open Go.RowKit
def fpi (id:Int):Nat→Fo→Option (List Nat)
 | _,.nil=>none
 | i,.node _ _ k l r=>if k.1=id then some [i] else match fpi id 0 l with
   | some p=>some (i::p)
   | none=>fpi id (i+1) r
def zA (id:Int)(t:Tr):Option (List Nat):=if t.id=id then some [] else fpi id 0 t.kids
def yZ:Fo→Option Tr
 | .nil=>none
 | .node _ _ k l _=>some ⟨k.1,k.2.1,k.2.2,l⟩
def zB (f:Fo)(j:Nat):Option Tr:=yZ (zq j f)
def atT:Tr→List Nat→Option Tr
 | t,[]=>some t
 | t,i::p=>match zB t.kids i with
   | none=>none
   | some u=>atT u p
theorem zct {f:Fo}{j:Nat}(h:j<foLen f):∃b o k l r,zq j f= .node b o k l r∧zB f j=some ⟨k.1,k.2.1,k.2.2,l⟩∧zq (j+1) f=r:=by
 obtain⟨b,o,k,l,r,h1,h2,_⟩:=zX j f h
 exact⟨b,o,k,l,r,h1,by rw[zB,h1];rfl,h2⟩
theorem zcs {f:Fo}{j:Nat}(h:foLen f≤j):zB f j=none:=by rw[zB,qK j f h];rfl
theorem yx {f:Fo}{j:Nat}{u:Tr}(h:zB f j=some u):j<foLen f:=by
 rcases Nat.lt_or_ge j (foLen f) with h1 | h1
 · exact h1
 · rw[zcs h1] at h;cases h
theorem zav {id:Int}{f:Fo}{j:Nat}(h:j<foLen f):∀{u:Tr},zB f j=some u→fpi id j (zq j f)=if u.id=id then some [j] else match fpi id 0 u.kids with
 | some p=>some (j::p)
 | none=>fpi id (j+1) (zq (j+1) f):=by
 intro u hu
 obtain⟨b,o,k,l,r,h1,h2,h3⟩:=zct h
 rw[h2] at hu;cases hu
 rw[h1,h3];rfl
theorem qH (f:Fo):zq 0 f=f:=by cases f<;>rfl
structure Fr where
 a:Option Addr
 cap:Nat
 f:Fo
 p:Int
def Fr.cells (x:Fr):List Value:=[.slice x.a (foLen x.f) x.cap,.int .i64 x.p]
def Fr.nx (x:Fr):Nat:=(x.p+1).toNat
def places (L:List Fr):List Nat:=L.reverse.map fun x=>x.p.toNat
def yH:List Fr→List Fr
 | []=>[]
 | x::r=>if x.p+1<(foLen x.f:Int) then ⟨x.a,x.cap,x.f,x.p+1⟩::r else yH r
def za6 (id:Int):List Fr→Option (List Nat)
 | []=>none
 | x ::r=>match fpi id x.nx (zq x.nx x.f) with
   | some q=>some (places r++q)
   | none=>za6 id r
def zf7 (id:Int):List Fr→Option (List Nat)
 | []=>none
 | x ::r=>match fpi id x.p.toNat (zq x.p.toNat x.f) with
   | some q=>some (places r++q)
   | none=>za6 id r
def Qs:List Fr→Nat
 | []=>0
 | x::r=>zb (zq x.nx x.f)+Qs r
def qV (root:Fo):List Fr→Prop
 | []=>True
 | [x]=>x.f=root
 | x::y::r=>(0≤y.p∧∃u,zB y.f y.p.toNat=some u∧x.f=u.kids)∧qV root (y::r)
def Fr.ok (x:Fr):Prop:=0≤x.p∧x.p<(foLen x.f:Int)
theorem qV.tail {root:Fo}{x:Fr}{r:List Fr}(h:qV root (x::r)):qV root r:=by
 cases r with
 | nil=>trivial
 | cons y r=>exact h.2
theorem QZ (id:Int):∀L:List Fr,(∀x∈L, -1≤x.p)→zf7 id (yH L)=za6 id L
 | [],_=>rfl
 | x ::r,h=>by
   have hx:=h x sp1
   by_cases hl:x.p+1<(foLen x.f:Int)
   · rw[yH,ipQ hl];rfl
   · rw[yH,inQ hl,QZ id r (fun y hy=>h y (by simp[hy])),za6]
     rw[qK x.nx x.f (by unfold Fr.nx;omega)];rfl
theorem Jp {root:Fo}:∀L:List Fr,qV root L→qV root (yH L)
 | [],_=>trivial
 | x ::r,h=>by
   by_cases hl:x.p+1<(foLen x.f:Int)
   · rw[yH,ipQ hl]
     cases r with
     | nil=>exact h
     | cons y r=>exact h
   · rw[yH,inQ hl];exact Jp r h.tail
theorem zdC:∀L:List Fr,(∀x∈L, -1≤x.p)→(∀x∈L.tail,x.ok)→∀x∈yH L,x.ok
 | [],_,_,_,h=>by cases h
 | x ::r,h1,h2,y,hy=>by
   by_cases hl:x.p+1<(foLen x.f:Int)
   · rw[yH,ipQ hl] at hy
     rcases List.mem_cons.1 hy with rfl | hy
     · exact⟨by have:=h1 x sp1;simp only;omega,hl⟩
     · exact h2 y hy
   · rw[yH,inQ hl] at hy
     exact zdC r (fun z hz=>h1 z (by simp[hz])) (fun z hz=>h2 z (List.mem_of_mem_tail hz)) y hy
theorem zbP (P:Option Addr→Nat→Fo→Prop):∀L:List Fr,(∀x∈L,P x.a x.cap x.f)→∀x∈yH L,P x.a x.cap x.f
 | [],_,_,h=>by cases h
 | x ::r,h,y,hy=>by
   by_cases hl:x.p+1<(foLen x.f:Int)
   · rw[yH,ipQ hl] at hy
     rcases List.mem_cons.1 hy with rfl | hy
     · exact h x sp1
     · exact h y (by simp[hy])
   · rw[yH,inQ hl] at hy
     exact zbP P r (fun z hz=>h z (by simp[hz])) y hy
theorem Qx:∀L:List Fr,(yH L).length≤L.length
 | []=>NlrQ _
 | x ::r=>by
   by_cases hl:x.p+1<(foLen x.f:Int)
   · rw[yH,ipQ hl];simp
   · rw[yH,inQ hl];have:=Qx r;simp;omega
theorem Yc {f:Fo}{j:Nat}{u:Tr}(h:zB f j=some u):zb (zq j f)=zb u.kids+zb (zq (j+1) f)+1:=by
 obtain⟨b,o,k,l,r,h1,h2,h3⟩:=zct (yx h)
 rw[h2] at h;cases h
 rw[h1,h3];simp[zb]
def jP:List Fr→Nat
 | []=>0
 | x::r=>zb (zq x.p.toNat x.f)+Qs r
theorem YW:∀L:List Fr,(∀x∈L, -1≤x.p)→jP (yH L)≤Qs L
 | [],_=>NlrQ _
 | x ::r,h=>by
   have hx:=h x sp1
   by_cases hl:x.p+1<(foLen x.f:Int)
   · rw[yH,ipQ hl]
     simp only[jP,Qs,Fr.nx]
     exact NlrQ _
   · rw[yH,inQ hl]
     have h1:=YW r (fun z hz=>h z (by simp[hz]))
     rw[Qs];omega
theorem zaP {x:Fr}{r:List Fr}{u:Tr}{a:Option Addr}{c:Nat}(hx:x.ok)(hu:zB x.f x.p.toNat=some u):Qs (⟨a,c,u.kids, -1⟩::x::r)+1=jP (x::r):=by
 have h1:=Yc hu
 have h2:x.nx=x.p.toNat+1:=by unfold Fr.nx;have:=hx.1;omega
 have h3:(Fr.mk a c u.kids (-1)).nx=0:=by unfold Fr.nx;simp
 simp only[jP,Qs,h2,h3,qH];omega
theorem zhF {id:Int}{x:Fr}{r:List Fr}{u:Tr}(hx:x.ok)(hu:zB x.f x.p.toNat=some u)(hid:u.id=id):zf7 id (x::r)=some (places (x::r)):=by
 rw[zf7,zav (yx hu) hu,ipQ hid]
 simp[places]
theorem zjX {id:Int}{x:Fr}{r:List Fr}{u:Tr}{a:Option Addr}{c:Nat}(hx:x.ok)(hu:zB x.f x.p.toNat=some u)(hid:¬u.id=id):zf7 id (x::r)=za6 id (⟨a,c,u.kids, -1⟩::x::r):=by
 rw[zf7,zav (yx hu) hu,inQ hid]
 have h2:x.nx=x.p.toNat+1:=by unfold Fr.nx;have:=hx.1;omega
 have h3:(Fr.mk a c u.kids (-1)).nx=0:=by unfold Fr.nx;simp
 simp only[za6,h2,h3,qH]
 cases h:fpi id 0 u.kids with
 | none=>rfl
 | some p=>simp[places]
theorem zc4 {t:Tr}{b o:Nat}:∀(L:List Fr),qV (.node b o (t.id,t.kind,t.text) t.kids .nil) L→(∀x∈L,x.ok)→∀x r,L=x::r→∃p u,places L=0::p∧atT t p=some u∧zB x.f x.p.toNat=some u
 | [x],h,hok,_,_,rfl=>by
   simp only[qV] at h
   have h1:=hok x sp1
   rw[Fr.ok,h] at h1
   simp only[foLen] at h1
   have h2:x.p=0:=by omega
   exact⟨[],t,by simp[places,h2],rfl,by rw[h,h2];rfl⟩
 | x :: y ::r,h,hok,_,_,rfl=>by
   obtain⟨p,u,h1,h2,h3⟩:=zc4 (y::r) h.2 (fun z hz=>hok z (by simp[hz])) y r rfl
   obtain⟨v,h4,h5⟩:=h.1.2
   rw[h3] at h4;cases h4
   have h6:=hok x sp1
   obtain⟨b',o',k,l,q,h7,h8,_⟩:=zct (f:=x.f) (j:=x.p.toNat) (by have:=h6.1;have:=h6.2;omega)
   refine⟨p++[x.p.toNat],_,?_,?_,h8⟩
   · rw[places,List.reverse_cons,List.map_append]
     have h9:=h1
     rw[places] at h9
     rw[h9];rfl
   · have e:∀(p:List Nat) (t:Tr) (u:Tr) (j:Nat),atT t p=some u→atT t (p++[j])=zB u.kids j:=by
      intro p
      induction p with
      | nil=>intro t u j h;cases h;simp[atT];cases zB t.kids j<;>rfl
      | cons i p ih=>
        intro t u j h
        simp only[List.cons_append,atT] at h ⊢
        cases hk:zB t.kids i with
        | none=>rw[hk] at h;cases h
        | some v=>rw[hk] at h;simp only at h ⊢;exact ih v u j h
     rw[e p t u _ h2,←h5];exact h8
theorem zdF (w:World)(b off n cap p:Nat)(hp:p<n)(hn:n≤1000000000):Calls Tryz.prog 121 #[.agg #[.slice (some ⟨b,off,none⟩) n cap,.int .i64 (p:Int)]] w fun e w'=>e= .returned (.pointer (some ⟨b,off+p*4,none⟩))∧Below w.heap.size w w':=by
 have hpl:(p:Int)<(n:Int):=by omega
 go_enter Tryz.func121,Tryz.ntmps121
 go_wp2_with fail
 go_ret
 exact⟨rfl,(BrQ _ _).alloc (NlrQ _) _⟩
theorem Y5 {P:Program}{ops:Array Oper}{C:World→Prop}{Q:Exit→Act→World→Prop}{l:List Oper}{a:Act}(h:∀QQ:Act→Prop,(∀a,(∀w',C w'→Q .normal a w')→QQ a)→wpQuiet P ops C QQ l a):wpQuiet P ops C (fun a'=>∀w',C w'→Q .normal a' w') l a:=h _ (fun _ h=>h)
theorem YP:∀(M:List Fr) (k:Nat) (s:Fr),M[k]? =some s→(M.flatMap Fr.cells)[k*2]? =some (.slice s.a (foLen s.f) s.cap)∧(M.flatMap Fr.cells)[k*2+1]? =some (.int .i64 s.p)
 | [],_,_,h=>by simp at h
 | x ::M,0,s,h=>by
   simp at h;subst h
   simp[Fr.cells]
 | x ::M,k+1,s,h=>by
   have:=YP M k s ug3
   rw[List.flatMap_cons]
   have e1:(k+1)*2=k*2+1+1:=by omega
   rw[e1]
   simpa [Fr.cells] using this
theorem zdi (L:List Fr):(L.flatMap Fr.cells).length=L.length*2:=by
 induction L with
 | nil=>rfl
 | cons s L ih=>rw[List.flatMap_cons,LlaQ,ih,LlcQ];simp[Fr.cells];omega
theorem Jm:∀(M:List Fr) (k:Nat) (s:Fr) (p:Int),M[k]? =some s→(M.flatMap Fr.cells).set (k*2+1) (.int .i64 p)=(M.set k ⟨s.a,s.cap,s.f,p⟩).flatMap Fr.cells
 | [],_,_,_,h=>by simp at h
 | x ::M,0,s,p,h=>by
   simp at h;subst h
   simp[Fr.cells]
 | x ::M,k+1,s,p,h=>by
   have:=Jm M k s p ug3
   rw[pgF,List.flatMap_cons,List.flatMap_cons,←this]
   have e1:(k+1)*2+1=k*2+1+1+1:=by omega
   rw[e1]
   simp[Fr.cells]
theorem ze4 {w:World}{B n j cap:Nat}{a:Option Addr}{e:TypeId}{xs ys:List Value}(h:w.ownsRow B e 2 (.slice a n cap) n (xs++ys))(hj:xs.length=j*2)(hjn:j≤n):w.ownsRow B e 2 (.slice a j cap) j xs:=by
 rcases h.2 with ⟨hv,hn⟩ | ⟨g',cap',cur,hv,hB,hh,h3,h4,h5,h6⟩
 · cases hv
   have:j=0:=by omega
   subst this
   rw[List.length_eq_zero_iff.1 (by omega:xs.length=0)]
   exact World.ownsRow_nil _ _ _ _
 · cases hv
   refine⟨hj,Or.inr ⟨g',cap,cur,rfl,hB,hh,by omega,h4,h5,?_⟩⟩
   have h7:(cur.toList.take (n*2)).take (j*2)=(xs++ys).take (j*2):=by rw[h6]
   rw[List.take_take,Nat.min_eq_left om] at h7
   rw[h7,List.take_left' hj]
def qo (w:World)(rv:Value)(L:List Fr):Prop:=w.ownsRow 0 154 2 rv L.length (L.reverse.flatMap Fr.cells)
theorem qo.kept {w w' :World}{rv:Value}{L:List Fr}(h:qo w rv L)(hk:∀g,rv.ownBlock=some g→w'.heap[g]? =w.heap[g]?):qo w' rv L:=zH h fun g _ _ hg=>hk g hg
theorem qo.at {w:World}{a:Option Addr}{n cap:Nat}{L:List Fr}(h:qo w (.slice a n cap) L){k:Nat}{x:Fr}(hx:L.reverse[k]? =some x):∃g,a=some ⟨g,0,none⟩∧n=L.length∧w.cell? ⟨g,k*2,none⟩=some (.slice x.a (foLen x.f) x.cap)∧w.cell? ⟨g,k*2+1,none⟩=some (.int .i64 x.p)∧(∀j,w.frozen? ⟨g,j,none⟩=false):=by
 have hk:k<L.length:=by have:=(List.getElem?_eq_some_iff.1 hx).1;rwa [List.length_reverse] at this
 have hn:n=L.length:=by
  rcases h.2 with ⟨hv,h0⟩ | ⟨g,cap,cur,hv,_⟩
  · omega
  · cases hv;rfl
 subst hn
 have hf:=h
 obtain⟨g,cap',e,_⟩:=World.ownsRow.form h om
 cases e
 obtain⟨c0,c1⟩:=YP _ k x hx
 exact⟨g,rfl,rfl,zF h rfl _ _ c0,zF h rfl _ _ c1,fun j=>World.ownsRow.frozenAt hf j⟩
def zbu (rv:Value)(L:List Fr)(w:World)(e:Ending)(w' :World):Prop:=∃rv',e= .returned rv'∧qo w' rv' (yH L)∧(rv'.ownBlock=rv.ownBlock∨rv'.ownBlock=none)∧zh w w' (fun x=>rv.ownBlock=some x)
def YG (ra:Option Addr)(n rc:Nat)(L:List Fr)(w:World)(j:Nat)(wr:World):Prop:=∃A R,A.length=j∧R.length+j=n∧yH A=yH L∧(∀x∈A,x∈L)∧wr.ownsRow 0 154 2 (.slice ra n rc) n ((A.reverse++R).flatMap Fr.cells)∧zh w wr (fun x=>(Value.slice ra n rc).ownBlock=some x)
theorem YG.drew {ra:Option Addr}{n rc j:Nat}{L:List Fr}{w wr:World}(h:YG ra n rc L w j wr):YG ra n rc L w j wr.drew:=by
 obtain⟨A,R,h1,h2,h3,h4,h5,h6⟩:=h
 exact⟨A,R,h1,h2,h3,h4,h5,h6.drew⟩
theorem zbu.drew {rv:Value}{L:List Fr}{w w' :World}{e:Ending}(h:zbu rv L w e w'):zbu rv L w e w'.drew:=by
 obtain⟨rv',h1,h2,h3,h4⟩:=h
 exact⟨rv',h1,h2,h3,h4.drew⟩
theorem YG.at {ra:Option Addr}{n rc k:Nat}{L:List Fr}{w wr:World}(h:YG ra n rc L w (k+1) wr):∃(g:Nat) (x:Fr),ra=some ⟨g,0,none⟩∧x∈L∧(∀j,wr.frozen? ⟨g,j,none⟩=false)∧wr.cell? ⟨g,k*2,none⟩=some (.slice x.a (foLen x.f) x.cap)∧wr.cell? ⟨g,k*2+1,none⟩=some (.int .i64 x.p)∧k+1≤n∧n≤rc∧
 ((x.p+1<(foLen x.f:Int)→zbu (.slice (some ⟨g,0,none⟩) n rc) L w (.returned (.slice (some ⟨g,0,none⟩) (k+1) rc)) (wr.setCell ⟨g,k*2+1,none⟩ (.int .i64 (x.p+1))))∧(¬x.p+1<(foLen x.f:Int)→YG (some ⟨g,0,none⟩) n rc L w k (wr.setCell ⟨g,k*2+1,none⟩ (.int .i64 (x.p+1))))):=by
 obtain⟨A,R,h1,h2,h3,h4,h5,h6⟩:=h
 obtain⟨g,cap,e,hcap⟩:=h5.form om
 cases e
 cases A with
 | nil=>simp at h1
 | cons x A=>
   have hA:A.length=k:=by simpa using h1
   have hx:((x::A).reverse++R)[k]? =some x:=by
    rw[List.reverse_cons,List.append_assoc,List.getElem?_append_right (by simp[hA])];simp[hA]
   have hc:=YP _ k x hx
   have hst:=(h5.stored (k*2+1) (.int .i64 (x.p+1))).1
   rw[Jm _ k x _ hx] at hst
   have hset:((x::A).reverse++R).set k ⟨x.a,x.cap,x.f,x.p+1⟩=(⟨x.a,x.cap,x.f,x.p+1⟩::A).reverse++R:=by
    rw[List.reverse_cons,List.reverse_cons,List.append_assoc,List.append_assoc,List.set_append_right _ _ (by simp[hA])]
    simp[hA]
   rw[hset] at hst
   have hb:(fun y=>(Value.slice (some ⟨g,0,none⟩) n rc).ownBlock=some y)=fun y=>y=g:=by
    funext y;simp[Value.ownBlock];exact eq_comm
   have ht:zh w (wr.setCell ⟨g,k*2+1,none⟩ (.int .i64 (x.p+1))) (fun y=>(Value.slice (some ⟨g,0,none⟩) n rc).ownBlock=some y):=by
    rw[hb] at h6 ⊢
    exact h6.trans (zh.setCell (S:=fun y=>y=g) (a:=⟨g,_,none⟩) rfl _) (fun y hy=>Or.inl hy)
   have hrc:n≤rc:=by
    rcases h5.2 with ⟨hv,hn⟩ | ⟨g',cap',cur,hv,hB,hh,h3',_⟩
    · cases hv
    · cases hv;exact h3'
   refine⟨g,x,rfl,h4 x sp1,fun j=>h5.frozenAt j,zF h5 rfl _ _ hc.1,zF h5 rfl _ _ hc.2,by omega,hrc,fun hl=>?_,fun hl=>?_⟩
   · have e:yH L=⟨x.a,x.cap,x.f,x.p+1⟩::A:=by rw[←h3,yH,ipQ hl]
     refine⟨_,rfl,?_,Or.inl rfl,ht⟩
     unfold qo
     rw[e]
     rw[List.flatMap_append] at hst
     have:=ze4 (j:=k+1) hst (by rw[zdi,List.length_reverse,LlcQ,hA]) om
     rw[LlcQ,hA]
     exact this
   · refine⟨A,⟨x.a,x.cap,x.f,x.p+1⟩::R,hA,by rw[LlcQ];omega,by rw[←h3,yH,inQ hl],fun y hy=>h4 y (by simp[hy]),?_,ht⟩
     rw[List.reverse_cons,List.append_assoc] at hst
     exact hst
theorem YG.end {ra:Option Addr}{n rc:Nat}{L:List Fr}{w wr:World}(h:YG ra n rc L w 0 wr):zbu (.slice ra n rc) L w (.returned (.slice none 0 0)) wr:=by
 obtain⟨A,R,h1,h2,h3,h4,h5,h6⟩:=h
 rw[List.length_eq_zero_iff.1 h1] at h3
 refine⟨_,rfl,?_,Or.inr rfl,h6⟩
 rw[←h3]
 exact World.ownsRow_nil _ _ _ _
theorem zdD (w:World)(rv:Value)(L:List Fr)(h:qo w rv L)(hL:L.length≤1000000)(hx:∀x∈L, -1≤x.p∧x.p≤1000000000):Calls Tryz.prog 127 #[rv] w (zbu rv L w):=by
 obtain⟨ra,rc,rfl⟩:=zy h
 obtain⟨n,hn⟩:∃n,n=L.length:=⟨_,rfl⟩
 have HS:Hid (YG ra n rc L w n w):=hH ⟨L,[],hn.symm,by simp,rfl,fun x hx=>hx,by rw[List.append_nil,hn];exact h,by rw[hn];exact zh.refl _ _⟩
 have HX:=hH hx
 rw[←hn] at hL ⊢
 clear h hx hn
 go_enter Tryz.func127,Tryz.ntmps127
 go_wp2_with fail
 go_loopw [3] (fun i wr=>∃j:Nat,j≤n∧i= .int .i64 ((j:Int) - 1)∧Hid (YG ra n rc L w j wr)) (fun i _=>(intOf i+1).toNat)
 case atStart=>exact⟨n,NlrQ _,rfl,HS⟩
 case round=>
  obtain⟨j,hj,rfl,hh⟩:=hrel
  clear HS
  cases j with
  | zero=>
    have HE:=hH hh.out.end
    clear hh
    have hz:((0:Nat):Int) - 1= -1:=by omega
    rw[hz]
    go_wp2_with fail
    go_ret
    exact HE.out
  | succ k=>
    obtain⟨g,x,rfl,hxL,fz,c0,c1,hkn,hnr,hy,hno⟩:=hh.out.at
    have hxp:=HX.out x hxL
    obtain⟨xa,xc,xf,p⟩:=x
    obtain⟨q,hq⟩:∃q,q=foLen xf:=⟨_,rfl⟩
    simp only at c0 c1 hy hno hxp
    rw[←hq] at c0 hy hno
    have hk1:((k+1:Nat):Int) - 1=(k:Int):=by omega
    rw[hk1]
    have hkl:(k:Int)<(n:Int):=by omega
    have hkl1:(k:Int)+1≤(n:Int):=by omega
    have hp1:IntKind.i64.wrap (p+1)=p+1:=IntWalk.i64_in _ om
    have HXP:=hH (aN hxp (aN hj hkn))
    by_cases hlt:p+1<(q:Int)
    · have HY:=hH (hy hlt)
      clear hy hno hh hxp hj hk1 hkn
      go_wp2_with fail
      go_region
      all_goals
       go_wp2_with fail
       go_ret
       exact HY.out.drew
    · have HY:=hH (hno hlt)
      clear hy hno hh hxp hj hk1 hkn
      go_wp2_with fail
      go_region
      all_goals
       go_wp2_with fail
       go_roundw
       case rel=>exact⟨k,by have:=HXP.out.2.2;omega,by go_num,hH HY.out.drew⟩
       case measure=>simp[intOf]
end Go.Proofs.YtgkmmnihaiopaaaGreat
namespace Go.Proofs.YtgkmmnihaiopaaaGreat
open Go.RowKit Go.Shelf
structure vL (w:World) (S:Nat→Prop) (t:Tr) (T:Nat→Prop) (rv:Value) (L:List Fr):Prop where
 rows:qo w rv L
 own:∀g,rv.ownBlock=some g→T g
 ok:∀y∈L,y.ok
 lies:∀y∈L,zt w S y.f y.a∧foLen y.f≤y.cap
 chain:qV (zm t) L
 apart:∀y,T y→y<w.heap.size∧¬S y
 few:L.length+jP L≤zb t.kids+2
 sl:∀y,S y→y<w.heap.size
structure zhm (w:World) (S:Nat→Prop) (t:Tr) (T:Nat→Prop) (rv:Value) (L:List Fr):Prop where
 rows:qo w rv L
 own:∀g,rv.ownBlock=some g→T g
 p:∀y∈L, -1≤y.p∧y.p≤(foLen y.f:Int)
 ok:∀y∈L.tail,y.ok
 lies:∀y∈L,zt w S y.f y.a∧foLen y.f≤y.cap
 chain:qV (zm t) L
 apart:∀y,T y→y<w.heap.size∧¬S y
 few:L.length+Qs L≤zb t.kids+2
 sl:∀y,S y→y<w.heap.size
theorem Zv {root:Fo}:∀(L:List Fr),qV root L→∀x∈L,foLen x.f≤zb root
 | [],_,_,h=>by cases h
 | [x],h,y,hy=>by
   rw[List.mem_singleton] at hy;subst hy
   rw[qV] at h;rw[h];exact zL _
 | x :: z :: r,h,y,hy=>by
   rcases List.mem_cons.1 hy with rfl | hy
   · obtain ⟨_,u,hu,he⟩:=h.1
     have h1 : ∀(L:List Fr),qV root L→∀x∈L,zb x.f≤zb root:=by
      intro L
      induction L with
      | nil=>intro _ x hx;cases hx
      | cons a L ih=>
        intro hL x hx
        cases L with
        | nil=>rw[List.mem_singleton] at hx;subst hx;rw[qV] at hL;rw[hL];exact NlrQ _
        | cons b L=>
          rcases List.mem_cons.1 hx with rfl | hx
          · obtain⟨_,v,hv,hf⟩:=hL.1
            have h2:=ih hL.2 b sp1
            have h3:=Yc hv
            have h4:∀(j:Nat) (f:Fo),zb (zq j f)≤zb f:=by
             exact sh5
            have h5:=h4 b.p.toNat b.f
            rw[hf];omega
          · exact ih hL.2 x hx
     have h2:=h1 (y::z::r) h y sp1
     have:=zL y.f
     omega
   · exact Zv (z::r) h.2 y hy
theorem vL.kept {w w' :World}{S T:Nat→Prop}{t:Tr}{rv:Value}{L:List Fr}(h:vL w S t T rv L)(hs:w.heap.size≤w'.heap.size)(hT:∀y,T y→w'.heap[y]? =w.heap[y]?)(hS:∀y,S y→w'.heap[y]? =w.heap[y]?):vL w' S t T rv L:=
 ⟨h.rows.kept fun g hg=>hT g (h.own g hg),h.own,h.ok,fun y hy=>⟨(h.lies y hy).1.kept fun k hk=>⟨hk,hS k hk⟩,(h.lies y hy).2⟩,h.chain,fun y hy=>⟨nL (h.apart y hy).1 hs,(h.apart y hy).2⟩,h.few,fun y hy=>nL (h.sl y hy) hs⟩
theorem zhm.next {w w' :World}{S T:Nat→Prop}{t:Tr}{rv rv' :Value}{L:List Fr}(h:zhm w S t T rv L)(h1:qo w' rv' (yH L))(h2:rv'.ownBlock=rv.ownBlock∨rv'.ownBlock=none)(h3:zh w w' (fun x=>rv.ownBlock=some x)):vL w' S t T rv' (yH L):=by
 have hp:∀x∈L, -1≤x.p:=fun x hx=>(h.p x hx).1
 refine⟨h1,fun g hg=>?_,zdC L hp h.ok,zbP (fun a c f=>zt w' S f a∧foLen f≤c) L (fun y hy=>⟨(h.lies y hy).1.kept fun k hk=>⟨hk,h3.block k (h.sl k hk) (fun e=>(h.apart k (h.own k e)).2 hk)⟩,(h.lies y hy).2⟩),Jp L h.chain,fun y hy=>⟨nL (h.apart y hy).1 h3.size,(h.apart y hy).2⟩,?_,fun y hy=>nL (h.sl y hy) h3.size⟩
 · rcases h2 with e | e
   · exact h.own g (e▸hg)
   · rw[e] at hg;cases hg
 · have:=Qx L
   have:=YW L hp
   have:=h.few
   omega
theorem vL.here {w:World}{S T:Nat→Prop}{t:Tr}{rv:Value}{x:Fr}{r:List Fr}(h:vL w S t T rv (x::r)):∃(g cap n p:Nat) (u:Tr) (b off:Nat) (ka:Option Addr) (kc:Nat),rv= .slice (some ⟨g,0,none⟩) (n+1) cap∧n=r.length∧n≤zb t.kids+1∧(n:Int)+1≤cap∧T g∧w.cell? ⟨g,n*2,none⟩=some (.slice x.a (foLen x.f) x.cap)∧w.cell? ⟨g,n*2+1,none⟩=some (.int .i64 (p:Int))∧x.p=(p:Int)∧p<foLen x.f∧foLen x.f≤zb t.kids+1∧
 zB x.f x.p.toNat=some u∧x.a=some ⟨b,off,none⟩∧S b∧w.cell? ⟨b,off+p*4,none⟩=some (.int .i64 u.id)∧w.cell? ⟨b,off+p*4+3,none⟩=some (.slice ka (foLen u.kids) kc)∧foLen u.kids≤kc∧zt w S u.kids ka:=by
 have hok:=h.ok x sp1
 obtain⟨ra,rc,rfl⟩:=zy h.rows
 obtain⟨g,rfl,hn,c0,c1,_⟩:=qo.at h.rows (k:=r.length) (x:=x) (by rw[List.reverse_cons,List.getElem?_append_right sp1];simp)
 have hl:=Zv _ h.chain x sp1
 rw[yt] at hl
 have hf:=h.few
 have hcap:(r.length:Int)+1≤rc:=by
  rcases h.rows.2 with ⟨hv,_⟩ | ⟨_,_,_,hv,_,_,h3,_⟩
  · cases hv
  · cases hv;simp only[LlcQ] at h3;omega
 obtain⟨b0,o0,key,l,q,hd,b,off,ka,kc,ha,hSb,d0,_,_,d3,hkc,hk⟩:=(h.lies x sp1).1.at x.p.toNat (by have:=hok.1;have:=hok.2;omega)
 have hp:x.p=(x.p.toNat:Int):=by have:=hok.1;omega
 rw[hp] at c1
 refine⟨g,rc,r.length,x.p.toNat,⟨key.1,key.2.1,key.2.2,l⟩,b,off,ka,kc,by rw[LlcQ],rfl,?_,hcap,h.own g rfl,c0,c1,hp,by have:=hok.2;omega,by omega,by rw[zB,hd];rfl,ha,hSb,d0,d3,hkc,hk⟩
 have h9:1≤jP (x::r):=by
  rw[jP,hd];simp only[zb];omega
 simp only[LlcQ] at hf;omega
theorem vL.push {w w3:World}{S T T3:Nat→Prop}{t:Tr}{rv rv3:Value}{x:Fr}{r:List Fr}{u:Tr}{ka:Option Addr}{kc:Nat}(h:vL w S t T rv (x::r))(hu:zB x.f x.p.toNat=some u)(hk:zt w S u.kids ka)(hkc:foLen u.kids≤kc)(hs:w.heap.size≤w3.heap.size)(hS:∀y,S y→w3.heap[y]? =w.heap[y]?)
 (hr:w3.ownsRow 0 154 2 rv3 (r.length+1+1) ((x::r).reverse.flatMap Fr.cells++[.slice ka (foLen u.kids) kc,.int .i64 (-1)])) (ho:∀g,rv3.ownBlock=some g→T3 g) (hT:∀y,T3 y→y<w3.heap.size∧¬S y):zhm w3 S t T3 rv3 (⟨ka,kc,u.kids, -1⟩::x::r):=by
 have hok:=h.ok x sp1
 refine⟨?_,ho,fun y hy=>?_,h.ok,fun y hy=>?_,⟨⟨hok.1,u,hu,rfl⟩,h.chain⟩,hT,?_,fun y hy=>nL (h.sl y hy) hs⟩
 · unfold qo
   rw[List.reverse_cons,List.flatMap_append]
   exact hr
 · rcases List.mem_cons.1 hy with rfl | hy
   · exact⟨by simp,by simp only;omega⟩
   · have:=h.ok y hy;exact⟨by have:=this.1;omega,by have:=this.2;omega⟩
 · rcases List.mem_cons.1 hy with rfl | hy
   · exact⟨hk.kept fun k hk=>⟨hk,hS k hk⟩,hkc⟩
   · exact⟨(h.lies y hy).1.kept fun k hk=>⟨hk,hS k hk⟩,(h.lies y hy).2⟩
 · have h1:=zaP (a:=ka) (c:=kc) (r:=r) hok hu
   have h2:=h.few
   simp only[LlcQ] at h2 ⊢
   omega
end Go.Proofs.YtgkmmnihaiopaaaGreat
namespace Go.Proofs.YtgkmmnihaiopaaaGreat
open Go.RowKit
theorem Tryz.Qp:(Tryz.prog.info? 27).map (fun i=>(i.size,i.bytes,i.zero.map (fun z=>z.cells.size)))=some (4,56,some 4):=by kernel_rfl
def zjD (w:World)(t:TypeId)(size n:Nat)(xs:List Value)(e:Ending)(w' :World):Prop:=∃v',e= .returned v'∧Below w.heap.size w w'∧w'.ownsRow w.heap.size t size v' n xs
theorem Tryz.zgt (w:World)(a:Option Addr)(n c:Nat):(binOp .eql 25 (.slice a n c) (.slice none 0 0)).run Tryz.prog w= .ok (.bool a.isNone) w:=Lib.run_eql_slice_nil w _ _ a n c 0 0 Tryz.underlying25
theorem kH (w:World)(a:Option Addr)(n cap:Nat)(xs:List Value)(hl:xs.length=n*4)(h1:∀u∈xs,u.oneCell'=true)(hn:n≤1000000)(hc:∀ad,a=some ad→∀j u,xs[j]? =some u→w.cell? (ad.add j)=some u)(h0:a=none→n=0):
 Calls Tryz.prog 47 #[.slice a n cap] w (zjD w 27 4 n xs):=by
 have hq:=Tryz.zgt
 cases a with
 | none=>
   have hn0:=h0 rfl
   subst hn0
   have hx:xs= []:=List.eq_nil_of_length_eq_zero (by simpa using hl)
   subst hx
   clear hl h1 hn hc h0
   go_enter Tryz.func47,Tryz.ntmps47
   go_wp2_with fail
   go_ret
   exact⟨_,rfl,BrQ _ _,World.ownsRow_nil _ _ _ _⟩
 | some ad=>
   have HC:=hH (aN hl (aN h1 (hc ad rfl)))
   obtain⟨i0,z0,hi0,hz0,hz1,hz2,hz3⟩:=yw Tryz.Qp
   have HI:=hH (aN hi0 (aN hz0 (aN hz1 (aN hz2 hz3))))
   clear hl h1 hc h0 hi0 hz0 hz1 hz2 hz3
   go_enter Tryz.func47,Tryz.ntmps47
   go_wp2_with (at_builtin;refine wpList_append_own_at _ rfl (.tmp 5) (.tmp 6) _ rfl w.heap.size 27 i0 z0 4 56 Tryz.underlying25 HI.out.1 HI.out.2.1 HI.out.2.2.1 HI.out.2.2.2.1 HI.out.2.2.2.2 om (.slice (some ⟨w.heap.size,0,none⟩) 0 0) 0 [] rfl (World.ownsRow_made w #[] 0 (NlrQ _) uf7 rfl) ad n cap xs rfl HC.out.1 (fun j u hj=>Lib.cell?_alloc_some _ (HC.out.2.2 j u hj)) HC.out.2.1 uf7 om sp1 ?_;intro v' w1 hown hgrow _ hat)
   go_ret
   have hs:=hgrow.size
   rw[WsaQ] at hs
   exact⟨_,rfl,⟨hgrow.os,hgrow.tape,hgrow.output,by omega,fun x hx=>by
    rw[hgrow.block x (by rw[WsaQ];omega) (by simp[Value.ownBlock];omega),BhaQ _ _ _ hx]⟩,by rw[Nat.zero_add,List.nil_append] at hown;exact hown⟩
end Go.Proofs.YtgkmmnihaiopaaaGreat
namespace Go.Proofs.YtgkmmnihaiopaaaGreat
open Go.RowKit Go.Lib
theorem qx {b:Nat}{t:TypeId}:∀(vs pre mid post:List Value) (w:World),w.heap[b]? =some (.cells (pre++(mid++post)).toArray t (0,0))→mid.length=vs.length→
 (w.setCells b pre.length vs).heap[b]? =some (.cells (pre++(vs++post)).toArray t (0,0))
 | [],pre,mid,post,w,h,hl=>by
   have:mid= []:=List.eq_nil_of_length_eq_zero (by simpa using hl)
   subst this
   exact h
 | v::r,pre,[],post,w,h,hl=>by simp at hl
 | v ::r,pre,p::ps,post,w,h,hl=>by
   have h1:=hssQ w b pre.length _ _ v h
   have e:((pre++(p::ps++post)).toArray.setIfInBounds pre.length v)=((pre++[v])++(ps++post)).toArray:=by simp
   rw[e] at h1
   have:=qx r (pre++[v]) ps post (w.setCell ⟨b,pre.length,none⟩ v) h1 (by simpa using hl)
   rw[LlaQ,List.append_assoc] at this
   exact this
theorem qy {b:Nat}:∀(vs:List Value) (o:Nat) (w:World),(w.setCells b o vs).heap.size=w.heap.size∧(w.setCells b o vs).os=w.os∧(w.setCells b o vs).tape=w.tape∧(w.setCells b o vs).output=w.output∧∀y,y≠b→(w.setCells b o vs).heap[y]? =w.heap[y]?
 | [],o,w=>⟨rfl,rfl,rfl,rfl,fun _ _=>rfl⟩
 | v ::r,o,w=>by
   obtain⟨h1,h2,h3,h4,h5⟩:=qy r (o+1) (w.setCell ⟨b,o,none⟩ v)
   exact⟨h1.trans (by simp[World.setCell]),h2,h3,h4,fun y hy=>(h5 y hy).trans (BhsQ _ _ _ _ hy)⟩
theorem vC {w:World}{g:Nat}{cs:List Value}{t:TypeId}(hg:w.heap[g]? =some (.cells cs.toArray t (0,0))){j:Nat}(h:j<cs.length):(w.cell? ⟨g,j,none⟩).isSome=true∧w.frozen? ⟨g,j,none⟩=false:=⟨by
 rw[corQ w _ _ _ _ _ hg,List.getElem?_toArray,List.getElem?_eq_getElem h];rfl,forQ w _ _ _ _ hg⟩
theorem j6 {w:World}{g:Nat}{cs:List Value}{t:TypeId}(hg:w.heap[g]? =some (.cells cs.toArray t (0,0)))(j:Nat):w.cell? ⟨g,j,none⟩=cs[j]?:=by
 rw[corQ w _ _ _ _ _ hg,List.getElem?_toArray]
theorem jB {P:Program}(w:World)(dT sT ty elem:TypeId)(sz b o dLen dCap:Nat)(a:Addr)(sLen sCap m:Nat)(cs:List Value)
 (hu:P.underlying dT=some (.slice elem)) (hs:(P.info? elem).map (·.size)=some sz) (hn:m=Nat.min sLen dLen) (hm:cs.length=m*sz)
 (hsrc:∀j v,cs[j]? =some v→w.cell? (a.add j)=some v) (hc:∀j,j<cs.length→(w.cell? ⟨b,o+j,none⟩).isSome=true) (hf:∀j,j<cs.length→w.frozen? ⟨b,o+j,none⟩=false) (h1:∀v∈cs,v.oneCell'=true):
 (Builtin.copy_ #[dT,sT] ty #[.slice (some ⟨b,o,none⟩) dLen dCap,.slice (some a) sLen sCap]).run P w= .ok (goInt m) (w.setCells b o cs):=by
 have hl:=run_loadCells_list (P:=P) w a cs hsrc
 have hst:=run_storeCells_cells (P:=P) b o cs 0 w (by simpa using hc) (by simpa using hf) h1
 cases hq:P.info? elem with
 | none=>simp[hq] at hs
 | some i=>
   have hi:i.size=sz:=by simpa [hq] using hs
   simp[Builtin.copy_,run_underlying hu,Builtin.lenOf,Builtin.firstCells,sizeOf,typeInfo,hq,hi,←hn,←hm,hl,hst]
theorem YZ {w:World}{B g n cap:Nat}{xs:List Value}(h:w.ownsRow B 27 4 (.slice (some ⟨g,0,none⟩) n cap) n xs):
 ∃sp,w.heap[g]? =some (.cells (xs++sp).toArray 27 (0,0))∧n≤cap∧cap≤maxLen∧(xs++sp).length=cap*4∧B≤g:=by
 rcases h.2 with ⟨h',_⟩ | ⟨g',cap',cur,h',hb,hg,hnc,hcm,hcs,htake⟩
 · simp at h'
 · simp only[Value.slice.injEq,Option.some.injEq,Addr.mk.injEq,and_true,true_and] at h'
   obtain⟨rfl,rfl⟩:=h'
   have e:xs++cur.toList.drop (n*4)=cur.toList:=by rw[←htake,List.take_append_drop]
   refine⟨cur.toList.drop (n*4),?_,hnc,hcm,?_,hb⟩
   · rw[e];simpa using hg
   · rw[e];simpa using hcs
theorem Q3 {w:World}{B g n cap:Nat}{xs sp:List Value}(hx:xs.length=n*4)(hg:w.heap[g]? =some (.cells (xs++sp).toArray 27 (0,0)))(hn:n≤cap)(hm:cap≤maxLen)(hs:(xs++sp).length=cap*4)(hB:B≤g):
 w.ownsRow B 27 4 (.slice (some ⟨g,0,none⟩) n cap) n xs:=
 ⟨hx,.inr ⟨g,cap,_,rfl,hB,hg,hn,hm,by simpa using hs,by rw[←hx];simp⟩⟩
def zeh (w:World)(B:Nat)(ob:Option Nat)(n:Nat)(ys:List Value)(e:Ending)(w' :World):Prop:=∃v',e= .returned v'∧w'.ownsRow B 27 4 v' n ys∧w.grownBy w' ob
theorem ZK (z:Array Value)(n:Nat):(Builtin.zeroCells z n).toList.length=n*z.size:=by simp[Builtin.zeroCells]
theorem zi0 (w:World)(B n vb:Nat)(sv:Value)(xs vs:List Value)(h:w.ownsRow B 27 4 sv n xs)(hB:B≤w.heap.size)(hn:n≤1000000)(hv:w.heap[vb]? =some (.cells vs.toArray 27 (0,0)))(hvl:vs.length=4)(h1v:∀v∈vs,v.oneCell'=true):
 Calls Tryz.prog 108 #[sv,.int .i64 n,.slice (some ⟨vb,0,none⟩) 1 1] w (zeh w B sv.ownBlock (n+1) (xs++vs)):=by
 obtain⟨a,cap,rfl⟩:=zy h
 obtain⟨i0,z0,hi0,hz0,hz1,hz2,hz3⟩:=yw Tryz.Qp
 have hcap:n≤cap∧cap≤9223372036854775807:=by
  rcases h.2 with ⟨h',h0⟩ | ⟨g',cap',cur,h',hb,hg,hnc,hcm,hcs,htake⟩
  · simp only[Value.slice.injEq] at h';omega
  · simp only[Value.slice.injEq] at h';unfold maxLen at hcm;omega
 have hcap1:=hcap.1
 have mixed:Tryz.prog.follows .mixedOrders=true:=by kernel_rfl
 obtain⟨ob,hob⟩:∃ob,ob=(Value.slice a n cap).ownBlock:=⟨_,rfl⟩
 rw[←hob]
 have HOB:=hH hob
 have HI:=hH (aN hi0 (aN hz0 (aN hz1 (aN hz2 hz3))))
 have HO:=hH (aN h hB)
 have HV:=hH (aN hvl (aN (fun j u (hj:vs[j]? =some u)=>(show w.cell? ((⟨vb,0,none⟩:Addr).add j)=some u by rw[Addr.add_mid,Nat.zero_add,j6 hv];exact hj)) h1v))
 clear h hB hi0 hz0 hz1 hz2 hz3 hcap hv hvl h1v hob
 go_enter Tryz.func108,Tryz.ntmps108
 go_wp2_with (at_builtin;refine wpList_append_own_at _ rfl (.tmp 23) (.tmp 24) _ rfl B 27 i0 z0 4 56 Tryz.underlying25 HI.out.1 HI.out.2.1 HI.out.2.2.1 HI.out.2.2.2.1 HI.out.2.2.2.2 om (.slice a n cap) n xs rfl HO.out.1 ⟨vb,0,none⟩ 1 1 vs rfl (by rw[HV.out.1]) HV.out.2.1 HV.out.2.2 uf7 om HO.out.2 ?_;intro v' w1 hown hgrow hnil hat)
 all_goals (go_ret;rw[←HOB.out] at hgrow;exact⟨_,rfl,hown,hgrow⟩)
theorem zgk (w:World)(B g n cap i vb:Nat)(xs vs:List Value)(h:w.ownsRow B 27 4 (.slice (some ⟨g,0,none⟩) n cap) n xs)(hi:i<n)(hroom:n+1≤cap)(hv:w.heap[vb]? =some (.cells vs.toArray 27 (0,0)))(hvl:vs.length=4)(h1v:∀v∈vs,v.oneCell'=true)(h1x:∀v∈xs,v.oneCell'=true)(hvg:vb≠g):
 Calls Tryz.prog 108 #[.slice (some ⟨g,0,none⟩) n cap,.int .i64 i,.slice (some ⟨vb,0,none⟩) 1 1] w (zeh w B (some g) (n+1) (xs.take (i*4)++vs++xs.drop (i*4))):=by
 obtain⟨sp,s1,s2,s3,s4,s5⟩:=YZ h
 have hxl:=h.1
 obtain⟨i0,z0,hi0,hz0,hzs,hz2,hz3⟩:=yw Tryz.Qp
 have hsz:(Tryz.prog.info? 27).map (·.size)=some 4:=by rw[hi0];simp[hzs]
 have hc63:cap≤9223372036854775807:=by unfold maxLen at s3;omega
 obtain⟨A,hA⟩:∃A,A=xs.take (i*4):=⟨_,rfl⟩
 obtain⟨D,hD⟩:∃D,D=xs.drop (i*4):=⟨_,rfl⟩
 have hAl:A.length=i*4:=by rw[hA,List.length_take];omega
 have hDl:D.length=(n - i)*4:=by rw[hD,List.length_drop];omega
 have hxAD:xs=A++D:=by rw[hA,hD,List.take_append_drop]
 have h1D:∀v∈D,v.oneCell'=true:=fun v hv=>h1x v (by rw[hxAD];exact List.mem_append_right _ hv)
 rw[←hA,←hD]
 rw[hxAD] at s1 s4
 have hDsl:(D++sp).length=(cap - i)*4:=by simp only[LlaQ] at s4 ⊢;omega
 obtain⟨W1,hW1⟩:∃W1,W1=w.drew.setCells g ((i+1)*4) D:=⟨_,rfl⟩
 have hb1:W1.heap[g]? =some (.cells (A++((D++sp).take 4++(D++((D++sp).drop 4).drop D.length))).toArray 27 (0,0)):=by
  have:=qx D (A++(D++sp).take 4) (((D++sp).drop 4).take D.length) (((D++sp).drop 4).drop D.length) w.drew (b:=g) (t:=27) (by rw[List.take_append_drop,List.append_assoc,List.take_append_drop,←List.append_assoc];exact s1) (by rw[List.length_take,List.length_drop,hDsl,hDl];omega)
  rw[hW1,show (i+1)*4=(A++(D++sp).take 4).length by rw[LlaQ,hAl,List.length_take,hDsl];omega]
  rw[List.append_assoc] at this
  exact this
 obtain⟨R,hR⟩:∃R,R=((D++sp).drop 4).drop D.length:=⟨_,rfl⟩
 rw[←hR] at hb1
 have hRl:R.length=(cap - n - 1)*4:=by rw[hR,List.length_drop,List.length_drop,hDsl,hDl];omega
 obtain⟨W2,hW2⟩:∃W2,W2=W1.setCells g (i*4) vs:=⟨_,rfl⟩
 have hb2:W2.heap[g]? =some (.cells ((A++vs++D)++R).toArray 27 (0,0)):=by
  have:=qx vs A ((D++sp).take 4) (D++R) W1 (b:=g) (t:=27) hb1 (by rw[List.length_take,hDsl,hvl];omega)
  rw[hW2,←hAl,List.append_assoc,List.append_assoc]
  exact this
 have hf1:=qy (b:=g) D ((i+1)*4) w.drew
 have hf2:=qy (b:=g) vs (i*4) W1
 rw[←hW1] at hf1
 rw[←hW2] at hf2
 have hlt:g<w.heap.size:=lohQ s1
 have HEND:Hid (zeh w B (some g) (n+1) (A++vs++D) (.returned (.slice (some ⟨g,0,none⟩) (n+1) cap)) W2):=hH
  ⟨_, rfl,Q3 (by simp only[LlaQ,hAl,hvl,hDl];omega) hb2 hroom s3 (by simp only[LlaQ,hAl,hvl,hDl,hRl];omega) s5,
   { os :=hf2.2.1.trans hf1.2.1,tape:=hf2.2.2.1.trans hf1.2.2.1,output:=hf2.2.2.2.1.trans hf1.2.2.2.1,size:=by rw[hf2.1,hf1.1];exact NlrQ _,block:=fun y hy hn=>by
      have hyg:y≠g:=fun e=>hn (by rw[e])
      rw[hf2.2.2.2.2 y hyg,hf1.2.2.2.2 y hyg];rfl }⟩
 have hz2:¬((i:Int)=(n:Int)):=by omega
 have hv4:vs.length=4:=hvl
 have hov:∀lb cb,(callFunc 118 #[.slice (some ⟨vb,0,none⟩) 1 1,.slice (some ⟨g,(i+1)*4,none⟩) lb cb]).run Tryz.prog w= .ok (.value (.bool false)) w:=fun lb cb=>by
  rw [run_callFunc_extern Tryz.func118 kr1 kr1 kr1 (e:=Extern.SlicesOverlaps.overlaps #[25,25] #[4]) kr1,
   Lib.run_overlaps_apart w 25 4 27 Tryz.underlying25 4 (fun w=>by simp[sizeOf,typeInfo,hi0,hzs]) ⟨vb,0,none⟩ ⟨g,(i+1)*4,none⟩ 1 1 lb cb hvg 27 27 vs.length (A++D++sp).length (by unfold World.shape?;rw[hv];simp) (by unfold World.shape?;rw[s1];simp) (by rw[s4];omega) (forQ w _ _ _ _ hv) (forQ w _ _ _ _ hv)]
  rfl
 have hcp1:∀ty dc sc,(Builtin.copy_ #[25,25] ty #[.slice (some ⟨g,(i+1)*4,none⟩) (n - i) dc,.slice (some ⟨g,i*4,none⟩) (n+1 - i) sc]).run Tryz.prog w.drew= .ok (goInt ((n - i:Nat):Int)) W1:=fun ty dc sc=>by
  rw[hW1]
  exact jB w.drew 25 25 ty 27 4 g ((i+1)*4) (n - i) dc ⟨g,i*4,none⟩ (n+1 - i) sc (n - i) D Tryz.underlying25 hsz ud5 hDl
   (fun j v hj=>by
     rw[Addr.add_mid]
     show w.cell? _=_
     rw[j6 s1,List.append_assoc,List.getElem?_append_right om,hAl,show i*4+j - i*4=j by omega,List.getElem?_append_left (List.getElem?_eq_some_iff.1 hj).1]
     exact hj)
   (fun j hj=>(vC (w:=w.drew) s1 (by rw[s4];rw[hDl] at hj;omega)).1) (fun j hj=>(vC (w:=w.drew) s1 (j:=(i+1)*4+j) (by rw[s4];rw[hDl] at hj;omega)).2) h1D
 have hvW:W1.heap[vb]? =some (.cells vs.toArray 27 (0,0)):=(hf1.2.2.2.2 vb hvg).trans hv
 have hcp2:∀ty dc,(Builtin.copy_ #[25,25] ty #[.slice (some ⟨g,i*4,none⟩) (n+1 - i) dc,.slice (some ⟨vb,0,none⟩) 1 1]).run Tryz.prog W1= .ok (goInt 1) W2:=fun ty dc=>by
  rw[hW2]
  exact jB W1 25 25 ty 27 4 g (i*4) (n+1 - i) dc ⟨vb,0,none⟩ 1 1 1 vs Tryz.underlying25 hsz ud5 om
   (fun j v hj=>by rw[Addr.add_mid,Nat.zero_add,j6 hvW];exact hj)
   (fun j hj=>(vC hb1 (by simp only[LlaQ,hAl,List.length_take,hDsl,hDl,hRl];omega)).1) (fun j hj=>(vC hb1 (j:=i*4+j) (by simp only[LlaQ,hAl,List.length_take,hDsl,hDl,hRl];omega)).2) h1v
 have hw1:IntKind.i64.wrap ((i:Int)+1)=(i:Int)+1:=by rw[IntKind.wrap_i64];omega
 have hb1' :(0:Int)≤(i:Int)+1:=by omega
 have hin:i≤n:=by omega
 have htn:((i:Int)+1).toNat=i+1:=by omega
 have hb2' :¬(cap=i+1):=by omega
 have hb3:(i:Int)≤(n:Int)+1:=by omega
 have hb4:¬(cap=i):=by omega
 have HCP:=hH (aN hcp1 hcp2)
 have mixed:Tryz.prog.follows .mixedOrders=true:=by kernel_rfl
 clear h s1 s2 s3 s4 s5 hxl hA hD hAl hDl hxAD h1D hDsl hW1 hb1 hR hRl hW2 hb2 hf1 hf2 hlt hvW hcp1 hcp2 hv hvl h1v h1x hvg hv4 hi0 hz0 hzs hz2 hz3 hsz
 have hz2:¬((i:Int)=(n:Int)):=by omega
 go_enter Tryz.func108,Tryz.ntmps108
 go_wp2_with (simp only[hov])
 go_region_law_o (refine step_copy_runI rfl _ _ 25 25 rfl (.slice (some ⟨g,(i+1)*4,none⟩) (n - i) (cap - (i+1))) (.slice (some ⟨g,i*4,none⟩) (n+1 - i) (cap - i)) uf3 uf3 (HCP.out.1 3 (cap - (i+1)) (cap - i)) ?_)
 have hc2:=HCP.out.2 3 (cap - i)
 go_wp2_with fail
 go_ret
 exact HEND.out
theorem zhW (w:World)(B g n cap i vb:Nat)(xs vs:List Value)(h:w.ownsRow B 27 4 (.slice (some ⟨g,0,none⟩) n cap) n xs)(hB:B≤w.heap.size)(hi:i<n)(hn6:n≤1000000)(hroom:cap<n+1)(hv:w.heap[vb]? =some (.cells vs.toArray 27 (0,0)))(hvl:vs.length=4)(h1v:∀v∈vs,v.oneCell'=true)(h1x:∀v∈xs,v.oneCell'=true):
 Calls Tryz.prog 108 #[.slice (some ⟨g,0,none⟩) n cap,.int .i64 i,.slice (some ⟨vb,0,none⟩) 1 1] w (zeh w B (some g) (n+1) (xs.take (i*4)++vs++xs.drop (i*4))):=by
 obtain⟨sp,s1,s2,s3,s4,s5⟩:=YZ h
 have hxl:=h.1
 obtain⟨i0,z0,hi0,hz0,hzs,hzb,hz3⟩:=yw Tryz.Qp
 have hsz:(Tryz.prog.info? 27).map (·.size)=some 4:=by rw[hi0];simp[hzs]
 obtain⟨A,hA⟩:∃A,A=xs.take (i*4):=⟨_,rfl⟩
 obtain⟨D,hD⟩:∃D,D=xs.drop (i*4):=⟨_,rfl⟩
 have hAl:A.length=i*4:=by rw[hA,List.length_take];omega
 have hDl:D.length=(n - i)*4:=by rw[hD,List.length_drop];omega
 have hxAD:xs=A++D:=by rw[hA,hD,List.take_append_drop]
 have h1D:∀v∈D,v.oneCell'=true:=fun v hv=>h1x v (by rw[hxAD];exact List.mem_append_right _ hv)
 rw[←hA,←hD]
 rw[hxAD] at s1 s4
 have hglt:g<w.heap.size:=lohQ s1
 have hvlt:vb<w.heap.size:=lohQ hv
 have hik:i+(n+1 - i)=n+1:=by omega
 have hkk:(n:Int)+1 - (i:Int)=((n+1 - i:Nat):Int):=by omega
 have hold:(Builtin.firstCells i0.size i (.slice (some ⟨g,0,none⟩) i cap)).run Tryz.prog w.drew= .ok A.toArray w.drew:=by
  rw[hzs]
  exact run_firstCells_some w.drew 4 i ⟨g,0,none⟩ i cap A (by rw[hAl]) (fun j v hj=>by
   rw[Addr.add_mid,Nat.zero_add]
   show w.cell? _=_
   rw[j6 s1,List.append_assoc,List.getElem?_append_left (List.getElem?_eq_some_iff.1 hj).1]
   exact hj)
 obtain⟨G,hG⟩:∃G,G=grownCap w (n+1) cap 27:=⟨_,rfl⟩
 obtain⟨Z1,hZ1⟩:∃Z,Z=(Builtin.zeroCells z0.cells (n+1 - i)).toList:=⟨_,rfl⟩
 obtain⟨Z2,hZ2⟩:∃Z,Z=(Builtin.zeroCells z0.cells (G - (n+1))).toList:=⟨_,rfl⟩
 have hGn:n+1≤G:=by rw[hG];exact grownCap_ge w _ _ _
 have hG63:G≤maxLen:=by rw[hG];exact grownCap_le_maxLen w (n+1) cap 27 uf7
 have hZ1l:Z1.length=(n+1 - i)*4:=by rw[hZ1,ZK,hz3]
 have hZ2l:Z2.length=(G - (n+1))*4:=by rw[hZ2,ZK,hz3]
 have hrow:A.toArray++Builtin.zeroCells z0.cells (n+1 - i)++Builtin.zeroCells z0.cells (G - (n+1))=(A++(Z1++Z2)).toArray:=by
  apply Array.ext'
  rw[hZ1,hZ2]
  simp
 obtain⟨W1,hW1⟩:∃W1,W1=w.drew.alloc (.cells (A++(Z1++Z2)).toArray 27):=⟨_,rfl⟩
 have hrz:∀ty,(Builtin.append_ #[25,3] ty #[.slice (some ⟨g,0,none⟩) i cap,.int .i64 ((n:Int)+1 - (i:Int))]).run Tryz.prog w= .ok (.slice (some ⟨w.heap.size,0,none⟩) (n+1) G) W1:=fun ty=>by
  have h:=Lib.run_append_grow_zeros w 25 3 ty 27 i0 _ .i64 .i64 Tryz.underlying25 Tryz.underlying3 hi0 hz0 (some ⟨g,0,none⟩) i cap A hold (n+1 - i) om om om om (by rw[hzb];omega) (by rw[hzb,hik];exact growslice_fits hroom om)
  rw[hik] at h
  rw[hkk,hW1,←hrow,hG]
  exact h
 have hN:W1.heap[w.heap.size]? =some (.cells (A++(Z1++Z2)).toArray 27 (0,0)):=by rw[hW1];exact hanQ w.drew _
 have hbW:Below w.heap.size w W1:=by
  rw[hW1]
  have h:=(BrQ w.drew.heap.size w.drew).alloc (NlrQ _) (.cells (A++(Z1++Z2)).toArray 27)
  exact⟨h.os,h.tape,h.output,h.size,h.block⟩
 have hgN:g≠w.heap.size:=by omega
 have hvN:vb≠w.heap.size:=by omega
 obtain⟨W2,hW2⟩:∃W2,W2=W1.setCells w.heap.size (i*4) vs:=⟨_,rfl⟩
 have hb2:W2.heap[w.heap.size]? =some (.cells ((A++vs)++((Z1++Z2).drop 4)).toArray 27 (0,0)):=by
  have:=qx vs A ((Z1++Z2).take 4) ((Z1++Z2).drop 4) W1 (b:=w.heap.size) (t:=27) (by rw[List.take_append_drop];exact hN) (by rw[List.length_take,LlaQ,hZ1l,hvl];omega)
  rw[hW2,←hAl,List.append_assoc]
  exact this
 have hZl:((Z1++Z2).drop 4).length=(G - i)*4 - 4:=by rw[List.length_drop,LlaQ,hZ1l,hZ2l];omega
 obtain⟨W3,hW3⟩:∃W3,W3=W2.drew.setCells w.heap.size ((i+1)*4) D:=⟨_,rfl⟩
 have hb3:W3.heap[w.heap.size]? =some (.cells ((A++vs++D)++(((Z1++Z2).drop 4).drop D.length)).toArray 27 (0,0)):=by
  have:=qx D (A++vs) (((Z1++Z2).drop 4).take D.length) (((Z1++Z2).drop 4).drop D.length) W2.drew (b:=w.heap.size) (t:=27) (by rw[List.take_append_drop];exact hb2) (by rw[List.length_take,hZl,hDl];omega)
  rw[hW3,show (i+1)*4=(A++vs).length by rw[LlaQ,hAl,hvl];omega]
  rw[←List.append_assoc] at this
  exact this
 have hf2:=qy (b:=w.heap.size) vs (i*4) W1
 have hf3:=qy (b:=w.heap.size) D ((i+1)*4) W2.drew
 rw[←hW2] at hf2
 rw[←hW3] at hf3
 have HEND:Hid (zeh w B (some g) (n+1) (A++vs++D) (.returned (.slice (some ⟨w.heap.size,0,none⟩) (n+1) G)) W3):=hH
  ⟨_, rfl,Q3 (by simp only[LlaQ,hAl,hvl,hDl];omega) hb3 hGn hG63 (by simp only[LlaQ,hAl,hvl,hDl,List.length_drop,hZ1l,hZ2l];omega) hB,
   { os :=hf3.2.1.trans (hf2.2.1.trans hbW.os),tape:=hf3.2.2.1.trans (hf2.2.2.1.trans hbW.tape),output:=hf3.2.2.2.1.trans (hf2.2.2.2.1.trans hbW.output),size:=by rw[hf3.1];show w.heap.size≤W2.heap.size;rw[hf2.1];exact hbW.size,block:=fun y hy hn=>by
      rw[hf3.2.2.2.2 y om]
      show W2.heap[y]? =_
      rw[hf2.2.2.2.2 y om]
      exact hbW.block y hy }⟩
 have hcpA:∀ty dc,(Builtin.copy_ #[25,25] ty #[.slice (some ⟨w.heap.size,i*4,none⟩) (n+1 - i) dc,.slice (some ⟨vb,0,none⟩) 1 1]).run Tryz.prog W1= .ok (goInt 1) W2:=fun ty dc=>by
  rw[hW2]
  exact jB W1 25 25 ty 27 4 w.heap.size (i*4) (n+1 - i) dc ⟨vb,0,none⟩ 1 1 1 vs Tryz.underlying25 hsz ud5 om
   (fun j v hj=>by rw[Addr.add_mid,Nat.zero_add,j6 ((hbW.block vb hvlt).trans hv)];exact hj)
   (fun j hj=>(vC hN (by simp only[LlaQ,hAl,hZ1l,hZ2l];omega)).1) (fun j hj=>(vC hN (j:=i*4+j) (by simp only[LlaQ,hAl,hZ1l,hZ2l];omega)).2) h1v
 have hcpB:∀ty dc sc,(Builtin.copy_ #[25,25] ty #[.slice (some ⟨w.heap.size,(i+1)*4,none⟩) (n - i) dc,.slice (some ⟨g,i*4,none⟩) (n - i) sc]).run Tryz.prog W2.drew= .ok (goInt ((n - i:Nat):Int)) W3:=fun ty dc sc=>by
  rw[hW3]
  exact jB W2.drew 25 25 ty 27 4 w.heap.size ((i+1)*4) (n - i) dc ⟨g,i*4,none⟩ (n - i) sc (n - i) D Tryz.underlying25 hsz ud5 hDl
   (fun j v hj=>by
     have hgW:W2.drew.heap[g]? =some (.cells (A++D++sp).toArray 27 (0,0)):=(hf2.2.2.2.2 g hgN).trans ((hbW.block g hglt).trans s1)
     rw[Addr.add_mid,j6 hgW,List.append_assoc,List.getElem?_append_right om,hAl,show i*4+j - i*4=j by omega,List.getElem?_append_left (List.getElem?_eq_some_iff.1 hj).1]
     exact hj)
   (fun j hj=>(vC (w:=W2.drew) hb2 (by simp only[LlaQ,hAl,hvl,hZl];rw[hDl] at hj;omega)).1) (fun j hj=>(vC (w:=W2.drew) hb2 (j:=(i+1)*4+j) (by simp only[LlaQ,hAl,hvl,hZl];rw[hDl] at hj;omega)).2) h1D
 have hz2:¬((i:Int)=(n:Int)):=by omega
 have hz3' :(cap:Int)<(n:Int)+1:=by omega
 have hGi:¬(G=i):=by omega
 have hGim:¬(G=i+1):=by omega
 have hci:¬(cap=i):=by omega
 have hw1:IntKind.i64.wrap ((i:Int)+1)=(i:Int)+1:=by rw[IntKind.wrap_i64];omega
 have hb1' :(0:Int)≤(i:Int)+1:=by omega
 have hin:i≤n:=by omega
 have htn:((i:Int)+1).toNat=i+1:=by omega
 have hb3' :(i:Int)≤(n:Int):=by omega
 have hnc:n≤cap:=s2
 have hcc:cap≤9223372036854775807:=by unfold maxLen at s3;omega
 have hGG:G≤9223372036854775807:=by unfold maxLen at hG63;omega
 have HCP:=hH (aN hrz (aN hcpA hcpB))
 have mixed:Tryz.prog.follows .mixedOrders=true:=by kernel_rfl
 clear h s1 s2 s3 s4 s5 hxl hA hD hAl hDl hxAD h1D hW1 hW2 hb2 hf2 hv hvl h1v h1x hi0 hz0 hzs hzb hz3 hsz hglt hvlt hik hkk hold hG hZ1 hZ2 hZ1l hZ2l hrow hrz hN hbW hgN hvN hZl hW3 hb3 hf3 hcpA hcpB hB hG63
 go_enter Tryz.func108,Tryz.ntmps108
 have hcA:=HCP.out.2.1 3 (G - i)
 go_wp2_with (at_builtin;refine Lib.wpList_append_run _ rfl _ _ _ _ rfl _ _ rfl rfl _ _ (HCP.out.1 _) ?_)
 go_region_law_o (refine step_copy_runI rfl _ _ 25 25 rfl (.slice (some ⟨w.heap.size,(i+1)*4,none⟩) (n - i) (G - (i+1))) (.slice (some ⟨g,i*4,none⟩) (n - i) (cap - i)) uf3 uf3 (HCP.out.2.2 3 (G - (i+1)) (cap - i)) ?_)
 go_wp2_with fail
 go_ret
 exact HEND.out
theorem ziZ (w:World)(B n i vb:Nat)(sv:Value)(xs vs:List Value)(h:w.ownsRow B 27 4 sv n xs)(hB:B≤w.heap.size)(hi:i≤n)(hn:n≤1000000)(hv:w.heap[vb]? =some (.cells vs.toArray 27 (0,0)))(hvl:vs.length=4)(h1v:∀v∈vs,v.oneCell'=true)(h1x:∀v∈xs,v.oneCell'=true)(hvg:sv.ownBlock≠some vb):
 Calls Tryz.prog 108 #[sv,.int .i64 i,.slice (some ⟨vb,0,none⟩) 1 1] w (zeh w B sv.ownBlock (n+1) (xs.take (i*4)++vs++xs.drop (i*4))):=by
 by_cases he:i=n
 · subst he
   have hx:=h.1
   rw[List.take_of_length_le om,List.drop_eq_nil_of_le om,List.append_nil]
   exact zi0 w B i vb sv xs vs h hB hn hv hvl h1v
 · obtain⟨g,cap,rfl,_⟩:=World.ownsRow.form h om
   have hvg' :vb≠g:=fun e=>hvg (by rw[e];rfl)
   by_cases hc:n+1≤cap
   · exact zgk w B g n cap i vb xs vs h om hc hv hvl h1v h1x hvg'
   · exact zhW w B g n cap i vb xs vs h hB om hn om hv hvl h1v h1x
end Go.Proofs.YtgkmmnihaiopaaaGreat
