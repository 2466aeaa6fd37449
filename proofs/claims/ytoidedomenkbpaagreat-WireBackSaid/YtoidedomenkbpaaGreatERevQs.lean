/-
  .
-/
import Derived.Test.YtoidedomenkbpaaGreatCRefNodeQs
set_option maxRecDepth 100000
set_option maxHeartbeats 40000000
set_option linter.unusedVariables false
namespace Go.Proofs.YtoidedomenkbpaaGreat
open Go.RowKit
structure Seg where
 d:Nat
 a:Option Addr
 cap:Nat
 f:Fo
def Seg.v (s:Seg):Value:= .slice s.a (foLen s.f) s.cap
def Seg.cells (s:Seg):List Value:=[.int .i64 (s.d:Int),s.v]
def yU (A:List Seg):Nat:=(A.map fun s=>zh s.f).sum
theorem jd:yU []=0:=rfl
theorem qM (s:Seg)(A:List Seg):yU (s::A)=zh s.f+yU A:=by simp[yU]
theorem vz (A B:List Seg):yU (A++B)=yU A+yU B:=by simp[yU]
theorem JZ (A:List Seg):yU A.reverse=yU A:=by
 induction A with
 | nil=>rfl
 | cons s A ih=>rw[List.reverse_cons,vz,ih,qM,qM,jd];omega
structure Qm (M:Nat) (s:Seg):Prop where
 deep:s.d+zh s.f≤M
 cap:foLen s.f≤s.cap
theorem zah:∀{f:Fo},f≠ .nil→1≤zh f
 | .nil,h=>absurd rfl h
 | .node _ _ _ _ _,_=>by simp[zh]
theorem zba:∀(A:List Seg),(∀s∈A,s.f≠ .nil)→A.length≤yU A
 | [],_=>NlrQ _
 | s ::A,h=>by
   have h1:=zba A (fun x hx=>h x (List.mem_cons_of_mem _ hx))
   have h2:=zah (h s sp)
   rw[qM,LlcQ];omega
def Kept (T:Nat→Prop)(w w' :World):Prop:=w.heap.size≤w'.heap.size∧∀x,T x→w'.heap[x]? =w.heap[x]?
theorem Kept.trans {T:Nat→Prop}{a b c:World}(h:Kept T a b)(k:Kept T b c):Kept T a c:=⟨NltQ h.1 k.1,fun x hx=>(k.2 x hx).trans (h.2 x hx)⟩
def Qn (T T' :Nat→Prop)(w w' :World):Prop:=∀x,T' x→T x∨(w.heap.size≤x∧x<w'.heap.size)
structure Body (P:Program) (m l:Nat) (J:(Nat→Prop)→List Seg→World→Prop) (Jx:(Nat→Prop)→World→Prop):Prop where
 turn:∀{T T' :Nat→Prop} {A:List Seg} {w w' :World},J T A w→za w w' T→Qn T T' w w'→J T' A w'
 zft:∀{T T' :Nat→Prop} {w w' :World},Jx T w→za w w' T→Qn T T' w w'→Jx T' w'
 empty:∀{T:Nat→Prop} {A B:List Seg} {d c:Nat} {a:Option Addr} {w:World},J T (A++⟨d,a,c,.nil⟩::B) w→J T (A++B) w
 yield:∀{T:Nat→Prop} {d c bo oo:Nat} {a:Option Addr} {key:Int×Int×ByteArray} {k r:Fo} {A:List Seg} {w:World},(∀x,T x→x<w.heap.size)→J T (⟨d,a,c,.node bo oo key k r⟩::A) w→
  ∃ b off,a=some ⟨b,off,none⟩∧YieldAt Fence.wide m P l #[.int .i64 (d:Int),.pointer (some ⟨b,off,none⟩)] w fun e w'=>Kept T w w'∧
   ((e= .returned (.bool true)∧∃ka kc,w'.cell? ⟨b,off+3,none⟩=some (.slice ka (foLen k) kc)∧foLen k≤kc∧J T (⟨d+1,ka,kc,k⟩::⟨d,some ⟨b,off+4,none⟩,c - 1,r⟩::A) w')∨(e= .returned (.bool false)∧Jx T w'))
structure Its (T:Nat→Prop) (w:World) (l LB YB FB DB:Nat) (lv:Value) (L:List Seg) (lf:Bool):Prop where
 later:w.heap[LB]? =some (.cells #[lv] 176 (0,0))
 row:w.ownsRow 0 175 2 lv L.length (L.flatMap Seg.cells)
 yld:w.heap[YB]? =some (.cells #[.func (.yield l) #[] #[]] 173 (0,0))
 flag:w.heap[FB]? =some (.cells #[.bool lf] 4 (0,0))
 down:w.heap[DB]? =some (.cells #[.func (.func 132) #[] #[.pointer (some ⟨LB,0,none⟩),.pointer (some ⟨YB,0,none⟩),.pointer (some ⟨FB,0,none⟩),.pointer (some ⟨DB,0,none⟩)]] 177 (0,0))
 hl:T LB
 hy:T YB
 hf:T FB
 hd:T DB
 hr:∀g,lv.ownBlock=some g→T g
 sub:∀x,T x→x<w.heap.size
theorem zfL (L:List Seg):(L.flatMap Seg.cells).length=L.length*2:=by
 induction L with
 | nil=>rfl
 | cons s L ih=>rw[List.flatMap_cons,LlaQ,ih,LlcQ];simp[Seg.cells];omega
theorem yD {w:World}{x y:Nat}{cs cs' :Array Value}{t t' :TypeId}{fr fr' :Nat×Nat}(h:w.heap[x]? =some (.cells cs t fr))(h' :w.heap[y]? =some (.cells cs' t' fr'))(ht:t≠t'):x≠y:=fun e=>by
 subst e;rw[h] at h';cases h';exact ht rfl
theorem zbv {w:World}{B:Nat}{e:TypeId}{size:Nat}{v:Value}{n:Nat}{xs:List Value}(h:w.ownsRow B e size v n xs){g:Nat}(hg:v.ownBlock=some g):∃cur,w.heap[g]? =some (.cells cur e (0,0)):=by
 rcases h.2 with ⟨hv,_⟩ | ⟨g',cap,cur,hv,hB,hh,_⟩
 · rw[hv] at hg;cases hg
 · rw[hv] at hg;cases hg;exact⟨cur,hh⟩
theorem Its.zer {T:Nat→Prop}{w:World}{l LB YB FB DB:Nat}{lv:Value}{L:List Seg}{lf:Bool}(h:Its T w l LB YB FB DB lv L lf):LB≠YB∧LB≠FB∧LB≠DB∧YB≠FB∧YB≠DB∧FB≠DB∧∀g,lv.ownBlock=some g→g≠LB∧g≠YB∧g≠FB∧g≠DB:=
 ⟨yD h.later h.yld ue0,yD h.later h.flag ue0,yD h.later h.down ue0,yD h.yld h.flag ue0,yD h.yld h.down ue0,yD h.flag h.down ue0,fun g hg=>by
  obtain⟨cur,hc⟩:=zbv h.row hg
  exact⟨yD hc h.later ue0,yD hc h.yld ue0,yD hc h.flag ue0,yD hc h.down ue0⟩⟩
theorem Its.kept {T T' :Nat→Prop}{w w' :World}{l LB YB FB DB:Nat}{lv:Value}{L:List Seg}{lf:Bool}(h:Its T w l LB YB FB DB lv L lf)(hk:∀x,T x→w'.heap[x]? =w.heap[x]?)(hT:∀x,T x→T' x)(hs:∀x,T' x→x<w'.heap.size):Its T' w' l LB YB FB DB lv L lf:=
 ⟨(hk _ h.hl).trans h.later,yo h.row (fun g _ _ hgo=>hk g (h.hr g hgo)),(hk _ h.hy).trans h.yld,(hk _ h.hf).trans h.flag,(hk _ h.hd).trans h.down,hT _ h.hl,hT _ h.hy,hT _ h.hf,hT _ h.hd,fun g hg=>hT g (h.hr g hg),hs⟩
theorem Its.zfc {T T' :Nat→Prop}{w w' :World}{l LB YB FB DB:Nat}{lv:Value}{L:List Seg}{lf b:Bool}(h:Its T w l LB YB FB DB lv L lf)(hk:∀x,T x→x≠FB→w'.heap[x]? =w.heap[x]?)(hf:w'.heap[FB]? =some (.cells #[.bool b] 4 (0,0)))(hT:∀x,T x→T' x)(hs:∀x,T' x→x<w'.heap.size):Its T' w' l LB YB FB DB lv L b:=by
 obtain⟨n1,n2,n3,n4,n5,n6,n7⟩:=h.zer
 exact⟨(hk _ h.hl n2).trans h.later,yo h.row (fun g _ _ hgo=>hk g (h.hr g hgo) (n7 g hgo).2.2.1),(hk _ h.hy n4).trans h.yld,hf,(hk _ h.hd n6.symm).trans h.down,hT _ h.hl,hT _ h.hy,hT _ h.hf,hT _ h.hd,fun g hg=>hT g (h.hr g hg),hs⟩
theorem Its.zhK {T T' :Nat→Prop}{w w' :World}{l LB YB FB DB:Nat}{lv lv' :Value}{L L' :List Seg}{lf:Bool}(h:Its T w l LB YB FB DB lv L lf)(hk:∀x,T x→x≠LB→lv.ownBlock≠some x→w'.heap[x]? =w.heap[x]?)(hl:w'.heap[LB]? =some (.cells #[lv'] 176 (0,0)))(ho:w'.ownsRow 0 175 2 lv' L'.length (L'.flatMap Seg.cells))
 (hr:∀g,lv'.ownBlock=some g→T' g) (hT:∀x,T x→T' x) (hs:∀x,T' x→x<w'.heap.size):Its T' w' l LB YB FB DB lv' L' lf:=by
 obtain⟨n1,n2,n3,n4,n5,n6,n7⟩:=h.zer
 exact⟨hl,ho,(hk _ h.hy n1.symm (fun e=>(n7 _ e).2.1 rfl)).trans h.yld,(hk _ h.hf n2.symm (fun e=>(n7 _ e).2.2.1 rfl)).trans h.flag,(hk _ h.hd n3.symm (fun e=>(n7 _ e).2.2.2 rfl)).trans h.down,hT _ h.hl,hT _ h.hy,hT _ h.hf,hT _ h.hd,hr,hs⟩
structure Zk (T T' :Nat→Prop) (w w' :World) (LB FB:Nat) (lv lv' :Value):Prop where
 wide:∀x,T x→T' x
 new:∀x,T' x→T x∨w.heap.size≤x
 size:w.heap.size≤w'.heap.size
 same:∀x,T x→x≠LB→x≠FB→lv.ownBlock≠some x→w'.heap[x]? =w.heap[x]?
 row:lv'.ownBlock=lv.ownBlock∨∀g,lv'.ownBlock=some g→w.heap.size≤g
theorem Zk.trans {T T1 T2:Nat→Prop}{w w1 w2:World}{LB FB:Nat}{lv lv1 lv2:Value}(h:Zk T T1 w w1 LB FB lv lv1)(k:Zk T1 T2 w1 w2 LB FB lv1 lv2)(hs:∀x,T x→x<w.heap.size):Zk T T2 w w2 LB FB lv lv2 where
 wide:=fun x hx=>k.wide x (h.wide x hx)
 new:=fun x hx=>by
  have:=h.size
  rcases k.new x hx with h1 | h1
  · exact h.new x h1
  · exact Or.inr om1
 size:=NltQ h.size k.size
 same:=fun x hx h1 h2 h3=>(k.same x (h.wide x hx) h1 h2 (fun e=>by
  rcases h.row with hr | hr
  · rw[hr] at e;exact h3 e
  · have:=hr x e;have:=hs x hx;omega)).trans (h.same x hx h1 h2 h3)
 row:=by
  have:=h.size
  rcases k.row with h1 | h1
  · rw[h1];exact h.row
  · exact Or.inr fun g hg=>by have:=h1 g hg;omega
def Qj (J:(Nat→Prop)→List Seg→World→Prop)(Jx:(Nat→Prop)→World→Prop)(M k:Nat)(s:Seg)(A A' :List Seg)(T:Nat→Prop)(bl lf:Bool)(w:World):Prop:=
 (bl=true∧lf=false∧A'= []∧J T A w)∨(bl=false∧A'.length≤zh s.f∧((lf=false∧J T (A'++A) w∧(∀x∈A',Qm M x∧x.f≠ .nil)∧yU A'≤zh s.f∧(0<k→yU A'<zh s.f))∨(lf=true∧Jx T w)))
def za2 (J:(Nat→Prop)→List Seg→World→Prop)(Jx:(Nat→Prop)→World→Prop)(M k l LB YB FB DB:Nat)(T:Nat→Prop)(s:Seg)(A L:List Seg)(lv:Value)(w:World)(e:Ending)(w' :World):Prop:=
 ∃(bl lf:Bool) (T' :Nat→Prop) (lv' :Value) (A' :List Seg),e= .returned (.bool bl)∧Zk T T' w w' LB FB lv lv'∧Its T' w' l LB YB FB DB lv' (L++A') lf∧Qj J Jx M k s A A' T' bl lf w'
def zd0 (J:(Nat→Prop)→List Seg→World→Prop)(Jx:(Nat→Prop)→World→Prop)(M l LB YB FB DB k:Nat):Prop:=
 ∀ (T:Nat→Prop) (w:World) (s:Seg) (A L:List Seg) (lv:Value),Its T w l LB YB FB DB lv L false→J T (s::A) w→Qm M s→L.length+zh s.f≤1000000→
  Calls Tryz.prog 132 #[.agg #[.int .i64 (s.d:Int),s.v],.int .i64 (k:Int),.pointer (some ⟨LB,0,none⟩),.pointer (some ⟨YB,0,none⟩),.pointer (some ⟨FB,0,none⟩),.pointer (some ⟨DB,0,none⟩)] w (za2 J Jx M k l LB YB FB DB T s A L lv w)
theorem YieldAt.zbc {m:Nat}(m' :Nat){P:Program}{l:Nat}{args:Array Value}{W:World}{R:Ending→World→Prop}(h:YieldAt Fence.wide m P l args W R):YieldAt Fence.wide m' P l args W R:=by
 obtain⟨fn,tmps,assign,body,hy,hr⟩:=h
 exact⟨fn,tmps,assign,body,hy,hr.1,fun c cs _=>hr.2 c cs (room_wide _)⟩
end Go.Proofs.YtoidedomenkbpaaGreat
namespace Go.Proofs.YtoidedomenkbpaaGreat
open Go.RowKit
theorem Qo:∀(M:List Seg) (k:Nat) (s:Seg),M[k]? =some s→(M.flatMap Seg.cells)[k*2]? =some (.int .i64 (s.d:Int))∧(M.flatMap Seg.cells)[k*2+1]? =some s.v
 | [],_,_,h=>by simp at h
 | x ::M,0,s,h=>by
   simp at h;subst h
   simp[Seg.cells]
 | x ::M,k+1,s,h=>by
   have:=Qo M k s ud6
   rw[List.flatMap_cons]
   have e1:(k+1)*2=k*2+1+1:=by omega
   rw[e1]
   simpa [Seg.cells] using this
theorem QP:∀(M:List Seg) (k:Nat) (s:Seg),k<M.length→(M.set k s).flatMap Seg.cells=((M.flatMap Seg.cells).set (k*2) (.int .i64 (s.d:Int))).set (k*2+1) s.v
 | [],_,_,h=>by simp at h
 | x::M,0,s,h=>by simp[Seg.cells]
 | x ::M,k+1,s,h=>by
   have:=QP M k s ud6
   rw[pgF,List.flatMap_cons,List.flatMap_cons,this]
   have e1:(k+1)*2=k*2+1+1:=by omega
   rw[e1]
   simp[Seg.cells]
def Turned (L M:List Seg)(i:Nat):Prop:=M.length=L.length∧∀k,k<L.length→M[k]? =if k<i∨L.length - i≤k then L[L.length - 1 - k]? else L[k]?
theorem Turned.start (L:List Seg):Turned L L 0:=⟨rfl,fun k hk=>by rw[inQ om1]⟩
theorem Turned.step {L M:List Seg}{i:Nat}(h:Turned L M i)(hi:i+1+i<L.length)(s t:Seg)(hs:M[i]? =some s)(ht:M[L.length - 1 - i]? =some t):Turned L ((M.set i t).set (L.length - 1 - i) s) (i+1):=by
 refine⟨by simp[h.1],fun k hk=>?_⟩
 have hM:=h.2 k hk
 have h1:=h.2 i om1
 have h2:=h.2 (L.length - 1 - i) om1
 rw[inQ om1] at h1 h2
 rw[List.getElem?_set,List.getElem?_set]
 by_cases hk1:k=L.length - 1 - i
 · subst hk1
   rw[ipQ rfl,ipQ (by simp[h.1];omega),ipQ om1,←hs,h1]
   congr 1;omega
 · rw [inQ (Ne.symm hk1)]
   by_cases hk2:k=i
   · subst hk2
     rw[ipQ rfl,ipQ (by rw[h.1];omega),ipQ om1,←ht,h2]
   · rw[inQ (Ne.symm hk2),hM]
     by_cases hc:k<i∨L.length - i≤k
     · rw[ipQ hc,ipQ om1]
     · rw[inQ hc,inQ om1]
theorem Turned.done {L M:List Seg}{i:Nat}(h:Turned L M i)(hi:L.length≤i+1+i):M=L.reverse:=by
 apply List.ext_getElem?
 intro k
 by_cases hk:k<L.length
 · rw[List.getElem?_reverse hk,h.2 k hk]
   split
   · rfl
   · congr 1;omega
 · rw[List.getElem?_eq_none (by rw[h.1];omega),List.getElem?_eq_none (by rw[List.length_reverse];omega)]
def zjD (lv:Value)(L:List Seg)(w:World)(e:Ending)(w' :World):Prop:=e= .returned (.tuple #[])∧w'.ownsRow 0 175 2 lv L.length (L.reverse.flatMap Seg.cells)∧za w w' (fun x=>lv.ownBlock=some x)
def JQ (la:Option Addr)(n lc:Nat)(L:List Seg)(w:World)(i:Nat)(wr:World):Prop:=∃M,Turned L M i∧wr.ownsRow 0 175 2 (.slice la n lc) n (M.flatMap Seg.cells)∧za w wr (fun x=>(Value.slice la n lc).ownBlock=some x)
theorem JQ.drew {la:Option Addr}{n lc i:Nat}{L:List Seg}{w wr:World}(h:JQ la n lc L w i wr):JQ la n lc L w i wr.drew:=by
 obtain⟨M,h1,h2,h3⟩:=h
 exact⟨M,h1,h2,h3.drew⟩
theorem JQ.end {la:Option Addr}{n lc i:Nat}{L:List Seg}{w wr:World}(h:JQ la n lc L w i wr)(hn:n=L.length)(hi:n≤i+1+i):zjD (.slice la n lc) L w (.returned (.tuple #[])) wr:=by
 obtain⟨M,h1,h2,h3⟩:=h
 rw[h1.done om1] at h2
 subst hn
 exact⟨rfl,h2,h3⟩
theorem JQ.at {la:Option Addr}{n lc i:Nat}{L:List Seg}{w wr:World}(h:JQ la n lc L w i wr)(hn:n=L.length)(hi:i+1+i<n):∃(g:Nat) (s t:Seg),la=some ⟨g,0,none⟩∧(∀j,wr.frozen? ⟨g,j,none⟩=false)∧
 wr.cell? ⟨g,i*2,none⟩=some (.int .i64 (s.d:Int))∧wr.cell? ⟨g,i*2+1,none⟩=some (.slice s.a (foLen s.f) s.cap)∧wr.cell? ⟨g,(n - 1 - i)*2,none⟩=some (.int .i64 (t.d:Int))∧wr.cell? ⟨g,(n - 1 - i)*2+1,none⟩=some (.slice t.a (foLen t.f) t.cap)∧
 JQ (some ⟨g,0,none⟩) n lc L w (i+1) ((((wr.setCell ⟨g,i*2,none⟩ (.int .i64 (t.d:Int))).setCell ⟨g,i*2+1,none⟩ (.slice t.a (foLen t.f) t.cap)).setCell ⟨g,(n - 1 - i)*2,none⟩ (.int .i64 (s.d:Int))).setCell ⟨g,(n - 1 - i)*2+1,none⟩ (.slice s.a (foLen s.f) s.cap)):=by
 obtain⟨M,h1,h2,h3⟩:=h
 obtain⟨g,cap,e,_⟩:=h2.form om1
 cases e
 obtain⟨s,hs⟩:∃s,M[i]? =some s:=⟨M[i]'(by have:=h1.1;omega),List.getElem?_eq_getElem _⟩
 obtain⟨t,ht⟩:∃t,M[n - 1 - i]? =some t:=⟨M[n - 1 - i]'(by have:=h1.1;omega),List.getElem?_eq_getElem _⟩
 have cs:=Qo M i s hs
 have ct:=Qo M _ t ht
 refine⟨g,s,t,rfl,fun j=>h2.frozenAt j,yH h2 rfl _ _ cs.1,yH h2 rfl _ _ cs.2,yH h2 rfl _ _ ct.1,yH h2 rfl _ _ ct.2,?_⟩
 have k1:=(h2.stored (i*2) (.int .i64 (t.d:Int))).1
 have k2:=(k1.stored (i*2+1) (.slice t.a (foLen t.f) t.cap)).1
 have k3:=(k2.stored ((n - 1 - i)*2) (.int .i64 (s.d:Int))).1
 have k4:=(k3.stored ((n - 1 - i)*2+1) (.slice s.a (foLen s.f) s.cap)).1
 have ht':=ht
 rw[hn] at ht'
 refine⟨(M.set i t).set (n - 1 - i) s,by rw[hn];exact h1.step om1 s t hs ht',?_,?_⟩
 · rw[QP (M.set i t) _ s (by rw[List.length_set];have:=h1.1;omega),QP M i t (by have:=h1.1;omega)]
   exact k4
 · have hb:(fun x=>(Value.slice (some ⟨g,0,none⟩) n lc).ownBlock=some x)=fun x=>x=g:=by
    funext x;simp[Value.ownBlock];exact eq_comm
   rw[hb] at h3 ⊢
   have tr:∀{A B:World},za w A (fun x=>x=g)→za A B (fun x=>x=g)→za w B (fun x=>x=g):=fun p q=>p.trans q (fun k hk=>Or.inl hk)
   exact tr (tr (tr (tr h3 (za.setCell (S:=fun x=>x=g) (a:=⟨g,_,none⟩) rfl _)) (za.setCell (S:=fun x=>x=g) (a:=⟨g,_,none⟩) rfl _)) (za.setCell (S:=fun x=>x=g) (a:=⟨g,_,none⟩) rfl _)) (za.setCell (S:=fun x=>x=g) (a:=⟨g,_,none⟩) rfl _)
theorem zdw (w:World)(la:Option Addr)(n lc:Nat)(L:List Seg)(hn:n=L.length)(hl:n≤2000000)(ho:w.ownsRow 0 175 2 (.slice la n lc) n (L.flatMap Seg.cells)):Calls Tryz.prog 133 #[.slice la n lc] w (zjD (.slice la n lc) L w):=by
 have HS:Hid (JQ la n lc L w 0 w):=hH ⟨L,Turned.start L,ho,za.refl _ _⟩
 have HN:=hH hn
 clear ho hn
 go_enter Tryz.func133,Tryz.ntmps133
 go_wp2_with fail
 go_loopw [2,3] (fun vi vj wr=>∃i:Nat,i≤n∧vi= .int .i64 i∧vj= .int .i64 ((n:Int) - 1 - i)∧Hid (JQ la n lc L w i wr)) (fun vi _ _=>n - (intOf vi).toNat)
 case atStart=>exact⟨0,NzlQ _,rfl,by simp,HS⟩
 case round=>
  obtain⟨i,hi,rfl,rfl,hh⟩:=hrel
  by_cases hlt:i+1+i<n
  · obtain⟨g,s,t,rfl,fz,c0,c1,c2,c3,hnx⟩:=hh.out.at HN.out hlt
    obtain⟨p,hp⟩:∃p,p=n - 1 - i:=⟨_,rfl⟩
    have hpi:(n:Int) - 1 - (i:Int)=(p:Int):=by omega
    rw[←hp] at c2 c3 hnx
    rw[hpi]
    have hip:(i:Int)<(p:Int):=by omega
    have hpn:(p:Int)<(n:Int):=by omega
    have hin:(i:Int)<(n:Int):=by omega
    have hi0:(0:Int)≤(i:Int):=by omega
    have hp0:(0:Int)≤(p:Int):=by omega
    have HX:=hH (aN hnx (aN hp hpi))
    clear hnx hp hpi hh
    go_wp2_with fail
    go_region_law (fail)
    all_goals
     have HY:Hid (JQ (some ⟨g,0,none⟩) n lc L w (i+1) ((((wr.setCell ⟨g,i*2,none⟩ (.int .i64 (t.d:Int))).setCell ⟨g,i*2+1,none⟩ (.slice t.a (foLen t.f) t.cap)).setCell ⟨g,p*2,none⟩ (.int .i64 (s.d:Int))).setCell ⟨g,p*2+1,none⟩ (.slice s.a (foLen s.f) s.cap)).drew):=hH HX.out.1.drew
     have hpe:(p:Int) - 1=(n:Int) - 1 - ((i+1:Nat):Int):=by have:=HX.out.2.2;omega
     have HPE:=hH hpe
     clear hpe c0 c1 c2 c3 fz
     go_wp2_with fail
     go_roundw
     case rel=>exact⟨i+1,by omega,by go_num,by rw[HPE.out],HY⟩
     case measure=>simp[intOf];omega
  · have hji:¬(i:Int)<(n:Int) - 1 - i:=by omega
    have HE:=hH (hh.out.end HN.out om1)
    clear hh HS
    go_wp2_with fail
    go_end0
    exact HE.out
end Go.Proofs.YtoidedomenkbpaaGreat
