/-
  .
-/
import Derived.Test.YtoidedomenkbpaaGreatERangeQs
set_option maxRecDepth 100000
set_option maxHeartbeats 40000000
set_option linter.unusedVariables false
set_option linter.unusedSimpArgs false
namespace Go.Proofs.YtoidedomenkbpaaGreat
open Go.RowKit
theorem Tryz.zkV:(Tryz.prog.info? 35).map (fun i=>(i.size,i.bytes,i.zero.map (fun z=>z.cells.size)))=some (4,56,some 4):=by kernel_rfl
def zjq (w:World)(t:TypeId)(size n:Nat)(xs:List Value)(e:Ending)(w' :World):Prop:=∃v',e= .returned v'∧Below w.heap.size w w'∧w'.ownsRow w.heap.size t size v' n xs
theorem Tryz.zf3 (w:World)(a:Option Addr)(n c:Nat):(binOp .eql 33 (.slice a n c) (.slice none 0 0)).run Tryz.prog w= .ok (.bool a.isNone) w:=Lib.run_eql_slice_nil w _ _ a n c 0 0 Tryz.underlying33
theorem zcN (w:World)(a:Option Addr)(n cap:Nat)(xs:List Value)(hl:xs.length=n*4)(h1:∀u∈xs,u.oneCell'=true)(hn:n≤1000000)(hc:∀ad,a=some ad→∀j u,xs[j]? =some u→w.cell? (ad.add j)=some u)(h0:a=none→n=0):
 Calls Tryz.prog 98 #[.slice a n cap] w (zjq w 35 4 n xs):=by
 have hq:=Tryz.zf3
 cases a with
 | none=>
   have hn0:=h0 rfl
   subst hn0
   have hx:xs= []:=List.eq_nil_of_length_eq_zero (by simpa using hl)
   subst hx
   clear hl h1 hn hc h0
   go_enter Tryz.func98,Tryz.ntmps98
   go_wp2_with fail
   go_ret
   exact⟨_,rfl,BrQ _ _,World.ownsRow_nil _ _ _ _⟩
 | some ad=>
   have HC:=hH (aN hl (aN h1 (hc ad rfl)))
   obtain⟨i0,z0,hi0,hz0,hz1,hz2,hz3⟩:=jk Tryz.zkV
   have HI:=hH (aN hi0 (aN hz0 (aN hz1 (aN hz2 hz3))))
   clear hl h1 hc h0 hi0 hz0 hz1 hz2 hz3
   go_enter Tryz.func98,Tryz.ntmps98
   go_wp2_with (at_builtin;refine wpList_append_own_at _ rfl (.tmp 5) (.tmp 6) _ rfl w.heap.size 35 i0 z0 4 56 Tryz.underlying33 HI.out.1 HI.out.2.1 HI.out.2.2.1 HI.out.2.2.2.1 HI.out.2.2.2.2 om1 (.slice (some ⟨w.heap.size,0,none⟩) 0 0) 0 [] rfl (World.ownsRow_made w #[] 0 (NlrQ _) ud1 rfl) ad n cap xs rfl HC.out.1 (fun j u hj=>Lib.cell?_alloc_some _ (HC.out.2.2 j u hj)) HC.out.2.1 ud1 om1 sp ?_;intro v' w1 hown hgrow _ hat)
   go_ret
   have hs:=hgrow.size
   rw[WsaQ] at hs
   exact⟨_,rfl,⟨hgrow.os,hgrow.tape,hgrow.output,by omega,fun x hx=>by
    rw[hgrow.block x ud4 (by simp[Value.ownBlock];omega),BhaQ _ _ _ hx]⟩,by rw[Nat.zero_add,List.nil_append] at hown;exact hown⟩
abbrev Sp:=Nat×(Int×Int×ByteArray)×Fo
def spF:Nat→Fo→List Sp
 | _,.nil=>[]
 | d,.node _ _ k l r=>(d,k,l)::(spF (d+1) l++spF d r)
def spA (A:List Seg):List Sp:=A.flatMap fun s=>spF s.d s.f
theorem jg:∀(d:Nat) (f:Fo),(spF d f).length=zh f
 | _,.nil=>rfl
 | d,.node _ _ k l r=>by simp[spF,zh,jg (d+1) l,jg d r]
theorem zdF (A B:List Seg)(d c:Nat)(a:Option Addr):spA (A++⟨d,a,c,.nil⟩::B)=spA (A++B):=by simp[spA,spF]
def zkP (B:Nat)(S:Nat→Prop)(tot:List Sp)(R:List Sp→(Nat→Prop)→World→Prop)(T:Nat→Prop)(A:List Seg)(V:World):Prop:=
 ∃pre,tot=pre++spA A∧(∀s∈A,zQ V S s.f s.a)∧(∀x,T x→B≤x)∧B≤V.heap.size∧R pre T V
def zcD (B:Nat)(T S:Nat→Prop)(R:List Sp→(Nat→Prop)→World→Prop)(Rx:Code→(Nat→Prop)→World→Prop)(pre:List Sp)(W:World)(e:Exit)(_:Act)(V:World):Prop:=
 KeepsFrom B W V∧Kept T W V∧(∀x,S x→V.heap[x]? =W.heap[x]?)∧((e= .normal∧R pre T V)∨(e= .ret∧Rx .ret T V)∨∃id,e= .exit id∧Rx (.exit id) T V)
theorem zaw {n:Nat}{g:Operand}{ps:Array Tmp}{assign body:Code}{Q:Exit→Act→World→Prop}{a:Act}{w:World}(h1:1≤n){NB:Nat}(hg:a.eval g= .func (.func 131) #[] #[.pointer (some ⟨NB,0,none⟩)])
 (s:Seg) (hd:s.d=1) (hne:s.f≠ .nil) (hcap:foLen s.f≤s.cap) (hsz:zh s.f≤500000) (hNB:w.cell? ⟨NB,0,none⟩=some s.v) (hps:ps.size=2) (S:Nat→Prop) (hS:∀x,S x→x<w.heap.size) (hf:zQ w S s.f s.a)
 (R:List Sp→(Nat→Prop)→World→Prop) (Rx:Code→(Nat→Prop)→World→Prop)
 (hR:∀{pre:List Sp} {T T' :Nat→Prop} {V V' :World},R pre T V→(∀x,T x→w.heap.size≤x)→za V V' (fun x=>T x∨(w.heap.size≤x∧Za V x))→Qn T T' V V'→R pre T' V')
 (hRx:∀{c:Code} {T T' :Nat→Prop} {V V' :World},Rx c T V→(∀x,T x→w.heap.size≤x)→za V V' (fun x=>T x∨(w.heap.size≤x∧Za V x))→Qn T T' V V'→Rx c T' V')
 (h0:R [] (fun _=>False) w)
 (hround:∀(l:Nat),l=w.heap.size+1→∀(T:Nat→Prop) (pre rest:List Sp) (d:Nat) (key:Int×Int×ByteArray) (k:Fo) (V:World) (b off kc:Nat) (ka:Option Addr),(∀x,T x→x<V.heap.size∧w.heap.size+2≤x)→w.heap.size+2≤V.heap.size→spF 1 s.f=pre++(d,key,k)::rest→S b→
   V.cell? ⟨b,off,none⟩=some (.int .i64 key.1)→V.cell? ⟨b,off+1,none⟩=some (.int .i64 key.2.1)→V.cell? ⟨b,off+2,none⟩=some (.string key.2.2)→V.cell? ⟨b,off+3,none⟩=some (.slice ka (foLen k) kc)→foLen k≤kc→zQ V S k ka→R pre T V→
   ∀ (K:Act→World→Prop),(∀a₁,(∀V',(∃o',V'=V.putObj l o'∧∃o,V.heap[l]? =some o∧o.isCells=false)→body.wpIn (Fence.wide.inRound l) (n - 1 - 1) Tryz.prog (zcD w.heap.size T S R Rx (pre++[(d,key,k)]) V') a₁ V')→K a₁ V)→
    assign.wpIn (Fence.wide.inRound l) (n - 1 - 1) Tryz.prog (Exit.then K (fun _ _ _=>False)) { tmps:=(ps.zip #[.int .i64 (d:Int),.pointer (some ⟨b,off,none⟩)]).foldl (fun t (p,v)=>t.setIfInBounds p v) a.tmps,defers:=[] } V)
 (hdone:∀(D:Nat) (T:Nat→Prop) (V:World),w.heap.size≤D→R (spF 1 s.f) T V→V.heap[D]? =some (.deferred (some []))→Q .normal { a with defers:={ target:= .collected D,args:= #[] }::a.defers } V)
 (hstop:∀(D:Nat) (c:Code) (T:Nat→Prop) (V:World),w.heap.size≤D→Rx c T V→V.heap[D]? =some (.deferred (some []))→c.wpIn Fence.wide n Tryz.prog Q { a with defers:={ target:= .collected D,args:= #[] }::a.defers } V):
 (Code.rangeFunc g ps assign body).wpIn Fence.wide n Tryz.prog Q a w:=by
 have keepS:∀{T:Nat→Prop} {V V' :World},(∀x,T x→w.heap.size≤x)→w.heap.size≤V.heap.size→za V V' (fun x=>T x∨(w.heap.size≤x∧Za V x))→∀x,S x→V'.heap[x]? =V.heap[x]?:=fun hT hV ht x hx=>by
  have hxl:=hS x hx
  exact ht.block x om1 (fun h=>by
   rcases h with h | h
   · have:=hT x h;omega
   · omega)
 refine zeC h1 hg s hd hne hcap hsz hNB hps (zkP w.heap.size S (spF 1 s.f) R) (fun c T V=>Rx c T V∧(∀x,T x→w.heap.size≤x)∧w.heap.size≤V.heap.size) ?_ ?_ ?_ ?_ ?_ ?_ ?_
 · rintro T T' A V V' ⟨pre,e,h2,h3,h4,h5⟩ ht hw
   refine⟨pre,e,fun x hx=>(h2 x hx).kept fun y hy=>⟨hy,keepS h3 h4 ht y hy⟩,fun x hx=>(hw x hx).elim (h3 x) (fun h=>by omega),NltQ h4 ht.size,hR h5 h3 ht hw⟩
 · rintro c T T' V V' ⟨h5,h3,h4⟩ ht hw
   exact⟨hRx h5 h3 ht hw,fun x hx=>(hw x hx).elim (h3 x) (fun h=>by omega),NltQ h4 ht.size⟩
 · rintro T A B d c ad V ⟨pre,e,h2,h3⟩
   rw[zdF] at e
   exact⟨pre,e,fun x hx=>h2 x (by rcases List.mem_append.1 hx with hx | hx;exact List.mem_append_left _ hx;exact List.mem_append_right _ (List.mem_cons_of_mem _ hx)),h3⟩
 · exact⟨[],by simp[spA,hd],fun x hx=>by rw[List.mem_singleton] at hx;subst hx;exact hf,fun _ h=>h.elim,NlrQ _,h0⟩
 · rintro l hl T d c bo oo ad key k r A V hT hV ⟨pre,e,h2,h3,h4,h5⟩
   obtain⟨b,off,ka,kc,e1,hb,c0,c1,c2,c3,c4,hk,hr⟩:=h2 _ (List.mem_cons_self ..)
   simp only at e1 c3 c4 hk hr
   have e2:spF 1 s.f=pre++(d,key,k)::(spF (d+1) k++(spF d r++spA A)):=by rw[e];simp[spA,spF]
   refine⟨b,off,e1,fun K hK=>hround l hl T pre _ d key k V b off kc ka hT hV e2 hb c0 c1 c2 c3 c4 hk h5 K fun a₁ hbody=>hK a₁ fun V' hV'=>wpIn_mono (hbody V' hV') ?_⟩
   rintro e5 a5 V2 ⟨k1,k2,k3,hx⟩
   obtain⟨o',ev,o,ho,hoc⟩:=hV'
   have hs2:=k1.size
   have hsv:V'.heap.size=V.heap.size:=by rw[ev];simp[World.putObj]
   have hSk:∀x,S x→V2.heap[x]? =V.heap[x]?:=fun x hx=>by
    have:=hS x hx
    rw[k3 x hx,ev,WphQ om1]
   refine⟨k1,k2,?_⟩
   rcases hx with ⟨rfl,hr'⟩ | ⟨rfl,hx⟩ | ⟨id,rfl,hx⟩
   · refine .inl ⟨rfl,ka,kc,(World.cell?_of_block (hSk b hb)).trans c3,c4,pre++[(d,key,k)],?_,?_,fun x hx=>by have:=(hT x hx).2;omega,by omega,hr'⟩
     · rw[e2];simp[spA]
     · intro x hx
       rcases List.mem_cons.1 hx with rfl | hx
       · exact hk.kept fun y hy=>⟨hy,hSk y hy⟩
       · rcases List.mem_cons.1 hx with rfl | hx
         · exact hr.kept fun y hy=>⟨hy,hSk y hy⟩
         · exact (h2 x (List.mem_cons_of_mem _ hx)).kept fun y hy=>⟨hy,hSk y hy⟩
   · exact .inr (.inl ⟨rfl,hx,fun x hx=>by have:=(hT x hx).2;omega,by omega⟩)
   · exact .inr (.inr ⟨id,rfl,hx,fun x hx=>by have:=(hT x hx).2;omega,by omega⟩)
 · rintro D T V hD ⟨pre,e,h2,h3,h4,h5⟩ hV
   rw[show spA []= [] from rfl,List.append_nil] at e
   rw[←e] at h5
   exact hdone D T V hD h5 hV
 · rintro D c T V hD ⟨h5,_⟩ hV
   exact hstop D c T V hD h5 hV
end Go.Proofs.YtoidedomenkbpaaGreat
namespace Go.Proofs.YtoidedomenkbpaaGreat
open Go.RowKit Go.Shelf
attribute [local go_sem] Oper.semAt_some
def qJ (t:Tr):Fo:= .node 0 0 (t.id,t.kind,t.text) t.kids .nil
theorem jf (t:Tr):zh (qJ t)=zh t.kids+1:=by simp[qJ,zh]
theorem zbE {w W:World}{S:Nat→Prop}{nb cap:Nat}{ka:Option Addr}{t:Tr}(hS:∀x,S x→W.heap[x]? =w.heap[x]?)(hc:foLen t.kids≤cap)(hk:zQ w S t.kids ka)(hb:W.heap[nb]? =some (.cells #[.int .i64 t.id,.int .i64 t.kind,.string t.text,.slice ka (foLen t.kids) cap] 35 (0,0))):zQ W (fun x=>S x∨x=nb) (qJ t) (some ⟨nb,0,none⟩):=
 ⟨nb,0,ka,cap,rfl,Or.inr rfl,by rw[corQ _ _ 0 _ _ _ hb];rfl,by rw[corQ _ _ 1 _ _ _ hb];rfl,by rw[corQ _ _ 2 _ _ _ hb];rfl,by rw[corQ _ _ 3 _ _ _ hb];rfl,hc,hk.kept fun x hx=>⟨Or.inl hx,hS x hx⟩,True.intro⟩
def zlq (w:World)(n:Int)(e:Ending)(w' :World):Prop:=e= .returned (.int .i64 n)∧Below w.heap.size w w'
def Y4 (l:List Sp):Int:=(l.length:Int)
end Go.Proofs.YtoidedomenkbpaaGreat
namespace Go.Proofs.YtoidedomenkbpaaGreat
open Go.RowKit Go.Shelf
attribute [local go_sem] Oper.semAt_some
theorem zaX {P:Program}{fn:Func}{p:Tmp}{ty:TypeId}(h:fn.results= #[.cell p ty])(tmps:Array Value)(w:World)(g:Nat)(t:TypeId)(cs:Array Value)(fr:Nat×Nat)(d:TypeDesc)
 (hp:tmps.getD p undef= .pointer (some ⟨g,0,none⟩)) (hg:w.heap[g]? =some (.cells cs t fr)) (hu:P.underlying ty=some d) (hd:(match d with | .struct _ | .array _ _=>true | _=>false)=true) (hi:(P.info? ty).map (·.size)=some cs.size):
 (results fn tmps).run P w= .ok (.agg cs) w:=by
 exact sf7
end Go.Proofs.YtoidedomenkbpaaGreat
namespace Go.Proofs.YtoidedomenkbpaaGreat
open Go.RowKit
def zU (w:World)(os:List Obj):World:=os.foldl (fun w o=>w.alloc o) w
theorem qV:∀(os:List Obj) (w:World),(zU w os).heap.size=w.heap.size+os.length
 | [],_=>rfl
 | o ::os,w=>by
   show (zU (w.alloc o) os).heap.size=_
   rw[qV os,WsaQ,LlcQ];omega
theorem zR:∀(os:List Obj) (w:World),Below w.heap.size w (zU w os)
 | [],w=>BrQ _ _
 | o::os,w=>((BrQ _ w).alloc (NlrQ _) o).trans ((zR os (w.alloc o)).mono sp)
theorem zD:∀(os:List Obj) (w:World) (i:Nat) (o:Obj),os[i]? =some o→(zU w os).heap[w.heap.size+i]? =some o
 | [],_,_,_,h=>by simp at h
 | o ::os,w,0,o',h=>by
   simp at h;subst h
   show (zU (w.alloc o) os).heap[w.heap.size]? =_
   rw[(zR os (w.alloc o)).block _ sp];exact World.alloc_heap_new w o
 | o ::os,w,i+1,o',h=>by
   have:=zD os (w.alloc o) i o' ud6
   rw[WsaQ] at this
   show (zU (w.alloc o) os).heap[w.heap.size+(i+1)]? =_
   rw[show w.heap.size+(i+1)=w.heap.size+1+i by omega];exact this
structure Sl where
 kinds:List Int
 least:Int
 most:Int
structure Kd where
 name:ByteArray
 text:Bool
 slots:List Sl
instance:Inhabited Sl:=⟨⟨[],0,0⟩⟩
instance:Inhabited Kd:=⟨⟨⟨#[]⟩,false,[]⟩⟩
section
variable {n:Nat} {P:Program} {ops:Array Oper} {Q:Exit→Act→World→Prop} {md:Region.Mode} {S:World→Prop}
theorem Yb {i:Nat}{o:Oper}{v:Value}{a:Act}(hi:ops[i]? =some o)(hy:YieldsIf P ops S o v a){K:Act→World→Prop}{w:World}(hS:S w)(h:K (a.put o.dst v) w):wpOpIn Fence.wide n P ops Q i K a w:=by
 unfold wpOpIn
 simp only[hi]
 rcases hy with ⟨hw,hv⟩ | ⟨hw,rfl⟩
 · simp only[hw,if_true,Oper.wpIn,show Fence.wide.round=none from rfl,Oper.semAt_none,hv w hS,Oper.uponIn]
   exact⟨fun _ _=>trivial,h⟩
 · simp only[hw,Bool.false_eq_true,if_false]
   exact⟨fun _ _=>trivial,h⟩
theorem zcw {j:Nat}{oi oj:Oper}{v:Value}(hj:ops[j]? =some oj)(hap:oi.apart ops oj=true)(hsi:∀cs b,oi.op≠ .select cs b)(hsj:∀cs b,oj.op≠ .select cs b)
 (hQ:∀c a w,Q (.panic c) (a.put oi.dst v) w→Q (.panic c) a w) {K:Act→World→Prop} {a:Act} {w:World} (hy:YieldsIf P ops S oi v a) (h:wpOpIn Fence.wide n P ops Q j K (a.put oi.dst v) w):
 wpOpIn Fence.wide n P ops Q j (fun a' w'=>YieldsIf P ops S oi v a'∧K (a'.put oi.dst v) w') a w:=by
 obtain⟨h1,h2,h3⟩:=Oper.apart_spec hap
 have keep:∀(a:Act),YieldsIf P ops S oi v a→∀u,YieldsIf P ops S oi v (a.put oj.dst u):=fun a hy u=>
  hy.of_same (execOp_put oi hsi a oj.dst u h3) (wanted_put oi a oj.dst u h3)
 have keepD:∀d,YieldsIf P ops S oi v { a with defers:=d::a.defers }:=fun d=>hy.of_same rfl rfl
 unfold wpOpIn at*
 simp only[hj] at*
 rw[wanted_put oj a oi.dst v h1] at h
 split
 · rename_i hw
   simp only[hw,if_true] at h
   unfold Oper.wpIn at*
   refine⟨fun _ _=>trivial,?_⟩
   have h:=h.2
   rw[show Fence.wide.round=none from rfl,Oper.semAt_none,execOp_put oj hsj a oi.dst v h1] at h
   rw[show Fence.wide.round=none from rfl,Oper.semAt_none]
   generalize (execOp a.eval oj).run P w=r at*
   cases r with
   | ok x w'=>
     cases x<;>simp only[Oper.uponIn] at h ⊢
     case value u=>exact⟨keep a hy u,by rw[←Act.put_comm a v u h2];exact h⟩
     case skip=>exact⟨keep a hy _,by rw[←Act.put_comm a v undef h2];exact h⟩
     case defer d=>
      refine⟨keep _ (keepD d) _,?_⟩
      rw[←Act.put_comm _ v undef h2,←Act.put_defers]
      exact h
     case enter f args=>
      refine⟨h.1,CallsIn.mono h.2 fun e w'' he=>?_⟩
      exact sg1
     case row row args=>exact⟨h.1,RowsIn.mono h.2 fun u w'' he=>⟨keep a hy u,by rw[←Act.put_comm a v u h2];exact he⟩⟩
     case round l f tmps assign body=>
      refine⟨h.1,RoundIn.mono h.2 fun e w'' he=>?_⟩
      exact sg1
   | halt x w'=>
     cases x<;>simp only[Oper.uponIn] at h ⊢
     case panic u=>exact hQ _ _ _ h
 · rename_i hw
   simp only[hw] at h
   exact⟨fun _ _=>trivial,keep a hy _,by rw[←Act.put_comm a v undef h2];exact h.2⟩
def jB (n:Nat)(P:Program)(md:Region.Mode)(ops:Array Oper)(Q:Exit→Act→World→Prop)(S:World→Prop):Nat→Array Bool→Act→World→Prop
 | 0,listed,a,w=>Region.ready md ops listed= []∧Q .normal a w
 | fuel+1,listed,a,w=>(Region.ready md ops listed= []→Q .normal a w)∧∀i∈Region.ready md ops listed,wpOpIn Fence.wide n P ops Q i (fun a' w'=>S w'∧jB n P md ops Q S fuel (listed.setIfInBounds i true) a' w') a w
theorem Yi:∀(fuel:Nat) (listed:Array Bool) (a:Act) (w:World),jB n P md ops Q S fuel listed a w→wpAnyIn Fence.wide n P md ops Q fuel listed a w
 | 0,_,_,_,h=>h
 | fuel+1,_,_,_,h=>⟨h.1,fun i hi=>wpOpIn_mono (fun a' w' h'=>Yi fuel _ a' w' h'.2) (h.2 i hi)⟩
theorem zcI {i:Nat}{oi:Oper}{v:Value}(hi:ops[i]? =some oi)(hsel:∀(j:Nat) (o:Oper) cs b,ops[j]? =some o→o.op≠ .select cs b)(hQ:∀c a w,Q (.panic c) (a.put oi.dst v) w→Q (.panic c) a w):
 ∀ (fuel:Nat) (listed:Array Bool) (a:Act) (w:World),(∀j oj,ops[j]? =some oj→j≠i→listed.getD j true=false→(∀e∈oj.after,Region.binds md e=true→e.on≠i)→oi.apart ops oj=true)→
  i∈Region.ready md ops listed→YieldsIf P ops S oi v a→S w→jB n P md ops Q S fuel (listed.setIfInBounds i true) (a.put oi.dst v) w→jB n P md ops Q S (fuel+1) listed a w:=by
 intro fuel
 induction fuel with
 | zero=>
   intro listed a w _ hr hy hS H
   refine⟨fun h=>(by rw[h] at hr;cases hr),fun j hj=>?_⟩
   by_cases hji:j=i
   · subst hji;exact Yb hi hy hS ⟨hS,H⟩
   · have:=ready_mono hj hji
     rw[H.1] at this
     cases this
 | succ fuel ih=>
   intro listed a w hfree hr hy hS H
   refine⟨fun h=>(by rw[h] at hr;cases hr),fun j hj=>?_⟩
   by_cases hji:j=i
   · subst hji;exact Yb hi hy hS ⟨hS,H⟩
   · have h1:=H.2 j (ready_mono hj hji)
     obtain⟨hjun,oj,hoj,hall⟩:=mem_ready.1 hj
     have hnot:∀e∈oj.after,Region.binds md e=true→e.on≠i:=fun e he hb heq=>by
      have h1:=hall e he hb
      have h0:=(mem_ready.1 hr).1
      rw[heq] at h1
      rcases Nat.lt_or_ge i listed.size with h' | h'
      · simp[h'] at h0 h1;rw[h0] at h1;cases h1
      · simp[Array.getElem?_eq_none h'] at h1
     have h2:=zcw hoj (hfree j oj hoj hji hjun hnot) (fun cs b=>hsel i oi cs b hi) (fun cs b=>hsel j oj cs b hoj) hQ hy h1
     have hfree' :∀k ok,ops[k]? =some ok→k≠i→(listed.setIfInBounds j true).getD k true=false→(∀e∈ok.after,Region.binds md e=true→e.on≠i)→oi.apart ops ok=true:=fun k ok hk hki hun hno=>by
      refine hfree k ok hk hki ?_ hno
      by_cases hjk:j=k
      · subst hjk;exact hjun
      · rw[getD_set_ne true hjk] at hun;exact hun
     refine wpOpIn_mono (fun a' w' h3=>⟨h3.2.1,ih (listed.setIfInBounds j true) a' w' hfree' (ready_mono hr (Ne.symm hji)) h3.1 h3.2.1 ?_⟩) h2
     rw[Array.setIfInBounds_comm _ _ hji]
     exact h3.2.2
theorem Zc {i:Nat}{oi:Oper}{v:Value}{fuel:Nat}{listed:Array Bool}{a:Act}{w:World}(hi:ops[i]? =some oi)(hs:Region.noSelect ops=true)(hf:Region.free md ops listed i=true)(hr:(Region.ready md ops listed).contains i=true)
 (hQ:∀c a w,Q (.panic c) (a.put oi.dst v) w→Q (.panic c) a w) (hy:YieldsIf P ops S oi v a) (hS:S w) (h:jB n P md ops Q S fuel (listed.setIfInBounds i true) (a.put oi.dst v) w):jB n P md ops Q S (fuel+1) listed a w:=
 zcI hi (Region.noSelect_spec hs) hQ fuel listed a w (Region.free_spec hi hf) (by simpa using hr) hy hS h
theorem zL1 {i:Nat}{oi:Oper}(v:Value){fuel:Nat}{listed:Array Bool}{a:Act}{w:World}(hi:ops[i]? =some oi)(hv:∀X,S X→(execOp a.eval oi).run P X= .ok (.value v) X)(h:jB n P md ops Q S fuel (listed.setIfInBounds i true) (a.put oi.dst v) w)(hQ:∀c a w,Q (.panic c) (a.put oi.dst v) w→Q (.panic c) a w:=by first | exact fun _ _ _ h=>h | exact fun _ _ _ h=>by cases h.1)(hw:Region.wanted oi (yielded ops a.tmps)=true:=by rfl)(hS:S w:=by assumption)(hs:Region.noSelect ops=true:=by kernel_rfl)(hf:Region.free md ops listed i=true:=by kernel_rfl)(hr:(Region.ready md ops listed).contains i=true:=by kernel_rfl):jB n P md ops Q S (fuel+1) listed a w:=
 Zc hi hs hf hr hQ (Or.inl ⟨hw,hv⟩) hS h
theorem zG1 {i:Nat}{oi:Oper}(v:Value){fuel:Nat}{listed:Array Bool}{a:Act}{w:World}(hi:ops[i]? =some oi)  (h:jB n P md ops Q S fuel (listed.setIfInBounds i true) (a.put oi.dst v) w)(hQ:∀c a w,Q (.panic c) (a.put oi.dst v) w→Q (.panic c) a w:=by first | exact fun _ _ _ h=>h | exact fun _ _ _ h=>by cases h.1)(hw:Region.wanted oi (yielded ops a.tmps)=true:=by rfl)(hS:S w:=by assumption)(hs:Region.noSelect ops=true:=by kernel_rfl)(hf:Region.free md ops listed i=true:=by kernel_rfl)(hr:(Region.ready md ops listed).contains i=true:=by kernel_rfl)(hv:∀X,S X→(execOp a.eval oi).run P X= .ok (.value v) X:=by clear eH;intro X hSw;clear hSw;go_simp):jB n P md ops Q S (fuel+1) listed a w:=
 Zc hi hs hf hr hQ (Or.inl ⟨hw,hv⟩) hS h
theorem zR1 {i:Nat}{oi:Oper}  {fuel:Nat}{listed:Array Bool}{a:Act}{w:World}(hi:ops[i]? =some oi)  (h:jB n P md ops Q S fuel (listed.setIfInBounds i true) (a.put oi.dst undef) w)(hQ:∀c a w,Q (.panic c) (a.put oi.dst undef) w→Q (.panic c) a w:=by first | exact fun _ _ _ h=>h | exact fun _ _ _ h=>by cases h.1)(hw:Region.wanted oi (yielded ops a.tmps)=false:=by rfl)(hS:S w:=by assumption)(hs:Region.noSelect ops=true:=by kernel_rfl)(hf:Region.free md ops listed i=true:=by kernel_rfl)(hr:(Region.ready md ops listed).contains i=true:=by kernel_rfl):jB n P md ops Q S (fuel+1) listed a w:=
 Zc hi hs hf hr hQ (Or.inr ⟨hw,rfl⟩) hS h
theorem qp {i:Nat}{o:Oper}{fuel:Nat}{listed:Array Bool}{a:Act}{w:World}(hr:Region.ready md ops listed= [i])(ho:ops[i]? =some o)
 (h:∀K:Act→World→Prop,(∀a' w',S w'→jB n P md ops Q S fuel (listed.setIfInBounds i true) a' w'→K a' w')→if Region.wanted o (yielded ops a.tmps)=true then Oper.wpIn Fence.wide n P o a w K Q else K (a.put o.dst undef) w):jB n P md ops Q S (fuel+1) listed a w:=by
 refine⟨fun h0=>(by rw[hr] at h0;cases h0),fun j hj=>?_⟩
 rw[hr,List.mem_singleton] at hj
 subst hj
 unfold wpOpIn
 rw[ho]
 have:=h (fun a' w'=>S w'∧jB n P md ops Q S fuel (listed.setIfInBounds j true) a' w') (fun a' w' h1 h2=>⟨h1,h2⟩)
 exact se8
theorem ZW {listed:Array Bool}{a:Act}{w:World}(hr:Region.ready md ops listed= [])(h:Q .normal a w):∀fuel,jB n P md ops Q S fuel listed a w
 | 0=>⟨hr,h⟩
 | _+1=>⟨fun _=>h,by rw[hr];simp⟩
theorem zew {l i:Nat}{K:Act→World→Prop}{a:Act}{w:World}(hd:∀(j:Nat) (o:Oper) c,ops[j]? =some o→o.op≠ .defer c)(h:wpOpIn Fence.wide n P ops Q i K a w):wpOpIn (Fence.wide.inRound l) n P ops Q i K a w:=by
 unfold wpOpIn at h ⊢
 cases ho:ops[i]? with
 | none=>simpa only[ho] using h
 | some o=>
   simp only[ho] at h ⊢
   split
   · rename_i hw
     rw[ipQ hw] at h
     refine⟨fun _ _=>trivial,?_⟩
     rw[show (Fence.wide.inRound l).round=some l from rfl,Oper.semAt_some l _ o (fun c=>hd i o c ho)]
     have h:=h.2
     rw[show Fence.wide.round=none from rfl,Oper.semAt_none] at h
     generalize (execOp a.eval o).run P w=r at h ⊢
     cases r with
     | ok x w'=>cases x<;>exact h
     | halt x w'=>cases x<;>exact h
   · rename_i hw
     rw[inQ hw] at h
     exact⟨fun _ _=>trivial,h.2⟩
theorem Jh {l:Nat}(hd:∀(j:Nat) (o:Oper) c,ops[j]? =some o→o.op≠ .defer c):∀(fuel:Nat) (listed:Array Bool) (a:Act) (w:World),wpAnyIn Fence.wide n P md ops Q fuel listed a w→wpAnyIn (Fence.wide.inRound l) n P md ops Q fuel listed a w
 | 0,_,_,_,h=>h
 | fuel+1,_,_,_,h=>⟨h.1,fun i hi=>zew hd (wpOpIn_mono (fun a' w' h'=>Jh hd fuel _ a' w' h') (h.2 i hi))⟩
theorem zis {ops:Array Oper}(h:(ops.toList.all fun o=>match o.op with | .defer _=>false | _=>true)=true)(j:Nat)(o:Oper)(c)(hj:ops[j]? =some o):o.op≠ .defer c:=fun e=>by
 have:=List.all_eq_true.1 h o (List.mem_of_getElem? (l:=ops.toList) (i:=j) (by simpa using hj))
 rw[e] at this;cases this
theorem zcg {id l:Nat}{a:Act}{w:World}(hm:P.follows .mixedOrders=true)(hd:∀(j:Nat) (o:Oper) c,ops[j]? =some o→o.op≠ .defer c)(h:jB n P .any ops Q S ops.size (Array.replicate ops.size false) a w.drew):(Code.region id ops true).wpIn (Fence.wide.inRound l) n P Q a w:=
 wpIn_region_any hm (Jh hd _ _ _ _ (Yi _ _ _ _ h))
end
end Go.Proofs.YtoidedomenkbpaaGreat
namespace Go.Proofs.YtoidedomenkbpaaGreat
open Go.RowKit
def zhb:Fo→Option Tr
 | .nil=>none
 | .node _ _ k l _=>some ⟨k.1,k.2.1,k.2.2,l⟩
def Yc (f:Fo)(j:Nat):Option Tr:=zhb (yx j f)
theorem zin {f:Fo}{j:Nat}(h:j<foLen f):∃b o k l r,yx j f= .node b o k l r∧Yc f j=some ⟨k.1,k.2.1,k.2.2,l⟩∧yx (j+1) f=r:=by
 obtain⟨b,o,k,l,r,h1,h2,_⟩:=kF j f h
 exact⟨b,o,k,l,r,h1,by rw[Yc,h1];rfl,h2⟩
theorem zim {f:Fo}{j:Nat}(h:foLen f≤j):Yc f j=none:=by rw[Yc,Ze j f h];rfl
theorem zfY {f:Fo}{j:Nat}{u:Tr}(h:Yc f j=some u):j<foLen f:=by
 rcases Nat.lt_or_ge j (foLen f) with h1 | h1
 · exact h1
 · rw[zim h1] at h;cases h
theorem zc0 (f:Fo):yx 0 f=f:=by cases f<;>rfl
theorem zcZ {f:Fo}{j:Nat}{u:Tr}(h:Yc f j=some u):zh (yx j f)=zh u.kids+zh (yx (j+1) f)+1:=by
 obtain⟨b,o,k,l,r,h1,h2,h3⟩:=zin (zfY h)
 rw[h2] at h;cases h
 rw[h1,h3];simp[zh]
end Go.Proofs.YtoidedomenkbpaaGreat
namespace Go.Proofs.YtoidedomenkbpaaGreat
open Go.RowKit Go.Shelf
theorem jh (w:World)(o:Obj):Below w.heap.size w (w.alloc o):=(BrQ _ _).alloc (NlrQ _) _
end Go.Proofs.YtoidedomenkbpaaGreat
namespace Go.Proofs.YtoidedomenkbpaaGreat
def fresh (l:List Kd)(s:List UInt8):Bool:=l.all fun k=>decide (k.name.data.toList≠s)
def apart:List Kd→Bool
 | []=>true
 | k::r=>fresh r k.name.data.toList && apart r
end Go.Proofs.YtoidedomenkbpaaGreat
namespace Go.Proofs.YtoidedomenkbpaaGreat
open Go.RowKit
def Ahead (l:List Int)(k:Nat)(a:Int):Prop:=(k=0→a= -1)∧∀m,k=m+1→l[m]? =some a
end Go.Proofs.YtoidedomenkbpaaGreat
namespace Go.Proofs.YtoidedomenkbpaaGreat
open Go.RowKit Go.Shelf
attribute [local go_sem] Oper.semAt_some
def zfA (w:World)(CB:Nat)(f:List Sp→Int)(pre:List Sp)(_:Nat→Prop)(V:World):Prop:=V.heap[CB]? =some (.cells #[.int .i64 (f pre)] 3 (0,0))∧Below w.heap.size w V
theorem zfA.turn {w w1 V V' :World}{CB:Nat}{f:List Sp→Int}{pre:List Sp}{T T' :Nat→Prop}(hw:w.heap.size≤w1.heap.size)(hC:CB<w1.heap.size)(h:zfA w CB f pre T V)(hT:∀x,T x→w1.heap.size≤x)(ht:za V V' (fun x=>T x∨(w1.heap.size≤x∧Za V x))):zfA w CB f pre T' V':=by
 have hk:∀x,x<w1.heap.size→x<V.heap.size→V'.heap[x]? =V.heap[x]?:=fun x hx hv=>ht.block x hv (fun h=>by
  rcases h with h | h
  · have:=hT x h;omega
  · omega)
 refine⟨(hk CB hC (lohQ h.1)).trans h.1,ht.os.trans h.2.os,ht.tape.trans h.2.tape,ht.output.trans h.2.output,NltQ h.2.size ht.size,fun x hx=>?_⟩
 rw[hk x om1 (by have:=h.2.size;omega)];exact h.2.block x hx
theorem zhV (w:World)(cs:Array Value)(v:Value)(x:Value):
 ((((w.alloc (.cells cs 35)).alloc (.cells #[x] 3)).alloc (.cells cs 35)).alloc (.cells #[v] 33)).heap.size=w.heap.size+4∧
 Below w.heap.size w ((((w.alloc (.cells cs 35)).alloc (.cells #[x] 3)).alloc (.cells cs 35)).alloc (.cells #[v] 33))∧
 ((((w.alloc (.cells cs 35)).alloc (.cells #[x] 3)).alloc (.cells cs 35)).alloc (.cells #[v] 33)).heap[w.heap.size+1]? =some (.cells #[x] 3 (0,0))∧
 ((((w.alloc (.cells cs 35)).alloc (.cells #[x] 3)).alloc (.cells cs 35)).alloc (.cells #[v] 33)).heap[w.heap.size+1+1]? =some (.cells cs 35 (0,0))∧
 ((((w.alloc (.cells cs 35)).alloc (.cells #[x] 3)).alloc (.cells cs 35)).alloc (.cells #[v] 33)).heap[w.heap.size+1+1+1]? =some (.cells #[v] 33 (0,0)):=by
 refine⟨by simp,?_,?_,?_,?_⟩
 · exact ((((BrQ _ w).alloc (NlrQ _) _).alloc uc8 _).alloc uc8 _).alloc uc8 _
 · rw[BhaQ _ _ _ uc8,BhaQ _ _ _ uc8]
   have:=hanQ (w.alloc (.cells cs 35)) (.cells #[x] 3)
   rw[WsaQ] at this;exact this
 · rw[BhaQ _ _ _ uc8]
   have:=hanQ ((w.alloc (.cells cs 35)).alloc (.cells #[x] 3)) (.cells cs 35)
   rw[WsaQ,WsaQ] at this;exact this
 · have:=hanQ (((w.alloc (.cells cs 35)).alloc (.cells #[x] 3)).alloc (.cells cs 35)) (.cells #[v] 33)
   rw[WsaQ,WsaQ,WsaQ] at this;exact this
theorem ziu {w w1 V:World}{CB D:Nat}{f:List Sp→Int}{pre:List Sp}{T:Nat→Prop}(h:zfA w CB f pre T V)(hD:w1.heap.size≤D)(hw:w.heap.size≤w1.heap.size)(o:Obj)(hK:V.heap[D]? =some o):Below w.heap.size w (V.putObj D (.deferred none)):=
 ⟨h.2.os,h.2.tape,h.2.output,by have:=h.2.size;simp[World.putObj];exact this,fun x hx=>by rw[WphQ om1];exact h.2.block x hx⟩
theorem zfM (w:World)(S:Nat→Prop)(nv:Value)(t:Tr)(hS:∀x,S x→x<w.heap.size)(ht:kT w S nv t)(hsz:zh t.kids+1≤500000):Calls Tryz.prog 164 #[nv] w (zlq w (Y4 (spF 1 (qJ t)))):=by
 obtain⟨ka,cap,rfl,hcap,hk⟩:=ht
 obtain⟨n,hn⟩:∃n,n=foLen t.kids:=⟨_,rfl⟩
 rw[←hn]
 obtain⟨k1,k2,k3,k4,k5⟩:=zhV w #[.int .i64 t.id,.int .i64 t.kind,.string t.text,.slice ka n cap] (.slice (some ⟨w.heap.size+1+1,0,none⟩) 1 1) (.int .i64 0)
 have HW:=hH (aN k1 (aN k2 (aN k3 (aN k4 k5))))
 have H:=hH (aN hS (aN hcap (aN hk (aN hsz hn))))
 clear hS hcap hk hsz hn k1 k2 k3 k4 k5
 refine (callsIn_wide (n:=6)).1 ?_
 refine callsIn_of_wp_marks Tryz.func164 rfl trivial ?_ rfl
 simp only[Tryz.ntmps164,List.size_toArray,LlcQ,List.length_nil,Nat.reduceAdd,Nat.reduceSub,Array.replicate_succ,Array.replicate_zero,List.push_toArray,List.append_toArray,List.nil_append,List.cons_append]
 gi_wp2_with (refine⟨trivial,?_⟩;gi_at_call 97;refine (callsIn_wide.2 (ze8 _ _ _ _)).mono ?_;rintro e w' ⟨rfl,rfl⟩)
 generalize hW:World.alloc _ _=W at HW ⊢
 clear hW
 obtain⟨k1,k2,k3,k4,k5⟩:=HW.out
 have hSW:∀x,S x→W.heap[x]? =w.heap[x]?:=fun x hx=>k2.block x (H.out.1 x hx)
 have hroot:=zbE hSW H.out.2.1 H.out.2.2.1 (by rw[←H.out.2.2.2.2];exact k4)
 refine zaw om1 rfl ⟨1,some ⟨w.heap.size+1+1,0,none⟩,1,qJ t⟩ rfl (by simp[qJ]) (by simp[qJ,foLen]) (by rw[jf];exact H.out.2.2.2.1) (by rw[corQ _ _ 0 _ _ _ k5];rfl) rfl (fun x=>S x∨x=w.heap.size+1+1) (fun x hx=>by rcases hx with hx | hx;have:=H.out.1 x hx;omega;omega) hroot
  (zfA w (w.heap.size+1) Y4) (fun _ _ _=>False) (fun h hT ht _=>h.turn om1 om1 hT ht) (fun h _ _ _=>h.elim) ⟨k3,k2⟩ ?round ?done ?stop
 case done=>
  rintro D T V hD hI hK
  have c0:V.cell? ⟨w.heap.size+1,0,none⟩=some (.int .i64 (Y4 (spF 1 (qJ t)))):=by rw[corQ _ _ 0 _ _ _ hI.1];rfl
  have HE:=hH (ziu hI hD om1 _ hK)
  clear hI HW H k1 k2 k3 k4 k5 hSW hroot
  gi_wp2
  refine⟨by simp,.inl ⟨_,_,rfl,run_takeDeferred hK,?_⟩⟩
  exact⟨_,results_tmp rfl _ _ _,rfl,HE.out⟩
 case stop=>exact fun _ _ _ _ _ h _=>h.elim
 case round=>
  rintro l hl T pre rest d key k V b off kc ka2 hT hV htot hb d0 d1 d2 d3 d4 dk hR K hK
  have hpl:pre.length≤500000:=by
   have:=congrArg List.length htot
   rw[jg,jf,LlaQ] at this;have:=H.out.2.2.2.1;omega
  have hb0:0≤Y4 pre:=by unfold Y4;omega
  have hb1:Y4 pre≤500000:=by unfold Y4;omega
  have HK:=hH hK
  have HR:=hH (aN hR (aN hT hV))
  have HZ:=hH (aN k1 (aN hl hb))
  clear hR hK hT hV k1 k2 k3 k4 k5 hSW hroot HW htot d0 d1 d2 d3 d4 dk hl hb
  gi_wp2
  refine HK.out _ fun V1 hV1=>?_
  obtain⟨o',ev,o,ho,hoc⟩:=hV1
  have hC1:V1.heap[w.heap.size+1]? =some (.cells #[.int .i64 (Y4 pre)] 3 (0,0)):=by
   rw[ev,WphQ (by have:=HZ.out.2.1;have:=HZ.out.1;omega)];exact HR.out.1.1
  have hs1:V1.heap.size=V.heap.size:=by rw[ev];simp[World.putObj]
  have hB1:Below w.heap.size w V1:=by
   have h2:=HR.out.1.2
   rw[ev]
   exact⟨h2.os,h2.tape,h2.output,by have:=h2.size;simp[World.putObj];exact this,fun x hx=>by rw[WphQ (by have:=HZ.out.2.1;have:=HZ.out.1;omega)];exact h2.block x hx⟩
  have hend:∀aa:Act,zcD W.heap.size T (fun x=>S x∨x=w.heap.size+1+1) (zfA w (w.heap.size+1) Y4) (fun _ _ _=>False) (pre++[(d,key,k)]) V1 .normal aa (V1.setCell ⟨w.heap.size+1,0,none⟩ (.int .i64 (Y4 pre+1))):=by
   intro aa
   have hbk:∀x,x≠w.heap.size+1→(V1.setCell ⟨w.heap.size+1,0,none⟩ (.int .i64 (Y4 pre+1))).heap[x]? =V1.heap[x]?:=fun x hx=>BhsQ _ _ _ _ hx
   have hk1:=HZ.out.1
   refine⟨⟨by simp[World.setCell],fun x o hx ho _=>?_⟩,⟨by simp[World.setCell],fun x hx=>hbk x (by have:=(HR.out.2.1 x hx).2;omega)⟩,fun x hx=>hbk x ?_,.inl ⟨rfl,?_,hB1.setCell (p:=⟨w.heap.size+1,0,none⟩) sp _⟩⟩
   · rw[hbk x om1];exact ho
   · rcases hx with hx | hx
     · have:=H.out.1 x hx;omega
     · omega
   · rw[hssQ V1 (w.heap.size+1) 0 _ _ _ hC1]
     simp[Y4]
  have c0:V1.cell? ⟨w.heap.size+1,0,none⟩=some (.int .i64 (Y4 pre)):=by rw[corQ _ _ 0 _ _ _ hC1];rfl
  have f0:V1.frozen? ⟨w.heap.size+1,0,none⟩=false:=forQ _ _ 0 _ _ hC1
  have HE:=hH hend
  clear hend hC1 hB1 hs1 ev ho hoc
  gi_wp2
  all_goals first
   | exact HE.out _
   | (have h:=HE.out;rw[Int.max_eq_right om1] at h;exact h _)
   | (have h:=HE.out;rw[Int.max_eq_left om1] at h;exact h _)
end Go.Proofs.YtoidedomenkbpaaGreat
