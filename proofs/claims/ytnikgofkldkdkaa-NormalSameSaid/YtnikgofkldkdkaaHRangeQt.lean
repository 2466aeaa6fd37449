/-
  .
-/
import Derived.Test.YtnikgofkldkdkaaECopyWQt
set_option maxRecDepth 100000
set_option maxHeartbeats 40000000
set_option linter.unusedVariables false
set_option linter.unusedSimpArgs false
namespace Go.Proofs.Ytnikgofkldkdkaa
open Go.RowKit
section
variable {n:Nat} {P:Program} {ops:Array Oper} {Q:Exit→Act→World→Prop} {md:Region.Mode} {S:World→Prop}
theorem ZH {i:Nat}{o:Oper}{v:Value}{a:Act}(hi:ops[i]? =some o)(hy:YieldsIf P ops S o v a){K:Act→World→Prop}{w:World}(hS:S w)(h:K (a.put o.dst v) w):wpOpIn Fence.wide n P ops Q i K a w:=by
 unfold wpOpIn
 simp only[hi]
 rcases hy with ⟨hw,hv⟩ | ⟨hw,rfl⟩
 · simp only[hw,if_true,Oper.wpIn,show Fence.wide.round=none from rfl,Oper.semAt_none,hv w hS,Oper.uponIn]
   exact⟨fun _ _=>trivial,h⟩
 · simp only[hw,Bool.false_eq_true,if_false]
   exact⟨fun _ _=>trivial,h⟩
theorem zcq {j:Nat}{oi oj:Oper}{v:Value}(hj:ops[j]? =some oj)(hap:oi.apart ops oj=true)(hsi:∀cs b,oi.op≠ .select cs b)(hsj:∀cs b,oj.op≠ .select cs b)
 (hQ:∀c a w,Q (.panic c) (a.put oi.dst v) w→Q (.panic c) a w) {K:Act→World→Prop} {a:Act} {w:World} (hy:YieldsIf P ops S oi v a) (h:wpOpIn Fence.wide n P ops Q j K (a.put oi.dst v) w):
 wpOpIn Fence.wide n P ops Q j (fun a' w'=>YieldsIf P ops S oi v a'∧K (a'.put oi.dst v) w') a w:=by
 obtain⟨h1,h2,h3⟩:=Oper.apart_spec hap
 have keep:∀(a:Act),YieldsIf P ops S oi v a→∀u,YieldsIf P ops S oi v (a.put oj.dst u):=fun a hy u=>
  hy.of_same (execOp_put oi hsi a oj.dst u h3) (wanted_put oi a oj.dst u h3)
 have keepD:∀d,YieldsIf P ops S oi v { a with defers:=d::a.defers }:=fun d=>hy.of_same rfl rfl
 unfold wpOpIn at*
 simp only[hj] at*
 rw[wanted_put oj a oi.dst v h1] at h
 split
 · rename_i hw
   simp only[hw,if_true] at h
   unfold Oper.wpIn at*
   refine⟨fun _ _=>trivial,?_⟩
   have h:=h.2
   rw[show Fence.wide.round=none from rfl,Oper.semAt_none,execOp_put oj hsj a oi.dst v h1] at h
   rw[show Fence.wide.round=none from rfl,Oper.semAt_none]
   generalize (execOp a.eval oj).run P w=r at*
   cases r with
   | ok x w'=>
     cases x<;>simp only[Oper.uponIn] at h ⊢
     case value u=>exact⟨keep a hy u,by rw[←Act.put_comm a v u h2];exact h⟩
     case skip=>exact⟨keep a hy _,by rw[←Act.put_comm a v undef h2];exact h⟩
     case defer d=>
      refine⟨keep _ (keepD d) _,?_⟩
      rw[←Act.put_comm _ v undef h2,←Act.put_defers]
      exact h
     case enter f args=>
      refine⟨h.1,CallsIn.mono h.2 fun e w'' he=>?_⟩
      exact sg7
     case row row args=>exact⟨h.1,RowsIn.mono h.2 fun u w'' he=>⟨keep a hy u,by rw[←Act.put_comm a v u h2];exact he⟩⟩
     case round l f tmps assign body=>
      refine⟨h.1,RoundIn.mono h.2 fun e w'' he=>?_⟩
      exact sg7
   | halt x w'=>
     cases x<;>simp only[Oper.uponIn] at h ⊢
     case panic u=>exact hQ _ _ _ h
 · rename_i hw
   simp only[hw] at h
   exact⟨fun _ _=>trivial,keep a hy _,by rw[←Act.put_comm a v undef h2];exact h.2⟩
def kM (n:Nat)(P:Program)(md:Region.Mode)(ops:Array Oper)(Q:Exit→Act→World→Prop)(S:World→Prop):Nat→Array Bool→Act→World→Prop
 | 0,listed,a,w=>Region.ready md ops listed= []∧Q .normal a w
 | fuel+1,listed,a,w=>(Region.ready md ops listed= []→Q .normal a w)∧∀i∈Region.ready md ops listed,wpOpIn Fence.wide n P ops Q i (fun a' w'=>S w'∧kM n P md ops Q S fuel (listed.setIfInBounds i true) a' w') a w
theorem ZJ:∀(fuel:Nat) (listed:Array Bool) (a:Act) (w:World),kM n P md ops Q S fuel listed a w→wpAnyIn Fence.wide n P md ops Q fuel listed a w
 | 0,_,_,_,h=>h
 | fuel+1,_,_,_,h=>⟨h.1,fun i hi=>wpOpIn_mono (fun a' w' h'=>ZJ fuel _ a' w' h'.2) (h.2 i hi)⟩
theorem zcw {i:Nat}{oi:Oper}{v:Value}(hi:ops[i]? =some oi)(hsel:∀(j:Nat) (o:Oper) cs b,ops[j]? =some o→o.op≠ .select cs b)(hQ:∀c a w,Q (.panic c) (a.put oi.dst v) w→Q (.panic c) a w):
 ∀ (fuel:Nat) (listed:Array Bool) (a:Act) (w:World),(∀j oj,ops[j]? =some oj→j≠i→listed.getD j true=false→(∀e∈oj.after,Region.binds md e=true→e.on≠i)→oi.apart ops oj=true)→
  i∈Region.ready md ops listed→YieldsIf P ops S oi v a→S w→kM n P md ops Q S fuel (listed.setIfInBounds i true) (a.put oi.dst v) w→kM n P md ops Q S (fuel+1) listed a w:=by
 intro fuel
 induction fuel with
 | zero=>
   intro listed a w _ hr hy hS H
   refine⟨fun h=>(by rw[h] at hr;cases hr),fun j hj=>?_⟩
   by_cases hji:j=i
   · subst hji;exact ZH hi hy hS ⟨hS,H⟩
   · have:=ready_mono hj hji
     rw[H.1] at this
     cases this
 | succ fuel ih=>
   intro listed a w hfree hr hy hS H
   refine⟨fun h=>(by rw[h] at hr;cases hr),fun j hj=>?_⟩
   by_cases hji:j=i
   · subst hji;exact ZH hi hy hS ⟨hS,H⟩
   · have h1:=H.2 j (ready_mono hj hji)
     obtain⟨hjun,oj,hoj,hall⟩:=mem_ready.1 hj
     have hnot:∀e∈oj.after,Region.binds md e=true→e.on≠i:=fun e he hb heq=>by
      have h1:=hall e he hb
      have h0:=(mem_ready.1 hr).1
      rw[heq] at h1
      rcases Nat.lt_or_ge i listed.size with h' | h'
      · simp[h'] at h0 h1;rw[h0] at h1;cases h1
      · simp[Array.getElem?_eq_none h'] at h1
     have h2:=zcq hoj (hfree j oj hoj hji hjun hnot) (fun cs b=>hsel i oi cs b hi) (fun cs b=>hsel j oj cs b hoj) hQ hy h1
     have hfree' :∀k ok,ops[k]? =some ok→k≠i→(listed.setIfInBounds j true).getD k true=false→(∀e∈ok.after,Region.binds md e=true→e.on≠i)→oi.apart ops ok=true:=fun k ok hk hki hun hno=>by
      refine hfree k ok hk hki ?_ hno
      by_cases hjk:j=k
      · subst hjk;exact hjun
      · rw[getD_set_ne true hjk] at hun;exact hun
     refine wpOpIn_mono (fun a' w' h3=>⟨h3.2.1,ih (listed.setIfInBounds j true) a' w' hfree' (ready_mono hr (Ne.symm hji)) h3.1 h3.2.1 ?_⟩) h2
     rw[Array.setIfInBounds_comm _ _ hji]
     exact h3.2.2
theorem zb {i:Nat}{oi:Oper}{v:Value}{fuel:Nat}{listed:Array Bool}{a:Act}{w:World}(hi:ops[i]? =some oi)(hs:Region.noSelect ops=true)(hf:Region.free md ops listed i=true)(hr:(Region.ready md ops listed).contains i=true)
 (hQ:∀c a w,Q (.panic c) (a.put oi.dst v) w→Q (.panic c) a w) (hy:YieldsIf P ops S oi v a) (hS:S w) (h:kM n P md ops Q S fuel (listed.setIfInBounds i true) (a.put oi.dst v) w):kM n P md ops Q S (fuel+1) listed a w:=
 zcw hi (Region.noSelect_spec hs) hQ fuel listed a w (Region.free_spec hi hf) (by simpa using hr) hy hS h
theorem zL1 {i:Nat}{oi:Oper}(v:Value){fuel:Nat}{listed:Array Bool}{a:Act}{w:World}(hi:ops[i]? =some oi)(hv:∀X,S X→(execOp a.eval oi).run P X= .ok (.value v) X)(h:kM n P md ops Q S fuel (listed.setIfInBounds i true) (a.put oi.dst v) w)(hQ:∀c a w,Q (.panic c) (a.put oi.dst v) w→Q (.panic c) a w:=by first | exact fun _ _ _ h=>h | exact fun _ _ _ h=>by cases h.1)(hw:Region.wanted oi (yielded ops a.tmps)=true:=by rfl)(hS:S w:=by assumption)(hs:Region.noSelect ops=true:=by kernel_rfl)(hf:Region.free md ops listed i=true:=by kernel_rfl)(hr:(Region.ready md ops listed).contains i=true:=by kernel_rfl):kM n P md ops Q S (fuel+1) listed a w:=
 zb hi hs hf hr hQ (Or.inl ⟨hw,hv⟩) hS h
theorem zG1 {i:Nat}{oi:Oper}(v:Value){fuel:Nat}{listed:Array Bool}{a:Act}{w:World}(hi:ops[i]? =some oi)  (h:kM n P md ops Q S fuel (listed.setIfInBounds i true) (a.put oi.dst v) w)(hQ:∀c a w,Q (.panic c) (a.put oi.dst v) w→Q (.panic c) a w:=by first | exact fun _ _ _ h=>h | exact fun _ _ _ h=>by cases h.1)(hw:Region.wanted oi (yielded ops a.tmps)=true:=by rfl)(hS:S w:=by assumption)(hs:Region.noSelect ops=true:=by kernel_rfl)(hf:Region.free md ops listed i=true:=by kernel_rfl)(hr:(Region.ready md ops listed).contains i=true:=by kernel_rfl)(hv:∀X,S X→(execOp a.eval oi).run P X= .ok (.value v) X:=by clear uH;intro X hSw;clear hSw;go_simp):kM n P md ops Q S (fuel+1) listed a w:=
 zb hi hs hf hr hQ (Or.inl ⟨hw,hv⟩) hS h
theorem zR1 {i:Nat}{oi:Oper}  {fuel:Nat}{listed:Array Bool}{a:Act}{w:World}(hi:ops[i]? =some oi)  (h:kM n P md ops Q S fuel (listed.setIfInBounds i true) (a.put oi.dst undef) w)(hQ:∀c a w,Q (.panic c) (a.put oi.dst undef) w→Q (.panic c) a w:=by first | exact fun _ _ _ h=>h | exact fun _ _ _ h=>by cases h.1)(hw:Region.wanted oi (yielded ops a.tmps)=false:=by rfl)(hS:S w:=by assumption)(hs:Region.noSelect ops=true:=by kernel_rfl)(hf:Region.free md ops listed i=true:=by kernel_rfl)(hr:(Region.ready md ops listed).contains i=true:=by kernel_rfl):kM n P md ops Q S (fuel+1) listed a w:=
 zb hi hs hf hr hQ (Or.inr ⟨hw,rfl⟩) hS h
theorem qO {i:Nat}{o:Oper}{fuel:Nat}{listed:Array Bool}{a:Act}{w:World}(hr:Region.ready md ops listed= [i])(ho:ops[i]? =some o)
 (h:∀K:Act→World→Prop,(∀a' w',S w'→kM n P md ops Q S fuel (listed.setIfInBounds i true) a' w'→K a' w')→if Region.wanted o (yielded ops a.tmps)=true then Oper.wpIn Fence.wide n P o a w K Q else K (a.put o.dst undef) w):kM n P md ops Q S (fuel+1) listed a w:=by
 refine⟨fun h0=>(by rw[hr] at h0;cases h0),fun j hj=>?_⟩
 rw[hr,List.mem_singleton] at hj
 subst hj
 unfold wpOpIn
 rw[ho]
 have:=h (fun a' w'=>S w'∧kM n P md ops Q S fuel (listed.setIfInBounds j true) a' w') (fun a' w' h1 h2=>⟨h1,h2⟩)
 show if Region.wanted o (yielded ops a.tmps)=true then _ else _
 split
 · rename_i hw;rw[ipQ hw] at this;exact this
 · rename_i hw;rw[inQ hw] at this;exact⟨fun _ _=>trivial,this⟩
theorem jd {listed:Array Bool}{a:Act}{w:World}(hr:Region.ready md ops listed= [])(h:Q .normal a w):∀fuel,kM n P md ops Q S fuel listed a w
 | 0=>⟨hr,h⟩
 | _+1=>⟨fun _=>h,by rw[hr];simp⟩
theorem zem {l i:Nat}{K:Act→World→Prop}{a:Act}{w:World}(hd:∀(j:Nat) (o:Oper) c,ops[j]? =some o→o.op≠ .defer c)(h:wpOpIn Fence.wide n P ops Q i K a w):wpOpIn (Fence.wide.inRound l) n P ops Q i K a w:=by
 unfold wpOpIn at h ⊢
 cases ho:ops[i]? with
 | none=>simpa only[ho] using h
 | some o=>
   simp only[ho] at h ⊢
   split
   · rename_i hw
     rw[ipQ hw] at h
     refine⟨fun _ _=>trivial,?_⟩
     rw[show (Fence.wide.inRound l).round=some l from rfl,Oper.semAt_some l _ o (fun c=>hd i o c ho)]
     have h:=h.2
     rw[show Fence.wide.round=none from rfl,Oper.semAt_none] at h
     generalize (execOp a.eval o).run P w=r at h ⊢
     cases r with
     | ok x w'=>cases x<;>exact h
     | halt x w'=>cases x<;>exact h
   · rename_i hw
     rw[inQ hw] at h
     exact⟨fun _ _=>trivial,h.2⟩
theorem Q9 {l:Nat}(hd:∀(j:Nat) (o:Oper) c,ops[j]? =some o→o.op≠ .defer c):∀(fuel:Nat) (listed:Array Bool) (a:Act) (w:World),wpAnyIn Fence.wide n P md ops Q fuel listed a w→wpAnyIn (Fence.wide.inRound l) n P md ops Q fuel listed a w
 | 0,_,_,_,h=>h
 | fuel+1,_,_,_,h=>⟨h.1,fun i hi=>zem hd (wpOpIn_mono (fun a' w' h'=>Q9 hd fuel _ a' w' h') (h.2 i hi))⟩
theorem zfg {ops:Array Oper}(h:(ops.toList.all fun o=>match o.op with | .defer _=>false | _=>true)=true)(j:Nat)(o:Oper)(c)(hj:ops[j]? =some o):o.op≠ .defer c:=fun e=>by
 have:=List.all_eq_true.1 h o (List.mem_of_getElem? (l:=ops.toList) (i:=j) (by simpa using hj))
 rw[e] at this;cases this
theorem zci {id l:Nat}{a:Act}{w:World}(hm:P.follows .mixedOrders=true)(hd:∀(j:Nat) (o:Oper) c,ops[j]? =some o→o.op≠ .defer c)(h:kM n P .any ops Q S ops.size (Array.replicate ops.size false) a w.drew):(Code.region id ops true).wpIn (Fence.wide.inRound l) n P Q a w:=
 wpIn_region_any hm (Q9 hd _ _ _ _ (ZJ _ _ _ _ h))
end
end Go.Proofs.Ytnikgofkldkdkaa
namespace Go.Proofs.Ytnikgofkldkdkaa
open Go.RowKit Go.Shelf
attribute [local go_sem] Oper.semAt_some
structure zgJ (P:Program) (m l:Nat) (t:Tr) (S:Nat→Prop) (J:(Nat→Prop)→List Fr→World→Prop) (Jx:(Nat→Prop)→World→Prop):Prop where
 turn:∀{T T' :Nat→Prop} {L:List Fr} {w w' :World},J T L w→zo w w' T→kg T T' w w'→J T' L w'
 yield:∀{T:Nat→Prop} {rv:Value} {x:Fr} {r:List Fr} {u:Tr} {w:World},vH w S t T rv (x::r)→zB x.f x.p.toNat=some u→J T (x::r) w→
  YieldAt Fence.wide m P l #[rv] w fun e w'=>Kept T w w'∧(∀y,S y→w'.heap[y]? =w.heap[y]?)∧((e= .returned (.bool true)∧∀a c,J T (yN (⟨a,c,u.kids, -1⟩::x::r)) w')∨(e= .returned (.bool false)∧Jx T w'))
def ziI (S:Nat→Prop)(t:Tr)(J:(Nat→Prop)→List Fr→World→Prop)(gk:Nat)(rv:Value)(wr:World):Prop:=∃T L,vH wr S t T rv L∧J T L wr∧gk=jJ L
def zdQ (J:(Nat→Prop)→List Fr→World→Prop)(Jx:(Nat→Prop)→World→Prop)(e:Ending)(V:World):Prop:=(∃v,e= .returned v)∧((∃T,J T [] V)∨∃T,Jx T V)
theorem zhR {α β:Type}(p:Nat→α→β→Prop):∃ms:α→β→Nat,∀x y,(∃n,p n x y)→p (ms x y) x y∧∀n,p n x y→ms x y≤n:=by
 refine Classical.axiomOfChoice (β:=fun _=>β→Nat) (r:=fun x f=>∀y,(∃n,p n x y)→p (f y) x y∧∀n,p n x y→f y≤n) fun x=>?_
 refine Classical.axiomOfChoice (β:=fun _=>Nat) (r:=fun y k=>(∃n,p n x y)→p k x y∧∀n,p n x y→k≤n) fun y=>?_
 by_cases h:∃n,p n x y
 · obtain ⟨n,hn⟩:=h
   induction n using Nat.strongRecOn with
   | ind n ih=>
     by_cases hm:∃m,m<n∧p m x y
     · obtain⟨m,hm,hp⟩:=hm
       exact ih m hm hp
     · exact⟨n,fun _=>⟨hn,fun m hp=>by
        rcases Nat.lt_or_ge m n with h | h
        · exact absurd ⟨m,h,hp⟩ hm
        · exact h⟩⟩
 · exact⟨0,fun h'=>absurd h' h⟩
theorem Try.zhI:(Try.prog.info? 168).map (fun i=>(i.size,i.bytes,i.zero.map (fun z=>z.cells.size)))=some (2,32,some 2):=by kernel_rfl
theorem zeN {P:Program}{m l:Nat}{t:Tr}{S:Nat→Prop}{J:(Nat→Prop)→List Fr→World→Prop}{Jx:(Nat→Prop)→World→Prop}{W W2:World}{ka:Option Addr}{cap:Nat}(hB:zgJ P m l t (fun y=>S y∨y=W.heap.size) J Jx)(hS:∀y,S y→y<W.heap.size)(hk:zk W S t.kids ka)(hc:foLen t.kids≤cap)
 (hJ:J (fun _=>False) (yN [⟨some ⟨W.heap.size,0,none⟩,1,zh t, -1⟩]) W)
 (hW2:W2=(W.alloc (.cells #[.int .i64 t.id,.int .i64 t.kind,.string t.text,.slice ka (foLen t.kids) cap] 27)).alloc (.cells #[.slice (some ⟨W.heap.size,0,none⟩) 1 1,.int .i64 (-1)] 168)):
 zg4 W2 (fun y=>S y∨y=W.heap.size) t (fun y=>y=W.heap.size+1) (.slice (some ⟨W.heap.size+1,0,none⟩) 1 1) [⟨some ⟨W.heap.size,0,none⟩,1,zh t, -1⟩]∧J (fun y=>y=W.heap.size+1) (yN [⟨some ⟨W.heap.size,0,none⟩,1,zh t, -1⟩]) W2:=by
 have hsz:W2.heap.size=W.heap.size+2:=by rw[hW2];simp
 have hb:∀y,y<W.heap.size→W2.heap[y]? =W.heap[y]?:=fun y hy=>by rw[hW2,BhaQ _ _ _ ue6,BhaQ _ _ _ hy]
 have h0:W2.heap[W.heap.size]? =some (.cells #[.int .i64 t.id,.int .i64 t.kind,.string t.text,.slice ka (foLen t.kids) cap] 27 (0,0)):=by rw[hW2,BhaQ _ _ _ sp1];exact hanQ W _
 have h1:W2.heap[W.heap.size+1]? =some (.cells #[.slice (some ⟨W.heap.size,0,none⟩) 1 1,.int .i64 (-1)] 168 (0,0)):=by
  have:=hanQ (W.alloc (.cells #[.int .i64 t.id,.int .i64 t.kind,.string t.text,.slice ka (foLen t.kids) cap] 27)) (.cells #[.slice (some ⟨W.heap.size,0,none⟩) 1 1,.int .i64 (-1)] 168)
  rw[WsaQ] at this;rw[hW2];exact this
 have hl:=Q4 (S:=S) (fun x hx=>hb x (hS x hx)) hc hk h0
 refine⟨⟨?_,fun g hg=>?_,fun y hy=>?_,fun y hy=>(by cases hy),fun y hy=>?_,rfl,fun y hy=>?_,?_,fun y hy=>?_⟩,?_⟩
 · exact⟨by simp[Fr.cells],Or.inr ⟨_,1,_,rfl,by omega,h1,by simp,by unfold maxLen;omega,by simp,by simp[Fr.cells,zh,foLen]⟩⟩
 · simp[Value.ownBlock] at hg;exact hg.symm
 · rw[List.mem_singleton] at hy;subst hy;exact⟨by simp,by simp only;omega⟩
 · rw[List.mem_singleton] at hy;subst hy;exact⟨hl,by simp[zh,foLen]⟩
 · refine⟨by omega,fun h=>?_⟩
   rcases h with h | h
   · have:=hS y h;omega
   · omega
 · simp[Qm,Fr.nx,qG,yH];omega
 · rcases hy with hy | hy
   · have:=hS y hy;omega
   · omega
 · refine hB.turn hJ ⟨by rw[hW2];rfl,by rw[hW2];rfl,by rw[hW2];rfl,by omega,fun y hy _=>hb y hy⟩ fun y hy=>Or.inr ⟨by omega,by omega⟩
theorem zgC {w2 w3 w6:World}{S T:Nat→Prop}{t:Tr}{rv v' :Value}{x:Fr}{r:List Fr}{u:Tr}{kb:Option Addr}{k v kc:Nat}{o:Obj}(hf:vH w2 S t T rv (x::r))(hu:zB x.f x.p.toNat=some u)(hk:k=r.length)(hv:v=foLen u.kids)(hku:zk w2 S u.kids kb)(hkk:v≤kc)(hb:Below w2.heap.size w2 w3)
 (ho:w6.ownsRow 0 168 2 v' (k+1+1) ((x::r).reverse.flatMap Fr.cells++[.slice kb v kc,.int .i64 (-1)])) (hg:(w3.alloc o).grownBy w6 rv.ownBlock) (hat:v'.ownBlock=rv.ownBlock∨v'.ownBlock=some (w3.alloc o).heap.size):
 ∃T3,zg4 w6 S t T3 v' (⟨kb,kc,u.kids, -1⟩::x::r)∧zo w2 w6 T∧kg T T3 w2 w6:=by
 have h1:=hb.size
 have h2:=hg.size
 rw[WsaQ] at h2
 have hblk:∀y,y<w2.heap.size→rv.ownBlock≠some y→w6.heap[y]? =w2.heap[y]?:=fun y hy hn=>by
  rw[hg.block y (by rw[WsaQ];omega) (fun e=>hn e.symm),BhaQ _ _ _ om,hb.block y hy]
 have hS:∀y,S y→w6.heap[y]? =w2.heap[y]?:=fun y hy=>hblk y (hf.sl y hy) (fun e=>(hf.apart y (hf.own y e)).2 hy)
 subst hk
 subst hv
 refine⟨fun y=>T y∨(w2.heap.size≤y∧y<w6.heap.size),hf.push hu hku hkk om hS ho (fun g hg'=>?_) (fun y hy=>?_),⟨?_,?_,?_,by omega,fun y hy hn=>hblk y hy (fun e=>hn (hf.own y e))⟩,fun y hy=>hy⟩
 · rcases hat with e | e
   · exact Or.inl (hf.own g (e▸hg'))
   · have h3:=zi ho hg'
     rw[e] at hg';cases hg'
     rw[WsaQ] at h3 ⊢
     exact Or.inr ⟨by omega,h3.2⟩
 · rcases hy with hy | hy
   · have:=hf.apart y hy;exact⟨by omega,this.2⟩
   · exact⟨hy.2,fun h=>by have:=hf.sl y h;omega⟩
 · exact hg.os.trans hb.os
 · exact hg.tape.trans hb.tape
 · exact hg.output.trans hb.output
theorem zdQ.mk0 {J:(Nat→Prop)→List Fr→World→Prop}{Jx:(Nat→Prop)→World→Prop}{T:Nat→Prop}{V:World}{v:Value}(h:J T [] V):zdQ J Jx (.returned v) V:=⟨⟨v,rfl⟩,Or.inl ⟨T,h⟩⟩
theorem zdQ.mkx {J:(Nat→Prop)→List Fr→World→Prop}{Jx:(Nat→Prop)→World→Prop}{T:Nat→Prop}{V:World}{v:Value}(h:Jx T V):zdQ J Jx (.returned v) V:=⟨⟨v,rfl⟩,Or.inr ⟨T,h⟩⟩
theorem zgB {m l:Nat}{t:Tr}{S:Nat→Prop}{J:(Nat→Prop)→List Fr→World→Prop}{Jx:(Nat→Prop)→World→Prop}(W:World)(hB:zgJ Try.prog m l t (fun y=>S y∨y=W.heap.size) J Jx)(NB:Nat)(ka:Option Addr)(cap:Nat)(hS:∀y,S y→y<W.heap.size)(hk:zk W S t.kids ka)(hc:foLen t.kids≤cap)(hsz:za t.kids≤400000)
 (hNB:W.heap[NB]? =some (.cells #[.int .i64 t.id,.int .i64 t.kind,.string t.text,.slice ka (foLen t.kids) cap] 27 (0,0))) (hJ:J (fun _=>False) (yN [⟨some ⟨W.heap.size,0,none⟩,1,zh t, -1⟩]) W):
 Calls Try.prog 129 #[.func (.yield l) #[] #[],.pointer (some ⟨NB,0,none⟩)] W (zdQ J Jx):=by
 obtain⟨W2,hW2⟩:∃W2,W2=(W.alloc (.cells #[.int .i64 t.id,.int .i64 t.kind,.string t.text,.slice ka (foLen t.kids) cap] 27)).alloc (.cells #[.slice (some ⟨W.heap.size,0,none⟩) 1 1,.int .i64 (-1)] 168):=⟨_,rfl⟩
 obtain⟨hpre,hJ2⟩:=zeN hB hS hk hc hJ hW2
 have hnext:=zc5 W2 _ _ hpre.rows sp1 (fun x hx=>by rw[List.mem_singleton] at hx;subst hx;simp)
 obtain⟨n,hn⟩:∃n,n=foLen t.kids:=⟨_,rfl⟩
 rw[←hn] at hNB hW2
 have n0:W.cell? ⟨NB,0,none⟩=some (.int .i64 t.id):=by rw[corQ _ _ 0 _ _ _ hNB];rfl
 have n1:W.cell? ⟨NB,1,none⟩=some (.int .i64 t.kind):=by rw[corQ _ _ 1 _ _ _ hNB];rfl
 have n2:W.cell? ⟨NB,2,none⟩=some (.string t.text):=by rw[corQ _ _ 2 _ _ _ hNB];rfl
 have n3:W.cell? ⟨NB,3,none⟩=some (.slice ka n cap):=by rw[corQ _ _ 3 _ _ _ hNB];rfl
 obtain⟨ms,hms⟩:=zhR (fun gk rv wr=>ziI (fun y=>S y∨y=W.heap.size) t J gk rv wr)
 have HP:=hH (aN hpre (aN hJ2 (aN hnext hn)))
 have HW2:=hH hW2
 have HMS:=hH hms
 have HSZ:=hH hsz
 clear hpre hJ2 hnext hn hk hc hJ hNB hW2 hms hsz
 obtain⟨i0,z0,hi0,hz0,hz1,hz2,hz3⟩:=zW Try.zhI
 have HI:=hH (aN hi0 (aN hz0 (aN hz1 (aN hz2 hz3))))
 clear hi0 hz0 hz1 hz2 hz3
 refine (callsIn_wide (n:=6)).1 ?_
 refine callsIn_of_wp Try.func129 rfl trivial ?_ rfl
 simp only[Try.ntmps129,List.size_toArray,LlcQ,List.length_nil,Nat.reduceAdd,Nat.reduceSub,Array.replicate_succ,Array.replicate_zero,List.push_toArray,List.append_toArray,List.nil_append,List.cons_append]
 gi_wp2
 refine⟨trivial,?_⟩
 rw[←HW2.out]
 refine (callsIn_wide.2 HP.out.2.2.1).mono ?_
 rintro e W3 ⟨rv,rfl,r1,r2,r3⟩
 have HST:Hid (∃gk,ziI (fun y=>S y∨y=W.heap.size) t J gk rv W3):=hH ⟨_,_,_,HP.out.1.next r1 r2 r3,hB.turn HP.out.2.1 (r3.mono (fun y hy=>HP.out.1.own y hy)) (fun y hy=>Or.inl hy),rfl⟩
 clear r1 r2 r3 n0 n1 n2 n3
 gi_wp2
 gi_loopw [3] (fun rv wr=>Hid (∃gk,ziI (fun y=>S y∨y=W.heap.size) t J gk rv wr)) (fun rv wr=>ms rv wr)
 case atStart=>exact HST
 case round=>
  clear HST
  obtain⟨T,L,hf,hJ3,hgk⟩:=(HMS.out _ _ hrel.out).1
  have HG:=hH hgk
  clear hrel hgk
  cases L with
  | nil=>
    obtain⟨ra,rc,rfl⟩:=zt hf.rows
    have HE:=hH (zdQ.mk0 (Jx:=Jx) (v:= .tuple #[]) hJ3)
    clear hf hJ3
    simp only[List.length_nil]
    gi_wp2
    refine⟨fun f hf=>(by cases hf),?_⟩
    gi_wp2
    go_end0
    exact HE.out
  | cons x r=>
    obtain⟨g,rc,k,p,u,b,off,kb,kc,rfl,hk,hkN,hkc,hTg,c0,c1,hxp,hpl,hpN,hu,hxa,hSb,d0,d3,hkk,hku⟩:=hf.here
    obtain⟨fn,tmps,assign,body,hy,hR⟩:=YieldAt.Z9 5 (hB.yield hf hu hJ3)
    have hk0:(0:Int)<(k:Int)+1:=by omega
    have HR:=hH hR
    obtain⟨q,hq⟩:∃q,q=foLen x.f:=⟨_,rfl⟩
    obtain⟨v,hv⟩:∃v,v=foLen u.kids:=⟨_,rfl⟩
    rw[←hq] at c0 hpl hpN
    rw[←hv] at d3 hkk
    have HF:=hH (aN hf (aN hu (aN hk (aN hxp (aN hq (aN hv (aN hTg (aN hSb (aN hkk hku)))))))))
    have HC:=hH (aN c0 (aN c1 d3))
    have hxa':=hxa
    clear hf hu hk hJ3 hR c0 c1 d0 d3 hxp hq hv hTg hSb hkk hku
    gi_wp2
    refine HR.out.mono ?_
    clear HR hy
    rintro e w2 ⟨hkT,hkS,(⟨rfl,hJ4⟩ | ⟨rfl,hJ4⟩)⟩
    · obtain⟨f1,f2,f3,f4,f5,f6,f7,f8,f9,f10⟩:=HF.out
      have c0:w2.cell? ⟨g,k*2,none⟩=some (.slice (some ⟨b,off,none⟩) q x.cap):=by rw[←hxa];exact (World.cell?_of_block (hkT.2 g f7)).trans HC.out.1
      have c1:w2.cell? ⟨g,k*2+1,none⟩=some (.int .i64 (p:Int)):=(World.cell?_of_block (hkT.2 g f7)).trans HC.out.2.1
      have d3:w2.cell? ⟨b,off+p*4+3,none⟩=some (.slice kb v kc):=(World.cell?_of_block (hkS b f8)).trans HC.out.2.2
      have hf2:=f1.kept hkT.1 hkT.2 hkS
      have hnode:=zc7 w2 b off q x.cap p hpl (by have:=HSZ.out;omega)
      have hkl:(k:Int)<(k:Int)+1:=by omega
      have hk00:(0:Int)≤(k:Int):=by omega
      have hkb:k≤1000000:=by have:=HSZ.out;omega
      have hpb:p≤1000000:=by have:=HSZ.out;omega
      have hkw:IntKind.i64.wrap ((k:Int)+1 - 1)=(k:Int):=by rw[IntWalk.i64_in _ om];omega
      have hbl:=World.block_lt_of_cell? _ _ d3
      have HN:=hH hnode
      have HR3:Hid (∀w3,Below w2.heap.size w2 w3→w3.ownsRow 0 168 2 (.slice (some ⟨g,0,none⟩) (k+1) rc) (k+1) ((x::r).reverse.flatMap Fr.cells)):=hH fun w3 hb=>by
       have h9:=qo.kept (w':=w3) hf2.rows (fun g' hg'=>hb.block g' (hf2.apart g' (hf2.own g' hg')).1)
       unfold qo at h9
       rw[LlcQ,←f3] at h9
       exact h9
      have HJ:=hH (aN hJ4 (aN hf2 hkS))
      clear hnode hJ4 hf2 hkT hkS f1 f2 f3 f4 f5 f6 f7 f8 f9 f10 HC
      gi_wp2_with (first
       | (refine⟨trivial,?_⟩;gi_at_call 123;refine (callsIn_wide.2 HN.out).mono ?_;rintro e w3 ⟨rfl,hb3⟩;have d3':=(hb3.cell (p:=⟨b,off+p*4+3,none⟩) hbl).trans d3;have HB3:=hH hb3;clear hb3;have hrow3:=HR3.out w3 HB3.out)
       | (gi_at_builtin;refine jZ _ rfl (.tmp 28) (.tmp 31) _ rfl 0 168 i0 z0 2 32 Try.underlying165 HI.out.1 HI.out.2.1 HI.out.2.2.1 HI.out.2.2.2.1 HI.out.2.2.2.2 om (.slice (some ⟨g,0,none⟩) (k+1) rc) (k+1) _ rfl (hrow3.alloc _) ⟨w3.heap.size,0,none⟩ 1 1 [.slice kb v kc,.int .i64 (-1)] rfl rfl (World.news_of_block (hanQ w3 _)) ue0 ue1 om sp1 ?_;intro v' w6 hown6 hgrow hat;obtain⟨T3,hpre,ht3,hw3⟩:=zgC HJ.out.2.1 HF.out.2.1 HF.out.2.2.1 HF.out.2.2.2.2.2.1 (HF.out.2.2.2.2.2.2.2.2.2.kept (w':=w2) fun y hy=>⟨hy,HJ.out.2.2 y hy⟩) HF.out.2.2.2.2.2.2.2.2.1 HB3.out hown6 hgrow hat;have HPRE:=hH (aN hpre (aN ht3 hw3));clear hpre ht3 hw3 hown6 hgrow hat)
       | (refine⟨trivial,?_⟩;gi_at_call 130;refine (callsIn_wide.2 (zc5 w6 v' _ HPRE.out.1.rows (by have h9:=HPRE.out.1.few;have:=HSZ.out;simp only[LlcQ] at*;omega) (fun y hy=>⟨(HPRE.out.1.p y hy).1,by have h9:=(HPRE.out.1.p y hy).2;have h8:=Zf _ HPRE.out.1.chain y hy;rw[yH] at h8;have:=HSZ.out;omega⟩))).mono ?_;rintro e w7 ⟨rv7,rfl,r1,r2,r3⟩;have HNX:=hH (aN r1 (aN r2 r3));clear r1 r2 r3))
      have hwf:=HPRE.out.1.next HNX.out.1 HNX.out.2.1 HNX.out.2.2
      have hj:=hB.turn (HJ.out.1 kb kc) HPRE.out.2.1 HPRE.out.2.2
      have hj2:=hB.turn hj (HNX.out.2.2.mono (fun y hy=>HPRE.out.1.own y hy)) (fun y hy=>Or.inl hy)
      have hinv:ziI (fun y=>S y∨y=W.heap.size) t J (jJ (yN (⟨kb,kc,u.kids, -1⟩::x::r))) rv7 w7:=⟨_,_,hwf,hj2,rfl⟩
      refine⟨hH ⟨_,hinv⟩,?_⟩
      have q1:=(HMS.out _ _ ⟨_,hinv⟩).2 _ hinv
      have q2:=YK (⟨kb,kc,u.kids, -1⟩::x::r) (fun y hy=>(HPRE.out.1.p y hy).1)
      have q3:=zau (a:=kb) (c:=kc) (r:=r) (HF.out.1.ok x sp1) HF.out.2.1
      have q4:=HG.out
      omega
    · have HE:=hH (zdQ.mkx (J:=J) (v:= .tuple #[]) hJ4)
      clear hkT hkS hJ4 HF HC
      gi_wp2
      go_end0
      exact HE.out
end Go.Proofs.Ytnikgofkldkdkaa
namespace Go.Proofs.Ytnikgofkldkdkaa
open Go.RowKit Go.Shelf
def zgQ (B:Nat)(T S:Nat→Prop)(I:(Nat→Prop)→List Fr→World→Prop)(Ix:Code→(Nat→Prop)→World→Prop)(x:Fr)(r:List Fr)(u:Tr)(W:World)(e:Exit)(_:Act)(V:World):Prop:=
 KeepsFrom B W V∧Kept T W V∧(∀y,S y→V.heap[y]? =W.heap[y]?)∧((e= .normal∧∀a c,I T (yN (⟨a,c,u.kids, -1⟩::x::r)) V)∨(e= .ret∧Ix .ret T V)∨∃id,e= .exit id∧Ix (.exit id) T V)
theorem zew {n:Nat}{g:Operand}{ps:Array Tmp}{assign body:Code}{Q:Exit→Act→World→Prop}{a:Act}{w:World}(h1:1≤n){NB:Nat}(hg:a.eval g= .func (.func 129) #[] #[.pointer (some ⟨NB,0,none⟩)])
 (t:Tr) (ka:Option Addr) (cap:Nat) (S:Nat→Prop) (hS:∀y,S y→y<w.heap.size) (hk:zk w S t.kids ka) (hc:foLen t.kids≤cap) (hsz:za t.kids≤400000) (hNB:w.heap[NB]? =some (.cells #[.int .i64 t.id,.int .i64 t.kind,.string t.text,.slice ka (foLen t.kids) cap] 27 (0,0))) (hps:ps.size=1)
 (I:(Nat→Prop)→List Fr→World→Prop) (Ix:Code→(Nat→Prop)→World→Prop)
 (hI:∀{T T' :Nat→Prop} {L:List Fr} {V V' :World},I T L V→zo V V' (fun x=>T x∨(w.heap.size≤x∧vQ V x))→kg T T' V V'→I T' L V')
 (hIx:∀{c:Code} {T:Nat→Prop} {V:World} (o o' :Loop),Ix c T V→(∀x,T x→w.heap.size+2≤x)→V.heap[w.heap.size+1]? =some (.loop o)→Ix c T (V.putObj (w.heap.size+1) (.loop o')))
 (h0:I (fun _=>False) (yN [⟨some ⟨w.heap.size+2,0,none⟩,1,zh t, -1⟩]) w)
 (hround:∀(l:Nat),l=w.heap.size+1→∀(T:Nat→Prop) (rv:Value) (x:Fr) (r:List Fr) (u:Tr) (V:World),(∀y,T y→w.heap.size+2≤y)→w.heap.size+2≤V.heap.size→vH V (fun y=>S y∨y=w.heap.size+2) t T rv (x::r)→zB x.f x.p.toNat=some u→I T (x::r) V→
   ∀ (K:Act→World→Prop),(∀a₁,(∀V',(∃o',V'=V.putObj l o'∧∃o,V.heap[l]? =some o∧o.isCells=false)→body.wpIn (Fence.wide.inRound l) (n - 1 - 1) Try.prog (zgQ w.heap.size T (fun y=>S y∨y=w.heap.size+2) I Ix x r u V') a₁ V')→K a₁ V)→
    assign.wpIn (Fence.wide.inRound l) (n - 1 - 1) Try.prog (Exit.then K (fun _ _ _=>False)) { tmps:=(ps.zip #[rv]).foldl (fun t (p,v)=>t.setIfInBounds p v) a.tmps,defers:=[] } V)
 (hdone:∀(D:Nat) (T:Nat→Prop) (V:World),w.heap.size≤D→I T [] V→V.heap[D]? =some (.deferred (some []))→Q .normal { a with defers:={ target:= .collected D,args:= #[] }::a.defers } V)
 (hstop:∀(D:Nat) (c:Code) (T:Nat→Prop) (V:World),D=w.heap.size→(∀x,T x→w.heap.size+2≤x)→Ix c T V→V.heap[D]? =some (.deferred (some []))→c.wpIn Fence.wide n Try.prog Q { a with defers:={ target:= .collected D,args:= #[] }::a.defers } V):
 (Code.rangeFunc g ps assign body).wpIn Fence.wide n Try.prog Q a w:=by
 obtain⟨B,hB⟩:∃B,w.heap.size=B:=⟨_,rfl⟩
 simp only[hB] at hI hIx hround hdone hstop h0
 refine wpIn_rangeFunc fun fn hfn=>?_
 obtain⟨rec,hrec⟩:∃rec:LoopState→Option Code→Loop,rec=fun st pe=>{ state:=st,pending:=pe,fn,tmps:=a.tmps,params:=ps,assign,body,defers:=B }:=⟨_,rfl⟩
 obtain⟨W1,hW1⟩:∃W1,W1=(w.alloc (.deferred (some []))).alloc (.loop (rec .ready none)):=⟨_,rfl⟩
 have hsz1:W1.heap.size=B+2:=by rw[hW1];simp[hB]
 have hblk:∀x,x<B→W1.heap[x]? =w.heap[x]?:=fun x hx=>by rw[hW1,BhaQ _ _ _ ue6,BhaQ _ _ _ om]
 have hbk:Book B (rec .ready none) W1:=by
  exact sc6
 have hb1:zo w W1 (fun _=>False):=by rw[hW1];exact ((zo.refl w _).alloc _).alloc _
 have hI1:I (fun _=>False) (yN [⟨some ⟨B+2,0,none⟩,1,zh t, -1⟩]) W1:=hI h0 (hb1.mono (fun _ h=>h.elim)) (fun x hx=>Or.inl hx)
 have hNBl:=lohQ hNB
 have hNB1:=(hblk NB om).trans hNB
 refine⟨B+1,[{ target:= .collected B,args:= #[] }],W1,{ target:= .fn (.func 129) #[.pointer (some ⟨NB,0,none⟩)],args:= #[.func (.yield (B+1)) #[] #[]] },W1,129, #[.func (.yield (B+1)) #[] #[]]++ #[.pointer (some ⟨NB,0,none⟩)],W1,?_,?_,?_,?_,fun _=>h1,?_⟩
 · exact ua1
 · simp only[resolve,hg]
   simp[go_sem]
 · exact ua2
 · simp[invoke,go_sem]
 · obtain ⟨J,hJ⟩:∃J:(Nat→Prop)→List Fr→World→Prop,J=fun T L V=>I T L V∧Book B (rec .ready none) V∧∀x,T x→B+2≤x:=⟨_,rfl⟩
   obtain⟨Jx,hJx⟩:∃Jx:(Nat→Prop)→World→Prop,Jx=fun T V=>∃c,Ix c T V∧Book B (rec .done (some c)) V∧∀x,T x→B+2≤x:=⟨_,rfl⟩
   have hS1:∀y,S y→y<W1.heap.size:=fun y hy=>by have:=hS y hy;omega
   have hbody:zgJ Try.prog (n - 1 - 1) (B+1) t (fun y=>S y∨y=W1.heap.size) J Jx:=by
    rw[hsz1]
    subst hJ hJx
    refine⟨?_,?_⟩
    · rintro T T' L V V' ⟨j1,j2,j3⟩ ht hw
      exact sg8
    · rintro T rv x r u V hf hu ⟨j1,j2,j3⟩
      have hr:=hround (B+1) rfl T rv x r u V j3 (by have:=lohQ j2.1;omega) hf hu j1
      have hTl:¬T (B+1):=fun h=>by have:=j3 _ h;omega
      have hSl:¬(S (B+1)∨B+1=B+2):=fun h=>by
       rcases h with h | h
       · have:=hS _ h;omega
       · omega
      have hy:=run_yield (P:=Try.prog) (args:= #[rv]) j2.1 ud2
      rw[hrec] at hy
      refine⟨fn,_,assign,body,hy,roundIn_of_wpIn hfn (hr _ fun a₁ hb=>?_)⟩
      refine⟨_,run_beginRound j2.1 (by rw[hrec]),?_⟩
      have hb2:Book B { rec .ready none with state:= .busy } (V.putObj (B+1) (.loop { rec .ready none with state:= .busy })):=j2.put
      refine wpIn_mono (hb _ ⟨_,rfl,_,j2.1,rfl⟩) ?_
      rintro e3 a3 U ⟨hkU,hkT,hkS,hp⟩
      have hb3:=hb2.kept hkU
      have fin:=fun jump=>run_endRound (P:=Try.prog) jump hb3.1
      rw[hrec] at fin hb3
      have hall:∀o',Kept T V (U.putObj (B+1) o'):=fun o'=>((Ql _ hTl).trans hkT).trans (Ql _ hTl)
      have hallS:∀o' y,(S y∨y=B+2)→(U.putObj (B+1) o').heap[y]? =V.heap[y]?:=fun o' y hy=>by
       have hne:y≠B+1:=fun e=>hSl (e▸hy)
       rw[WphQ hne,hkS y hy,WphQ hne]
      have htp:∀o',zo U (U.putObj (B+1) o') (fun x=>T x∨(B≤x∧vQ U x)):=fun o'=>(yQ o' hb3.1).mono (fun x hx=>Or.inr ⟨by omega,by rw[hx];exact⟨_,hb3.1,rfl⟩⟩)
      rcases hp with ⟨rfl,hi3⟩ | ⟨rfl,hi3⟩ | ⟨id,rfl,hi3⟩
      · refine⟨_,_,fin none,hall _,hallS _,.inl ⟨rfl,fun a c=>⟨hI (hi3 a c) (htp _) (fun x hx=>Or.inl hx),?_,j3⟩⟩⟩
        rw[hrec];exact hb3.put
      · refine⟨_,_,fin (some .ret),hall _,hallS _,.inr ⟨rfl,.ret,hIx _ _ hi3 j3 hb3.1,?_,j3⟩⟩
        rw[hrec];exact hb3.put
      · refine⟨_,_,fin (some (.exit id)),hall _,hallS _,.inr ⟨rfl,.exit id,hIx _ _ hi3 j3 hb3.1,?_,j3⟩⟩
        rw[hrec];exact hb3.put
   have hstart:J (fun _=>False) (yN [⟨some ⟨W1.heap.size,0,none⟩,1,zh t, -1⟩]) W1:=by rw[hJ,hsz1];exact⟨hI1,hbk,fun _ h=>h.elim⟩
   refine (callsIn_wide.2 (zgB W1 hbody NB ka cap hS1 (hk.kept fun y hy=>⟨hy,hblk y (by have:=hS y hy;omega)⟩) hc hsz hNB1 hstart)).mono ?_
   rintro e W2 ⟨⟨v,rfl⟩,(⟨T,hj⟩ | ⟨T,hj⟩)⟩
   · rw[hJ] at hj
     exact sd4
   · rw[hJx] at hj
     obtain⟨c,hi,hb,hT⟩:=hj
     have:=run_endLoop (P:=Try.prog) hb.1 ue4
     rw[hrec] at this
     exact⟨some c,_,this,hstop B c T _ rfl hT (hIx _ _ hi hT hb.1) ((WphQ om).trans hb.2)⟩
theorem zjs (w:World)(id kd:Int)(tx:ByteArray)(ka:Option Addr)(n c:Nat):Calls Try.prog 122 #[.agg #[.int .i64 id,.int .i64 kd,.string tx,.slice ka n c]] w fun e w'=>e= .returned (.func (.func 129) #[] #[.pointer (some ⟨w.heap.size,0,none⟩)])∧w'=w.alloc (.cells #[.int .i64 id,.int .i64 kd,.string tx,.slice ka n c] 27):=by
 have hmf:∀(fn:Fn) (first cap:Array Value) (w:World),(Instr.makeFunc fn first cap).run Try.prog w= .ok (.func fn first cap) w:=fun _ _ _ _=>rfl
 go_enter Try.func122,Try.ntmps122
 go_wp2_with fail
 go_ret
 exact⟨rfl,rfl⟩
end Go.Proofs.Ytnikgofkldkdkaa
namespace Go.Proofs.Ytnikgofkldkdkaa
open Go.RowKit
def zx (w:World)(os:List Obj):World:=os.foldl (fun w o=>w.alloc o) w
theorem zJ:∀(os:List Obj) (w:World),(zx w os).heap.size=w.heap.size+os.length
 | [],_=>rfl
 | o ::os,w=>by
   show (zx (w.alloc o) os).heap.size=_
   rw[zJ os,WsaQ,LlcQ];omega
theorem zl:∀(os:List Obj) (w:World),Below w.heap.size w (zx w os)
 | [],w=>BrQ _ _
 | o::os,w=>((BrQ _ w).alloc (NlrQ _) o).trans ((zl os (w.alloc o)).mono sp1)
theorem ze:∀(os:List Obj) (w:World) (i:Nat) (o:Obj),os[i]? =some o→(zx w os).heap[w.heap.size+i]? =some o
 | [],_,_,_,h=>by simp at h
 | o ::os,w,0,o',h=>by
   simp at h;subst h
   show (zx (w.alloc o) os).heap[w.heap.size]? =_
   rw[(zl os (w.alloc o)).block _ sp1];exact World.alloc_heap_new w o
 | o ::os,w,i+1,o',h=>by
   have:=ze os (w.alloc o) i o' ue3
   rw[WsaQ] at this
   show (zx (w.alloc o) os).heap[w.heap.size+(i+1)]? =_
   rw[show w.heap.size+(i+1)=w.heap.size+1+i by omega];exact this
theorem Try.zeb:(Try.prog.info? 52).map (fun i=>(i.size,i.bytes,i.zero.map (fun z=>z.cells.size)))=some (5,64,some 5):=by kernel_rfl
def ZA (w:World)(B:Nat)(rv:Value)(n:Nat):Prop:=∃xs,w.ownsRow B 52 5 rv n xs∧∀i,i<n→∃d,xs[i*5+4]? =some (.int .i64 d)
def jw (w w' :World)(rv rv' :Value):Prop:=w.grownBy w' rv.ownBlock∧(rv'.ownBlock=rv.ownBlock∨∀g,rv'.ownBlock=some g→w.heap.size<g)
def zkK (w:World)(B:Nat)(rv:Value)(n:Nat)(t:Tr)(e:Ending)(w' :World):Prop:=
 ∃rv' n',e= .returned rv'∧ZA w' B rv' n'∧jw w w' rv rv'∧(2001≤n'∨n'=n+za t.kids+1)∧n'≤2001∧n≤n'
theorem ZA.bounds {w:World}{B:Nat}{rv:Value}{n:Nat}(h:ZA w B rv n){g:Nat}(hg:rv.ownBlock=some g):B≤g∧g<w.heap.size:=by
 obtain⟨xs,ho,_⟩:=h
 exact zi ho hg
theorem jw.low {w wr:World}{B n:Nat}{rv l:Value}(h:jw w wr rv l)(hs:ZA w B rv n)(hB:B≤w.heap.size):∀k,k<B→wr.heap[k]? =w.heap[k]?:=fun k hk=>
 h.1.block k om (fun e=>by have:=(hs.bounds e.symm).1;omega)
theorem jw.trans {w wr w2:World}{rv l l2:Value}(h:jw w wr rv l)(h2:jw wr w2 l l2):jw w w2 rv l2:=by
 have hs:=h.1.size
 refine⟨⟨h2.1.os.trans h.1.os,h2.1.tape.trans h.1.tape,h2.1.output.trans h.1.output,NltQ hs h2.1.size,fun k hk hn=>?_⟩,?_⟩
 · rw[h2.1.block k om (fun e=>?_),h.1.block k hk hn]
   rcases h.2 with h' | h'
   · exact hn (e.trans h')
   · have:=h' k e.symm;omega
 · rcases h2.2 with h' | h'
   · rw[h'];exact h.2
   · exact Or.inr fun g hg=>by have:=h' g hg;omega
theorem jw.box {w:World}{o:Obj}(rv:Value):jw w (w.alloc o) rv rv:=⟨⟨rfl,rfl,rfl,by simp,fun k hk _=>BhaQ w o k hk⟩,Or.inl rfl⟩
theorem jw.first {w w1:World}{o1 o2:Obj}{rv:Value}{gg len cap:Nat}(h:((w.alloc o1).alloc o2).grownBy w1 rv.ownBlock)(hat:rv.ownBlock=some gg∨gg=w.heap.size+1+1):jw w w1 rv (.slice (some ⟨gg,0,none⟩) len cap):=
 ⟨⟨h.os,h.tape,h.output,by have:=h.size;simp at this;omega,fun k hk hn=>by rw[h.block k ue6 hn,BhaQ _ _ _ ue6,BhaQ _ _ _ hk]⟩,
  hat.elim (fun e=>Or.inl (by rw[e];rfl)) (fun e=>Or.inr fun g hg=>by simp only[Value.ownBlock,Option.some.injEq] at hg;omega)⟩
theorem ZA.box {w:World}{B:Nat}{rv:Value}{n:Nat}(h:ZA w B rv n)(o:Obj):ZA (w.alloc o) B rv n:=by
 obtain⟨xs,ho,hx⟩:=h
 exact⟨xs,ho.alloc o,hx⟩
theorem zeJ {xs:List Value}{n:Nat}{a b c e:Value}{d:Int}(hl:xs.length=n*5)(hx:∀i,i<n→∃d,xs[i*5+4]? =some (.int .i64 d)):∀i,i<n+1→∃d',(xs++[a,b,c,e,.int .i64 d])[i*5+4]? =some (.int .i64 d'):=fun i hi=>by
 by_cases h:i<n
 · obtain⟨d',h'⟩:=hx i h
   exact⟨d',by rw[List.getElem?_append_left om];exact h'⟩
 · have:i=n:=by omega
   subst this
   exact⟨d,by rw[List.getElem?_append_right om,hl];simp⟩
def zfx (w:World)(B:Nat)(rv:Value)(n:Nat)(c1:Array Value)(ks:Fo)(len:Nat)(l i:Value)(wr:World):Prop:=
 ∃k nk,k≤len∧i= .int .i64 k∧ZA wr B l nk∧jw w wr rv l∧(2001≤nk∨nk=n+1+za (zy k ks))∧nk≤2001∧n+1≤nk∧wr.heap[w.heap.size]? =some (.cells c1 27 (0,0))
theorem zgu :∀(m:Nat) (w:World) (S:Nat→Prop) (v:Value) (t:Tr) (B:Nat) (rv:Value) (n:Nat) (d:Int),za t.kids<m→foLen t.kids≤9223372036854775807→vB t.kids→(∀k,S k→k<B)→B≤w.heap.size→zK w S v t→
 ZA w B rv n→n≤2001→0≤d→d≤(n:Int)+1→
 Calls Try.prog 20 #[rv,v,.int .i64 d,.int .i64 2001] w (zkK w B rv n t):=by
 intro m
 induction m with
 | zero=>intro w S v t B rv n d h;omega
 | succ m ih =>
   intro w S v t B rv n d hm hlen2 hfit hS hB hv hrow hn hd0 hd1
   obtain⟨ka,cap,rfl,hcp,hk⟩:=hv
   obtain⟨id,kd,tx,ks⟩:=t
   simp only at hk hm hlen2 hfit
   simp only
   obtain⟨xs,ho,hxs⟩:=hrow
   obtain⟨ra,qj,rfl⟩:=zt ho
   obtain⟨len,hlen⟩:∃len,len=foLen ks:=⟨_,rfl⟩
   rw[←hlen]
   rw[←hlen] at hlen2
   have HN:=hH (aN hm hfit)
   have HLEN:=hH hlen
   have HK:=hH hk
   have HSS:=hH (aN hS hB)
   have HIH:=hH ih
   have HO:=hH (aN ho hxs)
   clear hlen hk hm hfit hS hB ih ho hxs
   by_cases hfull:2001≤n
   · have hn2:n=2001:=by omega
     subst hn2
     go_enter Try.func20,Try.ntmps20
     go_wp2_with fail
     go_ret
     exact⟨_,2001,rfl,(show ZA w B _ 2001 from⟨xs,HO.out⟩).box _,jw.box _,Or.inl hfull,by omega,by omega⟩
   · have hnn:¬(2001:Int)≤(n:Int):=by omega
     go_enter Try.func20,Try.ntmps20
     obtain⟨i0,z0,hi0,hz0,hz1,hz2,hz3⟩:=zW Try.zeb
     have hnew:((w.alloc (.cells #[.int .i64 id,.int .i64 kd,.string tx,.slice ka len cap] 27)).alloc (.cells #[.int .i64 id,.int .i64 kd,.string tx,.slice ka len cap,.int .i64 d] 52)).heap[w.heap.size+1]? =some (.cells #[.int .i64 id,.int .i64 kd,.string tx,.slice ka len cap,.int .i64 d] 52 (0,0)):=heap_alloc2_new w _ _
     have HNEW:=hH hnew
     have hBw:B≤w.heap.size:=HSS.out.2
     clear hnew
     go_wp2_with (at_builtin;refine wpList_append_lies _ rfl (.tmp 15) (.tmp 19) _ rfl B 52 i0 z0 5 64 Try.underlying30 hi0 hz0 hz1 hz2 hz3 om (.slice ra n qj) n xs rfl ((HO.out.1.alloc _).alloc _) ⟨w.heap.size+1,0,none⟩ 1 1 [.int .i64 id,.int .i64 kd,.string tx,.slice ka len cap,.int .i64 d] rfl rfl (World.news_of_block (cs:= #[.int .i64 id,.int .i64 kd,.string tx,.slice ka len cap,.int .i64 d]) (t:=52) (fr:=(0,0)) HNEW.out) ue0 om ue1 om ue6 (w.heap.size+1+1) sp1 ?_;intro gg cap' w1 hown1 hgrow hat hlt1)
     have hg1:jw w w1 (.slice ra n qj) (.slice (some ⟨gg,0,none⟩) (n+1) cap'):=jw.first hgrow hat
     have hsp1:ZA w1 B (.slice (some ⟨gg,0,none⟩) (n+1) cap') (n+1):=⟨_,hown1,zeJ HO.out.1.1 HO.out.2⟩
     have hob:∀g,(Value.slice ra n qj).ownBlock=some g→g<w.heap.size:=fun g hg=>(zi HO.out.1 hg).2
     have hbox:w1.heap[w.heap.size]? =some (.cells #[.int .i64 id,.int .i64 kd,.string tx,.slice ka len cap] 27 (0,0)):=by
      exact sf5
     have HG:=hH (aN hg1 (aN hsp1 (aN hob hbox)))
     clear hg1 hsp1 hob hbox hgrow hown1 hat
     go_loopw [0,9] (fun l i wr=>zfx w B (.slice ra n qj) n #[.int .i64 id,.int .i64 kd,.string tx,.slice ka len cap] ks len l i wr) (fun _ i _=>len - (intOf i).toNat)
     case atStart=>exact⟨0,n+1,NzlQ _,rfl,HG.out.2.1,HG.out.1,Or.inr rfl,by omega,NlrQ _,HG.out.2.2.2⟩
     case round=>
      obtain⟨k,nk,hk,rfl,hsp,hgr,hnk,hnk2,hnk3,hbx⟩:=hrel
      have p1:wr.cell? ⟨w.heap.size,3,none⟩=some (.slice ka len cap):=by rw[corQ wr _ 3 _ _ _ hbx];rfl
      have HR:=hH (aN hsp (aN hgr (aN hnk hbx)))
      clear hsp hgr hnk hbx
      by_cases hlt:k<len
      · have hlow:=HR.out.2.1.low ⟨xs,HO.out⟩ hBw
        have hk1:zk wr S ks ka:=HK.out.kept fun x hx=>⟨hx,hlow x (HSS.out.1 x hx)⟩
        obtain⟨b0,o0,⟨ki,kk,kt⟩,l',r,hd1',b,off,a1,n1,rfl,hSb,c0,c1,c2,c3,hc1,hl1⟩:=hk1.at k ud3
        obtain⟨_,_,_,_,_,e1,e2,hsz1,htk⟩:=yw k ks ud3
        rw[hd1'] at e1;cases e1
        have hft:=Zi k HN.out.2 hd1'
        have hcall:=HIH.out wr S (.agg #[.int .i64 ki,.int .i64 kk,.string kt,.slice a1 (foLen l') n1]) ⟨ki,kk,kt,l'⟩ B u0 nk (d+1) uc8 hft.1 hft.2 HSS.out.1 (NltQ hBw HR.out.2.1.1.size) ⟨a1,n1,rfl,hc1,hl1⟩ HR.out.1 hnk2 om om
        obtain⟨m1,hm1⟩:∃m,m=foLen l':=⟨_,rfl⟩
        rw[←hm1] at hcall c3
        simp only at c0 c1 c2
        have HC:=hH hcall
        have htk2:za (zy (k+1) ks)=za (zy k ks)+za l'+1:=by rw[htk,kE]
        have HTK:=hH htk2
        have hkl:(k:Int)<(len:Int):=by omega
        clear hk1 hlow hd1' hcall hm1 htk htk2 hl1 hc1 hsz1 hSb e2 hft
        go_wp2_with fail
        refine HC.out.mono ?_
        rintro e w2 ⟨l2,n2,rfl,hsp2,hg2,hn2,hn22,hn23⟩
        have HE:=hH (aN hsp2 (aN hg2 hn2))
        clear hsp2 hg2 hn2
        go_wp2_with fail
        have hne:some w.heap.size≠u0.ownBlock:=fun e=>by
         exact sf1
        exact⟨⟨k+1,n2,by omega,by go_num,HE.out.1,HR.out.2.1.trans HE.out.2.1,by
         have h1:=HR.out.2.2.1
         have h2:2001≤n2∨n2=nk+za l'+1:=HE.out.2.2
         have h3:=HTK.out
         omega,hn22,by omega,(HE.out.2.1.1.block _ (lt_of_some HR.out.2.2.2) hne).trans HR.out.2.2.2⟩,by simp[intOf];omega⟩
      · have hkk:k=len:=by omega
        have HKK:=hH hkk
        clear hkk
        go_wp2_with fail
        go_ret
        exact⟨_,nk,rfl,HR.out.1,HR.out.2.1,by
         rcases HR.out.2.2.1 with h | h
         · exact Or.inl h
         · right
           rw[qK k ks (by rw[HKK.out,HLEN.out];exact NlrQ _)] at h
           show nk=n+za ks+1;omega,hnk2,by omega⟩
end Go.Proofs.Ytnikgofkldkdkaa
namespace Go.Proofs.Ytnikgofkldkdkaa
open Go.RowKit Go.Shelf
attribute [local go_sem] Oper.semAt_some
def zdC (x:Sp):Tr:=⟨x.2.1.1,x.2.1.2.1,x.2.1.2.2,x.2.2⟩
def ziC:Tr:=⟨0,0,⟨#[]⟩,.nil⟩
def qX (id:Int)(l:List Sp):Option Sp:=l.find? (fun x=>x.2.1.1 == id)
theorem J6 {id:Int}{l:List Sp}(h:∀x∈l,x.2.1.1≠id):qX id l=none:=by
 simp only[qX,List.find?_eq_none]
 intro x hx;have:=h x hx;simpa using this
theorem J7 {id:Int}{pre rest:List Sp}{x:Sp}(h:∀y∈pre,y.2.1.1≠id)(hx:x.2.1.1=id):qX id (pre++x::rest)=some x:=by
 have h1:List.find? (fun x:Sp=>x.2.1.1 == id) pre=none:=J6 h
 simp[qX,List.find?_append,h1,hx]
end Go.Proofs.Ytnikgofkldkdkaa
