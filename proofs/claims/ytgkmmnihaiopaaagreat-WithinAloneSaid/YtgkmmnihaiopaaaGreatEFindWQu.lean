/-
  .
-/
import Derived.OrdersIn
import Derived.OrdersHeld
import Derived.RangeFuncNested
import Derived.RangeFuncCalls
import Derived.Deep.RegionHeld
import Derived.TacticsInMore
import Derived.OwnWalkIn
import Derived.Test.YtgkmmnihaiopaaaGreatECopyWQu
import Derived.Deep.AppendLies
import Derived.Test.YtgkmmnihaiopaaaGreatJPgQu
import Derived.Test.YtgkmmnihaiopaaaGreatJPsQu
set_option maxRecDepth 100000
set_option maxHeartbeats 40000000
set_option linter.unusedVariables false
set_option linter.unusedSimpArgs false
namespace Go.Proofs.YtgkmmnihaiopaaaGreat
open Go.RowKit
section
variable {n:Nat} {P:Program} {ops:Array Oper} {Q:Exit→Act→World→Prop} {md:Region.Mode} {S:World→Prop}
theorem Zt {i:Nat} {o:Oper} {v:Value} {a:Act} (hi:ops[i]? =some o) (hy:YieldsIf P ops S o v a) {K:Act→World→Prop} {w:World} (hS:S w) (h:K (a.put o.dst v) w):wpOpIn Fence.wide n P ops Q i K a w:=by
 unfold wpOpIn
 simp only[hi]
 rcases hy with ⟨hw,hv⟩ | ⟨hw,rfl⟩
 · simp only[hw,if_true,Oper.wpIn,show Fence.wide.round=none from rfl,Oper.semAt_none,hv w hS,Oper.uponIn]
   exact⟨fun _ _=>trivial,h⟩
 · simp only[hw,Bool.false_eq_true,if_false]
   exact⟨fun _ _=>trivial,h⟩
theorem zb4 {j:Nat} {oi oj:Oper} {v:Value} (hj:ops[j]? =some oj) (hap:oi.apart ops oj=true) (hsi:∀cs b,oi.op≠ .select cs b) (hsj:∀cs b,oj.op≠ .select cs b)
 (hQ:∀c a w,Q (.panic c) (a.put oi.dst v) w→Q (.panic c) a w) {K:Act→World→Prop} {a:Act} {w:World} (hy:YieldsIf P ops S oi v a) (h:wpOpIn Fence.wide n P ops Q j K (a.put oi.dst v) w):
 wpOpIn Fence.wide n P ops Q j (fun a' w'=>YieldsIf P ops S oi v a'∧K (a'.put oi.dst v) w') a w:=by
 obtain⟨h1,h2,h3⟩:=Oper.apart_spec hap
 have keep:∀(a:Act),YieldsIf P ops S oi v a→∀u,YieldsIf P ops S oi v (a.put oj.dst u):=fun a hy u=>
  hy.of_same (execOp_put oi hsi a oj.dst u h3) (wanted_put oi a oj.dst u h3)
 have keepD:∀d,YieldsIf P ops S oi v { a with defers:=d::a.defers }:=fun d=>hy.of_same rfl rfl
 unfold wpOpIn at*
 simp only[hj] at*
 rw[wanted_put oj a oi.dst v h1] at h
 split
 · rename_i hw
   simp only[hw,if_true] at h
   unfold Oper.wpIn at*
   refine⟨fun _ _=>trivial,?_⟩
   have h:=h.2
   rw[show Fence.wide.round=none from rfl,Oper.semAt_none,execOp_put oj hsj a oi.dst v h1] at h
   rw[show Fence.wide.round=none from rfl,Oper.semAt_none]
   generalize (execOp a.eval oj).run P w=r at*
   cases r with
   | ok x w'=>
     cases x<;>simp only[Oper.uponIn] at h ⊢
     case value u=>exact⟨keep a hy u,by rw[←Act.put_comm a v u h2];exact h⟩
     case skip=>exact⟨keep a hy _,by rw[←Act.put_comm a v undef h2];exact h⟩
     case defer d=>
      refine⟨keep _ (keepD d) _,?_⟩
      rw[←Act.put_comm _ v undef h2,←Act.put_defers]
      exact h
     case enter f args=>
      refine⟨h.1,CallsIn.mono h.2 fun e w'' he=>?_⟩
      exact sh3
     case row row args=>exact⟨h.1,RowsIn.mono h.2 fun u w'' he=>⟨keep a hy u,by rw[←Act.put_comm a v u h2];exact he⟩⟩
     case round l f tmps assign body=>
      refine⟨h.1,RoundIn.mono h.2 fun e w'' he=>?_⟩
      exact sh3
   | halt x w'=>
     cases x<;>simp only[Oper.uponIn] at h ⊢
     case panic u=>exact hQ _ _ _ h
 · rename_i hw
   simp only[hw] at h
   exact⟨fun _ _=>trivial,keep a hy _,by rw[←Act.put_comm a v undef h2];exact h.2⟩
def vE (n:Nat) (P:Program) (md:Region.Mode) (ops:Array Oper) (Q:Exit→Act→World→Prop) (S:World→Prop):Nat→Array Bool→Act→World→Prop
 | 0,listed,a,w=>Region.ready md ops listed= []∧Q .normal a w
 | fuel+1,listed,a,w=>(Region.ready md ops listed= []→Q .normal a w)∧∀i∈Region.ready md ops listed,wpOpIn Fence.wide n P ops Q i (fun a' w'=>S w'∧vE n P md ops Q S fuel (listed.setIfInBounds i true) a' w') a w
theorem Zz:∀(fuel:Nat) (listed:Array Bool) (a:Act) (w:World),vE n P md ops Q S fuel listed a w→wpAnyIn Fence.wide n P md ops Q fuel listed a w
 | 0,_,_,_,h=>h
 | fuel+1,_,_,_,h=>⟨h.1,fun i hi=>wpOpIn_mono (fun a' w' h'=>Zz fuel _ a' w' h'.2) (h.2 i hi)⟩
theorem zce {i:Nat} {oi:Oper} {v:Value} (hi:ops[i]? =some oi) (hsel:∀(j:Nat) (o:Oper) cs b,ops[j]? =some o→o.op≠ .select cs b) (hQ:∀c a w,Q (.panic c) (a.put oi.dst v) w→Q (.panic c) a w):
 ∀ (fuel:Nat) (listed:Array Bool) (a:Act) (w:World),(∀j oj,ops[j]? =some oj→j≠i→listed.getD j true=false→(∀e∈oj.after,Region.binds md e=true→e.on≠i)→oi.apart ops oj=true)→
  i∈Region.ready md ops listed→YieldsIf P ops S oi v a→S w→vE n P md ops Q S fuel (listed.setIfInBounds i true) (a.put oi.dst v) w→vE n P md ops Q S (fuel+1) listed a w:=by
 intro fuel
 induction fuel with
 | zero=>
   intro listed a w _ hr hy hS H
   refine⟨fun h=>(by rw[h] at hr;cases hr),fun j hj=>?_⟩
   by_cases hji:j=i
   · subst hji;exact Zt hi hy hS ⟨hS,H⟩
   · have:=ready_mono hj hji
     rw[H.1] at this
     cases this
 | succ fuel ih=>
   intro listed a w hfree hr hy hS H
   refine⟨fun h=>(by rw[h] at hr;cases hr),fun j hj=>?_⟩
   by_cases hji:j=i
   · subst hji;exact Zt hi hy hS ⟨hS,H⟩
   · have h1:=H.2 j (ready_mono hj hji)
     obtain⟨hjun,oj,hoj,hall⟩:=mem_ready.1 hj
     have hnot:∀e∈oj.after,Region.binds md e=true→e.on≠i:=fun e he hb heq=>by
      have h1:=hall e he hb
      have h0:=(mem_ready.1 hr).1
      rw[heq] at h1
      rcases Nat.lt_or_ge i listed.size with h' | h'
      · simp[h'] at h0 h1;rw[h0] at h1;cases h1
      · simp[Array.getElem?_eq_none h'] at h1
     have h2:=zb4 hoj (hfree j oj hoj hji hjun hnot) (fun cs b=>hsel i oi cs b hi) (fun cs b=>hsel j oj cs b hoj) hQ hy h1
     have hfree' :∀k ok,ops[k]? =some ok→k≠i→(listed.setIfInBounds j true).getD k true=false→(∀e∈ok.after,Region.binds md e=true→e.on≠i)→oi.apart ops ok=true:=fun k ok hk hki hun hno=>by
      refine hfree k ok hk hki ?_ hno
      by_cases hjk:j=k
      · subst hjk;exact hjun
      · rw[getD_set_ne true hjk] at hun;exact hun
     refine wpOpIn_mono (fun a' w' h3=>⟨h3.2.1,ih (listed.setIfInBounds j true) a' w' hfree' (ready_mono hr (Ne.symm hji)) h3.1 h3.2.1 ?_⟩) h2
     rw[Array.setIfInBounds_comm _ _ hji]
     exact h3.2.2
theorem ze {i:Nat} {oi:Oper} {v:Value} {fuel:Nat} {listed:Array Bool} {a:Act} {w:World} (hi:ops[i]? =some oi) (hs:Region.noSelect ops=true) (hf:Region.free md ops listed i=true) (hr:(Region.ready md ops listed).contains i=true)
 (hQ:∀c a w,Q (.panic c) (a.put oi.dst v) w→Q (.panic c) a w) (hy:YieldsIf P ops S oi v a) (hS:S w) (h:vE n P md ops Q S fuel (listed.setIfInBounds i true) (a.put oi.dst v) w):vE n P md ops Q S (fuel+1) listed a w:=
 zce hi (Region.noSelect_spec hs) hQ fuel listed a w (Region.free_spec hi hf) (by simpa using hr) hy hS h
theorem zL1 {i:Nat} {oi:Oper} (v:Value) {fuel:Nat} {listed:Array Bool} {a:Act} {w:World} (hi:ops[i]? =some oi) (hv:∀X,S X→(execOp a.eval oi).run P X= .ok (.value v) X) (h:vE n P md ops Q S fuel (listed.setIfInBounds i true) (a.put oi.dst v) w) (hQ:∀c a w,Q (.panic c) (a.put oi.dst v) w→Q (.panic c) a w:=by first | exact fun _ _ _ h=>h | exact fun _ _ _ h=>by cases h.1) (hw:Region.wanted oi (yielded ops a.tmps)=true:=by rfl) (hS:S w:=by assumption) (hs:Region.noSelect ops=true:=by kernel_rfl) (hf:Region.free md ops listed i=true:=by kernel_rfl) (hr:(Region.ready md ops listed).contains i=true:=by kernel_rfl):vE n P md ops Q S (fuel+1) listed a w:=
 ze hi hs hf hr hQ (Or.inl ⟨hw,hv⟩) hS h
theorem zG1 {i:Nat} {oi:Oper} (v:Value) {fuel:Nat} {listed:Array Bool} {a:Act} {w:World} (hi:ops[i]? =some oi)  (h:vE n P md ops Q S fuel (listed.setIfInBounds i true) (a.put oi.dst v) w) (hQ:∀c a w,Q (.panic c) (a.put oi.dst v) w→Q (.panic c) a w:=by first | exact fun _ _ _ h=>h | exact fun _ _ _ h=>by cases h.1) (hw:Region.wanted oi (yielded ops a.tmps)=true:=by rfl) (hS:S w:=by assumption) (hs:Region.noSelect ops=true:=by kernel_rfl) (hf:Region.free md ops listed i=true:=by kernel_rfl) (hr:(Region.ready md ops listed).contains i=true:=by kernel_rfl) (hv:∀X,S X→(execOp a.eval oi).run P X= .ok (.value v) X:=by clear hHeld;intro X hSw;clear hSw;go_simp):vE n P md ops Q S (fuel+1) listed a w:=
 ze hi hs hf hr hQ (Or.inl ⟨hw,hv⟩) hS h
theorem zR1 {i:Nat} {oi:Oper}  {fuel:Nat} {listed:Array Bool} {a:Act} {w:World} (hi:ops[i]? =some oi)  (h:vE n P md ops Q S fuel (listed.setIfInBounds i true) (a.put oi.dst undef) w) (hQ:∀c a w,Q (.panic c) (a.put oi.dst undef) w→Q (.panic c) a w:=by first | exact fun _ _ _ h=>h | exact fun _ _ _ h=>by cases h.1) (hw:Region.wanted oi (yielded ops a.tmps)=false:=by rfl) (hS:S w:=by assumption) (hs:Region.noSelect ops=true:=by kernel_rfl) (hf:Region.free md ops listed i=true:=by kernel_rfl) (hr:(Region.ready md ops listed).contains i=true:=by kernel_rfl):vE n P md ops Q S (fuel+1) listed a w:=
 ze hi hs hf hr hQ (Or.inr ⟨hw,rfl⟩) hS h
theorem zM {i:Nat} {o:Oper} {fuel:Nat} {listed:Array Bool} {a:Act} {w:World} (hr:Region.ready md ops listed= [i]) (ho:ops[i]? =some o)
 (h:∀K:Act→World→Prop,(∀a' w',S w'→vE n P md ops Q S fuel (listed.setIfInBounds i true) a' w'→K a' w')→if Region.wanted o (yielded ops a.tmps)=true then Oper.wpIn Fence.wide n P o a w K Q else K (a.put o.dst undef) w):vE n P md ops Q S (fuel+1) listed a w:=by
 refine⟨fun h0=>(by rw[hr] at h0;cases h0),fun j hj=>?_⟩
 rw[hr,List.mem_singleton] at hj
 subst hj
 unfold wpOpIn
 rw[ho]
 have:=h (fun a' w'=>S w'∧vE n P md ops Q S fuel (listed.setIfInBounds j true) a' w') (fun a' w' h1 h2=>⟨h1,h2⟩)
 exact sg3
theorem yx {listed:Array Bool} {a:Act} {w:World} (hr:Region.ready md ops listed= []) (h:Q .normal a w):∀fuel,vE n P md ops Q S fuel listed a w
 | 0=>⟨hr,h⟩
 | _+1=>⟨fun _=>h,by rw[hr];simp⟩
theorem zd5 {l i:Nat} {K:Act→World→Prop} {a:Act} {w:World} (hd:∀(j:Nat) (o:Oper) c,ops[j]? =some o→o.op≠ .defer c) (h:wpOpIn Fence.wide n P ops Q i K a w):wpOpIn (Fence.wide.inRound l) n P ops Q i K a w:=by
 unfold wpOpIn at h ⊢
 cases ho:ops[i]? with
 | none=>simpa only[ho] using h
 | some o=>
   simp only[ho] at h ⊢
   split
   · rename_i hw
     rw[if_pos hw] at h
     refine⟨fun _ _=>trivial,?_⟩
     rw[show (Fence.wide.inRound l).round=some l from rfl,Oper.semAt_some l _ o (fun c=>hd i o c ho)]
     have h:=h.2
     rw[show Fence.wide.round=none from rfl,Oper.semAt_none] at h
     generalize (execOp a.eval o).run P w=r at h ⊢
     cases r with
     | ok x w'=>cases x<;>exact h
     | halt x w'=>cases x<;>exact h
   · rename_i hw
     rw[if_neg hw] at h
     exact⟨fun _ _=>trivial,h.2⟩
theorem QJ {l:Nat} (hd:∀(j:Nat) (o:Oper) c,ops[j]? =some o→o.op≠ .defer c):∀(fuel:Nat) (listed:Array Bool) (a:Act) (w:World),wpAnyIn Fence.wide n P md ops Q fuel listed a w→wpAnyIn (Fence.wide.inRound l) n P md ops Q fuel listed a w
 | 0,_,_,_,h=>h
 | fuel+1,_,_,_,h=>⟨h.1,fun i hi=>zd5 hd (wpOpIn_mono (fun a' w' h'=>QJ hd fuel _ a' w' h') (h.2 i hi))⟩
theorem Ji {ops:Array Oper} (h:(ops.toList.all fun o=>match o.op with | .defer _=>false | _=>true)=true) (j:Nat) (o:Oper) (c) (hj:ops[j]? =some o):o.op≠ .defer c:=fun e=>by
 have:=List.all_eq_true.1 h o (List.mem_of_getElem? (l:=ops.toList) (i:=j) (by simpa using hj))
 rw[e] at this;cases this
theorem jq {id l:Nat} {a:Act} {w:World} (hm:P.follows .mixedOrders=true) (hd:∀(j:Nat) (o:Oper) c,ops[j]? =some o→o.op≠ .defer c) (h:vE n P .any ops Q S ops.size (Array.replicate ops.size false) a w.drew):(Code.region id ops true).wpIn (Fence.wide.inRound l) n P Q a w:=
 wpIn_region_any hm (QJ hd _ _ _ _ (Zz _ _ _ _ h))
end
end Go.Proofs.YtgkmmnihaiopaaaGreat
namespace Go.Proofs.YtgkmmnihaiopaaaGreat
open Go.RowKit
def zt (w:World) (os:List Obj):World:=os.foldl (fun w o=>w.alloc o) w
theorem zC:∀(os:List Obj) (w:World),(zt w os).heap.size=w.heap.size+os.length
 | [],_=>rfl
 | o ::os,w=>by
   show (zt (w.alloc o) os).heap.size=_
   rw[zC os,WsaQ,List.length_cons];omega
theorem zm:∀(os:List Obj) (w:World),Below w.heap.size w (zt w os)
 | [],w=>BrQ _ _
 | o::os,w=>((BrQ _ w).alloc (Nat.le_refl _) o).trans ((zm os (w.alloc o)).mono sp1)
theorem zi:∀(os:List Obj) (w:World) (i:Nat) (o:Obj),os[i]? =some o→(zt w os).heap[w.heap.size+i]? =some o
 | [],_,_,_,h=>by simp at h
 | o ::os,w,0,o',h=>by
   simp at h;subst h
   show (zt (w.alloc o) os).heap[w.heap.size]? =_
   rw[(zm os (w.alloc o)).block _ sp1];exact World.alloc_heap_new w o
 | o ::os,w,i+1,o',h=>by
   have:=zi os (w.alloc o) i o' (by simpa using h)
   rw[WsaQ] at this
   show (zt (w.alloc o) os).heap[w.heap.size+(i+1)]? =_
   rw[show w.heap.size+(i+1)=w.heap.size+1+i by omega];exact this
theorem Yg {P:Program} {fn:Func} {p u:Tmp} {ty tb:TypeId} (h:fn.results= #[.cell p ty,.cell u tb]) (tmps:Array Value) (w:World) (g g' :Nat) (t:TypeId) (cs:Array Value) (fr:Nat×Nat) (d:TypeDesc) (b:Bool)
 (hp:tmps.getD p undef= .pointer (some ⟨g,0,none⟩)) (hg:w.heap[g]? =some (.cells cs t fr)) (hu:P.underlying ty=some d) (hd:(match d with | .struct _ | .array _ _=>true | _=>false)=true) (hi:(P.info? ty).map (·.size)=some cs.size)
 (hp2:tmps.getD u undef= .pointer (some ⟨g',0,none⟩)) (hc:w.cell? ⟨g',0,none⟩=some (.bool b)) (hb:∀w,(isAgg tb).run P w= .ok false w):
 (results fn tmps).run P w= .ok (.tuple #[.agg cs,.bool b]) w:=by
 have hp' :tmps[p]?.getD undef= .pointer (some ⟨g,0,none⟩):=by simpa using hp
 have hp2' :tmps[u]?.getD undef= .pointer (some ⟨g',0,none⟩):=by simpa using hp2
 have hl:(loadVar tb ⟨g',0,none⟩).run P w= .ok (.bool b) w:=by simp[go_sem,hc,hb,Result.andThen]
 simp[results,h,hp',hp2',asAddr,run_loadVar_row w g t ty cs fr d hg hu hd hi,hl]
theorem Tryz.zdU:(Tryz.prog.info? 59).map (fun i=>(i.size,i.bytes,i.zero.map (fun z=>z.cells.size)))=some (5,64,some 5):=by kernel_rfl
def Zo (w:World) (B:Nat) (rv:Value) (n:Nat):Prop:=∃xs,w.ownsRow B 59 5 rv n xs∧∀i,i<n→∃d,xs[i*5+4]? =some (.int .i64 d)
def jb (w w' :World) (rv rv' :Value):Prop:=w.grownBy w' rv.ownBlock∧(rv'.ownBlock=rv.ownBlock∨∀g,rv'.ownBlock=some g→w.heap.size<g)
def zjN (w:World) (B:Nat) (rv:Value) (n:Nat) (t:Tr) (e:Ending) (w' :World):Prop:=
 ∃rv' n',e= .returned rv'∧Zo w' B rv' n'∧jb w w' rv rv'∧(2001≤n'∨n'=n+zg t.kids+1)∧n'≤2001∧n≤n'
theorem Zo.bounds {w:World} {B:Nat} {rv:Value} {n:Nat} (h:Zo w B rv n) {g:Nat} (hg:rv.ownBlock=some g):B≤g∧g<w.heap.size:=by
 obtain⟨xs,ho,_⟩:=h
 exact zo ho hg
theorem jb.low {w wr:World} {B n:Nat} {rv l:Value} (h:jb w wr rv l) (hs:Zo w B rv n) (hB:B≤w.heap.size):∀k,k<B→wr.heap[k]? =w.heap[k]?:=fun k hk=>
 h.1.block k om (fun e=>by have:=(hs.bounds e.symm).1;omega)
theorem jb.trans {w wr w2:World} {rv l l2:Value} (h:jb w wr rv l) (h2:jb wr w2 l l2):jb w w2 rv l2:=by
 have hs:=h.1.size
 refine⟨⟨h2.1.os.trans h.1.os,h2.1.tape.trans h.1.tape,h2.1.output.trans h.1.output,Nat.le_trans hs h2.1.size,fun k hk hn=>?_⟩,?_⟩
 · rw[h2.1.block k om (fun e=>?_),h.1.block k hk hn]
   rcases h.2 with h' | h'
   · exact hn (e.trans h')
   · have:=h' k e.symm;omega
 · rcases h2.2 with h' | h'
   · rw[h'];exact h.2
   · exact Or.inr fun g hg=>by have:=h' g hg;omega
theorem jb.box {w:World} {o:Obj} (rv:Value):jb w (w.alloc o) rv rv:=⟨⟨rfl,rfl,rfl,by simp,fun k hk _=>BhaQ w o k hk⟩,Or.inl rfl⟩
theorem jb.first {w w1:World} {o1 o2:Obj} {rv:Value} {gg len cap:Nat} (h:((w.alloc o1).alloc o2).grownBy w1 rv.ownBlock) (hat:rv.ownBlock=some gg∨gg=w.heap.size+1+1):jb w w1 rv (.slice (some ⟨gg,0,none⟩) len cap):=
 ⟨⟨h.os,h.tape,h.output,by have:=h.size;simp at this;omega,fun k hk hn=>by rw[h.block k (by simp;omega) hn,BhaQ _ _ _ (by simp;omega),BhaQ _ _ _ hk]⟩,
  hat.elim (fun e=>Or.inl (by rw[e];rfl)) (fun e=>Or.inr fun g hg=>by simp only[Value.ownBlock,Option.some.injEq] at hg;omega)⟩
theorem Zo.box {w:World} {B:Nat} {rv:Value} {n:Nat} (h:Zo w B rv n) (o:Obj):Zo (w.alloc o) B rv n:=by
 obtain⟨xs,ho,hx⟩:=h
 exact⟨xs,ho.alloc o,hx⟩
theorem zem {xs:List Value} {n:Nat} {a b c e:Value} {d:Int} (hl:xs.length=n*5) (hx:∀i,i<n→∃d,xs[i*5+4]? =some (.int .i64 d)):∀i,i<n+1→∃d',(xs++[a,b,c,e,.int .i64 d])[i*5+4]? =some (.int .i64 d'):=fun i hi=>by
 by_cases h:i<n
 · obtain⟨d',h'⟩:=hx i h
   exact⟨d',by rw[List.getElem?_append_left om];exact h'⟩
 · have:i=n:=by omega
   subst this
   exact⟨d,by rw[List.getElem?_append_right om,hl];simp⟩
def ze3 (w:World) (B:Nat) (rv:Value) (n:Nat) (c1:Array Value) (ks:Fo) (len:Nat) (l i:Value) (wr:World):Prop:=
 ∃k nk,k≤len∧i= .int .i64 k∧Zo wr B l nk∧jb w wr rv l∧(2001≤nk∨nk=n+1+zg (zz k ks))∧nk≤2001∧n+1≤nk∧wr.heap[w.heap.size]? =some (.cells c1 27 (0,0))
theorem zfX :∀(m:Nat) (w:World) (S:Nat→Prop) (v:Value) (t:Tr) (B:Nat) (rv:Value) (n:Nat) (d:Int),zg t.kids<m→foLen t.kids≤9223372036854775807→qD t.kids→(∀k,S k→k<B)→B≤w.heap.size→zJ w S v t→
 Zo w B rv n→n≤2001→0≤d→d≤(n:Int)+1→
 Calls Tryz.prog 39 #[rv,v,.int .i64 d,.int .i64 2001] w (zjN w B rv n t):=by
 intro m
 induction m with
 | zero=>intro w S v t B rv n d h;omega
 | succ m ih =>
   intro w S v t B rv n d hm hlen2 hfit hS hB hv hrow hn hd0 hd1
   obtain⟨ka,cap,rfl,hcp,hk⟩:=hv
   obtain⟨id,kd,tx,ks⟩:=t
   simp only at hk hm hlen2 hfit
   simp only
   obtain⟨xs,ho,hxs⟩:=hrow
   obtain⟨ra,rcap,rfl⟩:=zw ho
   obtain⟨len,hlen⟩:∃len,len=foLen ks:=⟨_,rfl⟩
   rw[←hlen]
   rw[←hlen] at hlen2
   have HN:=hH (aN hm hfit)
   have HLEN:=hH hlen
   have HK:=hH hk
   have HSS:=hH (aN hS hB)
   have HIH:=hH ih
   have HO:=hH (aN ho hxs)
   clear hlen hk hm hfit hS hB ih ho hxs
   by_cases hfull:2001≤n
   · have hn2:n=2001:=by omega
     subst hn2
     go_enter Tryz.func39,Tryz.ntmps39
     go_wp2_with fail
     go_ret
     exact⟨_,2001,rfl,(show Zo w B _ 2001 from⟨xs,HO.out⟩).box _,jb.box _,Or.inl hfull,by omega,by omega⟩
   · have hnn:¬(2001:Int)≤(n:Int):=by omega
     go_enter Tryz.func39,Tryz.ntmps39
     obtain⟨i0,z0,hi0,hz0,hz1,hz2,hz3⟩:=yz Tryz.zdU
     have hnew:((w.alloc (.cells #[.int .i64 id,.int .i64 kd,.string tx,.slice ka len cap] 27)).alloc (.cells #[.int .i64 id,.int .i64 kd,.string tx,.slice ka len cap,.int .i64 d] 59)).heap[w.heap.size+1]? =some (.cells #[.int .i64 id,.int .i64 kd,.string tx,.slice ka len cap,.int .i64 d] 59 (0,0)):=heap_alloc2_new w _ _
     have HNEW:=hH hnew
     have hBw:B≤w.heap.size:=HSS.out.2
     clear hnew
     go_wp2_with (at_builtin;refine wpList_append_lies _ rfl (.tmp 15) (.tmp 19) _ rfl B 59 i0 z0 5 64 Tryz.underlying56 hi0 hz0 hz1 hz2 hz3 om (.slice ra n rcap) n xs rfl ((HO.out.1.alloc _).alloc _) ⟨w.heap.size+1,0,none⟩ 1 1 [.int .i64 id,.int .i64 kd,.string tx,.slice ka len cap,.int .i64 d] rfl rfl (World.news_of_block (cs:= #[.int .i64 id,.int .i64 kd,.string tx,.slice ka len cap,.int .i64 d]) (t:=59) (fr:=(0,0)) HNEW.out) (by simp[Value.oneCell']) om (by unfold maxLen;omega) om (by simp;omega) (w.heap.size+1+1) sp1 ?_;intro gg cap' w1 hown1 hgrow hat hlt1)
     have hg1:jb w w1 (.slice ra n rcap) (.slice (some ⟨gg,0,none⟩) (n+1) cap'):=jb.first hgrow hat
     have hsp1:Zo w1 B (.slice (some ⟨gg,0,none⟩) (n+1) cap') (n+1):=⟨_,hown1,zem HO.out.1.1 HO.out.2⟩
     have hob:∀g,(Value.slice ra n rcap).ownBlock=some g→g<w.heap.size:=fun g hg=>(zo HO.out.1 hg).2
     have hbox:w1.heap[w.heap.size]? =some (.cells #[.int .i64 id,.int .i64 kd,.string tx,.slice ka len cap] 27 (0,0)):=by
      rw[hgrow.block _ (by simp;omega) (fun e=>by have:=hob _ e.symm;omega)];exact heap_alloc2_old w _ _
     have HG:=hH (aN hg1 (aN hsp1 (aN hob hbox)))
     clear hg1 hsp1 hob hbox hgrow hown1 hat
     go_loopw [0,9] (fun l i wr=>ze3 w B (.slice ra n rcap) n #[.int .i64 id,.int .i64 kd,.string tx,.slice ka len cap] ks len l i wr) (fun _ i _=>len - (intOf i).toNat)
     case atStart=>exact⟨0,n+1,Nat.zero_le _,rfl,HG.out.2.1,HG.out.1,Or.inr rfl,by omega,Nat.le_refl _,HG.out.2.2.2⟩
     case round=>
      obtain⟨k,nk,hk,rfl,hsp,hgr,hnk,hnk2,hnk3,hbx⟩:=hrel
      have p1:wr.cell? ⟨w.heap.size,3,none⟩=some (.slice ka len cap):=by rw[corQ wr _ 3 _ _ _ hbx];rfl
      have HR:=hH (aN hsp (aN hgr (aN hnk hbx)))
      clear hsp hgr hnk hbx
      by_cases hlt:k<len
      · have hlow:=HR.out.2.1.low ⟨xs,HO.out⟩ hBw
        have hk1:zu wr S ks ka:=HK.out.kept fun x hx=>⟨hx,hlow x (HSS.out.1 x hx)⟩
        obtain⟨b0,o0,⟨ki,kk,kt⟩,l',r,hd1',b,off,a1,n1,rfl,hSb,c0,c1,c2,c3,hc1,hl1⟩:=hk1.at k (by rw[←HLEN.out];exact hlt)
        obtain⟨_,_,_,_,_,e1,e2,hsz1,htk⟩:=zS k ks (by rw[←HLEN.out];exact hlt)
        rw[hd1'] at e1;cases e1
        have hft:=kZ k HN.out.2 hd1'
        have hcall:=HIH.out wr S (.agg #[.int .i64 ki,.int .i64 kk,.string kt,.slice a1 (foLen l') n1]) ⟨ki,kk,kt,l'⟩ B u0 nk (d+1) (by have:=HN.out.1;simp only;omega) hft.1 hft.2 HSS.out.1 (Nat.le_trans hBw HR.out.2.1.1.size) ⟨a1,n1,rfl,hc1,hl1⟩ HR.out.1 hnk2 om om
        obtain⟨m1,hm1⟩:∃m,m=foLen l':=⟨_,rfl⟩
        rw[←hm1] at hcall c3
        simp only at c0 c1 c2
        have HC:=hH hcall
        have htk2:zg (zz (k+1) ks)=zg (zz k ks)+zg l'+1:=by rw[htk,jU]
        have HTK:=hH htk2
        have hkl:(k:Int)<(len:Int):=by omega
        clear hk1 hlow hd1' hcall hm1 htk htk2 hl1 hc1 hsz1 hSb e2 hft
        go_wp2_with fail
        refine HC.out.mono ?_
        rintro e w2 ⟨l2,n2,rfl,hsp2,hg2,hn2,hn22,hn23⟩
        have HE:=hH (aN hsp2 (aN hg2 hn2))
        clear hsp2 hg2 hn2
        go_wp2_with fail
        have hne:some w.heap.size≠u0.ownBlock:=fun e=>by
         rcases HR.out.2.1.2 with h | h
         · have:=HG.out.2.2.1 _ (h.symm.trans e.symm);omega
         · have:=h _ e.symm;omega
        exact⟨⟨k+1,n2,by omega,by go_num,HE.out.1,HR.out.2.1.trans HE.out.2.1,by
         have h1:=HR.out.2.2.1
         have h2:2001≤n2∨n2=nk+zg l'+1:=HE.out.2.2
         have h3:=HTK.out
         omega,hn22,by omega,(HE.out.2.1.1.block _ (lt_of_some HR.out.2.2.2) hne).trans HR.out.2.2.2⟩,by simp[intOf];omega⟩
      · have hkk:k=len:=by omega
        have HKK:=hH hkk
        clear hkk
        go_wp2_with fail
        go_ret
        exact⟨_,nk,rfl,HR.out.1,HR.out.2.1,by
         rcases HR.out.2.2.1 with h | h
         · exact Or.inl h
         · right
           rw[qg k ks (by rw[HKK.out,HLEN.out];exact Nat.le_refl _)] at h
           show nk=n+zg ks+1;omega,hnk2,by omega⟩
end Go.Proofs.YtgkmmnihaiopaaaGreat
namespace Go.Proofs.YtgkmmnihaiopaaaGreat
open Go.RowKit Go.Shelf
attribute [local go_sem] Oper.semAt_some
def zZ (x:Sp):Tr:=⟨x.2.1.1,x.2.1.2.1,x.2.1.2.2,x.2.2⟩
def zeT:Tr:=⟨0,0,⟨#[]⟩,.nil⟩
def qo (id:Int) (l:List Sp):Option Sp:=l.find? (fun x=>x.2.1.1 == id)
theorem Yp {id:Int} {l:List Sp} (h:∀x∈l,x.2.1.1≠id):qo id l=none:=by
 simp only[qo,List.find?_eq_none]
 intro x hx;have:=h x hx;simpa using this
theorem Yq {id:Int} {pre rest:List Sp} {x:Sp} (h:∀y∈pre,y.2.1.1≠id) (hx:x.2.1.1=id):qo id (pre++x::rest)=some x:=by
 have h1:List.find? (fun x:Sp=>x.2.1.1 == id) pre=none:=Yp h
 simp[qo,List.find?_append,h1,hx]
theorem QG:∀(d:Nat) (f:Fo) (x:Sp),x∈spF d f→zg x.2.2+1≤zg f
 | _,.nil,x,h=>by simp[spF] at h
 | d,.node _ _ k l r,x,h=>by
   simp only[spF,List.mem_cons,List.mem_append] at h
   simp only[zg]
   rcases h with rfl | h | h
   · simp only;omega
   · have:=QG (d+1) l x h;omega
   · have:=QG d r x h;omega
end Go.Proofs.YtgkmmnihaiopaaaGreat
namespace Go.Proofs.YtgkmmnihaiopaaaGreat
open Go.RowKit Go.Shelf
attribute [local go_sem] Oper.semAt_some
def zge (w:World) (S:Nat→Prop) (t:Tr) (id:Int) (e:Ending) (w' :World):Prop:=
 ∃v,e= .returned (.tuple #[v,.bool (qo id (spF 1 (zl t))).isSome])∧zJ w' (fun x=>zN w' x∧(S x∨w.heap.size≤x)) v (((qo id (spF 1 (zl t))).map zZ).getD zeT)∧Below w.heap.size w w'
def JQ (t:Tr) (ka:Option Addr) (n cap:Nat) (id:Int) (B:Nat):List Obj:=
 [.cells #[.int .i64 t.id,.int .i64 t.kind,.string t.text,.slice ka n cap] 27,.cells #[.int .i64 id] 3,.cells #[.int .i64 0,.int .i64 0,.string ⟨#[]⟩,.slice none 0 0] 27,.cells #[.bool false] 4,
  .cells #[.int .i64 t.id,.int .i64 t.kind,.string t.text,.slice ka n cap] 27,.cells #[.slice (some ⟨B+1+1+1+1,0,none⟩) 1 1] 25]
def zaJ (w W:World) (id:Int) (pre:List Sp) (_:Nat→Prop) (V:World):Prop:=Below w.heap.size w V∧W.heap.size≤V.heap.size∧(∀x,x<W.heap.size→V.heap[x]? =W.heap[x]?)∧∀x∈pre,x.2.1.1≠id
def zaK (w W:World) (S:Nat→Prop) (t:Tr) (id:Int) (T:Nat→Prop) (V:World):Prop:=Below w.heap.size w V∧W.heap.size≤V.heap.size∧∃x v c3,qo id (spF 1 (zl t))=some x∧v= .agg #[.int .i64 x.2.1.1,.int .i64 x.2.1.2.1,.string x.2.1.2.2,c3]∧V.heap[w.heap.size+2]? =some (.cells #[.int .i64 x.2.1.1,.int .i64 x.2.1.2.1,.string x.2.1.2.2,c3] 27 (0,0))∧V.heap[w.heap.size+3]? =some (.cells #[.bool true] 4 (0,0))∧zJ V (fun y=>XT T V y∧(S y∨w.heap.size+4≤y)) v (zZ x)
theorem zcK {W V V' :World} {T:Nat→Prop} (hs:W.heap.size≤V.heap.size) (hT:∀x,T x→W.heap.size≤x) (ht:zk V V' (fun x=>T x∨(W.heap.size≤x∧z8 V x))) (x:Nat) (hx:x<W.heap.size):V'.heap[x]? =V.heap[x]?:=
 ht.block x om (fun h=>by
  rcases h with h | h
  · have:=hT x h;omega
  · omega)
theorem zaJ.turn {w W V V' :World} {id:Int} {pre:List Sp} {T T' :Nat→Prop} (hw:w.heap.size≤W.heap.size) (h:zaJ w W id pre T V) (hT:∀x,T x→W.heap.size≤x) (ht:zk V V' (fun x=>T x∨(W.heap.size≤x∧z8 V x))):zaJ w W id pre T' V':=by
 obtain⟨h1,h2,h3,h4⟩:=h
 have hk:=zcK h2 hT ht
 exact⟨⟨ht.os.trans h1.os,ht.tape.trans h1.tape,ht.output.trans h1.output,Nat.le_trans h1.size ht.size,fun x hx=>(hk x om).trans (h1.block x hx)⟩,Nat.le_trans h2 ht.size,fun x hx=>(hk x hx).trans (h3 x hx),h4⟩
theorem zaK.turn {w W V V' :World} {S:Nat→Prop} {t:Tr} {id:Int} {T T' :Nat→Prop} (hw:w.heap.size+4≤W.heap.size) (h:zaK w W S t id T V) (hT:∀x,T x→W.heap.size≤x) (ht:zk V V' (fun x=>T x∨(W.heap.size≤x∧z8 V x))) (hwd:jd T T' V V'):zaK w W S t id T' V':=by
 obtain⟨h1,h2,x,v,c3,hf,hv,q1,q2,q3⟩:=h
 have hk:=zcK h2 hT ht
 refine⟨⟨ht.os.trans h1.os,ht.tape.trans h1.tape,ht.output.trans h1.output,Nat.le_trans h1.size ht.size,fun x hx=>(hk x om).trans (h1.block x hx)⟩,Nat.le_trans h2 ht.size,x,v,c3,hf,hv,(hk _ om).trans q1,(hk _ om).trans q2,q3.kept fun y hy=>?_⟩
 have:=zeS ht hwd y hy.1
 exact⟨⟨this.1,hy.2⟩,this.2⟩
theorem zgX {w W V V1 V3:World} {S T:Nat→Prop} {t:Tr} {id:Int} {pre:List Sp} {x:Sp} {kb:Option Addr} {kc:Nat} {aa:Act} (hW1:W.heap.size≤V1.heap.size) (hW:W.heap.size=w.heap.size+6) (hS:∀x,S x→x<w.heap.size) (hb:Below w.heap.size w V1) (hT:∀x,T x→x<V.heap.size∧W.heap.size+2≤x) (hV:V.heap.size≤V1.heap.size) (hVe:V1.heap.size=V.heap.size) (hb3:Below V1.drew.heap.size V1.drew V3)
 (h2:V3.heap[w.heap.size+1+1]? =some (.cells #[.int .i64 0,.int .i64 0,.string ⟨#[]⟩,.slice none 0 0] 27 (0,0))) (h3:V3.heap[w.heap.size+1+1+1]? =some (.cells #[.bool false] 4 (0,0)))
 (hc:foLen (zZ x).kids≤kc) (hk:zu V3 (fun y=>zN V3 y∧((S y∨y=w.heap.size+4)∨V1.drew.heap.size≤y)) (zZ x).kids kb) (hf:qo id (spF 1 (zl t))=some x):
 Jo W.heap.size T (fun x=>S x∨x=w.heap.size+4) (zaJ w W id) (fun c T V=>c= .ret∧zaK w W S t id T V) pre V1 .ret aa (((((V3.setCell ⟨w.heap.size+1+1,0,none⟩ (.int .i64 (zZ x).id)).setCell ⟨w.heap.size+1+1,1,none⟩ (.int .i64 (zZ x).kind)).setCell ⟨w.heap.size+1+1,2,none⟩ (.string (zZ x).text)).setCell ⟨w.heap.size+1+1,3,none⟩ (.slice kb (foLen (zZ x).kids) kc)).setCell ⟨w.heap.size+1+1+1,0,none⟩ (.bool true)):=by
 have g1:=hssQ V3 (w.heap.size+1+1) 0 _ _ (.int .i64 (zZ x).id) h2
 have g2:=hssQ _ (w.heap.size+1+1) 1 _ _ (.int .i64 (zZ x).kind) g1
 have g3:=hssQ _ (w.heap.size+1+1) 2 _ _ (.string (zZ x).text) g2
 have g4:=hssQ _ (w.heap.size+1+1) 3 _ _ (.slice kb (foLen (zZ x).kids) kc) g3
 have k4:∀y,y≠w.heap.size+1+1→((((V3.setCell ⟨w.heap.size+1+1,0,none⟩ (.int .i64 (zZ x).id)).setCell ⟨w.heap.size+1+1,1,none⟩ (.int .i64 (zZ x).kind)).setCell ⟨w.heap.size+1+1,2,none⟩ (.string (zZ x).text)).setCell ⟨w.heap.size+1+1,3,none⟩ (.slice kb (foLen (zZ x).kids) kc)).heap[y]? =V3.heap[y]?:=fun y hy=>by
  rw[BhsQ _ _ _ _ hy,BhsQ _ _ _ _ hy,BhsQ _ _ _ _ hy,BhsQ _ _ _ _ hy]
 have ho:((((V3.setCell ⟨w.heap.size+1+1,0,none⟩ (.int .i64 (zZ x).id)).setCell ⟨w.heap.size+1+1,1,none⟩ (.int .i64 (zZ x).kind)).setCell ⟨w.heap.size+1+1,2,none⟩ (.string (zZ x).text)).setCell ⟨w.heap.size+1+1,3,none⟩ (.slice kb (foLen (zZ x).kids) kc)).os=V3.os∧((((V3.setCell ⟨w.heap.size+1+1,0,none⟩ (.int .i64 (zZ x).id)).setCell ⟨w.heap.size+1+1,1,none⟩ (.int .i64 (zZ x).kind)).setCell ⟨w.heap.size+1+1,2,none⟩ (.string (zZ x).text)).setCell ⟨w.heap.size+1+1,3,none⟩ (.slice kb (foLen (zZ x).kids) kc)).tape=V3.tape∧((((V3.setCell ⟨w.heap.size+1+1,0,none⟩ (.int .i64 (zZ x).id)).setCell ⟨w.heap.size+1+1,1,none⟩ (.int .i64 (zZ x).kind)).setCell ⟨w.heap.size+1+1,2,none⟩ (.string (zZ x).text)).setCell ⟨w.heap.size+1+1,3,none⟩ (.slice kb (foLen (zZ x).kids) kc)).output=V3.output∧((((V3.setCell ⟨w.heap.size+1+1,0,none⟩ (.int .i64 (zZ x).id)).setCell ⟨w.heap.size+1+1,1,none⟩ (.int .i64 (zZ x).kind)).setCell ⟨w.heap.size+1+1,2,none⟩ (.string (zZ x).text)).setCell ⟨w.heap.size+1+1,3,none⟩ (.slice kb (foLen (zZ x).kids) kc)).heap.size=V3.heap.size:=by
  refine⟨?_,?_,?_,?_⟩<;>simp[World.setCell]
 revert k4 g4 ho
 generalize ((((V3.setCell ⟨w.heap.size+1+1,0,none⟩ (.int .i64 (zZ x).id)).setCell ⟨w.heap.size+1+1,1,none⟩ (.int .i64 (zZ x).kind)).setCell ⟨w.heap.size+1+1,2,none⟩ (.string (zZ x).text)).setCell ⟨w.heap.size+1+1,3,none⟩ (.slice kb (foLen (zZ x).kids) kc))=V4
 rintro g4 k4 ⟨o1,o2,o3,o4⟩
 have hs3:V1.heap.size≤V3.heap.size:=hb3.size
 have h3':=(k4 (w.heap.size+1+1+1) om).trans h3
 have g5:=hssQ V4 (w.heap.size+1+1+1) 0 _ _ (.bool true) h3'
 have hsz:(V4.setCell ⟨w.heap.size+1+1+1,0,none⟩ (.bool true)).heap.size=V3.heap.size:=by simp[World.setCell];exact o4
 have kk:∀y,y≠w.heap.size+1+1→y≠w.heap.size+1+1+1→(V4.setCell ⟨w.heap.size+1+1+1,0,none⟩ (.bool true)).heap[y]? =V3.heap[y]?:=fun y a b=>(BhsQ _ _ _ _ b).trans (k4 y a)
 have kv:∀y,y<V1.heap.size→V3.heap[y]? =V1.heap[y]?:=fun y hy=>hb3.block y hy
 refine⟨⟨by omega,fun y o hy hyo _=>?_⟩,⟨by omega,fun y hy=>?_⟩,fun y hy=>?_,.inr (.inl ⟨rfl,rfl,⟨?_,?_,?_,by have:=hb.size;omega,fun y hy=>?_⟩,by omega,x,_,_,hf,rfl,?_,?_,kb,kc,rfl,hc,hk.kept fun y hy=>?_⟩)⟩
 · have:=lohQ hyo
   rw[kk y om om,kv y this];exact hyo
 · have:=hT y hy
   rw[kk y om om,kv y om]
 · have:y<V1.heap.size∧y≠w.heap.size+1+1∧y≠w.heap.size+1+1+1:=by
    rcases hy with hy | hy
    · have:=hS y hy;omega
    · omega
   rw[kk y this.2.1 this.2.2,kv y this.1]
 · exact o1.trans (hb3.os.trans hb.os)
 · exact o2.trans (hb3.tape.trans hb.tape)
 · exact o3.trans (hb3.output.trans hb.output)
 · rw[kk y om om,kv y om];exact hb.block y hy
 · rw[BhsQ _ _ _ _ (show w.heap.size+2≠w.heap.size+1+1+1 by omega),g4];simp[zZ]
 · rw[g5];simp
 · obtain⟨⟨cs,ty,fr,hcy⟩,hy⟩:=hy
   have hyl:=lohQ hcy
   have hsd:V1.drew.heap.size=V1.heap.size:=rfl
   have hne:y≠w.heap.size+1+1∧y≠w.heap.size+1+1+1∧¬T y∧(S y∨w.heap.size+4≤y):=by
    rcases hy with (hy | hy) | hy
    · have:=hS y hy
      exact⟨by omega,by omega,fun h=>by have:=hT y h;omega,Or.inl hy⟩
    · exact⟨by omega,by omega,fun h=>by have:=hT y h;omega,Or.inr om⟩
    · exact⟨by omega,by omega,fun h=>by have:=hT y h;omega,Or.inr om⟩
   exact⟨⟨⟨⟨cs,ty,fr,(kk y hne.1 hne.2.1).trans hcy⟩,hne.2.2.1⟩,hne.2.2.2⟩,kk y hne.1 hne.2.1⟩
theorem zgZ {V:World} {R1 R2:Nat} {cs:Array Value} {v0 u0 u1 u2 u3 bv:Value} (hne:R1≠R2) (h2:V.heap[R1]? =some (.cells cs 27 (0,0))) (hcs:cs.size=4) (h3:V.heap[R2]? =some (.cells #[v0] 4 (0,0))):
 ∃V5,V5=(((((V.setCell ⟨R1,0,none⟩ u0).setCell ⟨R1,1,none⟩ u1).setCell ⟨R1,2,none⟩ u2).setCell ⟨R1,3,none⟩ u3).setCell ⟨R2,0,none⟩ bv)∧V5.heap[R1]? =some (.cells #[u0,u1,u2,u3] 27 (0,0))∧V5.heap[R2]? =some (.cells #[bv] 4 (0,0))∧(∀y,y≠R1→y≠R2→V5.heap[y]? =V.heap[y]?)∧V5.os=V.os∧V5.tape=V.tape∧V5.output=V.output∧V5.heap.size=V.heap.size:=by
 obtain⟨c0,c1,c2,c3,rfl⟩:∃c0 c1 c2 c3,cs= #[c0,c1,c2,c3]:=by
  match cs,hcs with
  | ⟨[c0,c1,c2,c3]⟩,_=>exact⟨c0,c1,c2,c3,rfl⟩
 refine⟨_,rfl,?_,?_,fun y a b=>?_,?_,?_,?_,?_⟩
 · rw[BhsQ _ _ _ _ hne]
   have g1:=hssQ V R1 0 _ _ u0 h2
   have g2:=hssQ _ R1 1 _ _ u1 g1
   have g3:=hssQ _ R1 2 _ _ u2 g2
   rw[hssQ _ R1 3 _ _ u3 g3];simp
 · have h3' :((((V.setCell ⟨R1,0,none⟩ u0).setCell ⟨R1,1,none⟩ u1).setCell ⟨R1,2,none⟩ u2).setCell ⟨R1,3,none⟩ u3).heap[R2]? =some (.cells #[v0] 4 (0,0)):=by
    rw[BhsQ _ _ _ _ hne.symm,BhsQ _ _ _ _ hne.symm,BhsQ _ _ _ _ hne.symm,BhsQ _ _ _ _ hne.symm];exact h3
   rw[hssQ _ R2 0 _ _ bv h3'];simp
 · rw[BhsQ _ _ _ _ b,BhsQ _ _ _ _ a,BhsQ _ _ _ _ a,BhsQ _ _ _ _ a,BhsQ _ _ _ _ a]
 all_goals simp[World.setCell]
theorem zfo {w V:World} {S:Nat→Prop} {t:Tr} {id:Int} {D:Nat} (h2:V.heap[w.heap.size+1+1]? =some (.cells #[.int .i64 0,.int .i64 0,.string ⟨#[]⟩,.slice none 0 0] 27 (0,0))) (h3:V.heap[w.heap.size+1+1+1]? =some (.cells #[.bool false] 4 (0,0))) (hf:qo id (spF 1 (zl t))=none) (hb:Below w.heap.size w V) (hK:V.heap[D]? =some (.deferred (some []))) (hD:w.heap.size+4≤D):
 ∃ V5,V5=(((((V.setCell ⟨w.heap.size+1+1,0,none⟩ (.int .i64 0)).setCell ⟨w.heap.size+1+1,1,none⟩ (.int .i64 0)).setCell ⟨w.heap.size+1+1,2,none⟩ (.string ⟨#[]⟩)).setCell ⟨w.heap.size+1+1,3,none⟩ (.slice none 0 0)).setCell ⟨w.heap.size+1+1+1,0,none⟩ (.bool false))∧V5.heap[D]? =some (.deferred (some []))∧
  (V5.putObj D (.deferred none)).heap[w.heap.size+1+1]? =some (.cells #[.int .i64 0,.int .i64 0,.string ⟨#[]⟩,.slice none 0 0] 27 (0,0))∧(V5.putObj D (.deferred none)).cell? ⟨w.heap.size+1+1+1,0,none⟩=some (.bool false)∧
  zge w S t id (.returned (.tuple #[.agg #[.int .i64 0,.int .i64 0,.string ⟨#[]⟩,.slice none 0 0],.bool false])) (V5.putObj D (.deferred none)):=by
 obtain⟨V5,e,g1,g2,g3,o1,o2,o3,o4⟩:=zgZ (u0:= .int .i64 0) (u1:= .int .i64 0) (u2:= .string ⟨#[]⟩) (u3:= .slice none 0 0) (bv:= .bool false) om h2 rfl h3
 have g2' :(V5.putObj D (.deferred none)).heap[w.heap.size+1+1+1]? =some (.cells #[.bool false] 4 (0,0)):=(WphQ om).trans g2
 refine⟨V5,e,(g3 D om om).trans hK,(WphQ om).trans g1,by rw[corQ _ _ 0 _ _ _ g2'];rfl,_,by rw[hf];rfl,?_,⟨o1.trans hb.os,o2.trans hb.tape,o3.trans hb.output,by have:=hb.size;simp[World.putObj];omega,fun y hy=>by rw[WphQ om,g3 y om om];exact hb.block y hy⟩⟩
 rw[hf]
 exact⟨none,0,rfl,Nat.le_refl _,True.intro⟩
theorem zf1 (w:World) (S:Nat→Prop) (nv:Value) (t:Tr) (id:Int) (hS:∀x,S x→zN w x) (ht:zJ w S nv t) (hsz:zg t.kids+1≤500000):Calls Tryz.prog 35 #[nv,.int .i64 id] w (zge w S t id):=by
 obtain⟨ka,cap,rfl,hcap,hk⟩:=ht
 obtain⟨n,hn⟩:∃n,n=foLen t.kids:=⟨_,rfl⟩
 rw[←hn]
 have hal:=zi (JQ t ka n cap id w.heap.size) w
 have hab:=zm (JQ t ka n cap id w.heap.size) w
 have has:=zC (JQ t ka n cap id w.heap.size) w
 have HA:=hH (aN hab (aN (hal 0 _ rfl) (aN (hal 1 _ rfl) (aN (hal 2 _ rfl) (aN (hal 3 _ rfl) (aN (hal 4 _ rfl) (aN (hal 5 _ rfl) has)))))))
 have H:=hH (aN hS (aN hcap (aN hk (aN hsz hn))))
 clear hS hcap hk hsz hn hal hab has
 refine (callsIn_wide (n:=9)).1 ?_
 refine callsIn_of_wp_marks Tryz.func35 rfl trivial ?_ rfl
 simp only[Tryz.ntmps35,List.size_toArray,List.length_cons,List.length_nil,Nat.reduceAdd,Nat.reduceSub,Array.replicate_succ,Array.replicate_zero,List.push_toArray,List.append_toArray,List.nil_append,List.cons_append]
 gi_wp2_with (refine⟨trivial,?_⟩;gi_at_call 46;refine (callsIn_wide.2 (Je _ _ _ _)).mono ?_;rintro e w' ⟨rfl,rfl⟩)
 change Code.wpIn _ _ _ _ _ _ (zt w (JQ t ka n cap id w.heap.size))
 generalize hW:zt w (JQ t ka n cap id w.heap.size)=W at HA ⊢
 clear hW
 obtain⟨k0,k1,k2,k3,k4,k5,k6,k7⟩:=HA.out
 have k7' :W.heap.size=w.heap.size+6:=k7
 have hSl:∀x,S x→x<w.heap.size:=fun x hx=>(H.out.1 x hx).lt
 have hroot:=kM (fun x hx=>k0.block x (hSl x hx)) H.out.2.1 H.out.2.2.1 (by rw[←H.out.2.2.2.2];exact k5)
 refine YI om rfl ⟨1,some ⟨w.heap.size+1+1+1+1,0,none⟩,1,zl t⟩ rfl (by simp[zl]) (by simp[zl,foLen]) (by rw[zL];have:=H.out.2.2.2.1;omega) (by rw[corQ _ _ 0 _ _ _ k6];rfl) rfl (fun x=>S x∨x=w.heap.size+4) (fun x hx=>by rcases hx with hx | hx;have:=hSl x hx;omega;omega) hroot
  (zaJ w W id) (fun c T V=>c= .ret∧zaK w W S t id T V) (fun h hT ht _=>h.turn om hT ht) (fun h hT ht hwd=>⟨h.1,h.2.turn om hT ht hwd⟩) ⟨k0,Nat.le_refl _,fun _ _=>rfl,fun x hx=>by simp at hx⟩ ?round ?done ?stop
 case done=>
  rintro D T V hD hI hK
  have h2:=(hI.2.2.1 (w.heap.size+1+1) om).trans k3
  have h3:=(hI.2.2.1 (w.heap.size+1+1+1) om).trans k4
  have z0:V.cell? ⟨w.heap.size+1+1,0,none⟩=some (.int .i64 0):=by rw[corQ _ _ 0 _ _ _ h2];rfl
  have z1:V.cell? ⟨w.heap.size+1+1,1,none⟩=some (.int .i64 0):=by rw[corQ _ _ 1 _ _ _ h2];rfl
  have z2:V.cell? ⟨w.heap.size+1+1,2,none⟩=some (.string ⟨#[]⟩):=by rw[corQ _ _ 2 _ _ _ h2];rfl
  have z3:V.cell? ⟨w.heap.size+1+1,3,none⟩=some (.slice none 0 0):=by rw[corQ _ _ 3 _ _ _ h2];rfl
  have zf:∀j,V.frozen? ⟨w.heap.size+1+1,j,none⟩=false:=fun j=>forQ _ _ j _ _ h2
  have zb:V.cell? ⟨w.heap.size+1+1+1,0,none⟩=some (.bool false):=by rw[corQ _ _ 0 _ _ _ h3];rfl
  have zbf:∀j,V.frozen? ⟨w.heap.size+1+1+1,j,none⟩=false:=fun j=>forQ _ _ j _ _ h3
  have hn0:=Yp hI.2.2.2
  have HE:=hH (aN h2 (aN h3 (aN hn0 (aN hI.1 hK))))
  clear h2 h3 hn0 hI HA H k0 k1 k2 k3 k4 k5 k6 k7 hSl hroot
  gi_wp2
  obtain⟨q1,q2,q3,q4,q5⟩:=HE.out
  obtain⟨V5,ev5,r1,r2,r3,r4⟩:=zfo (S:=S) q1 q2 q3 q4 q5 om
  rw[←ev5]
  refine⟨by simp,.inl ⟨_,_,rfl,run_takeDeferred r1,?_⟩⟩
  exact⟨_,Yg rfl _ _ (w.heap.size+1+1) (w.heap.size+1+1+1) 27 _ _ _ false rfl r2 Tryz.underlying27 rfl kr1 rfl r3 (fun _=>by kernel_rfl),r4⟩
 case stop=>
  rintro D c T V hD ⟨rfl,h1,h2,x,v,c3,hf,rfl,q1,q2,q3⟩ hK
  have hb2:Below w.heap.size w (V.putObj D (.deferred none)):=⟨h1.os,h1.tape,h1.output,by have:=h1.size;simp[World.putObj];exact this,fun y hy=>by rw[WphQ om];exact h1.block y hy⟩
  have e1:(V.putObj D (.deferred none)).heap[w.heap.size+1+1]? =some (.cells #[.int .i64 x.2.1.1,.int .i64 x.2.1.2.1,.string x.2.1.2.2,c3] 27 (0,0)):=(WphQ om).trans q1
  have e2:(V.putObj D (.deferred none)).heap[w.heap.size+1+1+1]? =some (.cells #[.bool true] 4 (0,0)):=(WphQ om).trans q2
  have e3:(V.putObj D (.deferred none)).cell? ⟨w.heap.size+1+1+1,0,none⟩=some (.bool true):=by rw[corQ _ _ 0 _ _ _ e2];rfl
  have hend:zge w S t id (.returned (.tuple #[.agg #[.int .i64 x.2.1.1,.int .i64 x.2.1.2.1,.string x.2.1.2.2,c3],.bool true])) (V.putObj D (.deferred none)):=by
   refine⟨_,by rw[hf];rfl,?_,hb2⟩
   rw[hf]
   exact q3.kept fun y hy=>by
    obtain⟨⟨⟨cs,ty,fr,hc⟩,_⟩,hs⟩:=hy
    have hyD:y≠D:=fun e=>by rw[e,hK] at hc;cases hc
    exact⟨⟨⟨cs,ty,fr,(WphQ hyD).trans hc⟩,hs.imp (fun h=>h) (fun h=>by omega)⟩,WphQ hyD⟩
  have HE:=hH (aN e1 (aN e3 hend))
  clear e1 e2 e3 hend hb2 q1 q2 q3 hf h1 h2 HA H k0 k1 k2 k3 k4 k5 k6 k7 hSl hroot
  gi_wp2
  refine⟨by simp,.inl ⟨_,_,rfl,run_takeDeferred hK,?_⟩⟩
  exact⟨_,Yg rfl _ _ (w.heap.size+1+1) (w.heap.size+1+1+1) 27 _ _ _ true rfl HE.out.1 Tryz.underlying27 rfl kr1 rfl HE.out.2.1 (fun _=>by kernel_rfl),HE.out.2.2⟩
 case round=>
  rintro l hl T pre rest d key k V b off kcc ka2 hT hV htot hb d0 d1 d2 d3 d4 dk hR K hK
  obtain⟨n2,hn2⟩:∃n2,n2=foLen k:=⟨_,rfl⟩
  rw[←hn2] at d3 d4
  have hbl:b<W.heap.size:=by rcases hb with hb | hb;have:=hSl b hb;omega;omega
  have HR:=hH (aN hR (aN hT (aN hV (aN htot (aN hb (aN dk (aN hn2 (aN hl d4))))))))
  have HK:=hH hK
  have HC:=hH (aN d0 (aN d1 (aN d2 d3)))
  clear hR hT hV htot hb dk hn2 hl d4 hK d0 d1 d2 d3 k0 k1 k2 k3 k4 k5 k6 k7 hroot
  gi_wp2
  refine HK.out _ fun V1 hV1=>?_
  clear HK
  obtain⟨o',ev,o,ho,hoc⟩:=hV1
  have hV1s:∀x,x<W.heap.size→V1.heap[x]? =V.heap[x]?:=fun x hx=>by rw[ev];exact WphQ (by have:=HR.out.2.2.2.2.2.2.2.1;omega)
  have e0:V1.cell? ⟨b,off,none⟩=some (.int .i64 key.1):=(World.cell?_of_block (hV1s b hbl)).trans HC.out.1
  have e1:V1.cell? ⟨b,off+1,none⟩=some (.int .i64 key.2.1):=(World.cell?_of_block (hV1s b hbl)).trans HC.out.2.1
  have e2:V1.cell? ⟨b,off+2,none⟩=some (.string key.2.2):=(World.cell?_of_block (hV1s b hbl)).trans HC.out.2.2.1
  have e3:V1.cell? ⟨b,off+3,none⟩=some (.slice ka2 n2 kcc):=(World.cell?_of_block (hV1s b hbl)).trans HC.out.2.2.2
  have i0:V1.cell? ⟨w.heap.size+1,0,none⟩=some (.int .i64 id):=by rw[corQ _ _ 0 _ _ _ ((hV1s _ om).trans ((HR.out.1.2.2.1 _ om).trans HA.out.2.2.1))];rfl
  have HE0:=hH (aN e0 (aN e1 (aN e2 (aN e3 i0))))
  have HV1:=hH (aN ev (aN ho (aN hoc hV1s)))
  clear ev ho hoc hV1s
  obtain⟨SX,hSX⟩:∃SX:World→Prop,SX=fun X=>X.cell? ⟨b,off,none⟩=some (.int .i64 key.1)∧X.cell? ⟨w.heap.size+1,0,none⟩=some (.int .i64 id):=⟨_,rfl⟩
  have HSx:∀X,SX X→X.cell? ⟨b,off,none⟩=some (.int .i64 key.1)∧X.cell? ⟨w.heap.size+1,0,none⟩=some (.int .i64 id):=fun X h=>by rw[hSX] at h;exact h
  have hS0:SX V1.drew:=by rw[hSX];exact⟨e0,i0⟩
  clear hSX e0 e1 e2 e3 i0
  gi_wp2
  refine jq (S:=SX) kr1 (Ji kr1) ?_
  have hHeld:=hS0
  clear hS0
  refine zL1 (i:=0) (.pointer (some ⟨b,off,none⟩)) rfl ?_ ?_
  · clear hHeld;intro X hSw;obtain⟨s0,s1⟩:=HSx X hSw;clear hSw;go_simp
  simp only[Act.put,pg]
  refine zL1 (i:=1) (.pointer (some ⟨b,off,none⟩)) rfl ?_ ?_
  · clear hHeld;intro X hSw;obtain⟨s0,s1⟩:=HSx X hSw;clear hSw;go_simp
  simp only[Act.put,pg]
  refine zL1 (i:=2) (.pointer (some ⟨b,off,none⟩)) rfl ?_ ?_
  · clear hHeld;intro X hSw;obtain⟨s0,s1⟩:=HSx X hSw;clear hSw;go_simp
  simp only[Act.put,pg]
  refine zL1 (i:=3) (.int .i64 key.1) rfl ?_ ?_
  · clear hHeld;intro X hSw;obtain⟨s0,s1⟩:=HSx X hSw;clear hSw;go_simp
  simp only[Act.put,pg]
  refine zL1 (i:=4) (.int .i64 id) rfl ?_ ?_
  · clear hHeld;intro X hSw;obtain⟨s0,s1⟩:=HSx X hSw;clear hSw;go_simp
  simp only[Act.put,pg]
  refine zL1 (i:=5) (.bool (key.1 == id)) rfl ?_ ?_
  · clear hHeld;intro X hSw;obtain⟨s0,s1⟩:=HSx X hSw;clear hSw;go_simp
  simp only[Act.put,pg]
  refine yx kr1 ?_ _
  clear hHeld HSx
  obtain⟨ev,ho,hoc,hV1s⟩:=HV1.out
  have hsz1:V1.heap.size=V.heap.size:=by rw[ev];simp[World.putObj]
  have hbl1:Below w.heap.size w V1:=by
   have h2:=HR.out.1.1
   rw[ev]
   exact⟨h2.os,h2.tape,h2.output,by have:=h2.size;simp[World.putObj];exact this,fun x hx=>by rw[WphQ (by have:=HR.out.2.2.2.2.2.2.2.1;omega)];exact h2.block x hx⟩
  have hWk:∀x,x<W.heap.size→V1.heap[x]? =W.heap[x]?:=fun x hx=>(hV1s x hx).trans (HR.out.1.2.2.1 x hx)
  by_cases heq:key.1=id
  · have hbq:(key.1 == id)=true:=by simpa using heq
    rw[hbq]
    have hSc:∀x,(S x∨x=w.heap.size+4)→zN V1.drew x:=fun x hx=>by
     rcases hx with hx | hx
     · obtain⟨cs,ty,fr,hc⟩:=H.out.1 x hx
       have:=hSl x hx
       exact⟨cs,ty,fr,(hWk x om).trans ((HA.out.1.block x this).trans hc)⟩
     · rw[hx];exact⟨_,_,_,(hWk _ om).trans HA.out.2.2.2.2.2.1⟩
    have hcp:=vG V1.drew (fun x=>S x∨x=w.heap.size+4) (.agg #[.int .i64 key.1,.int .i64 key.2.1,.string key.2.2,.slice ka2 n2 kcc]) (zZ (d,key,k)) hSc ⟨ka2,kcc,by simp only[zZ];rw[HR.out.2.2.2.2.2.2.1],by have:=HR.out.2.2.2.2.2.2.2.2;have h7:=HR.out.2.2.2.2.2.2.1;simp only[zZ];omega,HR.out.2.2.2.2.2.1.kept (w':=V1.drew) fun x hx=>⟨hx,show V1.heap[x]? =V.heap[x]? from hV1s x (by rcases hx with hx | hx;have:=hSl x hx;omega;omega)⟩⟩ (by
     have h5:=QG 1 (zl t) (d,key,k) (by rw[HR.out.2.2.2.1];simp)
     rw[zL] at h5;have:=H.out.2.2.2.1;simp only[zZ] at*;omega)
    have hz:∀V3,Below V1.drew.heap.size V1.drew V3→V3.heap[w.heap.size+1+1]? =some (.cells #[.int .i64 0,.int .i64 0,.string ⟨#[]⟩,.slice none 0 0] 27 (0,0))∧V3.heap[w.heap.size+1+1+1]? =some (.cells #[.bool false] 4 (0,0)):=fun V3 hb3=>by
     have hsv:W.heap.size≤V1.heap.size:=by have:=HR.out.2.2.1;omega
     exact⟨(hb3.block (w.heap.size+1+1) (show w.heap.size+1+1<V1.heap.size by omega)).trans ((hWk _ om).trans HA.out.2.2.2.1),(hb3.block (w.heap.size+1+1+1) (show w.heap.size+1+1+1<V1.heap.size by omega)).trans ((hWk _ om).trans HA.out.2.2.2.2.1)⟩
    have hz2:∀V3,Below V1.drew.heap.size V1.drew V3→V3.cell? ⟨w.heap.size+1+1,0,none⟩=some (.int .i64 0)∧V3.cell? ⟨w.heap.size+1+1,1,none⟩=some (.int .i64 0)∧V3.cell? ⟨w.heap.size+1+1,2,none⟩=some (.string ⟨#[]⟩)∧V3.cell? ⟨w.heap.size+1+1,3,none⟩=some (.slice none 0 0)∧(∀j,V3.frozen? ⟨w.heap.size+1+1,j,none⟩=false)∧V3.cell? ⟨w.heap.size+1+1+1,0,none⟩=some (.bool false)∧(∀j,V3.frozen? ⟨w.heap.size+1+1+1,j,none⟩=false):=fun V3 hb3=>by
     obtain⟨h1,h2⟩:=hz V3 hb3
     exact⟨by rw[corQ _ _ 0 _ _ _ h1];rfl,by rw[corQ _ _ 1 _ _ _ h1];rfl,by rw[corQ _ _ 2 _ _ _ h1];rfl,by rw[corQ _ _ 3 _ _ _ h1];rfl,fun j=>forQ _ _ j _ _ h1,by rw[corQ _ _ 0 _ _ _ h2];rfl,fun j=>forQ _ _ j _ _ h2⟩
    have HZ:=hH (aN hz hz2)
    obtain⟨e0,e1,e2,e3,_⟩:=HE0.out
    have HX:=hH (aN hbl1 (aN hWk hsz1))
    have HEQ:=hH heq
    have HCP:=hH hcp
    clear hcp hSc hz hz2 hbl1 hWk ev ho hoc hV1s hsz1 hbq heq HE0
    gi_wp2_with (refine⟨trivial,?_⟩;gi_at_call 26;refine (CallsIn.inRound _ (callsIn_wide.2 HCP.out)).mono ?_;rintro e V3 ⟨v,rfl,⟨kb,kcc3,rfl,hkc3,hkb3⟩,hb3⟩;obtain⟨z0,z1,z2,z3,zf,zb,zbf⟩:=HZ.out.2 V3 hb3;have HV3:=hH (aN hkc3 (aN hkb3 hb3));clear hkc3 hkb3 hb3)
    exact zgX (W:=W) (by have:=HX.out.2.2;have:=HR.out.2.2.1;omega) om hSl HX.out.1 HR.out.2.1 (by have:=HX.out.2.2;have:=HR.out.2.2.1;omega) HX.out.2.2 HV3.out.2.2 (HZ.out.1 V3 HV3.out.2.2).1 (HZ.out.1 V3 HV3.out.2.2).2 HV3.out.1 HV3.out.2.1 (by rw[HR.out.2.2.2.1];exact Yq HR.out.1.2.2.2 HEQ.out)
  · have hbq:(key.1 == id)=false:=by simpa using heq
    rw[hbq]
    have hend:∀aa:Act,Jo W.heap.size T (fun x=>S x∨x=w.heap.size+4) (zaJ w W id) (fun c T V=>c= .ret∧zaK w W S t id T V) (pre++[(d,key,k)]) V1 .normal aa V1.drew:=fun aa=>
     ⟨⟨Nat.le_refl _,fun x o _ h _=>h⟩,⟨Nat.le_refl _,fun x _=>rfl⟩,fun x _=>rfl,.inl ⟨rfl,⟨hbl1.os,hbl1.tape,hbl1.output,hbl1.size,hbl1.block⟩,by show W.heap.size≤V1.heap.size;have:=HR.out.2.2.1;omega,hWk,fun x hx=>by
       rcases List.mem_append.1 hx with hx | hx
       · exact HR.out.1.2.2.2 x hx
       · rw[List.mem_singleton] at hx;subst hx;exact heq⟩⟩
    have HE:=hH hend
    clear hend hWk hbl1 hsz1 ev ho hoc hV1s HE0 heq
    gi_wp2
    exact HE.out _
end Go.Proofs.YtgkmmnihaiopaaaGreat
