/-
  .
-/
import Derived.Test.YtgkmmnihaiopaaaGreatKInsQv
set_option maxRecDepth 100000
set_option maxHeartbeats 40000000
set_option linter.unusedVariables false
set_option linter.unusedSimpArgs false
namespace Go.Proofs.YtgkmmnihaiopaaaGreat
open Go.RowKit
section
variable {n:Nat} {P:Program} {ops:Array Oper} {Q:Exit→Act→World→Prop} {md:Region.Mode} {S:World→Prop}
theorem ZT {i:Nat}{o:Oper}{v:Value}{a:Act}(hi:ops[i]? =some o)(hy:YieldsIf P ops S o v a){K:Act→World→Prop}{w:World}(hS:S w)(h:K (a.put o.dst v) w):wpOpIn Fence.wide n P ops Q i K a w:=by
 unfold wpOpIn
 simp only[hi]
 rcases hy with ⟨hw,hv⟩ | ⟨hw,rfl⟩
 · simp only[hw,if_true,Oper.wpIn,show Fence.wide.round=none from rfl,Oper.semAt_none,hv w hS,Oper.uponIn]
   exact⟨fun _ _=>trivial,h⟩
 · simp only[hw,Bool.false_eq_true,if_false]
   exact⟨fun _ _=>trivial,h⟩
theorem zcO {j:Nat}{oi oj:Oper}{v:Value}(hj:ops[j]? =some oj)(hap:oi.apart ops oj=true)(hsi:∀cs b,oi.op≠ .select cs b)(hsj:∀cs b,oj.op≠ .select cs b)
 (hQ:∀c a w,Q (.panic c) (a.put oi.dst v) w→Q (.panic c) a w) {K:Act→World→Prop} {a:Act} {w:World} (hy:YieldsIf P ops S oi v a) (h:wpOpIn Fence.wide n P ops Q j K (a.put oi.dst v) w):
 wpOpIn Fence.wide n P ops Q j (fun a' w'=>YieldsIf P ops S oi v a'∧K (a'.put oi.dst v) w') a w:=by
 obtain⟨h1,h2,h3⟩:=Oper.apart_spec hap
 have keep:∀(a:Act),YieldsIf P ops S oi v a→∀u,YieldsIf P ops S oi v (a.put oj.dst u):=fun a hy u=>
  hy.of_same (execOp_put oi hsi a oj.dst u h3) (wanted_put oi a oj.dst u h3)
 have keepD:∀d,YieldsIf P ops S oi v { a with defers:=d::a.defers }:=fun d=>hy.of_same rfl rfl
 unfold wpOpIn at*
 simp only[hj] at*
 rw[wanted_put oj a oi.dst v h1] at h
 split
 · rename_i hw
   simp only[hw,if_true] at h
   unfold Oper.wpIn at*
   refine⟨fun _ _=>trivial,?_⟩
   have h:=h.2
   rw[show Fence.wide.round=none from rfl,Oper.semAt_none,execOp_put oj hsj a oi.dst v h1] at h
   rw[show Fence.wide.round=none from rfl,Oper.semAt_none]
   generalize (execOp a.eval oj).run P w=r at*
   cases r with
   | ok x w'=>
     cases x<;>simp only[Oper.uponIn] at h ⊢
     case value u=>exact⟨keep a hy u,by rw[←Act.put_comm a v u h2];exact h⟩
     case skip=>exact⟨keep a hy _,by rw[←Act.put_comm a v undef h2];exact h⟩
     case defer d=>
      refine⟨keep _ (keepD d) _,?_⟩
      rw[←Act.put_comm _ v undef h2,←Act.put_defers]
      exact h
     case enter f args=>
      refine⟨h.1,CallsIn.mono h.2 fun e w'' he=>?_⟩
      exact si8
     case row row args=>exact⟨h.1,RowsIn.mono h.2 fun u w'' he=>⟨keep a hy u,by rw[←Act.put_comm a v u h2];exact he⟩⟩
     case round l f tmps assign body=>
      refine⟨h.1,RoundIn.mono h.2 fun e w'' he=>?_⟩
      exact si8
   | halt x w'=>
     cases x<;>simp only[Oper.uponIn] at h ⊢
     case panic u=>exact hQ _ _ _ h
 · rename_i hw
   simp only[hw] at h
   exact⟨fun _ _=>trivial,keep a hy _,by rw[←Act.put_comm a v undef h2];exact h.2⟩
def kY (n:Nat)(P:Program)(md:Region.Mode)(ops:Array Oper)(Q:Exit→Act→World→Prop)(S:World→Prop):Nat→Array Bool→Act→World→Prop
 | 0,listed,a,w=>Region.ready md ops listed= []∧Q .normal a w
 | fuel+1,listed,a,w=>(Region.ready md ops listed= []→Q .normal a w)∧∀i∈Region.ready md ops listed,wpOpIn Fence.wide n P ops Q i (fun a' w'=>S w'∧kY n P md ops Q S fuel (listed.setIfInBounds i true) a' w') a w
theorem ZZ:∀(fuel:Nat) (listed:Array Bool) (a:Act) (w:World),kY n P md ops Q S fuel listed a w→wpAnyIn Fence.wide n P md ops Q fuel listed a w
 | 0,_,_,_,h=>h
 | fuel+1,_,_,_,h=>⟨h.1,fun i hi=>wpOpIn_mono (fun a' w' h'=>ZZ fuel _ a' w' h'.2) (h.2 i hi)⟩
theorem zcZ {i:Nat}{oi:Oper}{v:Value}(hi:ops[i]? =some oi)(hsel:∀(j:Nat) (o:Oper) cs b,ops[j]? =some o→o.op≠ .select cs b)(hQ:∀c a w,Q (.panic c) (a.put oi.dst v) w→Q (.panic c) a w):
 ∀ (fuel:Nat) (listed:Array Bool) (a:Act) (w:World),(∀j oj,ops[j]? =some oj→j≠i→listed.getD j true=false→(∀e∈oj.after,Region.binds md e=true→e.on≠i)→oi.apart ops oj=true)→
  i∈Region.ready md ops listed→YieldsIf P ops S oi v a→S w→kY n P md ops Q S fuel (listed.setIfInBounds i true) (a.put oi.dst v) w→kY n P md ops Q S (fuel+1) listed a w:=by
 intro fuel
 induction fuel with
 | zero=>
   intro listed a w _ hr hy hS H
   refine⟨fun h=>(by rw[h] at hr;cases hr),fun j hj=>?_⟩
   by_cases hji:j=i
   · subst hji;exact ZT hi hy hS ⟨hS,H⟩
   · have:=ready_mono hj hji
     rw[H.1] at this
     cases this
 | succ fuel ih=>
   intro listed a w hfree hr hy hS H
   refine⟨fun h=>(by rw[h] at hr;cases hr),fun j hj=>?_⟩
   by_cases hji:j=i
   · subst hji;exact ZT hi hy hS ⟨hS,H⟩
   · have h1:=H.2 j (ready_mono hj hji)
     obtain⟨hjun,oj,hoj,hall⟩:=mem_ready.1 hj
     have hnot:∀e∈oj.after,Region.binds md e=true→e.on≠i:=fun e he hb heq=>by
      have h1:=hall e he hb
      have h0:=(mem_ready.1 hr).1
      rw[heq] at h1
      rcases Nat.lt_or_ge i listed.size with h' | h'
      · simp[h'] at h0 h1;rw[h0] at h1;cases h1
      · simp[Array.getElem?_eq_none h'] at h1
     have h2:=zcO hoj (hfree j oj hoj hji hjun hnot) (fun cs b=>hsel i oi cs b hi) (fun cs b=>hsel j oj cs b hoj) hQ hy h1
     have hfree' :∀k ok,ops[k]? =some ok→k≠i→(listed.setIfInBounds j true).getD k true=false→(∀e∈ok.after,Region.binds md e=true→e.on≠i)→oi.apart ops ok=true:=fun k ok hk hki hun hno=>by
      refine hfree k ok hk hki ?_ hno
      by_cases hjk:j=k
      · subst hjk;exact hjun
      · rw[getD_set_ne true hjk] at hun;exact hun
     refine wpOpIn_mono (fun a' w' h3=>⟨h3.2.1,ih (listed.setIfInBounds j true) a' w' hfree' (ready_mono hr (Ne.symm hji)) h3.1 h3.2.1 ?_⟩) h2
     rw[Array.setIfInBounds_comm _ _ hji]
     exact h3.2.2
theorem za {i:Nat}{oi:Oper}{v:Value}{fuel:Nat}{listed:Array Bool}{a:Act}{w:World}(hi:ops[i]? =some oi)(hs:Region.noSelect ops=true)(hf:Region.free md ops listed i=true)(hr:(Region.ready md ops listed).contains i=true)
 (hQ:∀c a w,Q (.panic c) (a.put oi.dst v) w→Q (.panic c) a w) (hy:YieldsIf P ops S oi v a) (hS:S w) (h:kY n P md ops Q S fuel (listed.setIfInBounds i true) (a.put oi.dst v) w):kY n P md ops Q S (fuel+1) listed a w:=
 zcZ hi (Region.noSelect_spec hs) hQ fuel listed a w (Region.free_spec hi hf) (by simpa using hr) hy hS h
theorem zL1 {i:Nat}{oi:Oper}(v:Value){fuel:Nat}{listed:Array Bool}{a:Act}{w:World}(hi:ops[i]? =some oi)(hv:∀X,S X→(execOp a.eval oi).run P X= .ok (.value v) X)(h:kY n P md ops Q S fuel (listed.setIfInBounds i true) (a.put oi.dst v) w)(hQ:∀c a w,Q (.panic c) (a.put oi.dst v) w→Q (.panic c) a w:=by first | exact fun _ _ _ h=>h | exact fun _ _ _ h=>by cases h.1)(hw:Region.wanted oi (yielded ops a.tmps)=true:=by rfl)(hS:S w:=by assumption)(hs:Region.noSelect ops=true:=by kernel_rfl)(hf:Region.free md ops listed i=true:=by kernel_rfl)(hr:(Region.ready md ops listed).contains i=true:=by kernel_rfl):kY n P md ops Q S (fuel+1) listed a w:=
 za hi hs hf hr hQ (Or.inl ⟨hw,hv⟩) hS h
theorem zG1 {i:Nat}{oi:Oper}(v:Value){fuel:Nat}{listed:Array Bool}{a:Act}{w:World}(hi:ops[i]? =some oi)  (h:kY n P md ops Q S fuel (listed.setIfInBounds i true) (a.put oi.dst v) w)(hQ:∀c a w,Q (.panic c) (a.put oi.dst v) w→Q (.panic c) a w:=by first | exact fun _ _ _ h=>h | exact fun _ _ _ h=>by cases h.1)(hw:Region.wanted oi (yielded ops a.tmps)=true:=by rfl)(hS:S w:=by assumption)(hs:Region.noSelect ops=true:=by kernel_rfl)(hf:Region.free md ops listed i=true:=by kernel_rfl)(hr:(Region.ready md ops listed).contains i=true:=by kernel_rfl)(hv:∀X,S X→(execOp a.eval oi).run P X= .ok (.value v) X:=by clear eH;intro X hSw;clear hSw;go_simp):kY n P md ops Q S (fuel+1) listed a w:=
 za hi hs hf hr hQ (Or.inl ⟨hw,hv⟩) hS h
theorem zR1 {i:Nat}{oi:Oper}  {fuel:Nat}{listed:Array Bool}{a:Act}{w:World}(hi:ops[i]? =some oi)  (h:kY n P md ops Q S fuel (listed.setIfInBounds i true) (a.put oi.dst undef) w)(hQ:∀c a w,Q (.panic c) (a.put oi.dst undef) w→Q (.panic c) a w:=by first | exact fun _ _ _ h=>h | exact fun _ _ _ h=>by cases h.1)(hw:Region.wanted oi (yielded ops a.tmps)=false:=by rfl)(hS:S w:=by assumption)(hs:Region.noSelect ops=true:=by kernel_rfl)(hf:Region.free md ops listed i=true:=by kernel_rfl)(hr:(Region.ready md ops listed).contains i=true:=by kernel_rfl):kY n P md ops Q S (fuel+1) listed a w:=
 za hi hs hf hr hQ (Or.inr ⟨hw,rfl⟩) hS h
theorem yG {i:Nat}{o:Oper}{fuel:Nat}{listed:Array Bool}{a:Act}{w:World}(hr:Region.ready md ops listed= [i])(ho:ops[i]? =some o)
 (h:∀K:Act→World→Prop,(∀a' w',S w'→kY n P md ops Q S fuel (listed.setIfInBounds i true) a' w'→K a' w')→if Region.wanted o (yielded ops a.tmps)=true then Oper.wpIn Fence.wide n P o a w K Q else K (a.put o.dst undef) w):kY n P md ops Q S (fuel+1) listed a w:=by
 refine⟨fun h0=>(by rw[hr] at h0;cases h0),fun j hj=>?_⟩
 rw[hr,List.mem_singleton] at hj
 subst hj
 unfold wpOpIn
 rw[ho]
 have:=h (fun a' w'=>S w'∧kY n P md ops Q S fuel (listed.setIfInBounds j true) a' w') (fun a' w' h1 h2=>⟨h1,h2⟩)
 show if Region.wanted o (yielded ops a.tmps)=true then _ else _
 split
 · rename_i hw;rw[ipQ hw] at this;exact this
 · rename_i hw;rw[inQ hw] at this;exact⟨fun _ _=>trivial,this⟩
theorem qp {listed:Array Bool}{a:Act}{w:World}(hr:Region.ready md ops listed= [])(h:Q .normal a w):∀fuel,kY n P md ops Q S fuel listed a w
 | 0=>⟨hr,h⟩
 | _+1=>⟨fun _=>h,by rw[hr];simp⟩
theorem ze1 {l i:Nat}{K:Act→World→Prop}{a:Act}{w:World}(hd:∀(j:Nat) (o:Oper) c,ops[j]? =some o→o.op≠ .defer c)(h:wpOpIn Fence.wide n P ops Q i K a w):wpOpIn (Fence.wide.inRound l) n P ops Q i K a w:=by
 unfold wpOpIn at h ⊢
 cases ho:ops[i]? with
 | none=>simpa only[ho] using h
 | some o=>
   simp only[ho] at h ⊢
   split
   · rename_i hw
     rw[ipQ hw] at h
     refine⟨fun _ _=>trivial,?_⟩
     rw[show (Fence.wide.inRound l).round=some l from rfl,Oper.semAt_some l _ o (fun c=>hd i o c ho)]
     have h:=h.2
     rw[show Fence.wide.round=none from rfl,Oper.semAt_none] at h
     generalize (execOp a.eval o).run P w=r at h ⊢
     cases r with
     | ok x w'=>cases x<;>exact h
     | halt x w'=>cases x<;>exact h
   · rename_i hw
     rw[inQ hw] at h
     exact⟨fun _ _=>trivial,h.2⟩
theorem Jf {l:Nat}(hd:∀(j:Nat) (o:Oper) c,ops[j]? =some o→o.op≠ .defer c):∀(fuel:Nat) (listed:Array Bool) (a:Act) (w:World),wpAnyIn Fence.wide n P md ops Q fuel listed a w→wpAnyIn (Fence.wide.inRound l) n P md ops Q fuel listed a w
 | 0,_,_,_,h=>h
 | fuel+1,_,_,_,h=>⟨h.1,fun i hi=>ze1 hd (wpOpIn_mono (fun a' w' h'=>Jf hd fuel _ a' w' h') (h.2 i hi))⟩
theorem zfH {ops:Array Oper}(h:(ops.toList.all fun o=>match o.op with | .defer _=>false | _=>true)=true)(j:Nat)(o:Oper)(c)(hj:ops[j]? =some o):o.op≠ .defer c:=fun e=>by
 have:=List.all_eq_true.1 h o (List.mem_of_getElem? (l:=ops.toList) (i:=j) (by simpa using hj))
 rw[e] at this;cases this
theorem QB {id l:Nat}{a:Act}{w:World}(hm:P.follows .mixedOrders=true)(hd:∀(j:Nat) (o:Oper) c,ops[j]? =some o→o.op≠ .defer c)(h:kY n P .any ops Q S ops.size (Array.replicate ops.size false) a w.drew):(Code.region id ops true).wpIn (Fence.wide.inRound l) n P Q a w:=
 wpIn_region_any hm (Jf hd _ _ _ _ (ZZ _ _ _ _ h))
end
end Go.Proofs.YtgkmmnihaiopaaaGreat
namespace Go.Proofs.YtgkmmnihaiopaaaGreat
open Go.RowKit Go.Shelf
attribute [local go_sem] Oper.semAt_some
def yj (w:World)(b:Nat):Prop:=∃cs t fr,w.heap[b]? =some (.cells cs t fr)
theorem yj.lt {w:World}{b:Nat}(h:yj w b):b<w.heap.size:=by obtain⟨_,_,_,h⟩:=h;exact lohQ h
theorem zjW {w:World}{b o:Nat}{v:Value}(h:w.cell? ⟨b,o,none⟩=some v):yj w b:=by
 unfold World.cell? at h
 split at h
 · rename_i cs t fr hh;exact⟨_,_,_,hh⟩
 · cases h
def XT (T:Nat→Prop)(V:World):Nat→Prop:=fun x=>yj V x∧¬T x
theorem zhP {w w' :World}{X X' :Nat→Prop}{cb co n cap cap' rb:Nat}{ka ka' :Option Addr}(hX:∀x,X x→X' x)(hsame:∀b o,X b→¬(b=cb∧o=co)→w'.cell? ⟨b,o,none⟩=w.cell? ⟨b,o,none⟩)
 (hold:w.cell? ⟨cb,co,none⟩=some (.slice ka n cap)) (hnew:w'.cell? ⟨cb,co,none⟩=some (.slice ka' n cap')) (hcap:n≤cap')
 (hrow:0<n→ka'=some ⟨rb,0,none⟩∧X' rb∧∀b0 off,ka=some ⟨b0,off,none⟩→∀j v,j<n*4→w.cell? ⟨b0,off+j,none⟩=some v→w'.cell? ⟨rb,j,none⟩=some v):
 ∀(f:Fo),(∀a,zt w X f a→zt w' X' f a)∧(∀b0 off rb' o',zt w X f (some ⟨b0,off,none⟩)→X' rb'→(∀j v,j<foLen f*4→w.cell? ⟨b0,off+j,none⟩=some v→w'.cell? ⟨rb',o'+j,none⟩=some v)→zt w' X' f (some ⟨rb',o',none⟩)):=by
 have hp:∀b o v,X b→(∀a n c,v≠ .slice a n c)→w.cell? ⟨b,o,none⟩=some v→w'.cell? ⟨b,o,none⟩=some v:=fun b o v hb hv hc=>by
  rw[hsame b o hb (fun ⟨e1,e2⟩=>by subst e1;subst e2;rw[hold] at hc;cases hc;exact hv _ _ _ rfl)];exact hc
 intro f
 induction f with
 | nil=>exact⟨fun _ _=>True.intro,fun _ _ _ _ _ _ _=>True.intro⟩
 | node _ _ k l r ihl ihr=>
   have kid:∀b off ka1 cap1,X b→w.cell? ⟨b,off+3,none⟩=some (.slice ka1 (foLen l) cap1)→foLen l≤cap1→zt w X l ka1→∃ka2 cap2,w'.cell? ⟨b,off+3,none⟩=some (.slice ka2 (foLen l) cap2)∧foLen l≤cap2∧zt w' X' l ka2:=fun b off ka1 cap1 hb h3 hc3 hl=>by
    by_cases hc:b=cb∧off+3=co
    · obtain⟨rfl,rfl⟩:=hc
      rw[hold] at h3
      cases h3
      refine⟨ka',cap',hnew,hcap,?_⟩
      cases l with
      | nil=>exact True.intro
      | node b1 o1 k1 l1 r1=>
        obtain⟨g1,g2,g3⟩:=hrow (by simp[foLen])
        obtain⟨b2,off2,_,_,e,_⟩:=id hl
        subst e
        rw[g1]
        exact ihl.2 b2 off2 rb 0 hl g2 (fun j v hj hv=>by rw[Nat.zero_add];exact g3 b2 off2 rfl j v hj hv)
    · exact⟨ka1,cap1,(hsame b _ hb hc).trans h3,hc3,ihl.1 _ hl⟩
   refine⟨fun a hf=>?_,fun b0 off rb' o' hf hrb hcp=>?_⟩
   · obtain⟨b,off,ka1,cap1,e,hb,h0,h1,h2,h3,hc3,hl,hr⟩:=hf
     obtain⟨ka2,cap2,h3',hc3',hl'⟩:=kid b off ka1 cap1 hb h3 hc3 hl
     exact⟨b,off,ka2,cap2,e,hX b hb,hp _ _ _ hb (fun _ _ _ h=>by cases h) h0,hp _ _ _ hb (fun _ _ _ h=>by cases h) h1,hp _ _ _ hb (fun _ _ _ h=>by cases h) h2,h3',hc3',hl',ihr.1 _ hr⟩
   · obtain⟨b,off',ka1,cap1,e,hb,h0,h1,h2,h3,hc3,hl,hr⟩:=hf
     cases e
     simp only[foLen] at hcp
     refine⟨rb',o',ka1,cap1,rfl,hrb,hcp 0 _ om h0,hcp 1 _ om h1,hcp 2 _ om h2,hcp 3 _ om h3,hc3,ihl.1 _ hl,ihr.2 _ _ rb' (o'+4) hr hrb (fun j v hj hv=>?_)⟩
     have:=hcp (4+j) v om (by rw[←Nat.add_assoc];exact hv)
     rw[←Nat.add_assoc] at this;exact this
theorem zdg {w:World}{X:Nat→Prop}:∀{f:Fo} {b off:Nat},zt w X f (some ⟨b,off,none⟩)→∃xs:List Value,xs.length=foLen f*4∧(∀u∈xs,u.oneCell'=true)∧∀j u,xs[j]? =some u→w.cell? ⟨b,off+j,none⟩=some u
 | .nil,_,_,_=>⟨[],rfl,fun _ h=>by simp at h,fun _ _ h=>by simp at h⟩
 | .node _ _ k l r,b,off,h=>by
   obtain⟨b1,off1,ka,cap,e,hb,h0,h1,h2,h3,_,hl,hr⟩:=h
   cases e
   obtain⟨xs,x1,x2,x3⟩:=zdg hr
   refine⟨[.int .i64 k.1,.int .i64 k.2.1,.string k.2.2,.slice ka (foLen l) cap]++xs,by simp[foLen,x1];omega,fun u hu=>?_,fun j u hj=>?_⟩
   · rcases List.mem_append.1 hu with hu | hu
     · simp only[List.mem_cons,List.not_mem_nil,or_false] at hu
       rcases hu with rfl | rfl | rfl | rfl<;>rfl
     · exact x2 u hu
   · match j,hj with
     | 0,hj=>simp only[List.cons_append,List.getElem?_cons_zero,Option.some.injEq] at hj;subst hj;exact h0
     | 1,hj=>simp only[List.cons_append,List.getElem?_cons_succ,List.getElem?_cons_zero,Option.some.injEq] at hj;subst hj;exact h1
     | 2,hj=>simp only[List.cons_append,List.getElem?_cons_succ,List.getElem?_cons_zero,Option.some.injEq] at hj;subst hj;exact h2
     | 3,hj=>simp only[List.cons_append,List.getElem?_cons_succ,List.getElem?_cons_zero,Option.some.injEq] at hj;subst hj;exact h3
     | j +4,hj=>
       have:=x3 j u (by simpa using hj)
       rw[show off+(j+4)=off+4+j by omega];exact this
theorem ziV {w:World}{X:Nat→Prop}{f:Fo}{ka:Option Addr}(h:zt w X f ka):∃xs:List Value,xs.length=foLen f*4∧(∀u∈xs,u.oneCell'=true)∧(∀ad,ka=some ad→∀j u,xs[j]? =some u→w.cell? (ad.add j)=some u)∧(ka=none→foLen f=0):=by
 cases f with
 | nil=>exact⟨[],rfl,fun _ h=>by simp at h,fun _ _ _ _ h=>by simp at h,fun _=>rfl⟩
 | node b0 o0 k l r=>
   obtain⟨b,off,_,_,e,_⟩:=id h
   subst e
   obtain⟨xs,h1,h2,h3⟩:=zdg h
   refine⟨xs,h1,h2,fun ad he j u hj=>?_,fun e=>by cases e⟩
   cases he
   have hadd:(⟨b,off,none⟩:Addr).add j=⟨b,off+j,none⟩:=by unfold Addr.add;split<;>simp_all
   rw[hadd]
   exact h3 j u hj
def zg4 (w:World)(b:Nat):Prop:=∃cs t,w.heap[b]? =some (.cells cs t (0,0))
def ex (T EB:Nat→Prop):Nat→Prop:=fun x=>T x∨EB x
def zhh (n0:Nat)(EB T:Nat→Prop)(V:World)(s:Seg):Prop:=zt V (XT (ex T EB) V) s.f s.a∧(s.f≠ .nil→∃b off,s.a=some ⟨b,off,none⟩∧n0≤b∧zg4 V b)
structure ZV (w:World) (B RB:Nat) (EB:Nat→Prop) (t:Tr) (T:Nat→Prop) (A:List Seg) (V:World):Prop where
 below:Below w.heap.size w V
 hT:∀x,T x→B≤x
 big:B≤V.heap.size
 exl:∀x,EB x→x<B
 root:zt V (XT (ex T EB) V) (zm t) (some ⟨RB,0,none⟩)
 rows:∀s∈A,zhh w.heap.size EB T V s
section
variable {w:World} {B RB:Nat} {EB:Nat→Prop} {t:Tr} {T T' :Nat→Prop} {A:List Seg} {V V' :World}
theorem zjm (ht:zh V V' (fun x=>T x∨(B≤x∧vU V x)))(hw:kG T T' V V')(x:Nat)(hx:XT T V x):XT T' V' x∧V'.heap[x]? =V.heap[x]?:=by
 obtain⟨⟨cs,ty,fr,hc⟩,hn⟩:=hx
 have hs:=lohQ hc
 have he:=ht.block x hs (fun h=>by
  rcases h with h | ⟨_,o,ho,hoc⟩
  · exact hn h
  · rw[hc] at ho;cases ho;cases hoc)
 exact⟨⟨⟨cs,ty,fr,he.trans hc⟩,fun h=>(hw x h).elim hn (fun h=>by omega)⟩,he⟩
theorem zbk (ht:zh V V' (fun x=>T x∨(B≤x∧vU V x)))(hw:kG T T' V V')(x:Nat)(hx:XT (ex T EB) V x):XT (ex T' EB) V' x∧V'.heap[x]? =V.heap[x]?:=
 zjm (T:=ex T EB) (T':=ex T' EB) (ht.mono (fun y hy=>hy.imp (fun h=>Or.inl h) id)) (fun y hy=>hy.elim (fun h=>(hw y h).imp (fun h=>Or.inl h) id) (fun h=>Or.inl (Or.inr h))) x hx
theorem ZV.turn (hB:w.heap.size≤B)(h:ZV w B RB EB t T A V)(ht:zh V V' (fun x=>T x∨(B≤x∧vU V x)))(hw:kG T T' V V'):ZV w B RB EB t T' A V' where
 below:=⟨ht.os.trans h.below.os,ht.tape.trans h.below.tape,ht.output.trans h.below.output,NltQ h.below.size ht.size,fun x hx=>(ht.block x (by have:=h.big;omega) (fun hh=>by
  rcases hh with hh | hh
  · have:=h.hT x hh;omega
  · omega)).trans (h.below.block x hx)⟩
 hT:=fun x hx=>(hw x hx).elim (h.hT x) (fun hh=>by have:=h.big;omega)
 big:=NltQ h.big ht.size
 exl:=h.exl
 root:=h.root.kept (zbk ht hw)
 rows :=fun s hs=>⟨(h.rows s hs).1.kept (zbk ht hw),fun hne=>by
  obtain⟨b,off,e,hb,cs,ty,hc⟩:=(h.rows s hs).2 hne
  have hf:=(h.rows s hs).1
  have hx:XT (ex T EB) V b:=by
   obtain⟨sd,sa,sc,sf⟩:=s
   simp only at e hne hf
   cases sf with
   | nil=>exact absurd rfl hne
   | node _ _ k l r=>
     obtain⟨b1,off1,_,_,e1,hb1,_⟩:=hf
     rw[e] at e1;cases e1;exact hb1
  exact⟨b,off,e,hb,cs,ty,(zbk ht hw b hx).2.trans hc⟩⟩
theorem ZV.next {d c bo oo b off n cap:Nat}{ad ka:Option Addr}{key:Int×Int×ByteArray}{k r:Fo}{xs:List Value}{w1:World}{rv:Value}(hB:w.heap.size≤B)(hTs:∀x,T x→x<V.heap.size)(h:ZV w B RB EB t T (⟨d,ad,c,.node bo oo key k r⟩::A) V)(hn:n=foLen k)(hcell:V.cell? ⟨b,off+3,none⟩=some (.slice ka n cap))(had:ad=some ⟨b,off,none⟩)
 (hxl:xs.length=n*4) (hxc:∀ad,ka=some ad→∀j u,xs[j]? =some u→V.cell? (ad.add j)=some u) (hb1:Below V.heap.size V w1) (hown:w1.ownsRow V.heap.size 27 4 rv n xs):
 ∃ ra rc,rv= .slice ra n rc∧n≤rc∧w1.cell? ⟨b,off+3,none⟩=some (.slice ka n cap)∧w1.frozen? ⟨b,off+3,none⟩=false∧(w1.setCell ⟨b,off+3,none⟩ (.slice ra n rc)).cell? ⟨b,off+3,none⟩=some (.slice ra n rc)∧
  ZV w B RB EB t T (⟨d+1,ra,rc,k⟩::⟨d,some ⟨b,off+4,none⟩,c - 1,r⟩::A) (w1.setCell ⟨b,off+3,none⟩ (.slice ra n rc))∧Kept T V (w1.setCell ⟨b,off+3,none⟩ (.slice ra n rc))∧KeepsFrom B V (w1.setCell ⟨b,off+3,none⟩ (.slice ra n rc)):=by
 subst had
 obtain⟨hf,hfree⟩:=h.rows _ (List.mem_cons_self ..)
 simp only at hf hfree
 obtain⟨b1,off1,e1,hb0,cs,ty,hF⟩:=hfree sp1
 cases e1
 have hf0:=hf
 obtain⟨b1,off1,ka1,cap1,e1,hbX,c0,c1,c2,c3,c4,hk,hr⟩:=hf
 cases e1
 rw[←hn,hcell] at c3
 cases c3
 have hbT:¬T b:=fun hh=>hbX.2 (Or.inl hh)
 have hpb:=lohQ hF
 have hF1:=(hb1.block _ hpb).trans hF
 obtain⟨ra,rc,hrv⟩:=zy hown
 subst hrv
 have hrc:n≤rc:=by
  rcases hown.2 with ⟨hv,h0⟩ | ⟨_,_,_,hv,_,_,h3,_⟩
  · omega
  · cases hv;exact h3
 have hc1:w1.cell? ⟨b,off+3,none⟩=some (.slice ka n cap):=(World.cell?_of_block (hb1.block _ hpb)).trans hcell
 have hS:=hssQ w1 b (off+3) _ _ (.slice ra n rc) hF1
 have hsz:(w1.setCell ⟨b,off+3,none⟩ (.slice ra n rc)).heap.size=w1.heap.size:=by simp[World.setCell]
 have hs1:=hb1.size
 have hnew:(w1.setCell ⟨b,off+3,none⟩ (.slice ra n rc)).cell? ⟨b,off+3,none⟩=some (.slice ra n rc):=World.cell?_setCell_same' _ _ _ (by rw[hc1];rfl)
 have hoth:∀b' o,¬(b'=b∧o=off+3)→(w1.setCell ⟨b,off+3,none⟩ (.slice ra n rc)).cell? ⟨b',o,none⟩=w1.cell? ⟨b',o,none⟩:=fun b' o h=>World.cell?_setCell_other _ _ _ _ (fun e=>h (by cases e;exact⟨rfl,rfl⟩))
 have hblk:∀x,x≠b→(w1.setCell ⟨b,off+3,none⟩ (.slice ra n rc)).heap[x]? =w1.heap[x]?:=fun x hx=>BhsQ _ _ _ _ hx
 have hX:∀x,XT (ex T EB) V x→XT (ex T EB) (w1.setCell ⟨b,off+3,none⟩ (.slice ra n rc)) x:=fun x hx=>by
  refine⟨?_,hx.2⟩
  by_cases hxb:x=b
  · rw[hxb];exact⟨_,_,_,hS⟩
  · obtain⟨cs',t',fr',hc'⟩:=hx.1
    exact⟨cs',t',fr',(hblk x hxb).trans ((hb1.block x (lohQ hc')).trans hc')⟩
 have hfo:=zhP (w:=V) (w':=w1.setCell ⟨b,off+3,none⟩ (.slice ra n rc)) (cb:=b) (co:=off+3) (rb:=((Value.slice ra n rc).ownBlock).getD 0) hX (fun b' o hb' hne=>(hoth b' o hne).trans (World.cell?_of_block (hb1.block _ hb'.1.lt))) hcell hnew hrc (fun h0=>by
  obtain⟨g,cap2,e,hg,hgl⟩:=hown.form h0
  cases e
  have hgr:w1.heap[g]?≠none:=by rw[Array.getElem?_eq_getElem hgl];simp
  obtain⟨cur,hcur⟩:=Yx hown (g:=g) rfl
  refine⟨rfl,⟨⟨cur,_,_,(hblk g om).trans hcur⟩,fun hh=>by
   have h1:=h.exl
   have h2:=h.big
   have hh' :T g∨EB g:=hh
   rcases hh' with hh | hh
   · have:=hTs g hh;omega
   · have:=h1 g hh;omega⟩,fun b0 off0 hka j v hj hv=>?_⟩
  obtain⟨u,hu⟩:∃u,xs[j]? =some u:=⟨xs[j]'om,List.getElem?_eq_getElem _⟩
  have h2:=hxc _ hka j u hu
  have hadd:(⟨b0,off0,none⟩:Addr).add j=⟨b0,off0+j,none⟩:=by unfold Addr.add;split<;>simp_all
  rw[hadd,hv] at h2
  cases h2
  exact (hoth g j (fun h=>by have:=h.1;omega)).trans (zF hown rfl j _ hu))
 have hfreeK:∀x,zg4 V x→zg4 (w1.setCell ⟨b,off+3,none⟩ (.slice ra n rc)) x:=fun x ⟨cs',t',hc'⟩=>by
  by_cases hxb:x=b
  · rw[hxb];exact⟨_,_,hS⟩
  · exact⟨cs',t',(hblk x hxb).trans ((hb1.block x (lohQ hc')).trans hc')⟩
 refine⟨ra,rc,rfl,hrc,hc1,forQ _ _ _ _ _ hF1,hnew,⟨?_,h.hT,by rw[hsz];have:=h.big;omega,h.exl,(hfo _).1 _ h.root,fun s hs=>?_⟩,⟨by rw[hsz];exact hs1,fun x hx=>?_⟩,⟨by rw[hsz];exact hs1,fun x o hx ho hno=>?_⟩⟩
 · exact (h.below.trans (hb1.mono h.below.size)).setCell (p:=⟨b,off+3,none⟩) hb0 _
 · rcases List.mem_cons.1 hs with rfl | hs
   · simp only[zhh]
     have hkk:=(hfo (.node bo oo key k .nil)).1 (some ⟨b,off,none⟩) ⟨b,off,ka,cap,rfl,hbX,c0,c1,c2,by rw[←hn];exact hcell,c4,hk,True.intro⟩
     obtain⟨b2,off2,ka2,cap2,e2,_,_,_,_,q3,q4,q5,_⟩:=hkk
     cases e2
     rw[hnew] at q3
     cases q3
     refine⟨q5,fun hne=>?_⟩
     obtain⟨g,cap3,e3,hg,hgl⟩:=hown.form (by rw[hn];exact zeI hne)
     cases e3
     obtain⟨cur,hcur⟩:=Yx hown (g:=g) rfl
     exact⟨g,0,rfl,by have:=h.below.size;omega,cur,_,(hblk g om).trans hcur⟩
   · rcases List.mem_cons.1 hs with rfl | hs
     · simp only[zhh]
       exact⟨(hfo r).1 _ hr,fun _=>⟨b,off+4,rfl,hb0,hfreeK b ⟨cs,ty,hF⟩⟩⟩
     · have h9:=h.rows s (List.mem_cons_of_mem _ hs)
       exact⟨(hfo s.f).1 _ h9.1,fun hne=>by
        obtain⟨b',off',e',hb',hfr'⟩:=h9.2 hne
        exact⟨b',off',e',hb',hfreeK b' hfr'⟩⟩
 · rw[hblk x (fun e=>hbT (e▸hx))];exact hb1.block x (hTs x hx)
 · have hxl2:=lohQ ho
   rw[hblk x (fun e=>by rw[e,hF] at ho;cases ho;cases hno),hb1.block x hxl2];exact ho
end
end Go.Proofs.YtgkmmnihaiopaaaGreat
namespace Go.Proofs.YtgkmmnihaiopaaaGreat
open Go.RowKit Go.Shelf
attribute [local go_sem] Oper.semAt_some
def zjo (w:World)(S:Nat→Prop)(t:Tr)(e:Ending)(w' :World):Prop:=∃v,e= .returned v∧zG w' (fun x=>yj w' x∧(S x∨w.heap.size≤x)) v t∧Below w.heap.size w w'
def exc (w:World)(S:Nat→Prop):Nat→Prop:=fun x=>x=w.heap.size+1∨(x<w.heap.size∧¬S x)
theorem ziz (w:World)(cs zs:Array Value)(v:Value):
 ((((w.alloc (.cells cs 27)).alloc (.cells zs 27)).alloc (.cells cs 27)).alloc (.cells #[v] 25)).heap.size=w.heap.size+4∧
 Below w.heap.size w ((((w.alloc (.cells cs 27)).alloc (.cells zs 27)).alloc (.cells cs 27)).alloc (.cells #[v] 25))∧
 ((((w.alloc (.cells cs 27)).alloc (.cells zs 27)).alloc (.cells cs 27)).alloc (.cells #[v] 25)).heap[w.heap.size+1]? =some (.cells zs 27 (0,0))∧
 ((((w.alloc (.cells cs 27)).alloc (.cells zs 27)).alloc (.cells cs 27)).alloc (.cells #[v] 25)).heap[w.heap.size+1+1]? =some (.cells cs 27 (0,0))∧
 ((((w.alloc (.cells cs 27)).alloc (.cells zs 27)).alloc (.cells cs 27)).alloc (.cells #[v] 25)).heap[w.heap.size+1+1+1]? =some (.cells #[v] 25 (0,0)):=by
 refine⟨by simp,?_,?_,?_,?_⟩
 · exact ((((BrQ _ w).alloc (NlrQ _) _).alloc uf5 _).alloc uf5 _).alloc uf5 _
 · rw[BhaQ _ _ _ uf5,BhaQ _ _ _ uf5]
   have:=hanQ (w.alloc (.cells cs 27)) (.cells zs 27)
   rw[WsaQ] at this;exact this
 · rw[BhaQ _ _ _ uf5]
   have:=hanQ ((w.alloc (.cells cs 27)).alloc (.cells zs 27)) (.cells cs 27)
   rw[WsaQ,WsaQ] at this;exact this
 · have:=hanQ (((w.alloc (.cells cs 27)).alloc (.cells zs 27)).alloc (.cells cs 27)) (.cells #[v] 25)
   rw[WsaQ,WsaQ,WsaQ] at this;exact this
def zkh (w W:World)(S:Nat→Prop)(t:Tr)(T:Nat→Prop)(A:List Seg)(V:World):Prop:=ZV w W.heap.size (w.heap.size+1+1) (exc w S) t T A V∧yB A≤500000∧∃zs:Array Value,zs= #[.int .i64 0,.int .i64 0,.string ⟨#[]⟩,.slice none 0 0]∧V.heap[w.heap.size+1]? =some (.cells zs 27 (0,0))
theorem vG {P:Program}{fn:Func}{p:Tmp}{ty:TypeId}(h:fn.results= #[.cell p ty])(tmps:Array Value)(w:World)(g:Nat)(t:TypeId)(cs:Array Value)(fr:Nat×Nat)(d:TypeDesc)
 (hp:tmps.getD p undef= .pointer (some ⟨g,0,none⟩)) (hg:w.heap[g]? =some (.cells cs t fr)) (hu:P.underlying ty=some d) (hd:(match d with | .struct _ | .array _ _=>true | _=>false)=true) (hi:(P.info? ty).map (·.size)=some cs.size):
 (results fn tmps).run P w= .ok (.agg cs) w:=by
 exact si4
theorem zhE {w V:World}{S:Nat→Prop}{t:Tr}{B RB D:Nat}{T:Nat→Prop}{ra:Option Addr}{rc:Nat}(h:ZV w B RB (exc w S) t T [] V)(hk:zt V (XT (ex T (exc w S)) V) t.kids ra)(hc:foLen t.kids≤rc)
 (hz:V.heap[w.heap.size+1]? =some (.cells #[.int .i64 0,.int .i64 0,.string ⟨#[]⟩,.slice none 0 0] 27 (0,0))) (hK:V.heap[D]? =some (.deferred (some []))) (hD:w.heap.size+1<D):
 ((((V.setCell ⟨w.heap.size+1,0,none⟩ (.int .i64 t.id)).setCell ⟨w.heap.size+1,1,none⟩ (.int .i64 t.kind)).setCell ⟨w.heap.size+1,2,none⟩ (.string t.text)).setCell ⟨w.heap.size+1,3,none⟩ (.slice ra (foLen t.kids) rc)).heap[D]? =some (.deferred (some []))∧
 (((((V.setCell ⟨w.heap.size+1,0,none⟩ (.int .i64 t.id)).setCell ⟨w.heap.size+1,1,none⟩ (.int .i64 t.kind)).setCell ⟨w.heap.size+1,2,none⟩ (.string t.text)).setCell ⟨w.heap.size+1,3,none⟩ (.slice ra (foLen t.kids) rc)).putObj D (.deferred none)).heap[w.heap.size+1]? =some (.cells #[.int .i64 t.id,.int .i64 t.kind,.string t.text,.slice ra (foLen t.kids) rc] 27 (0,0))∧
 zjo w S t (.returned (.agg #[.int .i64 t.id,.int .i64 t.kind,.string t.text,.slice ra (foLen t.kids) rc])) ((((((V.setCell ⟨w.heap.size+1,0,none⟩ (.int .i64 t.id)).setCell ⟨w.heap.size+1,1,none⟩ (.int .i64 t.kind)).setCell ⟨w.heap.size+1,2,none⟩ (.string t.text)).setCell ⟨w.heap.size+1,3,none⟩ (.slice ra (foLen t.kids) rc)).putObj D (.deferred none))):=by
 have h1:=hssQ V (w.heap.size+1) 0 _ _ (.int .i64 t.id) hz
 have h2:=hssQ _ (w.heap.size+1) 1 _ _ (.int .i64 t.kind) h1
 have h3:=hssQ _ (w.heap.size+1) 2 _ _ (.string t.text) h2
 have h4:=hssQ _ (w.heap.size+1) 3 _ _ (.slice ra (foLen t.kids) rc) h3
 have hb:∀x,x≠w.heap.size+1→((((V.setCell ⟨w.heap.size+1,0,none⟩ (.int .i64 t.id)).setCell ⟨w.heap.size+1,1,none⟩ (.int .i64 t.kind)).setCell ⟨w.heap.size+1,2,none⟩ (.string t.text)).setCell ⟨w.heap.size+1,3,none⟩ (.slice ra (foLen t.kids) rc)).heap[x]? =V.heap[x]?:=fun x hx=>by
  rw[BhsQ _ _ _ _ hx,BhsQ _ _ _ _ hx,BhsQ _ _ _ _ hx,BhsQ _ _ _ _ hx]
 have hk1:=(hb D om).trans hK
 have hall:∀x,x≠w.heap.size+1→x≠D→(((((V.setCell ⟨w.heap.size+1,0,none⟩ (.int .i64 t.id)).setCell ⟨w.heap.size+1,1,none⟩ (.int .i64 t.kind)).setCell ⟨w.heap.size+1,2,none⟩ (.string t.text)).setCell ⟨w.heap.size+1,3,none⟩ (.slice ra (foLen t.kids) rc)).putObj D (.deferred none)).heap[x]? =V.heap[x]?:=fun x hx hd=>(WphQ hd).trans (hb x hx)
 refine⟨hk1,?_,_,rfl,⟨ra,rc,rfl,hc,hk.kept fun x hx=>?_⟩,?_⟩
 · rw[WphQ om,h4];simp
 · obtain⟨⟨cs,ty,fr,hcx⟩,hn⟩:=hx
   have hxe:x≠w.heap.size+1:=fun e=>hn (Or.inr (Or.inl e))
   have hxD:x≠D:=fun e=>by rw[e,hK] at hcx;cases hcx
   refine⟨⟨⟨cs,ty,fr,(hall x hxe hxD).trans hcx⟩,?_⟩,hall x hxe hxD⟩
   by_cases hxw:x<w.heap.size
   · by_cases hs:S x
     · exact Or.inl hs
     · exact absurd (Or.inr (Or.inr ⟨hxw,hs⟩)) hn
   · exact Or.inr om
 · have hh:=(((h.below.setCell (p:=⟨w.heap.size+1,0,none⟩) sp1 (.int .i64 t.id)).setCell (p:=⟨w.heap.size+1,1,none⟩) sp1 (.int .i64 t.kind)).setCell (p:=⟨w.heap.size+1,2,none⟩) sp1 (.string t.text)).setCell (p:=⟨w.heap.size+1,3,none⟩) sp1 (.slice ra (foLen t.kids) rc)
   revert hh hk1
   generalize ((((V.setCell ⟨w.heap.size+1,0,none⟩ (.int .i64 t.id)).setCell ⟨w.heap.size+1,1,none⟩ (.int .i64 t.kind)).setCell ⟨w.heap.size+1,2,none⟩ (.string t.text)).setCell ⟨w.heap.size+1,3,none⟩ (.slice ra (foLen t.kids) rc))=V4
   intro hk1 hh
   exact⟨hh.os,hh.tape,hh.output,by have:=hh.size;simp[World.putObj];exact this,fun x hx=>(WphQ om).trans (hh.block x hx)⟩
theorem vX (w:World)(S:Nat→Prop)(nv:Value)(t:Tr)(hS:∀x,S x→yj w x)(ht:zG w S nv t)(hsz:zb t.kids+1≤500000):Calls Tryz.prog 26 #[nv] w (zjo w S t):=by
 obtain⟨ka,cap,rfl,hcap,hk⟩:=ht
 obtain⟨n,hn⟩:∃n,n=foLen t.kids:=⟨_,rfl⟩
 rw[←hn]
 obtain⟨k1,k2,k3,k4,k5⟩:=ziz w #[.int .i64 t.id,.int .i64 t.kind,.string t.text,.slice ka n cap] #[.int .i64 0,.int .i64 0,.string ⟨#[]⟩,.slice none 0 0] (.slice (some ⟨w.heap.size+1+1,0,none⟩) 1 1)
 have HW:=hH (aN k1 (aN k2 (aN k3 (aN k4 k5))))
 have H:=hH (aN hS (aN hcap (aN hk (aN hsz hn))))
 clear hS hcap hk hsz hn k1 k2 k3 k4 k5
 refine (callsIn_wide (n:=6)).1 ?_
 refine callsIn_of_wp_marks Tryz.func26 rfl trivial ?_ rfl
 simp only[Tryz.ntmps26,List.size_toArray,LlcQ,List.length_nil,Nat.reduceAdd,Nat.reduceSub,Array.replicate_succ,Array.replicate_zero,List.push_toArray,List.append_toArray,List.nil_append,List.cons_append]
 gi_wp2_with (refine⟨trivial,?_⟩;gi_at_call 46;refine (callsIn_wide.2 (ziT _ _ _ _)).mono ?_;rintro e w' ⟨rfl,rfl⟩)
 generalize hW:World.alloc _ _=W at HW ⊢
 clear hW
 obtain⟨k1,k2,k3,k4,k5⟩:=HW.out
 have hSW:∀x,S x→W.heap[x]? =w.heap[x]?:=fun x hx=>k2.block x (H.out.1 x hx).lt
 have hroot:=zbV hSW H.out.2.1 H.out.2.2.1 (by rw[←H.out.2.2.2.2];exact k4)
 have hroot2:zt W (XT (ex (fun _=>False) (exc w S)) W) (zm t) (some ⟨w.heap.size+1+1,0,none⟩):=hroot.kept fun x hx=>⟨⟨by
  rcases hx with hx | hx
  · obtain⟨cs,ty,fr,hc⟩:=H.out.1 x hx
    exact⟨cs,ty,fr,(hSW x hx).trans hc⟩
  · rw [hx];exact⟨_,_,_,k4⟩,fun h=>by
    rcases h with h | h | h
    · exact h
    · rcases hx with hx | hx
      · have:=(H.out.1 x hx).lt;omega
      · omega
    · rcases hx with hx | hx
      · exact h.2 hx
      · omega⟩,rfl⟩
 have hn4:w.heap.size+4=W.heap.size:=k1.symm
 refine ze7 om rfl ⟨1,some ⟨w.heap.size+1+1,0,none⟩,1,zm t⟩ rfl (by simp[zm]) (by simp[zm,foLen]) (by rw[yt];exact H.out.2.2.2.1) (by rw[corQ _ _ 0 _ _ _ k5];rfl) rfl
  (zkh w W S t) (fun _ _ _=>False) ?turn (fun h _ _=>h.elim) ?empty ?start ?round ?done ?stop
 case turn=>
  rintro T T' A V V' ⟨h1,h9,zs,hz,h2⟩ ht hw
  refine⟨h1.turn om ht hw,h9,zs,hz,(ht.block _ (lohQ h2) (fun h=>?_)).trans h2⟩
  rcases h with h | h
  · have:=h1.hT _ h;omega
  · omega
 case empty=>
  rintro T A B d c a V ⟨h1,h9,h2⟩
  exact⟨⟨h1.below,h1.hT,h1.big,h1.exl,h1.root,fun s hs=>h1.rows s (by rcases List.mem_append.1 hs with hs | hs;exact List.mem_append_left _ hs;exact List.mem_append_right _ (List.mem_cons_of_mem _ hs))⟩,by rw[yN,yh] at h9;rw[yN];omega,h2⟩
 case start=>
  refine⟨⟨k2,fun _ h=>h.elim,NlrQ _,fun x hx=>by rcases hx with hx | hx<;>omega,hroot2,fun s hs=>?_⟩,by rw[yh,qW,yt];have:=H.out.2.2.2.1;omega,_,rfl,k3⟩
  rw[List.mem_singleton] at hs
  subst hs
  exact⟨hroot2,fun _=>⟨_,_,rfl,by omega,_,_,k4⟩⟩
 case stop=>exact fun _ _ _ _ _ h _=>h.elim
 case done=>
  rintro D T V hD ⟨hI,_,zs,rfl,hz⟩ hK
  obtain⟨b,off,ra,rc,e1,hb,c0,c1,c2,c3,c4,hkk,_⟩:=hI.root
  cases e1
  obtain⟨m,hm⟩:∃m,m=foLen t.kids:=⟨_,rfl⟩
  rw[←hm] at c3 c4
  simp only[Nat.zero_add] at c0 c1 c2 c3
  have z0:V.cell? ⟨w.heap.size+1,0,none⟩=some (.int .i64 0):=by rw[corQ _ _ 0 _ _ _ hz];rfl
  have z1:V.cell? ⟨w.heap.size+1,1,none⟩=some (.int .i64 0):=by rw[corQ _ _ 1 _ _ _ hz];rfl
  have z2:V.cell? ⟨w.heap.size+1,2,none⟩=some (.string ⟨#[]⟩):=by rw[corQ _ _ 2 _ _ _ hz];rfl
  have z3:V.cell? ⟨w.heap.size+1,3,none⟩=some (.slice none 0 0):=by rw[corQ _ _ 3 _ _ _ hz];rfl
  have zf:∀j,V.frozen? ⟨w.heap.size+1,j,none⟩=false:=fun j=>forQ _ _ j _ _ hz
  have HE:=hH (aN hI (aN hkk (aN hm (aN hz (aN hK (aN hD c4))))))
  clear hI hkk hm hz hK HW H k1 k2 k3 k4 k5 hSW hroot hroot2 hb c4 hD hn4
  gi_wp2
  obtain⟨q1,q2,q3,q4,q5,q6,q7⟩:=HE.out
  have hcp:=zhE q1 q2 (by rw[←q3];exact q7) q4 q5 (by have:=q1.exl _ (Or.inl rfl);omega)
  rw[←q3] at hcp
  refine⟨by simp,.inl ⟨_,_,rfl,run_takeDeferred hcp.1,?_⟩⟩
  exact⟨_,vG rfl _ _ (w.heap.size+1) 27 _ _ _ rfl hcp.2.1 Tryz.underlying27 rfl kr1,hcp.2.2⟩
 case round=>
  rintro l hl T d c bo oo ad key k r A V hT hV ⟨hI,hag,zs,rfl,hz⟩
  obtain⟨hf,hfree⟩:=hI.rows _ (List.mem_cons_self ..)
  simp only at hf hfree
  obtain⟨b,off,kka,kcap,e1,hbX,c0,c1,c2,c3,c4,hkk,hrr⟩:=hf
  obtain⟨m,hm⟩:∃m,m=foLen k:=⟨_,rfl⟩
  rw[←hm] at c3 c4
  obtain⟨xs,x1,x2,x3,x4⟩:=ziV hkk
  rw[←hm] at x1 x4
  rw[yh] at hag
  simp only[zb] at hag
  have hm6:m≤1000000:=by have:=zL k;omega
  refine⟨b,off,e1,fun K hK=>?_⟩
  have HK:=hH hK
  have HI:=hH (aN hI (aN hz (aN hT (aN hm (aN e1 (aN x1 (aN x2 (aN x3 (aN x4 (aN hl (aN hbX (aN hV hag))))))))))))
  clear hI hz hT hm e1 x1 x2 x3 x4 hl hbX hV hK hkk hrr c0 c1 c2 c4 hfree H hag k1 k2 k3 k4 k5 hSW hroot hroot2 hn4
  gi_wp2
  refine HK.out _ fun V1 hV1=>?_
  clear HK
  obtain⟨o',ev,o,ho,hoc⟩:=hV1
  have hbl:b≠l:=fun e=>by
   obtain⟨⟨cs,ty,fr,hc⟩,_⟩:=HI.out.2.2.2.2.2.2.2.2.2.2.1
   rw[e,ho] at hc;cases hc;cases hoc
  have hV1s:∀x,x≠l→V1.heap[x]? =V.heap[x]?:=fun x hx=>by rw[ev];exact WphQ hx
  have hsz1:V1.heap.size=V.heap.size:=by rw[ev];simp[World.putObj]
  have hI1:ZV w W.heap.size (w.heap.size+1+1) (exc w S) t T (⟨d,ad,c,.node bo oo key k r⟩::A) V1:=by
   refine HI.out.1.turn (by have:=HW.out.1;omega) (V':=V1) (by rw[ev];exact (qj o' ho).mono (fun x hx=>Or.inr ⟨by have:=HI.out.2.2.2.2.2.2.2.2.2.1;omega,by rw[hx];exact⟨o,ho,hoc⟩⟩)) (fun x hx=>Or.inl hx)
  have c3' :V1.cell? ⟨b,off+3,none⟩=some (.slice kka m kcap):=(World.cell?_of_block (hV1s b hbl)).trans c3
  have hxc:∀ad,kka=some ad→∀j u,xs[j]? =some u→V1.cell? (ad.add j)=some u:=fun ad he j u hj=>by
   have h1:=HI.out.2.2.2.2.2.2.2.1 ad he j u hj
   refine (World.cell?_of_block (hV1s _ fun e=>?_)).trans h1
   have h2:V.heap[(ad.add j).block]? =some o:=by rw[e];exact ho
   have h3:V.cell? (ad.add j)=none:=by
    unfold World.cell?
    rw[h2]
    cases o<;>simp_all [Obj.isCells]
   rw[h3] at h1;cases h1
  have hclone:=kH V1 kka m kcap xs HI.out.2.2.2.2.2.1 HI.out.2.2.2.2.2.2.1 om hxc HI.out.2.2.2.2.2.2.2.2.1
  have hnext:=fun (w1:World) (rv:Value) hb1 hown=>ZV.next (w1:=w1) (rv:=rv) (by have:=HW.out.1;omega) (fun x hx=>by rw[hsz1];exact (HI.out.2.2.1 x hx).1) hI1 HI.out.2.2.2.1 c3' HI.out.2.2.2.2.1 HI.out.2.2.2.2.2.1 hxc hb1 hown
  have HX:=hH (aN hclone (aN hnext (aN hsz1 (aN hV1s (aN ho hoc)))))
  clear hclone hnext hxc hI1 ev hV1s ho hoc hsz1 c3
  gi_wp2_with (refine⟨trivial,?_⟩;gi_at_call 47;refine (CallsIn.inRound l (callsIn_wide.2 HX.out.1)).mono ?_;rintro e w1 ⟨rv,rfl,hb1,hown⟩;obtain⟨ra,rc,rfl,q1,q2,q3,q4,q5,q6,q7⟩:=HX.out.2.1 w1 rv hb1 hown;have HQ:=hH (aN q1 (aN q5 (aN q6 (aN q7 (aN q4 (aN hb1 hown))))));clear q1 q4 q5 q6 q7 hown hb1 c3')
  obtain⟨q1,q5,q6,q7,q4,hb1,hown⟩:=HQ.out
  have hm:=HI.out.2.2.2.1
  refine⟨q7,q6,.inl ⟨rfl,ra,rc,by rw[←hm];exact q4,by rw[←hm];exact q1,q5,?_,_,rfl,?_⟩⟩
  · have:=HI.out.2.2.2.2.2.2.2.2.2.2.2.2
    rw[yh,yh];simp only;omega
  · have hbX:=HI.out.2.2.2.2.2.2.2.2.2.2.1
    have hz:=HI.out.2.1
    have hzl:=lohQ hz
    have hne:w.heap.size+1≠l:=fun e=>by
     have h9:=HX.out.2.2.2.2.1
     rw[←e,hz] at h9;cases h9;have h8:=HX.out.2.2.2.2.2;cases h8
    rw[BhsQ _ _ _ _ (show w.heap.size+1≠b from fun e=>hbX.2 (Or.inr (Or.inl e.symm))),hb1.block _ (by rw[HX.out.2.2.1];exact hzl),HX.out.2.2.2.1 _ hne]
    exact hz
end Go.Proofs.YtgkmmnihaiopaaaGreat
namespace Go.Proofs.YtgkmmnihaiopaaaGreat
open Go.RowKit
def zl (w:World)(os:List Obj):World:=os.foldl (fun w o=>w.alloc o) w
theorem zw:∀(os:List Obj) (w:World),(zl w os).heap.size=w.heap.size+os.length
 | [],_=>rfl
 | o ::os,w=>by
   show (zl (w.alloc o) os).heap.size=_
   rw[zw os,WsaQ,LlcQ];omega
theorem zi:∀(os:List Obj) (w:World),Below w.heap.size w (zl w os)
 | [],w=>BrQ _ _
 | o::os,w=>((BrQ _ w).alloc (NlrQ _) o).trans ((zi os (w.alloc o)).mono sp1)
theorem ze:∀(os:List Obj) (w:World) (i:Nat) (o:Obj),os[i]? =some o→(zl w os).heap[w.heap.size+i]? =some o
 | [],_,_,_,h=>by simp at h
 | o ::os,w,0,o',h=>by
   simp at h;subst h
   show (zl (w.alloc o) os).heap[w.heap.size]? =_
   rw[(zi os (w.alloc o)).block _ sp1];exact World.alloc_heap_new w o
 | o ::os,w,i+1,o',h=>by
   have:=ze os (w.alloc o) i o' ug3
   rw[WsaQ] at this
   show (zl (w.alloc o) os).heap[w.heap.size+(i+1)]? =_
   rw[show w.heap.size+(i+1)=w.heap.size+1+i by omega];exact this
theorem Tryz.zeR:(Tryz.prog.info? 59).map (fun i=>(i.size,i.bytes,i.zero.map (fun z=>z.cells.size)))=some (5,64,some 5):=by kernel_rfl
def ZO (w:World)(B:Nat)(rv:Value)(n:Nat):Prop:=∃xs,w.ownsRow B 59 5 rv n xs∧∀i,i<n→∃d,xs[i*5+4]? =some (.int .i64 d)
def jD (w w' :World)(rv rv' :Value):Prop:=w.grownBy w' rv.ownBlock∧(rv'.ownBlock=rv.ownBlock∨∀g,rv'.ownBlock=some g→w.heap.size<g)
def zkS (w:World)(B:Nat)(rv:Value)(n:Nat)(t:Tr)(e:Ending)(w' :World):Prop:=
 ∃rv' n',e= .returned rv'∧ZO w' B rv' n'∧jD w w' rv rv'∧(2001≤n'∨n'=n+zb t.kids+1)∧n'≤2001∧n≤n'
theorem ZO.bounds {w:World}{B:Nat}{rv:Value}{n:Nat}(h:ZO w B rv n){g:Nat}(hg:rv.ownBlock=some g):B≤g∧g<w.heap.size:=by
 obtain⟨xs,ho,_⟩:=h
 exact zk ho hg
theorem jD.low {w wr:World}{B n:Nat}{rv l:Value}(h:jD w wr rv l)(hs:ZO w B rv n)(hB:B≤w.heap.size):∀k,k<B→wr.heap[k]? =w.heap[k]?:=fun k hk=>
 h.1.block k om (fun e=>by have:=(hs.bounds e.symm).1;omega)
theorem jD.trans {w wr w2:World}{rv l l2:Value}(h:jD w wr rv l)(h2:jD wr w2 l l2):jD w w2 rv l2:=by
 have hs:=h.1.size
 refine⟨⟨h2.1.os.trans h.1.os,h2.1.tape.trans h.1.tape,h2.1.output.trans h.1.output,NltQ hs h2.1.size,fun k hk hn=>?_⟩,?_⟩
 · rw[h2.1.block k om (fun e=>?_),h.1.block k hk hn]
   rcases h.2 with h' | h'
   · exact hn (e.trans h')
   · have:=h' k e.symm;omega
 · rcases h2.2 with h' | h'
   · rw[h'];exact h.2
   · exact Or.inr fun g hg=>by have:=h' g hg;omega
theorem jD.box {w:World}{o:Obj}(rv:Value):jD w (w.alloc o) rv rv:=⟨⟨rfl,rfl,rfl,by simp,fun k hk _=>BhaQ w o k hk⟩,Or.inl rfl⟩
theorem jD.first {w w1:World}{o1 o2:Obj}{rv:Value}{gg len cap:Nat}(h:((w.alloc o1).alloc o2).grownBy w1 rv.ownBlock)(hat:rv.ownBlock=some gg∨gg=w.heap.size+1+1):jD w w1 rv (.slice (some ⟨gg,0,none⟩) len cap):=
 ⟨⟨h.os,h.tape,h.output,by have:=h.size;simp at this;omega,fun k hk hn=>by rw[h.block k ug5 hn,BhaQ _ _ _ ug5,BhaQ _ _ _ hk]⟩,
  hat.elim (fun e=>Or.inl (by rw[e];rfl)) (fun e=>Or.inr fun g hg=>by simp only[Value.ownBlock,Option.some.injEq] at hg;omega)⟩
theorem ZO.box {w:World}{B:Nat}{rv:Value}{n:Nat}(h:ZO w B rv n)(o:Obj):ZO (w.alloc o) B rv n:=by
 obtain⟨xs,ho,hx⟩:=h
 exact⟨xs,ho.alloc o,hx⟩
theorem zfj {xs:List Value}{n:Nat}{a b c e:Value}{d:Int}(hl:xs.length=n*5)(hx:∀i,i<n→∃d,xs[i*5+4]? =some (.int .i64 d)):∀i,i<n+1→∃d',(xs++[a,b,c,e,.int .i64 d])[i*5+4]? =some (.int .i64 d'):=fun i hi=>by
 by_cases h:i<n
 · obtain⟨d',h'⟩:=hx i h
   exact⟨d',by rw[List.getElem?_append_left om];exact h'⟩
 · have:i=n:=by omega
   subst this
   exact⟨d,by rw[List.getElem?_append_right om,hl];simp⟩
def zfY (w:World)(B:Nat)(rv:Value)(n:Nat)(c1:Array Value)(ks:Fo)(len:Nat)(l i:Value)(wr:World):Prop:=
 ∃k nk,k≤len∧i= .int .i64 k∧ZO wr B l nk∧jD w wr rv l∧(2001≤nk∨nk=n+1+zb (zx k ks))∧nk≤2001∧n+1≤nk∧wr.heap[w.heap.size]? =some (.cells c1 27 (0,0))
theorem zgN :∀(m:Nat) (w:World) (S:Nat→Prop) (v:Value) (t:Tr) (B:Nat) (rv:Value) (n:Nat) (d:Int),zb t.kids<m→foLen t.kids≤9223372036854775807→qZ t.kids→(∀k,S k→k<B)→B≤w.heap.size→zG w S v t→
 ZO w B rv n→n≤2001→0≤d→d≤(n:Int)+1→
 Calls Tryz.prog 39 #[rv,v,.int .i64 d,.int .i64 2001] w (zkS w B rv n t):=by
 intro m
 induction m with
 | zero=>intro w S v t B rv n d h;omega
 | succ m ih =>
   intro w S v t B rv n d hm hlen2 hfit hS hB hv hrow hn hd0 hd1
   obtain⟨ka,cap,rfl,hcp,hk⟩:=hv
   obtain⟨id,kd,tx,ks⟩:=t
   simp only at hk hm hlen2 hfit
   simp only
   obtain⟨xs,ho,hxs⟩:=hrow
   obtain⟨ra,rcap,rfl⟩:=zy ho
   obtain⟨len,hlen⟩:∃len,len=foLen ks:=⟨_,rfl⟩
   rw[←hlen]
   rw[←hlen] at hlen2
   have HN:=hH (aN hm hfit)
   have HLEN:=hH hlen
   have HK:=hH hk
   have HSS:=hH (aN hS hB)
   have HIH:=hH ih
   have HO:=hH (aN ho hxs)
   clear hlen hk hm hfit hS hB ih ho hxs
   by_cases hfull:2001≤n
   · have hn2:n=2001:=by omega
     subst hn2
     go_enter Tryz.func39,Tryz.ntmps39
     go_wp2_with fail
     go_ret
     exact⟨_,2001,rfl,(show ZO w B _ 2001 from⟨xs,HO.out⟩).box _,jD.box _,Or.inl hfull,by omega,by omega⟩
   · have hnn:¬(2001:Int)≤(n:Int):=by omega
     go_enter Tryz.func39,Tryz.ntmps39
     obtain⟨i0,z0,hi0,hz0,hz1,hz2,hz3⟩:=yw Tryz.zeR
     have hnew:((w.alloc (.cells #[.int .i64 id,.int .i64 kd,.string tx,.slice ka len cap] 27)).alloc (.cells #[.int .i64 id,.int .i64 kd,.string tx,.slice ka len cap,.int .i64 d] 59)).heap[w.heap.size+1]? =some (.cells #[.int .i64 id,.int .i64 kd,.string tx,.slice ka len cap,.int .i64 d] 59 (0,0)):=heap_alloc2_new w _ _
     have HNEW:=hH hnew
     have hBw:B≤w.heap.size:=HSS.out.2
     clear hnew
     go_wp2_with (at_builtin;refine wpList_append_lies _ rfl (.tmp 15) (.tmp 19) _ rfl B 59 i0 z0 5 64 Tryz.underlying56 hi0 hz0 hz1 hz2 hz3 om (.slice ra n rcap) n xs rfl ((HO.out.1.alloc _).alloc _) ⟨w.heap.size+1,0,none⟩ 1 1 [.int .i64 id,.int .i64 kd,.string tx,.slice ka len cap,.int .i64 d] rfl rfl (World.news_of_block (cs:= #[.int .i64 id,.int .i64 kd,.string tx,.slice ka len cap,.int .i64 d]) (t:=59) (fr:=(0,0)) HNEW.out) uf6 om uf7 om ug5 (w.heap.size+1+1) sp1 ?_;intro gg cap' w1 hown1 hgrow hat hlt1)
     have hg1:jD w w1 (.slice ra n rcap) (.slice (some ⟨gg,0,none⟩) (n+1) cap'):=jD.first hgrow hat
     have hsp1:ZO w1 B (.slice (some ⟨gg,0,none⟩) (n+1) cap') (n+1):=⟨_,hown1,zfj HO.out.1.1 HO.out.2⟩
     have hob:∀g,(Value.slice ra n rcap).ownBlock=some g→g<w.heap.size:=fun g hg=>(zk HO.out.1 hg).2
     have hbox:w1.heap[w.heap.size]? =some (.cells #[.int .i64 id,.int .i64 kd,.string tx,.slice ka len cap] 27 (0,0)):=by
      exact sh0
     have HG:=hH (aN hg1 (aN hsp1 (aN hob hbox)))
     clear hg1 hsp1 hob hbox hgrow hown1 hat
     go_loopw [0,9] (fun l i wr=>zfY w B (.slice ra n rcap) n #[.int .i64 id,.int .i64 kd,.string tx,.slice ka len cap] ks len l i wr) (fun _ i _=>len - (intOf i).toNat)
     case atStart=>exact⟨0,n+1,NzlQ _,rfl,HG.out.2.1,HG.out.1,Or.inr rfl,by omega,NlrQ _,HG.out.2.2.2⟩
     case round=>
      obtain⟨k,nk,hk,rfl,hsp,hgr,hnk,hnk2,hnk3,hbx⟩:=hrel
      have p1:wr.cell? ⟨w.heap.size,3,none⟩=some (.slice ka len cap):=by rw[corQ wr _ 3 _ _ _ hbx];rfl
      have HR:=hH (aN hsp (aN hgr (aN hnk hbx)))
      clear hsp hgr hnk hbx
      by_cases hlt:k<len
      · have hlow:=HR.out.2.1.low ⟨xs,HO.out⟩ hBw
        have hk1:zt wr S ks ka:=HK.out.kept fun x hx=>⟨hx,hlow x (HSS.out.1 x hx)⟩
        obtain⟨b0,o0,⟨ki,kk,kt⟩,l',r,hd1',b,off,a1,n1,rfl,hSb,c0,c1,c2,c3,hc1,hl1⟩:=hk1.at k ue9
        obtain⟨_,_,_,_,_,e1,e2,hsz1,htk⟩:=zX k ks ue9
        rw[hd1'] at e1;cases e1
        have hft:=Zx k HN.out.2 hd1'
        have hcall:=HIH.out wr S (.agg #[.int .i64 ki,.int .i64 kk,.string kt,.slice a1 (foLen l') n1]) ⟨ki,kk,kt,l'⟩ B u0 nk (d+1) ud9 hft.1 hft.2 HSS.out.1 (NltQ hBw HR.out.2.1.1.size) ⟨a1,n1,rfl,hc1,hl1⟩ HR.out.1 hnk2 om om
        obtain⟨m1,hm1⟩:∃m,m=foLen l':=⟨_,rfl⟩
        rw[←hm1] at hcall c3
        simp only at c0 c1 c2
        have HC:=hH hcall
        have htk2:zb (zx (k+1) ks)=zb (zx k ks)+zb l'+1:=by rw[htk,kK]
        have HTK:=hH htk2
        have hkl:(k:Int)<(len:Int):=by omega
        clear hk1 hlow hd1' hcall hm1 htk htk2 hl1 hc1 hsz1 hSb e2 hft
        go_wp2_with fail
        refine HC.out.mono ?_
        rintro e w2 ⟨l2,n2,rfl,hsp2,hg2,hn2,hn22,hn23⟩
        have HE:=hH (aN hsp2 (aN hg2 hn2))
        clear hsp2 hg2 hn2
        go_wp2_with fail
        have hne:some w.heap.size≠u0.ownBlock:=fun e=>by
         exact sg3
        exact⟨⟨k+1,n2,by omega,by go_num,HE.out.1,HR.out.2.1.trans HE.out.2.1,by
         have h1:=HR.out.2.2.1
         have h2:2001≤n2∨n2=nk+zb l'+1:=HE.out.2.2
         have h3:=HTK.out
         omega,hn22,by omega,(HE.out.2.1.1.block _ (lt_of_some HR.out.2.2.2) hne).trans HR.out.2.2.2⟩,by simp[intOf];omega⟩
      · have hkk:k=len:=by omega
        have HKK:=hH hkk
        clear hkk
        go_wp2_with fail
        go_ret
        exact⟨_,nk,rfl,HR.out.1,HR.out.2.1,by
         rcases HR.out.2.2.1 with h | h
         · exact Or.inl h
         · right
           rw[yT k ks (by rw[HKK.out,HLEN.out];exact NlrQ _)] at h
           show nk=n+zb ks+1;omega,hnk2,by omega⟩
def ziO (w:World)(t:Tr)(e:Ending)(w' :World):Prop:=∃a n cap,e= .returned (.slice a n cap)∧ZO w' w.heap.size (.slice a n cap) n∧Below w.heap.size w w'∧(2001≤n∨n=zb t.kids+1)∧n≤2001
theorem ziw (w:World)(S:Nat→Prop)(v:Value)(t:Tr)(hlen:foLen t.kids≤9223372036854775807)(hfit:qZ t.kids)(hS:∀k,S k→k<w.heap.size)(hv:zG w S v t):
 Calls Tryz.prog 18 #[v,.int .i64 2001] w (ziO w t):=by
 obtain⟨ka,cap,rfl,hcp,hk⟩:=hv
 have hb:Below w.heap.size w (w.alloc (.cells #[.int .i64 t.id,.int .i64 t.kind,.string t.text,.slice ka (foLen t.kids) cap] 27)):=(BrQ _ _).alloc (NlrQ _) _
 have hc:=zgN _ (w.alloc (.cells #[.int .i64 t.id,.int .i64 t.kind,.string t.text,.slice ka (foLen t.kids) cap] 27)) S _ t w.heap.size (.slice none 0 0) 0 1 (Nat.lt_succ_self _) hlen hfit hS hb.size ⟨ka,cap,rfl,hcp,hk.below hb hS⟩ ⟨[],World.ownsRow_nil _ _ _ _,fun i hi=>by omega⟩ om om om
 have HC:=hH (aN hc hb)
 clear hc hb hk hfit hS
 obtain⟨len,hl⟩:∃len,len=foLen t.kids:=⟨_,rfl⟩
 rw[←hl] at HC
 rw[←hl]
 clear hl
 go_enter Tryz.func18,Tryz.ntmps18
 go_wp2_with fail
 refine HC.out.1.mono ?_
 rintro e w2 ⟨rv,n,rfl,hsp,hg,hn,hn2,_⟩
 have hb2:Below w.heap.size w w2:=HC.out.2.trans ⟨hg.1.os,hg.1.tape,hg.1.output,hg.1.size,fun k hk=>hg.1.block k (by have:=HC.out.2.size;omega) (by simp[Value.ownBlock])⟩
 have hsp':=hsp
 obtain⟨xs,ho,_⟩:=hsp
 obtain⟨a,cap',rfl⟩:=zy ho
 have HE:=hH (aN hsp' (aN hb2 (show 2001≤n∨n=zb t.kids+1 by omega)))
 clear hsp' ho hg hn hb2
 go_wp2_with fail
 go_ret
 exact⟨_,_,_,rfl,HE.out.1,HE.out.2.1,HE.out.2.2,hn2⟩
def zjL (w:World)(t:Tr)(e:Ending)(w' :World):Prop:=∃b,e= .returned (.bool b)∧(b=false→zb t.kids+1≤2000)∧Below w.heap.size w w'
theorem zeM (w:World)(S:Nat→Prop)(v:Value)(t:Tr)(hlen:foLen t.kids≤9223372036854775807)(hfit:qZ t.kids)(hS:∀k,S k→k<w.heap.size)(hv:zG w S v t):
 Calls Tryz.prog 28 #[v] w (zjL w t):=by
 obtain⟨ka,cap,rfl,hcp,hk⟩:=hv
 have hb:Below w.heap.size w (w.alloc (.cells #[.int .i64 t.id,.int .i64 t.kind,.string t.text,.slice ka (foLen t.kids) cap] 27)):=(BrQ _ _).alloc (NlrQ _) _
 have hc:=ziw (w.alloc (.cells #[.int .i64 t.id,.int .i64 t.kind,.string t.text,.slice ka (foLen t.kids) cap] 27)) S _ t hlen hfit (fun k hk=>nL (hS k hk) hb.size) ⟨ka,cap,rfl,hcp,hk.below hb hS⟩
 have HC:=hH (aN hc hb)
 clear hc hb hk hfit hS
 obtain⟨len,hl⟩:∃len,len=foLen t.kids:=⟨_,rfl⟩
 rw[←hl] at HC
 rw[←hl]
 clear hl
 go_enter Tryz.func28,Tryz.ntmps28
 go_wp2_with fail
 refine HC.out.1.mono ?_
 rintro e w2 ⟨a,n,cap',rfl,⟨xs,ho,hx⟩,hb2,hn,hn2⟩
 have HB:Hid (Below w.heap.size w w2):=show Below w.heap.size w w2 from HC.out.2.trans (hb2.mono HC.out.2.size)
 clear hb2
 by_cases hg:2000<n
 · have hg2:(2000:Int)<(n:Int):=by omega
   clear hn
   exact sj0
 · have hg2:¬(2000:Int)<(n:Int):=by omega
   have HS:Hid (zb t.kids+1≤2000):=show zb t.kids+1≤2000 by omega
   have HO:=hH (aN ho hx)
   clear hn ho hx
   go_wp2_with fail
   go_loop [4] (fun i=>∃k:Nat,k≤n∧i= .int .i64 k) (fun i=>n - (intOf i).toNat)
   case atStart=>exact⟨0,NzlQ _,rfl⟩
   case round=>
    obtain⟨k,hk,rfl⟩:=hrel
    by_cases hlt:k<n
    · obtain⟨d,hd⟩:=HO.out.2 k hlt
      have ho:=HO.out.1
      have hgg:∃g,a=some ⟨g,0,none⟩:=by
       exact se8
      obtain⟨g,rfl⟩:=hgg
      have c4:w2.cell? ⟨g,k*5+4,none⟩=some (.int .i64 d):=zF ho rfl _ _ hd
      have hkl:(k:Int)<(n:Int):=by omega
      clear ho hd
      by_cases hdd:2000<d
      · go_wp2_with fail
        go_ret
        exact⟨true,rfl,(fun e=>by cases e),HB.out⟩
      · go_wp2_with fail
        exact⟨⟨k+1,by omega,by go_num⟩,by simp[intOf];omega⟩
    · have hkl:¬(k:Int)<(n:Int):=by omega
      go_wp2_with fail
      go_ret
      exact⟨false,rfl,fun _=>HS.out,HB.out⟩
theorem Jl:∀(k:Nat) (f:Fo),zb (zx k f)≤zb f
 | 0,_=>by simp[zx,zb]
 | _+1,.nil=>NlrQ _
 | k+1,.node _ _ _ l r=>by have:=Jl k r;simp only[zx,zb];omega
end Go.Proofs.YtgkmmnihaiopaaaGreat
namespace Go.Proofs.YtgkmmnihaiopaaaGreat
open Go.RowKit Go.Shelf
attribute [local go_sem] Oper.semAt_some
def zd7 (x:Sp):Tr:=⟨x.2.1.1,x.2.1.2.1,x.2.1.2.2,x.2.2⟩
def ziD:Tr:=⟨0,0,⟨#[]⟩,.nil⟩
def qY (id:Int)(l:List Sp):Option Sp:=l.find? (fun x=>x.2.1.1 == id)
theorem zao {id:Int}{l:List Sp}(h:∀x∈l,x.2.1.1≠id):qY id l=none:=by
 simp only[qY,List.find?_eq_none]
 intro x hx;have:=h x hx;simpa using this
theorem zaq {id:Int}{pre rest:List Sp}{x:Sp}(h:∀y∈pre,y.2.1.1≠id)(hx:x.2.1.1=id):qY id (pre++x::rest)=some x:=by
 have h1:List.find? (fun x:Sp=>x.2.1.1 == id) pre=none:=zao h
 simp[qY,List.find?_append,h1,hx]
end Go.Proofs.YtgkmmnihaiopaaaGreat
