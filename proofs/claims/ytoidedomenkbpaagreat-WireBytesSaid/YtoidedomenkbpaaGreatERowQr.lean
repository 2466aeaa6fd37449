/-
  .
-/
import Derived.Test.YtoidedomenkbpaaGreatWRTreeQr
set_option maxRecDepth 100000
set_option maxHeartbeats 40000000
set_option linter.unusedVariables false
set_option linter.unusedSimpArgs false
namespace Go.Proofs.YtoidedomenkbpaaGreat
open Go.RowKit
def zfW (w:World)(t:Tr)(e:Ending)(w' :World):Prop:=∃a n cap,e= .returned (.slice a n cap)∧kJ w' w.heap.size (.slice a n cap) n∧Below w.heap.size w w'∧(2001≤n∨n=zh t.kids+1)∧n≤2001
theorem zfE (w:World)(S:Nat→Prop)(v:Value)(t:Tr)(hlen:foLen t.kids≤9223372036854775807)(hfit:vY t.kids)(hS:∀k,S k→k<w.heap.size)(hv:vL w S v t):
 Calls Tryz.prog 36 #[v,.int .i64 2001] w (zfW w t):=by
 obtain⟨ka,cap,rfl,hcp,hk⟩:=hv
 have hb:Below w.heap.size w (w.alloc (.cells #[.int .i64 t.id,.int .i64 t.kind,.string t.text,.slice ka (foLen t.kids) cap] 35)):=(BrQ _ _).alloc (NlrQ _) _
 have hc:=zem _ (w.alloc (.cells #[.int .i64 t.id,.int .i64 t.kind,.string t.text,.slice ka (foLen t.kids) cap] 35)) S _ t w.heap.size (.slice none 0 0) 0 1 (Nat.lt_succ_self _) hlen hfit hS hb.size ⟨ka,cap,rfl,hcp,hk.below hb hS⟩ ⟨[],World.ownsRow_nil _ _ _ _,fun i hi=>by omega⟩ om om om
 have HC:=hH (aN hc hb)
 clear hc hb hk hfit hS
 obtain⟨len,hl⟩:∃len,len=foLen t.kids:=⟨_,rfl⟩
 rw[←hl] at HC
 rw[←hl]
 clear hl
 go_enter Tryz.func36,Tryz.ntmps36
 go_wp2_with fail
 refine HC.out.1.mono ?_
 rintro e w2 ⟨rv,n,rfl,hsp,hg,hn,hn2,_⟩
 have hb2:Below w.heap.size w w2:=HC.out.2.trans ⟨hg.1.os,hg.1.tape,hg.1.output,hg.1.size,fun k hk=>hg.1.block k (by have:=HC.out.2.size;omega) (by simp[Value.ownBlock])⟩
 have hsp':=hsp
 obtain⟨xs,ho,_⟩:=hsp
 obtain⟨a,cap',rfl⟩:=zZ ho
 have HE:=hH (aN hsp' (aN hb2 (show 2001≤n∨n=zh t.kids+1 by omega)))
 clear hsp' ho hg hn hb2
 go_wp2_with fail
 go_ret
 exact⟨_,_,_,rfl,HE.out.1,HE.out.2.1,HE.out.2.2,hn2⟩
def zg9 (w:World)(t:Tr)(e:Ending)(w' :World):Prop:=∃b,e= .returned (.bool b)∧(b=false→zh t.kids+1≤2000)∧Below w.heap.size w w'
theorem QE (w:World)(S:Nat→Prop)(v:Value)(t:Tr)(hlen:foLen t.kids≤9223372036854775807)(hfit:vY t.kids)(hS:∀k,S k→k<w.heap.size)(hv:vL w S v t):
 Calls Tryz.prog 26 #[v] w (zg9 w t):=by
 obtain⟨ka,cap,rfl,hcp,hk⟩:=hv
 have hb:Below w.heap.size w (w.alloc (.cells #[.int .i64 t.id,.int .i64 t.kind,.string t.text,.slice ka (foLen t.kids) cap] 35)):=(BrQ _ _).alloc (NlrQ _) _
 have hc:=zfE (w.alloc (.cells #[.int .i64 t.id,.int .i64 t.kind,.string t.text,.slice ka (foLen t.kids) cap] 35)) S _ t hlen hfit (fun k hk=>nL (hS k hk) hb.size) ⟨ka,cap,rfl,hcp,hk.below hb hS⟩
 have HC:=hH (aN hc hb)
 clear hc hb hk hfit hS
 obtain⟨len,hl⟩:∃len,len=foLen t.kids:=⟨_,rfl⟩
 rw[←hl] at HC
 rw[←hl]
 clear hl
 go_enter Tryz.func26,Tryz.ntmps26
 go_wp2_with fail
 refine HC.out.1.mono ?_
 rintro e w2 ⟨a,n,cap',rfl,⟨xs,ho,hx⟩,hb2,hn,hn2⟩
 have HB:Hid (Below w.heap.size w w2):=show Below w.heap.size w w2 from HC.out.2.trans (hb2.mono HC.out.2.size)
 clear hb2
 by_cases hg:2000<n
 · have hg2:(2000:Int)<(n:Int):=by omega
   clear hn
   go_wp2_with fail
   go_ret
   exact⟨true,rfl,(fun e=>by cases e),HB.out⟩
 · have hg2:¬(2000:Int)<(n:Int):=by omega
   have HS:Hid (zh t.kids+1≤2000):=show zh t.kids+1≤2000 by omega
   have HO:=hH (aN ho hx)
   clear hn ho hx
   go_wp2_with fail
   go_loop [4] (fun i=>∃k:Nat,k≤n∧i= .int .i64 k) (fun i=>n - (intOf i).toNat)
   case atStart=>exact⟨0,NzlQ _,rfl⟩
   case round=>
    obtain⟨k,hk,rfl⟩:=hrel
    by_cases hlt:k<n
    · obtain⟨d,hd⟩:=HO.out.2 k hlt
      have ho:=HO.out.1
      have hgg:∃g,a=some ⟨g,0,none⟩:=by
       rcases ho.2 with ⟨hv,h0⟩ | ⟨g,cap2,cur,hv,_⟩
       · omega
       · cases hv;exact⟨g,rfl⟩
      obtain⟨g,rfl⟩:=hgg
      have c4:w2.cell? ⟨g,k*5+4,none⟩=some (.int .i64 d):=yx ho rfl _ _ hd
      have hkl:(k:Int)<(n:Int):=by omega
      clear ho hd
      by_cases hdd:2000<d
      · go_wp2_with fail
        go_ret
        exact⟨true,rfl,(fun e=>by cases e),HB.out⟩
      · go_wp2_with fail
        exact⟨⟨k+1,by omega,by go_num⟩,by simp[intOf];omega⟩
    · have hkl:¬(k:Int)<(n:Int):=by omega
      go_wp2_with fail
      go_ret
      exact⟨false,rfl,fun _=>HS.out,HB.out⟩
theorem zdT (t:Tr):ZT (spF 1 (yI t))=(zh t.kids:Int)+1:=by
 rw[ZT,qU,qO];omega
section
variable {n:Nat} {P:Program} {ops:Array Oper} {Q:Exit→Act→World→Prop} {md:Region.Mode} {S:World→Prop}
theorem kM {i:Nat}{o:Oper}{v:Value}{a:Act}(hi:ops[i]? =some o)(hy:YieldsIf P ops S o v a){K:Act→World→Prop}{w:World}(hS:S w)(h:K (a.put o.dst v) w):wpOpIn Fence.wide n P ops Q i K a w:=by
 unfold wpOpIn
 simp only[hi]
 rcases hy with ⟨hw,hv⟩ | ⟨hw,rfl⟩
 · simp only[hw,if_true,Oper.wpIn,show Fence.wide.round=none from rfl,Oper.semAt_none,hv w hS,Oper.uponIn]
   exact⟨fun _ _=>trivial,h⟩
 · simp only[hw,Bool.false_eq_true,if_false]
   exact⟨fun _ _=>trivial,h⟩
theorem zat {j:Nat}{oi oj:Oper}{v:Value}(hj:ops[j]? =some oj)(hap:oi.apart ops oj=true)(hsi:∀cs b,oi.op≠ .select cs b)(hsj:∀cs b,oj.op≠ .select cs b)
 (hQ:∀c a w,Q (.panic c) (a.put oi.dst v) w→Q (.panic c) a w) {K:Act→World→Prop} {a:Act} {w:World} (hy:YieldsIf P ops S oi v a) (h:wpOpIn Fence.wide n P ops Q j K (a.put oi.dst v) w):
 wpOpIn Fence.wide n P ops Q j (fun a' w'=>YieldsIf P ops S oi v a'∧K (a'.put oi.dst v) w') a w:=by
 obtain⟨h1,h2,h3⟩:=Oper.apart_spec hap
 have keep:∀(a:Act),YieldsIf P ops S oi v a→∀u,YieldsIf P ops S oi v (a.put oj.dst u):=fun a hy u=>
  hy.of_same (execOp_put oi hsi a oj.dst u h3) (wanted_put oi a oj.dst u h3)
 have keepD:∀d,YieldsIf P ops S oi v { a with defers:=d::a.defers }:=fun d=>hy.of_same rfl rfl
 unfold wpOpIn at*
 simp only[hj] at*
 rw[wanted_put oj a oi.dst v h1] at h
 split
 · rename_i hw
   simp only[hw,if_true] at h
   unfold Oper.wpIn at*
   refine⟨fun _ _=>trivial,?_⟩
   have h:=h.2
   rw[show Fence.wide.round=none from rfl,Oper.semAt_none,execOp_put oj hsj a oi.dst v h1] at h
   rw[show Fence.wide.round=none from rfl,Oper.semAt_none]
   generalize (execOp a.eval oj).run P w=r at*
   cases r with
   | ok x w'=>
     cases x<;>simp only[Oper.uponIn] at h ⊢
     case value u=>exact⟨keep a hy u,by rw[←Act.put_comm a v u h2];exact h⟩
     case skip=>exact⟨keep a hy _,by rw[←Act.put_comm a v undef h2];exact h⟩
     case defer d=>
      refine⟨keep _ (keepD d) _,?_⟩
      rw[←Act.put_comm _ v undef h2,←Act.put_defers]
      exact h
     case enter f args=>
      refine⟨h.1,CallsIn.mono h.2 fun e w'' he=>?_⟩
      exact sh3
     case row row args=>exact⟨h.1,RowsIn.mono h.2 fun u w'' he=>⟨keep a hy u,by rw[←Act.put_comm a v u h2];exact he⟩⟩
     case round l f tmps assign body=>
      refine⟨h.1,RoundIn.mono h.2 fun e w'' he=>?_⟩
      exact sh3
   | halt x w'=>
     cases x<;>simp only[Oper.uponIn] at h ⊢
     case panic u=>exact hQ _ _ _ h
 · rename_i hw
   simp only[hw] at h
   exact⟨fun _ _=>trivial,keep a hy _,by rw[←Act.put_comm a v undef h2];exact h.2⟩
def vJ (n:Nat)(P:Program)(md:Region.Mode)(ops:Array Oper)(Q:Exit→Act→World→Prop)(S:World→Prop):Nat→Array Bool→Act→World→Prop
 | 0,listed,a,w=>Region.ready md ops listed= []∧Q .normal a w
 | fuel+1,listed,a,w=>(Region.ready md ops listed= []→Q .normal a w)∧∀i∈Region.ready md ops listed,wpOpIn Fence.wide n P ops Q i (fun a' w'=>S w'∧vJ n P md ops Q S fuel (listed.setIfInBounds i true) a' w') a w
theorem kR:∀(fuel:Nat) (listed:Array Bool) (a:Act) (w:World),vJ n P md ops Q S fuel listed a w→wpAnyIn Fence.wide n P md ops Q fuel listed a w
 | 0,_,_,_,h=>h
 | fuel+1,_,_,_,h=>⟨h.1,fun i hi=>wpOpIn_mono (fun a' w' h'=>kR fuel _ a' w' h'.2) (h.2 i hi)⟩
theorem zaD {i:Nat}{oi:Oper}{v:Value}(hi:ops[i]? =some oi)(hsel:∀(j:Nat) (o:Oper) cs b,ops[j]? =some o→o.op≠ .select cs b)(hQ:∀c a w,Q (.panic c) (a.put oi.dst v) w→Q (.panic c) a w):
 ∀ (fuel:Nat) (listed:Array Bool) (a:Act) (w:World),(∀j oj,ops[j]? =some oj→j≠i→listed.getD j true=false→(∀e∈oj.after,Region.binds md e=true→e.on≠i)→oi.apart ops oj=true)→
  i∈Region.ready md ops listed→YieldsIf P ops S oi v a→S w→vJ n P md ops Q S fuel (listed.setIfInBounds i true) (a.put oi.dst v) w→vJ n P md ops Q S (fuel+1) listed a w:=by
 intro fuel
 induction fuel with
 | zero=>
   intro listed a w _ hr hy hS H
   refine⟨fun h=>(by rw[h] at hr;cases hr),fun j hj=>?_⟩
   by_cases hji:j=i
   · subst hji;exact kM hi hy hS ⟨hS,H⟩
   · have:=ready_mono hj hji
     rw[H.1] at this
     cases this
 | succ fuel ih=>
   intro listed a w hfree hr hy hS H
   refine⟨fun h=>(by rw[h] at hr;cases hr),fun j hj=>?_⟩
   by_cases hji:j=i
   · subst hji;exact kM hi hy hS ⟨hS,H⟩
   · have h1:=H.2 j (ready_mono hj hji)
     obtain⟨hjun,oj,hoj,hall⟩:=mem_ready.1 hj
     have hnot:∀e∈oj.after,Region.binds md e=true→e.on≠i:=fun e he hb heq=>by
      have h1:=hall e he hb
      have h0:=(mem_ready.1 hr).1
      rw[heq] at h1
      rcases Nat.lt_or_ge i listed.size with h' | h'
      · simp[h'] at h0 h1;rw[h0] at h1;cases h1
      · simp[Array.getElem?_eq_none h'] at h1
     have h2:=zat hoj (hfree j oj hoj hji hjun hnot) (fun cs b=>hsel i oi cs b hi) (fun cs b=>hsel j oj cs b hoj) hQ hy h1
     have hfree' :∀k ok,ops[k]? =some ok→k≠i→(listed.setIfInBounds j true).getD k true=false→(∀e∈ok.after,Region.binds md e=true→e.on≠i)→oi.apart ops ok=true:=fun k ok hk hki hun hno=>by
      refine hfree k ok hk hki ?_ hno
      by_cases hjk:j=k
      · subst hjk;exact hjun
      · rw[getD_set_ne true hjk] at hun;exact hun
     refine wpOpIn_mono (fun a' w' h3=>⟨h3.2.1,ih (listed.setIfInBounds j true) a' w' hfree' (ready_mono hr (Ne.symm hji)) h3.1 h3.2.1 ?_⟩) h2
     rw[Array.setIfInBounds_comm _ _ hji]
     exact h3.2.2
theorem jw {i:Nat}{oi:Oper}{v:Value}{fuel:Nat}{listed:Array Bool}{a:Act}{w:World}(hi:ops[i]? =some oi)(hs:Region.noSelect ops=true)(hf:Region.free md ops listed i=true)(hr:(Region.ready md ops listed).contains i=true)
 (hQ:∀c a w,Q (.panic c) (a.put oi.dst v) w→Q (.panic c) a w) (hy:YieldsIf P ops S oi v a) (hS:S w) (h:vJ n P md ops Q S fuel (listed.setIfInBounds i true) (a.put oi.dst v) w):vJ n P md ops Q S (fuel+1) listed a w:=
 zaD hi (Region.noSelect_spec hs) hQ fuel listed a w (Region.free_spec hi hf) (by simpa using hr) hy hS h
theorem zL1 {i:Nat}{oi:Oper}(v:Value){fuel:Nat}{listed:Array Bool}{a:Act}{w:World}(hi:ops[i]? =some oi)(hv:∀X,S X→(execOp a.eval oi).run P X= .ok (.value v) X)(h:vJ n P md ops Q S fuel (listed.setIfInBounds i true) (a.put oi.dst v) w)(hQ:∀c a w,Q (.panic c) (a.put oi.dst v) w→Q (.panic c) a w:=by first | exact fun _ _ _ h=>h | exact fun _ _ _ h=>by cases h.1)(hw:Region.wanted oi (yielded ops a.tmps)=true:=by rfl)(hS:S w:=by assumption)(hs:Region.noSelect ops=true:=by kernel_rfl)(hf:Region.free md ops listed i=true:=by kernel_rfl)(hr:(Region.ready md ops listed).contains i=true:=by kernel_rfl):vJ n P md ops Q S (fuel+1) listed a w:=
 jw hi hs hf hr hQ (Or.inl ⟨hw,hv⟩) hS h
theorem zG1 {i:Nat}{oi:Oper}(v:Value){fuel:Nat}{listed:Array Bool}{a:Act}{w:World}(hi:ops[i]? =some oi)  (h:vJ n P md ops Q S fuel (listed.setIfInBounds i true) (a.put oi.dst v) w)(hQ:∀c a w,Q (.panic c) (a.put oi.dst v) w→Q (.panic c) a w:=by first | exact fun _ _ _ h=>h | exact fun _ _ _ h=>by cases h.1)(hw:Region.wanted oi (yielded ops a.tmps)=true:=by rfl)(hS:S w:=by assumption)(hs:Region.noSelect ops=true:=by kernel_rfl)(hf:Region.free md ops listed i=true:=by kernel_rfl)(hr:(Region.ready md ops listed).contains i=true:=by kernel_rfl)(hv:∀X,S X→(execOp a.eval oi).run P X= .ok (.value v) X:=by clear eH;intro X hSw;clear hSw;go_simp):vJ n P md ops Q S (fuel+1) listed a w:=
 jw hi hs hf hr hQ (Or.inl ⟨hw,hv⟩) hS h
theorem zR1 {i:Nat}{oi:Oper}  {fuel:Nat}{listed:Array Bool}{a:Act}{w:World}(hi:ops[i]? =some oi)  (h:vJ n P md ops Q S fuel (listed.setIfInBounds i true) (a.put oi.dst undef) w)(hQ:∀c a w,Q (.panic c) (a.put oi.dst undef) w→Q (.panic c) a w:=by first | exact fun _ _ _ h=>h | exact fun _ _ _ h=>by cases h.1)(hw:Region.wanted oi (yielded ops a.tmps)=false:=by rfl)(hS:S w:=by assumption)(hs:Region.noSelect ops=true:=by kernel_rfl)(hf:Region.free md ops listed i=true:=by kernel_rfl)(hr:(Region.ready md ops listed).contains i=true:=by kernel_rfl):vJ n P md ops Q S (fuel+1) listed a w:=
 jw hi hs hf hr hQ (Or.inr ⟨hw,rfl⟩) hS h
theorem yT {i:Nat}{o:Oper}{fuel:Nat}{listed:Array Bool}{a:Act}{w:World}(hr:Region.ready md ops listed= [i])(ho:ops[i]? =some o)
 (h:∀K:Act→World→Prop,(∀a' w',S w'→vJ n P md ops Q S fuel (listed.setIfInBounds i true) a' w'→K a' w')→if Region.wanted o (yielded ops a.tmps)=true then Oper.wpIn Fence.wide n P o a w K Q else K (a.put o.dst undef) w):vJ n P md ops Q S (fuel+1) listed a w:=by
 refine⟨fun h0=>(by rw[hr] at h0;cases h0),fun j hj=>?_⟩
 rw[hr,List.mem_singleton] at hj
 subst hj
 unfold wpOpIn
 rw[ho]
 have:=h (fun a' w'=>S w'∧vJ n P md ops Q S fuel (listed.setIfInBounds j true) a' w') (fun a' w' h1 h2=>⟨h1,h2⟩)
 exact sg1
theorem kr {listed:Array Bool}{a:Act}{w:World}(hr:Region.ready md ops listed= [])(h:Q .normal a w):∀fuel,vJ n P md ops Q S fuel listed a w
 | 0=>⟨hr,h⟩
 | _+1=>⟨fun _=>h,by rw[hr];simp⟩
theorem zcz {l i:Nat}{K:Act→World→Prop}{a:Act}{w:World}(hd:∀(j:Nat) (o:Oper) c,ops[j]? =some o→o.op≠ .defer c)(h:wpOpIn Fence.wide n P ops Q i K a w):wpOpIn (Fence.wide.inRound l) n P ops Q i K a w:=by
 unfold wpOpIn at h ⊢
 cases ho:ops[i]? with
 | none=>simpa only[ho] using h
 | some o=>
   simp only[ho] at h ⊢
   split
   · rename_i hw
     rw[ipQ hw] at h
     refine⟨fun _ _=>trivial,?_⟩
     rw[show (Fence.wide.inRound l).round=some l from rfl,Oper.semAt_some l _ o (fun c=>hd i o c ho)]
     have h:=h.2
     rw[show Fence.wide.round=none from rfl,Oper.semAt_none] at h
     generalize (execOp a.eval o).run P w=r at h ⊢
     cases r with
     | ok x w'=>cases x<;>exact h
     | halt x w'=>cases x<;>exact h
   · rename_i hw
     rw[inQ hw] at h
     exact⟨fun _ _=>trivial,h.2⟩
theorem YG {l:Nat}(hd:∀(j:Nat) (o:Oper) c,ops[j]? =some o→o.op≠ .defer c):∀(fuel:Nat) (listed:Array Bool) (a:Act) (w:World),wpAnyIn Fence.wide n P md ops Q fuel listed a w→wpAnyIn (Fence.wide.inRound l) n P md ops Q fuel listed a w
 | 0,_,_,_,h=>h
 | fuel+1,_,_,_,h=>⟨h.1,fun i hi=>zcz hd (wpOpIn_mono (fun a' w' h'=>YG hd fuel _ a' w' h') (h.2 i hi))⟩
theorem zgb {ops:Array Oper}(h:(ops.toList.all fun o=>match o.op with | .defer _=>false | _=>true)=true)(j:Nat)(o:Oper)(c)(hj:ops[j]? =some o):o.op≠ .defer c:=fun e=>by
 have:=List.all_eq_true.1 h o (List.mem_of_getElem? (l:=ops.toList) (i:=j) (by simpa using hj))
 rw[e] at this;cases this
theorem zal {id l:Nat}{a:Act}{w:World}(hm:P.follows .mixedOrders=true)(hd:∀(j:Nat) (o:Oper) c,ops[j]? =some o→o.op≠ .defer c)(h:vJ n P .any ops Q S ops.size (Array.replicate ops.size false) a w.drew):(Code.region id ops true).wpIn (Fence.wide.inRound l) n P Q a w:=
 wpIn_region_any hm (YG hd _ _ _ _ (kR _ _ _ _ h))
end
end Go.Proofs.YtoidedomenkbpaaGreat
namespace Go.Proofs.YtoidedomenkbpaaGreat
open Go.RowKit
def zfa:Fo→Option Tr
 | .nil=>none
 | .node _ _ k l _=>some ⟨k.1,k.2.1,k.2.2,l⟩
def kP (f:Fo)(j:Nat):Option Tr:=zfa (zT j f)
theorem zf8 {f:Fo}{j:Nat}(h:j<foLen f):∃b o k l r,zT j f= .node b o k l r∧kP f j=some ⟨k.1,k.2.1,k.2.2,l⟩∧zT (j+1) f=r:=by
 obtain⟨b,o,k,l,r,h1,h2,_⟩:=yL j f h
 exact⟨b,o,k,l,r,h1,by rw[kP,h1];rfl,h2⟩
theorem zf7 {f:Fo}{j:Nat}(h:foLen f≤j):kP f j=none:=by rw[kP,qJ j f h];rfl
theorem zdS {f:Fo}{j:Nat}{u:Tr}(h:kP f j=some u):j<foLen f:=by
 rcases Nat.lt_or_ge j (foLen f) with h1 | h1
 · exact h1
 · rw[zf7 h1] at h;cases h
theorem za4 (f:Fo):zT 0 f=f:=by cases f<;>rfl
theorem za3 {f:Fo}{j:Nat}{u:Tr}(h:kP f j=some u):zh (zT j f)=zh u.kids+zh (zT (j+1) f)+1:=by
 obtain⟨b,o,k,l,r,h1,h2,h3⟩:=zf8 (zdS h)
 rw[h2] at h;cases h
 rw[h1,h3];simp[zh]
end Go.Proofs.YtoidedomenkbpaaGreat
namespace Go.Proofs.YtoidedomenkbpaaGreat
open Go.RowKit Go.Shelf
attribute [local go_sem] Oper.semAt_some
def zeK (w:World)(et:TypeId)(size:Nat)(f:Sp→List Value)(l:List Sp)(e:Ending)(w' :World):Prop:=∃v,e= .returned v∧w'.ownsRow w.heap.size et size v l.length (l.flatMap f)∧Below w.heap.size w w'
structure Qp (w:World) (st et ft:TypeId) (size LB OB g cap:Nat) (fv:Value) (f:Sp→List Value) (pre:List Sp) (V:World):Prop where
 cell:V.heap[LB]? =some (.cells #[.slice (some ⟨g,0,none⟩) pre.length cap] st (0,0))
 of_:V.heap[OB]? =some (.cells #[fv] ft (0,0))
 own:V.ownsRow w.heap.size et size (.slice (some ⟨g,0,none⟩) pre.length cap) pre.length (pre.flatMap f)
 below:Below w.heap.size w V
theorem Qp.keep {w V V' :World}{st et ft:TypeId}{size LB OB g cap:Nat}{fv:Value}{f:Sp→List Value}{pre:List Sp}(h:Qp w st et ft size LB OB g cap fv f pre V)(ho:V'.os=V.os∧V'.tape=V.tape∧V'.output=V.output∧V.heap.size≤V'.heap.size)(M:Nat)(hL:LB<M)(hO:OB<M)(hg:g<M)(hw:w.heap.size≤M)(hk:∀x,x<M→x<V.heap.size→V'.heap[x]? =V.heap[x]?):Qp w st et ft size LB OB g cap fv f pre V':=
 ⟨(hk _ hL (lohQ h.cell)).trans h.cell,(hk _ hO (lohQ h.of_)).trans h.of_,zR h.own (fun g' cur hc hg'=>by cases hg';exact hk _ hg (lohQ hc)),ho.1.trans h.below.os,ho.2.1.trans h.below.tape,ho.2.2.1.trans h.below.output,NltQ h.below.size ho.2.2.2,fun x hx=>(hk x om (by have:=h.below.size;omega)).trans (h.below.block x hx)⟩
section
variable {n:Nat} {P:Program}
theorem Jq {ops:Array Oper}{Q:Exit→Act→World→Prop}{md:Region.Mode}{S:World→Prop}{i j:Nat}{o o' :Oper}{fuel:Nat}{listed:Array Bool}{a:Act}{w:World}(hr:Region.ready md ops listed= [i,j])(ho:ops[i]? =some o)(ho' :ops[j]? =some o')
 (h:∀K:Act→World→Prop,(∀a' w',S w'→vJ n P md ops Q S fuel (listed.setIfInBounds i true) a' w'→K a' w')→if Region.wanted o (yielded ops a.tmps)=true then Oper.wpIn Fence.wide n P o a w K Q else K (a.put o.dst undef) w)
 (h' :∀K:Act→World→Prop,(∀a' w',S w'→vJ n P md ops Q S fuel (listed.setIfInBounds j true) a' w'→K a' w')→if Region.wanted o' (yielded ops a.tmps)=true then Oper.wpIn Fence.wide n P o' a w K Q else K (a.put o'.dst undef) w):vJ n P md ops Q S (fuel+1) listed a w:=by
 have one:∀(k:Nat) (o:Oper),ops[k]? =some o→(∀K:Act→World→Prop,(∀a' w',S w'→vJ n P md ops Q S fuel (listed.setIfInBounds k true) a' w'→K a' w')→if Region.wanted o (yielded ops a.tmps)=true then Oper.wpIn Fence.wide n P o a w K Q else K (a.put o.dst undef) w)→wpOpIn Fence.wide n P ops Q k (fun a' w'=>S w'∧vJ n P md ops Q S fuel (listed.setIfInBounds k true) a' w') a w:=fun k o ho h=>by
  unfold wpOpIn
  rw[ho]
  have:=h (fun a' w'=>S w'∧vJ n P md ops Q S fuel (listed.setIfInBounds k true) a' w') (fun a' w' h1 h2=>⟨h1,h2⟩)
  exact sg1
 refine⟨fun h0=>(by rw[hr] at h0;cases h0),fun k hk=>?_⟩
 rw[hr] at hk
 simp only[List.mem_cons,List.not_mem_nil,or_false] at hk
 rcases hk with rfl | rfl
 · exact one _ _ ho h
 · exact one _ _ ho' h'
theorem vU (w:World){o:Oper}{a:Act}{K:Act→World→Prop}{Q:Exit→Act→World→Prop}(s x:Operand)(t:TypeId)(hop:o.op=Op.call { callee:=Callee.builtin Builtin.append,args:= #[s,x],argTypes:= #[t,t] })
 (base:Nat) (e:TypeId) (i:TypeInfo) (size:Nat) (h1:P.underlying t=some (.slice e)) (h2:P.info? e=some i) (h4:i.size=size)
 (g k cap:Nat) (xs:List Value) (hs:a.eval s= .slice (some ⟨g,0,none⟩) k cap) (hown:w.ownsRow base e size (.slice (some ⟨g,0,none⟩) k cap) k xs) (ad:Addr) (m c:Nat) (news:List Value) (hx:a.eval x= .slice (some ad) m c) (hn:news.length=m*size)
 (hc:∀j u,news[j]? =some u→w.cell? (ad.add j)=some u) (h1c:∀u∈news,u.oneCell'=true) (b1:k+m≤cap)
 (hK:∀w',w'.ownsRow base e size (.slice (some ⟨g,0,none⟩) (k+m) cap) (k+m) (xs++news)→w.grownBy w' (some g)→K (a.put o.dst (.slice (some ⟨g,0,none⟩) (k+m) cap)) w'):Oper.wpIn Fence.wide n P o a w K Q:=by
 obtain⟨w',hrun,r1,r2⟩:=run_append_fits (P:=P) w base t o.type e i size h1 h2 h4 g k cap xs hown ad m c news hn hc h1c b1
 unfold Oper.wpIn
 refine⟨?_,?_⟩
 · simp[Oper.about,hop,resolve,Target.leads,Sem.run_pure]
 · rw[Oper.semAt_plain Fence.wide _ _ (by rw[hop];intro c hc';cases hc')]
   simp[execOp,hop,resolve,invoke,builtin,hs,hx,hrun,Result.andThen]
   exact hK w' r1 r2
end
theorem zan {w V1 V2 w4:World}{st et ft:TypeId}{size LB OB g cap:Nat}{fv:Value}{f:Sp→List Value}{pre:List Sp}{x:Sp}{o:Obj}(hR:Qp w st et ft size LB OB g cap fv f pre V1)(hb:Below V1.heap.size V1 V2)(hown:w4.ownsRow w.heap.size et size (.slice (some ⟨g,0,none⟩) (pre.length+1) cap) (pre.length+1) (pre.flatMap f++f x))
 (hgr:(V2.alloc o).grownBy w4 (some g)) (hLg:LB≠g) (hOg:OB≠g) (hLO:LB≠OB) (hwL:w.heap.size≤LB) (hwg:w.heap.size≤g):
 ∃V5,V5=w4.setCell ⟨LB,0,none⟩ (.slice (some ⟨g,0,none⟩) (pre.length+1) cap)∧Qp w st et ft size LB OB g cap fv f (pre++[x]) V5∧(∀y,y<V1.heap.size→y≠g→y≠LB→V5.heap[y]? =V1.heap[y]?)∧V1.heap.size≤V5.heap.size∧w4.frozen? ⟨LB,0,none⟩=false:=by
 have hs:=hb.size
 have hs4:=hgr.size
 rw[WsaQ] at hs4
 have h4:∀y,y<V1.heap.size→y≠g→w4.heap[y]? =V1.heap[y]?:=fun y hy hg=>by
  rw[hgr.block y ud7 (by simpa using hg),BhaQ V2 _ _ om,hb.block y hy]
 have h5:∀y,y≠LB→(w4.setCell ⟨LB,0,none⟩ (.slice (some ⟨g,0,none⟩) (pre.length+1) cap)).heap[y]? =w4.heap[y]?:=fun y hy=>BhsQ _ _ _ _ hy
 have hL4:=(h4 LB (lohQ hR.cell) hLg).trans hR.cell
 have hO4:=(h4 OB (lohQ hR.of_) hOg).trans hR.of_
 have hbl:=hR.below
 refine⟨_,rfl,⟨?_,(h5 _ hLO.symm).trans hO4,?_,?_⟩,fun y hy h1 h2=>(h5 y h2).trans (h4 y hy h1),by simp[World.setCell];omega,forQ _ _ 0 _ _ hL4⟩
 · rw[hssQ _ LB 0 _ _ _ hL4];simp
 · have:=zR hown (w':=w4.setCell ⟨LB,0,none⟩ (.slice (some ⟨g,0,none⟩) (pre.length+1) cap)) (fun g' cur hc hg'=>by cases hg';exact h5 _ hLg.symm)
   simpa using this
 · exact⟨hgr.os.trans (hb.os.trans hbl.os),hgr.tape.trans (hb.tape.trans hbl.tape),hgr.output.trans (hb.output.trans hbl.output),by have:=hbl.size;simp[World.setCell];omega,fun y hy=>by
    have:=hbl.size
    rw[h5 y om,h4 y om om];exact hbl.block y hy⟩
end Go.Proofs.YtoidedomenkbpaaGreat
namespace Go.Proofs.YtoidedomenkbpaaGreat
open Go.RowKit Go.Shelf
attribute [local go_sem] Oper.semAt_some
theorem zak {n:Nat}{P:Program}{ops:Array Oper}{Q:Exit→Act→World→Prop}{S:World→Prop}{id:Nat}{a:Act}{w:World}(hm:P.follows .mixedOrders=true)(h:vJ n P .any ops Q S ops.size (Array.replicate ops.size false) a w.drew):(Code.region id ops true).wpIn Fence.wide n P Q a w:=
 wpIn_region_any hm (kR _ _ _ _ h)
theorem zaj {n:Nat}{P:Program}{ops:Array Oper}{Q:Exit→Act→World→Prop}{S:World→Prop}{id:Nat}{a:Act}{w:World}(hm:P.follows .mixedOrders=true)(h:vJ n P .any ops (fun e a w=>e= .normal∧Q .normal a w) S ops.size (Array.replicate ops.size false) a w.drew):(Code.region id ops true).wpIn Fence.wide n P Q a w:=
 wpIn_mono (zak hm h) (fun e a w h=>by obtain⟨rfl,h⟩:=h;exact h)
end Go.Proofs.YtoidedomenkbpaaGreat
