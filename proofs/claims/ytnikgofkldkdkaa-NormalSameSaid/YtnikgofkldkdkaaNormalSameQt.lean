/-
  .
-/
import Derived.Test.YtnikgofkldkdkaaNFrSQt
namespace Go.Proofs.Ytnikgofkldkdkaa.normalSame
open Go.ChangeShapes Go.WideShapes Go.ChangeAt Go.RowKit
open Go.ChangeMaps (open_string shut_string)
set_option linter.unusedVariables false
theorem own:ownKnob Try.prog.godebug=none:=by kernel_rfl
theorem laidOut:laidOutB Try.prog=true:=by kernel_rfl
set_option maxRecDepth 100000 in
theorem lifted (os:Os)(started:os.Started)(H:Type)(enc:TypeId×Value→H):
 ReturnsInHanded {} Try.checked os 3 .any (Rows.normalSameSpec.pre6 enc Try.prog Try.f3 Rows.normalSameRow.domain false) (Rows.normalSameSpec.post enc Try.prog Try.f3 false true false false):=by
 refine returnsInHanded_of_change (C:=Try.checked) own started kr1 Try.func3
  (ChangeSpec.witness6 (enc:=enc) (C:=Try.checked) false ⟨#[], #[.agg #[.slice none 0 0,.int .i64 0],.agg #[.int .i64 0,.int .i64 0,.string ByteArray.empty,.slice none 0 0],.slice none 0 0],[]⟩ 8 kr1 kr1 kr1 kr1) ?_
 intro W base args ds gs before hval0 hW hcnd _
 have hval:∀(j:Nat) t v,Try.f3.params[j]? =some t→args[j]? =some v→Value.okWide Try.prog W .any base t v:=hval0
 have hW':=hW
 obtain⟨p,q,hA0,hV,rfl,hfz,hnd⟩:=hW
 have hA:DataW.TrodAll enc Try.prog W 0 (fun _=>true) true Try.f3.params.toList args.toList ds p:=hA0
 rw[Try.params3] at hA hval
 obtain⟨v0,vs0,d0,ds0,p0,q0,hargs,rfl,rfl,h0,r0⟩:=trodAll_cons hA
 obtain⟨v1,vs1,d1,ds1,p1,q1,rfl,rfl,rfl,h1,r1⟩:=trodAll_cons r0
 obtain⟨v2,vs2,d2,ds2,p2,q2,rfl,rfl,rfl,h2,r2⟩:=trodAll_cons r1
 obtain⟨rfl,rfl,rfl⟩:=trodAll_nil r2
 obtain rfl:args= #[v0,v1,v2]:=by cases args;simp_all
 obtain⟨rfl,rfl⟩:=trodVars_none hV
 obtain⟨cs0,hcs0,_⟩:=okWide_struct Try.underlying24 (hval 0 24 v0 rfl rfl)
 have k0:=h0
 have lt0:∀x∈p0,x.block<W.heap.size:=by obtain⟨m,hm⟩:=k0;exact DataW.trod_lt m _ _ _ hm
 obtain⟨g0,hg0,hf0⟩:=open_grV hcs0 h0
 obtain⟨cs1,rfl,_⟩:=okWide_struct Try.underlying27 (hval 1 27 v1 rfl rfl)
 have k1:=h1
 have lt1:∀x∈p1,x.block<W.heap.size:=by obtain⟨m,hm⟩:=k1;exact DataW.trod_lt m _ _ _ hm
 obtain⟨m1,hm1⟩:=h1
 obtain⟨t1,ka1,cap1,e1,hcp1,hfo1,hft1⟩:=open_node7 m1 _ _ hm1
 have e1' :cs1= #[.int .i64 t1.id,.int .i64 t1.kind,.string t1.text,.slice ka1 (foLen t1.kids) cap1]:=Array.toList_inj.1 e1
 obtain⟨a2,len2,cap2,rfl⟩:=okWide_slice Try.underlying28 (hval 2 28 v2 rfl rfl)
 have k2:=h2
 have lt2:∀x∈p2,x.block<W.heap.size:=by obtain⟨m,hm⟩:=k2;exact DataW.trod_lt m _ _ _ hm
 obtain⟨m2,hm2⟩:=h2
 obtain⟨l2,b2,c2,e2,hi2⟩:=open_stepsG m2 _ _ hm2
 cases e2
 clear hA0 hval0
 refine (normalSame_fr W v0 g0 _ t1 l2 _ _ hg0 hf0 ⟨ka1,cap1,by rw[e1'],hcp1,hfo1⟩ hft1 hi2).mono fun e W' ⟨he,bel⟩=>?_
 subst he
 exact⟨_,rfl,_,_,_,[],_,[],hW',trodAll_mk1 (shut_bool Try.underlying4 _),(trodAll_cons_mk (Below.trod laidOut kr1 (of_decide_eq_true kr1) k0 bel lt0) (trodAll_cons_mk (Below.trod laidOut kr1 (of_decide_eq_true kr1) k1 bel lt1) (trodAll_cons_mk (Below.trod laidOut kr1 (of_decide_eq_true kr1) k2 bel lt2) trodAll_mk0))),rfl,bel.frame _,fun h=>by cases h⟩
theorem over:Rows.normalSameRow.holds Try.pinned (OpenSpec.ofChange Rows.normalSameSpec):=
 OpenClaim.holds_of_wide 3 Try.f3 rfl rfl rfl rfl rfl rfl rfl ⟨rfl,rfl,rfl,rfl,rfl⟩ rfl rfl rfl rfl rfl kr1 Try.func3 kr1
  (of_decide_eq_true kr1) (by unfold Func.isWrapper;first | (rw[ipQ (by decide+kernel)];kernel_rfl) | (rw[inQ (by decide+kernel)];exact⟨rfl,rfl⟩))
  (fun os started H enc _=>lifted os started H enc)
theorem proved:Rows.NormalSameSaid:=over
end Go.Proofs.Ytnikgofkldkdkaa.normalSame
