/-
  .
-/
import Derived.Test.YtoidedomenkbpaaGreatFrBkQs
namespace Go.Proofs.YtoidedomenkbpaaGreat.wireBack
open Go.ChangeShapes Go.WideShapes Go.ChangeAt Go.RowKit
open Go.ChangeMaps (open_string shut_string)
set_option linter.unusedVariables false
theorem own:ownKnob Tryz.prog.godebug=none:=by kernel_rfl
theorem laidOut:laidOutB Tryz.prog=true:=by kernel_rfl
set_option maxRecDepth 100000 in
theorem lifted (os:Os)(started:os.Started)(H:Type)(enc:TypeId×Value→H):
 ReturnsInHanded {} Tryz.checked os 8 .any (Rows.wireBackSpec.pre6 enc Tryz.prog Tryz.f8 Rows.wireBackRow.domain false) (Rows.wireBackSpec.post enc Tryz.prog Tryz.f8 false true false false):=by
 refine returnsInHanded_of_change (C:=Tryz.checked) own started kr1 Tryz.func8
  (ChangeSpec.witness6 (enc:=enc) (C:=Tryz.checked) false ⟨#[], #[.agg #[.int .i8 0,.int .i64 0,.int .i64 0,.int .i64 0,.int .i64 0,.int .i64 0,.int .i64 0,.int .i64 0,.int .i64 0,.int .i64 0,.int .i64 0,.slice none 0 0,.int .i64 0,.int .i64 0,.string ByteArray.empty,.slice none 0 0],.slice none 0 0],[]⟩ 8 kr1 kr1 kr1 kr1) ?_
 intro W base args ds gs before hval0 hW hcnd _
 have hval:∀(j:Nat) t v,Tryz.f8.params[j]? =some t→args[j]? =some v→Value.okWide Tryz.prog W .any base t v:=hval0
 have hW':=hW
 obtain⟨p,q,hA0,hV,rfl,hfz,hnd⟩:=hW
 have hA:DataW.TrodAll enc Tryz.prog W 0 (fun _=>true) true Tryz.f8.params.toList args.toList ds p:=hA0
 rw[Tryz.params8] at hA hval
 obtain⟨v0,vs0,d0,ds0,p0,q0,hargs,rfl,rfl,h0,r0⟩:=trodAll_cons hA
 obtain⟨v1,vs1,d1,ds1,p1,q1,rfl,rfl,rfl,h1,r1⟩:=trodAll_cons r0
 obtain⟨rfl,rfl,rfl⟩:=trodAll_nil r1
 obtain rfl:args= #[v0,v1]:=by cases args;simp_all
 obtain⟨rfl,rfl⟩:=trodVars_none hV
 obtain⟨cs0,rfl,_⟩:=okWide_struct Tryz.underlying37 (hval 0 37 v0 rfl rfl)
 have k0:=h0
 have lt0:∀x∈p0,x.block<W.heap.size:=by obtain⟨m,hm⟩:=k0;exact DataW.trod_lt m _ _ _ hm
 obtain⟨m0,hm0⟩:=h0
 obtain⟨x0_0,x0_1,x0_2,x0_3,x0_4,x0_5,x0_6,x0_7,x0_8,x0_9,x0_10,sa0,ar0,ac0,ad0,vs0,t0,e0,hc0,hw0⟩:=open_msg14 m0 _ _ hm0
 have e0' :cs0= #[.int .i8 x0_0,.int .i64 x0_1,.int .i64 x0_2,.int .i64 x0_3,.int .i64 x0_4,.int .i64 x0_5,.int .i64 x0_6,.int .i64 x0_7,.int .i64 x0_8,.int .i64 x0_9,.int .i64 x0_10,.slice sa0 vs0.length ac0,.int .i64 t0.id,.int .i64 t0.kind,.string t0.text,.slice ar0 (foLen t0.kids) ad0]:=Array.toList_inj.1 e0
 subst e0'
 obtain⟨a1,len1,cap1,rfl⟩:=okWide_slice Tryz.underlying45 (hval 1 45 v1 rfl rfl)
 have k1:=h1
 have lt1:∀x∈p1,x.block<W.heap.size:=by obtain⟨m,hm⟩:=k1;exact DataW.trod_lt m _ _ _ hm
 obtain⟨m1,hm1⟩:=h1
 obtain⟨bs1,ba1,bcap1,e1,hby1,hle1,hmx1⟩:=open_bytesY hm1
 cases e1
 clear hA0 hval0
 refine (wireBack_fr W x0_0 x0_1 x0_2 x0_3 x0_4 x0_5 x0_6 x0_7 x0_8 x0_9 x0_10 sa0 ar0 ac0 ad0 vs0 t0 _ _ bs1 hc0 hw0 hby1 hle1 hmx1).mono fun e W' ⟨he,bel⟩=>?_
 subst he
 exact⟨_,rfl,_,_,_,[],_,[],hW',trodAll_mk1 (shut_bool Tryz.underlying4 _),(trodAll_cons_mk (Below.trod laidOut kr1 (of_decide_eq_true kr1) k0 bel lt0) (trodAll_cons_mk (Below.trod laidOut kr1 (of_decide_eq_true kr1) k1 bel lt1) trodAll_mk0)),rfl,bel.frame _,fun h=>by cases h⟩
theorem over:Rows.wireBackRow.holds Tryz.pinned (OpenSpec.ofChange Rows.wireBackSpec):=
 OpenClaim.holds_of_wide 8 Tryz.f8 rfl rfl rfl rfl rfl rfl rfl ⟨rfl,rfl,rfl,rfl,rfl⟩ rfl rfl rfl rfl rfl kr1 Tryz.func8 kr1
  (of_decide_eq_true kr1) (by unfold Func.isWrapper;first | (rw[ipQ (by decide+kernel)];kernel_rfl) | (rw[inQ (by decide+kernel)];exact⟨rfl,rfl⟩))
  (fun os started H enc _=>lifted os started H enc)
theorem proved:Rows.WireBackSaid:=over
end Go.Proofs.YtoidedomenkbpaaGreat.wireBack
