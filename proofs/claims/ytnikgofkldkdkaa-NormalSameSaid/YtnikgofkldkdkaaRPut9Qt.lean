/-
  .
-/
import Derived.Test.YtnikgofkldkdkaaRParPQt
set_option maxRecDepth 100000
set_option maxHeartbeats 40000000
set_option linter.unusedVariables false
set_option linter.unusedSimpArgs false
namespace Go.Proofs.Ytnikgofkldkdkaa
open Go.RowKit Go.Shelf
def atC (w:World)(C:Nat)(d:Bool):World:=w.setCell ⟨C,3,none⟩ (.bool d)
theorem yt (w:World)(C:Nat)(d:Bool):(atC w C d).heap.size=w.heap.size:=by simp[atC,World.setCell]
def MkC (id:Int)(ctx:ByteArray)(ks:Fo)(d:Bool)(t:Tr)(C:Nat)(w:World)(e:Ending)(w' :World):Prop:=∃va vc,e= .returned (.agg #[.int .i64 (mkT id ctx ks d t).1.id,.int .i64 (mkT id ctx ks d t).1.kind,.string (mkT id ctx ks d t).1.text,.slice va (foLen (mkT id ctx ks d t).1.kids) vc])∧foLen (mkT id ctx ks d t).1.kids≤vc∧zk w' (kP w w') (mkT id ctx ks d t).1.kids va∧Below w.heap.size (atC w C (mkT id ctx ks d t).2) w'
theorem zej (w:World)(S:Nat→Prop)(C:Nat)(id tk:Int)(ctx tx:ByteArray)(ks kf:Fo)(ka ca:Option Addr)(len cap cn cc:Nat)(hlen:len=foLen kf)(hcn:cn=foLen ks)(hk:zk w S ks ca)(hS:∀q,S q→q<w.heap.size∧q≠C)(hz:za ks≤400000)(hcnc:cn≤cc)(hC:w.heap[C]? =some (.cells #[.int .i64 id,.slice ca cn cc,.string ctx,.bool false] 151 (0,0))):
 Calls Try.prog 94 #[.pointer (some ⟨C,0,none⟩),.agg #[.int .i64 id,.int .i64 tk,.string tx,.slice ka len cap]] w (MkC id ctx ks false ⟨id,tk,tx,kf⟩ C w):=by
 have hCw:C<w.heap.size:=lohQ hC
 obtain⟨B,hB⟩:∃B,B=zx w [.cells #[.int .i64 id,.int .i64 tk,.string tx,.slice ka len cap] 27,.cells #[.int .i64 0,.int .i64 0,.string ⟨#[]⟩,.slice none 0 0] 27,.cells #[.int .i64 id,.int .i64 tk,.string tx,.slice none 0 0] 27]:=⟨_,rfl⟩
 have hb:Below w.heap.size w B:=by rw[hB];exact zl _ _
 have e0:B.heap[w.heap.size]? =some (.cells #[.int .i64 id,.int .i64 tk,.string tx,.slice ka len cap] 27 (0,0)):=by rw[hB];exact ze _ _ 0 _ rfl
 have e1:B.heap[w.heap.size+1]? =some (.cells #[.int .i64 0,.int .i64 0,.string ⟨#[]⟩,.slice none 0 0] 27 (0,0)):=by rw[hB];exact ze _ _ 1 _ rfl
 have e2:B.heap[w.heap.size+1+1]? =some (.cells #[.int .i64 id,.int .i64 tk,.string tx,.slice none 0 0] 27 (0,0)):=by rw[hB];exact ze _ _ 2 _ rfl
 have hCB:=(hb.block C hCw).trans hC
 obtain⟨p0,p1,p2,p3⟩:=zF e0
 obtain⟨k0,k1,k2,k3⟩:=zF hCB
 have HBE:=hH hB
 have hii:(id == id)=true:=by simp
 have HH:=hH (aN hlen (aN hcn (aN hk (aN hS (aN hz (aN hC hcnc))))))
 have HE:=hH (aN hb (aN e0 (aN e1 (aN e2 hCB))))
 clear hB hlen hcn hk hS hz hC hcnc hb e0 e1 e2 hCB
 go_enter Try.func94,Try.ntmps94
 go_upto_region 2 with fail
 change Code.wp _ _ _ _ (zx w [.cells #[.int .i64 id,.int .i64 tk,.string tx,.slice ka len cap] 27,.cells #[.int .i64 0,.int .i64 0,.string ⟨#[]⟩,.slice none 0 0] 27,.cells #[.int .i64 id,.int .i64 tk,.string tx,.slice none 0 0] 27])
 rw[←HBE.out]
 clear HBE
 go_upto_region 3 with (go_quiet (fail))
 obtain⟨D,hD⟩:∃D,D=B.drewN nq:=⟨_,rfl⟩
 rw[←hD]
 have hbD:Below B.heap.size B D:=by rw[hD];exact below_drewN (BrQ _ _) _
 have hbw:=HE.out.1.trans (hbD.mono HE.out.1.size)
 have f0:=(hbD.block _ (lohQ HE.out.2.1)).trans HE.out.2.1
 have f1:=(hbD.block _ (lohQ HE.out.2.2.1)).trans HE.out.2.2.1
 have f2:=(hbD.block _ (lohQ HE.out.2.2.2.1)).trans HE.out.2.2.2.1
 have fC:=(hbD.block _ (lohQ HE.out.2.2.2.2)).trans HE.out.2.2.2.2
 have gC:∀j,D.frozen? ⟨C,j,none⟩=false:=fun j=>forQ _ _ j _ _ fC
 clear k0 k1 k2 k3 p0 p1 p2 p3 hD hbD
 obtain⟨k0,k1,k2,k3⟩:=zF fC
 obtain⟨D1,hD1⟩:∃D1,D1=D.setCell ⟨C,3,none⟩ (.bool true):=⟨_,rfl⟩
 have oC:∀y,y≠C→D1.heap[y]? =D.heap[y]?:=fun y hy=>by rw[hD1];exact BhsQ _ _ _ _ hy
 have sC:D1.heap[C]? =some (.cells #[.int .i64 id,.slice ca cn cc,.string ctx,.bool true] 151 (0,0)):=by rw[hD1,hssQ D C 3 _ _ _ fC];rfl
 have m2:=(oC _ om).trans f2
 have HD:=hH (aN hbw (aN f0 (aN f1 (aN oC (aN sC m2)))))
 have HD1:=hH hD1
 clear f0 f1 f2 hbw oC hD1 fC
 go_upto_region 4 with fail
 rw[←HD1.out]
 clear gC k0 k1 k2 k3
 obtain⟨k0,k1,k2,k3⟩:=zF sC
 have gO:∀j,D1.frozen? ⟨w.heap.size+1+1,j,none⟩=false:=fun j=>forQ _ _ j _ _ m2
 obtain⟨q0,q1,q2,q3⟩:=zF m2
 obtain⟨E,hE⟩:∃E,E=D1.setCell ⟨w.heap.size+1+1,2,none⟩ (.string ctx):=⟨_,rfl⟩
 have oE:∀y,y≠w.heap.size+1+1→E.heap[y]? =D1.heap[y]?:=fun y hy=>by rw[hE];exact BhsQ _ _ _ _ hy
 have sE:E.heap[w.heap.size+1+1]? =some (.cells #[.int .i64 id,.int .i64 tk,.string ctx,.slice none 0 0] 27 (0,0)):=by rw[hE,hssQ D1 _ 2 _ _ _ m2];rfl
 have HEE:=hH hE
 have HEF:=hH (aN oE sE)
 clear sC m2 oE sE hE
 go_upto_region 5 with fail
 rw[←HEE.out]
 clear gO q0 q1 q2 q3 k0 k1 k2 k3
 obtain⟨w1,hw1⟩:∃w1,w1=atC w C true:=⟨_,rfl⟩
 have hws:w1.heap.size=w.heap.size:=by rw[hw1];exact yt _ _ _
 have hwC:w1.heap[C]? =some (.cells #[.int .i64 id,.slice ca cn cc,.string ctx,.bool true] 151 (0,0)):=by rw[hw1,atC,hssQ w C 3 _ _ _ HH.out.2.2.2.2.2.1];rfl
 have hwo:∀y,y≠C→w1.heap[y]? =w.heap[y]?:=fun y hy=>by rw[hw1,atC];exact BhsQ _ _ _ _ hy
 have HINV:Hid (zQ w1 #[.int .i64 id,.int .i64 tk,.string tx,.slice ka len cap] id tk ctx ks 0 (.slice none 0 0) [] E):=hH (by
  unfold zQ
  rw[hws]
  refine⟨(HEF.out.1 _ om).trans ((HD.out.2.2.2.1 _ om).trans HD.out.2.1),(HEF.out.1 _ om).trans ((HD.out.2.2.2.1 _ om).trans HD.out.2.2.1),HEF.out.2,?_,World.ownsRow_nil _ _ _ _,rfl⟩
  have hb:=HD.out.1
  refine⟨?_,?_,?_,?_,fun y hy=>?_⟩
  · rw[HEE.out,HD1.out,hw1];exact hb.os
  · rw[HEE.out,HD1.out,hw1];exact hb.tape
  · rw[HEE.out,HD1.out,hw1];exact hb.output
  · rw[HEE.out,HD1.out];simp only[World.setCell,Array.size_modify];rw[hws];exact hb.size
  · rw[HEF.out.1 y om]
    by_cases hy2:y=C
    · subst hy2;rw[HD.out.2.2.2.2.1,hwC]
    · rw[HD.out.2.2.2.1 y hy2,hwo y hy2];exact hb.block y hy)
 have HW1:=hH (aN hws (aN hwC (aN hwo hw1)))
 clear hws hwC hwo hw1 HEE HD1 HD HEF
 go_wp2_with fail
 go_loopw [6] (fun i wr=>∃(k:Nat) (rv:Value) (xs:List Value),k≤cn∧i= .int .i64 (k:Int)∧Hid (zQ w1 #[.int .i64 id,.int .i64 tk,.string tx,.slice ka len cap] id tk ctx ks k rv xs wr)) (fun i _=>cn - (intOf i).toNat)
 case atStart=>exact⟨0,_,_,NzlQ _,rfl,HINV⟩
 case round=>
  obtain⟨k,rv,xs,hk,rfl,hh⟩:=hrel
  obtain⟨wo,hwo⟩:∃wo,wo=wr:=⟨_,rfl⟩
  subst hwo
  have HI:=hH hh.out
  have hCr:wo.heap[C]? =some (.cells #[.int .i64 id,.slice ca cn cc,.string ctx,.bool true] 151 (0,0)):=(hh.out.2.2.2.1.block C (by rw[HW1.out.1];exact hCw)).trans HW1.out.2.1
  have hi22:=hh.out.2.2.1
  rw[HW1.out.1] at hi22
  obtain⟨k0,k1,k2,k3⟩:=zF hCr
  clear HINV hCr
  by_cases hlt:k<cn
  · have hk1:zk wo S ks ca:=HH.out.2.2.1.kept fun q hq=>⟨hq,(HI.out.2.2.2.1.block q (by rw[HW1.out.1];exact (HH.out.2.2.2.1 q hq).1)).trans (HW1.out.2.2.1 q (HH.out.2.2.2.1 q hq).2)⟩
    obtain⟨b0,o0,⟨ki,kk,kt⟩,l,r,hd1,b,off,a1,n1,rfl,hSb,c0,c1,c2,c3,hcp1,hl1⟩:=hk1.at k (by rw[←HH.out.2.1];exact hlt)
    obtain⟨_,_,_,_,_,e1,e2,hsz1,htk⟩:=yw k ks (by rw[←HH.out.2.1];exact hlt)
    rw[hd1] at e1;cases e1
    have hcall:=Zo 500000 wo S (.agg #[.int .i64 ki,.int .i64 kk,.string kt,.slice a1 (foLen l) n1]) ⟨ki,kk,kt,l⟩ (by have:=HH.out.2.2.2.2.1;simp only;omega) (by have:=HH.out.2.2.2.2.1;simp only;omega) (fun x hx=>nL (by rw[HW1.out.1];exact (HH.out.2.2.2.1 x hx).1) HI.out.2.2.2.1.size) ⟨a1,n1,rfl,hcp1,hl1⟩
    obtain⟨m1,hm1⟩:∃m,m=foLen l:=⟨_,rfl⟩
    rw[←hm1] at hcall c3
    simp only at c0 c1 c2
    have HC:=hH hcall
    have HM1:=hH hm1
    have HTK:=hH htk
    have hkl:(k:Int)<(cn:Int):=by omega
    have hk5:cn≤400000:=by have:=zM ks;have:=HH.out.2.1;have:=HH.out.2.2.2.2.1;omega
    clear hk1 hd1 hcall hm1 htk hl1 hsz1 hSb e2 hcp1 hh hi22
    go_wp2_with fail
    refine (HC.out.mono fun _ _ h=>Yy.weak h).mono ?_
    rintro e w2 ⟨_,rfl,⟨ka2,cap2,rfl,hcp2,hf2⟩,hb2⟩
    have hi2:=HI.out.below hb2
    have hkid:=HI.out.kid hf2
    have hs2:=hi2.size
    have ho:=hi2.2.2.2.2.1
    rw[HW1.out.1] at hs2 ho
    have hi22:=hi2.2.2.1
    rw[HW1.out.1] at hi22
    simp only
    rw[←HM1.out]
    have d3:w2.cell? ⟨w.heap.size+1+1,3,none⟩=some rv:=by rw[corQ w2 _ 3 _ _ _ hi22];rfl
    have f3:w2.frozen? ⟨w.heap.size+1+1,3,none⟩=false:=forQ w2 _ 3 _ _ hi22
    obtain⟨i0,z0,hi0,hz0,hz1,hz2,hz3⟩:=zW Try.Qi
    have hnew:(((w2.alloc (.cells #[.int .i64 ki,.int .i64 kk,.string kt,.slice ka2 m1 cap2] 27)).alloc (.cells #[.int .i64 ki,.int .i64 kk,.string kt,.slice ka2 m1 cap2] 27)).heap[w2.heap.size+1]? =some (.cells #[.int .i64 ki,.int .i64 kk,.string kt,.slice ka2 m1 cap2] 27 (0,0))):=by
     exact se7
    have HNEW:=hH hnew
    clear hnew
    have hB:w.heap.size+3≤w2.heap.size:=by omega
    have hstep:=fun w1 gg cap' h1 h2 h3=>hi2.step (hkc:=hcp2) (w1:=w1) (gg:=gg) (cap:=cap') (kc:=cap2) (o1:= .cells #[.int .i64 ki,.int .i64 kk,.string kt,.slice ka2 m1 cap2] 27) (o2:= .cells #[.int .i64 ki,.int .i64 kk,.string kt,.slice ka2 m1 cap2] 27) hkid HTK.out h1 h2 h3
    rw[←HM1.out,HW1.out.1] at hstep
    have HST:=hH hstep
    have hne:rv.ownBlock≠some (w.heap.size+1+1):=fun e=>by have:=(zi ho e).1;omega
    have hlt2:(⟨w.heap.size+1+1,3,none⟩:Addr).block<((w2.alloc (.cells #[.int .i64 ki,.int .i64 kk,.string kt,.slice ka2 m1 cap2] 27)).alloc (.cells #[.int .i64 ki,.int .i64 kk,.string kt,.slice ka2 m1 cap2] 27)).heap.size:=by simp;omega
    have hheap:((w2.alloc (.cells #[.int .i64 ki,.int .i64 kk,.string kt,.slice ka2 m1 cap2] 27)).alloc (.cells #[.int .i64 ki,.int .i64 kk,.string kt,.slice ka2 m1 cap2] 27)).heap[w.heap.size+1+1]? =w2.heap[w.heap.size+1+1]?:=by rw[BhaQ _ _ _ ue6,BhaQ _ _ _ hs2]
    have HAUX:=hH (aN hne (aN hlt2 (aN ((World.cell?_of_block (a:=⟨w.heap.size+1+1,3,none⟩) hheap).trans d3) ((World.frozen?_of_block (a:=⟨w.heap.size+1+1,3,none⟩) hheap).trans f3))))
    clear hi2 hi22 hkid hf2 hb2 hstep hne hlt2 hheap f3 hcp2
    go_wp2_with (at_builtin;refine wpList_append_lies _ rfl (.tmp 57) (.tmp 59) _ rfl (w.heap.size+3) 27 i0 z0 4 56 Try.underlying25 hi0 hz0 hz1 hz2 hz3 om rv k xs rfl ((ho.alloc _).alloc _) ⟨w2.heap.size+1,0,none⟩ 1 1 [.int .i64 ki,.int .i64 kk,.string kt,.slice ka2 m1 cap2] rfl rfl (World.news_of_block (cs:= #[.int .i64 ki,.int .i64 kk,.string kt,.slice ka2 m1 cap2]) (t:=27) (fr:=(0,0)) HNEW.out) ue0 om ue1 om ue6 (w2.heap.size+1+1) sp1 ?_;intro gg cap' w1 hown1 hgrow hat hlt1;have c1w:=(hgrow.cell_far _ HAUX.out.2.1 (Ne.symm HAUX.out.1)).trans HAUX.out.2.2.1;have f1w:=(hgrow.frozen_far _ HAUX.out.2.1 (Ne.symm HAUX.out.1)).trans HAUX.out.2.2.2)
    exact⟨⟨k+1,_,_,by omega,by go_num,hH (HST.out _ _ _ hown1 hgrow hat)⟩,by simp[intOf];omega⟩
  · have hkk:k=cn:=by omega
    have hi:=HI.out
    obtain⟨ra,qj,rfl,hrc⟩:=vV hi.2.2.2.2.1
    have hi1:=hi.2.1
    rw[HW1.out.1] at hi1
    obtain⟨q0,q1,q2,q3⟩:=zF hi22
    obtain⟨z0,z1,z2,z3⟩:=zF hi1
    have gz:∀j,wo.frozen? ⟨w.heap.size+1,j,none⟩=false:=fun j=>forQ _ _ j _ _ hi1
    have hkl:¬(k:Int)<(cn:Int):=by omega
    have HZ:=hH (zX hi1 (.int .i64 id) (.int .i64 tk) (.string ctx) (.slice ra k qj))
    have HLK:=hH (aN (show k=foLen ks by rw[hkk,HH.out.2.1]) hrc)
    clear hi hi1 hi22 hh hkk hrc hlt hk
    go_wp2_with fail
    refine brQ (results_cell_row rfl _ _ (w.heap.size+1) 27 _ _ _ rfl HZ.out.1 Try.underlying27 rfl kr1) rfl ?_
    have hdone:=HI.out.done HLK.out.1 HLK.out.2 (HZ.out.2.1 _ (by rw[HW1.out.1];omega)) (by rw[HW1.out.1];exact HZ.out.2.2)
    obtain⟨_,he,⟨va,vc,rfl,hvc,hvf⟩,hb⟩:=hdone.weak
    have hm:mkT id ctx ks false ⟨id,tk,tx,kf⟩=(⟨id,tk,ctx,ks⟩,true):=by rw[mkT,ipQ ⟨rfl,rfl⟩]
    rw[HW1.out.1] at hb
    refine⟨va,vc,by rw[hm];exact he,by rw[hm];exact hvc,?_,?_⟩
    · rw[hm];exact hvf.kept fun q hq=>⟨⟨by rw[←HW1.out.1];exact hq.1,hq.2⟩,rfl⟩
    · rw[hm,←HW1.out.2.2.2];exact hb
theorem JP {w:World}{C:Nat}{c0 c1 c2 c3:Value}{T:TypeId}(h:w.heap[C]? =some (.cells #[c0,c1,c2,c3] T (0,0)))(d:Bool):(atC w C d).heap[C]? =some (.cells #[c0,c1,c2,.bool d] T (0,0)):=by
 rw[atC,hssQ w C 3 _ _ _ h];rfl
theorem y7 {w:World}{C y:Nat}(d:Bool)(h:y≠C):(atC w C d).heap[y]? =w.heap[y]?:=BhsQ _ _ _ _ h
theorem zfB {w wr:World}{C:Nat}{c0 c1 c2:Value}{T:TypeId}{x:Bool}(hC:w.heap[C]? =some (.cells #[c0,c1,c2,.bool x] T (0,0)))(d e:Bool)(h:Below w.heap.size (atC w C d) wr):Below w.heap.size (atC w C e) (atC wr C e):=by
 have hs:=h.size
 have h1:=(h.block C (lohQ hC)).trans (JP hC d)
 refine⟨h.os,h.tape,h.output,by simp only[yt] at hs ⊢;exact hs,fun y hy=>?_⟩
 by_cases hy2:y=C
 · subst hy2;rw[JP h1 e,JP hC e]
 · rw[y7 e hy2,y7 e hy2,h.block y hy,y7 d hy2]
theorem ziY {w wr:World}{C:Nat}{a0 a1 a2:Value}{T:TypeId}{x:Bool}{c1:Array Value}{id kd:Int}{tx:ByteArray}{ks:Fo}{k:Nat}{rv:Value}{xs:List Value}(hC:w.heap[C]? =some (.cells #[a0,a1,a2,.bool x] T (0,0)))(d e:Bool)(h:zQ (atC w C d) c1 id kd tx ks k rv xs wr):zQ (atC w C e) c1 id kd tx ks k rv xs (atC wr C e):=by
 have hl:=lohQ hC
 obtain⟨h0,h1,h2,h3,h4,h5⟩:=h
 rw[yt] at h0 h1 h2 h3 h4
 unfold zQ
 rw[yt]
 refine⟨(y7 e om).trans h0,(y7 e om).trans h1,(y7 e om).trans h2,zfB hC d e h3,zA h4 fun g cur _ hg=>y7 e (by have:=(zi h4 hg).1;omega),h5.kept fun q hq=>?_⟩
 have hq1:=hq.1
 rw[yt] at hq1
 exact⟨⟨by rw[yt];exact hq1,by rw[yt];exact hq.2.1,hq.2.2⟩,y7 e om⟩
theorem zhg {w wr:World}{C:Nat}{c0 c1 c2:Value}{T:TypeId}{d:Bool}(hC:w.heap[C]? =some (.cells #[c0,c1,c2,.bool d] T (0,0)))(h:Below w.heap.size w wr):Below w.heap.size (atC w C d) wr:=
 ⟨h.os,h.tape,h.output,by rw[yt];exact h.size,fun y hy=>by
  rw[h.block y hy]
  by_cases hy2:y=C
  · subst hy2;rw[JP hC d,hC]
  · rw[y7 d hy2]⟩
theorem zfV (id:Int)(ctx:ByteArray)(ks:Fo)(ca:Option Addr)(cn cc C:Nat)(hcn:cn=foLen ks)(hz:za ks≤400000)(hcnc:cn≤cc):∀(M:Nat) (w:World) (S:Nat→Prop) (v:Value) (t:Tr) (d:Bool),za t.kids<M→M≤400000→(∀q,S q→q<w.heap.size∧q≠C)→zk w S ks ca→zK w S v t→w.heap[C]? =some (.cells #[.int .i64 id,.slice ca cn cc,.string ctx,.bool d] 151 (0,0))→
 Calls Try.prog 94 #[.pointer (some ⟨C,0,none⟩),v] w (MkC id ctx ks d t C w):=by
 have HCN:=hH (aN hcn (aN hz hcnc))
 clear hcn hz hcnc
 intro M
 induction M with
 | zero=>intro w S v t d h;omega
 | succ M ih=>
   intro w S v t d hM hMb hS hk ht hC
   obtain⟨ka,cap,rfl,hcap,hkk⟩:=ht
   obtain⟨tid,tk,tx,kf⟩:=t
   simp only at hM hcap hkk ⊢
   obtain⟨len,hlen⟩:∃len,len=foLen kf:=⟨_,rfl⟩
   rw[←hlen]
   have hCw:C<w.heap.size:=lohQ hC
   by_cases hh:d=false∧tid=id
   · obtain⟨rfl,rfl⟩:=hh
     exact zej w S C tid tk ctx tx ks kf ka ca len cap cn cc hlen HCN.out.1 hk hS HCN.out.2.1 HCN.out.2.2 hC
   · have HMK:=hH (show mkT id ctx ks d ⟨tid,tk,tx,kf⟩=(⟨tid,tk,tx,(mkF id ctx ks d kf).1⟩,(mkF id ctx ks d kf).2) by rw[mkT,inQ hh])
     obtain⟨B,hB⟩:∃B,B=zx w [.cells #[.int .i64 tid,.int .i64 tk,.string tx,.slice ka len cap] 27,.cells #[.int .i64 0,.int .i64 0,.string ⟨#[]⟩,.slice none 0 0] 27,.cells #[.int .i64 tid,.int .i64 tk,.string tx,.slice none 0 0] 27]:=⟨_,rfl⟩
     have hb:Below w.heap.size w B:=by rw[hB];exact zl _ _
     have e0:B.heap[w.heap.size]? =some (.cells #[.int .i64 tid,.int .i64 tk,.string tx,.slice ka len cap] 27 (0,0)):=by rw[hB];exact ze _ _ 0 _ rfl
     have e1:B.heap[w.heap.size+1]? =some (.cells #[.int .i64 0,.int .i64 0,.string ⟨#[]⟩,.slice none 0 0] 27 (0,0)):=by rw[hB];exact ze _ _ 1 _ rfl
     have e2:B.heap[w.heap.size+1+1]? =some (.cells #[.int .i64 tid,.int .i64 tk,.string tx,.slice none 0 0] 27 (0,0)):=by rw[hB];exact ze _ _ 2 _ rfl
     have hCB:=(hb.block C hCw).trans hC
     obtain⟨p0,p1,p2,p3⟩:=zF e0
     obtain⟨k0,k1,k2,k3⟩:=zF hCB
     have HBE:=hH hB
     have HST:Hid (∀nq,zQ (atC w C d) #[.int .i64 tid,.int .i64 tk,.string tx,.slice ka len cap] tid tk tx (mkF id ctx ks d kf).1 0 (.slice none 0 0) [] (B.drewN nq)):=hH fun nq=>by
      have hbD:Below B.heap.size B (B.drewN nq):=below_drewN (BrQ _ _) _
      unfold zQ
      rw[yt]
      exact⟨(hbD.block _ (lohQ e0)).trans e0,(hbD.block _ (lohQ e1)).trans e1,(hbD.block _ (lohQ e2)).trans e2,zhg hC (hb.trans (hbD.mono hb.size)),World.ownsRow_nil _ _ _ _,rfl⟩
     have HH:=hH (aN hlen (aN hk (aN hS (aN hM (aN hMb (aN hC (aN hcap hkk)))))))
     have HIH:=hH ih
     have hgd:(d=true)∨(d=false∧(tid == id)=false):=by
      cases d
      · right;exact⟨rfl,by simpa using hh⟩
      · left;rfl
     clear hB hlen hk hS hM hMb hC hcap hkk hb e0 e1 e2 hCB ih hh
     go_enter Try.func94,Try.ntmps94
     go_upto_region 2 with fail
     change Code.wp _ _ _ _ (zx w [.cells #[.int .i64 tid,.int .i64 tk,.string tx,.slice ka len cap] 27,.cells #[.int .i64 0,.int .i64 0,.string ⟨#[]⟩,.slice none 0 0] 27,.cells #[.int .i64 tid,.int .i64 tk,.string tx,.slice none 0 0] 27])
     rw[←HBE.out]
     clear HBE
     rcases hgd with hgd | hgd
     focus (rw[hgd] at k3;clear hgd;go_upto_region 11 with (go_quiet (fail)))
     rotate_left
     focus (rw[hgd.1] at k3;have hne:=hgd.2;clear hgd;go_upto_region 11 with (go_quiet (fail));clear hne)
     all_goals
      have HI0:=hH (HST.out nq)
      obtain⟨D,hD⟩:∃D,D=B.drewN nq:=⟨_,rfl⟩
      rw[←hD]
      rw[←hD] at HI0
      clear hD p0 p1 p2 p3 k0 k1 k2 k3 HST
      go_wp2_with fail
      go_loopw [8] (fun i wr=>∃(k:Nat) (rv:Value) (xs:List Value) (dk:Bool),k≤len∧i= .int .i64 (k:Int)∧Hid (dk=(mkF id ctx ks d (zy k kf)).2∧zQ (atC w C dk) #[.int .i64 tid,.int .i64 tk,.string tx,.slice ka len cap] tid tk tx (mkF id ctx ks d kf).1 k rv xs wr)) (fun i _=>len - (intOf i).toNat)
      case atStart=>exact⟨0,_,_,d,NzlQ _,rfl,hH ⟨by cases kf<;>rfl,HI0.out⟩⟩
      case round=>
       obtain⟨k,rv,xs,dk,hk,rfl,hh⟩:=hrel
       obtain⟨wo,hwo⟩:∃wo,wo=wr:=⟨_,rfl⟩
       subst hwo
       have HI:=hH hh.out.2
       have HDK:=hH hh.out.1
       have hbx:=hh.out.2.1
       have hbl:=hh.out.2.2.2.2.1
       rw[yt] at hbx hbl
       have HBL:=hH hbl
       obtain⟨p0,p1,p2,p3⟩:=zF hbx
       by_cases hlt:k<len
       · have hCr:=(hbl.block C hCw).trans (JP HH.out.2.2.2.2.2.1 dk)
         have hkeep:∀q,S q→S q∧wo.heap[q]? =w.heap[q]?:=fun q hq=>⟨hq,(hbl.block q (HH.out.2.2.1 q hq).1).trans (y7 dk (HH.out.2.2.1 q hq).2)⟩
         have hk1:zk wo S kf ka:=HH.out.2.2.2.2.2.2.2.kept hkeep
         obtain⟨b0,o0,⟨ki,kk,kt⟩,l,r,hd1,b,off,a1,n1,rfl,hSb,c0,c1,c2,c3,hcp1,hl1⟩:=hk1.at k ud5
         obtain⟨_,_,_,_,_,e1,e2,hsz1,htk⟩:=yw k kf ud5
         rw[hd1] at e1;cases e1
         have hcall:=HIH.out wo S (.agg #[.int .i64 ki,.int .i64 kk,.string kt,.slice a1 (foLen l) n1]) ⟨ki,kk,kt,l⟩ dk (by have:=HH.out.2.2.2.1;simp only;omega) (by have:=HH.out.2.2.2.2.1;omega) (fun q hq=>⟨nL (HH.out.2.2.1 q hq).1 (by have:=hbl.size;rw[yt] at this;exact this),(HH.out.2.2.1 q hq).2⟩) (HH.out.2.1.kept hkeep) ⟨a1,n1,rfl,hcp1,hl1⟩ hCr
         unfold MkC at hcall
         obtain⟨r,hr⟩:∃r,r=mkT id ctx ks dk ⟨ki,kk,kt,l⟩:=⟨_,rfl⟩
         rw[←hr] at hcall
         have hmk:mkF id ctx ks d (zy (k+1) kf)=(qD (mkF id ctx ks d (zy k kf)).1 b0 o0 (r.1.id,r.1.kind,r.1.text) r.1.kids,r.2):=by rw[htk,zaw,←hh.out.1,←hr]
         obtain⟨⟨ri,rk,rt,rl⟩,dn⟩:=r
         simp only at hcall hmk
         have htk2:zy (k+1) (mkF id ctx ks d kf).1=qD (zy k (mkF id ctx ks d kf).1) b0 o0 (ri,rk,rt) rl:=by rw[zc1,hmk,zc1]
         have HDN:=hH (show dn=(mkF id ctx ks d (zy (k+1) kf)).2 by rw[hmk])
         have HX:=hH (ziY HH.out.2.2.2.2.2.1 dk dn HI.out)
         obtain⟨m0,hm0⟩:∃m,m=foLen l:=⟨_,rfl⟩
         rw[←hm0] at hcall c3
         obtain⟨m1,hm1⟩:∃m,m=foLen rl:=⟨_,rfl⟩
         simp only at c0 c1 c2
         have HC:=hH hcall
         have HM1:=hH hm1
         have HTK:=hH htk2
         have hkl:(k:Int)<(len:Int):=by omega
         have hk5:len≤400000:=by have:=zM kf;have:=HH.out.1;have:=HH.out.2.2.2.1;have:=HH.out.2.2.2.2.1;omega
         clear hk1 hd1 hcall hm1 hm0 htk htk2 hmk hr hl1 hsz1 hSb e2 hcp1 hh hbx hbl hCr hkeep HI0
         go_wp2_with fail
         refine HC.out.mono ?_
         rintro e w2 ⟨ka2,cap2,rfl,hcp2,hf2,hb2⟩
         rw[←yt wo C dn] at hb2
         replace hf2:zk w2 (kP (atC wo C dn) w2) rl ka2:=hf2.kept fun q hq=>⟨⟨by rw[yt];exact hq.1,hq.2⟩,rfl⟩
         have hi2:=HX.out.below hb2
         have hkid:=HX.out.kid hf2
         have hs2:=hi2.size
         have ho:=hi2.2.2.2.2.1
         rw[yt] at hs2 ho
         have hi22:=hi2.2.2.1
         rw[yt] at hi22
         simp only
         rw[←HM1.out]
         have d3:w2.cell? ⟨w.heap.size+1+1,3,none⟩=some rv:=by rw[corQ w2 _ 3 _ _ _ hi22];rfl
         have f3:w2.frozen? ⟨w.heap.size+1+1,3,none⟩=false:=forQ w2 _ 3 _ _ hi22
         obtain⟨i0,z0,hi0,hz0,hz1,hz2,hz3⟩:=zW Try.Qi
         have hnew:(((w2.alloc (.cells #[.int .i64 ri,.int .i64 rk,.string rt,.slice ka2 m1 cap2] 27)).alloc (.cells #[.int .i64 ri,.int .i64 rk,.string rt,.slice ka2 m1 cap2] 27)).heap[w2.heap.size+1]? =some (.cells #[.int .i64 ri,.int .i64 rk,.string rt,.slice ka2 m1 cap2] 27 (0,0))):=by
          have:=hanQ (w2.alloc (.cells #[.int .i64 ri,.int .i64 rk,.string rt,.slice ka2 m1 cap2] 27)) (.cells #[.int .i64 ri,.int .i64 rk,.string rt,.slice ka2 m1 cap2] 27)
          simpa using this
         have HNEW:=hH hnew
         clear hnew
         have hB:w.heap.size+3≤w2.heap.size:=by omega
         have hstep:=fun w1 gg cap' h1 h2 h3=>hi2.step (hkc:=hcp2) (w1:=w1) (gg:=gg) (cap:=cap') (kc:=cap2) (o1:= .cells #[.int .i64 ri,.int .i64 rk,.string rt,.slice ka2 m1 cap2] 27) (o2:= .cells #[.int .i64 ri,.int .i64 rk,.string rt,.slice ka2 m1 cap2] 27) hkid HTK.out h1 h2 h3
         rw[←HM1.out,yt] at hstep
         have HST:=hH hstep
         have hne:rv.ownBlock≠some (w.heap.size+1+1):=fun e=>by have:=(zi ho e).1;omega
         have hlt2:(⟨w.heap.size+1+1,3,none⟩:Addr).block<((w2.alloc (.cells #[.int .i64 ri,.int .i64 rk,.string rt,.slice ka2 m1 cap2] 27)).alloc (.cells #[.int .i64 ri,.int .i64 rk,.string rt,.slice ka2 m1 cap2] 27)).heap.size:=by simp;omega
         have hheap:((w2.alloc (.cells #[.int .i64 ri,.int .i64 rk,.string rt,.slice ka2 m1 cap2] 27)).alloc (.cells #[.int .i64 ri,.int .i64 rk,.string rt,.slice ka2 m1 cap2] 27)).heap[w.heap.size+1+1]? =w2.heap[w.heap.size+1+1]?:=by rw[BhaQ _ _ _ ue6,BhaQ _ _ _ hs2]
         have HAUX:=hH (aN hne (aN hlt2 (aN ((World.cell?_of_block (a:=⟨w.heap.size+1+1,3,none⟩) hheap).trans d3) ((World.frozen?_of_block (a:=⟨w.heap.size+1+1,3,none⟩) hheap).trans f3))))
         clear hi2 hi22 hkid hf2 hb2 hstep hne hlt2 hheap f3 hcp2
         go_wp2_with (at_builtin;refine wpList_append_lies _ rfl (.tmp 78) (.tmp 80) _ rfl (w.heap.size+3) 27 i0 z0 4 56 Try.underlying25 hi0 hz0 hz1 hz2 hz3 om rv k xs rfl ((ho.alloc _).alloc _) ⟨w2.heap.size+1,0,none⟩ 1 1 [.int .i64 ri,.int .i64 rk,.string rt,.slice ka2 m1 cap2] rfl rfl (World.news_of_block (cs:= #[.int .i64 ri,.int .i64 rk,.string rt,.slice ka2 m1 cap2]) (t:=27) (fr:=(0,0)) HNEW.out) ue0 om ue1 om ue6 (w2.heap.size+1+1) sp1 ?_;intro gg cap' w1 hown1 hgrow hat hlt1;have c1w:=(hgrow.cell_far _ HAUX.out.2.1 (Ne.symm HAUX.out.1)).trans HAUX.out.2.2.1;have f1w:=(hgrow.frozen_far _ HAUX.out.2.1 (Ne.symm HAUX.out.1)).trans HAUX.out.2.2.2)
         exact⟨⟨k+1,_,_,dn,by omega,by go_num,hH ⟨HDN.out,HST.out _ _ _ hown1 hgrow hat⟩⟩,by simp[intOf];omega⟩
       · have hkk:k=len:=by omega
         have hi:=hh.out.2
         obtain⟨ra,qj,rfl,hrc⟩:=vV hi.2.2.2.2.1
         have hi1:=hi.2.1
         have hi22:=hi.2.2.1
         rw[yt] at hi1 hi22
         obtain⟨q0,q1,q2,q3⟩:=zF hi22
         obtain⟨z0,z1,z2,z3⟩:=zF hi1
         have gz:∀j,wo.frozen? ⟨w.heap.size+1,j,none⟩=false:=fun j=>forQ _ _ j _ _ hi1
         have hkl:¬(k:Int)<(len:Int):=by omega
         have HZ:=hH (zX hi1 (.int .i64 tid) (.int .i64 tk) (.string tx) (.slice ra k qj))
         have HLK:=hH (aN (show k=foLen (mkF id ctx ks d kf).1 by rw[zb8,hkk,HH.out.1]) (aN hrc (show dk=(mkF id ctx ks d kf).2 by rw[HDK.out,qK k kf (by rw[hkk,HH.out.1];exact NlrQ _)])))
         clear hi hi1 hi22 hh hkk hrc hlt hk hbx hbl HI0
         go_wp2_with fail
         refine brQ (results_cell_row rfl _ _ (w.heap.size+1) 27 _ _ _ rfl HZ.out.1 Try.underlying27 rfl kr1) rfl ?_
         have hdone:=HI.out.done HLK.out.1 HLK.out.2.1 (HZ.out.2.1 _ (by rw[yt];omega)) (by rw[yt];exact HZ.out.2.2)
         obtain⟨_,he,⟨va,vc,rfl,hvc,hvf⟩,hb⟩:=hdone.weak
         rw[yt] at hb
         refine⟨va,vc,by rw[HMK.out];exact he,by rw[HMK.out];exact hvc,?_,?_⟩
         · rw[HMK.out];exact hvf.kept fun q hq=>⟨⟨by have:=hq.1;rw[yt] at this;exact this,hq.2⟩,rfl⟩
         · rw[HMK.out,←HLK.out.2.2];exact hb
def zcu (r:Tr)(w:World)(e:Ending)(w' :World):Prop:=∃va vc,e= .returned (.agg #[.int .i64 r.id,.int .i64 r.kind,.string r.text,.slice va (foLen r.kids) vc])∧foLen r.kids≤vc∧zk w' (kP w w') r.kids va∧Below w.heap.size w w'
theorem Q5 (w:World)(S:Nat→Prop)(id:Int)(ctx:ByteArray)(ks:Fo)(ca:Option Addr)(cn cc:Nat)(v:Value)(t:Tr)(hcn:cn=foLen ks)(hz:za ks≤400000)(hcc:cn≤cc)(ht:za t.kids<400000)(hS:∀q,S q→q<w.heap.size)(hk:zk w S ks ca)(hv:zK w S v t):
 Calls Try.prog 61 #[v,.int .i64 id,.slice ca cn cc,.string ctx] w (zcu (mkT id ctx ks false t).1 w):=by
 obtain⟨ka,cap,rfl,hcap,hkk⟩:=hv
 obtain⟨len,hlen⟩:∃len,len=foLen t.kids:=⟨_,rfl⟩
 obtain⟨B,hB⟩:∃B,B=zx w [.cells #[.int .i64 t.id,.int .i64 t.kind,.string t.text,.slice ka len cap] 27,.cells #[.int .i64 0,.int .i64 0,.string ⟨#[]⟩,.slice none 0 0] 27,.cells #[.int .i64 id,.slice ca cn cc,.string ctx,.bool false] 151]:=⟨_,rfl⟩
 have hb:Below w.heap.size w B:=by rw[hB];exact zl _ _
 have e0:B.heap[w.heap.size]? =some (.cells #[.int .i64 t.id,.int .i64 t.kind,.string t.text,.slice ka len cap] 27 (0,0)):=by rw[hB];exact ze _ _ 0 _ rfl
 have e1:B.heap[w.heap.size+1]? =some (.cells #[.int .i64 0,.int .i64 0,.string ⟨#[]⟩,.slice none 0 0] 27 (0,0)):=by rw[hB];exact ze _ _ 1 _ rfl
 have e2:B.heap[w.heap.size+1+1]? =some (.cells #[.int .i64 id,.slice ca cn cc,.string ctx,.bool false] 151 (0,0)):=by rw[hB];exact ze _ _ 2 _ rfl
 have hkeep:∀q,S q→S q∧B.heap[q]? =w.heap[q]?:=fun q hq=>⟨hq,hb.block q (hS q hq)⟩
 have hc:=zfV id ctx ks ca cn cc (w.heap.size+1+1) hcn hz hcc 400000 B S (.agg #[.int .i64 t.id,.int .i64 t.kind,.string t.text,.slice ka (foLen t.kids) cap]) t false ht (NlrQ _) (fun q hq=>⟨nL (hS q hq) hb.size,by have:=hS q hq;omega⟩) (hk.kept hkeep) ⟨ka,cap,rfl,hcap,hkk.kept hkeep⟩ e2
 unfold MkC at hc
 obtain⟨r,hr⟩:∃r,r=mkT id ctx ks false t:=⟨_,rfl⟩
 rw[←hr,←hlen] at hc
 rw[←hr,←hlen]
 obtain⟨⟨ri,rk,rt,rl⟩,dn⟩:=r
 simp only at hc ⊢
 obtain⟨m,hm⟩:∃m,m=foLen rl:=⟨_,rfl⟩
 have HM:=hH hm
 have HC:=hH hc
 have HB:=hH (aN hb (aN e0 (aN e1 e2)))
 have HBE:=hH hB
 obtain⟨p0,p1,p2,p3⟩:=zF e0
 clear hcn hz hcc ht hS hk hcap hkk hlen hB hb e0 e1 e2 hkeep hc hr hm
 go_enter Try.func61,Try.ntmps61
 go_upto_region 2 with fail
 change Code.wp _ _ _ _ (zx w [.cells #[.int .i64 t.id,.int .i64 t.kind,.string t.text,.slice ka len cap] 27,.cells #[.int .i64 0,.int .i64 0,.string ⟨#[]⟩,.slice none 0 0] 27,.cells #[.int .i64 id,.slice ca cn cc,.string ctx,.bool false] 151])
 rw[←HBE.out]
 clear HBE
 go_wp2_with fail
 refine HC.out.mono ?_
 rintro e W ⟨va,vc,rfl,hvc,hvf,hb2⟩
 rw[←HM.out] at hvc ⊢
 have hB3:B.heap.size≤W.heap.size:=by have:=hb2.size;rw[yt] at this;exact this
 have hbw:Below w.heap.size w W:=⟨hb2.os.trans HB.out.1.os,hb2.tape.trans HB.out.1.tape,hb2.output.trans HB.out.1.output,NltQ HB.out.1.size hB3,fun y hy=>(hb2.block y (nL hy HB.out.1.size)).trans ((y7 dn om).trans (HB.out.1.block y hy))⟩
 have f1:=(hb2.block _ (lohQ HB.out.2.2.1)).trans ((y7 dn om).trans HB.out.2.2.1)
 obtain⟨z0,z1,z2,z3⟩:=zF f1
 have gz:∀j,W.frozen? ⟨w.heap.size+1,j,none⟩=false:=fun j=>forQ _ _ j _ _ f1
 have HZ:=hH (zX f1 (.int .i64 ri) (.int .i64 rk) (.string rt) (.slice va m vc))
 have HW:=hH (aN hvc (aN hvf (aN hbw (lohQ HB.out.2.2.1))))
 clear hvc hvf hb2 hB3 hbw f1 p0 p1 p2 p3
 go_wp2_with fail
 refine brQ (results_cell_row rfl _ _ (w.heap.size+1) 27 _ _ _ rfl HZ.out.1 Try.underlying27 rfl kr1) rfl ?_
 have hs:=(HZ.out.2.1 w.heap.size om).size
 exact⟨va,vc,by rw[←HM.out],by rw[←HM.out];exact HW.out.1,HW.out.2.1.kept fun q hq=>⟨⟨by have:=hq.1;have:=HW.out.2.2.2;omega,nL hq.2 hs⟩,HZ.out.2.2 q (by have:=hq.1;have:=HW.out.2.2.2;omega)⟩,HW.out.2.2.1.trans (HZ.out.2.1 _ om)⟩
end Go.Proofs.Ytnikgofkldkdkaa
