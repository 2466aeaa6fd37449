/-
  .
-/
import Derived.Test.YtoidedomenkbpaaGreatWOverNQs
set_option maxRecDepth 100000
set_option maxHeartbeats 40000000
namespace Go.Proofs.YtoidedomenkbpaaGreat
open Go.RowKit Go.Shelf
set_option linter.unusedVariables false
set_option linter.unusedSimpArgs false
theorem Y0 (x y:Operand)(xs ys:Array Value)(Y:World):(eqGuard .eql 91 x y (.agg xs) (.agg ys)).run Tryz.prog Y= .ok () Y:=run_eqGuard_agg (P:=Tryz.prog) (w:=Y) .eql 91 x y xs ys kr1
theorem vv (X:World)(a0 a1 a2 a3 a4 a5 a6 a7 a8 a9 a10 ai ak:Int)(sa ar:Option Addr)(an ac am ad:Nat)(aw:ByteArray)(b0 b1 b2 b3 b4 b5 b6 b7 b8 b9 b10 bi bk:Int)(sb_ br:Option Addr)(bn bc bm bd:Nat)(bw:ByteArray)(sb tb:Bool)(hka:IntKind.i64.wrap a0=a0)(hkb:IntKind.i64.wrap b0=b0)
 (hs:∀Y,Below X.heap.size X Y→Calls Tryz.prog 62 #[.slice sa an ac,.slice sb_ bn bc] Y (fun e Z=>e= .returned (.bool sb)∧Below Y.heap.size Y Z))
 (ht:∀Y,Below X.heap.size X Y→Calls Tryz.prog 63 #[.agg #[.int .i64 ai,.int .i64 ak,.string aw,.slice ar am ad],.agg #[.int .i64 bi,.int .i64 bk,.string bw,.slice br bm bd]] Y (fun e Z=>e= .returned (.bool tb)∧Below Y.heap.size Y Z)):
 Calls Tryz.prog 24 #[.agg #[.int .i8 a0,.int .i64 a1,.int .i64 a2,.int .i64 a3,.int .i64 a4,.int .i64 a5,.int .i64 a6,.int .i64 a7,.int .i64 a8,.int .i64 a9,.int .i64 a10,.slice sa an ac,.int .i64 ai,.int .i64 ak,.string aw,.slice ar am ad],.agg #[.int .i8 b0,.int .i64 b1,.int .i64 b2,.int .i64 b3,.int .i64 b4,.int .i64 b5,.int .i64 b6,.int .i64 b7,.int .i64 b8,.int .i64 b9,.int .i64 b10,.slice sb_ bn bc,.int .i64 bi,.int .i64 bk,.string bw,.slice br bm bd]] X (fun e Z=>e= .returned (.bool (yz ⟨a0,a1,a2,a3,a4,a5,a6,a7,a8,a9,a10⟩ ⟨b0,b1,b2,b3,b4,b5,b6,b7,b8,b9,b10⟩ && (sb && tb)))∧Below X.heap.size X Z):=by
 obtain⟨W,hW⟩:∃W,W=zU X [.cells #[.int .i8 a0,.int .i64 a1,.int .i64 a2,.int .i64 a3,.int .i64 a4,.int .i64 a5,.int .i64 a6,.int .i64 a7,.int .i64 a8,.int .i64 a9,.int .i64 a10,.slice sa an ac,.int .i64 ai,.int .i64 ak,.string aw,.slice ar am ad] 37,.cells #[.int .i8 b0,.int .i64 b1,.int .i64 b2,.int .i64 b3,.int .i64 b4,.int .i64 b5,.int .i64 b6,.int .i64 b7,.int .i64 b8,.int .i64 b9,.int .i64 b10,.slice sb_ bn bc,.int .i64 bi,.int .i64 bk,.string bw,.slice br bm bd] 37]:=⟨_,rfl⟩
 have hb:Below X.heap.size X W:=by rw[hW];exact zR _ _
 have e0:W.heap[X.heap.size]? =some (.cells #[.int .i8 a0,.int .i64 a1,.int .i64 a2,.int .i64 a3,.int .i64 a4,.int .i64 a5,.int .i64 a6,.int .i64 a7,.int .i64 a8,.int .i64 a9,.int .i64 a10,.slice sa an ac,.int .i64 ai,.int .i64 ak,.string aw,.slice ar am ad] 37 (0,0)):=by rw[hW];exact zD _ _ 0 _ rfl
 have e1:W.heap[X.heap.size+1]? =some (.cells #[.int .i8 b0,.int .i64 b1,.int .i64 b2,.int .i64 b3,.int .i64 b4,.int .i64 b5,.int .i64 b6,.int .i64 b7,.int .i64 b8,.int .i64 b9,.int .i64 b10,.slice sb_ bn bc,.int .i64 bi,.int .i64 bk,.string bw,.slice br bm bd] 37 (0,0)):=by rw[hW];exact zD _ _ 1 _ rfl
 obtain⟨SW,hSW⟩:∃SW:World→Prop,SW=fun Y=>Below W.heap.size W Y:=⟨_,rfl⟩
 have HA:=hH (fun (Y:World) (h:SW Y)=>(show Y.cell? ⟨X.heap.size,0,none⟩=some (.int .i8 a0)∧Y.cell? ⟨X.heap.size,1,none⟩=some (.int .i64 a1)∧Y.cell? ⟨X.heap.size,2,none⟩=some (.int .i64 a2)∧Y.cell? ⟨X.heap.size,3,none⟩=some (.int .i64 a3)∧Y.cell? ⟨X.heap.size,4,none⟩=some (.int .i64 a4)∧Y.cell? ⟨X.heap.size,5,none⟩=some (.int .i64 a5)∧Y.cell? ⟨X.heap.size,6,none⟩=some (.int .i64 a6)∧Y.cell? ⟨X.heap.size,7,none⟩=some (.int .i64 a7)∧Y.cell? ⟨X.heap.size,8,none⟩=some (.int .i64 a8)∧Y.cell? ⟨X.heap.size,9,none⟩=some (.int .i64 a9)∧Y.cell? ⟨X.heap.size,10,none⟩=some (.int .i64 a10)∧Y.cell? ⟨X.heap.size,11,none⟩=some (.slice sa an ac)∧Y.cell? ⟨X.heap.size,12,none⟩=some (.int .i64 ai)∧Y.cell? ⟨X.heap.size,13,none⟩=some (.int .i64 ak)∧Y.cell? ⟨X.heap.size,14,none⟩=some (.string aw)∧Y.cell? ⟨X.heap.size,15,none⟩=some (.slice ar am ad) by
  rw[hSW] at h
  have e:=(h.block _ (lohQ e0)).trans e0
  exact⟨by rw[corQ _ _ 0 _ _ _ e];rfl,by rw[corQ _ _ 1 _ _ _ e];rfl,by rw[corQ _ _ 2 _ _ _ e];rfl,by rw[corQ _ _ 3 _ _ _ e];rfl,by rw[corQ _ _ 4 _ _ _ e];rfl,by rw[corQ _ _ 5 _ _ _ e];rfl,by rw[corQ _ _ 6 _ _ _ e];rfl,by rw[corQ _ _ 7 _ _ _ e];rfl,by rw[corQ _ _ 8 _ _ _ e];rfl,by rw[corQ _ _ 9 _ _ _ e];rfl,by rw[corQ _ _ 10 _ _ _ e];rfl,by rw[corQ _ _ 11 _ _ _ e];rfl,by rw[corQ _ _ 12 _ _ _ e];rfl,by rw[corQ _ _ 13 _ _ _ e];rfl,by rw[corQ _ _ 14 _ _ _ e];rfl,by rw[corQ _ _ 15 _ _ _ e];rfl⟩))
 have HB:=hH (fun (Y:World) (h:SW Y)=>(show Y.cell? ⟨X.heap.size+1,0,none⟩=some (.int .i8 b0)∧Y.cell? ⟨X.heap.size+1,1,none⟩=some (.int .i64 b1)∧Y.cell? ⟨X.heap.size+1,2,none⟩=some (.int .i64 b2)∧Y.cell? ⟨X.heap.size+1,3,none⟩=some (.int .i64 b3)∧Y.cell? ⟨X.heap.size+1,4,none⟩=some (.int .i64 b4)∧Y.cell? ⟨X.heap.size+1,5,none⟩=some (.int .i64 b5)∧Y.cell? ⟨X.heap.size+1,6,none⟩=some (.int .i64 b6)∧Y.cell? ⟨X.heap.size+1,7,none⟩=some (.int .i64 b7)∧Y.cell? ⟨X.heap.size+1,8,none⟩=some (.int .i64 b8)∧Y.cell? ⟨X.heap.size+1,9,none⟩=some (.int .i64 b9)∧Y.cell? ⟨X.heap.size+1,10,none⟩=some (.int .i64 b10)∧Y.cell? ⟨X.heap.size+1,11,none⟩=some (.slice sb_ bn bc)∧Y.cell? ⟨X.heap.size+1,12,none⟩=some (.int .i64 bi)∧Y.cell? ⟨X.heap.size+1,13,none⟩=some (.int .i64 bk)∧Y.cell? ⟨X.heap.size+1,14,none⟩=some (.string bw)∧Y.cell? ⟨X.heap.size+1,15,none⟩=some (.slice br bm bd) by
  rw[hSW] at h
  have e:=(h.block _ (lohQ e1)).trans e1
  exact⟨by rw[corQ _ _ 0 _ _ _ e];rfl,by rw[corQ _ _ 1 _ _ _ e];rfl,by rw[corQ _ _ 2 _ _ _ e];rfl,by rw[corQ _ _ 3 _ _ _ e];rfl,by rw[corQ _ _ 4 _ _ _ e];rfl,by rw[corQ _ _ 5 _ _ _ e];rfl,by rw[corQ _ _ 6 _ _ _ e];rfl,by rw[corQ _ _ 7 _ _ _ e];rfl,by rw[corQ _ _ 8 _ _ _ e];rfl,by rw[corQ _ _ 9 _ _ _ e];rfl,by rw[corQ _ _ 10 _ _ _ e];rfl,by rw[corQ _ _ 11 _ _ _ e];rfl,by rw[corQ _ _ 12 _ _ _ e];rfl,by rw[corQ _ _ 13 _ _ _ e];rfl,by rw[corQ _ _ 14 _ _ _ e];rfl,by rw[corQ _ _ 15 _ _ _ e];rfl⟩))
 have HT:=hH (fun (Y Z:World) (h:SW Y) (k:Below Y.heap.size Y Z)=>(show SW Z by
  rw[hSW] at h ⊢
  exact h.trans (k.mono h.size)))
 have HBW:=hH (fun (Y:World) (h:SW Y)=>(show Below X.heap.size X Y by
  rw[hSW] at h
  exact hb.trans (h.mono hb.size)))
 have HBW0:=hH (aN hW (show SW W.drew by rw[hSW];exact qW (BrQ _ _) 1))
 have HSS:=hH (fun (Y:World) (h:SW Y)=>hs Y (HBW.out Y h))
 have HTT:=hH (fun (Y:World) (h:SW Y)=>ht Y (HBW.out Y h))
 have HNA:=hH (fun (Y:World) (_:SW Y)=>Jq Y a0 a1 a2 a3 a4 a5 a6 a7 a8 a9 a10 sa an ac ai ak aw ar am ad hka)
 have HNB:=hH (fun (Y:World) (_:SW Y)=>Jq Y b0 b1 b2 b3 b4 b5 b6 b7 b8 b9 b10 sb_ bn bc bi bk bw br bm bd hkb)
 clear hs ht hka hkb hSW e0 e1 hb hW
 cases hnb:yz ⟨a0,a1,a2,a3,a4,a5,a6,a7,a8,a9,a10⟩ ⟨b0,b1,b2,b3,b4,b5,b6,b7,b8,b9,b10⟩
 · have HE:=hH (fun (Y:World)=>(show (binOp .eql 91 (.agg #[.int .i64 a0,.int .i64 a1,.int .i64 a2,.int .i64 a3,.int .i64 a4,.int .i64 a5,.int .i64 a6,.int .i64 a7,.int .i64 a8,.int .i64 a9,.int .i64 a10]) (.agg #[.int .i64 b0,.int .i64 b1,.int .i64 b2,.int .i64 b3,.int .i64 b4,.int .i64 b5,.int .i64 b6,.int .i64 b7,.int .i64 b8,.int .i64 b9,.int .i64 b10])).run Tryz.prog Y= .ok (.bool false) Y by rw[J9,hnb]))
   clear hnb
   go_enter Tryz.func24,Tryz.ntmps24
   go_upto_region 1 with fail
   change Code.wp _ _ _ _ (zU X [.cells #[.int .i8 a0,.int .i64 a1,.int .i64 a2,.int .i64 a3,.int .i64 a4,.int .i64 a5,.int .i64 a6,.int .i64 a7,.int .i64 a8,.int .i64 a9,.int .i64 a10,.slice sa an ac,.int .i64 ai,.int .i64 ak,.string aw,.slice ar am ad] 37,.cells #[.int .i8 b0,.int .i64 b1,.int .i64 b2,.int .i64 b3,.int .i64 b4,.int .i64 b5,.int .i64 b6,.int .i64 b7,.int .i64 b8,.int .i64 b9,.int .i64 b10,.slice sb_ bn bc,.int .i64 bi,.int .i64 bk,.string bw,.slice br bm bd] 37])
   rw[←HBW0.out.1]
   refine wrhQ (S:=SW) kr1 HBW0.out.2 (fun eH=>?_)
   refine tJ (i:=0) (.agg #[.int .i8 a0,.int .i64 a1,.int .i64 a2,.int .i64 a3,.int .i64 a4,.int .i64 a5,.int .i64 a6,.int .i64 a7,.int .i64 a8,.int .i64 a9,.int .i64 a10,.slice sa an ac,.int .i64 ai,.int .i64 ak,.string aw,.slice ar am ad]) rfl ?_ ?_
   · exact ub0
   simp only[Act.put,pg]
   refine tJ (i:=2) (.agg #[.int .i8 b0,.int .i64 b1,.int .i64 b2,.int .i64 b3,.int .i64 b4,.int .i64 b5,.int .i64 b6,.int .i64 b7,.int .i64 b8,.int .i64 b9,.int .i64 b10,.slice sb_ bn bc,.int .i64 bi,.int .i64 bk,.string bw,.slice br bm bd]) rfl ?_ ?_
   · exact ub1
   simp only[Act.put,pg]
   refine rd1 [1] ?_
   refine AcQ (o:=_) rfl (fun K hK=>?_) AnQ
   rw[ipQ ue1]
   simp only[pg3]
   have HK:=hH hK
   have HS:=hH eH
   clear hK eH
   go_wp2_with fail
   refine (HNA.out _ HS.out).mono ?_
   rintro e Z ⟨rfl,hz⟩
   have hSZ:SW Z:=HT.out _ _ HS.out hz
   clear hz
   go_wp2_with fail
   refine HK.out _ _ hSZ (fun eH=>?_)
   clear HK HS hSZ
   refine rd1 [3] ?_
   refine AcQ (o:=_) rfl (fun K hK=>?_) AnQ
   rw[ipQ ue1]
   simp only[pg3]
   have HK:=hH hK
   have HS:=hH eH
   clear hK eH
   go_wp2_with fail
   refine (HNB.out _ HS.out).mono ?_
   rintro e Z ⟨rfl,hz⟩
   have hSZ:SW Z:=HT.out _ _ HS.out hz
   clear hz
   go_wp2_with fail
   refine HK.out _ _ hSZ (fun eH=>?_)
   clear HK HS hSZ
   refine tJ (i:=4) (.bool false) rfl ?_ ?_
   · exact ub2
   simp only[Act.put,pg]
   refine tJ (i:=5) (.bool false) rfl ?_ ?_
   · clear eH;intro Y hSw;clear hSw;go_simp
   simp only[Act.put,pg]
   refine wpAnyH_take (i:=6) (oi:=_) (v:=undef) rfl kr1 kr1 kr1 (fun _ _ _ h=>h) (Or.inr ⟨by rfl,rfl⟩) ud9 ?_
   simp only[Act.put,pg]
   refine wpAnyH_take (i:=7) (oi:=_) (v:=undef) rfl kr1 kr1 kr1 (fun _ _ _ h=>h) (Or.inr ⟨by rfl,rfl⟩) ud9 ?_
   simp only[Act.put,pg]
   refine wpAnyH_take (i:=8) (oi:=_) (v:=undef) rfl kr1 kr1 kr1 (fun _ _ _ h=>h) (Or.inr ⟨by rfl,rfl⟩) ud9 ?_
   simp only[Act.put,pg]
   refine wpAnyH_take (i:=9) (oi:=_) (v:=undef) rfl kr1 kr1 kr1 (fun _ _ _ h=>h) (Or.inr ⟨by rfl,rfl⟩) ud9 ?_
   simp only[Act.put,pg]
   refine wpAnyH_take (i:=10) (oi:=_) (v:=undef) rfl kr1 kr1 kr1 (fun _ _ _ h=>h) (Or.inr ⟨by rfl,rfl⟩) ud9 ?_
   simp only[Act.put,pg]
   exact sb0
 · cases hsb:sb
   · have HE:=hH (fun (Y:World)=>(show (binOp .eql 91 (.agg #[.int .i64 a0,.int .i64 a1,.int .i64 a2,.int .i64 a3,.int .i64 a4,.int .i64 a5,.int .i64 a6,.int .i64 a7,.int .i64 a8,.int .i64 a9,.int .i64 a10]) (.agg #[.int .i64 b0,.int .i64 b1,.int .i64 b2,.int .i64 b3,.int .i64 b4,.int .i64 b5,.int .i64 b6,.int .i64 b7,.int .i64 b8,.int .i64 b9,.int .i64 b10])).run Tryz.prog Y= .ok (.bool true) Y by rw[J9,hnb]))
     rw[hsb] at HSS
     clear hnb hsb
     go_enter Tryz.func24,Tryz.ntmps24
     go_upto_region 1 with fail
     change Code.wp _ _ _ _ (zU X [.cells #[.int .i8 a0,.int .i64 a1,.int .i64 a2,.int .i64 a3,.int .i64 a4,.int .i64 a5,.int .i64 a6,.int .i64 a7,.int .i64 a8,.int .i64 a9,.int .i64 a10,.slice sa an ac,.int .i64 ai,.int .i64 ak,.string aw,.slice ar am ad] 37,.cells #[.int .i8 b0,.int .i64 b1,.int .i64 b2,.int .i64 b3,.int .i64 b4,.int .i64 b5,.int .i64 b6,.int .i64 b7,.int .i64 b8,.int .i64 b9,.int .i64 b10,.slice sb_ bn bc,.int .i64 bi,.int .i64 bk,.string bw,.slice br bm bd] 37])
     rw[←HBW0.out.1]
     refine wrhQ (S:=SW) kr1 HBW0.out.2 (fun eH=>?_)
     refine tJ (i:=0) (.agg #[.int .i8 a0,.int .i64 a1,.int .i64 a2,.int .i64 a3,.int .i64 a4,.int .i64 a5,.int .i64 a6,.int .i64 a7,.int .i64 a8,.int .i64 a9,.int .i64 a10,.slice sa an ac,.int .i64 ai,.int .i64 ak,.string aw,.slice ar am ad]) rfl ?_ ?_
     · exact ub0
     simp only[Act.put,pg]
     refine tJ (i:=2) (.agg #[.int .i8 b0,.int .i64 b1,.int .i64 b2,.int .i64 b3,.int .i64 b4,.int .i64 b5,.int .i64 b6,.int .i64 b7,.int .i64 b8,.int .i64 b9,.int .i64 b10,.slice sb_ bn bc,.int .i64 bi,.int .i64 bk,.string bw,.slice br bm bd]) rfl ?_ ?_
     · exact ub1
     simp only[Act.put,pg]
     refine rd1 [1] ?_
     refine AcQ (o:=_) rfl (fun K hK=>?_) AnQ
     rw[ipQ ue1]
     simp only[pg3]
     have HK:=hH hK
     have HS:=hH eH
     clear hK eH
     go_wp2_with fail
     refine (HNA.out _ HS.out).mono ?_
     rintro e Z ⟨rfl,hz⟩
     have hSZ:SW Z:=HT.out _ _ HS.out hz
     clear hz
     go_wp2_with fail
     refine HK.out _ _ hSZ (fun eH=>?_)
     clear HK HS hSZ
     refine rd1 [3] ?_
     refine AcQ (o:=_) rfl (fun K hK=>?_) AnQ
     rw[ipQ ue1]
     simp only[pg3]
     have HK:=hH hK
     have HS:=hH eH
     clear hK eH
     go_wp2_with fail
     refine (HNB.out _ HS.out).mono ?_
     rintro e Z ⟨rfl,hz⟩
     have hSZ:SW Z:=HT.out _ _ HS.out hz
     clear hz
     go_wp2_with fail
     refine HK.out _ _ hSZ (fun eH=>?_)
     clear HK HS hSZ
     refine tJ (i:=4) (.bool true) rfl ?_ ?_
     · exact ub2
     simp only[Act.put,pg]
     refine tJ (i:=5) (.bool true) rfl ?_ ?_
     · clear eH;intro Y hSw;clear hSw;go_simp
     simp only[Act.put,pg]
     refine tJ (i:=6) (.pointer (some ⟨X.heap.size,11,none⟩)) rfl ?_ ?_
     · clear eH;intro Y hSw;clear hSw;go_simp
     simp only[Act.put,pg]
     refine tJ (i:=7) (.slice sa an ac) rfl ?_ ?_
     · exact ub0
     simp only[Act.put,pg]
     refine tJ (i:=8) (.pointer (some ⟨X.heap.size+1,11,none⟩)) rfl ?_ ?_
     · clear eH;intro Y hSw;clear hSw;go_simp
     simp only[Act.put,pg]
     refine tJ (i:=9) (.slice sb_ bn bc) rfl ?_ ?_
     · exact ub1
     simp only[Act.put,pg]
     refine rd1 [10] ?_
     refine AcQ (o:=_) rfl (fun K hK=>?_) AnQ
     rw[ipQ ue1]
     simp only[pg3]
     have HK:=hH hK
     have HS:=hH eH
     clear hK eH
     go_wp2_with fail
     refine (HSS.out _ HS.out).mono ?_
     rintro e Z ⟨rfl,hz⟩
     have hSZ:SW Z:=HT.out _ _ HS.out hz
     clear hz
     go_wp2_with fail
     refine HK.out _ _ hSZ (fun eH=>?_)
     clear HK HS hSZ
     exact sb0
   · have HE:=hH (fun (Y:World)=>(show (binOp .eql 91 (.agg #[.int .i64 a0,.int .i64 a1,.int .i64 a2,.int .i64 a3,.int .i64 a4,.int .i64 a5,.int .i64 a6,.int .i64 a7,.int .i64 a8,.int .i64 a9,.int .i64 a10]) (.agg #[.int .i64 b0,.int .i64 b1,.int .i64 b2,.int .i64 b3,.int .i64 b4,.int .i64 b5,.int .i64 b6,.int .i64 b7,.int .i64 b8,.int .i64 b9,.int .i64 b10])).run Tryz.prog Y= .ok (.bool true) Y by rw[J9,hnb]))
     rw[hsb] at HSS
     clear hnb hsb
     go_enter Tryz.func24,Tryz.ntmps24
     go_upto_region 1 with fail
     change Code.wp _ _ _ _ (zU X [.cells #[.int .i8 a0,.int .i64 a1,.int .i64 a2,.int .i64 a3,.int .i64 a4,.int .i64 a5,.int .i64 a6,.int .i64 a7,.int .i64 a8,.int .i64 a9,.int .i64 a10,.slice sa an ac,.int .i64 ai,.int .i64 ak,.string aw,.slice ar am ad] 37,.cells #[.int .i8 b0,.int .i64 b1,.int .i64 b2,.int .i64 b3,.int .i64 b4,.int .i64 b5,.int .i64 b6,.int .i64 b7,.int .i64 b8,.int .i64 b9,.int .i64 b10,.slice sb_ bn bc,.int .i64 bi,.int .i64 bk,.string bw,.slice br bm bd] 37])
     rw[←HBW0.out.1]
     refine wrhQ (S:=SW) kr1 HBW0.out.2 (fun eH=>?_)
     refine tJ (i:=0) (.agg #[.int .i8 a0,.int .i64 a1,.int .i64 a2,.int .i64 a3,.int .i64 a4,.int .i64 a5,.int .i64 a6,.int .i64 a7,.int .i64 a8,.int .i64 a9,.int .i64 a10,.slice sa an ac,.int .i64 ai,.int .i64 ak,.string aw,.slice ar am ad]) rfl ?_ ?_
     · exact ub0
     simp only[Act.put,pg]
     refine tJ (i:=2) (.agg #[.int .i8 b0,.int .i64 b1,.int .i64 b2,.int .i64 b3,.int .i64 b4,.int .i64 b5,.int .i64 b6,.int .i64 b7,.int .i64 b8,.int .i64 b9,.int .i64 b10,.slice sb_ bn bc,.int .i64 bi,.int .i64 bk,.string bw,.slice br bm bd]) rfl ?_ ?_
     · exact ub1
     simp only[Act.put,pg]
     refine rd1 [1] ?_
     refine AcQ (o:=_) rfl (fun K hK=>?_) AnQ
     rw[ipQ ue1]
     simp only[pg3]
     have HK:=hH hK
     have HS:=hH eH
     clear hK eH
     go_wp2_with fail
     refine (HNA.out _ HS.out).mono ?_
     rintro e Z ⟨rfl,hz⟩
     have hSZ:SW Z:=HT.out _ _ HS.out hz
     clear hz
     go_wp2_with fail
     refine HK.out _ _ hSZ (fun eH=>?_)
     clear HK HS hSZ
     refine rd1 [3] ?_
     refine AcQ (o:=_) rfl (fun K hK=>?_) AnQ
     rw[ipQ ue1]
     simp only[pg3]
     have HK:=hH hK
     have HS:=hH eH
     clear hK eH
     go_wp2_with fail
     refine (HNB.out _ HS.out).mono ?_
     rintro e Z ⟨rfl,hz⟩
     have hSZ:SW Z:=HT.out _ _ HS.out hz
     clear hz
     go_wp2_with fail
     refine HK.out _ _ hSZ (fun eH=>?_)
     clear HK HS hSZ
     refine tJ (i:=4) (.bool true) rfl ?_ ?_
     · exact ub2
     simp only[Act.put,pg]
     refine tJ (i:=5) (.bool true) rfl ?_ ?_
     · clear eH;intro Y hSw;clear hSw;go_simp
     simp only[Act.put,pg]
     refine tJ (i:=6) (.pointer (some ⟨X.heap.size,11,none⟩)) rfl ?_ ?_
     · clear eH;intro Y hSw;clear hSw;go_simp
     simp only[Act.put,pg]
     refine tJ (i:=7) (.slice sa an ac) rfl ?_ ?_
     · exact ub0
     simp only[Act.put,pg]
     refine tJ (i:=8) (.pointer (some ⟨X.heap.size+1,11,none⟩)) rfl ?_ ?_
     · clear eH;intro Y hSw;clear hSw;go_simp
     simp only[Act.put,pg]
     refine tJ (i:=9) (.slice sb_ bn bc) rfl ?_ ?_
     · exact ub1
     simp only[Act.put,pg]
     refine rd1 [10] ?_
     refine AcQ (o:=_) rfl (fun K hK=>?_) AnQ
     rw[ipQ ue1]
     simp only[pg3]
     have HK:=hH hK
     have HS:=hH eH
     clear hK eH
     go_wp2_with fail
     refine (HSS.out _ HS.out).mono ?_
     rintro e Z ⟨rfl,hz⟩
     have hSZ:SW Z:=HT.out _ _ HS.out hz
     clear hz
     go_wp2_with fail
     refine HK.out _ _ hSZ (fun eH=>?_)
     clear HK HS hSZ
     refine tJ (i:=11) (.bool true) rfl ?_ ?_
     · clear eH;intro Y hSw;clear hSw;go_simp
     simp only[Act.put,pg]
     refine tJ (i:=12) (.bool true) rfl ?_ ?_
     · clear eH;intro Y hSw;clear hSw;go_simp
     simp only[Act.put,pg]
     refine tJ (i:=13) (.pointer (some ⟨X.heap.size,12,none⟩)) rfl ?_ ?_
     · clear eH;intro Y hSw;clear hSw;go_simp
     simp only[Act.put,pg]
     refine tJ (i:=14) (.agg #[.int .i64 ai,.int .i64 ak,.string aw,.slice ar am ad]) rfl ?_ ?_
     · exact ub0
     simp only[Act.put,pg]
     refine tJ (i:=15) (.pointer (some ⟨X.heap.size+1,12,none⟩)) rfl ?_ ?_
     · clear eH;intro Y hSw;clear hSw;go_simp
     simp only[Act.put,pg]
     refine tJ (i:=16) (.agg #[.int .i64 bi,.int .i64 bk,.string bw,.slice br bm bd]) rfl ?_ ?_
     · exact ub1
     simp only[Act.put,pg]
     refine rd1 [17] ?_
     refine AcQ (o:=_) rfl (fun K hK=>?_) AnQ
     rw[ipQ ue1]
     simp only[pg3]
     have HK:=hH hK
     have HS:=hH eH
     clear hK eH
     go_wp2_with fail
     refine (HTT.out _ HS.out).mono ?_
     rintro e Z ⟨rfl,hz⟩
     have hSZ:SW Z:=HT.out _ _ HS.out hz
     clear hz
     go_wp2_with fail
     refine HK.out _ _ hSZ (fun eH=>?_)
     clear HK HS hSZ
     refine tJ (i:=18) (.bool tb) rfl ?_ ?_
     · clear eH;intro Y hSw;clear hSw;go_simp
     simp only[Act.put,pg]
     refine tJ (i:=19) (.bool tb) rfl ?_ ?_
     · clear eH;intro Y hSw;clear hSw;go_simp
     simp only[Act.put,pg]
     refine wpAnyH_done kr1 ?_ _
     have HW:=hH eH
     clear eH
     go_wp2_with fail
     go_ret
     exact⟨rfl,HBW.out _ HW.out⟩
end Go.Proofs.YtoidedomenkbpaaGreat
