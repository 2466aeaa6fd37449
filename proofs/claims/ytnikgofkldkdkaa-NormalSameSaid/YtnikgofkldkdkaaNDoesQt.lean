/-
  .
-/
import Derived.Test.YtnikgofkldkdkaaNAllQt
set_option maxRecDepth 100000
set_option maxHeartbeats 40000000
namespace Go.Proofs.Ytnikgofkldkdkaa
open Go.RowKit Go.Shelf
set_option linter.unusedVariables false
set_option linter.unusedSimpArgs false
theorem Zg (w:World)(g:Gr)(ga:Option Addr)(gn gc:Nat)(t:Tr)(ta la:Option Addr)(tn tc n c:Nat)(vs:List SV)(hgn:gn=g.kinds.length)(hg:GrV w (.agg #[.slice ga g.kinds.length gc,.int .i64 g.root]) g)(hf:g.fits)(htn:tn=foLen t.kids)(ht:qC w t.kids ta tc)(hw:zdR 0 t)(hn:n=vs.length)(hn60:n≤60)(h:Row w la vs)(hst:∀x∈vs,vY x.s):
 Calls Try.prog 12 #[.agg #[.slice ga gn gc,.int .i64 g.root],.agg #[.int .i64 t.id,.int .i64 t.kind,.string t.text,.slice ta tn tc],.slice la n c] w (zjH (ZL g) t (steps vs) w):=by
 obtain⟨B,hB⟩:∃B,B=zx w [.cells #[.slice ga gn gc,.int .i64 g.root] 24,.cells #[.int .i64 t.id,.int .i64 t.kind,.string t.text,.slice ta tn tc] 27,.cells #[.int .i64 0,.int .i64 0,.string ⟨#[]⟩,.slice none 0 0] 27]:=⟨_,rfl⟩
 have hb:Below w.heap.size w B:=by rw[hB];exact zl _ _
 have eg:B.heap[w.heap.size]? =some (.cells #[.slice ga gn gc,.int .i64 g.root] 24 (0,0)):=by rw[hB];exact ze _ _ 0 _ rfl
 have e0:B.heap[w.heap.size+1]? =some (.cells #[.int .i64 t.id,.int .i64 t.kind,.string t.text,.slice ta tn tc] 27 (0,0)):=by rw[hB];exact ze _ _ 1 _ rfl
 have e2:B.heap[w.heap.size+1+1]? =some (.cells #[.int .i64 0,.int .i64 0,.string ⟨#[]⟩,.slice none 0 0] 27 (0,0)):=by rw[hB];exact ze _ _ 2 _ rfl
 have hL0:JD (fun q=>q=w.heap.size+1∨q=w.heap.size+1+1) B (w.heap.size+1) t ta tn tc B:=⟨⟨rfl,rfl,rfl,NlrQ _,fun _ _ _=>rfl⟩,Or.inl rfl,fun q hq=>by rcases hq with rfl | rfl;exact lohQ e0;exact lohQ e2,e0,htn,ht.1,ht.2.kept fun q hq=>⟨⟨nL hq hb.size,fun hE=>by rcases hE with rfl | rfl<;>omega⟩,hb.block q hq⟩⟩
 have H:=hH (aN hw (aN hn (aN h (aN hst hn60))))
 have HGR:=hH (aN hgn (aN hg hf))
 have HB:=hH (aN hb (aN e2 eg))
 have HL0:=hH hL0
 have HBE:=hH hB
 obtain⟨g0,g1⟩:=zbe eg
 obtain⟨p0,p1,p2,p3⟩:=zH e0
 clear hb e0 e2 hB hL0 htn ht hw hn h hst hn60 eg hgn hg hf
 go_enter Try.func12,Try.ntmps12
 go_upto_region 1 with fail
 change Code.wp _ _ _ _ (zx w [.cells #[.slice ga gn gc,.int .i64 g.root] 24,.cells #[.int .i64 t.id,.int .i64 t.kind,.string t.text,.slice ta tn tc] 27,.cells #[.int .i64 0,.int .i64 0,.string ⟨#[]⟩,.slice none 0 0] 27])
 rw[←HBE.out]
 clear HBE
 go_wp2_with fail
 have hnl:n≤60:=H.out.2.2.2.2
 go_loopw [8] (fun i wr=>∃k:Nat,k≤n∧i= .int .i64 (k:Int)∧Hid (∃x va vn vc,goN qN (ZL g) ((steps vs).take k) t=some x∧zdR k x∧JD (fun q=>q=w.heap.size+1∨q=w.heap.size+1+1) B (w.heap.size+1) x va vn vc wr)) (fun i _=>n - (intOf i).toNat)
 case atStart=>exact⟨0,NzlQ _,rfl,hH ⟨t,ta,tn,tc,rfl,H.out.1,HL0.out⟩⟩
 case round=>
  obtain⟨k,hk,rfl,hh⟩:=hrel
  obtain⟨wo,hwo⟩:∃wo,wo=wr:=⟨_,rfl⟩
  subst hwo
  obtain⟨x,va,vn,vc,hgo,hwx,hL⟩:=hh.out
  clear hh g0 g1 p0 p1 p2 p3
  have hfar:∀q,q<B.heap.size→q≠w.heap.size+1→wo.heap[q]? =B.heap[q]?:=hL.but.block
  have r0h:=(hfar _ (lohQ HB.out.2.1) om).trans HB.out.2.1
  have g0h:=(hfar _ (lohQ HB.out.2.2) om).trans HB.out.2.2
  have hbw:Below w.heap.size w wo:=⟨hL.but.os.trans HB.out.1.os,hL.but.tape.trans HB.out.1.tape,hL.but.output.trans HB.out.1.output,NltQ HB.out.1.size hL.but.size,fun q hq=>(hfar q (nL hq HB.out.1.size) om).trans (HB.out.1.block q hq)⟩
  have hzk:za x.kids≤20000:=by have:=hwx.size;have:=H.out.2.2.2.2;omega
  by_cases hlt:k<n
  · have hki:(k:Int)<(n:Int):=by omega
    obtain⟨s,hs⟩:∃s,vs[k]? =some s:=⟨_,List.getElem?_eq_getElem (by rw[←H.out.2.1];exact hlt)⟩
    obtain⟨b,off,rfl,hbl,hcell⟩:=H.out.2.2.1.cells k s hs
    obtain⟨sn,hsn⟩:∃sn,sn=foLen s.s.sub.kids:=⟨_,rfl⟩
    have hrow:∀X,Below wo.heap.size wo X→∀(j:Nat) (u:Value),(vO s.s s.a s.c)[j]? =some u→X.cell? ⟨b,off+k*9+j,none⟩=some u:=fun X hX j u hj=>(World.cell?_of_block (a:=⟨b,off+k*9+j,none⟩) ((hbw.trans (hX.mono hbw.size)).block b hbl)).trans (hcell j u hj)
    have hmem:=List.mem_of_getElem? hs
    have hcx:∀X,Below wo.heap.size wo X→(X.cell? ⟨w.heap.size,0,none⟩=some (.slice ga gn gc)∧X.cell? ⟨w.heap.size,1,none⟩=some (.int .i64 g.root))∧(uf1 X (w.heap.size+1) x.id x.kind x.text va vn vc)∧X.cell? ⟨b,off+k*9,none⟩=some (.int .i8 s.s.op)∧X.cell? ⟨b,off+k*9+1,none⟩=some (.int .i64 s.s.id)∧X.cell? ⟨b,off+k*9+2,none⟩=some (.int .i64 s.s.par)∧X.cell? ⟨b,off+k*9+3,none⟩=some (.int .i64 s.s.at_)∧X.cell? ⟨b,off+k*9+4,none⟩=some (.string s.s.tx)∧X.cell? ⟨b,off+k*9+5,none⟩=some (.int .i64 s.s.sub.id)∧X.cell? ⟨b,off+k*9+6,none⟩=some (.int .i64 s.s.sub.kind)∧X.cell? ⟨b,off+k*9+7,none⟩=some (.string s.s.sub.text)∧X.cell? ⟨b,off+k*9+8,none⟩=some (.slice s.a sn s.c):=fun X hX=>by
     have eg:=(hX.block _ (lohQ g0h)).trans g0h
     exact⟨zbe eg,zH ((hX.block _ (lohQ hL.cell)).trans hL.cell),hrow X hX 0 _ rfl,hrow X hX 1 _ rfl,hrow X hX 2 _ rfl,hrow X hX 3 _ rfl,hrow X hX 4 _ rfl,hrow X hX 5 _ rfl,hrow X hX 6 _ rfl,hrow X hX 7 _ rfl,hrow X hX 8 _ (by rw[hsn];rfl)⟩
    obtain⟨r,hr⟩:∃r,r=doK g (stepG s.s.op s.s.id s.s.par s.s.at_ s.s.tx s.s.sub x):=⟨_,rfl⟩
    have hcall:∀X,Below wo.heap.size wo X→Calls Try.prog 26 #[.agg #[.slice ga gn gc,.int .i64 g.root],.agg #[.int .i64 x.id,.int .i64 x.kind,.string x.text,.slice va vn vc],.agg #[.int .i8 s.s.op,.int .i64 s.s.id,.int .i64 s.s.par,.int .i64 s.s.at_,.string s.s.tx,.int .i64 s.s.sub.id,.int .i64 s.s.sub.kind,.string s.s.sub.text,.slice s.a sn s.c]] X (zbH (fun q=>q<wo.heap.size∧¬(q=w.heap.size+1∨q=w.heap.size+1+1)) r X):=fun X hX=>by
     have hwX:=hbw.trans (hX.mono hbw.size)
     have hsN:=H.out.2.2.2.1 s hmem
     have hsl:=H.out.2.2.1.lies s hmem
     rw[hr]
     refine (zjd X (fun q=>q<X.heap.size) (.agg #[.slice ga gn gc,.int .i64 g.root]) g x s.s.sub s.s.op s.s.id s.s.par s.s.at_ s.s.tx va s.a vn vc sn s.c (by rw[HGR.out.1];exact HGR.out.2.1.below hwX) HGR.out.2.2 hL.len hsn hwx.zhn (by have:=zM x.kids;omega) (jM _ om) (by have:=zM s.s.sub.kids;have:=hsN.size;omega) (jM _ (by have:=hsN.size;omega)) (fun q hq=>hq) hL.lies.1 ((hL.lies.on hX).2.kept fun q hq=>⟨hq.1,rfl⟩) hsl.1 (hsl.2.kept fun q hq=>⟨nL hq hwX.size,hwX.block q hq⟩) (zbj hsN.op) hwx.ok hsN.ok hsN.tx).mono fun e V h=>h.p _
    have HCALL:=hH hcall
    have HCX:=hH hcx
    have hss:=zdz hs
    have hsN:=H.out.2.2.2.1 s hmem
    have HR:=hH (aN hgo (aN hwx (aN hL (aN hbw (aN r0h (aN hlt (aN hr (aN hss hsN))))))))
    clear hgo hwx hL hbw r0h hlt hr hss hsN hs hbl hcell hsn hrow hmem hcx hcall hfar hk hzk g0h
    go_upto_region 4 with fail
    refine wrhQ (S:=fun X=>Below wo.heap.size wo X) kr1 (yT (BrQ _ wo) 1) (fun uH=>?_)
    refine tJ (i:=0) (.agg #[.slice ga gn gc,.int .i64 g.root]) rfl ?_ ?_
    · exact ub0
    simp only[Act.put,pg]
    refine tJ (i:=1) (.agg #[.int .i64 x.id,.int .i64 x.kind,.string x.text,.slice va vn vc]) rfl ?_ ?_
    · exact ub0
    simp only[Act.put,pg]
    refine tG (i:=2) (.slice (some ⟨b,off,none⟩) n c) rfl ?_
    simp only[Act.put,pg]
    refine tG (i:=3) (.int .i64 (k:Int)) rfl ?_
    simp only[Act.put,pg]
    refine tG (i:=4) (.pointer (some ⟨b,off+k*9,none⟩)) rfl ?_
    simp only[Act.put,pg]
    refine tJ (i:=5) (.agg #[.int .i8 s.s.op,.int .i64 s.s.id,.int .i64 s.s.par,.int .i64 s.s.at_,.string s.s.tx,.int .i64 s.s.sub.id,.int .i64 s.s.sub.kind,.string s.s.sub.text,.slice s.a sn s.c]) rfl ?_ ?_
    · exact ub0
    simp only[Act.put,pg]
    refine rd [6,10] ?_
    refine AcQ (o:=_) rfl (fun K hK=>?_) (AcQ (o:=_) rfl (fun K hK=>?_) AnQ)
    · rw[ipQ uf0]
      simp only[pg3]
      have HK:=hH hK
      have HS:=hH uH
      clear hK uH
      go_wp2_with (go_at_call 26;refine (HCALL.out _ HS.out).mono ?_;rintro e w4 ⟨y,ya,yc,er,rfl,hyc,hyf,hb4,he1,he2⟩)
      obtain⟨ym,hym⟩:∃ym,ym=foLen y.kids:=⟨_,rfl⟩
      have H4:=hH (aN hyc (aN hyf (aN hb4 (aN he1 (aN he2 hym)))))
      have HX:=hH HS.out.size
      have hb4w:=HS.out.trans (hb4.mono HS.out.size)
      rw[←hym]
      refine HK.out _ _ hb4w (fun uH=>?_)
      clear HK HS hyc hyf hb4 he1 he2 hym
      refine tG (i:=7) (.tuple #[.agg #[.int .i64 y.id,.int .i64 y.kind,.string y.text,.slice ya ym yc],.int .i64 er]) rfl ?_
      simp only[Act.put,pg]
      refine tG (i:=8) (.agg #[.int .i64 y.id,.int .i64 y.kind,.string y.text,.slice ya ym yc]) rfl ?_
      simp only[Act.put,pg]
      refine tG (i:=9) (.int .i64 er) rfl ?_
      simp only[Act.put,pg]
      refine rd [10] ?_
      refine AcQ (o:=_) rfl (fun K hK=>?_) AnQ
      rw[ipQ uf0]
      simp only[pg3]
      have HK:=hH hK
      have HS:=hH uH
      clear hK uH
      go_wp2_with fail
      obtain⟨WA,hWA⟩:∃WA,WA=(World.alloc w4 (.cells #[.int .i64 0,.int .i64 0,.string ⟨#[]⟩,.slice none 0 0] 27)):=⟨_,rfl⟩
      rw[←hWA]
      have hza:WA.heap[w4.heap.size]? =some (.cells #[.int .i64 0,.int .i64 0,.string ⟨#[]⟩,.slice none 0 0] 27 (0,0)):=by rw[hWA];exact hanQ w4 _
      have hba:Below w4.heap.size w4 WA:=by rw[hWA];exact (BrQ _ _).alloc (NlrQ _) _
      have hsa:WA.heap.size=w4.heap.size+1:=by rw[hWA];simp[World.drew]
      have hbaw:Below wo.heap.size wo WA:=HS.out.trans (hba.mono HS.out.size)
      have HA:=hH (aN hza (aN hba (aN hsa (aN hbaw (show wo.heap.size≤w4.heap.size from HS.out.size)))))
      refine HK.out _ _ hbaw (fun uH=>?_)
      clear hbaw
      clear HK HS hza hba hsa hWA
      refine rd [11] ?_
      refine AcQ (o:=_) rfl (fun K hK=>?_) AnQ
      rw[ipQ uf0]
      simp only[pg3]
      have HK:=hH hK
      have HS:=hH uH
      clear hK uH
      have hz:=HA.out.1
      have hbc:=HA.out.2.2.2.1
      have hxb:wo.heap.size≤w4.heap.size:=HA.out.2.2.2.2
      have hXs:=HX.out
      have hkf:zk WA (fun q=>q<WA.heap.size∧q≠w4.heap.size∧(q<wo.heap.size→¬(q=w.heap.size+1∨q=w.heap.size+1+1))) y.kids ya:=H4.out.2.1.kept fun q hq=>⟨⟨by have:=hq.1;have:=HA.out.2.2.1;omega,by have:=hq.1;omega,fun hl=>hq.2.elim (fun h=>h.2) (fun h=>by omega)⟩,HA.out.2.1.block q hq.1⟩
      clear hXs
      obtain⟨z0,z1,z2,z3⟩:=zH hz
      have zf:∀j,WA.frozen? ⟨w4.heap.size,j,none⟩=false:=fun j=>forQ _ _ j _ _ hz
      obtain⟨V5,e5,r1,r2,r3,r4,r5,r6⟩:=zu (u0:= .int .i64 y.id) (u1:= .int .i64 y.kind) (u2:= .string y.text) (u3:= .slice ya ym yc) hz
      have hD:zgN (fun q=>q=w.heap.size+1∨q=w.heap.size+1+1) wo er y ya ym yc w4.heap.size V5:=⟨⟨r3.trans hbc.os,r4.trans hbc.tape,r5.trans hbc.output,by rw[r6];exact hbc.size,fun q hq=>(r2 q om).trans (hbc.block q hq)⟩,r1,hxb,H4.out.2.2.2.2.2,by rw[H4.out.2.2.2.2.2];exact H4.out.1,hkf.kept fun q hq=>⟨⟨by rw[r6];exact hq.1,hq.2.1,hq.2.2⟩,r2 q hq.2.1⟩⟩
      have HD:=hH (aN hD e5)
      clear hz r1 r2 r3 r4 r5 r6 hD hbc hxb hkf e5
      go_wp2_with fail
      rw[←HD.out.2]
      refine HK.out _ _ HD.out.1.below (fun uH=>?_)
      clear HK HS z0 z1 z2 z3 zf
      refine tG (i:=12) (.int .i64 er) rfl ?_
      simp only[Act.put,pg]
      refine wpAnyH_done kr1 ?_ _
      clear uH
      replace HD:=hH HD.out.1
      replace H4:=hH (aN H4.out.2.2.2.1 H4.out.2.2.2.2.1)
      obtain⟨xb,hxbe⟩:∃xb,xb=w4.heap.size:=⟨_,rfl⟩
      exact sb2
    · rw[ipQ uf0]
      simp only[pg3]
      have HK:=hH hK
      have HS:=hH uH
      clear hK uH
      go_wp2_with fail
      obtain⟨WA,hWA⟩:∃WA,WA=(World.alloc wo (.cells #[.int .i64 0,.int .i64 0,.string ⟨#[]⟩,.slice none 0 0] 27)).drew:=⟨_,rfl⟩
      rw[←hWA]
      have hza:WA.heap[wo.heap.size]? =some (.cells #[.int .i64 0,.int .i64 0,.string ⟨#[]⟩,.slice none 0 0] 27 (0,0)):=by rw[hWA];exact hanQ wo _
      have hba:Below wo.heap.size wo WA:=by rw[hWA];exact ((BrQ _ _).alloc (NlrQ _) _).drew
      have hsa:WA.heap.size=wo.heap.size+1:=by rw[hWA];simp[World.drew]
      have HA:=hH (aN hza (aN hba hsa))
      refine HK.out _ _ hba (fun uH=>?_)
      clear HK HS hza hba hsa hWA
      refine rd [6] ?_
      refine AcQ (o:=_) rfl (fun K hK=>?_) AnQ
      rw[ipQ uf0]
      simp only[pg3]
      have HK:=hH hK
      have HS:=hH uH
      clear hK uH
      go_wp2_with (go_at_call 26;refine (HCALL.out _ HS.out).mono ?_;rintro e w4 ⟨y,ya,yc,er,rfl,hyc,hyf,hb4,he1,he2⟩)
      obtain⟨ym,hym⟩:∃ym,ym=foLen y.kids:=⟨_,rfl⟩
      have H4:=hH (aN hyc (aN hyf (aN hb4 (aN he1 (aN he2 hym)))))
      have hb4w:=HS.out.trans (hb4.mono HS.out.size)
      have HX:=hH (aN HS.out.size ((hb4.block _ (lohQ HA.out.1)).trans HA.out.1))
      rw[←hym]
      refine HK.out _ _ hb4w (fun uH=>?_)
      clear HK HS hyc hyf hb4 he1 he2 hym
      refine tG (i:=7) (.tuple #[.agg #[.int .i64 y.id,.int .i64 y.kind,.string y.text,.slice ya ym yc],.int .i64 er]) rfl ?_
      simp only[Act.put,pg]
      refine tG (i:=8) (.agg #[.int .i64 y.id,.int .i64 y.kind,.string y.text,.slice ya ym yc]) rfl ?_
      simp only[Act.put,pg]
      refine tG (i:=9) (.int .i64 er) rfl ?_
      simp only[Act.put,pg]
      refine rd [11] ?_
      refine AcQ (o:=_) rfl (fun K hK=>?_) AnQ
      rw[ipQ uf0]
      simp only[pg3]
      have HK:=hH hK
      have HS:=hH uH
      clear hK uH
      have hz:=HX.out.2
      have hbc:=HS.out
      have hxb:wo.heap.size≤wo.heap.size:=NlrQ _
      have hkf:zk w4 (fun q=>q<w4.heap.size∧q≠wo.heap.size∧(q<wo.heap.size→¬(q=w.heap.size+1∨q=w.heap.size+1+1))) y.kids ya:=H4.out.2.1.kept fun q hq=>⟨⟨hq.1,by have:=HA.out.2.2;exact hq.2.elim (fun h=>by have:=h.1;omega) (fun h=>by omega),fun hl=>hq.2.elim (fun h=>h.2) (fun h=>by have:=HA.out.2.2;omega)⟩,rfl⟩
      obtain⟨z0,z1,z2,z3⟩:=zH hz
      have zf:∀j,w4.frozen? ⟨wo.heap.size,j,none⟩=false:=fun j=>forQ _ _ j _ _ hz
      obtain⟨V5,e5,r1,r2,r3,r4,r5,r6⟩:=zu (u0:= .int .i64 y.id) (u1:= .int .i64 y.kind) (u2:= .string y.text) (u3:= .slice ya ym yc) hz
      have hD:zgN (fun q=>q=w.heap.size+1∨q=w.heap.size+1+1) wo er y ya ym yc wo.heap.size V5:=⟨⟨r3.trans hbc.os,r4.trans hbc.tape,r5.trans hbc.output,by rw[r6];exact hbc.size,fun q hq=>(r2 q om).trans (hbc.block q hq)⟩,r1,hxb,H4.out.2.2.2.2.2,by rw[H4.out.2.2.2.2.2];exact H4.out.1,hkf.kept fun q hq=>⟨⟨by rw[r6];exact hq.1,hq.2.1,hq.2.2⟩,r2 q hq.2.1⟩⟩
      have HD:=hH (aN hD e5)
      clear hz r1 r2 r3 r4 r5 r6 hD hbc hxb hkf e5
      go_wp2_with fail
      rw[←HD.out.2]
      refine HK.out _ _ HD.out.1.below (fun uH=>?_)
      clear HK HS z0 z1 z2 z3 zf
      refine tG (i:=12) (.int .i64 er) rfl ?_
      simp only[Act.put,pg]
      refine wpAnyH_done kr1 ?_ _
      clear uH
      replace HD:=hH HD.out.1
      replace H4:=hH (aN H4.out.2.2.2.1 H4.out.2.2.2.2.1)
      obtain⟨xb,hxbe⟩:∃xb,xb=wo.heap.size:=⟨_,rfl⟩
      exact sb2
  · have hki:¬(k:Int)<(n:Int):=by omega
    have hkn:k=n:=by omega
    have hgo2:goN qN (ZL g) (steps vs) t=some x:=by
     rw[List.take_of_length_le (by rw[ji,←H.out.2.1];omega)] at hgo
     exact hgo
    have HEE:=hH (Z8 (ok:=(ZL g)) (t:=t) (l:=steps vs) (b:=true) hbw r0h om hL.len hL.lies.1 (hL.lies.2.kept fun q hq=>⟨⟨hq.1,fun e=>hq.2 (Or.inr e)⟩,rfl⟩) hzk (fun _=>hgo2) (fun h=>by cases h))
    obtain⟨z0,z1,z2,z3⟩:=zH r0h
    have gz:∀j,wo.frozen? ⟨w.heap.size+1+1,j,none⟩=false:=fun j=>forQ _ _ j _ _ r0h
    have HZ:=hH (zX r0h (.int .i64 x.id) (.int .i64 x.kind) (.string x.text) (.slice va vn vc))
    obtain⟨x0,x1,x2,x3⟩:=zH hL.cell
    clear hgo hgo2 hwx hL hfar r0h hbw hlt hkn hk hzk g0h
    go_wp2_with fail
    exact brQ (yO rfl _ _ (w.heap.size+1+1) 27 _ _ _ (.bool true) rfl HZ.out.1 Try.underlying27 rfl kr1 rfl) rfl HEE.out
end Go.Proofs.Ytnikgofkldkdkaa
