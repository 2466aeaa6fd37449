/-
  .
-/
import Derived.Test.YtnikgofkldkdkaaNStepNQt
set_option maxRecDepth 100000
set_option maxHeartbeats 40000000
namespace Go.Proofs.Ytnikgofkldkdkaa
open Go.RowKit Go.Shelf
set_option linter.unusedVariables false
set_option linter.unusedSimpArgs false
theorem zbe {w:World}{b:Nat}{c0 c1:Value}{T:TypeId}(h:w.heap[b]? =some (.cells #[c0,c1] T (0,0))):w.cell? ⟨b,0,none⟩=some c0∧w.cell? ⟨b,1,none⟩=some c1:=
 ⟨by rw[corQ _ _ 0 _ _ _ h];rfl,by rw[corQ _ _ 1 _ _ _ h];rfl⟩
def zjH (ok:Tr→Bool)(t:Tr)(l:List Sf)(w:World)(e:Ending)(w' :World):Prop:=∃(b:Bool) (x:Tr) (va:Option Addr) (vc:Nat),e= .returned (.tuple #[.agg #[.int .i64 x.id,.int .i64 x.kind,.string x.text,.slice va (foLen x.kids) vc],.bool b])∧qC w' x.kids va vc∧za x.kids≤20000∧Below w.heap.size w w'∧(b=true→goN qN ok l t=some x)∧(b=false→goN qN ok l t=none)
theorem Z8 {ok:Tr→Bool}{t x:Tr}{l:List Sf}{w X:World}{R:Nat}{va:Option Addr}{vn vc:Nat}{b:Bool}(hb:Below w.heap.size w X)(hz:X.heap[R]? =some (.cells #[.int .i64 0,.int .i64 0,.string ⟨#[]⟩,.slice none 0 0] 27 (0,0)))(hR:w.heap.size≤R)(hvn:vn=foLen x.kids)(hc:foLen x.kids≤vc)(hk:zk X (fun q=>q<X.heap.size∧q≠R) x.kids va)(hs:za x.kids≤20000)(h1:b=true→goN qN ok l t=some x)(h2:b=false→goN qN ok l t=none):
 zjH ok t l w (.returned (.tuple #[.agg #[.int .i64 x.id,.int .i64 x.kind,.string x.text,.slice va vn vc],.bool b])) ((((X.setCell ⟨R,0,none⟩ (.int .i64 x.id)).setCell ⟨R,1,none⟩ (.int .i64 x.kind)).setCell ⟨R,2,none⟩ (.string x.text)).setCell ⟨R,3,none⟩ (.slice va vn vc)):=by
 have hs4:=zX hz (.int .i64 x.id) (.int .i64 x.kind) (.string x.text) (.slice va vn vc)
 have k:=hs4.2.1 _ (NlrQ _)
 subst hvn
 exact⟨b,x,va,vc,rfl,⟨hc,hk.kept fun q hq=>⟨nL hq.1 k.size,hs4.2.2 q hq.2⟩⟩,hs,hb.trans (hs4.2.1 _ hR),h1,h2⟩
theorem zbd (w:World)(t:Tr)(ta la:Option Addr)(tn tc n c:Nat)(vs:List SV)(htn:tn=foLen t.kids)(ht:qC w t.kids ta tc)(hw:zdR 0 t)(hn:n=vs.length)(hn60:n≤60)(h:Row w la vs)(hst:∀x∈vs,vY x.s):
 Calls Try.prog 10 #[.agg #[.int .i64 t.id,.int .i64 t.kind,.string t.text,.slice ta tn tc],.slice la n c] w (zjH JK t (steps vs) w):=by
 obtain⟨B,hB⟩:∃B,B=zx w [.cells #[.int .i64 t.id,.int .i64 t.kind,.string t.text,.slice ta tn tc] 27,.cells #[.int .i64 0,.int .i64 0,.string ⟨#[]⟩,.slice none 0 0] 27]:=⟨_,rfl⟩
 have hb:Below w.heap.size w B:=by rw[hB];exact zl _ _
 have e0:B.heap[w.heap.size]? =some (.cells #[.int .i64 t.id,.int .i64 t.kind,.string t.text,.slice ta tn tc] 27 (0,0)):=by rw[hB];exact ze _ _ 0 _ rfl
 have e2:B.heap[w.heap.size+1]? =some (.cells #[.int .i64 0,.int .i64 0,.string ⟨#[]⟩,.slice none 0 0] 27 (0,0)):=by rw[hB];exact ze _ _ 1 _ rfl
 have hL0:JD (fun q=>q=w.heap.size∨q=w.heap.size+1) B (w.heap.size) t ta tn tc B:=⟨⟨rfl,rfl,rfl,NlrQ _,fun _ _ _=>rfl⟩,Or.inl rfl,fun q hq=>by rcases hq with rfl | rfl;exact lohQ e0;exact lohQ e2,e0,htn,ht.1,ht.2.kept fun q hq=>⟨⟨nL hq hb.size,fun hE=>by rcases hE with rfl | rfl<;>omega⟩,hb.block q hq⟩⟩
 have H:=hH (aN hw (aN hn (aN h (aN hst hn60))))
 have HB:=hH (aN hb (aN e2 hL0))
 have HBE:=hH hB
 obtain⟨p0,p1,p2,p3⟩:=zH e0
 clear hb e0 e2 hB hL0 htn ht hw hn h hst hn60
 go_enter Try.func10,Try.ntmps10
 go_upto_region 1 with fail
 change Code.wp _ _ _ _ (zx w [.cells #[.int .i64 t.id,.int .i64 t.kind,.string t.text,.slice ta tn tc] 27,.cells #[.int .i64 0,.int .i64 0,.string ⟨#[]⟩,.slice none 0 0] 27])
 rw[←HBE.out]
 clear HBE
 go_wp2_with fail
 have hnl:n≤60:=H.out.2.2.2.2
 go_loopw [6] (fun i wr=>∃k:Nat,k≤n∧i= .int .i64 (k:Int)∧Hid (∃x va vn vc,goN qN JK ((steps vs).take k) t=some x∧zdR k x∧JD (fun q=>q=w.heap.size∨q=w.heap.size+1) B w.heap.size x va vn vc wr)) (fun i _=>n - (intOf i).toNat)
 case atStart=>exact⟨0,NzlQ _,rfl,hH ⟨t,ta,tn,tc,rfl,H.out.1,HB.out.2.2⟩⟩
 case round=>
  obtain⟨k,hk,rfl,hh⟩:=hrel
  obtain⟨wo,hwo⟩:∃wo,wo=wr:=⟨_,rfl⟩
  subst hwo
  obtain⟨x,va,vn,vc,hgo,hwx,hL⟩:=hh.out
  clear hh p0 p1 p2 p3
  have hfar:∀q,q<B.heap.size→q≠w.heap.size→wo.heap[q]? =B.heap[q]?:=hL.but.block
  have r0h:=(hfar _ (lohQ HB.out.2.1) om).trans HB.out.2.1
  have hbw:Below w.heap.size w wo:=⟨hL.but.os.trans HB.out.1.os,hL.but.tape.trans HB.out.1.tape,hL.but.output.trans HB.out.1.output,NltQ HB.out.1.size hL.but.size,fun q hq=>(hfar q (nL hq HB.out.1.size) om).trans (HB.out.1.block q hq)⟩
  have hzk:za x.kids≤20000:=by have:=hwx.size;have:=H.out.2.2.2.2;omega
  by_cases hlt:k<n
  · have hki:(k:Int)<(n:Int):=by omega
    obtain⟨s,hs⟩:∃s,vs[k]? =some s:=⟨_,List.getElem?_eq_getElem (by rw[←H.out.2.1];exact hlt)⟩
    obtain⟨b,off,rfl,hbl,hcell⟩:=H.out.2.2.1.cells k s hs
    obtain⟨sn,hsn⟩:∃sn,sn=foLen s.s.sub.kids:=⟨_,rfl⟩
    have hrow:∀X,Below wo.heap.size wo X→∀(j:Nat) (u:Value),(vO s.s s.a s.c)[j]? =some u→X.cell? ⟨b,off+k*9+j,none⟩=some u:=fun X hX j u hj=>(World.cell?_of_block (a:=⟨b,off+k*9+j,none⟩) ((hbw.trans (hX.mono hbw.size)).block b hbl)).trans (hcell j u hj)
    have hmem:=List.mem_of_getElem? hs
    have hcx:∀X,Below wo.heap.size wo X→(uf1 X w.heap.size x.id x.kind x.text va vn vc)∧X.cell? ⟨b,off+k*9,none⟩=some (.int .i8 s.s.op)∧X.cell? ⟨b,off+k*9+1,none⟩=some (.int .i64 s.s.id)∧X.cell? ⟨b,off+k*9+2,none⟩=some (.int .i64 s.s.par)∧X.cell? ⟨b,off+k*9+3,none⟩=some (.int .i64 s.s.at_)∧X.cell? ⟨b,off+k*9+4,none⟩=some (.string s.s.tx)∧X.cell? ⟨b,off+k*9+5,none⟩=some (.int .i64 s.s.sub.id)∧X.cell? ⟨b,off+k*9+6,none⟩=some (.int .i64 s.s.sub.kind)∧X.cell? ⟨b,off+k*9+7,none⟩=some (.string s.s.sub.text)∧X.cell? ⟨b,off+k*9+8,none⟩=some (.slice s.a sn s.c):=fun X hX=>by
     exact⟨zH ((hX.block _ (lohQ hL.cell)).trans hL.cell),hrow X hX 0 _ rfl,hrow X hX 1 _ rfl,hrow X hX 2 _ rfl,hrow X hX 3 _ rfl,hrow X hX 4 _ rfl,hrow X hX 5 _ rfl,hrow X hX 6 _ rfl,hrow X hX 7 _ rfl,hrow X hX 8 _ (by rw[hsn];rfl)⟩
    obtain⟨r,hr⟩:∃r,r=stepG s.s.op s.s.id s.s.par s.s.at_ s.s.tx s.s.sub x:=⟨_,rfl⟩
    have hcall:∀X,Below wo.heap.size wo X→Calls Try.prog 25 #[.agg #[.int .i64 x.id,.int .i64 x.kind,.string x.text,.slice va vn vc],.agg #[.int .i8 s.s.op,.int .i64 s.s.id,.int .i64 s.s.par,.int .i64 s.s.at_,.string s.s.tx,.int .i64 s.s.sub.id,.int .i64 s.s.sub.kind,.string s.s.sub.text,.slice s.a sn s.c]] X (zbH (fun q=>q<wo.heap.size∧¬(q=w.heap.size∨q=w.heap.size+1)) r X):=fun X hX=>by
     have hwX:=hbw.trans (hX.mono hbw.size)
     have hsN:=H.out.2.2.2.1 s hmem
     have hsl:=H.out.2.2.1.lies s hmem
     rw[hr]
     exact zes X (fun q=>q<wo.heap.size∧¬(q=w.heap.size∨q=w.heap.size+1)) (fun q=>q<w.heap.size) _ x s.s.sub s.s.op s.s.id s.s.par s.s.at_ s.s.tx va s.a vn vc sn s.c hL.len hsn (fun q hq=>nL hq.1 hX.size) (fun q hq=>nL hq hwX.size) (fun q hq=>hq.elim (fun h=>h) (fun h=>⟨nL h hbw.size,by omega⟩)) hL.lies.1 (hL.lies.2.kept fun q hq=>⟨hq,hX.block q hq.1⟩) hsl.1 (hsl.2.kept fun q hq=>⟨hq,hwX.block q hq⟩) (by have:=hsN.size;omega) hsN.op (zfk hwx.ok) (zfk hsN.ok)
    have HCALL:=hH hcall
    have HCX:=hH hcx
    have hss:=zdz hs
    have hsN:=H.out.2.2.2.1 s hmem
    have HR:=hH (aN hgo (aN hwx (aN hL (aN hbw (aN r0h (aN hlt (aN hr (aN hss hsN))))))))
    clear hgo hwx hL hbw r0h hlt hr hss hsN hs hbl hcell hsn hrow hmem hcx hcall hfar hk hzk
    go_upto_region 4 with fail
    refine wrhQ (S:=fun X=>Below wo.heap.size wo X) kr1 (yT (BrQ _ wo) 1) (fun uH=>?_)
    refine tJ (i:=0) (.agg #[.int .i64 x.id,.int .i64 x.kind,.string x.text,.slice va vn vc]) rfl ?_ ?_
    · exact ua9
    simp only[Act.put,pg]
    refine tG (i:=1) (.slice (some ⟨b,off,none⟩) n c) rfl ?_
    simp only[Act.put,pg]
    refine tG (i:=2) (.int .i64 (k:Int)) rfl ?_
    simp only[Act.put,pg]
    refine tG (i:=3) (.pointer (some ⟨b,off+k*9,none⟩)) rfl ?_
    simp only[Act.put,pg]
    refine tJ (i:=4) (.agg #[.int .i8 s.s.op,.int .i64 s.s.id,.int .i64 s.s.par,.int .i64 s.s.at_,.string s.s.tx,.int .i64 s.s.sub.id,.int .i64 s.s.sub.kind,.string s.s.sub.text,.slice s.a sn s.c]) rfl ?_ ?_
    · exact ua9
    simp only[Act.put,pg]
    refine rd [5,9] ?_
    refine AcQ (o:=_) rfl (fun K hK=>?_) (AcQ (o:=_) rfl (fun K hK=>?_) AnQ)
    · rw[ipQ uf0]
      simp only[pg3]
      have HK:=hH hK
      have HS:=hH uH
      clear hK uH
      go_wp2_with (go_at_call 25;refine (HCALL.out _ HS.out).mono ?_;rintro e w4 ⟨y,ya,yc,er,rfl,hyc,hyf,hb4,he1,he2⟩)
      obtain⟨ym,hym⟩:∃ym,ym=foLen y.kids:=⟨_,rfl⟩
      have H4:=hH (aN hyc (aN hyf (aN hb4 (aN he1 (aN he2 hym)))))
      have HX:=hH HS.out.size
      have hb4w:=HS.out.trans (hb4.mono HS.out.size)
      rw[←hym]
      refine HK.out _ _ hb4w (fun uH=>?_)
      clear HK HS hyc hyf hb4 he1 he2 hym
      refine tG (i:=6) (.tuple #[.agg #[.int .i64 y.id,.int .i64 y.kind,.string y.text,.slice ya ym yc],.int .i64 er]) rfl ?_
      simp only[Act.put,pg]
      refine tG (i:=7) (.agg #[.int .i64 y.id,.int .i64 y.kind,.string y.text,.slice ya ym yc]) rfl ?_
      simp only[Act.put,pg]
      refine tG (i:=8) (.int .i64 er) rfl ?_
      simp only[Act.put,pg]
      refine rd [9] ?_
      refine AcQ (o:=_) rfl (fun K hK=>?_) AnQ
      rw[ipQ uf0]
      simp only[pg3]
      have HK:=hH hK
      have HS:=hH uH
      clear hK uH
      go_wp2_with fail
      obtain⟨WA,hWA⟩:∃WA,WA=(World.alloc w4 (.cells #[.int .i64 0,.int .i64 0,.string ⟨#[]⟩,.slice none 0 0] 27)):=⟨_,rfl⟩
      rw[←hWA]
      have hza:WA.heap[w4.heap.size]? =some (.cells #[.int .i64 0,.int .i64 0,.string ⟨#[]⟩,.slice none 0 0] 27 (0,0)):=by rw[hWA];exact hanQ w4 _
      have hba:Below w4.heap.size w4 WA:=by rw[hWA];exact (BrQ _ _).alloc (NlrQ _) _
      have hsa:WA.heap.size=w4.heap.size+1:=by rw[hWA];simp[World.drew]
      have hbaw:Below wo.heap.size wo WA:=HS.out.trans (hba.mono HS.out.size)
      have HA:=hH (aN hza (aN hba (aN hsa (aN hbaw (show wo.heap.size≤w4.heap.size from HS.out.size)))))
      refine HK.out _ _ hbaw (fun uH=>?_)
      clear hbaw
      clear HK HS hza hba hsa hWA
      refine rd [10] ?_
      refine AcQ (o:=_) rfl (fun K hK=>?_) AnQ
      rw[ipQ uf0]
      simp only[pg3]
      have HK:=hH hK
      have HS:=hH uH
      clear hK uH
      have hz:=HA.out.1
      have hbc:=HA.out.2.2.2.1
      have hxb:wo.heap.size≤w4.heap.size:=HA.out.2.2.2.2
      have hXs:=HX.out
      have hkf:zk WA (fun q=>q<WA.heap.size∧q≠w4.heap.size∧(q<wo.heap.size→¬(q=w.heap.size∨q=w.heap.size+1))) y.kids ya:=H4.out.2.1.kept fun q hq=>⟨⟨by have:=hq.1;have:=HA.out.2.2.1;omega,by have:=hq.1;omega,fun hl=>hq.2.elim (fun h=>h.2) (fun h=>by omega)⟩,HA.out.2.1.block q hq.1⟩
      clear hXs
      obtain⟨z0,z1,z2,z3⟩:=zH hz
      have zf:∀j,WA.frozen? ⟨w4.heap.size,j,none⟩=false:=fun j=>forQ _ _ j _ _ hz
      obtain⟨V5,e5,r1,r2,r3,r4,r5,r6⟩:=zu (u0:= .int .i64 y.id) (u1:= .int .i64 y.kind) (u2:= .string y.text) (u3:= .slice ya ym yc) hz
      have hD:zgN (fun q=>q=w.heap.size∨q=w.heap.size+1) wo er y ya ym yc w4.heap.size V5:=⟨⟨r3.trans hbc.os,r4.trans hbc.tape,r5.trans hbc.output,by rw[r6];exact hbc.size,fun q hq=>(r2 q om).trans (hbc.block q hq)⟩,r1,hxb,H4.out.2.2.2.2.2,by rw[H4.out.2.2.2.2.2];exact H4.out.1,hkf.kept fun q hq=>⟨⟨by rw[r6];exact hq.1,hq.2.1,hq.2.2⟩,r2 q hq.2.1⟩⟩
      have HD:=hH (aN hD e5)
      clear hz r1 r2 r3 r4 r5 r6 hD hbc hxb hkf e5
      go_wp2_with fail
      rw[←HD.out.2]
      refine HK.out _ _ HD.out.1.below (fun uH=>?_)
      clear HK HS z0 z1 z2 z3 zf
      refine tG (i:=11) (.int .i64 er) rfl ?_
      simp only[Act.put,pg]
      refine wpAnyH_done kr1 ?_ _
      clear uH
      replace HD:=hH HD.out.1
      replace H4:=hH (aN H4.out.2.2.2.1 H4.out.2.2.2.2.1)
      obtain⟨xb,hxbe⟩:∃xb,xb=w4.heap.size:=⟨_,rfl⟩
      exact sb3
    · rw[ipQ uf0]
      simp only[pg3]
      have HK:=hH hK
      have HS:=hH uH
      clear hK uH
      go_wp2_with fail
      obtain⟨WA,hWA⟩:∃WA,WA=(World.alloc wo (.cells #[.int .i64 0,.int .i64 0,.string ⟨#[]⟩,.slice none 0 0] 27)).drew:=⟨_,rfl⟩
      rw[←hWA]
      have hza:WA.heap[wo.heap.size]? =some (.cells #[.int .i64 0,.int .i64 0,.string ⟨#[]⟩,.slice none 0 0] 27 (0,0)):=by rw[hWA];exact hanQ wo _
      have hba:Below wo.heap.size wo WA:=by rw[hWA];exact ((BrQ _ _).alloc (NlrQ _) _).drew
      have hsa:WA.heap.size=wo.heap.size+1:=by rw[hWA];simp[World.drew]
      have HA:=hH (aN hza (aN hba hsa))
      refine HK.out _ _ hba (fun uH=>?_)
      clear HK HS hza hba hsa hWA
      refine rd [5] ?_
      refine AcQ (o:=_) rfl (fun K hK=>?_) AnQ
      rw[ipQ uf0]
      simp only[pg3]
      have HK:=hH hK
      have HS:=hH uH
      clear hK uH
      go_wp2_with (go_at_call 25;refine (HCALL.out _ HS.out).mono ?_;rintro e w4 ⟨y,ya,yc,er,rfl,hyc,hyf,hb4,he1,he2⟩)
      obtain⟨ym,hym⟩:∃ym,ym=foLen y.kids:=⟨_,rfl⟩
      have H4:=hH (aN hyc (aN hyf (aN hb4 (aN he1 (aN he2 hym)))))
      have hb4w:=HS.out.trans (hb4.mono HS.out.size)
      have HX:=hH (aN HS.out.size ((hb4.block _ (lohQ HA.out.1)).trans HA.out.1))
      rw[←hym]
      refine HK.out _ _ hb4w (fun uH=>?_)
      clear HK HS hyc hyf hb4 he1 he2 hym
      refine tG (i:=6) (.tuple #[.agg #[.int .i64 y.id,.int .i64 y.kind,.string y.text,.slice ya ym yc],.int .i64 er]) rfl ?_
      simp only[Act.put,pg]
      refine tG (i:=7) (.agg #[.int .i64 y.id,.int .i64 y.kind,.string y.text,.slice ya ym yc]) rfl ?_
      simp only[Act.put,pg]
      refine tG (i:=8) (.int .i64 er) rfl ?_
      simp only[Act.put,pg]
      refine rd [10] ?_
      refine AcQ (o:=_) rfl (fun K hK=>?_) AnQ
      rw[ipQ uf0]
      simp only[pg3]
      have HK:=hH hK
      have HS:=hH uH
      clear hK uH
      have hz:=HX.out.2
      have hbc:=HS.out
      have hxb:wo.heap.size≤wo.heap.size:=NlrQ _
      have hkf:zk w4 (fun q=>q<w4.heap.size∧q≠wo.heap.size∧(q<wo.heap.size→¬(q=w.heap.size∨q=w.heap.size+1))) y.kids ya:=H4.out.2.1.kept fun q hq=>⟨⟨hq.1,by have:=HA.out.2.2;exact hq.2.elim (fun h=>by have:=h.1;omega) (fun h=>by omega),fun hl=>hq.2.elim (fun h=>h.2) (fun h=>by have:=HA.out.2.2;omega)⟩,rfl⟩
      obtain⟨z0,z1,z2,z3⟩:=zH hz
      have zf:∀j,w4.frozen? ⟨wo.heap.size,j,none⟩=false:=fun j=>forQ _ _ j _ _ hz
      obtain⟨V5,e5,r1,r2,r3,r4,r5,r6⟩:=zu (u0:= .int .i64 y.id) (u1:= .int .i64 y.kind) (u2:= .string y.text) (u3:= .slice ya ym yc) hz
      have hD:zgN (fun q=>q=w.heap.size∨q=w.heap.size+1) wo er y ya ym yc wo.heap.size V5:=⟨⟨r3.trans hbc.os,r4.trans hbc.tape,r5.trans hbc.output,by rw[r6];exact hbc.size,fun q hq=>(r2 q om).trans (hbc.block q hq)⟩,r1,hxb,H4.out.2.2.2.2.2,by rw[H4.out.2.2.2.2.2];exact H4.out.1,hkf.kept fun q hq=>⟨⟨by rw[r6];exact hq.1,hq.2.1,hq.2.2⟩,r2 q hq.2.1⟩⟩
      have HD:=hH (aN hD e5)
      clear hz r1 r2 r3 r4 r5 r6 hD hbc hxb hkf e5
      go_wp2_with fail
      rw[←HD.out.2]
      refine HK.out _ _ HD.out.1.below (fun uH=>?_)
      clear HK HS z0 z1 z2 z3 zf
      refine tG (i:=11) (.int .i64 er) rfl ?_
      simp only[Act.put,pg]
      refine wpAnyH_done kr1 ?_ _
      clear uH
      replace HD:=hH HD.out.1
      replace H4:=hH (aN H4.out.2.2.2.1 H4.out.2.2.2.2.1)
      obtain⟨xb,hxbe⟩:∃xb,xb=wo.heap.size:=⟨_,rfl⟩
      exact sb3
  · have hki:¬(k:Int)<(n:Int):=by omega
    have hkn:k=n:=by omega
    have hgo2:goN qN JK (steps vs) t=some x:=by
     rw[List.take_of_length_le (by rw[ji,←H.out.2.1];omega)] at hgo
     exact hgo
    have HEE:=hH (Z8 (ok:=JK) (t:=t) (l:=steps vs) (b:=true) hbw r0h om hL.len hL.lies.1 (hL.lies.2.kept fun q hq=>⟨⟨hq.1,fun e=>hq.2 (Or.inr e)⟩,rfl⟩) hzk (fun _=>hgo2) (fun h=>by cases h))
    obtain⟨z0,z1,z2,z3⟩:=zH r0h
    have gz:∀j,wo.frozen? ⟨w.heap.size+1,j,none⟩=false:=fun j=>forQ _ _ j _ _ r0h
    have HZ:=hH (zX r0h (.int .i64 x.id) (.int .i64 x.kind) (.string x.text) (.slice va vn vc))
    obtain⟨x0,x1,x2,x3⟩:=zH hL.cell
    clear hgo hgo2 hwx hL hfar r0h hbw hlt hkn hk hzk
    go_wp2_with fail
    exact brQ (yO rfl _ _ (w.heap.size+1) 27 _ _ _ (.bool true) rfl HZ.out.1 Try.underlying27 rfl kr1 rfl) rfl HEE.out
end Go.Proofs.Ytnikgofkldkdkaa
