/-
  .
-/
import Derived.Test.YtgkmmnihaiopaaaGreatKFreshQu
import Derived.Test.YtgkmmnihaiopaaaGreatJPgQu
import Derived.Test.YtgkmmnihaiopaaaGreatJPsQu
set_option maxRecDepth 100000
set_option maxHeartbeats 40000000
namespace Go.Proofs.YtgkmmnihaiopaaaGreat
open Go.RowKit Go.Shelf
set_option linter.unusedVariables false
set_option linter.unusedSimpArgs false
theorem zdF (w:World) (S Sx T:Nat→Prop) (nv:Value) (t x:Tr) (id par at_:Int) (tx:ByteArray) (sa:Option Addr) (sn sc:Nat) (pr:Tr×Int) (hS:∀y,S y→y<w.heap.size) (hSx:∀y,Sx y→y<w.heap.size) (hT:∀y,T y→y<w.heap.size) (ht:zJ w S nv t) (hx:zJ w Sx (.agg #[.int .i64 x.id,.int .i64 x.kind,.string x.text,.slice sa sn sc]) x) (hsz:zg t.kids+1≤2000) (hxz:zg x.kids+1≤2000) (hmz:zg pr.1.kids≤100000)
 (hmv:∀X,Below w.heap.size w X→Calls Tryz.prog 79 #[nv,.agg #[.int .i8 3,.int .i64 id,.int .i64 par,.int .i64 at_,.string tx,.int .i64 x.id,.int .i64 x.kind,.string x.text,.slice sa sn sc]] X (jQ X T pr)):
 Calls Tryz.prog 44 #[nv,.agg #[.int .i8 3,.int .i64 id,.int .i64 par,.int .i64 at_,.string tx,.int .i64 x.id,.int .i64 x.kind,.string x.text,.slice sa sn sc]] w (vM w T pr):=by
 obtain⟨ka,tc,rfl,hcap,hk⟩:=ht
 obtain⟨nk,hnk⟩:∃nk,nk=foLen t.kids:=⟨_,rfl⟩
 rw[←hnk] at hmv ⊢
 obtain⟨B,hB⟩:∃B,B=zt w [.cells #[.int .i64 t.id,.int .i64 t.kind,.string t.text,.slice ka nk tc] 27,.cells #[.int .i8 3,.int .i64 id,.int .i64 par,.int .i64 at_,.string tx,.int .i64 x.id,.int .i64 x.kind,.string x.text,.slice sa sn sc] 44,.cells #[.int .i64 0,.int .i64 0,.string ⟨#[]⟩,.slice none 0 0] 27]:=⟨_,rfl⟩
 have hb:Below w.heap.size w B:=by rw[hB];exact zm _ _
 have hs:B.heap.size=w.heap.size+3:=by rw[hB];exact zC _ _
 have ht0:B.heap[w.heap.size]? =some (.cells #[.int .i64 t.id,.int .i64 t.kind,.string t.text,.slice ka nk tc] 27 (0,0)):=by rw[hB];exact zi _ _ 0 _ rfl
 have hs0:B.heap[w.heap.size+1]? =some (.cells #[.int .i8 3,.int .i64 id,.int .i64 par,.int .i64 at_,.string tx,.int .i64 x.id,.int .i64 x.kind,.string x.text,.slice sa sn sc] 44 (0,0)):=by rw[hB];exact zi _ _ 1 _ rfl
 have hr0:B.heap[w.heap.size+1+1]? =some (.cells #[.int .i64 0,.int .i64 0,.string ⟨#[]⟩,.slice none 0 0] 27 (0,0)):=by rw[hB];exact zi _ _ 2 _ rfl
 have htr:∀X,Below B.heap.size B X→zJ X S (.agg #[.int .i64 t.id,.int .i64 t.kind,.string t.text,.slice ka nk tc]) t:=fun X hX=>⟨ka,tc,by rw[hnk],by rw[hnk] at*;exact hcap,hk.below (hb.trans (hX.mono hb.size)) hS⟩
 have hSX:∀X,Below B.heap.size B X→∀y,S y→y<X.heap.size:=fun X hX y hy=>nL (hS y hy) (Nat.le_trans hb.size hX.size)
 have hgt:∀X,Below B.heap.size B X→Calls Tryz.prog 62 #[.agg #[.int .i64 t.id,.int .i64 t.kind,.string t.text,.slice ka nk tc]] X _:=fun X hX=>qL X S _ t (hSX X hX) (htr X hX) hsz
 have hgx:∀X,Below B.heap.size B X→Calls Tryz.prog 62 #[.agg #[.int .i64 x.id,.int .i64 x.kind,.string x.text,.slice sa sn sc]] X _:=fun X hX=>qL X Sx _ x (fun y hy=>nL (hSx y hy) (Nat.le_trans hb.size hX.size)) (by
  obtain⟨qa,qc,e,h1,h2⟩:=hx
  exact⟨qa,qc,e,h1,h2.below (hb.trans (hX.mono hb.size)) hSx⟩) hxz
 have hmv2:∀X,Below B.heap.size B X→Calls Tryz.prog 79 #[.agg #[.int .i64 t.id,.int .i64 t.kind,.string t.text,.slice ka nk tc],.agg #[.int .i8 3,.int .i64 id,.int .i64 par,.int .i64 at_,.string tx,.int .i64 x.id,.int .i64 x.kind,.string x.text,.slice sa sn sc]] X (jQ X T pr):=fun X hX=>hmv X (hb.trans (hX.mono hb.size))
 have hcell:∀X,Below B.heap.size B X→(X.cell? ⟨w.heap.size,0,none⟩=some (.int .i64 t.id)∧X.cell? ⟨w.heap.size,1,none⟩=some (.int .i64 t.kind)∧X.cell? ⟨w.heap.size,2,none⟩=some (.string t.text)∧X.cell? ⟨w.heap.size,3,none⟩=some (.slice ka nk tc))∧(X.cell? ⟨w.heap.size+1,0,none⟩=some (.int .i8 3)∧X.cell? ⟨w.heap.size+1,1,none⟩=some (.int .i64 id)∧X.cell? ⟨w.heap.size+1,2,none⟩=some (.int .i64 par)∧X.cell? ⟨w.heap.size+1,3,none⟩=some (.int .i64 at_)∧X.cell? ⟨w.heap.size+1,4,none⟩=some (.string tx)∧X.cell? ⟨w.heap.size+1,5,none⟩=some (.int .i64 x.id)∧X.cell? ⟨w.heap.size+1,6,none⟩=some (.int .i64 x.kind)∧X.cell? ⟨w.heap.size+1,7,none⟩=some (.string x.text)∧X.cell? ⟨w.heap.size+1,8,none⟩=some (.slice sa sn sc)):=fun X hX=>by
  exact sb3
 obtain⟨yid,hyid⟩:∃z,z=pr.1.id:=⟨_,rfl⟩
 obtain⟨ykd,hykd⟩:∃z,z=pr.1.kind:=⟨_,rfl⟩
 obtain⟨ytx,hytx⟩:∃z,z=pr.1.text:=⟨_,rfl⟩
 obtain⟨yn,hyn⟩:∃z,z=foLen pr.1.kids:=⟨_,rfl⟩
 obtain⟨ye,hye⟩:∃z,z=pr.2:=⟨_,rfl⟩
 have HL:=hH (aN hyid (aN hykd (aN hytx (aN hyn hye))))
 have HG:=hH (aN hgt hgx)
 have HM:=hH (aN hmv2 hmz)
 have HCE:=hH hcell
 have HTS:=hH hT
 have HB:=hH (aN hb (aN hs hr0))
 have HBE:=hH hB
 clear hgt hgx hmv hmv2 hcell htr hSX hb hs ht0 hs0 hr0 hS hSx hk hcap hsz hxz hnk hB hmz hx hT hyid hykd hytx hyn hye
 go_enter Tryz.func44,Tryz.ntmps44
 go_wp2_with fail
 change Calls _ _ _ (zt w [.cells #[.int .i64 t.id,.int .i64 t.kind,.string t.text,.slice ka nk tc] 27,.cells #[.int .i8 3,.int .i64 id,.int .i64 par,.int .i64 at_,.string tx,.int .i64 x.id,.int .i64 x.kind,.string x.text,.slice sa sn sc] 44,.cells #[.int .i64 0,.int .i64 0,.string ⟨#[]⟩,.slice none 0 0] 27]) _
 rw[←HBE.out]
 refine (HG.out.1 B (BrQ _ _)).mono ?_
 rintro e W1 ⟨rfl,hb1⟩
 obtain⟨⟨n0,n1,n2,n3⟩,m0,m1,m2,m3,m4,m5,m6,m7,m8⟩:=HCE.out W1 hb1
 have H1:=hH hb1
 clear hb1
 go_wp2_with fail
 refine (HG.out.2 W1 H1.out).mono ?_
 rintro e W2 ⟨rfl,hb12⟩
 have hb2:Below B.heap.size B W2:=H1.out.trans (hb12.mono H1.out.size)
 clear n0 n1 n2 n3 m0 m1 m2 m3 m4 m5 m6 m7 m8 H1 hb12
 obtain⟨⟨n0,n1,n2,n3⟩,m0,m1,m2,m3,m4,m5,m6,m7,m8⟩:=HCE.out W2 hb2
 have HOP:=hH (qU W2)
 have H2:=hH hb2
 clear hb2
 go_wp2_with fail
 refine HOP.out.mono ?_
 rintro e W3 ⟨rfl,hb23⟩
 unfold opsV
 have hb3:Below B.heap.size B W3:=H2.out.trans (hb23.mono H2.out.size)
 obtain⟨W4,hW4⟩:∃W4,W4=W3.alloc (.cells #[.nilFunc,.func (.func 77) #[] #[],.func (.func 78) #[] #[],.func (.func 79) #[] #[],.func (.func 80) #[] #[]] 105):=⟨_,rfl⟩
 have hb34:Below W3.heap.size W3 W4:=by rw[hW4];exact (BrQ _ _).alloc (Nat.le_refl _) _
 have ho4:W4.heap[W3.heap.size]? =some zhm:=by rw[hW4];exact hanQ W3 _
 have hb4:Below B.heap.size B W4:=hb3.trans (hb34.mono hb3.size)
 have hc4:∀X,Below W4.heap.size W4 X→((X.cell? ⟨w.heap.size,0,none⟩=some (.int .i64 t.id)∧X.cell? ⟨w.heap.size,1,none⟩=some (.int .i64 t.kind)∧X.cell? ⟨w.heap.size,2,none⟩=some (.string t.text)∧X.cell? ⟨w.heap.size,3,none⟩=some (.slice ka nk tc))∧(X.cell? ⟨w.heap.size+1,0,none⟩=some (.int .i8 3)∧X.cell? ⟨w.heap.size+1,1,none⟩=some (.int .i64 id)∧X.cell? ⟨w.heap.size+1,2,none⟩=some (.int .i64 par)∧X.cell? ⟨w.heap.size+1,3,none⟩=some (.int .i64 at_)∧X.cell? ⟨w.heap.size+1,4,none⟩=some (.string tx)∧X.cell? ⟨w.heap.size+1,5,none⟩=some (.int .i64 x.id)∧X.cell? ⟨w.heap.size+1,6,none⟩=some (.int .i64 x.kind)∧X.cell? ⟨w.heap.size+1,7,none⟩=some (.string x.text)∧X.cell? ⟨w.heap.size+1,8,none⟩=some (.slice sa sn sc)))∧X.cell? ⟨W3.heap.size,3,none⟩=some (.func (.func 79) #[] #[]):=fun X hX=>⟨HCE.out X (hb4.trans (hX.mono hb4.size)),by rw[corQ _ _ 3 _ _ _ ((hX.block _ (lohQ ho4)).trans ho4)];rfl⟩
 clear n0 n1 n2 n3 m0 m1 m2 m3 m4 m5 m6 m7 m8 HOP hb23
 have HB4:=hH hb4
 have HC4:=hH hc4
 have HW4:=hH hW4
 obtain⟨⟨n0,n1,n2,n3⟩,m0,m1,m2,m3,m4,m5,m6,m7,m8⟩:=HCE.out W4 hb4
 clear hb3 hb34 ho4 hb4 hW4 hc4
 go_upto_region 4 with fail
 change Code.wp _ _ _ _ (W3.alloc (.cells #[.nilFunc,.func (.func 77) #[] #[],.func (.func 78) #[] #[],.func (.func 79) #[] #[],.func (.func 80) #[] #[]] 105))
 rw[←HW4.out]
 go_upto_region 6 with fail
 clear n0 n1 n2 n3 m0 m1 m2 m3 m4 m5 m6 m7 m8
 refine wp_region_held_drew (S:=fun X=>Below W4.heap.size W4 X) kr1 (below_drewN (BrQ _ W4) 1) (fun hHeld=>?_)
 refine tG (i:=0) (.pointer (some ⟨w.heap.size+1,0,none⟩)) rfl ?_
 simp only[Act.put,pg]
 refine tJ (i:=1) (.int .i8 3) rfl ?_ ?_
 · clear hHeld;intro X hSw;obtain⟨⟨⟨n0,n1,n2,n3⟩,m0,m1,m2,m3,m4,m5,m6,m7,m8⟩,oc⟩:=HC4.out X hSw;clear hSw;go_simp
 simp only[Act.put,pg]
 refine tG (i:=2) (.pointer (some ⟨W3.heap.size,3,none⟩)) rfl ?_
 simp only[Act.put,pg]
 refine tJ (i:=3) (.func (.func 79) #[] #[]) rfl ?_ ?_
 · clear hHeld;intro X hSw;obtain⟨⟨⟨n0,n1,n2,n3⟩,m0,m1,m2,m3,m4,m5,m6,m7,m8⟩,oc⟩:=HC4.out X hSw;clear hSw;go_simp
 simp only[Act.put,pg]
 refine tJ (i:=4) (.agg #[.int .i64 t.id,.int .i64 t.kind,.string t.text,.slice ka nk tc]) rfl ?_ ?_
 · clear hHeld;intro X hSw;obtain⟨⟨⟨n0,n1,n2,n3⟩,m0,m1,m2,m3,m4,m5,m6,m7,m8⟩,oc⟩:=HC4.out X hSw;clear hSw;go_simp
 simp only[Act.put,pg]
 refine tJ (i:=5) (.agg #[.int .i8 3,.int .i64 id,.int .i64 par,.int .i64 at_,.string tx,.int .i64 x.id,.int .i64 x.kind,.string x.text,.slice sa sn sc]) rfl ?_ ?_
 · clear hHeld;intro X hSw;obtain⟨⟨⟨n0,n1,n2,n3⟩,m0,m1,m2,m3,m4,m5,m6,m7,m8⟩,oc⟩:=HC4.out X hSw;clear hSw;go_simp
 simp only[Act.put,pg]
 refine wpAnyH_ready (rs:=[6,10]) kr1 sp1 ?_
 refine AcQ (o:=_) rfl (fun K hK=>?_) (AcQ (o:=_) rfl (fun K hK=>?_) AnQ)
 · rw[if_pos (by rfl)]
   simp only[pg3]
   have HK:=hH hK
   have HS:=hH hHeld
   clear hK hHeld
   go_wp2_with (go_at_call 79;refine (HM.out.1 _ (HB4.out.trans ((HS.out).mono HB4.out.size))).mono ?_;rintro e w5 ⟨_,rfl,⟨yb,yc,rfl,hyc,hyk⟩,hb5⟩;have H5:=hH (aN hyc (aN hyk hb5));have HS5:=hH (HS.out.trans (hb5.mono HS.out.size));have HS4:=hH HS.out.size;have HX5:=hH (Nat.le_trans HS.out.size hb5.size);clear hyc hyk hb5;rw[←HL.out.1,←HL.out.2.1,←HL.out.2.2.1,←HL.out.2.2.2.1,←HL.out.2.2.2.2])
   refine HK.out _ _ HS5.out (fun hHeld=>?_)
   clear HK HS
   refine tG (i:=7) (.tuple #[.agg #[.int .i64 yid,.int .i64 ykd,.string ytx,.slice yb yn yc],.int .i64 ye]) rfl ?_
   simp only[Act.put,pg]
   refine tG (i:=8) (.agg #[.int .i64 yid,.int .i64 ykd,.string ytx,.slice yb yn yc]) rfl ?_
   simp only[Act.put,pg]
   refine tG (i:=9) (.int .i64 ye) rfl ?_
   simp only[Act.put,pg]
   refine wpAnyH_ready (rs:=[10]) kr1 sp1 ?_
   refine AcQ (o:=_) rfl (fun K hK=>?_) AnQ
   rw[if_pos (by rfl)]
   simp only[pg3]
   have HK:=hH hK
   have HS:=hH hHeld
   clear hK hHeld
   go_wp2_with fail
   obtain⟨WA,hWA⟩:∃WA,WA=(World.alloc w5 (.cells #[.int .i64 0,.int .i64 0,.string ⟨#[]⟩,.slice none 0 0] 27)):=⟨_,rfl⟩
   rw[←hWA]
   have hza:WA.heap[w5.heap.size]? =some (.cells #[.int .i64 0,.int .i64 0,.string ⟨#[]⟩,.slice none 0 0] 27 (0,0)):=by rw[hWA];exact hanQ w5 _
   have hba:Below w5.heap.size w5 WA:=by rw[hWA];exact zh _ _
   have hsa:WA.heap.size=w5.heap.size+1:=by rw[hWA];exact yu _ _
   have HA:=hH (aN hza (aN hba hsa))
   refine HK.out _ _ (HS.out.trans (hba.mono HS.out.size)) (fun hHeld=>?_)
   clear HK HS hza hba hsa hWA
   refine wpAnyH_ready (rs:=[11]) kr1 sp1 ?_
   refine AcQ (o:=_) rfl (fun K hK=>?_) AnQ
   rw[if_pos (by rfl)]
   simp only[pg3]
   have HK:=hH hK
   have HS:=hH hHeld
   clear hK hHeld
   have hz:WA.heap[w5.heap.size]? =some (.cells #[.int .i64 0,.int .i64 0,.string ⟨#[]⟩,.slice none 0 0] 27 (0,0)):=HA.out.1
   obtain⟨z0,z1,z2,z3⟩:=zG hz
   have zf:∀j,WA.frozen? ⟨w5.heap.size,j,none⟩=false:=fun j=>forQ _ _ j _ _ hz
   obtain⟨V5,e5,r1,r2,r3,r4,r5,r6⟩:=zA (u0:= .int .i64 yid) (u1:= .int .i64 ykd) (u2:= .string ytx) (u3:= .slice yb yn yc) hz
   have hb5:Below W4.heap.size W4 V5:=⟨r3.trans HS.out.os,r4.trans HS.out.tape,r5.trans HS.out.output,by rw[r6];exact HS.out.size,fun y hy=>(r2 y (by have:=HS5.out.size;have:=HA.out.2.2;omega)).trans (HS.out.block y hy)⟩
   have hk5:zu V5 (fun z=>T z∨W4.heap.size≤z) pr.1.kids yb:=H5.out.2.1.kept fun z hz=>⟨hz.imp (fun h=>h) (fun h=>Nat.le_trans HS4.out h.1),((r2 z (by rcases hz with h | h;have:=HTS.out z h;have:=HB.out.2.1;have:=HB4.out.size;have:=HX5.out;omega;omega)).trans (HA.out.2.1.block z (by rcases hz with h | h;have:=HTS.out z h;have:=HB.out.2.1;have:=HB4.out.size;have:=HX5.out;omega;omega)))⟩
   have hyc5:=H5.out.1
   rw[←HL.out.2.2.2.1] at hyc5
   have H6:=hH (aN hb5 (aN e5 (aN r1 (aN hk5 hyc5))))
   clear hz r1 r2 r3 r4 r5 r6 hb5 e5 hk5 hyc5
   go_wp2_with fail
   rw[←H6.out.2.1]
   refine HK.out _ _ H6.out.1 (fun hHeld=>?_)
   clear HK HS z0 z1 z2 z3 zf HA H5 HS5
   refine tG (i:=12) (.int .i64 ye) rfl ?_
   simp only[Act.put,pg]
   refine wpAnyH_done kr1 ?_ _
   clear hHeld
   obtain⟨xb,hxb⟩:∃xb,xb=w5.heap.size:=⟨_,rfl⟩
   have hgx:w.heap.size+3≤xb:=by rw[hxb];have:=HB.out.2.1;have:=HB4.out.size;have:=HX5.out;omega
   exact sa0
 · rw[if_pos (by rfl)]
   simp only[pg3]
   have HK:=hH hK
   have HS:=hH hHeld
   clear hK hHeld
   go_wp2_with fail
   obtain⟨WA,hWA⟩:∃WA,WA=(World.alloc W4 (.cells #[.int .i64 0,.int .i64 0,.string ⟨#[]⟩,.slice none 0 0] 27)).drew:=⟨_,rfl⟩
   rw[←hWA]
   have hza:WA.heap[W4.heap.size]? =some (.cells #[.int .i64 0,.int .i64 0,.string ⟨#[]⟩,.slice none 0 0] 27 (0,0)):=by rw[hWA];exact hanQ W4 _
   have hba:Below W4.heap.size W4 WA:=by rw[hWA];exact below_drewN (zh _ _) 1
   have hsa:WA.heap.size=W4.heap.size+1:=by rw[hWA];exact yu _ _
   have HA:=hH (aN hza (aN hba hsa))
   refine HK.out _ _ (hba) (fun hHeld=>?_)
   clear HK HS hza hba hsa hWA
   refine wpAnyH_ready (rs:=[6]) kr1 sp1 ?_
   refine AcQ (o:=_) rfl (fun K hK=>?_) AnQ
   rw[if_pos (by rfl)]
   simp only[pg3]
   have HK:=hH hK
   have HS:=hH hHeld
   clear hK hHeld
   go_wp2_with (go_at_call 79;refine (HM.out.1 _ (HB4.out.trans ((HS.out).mono HB4.out.size))).mono ?_;rintro e w5 ⟨_,rfl,⟨yb,yc,rfl,hyc,hyk⟩,hb5⟩;have H5:=hH (aN hyc (aN hyk hb5));have HS5:=hH (HS.out.trans (hb5.mono HS.out.size));have HZB:=hH ((hb5.block _ (lohQ HA.out.1)).trans HA.out.1);clear hyc hyk hb5;rw[←HL.out.1,←HL.out.2.1,←HL.out.2.2.1,←HL.out.2.2.2.1,←HL.out.2.2.2.2])
   refine HK.out _ _ HS5.out (fun hHeld=>?_)
   clear HK HS
   refine tG (i:=7) (.tuple #[.agg #[.int .i64 yid,.int .i64 ykd,.string ytx,.slice yb yn yc],.int .i64 ye]) rfl ?_
   simp only[Act.put,pg]
   refine tG (i:=8) (.agg #[.int .i64 yid,.int .i64 ykd,.string ytx,.slice yb yn yc]) rfl ?_
   simp only[Act.put,pg]
   refine tG (i:=9) (.int .i64 ye) rfl ?_
   simp only[Act.put,pg]
   refine wpAnyH_ready (rs:=[11]) kr1 sp1 ?_
   refine AcQ (o:=_) rfl (fun K hK=>?_) AnQ
   rw[if_pos (by rfl)]
   simp only[pg3]
   have HK:=hH hK
   have HS:=hH hHeld
   clear hK hHeld
   have hz:w5.heap[W4.heap.size]? =some (.cells #[.int .i64 0,.int .i64 0,.string ⟨#[]⟩,.slice none 0 0] 27 (0,0)):=HZB.out
   obtain⟨z0,z1,z2,z3⟩:=zG hz
   have zf:∀j,w5.frozen? ⟨W4.heap.size,j,none⟩=false:=fun j=>forQ _ _ j _ _ hz
   obtain⟨V5,e5,r1,r2,r3,r4,r5,r6⟩:=zA (u0:= .int .i64 yid) (u1:= .int .i64 ykd) (u2:= .string ytx) (u3:= .slice yb yn yc) hz
   have hb5:Below W4.heap.size W4 V5:=⟨r3.trans HS.out.os,r4.trans HS.out.tape,r5.trans HS.out.output,by rw[r6];exact HS.out.size,fun y hy=>(r2 y (by have:=HS5.out.size;have:=HA.out.2.2;omega)).trans (HS.out.block y hy)⟩
   have hk5:zu V5 (fun z=>T z∨W4.heap.size≤z) pr.1.kids yb:=H5.out.2.1.kept fun z hz=>⟨hz.imp (fun h=>h) (fun h=>by have:=HA.out.2.2;omega),r2 z (by rcases hz with h | h;have:=HTS.out z h;have:=HB.out.2.1;have:=HB4.out.size;omega;have:=HA.out.2.2;omega)⟩
   have hyc5:=H5.out.1
   rw[←HL.out.2.2.2.1] at hyc5
   have H6:=hH (aN hb5 (aN e5 (aN r1 (aN hk5 hyc5))))
   clear hz r1 r2 r3 r4 r5 r6 hb5 e5 hk5 hyc5
   go_wp2_with fail
   rw[←H6.out.2.1]
   refine HK.out _ _ H6.out.1 (fun hHeld=>?_)
   clear HK HS z0 z1 z2 z3 zf HA H5 HS5
   refine tG (i:=12) (.int .i64 ye) rfl ?_
   simp only[Act.put,pg]
   refine wpAnyH_done kr1 ?_ _
   clear hHeld
   obtain⟨xb,hxb⟩:∃xb,xb=W4.heap.size:=⟨_,rfl⟩
   have hgx:w.heap.size+3≤xb:=by rw[hxb];have:=HB.out.2.1;have:=HB4.out.size;omega
   exact sa0
end Go.Proofs.YtgkmmnihaiopaaaGreat
