/-
  .
-/
import Derived.Test.YtnikgofkldkdkaaKInsertQt
set_option maxRecDepth 100000
set_option maxHeartbeats 40000000
namespace Go.Proofs.Ytnikgofkldkdkaa
open Go.RowKit Go.Shelf
set_option linter.unusedVariables false
set_option linter.unusedSimpArgs false
theorem zdX (w:World)(S Sx T:Nat→Prop)(nv:Value)(t x:Tr)(id par at_:Int)(tx:ByteArray)(sa:Option Addr)(sn sc:Nat)(pr:Tr×Int)(hS:∀y,S y→y<w.heap.size)(hSx:∀y,Sx y→y<w.heap.size)(hT:∀y,T y→y<w.heap.size)(ht:zK w S nv t)(hx:zK w Sx (.agg #[.int .i64 x.id,.int .i64 x.kind,.string x.text,.slice sa sn sc]) x)(hsz:za t.kids+1≤2000)(hxz:za x.kids+1≤2000)(hmz:za pr.1.kids≤100000)
 (hmv:∀X,Below w.heap.size w X→Calls Try.prog 55 #[nv,.agg #[.int .i8 3,.int .i64 id,.int .i64 par,.int .i64 at_,.string tx,.int .i64 x.id,.int .i64 x.kind,.string x.text,.slice sa sn sc]] X (j6 X T pr)):
 Calls Try.prog 25 #[nv,.agg #[.int .i8 3,.int .i64 id,.int .i64 par,.int .i64 at_,.string tx,.int .i64 x.id,.int .i64 x.kind,.string x.text,.slice sa sn sc]] w (jb w T pr):=by
 obtain⟨ka,tc,rfl,hcap,hk⟩:=ht
 obtain⟨nk,hnk⟩:∃nk,nk=foLen t.kids:=⟨_,rfl⟩
 rw[←hnk] at hmv ⊢
 obtain⟨B,hB⟩:∃B,B=zx w [.cells #[.int .i64 t.id,.int .i64 t.kind,.string t.text,.slice ka nk tc] 27,.cells #[.int .i8 3,.int .i64 id,.int .i64 par,.int .i64 at_,.string tx,.int .i64 x.id,.int .i64 x.kind,.string x.text,.slice sa sn sc] 49,.cells #[.int .i64 0,.int .i64 0,.string ⟨#[]⟩,.slice none 0 0] 27]:=⟨_,rfl⟩
 have hb:Below w.heap.size w B:=by rw[hB];exact zl _ _
 have hs:B.heap.size=w.heap.size+3:=by rw[hB];exact zJ _ _
 have ht0:B.heap[w.heap.size]? =some (.cells #[.int .i64 t.id,.int .i64 t.kind,.string t.text,.slice ka nk tc] 27 (0,0)):=by rw[hB];exact ze _ _ 0 _ rfl
 have hs0:B.heap[w.heap.size+1]? =some (.cells #[.int .i8 3,.int .i64 id,.int .i64 par,.int .i64 at_,.string tx,.int .i64 x.id,.int .i64 x.kind,.string x.text,.slice sa sn sc] 49 (0,0)):=by rw[hB];exact ze _ _ 1 _ rfl
 have hr0:B.heap[w.heap.size+1+1]? =some (.cells #[.int .i64 0,.int .i64 0,.string ⟨#[]⟩,.slice none 0 0] 27 (0,0)):=by rw[hB];exact ze _ _ 2 _ rfl
 have htr:∀X,Below B.heap.size B X→zK X S (.agg #[.int .i64 t.id,.int .i64 t.kind,.string t.text,.slice ka nk tc]) t:=fun X hX=>⟨ka,tc,by rw[hnk],by rw[hnk] at*;exact hcap,hk.below (hb.trans (hX.mono hb.size)) hS⟩
 have hSX:∀X,Below B.heap.size B X→∀y,S y→y<X.heap.size:=fun X hX y hy=>nL (hS y hy) (NltQ hb.size hX.size)
 have hgt:∀X,Below B.heap.size B X→Calls Try.prog 38 #[.agg #[.int .i64 t.id,.int .i64 t.kind,.string t.text,.slice ka nk tc]] X _:=fun X hX=>qP X S _ t (hSX X hX) (htr X hX) hsz
 have hgx:∀X,Below B.heap.size B X→Calls Try.prog 38 #[.agg #[.int .i64 x.id,.int .i64 x.kind,.string x.text,.slice sa sn sc]] X _:=fun X hX=>qP X Sx _ x (fun y hy=>nL (hSx y hy) (NltQ hb.size hX.size)) (by
  obtain⟨qa,qc,e,h1,h2⟩:=hx
  exact⟨qa,qc,e,h1,h2.below (hb.trans (hX.mono hb.size)) hSx⟩) hxz
 have hmv2:∀X,Below B.heap.size B X→Calls Try.prog 55 #[.agg #[.int .i64 t.id,.int .i64 t.kind,.string t.text,.slice ka nk tc],.agg #[.int .i8 3,.int .i64 id,.int .i64 par,.int .i64 at_,.string tx,.int .i64 x.id,.int .i64 x.kind,.string x.text,.slice sa sn sc]] X (j6 X T pr):=fun X hX=>hmv X (hb.trans (hX.mono hb.size))
 have hcell:∀X,Below B.heap.size B X→(uf1 X w.heap.size t.id t.kind t.text ka nk tc)∧(uf2 X (w.heap.size+1) 3 id par at_ tx x.id x.kind x.text sa sn sc):=fun X hX=>by
  exact sb4
 obtain⟨yid,hyid⟩:∃z,z=pr.1.id:=⟨_,rfl⟩
 obtain⟨ykd,hykd⟩:∃z,z=pr.1.kind:=⟨_,rfl⟩
 obtain⟨ytx,hytx⟩:∃z,z=pr.1.text:=⟨_,rfl⟩
 obtain⟨yn,hyn⟩:∃z,z=foLen pr.1.kids:=⟨_,rfl⟩
 obtain⟨ye,hye⟩:∃z,z=pr.2:=⟨_,rfl⟩
 have HL:=hH (aN hyid (aN hykd (aN hytx (aN hyn hye))))
 have HG:=hH (aN hgt hgx)
 have HM:=hH (aN hmv2 hmz)
 have HCE:=hH hcell
 have HTS:=hH hT
 have HB:=hH (aN hb (aN hs hr0))
 have HBE:=hH hB
 clear hgt hgx hmv hmv2 hcell htr hSX hb hs ht0 hs0 hr0 hS hSx hk hcap hsz hxz hnk hB hmz hx hT hyid hykd hytx hyn hye
 go_enter Try.func25,Try.ntmps25
 go_wp2_with fail
 change Calls _ _ _ (zx w [.cells #[.int .i64 t.id,.int .i64 t.kind,.string t.text,.slice ka nk tc] 27,.cells #[.int .i8 3,.int .i64 id,.int .i64 par,.int .i64 at_,.string tx,.int .i64 x.id,.int .i64 x.kind,.string x.text,.slice sa sn sc] 49,.cells #[.int .i64 0,.int .i64 0,.string ⟨#[]⟩,.slice none 0 0] 27]) _
 rw[←HBE.out]
 refine (HG.out.1 B (BrQ _ _)).mono ?_
 rintro e W1 ⟨rfl,hb1⟩
 obtain⟨⟨n0,n1,n2,n3⟩,m0,m1,m2,m3,m4,m5,m6,m7,m8⟩:=HCE.out W1 hb1
 have H1:=hH hb1
 clear hb1
 go_wp2_with fail
 refine (HG.out.2 W1 H1.out).mono ?_
 rintro e W2 ⟨rfl,hb12⟩
 have hb2:Below B.heap.size B W2:=H1.out.trans (hb12.mono H1.out.size)
 clear n0 n1 n2 n3 m0 m1 m2 m3 m4 m5 m6 m7 m8 H1 hb12
 obtain⟨⟨n0,n1,n2,n3⟩,m0,m1,m2,m3,m4,m5,m6,m7,m8⟩:=HCE.out W2 hb2
 have HOP:=hH (qZ W2)
 have H2:=hH hb2
 clear hb2
 go_wp2_with fail
 refine HOP.out.mono ?_
 rintro e W3 ⟨rfl,hb23⟩
 unfold opsV
 have hb3:Below B.heap.size B W3:=H2.out.trans (hb23.mono H2.out.size)
 obtain⟨W4,hW4⟩:∃W4,W4=W3.alloc (.cells #[.nilFunc,.func (.func 53) #[] #[],.func (.func 54) #[] #[],.func (.func 55) #[] #[],.func (.func 56) #[] #[]] 81):=⟨_,rfl⟩
 have hb34:Below W3.heap.size W3 W4:=by rw[hW4];exact (BrQ _ _).alloc (NlrQ _) _
 have ho4:W4.heap[W3.heap.size]? =some zh1:=by rw[hW4];exact hanQ W3 _
 have hb4:Below B.heap.size B W4:=hb3.trans (hb34.mono hb3.size)
 have hc4:∀X,Below W4.heap.size W4 X→((uf1 X w.heap.size t.id t.kind t.text ka nk tc)∧(uf2 X (w.heap.size+1) 3 id par at_ tx x.id x.kind x.text sa sn sc))∧X.cell? ⟨W3.heap.size,3,none⟩=some (.func (.func 55) #[] #[]):=fun X hX=>⟨HCE.out X (hb4.trans (hX.mono hb4.size)),by rw[corQ _ _ 3 _ _ _ ((hX.block _ (lohQ ho4)).trans ho4)];rfl⟩
 clear n0 n1 n2 n3 m0 m1 m2 m3 m4 m5 m6 m7 m8 HOP hb23
 have HB4:=hH hb4
 have HC4:=hH hc4
 have HW4:=hH hW4
 obtain⟨⟨n0,n1,n2,n3⟩,m0,m1,m2,m3,m4,m5,m6,m7,m8⟩:=HCE.out W4 hb4
 clear hb3 hb34 ho4 hb4 hW4 hc4
 go_upto_region 4 with fail
 change Code.wp _ _ _ _ (W3.alloc (.cells #[.nilFunc,.func (.func 53) #[] #[],.func (.func 54) #[] #[],.func (.func 55) #[] #[],.func (.func 56) #[] #[]] 81))
 rw[←HW4.out]
 go_upto_region 6 with fail
 clear n0 n1 n2 n3 m0 m1 m2 m3 m4 m5 m6 m7 m8
 refine wrhQ (S:=fun X=>Below W4.heap.size W4 X) kr1 (below_drewN (BrQ _ W4) 1) (fun uH=>?_)
 refine tG (i:=0) (.pointer (some ⟨w.heap.size+1,0,none⟩)) rfl ?_
 simp only[Act.put,pg]
 refine tJ (i:=1) (.int .i8 3) rfl ?_ ?_
 · exact ua4
 simp only[Act.put,pg]
 refine tG (i:=2) (.pointer (some ⟨W3.heap.size,3,none⟩)) rfl ?_
 simp only[Act.put,pg]
 refine tJ (i:=3) (.func (.func 55) #[] #[]) rfl ?_ ?_
 · exact ua4
 simp only[Act.put,pg]
 refine tJ (i:=4) (.agg #[.int .i64 t.id,.int .i64 t.kind,.string t.text,.slice ka nk tc]) rfl ?_ ?_
 · exact ua4
 simp only[Act.put,pg]
 refine tJ (i:=5) (.agg #[.int .i8 3,.int .i64 id,.int .i64 par,.int .i64 at_,.string tx,.int .i64 x.id,.int .i64 x.kind,.string x.text,.slice sa sn sc]) rfl ?_ ?_
 · exact ua4
 exact sa0
end Go.Proofs.Ytnikgofkldkdkaa
