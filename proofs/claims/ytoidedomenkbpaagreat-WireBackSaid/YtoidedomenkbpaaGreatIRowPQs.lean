/-
  .
-/
import Derived.Test.YtoidedomenkbpaaGreatIBacksQs
set_option maxRecDepth 100000
set_option maxHeartbeats 40000000
set_option linter.unusedVariables false
set_option linter.unusedSimpArgs false
namespace Go.Proofs.YtoidedomenkbpaaGreat
open Go.RowKit Go.Shelf
theorem zka (w:World)(S:Nat→Prop)(id par at_ s1 s2:Int)(tx s3:ByteArray)(sa:Option Addr)(sn sc:Nat):
 Calls Tryz.prog 112 #[.agg #[.int .i8 2,.int .i64 id,.int .i64 par,.int .i64 at_,.string tx,.int .i64 s1,.int .i64 s2,.string s3,.slice sa sn sc]] w (Z6 w S ⟨2,id,0,0,⟨#[]⟩,zN⟩):=by
 obtain⟨B,hB⟩:∃B,B=zU w [.cells #[.int .i8 2,.int .i64 id,.int .i64 par,.int .i64 at_,.string tx,.int .i64 s1,.int .i64 s2,.string s3,.slice sa sn sc] 41,.cells #[.int .i8 0,.int .i64 0,.int .i64 0,.int .i64 0,.string ⟨#[]⟩,.int .i64 0,.int .i64 0,.string ⟨#[]⟩,.slice none 0 0] 41]:=⟨_,rfl⟩
 have hb:Below w.heap.size w B:=by rw[hB];exact zR _ _
 have hs0:B.heap[w.heap.size]? =some (.cells #[.int .i8 2,.int .i64 id,.int .i64 par,.int .i64 at_,.string tx,.int .i64 s1,.int .i64 s2,.string s3,.slice sa sn sc] 41 (0,0)):=by rw[hB];exact zD _ _ 0 _ rfl
 have hr0:B.heap[w.heap.size+1]? =some (.cells #[.int .i8 0,.int .i64 0,.int .i64 0,.int .i64 0,.string ⟨#[]⟩,.int .i64 0,.int .i64 0,.string ⟨#[]⟩,.slice none 0 0] 41 (0,0)):=by rw[hB];exact zD _ _ 1 _ rfl
 obtain⟨V9,hV9,v1,v2,v3,v4,v5,v6⟩:=Qv (u0:= .int .i8 2) (u1:= .int .i64 id) (u2:= .int .i64 0) (u3:= .int .i64 0) (u4:= .string ⟨#[]⟩) (u5:= .int .i64 0) (u6:= .int .i64 0) (u7:= .string ⟨#[]⟩) (u8:= .slice none 0 0) hr0
 obtain⟨m0,m1,m2,m3,m4,m5,m6,m7,m8⟩:=Zt hs0
 obtain⟨z0,z1,z2,z3,z4,z5,z6,z7,z8⟩:=Zt hr0
 have zf:∀j,B.frozen? ⟨w.heap.size+1,j,none⟩=false:=fun j=>forQ _ _ j _ _ hr0
 have HEND:Hid (Z6 w S ⟨2,id,0,0,⟨#[]⟩,zN⟩ (.returned (.agg #[.int .i8 2,.int .i64 id,.int .i64 0,.int .i64 0,.string ⟨#[]⟩,.int .i64 0,.int .i64 0,.string ⟨#[]⟩,.slice none 0 0])) V9):=hH ⟨_,rfl,⟨none,0,rfl,NlrQ _,True.intro⟩,⟨v3.trans hb.os,v4.trans hb.tape,v5.trans hb.output,by rw[v6];exact hb.size,fun y hy=>(v2 y om1).trans (hb.block y hy)⟩⟩
 have HV9:=hH (aN hV9 v1)
 have HBE:=hH hB
 clear hb hs0 hr0 hB hV9 v1 v2 v3 v4 v5 v6
 go_enter Tryz.func112,Tryz.ntmps112
 go_upto_region 1 with fail
 change Code.wp _ _ _ _ (zU w [.cells #[.int .i8 2,.int .i64 id,.int .i64 par,.int .i64 at_,.string tx,.int .i64 s1,.int .i64 s2,.string s3,.slice sa sn sc] 41,.cells #[.int .i8 0,.int .i64 0,.int .i64 0,.int .i64 0,.string ⟨#[]⟩,.int .i64 0,.int .i64 0,.string ⟨#[]⟩,.slice none 0 0] 41])
 exact sd0
theorem zkb (w:World)(S:Nat→Prop)(id par at_ s1 s2:Int)(tx s3:ByteArray)(sa:Option Addr)(sn sc:Nat):
 Calls Tryz.prog 112 #[.agg #[.int .i8 3,.int .i64 id,.int .i64 par,.int .i64 at_,.string tx,.int .i64 s1,.int .i64 s2,.string s3,.slice sa sn sc]] w (Z6 w S ⟨3,id,par,at_,⟨#[]⟩,zN⟩):=by
 obtain⟨B,hB⟩:∃B,B=zU w [.cells #[.int .i8 3,.int .i64 id,.int .i64 par,.int .i64 at_,.string tx,.int .i64 s1,.int .i64 s2,.string s3,.slice sa sn sc] 41,.cells #[.int .i8 0,.int .i64 0,.int .i64 0,.int .i64 0,.string ⟨#[]⟩,.int .i64 0,.int .i64 0,.string ⟨#[]⟩,.slice none 0 0] 41]:=⟨_,rfl⟩
 have hb:Below w.heap.size w B:=by rw[hB];exact zR _ _
 have hs0:B.heap[w.heap.size]? =some (.cells #[.int .i8 3,.int .i64 id,.int .i64 par,.int .i64 at_,.string tx,.int .i64 s1,.int .i64 s2,.string s3,.slice sa sn sc] 41 (0,0)):=by rw[hB];exact zD _ _ 0 _ rfl
 have hr0:B.heap[w.heap.size+1]? =some (.cells #[.int .i8 0,.int .i64 0,.int .i64 0,.int .i64 0,.string ⟨#[]⟩,.int .i64 0,.int .i64 0,.string ⟨#[]⟩,.slice none 0 0] 41 (0,0)):=by rw[hB];exact zD _ _ 1 _ rfl
 obtain⟨V9,hV9,v1,v2,v3,v4,v5,v6⟩:=Qv (u0:= .int .i8 3) (u1:= .int .i64 id) (u2:= .int .i64 par) (u3:= .int .i64 at_) (u4:= .string ⟨#[]⟩) (u5:= .int .i64 0) (u6:= .int .i64 0) (u7:= .string ⟨#[]⟩) (u8:= .slice none 0 0) hr0
 obtain⟨m0,m1,m2,m3,m4,m5,m6,m7,m8⟩:=Zt hs0
 obtain⟨z0,z1,z2,z3,z4,z5,z6,z7,z8⟩:=Zt hr0
 have zf:∀j,B.frozen? ⟨w.heap.size+1,j,none⟩=false:=fun j=>forQ _ _ j _ _ hr0
 have HEND:Hid (Z6 w S ⟨3,id,par,at_,⟨#[]⟩,zN⟩ (.returned (.agg #[.int .i8 3,.int .i64 id,.int .i64 par,.int .i64 at_,.string ⟨#[]⟩,.int .i64 0,.int .i64 0,.string ⟨#[]⟩,.slice none 0 0])) V9):=hH ⟨_,rfl,⟨none,0,rfl,NlrQ _,True.intro⟩,⟨v3.trans hb.os,v4.trans hb.tape,v5.trans hb.output,by rw[v6];exact hb.size,fun y hy=>(v2 y om1).trans (hb.block y hy)⟩⟩
 have HV9:=hH (aN hV9 v1)
 have HBE:=hH hB
 clear hb hs0 hr0 hB hV9 v1 v2 v3 v4 v5 v6
 go_enter Tryz.func112,Tryz.ntmps112
 go_upto_region 1 with fail
 change Code.wp _ _ _ _ (zU w [.cells #[.int .i8 3,.int .i64 id,.int .i64 par,.int .i64 at_,.string tx,.int .i64 s1,.int .i64 s2,.string s3,.slice sa sn sc] 41,.cells #[.int .i8 0,.int .i64 0,.int .i64 0,.int .i64 0,.string ⟨#[]⟩,.int .i64 0,.int .i64 0,.string ⟨#[]⟩,.slice none 0 0] 41])
 exact sd0
theorem zkc (w:World)(S:Nat→Prop)(id par at_ s1 s2:Int)(tx s3:ByteArray)(sa:Option Addr)(sn sc:Nat):
 Calls Tryz.prog 112 #[.agg #[.int .i8 4,.int .i64 id,.int .i64 par,.int .i64 at_,.string tx,.int .i64 s1,.int .i64 s2,.string s3,.slice sa sn sc]] w (Z6 w S ⟨4,id,0,0,tx,zN⟩):=by
 obtain⟨B,hB⟩:∃B,B=zU w [.cells #[.int .i8 4,.int .i64 id,.int .i64 par,.int .i64 at_,.string tx,.int .i64 s1,.int .i64 s2,.string s3,.slice sa sn sc] 41,.cells #[.int .i8 0,.int .i64 0,.int .i64 0,.int .i64 0,.string ⟨#[]⟩,.int .i64 0,.int .i64 0,.string ⟨#[]⟩,.slice none 0 0] 41]:=⟨_,rfl⟩
 have hb:Below w.heap.size w B:=by rw[hB];exact zR _ _
 have hs0:B.heap[w.heap.size]? =some (.cells #[.int .i8 4,.int .i64 id,.int .i64 par,.int .i64 at_,.string tx,.int .i64 s1,.int .i64 s2,.string s3,.slice sa sn sc] 41 (0,0)):=by rw[hB];exact zD _ _ 0 _ rfl
 have hr0:B.heap[w.heap.size+1]? =some (.cells #[.int .i8 0,.int .i64 0,.int .i64 0,.int .i64 0,.string ⟨#[]⟩,.int .i64 0,.int .i64 0,.string ⟨#[]⟩,.slice none 0 0] 41 (0,0)):=by rw[hB];exact zD _ _ 1 _ rfl
 obtain⟨V9,hV9,v1,v2,v3,v4,v5,v6⟩:=Qv (u0:= .int .i8 4) (u1:= .int .i64 id) (u2:= .int .i64 0) (u3:= .int .i64 0) (u4:= .string tx) (u5:= .int .i64 0) (u6:= .int .i64 0) (u7:= .string ⟨#[]⟩) (u8:= .slice none 0 0) hr0
 obtain⟨m0,m1,m2,m3,m4,m5,m6,m7,m8⟩:=Zt hs0
 obtain⟨z0,z1,z2,z3,z4,z5,z6,z7,z8⟩:=Zt hr0
 have zf:∀j,B.frozen? ⟨w.heap.size+1,j,none⟩=false:=fun j=>forQ _ _ j _ _ hr0
 have HEND:Hid (Z6 w S ⟨4,id,0,0,tx,zN⟩ (.returned (.agg #[.int .i8 4,.int .i64 id,.int .i64 0,.int .i64 0,.string tx,.int .i64 0,.int .i64 0,.string ⟨#[]⟩,.slice none 0 0])) V9):=hH ⟨_,rfl,⟨none,0,rfl,NlrQ _,True.intro⟩,⟨v3.trans hb.os,v4.trans hb.tape,v5.trans hb.output,by rw[v6];exact hb.size,fun y hy=>(v2 y om1).trans (hb.block y hy)⟩⟩
 have HV9:=hH (aN hV9 v1)
 have HBE:=hH hB
 clear hb hs0 hr0 hB hV9 v1 v2 v3 v4 v5 v6
 go_enter Tryz.func112,Tryz.ntmps112
 go_upto_region 1 with fail
 change Code.wp _ _ _ _ (zU w [.cells #[.int .i8 4,.int .i64 id,.int .i64 par,.int .i64 at_,.string tx,.int .i64 s1,.int .i64 s2,.string s3,.slice sa sn sc] 41,.cells #[.int .i8 0,.int .i64 0,.int .i64 0,.int .i64 0,.string ⟨#[]⟩,.int .i64 0,.int .i64 0,.string ⟨#[]⟩,.slice none 0 0] 41])
 exact sd0
theorem zj9 (w:World)(Sx:Nat→Prop)(x:Tr)(id par at_:Int)(tx:ByteArray)(sa:Option Addr)(sn sc:Nat)(hSx:∀y,Sx y→y<w.heap.size)(hx:kT w Sx (.agg #[.int .i64 x.id,.int .i64 x.kind,.string x.text,.slice sa sn sc]) x)(hxz:zh x.kids≤100000):
 Calls Tryz.prog 112 #[.agg #[.int .i8 1,.int .i64 id,.int .i64 par,.int .i64 at_,.string tx,.int .i64 x.id,.int .i64 x.kind,.string x.text,.slice sa sn sc]] w (Z6 w Sx ⟨1,0,par,at_,⟨#[]⟩,x⟩):=by
 obtain⟨B,hB⟩:∃B,B=zU w [.cells #[.int .i8 1,.int .i64 id,.int .i64 par,.int .i64 at_,.string tx,.int .i64 x.id,.int .i64 x.kind,.string x.text,.slice sa sn sc] 41,.cells #[.int .i8 0,.int .i64 0,.int .i64 0,.int .i64 0,.string ⟨#[]⟩,.int .i64 0,.int .i64 0,.string ⟨#[]⟩,.slice none 0 0] 41]:=⟨_,rfl⟩
 have hb:Below w.heap.size w B:=by rw[hB];exact zR _ _
 have hs:B.heap.size=w.heap.size+2:=by rw[hB];exact qV _ _
 have hs0:B.heap[w.heap.size]? =some (.cells #[.int .i8 1,.int .i64 id,.int .i64 par,.int .i64 at_,.string tx,.int .i64 x.id,.int .i64 x.kind,.string x.text,.slice sa sn sc] 41 (0,0)):=by rw[hB];exact zD _ _ 0 _ rfl
 have hr0:B.heap[w.heap.size+1]? =some (.cells #[.int .i8 0,.int .i64 0,.int .i64 0,.int .i64 0,.string ⟨#[]⟩,.int .i64 0,.int .i64 0,.string ⟨#[]⟩,.slice none 0 0] 41 (0,0)):=by rw[hB];exact zD _ _ 1 _ rfl
 have hcp:∀X,Tc B X (w.heap.size+1)→Calls Tryz.prog 153 #[.agg #[.int .i64 x.id,.int .i64 x.kind,.string x.text,.slice sa sn sc]] X (zbR X Sx x):=fun X hX=>zec X Sx _ x (fun y hy=>nL (hSx y hy) (NltQ hb.size hX.size)) (hx.kept fun y hy=>⟨hy,(hX.block y (by have:=hSx y hy;omega) (by have:=hSx y hy;omega)).trans (hb.block y (hSx y hy))⟩) hxz
 obtain⟨m0,m1,m2,m3,m4,m5,m6,m7,m8⟩:=Zt hs0
 have HCP:=hH hcp
 have HST:=hH hs0
 have HSX:=hH hSx
 have HB:=hH (aN hb (aN hs hr0))
 have HBE:=hH hB
 clear hcp hs0 hb hs hr0 hB hx hSx hxz
 go_enter Tryz.func112,Tryz.ntmps112
 go_upto_region 1 with fail
 change Code.wp _ _ _ _ (zU w [.cells #[.int .i8 1,.int .i64 id,.int .i64 par,.int .i64 at_,.string tx,.int .i64 x.id,.int .i64 x.kind,.string x.text,.slice sa sn sc] 41,.cells #[.int .i8 0,.int .i64 0,.int .i64 0,.int .i64 0,.string ⟨#[]⟩,.int .i64 0,.int .i64 0,.string ⟨#[]⟩,.slice none 0 0] 41])
 rw[←HBE.out]
 clear HBE
 go_upto_region 3 with fail
 clear m0 m1 m2 m3 m4 m5 m6 m7 m8
 refine wrhQ (S:=fun X=>Tc B X (w.heap.size+1)) kr1 (Tc.of (below_drewN (BrQ _ B) 1)) (fun eH=>?_)
 refine tG (i:=0) (.pointer (some ⟨w.heap.size,0,none⟩)) rfl ?_
 simp only[Act.put,pg]
 refine tJ (i:=1) (.int .i8 1) rfl ?_ ?_
 · exact ua3
 simp only[Act.put,pg]
 refine tG (i:=2) (.pointer (some ⟨w.heap.size,2,none⟩)) rfl ?_
 simp only[Act.put,pg]
 refine tJ (i:=3) (.int .i64 par) rfl ?_ ?_
 · exact ua3
 simp only[Act.put,pg]
 refine tG (i:=4) (.pointer (some ⟨w.heap.size,3,none⟩)) rfl ?_
 simp only[Act.put,pg]
 refine tJ (i:=5) (.int .i64 at_) rfl ?_ ?_
 · exact ua3
 simp only[Act.put,pg]
 refine tG (i:=6) (.pointer (some ⟨w.heap.size,5,none⟩)) rfl ?_
 simp only[Act.put,pg]
 refine tJ (i:=7) (.agg #[.int .i64 x.id,.int .i64 x.kind,.string x.text,.slice sa sn sc]) rfl ?_ ?_
 · exact ua3
 simp only[Act.put,pg]
 refine rd1 [8] ?_
 refine AcQ (o:=_) rfl (fun K hK=>?_) AnQ
 rw[ipQ ue1]
 simp only[pg3]
 have HK:=hH hK
 have HS:=hH eH
 clear hK eH
 go_wp2_with (go_at_call 153;refine (HCP.out _ HS.out).mono ?_;rintro e w5 ⟨_,rfl,⟨yb,yc,rfl,hyc,hyk⟩,hb5⟩;have H5:=hH (aN hyc (aN hyk (aN hb5 ((hb5.block _ (lohQ HB.out.2.2)).trans HB.out.2.2))));have HS5:=hH (HS.out.then hb5);clear hyc hyk hb5)
 refine HK.out _ _ HS5.out (fun eH=>?_)
 clear HK HS
 obtain⟨xn,hxn⟩:∃xn,xn=foLen x.kids:=⟨_,rfl⟩
 refine tG (i:=9) (.agg #[.int .i8 1,.int .i64 0,.int .i64 par,.int .i64 at_,.string ⟨#[]⟩,.int .i64 x.id,.int .i64 x.kind,.string x.text,.slice yb (foLen x.kids) yc]) rfl ?_
 simp only[Act.put,pg]
 refine rd1 [10] ?_
 refine AcQ (o:=_) rfl (fun K hK=>?_) AnQ
 rw[ipQ ue1]
 simp only[pg3]
 have HK:=hH hK
 have HS:=hH eH
 clear hK eH
 have hz:=H5.out.2.2.2
 obtain⟨z0,z1,z2,z3,z4,z5,z6,z7,z8⟩:=Zt hz
 have zf:∀j,w5.frozen? ⟨w.heap.size+1,j,none⟩=false:=fun j=>forQ _ _ j _ _ hz
 obtain⟨V9,hV9,v1,v2,v3,v4,v5,v6⟩:=Qv (u0:= .int .i8 1) (u1:= .int .i64 0) (u2:= .int .i64 par) (u3:= .int .i64 at_) (u4:= .string ⟨#[]⟩) (u5:= .int .i64 x.id) (u6:= .int .i64 x.kind) (u7:= .string x.text) (u8:= .slice yb (foLen x.kids) yc) hz
 have hT9:Tc B V9 (w.heap.size+1):=⟨v3.trans HS5.out.os,v4.trans HS5.out.tape,v5.trans HS5.out.output,by rw[v6];exact HS5.out.size,fun y hy hn=>(v2 y hn).trans (HS5.out.block y hy hn)⟩
 have hE:Z6 w Sx ⟨1,0,par,at_,⟨#[]⟩,x⟩ (.returned (.agg #[.int .i8 1,.int .i64 0,.int .i64 par,.int .i64 at_,.string ⟨#[]⟩,.int .i64 x.id,.int .i64 x.kind,.string x.text,.slice yb (foLen x.kids) yc])) V9:=⟨_,rfl,⟨yb,yc,rfl,H5.out.1,?kept⟩,hT9.below HB.out.1 om1⟩
 case kept=>
  exact H5.out.2.1.kept fun y hy=>by
   have hy1:Sx y∨B.heap.size≤y:=hy.1
   have hne:y≠w.heap.size+1:=by
    rcases hy1 with h | h
    · have:=HSX.out y h;omega
    · have:=HB.out.2.1;omega
   exact⟨⟨hy1.imp (fun h=>h) (fun h=>by have:=HB.out.2.1;omega),by rw[v6];exact hy.2⟩,v2 y hne⟩
 have HE:=hH (aN hE (aN hV9 (aN v1 hT9)))
 clear hz hV9 v1 v2 v3 v4 v5 v6 hT9 hE
 go_wp2_with fail
 rw[←HE.out.2.1]
 refine HK.out _ _ HE.out.2.2.2 (fun eH=>?_)
 clear HK HS z0 z1 z2 z3 z4 z5 z6 z7 z8 zf H5 HS5
 refine wpAnyH_done kr1 ?_ _
 clear eH
 go_wp2_with fail
 refine brQ (qo rfl _ _ (w.heap.size+1) 41 _ (0,0) _ rfl HE.out.2.2.1 Tryz.underlying41 rfl kr1) rfl ?_
 exact HE.out.1
theorem QR {op:Int}(h:(Lit.int .i8 op).wf=true): -128≤op∧op≤127:=by
 simp[Lit.wf] at h
 have e1:IntKind.i8.min= -128:=by decide
 have e2:IntKind.i8.max=127:=by decide
 omega
def ZA (W:World)(f:Fo)(a:Option Addr)(c:Nat):Prop:=foLen f≤c∧zQ W (fun q=>q<W.heap.size) f a
theorem ZA.at {W X:World}{t:Tr}{a:Option Addr}{c:Nat}(h:ZA W t.kids a c)(hb:Below W.heap.size W X):kT X (fun q=>q<W.heap.size) (.agg #[.int .i64 t.id,.int .i64 t.kind,.string t.text,.slice a (foLen t.kids) c]) t:=⟨a,c,rfl,h.1,h.2.kept fun q hq=>⟨hq,hb.block q hq⟩⟩
theorem ZA.on {W X:World}{f:Fo}{a:Option Addr}{c:Nat}(h:ZA W f a c)(hb:Below W.heap.size W X):ZA X f a c:=⟨h.1,h.2.kept fun q hq=>⟨nL hq hb.size,hb.block q hq⟩⟩
def zfr (s:Sf)(a:Option Addr)(c:Nat):List Value:=[.int .i8 s.op,.int .i64 s.id,.int .i64 s.par,.int .i64 s.at_,.string s.tx,.int .i64 s.sub.id,.int .i64 s.sub.kind,.string s.sub.text,.slice a (foLen s.sub.kids) c]
end Go.Proofs.YtoidedomenkbpaaGreat
