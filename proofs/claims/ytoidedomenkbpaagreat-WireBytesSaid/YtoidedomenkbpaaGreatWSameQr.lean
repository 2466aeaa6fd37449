/-
  .
-/
import Derived.Test.YtoidedomenkbpaaGreatIBacksQr
set_option maxRecDepth 100000
set_option maxHeartbeats 40000000
set_option linter.unusedVariables false
set_option linter.unusedSimpArgs false
namespace Go.Proofs.YtoidedomenkbpaaGreat
open Go.RowKit Go.Shelf
theorem zhn (w:World)(S:Nat→Prop)(id par at_ s1 s2:Int)(tx s3:ByteArray)(sa:Option Addr)(sn sc:Nat):
 Calls Tryz.prog 112 #[.agg #[.int .i8 2,.int .i64 id,.int .i64 par,.int .i64 at_,.string tx,.int .i64 s1,.int .i64 s2,.string s3,.slice sa sn sc]] w (qj w S ⟨2,id,0,0,⟨#[]⟩,zo⟩):=by
 obtain⟨B,hB⟩:∃B,B=zy w [.cells #[.int .i8 2,.int .i64 id,.int .i64 par,.int .i64 at_,.string tx,.int .i64 s1,.int .i64 s2,.string s3,.slice sa sn sc] 41,.cells #[.int .i8 0,.int .i64 0,.int .i64 0,.int .i64 0,.string ⟨#[]⟩,.int .i64 0,.int .i64 0,.string ⟨#[]⟩,.slice none 0 0] 41]:=⟨_,rfl⟩
 have hb:Below w.heap.size w B:=by rw[hB];exact zu _ _
 have hs0:B.heap[w.heap.size]? =some (.cells #[.int .i8 2,.int .i64 id,.int .i64 par,.int .i64 at_,.string tx,.int .i64 s1,.int .i64 s2,.string s3,.slice sa sn sc] 41 (0,0)):=by rw[hB];exact zi _ _ 0 _ rfl
 have hr0:B.heap[w.heap.size+1]? =some (.cells #[.int .i8 0,.int .i64 0,.int .i64 0,.int .i64 0,.string ⟨#[]⟩,.int .i64 0,.int .i64 0,.string ⟨#[]⟩,.slice none 0 0] 41 (0,0)):=by rw[hB];exact zi _ _ 1 _ rfl
 obtain⟨V9,hV9,v1,v2,v3,v4,v5,v6⟩:=vN (u0:= .int .i8 2) (u1:= .int .i64 id) (u2:= .int .i64 0) (u3:= .int .i64 0) (u4:= .string ⟨#[]⟩) (u5:= .int .i64 0) (u6:= .int .i64 0) (u7:= .string ⟨#[]⟩) (u8:= .slice none 0 0) hr0
 obtain⟨m0,m1,m2,m3,m4,m5,m6,m7,m8⟩:=vo hs0
 obtain⟨z0,z1,z2,z3,z4,z5,z6,z7,z8⟩:=vo hr0
 have zf:∀j,B.frozen? ⟨w.heap.size+1,j,none⟩=false:=fun j=>forQ _ _ j _ _ hr0
 have HEND:Hid (qj w S ⟨2,id,0,0,⟨#[]⟩,zo⟩ (.returned (.agg #[.int .i8 2,.int .i64 id,.int .i64 0,.int .i64 0,.string ⟨#[]⟩,.int .i64 0,.int .i64 0,.string ⟨#[]⟩,.slice none 0 0])) V9):=hH ⟨_,rfl,⟨none,0,rfl,NlrQ _,True.intro⟩,⟨v3.trans hb.os,v4.trans hb.tape,v5.trans hb.output,by rw[v6];exact hb.size,fun y hy=>(v2 y om).trans (hb.block y hy)⟩⟩
 have HV9:=hH (aN hV9 v1)
 have HBE:=hH hB
 clear hb hs0 hr0 hB hV9 v1 v2 v3 v4 v5 v6
 go_enter Tryz.func112,Tryz.ntmps112
 go_upto_region 1 with fail
 change Code.wp _ _ _ _ (zy w [.cells #[.int .i8 2,.int .i64 id,.int .i64 par,.int .i64 at_,.string tx,.int .i64 s1,.int .i64 s2,.string s3,.slice sa sn sc] 41,.cells #[.int .i8 0,.int .i64 0,.int .i64 0,.int .i64 0,.string ⟨#[]⟩,.int .i64 0,.int .i64 0,.string ⟨#[]⟩,.slice none 0 0] 41])
 exact sc0
theorem zho (w:World)(S:Nat→Prop)(id par at_ s1 s2:Int)(tx s3:ByteArray)(sa:Option Addr)(sn sc:Nat):
 Calls Tryz.prog 112 #[.agg #[.int .i8 3,.int .i64 id,.int .i64 par,.int .i64 at_,.string tx,.int .i64 s1,.int .i64 s2,.string s3,.slice sa sn sc]] w (qj w S ⟨3,id,par,at_,⟨#[]⟩,zo⟩):=by
 obtain⟨B,hB⟩:∃B,B=zy w [.cells #[.int .i8 3,.int .i64 id,.int .i64 par,.int .i64 at_,.string tx,.int .i64 s1,.int .i64 s2,.string s3,.slice sa sn sc] 41,.cells #[.int .i8 0,.int .i64 0,.int .i64 0,.int .i64 0,.string ⟨#[]⟩,.int .i64 0,.int .i64 0,.string ⟨#[]⟩,.slice none 0 0] 41]:=⟨_,rfl⟩
 have hb:Below w.heap.size w B:=by rw[hB];exact zu _ _
 have hs0:B.heap[w.heap.size]? =some (.cells #[.int .i8 3,.int .i64 id,.int .i64 par,.int .i64 at_,.string tx,.int .i64 s1,.int .i64 s2,.string s3,.slice sa sn sc] 41 (0,0)):=by rw[hB];exact zi _ _ 0 _ rfl
 have hr0:B.heap[w.heap.size+1]? =some (.cells #[.int .i8 0,.int .i64 0,.int .i64 0,.int .i64 0,.string ⟨#[]⟩,.int .i64 0,.int .i64 0,.string ⟨#[]⟩,.slice none 0 0] 41 (0,0)):=by rw[hB];exact zi _ _ 1 _ rfl
 obtain⟨V9,hV9,v1,v2,v3,v4,v5,v6⟩:=vN (u0:= .int .i8 3) (u1:= .int .i64 id) (u2:= .int .i64 par) (u3:= .int .i64 at_) (u4:= .string ⟨#[]⟩) (u5:= .int .i64 0) (u6:= .int .i64 0) (u7:= .string ⟨#[]⟩) (u8:= .slice none 0 0) hr0
 obtain⟨m0,m1,m2,m3,m4,m5,m6,m7,m8⟩:=vo hs0
 obtain⟨z0,z1,z2,z3,z4,z5,z6,z7,z8⟩:=vo hr0
 have zf:∀j,B.frozen? ⟨w.heap.size+1,j,none⟩=false:=fun j=>forQ _ _ j _ _ hr0
 have HEND:Hid (qj w S ⟨3,id,par,at_,⟨#[]⟩,zo⟩ (.returned (.agg #[.int .i8 3,.int .i64 id,.int .i64 par,.int .i64 at_,.string ⟨#[]⟩,.int .i64 0,.int .i64 0,.string ⟨#[]⟩,.slice none 0 0])) V9):=hH ⟨_,rfl,⟨none,0,rfl,NlrQ _,True.intro⟩,⟨v3.trans hb.os,v4.trans hb.tape,v5.trans hb.output,by rw[v6];exact hb.size,fun y hy=>(v2 y om).trans (hb.block y hy)⟩⟩
 have HV9:=hH (aN hV9 v1)
 have HBE:=hH hB
 clear hb hs0 hr0 hB hV9 v1 v2 v3 v4 v5 v6
 go_enter Tryz.func112,Tryz.ntmps112
 go_upto_region 1 with fail
 change Code.wp _ _ _ _ (zy w [.cells #[.int .i8 3,.int .i64 id,.int .i64 par,.int .i64 at_,.string tx,.int .i64 s1,.int .i64 s2,.string s3,.slice sa sn sc] 41,.cells #[.int .i8 0,.int .i64 0,.int .i64 0,.int .i64 0,.string ⟨#[]⟩,.int .i64 0,.int .i64 0,.string ⟨#[]⟩,.slice none 0 0] 41])
 exact sc0
theorem zhp (w:World)(S:Nat→Prop)(id par at_ s1 s2:Int)(tx s3:ByteArray)(sa:Option Addr)(sn sc:Nat):
 Calls Tryz.prog 112 #[.agg #[.int .i8 4,.int .i64 id,.int .i64 par,.int .i64 at_,.string tx,.int .i64 s1,.int .i64 s2,.string s3,.slice sa sn sc]] w (qj w S ⟨4,id,0,0,tx,zo⟩):=by
 obtain⟨B,hB⟩:∃B,B=zy w [.cells #[.int .i8 4,.int .i64 id,.int .i64 par,.int .i64 at_,.string tx,.int .i64 s1,.int .i64 s2,.string s3,.slice sa sn sc] 41,.cells #[.int .i8 0,.int .i64 0,.int .i64 0,.int .i64 0,.string ⟨#[]⟩,.int .i64 0,.int .i64 0,.string ⟨#[]⟩,.slice none 0 0] 41]:=⟨_,rfl⟩
 have hb:Below w.heap.size w B:=by rw[hB];exact zu _ _
 have hs0:B.heap[w.heap.size]? =some (.cells #[.int .i8 4,.int .i64 id,.int .i64 par,.int .i64 at_,.string tx,.int .i64 s1,.int .i64 s2,.string s3,.slice sa sn sc] 41 (0,0)):=by rw[hB];exact zi _ _ 0 _ rfl
 have hr0:B.heap[w.heap.size+1]? =some (.cells #[.int .i8 0,.int .i64 0,.int .i64 0,.int .i64 0,.string ⟨#[]⟩,.int .i64 0,.int .i64 0,.string ⟨#[]⟩,.slice none 0 0] 41 (0,0)):=by rw[hB];exact zi _ _ 1 _ rfl
 obtain⟨V9,hV9,v1,v2,v3,v4,v5,v6⟩:=vN (u0:= .int .i8 4) (u1:= .int .i64 id) (u2:= .int .i64 0) (u3:= .int .i64 0) (u4:= .string tx) (u5:= .int .i64 0) (u6:= .int .i64 0) (u7:= .string ⟨#[]⟩) (u8:= .slice none 0 0) hr0
 obtain⟨m0,m1,m2,m3,m4,m5,m6,m7,m8⟩:=vo hs0
 obtain⟨z0,z1,z2,z3,z4,z5,z6,z7,z8⟩:=vo hr0
 have zf:∀j,B.frozen? ⟨w.heap.size+1,j,none⟩=false:=fun j=>forQ _ _ j _ _ hr0
 have HEND:Hid (qj w S ⟨4,id,0,0,tx,zo⟩ (.returned (.agg #[.int .i8 4,.int .i64 id,.int .i64 0,.int .i64 0,.string tx,.int .i64 0,.int .i64 0,.string ⟨#[]⟩,.slice none 0 0])) V9):=hH ⟨_,rfl,⟨none,0,rfl,NlrQ _,True.intro⟩,⟨v3.trans hb.os,v4.trans hb.tape,v5.trans hb.output,by rw[v6];exact hb.size,fun y hy=>(v2 y om).trans (hb.block y hy)⟩⟩
 have HV9:=hH (aN hV9 v1)
 have HBE:=hH hB
 clear hb hs0 hr0 hB hV9 v1 v2 v3 v4 v5 v6
 go_enter Tryz.func112,Tryz.ntmps112
 go_upto_region 1 with fail
 change Code.wp _ _ _ _ (zy w [.cells #[.int .i8 4,.int .i64 id,.int .i64 par,.int .i64 at_,.string tx,.int .i64 s1,.int .i64 s2,.string s3,.slice sa sn sc] 41,.cells #[.int .i8 0,.int .i64 0,.int .i64 0,.int .i64 0,.string ⟨#[]⟩,.int .i64 0,.int .i64 0,.string ⟨#[]⟩,.slice none 0 0] 41])
 exact sc0
theorem zhm (w:World)(Sx:Nat→Prop)(x:Tr)(id par at_:Int)(tx:ByteArray)(sa:Option Addr)(sn sc:Nat)(hSx:∀y,Sx y→y<w.heap.size)(hx:vL w Sx (.agg #[.int .i64 x.id,.int .i64 x.kind,.string x.text,.slice sa sn sc]) x)(hxz:zh x.kids≤100000):
 Calls Tryz.prog 112 #[.agg #[.int .i8 1,.int .i64 id,.int .i64 par,.int .i64 at_,.string tx,.int .i64 x.id,.int .i64 x.kind,.string x.text,.slice sa sn sc]] w (qj w Sx ⟨1,0,par,at_,⟨#[]⟩,x⟩):=by
 obtain⟨B,hB⟩:∃B,B=zy w [.cells #[.int .i8 1,.int .i64 id,.int .i64 par,.int .i64 at_,.string tx,.int .i64 x.id,.int .i64 x.kind,.string x.text,.slice sa sn sc] 41,.cells #[.int .i8 0,.int .i64 0,.int .i64 0,.int .i64 0,.string ⟨#[]⟩,.int .i64 0,.int .i64 0,.string ⟨#[]⟩,.slice none 0 0] 41]:=⟨_,rfl⟩
 have hb:Below w.heap.size w B:=by rw[hB];exact zu _ _
 have hs:B.heap.size=w.heap.size+2:=by rw[hB];exact qa _ _
 have hs0:B.heap[w.heap.size]? =some (.cells #[.int .i8 1,.int .i64 id,.int .i64 par,.int .i64 at_,.string tx,.int .i64 x.id,.int .i64 x.kind,.string x.text,.slice sa sn sc] 41 (0,0)):=by rw[hB];exact zi _ _ 0 _ rfl
 have hr0:B.heap[w.heap.size+1]? =some (.cells #[.int .i8 0,.int .i64 0,.int .i64 0,.int .i64 0,.string ⟨#[]⟩,.int .i64 0,.int .i64 0,.string ⟨#[]⟩,.slice none 0 0] 41 (0,0)):=by rw[hB];exact zi _ _ 1 _ rfl
 have hcp:∀X,Tc B X (w.heap.size+1)→Calls Tryz.prog 153 #[.agg #[.int .i64 x.id,.int .i64 x.kind,.string x.text,.slice sa sn sc]] X (Z7 X Sx x):=fun X hX=>zcg X Sx _ x (fun y hy=>nL (hSx y hy) (NltQ hb.size hX.size)) (hx.kept fun y hy=>⟨hy,(hX.block y (by have:=hSx y hy;omega) (by have:=hSx y hy;omega)).trans (hb.block y (hSx y hy))⟩) hxz
 obtain⟨m0,m1,m2,m3,m4,m5,m6,m7,m8⟩:=vo hs0
 have HCP:=hH hcp
 have HST:=hH hs0
 have HSX:=hH hSx
 have HB:=hH (aN hb (aN hs hr0))
 have HBE:=hH hB
 clear hcp hs0 hb hs hr0 hB hx hSx hxz
 go_enter Tryz.func112,Tryz.ntmps112
 go_upto_region 1 with fail
 change Code.wp _ _ _ _ (zy w [.cells #[.int .i8 1,.int .i64 id,.int .i64 par,.int .i64 at_,.string tx,.int .i64 x.id,.int .i64 x.kind,.string x.text,.slice sa sn sc] 41,.cells #[.int .i8 0,.int .i64 0,.int .i64 0,.int .i64 0,.string ⟨#[]⟩,.int .i64 0,.int .i64 0,.string ⟨#[]⟩,.slice none 0 0] 41])
 rw[←HBE.out]
 clear HBE
 go_upto_region 3 with fail
 clear m0 m1 m2 m3 m4 m5 m6 m7 m8
 refine wrhQ (S:=fun X=>Tc B X (w.heap.size+1)) kr1 (Tc.of (below_drewN (BrQ _ B) 1)) (fun eH=>?_)
 refine tG (i:=0) (.pointer (some ⟨w.heap.size,0,none⟩)) rfl ?_
 simp only[Act.put,pg]
 refine tJ (i:=1) (.int .i8 1) rfl ?_ ?_
 · exact ua7
 simp only[Act.put,pg]
 refine tG (i:=2) (.pointer (some ⟨w.heap.size,2,none⟩)) rfl ?_
 simp only[Act.put,pg]
 refine tJ (i:=3) (.int .i64 par) rfl ?_ ?_
 · exact ua7
 simp only[Act.put,pg]
 refine tG (i:=4) (.pointer (some ⟨w.heap.size,3,none⟩)) rfl ?_
 simp only[Act.put,pg]
 refine tJ (i:=5) (.int .i64 at_) rfl ?_ ?_
 · exact ua7
 simp only[Act.put,pg]
 refine tG (i:=6) (.pointer (some ⟨w.heap.size,5,none⟩)) rfl ?_
 simp only[Act.put,pg]
 refine tJ (i:=7) (.agg #[.int .i64 x.id,.int .i64 x.kind,.string x.text,.slice sa sn sc]) rfl ?_ ?_
 · exact ua7
 simp only[Act.put,pg]
 refine rd [8] ?_
 refine AcQ (o:=_) rfl (fun K hK=>?_) AnQ
 rw[ipQ ue4]
 simp only[pg3]
 have HK:=hH hK
 have HS:=hH eH
 clear hK eH
 go_wp2_with (go_at_call 153;refine (HCP.out _ HS.out).mono ?_;rintro e w5 ⟨_,rfl,⟨yb,yc,rfl,hyc,hyk⟩,hb5⟩;have H5:=hH (aN hyc (aN hyk (aN hb5 ((hb5.block _ (lohQ HB.out.2.2)).trans HB.out.2.2))));have HS5:=hH (HS.out.then hb5);clear hyc hyk hb5)
 exact sb3
end Go.Proofs.YtoidedomenkbpaaGreat
namespace Go.Proofs.YtoidedomenkbpaaGreat
open Go.RowKit
def eqS (a b:Sf):Bool:=decide (a.op=b.op) && (decide (a.id=b.id) && (decide (a.par=b.par) && (decide (a.at_=b.at_) && (decide (a.tx.toList=b.tx.toList) && zL a.sub b.sub))))
theorem ze5 (a:Sf):eqS a a=true:=by simp[eqS,ZY]
def EqC (a b:Sf)(X:World)(e:Ending)(W:World):Prop:=e= .returned (.bool (eqS a b))∧Below X.heap.size X W
theorem EqC.mk {a b:Sf}{w w' :World}{c:Bool}(h:eqS a b=c)(hb:Below w.heap.size w w'):EqC a b w (.returned (.bool c)) w':=⟨by rw[h],hb⟩
theorem zhL {X:World}{op id par at_ op2 id2 par2 at2:Int}{tx tx2:ByteArray}{u v:Tr}{aa ba:Option Addr}{ac bc n m:Nat}(HC:Hid (∀w',Below X.heap.size X w'→Calls Tryz.prog 64 #[.agg #[.int .i64 u.id,.int .i64 u.kind,.string u.text,.slice aa n ac],.agg #[.int .i64 v.id,.int .i64 v.kind,.string v.text,.slice ba m bc]] w' (jJ u v w'))):
 Calls Tryz.prog 43 #[.agg #[.int .i8 op,.int .i64 id,.int .i64 par,.int .i64 at_,.string tx,.int .i64 u.id,.int .i64 u.kind,.string u.text,.slice aa n ac],.agg #[.int .i8 op2,.int .i64 id2,.int .i64 par2,.int .i64 at2,.string tx2,.int .i64 v.id,.int .i64 v.kind,.string v.text,.slice ba m bc]] X (EqC ⟨op,id,par,at_,tx,u⟩ ⟨op2,id2,par2,at2,tx2,v⟩ X):=by
 by_cases h1:op=op2
 · have qh1 :(op == op2)=true:=by simpa using h1
   by_cases h2:id=id2
   · have qh2:(id == id2)=true:=by simpa using h2
     by_cases h3:par=par2
     · have qh3:(par == par2)=true:=by simpa using h3
       by_cases h4:at_=at2
       · have qh4:(at_ == at2)=true:=by simpa using h4
         by_cases ht:tx.toList=tx2.toList
         · have HV:=hH (show eqS ⟨op,id,par,at_,tx,u⟩ ⟨op2,id2,par2,at2,tx2,v⟩=zL u v by simp[eqS,h1,h2,h3,h4,ht])
           have HC2:=HC
           clear HC h1 h2 h3 h4
           go_enter Tryz.func43,Tryz.ntmps43
           exact sg2
         · have HV:=hH (show eqS ⟨op,id,par,at_,tx,u⟩ ⟨op2,id2,par2,at2,tx2,v⟩=false by simp[eqS,ht])
           have q6:(tx.toList == tx2.toList)=false:=by simpa using ht
           clear h1 h2 h3 h4
           exact sc9
       · have qh4:(at_ == at2)=false:=by simpa using h4
         have HV:=hH (show eqS ⟨op,id,par,at_,tx,u⟩ ⟨op2,id2,par2,at2,tx2,v⟩=false by simp[eqS,h4])
         clear h1 h2 h3 h4
         exact sc9
     · have qh3:(par == par2)=false:=by simpa using h3
       have HV:=hH (show eqS ⟨op,id,par,at_,tx,u⟩ ⟨op2,id2,par2,at2,tx2,v⟩=false by simp[eqS,h3])
       clear h1 h2 h3
       exact sc9
   · have qh2:(id == id2)=false:=by simpa using h2
     have HV:=hH (show eqS ⟨op,id,par,at_,tx,u⟩ ⟨op2,id2,par2,at2,tx2,v⟩=false by simp[eqS,h2])
     clear h1 h2
     exact sc9
 · have qh1:(op == op2)=false:=by simpa using h1
   have HV:=hH (show eqS ⟨op,id,par,at_,tx,u⟩ ⟨op2,id2,par2,at2,tx2,v⟩=false by simp[eqS,h1])
   clear h1
   exact sc9
theorem zic {X:World}{op id par at_ op2 id2 par2 at2:Int}{tx tx2:ByteArray}{u v:Tr}{aa ba:Option Addr}{ac bc n m:Nat}(HC:Hid (∀w',Below X.heap.size X w'→Calls Tryz.prog 63 #[.agg #[.int .i64 u.id,.int .i64 u.kind,.string u.text,.slice aa n ac],.agg #[.int .i64 v.id,.int .i64 v.kind,.string v.text,.slice ba m bc]] w' (jJ u v w'))):
 Calls Tryz.prog 109 #[.agg #[.int .i8 op,.int .i64 id,.int .i64 par,.int .i64 at_,.string tx,.int .i64 u.id,.int .i64 u.kind,.string u.text,.slice aa n ac],.agg #[.int .i8 op2,.int .i64 id2,.int .i64 par2,.int .i64 at2,.string tx2,.int .i64 v.id,.int .i64 v.kind,.string v.text,.slice ba m bc]] X (EqC ⟨op,id,par,at_,tx,u⟩ ⟨op2,id2,par2,at2,tx2,v⟩ X):=by
 by_cases h1:op=op2
 · have qh1 :(op == op2)=true:=by simpa using h1
   by_cases h2:id=id2
   · have qh2:(id == id2)=true:=by simpa using h2
     by_cases h3:par=par2
     · have qh3:(par == par2)=true:=by simpa using h3
       by_cases h4:at_=at2
       · have qh4:(at_ == at2)=true:=by simpa using h4
         by_cases ht:tx.toList=tx2.toList
         · have HV:=hH (show eqS ⟨op,id,par,at_,tx,u⟩ ⟨op2,id2,par2,at2,tx2,v⟩=zL u v by simp[eqS,h1,h2,h3,h4,ht])
           have HC2:=HC
           clear HC h1 h2 h3 h4
           go_enter Tryz.func109,Tryz.ntmps109
           exact sg2
         · have HV:=hH (show eqS ⟨op,id,par,at_,tx,u⟩ ⟨op2,id2,par2,at2,tx2,v⟩=false by simp[eqS,ht])
           have q6:(tx.toList == tx2.toList)=false:=by simpa using ht
           clear h1 h2 h3 h4
           exact sd2
       · have qh4:(at_ == at2)=false:=by simpa using h4
         have HV:=hH (show eqS ⟨op,id,par,at_,tx,u⟩ ⟨op2,id2,par2,at2,tx2,v⟩=false by simp[eqS,h4])
         clear h1 h2 h3 h4
         exact sd2
     · have qh3:(par == par2)=false:=by simpa using h3
       have HV:=hH (show eqS ⟨op,id,par,at_,tx,u⟩ ⟨op2,id2,par2,at2,tx2,v⟩=false by simp[eqS,h3])
       clear h1 h2 h3
       exact sd2
   · have qh2:(id == id2)=false:=by simpa using h2
     have HV:=hH (show eqS ⟨op,id,par,at_,tx,u⟩ ⟨op2,id2,par2,at2,tx2,v⟩=false by simp[eqS,h2])
     clear h1 h2
     exact sd2
 · have qh1:(op == op2)=false:=by simpa using h1
   have HV:=hH (show eqS ⟨op,id,par,at_,tx,u⟩ ⟨op2,id2,par2,at2,tx2,v⟩=false by simp[eqS,h1])
   clear h1
   exact sd2
theorem JP:∀(f g:Fo),foLen f≠foLen g→vP f g=false
 | .nil,.nil,h=>absurd rfl h
 | .nil,.node _ _ _ _ _,_=>rfl
 | .node _ _ _ _ _,.nil,_=>rfl
 | .node _ _ k l r,.node _ _ k2 l2 r2,h=>by
   simp only[vP]
   rw[JP r r2 (fun e=>h (by simp only[foLen];omega)),Bool.and_false]
theorem zen {t u:Tr}(h:foLen t.kids≠foLen u.kids):zL t u=false:=by
 unfold zL
 simp[JP _ _ h]
theorem kF (w:World)(S1 S2:Nat→Prop)(t u:Tr)(ka kb:Option Addr)(n m kc mc:Nat)(hn:n=foLen t.kids)(hm:m=foLen u.kids)(hS1:∀x,S1 x→x<w.heap.size)(hS2:∀x,S2 x→x<w.heap.size)(hcap:foLen t.kids≤kc)(hcap2:foLen u.kids≤mc)(hk:zK w S1 t.kids ka)(hkb:zK w S2 u.kids kb)(hs1:zh t.kids+1≤400000)(hs2:zh u.kids+1≤400000):
 Calls Tryz.prog 63 #[.agg #[.int .i64 t.id,.int .i64 t.kind,.string t.text,.slice ka n kc],.agg #[.int .i64 u.id,.int .i64 u.kind,.string u.text,.slice kb m mc]] w (jJ t u w):=by
 obtain⟨W,hW⟩:∃W,W=zy w [.cells #[.int .i64 t.id,.int .i64 t.kind,.string t.text,.slice ka n kc] 35,.cells #[.int .i64 u.id,.int .i64 u.kind,.string u.text,.slice kb m mc] 35]:=⟨_,rfl⟩
 have hb:Below w.heap.size w W:=by rw[hW];exact zu _ _
 have h0:W.heap[w.heap.size]? =some (.cells #[.int .i64 t.id,.int .i64 t.kind,.string t.text,.slice ka n kc] 35 (0,0)):=by rw[hW];exact zi _ _ 0 _ rfl
 have h1:W.heap[w.heap.size+1]? =some (.cells #[.int .i64 u.id,.int .i64 u.kind,.string u.text,.slice kb m mc] 35 (0,0)):=by rw[hW];exact zi _ _ 1 _ rfl
 have n0:W.cell? ⟨w.heap.size,0,none⟩=some (.int .i64 t.id):=by rw[corQ _ _ 0 _ _ _ h0];rfl
 have n1:W.cell? ⟨w.heap.size,1,none⟩=some (.int .i64 t.kind):=by rw[corQ _ _ 1 _ _ _ h0];rfl
 have n2:W.cell? ⟨w.heap.size,2,none⟩=some (.string t.text):=by rw[corQ _ _ 2 _ _ _ h0];rfl
 have n3:W.cell? ⟨w.heap.size,3,none⟩=some (.slice ka n kc):=by rw[corQ _ _ 3 _ _ _ h0];rfl
 have m0:W.cell? ⟨w.heap.size+1,0,none⟩=some (.int .i64 u.id):=by rw[corQ _ _ 0 _ _ _ h1];rfl
 have m1:W.cell? ⟨w.heap.size+1,1,none⟩=some (.int .i64 u.kind):=by rw[corQ _ _ 1 _ _ _ h1];rfl
 have m2:W.cell? ⟨w.heap.size+1,2,none⟩=some (.string u.text):=by rw[corQ _ _ 2 _ _ _ h1];rfl
 have m3:W.cell? ⟨w.heap.size+1,3,none⟩=some (.slice kb m mc):=by rw[corQ _ _ 3 _ _ _ h1];rfl
 have HC:=hH (zeu W S1 S2 (.agg #[.int .i64 t.id,.int .i64 t.kind,.string t.text,.slice ka n kc]) (.agg #[.int .i64 u.id,.int .i64 u.kind,.string u.text,.slice kb m mc]) t u (fun x hx=>nL (hS1 x hx) hb.size) (fun x hx=>nL (hS2 x hx) hb.size) ⟨ka,kc,by rw[hn],hcap,hk.below hb hS1⟩ ⟨kb,mc,by rw[hm],hcap2,hkb.below hb hS2⟩ hs1 hs2)
 have HB:=hH (aN hb hW)
 by_cases hne:n=m
 · have hq:((n:Int) == (m:Int))=true:=by simp[hne]
   clear hb hW h0 h1 hn hm hS1 hS2 hcap hcap2 hk hkb hs1 hs2 hne
   go_enter Tryz.func63,Tryz.ntmps63
   go_upto_region 1 with fail
   change Code.wp _ _ _ _ (zy w [.cells #[.int .i64 t.id,.int .i64 t.kind,.string t.text,.slice ka n kc] 35,.cells #[.int .i64 u.id,.int .i64 u.kind,.string u.text,.slice kb m mc] 35])
   rw[←HB.out.2]
   go_wp2_with fail
   refine HC.out.mono ?_
   rintro e w2 ⟨rfl,hb2⟩
   have HB2:=hH (HB.out.1.trans (hb2.mono HB.out.1.size))
   clear hb2
   go_wp2_with fail
   go_ret
   exact⟨rfl,HB2.out⟩
 · have hq:((n:Int) == (m:Int))=false:=by simp;omega
   have HV:=hH (show zL t u=false from zen (by rw[←hn,←hm];exact hne))
   clear hb hW h0 h1 hn hm hS1 hS2 hcap hcap2 hk hkb hs1 hs2 hne HC
   go_enter Tryz.func63,Tryz.ntmps63
   go_upto_region 1 with fail
   change Code.wp _ _ _ _ (zy w [.cells #[.int .i64 t.id,.int .i64 t.kind,.string t.text,.slice ka n kc] 35,.cells #[.int .i64 u.id,.int .i64 u.kind,.string u.text,.slice kb m mc] 35])
   rw[←HB.out.2]
   go_wp2_with fail
   go_ret
   exact⟨by rw[HV.out];rfl,HB.out.1⟩
theorem Zy (w:World)(S1 S2:Nat→Prop)(s r:Sf)(aa ba:Option Addr)(n ac m bc:Nat)(hn:n=foLen s.sub.kids)(hm:m=foLen r.sub.kids)(hS1:∀x,S1 x→x<w.heap.size)(hS2:∀x,S2 x→x<w.heap.size)(hc1:foLen s.sub.kids≤ac)(hc2:foLen r.sub.kids≤bc)(h1:zK w S1 s.sub.kids aa)(h2:zK w S2 r.sub.kids ba)(hz1:zh s.sub.kids+1≤400000)(hz2:zh r.sub.kids+1≤400000):
 Calls Tryz.prog 109 #[.agg #[.int .i8 s.op,.int .i64 s.id,.int .i64 s.par,.int .i64 s.at_,.string s.tx,.int .i64 s.sub.id,.int .i64 s.sub.kind,.string s.sub.text,.slice aa n ac],.agg #[.int .i8 r.op,.int .i64 r.id,.int .i64 r.par,.int .i64 r.at_,.string r.tx,.int .i64 r.sub.id,.int .i64 r.sub.kind,.string r.sub.text,.slice ba m bc]] w (EqC s r w):=
 zic (hH fun w' hb=>kF w' S1 S2 s.sub r.sub aa ba n m ac bc hn hm (fun x hx=>nL (hS1 x hx) hb.size) (fun x hx=>nL (hS2 x hx) hb.size) hc1 hc2 (h1.below hb hS1) (h2.below hb hS2) hz1 hz2)
theorem jX:∀f:Fo,zh f≤9223372036854775807→vY f
 | .nil,_=>True.intro
 | .node b o k l r,h=>by
   simp only[zh] at h
   exact⟨by have:=yV l;omega,jX l om,jX r om⟩
theorem jE (w:World)(S1 S2:Nat→Prop)(s r:Sf)(aa ba:Option Addr)(n ac m bc:Nat)(hn:n=foLen s.sub.kids)(hm:m=foLen r.sub.kids)(hS1:∀x,S1 x→x<w.heap.size)(hS2:∀x,S2 x→x<w.heap.size)(hc1:foLen s.sub.kids≤ac)(hc2:foLen r.sub.kids≤bc)(h1:zK w S1 s.sub.kids aa)(h2:zK w S2 r.sub.kids ba)(hz1:zh s.sub.kids+1≤400000):
 Calls Tryz.prog 43 #[.agg #[.int .i8 s.op,.int .i64 s.id,.int .i64 s.par,.int .i64 s.at_,.string s.tx,.int .i64 s.sub.id,.int .i64 s.sub.kind,.string s.sub.text,.slice aa n ac],.agg #[.int .i8 r.op,.int .i64 r.id,.int .i64 r.par,.int .i64 r.at_,.string r.tx,.int .i64 r.sub.id,.int .i64 r.sub.kind,.string r.sub.text,.slice ba m bc]] w (EqC s r w):=
 zhL (hH fun w' hb=>by
  subst hn;subst hm
  exact QY 400000 w' S1 S2 _ _ s.sub r.sub om ⟨by have:=yV s.sub.kids;omega,jX _ om⟩ (fun x hx=>nL (hS1 x hx) hb.size) (fun x hx=>nL (hS2 x hx) hb.size) ⟨aa,ac,rfl,hc1,h1.below hb hS1⟩ ⟨ba,bc,rfl,hc2,h2.below hb hS2⟩)
end Go.Proofs.YtoidedomenkbpaaGreat
namespace Go.Proofs.YtoidedomenkbpaaGreat
open Go.RowKit Go.Shelf
def jo (W:World)(f:Fo)(a:Option Addr)(c:Nat):Prop:=foLen f≤c∧zK W (fun q=>q<W.heap.size) f a
theorem jo.at {W X:World}{t:Tr}{a:Option Addr}{c:Nat}(h:jo W t.kids a c)(hb:Below W.heap.size W X):vL X (fun q=>q<W.heap.size) (.agg #[.int .i64 t.id,.int .i64 t.kind,.string t.text,.slice a (foLen t.kids) c]) t:=⟨a,c,rfl,h.1,h.2.kept fun q hq=>⟨hq,hb.block q hq⟩⟩
theorem jo.on {W X:World}{f:Fo}{a:Option Addr}{c:Nat}(h:jo W f a c)(hb:Below W.heap.size W X):jo X f a c:=⟨h.1,h.2.kept fun q hq=>⟨nL hq hb.size,hb.block q hq⟩⟩
theorem Yw:∀f:Fo,zh f≤9223372036854775807→vY f
 | .nil,_=>True.intro
 | .node _ _ _ l r,h=>by
   have h1:=yV l
   simp only[zh] at h
   exact⟨by omega,Yw l om,Yw r om⟩
def zg2 (s:Sf)(a:Option Addr)(c:Nat):List Value:=[.int .i8 s.op,.int .i64 s.id,.int .i64 s.par,.int .i64 s.at_,.string s.tx,.int .i64 s.sub.id,.int .i64 s.sub.kind,.string s.sub.text,.slice a (foLen s.sub.kids) c]
end Go.Proofs.YtoidedomenkbpaaGreat
