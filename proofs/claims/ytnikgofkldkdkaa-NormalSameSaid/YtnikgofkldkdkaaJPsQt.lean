/-
  Ends of proofs that stand in more than one place: each is stated once, to be run where it is named.
-/
import Derived.Test.YtnikgofkldkdkaaJPgQt
namespace Go.Proofs.Ytnikgofkldkdkaa
theorem sa0 {p:Prop}(h:p:=by
  simp only[Act.put,pg]
  refine rd [6,10] ?_
  refine AcQ (o:=_) rfl (fun K hK=>?_) (AcQ (o:=_) rfl (fun K hK=>?_) AnQ)
  · rw [ipQ (by rfl)]
    simp only[pg3]
    have HK:=hH hK
    have HS:=hH uH
    clear hK uH
    go_wp2_with ((first | go_at_call 53 | go_at_call 54 | go_at_call 55 | go_at_call 56);refine (HM.out.1 _ (HB4.out.trans ((HS.out).mono HB4.out.size))).mono ?_;rintro e w5 ⟨_,rfl,⟨yb,yc,rfl,hyc,hyk⟩,hb5⟩;have H5:=hH (aN hyc (aN hyk hb5));have HS5:=hH (HS.out.trans (hb5.mono HS.out.size));have HS4:=hH HS.out.size;have HX5:=hH (NltQ HS.out.size hb5.size);clear hyc hyk hb5;rw[←HL.out.1,←HL.out.2.1,←HL.out.2.2.1,←HL.out.2.2.2.1,←HL.out.2.2.2.2])
    refine HK.out _ _ HS5.out (fun uH=>?_)
    clear HK HS
    refine tG (i:=7) (.tuple #[.agg #[.int .i64 yid,.int .i64 ykd,.string ytx,.slice yb yn yc],.int .i64 ye]) rfl ?_
    simp only[Act.put,pg]
    refine tG (i:=8) (.agg #[.int .i64 yid,.int .i64 ykd,.string ytx,.slice yb yn yc]) rfl ?_
    simp only[Act.put,pg]
    refine tG (i:=9) (.int .i64 ye) rfl ?_
    simp only[Act.put,pg]
    refine rd [10] ?_
    refine AcQ (o:=_) rfl (fun K hK=>?_) AnQ
    rw[ipQ (by rfl)]
    simp only[pg3]
    have HK:=hH hK
    have HS:=hH uH
    clear hK uH
    go_wp2_with fail
    obtain⟨WA,hWA⟩:∃WA,WA=(World.alloc w5 (.cells #[.int .i64 0,.int .i64 0,.string ⟨#[]⟩,.slice none 0 0] 27)):=⟨_,rfl⟩
    rw[←hWA]
    have hza:WA.heap[w5.heap.size]? =some (.cells #[.int .i64 0,.int .i64 0,.string ⟨#[]⟩,.slice none 0 0] 27 (0,0)):=by rw[hWA];exact hanQ w5 _
    have hba:Below w5.heap.size w5 WA:=by rw[hWA];exact zg _ _
    have hsa:WA.heap.size=w5.heap.size+1:=by rw[hWA];exact yB _ _
    have HA:=hH (aN hza (aN hba hsa))
    refine HK.out _ _ (HS.out.trans (hba.mono HS.out.size)) (fun uH=>?_)
    clear HK HS hza hba hsa hWA
    refine rd [11] ?_
    refine AcQ (o:=_) rfl (fun K hK=>?_) AnQ
    rw[ipQ (by rfl)]
    simp only[pg3]
    have HK:=hH hK
    have HS:=hH uH
    clear hK uH
    have hz:WA.heap[w5.heap.size]? =some (.cells #[.int .i64 0,.int .i64 0,.string ⟨#[]⟩,.slice none 0 0] 27 (0,0)):=HA.out.1
    obtain⟨z0,z1,z2,z3⟩:=zH hz
    have zf:∀j,WA.frozen? ⟨w5.heap.size,j,none⟩=false:=fun j=>forQ _ _ j _ _ hz
    obtain⟨V5,e5,r1,r2,r3,r4,r5,r6⟩:=zu (u0:= .int .i64 yid) (u1:= .int .i64 ykd) (u2:= .string ytx) (u3:= .slice yb yn yc) hz
    have hb5:Below W4.heap.size W4 V5:=⟨r3.trans HS.out.os,r4.trans HS.out.tape,r5.trans HS.out.output,by rw[r6];exact HS.out.size,fun y hy=>(r2 y (by have:=HS5.out.size;have:=HA.out.2.2;omega)).trans (HS.out.block y hy)⟩
    have hk5:zk V5 (fun z=>T z∨W4.heap.size≤z) pr.1.kids yb:=H5.out.2.1.kept fun z hz=>⟨hz.imp (fun h=>h) (fun h=>NltQ HS4.out h.1),((r2 z (by rcases hz with h | h;have:=HTS.out z h;have:=HB.out.2.1;have:=HB4.out.size;have:=HX5.out;omega;omega)).trans (HA.out.2.1.block z (by rcases hz with h | h;have:=HTS.out z h;have:=HB.out.2.1;have:=HB4.out.size;have:=HX5.out;omega;omega)))⟩
    have hyc5:=H5.out.1
    rw[←HL.out.2.2.2.1] at hyc5
    have H6:=hH (aN hb5 (aN e5 (aN r1 (aN hk5 hyc5))))
    clear hz r1 r2 r3 r4 r5 r6 hb5 e5 hk5 hyc5
    go_wp2_with fail
    rw[←H6.out.2.1]
    refine HK.out _ _ H6.out.1 (fun uH=>?_)
    clear HK HS z0 z1 z2 z3 zf HA H5 HS5
    refine tG (i:=12) (.int .i64 ye) rfl ?_
    simp only[Act.put,pg]
    refine wpAnyH_done kr1 ?_ _
    clear uH
    obtain⟨xb,hxb⟩:∃xb,xb=w5.heap.size:=⟨_,rfl⟩
    have hgx:w.heap.size+3≤xb:=by rw[hxb];have:=HB.out.2.1;have:=HB4.out.size;have:=HX5.out;omega
    obtain⟨g1,g2,g3,g4,g5⟩:=H6.out
    rw[←hxb] at g3 ⊢
    have HGX:=hH hgx
    have H6:=hH (aN g1 (aN g2 (aN g3 (aN g4 g5))))
    clear hgx hxb g1 g2 g3 g4 g5
    by_cases he:ye=0
    · subst he
      obtain⟨y0,y1,y2,y3⟩:=zH H6.out.2.2.1
      have hfc:=H6.out.2.2.2.1.cells
      have hcp:=jA V5 (fun z=>yD V5 z∧(T z∨W4.heap.size≤z)) (.agg #[.int .i64 yid,.int .i64 ykd,.string ytx,.slice yb yn yc]) pr.1 (fun z hz=>hz.1) ⟨yb,yc,by rw[HL.out.1,HL.out.2.1,HL.out.2.2.1,HL.out.2.2.2.1],by rw[←HL.out.2.2.2.1];exact H6.out.2.2.2.2,hfc⟩ (by have:=HM.out.2;omega)
      have HCP:=hH hcp
      clear hcp hfc
      go_wp2_with fail
      refine HCP.out.mono ?_
      rintro e W7 ⟨_,rfl,⟨ob,oc,rfl,hoc,hok⟩,hb7⟩
      rw[←HL.out.1,←HL.out.2.1,←HL.out.2.2.1,←HL.out.2.2.2.1]
      rw[←HL.out.2.2.2.1] at hoc
      have hbB7:Below B.heap.size B W7:=(HB4.out.trans (H6.out.1.mono HB4.out.size)).trans (hb7.mono (NltQ HB4.out.size H6.out.1.size))
      have hr3:=(hbB7.block _ (lohQ HB.out.2.2)).trans HB.out.2.2
      have hbz:Below w.heap.size w W7:=HB.out.1.trans (hbB7.mono HB.out.1.size)
      obtain⟨z0,z1,z2,z3⟩:=zH hr3
      have zf:∀j,W7.frozen? ⟨w.heap.size+1+1,j,none⟩=false:=fun j=>forQ _ _ j _ _ hr3
      obtain⟨V,hV,r1,r2,r3,r4,r5,r6⟩:=zu (u0:= .int .i64 yid) (u1:= .int .i64 ykd) (u2:= .string ytx) (u3:= .slice ob yn oc) hr3
      have hokV:zk V (fun z=>yD V z∧(T z∨w.heap.size≤z)) pr.1.kids ob:=hok.kept fun z hz=>by
       obtain⟨⟨cs,ty,fr,hc⟩,hz2⟩:=hz
       have hne:z≠w.heap.size+1+1:=fun e=>by
        subst e
        have h1:=HB.out.2.1
        have h2:=HB4.out.size
        have h3:=H6.out.1.size
        rcases hz2 with ⟨_,h4 | h4⟩ | h4
        · have:=HTS.out _ h4;omega
        · omega
        · omega
       refine⟨⟨⟨cs,ty,fr,(r2 z hne).trans hc⟩,?_⟩,r2 z hne⟩
       have h1:=HB.out.1.size
       have h2:=HB4.out.size
       have h3:=H6.out.1.size
       rcases hz2 with ⟨_,h4 | h4⟩ | h4
       · exact Or.inl h4
       · exact Or.inr om
       · exact Or.inr om
      have HE:=hH (aN hbz (aN hV (aN r1 (aN r2 (aN r3 (aN r4 (aN r5 (aN r6 (aN hokV hoc)))))))))
      clear hbB7 hb7 hbz hr3 hV r1 r2 r3 r4 r5 r6 hokV hoc hok y0 y1 y2 y3 H6
      go_wp2_with fail
      rw[←HE.out.2.1]
      obtain⟨hbz,hV,r1,r2,r3,r4,r5,r6,hokV,hoc⟩:=HE.out
      rw[HL.out.1,HL.out.2.1,HL.out.2.2.1,HL.out.2.2.2.1] at r1
      rw[HL.out.2.2.2.1] at hoc
      exact yh (p:=4) (u:=5) rfl rfl (g:=w.heap.size+1+1) (y:=pr.1) ⟨r3.trans hbz.os,r4.trans hbz.tape,r5.trans hbz.output,by rw[r6];exact hbz.size,fun k hk=>(r2 k om).trans (hbz.block k hk)⟩ r1 rfl hoc hokV (by rw[yY,ipQ HL.out.2.2.2.2.symm]) rfl (by rw[←HL.out.2.2.2.2];rfl)
    · have heb:(ye != 0)=true:=by simpa using he
      have hbB7:Below B.heap.size B V5:=HB4.out.trans (H6.out.1.mono HB4.out.size)
      have hr3:=(hbB7.block _ (lohQ HB.out.2.2)).trans HB.out.2.2
      have hbz:Below w.heap.size w V5:=HB.out.1.trans (hbB7.mono HB.out.1.size)
      obtain⟨z0,z1,z2,z3⟩:=zH hr3
      have zf:∀j,V5.frozen? ⟨w.heap.size+1+1,j,none⟩=false:=fun j=>forQ _ _ j _ _ hr3
      obtain⟨V,hV,r1,r2,r3,r4,r5,r6⟩:=zu (u0:= .int .i64 0) (u1:= .int .i64 0) (u2:= .string ⟨#[]⟩) (u3:= .slice none 0 0) hr3
      have HE:=hH (aN hbz (aN hV (aN r1 (aN r2 (aN r3 (aN r4 (aN r5 r6)))))))
      have HNE:=hH he
      clear hbB7 hbz hr3 hV r1 r2 r3 r4 r5 r6 he H6
      go_wp2_with fail
      rw[←HE.out.2.1]
      obtain⟨hbz,hV,r1,r2,r3,r4,r5,r6⟩:=HE.out
      exact yh (p:=4) (u:=5) rfl rfl (g:=w.heap.size+1+1) (y:=zG) ⟨r3.trans hbz.os,r4.trans hbz.tape,r5.trans hbz.output,by rw[r6];exact hbz.size,fun k hk=>(r2 k om).trans (hbz.block k hk)⟩ r1 rfl (NlrQ _) True.intro (by rw[yY,inQ (by rw[←HL.out.2.2.2.2];exact HNE.out)]) rfl (by rw[←HL.out.2.2.2.2];rfl)
  · rw [ipQ (by rfl)]
    simp only[pg3]
    have HK:=hH hK
    have HS:=hH uH
    clear hK uH
    go_wp2_with fail
    obtain⟨WA,hWA⟩:∃WA,WA=(World.alloc W4 (.cells #[.int .i64 0,.int .i64 0,.string ⟨#[]⟩,.slice none 0 0] 27)).drew:=⟨_,rfl⟩
    rw[←hWA]
    have hza:WA.heap[W4.heap.size]? =some (.cells #[.int .i64 0,.int .i64 0,.string ⟨#[]⟩,.slice none 0 0] 27 (0,0)):=by rw[hWA];exact hanQ W4 _
    have hba:Below W4.heap.size W4 WA:=by rw[hWA];exact below_drewN (zg _ _) 1
    have hsa:WA.heap.size=W4.heap.size+1:=by rw[hWA];exact yB _ _
    have HA:=hH (aN hza (aN hba hsa))
    refine HK.out _ _ (hba) (fun uH=>?_)
    clear HK HS hza hba hsa hWA
    refine rd [6] ?_
    refine AcQ (o:=_) rfl (fun K hK=>?_) AnQ
    rw[ipQ (by rfl)]
    simp only[pg3]
    have HK:=hH hK
    have HS:=hH uH
    clear hK uH
    go_wp2_with ((first | go_at_call 53 | go_at_call 54 | go_at_call 55 | go_at_call 56);refine (HM.out.1 _ (HB4.out.trans ((HS.out).mono HB4.out.size))).mono ?_;rintro e w5 ⟨_,rfl,⟨yb,yc,rfl,hyc,hyk⟩,hb5⟩;have H5:=hH (aN hyc (aN hyk hb5));have HS5:=hH (HS.out.trans (hb5.mono HS.out.size));have HZB:=hH ((hb5.block _ (lohQ HA.out.1)).trans HA.out.1);clear hyc hyk hb5;rw[←HL.out.1,←HL.out.2.1,←HL.out.2.2.1,←HL.out.2.2.2.1,←HL.out.2.2.2.2])
    refine HK.out _ _ HS5.out (fun uH=>?_)
    clear HK HS
    refine tG (i:=7) (.tuple #[.agg #[.int .i64 yid,.int .i64 ykd,.string ytx,.slice yb yn yc],.int .i64 ye]) rfl ?_
    simp only[Act.put,pg]
    refine tG (i:=8) (.agg #[.int .i64 yid,.int .i64 ykd,.string ytx,.slice yb yn yc]) rfl ?_
    simp only[Act.put,pg]
    refine tG (i:=9) (.int .i64 ye) rfl ?_
    simp only[Act.put,pg]
    refine rd [11] ?_
    refine AcQ (o:=_) rfl (fun K hK=>?_) AnQ
    rw[ipQ (by rfl)]
    simp only[pg3]
    have HK:=hH hK
    have HS:=hH uH
    clear hK uH
    have hz:w5.heap[W4.heap.size]? =some (.cells #[.int .i64 0,.int .i64 0,.string ⟨#[]⟩,.slice none 0 0] 27 (0,0)):=HZB.out
    obtain⟨z0,z1,z2,z3⟩:=zH hz
    have zf:∀j,w5.frozen? ⟨W4.heap.size,j,none⟩=false:=fun j=>forQ _ _ j _ _ hz
    obtain⟨V5,e5,r1,r2,r3,r4,r5,r6⟩:=zu (u0:= .int .i64 yid) (u1:= .int .i64 ykd) (u2:= .string ytx) (u3:= .slice yb yn yc) hz
    have hb5:Below W4.heap.size W4 V5:=⟨r3.trans HS.out.os,r4.trans HS.out.tape,r5.trans HS.out.output,by rw[r6];exact HS.out.size,fun y hy=>(r2 y (by have:=HS5.out.size;have:=HA.out.2.2;omega)).trans (HS.out.block y hy)⟩
    have hk5:zk V5 (fun z=>T z∨W4.heap.size≤z) pr.1.kids yb:=H5.out.2.1.kept fun z hz=>⟨hz.imp (fun h=>h) (fun h=>by have:=HA.out.2.2;omega),r2 z (by rcases hz with h | h;have:=HTS.out z h;have:=HB.out.2.1;have:=HB4.out.size;omega;have:=HA.out.2.2;omega)⟩
    have hyc5:=H5.out.1
    rw[←HL.out.2.2.2.1] at hyc5
    have H6:=hH (aN hb5 (aN e5 (aN r1 (aN hk5 hyc5))))
    clear hz r1 r2 r3 r4 r5 r6 hb5 e5 hk5 hyc5
    go_wp2_with fail
    rw[←H6.out.2.1]
    refine HK.out _ _ H6.out.1 (fun uH=>?_)
    clear HK HS z0 z1 z2 z3 zf HA H5 HS5
    refine tG (i:=12) (.int .i64 ye) rfl ?_
    simp only[Act.put,pg]
    refine wpAnyH_done kr1 ?_ _
    clear uH
    obtain⟨xb,hxb⟩:∃xb,xb=W4.heap.size:=⟨_,rfl⟩
    have hgx:w.heap.size+3≤xb:=by rw[hxb];have:=HB.out.2.1;have:=HB4.out.size;omega
    obtain⟨g1,g2,g3,g4,g5⟩:=H6.out
    rw[←hxb] at g3 ⊢
    have HGX:=hH hgx
    have H6:=hH (aN g1 (aN g2 (aN g3 (aN g4 g5))))
    clear hgx hxb g1 g2 g3 g4 g5
    by_cases he:ye=0
    · subst he
      obtain⟨y0,y1,y2,y3⟩:=zH H6.out.2.2.1
      have hfc:=H6.out.2.2.2.1.cells
      have hcp:=jA V5 (fun z=>yD V5 z∧(T z∨W4.heap.size≤z)) (.agg #[.int .i64 yid,.int .i64 ykd,.string ytx,.slice yb yn yc]) pr.1 (fun z hz=>hz.1) ⟨yb,yc,by rw[HL.out.1,HL.out.2.1,HL.out.2.2.1,HL.out.2.2.2.1],by rw[←HL.out.2.2.2.1];exact H6.out.2.2.2.2,hfc⟩ (by have:=HM.out.2;omega)
      have HCP:=hH hcp
      clear hcp hfc
      go_wp2_with fail
      refine HCP.out.mono ?_
      rintro e W7 ⟨_,rfl,⟨ob,oc,rfl,hoc,hok⟩,hb7⟩
      rw[←HL.out.1,←HL.out.2.1,←HL.out.2.2.1,←HL.out.2.2.2.1]
      rw[←HL.out.2.2.2.1] at hoc
      have hbB7:Below B.heap.size B W7:=(HB4.out.trans (H6.out.1.mono HB4.out.size)).trans (hb7.mono (NltQ HB4.out.size H6.out.1.size))
      have hr3:=(hbB7.block _ (lohQ HB.out.2.2)).trans HB.out.2.2
      have hbz:Below w.heap.size w W7:=HB.out.1.trans (hbB7.mono HB.out.1.size)
      obtain⟨z0,z1,z2,z3⟩:=zH hr3
      have zf:∀j,W7.frozen? ⟨w.heap.size+1+1,j,none⟩=false:=fun j=>forQ _ _ j _ _ hr3
      obtain⟨V,hV,r1,r2,r3,r4,r5,r6⟩:=zu (u0:= .int .i64 yid) (u1:= .int .i64 ykd) (u2:= .string ytx) (u3:= .slice ob yn oc) hr3
      have hokV:zk V (fun z=>yD V z∧(T z∨w.heap.size≤z)) pr.1.kids ob:=hok.kept fun z hz=>by
       obtain⟨⟨cs,ty,fr,hc⟩,hz2⟩:=hz
       have hne:z≠w.heap.size+1+1:=fun e=>by
        subst e
        have h1:=HB.out.2.1
        have h2:=HB4.out.size
        have h3:=H6.out.1.size
        rcases hz2 with ⟨_,h4 | h4⟩ | h4
        · have:=HTS.out _ h4;omega
        · omega
        · omega
       refine⟨⟨⟨cs,ty,fr,(r2 z hne).trans hc⟩,?_⟩,r2 z hne⟩
       have h1:=HB.out.1.size
       have h2:=HB4.out.size
       have h3:=H6.out.1.size
       rcases hz2 with ⟨_,h4 | h4⟩ | h4
       · exact Or.inl h4
       · exact Or.inr om
       · exact Or.inr om
      have HE:=hH (aN hbz (aN hV (aN r1 (aN r2 (aN r3 (aN r4 (aN r5 (aN r6 (aN hokV hoc)))))))))
      clear hbB7 hb7 hbz hr3 hV r1 r2 r3 r4 r5 r6 hokV hoc hok y0 y1 y2 y3 H6
      go_wp2_with fail
      rw[←HE.out.2.1]
      obtain⟨hbz,hV,r1,r2,r3,r4,r5,r6,hokV,hoc⟩:=HE.out
      rw[HL.out.1,HL.out.2.1,HL.out.2.2.1,HL.out.2.2.2.1] at r1
      rw[HL.out.2.2.2.1] at hoc
      exact yh (p:=4) (u:=5) rfl rfl (g:=w.heap.size+1+1) (y:=pr.1) ⟨r3.trans hbz.os,r4.trans hbz.tape,r5.trans hbz.output,by rw[r6];exact hbz.size,fun k hk=>(r2 k om).trans (hbz.block k hk)⟩ r1 rfl hoc hokV (by rw[yY,ipQ HL.out.2.2.2.2.symm]) rfl (by rw[←HL.out.2.2.2.2];rfl)
    · have heb:(ye != 0)=true:=by simpa using he
      have hbB7:Below B.heap.size B V5:=HB4.out.trans (H6.out.1.mono HB4.out.size)
      have hr3:=(hbB7.block _ (lohQ HB.out.2.2)).trans HB.out.2.2
      have hbz:Below w.heap.size w V5:=HB.out.1.trans (hbB7.mono HB.out.1.size)
      obtain⟨z0,z1,z2,z3⟩:=zH hr3
      have zf:∀j,V5.frozen? ⟨w.heap.size+1+1,j,none⟩=false:=fun j=>forQ _ _ j _ _ hr3
      obtain⟨V,hV,r1,r2,r3,r4,r5,r6⟩:=zu (u0:= .int .i64 0) (u1:= .int .i64 0) (u2:= .string ⟨#[]⟩) (u3:= .slice none 0 0) hr3
      have HE:=hH (aN hbz (aN hV (aN r1 (aN r2 (aN r3 (aN r4 (aN r5 r6)))))))
      have HNE:=hH he
      clear hbB7 hbz hr3 hV r1 r2 r3 r4 r5 r6 he H6
      go_wp2_with fail
      rw[←HE.out.2.1]
      obtain⟨hbz,hV,r1,r2,r3,r4,r5,r6⟩:=HE.out
      exact yh (p:=4) (u:=5) rfl rfl (g:=w.heap.size+1+1) (y:=zG) ⟨r3.trans hbz.os,r4.trans hbz.tape,r5.trans hbz.output,by rw[r6];exact hbz.size,fun k hk=>(r2 k om).trans (hbz.block k hk)⟩ r1 rfl (NlrQ _) True.intro (by rw[yY,inQ (by rw[←HL.out.2.2.2.2];exact HNE.out)]) rfl (by rw[←HL.out.2.2.2.2];rfl)):p:=h
theorem sa1 {p:Prop}(h:p:=by
  obtain⟨q,rfl⟩:∃q,n=q+1:=⟨n - 1,by omega⟩
  have hql:q=l'.length:=by simp at hn;omega
  obtain⟨pb,po,rfl,hpb,hpc⟩:=hp.2.resolve_left (fun e=>by simp[qx] at e)
  have hnc:q+1≤pc:=by have:=hp.1;rw[zZ,LlcQ] at this;omega
  obtain⟨v,hv,hatv⟩:∃v,zB u.kids j=some v∧atT v l'=some uL:=by
   simp only[atT] at hat
   cases hkj:zB u.kids j with
   | none=>rw[hkj] at hat;cases hat
   | some v=>rw[hkj] at hat;exact⟨v,rfl,hat⟩
  have hjl:=qd hv
  have hvs:=kT hv
  obtain⟨pq,hpq⟩:∃pq:Option Addr,pq=if pc=1 then some ⟨pb,po,none⟩ else some ⟨pb,po+1,none⟩:=⟨_,rfl⟩
  have hpd:vW W (fun y=>y<W.heap.size∧y≠tb∧¬E y) pq (pc - 1) (qx l'):=by
   rw[hpq]
   split
   · exact⟨by rw[zZ,←hql];omega,Or.inl (by
      have h2:l'= []:=List.length_eq_zero_iff.1 om
      rw[h2];rfl)⟩
   · have h9:vW W (fun y=>y<W.heap.size∧y≠tb∧¬E y) (some ⟨pb,po,none⟩) pc (qx (j::l')):=hp
     have:=h9.drop 1
     simpa [qx] using this
  have px:W.cell? ⟨pb,po,none⟩=some (.int .i64 (j:Int)):=by have:=hpc 0 (j:Int) (by simp[qx]);rwa [Nat.add_zero] at this
  have HA:=Lib.hid (aN hH (aN hN (aN hr (aN hx1 (aN hm hblt)))))
  have HIH:=Lib.hid ih
  have HP:=Lib.hid (aN hpd (aN px (aN hpb (aN hql (aN (show q<M by omega) (aN (show q≤1000000 by omega) (aN (show za v.kids≤400000 by omega) hatv)))))))
  have HPQ:=Lib.hid hpq
  have HV:=Lib.hid (aN hv (show j<m by omega))
  have hq0:¬(q:Int)+1=0:=by omega
  clear ih hM hp hat hn hnb hH hN hkc hk hk0 hr hxl hxc hx1 hul hcl hus hm hpc hpb hatv hv hvs hpq hpd px hql hn0
  go_enter Try.func113,Try.ntmps113
  go_wp2_with fail
  refine HCL.out.mono ?_
  rintro e w1 ⟨v',rfl,hb1,ho⟩
  obtain⟨g,gc,rfl,_⟩:=World.ownsRow.form ho (by have:=HV.out.2;omega)
  have g3:w1.cell? ⟨b,off+3,none⟩=some (.slice ka m kc):=(hb1.cell (p:=⟨b,off+3,none⟩) hblt).trans d3
  have gf:∀j,w1.frozen? ⟨b,j,none⟩=false:=fun j=>(World.frozen?_of_block (hb1.block b hblt)).trans (hfz j)
  rw[HA.out.2.2.2.2.1] at ho
  have hk1:=HA.out.2.1.clone hS HA.out.1 HA.out.2.2.1 HA.out.2.2.2.1 hb1 ho
  obtain⟨hN2,hbg,hgX⟩:=HA.out.2.1.down hS HA.out.1 HV.out.1 hk1
  rw[←HA.out.2.2.2.2.1] at hk1 hN2
  obtain⟨X1,hX1⟩:∃X1,X1=w1.setCell ⟨b,off+3,none⟩ (.slice (some ⟨g,0,none⟩) m gc):=⟨_,rfl⟩
  rw[←hX1] at hk1 hN2
  have hdb:X1.cell? ⟨DB,0,none⟩=some (.func (.func 113) #[] #[.pointer (some ⟨CB,0,none⟩),.pointer (some ⟨DB,0,none⟩)]):=by rw[corQ _ _ 0 _ _ _ ((hk1.h.kept DB hB.hd.1 hB.hd.2.1 (fun h=>h)).trans hB.down)];rfl
  have hpx:X1.cell? ⟨pb,po,none⟩=some (.int .i64 (j:Int)):=(World.cell?_of_block (a:=⟨pb,po,none⟩) (hk1.h.kept pb HP.out.2.2.1.1 HP.out.2.2.1.2.1 (fun h=>h))).trans HP.out.2.1
  have hc3:=hk1.c3
  have hcallD:=HIH.out X1.drew (p++[j]) l' v g (j*4) pq q (pc - 1) HP.out.2.2.2.2.1 HP.out.2.2.2.1 HP.out.2.2.2.2.2.1 hk1.h.drew hN2.drew HP.out.2.2.2.2.2.2.1 HP.out.1 HP.out.2.2.2.2.2.2.2
  have HCALLD:=Lib.hid (show Calls Try.prog 113 #[.pointer (some ⟨g,j*4,none⟩),.slice pq q (pc - 1),.pointer (some ⟨CB,0,none⟩),.pointer (some ⟨DB,0,none⟩)] X1.drew _ from hcallD)
  have HK1:=Lib.hid (aN hk1 (aN hbg hgX))
  have hbE:=HA.out.2.1.notE hS
  have HKP:=Lib.hid (aN hbE (show b<X1.heap.size by have:=hk1.size;omega))
  have HX1:=Lib.hid hX1
  obtain⟨SW,hSW⟩:∃SW:World→Prop,SW=fun X=>X.cell? ⟨DB,0,none⟩=some (.func (.func 113) #[] #[.pointer (some ⟨CB,0,none⟩),.pointer (some ⟨DB,0,none⟩)])∧X.cell? ⟨b,off+3,none⟩=some (.slice (some ⟨g,0,none⟩) m gc)∧X.cell? ⟨pb,po,none⟩=some (.int .i64 (j:Int)):=⟨_,rfl⟩
  have HSW:=Lib.hid (fun (X:World) (h:SW X)=>(show X.cell? ⟨DB,0,none⟩=some (.func (.func 113) #[] #[.pointer (some ⟨CB,0,none⟩),.pointer (some ⟨DB,0,none⟩)])∧X.cell? ⟨b,off+3,none⟩=some (.slice (some ⟨g,0,none⟩) m gc)∧X.cell? ⟨pb,po,none⟩=some (.int .i64 (j:Int)) by rw[hSW] at h;exact h))
  have HMK:=Lib.hid (fun (X:World) (h:X.cell? ⟨DB,0,none⟩=some (.func (.func 113) #[] #[.pointer (some ⟨CB,0,none⟩),.pointer (some ⟨DB,0,none⟩)])∧X.cell? ⟨b,off+3,none⟩=some (.slice (some ⟨g,0,none⟩) m gc)∧X.cell? ⟨pb,po,none⟩=some (.int .i64 (j:Int)))=>(show SW X by rw[hSW];exact h))
  have hS0:SW X1.drew:=HMK.out _ ⟨hdb,hc3,hpx⟩
  have hjm:(j:Int)<(m:Int):=by have:=HV.out.2;omega
  have hj0:(0:Int)≤(j:Int):=by omega
  have hq1:(0:Int)<(q:Int)+1:=by omega
  clear hb1 ho hk1 hN2 hbg hgX d3 hfz hX1 HCL hcallD hdb hpx hc3 hSW hbE
  go_wp2_with fail
  rw[←HX1.out]
  refine wrhQ (S:=SW) kr1 hS0 (fun uH=>?_)
  clear hS0
  refine tJ (i:=0) (.func (.func 113) #[] #[.pointer (some ⟨CB,0,none⟩),.pointer (some ⟨DB,0,none⟩)]) rfl ?_ ?_
  · clear uH;intro X hSw;obtain⟨s0,s1,s2⟩:=HSW.out X hSw;clear hSw;go_simp
  simp only[Act.put,pg]
  refine tG (i:=1) (.pointer (some ⟨b,off,none⟩)) rfl ?_
  simp only[Act.put,pg]
  refine tG (i:=2) (.pointer (some ⟨b,off,none⟩)) rfl ?_
  simp only[Act.put,pg]
  refine tG (i:=3) (.pointer (some ⟨b,off+3,none⟩)) rfl ?_
  simp only[Act.put,pg]
  refine tJ (i:=4) (.slice (some ⟨g,0,none⟩) m gc) rfl ?_ ?_
  · clear uH;intro X hSw;obtain⟨s0,s1,s2⟩:=HSW.out X hSw;clear hSw;go_simp
  simp only[Act.put,pg]
  refine tG (i:=5) (.slice (some ⟨pb,po,none⟩) (q+1) pc) rfl ?_
  simp only[Act.put,pg]
  refine tG (i:=6) (.pointer (some ⟨pb,po,none⟩)) rfl ?_
  simp only[Act.put,pg]
  refine tJ (i:=7) (.int .i64 (j:Int)) rfl ?_ ?_
  · clear uH;intro X hSw;obtain⟨s0,s1,s2⟩:=HSW.out X hSw;clear hSw;go_simp
  simp only[Act.put,pg]
  refine tG (i:=8) (.pointer (some ⟨g,j*4,none⟩)) rfl ?_
  simp only[Act.put,pg]
  refine tG (i:=9) (.slice (some ⟨pb,po,none⟩) (q+1) pc) rfl ?_
  simp only[Act.put,pg]
  refine tJ (i:=10) (.slice pq q (pc - 1)) rfl ?_ ?_
  · clear uH;intro X hSw;clear hSw;have h1:(1:Int)≤(q:Int)+1:=by omega
    go_simp;rw[HPQ.out]
  simp only[Act.put,pg]
  refine rd [11] ?_
  refine AcQ (o:=_) rfl (fun K hK=>?_) AnQ
  rw[ipQ (by rfl)]
  simp only[pg3]
  have HK:=Lib.hid hK
  clear hK uH
  go_wp2_with (go_at_call 113;refine HCALLD.out.mono ?_;rintro e X' ⟨rfl,hd⟩;have HD:=Lib.hid hd;clear hd)
  refine HK.out _ _ (HMK.out _ ?_) (fun uH=>?_)
  · obtain⟨k1,_,k3,_,_⟩:=HD.out
    have hgb:=HK1.out.2
    refine⟨?_,?_,?_⟩
    · rw[corQ _ _ 0 _ _ _ ((k1.kept DB hB.hd.1 hB.hd.2.1 hB.hd.2.2).trans hB.down)];rfl
    · exact (World.cell?_of_block (a:=⟨b,off+3,none⟩) (k3 b HKP.out.2 hgb.1 HKP.out.1)).trans HK1.out.1.c3
    · exact (World.cell?_of_block (a:=⟨pb,po,none⟩) (k1.kept pb HP.out.2.2.1.1 HP.out.2.2.1.2.1 HP.out.2.2.1.2.2)).trans HP.out.2.1
  clear HK uH
  refine wpAnyH_done kr1 ?_ _
  go_wp2_with fail
  go_end0
  obtain⟨k1,k2,k3,k4,k5⟩:=HD.out
  have hs1:=HK1.out.1.size
  have k2' :X1.heap.size≤X'.heap.size:=k2
  refine⟨rfl,k1,by omega,fun y hy hn he=>?_,by rw[List.append_assoc] at k4;exact k4,k5⟩
  rw[k3 y (show y<X1.heap.size by omega) (by have:=HK1.out.2.2;omega) he]
  exact HK1.out.1.old y hy hn):p:=h
theorem sa2 {p:Prop}(h:p:=by
  simp only[Act.put,pg]
  refine zG1 (i:=15) (.bool false) rfl ?_
  simp only[Act.put,pg]
  refine zG1 (i:=16) (.bool false) rfl ?_
  simp only[Act.put,pg]
  refine zR1 (i:=17) rfl ?_
  simp only[Act.put,pg]
  refine zR1 (i:=18) rfl ?_
  simp only[Act.put,pg]
  refine zR1 (i:=19) rfl ?_
  simp only[Act.put,pg]
  refine zR1 (i:=20) rfl ?_
  simp only[Act.put,pg]
  refine zR1 (i:=21) rfl ?_
  simp only[Act.put,pg]
  refine zR1 (i:=22) rfl ?_
  simp only[Act.put,pg]
  refine zG1 (i:=23) (.bool false) rfl ?_
  simp only[Act.put,pg]
  refine zG1 (i:=24) (.bool false) rfl ?_
  simp only[Act.put,pg]
  refine zR1 (i:=25) rfl ?_
  simp only[Act.put,pg]
  refine zR1 (i:=26) rfl ?_
  simp only[Act.put,pg]
  refine zR1 (i:=27) rfl ?_
  simp only[Act.put,pg]
  refine zR1 (i:=28) rfl ?_
  simp only[Act.put,pg]
  refine zR1 (i:=29) rfl ?_
  simp only[Act.put,pg]
  refine zR1 (i:=30) rfl ?_
  simp only[Act.put,pg]
  refine zG1 (i:=31) (.bool false) rfl ?_
  simp only[Act.put,pg]
  refine zG1 (i:=32) (.bool false) rfl ?_
  simp only[Act.put,pg]
  refine jd kr1 ⟨rfl,?_⟩ _
  have HE:=hH (HFIN.out _ uH)
  clear uH HSx
  gi_wp2
  exact⟨_,results_tmp rfl _ _ _,by rw[HB.out];rfl,HE.out⟩):p:=h
theorem sa3 {p:Prop}(h:p:=by
  refine rd [6] ?_
  refine AcQ (o:=_) rfl (fun K hK=>?_) (AnQ)
  refine yj rfl (.tmp 6) (.tmp 11) 65 65 rfl (.slice a ln c) (.slice (some ⟨X.heap.size,0,none⟩) 1 1) (by simp[Act.eval,Act.put]) (by simp[Act.eval,Act.put]) HRUN.out (hK _ _ HSS.out.2.1 (fun uH=>?_))
  clear hK
  refine rd [7] ?_
  refine AcQ (o:=_) rfl (fun K hK=>?_) (AnQ)
  rw[ipQ (by rfl)]
  simp only[pg3]
  have HK:=hH hK
  clear hK uH
  obtain⟨hzl0,hzf⟩:=HZ.out
  go_wp2_with fail
  rw[←HVE.out]
  refine HK.out _ _ HSS.out.2.2 (fun uH=>?_)
  clear HK uH hzl0 hzf hl0
  refine wpAnyH_done kr1 ?_ _
  go_wp2_with fail
  go_loopw [5] (fun i wr=>∃k:Nat,k≤n∧i= .int .i64 (k:Int)∧Hid (Jr W LB UB DB up ((l++[u.id]++idF (zy k u.kids)).take UP) wr)) (fun i _=>n - (intOf i).toNat)
  case atStart=>exact⟨0,NzlQ _,rfl,hH (by
   have e:zy 0 u.kids= .nil:=by cases u.kids<;>rfl
   rw[e,List.take_of_length_le (by have:=HT.out.2.2.2.2.1;have:=HUP.out;simp[idF];omega)];simpa [idF] using HA.out)⟩
  case round=>
   obtain⟨k,hk,rfl,hr⟩:=hrel
   obtain⟨wo,hwo⟩:∃wo,wo=wr:=⟨_,rfl⟩
   subst hwo
   obtain⟨w0,w3,wd,wu⟩:=HCELL.out _ _ hr.out
   obtain⟨a2,c2,hl2,_⟩:=hr.out.row
   obtain⟨L,hL⟩:∃L,L=((l++[u.id]++idF (zy k u.kids)).take UP).length:=⟨_,rfl⟩
   rw[←hL] at hl2
   have wl:wo.cell? ⟨LB,0,none⟩=some (.slice a2 L c2):=by rw[corQ _ _ 0 _ _ _ hl2];rfl
   by_cases hlt:k<n
   · by_cases hLU:L<UP
     rotate_left
     · have hkl:(k:Int)<(n:Int):=by omega
       have hLu:¬(L:Int)<up:=by have:=HUP.out;omega
       obtain⟨r,hr2⟩:=zah k u.kids
       have HN:=hH (show (l++idT u).take UP=(l++[u.id]++idF (zy k u.kids)).take UP by
        have e:l++idT u=l++[u.id]++idF (zy k u.kids)++r:=by rw[idT,hr2];simp[List.append_assoc]
        rw[e];exact zbD om)
       clear hLU hlt hL hl2 hr2 hk
       go_wp2_with fail
       go_end0
       exact⟨rfl,by rw[HN.out];exact hr.out⟩
     obtain⟨hb,hkk,hn,hkc,hle,hM,hln⟩:=HT.out
     obtain⟨b0,o0,key,ll,rr,hd,g,go,na,nc,hka,hSg,q0,q1,q2,q3,qc,qk⟩:=hkk.at k om
     have hkid:zB u.kids k=some ⟨key.1,key.2.1,key.2.2,ll⟩:=by rw[zB,hd];rfl
     have hksz:za ll+1≤za u.kids:=kT hkid
     have htk:(((l++[u.id]++idF (zy k u.kids)).take UP)++idT ⟨key.1,key.2.1,key.2.2,ll⟩).take UP=(l++[u.id]++idF (zy (k+1) u.kids)).take UP:=by rw[zdB,zai u.kids k _ hkid,←List.append_assoc]
     have hup2:=HUP.out
     have hlen:k≤L:=by
      have h1:=YF k u.kids om
      have h2:=zM (zy k u.kids)
      have h3:(l++[u.id]++idF (zy k u.kids)).length=l.length+1+za (zy k u.kids):=by simp[jU];omega
      rw[List.length_take] at hL
      omega
     have hLu:(L:Int)<up:=by omega
     have hkl:(k:Int)<(n:Int):=by omega
     have hk0:(0:Int)≤(k:Int):=by omega
     have hk6:(k:Int)≤1000000:=by omega
     have hnode:kI W S ⟨key.1,key.2.1,key.2.2,ll⟩ g (go+k*4):=⟨hSg,q0,q1,q2,na,nc,q3,qc,qk⟩
     have hcall:=HIH.out wo.drew ((l++[u.id]++idF (zy k u.kids)).take UP) ⟨key.1,key.2.1,key.2.2,ll⟩ g (go+k*4) (by simp only;omega) hnode ⟨hr.out.row,hr.out.below,hr.out.size,hr.out.os,hr.out.tape,hr.out.output⟩ (by rw[←hL];omega)
     subst hka
     have HCALL:=hH hcall
     have HLT:=hH hlt
     have HTK:=hH htk
     obtain⟨S4,hS4⟩:∃S4:World→Prop,S4=fun Y=>Y.cell? ⟨DB,0,none⟩=some (.func (.func 85) #[] #[.pointer (some ⟨LB,0,none⟩),.pointer (some ⟨UB,0,none⟩),.pointer (some ⟨DB,0,none⟩)])∧Y.cell? ⟨b,off+3,none⟩=some (.slice (some ⟨g,go,none⟩) n kc):=⟨_,rfl⟩
     have HS4:=hH (fun (Y:World) (h:S4 Y)=>(show Y.cell? ⟨DB,0,none⟩=some (.func (.func 85) #[] #[.pointer (some ⟨LB,0,none⟩),.pointer (some ⟨UB,0,none⟩),.pointer (some ⟨DB,0,none⟩)])∧Y.cell? ⟨b,off+3,none⟩=some (.slice (some ⟨g,go,none⟩) n kc) by rw[hS4] at h;exact h))
     have HMK:=hH (fun (Y:World) (m:List Int) (h:Jr W LB UB DB up m Y)=>(show S4 Y by rw[hS4];exact⟨(HCELL.out Y m h).2.2.1,(HCELL.out Y m h).2.1⟩))
     have hS0:S4 wo.drew:=by rw[hS4];exact⟨wd,w3⟩
     clear hb hkk hn hkc hle hM hln hd hSg q0 q1 q2 q3 qc qk hkid hksz htk hlen hnode hcall hlt hS4 hl2 hL hLU hup2
     go_wp2_with fail
     refine wrhQ (S:=S4) kr1 hS0 (fun uH=>?_)
     clear hS0
     refine tJ (i:=0) (.func (.func 85) #[] #[.pointer (some ⟨LB,0,none⟩),.pointer (some ⟨UB,0,none⟩),.pointer (some ⟨DB,0,none⟩)]) rfl ?_ ?_
     · clear uH;intro X hSw;obtain⟨s0,s1⟩:=HS4.out X hSw;clear hSw;go_simp
     simp only[Act.put,pg]
     refine tG (i:=1) (.pointer (some ⟨b,off,none⟩)) rfl ?_
     simp only[Act.put,pg]
     refine tG (i:=2) (.pointer (some ⟨b,off,none⟩)) rfl ?_
     simp only[Act.put,pg]
     refine tG (i:=3) (.pointer (some ⟨b,off+3,none⟩)) rfl ?_
     simp only[Act.put,pg]
     refine tJ (i:=4) (.slice (some ⟨g,go,none⟩) n kc) rfl ?_ ?_
     · clear uH;intro X hSw;obtain⟨s0,s1⟩:=HS4.out X hSw;clear hSw;go_simp
     simp only[Act.put,pg]
     refine tG (i:=5) (.int .i64 (k:Int)) rfl ?_
     simp only[Act.put,pg]
     refine tG (i:=6) (.pointer (some ⟨g,go+k*4,none⟩)) rfl ?_
     simp only[Act.put,pg]
     refine rd [7] ?_
     refine AcQ (o:=_) rfl (fun K hK=>?_) (AnQ)
     rw[ipQ (by rfl)]
     simp only[pg3]
     have HK:=hH hK
     clear hK uH
     go_wp2_with (go_at_call 85;refine HCALL.out.mono ?_;rintro e X' ⟨rfl,hd⟩;have HD:=hH hd;clear hd)
     refine HK.out _ _ (HMK.out _ _ HD.out) (fun uH=>?_)
     clear HK uH
     refine wpAnyH_done kr1 ?_ _
     clear w0 w3 wd wu wl hLu
     go_wp2_with fail
     exact⟨⟨k+1,HLT.out,by go_num,hH (by rw[←HTK.out];exact HD.out)⟩,by have:=HLT.out;simp[intOf];omega⟩
   · have hkn:k=n:=by omega
     subst hkn
     have HN:=hH HT.out.2.2.1
     clear hlt hL hl2
     go_wp2_with fail
     go_end0
     refine⟨rfl,?_⟩
     have:=hr.out
     rw[qK k u.kids (by rw[HN.out];exact NlrQ _)] at this
     have e:l++idT u=l++[u.id]++idF u.kids:=by simp[idT,List.append_assoc]
     rw[e];exact this):p:=h
theorem sa4 {p:Prop}(h:p:=by
  obtain⟨m,bv,hm,rfl,rfl,hbv,hr2⟩:=hrel
  have HBV:=hH hbv
  clear hbv
  obtain⟨hwb1,hwb2,hwb3⟩:=HWB.out
  have z0:=(hr2.out.cell (p:=⟨wo.heap.size,0,none⟩) hwb3).trans hwb2
  by_cases hmk:m<k
  · obtain⟨y,hy⟩:∃y,(spF 1 (zh t))[m]? =some y:=⟨_,List.getElem?_eq_getElem (by have:=HSP.out.2.1;have:=HLT.out;omega)⟩
    obtain⟨_,he,_,y0,_,_,_,_⟩:=Z5 HSP.out.1 hy
    cases he
    obtain⟨y00,hy0⟩:∃y00,y00=y.2.1.1:=⟨_,rfl⟩
    rw[←hy0] at y0
    have y0:=((hwb1.trans (hr2.out.mono hwb1.size)).cell (p:=⟨gg,m*5,none⟩) HGL.out).trans y0
    have HY:=hH (show ((zU (spF 1 (zh t))).take (m+1)).any (· == x0)=(((zU (spF 1 (zh t))).take m).any (· == x0) || (y00 == x0)) by rw[List.take_add_one,show (zU (spF 1 (zh t)))[m]? =some y00 by rw[hy0];unfold zU;rw[List.getElem?_map,hy];rfl];simp)
    have HMK:=hH hmk
    have hml:(m:Int)<(k:Int):=by omega
    have hmq:(m:Int)<(q:Int):=by have:=HLT.out;omega
    have HR2:=hH hr2.out
    clear hr2 hy hy0 hmk hwb1 hwb2 hwb3
    cases bv
    · go_wp2_with (go_quiet (fail))
      refine⟨⟨m+1,_,HMK.out,by go_num,rfl,?_,hH (below_drewN HR2.out _)⟩,by have:=HMK.out;simp[intOf];omega⟩
      rw[HY.out,←Bool.or_assoc,←HBV.out];simp
    · go_wp2_with (go_quiet (fail))
      refine⟨⟨m+1,true,HMK.out,by go_num,rfl,?_,hH (below_drewN HR2.out _)⟩,by have:=HMK.out;simp[intOf];omega⟩
      rw[HY.out,←Bool.or_assoc,←HBV.out];simp
  · have hmk2:m=k:=by omega
    subst hmk2
    have hml:¬(m:Int)<(m:Int):=by omega
    have HR2:=hH (hwb1.trans (hr2.out.mono hwb1.size))
    have HAB:=hH (show atB g (zU ((spF 1 (zh t)).take m)) x.1 (Yo x)=bv by rw[HBV.out,HBB.out,zU,zU,List.map_take])
    clear hr2 hmk hwb1 hwb2 hwb3 z0
    cases bv
    · go_wp2_with fail
      exact⟨⟨m+1,HLT.out,by go_num,hH ⟨HR2.out,Y9 HBA.out HX.out HAB.out⟩⟩,by have:=HLT.out;simp[intOf];omega⟩
    · have HB:=hH (show Zb g t=((m:Int),70) by rw[Zb,←HK.out,ipQ rfl,inQ HS200.out,QM,Y8 HBA.out HX.out HAB.out])
      go_wp2_with fail
      go_ret2
      exact⟨by rw[HB.out];rfl,HFIN.out _ (HSB.out _ _ HS3.out HR2.out)⟩):p:=h
theorem sa5 {p:Prop}(h:p:=by
  have hr3:=(hb2.block _ (lohQ HB.out.2.2)).trans HB.out.2.2
  have hbz:Below w.heap.size w W2:=HB.out.1.trans (hb2.mono HB.out.1.size)
  obtain⟨z0,z1,z2,z3⟩:=zH hr3
  have zf:∀j,W2.frozen? ⟨w.heap.size+1+1,j,none⟩=false:=fun j=>forQ _ _ j _ _ hr3
  obtain⟨V,hV,r1,r2,r3,r4,r5,r6⟩:=zu (u0:= .int .i64 0) (u1:= .int .i64 0) (u2:= .string ⟨#[]⟩) (u3:= .slice none 0 0) hr3
  have HE:=hH (aN hE (aN hbz (aN hr3 (aN hV (aN r1 (aN r2 (aN r3 (aN r4 (aN r5 r6)))))))))
  clear hE hbz hr3 hV r1 r2 r3 r4 r5 r6
  go_wp2_with fail
  rw[←HE.out.2.2.2.1]
  obtain⟨hE,hbz,hr3,hV,r1,r2,r3,r4,r5,r6⟩:=HE.out
  exact step_end (p:=4) (u:=5) rfl rfl (g:=w.heap.size+1+1) (y:=zG) (m:=0) (kb:=none) (kc:=0) ⟨r3.trans hbz.os,r4.trans hbz.tape,r5.trans hbz.output,by rw[r6];exact hbz.size,fun k hk=>(r2 k om).trans (hbz.block k hk)⟩ om ⟨_,_,r1,rfl⟩ rfl (NlrQ _) True.intro (by rw[hE]) rfl (by rw[hE];rfl)):p:=h
theorem sa6 {p:Prop}(h:p:=by
  obtain⟨V,hV,r1,r2,r3,r4,r5,r6⟩:=zu (u0:= .int .i64 0) (u1:= .int .i64 0) (u2:= .string ⟨#[]⟩) (u3:= .slice none 0 0) hr3
  have HE:=hH (aN hE (aN hbz (aN hr3 (aN hV (aN r1 (aN r2 (aN r3 (aN r4 (aN r5 r6)))))))))
  clear hE hbz hr3 hV r1 r2 r3 r4 r5 r6
  go_wp2_with fail
  rw[←HE.out.2.2.2.1]
  obtain⟨hE,hbz,hr3,hV,r1,r2,r3,r4,r5,r6⟩:=HE.out
  exact step_end (p:=4) (u:=5) rfl rfl (g:=w.heap.size+1+1) (y:=zG) (m:=0) (kb:=none) (kc:=0) ⟨r3.trans hbz.os,r4.trans hbz.tape,r5.trans hbz.output,by rw[r6];exact hbz.size,fun k hk=>(r2 k om).trans (hbz.block k hk)⟩ om ⟨_,_,r1,rfl⟩ rfl (NlrQ _) True.intro (by rw[hE]) rfl (by rw[hE];rfl)):p:=h
theorem sa7 {p:Prop}(h:p:=by
  have H5:=hH (aN hb5 e5)
  clear hz r1 r2 r3 r4 r5 r6 hb5 e5
  go_wp2_with fail
  rw[←H5.out.2]
  refine HK.out _ _ H5.out.1 (fun uH=>?_)
  clear HK HS z0 z1 z2 z3 zf
  refine tG (i:=13) (.bool bb) rfl ?_
  simp only[Act.put,pg]
  refine wpAnyH_done kr1 ?_ _
  clear uH
  have hV5:=H5.out.1
  have HV:=hH hV5
  clear hV5 H5 h5c HA H4 HCX HFR
  go_wp2_with fail
  go_loopw [12,13] (fun c i wr=>∃m:Nat,m≤j∧c= .bool (vN bb T yi m)∧i= .int .i64 (m:Int)∧Hid (Below V5.heap.size V5 wr)) (fun c i _=>j - (intOf i).toNat)
  case atStart=>exact⟨0,NzlQ _,by rw[Jp],rfl,hH (BrQ _ _)⟩
  case round=>
   obtain⟨m,hm,rfl,rfl,hi⟩:=hrel
   by_cases hlm:m<j
   · have hmi:(m:Int)<(j:Int):=by omega
     obtain⟨v,hv⟩:∃v,T[m]? =some v:=⟨_,List.getElem?_eq_getElem (by rw[HE.out.2.2.2.2.2.2.2.2.2.1];have:=HM.out.2.1;omega)⟩
     obtain⟨g',e',hg2,d0,_⟩:=HE.out.2.2.2.2.2.2.2.2.1 m v hv
     cases e'
     have hbr:=HM.out.2.2.1.1.trans ((HV.out.trans (hi.out.mono HV.out.size)).mono HM.out.2.2.1.1.size)
     have p0:=(hbr.cell (p:=⟨g,j*5,none⟩) HG.out.1).trans HG.out.2
     have p1:=(hbr.cell (p:=⟨g,m*5,none⟩) HG.out.1).trans d0
     obtain⟨vi,hvi⟩:∃vi,vi=v.2.1.1:=⟨_,rfl⟩
     rw[←hvi] at p1
     have hsucc:=Jo (bb:=bb) (i:=yi) hv
     rw[←hvi] at hsucc
     obtain⟨cb,hcb⟩:∃cb,cb=vN bb T yi m:=⟨_,rfl⟩
     rw[←hcb] at hsucc ⊢
     have HS:=hH (aN hsucc (aN hlm hi.out))
     have hjk:(j:Int)<(k:Int):=by have:=HM.out.2.1;omega
     have hmk:(m:Int)<(k:Int):=by omega
     clear hv hg2 d0 hbr hvi hsucc hcb hm hlm hi
     cases cb with
     | true=>
       go_wp2_with fail
       go_upto_region 18 with (go_quiet (fail))
       go_wp2_with fail
       exact⟨⟨m+1,by have:=HS.out.2.1;omega,by rw[HS.out.1];rfl,by go_num,hH (yT HS.out.2.2 _)⟩,by have:=HS.out.2.1;simp[intOf];omega⟩
     | false=>
       by_cases hev:vi=yi
       · have hb:(vi == yi)=true:=by simpa using hev
         have HB:=hH hb
         clear hev
         go_wp2_with fail
         go_upto_region 18 with (go_quiet (fail))
         go_wp2_with fail
         exact⟨⟨m+1,by have:=HS.out.2.1;omega,by rw[HS.out.1];rw[HB.out];rfl,by go_num,hH (yT HS.out.2.2 _)⟩,by have:=HS.out.2.1;simp[intOf];omega⟩
       · have hb:(vi == yi)=false:=by simpa using hev
         have HB:=hH hb
         clear hev
         go_wp2_with fail
         go_upto_region 18 with (go_quiet (fail))
         go_wp2_with fail
         exact⟨⟨m+1,by have:=HS.out.2.1;omega,by rw[HS.out.1];rw[HB.out];rfl,by go_num,hH (yT HS.out.2.2 _)⟩,by have:=HS.out.2.1;simp[intOf];omega⟩
   · have hmi:¬(m:Int)<(j:Int):=by omega
     obtain rfl:m=j:=by omega
     have hbr:=HV.out.trans (hi.out.mono HV.out.size)
     have hbr5:=HM.out.2.2.1.1.trans (hbr.mono HM.out.2.2.1.1.size)
     have hbrw:=HE.out.1.trans (hbr5.mono HE.out.1.size)
     have f2:=(hbr5.block _ (lohQ HE.out.2.2.2.1)).trans HE.out.2.2.2.1
     obtain⟨cb,hcb⟩:∃cb,cb=vN bb T yi m:=⟨_,rfl⟩
     rw[←hcb]
     have HS:=hH (aN hcb (aN hbr5 (aN hbrw f2)))
     clear hcb hbr hbr5 hbrw f2 hi hm hlm HV
     cases cb with
     | true=>
       have hb3:=HS.out.2.2.1
       have f2:=HS.out.2.2.2
       obtain⟨z0,z1,z2,z3⟩:=zF f2
       have gz:∀j,wr.frozen? ⟨w.heap.size+1+1,j,none⟩=false:=fun j=>forQ _ _ j _ _ f2
       have HZ:=hH (zX f2 (.int .i64 0) (.int .i64 0) (.string ⟨#[]⟩) (.slice none 0 0))
       have HEE:=hH (yZ (r:=zN par (pl:Int) x t) (er:=60) hb3 f2 om (by decide) (zcj (zdl (k:=m) (by rw[←HE.out.2.2.2.2.2.2.2.2.2.2.1];exact HM.out.1) (by rw[←HE.out.2.2.2.2.2.2.2.2.2.2.1,←HM.out.2.2.2.1,←HM.out.2.2.2.2.1];exact HS.out.1.symm))))
       go_wp2_with fail
       exact brQ (zq rfl _ _ (w.heap.size+1+1) 27 _ _ _ (.int .i64 60) rfl HZ.out.1 Try.underlying27 rfl kr1 rfl) rfl HEE.out
     | false=>
       go_wp2_with fail
       have hne:=HS.out.1
       unfold vN at hne
       obtain⟨hne1,hne2⟩:=Bool.or_eq_false_iff.1 hne.symm
       exact⟨⟨m+1,by have:=HM.out.2.1;omega,by go_num,hH ⟨HS.out.2.1,ZX HM.out.2.2.1.2.1 HM.out.1 (fun c u hc hu he=>by
        have:=List.any_eq_false.1 hne2 u (List.mem_iff_getElem?.2 ⟨c,by rw[List.getElem?_take,ipQ hc];exact hu⟩)
        rw[HM.out.2.2.2.1,he] at this;simp at this),fun u hu=>by
        rcases kK HM.out.1 hu with hu | rfl
        · exact HM.out.2.2.1.2.2 u hu
        · rw[←HM.out.2.2.2.1]
          rw[HM.out.2.2.2.2.1] at hne1
          exact Option.isNone_iff_eq_none.1 (by cases hx:zw yi t with | none=>rfl | some q=>rw[hx] at hne1;cases hne1)⟩⟩,by have:=HM.out.2.1;simp[intOf];omega⟩):p:=h
theorem sa8 {p:Prop}(h:p:=by
  rintro e W8a ⟨bc,xc,vc,cc,rfl,hl,hs,hb,h1,h2⟩
  obtain⟨nc,hnc⟩:∃nc,nc=foLen xc.kids:=⟨_,rfl⟩
  rw[←hnc]
  obtain⟨W8,hU⟩:∃W8,W8=W8a.alloc (.cells #[.int .i64 xc.id,.int .i64 xc.kind,.string xc.text,.slice vc nc cc] 27):=⟨_,rfl⟩
  have hbU:Below W8a.heap.size W8a W8:=by rw[hU];exact zg _ _
  have Ec:=hH (show W8.heap[W8a.heap.size]? =some (.cells #[.int .i64 xc.id,.int .i64 xc.kind,.string xc.text,.slice vc nc cc] 27 (0,0)) by rw[hU];exact hanQ _ _)
  have Hc:=hH (aN (qC.on hl hbU) (aN hs (aN h1 (aN h2 hnc))))
  replace hb:=hb.trans (hbU.mono hb.size)
  clear qG0 qG1 qT0 qT1 qT2 qT3
  replace EG:=hH ((hb.block _ (lohQ EG.out)).trans EG.out)
  replace ET:=hH ((hb.block _ (lohQ ET.out)).trans ET.out)
  replace Ea:=hH ((hb.block _ (lohQ Ea.out)).trans Ea.out)
  replace Eb:=hH ((hb.block _ (lohQ Eb.out)).trans Eb.out)
  replace Bw:=hH (Bw.out.trans (hb.mono Bw.out.size))
  replace Bf:=hH (Bf.out.trans (hb.mono Bf.out.size))
  replace Ba:=hH (Ba.out.trans (hb.mono Ba.out.size))
  replace Bb:=hH (Bb.out.trans (hb.mono Bb.out.size))
  have Bc:=hH (BrQ W8.heap.size W8)
  have HU:=hH hU
  obtain⟨kc,hkc⟩:∃kc,kc=W8a.heap.size:=⟨_,rfl⟩
  clear hl hs hb h1 h2 hnc hU hbU
  go_upto_region 9 with fail
  change Code.wp _ _ _ _ (W8a.alloc (.cells #[.int .i64 xc.id,.int .i64 xc.kind,.string xc.text,.slice vc nc cc] 27))
  rw[←HU.out,←hkc]
  rw[←hkc] at Ec
  clear HU hkc
  obtain⟨qG0,qG1⟩:=zbe EG.out
  obtain⟨qT0,qT1,qT2,qT3⟩:=zH ET.out
  go_wp2_with fail
  refine (Zg W8 g ga gn gc t ta fa tn tc fn fc fs HG.out.1 (HG.out.2.1.below Bw.out) HG.out.2.2 HT.out.1 (HT.out.2.1.on Bw.out) HWN.out HF.out.2.1 (by rw[HF.out.2.1];exact HF.out.2.2.2.1.1) (HF.out.1.on Bf.out) HF.out.2.2.2.2).mono ?_
  rintro e W9a ⟨bd,xd,vd,cd,rfl,hl,hs,hb,h1,h2⟩
  obtain⟨nd,hnd⟩:∃nd,nd=foLen xd.kids:=⟨_,rfl⟩
  rw[←hnd]
  obtain⟨W9,hU⟩:∃W9,W9=W9a.alloc (.cells #[.int .i64 xd.id,.int .i64 xd.kind,.string xd.text,.slice vd nd cd] 27):=⟨_,rfl⟩
  have hbU:Below W9a.heap.size W9a W9:=by rw[hU];exact zg _ _
  have Ed:=hH (show W9.heap[W9a.heap.size]? =some (.cells #[.int .i64 xd.id,.int .i64 xd.kind,.string xd.text,.slice vd nd cd] 27 (0,0)) by rw[hU];exact hanQ _ _)
  have Hd:=hH (aN (qC.on hl hbU) (aN hs (aN h1 (aN h2 hnd))))
  replace hb:=hb.trans (hbU.mono hb.size)
  clear qG0 qG1 qT0 qT1 qT2 qT3
  replace EG:=hH ((hb.block _ (lohQ EG.out)).trans EG.out)
  replace ET:=hH ((hb.block _ (lohQ ET.out)).trans ET.out)
  replace Ea:=hH ((hb.block _ (lohQ Ea.out)).trans Ea.out)
  replace Eb:=hH ((hb.block _ (lohQ Eb.out)).trans Eb.out)
  replace Ec:=hH ((hb.block _ (lohQ Ec.out)).trans Ec.out)
  replace Bw:=hH (Bw.out.trans (hb.mono Bw.out.size))
  replace Bf:=hH (Bf.out.trans (hb.mono Bf.out.size))
  replace Ba:=hH (Ba.out.trans (hb.mono Ba.out.size))
  replace Bb:=hH (Bb.out.trans (hb.mono Bb.out.size))
  replace Bc:=hH (Bc.out.trans (hb.mono Bc.out.size))
  have Bd:=hH (BrQ W9.heap.size W9)
  have HU:=hH hU
  obtain⟨kd,hkd⟩:∃kd,kd=W9a.heap.size:=⟨_,rfl⟩
  clear hl hs hb h1 h2 hnd hU hbU
  go_upto_region 10 with fail
  change Code.wp _ _ _ _ (W9a.alloc (.cells #[.int .i64 xd.id,.int .i64 xd.kind,.string xd.text,.slice vd nd cd] 27))
  rw[←HU.out,←hkd]
  rw[←hkd] at Ed
  clear HU hkd
  cases bc
  · have hx:True:=trivial
    go_wp2_with fail
    refine (ve ofFn zef W9).mono ?_
    rintro e WZ ⟨rfl,hbz⟩
    have HZ:=hH (Bw.out.trans (hbz.mono Bw.out.size))
    clear hbz
    go_wp2_with fail
    go_ret
    exact⟨rfl,HZ.out⟩
  have hsw:=zaP (n:=n) HWN.out.zhn (Hc.out.2.2.1 rfl) (by rw[←HF.out.2.2.1];exact Hd.out.2.2.1) (by rw[←HF.out.2.2.1];exact Hd.out.2.2.2.1)
  obtain⟨rfl,rfl⟩:=hsw
  have HSAM:=hH (Q6 Hc.out.1 Hd.out.1 Bc.out Bd.out Hd.out.2.1 Hc.out.2.2.2.2 Hd.out.2.2.2.2)
  obtain⟨qc0,qc1,qc2,qc3⟩:=zH Ec.out
  obtain⟨qd0,qd1,qd2,qd3⟩:=zH Ed.out
  go_wp2_with fail
  refine HSAM.out.mono ?_
  rintro e W10 ⟨rfl,hb⟩
  clear qc0 qc1 qc2 qc3 qd0 qd1 qd2 qd3
  replace Bw:=hH (Bw.out.trans (hb.mono Bw.out.size))
  clear hb
  go_wp2_with fail
  refine (ve ofFn zef W10).mono ?_
  rintro e WZ ⟨rfl,hbz⟩
  have HZ:=hH (Bw.out.trans (hbz.mono Bw.out.size))
  clear hbz
  go_wp2_with fail
  go_ret
  exact⟨rfl,HZ.out⟩):p:=h
theorem sa9 {p:Prop}(h:p:=by
  simp only[Act.put,pg]
  refine wpAnyH_take (i:=17) (oi:=_) (v:= .bool false) rfl kr1 kr1 kr1 (fun _ _ _ h=>by cases h.1) (Or.inl ⟨by rfl,?_⟩) (by assumption) ?_
  · clear uH;intro X hSw;obtain⟨q0,q1,q2,q3⟩:=HSW.out X hSw;clear hSw;go_simp
  simp only[Act.put,pg]
  refine wpAnyH_take (i:=18) (oi:=_) (v:= .bool false) rfl kr1 kr1 kr1 (fun _ _ _ h=>by cases h.1) (Or.inl ⟨by rfl,?_⟩) (by assumption) ?_
  · clear uH;intro X hSw;obtain⟨q0,q1,q2,q3⟩:=HSW.out X hSw;clear hSw;go_simp
  simp only[Act.put,pg]
  refine wpAnyH_take (i:=19) (oi:=_) (v:=undef) rfl kr1 kr1 kr1 (fun _ _ _ h=>by cases h.1) (Or.inr ⟨by rfl,rfl⟩) (by assumption) ?_
  simp only[Act.put,pg]
  refine wpAnyH_take (i:=20) (oi:=_) (v:=undef) rfl kr1 kr1 kr1 (fun _ _ _ h=>by cases h.1) (Or.inr ⟨by rfl,rfl⟩) (by assumption) ?_
  simp only[Act.put,pg]
  refine wpAnyH_take (i:=21) (oi:=_) (v:=undef) rfl kr1 kr1 kr1 (fun _ _ _ h=>by cases h.1) (Or.inr ⟨by rfl,rfl⟩) (by assumption) ?_
  simp only[Act.put,pg]
  refine wpAnyH_take (i:=22) (oi:=_) (v:=undef) rfl kr1 kr1 kr1 (fun _ _ _ h=>by cases h.1) (Or.inr ⟨by rfl,rfl⟩) (by assumption) ?_
  simp only[Act.put,pg]
  refine wpAnyH_take (i:=23) (oi:=_) (v:=undef) rfl kr1 kr1 kr1 (fun _ _ _ h=>by cases h.1) (Or.inr ⟨by rfl,rfl⟩) (by assumption) ?_
  simp only[Act.put,pg]
  refine wpAnyH_take (i:=24) (oi:=_) (v:= .bool false) rfl kr1 kr1 kr1 (fun _ _ _ h=>by cases h.1) (Or.inl ⟨by rfl,?_⟩) (by assumption) ?_
  · clear uH;intro X hSw;obtain⟨q0,q1,q2,q3⟩:=HSW.out X hSw;clear hSw;go_simp
  simp only[Act.put,pg]
  refine wpAnyH_done kr1 ?_ _
  refine⟨rfl,?_⟩
  clear uH
  go_wp2_with fail
  exact⟨⟨k+1,by have:=HKN.out;omega,by go_num,hnx⟩,by have:=HKN.out;simp[intOf];omega⟩):p:=h
theorem sb0 {p:Prop}(h:p:=by
  rw[←hWW]
  clear hWW
  refine HC.out.1.mono ?_
  rintro e X ⟨rfl,k1,k2,k3,k4,k5⟩
  obtain⟨y,hy⟩:∃y,y=zP t p cT:=⟨_,rfl⟩
  rw[←hy] at k4 ⊢
  have HY:=Lib.hid hy
  obtain⟨_,d0,d1,d2,kb,kc,d3,hkc,hkk⟩:=k4
  simp only[Nat.zero_add] at d1 d2 d3
  have hr:X.heap[w.heap.size+2]? =some (.cells #[.int .i64 0,.int .i64 0,.string ⟨#[]⟩,.slice none 0 0] 27 (0,0)):=(k1.kept _ (by have:=HC.out.2.2.1;omega) om (fun h=>by have:=HQ.out.2.1 _ h;omega)).trans HC.out.2.2.2.2
  have hkk2:=jT hkk
  obtain⟨yn,hyn⟩:∃yn,yn=foLen y.kids:=⟨_,rfl⟩
  rw[←hyn] at d3
  obtain⟨z0,z1,z2,z3⟩:=zH hr
  have zf:∀j,X.frozen? ⟨w.heap.size+2,j,none⟩=false:=fun j=>forQ _ _ j _ _ hr
  obtain⟨V,hV,r1,r2,r3,r4,r5,r6⟩:=zu (u0:= .int .i64 y.id) (u1:= .int .i64 y.kind) (u2:= .string y.text) (u3:= .slice kb yn kc) hr
  have HV:=Lib.hid hV
  have hfin:JC w E SS y RR (.returned (.agg #[.int .i64 y.id,.int .i64 y.kind,.string y.text,.slice kb yn kc])) V:=by
   have hs:=HC.out.2.2.1
   have hXs:=k1.size
   refine⟨_,rfl,⟨kb,kc,by rw[hyn],hkc,hkk2.kept fun z hz=>⟨?_,r2 z ?_⟩⟩,r3.trans (k1.os.trans HC.out.2.1.os),r4.trans (k1.tape.trans HC.out.2.1.tape),r5.trans (k1.output.trans HC.out.2.1.output),by omega,fun z hz he=>?_,HQ.out.1 X V (fun z hz=>r2 z (by have:=HQ.out.2.1 z hz;omega)) k5⟩
   · have hzl:=hz.1.lt
     rcases hz.2 with h | h | h
     · exact Or.inl h
     · exact Or.inr ⟨by omega,by omega⟩
     · exact Or.inr ⟨by omega,by omega⟩
   · rcases hz.2 with h | h | h
     · have:=(HQ.out.2.2 z h).1;omega
     · omega
     · omega
   · rw[r2 z om,k1.kept z om om he]
     exact HC.out.2.1.block z hz
  have HF:=Lib.hid (aN hfin r1)
  clear hfin r1 r2 r3 r4 r5 r6 hV k1 k2 k3 k5 hkc hkk hkk2 hyn hy
  go_wp2_with fail
  rw[←HV.out]
  refine brQ (vF rfl _ _ (w.heap.size+2) 27 _ _ _ rfl HF.out.2 Try.underlying27 rfl kr1) rfl ?_
  rw[←HY.out]
  exact HF.out.1):p:=h
theorem sb1 {p:Prop}(h:p:=by
  refine rd [12] ?_
  refine AcQ (o:=_) rfl (fun K hK=>?_) (AnQ)
  refine yj rfl (.tmp 75) (.tmp 82) 71 71 rfl (.slice ga m gc) (.slice (some ⟨V.heap.size,0,none⟩) 1 1) (by simp[Act.eval,Act.put]) (by simp[Act.eval,Act.put]) HRUN.out (hK _ _ HSQ.out.2.2.1 (fun uH=>?_))
  clear hK
  refine wpAnyH_take (i:=13) (oi:=_) (v:= .pointer (some ⟨R,0,none⟩)) rfl kr1 kr1 kr1 (fun _ _ _ h=>by cases h.1) (Or.inl ⟨by rfl,?_⟩) (by assumption) ?_
  · clear uH;intro X hSw;clear hSw;go_simp
  simp only[Act.put,pg]
  refine wpAnyH_take (i:=14) (oi:=_) (v:= .pointer (some ⟨R,0,none⟩)) rfl kr1 kr1 kr1 (fun _ _ _ h=>by cases h.1) (Or.inl ⟨by rfl,?_⟩) (by assumption) ?_
  · clear uH;intro X hSw;clear hSw;go_simp
  simp only[Act.put,pg]
  refine rd [15] ?_
  refine AcQ (o:=_) rfl (fun K hK=>?_) (AnQ)
  rw[ipQ (by rfl)]
  simp only[pg3]
  have HK:=hH hK
  clear hK uH
  obtain⟨b7,f7⟩:=HB7.out
  go_wp2_with fail
  rw[←HV2.out]
  refine HK.out _ _ HSQ.out.2.2.2 (fun uH=>?_)
  clear HK b7 f7
  refine wpAnyH_done kr1 ?_ _
  refine⟨rfl,?_⟩
  clear uH
  obtain⟨d1,d7⟩:=HD7.out
  have hn0:(0:Int)≤(n:Int)+1:=by omega
  go_wp2_with fail
  case inl h=>
   have HQ:=HNX.out.1 (some ⟨H,o,none⟩) (V2.setCell ⟨R,1,none⟩ (.slice (some ⟨H,o,none⟩) n 0)) (fun h0=>by have:=HNX.out.2;omega) (by rw[h])
   go_roundg (n)
   case measure=>have h5:=HO.out.2.2.2.2;rw[LlcQ,←HO.out.2.1] at h5;omega
   case rel=>exact⟨_,_,_,_,_,_,HNX.out.2.1,HQ⟩
  case inr h=>
   have HQ:=HNX.out.1 (some ⟨H,o+1,none⟩) (V2.setCell ⟨R,1,none⟩ (.slice (some ⟨H,o+1,none⟩) n (rc - 1))) (fun _=>rfl) rfl
   go_roundg (n)
   case measure=>have h5:=HO.out.2.2.2.2;rw[LlcQ,←HO.out.2.1] at h5;omega
   case rel=>exact⟨_,_,_,_,_,_,HNX.out.2.1,HQ⟩):p:=h
theorem sb2 {p:Prop}(h:p:=by
  rw[←hxbe] at HD ⊢
  clear hxbe HCX HCALL
  by_cases he:er=0
  · have hr0:=H4.out.1 he
    subst he
    have hon:onN qN (ZL g) s.s x=some y:=zho (by rw[←HR.out.2.2.2.2.2.2.1];exact hr0)
    have hgo2:=ZP HR.out.1 HR.out.2.2.2.2.2.2.2.1 hon
    have hwy:=Yl HR.out.2.1 HR.out.2.2.2.2.2.2.2.2 hon
    have hL2:=HR.out.2.2.1.next HD.out
    have hxc:=(HD.out.below.block _ (lohQ HR.out.2.2.1.cell)).trans HR.out.2.2.1.cell
    have HN:=hH (aN hgo2 (aN hwy hL2))
    obtain⟨y0,y1,y2,y3⟩:=zH HD.out.cell
    obtain⟨x0,x1,x2,x3⟩:=zH hxc
    have gz:∀j,V5.frozen? ⟨w.heap.size+1,j,none⟩=false:=fun j=>forQ _ _ j _ _ hxc
    clear hr0 hon hgo2 hwy hL2 hxc
    go_wp2_with fail
    exact⟨⟨k+1,by have:=HR.out.2.2.2.2.2.1;omega,by go_num,hH ⟨y,ya,ym,yc,HN.out.1,HN.out.2.1,HN.out.2.2⟩⟩,by have:=HR.out.2.2.2.2.2.1;simp[intOf];omega⟩
  · have hen:(er == 0)=false:=by simpa using he
    have henn:(er != 0)=true:=by simpa using he
    have hst:=ZQ HR.out.1 HR.out.2.2.2.2.2.2.2.1 (ze0 (by rw[←HR.out.2.2.2.2.2.2.1];exact H4.out.2 he))
    have hbw5:=HR.out.2.2.2.1.trans (HD.out.below.mono HR.out.2.2.2.1.size)
    have hz:=(HD.out.below.block _ (lohQ HR.out.2.2.2.2.1)).trans HR.out.2.2.2.2.1
    have HEE:=hH (Z8 (ok:=(ZL g)) (t:=t) (l:=steps vs) (x:=zG) (va:=none) (vn:=0) (vc:=0) (b:=false) hbw5 hz om rfl (NlrQ _) True.intro (by decide) (fun h=>by cases h) (fun _=>hst))
    obtain⟨z0,z1,z2,z3⟩:=zH hz
    have gz:∀j,V5.frozen? ⟨w.heap.size+1+1,j,none⟩=false:=fun j=>forQ _ _ j _ _ hz
    have HZ:=hH (zX hz (.int .i64 0) (.int .i64 0) (.string ⟨#[]⟩) (.slice none 0 0))
    clear he hst hbw5 hz
    go_wp2_with fail
    exact brQ (yO rfl _ _ (w.heap.size+1+1) 27 _ _ _ (.bool false) rfl HZ.out.1 Try.underlying27 rfl kr1 rfl) rfl HEE.out):p:=h
theorem sb3 {p:Prop}(h:p:=by
  rw[←hxbe] at HD ⊢
  clear hxbe HCX HCALL
  by_cases he:er=0
  · have hr0:=H4.out.1 he
    subst he
    have hon:onN qN JK s.s x=some y:=zdy (by rw[←HR.out.2.2.2.2.2.2.1];exact hr0)
    have hgo2:=ZP HR.out.1 HR.out.2.2.2.2.2.2.2.1 hon
    have hwy:=Yl HR.out.2.1 HR.out.2.2.2.2.2.2.2.2 hon
    have hL2:=HR.out.2.2.1.next HD.out
    have hxc:=(HD.out.below.block _ (lohQ HR.out.2.2.1.cell)).trans HR.out.2.2.1.cell
    have HN:=hH (aN hgo2 (aN hwy hL2))
    obtain⟨y0,y1,y2,y3⟩:=zH HD.out.cell
    obtain⟨x0,x1,x2,x3⟩:=zH hxc
    have gz:∀j,V5.frozen? ⟨w.heap.size,j,none⟩=false:=fun j=>forQ _ _ j _ _ hxc
    clear hr0 hon hgo2 hwy hL2 hxc
    go_wp2_with fail
    exact⟨⟨k+1,by have:=HR.out.2.2.2.2.2.1;omega,by go_num,hH ⟨y,ya,ym,yc,HN.out.1,HN.out.2.1,HN.out.2.2⟩⟩,by have:=HR.out.2.2.2.2.2.1;simp[intOf];omega⟩
  · have hen:(er == 0)=false:=by simpa using he
    have henn:(er != 0)=true:=by simpa using he
    have hst:=ZQ HR.out.1 HR.out.2.2.2.2.2.2.2.1 (zbA (by rw[←HR.out.2.2.2.2.2.2.1];exact H4.out.2 he))
    have hbw5:=HR.out.2.2.2.1.trans (HD.out.below.mono HR.out.2.2.2.1.size)
    have hz:=(HD.out.below.block _ (lohQ HR.out.2.2.2.2.1)).trans HR.out.2.2.2.2.1
    have HEE:=hH (Z8 (ok:=JK) (t:=t) (l:=steps vs) (x:=zG) (va:=none) (vn:=0) (vc:=0) (b:=false) hbw5 hz om rfl (NlrQ _) True.intro (by decide) (fun h=>by cases h) (fun _=>hst))
    obtain⟨z0,z1,z2,z3⟩:=zH hz
    have gz:∀j,V5.frozen? ⟨w.heap.size+1,j,none⟩=false:=fun j=>forQ _ _ j _ _ hz
    have HZ:=hH (zX hz (.int .i64 0) (.int .i64 0) (.string ⟨#[]⟩) (.slice none 0 0))
    clear he hst hbw5 hz
    go_wp2_with fail
    exact brQ (yO rfl _ _ (w.heap.size+1) 27 _ _ _ (.bool false) rfl HZ.out.1 Try.underlying27 rfl kr1 rfl) rfl HEE.out):p:=h
theorem sb4 {p:Prop}(h:p:=by
  have e0:=(hX.block _ (lohQ ht0)).trans ht0
  have e1:=(hX.block _ (lohQ hs0)).trans hs0
  exact⟨zH e0,by rw[corQ _ _ 0 _ _ _ e1];rfl,by rw[corQ _ _ 1 _ _ _ e1];rfl,by rw[corQ _ _ 2 _ _ _ e1];rfl,by rw[corQ _ _ 3 _ _ _ e1];rfl,by rw[corQ _ _ 4 _ _ _ e1];rfl,by rw[corQ _ _ 5 _ _ _ e1];rfl,by rw[corQ _ _ 6 _ _ _ e1];rfl,by rw[corQ _ _ 7 _ _ _ e1];rfl,by rw[corQ _ _ 8 _ _ _ e1];rfl⟩):p:=h
theorem sb5 {p:Prop}(h:p:=by
  refine rd [8] ?_
  refine AcQ (o:=_) rfl (fun K hK=>?_) (AnQ)
  rw[ipQ (by rfl)]
  simp only[pg3]
  have HK:=Lib.hid hK
  clear hK uH
  go_wp2_with (go_at_call 108;refine HINS.out.mono ?_;rintro e Y2 ⟨v',rfl,hown,hgr⟩;have HO:=Lib.hid (aN hown hgr);clear hown hgr)
  refine HK.out _ _ (HS2.out Y2 HO.out.2) (fun uH=>?_)
  clear HK
  refine tG (i:=9) (.pointer (some ⟨b,off,none⟩)) rfl ?_
  simp only[Act.put,pg]
  refine tG (i:=10) (.pointer (some ⟨b,off+3,none⟩)) rfl ?_
  simp only[Act.put,pg]
  refine rd [11] ?_
  refine AcQ (o:=_) rfl (fun K hK=>?_) (AnQ)
  rw[ipQ (by rfl)]
  simp only[pg3]
  have HK:=Lib.hid hK
  clear hK uH
  obtain⟨va,vc,rfl⟩:=zt HO.out.1
  have g3:=HB3.out Y2 HO.out.2
  have gf:=HBF.out Y2 HO.out.2
  go_wp2_with fail
  refine HK.out _ _ (HS3.out Y2 _ HO.out.2) (fun uH=>?_)
  clear HK g3 gf
  refine rd [12] ?_
  refine AcQ (o:=_) rfl (fun K hK=>?_) (AnQ)
  rw[ipQ (by rfl)]
  simp only[pg3]
  have HK:=Lib.hid hK
  clear hK uH
  have hE2:=HE3.out Y2 (.slice va (m+1) vc) HO.out.2
  have e0:(Y2.setCell ⟨b,off+3,none⟩ (.slice va (m+1) vc)).cell? ⟨eb,0,none⟩=some (.int .i64 2):=by rw[corQ _ _ 0 _ _ _ hE2];rfl
  have ef:∀j,(Y2.setCell ⟨b,off+3,none⟩ (.slice va (m+1) vc)).frozen? ⟨eb,j,none⟩=false:=fun j=>forQ _ _ j _ _ hE2
  go_wp2_with fail
  refine HK.out _ _ (HS4.out Y2 _ HO.out.2) (fun uH=>?_)
  clear HK uH e0 ef hE2
  refine wpAnyH_done kr1 ?_ _
  go_wp2_with fail
  go_end0
  exact HENDX.out Y2 va vc HO.out.1 HO.out.2):p:=h
theorem sb6 {p:Prop}(h:p:=by
  go_wp2_with fail
  exact brQ (zq rfl _ _ (w.heap.size+1+1) 27 _ _ _ (.int .i64 2) rfl HZ.out.1 Try.underlying27 rfl kr1 rfl) rfl HEE.out):p:=h
theorem sb7 {p:Prop}(h:p:=by
  refine rd [10] ?_
  refine AcQ (o:=_) rfl (fun K hK=>?_) (AnQ)
  refine yj rfl (.tmp 9) (.tmp 14) 28 28 rfl (.slice ha.ta tn ha.tc) (.slice (some ⟨V.heap.size,0,none⟩) 1 1) (by simp[Act.eval,Act.put]) (by simp[Act.eval,Act.put]) HRUN.out (hK _ _ HSQ.out.2.2.1 (fun uH=>?_))
  clear hK
  refine wpAnyH_take (i:=11) (oi:=_) (v:= .pointer (some ⟨A,0,none⟩)) rfl kr1 kr1 kr1 (fun _ _ _ h=>by cases h.1) (Or.inl ⟨by rfl,?_⟩) (by assumption) ?_
  · clear uH;intro X hSw;clear hSw;go_simp
  simp only[Act.put,pg]
  refine wpAnyH_take (i:=12) (oi:=_) (v:= .pointer (some ⟨A,10,none⟩)) rfl kr1 kr1 kr1 (fun _ _ _ h=>by cases h.1) (Or.inl ⟨by rfl,?_⟩) (by assumption) ?_
  · clear uH;intro X hSw;clear hSw;go_simp
  simp only[Act.put,pg]
  refine rd [13] ?_
  refine AcQ (o:=_) rfl (fun K hK=>?_) (AnQ)
  rw[ipQ (by rfl)]
  simp only[pg3]
  have HK:=hH hK
  clear hK uH
  obtain⟨b7,f7⟩:=HB7.out
  go_wp2_with fail
  rw[←HW9.out]
  refine HK.out _ _ HSQ.out.2.2.2 (fun uH=>?_)
  clear HK b7 f7
  refine wpAnyH_done kr1 ?_ _
  refine⟨rfl,?_⟩
  clear uH
  go_wp2_with fail
  go_ret
  exact HE.out):p:=h
theorem sb8 {p:Prop}(h:p:=by
  obtain⟨f,hff⟩:=Deep.choose_lt each
  refine⟨(List.range len).map f,some ad,cap,by simp,fun h0=>?_,by simp only[List.length_map,List.length_range];unfold maxLen at hm;omega,fun s hs=>?_⟩
  · have h0' :0<len:=by simpa using h0
    obtain⟨b,off,spot⟩:=ad
    obtain⟨_,_,hz,_⟩:=hff 0 h0'
    have hsp:spot=none:=by simpa [Addr.add] using World.cell?_spot hz
    subst hsp
    have hlt:=World.block_lt_of_cell? w _ hz
    rw[add_block] at hlt
    refine⟨b,off,rfl,hlt,fun i u hu=>?_⟩
    rw[List.getElem?_map,Option.map_eq_some_iff] at hu
    obtain⟨j,hj,rfl⟩:=hu
    obtain⟨hlt',rfl⟩:=List.getElem?_eq_some_iff.1 hj
    simp only[List.length_range] at hlt'
    simp only[List.getElem_range]
    obtain⟨ka,kc,z0,z1,z2,hia,_⟩:=hff i hlt'
    simp only[Addr.add_mid,←Nat.add_assoc] at z0 z1 z2
    exact⟨ka,kc,z0,z1,z2,hia⟩
  · simp only[List.mem_map,List.mem_range] at hs
    obtain⟨i,hil,rfl⟩:=hs
    obtain⟨_,_,_,_,_,_,hft⟩:=hff i hil
    exact hft):p:=h
theorem sb9 {p:Prop}(h:p:=by
  go_wp2_with fail
  refine HCALL.out.mono ?_
  rintro e w4 ⟨ya,yc,rfl,hyc,hyf,hb4⟩
  clear s0 s1 s4 p0 p1 p2 p3 g0 g1 g2 g3
  obtain⟨yn,hyn⟩:∃yn,yn=foLen r.kids:=⟨_,rfl⟩
  rw[←hyn]
  have hz:=(hb4.block _ (lohQ H3.out.2.2.2)).trans H3.out.2.2.2
  have HEE:=hH (Jz (r:=stepG op id par at_ tx x t) H3.out.1 hz (show w.heap.size≤w.heap.size+1+1 by omega) (lohQ H3.out.2.2.2) hyn hyc hyf hb4 (er:=0) (fun _=>HR.out) (fun h=>absurd rfl h))
  obtain⟨z0,z1,z2,z3⟩:=zF hz
  have gz:∀j,w4.frozen? ⟨w.heap.size+1+1,j,none⟩=false:=fun j=>forQ _ _ j _ _ hz
  have HZ:=hH (zX hz (.int .i64 r.id) (.int .i64 r.kind) (.string r.text) (.slice ya yn yc))
  clear hz hyn hyc hyf hb4
  go_wp2_with fail
  exact brQ (zq rfl _ _ (w.heap.size+1+1) 27 _ _ _ (.int .i64 0) rfl HZ.out.1 Try.underlying27 rfl kr1 rfl) rfl HEE.out):p:=h
theorem sc0 {p:Prop}(h:p:=by
  have hr3:=(HB4.out.block _ (lohQ HB.out.2.2)).trans HB.out.2.2
  have hbz:Below w.heap.size w W4:=HB.out.1.trans (HB4.out.mono HB.out.1.size)
  obtain⟨z0,z1,z2,z3⟩:=zH hr3
  have zf:∀j,W4.frozen? ⟨w.heap.size+1+1,j,none⟩=false:=fun j=>forQ _ _ j _ _ hr3
  obtain⟨V,hV,r1,r2,r3,r4,r5,r6⟩:=zu (u0:= .int .i64 0) (u1:= .int .i64 0) (u2:= .string ⟨#[]⟩) (u3:= .slice none 0 0) hr3
  have HE:=hH (aN hbz (aN hV (aN r1 (aN r2 (aN r3 (aN r4 (aN r5 r6)))))))
  clear hbz hr3 hV r1 r2 r3 r4 r5 r6
  go_wp2_with fail
  rw[←HE.out.2.1]
  obtain⟨hbz,hV,r1,r2,r3,r4,r5,r6⟩:=HE.out
  exact yh (p:=4) (u:=5) rfl rfl (g:=w.heap.size+1+1) (y:=zG) ⟨r3.trans hbz.os,r4.trans hbz.tape,r5.trans hbz.output,by rw[r6];exact hbz.size,fun k hk=>(r2 k om).trans (hbz.block k hk)⟩ r1 rfl (NlrQ _) True.intro (by rw[yY,inQ (by decide)]) rfl rfl):p:=h
theorem sc1 {p:Prop}(h:p:=by
  rintro e WZ ⟨rfl,hbz⟩
  have HZ:=hH (Bw.out.trans (hbz.mono Bw.out.size))
  clear hbz
  go_wp2_with fail
  go_ret
  exact⟨rfl,HZ.out⟩):p:=h
theorem sc2 {p:Prop}(h:p:=by
  go_wp2_with fail
  exact brQ (zq rfl _ _ (w.heap.size+1+1) 27 _ _ _ (.int .i64 4) rfl HZ.out.1 Try.underlying27 rfl kr1 rfl) rfl HEE.out):p:=h
theorem sc3 {p:Prop}(h:p:=by
  refine rd [8] ?_
  refine AcQ (o:=_) rfl (fun K hK=>?_) (AnQ)
  refine yj rfl (.tmp 50) (.tmp 57) 134 134 rfl (.slice wa m wc') (.slice (some ⟨V1'.heap.size,0,none⟩) 1 1) (by simp[Act.eval,Act.put]) (by simp[Act.eval,Act.put]) HRUN.out (hK _ _ HSQ.out.2.2.1 (fun uH=>?_))
  clear hK
  refine rd [9] ?_
  refine AcQ (o:=_) rfl (fun K hK=>?_) (AnQ)
  rw[ipQ (by rfl)]
  simp only[pg3]
  have HK:=hH hK
  clear hK uH
  obtain⟨b7,f7⟩:=HB7.out
  go_wp2_with fail
  rw[←HW9.out]
  refine HK.out _ _ HSQ.out.2.2.2 (fun uH=>?_)
  clear HK b7 f7
  refine wpAnyH_done kr1 ?_ _
  exact HEND.out):p:=h
theorem sc4 {p:Prop}(h:p:=by
  simp only[Act.put,pg]
  refine jd kr1 ⟨rfl,?_⟩ _
  have HE:=hH (HFIN.out _ uH)
  clear uH HSx
  gi_wp2
  exact⟨_,results_tmp rfl _ _ _,by rw[HB.out];rfl,HE.out⟩):p:=h
theorem sc5 {p:Prop}(h:p:=by
  refine⟨[.int .i64 k.1,.int .i64 k.2.1,.string k.2.2,.slice ka (foLen l) kc]++ys,⟨ka,kc,ys,rfl,hcp,hkl,h1⟩,by rw[LlaQ,h2];simp[foLen];omega,fun j u hu=>?_,fun u hu=>?_⟩
  · match j,hu with
    | 0,hu=>simp at hu;subst hu;exact c0
    | 1,hu=>simp at hu;subst hu;exact c1
    | 2,hu=>simp at hu;subst hu;exact c2
    | 3,hu=>simp at hu;subst hu;exact c3
    | j +4,hu=>
      have:=h3 j u (by simpa using hu)
      rw[show off+(j+4)=off+4+j by omega];exact this
  · rcases List.mem_append.1 hu with hu | hu
    · simp only[List.mem_cons,List.not_mem_nil,or_false] at hu
      rcases hu with rfl | rfl | rfl | rfl<;>rfl
    · exact h4 u hu):p:=h
theorem sc6 {p:Prop}(h:p:=by
  rw[hW1,←hB]
  refine⟨?_,(BhaQ _ _ _ sp1).trans (World.alloc_heap_new w _)⟩
  have:=World.alloc_heap_new (w.alloc (.deferred (some []))) (.loop (rec .ready none))
  rwa [WsaQ] at this):p:=h
theorem sc7 {p:Prop}(h:p:=by
  have HCH:=Lib.hid (hC.call X X1 b off _ xs HA.out.1 hk1 hblt HA.out.2.1.bl)
  have HK1:=Lib.hid hk1
  have HX1:=Lib.hid hX1
  clear hb1 ho hk1 d3 hfz hX1 HCL
  rw[HX1.out] at hcb
  go_wp2_with fail
  rw[←HX1.out]
  refine HCH.out.mono ?_
  intro e X' hq
  have hd:=HA.out.2.1.done hS hSS HA.out.1 HK1.out hq
  have hr0:=hq.1
  subst hr0
  have hd2:JB W tb E SS X b (zP t (p++[]) cT) RR (.returned (.tuple #[])) X':=by rw[List.append_nil];exact hd
  have HD:=Lib.hid hd2
  clear hd2
  clear hq hd hcb
  go_wp2_with fail
  go_end0
  exact HD.out):p:=h
theorem sc8 {p:Prop}(h:p:=by
  obtain⟨z0,z1,z2,z3⟩:=zF hz
  have gz:∀j,w3.frozen? ⟨w.heap.size+1+1,j,none⟩=false:=fun j=>forQ _ _ j _ _ hz
  have HZ:=hH (zX hz (.int .i64 y.id) (.int .i64 y.kind) (.string y.text) (.slice va yn vc))
  clear hz hyn hyc hyf hb3 he1 he2
  go_wp2_with fail
  exact brQ (zq rfl _ _ (w.heap.size+1+1) 27 _ _ _ (.int .i64 er) rfl HZ.out.1 Try.underlying27 rfl kr1 rfl) rfl HEE.out):p:=h
theorem sc9 {p:Prop}(h:p:=by
  go_wp2_with fail
  rw[←HE.out.2.1]
  obtain⟨hbz,hV,r1,r2,r3,r4,r5,r6,hok,hkc,hyn⟩:=HE.out
  exact step_end (p:=4) (u:=5) rfl rfl (g:=w.heap.size+1+1) (y:=y) (m:=yn) (kb:=kb) (kc:=kc) ⟨r3.trans hbz.os,r4.trans hbz.tape,r5.trans hbz.output,by rw[r6];exact hbz.size,fun k hk=>(r2 k om).trans (hbz.block k hk)⟩ om ⟨_,_,r1,rfl⟩ hyn (by rw[←hyn];exact hkc) hok (by rw[HG.out.1]) rfl (by rw[HG.out.1];rfl)):p:=h
theorem sd0 {p:Prop}(h:p:=by
  go_enter Try.func11,Try.ntmps11
  go_wp2_with fail
  go_ret
  exact Yr.mk HS.out (Zc _ _ _)):p:=h
theorem sd1 {p:Prop}(h:p:=by
  clear hK K
  simp only[Act.put,pgD,pgE,pgF]
  with_reducible refine wpQuiet_step ?_
  intro K hK
  rw[ipQ (by rfl)]
  refine⟨.bool false,fun X hX=>?_,hK _ ?_⟩
  · clear hK;go_simp
  clear hK K
  simp only[Act.put,pgD,pgE,pgF]
  refine wpQuiet_nil (HQQ.out _ ?_)
  clear HQQ
  intro V hV
  have HV:=hH hV
  clear hV
  go_wp2_with fail
  go_ret
  exact⟨congrArg (fun z:Nat=>Ending.returned (.int .i64 (z:Int))) HE.out.1.symm,HE.out.2.trans (HV.out.mono HE.out.2.size)⟩):p:=h
theorem sd2 {p:Prop}(h:p:=by
  have g1:=hssQ V R1 0 _ _ u0 h2
  have g2:=hssQ _ R1 1 _ _ u1 g1
  have g3:=hssQ _ R1 2 _ _ u2 g2
  have g4:=hssQ _ R1 3 _ _ u3 g3
  refine⟨_,rfl,by simpa using g4,fun y hy=>?_,rfl,rfl,rfl,by simp[World.setCell]⟩
  rw[BhsQ _ _ _ _ hy,BhsQ _ _ _ _ hy,BhsQ _ _ _ _ hy,BhsQ _ _ _ _ hy]):p:=h
theorem sd3 {p:Prop}(h:p:=by
  rw[Option.map_eq_some_iff] at h
  obtain⟨i,hi,he⟩:=h
  simp only[Prod.mk.injEq,Option.map_eq_some_iff] at he
  obtain⟨h1,h2,z,hz,h3⟩:=he
  exact⟨i,z,hi,hz,h1,h2,h3⟩):p:=h
theorem sd4 {p:Prop}(h:p:=by
  obtain⟨hi,hb,hT⟩:=hj
  have:=run_endLoop (P:=Try.prog) hb.1 (by rw[hrec];simp)
  rw[hrec] at this
  refine⟨none,_,this,hdone B T _ (NlrQ _) (hI hi ((yQ _ hb.1).mono (fun x hx=>Or.inr ⟨by omega,by rw[hx];exact⟨_,hb.1,rfl⟩⟩)) (fun x hx=>Or.inl hx)) ((WphQ om).trans hb.2)⟩):p:=h
theorem sd5 {p:Prop}(h:p:=by
  go_wp2_with (go_at_call 28;((with_reducible refine (yG _ _ _ (grV (HK.out.below (zg _ _))) HF.out).mono ?_);rintro e w2 ⟨rfl,h2⟩;rw[qW HBB.out];have H2:=hH ((zg w _).trans (h2.mono (zg w _).size));have p0:=yz h2 0 _ rfl;clear h2))
  go_ret
  exact Says.mk (by rw[Jf h2];rfl) H2.out):p:=h
theorem sd6 {p:Prop}(h:p:=by
  go_wp2_with (go_at_call 28;((with_reducible refine (yG _ _ _ (grV (HK.out.below (zg _ _))) HF.out).mono ?_);rintro e w2 ⟨rfl,h2⟩;rw[qW HBB.out];have H2:=hH ((zg w _).trans (h2.mono (zg w _).size));have p0:=yz h2 0 _ rfl;clear h2))
  go_ret
  exact Says.mk HV.out H2.out):p:=h
theorem sd7 {p:Prop}(h:p:=by
  go_wp2_with (go_at_call 28;((with_reducible refine (yG _ _ _ (grV (HK.out.below (zg _ _))) HF.out).mono ?_);rintro e w2 ⟨rfl,h2⟩;rw[vU HBB.out];have H2:=hH ((zg w _).trans (h2.mono (zg w _).size));clear h2))
  go_ret
  exact Says.mk (by rw[zas HBB.out];rfl) H2.out):p:=h
theorem sd8 {p:Prop}(h:p:=by
  have h1:=HI.out.2.2.2.2.2.2.2.1 ad he j u hj
  refine (World.cell?_of_block (hV1s _ fun e=>?_)).trans h1
  have h2:V.heap[(ad.add j).block]? =some o:=by rw[e];exact ho
  have h3:V.cell? (ad.add j)=none:=by
   unfold World.cell?
   rw[h2]
   cases o<;>simp_all [Obj.isCells]
  rw[h3] at h1;cases h1):p:=h
theorem sd9 {p:Prop}(h:p:=by
  go_wp2_with (go_at_call 28;((with_reducible refine (yG _ _ _ (grV (HK.out.below (zg _ _))) HF.out).mono ?_);rintro e w2 ⟨rfl,h2⟩;rw[qW HBB.out];have H2:=hH ((zg w _).trans (h2.mono (zg w _).size));clear h2))
  go_ret
  exact Says.mk (by rw[zat h1];rfl) H2.out):p:=h
theorem se0 {p:Prop}(h:p:=by
  rcases ho.2 with ⟨hv,h0⟩ | ⟨g,cap2,cur,hv,_⟩
  · omega
  · cases hv;exact⟨g,rfl⟩):p:=h
theorem se1 {p:Prop}(h:p:=by
  rcases hown.2 with ⟨rfl,rfl⟩ | ⟨g,cap,cur,rfl,_,_,hnc,_⟩
  · simp[Builtin.append_,run_underlying ht,sizeOf,typeInfo,hi,Builtin.lenOf,Builtin.firstCells]
  · simp[Builtin.append_,run_underlying ht,sizeOf,typeInfo,hi,Builtin.lenOf,Builtin.firstCells,hnc,storeCells]):p:=h
theorem se2 {p:Prop}(h:p:=by
  go_wp2_with (go_at_call 28;refine (HCK.out _ HS.out).mono ?_;rintro e w2 ⟨rfl,hb⟩;have HS2:=hH (HSB.out _ w2 HS.out hb);obtain⟨p0,p1,p2,p3,p4,p5⟩:=HSx w2 HS2.out;clear hb)
  go_ret2
  exact⟨by rw[HB.out];rfl,HFIN.out _ HS2.out⟩):p:=h
theorem se3 {p:Prop}(h:p:=by
  simp only[Act.put,pg]
  refine wpAnyH_done kr1 ?_ _
  clear uH
  go_wp2_with fail
  exact brQ (zq rfl _ _ (w.heap.size+1+1) 27 _ _ _ (.int .i64 0) rfl HZ.out.1 Try.underlying27 rfl kr1 rfl) rfl HEND.out):p:=h
theorem se4 {p:Prop}(h:p:=by
  refine⟨⟨hx.1,by simp[World.setCell];have:=hx.2.1;omega,fun e=>?_⟩,keep x hx.2.1 hx.2.2 (by have:=hx.1;omega)⟩
  simp only[Value.ownBlock,Option.some.injEq] at e
  rcases hat with hat | hat
  · exact hx.2.2 (by rw[hat,e])
  · have:=hx.2.1;omega):p:=h
theorem se5 {p:Prop}(h:p:=by
  exact⟨zH e0,by rw[corQ _ _ 2 _ _ _ e1];rfl,by rw[corQ _ _ 3 _ _ _ e1];rfl,by rw[corQ _ _ 5 _ _ _ e1];rfl,by rw[corQ _ _ 6 _ _ _ e1];rfl,by rw[corQ _ _ 7 _ _ _ e1];rfl,by rw[corQ _ _ 8 _ _ _ e1];rfl⟩):p:=h
theorem se6 {p:Prop}(h:p:=by
  go_wp2_with fail
  go_quiet (fail)
  go_wp2_with fail
  go_ret
  exact Says.mk (by rw[rising,HX.out];simp;omega) (below_drewN HB.out _)):p:=h
theorem se7 {p:Prop}(h:p:=by
  have:=hanQ (w2.alloc (.cells #[.int .i64 ki,.int .i64 kk,.string kt,.slice ka2 m1 cap2] 27)) (.cells #[.int .i64 ki,.int .i64 kk,.string kt,.slice ka2 m1 cap2] 27)
  simpa using this):p:=h
theorem se8 {p:Prop}(h:p:=by
  obtain⟨ra,rc,rfl,hend⟩:=zal HA.out.1 HA.out.2.1 HA.out.2.2.1 HA.out.2.2.2.1 HA.out.2.2.2.2.1 HA.out.2.2.2.2.2 HB.out.1.size hg (HB.out.1.trans (HG.out.2.mono HB.out.1.size))
  have HEND:=hH hend
  clear hend
  go_ret
  exact HEND.out):p:=h
theorem se9 {p:Prop}(h:p:=by
  refine brQ (yO h tmps W g 27 _ _ _ (.int .i64 r.2) h1 hz Try.underlying27 rfl kr1 h2) rfl ?_
  exact⟨_,rfl,by rw[hy];exact⟨kb,kc,by rw[hm],hc,hf⟩,hb⟩):p:=h
theorem sf0 {p:Prop}(h:p:=by
  refine HI.out.1.turn (by have:=HW.out.1;omega) (V':=V1) (by rw[ev];exact (yQ o' ho).mono (fun x hx=>Or.inr ⟨by have:=HI.out.2.2.2.2.2.2.2.2.2.1;omega,by rw[hx];exact⟨o,ho,hoc⟩⟩)) (fun x hx=>Or.inl hx)):p:=h
theorem sf1 {p:Prop}(h:p:=by
  rcases HR.out.2.1.2 with h | h
  · have:=HG.out.2.2.1 _ (h.symm.trans e.symm);omega
  · have:=h _ e.symm;omega):p:=h
theorem sf2 {p:Prop}(h:p:=by
  have hp' :tmps[p]?.getD undef= .pointer (some ⟨g,0,none⟩):=by simpa using hp
  have hp2' :tmps[u]?.getD undef=x:=by simpa using hp2
  simp[results,h,hp',hp2',asAddr,run_loadVar_row w g t ty cs fr d hg hu hd hi]):p:=h
theorem sf3 {p:Prop}(h:p:=by
  go_ret
  exact qB.mk (vU (jR HX.out (Qa HSX.out (HNO.out om)))) (HB3.out.trans (H2.out.mono HB3.out.size))):p:=h
theorem sf4 {p:Prop}(h:p:=by
  have k:=HZ.out.2.1 _ (NlrQ _)
  have h:=HX2.out.2.1
  exact⟨k.os.trans h.os,k.tape.trans h.tape,k.output.trans h.output,NltQ h.size k.size,fun q h1 h2=>(HZ.out.2.2 q h2).trans (h.block q h1 h2)⟩):p:=h
theorem sf5 {p:Prop}(h:p:=by
  rw[hgrow.block _ (by simp;omega) (fun e=>by have:=hob _ e.symm;omega)];exact heap_alloc2_old w _ _):p:=h
theorem sf6 {p:Prop}(h:p:=by
  constructor
  · rintro (h | ⟨m,h1,h2⟩)
    · exact Or.inl h
    · exact Or.inr ⟨m,by omega,h2⟩
  · rintro (h | ⟨m,h1,h2,h3⟩)
    · exact Or.inl h
    · exact Or.inr ⟨m,by omega,h2,h3⟩):p:=h
theorem sf7 {p:Prop}(h:p:=by
  go_wp2_with fail
  go_ret
  exact qB.mk (vU (jR HX.out (ZW om))) (HB.out.2.alloc HB.out.2.size _)):p:=h
theorem sf8 {p:Prop}(h:p:=by
  intro j
  induction j with
  | zero=>intro f;rw[qG];exact NlrQ _
  | succ j ih=>intro f;cases f with
    | nil=>exact NlrQ _
    | node b o a l r=>have:=ih r;simp only[zm,za];omega):p:=h
theorem sf9 {p:Prop}(h:p:=by
  go_wp2_with fail
  exact brQ (zq rfl _ _ (w.heap.size+1+1) 27 _ _ _ (.int .i64 90) rfl HZ.out.1 Try.underlying27 rfl kr1 rfl) rfl HEE.out):p:=h
theorem sg0 {p:Prop}(h:p:=by
  rw[BhsQ _ _ _ _ (show w.heap.size+1≠b from fun e=>hbX.2 (Or.inr (Or.inl e.symm))),hb1.block _ (by rw[HX.out.2.2.1];exact hzl),HX.out.2.2.2.1 _ hne]
  exact hz):p:=h
theorem sg1 {p:Prop}(h:p:=by
  rw[hSX] at h
  obtain⟨a0,a1⟩:=zjZ ((h.block _ om).trans kx)
  obtain⟨b0,b1,b2,b3⟩:=ziM ((h.block _ om).trans ky)
  exact⟨a0,a1,b0,b1,b2,b3⟩):p:=h
theorem sg2 {p:Prop}(h:p:=by
  obtain⟨hq1,hq2,hq3,hq4⟩:=HEQ.out
  subst hq1 hq2 hq3 hq4
  go_roundg gk'
  case measure=>have h1:=HT.out.2.2.2.1;rw[yF,zL,qI] at h1;omega
  case rel=>exact hH hinv):p:=h
theorem sg3 {p:Prop}(h:p:=by
  have hz:=(HZ.out.2.1 _ (NlrQ _)).size
  exact HX2.out.2.2.2.1.kept fun q hq=>⟨⟨by have:=hq.1;omega,nL hq.2 hz⟩,HZ.out.2.2 q (by have:=hq.1;omega)⟩):p:=h
theorem sg4 {p:Prop}(h:p:=by
  go_enter Try.func107,Try.ntmps107
  go_wp2_with (go_quiet (fail))
  go_end0
  exact HEND.out _ (below_drewN (BrQ _ X1) _)):p:=h
theorem sg5 {p:Prop}(h:p:=by
  go_enter Try.func28,Try.ntmps28
  go_wp2_with fail
  go_ret
  exact qB.mk (HN.out om) (zg _ _)):p:=h
theorem sg6 {p:Prop}(h:p:=by
  have a0:=hat 0 om
  have a1:=hat 1 om
  have a2:=hat 2 om
  rw[Deep.add_add] at a0 a1 a2
  exact⟨s,ka,kc,a0,a1,a2,hia,hfi⟩):p:=h
theorem sg7 {p:Prop}(h:p:=by
  cases e with
  | returned u=>exact⟨keep a hy u,by rw[←Act.put_comm a v u h2];exact he⟩
  | panicked c=>exact hQ _ _ _ he
  | outgrown=>exact he):p:=h
theorem sg8 {p:Prop}(h:p:=by
  have hs:=lohQ j2.1
  exact⟨hI j1 (ht.mono (fun x hx=>Or.inl hx)) hw,j2.touched ht j3,fun x hx=>(hw x hx).elim (j3 x) (fun h=>by omega)⟩):p:=h
theorem sg9 {p:Prop}(h:p:=by
  go_wp2_with fail
  go_ret2
  exact⟨by rw[HB.out];rfl,HFIN.out _ HS3.out⟩):p:=h
theorem sh0 {p:Prop}(h:p:=by
  have HF:=hH hfr
  have HBW:=hH hh.out.1.2.1
  clear hfr hi hcell hgl hh hk hlt
  go_wp2_with fail
  go_ret
  exact⟨by rw[HF.out];rfl,HBW.out⟩):p:=h
theorem sh1 {p:Prop}(h:p:=by
  clear hR2 hFI hown
  go_wp2_with fail
  go_roundg g
  case measure=>omega
  case rel=>exact⟨k2+1,f2,by omega,by go_num,HR2.out,HD.out⟩):p:=h
theorem ua0 {p:Prop}(h:p:=by clear uH;intro X hSw;obtain⟨s0,s1,s2,s3⟩:=HSx X hSw;clear hSw;go_simp):p:=h
theorem ua1 {p:Prop}(h:p:=by rw[hW1,hrec,←hB];exact run_enterLoop_outer _ _ _ _ _):p:=h
theorem ua2 {p:Prop}(h:p:=by intro f' hf';simp[Target.leads] at hf';subst hf';exact trivial):p:=h
theorem ua3 {p:Prop}(h:p:=by clear hK;go_simp<;>(rw[Int.min_def];split<;>split<;>omega)):p:=h
theorem ua4 {p:Prop}(h:p:=by clear uH;intro X hSw;obtain⟨⟨⟨n0,n1,n2,n3⟩,m0,m1,m2,m3,m4,m5,m6,m7,m8⟩,oc⟩:=HC4.out X hSw;clear hSw;go_simp):p:=h
theorem ua5 {p:Prop}(h:p:=by clear uH;intro X hSw;obtain⟨⟨n0,n1,n2,n3⟩,m2,m3,m5,m6,m7,m8⟩:=HC6.out X hSw;clear hSw;go_simp):p:=h
theorem ua6 {p:Prop}(h:p:=by clear uH;intro X hSw;obtain⟨⟨s0,s1,s2,s3⟩,s4⟩:=HSW.out X hSw;clear hSw;go_simp):p:=h
theorem ua7 {p:Prop}(h:p:=by clear uH;intro X hSw;obtain⟨⟨s0,s1,s2,s3⟩,s4,s5⟩:=HSW.out X hSw;clear hSw;go_simp):p:=h
theorem ua8 {p:Prop}(h:p:=by clear uH;intro X hSw;obtain⟨⟨s0,s1,s2,s3⟩,⟨u0,u1,u2,u3⟩⟩:=HS2.out X hSw;clear hSw;go_simp):p:=h
theorem ua9 {p:Prop}(h:p:=by clear uH;intro X hSw;obtain⟨⟨b0,b1,b2,b3⟩,a0,a1,a2,a3,a4,a5,a6,a7,a8⟩:=HCX.out X hSw;clear hSw;go_simp):p:=h
theorem ub0 {p:Prop}(h:p:=by clear uH;intro X hSw;obtain⟨⟨g0,g1⟩,⟨b0,b1,b2,b3⟩,a0,a1,a2,a3,a4,a5,a6,a7,a8⟩:=HCX.out X hSw;clear hSw;go_simp):p:=h
theorem ub1 {p:Prop}(h:p:=by clear uH;intro X hSw;obtain⟨q1,q2⟩:=HSW.out X hSw;have q3:=HJN.out;clear hSw;go_simp):p:=h
theorem ub2 {p:Prop}(h:p:=by clear uH;intro X hSw;obtain⟨q1,q2⟩:=HSW.out X hSw;clear hSw;go_simp):p:=h
theorem ub3 {p:Prop}(h:p:=by clear uH;intro X hSw;obtain⟨q0,q1⟩:=HSW.out X hSw;clear hSw;go_simp):p:=h
theorem ub4 {p:Prop}(h:p:=by exact⟨_,by rw[h2,h3],fun h=>by rw[h3] at h;cases h⟩):p:=h
theorem ub5 {p:Prop}(h:p:=by clear uH;intro X hSw;obtain⟨q0,q1,q2,q3,q4⟩:=HSW.out X hSw;clear hSw;go_simp):p:=h
theorem ub6 {p:Prop}(h:p:=by clear uH;intro X hSw;obtain⟨q0,q1,q2,q3⟩:=HSW.out X hSw;clear hSw;go_simp):p:=h
theorem ub7 {p:Prop}(h:p:=by clear uH;intro X hSw;obtain⟨⟨p0,p1,p2,p3⟩,q0⟩:=HCX.out X hSw;clear hSw;go_simp):p:=h
theorem ub8 {p:Prop}(h:p:=by clear uH;intro X hSw;obtain⟨⟨a2,a3,a5,a6,a7,a8⟩,⟨b0,b1,b2,b3⟩,d2,d3⟩:=HCX.out X hSw;clear hSw;go_simp):p:=h
theorem ub9 {p:Prop}(h:p:=by clear uH;intro X hSw;obtain⟨⟨a2,a3⟩,⟨b0,b1,b2,b3⟩,⟨c0,c1,c2,c3⟩,d2,d3⟩:=HCX.out X hSw;clear hSw;go_simp):p:=h
theorem uc0 {p:Prop}(h:p:=by clear uH;intro X hSw;obtain⟨d0,d1,d2,d3,d4,d5⟩:=HCX.out X hSw;clear hSw;go_simp):p:=h
theorem uc1 {p:Prop}(h:p:=by clear uH;intro X hSw;obtain⟨s0,s1,s2,s3,s4,s5⟩:=HSx X hSw;clear hSw;go_simp):p:=h
theorem uc2 {p:Prop}(h:p:=by rcases List.mem_append.1 hs with hs | hs;exact List.mem_append_left _ hs;exact List.mem_append_right _ (List.mem_cons_of_mem _ hs)):p:=h
theorem uc3 {p:Prop}(h:p:=by rw[List.getElem?_append_right sp1];simpa using hu):p:=h
theorem uc4 {p:Prop}(h:p:=by rw[hW3];exact (BrQ _ _).alloc hb2.size _):p:=h
theorem uc5 {p:Prop}(h:p:=by simp only[Nat.min_def];split<;>omega):p:=h
theorem uc6 {p:Prop}(h:p:=by have:=q1.exl _ (Or.inl rfl);omega):p:=h
theorem uc7 {p:Prop}(h:p:=by have:=HROW.out.2.2.1;simp;omega):p:=h
theorem uc8 {p:Prop}(h:p:=by have:=HN.out.1;simp only;omega):p:=h
theorem uc9 {p:Prop}(h:p:=by rw[←HLEN.out.1];exact hlt):p:=h
theorem ud0 {p:Prop}(h:p:=by have:=HZ.out.2.2.1;omega):p:=h
theorem ud1 {p:Prop}(h:p:=by exact Bool.false_ne_true):p:=h
theorem ud2 {p:Prop}(h:p:=by rw[hrec];exact hps.symm):p:=h
theorem ud3 {p:Prop}(h:p:=by rw[←HLEN.out];exact hlt):p:=h
theorem ud4 {p:Prop}(h:p:=by simp[foLen] at hi;omega):p:=h
theorem ud5 {p:Prop}(h:p:=by rw[←HH.out.1];exact hlt):p:=h
theorem ud6 {p:Prop}(h:p:=by simp[foLen] at h;omega):p:=h
theorem ud7 {p:Prop}(h:p:=by simp[Act.eval,Act.put]):p:=h
theorem ud8 {p:Prop}(h:p:=by simp only[WsaQ];omega):p:=h
theorem ud9 {p:Prop}(h:p:=by simpa [zB,zm] using h):p:=h
theorem ue0 {p:Prop}(h:p:=by simp[Value.oneCell']):p:=h
theorem ue1 {p:Prop}(h:p:=by unfold maxLen;omega):p:=h
theorem ue2 {p:Prop}(h:p:=by simp only;omega):p:=h
theorem ue3 {p:Prop}(h:p:=by simpa using h):p:=h
theorem ue4 {p:Prop}(h:p:=by rw[hrec];simp):p:=h
theorem ue5 {p:Prop}(h:p:=by simp[foLen]):p:=h
theorem ue6 {p:Prop}(h:p:=by simp;omega):p:=h
theorem ue7 {p:Prop}(h:p:=by assumption):p:=h
theorem ue8 {p:Prop}(h:p:=by simp[h]):p:=h
theorem ue9 {p:Prop}(h:p:=by decide):p:=h
theorem uf0 {p:Prop}(h:p:=by rfl):p:=h
end Go.Proofs.Ytnikgofkldkdkaa
