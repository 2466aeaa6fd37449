/-
  .
-/
import Derived.Test.YtgkmmnihaiopaaaGreatRParPQv
import Derived.Test.YtgkmmnihaiopaaaGreatKApplyXQv
set_option maxRecDepth 100000
set_option maxHeartbeats 40000000
set_option linter.unusedVariables false
set_option linter.unusedSimpArgs false
namespace Go.Proofs.YtgkmmnihaiopaaaGreat
open Go.RowKit Go.Shelf
def zhj (w:World)(S:Nat→Prop)(v:Value)(s:Sf):Prop:=∃ka kc,v= .agg #[.int .i8 s.op,.int .i64 s.id,.int .i64 s.par,.int .i64 s.at_,.string s.tx,.int .i64 s.sub.id,.int .i64 s.sub.kind,.string s.sub.text,.slice ka (foLen s.sub.kids) kc]∧foLen s.sub.kids≤kc∧zt w S s.sub.kids ka
def qQ (w:World)(S:Nat→Prop)(s:Sf)(e:Ending)(w' :World):Prop:=∃v,e= .returned v∧zhj w' (fun y=>(S y∨w.heap.size≤y)∧y<w'.heap.size) v s∧Below w.heap.size w w'
theorem one_set {V:World}{R1 i:Nat}{cs:Array Value}{T:TypeId}{u:Value}(h2:V.heap[R1]? =some (.cells cs T (0,0))):
 ∃V5,V5=V.setCell ⟨R1,i,none⟩ u∧V5.heap[R1]? =some (.cells (cs.setIfInBounds i u) T (0,0))∧(∀y,y≠R1→V5.heap[y]? =V.heap[y]?)∧V5.os=V.os∧V5.tape=V.tape∧V5.output=V.output∧V5.heap.size=V.heap.size:=
 ⟨_,rfl,hssQ V R1 i _ _ u h2,fun y hy=>BhsQ _ _ _ _ hy,rfl,rfl,rfl,by simp[World.setCell]⟩
theorem qD {V:World}{R1:Nat}{c0 c1 c2 c3 c4 c5 c6 c7 c8 u0 u1 u2 u3 u4 u5 u6 u7 u8:Value}(h2:V.heap[R1]? =some (.cells #[c0,c1,c2,c3,c4,c5,c6,c7,c8] 44 (0,0))):
 ∃V5,V5=(((((((((V.setCell ⟨R1,0,none⟩ u0).setCell ⟨R1,1,none⟩ u1).setCell ⟨R1,2,none⟩ u2).setCell ⟨R1,3,none⟩ u3).setCell ⟨R1,4,none⟩ u4).setCell ⟨R1,5,none⟩ u5).setCell ⟨R1,6,none⟩ u6).setCell ⟨R1,7,none⟩ u7).setCell ⟨R1,8,none⟩ u8)∧V5.heap[R1]? =some (.cells #[u0,u1,u2,u3,u4,u5,u6,u7,u8] 44 (0,0))∧(∀y,y≠R1→V5.heap[y]? =V.heap[y]?)∧V5.os=V.os∧V5.tape=V.tape∧V5.output=V.output∧V5.heap.size=V.heap.size:=by
 obtain⟨V1,e1,g1,o1,a1,t1,p1,s1⟩:=one_set (i:=0) (u:=u0) h2
 obtain⟨V2,e2,g2,o2,a2,t2,p2,s2⟩:=one_set (i:=1) (u:=u1) g1
 obtain⟨V3,e3,g3,o3,a3,t3,p3,s3⟩:=one_set (i:=2) (u:=u2) g2
 obtain⟨V4,e4,g4,o4,a4,t4,p4,s4⟩:=one_set (i:=3) (u:=u3) g3
 obtain⟨V5,e5,g5,o5,a5,t5,p5,s5⟩:=one_set (i:=4) (u:=u4) g4
 obtain⟨V6,e6,g6,o6,a6,t6,p6,s6⟩:=one_set (i:=5) (u:=u5) g5
 obtain⟨V7,e7,g7,o7,a7,t7,p7,s7⟩:=one_set (i:=6) (u:=u6) g6
 obtain⟨V8,e8,g8,o8,a8,t8,p8,s8⟩:=one_set (i:=7) (u:=u7) g7
 obtain⟨V9,e9,g9,o9,a9,t9,p9,s9⟩:=one_set (i:=8) (u:=u8) g8
 refine⟨V9,by rw[e9,e8,e7,e6,e5,e4,e3,e2,e1],by simpa using g9,fun y hy=>by rw[o9 y hy,o8 y hy,o7 y hy,o6 y hy,o5 y hy,o4 y hy,o3 y hy,o2 y hy,o1 y hy],by rw[a9,a8,a7,a6,a5,a4,a3,a2,a1],by rw[t9,t8,t7,t6,t5,t4,t3,t2,t1],by rw[p9,p8,p7,p6,p5,p4,p3,p2,p1],by rw[s9,s8,s7,s6,s5,s4,s3,s2,s1]⟩
theorem yL {w:World}{b:Nat}{c0 c1 c2 c3 c4 c5 c6 c7 c8:Value}{T:TypeId}(h:w.heap[b]? =some (.cells #[c0,c1,c2,c3,c4,c5,c6,c7,c8] T (0,0))):w.cell? ⟨b,0,none⟩=some c0∧w.cell? ⟨b,1,none⟩=some c1∧w.cell? ⟨b,2,none⟩=some c2∧w.cell? ⟨b,3,none⟩=some c3∧w.cell? ⟨b,4,none⟩=some c4∧w.cell? ⟨b,5,none⟩=some c5∧w.cell? ⟨b,6,none⟩=some c6∧w.cell? ⟨b,7,none⟩=some c7∧w.cell? ⟨b,8,none⟩=some c8:=
 ⟨by rw[corQ _ _ 0 _ _ _ h];rfl,by rw[corQ _ _ 1 _ _ _ h];rfl,by rw[corQ _ _ 2 _ _ _ h];rfl,by rw[corQ _ _ 3 _ _ _ h];rfl,by rw[corQ _ _ 4 _ _ _ h];rfl,by rw[corQ _ _ 5 _ _ _ h];rfl,by rw[corQ _ _ 6 _ _ _ h];rfl,by rw[corQ _ _ 7 _ _ _ h];rfl,by rw[corQ _ _ 8 _ _ _ h];rfl⟩
theorem zd4 (w:World)(S:Nat→Prop)(nv:Value)(t:Tr)(op id par at_ s1 s2:Int)(tx s3:ByteArray)(sa:Option Addr)(sn sc:Nat)(hS:∀y,S y→y<w.heap.size)(ht:zG w S nv t)(hsz:zb t.kids≤300000):
 Calls Tryz.prog 85 #[nv,.agg #[.int .i8 op,.int .i64 id,.int .i64 par,.int .i64 at_,.string tx,.int .i64 s1,.int .i64 s2,.string s3,.slice sa sn sc]] w (qQ w S ⟨2,s1,0,0,⟨#[]⟩,zu⟩):=by
 obtain⟨ka,tc,rfl,hcap,hk⟩:=ht
 obtain⟨nk,hnk⟩:∃nk,nk=foLen t.kids:=⟨_,rfl⟩
 rw[←hnk]
 obtain⟨B,hB⟩:∃B,B=zl w [.cells #[.int .i64 t.id,.int .i64 t.kind,.string t.text,.slice ka nk tc] 27,.cells #[.int .i8 op,.int .i64 id,.int .i64 par,.int .i64 at_,.string tx,.int .i64 s1,.int .i64 s2,.string s3,.slice sa sn sc] 44,.cells #[.int .i8 0,.int .i64 0,.int .i64 0,.int .i64 0,.string ⟨#[]⟩,.int .i64 0,.int .i64 0,.string ⟨#[]⟩,.slice none 0 0] 44]:=⟨_,rfl⟩
 have hb:Below w.heap.size w B:=by rw[hB];exact zi _ _
 have hs:B.heap.size=w.heap.size+3:=by rw[hB];exact zw _ _
 have ht0:B.heap[w.heap.size]? =some (.cells #[.int .i64 t.id,.int .i64 t.kind,.string t.text,.slice ka nk tc] 27 (0,0)):=by rw[hB];exact ze _ _ 0 _ rfl
 have hs0:B.heap[w.heap.size+1]? =some (.cells #[.int .i8 op,.int .i64 id,.int .i64 par,.int .i64 at_,.string tx,.int .i64 s1,.int .i64 s2,.string s3,.slice sa sn sc] 44 (0,0)):=by rw[hB];exact ze _ _ 1 _ rfl
 have hr0:B.heap[w.heap.size+1+1]? =some (.cells #[.int .i8 0,.int .i64 0,.int .i64 0,.int .i64 0,.string ⟨#[]⟩,.int .i64 0,.int .i64 0,.string ⟨#[]⟩,.slice none 0 0] 44 (0,0)):=by rw[hB];exact ze _ _ 2 _ rfl
 obtain⟨V9,hV9,v1,v2,v3,v4,v5,v6⟩:=qD (u0:= .int .i8 2) (u1:= .int .i64 s1) (u2:= .int .i64 0) (u3:= .int .i64 0) (u4:= .string ⟨#[]⟩) (u5:= .int .i64 0) (u6:= .int .i64 0) (u7:= .string ⟨#[]⟩) (u8:= .slice none 0 0) hr0
 obtain⟨m0,m1,m2,m3,m4,m5,m6,m7,m8⟩:=yL hs0
 obtain⟨z0,z1,z2,z3,z4,z5,z6,z7,z8⟩:=yL hr0
 have zf:∀j,B.frozen? ⟨w.heap.size+1+1,j,none⟩=false:=fun j=>forQ _ _ j _ _ hr0
 have HEND:Hid (qQ w S ⟨2,s1,0,0,⟨#[]⟩,zu⟩ (.returned (.agg #[.int .i8 2,.int .i64 s1,.int .i64 0,.int .i64 0,.string ⟨#[]⟩,.int .i64 0,.int .i64 0,.string ⟨#[]⟩,.slice none 0 0])) V9):=hH ⟨_,rfl,⟨none,0,rfl,NlrQ _,True.intro⟩,⟨v3.trans hb.os,v4.trans hb.tape,v5.trans hb.output,by rw[v6];exact hb.size,fun y hy=>(v2 y om).trans (hb.block y hy)⟩⟩
 have HV9:=hH (aN hV9 v1)
 have HBE:=hH hB
 clear hb hs ht0 hs0 hr0 hB hnk hcap hk hS hsz hV9 v1 v2 v3 v4 v5 v6
 go_enter Tryz.func85,Tryz.ntmps85
 go_upto_region 1 with fail
 change Code.wp _ _ _ _ (zl w [.cells #[.int .i64 t.id,.int .i64 t.kind,.string t.text,.slice ka nk tc] 27,.cells #[.int .i8 op,.int .i64 id,.int .i64 par,.int .i64 at_,.string tx,.int .i64 s1,.int .i64 s2,.string s3,.slice sa sn sc] 44,.cells #[.int .i8 0,.int .i64 0,.int .i64 0,.int .i64 0,.string ⟨#[]⟩,.int .i64 0,.int .i64 0,.string ⟨#[]⟩,.slice none 0 0] 44])
 rw[←HBE.out]
 clear HBE
 go_wp2_with fail
 rw[←HV9.out.1]
 refine brQ (yJ rfl _ _ (w.heap.size+1+1) 44 _ (0,0) _ rfl HV9.out.2 Tryz.underlying44 rfl kr1) rfl ?_
 exact HEND.out
theorem zdM (w:World)(S:Nat→Prop)(nv:Value)(t:Tr)(op id par at_ s1 s2:Int)(tx s3:ByteArray)(sa:Option Addr)(sn sc:Nat)(hS:∀y,S y→y<w.heap.size)(ht:zG w S nv t)(hsz:zb t.kids≤300000):
 Calls Tryz.prog 86 #[nv,.agg #[.int .i8 op,.int .i64 id,.int .i64 par,.int .i64 at_,.string tx,.int .i64 s1,.int .i64 s2,.string s3,.slice sa sn sc]] w (qQ w S ⟨1,0,(yl id t).2.1,(yl id t).2.2,⟨#[]⟩,(yl id t).1⟩):=by
 obtain⟨ka,tc,rfl,hcap,hk⟩:=ht
 obtain⟨nk,hnk⟩:∃nk,nk=foLen t.kids:=⟨_,rfl⟩
 rw[←hnk]
 obtain⟨B,hB⟩:∃B,B=zl w [.cells #[.int .i64 t.id,.int .i64 t.kind,.string t.text,.slice ka nk tc] 27,.cells #[.int .i8 op,.int .i64 id,.int .i64 par,.int .i64 at_,.string tx,.int .i64 s1,.int .i64 s2,.string s3,.slice sa sn sc] 44,.cells #[.int .i8 0,.int .i64 0,.int .i64 0,.int .i64 0,.string ⟨#[]⟩,.int .i64 0,.int .i64 0,.string ⟨#[]⟩,.slice none 0 0] 44]:=⟨_,rfl⟩
 have hb:Below w.heap.size w B:=by rw[hB];exact zi _ _
 have hs:B.heap.size=w.heap.size+3:=by rw[hB];exact zw _ _
 have ht0:B.heap[w.heap.size]? =some (.cells #[.int .i64 t.id,.int .i64 t.kind,.string t.text,.slice ka nk tc] 27 (0,0)):=by rw[hB];exact ze _ _ 0 _ rfl
 have hs0:B.heap[w.heap.size+1]? =some (.cells #[.int .i8 op,.int .i64 id,.int .i64 par,.int .i64 at_,.string tx,.int .i64 s1,.int .i64 s2,.string s3,.slice sa sn sc] 44 (0,0)):=by rw[hB];exact ze _ _ 1 _ rfl
 have hr0:B.heap[w.heap.size+1+1]? =some (.cells #[.int .i8 0,.int .i64 0,.int .i64 0,.int .i64 0,.string ⟨#[]⟩,.int .i64 0,.int .i64 0,.string ⟨#[]⟩,.slice none 0 0] 44 (0,0)):=by rw[hB];exact ze _ _ 2 _ rfl
 have hcall:=Y9 B S (.agg #[.int .i64 t.id,.int .i64 t.kind,.string t.text,.slice ka nk tc]) t id (fun y hy=>nL (hS y hy) hb.size) ⟨ka,tc,by rw[hnk],hcap,hk.below hb hS⟩ hsz
 obtain⟨r,hr⟩:∃r,r=yl id t:=⟨_,rfl⟩
 rw[←hr] at hcall ⊢
 obtain⟨u,pr,pl⟩:=r
 simp only at hcall ⊢
 obtain⟨b0,b1,b2,b3⟩:=zD ht0
 obtain⟨m0,m1,m2,m3,m4,m5,m6,m7,m8⟩:=yL hs0
 have HC:=hH hcall
 have HB:=hH (aN hb (aN hs (aN hs0 (aN hr0 hS))))
 have HBE:=hH hB
 clear hcall hb hs ht0 hs0 hr0 hB hnk hcap hk hS hsz hr
 go_enter Tryz.func86,Tryz.ntmps86
 go_upto_region 1 with fail
 change Code.wp _ _ _ _ (zl w [.cells #[.int .i64 t.id,.int .i64 t.kind,.string t.text,.slice ka nk tc] 27,.cells #[.int .i8 op,.int .i64 id,.int .i64 par,.int .i64 at_,.string tx,.int .i64 s1,.int .i64 s2,.string s3,.slice sa sn sc] 44,.cells #[.int .i8 0,.int .i64 0,.int .i64 0,.int .i64 0,.string ⟨#[]⟩,.int .i64 0,.int .i64 0,.string ⟨#[]⟩,.slice none 0 0] 44])
 rw[←HBE.out]
 clear HBE
 go_wp2_with fail
 refine HC.out.mono ?_
 rintro e W ⟨v,rfl,⟨va,vc,rfl,hvc,hvf⟩,hbW⟩
 obtain⟨un,hun⟩:∃un,un=foLen u.kids:=⟨_,rfl⟩
 simp only at hvc hvf ⊢
 rw[←hun] at hvc ⊢
 obtain⟨hb,hs,hs0,hr0,hS⟩:=HB.out
 have hWz:=hbW.size
 obtain⟨V,hV⟩:∃V,V=W.alloc (.cells #[.int .i64 u.id,.int .i64 u.kind,.string u.text,.slice va un vc] 27):=⟨_,rfl⟩
 have r1:V.heap[W.heap.size]? =some (.cells #[.int .i64 u.id,.int .i64 u.kind,.string u.text,.slice va un vc] 27 (0,0)):=by rw[hV];exact hanQ W _
 have hVs:V.heap.size=W.heap.size+1:=by rw[hV];simp
 have hold:∀y,y<W.heap.size→V.heap[y]? =W.heap[y]?:=fun y hy=>by rw[hV];exact BhaQ _ _ _ hy
 have r3:V.os=W.os:=by rw[hV];rfl
 have r4:V.tape=W.tape:=by rw[hV];rfl
 have r5:V.output=W.output:=by rw[hV];rfl
 have hs1:=(hold _ om).trans ((hbW.block _ (lohQ hs0)).trans hs0)
 have hr1:=(hold _ om).trans ((hbW.block _ (lohQ hr0)).trans hr0)
 obtain⟨V9,hV9,v1,v2,v3,v4,v5,v6⟩:=qD (u0:= .int .i8 1) (u1:= .int .i64 0) (u2:= .int .i64 pr) (u3:= .int .i64 pl) (u4:= .string ⟨#[]⟩) (u5:= .int .i64 u.id) (u6:= .int .i64 u.kind) (u7:= .string u.text) (u8:= .slice va un vc) hr1
 have hbV9:Below w.heap.size w V9:=⟨(v3.trans r3).trans (hbW.os.trans hb.os),(v4.trans r4).trans (hbW.tape.trans hb.tape),(v5.trans r5).trans (hbW.output.trans hb.output),by rw[v6,hVs];omega,fun y hy=>(v2 y om).trans ((hold y om).trans ((hbW.block y om).trans (hb.block y hy)))⟩
 have HEND:Hid (qQ w S ⟨1,0,pr,pl,⟨#[]⟩,u⟩ (.returned (.agg #[.int .i8 1,.int .i64 0,.int .i64 pr,.int .i64 pl,.string ⟨#[]⟩,.int .i64 u.id,.int .i64 u.kind,.string u.text,.slice va un vc])) V9):=hH ⟨_,rfl,⟨va,vc,by rw[hun],by rw[←hun];exact hvc,hvf.kept fun y hy=>⟨⟨Or.inl hy,show y<V9.heap.size by rw[v6,hVs];have:=hS y hy;omega⟩,(v2 y (by have:=hS y hy;omega)).trans (hold y (by have:=hS y hy;omega))⟩⟩,hbV9⟩
 exact sb5
theorem zcx (w:World)(S:Nat→Prop)(nv:Value)(t:Tr)(op id par at_ s1 s2:Int)(tx s3:ByteArray)(sa:Option Addr)(sn sc:Nat)(hS:∀y,S y→y<w.heap.size)(ht:zG w S nv t)(hsz:zb t.kids≤300000):
 Calls Tryz.prog 87 #[nv,.agg #[.int .i8 op,.int .i64 id,.int .i64 par,.int .i64 at_,.string tx,.int .i64 s1,.int .i64 s2,.string s3,.slice sa sn sc]] w (qQ w S ⟨3,id,(yl id t).2.1,(yl id t).2.2,⟨#[]⟩,zu⟩):=by
 obtain⟨ka,tc,rfl,hcap,hk⟩:=ht
 obtain⟨nk,hnk⟩:∃nk,nk=foLen t.kids:=⟨_,rfl⟩
 rw[←hnk]
 obtain⟨B,hB⟩:∃B,B=zl w [.cells #[.int .i64 t.id,.int .i64 t.kind,.string t.text,.slice ka nk tc] 27,.cells #[.int .i8 op,.int .i64 id,.int .i64 par,.int .i64 at_,.string tx,.int .i64 s1,.int .i64 s2,.string s3,.slice sa sn sc] 44,.cells #[.int .i8 0,.int .i64 0,.int .i64 0,.int .i64 0,.string ⟨#[]⟩,.int .i64 0,.int .i64 0,.string ⟨#[]⟩,.slice none 0 0] 44]:=⟨_,rfl⟩
 have hb:Below w.heap.size w B:=by rw[hB];exact zi _ _
 have hs:B.heap.size=w.heap.size+3:=by rw[hB];exact zw _ _
 have ht0:B.heap[w.heap.size]? =some (.cells #[.int .i64 t.id,.int .i64 t.kind,.string t.text,.slice ka nk tc] 27 (0,0)):=by rw[hB];exact ze _ _ 0 _ rfl
 have hs0:B.heap[w.heap.size+1]? =some (.cells #[.int .i8 op,.int .i64 id,.int .i64 par,.int .i64 at_,.string tx,.int .i64 s1,.int .i64 s2,.string s3,.slice sa sn sc] 44 (0,0)):=by rw[hB];exact ze _ _ 1 _ rfl
 have hr0:B.heap[w.heap.size+1+1]? =some (.cells #[.int .i8 0,.int .i64 0,.int .i64 0,.int .i64 0,.string ⟨#[]⟩,.int .i64 0,.int .i64 0,.string ⟨#[]⟩,.slice none 0 0] 44 (0,0)):=by rw[hB];exact ze _ _ 2 _ rfl
 have hcall:=Y9 B S (.agg #[.int .i64 t.id,.int .i64 t.kind,.string t.text,.slice ka nk tc]) t id (fun y hy=>nL (hS y hy) hb.size) ⟨ka,tc,by rw[hnk],hcap,hk.below hb hS⟩ hsz
 obtain⟨r,hr⟩:∃r,r=yl id t:=⟨_,rfl⟩
 rw[←hr] at hcall ⊢
 obtain⟨u,pr,pl⟩:=r
 simp only at hcall ⊢
 obtain⟨b0,b1,b2,b3⟩:=zD ht0
 obtain⟨m0,m1,m2,m3,m4,m5,m6,m7,m8⟩:=yL hs0
 have HC:=hH hcall
 have HB:=hH (aN hb (aN hs (aN hs0 (aN hr0 hS))))
 have HBE:=hH hB
 clear hcall hb hs ht0 hs0 hr0 hB hnk hcap hk hS hsz hr
 go_enter Tryz.func87,Tryz.ntmps87
 go_upto_region 1 with fail
 change Code.wp _ _ _ _ (zl w [.cells #[.int .i64 t.id,.int .i64 t.kind,.string t.text,.slice ka nk tc] 27,.cells #[.int .i8 op,.int .i64 id,.int .i64 par,.int .i64 at_,.string tx,.int .i64 s1,.int .i64 s2,.string s3,.slice sa sn sc] 44,.cells #[.int .i8 0,.int .i64 0,.int .i64 0,.int .i64 0,.string ⟨#[]⟩,.int .i64 0,.int .i64 0,.string ⟨#[]⟩,.slice none 0 0] 44])
 rw[←HBE.out]
 clear HBE
 go_wp2_with fail
 refine HC.out.mono ?_
 rintro e W ⟨v,rfl,⟨va,vc,rfl,hvc,hvf⟩,hbW⟩
 obtain⟨un,hun⟩:∃un,un=foLen u.kids:=⟨_,rfl⟩
 simp only at hvc hvf ⊢
 rw[←hun] at hvc ⊢
 obtain⟨hb,hs,hs0,hr0,hS⟩:=HB.out
 have hWz:=hbW.size
 obtain⟨V,hV⟩:∃V,V=W.alloc (.cells #[.int .i64 u.id,.int .i64 u.kind,.string u.text,.slice va un vc] 27):=⟨_,rfl⟩
 have r1:V.heap[W.heap.size]? =some (.cells #[.int .i64 u.id,.int .i64 u.kind,.string u.text,.slice va un vc] 27 (0,0)):=by rw[hV];exact hanQ W _
 have hVs:V.heap.size=W.heap.size+1:=by rw[hV];simp
 have hold:∀y,y<W.heap.size→V.heap[y]? =W.heap[y]?:=fun y hy=>by rw[hV];exact BhaQ _ _ _ hy
 have r3:V.os=W.os:=by rw[hV];rfl
 have r4:V.tape=W.tape:=by rw[hV];rfl
 have r5:V.output=W.output:=by rw[hV];rfl
 have hs1:=(hold _ om).trans ((hbW.block _ (lohQ hs0)).trans hs0)
 have hr1:=(hold _ om).trans ((hbW.block _ (lohQ hr0)).trans hr0)
 obtain⟨V9,hV9,v1,v2,v3,v4,v5,v6⟩:=qD (u0:= .int .i8 3) (u1:= .int .i64 id) (u2:= .int .i64 pr) (u3:= .int .i64 pl) (u4:= .string ⟨#[]⟩) (u5:= .int .i64 0) (u6:= .int .i64 0) (u7:= .string ⟨#[]⟩) (u8:= .slice none 0 0) hr1
 have hbV9:Below w.heap.size w V9:=⟨(v3.trans r3).trans (hbW.os.trans hb.os),(v4.trans r4).trans (hbW.tape.trans hb.tape),(v5.trans r5).trans (hbW.output.trans hb.output),by rw[v6,hVs];omega,fun y hy=>(v2 y om).trans ((hold y om).trans ((hbW.block y om).trans (hb.block y hy)))⟩
 have HEND:Hid (qQ w S ⟨3,id,pr,pl,⟨#[]⟩,zu⟩ (.returned (.agg #[.int .i8 3,.int .i64 id,.int .i64 pr,.int .i64 pl,.string ⟨#[]⟩,.int .i64 0,.int .i64 0,.string ⟨#[]⟩,.slice none 0 0])) V9):=hH ⟨_,rfl,⟨none,0,rfl,NlrQ _,True.intro⟩,hbV9⟩
 exact sb5
theorem zbq (w:World)(S:Nat→Prop)(nv:Value)(t:Tr)(op id par at_ s1 s2:Int)(tx s3:ByteArray)(sa:Option Addr)(sn sc:Nat)(hS:∀y,S y→y<w.heap.size)(ht:zG w S nv t)(hsz:zb t.kids≤300000):
 Calls Tryz.prog 88 #[nv,.agg #[.int .i8 op,.int .i64 id,.int .i64 par,.int .i64 at_,.string tx,.int .i64 s1,.int .i64 s2,.string s3,.slice sa sn sc]] w (qQ w S ⟨4,id,0,0,(yl id t).1.text,zu⟩):=by
 obtain⟨ka,tc,rfl,hcap,hk⟩:=ht
 obtain⟨nk,hnk⟩:∃nk,nk=foLen t.kids:=⟨_,rfl⟩
 rw[←hnk]
 obtain⟨B,hB⟩:∃B,B=zl w [.cells #[.int .i64 t.id,.int .i64 t.kind,.string t.text,.slice ka nk tc] 27,.cells #[.int .i8 op,.int .i64 id,.int .i64 par,.int .i64 at_,.string tx,.int .i64 s1,.int .i64 s2,.string s3,.slice sa sn sc] 44,.cells #[.int .i8 0,.int .i64 0,.int .i64 0,.int .i64 0,.string ⟨#[]⟩,.int .i64 0,.int .i64 0,.string ⟨#[]⟩,.slice none 0 0] 44]:=⟨_,rfl⟩
 have hb:Below w.heap.size w B:=by rw[hB];exact zi _ _
 have hs:B.heap.size=w.heap.size+3:=by rw[hB];exact zw _ _
 have ht0:B.heap[w.heap.size]? =some (.cells #[.int .i64 t.id,.int .i64 t.kind,.string t.text,.slice ka nk tc] 27 (0,0)):=by rw[hB];exact ze _ _ 0 _ rfl
 have hs0:B.heap[w.heap.size+1]? =some (.cells #[.int .i8 op,.int .i64 id,.int .i64 par,.int .i64 at_,.string tx,.int .i64 s1,.int .i64 s2,.string s3,.slice sa sn sc] 44 (0,0)):=by rw[hB];exact ze _ _ 1 _ rfl
 have hr0:B.heap[w.heap.size+1+1]? =some (.cells #[.int .i8 0,.int .i64 0,.int .i64 0,.int .i64 0,.string ⟨#[]⟩,.int .i64 0,.int .i64 0,.string ⟨#[]⟩,.slice none 0 0] 44 (0,0)):=by rw[hB];exact ze _ _ 2 _ rfl
 have hcall:=Y9 B S (.agg #[.int .i64 t.id,.int .i64 t.kind,.string t.text,.slice ka nk tc]) t id (fun y hy=>nL (hS y hy) hb.size) ⟨ka,tc,by rw[hnk],hcap,hk.below hb hS⟩ hsz
 obtain⟨r,hr⟩:∃r,r=yl id t:=⟨_,rfl⟩
 rw[←hr] at hcall ⊢
 obtain⟨u,pr,pl⟩:=r
 simp only at hcall ⊢
 obtain⟨b0,b1,b2,b3⟩:=zD ht0
 obtain⟨m0,m1,m2,m3,m4,m5,m6,m7,m8⟩:=yL hs0
 have HC:=hH hcall
 have HB:=hH (aN hb (aN hs (aN hs0 (aN hr0 hS))))
 have HBE:=hH hB
 clear hcall hb hs ht0 hs0 hr0 hB hnk hcap hk hS hsz hr
 go_enter Tryz.func88,Tryz.ntmps88
 go_upto_region 1 with fail
 change Code.wp _ _ _ _ (zl w [.cells #[.int .i64 t.id,.int .i64 t.kind,.string t.text,.slice ka nk tc] 27,.cells #[.int .i8 op,.int .i64 id,.int .i64 par,.int .i64 at_,.string tx,.int .i64 s1,.int .i64 s2,.string s3,.slice sa sn sc] 44,.cells #[.int .i8 0,.int .i64 0,.int .i64 0,.int .i64 0,.string ⟨#[]⟩,.int .i64 0,.int .i64 0,.string ⟨#[]⟩,.slice none 0 0] 44])
 rw[←HBE.out]
 clear HBE
 go_wp2_with fail
 refine HC.out.mono ?_
 rintro e W ⟨v,rfl,⟨va,vc,rfl,hvc,hvf⟩,hbW⟩
 obtain⟨un,hun⟩:∃un,un=foLen u.kids:=⟨_,rfl⟩
 simp only at hvc hvf ⊢
 rw[←hun] at hvc ⊢
 obtain⟨hb,hs,hs0,hr0,hS⟩:=HB.out
 have hWz:=hbW.size
 obtain⟨V,hV⟩:∃V,V=W.alloc (.cells #[.int .i64 u.id,.int .i64 u.kind,.string u.text,.slice va un vc] 27):=⟨_,rfl⟩
 have r1:V.heap[W.heap.size]? =some (.cells #[.int .i64 u.id,.int .i64 u.kind,.string u.text,.slice va un vc] 27 (0,0)):=by rw[hV];exact hanQ W _
 have hVs:V.heap.size=W.heap.size+1:=by rw[hV];simp
 have hold:∀y,y<W.heap.size→V.heap[y]? =W.heap[y]?:=fun y hy=>by rw[hV];exact BhaQ _ _ _ hy
 have r3:V.os=W.os:=by rw[hV];rfl
 have r4:V.tape=W.tape:=by rw[hV];rfl
 have r5:V.output=W.output:=by rw[hV];rfl
 have hs1:=(hold _ om).trans ((hbW.block _ (lohQ hs0)).trans hs0)
 have hr1:=(hold _ om).trans ((hbW.block _ (lohQ hr0)).trans hr0)
 obtain⟨V9,hV9,v1,v2,v3,v4,v5,v6⟩:=qD (u0:= .int .i8 4) (u1:= .int .i64 id) (u2:= .int .i64 0) (u3:= .int .i64 0) (u4:= .string u.text) (u5:= .int .i64 0) (u6:= .int .i64 0) (u7:= .string ⟨#[]⟩) (u8:= .slice none 0 0) hr1
 have hbV9:Below w.heap.size w V9:=⟨(v3.trans r3).trans (hbW.os.trans hb.os),(v4.trans r4).trans (hbW.tape.trans hb.tape),(v5.trans r5).trans (hbW.output.trans hb.output),by rw[v6,hVs];omega,fun y hy=>(v2 y om).trans ((hold y om).trans ((hbW.block y om).trans (hb.block y hy)))⟩
 have HEND:Hid (qQ w S ⟨4,id,0,0,u.text,zu⟩ (.returned (.agg #[.int .i8 4,.int .i64 id,.int .i64 0,.int .i64 0,.string u.text,.int .i64 0,.int .i64 0,.string ⟨#[]⟩,.slice none 0 0])) V9):=hH ⟨_,rfl,⟨none,0,rfl,NlrQ _,True.intro⟩,hbV9⟩
 exact sb5
theorem zj3 (w:World)(S:Nat→Prop)(id par at_ s1 s2:Int)(tx s3:ByteArray)(sa:Option Addr)(sn sc:Nat):
 Calls Tryz.prog 69 #[.agg #[.int .i8 2,.int .i64 id,.int .i64 par,.int .i64 at_,.string tx,.int .i64 s1,.int .i64 s2,.string s3,.slice sa sn sc]] w (qQ w S ⟨2,id,0,0,⟨#[]⟩,zu⟩):=by
 obtain⟨B,hB⟩:∃B,B=zl w [.cells #[.int .i8 2,.int .i64 id,.int .i64 par,.int .i64 at_,.string tx,.int .i64 s1,.int .i64 s2,.string s3,.slice sa sn sc] 44,.cells #[.int .i8 0,.int .i64 0,.int .i64 0,.int .i64 0,.string ⟨#[]⟩,.int .i64 0,.int .i64 0,.string ⟨#[]⟩,.slice none 0 0] 44]:=⟨_,rfl⟩
 have hb:Below w.heap.size w B:=by rw[hB];exact zi _ _
 have hs0:B.heap[w.heap.size]? =some (.cells #[.int .i8 2,.int .i64 id,.int .i64 par,.int .i64 at_,.string tx,.int .i64 s1,.int .i64 s2,.string s3,.slice sa sn sc] 44 (0,0)):=by rw[hB];exact ze _ _ 0 _ rfl
 have hr0:B.heap[w.heap.size+1]? =some (.cells #[.int .i8 0,.int .i64 0,.int .i64 0,.int .i64 0,.string ⟨#[]⟩,.int .i64 0,.int .i64 0,.string ⟨#[]⟩,.slice none 0 0] 44 (0,0)):=by rw[hB];exact ze _ _ 1 _ rfl
 obtain⟨V9,hV9,v1,v2,v3,v4,v5,v6⟩:=qD (u0:= .int .i8 2) (u1:= .int .i64 id) (u2:= .int .i64 0) (u3:= .int .i64 0) (u4:= .string ⟨#[]⟩) (u5:= .int .i64 0) (u6:= .int .i64 0) (u7:= .string ⟨#[]⟩) (u8:= .slice none 0 0) hr0
 obtain⟨m0,m1,m2,m3,m4,m5,m6,m7,m8⟩:=yL hs0
 obtain⟨z0,z1,z2,z3,z4,z5,z6,z7,z8⟩:=yL hr0
 have zf:∀j,B.frozen? ⟨w.heap.size+1,j,none⟩=false:=fun j=>forQ _ _ j _ _ hr0
 have HEND:Hid (qQ w S ⟨2,id,0,0,⟨#[]⟩,zu⟩ (.returned (.agg #[.int .i8 2,.int .i64 id,.int .i64 0,.int .i64 0,.string ⟨#[]⟩,.int .i64 0,.int .i64 0,.string ⟨#[]⟩,.slice none 0 0])) V9):=hH ⟨_,rfl,⟨none,0,rfl,NlrQ _,True.intro⟩,⟨v3.trans hb.os,v4.trans hb.tape,v5.trans hb.output,by rw[v6];exact hb.size,fun y hy=>(v2 y om).trans (hb.block y hy)⟩⟩
 have HV9:=hH (aN hV9 v1)
 have HBE:=hH hB
 clear hb hs0 hr0 hB hV9 v1 v2 v3 v4 v5 v6
 go_enter Tryz.func69,Tryz.ntmps69
 go_upto_region 1 with fail
 change Code.wp _ _ _ _ (zl w [.cells #[.int .i8 2,.int .i64 id,.int .i64 par,.int .i64 at_,.string tx,.int .i64 s1,.int .i64 s2,.string s3,.slice sa sn sc] 44,.cells #[.int .i8 0,.int .i64 0,.int .i64 0,.int .i64 0,.string ⟨#[]⟩,.int .i64 0,.int .i64 0,.string ⟨#[]⟩,.slice none 0 0] 44])
 exact sd3
theorem zj4 (w:World)(S:Nat→Prop)(id par at_ s1 s2:Int)(tx s3:ByteArray)(sa:Option Addr)(sn sc:Nat):
 Calls Tryz.prog 69 #[.agg #[.int .i8 3,.int .i64 id,.int .i64 par,.int .i64 at_,.string tx,.int .i64 s1,.int .i64 s2,.string s3,.slice sa sn sc]] w (qQ w S ⟨3,id,par,at_,⟨#[]⟩,zu⟩):=by
 obtain⟨B,hB⟩:∃B,B=zl w [.cells #[.int .i8 3,.int .i64 id,.int .i64 par,.int .i64 at_,.string tx,.int .i64 s1,.int .i64 s2,.string s3,.slice sa sn sc] 44,.cells #[.int .i8 0,.int .i64 0,.int .i64 0,.int .i64 0,.string ⟨#[]⟩,.int .i64 0,.int .i64 0,.string ⟨#[]⟩,.slice none 0 0] 44]:=⟨_,rfl⟩
 have hb:Below w.heap.size w B:=by rw[hB];exact zi _ _
 have hs0:B.heap[w.heap.size]? =some (.cells #[.int .i8 3,.int .i64 id,.int .i64 par,.int .i64 at_,.string tx,.int .i64 s1,.int .i64 s2,.string s3,.slice sa sn sc] 44 (0,0)):=by rw[hB];exact ze _ _ 0 _ rfl
 have hr0:B.heap[w.heap.size+1]? =some (.cells #[.int .i8 0,.int .i64 0,.int .i64 0,.int .i64 0,.string ⟨#[]⟩,.int .i64 0,.int .i64 0,.string ⟨#[]⟩,.slice none 0 0] 44 (0,0)):=by rw[hB];exact ze _ _ 1 _ rfl
 obtain⟨V9,hV9,v1,v2,v3,v4,v5,v6⟩:=qD (u0:= .int .i8 3) (u1:= .int .i64 id) (u2:= .int .i64 par) (u3:= .int .i64 at_) (u4:= .string ⟨#[]⟩) (u5:= .int .i64 0) (u6:= .int .i64 0) (u7:= .string ⟨#[]⟩) (u8:= .slice none 0 0) hr0
 obtain⟨m0,m1,m2,m3,m4,m5,m6,m7,m8⟩:=yL hs0
 obtain⟨z0,z1,z2,z3,z4,z5,z6,z7,z8⟩:=yL hr0
 have zf:∀j,B.frozen? ⟨w.heap.size+1,j,none⟩=false:=fun j=>forQ _ _ j _ _ hr0
 have HEND:Hid (qQ w S ⟨3,id,par,at_,⟨#[]⟩,zu⟩ (.returned (.agg #[.int .i8 3,.int .i64 id,.int .i64 par,.int .i64 at_,.string ⟨#[]⟩,.int .i64 0,.int .i64 0,.string ⟨#[]⟩,.slice none 0 0])) V9):=hH ⟨_,rfl,⟨none,0,rfl,NlrQ _,True.intro⟩,⟨v3.trans hb.os,v4.trans hb.tape,v5.trans hb.output,by rw[v6];exact hb.size,fun y hy=>(v2 y om).trans (hb.block y hy)⟩⟩
 have HV9:=hH (aN hV9 v1)
 have HBE:=hH hB
 clear hb hs0 hr0 hB hV9 v1 v2 v3 v4 v5 v6
 go_enter Tryz.func69,Tryz.ntmps69
 go_upto_region 1 with fail
 change Code.wp _ _ _ _ (zl w [.cells #[.int .i8 3,.int .i64 id,.int .i64 par,.int .i64 at_,.string tx,.int .i64 s1,.int .i64 s2,.string s3,.slice sa sn sc] 44,.cells #[.int .i8 0,.int .i64 0,.int .i64 0,.int .i64 0,.string ⟨#[]⟩,.int .i64 0,.int .i64 0,.string ⟨#[]⟩,.slice none 0 0] 44])
 exact sd3
theorem zj5 (w:World)(S:Nat→Prop)(id par at_ s1 s2:Int)(tx s3:ByteArray)(sa:Option Addr)(sn sc:Nat):
 Calls Tryz.prog 69 #[.agg #[.int .i8 4,.int .i64 id,.int .i64 par,.int .i64 at_,.string tx,.int .i64 s1,.int .i64 s2,.string s3,.slice sa sn sc]] w (qQ w S ⟨4,id,0,0,tx,zu⟩):=by
 obtain⟨B,hB⟩:∃B,B=zl w [.cells #[.int .i8 4,.int .i64 id,.int .i64 par,.int .i64 at_,.string tx,.int .i64 s1,.int .i64 s2,.string s3,.slice sa sn sc] 44,.cells #[.int .i8 0,.int .i64 0,.int .i64 0,.int .i64 0,.string ⟨#[]⟩,.int .i64 0,.int .i64 0,.string ⟨#[]⟩,.slice none 0 0] 44]:=⟨_,rfl⟩
 have hb:Below w.heap.size w B:=by rw[hB];exact zi _ _
 have hs0:B.heap[w.heap.size]? =some (.cells #[.int .i8 4,.int .i64 id,.int .i64 par,.int .i64 at_,.string tx,.int .i64 s1,.int .i64 s2,.string s3,.slice sa sn sc] 44 (0,0)):=by rw[hB];exact ze _ _ 0 _ rfl
 have hr0:B.heap[w.heap.size+1]? =some (.cells #[.int .i8 0,.int .i64 0,.int .i64 0,.int .i64 0,.string ⟨#[]⟩,.int .i64 0,.int .i64 0,.string ⟨#[]⟩,.slice none 0 0] 44 (0,0)):=by rw[hB];exact ze _ _ 1 _ rfl
 obtain⟨V9,hV9,v1,v2,v3,v4,v5,v6⟩:=qD (u0:= .int .i8 4) (u1:= .int .i64 id) (u2:= .int .i64 0) (u3:= .int .i64 0) (u4:= .string tx) (u5:= .int .i64 0) (u6:= .int .i64 0) (u7:= .string ⟨#[]⟩) (u8:= .slice none 0 0) hr0
 obtain⟨m0,m1,m2,m3,m4,m5,m6,m7,m8⟩:=yL hs0
 obtain⟨z0,z1,z2,z3,z4,z5,z6,z7,z8⟩:=yL hr0
 have zf:∀j,B.frozen? ⟨w.heap.size+1,j,none⟩=false:=fun j=>forQ _ _ j _ _ hr0
 have HEND:Hid (qQ w S ⟨4,id,0,0,tx,zu⟩ (.returned (.agg #[.int .i8 4,.int .i64 id,.int .i64 0,.int .i64 0,.string tx,.int .i64 0,.int .i64 0,.string ⟨#[]⟩,.slice none 0 0])) V9):=hH ⟨_,rfl,⟨none,0,rfl,NlrQ _,True.intro⟩,⟨v3.trans hb.os,v4.trans hb.tape,v5.trans hb.output,by rw[v6];exact hb.size,fun y hy=>(v2 y om).trans (hb.block y hy)⟩⟩
 have HV9:=hH (aN hV9 v1)
 have HBE:=hH hB
 clear hb hs0 hr0 hB hV9 v1 v2 v3 v4 v5 v6
 go_enter Tryz.func69,Tryz.ntmps69
 go_upto_region 1 with fail
 change Code.wp _ _ _ _ (zl w [.cells #[.int .i8 4,.int .i64 id,.int .i64 par,.int .i64 at_,.string tx,.int .i64 s1,.int .i64 s2,.string s3,.slice sa sn sc] 44,.cells #[.int .i8 0,.int .i64 0,.int .i64 0,.int .i64 0,.string ⟨#[]⟩,.int .i64 0,.int .i64 0,.string ⟨#[]⟩,.slice none 0 0] 44])
 exact sd3
theorem zj2 (w:World)(Sx:Nat→Prop)(x:Tr)(id par at_:Int)(tx:ByteArray)(sa:Option Addr)(sn sc:Nat)(hSx:∀y,Sx y→y<w.heap.size)(hx:zG w Sx (.agg #[.int .i64 x.id,.int .i64 x.kind,.string x.text,.slice sa sn sc]) x)(hxz:zb x.kids≤100000):
 Calls Tryz.prog 69 #[.agg #[.int .i8 1,.int .i64 id,.int .i64 par,.int .i64 at_,.string tx,.int .i64 x.id,.int .i64 x.kind,.string x.text,.slice sa sn sc]] w (qQ w Sx ⟨1,0,par,at_,⟨#[]⟩,x⟩):=by
 obtain⟨B,hB⟩:∃B,B=zl w [.cells #[.int .i8 1,.int .i64 id,.int .i64 par,.int .i64 at_,.string tx,.int .i64 x.id,.int .i64 x.kind,.string x.text,.slice sa sn sc] 44,.cells #[.int .i8 0,.int .i64 0,.int .i64 0,.int .i64 0,.string ⟨#[]⟩,.int .i64 0,.int .i64 0,.string ⟨#[]⟩,.slice none 0 0] 44]:=⟨_,rfl⟩
 have hb:Below w.heap.size w B:=by rw[hB];exact zi _ _
 have hs:B.heap.size=w.heap.size+2:=by rw[hB];exact zw _ _
 have hs0:B.heap[w.heap.size]? =some (.cells #[.int .i8 1,.int .i64 id,.int .i64 par,.int .i64 at_,.string tx,.int .i64 x.id,.int .i64 x.kind,.string x.text,.slice sa sn sc] 44 (0,0)):=by rw[hB];exact ze _ _ 0 _ rfl
 have hr0:B.heap[w.heap.size+1]? =some (.cells #[.int .i8 0,.int .i64 0,.int .i64 0,.int .i64 0,.string ⟨#[]⟩,.int .i64 0,.int .i64 0,.string ⟨#[]⟩,.slice none 0 0] 44 (0,0)):=by rw[hB];exact ze _ _ 1 _ rfl
 have hcp:∀X,Tc B X (w.heap.size+1)→Calls Tryz.prog 84 #[.agg #[.int .i64 x.id,.int .i64 x.kind,.string x.text,.slice sa sn sc]] X (zb0 X Sx x):=fun X hX=>zeB X Sx _ x (fun y hy=>nL (hSx y hy) (NltQ hb.size hX.size)) (hx.kept fun y hy=>⟨hy,(hX.block y (by have:=hSx y hy;omega) (by have:=hSx y hy;omega)).trans (hb.block y (hSx y hy))⟩) hxz
 obtain⟨m0,m1,m2,m3,m4,m5,m6,m7,m8⟩:=yL hs0
 have HCP:=hH hcp
 have HST:=hH hs0
 have HSX:=hH hSx
 have HB:=hH (aN hb (aN hs hr0))
 have HBE:=hH hB
 clear hcp hs0 hb hs hr0 hB hx hSx hxz
 go_enter Tryz.func69,Tryz.ntmps69
 go_upto_region 1 with fail
 change Code.wp _ _ _ _ (zl w [.cells #[.int .i8 1,.int .i64 id,.int .i64 par,.int .i64 at_,.string tx,.int .i64 x.id,.int .i64 x.kind,.string x.text,.slice sa sn sc] 44,.cells #[.int .i8 0,.int .i64 0,.int .i64 0,.int .i64 0,.string ⟨#[]⟩,.int .i64 0,.int .i64 0,.string ⟨#[]⟩,.slice none 0 0] 44])
 rw[←HBE.out]
 clear HBE
 go_upto_region 3 with fail
 clear m0 m1 m2 m3 m4 m5 m6 m7 m8
 refine wrhQ (S:=fun X=>Tc B X (w.heap.size+1)) kr1 (Tc.of (below_drewN (BrQ _ B) 1)) (fun eH=>?_)
 refine tG (i:=0) (.pointer (some ⟨w.heap.size,0,none⟩)) rfl ?_
 simp only[Act.put,pg]
 refine tJ (i:=1) (.int .i8 1) rfl ?_ ?_
 · exact ua5
 simp only[Act.put,pg]
 refine tG (i:=2) (.pointer (some ⟨w.heap.size,2,none⟩)) rfl ?_
 simp only[Act.put,pg]
 refine tJ (i:=3) (.int .i64 par) rfl ?_ ?_
 · exact ua5
 simp only[Act.put,pg]
 refine tG (i:=4) (.pointer (some ⟨w.heap.size,3,none⟩)) rfl ?_
 simp only[Act.put,pg]
 refine tJ (i:=5) (.int .i64 at_) rfl ?_ ?_
 · exact ua5
 simp only[Act.put,pg]
 refine tG (i:=6) (.pointer (some ⟨w.heap.size,5,none⟩)) rfl ?_
 simp only[Act.put,pg]
 refine tJ (i:=7) (.agg #[.int .i64 x.id,.int .i64 x.kind,.string x.text,.slice sa sn sc]) rfl ?_ ?_
 · exact ua5
 simp only[Act.put,pg]
 refine rd [8] ?_
 refine AcQ (o:=_) rfl (fun K hK=>?_) AnQ
 rw[ipQ ug8]
 simp only[pg3]
 have HK:=hH hK
 have HS:=hH eH
 clear hK eH
 go_wp2_with (go_at_call 84;refine (HCP.out _ HS.out).mono ?_;rintro e w5 ⟨_,rfl,⟨yb,yc,rfl,hyc,hyk⟩,hb5⟩;have H5:=hH (aN hyc (aN hyk (aN hb5 ((hb5.block _ (lohQ HB.out.2.2)).trans HB.out.2.2))));have HS5:=hH (HS.out.then hb5);clear hyc hyk hb5)
 refine HK.out _ _ HS5.out (fun eH=>?_)
 clear HK HS
 obtain⟨xn,hxn⟩:∃xn,xn=foLen x.kids:=⟨_,rfl⟩
 refine tG (i:=9) (.agg #[.int .i8 1,.int .i64 0,.int .i64 par,.int .i64 at_,.string ⟨#[]⟩,.int .i64 x.id,.int .i64 x.kind,.string x.text,.slice yb (foLen x.kids) yc]) rfl ?_
 simp only[Act.put,pg]
 refine rd [10] ?_
 refine AcQ (o:=_) rfl (fun K hK=>?_) AnQ
 rw[ipQ ug8]
 simp only[pg3]
 have HK:=hH hK
 have HS:=hH eH
 clear hK eH
 have hz:=H5.out.2.2.2
 obtain⟨z0,z1,z2,z3,z4,z5,z6,z7,z8⟩:=yL hz
 have zf:∀j,w5.frozen? ⟨w.heap.size+1,j,none⟩=false:=fun j=>forQ _ _ j _ _ hz
 obtain⟨V9,hV9,v1,v2,v3,v4,v5,v6⟩:=qD (u0:= .int .i8 1) (u1:= .int .i64 0) (u2:= .int .i64 par) (u3:= .int .i64 at_) (u4:= .string ⟨#[]⟩) (u5:= .int .i64 x.id) (u6:= .int .i64 x.kind) (u7:= .string x.text) (u8:= .slice yb (foLen x.kids) yc) hz
 have hT9:Tc B V9 (w.heap.size+1):=⟨v3.trans HS5.out.os,v4.trans HS5.out.tape,v5.trans HS5.out.output,by rw[v6];exact HS5.out.size,fun y hy hn=>(v2 y hn).trans (HS5.out.block y hy hn)⟩
 have hE:qQ w Sx ⟨1,0,par,at_,⟨#[]⟩,x⟩ (.returned (.agg #[.int .i8 1,.int .i64 0,.int .i64 par,.int .i64 at_,.string ⟨#[]⟩,.int .i64 x.id,.int .i64 x.kind,.string x.text,.slice yb (foLen x.kids) yc])) V9:=⟨_,rfl,⟨yb,yc,rfl,H5.out.1,?kept⟩,hT9.below HB.out.1 om⟩
 case kept=>
  exact H5.out.2.1.kept fun y hy=>by
   have hy1:Sx y∨B.heap.size≤y:=hy.1
   have hne:y≠w.heap.size+1:=by
    rcases hy1 with h | h
    · have:=HSX.out y h;omega
    · have:=HB.out.2.1;omega
   exact⟨⟨hy1.imp (fun h=>h) (fun h=>by have:=HB.out.2.1;omega),by rw[v6];exact hy.2⟩,v2 y hne⟩
 have HE:=hH (aN hE (aN hV9 (aN v1 hT9)))
 clear hz hV9 v1 v2 v3 v4 v5 v6 hT9 hE
 go_wp2_with fail
 rw[←HE.out.2.1]
 refine HK.out _ _ HE.out.2.2.2 (fun eH=>?_)
 clear HK HS z0 z1 z2 z3 z4 z5 z6 z7 z8 zf H5 HS5
 refine wpAnyH_done kr1 ?_ _
 clear eH
 go_wp2_with fail
 refine brQ (yJ rfl _ _ (w.heap.size+1) 44 _ (0,0) _ rfl HE.out.2.2.1 Tryz.underlying44 rfl kr1) rfl ?_
 exact HE.out.1
def invV:Value:= .agg #[.nilFunc,.func (.func 85) #[] #[],.func (.func 86) #[] #[],.func (.func 87) #[] #[],.func (.func 88) #[] #[]]
theorem jQ (w:World):Calls Tryz.prog 70 #[] w fun e w'=>e= .returned invV∧Below w.heap.size w w':=by
 go_enter Tryz.func70,Tryz.ntmps70
 go_wp2_with fail
 exact brQ (vG rfl _ _ w.heap.size 116 _ _ _ rfl (hanQ w _) Tryz.underlying116 rfl kr1) rfl ⟨rfl,(BrQ _ _).alloc (NlrQ _) _⟩
theorem zeN (X:World):(Instr.index 116 (.agg #[.nilFunc,.func (.func 85) #[] #[],.func (.func 86) #[] #[],.func (.func 87) #[] #[],.func (.func 88) #[] #[]]) (.int .i8 1)).run Tryz.prog X= .ok (.func (.func 85) #[] #[]) X:=by
 exact sf7
theorem zeO (X:World):(Instr.index 116 (.agg #[.nilFunc,.func (.func 85) #[] #[],.func (.func 86) #[] #[],.func (.func 87) #[] #[],.func (.func 88) #[] #[]]) (.int .i8 2)).run Tryz.prog X= .ok (.func (.func 86) #[] #[]) X:=by
 exact sf7
theorem zeP (X:World):(Instr.index 116 (.agg #[.nilFunc,.func (.func 85) #[] #[],.func (.func 86) #[] #[],.func (.func 87) #[] #[],.func (.func 88) #[] #[]]) (.int .i8 3)).run Tryz.prog X= .ok (.func (.func 87) #[] #[]) X:=by
 exact sf7
theorem zeQ (X:World):(Instr.index 116 (.agg #[.nilFunc,.func (.func 85) #[] #[],.func (.func 86) #[] #[],.func (.func 87) #[] #[],.func (.func 88) #[] #[]]) (.int .i8 4)).run Tryz.prog X= .ok (.func (.func 88) #[] #[]) X:=by
 exact sf7
def JD (w:World)(T:Nat→Prop)(n:Int)(s:Sf)(e:Ending)(w' :World):Prop:=∃v,e= .returned (.tuple #[v,.int .i64 n])∧zhj w' (fun y=>(T y∨w.heap.size≤y)∧y<w'.heap.size) v s∧Below w.heap.size w w'
theorem zbd:∀(p:List Nat) (n:Tr) (a b:Int),zb (jJ n a b p).1.kids≤zb n.kids
 | [],n,a,b=>NlrQ _
 | i ::p,n,a,b=>by
   simp only[jJ]
   cases hk:zB n.kids i with
   | none=>exact NlrQ _
   | some u=>
     have h1:=zbd p u n.id (i:Int)
     have h2:=jo hk
     simp only at h1 ⊢;omega
theorem Yo (id:Int)(t:Tr):zb (yl id t).1.kids≤zb t.kids:=zbd _ t 0 0
theorem zaI (w:World)(S Sx:Nat→Prop)(nv:Value)(t x:Tr)(op id par at_:Int)(tx:ByteArray)(sa:Option Addr)(sn sc:Nat)(hS:∀y,S y→y<w.heap.size)(hSx:∀y,Sx y→y<w.heap.size)(ht:zG w S nv t)(hx:zG w Sx (.agg #[.int .i64 x.id,.int .i64 x.kind,.string x.text,.slice sa sn sc]) x)(hsz:zb t.kids+1≤2000)(hxz:zb x.kids+1≤2000)(hop:(Lit.int .i8 op).wf=true)(hok:∀i∈idT t,(Lit.int .i64 i).wf=true)(hxk:∀i∈idT x,(Lit.int .i64 i).wf=true)(h0:(zK op id par at_ tx x t).2≠0):
 Calls Tryz.prog 49 #[nv,.agg #[.int .i8 op,.int .i64 id,.int .i64 par,.int .i64 at_,.string tx,.int .i64 x.id,.int .i64 x.kind,.string x.text,.slice sa sn sc]] w (JD w (fun y=>S y∨Sx y) (zK op id par at_ tx x t).2 zbY):=by
 obtain⟨ka,tc,rfl,hcap,hk⟩:=ht
 obtain⟨nk,hnk⟩:∃nk,nk=foLen t.kids:=⟨_,rfl⟩
 rw[←hnk]
 obtain⟨B,hB⟩:∃B,B=zl w [.cells #[.int .i64 t.id,.int .i64 t.kind,.string t.text,.slice ka nk tc] 27,.cells #[.int .i8 op,.int .i64 id,.int .i64 par,.int .i64 at_,.string tx,.int .i64 x.id,.int .i64 x.kind,.string x.text,.slice sa sn sc] 44,.cells #[.int .i8 0,.int .i64 0,.int .i64 0,.int .i64 0,.string ⟨#[]⟩,.int .i64 0,.int .i64 0,.string ⟨#[]⟩,.slice none 0 0] 44]:=⟨_,rfl⟩
 have hb:Below w.heap.size w B:=by rw[hB];exact zi _ _
 have hs:B.heap.size=w.heap.size+3:=by rw[hB];exact zw _ _
 have ht0:B.heap[w.heap.size]? =some (.cells #[.int .i64 t.id,.int .i64 t.kind,.string t.text,.slice ka nk tc] 27 (0,0)):=by rw[hB];exact ze _ _ 0 _ rfl
 have hs0:B.heap[w.heap.size+1]? =some (.cells #[.int .i8 op,.int .i64 id,.int .i64 par,.int .i64 at_,.string tx,.int .i64 x.id,.int .i64 x.kind,.string x.text,.slice sa sn sc] 44 (0,0)):=by rw[hB];exact ze _ _ 1 _ rfl
 have hr0:B.heap[w.heap.size+1+1]? =some (.cells #[.int .i8 0,.int .i64 0,.int .i64 0,.int .i64 0,.string ⟨#[]⟩,.int .i64 0,.int .i64 0,.string ⟨#[]⟩,.slice none 0 0] 44 (0,0)):=by rw[hB];exact ze _ _ 2 _ rfl
 have htr:∀X,(∀y,y<w.heap.size→X.heap[y]? =w.heap[y]?)→zG X S (.agg #[.int .i64 t.id,.int .i64 t.kind,.string t.text,.slice ka nk tc]) t:=fun X hX=>⟨ka,tc,by rw[hnk],by rw[hnk] at*;exact hcap,hk.kept fun y hy=>⟨hy,hX y (hS y hy)⟩⟩
 have hap:=jh B S Sx (.agg #[.int .i64 t.id,.int .i64 t.kind,.string t.text,.slice ka nk tc]) t x op id par at_ tx sa sn sc (fun y hy=>nL (hS y hy) hb.size) (fun y hy=>nL (hSx y hy) hb.size) (htr B hb.block) (hx.kept fun y hy=>⟨hy,hb.block y (hSx y hy)⟩) hsz hxz hop hok hxk
 obtain⟨r,hr⟩:∃r,r=zK op id par at_ tx x t:=⟨_,rfl⟩
 rw[←hr] at hap h0 ⊢
 obtain⟨ye,hye⟩:∃ye,ye=r.2:=⟨_,rfl⟩
 obtain⟨y,hy⟩:∃y,y=zV r:=⟨_,rfl⟩
 unfold qI at hap
 rw[←hye] at hap h0 ⊢
 rw[←hy] at hap
 obtain⟨b0,b1,b2,b3⟩:=zD ht0
 obtain⟨m0,m1,m2,m3,m4,m5,m6,m7,m8⟩:=yL hs0
 have HAP:=hH hap
 have HB:=hH (aN hb (aN hs (aN ht0 (aN hs0 hr0))))
 have HBE:=hH hB
 clear hap hb hs ht0 hs0 hr0 hB hnk hcap hk hS hSx hsz hxz hok hxk hx htr hop hr hye hy
 go_enter Tryz.func49,Tryz.ntmps49
 go_upto_region 1 with fail
 change Code.wp _ _ _ _ (zl w [.cells #[.int .i64 t.id,.int .i64 t.kind,.string t.text,.slice ka nk tc] 27,.cells #[.int .i8 op,.int .i64 id,.int .i64 par,.int .i64 at_,.string tx,.int .i64 x.id,.int .i64 x.kind,.string x.text,.slice sa sn sc] 44,.cells #[.int .i8 0,.int .i64 0,.int .i64 0,.int .i64 0,.string ⟨#[]⟩,.int .i64 0,.int .i64 0,.string ⟨#[]⟩,.slice none 0 0] 44])
 rw[←HBE.out]
 clear HBE
 go_wp2_with fail
 refine HAP.out.mono ?_
 rintro e W ⟨_,rfl,⟨yb,yc,rfl,_,_⟩,hbW⟩
 obtain⟨yn,hyn⟩:∃yn,yn=foLen y.kids:=⟨_,rfl⟩
 rw[←hyn]
 clear hyn
 obtain⟨U,hU⟩:∃U,U=W.alloc (.cells #[.int .i64 y.id,.int .i64 y.kind,.string y.text,.slice yb yn yc] 27):=⟨_,rfl⟩
 have hbU:Below W.heap.size W U:=by rw[hU];exact zg _ _
 have hbB:Below B.heap.size B U:=hbW.trans (hbU.mono hbW.size)
 have ht1:=(hbB.block _ (lohQ HB.out.2.2.1)).trans HB.out.2.2.1
 have hs1:=(hbB.block _ (lohQ HB.out.2.2.2.1)).trans HB.out.2.2.2.1
 have hr1:=(hbB.block _ (lohQ HB.out.2.2.2.2)).trans HB.out.2.2.2.2
 have hUs:w.heap.size+3≤U.heap.size:=by have:=HB.out.2.1;have:=hbB.size;omega
 have hbw:Below w.heap.size w U:=HB.out.1.trans (hbB.mono HB.out.1.size)
 have HU:=hH hU
 have HT:=hH (aN ht1 (aN hs1 (aN hr1 (aN hUs hbw))))
 clear hbW hU hbU hbB ht1 hs1 hr1 hUs hbw b0 b1 b2 b3 m0 m1 m2 m3 m4 m5 m6 m7 m8
 go_upto_region 2 with fail
 rw[←HU.out]
 obtain⟨ht1,hs1,hr1,hUs,hbw⟩:=HT.out
 obtain⟨z0,z1,z2,z3,z4,z5,z6,z7,z8⟩:=yL hr1
 have zf:∀j,U.frozen? ⟨w.heap.size+1+1,j,none⟩=false:=fun j=>forQ _ _ j _ _ hr1
 obtain⟨V9,hV9,v1,v2,v3,v4,v5,v6⟩:=qD (u0:= .int .i8 0) (u1:= .int .i64 0) (u2:= .int .i64 0) (u3:= .int .i64 0) (u4:= .string ⟨#[]⟩) (u5:= .int .i64 0) (u6:= .int .i64 0) (u7:= .string ⟨#[]⟩) (u8:= .slice none 0 0) hr1
 have HEND:Hid (JD w (fun y=>S y∨Sx y) ye zbY (.returned (.tuple #[.agg #[.int .i8 0,.int .i64 0,.int .i64 0,.int .i64 0,.string ⟨#[]⟩,.int .i64 0,.int .i64 0,.string ⟨#[]⟩,.slice none 0 0],.int .i64 ye])) V9):=hH ⟨_,rfl,⟨none,0,rfl,NlrQ _,True.intro⟩,⟨v3.trans hbw.os,v4.trans hbw.tape,v5.trans hbw.output,by rw[v6];exact hbw.size,fun y hy=>(v2 y om).trans (hbw.block y hy)⟩⟩
 have HV9:=hH (aN hV9 v1)
 clear ht1 hs1 hr1 hUs hbw hV9 v1 v2 v3 v4 v5 v6
 go_wp2_with fail
 rw[←HV9.out.1]
 refine brQ (yA rfl _ _ (w.heap.size+1+1) 44 _ (0,0) _ (.int .i64 ye) rfl HV9.out.2 Tryz.underlying44 rfl kr1 rfl) rfl ?_
 exact HEND.out
theorem zhZ (w:World)(S Sx:Nat→Prop)(nv:Value)(t x:Tr)(id par at_:Int)(tx:ByteArray)(sa:Option Addr)(sn sc:Nat)(hS:∀y,S y→y<w.heap.size)(hSx:∀y,Sx y→y<w.heap.size)(ht:zG w S nv t)(hx:zG w Sx (.agg #[.int .i64 x.id,.int .i64 x.kind,.string x.text,.slice sa sn sc]) x)(hsz:zb t.kids+1≤2000)(hxz:zb x.kids+1≤2000)(hok:∀i∈idT t,(Lit.int .i64 i).wf=true)(hxk:∀i∈idT x,(Lit.int .i64 i).wf=true)(h0:(zK 1 id par at_ tx x t).2=0):
 Calls Tryz.prog 49 #[nv,.agg #[.int .i8 1,.int .i64 id,.int .i64 par,.int .i64 at_,.string tx,.int .i64 x.id,.int .i64 x.kind,.string x.text,.slice sa sn sc]] w (JD w (fun y=>S y∨Sx y) 0 (invK 1 id x t)):=by
 obtain⟨ka,tc,rfl,hcap,hk⟩:=ht
 obtain⟨nk,hnk⟩:∃nk,nk=foLen t.kids:=⟨_,rfl⟩
 rw[←hnk]
 obtain⟨B,hB⟩:∃B,B=zl w [.cells #[.int .i64 t.id,.int .i64 t.kind,.string t.text,.slice ka nk tc] 27,.cells #[.int .i8 1,.int .i64 id,.int .i64 par,.int .i64 at_,.string tx,.int .i64 x.id,.int .i64 x.kind,.string x.text,.slice sa sn sc] 44,.cells #[.int .i8 0,.int .i64 0,.int .i64 0,.int .i64 0,.string ⟨#[]⟩,.int .i64 0,.int .i64 0,.string ⟨#[]⟩,.slice none 0 0] 44]:=⟨_,rfl⟩
 have hb:Below w.heap.size w B:=by rw[hB];exact zi _ _
 have hs:B.heap.size=w.heap.size+3:=by rw[hB];exact zw _ _
 have ht0:B.heap[w.heap.size]? =some (.cells #[.int .i64 t.id,.int .i64 t.kind,.string t.text,.slice ka nk tc] 27 (0,0)):=by rw[hB];exact ze _ _ 0 _ rfl
 have hs0:B.heap[w.heap.size+1]? =some (.cells #[.int .i8 1,.int .i64 id,.int .i64 par,.int .i64 at_,.string tx,.int .i64 x.id,.int .i64 x.kind,.string x.text,.slice sa sn sc] 44 (0,0)):=by rw[hB];exact ze _ _ 1 _ rfl
 have hr0:B.heap[w.heap.size+1+1]? =some (.cells #[.int .i8 0,.int .i64 0,.int .i64 0,.int .i64 0,.string ⟨#[]⟩,.int .i64 0,.int .i64 0,.string ⟨#[]⟩,.slice none 0 0] 44 (0,0)):=by rw[hB];exact ze _ _ 2 _ rfl
 have htr:∀X,(∀y,y<w.heap.size→X.heap[y]? =w.heap[y]?)→zG X S (.agg #[.int .i64 t.id,.int .i64 t.kind,.string t.text,.slice ka nk tc]) t:=fun X hX=>⟨ka,tc,by rw[hnk],by rw[hnk] at*;exact hcap,hk.kept fun y hy=>⟨hy,hX y (hS y hy)⟩⟩
 have hap:=jh B S Sx (.agg #[.int .i64 t.id,.int .i64 t.kind,.string t.text,.slice ka nk tc]) t x 1 id par at_ tx sa sn sc (fun y hy=>nL (hS y hy) hb.size) (fun y hy=>nL (hSx y hy) hb.size) (htr B hb.block) (hx.kept fun y hy=>⟨hy,hb.block y (hSx y hy)⟩) hsz hxz ug7 hok hxk
 obtain⟨y,hy⟩:∃y,y=zV (zK 1 id par at_ tx x t):=⟨_,rfl⟩
 unfold qI at hap
 rw[h0,←hy] at hap
 obtain⟨s,hss⟩:∃s,s=invK 1 id x t:=⟨_,rfl⟩
 rw[←hss]
 have hlit:s=⟨2,x.id,0,0,⟨#[]⟩,zu⟩:=by rw[hss];unfold invK;rw[ipQ rfl]
 have HLIT:=hH hlit
 clear hlit
 have hfn:∀X,w.heap.size≤X.heap.size→(∀y,y<w.heap.size→X.heap[y]? =w.heap[y]?)→Calls Tryz.prog 85 #[.agg #[.int .i64 t.id,.int .i64 t.kind,.string t.text,.slice ka nk tc],.agg #[.int .i8 1,.int .i64 id,.int .i64 par,.int .i64 at_,.string tx,.int .i64 x.id,.int .i64 x.kind,.string x.text,.slice sa sn sc]] X (qQ X S ⟨2,x.id,0,0,⟨#[]⟩,zu⟩):=fun X hX1 hX=>by
  have h:=zd4 X S (.agg #[.int .i64 t.id,.int .i64 t.kind,.string t.text,.slice ka nk tc]) t 1 id par at_ x.id x.kind tx x.text sa sn sc (fun y hy=>nL (hS y hy) hX1) (htr X hX) om
  exact h
 have HFN:=hH hfn
 have HSW:=hH hS
 obtain⟨b0,b1,b2,b3⟩:=zD ht0
 obtain⟨m0,m1,m2,m3,m4,m5,m6,m7,m8⟩:=yL hs0
 have HAP:=hH hap
 have HB:=hH (aN hb (aN hs (aN ht0 (aN hs0 hr0))))
 have HBE:=hH hB
 clear hap hb hs ht0 hs0 hr0 hB hnk hcap hk hS hSx hsz hxz hok hxk hx htr hy hss hfn h0
 go_enter Tryz.func49,Tryz.ntmps49
 go_upto_region 1 with fail
 change Code.wp _ _ _ _ (zl w [.cells #[.int .i64 t.id,.int .i64 t.kind,.string t.text,.slice ka nk tc] 27,.cells #[.int .i8 1,.int .i64 id,.int .i64 par,.int .i64 at_,.string tx,.int .i64 x.id,.int .i64 x.kind,.string x.text,.slice sa sn sc] 44,.cells #[.int .i8 0,.int .i64 0,.int .i64 0,.int .i64 0,.string ⟨#[]⟩,.int .i64 0,.int .i64 0,.string ⟨#[]⟩,.slice none 0 0] 44])
 rw[←HBE.out]
 clear HBE
 go_wp2_with fail
 refine HAP.out.mono ?_
 rintro e W ⟨_,rfl,⟨yb,yc,rfl,_,_⟩,hbW⟩
 obtain⟨yn,hyn⟩:∃yn,yn=foLen y.kids:=⟨_,rfl⟩
 rw[←hyn]
 clear hyn
 obtain⟨U,hU⟩:∃U,U=W.alloc (.cells #[.int .i64 y.id,.int .i64 y.kind,.string y.text,.slice yb yn yc] 27):=⟨_,rfl⟩
 have hbU:Below W.heap.size W U:=by rw[hU];exact zg _ _
 have hbB:Below B.heap.size B U:=hbW.trans (hbU.mono hbW.size)
 have ht1:=(hbB.block _ (lohQ HB.out.2.2.1)).trans HB.out.2.2.1
 have hs1:=(hbB.block _ (lohQ HB.out.2.2.2.1)).trans HB.out.2.2.2.1
 have hr1:=(hbB.block _ (lohQ HB.out.2.2.2.2)).trans HB.out.2.2.2.2
 have hUs:w.heap.size+3≤U.heap.size:=by have:=HB.out.2.1;have:=hbB.size;omega
 have hbw:Below w.heap.size w U:=HB.out.1.trans (hbB.mono HB.out.1.size)
 have HU:=hH hU
 have HT:=hH (aN ht1 (aN hs1 (aN hr1 (aN hUs hbw))))
 clear hbW hU hbU hbB ht1 hs1 hr1 hUs hbw b0 b1 b2 b3 m0 m1 m2 m3 m4 m5 m6 m7 m8
 go_upto_region 2 with fail
 rw[←HU.out]
 go_upto_region 4 with fail
 refine wrhQ (S:=fun X=>Tc U X (w.heap.size+1+1)) kr1 (Tc.of (below_drewN (BrQ _ U) 1)) (fun eH=>?_)
 refine tG (i:=1) (.pointer (some ⟨w.heap.size+1,0,none⟩)) rfl ?_
 simp only[Act.put,pg]
 refine tJ (i:=2) (.int .i8 1) rfl ?_ ?_
 · exact ua6
 simp only[Act.put,pg]
 refine tJ (i:=4) (.agg #[.int .i64 t.id,.int .i64 t.kind,.string t.text,.slice ka nk tc]) rfl ?_ ?_
 · exact ua7
 simp only[Act.put,pg]
 refine tJ (i:=5) (.agg #[.int .i8 1,.int .i64 id,.int .i64 par,.int .i64 at_,.string tx,.int .i64 x.id,.int .i64 x.kind,.string x.text,.slice sa sn sc]) rfl ?_ ?_
 · exact ua6
 simp only[Act.put,pg]
 refine rd [0] ?_
 refine AcQ (o:=_) rfl (fun K hK=>?_) AnQ
 rw[ipQ ug8]
 simp only[pg3]
 have HK:=hH hK
 have HS:=hH eH
 clear hK eH
 have HZ:Hid (U.drew.heap[w.heap.size+1+1]? =some (.cells #[.int .i8 0,.int .i64 0,.int .i64 0,.int .i64 0,.string ⟨#[]⟩,.int .i64 0,.int .i64 0,.string ⟨#[]⟩,.slice none 0 0] 44 (0,0))):=hH HT.out.2.2.1
 go_wp2_with (go_at_call 70;refine (jQ _).mono ?_;rintro e w5 ⟨rfl,hb5⟩;have HZ5:=hH ((hb5.block _ (lohQ HZ.out)).trans HZ.out);have HS5:=hH (HS.out.then hb5);clear hb5;unfold invV)
 refine HK.out _ _ HS5.out (fun eH=>?_)
 clear HK HS HZ
 refine tJ (i:=3) (.func (.func 85) #[] #[]) rfl ?_ ?_
 · clear eH;intro X hSw;have hix:=zeN X;clear hSw;go_simp
 simp only[Act.put,pg]
 refine rd [6] ?_
 refine AcQ (o:=_) rfl (fun K hK=>?_) AnQ
 rw[ipQ ug8]
 simp only[pg3]
 have HK:=hH hK
 have HS:=hH eH
 clear hK eH
 go_wp2_with (go_at_call 85;refine (HFN.out _ (NltQ HT.out.2.2.2.2.size HS.out.size) (fun y hy=>(HS.out.block y ue1 om).trans (HT.out.2.2.2.2.block y hy))).mono ?_;rintro e w6 ⟨_,rfl,⟨ma,mc,rfl,hmc,hmk⟩,hb6⟩;have HZ6:=hH ((hb6.block _ (lohQ HZ5.out)).trans HZ5.out);have HS6:=hH (HS.out.then hb6);have HM:=hH (aN hmc (aN hmk (show w.heap.size+3≤w5.heap.size from NltQ HT.out.2.2.2.1 HS.out.size)));clear hmc hmk hb6)
 refine HK.out _ _ HS6.out (fun eH=>?_)
 clear HK HS HS5 HZ5
 refine rd [7] ?_
 refine AcQ (o:=_) rfl (fun K hK=>?_) AnQ
 rw[ipQ ug8]
 simp only[pg3]
 have HK:=hH hK
 have HS:=hH eH
 clear hK eH
 have hpl:Calls Tryz.prog 69 #[.agg #[.int .i8 2,.int .i64 x.id,.int .i64 0,.int .i64 0,.string ⟨#[]⟩,.int .i64 0,.int .i64 0,.string ⟨#[]⟩,.slice ma 0 mc]] w6 (qQ w6 (fun y=>S y∨w.heap.size+3≤y) s):=by
  rw[HLIT.out]
  exact zj3 _ _ _ _ _ _ _ _ _ _ _ _
 exact sa2
theorem zdt (w:World)(S Sx:Nat→Prop)(nv:Value)(t x:Tr)(id par at_:Int)(tx:ByteArray)(sa:Option Addr)(sn sc:Nat)(hS:∀y,S y→y<w.heap.size)(hSx:∀y,Sx y→y<w.heap.size)(ht:zG w S nv t)(hx:zG w Sx (.agg #[.int .i64 x.id,.int .i64 x.kind,.string x.text,.slice sa sn sc]) x)(hsz:zb t.kids+1≤2000)(hxz:zb x.kids+1≤2000)(hok:∀i∈idT t,(Lit.int .i64 i).wf=true)(hxk:∀i∈idT x,(Lit.int .i64 i).wf=true)(h0:(zK 4 id par at_ tx x t).2=0):
 Calls Tryz.prog 49 #[nv,.agg #[.int .i8 4,.int .i64 id,.int .i64 par,.int .i64 at_,.string tx,.int .i64 x.id,.int .i64 x.kind,.string x.text,.slice sa sn sc]] w (JD w (fun y=>S y∨Sx y) 0 (invK 4 id x t)):=by
 obtain⟨ka,tc,rfl,hcap,hk⟩:=ht
 obtain⟨nk,hnk⟩:∃nk,nk=foLen t.kids:=⟨_,rfl⟩
 rw[←hnk]
 obtain⟨B,hB⟩:∃B,B=zl w [.cells #[.int .i64 t.id,.int .i64 t.kind,.string t.text,.slice ka nk tc] 27,.cells #[.int .i8 4,.int .i64 id,.int .i64 par,.int .i64 at_,.string tx,.int .i64 x.id,.int .i64 x.kind,.string x.text,.slice sa sn sc] 44,.cells #[.int .i8 0,.int .i64 0,.int .i64 0,.int .i64 0,.string ⟨#[]⟩,.int .i64 0,.int .i64 0,.string ⟨#[]⟩,.slice none 0 0] 44]:=⟨_,rfl⟩
 have hb:Below w.heap.size w B:=by rw[hB];exact zi _ _
 have hs:B.heap.size=w.heap.size+3:=by rw[hB];exact zw _ _
 have ht0:B.heap[w.heap.size]? =some (.cells #[.int .i64 t.id,.int .i64 t.kind,.string t.text,.slice ka nk tc] 27 (0,0)):=by rw[hB];exact ze _ _ 0 _ rfl
 have hs0:B.heap[w.heap.size+1]? =some (.cells #[.int .i8 4,.int .i64 id,.int .i64 par,.int .i64 at_,.string tx,.int .i64 x.id,.int .i64 x.kind,.string x.text,.slice sa sn sc] 44 (0,0)):=by rw[hB];exact ze _ _ 1 _ rfl
 have hr0:B.heap[w.heap.size+1+1]? =some (.cells #[.int .i8 0,.int .i64 0,.int .i64 0,.int .i64 0,.string ⟨#[]⟩,.int .i64 0,.int .i64 0,.string ⟨#[]⟩,.slice none 0 0] 44 (0,0)):=by rw[hB];exact ze _ _ 2 _ rfl
 have htr:∀X,(∀y,y<w.heap.size→X.heap[y]? =w.heap[y]?)→zG X S (.agg #[.int .i64 t.id,.int .i64 t.kind,.string t.text,.slice ka nk tc]) t:=fun X hX=>⟨ka,tc,by rw[hnk],by rw[hnk] at*;exact hcap,hk.kept fun y hy=>⟨hy,hX y (hS y hy)⟩⟩
 have hap:=jh B S Sx (.agg #[.int .i64 t.id,.int .i64 t.kind,.string t.text,.slice ka nk tc]) t x 4 id par at_ tx sa sn sc (fun y hy=>nL (hS y hy) hb.size) (fun y hy=>nL (hSx y hy) hb.size) (htr B hb.block) (hx.kept fun y hy=>⟨hy,hb.block y (hSx y hy)⟩) hsz hxz ug7 hok hxk
 obtain⟨y,hy⟩:∃y,y=zV (zK 4 id par at_ tx x t):=⟨_,rfl⟩
 unfold qI at hap
 rw[h0,←hy] at hap
 obtain⟨s,hss⟩:∃s,s=invK 4 id x t:=⟨_,rfl⟩
 rw[←hss]
 obtain⟨wr,hwr⟩:∃wr,wr=yl id t:=⟨_,rfl⟩
 have hwz:=Yo id t
 have hlit:s=⟨4,id,0,0,wr.1.text,zu⟩:=by rw[hss,hwr];unfold invK;rw[inQ ug7,inQ ug7,inQ ug7,ipQ rfl]
 have HLIT:=hH hlit
 rw[←hwr] at hwz
 obtain⟨u,pr,pl⟩:=wr
 simp only at hwz
 have HWZ:=hH (show zb u.kids≤100000 by omega)
 clear hlit
 have hfn:∀X,w.heap.size≤X.heap.size→(∀y,y<w.heap.size→X.heap[y]? =w.heap[y]?)→Calls Tryz.prog 88 #[.agg #[.int .i64 t.id,.int .i64 t.kind,.string t.text,.slice ka nk tc],.agg #[.int .i8 4,.int .i64 id,.int .i64 par,.int .i64 at_,.string tx,.int .i64 x.id,.int .i64 x.kind,.string x.text,.slice sa sn sc]] X (qQ X S ⟨4,id,0,0,u.text,zu⟩):=fun X hX1 hX=>by
  have h:=zbq X S (.agg #[.int .i64 t.id,.int .i64 t.kind,.string t.text,.slice ka nk tc]) t 4 id par at_ x.id x.kind tx x.text sa sn sc (fun y hy=>nL (hS y hy) hX1) (htr X hX) om
  rw[←hwr] at h;exact h
 have HFN:=hH hfn
 have HSW:=hH hS
 obtain⟨b0,b1,b2,b3⟩:=zD ht0
 obtain⟨m0,m1,m2,m3,m4,m5,m6,m7,m8⟩:=yL hs0
 have HAP:=hH hap
 have HB:=hH (aN hb (aN hs (aN ht0 (aN hs0 hr0))))
 have HBE:=hH hB
 clear hap hb hs ht0 hs0 hr0 hB hnk hcap hk hS hSx hsz hxz hok hxk hx htr hy hss hfn h0 hwr
 go_enter Tryz.func49,Tryz.ntmps49
 go_upto_region 1 with fail
 change Code.wp _ _ _ _ (zl w [.cells #[.int .i64 t.id,.int .i64 t.kind,.string t.text,.slice ka nk tc] 27,.cells #[.int .i8 4,.int .i64 id,.int .i64 par,.int .i64 at_,.string tx,.int .i64 x.id,.int .i64 x.kind,.string x.text,.slice sa sn sc] 44,.cells #[.int .i8 0,.int .i64 0,.int .i64 0,.int .i64 0,.string ⟨#[]⟩,.int .i64 0,.int .i64 0,.string ⟨#[]⟩,.slice none 0 0] 44])
 rw[←HBE.out]
 clear HBE
 go_wp2_with fail
 refine HAP.out.mono ?_
 rintro e W ⟨_,rfl,⟨yb,yc,rfl,_,_⟩,hbW⟩
 obtain⟨yn,hyn⟩:∃yn,yn=foLen y.kids:=⟨_,rfl⟩
 rw[←hyn]
 clear hyn
 obtain⟨U,hU⟩:∃U,U=W.alloc (.cells #[.int .i64 y.id,.int .i64 y.kind,.string y.text,.slice yb yn yc] 27):=⟨_,rfl⟩
 have hbU:Below W.heap.size W U:=by rw[hU];exact zg _ _
 have hbB:Below B.heap.size B U:=hbW.trans (hbU.mono hbW.size)
 have ht1:=(hbB.block _ (lohQ HB.out.2.2.1)).trans HB.out.2.2.1
 have hs1:=(hbB.block _ (lohQ HB.out.2.2.2.1)).trans HB.out.2.2.2.1
 have hr1:=(hbB.block _ (lohQ HB.out.2.2.2.2)).trans HB.out.2.2.2.2
 have hUs:w.heap.size+3≤U.heap.size:=by have:=HB.out.2.1;have:=hbB.size;omega
 have hbw:Below w.heap.size w U:=HB.out.1.trans (hbB.mono HB.out.1.size)
 have HU:=hH hU
 have HT:=hH (aN ht1 (aN hs1 (aN hr1 (aN hUs hbw))))
 clear hbW hU hbU hbB ht1 hs1 hr1 hUs hbw b0 b1 b2 b3 m0 m1 m2 m3 m4 m5 m6 m7 m8
 go_upto_region 2 with fail
 rw[←HU.out]
 go_upto_region 4 with fail
 refine wrhQ (S:=fun X=>Tc U X (w.heap.size+1+1)) kr1 (Tc.of (below_drewN (BrQ _ U) 1)) (fun eH=>?_)
 refine tG (i:=1) (.pointer (some ⟨w.heap.size+1,0,none⟩)) rfl ?_
 simp only[Act.put,pg]
 refine tJ (i:=2) (.int .i8 4) rfl ?_ ?_
 · exact ua6
 simp only[Act.put,pg]
 refine tJ (i:=4) (.agg #[.int .i64 t.id,.int .i64 t.kind,.string t.text,.slice ka nk tc]) rfl ?_ ?_
 · exact ua7
 simp only[Act.put,pg]
 refine tJ (i:=5) (.agg #[.int .i8 4,.int .i64 id,.int .i64 par,.int .i64 at_,.string tx,.int .i64 x.id,.int .i64 x.kind,.string x.text,.slice sa sn sc]) rfl ?_ ?_
 · exact ua6
 simp only[Act.put,pg]
 refine rd [0] ?_
 refine AcQ (o:=_) rfl (fun K hK=>?_) AnQ
 rw[ipQ ug8]
 simp only[pg3]
 have HK:=hH hK
 have HS:=hH eH
 clear hK eH
 have HZ:Hid (U.drew.heap[w.heap.size+1+1]? =some (.cells #[.int .i8 0,.int .i64 0,.int .i64 0,.int .i64 0,.string ⟨#[]⟩,.int .i64 0,.int .i64 0,.string ⟨#[]⟩,.slice none 0 0] 44 (0,0))):=hH HT.out.2.2.1
 go_wp2_with (go_at_call 70;refine (jQ _).mono ?_;rintro e w5 ⟨rfl,hb5⟩;have HZ5:=hH ((hb5.block _ (lohQ HZ.out)).trans HZ.out);have HS5:=hH (HS.out.then hb5);clear hb5;unfold invV)
 refine HK.out _ _ HS5.out (fun eH=>?_)
 clear HK HS HZ
 refine tJ (i:=3) (.func (.func 88) #[] #[]) rfl ?_ ?_
 · clear eH;intro X hSw;have hix:=zeQ X;clear hSw;go_simp
 simp only[Act.put,pg]
 refine rd [6] ?_
 refine AcQ (o:=_) rfl (fun K hK=>?_) AnQ
 rw[ipQ ug8]
 simp only[pg3]
 have HK:=hH hK
 have HS:=hH eH
 clear hK eH
 go_wp2_with (go_at_call 88;refine (HFN.out _ (NltQ HT.out.2.2.2.2.size HS.out.size) (fun y hy=>(HS.out.block y ue1 om).trans (HT.out.2.2.2.2.block y hy))).mono ?_;rintro e w6 ⟨_,rfl,⟨ma,mc,rfl,hmc,hmk⟩,hb6⟩;have HZ6:=hH ((hb6.block _ (lohQ HZ5.out)).trans HZ5.out);have HS6:=hH (HS.out.then hb6);have HM:=hH (aN hmc (aN hmk (show w.heap.size+3≤w5.heap.size from NltQ HT.out.2.2.2.1 HS.out.size)));clear hmc hmk hb6)
 refine HK.out _ _ HS6.out (fun eH=>?_)
 clear HK HS HS5 HZ5
 refine rd [7] ?_
 refine AcQ (o:=_) rfl (fun K hK=>?_) AnQ
 rw[ipQ ug8]
 simp only[pg3]
 have HK:=hH hK
 have HS:=hH eH
 clear hK eH
 have hpl:Calls Tryz.prog 69 #[.agg #[.int .i8 4,.int .i64 id,.int .i64 0,.int .i64 0,.string u.text,.int .i64 0,.int .i64 0,.string ⟨#[]⟩,.slice ma 0 mc]] w6 (qQ w6 (fun y=>S y∨w.heap.size+3≤y) s):=by
  rw[HLIT.out]
  exact zj5 _ _ _ _ _ _ _ _ _ _ _ _
 exact sa2
end Go.Proofs.YtgkmmnihaiopaaaGreat
