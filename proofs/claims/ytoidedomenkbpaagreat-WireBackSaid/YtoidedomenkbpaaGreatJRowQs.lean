/-
  .
-/
import Derived.Test.YtoidedomenkbpaaGreatJFoldRQs
set_option maxRecDepth 100000
set_option maxHeartbeats 40000000
set_option linter.unusedVariables false
set_option linter.unusedSimpArgs false
namespace Go.Proofs.YtoidedomenkbpaaGreat
open Go.RowKit Go.Shelf
def ZB (w:World)(x:SV):Prop:=ZA w x.s.sub.kids x.a x.c
theorem ZB.at {w X:World}{x:SV}(h:ZB w x)(hb:Below w.heap.size w X):kT X (fun q=>q<w.heap.size) (.agg #[.int .i64 x.s.sub.id,.int .i64 x.s.sub.kind,.string x.s.sub.text,.slice x.a (foLen x.s.sub.kids) x.c]) x.s.sub:=ZA.at h hb
theorem zb0 (w X0:World)(x:SV)(h:ZB X0 x)(hb:Below X0.heap.size X0 w)(hs:Yy x.s):
 Calls Tryz.prog 95 #[x.v] w fun e w'=>e= .returned (.int .i64 (Zu x.s:Int))∧Below w.heap.size w w':=by
 obtain⟨sn,hsn⟩:∃sn,sn=foLen x.s.sub.kids:=⟨_,rfl⟩
 obtain⟨B,hB⟩:∃B,B=w.alloc (.cells #[.int .i8 x.s.op,.int .i64 x.s.id,.int .i64 x.s.par,.int .i64 x.s.at_,.string x.s.tx,.int .i64 x.s.sub.id,.int .i64 x.s.sub.kind,.string x.s.sub.text,.slice x.a sn x.c] 41):=⟨_,rfl⟩
 have hbw:Below w.heap.size w B:=by rw[hB];exact jh _ _
 have hs0:B.heap[w.heap.size]? =some (.cells #[.int .i8 x.s.op,.int .i64 x.s.id,.int .i64 x.s.par,.int .i64 x.s.at_,.string x.s.tx,.int .i64 x.s.sub.id,.int .i64 x.s.sub.kind,.string x.s.sub.text,.slice x.a sn x.c] 41 (0,0)):=by rw[hB];exact hanQ _ _
 have hb2:=hb.trans (hbw.mono hb.size)
 have hn:=zf1 B (fun q=>q<X0.heap.size) x.s.sub x.s.op x.s.id x.s.par x.s.at_ x.s.tx x.a sn x.c (fun y hy=>nL hy hb2.size) (by rw[hsn];exact h.at hb2) (by have:=hs.size;omega) hs.op
 have hv:x.v= .agg #[.int .i8 x.s.op,.int .i64 x.s.id,.int .i64 x.s.par,.int .i64 x.s.at_,.string x.s.tx,.int .i64 x.s.sub.id,.int .i64 x.s.sub.kind,.string x.s.sub.text,.slice x.a sn x.c]:=by rw[hsn];rfl
 rw[hv]
 obtain⟨m0,m1,m2,m3,m4,m5,m6,m7,m8⟩:=Zt hs0
 have HN:=hH hn
 have HB:=hH (aN hbw hB)
 have HS:=hH hs
 have hob:=QR hs.op
 clear hn hbw hB hs0 hb2 h hb hs hv hsn
 go_enter Tryz.func95,Tryz.ntmps95
 go_upto_region 1 with fail
 rw[←HB.out.2]
 by_cases h1:x.s.op=1
 · have hb1:(x.s.op != 1)=false:=by simpa using h1
   have HI:=hH (show (ZY x.s.op x.s.id x.s.par x.s.sub).length=Zu x.s+1∧Zu x.s≤2000 by
    rw[ZY,ipQ h1,Zu,ipQ h1,LlcQ,Zg];exact⟨rfl,HS.out.size⟩)
   clear h1 hob
   go_wp2_with fail
   refine HN.out.mono ?_
   rintro e w2 ⟨a,c,rfl,_,hb2⟩
   rw[HI.out.1]
   have HB2:=hH (HB.out.1.trans (hb2.mono HB.out.1.size))
   obtain⟨n,hn⟩:∃n,n=Zu x.s:=⟨_,rfl⟩
   rw[←hn] at HI ⊢
   have HNN:=hH hn
   have hnw:IntKind.i64.wrap (((n+1:Nat):Int) - 1)=(n:Int):=by rw[IntWalk.i64_in _ (by have:=HI.out.2;omega)];omega
   obtain⟨m,hm⟩:∃m,m=n+1:=⟨_,rfl⟩
   rw[←hm] at hnw ⊢
   clear hb2 hn hm
   go_wp2_with fail
   go_ret
   rw[←HNN.out]
   exact⟨rfl,HB2.out⟩
 · have hb1:(x.s.op != 1)=true:=by simpa using h1
   have HI:=hH (show Zu x.s=0 by rw[Zu,inQ h1])
   clear h1 hob
   go_wp2_with fail
   go_ret
   rw[HI.out]
   exact⟨rfl,HB.out.1⟩
def zgB (w:World)(p q n:Int)(e:Ending)(w' :World):Prop:=∃(p' q' m:Int),e= .returned (.tuple #[.agg #[.int .i64 p',.int .i64 q'],.int .i64 m])∧Below w.heap.size w w'∧((m=0∧p'=p - 1∧q'=q - n∧0≤p - 1∧0≤q - n)∨(m=3∧(p - 1<0∨q - n<0)))
theorem kW {fn:Func}(h:fn.results= #[.cell 4 128,.tmp 5]){w W:World}{tmps:Array Value}{p q n p' q' m:Int}{g:Nat}(hb:Below w.heap.size w W)(hz:W.heap[g]? =some (.cells #[.int .i64 p',.int .i64 q'] 128 (0,0)))(hc:(m=0∧p'=p - 1∧q'=q - n∧0≤p - 1∧0≤q - n)∨(m=3∧(p - 1<0∨q - n<0)))
 (h1:tmps.getD 4 undef= .pointer (some ⟨g,0,none⟩)) (h2:tmps.getD 5 undef= .int .i64 m):bodyPost Tryz.prog fn (zgB w p q n) .ret { tmps,defers:=[] } W:=by
 refine brQ (zaW h tmps W g 128 _ _ _ (.int .i64 m) h1 hz Tryz.underlying128 rfl kr1 h2) rfl ?_
 exact⟨p',q',m,rfl,hb,hc⟩
theorem zea (w X0:World)(x:SV)(p q:Int)(h:ZB X0 x)(hb:Below X0.heap.size X0 w)(hs:Yy x.s)(hp:0≤p∧p≤60)(hq:0≤q∧q≤200):
 Calls Tryz.prog 94 #[.agg #[.int .i64 p,.int .i64 q],x.v] w (zgB w p q (Zu x.s:Int)):=by
 obtain⟨sn,hsn⟩:∃sn,sn=foLen x.s.sub.kids:=⟨_,rfl⟩
 have hv:x.v= .agg #[.int .i8 x.s.op,.int .i64 x.s.id,.int .i64 x.s.par,.int .i64 x.s.at_,.string x.s.tx,.int .i64 x.s.sub.id,.int .i64 x.s.sub.kind,.string x.s.sub.text,.slice x.a sn x.c]:=by rw[hsn];rfl
 have hni:Zu x.s≤2000:=by have:=hs.size;unfold Zu;split<;>omega
 obtain⟨n,hn⟩:∃n:Int,n=(Zu x.s:Int):=⟨_,rfl⟩
 have hn2:0≤n∧n≤2000:=by omega
 obtain⟨B,hB⟩:∃B,B=zU w [.cells #[.int .i64 p,.int .i64 q] 128,.cells #[.int .i8 x.s.op,.int .i64 x.s.id,.int .i64 x.s.par,.int .i64 x.s.at_,.string x.s.tx,.int .i64 x.s.sub.id,.int .i64 x.s.sub.kind,.string x.s.sub.text,.slice x.a sn x.c] 41,.cells #[.int .i64 0,.int .i64 0] 128]:=⟨_,rfl⟩
 have hbw:Below w.heap.size w B:=by rw[hB];exact zR _ _
 have hsz:B.heap.size=w.heap.size+3:=by rw[hB];exact qV _ _
 have e0:B.heap[w.heap.size]? =some (.cells #[.int .i64 p,.int .i64 q] 128 (0,0)):=by rw[hB];exact zD _ _ 0 _ rfl
 have e1:B.heap[w.heap.size+1]? =some (.cells #[.int .i8 x.s.op,.int .i64 x.s.id,.int .i64 x.s.par,.int .i64 x.s.at_,.string x.s.tx,.int .i64 x.s.sub.id,.int .i64 x.s.sub.kind,.string x.s.sub.text,.slice x.a sn x.c] 41 (0,0)):=by rw[hB];exact zD _ _ 1 _ rfl
 have e2:B.heap[w.heap.size+1+1]? =some (.cells #[.int .i64 0,.int .i64 0] 128 (0,0)):=by rw[hB];exact zD _ _ 2 _ rfl
 obtain⟨p1,hp1⟩:∃p1,p1=p - 1:=⟨_,rfl⟩
 obtain⟨q1,hq1⟩:∃q1,q1=q - n:=⟨_,rfl⟩
 have hw1:IntKind.i64.wrap (p - 1)=p1:=by rw[hp1];exact IntWalk.i64_in _ om1
 have hw2:IntKind.i64.wrap (q - n)=q1:=by rw[hq1];exact IntWalk.i64_in _ om1
 obtain⟨W1,hW1,r1,r2,r3,r4,r5,r6⟩:=one_set (i:=0) (u:= .int .i64 p1) e0
 have r1' :W1.heap[w.heap.size]? =some (.cells #[.int .i64 p1,.int .i64 q] 128 (0,0)):=by simpa using r1
 have hb1:Below w.heap.size w W1:=⟨r3.trans hbw.os,r4.trans hbw.tape,r5.trans hbw.output,by rw[r6];exact hbw.size,fun y hy=>(r2 y om1).trans (hbw.block y hy)⟩
 have f1:W1.heap[w.heap.size+1]? =some (.cells #[.int .i8 x.s.op,.int .i64 x.s.id,.int .i64 x.s.par,.int .i64 x.s.at_,.string x.s.tx,.int .i64 x.s.sub.id,.int .i64 x.s.sub.kind,.string x.s.sub.text,.slice x.a sn x.c] 41 (0,0)):=(r2 _ om1).trans e1
 have f2:W1.heap[w.heap.size+1+1]? =some (.cells #[.int .i64 0,.int .i64 0] 128 (0,0)):=(r2 _ om1).trans e2
 have hc:∀X,Below W1.heap.size W1 X→X.cell? ⟨w.heap.size,0,none⟩=some (.int .i64 p1)∧X.cell? ⟨w.heap.size,1,none⟩=some (.int .i64 q)∧ue3 X (w.heap.size+1) x.s.op x.s.id x.s.par x.s.at_ x.s.tx x.s.sub.id x.s.sub.kind x.s.sub.text x.a sn x.c:=fun X hX=>
  ⟨(YI ((hX.block _ (lohQ r1')).trans r1')).1,(YI ((hX.block _ (lohQ r1')).trans r1')).2,Zt ((hX.block _ (lohQ f1)).trans f1)⟩
 have hi:∀X,Below W1.heap.size W1 X→Calls Tryz.prog 95 #[.agg #[.int .i8 x.s.op,.int .i64 x.s.id,.int .i64 x.s.par,.int .i64 x.s.at_,.string x.s.tx,.int .i64 x.s.sub.id,.int .i64 x.s.sub.kind,.string x.s.sub.text,.slice x.a sn x.c]] X fun e w'=>e= .returned (.int .i64 n)∧Below X.heap.size X w':=fun X hX=>by
  rw[←hv,hn]
  exact zb0 X X0 x h ((hb.trans (hb1.mono hb.size)).trans (hX.mono (NltQ hb.size hb1.size))) hs
 rw[hv,←hn]
 have HC:=hH hc
 have HI:=hH hi
 have HE:=hH (aN hB (aN hW1 (aN hb1 (aN r1' f2))))
 have HP:=hH (aN hp1 hq1)
 have HF:=hH f1
 obtain⟨z0,z1⟩:=YI e0
 have zf:B.frozen? ⟨w.heap.size,0,none⟩=false:=forQ _ _ 0 _ _ e0
 clear hc hi hB hW1 hb1 r1 r1' f1 f2 r2 r3 r4 r5 r6 hbw hsz e0 e1 e2 hp1 hq1 h hb hs hp hq hn2 hni hn hv hsn
 go_enter Tryz.func94,Tryz.ntmps94
 go_upto_region 1 with fail
 change Code.wp _ _ _ _ (zU w [.cells #[.int .i64 p,.int .i64 q] 128,.cells #[.int .i8 x.s.op,.int .i64 x.s.id,.int .i64 x.s.par,.int .i64 x.s.at_,.string x.s.tx,.int .i64 x.s.sub.id,.int .i64 x.s.sub.kind,.string x.s.sub.text,.slice x.a sn x.c] 41,.cells #[.int .i64 0,.int .i64 0] 128])
 rw[←HE.out.1]
 go_upto_region 2 with fail
 rw[←HE.out.2.1]
 clear z0 z1 zf
 have hst:∀X,za W1 X (fun y=>y=w.heap.size)→ue3 X (w.heap.size+1) x.s.op x.s.id x.s.par x.s.at_ x.s.tx x.s.sub.id x.s.sub.kind x.s.sub.text x.a sn x.c:=fun X hX=>Zt ((hX.block _ (lohQ HF.out) om1).trans HF.out)
 have HST:=hH hst
 clear hst
 refine wrhQ (S:=fun X=>za W1 X (fun y=>y=w.heap.size)) kr1 (za.refl _ _).drew (fun eH=>?_)
 refine tJ (i:=0) (.pointer (some ⟨w.heap.size,1,none⟩)) rfl ?_ ?_
 · exact ua6
 simp only[Act.put,pg]
 refine tJ (i:=2) (.agg #[.int .i8 x.s.op,.int .i64 x.s.id,.int .i64 x.s.par,.int .i64 x.s.at_,.string x.s.tx,.int .i64 x.s.sub.id,.int .i64 x.s.sub.kind,.string x.s.sub.text,.slice x.a sn x.c]) rfl ?_ ?_
 · exact ua6
 simp only[Act.put,pg]
 refine rd1 [1,3] ?_
 refine AcQ (o:=_) rfl (fun K hK=>?_) (AcQ (o:=_) rfl (fun K hK=>?_) AnQ)
 · skip
   rw[ipQ ue1]
   simp only[pg3]
   have HK:=hH hK
   have HS:=hH eH
   clear hK eH
   obtain⟨_,k1,_⟩:=HC.out W1 (BrQ _ _)
   go_wp2_with fail
   refine HK.out _ _ HS.out (fun eH=>?_)
   clear HK HS k1
   refine rd1 [3] ?_
   refine AcQ (o:=_) rfl (fun K hK=>?_) AnQ
   rw[ipQ ue1]
   simp only[pg3]
   have HK:=hH hK
   have HS:=hH eH
   clear hK eH
   go_wp2_with (go_at_call 95;refine (HI.out _ (below_drewN (BrQ _ W1) 1)).mono ?_;rintro e w4 ⟨rfl,hib⟩;have HIB:=hH ((below_drewN (BrQ _ W1) 1).trans hib);clear hib)
   refine HK.out _ _ ⟨HIB.out.os,HIB.out.tape,HIB.out.output,HIB.out.size,fun y h1 _=>HIB.out.block y h1⟩ (fun eH=>?_)
   clear HK HS
   exact sa9
 · skip
   rw[ipQ ue1]
   simp only[pg3]
   have HK:=hH hK
   have HS:=hH eH
   clear hK eH
   go_wp2_with (go_at_call 95;refine (HI.out _ (below_drewN (BrQ _ W1) 1)).mono ?_;rintro e w4 ⟨rfl,hib⟩;have HIB:=hH ((below_drewN (BrQ _ W1) 1).trans hib);clear hib)
   refine HK.out _ _ ⟨HIB.out.os,HIB.out.tape,HIB.out.output,HIB.out.size,fun y h1 _=>HIB.out.block y h1⟩ (fun eH=>?_)
   clear HK HS
   refine rd1 [1] ?_
   refine AcQ (o:=_) rfl (fun K hK=>?_) AnQ
   rw[ipQ ue1]
   simp only[pg3]
   have HK:=hH hK
   have HS:=hH eH
   clear hK eH
   obtain⟨_,k1,_⟩:=HC.out w4 HIB.out
   go_wp2_with fail
   refine HK.out _ _ HS.out (fun eH=>?_)
   clear HK HS k1
   exact sa9
structure Row (w:World) (a:Option Addr) (vs:List SV):Prop where
 cells:zfB w (fun q=>q<w.heap.size) a vs
 lies:∀x∈vs,ZB w x
 fit:∀x∈vs,Yy x.s
 len:vs.length≤1000000
theorem Row.on {w X:World}{a:Option Addr}{vs:List SV}(h:Row w a vs)(hb:Below w.heap.size w X):Row X a vs:=
 ⟨h.cells.kept fun y hy=>⟨nL hy hb.size,hb.block y hy⟩,fun x hx=>ZA.on (h.lies x hx) hb,h.fit,h.len⟩
structure RowsIn (X:World) (NB R:Nat) (rs:List RH):Prop where
 box:X.heap[NB]? =some (.cells #[.slice (some ⟨R,0,none⟩) rs.length rs.length] 133 (0,0))
 head:X.heap[R]? =some (.cells (rs.map RH.v).toArray 22 (0,0))
 rows:∀r∈rs,Row X r.a r.vs
 few:rs.length≤2
theorem RowsIn.j {X:World}{NB R:Nat}{rs:List RH}(h:RowsIn X NB R rs):Ql X NB R rs (fun q=>q<X.heap.size):=
 ⟨h.box,h.head,lohQ h.box,lohQ h.head,fun _ hy=>hy,fun i r hr=>(h.rows r (List.mem_of_getElem? hr)).cells⟩
theorem zdi:∀{rs:List RH} {x:SV},x∈flat rs→∃r∈rs,x∈r.vs
 | [],x,h=>by simp[flat] at h
 | r ::rs,x,h=>by
   rw[flat,List.mem_append] at h
   rcases h with h | h
   · exact⟨r,List.mem_cons_self ..,h⟩
   · obtain⟨q,h1,h2⟩:=zdi h
     exact⟨q,List.mem_cons_of_mem _ h1,h2⟩
theorem zg7 {X:World}{NB R:Nat}{rs:List RH}(h:RowsIn X NB R rs):(flat rs).length≤2000000:=by
 obtain⟨_,_,h3,h4⟩:=h
 match rs,h3,h4 with
 | [],_,_=>simp[flat]
 | [r],h3,_=>have:=(h3 r sp).len;simp[flat];omega
 | [r,q],h3,_=>have:=(h3 r sp).len;have:=(h3 q sp).len;simp[flat];omega
 | _::_::_::_,_,h4=>simp at h4
theorem RowsIn.lies {X:World}{NB R:Nat}{rs:List RH}(h:RowsIn X NB R rs){x:SV}(hx:x∈flat rs):ZB X x∧Yy x.s:=by
 obtain⟨r,h1,h2⟩:=zdi hx
 exact⟨(h.rows r h1).lies x h2,(h.rows r h1).fit x h2⟩
theorem ZI {l:List Sf}{k:Nat}{s:Sf}(h:l[k]? =some s):qg (l.take (k+1))=qg (l.take k)+Zu s:=by
 rw[List.take_add_one,h,Zv]
 simp[qg]
theorem zak (l:List Sf)(k:Nat):qg (l.take k)≤qg l:=by
 conv=>rhs;rw[←List.take_append_drop k l,Zv]
 omega
def steps (vs:List SV):List Sf:=vs.map SV.s
theorem Qz {vs:List SV}{k:Nat}{x:SV}(h:vs[k]? =some x):(steps vs)[k]? =some x.s:=by rw[steps,List.getElem?_map,h];rfl
theorem jY (vs:List SV):(steps vs).length=vs.length:=by simp[steps]
def YJ (l:List Sf):Int:=if zbt l=true then 0 else 3
def zlm (X:World)(l:List Sf)(k:Nat)(v:RV)(V:World):Prop:=Below X.heap.size X V∧v.i=60 - (k:Int)∧v.k=200 - (qg (l.take k):Int)∧k≤60∧qg (l.take k)≤200
def zln (X:World)(l:List Sf)(k:Nat)(v:RV)(n:Int)(V:World):Prop:=Below X.heap.size X V∧n=3∧zbt l=false
theorem zfN {X:World}{NB R:Nat}{rs:List RH}(h:RowsIn X NB R rs):DoQ Tryz.prog 94 #[] X.heap.size (fun q=>q<X.heap.size) (flat rs) (zlm X (steps (flat rs))) (zln X (steps (flat rs))):=by
 refine⟨enters_of Tryz.func94 kr1 rfl,?_,?_,?_⟩
 · rintro k v V V' ⟨h1,h2⟩ ht
   exact sf0
 · rintro k v n V V' ⟨h1,h2⟩ ht
   exact sf0
 · rintro k x v W hx hW ⟨hb,hi,hk,hk60,hs⟩
   obtain⟨hl,hf⟩:=h.lies (List.mem_of_getElem? hx)
   have hxs:=Qz hx
   rw[Array.append_empty]
   refine (zea W X x v.i v.k hl hb hf om1 om1).mono ?_
   rintro e W' ⟨p',q',m,rfl,hb2,hc⟩
   refine⟨⟨p',q'⟩,m,rfl,hb2.size,fun q hq=>hb2.block q (by rcases hq with hq | hq;have:=hb.size;omega;omega),fun hm=>?_,fun hm=>?_⟩
   · rcases hc with ⟨_,rfl,rfl,h1,h2⟩ | ⟨h1,_⟩
     · have hq:=ZI hxs
       exact⟨hb.trans (hb2.mono hb.size),by show v.i - 1=_;omega,by show v.k - _=_;rw[hq];omega,by omega,by rw[hq];omega⟩
     · omega
   · rcases hc with ⟨h1,_⟩ | ⟨rfl,h1⟩
     · exact absurd h1 hm
     · refine⟨hb.trans (hb2.mono hb.size),rfl,?_⟩
       rw[Bool.eq_false_iff]
       intro ho
       rw[YC] at ho
       have hq:=ZI hxs
       have h3:=zak (steps (flat rs)) (k+1)
       have h4:=(List.getElem?_eq_some_iff.1 hxs).1
       rcases h1 with h1 | h1<;>omega
theorem zgV (X:World)(NB R:Nat)(rs:List RH)(h:RowsIn X NB R rs):
 Calls Tryz.prog 39 #[.func (.func 96) #[] #[.pointer (some ⟨NB,0,none⟩)]] X fun e w'=>e= .returned (.int .i64 (YJ (steps (flat rs))))∧Below X.heap.size X w':=by
 have hf:=zfT X NB R ⟨60,200⟩ (zfN h) h.j (by have:=h.few;omega) (fun r hr=>(h.rows r hr).len) (by have:=zg7 h;omega) ⟨BrQ _ _,by simp,by simp[qg],by omega,by simp[qg]⟩
 have hf2:Calls Tryz.prog 93 #[.agg #[.int .i64 60,.int .i64 200],.func (.func 96) #[] #[.pointer (some ⟨NB,0,none⟩)],.func (.func 94) #[] #[]] X fun e w'=>∃(p q k:Int),e= .returned (.tuple #[.agg #[.int .i64 p,.int .i64 q],.int .i64 k,.int .i64 (YJ (steps (flat rs)))])∧Below X.heap.size X w':=hf.mono (by
  rintro e w' ⟨k,v,n,rfl,hh⟩
  rcases hh with ⟨rfl,rfl,h1⟩ | ⟨_,_,h1,h2,h3⟩
  · have ho:zbt (steps (flat rs))=true:=by
     rw[YC,jY]
     have:=h1.2.2.2.2
     rw[List.take_of_length_le (by rw[jY];exact NlrQ _)] at this
     exact⟨h1.2.2.2.1,this⟩
    exact⟨v.i,v.k,_,by rw[YJ,ipQ ho];rfl,h1.1⟩
  · exact⟨v.i,v.k,_,by rw[YJ,inQ (by rw[h3];exact Bool.false_ne_true),h2];rfl,h1⟩)
 obtain⟨c,hc⟩:∃c,c=YJ (steps (flat rs)):=⟨_,rfl⟩
 rw[←hc] at hf2 ⊢
 have HF:=hH hf2
 clear hf hf2 hc h
 go_enter Tryz.func39,Tryz.ntmps39
 go_wp2_with fail
 refine HF.out.mono ?_
 rintro e w2 ⟨p,q,k,rfl,hb⟩
 have HB:=hH (hb.trans ((jh w2 (.cells #[.int .i64 p,.int .i64 q] 128)).mono hb.size))
 clear hb HF
 go_wp2_with fail
 go_ret
 exact⟨rfl,HB.out⟩
theorem zeE {X:World}{a:Option Addr}{c:Nat}{vs:List SV}{NB R:Nat}(h:Row X a vs)(h1:X.heap[NB]? =some (.cells #[.slice (some ⟨R,0,none⟩) 1 1] 133 (0,0)))(h2:X.heap[R]? =some (.cells #[.slice a vs.length c] 22 (0,0))):RowsIn X NB R [⟨a,c,vs⟩]:=
 ⟨h1,h2,fun r hr=>by rw[List.mem_singleton] at hr;subst hr;exact h,by simp⟩
theorem zg8 (a:Option Addr)(c:Nat)(vs:List SV):flat [⟨a,c,vs⟩]=vs:=by simp[flat]
theorem zfx (w:World)(a:Option Addr)(n c:Nat)(vs:List SV)(hn:n=vs.length)(h:Row w a vs):
 Calls Tryz.prog 88 #[.slice a n c] w fun e w'=>e= .returned (.int .i64 (YJ (steps vs)))∧Below w.heap.size w w':=by
 obtain⟨X,hX⟩:∃X,X=zU w [.cells #[.slice a n c] 22,.cells #[.slice (some ⟨w.heap.size,0,none⟩) 1 1] 133]:=⟨_,rfl⟩
 have hb:Below w.heap.size w X:=by rw[hX];exact zR _ _
 have e0:X.heap[w.heap.size]? =some (.cells #[.slice a n c] 22 (0,0)):=by rw[hX];exact zD _ _ 0 _ rfl
 have e1:X.heap[w.heap.size+1]? =some (.cells #[.slice (some ⟨w.heap.size,0,none⟩) 1 1] 133 (0,0)):=by rw[hX];exact zD _ _ 1 _ rfl
 have hc:=zgV X (w.heap.size+1) w.heap.size _ (zeE (c:=c) (h.on hb) e1 (by rw[←hn];exact e0))
 rw[zg8] at hc
 have HC:=hH hc
 have HX:=hH hX
 have HB:=hH hb
 obtain⟨m,hm⟩:∃m,m=YJ (steps vs):=⟨_,rfl⟩
 rw[←hm] at HC ⊢
 clear hc hX hb e0 e1 hm h hn
 go_enter Tryz.func88,Tryz.ntmps88
 go_wp2_with (go_at_call 40;refine (zfV _ _ _ _).mono ?_;rintro e w2 ⟨rfl,rfl⟩)
 change Calls _ _ _ (zU w [.cells #[.slice a n c] 22,.cells #[.slice (some ⟨w.heap.size,0,none⟩) 1 1] 133]) _
 rw[←HX.out]
 refine HC.out.mono ?_
 rintro e w3 ⟨rfl,hb3⟩
 have HB3:=hH (HB.out.trans (hb3.mono HB.out.size))
 clear hb3 HC HX
 go_wp2_with fail
 go_ret
 exact⟨rfl,HB3.out⟩
end Go.Proofs.YtoidedomenkbpaaGreat
