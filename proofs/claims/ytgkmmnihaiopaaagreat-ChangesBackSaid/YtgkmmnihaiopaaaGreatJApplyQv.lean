/-
  .
-/
import Derived.Test.YtgkmmnihaiopaaaGreatJFoldRQv
set_option maxRecDepth 100000
set_option maxHeartbeats 40000000
set_option linter.unusedVariables false
set_option linter.unusedSimpArgs false
namespace Go.Proofs.YtgkmmnihaiopaaaGreat
open Go.RowKit Go.Shelf
def ZL (w:World)(x:SV):Prop:=yR w x.s.sub.kids x.a x.c
theorem ZL.at {w X:World}{x:SV}(h:ZL w x)(hb:Below w.heap.size w X):zG X (fun q=>q<w.heap.size) (.agg #[.int .i64 x.s.sub.id,.int .i64 x.s.sub.kind,.string x.s.sub.text,.slice x.a (foLen x.s.sub.kids) x.c]) x.s.sub:=yR.at h hb
theorem zcq (w X0:World)(x:SV)(h:ZL X0 x)(hb:Below X0.heap.size X0 w)(hs:vo x.s):
 Calls Tryz.prog 61 #[x.v] w fun e w'=>e= .returned (.int .i64 (YD x.s:Int))∧Below w.heap.size w w':=by
 obtain⟨sn,hsn⟩:∃sn,sn=foLen x.s.sub.kids:=⟨_,rfl⟩
 obtain⟨B,hB⟩:∃B,B=w.alloc (.cells #[.int .i8 x.s.op,.int .i64 x.s.id,.int .i64 x.s.par,.int .i64 x.s.at_,.string x.s.tx,.int .i64 x.s.sub.id,.int .i64 x.s.sub.kind,.string x.s.sub.text,.slice x.a sn x.c] 44):=⟨_,rfl⟩
 have hbw:Below w.heap.size w B:=by rw[hB];exact zg _ _
 have hs0:B.heap[w.heap.size]? =some (.cells #[.int .i8 x.s.op,.int .i64 x.s.id,.int .i64 x.s.par,.int .i64 x.s.at_,.string x.s.tx,.int .i64 x.s.sub.id,.int .i64 x.s.sub.kind,.string x.s.sub.text,.slice x.a sn x.c] 44 (0,0)):=by rw[hB];exact hanQ _ _
 have hb2:=hb.trans (hbw.mono hb.size)
 have hn:=zgq B (fun q=>q<X0.heap.size) x.s.sub x.s.op x.s.id x.s.par x.s.at_ x.s.tx x.a sn x.c (fun y hy=>nL hy hb2.size) (by rw[hsn];exact h.at hb2) (by have:=hs.size;omega) hs.op
 have hv:x.v= .agg #[.int .i8 x.s.op,.int .i64 x.s.id,.int .i64 x.s.par,.int .i64 x.s.at_,.string x.s.tx,.int .i64 x.s.sub.id,.int .i64 x.s.sub.kind,.string x.s.sub.text,.slice x.a sn x.c]:=by rw[hsn];rfl
 rw[hv]
 obtain⟨m0,m1,m2,m3,m4,m5,m6,m7,m8⟩:=yL hs0
 have HN:=hH hn
 have HB:=hH (aN hbw hB)
 have HS:=hH hs
 have hob:=QV hs.op
 clear hn hbw hB hs0 hb2 h hb hs hv hsn
 go_enter Tryz.func61,Tryz.ntmps61
 go_upto_region 1 with fail
 rw[←HB.out.2]
 by_cases h1:x.s.op=1
 · have hb1:(x.s.op != 1)=false:=by simpa using h1
   have HI:=hH (show (ZC x.s.op x.s.id x.s.par x.s.sub).length=YD x.s+1∧YD x.s≤250 by
    rw[ZC,ipQ h1,YD,ipQ h1,LlcQ,q9];exact⟨rfl,HS.out.size⟩)
   clear h1 hob
   go_wp2_with fail
   refine HN.out.mono ?_
   rintro e w2 ⟨a,c,rfl,_,hb2⟩
   rw[HI.out.1]
   have HB2:=hH (HB.out.1.trans (hb2.mono HB.out.1.size))
   obtain⟨n,hn⟩:∃n,n=YD x.s:=⟨_,rfl⟩
   rw[←hn] at HI ⊢
   have HNN:=hH hn
   have hnw:IntKind.i64.wrap (((n+1:Nat):Int) - 1)=(n:Int):=by rw[IntWalk.i64_in _ (by have:=HI.out.2;omega)];omega
   obtain⟨m,hm⟩:∃m,m=n+1:=⟨_,rfl⟩
   rw[←hm] at hnw ⊢
   clear hb2 hn hm
   go_wp2_with fail
   go_ret
   rw[←HNN.out]
   exact⟨rfl,HB2.out⟩
 · have hb1:(x.s.op != 1)=true:=by simpa using h1
   have HI:=hH (show YD x.s=0 by rw[YD,inQ h1])
   clear h1 hob
   go_wp2_with fail
   go_ret
   rw[HI.out]
   exact⟨rfl,HB.out.1⟩
def zg0 (w:World)(p q n:Int)(e:Ending)(w' :World):Prop:=∃(p' q' m:Int),e= .returned (.tuple #[.agg #[.int .i64 p',.int .i64 q'],.int .i64 m])∧Below w.heap.size w w'∧((m=0∧p'=p - 1∧q'=q - n∧0≤p - 1∧0≤q - n)∨(m=3∧(p - 1<0∨q - n<0)))
theorem jW {fn:Func}(h:fn.results= #[.cell 4 99,.tmp 5]){w W:World}{tmps:Array Value}{p q n p' q' m:Int}{g:Nat}(hb:Below w.heap.size w W)(hz:W.heap[g]? =some (.cells #[.int .i64 p',.int .i64 q'] 99 (0,0)))(hc:(m=0∧p'=p - 1∧q'=q - n∧0≤p - 1∧0≤q - n)∨(m=3∧(p - 1<0∨q - n<0)))
 (h1:tmps.getD 4 undef= .pointer (some ⟨g,0,none⟩)) (h2:tmps.getD 5 undef= .int .i64 m):bodyPost Tryz.prog fn (zg0 w p q n) .ret { tmps,defers:=[] } W:=by
 refine brQ (yA h tmps W g 99 _ _ _ (.int .i64 m) h1 hz Tryz.underlying99 rfl kr1 h2) rfl ?_
 exact⟨p',q',m,rfl,hb,hc⟩
theorem zey (w X0:World)(x:SV)(p q:Int)(h:ZL X0 x)(hb:Below X0.heap.size X0 w)(hs:vo x.s)(hp:0≤p∧p≤60)(hq:0≤q∧q≤200):
 Calls Tryz.prog 60 #[.agg #[.int .i64 p,.int .i64 q],x.v] w (zg0 w p q (YD x.s:Int)):=by
 obtain⟨sn,hsn⟩:∃sn,sn=foLen x.s.sub.kids:=⟨_,rfl⟩
 have hv:x.v= .agg #[.int .i8 x.s.op,.int .i64 x.s.id,.int .i64 x.s.par,.int .i64 x.s.at_,.string x.s.tx,.int .i64 x.s.sub.id,.int .i64 x.s.sub.kind,.string x.s.sub.text,.slice x.a sn x.c]:=by rw[hsn];rfl
 have hni:YD x.s≤250:=by have:=hs.size;unfold YD;split<;>omega
 obtain⟨n,hn⟩:∃n:Int,n=(YD x.s:Int):=⟨_,rfl⟩
 have hn2:0≤n∧n≤250:=by omega
 obtain⟨B,hB⟩:∃B,B=zl w [.cells #[.int .i64 p,.int .i64 q] 99,.cells #[.int .i8 x.s.op,.int .i64 x.s.id,.int .i64 x.s.par,.int .i64 x.s.at_,.string x.s.tx,.int .i64 x.s.sub.id,.int .i64 x.s.sub.kind,.string x.s.sub.text,.slice x.a sn x.c] 44,.cells #[.int .i64 0,.int .i64 0] 99]:=⟨_,rfl⟩
 have hbw:Below w.heap.size w B:=by rw[hB];exact zi _ _
 have hsz:B.heap.size=w.heap.size+3:=by rw[hB];exact zw _ _
 have e0:B.heap[w.heap.size]? =some (.cells #[.int .i64 p,.int .i64 q] 99 (0,0)):=by rw[hB];exact ze _ _ 0 _ rfl
 have e1:B.heap[w.heap.size+1]? =some (.cells #[.int .i8 x.s.op,.int .i64 x.s.id,.int .i64 x.s.par,.int .i64 x.s.at_,.string x.s.tx,.int .i64 x.s.sub.id,.int .i64 x.s.sub.kind,.string x.s.sub.text,.slice x.a sn x.c] 44 (0,0)):=by rw[hB];exact ze _ _ 1 _ rfl
 have e2:B.heap[w.heap.size+1+1]? =some (.cells #[.int .i64 0,.int .i64 0] 99 (0,0)):=by rw[hB];exact ze _ _ 2 _ rfl
 obtain⟨p1,hp1⟩:∃p1,p1=p - 1:=⟨_,rfl⟩
 obtain⟨q1,hq1⟩:∃q1,q1=q - n:=⟨_,rfl⟩
 have hw1:IntKind.i64.wrap (p - 1)=p1:=by rw[hp1];exact IntWalk.i64_in _ om
 have hw2:IntKind.i64.wrap (q - n)=q1:=by rw[hq1];exact IntWalk.i64_in _ om
 obtain⟨W1,hW1,r1,r2,r3,r4,r5,r6⟩:=one_set (i:=0) (u:= .int .i64 p1) e0
 have r1' :W1.heap[w.heap.size]? =some (.cells #[.int .i64 p1,.int .i64 q] 99 (0,0)):=by simpa using r1
 have hb1:Below w.heap.size w W1:=⟨r3.trans hbw.os,r4.trans hbw.tape,r5.trans hbw.output,by rw[r6];exact hbw.size,fun y hy=>(r2 y om).trans (hbw.block y hy)⟩
 have f1:W1.heap[w.heap.size+1]? =some (.cells #[.int .i8 x.s.op,.int .i64 x.s.id,.int .i64 x.s.par,.int .i64 x.s.at_,.string x.s.tx,.int .i64 x.s.sub.id,.int .i64 x.s.sub.kind,.string x.s.sub.text,.slice x.a sn x.c] 44 (0,0)):=(r2 _ om).trans e1
 have f2:W1.heap[w.heap.size+1+1]? =some (.cells #[.int .i64 0,.int .i64 0] 99 (0,0)):=(r2 _ om).trans e2
 have hc:∀X,Below W1.heap.size W1 X→X.cell? ⟨w.heap.size,0,none⟩=some (.int .i64 p1)∧X.cell? ⟨w.heap.size,1,none⟩=some (.int .i64 q)∧uh0 X (w.heap.size+1) x.s.op x.s.id x.s.par x.s.at_ x.s.tx x.s.sub.id x.s.sub.kind x.s.sub.text x.a sn x.c:=fun X hX=>
  ⟨(kQ ((hX.block _ (lohQ r1')).trans r1')).1,(kQ ((hX.block _ (lohQ r1')).trans r1')).2,yL ((hX.block _ (lohQ f1)).trans f1)⟩
 have hi:∀X,Below W1.heap.size W1 X→Calls Tryz.prog 61 #[.agg #[.int .i8 x.s.op,.int .i64 x.s.id,.int .i64 x.s.par,.int .i64 x.s.at_,.string x.s.tx,.int .i64 x.s.sub.id,.int .i64 x.s.sub.kind,.string x.s.sub.text,.slice x.a sn x.c]] X fun e w'=>e= .returned (.int .i64 n)∧Below X.heap.size X w':=fun X hX=>by
  rw[←hv,hn]
  exact zcq X X0 x h ((hb.trans (hb1.mono hb.size)).trans (hX.mono (NltQ hb.size hb1.size))) hs
 rw[hv,←hn]
 have HC:=hH hc
 have HI:=hH hi
 have HE:=hH (aN hB (aN hW1 (aN hb1 (aN r1' f2))))
 have HP:=hH (aN hp1 hq1)
 have HF:=hH f1
 obtain⟨z0,z1⟩:=kQ e0
 have zf:B.frozen? ⟨w.heap.size,0,none⟩=false:=forQ _ _ 0 _ _ e0
 clear hc hi hB hW1 hb1 r1 r1' f1 f2 r2 r3 r4 r5 r6 hbw hsz e0 e1 e2 hp1 hq1 h hb hs hp hq hn2 hni hn hv hsn
 go_enter Tryz.func60,Tryz.ntmps60
 go_upto_region 1 with fail
 change Code.wp _ _ _ _ (zl w [.cells #[.int .i64 p,.int .i64 q] 99,.cells #[.int .i8 x.s.op,.int .i64 x.s.id,.int .i64 x.s.par,.int .i64 x.s.at_,.string x.s.tx,.int .i64 x.s.sub.id,.int .i64 x.s.sub.kind,.string x.s.sub.text,.slice x.a sn x.c] 44,.cells #[.int .i64 0,.int .i64 0] 99])
 rw[←HE.out.1]
 go_upto_region 2 with fail
 rw[←HE.out.2.1]
 clear z0 z1 zf
 have hst:∀X,zh W1 X (fun y=>y=w.heap.size)→uh0 X (w.heap.size+1) x.s.op x.s.id x.s.par x.s.at_ x.s.tx x.s.sub.id x.s.sub.kind x.s.sub.text x.a sn x.c:=fun X hX=>yL ((hX.block _ (lohQ HF.out) om).trans HF.out)
 have HST:=hH hst
 clear hst
 refine wrhQ (S:=fun X=>zh W1 X (fun y=>y=w.heap.size)) kr1 (zh.refl _ _).drew (fun eH=>?_)
 refine tJ (i:=0) (.pointer (some ⟨w.heap.size,1,none⟩)) rfl ?_ ?_
 · exact ua8
 simp only[Act.put,pg]
 refine tJ (i:=2) (.agg #[.int .i8 x.s.op,.int .i64 x.s.id,.int .i64 x.s.par,.int .i64 x.s.at_,.string x.s.tx,.int .i64 x.s.sub.id,.int .i64 x.s.sub.kind,.string x.s.sub.text,.slice x.a sn x.c]) rfl ?_ ?_
 · exact ua8
 simp only[Act.put,pg]
 refine rd [1,3] ?_
 refine AcQ (o:=_) rfl (fun K hK=>?_) (AcQ (o:=_) rfl (fun K hK=>?_) AnQ)
 · skip
   rw[ipQ ug8]
   simp only[pg3]
   have HK:=hH hK
   have HS:=hH eH
   clear hK eH
   obtain⟨_,k1,_⟩:=HC.out W1 (BrQ _ _)
   go_wp2_with fail
   refine HK.out _ _ HS.out (fun eH=>?_)
   clear HK HS k1
   refine rd [3] ?_
   refine AcQ (o:=_) rfl (fun K hK=>?_) AnQ
   rw[ipQ ug8]
   simp only[pg3]
   have HK:=hH hK
   have HS:=hH eH
   clear hK eH
   go_wp2_with (go_at_call 61;refine (HI.out _ (below_drewN (BrQ _ W1) 1)).mono ?_;rintro e w4 ⟨rfl,hib⟩;have HIB:=hH ((below_drewN (BrQ _ W1) 1).trans hib);clear hib)
   refine HK.out _ _ ⟨HIB.out.os,HIB.out.tape,HIB.out.output,HIB.out.size,fun y h1 _=>HIB.out.block y h1⟩ (fun eH=>?_)
   clear HK HS
   exact sa8
 · skip
   rw[ipQ ug8]
   simp only[pg3]
   have HK:=hH hK
   have HS:=hH eH
   clear hK eH
   go_wp2_with (go_at_call 61;refine (HI.out _ (below_drewN (BrQ _ W1) 1)).mono ?_;rintro e w4 ⟨rfl,hib⟩;have HIB:=hH ((below_drewN (BrQ _ W1) 1).trans hib);clear hib)
   refine HK.out _ _ ⟨HIB.out.os,HIB.out.tape,HIB.out.output,HIB.out.size,fun y h1 _=>HIB.out.block y h1⟩ (fun eH=>?_)
   clear HK HS
   refine rd [1] ?_
   refine AcQ (o:=_) rfl (fun K hK=>?_) AnQ
   rw[ipQ ug8]
   simp only[pg3]
   have HK:=hH hK
   have HS:=hH eH
   clear hK eH
   obtain⟨_,k1,_⟩:=HC.out w4 HIB.out
   go_wp2_with fail
   refine HK.out _ _ HS.out (fun eH=>?_)
   clear HK HS k1
   exact sa8
structure Row (w:World) (a:Option Addr) (vs:List SV):Prop where
 cells:zfV w (fun q=>q<w.heap.size) a vs
 lies:∀x∈vs,ZL w x
 fit:∀x∈vs,vo x.s
 len:vs.length≤1000000
theorem Row.on {w X:World}{a:Option Addr}{vs:List SV}(h:Row w a vs)(hb:Below w.heap.size w X):Row X a vs:=
 ⟨h.cells.kept fun y hy=>⟨nL hy hb.size,hb.block y hy⟩,fun x hx=>yR.on (h.lies x hx) hb,h.fit,h.len⟩
structure RowsIn (X:World) (NB R:Nat) (rs:List RH):Prop where
 box:X.heap[NB]? =some (.cells #[.slice (some ⟨R,0,none⟩) rs.length rs.length] 76 (0,0))
 head:X.heap[R]? =some (.cells (rs.map RH.v).toArray 28 (0,0))
 rows:∀r∈rs,Row X r.a r.vs
 few:rs.length≤2
theorem RowsIn.j {X:World}{NB R:Nat}{rs:List RH}(h:RowsIn X NB R rs):ZN X NB R rs (fun q=>q<X.heap.size):=
 ⟨h.box,h.head,lohQ h.box,lohQ h.head,fun _ hy=>hy,fun i r hr=>(h.rows r (List.mem_of_getElem? hr)).cells⟩
theorem zdz:∀{rs:List RH} {x:SV},x∈flat rs→∃r∈rs,x∈r.vs
 | [],x,h=>by simp[flat] at h
 | r ::rs,x,h=>by
   rw[flat,List.mem_append] at h
   rcases h with h | h
   · exact⟨r,List.mem_cons_self ..,h⟩
   · obtain⟨q,h1,h2⟩:=zdz h
     exact⟨q,List.mem_cons_of_mem _ h1,h2⟩
theorem zdc {X:World}{NB R:Nat}{rs:List RH}(h:RowsIn X NB R rs):(flat rs).length≤2000000:=by
 obtain⟨_,_,h3,h4⟩:=h
 match rs,h3,h4 with
 | [],_,_=>simp[flat]
 | [r],h3,_=>have:=(h3 r sp1).len;simp[flat];omega
 | [r,q],h3,_=>have:=(h3 r sp1).len;have:=(h3 q sp1).len;simp[flat];omega
 | _::_::_::_,_,h4=>simp at h4
theorem RowsIn.lies {X:World}{NB R:Nat}{rs:List RH}(h:RowsIn X NB R rs){x:SV}(hx:x∈flat rs):ZL X x∧vo x.s:=by
 obtain⟨r,h1,h2⟩:=zdz hx
 exact⟨(h.rows r h1).lies x h2,(h.rows r h1).fit x h2⟩
theorem jm {l:List Sf}{k:Nat}{s:Sf}(h:l[k]? =some s):qC (l.take (k+1))=qC (l.take k)+YD s:=by
 rw[List.take_add_one,h,kS]
 simp[qC]
theorem Yf (l:List Sf)(k:Nat):qC (l.take k)≤qC l:=by
 conv=>rhs;rw[←List.take_append_drop k l,kS]
 omega
def steps (vs:List SV):List Sf:=vs.map SV.s
theorem zba {vs:List SV}{k:Nat}{x:SV}(h:vs[k]? =some x):(steps vs)[k]? =some x.s:=by rw[steps,List.getElem?_map,h];rfl
theorem vR (vs:List SV):(steps vs).length=vs.length:=by simp[steps]
def Ql (l:List Sf):Int:=if ve l=true then 0 else 3
def zkI (X:World)(l:List Sf)(k:Nat)(v:RV)(V:World):Prop:=Below X.heap.size X V∧v.i=60 - (k:Int)∧v.k=200 - (qC (l.take k):Int)∧k≤60∧qC (l.take k)≤200
def zkJ (X:World)(l:List Sf)(k:Nat)(v:RV)(n:Int)(V:World):Prop:=Below X.heap.size X V∧n=3∧ve l=false
theorem zf9 {X:World}{NB R:Nat}{rs:List RH}(h:RowsIn X NB R rs):DoQ Tryz.prog 60 #[] X.heap.size (fun q=>q<X.heap.size) (flat rs) (zkI X (steps (flat rs))) (zkJ X (steps (flat rs))):=by
 refine⟨enters_of Tryz.func60 kr1 rfl,?_,?_,?_⟩
 · rintro k v V V' ⟨h1,h2⟩ ht
   exact sh7
 · rintro k v n V V' ⟨h1,h2⟩ ht
   exact sh7
 · rintro k x v W hx hW ⟨hb,hi,hk,hk60,hs⟩
   obtain⟨hl,hf⟩:=h.lies (List.mem_of_getElem? hx)
   have hxs:=zba hx
   rw[Array.append_empty]
   refine (zey W X x v.i v.k hl hb hf om om).mono ?_
   rintro e W' ⟨p',q',m,rfl,hb2,hc⟩
   refine⟨⟨p',q'⟩,m,rfl,hb2.size,fun q hq=>hb2.block q (by rcases hq with hq | hq;have:=hb.size;omega;omega),fun hm=>?_,fun hm=>?_⟩
   · rcases hc with ⟨_,rfl,rfl,h1,h2⟩ | ⟨h1,_⟩
     · have hq:=jm hxs
       exact⟨hb.trans (hb2.mono hb.size),by show v.i - 1=_;omega,by show v.k - _=_;rw[hq];omega,by omega,by rw[hq];omega⟩
     · omega
   · rcases hc with ⟨h1,_⟩ | ⟨rfl,h1⟩
     · exact absurd h1 hm
     · refine⟨hb.trans (hb2.mono hb.size),rfl,?_⟩
       rw[Bool.eq_false_iff]
       intro ho
       rw[Yv] at ho
       have hq:=jm hxs
       have h3:=Yf (steps (flat rs)) (k+1)
       have h4:=(List.getElem?_eq_some_iff.1 hxs).1
       rcases h1 with h1 | h1<;>omega
theorem zhB (X:World)(NB R:Nat)(rs:List RH)(h:RowsIn X NB R rs):
 Calls Tryz.prog 42 #[.func (.func 43) #[] #[.pointer (some ⟨NB,0,none⟩)]] X fun e w'=>e= .returned (.int .i64 (Ql (steps (flat rs))))∧Below X.heap.size X w':=by
 have hf:=zgh X NB R ⟨60,200⟩ (zf9 h) h.j (by have:=h.few;omega) (fun r hr=>(h.rows r hr).len) (by have:=zdc h;omega) ⟨BrQ _ _,by simp,by simp[qC],by omega,by simp[qC]⟩
 have hf2:Calls Tryz.prog 59 #[.agg #[.int .i64 60,.int .i64 200],.func (.func 43) #[] #[.pointer (some ⟨NB,0,none⟩)],.func (.func 60) #[] #[]] X fun e w'=>∃(p q k:Int),e= .returned (.tuple #[.agg #[.int .i64 p,.int .i64 q],.int .i64 k,.int .i64 (Ql (steps (flat rs)))])∧Below X.heap.size X w':=hf.mono (by
  rintro e w' ⟨k,v,n,rfl,hh⟩
  rcases hh with ⟨rfl,rfl,h1⟩ | ⟨_,_,h1,h2,h3⟩
  · have ho:ve (steps (flat rs))=true:=by
     rw[Yv,vR]
     have:=h1.2.2.2.2
     rw[List.take_of_length_le (by rw[vR];exact NlrQ _)] at this
     exact⟨h1.2.2.2.1,this⟩
    exact⟨v.i,v.k,_,by rw[Ql,ipQ ho];rfl,h1.1⟩
  · exact⟨v.i,v.k,_,by rw[Ql,inQ (by rw[h3];exact Bool.false_ne_true),h2];rfl,h1⟩)
 obtain⟨c,hc⟩:∃c,c=Ql (steps (flat rs)):=⟨_,rfl⟩
 rw[←hc] at hf2 ⊢
 have HF:=hH hf2
 clear hf hf2 hc h
 go_enter Tryz.func42,Tryz.ntmps42
 go_wp2_with fail
 refine HF.out.mono ?_
 rintro e w2 ⟨p,q,k,rfl,hb⟩
 have HB:=hH (hb.trans ((zg w2 (.cells #[.int .i64 p,.int .i64 q] 99)).mono hb.size))
 clear hb HF
 go_wp2_with fail
 go_ret
 exact⟨rfl,HB.out⟩
theorem za3 {X:World}{a:Option Addr}{c:Nat}{vs:List SV}{NB R:Nat}(h:Row X a vs)(h1:X.heap[NB]? =some (.cells #[.slice (some ⟨R,0,none⟩) 1 1] 76 (0,0)))(h2:X.heap[R]? =some (.cells #[.slice a vs.length c] 28 (0,0))):RowsIn X NB R [⟨a,c,vs⟩]:=
 ⟨h1,h2,fun r hr=>by rw[List.mem_singleton] at hr;subst hr;exact h,by simp⟩
theorem jb (a:Option Addr)(c:Nat)(vs:List SV):flat [⟨a,c,vs⟩]=vs:=by simp[flat]
theorem zbs (w:World)(a:Option Addr)(n c:Nat)(vs:List SV)(hn:n=vs.length)(h:Row w a vs):
 Calls Tryz.prog 21 #[.slice a n c] w fun e w'=>e= .returned (.int .i64 (Ql (steps vs)))∧Below w.heap.size w w':=by
 obtain⟨X,hX⟩:∃X,X=zl w [.cells #[.slice a n c] 28,.cells #[.slice (some ⟨w.heap.size,0,none⟩) 1 1] 76]:=⟨_,rfl⟩
 have hb:Below w.heap.size w X:=by rw[hX];exact zi _ _
 have e0:X.heap[w.heap.size]? =some (.cells #[.slice a n c] 28 (0,0)):=by rw[hX];exact ze _ _ 0 _ rfl
 have e1:X.heap[w.heap.size+1]? =some (.cells #[.slice (some ⟨w.heap.size,0,none⟩) 1 1] 76 (0,0)):=by rw[hX];exact ze _ _ 1 _ rfl
 have hc:=zhB X (w.heap.size+1) w.heap.size _ (za3 (c:=c) (h.on hb) e1 (by rw[←hn];exact e0))
 rw[jb] at hc
 have HC:=hH hc
 have HX:=hH hX
 have HB:=hH hb
 obtain⟨m,hm⟩:∃m,m=Ql (steps vs):=⟨_,rfl⟩
 rw[←hm] at HC ⊢
 clear hc hX hb e0 e1 hm h hn
 go_enter Tryz.func21,Tryz.ntmps21
 go_wp2_with (go_at_call 23;refine (Zf _ _ _ _).mono ?_;rintro e w2 ⟨rfl,rfl⟩)
 change Calls _ _ _ (zl w [.cells #[.slice a n c] 28,.cells #[.slice (some ⟨w.heap.size,0,none⟩) 1 1] 76]) _
 rw[←HX.out]
 refine HC.out.mono ?_
 rintro e w3 ⟨rfl,hb3⟩
 have HB3:=hH (HB.out.trans (hb3.mono HB.out.size))
 clear hb3 HC HX
 go_wp2_with fail
 go_ret
 exact⟨rfl,HB3.out⟩
def zkQ (N0:Nat)(q:Nat):Prop:=N0≤q∧q<N0+7
structure JX (w:World) (GB:Nat) (g:Gr) (ga:Option Addr) (gc:Nat):Prop where
 box:w.heap[GB]? =some (.cells #[.slice ga g.kinds.length gc,.int .i64 g.root] 24 (0,0))
 all:∀Y,Below w.heap.size w Y→GrV Y (.agg #[.slice ga g.kinds.length gc,.int .i64 g.root]) g
 few:g.few
theorem JX.on {w X:World}{GB:Nat}{g:Gr}{ga:Option Addr}{gc:Nat}(h:JX w GB g ga gc)(hb:Below w.heap.size w X):JX X GB g ga gc:=
 ⟨(hb.block _ (lohQ h.box)).trans h.box,fun Y hY=>h.all Y (hb.trans (hY.mono hb.size)),h.few⟩
def IsN (V:World)(E:Nat→Prop)(v:NV)(x:Tr):Prop:=v.i=x.id∧v.k=x.kind∧v.tx=x.text∧v.n=foLen x.kids∧zS V E x.kids v.a v.c
theorem zbz {X V V' :World}(h:Below X.heap.size X V)(ht:zh V V' (fun x=>X.heap.size≤x∧x<X.heap.size+7)):Below X.heap.size X V':=
 ⟨ht.os.trans h.os,ht.tape.trans h.tape,ht.output.trans h.output,NltQ h.size ht.size,fun q hq=>(ht.block q (nL hq h.size) om).trans (h.block q hq)⟩
def zcS (N0:Nat)(E0:Nat→Prop)(q:Nat):Prop:=zkQ N0 q∨E0 q
theorem zS.own {N0:Nat}{E0:Nat→Prop}{V V' :World}{f:Fo}{a:Option Addr}{c:Nat}(h:zS V (zcS N0 E0) f a c)(ht:zh V V' (fun x=>N0≤x∧x<N0+7)):zS V' (zcS N0 E0) f a c:=
 ⟨h.1,h.2.kept fun q hq=>⟨⟨nL hq.1 ht.size,hq.2⟩,ht.block q hq.1 (fun hn=>hq.2 (Or.inl hn))⟩⟩
def ApJ (X:World)(E0:Nat→Prop)(g:Gr)(t:Tr)(l:List Sf)(k:Nat)(v:NV)(V:World):Prop:=Below X.heap.size X V∧∃x,goT g t (l.take k)=some x∧Way x∧IsN V (zcS X.heap.size E0) v x
def ApX (X:World)(E0:Nat→Prop)(g:Gr)(t:Tr)(l:List Sf)(k:Nat)(v:NV)(n:Int)(V:World):Prop:=Below X.heap.size X V∧(∃x s,goT g t (l.take k)=some x∧l[k]? =some s∧(doK g (s.on x)).2=n)∧∃x,IsN V (zcS X.heap.size E0) v x
theorem zeu (g:Gr)(r:Tr×Int):zV (doK g r)=(doK g r).1:=by
 unfold zV doK
 by_cases h1:r.2=0
 · rw[ipQ h1]
   by_cases h2:(qG g r.1).2=0
   · rw[ipQ h2,ipQ rfl]
   · rw[inQ h2,inQ h2]
 · rw[inQ h1,inQ h1]
theorem zf8 {Y0 X:World}{E0:Nat→Prop}{g:Gr}{t:Tr}{ga:Option Addr}{gc GB:Nat}{rs:List RH}(hY:Below Y0.heap.size Y0 X)(h:∀x∈flat rs,ZL Y0 x∧vo x.s)(hE0:∀q,E0 q→Y0.heap.size≤q∧q<X.heap.size)(hg:JX X GB g ga gc):DoN Tryz.prog 24 #[.pointer (some ⟨GB,0,none⟩)] X.heap.size (fun q=>q<X.heap.size) (flat rs) (ApJ X E0 g t (steps (flat rs))) (ApX X E0 g t (steps (flat rs))):=by
 refine⟨enters_of Tryz.func24 kr1 rfl,?_,?_,?_⟩
 · rintro k v V V' ⟨h1,x,h2,h3,h4,h5,h6,h7,h8⟩ ht
   exact⟨zbz h1 ht,x,h2,h3,h4,h5,h6,h7,h8.own ht⟩
 · rintro k v n V V' ⟨h1,h2,x,h4,h5,h6,h7,h8⟩ ht
   exact⟨zbz h1 ht,h2,x,h4,h5,h6,h7,h8.own ht⟩
 · rintro k x v W hx hW ⟨hb,y,hy,hwy,h4,h5,h6,h7,h8⟩
   obtain⟨hl,hf⟩:=h x (List.mem_of_getElem? hx)
   have hxs:=zba hx
   have hGW:=hg.on hb
   have hE:∀q,zcS X.heap.size E0 q→q<W.heap.size:=fun q hq=>by rcases hq with hq | hq;have:=hq.2;omega;have:=(hE0 q hq).2;omega
   have hd:=doN (E:=zcS X.heap.size E0) hE hGW.box hGW.all hGW.few h8 (yR.n hl (BrQ _ _) (fun q hq=>by rcases hq with hq | hq;have:=hq.1;have:=hY.size;omega;exact (hE0 q hq).1)) (hY.trans (hb.mono hY.size)) hwy hf h7
   rw[show v.v= .agg #[.int .i64 y.id,.int .i64 y.kind,.string y.text,.slice v.a v.n v.c] by rw[NV.v,h4,h5,h6]]
   refine hd.mono ?_
   rintro e W' ⟨va,vc,rfl,hlv,hb2⟩
   rw[zeu] at hlv ⊢
   refine⟨⟨_,_,_,va,_,vc⟩,_,rfl,hb2.size,fun q hq=>hb2.block q (by rcases hq with hq | hq;have:=hb.size;omega;omega),fun hm=>?_,fun hm=>?_⟩
   · refine⟨hb.trans (hb2.mono hb.size),_,?_,zix hf hwy hm,rfl,rfl,rfl,rfl,hlv⟩
     rw[List.take_add_one,hxs]
     exact zhT hy hm
   · exact⟨hb.trans (hb2.mono hb.size),⟨y,x.s,hy,hxs,rfl⟩,y,h4,h5,h6,h7,h8.on hb2⟩
theorem zhR {X:World}{E0:Nat→Prop}{g:Gr}{t:Tr}{l:List Sf}{len:Nat}{e:Ending}{w' :World}(hl:len=l.length)(h:zkk len (ApJ X E0 g t l) (ApX X E0 g t l) e w'):∃v:NV,e= .returned (.tuple #[v.v,.int .i64 ((vE g t l).2.1:Int),.int .i64 (vE g t l).2.2])∧Below X.heap.size X w'∧((vE g t l).2.2=0→IsN w' (zcS X.heap.size E0) v (vE g t l).1)∧∃x,IsN w' (zcS X.heap.size E0) v x:=by
 obtain⟨k,v,n,rfl,hh⟩:=h
 subst hl
 rcases hh with ⟨rfl,rfl,hb,x,h1,h2,h3⟩ | ⟨hn,hk,hb,⟨x,s,h1,h2,h3⟩,hx⟩
 · rw[List.take_length] at h1
   rw[zbH h1]
   exact⟨v,rfl,hb,fun _=>h3,x,h3⟩
 · rw[zau h1 h2 h3 hn]
   exact⟨v,rfl,hb,fun h=>absurd h hn,hx⟩
def ApO (r:Tr×Nat×Int)(X:World)(e:Ending)(W:World):Prop:=∃va vc,e= .returned (.tuple #[.agg #[.int .i64 r.1.id,.int .i64 r.1.kind,.string r.1.text,.slice va (foLen r.1.kids) vc],.int .i64 (r.2.1:Int),.int .i64 r.2.2])∧yR W r.1.kids va vc∧Below X.heap.size X W
def ApY (Y0:World)(r:Tr×Nat×Int)(X:World)(e:Ending)(W:World):Prop:=∃va vc,e= .returned (.tuple #[.agg #[.int .i64 r.1.id,.int .i64 r.1.kind,.string r.1.text,.slice va (foLen r.1.kids) vc],.int .i64 (r.2.1:Int),.int .i64 r.2.2])∧zS W (fun q=>Y0.heap.size≤q∧q<X.heap.size) r.1.kids va vc∧Below X.heap.size X W
def FY (Y0 w:World)(q:Nat):Prop:=Y0.heap.size≤q∧q<w.heap.size+3
theorem za1 {P:Program}{fn:Func}{p u v:Tmp}{ty:TypeId}(h:fn.results= #[.cell p ty,.tmp u,.tmp v])(tmps:Array Value)(w:World)(g:Nat)(t:TypeId)(cs:Array Value)(fr:Nat×Nat)(d:TypeDesc)(x y:Value)
 (hp:tmps.getD p undef= .pointer (some ⟨g,0,none⟩)) (hg:w.heap[g]? =some (.cells cs t fr)) (hu:P.underlying ty=some d) (hd:(match d with | .struct _ | .array _ _=>true | _=>false)=true) (hi:(P.info? ty).map (·.size)=some cs.size) (hp2:tmps.getD u undef=x) (hp3:tmps.getD v undef=y):
 (results fn tmps).run P w= .ok (.tuple #[.agg cs,x,y]) w:=by
 exact sf0
theorem zes {Y0:World}{fn:Func}(h:fn.results= #[.cell 6 27,.tmp 7,.tmp 8]){w W:World}{tmps:Array Value}{r:Tr×Nat×Int}{g m kc:Nat}{kb:Option Addr}(hb:Below w.heap.size w W)(hz:W.heap[g]? =some (.cells #[.int .i64 r.1.id,.int .i64 r.1.kind,.string r.1.text,.slice kb m kc] 27 (0,0)))(hm:m=foLen r.1.kids)(hl:zS W (fun q=>Y0.heap.size≤q∧q<w.heap.size) r.1.kids kb kc)
 (h1:tmps.getD 6 undef= .pointer (some ⟨g,0,none⟩)) (h2:tmps.getD 7 undef= .int .i64 (r.2.1:Int)) (h3:tmps.getD 8 undef= .int .i64 r.2.2):bodyPost Tryz.prog fn (ApY Y0 r w) .ret { tmps,defers:=[] } W:=by
 refine brQ (za1 h tmps W g 27 _ _ _ (.int .i64 (r.2.1:Int)) (.int .i64 r.2.2) h1 hz Tryz.underlying27 rfl kr1 h2 h3) rfl ?_
 exact⟨kb,kc,by rw[hm],hl,hb⟩
theorem zjx {X:World}{E:Nat→Prop}{t:Tr}{ta:Option Addr}{tn tc:Nat}(hE:∀q,E q→q<X.heap.size)(h:zS X E t.kids ta tc)(hn:tn=foLen t.kids)(hz:zb t.kids+1≤2000):Calls Tryz.prog 26 #[.agg #[.int .i64 t.id,.int .i64 t.kind,.string t.text,.slice ta tn tc]] X fun e W=>∃va vc,e= .returned (.agg #[.int .i64 t.id,.int .i64 t.kind,.string t.text,.slice va tn vc])∧zS W E t.kids va vc∧Below X.heap.size X W:=by
 subst hn
 have ht:zG X (fun x=>yj X x∧(x<X.heap.size∧¬E x)) (.agg #[.int .i64 t.id,.int .i64 t.kind,.string t.text,.slice ta (foLen t.kids) tc]) t:=⟨ta,tc,rfl,h.1,jl h.2⟩
 refine (vX X (fun x=>yj X x∧(x<X.heap.size∧¬E x)) _ t (fun x hx=>hx.1) ht om).mono ?_
 rintro e W ⟨v,rfl,⟨va,vc,rfl,hc,hf⟩,hb⟩
 exact⟨va,vc,rfl,⟨hc,hf.kept fun q hq=>⟨⟨hq.1.lt,fun he=>by rcases hq.2 with h | h;exact h.2.2 he;have:=hE q he;omega⟩,rfl⟩⟩,hb⟩
theorem zec (Y0 w:World)(g:Gr)(t:Tr)(ga ta la:Option Addr)(gn gc tn tc n c:Nat)(vs:List SV)(hY:Below Y0.heap.size Y0 w)(hgn:gn=g.kinds.length)(hg:∀Y,Below Y0.heap.size Y0 Y→GrV Y (.agg #[.slice ga g.kinds.length gc,.int .i64 g.root]) g)(hf:g.few)(htn:tn=foLen t.kids)(ht:yR Y0 t.kids ta tc)(hw:Way t)(hn:n=vs.length)(h:Row Y0 la vs):
 Calls Tryz.prog 10 #[.agg #[.slice ga gn gc,.int .i64 g.root],.agg #[.int .i64 t.id,.int .i64 t.kind,.string t.text,.slice ta tn tc],.slice la n c] w (ApY Y0 (apK g t (steps vs)) w):=by
 obtain⟨B,hB⟩:∃B,B=zl w [.cells #[.slice ga gn gc,.int .i64 g.root] 24,.cells #[.int .i64 t.id,.int .i64 t.kind,.string t.text,.slice ta tn tc] 27,.cells #[.int .i64 0,.int .i64 0,.string ⟨#[]⟩,.slice none 0 0] 27]:=⟨_,rfl⟩
 have hb:Below w.heap.size w B:=by rw[hB];exact zi _ _
 have hsz:B.heap.size=w.heap.size+3:=by rw[hB];exact zw _ _
 have e0:B.heap[w.heap.size]? =some (.cells #[.slice ga gn gc,.int .i64 g.root] 24 (0,0)):=by rw[hB];exact ze _ _ 0 _ rfl
 have e1:B.heap[w.heap.size+1]? =some (.cells #[.int .i64 t.id,.int .i64 t.kind,.string t.text,.slice ta tn tc] 27 (0,0)):=by rw[hB];exact ze _ _ 1 _ rfl
 have e2:B.heap[w.heap.size+1+1]? =some (.cells #[.int .i64 0,.int .i64 0,.string ⟨#[]⟩,.slice none 0 0] 27 (0,0)):=by rw[hB];exact ze _ _ 2 _ rfl
 have hgB:JX B w.heap.size g ga gc:=⟨by rw[←hgn];exact e0,fun Y hY2=>hg Y (hY.trans ((hb.trans (hY2.mono hb.size)).mono hY.size)),hf⟩
 have hck:=zbs B la n c vs hn (h.on (hY.trans (hb.mono hY.size)))
 have HCK:=hH hck
 have HT:=hH (aN htn (aN ht (aN hw (aN hn h))))
 have HB:=hH (aN hb (aN hsz (aN e1 e2)))
 have HG:=hH hgB
 have HBE:=hH hB
 have HYY:=hH hY
 obtain⟨m,hm⟩:∃m,m=Ql (steps vs):=⟨_,rfl⟩
 rw[←hm] at HCK
 have HM:=hH hm
 clear hY hb hsz e0 e1 e2 hgB hck hB hm htn ht hw hn h hg hf hgn
 go_enter Tryz.func10,Tryz.ntmps10
 go_wp2_with fail
 change Calls _ _ _ (zl w [.cells #[.slice ga gn gc,.int .i64 g.root] 24,.cells #[.int .i64 t.id,.int .i64 t.kind,.string t.text,.slice ta tn tc] 27,.cells #[.int .i64 0,.int .i64 0,.string ⟨#[]⟩,.slice none 0 0] 27]) _
 rw[←HBE.out]
 clear HBE
 refine HCK.out.mono ?_
 rintro e W1 ⟨rfl,hb1⟩
 have HB1:=hH hb1
 clear hb1 HCK
 by_cases hm0:m=0
 · have ho:ve (steps vs)=true:=by
    have:=HM.out
    rw[hm0,Ql] at this
    by_cases h:ve (steps vs)=true
    · exact h
    · rw[inQ h] at this;cases this
   have HO:=hH ho
   subst hm0
   clear ho
   go_wp2_with fail
   obtain⟨RB,hRB⟩:∃RB,RB=w.heap.size+1+1:=⟨_,rfl⟩
   have hbw1:Below w.heap.size w W1:=HB.out.1.trans (HB1.out.mono HB.out.1.size)
   have e1:=(HB1.out.block _ (lohQ HB.out.2.2.1)).trans HB.out.2.2.1
   have e2:=(HB1.out.block _ (lohQ HB.out.2.2.2)).trans HB.out.2.2.2
   rw[←hRB] at e2 ⊢
   have hnc:∀X,zh W1 X (fun y=>y=RB)→ug9 X (w.heap.size+1) t.id t.kind t.text ta tn tc:=fun X hX=>zD ((hX.block _ (lohQ e1) om).trans e1)
   have HNC:=hH hnc
   have HE:=hH (aN hbw1 (aN e1 (aN e2 (aN hRB (show W1.heap.size≥w.heap.size+3 by have:=HB1.out.size;have:=HB.out.2.1;omega)))))
   clear hnc e1 e2 hbw1 hRB
   refine wrhQ (S:=fun X=>zh W1 X (fun y=>y=RB)) kr1 (zh.refl _ _).drew (fun eH=>?_)
   refine tJ (i:=0) (.agg #[.int .i64 t.id,.int .i64 t.kind,.string t.text,.slice ta tn tc]) rfl ?_ ?_
   · exact ua9
   simp only[Act.put,pg]
   refine tJ (i:=1) (.slice la n c) rfl ?_ ?_
   · exact ua9
   simp only[Act.put,pg]
   refine tJ (i:=4) (.func (.func 24) #[] #[.pointer (some ⟨w.heap.size,0,none⟩)]) rfl ?_ ?_
   · exact ua9
   simp only[Act.put,pg]
   refine rd [2] ?_
   refine AcQ (o:=_) rfl (fun K hK=>?_) AnQ
   rw[ipQ ug8]
   simp only[pg3]
   have HK:=hH hK
   have HS:=hH eH
   clear hK eH
   go_wp2_with fail
   obtain⟨WA,hWA⟩:∃WA,WA=(World.alloc W1 (.cells #[.slice la n c] 28)).drew:=⟨_,rfl⟩
   rw[←hWA]
   have hba:Below W1.heap.size W1 WA:=by rw[hWA];exact below_drewN (zg _ _) 1
   have hsa:WA.heap.size=W1.heap.size+1:=by rw[hWA];exact WsaQ _ _
   have hra:WA.heap[W1.heap.size]? =some (.cells #[.slice la n c] 28 (0,0)):=by rw[hWA];exact hanQ W1 _
   refine HK.out _ _ ⟨hba.os,hba.tape,hba.output,hba.size,fun y h1 _=>hba.block y h1⟩ (fun eH=>?_)
   have HA:=hH (aN hba (aN hsa hra))
   obtain⟨R,hR⟩:∃R,R=W1.heap.size:=⟨_,rfl⟩
   rw[←hR]
   have HR:=hH hR
   clear HK HS hWA hba hsa hra hR
   refine rd [3] ?_
   refine AcQ (o:=_) rfl (fun K hK=>?_) AnQ
   rw[ipQ ug8]
   simp only[pg3]
   have HK:=hH hK
   have HS:=hH eH
   clear hK eH
   go_wp2_with (go_at_call 23;refine (Zf _ _ _ _).mono ?_;rintro e w4 ⟨rfl,hw4⟩)
   have hb4:Below WA.heap.size WA w4:=by rw[←hw4];exact zg _ _
   have hn4:w4.heap[WA.heap.size]? =some (.cells #[.slice (some ⟨R,0,none⟩) 1 1] 76 (0,0)):=by rw[←hw4];exact hanQ _ _
   have hbw4:Below W1.heap.size W1 w4:=HA.out.1.trans (hb4.mono HA.out.1.size)
   have hr4:w4.heap[R]? =some (.cells #[.slice la vs.length c] 28 (0,0)):=by rw[HR.out,←HT.out.2.2.2.1];exact (hb4.block _ (by have:=HA.out.2.1;omega)).trans HA.out.2.2
   have hbz:Below w.heap.size w w4:=HE.out.1.trans (hbw4.mono HE.out.1.size)
   have hYz:=HYY.out.trans (hbz.mono HYY.out.size)
   have hrow:=za3 (HT.out.2.2.2.2.on hYz) hn4 hr4
   have hG4:=HG.out.on (HB1.out.trans (hbw4.mono HB1.out.size))
   have hDo:=zf8 (t:=t) (rs:=[⟨la,c,vs⟩]) (E0:=FY Y0 w) hYz (fun x hx=>by rw[jb] at hx;exact⟨HT.out.2.2.2.2.lies x hx,HT.out.2.2.2.2.fit x hx⟩) (fun q hq=>⟨hq.1,by have:=hq.2;have:=HE.out.2.2.2.2;have:=hbw4.size;omega⟩) hG4
   have hfo:=zbI w4 WA.heap.size R ⟨t.id,t.kind,t.text,ta,tn,tc⟩ hDo hrow.j sp1 (fun r hr=>(hrow.rows r hr).len) (by have:=zdc hrow;omega) ⟨BrQ _ _,t,rfl,HT.out.2.2.1,rfl,rfl,rfl,HT.out.1,yR.n HT.out.2.1 hYz (fun q hq=>by
    rcases hq with hq | hq
    · have:=hq.1;have:=hYz.size;omega
    · exact hq.1)⟩
   have hfo2:=hfo.mono (fun e w' h=>zhR (by rw[jb,vR]) h)
   rw[jb] at hfo2
   obtain⟨r,hr⟩:∃r,r=vE g t (steps vs):=⟨_,rfl⟩
   rw[←hr] at hfo2
   obtain⟨r1,hr1⟩:∃r1,r1=r.2.1:=⟨_,rfl⟩
   obtain⟨r2,hr2⟩:∃r2,r2=r.2.2:=⟨_,rfl⟩
   rw[←hr1,←hr2] at hfo2
   have HFO:=hH hfo2
   have HRR:=hH (aN hr (aN hr1 hr2))
   have HB4:=hH hbw4
   have HN4:=hH (show w4.heap.size≥w.heap.size+3 by have:=hbw4.size;have:=HE.out.2.2.2.2;omega)
   obtain⟨NB,hNB⟩:∃NB,NB=WA.heap.size:=⟨_,rfl⟩
   rw[←hNB] at HFO ⊢
   refine HK.out _ _ ⟨hbw4.os,hbw4.tape,hbw4.output,hbw4.size,fun y h1 _=>hbw4.block y h1⟩ (fun eH=>?_)
   clear HK HS hfo hfo2 hDo hG4 hrow hbz hr4 hbw4 hn4 hb4 hw4 hr hr1 hr2 hNB
   refine rd [5] ?_
   refine AcQ (o:=_) rfl (fun K hK=>?_) AnQ
   rw[ipQ ug8]
   simp only[pg3]
   have HK:=hH hK
   have HS:=hH eH
   clear hK eH
   go_wp2_with (go_at_call 22;refine HFO.out.mono ?_;rintro e w5 ⟨v,rfl,hb5,hv5,hv6⟩)
   obtain⟨i2,k2,x2,a2,n2,c2⟩:=v
   simp only[NV.v]
   have HB5:=hH (HB4.out.trans (hb5.mono HB4.out.size))
   have HV5:=hH (aN hv5 hv6)
   refine HK.out _ _ ⟨HB5.out.os,HB5.out.tape,HB5.out.output,HB5.out.size,fun y h1 _=>HB5.out.block y h1⟩ (fun eH=>?_)
   clear HK HS hb5 hv5 hv6
   refine tG (i:=6) (.tuple #[.agg #[.int .i64 i2,.int .i64 k2,.string x2,.slice a2 n2 c2],.int .i64 (r1:Int),.int .i64 r2]) rfl ?_
   simp only[Act.put,pg]
   refine tG (i:=7) (.agg #[.int .i64 i2,.int .i64 k2,.string x2,.slice a2 n2 c2]) rfl ?_
   simp only[Act.put,pg]
   refine tG (i:=8) (.int .i64 (r1:Int)) rfl ?_
   simp only[Act.put,pg]
   refine tG (i:=9) (.int .i64 r2) rfl ?_
   simp only[Act.put,pg]
   refine rd [10] ?_
   refine AcQ (o:=_) rfl (fun K hK=>?_) AnQ
   rw[ipQ ug8]
   simp only[pg3]
   have HK:=hH hK
   have HS:=hH eH
   clear hK eH
   have e5:=(HB5.out.block _ (lohQ HE.out.2.2.1)).trans HE.out.2.2.1
   obtain⟨z0,z1,z2,z3⟩:=zD e5
   have zf:∀j,w5.frozen? ⟨RB,j,none⟩=false:=fun j=>forQ _ _ j _ _ e5
   obtain⟨V,hV,s1,s2,s3,s4,s5,s6⟩:=zo (u0:= .int .i64 i2) (u1:= .int .i64 k2) (u2:= .string x2) (u3:= .slice a2 n2 c2) e5
   have hbV:Below w.heap.size w V:=by
    have hb:=HE.out.1.trans (HB5.out.mono HE.out.1.size)
    exact⟨s3.trans hb.os,s4.trans hb.tape,s5.trans hb.output,by rw[s6];exact hb.size,fun y hy=>(s2 y ue2).trans (hb.block y hy)⟩
   have htV:zh W1 V (fun y=>y=RB):=⟨s3.trans HB5.out.os,s4.trans HB5.out.tape,s5.trans HB5.out.output,by rw[s6];exact HB5.out.size,fun y h1 h2=>(s2 y h2).trans (HB5.out.block y h1)⟩
   have HVV:=hH (aN hV (aN s1 (aN s2 (aN s6 (aN hbV htV)))))
   clear hV s1 s2 s3 s4 s5 s6 hbV htV e5
   go_wp2_with fail
   rw[←HVV.out.1]
   refine HK.out _ _ HVV.out.2.2.2.2.2 (fun eH=>?_)
   clear HK HS z0 z1 z2 z3 zf
   refine tG (i:=11) (.int .i64 (r1:Int)) rfl ?_
   simp only[Act.put,pg]
   refine tG (i:=12) (.int .i64 r2) rfl ?_
   simp only[Act.put,pg]
   refine wpAnyH_done kr1 ?_ _
   clear eH
   by_cases hr0:r2=0
   · obtain⟨x,hx⟩:∃x,x=r.1:=⟨_,rfl⟩
     have HAP:=hH (show apK g t (steps vs)=(x,r1,r2) by rw[apK,ipQ HO.out,←HRR.out.1,←HRR.out.2.2,ipQ hr0,←HRR.out.2.1,←hx])
     obtain⟨h1,h2,h3,h4,h5⟩:=HV5.out.1 hr0
     rw[←hx] at h1 h2 h3 h4 h5
     simp only at h1 h2 h3 h4 h5
     subst h1 h2 h3
     have hRF:FY Y0 w RB:=⟨by have:=HE.out.2.2.2.1;have:=HYY.out.size;omega,by have:=HE.out.2.2.2.1;omega⟩
     have hlV:zS V (FY Y0 w) x.kids a2 c2:=⟨h5.1,h5.2.kept fun q hq=>⟨⟨by rw[HVV.out.2.2.2.1];exact hq.1,fun e=>hq.2 (Or.inr e)⟩,HVV.out.2.2.1 q (fun e=>hq.2 (Or.inr (e▸hRF)))⟩⟩
     have HRF:=hH hRF
     clear hRF
     have hway:Way x:=by rw[hx,HRR.out.1];exact ziy (fun s hs=>by obtain⟨y,hy,rfl⟩:=List.mem_map.1 hs;exact HT.out.2.2.2.2.fit y hy) HT.out.2.2.1 (zat (by rw[←HRR.out.1,←HRR.out.2.2];exact hr0)).1
     have HNN:=hH h4
     have hrb:(r2 != 0)=false:=by simpa using hr0
     have HLV:=hH (aN hlV hway)
     clear h4 h5 hlV hway hr0 hx
     obtain⟨y0,y1,y2,y3⟩:=zD HVV.out.2.1
     have HCP:=hH (zjx (E:=FY Y0 w) (fun q hq=>by have:=hq.2;have:=HE.out.2.2.2.2;have:=HVV.out.2.2.2.2.2.size;omega) HLV.out.1 HNN.out (by have:=HLV.out.2.size;omega))
     have HBW:=hH HVV.out.2.2.2.2.1
     have HRW:=hH HVV.out.2.1
     go_wp2_with fail
     refine HCP.out.mono ?_
     clear y0 y1 y2 y3
     rintro e w6 ⟨va,vc,rfl,hl6,hb6⟩
     have e6:=(hb6.block _ (lohQ HRW.out)).trans HRW.out
     have hb7:=HBW.out.trans (hb6.mono HBW.out.size)
     obtain⟨z0,z1,z2,z3⟩:=zD e6
     have zf:∀j,w6.frozen? ⟨RB,j,none⟩=false:=fun j=>forQ _ _ j _ _ e6
     obtain⟨U,hU,s1,s2,s3,s4,s5,s6⟩:=zo (u0:= .int .i64 x.id) (u1:= .int .i64 x.kind) (u2:= .string x.text) (u3:= .slice va n2 vc) e6
     have hlU:zS U (fun q=>Y0.heap.size≤q∧q<w.heap.size) x.kids va vc:=⟨hl6.1,hl6.2.kept fun q hq=>⟨⟨by rw[s6];exact hq.1,fun e=>hq.2 ⟨e.1,by have:=e.2;omega⟩⟩,s2 q (fun e=>hq.2 (e▸HRF.out))⟩⟩
     have HU:=hH (aN hU (aN s1 (aN s2 (aN s3 (aN s4 (aN s5 (aN s6 (aN hlU hb7))))))))
     clear hU s1 s2 s3 s4 s5 s6 hlU hb7 hb6 hl6 e6
     go_wp2_with fail
     rw[←HU.out.1]
     obtain⟨hU,s1,s2,s3,s4,s5,s6,hlU,hb7⟩:=HU.out
     exact zes rfl (r:=apK g t (steps vs)) ⟨s3.trans hb7.os,s4.trans hb7.tape,s5.trans hb7.output,by rw[s6];exact hb7.size,fun k hk=>(s2 k ue2).trans (hb7.block k hk)⟩ (by rw[HAP.out];exact s1) (by rw[HAP.out];exact HNN.out) (by rw[HAP.out];exact hlU) rfl ug2 ug2
   · have HAP:=hH (show apK g t (steps vs)=(t,r1,r2) by rw[apK,ipQ HO.out,←HRR.out.1,←HRR.out.2.2,inQ hr0,←HRR.out.2.1])
     have hrb:(r2 != 0)=true:=by simpa using hr0
     obtain⟨n0,n1,n2',n3⟩:=HNC.out V HVV.out.2.2.2.2.2
     obtain⟨z0,z1,z2,z3⟩:=zD HVV.out.2.1
     have zf:∀j,V.frozen? ⟨RB,j,none⟩=false:=fun j=>forQ _ _ j _ _ HVV.out.2.1
     obtain⟨V7,hV7,s1,s2,s3,s4,s5,s6⟩:=zo (u0:= .int .i64 t.id) (u1:= .int .i64 t.kind) (u2:= .string t.text) (u3:= .slice ta tn tc) HVV.out.2.1
     have hbv:=HVV.out.2.2.2.2.1
     have hb7:Below w.heap.size w V7:=⟨s3.trans hbv.os,s4.trans hbv.tape,s5.trans hbv.output,by rw[s6];exact hbv.size,fun k hk=>(s2 k ue2).trans (hbv.block k hk)⟩
     have H7:=hH (aN hV7 (aN s1 hb7))
     clear hV7 s1 s2 s3 s4 s5 s6 hb7 hbv hr0
     go_upto_region 7 with fail
     rw[←H7.out.1]
     clear n0 n1 n2' n3 z0 z1 z2 z3 zf
     obtain⟨y0,y1,y2,y3⟩:=zD H7.out.2.1
     have HRF:=hH (show FY Y0 w RB from⟨by have:=HE.out.2.2.2.1;have:=HYY.out.size;omega,by have:=HE.out.2.2.2.1;omega⟩)
     have HCP:=hH (zjx (E:=FY Y0 w) (fun q hq=>by have:=hq.2;have:=lohQ H7.out.2.1;have:=HE.out.2.2.2.1;omega) (yR.n HT.out.2.1 (HYY.out.trans (H7.out.2.2.mono HYY.out.size)) (fun q hq=>hq.1)) HT.out.1 (by have:=HT.out.2.2.1.size;omega))
     have HBW:=hH H7.out.2.2
     have HRW:=hH H7.out.2.1
     go_wp2_with fail
     refine HCP.out.mono ?_
     clear y0 y1 y2 y3
     rintro e w6 ⟨va,vc,rfl,hl6,hb6⟩
     have e6:=(hb6.block _ (lohQ HRW.out)).trans HRW.out
     have hb7:=HBW.out.trans (hb6.mono HBW.out.size)
     obtain⟨z0,z1,z2,z3⟩:=zD e6
     have zf:∀j,w6.frozen? ⟨RB,j,none⟩=false:=fun j=>forQ _ _ j _ _ e6
     obtain⟨U,hU,s1,s2,s3,s4,s5,s6⟩:=zo (u0:= .int .i64 t.id) (u1:= .int .i64 t.kind) (u2:= .string t.text) (u3:= .slice va tn vc) e6
     have hlU:zS U (fun q=>Y0.heap.size≤q∧q<w.heap.size) t.kids va vc:=⟨hl6.1,hl6.2.kept fun q hq=>⟨⟨by rw[s6];exact hq.1,fun e=>hq.2 ⟨e.1,by have:=e.2;omega⟩⟩,s2 q (fun e=>hq.2 (e▸HRF.out))⟩⟩
     have HU:=hH (aN hU (aN s1 (aN s2 (aN s3 (aN s4 (aN s5 (aN s6 (aN hlU hb7))))))))
     clear hU s1 s2 s3 s4 s5 s6 hlU hb7 hb6 hl6 e6
     go_wp2_with fail
     rw[←HU.out.1]
     obtain⟨hU,s1,s2,s3,s4,s5,s6,hlU,hb7⟩:=HU.out
     exact zes rfl (r:=apK g t (steps vs)) ⟨s3.trans hb7.os,s4.trans hb7.tape,s5.trans hb7.output,by rw[s6];exact hb7.size,fun k hk=>(s2 k ue2).trans (hb7.block k hk)⟩ (by rw[HAP.out];exact s1) (by rw[HAP.out];exact HT.out.1) (by rw[HAP.out];exact hlU) rfl ug2 ug2
 · have ho:¬ve (steps vs)=true:=fun h=>hm0 (by rw[HM.out,Ql,ipQ h])
   have hm3:m=3:=by rw[HM.out,Ql,inQ ho]
   have HAP:=hH (show apK g t (steps vs)=(zu,0,3) by rw[apK,inQ ho])
   subst hm3
   have e2:=(HB1.out.block _ (lohQ HB.out.2.2.2)).trans HB.out.2.2.2
   have hbw1:Below w.heap.size w W1:=HB.out.1.trans (HB1.out.mono HB.out.1.size)
   obtain⟨z0,z1,z2,z3⟩:=zD e2
   have zf:∀j,W1.frozen? ⟨w.heap.size+1+1,j,none⟩=false:=fun j=>forQ _ _ j _ _ e2
   obtain⟨U,hU,s1,s2,s3,s4,s5,s6⟩:=zo (u0:= .int .i64 0) (u1:= .int .i64 0) (u2:= .string ⟨#[]⟩) (u3:= .slice none 0 0) e2
   have HU:=hH (aN hU (aN s1 (aN s2 (aN s3 (aN s4 (aN s5 (aN s6 hbw1)))))))
   clear hU s1 s2 s3 s4 s5 s6 hbw1 e2 ho hm0
   go_wp2_with fail
   rw[←HU.out.1]
   obtain⟨hU,s1,s2,s3,s4,s5,s6,hb7⟩:=HU.out
   exact zes rfl (r:=apK g t (steps vs)) (g:=w.heap.size+1+1) (m:=0) (kb:=none) (kc:=0) ⟨s3.trans hb7.os,s4.trans hb7.tape,s5.trans hb7.output,by rw[s6];exact hb7.size,fun k hk=>(s2 k om).trans (hb7.block k hk)⟩ (by rw[HAP.out];exact s1) ug2 (by rw[HAP.out];exact⟨NlrQ _,True.intro⟩) rfl ug2 ug2
theorem zbr (w:World)(g:Gr)(t:Tr)(ga ta la:Option Addr)(gn gc tn tc n c:Nat)(vs:List SV)(hgn:gn=g.kinds.length)(hg:∀Y,Below w.heap.size w Y→GrV Y (.agg #[.slice ga g.kinds.length gc,.int .i64 g.root]) g)(hf:g.few)(htn:tn=foLen t.kids)(ht:yR w t.kids ta tc)(hw:Way t)(hn:n=vs.length)(h:Row w la vs):
 Calls Tryz.prog 10 #[.agg #[.slice ga gn gc,.int .i64 g.root],.agg #[.int .i64 t.id,.int .i64 t.kind,.string t.text,.slice ta tn tc],.slice la n c] w (ApO (apK g t (steps vs)) w):=by
 refine (zec w w g t ga ta la gn gc tn tc n c vs (BrQ _ _) hgn hg hf htn ht hw hn h).mono ?_
 rintro e W ⟨va,vc,he,hl,hb⟩
 exact⟨va,vc,he,hl.i,hb⟩
end Go.Proofs.YtgkmmnihaiopaaaGreat
