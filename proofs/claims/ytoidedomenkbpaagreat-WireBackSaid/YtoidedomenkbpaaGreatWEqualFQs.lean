/-
  .
-/
import Derived.Test.YtoidedomenkbpaaGreatJRowQs
import Derived.Test.YtoidedomenkbpaaGreatWFieldVQs
import Derived.Test.YtoidedomenkbpaaGreatWRightQs
set_option maxRecDepth 100000
set_option maxHeartbeats 40000000
set_option linter.unusedVariables false
set_option linter.unusedSimpArgs false
namespace Go.Proofs.YtoidedomenkbpaaGreat
open Go.RowKit Go.Shelf
theorem Row.at {w X:World}{a:Option Addr}{vs:List SV}(h:Row w a vs)(hb:Below w.heap.size w X){k:Nat}{x:SV}(hx:vs[k]? =some x):∃b off,a=some ⟨b,off,none⟩∧X.cell? ⟨b,off+k*9,none⟩=some (.int .i8 x.s.op)∧X.cell? ⟨b,off+k*9+1,none⟩=some (.int .i64 x.s.id)∧X.cell? ⟨b,off+k*9+2,none⟩=some (.int .i64 x.s.par)∧X.cell? ⟨b,off+k*9+3,none⟩=some (.int .i64 x.s.at_)∧X.cell? ⟨b,off+k*9+4,none⟩=some (.string x.s.tx)∧X.cell? ⟨b,off+k*9+5,none⟩=some (.int .i64 x.s.sub.id)∧X.cell? ⟨b,off+k*9+6,none⟩=some (.int .i64 x.s.sub.kind)∧X.cell? ⟨b,off+k*9+7,none⟩=some (.string x.s.sub.text)∧X.cell? ⟨b,off+k*9+8,none⟩=some (.slice x.a (foLen x.s.sub.kids) x.c):=by
 obtain⟨b,off,e,hbl,hc⟩:=h.cells k x hx
 have hg:=fun j u hj=>(World.cell?_of_block (a:=⟨b,off+k*9+j,none⟩) (hb.block b hbl)).trans (hc j u hj)
 exact⟨b,off,e,hg 0 _ rfl,hg 1 _ rfl,hg 2 _ rfl,hg 3 _ rfl,hg 4 _ rfl,hg 5 _ rfl,hg 6 _ rfl,hg 7 _ rfl,hg 8 _ rfl⟩
def zO (l:List Sf):Bool:=decide (YJ l=0) && l.all vw
theorem zeJ {l:List Sf}{k:Nat}{s:Sf}(h:l[k]? =some s)(hs:vw s=false):zO l=false:=by
 unfold zO
 rw[Bool.and_eq_false_iff]
 right
 rw[List.all_eq_false]
 exact⟨s,List.mem_of_getElem? h,by rw[hs];exact Bool.false_ne_true⟩
def zd3 (w:World)(x:SV)(bb:Bool):Prop:=∀X,Below w.heap.size w X→Calls Tryz.prog 66 #[.agg #[.int .i8 x.s.op,.int .i64 x.s.id,.int .i64 x.s.par,.int .i64 x.s.at_,.string x.s.tx,.int .i64 x.s.sub.id,.int .i64 x.s.sub.kind,.string x.s.sub.text,.slice x.a (foLen x.s.sub.kids) x.c]] X (ql bb X)
theorem zeI {w:World}{a:Option Addr}{vs:List SV}(h:Row w a vs){k:Nat}{x:SV}(hx:vs[k]? =some x):zd3 w x (vw x.s):=fun X hX=>by
 have hm:=List.mem_of_getElem? hx
 have hl:ZA w x.s.sub.kids x.a x.c:=h.lies x hm
 obtain⟨ka,kc,he,hcap,hk⟩:=ZA.at hl hX
 cases he
 exact zcJ X (fun q=>q<w.heap.size) x.s x.a (foLen x.s.sub.kids) x.c rfl (fun y hy=>nL hy hX.size) hcap hk (by have:=(h.fit x hm).size;omega)
theorem zbV (w:World)(la:Option Addr)(n c:Nat)(vs:List SV)(hn:n=vs.length)(h:Row w la vs):
 Calls Tryz.prog 258 #[.slice la n c] w (ql (zO (steps vs)) w):=by
 have hc:=zfx w la n c vs hn h
 have hn1:n≤1000000:=by have:=h.len;omega
 by_cases h0:YJ (steps vs)=0
 rotate_left
 · have h3:YJ (steps vs)=3:=by unfold YJ at h0 ⊢;split at h0;exact absurd rfl h0;rename_i hq;rw[inQ hq]
   rw[h3] at hc
   have HC:=hH hc
   have HA:=hH (fun Y=>yV Y false)
   have HF:=hH (show zO (steps vs)=false by unfold zO;rw[decide_eq_false h0,Bool.false_and])
   clear hc h h0 h3 hn
   go_enter Tryz.func258,Tryz.ntmps258
   go_wp2_with fail
   refine HC.out.mono ?_
   rintro e w1 ⟨rfl,hb1⟩
   have HB1:=hH hb1
   clear hb1
   go_wp2_with fail
   refine (HA.out w1).mono ?_
   intro e w' hq;obtain⟨rfl,hb'⟩:=hq.f
   exact⟨rfl,ql.no HF.out (HB1.out.trans (hb'.mono HB1.out.size))⟩
 · rw [h0] at hc
   have HC:=hH hc
   have HA:=hH (fun Y=>yV Y true)
   have H:=hH (aN h hn)
   have H0:=hH h0
   clear hc h h0 hn
   go_enter Tryz.func258,Tryz.ntmps258
   go_wp2_with fail
   refine HC.out.mono ?_
   rintro e w1 ⟨rfl,hb1⟩
   have HB1:=hH hb1
   clear hb1
   go_wp2_with fail
   refine (HA.out w1).mono ?_
   intro e w2 hq;obtain⟨rfl,hb'⟩:=hq.t
   have HB2:=hH (HB1.out.trans (hb'.mono HB1.out.size))
   clear hq hb' HC HA HB1
   go_wp2_with fail
   go_loopw [10] (fun i wr=>∃k:Nat,k≤n∧i= .int .i64 (k:Int)∧Hid ((∀j x,j<k→(steps vs)[j]? =some x→vw x=true)∧Below w.heap.size w wr)) (fun i _=>n - (intOf i).toNat)
   case atStart=>exact⟨0,NzlQ _,rfl,hH ⟨fun j x hj=>by omega,HB2.out⟩⟩
   case round=>
    obtain⟨k,hk,rfl,hh⟩:=hrel
    obtain⟨wo,hwo⟩:∃wo,wo=wr:=⟨_,rfl⟩
    subst hwo
    by_cases hlt:k<n
    · obtain ⟨x,hx⟩:∃x,vs[k]? =some x:=⟨_,List.getElem?_eq_getElem (by rw[←H.out.2];exact hlt)⟩
      obtain⟨b,off,rfl,c0,c1,c2,c3,c4,c5,c6,c7,c8⟩:=H.out.1.at hh.out.2 hx
      have hst:=Qz hx
      obtain⟨bb,hbb⟩:∃bb,bb=vw x.s:=⟨_,rfl⟩
      have has:zd3 w x bb:=by rw[hbb];exact zeI H.out.1 hx
      unfold zd3 at has
      obtain⟨t,xa,xc⟩:=x
      simp only at hst has hbb c0 c1 c2 c3 c4 c5 c6 c7 c8
      obtain⟨xn,hxn⟩:∃xn,xn=foLen t.sub.kids:=⟨_,rfl⟩
      rw[←hxn] at c8 has
      obtain⟨Z,hZ⟩:∃Z,Z=wo.alloc (.cells #[.int .i8 t.op,.int .i64 t.id,.int .i64 t.par,.int .i64 t.at_,.string t.tx,.int .i64 t.sub.id,.int .i64 t.sub.kind,.string t.sub.text,.slice xa xn xc] 41):=⟨_,rfl⟩
      have hZb:Below w.heap.size w Z:=by rw[hZ];exact hh.out.2.alloc hh.out.2.size _
      have eZ:Z.heap[wo.heap.size]? =some (.cells #[.int .i8 t.op,.int .i64 t.id,.int .i64 t.par,.int .i64 t.at_,.string t.tx,.int .i64 t.sub.id,.int .i64 t.sub.kind,.string t.sub.text,.slice xa xn xc] 41 (0,0)):=by rw[hZ];exact hanQ _ _
      have HAS:=hH (has Z hZb)
      have HZ:=hH (aN hZ hZb)
      have HST:=hH (aN hst (aN hbb (aN hh.out.1 hlt)))
      have hkl:(k:Int)<(n:Int):=by omega
      obtain⟨z0,z1,z2,z3,z4,z5,z6,z7,z8⟩:=Zt eZ
      clear hx hst has hbb hxn hZ hZb eZ hlt hh hk
      go_upto_region 4 with fail
      change Code.wp _ _ _ _ (wo.alloc (.cells #[.int .i8 t.op,.int .i64 t.id,.int .i64 t.par,.int .i64 t.at_,.string t.tx,.int .i64 t.sub.id,.int .i64 t.sub.kind,.string t.sub.text,.slice xa xn xc] 41))
      rw[←HZ.out.1]
      clear c0 c1 c2 c3 c4 c5 c6 c7 c8
      go_wp2_with fail
      refine HAS.out.mono ?_
      intro e w6 hq
      cases bb
      · obtain⟨rfl,hb6⟩:=hq.f
        exact⟨rfl,ql.no (zeJ HST.out.1 HST.out.2.1.symm) (HZ.out.2.trans (hb6.mono HZ.out.2.size))⟩
      · obtain⟨rfl,hb6⟩:=hq.t
        have HB6:=hH (HZ.out.2.trans (hb6.mono HZ.out.2.size))
        clear hq hb6 z0 z1 z2 z3 z4 z5 z6 z7 z8
        go_wp2_with fail
        exact⟨⟨k+1,HST.out.2.2.2,by go_num,hH ⟨fun j y hj hy=>by
         rcases Nat.lt_or_ge j k with h | h
         · exact HST.out.2.2.1 j y h hy
         · have:j=k:=by omega
           subst this
           rw[HST.out.1] at hy;cases hy;exact HST.out.2.1.symm,HB6.out⟩⟩,by have:=HST.out.2.2.2;simp[intOf];omega⟩
    · have hkl:¬(k:Int)<(n:Int):=by omega
      have HE:=hH (show ql (zO (steps vs)) w (.returned (.tuple #[])) wo from ql.yes (by
       unfold zO
       rw[H0.out,Bool.and_eq_true]
       refine⟨rfl,?_⟩
       rw[List.all_eq_true]
       intro s hs
       obtain⟨j,hj,e⟩:=List.getElem_of_mem hs
       exact hh.out.1 j s (by rw[jY,←H.out.2] at hj;omega) (by rw[List.getElem?_eq_getElem hj,e])) hh.out.2)
      clear hlt hh hk
      go_wp2_with fail
      go_end0
      exact HE.out
def kJ (b:Bool)(v:Value)(X:World)(e:Ending)(X' :World):Prop:=e=(if b then .returned v else .panicked Zi)∧Below X.heap.size X X'
theorem kJ.yes {b:Bool}{v:Value}{X X' :World}(h:b=true)(hb:Below X.heap.size X X'):kJ b v X (.returned v) X':=⟨by rw[h];rfl,hb⟩
theorem kJ.no {b:Bool}{v:Value}{X X' :World}(h:b=false)(hb:Below X.heap.size X X'):kJ b v X (.panicked Zi) X':=⟨by rw[h];rfl,hb⟩
theorem zeo (X:World)(S:Nat→Prop)(t:Tr)(ka:Option Addr)(kn kc:Nat)(hkn:kn=foLen t.kids)(hS:∀y,S y→y<X.heap.size)(hk:zQ X S t.kids ka):
 Calls Tryz.prog 257 #[.agg #[],.agg #[.int .i64 t.id,.int .i64 t.kind,.string t.text,.slice ka kn kc]] X (kJ (yj t) (.agg #[.int .i64 0,.int .i64 0,.string ⟨#[]⟩,.slice none 0 0]) X):=by
 obtain⟨B,hB⟩:∃B,B=zU X [.cells #[] 87,.cells #[.int .i64 t.id,.int .i64 t.kind,.string t.text,.slice ka kn kc] 35,.cells #[.int .i64 0,.int .i64 0,.string ⟨#[]⟩,.slice none 0 0] 35]:=⟨_,rfl⟩
 have hb:Below X.heap.size X B:=by rw[hB];exact zR _ _
 have e1:B.heap[X.heap.size+1]? =some (.cells #[.int .i64 t.id,.int .i64 t.kind,.string t.text,.slice ka kn kc] 35 (0,0)):=by rw[hB];exact zD _ _ 1 _ rfl
 have e2:B.heap[X.heap.size+1+1]? =some (.cells #[.int .i64 0,.int .i64 0,.string ⟨#[]⟩,.slice none 0 0] 35 (0,0)):=by rw[hB];exact zD _ _ 2 _ rfl
 have HC:=hH (Jj B S t ka kn kc hkn (fun y hy=>nL (hS y hy) hb.size) (hk.below hb hS))
 obtain⟨n0,n1,n2,n3⟩:=zbW e1
 have HB:=hH (aN hb (aN hB e2))
 obtain⟨q,hq⟩:∃q,q=yj t:=⟨_,rfl⟩
 rw[←hq] at HC ⊢
 clear hq hkn hS hk hb hB e1 e2
 cases q
 · go_enter Tryz.func257,Tryz.ntmps257
   go_upto_region 1 with fail
   change Code.wp _ _ _ _ (zU X [.cells #[] 87,.cells #[.int .i64 t.id,.int .i64 t.kind,.string t.text,.slice ka kn kc] 35,.cells #[.int .i64 0,.int .i64 0,.string ⟨#[]⟩,.slice none 0 0] 35])
   rw[←HB.out.2.1]
   exact sg4
 · go_enter Tryz.func257,Tryz.ntmps257
   go_upto_region 1 with fail
   change Code.wp _ _ _ _ (zU X [.cells #[] 87,.cells #[.int .i64 t.id,.int .i64 t.kind,.string t.text,.slice ka kn kc] 35,.cells #[.int .i64 0,.int .i64 0,.string ⟨#[]⟩,.slice none 0 0] 35])
   rw[←HB.out.2.1]
   go_wp2_with fail
   refine HC.out.mono ?_
   intro e Z hq;obtain⟨rfl,hz⟩:=hq.t
   have hZ:=HB.out.1.trans (hz.mono HB.out.1.size)
   have eZ:=(hz.block _ (lohQ HB.out.2.2)).trans HB.out.2.2
   obtain⟨V,hV,v1,v2,v3,v4,v5,v6⟩:=zai (u0:= .int .i64 0) (u1:= .int .i64 0) (u2:= .string ⟨#[]⟩) (u3:= .slice none 0 0) eZ
   obtain⟨z0,z1,z2,z3⟩:=zbW eZ
   have zf:∀j,Z.frozen? ⟨X.heap.size+1+1,j,none⟩=false:=fun j=>forQ _ _ j _ _ eZ
   have HV:=hH (aN hV (aN v1 (show Below X.heap.size X V from⟨v3.trans hZ.os,v4.trans hZ.tape,v5.trans hZ.output,by rw[v6];exact hZ.size,fun y hy=>(v2 y om1).trans (hZ.block y hy)⟩)))
   clear hq hz hZ eZ hV v1 v2 v3 v4 v5 v6 n0 n1 n2 n3
   go_wp2_with fail
   rw[←HV.out.1]
   refine brQ (qo rfl _ _ (X.heap.size+1+1) 35 _ (0,0) _ rfl HV.out.2.1 Tryz.underlying35 rfl kr1) rfl ?_
   exact kJ.yes rfl HV.out.2.2
theorem zde (X:World)(la:Option Addr)(n c:Nat)(vs:List SV)(hn:n=vs.length)(h:Row X la vs):
 Calls Tryz.prog 256 #[.agg #[],.slice la n c] X (kJ (zO (steps vs)) (.slice none 0 0) X):=by
 obtain⟨B,hB⟩:∃B,B=X.alloc (.cells #[] 87):=⟨_,rfl⟩
 have hb:Below X.heap.size X B:=by rw[hB];exact (BrQ _ _).alloc (NlrQ _) _
 have HC:=hH (zbV B la n c vs hn (h.on hb))
 have HB:=hH (aN hb hB)
 obtain⟨q,hq⟩:∃q,q=zO (steps vs):=⟨_,rfl⟩
 rw[←hq] at HC ⊢
 clear hq hb hB hn h
 cases q
 · go_enter Tryz.func256,Tryz.ntmps256
   go_upto_region 1 with fail
   change Code.wp _ _ _ _ (X.alloc (.cells #[] 87))
   rw[←HB.out.2]
   exact sg4
 · go_enter Tryz.func256,Tryz.ntmps256
   go_upto_region 1 with fail
   change Code.wp _ _ _ _ (X.alloc (.cells #[] 87))
   rw[←HB.out.2]
   go_wp2_with fail
   refine HC.out.mono ?_
   intro e Z hq;obtain⟨rfl,hz⟩:=hq.t
   have HZ:=hH (HB.out.1.trans (hz.mono HB.out.1.size))
   clear hq hz
   go_wp2_with fail
   go_ret
   exact kJ.yes rfl HZ.out
theorem jF {w0 X0 X:World}{b:Nat}{O:Nat→Prop}(h0:Below w0.heap.size w0 X0)(hb:w0.heap.size≤b)(hO:∀q,O q→w0.heap.size≤q)(hT:za X0 X (fun q=>O q∨q=b)):Below w0.heap.size w0 X:=
 ⟨hT.os.trans h0.os,hT.tape.trans h0.tape,hT.output.trans h0.output,NltQ h0.size hT.size,fun y hy=>(hT.block y (nL hy h0.size) (fun h=>by rcases h with h | h;have:=hO y h;omega;omega)).trans (h0.block y hy)⟩
theorem zdd (w0 X0:World)(b:Nat)(S:Nat→Prop)(t:Tr)(ka:Option Addr)(kn kc:Nat)(h0:Below w0.heap.size w0 X0)(hb:w0.heap.size≤b)(hkn:kn=foLen t.kids)(hS:∀y,S y→y<w0.heap.size)(hk:zQ w0 S t.kids ka):
 za3 (σ:=Unit) (fun _=>True) (fun _ _=>True) (fun _=>False) (fun _=>if yj t then some ((0,0,⟨#[]⟩,none,0,0),()) else none) kz b 87 (.agg #[]) (.agg #[]) 257 "allotment/wire.tree" X0 (.agg #[.int .i64 t.id,.int .i64 t.kind,.string t.text,.slice ka kn kc]) where
 jS:=fun w=>by rfl
 enter:=fun _ _=>by rfl
 does :=fun s X _ hT=>by
  have hX:=jF h0 hb (fun _ h=>h.elim) hT
  refine (zeo X S t ka kn kc hkn (fun y hy=>nL (hS y hy) hX.size) (hk.below hX hS)).mono fun e X' h=>?_
  unfold kJ at h
  cases hq:yj t
  · rw[hq] at h
    exact⟨h.1,zn h.2 _⟩
  · rw[hq] at h
    exact⟨h.1,fun _=>trivial,zn h.2 _⟩
 keep:=fun _ _ _ _ _ _=>trivial
 apart:=fun h=>h
 inn:=fun _ _ _ _ h=>h.elim
theorem zdc (w0 X0:World)(b:Nat)(la:Option Addr)(n c:Nat)(vs:List SV)(h0:Below w0.heap.size w0 X0)(hb:w0.heap.size≤b)(hn:n=vs.length)(h:Row w0 la vs):
 za3 (σ:=Unit) (fun _=>True) (fun _ _=>True) (fun _=>False) (fun _=>if zO (steps vs) then some ((none,0,0),()) else none) Zx b 87 (.agg #[]) (.agg #[]) 256 "allotment/wire.steps" X0 (.slice la n c) where
 jS:=fun w=>by rfl
 enter:=fun _ _=>by rfl
 does :=fun s X _ hT=>by
  have hX:=jF h0 hb (fun _ h=>h.elim) hT
  refine (zde X la n c vs hn (h.on hX)).mono fun e X' hh=>?_
  unfold kJ at hh
  cases hq:zO (steps vs)
  · rw[hq] at hh
    exact⟨hh.1,zn hh.2 _⟩
  · rw[hq] at hh
    exact⟨hh.1,fun _=>trivial,zn hh.2 _⟩
 keep:=fun _ _ _ _ _ _=>trivial
 apart:=fun h=>h
 inn:=fun _ _ _ _ h=>h.elim
def eqR:List Sf→List Sf→Bool
 | [],[]=>true
 | a::p,b::q=>eqS a b && eqR p q
 | _,_=>false
theorem zfb:∀{p q:List Sf},p.length≠q.length→eqR p q=false
 | [],[],h=>absurd rfl h
 | a::p,b::q,h=>by rw[eqR,zfb (p:=p) (q:=q) (fun e=>h (by simp[e])),Bool.and_false]
 | [],_::_,_=>rfl
 | _::_,[],_=>rfl
theorem zg5 {p q:List Sf}{k:Nat}{a b:Sf}(ha:p[k]? =some a)(hb:q[k]? =some b):eqR (p.drop k) (q.drop k)=(eqS a b && eqR (p.drop (k+1)) (q.drop (k+1))):=by
 obtain⟨h1,rfl⟩:=List.getElem?_eq_some_iff.1 ha
 obtain⟨h2,rfl⟩:=List.getElem?_eq_some_iff.1 hb
 rw[List.drop_eq_getElem_cons h1,List.drop_eq_getElem_cons h2,eqR]
def zd1 (p q:List Sf)(X:World)(e:Ending)(W:World):Prop:=e= .returned (.bool (eqR p q))∧Below X.heap.size X W
theorem zd1.mk {p q:List Sf}{w w' :World}{c:Bool}(h:eqR p q=c)(hb:Below w.heap.size w w'):zd1 p q w (.returned (.bool c)) w':=⟨by rw[h],hb⟩
theorem zhY {X0 X1 X:World}{s r:Sf}{aa ba:Option Addr}{ac bc n m:Nat}(h0:ZA X0 s.sub.kids aa ac)(h1:ZA X1 r.sub.kids ba bc)(b0:Below X0.heap.size X0 X)(b1:Below X1.heap.size X1 X)(hz:zh s.sub.kids+1≤100000)(hy:zh r.sub.kids+1≤100000)(hn:n=foLen s.sub.kids)(hm:m=foLen r.sub.kids):
 Calls Tryz.prog 109 #[.agg #[.int .i8 s.op,.int .i64 s.id,.int .i64 s.par,.int .i64 s.at_,.string s.tx,.int .i64 s.sub.id,.int .i64 s.sub.kind,.string s.sub.text,.slice aa n ac],.agg #[.int .i8 r.op,.int .i64 r.id,.int .i64 r.par,.int .i64 r.at_,.string r.tx,.int .i64 r.sub.id,.int .i64 r.sub.kind,.string r.sub.text,.slice ba m bc]] X (EqC s r X):=by
 obtain⟨_,_,e0,g0,k0⟩:=h0.at b0
 obtain⟨_,_,e1,g1,k1⟩:=h1.at b1
 cases e0
 cases e1
 exact ZQ X (fun q=>q<X0.heap.size) (fun q=>q<X1.heap.size) s r aa ba n ac m bc hn hm (fun y hy=>nL hy b0.size) (fun y hy=>nL hy b1.size) g0 g1 k0 k1 om1 om1
theorem zdV (w:World)(la lb:Option Addr)(n m ca cb:Nat)(pa pb:List SV)(hn:n=pa.length)(hm:m=pb.length)(ha:Row w la pa)(hb:Row w lb pb):
 Calls Tryz.prog 44 #[.slice la n ca,.slice lb m cb,.func (.func 109) #[] #[]] w (zd1 (steps pa) (steps pb) w):=by
 have hl:n≤1000000:=by have:=ha.len;omega
 have hl2:m≤1000000:=by have:=hb.len;omega
 have H:=hH (aN ha (aN hb (aN hn hm)))
 clear ha hb hn hm
 by_cases hne:n=m
 rotate_left
 · have hnn:((n:Int) == (m:Int))=false:=by simp;omega
   have HV:=hH (show eqR (steps pa) (steps pb)=false from zfb (by rw[jY,jY,←H.out.2.2.1,←H.out.2.2.2];exact hne))
   clear hne
   go_enter Tryz.func44,Tryz.ntmps44
   go_wp2_with fail
   go_ret
   exact zd1.mk HV.out (BrQ _ _)
 subst hne
 have hnn:((n:Int) == (n:Int))=true:=by simp
 go_enter Tryz.func44,Tryz.ntmps44
 go_wp2_with fail
 clear hnn
 go_loopw [17] (fun i wr=>∃k:Nat,k≤n∧i= .int .i64 (k:Int)∧Hid (Below w.heap.size w wr∧eqR (steps pa) (steps pb)=eqR ((steps pa).drop k) ((steps pb).drop k))) (fun i _=>n - (intOf i).toNat)
 case atStart=>exact⟨0,NzlQ _,rfl,hH ⟨BrQ _ _,rfl⟩⟩
 case round=>
  obtain⟨k,hk,rfl,hrr⟩:=hrel
  obtain⟨wo,hwo⟩:∃wo,wo=wr:=⟨_,rfl⟩
  subst hwo
  by_cases hlt:k<n
  · obtain⟨x,hx⟩:∃x,pa[k]? =some x:=⟨_,List.getElem?_eq_getElem (by rw[←H.out.2.2.1];exact hlt)⟩
    obtain⟨y,hy⟩:∃y,pb[k]? =some y:=⟨_,List.getElem?_eq_getElem (by rw[←H.out.2.2.2];exact hlt)⟩
    have hdr:=zg5 (Qz hx) (Qz hy)
    have hlx:=H.out.1.lies x (List.mem_of_getElem? hx)
    have hly:=H.out.2.1.lies y (List.mem_of_getElem? hy)
    have hfx:=(H.out.1.fit x (List.mem_of_getElem? hx)).size
    have hfy:=(H.out.2.1.fit y (List.mem_of_getElem? hy)).size
    unfold ZB at hlx hly
    have hax:=fun X hX=>H.out.1.at (X:=X) hX hx
    have hay:=fun X hX=>H.out.2.1.at (X:=X) hX hy
    obtain⟨xs,xa,xc⟩:=x
    obtain⟨ys,ya,yc⟩:=y
    simp only at hdr hlx hly hfx hfy hax hay
    obtain⟨xn,hxn⟩:∃xn,xn=foLen xs.sub.kids:=⟨_,rfl⟩
    obtain⟨yn,hyn⟩:∃yn,yn=foLen ys.sub.kids:=⟨_,rfl⟩
    rw[←hxn] at hax
    rw[←hyn] at hay
    have HCC:=hH (fun X (hX:Below w.heap.size w X)=>zhY (X:=X) hlx hly hX hX om1 om1 hxn hyn)
    have HKN:=hH (aN hk hlt)
    have hkl:(k:Int)<(n:Int):=by omega
    obtain⟨cc,hcc⟩:∃cc,cc=eqS xs ys:=⟨_,rfl⟩
    rw[←hcc] at hdr
    have HCQ:=hH hcc
    have HDR:=hH (hrr.out.2.trans hdr)
    have HBR:=hH hrr.out.1
    clear hx hy hlx hly hfx hfy hxn hyn hk hlt hrr hdr hcc
    obtain⟨b,off,rfl,c0,c1,c2,c3,c4,c5,c6,c7,c8⟩:=hax wo HBR.out
    obtain⟨B1,hB1⟩:∃B1,B1=wo.alloc (.cells #[.int .i8 xs.op,.int .i64 xs.id,.int .i64 xs.par,.int .i64 xs.at_,.string xs.tx,.int .i64 xs.sub.id,.int .i64 xs.sub.kind,.string xs.sub.text,.slice xa xn xc] 41):=⟨_,rfl⟩
    have hb1:Below w.heap.size w B1:=by rw[hB1];exact HBR.out.alloc HBR.out.size _
    have e1:B1.heap[wo.heap.size]? =some (.cells #[.int .i8 xs.op,.int .i64 xs.id,.int .i64 xs.par,.int .i64 xs.at_,.string xs.tx,.int .i64 xs.sub.id,.int .i64 xs.sub.kind,.string xs.sub.text,.slice xa xn xc] 41 (0,0)):=by rw[hB1];exact hanQ _ _
    have HB1:=hH hB1
    have HAY:=hH hay
    have HE1:=hH (aN hb1 e1)
    clear hax hay hb1 e1 hB1
    go_upto_region 6 with fail
    change Code.wp _ _ _ _ (wo.alloc (.cells #[.int .i8 xs.op,.int .i64 xs.id,.int .i64 xs.par,.int .i64 xs.at_,.string xs.tx,.int .i64 xs.sub.id,.int .i64 xs.sub.kind,.string xs.sub.text,.slice xa xn xc] 41))
    rw[←HB1.out]
    clear HB1 c0 c1 c2 c3 c4 c5 c6 c7 c8
    obtain⟨b',off',rfl,d0,d1,d2,d3,d4,d5,d6,d7,d8⟩:=HAY.out B1 HE1.out.1
    obtain⟨B2,hB2⟩:∃B2,B2=B1.alloc (.cells #[.int .i8 ys.op,.int .i64 ys.id,.int .i64 ys.par,.int .i64 ys.at_,.string ys.tx,.int .i64 ys.sub.id,.int .i64 ys.sub.kind,.string ys.sub.text,.slice ya yn yc] 41):=⟨_,rfl⟩
    have hb2:Below w.heap.size w B2:=by rw[hB2];exact HE1.out.1.alloc HE1.out.1.size _
    have e1:B2.heap[wo.heap.size]? =some (.cells #[.int .i8 xs.op,.int .i64 xs.id,.int .i64 xs.par,.int .i64 xs.at_,.string xs.tx,.int .i64 xs.sub.id,.int .i64 xs.sub.kind,.string xs.sub.text,.slice xa xn xc] 41 (0,0)):=by rw[hB2];exact (BhaQ _ _ _ (lohQ HE1.out.2)).trans HE1.out.2
    have e2:B2.heap[B1.heap.size]? =some (.cells #[.int .i8 ys.op,.int .i64 ys.id,.int .i64 ys.par,.int .i64 ys.at_,.string ys.tx,.int .i64 ys.sub.id,.int .i64 ys.sub.kind,.string ys.sub.text,.slice ya yn yc] 41 (0,0)):=by rw[hB2];exact hanQ _ _
    have HB2:=hH hB2
    have HE2:=hH hb2
    have HEE:=hH (aN e1 e2)
    obtain⟨u1,hu1⟩:∃u1,u1=wo.heap.size:=⟨_,rfl⟩
    obtain⟨u2,hu2⟩:∃u2,u2=B1.heap.size:=⟨_,rfl⟩
    clear HE1 HAY hb2 hB2 e1 e2
    go_upto_region 7 with fail
    change Code.wp _ _ _ _ (B1.alloc (.cells #[.int .i8 ys.op,.int .i64 ys.id,.int .i64 ys.par,.int .i64 ys.at_,.string ys.tx,.int .i64 ys.sub.id,.int .i64 ys.sub.kind,.string ys.sub.text,.slice ya yn yc] 41))
    rw[←HB2.out,←hu1,←hu2]
    rw[←hu1,←hu2] at HEE
    clear hu1 hu2
    clear HB2 d0 d1 d2 d3 d4 d5 d6 d7 d8
    obtain⟨f0,f1,f2,f3,f4,f5,f6,f7,f8⟩:=Zt HEE.out.1
    obtain⟨g0,g1,g2,g3,g4,g5,g6,g7,g8⟩:=Zt HEE.out.2
    have HC:=hH (HCC.out B2 HE2.out)
    clear HCC HEE
    go_wp2_with fail
    refine HC.out.mono ?_
    rintro e w2 ⟨rfl,hb2⟩
    rw[←HCQ.out]
    have HB3:=hH (HE2.out.trans (hb2.mono HE2.out.size))
    clear hb2 HC f0 f1 f2 f3 f4 f5 f6 f7 f8 g0 g1 g2 g3 g4 g5 g6 g7 g8 HE2
    cases cc
    · go_wp2_with fail
      go_ret
      exact zd1.mk (HDR.out.trans (Bool.false_and _)) HB3.out
    · go_wp2_with fail
      exact⟨⟨k+1,by have:=HKN.out;omega,by go_num,hH ⟨HB3.out,HDR.out.trans (Bool.true_and _)⟩⟩,by have:=HKN.out;simp[intOf];omega⟩
  · have hkl:¬(k:Int)<(n:Int):=by omega
    have HV:=hH (show eqR (steps pa) (steps pb)=true by
     rw[hrr.out.2,List.drop_of_length_le (by rw[jY,←H.out.2.2.1];omega),List.drop_of_length_le (by rw[jY,←H.out.2.2.2];omega)];rfl)
    have HB3:=hH hrr.out.1
    clear hrr hk hlt
    go_wp2_with fail
    go_ret
    exact zd1.mk HV.out HB3.out
theorem zaY (w:World)(la lb:Option Addr)(n m ca cb:Nat)(pa pb:List SV)(hn:n=pa.length)(hm:m=pb.length)(ha:Row w la pa)(hb:Row w lb pb):
 Calls Tryz.prog 62 #[.slice la n ca,.slice lb m cb] w (zd1 (steps pa) (steps pb) w):=by
 have HE:=hH (zdV w la lb n m ca cb pa pb hn hm ha hb)
 clear hn hm ha hb
 go_enter Tryz.func62,Tryz.ntmps62
 go_wp2_with fail
 refine HE.out.mono ?_
 rintro e w2 ⟨rfl,hb2⟩
 have HB:=hH hb2
 clear hb2
 go_wp2_with fail
 go_ret
 exact⟨rfl,HB.out⟩
end Go.Proofs.YtoidedomenkbpaaGreat
