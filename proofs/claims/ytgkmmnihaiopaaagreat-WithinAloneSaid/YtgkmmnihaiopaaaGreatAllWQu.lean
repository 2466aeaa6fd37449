/-
  .
-/
import Derived.Test.YtgkmmnihaiopaaaGreatInsWQu
import Derived.Test.YtgkmmnihaiopaaaGreatJCheckQu
import Derived.Test.YtgkmmnihaiopaaaGreatRParPQu
import Derived.Test.YtgkmmnihaiopaaaGreatJPgQu
import Derived.Test.YtgkmmnihaiopaaaGreatJPsQu
set_option maxRecDepth 100000
set_option maxHeartbeats 40000000
set_option linter.unusedVariables false
set_option linter.unusedSimpArgs false
namespace Go.Proofs.YtgkmmnihaiopaaaGreat
open Go.RowKit Go.Shelf
def inW (root:Int) (t:Tr) (op id par:Int):Bool:=vU (jL root t) root op id par
theorem zbh (w:World) (S:Nat→Prop) (nv:Value) (t:Tr) (root op id par at_ xi xk:Int) (tx xt:ByteArray) (sa:Option Addr) (sn sc:Nat) (hS:∀x,S x→zN w x) (ht:zJ w S nv t) (hsz:zg t.kids+1≤2000) (hd:(idT t).Nodup) (hok:∀i∈idT t,(Lit.int .i64 i).wf=true) (hw1:(Lit.int .i64 id).wf=true) (hw2:(Lit.int .i64 par).wf=true):
 Calls Tryz.prog 34 #[nv,.int .i64 root,.agg #[.int .i8 op,.int .i64 id,.int .i64 par,.int .i64 at_,.string tx,.int .i64 xi,.int .i64 xk,.string xt,.slice sa sn sc]] w (Says (inW root t op id par) w):=by
 obtain⟨ka,tc,rfl,hcap,hk⟩:=ht
 obtain⟨nk,hnk⟩:∃n,n=foLen t.kids:=⟨_,rfl⟩
 rw[←hnk]
 have hSl:∀q,S q→q<w.heap.size:=fun q hq=>by obtain⟨_,_,_,h⟩:=hS q hq;exact lohQ h
 obtain⟨W,hW⟩:∃W,W=zt w [.cells #[.int .i64 t.id,.int .i64 t.kind,.string t.text,.slice ka nk tc] 27,.cells #[.int .i8 op,.int .i64 id,.int .i64 par,.int .i64 at_,.string tx,.int .i64 xi,.int .i64 xk,.string xt,.slice sa sn sc] 44]:=⟨_,rfl⟩
 have hb:Below w.heap.size w W:=by rw[hW];exact zm _ _
 have e0:W.heap[w.heap.size]? =some (.cells #[.int .i64 t.id,.int .i64 t.kind,.string t.text,.slice ka nk tc] 27 (0,0)):=by rw[hW];exact zi _ _ 0 _ rfl
 have e1:W.heap[w.heap.size+1]? =some (.cells #[.int .i8 op,.int .i64 id,.int .i64 par,.int .i64 at_,.string tx,.int .i64 xi,.int .i64 xk,.string xt,.slice sa sn sc] 44 (0,0)):=by rw[hW];exact zi _ _ 1 _ rfl
 have hcx:∀X,Below W.heap.size W X→(X.cell? ⟨w.heap.size,0,none⟩=some (.int .i64 t.id)∧X.cell? ⟨w.heap.size,1,none⟩=some (.int .i64 t.kind)∧X.cell? ⟨w.heap.size,2,none⟩=some (.string t.text)∧X.cell? ⟨w.heap.size,3,none⟩=some (.slice ka nk tc))∧X.cell? ⟨w.heap.size+1,0,none⟩=some (.int .i8 op)∧X.cell? ⟨w.heap.size+1,1,none⟩=some (.int .i64 id)∧X.cell? ⟨w.heap.size+1,2,none⟩=some (.int .i64 par)∧X.cell? ⟨w.heap.size+1,3,none⟩=some (.int .i64 at_)∧X.cell? ⟨w.heap.size+1,4,none⟩=some (.string tx)∧X.cell? ⟨w.heap.size+1,5,none⟩=some (.int .i64 xi)∧X.cell? ⟨w.heap.size+1,6,none⟩=some (.int .i64 xk)∧X.cell? ⟨w.heap.size+1,7,none⟩=some (.string xt)∧X.cell? ⟨w.heap.size+1,8,none⟩=some (.slice sa sn sc):=fun X hX=>⟨zG ((hX.block _ (lohQ e0)).trans e0),JG ((hX.block _ (lohQ e1)).trans e1)⟩
 have hsub:∀X,Below W.heap.size W X→Calls Tryz.prog 55 #[.agg #[.int .i64 t.id,.int .i64 t.kind,.string t.text,.slice ka nk tc],.int .i64 root] X (ziX X (jL root t)):=fun X hX=>by
  have hwX:=hb.trans (hX.mono hb.size)
  exact zdi X S _ t root (fun x hx=>by obtain⟨cs,tt,fr,h⟩:=hS x hx;exact⟨cs,tt,fr,(hwX.block x (lohQ h)).trans h⟩) ⟨ka,tc,by rw[hnk],hcap,hk.below hwX hSl⟩ hsz hd hok
 obtain⟨l,hl⟩:∃l,l=jL root t:=⟨_,rfl⟩
 rw[←hl] at hsub
 have hr:inW root t op id par=vU l root op id par:=by rw[hl];rfl
 rw[hr]
 obtain⟨r,hr2⟩:∃r,r=vU l root op id par:=⟨_,rfl⟩
 rw[←hr2]
 have HR:=hH (aN hr2 (aN hw1 hw2))
 have HSUB:=hH hsub
 have HCX:=hH hcx
 have HB:=hH hb
 have HW:=hH hW
 have hbt:Below W.heap.size W (W.drewN 1):=⟨rfl,rfl,rfl,Nat.le_refl _,fun _ _=>rfl⟩
 clear hb e0 e1 hcx hsub hl hr hr2 hw1 hw2 hsz hd hok hS hSl hcap hk hnk hW
 go_enter Tryz.func34,Tryz.ntmps34
 go_upto_region 1 with fail
 change Code.wp _ _ _ _ (zt w [.cells #[.int .i64 t.id,.int .i64 t.kind,.string t.text,.slice ka nk tc] 27,.cells #[.int .i8 op,.int .i64 id,.int .i64 par,.int .i64 at_,.string tx,.int .i64 xi,.int .i64 xk,.string xt,.slice sa sn sc] 44])
 rw[←HW.out]
 clear HW
 refine wp_region_held_drew (S:=fun X=>Below W.heap.size W X) kr1 hbt (fun hHeld=>?_)
 clear hbt
 refine tJ (i:=0) (.agg #[.int .i64 t.id,.int .i64 t.kind,.string t.text,.slice ka nk tc]) rfl ?_ ?_
 · clear hHeld;intro X hSw;obtain⟨⟨b0,b1,b2,b3⟩,a0,a1,a2,a3,a4,a5,a6,a7,a8⟩:=HCX.out X hSw;clear hSw;go_simp
 simp only[Act.put,pg]
 refine tJ (i:=1) (.int .i64 root) rfl ?_ ?_
 · clear hHeld;intro X hSw;obtain⟨⟨b0,b1,b2,b3⟩,a0,a1,a2,a3,a4,a5,a6,a7,a8⟩:=HCX.out X hSw;clear hSw;go_simp
 simp only[Act.put,pg]
 refine tJ (i:=3) (.int .i64 root) rfl ?_ ?_
 · clear hHeld;intro X hSw;obtain⟨⟨b0,b1,b2,b3⟩,a0,a1,a2,a3,a4,a5,a6,a7,a8⟩:=HCX.out X hSw;clear hSw;go_simp
 simp only[Act.put,pg]
 refine tJ (i:=4) (.agg #[.int .i8 op,.int .i64 id,.int .i64 par,.int .i64 at_,.string tx,.int .i64 xi,.int .i64 xk,.string xt,.slice sa sn sc]) rfl ?_ ?_
 · clear hHeld;intro X hSw;obtain⟨⟨b0,b1,b2,b3⟩,a0,a1,a2,a3,a4,a5,a6,a7,a8⟩:=HCX.out X hSw;clear hSw;go_simp
 simp only[Act.put,pg]
 refine wpAnyH_ready (rs:=[2]) kr1 sp1 ?_
 refine AcQ (o:=_) rfl (fun K hK=>?_) AnQ
 rw[if_pos (by rfl)]
 simp only[pg3]
 have HK:=hH hK
 have HS:=hH hHeld
 clear hK hHeld
 go_wp2_with (go_at_call 55;refine (HSUB.out _ HS.out).mono ?_;rintro e X1 ⟨mb,n,rfl,hm,_,hb1⟩)
 have hS1:=HS.out.trans (hb1.mono HS.out.size)
 have HC2:=hH (aN (zdY X1 mb n l root op id par at_ xi xk tx xt sa sn sc hm HR.out.2.1 HR.out.2.2) hS1)
 rw[←HR.out.1] at HC2
 refine HK.out _ _ hS1 (fun hHeld=>?_)
 clear HK HS hS1 hm hb1
 refine wpAnyH_ready (rs:=[5]) kr1 sp1 ?_
 refine AcQ (o:=_) rfl (fun K hK=>?_) AnQ
 rw[if_pos (by rfl)]
 simp only[pg3]
 have HK:=hH hK
 have HS:=hH hHeld
 clear hK hHeld
 go_wp2_with (go_at_call 54;refine HC2.out.1.mono ?_;rintro e X2 ⟨rfl,hb2⟩)
 have hS2:=HC2.out.2.trans (hb2.mono HC2.out.2.size)
 have HE:=hH (HB.out.trans (hS2.mono HB.out.size))
 refine HK.out _ _ hS2 (fun hHeld=>?_)
 clear HK HS hS2 hb2 HC2
 refine tJ (i:=6) (.bool r) rfl ?_ ?_
 · clear hHeld;intro X hSw;obtain⟨⟨b0,b1,b2,b3⟩,a0,a1,a2,a3,a4,a5,a6,a7,a8⟩:=HCX.out X hSw;clear hSw;go_simp
 simp only[Act.put,pg]
 refine wpAnyH_done kr1 ?_ _
 clear hHeld
 go_wp2_with fail
 go_ret
 exact⟨rfl,HE.out⟩
structure Row (w:World) (a:Option Addr) (vs:List SV):Prop where
 cells:ze0 w (fun q=>q<w.heap.size) a vs
 lies:∀x∈vs,Zx w x
 fit:∀x∈vs,kW x.s
 len:vs.length≤1000000
theorem Row.on {w X:World} {a:Option Addr} {vs:List SV} (h:Row w a vs) (hb:Below w.heap.size w X):Row X a vs:=
 ⟨h.cells.kept fun y hy=>⟨nL hy hb.size,hb.block y hy⟩,fun x hx=>jC.on (h.lies x hx) hb,h.fit,h.len⟩
structure RowsIn (X:World) (NB R:Nat) (rs:List RH):Prop where
 box:X.heap[NB]? =some (.cells #[.slice (some ⟨R,0,none⟩) rs.length rs.length] 76 (0,0))
 head:X.heap[R]? =some (.cells (rs.map RH.v).toArray 28 (0,0))
 rows:∀r∈rs,Row X r.a r.vs
 few:rs.length≤2
theorem RowsIn.j {X:World} {NB R:Nat} {rs:List RH} (h:RowsIn X NB R rs):YP X NB R rs (fun q=>q<X.heap.size):=
 ⟨h.box,h.head,lohQ h.box,lohQ h.head,fun _ hy=>hy,fun i r hr=>(h.rows r (List.mem_of_getElem? hr)).cells⟩
theorem zcM:∀{rs:List RH} {x:SV},x∈flat rs→∃r∈rs,x∈r.vs
 | [],x,h=>by simp[flat] at h
 | r ::rs,x,h=>by
   rw[flat,List.mem_append] at h
   rcases h with h | h
   · exact⟨r,List.mem_cons_self ..,h⟩
   · obtain⟨q,h1,h2⟩:=zcM h
     exact⟨q,List.mem_cons_of_mem _ h1,h2⟩
theorem zg0 {X:World} {NB R:Nat} {rs:List RH} (h:RowsIn X NB R rs):(flat rs).length≤2000000:=by
 obtain⟨_,_,h3,h4⟩:=h
 match rs,h3,h4 with
 | [],_,_=>simp[flat]
 | [r],h3,_=>have:=(h3 r sp1).len;simp[flat];omega
 | [r,q],h3,_=>have:=(h3 r sp1).len;have:=(h3 q sp1).len;simp[flat];omega
 | _::_::_::_,_,h4=>simp at h4
theorem RowsIn.lies {X:World} {NB R:Nat} {rs:List RH} (h:RowsIn X NB R rs) {x:SV} (hx:x∈flat rs):Zx X x∧kW x.s:=by
 obtain⟨r,h1,h2⟩:=zcM hx
 exact⟨(h.rows r h1).lies x h2,(h.rows r h1).fit x h2⟩
theorem kE {l:List Sf} {k:Nat} {s:Sf} (h:l[k]? =some s):yK (l.take (k+1))=yK (l.take k)+jH s:=by
 rw[List.take_add_one,h,j5]
 simp[yK]
theorem J8 (l:List Sf) (k:Nat):yK (l.take k)≤yK l:=by
 conv=>rhs;rw[←List.take_append_drop k l,j5]
 omega
def steps (vs:List SV):List Sf:=vs.map SV.s
theorem Qf {vs:List SV} {k:Nat} {x:SV} (h:vs[k]? =some x):(steps vs)[k]? =some x.s:=by rw[steps,List.getElem?_map,h];rfl
theorem qM (vs:List SV):(steps vs).length=vs.length:=by simp[steps]
def jZ (l:List Sf):Int:=if kI l=true then 0 else 3
def zjE (X:World) (l:List Sf) (k:Nat) (v:RV) (V:World):Prop:=Below X.heap.size X V∧v.i=60 - (k:Int)∧v.k=200 - (yK (l.take k):Int)∧k≤60∧yK (l.take k)≤200
def zjF (X:World) (l:List Sf) (k:Nat) (v:RV) (n:Int) (V:World):Prop:=Below X.heap.size X V∧n=3∧kI l=false
theorem zfg {X:World} {NB R:Nat} {rs:List RH} (h:RowsIn X NB R rs):DoQ Tryz.prog 60 #[] X.heap.size (fun q=>q<X.heap.size) (flat rs) (zjE X (steps (flat rs))) (zjF X (steps (flat rs))):=by
 refine⟨enters_of Tryz.func60 kr1 rfl,?_,?_,?_⟩
 · rintro k v V V' ⟨h1,h2⟩ ht
   exact sg4
 · rintro k v n V V' ⟨h1,h2⟩ ht
   exact sg4
 · rintro k x v W hx hW ⟨hb,hi,hk,hk60,hs⟩
   obtain⟨hl,hf⟩:=h.lies (List.mem_of_getElem? hx)
   have hxs:=Qf hx
   rw[Array.append_empty]
   refine (zdH W X x v.i v.k hl hb hf om om).mono ?_
   rintro e W' ⟨p',q',m,rfl,hb2,hc⟩
   refine⟨⟨p',q'⟩,m,rfl,hb2.size,fun q hq=>hb2.block q (by rcases hq with hq | hq;have:=hb.size;omega;omega),fun hm=>?_,fun hm=>?_⟩
   · rcases hc with ⟨_,rfl,rfl,h1,h2⟩ | ⟨h1,_⟩
     · have hq:=kE hxs
       exact⟨hb.trans (hb2.mono hb.size),by show v.i - 1=_;omega,by show v.k - _=_;rw[hq];omega,by omega,by rw[hq];omega⟩
     · omega
   · rcases hc with ⟨h1,_⟩ | ⟨rfl,h1⟩
     · exact absurd h1 hm
     · refine⟨hb.trans (hb2.mono hb.size),rfl,?_⟩
       rw[Bool.eq_false_iff]
       intro ho
       rw[jA] at ho
       have hq:=kE hxs
       have h3:=J8 (steps (flat rs)) (k+1)
       have h4:=(List.getElem?_eq_some_iff.1 hxs).1
       rcases h1 with h1 | h1<;>omega
theorem zgI (X:World) (NB R:Nat) (rs:List RH) (h:RowsIn X NB R rs):
 Calls Tryz.prog 42 #[.func (.func 43) #[] #[.pointer (some ⟨NB,0,none⟩)]] X fun e w'=>e= .returned (.int .i64 (jZ (steps (flat rs))))∧Below X.heap.size X w':=by
 have hf:=zfp X NB R ⟨60,200⟩ (zfg h) h.j (by have:=h.few;omega) (fun r hr=>(h.rows r hr).len) (by have:=zg0 h;omega) ⟨BrQ _ _,by simp,by simp[yK],by omega,by simp[yK]⟩
 have hf2:Calls Tryz.prog 59 #[.agg #[.int .i64 60,.int .i64 200],.func (.func 43) #[] #[.pointer (some ⟨NB,0,none⟩)],.func (.func 60) #[] #[]] X fun e w'=>∃(p q k:Int),e= .returned (.tuple #[.agg #[.int .i64 p,.int .i64 q],.int .i64 k,.int .i64 (jZ (steps (flat rs)))])∧Below X.heap.size X w':=hf.mono (by
  rintro e w' ⟨k,v,n,rfl,hh⟩
  rcases hh with ⟨rfl,rfl,h1⟩ | ⟨_,_,h1,h2,h3⟩
  · have ho:kI (steps (flat rs))=true:=by
     rw[jA,qM]
     have:=h1.2.2.2.2
     rw[List.take_of_length_le (by rw[qM];exact Nat.le_refl _)] at this
     exact⟨h1.2.2.2.1,this⟩
    exact⟨v.i,v.k,_,by rw[jZ,if_pos ho];rfl,h1.1⟩
  · exact⟨v.i,v.k,_,by rw[jZ,if_neg (by rw[h3];exact Bool.false_ne_true),h2];rfl,h1⟩)
 obtain⟨c,hc⟩:∃c,c=jZ (steps (flat rs)):=⟨_,rfl⟩
 rw[←hc] at hf2 ⊢
 have HF:=hH hf2
 clear hf hf2 hc h
 go_enter Tryz.func42,Tryz.ntmps42
 go_wp2_with fail
 refine HF.out.mono ?_
 rintro e w2 ⟨p,q,k,rfl,hb⟩
 have HB:=hH (hb.trans ((zh w2 (.cells #[.int .i64 p,.int .i64 q] 99)).mono hb.size))
 clear hb HF
 go_wp2_with fail
 go_ret
 exact⟨rfl,HB.out⟩
theorem zeg {X:World} {a:Option Addr} {c:Nat} {vs:List SV} {NB R:Nat} (h:Row X a vs) (h1:X.heap[NB]? =some (.cells #[.slice (some ⟨R,0,none⟩) 1 1] 76 (0,0))) (h2:X.heap[R]? =some (.cells #[.slice a vs.length c] 28 (0,0))):RowsIn X NB R [⟨a,c,vs⟩]:=
 ⟨h1,h2,fun r hr=>by rw[List.mem_singleton] at hr;subst hr;exact h,by simp⟩
theorem zg1 (a:Option Addr) (c:Nat) (vs:List SV):flat [⟨a,c,vs⟩]=vs:=by simp[flat]
theorem zeV (w:World) (a:Option Addr) (n c:Nat) (vs:List SV) (hn:n=vs.length) (h:Row w a vs):
 Calls Tryz.prog 21 #[.slice a n c] w fun e w'=>e= .returned (.int .i64 (jZ (steps vs)))∧Below w.heap.size w w':=by
 obtain⟨X,hX⟩:∃X,X=zt w [.cells #[.slice a n c] 28,.cells #[.slice (some ⟨w.heap.size,0,none⟩) 1 1] 76]:=⟨_,rfl⟩
 have hb:Below w.heap.size w X:=by rw[hX];exact zm _ _
 have e0:X.heap[w.heap.size]? =some (.cells #[.slice a n c] 28 (0,0)):=by rw[hX];exact zi _ _ 0 _ rfl
 have e1:X.heap[w.heap.size+1]? =some (.cells #[.slice (some ⟨w.heap.size,0,none⟩) 1 1] 76 (0,0)):=by rw[hX];exact zi _ _ 1 _ rfl
 have hc:=zgI X (w.heap.size+1) w.heap.size _ (zeg (c:=c) (h.on hb) e1 (by rw[←hn];exact e0))
 rw[zg1] at hc
 have HC:=hH hc
 have HX:=hH hX
 have HB:=hH hb
 obtain⟨m,hm⟩:∃m,m=jZ (steps vs):=⟨_,rfl⟩
 rw[←hm] at HC ⊢
 clear hc hX hb e0 e1 hm h hn
 go_enter Tryz.func21,Tryz.ntmps21
 go_wp2_with (go_at_call 23;refine (zft _ _ _ _).mono ?_;rintro e w2 ⟨rfl,rfl⟩)
 change Calls _ _ _ (zt w [.cells #[.slice a n c] 28,.cells #[.slice (some ⟨w.heap.size,0,none⟩) 1 1] 76]) _
 rw[←HX.out]
 refine HC.out.mono ?_
 rintro e w3 ⟨rfl,hb3⟩
 have HB3:=hH (HB.out.trans (hb3.mono HB.out.size))
 clear hb3 HC HX
 go_wp2_with fail
 go_ret
 exact⟨rfl,HB3.out⟩
def goW (g:Gr) (root:Int) (t:Tr):List Sf→Option Tr
 | []=>some t
 | s::l=>if inW root t s.op s.id s.par=true∧(doK g (s.on t)).2=0 then goW g root (doK g (s.on t)).1 l else none
theorem zcC {g:Gr} {root:Int}:∀{l:List Sf} {t x:Tr} {s:Sf},goW g root t l=some x→inW root x s.op s.id s.par=true→(doK g (s.on x)).2=0→goW g root t (l++[s])=some (doK g (s.on x)).1
 | [],t,x,s,h,h1,h2=>by cases h;show goW g root t [s]=_;rw[goW,if_pos ⟨h1,h2⟩];rfl
 | r ::l,t,x,s,h,h1,h2=>by
   rw[goW] at h
   rw[List.cons_append,goW]
   split at h
   · rename_i h0;rw[if_pos h0];exact zcC h h1 h2
   · cases h
theorem J2 {g:Gr} {root:Int}:∀{l:List Sf} {k:Nat} {t x:Tr} {s:Sf},goW g root t (l.take k)=some x→l[k]? =some s→¬(inW root x s.op s.id s.par=true∧(doK g (s.on x)).2=0)→goW g root t l=none
 | [],k,t,x,s,_,hs,_=>by simp at hs
 | r ::l,0,t,x,s,h,hs,hn=>by
   simp at hs;subst hs
   rw[List.take_zero] at h;cases h
   rw[goW,if_neg hn]
 | r ::l,k+1,t,x,s,h,hs,hn=>by
   rw[List.take_succ_cons,goW] at h
   rw[goW]
   split at h
   · rename_i hr;rw[if_pos hr];exact J2 h (by simpa using hs) hn
   · cases h
def zjD (w:World) (g:Gr) (root:Int) (t:Tr) (l:List Sf) (e:Ending) (w' :World):Prop:=∃at_ er:Int,e= .returned (.tuple #[.int .i64 at_,.int .i64 er])∧(er=0→at_=(l.length:Int)∧kI l=true∧(∃q,zx root t=some q)∧∃x,goW g root t l=some x)∧(kI l=true→(∃q,zx root t=some q)→(∃x,goW g root t l=some x)→er=0)∧Below w.heap.size w w'
structure zeU (w:World) (g:Gr) (ga:Option Addr) (gn gc:Nat) (x:Tr) (va:Option Addr) (vc:Nat) (wr:World):Prop where
 below:Below w.heap.size w wr
 gr:wr.heap[w.heap.size]? =some (.cells #[.slice ga gn gc,.int .i64 g.root] 24 (0,0))
 tr:wr.heap[w.heap.size+1]? =some (.cells #[.int .i64 x.id,.int .i64 x.kind,.string x.text,.slice va (foLen x.kids) vc] 27 (0,0))
 lies:zaL wr (fun q=>q=w.heap.size+1) x.kids va vc
theorem zeU.on {w V V' :World} {g:Gr} {ga:Option Addr} {gn gc:Nat} {x:Tr} {va:Option Addr} {vc:Nat} (h:zeU w g ga gn gc x va vc V) (k:Below V.heap.size V V'):zeU w g ga gn gc x va vc V':=
 ⟨h.below.trans (k.mono h.below.size),(k.block _ (lohQ h.gr)).trans h.gr,(k.block _ (lohQ h.tr)).trans h.tr,h.lies.on k⟩
theorem zi4 {t:Tr} (h:okF (spF 1 (zl t))):∀i∈idT t,(Lit.int .i64 i).wf=true:=fun i hi=>by
 rw[←ZJ] at hi
 obtain⟨y,hy,rfl⟩:=List.mem_map.1 hi
 exact (h y hy).2
theorem zcn {t:Tr} (h:qB t):(idT t).Nodup:=by
 unfold qB at h
 rw[←Qu 1] at h
 rw[←ZJ];exact h
theorem ziA {g:Gr} {t:Tr} {s:Sf} (h0:(doK g (s.on t)).2=0):(idT (doK g (s.on t)).1).Nodup:=by
 unfold doK at h0 ⊢
 split at h0
 · rename_i h1
   split at h0
   · rename_i h2;rw[if_pos h1,if_pos h2];exact zcn (kS h2).1
   · rename_i h2;exact absurd h0 h2
 · rename_i h1;exact absurd h0 h1
theorem zf8 (w :World) (g:Gr) (t:Tr) (root:Int) (ga ta la:Option Addr) (gn gc tn tc n c:Nat) (vs:List SV) (hgn:gn=g.kinds.length) (hg:GrV w (.agg #[.slice ga g.kinds.length gc,.int .i64 g.root]) g) (hf:g.few) (htn:tn=foLen t.kids) (ht:jC w t.kids ta tc) (hw:Way t) (hd:(idT t).Nodup) (hn:n=vs.length) (h:Row w la vs) (hwf:∀x∈vs,(Lit.int .i64 x.s.id).wf=true∧(Lit.int .i64 x.s.par).wf=true):
 Calls Tryz.prog 15 #[.agg #[.slice ga gn gc,.int .i64 g.root],.agg #[.int .i64 t.id,.int .i64 t.kind,.string t.text,.slice ta tn tc],.int .i64 root,.slice la n c] w (zjD w g root t (steps vs)):=by
 obtain⟨W,hW⟩:∃W,W=zt w [.cells #[.slice ga gn gc,.int .i64 g.root] 24,.cells #[.int .i64 t.id,.int .i64 t.kind,.string t.text,.slice ta tn tc] 27]:=⟨_,rfl⟩
 have hb:Below w.heap.size w W:=by rw[hW];exact zm _ _
 have e0:W.heap[w.heap.size]? =some (.cells #[.slice ga gn gc,.int .i64 g.root] 24 (0,0)):=by rw[hW];exact zi _ _ 0 _ rfl
 have e1:W.heap[w.heap.size+1]? =some (.cells #[.int .i64 t.id,.int .i64 t.kind,.string t.text,.slice ta tn tc] 27 (0,0)):=by rw[hW];exact zi _ _ 1 _ rfl
 have hI:zeU w g ga gn gc t ta tc W:=⟨hb,e0,by rw[←htn];exact e1,ht.1,ht.2.kept fun q hq=>⟨⟨nL hq hb.size,by omega⟩,hb.block q hq⟩⟩
 have hgr:∀X,Below w.heap.size w X→GrV X (.agg #[.slice ga gn gc,.int .i64 g.root]) g:=fun X hX=>by rw[hgn];exact hg.below hX
 have hc:=zeV W la n c vs hn (h.on hb)
 have hnl:n≤1000000:=by rw[hn];exact h.len
 have HC:=hH hc
 have HI:=hH hI
 have H:=hH (aN hgr (aN hf (aN hw (aN hd (aN hn (aN h (aN hwf htn)))))))
 have HW:=hH hW
 obtain⟨m,hm⟩:∃m,m=jZ (steps vs):=⟨_,rfl⟩
 rw[←hm] at HC
 have HM:=hH hm
 clear hb e0 e1 hI hgr hc hf hw hd hn h hwf hW hg hgn ht hm htn
 go_enter Tryz.func15,Tryz.ntmps15
 go_wp2_with fail
 change Calls _ _ _ (zt w [.cells #[.slice ga gn gc,.int .i64 g.root] 24,.cells #[.int .i64 t.id,.int .i64 t.kind,.string t.text,.slice ta tn tc] 27]) _
 rw[←HW.out]
 clear HW
 refine HC.out.mono ?_
 rintro e w1 ⟨rfl,hb1⟩
 have HI1:=hH (HI.out.on hb1)
 clear hb1 HI HC
 by_cases h0:m=0
 · subst h0
   have hok:kI (steps vs)=true:=by
    have hx:=HM.out
    unfold jZ at hx
    split at hx
    · assumption
    · cases hx
   have HOK:=hH hok
   clear hok HM
   have ht1:=HI1.out.tr
   rw[←H.out.2.2.2.2.2.2.2] at ht1
   obtain⟨p0,p1,p2,p3⟩:=zG ht1
   have HF:=hH (JP w1 (fun q=>zN w1 q∧(q<w1.heap.size∧¬q=w.heap.size+1)) (.agg #[.int .i64 t.id,.int .i64 t.kind,.string t.text,.slice ta tn tc]) t root (fun q hq=>hq.1) ⟨ta,tc,by rw[H.out.2.2.2.2.2.2.2],HI1.out.lies.1,vv HI1.out.lies.2⟩ (by have:=H.out.2.2.1.size;omega))
   clear ht1
   go_wp2_with fail
   refine HF.out.mono ?_
   rintro e w2 ⟨z,za,zc,ok,rfl,hvc,hvf,hb2,hy,hnn⟩
   clear HF p0 p1 p2 p3 hvc hvf
   obtain⟨zn,hzn⟩:∃zn,zn=foLen z.kids:=⟨_,rfl⟩
   rw[←hzn]
   obtain⟨W3,hW3⟩:∃W3,W3=w2.alloc (.cells #[.int .i64 z.id,.int .i64 z.kind,.string z.text,.slice za zn zc] 27):=⟨_,rfl⟩
   have hb3:Below w1.heap.size w1 W3:=hb2.trans (by rw[hW3];exact (BrQ _ _).alloc hb2.size _)
   have HI3:=hH (HI1.out.on hb3)
   have HY:=hH (aN hy hnn)
   have HW3:=hH hW3
   clear hb2 hW3 hb3 hy hnn HI1 hzn
   go_upto_region 5 with fail
   change Code.wp _ _ _ _ (w2.alloc (.cells #[.int .i64 z.id,.int .i64 z.kind,.string z.text,.slice za zn zc] 27))
   rw[←HW3.out]
   clear HW3
   cases ok with
   | false=>
     go_wp2_with fail
     go_ret2
     exact⟨0,4,rfl,fun h=>absurd h (by decide),fun _ hq _=>(by obtain⟨q,hq⟩:=hq;rw[HY.out.2 (by trivial)] at hq;cases hq),HI3.out.below⟩
   | true =>
     obtain⟨qq,hqq,_⟩:=HY.out.1 (by trivial)
     have HP:=hH hqq
     clear hqq HY
     go_wp2_with fail
     go_loopw [8,9,29] (fun at_ ev i wr=>∃k:Nat,k≤n∧at_= .int .i64 (k:Int)∧ev= .int .i64 0∧i= .int .i64 (k:Int)∧Hid (∃x va vc,goW g root t ((steps vs).take k)=some x∧Way x∧(idT x).Nodup∧zeU w g ga gn gc x va vc wr)) (fun _ _ i _=>n - (intOf i).toNat)
     case atStart=>exact⟨0,Nat.zero_le _,rfl,rfl,rfl,hH ⟨t,ta,tc,rfl,H.out.2.2.1,H.out.2.2.2.1,HI3.out⟩⟩
     case round=>
      obtain⟨k,hk,rfl,rfl,rfl,hh⟩:=hrel
      by_cases hlt:k<n
      · have hki:(k:Int)<(n:Int):=by omega
        obtain⟨x,va,vc,hgo,hwx,hdx,hIx⟩:=hh.out
        obtain⟨s,hs⟩:∃s,vs[k]? =some s:=⟨_,List.getElem?_eq_getElem (by rw[←H.out.2.2.2.2.1];exact hlt)⟩
        obtain⟨b,off,rfl,hbl,hcell⟩:=H.out.2.2.2.2.2.1.cells k s hs
        obtain⟨sn,hsn⟩:∃sn,sn=foLen s.s.sub.kids:=⟨_,rfl⟩
        obtain⟨xn,hxn⟩:∃xn,xn=foLen x.kids:=⟨_,rfl⟩
        have hrow:∀(j:Nat) (u:Value),(zeO s.s s.a s.c)[j]? =some u→wr.cell? ⟨b,off+k*9+j,none⟩=some u:=fun j u hj=>(hIx.below.cell (p:=⟨b,off+k*9+j,none⟩) hbl).trans (hcell j u hj)
        obtain⟨r0,r1,r2,r3,r4,r5,r6,r7,r8⟩:wr.cell? ⟨b,off+k*9,none⟩=some (.int .i8 s.s.op)∧wr.cell? ⟨b,off+k*9+1,none⟩=some (.int .i64 s.s.id)∧wr.cell? ⟨b,off+k*9+2,none⟩=some (.int .i64 s.s.par)∧wr.cell? ⟨b,off+k*9+3,none⟩=some (.int .i64 s.s.at_)∧wr.cell? ⟨b,off+k*9+4,none⟩=some (.string s.s.tx)∧wr.cell? ⟨b,off+k*9+5,none⟩=some (.int .i64 s.s.sub.id)∧wr.cell? ⟨b,off+k*9+6,none⟩=some (.int .i64 s.s.sub.kind)∧wr.cell? ⟨b,off+k*9+7,none⟩=some (.string s.s.sub.text)∧wr.cell? ⟨b,off+k*9+8,none⟩=some (.slice s.a sn s.c):=⟨hrow 0 _ rfl,hrow 1 _ rfl,hrow 2 _ rfl,hrow 3 _ rfl,hrow 4 _ rfl,hrow 5 _ rfl,hrow 6 _ rfl,hrow 7 _ rfl,hrow 8 _ (by rw[hsn];rfl)⟩
        have hmem:=List.mem_of_getElem? hs
        obtain⟨V,hV⟩:∃V,V=wr.alloc (.cells #[.int .i8 s.s.op,.int .i64 s.s.id,.int .i64 s.s.par,.int .i64 s.s.at_,.string s.s.tx,.int .i64 s.s.sub.id,.int .i64 s.s.sub.kind,.string s.s.sub.text,.slice s.a sn s.c] 44):=⟨_,rfl⟩
        have hbV:Below wr.heap.size wr V:=by rw[hV];exact zh _ _
        have hIV:=hIx.on hbV
        have eS:V.heap[wr.heap.size]? =some (.cells #[.int .i8 s.s.op,.int .i64 s.s.id,.int .i64 s.s.par,.int .i64 s.s.at_,.string s.s.tx,.int .i64 s.s.sub.id,.int .i64 s.s.sub.kind,.string s.s.sub.text,.slice s.a sn s.c] 44 (0,0)):=by rw[hV];exact hanQ _ _
        obtain⟨G,hG⟩:∃G,G=wr.heap.size:=⟨_,rfl⟩
        rw[←hG] at eS
        have hGw:w.heap.size+1<G:=by rw[hG];exact lohQ hIx.tr
        have eT:=hIV.tr
        rw[←hxn] at eT
        have hstp:=zbh V (fun q=>zN V q∧(q<V.heap.size∧¬q=w.heap.size+1)) (.agg #[.int .i64 x.id,.int .i64 x.kind,.string x.text,.slice va xn vc]) x root s.s.op s.s.id s.s.par s.s.at_ s.s.sub.id s.s.sub.kind s.s.tx s.s.sub.text s.a sn s.c (fun q hq=>hq.1) ⟨va,vc,by rw[hxn],hIV.lies.1,vv hIV.lies.2⟩ (by have:=hwx.size;omega) hdx (zi4 hwx.ok) (H.out.2.2.2.2.2.2.1 s hmem).1 (H.out.2.2.2.2.2.2.1 s hmem).2
        have hss:(steps vs)[k]? =some s.s:=Qf hs
        obtain⟨ins,hins⟩:∃ins,ins=inW root x s.s.op s.s.id s.s.par:=⟨_,rfl⟩
        rw[←hins] at hstp
        have HST:=hH hstp
        have HR:=hH (aN hgo (aN hwx (aN hdx (aN hIV (aN eS (aN hGw (aN hxn (aN hsn (aN hmem (aN hss (aN hins (aN hlt eT))))))))))))
        have HV:=hH hV
        clear hgo hwx hdx hIx hs hbl hcell hsn hrow hmem hV hbV hIV eS hGw hxn hss hins hlt eT hh hk hstp HI3
        go_upto_region 10 with fail
        change Code.wp _ _ _ _ (wr.alloc (.cells #[.int .i8 s.s.op,.int .i64 s.s.id,.int .i64 s.s.par,.int .i64 s.s.at_,.string s.s.tx,.int .i64 s.s.sub.id,.int .i64 s.s.sub.kind,.string s.s.sub.text,.slice s.a sn s.c] 44))
        rw[←HV.out,←hG]
        clear HV hG r0 r1 r2 r3 r4 r5 r6 r7 r8
        obtain⟨p0,p1,p2,p3⟩:=zG HR.out.2.2.2.2.2.2.2.2.2.2.2.2
        obtain⟨s0,s1,s2,s3,s4,s5,s6,s7,s8⟩:=JG HR.out.2.2.2.2.1
        go_wp2_with fail
        refine HST.out.mono ?_
        rintro e V1 ⟨rfl,hb1⟩
        clear HST p0 p1 p2 p3 s0 s1 s2 s3 s4 s5 s6 s7 s8
        have HI1:=hH (HR.out.2.2.2.1.on hb1)
        have eS1:=(hb1.block _ (lohQ HR.out.2.2.2.2.1)).trans HR.out.2.2.2.2.1
        have eT1:=(hb1.block _ (lohQ HR.out.2.2.2.2.2.2.2.2.2.2.2.2)).trans HR.out.2.2.2.2.2.2.2.2.2.2.2.2
        have HS1:=hH (aN eS1 eT1)
        clear hb1 eS1 eT1
        cases ins with
        | false=>
          go_wp2_with fail
          go_ret2
          have hno:=J2 HR.out.1 HR.out.2.2.2.2.2.2.2.2.2.1 (fun h=>by rw[←HR.out.2.2.2.2.2.2.2.2.2.2.1] at h;exact absurd h.1 (by decide))
          exact⟨_,130,rfl,fun h=>absurd h (by decide),fun _ _ hx=>(by obtain⟨y,hy⟩:=hx;rw[hno] at hy;cases hy),HI1.out.below⟩
        | true =>
          have hfit:=H.out.2.2.2.2.2.1.fit s HR.out.2.2.2.2.2.2.2.2.1
          have hli:=H.out.2.2.2.2.2.1.lies s HR.out.2.2.2.2.2.2.2.2.1
          have hdo:=zi3 V1 (fun q=>q<V1.heap.size∧¬q=w.heap.size+1) (fun q=>q<w.heap.size) (.agg #[.slice ga gn gc,.int .i64 g.root]) (.agg #[.int .i64 x.id,.int .i64 x.kind,.string x.text,.slice va xn vc]) g x s.s.sub s.s.op s.s.id s.s.par s.s.at_ s.s.tx s.a sn s.c (H.out.1 V1 HI1.out.below) H.out.2.1 (fun q hq=>hq.1) (fun q hq=>nL hq HI1.out.below.size) ⟨va,vc,by rw[HR.out.2.2.2.2.2.2.1],HI1.out.lies.1,HI1.out.lies.2⟩ ⟨s.a,s.c,by rw[HR.out.2.2.2.2.2.2.2.1],hli.1,hli.2.kept fun q hq=>⟨hq,HI1.out.below.block q hq⟩⟩ (by have:=HR.out.2.1.size;omega) (by have:=hfit.size;omega) hfit.op HR.out.2.1.ok hfit.ok hfit.tx
          change Calls _ _ _ _ (vM V1 _ (doK g (s.s.on x))) at hdo
          obtain⟨r,hr⟩:∃r,r=doK g (s.s.on x):=⟨_,rfl⟩
          rw[←hr] at hdo
          obtain⟨y,hy⟩:∃y,y=yD r:=⟨_,rfl⟩
          obtain⟨er,her⟩:∃er,er=r.2:=⟨_,rfl⟩
          have HDO:=hH hdo
          have HE:=hH (aN hr (aN hy (aN her hfit)))
          have eg1:=HI1.out.gr
          obtain⟨g0,g1⟩:V1.cell? ⟨w.heap.size,0,none⟩=some (.slice ga gn gc)∧V1.cell? ⟨w.heap.size,1,none⟩=some (.int .i64 g.root):=⟨by rw[corQ _ _ 0 _ _ _ eg1];rfl,by rw[corQ _ _ 1 _ _ _ eg1];rfl⟩
          obtain⟨p0,p1,p2,p3⟩:=zG HS1.out.2
          obtain⟨s0,s1,s2,s3,s4,s5,s6,s7,s8⟩:=JG HS1.out.1
          clear hfit hli hdo hr hy her eg1
          go_wp2_with fail
          refine HDO.out.mono ?_
          rintro e V2 ⟨_,rfl,⟨ya,yc,rfl,hyc,hyf⟩,hb2⟩
          clear HDO g0 g1 p0 p1 p2 p3 s0 s1 s2 s3 s4 s5 s6 s7 s8
          rw[←HE.out.2.1] at hyc hyf ⊢
          obtain⟨yn,hyn⟩:∃yn,yn=foLen y.kids:=⟨_,rfl⟩
          rw[←hyn,←HE.out.2.2.1]
          have eT2:=(hb2.block _ (lohQ HS1.out.2)).trans HS1.out.2
          obtain⟨p0,p1,p2,p3⟩:=zG eT2
          have zf:∀j,V2.frozen? ⟨w.heap.size+1,j,none⟩=false:=fun j=>forQ _ _ j _ _ eT2
          obtain⟨Z,hZ,z1,z2,z3,z4,z5,z6⟩:=zA (u0:= .int .i64 y.id) (u1:= .int .i64 y.kind) (u2:= .string y.text) (u3:= .slice ya yn yc) eT2
          have hbw2:=HI1.out.below.trans (hb2.mono HI1.out.below.size)
          have hgr2:=(hb2.block _ (lohQ HI1.out.gr)).trans HI1.out.gr
          have hV1:w.heap.size+1<V1.heap.size:=lohQ HI1.out.tr
          have hne:∀q,(((q<V1.heap.size∧¬q=w.heap.size+1)∨q<w.heap.size)∨V1.heap.size≤q)→q≠w.heap.size+1:=fun q hq e=>by
           rcases hq with (h | h) | h
           · exact h.2 e
           · omega
           · omega
          have hIZ:zeU w g ga gn gc y ya yc Z:=⟨⟨z3.trans hbw2.os,z4.trans hbw2.tape,z5.trans hbw2.output,by rw[z6];exact hbw2.size,fun q hq=>(z2 q om).trans (hbw2.block q hq)⟩,(z2 _ om).trans hgr2,by rw[←hyn];exact z1,hyc,hyf.kept fun q hq=>by
           obtain⟨⟨cs,ty,fr,hcz⟩,hz2⟩:=hq
           have hq1:=hne q hz2
           exact⟨⟨by rw[z6];exact lohQ hcz,hq1⟩,z2 q hq1⟩⟩
          have HZ:=hH (aN hIZ hZ)
          clear hyc hyf hb2 hyn eT2 hZ z1 z2 z3 z4 z5 z6 hbw2 hgr2 hV1 hne hIZ HI1 HS1
          go_upto_region 13 with fail
          rw[←HZ.out.2]
          clear p0 p1 p2 p3 zf
          by_cases he:er=0
          · have he0:r.2=0:=by rw[←HE.out.2.2.1];exact he
            subst he
            have hyr:y=(doK g (s.s.on x)).1:=by rw[HE.out.2.1,←HE.out.1];unfold yD;rw[if_pos he0]
            have hd0:(doK g (s.s.on x)).2=0:=by rw[←HE.out.1];exact he0
            have hgo:goW g root t ((steps vs).take (k+1))=some y:=by
             rw[List.take_add_one,HR.out.2.2.2.2.2.2.2.2.2.1,hyr]
             exact zcC HR.out.1 HR.out.2.2.2.2.2.2.2.2.2.2.1.symm hd0
            have hwy:Way y:=by rw[hyr];exact zb2 HE.out.2.2.2 HR.out.2.1 hd0
            have hdy:(idT y).Nodup:=by rw[hyr];exact ziA hd0
            have HN:=hH (aN hgo (aN hwy hdy))
            clear he0 hyr hd0 hgo hwy hdy
            go_wp2_with fail
            exact⟨⟨k+1,by have:=HR.out.2.2.2.2.2.2.2.2.2.2.2.1;omega,by go_num,rfl,by go_num,hH ⟨y,ya,yc,HN.out.1,HN.out.2.1,HN.out.2.2,HZ.out.1⟩⟩,by have:=HR.out.2.2.2.2.2.2.2.2.2.2.2.1;simp[intOf];omega⟩
          · have hen:(er == 0)=false:=by simpa using he
            have henn:(er != 0)=true:=by simpa using he
            have HEN:=hH he
            clear he
            go_wp2_with fail
            go_ret2
            have hno:=J2 HR.out.1 HR.out.2.2.2.2.2.2.2.2.2.1 (fun h=>by have h2:=h.2;rw[←HE.out.1,←HE.out.2.2.1] at h2;exact HEN.out h2)
            exact⟨_,er,rfl,fun h=>absurd h HEN.out,fun _ _ hx=>(by obtain⟨z,hz⟩:=hx;rw[hno] at hz;cases hz),HZ.out.1.below⟩
      · have hki:¬(k:Int)<(n:Int):=by omega
        obtain rfl:k=n:=by omega
        obtain⟨x,va,vc,hgo,_,_,hIx⟩:=hh.out
        rw[List.take_of_length_le (by rw[qM,H.out.2.2.2.2.1];exact Nat.le_refl _)] at hgo
        have HX:=hH (aN hgo hIx.below)
        clear hh hlt hk hgo hIx
        go_wp2_with fail
        go_ret2
        exact⟨_,0,rfl,fun _=>⟨by rw[qM,H.out.2.2.2.2.1],HOK.out,⟨qq,HP.out⟩,x,HX.out.1⟩,fun _ _ _=>rfl,HX.out.2⟩
 · have hmb:(m == 0)=false:=by simpa using h0
   have hmn:(m != 0)=true:=by simpa using h0
   have HM0:=hH h0
   clear h0
   go_wp2_with fail
   go_ret2
   exact⟨0,m,rfl,fun h=>absurd h HM0.out,fun hok _ _=>(by rw[HM.out];unfold jZ;rw[if_pos hok]),HI1.out.below⟩
def Qg:Tr:=⟨1,0,⟨#[]⟩,.node 0 0 (2,0,⟨#[]⟩) (.node 0 0 (3,0,⟨#[]⟩) .nil .nil) (.node 0 0 (4,0,⟨#[]⟩) .nil .nil)⟩
theorem vC (w:World):Calls Tryz.prog 14 #[] w (Says true w):=by
 obtain⟨W,hW⟩:∃W,W=zt w [Obj.cells #[.int .i64 3,.int .i64 0,.string ⟨#[]⟩,.slice none 0 0] 27 (0,0),Obj.cells #[.int .i64 2,.int .i64 0,.string ⟨#[]⟩,.slice (some ⟨w.heap.size,0,none⟩) 1 1,.int .i64 4,.int .i64 0,.string ⟨#[]⟩,.slice none 0 0] 27 (0,0),Obj.cells #[.int .i64 1,.int .i64 0,.string ⟨#[]⟩,.slice (some ⟨w.heap.size+1,0,none⟩) 2 2] 27 (0,0)]:=⟨_,rfl⟩
 have hb:Below w.heap.size w W:=by rw[hW];exact zm _ _
 have h1:W.heap[w.heap.size]? =some (Obj.cells #[.int .i64 3,.int .i64 0,.string ⟨#[]⟩,.slice none 0 0] 27 (0,0)):=by rw[hW];exact zi _ _ 0 _ rfl
 have h2:W.heap[w.heap.size+1]? =some (Obj.cells #[.int .i64 2,.int .i64 0,.string ⟨#[]⟩,.slice (some ⟨w.heap.size,0,none⟩) 1 1,.int .i64 4,.int .i64 0,.string ⟨#[]⟩,.slice none 0 0] 27 (0,0)):=by rw[hW];exact zi _ _ 1 _ rfl
 have h3:W.heap[w.heap.size+1+1]? =some (Obj.cells #[.int .i64 1,.int .i64 0,.string ⟨#[]⟩,.slice (some ⟨w.heap.size+1,0,none⟩) 2 2] 27 (0,0)):=by rw[hW];exact zi _ _ 2 _ rfl
 have k1:zu W (fun x=>zN W x) (.node 0 0 (3,0,⟨#[]⟩) .nil .nil) (some ⟨w.heap.size,0,none⟩):=by
  refine⟨_,0,none,0,rfl,⟨_,_,_,h1⟩,?_,?_,?_,?_,Nat.le_refl _,True.intro,True.intro⟩
  · rw[corQ _ _ 0 _ _ _ h1];rfl
  · rw[corQ _ _ 1 _ _ _ h1];rfl
  · rw[corQ _ _ 2 _ _ _ h1];rfl
  · rw[corQ _ _ 3 _ _ _ h1];rfl
 have k2:zu W (fun x=>zN W x) Qg.kids (some ⟨w.heap.size+1,0,none⟩):=by
  refine⟨_,0,some ⟨w.heap.size,0,none⟩,1,rfl,⟨_,_,_,h2⟩,?_,?_,?_,?_,Nat.le_refl _,k1,_,4,none,0,rfl,⟨_,_,_,h2⟩,?_,?_,?_,?_,Nat.le_refl _,True.intro,True.intro⟩
  · rw[corQ _ _ 0 _ _ _ h2];rfl
  · rw[corQ _ _ 1 _ _ _ h2];rfl
  · rw[corQ _ _ 2 _ _ _ h2];rfl
  · rw[corQ _ _ 3 _ _ _ h2];rfl
  · rw[corQ _ _ 4 _ _ _ h2];rfl
  · rw[corQ _ _ 5 _ _ _ h2];rfl
  · rw[corQ _ _ 6 _ _ _ h2];rfl
  · rw[corQ _ _ 7 _ _ _ h2];rfl
 have hc:∀(X:World),Below W.heap.size W X→∀op id par:Int,(Lit.int .i64 id).wf=true→(Lit.int .i64 par).wf=true→Calls Tryz.prog 34 #[.agg #[.int .i64 1,.int .i64 0,.string ⟨#[]⟩,.slice (some ⟨w.heap.size+1,0,none⟩) 2 2],.int .i64 2,.agg #[.int .i8 op,.int .i64 id,.int .i64 par,.int .i64 0,.string ⟨#[]⟩,.int .i64 0,.int .i64 0,.string ⟨#[]⟩,.slice none 0 0]] X (Says (inW 2 Qg op id par) X):=fun X hX op id par a1 a2=>
  zbh X (fun x=>zN X x) _ Qg 2 op id par 0 0 0 ⟨#[]⟩ ⟨#[]⟩ none 0 0 (fun x hx=>hx) ⟨some ⟨w.heap.size+1,0,none⟩,2,rfl,Nat.le_refl _,k2.kept fun q hq=>by obtain⟨cs,tt,fr,h⟩:=hq;exact⟨⟨cs,tt,fr,(hX.block q (lohQ h)).trans h⟩,hX.block q (lohQ h)⟩⟩ (by decide) (by decide) (by decide) a1 a2
 have H0:Hid (∀X,Below W.heap.size W X→Calls Tryz.prog 34 #[.agg #[.int .i64 1,.int .i64 0,.string ⟨#[]⟩,.slice (some ⟨w.heap.size+1,0,none⟩) 2 2],.int .i64 2,.agg #[.int .i8 4,.int .i64 2,.int .i64 0,.int .i64 0,.string ⟨#[]⟩,.int .i64 0,.int .i64 0,.string ⟨#[]⟩,.slice none 0 0]] X (Says true X)):=hH fun X hX=>by have:=hc X hX 4 2 0 (by decide) (by decide);rwa [show inW 2 Qg 4 2 0=true by decide] at this
 have H1:Hid (∀X,Below W.heap.size W X→Calls Tryz.prog 34 #[.agg #[.int .i64 1,.int .i64 0,.string ⟨#[]⟩,.slice (some ⟨w.heap.size+1,0,none⟩) 2 2],.int .i64 2,.agg #[.int .i8 1,.int .i64 0,.int .i64 3,.int .i64 0,.string ⟨#[]⟩,.int .i64 0,.int .i64 0,.string ⟨#[]⟩,.slice none 0 0]] X (Says true X)):=hH fun X hX=>by have:=hc X hX 1 0 3 (by decide) (by decide);rwa [show inW 2 Qg 1 0 3=true by decide] at this
 have H2:Hid (∀X,Below W.heap.size W X→Calls Tryz.prog 34 #[.agg #[.int .i64 1,.int .i64 0,.string ⟨#[]⟩,.slice (some ⟨w.heap.size+1,0,none⟩) 2 2],.int .i64 2,.agg #[.int .i8 2,.int .i64 3,.int .i64 0,.int .i64 0,.string ⟨#[]⟩,.int .i64 0,.int .i64 0,.string ⟨#[]⟩,.slice none 0 0]] X (Says true X)):=hH fun X hX=>by have:=hc X hX 2 3 0 (by decide) (by decide);rwa [show inW 2 Qg 2 3 0=true by decide] at this
 have H3:Hid (∀X,Below W.heap.size W X→Calls Tryz.prog 34 #[.agg #[.int .i64 1,.int .i64 0,.string ⟨#[]⟩,.slice (some ⟨w.heap.size+1,0,none⟩) 2 2],.int .i64 2,.agg #[.int .i8 2,.int .i64 2,.int .i64 0,.int .i64 0,.string ⟨#[]⟩,.int .i64 0,.int .i64 0,.string ⟨#[]⟩,.slice none 0 0]] X (Says false X)):=hH fun X hX=>by have:=hc X hX 2 2 0 (by decide) (by decide);rwa [show inW 2 Qg 2 2 0=false by decide] at this
 have H4:Hid (∀X,Below W.heap.size W X→Calls Tryz.prog 34 #[.agg #[.int .i64 1,.int .i64 0,.string ⟨#[]⟩,.slice (some ⟨w.heap.size+1,0,none⟩) 2 2],.int .i64 2,.agg #[.int .i8 3,.int .i64 3,.int .i64 4,.int .i64 0,.string ⟨#[]⟩,.int .i64 0,.int .i64 0,.string ⟨#[]⟩,.slice none 0 0]] X (Says false X)):=hH fun X hX=>by have:=hc X hX 3 3 4 (by decide) (by decide);rwa [show inW 2 Qg 3 3 4=false by decide] at this
 have H5:Hid (∀X,Below W.heap.size W X→Calls Tryz.prog 34 #[.agg #[.int .i64 1,.int .i64 0,.string ⟨#[]⟩,.slice (some ⟨w.heap.size+1,0,none⟩) 2 2],.int .i64 2,.agg #[.int .i8 4,.int .i64 1,.int .i64 0,.int .i64 0,.string ⟨#[]⟩,.int .i64 0,.int .i64 0,.string ⟨#[]⟩,.slice none 0 0]] X (Says false X)):=hH fun X hX=>by have:=hc X hX 4 1 0 (by decide) (by decide);rwa [show inW 2 Qg 4 1 0=false by decide] at this
 have HB:=hH (aN hb h3)
 have HW:=hH hW
 clear hb h1 h2 h3 k1 k2 hc hW
 go_enter Tryz.func14,Tryz.ntmps14
 go_upto_region 2 with fail
 change Code.wp _ _ _ _ (zt w [Obj.cells #[.int .i64 3,.int .i64 0,.string ⟨#[]⟩,.slice none 0 0] 27 (0,0),Obj.cells #[.int .i64 2,.int .i64 0,.string ⟨#[]⟩,.slice (some ⟨w.heap.size,0,none⟩) 1 1,.int .i64 4,.int .i64 0,.string ⟨#[]⟩,.slice none 0 0] 27 (0,0),Obj.cells #[.int .i64 1,.int .i64 0,.string ⟨#[]⟩,.slice (some ⟨w.heap.size+1,0,none⟩) 2 2] 27 (0,0)])
 rw[←HW.out]
 clear HW
 obtain⟨p0,p1,p2,p3⟩:=zG HB.out.2
 go_wp2_with fail
 refine (H0.out W (BrQ _ _)).mono ?_
 rintro e X0 ⟨rfl,hb0⟩
 clear p0 p1 p2 p3
 have HX0:=hH (show Below W.heap.size W X0 from hb0)
 clear hb0
 obtain⟨p0,p1,p2,p3⟩:=zG ((HX0.out.block _ (lohQ HB.out.2)).trans HB.out.2)
 go_wp2_with fail
 refine (H1.out X0 (HX0.out)).mono ?_
 rintro e X1 ⟨rfl,hb1⟩
 clear p0 p1 p2 p3
 have HX1:=hH (show Below W.heap.size W X1 from (HX0.out).trans (hb1.mono (HX0.out).size))
 clear hb1
 obtain⟨p0,p1,p2,p3⟩:=zG ((HX1.out.block _ (lohQ HB.out.2)).trans HB.out.2)
 go_wp2_with fail
 refine (H2.out X1 (HX1.out)).mono ?_
 rintro e X2 ⟨rfl,hb2⟩
 clear p0 p1 p2 p3
 have HX2:=hH (show Below W.heap.size W X2 from (HX1.out).trans (hb2.mono (HX1.out).size))
 clear hb2
 obtain⟨p0,p1,p2,p3⟩:=zG ((HX2.out.block _ (lohQ HB.out.2)).trans HB.out.2)
 go_wp2_with fail
 refine (H3.out X2 (HX2.out)).mono ?_
 rintro e X3 ⟨rfl,hb3⟩
 clear p0 p1 p2 p3
 have HX3:=hH (show Below W.heap.size W X3 from (HX2.out).trans (hb3.mono (HX2.out).size))
 clear hb3
 obtain⟨p0,p1,p2,p3⟩:=zG ((HX3.out.block _ (lohQ HB.out.2)).trans HB.out.2)
 go_wp2_with fail
 refine (H4.out X3 (HX3.out)).mono ?_
 rintro e X4 ⟨rfl,hb4⟩
 clear p0 p1 p2 p3
 have HX4:=hH (show Below W.heap.size W X4 from (HX3.out).trans (hb4.mono (HX3.out).size))
 clear hb4
 obtain⟨p0,p1,p2,p3⟩:=zG ((HX4.out.block _ (lohQ HB.out.2)).trans HB.out.2)
 go_wp2_with fail
 refine (H5.out X4 (HX4.out)).mono ?_
 rintro e X5 ⟨rfl,hb5⟩
 clear p0 p1 p2 p3
 have HX5:=hH (show Below W.heap.size W X5 from (HX4.out).trans (hb5.mono (HX4.out).size))
 clear hb5
 obtain⟨p0,p1,p2,p3⟩:=zG ((HX5.out.block _ (lohQ HB.out.2)).trans HB.out.2)
 go_wp2_with fail
 go_ret
 exact⟨rfl,HB.out.1.trans (HX5.out.mono HB.out.1.size)⟩
end Go.Proofs.YtgkmmnihaiopaaaGreat
