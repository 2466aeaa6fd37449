/-
  .
-/
import Derived.Test.YtgkmmnihaiopaaaGreatGRFitsQv
import Derived.Test.YtgkmmnihaiopaaaGreatICopiedQv
import Derived.Test.YtgkmmnihaiopaaaGreatKTakeAQv
set_option maxRecDepth 100000
set_option maxHeartbeats 40000000
set_option linter.unusedVariables false
set_option linter.unusedSimpArgs false
namespace Go.Proofs.YtgkmmnihaiopaaaGreat
open Go.RowKit Go.Shelf
attribute [local go_sem] Oper.semAt_some
def yV:Fo→List Int
 | .nil=>[]
 | .node _ _ k _ r=>k.2.1::yV r
theorem vF:∀f:Fo,(yV f).length=foLen f
 | .nil=>rfl
 | .node _ _ _ _ r=>by simp[yV,foLen,vF r]
theorem QX:∀(j:Nat) (f:Fo) (b o:Nat) (a:Int×Int×ByteArray) (l r:Fo),zq j f= .node b o a l r→(yV f)[j]? =some a.2.1
 | 0,.nil,_,_,_,_,_,h=>by cases h
 | _+1,.nil,_,_,_,_,_,h=>by cases h
 | 0,.node _ _ _ _ _,_,_,_,_,_,h=>by cases h;rfl
 | j+1,.node _ _ _ _ r',b,o,a,l,r,h=>by simpa [yV] using QX j r' b o a l r h
def zb3 (w:World)(f:Fo)(e:Ending)(w' :World):Prop:=∃a cap,e= .returned (.slice a (yV f).length cap)∧qz w' a (yV f)∧Below w.heap.size w w'
def zej (w:World)(g nb:Nat)(c1:Array Value)(f:Fo)(n k:Nat)(wr:World):Prop:=
 ∃cs:Array Value,wr.heap[g]? =some (.cells cs 3 (0,0))∧cs.size=n∧(∀j,j<k→∃x,(yV f)[j]? =some x∧cs[j]? =some (.int .i64 x))∧wr.heap[nb]? =some (.cells c1 27 (0,0))∧Below w.heap.size w wr
theorem Tryz.zdq:(Tryz.prog.info? 3).map (fun i=>(i.zero,i.size,i.bytes))=some (some (.int .i64 0),1,8):=by kernel_rfl
theorem zeW (W:World)(q:Nat)(h:q≤1000000):∃zs:Array Value,zs.size=q∧(Instr.makeSlice 53 (.int .i64 (q:Int)) (.int .i64 (q:Int))).run Tryz.prog W= .ok (.slice (some ⟨W.heap.size,0,none⟩) q q) (W.alloc (.cells zs 3)):=by
 obtain⟨i0,hi,hz0,hz1,hz2⟩:=info_parts Tryz.zdq
 have hr:=run_makeSlice (P:=Tryz.prog) W 53 3 i0 (.int .i64 0) Tryz.underlying53 hi hz0 .i64 .i64 (q:Int) (q:Int) om om (by rw[hz1];omega) (by rw[hz2];omega) om
 rw[hz1] at hr
 refine⟨_,?_,by rw[hr];simp;rfl⟩
 rw[size_madeCells]
theorem zgm (w:World)(S:Nat→Prop)(nv:Value)(t:Tr)(hS:∀x,S x→x<w.heap.size)(ht:zG w S nv t)(hsz:foLen t.kids≤1000000):Calls Tryz.prog 124 #[nv] w (zb3 w t.kids):=by
 obtain⟨ka,cap,rfl,hcap,hk⟩:=ht
 obtain⟨n,hn⟩:∃n,n=foLen t.kids:=⟨_,rfl⟩
 have hn6:n≤1000000:=by omega
 rw[←hn]
 obtain⟨W0,hW0⟩:∃W0,W0=w.alloc (.cells #[.int .i64 t.id,.int .i64 t.kind,.string t.text,.slice ka n cap] 27):=⟨_,rfl⟩
 obtain⟨zs,hzs,hmk⟩:=zeW W0 n hn6
 have hs0:W0.heap.size=w.heap.size+1:=by rw[hW0];simp
 have hbx:W0.heap[w.heap.size]? =some (.cells #[.int .i64 t.id,.int .i64 t.kind,.string t.text,.slice ka n cap] 27 (0,0)):=by rw[hW0];exact hanQ w _
 have hst:zej w (w.heap.size+1) w.heap.size #[.int .i64 t.id,.int .i64 t.kind,.string t.text,.slice ka n cap] t.kids n 0 (W0.alloc (.cells zs 3)):=by
  refine⟨zs,by rw[←hs0];exact hanQ W0 _,hzs,fun j hj=>by omega,(BhaQ W0 _ _ om).trans hbx,?_⟩
  rw[hW0];exact ((BrQ _ w).alloc (NlrQ _) _).alloc sp1 _
 have H:=hH (aN hS (aN hcap (aN hk (aN hn (aN hst hW0)))))
 rw[hW0] at hmk
 clear hS hcap hk hn hst hW0 hs0 hbx hzs hsz
 go_enter Tryz.func124,Tryz.ntmps124
 go_wp2_with fail
 rw[←H.out.2.2.2.2.2]
 go_loopw [4,12] (fun _ i wr=>∃k:Nat,k≤n∧i= .int .i64 (k:Int)∧Hid (zej w (w.heap.size+1) w.heap.size #[.int .i64 t.id,.int .i64 t.kind,.string t.text,.slice ka n cap] t.kids n k wr)) (fun _ i _=>n - (intOf i).toNat)
 case atStart=>exact⟨0,NzlQ _,rfl,hH H.out.2.2.2.2.1⟩
 case round=>
  obtain⟨k,hk,rfl,hr⟩:=hrel
  by_cases hlt:k<n
  · obtain⟨cs,hg,hsz,hcs,hbx,hbl⟩:=hr.out
    have p3:wr.cell? ⟨w.heap.size,3,none⟩=some (.slice ka n cap):=by rw[corQ wr _ 3 _ _ _ hbx];rfl
    have hk1:zt wr S t.kids ka:=H.out.2.2.1.kept fun x hx=>⟨hx,hbl.block x (H.out.1 x hx)⟩
    obtain⟨b0,o0,⟨ki,kk,kt⟩,l',r,hd1',b,off,a1,n1,rfl,hSb,c0,c1,c2,c3,hc1,hl1⟩:=hk1.at k (by rw[←H.out.2.2.2.1];exact hlt)
    have hkk:=QX k t.kids _ _ _ _ _ hd1'
    obtain⟨v,hv⟩:∃v,cs[k]? =some v:=⟨_,Array.getElem?_eq_getElem om⟩
    have g0:wr.cell? ⟨w.heap.size+1,k,none⟩=some v:=by rw[corQ wr _ k _ _ _ hg];exact hv
    have f0:wr.frozen? ⟨w.heap.size+1,k,none⟩=false:=forQ wr _ k _ _ hg
    have hnx:zej w (w.heap.size+1) w.heap.size #[.int .i64 t.id,.int .i64 t.kind,.string t.text,.slice (some ⟨b,off,none⟩) n cap] t.kids n (k+1) (wr.setCell ⟨w.heap.size+1,k,none⟩ (.int .i64 kk)):=by
     refine⟨cs.setIfInBounds k (.int .i64 kk),by rw[hssQ wr _ k _ _ _ hg],by simp[hsz],fun j hj=>?_,(BhsQ _ _ _ _ sp1).trans hbx,hbl.setCell sp1 _⟩
     by_cases e:j=k
     · subst e;exact⟨kk,hkk,by simp[hsz,hlt]⟩
     · obtain⟨x,hx1,hx2⟩:=hcs j om
       exact⟨x,hx1,by rw[Array.getElem?_setIfInBounds_ne om];exact hx2⟩
    have HNX:=hH hnx
    have hkl:(k:Int)<(n:Int):=by omega
    have HLT:=hH hlt
    clear hnx hkk hv hk1 hd1' hg hsz hcs hbx hbl hSb hc1 hl1 hlt
    go_wp2_with fail
    exact⟨⟨k+1,HLT.out,by go_num,HNX⟩,by have:=HLT.out;simp[intOf];omega⟩
  · have hkn:k=n:=by omega
    have HKN:=hH hkn
    have hkl:¬(k:Int)<(n:Int):=by omega
    clear hkn hlt
    go_wp2_with fail
    go_ret
    obtain⟨cs,hg,hsz,hcs,hbx,hbl⟩:=hr.out
    have hln:(yV t.kids).length=n:=by rw[vF,H.out.2.2.2.1]
    refine⟨some ⟨w.heap.size+1,0,none⟩,n,by rw[hln];rfl,fun _=>⟨w.heap.size+1,0,rfl,lohQ hg,fun j x hx=>?_⟩,hbl⟩
    have hj:=(List.getElem?_eq_some_iff.1 hx).1
    obtain⟨x',h1,h2⟩:=hcs j (by rw[HKN.out];omega)
    rw[h1] at hx;cases hx
    rw[Nat.zero_add,corQ _ _ j _ _ _ hg];exact h2
def jG (g:Gr)(x:Tr):Bool:=Zp (kindOf g x.kind) x.text && kJ (kindOf g x.kind) (yV x.kids)
theorem zbn {n:Nat}{P:Program}{ops:Array Oper}{Q:Exit→Act→World→Prop}{S:World→Prop}{id:Nat}{a:Act}{w:World}(hm:P.follows .mixedOrders=true)(h:kY n P .any ops Q S ops.size (Array.replicate ops.size false) a w.drew):(Code.region id ops true).wpIn Fence.wide n P Q a w:=
 wpIn_region_any hm (ZZ _ _ _ _ h)
theorem vk {n:Nat}{P:Program}{ops:Array Oper}{Q:Exit→Act→World→Prop}{S:World→Prop}{id:Nat}{a:Act}{w:World}(hm:P.follows .mixedOrders=true)(h:kY n P .any ops (fun e a w=>e= .normal∧Q .normal a w) S ops.size (Array.replicate ops.size false) a w.drew):(Code.region id ops true).wpIn Fence.wide n P Q a w:=
 wpIn_mono (zbn hm h) (fun e a w h=>by obtain⟨rfl,h⟩:=h;exact h)
theorem zc3 {w:World}{b:Nat}{c0 c1:Value}(h:w.heap[b]? =some (.cells #[c0,c1] 24 (0,0))):w.cell? ⟨b,0,none⟩=some c0∧w.cell? ⟨b,1,none⟩=some c1:=
 ⟨by rw[corQ _ _ 0 _ _ _ h];rfl,by rw[corQ _ _ 1 _ _ _ h];rfl⟩
theorem zgs (w:World)(S:Nat→Prop)(gv:Value)(g:Gr)(nv:Value)(x:Tr)(hg:GrV w gv g)(hf:g.few)(hS:∀y,S y→y<w.heap.size)(hx:zG w S nv x)(hn:foLen x.kids≤1000000)(hts:(x.text.size:Int)≤9223372036854775807):
 Calls Tryz.prog 117 #[gv,nv] w (Says (jG g x) w):=by
 obtain⟨ga,gc,rfl,hgk⟩:=hg
 obtain⟨ka,cap,rfl,hcap,hk⟩:=hx
 obtain⟨n,hn0⟩:∃n,n=foLen x.kids:=⟨_,rfl⟩
 obtain⟨gn,hgn⟩:∃gn,gn=g.kinds.length:=⟨_,rfl⟩
 rw[←hn0,←hgn]
 have hal:=ze [.cells #[.slice ga gn gc,.int .i64 g.root] 24,.cells #[.int .i64 x.id,.int .i64 x.kind,.string x.text,.slice ka n cap] 27] w
 have hab:=zi [.cells #[.slice ga gn gc,.int .i64 g.root] 24,.cells #[.int .i64 x.id,.int .i64 x.kind,.string x.text,.slice ka n cap] 27] w
 have kx:=hal 0 _ rfl
 rw[Nat.add_zero] at kx
 have ky:=hal 1 _ rfl
 obtain⟨V,hV⟩:∃V,V=zl w [.cells #[.slice ga gn gc,.int .i64 g.root] 24,.cells #[.int .i64 x.id,.int .i64 x.kind,.string x.text,.slice ka n cap] 27]:=⟨_,rfl⟩
 rw[←hV] at kx ky hab
 obtain⟨SX,hSX⟩:∃SX:World→Prop,SX=fun X=>Below V.heap.size V X:=⟨_,rfl⟩
 have HSx:∀X,SX X→X.cell? ⟨w.heap.size,0,none⟩=some (.slice ga gn gc)∧X.cell? ⟨w.heap.size,1,none⟩=some (.int .i64 g.root)∧ug9 X (w.heap.size+1) x.id x.kind x.text ka n cap:=fun X h=>by
  exact sh8
 have hS0:SX V.drew:=by rw[hSX];exact⟨rfl,rfl,rfl,NlrQ _,fun _ _=>rfl⟩
 have HSB:=hH (fun (X Y:World) (h:SX X) (hb:Below X.heap.size X Y)=>(show SX Y by rw[hSX] at h ⊢;exact h.trans (hb.mono h.size)))
 have hwX:∀X,SX X→Below w.heap.size w X:=fun X h=>by rw[hSX] at h;exact hab.trans (h.mono hab.size)
 have hgX:∀X,SX X→GrV X (.agg #[.slice ga gn gc,.int .i64 g.root]) g:=fun X h=>⟨ga,gc,by rw[hgn],hgk.below (hwX X h)⟩
 obtain⟨b1,hb1⟩:∃b,b=Zp (kindOf g x.kind) x.text:=⟨_,rfl⟩
 obtain⟨b2,hb2⟩:∃b,b=kJ (kindOf g x.kind) (yV x.kids):=⟨_,rfl⟩
 obtain⟨kn,hkn⟩:∃kn,kn=(yV x.kids).length:=⟨_,rfl⟩
 have HTX:Hid (∀X,SX X→Calls Tryz.prog 122 #[.agg #[.slice ga gn gc,.int .i64 g.root],.int .i64 x.kind,.string x.text] X (Says b1 X)):=hH fun X h=>by
  have:=zis X _ g x.kind x.text (hgX X h) hf hts
  rw[←hb1] at this;exact this
 have HKI:Hid (∀X,SX X→Calls Tryz.prog 124 #[.agg #[.int .i64 x.id,.int .i64 x.kind,.string x.text,.slice ka n cap]] X (zb3 X x.kids)):=hH fun X h=>zgm X S _ x (fun y hy=>nL (hS y hy) (hwX X h).size) ⟨ka,cap,by rw[hn0],hcap,hk.below (hwX X h) hS⟩ hn
 have HFI:Hid (∀X,SX X→∀xa xc,qz X xa (yV x.kids)→Calls Tryz.prog 123 #[.agg #[.slice ga gn gc,.int .i64 g.root],.int .i64 x.kind,.slice xa kn xc] X (Says b2 X)):=hH fun X h xa xc hi=>by
  have:=zhO X _ g x.kind xa xc (yV x.kids) (hgX X h) hf hi (by rw[vF];exact hn)
  rw[←hb2,←hkn] at this;exact this
 have HKL:=hH hkn
 have HB:=hH (show jG g x=(b1 && b2) by rw[hb1,hb2];rfl)
 have HFIN:=hH hwX
 have HV:=hH hV
 clear hS hcap hk hn hts hf hgk hn0 hgn hal hab kx ky hwX hgX hSX hV hb1 hb2 hkn
 refine (callsIn_wide (n:=8)).1 ?_
 refine callsIn_of_wp_marks Tryz.func117 rfl trivial ?_ rfl
 simp only[Tryz.ntmps117,List.size_toArray,LlcQ,List.length_nil,Nat.reduceAdd,Nat.reduceSub,Array.replicate_succ,Array.replicate_zero,List.push_toArray,List.append_toArray,List.nil_append,List.cons_append]
 gi_wp2_with fail
 change Code.wpIn _ _ _ _ _ _ (zl w [.cells #[.slice ga gn gc,.int .i64 g.root] 24,.cells #[.int .i64 x.id,.int .i64 x.kind,.string x.text,.slice ka n cap] 27])
 rw[←HV.out]
 refine vk (S:=SX) kr1 ?_
 have eH:=hS0
 clear hS0
 refine zL1 (i:=0) (.agg #[.slice ga gn gc,.int .i64 g.root]) rfl ?_ ?_
 · exact ub9
 simp only[Act.put,pg]
 refine zG1 (i:=1) ((.pointer (some ⟨w.heap.size+1,1,none⟩))) rfl ?_
 simp only[Act.put,pg]
 refine zL1 (i:=2) (.int .i64 x.kind) rfl ?_ ?_
 · exact ub9
 simp only[Act.put,pg]
 refine zG1 (i:=3) ((.pointer (some ⟨w.heap.size+1,2,none⟩))) rfl ?_
 simp only[Act.put,pg]
 refine zL1 (i:=4) (.string x.text) rfl ?_ ?_
 · exact ub9
 simp only[Act.put,pg]
 refine yG (i:=5) (o:=_) kr1 rfl fun K5 hK5=>?_
 rw[ipQ ug8]
 simp only[pg3]
 have HK5:=hH hK5
 have HH5:=hH eH
 clear hK5 eH
 gi_wp2_with (refine⟨trivial,?_⟩;gi_at_call 122;refine (callsIn_wide.2 (HTX.out _ HH5.out)).mono ?_;rintro e X5 ⟨rfl,hb⟩;have HX5:=hH hb;clear hb)
 have eH:=HSB.out _ X5 HH5.out HX5.out
 refine HK5.out _ _ eH ?_
 clear HK5
 cases b1
 · refine zG1 (i:=6) (.bool false) rfl ?_
   simp only[Act.put,pg]
   refine zR1 (i:=7) rfl ?_
   simp only[Act.put,pg]
   refine zR1 (i:=8) rfl ?_
   simp only[Act.put,pg]
   refine zR1 (i:=9) rfl ?_
   simp only[Act.put,pg]
   refine zR1 (i:=10) rfl ?_
   simp only[Act.put,pg]
   refine zR1 (i:=11) rfl ?_
   simp only[Act.put,pg]
   refine zR1 (i:=12) rfl ?_
   simp only[Act.put,pg]
   refine zG1 (i:=13) (.bool false) rfl ?_
   simp only[Act.put,pg]
   refine zG1 (i:=14) (.bool false) rfl ?_
   exact sb6
 · refine zG1 (i:=6) (.bool true) rfl ?_
   simp only[Act.put,pg]
   refine zL1 (i:=7) (.agg #[.slice ga gn gc,.int .i64 g.root]) rfl ?_ ?_
   · exact ub9
   simp only[Act.put,pg]
   refine zG1 (i:=8) ((.pointer (some ⟨w.heap.size+1,1,none⟩))) rfl ?_
   simp only[Act.put,pg]
   refine zL1 (i:=9) (.int .i64 x.kind) rfl ?_ ?_
   · exact ub9
   simp only[Act.put,pg]
   refine zL1 (i:=10) (.agg #[.int .i64 x.id,.int .i64 x.kind,.string x.text,.slice ka n cap]) rfl ?_ ?_
   · exact ub9
   simp only[Act.put,pg]
   refine yG (i:=11) (o:=_) kr1 rfl fun K11 hK11=>?_
   rw[ipQ ug8]
   simp only[pg3]
   have HK11:=hH hK11
   have HH11:=hH eH
   clear hK11 eH
   gi_wp2_with (refine⟨trivial,?_⟩;gi_at_call 124;refine (callsIn_wide.2 (HKI.out _ HH11.out)).mono ?_;rintro e X11 ⟨xa,xc,rfl,hxi,hb⟩;rw[←HKL.out];have HX11:=hH (aN hxi hb);clear hxi hb)
   have eH:=HSB.out _ X11 HH11.out HX11.out.2
   refine HK11.out _ _ eH ?_
   clear HK11
   refine yG (i:=12) (o:=_) kr1 rfl fun K12 hK12=>?_
   rw[ipQ ug8]
   simp only[pg3]
   have HK12:=hH hK12
   have HH12:=hH eH
   clear hK12 eH
   gi_wp2_with (refine⟨trivial,?_⟩;gi_at_call 123;refine (callsIn_wide.2 (HFI.out _ HH12.out xa xc HX11.out.1)).mono ?_;rintro e X12 ⟨rfl,hb⟩;have HX12:=hH hb;clear hb)
   have eH:=HSB.out _ X12 HH12.out HX12.out
   refine HK12.out _ _ eH ?_
   clear HK12
   refine zG1 (i:=13) (.bool b2) rfl ?_
   simp only[Act.put,pg]
   refine zG1 (i:=14) (.bool b2) rfl ?_
   exact sb6
end Go.Proofs.YtgkmmnihaiopaaaGreat
namespace Go.Proofs.YtgkmmnihaiopaaaGreat
open Go.RowKit Go.Shelf
open Go.Maps
attribute [local go_sem] Oper.semAt_some
def jN (w:World)(b n:Nat)(ids:List Int):Prop:=w.ownsMap Tryz.prog 3 (unitElem (H:=Value)) b n (setOf (.agg []) (ids.map (Lit.int .i64 ·)))
theorem jN.at {w w' :World}{b n:Nat}{ids:List Int}(h:jN w b n ids)(e:w'.heap[b]? =w.heap[b]?):jN w' b n ids:=by
 obtain⟨es,clock,hb,h⟩:=h
 exact⟨es,clock,e.trans hb,h⟩
theorem zaN:Keyed Tryz.prog 3:=int_keyed Tryz.underlying3
theorem zbl (w:World):(zeroValue 121).run Tryz.prog w= .ok (.agg #[]) w:=by kernel_rfl
theorem zdZ {a b:Int}:(Lit.int .i64 a).sameKey (.int .i64 b)=(a == b):=by
 by_cases h:a=b
 · subst h;simp[Lit.sameKey]
 · rw[sameKey_ne ug3];simp[h]
theorem ZA (ids:List Int)(i:Int):Maps.has (setOf (.agg []:DataW Value) (ids.map (Lit.int .i64 ·))) (.int .i64 i)=ids.any (· == i):=by
 rw[has_setOf]
 · rw[List.any_map];congr 1;funext a;exact zdZ
 · intro x hx
   obtain⟨a,_,rfl⟩:=List.mem_map.1 hx
   trivial
def atB (g:Gr)(ids:List Int)(d:Nat)(x:Tr):Bool:=decide (32<d) || (decide (x.id<1) || decide (1125899906842624<x.id)) || ids.any (· == x.id) || !jG g x
theorem zc2 (w:World)(S:Nat→Prop)(gv:Value)(g:Gr)(mb mn:Nat)(ids:List Int)(d:Nat)(x:Tr)(b off cap:Nat)(ka:Option Addr)(hg:GrV w gv g)(hf:g.few)(hS:∀y,S y→y<w.heap.size)(hSb:S b)
 (hc0:w.cell? ⟨b,off,none⟩=some (.int .i64 x.id)) (hc1:w.cell? ⟨b,off+1,none⟩=some (.int .i64 x.kind)) (hc2:w.cell? ⟨b,off+2,none⟩=some (.string x.text)) (hc3:w.cell? ⟨b,off+3,none⟩=some (.slice ka (foLen x.kids) cap)) (hcap:foLen x.kids≤cap) (hk:zt w S x.kids ka)
 (hn:foLen x.kids≤1000000) (hts:(x.text.size:Int)≤9223372036854775807) (hid:(Lit.int .i64 x.id).wf=true) (hm:jN w mb mn ids):
 Calls Tryz.prog 103 #[gv,.map (some mb),.int .i64 (d:Int),.pointer (some ⟨b,off,none⟩)] w (Says (atB g ids d x) w):=by
 obtain⟨ga,gc,rfl,hgk⟩:=hg
 obtain⟨n,hn0⟩:∃n,n=foLen x.kids:=⟨_,rfl⟩
 obtain⟨gn,hgn⟩:∃gn,gn=g.kinds.length:=⟨_,rfl⟩
 rw[←hn0] at hc3
 rw[←hgn]
 have hal:=ze [.cells #[.slice ga gn gc,.int .i64 g.root] 24,.cells #[] 121] w
 have hab:=zi [.cells #[.slice ga gn gc,.int .i64 g.root] 24,.cells #[] 121] w
 have hab1:=zi [.cells #[.slice ga gn gc,.int .i64 g.root] 24] w
 have kx:=hal 0 _ rfl
 rw[Nat.add_zero] at kx
 obtain⟨V,hV⟩:∃V,V=zl w [.cells #[.slice ga gn gc,.int .i64 g.root] 24,.cells #[] 121]:=⟨_,rfl⟩
 rw[←hV] at kx hab
 have hbw:=hS b hSb
 have hb4:∀X:World,Below w.heap.size w X→X.cell? ⟨b,off,none⟩=some (.int .i64 x.id)∧X.cell? ⟨b,off+1,none⟩=some (.int .i64 x.kind)∧X.cell? ⟨b,off+2,none⟩=some (.string x.text)∧X.cell? ⟨b,off+3,none⟩=some (.slice ka n cap):=fun X h=>
  ⟨(World.cell?_of_block (a:=⟨b,off,none⟩) (h.block b hbw)).trans hc0,(World.cell?_of_block (a:=⟨b,off+1,none⟩) (h.block b hbw)).trans hc1,(World.cell?_of_block (a:=⟨b,off+2,none⟩) (h.block b hbw)).trans hc2,(World.cell?_of_block (a:=⟨b,off+3,none⟩) (h.block b hbw)).trans hc3⟩
 obtain⟨SX,hSX⟩:∃SX:World→Prop,SX=fun X=>Below V.heap.size V X:=⟨_,rfl⟩
 have hwX:∀X,SX X→Below w.heap.size w X:=fun X h=>by rw[hSX] at h;exact hab.trans (h.mono hab.size)
 have HSx:∀X,SX X→X.cell? ⟨w.heap.size,0,none⟩=some (.slice ga gn gc)∧X.cell? ⟨w.heap.size,1,none⟩=some (.int .i64 g.root)∧X.cell? ⟨b,off,none⟩=some (.int .i64 x.id)∧X.cell? ⟨b,off+1,none⟩=some (.int .i64 x.kind)∧X.cell? ⟨b,off+2,none⟩=some (.string x.text)∧X.cell? ⟨b,off+3,none⟩=some (.slice ka n cap):=fun X h=>by
  have h4:=hb4 X (hwX X h)
  rw[hSX] at h
  obtain⟨a0,a1⟩:=zc3 ((h.block _ (lohQ kx)).trans kx)
  exact⟨a0,a1,h4⟩
 have hS0:SX V.drew:=by rw[hSX];exact⟨rfl,rfl,rfl,NlrQ _,fun _ _=>rfl⟩
 have HSB:=hH (fun (X Y:World) (h:SX X) (hb:Below X.heap.size X Y)=>(show SX Y by rw[hSX] at h ⊢;exact h.trans (hb.mono h.size)))
 obtain⟨nb,hnb⟩:∃nb,nb=jG g x:=⟨_,rfl⟩
 have HND:Hid (∀X,SX X→Calls Tryz.prog 117 #[.agg #[.slice ga gn gc,.int .i64 g.root],.agg #[.int .i64 x.id,.int .i64 x.kind,.string x.text,.slice ka n cap]] X (Says nb X)):=hH fun X h=>by
  have:=zgs X S (.agg #[.slice ga gn gc,.int .i64 g.root]) g (.agg #[.int .i64 x.id,.int .i64 x.kind,.string x.text,.slice ka n cap]) x ⟨ga,gc,by rw[hgn],hgk.below (hwX X h)⟩ hf (fun y hy=>nL (hS y hy) (hwX X h).size) ⟨ka,cap,by rw[hn0],hcap,hk.below (hwX X h) hS⟩ hn hts
  rw[←hnb] at this;exact this
 have HNB:=hH hnb
 have HFIN:=hH hwX
 have HV:=hH hV
 obtain⟨hb,hhb⟩:∃hb,hb=ids.any (· == x.id):=⟨_,rfl⟩
 have HHB:=hH hhb
 have HA:=hH (show atB g ids d x=(decide (32<d) || (decide (x.id<1) || decide (1125899906842624<x.id)) || ids.any (· == x.id) || !jG g x) from rfl)
 have HKEY:=hH (keyOf_int_mk (P:=Tryz.prog) Tryz.underlying3 hid)
 have hb1:=hb4 _ hab1
 have HM1:=hH (hm.at (hab1.block mb (World.ownsMap.lt hm)))
 obtain⟨q0,_,_,_⟩:=hb4 V hab
 rw[hV] at q0
 have hSV:SX V:=by rw[hSX];exact BrQ _ V
 have HVF:=hH (show Below w.heap.size w (zl w [.cells #[.slice ga gn gc,.int .i64 g.root] 24,.cells #[] 121]) by rw[←hV];exact hwX V hSV)
 obtain⟨p0,_,_,_⟩:=hb1
 change (w.alloc (.cells #[.slice ga gn gc,.int .i64 g.root] 24)).cell? _=_ at p0
 change ((w.alloc (.cells #[.slice ga gn gc,.int .i64 g.root] 24)).alloc (.cells #[] 121)).cell? _=_ at q0
 clear hS hSb hc0 hc1 hc2 hc3 hcap hk hn hts hf hgk hn0 hgn hal hab hab1 kx hwX hSX hSV hb4 hbw hid hm hnb hhb hV
 refine (callsIn_wide (n:=8)).1 ?_
 refine callsIn_of_wp_marks Tryz.func103 rfl trivial ?_ rfl
 simp only[Tryz.ntmps103,List.size_toArray,LlcQ,List.length_nil,Nat.reduceAdd,Nat.reduceSub,Array.replicate_succ,Array.replicate_zero,List.push_toArray,List.append_toArray,List.nil_append,List.cons_append]
 by_cases h32:32<d
 · have hd:(32:Int)<(d:Int):=by omega
   have HB:=hH (show atB g ids d x=true by rw[HA.out];simp[h32])
   exact sb9
 · have hd : ¬(32:Int)<(d:Int):=by omega
   by_cases h1:x.id<1
   · have HB:=hH (show atB g ids d x=true by rw[HA.out];simp[h1])
     exact sb9
   · by_cases hM:1125899906842624<x.id
     · have HB:=hH (show atB g ids d x=true by rw[HA.out];simp[hM])
       exact sb9
     · cases hb
       · have HB:=hH (show atB g ids d x= !nb by rw[HA.out,←HHB.out,←HNB.out,decide_eq_false h32,decide_eq_false h1,decide_eq_false hM];simp)
         clear h32
         gi_wp2_with (gi_at_lookup;(refine wpListIn_lookup_own_unit _ rfl _ _ 93 rfl 3 121 zaN Tryz.underlying93 (zbl _) mb mn _ rfl HM1.out _ _ rfl HKEY.out ?_);rw[ZA,←HHB.out];clear p0)
         change Code.wpIn _ _ _ _ _ _ (zl w [.cells #[.slice ga gn gc,.int .i64 g.root] 24,.cells #[] 121])
         rw[←HV.out]
         refine vk (S:=SX) kr1 ?_
         have eH:=hS0
         clear hS0 HVF q0
         refine zL1 (i:=0) (.agg #[.slice ga gn gc,.int .i64 g.root]) rfl ?_ ?_
         · exact ub9
         simp only[Act.put,pg]
         refine zG1 (i:=1) ((.pointer (some ⟨b,off,none⟩))) rfl ?_
         simp only[Act.put,pg]
         refine zG1 (i:=2) ((.pointer (some ⟨b,off,none⟩))) rfl ?_
         simp only[Act.put,pg]
         refine zL1 (i:=3) (.agg #[.int .i64 x.id,.int .i64 x.kind,.string x.text,.slice ka n cap]) rfl ?_ ?_
         · exact ub9
         simp only[Act.put,pg]
         refine yG (i:=4) (o:=_) kr1 rfl fun K4 hK4=>?_
         rw[ipQ ug8]
         simp only[pg3]
         have HK4:=hH hK4
         have HH4:=hH eH
         clear hK4 eH
         gi_wp2_with (refine⟨trivial,?_⟩;gi_at_call 117;refine (callsIn_wide.2 (HND.out _ HH4.out)).mono ?_;rintro e X4 ⟨rfl,hb⟩;have HX4:=hH hb;clear hb)
         have eH:=HSB.out _ X4 HH4.out HX4.out
         refine HK4.out _ _ eH ?_
         clear HK4
         refine zG1 (i:=5) ((.bool (!nb))) rfl ?_
         simp only[Act.put,pg]
         refine zG1 (i:=6) ((.bool (!nb))) rfl ?_
         simp only[Act.put,pg]
         refine qp kr1 ⟨rfl,?_⟩ _
         have HE:=hH (HFIN.out _ eH)
         clear eH HSx
         cases nb
         · gi_wp2
           exact⟨_,results_tmp rfl _ _ _,by rw[HB.out];rfl,HE.out⟩
         · gi_wp2
           exact⟨_,results_tmp rfl _ _ _,by rw[HB.out];rfl,HE.out⟩
       · have HB:=hH (show atB g ids d x=true by rw[HA.out,←HHB.out];simp)
         exact sb9
end Go.Proofs.YtgkmmnihaiopaaaGreat
namespace Go.Proofs.YtgkmmnihaiopaaaGreat
open Go.RowKit Go.Shelf
theorem zaV {w:World}{B B' :Nat}{e:TypeId}{size:Nat}{v:Value}{n:Nat}{xs:List Value}(h:w.ownsRow B e size v n xs)(hB:B'≤B):w.ownsRow B' e size v n xs:=
 ⟨h.1,h.2.imp (fun h=>h) (fun ⟨g,c,cur,h1,h2,h3⟩=>⟨g,c,cur,h1,NltQ hB h2,h3⟩)⟩
def ziH (w:World)(l:List Int)(e:Ending)(w' :World):Prop:=∃a c,e= .returned (.slice a l.length c)∧w'.ownsRow w.heap.size 3 1 (.slice a l.length c) l.length (l.map Yg)∧Below w.heap.size w w'
theorem JM (w:World)(S:Nat→Prop)(nv:Value)(t:Tr)(up:Int)(hS:∀y,S y→y<w.heap.size)(ht:zG w S nv t)(hsz:((zb t.kids+1:Nat):Int)≤up)(hup:up≤1000000):
 Calls Tryz.prog 76 #[nv,.int .i64 up] w (ziH w (idT t)):=by
 have hmf:∀(fn:Fn) (first cap:Array Value) (w:World),(Instr.makeFunc fn first cap).run Tryz.prog w= .ok (.func fn first cap) w:=fun _ _ _ _=>rfl
 obtain⟨ka,tc,rfl,hcap,hk⟩:=ht
 obtain⟨nk,hnk⟩:∃nk,nk=foLen t.kids:=⟨_,rfl⟩
 rw[←hnk]
 obtain⟨DV,hDV⟩:∃DV,DV=Value.func (.func 92) #[] #[.pointer (some ⟨w.heap.size+1+1,0,none⟩),.pointer (some ⟨w.heap.size+1,0,none⟩),.pointer (some ⟨w.heap.size+1+1+1,0,none⟩)]:=⟨_,rfl⟩
 obtain⟨W,hW⟩:∃W,W=zl w [.cells #[.int .i64 t.id,.int .i64 t.kind,.string t.text,.slice ka nk tc] 27,.cells #[.int .i64 up] 3,.cells #[.slice none 0 0] 53,.cells #[DV] 132]:=⟨_,rfl⟩
 have hb:Below w.heap.size w W:=by rw[hW];exact zi _ _
 have hs:W.heap.size=w.heap.size+4:=by rw[hW];exact zw _ _
 have h0:W.heap[w.heap.size]? =some (.cells #[.int .i64 t.id,.int .i64 t.kind,.string t.text,.slice ka nk tc] 27 (0,0)):=by rw[hW];exact ze _ _ 0 _ rfl
 have h1:W.heap[w.heap.size+1]? =some (.cells #[.int .i64 up] 3 (0,0)):=by rw[hW];exact ze _ _ 1 _ rfl
 have h2:W.heap[w.heap.size+1+1]? =some (.cells #[.slice none 0 0] 53 (0,0)):=by rw[hW];exact ze _ _ 2 _ rfl
 have h3:W.heap[w.heap.size+1+1+1]? =some (.cells #[DV] 132 (0,0)):=by rw[hW];exact ze _ _ 3 _ rfl
 have hIW:IdW W (w.heap.size+1+1) (w.heap.size+1) (w.heap.size+1+1+1) up:=⟨by rw[h3,hDV],h1,⟨by omega,by omega⟩,⟨by omega,by omega⟩,by omega⟩
 obtain⟨b0,b1,b2,b3⟩:=zD h0
 have hkW:zt W (fun y=>S y∨y=w.heap.size) t.kids ka:=hk.kept (w':=W) fun y hy=>⟨Or.inl hy,hb.block y (hS y hy)⟩
 have hnode:kP W (fun y=>S y∨y=w.heap.size) t w.heap.size 0:=⟨Or.inr rfl,b0,b1,b2,ka,tc,by rw[←hnk];exact b3,hcap,hkW⟩
 have hIA:JC W (w.heap.size+1+1) (w.heap.size+1) (w.heap.size+1+1+1) up [] W:=⟨⟨none,0,h2,World.ownsRow_nil _ _ _ _⟩,fun _ _ _=>rfl,NlrQ _,rfl,rfl,rfl⟩
 have hc:=zhI hIW (S:=fun y=>S y∨y=w.heap.size) (fun y hy=>by rcases hy with hy | hy;have:=hS y hy;exact⟨by omega,by omega⟩;exact⟨by omega,by omega⟩) hup (zb t.kids+1) W [] t w.heap.size 0 (Nat.lt_succ_self _) hnode hIA (by simpa using hsz)
 rw[List.nil_append] at hc
 have HC:=hH (aN hc (aN hb (aN hs hW)))
 have HDV:=hH hDV
 clear hc hb hs hW h0 h1 h2 h3 hIW b0 b1 b2 b3 hkW hnode hIA hDV hS hk hcap hsz hup hnk
 go_enter Tryz.func76,Tryz.ntmps76
 go_wp2_with fail
 have hWW:=HC.out.2.2.2
 rw[HDV.out] at hWW
 change Calls _ _ _ (zl w [.cells #[.int .i64 t.id,.int .i64 t.kind,.string t.text,.slice ka nk tc] 27,.cells #[.int .i64 up] 3,.cells #[.slice none 0 0] 53,.cells #[Value.func (.func 92) #[] #[.pointer (some ⟨w.heap.size+1+1,0,none⟩),.pointer (some ⟨w.heap.size+1,0,none⟩),.pointer (some ⟨w.heap.size+1+1+1,0,none⟩)]] 132]) _
 rw[←hWW]
 clear hWW
 refine HC.out.1.mono ?_
 rintro e X ⟨rfl,hX⟩
 obtain⟨a,c,hl,hro⟩:=hX.row
 have hl0:X.cell? ⟨w.heap.size+1+1,0,none⟩=some (.slice a (idT t).length c):=by rw[corQ _ _ 0 _ _ _ hl];rfl
 have hbX:Below w.heap.size w X:=⟨hX.os.trans HC.out.2.1.os,hX.tape.trans HC.out.2.1.tape,hX.output.trans HC.out.2.1.output,NltQ HC.out.2.1.size hX.size,fun y hy=>(hX.below y (by have:=HC.out.2.2.1;omega) om).trans (HC.out.2.1.block y hy)⟩
 have HE:=hH (aN (zaV hro HC.out.2.1.size) hbX)
 obtain⟨L,hL⟩:∃L,L=idT t:=⟨_,rfl⟩
 rw[←hL] at hl0 HE
 have HL:=hH hL
 obtain⟨n,hn⟩:∃n,n=L.length:=⟨_,rfl⟩
 rw[←hn] at hl0
 have HN:=hH hn
 clear hl hro hX hbX hL hn
 go_wp2_with fail
 go_ret
 exact⟨a,c,by rw[←HL.out,←HN.out];rfl,by have h:=HE.out.1;rw[HL.out] at h;exact h,HE.out.2⟩
theorem qP (w:World)(S:Nat→Prop)(nv:Value)(t:Tr)(hS:∀y,S y→y<w.heap.size)(ht:zG w S nv t)(hsz:zb t.kids+1≤2000):
 Calls Tryz.prog 62 #[nv] w fun e w'=>e= .returned (.bool false)∧Below w.heap.size w w':=by
 obtain⟨ka,tc,rfl,hcap,hk⟩:=ht
 have hb:Below w.heap.size w (w.alloc (.cells #[.int .i64 t.id,.int .i64 t.kind,.string t.text,.slice ka (foLen t.kids) tc] 27)):=(BrQ _ _).alloc (NlrQ _) _
 have hc:=JM (w.alloc (.cells #[.int .i64 t.id,.int .i64 t.kind,.string t.text,.slice ka (foLen t.kids) tc] 27)) S (.agg #[.int .i64 t.id,.int .i64 t.kind,.string t.text,.slice ka (foLen t.kids) tc]) t 2001 (fun y hy=>nL (hS y hy) hb.size) ⟨ka,tc,rfl,hcap,hk.below hb hS⟩ om om
 obtain⟨nk,hnk⟩:∃nk,nk=foLen t.kids:=⟨_,rfl⟩
 rw[←hnk] at hc hb ⊢
 obtain⟨n,hn⟩:∃n,n=(idT t).length:=⟨_,rfl⟩
 have hn2:¬(2000:Int)<(n:Int):=by rw[hn,q9];omega
 have HC:=hH (aN hc (aN hb hn))
 clear hc hb hn hk hcap hS hsz hnk
 go_enter Tryz.func62,Tryz.ntmps62
 go_wp2_with fail
 refine HC.out.1.mono ?_
 rintro e w2 ⟨a,c,rfl,_,hb2⟩
 rw[←HC.out.2.2]
 have HN2:=hH hn2
 have HB:=hH (HC.out.2.1.trans (hb2.mono HC.out.2.1.size))
 clear hb2
 go_wp2_with fail
 go_ret
 refine⟨?_,HB.out⟩
 have e:decide ((2000:Int)<(n:Int))=false:=decide_eq_false om
 show Ending.returned (.bool (decide ((2000:Int)<(n:Int))))=_
 rw[e]
end Go.Proofs.YtgkmmnihaiopaaaGreat
namespace Go.Proofs.YtgkmmnihaiopaaaGreat
open Go.RowKit Go.Shelf
open Go.Maps
def y9:List Int→List Int→Int→Int
 | _,[],e=>e
 | l,i::r,e=>if i<1∨1125899906842624<i then 2 else y9 (l++[i]) r (if l.any (· == i)=true then 60 else e)
theorem YY {w:World}{b n:Nat}{l:List Int}{i:Int}(h:w.ownsMap Tryz.prog 3 (unitElem (H:=Value)) b n ((setOf (.agg []) (l.map (Lit.int .i64 ·))).put (.int .i64 i) (.agg []))):jN w b n (l++[i]):=by
 unfold jN
 rw[List.map_append,List.map_cons,List.map_nil,setOf_snoc];exact h
theorem zge {l:List Int}{k:Nat}{x:Int}(h:l[k]? =some x):l.drop k=x::l.drop (k+1):=by
 obtain⟨hk,e⟩:=List.getElem?_eq_some_iff.1 h
 rw[List.drop_eq_getElem_cons hk,e]
theorem zcE {w:World}{B n cap:Nat}{a:Option Addr}{l:List Int}(h:w.ownsRow B 3 1 (.slice a n cap) n (l.map Yg))(hn:0<n):∃g,a=some ⟨g,0,none⟩∧n≤cap∧g<w.heap.size∧∀k x,l[k]? =some x→w.cell? ⟨g,k,none⟩=some (.int .i64 x):=by
 rcases h.2 with ⟨hv,h0⟩ | ⟨g,c',cur,hv,hB,hh,h3,_⟩
 · omega
 · cases hv
   exact⟨g,rfl,h3,lt_of_some hh,fun k x hx=>zF h rfl k _ (by rw[List.getElem?_map,hx];rfl)⟩
def zef (w W:World)(mb:Nat)(l:List Int)(n:Nat)(X:World):Prop:=jN X mb n l∧Below w.heap.size w X∧(∀y,y<W.heap.size→y≠mb→X.heap[y]? =W.heap[y]?)∧W.heap.size≤X.heap.size
theorem zef.add {w W X Y Z:World}{mb n:Nat}{l:List Int}{i:Int}(h:zef w W mb l n X)(hY:Below X.heap.size X Y)(hg:Y.grownBy Z (some mb))(ho:jN Z mb (n+1) (l++[i]))(hw:w.heap.size≤mb)(hWX:w.heap.size≤W.heap.size):zef w W mb (l++[i]) (n+1) Z:=by
 obtain⟨h1,h2,h3,h4⟩:=h
 have h5:∀y,y<X.heap.size→y≠mb→Z.heap[y]? =X.heap[y]?:=fun y hy hne=>(hg.block y (nL hy hY.size) (fun e=>hne (Option.some.inj e))).trans (hY.block y hy)
 have h6:X.heap.size≤Z.heap.size:=NltQ hY.size hg.size
 have h7:=h2.size
 exact⟨ho,⟨(hg.os.trans hY.os).trans h2.os,(hg.tape.trans hY.tape).trans h2.tape,(hg.output.trans hY.output).trans h2.output,NltQ h2.size h6,fun y hy=>(h5 y om om).trans (h2.block y hy)⟩,fun y hy hne=>(h5 y om hne).trans (h3 y hy hne),NltQ h4 h6⟩
theorem zgi (w : World)(S Sx:Nat→Prop)(nv xv:Value)(t x:Tr)(hS:∀y,S y→y<w.heap.size)(hSx:∀y,Sx y→y<w.heap.size)(ht:zG w S nv t)(hx:zG w Sx xv x)(hsz:zb t.kids+1≤2000)(hxz:zb x.kids+1≤2000)(hok:∀i∈idT t,(Lit.int .i64 i).wf=true)(hxk:∀i∈idT x,(Lit.int .i64 i).wf=true):
 Calls Tryz.prog 94 #[nv,xv] w fun e w'=>e= .returned (.int .i64 (y9 (idT t) (idT x) 0))∧Below w.heap.size w w':=by
 obtain⟨ka,tc,rfl,hcap,hk⟩:=ht
 obtain⟨xa,xc,rfl,hxcap,hxkk⟩:=hx
 obtain⟨tn,htn⟩:∃n,n=foLen t.kids:=⟨_,rfl⟩
 obtain⟨xn,hxn⟩:∃n,n=foLen x.kids:=⟨_,rfl⟩
 rw[←htn,←hxn]
 obtain⟨B,hB⟩:∃B,B=zl w [.cells #[.int .i64 t.id,.int .i64 t.kind,.string t.text,.slice ka tn tc] 27,.cells #[.int .i64 x.id,.int .i64 x.kind,.string x.text,.slice xa xn xc] 27,.map #[] 0]:=⟨_,rfl⟩
 have hb:Below w.heap.size w B:=by rw[hB];exact zi _ _
 have hs:B.heap.size=w.heap.size+3:=by rw[hB];exact zw _ _
 have ht0:B.heap[w.heap.size]? =some (.cells #[.int .i64 t.id,.int .i64 t.kind,.string t.text,.slice ka tn tc] 27 (0,0)):=by rw[hB];exact ze _ _ 0 _ rfl
 have hx0:B.heap[w.heap.size+1]? =some (.cells #[.int .i64 x.id,.int .i64 x.kind,.string x.text,.slice xa xn xc] 27 (0,0)):=by rw[hB];exact ze _ _ 1 _ rfl
 have hm0:jN B (w.heap.size+2) 0 []:=by
  have h:=World.ownsMap_made (zl w [.cells #[.int .i64 t.id,.int .i64 t.kind,.string t.text,.slice ka tn tc] 27,.cells #[.int .i64 x.id,.int .i64 x.kind,.string x.text,.slice xa xn xc] 27]) Tryz.prog 3 (unitElem (H:=Value))
  have e:(zl w [.cells #[.int .i64 t.id,.int .i64 t.kind,.string t.text,.slice ka tn tc] 27,.cells #[.int .i64 x.id,.int .i64 x.kind,.string x.text,.slice xa xn xc] 27]).heap.size=w.heap.size+2:=zw _ _
  rw[e] at h
  rw[hB];exact h
 have hidt:=JM B S (.agg #[.int .i64 t.id,.int .i64 t.kind,.string t.text,.slice ka tn tc]) t 2000 (fun y hy=>nL (hS y hy) hb.size) ⟨ka,tc,by rw[htn],hcap,hk.below hb hS⟩ om om
 have hidx:∀X,Below w.heap.size w X→Calls Tryz.prog 76 #[.agg #[.int .i64 x.id,.int .i64 x.kind,.string x.text,.slice xa xn xc],.int .i64 2000] X (ziH X (idT x)):=fun X hX=>JM X Sx (.agg #[.int .i64 x.id,.int .i64 x.kind,.string x.text,.slice xa xn xc]) x 2000 (fun y hy=>nL (hSx y hy) hX.size) ⟨xa,xc,by rw[hxn],hxcap,hxkk.below hX hSx⟩ om om
 have hl1:(idT t).length≤2000:=by rw[q9];omega
 have hl2:(idT x).length≤2000:=by rw[q9];omega
 obtain⟨lt,hlt⟩:∃l,l=idT t:=⟨_,rfl⟩
 obtain⟨lx,hlx⟩:∃l,l=idT x:=⟨_,rfl⟩
 rw[←hlt] at hidt hl1 hok ⊢
 rw[←hlx] at hidx hl2 hxk ⊢
 have HT:=hH hidt
 have HX:=hH hidx
 have HOK:=hH (aN hok hxk)
 have HB:=hH (aN hb (aN hs (aN hx0 hm0)))
 have HBE:=hH hB
 obtain⟨b0,b1,b2,b3⟩:=zD ht0
 have hmm:=@run_makeMap Tryz.prog
 have hz2:w.heap.size+1+1=w.heap.size+2:=rfl
 clear hidt hidx hok hxk hb hs ht0 hx0 hm0 hB htn hxn hcap hk hxcap hxkk hlt hlx hS hSx hsz hxz
 go_enter Tryz.func94,Tryz.ntmps94
 go_upto_region 2 with fail
 change Code.wp _ _ _ _ (zl w [.cells #[.int .i64 t.id,.int .i64 t.kind,.string t.text,.slice ka tn tc] 27,.cells #[.int .i64 x.id,.int .i64 x.kind,.string x.text,.slice xa xn xc] 27,.map #[] 0])
 rw[←HBE.out]
 clear hmm HBE
 go_wp2_with fail
 refine HT.out.mono ?_
 rintro e W ⟨ia,ic,rfl,hown,hbW⟩
 clear b0 b1 b2 b3
 obtain⟨m,hm⟩:∃m,m=lt.length:=⟨_,rfl⟩
 rw[←hm] at hown ⊢
 obtain⟨mb,hmb⟩:∃mb,mb=w.heap.size+1+1:=⟨_,rfl⟩
 have hmW:mb<W.heap.size:=by have:=HB.out.2.1;have:=hbW.size;omega
 have HI0:=hH (show zef w W mb [] 0 W from⟨by rw[hmb];exact HB.out.2.2.2.at (hbW.block _ uf2),HB.out.1.trans (hbW.mono HB.out.1.size),fun _ _ _=>rfl,NlrQ _⟩)
 have hneq:∀g,(Value.slice ia m ic).ownBlock=some g→g≠mb:=fun g hg=>by have:=(zk hown hg).1;have:=HB.out.2.1;omega
 have HO:=hH (aN hown (aN hm (aN hmW (aN hneq (aN (show w.heap.size≤mb by omega) (show w.heap.size≤W.heap.size by have:=HB.out.2.1;have:=hbW.size;omega))))))
 have HXB:=hH (aN ((hbW.block _ (lohQ HB.out.2.2.1)).trans HB.out.2.2.1) (show w.heap.size+1≠mb by omega))
 rw[←hmb]
 have hm2:m≤2000:=by omega
 clear hown hbW hm hmb hmW hneq HT
 go_wp2_with fail
 go_loopw [17] (fun i wr=>∃k:Nat,k≤m∧i= .int .i64 (k:Int)∧Hid (zef w W mb (lt.take k) k wr)) (fun i _=>m - (intOf i).toNat)
 case atStart=>exact⟨0,NzlQ _,rfl,HI0⟩
 case round =>
  obtain⟨k,hk,rfl,hh⟩:=hrel
  by_cases hlt:k<m
  · have hki:(k:Int)<(m:Int):=by omega
    obtain⟨i,hi⟩:∃i,lt[k]? =some i:=⟨_,List.getElem?_eq_getElem (by rw[←HO.out.2.1];exact hlt)⟩
    obtain⟨g,rfl,hgc,hgl,hcell⟩:=zcE HO.out.1 om
    have c0:wr.cell? ⟨g,k,none⟩=some (.int .i64 i):=(World.cell?_of_block (a:=⟨g,k,none⟩) (hh.out.2.2.1 g hgl (HO.out.2.2.2.1 g rfl))).trans (hcell k i hi)
    have hkey:=keyOf_int_mk (P:=Tryz.prog) Tryz.underlying3 (HOK.out.1 i (List.mem_of_getElem? hi))
    have hown:=hh.out.1
    unfold jN at hown
    have HR:=hH (aN hi hlt)
    clear hi hlt hk hcell hgl
    go_wp2_with (at_mapUpdate;refine wpList_mapUpdate_own _ rfl _ _ _ 93 rfl 3 121 zaN Tryz.underlying93 unitElem mb k _ rfl hown uf7 _ _ _ rfl rfl hkey _ [] unitElem_mk ?_;intro w5 hown5 hgrow5)
    refine⟨⟨k+1,by have:=HR.out.2;omega,by go_num,hH ?_⟩,by have:=HR.out.2;simp[intOf];omega⟩
    rw[List.take_add_one,HR.out.1]
    exact hh.out.add (BrQ _ _) hgrow5 (YY hown5) HO.out.2.2.2.2.1 HO.out.2.2.2.2.2
  · have hki : ¬ (k:Int)<(m:Int):=by omega
    have hkm:k=m:=by omega
    have HKM:=hH hkm
    have HIW:=hh
    have hx1:=(hh.out.2.2.1 _ (lohQ HXB.out.1) HXB.out.2).trans HXB.out.1
    obtain⟨b0,b1,b2,b3⟩:=zD hx1
    have HXX:=hH (HX.out wr hh.out.2.1)
    clear hkm hlt hk hx1
    go_wp2_with fail
    refine HXX.out.mono ?_
    rintro e W2 ⟨ja,jc,rfl,hown,hbW2⟩
    clear b0 b1 b2 b3
    obtain⟨n,hn⟩:∃n,n=lx.length:=⟨_,rfl⟩
    rw[←hn] at hown ⊢
    have hl3:lt.take k=lt:=by rw[HKM.out,HO.out.2.1];exact List.take_length
    have hmwr:mb<wr.heap.size:=nL HO.out.2.2.1 HIW.out.2.2.2
    have hI2:zef w W2 mb lt m W2:=by
     have h:=HIW.out
     rw[hl3,HKM.out] at h
     exact⟨h.1.at (hbW2.block _ hmwr),h.2.1.trans (hbW2.mono h.2.1.size),fun _ _ _=>rfl,NlrQ _⟩
    have hneq:∀g,(Value.slice ja n jc).ownBlock=some g→g≠mb:=fun g hg=>by have:=(zk hown hg).1;omega
    have HI2:=hH hI2
    have HO2:=hH (aN hown (aN hn (aN hneq (aN (show w.heap.size≤W2.heap.size by have:=HIW.out.2.1.size;have:=hbW2.size;omega) HO.out.2.2.2.2.1))))
    have hn2:n≤2000:=by omega
    clear hown hn hneq hl3 hmwr hI2 hbW2 HIW HKM hh HXX HO HI0 HXB HX
    go_wp2_with fail
    go_loopw [8,28] (fun ev i X=>∃(j:Nat) (er:Int),j≤n∧i= .int .i64 (j:Int)∧ev= .int .i64 er∧Hid (zef w W2 mb (lt++lx.take j) (m+j) X∧y9 (lt++lx.take j) (lx.drop j) er=y9 lt lx 0)) (fun _ i _=>n - (intOf i).toNat)
    case atStart=>exact⟨0,0,NzlQ _,rfl,rfl,hH ⟨by simpa using HI2.out,by simp⟩⟩
    case round =>
     obtain⟨k,er,hk,rfl,rfl,hh⟩:=hrel
     by_cases hlt:k<n
     · have hki :(k:Int)<(n:Int):=by omega
       obtain⟨i,hi⟩:∃i,lx[k]? =some i:=⟨_,List.getElem?_eq_getElem (by rw[←HO2.out.2.1];exact hlt)⟩
       obtain⟨g,rfl,hgc,hgl,hcell⟩:=zcE HO2.out.1 om
       have c0:wr.cell? ⟨g,k,none⟩=some (.int .i64 i):=(World.cell?_of_block (a:=⟨g,k,none⟩) (hh.out.1.2.2.1 g hgl (HO2.out.2.2.1 g rfl))).trans (hcell k i hi)
       have hkey:=keyOf_int_mk (P:=Tryz.prog) Tryz.underlying3 (HOK.out.2 i (List.mem_of_getElem? hi))
       have hfr:=hh.out.2
       rw[zge hi,y9] at hfr
       by_cases h1:i<1
       · rw[ipQ (Or.inl h1)] at hfr
         exact sj3
       · by_cases h2:1125899906842624<i
         · rw[ipQ (Or.inr h2)] at hfr
           exact sj3
         · rw [inQ om] at hfr
           have hown:=hh.out.1.1
           unfold jN at hown
           have hmp:mb<wr.heap.size:=World.ownsMap.lt hown
           have hownA:(wr.alloc (.cells #[] 121)).ownsMap Tryz.prog 3 (unitElem (H:=Value)) mb (m+k) (setOf (.agg []) ((lt++lx.take k).map (Lit.int .i64 ·))):=jN.at hh.out.1.1 (BhaQ _ _ _ hmp)
           obtain⟨hb,hhb⟩:∃hb,hb=(lt++lx.take k).any (· == i):=⟨_,rfl⟩
           rw[←hhb] at hfr
           have htk:lt++lx.take (k+1)=(lt++lx.take k)++[i]:=by rw[List.take_add_one,hi,List.append_assoc];rfl
           have HR:=hH (aN hfr (aN htk (aN hlt hhb)))
           clear hfr htk hlt hhb hi hcell hgl hk hmp
           cases hb
           · go_wp2_with (first | at_lookup;refine wpList_lookup_own_unit _ rfl _ _ 93 rfl 3 121 zaN Tryz.underlying93 (zbl _) mb (m+k) _ rfl hown _ _ rfl hkey ?_;rw[ZA];rw[←HR.out.2.2.2] | at_mapUpdate;refine wpList_mapUpdate_own _ rfl _ _ _ 93 rfl 3 121 zaN Tryz.underlying93 unitElem mb (m+k) _ rfl hownA uf7 _ _ _ rfl rfl hkey _ [] unitElem_mk ?_;intro w5 hown5 hgrow5)
             refine⟨⟨k+1,er,by have:=HR.out.2.2.1;omega,by go_num,by trivial,hH ⟨?_,?_⟩⟩,by have:=HR.out.2.2.1;simp[intOf];omega⟩
             · rw[HR.out.2.1]
               exact hh.out.1.add (zg _ _) hgrow5 (YY hown5) HO2.out.2.2.2.2 HO2.out.2.2.2.1
             · rw[HR.out.2.1]
               have h:=HR.out.1
               rw[inQ Bool.false_ne_true] at h
               exact h
           · go_wp2_with (first | at_lookup;refine wpList_lookup_own_unit _ rfl _ _ 93 rfl 3 121 zaN Tryz.underlying93 (zbl _) mb (m+k) _ rfl hown _ _ rfl hkey ?_;rw[ZA];rw[←HR.out.2.2.2] | at_mapUpdate;refine wpList_mapUpdate_own _ rfl _ _ _ 93 rfl 3 121 zaN Tryz.underlying93 unitElem mb (m+k) _ rfl hownA uf7 _ _ _ rfl rfl hkey _ [] unitElem_mk ?_;intro w5 hown5 hgrow5)
             refine⟨⟨k+1,60,by have:=HR.out.2.2.1;omega,by go_num,by trivial,hH ⟨?_,?_⟩⟩,by have:=HR.out.2.2.1;simp[intOf];omega⟩
             · rw[HR.out.2.1]
               exact hh.out.1.add (zg _ _) hgrow5 (YY hown5) HO2.out.2.2.2.2 HO2.out.2.2.2.1
             · rw[HR.out.2.1]
               have h:=HR.out.1
               rw[ipQ rfl] at h
               exact h
     · have hki:¬(k:Int)<(n:Int):=by omega
       have hkn:k=n:=by omega
       have hfr:=hh.out.2
       rw[List.drop_eq_nil_of_le (by rw[hkn,HO2.out.2.1];exact NlrQ _),y9] at hfr
       have HF:=hH hfr
       have HBW:=hH hh.out.1.2.1
       clear hfr hkn hlt hk hh
       go_wp2_with fail
       go_ret
       exact⟨by rw[HF.out];rfl,HBW.out⟩
end Go.Proofs.YtgkmmnihaiopaaaGreat
namespace Go.Proofs.YtgkmmnihaiopaaaGreat
open Go.RowKit Go.Shelf
def opsV:Value:= .agg #[.nilFunc,.func (.func 77) #[] #[],.func (.func 78) #[] #[],.func (.func 79) #[] #[],.func (.func 80) #[] #[]]
def zib:Obj:= .cells #[.nilFunc,.func (.func 77) #[] #[],.func (.func 78) #[] #[],.func (.func 79) #[] #[],.func (.func 80) #[] #[]] 105 (0,0)
theorem vg (w:World):Calls Tryz.prog 63 #[] w fun e w'=>e= .returned opsV∧Below w.heap.size w w':=by
 go_enter Tryz.func63,Tryz.ntmps63
 go_wp2_with fail
 exact brQ (vG rfl _ _ w.heap.size 105 _ _ _ rfl (hanQ w _) Tryz.underlying105 rfl kr1) rfl ⟨rfl,(BrQ _ _).alloc (NlrQ _) _⟩
theorem zt.cells {w:World}{S:Nat→Prop}:∀{f:Fo} {a:Option Addr},zt w S f a→zt w (fun x=>yj w x∧S x) f a
 | .nil,_,_=>True.intro
 | .node _ _ k l r,a,h=>by
   obtain⟨b,off,ka,cap,e,hb,h0,h1,h2,h3,h4,h5,h6⟩:=h
   exact⟨b,off,ka,cap,e,⟨zjW h0,hb⟩,h0,h1,h2,h3,h4,h5.cells,h6.cells⟩
theorem yu (w:World)(o:Obj):(w.alloc o).heap.size=w.heap.size+1:=by simp
def zV (r:Tr×Int):Tr:=if r.2=0 then r.1 else zu
def qI (w:World)(T:Nat→Prop)(r:Tr×Int)(e:Ending)(w' :World):Prop:=∃v,e= .returned (.tuple #[v,.int .i64 r.2])∧zG w' (fun y=>yj w' y∧(T y∨w.heap.size≤y)) v (zV r)∧Below w.heap.size w w'
theorem zQ {P:Program}{fn:Func}{p u:Tmp}(h:fn.results= #[.cell p 27,.tmp u])(hP:P=Tryz.prog){w W:World}{T:Nat→Prop}{tmps:Array Value}{r:Tr×Int}{g m kc:Nat}{kb:Option Addr}{y:Tr}(hb:Below w.heap.size w W)(hz:W.heap[g]? =some (.cells #[.int .i64 y.id,.int .i64 y.kind,.string y.text,.slice kb m kc] 27 (0,0)))(hm:m=foLen y.kids)(hc:foLen y.kids≤kc)(hf:zt W (fun z=>yj W z∧(T z∨w.heap.size≤z)) y.kids kb)(hy:zV r=y)
 (h1:tmps.getD p undef= .pointer (some ⟨g,0,none⟩)) (h2:tmps.getD u undef= .int .i64 r.2):bodyPost P fn (qI w T r) .ret { tmps,defers:=[] } W:=by
 subst hP
 exact sg2
attribute [local go_sem] Oper.semAt_some
def zkp (w:World)(nb:Nat)(c1:Array Value)(f:Fo)(v:Value)(k:Nat)(wr:World):Prop:=
 wr.ownsRow (w.heap.size+1) 3 1 v k (((yV f).take k).map (Value.int .i64))∧wr.heap[nb]? =some (.cells c1 27 (0,0))∧Below w.heap.size w wr
theorem zgP {f:Fo}{k:Nat}{x:Int}(h:(yV f)[k]? =some x):((yV f).take (k+1)).map (Value.int .i64)=((yV f).take k).map (Value.int .i64)++[.int .i64 x]:=by
 rw[List.take_add_one,h];simp
theorem zfc (w:World)(S:Nat→Prop)(nv:Value)(t:Tr)(hS:∀x,S x→x<w.heap.size)(ht:zG w S nv t)(hsz:foLen t.kids≤1000000):Calls Tryz.prog 58 #[nv] w (zb3 w t.kids):=by
 obtain⟨ka,cap,rfl,hcap,hk⟩:=ht
 obtain⟨n,hn⟩:∃n,n=foLen t.kids:=⟨_,rfl⟩
 have hn6:n≤1000000:=by omega
 rw[←hn]
 obtain⟨W0,hW0⟩:∃W0,W0=w.alloc (.cells #[.int .i64 t.id,.int .i64 t.kind,.string t.text,.slice ka n cap] 27):=⟨_,rfl⟩
 have hs0:W0.heap.size=w.heap.size+1:=by rw[hW0];simp
 have hbx:W0.heap[w.heap.size]? =some (.cells #[.int .i64 t.id,.int .i64 t.kind,.string t.text,.slice ka n cap] 27 (0,0)):=by rw[hW0];exact hanQ w _
 have hst:zkp w w.heap.size #[.int .i64 t.id,.int .i64 t.kind,.string t.text,.slice ka n cap] t.kids (.slice none 0 0) 0 W0:=
  ⟨World.ownsRow_nil _ _ _ _,hbx,by rw[hW0];exact (BrQ _ w).alloc (NlrQ _) _⟩
 obtain⟨i0,hi,hz0,hz1,hz2⟩:=info_parts Tryz.zdq
 have HI:=hH (aN hi (aN hz0 (aN hz1 hz2)))
 have H:=hH (aN hS (aN hcap (aN hk (aN hn (aN hst hW0)))))
 clear hS hcap hk hn hst hW0 hs0 hbx hsz hi hz0 hz1 hz2
 go_enter Tryz.func58,Tryz.ntmps58
 go_wp2_with fail
 rw[←H.out.2.2.2.2.2]
 go_loopw [3,4] (fun v i wr=>∃k:Nat,k≤n∧i= .int .i64 (k:Int)∧Hid (zkp w w.heap.size #[.int .i64 t.id,.int .i64 t.kind,.string t.text,.slice ka n cap] t.kids v k wr)) (fun _ i _=>n - (intOf i).toNat)
 case atStart=>exact⟨0,NzlQ _,rfl,hH H.out.2.2.2.2.1⟩
 case round=>
  obtain⟨k,hk,rfl,hr⟩:=hrel
  by_cases hlt:k<n
  · obtain⟨hown,hbx,hbl⟩:=hr.out
    obtain⟨ra,rc,rfl⟩:=zy hown
    have p3:wr.cell? ⟨w.heap.size,3,none⟩=some (.slice ka n cap):=by rw[corQ wr _ 3 _ _ _ hbx];rfl
    have hk1:zt wr S t.kids ka:=H.out.2.2.1.kept fun x hx=>⟨hx,hbl.block x (H.out.1 x hx)⟩
    obtain⟨b0,o0,⟨ki,kk,kt⟩,l',r,hd1',b,off,a1,n1,rfl,hSb,c0,c1,c2,c3,hc1,hl1⟩:=hk1.at k (by rw[←H.out.2.2.2.1];exact hlt)
    have hkk:=QX k t.kids _ _ _ _ _ hd1'
    have HKK:=hH hkk
    have HO:=hH (aN hown (aN hbx hbl))
    have hkl:(k:Int)<(n:Int):=by omega
    have HLT:=hH hlt
    have hsw:w.heap.size+1≤wr.heap.size:=by have:=lohQ hbx;omega
    clear hkk hk1 hd1' hown hbx hbl hSb hc1 hl1 hlt
    go_wp2_with (at_builtin;refine wpList_append_own _ rfl (.tmp 12) (.tmp 19) _ rfl (w.heap.size+1) 3 i0 (.int .i64 0) 1 8 Tryz.underlying53 HI.out.1 HI.out.2.1 HI.out.2.2.1 HI.out.2.2.2 rfl om (.slice ra k rc) k _ rfl (HO.out.1.alloc _) ⟨wr.heap.size,0,none⟩ 1 1 [.int .i64 kk] rfl rfl (World.news_of_block (cs:= #[.int .i64 kk]) (hanQ wr _)) uf6 (by have:=HLT.out;unfold maxLen;omega) (by have:=HLT.out;omega) ug5 ?_;intro v8 w8 hown hgrow _;have HF:=hH (aN hown hgrow);clear hown hgrow)
    refine⟨⟨k+1,HLT.out,by go_num,hH ⟨?_,?_,?_⟩⟩,by have:=HLT.out;simp[intOf];omega⟩
    · rw[zgP HKK.out];exact HF.out.1
    · have hob:∀g,Value.ownBlock (.slice ra k rc)=some g→w.heap.size+1≤g:=fun g hg=>(zk HO.out.1 hg).1
      rw[HF.out.2.block _ ug5 (fun e=>by have:=hob _ e.symm;omega),BhaQ _ _ _ om]
      exact HO.out.2.1
    · have hob:∀g,Value.ownBlock (.slice ra k rc)=some g→w.heap.size+1≤g:=fun g hg=>(zk HO.out.1 hg).1
      have hg:=HF.out.2
      have hb:=HO.out.2.2
      refine⟨hg.os.trans hb.os,hg.tape.trans hb.tape,hg.output.trans hb.output,by have:=hg.size;simp at this;have:=hb.size;omega,fun y hy=>?_⟩
      rw[hg.block y ug5 (fun e=>by have:=hob _ e.symm;omega),BhaQ _ _ _ om]
      exact hb.block y hy
  · have hkn:k=n:=by omega
    subst hkn
    have hkl:¬(k:Int)<(k:Int):=by omega
    obtain⟨hown,hbx,hbl⟩:=hr.out
    have p3:wr.cell? ⟨w.heap.size,3,none⟩=some (.slice ka k cap):=by rw[corQ wr _ 3 _ _ _ hbx];rfl
    obtain⟨a,cp,rfl⟩:=zy hown
    have HO:=hH (aN hown hbl)
    clear hown hbx hbl hlt hr
    go_wp2_with fail
    go_ret
    have hln:(yV t.kids).length=k:=by rw[vF,H.out.2.2.2.1]
    refine⟨a,cp,by rw[hln];rfl,fun h0=>?_,HO.out.2⟩
    have hown:=HO.out.1
    rw[List.take_of_length_le om] at hown
    have hgg:∃g,a=some ⟨g,0,none⟩:=by
     rcases hown.2 with ⟨hv,h1⟩ | ⟨g,cap2,cur,hv,_⟩
     · omega
     · cases hv;exact⟨g,rfl⟩
    obtain⟨g,rfl⟩:=hgg
    exact⟨g,0,rfl,(zk hown rfl).2,fun j x hx=>by rw[Nat.zero_add];exact zF hown rfl j _ (by rw[List.getElem?_map,hx];rfl)⟩
end Go.Proofs.YtgkmmnihaiopaaaGreat
