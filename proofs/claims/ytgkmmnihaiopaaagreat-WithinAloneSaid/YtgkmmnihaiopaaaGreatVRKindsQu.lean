/-
  .
-/
import Derived.Test.YtgkmmnihaiopaaaGreatVManyQu
import Derived.Test.YtgkmmnihaiopaaaGreatEFindWQu
import Derived.Test.YtgkmmnihaiopaaaGreatGFitsQu
import Derived.Test.YtgkmmnihaiopaaaGreatJPgQu
import Derived.Test.YtgkmmnihaiopaaaGreatJPsQu
set_option maxRecDepth 100000
set_option maxHeartbeats 40000000
set_option linter.unusedVariables false
set_option linter.unusedSimpArgs false
namespace Go.Proofs.YtgkmmnihaiopaaaGreat
open Go.RowKit Go.Shelf
attribute [local go_sem] Oper.semAt_some
def yR:Fo→List Int
 | .nil=>[]
 | .node _ _ k _ r=>k.2.1::yR r
theorem q9:∀f:Fo,(yR f).length=foLen f
 | .nil=>rfl
 | .node _ _ _ _ r=>by simp[yR,foLen,q9 r]
theorem Qw:∀(j:Nat) (f:Fo) (b o:Nat) (a:Int×Int×ByteArray) (l r:Fo),zq j f= .node b o a l r→(yR f)[j]? =some a.2.1
 | 0,.nil,_,_,_,_,_,h=>by cases h
 | _+1,.nil,_,_,_,_,_,h=>by cases h
 | 0,.node _ _ _ _ _,_,_,_,_,_,h=>by cases h;rfl
 | j+1,.node _ _ _ _ r',b,o,a,l,r,h=>by simpa [yR] using Qw j r' b o a l r h
def zbk (w:World) (f:Fo) (e:Ending) (w' :World):Prop:=∃a cap,e= .returned (.slice a (yR f).length cap)∧qw w' a (yR f)∧Below w.heap.size w w'
def zdw (w:World) (g nb:Nat) (c1:Array Value) (f:Fo) (n k:Nat) (wr:World):Prop:=
 ∃cs:Array Value,wr.heap[g]? =some (.cells cs 3 (0,0))∧cs.size=n∧(∀j,j<k→∃x,(yR f)[j]? =some x∧cs[j]? =some (.int .i64 x))∧wr.heap[nb]? =some (.cells c1 27 (0,0))∧Below w.heap.size w wr
theorem Tryz.zcG:(Tryz.prog.info? 3).map (fun i=>(i.zero,i.size,i.bytes))=some (some (.int .i64 0),1,8):=by kernel_rfl
theorem zd1 (W:World) (q:Nat) (h:q≤1000000):∃zs:Array Value,zs.size=q∧(Instr.makeSlice 53 (.int .i64 (q:Int)) (.int .i64 (q:Int))).run Tryz.prog W= .ok (.slice (some ⟨W.heap.size,0,none⟩) q q) (W.alloc (.cells zs 3)):=by
 obtain⟨i0,hi,hz0,hz1,hz2⟩:=info_parts Tryz.zcG
 have hr:=run_makeSlice (P:=Tryz.prog) W 53 3 i0 (.int .i64 0) Tryz.underlying53 hi hz0 .i64 .i64 (q:Int) (q:Int) om om (by rw[hz1];omega) (by rw[hz2];omega) om
 rw[hz1] at hr
 refine⟨_,?_,by rw[hr];simp;rfl⟩
 rw[size_madeCells]
theorem zfu (w:World) (S:Nat→Prop) (nv:Value) (t:Tr) (hS:∀x,S x→x<w.heap.size) (ht:zJ w S nv t) (hsz:foLen t.kids≤1000000):Calls Tryz.prog 124 #[nv] w (zbk w t.kids):=by
 obtain⟨ka,cap,rfl,hcap,hk⟩:=ht
 obtain⟨n,hn⟩:∃n,n=foLen t.kids:=⟨_,rfl⟩
 have hn6:n≤1000000:=by omega
 rw[←hn]
 obtain⟨W0,hW0⟩:∃W0,W0=w.alloc (.cells #[.int .i64 t.id,.int .i64 t.kind,.string t.text,.slice ka n cap] 27):=⟨_,rfl⟩
 obtain⟨zs,hzs,hmk⟩:=zd1 W0 n hn6
 have hs0:W0.heap.size=w.heap.size+1:=by rw[hW0];simp
 have hbx:W0.heap[w.heap.size]? =some (.cells #[.int .i64 t.id,.int .i64 t.kind,.string t.text,.slice ka n cap] 27 (0,0)):=by rw[hW0];exact hanQ w _
 have hst:zdw w (w.heap.size+1) w.heap.size #[.int .i64 t.id,.int .i64 t.kind,.string t.text,.slice ka n cap] t.kids n 0 (W0.alloc (.cells zs 3)):=by
  refine⟨zs,by rw[←hs0];exact hanQ W0 _,hzs,fun j hj=>by omega,(BhaQ W0 _ _ om).trans hbx,?_⟩
  rw[hW0];exact ((BrQ _ w).alloc (Nat.le_refl _) _).alloc sp1 _
 have H:=hH (aN hS (aN hcap (aN hk (aN hn (aN hst hW0)))))
 rw[hW0] at hmk
 clear hS hcap hk hn hst hW0 hs0 hbx hzs hsz
 go_enter Tryz.func124,Tryz.ntmps124
 go_wp2_with fail
 rw[←H.out.2.2.2.2.2]
 go_loopw [4,12] (fun _ i wr=>∃k:Nat,k≤n∧i= .int .i64 (k:Int)∧Hid (zdw w (w.heap.size+1) w.heap.size #[.int .i64 t.id,.int .i64 t.kind,.string t.text,.slice ka n cap] t.kids n k wr)) (fun _ i _=>n - (intOf i).toNat)
 case atStart=>exact⟨0,Nat.zero_le _,rfl,hH H.out.2.2.2.2.1⟩
 case round=>
  obtain⟨k,hk,rfl,hr⟩:=hrel
  by_cases hlt:k<n
  · obtain⟨cs,hg,hsz,hcs,hbx,hbl⟩:=hr.out
    have p3:wr.cell? ⟨w.heap.size,3,none⟩=some (.slice ka n cap):=by rw[corQ wr _ 3 _ _ _ hbx];rfl
    have hk1:zu wr S t.kids ka:=H.out.2.2.1.kept fun x hx=>⟨hx,hbl.block x (H.out.1 x hx)⟩
    obtain⟨b0,o0,⟨ki,kk,kt⟩,l',r,hd1',b,off,a1,n1,rfl,hSb,c0,c1,c2,c3,hc1,hl1⟩:=hk1.at k (by rw[←H.out.2.2.2.1];exact hlt)
    have hkk:=Qw k t.kids _ _ _ _ _ hd1'
    obtain⟨v,hv⟩:∃v,cs[k]? =some v:=⟨_,Array.getElem?_eq_getElem om⟩
    have g0:wr.cell? ⟨w.heap.size+1,k,none⟩=some v:=by rw[corQ wr _ k _ _ _ hg];exact hv
    have f0:wr.frozen? ⟨w.heap.size+1,k,none⟩=false:=forQ wr _ k _ _ hg
    have hnx:zdw w (w.heap.size+1) w.heap.size #[.int .i64 t.id,.int .i64 t.kind,.string t.text,.slice (some ⟨b,off,none⟩) n cap] t.kids n (k+1) (wr.setCell ⟨w.heap.size+1,k,none⟩ (.int .i64 kk)):=by
     refine⟨cs.setIfInBounds k (.int .i64 kk),by rw[hssQ wr _ k _ _ _ hg],by simp[hsz],fun j hj=>?_,(BhsQ _ _ _ _ sp1).trans hbx,hbl.setCell sp1 _⟩
     by_cases e:j=k
     · subst e;exact⟨kk,hkk,by simp[hsz,hlt]⟩
     · obtain⟨x,hx1,hx2⟩:=hcs j om
       exact⟨x,hx1,by rw[Array.getElem?_setIfInBounds_ne om];exact hx2⟩
    have HNX:=hH hnx
    have hkl:(k:Int)<(n:Int):=by omega
    have HLT:=hH hlt
    clear hnx hkk hv hk1 hd1' hg hsz hcs hbx hbl hSb hc1 hl1 hlt
    go_wp2_with fail
    exact⟨⟨k+1,HLT.out,by go_num,HNX⟩,by have:=HLT.out;simp[intOf];omega⟩
  · have hkn:k=n:=by omega
    have HKN:=hH hkn
    have hkl:¬(k:Int)<(n:Int):=by omega
    clear hkn hlt
    go_wp2_with fail
    go_ret
    obtain⟨cs,hg,hsz,hcs,hbx,hbl⟩:=hr.out
    have hln:(yR t.kids).length=n:=by rw[q9,H.out.2.2.2.1]
    refine⟨some ⟨w.heap.size+1,0,none⟩,n,by rw[hln];rfl,fun _=>⟨w.heap.size+1,0,rfl,lohQ hg,fun j x hx=>?_⟩,hbl⟩
    have hj:=(List.getElem?_eq_some_iff.1 hx).1
    obtain⟨x',h1,h2⟩:=hcs j (by rw[HKN.out];omega)
    rw[h1] at hx;cases hx
    rw[Nat.zero_add,corQ _ _ j _ _ _ hg];exact h2
def jf (g:Gr) (x:Tr):Bool:=kQ (kindOf g x.kind) x.text && jT (kindOf g x.kind) (yR x.kids)
theorem zaG {n:Nat} {P:Program} {ops:Array Oper} {Q:Exit→Act→World→Prop} {S:World→Prop} {id:Nat} {a:Act} {w:World} (hm:P.follows .mixedOrders=true) (h:vE n P .any ops Q S ops.size (Array.replicate ops.size false) a w.drew):(Code.region id ops true).wpIn Fence.wide n P Q a w:=
 wpIn_region_any hm (Zz _ _ _ _ h)
theorem qW {n:Nat} {P:Program} {ops:Array Oper} {Q:Exit→Act→World→Prop} {S:World→Prop} {id:Nat} {a:Act} {w:World} (hm:P.follows .mixedOrders=true) (h:vE n P .any ops (fun e a w=>e= .normal∧Q .normal a w) S ops.size (Array.replicate ops.size false) a w.drew):(Code.region id ops true).wpIn Fence.wide n P Q a w:=
 wpIn_mono (zaG hm h) (fun e a w h=>by obtain⟨rfl,h⟩:=h;exact h)
theorem zci {w:World} {b:Nat} {c0 c1:Value} (h:w.heap[b]? =some (.cells #[c0,c1] 24 (0,0))):w.cell? ⟨b,0,none⟩=some c0∧w.cell? ⟨b,1,none⟩=some c1:=
 ⟨by rw[corQ _ _ 0 _ _ _ h];rfl,by rw[corQ _ _ 1 _ _ _ h];rfl⟩
theorem zfD (w:World) (S:Nat→Prop) (gv:Value) (g:Gr) (nv:Value) (x:Tr) (hg:GrV w gv g) (hf:g.few) (hS:∀y,S y→y<w.heap.size) (hx:zJ w S nv x) (hn:foLen x.kids≤1000000) (hts:(x.text.size:Int)≤9223372036854775807):
 Calls Tryz.prog 117 #[gv,nv] w (Says (jf g x) w):=by
 obtain⟨ga,gc,rfl,hgk⟩:=hg
 obtain⟨ka,cap,rfl,hcap,hk⟩:=hx
 obtain⟨n,hn0⟩:∃n,n=foLen x.kids:=⟨_,rfl⟩
 obtain⟨gn,hgn⟩:∃gn,gn=g.kinds.length:=⟨_,rfl⟩
 rw[←hn0,←hgn]
 have hal:=zi [.cells #[.slice ga gn gc,.int .i64 g.root] 24,.cells #[.int .i64 x.id,.int .i64 x.kind,.string x.text,.slice ka n cap] 27] w
 have hab:=zm [.cells #[.slice ga gn gc,.int .i64 g.root] 24,.cells #[.int .i64 x.id,.int .i64 x.kind,.string x.text,.slice ka n cap] 27] w
 have kx:=hal 0 _ rfl
 rw[Nat.add_zero] at kx
 have ky:=hal 1 _ rfl
 obtain⟨V,hV⟩:∃V,V=zt w [.cells #[.slice ga gn gc,.int .i64 g.root] 24,.cells #[.int .i64 x.id,.int .i64 x.kind,.string x.text,.slice ka n cap] 27]:=⟨_,rfl⟩
 rw[←hV] at kx ky hab
 obtain⟨SX,hSX⟩:∃SX:World→Prop,SX=fun X=>Below V.heap.size V X:=⟨_,rfl⟩
 have HSx:∀X,SX X→X.cell? ⟨w.heap.size,0,none⟩=some (.slice ga gn gc)∧X.cell? ⟨w.heap.size,1,none⟩=some (.int .i64 g.root)∧X.cell? ⟨w.heap.size+1,0,none⟩=some (.int .i64 x.id)∧X.cell? ⟨w.heap.size+1,1,none⟩=some (.int .i64 x.kind)∧X.cell? ⟨w.heap.size+1,2,none⟩=some (.string x.text)∧X.cell? ⟨w.heap.size+1,3,none⟩=some (.slice ka n cap):=fun X h=>by
  exact sg5
 have hS0:SX V.drew:=by rw[hSX];exact⟨rfl,rfl,rfl,Nat.le_refl _,fun _ _=>rfl⟩
 have HSB:=hH (fun (X Y:World) (h:SX X) (hb:Below X.heap.size X Y)=>(show SX Y by rw[hSX] at h ⊢;exact h.trans (hb.mono h.size)))
 have hwX:∀X,SX X→Below w.heap.size w X:=fun X h=>by rw[hSX] at h;exact hab.trans (h.mono hab.size)
 have hgX:∀X,SX X→GrV X (.agg #[.slice ga gn gc,.int .i64 g.root]) g:=fun X h=>⟨ga,gc,by rw[hgn],hgk.below (hwX X h)⟩
 obtain⟨b1,hb1⟩:∃b,b=kQ (kindOf g x.kind) x.text:=⟨_,rfl⟩
 obtain⟨b2,hb2⟩:∃b,b=jT (kindOf g x.kind) (yR x.kids):=⟨_,rfl⟩
 obtain⟨kn,hkn⟩:∃kn,kn=(yR x.kids).length:=⟨_,rfl⟩
 have HTX:Hid (∀X,SX X→Calls Tryz.prog 122 #[.agg #[.slice ga gn gc,.int .i64 g.root],.int .i64 x.kind,.string x.text] X (Says b1 X)):=hH fun X h=>by
  have:=zhD X _ g x.kind x.text (hgX X h) hf hts
  rw[←hb1] at this;exact this
 have HKI:Hid (∀X,SX X→Calls Tryz.prog 124 #[.agg #[.int .i64 x.id,.int .i64 x.kind,.string x.text,.slice ka n cap]] X (zbk X x.kids)):=hH fun X h=>zfu X S _ x (fun y hy=>nL (hS y hy) (hwX X h).size) ⟨ka,cap,by rw[hn0],hcap,hk.below (hwX X h) hS⟩ hn
 have HFI:Hid (∀X,SX X→∀xa xc,qw X xa (yR x.kids)→Calls Tryz.prog 123 #[.agg #[.slice ga gn gc,.int .i64 g.root],.int .i64 x.kind,.slice xa kn xc] X (Says b2 X)):=hH fun X h xa xc hi=>by
  have:=zgY X _ g x.kind xa xc (yR x.kids) (hgX X h) hf hi (by rw[q9];exact hn)
  rw[←hb2,←hkn] at this;exact this
 have HKL:=hH hkn
 have HB:=hH (show jf g x=(b1 && b2) by rw[hb1,hb2];rfl)
 have HFIN:=hH hwX
 have HV:=hH hV
 clear hS hcap hk hn hts hf hgk hn0 hgn hal hab kx ky hwX hgX hSX hV hb1 hb2 hkn
 refine (callsIn_wide (n:=8)).1 ?_
 refine callsIn_of_wp_marks Tryz.func117 rfl trivial ?_ rfl
 simp only[Tryz.ntmps117,List.size_toArray,List.length_cons,List.length_nil,Nat.reduceAdd,Nat.reduceSub,Array.replicate_succ,Array.replicate_zero,List.push_toArray,List.append_toArray,List.nil_append,List.cons_append]
 gi_wp2_with fail
 change Code.wpIn _ _ _ _ _ _ (zt w [.cells #[.slice ga gn gc,.int .i64 g.root] 24,.cells #[.int .i64 x.id,.int .i64 x.kind,.string x.text,.slice ka n cap] 27])
 rw[←HV.out]
 refine qW (S:=SX) kr1 ?_
 have hHeld:=hS0
 clear hS0
 refine zL1 (i:=0) (.agg #[.slice ga gn gc,.int .i64 g.root]) rfl ?_ ?_
 · clear hHeld;intro X hSw;obtain⟨s0,s1,s2,s3,s4,s5⟩:=HSx X hSw;clear hSw;go_simp
 simp only[Act.put,pg]
 refine zG1 (i:=1) ((.pointer (some ⟨w.heap.size+1,1,none⟩))) rfl ?_
 simp only[Act.put,pg]
 refine zL1 (i:=2) (.int .i64 x.kind) rfl ?_ ?_
 · clear hHeld;intro X hSw;obtain⟨s0,s1,s2,s3,s4,s5⟩:=HSx X hSw;clear hSw;go_simp
 simp only[Act.put,pg]
 refine zG1 (i:=3) ((.pointer (some ⟨w.heap.size+1,2,none⟩))) rfl ?_
 simp only[Act.put,pg]
 refine zL1 (i:=4) (.string x.text) rfl ?_ ?_
 · clear hHeld;intro X hSw;obtain⟨s0,s1,s2,s3,s4,s5⟩:=HSx X hSw;clear hSw;go_simp
 simp only[Act.put,pg]
 refine zM (i:=5) (o:=_) kr1 rfl fun K5 hK5=>?_
 rw[if_pos (by rfl)]
 simp only[pg3]
 have HK5:=hH hK5
 have HH5:=hH hHeld
 clear hK5 hHeld
 gi_wp2_with (refine⟨trivial,?_⟩;gi_at_call 122;refine (callsIn_wide.2 (HTX.out _ HH5.out)).mono ?_;rintro e X5 ⟨rfl,hb⟩;have HX5:=hH hb;clear hb)
 have hHeld:=HSB.out _ X5 HH5.out HX5.out
 refine HK5.out _ _ hHeld ?_
 clear HK5
 cases b1
 · refine zG1 (i:=6) (.bool false) rfl ?_
   simp only[Act.put,pg]
   refine zR1 (i:=7) rfl ?_
   simp only[Act.put,pg]
   refine zR1 (i:=8) rfl ?_
   simp only[Act.put,pg]
   refine zR1 (i:=9) rfl ?_
   simp only[Act.put,pg]
   refine zR1 (i:=10) rfl ?_
   simp only[Act.put,pg]
   refine zR1 (i:=11) rfl ?_
   simp only[Act.put,pg]
   refine zR1 (i:=12) rfl ?_
   simp only[Act.put,pg]
   refine zG1 (i:=13) (.bool false) rfl ?_
   simp only[Act.put,pg]
   refine zG1 (i:=14) (.bool false) rfl ?_
   exact sb5
 · refine zG1 (i:=6) (.bool true) rfl ?_
   simp only[Act.put,pg]
   refine zL1 (i:=7) (.agg #[.slice ga gn gc,.int .i64 g.root]) rfl ?_ ?_
   · clear hHeld;intro X hSw;obtain⟨s0,s1,s2,s3,s4,s5⟩:=HSx X hSw;clear hSw;go_simp
   simp only[Act.put,pg]
   refine zG1 (i:=8) ((.pointer (some ⟨w.heap.size+1,1,none⟩))) rfl ?_
   simp only[Act.put,pg]
   refine zL1 (i:=9) (.int .i64 x.kind) rfl ?_ ?_
   · clear hHeld;intro X hSw;obtain⟨s0,s1,s2,s3,s4,s5⟩:=HSx X hSw;clear hSw;go_simp
   simp only[Act.put,pg]
   refine zL1 (i:=10) (.agg #[.int .i64 x.id,.int .i64 x.kind,.string x.text,.slice ka n cap]) rfl ?_ ?_
   · clear hHeld;intro X hSw;obtain⟨s0,s1,s2,s3,s4,s5⟩:=HSx X hSw;clear hSw;go_simp
   simp only[Act.put,pg]
   refine zM (i:=11) (o:=_) kr1 rfl fun K11 hK11=>?_
   rw[if_pos (by rfl)]
   simp only[pg3]
   have HK11:=hH hK11
   have HH11:=hH hHeld
   clear hK11 hHeld
   gi_wp2_with (refine⟨trivial,?_⟩;gi_at_call 124;refine (callsIn_wide.2 (HKI.out _ HH11.out)).mono ?_;rintro e X11 ⟨xa,xc,rfl,hxi,hb⟩;rw[←HKL.out];have HX11:=hH (aN hxi hb);clear hxi hb)
   have hHeld:=HSB.out _ X11 HH11.out HX11.out.2
   refine HK11.out _ _ hHeld ?_
   clear HK11
   refine zM (i:=12) (o:=_) kr1 rfl fun K12 hK12=>?_
   rw[if_pos (by rfl)]
   simp only[pg3]
   have HK12:=hH hK12
   have HH12:=hH hHeld
   clear hK12 hHeld
   gi_wp2_with (refine⟨trivial,?_⟩;gi_at_call 123;refine (callsIn_wide.2 (HFI.out _ HH12.out xa xc HX11.out.1)).mono ?_;rintro e X12 ⟨rfl,hb⟩;have HX12:=hH hb;clear hb)
   have hHeld:=HSB.out _ X12 HH12.out HX12.out
   refine HK12.out _ _ hHeld ?_
   clear HK12
   refine zG1 (i:=13) (.bool b2) rfl ?_
   simp only[Act.put,pg]
   refine zG1 (i:=14) (.bool b2) rfl ?_
   exact sb5
end Go.Proofs.YtgkmmnihaiopaaaGreat
namespace Go.Proofs.YtgkmmnihaiopaaaGreat
open Go.RowKit Go.Shelf
attribute [local go_sem] Oper.semAt_some
def zjn (w:World) (nb:Nat) (c1:Array Value) (f:Fo) (v:Value) (k:Nat) (wr:World):Prop:=
 wr.ownsRow (w.heap.size+1) 3 1 v k (((yR f).take k).map (Value.int .i64))∧wr.heap[nb]? =some (.cells c1 27 (0,0))∧Below w.heap.size w wr
theorem zfZ {f:Fo} {k:Nat} {x:Int} (h:(yR f)[k]? =some x):((yR f).take (k+1)).map (Value.int .i64)=((yR f).take k).map (Value.int .i64)++[.int .i64 x]:=by
 rw[List.take_add_one,h];simp
theorem zee (w:World) (S:Nat→Prop) (nv:Value) (t:Tr) (hS:∀x,S x→x<w.heap.size) (ht:zJ w S nv t) (hsz:foLen t.kids≤1000000):Calls Tryz.prog 58 #[nv] w (zbk w t.kids):=by
 obtain⟨ka,cap,rfl,hcap,hk⟩:=ht
 obtain⟨n,hn⟩:∃n,n=foLen t.kids:=⟨_,rfl⟩
 have hn6:n≤1000000:=by omega
 rw[←hn]
 obtain⟨W0,hW0⟩:∃W0,W0=w.alloc (.cells #[.int .i64 t.id,.int .i64 t.kind,.string t.text,.slice ka n cap] 27):=⟨_,rfl⟩
 have hs0:W0.heap.size=w.heap.size+1:=by rw[hW0];simp
 have hbx:W0.heap[w.heap.size]? =some (.cells #[.int .i64 t.id,.int .i64 t.kind,.string t.text,.slice ka n cap] 27 (0,0)):=by rw[hW0];exact hanQ w _
 have hst:zjn w w.heap.size #[.int .i64 t.id,.int .i64 t.kind,.string t.text,.slice ka n cap] t.kids (.slice none 0 0) 0 W0:=
  ⟨World.ownsRow_nil _ _ _ _,hbx,by rw[hW0];exact (BrQ _ w).alloc (Nat.le_refl _) _⟩
 obtain⟨i0,hi,hz0,hz1,hz2⟩:=info_parts Tryz.zcG
 have HI:=hH (aN hi (aN hz0 (aN hz1 hz2)))
 have H:=hH (aN hS (aN hcap (aN hk (aN hn (aN hst hW0)))))
 clear hS hcap hk hn hst hW0 hs0 hbx hsz hi hz0 hz1 hz2
 go_enter Tryz.func58,Tryz.ntmps58
 go_wp2_with fail
 rw[←H.out.2.2.2.2.2]
 go_loopw [3,4] (fun v i wr=>∃k:Nat,k≤n∧i= .int .i64 (k:Int)∧Hid (zjn w w.heap.size #[.int .i64 t.id,.int .i64 t.kind,.string t.text,.slice ka n cap] t.kids v k wr)) (fun _ i _=>n - (intOf i).toNat)
 case atStart=>exact⟨0,Nat.zero_le _,rfl,hH H.out.2.2.2.2.1⟩
 case round=>
  obtain⟨k,hk,rfl,hr⟩:=hrel
  by_cases hlt:k<n
  · obtain⟨hown,hbx,hbl⟩:=hr.out
    obtain⟨ra,rc,rfl⟩:=zw hown
    have p3:wr.cell? ⟨w.heap.size,3,none⟩=some (.slice ka n cap):=by rw[corQ wr _ 3 _ _ _ hbx];rfl
    have hk1:zu wr S t.kids ka:=H.out.2.2.1.kept fun x hx=>⟨hx,hbl.block x (H.out.1 x hx)⟩
    obtain⟨b0,o0,⟨ki,kk,kt⟩,l',r,hd1',b,off,a1,n1,rfl,hSb,c0,c1,c2,c3,hc1,hl1⟩:=hk1.at k (by rw[←H.out.2.2.2.1];exact hlt)
    have hkk:=Qw k t.kids _ _ _ _ _ hd1'
    have HKK:=hH hkk
    have HO:=hH (aN hown (aN hbx hbl))
    have hkl:(k:Int)<(n:Int):=by omega
    have HLT:=hH hlt
    have hsw:w.heap.size+1≤wr.heap.size:=by have:=lohQ hbx;omega
    clear hkk hk1 hd1' hown hbx hbl hSb hc1 hl1 hlt
    go_wp2_with (at_builtin;refine wpList_append_own _ rfl (.tmp 12) (.tmp 19) _ rfl (w.heap.size+1) 3 i0 (.int .i64 0) 1 8 Tryz.underlying53 HI.out.1 HI.out.2.1 HI.out.2.2.1 HI.out.2.2.2 rfl om (.slice ra k rc) k _ rfl (HO.out.1.alloc _) ⟨wr.heap.size,0,none⟩ 1 1 [.int .i64 kk] rfl rfl (World.news_of_block (cs:= #[.int .i64 kk]) (hanQ wr _)) (by simp[Value.oneCell']) (by have:=HLT.out;unfold maxLen;omega) (by have:=HLT.out;omega) (by simp;omega) ?_;intro v8 w8 hown hgrow _;have HF:=hH (aN hown hgrow);clear hown hgrow)
    refine⟨⟨k+1,HLT.out,by go_num,hH ⟨?_,?_,?_⟩⟩,by have:=HLT.out;simp[intOf];omega⟩
    · rw[zfZ HKK.out];exact HF.out.1
    · have hob:∀g,Value.ownBlock (.slice ra k rc)=some g→w.heap.size+1≤g:=fun g hg=>(zo HO.out.1 hg).1
      rw[HF.out.2.block _ (by simp;omega) (fun e=>by have:=hob _ e.symm;omega),BhaQ _ _ _ om]
      exact HO.out.2.1
    · have hob:∀g,Value.ownBlock (.slice ra k rc)=some g→w.heap.size+1≤g:=fun g hg=>(zo HO.out.1 hg).1
      have hg:=HF.out.2
      have hb:=HO.out.2.2
      refine⟨hg.os.trans hb.os,hg.tape.trans hb.tape,hg.output.trans hb.output,by have:=hg.size;simp at this;have:=hb.size;omega,fun y hy=>?_⟩
      rw[hg.block y (by simp;omega) (fun e=>by have:=hob _ e.symm;omega),BhaQ _ _ _ om]
      exact hb.block y hy
  · have hkn:k=n:=by omega
    subst hkn
    have hkl:¬(k:Int)<(k:Int):=by omega
    obtain⟨hown,hbx,hbl⟩:=hr.out
    have p3:wr.cell? ⟨w.heap.size,3,none⟩=some (.slice ka k cap):=by rw[corQ wr _ 3 _ _ _ hbx];rfl
    obtain⟨a,cp,rfl⟩:=zw hown
    have HO:=hH (aN hown hbl)
    clear hown hbx hbl hlt hr
    go_wp2_with fail
    go_ret
    have hln:(yR t.kids).length=k:=by rw[q9,H.out.2.2.2.1]
    refine⟨a,cp,by rw[hln];rfl,fun h0=>?_,HO.out.2⟩
    have hown:=HO.out.1
    rw[List.take_of_length_le om] at hown
    have hgg:∃g,a=some ⟨g,0,none⟩:=by
     rcases hown.2 with ⟨hv,h1⟩ | ⟨g,cap2,cur,hv,_⟩
     · omega
     · cases hv;exact⟨g,rfl⟩
    obtain⟨g,rfl⟩:=hgg
    exact⟨g,0,rfl,(zo hown rfl).2,fun j x hx=>by rw[Nat.zero_add];exact zF hown rfl j _ (by rw[List.getElem?_map,hx];rfl)⟩
end Go.Proofs.YtgkmmnihaiopaaaGreat
