/-
  .
-/
import Derived.Test.YtgkmmnihaiopaaaGreatKApplyXQu
import Derived.Test.YtgkmmnihaiopaaaGreatKFreshQu
import Derived.Test.YtgkmmnihaiopaaaGreatBlankQu
import Derived.Test.YtgkmmnihaiopaaaGreatECountNQu
import Derived.Deep.Cut
import Derived.Deep.LoopGhost
import Derived.Deep.RegionHeld
import Derived.Deep.RegionLaw
import Derived.Lib.BufSteps
import Derived.Test.YtgkmmnihaiopaaaGreatKIdsQu
import Derived.Test.YtgkmmnihaiopaaaGreatKAlong1Qu
import Derived.Test.YtgkmmnihaiopaaaGreatKInsertQu
import Derived.Test.YtgkmmnihaiopaaaGreatKPlacePQu
import Derived.Test.YtgkmmnihaiopaaaGreatHSharedQu
import Derived.BigQuiet
import Derived.Test.YtgkmmnihaiopaaaGreatEFindWQu
import Derived.Test.YtgkmmnihaiopaaaGreatRGreatXQu
import Derived.Test.YtgkmmnihaiopaaaGreatVFaultQu
import Derived.Test.YtgkmmnihaiopaaaGreatGRCheckQu
import Derived.Test.YtgkmmnihaiopaaaGreatRKidsQu
import Derived.Test.YtgkmmnihaiopaaaGreatJPgQu
import Derived.Test.YtgkmmnihaiopaaaGreatJPsQu
set_option maxRecDepth 100000
set_option maxHeartbeats 40000000
set_option linter.unusedVariables false
set_option linter.unusedSimpArgs false
namespace Go.Proofs.YtgkmmnihaiopaaaGreat
open Go.RowKit Go.Shelf
structure Sf where
 op:Int
 id:Int
 par:Int
 at_:Int
 tx:ByteArray
 sub:Tr
def zjC:Sf:=⟨0,0,0,0,⟨#[]⟩,zH⟩
def Sf.on (s:Sf) (t:Tr):Tr×Int:=yC s.op s.id s.par s.at_ s.tx s.sub t
theorem zdT:∀f:Fo,idF f=je f
 | .nil=>rfl
 | .node b o k l r=>by rw[yI,idF,zdT l,zdT r]
theorem zg6 (t:Tr):idT t=je (zl t):=by
 rw[zl,yI,idT,zdT];simp[je,spF]
theorem zeE (a:Int) (t:Tr):a∈idT t↔0<q8 a t:=by rw[zg6,vF,ZF]
theorem JW :∀(r l:List Int) (e:Int),qy l r e=0→e=0∧(∀i∈r,1≤i∧i≤1125899906842624)∧r.Nodup∧∀i∈r,i∉l
 | [],l,e,h=>⟨h,fun _ h=>(by cases h),List.nodup_nil,fun _ h=>(by cases h)⟩
 | i :: r, l,e,h=>by
   rw[qy] at h
   split at h
   · exact absurd h (by decide)
   · rename_i hr
     obtain⟨h1,h2,h3,h4⟩:=JW r _ _ h
     split at h1
     · exact absurd h1 (by decide)
     · rename_i ha
       have hil:i∉l:=fun hm=>ha (List.any_eq_true.2 ⟨i,hm,by simp⟩)
       refine⟨h1,fun j hj=>?_,List.nodup_cons.2 ⟨fun hm=>h4 i hm sp1,h3⟩,fun j hj=>?_⟩
       · rcases List.mem_cons.1 hj with rfl | hj
         · omega
         · exact h2 j hj
       · rcases List.mem_cons.1 hj with rfl | hj
         · exact hil
         · exact fun hm=>h4 j hj (List.mem_append_left _ hm)
theorem zcA:∀(r l:List Int),(∀i∈r,1≤i∧i≤1125899906842624)→r.Nodup→(∀i∈r,i∉l)→qy l r 0=0
 | [],l,_,_,_=>rfl
 | i ::r,l,h1,h2,h3=>by
   have hi:=h1 i (List.mem_cons_self ..)
   have h2':=List.nodup_cons.1 h2
   rw [qy,if_neg om,if_neg (fun ha=>by
    obtain⟨j,hj,e⟩:=List.any_eq_true.1 ha
    have e' :j=i:=by simpa using e
    exact h3 i (List.mem_cons_self ..) (e'▸hj))]
   refine zcA r _ (fun j hj=>h1 j (List.mem_cons_of_mem _ hj)) h2'.2 fun j hj hm=>?_
   rcases List.mem_append.1 hm with hm | hm
   · exact h3 j (List.mem_cons_of_mem _ hj) hm
   · have:j=i:=by simpa using hm
     exact h2'.1 (this▸hj)
def NB (X:World) (y:Nat):Prop:=∃cs,X.heap[y]? =some (.cells cs 27 (0,0))
theorem one_set {V:World} {R1 i:Nat} {cs:Array Value} {T:TypeId} {u:Value} (h2:V.heap[R1]? =some (.cells cs T (0,0))):
 ∃V5,V5=V.setCell ⟨R1,i,none⟩ u∧V5.heap[R1]? =some (.cells (cs.setIfInBounds i u) T (0,0))∧(∀y,y≠R1→V5.heap[y]? =V.heap[y]?)∧V5.os=V.os∧V5.tape=V.tape∧V5.output=V.output∧V5.heap.size=V.heap.size:=
 ⟨_,rfl,hssQ V R1 i _ _ u h2,fun y hy=>BhsQ _ _ _ _ hy,rfl,rfl,rfl,by simp[World.setCell]⟩
theorem JG {w:World} {b:Nat} {c0 c1 c2 c3 c4 c5 c6 c7 c8:Value} {T:TypeId} (h:w.heap[b]? =some (.cells #[c0,c1,c2,c3,c4,c5,c6,c7,c8] T (0,0))):w.cell? ⟨b,0,none⟩=some c0∧w.cell? ⟨b,1,none⟩=some c1∧w.cell? ⟨b,2,none⟩=some c2∧w.cell? ⟨b,3,none⟩=some c3∧w.cell? ⟨b,4,none⟩=some c4∧w.cell? ⟨b,5,none⟩=some c5∧w.cell? ⟨b,6,none⟩=some c6∧w.cell? ⟨b,7,none⟩=some c7∧w.cell? ⟨b,8,none⟩=some c8:=
 ⟨by rw[corQ _ _ 0 _ _ _ h];rfl,by rw[corQ _ _ 1 _ _ _ h];rfl,by rw[corQ _ _ 2 _ _ _ h];rfl,by rw[corQ _ _ 3 _ _ _ h];rfl,by rw[corQ _ _ 4 _ _ _ h];rfl,by rw[corQ _ _ 5 _ _ _ h];rfl,by rw[corQ _ _ 6 _ _ _ h];rfl,by rw[corQ _ _ 7 _ _ _ h];rfl,by rw[corQ _ _ 8 _ _ _ h];rfl⟩
def jC (W:World) (f:Fo) (a:Option Addr) (c:Nat):Prop:=foLen f≤c∧zu W (fun q=>q<W.heap.size) f a
theorem jC.at {W X:World} {t:Tr} {a:Option Addr} {c:Nat} (h:jC W t.kids a c) (hb:Below W.heap.size W X):zJ X (fun q=>q<W.heap.size) (.agg #[.int .i64 t.id,.int .i64 t.kind,.string t.text,.slice a (foLen t.kids) c]) t:=⟨a,c,rfl,h.1,h.2.kept fun q hq=>⟨hq,hb.block q hq⟩⟩
theorem jC.on {W X:World} {f:Fo} {a:Option Addr} {c:Nat} (h:jC W f a c) (hb:Below W.heap.size W X):jC X f a c:=⟨h.1,h.2.kept fun q hq=>⟨nL hq hb.size,hb.block q hq⟩⟩
theorem Qr:∀f:Fo,zg f≤9223372036854775807→qD f
 | .nil,_=>True.intro
 | .node _ _ _ l r,h=>by
   have h1:=zK l
   simp only[zg] at h
   exact⟨by omega,Qr l om,Qr r om⟩
def EB (ta ba:Option Addr) (q:Nat):Prop:=(∃a,ta=some a∧a.block=q)∨(∃a,ba=some a∧a.block=q)
def zaL (X:World) (E:Nat→Prop) (f:Fo) (a:Option Addr) (c:Nat):Prop:=foLen f≤c∧zu X (fun q=>q<X.heap.size∧¬E q) f a
theorem zaL.on {X Y:World} {E:Nat→Prop} {f:Fo} {a:Option Addr} {c:Nat} (h:zaL X E f a c) (hb:Below X.heap.size X Y):zaL Y E f a c:=⟨h.1,h.2.kept fun q hq=>⟨⟨nL hq.1 hb.size,hq.2⟩,hb.block q hq.1⟩⟩
def zeO (s:Sf) (a:Option Addr) (c:Nat):List Value:=[.int .i8 s.op,.int .i64 s.id,.int .i64 s.par,.int .i64 s.at_,.string s.tx,.int .i64 s.sub.id,.int .i64 s.sub.kind,.string s.sub.text,.slice a (foLen s.sub.kids) c]
attribute [local go_sem] Oper.semAt_some
def vK (g:Gr) (t:Tr):Int×Int:=if qz g=true then (if 200<zg t.kids+1 then (0,70) else vN g (spF 1 (zl t))) else (0,50)
def qK (g:Gr) (t:Tr):Int×Int:=if qz g=true∧¬t.kind=g.root then (0,70) else vK g t
theorem zit (w:World) (S:Nat→Prop) (gv nv:Value) (g:Gr) (t:Tr) (hg:GrV w gv g) (hf:g.few) (hS:∀x,S x→x<w.heap.size) (ht:zJ w S nv t) (hsz:zg t.kids+1≤500000) (hok:okF (spF 1 (zl t))):
 Calls Tryz.prog 65 #[gv,nv] w (YQ (vK g t) w):=by
 obtain⟨ga,gc,rfl,hgk⟩:=hg
 obtain⟨ka,cap,rfl,hcap,hk⟩:=ht
 obtain⟨n,hn⟩:∃n,n=foLen t.kids:=⟨_,rfl⟩
 obtain⟨gn,hgn⟩:∃gn,gn=g.kinds.length:=⟨_,rfl⟩
 rw[←hn,←hgn]
 have kx:((w.alloc (.cells #[.slice ga gn gc,.int .i64 g.root] 24)).alloc (.cells #[.int .i64 t.id,.int .i64 t.kind,.string t.text,.slice ka n cap] 27)).heap[w.heap.size]? =_:=zi [.cells #[.slice ga gn gc,.int .i64 g.root] 24,.cells #[.int .i64 t.id,.int .i64 t.kind,.string t.text,.slice ka n cap] 27] w 0 _ rfl
 have ky:((w.alloc (.cells #[.slice ga gn gc,.int .i64 g.root] 24)).alloc (.cells #[.int .i64 t.id,.int .i64 t.kind,.string t.text,.slice ka n cap] 27)).heap[w.heap.size+1]? =_:=zi [.cells #[.slice ga gn gc,.int .i64 g.root] 24,.cells #[.int .i64 t.id,.int .i64 t.kind,.string t.text,.slice ka n cap] 27] w 1 _ rfl
 have hab:Below w.heap.size w ((w.alloc (.cells #[.slice ga gn gc,.int .i64 g.root] 24)).alloc (.cells #[.int .i64 t.id,.int .i64 t.kind,.string t.text,.slice ka n cap] 27)):=zm [.cells #[.slice ga gn gc,.int .i64 g.root] 24,.cells #[.int .i64 t.id,.int .i64 t.kind,.string t.text,.slice ka n cap] 27] w
 obtain⟨SX,hSX⟩:∃SX:World→Prop,SX=fun X=>Below (w.heap.size+2) ((w.alloc (.cells #[.slice ga gn gc,.int .i64 g.root] 24)).alloc (.cells #[.int .i64 t.id,.int .i64 t.kind,.string t.text,.slice ka n cap] 27)) X:=⟨_,rfl⟩
 have HSx:∀X,SX X→X.cell? ⟨w.heap.size,0,none⟩=some (.slice ga gn gc)∧X.cell? ⟨w.heap.size,1,none⟩=some (.int .i64 g.root)∧X.cell? ⟨w.heap.size+1,0,none⟩=some (.int .i64 t.id)∧X.cell? ⟨w.heap.size+1,1,none⟩=some (.int .i64 t.kind)∧X.cell? ⟨w.heap.size+1,2,none⟩=some (.string t.text)∧X.cell? ⟨w.heap.size+1,3,none⟩=some (.slice ka n cap):=fun X h=>by
  exact sc8
 have HS:=hH (show SX ((w.alloc (.cells #[.slice ga gn gc,.int .i64 g.root] 24)).alloc (.cells #[.int .i64 t.id,.int .i64 t.kind,.string t.text,.slice ka n cap] 27)) by rw[hSX];exact BrQ _ _)
 have HSB:=hH (fun (X Y:World) (h:SX X) (hb:Below X.heap.size X Y)=>(show SX Y by rw[hSX] at h ⊢;exact h.trans (hb.mono (by have:=h.size;simp at this;omega))))
 have hwX:∀X,SX X→Below w.heap.size w X:=fun X h=>by rw[hSX] at h;exact hab.trans (h.mono om)
 have hgX:∀X,SX X→GrV X (.agg #[.slice ga gn gc,.int .i64 g.root]) g:=fun X h=>⟨ga,gc,by rw[hgn],hgk.below (hwX X h)⟩
 have htX:∀X,SX X→zJ X S (.agg #[.int .i64 t.id,.int .i64 t.kind,.string t.text,.slice ka n cap]) t:=fun X h=>⟨ka,cap,by rw[hn],hcap,hk.below (hwX X h) hS⟩
 have hSXl:∀X,SX X→∀y,S y→y<X.heap.size:=fun X h y hy=>nL (hS y hy) (hwX X h).size
 have HCK:Hid (∀X,SX X→Calls Tryz.prog 64 #[.agg #[.slice ga gn gc,.int .i64 g.root]] X (yU (kY (qz g)) X)):=hH fun X h=>zaW X _ g (hgX X h) hf
 obtain⟨b1,hb1⟩:∃b,b=decide (200<zg t.kids+1):=⟨_,rfl⟩
 obtain⟨⟨f1,f2⟩,hfr⟩:∃p:Int×Int,p=vN g (spF 1 (zl t)):=⟨_,rfl⟩
 have HTM:Hid (∀X,SX X→Calls Tryz.prog 82 #[.agg #[.int .i64 t.id,.int .i64 t.kind,.string t.text,.slice ka n cap]] X (Says b1 X)):=hH fun X h=>by
  have:=zdl X S _ t (hSXl X h) (htX X h) hsz
  rw[←hb1] at this;exact this
 have HFA:Hid (∀X,SX X→Calls Tryz.prog 83 #[.agg #[.slice ga gn gc,.int .i64 g.root],.agg #[.int .i64 t.id,.int .i64 t.kind,.string t.text,.slice ka n cap]] X (YQ (f1,f2) X)):=hH fun X h=>by
  have:=zfn X S _ _ g t (hgX X h) hf (hSXl X h) (htX X h) hsz hok
  rw[←hfr] at this;exact this
 have HB1:=hH hb1
 have HFR:=hH hfr
 have HFIN:=hH hwX
 obtain⟨ck,hck⟩:∃ck,ck=qz g:=⟨_,rfl⟩
 have HK:=hH hck
 rw[←hck] at HCK
 clear hS hcap hk hn hgn hf hgk hsz hok kx ky hab hSX hwX hgX htX hSXl hb1 hfr hck
 cases ck
 · have HB:=hH (show vK g t=(0,50) by rw[vK,←HK.out];rfl)
   rw[show kY false=50 from rfl] at HCK
   go_enter Tryz.func65,Tryz.ntmps65
   exact se9
 · rw [show kY true=0 from rfl] at HCK
   cases b1
   · have HB:=hH (show vK g t=(f1,f2) by rw[vK,←HK.out,if_pos rfl,if_neg (of_decide_eq_false HB1.out.symm),HFR.out])
     go_enter Tryz.func65,Tryz.ntmps65
     go_wp2_with (first
      | (go_at_call 64;refine (HCK.out _ HS.out).mono ?_;rintro e w2 ⟨rfl,hb⟩;have HS2:=hH (HSB.out _ w2 HS.out hb);obtain⟨p0,p1,p2,p3,p4,p5⟩:=HSx w2 HS2.out;clear hb)
      | (go_at_call 82;refine (HTM.out _ HS2.out).mono ?_;rintro e w3 ⟨rfl,hb⟩;have HS3:=hH (HSB.out _ w3 HS2.out hb);obtain⟨q0,q1,q2,q3,q4,q5⟩:=HSx w3 HS3.out;clear hb)
      | (go_at_call 83;refine (HFA.out _ HS3.out).mono ?_;rintro e w4 ⟨rfl,hb⟩;have HS4:=hH (HSB.out _ w4 HS3.out hb);obtain⟨r0,r1,r2,r3,r4,r5⟩:=HSx w4 HS4.out;clear hb))
     go_ret2
     exact⟨by rw[HB.out];rfl,HFIN.out _ HS4.out⟩
   · have HB:=hH (show vK g t=(0,70) by rw[vK,←HK.out,if_pos rfl,if_pos (of_decide_eq_true HB1.out.symm)])
     go_enter Tryz.func65,Tryz.ntmps65
     go_wp2_with (first
      | (go_at_call 64;refine (HCK.out _ HS.out).mono ?_;rintro e w2 ⟨rfl,hb⟩;have HS2:=hH (HSB.out _ w2 HS.out hb);obtain⟨p0,p1,p2,p3,p4,p5⟩:=HSx w2 HS2.out;clear hb)
      | (go_at_call 82;refine (HTM.out _ HS2.out).mono ?_;rintro e w3 ⟨rfl,hb⟩;have HS3:=hH (HSB.out _ w3 HS2.out hb);obtain⟨q0,q1,q2,q3,q4,q5⟩:=HSx w3 HS3.out;clear hb))
     go_ret2
     exact⟨by rw[HB.out];rfl,HFIN.out _ HS3.out⟩
theorem zhF (w:World) (S:Nat→Prop) (gv nv:Value) (g:Gr) (t:Tr) (hg:GrV w gv g) (hf:g.few) (hS:∀x,S x→x<w.heap.size) (ht:zJ w S nv t) (hsz:zg t.kids+1≤500000) (hok:okF (spF 1 (zl t))):
 Calls Tryz.prog 45 #[gv,nv] w (YQ (qK g t) w):=by
 obtain⟨ga,gc,rfl,hgk⟩:=hg
 obtain⟨ka,cap,rfl,hcap,hk⟩:=ht
 obtain⟨n,hn⟩:∃n,n=foLen t.kids:=⟨_,rfl⟩
 obtain⟨gn,hgn⟩:∃gn,gn=g.kinds.length:=⟨_,rfl⟩
 rw[←hn,←hgn]
 have kx:((w.alloc (.cells #[.slice ga gn gc,.int .i64 g.root] 24)).alloc (.cells #[.int .i64 t.id,.int .i64 t.kind,.string t.text,.slice ka n cap] 27)).heap[w.heap.size]? =_:=zi [.cells #[.slice ga gn gc,.int .i64 g.root] 24,.cells #[.int .i64 t.id,.int .i64 t.kind,.string t.text,.slice ka n cap] 27] w 0 _ rfl
 have ky:((w.alloc (.cells #[.slice ga gn gc,.int .i64 g.root] 24)).alloc (.cells #[.int .i64 t.id,.int .i64 t.kind,.string t.text,.slice ka n cap] 27)).heap[w.heap.size+1]? =_:=zi [.cells #[.slice ga gn gc,.int .i64 g.root] 24,.cells #[.int .i64 t.id,.int .i64 t.kind,.string t.text,.slice ka n cap] 27] w 1 _ rfl
 have hab:Below w.heap.size w ((w.alloc (.cells #[.slice ga gn gc,.int .i64 g.root] 24)).alloc (.cells #[.int .i64 t.id,.int .i64 t.kind,.string t.text,.slice ka n cap] 27)):=zm [.cells #[.slice ga gn gc,.int .i64 g.root] 24,.cells #[.int .i64 t.id,.int .i64 t.kind,.string t.text,.slice ka n cap] 27] w
 obtain⟨SX,hSX⟩:∃SX:World→Prop,SX=fun X=>Below (w.heap.size+2) ((w.alloc (.cells #[.slice ga gn gc,.int .i64 g.root] 24)).alloc (.cells #[.int .i64 t.id,.int .i64 t.kind,.string t.text,.slice ka n cap] 27)) X:=⟨_,rfl⟩
 have HSx:∀X,SX X→X.cell? ⟨w.heap.size,0,none⟩=some (.slice ga gn gc)∧X.cell? ⟨w.heap.size,1,none⟩=some (.int .i64 g.root)∧X.cell? ⟨w.heap.size+1,0,none⟩=some (.int .i64 t.id)∧X.cell? ⟨w.heap.size+1,1,none⟩=some (.int .i64 t.kind)∧X.cell? ⟨w.heap.size+1,2,none⟩=some (.string t.text)∧X.cell? ⟨w.heap.size+1,3,none⟩=some (.slice ka n cap):=fun X h=>by
  exact sc8
 have HS:=hH (show SX ((w.alloc (.cells #[.slice ga gn gc,.int .i64 g.root] 24)).alloc (.cells #[.int .i64 t.id,.int .i64 t.kind,.string t.text,.slice ka n cap] 27)) by rw[hSX];exact BrQ _ _)
 have HSB:=hH (fun (X Y:World) (h:SX X) (hb:Below X.heap.size X Y)=>(show SX Y by rw[hSX] at h ⊢;exact h.trans (hb.mono (by have:=h.size;simp at this;omega))))
 have hwX:∀X,SX X→Below w.heap.size w X:=fun X h=>by rw[hSX] at h;exact hab.trans (h.mono om)
 have hgX:∀X,SX X→GrV X (.agg #[.slice ga gn gc,.int .i64 g.root]) g:=fun X h=>⟨ga,gc,by rw[hgn],hgk.below (hwX X h)⟩
 have htX:∀X,SX X→zJ X S (.agg #[.int .i64 t.id,.int .i64 t.kind,.string t.text,.slice ka n cap]) t:=fun X h=>⟨ka,cap,by rw[hn],hcap,hk.below (hwX X h) hS⟩
 have hSXl:∀X,SX X→∀y,S y→y<X.heap.size:=fun X h y hy=>nL (hS y hy) (hwX X h).size
 have HCK:Hid (∀X,SX X→Calls Tryz.prog 64 #[.agg #[.slice ga gn gc,.int .i64 g.root]] X (yU (kY (qz g)) X)):=hH fun X h=>zaW X _ g (hgX X h) hf
 obtain⟨⟨f1,f2⟩,hfr⟩:∃p:Int×Int,p=vK g t:=⟨_,rfl⟩
 have HFA:Hid (∀X,SX X→Calls Tryz.prog 65 #[.agg #[.slice ga gn gc,.int .i64 g.root],.agg #[.int .i64 t.id,.int .i64 t.kind,.string t.text,.slice ka n cap]] X (YQ (f1,f2) X)):=hH fun X h=>by
  have:=zit X S _ _ g t (hgX X h) hf (hSXl X h) (htX X h) hsz hok
  rw[←hfr] at this;exact this
 have HFR:=hH hfr
 have HFIN:=hH hwX
 obtain⟨ck,hck⟩:∃ck,ck=qz g:=⟨_,rfl⟩
 have HK:=hH hck
 rw[←hck] at HCK
 clear hS hcap hk hn hgn hf hgk hsz hok kx ky hab hSX hwX hgX htX hSXl hfr hck
 cases ck
 · have HB:=hH (show qK g t=(f1,f2) by rw[qK,←HK.out,if_neg sp1,HFR.out])
   rw[show kY false=50 from rfl] at HCK
   exact sc6
 · rw [show kY true=0 from rfl] at HCK
   by_cases hr:t.kind=g.root
   · have HB:=hH (show qK g t=(f1,f2) by rw[qK,←HK.out,if_neg (by simp[hr]),HFR.out])
     have hne:(t.kind != g.root)=false:=by simp[hr]
     clear hr
     exact sc6
   · have HB:=hH (show qK g t=(0,70) by rw[qK,←HK.out,if_pos ⟨rfl,hr⟩])
     go_enter Tryz.func45,Tryz.ntmps45
     exact se9
end Go.Proofs.YtgkmmnihaiopaaaGreat
namespace Go.Proofs.YtgkmmnihaiopaaaGreat
open Go.RowKit Go.Shelf
def okB (k:Key):Bool:=decide ((k.2.2.size:Int)≤9223372036854775807) && (Lit.int .i64 k.1).wf
theorem zbN (k:Key):okB k=true↔(k.2.2.size:Int)≤9223372036854775807∧(Lit.int .i64 k.1).wf=true:=by simp[okB]
theorem zbO (t:Tr):okF (spF 1 (zl t))↔yS (fun k=> !okB k) t=0:=by
 have h:=zcm (fun k=> !okB k) t
 constructor
 · intro ho
   rcases Nat.eq_zero_or_pos (yS (fun k=> !okB k) t) with h0 | h0
   · exact h0
   · obtain⟨x,hx,hp⟩:=h.2 h0
     have:=(zbN x.2.1).2 (ho x hx)
     simp[this] at hp
 · intro h0 x hx
   have hp:okB x.2.1=true:=by
    cases hb:okB x.2.1 with
    | true=>rfl
    | false=>
      have:=h.1 ⟨x,hx,by simp[hb]⟩
      omega
   exact (zbN _).1 hp
theorem Fx.ok {op id:Int} {tx:ByteArray} {x t y:Tr} (h:Fx op id tx x t y) (ht:okF (spF 1 (zl t))) (hx:okF (spF 1 (zl x))) (htx:(tx.size:Int)≤9223372036854775807):okF (spF 1 (zl y)):=by
 have ht0:=(zbO t).1 ht
 have hx0:=(zbO x).1 hx
 rw[zbO]
 cases h with
 | ins ho h=>rw[h _];omega
 | del ho q v hq hv h=>have:=h (fun k=> !okB k);omega
 | mov ho h=>rw[h _];exact ht0
 | wri ho q u hq hu h=>
   have h1:=h (fun k=> !okB k)
   obtain⟨z,hz,e⟩:=zfP hu
   have h2:=(ht z hz).2
   have h3:okB (u.id,u.kind,tx)=true:=(zbN _).2 ⟨htx,by rw[←e];exact h2⟩
   have h4:jO (fun k=> !okB k) (u.id,u.kind,tx)=0:=by simp[jO,h3]
   omega
theorem zaz (op id par at_:Int) (tx:ByteArray) (x t:Tr):zg (yC op id par at_ tx x t).1.kids≤zg t.kids+zg x.kids+1:=by
 unfold yC
 split
 · exact YZ par at_ x t
 · split
   · have:=Qb id t;omega
   · split
     · have:=zak id par at_ t;omega
     · split
       · have:=Q7 id tx t;omega
       · simp[zH,zg]
theorem zbC:∀f:Fo,idF f=je f
 | .nil=>rfl
 | .node b o k l r=>by rw[yI,idF,zbC l,zbC r]
def doK (g:Gr) (r:Tr×Int):Tr×Int:=if r.2=0 then (if (qK g r.1).2=0 then (r.1,0) else (zH,(qK g r.1).2)) else (zH,r.2)
theorem zi3 (w:World) (S Sx:Nat→Prop) (gv nv:Value) (g:Gr) (t x:Tr) (op id par at_:Int) (tx:ByteArray) (sa:Option Addr) (sn sc:Nat) (hg:GrV w gv g) (hf:g.few) (hS:∀y,S y→y<w.heap.size) (hSx:∀y,Sx y→y<w.heap.size) (ht:zJ w S nv t) (hx:zJ w Sx (.agg #[.int .i64 x.id,.int .i64 x.kind,.string x.text,.slice sa sn sc]) x) (hsz:zg t.kids+1≤2000) (hxz:zg x.kids+1≤2000) (hop:(Lit.int .i8 op).wf=true) (hok:okF (spF 1 (zl t))) (hxk:okF (spF 1 (zl x))) (htx:(tx.size:Int)≤9223372036854775807):
 Calls Tryz.prog 25 #[gv,nv,.agg #[.int .i8 op,.int .i64 id,.int .i64 par,.int .i64 at_,.string tx,.int .i64 x.id,.int .i64 x.kind,.string x.text,.slice sa sn sc]] w (vM w (fun y=>S y∨Sx y) (doK g (yC op id par at_ tx x t))):=by
 obtain⟨ga,gc,rfl,hgk⟩:=hg
 obtain⟨gn,hgn⟩:∃gn,gn=g.kinds.length:=⟨_,rfl⟩
 obtain⟨ka,tc,rfl,hcap,hk⟩:=ht
 obtain⟨nk,hnk⟩:∃nk,nk=foLen t.kids:=⟨_,rfl⟩
 rw[←hnk,←hgn]
 obtain⟨B,hB⟩:∃B,B=zt w [.cells #[.slice ga gn gc,.int .i64 g.root] 24,.cells #[.int .i64 t.id,.int .i64 t.kind,.string t.text,.slice ka nk tc] 27,.cells #[.int .i8 op,.int .i64 id,.int .i64 par,.int .i64 at_,.string tx,.int .i64 x.id,.int .i64 x.kind,.string x.text,.slice sa sn sc] 44,.cells #[.int .i64 0,.int .i64 0,.string ⟨#[]⟩,.slice none 0 0] 27]:=⟨_,rfl⟩
 have hb:Below w.heap.size w B:=by rw[hB];exact zm _ _
 have hs:B.heap.size=w.heap.size+4:=by rw[hB];exact zC _ _
 have hgb0:B.heap[w.heap.size]? =some (.cells #[.slice ga gn gc,.int .i64 g.root] 24 (0,0)):=by rw[hB];exact zi _ _ 0 _ rfl
 have ht0:B.heap[w.heap.size+1]? =some (.cells #[.int .i64 t.id,.int .i64 t.kind,.string t.text,.slice ka nk tc] 27 (0,0)):=by rw[hB];exact zi _ _ 1 _ rfl
 have hs0:B.heap[w.heap.size+1+1]? =some (.cells #[.int .i8 op,.int .i64 id,.int .i64 par,.int .i64 at_,.string tx,.int .i64 x.id,.int .i64 x.kind,.string x.text,.slice sa sn sc] 44 (0,0)):=by rw[hB];exact zi _ _ 2 _ rfl
 have hr0:B.heap[w.heap.size+1+1+1]? =some (.cells #[.int .i64 0,.int .i64 0,.string ⟨#[]⟩,.slice none 0 0] 27 (0,0)):=by rw[hB];exact zi _ _ 3 _ rfl
 have hcell:∀X,Below B.heap.size B X→(X.cell? ⟨w.heap.size,0,none⟩=some (.slice ga gn gc)∧X.cell? ⟨w.heap.size,1,none⟩=some (.int .i64 g.root))∧(X.cell? ⟨w.heap.size+1,0,none⟩=some (.int .i64 t.id)∧X.cell? ⟨w.heap.size+1,1,none⟩=some (.int .i64 t.kind)∧X.cell? ⟨w.heap.size+1,2,none⟩=some (.string t.text)∧X.cell? ⟨w.heap.size+1,3,none⟩=some (.slice ka nk tc))∧X.cell? ⟨w.heap.size+1+1,0,none⟩=some (.int .i8 op)∧X.cell? ⟨w.heap.size+1+1,1,none⟩=some (.int .i64 id)∧X.cell? ⟨w.heap.size+1+1,2,none⟩=some (.int .i64 par)∧X.cell? ⟨w.heap.size+1+1,3,none⟩=some (.int .i64 at_)∧X.cell? ⟨w.heap.size+1+1,4,none⟩=some (.string tx)∧X.cell? ⟨w.heap.size+1+1,5,none⟩=some (.int .i64 x.id)∧X.cell? ⟨w.heap.size+1+1,6,none⟩=some (.int .i64 x.kind)∧X.cell? ⟨w.heap.size+1+1,7,none⟩=some (.string x.text)∧X.cell? ⟨w.heap.size+1+1,8,none⟩=some (.slice sa sn sc):=fun X hX=>by
  have eg:=(hX.block _ (lohQ hgb0)).trans hgb0
  have e0:=(hX.block _ (lohQ ht0)).trans ht0
  have e1:=(hX.block _ (lohQ hs0)).trans hs0
  exact⟨⟨by rw[corQ _ _ 0 _ _ _ eg];rfl,by rw[corQ _ _ 1 _ _ _ eg];rfl⟩,zG e0,by rw[corQ _ _ 0 _ _ _ e1];rfl,by rw[corQ _ _ 1 _ _ _ e1];rfl,by rw[corQ _ _ 2 _ _ _ e1];rfl,by rw[corQ _ _ 3 _ _ _ e1];rfl,by rw[corQ _ _ 4 _ _ _ e1];rfl,by rw[corQ _ _ 5 _ _ _ e1];rfl,by rw[corQ _ _ 6 _ _ _ e1];rfl,by rw[corQ _ _ 7 _ _ _ e1];rfl,by rw[corQ _ _ 8 _ _ _ e1];rfl⟩
 have hidk:∀{u:Tr},okF (spF 1 (zl u))→∀i∈idT u,(Lit.int .i64 i).wf=true:=fun {u} hu i hi=>by
  have hz:yS (zdZ i) u≠0:=by
   rw[zhY]
   intro h0
   have h1:=(vF i (zl u)).1
   rw[ZF] at h1
   have h2:i∈je (zl u):=by
    rw[zl,yI]
    rw[idT] at hi
    rcases List.mem_cons.1 hi with rfl | hi
    · exact List.mem_cons_self ..
    · have e:idF u.kids=je u.kids:=zbC u.kids
      rw[e] at hi
      exact List.mem_cons_of_mem _ (List.mem_append_left _ hi)
   have:=h1 h2
   omega
  obtain⟨y,hy,hp⟩:=(zcm (zdZ i) u).2 om
  have h3:=(hu y hy).2
  simp only[zdZ,decide_eq_true_eq] at hp
  rw[←hp];exact h3
 have hap:=ze7 B S Sx (.agg #[.int .i64 t.id,.int .i64 t.kind,.string t.text,.slice ka nk tc]) t x op id par at_ tx sa sn sc (fun y hy=>nL (hS y hy) hb.size) (fun y hy=>nL (hSx y hy) hb.size) ⟨ka,tc,by rw[hnk],by rw[hnk] at*;exact hcap,hk.below hb hS⟩ (hx.kept fun y hy=>⟨hy,hb.block y (hSx y hy)⟩) hsz hxz hop (hidk hok) (hidk hxk)
 have hgr:∀X,Below w.heap.size w X→GrV X (.agg #[.slice ga gn gc,.int .i64 g.root]) g:=fun X hX=>⟨ga,gc,by rw[hgn],hgk.below hX⟩
 obtain⟨r,hr⟩:∃r,r=yC op id par at_ tx x t:=⟨_,rfl⟩
 have hrs:=zaz op id par at_ tx x t
 have hfx:r.2=0→okF (spF 1 (zl r.1)):=fun h0=>(zay (op:=op) (id:=id) (par:=par) (at_:=at_) (tx:=tx) (x:=x) (t:=t) (y:=r.1) (by rw[←hr];exact Prod.ext rfl h0)).1.ok hok hxk htx
 rw[←hr] at hap hrs ⊢
 obtain⟨d,hd⟩:∃d,d=doK g r:=⟨_,rfl⟩
 rw[←hd]
 obtain⟨y,hy⟩:∃y,y=yD r:=⟨_,rfl⟩
 obtain⟨yn,hyn⟩:∃yn,yn=foLen y.kids:=⟨_,rfl⟩
 obtain⟨ye,hye⟩:∃ye,ye=r.2:=⟨_,rfl⟩
 have HAP:=hH hap
 have HGR:=hH (aN hgr hf)
 have HR:=hH (aN hrs (aN hfx (aN hsz hxz)))
 have HY:=hH (aN hy (aN hyn (aN hye hd)))
 have HCE:=hH hcell
 have HB:=hH (aN hb (aN hs hr0))
 have HBE:=hH hB
 have HSS:=hH (aN hS hSx)
 obtain⟨⟨g0,g1⟩,⟨n0,n1,n2,n3⟩,m0,m1,m2,m3,m4,m5,m6,m7,m8⟩:=hcell B (BrQ _ _)
 rw[hB] at g0 g1 n0 n1 n2 n3 m0 m1 m2 m3 m4 m5 m6 m7 m8
 clear hap hgr hf hrs hfx hcell hb hs hgb0 ht0 hs0 hr0 hB hS hSx hk hcap hgk hgn hnk hsz hxz hop hok hxk htx hx hr hd hy hyn hye hidk
 go_enter Tryz.func25,Tryz.ntmps25
 go_wp2_with fail
 clear g0 g1 n0 n1 n2 n3 m0 m1 m2 m3 m4 m5 m6 m7 m8
 change Calls _ _ _ (zt w [.cells #[.slice ga gn gc,.int .i64 g.root] 24,.cells #[.int .i64 t.id,.int .i64 t.kind,.string t.text,.slice ka nk tc] 27,.cells #[.int .i8 op,.int .i64 id,.int .i64 par,.int .i64 at_,.string tx,.int .i64 x.id,.int .i64 x.kind,.string x.text,.slice sa sn sc] 44,.cells #[.int .i64 0,.int .i64 0,.string ⟨#[]⟩,.slice none 0 0] 27]) _
 rw[←HBE.out]
 refine HAP.out.mono ?_
 rintro e W5 ⟨_,rfl,⟨yb,yc,rfl,hyc,hyk⟩,hb5⟩
 rw[←HY.out.1] at hyc hyk ⊢
 rw[←HY.out.2.1] at hyc ⊢
 rw[←HY.out.2.2.1]
 obtain⟨W6,hW6⟩:∃W6,W6=W5.alloc (.cells #[.int .i64 y.id,.int .i64 y.kind,.string y.text,.slice yb yn yc] 27):=⟨_,rfl⟩
 have hb56:Below W5.heap.size W5 W6:=by rw[hW6];exact zh _ _
 have hs6:W6.heap.size=W5.heap.size+1:=by rw[hW6];simp
 have hy6:W6.heap[W5.heap.size]? =some (.cells #[.int .i64 y.id,.int .i64 y.kind,.string y.text,.slice yb yn yc] 27 (0,0)):=by rw[hW6];exact hanQ _ _
 have HB6:=hH (hb5.trans (hb56.mono hb5.size))
 have HYA:=hH (aN hyc (aN hyk (aN hb56 (aN hs6 hb5.size))))
 have HY6:=hH hy6
 have HW6:=hH hW6
 obtain⟨xb,hxb⟩:∃xb,xb=W5.heap.size:=⟨_,rfl⟩
 clear hyc hyk hb56 hy6 hW6 hb5 hs6
 go_upto_region 2 with fail
 change Code.wp _ _ _ _ (W5.alloc (.cells #[.int .i64 y.id,.int .i64 y.kind,.string y.text,.slice yb yn yc] 27))
 rw[←HW6.out,←hxb]
 rw[←hxb] at HY6
 have HXBB:=hH hxb
 clear HW6 hxb
 by_cases hz:ye=0
 · have h0:r.2=0:=by rw[←HY.out.2.2.1];exact hz
   have hyr:y=r.1:=by rw[HY.out.1,yD,if_pos h0]
   have hyok:=HR.out.2.1 h0
   have hysz:=HR.out.1
   rw[←hyr] at hyok hysz
   have hbw6:Below w.heap.size w W6:=HB.out.1.trans (HB6.out.mono HB.out.1.size)
   have htr:=zhF W6 (fun z=>z<W5.heap.size∧(zN W5 z∧((S z∨Sx z)∨B.heap.size≤z))) (.agg #[.slice ga gn gc,.int .i64 g.root]) (.agg #[.int .i64 y.id,.int .i64 y.kind,.string y.text,.slice yb yn yc]) g y (HGR.out.1 W6 hbw6) HGR.out.2 (fun z hz=>nL hz.1 HYA.out.2.2.1.size) ⟨yb,yc,by rw[HY.out.2.1],by rw[←HY.out.2.1];exact HYA.out.1,HYA.out.2.1.kept fun z hz=>⟨⟨hz.1.lt,hz⟩,HYA.out.2.2.1.block z hz.1.lt⟩⟩ (by have:=HR.out.2.2;omega) hyok
   obtain⟨c,hc⟩:∃c,c=qK g y:=⟨_,rfl⟩
   rw[←hc] at htr
   obtain⟨c1,hc1⟩:∃c1,c1=c.1:=⟨_,rfl⟩
   obtain⟨c2,hc2⟩:∃c2,c2=c.2:=⟨_,rfl⟩
   unfold YQ at htr;rw[←hc1,←hc2] at htr
   have HTR:=hH htr
   have HCC:=hH (aN hc hc2)
   have HRY:=hH (aN hyr h0)
   subst hz
   obtain⟨⟨g0,g1⟩,⟨n0,n1,n2,n3⟩,m0,m1,m2,m3,m4,m5,m6,m7,m8⟩:=HCE.out W6 HB6.out
   obtain⟨y0,y1,y2,y3⟩:=zG HY6.out
   clear h0 hyr hyok hysz hbw6 htr hc hc1 hc2
   go_wp2_with fail
   refine HTR.out.mono ?_
   rintro e W7 ⟨rfl,hb7⟩
   have HB7:=hH (HB6.out.trans (hb7.mono HB6.out.size))
   have HL7:=hH hb7
   have hy7:=(hb7.block _ (lohQ HY6.out)).trans HY6.out
   clear hb7 g0 g1 n0 n1 n2 n3 m0 m1 m2 m3 m4 m5 m6 m7 m8 y0 y1 y2 y3
   by_cases hcz:c2=0
   · have hd:d=(y,0):=by rw[HY.out.2.2.2,doK,if_pos HRY.out.2,←HRY.out.1,←HCC.out.1,←HCC.out.2,if_pos hcz]
     have HEQ:=hH hd
     subst hcz
     obtain⟨y0,y1,y2,y3⟩:=zG hy7
     have hr3:=(HB7.out.block _ (lohQ HB.out.2.2)).trans HB.out.2.2
     have hbz:Below w.heap.size w W7:=HB.out.1.trans (HB7.out.mono HB.out.1.size)
     obtain⟨z0,z1,z2,z3⟩:=zG hr3
     have zf:∀j,W7.frozen? ⟨w.heap.size+1+1+1,j,none⟩=false:=fun j=>forQ _ _ j _ _ hr3
     obtain⟨V,hV,r1,r2,r3,r4,r5,r6⟩:=zA (u0:= .int .i64 y.id) (u1:= .int .i64 y.kind) (u2:= .string y.text) (u3:= .slice yb yn yc) hr3
     have hokV:zu V (fun z=>zN V z∧((S z∨Sx z)∨w.heap.size≤z)) y.kids yb:=HYA.out.2.1.kept fun z hz=>by
      obtain⟨⟨cs,ty,fr,hcz⟩,hz2⟩:=hz
      have h1:=HB.out.2.1
      have h2:=HYA.out.2.2.2.2
      have hlt:=lohQ hcz
      have hne:z≠w.heap.size+1+1+1:=fun e=>by
       rcases hz2 with (h | h) | h
       · have:=HSS.out.1 z h;omega
       · have:=HSS.out.2 z h;omega
       · omega
      have e1:V.heap[z]? =W5.heap[z]?:=(r2 z hne).trans ((HL7.out.block z (by have:=HYA.out.2.2.2.1;omega)).trans (HYA.out.2.2.1.block z hlt))
      exact⟨⟨⟨cs,ty,fr,e1.trans hcz⟩,hz2.imp (fun h=>h) (fun h=>by omega)⟩,e1⟩
     have HE:=hH (aN hbz (aN hV (aN r1 (aN r2 (aN r3 (aN r4 (aN r5 (aN r6 hokV))))))))
     clear hd hy7 hbz hr3 hV r1 r2 r3 r4 r5 r6 hokV
     go_wp2_with fail
     rw[←HE.out.2.1]
     obtain⟨hbz,hV,r1,r2,r3,r4,r5,r6,hokV⟩:=HE.out
     exact zT (p:=6) (u:=7) rfl rfl (g:=w.heap.size+1+1+1) (y:=y) ⟨r3.trans hbz.os,r4.trans hbz.tape,r5.trans hbz.output,by rw[r6];exact hbz.size,fun k hk=>(r2 k om).trans (hbz.block k hk)⟩ r1 HY.out.2.1 (by rw[←HY.out.2.1];exact HYA.out.1) hokV (by rw[HEQ.out,yD,if_pos rfl]) rfl (by rw[HEQ.out];rfl)
   · have hzb:(c2 != 0)=true:=by simpa using hcz
     have hd:d=(zH,c2):=by rw[HY.out.2.2.2,doK,if_pos HRY.out.2,←HRY.out.1,←HCC.out.1,←HCC.out.2,if_neg hcz]
     have HEQ:=hH hd
     have HNE:=hH hcz
     clear hd hcz hy7
     have hr3:=(HB7.out.block _ (lohQ HB.out.2.2)).trans HB.out.2.2
     have hbz:Below w.heap.size w W7:=HB.out.1.trans (HB7.out.mono HB.out.1.size)
     obtain⟨z0,z1,z2,z3⟩:=zG hr3
     have zf:∀j,W7.frozen? ⟨w.heap.size+1+1+1,j,none⟩=false:=fun j=>forQ _ _ j _ _ hr3
     exact sc5
 · have hzb:(ye != 0)=true:=by simpa using hz
   have hd:d=(zH,ye):=by rw[HY.out.2.2.2,doK,if_neg (by rw[←HY.out.2.2.1];exact hz),←HY.out.2.2.1]
   have HEQ:=hH hd
   have HNE:=hH hz
   clear hd hz
   have hr3:=(HB6.out.block _ (lohQ HB.out.2.2)).trans HB.out.2.2
   have hbz:Below w.heap.size w W6:=HB.out.1.trans (HB6.out.mono HB.out.1.size)
   obtain⟨z0,z1,z2,z3⟩:=zG hr3
   have zf:∀j,W6.frozen? ⟨w.heap.size+1+1+1,j,none⟩=false:=fun j=>forQ _ _ j _ _ hr3
   exact sc5
theorem zaR {g:Gr}:∀(L:List Sp) (ids:List Int) (i:Nat),qZ g ids i L=none→(L.map fun x=>x.2.1.1).Nodup∧∀x∈L,x.2.1.1∉ids
 | [],ids,i,_=>⟨List.nodup_nil,fun x h=>by cases h⟩
 | x :: r,ids,i,h=>by
   rw[qZ] at h
   split at h
   · cases h
   · rename_i ha
     obtain⟨h1,h2⟩:=zaR r _ _ h
     have hx:x.2.1.1∉ids:=fun hm=>by
      apply ha
      have hany:ids.any (· == x.2.1.1)=true:=List.any_eq_true.2 ⟨_,hm,by simp⟩
      unfold atB
      rw[show (kR x).id=x.2.1.1 from rfl,hany]
      simp
     refine⟨?_,fun y hy=>?_⟩
     · rw[List.map_cons,List.nodup_cons]
       refine⟨fun hm=>?_,h1⟩
       obtain⟨y,hy,e⟩:=List.mem_map.1 hm
       exact h2 y hy (by rw[e];simp)
     · rcases List.mem_cons.1 hy with rfl | hy
       · exact hx
       · exact fun hm=>h2 y hy (List.mem_append_left _ hm)
theorem kS {g:Gr} {t:Tr} (h:(qK g t).2=0):qB t∧zg t.kids+1≤200:=by
 unfold qK at h
 split at h
 · exact absurd h (by decide)
 · unfold vK at h
   split at h
   · split at h
     · exact absurd h (by decide)
     · rename_i hs
       unfold vN at h
       split at h
       · exact absurd (show (70:Int)=0 from h) (by decide)
       · rename_i hb
         exact⟨(zaR _ _ _ hb).1,by omega⟩
   · exact absurd h (by decide)
def goT (g:Gr) (t:Tr):List Sf→Option Tr
 | []=>some t
 | s::l=>if (doK g (s.on t)).2=0 then goT g (doK g (s.on t)).1 l else none
theorem JY (g:Gr):∀(a b:List Sf) (t:Tr),goT g t (a++b)=(goT g t a).bind fun x=>goT g x b
 | [],b,t=>rfl
 | s ::a,b,t=>by
   rw[List.cons_append,goT,goT]
   split
   · exact JY g a b _
   · rfl
theorem zcB {g:Gr} {t x:Tr} {l:List Sf} {s:Sf} (h:goT g t l=some x) (hs:(doK g (s.on x)).2=0):goT g t (l++[s])=some (doK g (s.on x)).1:=by
 rw[JY,h]
 show goT g x [s]=_
 rw[goT,if_pos hs];rfl
def jH (s:Sf):Nat:=if s.op=1 then zg s.sub.kids+1 else 0
def yK:List Sf→Nat
 | []=>0
 | s::l=>jH s+yK l
theorem j5:∀a b:List Sf,yK (a++b)=yK a+yK b
 | [],b=>by simp[yK]
 | s::a,b=>by rw[List.cons_append,yK,yK,j5 a b];omega
def kI (l:List Sf):Bool:=decide (l.length≤60) && decide (yK l≤200)
theorem jA (l:List Sf):kI l=true↔l.length≤60∧yK l≤200:=by simp[kI]
structure Way (t:Tr):Prop where
 size:zg t.kids+1≤250
 ok:okF (spF 1 (zl t))
structure kW (s:Sf):Prop where
 op:(Lit.int .i8 s.op).wf=true
 size:zg s.sub.kids+1≤250
 ok:okF (spF 1 (zl s.sub))
 tx:(s.tx.size:Int)≤9223372036854775807
theorem zb2 {g:Gr} {t:Tr} {s:Sf} (hs:kW s) (h:Way t) (h0:(doK g (s.on t)).2=0):Way (doK g (s.on t)).1:=by
 unfold doK at h0 ⊢
 split at h0
 · rename_i h1
   split at h0
   · rename_i h2
     rw[if_pos h1,if_pos h2]
     have hx:=zay (op:=s.op) (id:=s.id) (par:=s.par) (at_:=s.at_) (tx:=s.tx) (x:=s.sub) (t:=t) (y:=(s.on t).1) (by unfold Sf.on;exact Prod.ext rfl h1)
     exact⟨by have:=(kS h2).2;show zg (s.on t).1.kids+1≤250;omega,hx.1.ok h.ok hs.ok hs.tx⟩
   · rename_i h2;exact absurd h0 h2
 · rename_i h1;exact absurd h0 h1
theorem zhI {g:Gr}:∀{l:List Sf} {t x:Tr},(∀s∈l,kW s)→Way t→goT g t l=some x→Way x
 | [],t,x,_,h,e=>by cases e;exact h
 | s ::l,t,x,hl,h,e=>by
   rw[goT] at e
   split at e
   · rename_i h0
     exact zhI (fun r hr=>hl r (List.mem_cons_of_mem _ hr)) (zb2 (hl s (List.mem_cons_self ..)) h h0) e
   · cases e
def mkF (id:Int) (tx:ByteArray) (ks:Fo):Bool→Fo→Fo×Bool
 | b,.nil=>(.nil,b)
 | b,.node x y k l r=>
   if b=false∧k.1=id then (.node x y (k.1,k.2.1,tx) ks (mkF id tx ks true r).1,(mkF id tx ks true r).2)
   else (.node x y k (mkF id tx ks b l).1 (mkF id tx ks (mkF id tx ks b l).2 r).1,(mkF id tx ks (mkF id tx ks b l).2 r).2)
def mkT (id:Int) (tx:ByteArray) (ks:Fo) (b:Bool) (t:Tr):Tr×Bool:=
 if b=false∧t.id=id then (⟨t.id,t.kind,tx,ks⟩,true) else (⟨t.id,t.kind,t.text,(mkF id tx ks b t.kids).1⟩,(mkF id tx ks b t.kids).2)
section
variable (id:Int) (tx:ByteArray) (ks:Fo)
theorem Y6:∀f:Fo,mkF id tx ks true f=(f,true)
 | .nil=>rfl
 | .node x y k l r=>by
   rw[mkF,if_neg sp1,Y6 l,Y6 r]
theorem zbK:∀(b:Bool) (f:Fo),foLen (mkF id tx ks b f).1=foLen f
 | b,.nil=>rfl
 | b,.node x y k l r=>by
   rw[mkF]
   split
   · simp only[foLen];rw[zbK true r]
   · simp only[foLen];rw[zbK _ r]
theorem zai (x y:Nat) (k:Int×Int×ByteArray) (l:Fo):∀(b:Bool) (f:Fo),mkF id tx ks b (qx f x y k l)=
 (qx (mkF id tx ks b f).1 x y ((mkT id tx ks (mkF id tx ks b f).2 ⟨k.1,k.2.1,k.2.2,l⟩).1.id,(mkT id tx ks (mkF id tx ks b f).2 ⟨k.1,k.2.1,k.2.2,l⟩).1.kind,(mkT id tx ks (mkF id tx ks b f).2 ⟨k.1,k.2.1,k.2.2,l⟩).1.text) (mkT id tx ks (mkF id tx ks b f).2 ⟨k.1,k.2.1,k.2.2,l⟩).1.kids,(mkT id tx ks (mkF id tx ks b f).2 ⟨k.1,k.2.1,k.2.2,l⟩).2)
 | b, .nil=>by
   show mkF id tx ks b (.node x y k l .nil)=_
   have e3:mkF id tx ks b .nil=(.nil,b):=rfl
   by_cases h:b=false∧k.1=id
   · have e1:mkF id tx ks b (.node x y k l .nil)=(.node x y (k.1,k.2.1,tx) ks .nil,true):=by rw[mkF,if_pos h];rfl
     have e2:mkT id tx ks b ⟨k.1,k.2.1,k.2.2,l⟩=(⟨k.1,k.2.1,tx,ks⟩,true):=by rw[mkT,if_pos h]
     rw[e1,e3]
     simp only[e2]
     rfl
   · have e1:mkF id tx ks b (.node x y k l .nil)=(.node x y k (mkF id tx ks b l).1 .nil,(mkF id tx ks b l).2):=by rw[mkF,if_neg h];rfl
     have e2:mkT id tx ks b ⟨k.1,k.2.1,k.2.2,l⟩=(⟨k.1,k.2.1,k.2.2,(mkF id tx ks b l).1⟩,(mkF id tx ks b l).2):=by rw[mkT,if_neg h]
     rw[e1,e3]
     simp only[e2]
     rfl
 | b, .node x' y' k' l' r'=>by
   simp only[qx]
   by_cases h:b=false∧k'.1=id
   · rw[mkF,if_pos h,zai x y k l true r',mkF,if_pos h]
     rfl
   · rw[mkF,if_neg h,zai x y k l _ r',mkF,if_neg h]
     rfl
theorem zcN (b:Bool):∀(k:Nat) (f:Fo),zz k (mkF id tx ks b f).1=(mkF id tx ks b (zz k f)).1:=by
 intro k f
 induction f generalizing b k with
 | nil=>cases k<;>rfl
 | node x y a l r ihl ihr=>
   cases k with
   | zero=>rw[mkF];split<;>rfl
   | succ k=>
     simp only[zz]
     by_cases h:b=false∧a.1=id
     · rw[mkF,if_pos h,mkF,if_pos h]
       simp only[zz]
       rw[ihr]
     · rw[mkF,if_neg h,mkF,if_neg h]
       simp only[zz]
       rw[ihr]
theorem Z4 :∀(f:Fo) (i:Nat),(fpi id i f=none→mkF id tx ks false f=(f,false))∧∀q,fpi id i f=some q→∃j p u v,q=(i+j)::p∧zB f j=some u∧atT u p=some v∧v.id=id∧mkF id tx ks false f=(vD f j (zQ u p ⟨v.id,v.kind,tx,ks⟩),true)
 | .nil,i=>⟨fun _=>rfl,fun q h=>by simp[fpi] at h⟩
 | .node x y k l r,i=>by
   obtain⟨l1,l2⟩:=Z4 l 0
   obtain⟨r1,r2⟩:=Z4 r (i+1)
   rw[fpi]
   by_cases hk:k.1=id
   · rw[if_pos hk]
     refine⟨fun h=>by simp at h,fun q h=>?_⟩
     cases h
     refine⟨0,[],⟨k.1,k.2.1,k.2.2,l⟩,⟨k.1,k.2.1,k.2.2,l⟩,by simp,rfl,rfl,hk,?_⟩
     rw[mkF,if_pos ⟨rfl,hk⟩,Y6]
     rfl
   · rw [if_neg hk]
     cases hl:fpi id 0 l with
     | some p=>
       refine⟨fun h=>by simp at h,fun q h=>?_⟩
       cases h
       obtain⟨j,p',u,v,e,hu,hv,hid,hm⟩:=l2 p hl
       rw[Nat.zero_add] at e
       refine⟨0,p,⟨k.1,k.2.1,k.2.2,l⟩,v,by simp,rfl,?_,hid,?_⟩
       · rw[e];simp only[atT,hu];exact hv
       · rw[mkF,if_neg (fun h=>hk h.2),hm,Y6,e]
         simp only[zQ,hu,vD]
     | none=>
       simp only
       rw[mkF,if_neg (fun h=>hk h.2),l1 hl]
       refine⟨fun h=>by rw[r1 h],fun q h=>?_⟩
       obtain⟨j,p',u,v,e,hu,hv,hid,hm⟩:=r2 q h
       exact⟨j+1,p',u,v,by rw[e];congr 1;omega,by simpa [zB,zq] using hu,hv,hid,by rw[hm];rfl⟩
theorem zcO {t:Tr} {p:List Nat} (h:zx id t=some p):∃u,atT t p=some u∧u.id=id∧mkT id tx ks false t=(zQ t p ⟨u.id,u.kind,tx,ks⟩,true):=by
 unfold zx at h
 by_cases ht:t.id=id
 · rw[if_pos ht] at h
   cases h
   exact⟨t,rfl,ht,by rw[mkT,if_pos ⟨rfl,ht⟩];rfl⟩
 · rw[if_neg ht] at h
   obtain⟨j,p',u,v,e,hu,hv,hid,hm⟩:=(Z4 id tx ks t.kids 0).2 p h
   rw[Nat.zero_add] at e
   refine⟨v,by rw[e];simp only[atT,hu];exact hv,hid,?_⟩
   rw[mkT,if_neg (fun h=>ht h.2),hm,e]
   simp only[zQ,hu]
end
def zfN (id:Int) (t:Tr):Option (List Nat×Tr×Nat):=match fpi id 0 t.kids with
 | none=>none
 | some q=>(atT t q.dropLast).map fun u=>(q.dropLast,u,q.getLastD 0)
theorem zh5:∀(id:Int) (f:Fo) (i:Nat) (q:List Nat),fpi id i f=some q→∃j p u v,q=(i+j)::p∧zB f j=some u∧atT u p=some v∧v.id=id:=fun id f i q h=>by
 obtain⟨j,p,u,v,e,hu,hv,hid,_⟩:=(Z4 id ⟨#[]⟩ .nil f i).2 q h
 exact⟨j,p,u,v,e,hu,hv,hid⟩
theorem vQ {id:Int} {t:Tr} {q:List Nat} (h:fpi id 0 t.kids=some q):∃p i u v,q=p++[i]∧atT t p=some u∧zB u.kids i=some v∧v.id=id∧zfN id t=some (p,u,i):=by
 obtain⟨j,p',u,v,e,hu,hv,hid⟩:=zh5 id t.kids 0 q h
 have hne:q≠[]:=by rw[e];simp
 have hat:atT t q=some v:=by rw[e,Nat.zero_add];simp only[atT,hu];exact hv
 obtain⟨p,i,rfl⟩:∃p i,q=p++[i]:=⟨q.dropLast,q.getLast hne,(List.dropLast_concat_getLast hne).symm⟩
 obtain⟨z,hz,hzv⟩:=ko p i t v hat
 refine⟨p,i,z,v,rfl,hz,hzv,hid,?_⟩
 unfold zfN
 rw[h]
 simp[hz,List.getLastD_eq_getLast?]
theorem QD {id:Int} {t:Tr} (h:fpi id 0 t.kids=none):zfN id t=none:=by unfold zfN;rw[h]
end Go.Proofs.YtgkmmnihaiopaaaGreat
namespace Go.Proofs.YtgkmmnihaiopaaaGreat
open Go.RowKit Go.Shelf
theorem kJ (id:Int):∀(f:Fo) (t:Tr) (i:Nat),fpi id i f=none→YF id t i f=none
 | .nil,_,_,_=>rfl
 | .node x y k l r,t,i,h=>by
   rw[fpi] at h
   by_cases hk:k.1=id
   · rw[if_pos hk] at h;cases h
   · rw [if_neg hk] at h
     cases hl:fpi id 0 l with
     | some q=>rw[hl] at h;cases h
     | none=>
       rw[hl] at h
       rw[YF,if_neg hk,kJ id l _ 0 hl]
       exact kJ id r t (i+1) h
theorem QB (id:Int):∀(f:Fo) (t:Tr) (i:Nat) (q:List Nat),fpi id i f=some q→∃j p u,q=(i+j)::p∧zB f j=some u∧(p= []→YF id t i f=some (t,i+j))∧(∀d m,p=d++[m]→∃z,atT u d=some z∧YF id t i f=some (z,m))
 | .nil,_,_,_,h=>by simp[fpi] at h
 | .node x y k l r,t,i,q,h=>by
   rw[fpi] at h
   by_cases hk:k.1=id
   · rw[if_pos hk] at h;cases h
     exact⟨0,[],⟨k.1,k.2.1,k.2.2,l⟩,by simp,rfl,(fun _=>by rw[YF,if_pos hk];rfl),fun d m e=>by simp at e⟩
   · rw [if_neg hk] at h
     cases hl:fpi id 0 l with
     | some q'=>
       rw[hl] at h;cases h
       obtain⟨j,p,u,rfl,hu,h1,h2⟩:=QB id l ⟨k.1,k.2.1,k.2.2,l⟩ 0 q' hl
       refine⟨0,(0+j)::p,⟨k.1,k.2.1,k.2.2,l⟩,by simp,rfl,(fun e=>by cases e),fun d m e=>?_⟩
       rw[YF,if_neg hk]
       cases d with
       | nil=>
         simp only[List.nil_append,List.cons.injEq] at e
         obtain⟨rfl,rfl⟩:=e
         exact⟨_,rfl,by rw[h1 rfl]⟩
       | cons d0 d=>
         simp only[List.cons_append,List.cons.injEq] at e
         obtain⟨rfl,e⟩:=e
         obtain⟨z,hz,hp⟩:=h2 d m e
         refine⟨z,?_,by rw[hp]⟩
         rw[Nat.zero_add]
         simp only[atT,hu];exact hz
     | none=>
       rw[hl] at h
       obtain⟨j,p,u,e,hu,h1,h2⟩:=QB id r t (i+1) q h
       refine⟨j+1,p,u,by rw[e];congr 1;omega,by simpa [zB,zq] using hu,fun hp=>?_,fun d m hp=>?_⟩
       · rw[YF,if_neg hk,kJ id l _ 0 hl];simp only;rw[h1 hp];congr 2;omega
       · obtain⟨z,hz,hp2⟩:=h2 d m hp
         exact⟨z,hz,by rw[YF,if_neg hk,kJ id l _ 0 hl];exact hp2⟩
theorem Y9 (id:Int) (t:Tr):QC id t=(zfN id t).map fun z=>(z.2.1,z.2.2):=by
 cases h:fpi id 0 t.kids with
 | none=>rw[QD h,QC,kJ id t.kids t 0 h];rfl
 | some q=>
   obtain⟨j,p,u,e,hu,h1,h2⟩:=QB id t.kids t 0 q h
   obtain⟨p',i,z,v,rfl,hz,_,_,hp⟩:=vQ h
   rw[hp,QC]
   simp only[Option.map_some]
   cases p' with
   | nil=>
     simp only[List.nil_append,List.cons.injEq] at e
     obtain⟨rfl,rfl⟩:=e
     rw[h1 rfl]
     simp only[atT] at hz
     cases hz;rfl
   | cons d0 d=>
     simp only[List.cons_append,List.cons.injEq] at e
     obtain⟨rfl,rfl⟩:=e
     obtain⟨z',hz',hp'⟩:=h2 d i rfl
     rw[hp']
     rw[Nat.zero_add] at hz
     simp only[atT,hu] at hz
     rw[hz'] at hz;cases hz;rfl
end Go.Proofs.YtgkmmnihaiopaaaGreat
