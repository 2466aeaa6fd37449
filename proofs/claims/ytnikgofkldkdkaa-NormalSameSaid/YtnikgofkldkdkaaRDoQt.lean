/-
  .
-/
import Derived.Test.YtnikgofkldkdkaaKApplyMQt
import Derived.Test.YtnikgofkldkdkaaKApplyIQt
import Derived.Test.YtnikgofkldkdkaaKApplyRQt
import Derived.Test.YtnikgofkldkdkaaKApplyWQt
import Derived.Test.YtnikgofkldkdkaaVRSubQt
import Derived.Test.YtnikgofkldkdkaaRApplyQt
set_option maxRecDepth 100000
set_option maxHeartbeats 40000000
set_option linter.unusedVariables false
set_option linter.unusedSimpArgs false
namespace Go.Proofs.Ytnikgofkldkdkaa
open Go.RowKit Go.Shelf
theorem zay (id par at_:Int)(t:Tr):za (yI id par at_ t).1.kids≤za t.kids+1:=by
 unfold yI
 split
 · split
   · simp[zG,za]
   · split
     · simp[zG,za]
     · exact NltQ (zbx _ _ _ _) (Nat.succ_le_succ (YV _ _ _))
 · simp[zG,za]
theorem zdW (w:World)(S Sx:Nat→Prop)(nv:Value)(t x:Tr)(id par at_:Int)(tx:ByteArray)(sa:Option Addr)(sn sc:Nat)(hS:∀y,S y→y<w.heap.size)(hSx:∀y,Sx y→y<w.heap.size)(ht:zK w S nv t)(hx:zK w Sx (.agg #[.int .i64 x.id,.int .i64 x.kind,.string x.text,.slice sa sn sc]) x)(hsz:za t.kids+1≤2000)(hxz:za x.kids+1≤2000):
 Calls Try.prog 25 #[nv,.agg #[.int .i8 3,.int .i64 id,.int .i64 par,.int .i64 at_,.string tx,.int .i64 x.id,.int .i64 x.kind,.string x.text,.slice sa sn sc]] w (jb w S (yI id par at_ t)):=
 zdX w S Sx S nv t x id par at_ tx sa sn sc (yI id par at_ t) hS hSx hS ht hx hsz hxz (by have:=zay id par at_ t;omega) fun X hX=>
  zhV X S nv t 3 id par at_ x.id x.kind tx x.text sa sn sc (fun y hy=>nL (hS y hy) hX.size) (ht.kept fun y hy=>⟨hy,hX.block y (hS y hy)⟩) om
theorem zcx (w:World)(S Sx T:Nat→Prop)(nv:Value)(t x:Tr)(op id par at_:Int)(tx:ByteArray)(sa:Option Addr)(sn sc:Nat)(hS:∀y,S y→y<w.heap.size)(hSx:∀y,Sx y→y<w.heap.size)(ht:zK w S nv t)(hx:zK w Sx (.agg #[.int .i64 x.id,.int .i64 x.kind,.string x.text,.slice sa sn sc]) x)(hsz:za t.kids+1≤2000)(hxz:za x.kids+1≤2000)(hop:op<1∨5≤op)(hop8: -128≤op∧op≤127):
 Calls Try.prog 25 #[nv,.agg #[.int .i8 op,.int .i64 id,.int .i64 par,.int .i64 at_,.string tx,.int .i64 x.id,.int .i64 x.kind,.string x.text,.slice sa sn sc]] w (jb w T (zG,2)):=by
 obtain⟨ka,tc,rfl,hcap,hk⟩:=ht
 obtain⟨nk,hnk⟩:∃nk,nk=foLen t.kids:=⟨_,rfl⟩
 rw[←hnk]
 obtain⟨B,hB⟩:∃B,B=zx w [.cells #[.int .i64 t.id,.int .i64 t.kind,.string t.text,.slice ka nk tc] 27,.cells #[.int .i8 op,.int .i64 id,.int .i64 par,.int .i64 at_,.string tx,.int .i64 x.id,.int .i64 x.kind,.string x.text,.slice sa sn sc] 49,.cells #[.int .i64 0,.int .i64 0,.string ⟨#[]⟩,.slice none 0 0] 27]:=⟨_,rfl⟩
 have hb:Below w.heap.size w B:=by rw[hB];exact zl _ _
 have hs:B.heap.size=w.heap.size+3:=by rw[hB];exact zJ _ _
 have ht0:B.heap[w.heap.size]? =some (.cells #[.int .i64 t.id,.int .i64 t.kind,.string t.text,.slice ka nk tc] 27 (0,0)):=by rw[hB];exact ze _ _ 0 _ rfl
 have hs0:B.heap[w.heap.size+1]? =some (.cells #[.int .i8 op,.int .i64 id,.int .i64 par,.int .i64 at_,.string tx,.int .i64 x.id,.int .i64 x.kind,.string x.text,.slice sa sn sc] 49 (0,0)):=by rw[hB];exact ze _ _ 1 _ rfl
 have hr0:B.heap[w.heap.size+1+1]? =some (.cells #[.int .i64 0,.int .i64 0,.string ⟨#[]⟩,.slice none 0 0] 27 (0,0)):=by rw[hB];exact ze _ _ 2 _ rfl
 have htr:∀X,Below B.heap.size B X→zK X S (.agg #[.int .i64 t.id,.int .i64 t.kind,.string t.text,.slice ka nk tc]) t:=fun X hX=>⟨ka,tc,by rw[hnk],by rw[hnk] at*;exact hcap,hk.below (hb.trans (hX.mono hb.size)) hS⟩
 have hSX:∀X,Below B.heap.size B X→∀y,S y→y<X.heap.size:=fun X hX y hy=>nL (hS y hy) (NltQ hb.size hX.size)
 have hgt:∀X,Below B.heap.size B X→Calls Try.prog 38 #[.agg #[.int .i64 t.id,.int .i64 t.kind,.string t.text,.slice ka nk tc]] X _:=fun X hX=>qP X S _ t (hSX X hX) (htr X hX) hsz
 have hgx:∀X,Below B.heap.size B X→Calls Try.prog 38 #[.agg #[.int .i64 x.id,.int .i64 x.kind,.string x.text,.slice sa sn sc]] X _:=fun X hX=>qP X Sx _ x (fun y hy=>nL (hSx y hy) (NltQ hb.size hX.size)) (by
  obtain⟨qa,qc,e,h1,h2⟩:=hx
  exact⟨qa,qc,e,h1,h2.below (hb.trans (hX.mono hb.size)) hSx⟩) hxz
 have hcell:∀X,Below B.heap.size B X→(uf1 X w.heap.size t.id t.kind t.text ka nk tc)∧(uf2 X (w.heap.size+1) op id par at_ tx x.id x.kind x.text sa sn sc):=fun X hX=>by
  exact sb4
 have HG:=hH (aN hgt hgx)
 have HCE:=hH hcell
 have HB:=hH (aN hb (aN hs hr0))
 have HBE:=hH hB
 clear hgt hgx hcell htr hSX hb hs ht0 hs0 hr0 hS hSx hk hcap hsz hxz hnk hB hx
 go_enter Try.func25,Try.ntmps25
 go_wp2_with fail
 change Calls _ _ _ (zx w [.cells #[.int .i64 t.id,.int .i64 t.kind,.string t.text,.slice ka nk tc] 27,.cells #[.int .i8 op,.int .i64 id,.int .i64 par,.int .i64 at_,.string tx,.int .i64 x.id,.int .i64 x.kind,.string x.text,.slice sa sn sc] 49,.cells #[.int .i64 0,.int .i64 0,.string ⟨#[]⟩,.slice none 0 0] 27]) _
 rw[←HBE.out]
 refine (HG.out.1 B (BrQ _ _)).mono ?_
 rintro e W1 ⟨rfl,hb1⟩
 obtain⟨⟨n0,n1,n2,n3⟩,m0,m1,m2,m3,m4,m5,m6,m7,m8⟩:=HCE.out W1 hb1
 have H1:=hH hb1
 clear hb1
 go_wp2_with fail
 refine (HG.out.2 W1 H1.out).mono ?_
 rintro e W2 ⟨rfl,hb12⟩
 have hb2:Below B.heap.size B W2:=H1.out.trans (hb12.mono H1.out.size)
 clear n0 n1 n2 n3 m0 m1 m2 m3 m4 m5 m6 m7 m8 H1 hb12
 obtain⟨⟨n0,n1,n2,n3⟩,m0,m1,m2,m3,m4,m5,m6,m7,m8⟩:=HCE.out W2 hb2
 have HOP:=hH (qZ W2)
 have H2:=hH hb2
 clear hb2
 go_wp2_with fail
 refine HOP.out.mono ?_
 rintro e W3 ⟨rfl,hb23⟩
 unfold opsV
 have hb3:Below B.heap.size B W3:=H2.out.trans (hb23.mono H2.out.size)
 obtain⟨W4,hW4⟩:∃W4,W4=W3.alloc (.cells #[.nilFunc,.func (.func 53) #[] #[],.func (.func 54) #[] #[],.func (.func 55) #[] #[],.func (.func 56) #[] #[]] 81):=⟨_,rfl⟩
 have hb34:Below W3.heap.size W3 W4:=by rw[hW4];exact (BrQ _ _).alloc (NlrQ _) _
 have ho4:W4.heap[W3.heap.size]? =some zh1:=by rw[hW4];exact hanQ W3 _
 have hb4:Below B.heap.size B W4:=hb3.trans (hb34.mono hb3.size)
 have hc4:∀X,Below W4.heap.size W4 X→((uf1 X w.heap.size t.id t.kind t.text ka nk tc)∧(uf2 X (w.heap.size+1) op id par at_ tx x.id x.kind x.text sa sn sc)):=fun X hX=>HCE.out X (hb4.trans (hX.mono hb4.size))
 clear n0 n1 n2 n3 m0 m1 m2 m3 m4 m5 m6 m7 m8 HOP hb23
 have HB4:=hH hb4
 have HC4:=hH hc4
 have HW4:=hH hW4
 obtain⟨⟨n0,n1,n2,n3⟩,m0,m1,m2,m3,m4,m5,m6,m7,m8⟩:=HCE.out W4 hb4
 clear hb3 hb34 ho4 hb4 hW4 hc4
 go_upto_region 4 with fail
 change Code.wp _ _ _ _ (W3.alloc (.cells #[.nilFunc,.func (.func 53) #[] #[],.func (.func 54) #[] #[],.func (.func 55) #[] #[],.func (.func 56) #[] #[]] 81))
 rw[←HW4.out]
 by_cases h1:op<1
 · clear hop hop8
   exact sc0
 · have h5:5≤op:=by omega
   have hw:IntKind.i64.wrap op=op:=IntWalk.i64_in _ om
   clear hop hop8
   exact sc0
theorem jb.mono {w:World}{T T' :Nat→Prop}{r:Tr×Int}{e:Ending}{w' :World}(h:jb w T r e w')(hT:∀y,T y→T' y):jb w T' r e w':=by
 obtain⟨v,e1,h1,h2⟩:=h
 exact⟨v,e1,h1.kept fun y hy=>⟨⟨hy.1,hy.2.imp (hT y) (fun h=>h)⟩,rfl⟩,h2⟩
theorem Qj (par at_:Int)(x t:Tr):za (zN par at_ x t).1.kids≤za t.kids+za x.kids+1:=by
 unfold zN
 split
 · exact zbx par at_ t x
 · simp[zG,za]
theorem Qw (id:Int)(t:Tr):za (qm id t).1.kids≤za t.kids:=by
 unfold qm
 split
 · simp[zG,za]
 · split
   · simp[zG,za]
   · have:=YV t;exact NltQ (Nat.le_add_right _ _) (this _ _)
theorem Jq (id:Int)(tx:ByteArray)(t:Tr):za (qQ id tx t).1.kids≤za t.kids:=by
 unfold qQ
 split
 · simp[zG,za]
 · split
   · simp[zG,za]
   · rename_i p _ _ u hu
     have:=jf p t u ⟨u.id,u.kind,tx,u.kids⟩ hu
     simp only at this ⊢;omega
theorem zbj {op:Int}(h:(Lit.int .i8 op).wf=true): -128≤op∧op≤127:=by
 simp[Lit.wf] at h
 have e1:IntKind.i8.min= -128:=by decide
 have e2:IntKind.i8.max=127:=by decide
 omega
theorem zfz (w:World)(S Sx:Nat→Prop)(nv:Value)(t x:Tr)(op id par at_:Int)(tx:ByteArray)(sa:Option Addr)(sn sc:Nat)(hS:∀y,S y→y<w.heap.size)(hSx:∀y,Sx y→y<w.heap.size)(ht:zK w S nv t)(hx:zK w Sx (.agg #[.int .i64 x.id,.int .i64 x.kind,.string x.text,.slice sa sn sc]) x)(hsz:za t.kids+1≤2000)(hxz:za x.kids+1≤2000)(hop:(Lit.int .i8 op).wf=true)(hok:∀i∈idT t,(Lit.int .i64 i).wf=true)(hxk:∀i∈idT x,(Lit.int .i64 i).wf=true):
 Calls Try.prog 25 #[nv,.agg #[.int .i8 op,.int .i64 id,.int .i64 par,.int .i64 at_,.string tx,.int .i64 x.id,.int .i64 x.kind,.string x.text,.slice sa sn sc]] w (jb w (fun y=>S y∨Sx y) (yx op id par at_ tx x t)):=by
 have hX:∀X,Below w.heap.size w X→(∀y,S y→y<X.heap.size)∧zK X S nv t:=fun X h=>⟨fun y hy=>nL (hS y hy) h.size,ht.kept fun y hy=>⟨hy,h.block y (hS y hy)⟩⟩
 unfold yx
 split
 · rename_i h1
   subst h1
   refine zbL w S Sx _ nv t x id par at_ tx sa sn sc _ hS hSx (fun y hy=>hy.elim (hS y) (hSx y)) ht hx hsz hxz (by have:=Qj par at_ x t;omega) fun X h=>?_
   exact zee X S nv t 1 id par at_ x.id x.kind tx x.text sa sn sc (hX X h).1 (hX X h).2 om Sx x (fun y hy=>nL (hSx y hy) h.size) (hx.kept fun y hy=>⟨hy,h.block y (hSx y hy)⟩) hxz hsz hok hxk
 · split
   · rename_i h1
     subst h1
     refine Calls.mono (zbM w S Sx S nv t x id par at_ tx sa sn sc _ hS hSx hS ht hx hsz hxz (by have:=Qw id t;omega) fun X h=>?_) fun e w' h=>h.mono fun y hy=>Or.inl hy
     exact zey X S nv t 2 id par at_ x.id x.kind tx x.text sa sn sc (hX X h).1 (hX X h).2 om
   · split
     · rename_i h1
       subst h1
       exact Calls.mono (zdW w S Sx nv t x id par at_ tx sa sn sc hS hSx ht hx hsz hxz) fun e w' h=>h.mono fun y hy=>Or.inl hy
     · split
       · rename_i h1
         subst h1
         refine Calls.mono (zcy w S Sx S nv t x id par at_ tx sa sn sc _ hS hSx hS ht hx hsz hxz (by have:=Jq id tx t;omega) fun X h=>?_) fun e w' h=>h.mono fun y hy=>Or.inl hy
         exact zgG X S nv t 4 id par at_ x.id x.kind tx x.text sa sn sc (hX X h).1 (hX X h).2 om
       · exact zcx w S Sx _ nv t x op id par at_ tx sa sn sc hS hSx ht hx hsz hxz om (zbj hop)
def okB (k:Key):Bool:=decide ((k.2.2.size:Int)≤9223372036854775807) && (Lit.int .i64 k.1).wf
theorem zcb (k:Key):okB k=true↔(k.2.2.size:Int)≤9223372036854775807∧(Lit.int .i64 k.1).wf=true:=by simp[okB]
theorem zcc (t:Tr):okF (spF 1 (zh t))↔yX (fun k=> !okB k) t=0:=by
 have h:=zcC (fun k=> !okB k) t
 constructor
 · intro ho
   rcases Nat.eq_zero_or_pos (yX (fun k=> !okB k) t) with h0 | h0
   · exact h0
   · obtain⟨x,hx,hp⟩:=h.2 h0
     have:=(zcb x.2.1).2 (ho x hx)
     simp[this] at hp
 · intro h0 x hx
   have hp:okB x.2.1=true:=by
    cases hb:okB x.2.1 with
    | true=>rfl
    | false=>
      have:=h.1 ⟨x,hx,by simp[hb]⟩
      omega
   exact (zcb _).1 hp
theorem Fx.ok {op id:Int}{tx:ByteArray}{x t y:Tr}(h:Fx op id tx x t y)(ht:okF (spF 1 (zh t)))(hx:okF (spF 1 (zh x)))(htx:(tx.size:Int)≤9223372036854775807):okF (spF 1 (zh y)):=by
 have ht0:=(zcc t).1 ht
 have hx0:=(zcc x).1 hx
 rw[zcc]
 cases h with
 | ins ho h=>rw[h _];omega
 | del ho q v hq hv h=>have:=h (fun k=> !okB k);omega
 | mov ho h=>rw[h _];exact ht0
 | wri ho q u hq hu h=>
   have h1:=h (fun k=> !okB k)
   obtain⟨z,hz,e⟩:=zgc hu
   have h2:=(ht z hz).2
   have h3:okB (u.id,u.kind,tx)=true:=(zcb _).2 ⟨htx,by rw[←e];exact h2⟩
   have h4:jL (fun k=> !okB k) (u.id,u.kind,tx)=0:=by simp[jL,h3]
   omega
theorem zaV (op id par at_:Int)(tx:ByteArray)(x t:Tr):za (yx op id par at_ tx x t).1.kids≤za t.kids+za x.kids+1:=by
 unfold yx
 split
 · exact Qj par at_ x t
 · split
   · have:=Qw id t;omega
   · split
     · have:=zay id par at_ t;omega
     · split
       · have:=Jq id tx t;omega
       · simp[zG,za]
theorem zb0:∀f:Fo,idF f=jK f
 | .nil=>rfl
 | .node b o k l r=>by rw[y8,idF,zb0 l,zb0 r]
def doK (g:Gr)(r:Tr×Int):Tr×Int:=if r.2=0 then (if (jE g r.1).2=0 then (r.1,0) else (zG,(jE g r.1).2)) else (zG,r.2)
attribute [local go_sem] Oper.semAt_some
theorem zgq (w:World)(S:Nat→Prop)(gv nv:Value)(g:Gr)(t:Tr)(hg:GrV w gv g)(hf:g.fits)(hS:∀x,S x→x<w.heap.size)(ht:zK w S nv t)(hlen:foLen t.kids≤9223372036854775807)(hfit:vB t.kids)(hsz:za t.kids+1≤500000)(hok:okF (spF 1 (zh t))):
 Calls Try.prog 17 #[gv,nv] w (zg1 (jE g t) w):=by
 obtain⟨ga,gc,rfl,hgk⟩:=hg
 obtain⟨ka,cap,rfl,hcap,hk⟩:=ht
 obtain⟨n,hn⟩:∃n,n=foLen t.kids:=⟨_,rfl⟩
 obtain⟨gn,hgn⟩:∃gn,gn=g.kinds.length:=⟨_,rfl⟩
 rw[←hn,←hgn]
 have kx:((w.alloc (.cells #[.slice ga gn gc,.int .i64 g.root] 24)).alloc (.cells #[.int .i64 t.id,.int .i64 t.kind,.string t.text,.slice ka n cap] 27)).heap[w.heap.size]? =_:=ze [.cells #[.slice ga gn gc,.int .i64 g.root] 24,.cells #[.int .i64 t.id,.int .i64 t.kind,.string t.text,.slice ka n cap] 27] w 0 _ rfl
 have ky:((w.alloc (.cells #[.slice ga gn gc,.int .i64 g.root] 24)).alloc (.cells #[.int .i64 t.id,.int .i64 t.kind,.string t.text,.slice ka n cap] 27)).heap[w.heap.size+1]? =_:=ze [.cells #[.slice ga gn gc,.int .i64 g.root] 24,.cells #[.int .i64 t.id,.int .i64 t.kind,.string t.text,.slice ka n cap] 27] w 1 _ rfl
 have hab:Below w.heap.size w ((w.alloc (.cells #[.slice ga gn gc,.int .i64 g.root] 24)).alloc (.cells #[.int .i64 t.id,.int .i64 t.kind,.string t.text,.slice ka n cap] 27)):=zl [.cells #[.slice ga gn gc,.int .i64 g.root] 24,.cells #[.int .i64 t.id,.int .i64 t.kind,.string t.text,.slice ka n cap] 27] w
 obtain⟨SX,hSX⟩:∃SX:World→Prop,SX=fun X=>Below (w.heap.size+2) ((w.alloc (.cells #[.slice ga gn gc,.int .i64 g.root] 24)).alloc (.cells #[.int .i64 t.id,.int .i64 t.kind,.string t.text,.slice ka n cap] 27)) X:=⟨_,rfl⟩
 have HSx:∀X,SX X→X.cell? ⟨w.heap.size,0,none⟩=some (.slice ga gn gc)∧X.cell? ⟨w.heap.size,1,none⟩=some (.int .i64 g.root)∧uf1 X (w.heap.size+1) t.id t.kind t.text ka n cap:=fun X h=>by
  exact sg1
 have HS:=hH (show SX ((w.alloc (.cells #[.slice ga gn gc,.int .i64 g.root] 24)).alloc (.cells #[.int .i64 t.id,.int .i64 t.kind,.string t.text,.slice ka n cap] 27)) by rw[hSX];exact BrQ _ _)
 have HSB:=hH (fun (X Y:World) (h:SX X) (hb:Below X.heap.size X Y)=>(show SX Y by rw[hSX] at h ⊢;exact h.trans (hb.mono (by have:=h.size;simp at this;omega))))
 have hwX:∀X,SX X→Below w.heap.size w X:=fun X h=>by rw[hSX] at h;exact hab.trans (h.mono om)
 have hgX:∀X,SX X→GrV X (.agg #[.slice ga gn gc,.int .i64 g.root]) g:=fun X h=>⟨ga,gc,by rw[hgn],hgk.below (hwX X h)⟩
 have htX:∀X,SX X→zK X S (.agg #[.int .i64 t.id,.int .i64 t.kind,.string t.text,.slice ka n cap]) t:=fun X h=>⟨ka,cap,by rw[hn],hcap,hk.below (hwX X h) hS⟩
 have hSXl:∀X,SX X→∀y,S y→y<X.heap.size:=fun X h y hy=>nL (hS y hy) (hwX X h).size
 have HCK:Hid (∀X,SX X→Calls Try.prog 28 #[.agg #[.slice ga gn gc,.int .i64 g.root]] X (qB (QL (vg g)) X)):=hH fun X h=>Jk X _ g (hgX X h) hf
 have HWA:Hid (∀X,SX X→Calls Try.prog 6 #[.agg #[.int .i64 t.id,.int .i64 t.kind,.string t.text,.slice ka n cap],.int .i64 201] X (WalkM X S t 201)):=hH fun X h=>Yj 201 om X S _ t hlen hfit (hSXl X h) (htX X h)
 obtain⟨⟨f1,f2⟩,hfr⟩:∃p:Int×Int,p=Zb g t:=⟨_,rfl⟩
 have HFA:Hid (g.few→∀X,SX X→Calls Try.prog 29 #[.agg #[.slice ga gn gc,.int .i64 g.root],.agg #[.int .i64 t.id,.int .i64 t.kind,.string t.text,.slice ka n cap]] X (zg1 (f1,f2) X)):=hH fun hw X h=>by
  have:=zik X S _ _ g t (hgX X h) hw (hSXl X h) (htX X h) hlen hfit hsz hok
  rw[←hfr] at this;exact this
 have HFR:=hH hfr
 have HFIN:=hH hwX
 obtain⟨ck,hck⟩:∃ck,ck=vg g:=⟨_,rfl⟩
 have HK:=hH hck
 rw[←hck] at HCK
 clear hS hcap hk hn hgn hf hgk hsz hok kx ky hab hSX hwX hgX htX hSXl hck hlen hfit hfr
 cases ck
 · have HB:=hH (show jE g t=(0,50) by rw[jE,←HK.out,inQ sp1,Zb,←HK.out];rfl)
   rw[show QL false=50 from rfl] at HCK
   go_enter Try.func17,Try.ntmps17
   exact se2
 rw[show QL true=0 from rfl] at HCK
 replace HFA:=hH (HFA.out (zj7 HK.out.symm))
 go_enter Try.func17,Try.ntmps17
 go_wp2_with (go_at_call 28;refine (HCK.out _ HS.out).mono ?_;rintro e w2 ⟨rfl,hb⟩;have HS2:=hH (HSB.out _ w2 HS.out hb);obtain⟨p0,p1,p2,p3,p4,p5⟩:=HSx w2 HS2.out;clear hb)
 go_at_call 6
 refine (HWA.out _ HS2.out).mono ?_
 rintro e w3 ⟨la,lc,rfl,hsp,hb⟩
 have HS3:=hH (HSB.out _ w3 HS2.out hb);obtain⟨q0,q1,q2,q3,q4,q5⟩:=HSx w3 HS3.out;clear hb
 clear p0 p1 p2 p3 p4 p5 hsp
 obtain⟨q,hq⟩:∃q,q=((spF 1 (zh t)).take 201).length:=⟨_,rfl⟩
 rw[←hq]
 have hqs:=hq
 rw[List.length_take,vL,yH] at hqs
 by_cases h200:200<q
 · have hql:(200:Int)<(q:Int):=by omega
   have HB:=hH (show jE g t=(0,70) by
    have h2:Zb g t=(0,70):=by rw[Zb,←HK.out,ipQ rfl,ipQ om]
    unfold jE;split
    · rfl
    · exact h2)
   clear hq hqs h200
   exact sg9
 have hql:¬(200:Int)<(q:Int):=by omega
 clear hq hqs h200
 by_cases hr:t.kind=g.root
 · have HB:=hH (show jE g t=(f1,f2) by rw[jE,←HK.out,inQ (by simp[hr]),HFR.out])
   have hne:(t.kind != g.root)=false:=by simp[hr]
   clear hr
   go_wp2_with (go_at_call 29;refine (HFA.out _ HS3.out).mono ?_;rintro e w4 ⟨rfl,hb⟩;have HS4:=hH (HSB.out _ w4 HS3.out hb);obtain⟨r0,r1,r2,r3,r4,r5⟩:=HSx w4 HS4.out;clear hb)
   go_ret2
   exact⟨by rw[HB.out];rfl,HFIN.out _ HS4.out⟩
 · have HB:=hH (show jE g t=(0,70) by rw[jE,←HK.out,ipQ ⟨rfl,hr⟩])
   have hne:(t.kind != g.root)=true:=by simp[hr]
   clear hr
   exact sg9
end Go.Proofs.Ytnikgofkldkdkaa
namespace Go.Proofs.Ytnikgofkldkdkaa
open Go.RowKit Go.Shelf
theorem zeZ {g:Gr}{r:Tr×Int}(h:r.2≠0):(doK g r).2≠0:=by unfold doK;rw[inQ h];exact h
theorem zeY {g:Gr}{y:Tr}(h:(jE g y).2≠0):(doK g (y,0)).2≠0:=by unfold doK;rw[ipQ rfl,inQ h];exact h
theorem zd1 {g:Gr}{y:Tr}(h:(jE g y).2=0):doK g (y,0)=(y,0):=by unfold doK;rw[ipQ rfl,ipQ h]
theorem zaT {op id par at_:Int}{tx:ByteArray}{x t y:Tr}(h:stepG op id par at_ tx x t=(y,0)):(za t.kids+1≤2000∧za x.kids+1≤2000)∧yx op id par at_ tx x t=(y,0):=by
 unfold stepG at h
 split at h
 · exact⟨‹_›,h⟩
 · exact absurd (congrArg Prod.snd h) (by show ¬((2:Int)=0);decide)
theorem jM:∀f:Fo,za f≤9223372036854775807→vB f
 | .nil,_=>True.intro
 | .node b o k l r,h=>by
   simp only[za] at h
   exact⟨by have:=zM l;omega,jM l om,jM r om⟩
theorem zjd (w:World)(S:Nat→Prop)(gv:Value)(g:Gr)(t x:Tr)(op id par at_:Int)(tx:ByteArray)(ka sa:Option Addr)(len cap sn sc:Nat)(hg:GrV w gv g)(hfew:g.fits)(hlen:len=foLen t.kids)(hsn:sn=foLen x.kids)(hd:qR t)(hfl:foLen t.kids≤9223372036854775807)(hfit:vB t.kids)(hxl:foLen x.kids≤9223372036854775807)(hxfit:vB x.kids)(hS:∀q,S q→q<w.heap.size)(hcap:foLen t.kids≤cap)(hk:zk w S t.kids ka)(hscap:foLen x.kids≤sc)(hxk:zk w S x.kids sa)(hop8: -128≤op∧op≤127)(hok:okF (spF 1 (zh t)))(hxok:okF (spF 1 (zh x)))(htx:(tx.size:Int)≤9223372036854775807):
 Calls Try.prog 26 #[gv,.agg #[.int .i64 t.id,.int .i64 t.kind,.string t.text,.slice ka len cap],.agg #[.int .i8 op,.int .i64 id,.int .i64 par,.int .i64 at_,.string tx,.int .i64 x.id,.int .i64 x.kind,.string x.text,.slice sa sn sc]] w (jQ (doK g (stepG op id par at_ tx x t)) w):=by
 obtain⟨ga,gc,rfl,hgk⟩:=hg
 obtain⟨gn,hgn⟩:∃gn,gn=g.kinds.length:=⟨_,rfl⟩
 rw[←hgn]
 obtain⟨B,hB⟩:∃B,B=zx w [.cells #[.slice ga gn gc,.int .i64 g.root] 24,.cells #[.int .i64 t.id,.int .i64 t.kind,.string t.text,.slice ka len cap] 27,.cells #[.int .i8 op,.int .i64 id,.int .i64 par,.int .i64 at_,.string tx,.int .i64 x.id,.int .i64 x.kind,.string x.text,.slice sa sn sc] 49,.cells #[.int .i64 0,.int .i64 0,.string ⟨#[]⟩,.slice none 0 0] 27]:=⟨_,rfl⟩
 have hb:Below w.heap.size w B:=by rw[hB];exact zl _ _
 have eg:B.heap[w.heap.size]? =some (.cells #[.slice ga gn gc,.int .i64 g.root] 24 (0,0)):=by rw[hB];exact ze _ _ 0 _ rfl
 have e0:B.heap[w.heap.size+1]? =some (.cells #[.int .i64 t.id,.int .i64 t.kind,.string t.text,.slice ka len cap] 27 (0,0)):=by rw[hB];exact ze _ _ 1 _ rfl
 have e1:B.heap[w.heap.size+1+1]? =some (.cells #[.int .i8 op,.int .i64 id,.int .i64 par,.int .i64 at_,.string tx,.int .i64 x.id,.int .i64 x.kind,.string x.text,.slice sa sn sc] 49 (0,0)):=by rw[hB];exact ze _ _ 2 _ rfl
 have e2:B.heap[w.heap.size+1+1+1]? =some (.cells #[.int .i64 0,.int .i64 0,.string ⟨#[]⟩,.slice none 0 0] 27 (0,0)):=by rw[hB];exact ze _ _ 3 _ rfl
 obtain⟨r,hr⟩:∃r,r=stepG op id par at_ tx x t:=⟨_,rfl⟩
 have hap:=zex B S t x op id par at_ tx ka sa len cap sn sc hlen hsn hd hfl hfit hxl hxfit (fun q hq=>nL (hS q hq) hb.size) hcap (hk.below hb hS) hscap (hxk.below hb hS) hop8
 rw[←hr] at hap ⊢
 have HOK:Hid (∀y,r=(y,0)→okF (spF 1 (zh y))∧za y.kids≤10000):=hH fun y hy=>by
  obtain⟨hz,hst⟩:=zaT (hr.symm.trans hy)
  have hsz:=zaV op id par at_ tx x t
  rw[hst] at hsz
  exact⟨(zaU hst).1.ok hok hxok htx,by simp only at hsz;omega⟩
 have HGR:Hid (∀X,Below w.heap.size w X→GrV X (.agg #[.slice ga gn gc,.int .i64 g.root]) g):=hH fun X hX=>⟨ga,gc,by rw[hgn],hgk.below hX⟩
 have HFW:=hH hfew
 have HAP:=hH hap
 have HB:=hH (aN hb (aN eg (aN e0 (aN e1 e2))))
 have HBE:=hH hB
 have HBS:Hid (w.heap.size+1+1+1<B.heap.size):=hH (lohQ e2)
 obtain⟨p0,p1,p2,p3⟩:=zF e0
 obtain⟨s0,s1,s2,s3,s4,s5,s6,s7,s8⟩:uf2 B (w.heap.size+1+1) op id par at_ tx x.id x.kind x.text sa sn sc:=⟨by rw[corQ _ _ 0 _ _ _ e1];rfl,by rw[corQ _ _ 1 _ _ _ e1];rfl,by rw[corQ _ _ 2 _ _ _ e1];rfl,by rw[corQ _ _ 3 _ _ _ e1];rfl,by rw[corQ _ _ 4 _ _ _ e1];rfl,by rw[corQ _ _ 5 _ _ _ e1];rfl,by rw[corQ _ _ 6 _ _ _ e1];rfl,by rw[corQ _ _ 7 _ _ _ e1];rfl,by rw[corQ _ _ 8 _ _ _ e1];rfl⟩
 clear hgk hgn hb eg e0 e1 e2 hB hap hr hfew hlen hsn hd hfl hfit hxl hxfit hS hcap hk hscap hxk hop8 hok hxok htx
 go_enter Try.func26,Try.ntmps26
 go_upto_region 1 with fail
 change Code.wp _ _ _ _ (zx w [.cells #[.slice ga gn gc,.int .i64 g.root] 24,.cells #[.int .i64 t.id,.int .i64 t.kind,.string t.text,.slice ka len cap] 27,.cells #[.int .i8 op,.int .i64 id,.int .i64 par,.int .i64 at_,.string tx,.int .i64 x.id,.int .i64 x.kind,.string x.text,.slice sa sn sc] 49,.cells #[.int .i64 0,.int .i64 0,.string ⟨#[]⟩,.slice none 0 0] 27])
 rw[←HBE.out]
 clear HBE
 go_wp2_with fail
 refine HAP.out.mono ?_
 rintro e w2 ⟨y,va,vc,er,rfl,hyc,hyf,hb2,he1,he2⟩
 clear p0 p1 p2 p3 s0 s1 s2 s3 s4 s5 s6 s7 s8 HAP
 obtain⟨yn,hyn⟩:∃yn,yn=foLen y.kids:=⟨_,rfl⟩
 rw[←hyn]
 obtain⟨W3,hW3⟩:∃W3,W3=w2.alloc (.cells #[.int .i64 y.id,.int .i64 y.kind,.string y.text,.slice va yn vc] 27):=⟨_,rfl⟩
 have hb3:Below B.heap.size B W3:=hb2.trans uc4
 have eG:W3.heap[w2.heap.size]? =some (.cells #[.int .i64 y.id,.int .i64 y.kind,.string y.text,.slice va yn vc] 27 (0,0)):=by rw[hW3];exact hanQ _ _
 have hyf3:zk W3 (fun q=>B.heap.size≤q∧q<w2.heap.size) y.kids va:=hyf.kept fun q hq=>⟨hq,by rw[hW3];exact BhaQ _ _ _ hq.2⟩
 have h23:w2.heap.size<W3.heap.size:=by rw[hW3,WsaQ];omega
 obtain⟨G,hG⟩:∃G,G=w2.heap.size:=⟨_,rfl⟩
 rw[←hG] at eG
 have hGl:w.heap.size+1+1+1<G:=by rw[hG];have:=lohQ HB.out.2.2.2.2;have:=hb2.size;omega
 have hbw:=HB.out.1.trans (hb3.mono HB.out.1.size)
 have f0:=(hb3.block _ (lohQ HB.out.2.1)).trans HB.out.2.1
 have f2:=(hb3.block _ (lohQ HB.out.2.2.2.2)).trans HB.out.2.2.2.2
 have HA:=hH (aN hbw (aN f0 (aN f2 (aN eG (aN hyf3 (aN hyc (aN hyn (aN h23 (aN hGl HB.out.1.size)))))))))
 have HE:=hH (aN he1 he2)
 have HW3:=hH hW3
 clear hb2 hW3 hb3 eG hyf hyf3 hyc hyn he1 he2 hbw f0 f2 h23 HB hGl
 go_upto_region 2 with fail
 change Code.wp _ _ _ _ (w2.alloc (.cells #[.int .i64 y.id,.int .i64 y.kind,.string y.text,.slice va yn vc] 27))
 rw[←HW3.out,←hG]
 clear HW3 hG
 by_cases h0:er=0
 · subst h0
   have hr0:=HE.out.1 rfl
   obtain⟨hoky,hszy⟩:=HOK.out y hr0
   have hcall:=zgq W3 (fun q=>q<W3.heap.size) (.agg #[.slice ga gn gc,.int .i64 g.root]) (.agg #[.int .i64 y.id,.int .i64 y.kind,.string y.text,.slice va yn vc]) g y (HGR.out W3 HA.out.1) HFW.out (fun q hq=>hq) ⟨va,vc,by rw[HA.out.2.2.2.2.2.2.1],HA.out.2.2.2.2.2.1,HA.out.2.2.2.2.1.kept fun q hq=>⟨Nat.lt_trans hq.2 HA.out.2.2.2.2.2.2.2.1,rfl⟩⟩ (by have:=zM y.kids;omega) (jM _ om) om hoky
   obtain⟨d,hd⟩:∃d,d=jE g y:=⟨_,rfl⟩
   rw[←hd] at hcall
   obtain⟨d1,d2⟩:=d
   have HCALL:=hH hcall
   have HR:=hH (aN hr0 hd)
   have eg0:=HA.out.2.1
   obtain⟨g0,g1⟩:W3.cell? ⟨w.heap.size,0,none⟩=some (.slice ga gn gc)∧W3.cell? ⟨w.heap.size,1,none⟩=some (.int .i64 g.root):=⟨by rw[corQ _ _ 0 _ _ _ eg0];rfl,by rw[corQ _ _ 1 _ _ _ eg0];rfl⟩
   obtain⟨y0,y1,y2,y3⟩:=zF HA.out.2.2.2.1
   clear hr0 hoky hszy hcall hd eg0 HOK HE
   go_wp2_with fail
   refine HCALL.out.mono ?_
   rintro e w4 ⟨rfl,hb4⟩
   have hbw:=HA.out.1.trans (hb4.mono HA.out.1.size)
   have f2:=(hb4.block _ (lohQ HA.out.2.2.1)).trans HA.out.2.2.1
   have f3:=(hb4.block _ (lohQ HA.out.2.2.2.1)).trans HA.out.2.2.2.1
   have hyf4:=HA.out.2.2.2.2.1.kept (w':=w4) (S':=fun q=>B.heap.size≤q∧q<w2.heap.size) fun q hq=>⟨hq,hb4.block q (Nat.lt_trans hq.2 HA.out.2.2.2.2.2.2.2.1)⟩
   have h24:w2.heap.size<w4.heap.size:=nL HA.out.2.2.2.2.2.2.2.1 hb4.size
   have HC:=hH (aN hbw (aN f2 (aN f3 (aN hyf4 (aN HA.out.2.2.2.2.2.1 (aN HA.out.2.2.2.2.2.2.1 (aN h24 (aN HA.out.2.2.2.2.2.2.2.2.1 HA.out.2.2.2.2.2.2.2.2.2))))))))
   clear hb4 hbw f2 f3 hyf4 h24 g0 g1 y0 y1 y2 y3 HA HCALL
   by_cases h0:d2=0
   · subst h0
     obtain⟨y0,y1,y2,y3⟩:=zF HC.out.2.2.1
     have hz:=HC.out.2.1
     have hHEE:jQ (doK g r) w (.returned (.tuple #[.agg #[.int .i64 y.id,.int .i64 y.kind,.string y.text,.slice va yn vc],.int .i64 0])) ((((w4.setCell ⟨w.heap.size+1+1+1,0,none⟩ (.int .i64 y.id)).setCell ⟨w.heap.size+1+1+1,1,none⟩ (.int .i64 y.kind)).setCell ⟨w.heap.size+1+1+1,2,none⟩ (.string y.text)).setCell ⟨w.heap.size+1+1+1,3,none⟩ (.slice va yn vc)):=by
      have hs:=zX hz (.int .i64 y.id) (.int .i64 y.kind) (.string y.text) (.slice va yn vc)
      have hz2:=(hs.2.1 _ (NlrQ _)).size
      have h6:=HC.out.2.2.2.2.2.2
      have h7:=lohQ hz
      refine⟨y,va,vc,0,by rw[HC.out.2.2.2.2.2.1],HC.out.2.2.2.2.1,?_,HC.out.1.trans (hs.2.1 _ om),fun _=>by rw[HR.out.1];exact zd1 (by rw[←HR.out.2]),fun h=>absurd rfl h⟩
      exact HC.out.2.2.2.1.kept fun q hq=>⟨⟨by have:=hq.1;omega,nL (Nat.lt_trans hq.2 h6.1) hz2⟩,hs.2.2 q (by have:=hq.1;have h8:=HBS.out;omega)⟩
     have HEE:=hH hHEE
     obtain⟨z0,z1,z2,z3⟩:=zF hz
     have gz:∀j,w4.frozen? ⟨w.heap.size+1+1+1,j,none⟩=false:=fun j=>forQ _ _ j _ _ hz
     have HZ:=hH (zX hz (.int .i64 y.id) (.int .i64 y.kind) (.string y.text) (.slice va yn vc))
     clear hz hHEE
     go_wp2_with fail
     exact brQ (zq rfl _ _ (w.heap.size+1+1+1) 27 _ _ _ (.int .i64 0) rfl HZ.out.1 Try.underlying27 rfl kr1 rfl) rfl HEE.out
   · have hd0:(d2 == 0)=false:=by simpa using h0
     have hd1:(d2 != 0)=true:=by simpa using h0
     have H0:=hH h0
     clear h0
     have hb3:=HC.out.1
     have f2:=HC.out.2.1
     obtain⟨z0,z1,z2,z3⟩:=zF f2
     have gz:∀j,w4.frozen? ⟨w.heap.size+1+1+1,j,none⟩=false:=fun j=>forQ _ _ j _ _ f2
     have HZ:=hH (zX f2 (.int .i64 0) (.int .i64 0) (.string ⟨#[]⟩) (.slice none 0 0))
     have HEE:=hH (yZ (r:=doK g r) (er:=d2) hb3 f2 om H0.out (by rw[HR.out.1];exact zeY (by rw[←HR.out.2];exact H0.out)))
     go_wp2_with fail
     exact brQ (zq rfl _ _ (w.heap.size+1+1+1) 27 _ _ _ (.int .i64 d2) rfl HZ.out.1 Try.underlying27 rfl kr1 rfl) rfl HEE.out
 · have hd0:(er == 0)=false:=by simpa using h0
   have hd1:(er != 0)=true:=by simpa using h0
   have H0:=hH h0
   clear h0
   have hb3:=HA.out.1
   have f2:=HA.out.2.2.1
   obtain⟨z0,z1,z2,z3⟩:=zF f2
   have gz:∀j,W3.frozen? ⟨w.heap.size+1+1+1,j,none⟩=false:=fun j=>forQ _ _ j _ _ f2
   have HZ:=hH (zX f2 (.int .i64 0) (.int .i64 0) (.string ⟨#[]⟩) (.slice none 0 0))
   have HEE:=hH (yZ (r:=doK g r) (er:=er) hb3 f2 om H0.out (zeZ (HE.out.2 H0.out)))
   go_wp2_with fail
   exact brQ (zq rfl _ _ (w.heap.size+1+1+1) 27 _ _ _ (.int .i64 er) rfl HZ.out.1 Try.underlying27 rfl kr1 rfl) rfl HEE.out
theorem zfA (w:World)(S T:Nat→Prop)(nv:Value)(t:Tr)(op id par at_ xi xk:Int)(tx xt:ByteArray)(sa:Option Addr)(sn sc:Nat)(hS:∀y,S y→y<w.heap.size)(ht:zK w S nv t)(hbig:2000<za t.kids+1):
 Calls Try.prog 25 #[nv,.agg #[.int .i8 op,.int .i64 id,.int .i64 par,.int .i64 at_,.string tx,.int .i64 xi,.int .i64 xk,.string xt,.slice sa sn sc]] w (jb w T (zG,2)):=by
 obtain⟨ka,tc,rfl,hcap,hk⟩:=ht
 obtain⟨nk,hnk⟩:∃nk,nk=foLen t.kids:=⟨_,rfl⟩
 rw[←hnk]
 obtain⟨B,hB⟩:∃B,B=zx w [.cells #[.int .i64 t.id,.int .i64 t.kind,.string t.text,.slice ka nk tc] 27,.cells #[.int .i8 op,.int .i64 id,.int .i64 par,.int .i64 at_,.string tx,.int .i64 xi,.int .i64 xk,.string xt,.slice sa sn sc] 49,.cells #[.int .i64 0,.int .i64 0,.string ⟨#[]⟩,.slice none 0 0] 27]:=⟨_,rfl⟩
 have hb:Below w.heap.size w B:=by rw[hB];exact zl _ _
 have ht0:B.heap[w.heap.size]? =some (.cells #[.int .i64 t.id,.int .i64 t.kind,.string t.text,.slice ka nk tc] 27 (0,0)):=by rw[hB];exact ze _ _ 0 _ rfl
 have hr0:B.heap[w.heap.size+1+1]? =some (.cells #[.int .i64 0,.int .i64 0,.string ⟨#[]⟩,.slice none 0 0] 27 (0,0)):=by rw[hB];exact ze _ _ 2 _ rfl
 have hg:=zaf B S (.agg #[.int .i64 t.id,.int .i64 t.kind,.string t.text,.slice ka nk tc]) t (fun y hy=>nL (hS y hy) hb.size) ⟨ka,tc,by rw[hnk],by rw[hnk] at*;exact hcap,hk.below hb hS⟩
 rw[decide_eq_true hbig] at hg
 have HG:=hH hg
 have HB:=hH (aN hb hr0)
 have HBE:=hH hB
 obtain⟨n0,n1,n2,n3⟩:=zH ht0
 clear hg hb ht0 hr0 hB hS hk hcap hnk hbig
 go_enter Try.func25,Try.ntmps25
 go_wp2_with fail
 change Calls _ _ _ (zx w [.cells #[.int .i64 t.id,.int .i64 t.kind,.string t.text,.slice ka nk tc] 27,.cells #[.int .i8 op,.int .i64 id,.int .i64 par,.int .i64 at_,.string tx,.int .i64 xi,.int .i64 xk,.string xt,.slice sa sn sc] 49,.cells #[.int .i64 0,.int .i64 0,.string ⟨#[]⟩,.slice none 0 0] 27]) _
 rw[←HBE.out]
 refine HG.out.mono ?_
 rintro e W1 ⟨rfl,hb1⟩
 have hr3:=(hb1.block _ (lohQ HB.out.2)).trans HB.out.2
 have hbz:Below w.heap.size w W1:=HB.out.1.trans (hb1.mono HB.out.1.size)
 obtain⟨z0,z1,z2,z3⟩:=zH hr3
 have zf:∀j,W1.frozen? ⟨w.heap.size+1+1,j,none⟩=false:=fun j=>forQ _ _ j _ _ hr3
 obtain⟨V,hV,r1,r2,r3,r4,r5,r6⟩:=zu (u0:= .int .i64 0) (u1:= .int .i64 0) (u2:= .string ⟨#[]⟩) (u3:= .slice none 0 0) hr3
 have HE:=hH (aN hbz (aN hV (aN r1 (aN r2 (aN r3 (aN r4 (aN r5 r6)))))))
 clear hbz hr3 hV r1 r2 r3 r4 r5 r6 n0 n1 n2 n3 HB HBE HG hb1
 go_wp2_with fail
 rw[←HE.out.2.1]
 obtain⟨hbz,hV,r1,r2,r3,r4,r5,r6⟩:=HE.out
 exact yh (p:=4) (u:=5) rfl rfl (g:=w.heap.size+1+1) (y:=zG) ⟨r3.trans hbz.os,r4.trans hbz.tape,r5.trans hbz.output,by rw[r6];exact hbz.size,fun k hk=>(r2 k om).trans (hbz.block k hk)⟩ r1 rfl (NlrQ _) True.intro (by rw[yY,inQ ue9]) rfl rfl
def zbH (A:Nat→Prop)(r:Tr×Int)(w:World)(e:Ending)(w' :World):Prop:=∃(x:Tr) (va:Option Addr) (vc:Nat) (er:Int),e= .returned (.tuple #[.agg #[.int .i64 x.id,.int .i64 x.kind,.string x.text,.slice va (foLen x.kids) vc],.int .i64 er])∧foLen x.kids≤vc∧zk w' (fun q=>q<w'.heap.size∧(A q∨w.heap.size≤q)) x.kids va∧Below w.heap.size w w'∧(er=0→r=(x,0))∧(er≠0→r.2≠0)
theorem jQ.p {r:Tr×Int}{w w' :World}{e:Ending}(A:Nat→Prop)(h:jQ r w e w'):zbH A r w e w':=by
 obtain⟨x,va,vc,er,h1,h2,h3,h4⟩:=h
 exact⟨x,va,vc,er,h1,h2,h3.kept fun q hq=>⟨⟨hq.2,Or.inr hq.1⟩,rfl⟩,h4⟩
theorem zes (w:World)(S Sx A:Nat→Prop)(t x:Tr)(op id par at_:Int)(tx:ByteArray)(ka sa:Option Addr)(tn tc sn sc:Nat)(htn:tn=foLen t.kids)(hsn:sn=foLen x.kids)(hS:∀y,S y→y<w.heap.size)(hSx:∀y,Sx y→y<w.heap.size)(hA:∀y,S y∨Sx y→A y)(htc:foLen t.kids≤tc)(ht:zk w S t.kids ka)(hsc:foLen x.kids≤sc)(hx:zk w Sx x.kids sa)(hxz:za x.kids+1≤2000)(hop:(Lit.int .i8 op).wf=true)(hok:∀i∈idT t,(Lit.int .i64 i).wf=true)(hxk:∀i∈idT x,(Lit.int .i64 i).wf=true):
 Calls Try.prog 25 #[.agg #[.int .i64 t.id,.int .i64 t.kind,.string t.text,.slice ka tn tc],.agg #[.int .i8 op,.int .i64 id,.int .i64 par,.int .i64 at_,.string tx,.int .i64 x.id,.int .i64 x.kind,.string x.text,.slice sa sn sc]] w (zbH A (stepG op id par at_ tx x t) w):=by
 subst htn hsn
 have h:Calls Try.prog 25 #[.agg #[.int .i64 t.id,.int .i64 t.kind,.string t.text,.slice ka (foLen t.kids) tc],.agg #[.int .i8 op,.int .i64 id,.int .i64 par,.int .i64 at_,.string tx,.int .i64 x.id,.int .i64 x.kind,.string x.text,.slice sa (foLen x.kids) sc]] w (jb w (fun y=>S y∨Sx y) (stepG op id par at_ tx x t)):=by
  unfold stepG
  by_cases hz:za t.kids+1≤2000
  · rw[ipQ ⟨hz,hxz⟩]
    exact zfz w S Sx _ t x op id par at_ tx sa _ sc hS hSx ⟨ka,tc,rfl,htc,ht⟩ ⟨sa,sc,rfl,hsc,hx⟩ hz hxz hop hok hxk
  · rw[inQ (fun h=>hz h.1)]
    exact zfA w S _ _ t op id par at_ x.id x.kind tx x.text sa _ sc hS ⟨ka,tc,rfl,htc,ht⟩ om
 refine h.mono ?_
 rintro e w' ⟨v,rfl,⟨va,vc,rfl,hc,hf⟩,hb⟩
 obtain⟨r,hr⟩:∃r,r=stepG op id par at_ tx x t:=⟨_,rfl⟩
 rw[←hr] at hf hc ⊢
 refine⟨_,va,vc,r.2,rfl,hc,hf.kept fun q hq=>⟨⟨hq.1.lt,hq.2.imp (hA q) (fun h=>h)⟩,rfl⟩,hb,fun he=>?_,fun he=>he⟩
 unfold yY
 rw[ipQ he]
 exact Prod.ext rfl he
def zeS (X:World)(E:Nat→Prop)(f:Fo)(a:Option Addr)(c:Nat):Prop:=foLen f≤c∧zk X (fun q=>q<X.heap.size∧¬E q) f a
theorem zeS.on {X Y:World}{E:Nat→Prop}{f:Fo}{a:Option Addr}{c:Nat}(h:zeS X E f a c)(hb:Below X.heap.size X Y):zeS Y E f a c:=⟨h.1,h.2.kept fun q hq=>⟨⟨nL hq.1 hb.size,hq.2⟩,hb.block q hq.1⟩⟩
structure zgN (E:Nat→Prop) (W0:World) (er:Int) (y:Tr) (ya:Option Addr) (ym yc:Nat) (xb:Nat) (V:World):Prop where
 below:Below W0.heap.size W0 V
 cell:V.heap[xb]? =some (.cells #[.int .i64 y.id,.int .i64 y.kind,.string y.text,.slice ya ym yc] 27 (0,0))
 new:W0.heap.size≤xb
 len:ym=foLen y.kids
 cap:ym≤yc
 kids:zk V (fun q=>q<V.heap.size∧q≠xb∧(q<W0.heap.size→¬E q)) y.kids ya
structure JD (E:Nat→Prop) (B:World) (XB:Nat) (x:Tr) (va:Option Addr) (vn vc:Nat) (wr:World):Prop where
 but:Ym XB B wr
 inE:E XB
 ltE:∀q,E q→q<B.heap.size
 cell:wr.heap[XB]? =some (.cells #[.int .i64 x.id,.int .i64 x.kind,.string x.text,.slice va vn vc] 27 (0,0))
 len:vn=foLen x.kids
 lies:zeS wr E x.kids va vc
theorem JD.next {E:Nat→Prop}{B wr V:World}{XB xb:Nat}{x y:Tr}{va ya:Option Addr}{vn vc ym yc:Nat}{er:Int}(h:JD E B XB x va vn vc wr)(d:zgN E wr er y ya ym yc xb V):
 JD E B XB y ya ym yc ((((V.setCell ⟨XB,0,none⟩ (.int .i64 y.id)).setCell ⟨XB,1,none⟩ (.int .i64 y.kind)).setCell ⟨XB,2,none⟩ (.string y.text)).setCell ⟨XB,3,none⟩ (.slice ya ym yc)):=by
 have hlt:=lohQ h.cell
 have hc:=(d.below.block _ hlt).trans h.cell
 have hs:=zX hc (.int .i64 y.id) (.int .i64 y.kind) (.string y.text) (.slice ya ym yc)
 have h1:=h.but.on d.below
 have k:=hs.2.1 _ (NlrQ _)
 have h5:=h.but.size
 refine⟨⟨k.os.trans h1.os,k.tape.trans h1.tape,k.output.trans h1.output,NltQ h1.size k.size,fun q h2 h3=>(hs.2.2 q h3).trans (h1.block q h2 h3)⟩,h.inE,h.ltE,hs.1,d.len,by rw[←d.len];exact d.cap,d.kids.kept fun q hq=>⟨⟨nL hq.1 k.size,fun he=>hq.2.2 (nL (h.ltE q he) h5) he⟩,hs.2.2 q (fun e=>hq.2.2 (by rw[e];exact hlt) (by rw[e];exact h.inE))⟩⟩
end Go.Proofs.Ytnikgofkldkdkaa
