/-
  .
-/
import Derived.Test.YtgkmmnihaiopaaaGreatVRNodeQv
import Derived.Test.YtgkmmnihaiopaaaGreatJLawJQv
set_option maxRecDepth 100000
set_option maxHeartbeats 40000000
set_option linter.unusedVariables false
set_option linter.unusedSimpArgs false
namespace Go.Proofs.YtgkmmnihaiopaaaGreat
open Go.RowKit Go.Shelf
attribute [local go_sem] Oper.semAt_some
theorem Qh {g:Gr}{L:List Sp}{k:Nat}{x:Sp}(h:qR g [] 0 (L.take k)=none)(hx:L[k]? =some x)(ha:atB g (zM (L.take k)) x.1 (kX x)=false):qR g [] 0 (L.take (k+1))=none:=by
 rw[List.take_add_one,hx,Za g _ [] 0 _ h]
 simp only[Option.toList_some,List.nil_append,qR]
 rw[inQ (by rw[ha];simp)]
theorem Qg {g:Gr}{L:List Sp}{k:Nat}{x:Sp}(h:qR g [] 0 (L.take k)=none)(hx:L[k]? =some x)(ha:atB g (zM (L.take k)) x.1 (kX x)=true):qR g [] 0 L=some k:=by
 have hlt:=(List.getElem?_eq_some_iff.1 hx).1
 have e:L=L.take k++(x::L.drop (k+1)):=by
  have hd:L.drop k=x::L.drop (k+1):=by rw[List.drop_eq_getElem_cons hlt,(List.getElem?_eq_some_iff.1 hx).2]
  rw[←hd,List.take_append_drop]
 have hl:(L.take k).length=k:=by rw[List.length_take];omega
 have h2:=Za g (L.take k) [] 0 (x::L.drop (k+1)) h
 rw[←e] at h2
 rw[h2]
 simp only[List.nil_append,qR]
 rw[ipQ ha,hl,Nat.zero_add]
theorem zim (w:World)(S:Nat→Prop)(gv nv:Value)(g:Gr)(t:Tr)(hg:GrV w gv g)(hf:g.few)(hS:∀x,S x→x<w.heap.size)(ht:zG w S nv t)(hlen:foLen t.kids≤9223372036854775807)(hfit:qZ t.kids)(hsz:zb t.kids+1≤500000)(hok:okF (spF 1 (zm t))):
 Calls Tryz.prog 20 #[gv,nv] w (Qe (vT g t) w):=by
 obtain⟨ga,gc,rfl,hgk⟩:=hg
 obtain⟨ka,cap,rfl,hcap,hk⟩:=ht
 obtain⟨n,hn⟩:∃n,n=foLen t.kids:=⟨_,rfl⟩
 obtain⟨gn,hgn⟩:∃gn,gn=g.kinds.length:=⟨_,rfl⟩
 rw[←hn,←hgn]
 have kx:((w.alloc (.cells #[.slice ga gn gc,.int .i64 g.root] 24)).alloc (.cells #[.int .i64 t.id,.int .i64 t.kind,.string t.text,.slice ka n cap] 27)).heap[w.heap.size]? =_:=ze [.cells #[.slice ga gn gc,.int .i64 g.root] 24,.cells #[.int .i64 t.id,.int .i64 t.kind,.string t.text,.slice ka n cap] 27] w 0 _ rfl
 have ky:((w.alloc (.cells #[.slice ga gn gc,.int .i64 g.root] 24)).alloc (.cells #[.int .i64 t.id,.int .i64 t.kind,.string t.text,.slice ka n cap] 27)).heap[w.heap.size+1]? =_:=ze [.cells #[.slice ga gn gc,.int .i64 g.root] 24,.cells #[.int .i64 t.id,.int .i64 t.kind,.string t.text,.slice ka n cap] 27] w 1 _ rfl
 have hab:Below w.heap.size w ((w.alloc (.cells #[.slice ga gn gc,.int .i64 g.root] 24)).alloc (.cells #[.int .i64 t.id,.int .i64 t.kind,.string t.text,.slice ka n cap] 27)):=zi [.cells #[.slice ga gn gc,.int .i64 g.root] 24,.cells #[.int .i64 t.id,.int .i64 t.kind,.string t.text,.slice ka n cap] 27] w
 obtain⟨SX,hSX⟩:∃SX:World→Prop,SX=fun X=>Below (w.heap.size+2) ((w.alloc (.cells #[.slice ga gn gc,.int .i64 g.root] 24)).alloc (.cells #[.int .i64 t.id,.int .i64 t.kind,.string t.text,.slice ka n cap] 27)) X:=⟨_,rfl⟩
 have HSx:∀X,SX X→X.cell? ⟨w.heap.size,0,none⟩=some (.slice ga gn gc)∧X.cell? ⟨w.heap.size,1,none⟩=some (.int .i64 g.root)∧ug9 X (w.heap.size+1) t.id t.kind t.text ka n cap:=fun X h=>by
  exact sd1
 have HS:=hH (show SX ((w.alloc (.cells #[.slice ga gn gc,.int .i64 g.root] 24)).alloc (.cells #[.int .i64 t.id,.int .i64 t.kind,.string t.text,.slice ka n cap] 27)) by rw[hSX];exact BrQ _ _)
 have HSB:=hH (fun (X Y:World) (h:SX X) (hb:Below X.heap.size X Y)=>(show SX Y by rw[hSX] at h ⊢;exact h.trans (hb.mono ud7)))
 have hwX:∀X,SX X→Below w.heap.size w X:=fun X h=>by rw[hSX] at h;exact hab.trans (h.mono om)
 have hgX:∀X,SX X→GrV X (.agg #[.slice ga gn gc,.int .i64 g.root]) g:=fun X h=>⟨ga,gc,by rw[hgn],hgk.below (hwX X h)⟩
 have htX:∀X,SX X→zG X S (.agg #[.int .i64 t.id,.int .i64 t.kind,.string t.text,.slice ka n cap]) t:=fun X h=>⟨ka,cap,by rw[hn],hcap,hk.below (hwX X h) hS⟩
 have hSXl:∀X,SX X→∀y,S y→y<X.heap.size:=fun X h y hy=>nL (hS y hy) (hwX X h).size
 have HCK:Hid (∀X,SX X→Calls Tryz.prog 19 #[.agg #[.slice ga gn gc,.int .i64 g.root]] X (y8 (Zw (qB g)) X)):=hH fun X h=>yo X _ g (hgX X h) hf
 have HWA:Hid (∀X,SX X→Calls Tryz.prog 18 #[.agg #[.int .i64 t.id,.int .i64 t.kind,.string t.text,.slice ka n cap],.int .i64 201] X (WalkM X S t 201)):=hH fun X h=>YA 201 om X S _ t hlen hfit (hSXl X h) (htX X h)
 have HFIN:=hH hwX
 have HGX:=hH hgX
 have HSL:=hH hSXl
 have HOK:=hH hok
 have HFEW:=hH hf
 have HZ:=hH hsz
 obtain⟨ck,hck⟩:∃ck,ck=qB g:=⟨_,rfl⟩
 have HK:=hH hck
 rw[←hck] at HCK
 clear hS hcap hk hn hgn hf hgk hsz hok kx ky hab hSX hwX hgX htX hSXl hck hlen hfit
 cases ck
 · have HB:=hH (show vT g t=(0,50) by rw[vT,←HK.out];rfl)
   rw[show Zw false=50 from rfl] at HCK
   go_enter Tryz.func20,Tryz.ntmps20
   exact sf1
 rw[show Zw true=0 from rfl] at HCK
 go_enter Tryz.func20,Tryz.ntmps20
 go_wp2_with (go_at_call 19;refine (HCK.out _ HS.out).mono ?_;rintro e w2 ⟨rfl,hb⟩;have HS2:=hH (HSB.out _ w2 HS.out hb);obtain⟨p0,p1,p2,p3,p4,p5⟩:=HSx w2 HS2.out;clear hb)
 go_at_call 18
 refine (HWA.out _ HS2.out).mono ?_
 rintro e w3 ⟨la,lc,rfl,hsp,hb⟩
 have HS3:=hH (HSB.out _ w3 HS2.out hb);obtain⟨q0,q1,q2,q3,q4,q5⟩:=HSx w3 HS3.out;clear hb
 clear p0 p1 p2 p3 p4 p5
 obtain⟨q,hq⟩:∃q,q=((spF 1 (zm t)).take 201).length:=⟨_,rfl⟩
 rw[←hq] at hsp ⊢
 have hqs:=hq
 rw[List.length_take,qM,yt] at hqs
 by_cases h200:200<q
 · have hql:(200:Int)<(q:Int):=by omega
   have HB:=hH (show vT g t=(0,70) by rw[vT,←HK.out,ipQ rfl,ipQ om])
   clear hsp hq hqs
   exact si9
 have hlt:(spF 1 (zm t)).take 201=spF 1 (zm t):=List.take_of_length_le (by rw[qM,yt];omega)
 rw[hlt] at hsp hq
 have HS200:=hH (show ¬200<zb t.kids+1 by omega)
 have HSP:=hH (aN hsp (aN hq (show q≤200 by omega)))
 have hql:¬(200:Int)<(q:Int):=by omega
 clear hsp hq hlt hqs h200 q0 q1 q2 q3 q4 q5
 go_wp2_with fail
 go_loopw [7] (fun i wr=>∃k:Nat,k≤q∧i= .int .i64 (k:Int)∧Hid (Below w3.heap.size w3 wr∧qR g [] 0 ((spF 1 (zm t)).take k)=none)) (fun i _=>q - (intOf i).toNat)
 case atStart=>exact⟨0,NzlQ _,rfl,hH ⟨BrQ _ _,rfl⟩⟩
 case round =>
  obtain⟨wo,hwo⟩:∃wo,wo=wr:=⟨_,rfl⟩
  subst hwo
  obtain⟨k,hk,rfl,hr⟩:=hrel
  by_cases hlt:k<q
  · obtain ⟨x,hx⟩:∃x,(spF 1 (zm t))[k]? =some x:=⟨_,List.getElem?_eq_getElem (by rw[←HSP.out.2.1];exact hlt)⟩
    have hxm:=List.mem_of_getElem? hx
    obtain⟨gg,rfl,hgl,c0,c1,c2,⟨xa,xc,c3,hxc,hxk⟩,c4⟩:=Zo HSP.out.1 hx
    obtain⟨x0,hx0⟩:∃x0,x0=x.2.1.1:=⟨_,rfl⟩
    obtain⟨x1,hx1⟩:∃x1,x1=x.2.1.2.1:=⟨_,rfl⟩
    obtain⟨x2,hx2⟩:∃x2,x2=x.2.1.2.2:=⟨_,rfl⟩
    obtain⟨xn,hxn⟩:∃xn,xn=foLen x.2.2:=⟨_,rfl⟩
    obtain⟨d,hd⟩:∃d,d=x.1:=⟨_,rfl⟩
    rw[←hx0] at c0;rw[←hx1] at c1;rw[←hx2] at c2;rw[←hxn] at c3;rw[←hd] at c4
    have hbl:=hr.out.1
    have c0:=(hbl.cell (p:=⟨gg,k*5,none⟩) hgl).trans c0
    have c1:=(hbl.cell (p:=⟨gg,k*5+1,none⟩) hgl).trans c1
    have c2:=(hbl.cell (p:=⟨gg,k*5+2,none⟩) hgl).trans c2
    have c3:=(hbl.cell (p:=⟨gg,k*5+3,none⟩) hgl).trans c3
    have c4:=(hbl.cell (p:=⟨gg,k*5+4,none⟩) hgl).trans c4
    have hbx:Below wo.heap.size wo (wo.alloc (.cells #[.int .i64 x0,.int .i64 x1,.string x2,.slice xa xn xc] 27)):=(BrQ _ _).alloc (NlrQ _) _
    have hbw:=hbl.trans (hbx.mono hbl.size)
    have e4:(wo.alloc (.cells #[.int .i64 x0,.int .i64 x1,.string x2,.slice xa xn xc] 27)).cell? ⟨gg,k*5+4,none⟩=some (.int .i64 (d:Int)):=(hbx.cell (p:=⟨gg,k*5+4,none⟩) (nL hgl hbl.size)).trans c4
    have hnew:=hanQ wo (.cells #[.int .i64 x0,.int .i64 x1,.string x2,.slice xa xn xc] 27)
    obtain⟨z0,z1,z2,z3⟩:=zex hnew
    have hsx:=HSB.out _ _ HS3.out hbw
    obtain⟨g0,g1,_,_,_,_⟩:=HSx _ hsx
    have hszx:=(jU 1 _ _ hxm).1
    rw[yt] at hszx
    have h5:=HZ.out
    obtain⟨nb,hnb⟩:∃nb,nb=jG g (kX x):=⟨_,rfl⟩
    have HND:Hid (Calls Tryz.prog 41 #[.agg #[.slice ga gn gc,.int .i64 g.root],.agg #[.int .i64 x0,.int .i64 x1,.string x2,.slice xa xn xc]] (wo.alloc (.cells #[.int .i64 x0,.int .i64 x1,.string x2,.slice xa xn xc] 27)) (Says nb (wo.alloc (.cells #[.int .i64 x0,.int .i64 x1,.string x2,.slice xa xn xc] 27)))):=hH (by
     have:=zgJ (wo.alloc (.cells #[.int .i64 x0,.int .i64 x1,.string x2,.slice xa xn xc] 27)) S (.agg #[.slice ga gn gc,.int .i64 g.root]) g (.agg #[.int .i64 x0,.int .i64 x1,.string x2,.slice xa xn xc]) (kX x) (HGX.out _ hsx) HFEW.out (HSL.out _ hsx) ⟨xa,xc,by rw[hx0,hx1,hx2,hxn];rfl,hxc,hxk.below hbw (HSL.out _ HS3.out)⟩ (by have:=zL x.2.2;show foLen x.2.2≤1000000;omega) (HOK.out x hxm).1
     rw[←hnb] at this;exact this)
    have HBW:=hH hbw
    have HAT:=hH (show ∀l,atB g l x.1 (kX x)=(decide (32<d) || (decide (x0<1) || decide (1125899906842624<x0)) || l.any (· == x0) || !nb) from fun l=>by rw[hd,hx0,hnb];rfl)
    have HLT:=hH hlt
    have HX:=hH hx
    have HBA:=hH hr.out.2
    have HGL:=hH hgl
    have HZS:=hH (show wo.heap.size<(wo.alloc (.cells #[.int .i64 x0,.int .i64 x1,.string x2,.slice xa xn xc] 27)).heap.size by simp)
    have hkl:(k:Int)<(q:Int):=by omega
    clear hr hxm hx hgl hxc hxk hx0 hx1 hx2 hxn hd hbl hbx hbw hnew hsx hszx h5 hnb hk hlt
    by_cases h32:32<d
    · have hd:(32:Int)<(d:Int):=by omega
      have HBB:=hH (show ∀l:List Int,atB g l x.1 (kX x)=(true || l.any (· == x0)) from fun l=>by rw[HAT.out,decide_eq_true h32];simp)
      clear h32
      go_wp2_with fail
      have HWB:=hH (aN HBW.out (aN z0 HZS.out))
      clear c0 c1 c2 c3 c4 e4 z0 z1 z2 z3 g0 g1
      go_loopw [9,10] (fun v j wr2=>∃m:Nat,∃bv:Bool,m≤k∧j= .int .i64 (m:Int)∧v= .bool bv∧bv=(true || ((zM (spF 1 (zm t))).take m).any (· == x0))∧Hid (Below (wo.alloc (.cells #[.int .i64 x0,.int .i64 x1,.string x2,.slice xa xn xc] 27)).heap.size (wo.alloc (.cells #[.int .i64 x0,.int .i64 x1,.string x2,.slice xa xn xc] 27)) wr2)) (fun _ j _=>k - (intOf j).toNat)
      case atStart=>exact⟨0,_,NzlQ _,rfl,rfl,by simp,hH (BrQ _ _)⟩
      case round=>
       exact sa4
    · have hd:¬(32:Int)<(d:Int):=by omega
      by_cases h1:x0<1
      · have HBB:=hH (show ∀l:List Int,atB g l x.1 (kX x)=(true || l.any (· == x0)) from fun l=>by rw[HAT.out,decide_eq_true h1];simp)
        clear h32
        go_wp2_with fail
        have HWB:=hH (aN HBW.out (aN z0 HZS.out))
        clear c0 c1 c2 c3 c4 e4 z0 z1 z2 z3 g0 g1
        go_loopw [9,10] (fun v j wr2=>∃m:Nat,∃bv:Bool,m≤k∧j= .int .i64 (m:Int)∧v= .bool bv∧bv=(true || ((zM (spF 1 (zm t))).take m).any (· == x0))∧Hid (Below (wo.alloc (.cells #[.int .i64 x0,.int .i64 x1,.string x2,.slice xa xn xc] 27)).heap.size (wo.alloc (.cells #[.int .i64 x0,.int .i64 x1,.string x2,.slice xa xn xc] 27)) wr2)) (fun _ j _=>k - (intOf j).toNat)
        case atStart=>exact⟨0,_,NzlQ _,rfl,rfl,by simp,hH (BrQ _ _)⟩
        case round=>
         exact sa4
      · by_cases hM:1125899906842624<x0
        · have HBB:=hH (show ∀l:List Int,atB g l x.1 (kX x)=(true || l.any (· == x0)) from fun l=>by rw[HAT.out,decide_eq_true hM];simp)
          clear h32
          go_wp2_with fail
          have HWB:=hH (aN HBW.out (aN z0 HZS.out))
          clear c0 c1 c2 c3 c4 e4 z0 z1 z2 z3 g0 g1
          go_loopw [9,10] (fun v j wr2=>∃m:Nat,∃bv:Bool,m≤k∧j= .int .i64 (m:Int)∧v= .bool bv∧bv=(true || ((zM (spF 1 (zm t))).take m).any (· == x0))∧Hid (Below (wo.alloc (.cells #[.int .i64 x0,.int .i64 x1,.string x2,.slice xa xn xc] 27)).heap.size (wo.alloc (.cells #[.int .i64 x0,.int .i64 x1,.string x2,.slice xa xn xc] 27)) wr2)) (fun _ j _=>k - (intOf j).toNat)
          case atStart=>exact⟨0,_,NzlQ _,rfl,rfl,by simp,hH (BrQ _ _)⟩
          case round=>
           exact sa4
        · have HBB:=hH (show ∀l:List Int,atB g l x.1 (kX x)=((!nb) || l.any (· == x0)) from fun l=>by rw[HAT.out,decide_eq_false h32,decide_eq_false h1,decide_eq_false hM];simp[Bool.or_comm])
          clear h32
          go_wp2_with (go_at_call 41;refine HND.out.mono ?_;rintro e w6 ⟨rfl,hb⟩;have HWB:=hH (aN (HBW.out.trans (hb.mono HBW.out.size)) (aN ((hb.cell (p:=⟨wo.heap.size,0,none⟩) HZS.out).trans z0) (nL HZS.out hb.size)));clear hb c0 c1 c2 c3 c4 e4 z0 z1 z2 z3 g0 g1)
          go_loopw [9,10] (fun v j wr2=>∃m:Nat,∃bv:Bool,m≤k∧j= .int .i64 (m:Int)∧v= .bool bv∧bv=((!nb) || ((zM (spF 1 (zm t))).take m).any (· == x0))∧Hid (Below w6.heap.size w6 wr2)) (fun _ j _=>k - (intOf j).toNat)
          case atStart=>exact⟨0,_,NzlQ _,rfl,rfl,by simp,hH (BrQ _ _)⟩
          case round=>
           exact sa4
  · have hkl:¬(k:Int)<(q:Int):=by omega
    have hkq:k=q:=by omega
    subst hkq
    have HB:=hH (show vT g t=(0,0) by
     have h:=hr.out.2
     rw[List.take_of_length_le (by rw[←HSP.out.2.1];omega)] at h
     rw[vT,←HK.out,ipQ rfl,inQ HS200.out,vZ,h])
    have HS6:=hH (HSB.out _ _ HS3.out hr.out.1)
    clear hr hk hlt
    go_wp2_with fail
    go_ret2
    exact⟨by rw[HB.out];rfl,HFIN.out _ HS6.out⟩
end Go.Proofs.YtgkmmnihaiopaaaGreat
namespace Go.Proofs.YtgkmmnihaiopaaaGreat
open Go.RowKit Go.Shelf
attribute [local go_sem] Oper.semAt_some
theorem zgM (w:World)(S:Nat→Prop)(gv nv:Value)(g:Gr)(t:Tr)(hg:GrV w gv g)(hf:g.few)(hS:∀x,S x→x<w.heap.size)(ht:zG w S nv t)(hlen:foLen t.kids≤9223372036854775807)(hfit:qZ t.kids)(hsz:zb t.kids+1≤500000)(hok:okF (spF 1 (zm t))):
 Calls Tryz.prog 9 #[gv,nv] w (Qe (qG g t) w):=by
 obtain⟨ga,gc,rfl,hgk⟩:=hg
 obtain⟨ka,cap,rfl,hcap,hk⟩:=ht
 obtain⟨n,hn⟩:∃n,n=foLen t.kids:=⟨_,rfl⟩
 obtain⟨gn,hgn⟩:∃gn,gn=g.kinds.length:=⟨_,rfl⟩
 rw[←hn,←hgn]
 have kx:((w.alloc (.cells #[.slice ga gn gc,.int .i64 g.root] 24)).alloc (.cells #[.int .i64 t.id,.int .i64 t.kind,.string t.text,.slice ka n cap] 27)).heap[w.heap.size]? =_:=ze [.cells #[.slice ga gn gc,.int .i64 g.root] 24,.cells #[.int .i64 t.id,.int .i64 t.kind,.string t.text,.slice ka n cap] 27] w 0 _ rfl
 have ky:((w.alloc (.cells #[.slice ga gn gc,.int .i64 g.root] 24)).alloc (.cells #[.int .i64 t.id,.int .i64 t.kind,.string t.text,.slice ka n cap] 27)).heap[w.heap.size+1]? =_:=ze [.cells #[.slice ga gn gc,.int .i64 g.root] 24,.cells #[.int .i64 t.id,.int .i64 t.kind,.string t.text,.slice ka n cap] 27] w 1 _ rfl
 have hab:Below w.heap.size w ((w.alloc (.cells #[.slice ga gn gc,.int .i64 g.root] 24)).alloc (.cells #[.int .i64 t.id,.int .i64 t.kind,.string t.text,.slice ka n cap] 27)):=zi [.cells #[.slice ga gn gc,.int .i64 g.root] 24,.cells #[.int .i64 t.id,.int .i64 t.kind,.string t.text,.slice ka n cap] 27] w
 obtain⟨SX,hSX⟩:∃SX:World→Prop,SX=fun X=>Below (w.heap.size+2) ((w.alloc (.cells #[.slice ga gn gc,.int .i64 g.root] 24)).alloc (.cells #[.int .i64 t.id,.int .i64 t.kind,.string t.text,.slice ka n cap] 27)) X:=⟨_,rfl⟩
 have HSx:∀X,SX X→X.cell? ⟨w.heap.size,0,none⟩=some (.slice ga gn gc)∧X.cell? ⟨w.heap.size,1,none⟩=some (.int .i64 g.root)∧ug9 X (w.heap.size+1) t.id t.kind t.text ka n cap:=fun X h=>by
  exact sd1
 have HS:=hH (show SX ((w.alloc (.cells #[.slice ga gn gc,.int .i64 g.root] 24)).alloc (.cells #[.int .i64 t.id,.int .i64 t.kind,.string t.text,.slice ka n cap] 27)) by rw[hSX];exact BrQ _ _)
 have HSB:=hH (fun (X Y:World) (h:SX X) (hb:Below X.heap.size X Y)=>(show SX Y by rw[hSX] at h ⊢;exact h.trans (hb.mono ud7)))
 have hwX:∀X,SX X→Below w.heap.size w X:=fun X h=>by rw[hSX] at h;exact hab.trans (h.mono om)
 have hgX:∀X,SX X→GrV X (.agg #[.slice ga gn gc,.int .i64 g.root]) g:=fun X h=>⟨ga,gc,by rw[hgn],hgk.below (hwX X h)⟩
 have htX:∀X,SX X→zG X S (.agg #[.int .i64 t.id,.int .i64 t.kind,.string t.text,.slice ka n cap]) t:=fun X h=>⟨ka,cap,by rw[hn],hcap,hk.below (hwX X h) hS⟩
 have hSXl:∀X,SX X→∀y,S y→y<X.heap.size:=fun X h y hy=>nL (hS y hy) (hwX X h).size
 have HCK:Hid (∀X,SX X→Calls Tryz.prog 19 #[.agg #[.slice ga gn gc,.int .i64 g.root]] X (y8 (Zw (qB g)) X)):=hH fun X h=>yo X _ g (hgX X h) hf
 have HWA:Hid (∀X,SX X→Calls Tryz.prog 18 #[.agg #[.int .i64 t.id,.int .i64 t.kind,.string t.text,.slice ka n cap],.int .i64 201] X (WalkM X S t 201)):=hH fun X h=>YA 201 om X S _ t hlen hfit (hSXl X h) (htX X h)
 obtain⟨⟨f1,f2⟩,hfr⟩:∃p:Int×Int,p=vT g t:=⟨_,rfl⟩
 have HFA:Hid (∀X,SX X→Calls Tryz.prog 20 #[.agg #[.slice ga gn gc,.int .i64 g.root],.agg #[.int .i64 t.id,.int .i64 t.kind,.string t.text,.slice ka n cap]] X (Qe (f1,f2) X)):=hH fun X h=>by
  have:=zim X S _ _ g t (hgX X h) hf (hSXl X h) (htX X h) hlen hfit hsz hok
  rw[←hfr] at this;exact this
 have HFR:=hH hfr
 have HFIN:=hH hwX
 obtain⟨ck,hck⟩:∃ck,ck=qB g:=⟨_,rfl⟩
 have HK:=hH hck
 rw[←hck] at HCK
 clear hS hcap hk hn hgn hf hgk hsz hok kx ky hab hSX hwX hgX htX hSXl hck hlen hfit hfr
 cases ck
 · have HB:=hH (show qG g t=(0,50) by rw[qG,←HK.out,inQ sp1,vT,←HK.out];rfl)
   rw[show Zw false=50 from rfl] at HCK
   go_enter Tryz.func9,Tryz.ntmps9
   exact sf1
 rw[show Zw true=0 from rfl] at HCK
 go_enter Tryz.func9,Tryz.ntmps9
 go_wp2_with (go_at_call 19;refine (HCK.out _ HS.out).mono ?_;rintro e w2 ⟨rfl,hb⟩;have HS2:=hH (HSB.out _ w2 HS.out hb);obtain⟨p0,p1,p2,p3,p4,p5⟩:=HSx w2 HS2.out;clear hb)
 go_at_call 18
 refine (HWA.out _ HS2.out).mono ?_
 rintro e w3 ⟨la,lc,rfl,hsp,hb⟩
 have HS3:=hH (HSB.out _ w3 HS2.out hb);obtain⟨q0,q1,q2,q3,q4,q5⟩:=HSx w3 HS3.out;clear hb
 clear p0 p1 p2 p3 p4 p5 hsp
 obtain⟨q,hq⟩:∃q,q=((spF 1 (zm t)).take 201).length:=⟨_,rfl⟩
 rw[←hq]
 have hqs:=hq
 rw[List.length_take,qM,yt] at hqs
 by_cases h200:200<q
 · have hql:(200:Int)<(q:Int):=by omega
   have HB:=hH (show qG g t=(0,70) by
    have h2:vT g t=(0,70):=by rw[vT,←HK.out,ipQ rfl,ipQ om]
    unfold qG;split
    · rfl
    · exact h2)
   clear hq hqs h200
   exact si9
 have hql:¬(200:Int)<(q:Int):=by omega
 clear hq hqs h200
 by_cases hr:t.kind=g.root
 · have HB:=hH (show qG g t=(f1,f2) by rw[qG,←HK.out,inQ (by simp[hr]),HFR.out])
   have hne:(t.kind != g.root)=false:=by simp[hr]
   clear hr
   go_wp2_with (go_at_call 20;refine (HFA.out _ HS3.out).mono ?_;rintro e w4 ⟨rfl,hb⟩;have HS4:=hH (HSB.out _ w4 HS3.out hb);obtain⟨r0,r1,r2,r3,r4,r5⟩:=HSx w4 HS4.out;clear hb)
   go_ret2
   exact⟨by rw[HB.out];rfl,HFIN.out _ HS4.out⟩
 · have HB:=hH (show qG g t=(0,70) by rw[qG,←HK.out,ipQ ⟨rfl,hr⟩])
   have hne:(t.kind != g.root)=true:=by simp[hr]
   clear hr
   exact si9
end Go.Proofs.YtgkmmnihaiopaaaGreat
namespace Go.Proofs.YtgkmmnihaiopaaaGreat
open Go.RowKit Go.Shelf
theorem zht {g:Gr}{t:Tr}{l:List Sf}(h:(apK g t l).2.2=0):ve l=true∧goT g t l=some (apK g t l).1:=by
 unfold apK at h ⊢
 split at h
 · rename_i h1
   simp only at h
   rw[ipQ h1]
   simp only
   rw[ipQ h]
   exact⟨h1,(zat h).1⟩
 · exact absurd h ug7
theorem JF (w:World)(g:Gr)(t:Tr)(ga ta la:Option Addr)(gn gc tn tc n c:Nat)(vs:List SV)(hgn:gn=g.kinds.length)(hg:GrV w (.agg #[.slice ga g.kinds.length gc,.int .i64 g.root]) g)(hf:g.fits)(htn:tn=foLen t.kids)(ht:yR w t.kids ta tc)(hlen:foLen t.kids≤9223372036854775807)(hfit:qZ t.kids)(hok:okF (spF 1 (zm t)))(hn:n=vs.length)(h:zb4 w la vs):
 Calls Tryz.prog 3 #[.agg #[.slice ga gn gc,.int .i64 g.root],.agg #[.int .i64 t.id,.int .i64 t.kind,.string t.text,.slice ta tn tc],.slice la n c] w (zkv w):=by
 obtain⟨B,hB⟩:∃B,B=zl w [.cells #[.slice ga gn gc,.int .i64 g.root] 24,.cells #[.int .i64 t.id,.int .i64 t.kind,.string t.text,.slice ta tn tc] 27]:=⟨_,rfl⟩
 have BW:=hH (show Below w.heap.size w B by rw[hB];exact zi _ _)
 have EG:=hH (show B.heap[w.heap.size]? =some (.cells #[.slice ga gn gc,.int .i64 g.root] 24 (0,0)) by rw[hB];exact ze _ _ 0 _ rfl)
 have EN:=hH (show B.heap[w.heap.size+1]? =some (.cells #[.int .i64 t.id,.int .i64 t.kind,.string t.text,.slice ta tn tc] 27 (0,0)) by rw[hB];exact ze _ _ 1 _ rfl)
 have HBE:=hH hB
 have HP:=hH (aN hgn (aN hg (aN hf (aN htn (aN ht (aN hlen (aN hfit hok)))))))
 have HA:=hH (aN hn h)
 clear hB hgn hg hf htn ht hlen hfit hok hn h
 go_enter Tryz.func3,Tryz.ntmps3
 go_upto_region 1 with fail
 change Code.wp _ _ _ _ (zl w [.cells #[.slice ga gn gc,.int .i64 g.root] 24,.cells #[.int .i64 t.id,.int .i64 t.kind,.string t.text,.slice ta tn tc] 27])
 rw[←HBE.out]
 clear HBE
 obtain⟨g0,g1⟩:=kQ EG.out
 obtain⟨n0,n1,n2,n3⟩:=zD EN.out
 go_wp2_with fail
 refine (zeK B _ g (by rw[HP.out.1];exact HP.out.2.1.below BW.out) HP.out.2.2.1).mono ?_
 rintro e W1 ⟨rfl,hb⟩
 replace EG:=hH ((hb.block _ (lohQ EG.out)).trans EG.out)
 replace EN:=hH ((hb.block _ (lohQ EN.out)).trans EN.out)
 replace BW:=hH (BW.out.trans (hb.mono BW.out.size))
 clear hb
 clear g0 g1 n0 n1 n2 n3
 cases hgg:Ye g
 rotate_left
 · clear hgg
   go_wp2_with fail
   refine (vS W1).mono ?_
   exact sd0
 have HGF:=hH (zeL hgg).1
 clear hgg
 obtain⟨g0,g1⟩:=kQ EG.out
 obtain⟨n0,n1,n2,n3⟩:=zD EN.out
 go_wp2_with fail
 refine (zaB W1 _ _ t HP.out.2.2.2.2.2.1 HP.out.2.2.2.2.2.2.1 (fun q hq=>nL hq BW.out.size) (by rw[HP.out.2.2.2.1];exact HP.out.2.2.2.2.1.at BW.out)).mono ?_
 rintro e W2 ⟨b2,rfl,h2,hb⟩
 replace EG:=hH ((hb.block _ (lohQ EG.out)).trans EG.out)
 replace EN:=hH ((hb.block _ (lohQ EN.out)).trans EN.out)
 replace BW:=hH (BW.out.trans (hb.mono BW.out.size))
 clear hb
 clear g0 g1 n0 n1 n2 n3
 cases b2
 rotate_left
 · clear h2
   go_wp2_with fail
   refine (vS W2).mono ?_
   exact sd0
 have HW:=hH (show Way t from⟨h2 rfl,HP.out.2.2.2.2.2.2.2⟩)
 clear h2
 go_wp2_with fail
 refine (zdn W2 la n c vs HA.out.1 (HA.out.2.on BW.out)).mono ?_
 rintro e W3 ⟨b3,rfl,h3,hb⟩
 replace EG:=hH ((hb.block _ (lohQ EG.out)).trans EG.out)
 replace EN:=hH ((hb.block _ (lohQ EN.out)).trans EN.out)
 replace BW:=hH (BW.out.trans (hb.mono BW.out.size))
 clear hb
 cases b3
 rotate_left
 · clear h3
   go_wp2_with fail
   refine (vS W3).mono ?_
   exact sd0
 have HR:=hH (HA.out.2.row (h3 rfl))
 clear h3
 obtain⟨g0,g1⟩:=kQ EG.out
 obtain⟨n0,n1,n2,n3⟩:=zD EN.out
 obtain⟨d,hd⟩:∃d,d=qG g t:=⟨_,rfl⟩
 have hcall:=zgM W3 (fun q=>q<w.heap.size) (.agg #[.slice ga gn gc,.int .i64 g.root]) (.agg #[.int .i64 t.id,.int .i64 t.kind,.string t.text,.slice ta tn tc]) g t (by rw[HP.out.1];exact HP.out.2.1.below BW.out) HGF.out (fun q hq=>nL hq BW.out.size) (by rw[HP.out.2.2.2.1];exact HP.out.2.2.2.2.1.at BW.out) HP.out.2.2.2.2.2.1 HP.out.2.2.2.2.2.2.1 (by have:=HW.out.size;omega) HP.out.2.2.2.2.2.2.2
 rw[←hd] at hcall
 obtain⟨d1,d2⟩:=d
 have HCALL:=hH hcall
 have HD0:=hH hd
 clear hcall hd
 go_wp2_with fail
 refine HCALL.out.mono ?_
 rintro e W4 ⟨rfl,hb⟩
 replace EG:=hH ((hb.block _ (lohQ EG.out)).trans EG.out)
 replace EN:=hH ((hb.block _ (lohQ EN.out)).trans EN.out)
 replace BW:=hH (BW.out.trans (hb.mono BW.out.size))
 clear hb
 clear g0 g1 n0 n1 n2 n3 HCALL
 obtain⟨g0,g1⟩:=kQ EG.out
 obtain⟨n0,n1,n2,n3⟩:=zD EN.out
 obtain⟨r,hr⟩:∃r,r=apK g t (steps vs):=⟨_,rfl⟩
 have hap:=zbr W4 g t ga ta la gn gc tn tc n c vs HP.out.1 (fun Y hY=>HP.out.2.1.below (BW.out.trans (hY.mono BW.out.size))) HGF.out HP.out.2.2.2.1 (yR.on HP.out.2.2.2.2.1 BW.out) HW.out HA.out.1 (HR.out.on BW.out)
 rw[←hr] at hap
 have HAP:=hH hap
 have HRR:=hH hr
 obtain⟨er,her⟩:∃er,er=r.2.2:=⟨_,rfl⟩
 have HER:=hH her
 clear hap hr her
 go_wp2_with fail
 refine HAP.out.mono ?_
 rintro e W5 ⟨va,vc,rfl,hlr,hb5⟩
 have BW5:=hH (BW.out.trans (hb5.mono BW.out.size))
 clear g0 g1 n0 n1 n2 n3 HAP
 obtain⟨x,hx⟩:∃x,x=r.1:=⟨_,rfl⟩
 rw[←hx,←HER.out]
 rw[←hx] at hlr
 obtain⟨vn,hvn⟩:∃vn,vn=foLen x.kids:=⟨_,rfl⟩
 rw[←hvn]
 obtain⟨W6,hW6⟩:∃W6,W6=W5.alloc (.cells #[.int .i64 x.id,.int .i64 x.kind,.string x.text,.slice va vn vc] 27):=⟨_,rfl⟩
 have hb:Below W4.heap.size W4 W6:=hb5.trans (by rw[hW6];exact (BrQ _ _).alloc hb5.size _)
 have eX:W6.heap[W5.heap.size]? =some (.cells #[.int .i64 x.id,.int .i64 x.kind,.string x.text,.slice va vn vc] 27 (0,0)):=by rw[hW6];exact hanQ _ _
 have h56:W6.heap.size=W5.heap.size+1:=by rw[hW6,WsaQ]
 have hlx:zS W6 (fun q=>q=W5.heap.size) x.kids va vc:=⟨hlr.1,hlr.2.kept fun q hq=>⟨⟨by omega,by omega⟩,by rw[hW6];exact BhaQ _ _ _ hq⟩⟩
 obtain⟨XB,hXB⟩:∃XB,XB=W5.heap.size:=⟨_,rfl⟩
 rw[←hXB] at eX hlx
 have HX6:=hH (aN eX (aN hlx (aN hvn (show XB<W6.heap.size∧w.heap.size+1<XB from⟨lohQ eX,by rw[hXB];have:=lohQ EN.out;have:=hb5.size;omega⟩))))
 have HW6:=hH hW6
 have HY6:=hH (aN (show Below W5.heap.size W5 W6 by rw[hW6];exact (BrQ _ _).alloc (NlrQ _) _) hXB)
 have HXR:=hH hx
 replace EG:=hH ((hb.block _ (lohQ EG.out)).trans EG.out)
 replace EN:=hH ((hb.block _ (lohQ EN.out)).trans EN.out)
 replace BW:=hH (BW.out.trans (hb.mono BW.out.size))
 clear hb
 clear hb5 hW6 hlr eX h56 hlx hvn hx
 go_upto_region 5 with fail
 change Code.wp _ _ _ _ (W5.alloc (.cells #[.int .i64 x.id,.int .i64 x.kind,.string x.text,.slice va vn vc] 27))
 rw[←HW6.out,←hXB]
 clear HW6 hXB
 by_cases hd2:d2=0
 rotate_left
 · have hdb:(d2 == 0)=false:=by simpa using hd2
   have hdn:(d2 != 0)=true:=by simpa using hd2
   clear hd2
   go_wp2_with fail
   refine (vS W6).mono ?_
   exact sd0
 by_cases he:er=0
 rotate_left
 · have heb:(er == 0)=false:=by simpa using he
   have hen:(er != 0)=true:=by simpa using he
   subst hd2
   clear he
   go_wp2_with fail
   refine (vS W6).mono ?_
   exact sd0
 have hwb:zhn g t:=zkD (by rw[←HD0.out];exact hd2)
 have hos:ve (steps vs)=true:=(zht (g:=g) (t:=t) (by rw[←HRR.out,←HER.out];exact he)).1
 have HOS:=hH hos
 clear hos
 have hgo:goT g t (steps vs)=some x:=by rw[HXR.out,HRR.out];exact (zht (by rw[←HRR.out,←HER.out];exact he)).2
 have HGO:=hH (aN hwb hgo)
 subst hd2
 subst he
 clear hwb hgo HRR HER HXR HD0
 obtain⟨g0,g1⟩:=kQ EG.out
 obtain⟨n0,n1,n2,n3⟩:=zD EN.out
 have hinv:=Jc W5 W6 t ta la tn tc n c vs HY6.out.1 HP.out.2.2.2.1 (yR.on HP.out.2.2.2.2.1 BW5.out) HW.out HA.out.1 (HR.out.on BW5.out) (fun x hx=>zj0 (zeG (HR.out.fit x hx)))
 have HINV:=hH hinv
 clear hinv
 go_wp2_with fail
 refine HINV.out.mono ?_
 rintro e W7 ⟨ra,rc,m,bs,rfl,hb,hrl,hcase⟩
 clear g0 g1 n0 n1 n2 n3 HINV
 have hgoA:=zaz HGO.out.2
 have hms:m=0∧bs=(qw t (steps vs)).reverse:=by
  rcases hcase with ⟨h1,_,_,h2⟩ | ⟨h1,_,h2⟩
  · exact⟨h1,h2⟩
  · have hos:ve (steps vs)=true:=HOS.out
    rw[h2 hos] at hgoA;cases hgoA
 obtain⟨rfl,hbs⟩:=hms
 have hbl:bs.length=n:=by rw[hbs,List.length_reverse,jk,vR,HA.out.1]
 have hxX:=(hb.block _ (lohQ HX6.out.1)).trans HX6.out.1
 have hL0:Jd (fun q=>q=XB) W7 XB x va vn vc W7:=⟨⟨rfl,rfl,rfl,NlrQ _,fun _ _ _=>rfl⟩,rfl,fun q hq=>by rw[hq];exact lohQ hxX,hxX,HX6.out.2.2.1,HX6.out.2.1.on hb⟩
 have HL0:=hH (aN hL0 (aN hrl (aN hbs (aN hbl (Jj (t:=t) hgoA)))))
 replace EG:=hH ((hb.block _ (lohQ EG.out)).trans EG.out)
 replace EN:=hH ((hb.block _ (lohQ EN.out)).trans EN.out)
 replace BW:=hH (BW.out.trans (hb.mono BW.out.size))
 clear hb
 have hnl:n≤1000000:=by rw[HA.out.1];exact HR.out.len
 rw[hbl]
 have hnn:((n:Int) == (n:Int))=true:=by simp
 have hnn2:((n:Int) != (n:Int))=false:=by simp
 clear hcase hgoA hrl hbs hbl hxX hL0
 go_wp2_with fail
 clear hnn hnn2
 go_loopw [66] (fun i wr=>∃k:Nat,k≤n∧i= .int .i64 (k:Int)∧Hid (∃x va vn vc,(vV t (steps vs))[k]? =some x∧Jd (fun q=>q=XB) W7 XB x va vn vc wr)) (fun i _=>n - (intOf i).toNat)
 case atStart=>exact⟨0,NzlQ _,rfl,hH ⟨x,va,vn,vc,HL0.out.2.2.2.2,HL0.out.1⟩⟩
 case round=>
  obtain⟨k,hk,rfl,hh⟩:=hrel
  obtain⟨wo,hwo⟩:∃wo,wo=wr:=⟨_,rfl⟩
  subst hwo
  obtain⟨x,va,vn,vc,hch,hL⟩:=hh.out
  clear hh
  have hfar:∀q,q<W7.heap.size→q≠XB→wo.heap[q]? =W7.heap[q]?:=hL.but.block
  have n0h:=(hfar _ (lohQ EN.out) (by have:=HX6.out.2.2.2.2;omega)).trans EN.out
  have hbw:Below w.heap.size w wo:=⟨hL.but.os.trans BW.out.os,hL.but.tape.trans BW.out.tape,hL.but.output.trans BW.out.output,NltQ BW.out.size hL.but.size,fun q hq=>(hfar q (nL hq BW.out.size) (by have:=HX6.out.2.2.2.2;omega)).trans (BW.out.block q hq)⟩
  by_cases hlt:k<n
  · have hki:(k:Int)<(n:Int):=by omega
    obtain⟨s,hs⟩:∃s,bs[k]? =some s:=⟨_,List.getElem?_eq_getElem (by rw[HL0.out.2.2.2.1];exact hlt)⟩
    obtain⟨b,off,sa,sc,rfl,hbg,hbl,hcell,hsl⟩:=HL0.out.2.1 k s hs
    obtain⟨x0,v,z,hx0,hv,hwx,hwv,hz,hzs,hsok⟩:=zae HGO.out.1 HGO.out.2 k s (by rw[←HL0.out.2.2.1];exact hs)
    rw[hch] at hx0;cases hx0
    obtain⟨sn,hsn⟩:∃sn,sn=foLen s.sub.kids:=⟨_,rfl⟩
    have hrow:∀X,Below wo.heap.size wo X→∀(j:Nat) (u:Value),(jO s sa sc)[j]? =some u→X.cell? ⟨b,off+k*9+j,none⟩=some u:=fun X hX j u hj=>(hX.cell (p:=⟨b,off+k*9+j,none⟩) (nL hbl hL.but.size)).trans ((World.cell?_of_block (a:=⟨b,off+k*9+j,none⟩) (hfar b hbl (fun e=>by have:=HX6.out.2.2.2.1;omega))).trans (hcell j u hj))
    have hcx:∀X,Below wo.heap.size wo X→(ug9 X XB x.id x.kind x.text va vn vc)∧X.cell? ⟨b,off+k*9,none⟩=some (.int .i8 s.op)∧X.cell? ⟨b,off+k*9+1,none⟩=some (.int .i64 s.id)∧X.cell? ⟨b,off+k*9+2,none⟩=some (.int .i64 s.par)∧X.cell? ⟨b,off+k*9+3,none⟩=some (.int .i64 s.at_)∧X.cell? ⟨b,off+k*9+4,none⟩=some (.string s.tx)∧X.cell? ⟨b,off+k*9+5,none⟩=some (.int .i64 s.sub.id)∧X.cell? ⟨b,off+k*9+6,none⟩=some (.int .i64 s.sub.kind)∧X.cell? ⟨b,off+k*9+7,none⟩=some (.string s.sub.text)∧X.cell? ⟨b,off+k*9+8,none⟩=some (.slice sa sn sc):=fun X hX=>
     ⟨zD ((hX.block _ (lohQ hL.cell)).trans hL.cell),hrow X hX 0 _ rfl,hrow X hX 1 _ rfl,hrow X hX 2 _ rfl,hrow X hX 3 _ rfl,hrow X hX 4 _ rfl,hrow X hX 5 _ rfl,hrow X hX 6 _ rfl,hrow X hX 7 _ rfl,hrow X hX 8 _ (by rw[hsn];rfl)⟩
    obtain⟨r,hr⟩:∃r,r=stepG s.op s.id s.par s.at_ s.tx s.sub x:=⟨_,rfl⟩
    have hrz:r=(z,0):=by rw[hr];unfold stepG;rw[ipQ ⟨by have:=hwx.size;omega,hsok.size⟩];exact hz
    have hsw:zt wo (fun q=>q<wo.heap.size) s.sub.kids sa:=hsl.2.kept fun q hq=>⟨nL hq.1 hL.but.size,hfar q hq.1 (fun e=>hq.2 ⟨by have:=HY6.out.2;omega,by have:=HX6.out.2.2.2.1;omega⟩)⟩
    have hcall:∀X,Below wo.heap.size wo X→Calls Tryz.prog 12 #[.agg #[.int .i64 x.id,.int .i64 x.kind,.string x.text,.slice va vn vc],.agg #[.int .i8 s.op,.int .i64 s.id,.int .i64 s.par,.int .i64 s.at_,.string s.tx,.int .i64 s.sub.id,.int .i64 s.sub.kind,.string s.sub.text,.slice sa sn sc]] X (ZY r X):=fun X hX=>by
     rw[hr]
     exact ze9 X (fun q=>q<X.heap.size) x s.sub s.op s.id s.par s.at_ s.tx va sa vn vc sn sc hL.len hsn hwx.zkw (by have:=zL x.kids;have:=hwx.size;omega) (Yq _ (by have:=hwx.size;omega)) (by have:=zL s.sub.kids;have:=hsok.size;omega) (Yq _ (by have:=hsok.size;omega)) (fun q hq=>hq) hL.lies.1 ((hL.lies.on hX).2.kept fun q hq=>⟨hq.1,rfl⟩) hsl.1 (hsw.kept fun q hq=>⟨nL hq hX.size,hX.block q hq⟩) (zky hsok.op)
    have HCALL:=hH hcall
    have HCX:=hH hcx
    have HQ:=hH (aN hch (aN hL (aN hbw (aN n0h (aN hlt (aN hrz (aN hzs hv)))))))
    clear hch hL hbw n0h hlt hrz hzs hv hr hs hbl hcell hsl hwx hwv hz hsok hsn hrow hcx hcall hfar hk
    go_upto_region 13 with fail
    refine wrhQ (S:=fun X=>Below wo.heap.size wo X) kr1 (qg (BrQ _ wo) 1) (fun eH=>?_)
    refine tJ (i:=0) (.agg #[.int .i64 x.id,.int .i64 x.kind,.string x.text,.slice va vn vc]) rfl ?_ ?_
    · exact ua0
    simp only[Act.put,pg]
    refine tG (i:=1) (.slice (some ⟨b,off,none⟩) n rc) rfl ?_
    simp only[Act.put,pg]
    refine tG (i:=2) (.int .i64 (k:Int)) rfl ?_
    simp only[Act.put,pg]
    refine tG (i:=3) (.pointer (some ⟨b,off+k*9,none⟩)) rfl ?_
    simp only[Act.put,pg]
    refine tJ (i:=4) (.agg #[.int .i8 s.op,.int .i64 s.id,.int .i64 s.par,.int .i64 s.at_,.string s.tx,.int .i64 s.sub.id,.int .i64 s.sub.kind,.string s.sub.text,.slice sa sn sc]) rfl ?_ ?_
    · exact ua0
    simp only[Act.put,pg]
    refine rd [5,9] ?_
    refine AcQ (o:=_) rfl (fun K hK=>?_) (AcQ (o:=_) rfl (fun K hK=>?_) AnQ)
    · rw[ipQ ug8]
      simp only[pg3]
      have HK:=hH hK
      have HS:=hH eH
      clear hK eH
      go_wp2_with (go_at_call 12;refine (HCALL.out _ HS.out).mono ?_;rintro e w4 ⟨y,ya,yc,er,rfl,hyc,hyf,hb4,he1,he2⟩)
      obtain⟨ym,hym⟩:∃ym,ym=foLen y.kids:=⟨_,rfl⟩
      have H4:=hH (aN hyc (aN hyf (aN hb4 (aN he1 (aN he2 hym)))))
      have HX:=hH HS.out.size
      have hb4w:=HS.out.trans (hb4.mono HS.out.size)
      rw[←hym]
      refine HK.out _ _ hb4w (fun eH=>?_)
      clear HK HS hyc hyf hb4 he1 he2 hym
      refine tG (i:=6) (.tuple #[.agg #[.int .i64 y.id,.int .i64 y.kind,.string y.text,.slice ya ym yc],.int .i64 er]) rfl ?_
      simp only[Act.put,pg]
      refine tG (i:=7) (.agg #[.int .i64 y.id,.int .i64 y.kind,.string y.text,.slice ya ym yc]) rfl ?_
      simp only[Act.put,pg]
      refine tG (i:=8) (.int .i64 er) rfl ?_
      simp only[Act.put,pg]
      refine rd [9] ?_
      refine AcQ (o:=_) rfl (fun K hK=>?_) AnQ
      rw[ipQ ug8]
      simp only[pg3]
      have HK:=hH hK
      have HS:=hH eH
      clear hK eH
      go_wp2_with fail
      obtain⟨WA,hWA⟩:∃WA,WA=(World.alloc w4 (.cells #[.int .i64 0,.int .i64 0,.string ⟨#[]⟩,.slice none 0 0] 27)):=⟨_,rfl⟩
      rw[←hWA]
      have hza:WA.heap[w4.heap.size]? =some (.cells #[.int .i64 0,.int .i64 0,.string ⟨#[]⟩,.slice none 0 0] 27 (0,0)):=by rw[hWA];exact hanQ w4 _
      have hba:Below w4.heap.size w4 WA:=by rw[hWA];exact (BrQ _ _).alloc (NlrQ _) _
      have hsa:WA.heap.size=w4.heap.size+1:=by rw[hWA];simp[World.drew]
      have hbaw:Below wo.heap.size wo WA:=HS.out.trans (hba.mono HS.out.size)
      have HA:=hH (aN hza (aN hba (aN hsa (aN hbaw (show wo.heap.size≤w4.heap.size from HS.out.size)))))
      refine HK.out _ _ hbaw (fun eH=>?_)
      clear hbaw
      clear HK HS hza hba hsa hWA
      refine rd [10] ?_
      refine AcQ (o:=_) rfl (fun K hK=>?_) AnQ
      rw[ipQ ug8]
      simp only[pg3]
      have HK:=hH hK
      have HS:=hH eH
      clear hK eH
      have hz:=HA.out.1
      have hbc:=HA.out.2.2.2.1
      have hxb:wo.heap.size≤w4.heap.size:=HA.out.2.2.2.2
      have hXs:=HX.out
      have hkf:zt WA (fun q=>wo.heap.size≤q∧q<WA.heap.size∧q≠w4.heap.size) y.kids ya:=H4.out.2.1.kept fun q hq=>⟨⟨by have:=hq.1;omega,by have:=hq.2;have:=HA.out.2.2.1;omega,by have:=hq.2;omega⟩,HA.out.2.1.block q hq.2⟩
      clear hXs
      obtain⟨z0,z1,z2,z3⟩:=zD hz
      have zf:∀j,WA.frozen? ⟨w4.heap.size,j,none⟩=false:=fun j=>forQ _ _ j _ _ hz
      obtain⟨V5,e5,r1,r2,r3,r4,r5,r6⟩:=zo (u0:= .int .i64 y.id) (u1:= .int .i64 y.kind) (u2:= .string y.text) (u3:= .slice ya ym yc) hz
      have hD:zjE wo er y ya ym yc w4.heap.size V5:=⟨⟨r3.trans hbc.os,r4.trans hbc.tape,r5.trans hbc.output,by rw[r6];exact hbc.size,fun q hq=>(r2 q om).trans (hbc.block q hq)⟩,r1,hxb,H4.out.2.2.2.2.2,by rw[H4.out.2.2.2.2.2];exact H4.out.1,hkf.kept fun q hq=>⟨⟨hq.1,by rw[r6];exact hq.2.1,hq.2.2⟩,r2 q hq.2.2⟩⟩
      have HD:=hH (aN hD e5)
      clear hz r1 r2 r3 r4 r5 r6 hD hbc hxb hkf e5
      go_wp2_with fail
      rw[←HD.out.2]
      refine HK.out _ _ HD.out.1.below (fun eH=>?_)
      clear HK HS z0 z1 z2 z3 zf
      refine tG (i:=11) (.int .i64 er) rfl ?_
      simp only[Act.put,pg]
      refine wpAnyH_done kr1 ?_ _
      clear eH
      replace HD:=hH HD.out.1
      replace H4:=hH (aN H4.out.2.2.2.1 H4.out.2.2.2.2.1)
      obtain⟨xb,hxbe⟩:∃xb,xb=w4.heap.size:=⟨_,rfl⟩
      exact sc2
    · rw[ipQ ug8]
      simp only[pg3]
      have HK:=hH hK
      have HS:=hH eH
      clear hK eH
      go_wp2_with fail
      obtain⟨WA,hWA⟩:∃WA,WA=(World.alloc wo (.cells #[.int .i64 0,.int .i64 0,.string ⟨#[]⟩,.slice none 0 0] 27)).drew:=⟨_,rfl⟩
      rw[←hWA]
      have hza:WA.heap[wo.heap.size]? =some (.cells #[.int .i64 0,.int .i64 0,.string ⟨#[]⟩,.slice none 0 0] 27 (0,0)):=by rw[hWA];exact hanQ wo _
      have hba:Below wo.heap.size wo WA:=by rw[hWA];exact ((BrQ _ _).alloc (NlrQ _) _).drew
      have hsa:WA.heap.size=wo.heap.size+1:=by rw[hWA];simp[World.drew]
      have HA:=hH (aN hza (aN hba hsa))
      refine HK.out _ _ hba (fun eH=>?_)
      clear HK HS hza hba hsa hWA
      refine rd [5] ?_
      refine AcQ (o:=_) rfl (fun K hK=>?_) AnQ
      rw[ipQ ug8]
      simp only[pg3]
      have HK:=hH hK
      have HS:=hH eH
      clear hK eH
      go_wp2_with (go_at_call 12;refine (HCALL.out _ HS.out).mono ?_;rintro e w4 ⟨y,ya,yc,er,rfl,hyc,hyf,hb4,he1,he2⟩)
      obtain⟨ym,hym⟩:∃ym,ym=foLen y.kids:=⟨_,rfl⟩
      have H4:=hH (aN hyc (aN hyf (aN hb4 (aN he1 (aN he2 hym)))))
      have hb4w:=HS.out.trans (hb4.mono HS.out.size)
      have HX:=hH (aN HS.out.size ((hb4.block _ (lohQ HA.out.1)).trans HA.out.1))
      rw[←hym]
      refine HK.out _ _ hb4w (fun eH=>?_)
      clear HK HS hyc hyf hb4 he1 he2 hym
      refine tG (i:=6) (.tuple #[.agg #[.int .i64 y.id,.int .i64 y.kind,.string y.text,.slice ya ym yc],.int .i64 er]) rfl ?_
      simp only[Act.put,pg]
      refine tG (i:=7) (.agg #[.int .i64 y.id,.int .i64 y.kind,.string y.text,.slice ya ym yc]) rfl ?_
      simp only[Act.put,pg]
      refine tG (i:=8) (.int .i64 er) rfl ?_
      simp only[Act.put,pg]
      refine rd [10] ?_
      refine AcQ (o:=_) rfl (fun K hK=>?_) AnQ
      rw[ipQ ug8]
      simp only[pg3]
      have HK:=hH hK
      have HS:=hH eH
      clear hK eH
      have hz:=HX.out.2
      have hbc:=HS.out
      have hxb:wo.heap.size≤wo.heap.size:=NlrQ _
      have hkf:zt w4 (fun q=>wo.heap.size≤q∧q<w4.heap.size∧q≠wo.heap.size) y.kids ya:=H4.out.2.1.kept fun q hq=>⟨⟨by have:=hq.1;have:=HA.out.2.2;omega,hq.2,by have:=hq.1;have:=HA.out.2.2;omega⟩,rfl⟩
      obtain⟨z0,z1,z2,z3⟩:=zD hz
      have zf:∀j,w4.frozen? ⟨wo.heap.size,j,none⟩=false:=fun j=>forQ _ _ j _ _ hz
      obtain⟨V5,e5,r1,r2,r3,r4,r5,r6⟩:=zo (u0:= .int .i64 y.id) (u1:= .int .i64 y.kind) (u2:= .string y.text) (u3:= .slice ya ym yc) hz
      have hD:zjE wo er y ya ym yc wo.heap.size V5:=⟨⟨r3.trans hbc.os,r4.trans hbc.tape,r5.trans hbc.output,by rw[r6];exact hbc.size,fun q hq=>(r2 q om).trans (hbc.block q hq)⟩,r1,hxb,H4.out.2.2.2.2.2,by rw[H4.out.2.2.2.2.2];exact H4.out.1,hkf.kept fun q hq=>⟨⟨hq.1,by rw[r6];exact hq.2.1,hq.2.2⟩,r2 q hq.2.2⟩⟩
      have HD:=hH (aN hD e5)
      clear hz r1 r2 r3 r4 r5 r6 hD hbc hxb hkf e5
      go_wp2_with fail
      rw[←HD.out.2]
      refine HK.out _ _ HD.out.1.below (fun eH=>?_)
      clear HK HS z0 z1 z2 z3 zf
      refine tG (i:=11) (.int .i64 er) rfl ?_
      simp only[Act.put,pg]
      refine wpAnyH_done kr1 ?_ _
      clear eH
      replace HD:=hH HD.out.1
      replace H4:=hH (aN H4.out.2.2.2.1 H4.out.2.2.2.2.1)
      obtain⟨xb,hxbe⟩:∃xb,xb=wo.heap.size:=⟨_,rfl⟩
      exact sc2
  · have hki:¬(k:Int)<(n:Int):=by omega
    have hkn:k=n:=by omega
    have hxt:x=t:=by
     have h1:=zah (steps vs) t
     rw[vR,←HA.out.1,←hkn,hch] at h1
     exact Option.some.inj h1
    subst hxt
    obtain⟨x0,x1,x2,x3⟩:=zD hL.cell
    obtain⟨n0,n1,n2,n3⟩:=zD n0h
    have HSA:=hH (zin 1000 wo (fun q=>q<wo.heap.size) (fun q=>q<w.heap.size) (.agg #[.int .i64 x.id,.int .i64 x.kind,.string x.text,.slice va vn vc]) (.agg #[.int .i64 x.id,.int .i64 x.kind,.string x.text,.slice ta tn tc]) x x (by have:=HW.out.size;omega) ⟨HP.out.2.2.2.2.2.1,HP.out.2.2.2.2.2.2.1⟩ (fun q hq=>hq) (fun q hq=>nL hq hbw.size) ⟨va,vc,by rw[hL.len],hL.lies.1,hL.lies.2.kept fun q hq=>⟨hq.1,rfl⟩⟩ (by rw[HP.out.2.2.2.1];exact HP.out.2.2.2.2.1.at hbw))
    have HBO:=hH hbw
    clear hch hL hfar n0h hbw hlt hkn hk
    go_wp2_with fail
    refine HSA.out.mono ?_
    rintro e W8 ⟨rfl,hb8⟩
    have BW8:=hH (HBO.out.trans (hb8.mono HBO.out.size))
    rw[Y6]
    clear hb8 x0 x1 x2 x3 n0 n1 n2 n3
    go_wp2_with fail
    refine (vS W8).mono ?_
    rintro e WZ ⟨rfl,hbz⟩
    have HZ:=hH (BW8.out.trans (hbz.mono BW8.out.size))
    clear hbz
    go_wp2_with fail
    go_ret
    exact⟨rfl,HZ.out⟩
end Go.Proofs.YtgkmmnihaiopaaaGreat
namespace Go.Proofs.YtgkmmnihaiopaaaGreat
open Go.ChangeShapes Go.WideShapes Go.ChangeAt Go.RowKit
open Extern.Stop (cell)
theorem zfu {w:World}{a:Addr}{v:Value}(h:w.cell? a=some v):a.block<w.heap.size:=block_lt_of_cell h
theorem J4 (a:Addr)(j:Nat):(a.add j).block=a.block:=by unfold Addr.add;split<;>rfl
def zci:List Tr→Fo
 | []=> .nil
 | t::l=> .node 0 0 (t.id,t.kind,t.text) t.kids (zci l)
theorem zde:∀l:List Tr,foLen (zci l)=l.length
 | []=>rfl
 | _::l=>by simp[zci,foLen,zde l]
theorem zdd:∀l:List Tr,(∀t∈l,foLen t.kids≤9223372036854775807∧qZ t.kids)→qZ (zci l)
 | [],_=>True.intro
 | t::l,h=>⟨(h t (List.mem_cons_self ..)).1,(h t (List.mem_cons_self ..)).2,zdd l fun u hu=>h u (List.mem_cons_of_mem _ hu)⟩
theorem zfA {w:World}{S:Nat→Prop}{b:Nat}(hb:S b):∀(l:List Tr) (off:Nat),(∀i t,l[i]? =some t→∃ka cap,w.cell? ⟨b,off+i*4,none⟩=some (.int .i64 t.id)∧w.cell? ⟨b,off+i*4+1,none⟩=some (.int .i64 t.kind)∧
 w.cell? ⟨b,off+i*4+2,none⟩=some (.string t.text)∧w.cell? ⟨b,off+i*4+3,none⟩=some (.slice ka (foLen t.kids) cap)∧foLen t.kids≤cap∧zt w S t.kids ka)→zt w S (zci l) (some ⟨b,off,none⟩)
 | [],_,_=>True.intro
 | t ::l,off,h=>by
   obtain⟨ka,cap,h0,h1,h2,h3,hcp,hf⟩:=h 0 t rfl
   refine⟨b,off,ka,cap,rfl,hb,by simpa using h0,by simpa using h1,by simpa using h2,by simpa using h3,hcp,hf,zfA hb l (off+4) fun i u hu=>?_⟩
   obtain⟨ka,cap,h0,h1,h2,h3,hcp,hf⟩:=h (i+1) u (by simpa using hu)
   rw[show off+(i+1)*4=off+4+i*4 by omega] at h0 h1 h2 h3
   exact⟨ka,cap,h0,h1,h2,h3,hcp,hf⟩
def Old (w:World):Nat→Prop:=fun k=>k<w.heap.size
def zfK (k:Int×Int×ByteArray):Prop:=(k.2.2.size:Int)≤9223372036854775807∧(Lit.int .i64 k.1).wf=true
def zgu:Fo→Prop
 | .nil=>True
 | .node _ _ k l r=>zfK k∧zgu l∧zgu r
theorem zcD:∀(d:Nat) (f:Fo),zgu f→okF (spF d f)
 | _,.nil,_=>fun x hx=>by cases hx
 | d,.node _ _ k l r,h=>fun x hx=>by
   simp only[spF,List.mem_cons,List.mem_append] at hx
   rcases hx with rfl | hx | hx
   · exact h.1
   · exact zcD (d+1) l h.2.1 x hx
   · exact zcD d r h.2.2 x hx
def Fits (t:Tr):Prop:=foLen t.kids≤9223372036854775807∧qZ t.kids∧zfK (t.id,t.kind,t.text)∧zgu t.kids
theorem zfJ:∀l:List Tr,(∀t∈l,zfK (t.id,t.kind,t.text)∧zgu t.kids)→zgu (zci l)
 | [],_=>True.intro
 | t::l,h=>⟨(h t (List.mem_cons_self ..)).1,(h t (List.mem_cons_self ..)).2,zfJ l fun u hu=>h u (List.mem_cons_of_mem _ hu)⟩
section
variable {H:Type} {enc:TypeId×Value→H} {w:World} {base:Nat} {spare:Nat→Bool} {held:Bool}
theorem open_node7:∀(fuel:Nat) (cs:List Value) (x:DataW H×List MemPlace),DataW.trod enc Tryz.prog w base spare held fuel 27 cs=some x→
 ∃(t:Tr) (ka:Option Addr) (cap:Nat),cs= [.int .i64 t.id,.int .i64 t.kind,.string t.text,.slice ka (foLen t.kids) cap]∧foLen t.kids≤cap∧zt w (Old w) t.kids ka∧Fits t:=by
 intro fuel
 induction fuel using Nat.strongRecOn with
 | ind fuel ih =>
   intro cs x h
   obtain⟨xs,n,hn,_,hl,hlen,hf⟩:=DataW.trod_struct Tryz.underlying27 h
   have h4:Tryz.prog.cellsOf 27=4:=by kernel_rfl
   rw[h4] at hl
   match cs,hl with
   | [c0, c1, c2,c3],_=>
     have k1:Tryz.prog.cellsOf 3=1:=by kernel_rfl
     have k2:Tryz.prog.cellsOf 9=1:=by kernel_rfl
     have k3:Tryz.prog.cellsOf 25=1:=by kernel_rfl
     match xs,hlen with
     | [y0, y1,y2,y3],_=>
       have t0:DataW.trod enc Tryz.prog w base spare held n 3 (([c0,c1,c2,c3].drop 0).take (Tryz.prog.cellsOf 3))=some y0:=hf 0 _ rfl
       have t1:DataW.trod enc Tryz.prog w base spare held n 3 (([c0,c1,c2,c3].drop 1).take (Tryz.prog.cellsOf 3))=some y1:=hf 1 _ rfl
       have t2:DataW.trod enc Tryz.prog w base spare held n 9 (([c0,c1,c2,c3].drop 2).take (Tryz.prog.cellsOf 9))=some y2:=hf 2 _ rfl
       have t3:DataW.trod enc Tryz.prog w base spare held n 25 (([c0,c1,c2,c3].drop 3).take (Tryz.prog.cellsOf 25))=some y3:=hf 3 _ rfl
       simp only[k1,k2,k3,List.drop_zero,List.take_succ_cons,List.take_zero,List.drop_succ_cons] at t0 t1 t2 t3
       obtain⟨id,e0,_,wf0⟩:=DataW.trod_int Tryz.underlying3 t0
       obtain⟨kd,e1,_,_⟩:=DataW.trod_int Tryz.underlying3 t1
       obtain⟨tx,e2,_,hsz⟩:=DataW.trod_string Tryz.underlying9 t2
       have hkey:zfK (id,kd,tx):=⟨by show (tx.size:Int)≤_;unfold maxLen at hsz;omega,wf0⟩
       simp only[List.cons.injEq,and_true] at e0 e1 e2
       subst e0;subst e1;subst e2
       rcases DataW.trod_slice Tryz.underlying25 t3 with ⟨e3,_⟩ | ⟨ad,len,cap,elems,rest,m,hm,e3,_,_,hlc,hcm,_,hi,_⟩
       · simp only[List.cons.injEq,and_true] at e3
         subst e3
         exact⟨⟨id,kd,tx,.nil⟩,none,0,rfl,NlrQ _,True.intro,NzlQ _,True.intro,hkey,True.intro⟩
       · simp only[List.cons.injEq,and_true] at e3
         subst e3
         rw[h4] at hi
         have each:∀i,i<len→∃(u:Tr),∃(ka:Option Addr) (kcap:Nat),w.cell? (ad.add (i*4))=some (.int .i64 u.id)∧w.cell? (ad.add (i*4+1))=some (.int .i64 u.kind)∧w.cell? (ad.add (i*4+2))=some (.string u.text)∧
          w.cell? (ad.add (i*4+3))=some (.slice ka (foLen u.kids) kcap)∧foLen u.kids≤kcap∧zt w (Old w) u.kids ka∧Fits u:=fun i hil=>by
          have h1:=hi i hil
          obtain⟨y,hy⟩:∃y,elems[i]? =some y:=⟨elems[i]'om,List.getElem?_eq_getElem _⟩
          rw[hy,Option.bind_eq_some_iff] at h1
          obtain⟨cs',hc,ht⟩:=h1
          obtain⟨_,_,hat⟩:=World.cells?_some hc
          obtain⟨u,ka,kcap,rfl,hcp,hfo,hft⟩:=ih m om cs' y ht
          have a0:=hat 0 om
          have a1:=hat 1 om
          have a2:=hat 2 om
          have a3:=hat 3 om
          rw[Deep.add_add] at a0 a1 a2 a3
          exact⟨u,ka,kcap,a0,a1,a2,a3,hcp,hfo,hft⟩
         obtain⟨f,hff⟩:=Deep.choose_lt each
         have hls:foLen (zci ((List.range len).map f))=len:=by rw[zde];simp
         refine⟨⟨id,kd,tx,zci ((List.range len).map f)⟩,some ad,cap,by rw[hls],by rw[hls];exact hlc,?_,?_,?_,hkey,?_⟩
         · cases hl0:len with
           | zero=>exact True.intro
           | succ len'=>
             rw[←hl0]
             obtain⟨b,off,spot⟩:=ad
             obtain⟨_,_,hz,_⟩:=hff 0 om
             have hsp:spot=none:=by simpa [Addr.add] using World.cell?_spot hz
             subst hsp
             have hlt:=zfu hz
             rw[J4] at hlt
             refine zfA (show Old w b from hlt) _ off fun i u hu=>?_
             rw[List.getElem?_map,Option.map_eq_some_iff] at hu
             obtain⟨j,hj,rfl⟩:=hu
             obtain⟨hlt',rfl⟩:=List.getElem?_eq_some_iff.1 hj
             simp only[List.length_range] at hlt'
             simp only[List.getElem_range]
             obtain⟨ka,kcap,h0,h1,h2,h3,hcp,hfo,_⟩:=hff i hlt'
             rw[Addr.add_mid] at h0 h1 h2 h3
             exact⟨ka,kcap,h0,by rw[Nat.add_assoc];exact h1,by rw[Nat.add_assoc];exact h2,by rw[Nat.add_assoc];exact h3,hcp,hfo⟩
         · show foLen (zci ((List.range len).map f))≤_
           rw[hls];unfold maxLen at hcm;omega
         · refine zdd _ fun u hu=>?_
           simp only[List.mem_map,List.mem_range] at hu
           obtain⟨i,hil,rfl⟩:=hu
           obtain⟨_,_,_,_,_,_,_,_,hft⟩:=hff i hil
           exact⟨hft.1,hft.2.1⟩
         · refine zfJ _ fun u hu=>?_
           simp only[List.mem_map,List.mem_range] at hu
           obtain⟨i,hil,rfl⟩:=hu
           obtain⟨_,_,_,_,_,_,_,_,hft⟩:=hff i hil
           exact hft.2.2
theorem ze3 (fuel:Nat)(cs:List Value)(x:DataW H×List MemPlace)(h:DataW.trod enc Tryz.prog w base spare held fuel 44 cs=some x):
 ∃(op id par at_:Int) (tx:ByteArray) (u:Tr) (ka:Option Addr) (cap:Nat),cs= [.int .i8 op,.int .i64 id,.int .i64 par,.int .i64 at_,.string tx,.int .i64 u.id,.int .i64 u.kind,.string u.text,.slice ka (foLen u.kids) cap]∧foLen u.kids≤cap∧zt w (Old w) u.kids ka∧Fits u∧((Lit.int .i8 op).wf=true∧(Lit.int .i64 id).wf=true∧(Lit.int .i64 par).wf=true∧(Lit.int .i64 at_).wf=true)∧(tx.size:Int)≤9223372036854775807:=by
 obtain⟨xs,n,_,_,hl,hlen,hf⟩:=DataW.trod_struct Tryz.underlying44 h
 have h9:Tryz.prog.cellsOf 44=9:=by kernel_rfl
 rw[h9] at hl
 match cs,hl with
 | [c0,c1,c2,c3,c4,c5,c6,c7,c8],_=>
   have k1:Tryz.prog.cellsOf 3=1:=by kernel_rfl
   have k2:Tryz.prog.cellsOf 9=1:=by kernel_rfl
   have k3:Tryz.prog.cellsOf 27=4:=by kernel_rfl
   have k4:Tryz.prog.cellsOf 42=1:=by kernel_rfl
   match xs,hlen with
   | [y0,y1,y2,y3,y4,y5],_=>
     have t0:DataW.trod enc Tryz.prog w base spare held n 42 (([c0,c1,c2,c3,c4,c5,c6,c7,c8].drop 0).take (Tryz.prog.cellsOf 42))=some y0:=hf 0 _ rfl
     have t1:DataW.trod enc Tryz.prog w base spare held n 3 (([c0,c1,c2,c3,c4,c5,c6,c7,c8].drop 1).take (Tryz.prog.cellsOf 3))=some y1:=hf 1 _ rfl
     have t2:DataW.trod enc Tryz.prog w base spare held n 3 (([c0,c1,c2,c3,c4,c5,c6,c7,c8].drop 2).take (Tryz.prog.cellsOf 3))=some y2:=hf 2 _ rfl
     have t3:DataW.trod enc Tryz.prog w base spare held n 3 (([c0,c1,c2,c3,c4,c5,c6,c7,c8].drop 3).take (Tryz.prog.cellsOf 3))=some y3:=hf 3 _ rfl
     have t4:DataW.trod enc Tryz.prog w base spare held n 9 (([c0,c1,c2,c3,c4,c5,c6,c7,c8].drop 4).take (Tryz.prog.cellsOf 9))=some y4:=hf 4 _ rfl
     have t5:DataW.trod enc Tryz.prog w base spare held n 27 (([c0,c1,c2,c3,c4,c5,c6,c7,c8].drop 5).take (Tryz.prog.cellsOf 27))=some y5:=hf 5 _ rfl
     simp only[k1,k2,k3,k4,List.drop_zero,List.take_succ_cons,List.take_zero,List.drop_succ_cons] at t0 t1 t2 t3 t4 t5
     obtain⟨op,e0,_,b0⟩:=DataW.trod_int Tryz.underlying42 t0
     obtain⟨id,e1,_,b1⟩:=DataW.trod_int Tryz.underlying3 t1
     obtain⟨pa,e2,_,b2⟩:=DataW.trod_int Tryz.underlying3 t2
     obtain⟨pl,e3,_,b3⟩:=DataW.trod_int Tryz.underlying3 t3
     obtain⟨tx,e4,_,b4⟩:=DataW.trod_string Tryz.underlying9 t4
     obtain⟨u,ka,cap,e5,hcp,hfo,hft⟩:=open_node7 n _ y5 t5
     simp only[List.cons.injEq,and_true] at e0 e1 e2 e3 e4 e5
     obtain⟨rfl,rfl,rfl,rfl⟩:=e5
     subst e0;subst e1;subst e2;subst e3;subst e4
     exact⟨op,id,pa,pl,tx,u,ka,cap,rfl,hcp,hfo,hft,⟨b0,b1,b2,b3⟩,by unfold maxLen at b4;omega⟩
end
end Go.Proofs.YtgkmmnihaiopaaaGreat
namespace Go.Proofs.YtgkmmnihaiopaaaGreat
open Go.ChangeShapes Go.WideShapes Go.ChangeAt Go.RowKit
open Extern.Stop (cell)
section
variable {H:Type} {enc:TypeId×Value→H} {w:World} {base:Nat} {spare:Nat→Bool} {held:Bool}
theorem open_stepsJ (fuel:Nat)(v:Value)(x:DataW H×List MemPlace)(h:DataW.trod enc Tryz.prog w base spare held fuel 28 [v]=some x):
 ∃(vs:List SV) (a:Option Addr) (cap:Nat),v= .slice a vs.length cap∧zb4 w a vs:=by
 rcases Deep.open_slice Tryz.underlying28 h with ⟨hcs,_⟩ | ⟨ad,len,cap,m,n,D,Pl,hcs,_,hl,hm,hmm,_,hi⟩
 · simp only[List.cons.injEq,and_true] at hcs
   subst hcs
   exact⟨[],none,0,rfl,⟨fun k s hs=>by simp at hs,fun x hx=>by simp at hx,fun x hx=>by simp at hx⟩⟩
 · simp only[List.cons.injEq,and_true] at hcs
   subst hcs
   have h9:Tryz.prog.cellsOf 44=9:=by kernel_rfl
   have hle:len≤m:=by rw[hmm];split<;>omega
   rw[h9] at hi
   have each:∀i,i<len→∃(y:SV),(∀j u,(jO y.s y.a y.c)[j]? =some u→w.cell? (ad.add (i*9+j))=some u)∧ZL w y∧zem y.s:=fun i hil=>by
    obtain⟨cs',hc,ht⟩:=hi i om
    obtain⟨_,_,hat⟩:=World.cells?_some hc
    obtain⟨op,id,par,at_,tx,u,ka,kcap,rfl,hcp,hfo,hft,hw,htx⟩:=ze3 n cs' _ ht
    refine⟨⟨⟨op,id,par,at_,tx,u⟩,ka,kcap⟩,fun j u hj=>?_,⟨hcp,hfo.kept fun q hq=>⟨hq,rfl⟩⟩,⟨hw.1,hft.1,hft.2.1,zcD 1 (zm u) ⟨hft.2.2.1,hft.2.2.2,True.intro⟩,htx⟩⟩
    have hj9:j<9:=(List.getElem?_eq_some_iff.1 hj).1
    have:=hat j hj9
    rw[Deep.add_add] at this
    exact this.trans hj
   haveI:Inhabited SV:=⟨⟨zbY,none,0⟩⟩
   obtain⟨f,hff⟩:=Deep.choose_lt each
   have hmem:∀x∈(List.range len).map f,ZL w x∧zem x.s:=fun x hx=>by
    obtain⟨j,hj,rfl⟩:=List.mem_map.1 hx
    obtain⟨_,h1,h2⟩:=hff j (List.mem_range.1 hj)
    exact⟨h1,h2⟩
   refine⟨(List.range len).map f,some ad,cap,by simp,⟨fun k s hs=>?_,fun x hx=>(hmem x hx).1,fun x hx=>(hmem x hx).2⟩⟩
   rw[List.getElem?_map,Option.map_eq_some_iff] at hs
   obtain⟨j,hj,rfl⟩:=hs
   obtain⟨hlt',rfl⟩:=List.getElem?_eq_some_iff.1 hj
   simp only[List.length_range] at hlt'
   simp only[List.getElem_range]
   obtain⟨hz,h1,h2⟩:=hff k hlt'
   obtain⟨b,off,spot⟩:=ad
   obtain⟨hz',_,_⟩:=hff 0 om
   have hz0:=hz' 0 _ rfl
   have hsp:spot=none:=by simpa [Addr.add] using World.cell?_spot hz0
   subst hsp
   have hlt:=zfu hz0
   rw[J4] at hlt
   clear hz0 hz'
   refine⟨b,off,rfl,hlt,fun j u hj=>?_⟩
   have:=hz j u hj
   rw[Addr.add_mid,←Nat.add_assoc] at this
   exact this
end
structure zen (w:World) (v:Value) (t:Tr):Prop where
 at_:zG w (Old w) v t
 fit:Fits t
theorem zen.open {w:World}{v:Value}{t:Tr}(h:zen w v t):∃ta tc,v= .agg #[.int .i64 t.id,.int .i64 t.kind,.string t.text,.slice ta (foLen t.kids) tc]∧yR w t.kids ta tc∧foLen t.kids≤9223372036854775807∧qZ t.kids∧okF (spF 1 (zm t)):=by
 obtain⟨ta,tc,e,h1,h2⟩:=h.at_
 exact⟨ta,tc,e,⟨h1,h2.kept fun q hq=>⟨hq,rfl⟩⟩,h.fit.1,h.fit.2.1,zcD 1 (zm t) ⟨h.fit.2.2.1,h.fit.2.2.2,True.intro⟩⟩
end Go.Proofs.YtgkmmnihaiopaaaGreat
namespace Go.Proofs.YtgkmmnihaiopaaaGreat
open Go.RowKit Go.Shelf
theorem changesBack_fr (w:World)(gv:Value)(g:Gr)(nv:Value)(t:Tr)(pa:List SV)(la:Option Addr)(ca:Nat)(hg:GrV w gv g)(hfg:g.fits)(ht:zG w (Old w) nv t)(hft:Fits t)(ha:zb4 w la pa):
 Calls Tryz.prog 3 #[gv,nv,.slice la pa.length ca] w (zkv w):=by
 obtain⟨ga,gc,rfl,hk⟩:=hg
 obtain⟨ta,tc,rfl,h1,h2,h3,h4⟩:=zen.open ⟨ht,hft⟩
 exact JF w g t ga ta la _ gc _ tc _ ca pa rfl ⟨ga,gc,rfl,hk⟩ hfg rfl h1 h2 h3 h4 rfl ha
end Go.Proofs.YtgkmmnihaiopaaaGreat
