/-
  .
-/
import Derived.Test.YtnikgofkldkdkaaVRNodeQt
import Derived.Test.YtnikgofkldkdkaaNMapQt
set_option maxRecDepth 100000
set_option maxHeartbeats 40000000
namespace Go.Proofs.Ytnikgofkldkdkaa
open Go.RowKit Go.Shelf
attribute [local go_sem] Oper.semAt_some
set_option linter.unusedVariables false
set_option linter.unusedSimpArgs false
theorem Y9 {g:Gr}{L:List Sp}{k:Nat}{x:Sp}(h:kw g [] 0 (L.take k)=none)(hx:L[k]? =some x)(ha:atB g (zU (L.take k)) x.1 (Yo x)=false):kw g [] 0 (L.take (k+1))=none:=by
 rw[List.take_add_one,hx,QG g _ [] 0 _ h]
 simp only[Option.toList_some,List.nil_append,kw]
 rw[inQ (by rw[ha];simp)]
theorem Y8 {g:Gr}{L:List Sp}{k:Nat}{x:Sp}(h:kw g [] 0 (L.take k)=none)(hx:L[k]? =some x)(ha:atB g (zU (L.take k)) x.1 (Yo x)=true):kw g [] 0 L=some k:=by
 have hlt:=(List.getElem?_eq_some_iff.1 hx).1
 have e:L=L.take k++(x::L.drop (k+1)):=by
  have hd:L.drop k=x::L.drop (k+1):=by rw[List.drop_eq_getElem_cons hlt,(List.getElem?_eq_some_iff.1 hx).2]
  rw[←hd,List.take_append_drop]
 have hl:(L.take k).length=k:=by rw[List.length_take];omega
 have h2:=QG g (L.take k) [] 0 (x::L.drop (k+1)) h
 rw[←e] at h2
 rw[h2]
 simp only[List.nil_append,kw]
 rw[ipQ ha,hl,Nat.zero_add]
theorem zik (w:World)(S:Nat→Prop)(gv nv:Value)(g:Gr)(t:Tr)(hg:GrV w gv g)(hf:g.few)(hS:∀x,S x→x<w.heap.size)(ht:zK w S nv t)(hlen:foLen t.kids≤9223372036854775807)(hfit:vB t.kids)(hsz:za t.kids+1≤500000)(hok:okF (spF 1 (zh t))):
 Calls Try.prog 29 #[gv,nv] w (zg1 (Zb g t) w):=by
 obtain⟨ga,gc,rfl,hgk⟩:=hg
 obtain⟨ka,cap,rfl,hcap,hk⟩:=ht
 obtain⟨n,hn⟩:∃n,n=foLen t.kids:=⟨_,rfl⟩
 obtain⟨gn,hgn⟩:∃gn,gn=g.kinds.length:=⟨_,rfl⟩
 rw[←hn,←hgn]
 have kx:((w.alloc (.cells #[.slice ga gn gc,.int .i64 g.root] 24)).alloc (.cells #[.int .i64 t.id,.int .i64 t.kind,.string t.text,.slice ka n cap] 27)).heap[w.heap.size]? =_:=ze [.cells #[.slice ga gn gc,.int .i64 g.root] 24,.cells #[.int .i64 t.id,.int .i64 t.kind,.string t.text,.slice ka n cap] 27] w 0 _ rfl
 have ky:((w.alloc (.cells #[.slice ga gn gc,.int .i64 g.root] 24)).alloc (.cells #[.int .i64 t.id,.int .i64 t.kind,.string t.text,.slice ka n cap] 27)).heap[w.heap.size+1]? =_:=ze [.cells #[.slice ga gn gc,.int .i64 g.root] 24,.cells #[.int .i64 t.id,.int .i64 t.kind,.string t.text,.slice ka n cap] 27] w 1 _ rfl
 have hab:Below w.heap.size w ((w.alloc (.cells #[.slice ga gn gc,.int .i64 g.root] 24)).alloc (.cells #[.int .i64 t.id,.int .i64 t.kind,.string t.text,.slice ka n cap] 27)):=zl [.cells #[.slice ga gn gc,.int .i64 g.root] 24,.cells #[.int .i64 t.id,.int .i64 t.kind,.string t.text,.slice ka n cap] 27] w
 obtain⟨SX,hSX⟩:∃SX:World→Prop,SX=fun X=>Below (w.heap.size+2) ((w.alloc (.cells #[.slice ga gn gc,.int .i64 g.root] 24)).alloc (.cells #[.int .i64 t.id,.int .i64 t.kind,.string t.text,.slice ka n cap] 27)) X:=⟨_,rfl⟩
 have HSx:∀X,SX X→X.cell? ⟨w.heap.size,0,none⟩=some (.slice ga gn gc)∧X.cell? ⟨w.heap.size,1,none⟩=some (.int .i64 g.root)∧uf1 X (w.heap.size+1) t.id t.kind t.text ka n cap:=fun X h=>by
  exact sg1
 have HS:=hH (show SX ((w.alloc (.cells #[.slice ga gn gc,.int .i64 g.root] 24)).alloc (.cells #[.int .i64 t.id,.int .i64 t.kind,.string t.text,.slice ka n cap] 27)) by rw[hSX];exact BrQ _ _)
 have HSB:=hH (fun (X Y:World) (h:SX X) (hb:Below X.heap.size X Y)=>(show SX Y by rw[hSX] at h ⊢;exact h.trans (hb.mono (by have:=h.size;simp at this;omega))))
 have hwX:∀X,SX X→Below w.heap.size w X:=fun X h=>by rw[hSX] at h;exact hab.trans (h.mono om)
 have hgX:∀X,SX X→GrV X (.agg #[.slice ga gn gc,.int .i64 g.root]) g:=fun X h=>⟨ga,gc,by rw[hgn],hgk.below (hwX X h)⟩
 have htX:∀X,SX X→zK X S (.agg #[.int .i64 t.id,.int .i64 t.kind,.string t.text,.slice ka n cap]) t:=fun X h=>⟨ka,cap,by rw[hn],hcap,hk.below (hwX X h) hS⟩
 have hSXl:∀X,SX X→∀y,S y→y<X.heap.size:=fun X h y hy=>nL (hS y hy) (hwX X h).size
 have HCK:Hid (∀X,SX X→Calls Try.prog 28 #[.agg #[.slice ga gn gc,.int .i64 g.root]] X (qB (QL (vg g)) X)):=hH fun X h=>yG X _ g (hgX X h) hf
 have HWA:Hid (∀X,SX X→Calls Try.prog 6 #[.agg #[.int .i64 t.id,.int .i64 t.kind,.string t.text,.slice ka n cap],.int .i64 201] X (WalkM X S t 201)):=hH fun X h=>Yj 201 om X S _ t hlen hfit (hSXl X h) (htX X h)
 have HFIN:=hH hwX
 have HGX:=hH hgX
 have HSL:=hH hSXl
 have HOK:=hH hok
 have HFEW:=hH hf
 have HZ:=hH hsz
 obtain⟨ck,hck⟩:∃ck,ck=vg g:=⟨_,rfl⟩
 have HK:=hH hck
 rw[←hck] at HCK
 clear hS hcap hk hn hgn hf hgk hsz hok kx ky hab hSX hwX hgX htX hSXl hck hlen hfit
 cases ck
 · have HB:=hH (show Zb g t=(0,50) by rw[Zb,←HK.out];rfl)
   rw[show QL false=50 from rfl] at HCK
   go_enter Try.func29,Try.ntmps29
   exact se2
 rw[show QL true=0 from rfl] at HCK
 go_enter Try.func29,Try.ntmps29
 go_wp2_with (go_at_call 28;refine (HCK.out _ HS.out).mono ?_;rintro e w2 ⟨rfl,hb⟩;have HS2:=hH (HSB.out _ w2 HS.out hb);obtain⟨p0,p1,p2,p3,p4,p5⟩:=HSx w2 HS2.out;clear hb)
 go_at_call 6
 refine (HWA.out _ HS2.out).mono ?_
 rintro e w3 ⟨la,lc,rfl,hsp,hb⟩
 have HS3:=hH (HSB.out _ w3 HS2.out hb);obtain⟨q0,q1,q2,q3,q4,q5⟩:=HSx w3 HS3.out;clear hb
 clear p0 p1 p2 p3 p4 p5
 obtain⟨q,hq⟩:∃q,q=((spF 1 (zh t)).take 201).length:=⟨_,rfl⟩
 rw[←hq] at hsp ⊢
 have hqs:=hq
 rw[List.length_take,vL,yH] at hqs
 by_cases h200:200<q
 · have hql:(200:Int)<(q:Int):=by omega
   have HB:=hH (show Zb g t=(0,70) by rw[Zb,←HK.out,ipQ rfl,ipQ om])
   clear hsp hq hqs
   exact sg9
 have hlt:(spF 1 (zh t)).take 201=spF 1 (zh t):=List.take_of_length_le (by rw[vL,yH];omega)
 rw[hlt] at hsp hq
 have HS200:=hH (show ¬200<za t.kids+1 by omega)
 have HSP:=hH (aN hsp (aN hq (show q≤200 by omega)))
 have hql:¬(200:Int)<(q:Int):=by omega
 clear hsp hq hlt hqs h200 q0 q1 q2 q3 q4 q5
 go_wp2_with fail
 go_loopw [7] (fun i wr=>∃k:Nat,k≤q∧i= .int .i64 (k:Int)∧Hid (Below w3.heap.size w3 wr∧kw g [] 0 ((spF 1 (zh t)).take k)=none)) (fun i _=>q - (intOf i).toNat)
 case atStart=>exact⟨0,NzlQ _,rfl,hH ⟨BrQ _ _,rfl⟩⟩
 case round =>
  obtain⟨wo,hwo⟩:∃wo,wo=wr:=⟨_,rfl⟩
  subst hwo
  obtain⟨k,hk,rfl,hr⟩:=hrel
  by_cases hlt:k<q
  · obtain ⟨x,hx⟩:∃x,(spF 1 (zh t))[k]? =some x:=⟨_,List.getElem?_eq_getElem (by rw[←HSP.out.2.1];exact hlt)⟩
    have hxm:=List.mem_of_getElem? hx
    obtain⟨gg,rfl,hgl,c0,c1,c2,⟨xa,xc,c3,hxc,hxk⟩,c4⟩:=Z5 HSP.out.1 hx
    obtain⟨x0,hx0⟩:∃x0,x0=x.2.1.1:=⟨_,rfl⟩
    obtain⟨x1,hx1⟩:∃x1,x1=x.2.1.2.1:=⟨_,rfl⟩
    obtain⟨x2,hx2⟩:∃x2,x2=x.2.1.2.2:=⟨_,rfl⟩
    obtain⟨xn,hxn⟩:∃xn,xn=foLen x.2.2:=⟨_,rfl⟩
    obtain⟨d,hd⟩:∃d,d=x.1:=⟨_,rfl⟩
    rw[←hx0] at c0;rw[←hx1] at c1;rw[←hx2] at c2;rw[←hxn] at c3;rw[←hd] at c4
    have hbl:=hr.out.1
    have c0:=(hbl.cell (p:=⟨gg,k*5,none⟩) hgl).trans c0
    have c1:=(hbl.cell (p:=⟨gg,k*5+1,none⟩) hgl).trans c1
    have c2:=(hbl.cell (p:=⟨gg,k*5+2,none⟩) hgl).trans c2
    have c3:=(hbl.cell (p:=⟨gg,k*5+3,none⟩) hgl).trans c3
    have c4:=(hbl.cell (p:=⟨gg,k*5+4,none⟩) hgl).trans c4
    have hbx:Below wo.heap.size wo (wo.alloc (.cells #[.int .i64 x0,.int .i64 x1,.string x2,.slice xa xn xc] 27)):=(BrQ _ _).alloc (NlrQ _) _
    have hbw:=hbl.trans (hbx.mono hbl.size)
    have e4:(wo.alloc (.cells #[.int .i64 x0,.int .i64 x1,.string x2,.slice xa xn xc] 27)).cell? ⟨gg,k*5+4,none⟩=some (.int .i64 (d:Int)):=(hbx.cell (p:=⟨gg,k*5+4,none⟩) (nL hgl hbl.size)).trans c4
    have hnew:=hanQ wo (.cells #[.int .i64 x0,.int .i64 x1,.string x2,.slice xa xn xc] 27)
    obtain⟨z0,z1,z2,z3⟩:=ziM hnew
    have hsx:=HSB.out _ _ HS3.out hbw
    obtain⟨g0,g1,_,_,_,_⟩:=HSx _ hsx
    have hszx:=(Zv 1 _ _ hxm).1
    rw[yH] at hszx
    have h5:=HZ.out
    obtain⟨nb,hnb⟩:∃nb,nb=kU g (Yo x):=⟨_,rfl⟩
    have HND:Hid (Calls Try.prog 45 #[.agg #[.slice ga gn gc,.int .i64 g.root],.agg #[.int .i64 x0,.int .i64 x1,.string x2,.slice xa xn xc]] (wo.alloc (.cells #[.int .i64 x0,.int .i64 x1,.string x2,.slice xa xn xc] 27)) (Says nb (wo.alloc (.cells #[.int .i64 x0,.int .i64 x1,.string x2,.slice xa xn xc] 27)))):=hH (by
     have:=zgi (wo.alloc (.cells #[.int .i64 x0,.int .i64 x1,.string x2,.slice xa xn xc] 27)) S (.agg #[.slice ga gn gc,.int .i64 g.root]) g (.agg #[.int .i64 x0,.int .i64 x1,.string x2,.slice xa xn xc]) (Yo x) (HGX.out _ hsx) HFEW.out (HSL.out _ hsx) ⟨xa,xc,by rw[hx0,hx1,hx2,hxn];rfl,hxc,hxk.below hbw (HSL.out _ HS3.out)⟩ (by have:=zM x.2.2;show foLen x.2.2≤1000000;omega) (HOK.out x hxm).1
     rw[←hnb] at this;exact this)
    have HBW:=hH hbw
    have HAT:=hH (show ∀l,atB g l x.1 (Yo x)=(decide (32<d) || (decide (x0<1) || decide (1125899906842624<x0)) || l.any (· == x0) || !nb) from fun l=>by rw[hd,hx0,hnb];rfl)
    have HLT:=hH hlt
    have HX:=hH hx
    have HBA:=hH hr.out.2
    have HGL:=hH hgl
    have HZS:=hH (show wo.heap.size<(wo.alloc (.cells #[.int .i64 x0,.int .i64 x1,.string x2,.slice xa xn xc] 27)).heap.size by simp)
    have hkl:(k:Int)<(q:Int):=by omega
    clear hr hxm hx hgl hxc hxk hx0 hx1 hx2 hxn hd hbl hbx hbw hnew hsx hszx h5 hnb hk hlt
    by_cases h32:32<d
    · have hd:(32:Int)<(d:Int):=by omega
      have HBB:=hH (show ∀l:List Int,atB g l x.1 (Yo x)=(true || l.any (· == x0)) from fun l=>by rw[HAT.out,decide_eq_true h32];simp)
      clear h32
      go_wp2_with fail
      have HWB:=hH (aN HBW.out (aN z0 HZS.out))
      clear c0 c1 c2 c3 c4 e4 z0 z1 z2 z3 g0 g1
      go_loopw [9,10] (fun v j wr2=>∃m:Nat,∃bv:Bool,m≤k∧j= .int .i64 (m:Int)∧v= .bool bv∧bv=(true || ((zU (spF 1 (zh t))).take m).any (· == x0))∧Hid (Below (wo.alloc (.cells #[.int .i64 x0,.int .i64 x1,.string x2,.slice xa xn xc] 27)).heap.size (wo.alloc (.cells #[.int .i64 x0,.int .i64 x1,.string x2,.slice xa xn xc] 27)) wr2)) (fun _ j _=>k - (intOf j).toNat)
      case atStart=>exact⟨0,_,NzlQ _,rfl,rfl,by simp,hH (BrQ _ _)⟩
      case round=>
       exact sa4
    · have hd:¬(32:Int)<(d:Int):=by omega
      by_cases h1:x0<1
      · have HBB:=hH (show ∀l:List Int,atB g l x.1 (Yo x)=(true || l.any (· == x0)) from fun l=>by rw[HAT.out,decide_eq_true h1];simp)
        clear h32
        go_wp2_with fail
        have HWB:=hH (aN HBW.out (aN z0 HZS.out))
        clear c0 c1 c2 c3 c4 e4 z0 z1 z2 z3 g0 g1
        go_loopw [9,10] (fun v j wr2=>∃m:Nat,∃bv:Bool,m≤k∧j= .int .i64 (m:Int)∧v= .bool bv∧bv=(true || ((zU (spF 1 (zh t))).take m).any (· == x0))∧Hid (Below (wo.alloc (.cells #[.int .i64 x0,.int .i64 x1,.string x2,.slice xa xn xc] 27)).heap.size (wo.alloc (.cells #[.int .i64 x0,.int .i64 x1,.string x2,.slice xa xn xc] 27)) wr2)) (fun _ j _=>k - (intOf j).toNat)
        case atStart=>exact⟨0,_,NzlQ _,rfl,rfl,by simp,hH (BrQ _ _)⟩
        case round=>
         exact sa4
      · by_cases hM:1125899906842624<x0
        · have HBB:=hH (show ∀l:List Int,atB g l x.1 (Yo x)=(true || l.any (· == x0)) from fun l=>by rw[HAT.out,decide_eq_true hM];simp)
          clear h32
          go_wp2_with fail
          have HWB:=hH (aN HBW.out (aN z0 HZS.out))
          clear c0 c1 c2 c3 c4 e4 z0 z1 z2 z3 g0 g1
          go_loopw [9,10] (fun v j wr2=>∃m:Nat,∃bv:Bool,m≤k∧j= .int .i64 (m:Int)∧v= .bool bv∧bv=(true || ((zU (spF 1 (zh t))).take m).any (· == x0))∧Hid (Below (wo.alloc (.cells #[.int .i64 x0,.int .i64 x1,.string x2,.slice xa xn xc] 27)).heap.size (wo.alloc (.cells #[.int .i64 x0,.int .i64 x1,.string x2,.slice xa xn xc] 27)) wr2)) (fun _ j _=>k - (intOf j).toNat)
          case atStart=>exact⟨0,_,NzlQ _,rfl,rfl,by simp,hH (BrQ _ _)⟩
          case round=>
           exact sa4
        · have HBB:=hH (show ∀l:List Int,atB g l x.1 (Yo x)=((!nb) || l.any (· == x0)) from fun l=>by rw[HAT.out,decide_eq_false h32,decide_eq_false h1,decide_eq_false hM];simp[Bool.or_comm])
          clear h32
          go_wp2_with (go_at_call 45;refine HND.out.mono ?_;rintro e w6 ⟨rfl,hb⟩;have HWB:=hH (aN (HBW.out.trans (hb.mono HBW.out.size)) (aN ((hb.cell (p:=⟨wo.heap.size,0,none⟩) HZS.out).trans z0) (nL HZS.out hb.size)));clear hb c0 c1 c2 c3 c4 e4 z0 z1 z2 z3 g0 g1)
          go_loopw [9,10] (fun v j wr2=>∃m:Nat,∃bv:Bool,m≤k∧j= .int .i64 (m:Int)∧v= .bool bv∧bv=((!nb) || ((zU (spF 1 (zh t))).take m).any (· == x0))∧Hid (Below w6.heap.size w6 wr2)) (fun _ j _=>k - (intOf j).toNat)
          case atStart=>exact⟨0,_,NzlQ _,rfl,rfl,by simp,hH (BrQ _ _)⟩
          case round=>
           exact sa4
  · have hkl:¬(k:Int)<(q:Int):=by omega
    have hkq:k=q:=by omega
    subst hkq
    have HB:=hH (show Zb g t=(0,0) by
     have h:=hr.out.2
     rw[List.take_of_length_le (by rw[←HSP.out.2.1];omega)] at h
     rw[Zb,←HK.out,ipQ rfl,inQ HS200.out,QM,h])
    have HS6:=hH (HSB.out _ _ HS3.out hr.out.1)
    clear hr hk hlt
    go_wp2_with fail
    go_ret2
    exact⟨by rw[HB.out];rfl,HFIN.out _ HS6.out⟩
end Go.Proofs.Ytnikgofkldkdkaa
