/-
  .
-/
import Derived.Test.YtgkmmnihaiopaaaGreatVRNodeQu
import Derived.Test.YtgkmmnihaiopaaaGreatRParPQu
import Derived.Test.YtgkmmnihaiopaaaGreatKPlacePQu
import Derived.Deep.QuietTactic
import Derived.BigQuiet
import Derived.Test.YtgkmmnihaiopaaaGreatRApplyQu
import Derived.Test.YtgkmmnihaiopaaaGreatJPgQu
import Derived.Test.YtgkmmnihaiopaaaGreatJPsQu
set_option maxRecDepth 100000
set_option maxHeartbeats 40000000
set_option linter.unusedVariables false
set_option linter.unusedSimpArgs false
namespace Go.Proofs.YtgkmmnihaiopaaaGreat
open Go.RowKit Go.Shelf
attribute [local go_sem] Oper.semAt_some
theorem YU {g:Gr} {L:List Sp} {k:Nat} {x:Sp} (h:qZ g [] 0 (L.take k)=none) (hx:L[k]? =some x) (ha:atB g (zO (L.take k)) x.1 (kR x)=false):qZ g [] 0 (L.take (k+1))=none:=by
 rw[List.take_add_one,hx,kr g _ [] 0 _ h]
 simp only[Option.toList_some,List.nil_append,qZ]
 rw[if_neg (by rw[ha];simp)]
theorem YT {g:Gr} {L:List Sp} {k:Nat} {x:Sp} (h:qZ g [] 0 (L.take k)=none) (hx:L[k]? =some x) (ha:atB g (zO (L.take k)) x.1 (kR x)=true):qZ g [] 0 L=some k:=by
 have hlt:=(List.getElem?_eq_some_iff.1 hx).1
 have e:L=L.take k++(x::L.drop (k+1)):=by
  have hd:L.drop k=x::L.drop (k+1):=by rw[List.drop_eq_getElem_cons hlt,(List.getElem?_eq_some_iff.1 hx).2]
  rw[←hd,List.take_append_drop]
 have hl:(L.take k).length=k:=by rw[List.length_take];omega
 have h2:=kr g (L.take k) [] 0 (x::L.drop (k+1)) h
 rw[←e] at h2
 rw[h2]
 simp only[List.nil_append,qZ]
 rw[if_pos ha,hl,Nat.zero_add]
theorem zhx (w:World) (S:Nat→Prop) (gv nv:Value) (g:Gr) (t:Tr) (hg:GrV w gv g) (hf:g.few) (hS:∀x,S x→x<w.heap.size) (ht:zJ w S nv t) (hlen:foLen t.kids≤9223372036854775807) (hfit:qD t.kids) (hsz:zg t.kids+1≤500000) (hok:okF (spF 1 (zl t))):
 Calls Tryz.prog 20 #[gv,nv] w (YQ (vK g t) w):=by
 obtain⟨ga,gc,rfl,hgk⟩:=hg
 obtain⟨ka,cap,rfl,hcap,hk⟩:=ht
 obtain⟨n,hn⟩:∃n,n=foLen t.kids:=⟨_,rfl⟩
 obtain⟨gn,hgn⟩:∃gn,gn=g.kinds.length:=⟨_,rfl⟩
 rw[←hn,←hgn]
 have kx:((w.alloc (.cells #[.slice ga gn gc,.int .i64 g.root] 24)).alloc (.cells #[.int .i64 t.id,.int .i64 t.kind,.string t.text,.slice ka n cap] 27)).heap[w.heap.size]? =_:=zi [.cells #[.slice ga gn gc,.int .i64 g.root] 24,.cells #[.int .i64 t.id,.int .i64 t.kind,.string t.text,.slice ka n cap] 27] w 0 _ rfl
 have ky:((w.alloc (.cells #[.slice ga gn gc,.int .i64 g.root] 24)).alloc (.cells #[.int .i64 t.id,.int .i64 t.kind,.string t.text,.slice ka n cap] 27)).heap[w.heap.size+1]? =_:=zi [.cells #[.slice ga gn gc,.int .i64 g.root] 24,.cells #[.int .i64 t.id,.int .i64 t.kind,.string t.text,.slice ka n cap] 27] w 1 _ rfl
 have hab:Below w.heap.size w ((w.alloc (.cells #[.slice ga gn gc,.int .i64 g.root] 24)).alloc (.cells #[.int .i64 t.id,.int .i64 t.kind,.string t.text,.slice ka n cap] 27)):=zm [.cells #[.slice ga gn gc,.int .i64 g.root] 24,.cells #[.int .i64 t.id,.int .i64 t.kind,.string t.text,.slice ka n cap] 27] w
 obtain⟨SX,hSX⟩:∃SX:World→Prop,SX=fun X=>Below (w.heap.size+2) ((w.alloc (.cells #[.slice ga gn gc,.int .i64 g.root] 24)).alloc (.cells #[.int .i64 t.id,.int .i64 t.kind,.string t.text,.slice ka n cap] 27)) X:=⟨_,rfl⟩
 have HSx:∀X,SX X→X.cell? ⟨w.heap.size,0,none⟩=some (.slice ga gn gc)∧X.cell? ⟨w.heap.size,1,none⟩=some (.int .i64 g.root)∧X.cell? ⟨w.heap.size+1,0,none⟩=some (.int .i64 t.id)∧X.cell? ⟨w.heap.size+1,1,none⟩=some (.int .i64 t.kind)∧X.cell? ⟨w.heap.size+1,2,none⟩=some (.string t.text)∧X.cell? ⟨w.heap.size+1,3,none⟩=some (.slice ka n cap):=fun X h=>by
  exact sc8
 have HS:=hH (show SX ((w.alloc (.cells #[.slice ga gn gc,.int .i64 g.root] 24)).alloc (.cells #[.int .i64 t.id,.int .i64 t.kind,.string t.text,.slice ka n cap] 27)) by rw[hSX];exact BrQ _ _)
 have HSB:=hH (fun (X Y:World) (h:SX X) (hb:Below X.heap.size X Y)=>(show SX Y by rw[hSX] at h ⊢;exact h.trans (hb.mono (by have:=h.size;simp at this;omega))))
 have hwX:∀X,SX X→Below w.heap.size w X:=fun X h=>by rw[hSX] at h;exact hab.trans (h.mono om)
 have hgX:∀X,SX X→GrV X (.agg #[.slice ga gn gc,.int .i64 g.root]) g:=fun X h=>⟨ga,gc,by rw[hgn],hgk.below (hwX X h)⟩
 have htX:∀X,SX X→zJ X S (.agg #[.int .i64 t.id,.int .i64 t.kind,.string t.text,.slice ka n cap]) t:=fun X h=>⟨ka,cap,by rw[hn],hcap,hk.below (hwX X h) hS⟩
 have hSXl:∀X,SX X→∀y,S y→y<X.heap.size:=fun X h y hy=>nL (hS y hy) (hwX X h).size
 have HCK:Hid (∀X,SX X→Calls Tryz.prog 19 #[.agg #[.slice ga gn gc,.int .i64 g.root]] X (yU (kY (qz g)) X)):=hH fun X h=>yt X _ g (hgX X h) hf
 have HWA:Hid (∀X,SX X→Calls Tryz.prog 18 #[.agg #[.int .i64 t.id,.int .i64 t.kind,.string t.text,.slice ka n cap],.int .i64 201] X (WalkM X S t 201)):=hH fun X h=>kT 201 om X S _ t hlen hfit (hSXl X h) (htX X h)
 have HFIN:=hH hwX
 have HGX:=hH hgX
 have HSL:=hH hSXl
 have HOK:=hH hok
 have HFEW:=hH hf
 have HZ:=hH hsz
 obtain⟨ck,hck⟩:∃ck,ck=qz g:=⟨_,rfl⟩
 have HK:=hH hck
 rw[←hck] at HCK
 clear hS hcap hk hn hgn hf hgk hsz hok kx ky hab hSX hwX hgX htX hSXl hck hlen hfit
 cases ck
 · have HB:=hH (show vK g t=(0,50) by rw[vK,←HK.out];rfl)
   rw[show kY false=50 from rfl] at HCK
   go_enter Tryz.func20,Tryz.ntmps20
   exact se8
 rw[show kY true=0 from rfl] at HCK
 go_enter Tryz.func20,Tryz.ntmps20
 go_wp2_with (go_at_call 19;refine (HCK.out _ HS.out).mono ?_;rintro e w2 ⟨rfl,hb⟩;have HS2:=hH (HSB.out _ w2 HS.out hb);obtain⟨p0,p1,p2,p3,p4,p5⟩:=HSx w2 HS2.out;clear hb)
 go_at_call 18
 refine (HWA.out _ HS2.out).mono ?_
 rintro e w3 ⟨la,lc,rfl,hsp,hb⟩
 have HS3:=hH (HSB.out _ w3 HS2.out hb);obtain⟨q0,q1,q2,q3,q4,q5⟩:=HSx w3 HS3.out;clear hb
 clear p0 p1 p2 p3 p4 p5
 obtain⟨q,hq⟩:∃q,q=((spF 1 (zl t)).take 201).length:=⟨_,rfl⟩
 rw[←hq] at hsp ⊢
 have hqs:=hq
 rw[List.length_take,yE,zL] at hqs
 by_cases h200:200<q
 · have hql:(200:Int)<(q:Int):=by omega
   have HB:=hH (show vK g t=(0,70) by rw[vK,←HK.out,if_pos rfl,if_pos om])
   clear hsp hq hqs
   go_wp2_with fail
   go_ret2
   exact⟨by rw[HB.out];rfl,HFIN.out _ HS3.out⟩
 have hlt:(spF 1 (zl t)).take 201=spF 1 (zl t):=List.take_of_length_le (by rw[yE,zL];omega)
 rw[hlt] at hsp hq
 have HS200:=hH (show ¬200<zg t.kids+1 by omega)
 have HSP:=hH (aN hsp (aN hq (show q≤200 by omega)))
 have hql:¬(200:Int)<(q:Int):=by omega
 clear hsp hq hlt hqs h200 q0 q1 q2 q3 q4 q5
 go_wp2_with fail
 go_loopw [7] (fun i wr=>∃k:Nat,k≤q∧i= .int .i64 (k:Int)∧Hid (Below w3.heap.size w3 wr∧qZ g [] 0 ((spF 1 (zl t)).take k)=none)) (fun i _=>q - (intOf i).toNat)
 case atStart=>exact⟨0,Nat.zero_le _,rfl,hH ⟨BrQ _ _,rfl⟩⟩
 case round =>
  obtain⟨wo,hwo⟩:∃wo,wo=wr:=⟨_,rfl⟩
  subst hwo
  obtain⟨k,hk,rfl,hr⟩:=hrel
  by_cases hlt:k<q
  · obtain ⟨x,hx⟩:∃x,(spF 1 (zl t))[k]? =some x:=⟨_,List.getElem?_eq_getElem (by rw[←HSP.out.2.1];exact hlt)⟩
    have hxm:=List.mem_of_getElem? hx
    obtain⟨gg,rfl,hgl,c0,c1,c2,⟨xa,xc,c3,hxc,hxk⟩,c4⟩:=kP HSP.out.1 hx
    obtain⟨x0,hx0⟩:∃x0,x0=x.2.1.1:=⟨_,rfl⟩
    obtain⟨x1,hx1⟩:∃x1,x1=x.2.1.2.1:=⟨_,rfl⟩
    obtain⟨x2,hx2⟩:∃x2,x2=x.2.1.2.2:=⟨_,rfl⟩
    obtain⟨xn,hxn⟩:∃xn,xn=foLen x.2.2:=⟨_,rfl⟩
    obtain⟨d,hd⟩:∃d,d=x.1:=⟨_,rfl⟩
    rw[←hx0] at c0;rw[←hx1] at c1;rw[←hx2] at c2;rw[←hxn] at c3;rw[←hd] at c4
    have hbl:=hr.out.1
    have c0:=(hbl.cell (p:=⟨gg,k*5,none⟩) hgl).trans c0
    have c1:=(hbl.cell (p:=⟨gg,k*5+1,none⟩) hgl).trans c1
    have c2:=(hbl.cell (p:=⟨gg,k*5+2,none⟩) hgl).trans c2
    have c3:=(hbl.cell (p:=⟨gg,k*5+3,none⟩) hgl).trans c3
    have c4:=(hbl.cell (p:=⟨gg,k*5+4,none⟩) hgl).trans c4
    have hbx:Below wo.heap.size wo (wo.alloc (.cells #[.int .i64 x0,.int .i64 x1,.string x2,.slice xa xn xc] 27)):=(BrQ _ _).alloc (Nat.le_refl _) _
    have hbw:=hbl.trans (hbx.mono hbl.size)
    have e4:(wo.alloc (.cells #[.int .i64 x0,.int .i64 x1,.string x2,.slice xa xn xc] 27)).cell? ⟨gg,k*5+4,none⟩=some (.int .i64 (d:Int)):=(hbx.cell (p:=⟨gg,k*5+4,none⟩) (nL hgl hbl.size)).trans c4
    have hnew:=hanQ wo (.cells #[.int .i64 x0,.int .i64 x1,.string x2,.slice xa xn xc] 27)
    obtain⟨z0,z1,z2,z3⟩:=zdG hnew
    have hsx:=HSB.out _ _ HS3.out hbw
    obtain⟨g0,g1,_,_,_,_⟩:=HSx _ hsx
    have hszx:=(jr 1 _ _ hxm).1
    rw[zL] at hszx
    have h5:=HZ.out
    obtain⟨nb,hnb⟩:∃nb,nb=jf g (kR x):=⟨_,rfl⟩
    have HND:Hid (Calls Tryz.prog 41 #[.agg #[.slice ga gn gc,.int .i64 g.root],.agg #[.int .i64 x0,.int .i64 x1,.string x2,.slice xa xn xc]] (wo.alloc (.cells #[.int .i64 x0,.int .i64 x1,.string x2,.slice xa xn xc] 27)) (Says nb (wo.alloc (.cells #[.int .i64 x0,.int .i64 x1,.string x2,.slice xa xn xc] 27)))):=hH (by
     have:=zfU (wo.alloc (.cells #[.int .i64 x0,.int .i64 x1,.string x2,.slice xa xn xc] 27)) S (.agg #[.slice ga gn gc,.int .i64 g.root]) g (.agg #[.int .i64 x0,.int .i64 x1,.string x2,.slice xa xn xc]) (kR x) (HGX.out _ hsx) HFEW.out (HSL.out _ hsx) ⟨xa,xc,by rw[hx0,hx1,hx2,hxn];rfl,hxc,hxk.below hbw (HSL.out _ HS3.out)⟩ (by have:=zK x.2.2;show foLen x.2.2≤1000000;omega) (HOK.out x hxm).1
     rw[←hnb] at this;exact this)
    have HBW:=hH hbw
    have HAT:=hH (show ∀l,atB g l x.1 (kR x)=(decide (32<d) || (decide (x0<1) || decide (1125899906842624<x0)) || l.any (· == x0) || !nb) from fun l=>by rw[hd,hx0,hnb];rfl)
    have HLT:=hH hlt
    have HX:=hH hx
    have HBA:=hH hr.out.2
    have HGL:=hH hgl
    have HZS:=hH (show wo.heap.size<(wo.alloc (.cells #[.int .i64 x0,.int .i64 x1,.string x2,.slice xa xn xc] 27)).heap.size by simp)
    have hkl:(k:Int)<(q:Int):=by omega
    clear hr hxm hx hgl hxc hxk hx0 hx1 hx2 hxn hd hbl hbx hbw hnew hsx hszx h5 hnb hk hlt
    by_cases h32:32<d
    · have hd:(32:Int)<(d:Int):=by omega
      have HBB:=hH (show ∀l:List Int,atB g l x.1 (kR x)=(true || l.any (· == x0)) from fun l=>by rw[HAT.out,decide_eq_true h32];simp)
      clear h32
      go_wp2_with fail
      have HWB:=hH (aN HBW.out (aN z0 HZS.out))
      clear c0 c1 c2 c3 c4 e4 z0 z1 z2 z3 g0 g1
      go_loopw [9,10] (fun v j wr2=>∃m:Nat,∃bv:Bool,m≤k∧j= .int .i64 (m:Int)∧v= .bool bv∧bv=(true || ((zO (spF 1 (zl t))).take m).any (· == x0))∧Hid (Below (wo.alloc (.cells #[.int .i64 x0,.int .i64 x1,.string x2,.slice xa xn xc] 27)).heap.size (wo.alloc (.cells #[.int .i64 x0,.int .i64 x1,.string x2,.slice xa xn xc] 27)) wr2)) (fun _ j _=>k - (intOf j).toNat)
      case atStart=>exact⟨0,_,Nat.zero_le _,rfl,rfl,by simp,hH (BrQ _ _)⟩
      case round=>
       exact sa4
    · have hd:¬(32:Int)<(d:Int):=by omega
      by_cases h1:x0<1
      · have HBB:=hH (show ∀l:List Int,atB g l x.1 (kR x)=(true || l.any (· == x0)) from fun l=>by rw[HAT.out,decide_eq_true h1];simp)
        clear h32
        go_wp2_with fail
        have HWB:=hH (aN HBW.out (aN z0 HZS.out))
        clear c0 c1 c2 c3 c4 e4 z0 z1 z2 z3 g0 g1
        go_loopw [9,10] (fun v j wr2=>∃m:Nat,∃bv:Bool,m≤k∧j= .int .i64 (m:Int)∧v= .bool bv∧bv=(true || ((zO (spF 1 (zl t))).take m).any (· == x0))∧Hid (Below (wo.alloc (.cells #[.int .i64 x0,.int .i64 x1,.string x2,.slice xa xn xc] 27)).heap.size (wo.alloc (.cells #[.int .i64 x0,.int .i64 x1,.string x2,.slice xa xn xc] 27)) wr2)) (fun _ j _=>k - (intOf j).toNat)
        case atStart=>exact⟨0,_,Nat.zero_le _,rfl,rfl,by simp,hH (BrQ _ _)⟩
        case round=>
         exact sa4
      · by_cases hM:1125899906842624<x0
        · have HBB:=hH (show ∀l:List Int,atB g l x.1 (kR x)=(true || l.any (· == x0)) from fun l=>by rw[HAT.out,decide_eq_true hM];simp)
          clear h32
          go_wp2_with fail
          have HWB:=hH (aN HBW.out (aN z0 HZS.out))
          clear c0 c1 c2 c3 c4 e4 z0 z1 z2 z3 g0 g1
          go_loopw [9,10] (fun v j wr2=>∃m:Nat,∃bv:Bool,m≤k∧j= .int .i64 (m:Int)∧v= .bool bv∧bv=(true || ((zO (spF 1 (zl t))).take m).any (· == x0))∧Hid (Below (wo.alloc (.cells #[.int .i64 x0,.int .i64 x1,.string x2,.slice xa xn xc] 27)).heap.size (wo.alloc (.cells #[.int .i64 x0,.int .i64 x1,.string x2,.slice xa xn xc] 27)) wr2)) (fun _ j _=>k - (intOf j).toNat)
          case atStart=>exact⟨0,_,Nat.zero_le _,rfl,rfl,by simp,hH (BrQ _ _)⟩
          case round=>
           exact sa4
        · have HBB:=hH (show ∀l:List Int,atB g l x.1 (kR x)=((!nb) || l.any (· == x0)) from fun l=>by rw[HAT.out,decide_eq_false h32,decide_eq_false h1,decide_eq_false hM];simp[Bool.or_comm])
          clear h32
          go_wp2_with (go_at_call 41;refine HND.out.mono ?_;rintro e w6 ⟨rfl,hb⟩;have HWB:=hH (aN (HBW.out.trans (hb.mono HBW.out.size)) (aN ((hb.cell (p:=⟨wo.heap.size,0,none⟩) HZS.out).trans z0) (nL HZS.out hb.size)));clear hb c0 c1 c2 c3 c4 e4 z0 z1 z2 z3 g0 g1)
          go_loopw [9,10] (fun v j wr2=>∃m:Nat,∃bv:Bool,m≤k∧j= .int .i64 (m:Int)∧v= .bool bv∧bv=((!nb) || ((zO (spF 1 (zl t))).take m).any (· == x0))∧Hid (Below w6.heap.size w6 wr2)) (fun _ j _=>k - (intOf j).toNat)
          case atStart=>exact⟨0,_,Nat.zero_le _,rfl,rfl,by simp,hH (BrQ _ _)⟩
          case round=>
           exact sa4
  · have hkl:¬(k:Int)<(q:Int):=by omega
    have hkq:k=q:=by omega
    subst hkq
    have HB:=hH (show vK g t=(0,0) by
     have h:=hr.out.2
     rw[List.take_of_length_le (by rw[←HSP.out.2.1];omega)] at h
     rw[vK,←HK.out,if_pos rfl,if_neg HS200.out,vN,h])
    have HS6:=hH (HSB.out _ _ HS3.out hr.out.1)
    clear hr hk hlt
    go_wp2_with fail
    go_ret2
    exact⟨by rw[HB.out];rfl,HFIN.out _ HS6.out⟩
end Go.Proofs.YtgkmmnihaiopaaaGreat
namespace Go.Proofs.YtgkmmnihaiopaaaGreat
open Go.RowKit Go.Shelf
attribute [local go_sem] Oper.semAt_some
theorem zbd (w:World) (S:Nat→Prop) (gv nv:Value) (g:Gr) (t:Tr) (hg:GrV w gv g) (hf:g.few) (hS:∀x,S x→x<w.heap.size) (ht:zJ w S nv t) (hlen:foLen t.kids≤9223372036854775807) (hfit:qD t.kids) (hsz:zg t.kids+1≤500000) (hok:okF (spF 1 (zl t))):
 Calls Tryz.prog 9 #[gv,nv] w (YQ (qK g t) w):=by
 obtain⟨ga,gc,rfl,hgk⟩:=hg
 obtain⟨ka,cap,rfl,hcap,hk⟩:=ht
 obtain⟨n,hn⟩:∃n,n=foLen t.kids:=⟨_,rfl⟩
 obtain⟨gn,hgn⟩:∃gn,gn=g.kinds.length:=⟨_,rfl⟩
 rw[←hn,←hgn]
 have kx:((w.alloc (.cells #[.slice ga gn gc,.int .i64 g.root] 24)).alloc (.cells #[.int .i64 t.id,.int .i64 t.kind,.string t.text,.slice ka n cap] 27)).heap[w.heap.size]? =_:=zi [.cells #[.slice ga gn gc,.int .i64 g.root] 24,.cells #[.int .i64 t.id,.int .i64 t.kind,.string t.text,.slice ka n cap] 27] w 0 _ rfl
 have ky:((w.alloc (.cells #[.slice ga gn gc,.int .i64 g.root] 24)).alloc (.cells #[.int .i64 t.id,.int .i64 t.kind,.string t.text,.slice ka n cap] 27)).heap[w.heap.size+1]? =_:=zi [.cells #[.slice ga gn gc,.int .i64 g.root] 24,.cells #[.int .i64 t.id,.int .i64 t.kind,.string t.text,.slice ka n cap] 27] w 1 _ rfl
 have hab:Below w.heap.size w ((w.alloc (.cells #[.slice ga gn gc,.int .i64 g.root] 24)).alloc (.cells #[.int .i64 t.id,.int .i64 t.kind,.string t.text,.slice ka n cap] 27)):=zm [.cells #[.slice ga gn gc,.int .i64 g.root] 24,.cells #[.int .i64 t.id,.int .i64 t.kind,.string t.text,.slice ka n cap] 27] w
 obtain⟨SX,hSX⟩:∃SX:World→Prop,SX=fun X=>Below (w.heap.size+2) ((w.alloc (.cells #[.slice ga gn gc,.int .i64 g.root] 24)).alloc (.cells #[.int .i64 t.id,.int .i64 t.kind,.string t.text,.slice ka n cap] 27)) X:=⟨_,rfl⟩
 have HSx:∀X,SX X→X.cell? ⟨w.heap.size,0,none⟩=some (.slice ga gn gc)∧X.cell? ⟨w.heap.size,1,none⟩=some (.int .i64 g.root)∧X.cell? ⟨w.heap.size+1,0,none⟩=some (.int .i64 t.id)∧X.cell? ⟨w.heap.size+1,1,none⟩=some (.int .i64 t.kind)∧X.cell? ⟨w.heap.size+1,2,none⟩=some (.string t.text)∧X.cell? ⟨w.heap.size+1,3,none⟩=some (.slice ka n cap):=fun X h=>by
  exact sc8
 have HS:=hH (show SX ((w.alloc (.cells #[.slice ga gn gc,.int .i64 g.root] 24)).alloc (.cells #[.int .i64 t.id,.int .i64 t.kind,.string t.text,.slice ka n cap] 27)) by rw[hSX];exact BrQ _ _)
 have HSB:=hH (fun (X Y:World) (h:SX X) (hb:Below X.heap.size X Y)=>(show SX Y by rw[hSX] at h ⊢;exact h.trans (hb.mono (by have:=h.size;simp at this;omega))))
 have hwX:∀X,SX X→Below w.heap.size w X:=fun X h=>by rw[hSX] at h;exact hab.trans (h.mono om)
 have hgX:∀X,SX X→GrV X (.agg #[.slice ga gn gc,.int .i64 g.root]) g:=fun X h=>⟨ga,gc,by rw[hgn],hgk.below (hwX X h)⟩
 have htX:∀X,SX X→zJ X S (.agg #[.int .i64 t.id,.int .i64 t.kind,.string t.text,.slice ka n cap]) t:=fun X h=>⟨ka,cap,by rw[hn],hcap,hk.below (hwX X h) hS⟩
 have hSXl:∀X,SX X→∀y,S y→y<X.heap.size:=fun X h y hy=>nL (hS y hy) (hwX X h).size
 have HCK:Hid (∀X,SX X→Calls Tryz.prog 19 #[.agg #[.slice ga gn gc,.int .i64 g.root]] X (yU (kY (qz g)) X)):=hH fun X h=>yt X _ g (hgX X h) hf
 have HWA:Hid (∀X,SX X→Calls Tryz.prog 18 #[.agg #[.int .i64 t.id,.int .i64 t.kind,.string t.text,.slice ka n cap],.int .i64 201] X (WalkM X S t 201)):=hH fun X h=>kT 201 om X S _ t hlen hfit (hSXl X h) (htX X h)
 obtain⟨⟨f1,f2⟩,hfr⟩:∃p:Int×Int,p=vK g t:=⟨_,rfl⟩
 have HFA:Hid (∀X,SX X→Calls Tryz.prog 20 #[.agg #[.slice ga gn gc,.int .i64 g.root],.agg #[.int .i64 t.id,.int .i64 t.kind,.string t.text,.slice ka n cap]] X (YQ (f1,f2) X)):=hH fun X h=>by
  have:=zhx X S _ _ g t (hgX X h) hf (hSXl X h) (htX X h) hlen hfit hsz hok
  rw[←hfr] at this;exact this
 have HFR:=hH hfr
 have HFIN:=hH hwX
 obtain⟨ck,hck⟩:∃ck,ck=qz g:=⟨_,rfl⟩
 have HK:=hH hck
 rw[←hck] at HCK
 clear hS hcap hk hn hgn hf hgk hsz hok kx ky hab hSX hwX hgX htX hSXl hck hlen hfit hfr
 cases ck
 · have HB:=hH (show qK g t=(0,50) by rw[qK,←HK.out,if_neg sp1,vK,←HK.out];rfl)
   rw[show kY false=50 from rfl] at HCK
   go_enter Tryz.func9,Tryz.ntmps9
   exact se8
 rw[show kY true=0 from rfl] at HCK
 go_enter Tryz.func9,Tryz.ntmps9
 go_wp2_with (go_at_call 19;refine (HCK.out _ HS.out).mono ?_;rintro e w2 ⟨rfl,hb⟩;have HS2:=hH (HSB.out _ w2 HS.out hb);obtain⟨p0,p1,p2,p3,p4,p5⟩:=HSx w2 HS2.out;clear hb)
 go_at_call 18
 refine (HWA.out _ HS2.out).mono ?_
 rintro e w3 ⟨la,lc,rfl,hsp,hb⟩
 have HS3:=hH (HSB.out _ w3 HS2.out hb);obtain⟨q0,q1,q2,q3,q4,q5⟩:=HSx w3 HS3.out;clear hb
 clear p0 p1 p2 p3 p4 p5 hsp
 obtain⟨q,hq⟩:∃q,q=((spF 1 (zl t)).take 201).length:=⟨_,rfl⟩
 rw[←hq]
 have hqs:=hq
 rw[List.length_take,yE,zL] at hqs
 by_cases h200:200<q
 · have hql:(200:Int)<(q:Int):=by omega
   have HB:=hH (show qK g t=(0,70) by
    have h2:vK g t=(0,70):=by rw[vK,←HK.out,if_pos rfl,if_pos om]
    unfold qK;split
    · rfl
    · exact h2)
   clear hq hqs h200
   go_wp2_with fail
   go_ret2
   exact⟨by rw[HB.out];rfl,HFIN.out _ HS3.out⟩
 have hql:¬(200:Int)<(q:Int):=by omega
 clear hq hqs h200
 by_cases hr:t.kind=g.root
 · have HB:=hH (show qK g t=(f1,f2) by rw[qK,←HK.out,if_neg (by simp[hr]),HFR.out])
   have hne:(t.kind != g.root)=false:=by simp[hr]
   clear hr
   go_wp2_with (go_at_call 20;refine (HFA.out _ HS3.out).mono ?_;rintro e w4 ⟨rfl,hb⟩;have HS4:=hH (HSB.out _ w4 HS3.out hb);obtain⟨r0,r1,r2,r3,r4,r5⟩:=HSx w4 HS4.out;clear hb)
   go_ret2
   exact⟨by rw[HB.out];rfl,HFIN.out _ HS4.out⟩
 · have HB:=hH (show qK g t=(0,70) by rw[qK,←HK.out,if_pos ⟨rfl,hr⟩])
   have hne:(t.kind != g.root)=true:=by simp[hr]
   clear hr
   go_wp2_with fail
   go_ret2
   exact⟨by rw[HB.out];rfl,HFIN.out _ HS3.out⟩
end Go.Proofs.YtgkmmnihaiopaaaGreat
namespace Go.Proofs.YtgkmmnihaiopaaaGreat
open Go.RowKit Go.Shelf
theorem zh2 {g:Gr} {r:Tr×Int} (h:r.2≠0):(doK g r).2≠0:=by unfold doK;rw[if_neg h];exact h
theorem zh1 {g:Gr} {y:Tr} (h:(qK g y).2≠0):(doK g (y,0)).2≠0:=by unfold doK;rw[if_pos rfl,if_neg h];exact h
theorem zi2 {g:Gr} {y:Tr} (h:(qK g y).2=0):doK g (y,0)=(y,0):=by unfold doK;rw[if_pos rfl,if_pos h]
theorem zhC {op id par at_:Int} {tx:ByteArray} {x t y:Tr} (h:stepG op id par at_ tx x t=(y,0)):(zg t.kids+1≤2000∧zg x.kids+1≤2000)∧yC op id par at_ tx x t=(y,0):=by
 unfold stepG at h
 split at h
 · exact⟨‹_›,h⟩
 · exact absurd (congrArg Prod.snd h) (by show ¬((2:Int)=0);decide)
theorem jy:∀f:Fo,zg f≤9223372036854775807→qD f
 | .nil,_=>True.intro
 | .node b o k l r,h=>by
   simp only[zg] at h
   exact⟨by have:=zK l;omega,jy l om,jy r om⟩
theorem zin (w:World) (S:Nat→Prop) (gv:Value) (g:Gr) (t x:Tr) (op id par at_:Int) (tx:ByteArray) (ka sa:Option Addr) (len cap sn sc:Nat) (hg:GrV w gv g) (hfew:g.few) (hlen:len=foLen t.kids) (hsn:sn=foLen x.kids) (hd:qB t) (hfl:foLen t.kids≤9223372036854775807) (hfit:qD t.kids) (hxl:foLen x.kids≤9223372036854775807) (hxfit:qD x.kids) (hS:∀q,S q→q<w.heap.size) (hcap:foLen t.kids≤cap) (hk:zu w S t.kids ka) (hscap:foLen x.kids≤sc) (hxk:zu w S x.kids sa) (hop8: -128≤op∧op≤127) (hok:okF (spF 1 (zl t))) (hxok:okF (spF 1 (zl x))) (htx:(tx.size:Int)≤9223372036854775807):
 Calls Tryz.prog 38 #[gv,.agg #[.int .i64 t.id,.int .i64 t.kind,.string t.text,.slice ka len cap],.agg #[.int .i8 op,.int .i64 id,.int .i64 par,.int .i64 at_,.string tx,.int .i64 x.id,.int .i64 x.kind,.string x.text,.slice sa sn sc]] w (jE (doK g (stepG op id par at_ tx x t)) w):=by
 obtain⟨ga,gc,rfl,hgk⟩:=hg
 obtain⟨gn,hgn⟩:∃gn,gn=g.kinds.length:=⟨_,rfl⟩
 rw[←hgn]
 obtain⟨B,hB⟩:∃B,B=zt w [.cells #[.slice ga gn gc,.int .i64 g.root] 24,.cells #[.int .i64 t.id,.int .i64 t.kind,.string t.text,.slice ka len cap] 27,.cells #[.int .i8 op,.int .i64 id,.int .i64 par,.int .i64 at_,.string tx,.int .i64 x.id,.int .i64 x.kind,.string x.text,.slice sa sn sc] 44,.cells #[.int .i64 0,.int .i64 0,.string ⟨#[]⟩,.slice none 0 0] 27]:=⟨_,rfl⟩
 have hb:Below w.heap.size w B:=by rw[hB];exact zm _ _
 have eg:B.heap[w.heap.size]? =some (.cells #[.slice ga gn gc,.int .i64 g.root] 24 (0,0)):=by rw[hB];exact zi _ _ 0 _ rfl
 have e0:B.heap[w.heap.size+1]? =some (.cells #[.int .i64 t.id,.int .i64 t.kind,.string t.text,.slice ka len cap] 27 (0,0)):=by rw[hB];exact zi _ _ 1 _ rfl
 have e1:B.heap[w.heap.size+1+1]? =some (.cells #[.int .i8 op,.int .i64 id,.int .i64 par,.int .i64 at_,.string tx,.int .i64 x.id,.int .i64 x.kind,.string x.text,.slice sa sn sc] 44 (0,0)):=by rw[hB];exact zi _ _ 2 _ rfl
 have e2:B.heap[w.heap.size+1+1+1]? =some (.cells #[.int .i64 0,.int .i64 0,.string ⟨#[]⟩,.slice none 0 0] 27 (0,0)):=by rw[hB];exact zi _ _ 3 _ rfl
 obtain⟨r,hr⟩:∃r,r=stepG op id par at_ tx x t:=⟨_,rfl⟩
 have hap:=zeb B S t x op id par at_ tx ka sa len cap sn sc hlen hsn hd hfl hfit hxl hxfit (fun q hq=>nL (hS q hq) hb.size) hcap (hk.below hb hS) hscap (hxk.below hb hS) hop8
 rw[←hr] at hap ⊢
 have HOK:Hid (∀y,r=(y,0)→okF (spF 1 (zl y))∧zg y.kids≤10000):=hH fun y hy=>by
  obtain⟨hz,hst⟩:=zhC (hr.symm.trans hy)
  have hsz:=zaz op id par at_ tx x t
  rw[hst] at hsz
  exact⟨(zay hst).1.ok hok hxok htx,by simp only at hsz;omega⟩
 have HGR:Hid (∀X,Below w.heap.size w X→GrV X (.agg #[.slice ga gn gc,.int .i64 g.root]) g):=hH fun X hX=>⟨ga,gc,by rw[hgn],hgk.below hX⟩
 have HFW:=hH hfew
 have HAP:=hH hap
 have HB:=hH (aN hb (aN eg (aN e0 (aN e1 e2))))
 have HBE:=hH hB
 have HBS:Hid (w.heap.size+1+1+1<B.heap.size):=hH (lohQ e2)
 obtain⟨p0,p1,p2,p3⟩:=zD e0
 obtain⟨s0,s1,s2,s3,s4,s5,s6,s7,s8⟩:B.cell? ⟨w.heap.size+1+1,0,none⟩=some (.int .i8 op)∧B.cell? ⟨w.heap.size+1+1,1,none⟩=some (.int .i64 id)∧B.cell? ⟨w.heap.size+1+1,2,none⟩=some (.int .i64 par)∧B.cell? ⟨w.heap.size+1+1,3,none⟩=some (.int .i64 at_)∧B.cell? ⟨w.heap.size+1+1,4,none⟩=some (.string tx)∧B.cell? ⟨w.heap.size+1+1,5,none⟩=some (.int .i64 x.id)∧B.cell? ⟨w.heap.size+1+1,6,none⟩=some (.int .i64 x.kind)∧B.cell? ⟨w.heap.size+1+1,7,none⟩=some (.string x.text)∧B.cell? ⟨w.heap.size+1+1,8,none⟩=some (.slice sa sn sc):=⟨by rw[corQ _ _ 0 _ _ _ e1];rfl,by rw[corQ _ _ 1 _ _ _ e1];rfl,by rw[corQ _ _ 2 _ _ _ e1];rfl,by rw[corQ _ _ 3 _ _ _ e1];rfl,by rw[corQ _ _ 4 _ _ _ e1];rfl,by rw[corQ _ _ 5 _ _ _ e1];rfl,by rw[corQ _ _ 6 _ _ _ e1];rfl,by rw[corQ _ _ 7 _ _ _ e1];rfl,by rw[corQ _ _ 8 _ _ _ e1];rfl⟩
 clear hgk hgn hb eg e0 e1 e2 hB hap hr hfew hlen hsn hd hfl hfit hxl hxfit hS hcap hk hscap hxk hop8 hok hxok htx
 go_enter Tryz.func38,Tryz.ntmps38
 go_upto_region 1 with fail
 change Code.wp _ _ _ _ (zt w [.cells #[.slice ga gn gc,.int .i64 g.root] 24,.cells #[.int .i64 t.id,.int .i64 t.kind,.string t.text,.slice ka len cap] 27,.cells #[.int .i8 op,.int .i64 id,.int .i64 par,.int .i64 at_,.string tx,.int .i64 x.id,.int .i64 x.kind,.string x.text,.slice sa sn sc] 44,.cells #[.int .i64 0,.int .i64 0,.string ⟨#[]⟩,.slice none 0 0] 27])
 rw[←HBE.out]
 clear HBE
 go_wp2_with fail
 refine HAP.out.mono ?_
 rintro e w2 ⟨y,va,vc,er,rfl,hyc,hyf,hb2,he1,he2⟩
 clear p0 p1 p2 p3 s0 s1 s2 s3 s4 s5 s6 s7 s8 HAP
 obtain⟨yn,hyn⟩:∃yn,yn=foLen y.kids:=⟨_,rfl⟩
 rw[←hyn]
 obtain⟨W3,hW3⟩:∃W3,W3=w2.alloc (.cells #[.int .i64 y.id,.int .i64 y.kind,.string y.text,.slice va yn vc] 27):=⟨_,rfl⟩
 have hb3:Below B.heap.size B W3:=hb2.trans (by rw[hW3];exact (BrQ _ _).alloc hb2.size _)
 have eG:W3.heap[w2.heap.size]? =some (.cells #[.int .i64 y.id,.int .i64 y.kind,.string y.text,.slice va yn vc] 27 (0,0)):=by rw[hW3];exact hanQ _ _
 have hyf3:zu W3 (fun q=>B.heap.size≤q∧q<w2.heap.size) y.kids va:=hyf.kept fun q hq=>⟨hq,by rw[hW3];exact BhaQ _ _ _ hq.2⟩
 have h23:w2.heap.size<W3.heap.size:=by rw[hW3,WsaQ];omega
 obtain⟨G,hG⟩:∃G,G=w2.heap.size:=⟨_,rfl⟩
 rw[←hG] at eG
 have hGl:w.heap.size+1+1+1<G:=by rw[hG];have:=lohQ HB.out.2.2.2.2;have:=hb2.size;omega
 have hbw:=HB.out.1.trans (hb3.mono HB.out.1.size)
 have f0:=(hb3.block _ (lohQ HB.out.2.1)).trans HB.out.2.1
 have f2:=(hb3.block _ (lohQ HB.out.2.2.2.2)).trans HB.out.2.2.2.2
 have HA:=hH (aN hbw (aN f0 (aN f2 (aN eG (aN hyf3 (aN hyc (aN hyn (aN h23 (aN hGl HB.out.1.size)))))))))
 have HE:=hH (aN he1 he2)
 have HW3:=hH hW3
 clear hb2 hW3 hb3 eG hyf hyf3 hyc hyn he1 he2 hbw f0 f2 h23 HB hGl
 go_upto_region 2 with fail
 change Code.wp _ _ _ _ (w2.alloc (.cells #[.int .i64 y.id,.int .i64 y.kind,.string y.text,.slice va yn vc] 27))
 rw[←HW3.out,←hG]
 clear HW3 hG
 by_cases h0:er=0
 · subst h0
   have hr0:=HE.out.1 rfl
   obtain⟨hoky,hszy⟩:=HOK.out y hr0
   have hcall:=zbd W3 (fun q=>q<W3.heap.size) (.agg #[.slice ga gn gc,.int .i64 g.root]) (.agg #[.int .i64 y.id,.int .i64 y.kind,.string y.text,.slice va yn vc]) g y (HGR.out W3 HA.out.1) HFW.out (fun q hq=>hq) ⟨va,vc,by rw[HA.out.2.2.2.2.2.2.1],HA.out.2.2.2.2.2.1,HA.out.2.2.2.2.1.kept fun q hq=>⟨Nat.lt_trans hq.2 HA.out.2.2.2.2.2.2.2.1,rfl⟩⟩ (by have:=zK y.kids;omega) (jy _ om) om hoky
   obtain⟨d,hd⟩:∃d,d=qK g y:=⟨_,rfl⟩
   rw[←hd] at hcall
   obtain⟨d1,d2⟩:=d
   have HCALL:=hH hcall
   have HR:=hH (aN hr0 hd)
   have eg0:=HA.out.2.1
   obtain⟨g0,g1⟩:W3.cell? ⟨w.heap.size,0,none⟩=some (.slice ga gn gc)∧W3.cell? ⟨w.heap.size,1,none⟩=some (.int .i64 g.root):=⟨by rw[corQ _ _ 0 _ _ _ eg0];rfl,by rw[corQ _ _ 1 _ _ _ eg0];rfl⟩
   obtain⟨y0,y1,y2,y3⟩:=zD HA.out.2.2.2.1
   clear hr0 hoky hszy hcall hd eg0 HOK HE
   go_wp2_with fail
   refine HCALL.out.mono ?_
   rintro e w4 ⟨rfl,hb4⟩
   have hbw:=HA.out.1.trans (hb4.mono HA.out.1.size)
   have f2:=(hb4.block _ (lohQ HA.out.2.2.1)).trans HA.out.2.2.1
   have f3:=(hb4.block _ (lohQ HA.out.2.2.2.1)).trans HA.out.2.2.2.1
   have hyf4:=HA.out.2.2.2.2.1.kept (w':=w4) (S':=fun q=>B.heap.size≤q∧q<w2.heap.size) fun q hq=>⟨hq,hb4.block q (Nat.lt_trans hq.2 HA.out.2.2.2.2.2.2.2.1)⟩
   have h24:w2.heap.size<w4.heap.size:=nL HA.out.2.2.2.2.2.2.2.1 hb4.size
   have HC:=hH (aN hbw (aN f2 (aN f3 (aN hyf4 (aN HA.out.2.2.2.2.2.1 (aN HA.out.2.2.2.2.2.2.1 (aN h24 (aN HA.out.2.2.2.2.2.2.2.2.1 HA.out.2.2.2.2.2.2.2.2.2))))))))
   clear hb4 hbw f2 f3 hyf4 h24 g0 g1 y0 y1 y2 y3 HA HCALL
   by_cases h0:d2=0
   · subst h0
     obtain⟨y0,y1,y2,y3⟩:=zD HC.out.2.2.1
     have hz:=HC.out.2.1
     have hHEE:jE (doK g r) w (.returned (.tuple #[.agg #[.int .i64 y.id,.int .i64 y.kind,.string y.text,.slice va yn vc],.int .i64 0])) ((((w4.setCell ⟨w.heap.size+1+1+1,0,none⟩ (.int .i64 y.id)).setCell ⟨w.heap.size+1+1+1,1,none⟩ (.int .i64 y.kind)).setCell ⟨w.heap.size+1+1+1,2,none⟩ (.string y.text)).setCell ⟨w.heap.size+1+1+1,3,none⟩ (.slice va yn vc)):=by
      have hs:=zW hz (.int .i64 y.id) (.int .i64 y.kind) (.string y.text) (.slice va yn vc)
      have hz2:=(hs.2.1 _ (Nat.le_refl _)).size
      have h6:=HC.out.2.2.2.2.2.2
      have h7:=lohQ hz
      refine⟨y,va,vc,0,by rw[HC.out.2.2.2.2.2.1],HC.out.2.2.2.2.1,?_,HC.out.1.trans (hs.2.1 _ om),fun _=>by rw[HR.out.1];exact zi2 (by rw[←HR.out.2]),fun h=>absurd rfl h⟩
      exact HC.out.2.2.2.1.kept fun q hq=>⟨⟨by have:=hq.1;omega,nL (Nat.lt_trans hq.2 h6.1) hz2⟩,hs.2.2 q (by have:=hq.1;have h8:=HBS.out;omega)⟩
     have HEE:=hH hHEE
     obtain⟨z0,z1,z2,z3⟩:=zD hz
     have gz:∀j,w4.frozen? ⟨w.heap.size+1+1+1,j,none⟩=false:=fun j=>forQ _ _ j _ _ hz
     have HZ:=hH (zW hz (.int .i64 y.id) (.int .i64 y.kind) (.string y.text) (.slice va yn vc))
     clear hz hHEE
     go_wp2_with fail
     exact brQ (zy rfl _ _ (w.heap.size+1+1+1) 27 _ _ _ (.int .i64 0) rfl HZ.out.1 Tryz.underlying27 rfl kr1 rfl) rfl HEE.out
   · have hd0:(d2 == 0)=false:=by simpa using h0
     have hd1:(d2 != 0)=true:=by simpa using h0
     have H0:=hH h0
     clear h0
     have hb3:=HC.out.1
     have f2:=HC.out.2.1
     obtain⟨z0,z1,z2,z3⟩:=zD f2
     have gz:∀j,w4.frozen? ⟨w.heap.size+1+1+1,j,none⟩=false:=fun j=>forQ _ _ j _ _ f2
     have HZ:=hH (zW f2 (.int .i64 0) (.int .i64 0) (.string ⟨#[]⟩) (.slice none 0 0))
     have HEE:=hH (yX (r:=doK g r) (er:=d2) hb3 f2 om H0.out (by rw[HR.out.1];exact zh1 (by rw[←HR.out.2];exact H0.out)))
     go_wp2_with fail
     exact brQ (zy rfl _ _ (w.heap.size+1+1+1) 27 _ _ _ (.int .i64 d2) rfl HZ.out.1 Tryz.underlying27 rfl kr1 rfl) rfl HEE.out
 · have hd0:(er == 0)=false:=by simpa using h0
   have hd1:(er != 0)=true:=by simpa using h0
   have H0:=hH h0
   clear h0
   have hb3:=HA.out.1
   have f2:=HA.out.2.2.1
   obtain⟨z0,z1,z2,z3⟩:=zD f2
   have gz:∀j,W3.frozen? ⟨w.heap.size+1+1+1,j,none⟩=false:=fun j=>forQ _ _ j _ _ f2
   have HZ:=hH (zW f2 (.int .i64 0) (.int .i64 0) (.string ⟨#[]⟩) (.slice none 0 0))
   have HEE:=hH (yX (r:=doK g r) (er:=er) hb3 f2 om H0.out (zh2 (HE.out.2 H0.out)))
   go_wp2_with fail
   exact brQ (zy rfl _ _ (w.heap.size+1+1+1) 27 _ _ _ (.int .i64 er) rfl HZ.out.1 Tryz.underlying27 rfl kr1 rfl) rfl HEE.out
end Go.Proofs.YtgkmmnihaiopaaaGreat
