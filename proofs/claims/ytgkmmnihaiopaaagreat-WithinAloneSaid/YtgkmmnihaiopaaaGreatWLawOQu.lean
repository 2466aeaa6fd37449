/-
  .
-/
import Derived.Test.YtgkmmnihaiopaaaGreatAllWQu
import Derived.Test.YtgkmmnihaiopaaaGreatKPlacePQu
import Derived.Test.YtgkmmnihaiopaaaGreatRAp11Qu
import Derived.Test.YtgkmmnihaiopaaaGreatBlankQu
import Derived.Test.YtgkmmnihaiopaaaGreatRDoQu
import Derived.Test.YtgkmmnihaiopaaaGreatRCheck11Qu
import Derived.Test.YtgkmmnihaiopaaaGreatJPgQu
import Derived.Test.YtgkmmnihaiopaaaGreatJPsQu
set_option maxRecDepth 100000
set_option maxHeartbeats 40000000
set_option linter.unusedVariables false
set_option linter.unusedSimpArgs false
namespace Go.Proofs.YtgkmmnihaiopaaaGreat
open Go.RowKit Go.Shelf
theorem zba:∀(q:List Nat) (t m:Tr) (r:List Nat) (v:Tr),atT t q=some m→zQ t (q++r) v=zQ t q (zQ m r v)
 | [],t,m,r,v,h=>by cases h;rfl
 | i ::q,t,m,r,v,h=>by
   simp only[atT] at h
   cases hk:zB t.kids i with
   | none=>rw[hk] at h;cases h
   | some u=>
     rw[hk] at h
     simp only at h
     simp only[List.cons_append,zQ,hk]
     rw[zba q u m r v h]
theorem zg7 (t:Tr):idT t=je (zl t):=(ZJ t).symm
theorem J5 (a:Int) (t:Tr):a∈idT t↔0<q8 a t:=by rw[zg7,vF,ZF]
theorem ZT {root i:Int} {t:Tr} (h:(jL root t).any (· == i)=true):∃q u,zx root t=some q∧atT t q=some u∧i∈idT u:=by
 obtain⟨x,hx,e⟩:=List.any_eq_true.1 h
 have e:=eq_of_beq e
 subst e
 unfold jL at hx
 split at hx
 · cases hx
 · next q hq=>
   split at hx
   · cases hx
   · next u hu=>exact⟨q,u,hq,hu,hx⟩
theorem ZY {i:Int} {t u:Tr} {q:List Nat} (hd:qB t) (hu:atT t q=some u) (hi:i∈idT u):∃r v,zx i u=some r∧atT u r=some v∧v.id=i∧zx i t=some (q++r):=by
 obtain⟨r,hr⟩:=zfO ((J5 i u).1 hi)
 obtain⟨v,hv,hid⟩:=ve i u r hr
 refine⟨r,v,hr,hv,hid,?_⟩
 rw[←hid]
 exact YG hd (by rw[yJ,hu];exact hv)
theorem Qa {t u v v' :Tr} {q r:List Nat} (hu:atT t q=some u) (hv:atT u r=some v) (hid:v'.id=v.id):zQ t (q++r) v'=zQ t q (zQ u r v')∧(zQ u r v').id=u.id:=
 ⟨zba q t u r v' hu,QE r u v v' hv hid⟩
theorem zhW {u v:Tr} {r:List Nat} {i:Nat} (h:atT u (r++[i])=some v):∃w,atT u r=some w∧zB w.kids i=some v:=by
 rw[yJ] at h
 cases hw:atT u r with
 | none=>rw[hw] at h;cases h
 | some w=>
   rw[hw] at h
   refine⟨w,rfl,?_⟩
   simp only[Option.bind_some,atT] at h
   cases hk:zB w.kids i with
   | none=>rw[hk] at h;cases h
   | some z=>rw[hk] at h;exact h
theorem zh6 {ids:List Int} {root op id par:Int} (h:vU ids root op id par=true):yT op id par≠[]∧∀x∈yT op id par,ids.any (· == x)=true∧¬(x=root∧ZU op id x=true):=by
 unfold vU at h
 obtain⟨h1,h2⟩:=(Bool.and_eq_true _ _).mp h
 refine⟨fun e=>(by rw[e] at h1;cases h1),fun x hx=>?_⟩
 have h3:=List.all_eq_true.1 h2 x hx
 unfold jk at h3
 obtain⟨h4,h5⟩:=(Bool.and_eq_true _ _).mp h3
 refine⟨h4,fun hc=>?_⟩
 rw[hc.2,hc.1] at h5
 simp at h5
theorem zir {root op id par at_:Int} {tx:ByteArray} {x t y:Tr} (hd:qB t) (hin:inW root t op id par=true) (h:yC op id par at_ tx x t=(y,0)):∃q u u',zx root t=some q∧atT t q=some u∧u'.id=root∧y=zQ t q u':=by
 obtain⟨hne,hall⟩:=zh6 hin
 have hroot:∀{q u},zx root t=some q→atT t q=some u→u.id=root:=fun {q u} h1 h2=>by
  obtain⟨v,hv,hid⟩:=ve root t q h1
  rw[h2] at hv;cases hv;exact hid
 by_cases h1:op=1
 · subst h1
   obtain⟨hp,_⟩:=hall par (by unfold yT;rw[if_pos rfl];exact List.mem_cons_self ..)
   obtain⟨q,u,hq,hu,hi⟩:=ZT hp
   obtain⟨r,v,hr,hv,hid,hpt⟩:=ZY hd hu hi
   have hvt:atT t (q++r)=some v:=by rw[yJ,hu];exact hv
   have h' :zV par at_ x t=(y,0):=by unfold yC at h;rwa [if_pos rfl] at h
   unfold zV at h'
   split at h'
   · rename_i h0
     rw[vR hpt hvt] at h0 h'
     split at h0
     · rename_i hc
       rw[if_pos hc] at h'
       have hy:=congrArg Prod.fst h'
       simp only at hy
       obtain⟨e1,e2⟩:=Qa (v':=⟨v.id,v.kind,v.text,qA v.kids at_.toNat x⟩) hu hv rfl
       exact⟨q,u,_,hq,hu,e2.trans (hroot hq hu),by rw[←hy];exact e1⟩
     · exact absurd h0 (by show ¬((2:Int)=0);decide)
   · rename_i h0
     have:=congrArg Prod.snd h'
     exact absurd this h0
 · by_cases h4:op=4
   · subst h4
     obtain⟨hp,_⟩:=hall id (by unfold yT;simp)
     obtain⟨q,u,hq,hu,hi⟩:=ZT hp
     obtain⟨r,v,hr,hv,hid,hpt⟩:=ZY hd hu hi
     have hvt:atT t (q++r)=some v:=by rw[yJ,hu];exact hv
     have h' :vT id tx t=(y,0):=by unfold yC at h;simpa using h
     rw[Z8 hpt hvt] at h'
     have hy:=congrArg Prod.fst h'
     simp only at hy
     obtain⟨e1,e2⟩:=Qa (v':=⟨v.id,v.kind,tx,v.kids⟩) hu hv rfl
     exact⟨q,u,_,hq,hu,e2.trans (hroot hq hu),by rw[←hy];exact e1⟩
   · by_cases h2:op=2
     · subst h2
       obtain⟨hp,hnt⟩:=hall id (by unfold yT;simp)
       obtain⟨q,u,hq,hu,hi⟩:=ZT hp
       obtain⟨r,v,hr,hv,hid,hpt⟩:=ZY hd hu hi
       have hur:=hroot hq hu
       have hrn:r≠[]:=fun e=>by
        subst e;cases hv
        exact hnt ⟨by rw[←hid];exact hur,by simp[ZU]⟩
       obtain⟨r',i,e⟩:∃r' i,r=r'++[i]:=⟨r.dropLast,r.getLast hrn,(List.dropLast_concat_getLast hrn).symm⟩
       subst e
       obtain⟨n,hn,hk⟩:=zhW hv
       have hnt2:atT t (q++r')=some n:=by rw[yJ,hu];exact hn
       have h' :qp id t=(y,0):=by unfold yC at h;simpa using h
       rw[Zf (p:=q++r') (by rw[hpt,List.append_assoc]) hnt2 hk] at h'
       have hy:=congrArg Prod.fst h'
       simp only at hy
       obtain⟨e1,e2⟩:=Qa (v':=⟨n.id,n.kind,n.text,yo n.kids i⟩) hu hn rfl
       exact⟨q,u,_,hq,hu,e2.trans hur,by rw[←hy];exact e1⟩
     · by_cases h3:op=3
       · subst h3
         obtain⟨hp,hnt⟩:=hall id (by unfold yT;simp)
         obtain⟨hp2,_⟩:=hall par (by unfold yT;simp)
         obtain⟨q,u,hq,hu,hi⟩:=ZT hp
         obtain⟨q2,u2,hq2,hu2,hi2⟩:=ZT hp2
         rw[hq] at hq2;cases hq2
         rw[hu] at hu2;cases hu2
         obtain⟨r,v,hr,hv,hid,hpt⟩:=ZY hd hu hi
         obtain⟨r2,v2,hr2,hv2,hid2,hpt2⟩:=ZY hd hu hi2
         have hur:=hroot hq hu
         have hrn:r≠[]:=fun e=>by
          subst e;cases hv
          exact hnt ⟨by rw[←hid];exact hur,by simp[ZU]⟩
         obtain⟨r',i,e⟩:∃r' i,r=r'++[i]:=⟨r.dropLast,r.getLast hrn,(List.dropLast_concat_getLast hrn).symm⟩
         subst e
         have h' :yH id par at_ t=(y,0):=by unfold yC at h;simpa using h
         obtain⟨p,j,n,z,q',m,m1,m2,m3,m4,m5,m6,m7,m8,m9⟩:=zcP h'
         rw[hpt,←List.append_assoc] at m1
         obtain⟨rfl,hj⟩:=List.append_inj' (Option.some.inj m1) rfl
         obtain rfl:i=j:=by simpa using hj
         have hn:atT u r'=some n:=by rw[yJ,hu] at m2;exact m2
         obtain⟨e1,e2⟩:=Qa (v':=⟨n.id,n.kind,n.text,yo n.kids i⟩) hu hn rfl
         obtain⟨u1,hu1⟩:∃u1,u1=zQ u r' ⟨n.id,n.kind,n.text,yo n.kids i⟩:=⟨_,rfl⟩
         rw[←hu1] at e1 e2
         obtain⟨rest,hrest⟩:∃rest,rest=zQ t (q++r') ⟨n.id,n.kind,n.text,yo n.kids i⟩:=⟨_,rfl⟩
         rw[←hrest] at m5 m6 m9 e1
         have hcr:∀a,q8 a rest≤q8 a t:=fun a=>by
          have c1:=zby a (q++r') t n ⟨n.id,n.kind,n.text,yo n.kids i⟩ m2
          have c2:=zbx a n.kids i z m3
          rw[←hrest] at c1
          simp only[q8] at c1 c2 ⊢
          omega
         have hdr:qB rest:=(JO rest).2 fun a=>Nat.le_trans (hcr a) ((JO t).1 hd a)
         have hat:atT rest q=some u1:=by rw[e1];exact zbS q t u u1 hu
         have hc1:0<q8 par u1:=by
          have c1:=zby par q t u u1 hu
          rw[←e1] at c1
          have c2:0<q8 par rest:=by
           rcases Nat.eq_zero_or_pos (q8 par rest) with h0 | h0
           · rw[(ZP _ _).2 h0] at m5;cases m5
           · exact h0
          have c3:=(JO t).1 hd par
          have c4:=(J5 par u).1 hi2
          omega
         obtain⟨r3,v3,_,hv3,_,hpr⟩:=ZY hdr hat ((J5 par u1).2 hc1)
         rw[m5] at hpr
         obtain rfl:=Option.some.inj hpr
         have hm3:atT u1 r3=some m:=by rw[yJ,hat] at m6;exact m6
         obtain⟨f1,f2⟩:=Qa (v':=⟨m.id,m.kind,m.text,qA m.kids at_.toNat z⟩) hat hm3 rfl
         refine⟨q,u,_,hq,hu,(f2.trans e2).trans hur,?_⟩
         rw[m9,f1,e1,zbT q t u _ _ hu]
       · exact absurd (by unfold yT;rw[if_neg h1,if_neg h2,if_neg h3,if_neg h4]) hne
theorem zjx {g:Gr} {root:Int} {s:Sf} {t:Tr} (hd:qB t) (hin:inW root t s.op s.id s.par=true) (h:(doK g (s.on t)).2=0):∃q u u',zx root t=some q∧atT t q=some u∧u.id=root∧u'.id=root∧(doK g (s.on t)).1=zQ t q u'∧qB (doK g (s.on t)).1∧zx root (doK g (s.on t)).1=some q:=by
 unfold doK at h ⊢
 split at h
 · rename_i h1
   split at h
   · rename_i h2
     rw[if_pos h1,if_pos h2]
     obtain⟨q,u,u',hq,hu,hid,hy⟩:=zir (y:=(s.on t).1) hd hin (show yC s.op s.id s.par s.at_ s.tx s.sub t=((s.on t).1,0) from Prod.ext rfl h1)
     have hdy:=(kS h2).1
     refine⟨q,u,u',hq,hu,?_,hid,hy,hdy,?_⟩
     · obtain⟨v,hv,hvid⟩:=ve root t q hq
       rw[hu] at hv;cases hv;exact hvid
     · have h5:atT (s.on t).1 q=some u':=by rw[hy];exact zbS q t u u' hu
       have h6:=YG hdy h5
       rwa [hid] at h6
   · rename_i h2;exact absurd h h2
 · rename_i h1;exact absurd h h1
theorem za0 {g:Gr} {root:Int}:∀{l:List Sf} {t x:Tr} {q:List Nat} {u:Tr},qB t→zx root t=some q→atT t q=some u→goW g root t l=some x→∃u',u'.id=root∧x=zQ t q u'∧qB x∧zx root x=some q
 | [],t,x,q,u,hd,hq,hu,h=>by
   cases h
   obtain⟨v,hv,hvid⟩:=ve root t q hq
   rw[hu] at hv;cases hv
   exact⟨u,hvid,(zeL q t u hu).symm,hd,hq⟩
 | s ::l,t,x,q,u,hd,hq,hu,h=>by
   rw[goW] at h
   split at h
   · rename_i h0
     obtain⟨q1,u1,u',hq1,hu1,_,hid,hy,hdy,hpy⟩:=zjx hd h0.1 h0.2
     rw[hq] at hq1
     obtain rfl:=Option.some.inj hq1
     rw[hu] at hu1;cases hu1
     have h5:atT (doK g (s.on t)).1 q=some u':=by rw[hy];exact zbS q t u u' hu
     obtain⟨u'',h6,h7,h8,h9⟩:=za0 hdy hpy h5 h
     exact⟨u'',h6,by rw[h7,hy,zbT q t u _ _ hu],h8,h9⟩
   · cases h
theorem zg5 {g:Gr} {root:Int}:∀{l:List Sf} {t x:Tr},goW g root t l=some x→goT g t l=some x
 | [],t,x,h=>h
 | s ::l,t,x,h=>by
   rw[goW] at h
   rw[goT]
   split at h
   · rename_i h0;rw[if_pos h0.2];exact zg5 h
   · cases h
theorem ZA (id:Int):∀f:Fo,zg (yV id f)≤zg f
 | .nil=>Nat.le_refl _
 | .node b o k l r=>by
   have h1:=ZA id l
   have h2:=ZA id r
   rw[yV]
   split
   · simp only[zg];omega
   · simp only[zg];omega
theorem ZB (id:Int) (t:Tr):zg (yh id t).kids≤zg t.kids:=by
 unfold yh
 split
 · simp[zg]
 · exact ZA id t.kids
theorem Jb (w:World) (g:Gr) (t:Tr) (ga ta la:Option Addr) (gn gc tn tc n c:Nat) (vs:List SV) (root:Int) (hgn:gn=g.kinds.length) (hg:GrV w (.agg #[.slice ga g.kinds.length gc,.int .i64 g.root]) g) (hf:g.fits) (htn:tn=foLen t.kids) (ht:jC w t.kids ta tc) (hlen:foLen t.kids≤9223372036854775807) (hfit:qD t.kids) (hok:okF (spF 1 (zl t))) (hn:n=vs.length) (h:zbl w la vs) (hwf:∀x∈vs,(Lit.int .i64 x.s.id).wf=true∧(Lit.int .i64 x.s.par).wf=true):
 Calls Tryz.prog 4 #[.agg #[.slice ga gn gc,.int .i64 g.root],.agg #[.int .i64 t.id,.int .i64 t.kind,.string t.text,.slice ta tn tc],.int .i64 root,.slice la n c] w (zjw w):=by
 have HWF:=hH hwf
 clear hwf
 obtain⟨B,hB⟩:∃B,B=zt w [.cells #[.slice ga gn gc,.int .i64 g.root] 24,.cells #[.int .i64 t.id,.int .i64 t.kind,.string t.text,.slice ta tn tc] 27]:=⟨_,rfl⟩
 have BW:=hH (show Below w.heap.size w B by rw[hB];exact zm _ _)
 have EG:=hH (show B.heap[w.heap.size]? =some (.cells #[.slice ga gn gc,.int .i64 g.root] 24 (0,0)) by rw[hB];exact zi _ _ 0 _ rfl)
 have EN:=hH (show B.heap[w.heap.size+1]? =some (.cells #[.int .i64 t.id,.int .i64 t.kind,.string t.text,.slice ta tn tc] 27 (0,0)) by rw[hB];exact zi _ _ 1 _ rfl)
 have HBE:=hH hB
 have HP:=hH (aN hgn (aN hg (aN hf (aN htn (aN ht (aN hlen (aN hfit hok)))))))
 have HA:=hH (aN hn h)
 clear hB hgn hg hf htn ht hlen hfit hok hn h
 go_enter Tryz.func4,Tryz.ntmps4
 go_upto_region 1 with fail
 change Code.wp _ _ _ _ (zt w [.cells #[.slice ga gn gc,.int .i64 g.root] 24,.cells #[.int .i64 t.id,.int .i64 t.kind,.string t.text,.slice ta tn tc] 27])
 rw[←HBE.out]
 clear HBE
 obtain⟨g0,g1⟩:=jY EG.out
 obtain⟨n0,n1,n2,n3⟩:=zG EN.out
 go_wp2_with fail
 refine (zdQ B _ g (by rw[HP.out.1];exact HP.out.2.1.below BW.out) HP.out.2.2.1).mono ?_
 rintro e W1 ⟨rfl,hb⟩
 replace EG:=hH ((hb.block _ (lohQ EG.out)).trans EG.out)
 replace EN:=hH ((hb.block _ (lohQ EN.out)).trans EN.out)
 replace BW:=hH (BW.out.trans (hb.mono BW.out.size))
 clear hb
 clear g0 g1 n0 n1 n2 n3
 cases hgg:ZI g
 rotate_left
 · clear hgg
   go_wp2_with fail
   refine (vC W1).mono ?_
   exact sc7
 have HGF:=hH (zdR hgg).1
 clear hgg
 obtain⟨g0,g1⟩:=jY EG.out
 obtain⟨n0,n1,n2,n3⟩:=zG EN.out
 go_wp2_with fail
 refine (J3 W1 _ _ t HP.out.2.2.2.2.2.1 HP.out.2.2.2.2.2.2.1 (fun q hq=>nL hq BW.out.size) (by rw[HP.out.2.2.2.1];exact HP.out.2.2.2.2.1.at BW.out)).mono ?_
 rintro e W2 ⟨b2,rfl,h2,hb⟩
 replace EG:=hH ((hb.block _ (lohQ EG.out)).trans EG.out)
 replace EN:=hH ((hb.block _ (lohQ EN.out)).trans EN.out)
 replace BW:=hH (BW.out.trans (hb.mono BW.out.size))
 clear hb
 clear g0 g1 n0 n1 n2 n3
 cases b2
 rotate_left
 · clear h2
   go_wp2_with fail
   refine (vC W2).mono ?_
   exact sc7
 have HW:=hH (show Way t from⟨h2 rfl,HP.out.2.2.2.2.2.2.2⟩)
 clear h2
 go_wp2_with fail
 refine (zcD W2 la n c vs HA.out.1 (HA.out.2.on BW.out)).mono ?_
 rintro e W3 ⟨b3,rfl,h3,hb⟩
 replace EG:=hH ((hb.block _ (lohQ EG.out)).trans EG.out)
 replace EN:=hH ((hb.block _ (lohQ EN.out)).trans EN.out)
 replace BW:=hH (BW.out.trans (hb.mono BW.out.size))
 clear hb
 cases b3
 rotate_left
 · clear h3
   go_wp2_with fail
   refine (vC W3).mono ?_
   exact sc7
 have HR:=hH (HA.out.2.row (h3 rfl))
 clear h3
 obtain⟨g0,g1⟩:=jY EG.out
 obtain⟨n0,n1,n2,n3⟩:=zG EN.out
 obtain⟨d,hd⟩:∃d,d=qK g t:=⟨_,rfl⟩
 have hcall:=zbd W3 (fun q=>q<w.heap.size) (.agg #[.slice ga gn gc,.int .i64 g.root]) (.agg #[.int .i64 t.id,.int .i64 t.kind,.string t.text,.slice ta tn tc]) g t (by rw[HP.out.1];exact HP.out.2.1.below BW.out) HGF.out (fun q hq=>nL hq BW.out.size) (by rw[HP.out.2.2.2.1];exact HP.out.2.2.2.2.1.at BW.out) HP.out.2.2.2.2.2.1 HP.out.2.2.2.2.2.2.1 (by have:=HW.out.size;omega) HP.out.2.2.2.2.2.2.2
 rw[←hd] at hcall
 obtain⟨d1,d2⟩:=d
 have HCALL:=hH hcall
 have HD:=hH hd
 clear hcall hd
 go_wp2_with fail
 refine HCALL.out.mono ?_
 rintro e W4 ⟨rfl,hb⟩
 replace EG:=hH ((hb.block _ (lohQ EG.out)).trans EG.out)
 replace EN:=hH ((hb.block _ (lohQ EN.out)).trans EN.out)
 replace BW:=hH (BW.out.trans (hb.mono BW.out.size))
 clear hb
 clear g0 g1 n0 n1 n2 n3 HCALL
 by_cases hd2:d2=0
 rotate_left
 · have hdb:(d2 == 0)=false:=by simpa using hd2
   have hdn:(d2 != 0)=true:=by simpa using hd2
   clear hd2
   go_wp2_with fail
   refine (vC W4).mono ?_
   exact sc7
 subst hd2
 have HDT:=hH (kS (g:=g) (t:=t) (by rw[←HD.out])).1
 obtain⟨g0,g1⟩:=jY EG.out
 obtain⟨n0,n1,n2,n3⟩:=zG EN.out
 have HAL:=hH (zf8 W4 g t root ga ta la gn gc tn tc n c vs HP.out.1 (HP.out.2.1.below BW.out) HGF.out HP.out.2.2.2.1 (jC.on HP.out.2.2.2.2.1 BW.out) HW.out (zcn HDT.out) HA.out.1 (HR.out.on BW.out) HWF.out)
 go_wp2_with fail
 refine HAL.out.mono ?_
 rintro e W5 ⟨at1,er1,rfl,h1,_,hb⟩
 replace EG:=hH ((hb.block _ (lohQ EG.out)).trans EG.out)
 replace EN:=hH ((hb.block _ (lohQ EN.out)).trans EN.out)
 replace BW:=hH (BW.out.trans (hb.mono BW.out.size))
 clear hb
 clear g0 g1 n0 n1 n2 n3 HAL
 by_cases he1:er1=0
 rotate_left
 · have heb:(er1 == 0)=false:=by simpa using he1
   have hen:(er1 != 0)=true:=by simpa using he1
   clear he1 h1
   go_wp2_with fail
   refine (vC W5).mono ?_
   exact sc7
 subst he1
 obtain⟨hat,hos,⟨q,hq⟩,x0,hx0⟩:=h1 rfl
 obtain rfl:at1=(n:Int):=by rw[hat,qM,HA.out.1]
 obtain⟨u,hu,huid⟩:=ve root t q hq
 obtain⟨u',hu',hxe,_,_⟩:=za0 HDT.out hq hu hx0
 have hbl:yh root x0=yh root t:=by rw[hxe];exact zaS root q t u u' hu huid hu'
 have HX0:=hH (aN hos (aN (zg5 hx0) hbl))
 clear h1 hat hos hq hx0 hu huid hu' hxe hbl
 obtain⟨g0,g1⟩:=jY EG.out
 obtain⟨n0,n1,n2,n3⟩:=zG EN.out
 have HAP:=hH (zfQ W5 g t ga ta la gn gc tn tc n c vs HP.out.1 (HP.out.2.1.below BW.out) HGF.out HP.out.2.2.2.1 (jC.on HP.out.2.2.2.2.1 BW.out) HW.out HDT.out HA.out.1 (HR.out.on BW.out))
 go_wp2_with fail
 refine HAP.out.mono ?_
 rintro e W6 ⟨x,va,vc,at2,er2,rfl,hvc,hvf,hb6,hx⟩
 clear g0 g1 n0 n1 n2 n3 HAP
 obtain⟨rfl,rfl⟩:=hx HX0.out.1 x0 HX0.out.2.1
 clear hx
 obtain⟨vn,hvn⟩:∃vn,vn=foLen x.kids:=⟨_,rfl⟩
 rw[←hvn]
 obtain⟨W7,hW7⟩:∃W7,W7=W6.alloc (.cells #[.int .i64 x.id,.int .i64 x.kind,.string x.text,.slice va vn vc] 27):=⟨_,rfl⟩
 have hb:Below W5.heap.size W5 W7:=hb6.trans (by rw[hW7];exact (BrQ _ _).alloc hb6.size _)
 have eX:W7.heap[W6.heap.size]? =some (.cells #[.int .i64 x.id,.int .i64 x.kind,.string x.text,.slice va vn vc] 27 (0,0)):=by rw[hW7];exact hanQ _ _
 have hvf7:zu W7 (fun q=>q<W7.heap.size) x.kids va:=hvf.kept fun q hq=>⟨by rw[hW7,WsaQ];omega,by rw[hW7];exact BhaQ _ _ _ hq⟩
 obtain⟨G,hG⟩:∃G,G=W6.heap.size:=⟨_,rfl⟩
 rw[←hG] at eX
 have hxs:zg x.kids+1≤250:=(zhI (fun s hs=>by obtain⟨y,hy,rfl⟩:=List.mem_map.1 hs;exact HR.out.fit y hy) HW.out HX0.out.2.1).size
 have HX7:=hH (aN eX (aN hvf7 (aN hvc (aN hvn hxs))))
 have HW7:=hH hW7
 replace EG:=hH ((hb.block _ (lohQ EG.out)).trans EG.out)
 replace EN:=hH ((hb.block _ (lohQ EN.out)).trans EN.out)
 replace BW:=hH (BW.out.trans (hb.mono BW.out.size))
 clear hb
 clear hb6 hW7 hvf hvf7 hvc hvn hxs eX
 go_upto_region 10 with fail
 change Code.wp _ _ _ _ (W6.alloc (.cells #[.int .i64 x.id,.int .i64 x.kind,.string x.text,.slice va vn vc] 27))
 rw[←HW7.out,←hG]
 clear HW7 hG
 have HCX:Hid (∀X,Below W7.heap.size W7 X→(X.cell? ⟨w.heap.size+1,0,none⟩=some (.int .i64 t.id)∧X.cell? ⟨w.heap.size+1,1,none⟩=some (.int .i64 t.kind)∧X.cell? ⟨w.heap.size+1,2,none⟩=some (.string t.text)∧X.cell? ⟨w.heap.size+1,3,none⟩=some (.slice ta tn tc))∧X.cell? ⟨G,0,none⟩=some (.int .i64 x.id)∧X.cell? ⟨G,1,none⟩=some (.int .i64 x.kind)∧X.cell? ⟨G,2,none⟩=some (.string x.text)∧X.cell? ⟨G,3,none⟩=some (.slice va vn vc)):=hH fun X hX=>⟨zG ((hX.block _ (lohQ EN.out)).trans EN.out),zG ((hX.block _ (lohQ HX7.out.1)).trans HX7.out.1)⟩
 have HB1:Hid (∀X,Below W7.heap.size W7 X→Calls Tryz.prog 17 #[.agg #[.int .i64 t.id,.int .i64 t.kind,.string t.text,.slice ta tn tc],.int .i64 root] X (Jp (yh root t) X)):=hH fun X hX=>((zas root 1000 X (fun q=>q<w.heap.size) _ t (by have:=HW.out.size;omega) (by have:=HW.out.size;omega) (fun q hq=>nL hq (Nat.le_trans BW.out.size hX.size)) (by rw[HP.out.2.2.2.1];exact HP.out.2.2.2.2.1.at (BW.out.trans (hX.mono BW.out.size)))).mono fun _ _ h=>jD.weak h)
 have HB2:Hid (∀X,Below W7.heap.size W7 X→Calls Tryz.prog 17 #[.agg #[.int .i64 x.id,.int .i64 x.kind,.string x.text,.slice va vn vc],.int .i64 root] X (Jp (yh root x) X)):=hH fun X hX=>((zas root 1000 X (fun q=>q<W7.heap.size) _ x (by have:=HX7.out.2.2.2.2;omega) (by have:=HX7.out.2.2.2.2;omega) (fun q hq=>nL hq hX.size) ⟨va,vc,by rw[HX7.out.2.2.2.1],HX7.out.2.2.1,HX7.out.2.1.kept fun q hq=>⟨hq,hX.block q hq⟩⟩).mono fun _ _ h=>jD.weak h)
 have hnn:((n:Int) == (n:Int))=true:=by simp
 refine wp_region_held_drew (S:=fun X=>Below W7.heap.size W7 X) kr1 (yN (BrQ _ W7) 1) (fun hHeld=>?_)
 refine tG (i:=0) (.int .i64 0) rfl ?_
 simp only[Act.put,pg]
 refine tG (i:=1) (.bool true) rfl ?_
 simp only[Act.put,pg]
 refine tG (i:=2) (.bool true) rfl ?_
 simp only[Act.put,pg]
 refine tG (i:=3) (.int .i64 (n:Int)) rfl ?_
 simp only[Act.put,pg]
 refine tG (i:=4) (.slice la n c) rfl ?_
 simp only[Act.put,pg]
 refine tG (i:=5) (.int .i64 (n:Int)) rfl ?_
 simp only[Act.put,pg]
 refine tG (i:=6) (.bool true) rfl ?_
 simp only[Act.put,pg]
 refine tG (i:=7) (.bool true) rfl ?_
 simp only[Act.put,pg]
 refine tG (i:=8) (.bool true) rfl ?_
 simp only[Act.put,pg]
 refine tJ (i:=9) (.agg #[.int .i64 t.id,.int .i64 t.kind,.string t.text,.slice ta tn tc]) rfl ?_ ?_
 · clear hHeld;intro X hSw;obtain⟨⟨b0,b1,b2,b3⟩,c0,c1,c2,c3⟩:=HCX.out X hSw;clear hSw;go_simp
 simp only[Act.put,pg]
 refine tG (i:=10) (.int .i64 root) rfl ?_
 simp only[Act.put,pg]
 refine tJ (i:=12) (.agg #[.int .i64 x.id,.int .i64 x.kind,.string x.text,.slice va vn vc]) rfl ?_ ?_
 · clear hHeld;intro X hSw;obtain⟨⟨b0,b1,b2,b3⟩,c0,c1,c2,c3⟩:=HCX.out X hSw;clear hSw;go_simp
 simp only[Act.put,pg]
 refine tG (i:=13) (.int .i64 root) rfl ?_
 simp only[Act.put,pg]
 refine wpAnyH_ready (rs:=[11]) kr1 sp1 ?_
 refine AcQ (o:=_) rfl (fun K hK=>?_) AnQ
 rw[if_pos (by rfl)]
 simp only[pg3]
 have HK:=hH hK
 have HS:=hH hHeld
 clear hK hHeld
 go_wp2_with (go_at_call 17;refine (HB1.out _ HS.out).mono ?_;rintro e V1 ⟨v1,rfl,ht1,hb1⟩)
 have HS1:=hH (HS.out.trans (hb1.mono HS.out.size))
 have HT1:=hH (show zJ V1 (fun q=>q<V1.heap.size) v1 (yh root t) by obtain⟨a1,a2,a3,a4,a5⟩:=ht1;exact⟨a1,a2,a3,a4,a5.kept fun q hq=>⟨hq.2,rfl⟩⟩)
 refine HK.out _ _ HS1.out (fun hHeld=>?_)
 clear HK HS ht1 hb1
 refine wpAnyH_ready (rs:=[14]) kr1 sp1 ?_
 refine AcQ (o:=_) rfl (fun K hK=>?_) AnQ
 rw[if_pos (by rfl)]
 simp only[pg3]
 have HK:=hH hK
 have HS:=hH hHeld
 clear hK hHeld
 go_wp2_with (go_at_call 17;refine (HB2.out _ HS.out).mono ?_;rintro e V2 ⟨v2,rfl,ht2,hb2⟩)
 have HS2:=hH (HS.out.trans (hb2.mono HS.out.size))
 have HT2:=hH (show zJ V2 (fun q=>q<V2.heap.size) v2 (yh root x) by obtain⟨a1,a2,a3,a4,a5⟩:=ht2;exact⟨a1,a2,a3,a4,a5.kept fun q hq=>⟨hq.2,rfl⟩⟩)
 have HT12:=hH (show zJ V2 (fun q=>q<V1.heap.size) v1 (yh root t) by obtain⟨a1,a2,a3,a4,a5⟩:=HT1.out;exact⟨a1,a2,a3,a4,a5.kept fun q hq=>⟨hq,hb2.block q hq⟩⟩)
 have HV12:=hH hb2.size
 refine HK.out _ _ HS2.out (fun hHeld=>?_)
 clear HK HS ht2 hb2
 refine wpAnyH_ready (rs:=[15]) kr1 sp1 ?_
 refine AcQ (o:=_) rfl (fun K hK=>?_) AnQ
 rw[if_pos (by rfl)]
 simp only[pg3]
 have HK:=hH hK
 have HS:=hH hHeld
 clear hK hHeld
 have HSA:=hH (zhy 1000 V2 _ _ v1 v2 (yh root t) (yh root x) (by have:=ZB root t;have:=HW.out.size;omega) ⟨by have:=zK (yh root t).kids;have:=ZB root t;have:=HW.out.size;omega,jy _ (by have:=ZB root t;have:=HW.out.size;omega)⟩ (fun q hq=>nL hq HV12.out) (fun q hq=>hq) HT12.out HT2.out)
 go_wp2_with (go_at_call 13;refine HSA.out.mono ?_;rintro e V3 ⟨rfl,hb3⟩)
 rw[HX0.out.2.2,zej]
 have HS3:=hH (HS2.out.trans (hb3.mono HS2.out.size))
 refine HK.out _ _ HS3.out (fun hHeld=>?_)
 clear HK HS hb3 HSA
 refine tG (i:=16) (.bool true) rfl ?_
 simp only[Act.put,pg]
 refine tG (i:=17) (.bool true) rfl ?_
 simp only[Act.put,pg]
 refine wpAnyH_ready (rs:=[18]) kr1 sp1 ?_
 refine AcQ (o:=_) rfl (fun K hK=>?_) AnQ
 rw[if_pos (by rfl)]
 simp only[pg3]
 have HK:=hH hK
 have HS:=hH hHeld
 clear hK hHeld
 go_wp2_with (go_at_call 14;refine (vC V3).mono ?_;rintro e V4 ⟨rfl,hb4⟩)
 have HS4:=hH (HS3.out.trans (hb4.mono HS3.out.size))
 refine HK.out _ _ HS4.out (fun hHeld=>?_)
 clear HK HS hb4
 refine tG (i:=19) (.bool true) rfl ?_
 simp only[Act.put,pg]
 refine tG (i:=20) (.bool true) rfl ?_
 simp only[Act.put,pg]
 refine wpAnyH_done kr1 ?_ _
 clear hHeld
 go_wp2_with fail
 go_ret
 exact⟨rfl,BW.out.trans (HS4.out.mono BW.out.size)⟩
end Go.Proofs.YtgkmmnihaiopaaaGreat
