/-
  .
-/
import Derived.Test.YtnikgofkldkdkaaRMoveQt
set_option maxRecDepth 100000
set_option maxHeartbeats 40000000
namespace Go.Proofs.Ytnikgofkldkdkaa
open Go.RowKit Go.Shelf
set_option linter.unusedVariables false
set_option linter.unusedSimpArgs false
theorem zcj {par at_:Int}{x t:Tr}(h:qw (idT t) (idT x) 0≠0):(zN par at_ x t).2≠0:=by
 unfold zN;split
 · exact h
 · assumption
theorem zje {par at_:Int}{x t:Tr}(h:zw par t=none):(zN par at_ x t).2≠0:=by
 unfold zN;rw[jN h,inQ (show ¬((zG,(4:Int)).2=0) by show ¬((4:Int)=0);decide)];show (4:Int)≠0;decide
theorem zdk {par at_:Int}{x t u:Tr}{q:List Nat}(h:zw par t=some q)(hu:atT t q=some u)(hn:¬(0≤at_∧at_≤(foLen u.kids:Int))):(zN par at_ x t).2≠0:=by
 unfold zN;rw[vo h hu,inQ hn];show (2:Int)≠0;decide
theorem zkE {par:Int}{x t u:Tr}{q:List Nat}{k:Nat}(h:zw par t=some q)(hu:atT t q=some u)(hk:k≤foLen u.kids)(hf:qw (idT t) (idT x) 0=0):zN par (k:Int) x t=((mkT par u.text (yR u.kids k x) false t).1,0):=by
 have h1:=(zhW (at_:=(k:Int)) (z:=x) h hu).1 ⟨by omega,by omega⟩
 unfold zN;rw[h1,Int.toNat_natCast];show (_,qw (idT t) (idT x) 0)=_;rw[hf]
theorem QP (t:Tr):idT t=(spF 1 (zh t)).map fun x=>x.2.1.1:=zea t
def vN (bb:Bool)(T:List Sp)(i:Int)(m:Nat):Bool:=bb || (T.take m).any (fun y=>y.2.1.1 == i)
theorem Jp (bb:Bool)(T:List Sp)(i:Int):vN bb T i 0=bb:=by simp[vN]
theorem Jo {bb:Bool}{T:List Sp}{i:Int}{m:Nat}{y:Sp}(h:T[m]? =some y):vN bb T i (m+1)=(vN bb T i m || (y.2.1.1 == i)):=by
 unfold vN;rw[List.take_add_one,h,List.any_append];simp[Bool.or_assoc]
theorem zic {t x:Tr}{y:Sp}(hy:y∈spF 1 (zh x))(h:y.2.1.1<1∨1125899906842624<y.2.1.1):qw (idT t) (idT x) 0≠0:=fun hf=>by
 have h1:=(Qg _ _ _ hf).2.1 y.2.1.1 (by rw[QP];exact List.mem_map.2 ⟨y,hy,rfl⟩)
 omega
theorem zdl {t x:Tr}{y:Sp}{k:Nat}(hy:(spF 1 (zh x))[k]? =some y)(h:vN (zw y.2.1.1 t).isSome (spF 1 (zh x)) y.2.1.1 k=true):qw (idT t) (idT x) 0≠0:=fun hf=>by
 obtain⟨_,_,hnd,hnot⟩:=Qg _ _ _ hf
 have hm:y.2.1.1∈idT x:=by rw[QP];exact List.mem_map.2 ⟨y,List.mem_iff_getElem?.2 ⟨k,hy⟩,rfl⟩
 unfold vN at h
 rcases Bool.or_eq_true _ _▸h with h | h
 · refine hnot _ hm ?_
   rw[Jw]
   rcases Nat.eq_zero_or_pos (qp y.2.1.1 t) with h0 | h0
   · rw[(Qt _ _).2 h0] at h;cases h
   · exact h0
 · obtain⟨u,hu,he⟩:=List.any_eq_true.1 h
   obtain⟨m,hm2⟩:=List.mem_iff_getElem?.1 hu
   rw[List.getElem?_take] at hm2
   split at hm2
   · next hlt=>
     rw[QP] at hnd
     have e1:((spF 1 (zh x)).map fun x=>x.2.1.1)[m]? =some u.2.1.1:=by rw[List.getElem?_map,hm2];rfl
     have e2:((spF 1 (zh x)).map fun x=>x.2.1.1)[k]? =some y.2.1.1:=by rw[List.getElem?_map,hy];rfl
     obtain⟨l1,e1⟩:=List.getElem?_eq_some_iff.1 e1
     obtain⟨l2,e2⟩:=List.getElem?_eq_some_iff.1 e2
     refine (List.pairwise_iff_getElem.1 hnd) m k l1 l2 hlt ?_
     rw[e1,e2];exact eq_of_beq he
   · cases hm2
theorem zib {t x:Tr}(h1:∀y∈spF 1 (zh x),1≤y.2.1.1∧y.2.1.1≤1125899906842624)(h2:((spF 1 (zh x)).map fun x=>x.2.1.1).Nodup)(h3:∀y∈spF 1 (zh x),zw y.2.1.1 t=none):qw (idT t) (idT x) 0=0:=by
 refine zcN _ _ (fun i hi=>?_) (by rw[QP];exact h2) (fun i hi hn=>?_)
 · rw[QP] at hi;obtain⟨y,hy,rfl⟩:=List.mem_map.1 hi;exact h1 y hy
 · rw[QP] at hi;obtain⟨y,hy,rfl⟩:=List.mem_map.1 hi
   have h4:=(Qt _ _).1 (h3 y hy)
   rw[Jw] at hn;omega
theorem kK {α:Type}{l:List α}{k:Nat}{x y:α}(hx:l[k]? =some x)(hy:y∈l.take (k+1)):y∈l.take k∨y=x:=by
 rw[List.take_add_one,hx] at hy
 rcases List.mem_append.1 hy with h | h
 · exact Or.inl h
 · exact Or.inr ue3
theorem yT {B:Nat}{w w' :World}(h:Below B w w')(n:Nat):Below B w (w'.drewN n):=h.trans ⟨rfl,rfl,rfl,NlrQ _,fun _ _=>rfl⟩
def zdH (w:World)(t:Tr)(T4:Array Value)(X0:World)(i:Int)(X:World):Prop:=Calls Try.prog 19 #[.agg T4,.int .i64 i] X fun e w'=>(∃uid ukd utx ya um yc,e= .returned (.tuple #[.agg #[.int .i64 uid,.int .i64 ukd,.string utx,.slice ya um yc],.bool (zw i t).isSome]))∧Below X0.heap.size X0 w'∧Below X.heap.size X w'
theorem zdn (w : World)(S:Nat→Prop)(t x:Tr)(op id par at_:Int)(tx:ByteArray)(ka sa:Option Addr)(len cap sn sc:Nat)(hlen:len=foLen t.kids)(hsn:sn=foLen x.kids)(hsz:za t.kids+1≤2000)(hxz:za x.kids+1≤2000)(hS:∀q,S q→q<w.heap.size)(hcap:foLen t.kids≤cap)(hk:zk w S t.kids ka)(hscap:foLen x.kids≤sc)(hxk:zk w S x.kids sa):
 Calls Try.prog 59 #[.agg #[.int .i64 t.id,.int .i64 t.kind,.string t.text,.slice ka len cap],.agg #[.int .i8 op,.int .i64 id,.int .i64 par,.int .i64 at_,.string tx,.int .i64 x.id,.int .i64 x.kind,.string x.text,.slice sa sn sc]] w (jQ (zN par at_ x t) w):=by
 obtain⟨B,hB⟩:∃B,B=zx w [.cells #[.int .i64 t.id,.int .i64 t.kind,.string t.text,.slice ka len cap] 27,.cells #[.int .i8 op,.int .i64 id,.int .i64 par,.int .i64 at_,.string tx,.int .i64 x.id,.int .i64 x.kind,.string x.text,.slice sa sn sc] 49,.cells #[.int .i64 0,.int .i64 0,.string ⟨#[]⟩,.slice none 0 0] 27]:=⟨_,rfl⟩
 have hb:Below w.heap.size w B:=by rw[hB];exact zl _ _
 have e0:B.heap[w.heap.size]? =some (.cells #[.int .i64 t.id,.int .i64 t.kind,.string t.text,.slice ka len cap] 27 (0,0)):=by rw[hB];exact ze _ _ 0 _ rfl
 have e1:B.heap[w.heap.size+1]? =some (.cells #[.int .i8 op,.int .i64 id,.int .i64 par,.int .i64 at_,.string tx,.int .i64 x.id,.int .i64 x.kind,.string x.text,.slice sa sn sc] 49 (0,0)):=by rw[hB];exact ze _ _ 1 _ rfl
 have e2:B.heap[w.heap.size+1+1]? =some (.cells #[.int .i64 0,.int .i64 0,.string ⟨#[]⟩,.slice none 0 0] 27 (0,0)):=by rw[hB];exact ze _ _ 2 _ rfl
 have hT:∀X,Below w.heap.size w X→zK X S (.agg #[.int .i64 t.id,.int .i64 t.kind,.string t.text,.slice ka len cap]) t:=fun X hX=>⟨ka,cap,by rw[hlen],hcap,hk.below hX hS⟩
 have hXT:∀X,Below w.heap.size w X→zK X S (.agg #[.int .i64 x.id,.int .i64 x.kind,.string x.text,.slice sa sn sc]) x:=fun X hX=>⟨sa,sc,by rw[hsn],hscap,hxk.below hX hS⟩
 have HFX:Hid (∀(i:Int) (X0 X:World),Below w.heap.size w X0→Below X0.heap.size X0 X→zdH w t #[.int .i64 t.id,.int .i64 t.kind,.string t.text,.slice ka len cap] X0 i X):=hH fun i X0 X h0 h1=>by
  have hX:=h0.trans (h1.mono h0.size)
  refine (vJ X S _ t i hsz (fun q hq=>nL (hS q hq) hX.size) (hT X hX)).mono ?_
  rintro e w2 ⟨z,va,vc,ok,rfl,_,_,hb2,hy,hn⟩
  have:ok=(zw i t).isSome:=by
   cases ok with
   | false=>rw[hn rfl];rfl
   | true=>obtain⟨q,hq,_⟩:=hy rfl;rw[hq];rfl
  subst this
  exact⟨⟨_,_,_,_,_,_,rfl⟩,h1.trans (hb2.mono h1.size),hb2⟩
 have HT:=hH (aN hT (aN hS (aN hsz (aN hXT (aN hxz (aN hlen (aN hsn hscap)))))))
 have HXK:Hid (∀X,Below w.heap.size w X→zk X S x.kids sa):=hH fun X hX=>hxk.below hX hS
 have HB:=hH (aN hb (aN e0 (aN e1 e2)))
 have hSX:Hid (∀X,Below w.heap.size w X→∀q,S q→q<X.heap.size):=hH fun X hX q hq=>nL (hS q hq) hX.size
 have HF1:=hH (vJ B S (.agg #[.int .i64 t.id,.int .i64 t.kind,.string t.text,.slice ka len cap]) t par hsz (fun q hq=>nL (hS q hq) hb.size) (hT B hb))
 have HBE:=hH hB
 obtain⟨p0,p1,p2,p3⟩:=zF e0
 obtain⟨s1,s2,s3⟩:=Qb e1
 clear hb e0 e1 e2 hT hXT hS hsz hxz hlen hsn hcap hscap hk hxk hB
 go_enter Try.func59,Try.ntmps59
 go_upto_region 1 with fail
 change Code.wp _ _ _ _ (zx w [.cells #[.int .i64 t.id,.int .i64 t.kind,.string t.text,.slice ka len cap] 27,.cells #[.int .i8 op,.int .i64 id,.int .i64 par,.int .i64 at_,.string tx,.int .i64 x.id,.int .i64 x.kind,.string x.text,.slice sa sn sc] 49,.cells #[.int .i64 0,.int .i64 0,.string ⟨#[]⟩,.slice none 0 0] 27])
 rw[←HBE.out]
 clear HBE
 go_wp2_with fail
 refine HF1.out.mono ?_
 rintro e w2 ⟨z,va,vc,ok,rfl,hvc,hvf,hb2,hy,hn⟩
 clear HF1 p0 p1 p2 p3 s1 s2 s3
 obtain⟨zn,hzn⟩:∃zn,zn=foLen z.kids:=⟨_,rfl⟩
 rw[←hzn]
 obtain⟨W3,hW3⟩:∃W3,W3=w2.alloc (.cells #[.int .i64 z.id,.int .i64 z.kind,.string z.text,.slice va zn vc] 27):=⟨_,rfl⟩
 have hb3:Below B.heap.size B W3:=hb2.trans uc4
 have eG:W3.heap[w2.heap.size]? =some (.cells #[.int .i64 z.id,.int .i64 z.kind,.string z.text,.slice va zn vc] 27 (0,0)):=by rw[hW3];exact hanQ _ _
 obtain⟨G,hG⟩:∃G,G=w2.heap.size:=⟨_,rfl⟩
 have HGN:=hH (show w.heap.size+1+1<G by rw[hG];have:=lohQ HB.out.2.2.2;have:=hb2.size;omega)
 rw[←hG] at eG
 have hbw3:=HB.out.1.trans (hb3.mono HB.out.1.size)
 have f0:=(hb3.block _ (lohQ HB.out.2.1)).trans HB.out.2.1
 have f1:=(hb3.block _ (lohQ HB.out.2.2.1)).trans HB.out.2.2.1
 have f2:=(hb3.block _ (lohQ HB.out.2.2.2)).trans HB.out.2.2.2
 have hvf3:zk W3 S z.kids va:=hvf.kept fun q hq=>⟨hq,by rw[hW3];exact BhaQ _ _ _ (nL (hSX.out B HB.out.1 q hq) hb2.size)⟩
 have HW3:=hH hW3
 have HA:=hH (aN hbw3 (aN f0 (aN f1 (aN f2 (aN eG (aN hvf3 (aN hvc hzn)))))))
 have HY:=hH (aN hy hn)
 clear hb2 hW3 hb3 hbw3 f0 f1 f2 eG hvf hvf3 hvc hzn hy hn HB
 go_upto_region 2 with fail
 change Code.wp _ _ _ _ (w2.alloc (.cells #[.int .i64 z.id,.int .i64 z.kind,.string z.text,.slice va zn vc] 27))
 rw[←HW3.out,←hG]
 clear HW3 hG
 cases ok with
 | false=>
   have hb3:=HA.out.1
   have f2:=HA.out.2.2.2.1
   obtain⟨z0,z1,z2,z3⟩:=zF f2
   have gz:∀j,W3.frozen? ⟨w.heap.size+1+1,j,none⟩=false:=fun j=>forQ _ _ j _ _ f2
   have HZ:=hH (zX f2 (.int .i64 0) (.int .i64 0) (.string ⟨#[]⟩) (.slice none 0 0))
   have HEE:=hH (yZ (r:=zN par at_ x t) (er:=4) hb3 f2 om ue9 (zje (HY.out.2 rfl)))
   exact sc2
 | true =>
   obtain⟨pp,hp,hz⟩:=HY.out.1 rfl
   have HP:=hH (aN hp hz)
   clear hp hz HY
   obtain⟨s1,s2,s3⟩:=Qb HA.out.2.2.1
   obtain⟨g0,g1,g2,g3⟩:=zF HA.out.2.2.2.2.1
   by_cases hn0:at_<0
   · have hb3:=HA.out.1
     have f2:=HA.out.2.2.2.1
     obtain⟨z0,z1,z2,z3⟩:=zF f2
     have gz:∀j,W3.frozen? ⟨w.heap.size+1+1,j,none⟩=false:=fun j=>forQ _ _ j _ _ f2
     have HZ:=hH (zX f2 (.int .i64 0) (.int .i64 0) (.string ⟨#[]⟩) (.slice none 0 0))
     have HEE:=hH (yZ (r:=zN par at_ x t) (er:=2) hb3 f2 om ue9 (zdk HP.out.1 HP.out.2 om))
     exact sb6
   · by_cases hnl :(zn:Int)<at_
     · have hb3:=HA.out.1
       have f2:=HA.out.2.2.2.1
       obtain⟨z0,z1,z2,z3⟩:=zF f2
       have gz:∀j,W3.frozen? ⟨w.heap.size+1+1,j,none⟩=false:=fun j=>forQ _ _ j _ _ f2
       have HZ:=hH (zX f2 (.int .i64 0) (.int .i64 0) (.string ⟨#[]⟩) (.slice none 0 0))
       have HEE:=hH (yZ (r:=zN par at_ x t) (er:=2) hb3 f2 om ue9 (zdk HP.out.1 HP.out.2 (by rw[←HA.out.2.2.2.2.2.2.2];omega)))
       exact sb6
     · obtain ⟨pl,hpl⟩:=Int.eq_ofNat_of_zero_le (show 0≤at_ by omega)
       subst hpl
       have HPL:Hid (pl≤zn):=hH om
       have hc:=Yk 2000 om W3 S (.agg #[.int .i64 x.id,.int .i64 x.kind,.string x.text,.slice sa sn sc]) x HT.out.2.2.2.2.1 (by have:=HT.out.2.2.2.2.1;omega) (hSX.out W3 HA.out.1) (HT.out.2.2.2.1 W3 HA.out.1)
       have HC:=hH hc
       have hs:=HA.out.2.2.1
       obtain⟨t5,t6,t7,t8⟩:W3.cell? ⟨w.heap.size+1,5,none⟩=some (.int .i64 x.id)∧W3.cell? ⟨w.heap.size+1,6,none⟩=some (.int .i64 x.kind)∧W3.cell? ⟨w.heap.size+1,7,none⟩=some (.string x.text)∧W3.cell? ⟨w.heap.size+1,8,none⟩=some (.slice sa sn sc):=⟨by rw[corQ _ _ 5 _ _ _ hs];rfl,by rw[corQ _ _ 6 _ _ _ hs];rfl,by rw[corQ _ _ 7 _ _ _ hs];rfl,by rw[corQ _ _ 8 _ _ _ hs];rfl⟩
       clear hs hc
       go_wp2_with fail
       refine HC.out.mono ?_
       rintro e w4 ⟨a,cap',rfl,hsp,hb4⟩
       obtain⟨T,hTe⟩:∃T,T=spF 1 (zh x):=⟨_,rfl⟩
       rw[←hTe] at hsp
       obtain⟨n,hn⟩:∃n,n=za x.kids+1:=⟨_,rfl⟩
       rw[←hn] at hsp ⊢
       have hn2:n≤2000:=by rw[hn];exact HT.out.2.2.2.2.1
       have hb4w:=HA.out.1.trans (hb4.mono HA.out.1.size)
       have f0:=(hb4.block _ (lohQ HA.out.2.1)).trans HA.out.2.1
       have f1:=(hb4.block _ (lohQ HA.out.2.2.1)).trans HA.out.2.2.1
       have f2:=(hb4.block _ (lohQ HA.out.2.2.2.1)).trans HA.out.2.2.2.1
       have f3:=(hb4.block _ (lohQ HA.out.2.2.2.2.1)).trans HA.out.2.2.2.2.1
       have hvf4:zk w4 S z.kids va:=HA.out.2.2.2.2.2.1.kept fun q hq=>⟨hq,hb4.block q (hSX.out W3 HA.out.1 q hq)⟩
       have HD:=hH (aN hb4w (aN f0 (aN f1 (aN f2 (aN f3 (aN hvf4 (aN HA.out.2.2.2.2.2.2.1 (aN HA.out.2.2.2.2.2.2.2 (aN hsp hTe)))))))))
       clear hb4 hb4w f0 f1 f2 f3 hvf4 hsp hTe HA HC s1 s2 s3 g0 g1 g2 g3 t5 t6 t7 t8 hn0 hnl hn
       go_wp2_with fail
       go_loopw [9] (fun i wr=>∃k:Nat,k≤n∧i= .int .i64 (k:Int)∧Hid (Below w4.heap.size w4 wr∧∀y∈T.take k,1≤y.2.1.1∧y.2.1.1≤1125899906842624)) (fun i _=>n - (intOf i).toNat)
       case atStart=>exact⟨0,NzlQ _,rfl,hH ⟨BrQ _ _,by simp⟩⟩
       case round =>
        obtain⟨k,hk,rfl,hh⟩:=hrel
        by_cases hlt:k<n
        · have hki:(k:Int)<(n:Int):=by omega
          obtain⟨y,hy⟩:∃y,T[k]? =some y:=⟨_,List.getElem?_eq_getElem (by rw[HD.out.2.2.2.2.2.2.2.2.1.1];exact hlt)⟩
          obtain⟨g,rfl,hg,c0,hcap⟩:=Yg HD.out.2.2.2.2.2.2.2.2.1 hy
          have c0:=(hh.out.1.cell (p:=⟨g,k*5,none⟩) hg).trans c0
          obtain⟨yi,hyi⟩:∃yi,yi=y.2.1.1:=⟨_,rfl⟩
          rw[←hyi] at c0
          have HM:=hH (aN hy (aN hlt (aN hh.out hyi)))
          have hbw:=HD.out.1.trans (hh.out.1.mono HD.out.1.size)
          have f2:=(hh.out.1.block _ (lohQ HD.out.2.2.2.1)).trans HD.out.2.2.2.1
          have HF2:=hH (aN hbw f2)
          have hmem:y∈spF 1 (zh x):=by rw[←HD.out.2.2.2.2.2.2.2.2.2];exact List.mem_iff_getElem?.2 ⟨k,hy⟩
          have HMEM:=hH hmem
          clear hy hlt hk hh hg hyi hbw f2 hmem
          by_cases h1:yi<1
          · have hb3:=HF2.out.1
            have f2:=HF2.out.2
            obtain⟨z0,z1,z2,z3⟩:=zF f2
            have gz:∀j,wr.frozen? ⟨w.heap.size+1+1,j,none⟩=false:=fun j=>forQ _ _ j _ _ f2
            have HZ:=hH (zX f2 (.int .i64 0) (.int .i64 0) (.string ⟨#[]⟩) (.slice none 0 0))
            have HEE:=hH (yZ (r:=zN par (pl:Int) x t) (er:=2) hb3 f2 om ue9 (zcj (zic HMEM.out (by rw[←HM.out.2.2.2];exact Or.inl h1))))
            exact sb6
          · by_cases h2:1125899906842624<yi
            · have hb3:=HF2.out.1
              have f2:=HF2.out.2
              obtain⟨z0,z1,z2,z3⟩:=zF f2
              have gz:∀j,wr.frozen? ⟨w.heap.size+1+1,j,none⟩=false:=fun j=>forQ _ _ j _ _ f2
              have HZ:=hH (zX f2 (.int .i64 0) (.int .i64 0) (.string ⟨#[]⟩) (.slice none 0 0))
              have HEE:=hH (yZ (r:=zN par (pl:Int) x t) (er:=2) hb3 f2 om ue9 (zcj (zic HMEM.out (by rw[←HM.out.2.2.2];exact Or.inr h2))))
              exact sb6
            · go_wp2_with fail
              exact⟨⟨k+1,by have:=HM.out.2.1;omega,by go_num,hH ⟨HM.out.2.2.1.1,fun u hu=>by
               rcases kK HM.out.1 hu with hu | rfl
               · exact HM.out.2.2.1.2 u hu
               · rw[←HM.out.2.2.2];omega⟩⟩,by have:=HM.out.2.1;simp[intOf];omega⟩
        · have hki:¬(k:Int)<(n:Int):=by omega
          obtain rfl:k=n:=by omega
          have hrng:∀y∈spF 1 (zh x),1≤y.2.1.1∧y.2.1.1≤1125899906842624:=by
           have h:=hh.out.2
           rwa [List.take_of_length_le (by rw[HD.out.2.2.2.2.2.2.2.2.1.1];exact NlrQ _),HD.out.2.2.2.2.2.2.2.2.2] at h
          obtain⟨w5,hw5⟩:∃w5,w5=wr:=⟨_,rfl⟩
          subst hw5
          have hb5:=hh.out.1
          have hbw:=HD.out.1.trans (hb5.mono HD.out.1.size)
          have f0:=(hb5.block _ (lohQ HD.out.2.1)).trans HD.out.2.1
          have f1:=(hb5.block _ (lohQ HD.out.2.2.1)).trans HD.out.2.2.1
          have f2:=(hb5.block _ (lohQ HD.out.2.2.2.1)).trans HD.out.2.2.2.1
          have f3:=(hb5.block _ (lohQ HD.out.2.2.2.2.1)).trans HD.out.2.2.2.2.1
          have hvf5:zk w5 S z.kids va:=HD.out.2.2.2.2.2.1.kept fun q hq=>⟨hq,hb5.block q (hSX.out w4 HD.out.1 q hq)⟩
          have hs5:∀j y,T[j]? =some y→∃g,a=some ⟨g,0,none⟩∧g<w5.heap.size∧w5.cell? ⟨g,j*5,none⟩=some (.int .i64 y.2.1.1)∧k≤cap':=fun j y hy=>by
           obtain⟨g,h1,h2,h3,h4⟩:=Yg HD.out.2.2.2.2.2.2.2.2.1 hy
           exact⟨g,h1,nL h2 hb5.size,(hb5.cell (p:=⟨g,j*5,none⟩) h2).trans h3,h4⟩
          have HE:=hH (aN hbw (aN f0 (aN f1 (aN f2 (aN f3 (aN hvf5 (aN HD.out.2.2.2.2.2.2.1 (aN HD.out.2.2.2.2.2.2.2.1 (aN hs5 (aN HD.out.2.2.2.2.2.2.2.2.1.1 (aN HD.out.2.2.2.2.2.2.2.2.2 hrng)))))))))))
          clear hh hlt hk hb5 hbw f0 f1 f2 f3 hvf5 hs5 hrng HD
          go_wp2_with fail
          go_loopw [10] (fun i wr=>∃j:Nat,j≤k∧i= .int .i64 (j:Int)∧Hid (Below w5.heap.size w5 wr∧((T.take j).map fun x=>x.2.1.1).Nodup∧∀y∈T.take j,zw y.2.1.1 t=none)) (fun i _=>k - (intOf i).toNat)
          case atStart=>exact⟨0,NzlQ _,rfl,hH ⟨BrQ _ _,by simp,by simp⟩⟩
          case round=>
           obtain⟨j,hj,rfl,hh⟩:=hrel
           obtain⟨wo,hwo⟩:∃wo,wo=wr:=⟨_,rfl⟩
           subst hwo
           by_cases hlt:j<k
           · have hki:(j:Int)<(k:Int):=by omega
             obtain⟨y,hy⟩:∃y,T[j]? =some y:=⟨_,List.getElem?_eq_getElem (by rw[HE.out.2.2.2.2.2.2.2.2.2.1];exact hlt)⟩
             obtain⟨g,rfl,hg,c0,hcap⟩:=HE.out.2.2.2.2.2.2.2.2.1 j y hy
             have hbo:=hh.out.1
             have hbwo:=HE.out.1.trans (hbo.mono HE.out.1.size)
             have f0:=(hbo.block _ (lohQ HE.out.2.1)).trans HE.out.2.1
             obtain⟨yi,hyi⟩:∃yi,yi=y.2.1.1:=⟨_,rfl⟩
             rw[←hyi] at c0
             obtain⟨bb,hbb⟩:∃bb,bb=(zw yi t).isSome:=⟨_,rfl⟩
             have hcx:∀X,Below wo.heap.size wo X→(uf1 X w.heap.size t.id t.kind t.text ka len cap)∧X.cell? ⟨g,j*5,none⟩=some (.int .i64 yi):=fun X hX=>⟨zF ((hX.block _ (lohQ f0)).trans f0),(hX.cell (p:=⟨g,j*5,none⟩) (nL hg hbo.size)).trans ((hbo.cell (p:=⟨g,j*5,none⟩) hg).trans c0)⟩
             have HCX:=hH hcx
             have HFR:Hid (∀X,Below wo.heap.size wo X→zdH w t #[.int .i64 t.id,.int .i64 t.kind,.string t.text,.slice ka len cap] wo yi X):=hH fun X hX=>HFX.out yi wo X hbwo hX
             unfold zdH at HFR
             rw[←hbb] at HFR
             have HM:=hH (aN hy (aN hlt (aN hh.out (aN hyi (aN hbb hbwo)))))
             have HG:=hH (aN hg c0)
             clear hy hlt hj hh hg c0 hbo hbwo f0 hyi hbb hcx
             go_upto_region 15 with fail
             refine wrhQ (S:=fun X=>Below wo.heap.size wo X) kr1 (yT (BrQ _ wo) 1) (fun uH=>?_)
             refine tJ (i:=0) (.agg #[.int .i64 t.id,.int .i64 t.kind,.string t.text,.slice ka len cap]) rfl ?_ ?_
             · exact ub7
             simp only[Act.put,pg]
             refine tG (i:=1) (.slice (some ⟨g,0,none⟩) k cap') rfl ?_
             simp only[Act.put,pg]
             refine tG (i:=2) (.int .i64 (j:Int)) rfl ?_
             simp only[Act.put,pg]
             refine tG (i:=3) (.pointer (some ⟨g,j*5,none⟩)) rfl ?_
             simp only[Act.put,pg]
             refine tG (i:=4) (.pointer (some ⟨g,j*5,none⟩)) rfl ?_
             simp only[Act.put,pg]
             refine tG (i:=5) (.pointer (some ⟨g,j*5,none⟩)) rfl ?_
             simp only[Act.put,pg]
             refine tJ (i:=6) (.int .i64 yi) rfl ?_ ?_
             · exact ub7
             simp only[Act.put,pg]
             refine rd [7,11] ?_
             refine AcQ (o:=_) rfl (fun K hK=>?_) (AcQ (o:=_) rfl (fun K hK=>?_) AnQ)
             · rw[ipQ uf0]
               simp only[pg3]
               have HK:=hH hK
               have HS:=hH uH
               clear hK uH
               go_wp2_with (go_at_call 19;refine (HFR.out _ HS.out).mono ?_;rintro e w6 ⟨⟨uid,ukd,utx,ya,um,yc,rfl⟩,hb4,_⟩;have H4:=hH hb4;clear hb4)
               refine HK.out _ _ H4.out (fun uH=>?_)
               clear HK HS
               refine tG (i:=8) (.tuple #[.agg #[.int .i64 uid,.int .i64 ukd,.string utx,.slice ya um yc],.bool bb]) rfl ?_
               simp only[Act.put,pg]
               refine tG (i:=9) (.agg #[.int .i64 uid,.int .i64 ukd,.string utx,.slice ya um yc]) rfl ?_
               simp only[Act.put,pg]
               refine tG (i:=10) (.bool bb) rfl ?_
               simp only[Act.put,pg]
               refine rd [11] ?_
               refine AcQ (o:=_) rfl (fun K hK=>?_) AnQ
               rw[ipQ uf0]
               simp only[pg3]
               have HK:=hH hK
               have HS:=hH uH
               clear hK uH
               go_wp2_with fail
               obtain⟨WA,hWA⟩:∃WA,WA=(World.alloc w6 (.cells #[.int .i64 0,.int .i64 0,.string ⟨#[]⟩,.slice none 0 0] 27)):=⟨_,rfl⟩
               rw[←hWA]
               have hza:WA.heap[w6.heap.size]? =some (.cells #[.int .i64 0,.int .i64 0,.string ⟨#[]⟩,.slice none 0 0] 27 (0,0)):=by rw[hWA];exact hanQ w6 _
               have hba:Below wo.heap.size wo WA:=by rw[hWA];exact HS.out.alloc HS.out.size _
               have HA:=hH (aN hza (aN hba (show wo.heap.size≤w6.heap.size from HS.out.size)))
               refine HK.out _ _ hba (fun uH=>?_)
               clear HK HS hza hba hWA
               refine rd [12] ?_
               refine AcQ (o:=_) rfl (fun K hK=>?_) AnQ
               rw[ipQ uf0]
               simp only[pg3]
               have HK:=hH hK
               have HS:=hH uH
               clear hK uH
               have hz:WA.heap[w6.heap.size]? =some (.cells #[.int .i64 0,.int .i64 0,.string ⟨#[]⟩,.slice none 0 0] 27 (0,0)):=HA.out.1
               have z0:WA.cell? ⟨w6.heap.size,0,none⟩=some (.int .i64 0):=by rw[corQ _ _ 0 _ _ _ hz];rfl
               have z1:WA.cell? ⟨w6.heap.size,1,none⟩=some (.int .i64 0):=by rw[corQ _ _ 1 _ _ _ hz];rfl
               have z2:WA.cell? ⟨w6.heap.size,2,none⟩=some (.string ⟨#[]⟩):=by rw[corQ _ _ 2 _ _ _ hz];rfl
               have z3:WA.cell? ⟨w6.heap.size,3,none⟩=some (.slice none 0 0):=by rw[corQ _ _ 3 _ _ _ hz];rfl
               have zf:∀j,WA.frozen? ⟨w6.heap.size,j,none⟩=false:=fun j=>forQ _ _ j _ _ hz
               obtain⟨V5,e5,r1,r2,r3,r4,r5,r6⟩:=zu (u0:= .int .i64 uid) (u1:= .int .i64 ukd) (u2:= .string utx) (u3:= .slice ya um yc) hz
               have hb5:Below wo.heap.size wo V5:=⟨r3.trans HS.out.os,r4.trans HS.out.tape,r5.trans HS.out.output,by rw[r6];exact HS.out.size,fun y hy=>(r2 y (by have:=HA.out.2.2;omega)).trans (HS.out.block y hy)⟩
               have h5c:V5.cell? ⟨w6.heap.size,0,none⟩=some (.int .i64 uid):=by rw[corQ _ _ 0 _ _ _ r1];rfl
               exact sa7
             · rw[ipQ uf0]
               simp only[pg3]
               have HK:=hH hK
               have HS:=hH uH
               clear hK uH
               go_wp2_with fail
               obtain⟨WA,hWA⟩:∃WA,WA=(World.alloc wo (.cells #[.int .i64 0,.int .i64 0,.string ⟨#[]⟩,.slice none 0 0] 27)).drew:=⟨_,rfl⟩
               rw[←hWA]
               have hza:WA.heap[wo.heap.size]? =some (.cells #[.int .i64 0,.int .i64 0,.string ⟨#[]⟩,.slice none 0 0] 27 (0,0)):=by rw[hWA];exact hanQ wo _
               have hba:Below wo.heap.size wo WA:=by rw[hWA];exact yT (zg _ _) 1
               have HA:=hH (aN hza (aN hba (show wo.heap.size≤wo.heap.size from NlrQ _)))
               refine HK.out _ _ hba (fun uH=>?_)
               clear HK HS hza hba hWA
               refine rd [7] ?_
               refine AcQ (o:=_) rfl (fun K hK=>?_) AnQ
               rw[ipQ uf0]
               simp only[pg3]
               have HK:=hH hK
               have HS:=hH uH
               clear hK uH
               go_wp2_with (go_at_call 19;refine (HFR.out _ HS.out).mono ?_;rintro e w6 ⟨⟨uid,ukd,utx,ya,um,yc,rfl⟩,hb4,hb4b⟩;have H4:=hH hb4;have H4b:=hH (hb4b.block _ (lohQ HA.out.1));clear hb4 hb4b)
               refine HK.out _ _ H4.out (fun uH=>?_)
               clear HK HS
               refine tG (i:=8) (.tuple #[.agg #[.int .i64 uid,.int .i64 ukd,.string utx,.slice ya um yc],.bool bb]) rfl ?_
               simp only[Act.put,pg]
               refine tG (i:=9) (.agg #[.int .i64 uid,.int .i64 ukd,.string utx,.slice ya um yc]) rfl ?_
               simp only[Act.put,pg]
               refine tG (i:=10) (.bool bb) rfl ?_
               simp only[Act.put,pg]
               refine rd [12] ?_
               refine AcQ (o:=_) rfl (fun K hK=>?_) AnQ
               rw[ipQ uf0]
               simp only[pg3]
               have HK:=hH hK
               have HS:=hH uH
               clear hK uH
               have hz:w6.heap[wo.heap.size]? =some (.cells #[.int .i64 0,.int .i64 0,.string ⟨#[]⟩,.slice none 0 0] 27 (0,0)):=(H4b.out).trans HA.out.1
               have z0:w6.cell? ⟨wo.heap.size,0,none⟩=some (.int .i64 0):=by rw[corQ _ _ 0 _ _ _ hz];rfl
               have z1:w6.cell? ⟨wo.heap.size,1,none⟩=some (.int .i64 0):=by rw[corQ _ _ 1 _ _ _ hz];rfl
               have z2:w6.cell? ⟨wo.heap.size,2,none⟩=some (.string ⟨#[]⟩):=by rw[corQ _ _ 2 _ _ _ hz];rfl
               have z3:w6.cell? ⟨wo.heap.size,3,none⟩=some (.slice none 0 0):=by rw[corQ _ _ 3 _ _ _ hz];rfl
               have zf:∀j,w6.frozen? ⟨wo.heap.size,j,none⟩=false:=fun j=>forQ _ _ j _ _ hz
               obtain⟨V5,e5,r1,r2,r3,r4,r5,r6⟩:=zu (u0:= .int .i64 uid) (u1:= .int .i64 ukd) (u2:= .string utx) (u3:= .slice ya um yc) hz
               have hb5:Below wo.heap.size wo V5:=⟨r3.trans HS.out.os,r4.trans HS.out.tape,r5.trans HS.out.output,by rw[r6];exact HS.out.size,fun y hy=>(r2 y (by have:=HA.out.2.2;omega)).trans (HS.out.block y hy)⟩
               have h5c:V5.cell? ⟨wo.heap.size,0,none⟩=some (.int .i64 uid):=by rw[corQ _ _ 0 _ _ _ r1];rfl
               exact sa7
           · have hki:¬(j:Int)<(k:Int):=by omega
             obtain rfl:j=k:=by omega
             have hfresh:qw (idT t) (idT x) 0=0:=by
              have h:=hh.out.2
              rw[List.take_of_length_le (by rw[HE.out.2.2.2.2.2.2.2.2.2.1];exact NlrQ _),HE.out.2.2.2.2.2.2.2.2.2.2.1] at h
              exact zib HE.out.2.2.2.2.2.2.2.2.2.2.2 h.1 h.2
             have hgo:=zkE HP.out.1 HP.out.2 (by rw[←HE.out.2.2.2.2.2.2.2.1];exact HPL.out) hfresh
             obtain⟨r,hr⟩:∃r,r=(mkT par z.text (yR z.kids pl x) false t).1:=⟨_,rfl⟩
             rw[←hr] at hgo
             have hbo:=hh.out.1
             have hb9w:=HE.out.1.trans (hbo.mono HE.out.1.size)
             have f0:=(hbo.block _ (lohQ HE.out.2.1)).trans HE.out.2.1
             have f1:=(hbo.block _ (lohQ HE.out.2.2.1)).trans HE.out.2.2.1
             have f2:=(hbo.block _ (lohQ HE.out.2.2.2.1)).trans HE.out.2.2.2.1
             have f3:=(hbo.block _ (lohQ HE.out.2.2.2.2.1)).trans HE.out.2.2.2.2.1
             have hvf9:zk wo S z.kids va:=HE.out.2.2.2.2.2.1.kept fun q hq=>⟨hq,hbo.block q (hSX.out w5 HE.out.1 q hq)⟩
             have HH:=hH (aN hb9w (aN f0 (aN f1 (aN f2 (aN f3 (aN hvf9 (aN HE.out.2.2.2.2.2.2.1 HE.out.2.2.2.2.2.2.2.1)))))))
             have hb2w:w.heap.size+1+1<wo.heap.size:=lohQ f2
             have HR:=hH (aN hr (aN hgo hb2w))
             have HMZ:Hid (zn≤500000):=hH (by have h1:=zM z.kids;have h2:=kC (fun _=>true) pp t z HP.out.2;rw[qh,qh] at h2;have h3:=HT.out.2.2.1;rw[HE.out.2.2.2.2.2.2.2.1];omega)
             have HZS:Hid (za z.kids+1≤2000):=hH (by have h2:=kC (fun _=>true) pp t z HP.out.2;rw[qh,qh] at h2;have h3:=HT.out.2.2.1;omega)
             have hN:G≠w.heap.size+1+1:=by have:=HGN.out;omega
             have HN:=hH hN
             clear hfresh hgo hr hbo hb9w f0 f1 f2 f3 hvf9 hb2w hN hh hlt hj HE
             have hkeep:∀X,Ym (w.heap.size+1+1) wo X→∀q,S q→X.heap[q]? =wo.heap[q]?:=fun X hX q hq=>hX.block q (hSX.out wo HH.out.1 q hq) (by have:=HT.out.2.1 q hq;omega)
             have hcl:∀X,Ym (w.heap.size+1+1) wo X→(X.cell? ⟨w.heap.size+1,2,none⟩=some (.int .i64 par)∧X.cell? ⟨w.heap.size+1,3,none⟩=some (.int .i64 (pl:Int))∧X.cell? ⟨w.heap.size+1,5,none⟩=some (.int .i64 x.id)∧X.cell? ⟨w.heap.size+1,6,none⟩=some (.int .i64 x.kind)∧X.cell? ⟨w.heap.size+1,7,none⟩=some (.string x.text)∧X.cell? ⟨w.heap.size+1,8,none⟩=some (.slice sa sn sc))∧(uf1 X w.heap.size t.id t.kind t.text ka len cap)∧(X.cell? ⟨G,2,none⟩=some (.string z.text)∧X.cell? ⟨G,3,none⟩=some (.slice va zn vc)):=fun X hX=>by
              have n1:w.heap.size+1≠w.heap.size+1+1:=by omega
              have n0:w.heap.size≠w.heap.size+1+1:=by omega
              have hs:=(hX.block _ (lohQ HH.out.2.2.1) n1).trans HH.out.2.2.1
              obtain⟨b0,b1,b2,b3⟩:=zF ((hX.block _ (lohQ HH.out.2.1) n0).trans HH.out.2.1)
              obtain⟨_,_,d2,d3⟩:=zF ((hX.block _ (lohQ HH.out.2.2.2.2.1) HN.out).trans HH.out.2.2.2.2.1)
              exact⟨⟨by rw[corQ _ _ 2 _ _ _ hs];rfl,by rw[corQ _ _ 3 _ _ _ hs];rfl,by rw[corQ _ _ 5 _ _ _ hs];rfl,by rw[corQ _ _ 6 _ _ _ hs];rfl,by rw[corQ _ _ 7 _ _ _ hs];rfl,by rw[corQ _ _ 8 _ _ _ hs];rfl⟩,⟨b0,b1,b2,b3⟩,d2,d3⟩
             have HC8:Hid (∀X,Ym (w.heap.size+1+1) wo X→Calls Try.prog 93 #[.slice va zn vc,.int .i64 (pl:Int),.agg #[.int .i64 x.id,.int .i64 x.kind,.string x.text,.slice sa sn sc]] X (zeR z.kids pl x S X)):=hH fun X hX=>by
              have k1:=hkeep X hX
              exact zdm X _ z.kids va zn vc x sa sn sc pl HH.out.2.2.2.2.2.2.2 (by rw[HH.out.2.2.2.2.2.2.2];exact HH.out.2.2.2.2.2.2.1) (HH.out.2.2.2.2.2.1.kept fun q hq=>⟨hq,k1 q hq⟩) (fun q hq=>nL (hSX.out wo HH.out.1 q hq) hX.size) HT.out.2.2.2.2.2.2.1 ⟨HT.out.2.2.2.2.2.2.2,(HXK.out wo HH.out.1).kept fun q hq=>⟨hq,k1 q hq⟩⟩ HPL.out HMZ.out
             have HCX:=hH hcl
             have HKP:=hH hkeep
             have hbt:Ym (w.heap.size+1+1) wo (wo.drewN 1):=⟨rfl,rfl,rfl,NlrQ _,fun _ _ _=>rfl⟩
             clear hcl hkeep
             go_wp2_with fail
             refine wrhQ (S:=fun X=>Ym (w.heap.size+1+1) wo X) kr1 hbt (fun uH=>?_)
             clear hbt
             refine tJ (i:=0) (.agg #[.int .i64 t.id,.int .i64 t.kind,.string t.text,.slice ka len cap]) rfl ?_ ?_
             · exact ub8
             simp only[Act.put,pg]
             refine tJ (i:=1) (.pointer (some ⟨w.heap.size+1,2,none⟩)) rfl ?_ ?_
             · exact ub8
             simp only[Act.put,pg]
             refine tJ (i:=2) (.int .i64 par) rfl ?_ ?_
             · exact ub8
             simp only[Act.put,pg]
             refine tJ (i:=3) (.pointer (some ⟨G,3,none⟩)) rfl ?_ ?_
             · exact ub8
             simp only[Act.put,pg]
             refine tJ (i:=4) (.slice va zn vc) rfl ?_ ?_
             · exact ub8
             simp only[Act.put,pg]
             refine tJ (i:=5) (.pointer (some ⟨w.heap.size+1,3,none⟩)) rfl ?_ ?_
             · exact ub8
             simp only[Act.put,pg]
             refine tJ (i:=6) (.int .i64 (pl:Int)) rfl ?_ ?_
             · exact ub8
             simp only[Act.put,pg]
             refine tJ (i:=7) (.pointer (some ⟨w.heap.size+1,5,none⟩)) rfl ?_ ?_
             · exact ub8
             simp only[Act.put,pg]
             refine tJ (i:=8) (.agg #[.int .i64 x.id,.int .i64 x.kind,.string x.text,.slice sa sn sc]) rfl ?_ ?_
             · exact ub8
             simp only[Act.put,pg]
             refine tJ (i:=10) (.pointer (some ⟨G,2,none⟩)) rfl ?_ ?_
             · exact ub8
             simp only[Act.put,pg]
             refine tJ (i:=11) (.string z.text) rfl ?_ ?_
             · exact ub8
             simp only[Act.put,pg]
             refine rd [9] ?_
             refine AcQ (o:=_) rfl (fun K hK=>?_) AnQ
             rw[ipQ uf0]
             simp only[pg3]
             have HK:=hH hK
             have HS:=hH uH
             clear hK uH
             go_wp2_with (go_at_call 93;refine (HC8.out _ HS.out).mono ?_;rintro e X1 ⟨ia,inn,ic,rfl,hin,hic,_,hif,hib⟩;have HIN:=hH hin;clear hin)
             have hin:=HIN.out
             clear HIN
             have hS1:=HS.out.on hib
             have hsz1:∀q,S q→q<X1.heap.size:=fun q hq=>nL (hSX.out wo HH.out.1 q hq) hS1.size
             have k3:=HKP.out _ hS1
             have hcp:=Q5 X1 (fun q=>q<X1.heap.size) par z.text (yR z.kids pl x) ia inn ic (.agg #[.int .i64 t.id,.int .i64 t.kind,.string t.text,.slice ka len cap]) t hin (by rw[kS z.kids pl x (by rw[←HH.out.2.2.2.2.2.2.2];exact HPL.out)];have h1:=HZS.out;have h3:=HT.out.2.2.2.2.1;omega) hic (by have:=HT.out.2.2.1;omega) (fun q hq=>hq) (hif.kept fun q hq=>⟨by rcases hq with hq | hq;exact hsz1 q hq;exact hq.2,rfl⟩) (by
              obtain⟨ka9,c9,e9,hc9,hf9⟩:=HT.out.1 wo HH.out.1
              exact⟨ka9,c9,e9,hc9,hf9.kept fun q hq=>⟨hsz1 q hq,k3 q hq⟩⟩)
             rw[←HR.out.1] at hcp
             have hS1z:=hib.block _ (nL HR.out.2.2 HS.out.size)
             have hz1:X1.heap[w.heap.size+1+1]? =some (.cells #[.int .i64 0,.int .i64 0,.string ⟨#[]⟩,.slice none 0 0] 27 (0,0)):=hS1z.trans HH.out.2.2.2.1
             have HCP:=hH (aN hcp (aN hz1 hS1))
             refine HK.out _ _ hS1 (fun uH=>?_)
             clear HK HS hS1 hcp hz1 hS1z k3 hsz1 hin hic hif hib HC8
             refine rd [12] ?_
             refine AcQ (o:=_) rfl (fun K hK=>?_) AnQ
             rw[ipQ uf0]
             simp only[pg3]
             have HK:=hH hK
             clear hK uH
             go_wp2_with (go_at_call 61;refine HCP.out.1.mono ?_;rintro e X2 ⟨pa,pc,rfl,hpc,hpf,hpb⟩)
             obtain⟨pn,hpn⟩:∃pn,pn=foLen r.kids:=⟨_,rfl⟩
             rw[←hpn] at hpc ⊢
             have hS2:=HCP.out.2.2.on hpb
             have hz2:=(hpb.block _ (lohQ HCP.out.2.1)).trans HCP.out.2.1
             have HX2:=hH (aN hz2 (aN hS2 (aN hpc (aN hpf (aN hpb (aN hpn (nL HR.out.2.2 HCP.out.2.2.size)))))))
             obtain⟨y0,y1,y2,y3⟩:=zF hz2
             have gz:∀j,X2.frozen? ⟨w.heap.size+1+1,j,none⟩=false:=fun j=>forQ _ _ j _ _ hz2
             have HZ:=hH (zX hz2 (.int .i64 r.id) (.int .i64 r.kind) (.string r.text) (.slice pa pn pc))
             refine HK.out _ _ hS2 (fun uH=>?_)
             clear HK hS2 hz2 hpc hpf hpb hpn
             refine rd [13] ?_
             refine AcQ (o:=_) rfl (fun K hK=>?_) AnQ
             rw[ipQ uf0]
             simp only[pg3]
             have HK:=hH hK
             clear hK uH
             go_wp2_with fail
             have hS3:Ym (w.heap.size+1+1) wo ((((X2.setCell ⟨w.heap.size+1+1,0,none⟩ (.int .i64 r.id)).setCell ⟨w.heap.size+1+1,1,none⟩ (.int .i64 r.kind)).setCell ⟨w.heap.size+1+1,2,none⟩ (.string r.text)).setCell ⟨w.heap.size+1+1,3,none⟩ (.slice pa pn pc)):=by
              exact sf4
             have HEND:Hid (jQ (zN par (pl:Int) x t) w (.returned (.tuple #[.agg #[.int .i64 r.id,.int .i64 r.kind,.string r.text,.slice pa pn pc],.int .i64 0])) ((((X2.setCell ⟨w.heap.size+1+1,0,none⟩ (.int .i64 r.id)).setCell ⟨w.heap.size+1+1,1,none⟩ (.int .i64 r.kind)).setCell ⟨w.heap.size+1+1,2,none⟩ (.string r.text)).setCell ⟨w.heap.size+1+1,3,none⟩ (.slice pa pn pc))):=hH (by
              refine⟨r,pa,pc,0,by rw[←HX2.out.2.2.2.2.2.1],by rw[←HX2.out.2.2.2.2.2.1];exact HX2.out.2.2.1,?_,?_,fun _=>HR.out.2.1,fun h=>absurd rfl h⟩
              · have hl:=HX2.out.2.2.2.2.2.2
                exact sg3
              · have hb9:=HH.out.1
                exact⟨hS3.os.trans hb9.os,hS3.tape.trans hb9.tape,hS3.output.trans hb9.output,NltQ hb9.size hS3.size,fun q hq=>(hS3.block q (nL hq hb9.size) om).trans (hb9.block q hq)⟩)
             refine HK.out _ _ hS3 (fun uH=>?_)
             clear HK hS3 y0 y1 y2 y3 gz
             refine tG (i:=14) (.int .i64 0) rfl ?_
             exact se3
end Go.Proofs.Ytnikgofkldkdkaa
