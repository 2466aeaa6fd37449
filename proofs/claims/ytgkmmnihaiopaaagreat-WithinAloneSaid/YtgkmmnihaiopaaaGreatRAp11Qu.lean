/-
  .
-/
import Derived.Test.YtgkmmnihaiopaaaGreatRInsertQu
import Derived.Test.YtgkmmnihaiopaaaGreatRParPQu
import Derived.Test.YtgkmmnihaiopaaaGreatRDoQu
import Derived.Test.YtgkmmnihaiopaaaGreatRCheck11Qu
import Derived.Test.YtgkmmnihaiopaaaGreatJPgQu
import Derived.Test.YtgkmmnihaiopaaaGreatJPsQu
set_option maxRecDepth 100000
set_option maxHeartbeats 40000000
set_option linter.unusedVariables false
set_option linter.unusedSimpArgs false
namespace Go.Proofs.YtgkmmnihaiopaaaGreat
open Go.RowKit Go.Shelf
structure ziM (W0:World) (er:Int) (y:Tr) (ya:Option Addr) (ym yc:Nat) (xb:Nat) (V:World):Prop where
 below:Below W0.heap.size W0 V
 cell:V.heap[xb]? =some (.cells #[.int .i64 y.id,.int .i64 y.kind,.string y.text,.slice ya ym yc] 27 (0,0))
 new:W0.heap.size≤xb
 len:ym=foLen y.kids
 cap:ym≤yc
 kids:zu V (fun q=>W0.heap.size≤q∧q<V.heap.size∧q≠xb) y.kids ya
structure zb7 (E:Nat→Prop) (B:World) (XB:Nat) (x:Tr) (va:Option Addr) (vn vc:Nat) (wr:World):Prop where
 but:Z9 XB B wr
 inE:E XB
 ltE:∀q,E q→q<B.heap.size
 cell:wr.heap[XB]? =some (.cells #[.int .i64 x.id,.int .i64 x.kind,.string x.text,.slice va vn vc] 27 (0,0))
 len:vn=foLen x.kids
 lies:zaL wr E x.kids va vc
theorem zb7.next {E:Nat→Prop} {B wr V:World} {XB xb:Nat} {x y:Tr} {va ya:Option Addr} {vn vc ym yc:Nat} {er:Int} (h:zb7 E B XB x va vn vc wr) (d:ziM wr er y ya ym yc xb V):
 zb7 E B XB y ya ym yc ((((V.setCell ⟨XB,0,none⟩ (.int .i64 y.id)).setCell ⟨XB,1,none⟩ (.int .i64 y.kind)).setCell ⟨XB,2,none⟩ (.string y.text)).setCell ⟨XB,3,none⟩ (.slice ya ym yc)):=by
 have hlt:=lohQ h.cell
 have hc:=(d.below.block _ hlt).trans h.cell
 have hs:=zW hc (.int .i64 y.id) (.int .i64 y.kind) (.string y.text) (.slice ya ym yc)
 have h1:=h.but.on d.below
 have k:=hs.2.1 _ (Nat.le_refl _)
 have h5:=h.but.size
 refine⟨⟨k.os.trans h1.os,k.tape.trans h1.tape,k.output.trans h1.output,Nat.le_trans h1.size k.size,fun q h2 h3=>(hs.2.2 q h3).trans (h1.block q h2 h3)⟩,h.inE,h.ltE,hs.1,d.len,by rw[←d.len];exact d.cap,d.kids.kept fun q hq=>⟨⟨nL hq.2.1 k.size,fun he=>by have h6:=h.ltE q he;have:=hq.1;omega⟩,hs.2.2 q (by have:=hq.1;omega)⟩⟩
theorem zjy {op:Int} (h:(Lit.int .i8 op).wf=true): -128≤op∧op≤127:=by
 have h2:(decide (IntKind.i8.min≤op) && decide (op≤IntKind.i8.max))=true:=h
 obtain⟨h3,h4⟩:=(Bool.and_eq_true _ _).mp h2
 have h3:=of_decide_eq_true h3
 have h4:=of_decide_eq_true h4
 have e1:IntKind.i8.min= -128:=by decide
 have e2:IntKind.i8.max=127:=by decide
 rw[e1] at h3;rw[e2] at h4
 exact⟨h3,h4⟩
end Go.Proofs.YtgkmmnihaiopaaaGreat
namespace Go.Proofs.YtgkmmnihaiopaaaGreat
open Go.RowKit Go.Shelf
theorem JZ {g:Gr}:∀{l:List Sf} {k:Nat} {t x:Tr} {s:Sf},goT g t (l.take k)=some x→l[k]? =some s→(doK g (s.on x)).2≠0→goT g t l=none
 | [],k,t,x,s,_,hs,_=>by simp at hs
 | r ::l,0,t,x,s,h,hs,hn=>by
   simp at hs;subst hs
   rw[List.take_zero] at h;cases h
   rw[goT,if_neg hn]
 | r ::l,k+1,t,x,s,h,hs,hn=>by
   rw[List.take_succ_cons,goT] at h
   rw[goT]
   split at h
   · rename_i hr;rw[if_pos hr];exact JZ h (by simpa using hs) hn
   · cases h
theorem zdr {g:Gr} {t:Tr} {s:Sf} (h0:(doK g (s.on t)).2=0):qB (doK g (s.on t)).1:=by
 unfold doK at h0 ⊢
 split at h0
 · rename_i h1
   split at h0
   · rename_i h2;rw[if_pos h1,if_pos h2];exact (kS h2).1
   · rename_i h2;exact absurd h0 h2
 · rename_i h1;exact absurd h0 h1
theorem zio {w X:World} {g:Gr} {x:Tr} {s:SV} {ga va:Option Addr} {gn gc vn vc sn:Nat} {E:Nat→Prop} (hgn:gn=g.kinds.length) (hg:GrV X (.agg #[.slice ga g.kinds.length gc,.int .i64 g.root]) g) (hf:g.few) (hl:zaL X E x.kids va vc) (hvn:vn=foLen x.kids) (hw:Way x) (hd:qB x) (hsn:sn=foLen s.s.sub.kids) (hs:Zx w s) (hwX:Below w.heap.size w X) (hfit:kW s.s):
 Calls Tryz.prog 38 #[.agg #[.slice ga gn gc,.int .i64 g.root],.agg #[.int .i64 x.id,.int .i64 x.kind,.string x.text,.slice va vn vc],.agg #[.int .i8 s.s.op,.int .i64 s.s.id,.int .i64 s.s.par,.int .i64 s.s.at_,.string s.s.tx,.int .i64 s.s.sub.id,.int .i64 s.s.sub.kind,.string s.s.sub.text,.slice s.a sn s.c]] X (jE (doK g (s.s.on x)) X):=by
 have h:=zin X (fun q=>q<X.heap.size) (.agg #[.slice ga g.kinds.length gc,.int .i64 g.root]) g x s.s.sub s.s.op s.s.id s.s.par s.s.at_ s.s.tx va s.a vn vc sn s.c hg hf hvn hsn hd (by have:=zK x.kids;have:=hw.size;omega) (jy _ (by have:=hw.size;omega)) (by have:=zK s.s.sub.kids;have:=hfit.size;omega) (jy _ (by have:=hfit.size;omega)) (fun q hq=>hq) hl.1 (hl.2.kept fun q hq=>⟨hq.1,rfl⟩) hs.1 (hs.2.kept fun q hq=>⟨nL hq hwX.size,hwX.block q hq⟩) (zjy hfit.op) hw.ok hfit.ok hfit.tx
 have e:stepG s.s.op s.s.id s.s.par s.s.at_ s.s.tx s.s.sub x=s.s.on x:=by
  unfold stepG;rw[if_pos ⟨by have:=hw.size;omega,by have:=hfit.size;omega⟩];rfl
 rw[e] at h
 rw[hgn];exact h
def zjm (g:Gr) (t:Tr) (l:List Sf) (w:World) (e:Ending) (w' :World):Prop:=∃(x:Tr) (va:Option Addr) (vc:Nat) (at_ er:Int),e= .returned (.tuple #[.agg #[.int .i64 x.id,.int .i64 x.kind,.string x.text,.slice va (foLen x.kids) vc],.int .i64 at_,.int .i64 er])∧foLen x.kids≤vc∧zu w' (fun q=>q<w'.heap.size) x.kids va∧Below w.heap.size w w'∧(kI l=true→∀y,goT g t l=some y→er=0∧x=y)
theorem Jl {g:Gr} {t x:Tr} {l:List Sf} {w X:World} {R:Nat} {va:Option Addr} {vn vc:Nat} {at_ er:Int} (hb:Below w.heap.size w X) (hz:X.heap[R]? =some (.cells #[.int .i64 0,.int .i64 0,.string ⟨#[]⟩,.slice none 0 0] 27 (0,0))) (hR:w.heap.size≤R) (hvn:vn=foLen x.kids) (hc:foLen x.kids≤vc) (hk:zu X (fun q=>q<X.heap.size∧q≠R) x.kids va) (h:kI l=true→∀y,goT g t l=some y→er=0∧x=y):
 zjm g t l w (.returned (.tuple #[.agg #[.int .i64 x.id,.int .i64 x.kind,.string x.text,.slice va vn vc],.int .i64 at_,.int .i64 er])) ((((X.setCell ⟨R,0,none⟩ (.int .i64 x.id)).setCell ⟨R,1,none⟩ (.int .i64 x.kind)).setCell ⟨R,2,none⟩ (.string x.text)).setCell ⟨R,3,none⟩ (.slice va vn vc)):=by
 have hs:=zW hz (.int .i64 x.id) (.int .i64 x.kind) (.string x.text) (.slice va vn vc)
 have k:=hs.2.1 _ (Nat.le_refl _)
 subst hvn
 exact⟨x,va,vc,at_,er,rfl,hc,hk.kept fun q hq=>⟨nL hq.1 k.size,hs.2.2 q hq.2⟩,hb.trans (hs.2.1 _ hR),h⟩
theorem zfQ (w:World) (g:Gr) (t:Tr) (ga ta la:Option Addr) (gn gc tn tc n c:Nat) (vs:List SV) (hgn:gn=g.kinds.length) (hg:GrV w (.agg #[.slice ga g.kinds.length gc,.int .i64 g.root]) g) (hf:g.few) (htn:tn=foLen t.kids) (ht:jC w t.kids ta tc) (hw:Way t) (hd:qB t) (hn:n=vs.length) (h:Row w la vs):
 Calls Tryz.prog 16 #[.agg #[.slice ga gn gc,.int .i64 g.root],.agg #[.int .i64 t.id,.int .i64 t.kind,.string t.text,.slice ta tn tc],.slice la n c] w (zjm g t (steps vs) w):=by
 obtain⟨B,hB⟩:∃B,B=zt w [.cells #[.slice ga gn gc,.int .i64 g.root] 24,.cells #[.int .i64 t.id,.int .i64 t.kind,.string t.text,.slice ta tn tc] 27,.cells #[.int .i64 0,.int .i64 0,.string ⟨#[]⟩,.slice none 0 0] 27]:=⟨_,rfl⟩
 have hb:Below w.heap.size w B:=by rw[hB];exact zm _ _
 have eg:B.heap[w.heap.size]? =some (.cells #[.slice ga gn gc,.int .i64 g.root] 24 (0,0)):=by rw[hB];exact zi _ _ 0 _ rfl
 have e0:B.heap[w.heap.size+1]? =some (.cells #[.int .i64 t.id,.int .i64 t.kind,.string t.text,.slice ta tn tc] 27 (0,0)):=by rw[hB];exact zi _ _ 1 _ rfl
 have e2:B.heap[w.heap.size+1+1]? =some (.cells #[.int .i64 0,.int .i64 0,.string ⟨#[]⟩,.slice none 0 0] 27 (0,0)):=by rw[hB];exact zi _ _ 2 _ rfl
 have hck:=zbV B la n c vs hn (h.on hb)
 have hcp:∀X,Below w.heap.size w X→Calls Tryz.prog 37 #[.agg #[.int .i64 t.id,.int .i64 t.kind,.string t.text,.slice ta tn tc]] X (Jp t X):=fun X hX=>zbb 1000 X (fun q=>q<w.heap.size) _ t (by have:=hw.size;omega) (by have:=hw.size;omega) (fun q hq=>nL hq hX.size) (by rw[htn];exact ht.at hX)
 have hn60:kI (steps vs)=true→n≤60:=fun ho=>by have:=((jA _).1 ho).1;rw[qM] at this;omega
 have hnl:n≤1000000:=by rw[hn];exact h.len
 have HCP:=hH hcp
 have HCK:=hH hck
 have H:=hH (aN hgn (aN hg (aN hf (aN hw (aN hd (aN hn h))))))
 have HB:=hH (aN hb (aN eg (aN e0 e2)))
 have HBE:=hH hB
 clear hb eg e0 e2 hB hck hcp hn60 hgn hg hf htn ht hw hd hn h
 go_enter Tryz.func16,Tryz.ntmps16
 go_upto_region 1 with fail
 change Code.wp _ _ _ _ (zt w [.cells #[.slice ga gn gc,.int .i64 g.root] 24,.cells #[.int .i64 t.id,.int .i64 t.kind,.string t.text,.slice ta tn tc] 27,.cells #[.int .i64 0,.int .i64 0,.string ⟨#[]⟩,.slice none 0 0] 27])
 rw[←HBE.out]
 clear HBE
 obtain⟨m,hm⟩:∃m,m=jZ (steps vs):=⟨_,rfl⟩
 unfold zjf at HCK
 rw[←hm] at HCK
 have HM:=hH hm
 clear hm
 go_wp2_with fail
 refine HCK.out.mono ?_
 rintro e w1 ⟨rfl,hb1⟩
 have hbw:=HB.out.1.trans (hb1.mono HB.out.1.size)
 have f0:=(hb1.block _ (lohQ HB.out.2.1)).trans HB.out.2.1
 have f1:=(hb1.block _ (lohQ HB.out.2.2.1)).trans HB.out.2.2.1
 have f2:=(hb1.block _ (lohQ HB.out.2.2.2)).trans HB.out.2.2.2
 have H1:=hH (aN hbw (aN f0 (aN f1 f2)))
 obtain⟨p0,p1,p2,p3⟩:=zG f1
 clear hbw f0 f1 f2 hb1 HB HCK
 have HC1:=hH (HCP.out w1 H1.out.1)
 by_cases h0:m=0
 rotate_left
 · have hmb:(m == 0)=false:=by simpa using h0
   have hmn:(m != 0)=true:=by simpa using h0
   have HNO:Hid (¬kI (steps vs)=true):=hH fun ho=>by rw[HM.out] at h0;unfold jZ at h0;rw[if_pos ho] at h0;exact h0 rfl
   clear h0
   go_wp2_with fail
   refine HC1.out.mono ?_
   rintro e w2 ⟨_,rfl,⟨va,vc,rfl,hvc,hvf⟩,hb2⟩
   obtain⟨vn,hvn⟩:∃vn,vn=foLen t.kids:=⟨_,rfl⟩
   rw[←hvn]
   have hz:=(hb2.block _ (lohQ H1.out.2.2.2)).trans H1.out.2.2.2
   have HEE:=hH (Jl (g:=g) (t:=t) (l:=steps vs) (at_:=0) (er:=3) (H1.out.1.trans (hb2.mono H1.out.1.size)) hz om hvn hvc (hvf.kept fun q hq=>⟨⟨hq.2,by have:=hq.1;have:=lohQ H1.out.2.2.2;omega⟩,rfl⟩) (fun ho=>absurd ho HNO.out))
   obtain⟨z0,z1,z2,z3⟩:=zG hz
   have gz:∀j,w2.frozen? ⟨w.heap.size+1+1,j,none⟩=false:=fun j=>forQ _ _ j _ _ hz
   have HZ:=hH (zW hz (.int .i64 t.id) (.int .i64 t.kind) (.string t.text) (.slice va vn vc))
   clear p0 p1 p2 p3 hvc hvf hb2 hvn hz
   go_wp2_with fail
   exact brQ (vJ rfl _ _ (w.heap.size+1+1) 27 _ _ _ (.int .i64 0) (.int .i64 3) rfl HZ.out.1 Tryz.underlying27 rfl kr1 rfl rfl) rfl HEE.out
 subst h0
 have hok:kI (steps vs)=true:=by
  have hx:=HM.out
  unfold jZ at hx
  split at hx
  · assumption
  · cases hx
 have HOK:=hH hok
 clear hok HM
 go_wp2_with fail
 refine HC1.out.mono ?_
 rintro e w2 ⟨_,rfl,⟨va,vc,rfl,hvc,hvf⟩,hb2⟩
 clear p0 p1 p2 p3 HC1
 obtain⟨vn,hvn⟩:∃vn,vn=foLen t.kids:=⟨_,rfl⟩
 rw[←hvn]
 obtain⟨W3,hW3⟩:∃W3,W3=w2.alloc (.cells #[.int .i64 t.id,.int .i64 t.kind,.string t.text,.slice va vn vc] 27):=⟨_,rfl⟩
 have hb3:Below w1.heap.size w1 W3:=hb2.trans (by rw[hW3];exact (BrQ _ _).alloc hb2.size _)
 have eX:W3.heap[w2.heap.size]? =some (.cells #[.int .i64 t.id,.int .i64 t.kind,.string t.text,.slice va vn vc] 27 (0,0)):=by rw[hW3];exact hanQ _ _
 have h23:W3.heap.size=w2.heap.size+1:=by rw[hW3,WsaQ]
 have hvf3:zu W3 (fun q=>w1.heap.size≤q∧q<w2.heap.size) t.kids va:=hvf.kept fun q hq=>⟨hq,by rw[hW3];exact BhaQ _ _ _ hq.2⟩
 obtain⟨XB,hXB⟩:∃XB,XB=w2.heap.size:=⟨_,rfl⟩
 rw[←hXB] at eX
 have hbw:=H1.out.1.trans (hb3.mono H1.out.1.size)
 have f0:=(hb3.block _ (lohQ H1.out.2.1)).trans H1.out.2.1
 have f1:=(hb3.block _ (lohQ H1.out.2.2.1)).trans H1.out.2.2.1
 have f2:=(hb3.block _ (lohQ H1.out.2.2.2)).trans H1.out.2.2.2
 have hXR:w.heap.size+1+1<XB:=by rw[hXB];exact nL (lohQ H1.out.2.2.2) hb2.size
 have hL0:zb7 (fun q=>q=XB∨q=w.heap.size+1+1) W3 XB t va vn vc W3:=⟨⟨rfl,rfl,rfl,Nat.le_refl _,fun _ _ _=>rfl⟩,Or.inl rfl,fun q hq=>by rcases hq with rfl | rfl<;>omega,eX,hvn,hvc,hvf3.kept fun q hq=>⟨⟨by have:=hq.2;omega,fun hE=>by rcases hE with rfl | rfl;have:=hq.2;omega;have:=hq.1;have:=lohQ H1.out.2.2.2;omega⟩,rfl⟩⟩
 have HL0:=hH hL0
 have H3:=hH (aN hbw (aN f0 (aN f1 (aN f2 hXR))))
 have HW3:=hH hW3
 clear hvc hvf hb2 hvn hW3 hb3 eX h23 hvf3 hbw f0 f1 f2 hXR hL0 H1
 go_upto_region 4 with fail
 change Code.wp _ _ _ _ (w2.alloc (.cells #[.int .i64 t.id,.int .i64 t.kind,.string t.text,.slice va vn vc] 27))
 rw[←HW3.out,←hXB]
 clear HW3 hXB
 go_wp2_with fail
 go_loopw [10] (fun i wr=>∃k:Nat,k≤n∧i= .int .i64 (k:Int)∧Hid (∃x va vn vc,goT g t ((steps vs).take k)=some x∧Way x∧qB x∧zb7 (fun q=>q=XB∨q=w.heap.size+1+1) W3 XB x va vn vc wr)) (fun i _=>n - (intOf i).toNat)
 case atStart=>exact⟨0,Nat.zero_le _,rfl,hH ⟨t,va,vn,vc,rfl,H.out.2.2.2.1,H.out.2.2.2.2.1,HL0.out⟩⟩
 case round=>
  obtain⟨k,hk,rfl,hh⟩:=hrel
  obtain⟨wo,hwo⟩:∃wo,wo=wr:=⟨_,rfl⟩
  subst hwo
  clear HL0
  obtain⟨x,va,vn,vc,hgo,hwx,hdx,hL⟩:=hh.out
  clear hh
  have hfar:∀q,q<W3.heap.size→q≠XB→wo.heap[q]? =W3.heap[q]?:=hL.but.block
  have g0h:=(hfar _ (lohQ H3.out.2.1) (by have:=H3.out.2.2.2.2;omega)).trans H3.out.2.1
  have t0h:=(hfar _ (lohQ H3.out.2.2.1) (by have:=H3.out.2.2.2.2;omega)).trans H3.out.2.2.1
  have r0h:=(hfar _ (lohQ H3.out.2.2.2.1) (by have:=H3.out.2.2.2.2;omega)).trans H3.out.2.2.2.1
  have hbw:Below w.heap.size w wo:=⟨hL.but.os.trans H3.out.1.os,hL.but.tape.trans H3.out.1.tape,hL.but.output.trans H3.out.1.output,Nat.le_trans H3.out.1.size hL.but.size,fun q hq=>(hfar q (nL hq H3.out.1.size) (by have:=H3.out.2.2.2.2;omega)).trans (H3.out.1.block q hq)⟩
  by_cases hlt:k<n
  · have hki:(k:Int)<(n:Int):=by omega
    obtain⟨s,hs⟩:∃s,vs[k]? =some s:=⟨_,List.getElem?_eq_getElem (by rw[←H.out.2.2.2.2.2.1];exact hlt)⟩
    obtain⟨b,off,rfl,hbl,hcell⟩:=H.out.2.2.2.2.2.2.cells k s hs
    obtain⟨sn,hsn⟩:∃sn,sn=foLen s.s.sub.kids:=⟨_,rfl⟩
    have hrow:∀X,Below wo.heap.size wo X→∀(j:Nat) (u:Value),(zeO s.s s.a s.c)[j]? =some u→X.cell? ⟨b,off+k*9+j,none⟩=some u:=fun X hX j u hj=>((hbw.trans (hX.mono hbw.size)).cell (p:=⟨b,off+k*9+j,none⟩) hbl).trans (hcell j u hj)
    have hmem:=List.mem_of_getElem? hs
    have hcx:∀X,Below wo.heap.size wo X→(X.cell? ⟨w.heap.size,0,none⟩=some (.slice ga gn gc)∧X.cell? ⟨w.heap.size,1,none⟩=some (.int .i64 g.root))∧(X.cell? ⟨XB,0,none⟩=some (.int .i64 x.id)∧X.cell? ⟨XB,1,none⟩=some (.int .i64 x.kind)∧X.cell? ⟨XB,2,none⟩=some (.string x.text)∧X.cell? ⟨XB,3,none⟩=some (.slice va vn vc))∧X.cell? ⟨b,off+k*9,none⟩=some (.int .i8 s.s.op)∧X.cell? ⟨b,off+k*9+1,none⟩=some (.int .i64 s.s.id)∧X.cell? ⟨b,off+k*9+2,none⟩=some (.int .i64 s.s.par)∧X.cell? ⟨b,off+k*9+3,none⟩=some (.int .i64 s.s.at_)∧X.cell? ⟨b,off+k*9+4,none⟩=some (.string s.s.tx)∧X.cell? ⟨b,off+k*9+5,none⟩=some (.int .i64 s.s.sub.id)∧X.cell? ⟨b,off+k*9+6,none⟩=some (.int .i64 s.s.sub.kind)∧X.cell? ⟨b,off+k*9+7,none⟩=some (.string s.s.sub.text)∧X.cell? ⟨b,off+k*9+8,none⟩=some (.slice s.a sn s.c):=fun X hX=>by
     have eg:=(hX.block _ (lohQ g0h)).trans g0h
     exact⟨⟨by rw[corQ _ _ 0 _ _ _ eg];rfl,by rw[corQ _ _ 1 _ _ _ eg];rfl⟩,zG ((hX.block _ (lohQ hL.cell)).trans hL.cell),hrow X hX 0 _ rfl,hrow X hX 1 _ rfl,hrow X hX 2 _ rfl,hrow X hX 3 _ rfl,hrow X hX 4 _ rfl,hrow X hX 5 _ rfl,hrow X hX 6 _ rfl,hrow X hX 7 _ rfl,hrow X hX 8 _ (by rw[hsn];rfl)⟩
    obtain⟨r,hr⟩:∃r,r=doK g (s.s.on x):=⟨_,rfl⟩
    have hcall:∀X,Below wo.heap.size wo X→Calls Tryz.prog 38 #[.agg #[.slice ga gn gc,.int .i64 g.root],.agg #[.int .i64 x.id,.int .i64 x.kind,.string x.text,.slice va vn vc],.agg #[.int .i8 s.s.op,.int .i64 s.s.id,.int .i64 s.s.par,.int .i64 s.s.at_,.string s.s.tx,.int .i64 s.s.sub.id,.int .i64 s.s.sub.kind,.string s.s.sub.text,.slice s.a sn s.c]] X (jE r X):=fun X hX=>by
     have hwX:=hbw.trans (hX.mono hbw.size)
     rw[hr]
     exact zio H.out.1 (H.out.2.1.below hwX) H.out.2.2.1 (hL.lies.on hX) hL.len hwx hdx hsn (H.out.2.2.2.2.2.2.lies s hmem) hwX (H.out.2.2.2.2.2.2.fit s hmem)
    have HCALL:=hH hcall
    have HCX:=hH hcx
    have hfit:=H.out.2.2.2.2.2.2.fit s hmem
    have hss:=Qf hs
    have HR:=hH (aN hgo (aN hwx (aN hdx (aN hL (aN hbw (aN t0h (aN r0h (aN hlt (aN hr (aN hss hfit))))))))))
    clear hgo hwx hdx hL hbw t0h r0h g0h hlt hr hss hfit hs hbl hcell hsn hrow hmem hcx hcall hfar hk
    go_upto_region 7 with fail
    refine wp_region_held_drew (S:=fun X=>Below wo.heap.size wo X) kr1 (yN (BrQ _ wo) 1) (fun hHeld=>?_)
    refine tJ (i:=0) (.agg #[.slice ga gn gc,.int .i64 g.root]) rfl ?_ ?_
    · clear hHeld;intro X hSw;obtain⟨⟨g0,g1⟩,⟨b0,b1,b2,b3⟩,a0,a1,a2,a3,a4,a5,a6,a7,a8⟩:=HCX.out X hSw;clear hSw;go_simp
    simp only[Act.put,pg]
    refine tJ (i:=1) (.agg #[.int .i64 x.id,.int .i64 x.kind,.string x.text,.slice va vn vc]) rfl ?_ ?_
    · clear hHeld;intro X hSw;obtain⟨⟨g0,g1⟩,⟨b0,b1,b2,b3⟩,a0,a1,a2,a3,a4,a5,a6,a7,a8⟩:=HCX.out X hSw;clear hSw;go_simp
    simp only[Act.put,pg]
    refine tG (i:=2) (.slice (some ⟨b,off,none⟩) n c) rfl ?_
    simp only[Act.put,pg]
    refine tG (i:=3) (.int .i64 (k:Int)) rfl ?_
    simp only[Act.put,pg]
    refine tG (i:=4) (.pointer (some ⟨b,off+k*9,none⟩)) rfl ?_
    simp only[Act.put,pg]
    refine tJ (i:=5) (.agg #[.int .i8 s.s.op,.int .i64 s.s.id,.int .i64 s.s.par,.int .i64 s.s.at_,.string s.s.tx,.int .i64 s.s.sub.id,.int .i64 s.s.sub.kind,.string s.s.sub.text,.slice s.a sn s.c]) rfl ?_ ?_
    · clear hHeld;intro X hSw;obtain⟨⟨g0,g1⟩,⟨b0,b1,b2,b3⟩,a0,a1,a2,a3,a4,a5,a6,a7,a8⟩:=HCX.out X hSw;clear hSw;go_simp
    simp only[Act.put,pg]
    refine wpAnyH_ready (rs:=[6,10]) kr1 sp1 ?_
    refine AcQ (o:=_) rfl (fun K hK=>?_) (AcQ (o:=_) rfl (fun K hK=>?_) AnQ)
    · rw[if_pos (by rfl)]
      simp only[pg3]
      have HK:=hH hK
      have HS:=hH hHeld
      clear hK hHeld
      go_wp2_with (go_at_call 38;refine (HCALL.out _ HS.out).mono ?_;rintro e w4 ⟨y,ya,yc,er,rfl,hyc,hyf,hb4,he1,he2⟩)
      obtain⟨ym,hym⟩:∃ym,ym=foLen y.kids:=⟨_,rfl⟩
      have H4:=hH (aN hyc (aN hyf (aN hb4 (aN he1 (aN he2 hym)))))
      have HX:=hH HS.out.size
      have hb4w:=HS.out.trans (hb4.mono HS.out.size)
      rw[←hym]
      refine HK.out _ _ hb4w (fun hHeld=>?_)
      clear HK HS hyc hyf hb4 he1 he2 hym
      refine tG (i:=7) (.tuple #[.agg #[.int .i64 y.id,.int .i64 y.kind,.string y.text,.slice ya ym yc],.int .i64 er]) rfl ?_
      simp only[Act.put,pg]
      refine tG (i:=8) (.agg #[.int .i64 y.id,.int .i64 y.kind,.string y.text,.slice ya ym yc]) rfl ?_
      simp only[Act.put,pg]
      refine tG (i:=9) (.int .i64 er) rfl ?_
      simp only[Act.put,pg]
      refine wpAnyH_ready (rs:=[10]) kr1 sp1 ?_
      refine AcQ (o:=_) rfl (fun K hK=>?_) AnQ
      rw[if_pos (by rfl)]
      simp only[pg3]
      have HK:=hH hK
      have HS:=hH hHeld
      clear hK hHeld
      go_wp2_with fail
      obtain⟨WA,hWA⟩:∃WA,WA=(World.alloc w4 (.cells #[.int .i64 0,.int .i64 0,.string ⟨#[]⟩,.slice none 0 0] 27)):=⟨_,rfl⟩
      rw[←hWA]
      have hza:WA.heap[w4.heap.size]? =some (.cells #[.int .i64 0,.int .i64 0,.string ⟨#[]⟩,.slice none 0 0] 27 (0,0)):=by rw[hWA];exact hanQ w4 _
      have hba:Below w4.heap.size w4 WA:=by rw[hWA];exact (BrQ _ _).alloc (Nat.le_refl _) _
      have hsa:WA.heap.size=w4.heap.size+1:=by rw[hWA];simp[World.drew]
      have hbaw:Below wo.heap.size wo WA:=HS.out.trans (hba.mono HS.out.size)
      have HA:=hH (aN hza (aN hba (aN hsa (aN hbaw (show wo.heap.size≤w4.heap.size from HS.out.size)))))
      refine HK.out _ _ hbaw (fun hHeld=>?_)
      clear hbaw
      clear HK HS hza hba hsa hWA
      refine wpAnyH_ready (rs:=[11]) kr1 sp1 ?_
      refine AcQ (o:=_) rfl (fun K hK=>?_) AnQ
      rw[if_pos (by rfl)]
      simp only[pg3]
      have HK:=hH hK
      have HS:=hH hHeld
      clear hK hHeld
      have hz:=HA.out.1
      have hbc:=HA.out.2.2.2.1
      have hxb:wo.heap.size≤w4.heap.size:=HA.out.2.2.2.2
      have hXs:=HX.out
      have hkf:zu WA (fun q=>wo.heap.size≤q∧q<WA.heap.size∧q≠w4.heap.size) y.kids ya:=H4.out.2.1.kept fun q hq=>⟨⟨by have:=hq.1;omega,by have:=hq.2;have:=HA.out.2.2.1;omega,by have:=hq.2;omega⟩,HA.out.2.1.block q hq.2⟩
      clear hXs
      obtain⟨z0,z1,z2,z3⟩:=zG hz
      have zf:∀j,WA.frozen? ⟨w4.heap.size,j,none⟩=false:=fun j=>forQ _ _ j _ _ hz
      obtain⟨V5,e5,r1,r2,r3,r4,r5,r6⟩:=zA (u0:= .int .i64 y.id) (u1:= .int .i64 y.kind) (u2:= .string y.text) (u3:= .slice ya ym yc) hz
      have hD:ziM wo er y ya ym yc w4.heap.size V5:=⟨⟨r3.trans hbc.os,r4.trans hbc.tape,r5.trans hbc.output,by rw[r6];exact hbc.size,fun q hq=>(r2 q om).trans (hbc.block q hq)⟩,r1,hxb,H4.out.2.2.2.2.2,by rw[H4.out.2.2.2.2.2];exact H4.out.1,hkf.kept fun q hq=>⟨⟨hq.1,by rw[r6];exact hq.2.1,hq.2.2⟩,r2 q hq.2.2⟩⟩
      have HD:=hH (aN hD e5)
      clear hz r1 r2 r3 r4 r5 r6 hD hbc hxb hkf e5
      go_wp2_with fail
      rw[←HD.out.2]
      refine HK.out _ _ HD.out.1.below (fun hHeld=>?_)
      clear HK HS z0 z1 z2 z3 zf
      refine tG (i:=12) (.int .i64 er) rfl ?_
      simp only[Act.put,pg]
      refine wpAnyH_done kr1 ?_ _
      clear hHeld
      replace HD:=hH HD.out.1
      replace H4:=hH (aN H4.out.2.2.2.1 H4.out.2.2.2.2.1)
      obtain⟨xb,hxbe⟩:∃xb,xb=w4.heap.size:=⟨_,rfl⟩
      exact sb0
    · rw[if_pos (by rfl)]
      simp only[pg3]
      have HK:=hH hK
      have HS:=hH hHeld
      clear hK hHeld
      go_wp2_with fail
      obtain⟨WA,hWA⟩:∃WA,WA=(World.alloc wo (.cells #[.int .i64 0,.int .i64 0,.string ⟨#[]⟩,.slice none 0 0] 27)).drew:=⟨_,rfl⟩
      rw[←hWA]
      have hza:WA.heap[wo.heap.size]? =some (.cells #[.int .i64 0,.int .i64 0,.string ⟨#[]⟩,.slice none 0 0] 27 (0,0)):=by rw[hWA];exact hanQ wo _
      have hba:Below wo.heap.size wo WA:=by rw[hWA];exact ((BrQ _ _).alloc (Nat.le_refl _) _).drew
      have hsa:WA.heap.size=wo.heap.size+1:=by rw[hWA];simp[World.drew]
      have HA:=hH (aN hza (aN hba hsa))
      refine HK.out _ _ hba (fun hHeld=>?_)
      clear HK HS hza hba hsa hWA
      refine wpAnyH_ready (rs:=[6]) kr1 sp1 ?_
      refine AcQ (o:=_) rfl (fun K hK=>?_) AnQ
      rw[if_pos (by rfl)]
      simp only[pg3]
      have HK:=hH hK
      have HS:=hH hHeld
      clear hK hHeld
      go_wp2_with (go_at_call 38;refine (HCALL.out _ HS.out).mono ?_;rintro e w4 ⟨y,ya,yc,er,rfl,hyc,hyf,hb4,he1,he2⟩)
      obtain⟨ym,hym⟩:∃ym,ym=foLen y.kids:=⟨_,rfl⟩
      have H4:=hH (aN hyc (aN hyf (aN hb4 (aN he1 (aN he2 hym)))))
      have hb4w:=HS.out.trans (hb4.mono HS.out.size)
      have HX:=hH (aN HS.out.size ((hb4.block _ (lohQ HA.out.1)).trans HA.out.1))
      rw[←hym]
      refine HK.out _ _ hb4w (fun hHeld=>?_)
      clear HK HS hyc hyf hb4 he1 he2 hym
      refine tG (i:=7) (.tuple #[.agg #[.int .i64 y.id,.int .i64 y.kind,.string y.text,.slice ya ym yc],.int .i64 er]) rfl ?_
      simp only[Act.put,pg]
      refine tG (i:=8) (.agg #[.int .i64 y.id,.int .i64 y.kind,.string y.text,.slice ya ym yc]) rfl ?_
      simp only[Act.put,pg]
      refine tG (i:=9) (.int .i64 er) rfl ?_
      simp only[Act.put,pg]
      refine wpAnyH_ready (rs:=[11]) kr1 sp1 ?_
      refine AcQ (o:=_) rfl (fun K hK=>?_) AnQ
      rw[if_pos (by rfl)]
      simp only[pg3]
      have HK:=hH hK
      have HS:=hH hHeld
      clear hK hHeld
      have hz:=HX.out.2
      have hbc:=HS.out
      have hxb:wo.heap.size≤wo.heap.size:=Nat.le_refl _
      have hkf:zu w4 (fun q=>wo.heap.size≤q∧q<w4.heap.size∧q≠wo.heap.size) y.kids ya:=H4.out.2.1.kept fun q hq=>⟨⟨by have:=hq.1;have:=HA.out.2.2;omega,hq.2,by have:=hq.1;have:=HA.out.2.2;omega⟩,rfl⟩
      obtain⟨z0,z1,z2,z3⟩:=zG hz
      have zf:∀j,w4.frozen? ⟨wo.heap.size,j,none⟩=false:=fun j=>forQ _ _ j _ _ hz
      obtain⟨V5,e5,r1,r2,r3,r4,r5,r6⟩:=zA (u0:= .int .i64 y.id) (u1:= .int .i64 y.kind) (u2:= .string y.text) (u3:= .slice ya ym yc) hz
      have hD:ziM wo er y ya ym yc wo.heap.size V5:=⟨⟨r3.trans hbc.os,r4.trans hbc.tape,r5.trans hbc.output,by rw[r6];exact hbc.size,fun q hq=>(r2 q om).trans (hbc.block q hq)⟩,r1,hxb,H4.out.2.2.2.2.2,by rw[H4.out.2.2.2.2.2];exact H4.out.1,hkf.kept fun q hq=>⟨⟨hq.1,by rw[r6];exact hq.2.1,hq.2.2⟩,r2 q hq.2.2⟩⟩
      have HD:=hH (aN hD e5)
      clear hz r1 r2 r3 r4 r5 r6 hD hbc hxb hkf e5
      go_wp2_with fail
      rw[←HD.out.2]
      refine HK.out _ _ HD.out.1.below (fun hHeld=>?_)
      clear HK HS z0 z1 z2 z3 zf
      refine tG (i:=12) (.int .i64 er) rfl ?_
      simp only[Act.put,pg]
      refine wpAnyH_done kr1 ?_ _
      clear hHeld
      replace HD:=hH HD.out.1
      replace H4:=hH (aN H4.out.2.2.2.1 H4.out.2.2.2.2.1)
      obtain⟨xb,hxbe⟩:∃xb,xb=wo.heap.size:=⟨_,rfl⟩
      exact sb0
  · have hki:¬(k:Int)<(n:Int):=by omega
    have hkn:k=n:=by omega
    have hgo2:goT g t (steps vs)=some x:=by
     rw[List.take_of_length_le (by rw[qM,←H.out.2.2.2.2.2.1];omega)] at hgo
     exact hgo
    have hz:=r0h
    have HEE:=hH (Jl (g:=g) (t:=t) (l:=steps vs) (at_:=(n:Int)) (er:=0) hbw hz om hL.len hL.lies.1 (hL.lies.2.kept fun q hq=>⟨⟨hq.1,fun e=>hq.2 (Or.inr e)⟩,rfl⟩) (fun _ z hz=>⟨rfl,by rw[hgo2] at hz;exact Option.some.inj hz⟩))
    obtain⟨z0,z1,z2,z3⟩:=zG hz
    have gz:∀j,wo.frozen? ⟨w.heap.size+1+1,j,none⟩=false:=fun j=>forQ _ _ j _ _ hz
    have HZ:=hH (zW hz (.int .i64 x.id) (.int .i64 x.kind) (.string x.text) (.slice va vn vc))
    obtain⟨x0,x1,x2,x3⟩:=zG hL.cell
    clear hgo hgo2 hwx hdx hL hfar g0h t0h r0h hbw hlt hkn hk hz
    go_wp2_with fail
    exact brQ (vJ rfl _ _ (w.heap.size+1+1) 27 _ _ _ (.int .i64 (n:Int)) (.int .i64 0) rfl HZ.out.1 Tryz.underlying27 rfl kr1 rfl rfl) rfl HEE.out
end Go.Proofs.YtgkmmnihaiopaaaGreat
