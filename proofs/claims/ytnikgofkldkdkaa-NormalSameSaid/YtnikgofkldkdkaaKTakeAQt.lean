/-
  .
-/
import Derived.Test.YtnikgofkldkdkaaKPutCQt
set_option maxRecDepth 100000
set_option maxHeartbeats 40000000
set_option linter.unusedVariables false
set_option linter.unusedSimpArgs false
namespace Go.Proofs.Ytnikgofkldkdkaa
open Go.RowKit Go.Shelf
def j6 (w:World)(T:Nat→Prop)(r:Tr×Int)(e:Ending)(w' :World):Prop:=∃v,e= .returned (.tuple #[v,.int .i64 r.2])∧zK w' (fun y=>T y∨w.heap.size≤y∧y<w'.heap.size) v r.1∧Below w.heap.size w w'
theorem step_end {P:Program}{fn:Func}{p u:Tmp}(h:fn.results= #[.cell p 27,.tmp u])(hP:P=Try.prog){w W:World}{T:Nat→Prop}{tmps:Array Value}{r:Tr×Int}{g m kc:Nat}{kb:Option Addr}{y:Tr}(hb:Below w.heap.size w W)(hg:w.heap.size≤g)(hz:∃cs fr,W.heap[g]? =some (.cells #[.int .i64 y.id,.int .i64 y.kind,.string y.text,.slice kb m kc] 27 fr)∧cs=m)(hm:m=foLen y.kids)(hc:foLen y.kids≤kc)(hf:zk W (fun z=>T z∨w.heap.size≤z∧z<W.heap.size) y.kids kb)(hy:r.1=y)
 (h1:tmps.getD p undef= .pointer (some ⟨g,0,none⟩)) (h2:tmps.getD u undef= .int .i64 r.2):bodyPost P fn (j6 w T r) .ret { tmps,defers:=[] } W:=by
 subst hP
 obtain⟨cs,fr,hz,_⟩:=hz
 exact se9
theorem jN {par at_:Int}{t x:Tr}(h:zw par t=none):kX par at_ t x=(zG,4):=by unfold kX;rw[h]
theorem vo {par at_:Int}{t x u:Tr}{p:List Nat}(h:zw par t=some p)(hu:atT t p=some u):kX par at_ t x=if 0≤at_∧at_≤(foLen u.kids:Int) then (zP t p ⟨u.id,u.kind,u.text,yR u.kids at_.toNat x⟩,0) else (zP t p u,2):=by unfold kX;rw[h];simp only;rw[hu]
theorem zfm (w:World)(S Sx:Nat→Prop)(nv xv:Value)(t x:Tr)(par at_:Int)(hS:∀y,S y→y<w.heap.size)(hSx:∀y,Sx y→y<w.heap.size)(ht:zK w S nv t)(hx:zK w Sx xv x)(hsz:za t.kids+za x.kids≤300000):
 Calls Try.prog 86 #[nv,.int .i64 par,.int .i64 at_,xv] w (j6 w (fun y=>S y∨Sx y) (kX par at_ t x)):=by
 obtain⟨ka,tc,rfl,hcap,hk⟩:=ht
 obtain⟨xa,xc,rfl,hxc,hxk⟩:=hx
 obtain⟨nk,hnk⟩:∃nk,nk=foLen t.kids:=⟨_,rfl⟩
 obtain⟨xn,hxn⟩:∃xn,xn=foLen x.kids:=⟨_,rfl⟩
 rw[←hnk,←hxn]
 obtain⟨B,hB⟩:∃B,B=zx w [.cells #[.int .i64 t.id,.int .i64 t.kind,.string t.text,.slice ka nk tc] 27,.cells #[.int .i64 at_] 3,.cells #[.int .i64 x.id,.int .i64 x.kind,.string x.text,.slice xa xn xc] 27,.cells #[.int .i64 0,.int .i64 0,.string ⟨#[]⟩,.slice none 0 0] 27]:=⟨_,rfl⟩
 have hb:Below w.heap.size w B:=by rw[hB];exact zl _ _
 have hs:B.heap.size=w.heap.size+4:=by rw[hB];exact zJ _ _
 have ht0:B.heap[w.heap.size]? =some (.cells #[.int .i64 t.id,.int .i64 t.kind,.string t.text,.slice ka nk tc] 27 (0,0)):=by rw[hB];exact ze _ _ 0 _ rfl
 have ha0:B.heap[w.heap.size+1]? =some (.cells #[.int .i64 at_] 3 (0,0)):=by rw[hB];exact ze _ _ 1 _ rfl
 have hx0:B.heap[w.heap.size+2]? =some (.cells #[.int .i64 x.id,.int .i64 x.kind,.string x.text,.slice xa xn xc] 27 (0,0)):=by rw[hB];exact ze _ _ 2 _ rfl
 have hr0:B.heap[w.heap.size+3]? =some (.cells #[.int .i64 0,.int .i64 0,.string ⟨#[]⟩,.slice none 0 0] 27 (0,0)):=by rw[hB];exact ze _ _ 3 _ rfl
 have hpath:=ZZ B S (.agg #[.int .i64 t.id,.int .i64 t.kind,.string t.text,.slice ka (foLen t.kids) tc]) t par (fun y hy=>by have:=hS y hy;omega) ⟨ka,tc,rfl,hcap,hk.below hb hS⟩ om
 rw[←hnk] at hpath
 obtain⟨pr,hpr⟩:∃pr,pr=kX par at_ t x:=⟨_,rfl⟩
 rw[←hpr]
 have HP:=hH hpath
 have HB:=hH (aN hb (aN hs (aN ht0 (aN ha0 (aN hx0 hr0)))))
 have HT:=hH (aN hS (aN hSx (aN hk (aN hcap (aN hxk (aN hxc hsz))))))
 have HN:=hH (aN hnk hxn)
 have HBE:=hH hB
 have HPR:=hH hpr
 clear hpath hb hs ht0 ha0 hx0 hr0 hS hSx hk hcap hxk hxc hsz hnk hxn hB hpr
 go_enter Try.func86,Try.ntmps86
 go_wp2_with fail
 change Calls _ _ _ (zx w [.cells #[.int .i64 t.id,.int .i64 t.kind,.string t.text,.slice ka nk tc] 27,.cells #[.int .i64 at_] 3,.cells #[.int .i64 x.id,.int .i64 x.kind,.string x.text,.slice xa xn xc] 27,.cells #[.int .i64 0,.int .i64 0,.string ⟨#[]⟩,.slice none 0 0] 27]) _
 rw[←HBE.out]
 refine HP.out.mono ?_
 rintro e W ⟨pv,rfl,hown,hbW⟩
 have hbz:Below w.heap.size w W:=HB.out.1.trans (hbW.mono HB.out.1.size)
 have hr3:=(hbW.block _ (lohQ HB.out.2.2.2.2.2)).trans HB.out.2.2.2.2.2
 cases hpt:zw par t with
 | none=>
   have hE:pr=(zG,4):=by rw[HPR.out,jN hpt]
   obtain⟨z0,z1,z2,z3⟩:=zH hr3
   have zf:∀j,W.frozen? ⟨w.heap.size+3,j,none⟩=false:=fun j=>forQ _ _ j _ _ hr3
   obtain⟨V,hV,r1,r2,r3,r4,r5,r6⟩:=zu (u0:= .int .i64 0) (u1:= .int .i64 0) (u2:= .string ⟨#[]⟩) (u3:= .slice none 0 0) hr3
   have HE:=hH (aN hE (aN hbz (aN hr3 (aN hV (aN r1 (aN r2 (aN r3 (aN r4 (aN r5 r6)))))))))
   clear hown hbW hbz hr3 hpt hE hV r1 r2 r3 r4 r5 r6
   simp only[Option.isSome_none]
   go_wp2_with fail
   rw[←HE.out.2.2.2.1]
   obtain⟨hE,hbz,hr3,hV,r1,r2,r3,r4,r5,r6⟩:=HE.out
   exact step_end (p:=8) (u:=9) rfl rfl (g:=w.heap.size+3) (y:=zG) (m:=0) (kb:=none) (kc:=0) ⟨r3.trans hbz.os,r4.trans hbz.tape,r5.trans hbz.output,by rw[r6];exact hbz.size,fun k hk=>(r2 k om).trans (hbz.block k hk)⟩ om ⟨_,_,r1,rfl⟩ rfl (NlrQ _) True.intro (by rw[hE]) rfl (by rw[hE];rfl)
 | some p=>
   rw[hpt] at hown
   simp only[Option.getD_some] at hown
   obtain⟨pa,pc,rfl⟩:=zt hown
   obtain⟨u,hu,_⟩:=qE par t p hpt
   have hE:=vo (at_:=at_) (x:=x) hpt hu
   rw[←HPR.out] at hE
   have hus:=Y6 p t u hu
   have hul:=zM u.kids
   have hWs:=hbW.size
   have hBs:=HB.out.2.1
   obtain⟨m,hm⟩:∃m,m=(qx p).length:=⟨_,rfl⟩
   rw[←hm] at hown ⊢
   have hpl:m=p.length:=by rw[hm,zZ]
   obtain⟨W1,hW1⟩:∃W1,W1=W.alloc (.cells #[.int .i64 2] 41):=⟨_,rfl⟩
   have hb1:Below W.heap.size W W1:=by rw[hW1];exact (BrQ _ _).alloc (NlrQ _) _
   have hs1:W1.heap.size=W.heap.size+1:=by rw[hW1];simp
   have he1:W1.heap[W.heap.size]? =some (.cells #[.int .i64 2] 41 (0,0)):=by rw[hW1];exact hanQ W _
   have hbw1:Below w.heap.size w W1:=hbz.trans (hb1.mono hbz.size)
   have hB1:∀y,y<B.heap.size→W1.heap[y]? =B.heap[y]?:=fun y hy=>(hb1.block y om).trans (hbW.block y hy)
   have ht1:=(hB1 _ (lohQ HB.out.2.2.1)).trans HB.out.2.2.1
   have ha1:=(hB1 _ (lohQ HB.out.2.2.2.1)).trans HB.out.2.2.2.1
   have hx1:=(hB1 _ (lohQ HB.out.2.2.2.2.1)).trans HB.out.2.2.2.2.1
   have hr1:=(hB1 _ (lohQ HB.out.2.2.2.2.2)).trans HB.out.2.2.2.2.2
   obtain⟨hS,hSx,hk,hcap,hxk,hxc,hsz⟩:=HT.out
   have hpI:vW W1 (fun y=>y<W1.heap.size∧¬y=W.heap.size) pa pc (qx p):=(Yd (l:=qx p) hown).1.kept fun y hy=>⟨⟨by have:=hy.2;omega,by have:=hy.2;omega⟩,hb1.block y hy.2⟩
   have htA:zK W1 (fun y=>S y∨Sx y) (.agg #[.int .i64 t.id,.int .i64 t.kind,.string t.text,.slice ka nk tc]) t:=⟨ka,tc,by rw[HN.out.1],hcap,hk.kept fun y hy=>⟨Or.inl hy,hbw1.block y (hS y hy)⟩⟩
   have hxA:zk W1 (fun y=>S y∨Sx y) x.kids xa:=hxk.kept fun y hy=>⟨Or.inr hy,hbw1.block y (hSx y hy)⟩
   have hSS:∀y,(S y∨Sx y)→y<w.heap.size:=fun y hy=>hy.elim (hS y) (hSx y)
   have hws:=hbz.size
   have hal:∃er c,pr=(zP t p c,er)∧za c.kids≤300001∧Calls Try.prog 91 #[.agg #[.int .i64 t.id,.int .i64 t.kind,.string t.text,.slice ka nk tc],.slice pa m pc,.func (.func 107) #[] #[.pointer (some ⟨w.heap.size+1,0,none⟩),.pointer (some ⟨w.heap.size+2,0,none⟩),.pointer (some ⟨W.heap.size,0,none⟩)]] W1 (JC W1 (fun y=>y=W.heap.size) (fun y=>S y∨Sx y) (zP t p c) (zcr W.heap.size er)):=by
    have hRR:∀(er:Int) (X X' :World),(∀y,y=W.heap.size→X'.heap[y]? =X.heap[y]?)→zcr W.heap.size er X→zcr W.heap.size er X':=fun er X X' h hx=>(h _ rfl).trans hx
    by_cases hc:0≤at_∧at_≤(foLen u.kids:Int)
    · rw [ipQ hc] at hE
      obtain⟨i,hi⟩:∃i:Nat,at_=(i:Int):=⟨at_.toNat,by omega⟩
      rw[hi] at hE ha1
      rw[Int.toNat_natCast] at hE
      have hin:=kS u.kids i x om
      refine⟨0,_,hE,by simp only;omega,?_⟩
      exact zdU W1 _ t u _ p pa m pc (fun y hy=>⟨by have:=hSS y hy;omega,by have:=hSS y hy;omega⟩) (fun y hy=>⟨by have:=hSS y hy;omega,by have:=hSS y hy;omega⟩) (fun y hy=>hy) (fun y hy=>by omega) hpl om htA om hpI hu
       (zcA W1 _ _ (fun y hy=>by have:=hSS y hy;omega) (fun y hy=>by have:=hSS y hy;omega) (fun y hy=>hy) u x (w.heap.size+1) (w.heap.size+2) W.heap.size i xa xc om om (fun y hy=>by have:=hSS y hy;omega) ha1 (by rw[←HN.out.2];exact hx1) hxc hxA he1 om om) (hRR 0)
    · rw [inQ hc] at hE
      refine⟨2,_,hE,by omega,?_⟩
      exact zdU W1 _ t u _ p pa m pc (fun y hy=>⟨by have:=hSS y hy;omega,by have:=hSS y hy;omega⟩) (fun y hy=>⟨by have:=hSS y hy;omega,by have:=hSS y hy;omega⟩) (fun y hy=>hy) (fun y hy=>by omega) hpl om htA om hpI hu
       (zdZ W1 _ _ (fun y hy=>by have:=hSS y hy;omega) (fun y hy=>hy) u (w.heap.size+1) (w.heap.size+2) W.heap.size at_ om om ha1 he1 om) (hRR 2)
   obtain⟨er,c,hpe,hcs,hal⟩:=hal
   obtain⟨y,hy⟩:∃y,y=zP t p c:=⟨_,rfl⟩
   rw[←hy] at hpe hal
   obtain⟨t0,t1,t2,t3⟩:=zH ht1
   have HSSH:=hH hSS
   have HAL:=hH hal
   have HW1:=hH hW1
   have HE:=hH (aN hpe (aN hbw1 (aN hr1 (aN hs1 (show w.heap.size+4≤W.heap.size by omega)))))
   rw[hW1] at t0 t1 t2 t3
   have hmf:∀(fn:Fn) (first cap:Array Value) (w:World),(Instr.makeFunc fn first cap).run Try.prog w= .ok (.func fn first cap) w:=fun _ _ _ _=>rfl
   clear hown hbW hbz hr3 hpt hu hE hus hul hWs hBs hm hpl hW1 hb1 hs1 he1 hbw1 hB1 ht1 ha1 hx1 hr1 hS hSx hk hcap hxk hxc hsz hpI htA hxA hSS hws hal hpe hcs hy HP HT HB
   simp only[Option.isSome_some]
   go_wp2_with fail
   rw[←HW1.out]
   refine HAL.out.mono ?_
   rintro e X ⟨v,rfl,⟨kb,kc,rfl,hkc,hkk⟩,k1,k2,k3,k4,k5,k6⟩
   obtain⟨yn,hyn⟩:∃yn,yn=foLen y.kids:=⟨_,rfl⟩
   rw[←hyn]
   obtain⟨hpe,hbw1,hr1,hs1,hws⟩:=HE.out
   have hrX:X.heap[w.heap.size+3]? =some (.cells #[.int .i64 0,.int .i64 0,.string ⟨#[]⟩,.slice none 0 0] 27 (0,0)):=(k5 _ om om).trans hr1
   obtain⟨X2,hX2⟩:∃X2,X2=X.alloc (.cells #[.int .i64 y.id,.int .i64 y.kind,.string y.text,.slice kb yn kc] 27):=⟨_,rfl⟩
   have hb2:Below X.heap.size X X2:=by rw[hX2];exact (BrQ _ _).alloc (NlrQ _) _
   have hy2:X2.heap[X.heap.size]? =some (.cells #[.int .i64 y.id,.int .i64 y.kind,.string y.text,.slice kb yn kc] 27 (0,0)):=by rw[hX2];exact hanQ X _
   have hr2:=(hb2.block _ (lohQ hrX)).trans hrX
   have he2:=(hb2.block _ (lohQ k6)).trans k6
   have hbX:Below w.heap.size w X:=⟨k1.trans hbw1.os,k2.trans hbw1.tape,k3.trans hbw1.output,NltQ hbw1.size k4,fun z hz=>(k5 z om om).trans (hbw1.block z hz)⟩
   obtain⟨z0,z1,z2,z3⟩:=zH hr2
   have zf:∀j,X2.frozen? ⟨w.heap.size+3,j,none⟩=false:=fun j=>forQ _ _ j _ _ hr2
   obtain⟨V,hV,r1,r2,r3,r4,r5,r6⟩:=zu (V:=X2) (R1:=w.heap.size+1+1+1) (u0:= .int .i64 y.id) (u1:= .int .i64 y.kind) (u2:= .string y.text) (u3:= .slice kb yn kc) hr2
   have hX2s:=hb2.size
   have hfin:Below w.heap.size w V.drew∧zk V.drew (fun z=>(S z∨Sx z)∨w.heap.size≤z∧z<V.drew.heap.size) y.kids kb:=by
    have r6' :V.heap.size=X2.heap.size:=r6
    have hbw2:=hbX.trans (hb2.mono hbX.size)
    refine⟨⟨r3.trans hbw2.os,r4.trans hbw2.tape,r5.trans hbw2.output,by show _≤V.heap.size;rw[r6'];exact hbw2.size,fun k hk=>(r2 k om).trans (hbw2.block k hk)⟩,hkk.kept fun z hz=>?_⟩
    have hSz:=HSSH.out
    have hz2:z<X.heap.size∧z≠w.heap.size+3:=by
     rcases hz with hz | hz
     · have:=hSz z hz;omega
     · omega
    exact⟨hz.elim Or.inl (fun hz=>Or.inr ⟨by omega,by show z<V.heap.size;omega⟩),(r2 z hz2.2).trans (hb2.block z hz2.1)⟩
   obtain⟨SW,hSW⟩:∃SW:World→Prop,SW=fun Y=>Y.heap[X.heap.size]? =some (.cells #[.int .i64 y.id,.int .i64 y.kind,.string y.text,.slice kb yn kc] 27 (0,0))∧Y.heap[W.heap.size]? =some (.cells #[.int .i64 er] 41 (0,0)):=⟨_,rfl⟩
   have HSW:=hH (fun (Y:World) (h:SW Y)=>(show (uf1 Y X.heap.size y.id y.kind y.text kb yn kc)∧Y.cell? ⟨W.heap.size,0,none⟩=some (.int .i64 er) by
    rw[hSW] at h;exact⟨zH h.1,by rw[corQ _ _ 0 _ _ _ h.2];rfl⟩))
   have hS0:SW X2.drew:=by rw[hSW];exact⟨hy2,he2⟩
   have hS1:SW V.drew:=by rw[hSW];exact⟨(r2 _ om).trans hy2,(r2 _ om).trans he2⟩
   have HFIN:=hH (aN hfin (aN r1 (aN hkc (aN hyn (aN hpe hws)))))
   have HV:=hH (aN hV hS1)
   have HX2:=hH hX2
   clear hpe hbw1 hr1 hs1 hws hrX hX2 hb2 hy2 hr2 he2 hbX hV r1 r2 r3 r4 r5 r6 hX2s hfin hSW hS1 k1 k2 k3 k4 k5 k6 hkc hkk hyn HE
   go_wp2_with fail
   rw[←HX2.out]
   refine wrhQ (S:=SW) kr1 hS0 (fun uH=>?_)
   clear hS0
   refine tJ (i:=0) (.agg #[.int .i64 y.id,.int .i64 y.kind,.string y.text,.slice kb yn kc]) rfl ?_ ?_
   · exact ua6
   simp only[Act.put,pg]
   refine tJ (i:=1) (.int .i64 er) rfl ?_ ?_
   · exact ua6
   simp only[Act.put,pg]
   refine rd [2] ?_
   refine AcQ (o:=_) rfl (fun K hK=>?_) (AnQ)
   rw[ipQ uf0]
   simp only[pg3]
   have HK:=hH hK
   clear hK uH
   go_wp2_with fail
   rw[←HV.out.1]
   refine HK.out _ _ HV.out.2 (fun uH=>?_)
   clear HK
   refine tG (i:=3) (.int .i64 er) rfl ?_
   simp only[Act.put,pg]
   refine wpAnyH_done kr1 ?_ _
   clear uH
   obtain⟨hfin,r1,hkc,hyn,hpe,hws⟩:=HFIN.out
   go_wp2_with fail
   exact step_end (p:=8) (u:=9) rfl rfl (g:=w.heap.size+3) (y:=y) (m:=yn) (kb:=kb) (kc:=kc) hfin.1 om ⟨_,_,r1,rfl⟩ hyn hkc hfin.2 (by rw[hpe]) rfl (by rw[hpe];rfl)
end Go.Proofs.Ytnikgofkldkdkaa
namespace Go.Proofs.Ytnikgofkldkdkaa
open Go.RowKit Go.Shelf
theorem zdi {P:Program}{fn:Func}{p q:Tmp}{ty:TypeId}(h:fn.results= #[.cell p ty,.cell q ty])(tmps:Array Value)(w:World)(g g' :Nat)(t t' :TypeId)(cs cs' :Array Value)(fr fr' :Nat×Nat)(d:TypeDesc)
 (hp:tmps.getD p undef= .pointer (some ⟨g,0,none⟩)) (hg:w.heap[g]? =some (.cells cs t fr)) (hp2:tmps.getD q undef= .pointer (some ⟨g',0,none⟩)) (hg2:w.heap[g']? =some (.cells cs' t' fr')) (hu:P.underlying ty=some d) (hd:(match d with | .struct _ | .array _ _=>true | _=>false)=true) (hi:(P.info? ty).map (·.size)=some cs.size) (hi2:cs'.size=cs.size):
 (results fn tmps).run P w= .ok (.tuple #[.agg cs,.agg cs']) w:=by
 have hp' :tmps[p]?.getD undef= .pointer (some ⟨g,0,none⟩):=by simpa using hp
 have hq' :tmps[q]?.getD undef= .pointer (some ⟨g',0,none⟩):=by simpa using hp2
 have r1:=run_loadVar_row w g t ty cs fr d hg hu hd hi
 have r2:=run_loadVar_row w g' t' ty cs' fr' d hg2 hu hd (by rw[hi2];exact hi)
 simp[results,h,Array.mapM_eq_mapM_toList,hp',hq',asAddr,r1,r2]
def zkN (w:World)(T:Nat→Prop)(r:Tr×Tr)(e:Ending)(w' :World):Prop:=∃v1 v2,e= .returned (.tuple #[v1,v2])∧zK w' (fun y=>T y∨w.heap.size≤y∧y<w'.heap.size) v1 r.1∧zK w' (fun y=>T y∨w.heap.size≤y∧y<w'.heap.size) v2 r.2∧Below w.heap.size w w'
theorem zdA (w:World)(S:Nat→Prop)(nv:Value)(t u v:Tr)(q:List Nat)(i:Nat)(pa:Option Addr)(n pc:Nat)(hS:∀y,S y→y<w.heap.size)(ht:zK w S nv t)(hsz:za t.kids≤300000)(hu:atT t q=some u)(hv:zB u.kids i=some v)(hn:n=q.length+1)(hp:vW w (fun y=>y<w.heap.size) pa pc (qx (q++[i]))):
 Calls Try.prog 89 #[nv,.slice pa n pc] w (zkN w S (zP t q ⟨u.id,u.kind,u.text,yA u.kids i⟩,v)):=by
 obtain⟨ka,tc,rfl,hcap,hk⟩:=ht
 obtain⟨nk,hnk⟩:∃nk,nk=foLen t.kids:=⟨_,rfl⟩
 rw[←hnk]
 obtain⟨pb,po,rfl,hpb,hpc⟩:=hp.2.resolve_left (fun e=>by simp[qx] at e)
 obtain⟨m,hm⟩:∃m,m=q.length:=⟨_,rfl⟩
 rw[←hm] at hn
 subst hn
 have hus:=Y6 q t u hu
 have hul:=zM u.kids
 obtain⟨B,hB⟩:∃B,B=zx w [.cells #[.int .i64 t.id,.int .i64 t.kind,.string t.text,.slice ka nk tc] 27,.cells #[.slice (some ⟨pb,po,none⟩) (m+1) pc] 65,.cells #[.int .i64 0,.int .i64 0,.string ⟨#[]⟩,.slice none 0 0] 27,.cells #[.int .i64 0,.int .i64 0,.string ⟨#[]⟩,.slice none 0 0] 27,.cells #[.int .i64 (m:Int)] 3]:=⟨_,rfl⟩
 have hb:Below w.heap.size w B:=by rw[hB];exact zl _ _
 have hs:B.heap.size=w.heap.size+5:=by rw[hB];exact zJ _ _
 have ht0:B.heap[w.heap.size]? =some (.cells #[.int .i64 t.id,.int .i64 t.kind,.string t.text,.slice ka nk tc] 27 (0,0)):=by rw[hB];exact ze _ _ 0 _ rfl
 have hp0:B.heap[w.heap.size+1]? =some (.cells #[.slice (some ⟨pb,po,none⟩) (m+1) pc] 65 (0,0)):=by rw[hB];exact ze _ _ 1 _ rfl
 have hr0:B.heap[w.heap.size+1+1]? =some (.cells #[.int .i64 0,.int .i64 0,.string ⟨#[]⟩,.slice none 0 0] 27 (0,0)):=by rw[hB];exact ze _ _ 2 _ rfl
 have hk0:B.heap[w.heap.size+1+1+1]? =some (.cells #[.int .i64 0,.int .i64 0,.string ⟨#[]⟩,.slice none 0 0] 27 (0,0)):=by rw[hB];exact ze _ _ 3 _ rfl
 have hl0:B.heap[w.heap.size+1+1+1+1]? =some (.cells #[.int .i64 (m:Int)] 3 (0,0)):=by rw[hB];exact ze _ _ 4 _ rfl
 have hlp:=hp.1
 rw[zZ,LlaQ,←hm,LlcQ,List.length_nil] at hlp
 have htk:∀k x,(qx q)[k]? =some x→(qx (q++[i]))[k]? =some x:=fun k x h=>by
  rw[qx,List.map_append,List.getElem?_append_left (by have:=(List.getElem?_eq_some_iff.1 h).1;simpa [qx] using this)];exact h
 have hpI:vW B.drew (fun y=>y<B.drew.heap.size∧¬y=w.heap.size+1+1+1) (some ⟨pb,po,none⟩) pc (qx q):=⟨by rw[zZ,←hm];omega,Or.inr ⟨pb,po,rfl,⟨by show pb<B.heap.size;omega,by omega⟩,fun k x h=>(World.cell?_of_block (a:=⟨pb,po+k,none⟩) (show B.drew.heap[pb]? =w.heap[pb]? from hb.block pb hpb)).trans (hpc k x (htk k x h))⟩⟩
 have hpm:B.drew.cell? ⟨pb,po+m,none⟩=some (.int .i64 (i:Int)):=(World.cell?_of_block (a:=⟨pb,po+m,none⟩) (show B.drew.heap[pb]? =w.heap[pb]? from hb.block pb hpb)).trans (hpc m (i:Int) (by rw[qx,List.map_append,List.getElem?_append_right (by rw[List.length_map];omega),List.length_map,hm];simp))
 have hal:=zdU B.drew (E:=fun y=>y=w.heap.size+1+1+1) (S:=S) (SS:=S) (RR:=zg3 B.drew S (w.heap.size+1+1+1) v) (.agg #[.int .i64 t.id,.int .i64 t.kind,.string t.text,.slice ka (foLen t.kids) tc]) t u ⟨u.id,u.kind,u.text,yA u.kids i⟩ q (some ⟨pb,po,none⟩) m pc (fun y hy=>⟨by have:=hS y hy;show y<B.heap.size;omega,by have:=hS y hy;omega⟩) (fun y hy=>⟨by have:=hS y hy;show y<B.heap.size;omega,by have:=hS y hy;omega⟩) (fun y hy=>hy) (fun y hy=>by show y<B.heap.size;omega) hm om
  ⟨ka,tc,rfl,hcap,hk.kept (w':=B.drew) (S':=S) fun y hy=>⟨hy,hb.block y (hS y hy)⟩⟩ om hpI hu
  (zhk B.drew S (fun y hy=>by have:=hS y hy;show y<B.heap.size;omega) u v (w.heap.size+1) (w.heap.size+1+1+1+1) (w.heap.size+1+1+1) pb po pc (m+1) m i om hv (fun y hy=>by have:=hS y hy;omega) hp0 hl0 hk0 om om om om hpm) (fun X X' h hx=>by
    obtain⟨va,vc,h1,h2,h3⟩:=hx
    exact⟨va,vc,(h _ rfl).trans h1,h2,h3⟩)
 rw[←hnk] at hal
 obtain⟨y,hy⟩:∃y,y=zP t q ⟨u.id,u.kind,u.text,yA u.kids i⟩:=⟨_,rfl⟩
 rw[←hy] at hal ⊢
 obtain⟨SW,hSW⟩:∃SW:World→Prop,SW=fun Y=>Y.heap[w.heap.size]? =some (.cells #[.int .i64 t.id,.int .i64 t.kind,.string t.text,.slice ka nk tc] 27 (0,0))∧Y.heap[w.heap.size+1]? =some (.cells #[.slice (some ⟨pb,po,none⟩) (m+1) pc] 65 (0,0))∧Y.heap[w.heap.size+1+1+1+1]? =some (.cells #[.int .i64 (m:Int)] 3 (0,0)):=⟨_,rfl⟩
 have HSW:=hH (fun (Y:World) (h:SW Y)=>(show (uf1 Y w.heap.size t.id t.kind t.text ka nk tc)∧Y.cell? ⟨w.heap.size+1,0,none⟩=some (.slice (some ⟨pb,po,none⟩) (m+1) pc)∧Y.cell? ⟨w.heap.size+1+1+1+1,0,none⟩=some (.int .i64 (m:Int)) by
  rw[hSW] at h;exact⟨zH h.1,by rw[corQ _ _ 0 _ _ _ h.2.1];rfl,by rw[corQ _ _ 0 _ _ _ h.2.2];rfl⟩))
 have HMK:=hH (fun (Y:World) (h:Y.heap[w.heap.size]? =B.heap[w.heap.size]?∧Y.heap[w.heap.size+1]? =B.heap[w.heap.size+1]?∧Y.heap[w.heap.size+1+1+1+1]? =B.heap[w.heap.size+1+1+1+1]?)=>(show SW Y by rw[hSW];exact⟨h.1.trans ht0,h.2.1.trans hp0,h.2.2.trans hl0⟩))
 have HAL:=hH hal
 have HB:=hH (aN hb (aN hs (aN hr0 (aN hk0 hS))))
 have HBE:=hH hB
 have hmi:(m:Int)≤(m:Int)+1:=by omega
 have hm6:(m:Int)≤1000000:=by omega
 have hpc1:m≤pc:=by omega
 have hmf:∀(fn:Fn) (first cap:Array Value) (w:World),(Instr.makeFunc fn first cap).run Try.prog w= .ok (.func fn first cap) w:=fun _ _ _ _=>rfl
 have hS0:SW B.drew:=HMK.out _ ⟨rfl,rfl,rfl⟩
 clear hal hb hs ht0 hp0 hr0 hk0 hl0 hlp htk hpI hpm hSW hS hk hcap hsz hu hv hp hpb hpc hus hul hB hnk hy hm
 go_enter Try.func89,Try.ntmps89
 go_upto_region 2 with fail
 change Code.wp _ _ _ _ (zx w [.cells #[.int .i64 t.id,.int .i64 t.kind,.string t.text,.slice ka nk tc] 27,.cells #[.slice (some ⟨pb,po,none⟩) (m+1) pc] 65,.cells #[.int .i64 0,.int .i64 0,.string ⟨#[]⟩,.slice none 0 0] 27,.cells #[.int .i64 0,.int .i64 0,.string ⟨#[]⟩,.slice none 0 0] 27,.cells #[.int .i64 (m:Int)] 3])
 rw[←HBE.out]
 refine wrhQ (S:=SW) kr1 hS0 (fun uH=>?_)
 clear hS0
 refine tJ (i:=0) (.agg #[.int .i64 t.id,.int .i64 t.kind,.string t.text,.slice ka nk tc]) rfl ?_ ?_
 · exact ua7
 simp only[Act.put,pg]
 refine tJ (i:=1) (.slice (some ⟨pb,po,none⟩) (m+1) pc) rfl ?_ ?_
 · exact ua7
 simp only[Act.put,pg]
 refine tJ (i:=2) (.int .i64 (m:Int)) rfl ?_ ?_
 · exact ua7
 simp only[Act.put,pg]
 refine tG (i:=3) (.slice (some ⟨pb,po,none⟩) m pc) rfl ?_
 simp only[Act.put,pg]
 refine tG (i:=4) (.func (.func 110) #[] #[.pointer (some ⟨w.heap.size+1,0,none⟩),.pointer (some ⟨w.heap.size+1+1+1+1,0,none⟩),.pointer (some ⟨w.heap.size+1+1+1,0,none⟩)]) rfl ?_
 simp only[Act.put,pg]
 refine rd [5] ?_
 refine AcQ (o:=_) rfl (fun K hK=>?_) (AnQ)
 rw[ipQ uf0]
 simp only[pg3]
 have HK:=hH hK
 clear hK uH
 go_wp2_with (go_at_call 91;refine HAL.out.mono ?_;rintro e X ⟨yv,rfl,⟨kb,kc,rfl,hkc,hkk⟩,k1,k2,k3,k4,k5,k6⟩;have HX:=hH (aN hkc (aN hkk (aN k1 (aN k2 (aN k3 (aN k4 (aN k5 k6)))))));clear hkc hkk k1 k2 k3 k4 k5 k6)
 obtain⟨hkc,hkk,k1,k2,k3,k4,k5,va,vc,k6,hvc,hvk⟩:=HX.out
 have k4' :B.heap.size≤X.heap.size:=k4
 have k5' :∀z,z<B.heap.size→z≠w.heap.size+1+1+1→X.heap[z]? =B.heap[z]?:=k5
 obtain⟨hb,hs,hr0,hk0,hS⟩:=HB.out
 obtain⟨yn,hyn⟩:∃yn,yn=foLen y.kids:=⟨_,rfl⟩
 obtain⟨vn,hvn⟩:∃vn,vn=foLen v.kids:=⟨_,rfl⟩
 rw[←hyn]
 rw[←hvn] at k6 hvc
 have hrX:=(k5' (w.heap.size+1+1) om om).trans hr0
 have hbX:Below w.heap.size w X:=⟨k1.trans hb.os,k2.trans hb.tape,k3.trans hb.output,NltQ hb.size k4',fun z hz=>(k5' z om om).trans (hb.block z hz)⟩
 obtain⟨V,hV,r1,r2,r3,r4,r5,r6⟩:=zu (V:=X) (R1:=w.heap.size+1+1) (u0:= .int .i64 y.id) (u1:= .int .i64 y.kind) (u2:= .string y.text) (u3:= .slice kb yn kc) hrX
 have hSX:SW X:=HMK.out _ ⟨k5' _ om om,k5' _ om om,k5' _ om om⟩
 have hSV:SW V:=HMK.out _ ⟨(r2 _ om).trans (k5' _ om om),(r2 _ om).trans (k5' _ om om),(r2 _ om).trans (k5' _ om om)⟩
 have hkV:=(r2 (w.heap.size+1+1+1) om).trans k6
 have hVX:∀z,z<X.heap.size→z≠w.heap.size+1+1→V.heap[z]? =X.heap[z]?:=fun z _ hz=>r2 z hz
 have hbV:Below w.heap.size w V:=⟨r3.trans hbX.os,r4.trans hbX.tape,r5.trans hbX.output,by rw[r6];exact hbX.size,fun k hk=>(r2 k om).trans (hbX.block k hk)⟩
 have hyV:zk V (fun z=>S z∨w.heap.size≤z∧z<V.heap.size) y.kids kb:=hkk.kept fun z hz=>by
  have hz2:z<X.heap.size∧z≠w.heap.size+1+1:=by
   rcases hz with hz | hz
   · have:=hS z hz;omega
   · have h1:B.heap.size≤z:=hz.1
     omega
  exact⟨hz.elim Or.inl (fun hz=>Or.inr ⟨by have h1:B.heap.size≤z:=hz.1;omega,by omega⟩),r2 z hz2.2⟩
 have hvV:zk V (fun z=>S z∨w.heap.size≤z∧z<V.heap.size) v.kids va:=hvk.kept fun z hz=>by
  have h1:=hS z hz
  exact⟨Or.inl hz,(r2 z om).trans (k5' z om om)⟩
 obtain⟨z0,z1,z2,z3⟩:=zH hrX
 have zf:∀j,X.frozen? ⟨w.heap.size+1+1,j,none⟩=false:=fun j=>forQ _ _ j _ _ hrX
 have HV:=hH (aN hV hSV)
 have HF:=hH (aN hbV (aN r1 (aN hkV (aN hyV (aN hvV (aN hkc (aN hvc (aN hyn hvn))))))))
 clear hkc hkk k1 k2 k3 k4 k5 k6 hvc hvk k4' k5' hb hs hr0 hk0 hS hyn hvn hbX hV r1 r2 r3 r4 r5 r6 hSV hkV hVX hbV hyV hvV hrX HX
 refine HK.out _ _ hSX (fun uH=>?_)
 clear HK hSX
 refine rd [6] ?_
 refine AcQ (o:=_) rfl (fun K hK=>?_) (AnQ)
 rw[ipQ uf0]
 simp only[pg3]
 have HK:=hH hK
 clear hK uH
 go_wp2_with fail
 rw[←HV.out.1]
 refine HK.out _ _ HV.out.2 (fun uH=>?_)
 clear HK uH z0 z1 z2 z3 zf
 refine wpAnyH_done kr1 ?_ _
 go_upto_region 3 with fail
 obtain⟨hbV,r1,hkV,hyV,hvV,hkc,hvc,hyn,hvn⟩:=HF.out
 obtain⟨S2,hS2⟩:∃S2:World→Prop,S2=fun Y=>Y.heap[w.heap.size+1+1]? =some (.cells #[.int .i64 y.id,.int .i64 y.kind,.string y.text,.slice kb yn kc] 27 (0,0))∧Y.heap[w.heap.size+1+1+1]? =some (.cells #[.int .i64 v.id,.int .i64 v.kind,.string v.text,.slice va vn vc] 27 (0,0)):=⟨_,rfl⟩
 have HS2:=hH (fun (Y:World) (h:S2 Y)=>(show (uf1 Y (w.heap.size+1+1) y.id y.kind y.text kb yn kc)∧(uf1 Y (w.heap.size+1+1+1) v.id v.kind v.text va vn vc) by
  rw[hS2] at h;exact⟨zH h.1,zH h.2⟩))
 have HT:=hH (fun (Y:World) (h1:Y.heap[w.heap.size+1+1]? =some (.cells #[.int .i64 y.id,.int .i64 y.kind,.string y.text,.slice kb yn kc] 27 (0,0))) (h2:Y.heap[w.heap.size+1+1+1]? =some (.cells #[.int .i64 v.id,.int .i64 v.kind,.string v.text,.slice va vn vc] 27 (0,0)))=>(show S2 Y.drew by rw[hS2];exact⟨h1,h2⟩))
 have hT0:S2 V.drew:=HT.out V r1 hkV
 clear hbV r1 hkV hyV hvV hkc hvc hyn hvn hS2
 refine wrhQ (S:=S2) kr1 hT0 (fun uH=>?_)
 refine tJ (i:=0) (.agg #[.int .i64 y.id,.int .i64 y.kind,.string y.text,.slice kb yn kc]) rfl ?_ ?_
 · exact ua8
 simp only[Act.put,pg]
 refine tJ (i:=1) (.agg #[.int .i64 v.id,.int .i64 v.kind,.string v.text,.slice va vn vc]) rfl ?_ ?_
 · exact ua8
 simp only[Act.put,pg]
 refine rd [2] ?_
 refine AcQ (o:=_) rfl (fun K hK=>?_) (AnQ)
 rw[ipQ uf0]
 simp only[pg3]
 have HK:=hH hK
 clear hK uH
 obtain⟨q0,q1,q2,q3,hq⟩:∃q0 q1 q2 q3,V.heap[w.heap.size+1+1]? =some (.cells #[q0,q1,q2,q3] 27 (0,0)):=⟨_,_,_,_,HF.out.2.1⟩
 obtain⟨V2,hV2,a1,a2,a3,a4,a5,a6⟩:=zu (V:=V) (R1:=w.heap.size+1+1) (u0:= .int .i64 y.id) (u1:= .int .i64 y.kind) (u2:= .string y.text) (u3:= .slice kb yn kc) hq
 obtain⟨s0,s1,s2,s3⟩:=zH hq
 have sf:∀j,V.frozen? ⟨w.heap.size+1+1,j,none⟩=false:=fun j=>forQ _ _ j _ _ hq
 have hk2:=(a2 (w.heap.size+1+1+1) om).trans HF.out.2.2.1
 have hT2:S2 V2.drew:=HT.out _ a1 hk2
 have HV2:=hH hV2
 have HA:=hH (aN a1 (aN a2 (aN a3 (aN a4 (aN a5 (aN a6 hk2))))))
 clear hV2 a1 a2 a3 a4 a5 a6 hk2 hq
 go_wp2_with fail
 rw[←HV2.out]
 refine HK.out _ _ hT2 (fun uH=>?_)
 clear HK hT0 hT2 s0 s1 s2 s3 sf
 refine rd [3] ?_
 refine AcQ (o:=_) rfl (fun K hK=>?_) (AnQ)
 rw[ipQ uf0]
 simp only[pg3]
 have HK:=hH hK
 clear hK uH
 obtain⟨q0,q1,q2,q3,hq⟩:∃q0 q1 q2 q3,V2.heap[w.heap.size+1+1+1]? =some (.cells #[q0,q1,q2,q3] 27 (0,0)):=⟨_,_,_,_,HA.out.2.2.2.2.2.2⟩
 obtain⟨V3,hV3,b1,b2,b3,b4,b5,b6⟩:=zu (V:=V2) (R1:=w.heap.size+1+1+1) (u0:= .int .i64 v.id) (u1:= .int .i64 v.kind) (u2:= .string v.text) (u3:= .slice va vn vc) hq
 obtain⟨s0,s1,s2,s3⟩:=zH hq
 have sf:∀j,V2.frozen? ⟨w.heap.size+1+1+1,j,none⟩=false:=fun j=>forQ _ _ j _ _ hq
 have hk3:=(b2 (w.heap.size+1+1) om).trans HA.out.1
 have hT3:S2 V3.drew:=HT.out _ hk3 b1
 have HV3:=hH hV3
 have HB3:=hH (aN b1 (aN b2 (aN b3 (aN b4 (aN b5 (aN b6 hk3))))))
 clear hV3 b1 b2 b3 b4 b5 b6 hk3 hq
 go_wp2_with fail
 rw[←HV3.out]
 refine HK.out _ _ hT3 (fun uH=>?_)
 clear HK uH s0 s1 s2 s3 sf hT3
 refine wpAnyH_done kr1 ?_ _
 obtain⟨hbV,r1,hkV,hyV,hvV,hkc,hvc,hyn,hvn⟩:=HF.out
 obtain⟨a1,a2,a3,a4,a5,a6,hk2⟩:=HA.out
 obtain⟨b1,b2,b3,b4,b5,b6,hk3⟩:=HB3.out
 have hall:∀z,V3.heap[z]? =V.heap[z]?:=fun z=>by
  by_cases h3:z=w.heap.size+1+1+1
  · subst h3;rw[b1,hkV]
  · rw[b2 z h3]
    by_cases h2:z=w.heap.size+1+1
    · subst h2;rw[a1,r1]
    · exact a2 z h2
 have hsz3:V3.heap.size=V.heap.size:=b6.trans a6
 go_wp2_with fail
 refine brQ (zdi rfl _ V3.drew (w.heap.size+1+1) (w.heap.size+1+1+1) 27 27 _ _ _ _ _ rfl hk3 rfl b1 Try.underlying27 rfl kr1 rfl) rfl ?_
 exact⟨_,_,rfl,⟨kb,kc,by rw[hyn],hkc,hyV.kept (w':=V3.drew) (S':=fun z=>S z∨w.heap.size≤z∧z<V3.drew.heap.size) fun z hz=>⟨hz.imp id (fun h=>⟨h.1,by show z<V3.heap.size;omega⟩),hall z⟩⟩,⟨va,vc,by rw[hvn],by rw[←hvn];exact hvc,hvV.kept (w':=V3.drew) (S':=fun z=>S z∨w.heap.size≤z∧z<V3.drew.heap.size) fun z hz=>⟨hz.imp id (fun h=>⟨h.1,by show z<V3.heap.size;omega⟩),hall z⟩⟩,⟨b3.trans (a3.trans hbV.os),b4.trans (a4.trans hbV.tape),b5.trans (a5.trans hbV.output),by show _≤V3.heap.size;rw[hsz3];exact hbV.size,fun z hz=>(hall z).trans (hbV.block z hz)⟩⟩
end Go.Proofs.Ytnikgofkldkdkaa
