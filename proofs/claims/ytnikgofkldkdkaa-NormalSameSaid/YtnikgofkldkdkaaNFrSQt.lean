/-
  .
-/
import Derived.Test.YtnikgofkldkdkaaNDoesQt
set_option maxRecDepth 100000
set_option maxHeartbeats 40000000
set_option linter.unusedVariables false
set_option linter.unusedSimpArgs false
namespace Go.Proofs.Ytnikgofkldkdkaa
open Go.RowKit Go.Shelf
theorem zgx {vs fs:List SV}{n:Nat}(h:YC vs)(hs:steps fs=ofK n (steps vs)):YC fs:=by
 have hl:=zfh n (steps vs)
 rw[←hs,ji,ji] at hl
 refine⟨NltQ hl h.1,fun x hx=>?_⟩
 refine zbs (M:=200) n (l:=steps vs) (fun s hs=>?_) x.s (by rw[←hs];exact List.mem_map_of_mem hx)
 obtain⟨y,hy,rfl⟩:=List.mem_map.1 hs
 exact h.2 y hy
theorem zgm {vs fs:List SV}{n:Nat}(h:∀x∈vs,vY x.s)(hs:steps fs=ofK n (steps vs)):∀x∈fs,vY x.s:=fun x hx=>
 zc8 n (l:=steps vs) (fun s hs=>by obtain⟨y,hy,rfl⟩:=List.mem_map.1 hs;exact h y hy) x.s (by rw[←hs];exact List.mem_map_of_mem hx)
theorem zaP {ok:Tr→Bool}{n:Nat}{l:List Sf}{t x y:Tr}{b:Bool}(hd:qR t)(h:goN qN ok l t=some x)(h1:b=true→goN qN ok (ofK n l) t=some y)(h2:b=false→goN qN ok (ofK n l) t=none):b=true∧y=x:=by
 have hf:=zhC (G:=qN) (ok:=ok) zhS n hd h
 cases b with
 | true=>exact⟨rfl,by have:=(h1 rfl).symm.trans hf;exact Option.some.inj this⟩
 | false=>rw[h2 rfl] at hf;cases hf
theorem Q6 {W0 W1 X:World}{x:Tr}{va vb:Option Addr}{vn vm vc vd:Nat}(h0:qC W0 x.kids va vc)(h1:qC W1 x.kids vb vd)(b0:Below W0.heap.size W0 X)(b1:Below W1.heap.size W1 X)(hs:za x.kids≤20000)(hn:vn=foLen x.kids)(hm:vm=foLen x.kids):
 Calls Try.prog 11 #[.agg #[.int .i64 x.id,.int .i64 x.kind,.string x.text,.slice va vn vc],.agg #[.int .i64 x.id,.int .i64 x.kind,.string x.text,.slice vb vm vd]] X fun e w'=>e= .returned (.bool true)∧Below X.heap.size X w':=by
 subst hn hm
 refine (zim 100000 X _ _ _ _ x x om ⟨by have:=zM x.kids;omega,jM _ om⟩ (fun q hq=>nL hq b0.size) (fun q hq=>nL hq b1.size) (h0.at b0) (h1.at b1)).mono ?_
 rintro e w' ⟨rfl,hb⟩
 exact⟨by rw[zeF],hb⟩
theorem zaz (w:World)(g:Gr)(t:Tr)(ga ta la:Option Addr)(gn gc tn tc n c:Nat)(vs:List SV)(hgn:gn=g.kinds.length)(hg:GrV w (.agg #[.slice ga g.kinds.length gc,.int .i64 g.root]) g)(hf:g.fits)(htn:tn=foLen t.kids)(ht:qC w t.kids ta tc)(hft:Fits t)(hn:n=vs.length)(h:zfv w la vs)(hin:∀x∈vs,InG x.s)(hnil:la=none→c=0)(hcm:n≤c):
 Calls Try.prog 3 #[.agg #[.slice ga gn gc,.int .i64 g.root],.agg #[.int .i64 t.id,.int .i64 t.kind,.string t.text,.slice ta tn tc],.slice la n c] w (zkz w):=by
 obtain⟨B,hB⟩:∃B,B=zx w [.cells #[.slice ga gn gc,.int .i64 g.root] 24,.cells #[.int .i64 t.id,.int .i64 t.kind,.string t.text,.slice ta tn tc] 27]:=⟨_,rfl⟩
 have Bw:=hH (show Below w.heap.size w B by rw[hB];exact zl _ _)
 have EG:=hH (show B.heap[w.heap.size]? =some (.cells #[.slice ga gn gc,.int .i64 g.root] 24 (0,0)) by rw[hB];exact ze _ _ 0 _ rfl)
 have ET:=hH (show B.heap[w.heap.size+1]? =some (.cells #[.int .i64 t.id,.int .i64 t.kind,.string t.text,.slice ta tn tc] 27 (0,0)) by rw[hB];exact ze _ _ 1 _ rfl)
 have HBE:=hH hB
 have HG:=hH (aN hgn (aN hg hf))
 have HT:=hH (aN htn (aN ht hft))
 have HA:=hH (aN hn (aN h (aN hin (aN hnil hcm))))
 clear hB hgn hg hf htn ht hft hn h hin hnil hcm
 go_enter Try.func3,Try.ntmps3
 go_upto_region 1 with fail
 change Code.wp _ _ _ _ (zx w [.cells #[.slice ga gn gc,.int .i64 g.root] 24,.cells #[.int .i64 t.id,.int .i64 t.kind,.string t.text,.slice ta tn tc] 27])
 rw[←HBE.out]
 clear HBE
 obtain⟨qT0,qT1,qT2,qT3⟩:=zH ET.out
 go_wp2_with fail
 refine (zcP B la n c vs HA.out.1 ⟨fun k x hx=>by obtain⟨b,off,e,h1,h2⟩:=HA.out.2.1.cells k x hx;exact⟨b,off,e,nL h1 Bw.out.size,fun j u hj=>(World.cell?_of_block (a:=⟨b,off+k*9+j,none⟩) (Bw.out.block b h1)).trans (h2 j u hj)⟩,fun x hx=>(HA.out.2.1.lies x hx).on Bw.out,HA.out.2.1.inn⟩).mono ?_
 rintro e W1 ⟨bg,rfl,hsm,hb⟩
 clear qT0 qT1 qT2 qT3
 replace EG:=hH ((hb.block _ (lohQ EG.out)).trans EG.out)
 replace ET:=hH ((hb.block _ (lohQ ET.out)).trans ET.out)
 replace Bw:=hH (Bw.out.trans (hb.mono Bw.out.size))
 have HSM:=hH hsm
 clear hsm hb
 cases bg
 rotate_left
 · have hx:True:=trivial
   go_wp2_with fail
   refine (ve ofFn zef W1).mono ?_
   exact sc1
 have HS:=hH (HSM.out rfl)
 have HR:=hH (show Row w la vs from HA.out.2.1.row HS.out)
 have HST:Hid (∀x∈vs,vY x.s):=hH fun x hx=>zir (HA.out.2.2.1 x hx) (HS.out.2 x hx)
 have HL9:=hH (aN HT.out.2.2.1 HT.out.2.2.2.1)
 obtain⟨qT0,qT1,qT2,qT3⟩:=zH ET.out
 go_wp2_with fail
 refine (Yj 201 om W1 _ (.agg #[.int .i64 t.id,.int .i64 t.kind,.string t.text,.slice ta tn tc]) t HL9.out.1 HL9.out.2 (fun q hq=>nL hq Bw.out.size) (by rw[HT.out.1];exact HT.out.2.1.at Bw.out)).mono ?_
 rintro e W2 ⟨wa,wc,rfl,_,hb⟩
 clear qT0 qT1 qT2 qT3
 replace EG:=hH ((hb.block _ (lohQ EG.out)).trans EG.out)
 replace ET:=hH ((hb.block _ (lohQ ET.out)).trans ET.out)
 replace Bw:=hH (Bw.out.trans (hb.mono Bw.out.size))
 clear hb
 obtain⟨q,hq⟩:∃q,q=((spF 1 (zh t)).take 201).length:=⟨_,rfl⟩
 rw[←hq]
 rw[List.length_take,vL,yH] at hq
 by_cases h200:200<q
 · have hql:(200:Int)<(q:Int):=by omega
   clear hq h200
   go_wp2_with fail
   refine (ve ofFn zef W2).mono ?_
   exact sc1
 have hql:¬(200:Int)<(q:Int):=by omega
 have HSZ:=hH (show za t.kids+1≤200 by omega)
 clear hq h200
 obtain⟨qT0,qT1,qT2,qT3⟩:=zH ET.out
 go_wp2_with fail
 refine (zf0 W2 (fun q=>q<w.heap.size) t ta tn tc HT.out.1 HSZ.out (fun q hq=>nL hq Bw.out.size) HT.out.2.1.1 (HT.out.2.1.2.kept fun q hq=>⟨hq,Bw.out.block q hq⟩)).mono ?_
 rintro e W3 ⟨bo,rfl,hdi,hb⟩
 clear qT0 qT1 qT2 qT3
 replace EG:=hH ((hb.block _ (lohQ EG.out)).trans EG.out)
 replace ET:=hH ((hb.block _ (lohQ ET.out)).trans ET.out)
 replace Bw:=hH (Bw.out.trans (hb.mono Bw.out.size))
 have HDI:=hH hdi
 clear hdi hb
 cases bo
 · have hx:True:=trivial
   go_wp2_with fail
   refine (ve ofFn zef W3).mono ?_
   exact sc1
 have HWN:=hH (show zdR 0 t from⟨HDI.out rfl,zcd 1 (zh t) ⟨HT.out.2.2.2.2.1,HT.out.2.2.2.2.2,True.intro⟩,by have:=HSZ.out;omega⟩)
 go_wp2_with fail
 refine (ofFn W3 la n c vs ⟨HR.out.on Bw.out,HA.out.1,HA.out.2.2.2.2,HA.out.2.2.2.1⟩ HS.out (fun x hx=>(HST.out x hx).wf)).mono ?_
 rintro e W4 ⟨fa,fn,fc,fs,rfl,hfr,hfs,hb⟩
 replace EG:=hH ((hb.block _ (lohQ EG.out)).trans EG.out)
 replace ET:=hH ((hb.block _ (lohQ ET.out)).trans ET.out)
 replace Bw:=hH (Bw.out.trans (hb.mono Bw.out.size))
 have Bf:=hH (BrQ W4.heap.size W4)
 have HF:=hH (aN hfr.row (aN hfr.len (aN hfs (aN (zgx HS.out hfs) (zgm HST.out hfs)))))
 clear hfr hfs hb
 obtain⟨qT0,qT1,qT2,qT3⟩:=zH ET.out
 go_wp2_with fail
 refine (zbd W4 t ta la tn tc n c vs HT.out.1 (HT.out.2.1.on Bw.out) HWN.out HA.out.1 (by rw[HA.out.1];exact HS.out.1) (HR.out.on Bw.out) HST.out).mono ?_
 rintro e W5a ⟨ba,xa,va,ca,rfl,hl,hs,hb,h1,h2⟩
 obtain⟨na,hna⟩:∃na,na=foLen xa.kids:=⟨_,rfl⟩
 rw[←hna]
 obtain⟨W5,hU⟩:∃W5,W5=W5a.alloc (.cells #[.int .i64 xa.id,.int .i64 xa.kind,.string xa.text,.slice va na ca] 27):=⟨_,rfl⟩
 have hbU:Below W5a.heap.size W5a W5:=by rw[hU];exact zg _ _
 have Ea:=hH (show W5.heap[W5a.heap.size]? =some (.cells #[.int .i64 xa.id,.int .i64 xa.kind,.string xa.text,.slice va na ca] 27 (0,0)) by rw[hU];exact hanQ _ _)
 have Ha:=hH (aN (qC.on hl hbU) (aN hs (aN h1 (aN h2 hna))))
 replace hb:=hb.trans (hbU.mono hb.size)
 clear qT0 qT1 qT2 qT3
 replace EG:=hH ((hb.block _ (lohQ EG.out)).trans EG.out)
 replace ET:=hH ((hb.block _ (lohQ ET.out)).trans ET.out)
 replace Bw:=hH (Bw.out.trans (hb.mono Bw.out.size))
 replace Bf:=hH (Bf.out.trans (hb.mono Bf.out.size))
 have Ba:=hH (BrQ W5.heap.size W5)
 have HU:=hH hU
 obtain⟨ka,hka⟩:∃ka,ka=W5a.heap.size:=⟨_,rfl⟩
 clear hl hs hb h1 h2 hna hU hbU
 go_upto_region 5 with fail
 change Code.wp _ _ _ _ (W5a.alloc (.cells #[.int .i64 xa.id,.int .i64 xa.kind,.string xa.text,.slice va na ca] 27))
 rw[←HU.out,←hka]
 rw[←hka] at Ea
 clear HU hka
 obtain⟨qT0,qT1,qT2,qT3⟩:=zH ET.out
 go_wp2_with fail
 refine (zbd W5 t ta fa tn tc fn fc fs HT.out.1 (HT.out.2.1.on Bw.out) HWN.out HF.out.2.1 (by rw[HF.out.2.1];exact HF.out.2.2.2.1.1) (HF.out.1.on Bf.out) HF.out.2.2.2.2).mono ?_
 rintro e W6a ⟨bb,xb,vb,cb,rfl,hl,hs,hb,h1,h2⟩
 obtain⟨nb,hnb⟩:∃nb,nb=foLen xb.kids:=⟨_,rfl⟩
 rw[←hnb]
 obtain⟨W6,hU⟩:∃W6,W6=W6a.alloc (.cells #[.int .i64 xb.id,.int .i64 xb.kind,.string xb.text,.slice vb nb cb] 27):=⟨_,rfl⟩
 have hbU:Below W6a.heap.size W6a W6:=by rw[hU];exact zg _ _
 have Eb:=hH (show W6.heap[W6a.heap.size]? =some (.cells #[.int .i64 xb.id,.int .i64 xb.kind,.string xb.text,.slice vb nb cb] 27 (0,0)) by rw[hU];exact hanQ _ _)
 have Hb:=hH (aN (qC.on hl hbU) (aN hs (aN h1 (aN h2 hnb))))
 replace hb:=hb.trans (hbU.mono hb.size)
 clear qT0 qT1 qT2 qT3
 replace EG:=hH ((hb.block _ (lohQ EG.out)).trans EG.out)
 replace ET:=hH ((hb.block _ (lohQ ET.out)).trans ET.out)
 replace Ea:=hH ((hb.block _ (lohQ Ea.out)).trans Ea.out)
 replace Bw:=hH (Bw.out.trans (hb.mono Bw.out.size))
 replace Bf:=hH (Bf.out.trans (hb.mono Bf.out.size))
 replace Ba:=hH (Ba.out.trans (hb.mono Ba.out.size))
 have Bb:=hH (BrQ W6.heap.size W6)
 have HU:=hH hU
 obtain⟨kb,hkb⟩:∃kb,kb=W6a.heap.size:=⟨_,rfl⟩
 clear hl hs hb h1 h2 hnb hU hbU
 go_upto_region 6 with fail
 change Code.wp _ _ _ _ (W6a.alloc (.cells #[.int .i64 xb.id,.int .i64 xb.kind,.string xb.text,.slice vb nb cb] 27))
 rw[←HU.out,←hkb]
 rw[←hkb] at Eb
 clear HU hkb
 cases ba
 · have hx:True:=trivial
   go_upto_region 8 with fail
   obtain⟨qG0,qG1⟩:=zbe EG.out
   obtain⟨qT0,qT1,qT2,qT3⟩:=zH ET.out
   go_wp2_with fail
   refine (Zg W6 g ga gn gc t ta la tn tc n c vs HG.out.1 (HG.out.2.1.below Bw.out) HG.out.2.2 HT.out.1 (HT.out.2.1.on Bw.out) HWN.out HA.out.1 (by rw[HA.out.1];exact HS.out.1) (HR.out.on Bw.out) HST.out).mono ?_
   exact sa8
 have hsw:=zaP (n:=n) HWN.out.zhn (Ha.out.2.2.1 rfl) (by rw[←HF.out.2.2.1];exact Hb.out.2.2.1) (by rw[←HF.out.2.2.1];exact Hb.out.2.2.2.1)
 obtain⟨rfl,rfl⟩:=hsw
 have HSAM:=hH (Q6 Ha.out.1 Hb.out.1 Ba.out Bb.out Hb.out.2.1 Ha.out.2.2.2.2 Hb.out.2.2.2.2)
 obtain⟨qa0,qa1,qa2,qa3⟩:=zH Ea.out
 obtain⟨qb0,qb1,qb2,qb3⟩:=zH Eb.out
 go_wp2_with fail
 refine HSAM.out.mono ?_
 rintro e W7 ⟨rfl,hb⟩
 clear qa0 qa1 qa2 qa3 qb0 qb1 qb2 qb3
 replace EG:=hH ((hb.block _ (lohQ EG.out)).trans EG.out)
 replace ET:=hH ((hb.block _ (lohQ ET.out)).trans ET.out)
 replace Ea:=hH ((hb.block _ (lohQ Ea.out)).trans Ea.out)
 replace Eb:=hH ((hb.block _ (lohQ Eb.out)).trans Eb.out)
 replace Bw:=hH (Bw.out.trans (hb.mono Bw.out.size))
 replace Bf:=hH (Bf.out.trans (hb.mono Bf.out.size))
 replace Ba:=hH (Ba.out.trans (hb.mono Ba.out.size))
 replace Bb:=hH (Bb.out.trans (hb.mono Bb.out.size))
 clear hb HSAM
 go_upto_region 8 with fail
 obtain⟨qG0,qG1⟩:=zbe EG.out
 obtain⟨qT0,qT1,qT2,qT3⟩:=zH ET.out
 go_wp2_with fail
 refine (Zg W7 g ga gn gc t ta la tn tc n c vs HG.out.1 (HG.out.2.1.below Bw.out) HG.out.2.2 HT.out.1 (HT.out.2.1.on Bw.out) HWN.out HA.out.1 (by rw[HA.out.1];exact HS.out.1) (HR.out.on Bw.out) HST.out).mono ?_
 exact sa8
end Go.Proofs.Ytnikgofkldkdkaa
namespace Go.Proofs.Ytnikgofkldkdkaa
open Go.ChangeShapes Go.WideShapes Go.ChangeAt Go.RowKit
section
variable {H:Type} {enc:TypeId×Value→H} {w:World} {base:Nat} {spare:Nat→Bool} {held:Bool}
theorem add_block (a:Addr)(j:Nat):(a.add j).block=a.block:=by unfold Addr.add;split<;>rfl
theorem zen {fuel:Nat}{v:Value}{x:DataW H×List MemPlace}(h:DataW.trod enc Try.prog w base spare held fuel 65 [v]=some x):
 ∃(l:List Int) (a:Option Addr) (cap:Nat),v= .slice a l.length cap∧vP w a l∧(l.length:Int)≤9223372036854775807:=by
 rcases Deep.open_slice Try.underlying65 h with ⟨hcs,_⟩ | ⟨ad,len,cap,m,n,D,Pl,hcs,_,hl,hm,hmm,_,hi⟩
 · simp only[List.cons.injEq,and_true] at hcs
   subst hcs
   exact⟨[],none,0,rfl,fun h=>by simp at h,by simp⟩
 · simp only[List.cons.injEq,and_true] at hcs
   subst hcs
   have hle:len≤m:=by rw[hmm];split<;>omega
   have each:∀i,i<len→∃x:Int,w.cell? (ad.add i)=some (.int .i64 x):=fun i hil=>by
    obtain⟨cs',hc,ht⟩:=hi i om
    have h3:Try.prog.cellsOf 3=1:=by kernel_rfl
    rw[h3,Nat.mul_one] at hc
    obtain⟨_,hcl,hat⟩:=World.cells?_some hc
    match cs',hcl with
    | [c0],_=>
      obtain⟨x0,e0,_,_⟩:=DataW.trod_int Try.underlying3 ht
      have a0:=hat 0 om
      rw[Deep.add_add] at a0
      simp only[List.cons.injEq,and_true] at e0
      subst e0
      exact⟨x0,by simpa using a0⟩
   obtain⟨f,hf⟩:=Deep.choose_lt each
   refine⟨(List.range len).map f,some ad,cap,by simp,fun h0=>?_,by simp only[List.length_map,List.length_range];unfold maxLen at hm;omega⟩
   have h0' :0<len:=by simpa using h0
   obtain⟨b,off,spot⟩:=ad
   have hsp:=World.cell?_spot (hf 0 h0')
   have:spot=none:=by simpa [Addr.add] using hsp
   subst this
   have hlt:=World.block_lt_of_cell? w _ (hf 0 h0')
   rw[Addr.add_mid] at hlt
   refine⟨b,off,rfl,hlt,fun i x hi=>?_⟩
   rw[List.getElem?_map,Option.map_eq_some_iff] at hi
   obtain⟨j,hj,rfl⟩:=hi
   obtain⟨hlt,rfl⟩:=List.getElem?_eq_some_iff.1 hj
   simp only[List.length_range] at hlt
   simp only[List.getElem_range]
   have h1:=hf i hlt
   rw[Addr.add_mid] at h1
   exact h1
theorem zf3 (fuel:Nat)(cs:List Value)(x:DataW H×List MemPlace)(h:DataW.trod enc Try.prog w base spare held fuel 67 cs=some x):
 ∃(s:Sl) (ka:Option Addr) (kc:Nat),cs= [.slice ka s.kinds.length kc,.int .i64 s.least,.int .i64 s.most]∧vP w ka s.kinds∧s.fits:=by
 obtain⟨xs,n,_,_,hl,hlen,hf⟩:=DataW.trod_struct Try.underlying67 h
 have h3:Try.prog.cellsOf 67=3:=by kernel_rfl
 rw[h3] at hl
 match cs,hl with
 | [c0,c1,c2],_=>
   have k1:Try.prog.cellsOf 3=1:=by kernel_rfl
   have k2:Try.prog.cellsOf 65=1:=by kernel_rfl
   match xs,hlen with
   | [y0,y1,y2],_=>
     have t0:DataW.trod enc Try.prog w base spare held n 65 (([c0,c1,c2].drop 0).take (Try.prog.cellsOf 65))=some y0:=hf 0 _ rfl
     have t1:DataW.trod enc Try.prog w base spare held n 3 (([c0,c1,c2].drop 1).take (Try.prog.cellsOf 3))=some y1:=hf 1 _ rfl
     have t2:DataW.trod enc Try.prog w base spare held n 3 (([c0,c1,c2].drop 2).take (Try.prog.cellsOf 3))=some y2:=hf 2 _ rfl
     simp only[k1,k2,List.drop_zero,List.take_succ_cons,List.take_zero,List.drop_succ_cons] at t0 t1 t2
     obtain⟨l,ka,kc,rfl,hi,hle⟩:=zen t0
     obtain⟨lo,e1,_,_⟩:=DataW.trod_int Try.underlying3 t1
     obtain⟨hi2,e2,_,_⟩:=DataW.trod_int Try.underlying3 t2
     simp only[List.cons.injEq,and_true] at e1 e2
     subst e1;subst e2
     exact⟨⟨l,lo,hi2⟩,ka,kc,rfl,hi,hle⟩
theorem zdc {fuel:Nat}{v:Value}{x:DataW H×List MemPlace}(h:DataW.trod enc Try.prog w base spare held fuel 62 [v]=some x):
 ∃(l:List Sl) (a:Option Addr) (cap:Nat),v= .slice a l.length cap∧j5 w a l∧(l.length:Int)≤9223372036854775807∧∀s∈l,s.fits:=by
 rcases Deep.open_slice Try.underlying62 h with ⟨hcs,_⟩ | ⟨ad,len,cap,m,n,D,Pl,hcs,_,hl,hm,hmm,_,hi⟩
 · simp only[List.cons.injEq,and_true] at hcs
   subst hcs
   exact⟨[],none,0,rfl,fun h=>by simp at h,by simp,fun s hs=>by cases hs⟩
 · simp only[List.cons.injEq,and_true] at hcs
   subst hcs
   have hle:len≤m:=by rw[hmm];split<;>omega
   have h3:Try.prog.cellsOf 67=3:=by kernel_rfl
   rw[h3] at hi
   have each:∀i,i<len→∃(s:Sl),∃(ka:Option Addr) (kc:Nat),w.cell? (ad.add (i*3))=some (.slice ka s.kinds.length kc)∧w.cell? (ad.add (i*3+1))=some (.int .i64 s.least)∧w.cell? (ad.add (i*3+2))=some (.int .i64 s.most)∧vP w ka s.kinds∧s.fits:=fun i hil=>by
    obtain⟨cs',hc,ht⟩:=hi i om
    obtain⟨_,_,hat⟩:=World.cells?_some hc
    obtain⟨s,ka,kc,rfl,hia,hfi⟩:=zf3 n cs' _ ht
    exact sg6
   exact sb8
theorem zf2 (fuel:Nat)(cs:List Value)(x:DataW H×List MemPlace)(h:DataW.trod enc Try.prog w base spare held fuel 64 cs=some x):
 ∃(k:Kd) (sa:Option Addr) (sc:Nat),cs= [.string k.name,.bool k.text,.slice sa k.slots.length sc]∧j5 w sa k.slots∧k.fits:=by
 obtain⟨xs,n,_,_,hl,hlen,hf⟩:=DataW.trod_struct Try.underlying64 h
 have h3:Try.prog.cellsOf 64=3:=by kernel_rfl
 rw[h3] at hl
 match cs,hl with
 | [c0,c1,c2],_=>
   have k1:Try.prog.cellsOf 9=1:=by kernel_rfl
   have k2:Try.prog.cellsOf 4=1:=by kernel_rfl
   have k3:Try.prog.cellsOf 62=1:=by kernel_rfl
   match xs,hlen with
   | [y0,y1,y2],_=>
     have t0:DataW.trod enc Try.prog w base spare held n 9 (([c0,c1,c2].drop 0).take (Try.prog.cellsOf 9))=some y0:=hf 0 _ rfl
     have t1:DataW.trod enc Try.prog w base spare held n 4 (([c0,c1,c2].drop 1).take (Try.prog.cellsOf 4))=some y1:=hf 1 _ rfl
     have t2:DataW.trod enc Try.prog w base spare held n 62 (([c0,c1,c2].drop 2).take (Try.prog.cellsOf 62))=some y2:=hf 2 _ rfl
     simp only[k1,k2,k3,List.drop_zero,List.take_succ_cons,List.take_zero,List.drop_succ_cons] at t0 t1 t2
     obtain⟨nm,e0,_,hns⟩:=DataW.trod_string Try.underlying9 t0
     obtain⟨tx,e1,_⟩:=DataW.trod_bool Try.underlying4 t1
     obtain⟨l,sa,sc,rfl,hs,hle,hfs⟩:=zdc t2
     simp only[List.cons.injEq,and_true] at e0 e1
     subst e0;subst e1
     exact⟨⟨nm,tx,l⟩,sa,sc,rfl,hs,by show (nm.size:Int)≤_;unfold maxLen at hns;omega,hle,hfs⟩
theorem zdb {fuel:Nat}{v:Value}{x:DataW H×List MemPlace}(h:DataW.trod enc Try.prog w base spare held fuel 22 [v]=some x):
 ∃(l:List Kd) (a:Option Addr) (cap:Nat),v= .slice a l.length cap∧Ze w a l∧(l.length:Int)≤9223372036854775807∧∀s∈l,s.fits:=by
 rcases Deep.open_slice Try.underlying22 h with ⟨hcs,_⟩ | ⟨ad,len,cap,m,n,D,Pl,hcs,_,hl,hm,hmm,_,hi⟩
 · simp only[List.cons.injEq,and_true] at hcs
   subst hcs
   exact⟨[],none,0,rfl,fun h=>by simp at h,by simp,fun s hs=>by cases hs⟩
 · simp only[List.cons.injEq,and_true] at hcs
   subst hcs
   have hle:len≤m:=by rw[hmm];split<;>omega
   have h3:Try.prog.cellsOf 64=3:=by kernel_rfl
   rw[h3] at hi
   have each:∀i,i<len→∃(k:Kd),∃(sa:Option Addr) (sc:Nat),w.cell? (ad.add (i*3))=some (.string k.name)∧w.cell? (ad.add (i*3+1))=some (.bool k.text)∧w.cell? (ad.add (i*3+2))=some (.slice sa k.slots.length sc)∧j5 w sa k.slots∧k.fits:=fun i hil=>by
    obtain⟨cs',hc,ht⟩:=hi i om
    obtain⟨_,_,hat⟩:=World.cells?_some hc
    obtain⟨s,ka,kc,rfl,hia,hfi⟩:=zf2 n cs' _ ht
    exact sg6
   exact sb8
theorem zjc {fuel:Nat}{cs:List Value}{x:DataW H×List MemPlace}(h:DataW.trod enc Try.prog w base spare held fuel 24 cs=some x):
 ∃(g:Gr) (ka:Option Addr) (kc:Nat),cs= [.slice ka g.kinds.length kc,.int .i64 g.root]∧Ze w ka g.kinds∧g.fits:=by
 obtain⟨xs,n,_,_,hl,hlen,hf⟩:=DataW.trod_struct Try.underlying24 h
 have h3:Try.prog.cellsOf 24=2:=by kernel_rfl
 rw[h3] at hl
 match cs,hl with
 | [c0,c1],_=>
   have k1:Try.prog.cellsOf 3=1:=by kernel_rfl
   have k2:Try.prog.cellsOf 22=1:=by kernel_rfl
   match xs,hlen with
   | [y0,y1],_=>
     have t0:DataW.trod enc Try.prog w base spare held n 22 (([c0,c1].drop 0).take (Try.prog.cellsOf 22))=some y0:=hf 0 _ rfl
     have t1:DataW.trod enc Try.prog w base spare held n 3 (([c0,c1].drop 1).take (Try.prog.cellsOf 3))=some y1:=hf 1 _ rfl
     simp only[k1,k2,List.drop_zero,List.take_succ_cons,List.take_zero,List.drop_succ_cons] at t0 t1
     obtain⟨l,ka,kc,rfl,hk,hle,hfk⟩:=zdb t0
     obtain⟨r,e1,_,_⟩:=DataW.trod_int Try.underlying3 t1
     simp only[List.cons.injEq,and_true] at e1
     subst e1
     exact⟨⟨l,r⟩,ka,kc,rfl,hk,hle,hfk⟩
theorem open_grV {v:Value}{d:DataW H}{ps:List MemPlace}{cs:Array Value}(hv:v= .agg cs)(h:DataW.Trod enc Try.prog w base spare held 24 v d ps):∃g,GrV w v g∧g.fits:=by
 subst hv
 obtain⟨fuel,hf⟩:=h
 obtain⟨g,ka,kc,e,hk,hfit⟩:=zjc hf
 refine⟨g,⟨ka,kc,?_,hk⟩,hfit⟩
 have e2:cs.toList= [.slice ka g.kinds.length kc,.int .i64 g.root]:=by simpa [Value.cells] using e
 rw[show cs=cs.toList.toArray by simp,e2]
end
end Go.Proofs.Ytnikgofkldkdkaa
namespace Go.Proofs.Ytnikgofkldkdkaa
open Go.RowKit Go.Shelf
theorem normalSame_fr (w:World)(gv:Value)(g:Gr)(nv:Value)(t:Tr)(vs:List SV)(la:Option Addr)(cm:Nat)(hg:GrV w gv g)(hfg:g.fits)(ht:zK w (Old w) nv t)(hft:Fits t)(h:zfv w la vs∧(∀x∈vs,InG x.s)∧(la=none→cm=0)∧vs.length≤cm):
 Calls Try.prog 3 #[gv,nv,.slice la vs.length cm] w (zkz w):=by
 obtain⟨ga,gc,rfl,hk⟩:=hg
 obtain⟨ta,tc,rfl,h1,h2⟩:=ht
 exact zaz w g t ga ta la _ gc _ tc _ cm vs rfl ⟨ga,gc,rfl,hk⟩ hfg rfl ⟨h1,h2.kept fun q hq=>⟨hq,rfl⟩⟩ hft rfl h.1 h.2.1 h.2.2.1 h.2.2.2
end Go.Proofs.Ytnikgofkldkdkaa
