/-
  .
-/
import Derived.Test.YtoidedomenkbpaaGreatKIdsQs
set_option maxRecDepth 100000
set_option maxHeartbeats 40000000
namespace Go.Proofs.YtoidedomenkbpaaGreat
open Go.RowKit Go.Shelf
set_option linter.unusedVariables false
set_option linter.unusedSimpArgs false
theorem QA {w:World}{y:Nat}{cs cs' :Array Value}{t t' :TypeId}{fr fr' :Nat×Nat}(h:w.heap[y]? =some (.cells cs t fr))(h' :w.heap[y]? =some (.cells cs' t' fr')):t=t':=by rw[h] at h';cases h';rfl
theorem Tryz.zj2:(Tryz.prog.info? 33).map (fun i=>(i.zero,i.size,i.bytes))=some (some (.slice none 0 0),1,24):=by kernel_rfl
def zjB (S:Nat→Prop)(B0 WB B:Nat)(X:World)(wa:Option Addr)(wn wc:Nat)(vals:List Value)(b off:Nat)(f:Fo)(V:World):Prop:=
 ∃ (wa' :Option Addr) (wc' :Nat) (ka' :Option Addr) (kc' :Nat),V.heap[WB]? =some (.cells #[.slice wa' (wn+1) wc'] 214 (0,0))∧
  V.ownsRow B 33 1 (.slice wa' (wn+1) wc') (wn+1) (vals++[.slice ka' (foLen f) kc'])∧foLen f≤kc'∧
  (∀y,y<X.heap.size→y≠b→y≠WB→some y≠(Value.slice wa wn wc).ownBlock→V.heap[y]? =X.heap[y]?)∧
  (∀cs,X.heap[b]? =some (.cells cs 35 (0,0))→V.heap[b]? =some (.cells (cs.setIfInBounds (off+3) (.slice ka' (foLen f) kc')) 35 (0,0)))∧
  (X.heap.size≤V.heap.size∧V.os=X.os∧V.tape=X.tape∧V.output=X.output)∧
  (∀l a,zQ X (SN S B0 X) l a→zQ V (SN S B0 V) l a)∧(∀y,NB X y→NB V y)∧zQ V (SN S B0 V) f ka'∧(0<foLen f→∃g,ka'=some ⟨g,0,none⟩∧X.heap.size≤g∧NB V g)
theorem zfl (S:Nat→Prop)(B0 WB B:Nat)(X0:World)(wa:Option Addr)(wn wc:Nat)(vals:List Value)(b off kc:Nat)(ka:Option Addr)(f:Fo)(hS:∀y,S y→y<B0)(hBB:B0+1<B)(hWB:B0≤WB)(hBX:B≤X0.heap.size)
 (hw:X0.heap[WB]? =some (.cells #[.slice wa wn wc] 214 (0,0))) (hrow:X0.ownsRow B 33 1 (.slice wa wn wc) wn vals) (hWBB:WB<B)
 (hb:NB X0 b) (hbB:B0≤b) (h3:X0.cell? ⟨b,off+3,none⟩=some (.slice ka (foLen f) kc)) (hf:zQ X0 (SN S B0 X0) f ka) (hsz:foLen f≤1000000) (hwn:wn≤1000000):
 Calls Tryz.prog 176 #[.pointer (some ⟨b,off,none⟩),.pointer (some ⟨WB,0,none⟩)] X0 fun e V=>e= .returned (.tuple #[])∧zjB S B0 WB B X0 wa wn wc vals b off f V:=by
 obtain⟨n,hn⟩:∃n,n=foLen f:=⟨_,rfl⟩
 obtain⟨xs,hr,hxl,hxc,hx1⟩:=zik f hf
 have hcl:=zcN X0 ka n kc xs om1 hx1 om1 hxc (fun h=>by have:=zij hf h;omega)
 have hbf:∀j,X0.frozen? ⟨b,j,none⟩=false:=fun j=>by obtain⟨cs,hcs⟩:=hb;exact forQ _ _ j _ _ hcs
 have hB0X:B0+1<X0.heap.size:=by omega
 have hbl:=hb.lt
 have hbW:b≠WB:=fun e=>by
  obtain⟨cs,hcs⟩:=hb
  exact absurd (QA (by rw[e];exact hw) hcs) ue0
 have hbR:∀y,NB X0 y→some y≠(Value.slice wa wn wc).ownBlock:=fun y hy e=>by
  obtain⟨cs,hcs⟩:=hy
  obtain⟨cur,hcur⟩:=YD hrow e.symm
  exact absurd (QA (hcur) hcs) ue0
 have hRB:∀y,some y=(Value.slice wa wn wc).ownBlock→B≤y∧y<X0.heap.size:=fun y e=>zY hrow e.symm
 rw[←hn] at h3
 have HCL:=hH hcl
 have HSS:=hH hS
 have HP:=hH (aN hf (aN hr (aN hn (aN (show xs.length=n*4 by omega) hxc))))
 have HB:=hH (aN hb (aN hbB (aN hbl (aN hbW (aN hbR (aN hRB hB0X))))))
 have HW:=hH (aN hw (aN hrow (aN hWBB (aN hBB (aN hBX hWB)))))
 have HH3:=hH h3
 clear hS hn hcl hf hr hxl hxc hx1 hb hbB hbl hbW hbR hRB hB0X hw hrow hWBB hBB hBX hWB hsz
 go_enter Tryz.func176,Tryz.ntmps176
 go_wp2_with fail
 refine HCL.out.mono ?_
 rintro e Y ⟨v',rfl,hbY,hown⟩
 obtain⟨ka',kc',rfl⟩:=yE hown
 obtain⟨hkc',hfY,hgY,hcopy,hallY⟩:=zeb HSS.out HB.out.2.2.2.2.2.2 hbY HP.out.1 HP.out.2.1 HP.out.2.2.1 HP.out.2.2.2.1 HP.out.2.2.2.2 hown
 have hbb:Y.heap[b]? =X0.heap[b]?:=hbY.block b HB.out.2.2.1
 have y3:Y.cell? ⟨b,off+3,none⟩=some (.slice ka n kc):=(World.cell?_of_block (a:=⟨b,off+3,none⟩) hbb).trans HH3.out
 have yf:∀j,Y.frozen? ⟨b,j,none⟩=false:=fun j=>(World.frozen?_of_block hbb).trans (hbf j)
 have hkeepZ:=ZM (S:=SN S B0 Y) y3 hkc' hcopy
 obtain⟨X,hZ⟩:∃Z,Z=Y.setCell ⟨b,off+3,none⟩ (.slice ka' n kc'):=⟨_,rfl⟩
 rw[←hZ] at hkeepZ
 have hZo:∀y,y≠b→X.heap[y]? =Y.heap[y]?:=fun y hy=>by rw[hZ];exact BhsQ _ _ _ _ hy
 have hZb:∀cs,X0.heap[b]? =some (.cells cs 35 (0,0))→X.heap[b]? =some (.cells (cs.setIfInBounds (off+3) (.slice ka' n kc')) 35 (0,0)):=fun cs hcs=>by
  rw[hZ];exact hssQ Y b (off+3) cs _ _ (hbb.trans hcs)
 have hZs:X.heap.size=Y.heap.size:=by rw[hZ];simp[World.setCell]
 have hZc:X.os=X0.os∧X.tape=X0.tape∧X.output=X0.output:=by rw[hZ];exact⟨hbY.os,hbY.tape,hbY.output⟩
 have hZN:∀y,NB Y y→NB X y:=fun y hy=>by
  by_cases he:y=b
  · subst he
    obtain⟨cs,hcs⟩:=HB.out.1
    exact⟨_,hZb cs hcs⟩
  · exact hy.Jr (hZo y he)
 have hYN:∀y,NB X0 y→NB Y y:=fun y hy=>hy.Jr (hbY.block y hy.lt)
 have hall2:∀l a,zQ X0 (SN S B0 X0) l a→zQ X (SN S B0 X) l a:=fun l a h=>(hkeepZ l a (hallY l a h)).kept fun y hy=>⟨hy.imp (fun h=>h) (fun h=>⟨h.1,h.2.1,hZN y h.2.2⟩),rfl⟩
 have hfZ:zQ X (SN S B0 X) f ka':=(hkeepZ f ka' hfY).kept fun y hy=>⟨hy.imp (fun h=>h) (fun h=>⟨h.1,h.2.1,hZN y h.2.2⟩),rfl⟩
 have hgZ:0<n→∃g,ka'=some ⟨g,0,none⟩∧X0.heap.size≤g∧NB X g:=fun h=>by
  obtain⟨g,e,h1,h2⟩:=hgY h
  exact⟨g,e,h1,hZN g h2⟩
 have hwX:X.heap[WB]? =some (.cells #[.slice wa wn wc] 214 (0,0)):=by
  rw[hZo WB (Ne.symm HB.out.2.2.2.1),hbY.block WB (lt_of_some HW.out.1)];exact HW.out.1
 have hroX:X.ownsRow B 33 1 (.slice wa wn wc) wn vals:=yo HW.out.2.1 fun g cur hc hg=>by
  have h1:=(HB.out.2.2.2.2.2.1 g hg.symm).2
  have h2:g≠b:=fun e=>HB.out.2.2.2.2.1 b HB.out.1 (by rw[←e];exact hg.symm)
  rw[hZo g h2,hbY.block g h1]
 have hX0X:X0.heap.size≤X.heap.size:=by rw[hZs];exact hbY.size
 have hoX:∀y,y<X0.heap.size→y≠b→X.heap[y]? =X0.heap[y]?:=fun y hy hne=>(hZo y hne).trans (hbY.block y hy)
 have x3:X.cell? ⟨b,off+3,none⟩=some (.slice ka' n kc'):=by rw[hZ];exact World.cell?_setCell_same' Y _ _ (by rw[y3];rfl)
 have hNX:∀y,NB X0 y→NB X y:=fun y hy=>hZN y (hYN y hy)
 have hbX:NB X b:=hNX b HB.out.1
 have HZ1:=hH (aN hall2 (aN hfZ (aN hgZ (aN hZb (aN hZc (aN hNX (aN hoX (aN hkc' hX0X))))))))
 have HZE:=hH hZ
 clear hbY hown hfY hgY hcopy hallY hkeepZ hZo hZb hZs hZc hZN hYN hall2 hfZ hgZ hkc' hoX hNX hZ hbb HCL HH3
 go_upto_region 1 with fail
 rw[←HZE.out]
 clear y3 yf HZE h3 hbf
 have hl0:X.cell? ⟨WB,0,none⟩=some (.slice wa wn wc):=by rw[corQ _ _ 0 _ _ _ hwX];rfl
 obtain⟨Y1,hY1⟩:∃Y1,Y1=(X.alloc (.cells #[.slice ka' n kc'] 33)).drew:=⟨_,rfl⟩
 have hbY:Below X.heap.size X Y1:=by
  rw[hY1]
  have h:=(BrQ X.heap.size X).alloc (NlrQ _) (.cells #[.slice ka' n kc'] 33)
  exact⟨h.os,h.tape,h.output,h.size,h.block⟩
 obtain⟨i0,hi0,hz0,hz1,hz2⟩:=info_parts Tryz.zj2
 have hroY:=yo (w':=Y1) hroX (fun g cur hg _=>hbY.block g (lohQ hg))
 have hnew:Y1.cell? ⟨X.heap.size,0,none⟩=some (.slice ka' n kc'):=by
  have h:=hanQ X (.cells #[.slice ka' n kc'] 33)
  rw[hY1]
  show (X.alloc (.cells #[.slice ka' n kc'] 33)).cell? ⟨X.heap.size,0,none⟩=_
  rw[corQ _ _ 0 _ _ _ h];rfl
 obtain⟨v',Z,hrun,hown,hgr,_,_⟩:=run_append_own_at (P:=Tryz.prog) Y1 B 214 214 33 i0 _ 1 24 Tryz.underlying214 hi0 hz0 hz1 hz2 rfl ue0 _ _ _ hroY ⟨X.heap.size,0,none⟩ 1 1 [.slice ka' n kc'] rfl (fun j v hj=>by
  match j,hj with
  | 0,hj=>simp at hj;subst hj;exact hnew
  | j+1,hj=>simp at hj) (fun v hv=>by simp only[List.mem_cons,List.not_mem_nil,or_false] at hv;rw[hv];rfl) ud1 om1 (by have:=hbY.size;have:=HW.out.2.2.2.2.1;omega)
 obtain⟨wa',wc',rfl⟩:=yE hown
 have hzw:Z.heap[WB]? =some (.cells #[.slice wa wn wc] 214 (0,0)):=by
  have h1:=lt_of_some hwX
  rw[hgr.block WB (nL h1 hbY.size) (fun e=>by have:=HB.out.2.2.2.2.2.1 WB e;have:=HW.out.2.2.1;omega),hbY.block WB h1];exact hwX
 have hzl0:Z.cell? ⟨WB,0,none⟩=some (.slice wa wn wc):=by rw[corQ _ _ 0 _ _ _ hzw];rfl
 have hzf:∀j,Z.frozen? ⟨WB,j,none⟩=false:=fun j=>forQ _ _ j _ _ hzw
 obtain⟨V,hV⟩:∃V,V=Z.setCell ⟨WB,0,none⟩ (.slice wa' (wn+1) wc'):=⟨_,rfl⟩
 have hVo:∀y,y<X.heap.size→y≠WB→some y≠(Value.slice wa wn wc).ownBlock→V.heap[y]? =X.heap[y]?:=fun y hy h1 h2=>by
  rw[hV,BhsQ _ _ _ _ h1,hgr.block y (nL hy hbY.size) h2,hbY.block y hy]
 have hVN:∀y,NB X0 y∨X0.heap.size≤y→NB X y→NB V y:=fun y h0 hy=>by
  refine hy.Jr (hVo y hy.lt (fun e=>?_) (fun e=>?_))
  · obtain⟨cs,hcs⟩:=hy
    exact absurd (QA (by rw[e];exact hwX) hcs) ue0
  · obtain⟨cs,hcs⟩:=hy
    exact sf9
 have hVK:∀y,SN S B0 X y→SN S B0 V y∧V.heap[y]? =X.heap[y]?:=fun y hy=>by
  rcases hy with hy | ⟨hyR,hyB,hy⟩
  · have hy0:=HSS.out y hy
    have hyW:y≠WB:=by have:=HW.out.2.2.2.2.2;omega
    exact⟨Or.inl hy,hVo y (by have:=HB.out.2.2.2.2.2.2;omega) hyW (fun e=>by have:=(HB.out.2.2.2.2.2.1 y e).1;have:=HW.out.2.2.2.1;omega)⟩
  · have hne:y≠WB:=fun e=>by
     obtain⟨cs,hcs⟩:=hy
     exact absurd (QA (by rw[e];exact hwX) hcs) ue0
    have hnr:some y≠(Value.slice wa wn wc).ownBlock:=fun e=>by
     obtain⟨cs,hcs⟩:=hy
     exact sf9
    have h1:=hVo y hy.lt hne hnr
    exact⟨Or.inr ⟨hyR,hyB,hy.Jr h1⟩,h1⟩
 have hVNN:∀y,NB X y→NB V y:=fun y hy=>by
  have hne:y≠WB:=fun e=>by
   obtain⟨cs,hcs⟩:=hy
   exact absurd (QA (by rw[e];exact hwX) hcs) ue0
  have hnr:some y≠(Value.slice wa wn wc).ownBlock:=fun e=>by
   obtain⟨cs,hcs⟩:=hy
   exact sf9
  exact hy.Jr (hVo y hy.lt hne hnr)
 have hEND:zjB S B0 WB B X0 wa wn wc vals b off f V:=by
  obtain⟨hall2,hfZ,hgZ,hZb,hZc,hNX,hoX,hkc',hX0X⟩:=HZ1.out
  have hn:=HP.out.2.2.1
  refine⟨wa',wc',ka',kc',?_,?_,by omega,fun y hy h1 h2 h4=>(hVo y om1 h2 h4).trans (hoX y hy h1),fun cs hcs=>?_,⟨?_,?_,?_,?_⟩,fun l a h=>(hall2 l a h).kept hVK,fun y hy=>hVNN y (hNX y hy),hfZ.kept hVK,fun h=>?_⟩
  · rw[hV,hssQ Z WB 0 _ _ _ hzw];simp
  · rw [hV,←hn]
    exact yo hown (fun g' cur hc hg'=>BhsQ _ _ _ _ (by
     have:=zY hown (g:=g') hg'
     have:=HW.out.2.2.1
     simp only;omega))
  · have h1:V.heap[b]? =X.heap[b]?:=hVo b hbX.lt HB.out.2.2.2.1 (HB.out.2.2.2.2.1 b HB.out.1)
    rw[h1,←hn];exact hZb cs hcs
  · rw[hV];have:=hbY.size;have:=hgr.size;simp[World.setCell];omega
  · rw[hV];exact hgr.os.trans (hbY.os.trans hZc.1)
  · rw[hV];exact hgr.tape.trans (hbY.tape.trans hZc.2.1)
  · rw[hV];exact hgr.output.trans (hbY.output.trans hZc.2.2)
  · obtain⟨g,e,h1,h2⟩:=hgZ om1
    exact⟨g,e,h1,hVNN g h2⟩
 obtain⟨SW,hSW⟩:∃SW:World→Prop,SW=fun Y=>Y.cell? ⟨b,off+3,none⟩=some (.slice ka' n kc'):=⟨_,rfl⟩
 have HSW:=hH (fun (Y:World) (h:SW Y)=>(show Y.cell? ⟨b,off+3,none⟩=some (.slice ka' n kc') by rw[hSW] at h;exact h))
 have hzk:Z.heap[b]? =X.heap[b]?:=(hgr.block b (nL hbX.lt hbY.size) (HB.out.2.2.2.2.1 b HB.out.1)).trans (hbY.block b hbX.lt)
 have hS0:SW X.drew:=by rw[hSW];exact x3
 have hSY:SW Y1:=by rw[hSW];exact (World.cell?_of_block (a:=⟨b,off+3,none⟩) (hbY.block b hbX.lt)).trans x3
 have hSZ:SW Z:=by rw[hSW];exact (World.cell?_of_block (a:=⟨b,off+3,none⟩) hzk).trans x3
 have hSV:SW V:=by rw[hSW,hV];exact (World.cell?_of_block (a:=⟨b,off+3,none⟩) (BhsQ _ _ _ _ HB.out.2.2.2.1)).trans ((World.cell?_of_block (a:=⟨b,off+3,none⟩) hzk).trans x3)
 have HSQ:=hH (aN hSY (aN hSZ hSV))
 have HYE:=hH hY1
 have HVE:=hH hV
 have HRUN:=hH hrun
 have HEND:=hH hEND
 have HL1:Hid (Y1.cell? ⟨WB,0,none⟩=some (.slice wa wn wc)):=hH (by
  rw[corQ _ _ 0 _ _ _ ((hbY.block WB (lohQ hwX)).trans hwX)];rfl)
 have HZ:=hH (aN hzl0 hzf)
 clear hwX hroX hX0X x3 hbX hbY hroY hnew hrun hown hgr hzw hzl0 hzf hSW hzk hSY hSZ hSV hY1 hV hi0 hz0 hz1 hz2 hVo hVN hVK hVNN hEND HZ1 HP HB HW
 refine wrhQ (S:=SW) kr1 hS0 (fun eH=>?_)
 clear hS0
 refine tG (i:=1) (.pointer (some ⟨b,off,none⟩)) rfl ?_
 simp only[Act.put,pg]
 refine tG (i:=2) (.pointer (some ⟨b,off,none⟩)) rfl ?_
 simp only[Act.put,pg]
 refine tG (i:=3) (.pointer (some ⟨b,off+3,none⟩)) rfl ?_
 simp only[Act.put,pg]
 refine tJ (i:=4) (.slice ka' n kc') rfl ?_ ?_
 · clear eH;intro X hSw;have s0:=HSW.out X hSw;clear hSw;go_simp
 simp only[Act.put,pg]
 have hH00:=eH
 refine rd1 [0,5] ?_
 refine AcQ (o:=_) rfl (fun K hK=>?_) (AcQ (o:=_) rfl (fun K hK=>?_) (AnQ))
 · rw[ipQ ue1]
   simp only[pg3]
   have HK:=hH hK
   clear hK eH
   go_wp2_with fail
   refine HK.out _ _ hH00 (fun eH=>?_)
   clear HK
   refine rd1 [5] ?_
   refine AcQ (o:=_) rfl (fun K hK=>?_) (AnQ)
   rw[ipQ ue1]
   simp only[pg3]
   have HK:=hH hK
   clear hK eH
   go_wp2_with fail
   rw[←HYE.out]
   refine HK.out _ _ HSQ.out.1 (fun eH=>?_)
   clear HK
   exact sb9
 · rw[ipQ ue1]
   simp only[pg3]
   have HK:=hH hK
   clear hK eH
   go_wp2_with fail
   rw[←HYE.out]
   refine HK.out _ _ HSQ.out.1 (fun eH=>?_)
   clear HK
   refine rd1 [0] ?_
   refine AcQ (o:=_) rfl (fun K hK=>?_) (AnQ)
   rw[ipQ ue1]
   simp only[pg3]
   have HK:=hH hK
   clear hK eH
   have hl1:=HL1.out
   go_wp2_with fail
   refine HK.out _ _ HSQ.out.1 (fun eH=>?_)
   clear HK hl1
   exact sb9
end Go.Proofs.YtoidedomenkbpaaGreat
