/-
  .
-/
import Derived.Test.YtgkmmnihaiopaaaGreatKAlong1Qv
set_option maxRecDepth 100000
set_option maxHeartbeats 40000000
set_option linter.unusedVariables false
set_option linter.unusedSimpArgs false
namespace Go.Proofs.YtgkmmnihaiopaaaGreat
open Go.RowKit Go.Shelf
def idF:Fo→List Int
 | .nil=>[]
 | .node _ _ k l r=>k.1::(idF l++idF r)
def idT (t:Tr):List Int:=t.id::idF t.kids
theorem yU:∀f:Fo,(idF f).length=zb f
 | .nil=>rfl
 | .node _ _ k l r=>by simp[idF,zb,yU l,yU r]
theorem q9 (t:Tr):(idT t).length=zb t.kids+1:=by simp[idT,yU]
theorem Qo:∀(f:Fo) (j:Nat) (u:Tr),zB f j=some u→idF (zx (j+1) f)=idF (zx j f)++idT u
 | .nil,j,u,h=>by cases j<;>simp[zB,zq,yZ] at h
 | .node b o k l r,0,u,h=>by
   simp only[zB,zq,yZ] at h
   cases h
   simp[zx,idF,idT]
 | .node b o k l r,j+1,u,h=>by
   have:=Qo r j u uf4
   simp only[zx,idF,this,List.cons_append,List.append_assoc]
structure JC (W:World) (LB UB DB:Nat) (up:Int) (l:List Int) (X:World):Prop where
 row:∃a c,X.heap[LB]? =some (.cells #[.slice a l.length c] 53 (0,0))∧X.ownsRow W.heap.size 3 1 (.slice a l.length c) l.length (l.map Yg)
 below:∀y,y<W.heap.size→y≠LB→X.heap[y]? =W.heap[y]?
 size:W.heap.size≤X.heap.size
 os:X.os=W.os
 tape:X.tape=W.tape
 output:X.output=W.output
structure IdW (W:World) (LB UB DB:Nat) (up:Int):Prop where
 down:W.heap[DB]? =some (.cells #[.func (.func 92) #[] #[.pointer (some ⟨LB,0,none⟩),.pointer (some ⟨UB,0,none⟩),.pointer (some ⟨DB,0,none⟩)]] 132 (0,0))
 upTo:W.heap[UB]? =some (.cells #[.int .i64 up] 3 (0,0))
 hd:DB<W.heap.size∧DB≠LB
 hu:UB<W.heap.size∧UB≠LB
 hl:LB<W.heap.size
def IdC (W:World)(LB UB DB:Nat)(up:Int)(l:List Int)(e:Ending)(X:World):Prop:=e= .returned (.tuple #[])∧JC W LB UB DB up l X
theorem JC.add {W Y Z:World}{LB UB DB:Nat}{up:Int}{l:List Int}{X:World}{id:Int}{a a' :Option Addr}{c c' :Nat}(h:JC W LB UB DB up l X)(hLB:LB<W.heap.size)(hl:X.heap[LB]? =some (.cells #[.slice a l.length c] 53 (0,0)))(hro:X.ownsRow W.heap.size 3 1 (.slice a l.length c) l.length (l.map Yg))
 (hY:Below X.heap.size X Y) (hown:Z.ownsRow W.heap.size 3 1 (.slice a' (l.length+1) c') (l.length+1) (l.map Yg++[Yg id])) (hg:Y.grownBy Z (Value.slice a l.length c).ownBlock):JC W LB UB DB up (l++[id]) (Z.setCell ⟨LB,0,none⟩ (.slice a' (l.length+1) c'))∧Z.heap[LB]? =some (.cells #[.slice a l.length c] 53 (0,0)):=by
 have hob:∀y,y<W.heap.size→some y≠(Value.slice a l.length c).ownBlock:=fun y hy e=>by
  have:=zk hro (g:=y) e.symm
  omega
 have hkeep:∀y,y<W.heap.size→Z.heap[y]? =X.heap[y]?:=fun y hy=>by
  have h1:=h.size
  have h2:=hY.size
  exact (hg.block y om (hob y hy)).trans (hY.block y om)
 have hz:=(hkeep LB hLB).trans hl
 refine⟨⟨⟨a',c',?_,?_⟩,fun y hy hn=>?_,?_,?_,?_,?_⟩,hz⟩
 · rw[hssQ Z LB 0 _ _ _ hz];simp
 · rw [LlaQ,List.map_append]
   exact zH hown (fun g' cur hc hg'=>BhsQ _ _ _ _ (by
    have:=zk hown (g:=g') hg'
    simp only;omega))
 · rw[BhsQ _ _ _ _ hn,hkeep y hy];exact h.below y hy hn
 · have h1:=h.size
   have h2:=hY.size
   have h3:=hg.size
   simp[World.setCell];omega
 · exact hg.os.trans (hY.os.trans h.os)
 · exact hg.tape.trans (hY.tape.trans h.tape)
 · exact hg.output.trans (hY.output.trans h.output)
theorem yP {P:Program}{ops:Array Oper}{o:Oper}{a:Act}{w:World}{K:Act→World→Prop}{Q:Exit→Act→World→Prop}{E:Prop}
 (hg:o.guard=none) (d x:Operand) (dT sT:TypeId) (hop:o.op=Op.call { callee:=Callee.builtin Builtin.append,args:= #[d,x],argTypes:= #[dT,sT] })
 (v u:Value) (hd:a.eval d=v) (hx:a.eval x=u) {v' :Value} {w' :World} (hr:(Builtin.append_ #[dT,sT] o.type #[v,u]).run P w= .ok v' w') (hK:K (a.put o.dst v') w'):
 if Region.wanted o (yielded ops a.tmps)=true then Oper.wp P o a w K Q else E:=by
 have hw:Region.wanted o (yielded ops a.tmps)=true:=by simp[Region.wanted,hg]
 rw[ipQ hw]
 unfold Oper.wp execOp
 simp only[hop,resolve,invoke,builtin,Sem.run_bind,Sem.run_pure,Result.andThen_ok,List.map_toArray,List.map_cons,List.map_nil,hd,hx,hr]
 exact hK
theorem zhI {W:World}{LB UB DB:Nat}{up:Int}{S:Nat→Prop}(hW:IdW W LB UB DB up)(hS:∀y,S y→y<W.heap.size∧y≠LB)(hup:up≤1000000):
 ∀(M:Nat) (X:World) (l:List Int) (u:Tr) (b off:Nat),zb u.kids<M→kP W S u b off→JC W LB UB DB up l X→((l.length+zb u.kids+1:Nat):Int)≤up→
 Calls Tryz.prog 92 #[.pointer (some ⟨b,off,none⟩),.pointer (some ⟨LB,0,none⟩),.pointer (some ⟨UB,0,none⟩),.pointer (some ⟨DB,0,none⟩)] X (IdC W LB UB DB up (l++idT u)):=by
 intro M
 induction M with
 | zero=>intro X l u b off h;omega
 | succ M ih=>
   intro X l u b off hM hu hX hle
   obtain⟨hb,n0,n1,n2,ka,kc,n3,hkc,hkk⟩:=hu
   obtain⟨n,hn⟩:∃n,n=foLen u.kids:=⟨_,rfl⟩
   rw[←hn] at n3 hkc
   obtain⟨a,c,hl,hro⟩:=hX.row
   have hlLB:=hW.hl
   have hWb:∀Y,JC W LB UB DB up (l++[u.id]) Y→True:=fun _ _=>trivial
   have hcell:∀(Y:World) (m:List Int),JC W LB UB DB up m Y→Y.cell? ⟨b,off,none⟩=some (.int .i64 u.id)∧Y.cell? ⟨b,off+3,none⟩=some (.slice ka n kc)∧Y.cell? ⟨DB,0,none⟩=some (.func (.func 92) #[] #[.pointer (some ⟨LB,0,none⟩),.pointer (some ⟨UB,0,none⟩),.pointer (some ⟨DB,0,none⟩)])∧Y.cell? ⟨UB,0,none⟩=some (.int .i64 up):=fun Y m h=>by
    have e:=h.below b (hS b hb).1 (hS b hb).2
    exact⟨(World.cell?_of_block (a:=⟨b,off,none⟩) e).trans n0,(World.cell?_of_block (a:=⟨b,off+3,none⟩) e).trans n3,by rw[corQ _ _ 0 _ _ _ ((h.below DB hW.hd.1 hW.hd.2).trans hW.down)];rfl,by rw[corQ _ _ 0 _ _ _ ((h.below UB hW.hu.1 hW.hu.2).trans hW.upTo)];rfl⟩
   obtain⟨k0,k3,kd,ku⟩:=hcell X l hX
   have hl0:X.cell? ⟨LB,0,none⟩=some (.slice a l.length c):=by rw[corQ _ _ 0 _ _ _ hl];rfl
   obtain⟨ln,hln⟩:∃ln,ln=l.length:=⟨_,rfl⟩
   obtain⟨Y1,hY1⟩:∃Y1,Y1=(X.alloc (.cells #[.int .i64 u.id] 3)).drew:=⟨_,rfl⟩
   have hbY:Below X.heap.size X Y1:=by
    rw[hY1]
    have h:=(BrQ X.heap.size X).alloc (NlrQ _) (.cells #[.int .i64 u.id] 3)
    exact⟨h.os,h.tape,h.output,h.size,h.block⟩
   obtain⟨i0,hi0,hz0,hz1,hz2⟩:=info_parts Tryz.JN
   have hroY:=zH (w':=Y1) hro (fun g cur hg _=>hbY.block g (lohQ hg))
   have hnew:Y1.cell? ⟨X.heap.size,0,none⟩=some (.int .i64 u.id):=by
    have h:=hanQ X (.cells #[.int .i64 u.id] 3)
    rw[hY1]
    show (X.alloc (.cells #[.int .i64 u.id] 3)).cell? ⟨X.heap.size,0,none⟩=_
    rw[corQ _ _ 0 _ _ _ h];rfl
   obtain⟨v',Z,hrun,hown,hgr,_,_⟩:=run_append_own_at (P:=Tryz.prog) Y1 W.heap.size 53 53 3 i0 _ 1 8 Tryz.underlying53 hi0 hz0 hz1 hz2 rfl ug7 _ _ _ hroY ⟨X.heap.size,0,none⟩ 1 1 [.int .i64 u.id] rfl (fun j v hj=>by
    match j,hj with
    | 0,hj=>simp at hj;subst hj;exact hnew
    | j+1,hj=>simp at hj) (fun v hv=>by simp only[List.mem_cons,List.not_mem_nil,or_false] at hv;rw[hv];rfl) uf7 om (by have:=hX.size;have:=hbY.size;omega)
   obtain⟨a',c',rfl⟩:=zy hown
   obtain⟨hA,hzl⟩:=hX.add hlLB hl hro hbY hown hgr
   have hzl0:Z.cell? ⟨LB,0,none⟩=some (.slice a l.length c):=by rw[corQ _ _ 0 _ _ _ hzl];rfl
   have hzf:∀j,Z.frozen? ⟨LB,j,none⟩=false:=fun j=>forQ _ _ j _ _ hzl
   rw[←hln] at hrun hl0 hzl0 hA
   obtain⟨V,hV⟩:∃V,V=Z.setCell ⟨LB,0,none⟩ (.slice a' (ln+1) c'):=⟨_,rfl⟩
   rw[←hV] at hA
   obtain⟨SW,hSW⟩:∃SW:World→Prop,SW=fun Y=>Y.cell? ⟨b,off,none⟩=some (.int .i64 u.id):=⟨_,rfl⟩
   have HSW:=hH (fun (Y:World) (h:SW Y)=>(show Y.cell? ⟨b,off,none⟩=some (.int .i64 u.id) by rw[hSW] at h;exact h))
   have hzk:Z.heap[b]? =X.heap[b]?:=by
    have h1:=hX.size
    have h2:=hbY.size
    have h3:=(hS b hb).1
    refine (hgr.block b om (fun e=>?_)).trans (hbY.block b om)
    have:=zk hro (g:=b) e.symm
    omega
   have hS0:SW X.drew:=by rw[hSW];exact k0
   have hSY:SW Y1:=by rw[hSW];exact (World.cell?_of_block (a:=⟨b,off,none⟩) (hbY.block b (by have:=(hS b hb).1;have:=hX.size;omega))).trans k0
   have hSZ:SW Z:=by rw[hSW];exact (World.cell?_of_block (a:=⟨b,off,none⟩) hzk).trans k0
   have hSV:SW V:=by rw[hSW];exact (hcell V _ hA).1
   have HSS:=hH (aN hSY (aN hSZ hSV))
   have HYE:=hH hY1
   have HVE:=hH hV
   have HA:=hH hA
   have HCELL:=hH hcell
   have HIH:=hH ih
   have HT:=hH (aN hb (aN hkk (aN hn (aN hkc (aN hle (aN hM hln))))))
   have HRUN:=hH hrun
   have HL1:Hid (Y1.cell? ⟨LB,0,none⟩=some (.slice a ln c)):=hH (by
    rw[corQ _ _ 0 _ _ _ ((hbY.block LB (lohQ hl)).trans hl),hln];rfl)
   have HZ:=hH (aN hzl0 hzf)
   clear ih hcell hWb hlLB hro hl hX k0 k3 kd ku hbY hroY hnew hrun hown hgr hA hzl hzl0 hzf hSW hzk hSY hSZ hSV hY1 hV hkk n0 n1 n2 n3 hkc hn hle hM hln hi0 hz0 hz1 hz2 hb
   go_enter Tryz.func92,Tryz.ntmps92
   go_wp2_with fail
   refine wrhQ (S:=SW) kr1 hS0 (fun eH=>?_)
   clear hS0
   refine tG (i:=1) (.pointer (some ⟨b,off,none⟩)) rfl ?_
   simp only[Act.put,pg]
   refine tG (i:=2) (.pointer (some ⟨b,off,none⟩)) rfl ?_
   simp only[Act.put,pg]
   refine tG (i:=3) (.pointer (some ⟨b,off,none⟩)) rfl ?_
   simp only[Act.put,pg]
   refine tJ (i:=4) (.int .i64 u.id) rfl ?_ ?_
   · clear eH;intro X hSw;have s0:=HSW.out X hSw;clear hSw;go_simp
   simp only[Act.put,pg]
   have hH00:=eH
   refine rd [0,5] ?_
   refine AcQ (o:=_) rfl (fun K hK=>?_) (AcQ (o:=_) rfl (fun K hK=>?_) (AnQ))
   · rw[ipQ ug8]
     simp only[pg3]
     have HK:=hH hK
     clear hK eH
     go_wp2_with fail
     refine HK.out _ _ hH00 (fun eH=>?_)
     clear HK
     refine rd [5] ?_
     refine AcQ (o:=_) rfl (fun K hK=>?_) (AnQ)
     rw[ipQ ug8]
     simp only[pg3]
     have HK:=hH hK
     clear hK eH
     go_wp2_with fail
     rw[←HYE.out]
     refine HK.out _ _ HSS.out.1 (fun eH=>?_)
     clear HK
     exact sa5
   · rw[ipQ ug8]
     simp only[pg3]
     have HK:=hH hK
     clear hK eH
     go_wp2_with fail
     rw[←HYE.out]
     refine HK.out _ _ HSS.out.1 (fun eH=>?_)
     clear HK
     refine rd [0] ?_
     refine AcQ (o:=_) rfl (fun K hK=>?_) (AnQ)
     rw[ipQ ug8]
     simp only[pg3]
     have HK:=hH hK
     clear hK eH
     have hl1:=HL1.out
     go_wp2_with fail
     refine HK.out _ _ HSS.out.1 (fun eH=>?_)
     clear HK hl1
     exact sa5
end Go.Proofs.YtgkmmnihaiopaaaGreat
namespace Go.Proofs.YtgkmmnihaiopaaaGreat
open Go.RowKit Go.Shelf
theorem QG {w:World}{y:Nat}{cs cs' :Array Value}{t t' :TypeId}{fr fr' :Nat×Nat}(h:w.heap[y]? =some (.cells cs t fr))(h' :w.heap[y]? =some (.cells cs' t' fr')):t=t':=by rw[h] at h';cases h';rfl
theorem Tryz.zjZ:(Tryz.prog.info? 25).map (fun i=>(i.zero,i.size,i.bytes))=some (some (.slice none 0 0),1,24):=by kernel_rfl
def zjP (S:Nat→Prop)(B0 WB B:Nat)(X:World)(wa:Option Addr)(wn wc:Nat)(vals:List Value)(b off:Nat)(f:Fo)(V:World):Prop:=
 ∃ (wa' :Option Addr) (wc' :Nat) (ka' :Option Addr) (kc' :Nat),V.heap[WB]? =some (.cells #[.slice wa' (wn+1) wc'] 146 (0,0))∧
  V.ownsRow B 25 1 (.slice wa' (wn+1) wc') (wn+1) (vals++[.slice ka' (foLen f) kc'])∧foLen f≤kc'∧
  (∀y,y<X.heap.size→y≠b→y≠WB→some y≠(Value.slice wa wn wc).ownBlock→V.heap[y]? =X.heap[y]?)∧
  (∀cs,X.heap[b]? =some (.cells cs 27 (0,0))→V.heap[b]? =some (.cells (cs.setIfInBounds (off+3) (.slice ka' (foLen f) kc')) 27 (0,0)))∧
  (X.heap.size≤V.heap.size∧V.os=X.os∧V.tape=X.tape∧V.output=X.output)∧
  (∀l a,zt X (SN S B0 X) l a→zt V (SN S B0 V) l a)∧(∀y,NB X y→NB V y)∧zt V (SN S B0 V) f ka'∧(0<foLen f→∃g,ka'=some ⟨g,0,none⟩∧X.heap.size≤g∧NB V g)
theorem zfL (S:Nat→Prop)(B0 WB B:Nat)(X0:World)(wa:Option Addr)(wn wc:Nat)(vals:List Value)(b off kc:Nat)(ka:Option Addr)(f:Fo)(hS:∀y,S y→y<B0)(hBB:B0+1<B)(hWB:B0≤WB)(hBX:B≤X0.heap.size)
 (hw:X0.heap[WB]? =some (.cells #[.slice wa wn wc] 146 (0,0))) (hrow:X0.ownsRow B 25 1 (.slice wa wn wc) wn vals) (hWBB:WB<B)
 (hb:NB X0 b) (hbB:B0≤b) (h3:X0.cell? ⟨b,off+3,none⟩=some (.slice ka (foLen f) kc)) (hf:zt X0 (SN S B0 X0) f ka) (hsz:foLen f≤1000000) (hwn:wn≤1000000):
 Calls Tryz.prog 104 #[.pointer (some ⟨b,off,none⟩),.pointer (some ⟨WB,0,none⟩)] X0 fun e V=>e= .returned (.tuple #[])∧zjP S B0 WB B X0 wa wn wc vals b off f V:=by
 obtain⟨n,hn⟩:∃n,n=foLen f:=⟨_,rfl⟩
 obtain⟨xs,hr,hxl,hxc,hx1⟩:=zck f hf
 have hcl:=kH X0 ka n kc xs om hx1 om hxc (fun h=>by have:=ziU hf h;omega)
 have hbf:∀j,X0.frozen? ⟨b,j,none⟩=false:=fun j=>by obtain⟨cs,hcs⟩:=hb;exact forQ _ _ j _ _ hcs
 have hB0X:B0+1<X0.heap.size:=by omega
 have hbl:=hb.lt
 have hbW:b≠WB:=fun e=>by
  obtain⟨cs,hcs⟩:=hb
  exact absurd (QG (by rw[e];exact hw) hcs) ug7
 have hbR:∀y,NB X0 y→some y≠(Value.slice wa wn wc).ownBlock:=fun y hy e=>by
  obtain⟨cs,hcs⟩:=hy
  obtain⟨cur,hcur⟩:=jX hrow e.symm
  exact absurd (QG (hcur) hcs) ug7
 have hRB:∀y,some y=(Value.slice wa wn wc).ownBlock→B≤y∧y<X0.heap.size:=fun y e=>zk hrow e.symm
 rw[←hn] at h3
 have HCL:=hH hcl
 have HSS:=hH hS
 have HP:=hH (aN hf (aN hr (aN hn (aN (show xs.length=n*4 by omega) hxc))))
 have HB:=hH (aN hb (aN hbB (aN hbl (aN hbW (aN hbR (aN hRB hB0X))))))
 have HW:=hH (aN hw (aN hrow (aN hWBB (aN hBB (aN hBX hWB)))))
 have HH3:=hH h3
 clear hS hn hcl hf hr hxl hxc hx1 hb hbB hbl hbW hbR hRB hB0X hw hrow hWBB hBB hBX hWB hsz
 go_enter Tryz.func104,Tryz.ntmps104
 go_wp2_with fail
 refine HCL.out.mono ?_
 rintro e Y ⟨v',rfl,hbY,hown⟩
 obtain⟨ka',kc',rfl⟩:=zy hown
 obtain⟨hkc',hfY,hgY,hcopy,hallY⟩:=zeA HSS.out HB.out.2.2.2.2.2.2 hbY HP.out.1 HP.out.2.1 HP.out.2.2.1 HP.out.2.2.2.1 HP.out.2.2.2.2 hown
 have hbb:Y.heap[b]? =X0.heap[b]?:=hbY.block b HB.out.2.2.1
 have y3:Y.cell? ⟨b,off+3,none⟩=some (.slice ka n kc):=(World.cell?_of_block (a:=⟨b,off+3,none⟩) hbb).trans HH3.out
 have yf:∀j,Y.frozen? ⟨b,j,none⟩=false:=fun j=>(World.frozen?_of_block hbb).trans (hbf j)
 have hkeepZ:=Zn (S:=SN S B0 Y) y3 hkc' hcopy
 obtain⟨X,hZ⟩:∃Z,Z=Y.setCell ⟨b,off+3,none⟩ (.slice ka' n kc'):=⟨_,rfl⟩
 rw[←hZ] at hkeepZ
 have hZo:∀y,y≠b→X.heap[y]? =Y.heap[y]?:=fun y hy=>by rw[hZ];exact BhsQ _ _ _ _ hy
 have hZb:∀cs,X0.heap[b]? =some (.cells cs 27 (0,0))→X.heap[b]? =some (.cells (cs.setIfInBounds (off+3) (.slice ka' n kc')) 27 (0,0)):=fun cs hcs=>by
  rw[hZ];exact hssQ Y b (off+3) cs _ _ (hbb.trans hcs)
 have hZs:X.heap.size=Y.heap.size:=by rw[hZ];simp[World.setCell]
 have hZc:X.os=X0.os∧X.tape=X0.tape∧X.output=X0.output:=by rw[hZ];exact⟨hbY.os,hbY.tape,hbY.output⟩
 have hZN:∀y,NB Y y→NB X y:=fun y hy=>by
  by_cases he:y=b
  · subst he
    obtain⟨cs,hcs⟩:=HB.out.1
    exact⟨_,hZb cs hcs⟩
  · exact hy.Js (hZo y he)
 have hYN:∀y,NB X0 y→NB Y y:=fun y hy=>hy.Js (hbY.block y hy.lt)
 have hall2:∀l a,zt X0 (SN S B0 X0) l a→zt X (SN S B0 X) l a:=fun l a h=>(hkeepZ l a (hallY l a h)).kept fun y hy=>⟨hy.imp (fun h=>h) (fun h=>⟨h.1,h.2.1,hZN y h.2.2⟩),rfl⟩
 have hfZ:zt X (SN S B0 X) f ka':=(hkeepZ f ka' hfY).kept fun y hy=>⟨hy.imp (fun h=>h) (fun h=>⟨h.1,h.2.1,hZN y h.2.2⟩),rfl⟩
 have hgZ:0<n→∃g,ka'=some ⟨g,0,none⟩∧X0.heap.size≤g∧NB X g:=fun h=>by
  obtain⟨g,e,h1,h2⟩:=hgY h
  exact⟨g,e,h1,hZN g h2⟩
 have hwX:X.heap[WB]? =some (.cells #[.slice wa wn wc] 146 (0,0)):=by
  rw[hZo WB (Ne.symm HB.out.2.2.2.1),hbY.block WB (lt_of_some HW.out.1)];exact HW.out.1
 have hroX:X.ownsRow B 25 1 (.slice wa wn wc) wn vals:=zH HW.out.2.1 fun g cur hc hg=>by
  have h1:=(HB.out.2.2.2.2.2.1 g hg.symm).2
  have h2:g≠b:=fun e=>HB.out.2.2.2.2.1 b HB.out.1 (by rw[←e];exact hg.symm)
  rw[hZo g h2,hbY.block g h1]
 have hX0X:X0.heap.size≤X.heap.size:=by rw[hZs];exact hbY.size
 have hoX:∀y,y<X0.heap.size→y≠b→X.heap[y]? =X0.heap[y]?:=fun y hy hne=>(hZo y hne).trans (hbY.block y hy)
 have x3:X.cell? ⟨b,off+3,none⟩=some (.slice ka' n kc'):=by rw[hZ];exact World.cell?_setCell_same' Y _ _ (by rw[y3];rfl)
 have hNX:∀y,NB X0 y→NB X y:=fun y hy=>hZN y (hYN y hy)
 have hbX:NB X b:=hNX b HB.out.1
 have HZ1:=hH (aN hall2 (aN hfZ (aN hgZ (aN hZb (aN hZc (aN hNX (aN hoX (aN hkc' hX0X))))))))
 have HZE:=hH hZ
 clear hbY hown hfY hgY hcopy hallY hkeepZ hZo hZb hZs hZc hZN hYN hall2 hfZ hgZ hkc' hoX hNX hZ hbb HCL HH3
 go_upto_region 1 with fail
 rw[←HZE.out]
 clear y3 yf HZE h3 hbf
 have hl0:X.cell? ⟨WB,0,none⟩=some (.slice wa wn wc):=by rw[corQ _ _ 0 _ _ _ hwX];rfl
 obtain⟨Y1,hY1⟩:∃Y1,Y1=(X.alloc (.cells #[.slice ka' n kc'] 25)).drew:=⟨_,rfl⟩
 have hbY:Below X.heap.size X Y1:=by
  rw[hY1]
  have h:=(BrQ X.heap.size X).alloc (NlrQ _) (.cells #[.slice ka' n kc'] 25)
  exact⟨h.os,h.tape,h.output,h.size,h.block⟩
 obtain⟨i0,hi0,hz0,hz1,hz2⟩:=info_parts Tryz.zjZ
 have hroY:=zH (w':=Y1) hroX (fun g cur hg _=>hbY.block g (lohQ hg))
 have hnew:Y1.cell? ⟨X.heap.size,0,none⟩=some (.slice ka' n kc'):=by
  have h:=hanQ X (.cells #[.slice ka' n kc'] 25)
  rw[hY1]
  show (X.alloc (.cells #[.slice ka' n kc'] 25)).cell? ⟨X.heap.size,0,none⟩=_
  rw[corQ _ _ 0 _ _ _ h];rfl
 obtain⟨v',Z,hrun,hown,hgr,_,_⟩:=run_append_own_at (P:=Tryz.prog) Y1 B 146 146 25 i0 _ 1 24 Tryz.underlying146 hi0 hz0 hz1 hz2 rfl ug7 _ _ _ hroY ⟨X.heap.size,0,none⟩ 1 1 [.slice ka' n kc'] rfl (fun j v hj=>by
  match j,hj with
  | 0,hj=>simp at hj;subst hj;exact hnew
  | j+1,hj=>simp at hj) (fun v hv=>by simp only[List.mem_cons,List.not_mem_nil,or_false] at hv;rw[hv];rfl) uf7 om (by have:=hbY.size;have:=HW.out.2.2.2.2.1;omega)
 obtain⟨wa',wc',rfl⟩:=zy hown
 have hzw:Z.heap[WB]? =some (.cells #[.slice wa wn wc] 146 (0,0)):=by
  have h1:=lt_of_some hwX
  rw[hgr.block WB (nL h1 hbY.size) (fun e=>by have:=HB.out.2.2.2.2.2.1 WB e;have:=HW.out.2.2.1;omega),hbY.block WB h1];exact hwX
 have hzl0:Z.cell? ⟨WB,0,none⟩=some (.slice wa wn wc):=by rw[corQ _ _ 0 _ _ _ hzw];rfl
 have hzf:∀j,Z.frozen? ⟨WB,j,none⟩=false:=fun j=>forQ _ _ j _ _ hzw
 obtain⟨V,hV⟩:∃V,V=Z.setCell ⟨WB,0,none⟩ (.slice wa' (wn+1) wc'):=⟨_,rfl⟩
 have hVo:∀y,y<X.heap.size→y≠WB→some y≠(Value.slice wa wn wc).ownBlock→V.heap[y]? =X.heap[y]?:=fun y hy h1 h2=>by
  rw[hV,BhsQ _ _ _ _ h1,hgr.block y (nL hy hbY.size) h2,hbY.block y hy]
 have hVN:∀y,NB X0 y∨X0.heap.size≤y→NB X y→NB V y:=fun y h0 hy=>by
  refine hy.Js (hVo y hy.lt (fun e=>?_) (fun e=>?_))
  · obtain⟨cs,hcs⟩:=hy
    exact absurd (QG (by rw[e];exact hwX) hcs) ug7
  · obtain⟨cs,hcs⟩:=hy
    exact si5
 have hVK:∀y,SN S B0 X y→SN S B0 V y∧V.heap[y]? =X.heap[y]?:=fun y hy=>by
  rcases hy with hy | ⟨hyR,hyB,hy⟩
  · have hy0:=HSS.out y hy
    have hyW:y≠WB:=by have:=HW.out.2.2.2.2.2;omega
    exact⟨Or.inl hy,hVo y (by have:=HB.out.2.2.2.2.2.2;omega) hyW (fun e=>by have:=(HB.out.2.2.2.2.2.1 y e).1;have:=HW.out.2.2.2.1;omega)⟩
  · have hne:y≠WB:=fun e=>by
     obtain⟨cs,hcs⟩:=hy
     exact absurd (QG (by rw[e];exact hwX) hcs) ug7
    have hnr:some y≠(Value.slice wa wn wc).ownBlock:=fun e=>by
     obtain⟨cs,hcs⟩:=hy
     exact si5
    have h1:=hVo y hy.lt hne hnr
    exact⟨Or.inr ⟨hyR,hyB,hy.Js h1⟩,h1⟩
 have hVNN:∀y,NB X y→NB V y:=fun y hy=>by
  have hne:y≠WB:=fun e=>by
   obtain⟨cs,hcs⟩:=hy
   exact absurd (QG (by rw[e];exact hwX) hcs) ug7
  have hnr:some y≠(Value.slice wa wn wc).ownBlock:=fun e=>by
   obtain⟨cs,hcs⟩:=hy
   exact si5
  exact hy.Js (hVo y hy.lt hne hnr)
 have hEND:zjP S B0 WB B X0 wa wn wc vals b off f V:=by
  obtain⟨hall2,hfZ,hgZ,hZb,hZc,hNX,hoX,hkc',hX0X⟩:=HZ1.out
  have hn:=HP.out.2.2.1
  refine⟨wa',wc',ka',kc',?_,?_,by omega,fun y hy h1 h2 h4=>(hVo y om h2 h4).trans (hoX y hy h1),fun cs hcs=>?_,⟨?_,?_,?_,?_⟩,fun l a h=>(hall2 l a h).kept hVK,fun y hy=>hVNN y (hNX y hy),hfZ.kept hVK,fun h=>?_⟩
  · rw[hV,hssQ Z WB 0 _ _ _ hzw];simp
  · rw [hV,←hn]
    exact zH hown (fun g' cur hc hg'=>BhsQ _ _ _ _ (by
     have:=zk hown (g:=g') hg'
     have:=HW.out.2.2.1
     simp only;omega))
  · have h1:V.heap[b]? =X.heap[b]?:=hVo b hbX.lt HB.out.2.2.2.1 (HB.out.2.2.2.2.1 b HB.out.1)
    rw[h1,←hn];exact hZb cs hcs
  · rw[hV];have:=hbY.size;have:=hgr.size;simp[World.setCell];omega
  · rw[hV];exact hgr.os.trans (hbY.os.trans hZc.1)
  · rw[hV];exact hgr.tape.trans (hbY.tape.trans hZc.2.1)
  · rw[hV];exact hgr.output.trans (hbY.output.trans hZc.2.2)
  · obtain⟨g,e,h1,h2⟩:=hgZ om
    exact⟨g,e,h1,hVNN g h2⟩
 obtain⟨SW,hSW⟩:∃SW:World→Prop,SW=fun Y=>Y.cell? ⟨b,off+3,none⟩=some (.slice ka' n kc'):=⟨_,rfl⟩
 have HSW:=hH (fun (Y:World) (h:SW Y)=>(show Y.cell? ⟨b,off+3,none⟩=some (.slice ka' n kc') by rw[hSW] at h;exact h))
 have hzk:Z.heap[b]? =X.heap[b]?:=(hgr.block b (nL hbX.lt hbY.size) (HB.out.2.2.2.2.1 b HB.out.1)).trans (hbY.block b hbX.lt)
 have hS0:SW X.drew:=by rw[hSW];exact x3
 have hSY:SW Y1:=by rw[hSW];exact (World.cell?_of_block (a:=⟨b,off+3,none⟩) (hbY.block b hbX.lt)).trans x3
 have hSZ:SW Z:=by rw[hSW];exact (World.cell?_of_block (a:=⟨b,off+3,none⟩) hzk).trans x3
 have hSV:SW V:=by rw[hSW,hV];exact (World.cell?_of_block (a:=⟨b,off+3,none⟩) (BhsQ _ _ _ _ HB.out.2.2.2.1)).trans ((World.cell?_of_block (a:=⟨b,off+3,none⟩) hzk).trans x3)
 have HSQ:=hH (aN hSY (aN hSZ hSV))
 have HYE:=hH hY1
 have HVE:=hH hV
 have HRUN:=hH hrun
 have HEND:=hH hEND
 have HL1:Hid (Y1.cell? ⟨WB,0,none⟩=some (.slice wa wn wc)):=hH (by
  rw[corQ _ _ 0 _ _ _ ((hbY.block WB (lohQ hwX)).trans hwX)];rfl)
 have HZ:=hH (aN hzl0 hzf)
 clear hwX hroX hX0X x3 hbX hbY hroY hnew hrun hown hgr hzw hzl0 hzf hSW hzk hSY hSZ hSV hY1 hV hi0 hz0 hz1 hz2 hVo hVN hVK hVNN hEND HZ1 HP HB HW
 refine wrhQ (S:=SW) kr1 hS0 (fun eH=>?_)
 clear hS0
 refine tG (i:=1) (.pointer (some ⟨b,off,none⟩)) rfl ?_
 simp only[Act.put,pg]
 refine tG (i:=2) (.pointer (some ⟨b,off,none⟩)) rfl ?_
 simp only[Act.put,pg]
 refine tG (i:=3) (.pointer (some ⟨b,off+3,none⟩)) rfl ?_
 simp only[Act.put,pg]
 refine tJ (i:=4) (.slice ka' n kc') rfl ?_ ?_
 · clear eH;intro X hSw;have s0:=HSW.out X hSw;clear hSw;go_simp
 simp only[Act.put,pg]
 have hH00:=eH
 refine rd [0,5] ?_
 refine AcQ (o:=_) rfl (fun K hK=>?_) (AcQ (o:=_) rfl (fun K hK=>?_) (AnQ))
 · rw[ipQ ug8]
   simp only[pg3]
   have HK:=hH hK
   clear hK eH
   go_wp2_with fail
   refine HK.out _ _ hH00 (fun eH=>?_)
   clear HK
   refine rd [5] ?_
   refine AcQ (o:=_) rfl (fun K hK=>?_) (AnQ)
   rw[ipQ ug8]
   simp only[pg3]
   have HK:=hH hK
   clear hK eH
   go_wp2_with fail
   rw[←HYE.out]
   refine HK.out _ _ HSQ.out.1 (fun eH=>?_)
   clear HK
   exact sc3
 · rw[ipQ ug8]
   simp only[pg3]
   have HK:=hH hK
   clear hK eH
   go_wp2_with fail
   rw[←HYE.out]
   refine HK.out _ _ HSQ.out.1 (fun eH=>?_)
   clear HK
   refine rd [0] ?_
   refine AcQ (o:=_) rfl (fun K hK=>?_) (AnQ)
   rw[ipQ ug8]
   simp only[pg3]
   have HK:=hH hK
   clear hK eH
   have hl1:=HL1.out
   go_wp2_with fail
   refine HK.out _ _ HSQ.out.1 (fun eH=>?_)
   clear HK hl1
   exact sc3
structure Wr where
 a:Option Addr
 f:Fo
 cap:Nat
def Wr.v (x:Wr):Value:= .slice x.a (foLen x.f) x.cap
def kD:List Wr→Nat
 | []=>0
 | x::l=>zb x.f+1+kD l
theorem jL:∀(l m:List Wr),kD (l++m)=kD l+kD m
 | [],m=>by simp[kD]
 | x::l,m=>by simp only[List.cons_append,kD,jL l m];omega
theorem zbj:∀l:List Wr,l.length≤kD l
 | []=>NlrQ _
 | x::l=>by have:=zbj l;simp only[LlcQ,kD];omega
def zhi (S:Nat→Prop)(w X:World)(r:Wr):Prop:=foLen r.f≤r.cap∧zt X (SN S w.heap.size X) r.f r.a∧(0<foLen r.f→∃g,r.a=some ⟨g,0,none⟩∧w.heap.size+3≤g∧NB X g)
structure CpI (S:Nat→Prop) (w:World) (t:Tr) (L:List Wr) (X:World):Prop where
 wait:∃a c,X.heap[w.heap.size+1+1]? =some (.cells #[.slice a L.length c] 146 (0,0))∧X.ownsRow (w.heap.size+3) 25 1 (.slice a L.length c) L.length (L.map Wr.v)
 root:∃ka kc,X.heap[w.heap.size]? =some (.cells #[.int .i64 t.id,.int .i64 t.kind,.string t.text,.slice ka (foLen t.kids) kc] 27 (0,0))∧foLen t.kids≤kc∧zt X (SN S w.heap.size X) t.kids ka
 res:X.heap[w.heap.size+1]? =some (.cells #[.int .i64 0,.int .i64 0,.string ⟨#[]⟩,.slice none 0 0] 27 (0,0))
 rows:∀r∈L,zhi S w X r
 below:Below w.heap.size w X
 size:w.heap.size+3≤X.heap.size
theorem zgA {w:World}{B g n cap:Nat}{e:TypeId}{xs:List Value}{u:Value}(h:w.ownsRow B e 1 (.slice (some ⟨g,0,none⟩) (n+1) cap) (n+1) (xs++[u]))(hn:n=xs.length):w.ownsRow B e 1 (.slice (some ⟨g,0,none⟩) n cap) n xs:=by
 rcases h.2 with ⟨hv,_⟩ | ⟨g',cap',cur,hv,hB,hh,h3,h4,h5,h6⟩
 · cases hv
 · cases hv
   refine⟨by omega,Or.inr ⟨g,cap,cur,rfl,hB,hh,by omega,h4,h5,?_⟩⟩
   have h7:(cur.toList.take ((n+1)*1)).take (n*1)=(xs++[u]).take (n*1):=by rw[h6]
   rw[List.take_take,Nat.min_eq_left om] at h7
   rw[h7,List.take_left' om]
theorem CpI.own {S:Nat→Prop}{w X V:World}{t:Tr}{L:List Wr}{wa:Option Addr}{wc b off:Nat}{f:Fo}(h:CpI S w t L X)(hw:X.heap[w.heap.size+1+1]? =some (.cells #[.slice wa L.length wc] 146 (0,0)))(hrow:X.ownsRow (w.heap.size+3) 25 1 (.slice wa L.length wc) L.length (L.map Wr.v))
 (hb:(b=w.heap.size∧off=0∧f=t.kids)∨w.heap.size+3≤b) (o:zjP S w.heap.size (w.heap.size+1+1) (w.heap.size+3) X wa L.length wc (L.map Wr.v) b off f V):∃r,r.f=f∧CpI S w t (L++[r]) V∧(∀l a,zt X (SN S w.heap.size X) l a→zt V (SN S w.heap.size V) l a)∧∀y,NB X y→NB V y:=by
 obtain⟨wa',wc',ka',kc',o1,o2,o3,o4,o5,⟨o6,o7,o8,o9⟩,oa,ob,oc,od⟩:=o
 have hs:=h.size
 have hne:∀y,y<w.heap.size+3→some y≠(Value.slice wa L.length wc).ownBlock:=fun y hy e=>by have:=(zk hrow e.symm).1;omega
 refine⟨⟨ka',f,kc'⟩,rfl,⟨?_,?_,?_,fun r hr=>?_,⟨o7.trans h.below.os,o8.trans h.below.tape,o9.trans h.below.output,NltQ h.below.size o6,fun y hy=>?_⟩,by omega⟩,oa,ob⟩
 · refine⟨wa',wc',?_,?_⟩
   · rw[LlaQ,List.length_singleton];exact o1
   · rw[LlaQ,List.length_singleton,List.map_append];exact o2
 · obtain⟨ka,kc,r1,r2,r3⟩:=h.root
   rcases hb with ⟨rfl,rfl,rfl⟩ | hb
   · exact⟨ka',kc',by rw[o5 _ r1];simp,o3,oc⟩
   · exact⟨ka,kc,(o4 _ om om om (hne _ om)).trans r1,r2,oa _ _ r3⟩
 · refine (o4 _ om ?_ om (hne _ om)).trans h.res
   rcases hb with ⟨rfl,_⟩ | hb<;>omega
 · rcases List.mem_append.1 hr with hr | hr
   · obtain⟨h1,h2,h3⟩:=h.rows r hr
     exact⟨h1,oa _ _ h2,fun h0=>by obtain⟨g,e,hg,hn⟩:=h3 h0;exact⟨g,e,hg,ob g hn⟩⟩
   · have:r=⟨ka',f,kc'⟩:=by simpa using hr
     subst this
     exact⟨o3,oc,fun h0=>by obtain⟨g,e,hg,hn⟩:=od h0;exact⟨g,e,by omega,hn⟩⟩
 · refine (o4 y om ?_ om (hne _ om)).trans (h.below.block y hy)
   rcases hb with ⟨rfl,_⟩ | hb<;>omega
theorem CpI.pop {S:Nat→Prop}{w X:World}{t:Tr}{L:List Wr}{r:Wr}{g wc n:Nat}(h:CpI S w t (L++[r]) X)(hS:∀y,S y→y<w.heap.size)(hn:n=L.length)(hw:X.heap[w.heap.size+1+1]? =some (.cells #[.slice (some ⟨g,0,none⟩) (n+1) wc] 146 (0,0)))(hrow:X.ownsRow (w.heap.size+3) 25 1 (.slice (some ⟨g,0,none⟩) (n+1) wc) (n+1) ((L++[r]).map Wr.v)):
 CpI S w t L (X.setCell ⟨w.heap.size+1+1,0,none⟩ (.slice (some ⟨g,0,none⟩) n wc))∧zhi S w (X.setCell ⟨w.heap.size+1+1,0,none⟩ (.slice (some ⟨g,0,none⟩) n wc)) r:=by
 obtain⟨V,hV⟩:∃V,V=X.setCell ⟨w.heap.size+1+1,0,none⟩ (.slice (some ⟨g,0,none⟩) n wc):=⟨_,rfl⟩
 have ho:∀y,y≠w.heap.size+1+1→V.heap[y]? =X.heap[y]?:=fun y hy=>by rw[hV];exact BhsQ _ _ _ _ hy
 have hk:∀y,SN S w.heap.size X y→SN S w.heap.size V y∧V.heap[y]? =X.heap[y]?:=fun y hy=>by
  have hne:y≠w.heap.size+1+1:=fun e=>by
   rcases hy with hy | ⟨_,_,cs,hcs⟩
   · have:=hS y hy;omega
   · exact absurd (QG (by rw[e];exact hw) hcs) ug7
  exact⟨hy.imp (fun h=>h) (fun h=>⟨h.1,h.2.1,h.2.2.Js (ho y hne)⟩),ho y hne⟩
 have hrw:∀x∈L++[r],zhi S w V x:=fun x hx=>by
  obtain⟨h1,h2,h3⟩:=h.rows x hx
  exact⟨h1,h2.kept hk,fun h0=>by obtain⟨g',e,hg,hN⟩:=h3 h0;exact⟨g',e,hg,(hN.Js (ho g' om))⟩⟩
 rw[←hV]
 have hs:=h.size
 have hgb:=zk hrow (g:=g) rfl
 refine⟨⟨⟨some ⟨g,0,none⟩,wc,?_,?_⟩,?_,(ho _ om).trans h.res,fun x hx=>hrw x (List.mem_append_left _ hx),?_,?_⟩,hrw r sp1⟩
 · rw[hV,hssQ X _ 0 _ _ _ hw,←hn];simp
 · rw[←hn]
   have h1:=zH (w':=V) hrow (fun g' cur hc hg'=>ho g' ud3)
   rw[List.map_append,List.map_cons,List.map_nil] at h1
   exact zgA h1 (by rw[List.length_map];exact hn)
 · obtain⟨ka,kc,r1,r2,r3⟩:=h.root
   exact⟨ka,kc,(ho _ om).trans r1,r2,r3.kept hk⟩
 · rw[hV];exact h.below.setCell ug1 _
 · rw[hV];simp[World.setCell];omega
theorem zcA:∀(L:List Wr),L= []∨∃A s,L=A++[s]:=fun L=>by
 rcases List.eq_nil_or_concat L with h | ⟨A,s,h⟩
 · exact Or.inl h
 · exact Or.inr ⟨A,s,by simpa using h⟩
theorem yJ {P:Program}{fn:Func}{p:Tmp}{ty:TypeId}(h:fn.results= #[.cell p ty])(tmps:Array Value)(w:World)(g:Nat)(t:TypeId)(cs:Array Value)(fr:Nat×Nat)(d:TypeDesc)
 (hp:tmps.getD p undef= .pointer (some ⟨g,0,none⟩)) (hg:w.heap[g]? =some (.cells cs t fr)) (hu:P.underlying ty=some d) (hd:(match d with | .struct _ | .array _ _=>true | _=>false)=true) (hi:(P.info? ty).map (·.size)=some cs.size):
 (results fn tmps).run P w= .ok (.agg cs) w:=by
 exact si4
def zb0 (w:World)(S:Nat→Prop)(t:Tr)(e:Ending)(w' :World):Prop:=∃v,e= .returned v∧zG w' (fun y=>(S y∨w.heap.size≤y)∧y<w'.heap.size) v t∧Below w.heap.size w w'
theorem zdf {f:Fo}{k:Nat}{u:Tr}(h:zB f k=some u):zb (zx (k+1) f)=zb (zx k f)+zb u.kids+1:=by
 have:=congrArg List.length (Qo f k u h)
 rw[LlaQ,yU,yU,q9] at this
 omega
theorem zbG:∀(j:Nat) (f:Fo),zb (zx j f)≤zb f
 | 0,f=>by cases f<;>simp[zx,zb]
 | j+1,.nil=>by simp[zx,zb]
 | j+1,.node _ _ _ l r=>by have:=zbG j r;simp only[zx,zb];omega
theorem zeB (w:World)(S:Nat→Prop)(nv:Value)(t:Tr)(hS:∀y,S y→y<w.heap.size)(ht:zG w S nv t)(hsz:zb t.kids≤100000):Calls Tryz.prog 84 #[nv] w (zb0 w S t):=by
 obtain⟨ka,tc,rfl,hcap,hk⟩:=ht
 obtain⟨nk,hnk⟩:∃nk,nk=foLen t.kids:=⟨_,rfl⟩
 rw[←hnk]
 have hmf:∀(fn:Fn) (first cap:Array Value) (w:World),(Instr.makeFunc fn first cap).run Tryz.prog w= .ok (.func fn first cap) w:=fun _ _ _ _=>rfl
 obtain⟨B,hB⟩:∃B,B=zl w [.cells #[.int .i64 t.id,.int .i64 t.kind,.string t.text,.slice ka nk tc] 27,.cells #[.int .i64 0,.int .i64 0,.string ⟨#[]⟩,.slice none 0 0] 27,.cells #[.slice none 0 0] 146]:=⟨_,rfl⟩
 have hb:Below w.heap.size w B:=by rw[hB];exact zi _ _
 have hs:B.heap.size=w.heap.size+3:=by rw[hB];exact zw _ _
 have ht0:B.heap[w.heap.size]? =some (.cells #[.int .i64 t.id,.int .i64 t.kind,.string t.text,.slice ka nk tc] 27 (0,0)):=by rw[hB];exact ze _ _ 0 _ rfl
 have hr0:B.heap[w.heap.size+1]? =some (.cells #[.int .i64 0,.int .i64 0,.string ⟨#[]⟩,.slice none 0 0] 27 (0,0)):=by rw[hB];exact ze _ _ 1 _ rfl
 have hw0:B.heap[w.heap.size+1+1]? =some (.cells #[.slice none 0 0] 146 (0,0)):=by rw[hB];exact ze _ _ 2 _ rfl
 have hfo:zt B (SN S w.heap.size B) t.kids ka:=hk.kept fun y hy=>⟨Or.inl hy,hb.block y (hS y hy)⟩
 have hI0:CpI S w t [] B:=⟨⟨none,0,hw0,World.ownsRow_nil _ _ _ _⟩,⟨ka,tc,by rw[←hnk];exact ht0,hcap,hfo⟩,hr0,fun r hr=>(by cases hr),hb,by omega⟩
 have hfl:=zL t.kids
 have hcall:=zfL S w.heap.size (w.heap.size+1+1) (w.heap.size+3) B none 0 0 [] w.heap.size 0 tc ka t.kids hS om om om hw0 (World.ownsRow_nil _ _ _ _) om ⟨_,ht0⟩ (NlrQ _) (by rw[corQ _ _ _ _ _ _ ht0,←hnk];rfl) hfo om om
 have HC:=hH hcall
 have HSS:=hH hS
 have HI0:=hH (aN hI0 hw0)
 have HBE:=hH hB
 have HSZ:=hH hsz
 clear hcall hI0 hfo hw0 hr0 ht0 hs hb hB hnk hk hcap hS hfl hsz
 go_enter Tryz.func84,Tryz.ntmps84
 go_upto_region 2 with fail
 change Code.wp _ _ _ _ (zl w [.cells #[.int .i64 t.id,.int .i64 t.kind,.string t.text,.slice ka nk tc] 27,.cells #[.int .i64 0,.int .i64 0,.string ⟨#[]⟩,.slice none 0 0] 27,.cells #[.slice none 0 0] 146])
 rw[←HBE.out]
 clear HBE
 go_wp2_with fail
 refine HC.out.mono ?_
 rintro e V0 ⟨rfl,ho⟩
 obtain⟨r0,hr0,hI1,_,_⟩:=HI0.out.1.own HI0.out.2 (World.ownsRow_nil _ _ _ _) (Or.inl ⟨rfl,rfl,rfl⟩) ho
 rw[List.nil_append] at hI1
 have hm0:kD [r0]≤100001:=by simp only[kD,hr0];have:=HSZ.out;omega
 have HI1:=hH (aN hI1 hm0)
 clear hI1 ho hr0 HI0 HC hm0 HSZ
 go_wp2_with fail
 go_loopg [5] (kD [r0]) (fun gk s5 wr=>∃L:List Wr,gk=kD L∧Hid (CpI S w t L wr∧kD L≤100001))
 case atStart=>exact⟨[r0],rfl,HI1⟩
 case round=>
  obtain⟨L,hgk,hh⟩:=hrel
  obtain⟨wo,hwo⟩:∃wo,wo=wr:=⟨_,rfl⟩
  subst hwo
  obtain⟨wa,wc,hw,hrow⟩:=hh.out.1.wait
  rcases zcA L with rfl | ⟨L0,r,rfl⟩
  · have c0:wo.cell? ⟨w.heap.size+1+1,0,none⟩=some (.slice wa 0 wc):=by rw[corQ _ _ 0 _ _ _ hw];rfl
    obtain⟨rka,rkc,q1,q2,q3⟩:=hh.out.1.root
    have q4:=hh.out.1.res
    have q5:=hh.out.1.below
    have q6:=hh.out.1.size
    obtain⟨k0,k1,k2,k3⟩:=zD q1
    obtain⟨z0,z1,z2,z3⟩:=zD q4
    have zf:∀j,wo.frozen? ⟨w.heap.size+1,j,none⟩=false:=fun j=>forQ _ _ j _ _ q4
    obtain⟨m,hm⟩:∃m,m=foLen t.kids:=⟨_,rfl⟩
    rw[←hm] at q1 q2 k3
    obtain⟨V,hV,r1,r2,r3,r4,r5,r6⟩:=zo (u0:= .int .i64 t.id) (u1:= .int .i64 t.kind) (u2:= .string t.text) (u3:= .slice rka m rkc) q4
    have HEND:Hid (zb0 w S t (.returned (.agg #[.int .i64 t.id,.int .i64 t.kind,.string t.text,.slice rka m rkc])) V):=hH ⟨_,rfl,⟨rka,rkc,by rw[hm],by omega,q3.kept fun y hy=>by
     have hlt:=hy.lt HSS.out om
     exact⟨⟨hy.imp (fun h=>h) (fun h=>h.2.1),show y<V.heap.size by omega⟩,r2 y (by rcases hy with hy | ⟨hy,_⟩;have:=HSS.out y hy;omega;omega)⟩⟩,⟨r3.trans q5.os,r4.trans q5.tape,r5.trans q5.output,by rw[r6];exact q5.size,fun y hy=>(r2 y om).trans (q5.block y hy)⟩⟩
    have HV:=hH (aN hV r1)
    clear hh hw hrow q1 q2 q3 q4 q5 q6 hm hV r1 r2 r3 r4 r5 r6 HI1
    go_wp2_with fail
    rw[←HV.out.1]
    refine brQ (yJ rfl _ _ (w.heap.size+1) 27 _ (0,0) _ rfl HV.out.2 Tryz.underlying27 rfl kr1) rfl ?_
    exact HEND.out
  · obtain ⟨n,hn⟩:∃n,n=L0.length:=⟨_,rfl⟩
    have hlen:(L0++[r]).length=n+1:=by simp[hn]
    rw[hlen] at hw hrow
    obtain⟨g,cap2,e,_⟩:=hrow.form om
    cases e
    have c0:wo.cell? ⟨w.heap.size+1+1,0,none⟩=some (.slice (some ⟨g,0,none⟩) (n+1) wc):=by rw[corQ _ _ 0 _ _ _ hw];rfl
    have cf:∀j,wo.frozen? ⟨w.heap.size+1+1,j,none⟩=false:=fun j=>forQ _ _ j _ _ hw
    obtain⟨rn,hrn⟩:∃rn,rn=foLen r.f:=⟨_,rfl⟩
    have t0:wo.cell? ⟨g,n,none⟩=some (.slice r.a rn r.cap):=zF hrow rfl n _ (by
     rw[List.map_append,List.getElem?_append_right (by rw[List.length_map];omega),List.length_map,←hn,Nat.sub_self,hrn];rfl)
    have hnc:n+1≤wc:=by
     rcases hrow.2 with ⟨hv,_⟩ | ⟨_,_,_,hv,_,_,h3,_⟩
     · cases hv
     · cases hv;exact h3
    obtain⟨hp1,hp2⟩:=hh.out.1.pop HSS.out hn hw hrow
    obtain⟨V,hV⟩:∃V,V=wo.setCell ⟨w.heap.size+1+1,0,none⟩ (.slice (some ⟨g,0,none⟩) n wc):=⟨_,rfl⟩
    rw[←hV] at hp1 hp2
    have hw6:=hh.out.2
    have hws:kD (L0++[r])=kD L0+zb r.f+1:=by rw[jL];simp only[kD];omega
    have hwl:=zbj L0
    have hfr:=zL r.f
    rw[hws] at hgk hw6
    have hn6:n≤100000:=by omega
    have hr6:rn≤100001:=by omega
    have HV:=hH hV
    have HP:=hH (aN hp1 (aN hp2 (aN hgk (aN hw6 hrn))))
    clear hh hw hrow hlen hp1 hp2 hgk hw6 hws hwl hfr hrn hV hn HI1
    go_wp2_with fail
    rw[←HV.out]
    go_loopw [26] (fun i wr=>∃(k:Nat) (L1:List Wr),k≤rn∧i= .int .i64 (k:Int)∧Hid (CpI S w t (L0++L1) wr∧zhi S w wr r∧kD L1=zb (zx k r.f))) (fun i _=>rn - (intOf i).toNat)
    case atStart=>exact⟨0,[],NzlQ _,rfl,hH ⟨by rw[List.append_nil];exact HP.out.1,HP.out.2.1,by cases r.f<;>rfl⟩⟩
    case round=>
     obtain⟨k,L1,hk,rfl,hh⟩:=hrel
     by_cases hlt:k<rn
     · have hki:(k:Int)<(rn:Int):=by omega
       obtain⟨hI,⟨hr1,hr2,hr3⟩,hws⟩:=hh.out
       have hrn:=HP.out.2.2.2.2
       have hw6:=HP.out.2.2.2.1
       obtain⟨g3,ha,hg3,hN3⟩:=hr3 om
       obtain⟨b0,o0,key,ll,rr,hd,g2,go,na,nc,hka,hSg,q0,q1,q2,q3,qc,qk⟩:=hr2.at k om
       rw[ha] at hka
       cases hka
       have hkid:zB r.f k=some ⟨key.1,key.2.1,key.2.2,ll⟩:=by rw[zB,hd];rfl
       have hksz:=jo hkid
       have hll:=zL ll
       have hts:=zdf hkid
       have htl:=zbG k r.f
       have hwa:kD (L0++L1)=kD L0+kD L1:=jL _ _
       have hwl:=zbj (L0++L1)
       obtain⟨wa2,wc2,hw2,hrow2⟩:=hI.wait
       simp only at hksz hts
       rw[Nat.zero_add] at q3
       have hcall:=zfL S w.heap.size (w.heap.size+1+1) (w.heap.size+3) wr wa2 (L0++L1).length wc2 ((L0++L1).map Wr.v) g3 (k*4) nc na ll HSS.out om om hI.size hw2 hrow2 om hN3 om q3 qk om om
       have HC:=hH hcall
       have HN:=hH (aN hlt (aN hts (aN hg3 (aN hI (aN hw2 (aN hrow2 (aN hr1 (aN hr2 (aN hr3 (aN hws (aN ha hkid)))))))))))
       have hk0:(0:Int)≤(k:Int):=by omega
       clear hcall hlt hts hg3 hI hw2 hrow2 hr1 hr2 hr3 hws hkid hksz hll htl hwa hwl hN3 hd hSg q0 q1 q2 q3 qc qk hh hrn hw6 hk t0 cf c0
       rw[ha]
       go_wp2_with fail
       refine HC.out.mono ?_
       rintro e V2 ⟨rfl,ho⟩
       obtain⟨hlt,hts,hg3,hI,hw2,hrow2,hr1,hr2,hr3,hws,ha',hkid⟩:=HN.out
       obtain⟨r2,hrf,hI2,hkeep,hNB⟩:=hI.own hw2 hrow2 (Or.inr hg3) ho
       have HR:=hH (show CpI S w t (L0++(L1++[r2])) V2∧zhi S w V2 r∧kD (L1++[r2])=zb (zx (k+1) r.f) from⟨by rw[←List.append_assoc];exact hI2,⟨hr1,hkeep _ _ hr2,fun h0=>by obtain⟨g,e,h1,h2⟩:=hr3 h0;exact⟨g,e,h1,hNB g h2⟩⟩,by rw[jL,hws,hts];simp only[kD,hrf];omega⟩)
       have HLT:=hH hlt
       clear hlt hts hg3 hI hw2 hrow2 hr1 hr2 hr3 hws ha' hkid hI2 hkeep hNB ho HN HC hrf
       go_wp2_with fail
       exact⟨⟨k+1,L1++[r2],by have:=HLT.out;omega,by go_num,HR⟩,by have:=HLT.out;simp[intOf];omega⟩
     · have hki:¬(k:Int)<(rn:Int):=by omega
       have HKN:=hH (show k=rn by omega)
       clear hlt hk t0 cf c0
       go_wp2_with fail
       go_roundg (gk - 1)
       case measure=>have:=HP.out.2.2.1;omega
       case rel=>
        refine⟨L0++L1,?_,hH ⟨hh.out.1,?_⟩⟩
        all_goals
         have h1:=hh.out.2.2
         rw[HKN.out,HP.out.2.2.2.2,yT _ r.f (NlrQ _)] at h1
         have h2:=jL L0 L1
         have h3:=HP.out.2.2.1
         have h4:=HP.out.2.2.2.1
         omega
end Go.Proofs.YtgkmmnihaiopaaaGreat
