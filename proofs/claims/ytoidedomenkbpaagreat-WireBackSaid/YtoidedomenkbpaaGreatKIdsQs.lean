/-
  .
-/
import Derived.Test.YtoidedomenkbpaaGreatICopyPQs
set_option maxRecDepth 100000
set_option maxHeartbeats 40000000
namespace Go.Proofs.YtoidedomenkbpaaGreat
open Go.RowKit Go.Shelf
set_option linter.unusedVariables false
set_option linter.unusedSimpArgs false
def idF:Fo→List Int
 | .nil=>[]
 | .node _ _ k l r=>k.1::(idF l++idF r)
def idT (t:Tr):List Int:=t.id::idF t.kids
theorem qy:∀f:Fo,(idF f).length=zh f
 | .nil=>rfl
 | .node _ _ k l r=>by simp[idF,zh,qy l,qy r]
theorem Zg (t:Tr):(idT t).length=zh t.kids+1:=by simp[idT,qy]
theorem Qs:∀(f:Fo) (j:Nat) (u:Tr),Yc f j=some u→idF (zW (j+1) f)=idF (zW j f)++idT u
 | .nil,j,u,h=>by cases j<;>simp[Yc,yx,zhb] at h
 | .node b o k l r,0,u,h=>by
   simp only[Yc,yx,zhb] at h
   cases h
   simp[zW,idF,idT]
 | .node b o k l r,j+1,u,h=>by
   have:=Qs r j u (by simpa [Yc,yx] using h)
   simp only[zW,idF,this,List.cons_append,List.append_assoc]
structure JA (W:World) (LB UB DB:Nat) (up:Int) (l:List Int) (X:World):Prop where
 row:∃a c,X.heap[LB]? =some (.cells #[.slice a l.length c] 30 (0,0))∧X.ownsRow W.heap.size 3 1 (.slice a l.length c) l.length (l.map zen)
 below:∀y,y<W.heap.size→y≠LB→X.heap[y]? =W.heap[y]?
 size:W.heap.size≤X.heap.size
 os:X.os=W.os
 tape:X.tape=W.tape
 output:X.output=W.output
structure IdW (W:World) (LB UB DB:Nat) (up:Int):Prop where
 down:W.heap[DB]? =some (.cells #[.func (.func 137) #[] #[.pointer (some ⟨LB,0,none⟩),.pointer (some ⟨UB,0,none⟩),.pointer (some ⟨DB,0,none⟩)]] 185 (0,0))
 upTo:W.heap[UB]? =some (.cells #[.int .i64 up] 3 (0,0))
 hd:DB<W.heap.size∧DB≠LB
 hu:UB<W.heap.size∧UB≠LB
 hl:LB<W.heap.size
def IdC (W:World)(LB UB DB:Nat)(up:Int)(l:List Int)(e:Ending)(X:World):Prop:=e= .returned (.tuple #[])∧JA W LB UB DB up l X
theorem JA.add {W Y Z:World}{LB UB DB:Nat}{up:Int}{l:List Int}{X:World}{id:Int}{a a' :Option Addr}{c c' :Nat}(h:JA W LB UB DB up l X)(hLB:LB<W.heap.size)(hl:X.heap[LB]? =some (.cells #[.slice a l.length c] 30 (0,0)))(hro:X.ownsRow W.heap.size 3 1 (.slice a l.length c) l.length (l.map zen))
 (hY:Below X.heap.size X Y) (hown:Z.ownsRow W.heap.size 3 1 (.slice a' (l.length+1) c') (l.length+1) (l.map zen++[zen id])) (hg:Y.grownBy Z (Value.slice a l.length c).ownBlock):JA W LB UB DB up (l++[id]) (Z.setCell ⟨LB,0,none⟩ (.slice a' (l.length+1) c'))∧Z.heap[LB]? =some (.cells #[.slice a l.length c] 30 (0,0)):=by
 have hob:∀y,y<W.heap.size→some y≠(Value.slice a l.length c).ownBlock:=fun y hy e=>by
  have:=zY hro (g:=y) e.symm
  omega
 have hkeep:∀y,y<W.heap.size→Z.heap[y]? =X.heap[y]?:=fun y hy=>by
  have h1:=h.size
  have h2:=hY.size
  exact (hg.block y om1 (hob y hy)).trans (hY.block y om1)
 have hz:=(hkeep LB hLB).trans hl
 refine⟨⟨⟨a',c',?_,?_⟩,fun y hy hn=>?_,?_,?_,?_,?_⟩,hz⟩
 · rw[hssQ Z LB 0 _ _ _ hz];simp
 · rw [LlaQ,List.map_append]
   exact yo hown (fun g' cur hc hg'=>BhsQ _ _ _ _ (by
    have:=zY hown (g:=g') hg'
    simp only;omega))
 · rw[BhsQ _ _ _ _ hn,hkeep y hy];exact h.below y hy hn
 · have h1:=h.size
   have h2:=hY.size
   have h3:=hg.size
   simp[World.setCell];omega
 · exact hg.os.trans (hY.os.trans h.os)
 · exact hg.tape.trans (hY.tape.trans h.tape)
 · exact hg.output.trans (hY.output.trans h.output)
theorem qx {P:Program}{ops:Array Oper}{o:Oper}{a:Act}{w:World}{K:Act→World→Prop}{Q:Exit→Act→World→Prop}{E:Prop}
 (hg:o.guard=none) (d x:Operand) (dT sT:TypeId) (hop:o.op=Op.call { callee:=Callee.builtin Builtin.append,args:= #[d,x],argTypes:= #[dT,sT] })
 (v u:Value) (hd:a.eval d=v) (hx:a.eval x=u) {v' :Value} {w' :World} (hr:(Builtin.append_ #[dT,sT] o.type #[v,u]).run P w= .ok v' w') (hK:K (a.put o.dst v') w'):
 if Region.wanted o (yielded ops a.tmps)=true then Oper.wp P o a w K Q else E:=by
 have hw:Region.wanted o (yielded ops a.tmps)=true:=by simp[Region.wanted,hg]
 rw[ipQ hw]
 unfold Oper.wp execOp
 simp only[hop,resolve,invoke,builtin,Sem.run_bind,Sem.run_pure,Result.andThen_ok,List.map_toArray,List.map_cons,List.map_nil,hd,hx,hr]
 exact hK
theorem zgY {W:World}{LB UB DB:Nat}{up:Int}{S:Nat→Prop}(hW:IdW W LB UB DB up)(hS:∀y,S y→y<W.heap.size∧y≠LB)(hup:up≤1000000):
 ∀(M:Nat) (X:World) (l:List Int) (u:Tr) (b off:Nat),zh u.kids<M→zbT W S u b off→JA W LB UB DB up l X→((l.length+zh u.kids+1:Nat):Int)≤up→
 Calls Tryz.prog 137 #[.pointer (some ⟨b,off,none⟩),.pointer (some ⟨LB,0,none⟩),.pointer (some ⟨UB,0,none⟩),.pointer (some ⟨DB,0,none⟩)] X (IdC W LB UB DB up (l++idT u)):=by
 intro M
 induction M with
 | zero=>intro X l u b off h;omega
 | succ M ih=>
   intro X l u b off hM hu hX hle
   obtain⟨hb,n0,n1,n2,ka,kc,n3,hkc,hkk⟩:=hu
   obtain⟨n,hn⟩:∃n,n=foLen u.kids:=⟨_,rfl⟩
   rw[←hn] at n3 hkc
   obtain⟨a,c,hl,hro⟩:=hX.row
   have hlLB:=hW.hl
   have hWb:∀Y,JA W LB UB DB up (l++[u.id]) Y→True:=fun _ _=>trivial
   have hcell:∀(Y:World) (m:List Int),JA W LB UB DB up m Y→Y.cell? ⟨b,off,none⟩=some (.int .i64 u.id)∧Y.cell? ⟨b,off+3,none⟩=some (.slice ka n kc)∧Y.cell? ⟨DB,0,none⟩=some (.func (.func 137) #[] #[.pointer (some ⟨LB,0,none⟩),.pointer (some ⟨UB,0,none⟩),.pointer (some ⟨DB,0,none⟩)])∧Y.cell? ⟨UB,0,none⟩=some (.int .i64 up):=fun Y m h=>by
    have e:=h.below b (hS b hb).1 (hS b hb).2
    exact⟨(World.cell?_of_block (a:=⟨b,off,none⟩) e).trans n0,(World.cell?_of_block (a:=⟨b,off+3,none⟩) e).trans n3,by rw[corQ _ _ 0 _ _ _ ((h.below DB hW.hd.1 hW.hd.2).trans hW.down)];rfl,by rw[corQ _ _ 0 _ _ _ ((h.below UB hW.hu.1 hW.hu.2).trans hW.upTo)];rfl⟩
   obtain⟨k0,k3,kd,ku⟩:=hcell X l hX
   have hl0:X.cell? ⟨LB,0,none⟩=some (.slice a l.length c):=by rw[corQ _ _ 0 _ _ _ hl];rfl
   obtain⟨ln,hln⟩:∃ln,ln=l.length:=⟨_,rfl⟩
   obtain⟨Y1,hY1⟩:∃Y1,Y1=(X.alloc (.cells #[.int .i64 u.id] 3)).drew:=⟨_,rfl⟩
   have hbY:Below X.heap.size X Y1:=by
    rw[hY1]
    have h:=(BrQ X.heap.size X).alloc (NlrQ _) (.cells #[.int .i64 u.id] 3)
    exact⟨h.os,h.tape,h.output,h.size,h.block⟩
   obtain⟨i0,hi0,hz0,hz1,hz2⟩:=info_parts Tryz.zbY
   have hroY:=yo (w':=Y1) hro (fun g cur hg _=>hbY.block g (lohQ hg))
   have hnew:Y1.cell? ⟨X.heap.size,0,none⟩=some (.int .i64 u.id):=by
    have h:=hanQ X (.cells #[.int .i64 u.id] 3)
    rw[hY1]
    show (X.alloc (.cells #[.int .i64 u.id] 3)).cell? ⟨X.heap.size,0,none⟩=_
    rw[corQ _ _ 0 _ _ _ h];rfl
   obtain⟨v',Z,hrun,hown,hgr,_,_⟩:=run_append_own_at (P:=Tryz.prog) Y1 W.heap.size 30 30 3 i0 _ 1 8 Tryz.underlying30 hi0 hz0 hz1 hz2 rfl ue0 _ _ _ hroY ⟨X.heap.size,0,none⟩ 1 1 [.int .i64 u.id] rfl (fun j v hj=>by
    match j,hj with
    | 0,hj=>simp at hj;subst hj;exact hnew
    | j+1,hj=>simp at hj) (fun v hv=>by simp only[List.mem_cons,List.not_mem_nil,or_false] at hv;rw[hv];rfl) ud1 om1 (by have:=hX.size;have:=hbY.size;omega)
   obtain⟨a',c',rfl⟩:=yE hown
   obtain⟨hA,hzl⟩:=hX.add hlLB hl hro hbY hown hgr
   have hzl0:Z.cell? ⟨LB,0,none⟩=some (.slice a l.length c):=by rw[corQ _ _ 0 _ _ _ hzl];rfl
   have hzf:∀j,Z.frozen? ⟨LB,j,none⟩=false:=fun j=>forQ _ _ j _ _ hzl
   rw[←hln] at hrun hl0 hzl0 hA
   obtain⟨V,hV⟩:∃V,V=Z.setCell ⟨LB,0,none⟩ (.slice a' (ln+1) c'):=⟨_,rfl⟩
   rw[←hV] at hA
   obtain⟨SW,hSW⟩:∃SW:World→Prop,SW=fun Y=>Y.cell? ⟨b,off,none⟩=some (.int .i64 u.id):=⟨_,rfl⟩
   have HSW:=hH (fun (Y:World) (h:SW Y)=>(show Y.cell? ⟨b,off,none⟩=some (.int .i64 u.id) by rw[hSW] at h;exact h))
   have hzk:Z.heap[b]? =X.heap[b]?:=by
    have h1:=hX.size
    have h2:=hbY.size
    have h3:=(hS b hb).1
    refine (hgr.block b om1 (fun e=>?_)).trans (hbY.block b om1)
    have:=zY hro (g:=b) e.symm
    omega
   have hS0:SW X.drew:=by rw[hSW];exact k0
   have hSY:SW Y1:=by rw[hSW];exact (World.cell?_of_block (a:=⟨b,off,none⟩) (hbY.block b (by have:=(hS b hb).1;have:=hX.size;omega))).trans k0
   have hSZ:SW Z:=by rw[hSW];exact (World.cell?_of_block (a:=⟨b,off,none⟩) hzk).trans k0
   have hSV:SW V:=by rw[hSW];exact (hcell V _ hA).1
   have HSS:=hH (aN hSY (aN hSZ hSV))
   have HYE:=hH hY1
   have HVE:=hH hV
   have HA:=hH hA
   have HCELL:=hH hcell
   have HIH:=hH ih
   have HT:=hH (aN hb (aN hkk (aN hn (aN hkc (aN hle (aN hM hln))))))
   have HRUN:=hH hrun
   have HL1:Hid (Y1.cell? ⟨LB,0,none⟩=some (.slice a ln c)):=hH (by
    rw[corQ _ _ 0 _ _ _ ((hbY.block LB (lohQ hl)).trans hl),hln];rfl)
   have HZ:=hH (aN hzl0 hzf)
   clear ih hcell hWb hlLB hro hl hX k0 k3 kd ku hbY hroY hnew hrun hown hgr hA hzl hzl0 hzf hSW hzk hSY hSZ hSV hY1 hV hkk n0 n1 n2 n3 hkc hn hle hM hln hi0 hz0 hz1 hz2 hb
   go_enter Tryz.func137,Tryz.ntmps137
   go_wp2_with fail
   refine wrhQ (S:=SW) kr1 hS0 (fun eH=>?_)
   clear hS0
   refine tG (i:=1) (.pointer (some ⟨b,off,none⟩)) rfl ?_
   simp only[Act.put,pg]
   refine tG (i:=2) (.pointer (some ⟨b,off,none⟩)) rfl ?_
   simp only[Act.put,pg]
   refine tG (i:=3) (.pointer (some ⟨b,off,none⟩)) rfl ?_
   simp only[Act.put,pg]
   refine tJ (i:=4) (.int .i64 u.id) rfl ?_ ?_
   · clear eH;intro X hSw;have s0:=HSW.out X hSw;clear hSw;go_simp
   simp only[Act.put,pg]
   have hH00:=eH
   refine rd1 [0,5] ?_
   refine AcQ (o:=_) rfl (fun K hK=>?_) (AcQ (o:=_) rfl (fun K hK=>?_) (AnQ))
   · rw[ipQ ue1]
     simp only[pg3]
     have HK:=hH hK
     clear hK eH
     go_wp2_with fail
     refine HK.out _ _ hH00 (fun eH=>?_)
     clear HK
     refine rd1 [5] ?_
     refine AcQ (o:=_) rfl (fun K hK=>?_) (AnQ)
     rw[ipQ ue1]
     simp only[pg3]
     have HK:=hH hK
     clear hK eH
     go_wp2_with fail
     rw[←HYE.out]
     refine HK.out _ _ HSS.out.1 (fun eH=>?_)
     clear HK
     exact sa7
   · rw[ipQ ue1]
     simp only[pg3]
     have HK:=hH hK
     clear hK eH
     go_wp2_with fail
     rw[←HYE.out]
     refine HK.out _ _ HSS.out.1 (fun eH=>?_)
     clear HK
     refine rd1 [0] ?_
     refine AcQ (o:=_) rfl (fun K hK=>?_) (AnQ)
     rw[ipQ ue1]
     simp only[pg3]
     have HK:=hH hK
     clear hK eH
     have hl1:=HL1.out
     go_wp2_with fail
     refine HK.out _ _ HSS.out.1 (fun eH=>?_)
     clear HK hl1
     exact sa7
end Go.Proofs.YtoidedomenkbpaaGreat
