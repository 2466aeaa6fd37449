/-
  .
-/
import Derived.Test.YtnikgofkldkdkaaKTakeQt
set_option maxRecDepth 100000
set_option maxHeartbeats 40000000
namespace Go.Proofs.Ytnikgofkldkdkaa
open Go.RowKit Go.Shelf
set_option linter.unusedVariables false
set_option linter.unusedSimpArgs false
def zcr (eb:Nat)(e:Int)(X:World):Prop:=X.heap[eb]? =some (.cells #[.int .i64 e] 41 (0,0))
theorem zdZ (w:World)(S SS:Nat→Prop)(hS:∀y,S y→y<w.heap.size)(hsub:∀y,S y→SS y)(u:Tr)(ab ub eb:Nat)(at_:Int)(hsz:foLen u.kids≤1000000)(hat:at_<0∨(foLen u.kids:Int)<at_)
 (ha:w.heap[ab]? =some (.cells #[.int .i64 at_] 3 (0,0))) (he:w.heap[eb]? =some (.cells #[.int .i64 2] 41 (0,0))) (hae:ab≠eb):
 ∀W,Below w.heap.size w W→W.heap.size=w.heap.size+4→zgL Try.prog W w.heap.size (fun y=>y=eb) S SS u 107 (.pointer (some ⟨ab,0,none⟩)) (.pointer (some ⟨ub,0,none⟩)) (.pointer (some ⟨eb,0,none⟩)) u (zcr eb 2):=fun W hb hs=>by
 refine⟨fun _ _=>rfl,fun X X1 b off sv xs hH k hlt hbl=>?_⟩
 obtain⟨a,c,rfl⟩:=zt k.own
 have hold:∀y,y<w.heap.size→X1.heap[y]? =w.heap[y]?:=fun y hy=>(k.h.kept y om om (fun h=>h)).trans (hb.block y hy)
 have a0:X1.cell? ⟨ab,0,none⟩=some (.int .i64 at_):=by rw[corQ _ _ 0 _ _ _ ((hold ab (lohQ ha)).trans ha)];rfl
 have heX:=(hold eb (lohQ he)).trans he
 obtain⟨m,hm⟩:∃m,m=foLen u.kids:=⟨_,rfl⟩
 have d3:=k.c3
 rw[←hm] at d3 hat
 have hSz:=hH.size
 obtain⟨hl,hlc⟩:=ZY (S':=fun y=>SS y∨(y=w.heap.size∨W.heap.size≤y)) k.own k.row rfl (fun y hy=>Or.inl (hsub y hy)) (fun y hy=>Or.inr (Or.inr om))
 have hend:∀V:World,Below X1.heap.size X1 V→zfs W w.heap.size (fun y=>y=eb) SS X.heap.size X1 b off u (zcr eb 2) (.returned (.tuple #[])) V:=fun V hV=>by
  have hks:=k.size
  have hcb:∀j,V.cell? ⟨b,j,none⟩=X1.cell? ⟨b,j,none⟩:=fun j=>World.cell?_of_block (a:=⟨b,j,none⟩) (hV.block b om)
  have hlv:=ZY (S':=fun y=>y<X1.heap.size∧(SS y∨(y=w.heap.size∨W.heap.size≤y))) k.own k.row rfl (fun y hy=>⟨by have:=hS y hy;omega,Or.inl (hsub y hy)⟩)
  refine⟨rfl,hV.os,hV.tape,hV.output,hV.size,fun y hy _ _=>hV.block y om,fun j _=>hcb j,⟨Or.inr hbl,by rw[hcb];exact k.c0,by rw[hcb];exact k.c1,by rw[hcb];exact k.c2,a,c,by rw[hcb];exact k.c3,hlc,?_⟩,?_⟩
  · have hcl:=jT hl
    exact hcl.kept fun y hy=>⟨hy.2,hV.block y hy.1.lt⟩
  · exact (hV.block eb (lohQ heX)).trans heX
 have HEND:=Lib.hid hend
 have hm0:(0:Int)≤(m:Int):=by omega
 clear k hH hlt hbl hold hsz ha he hae heX hm hSz hl hlc hend hb hs
 rcases hat with h0 | h0
 · have hd:decide (0≤at_)=false:=by simp;omega
   have hd' :¬(0≤at_):=by omega
   exact sg4
 · have h1:(0:Int)≤at_:=by omega
   have h2:¬at_≤(m:Int):=by omega
   exact sg4
theorem zcA (w:World)(S SS:Nat→Prop)(hS:∀y,S y→y<w.heap.size)(hSS:∀y,SS y→y<w.heap.size)(hsub:∀y,S y→SS y)(u x:Tr)(ab ub eb i:Nat)(xa:Option Addr)(xc:Nat)(hsz:foLen u.kids≤1000000)(hi:i≤foLen u.kids)(hSe:∀y,SS y→y≠eb)
 (ha:w.heap[ab]? =some (.cells #[.int .i64 (i:Int)] 3 (0,0))) (hu:w.heap[ub]? =some (.cells #[.int .i64 x.id,.int .i64 x.kind,.string x.text,.slice xa (foLen x.kids) xc] 27 (0,0))) (hxc:foLen x.kids≤xc) (hxk:zk w SS x.kids xa) (he:w.heap[eb]? =some (.cells #[.int .i64 2] 41 (0,0))) (hae:ab≠eb) (hue:ub≠eb):
 ∀W,Below w.heap.size w W→W.heap.size=w.heap.size+4→zgL Try.prog W w.heap.size (fun y=>y=eb) S SS u 107 (.pointer (some ⟨ab,0,none⟩)) (.pointer (some ⟨ub,0,none⟩)) (.pointer (some ⟨eb,0,none⟩)) ⟨u.id,u.kind,u.text,yR u.kids i x⟩ (zcr eb 0):=fun W hb hs=>by
 refine⟨fun _ _=>rfl,fun X X1 b off sv xs hH k hlt hbl=>?_⟩
 obtain⟨a,c,rfl⟩:=zt k.own
 have hold:∀y,y<w.heap.size→X1.heap[y]? =w.heap[y]?:=fun y hy=>(k.h.kept y om om (fun h=>h)).trans (hb.block y hy)
 have a0:X1.cell? ⟨ab,0,none⟩=some (.int .i64 (i:Int)):=by rw[corQ _ _ 0 _ _ _ ((hold ab (lohQ ha)).trans ha)];rfl
 have heX:=(hold eb (lohQ he)).trans he
 have huX:=(hold ub (lohQ hu)).trans hu
 obtain⟨m,hm⟩:∃m,m=foLen u.kids:=⟨_,rfl⟩
 obtain⟨xn,hxn⟩:∃m,m=foLen x.kids:=⟨_,rfl⟩
 have d3:=k.c3
 rw[←hm] at d3
 rw[←hxn] at huX
 have hSz:=hH.size
 have hks:=k.size
 have hbx:b<X1.heap.size:=by omega
 have hbw:w.heap.size≤b:=by rcases hbl with h | h<;>omega
 have hkS:yM X1 SS u.kids xs:=k.row.kept fun y hy=>⟨hsub y hy,rfl⟩
 have hxS:zk X1 SS x.kids xa:=hxk.kept fun y hy=>⟨hy,hold y (hSS y hy)⟩
 have hrow:=zak u.kids i x xa xc xs hkS hxc hxS hi
 have hlen:=zaj u.kids i x hi
 have hew:eb<w.heap.size:=lohQ he
 have huw:ub<w.heap.size:=lohQ hu
 have haw:ab<w.heap.size:=lohQ ha
 have hobk:∀y,y<X.heap.size→(Value.slice a m c).ownBlock≠some y:=fun y hy e=>by
  have:=zi k.own (g:=y) (by rw[←e];cases a<;>rfl)
  omega
 have hobx:(Value.slice a m c).ownBlock≠some X1.heap.size:=fun e=>by
  have:=zi k.own (g:=X1.heap.size) (by rw[←e];cases a<;>rfl)
  omega
 have h1:(0:Int)≤(i:Int):=by omega
 have h2:(i:Int)≤(m:Int):=by omega
 have HALL:∀X2:World,X2.heap=X1.heap→X2.os=X1.os→X2.tape=X1.tape→X2.output=X1.output→∀Y1,Y1=(X2.alloc (.cells #[.int .i64 x.id,.int .i64 x.kind,.string x.text,.slice xa xn xc] 27)).drew→
  Y1.heap.size=X1.heap.size+1∧(∀y,y<X1.heap.size→Y1.heap[y]? =X1.heap[y]?)∧Calls Try.prog 108 #[.slice a m c,.int .i64 i,.slice (some ⟨X1.heap.size,0,none⟩) 1 1] Y1 (zdK Y1 X.heap.size (Value.slice a m c).ownBlock (m+1) (xs.take (i*4)++ZK x xa xc++xs.drop (i*4))):=fun X2 e1 e2 e3 e4 Y1 hY1=>by
  have hs1:Y1.heap.size=X1.heap.size+1:=by rw[hY1];simp[e1]
  have hb1:∀y,y<X1.heap.size→Y1.heap[y]? =X1.heap[y]?:=fun y hy=>by
   rw[hY1]
   show (X2.alloc _).heap[y]? =_
   rw[BhaQ _ _ _ (by rw[e1];exact hy),e1]
  refine⟨hs1,hb1,?_⟩
  have hn1:Y1.heap[X1.heap.size]? =some (.cells (ZK x xa xc).toArray 27 (0,0)):=by
   have h:=hanQ X2 (.cells #[.int .i64 x.id,.int .i64 x.kind,.string x.text,.slice xa xn xc] 27)
   rw[e1,hxn] at h
   rw[hY1,hxn]
   exact h
  have ho:=zA (w':=Y1) k.own (fun g' cur hc _=>hb1 g' (lohQ hc))
  have h:=ziV Y1 X.heap.size (foLen u.kids) i X1.heap.size (.slice a (foLen u.kids) c) xs (ZK x xa xc) ho om hi hsz hn1 rfl (fun v hv=>by simp only[ZK,List.mem_cons,List.not_mem_nil,or_false] at hv;rcases hv with rfl | rfl | rfl | rfl<;>rfl) k.one (by rw[←hm];exact hobx)
  rw[←hm] at h
  exact h
 have hgrow:∀Y1 Y2:World,Y1.heap.size=X1.heap.size+1→(∀y,y<X1.heap.size→Y1.heap[y]? =X1.heap[y]?)→Y1.grownBy Y2 (Value.slice a m c).ownBlock→∀y,y<X.heap.size→Y2.heap[y]? =X1.heap[y]?:=fun Y1 Y2 hs1 hb1 hg y hy=>by
  rw[hg.block y om (fun e=>hobk y hy e.symm)];exact hb1 y om
 have HEND:Hid (∀X2:World,X2.heap=X1.heap→X2.os=X1.os→X2.tape=X1.tape→X2.output=X1.output→∀Y1,Y1=(X2.alloc (.cells #[.int .i64 x.id,.int .i64 x.kind,.string x.text,.slice xa xn xc] 27)).drew→∀(Y2:World) (va:Option Addr) (vc:Nat),Y2.ownsRow X.heap.size 27 4 (.slice va (m+1) vc) (m+1) (xs.take (i*4)++ZK x xa xc++xs.drop (i*4))→Y1.grownBy Y2 (Value.slice a m c).ownBlock→
  zfs W w.heap.size (fun y=>y=eb) SS X.heap.size X1 b off ⟨u.id,u.kind,u.text,yR u.kids i x⟩ (zcr eb 0) (.returned (.tuple #[])) ((Y2.setCell ⟨b,off+3,none⟩ (.slice va (m+1) vc)).setCell ⟨eb,0,none⟩ (.int .i64 0))):=Lib.hid fun X2 e1 e2 e3 e4 Y1 hY1 Y2 va vc hown hg=>by
  obtain⟨hs1,hb1,_⟩:=HALL X2 e1 e2 e3 e4 Y1 hY1
  have hY:=hgrow Y1 Y2 hs1 hb1 hg
  have hYs:=hg.size
  obtain⟨V,hV⟩:∃V,V=Y2.setCell ⟨b,off+3,none⟩ (.slice va (m+1) vc):=⟨_,rfl⟩
  obtain⟨Z,hZ⟩:∃Z,Z=V.setCell ⟨eb,0,none⟩ (.int .i64 0):=⟨_,rfl⟩
  rw[←hV,←hZ]
  have hVb:∀y,y≠b→V.heap[y]? =Y2.heap[y]?:=fun y hy=>by rw[hV];exact BhsQ _ _ _ _ hy
  have hZb:∀y,y≠eb→Z.heap[y]? =V.heap[y]?:=fun y hy=>by rw[hZ];exact BhsQ _ _ _ _ hy
  have hbe:b≠eb:=by omega
  have hZc:∀j,Z.cell? ⟨b,j,none⟩=V.cell? ⟨b,j,none⟩:=fun j=>World.cell?_of_block (a:=⟨b,j,none⟩) (hZb b hbe)
  have hYc:∀j,Y2.cell? ⟨b,j,none⟩=X1.cell? ⟨b,j,none⟩:=fun j=>World.cell?_of_block (a:=⟨b,j,none⟩) (hY b hlt)
  have hco:∀j,j≠off+3→Z.cell? ⟨b,j,none⟩=X1.cell? ⟨b,j,none⟩:=fun j hj=>by
   rw[hZc,hV,World.cell?_setCell_other Y2 ⟨b,off+3,none⟩ ⟨b,j,none⟩ _ (by intro e;cases e;exact hj rfl)];exact hYc j
  have hoth:∀y,y<X.heap.size→y≠b→y≠eb→Z.heap[y]? =X1.heap[y]?:=fun y hy h1 h2=>by rw[hZb y h2,hVb y h1];exact hY y hy
  have hownZ:=zA (w':=Z) hown (fun g' cur hc hg'=>by
   have:=zi hown (g:=g') hg'
   rw[hZb g' om,hVb g' om])
  have hrowZ:=hrow.kept (w':=Z) (S':=SS) fun y hy=>⟨hy,hoth y (by have:=hSS y hy;omega) (by have:=hSS y hy;omega) (hSe y hy)⟩
  obtain⟨hli,hlc⟩:=ZY (S':=fun y=>SS y∨(y=w.heap.size∨W.heap.size≤y)) hownZ hrowZ (by rw[hlen,hm]) (fun y hy=>Or.inl hy) (fun y hy=>Or.inr (Or.inr om))
  have hs2:Z.heap.size=Y2.heap.size:=by rw[hZ,hV];simp[World.setCell]
  refine⟨rfl,by rw[hZ,hV];exact hg.os.trans (by rw[hY1];exact e2),by rw[hZ,hV];exact hg.tape.trans (by rw[hY1];exact e3),by rw[hZ,hV];exact hg.output.trans (by rw[hY1];exact e4),by omega,fun y hy h1 h2=>hoth y hy h1 h2,fun j hj=>hco j om,⟨Or.inr hbl,?_,?_,?_,va,vc,?_,?_,hli⟩,?_⟩
  · rw[hco _ om];exact k.c0
  · rw[hco _ om];exact k.c1
  · rw[hco _ om];exact k.c2
  · rw[hZc,hV,show foLen (yR u.kids i x)=m+1 by rw[hlen,hm]];exact World.cell?_setCell_same' Y2 _ _ (by rw[hYc,d3];rfl)
  · show foLen (yR u.kids i x)≤vc;rw[hlen,←hm];exact hlc
  · have:=hssQ V eb 0 _ _ (.int .i64 0) ((hVb eb (Ne.symm hbe)).trans ((hY eb om).trans heX))
    rw[hZ]
    exact this
 have HALLH:=Lib.hid HALL
 have HGR:=Lib.hid hgrow
 have HF:=Lib.hid (aN heX (aN huX (aN a0 (aN d3 k.fz))))
 have HN:=Lib.hid (aN hew (aN huw (aN haw (aN hbw (aN hlt (aN (show X.heap.size≤X1.heap.size by omega) (aN hSz hs)))))))
 have ha1:X1.heap[ab]? =some (.cells #[.int .i64 (i:Int)] 3 (0,0)):=(hold ab haw).trans ha
 have HA1:=Lib.hid ha1
 have hNE:=Lib.hid (aN hae hue)
 have HWX:=Lib.hid (show w.heap.size≤X.heap.size by omega)
 clear k hH hbl hold ha hu he heX huX hxc hxk hSe hae hue hsz hi hm hxn hSz hks hbx hbw hkS hxS hrow hlen hew huw haw hobk hobx HALL hgrow hlt hb hs hS hSS hsub ha1
 go_enter Try.func107,Try.ntmps107
 go_upto_region 1 with (go_quiet (fail))
 clear a0 d3
 rename_i nq
 obtain⟨X2,hX2⟩:∃X2,X2=X1.drewN nq:=⟨_,rfl⟩
 rw[←hX2]
 have e1:X2.heap=X1.heap:=by rw[hX2];rfl
 have e2:X2.os=X1.os:=by rw[hX2];rfl
 have e3:X2.tape=X1.tape:=by rw[hX2];rfl
 have e4:X2.output=X1.output:=by rw[hX2];rfl
 clear hX2
 obtain⟨Y1,hY1⟩:∃Y1,Y1=(X2.alloc (.cells #[.int .i64 x.id,.int .i64 x.kind,.string x.text,.slice xa xn xc] 27)).drew:=⟨_,rfl⟩
 obtain⟨hs1,hb1,hins⟩:=HALLH.out X2 e1 e2 e3 e4 Y1 hY1
 obtain⟨SW,hSW⟩:∃SW:World→Prop,SW=fun X=>X.cell? ⟨ab,0,none⟩=some (.int .i64 (i:Int))∧uf1 X ub x.id x.kind x.text xa xn xc:=⟨_,rfl⟩
 have HSW:=Lib.hid (fun (X:World) (h:SW X)=>(show X.cell? ⟨ab,0,none⟩=some (.int .i64 (i:Int))∧X.cell? ⟨ub,0,none⟩=some (.int .i64 x.id)∧X.cell? ⟨ub,1,none⟩=some (.int .i64 x.kind)∧X.cell? ⟨ub,2,none⟩=some (.string x.text)∧X.cell? ⟨ub,3,none⟩=some (.slice xa xn xc) by rw[hSW] at h;exact h))
 have hmk:∀Y:World,Y.heap[ab]? =X1.heap[ab]?→Y.heap[ub]? =X1.heap[ub]?→SW Y:=fun Y h1 h2=>by
  rw[hSW]
  obtain⟨u0,u1,u2,u3⟩:=zH (h2.trans HF.out.2.1)
  exact⟨by rw[corQ _ _ 0 _ _ _ (h1.trans HA1.out)];rfl,u0,u1,u2,u3⟩
 obtain⟨hew,huw,haw,hbw,hlt,hXX,hSz,hs⟩:=HN.out
 have hwx:=HWX.out
 have HY0:Hid (SW X2.drew∧X2.drew.cell? ⟨b,off+3,none⟩=some (.slice a m c)):=Lib.hid ⟨hmk _ (by show X2.heap[ab]? =_;rw[e1]) (by show X2.heap[ub]? =_;rw[e1]),(World.cell?_of_block (a:=⟨b,off+3,none⟩) (show X2.drew.heap[b]? =X1.heap[b]? by show X2.heap[b]? =_;rw[e1])).trans HF.out.2.2.2.1⟩
 have HY1:Hid (SW Y1∧Y1.cell? ⟨b,off+3,none⟩=some (.slice a m c)):=Lib.hid ⟨hmk _ (hb1 ab om) (hb1 ub om),(World.cell?_of_block (a:=⟨b,off+3,none⟩) (hb1 b om)).trans HF.out.2.2.2.1⟩
 have HGY:Hid (∀Y2:World,Y1.grownBy Y2 (Value.slice a m c).ownBlock→∀y,y<X.heap.size→Y2.heap[y]? =X1.heap[y]?):=Lib.hid fun Y2 hg=>HGR.out Y1 Y2 hs1 hb1 hg
 have HB3:Hid (∀Y2:World,Y1.grownBy Y2 (Value.slice a m c).ownBlock→Y2.cell? ⟨b,off+3,none⟩=some (.slice a m c)):=Lib.hid fun Y2 hg=>(World.cell?_of_block (a:=⟨b,off+3,none⟩) (HGY.out Y2 hg b hlt)).trans HF.out.2.2.2.1
 have HBF:Hid (∀Y2:World,Y1.grownBy Y2 (Value.slice a m c).ownBlock→∀j,Y2.frozen? ⟨b,j,none⟩=false):=Lib.hid fun Y2 hg j=>(World.frozen?_of_block (HGY.out Y2 hg b hlt)).trans (HF.out.2.2.2.2 j)
 have HS2:Hid (∀Y2:World,Y1.grownBy Y2 (Value.slice a m c).ownBlock→SW Y2):=Lib.hid fun Y2 hg=>hmk _ (HGY.out Y2 hg ab om) (HGY.out Y2 hg ub om)
 have HS3:Hid (∀(Y2:World) (v:Value),Y1.grownBy Y2 (Value.slice a m c).ownBlock→SW (Y2.setCell ⟨b,off+3,none⟩ v)):=Lib.hid fun Y2 v hg=>hmk _ ((BhsQ _ _ _ _ (show ab≠b by omega)).trans (HGY.out Y2 hg ab om)) ((BhsQ _ _ _ _ (show ub≠b by omega)).trans (HGY.out Y2 hg ub om))
 have HE3:Hid (∀(Y2:World) (v:Value),Y1.grownBy Y2 (Value.slice a m c).ownBlock→(Y2.setCell ⟨b,off+3,none⟩ v).heap[eb]? =some (.cells #[.int .i64 2] 41 (0,0))):=Lib.hid fun Y2 v hg=>((BhsQ _ _ _ _ (show eb≠b by omega)).trans (HGY.out Y2 hg eb om)).trans HF.out.1
 have HS4:Hid (∀(Y2:World) (v:Value),Y1.grownBy Y2 (Value.slice a m c).ownBlock→SW ((Y2.setCell ⟨b,off+3,none⟩ v).setCell ⟨eb,0,none⟩ (.int .i64 0))):=Lib.hid fun Y2 v hg=>hmk _ ((BhsQ _ _ _ _ (show ab≠eb from hNE.out.1)).trans ((BhsQ _ _ _ _ (show ab≠b by omega)).trans (HGY.out Y2 hg ab om))) ((BhsQ _ _ _ _ (show ub≠eb from hNE.out.2)).trans ((BhsQ _ _ _ _ (show ub≠b by omega)).trans (HGY.out Y2 hg ub om)))
 have hes:X2.heap.size=X1.heap.size:=by rw[e1]
 rw[←hes] at hins
 have HINS:=Lib.hid hins
 have HY:=Lib.hid hY1
 have HENDX:Hid (∀(Y2:World) (va:Option Addr) (vc:Nat),Y2.ownsRow X.heap.size 27 4 (.slice va (m+1) vc) (m+1) (xs.take (i*4)++ZK x xa xc++xs.drop (i*4))→Y1.grownBy Y2 (Value.slice a m c).ownBlock→zfs W w.heap.size (fun y=>y=eb) SS X.heap.size X1 b off ⟨u.id,u.kind,u.text,yR u.kids i x⟩ (zcr eb 0) (.returned (.tuple #[])) ((Y2.setCell ⟨b,off+3,none⟩ (.slice va (m+1) vc)).setCell ⟨eb,0,none⟩ (.int .i64 0))):=Lib.hid fun Y2 va vc h g=>HEND.out X2 e1 e2 e3 e4 Y1 hY1 Y2 va vc h g
 clear HEND HALLH HGR hs1 hb1 hins hSW hmk hew huw haw hbw hlt hXX hSz hs hwx hes hY1 e1 e2 e3 e4
 have hHeld0:=HY0.out.1
 refine wrhQ (S:=SW) kr1 hHeld0 (fun uH=>?_)
 clear hHeld0
 refine tG (i:=0) (.pointer (some ⟨b,off,none⟩)) rfl ?_
 simp only[Act.put,pg]
 refine tG (i:=1) (.pointer (some ⟨b,off,none⟩)) rfl ?_
 simp only[Act.put,pg]
 refine tG (i:=2) (.pointer (some ⟨b,off,none⟩)) rfl ?_
 simp only[Act.put,pg]
 refine tG (i:=3) (.pointer (some ⟨b,off+3,none⟩)) rfl ?_
 simp only[Act.put,pg]
 refine tJ (i:=5) (.int .i64 (i:Int)) rfl ?_ ?_
 · clear uH;intro X hSw;obtain⟨s0,s1,s2,s3,s4⟩:=HSW.out X hSw;clear hSw;go_simp
 simp only[Act.put,pg]
 refine tJ (i:=6) (.agg #[.int .i64 x.id,.int .i64 x.kind,.string x.text,.slice xa xn xc]) rfl ?_ ?_
 · clear uH;intro X hSw;obtain⟨s0,s1,s2,s3,s4⟩:=HSW.out X hSw;clear hSw;go_simp
 simp only[Act.put,pg]
 refine rd [4,7] ?_
 refine AcQ (o:=_) rfl (fun K hK=>?_) (AcQ (o:=_) rfl (fun K hK=>?_) (AnQ))
 · rw[ipQ uf0]
   simp only[pg3]
   have HK:=Lib.hid hK
   clear hK uH
   have g3:=HY0.out.2
   go_wp2_with fail
   refine HK.out _ _ HY0.out.1 (fun uH=>?_)
   clear HK g3
   refine rd [7] ?_
   refine AcQ (o:=_) rfl (fun K hK=>?_) (AnQ)
   rw[ipQ uf0]
   simp only[pg3]
   have HK:=Lib.hid hK
   clear hK uH
   go_wp2_with fail
   rw[←HY.out]
   refine HK.out _ _ HY1.out.1 (fun uH=>?_)
   clear HK
   exact sb5
 · rw[ipQ uf0]
   simp only[pg3]
   have HK:=Lib.hid hK
   clear hK uH
   go_wp2_with fail
   rw[←HY.out]
   refine HK.out _ _ HY1.out.1 (fun uH=>?_)
   clear HK
   refine rd [4] ?_
   refine AcQ (o:=_) rfl (fun K hK=>?_) (AnQ)
   rw[ipQ uf0]
   simp only[pg3]
   have HK:=Lib.hid hK
   clear hK uH
   have g3:=HY1.out.2
   go_wp2_with fail
   refine HK.out _ _ HY1.out.1 (fun uH=>?_)
   clear HK g3
   exact sb5
end Go.Proofs.Ytnikgofkldkdkaa
