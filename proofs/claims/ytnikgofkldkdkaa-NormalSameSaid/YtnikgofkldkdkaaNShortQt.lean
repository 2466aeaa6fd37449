/-
  .
-/
import Derived.Test.YtnikgofkldkdkaaNIsWQt
set_option maxRecDepth 100000
set_option maxHeartbeats 40000000
namespace Go.Proofs.Ytnikgofkldkdkaa
open Go.RowKit Go.Shelf
attribute [local go_sem] Oper.semAt_some
set_option linter.unusedVariables false
set_option linter.unusedSimpArgs false
def vX (l:List Sf):Prop:=∀(j:Nat) x y,l[j]? =some x→l[j+1]? =some y→(yC x y).2=false
structure zgZ (w0 V:World) (R:Nat) (ga:Option Addr) (gc H:Nat) (ra:Option Addr) (rc:Nat) (gone rest:List HP) (l:List Sf):Prop where
 row:Yn w0 V R ga gc H ra rc gone rest
 all:sfs gone++sfs rest=l
 no:vX (sfs gone)
 below:Below w0.heap.size w0 V
 few:∀p∈gone++rest,p.2.ts.length+(gone++rest).length≤10000
 len:(gone++rest).length≤10000
def vR (w0:World)(R:Nat)(l:List Sf)(V:World):Prop:=∃ga gc H ra rc gone rest,zgZ w0 V R ga gc H ra rc gone rest l
def zg2 (w0:World)(R:Nat)(l:List Sf)(w:World)(e:Ending)(w' :World):Prop:=e= .returned (.bool (yu l).2)∧vR w0 R (yu l).1 w'
theorem Try.zhF:(Try.prog.info? 73).map (fun i=>(i.size,i.bytes,i.zero.map (fun z=>z.cells.size)))=some (1,8,some 1):=by kernel_rfl
theorem Yt (b i:Nat):(⟨b,0,none⟩:Addr).add i=⟨b,i,none⟩:=by unfold Addr.add;split<;>simp_all
theorem zjk (L:List HP):(sfs L).length=L.length:=by simp[sfs]
theorem qL (L M:List HP):sfs (L++M)=sfs L++sfs M:=by simp[sfs]
theorem vX.snoc {l:List Sf}{a b:Sf}(h:vX (l++[a]))(hp:(yC a b).2=false):vX (l++[a]++[b]):=fun j x y hx hy=>by
 by_cases hj:j+1<(l++[a]).length
 · rw[List.getElem?_append_left om] at hx
   rw[List.getElem?_append_left hj] at hy
   exact h j x y hx hy
 · have hyl:=(List.getElem?_eq_some_iff.1 hy).1
   simp only[LlaQ,LlcQ,List.length_nil] at hj hyl
   have hj2:j=l.length:=by omega
   subst hj2
   rw[List.getElem?_append_left sp1,List.getElem?_append_right (NlrQ _),Nat.sub_self] at hx
   rw[List.getElem?_append_right sp1] at hy
   simp at hx hy
   rw[←hx,←hy];exact hp
theorem vX.one (a:Sf):vX [a]:=fun j x y _ hy=>by cases j<;>simp at hy
theorem vX.left {l:List Sf}{a:Sf}(h:vX (l++[a])):vX l:=fun j x y hx hy=>h j x y (by rw[List.getElem?_append_left (List.getElem?_eq_some_iff.1 hx).1];exact hx) (by rw[List.getElem?_append_left (List.getElem?_eq_some_iff.1 hy).1];exact hy)
theorem vX.end {l:List Sf}(h:vX l):yu l=(l,false):=YN l h
theorem zf1 {g r:List Sf}{a b:Sf}(h:vX (g++[a]))(hp:(yC a b).2=true):yu (g++[a]++b::r)=(g++(yC a b).1++r,true):=by
 have e:=zaB (g++[a]++b::r) g.length a b sp1 (by rw[List.getElem?_append_right sp1];simp) (fun j x y hj hx hy=>h j x y (by rw[List.getElem?_append_left ue6] at hx;exact hx) (by rw[List.getElem?_append_left ue6] at hy;exact hy)) hp
 rw[e]
 congr 1
 have e1:(g++[a]++b::r).take g.length=g:=by rw[List.append_assoc,List.take_left' rfl]
 have e2:(g++[a]++b::r).drop (g.length+2)=r:=by
  rw[List.append_assoc,show g.length+2=g.length+2 from rfl,List.drop_append]
  simp
 rw[e1,e2]
theorem zdv {w0 w :World}{R:Nat}{l:List Sf}(h:vR w0 R l w):Calls Try.prog 36 #[.pointer (some ⟨R,0,none⟩)] w (zg2 w0 R l w):=by
 obtain⟨ga,gc,H,ra,rc,gone,rest,hI⟩:=h
 have HI:=hH hI
 clear hI
 go_enter Try.func36,Try.ntmps36
 go_wp2_with fail
 go_loopg [] (rest.length) (fun gk wr=>∃ga gc ra rc gone rest,gk=List.length rest∧Hid (zgZ w0 wr R ga gc H ra rc gone rest l))
 case atStart=>exact⟨ga,gc,ra,rc,gone,rest,rfl,HI⟩
 case round =>
  obtain⟨ga,gc,ra,rc,gone,rest,hgk,hh⟩:=hrel
  clear HI
  obtain⟨wo,hwo⟩:∃wo,wo=wr:=⟨_,rfl⟩
  subst hwo
  have hob:=hh.out.row.obj
  cases rest with
  | nil=>
    have c1:wo.cell? ⟨R,1,none⟩=some (.slice ra 0 rc):=by rw[corQ _ _ _ _ _ _ hob];rfl
    have HE:Hid (zg2 w0 R l w (.returned (.bool false)) wo):=hH (by
     have hl:l=sfs gone:=by have:=hh.out.all;simp[sfs] at this;rw[←this];rfl
     have he:yu l=(l,false):=by rw[hl];exact hh.out.no.end
     exact⟨by rw[he],ga,gc,H,ra,rc,gone,[],by rw[he];exact hh.out⟩)
    clear hob hh hgk
    go_wp2_with fail
    go_ret
    exact HE.out
  | cons p r =>
    obtain⟨n,hn⟩:∃n,n=r.length:=⟨_,rfl⟩
    obtain⟨m,hm⟩:∃m,m=gone.length:=⟨_,rfl⟩
    rw[LlcQ,←hn,←hm] at hob
    have c0:wo.cell? ⟨R,0,none⟩=some (.slice ga m gc):=by rw[corQ _ _ _ _ _ _ hob];rfl
    have c1:wo.cell? ⟨R,1,none⟩=some (.slice ra (n+1) rc):=by rw[corQ _ _ _ _ _ _ hob];rfl
    have hm9:m≤10000∧n+1≤10000:=by have:=hh.out.len;simp at this;omega
    have hn0:(0:Int)<(n:Int)+1:=by omega
    have hmw:IntKind.i64.wrap ((m:Int) - 1)=(m:Int) - 1:=IntWalk.i64_in _ om
    have HO:=hH (aN hob (aN hn (aN hm (aN hm9 hgk))))
    clear hob hn hm hm9 hgk
    go_upto_region 4 with fail
    rename_i K2 hK2 K12 hK12 K4 hK4
    have hT:∀(u2 u3 u4 u5 u6 u7 u8 u9 u10 u11 u12 u13 u14 u15 u16 u17 u18 u19 u20 u21 u22 u23 u24 u25 u26 u27 u28 u29 u30 u31 u32 u33 u34 u35 u36 u37 u38 u39 u40 u41 u42 u43 u44 u45 u46 u47 u48 u49 u50 u51 u52 u53 u54 u55 u56 u57 u58 u59 u60 u61 u62 u63 u64 u65 u66 u67 u68 u69 u70 u71 u72 u73 u74 u75 u76 u77 u78 u79 u80 u81 u82 u83 u84 u85:Value) (V:World) (ga:Option Addr) (gc:Nat) (gone:List HP) (p:HP) (r:List HP),zgZ w0 V R ga gc H ra rc gone (p::r) l→n=r.length→vX (sfs gone++[p.2.sf])→K12 { tmps:= #[.pointer (some ⟨R,0,none⟩),undef,u2,u3,u4,u5,u6,u7,u8,u9,u10,u11,u12,u13,u14,u15,u16,u17,u18,u19,u20,u21,u22,u23,u24,u25,u26,u27,u28,u29,u30,u31,u32,u33,u34,u35,u36,u37,u38,u39,u40,u41,u42,u43,u44,u45,u46,u47,u48,u49,u50,u51,u52,u53,u54,u55,u56,u57,u58,u59,u60,u61,u62,u63,u64,u65,u66,u67,u68,u69,u70,u71,u72,u73,u74,u75,u76,u77,u78,u79,u80,u81,u82,u83,u84,u85],defers:=[] } V:=by
     clear hK4 hmw c0 c1 hn0
     intro u2 u3 u4 u5 u6 u7 u8 u9 u10 u11 u12 u13 u14 u15 u16 u17 u18 u19 u20 u21 u22 u23 u24 u25 u26 u27 u28 u29 u30 u31 u32 u33 u34 u35 u36 u37 u38 u39 u40 u41 u42 u43 u44 u45 u46 u47 u48 u49 u50 u51 u52 u53 u54 u55 u56 u57 u58 u59 u60 u61 u62 u63 u64 u65 u66 u67 u68 u69 u70 u71 u72 u73 u74 u75 u76 u77 u78 u79 u80 u81 u82 u83 u84 u85 V ga gc gone p r hI hn hno
     refine hK12 _ _ ?_
     clear hK12
     obtain⟨m,hm⟩:∃m,m=gone.length:=⟨_,rfl⟩
     have hob:=hI.row.obj
     rw[LlcQ,←hn,←hm] at hob
     obtain⟨o,ho,hpc⟩:=hI.row.hrow 0 p rfl
     subst ho
     rw[Nat.add_zero] at hpc
     have hcap:=hI.row.qj
     rw[LlcQ,←hn] at hcap
     obtain⟨cs,hcs⟩:=hI.row.hblk
     have hRH:R≠H:=zD hob hcs ue9
     have hRl:=lohQ hob
     have hHl:=lohQ hcs
     have hm9:m≤10000:=by have:=hI.len;rw[LlaQ] at this;omega
     obtain⟨U,hU⟩:∃U,U=(V.alloc (.cells #[.pointer (some ⟨p.1,0,none⟩)] 73)).drew:=⟨_,rfl⟩
     have hUk:∀q,q<V.heap.size→U.heap[q]? =V.heap[q]?:=fun q hq=>by rw[hU];exact BhaQ _ _ _ hq
     have hUs:U.heap.size=V.heap.size+1:=by rw[hU];show (V.alloc _).heap.size=_;simp
     have hUn:U.heap[V.heap.size]? =some (.cells #[.pointer (some ⟨p.1,0,none⟩)] 73 (0,0)):=by rw[hU];exact hanQ _ _
     have hUb:Below V.heap.size V U:=by rw[hU];have h:=(BrQ V.heap.size V).alloc (NlrQ _) (.cells #[.pointer (some ⟨p.1,0,none⟩)] 73);exact⟨h.os,h.tape,h.output,h.size,h.block⟩
     obtain⟨i0,z0,hi0,hz0,hz1,hz2,hz3⟩:=zW Try.zhF
     have hgr0:=hI.row.grow
     rw[←hm] at hgr0
     have h2U:=zA (w':=U) hgr0 (fun q cur hq _=>hUk q (lohQ hq))
     have hBs:=hI.below.size
     obtain⟨g,cap,W,hrun,hown,hgr,hat,hlt9⟩:=run_append_lies (P:=Try.prog) U 71 71 w0.heap.size 73 i0 z0 1 8 Try.underlying71 hi0 hz0 hz1 hz2 hz3 om (.slice ga m gc) m _ h2U ⟨V.heap.size,0,none⟩ 1 1 [.pointer (some ⟨p.1,0,none⟩)] rfl (fun i u hu=>by
      rw[Yt,corQ _ _ _ _ _ _ hUn]
      simpa using hu) (fun u hu=>by rw[List.mem_singleton] at hu;rw[hu];rfl) om ue1 om om U.heap.size rfl
     obtain⟨V2,hV2⟩:∃V2,V2=W.setCell ⟨R,0,none⟩ (.slice (some ⟨g,0,none⟩) (m+1) cap):=⟨_,rfl⟩
     have hsh:=fun ra' W9 (h1:0<r.length→ra'=some ⟨H,o+1,none⟩) (hW9:W9=V2.setCell ⟨R,1,none⟩ (.slice ra' n (rc - 1)))=>hI.row.shift (ra':=ra') (U:=U) (V1:=W) (V2:=V2) (W:=W9) (g:=g) (cap:=cap) (n:=n) (m:=m) rfl h1 hn hm hUb hown hgr (hat.imp id (fun h=>by omega)) hV2 hW9
     have hobW:W.heap[R]? =V.heap[R]?:=(hsh (some ⟨H,o+1,none⟩) _ (fun _=>rfl) rfl).2
     have hnx:∀ra' W9,(0<r.length→ra'=some ⟨H,o+1,none⟩)→W9=V2.setCell ⟨R,1,none⟩ (.slice ra' n (rc - 1))→Hid (zgZ w0 W9 R (some ⟨g,0,none⟩) cap H ra' (rc - 1) (gone++[p]) r l):=fun ra' W9 h1 hW9=>hH (by
      have hrow:=(hsh ra' W9 h1 hW9).1
      have e:gone++[p]++r=gone++p::r:=by simp
      refine⟨hrow,?_,by rw[qL];exact hno,?_,by rw[e];exact hI.few,by rw[e];exact hI.len⟩
      · have:=hI.all
        rw[←this,qL]
        simp[sfs]
      · have hlo:=hI.row.lo
        have hgs:=hgr.size
        rw[hW9,hV2]
        refine⟨hgr.os.trans (hUb.os.trans hI.below.os),hgr.tape.trans (hUb.tape.trans hI.below.tape),hgr.output.trans (hUb.output.trans hI.below.output),by simp[World.setCell];omega,fun q hq=>?_⟩
        rw[BhsQ _ _ _ _ (show q≠R by omega),BhsQ _ _ _ _ (show q≠R by omega)]
        exact (hgr.block q om (fun e=>by have:=(zi hgr0 e.symm).1;omega)).trans ((hUk q om).trans (hI.below.block q hq)))
     obtain⟨SW,hSW⟩:∃SW:World→Prop,SW=fun Z=>Z.cell? ⟨R,1,none⟩=some (.slice (some ⟨H,o,none⟩) (n+1) rc)∧Z.cell? ⟨H,o,none⟩=some (.pointer (some ⟨p.1,0,none⟩)):=⟨_,rfl⟩
     have HSW:=hH (fun (Z:World) (h:SW Z)=>(show Z.cell? ⟨R,1,none⟩=some (.slice (some ⟨H,o,none⟩) (n+1) rc)∧Z.cell? ⟨H,o,none⟩=some (.pointer (some ⟨p.1,0,none⟩)) by rw[hSW] at h;exact h))
     have hWH:W.heap[H]? =V.heap[H]?:=(hgr.block H om (fun e=>hI.row.gH (by rw[←hm];exact e.symm))).trans (hUk H hHl)
     have c1V:V.cell? ⟨R,1,none⟩=some (.slice (some ⟨H,o,none⟩) (n+1) rc):=by rw[corQ _ _ _ _ _ _ hob];rfl
     have hS0:SW V.drew:=by rw[hSW];exact⟨c1V,hpc⟩
     have hSU:SW U:=by rw[hSW];exact⟨(World.cell?_of_block (a:=⟨R,1,none⟩) (hUk R hRl)).trans c1V,(World.cell?_of_block (a:=⟨H,o,none⟩) (hUk H hHl)).trans hpc⟩
     have hSWW:SW W:=by rw[hSW];exact⟨(World.cell?_of_block (a:=⟨R,1,none⟩) hobW).trans c1V,(World.cell?_of_block (a:=⟨H,o,none⟩) hWH).trans hpc⟩
     have hS2:SW V2:=by
      rw[hSW,hV2]
      refine⟨(World.cell?_setCell_other _ _ _ _ (fun e=>by have:=congrArg Addr.off e;simp at this)).trans ((World.cell?_of_block (a:=⟨R,1,none⟩) hobW).trans c1V),(World.cell?_setCell_other _ _ _ _ (fun e=>by have:=congrArg Addr.block e;exact hRH this)).trans ((World.cell?_of_block (a:=⟨H,o,none⟩) hWH).trans hpc)⟩
     have c0:V.drew.cell? ⟨R,0,none⟩=some (.slice ga m gc):=by show V.cell? _=_;rw[corQ _ _ _ _ _ _ hob];rfl
     have cU:U.cell? ⟨R,0,none⟩=some (.slice ga m gc):=by rw[corQ _ _ _ _ _ _ ((hUk R hRl).trans hob)];rfl
     have b7:W.cell? ⟨R,0,none⟩=some (.slice ga m gc):=by rw[corQ _ _ _ _ _ _ (hobW.trans hob)];rfl
     have f7:W.frozen? ⟨R,0,none⟩=false:=forQ _ _ _ _ _ (hobW.trans hob)
     have d1:V2.cell? ⟨R,1,none⟩=some (.slice (some ⟨H,o,none⟩) (n+1) rc):=(by rw[hSW] at hS2;exact hS2.1)
     have d7:V2.frozen? ⟨R,1,none⟩=false:=by
      have h8:=hssQ W R 0 _ _ (.slice (some ⟨g,0,none⟩) (m+1) cap) (hobW.trans hob)
      rw[←hV2] at h8
      exact forQ _ _ _ _ _ h8
     have HSQ:=hH (aN hS0 (aN hSU (aN hSWW hS2)))
     have HWC:=hH (aN c0 cU)
     have HB7:=hH (aN b7 f7)
     have HD7:=hH (aN d1 d7)
     have HRUN:=hH hrun
     have HU:=hH hU
     have HV2:=hH hV2
     have HNX:=hH (aN hnx (aN hn hcap))
     clear hnx hsh hobW hSW hWH c1V hS0 hSU hSWW hS2 c0 cU b7 f7 d1 d7 hrun hU hV2 hown hgr hat hlt9 h2U hgr0 hi0 hz0 hz1 hz2 hz3 hUk hUs hUn hUb hRl hHl hm9 hcs hpc hob hI hno hm hn hBs
     refine jv ?_
     refine wrhQ (S:=SW) kr1 HSQ.out.1 (fun uH=>?_)
     refine wpAnyH_take (i:=0) (oi:=_) (v:= .pointer (some ⟨R,0,none⟩)) rfl kr1 kr1 kr1 (fun _ _ _ h=>by cases h.1) (Or.inl ⟨by rfl,?_⟩) ue7 ?_
     · exact ub3
     simp only[Act.put,pg]
     refine wpAnyH_take (i:=1) (oi:=_) (v:= .pointer (some ⟨R,0,none⟩)) rfl kr1 kr1 kr1 (fun _ _ _ h=>by cases h.1) (Or.inl ⟨by rfl,?_⟩) ue7 ?_
     · exact ub3
     simp only[Act.put,pg]
     refine wpAnyH_take (i:=2) (oi:=_) (v:= .pointer (some ⟨R,0,none⟩)) rfl kr1 kr1 kr1 (fun _ _ _ h=>by cases h.1) (Or.inl ⟨by rfl,?_⟩) ue7 ?_
     · exact ub3
     simp only[Act.put,pg]
     refine wpAnyH_take (i:=3) (oi:=_) (v:= .pointer (some ⟨R,0,none⟩)) rfl kr1 kr1 kr1 (fun _ _ _ h=>by cases h.1) (Or.inl ⟨by rfl,?_⟩) ue7 ?_
     · exact ub3
     simp only[Act.put,pg]
     refine wpAnyH_take (i:=5) (oi:=_) (v:= .pointer (some ⟨R,0,none⟩)) rfl kr1 kr1 kr1 (fun _ _ _ h=>by cases h.1) (Or.inl ⟨by rfl,?_⟩) ue7 ?_
     · exact ub3
     simp only[Act.put,pg]
     refine wpAnyH_take (i:=6) (oi:=_) (v:= .pointer (some ⟨R,0,none⟩)) rfl kr1 kr1 kr1 (fun _ _ _ h=>by cases h.1) (Or.inl ⟨by rfl,?_⟩) ue7 ?_
     · exact ub3
     simp only[Act.put,pg]
     refine wpAnyH_take (i:=7) (oi:=_) (v:= .pointer (some ⟨R,1,none⟩)) rfl kr1 kr1 kr1 (fun _ _ _ h=>by cases h.1) (Or.inl ⟨by rfl,?_⟩) ue7 ?_
     · exact ub3
     simp only[Act.put,pg]
     refine wpAnyH_take (i:=8) (oi:=_) (v:= .slice (some ⟨H,o,none⟩) (n+1) rc) rfl kr1 kr1 kr1 (fun _ _ _ h=>by cases h.1) (Or.inl ⟨by rfl,?_⟩) ue7 ?_
     · exact ub3
     simp only[Act.put,pg]
     refine wpAnyH_take (i:=9) (oi:=_) (v:= .pointer (some ⟨H,o,none⟩)) rfl kr1 kr1 kr1 (fun _ _ _ h=>by cases h.1) (Or.inl ⟨by rfl,?_⟩) ue7 ?_
     · exact ub3
     simp only[Act.put,pg]
     refine wpAnyH_take (i:=10) (oi:=_) (v:= .pointer (some ⟨p.1,0,none⟩)) rfl kr1 kr1 kr1 (fun _ _ _ h=>by cases h.1) (Or.inl ⟨by rfl,?_⟩) ue7 ?_
     · exact ub3
     simp only[Act.put,pg]
     refine rd [4,11] ?_
     refine AcQ (o:=_) rfl (fun K hK=>?_) (AcQ (o:=_) rfl (fun K hK=>?_) (AnQ))
     · skip
       rw[ipQ uf0]
       simp only[pg3]
       have HK:=hH hK
       clear hK uH
       have l0:=HWC.out.1
       go_wp2_with fail
       refine HK.out _ _ HSQ.out.1 (fun uH=>?_)
       clear HK l0
       refine rd [11] ?_
       refine AcQ (o:=_) rfl (fun K hK=>?_) (AnQ)
       rw[ipQ uf0]
       simp only[pg3]
       have HK:=hH hK
       clear hK uH
       go_wp2_with fail
       rw[←HU.out]
       refine HK.out _ _ HSQ.out.2.1 (fun uH=>?_)
       clear HK
       exact sb1
     · skip
       rw[ipQ uf0]
       simp only[pg3]
       have HK:=hH hK
       clear hK uH
       go_wp2_with fail
       rw[←HU.out]
       refine HK.out _ _ HSQ.out.2.1 (fun uH=>?_)
       clear HK
       refine rd [4] ?_
       refine AcQ (o:=_) rfl (fun K hK=>?_) (AnQ)
       rw[ipQ uf0]
       simp only[pg3]
       have HK:=hH hK
       clear hK uH
       have l0:=HWC.out.2
       go_wp2_with fail
       refine HK.out _ _ HSQ.out.2.1 (fun uH=>?_)
       clear HK l0
       exact sb1
    clear hK12
    have HT:=hH hT
    clear hT
    by_cases hm0:m=0
    · have hg:gone= []:=List.eq_nil_of_length_eq_zero (by rw[←HO.out.2.2.1];exact hm0)
      have hmm:¬(0:Int)≤(m:Int) - 1:=by omega
      have HG:Hid (vX (sfs gone++[p.2.sf])):=hH (by rw[hg];exact vX.one _)
      clear hg hm0
      go_wp2_with fail
      exact HT.out _ _ _ _ _ _ _ _ _ _ _ _ _ _ _ _ _ _ _ _ _ _ _ _ _ _ _ _ _ _ _ _ _ _ _ _ _ _ _ _ _ _ _ _ _ _ _ _ _ _ _ _ _ _ _ _ _ _ _ _ _ _ _ _ _ _ _ _ _ _ _ _ _ _ _ _ _ _ _ _ _ _ _ _ wo ga gc gone p r hh.out HO.out.2.1 HG.out
    · obtain ⟨g0, pA,hg⟩:∃g0 pA,gone=g0++[pA]:=⟨gone.dropLast,gone.getLast (fun e=>hm0 (by rw[HO.out.2.2.1,e];rfl)),(List.dropLast_concat_getLast _).symm⟩
      subst hg
      obtain⟨A,ha⟩:=pA
      obtain⟨B,hb⟩:=p
      obtain⟨q,hq⟩:∃q,q=g0.length:=⟨_,rfl⟩
      have hmq:m=q+1:=by rw[HO.out.2.2.1,hq];simp
      have hmqi:(m:Int) - 1=(q:Int):=by omega
      have hq0:(0:Int)≤(q:Int):=by omega
      have hqm:(q:Int)<(m:Int):=by omega
      have hI:=hh.out
      have hgr:=hI.row.grow
      rw[←HO.out.2.2.1] at hgr
      obtain⟨G,gc2,e,hG0,hGl⟩:=hgr.form om
      cases e
      obtain⟨o,ho,hpB⟩:=hI.row.hrow 0 (B,hb) rfl
      subst ho
      rw[Nat.add_zero] at hpB
      have hpA:wo.cell? ⟨G,q,none⟩=some (.pointer (some ⟨A,0,none⟩)):=zC hgr rfl q _ (by simp[ptrs,hq,yJ])
      obtain⟨cs,hcs⟩:=hI.row.hblk
      have hob:=hI.row.obj
      have hRH:R≠H:=zD hob hcs ue9
      have hGc:∃cur,wo.heap[G]? =some (.cells cur 73 (0,0)):=yU hgr rfl
      obtain⟨cur,hcur⟩:=hGc
      have hrow:=hI.row.held
      have hapl:HP.apart (A,ha) (B,hb):=by
       have h1:=hrow.apart
       rw[List.append_assoc] at h1
       exact (List.pairwise_cons.1 (List.pairwise_append.1 h1).2.1).1 _ (List.mem_cons_self ..)
      have hmA:((A,ha):HP)∈g0++[(A,ha)]++(B,hb)::r:=by simp
      have hmB:((B,hb):HP)∈g0++[(A,ha)]++(B,hb)::r:=by simp
      have hbd:Below w0.heap.size w0 wo.drew:=⟨hI.below.os,hI.below.tape,hI.below.output,hI.below.size,hI.below.block⟩
      have hput:=zdh (w0:=w0) (V:=wo.drew) (A:=A) (B:=B) (ha:=ha) (hb:=hb) ⟨(hrow.held _ hmA).kept fun _ _=>rfl,(hrow.held _ hmB).kept fun _ _=>rfl,hbd,(hrow.ok _ hmA).1,(hrow.ok _ hmB).2,hapl⟩
      have hAn:∀x cs T fr,wo.heap[x]? =some (.cells cs T fr)→T≠99→T≠49→¬ha.own A x:=fun x cs T fr h1 h2 h3=>(hrow.held _ hmA).jI h1 h2 h3
      obtain⟨SW,hSW⟩:∃SW:World→Prop,SW=fun Z=>Z.cell? ⟨R,0,none⟩=some (.slice (some ⟨G,0,none⟩) m gc)∧Z.cell? ⟨R,1,none⟩=some (.slice (some ⟨H,o,none⟩) (n+1) rc)∧Z.cell? ⟨G,q,none⟩=some (.pointer (some ⟨A,0,none⟩))∧Z.cell? ⟨H,o,none⟩=some (.pointer (some ⟨B,0,none⟩)):=⟨_,rfl⟩
      have HSW:=hH (fun (Z:World) (h:SW Z)=>(show Z.cell? ⟨R,0,none⟩=some (.slice (some ⟨G,0,none⟩) m gc)∧Z.cell? ⟨R,1,none⟩=some (.slice (some ⟨H,o,none⟩) (n+1) rc)∧Z.cell? ⟨G,q,none⟩=some (.pointer (some ⟨A,0,none⟩))∧Z.cell? ⟨H,o,none⟩=some (.pointer (some ⟨B,0,none⟩)) by rw[hSW] at h;exact h))
      have hS0:SW wo.drew:=by rw[hSW];exact⟨c0,c1,hpA,hpB⟩
      have hSt:∀Z ha',qM w0 A ha ha' wo.drew Z→SW Z∧(Z.frozen? ⟨R,0,none⟩=false∧Z.frozen? ⟨R,1,none⟩=false∧Z.frozen? ⟨H,o,none⟩=false)∧Below w0.heap.size w0 Z:=fun Z ha' ht=>by
       have eR:Z.heap[R]? =wo.heap[R]?:=ht.turned.block _ (lohQ hob) (hAn _ _ _ _ hob ue9 ue9)
       have eH:Z.heap[H]? =wo.heap[H]?:=ht.turned.block _ (lohQ hcs) (hAn _ _ _ _ hcs ue9 ue9)
       have eG:Z.heap[G]? =wo.heap[G]?:=ht.turned.block _ hGl (hAn _ _ _ _ hcur ue9 ue9)
       rw[hSW]
       refine⟨⟨(World.cell?_of_block (a:=⟨R,0,none⟩) eR).trans c0,(World.cell?_of_block (a:=⟨R,1,none⟩) eR).trans c1,(World.cell?_of_block (a:=⟨G,q,none⟩) eG).trans hpA,(World.cell?_of_block (a:=⟨H,o,none⟩) eH).trans hpB⟩,⟨forQ _ _ _ _ _ (eR.trans hob),forQ _ _ _ _ _ (eR.trans hob),forQ _ _ _ _ _ (eH.trans hcs)⟩,?_⟩
       refine⟨ht.turned.os.trans hbd.os,ht.turned.tape.trans hbd.tape,ht.turned.output.trans hbd.output,NltQ hbd.size ht.turned.size,fun x hx=>(ht.turned.block x (by have:=hbd.size;omega) (fun e=>?_)).trans (hbd.block x hx)⟩
       have:=((hrow.held _ hmA).lt x e).1
       omega
      have hqc:q+1≤gc:=by
       rcases hgr.2 with ⟨hv,_⟩ | ⟨_,_,_,hv,_,_,h3,_⟩
       · cases hv
       · cases hv;omega
      have HPUT:=hH (aN hput (aN hSt (aN hmq (aN hq hI.row.qj))))
      simp only[yJ] at HPUT
      rw[hmqi]
      have HS0:=hH hS0
      clear hput hSt hS0 hAn hbd hmA hmB hapl hrow hcur hob hcs hpA hpB hgr hI hG0 hGl c0 c1 hm0 hmq hmw hq
      clear hSW
      go_upto_region 5 with fail
      refine jv ?_
      refine wrhQ (S:=SW) kr1 HS0.out (fun uH=>?_)
      refine wpAnyH_take (i:=0) (oi:=_) (v:= .pointer (some ⟨R,0,none⟩)) rfl kr1 kr1 kr1 (fun _ _ _ h=>by cases h.1) (Or.inl ⟨by rfl,?_⟩) ue7 ?_
      · exact ub6
      simp only[Act.put,pg]
      refine wpAnyH_take (i:=1) (oi:=_) (v:= .pointer (some ⟨R,0,none⟩)) rfl kr1 kr1 kr1 (fun _ _ _ h=>by cases h.1) (Or.inl ⟨by rfl,?_⟩) ue7 ?_
      · exact ub6
      simp only[Act.put,pg]
      refine wpAnyH_take (i:=2) (oi:=_) (v:= .pointer (some ⟨R,0,none⟩)) rfl kr1 kr1 kr1 (fun _ _ _ h=>by cases h.1) (Or.inl ⟨by rfl,?_⟩) ue7 ?_
      · exact ub6
      simp only[Act.put,pg]
      refine wpAnyH_take (i:=3) (oi:=_) (v:= .slice (some ⟨G,0,none⟩) m gc) rfl kr1 kr1 kr1 (fun _ _ _ h=>by cases h.1) (Or.inl ⟨by rfl,?_⟩) ue7 ?_
      · exact ub6
      simp only[Act.put,pg]
      refine wpAnyH_take (i:=4) (oi:=_) (v:= .int .i64 (q:Int)) rfl kr1 kr1 kr1 (fun _ _ _ h=>by cases h.1) (Or.inl ⟨by rfl,?_⟩) ue7 ?_
      · exact ub6
      simp only[Act.put,pg]
      refine wpAnyH_take (i:=5) (oi:=_) (v:= .pointer (some ⟨G,q,none⟩)) rfl kr1 kr1 kr1 (fun _ _ _ h=>by cases h.1) (Or.inl ⟨by rfl,?_⟩) ue7 ?_
      · exact ub6
      simp only[Act.put,pg]
      refine wpAnyH_take (i:=6) (oi:=_) (v:= .pointer (some ⟨A,0,none⟩)) rfl kr1 kr1 kr1 (fun _ _ _ h=>by cases h.1) (Or.inl ⟨by rfl,?_⟩) ue7 ?_
      · exact ub6
      simp only[Act.put,pg]
      refine wpAnyH_take (i:=7) (oi:=_) (v:= .pointer (some ⟨R,0,none⟩)) rfl kr1 kr1 kr1 (fun _ _ _ h=>by cases h.1) (Or.inl ⟨by rfl,?_⟩) ue7 ?_
      · exact ub6
      simp only[Act.put,pg]
      refine wpAnyH_take (i:=8) (oi:=_) (v:= .pointer (some ⟨R,0,none⟩)) rfl kr1 kr1 kr1 (fun _ _ _ h=>by cases h.1) (Or.inl ⟨by rfl,?_⟩) ue7 ?_
      · exact ub6
      simp only[Act.put,pg]
      refine wpAnyH_take (i:=9) (oi:=_) (v:= .pointer (some ⟨R,1,none⟩)) rfl kr1 kr1 kr1 (fun _ _ _ h=>by cases h.1) (Or.inl ⟨by rfl,?_⟩) ue7 ?_
      · exact ub6
      simp only[Act.put,pg]
      refine wpAnyH_take (i:=10) (oi:=_) (v:= .slice (some ⟨H,o,none⟩) (n+1) rc) rfl kr1 kr1 kr1 (fun _ _ _ h=>by cases h.1) (Or.inl ⟨by rfl,?_⟩) ue7 ?_
      · exact ub6
      simp only[Act.put,pg]
      refine wpAnyH_take (i:=11) (oi:=_) (v:= .pointer (some ⟨H,o,none⟩)) rfl kr1 kr1 kr1 (fun _ _ _ h=>by cases h.1) (Or.inl ⟨by rfl,?_⟩) ue7 ?_
      · exact ub6
      simp only[Act.put,pg]
      refine wpAnyH_take (i:=12) (oi:=_) (v:= .pointer (some ⟨B,0,none⟩)) rfl kr1 kr1 kr1 (fun _ _ _ h=>by cases h.1) (Or.inl ⟨by rfl,?_⟩) ue7 ?_
      · exact ub6
      simp only[Act.put,pg]
      refine rd [13] ?_
      refine AcQ (o:=_) rfl (fun K hK=>?_) (AnQ)
      rw[ipQ uf0]
      simp only[pg3]
      have HK:=hH hK
      clear hK uH
      go_wp2_with fail
      refine HPUT.out.1.mono ?_
      rintro e W ⟨ha',ht,hcase⟩
      obtain⟨hSZ,hfz,hbZ⟩:=HPUT.out.2.1 W ha' ht
      have hcs:∃v,e= .returned (.tuple #[v,.bool (yC ha.sf hb.sf).2]):=by
       rcases hcase with ⟨mm,h1,h2,h3⟩ | ⟨mm,h1,h2,h3⟩ | ⟨mm,h1,h2,h3⟩ | ⟨mm,ta,tc,h1,h2,h3,_⟩
       · exact⟨_,by rw[h2,h3]⟩
       · exact⟨_,by rw[h2,h3]⟩
       · exact⟨_,by rw[h2,h3]⟩
       · exact⟨_,by rw[h2,h3]⟩
      obtain⟨v,rfl⟩:=hcs
      obtain⟨b,hbb⟩:∃b,b=(yC ha.sf hb.sf).2:=⟨_,rfl⟩
      rw[←hbb] at hcase ⊢
      have HZ:=hH (aN ht (aN hcase (aN hbb (aN hfz (aN hbZ hSZ)))))
      clear ht hcase hbb hfz hbZ
      refine HK.out _ _ hSZ (fun uH=>?_)
      clear HK hSZ
      refine wpAnyH_take (i:=14) (oi:=_) (v:= .tuple #[v,.bool b]) rfl kr1 kr1 kr1 (fun _ _ _ h=>by cases h.1) (Or.inl ⟨by rfl,?_⟩) ue7 ?_
      · clear uH;intro X hSw;clear hSw;go_simp
      simp only[Act.put,pg]
      refine wpAnyH_take (i:=15) (oi:=_) (v:=v) rfl kr1 kr1 kr1 (fun _ _ _ h=>by cases h.1) (Or.inl ⟨by rfl,?_⟩) ue7 ?_
      · clear uH;intro X hSw;clear hSw;go_simp
      simp only[Act.put,pg]
      refine wpAnyH_take (i:=16) (oi:=_) (v:= .bool b) rfl kr1 kr1 kr1 (fun _ _ _ h=>by cases h.1) (Or.inl ⟨by rfl,?_⟩) ue7 ?_
      · clear uH;intro X hSw;clear hSw;go_simp
      simp only[Act.put,pg]
      refine wpAnyH_take (i:=17) (oi:=_) (v:=v) rfl kr1 kr1 kr1 (fun _ _ _ h=>by cases h.1) (Or.inl ⟨by rfl,?_⟩) ue7 ?_
      · clear uH;intro X hSw;clear hSw;go_simp
      simp only[Act.put,pg]
      refine wpAnyH_take (i:=18) (oi:=_) (v:= .bool b) rfl kr1 kr1 kr1 (fun _ _ _ h=>by cases h.1) (Or.inl ⟨by rfl,?_⟩) ue7 ?_
      · clear uH;intro X hSw;clear hSw;go_simp
      simp only[Act.put,pg]
      refine wpAnyH_done kr1 ?_ _
      refine⟨rfl,?_⟩
      clear uH
      have hqs:=HZ.out.2.2.2.2.2
      obtain⟨c0,c1,cG,cH⟩:=HSW.out W hqs
      obtain⟨f0,f1,fH⟩:=HZ.out.2.2.2.1
      clear hqs cG
      cases b with
      | false=>
        obtain⟨mm,rfl⟩:∃mm,ha'=ha.yg mm:=by
         rcases HZ.out.2.1 with ⟨mm,h1,h2,h3⟩ | ⟨mm,h1,h2,h3⟩ | ⟨mm,h1,h2,h3⟩ | ⟨mm,ta,tc,h1,h2,h3,_⟩
         · exact⟨mm,h1⟩
         · simp at h2
         · simp at h2
         · simp at h2
        have hI:=hh.out
        have hI2:Hid (zgZ w0 W R (some ⟨G,0,none⟩) gc H (some ⟨H,o,none⟩) rc (g0++[(A,ha.yg mm)]) ((B,hb)::r) l):=hH (by
         have hoA:=(hI.row.held.ok (A,ha) sp1).1
         have hrw:=hI.row.turn (P:=g0) (Q:=(B,hb)::r) (A:=A) (ha:=ha) (ha':=ha.yg mm) (gone':=g0++[(A,ha.yg mm)]) (rest':=(B,hb)::r) sp1 sp1 sp1 rfl HZ.out.1.zaY (Qr hoA mm)
         have es:sfs (g0++[(A,ha.yg mm)])=sfs (g0++[(A,ha)]):=by rw[qL,qL];rfl
         refine⟨hrw,by rw[es];exact hI.all,by rw[es];exact hI.no,HZ.out.2.2.2.2.1,fun p hp=>?_,by have:=hI.len;simpa using this⟩
         have hfew:=hI.few
         rw[List.append_assoc] at hp hfew ⊢
         have hl:(g0++([(A,ha.yg mm)]++(B,hb)::r)).length=(g0++([(A,ha)]++(B,hb)::r)).length:=by simp only[LlaQ,LlcQ,List.length_nil]
         rw[hl]
         rcases List.mem_append.1 hp with h1 | h1
         · exact hfew p (List.mem_append_left _ h1)
         · rcases List.mem_cons.1 h1 with rfl | h1
           · exact hfew (A,ha) (List.mem_append_right _ (List.mem_cons_self ..))
           · exact hfew p (List.mem_append_right _ (List.mem_cons_of_mem _ h1)))
        have hno2:Hid (vX (sfs (g0++[(A,ha.yg mm)])++[hb.sf])):=hH (by
         have es:sfs (g0++[(A,ha.yg mm)])=sfs g0++[ha.sf]:=by rw[qL];rfl
         have hno:=hI.no
         rw[qL] at hno
         rw[es]
         exact vX.snoc (by exact hno) HZ.out.2.2.1.symm)
        clear hI c0 c1 f0 f1 fH cH
        go_wp2_with fail
        exact HT.out _ _ _ _ _ _ _ _ _ _ _ _ _ _ _ _ _ _ _ _ _ _ _ _ _ _ _ _ _ _ _ _ _ _ _ _ _ _ _ _ _ _ _ _ _ _ _ _ _ _ _ _ _ _ _ _ _ _ _ _ _ _ _ _ _ _ _ _ _ _ _ _ _ _ _ _ _ _ _ _ _ _ _ _ W _ _ _ (B,hb) r hI2.out HO.out.2.1 hno2.out
      | true =>
        have hI:=hh.out
        have hno:vX (sfs g0++[ha.sf]):=by have:=hI.no;rw[qL] at this;exact this
        have hpt:(yC ha.sf hb.sf).2=true:=HZ.out.2.2.1.symm
        have hln:l=sfs g0++[ha.sf]++hb.sf::sfs r:=by rw[←hI.all,qL];rfl
        have honce:yu l=(sfs g0++(yC ha.sf hb.sf).1++sfs r,true):=by rw[hln];exact zf1 hno hpt
        have hfew:=hI.few
        have hlen:=hI.len
        have hcap:=hI.row.qj
        have hoA:=(hI.row.held.ok (A,ha) sp1).1
        have hwB:=(hI.row.held.ok (B,hb) sp1).2
        have hnr:=HO.out.2.1
        have hlo:=hI.row.lo
        have hRl:=lohQ hI.row.obj
        obtain⟨cs2,hcs2⟩:=hI.row.hblk
        have hHl:=lohQ hcs2
        have hb2:∀Y:World,(∀x,x≠R→x≠H→Y.heap[x]? =W.heap[x]?)→Y.os=W.os∧Y.tape=W.tape∧Y.output=W.output∧Y.heap.size=W.heap.size→Below w0.heap.size w0 Y:=fun Y h1 h2=>by
         have hbZ:=HZ.out.2.2.2.2.1
         exact⟨h2.1.trans hbZ.os,h2.2.1.trans hbZ.tape,h2.2.2.1.trans hbZ.output,by rw[h2.2.2.2];exact hbZ.size,fun x hx=>(h1 x om om).trans (hbZ.block x hx)⟩
        rw[List.append_assoc] at hfew hlen
        simp only[LlaQ,LlcQ,List.length_nil] at hfew hlen
        rcases HZ.out.2.1 with ⟨mm,h1,h2,h3⟩ | ⟨mm,rfl,h2,h3⟩ | ⟨mm,rfl,h2,h3⟩ | ⟨mm,ta,tc,rfl,h2,h3,h4⟩
        · simp at h2
        · have hv:v= .pointer none:=by simpa using h2
          subst hv
          have hrw:=hI.row.turn (P:=g0) (Q:=(B,hb)::r) (A:=A) (ha:=ha) (ha':=ha.yg mm) (gone':=g0++[(A,ha.yg mm)]) (rest':=(B,hb)::r) sp1 sp1 sp1 rfl HZ.out.1.zaY (Qr hoA mm)
          obtain⟨W1,hW1⟩:∃W1,W1=W.setCell ⟨R,0,none⟩ (.slice (some ⟨G,0,none⟩) q gc):=⟨_,rfl⟩
          have hcut:=hrw.cut HPUT.out.2.2.2.1 hW1
          obtain⟨W2,hW2⟩:∃W2,W2=W1.setCell ⟨H,o,none⟩ (.pointer none):=⟨_,rfl⟩
          have hend:∀ra',(0<r.length→ra'=some ⟨H,o+1,none⟩)→Hid (zg2 w0 R l w (.returned (.bool true)) (W2.setCell ⟨R,1,none⟩ (.slice ra' n (rc - 1)))):=fun ra' hra=>hH (by
           have hsk:=hcut.skip rfl hra hnr (Or.inr hW2) rfl
           refine⟨by rw[honce],_,_,_,_,_,g0,r,hsk,by rw[honce,h3];simp,hno.left,hb2 _ (fun x hx1 hx2=>?_) ⟨by rw[hW2,hW1];rfl,by rw[hW2,hW1];rfl,by rw[hW2,hW1];rfl,by rw[hW2,hW1];simp[World.setCell]⟩,fun p hp=>?_,by simp only[LlaQ];omega⟩
           · rw[BhsQ _ _ _ _ hx1,hW2,BhsQ _ _ _ _ hx2,hW1,BhsQ _ _ _ _ hx1]
           · have:=hfew p (by rcases List.mem_append.1 hp with h | h;exact List.mem_append_left _ h;exact List.mem_append_right _ (List.mem_append_right _ (List.mem_cons_of_mem _ h)))
             simp only[LlaQ];omega)
          have HE:=hH (aN hW1 (aN hW2 hcap))
          clear hrw hcut hW1 hW2 honce hfew hlen hoA hwB hnr hlo hb2 hI hno hpt hln h3 h2 hcs2
          have hn1:n+1≤rc:=by have:=HE.out.2.2;have:=HO.out.2.1;simp at*;omega
          go_wp2_with fail
          case inl h=>
           have e:=(hend (some ⟨H,o,none⟩) (fun h0=>by have:=HO.out.2.1;omega)).out
           rw[h] at e
           rw[←HE.out.1,←HE.out.2.1]
           go_ret
           exact e
          case inr h=>
           have e:=(hend (some ⟨H,o+1,none⟩) (fun _=>rfl)).out
           rw[←HE.out.1,←HE.out.2.1]
           go_ret
           exact e
        · have hv:v= .pointer (some ⟨B,0,none⟩):=by simpa [yJ] using h2
          subst hv
          have hrw:=hI.row.turn (P:=g0) (Q:=(B,hb)::r) (A:=A) (ha:=ha) (ha':=ha.yg mm) (gone':=g0++[(A,ha.yg mm)]) (rest':=(B,hb)::r) sp1 sp1 sp1 rfl HZ.out.1.zaY (Qr hoA mm)
          obtain⟨W1,hW1⟩:∃W1,W1=W.setCell ⟨R,0,none⟩ (.slice (some ⟨G,0,none⟩) q gc):=⟨_,rfl⟩
          have hcut:=hrw.cut HPUT.out.2.2.2.1 hW1
          obtain⟨W2,hW2⟩:∃W2,W2=W1.setCell ⟨H,o,none⟩ (.pointer (some ⟨B,0,none⟩)):=⟨_,rfl⟩
          have hend:Hid (zg2 w0 R l w (.returned (.bool true)) W2):=hH (by
           refine⟨by rw[honce],_,_,_,_,_,g0,(B,hb)::r,hcut.first (p':=(B,hb)) rfl hcut.held hW2,by rw[honce,h3];simp[sfs],hno.left,hb2 _ (fun x hx1 hx2=>?_) ⟨by rw[hW2,hW1];rfl,by rw[hW2,hW1];rfl,by rw[hW2,hW1];rfl,by rw[hW2,hW1];simp[World.setCell]⟩,fun p hp=>?_,by simp only[LlaQ,LlcQ];omega⟩
           · rw[hW2,BhsQ _ _ _ _ hx2,hW1,BhsQ _ _ _ _ hx1]
           · simp only[LlaQ,LlcQ]
             rcases List.mem_append.1 hp with h | h
             · have:=hfew p (List.mem_append_left _ h);omega
             · rcases List.mem_cons.1 h with rfl | h
               · have:=hfew (B,hb) (List.mem_append_right _ (List.mem_append_right _ (List.mem_cons_self ..)));omega
               · have:=hfew p (List.mem_append_right _ (List.mem_append_right _ (List.mem_cons_of_mem _ h)));omega)
          have HE:=hH (aN hW1 hW2)
          clear hrw hcut hW1 hW2 honce hfew hlen hoA hwB hnr hlo hb2 hI hno hpt hln h3 h2 hcs2
          go_wp2_with fail
          rw[←HE.out.1,←HE.out.2]
          go_ret
          exact hend.out
        · have hv :v= .pointer (some ⟨A,0,none⟩):=by simpa [yJ] using h2
          subst hv
          have hfA:=hfew (A,ha) (List.mem_append_right _ (List.mem_append_left _ (List.mem_singleton.2 rfl)))
          simp only at hfA
          have hrw:=hI.row.turn (P:=g0) (Q:=(B,hb)::r) (A:=A) (ha:=ha) (ha':=(ha.yg mm).kG hb.x ta tc) (gone':=g0++[(A,(ha.yg mm).kG hb.x ta tc)]) (rest':=(B,hb)::r) sp1 sp1 sp1 rfl HZ.out.1.zaY (zjb hoA hwB h4 om)
          obtain⟨W1,hW1⟩:∃W1,W1=W.setCell ⟨R,0,none⟩ (.slice (some ⟨G,0,none⟩) q gc):=⟨_,rfl⟩
          have hcut:=hrw.cut HPUT.out.2.2.2.1 hW1
          have hhr:jy w0 W1 (g0++(A,(ha.yg mm).kG hb.x ta tc)::r):=by
           rw[hW1]
           refine jy.far (hrw.held.sub ?_) hrw.obj ue9 ue9
           rw[List.append_assoc]
           exact List.Sublist.append_left (List.Sublist.cons_cons _ (List.sublist_cons_self _ _)) _
          obtain⟨W2,hW2⟩:∃W2,W2=W1.setCell ⟨H,o,none⟩ (.pointer (some ⟨A,0,none⟩)):=⟨_,rfl⟩
          have hend:Hid (zg2 w0 R l w (.returned (.bool true)) W2):=hH (by
           refine⟨by rw[honce],_,_,_,_,_,g0,(A,(ha.yg mm).kG hb.x ta tc)::r,hcut.first (p':=(A,(ha.yg mm).kG hb.x ta tc)) rfl hhr hW2,by rw[honce,h3];simp[sfs],hno.left,hb2 _ (fun x hx1 hx2=>?_) ⟨by rw[hW2,hW1];rfl,by rw[hW2,hW1];rfl,by rw[hW2,hW1];rfl,by rw[hW2,hW1];simp[World.setCell]⟩,fun p hp=>?_,by simp only[LlaQ,LlcQ];omega⟩
           · rw[hW2,BhsQ _ _ _ _ hx2,hW1,BhsQ _ _ _ _ hx1]
           · simp only[LlaQ,LlcQ]
             rcases List.mem_append.1 hp with h | h
             · have:=hfew p (List.mem_append_left _ h);omega
             · rcases List.mem_cons.1 h with rfl | h
               · show (ha.ts++[hb.x]).length+_≤_
                 rw[LlaQ,List.length_singleton];omega
               · have:=hfew p (List.mem_append_right _ (List.mem_append_right _ (List.mem_cons_of_mem _ h)));omega)
          have HE:=hH (aN hW1 hW2)
          clear hhr hfA hrw hcut hW1 hW2 honce hfew hlen hoA hwB hnr hlo hb2 hI hno hpt hln h3 h2 hcs2
          go_wp2_with fail
          rw[←HE.out.1,←HE.out.2]
          go_ret
          exact hend.out
end Go.Proofs.Ytnikgofkldkdkaa
