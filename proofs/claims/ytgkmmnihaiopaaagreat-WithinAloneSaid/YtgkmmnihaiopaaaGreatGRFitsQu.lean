/-
  .
-/
import Derived.Test.YtgkmmnihaiopaaaGreatGFitsQu
import Derived.Laws.MakeOwn
import Derived.IntWalk
import Derived.Test.YtgkmmnihaiopaaaGreatJPgQu
import Derived.Test.YtgkmmnihaiopaaaGreatJPsQu
set_option maxRecDepth 100000
set_option maxHeartbeats 40000000
namespace Go.Proofs.YtgkmmnihaiopaaaGreat
open Go.RowKit
def Zi (m:Nat) (f:Nat→Bool):Array Value:=((List.range m).map fun j=>Value.bool (f j)).toArray
theorem jB (m:Nat) (f:Nat→Bool):(Zi m f).size=m:=by simp[Zi]
theorem jW (m:Nat) (f:Nat→Bool) (j:Nat) (h:j<m):(Zi m f)[j]? =some (.bool (f j)):=by simp[Zi,h]
theorem zht {m:Nat} {f g:Nat→Bool} (h:∀j,j<m→f j=g j):Zi m f=Zi m g:=by
 apply Array.ext_getElem?
 intro j
 by_cases hj:j<m
 · rw[jW _ _ j hj,jW _ _ j hj,h j hj]
 · rw[Array.getElem?_eq_none (by rw[jB];omega),Array.getElem?_eq_none (by rw[jB];omega)]
theorem zc9 (m:Nat) (f:Nat→Bool) (i:Nat):(Zi m f).setIfInBounds i (.bool true)=Zi m (fun j=>if j=i then true else f j):=by
 apply Array.ext_getElem?
 intro j
 by_cases hj:j<m
 · rw[jW _ _ j hj,Array.getElem?_setIfInBounds]
   by_cases e:i=j
   · subst e;rw[if_pos rfl,if_pos (by rw[jB];exact hj),if_pos rfl]
   · rw[if_neg e,jW _ _ j hj,if_neg (fun h=>e h.symm)]
 · rw[Array.getElem?_eq_none (by simp[jB];omega),Array.getElem?_eq_none (by rw[jB];omega)]
theorem zef (m:Nat) (f:Nat→Bool):(Zi (m+1) f)[0]? =some (.bool (f 0)):=jW _ _ 0 om
theorem zfV (m:Nat):(Zi m noF).setIfInBounds 0 (.bool true)=Zi m Ye:=by rw[zc9];exact zht fun j _=>by by_cases e:j=0<;>simp[Ye,noF,e]
attribute [local go_sem] zef zfV jB
theorem zcL (W:World) (k:Nat) (h:k≤1000):(Instr.makeSlice 124 (.int .i64 ((k:Int)+1)) (.int .i64 ((k:Int)+1))).run Tryz.prog W= .ok (.slice (some ⟨W.heap.size,0,none⟩) (k+1) (k+1)) (W.alloc (.cells (Zi (k+1) noF) 4)):=by
 have hi4:(Tryz.prog.info? 4).map (fun i=>(i.zero,i.size,i.bytes))=some (some (.bool false),1,1):=by kernel_rfl
 obtain⟨i0,hi,hx⟩:=Option.map_eq_some_iff.1 hi4
 simp only[Prod.mk.injEq] at hx
 obtain⟨hz0,hz1,hz2⟩:=hx
 have e:((k:Int)+1).toNat=k+1:=by omega
 have hr:=run_makeSlice (P:=Tryz.prog) W 124 4 i0 (.bool false) Tryz.underlying124 hi hz0 .i64 .i64 ((k:Int)+1) ((k:Int)+1) om om (by rw[hz1];omega) (by rw[hz2];omega) om
 rw[hr,e,hz1]
 have e2:madeCells ((.bool false:Value).cells) ((k+1)*1)=Zi (k+1) noF:=by
  simp only[madeCells,Zi,noF,Value.cells]
  apply Array.ext sp1
  intro i h1 h2
  simp[Nat.mod_one]
 rw[e2]
structure Zn (B C N:Nat) (L:Nat) (w:World) (T f:Nat→Bool) (wr:World):Prop where
 from_:wr.heap[C]? =some (.cells (Zi (L+1) T) 4 (0,0))
 next:wr.heap[N]? =some (.cells (Zi (L+1) f) 4 (0,0))
 lt:C<N
 ge:B≤C
 below:Below B w wr
theorem Zn.set {B C N L:Nat} {w wr:World} {T f:Nat→Bool} (h:Zn B C N L w T f wr) (i:Nat):Zn B C N L w T (fun j=>if j=i then true else f j) (wr.setCell ⟨N,i,none⟩ (.bool true)):=by
 have h1:=h.lt
 have h2:=h.ge
 exact⟨by rw[BhsQ _ _ _ _ (by show C≠N;omega)];exact h.from_,by rw[hssQ _ N i _ _ _ h.next,zc9],h1,h2,h.below.setCell (by show B≤N;omega) _⟩
theorem Zn.more {B C N L:Nat} {w wr w' :World} {T f:Nat→Bool} (h:Zn B C N L w T f wr) (hb:Below wr.heap.size wr w'):Zn B C N L w T f w':=
 ⟨(hb.block _ (zP h.from_)).trans h.from_,(hb.block _ (zP h.next)).trans h.next,h.lt,h.ge,h.below.trans (hb.mono (Nat.le_trans h.ge (Nat.le_of_lt (zP h.from_))))⟩
theorem Zn.drewN {B C N L:Nat} {w wr:World} {T f:Nat→Bool} (h:Zn B C N L w T f wr) (n:Nat):Zn B C N L w T f (wr.drewN n):=h.more (below_drewN (BrQ _ _) n)
def zgt (w:World) (kids:List Int) (l:List Sl) (i v:Value) (wr:World):Prop:=
 ∃(k C:Nat) (T:Nat→Bool),k≤l.length∧i= .int .i64 k∧v= .slice (some ⟨C,0,none⟩) (kids.length+1) (kids.length+1)∧wr.heap[C]? =some (.cells (Zi (kids.length+1) T) 4 (0,0))∧w.heap.size≤C∧Below w.heap.size w wr∧T=Zp kids (l.take k)
def zhS (w:World) (C N:Nat) (kids:List Int) (s:Sl) (T:Nat→Bool) (g:Nat) (i:Value) (wr:World):Prop:=
 ∃(k:Nat) (f:Nat→Bool),k+g=kids.length+1∧i= .int .i64 k∧Zn w.heap.size C N kids.length w T f wr∧FP kids s T k f
def zhT (w:World) (C N:Nat) (kids:List Int) (s:Sl) (T:Nat→Bool) (k:Nat) (g:Nat) (i:Value) (wr:World):Prop:=
 ∃(n:Nat) (f:Nat→Bool),(n:Int)+(g:Int)=s.most+1∧i= .int .i64 n∧k+n≤kids.length+1∧Zn w.heap.size C N kids.length w T f wr∧FI kids s T k n f∧∀i,k≤i→i+1<k+n→jo kids s.kinds i=true
theorem zfS (w : World) (v:Value) (g:Gr) (n:Int) (a:Option Addr) (cap:Nat) (kids:List Int) (hv:GrV w v g) (hf:g.few) (h:qw w a kids) (hl:kids.length≤1000000):
 Calls Tryz.prog 57 #[v,.int .i64 n,.slice a kids.length cap] w (Says (jT (kindOf g n) kids) w):=by
 obtain⟨ka,kc,rfl,hk⟩:=hv
 obtain⟨l,root⟩:=g
 simp only at hk
 have hfl:l.length≤1000000:=hf.1
 have HF:=hH hf
 have HK:=hH hk
 have HA:=hH h
 obtain⟨bb,hbb⟩:∃bb,qz ⟨l,root⟩=bb:=⟨_,rfl⟩
 have HBB:=hH hbb
 clear hk hbb h
 cases bb
 · clear hf
   go_enter Tryz.func57,Tryz.ntmps57
   exact se5
 by_cases h1:n<0
 · clear hf
   go_enter Tryz.func57,Tryz.ntmps57
   exact se6
 by_cases h2:(l.length:Int)≤n
 · clear hf
   go_enter Tryz.func57,Tryz.ntmps57
   exact se1
 obtain⟨j,rfl⟩:∃j:Nat,n=(j:Int):=⟨n.toNat,by omega⟩
 obtain⟨k,hx⟩:∃x,l[j]? =some x:=⟨l[j]'om,List.getElem?_eq_getElem _⟩
 have ho:=za4 (g:=⟨l,root⟩) HBB.out hx
 have HO:=hH ho
 obtain⟨h8,_⟩:=zcV ho
 have HS3:=hH (zcW ho hf)
 obtain⟨b,off,rfl,hblt,hc⟩:=HK.out om
 obtain⟨sa,sc,_,_,c2,hs⟩:=hc j k hx
 have HC:=hH c2
 have HS:=hH hs
 have hj2:(j:Int)<(l.length:Int):=by omega
 obtain⟨nm,tx,sl⟩:=k
 simp only at h8 HC HS HS3
 clear hx hc c2 h1 h2 ho hs hf
 by_cases h200:200<kids.length
 · have h200' :(200:Int)<(kids.length:Int):=by omega
   have HV:=hH (show jT (kindOf ⟨l,root⟩ (j:Int)) kids=false by rw[HO.out,jT,decide_eq_false om];rfl)
   go_enter Tryz.func57,Tryz.ntmps57
   exact se3
 have h200' :¬(200:Int)<(kids.length:Int):=by omega
 have HV:=hH (show jT (kindOf ⟨l,root⟩ (j:Int)) kids=Zp kids sl kids.length by rw[HO.out,jT,decide_eq_true om];rfl)
 have hmk:=fun W=>zcL W kids.length om
 have hj0:decide ((j:Int)<0)=false:=by rw[decide_eq_false];omega
 have hj4:decide (l.length≤j)=false:=by rw[decide_eq_false];omega
 have hj5:decide ((200:Int)<(kids.length:Int))=false:=by rw[decide_eq_false];omega
 have hk0:(0:Int)<(kids.length:Int)+1:=by omega
 go_enter Tryz.func57,Tryz.ntmps57
 go_wp2_with (go_at_call 19;((with_reducible refine (yt _ _ _ (grV (HK.out.below (zh _ _))) HF.out).mono ?_);rintro e w2 ⟨rfl,h2⟩;rw[qR HBB.out];have H2:=hH ((zh w _).trans (h2.mono (zh w _).size));have hz:w.heap.size<w2.heap.size:=(by have:=h2.size;simp at this;omega);have p0:=yj h2 0 _ rfl;have d2:=(H2.out.cell hblt).trans HC.out;have hbz:=nL hblt H2.out.size;clear h2))
 clear hmk p0 d2 hz hbz
 have HROW:=hH (show zgt w kids sl (.int .i64 0) (.slice (some ⟨w2.heap.size,0,none⟩) (kids.length+1) (kids.length+1)) (w2.alloc (.cells (Zi (kids.length+1) Ye) 4)) from
  ⟨0,w2.heap.size,Ye,Nat.zero_le _,rfl,rfl,hanQ _ _,H2.out.size,H2.out.alloc H2.out.size _,rfl⟩)
 have hmk:=fun W=>zcL W kids.length om
 have HMK:=hH hmk
 clear hmk hj0 hk0 hj4 hj5
 go_loopw [7,9] (fun v i wr=>zgt w kids sl i v wr) (fun _ i _=>sl.length - (intOf i).toNat)
 case atStart=>exact HROW.out
 case round =>
  obtain⟨k,C,T,hkl,rfl,rfl,hb,hC,hbel,hT⟩:=hrel
  have HB:=hH (aN hb hbel)
  have HT:=hH hT
  by_cases hlt:k<sl.length
  case neg=>
   obtain rfl:k=sl.length:=by omega
   have c0:=cell0 hb kids.length (jW _ _ _ om)
   have HE:=hH (show Zp kids sl kids.length=T kids.length by rw[hT,List.take_of_length_le (Nat.le_refl _)])
   obtain⟨bb,hbb⟩:∃bb,bb=T kids.length:=⟨_,rfl⟩
   rw[←hbb] at c0
   have HBB2:=hH hbb
   have hkl2:¬(sl.length:Int)<(sl.length:Int):=by omega
   clear hb hbel hT hbb hlt
   go_wp2_with fail
   go_ret
   exact Says.mk (by rw[HV.out,HE.out,←HBB2.out]) HB.out.2
  obtain⟨s,hx⟩:∃s,sl[k]? =some s:=⟨sl[k],List.getElem?_eq_getElem hlt⟩
  obtain⟨hs0,hs1,hs2,hs3⟩:=HS3.out s (List.mem_of_getElem? hx)
  have HFEW:=hH hs0
  have HSTEP:=hH (zaY (kids:=kids) hx)
  have hkl2:(k:Int)<(sl.length:Int):=by omega
  have HX:=hH hx
  have hmk:=HMK.out
  clear hx hb hbel hT hs0
  obtain⟨si,lo,hi⟩:=s
  simp only at hs1 hs2 hs3
  go_wp2_with fail
  clear hmk
  have HNEW:=hH (show Zn w.heap.size C wr.heap.size kids.length w T noF (wr.alloc (.cells (Zi (kids.length+1) noF) 4)) from
   ⟨by rw[BhaQ _ _ _ (zP HB.out.1)];exact HB.out.1,hanQ _ _,zP HB.out.1,hC,HB.out.2.alloc HB.out.2.size _⟩)
  obtain⟨w3,rfl⟩:∃w3,w3=wr:=⟨_,rfl⟩
  obtain⟨N,hN⟩:∃N,N=w3.heap.size:=⟨_,rfl⟩
  rw[←hN] at HNEW
  rw[←hN]
  clear hN
  go_loopg [11] (kids.length+1) (fun g i wr=>zhS w C N kids ⟨si,lo,hi⟩ T g i wr)
  case atStart=>exact⟨0,noF,by omega,rfl,HNEW.out,FP.start _ _ _⟩
  case round =>
   obtain⟨k2,f,hkg,rfl,hR,hFP⟩:=hrel
   have HR:=hH hR
   have HFP:=hH hFP
   cases gk with
   | zero=>
     obtain rfl:k2=kids.length+1:=by omega
     have HFE:=hH hFP.all
     have hk3:¬(kids.length:Int)+1≤(kids.length:Int):=by omega
     clear hR hFP
     go_wp2_with fail
     exact⟨⟨k+1,N,f,by omega,by go_num,rfl,HR.out.next,by have:=HR.out.lt;omega,HR.out.below,by rw[HFE.out,HSTEP.out,←HT.out]⟩,by simp[intOf];omega⟩
   | succ g =>
     have hk3:(k2:Int)≤(kids.length:Int):=by omega
     have c0:=cell0 hR.from_ k2 (jW _ _ _ om)
     have hk4:(k2:Int)<(kids.length:Int)+1:=by omega
     obtain⟨bb,hbb⟩:∃bb,bb=T k2:=⟨_,rfl⟩
     rw[←hbb] at c0
     have HTB:=hH hbb
     clear hR hFP hbb
     cases bb
     · go_wp2_with fail
       go_roundg g
       case measure=>omega
       case rel=>exact⟨k2+1,f,by omega,by go_num,HR.out,HFP.out.skip HTB.out.symm⟩
     · go_wp2_with fail
       clear c0
       obtain⟨w4,rfl⟩:∃w4,w4=wr:=⟨_,rfl⟩
       go_loopg [12] (hi+1).toNat (fun g2 i wr=>zhT w C N kids ⟨si,lo,hi⟩ T k2 g2 i wr)
       case atStart=>exact⟨0,f,by simp only;omega,rfl,by omega,HR.out,FI.start HFP.out,fun i h1 h2=>by omega⟩
       case round =>
        obtain⟨n,f2,hng,rfl,hkn,hR2,hFI,hown⟩:=hrel
        simp only at hng hown
        have HR2:=hH hR2
        have HFI:=hH hFI
        have HOWN:=hH hown
        obtain⟨b2,off2,rfl,hbz2,hc2⟩:=(HS.out.below hR2.below) om
        obtain⟨ka2,kc2,d0,d1,d2,hii⟩:=hc2 k _ HX.out
        simp only at d0 d1 d2 hii
        have HI:=hH hii
        clear hc2 hii
        cases gk with
        | zero=>
          have hn1:¬(n:Int)≤hi:=by omega
          have HD:=hH (HFI.out.done (N:=n) om HTB.out.symm (fun i h3 h4=>HOWN.out i h3 h4) (by simp only;omega) (Or.inl (by simp only;omega)))
          exact sh5
        | succ g2 =>
          have hn1:(n:Int)≤hi:=by omega
          by_cases hle:k2+n≤kids.length
          case neg=>
           have hle2:¬(k2:Int)+(n:Int)≤(kids.length:Int):=by omega
           have HD:=hH (HFI.out.done (N:=n) om HTB.out.symm (fun i h3 h4=>HOWN.out i h3 h4) (by simp only;omega) (Or.inr ⟨by omega,Qz om⟩))
           exact sh5
          have hle2:(k2:Int)+(n:Int)≤(kids.length:Int):=by omega
          have hle3:(k2:Int)+(n:Int)<(kids.length:Int)+1:=by omega
          have hNz:N<wr.heap.size:=zP hR2.next
          have dN:=cell0 hR2.next (k2+n) (jW _ _ _ om)
          have dF:wr.frozen? ⟨N,k2+n,none⟩=false:=forQ wr _ _ _ _ hR2.next
          by_cases hn0:n=0
          · have HNX:=hH (show ∀i,k2≤i→i+1<k2+(n+1)→jo kids si i=true from fun i h3 h4=>by omega)
            have hn2:decide ((0:Int)<(n:Int))=false:=by rw[decide_eq_false];omega
            have hn3:decide (0<n)=false:=by rw[decide_eq_false];omega
            have HN0:=hH hn0
            clear hR2 hFI hown hn0
            go_wp2_with fail
            go_quiet (fail)
            by_cases hlo:lo≤(n:Int)
            · go_wp2_with fail
              go_roundg g2
              case measure=>omega
              case rel=>exact⟨n+1,_,by simp only;omega,by go_num,by omega,(HR2.out.drewN _).set (k2+n),HFI.out.put (n:=n) hlo,HNX.out⟩
            · go_wp2_with fail
              go_roundg g2
              case measure=>omega
              case rel=>exact⟨n+1,_,by simp only;omega,by go_num,by omega,HR2.out.drewN _,HFI.out.skip (n:=n) (by simp only;omega),HNX.out⟩
          · obtain⟨p,hp⟩:∃p,p=k2+n - 1:=⟨_,rfl⟩
            obtain⟨x,hxk⟩:∃x,kids[p]? =some x:=⟨kids[p]'om,List.getElem?_eq_getElem _⟩
            obtain⟨ab,ao,rfl,habz,hca⟩:=(HA.out.below hR2.below) om
            have cx:=hca p x hxk
            have hpi:(k2:Int)+(n:Int) - 1=(p:Int):=by omega
            have hpl:(p:Int)<(kids.length:Int):=by omega
            have hn2:decide ((0:Int)<(n:Int))=true:=by rw[decide_eq_true];omega
            have hn3:decide (0<n)=true:=by rw[decide_eq_true];omega
            obtain⟨bx,hbx⟩:∃bx,qG si x=bx:=⟨_,rfl⟩
            have HBX:=hH hbx
            have HOB:=hH (show jo kids si (k2+n - 1)=bx by rw[←hp,Z5 hxk,hbx])
            have HD1:=hH d1
            have HDN:=hH (aN dN dF)
            have HN0:=hH (aN hn0 hp)
            obtain⟨W,hW⟩:∃W,W=wr.drew:=⟨_,rfl⟩
            have HWE:=hH hW
            have hWb:Below wr.heap.size wr W:=by rw[hW];exact below_drewN (BrQ _ _) 1
            have HWB:=hH hWb
            have HIW:=hH (HI.out.below hWb)
            have d0':=(hWb.cell (p:=⟨b2,off2+k*3,none⟩) hbz2).trans d0
            have d1':=(hWb.cell (p:=⟨b2,off2+k*3+1,none⟩) hbz2).trans d1
            have d2':=(hWb.cell (p:=⟨b2,off2+k*3+2,none⟩) hbz2).trans d2
            have cx':=(hWb.cell (p:=⟨ab,ao+p,none⟩) habz).trans cx
            have wr1:IntKind.i64.wrap ((k2:Int)+(n:Int))=(k2:Int)+(n:Int):=IntWalk.i64_in _ om
            have wr3:IntKind.i64.wrap (p:Int)=(p:Int):=IntWalk.i64_in _ om
            clear hR2 hFI hown hca hxk hbx hn0 hp hW hWb
            cases bx
            · have HD:=hH (HFI.out.done (N:=n) om HTB.out.symm (fun i h3 h4=>HOWN.out i h3 h4) (by simp only;omega) (Or.inr ⟨by have:=HN0.out.1;omega,HOB.out⟩))
              go_wp2_with fail
              have hdr:({ heap:=wr.heap,tape:=wr.tape,drawn:=wr.drawn+1,os:=wr.os,output:=wr.output }:World)=W:=HWE.out.symm
              refine wp_region_still_tail 14 kr1 kr1 ?_
              simp only[List.take_succ_cons,List.take_zero,List.drop_succ_cons,List.drop_zero]
              rw[hdr]
              clear hdr
              repeat still_step
              try refine wpStill_nil ?_
              clear wr1 wr3
              go_wp2_with (go_at_call 74;((with_reducible refine (zbJ _ _ ⟨si,lo,hi⟩ x (zax (s:=⟨si,lo,hi⟩) HIW.out) HFEW.out).mono ?_);rintro e w5 ⟨rfl,h5⟩;rw[HBX.out];have H5:=hH (HWB.out.trans (h5.mono HWB.out.size));have e1:=(H5.out.cell hbz2).trans HD1.out;have e2:=(H5.out.cell (p:=⟨N,k2+n,none⟩) hNz).trans HDN.out.1;have e3:=(H5.out.frozen (p:=⟨N,k2+n,none⟩) hNz).trans HDN.out.2;have hz5:wr.heap.size≤w5.heap.size:=H5.out.size;have hz6:b2<w5.heap.size:=om;have hz7:N<w5.heap.size:=om;clear h5))
              go_roundg g
              case measure=>omega
              case rel=>exact⟨k2+1,f2,by omega,by go_num,HR2.out.more H5.out,HD.out⟩
            · have HNX:=hH (show ∀i,k2≤i→i+1<k2+(n+1)→jo kids si i=true from fun i h3 h4=>by by_cases e:i=k2+n - 1;exact e▸HOB.out;exact HOWN.out i h3 om)
              by_cases hlo:lo≤(n:Int)
              · go_wp2_with fail
                have hdr:({ heap:=wr.heap,tape:=wr.tape,drawn:=wr.drawn+1,os:=wr.os,output:=wr.output }:World)=W:=HWE.out.symm
                refine wp_region_still_tail 14 kr1 kr1 ?_
                simp only[List.take_succ_cons,List.take_zero,List.drop_succ_cons,List.drop_zero]
                rw[hdr]
                clear hdr
                repeat still_step
                try refine wpStill_nil ?_
                clear wr1 wr3
                go_wp2_with (go_at_call 74;((with_reducible refine (zbJ _ _ ⟨si,lo,hi⟩ x (zax (s:=⟨si,lo,hi⟩) HIW.out) HFEW.out).mono ?_);rintro e w5 ⟨rfl,h5⟩;rw[HBX.out];have H5:=hH (HWB.out.trans (h5.mono HWB.out.size));have e1:=(H5.out.cell hbz2).trans HD1.out;have e2:=(H5.out.cell (p:=⟨N,k2+n,none⟩) hNz).trans HDN.out.1;have e3:=(H5.out.frozen (p:=⟨N,k2+n,none⟩) hNz).trans HDN.out.2;have hz5:wr.heap.size≤w5.heap.size:=H5.out.size;have hz6:b2<w5.heap.size:=om;have hz7:N<w5.heap.size:=om;clear h5))
                go_roundg g2
                case measure=>omega
                case rel=>exact⟨n+1,_,by simp only;omega,by go_num,by omega,(HR2.out.more H5.out).set (k2+n),HFI.out.put (n:=n) hlo,HNX.out⟩
              · go_wp2_with fail
                have hdr:({ heap:=wr.heap,tape:=wr.tape,drawn:=wr.drawn+1,os:=wr.os,output:=wr.output }:World)=W:=HWE.out.symm
                refine wp_region_still_tail 14 kr1 kr1 ?_
                simp only[List.take_succ_cons,List.take_zero,List.drop_succ_cons,List.drop_zero]
                rw[hdr]
                clear hdr
                repeat still_step
                try refine wpStill_nil ?_
                clear wr1 wr3
                go_wp2_with (go_at_call 74;((with_reducible refine (zbJ _ _ ⟨si,lo,hi⟩ x (zax (s:=⟨si,lo,hi⟩) HIW.out) HFEW.out).mono ?_);rintro e w5 ⟨rfl,h5⟩;rw[HBX.out];have H5:=hH (HWB.out.trans (h5.mono HWB.out.size));have e1:=(H5.out.cell hbz2).trans HD1.out;have e2:=(H5.out.cell (p:=⟨N,k2+n,none⟩) hNz).trans HDN.out.1;have e3:=(H5.out.frozen (p:=⟨N,k2+n,none⟩) hNz).trans HDN.out.2;have hz5:wr.heap.size≤w5.heap.size:=H5.out.size;have hz6:b2<w5.heap.size:=om;have hz7:N<w5.heap.size:=om;clear h5))
                go_roundg g2
                case measure=>omega
                case rel=>exact⟨n+1,_,by simp only;omega,by go_num,by omega,HR2.out.more H5.out,HFI.out.skip (n:=n) (by simp only;omega),HNX.out⟩
end Go.Proofs.YtgkmmnihaiopaaaGreat
