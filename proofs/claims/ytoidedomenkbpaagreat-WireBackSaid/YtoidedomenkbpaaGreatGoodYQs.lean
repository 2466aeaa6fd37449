/-
  .
-/
import Derived.Test.YtoidedomenkbpaaGreatWRightAQs
import Derived.Test.YtoidedomenkbpaaGreatCFwdSQs
set_option maxRecDepth 100000
set_option maxHeartbeats 40000000
set_option linter.unusedVariables false
set_option linter.unusedSimpArgs false
namespace Go.Proofs.YtoidedomenkbpaaGreat
open Go.RowKit Go.Shelf
open Extern.Stop (cell)
def yS (s:Sf):Stp:=⟨s.op,s.id,s.par,s.at_,s.tx,s.sub⟩
theorem zdJ {w:World}{a:Option Addr}{vs:List SV}(h:Row w a vs):vL w (fun q=>q<w.heap.size) a ((steps vs).map yS):=fun h0=>by
 have hl0:0<vs.length:=by simpa [steps] using h0
 obtain⟨x0,hx0⟩:∃x,vs[0]? =some x:=⟨_,List.getElem?_eq_getElem hl0⟩
 obtain⟨b,off,e,hb,_⟩:=h.cells 0 x0 hx0
 refine⟨b,off,e,hb,fun k x hx=>?_⟩
 rw[List.getElem?_map,Option.map_eq_some_iff] at hx
 obtain⟨s,hs,rfl⟩:=hx
 rw[steps,List.getElem?_map,Option.map_eq_some_iff] at hs
 obtain⟨y,hy,rfl⟩:=hs
 obtain⟨b',off',e',hb',hc⟩:=h.cells k y hy
 rw[e] at e'
 cases e'
 have hl:=h.lies y (List.mem_of_getElem? hy)
 exact⟨y.a,y.c,hc 0 _ rfl,hc 1 _ rfl,hc 2 _ rfl,hc 3 _ rfl,hc 4 _ rfl,hc 5 _ rfl,hc 6 _ rfl,hc 7 _ rfl,hc 8 _ rfl,hl.1,hl.2⟩
theorem zbQ {b wb:Nat}{bs bs2:List UInt8}{X Z:World}{a a' :Option Addr}{cap cap' L:Nat}(hL:L=bs2.length)(h1:X.heap[wb]? =some (.cells #[.slice a bs.length cap] 103 (0,0)))(h5:wb≠b)(h6:b<X.heap.size)(hb:Below X.heap.size X Z)(hat:Yd Z a' bs2)(had:∀ad,a'=some ad→X.heap.size≤ad.block∧ad.block<Z.heap.size):
 (bs2.length≤1000000000000→ZV b wb bs2 (Z.setCell ⟨wb,0,none⟩ (.slice a' L cap')))∧za X (Z.setCell ⟨wb,0,none⟩ (.slice a' L cap')) (fun q=>q=wb):=by
 have e1:=(hb.block wb (lohQ h1)).trans h1
 have ht:za Z (Z.setCell ⟨wb,0,none⟩ (.slice a' L cap')) (fun q=>q=wb):=zu
 refine⟨fun hl=>?_,(zn hb _).zK ht⟩
 refine⟨a',cap',?_,Zd hat (fun ad e=>ht.block _ (had ad e).2 (by have:=(had ad e).1;have:=lohQ h1;omega)),fun ad e=>⟨by have:=(had ad e).1;omega,by have:=(had ad e).1;have:=lohQ h1;omega,nL (had ad e).2 ht.size⟩,hl,h5,nL h6 (NltQ hb.size ht.size)⟩
 rw[hssQ _ _ 0 _ _ _ e1,←hL];rfl
theorem zcz (b wb:Nat)(bs:List UInt8)(X:World)(la:Option Addr)(n c:Nat)(vs:List SV)(hn:n=vs.length)(hr:Row X la vs)(h:ZV b wb bs X)(hl:bs.length+8+(qd ((steps vs).map yS)).length≤1000000000000):
 Calls Tryz.prog 260 #[.pointer (some ⟨wb,0,none⟩),.slice la n c] X (fun e X'=>e= .returned (.slice la n c)∧((bs++zq (n:Int)++qd ((steps vs).map yS)).length≤1000000000000→ZV b wb (bs++zq (n:Int)++qd ((steps vs).map yS)) X')∧za X X' (fun q=>q=wb)):=by
 obtain⟨a,cap,h1,h2,h3,h4,h5,h6⟩:=h
 have k0:X.cell? ⟨wb,0,none⟩=some (.slice a bs.length cap):=by rw[corQ _ _ 0 _ _ _ h1];rfl
 have HP:=hH (zkd X (fun q=>q<X.heap.size) ((steps vs).map yS) a la bs.length cap n c bs (fun _ h=>h) (zdJ hr) (by rw[hn];simp[steps]) rfl h2 hl (by have:=hr.len;omega))
 obtain⟨E,hE⟩:∃E,E=bs++zq (n:Int)++qd ((steps vs).map yS):=⟨_,rfl⟩
 rw[←hE] at HP ⊢
 have H1:=hH (aN h1 (aN h5 h6))
 clear hE h1 h2 h3 h4 h5 h6 hl hr hn
 go_enter Tryz.func260,Tryz.ntmps260
 go_wp2_with fail
 refine HP.out.mono ?_
 rintro e Z ⟨a',L,cap',rfl,hL,hat,had,hb⟩
 have HW:=hH (zbQ (cap':=cap') hL H1.out.1 H1.out.2.1 H1.out.2.2 hb hat had)
 have e1:=(hb.block wb (lohQ H1.out.1)).trans H1.out.1
 have z0:Z.cell? ⟨wb,0,none⟩=some (.slice a bs.length cap):=by rw[corQ _ _ 0 _ _ _ e1];rfl
 have zf:Z.frozen? ⟨wb,0,none⟩=false:=forQ _ _ 0 _ _ e1
 clear e1 hb hat had hL k0 HP
 go_wp2_with fail
 go_ret
 exact⟨rfl,HW.out.1,HW.out.2⟩
theorem zdY (b wb:Nat)(bs:List UInt8)(X:World)(S:Nat→Prop)(t:Tr)(ka:Option Addr)(kn kc:Nat)(hkn:kn=foLen t.kids)(hkc:foLen t.kids≤kc)(hS:∀y,S y→y<X.heap.size)(hk:zQ X S t.kids ka)(h:ZV b wb bs X)(hl:bs.length+(qa t).length≤1000000000000):
 Calls Tryz.prog 261 #[.pointer (some ⟨wb,0,none⟩),.agg #[.int .i64 t.id,.int .i64 t.kind,.string t.text,.slice ka kn kc]] X (fun e X'=>e= .returned (.agg #[.int .i64 t.id,.int .i64 t.kind,.string t.text,.slice ka kn kc])∧((bs++qa t).length≤1000000000000→ZV b wb (bs++qa t) X')∧za X X' (fun q=>q=wb)):=by
 obtain⟨a,cap,h1,h2,h3,h4,h5,h6⟩:=h
 obtain⟨B,hB⟩:∃B,B=zU X [.cells #[.int .i64 t.id,.int .i64 t.kind,.string t.text,.slice ka kn kc] 35,.cells #[.int .i64 0,.int .i64 0,.string ⟨#[]⟩,.slice none 0 0] 35]:=⟨_,rfl⟩
 have hb:Below X.heap.size X B:=by rw[hB];exact zR _ _
 have e0:B.heap[X.heap.size]? =some (.cells #[.int .i64 t.id,.int .i64 t.kind,.string t.text,.slice ka kn kc] 35 (0,0)):=by rw[hB];exact zD _ _ 0 _ rfl
 have e1:B.heap[X.heap.size+1]? =some (.cells #[.int .i64 0,.int .i64 0,.string ⟨#[]⟩,.slice none 0 0] 35 (0,0)):=by rw[hB];exact zD _ _ 1 _ rfl
 have hw0:=(hb.block wb (lohQ h1)).trans h1
 have hbyB:Yd B a bs:=Zd h2 (fun ad e=>hb.block _ (h3 ad e).2.2)
 obtain⟨SW,hSW⟩:∃SW:World→Prop,SW=fun Y=>Y.heap[X.heap.size]? =some (.cells #[.int .i64 t.id,.int .i64 t.kind,.string t.text,.slice ka kn kc] 35 (0,0)):=⟨_,rfl⟩
 have hbd:Below X.heap.size X B.drew:=below_drewN hb 1
 have hp:=zk7 B.drew S (.agg #[.int .i64 t.id,.int .i64 t.kind,.string t.text,.slice ka kn kc]) t a bs.length cap bs (fun y hy=>nL (hS y hy) hb.size) ⟨ka,kc,by rw[hkn],hkc,hk.below hbd hS⟩ rfl hbyB hl
 obtain⟨E,hE⟩:∃E,E=bs++qa t:=⟨_,rfl⟩
 rw[←hE] at hp ⊢
 have HP:=hH hp
 have HB:=hH (aN hbd (aN hB (aN e0 e1)))
 have H1:=hH (aN h1 (aN h5 (aN h6 hw0)))
 have HC:=hH (fun (Y:World) (hY:SW Y)=>(show Y.cell? ⟨X.heap.size,0,none⟩=some (.int .i64 t.id)∧Y.cell? ⟨X.heap.size,1,none⟩=some (.int .i64 t.kind)∧Y.cell? ⟨X.heap.size,2,none⟩=some (.string t.text)∧Y.cell? ⟨X.heap.size,3,none⟩=some (.slice ka kn kc) by
  rw[hSW] at hY
  exact zbW hY))
 have hS0:SW B.drew:=by rw[hSW];exact e0
 have HSW:=hH hSW
 have hcell:B.drew.cell? ⟨wb,0,none⟩=some (.slice a bs.length cap):=by show B.cell? _=_;rw[corQ _ _ 0 _ _ _ hw0];rfl
 clear hE hp hbyB hb hbd hB e0 e1 hw0 h1 h2 h3 h4 h5 h6 hl hk hS hkn hkc hSW
 go_enter Tryz.func261,Tryz.ntmps261
 go_upto_region 1 with fail
 change Code.wp _ _ _ _ (zU X [.cells #[.int .i64 t.id,.int .i64 t.kind,.string t.text,.slice ka kn kc] 35,.cells #[.int .i64 0,.int .i64 0,.string ⟨#[]⟩,.slice none 0 0] 35])
 rw[←HB.out.2.1]
 refine wrhQ (S:=SW) kr1 hS0 (fun eH=>?_)
 clear hS0
 refine tJ (i:=0) (.pointer (some ⟨wb,0,none⟩)) rfl ?_ ?_
 · clear eH;intro Y hSw;clear hSw;go_simp
 simp only[Act.put,pg]
 refine tJ (i:=1) (.pointer (some ⟨wb,0,none⟩)) rfl ?_ ?_
 · clear eH;intro Y hSw;clear hSw;go_simp
 simp only[Act.put,pg]
 refine tJ (i:=2) (.pointer (some ⟨wb,0,none⟩)) rfl ?_ ?_
 · clear eH;intro Y hSw;clear hSw;go_simp
 simp only[Act.put,pg]
 refine tJ (i:=3) (.pointer (some ⟨wb,0,none⟩)) rfl ?_ ?_
 · clear eH;intro Y hSw;clear hSw;go_simp
 simp only[Act.put,pg]
 refine tJ (i:=5) (.agg #[.int .i64 t.id,.int .i64 t.kind,.string t.text,.slice ka kn kc]) rfl ?_ ?_
 · clear eH;intro Y hSw;obtain⟨n0,n1,n2,n3⟩:=HC.out Y hSw;clear hSw;go_simp
 simp only[Act.put,pg]
 have hH0:=eH
 refine rd1 [4] ?_
 refine AcQ (o:=_) rfl (fun K hK=>?_) AnQ
 rw[ipQ ue1]
 simp only[pg3]
 have HK:=hH hK
 have HS:=hH eH
 clear hK eH
 go_wp2_with fail
 refine HK.out _ _ hH0 (fun eH=>?_)
 clear HK HS hcell hH0
 refine rd1 [6] ?_
 refine AcQ (o:=_) rfl (fun K hK=>?_) AnQ
 rw[ipQ ue1]
 simp only[pg3]
 have HK:=hH hK
 have HS:=hH eH
 clear hK eH
 go_wp2_with fail
 refine HP.out.mono ?_
 rintro e Z ⟨a',L,cap',rfl,hL,hat,had,hz⟩
 have hbZ:Below X.heap.size X Z:=HB.out.1.trans (hz.mono HB.out.1.size)
 have hw:=zbQ (b:=b) (cap':=cap') hL H1.out.1 H1.out.2.1 H1.out.2.2.1 hbZ hat (fun ad e=>⟨NltQ HB.out.1.size (had ad e).1,(had ad e).2⟩)
 have e1:=(hz.block wb (nL (lohQ H1.out.1) HB.out.1.size)).trans H1.out.2.2.2
 have hw1:wb<X.heap.size:=lohQ H1.out.1
 have en:Z.heap[X.heap.size]? =some (.cells #[.int .i64 t.id,.int .i64 t.kind,.string t.text,.slice ka kn kc] 35 (0,0)):=(hz.block _ (lohQ (w:=B.drew) HB.out.2.2.1)).trans HB.out.2.2.1
 have ez:Z.heap[X.heap.size+1]? =some (.cells #[.int .i64 0,.int .i64 0,.string ⟨#[]⟩,.slice none 0 0] 35 (0,0)):=(hz.block _ (lohQ (w:=B.drew) HB.out.2.2.2)).trans HB.out.2.2.2
 have z0:Z.cell? ⟨wb,0,none⟩=some (.slice a bs.length cap):=by rw[corQ _ _ 0 _ _ _ e1];rfl
 have zf:Z.frozen? ⟨wb,0,none⟩=false:=forQ _ _ 0 _ _ e1
 obtain⟨V,hV⟩:∃V,V=Z.setCell ⟨wb,0,none⟩ (.slice a' L cap'):=⟨_,rfl⟩
 rw[←hV] at hw
 have enV:V.heap[X.heap.size]? =some (.cells #[.int .i64 t.id,.int .i64 t.kind,.string t.text,.slice ka kn kc] 35 (0,0)):=by rw[hV];exact (BhsQ _ _ _ _ ud3).trans en
 have ezV:V.heap[X.heap.size+1]? =some (.cells #[.int .i64 0,.int .i64 0,.string ⟨#[]⟩,.slice none 0 0] 35 (0,0)):=by rw[hV];exact (BhsQ _ _ _ _ ud3).trans ez
 obtain⟨U,hU,v1,v2,v3,v4,v5,v6⟩:=zai (u0:= .int .i64 t.id) (u1:= .int .i64 t.kind) (u2:= .string t.text) (u3:= .slice ka kn kc) ezV
 have HU:=hH (aN hU v1)
 have hsz:X.heap.size+2≤B.drew.heap.size:=by show X.heap.size+2≤B.heap.size;rw[HB.out.2.1,qV];exact NlrQ _
 have HEND:=hH (show (E.length≤1000000000000→ZV b wb E U)∧za X U (fun q=>q=wb) from⟨fun hl=>by
  obtain⟨a2,cap2,g1,g2,g3,g4,g5,g6⟩:=hw.1 hl
  refine⟨a',cap',?_,?_,?_,hl,g5,by rw[v6];exact g6⟩
  · rw[v2 wb om1,hV,hssQ _ _ 0 _ _ _ e1,←hL];rfl
  · refine Zd hat (fun ad e=>?_)
    have:=(had ad e).1
    rw[v2 _ om1,hV]
    exact BhsQ _ _ _ _ ud3
  · intro ad e
    have:=(had ad e).1
    have:=(had ad e).2
    have:=H1.out.2.2.1
    have hvz:V.heap.size=Z.heap.size:=by rw[hV];simp[World.setCell]
    exact⟨by omega,by omega,by rw[v6,hvz];omega⟩,⟨v3.trans hw.2.os,v4.trans hw.2.tape,v5.trans hw.2.output,by rw[v6];exact hw.2.size,fun q h1 h2=>(v2 q om1).trans (hw.2.block q h1 h2)⟩⟩)
 have HS1:=hH (aN (show SW Z by rw[HSW.out];exact en) (show SW V by rw[HSW.out];exact enV))
 have HV:=hH (aN hV (aN enV ezV))
 clear hbZ hw e1 en ez enV ezV hU v1 v2 v3 v4 v5 v6 hV hL hat had hz hw1
 go_wp2_with fail
 refine HK.out _ _ HS1.out.1 (fun eH=>?_)
 clear HK HS
 refine tJ (i:=7) (.pointer (some ⟨wb,0,none⟩)) rfl ?_ ?_
 · clear eH;intro Y hSw;clear hSw;go_simp
 simp only[Act.put,pg]
 refine tJ (i:=8) (.pointer (some ⟨wb,0,none⟩)) rfl ?_ ?_
 · clear eH;intro Y hSw;clear hSw;go_simp
 simp only[Act.put,pg]
 refine rd1 [9] ?_
 refine AcQ (o:=_) rfl (fun K hK=>?_) AnQ
 rw[ipQ ue1]
 simp only[pg3]
 have HK:=hH hK
 have HS:=hH eH
 clear hK eH
 go_wp2_with fail
 rw[←HV.out.1]
 refine HK.out _ _ HS1.out.2 (fun eH=>?_)
 clear HK HS z0 zf
 refine wpAnyH_done kr1 ?_ _
 clear eH
 obtain⟨n0,n1,n2,n3⟩:=zbW HV.out.2.1
 obtain⟨m0,m1,m2,m3⟩:=zbW HV.out.2.2
 have mf:∀j,V.frozen? ⟨X.heap.size+1,j,none⟩=false:=fun j=>forQ _ _ j _ _ HV.out.2.2
 go_wp2_with fail
 rw[←HU.out.1]
 refine brQ (qo rfl _ _ (X.heap.size+1) 35 _ (0,0) _ rfl HU.out.2 Tryz.underlying35 rfl kr1) rfl ?_
 exact⟨rfl,HEND.out.1,HEND.out.2⟩
end Go.Proofs.YtoidedomenkbpaaGreat
namespace Go.Proofs.YtoidedomenkbpaaGreat
open Go.RowKit Go.Shelf
theorem Y6 {d c:Nat}{k:Int×Int×ByteArray}(h:kQ d c k=true):k.2.2.size≤40:=by
 simp only[kQ,Bool.and_eq_true,decide_eq_true_eq] at h
 exact h.2
theorem Zq:∀(d c:Nat) (f:Fo) (m:Nat),vW d c f=some m→c≤m∧(ZX f).length≤72*(m - c)
 | d,c,.nil,m,h=>by simp only[vW] at h;cases h;exact⟨NlrQ _,by simp[ZX]⟩
 | d, c, .node b o k l r,m,h=>by
   simp only[vW] at h
   split at h
   · rename_i hw
     have h1:=Y6 hw
     split at h
     · rename_i p hp
       have h2:=Zq _ _ l p hp
       have h3:=Zq d p r m h
       refine⟨by omega,?_⟩
       rw[ZX,LlaQ,LlaQ,qX]
       omega
     · cases h
   · cases h
theorem Yu {t:Tr}(h:yj t=true):(qa t).length≤20000:=by
 unfold yj jM at h
 split at h
 · rename_i hw
   have h1:=Y6 hw
   obtain⟨m,hm⟩:=Option.isSome_iff_exists.1 h
   have h2:=Zq _ _ _ _ hm
   have h3:=(vT _ _ _ _ hm om1).1
   rw[qa,LlaQ,qX]
   show 32+t.text.size+_≤_
   have h4:t.text.size≤40:=h1
   omega
 · simp at h
theorem vS {s:ByteArray}(h:s.toList=(⟨#[]⟩:ByteArray).toList):s.size=0:=by
 rw[ByteArray.toList_eq,ByteArray.toList_eq] at h
 rw[←Zp,h];rfl
theorem jX {t:Tr}(h:yh t zN=true):(qa t).length=32:=by
 obtain⟨i,k,x,f⟩:=t
 simp only[yh,Qx,Bool.and_eq_true,decide_eq_true_eq] at h
 obtain⟨⟨_,_,hx⟩,hl,_⟩:=h
 have hx2:x.size=0:=vS hx
 cases f with
 | nil=>rw[qa,LlaQ,qX];show 32+x.size+0=32;omega
 | node _ _ _ _ _=>simp[foLen,zN] at hl
theorem zdI {s:Sf}(h:vw s=true):(encS (yS s)).length≤21000:=by
 rw[kE]
 show 33+s.tx.size+(qa s.sub).length≤21000
 simp only[vw,Bool.and_eq_true] at h
 obtain⟨hn,he⟩:=h
 simp only[eqS,Bool.and_eq_true,decide_eq_true_eq] at he
 obtain⟨h0,h1,h2,h3,h4,h5⟩:=he
 unfold qi at h4 h5
 unfold Y5 at hn
 by_cases o1:s.op=1
 · rw[ipQ o1] at h4 h5 hn
   simp only[Bool.and_eq_true] at hn
   have:=vS h4
   have:=Yu hn.2.2
   omega
 rw[inQ o1] at h4 h5 hn
 by_cases o2:s.op=2
 · rw[ipQ o2] at h4 h5
   have:=vS h4
   have:=jX h5
   omega
 rw[inQ o2] at h4 h5 hn
 by_cases o3:s.op=3
 · rw[ipQ o3] at h4 h5
   have:=vS h4
   have:=jX h5
   omega
 rw[inQ o3] at h4 h5 hn
 by_cases o4:s.op=4
 · rw[ipQ o4] at h4 h5 hn
   simp only[Bool.and_eq_true,decide_eq_true_eq] at hn
   have:=jX h5
   omega
 · rw[inQ o4] at hn
   cases hn
theorem zbg:∀(l:List Sf),l.all vw=true→(qd (l.map yS)).length≤21000*l.length
 | [],_=>by simp[qd]
 | s ::l,h=>by
   simp only[List.all_cons,Bool.and_eq_true] at h
   have h1:=zdI h.1
   have h2:=zbg l h.2
   simp only[List.map_cons,qd,List.flatMap_cons,LlaQ,LlcQ] at h2 ⊢
   omega
theorem Qy {l:List Sf}(h:zO l=true):(qd (l.map yS)).length≤1260000:=by
 simp only[zO,Bool.and_eq_true,decide_eq_true_eq] at h
 have h1:=zbg l h.2
 have h2:l.length≤60:=by
  have:=h.1
  unfold YJ at this
  split at this
  · rename_i ho;exact ((YC l).1 ho).1
  · cases this
 omega
theorem zae:∀f:Fo,zh (nF f)=zh f
 | .nil=>rfl
 | .node b o k l r=>by simp only[nF,zh,zae l,zae r]
theorem Qr:∀f:Fo,foLen (nF f)=foLen f
 | .nil=>rfl
 | .node b o k l r=>by simp only[nF,foLen,Qr r]
theorem zcu:∀(d c:Nat) (f:Fo),vW d c (nF f)=vW d c f
 | d,c,.nil=>rfl
 | d, c,.node b o k l r=>by
   simp only[nF,vW,zcu (d+1) (c+1) l]
   split
   · split
     · exact zcu d _ r
     · rfl
   · rfl
theorem zct (t:Tr):yj (nT t)=yj t:=by
 unfold yj jM nT
 simp only[zcu]
theorem zcj:∀f:Fo,kR f (nF f)=true
 | .nil=>rfl
 | .node b o k l r=>by simp[nF,kR,Qx,zcj l,zcj r,Qr]
theorem zck (t:Tr):yh t (nT t)=true:=by simp[yh,nT,Qx,zcj,Qr]
theorem zci:∀f g:Fo,kR (nF f) g=kR f g
 | .nil,.nil=>rfl
 | .nil,.node _ _ _ _ _=>rfl
 | .node _ _ _ _ _,.nil=>rfl
 | .node b o k l r,.node b2 o2 k2 l2 r2=>by simp only[nF,kR,Qr,zci l l2,zci r r2]
theorem JM (t u:Tr):yh (nT t) u=yh t u:=by simp only[yh,nT,Qr,zci]
def nSf (s:Sf):Sf:=⟨s.op,s.id,s.par,s.at_,s.tx,nT s.sub⟩
theorem zhh (s:Sf):Y5 (nSf s)=Y5 s:=by
 unfold Y5 nSf
 simp only[zct]
theorem zcU (s:Sf):eqS (nSf s) (qi (nSf s))=eqS s (qi s):=by
 by_cases h1:s.op=1
 · have p1:qi s=⟨1,0,s.par,s.at_,⟨#[]⟩,s.sub⟩:=by unfold qi;rw[ipQ h1]
   have p2:qi (nSf s)=⟨1,0,s.par,s.at_,⟨#[]⟩,nT s.sub⟩:=by unfold qi;rw[ipQ (show (nSf s).op=1 from h1)];rfl
   rw[p1,p2]
   simp only[eqS,nSf,qj]
   rfl
 by_cases h2:s.op=2
 · have p1:qi s=⟨2,s.id,0,0,⟨#[]⟩,zN⟩:=by unfold qi;rw[inQ h1,ipQ h2]
   have p2:qi (nSf s)=⟨2,s.id,0,0,⟨#[]⟩,zN⟩:=by unfold qi;rw[inQ (show ¬(nSf s).op=1 from h1),ipQ (show (nSf s).op=2 from h2)];rfl
   rw[p1,p2]
   simp only[eqS,nSf,JM]
   rfl
 by_cases h3:s.op=3
 · have p1:qi s=⟨3,s.id,s.par,s.at_,⟨#[]⟩,zN⟩:=by unfold qi;rw[inQ h1,inQ h2,ipQ h3]
   have p2:qi (nSf s)=⟨3,s.id,s.par,s.at_,⟨#[]⟩,zN⟩:=by unfold qi;rw[inQ (show ¬(nSf s).op=1 from h1),inQ (show ¬(nSf s).op=2 from h2),ipQ (show (nSf s).op=3 from h3)];rfl
   rw[p1,p2]
   simp only[eqS,nSf,JM]
   rfl
 by_cases h4:s.op=4
 · have p1:qi s=⟨4,s.id,0,0,s.tx,zN⟩:=by unfold qi;rw[inQ h1,inQ h2,inQ h3,ipQ h4]
   have p2:qi (nSf s)=⟨4,s.id,0,0,s.tx,zN⟩:=by unfold qi;rw[inQ (show ¬(nSf s).op=1 from h1),inQ (show ¬(nSf s).op=2 from h2),inQ (show ¬(nSf s).op=3 from h3),ipQ (show (nSf s).op=4 from h4)];rfl
   rw[p1,p2]
   simp only[eqS,nSf,JM]
   rfl
 have p1:qi s=⟨s.op,0,0,0,⟨#[]⟩,zN⟩:=by unfold qi;rw[inQ h1,inQ h2,inQ h3,inQ h4]
 have p2:qi (nSf s)=⟨s.op,0,0,0,⟨#[]⟩,zN⟩:=by unfold qi;rw[inQ (show ¬(nSf s).op=1 from h1),inQ (show ¬(nSf s).op=2 from h2),inQ (show ¬(nSf s).op=3 from h3),inQ (show ¬(nSf s).op=4 from h4)];rfl
 rw[p1,p2]
 simp only[eqS,nSf,JM]
 rfl
theorem ziL (s:Sf):vw (nSf s)=vw s:=by unfold vw;rw[zhh,zcU]
theorem zj6 (s:Sf):Zu (nSf s)=Zu s:=by simp only[Zu,nSf,nT,zae]
theorem zc9:∀l:List Sf,qg (l.map nSf)=qg l
 | []=>rfl
 | s::l=>by rw[List.map_cons,qg,qg,zj6,zc9 l]
theorem zjZ (l:List Sf):YJ (l.map nSf)=YJ l:=by unfold YJ zbt;rw[List.length_map,zc9]
theorem zdK (l:List Sf):zO (l.map nSf)=zO l:=by
 unfold zO
 rw[zjZ,List.all_map]
 congr 1
 congr 1
 funext s
 exact ziL s
theorem zkS (s:Sf):eqS s (nSf s)=true:=by simp[eqS,nSf,zck]
theorem zg6:∀l:List Sf,eqR l (l.map nSf)=true
 | []=>rfl
 | s::l=>by rw[List.map_cons,eqR,zkS,zg6 l];rfl
theorem zF {lo hi n:Int}(h:zA lo hi n=true)(h1: -9223372036854775808≤lo)(h2:hi≤9223372036854775807):zP n:=by
 simp only[zA,Bool.and_eq_true,decide_eq_true_eq] at h
 exact⟨by omega,by omega⟩
theorem zbp {d c:Nat}{k:Int×Int×ByteArray}(h:kQ d c k=true):(zP k.1∧zP k.2.1∧k.2.2.size≤40)∧d≤32:=by
 simp only[kQ,Bool.and_eq_true,decide_eq_true_eq] at h
 exact⟨⟨zF h.1.1.2 ue0 ue0,zF h.1.2 ue0 ue0,h.2⟩,h.1.1.1.2⟩
theorem YF:∀(d c:Nat) (f:Fo) (m:Nat),vW d c f=some m→c≤200→m=c+zh f∧zg9 f∧(∀x∈JJ (d:Int) f,x.2≤32)
 | d,c,.nil,m,h,hc=>by
   simp only[vW] at h
   cases h
   exact⟨by simp[zh],True.intro,fun x hx=>by simp[JJ] at hx⟩
 | d, c, .node b o k l r,m,h,hc=>by
   have hm:=vT d c _ m h hc
   simp only[vW] at h
   split at h
   · rename_i hw
     obtain⟨⟨w1,w2,w3⟩,w4⟩:=zbp hw
     have hc1:c+1≤200:=by
      simp only[kQ,Bool.and_eq_true,decide_eq_true_eq] at hw
      exact hw.1.1.1.1
     split at h
     · rename_i p hp
       have hp2:=vT _ _ _ _ hp hc1
       obtain⟨a1,a2,a3⟩:=YF (d+1) (c+1) l p hp hc1
       obtain⟨b1,b2,b3⟩:=YF d p r m h hp2.1
       have hl:=jG l
       refine⟨by simp only[zh];omega,⟨⟨w1,w2,by omega,by omega⟩,a2,b2⟩,fun x hx=>?_⟩
       simp only[JJ,List.mem_cons,List.mem_append] at hx
       rcases hx with rfl | hx | hx
       · show (d:Int)≤32;omega
       · exact a3 x (by rw[Int.natCast_add];exact hx)
       · exact b3 x hx
     · cases h
   · cases h
theorem ZP {t:Tr}(h:yj t=true):t.Qt∧t.good:=by
 unfold yj jM at h
 split at h
 · rename_i hw
   obtain⟨m,hm⟩:=Option.isSome_iff_exists.1 h
   obtain⟨⟨w1,w2,w3⟩,w4⟩:=zbp hw
   obtain⟨a1,a2,a3⟩:=YF _ _ _ _ hm om1
   have h1:=(vT _ _ _ _ hm om1).1
   have hl:=jG t.kids
   simp only at w3
   refine⟨⟨⟨w1,w2,by omega,by omega⟩,a2⟩,fun x hx=>?_,by omega⟩
   simp only[zdG,List.mem_cons] at hx
   rcases hx with rfl | hx
   · show (1:Int)≤40;omega
   · have:=a3 x hx
     omega
 · simp at h
theorem Jd {t:Tr}(h:yj t=true):(qa t).length≤72*(zh t.kids+1):=by
 unfold yj jM at h
 split at h
 · rename_i hw
   obtain⟨m,hm⟩:=Option.isSome_iff_exists.1 h
   have h1:=Y6 hw
   have h2:=Zq _ _ _ _ hm
   have h3:=YF _ _ _ _ hm om1
   rw[qa,LlaQ,qX]
   simp only at h1 ⊢
   omega
 · simp at h
theorem in0:zP 0:=⟨by decide,by decide⟩
theorem zaO {t:Tr}(h:yh t zN=true):t.Qt∧t.good:=by
 obtain⟨i,k,x,f⟩:=t
 simp only[yh,Qx,Bool.and_eq_true,decide_eq_true_eq] at h
 obtain⟨⟨hi,hk,hx⟩,hl,_⟩:=h
 have hx2:x.size=0:=vS hx
 cases f with
 | nil=>
   have hi:i=0:=hi
   have hk:k=0:=hk
   subst hi hk
   exact⟨⟨⟨in0,in0,by show x.size≤_;omega,by simp[foLen]⟩,True.intro⟩,fun y hy=>by
    simp only[zdG,JJ,List.mem_cons,List.not_mem_nil,or_false] at hy
    subst hy;show (1:Int)≤40;omega,by simp[zh]⟩
 | node _ _ _ _ _=>simp[foLen,zN] at hl
theorem Jc {s:Sf}(h:vw s=true):(yS s).Qt∧(yS s).sub.good∧(encS (yS s)).length≤105+72*Zu s:=by
 rw[kE]
 show (yS s).Qt∧s.sub.good∧33+s.tx.size+(qa s.sub).length≤105+72*Zu s
 simp only[vw,Bool.and_eq_true] at h
 obtain⟨hn,he⟩:=h
 simp only[eqS,Bool.and_eq_true,decide_eq_true_eq] at he
 obtain⟨h0,h1,h2,h3,h4,h5⟩:=he
 unfold qi at h0 h1 h2 h3 h4 h5
 unfold Y5 at hn
 have big:∀n:Int,zP n↔(-9223372036854775808≤n∧n≤9223372036854775807):=fun n=>Iff.rfl
 have z0:zP 0:=⟨by decide,by decide⟩
 by_cases o1:s.op=1
 · rw[ipQ o1] at h1 h2 h3 h4 h5 hn
   simp only[Bool.and_eq_true] at hn
   have ht:=vS h4
   have hb:=ZP hn.2.2
   have hl:=Jd hn.2.2
   refine⟨⟨by show -128≤s.op∧s.op≤127;omega,by show zP s.id;rw[h1];exact z0,zF hn.1 ue0 ue0,zF hn.2.1 ue0 ue0,by show s.tx.size≤_;omega,hb.1⟩,hb.2,?_⟩
   unfold Zu
   rw[ipQ o1]
   omega
 rw[inQ o1] at h1 h2 h3 h4 h5 hn
 have hin:Zu s=0:=by unfold Zu;rw[inQ o1]
 rw[hin]
 by_cases o2:s.op=2
 · rw[ipQ o2] at h1 h2 h3 h4 h5 hn
   have ht:=vS h4
   have hb:=zaO h5
   have hl:=jX h5
   exact⟨⟨by show -128≤s.op∧s.op≤127;omega,zF hn ue0 ue0,by show zP s.par;rw[h2];exact z0,by show zP s.at_;rw[h3];exact z0,by show s.tx.size≤_;omega,hb.1⟩,hb.2,by omega⟩
 rw[inQ o2] at h1 h2 h3 h4 h5 hn
 by_cases o3:s.op=3
 · rw[ipQ o3] at h1 h2 h3 h4 h5 hn
   simp only[Bool.and_eq_true] at hn
   have ht:=vS h4
   have hb:=zaO h5
   have hl:=jX h5
   exact⟨⟨by show -128≤s.op∧s.op≤127;omega,zF hn.1 ue0 ue0,zF hn.2.1 ue0 ue0,zF hn.2.2 ue0 ue0,by show s.tx.size≤_;omega,hb.1⟩,hb.2,by omega⟩
 rw[inQ o3] at h1 h2 h3 h4 h5 hn
 by_cases o4:s.op=4
 · rw[ipQ o4] at h1 h2 h3 h4 h5 hn
   simp only[Bool.and_eq_true,decide_eq_true_eq] at hn
   have hb:=zaO h5
   have hl:=jX h5
   exact⟨⟨by show -128≤s.op∧s.op≤127;omega,zF hn.1 ue0 ue0,by show zP s.par;rw[h2];exact z0,by show zP s.at_;rw[h3];exact z0,by show s.tx.size≤_;omega,hb.1⟩,hb.2,by omega⟩
 · rw[inQ o4] at hn
   cases hn
theorem zcR:∀(l:List Sf),l.all vw=true→(qd (l.map yS)).length≤105*l.length+72*qg l
 | [],_=>by simp[qd]
 | s ::l,h=>by
   simp only[List.all_cons,Bool.and_eq_true] at h
   have h1:=(Jc h.1).2.2
   have h2:=zcR l h.2
   rw[qg]
   simp only[List.map_cons,qd,List.flatMap_cons,LlaQ,LlcQ] at h2 ⊢
   omega
theorem Z5 {l:List Sf}(h:zO l=true):l.length≤60∧(∀s∈l.map yS,s.Qt)∧(∀s∈l.map yS,s.sub.good)∧(qd (l.map yS)).length≤20700:=by
 simp only[zO,Bool.and_eq_true,decide_eq_true_eq] at h
 have h1:=zcR l h.2
 have h2:l.length≤60∧qg l≤200:=by
  have:=h.1
  unfold YJ at this
  split at this
  · rename_i ho;exact (YC l).1 ho
  · cases this
 refine⟨h2.1,fun s hs=>?_,fun s hs=>?_,by omega⟩
 · obtain⟨x,hx,rfl⟩:=List.mem_map.1 hs
   exact (Jc (List.all_eq_true.1 h.2 x hx)).1
 · obtain⟨x,hx,rfl⟩:=List.mem_map.1 hs
   exact (Jc (List.all_eq_true.1 h.2 x hx)).2.1
end Go.Proofs.YtoidedomenkbpaaGreat
