/-
  .
-/
import Derived.Test.YtgkmmnihaiopaaaGreatHWayQv
import Derived.Test.YtgkmmnihaiopaaaGreatRKidsQv
set_option maxRecDepth 100000
set_option maxHeartbeats 40000000
set_option linter.unusedVariables false
set_option linter.unusedSimpArgs false
namespace Go.Proofs.YtgkmmnihaiopaaaGreat
open Go.RowKit
def lcp {α:Type} [DecidableEq α]:List α→List α→Nat
 | a::l,b::m=>if a=b then lcp l m+1 else 0
 | _,_=>0
theorem zh4 {α:Type} [DecidableEq α]:∀(l m:List α),lcp l m≤l.length∧lcp l m≤m.length
 | [],_=>by simp[lcp]
 | _::_,[]=>by simp[lcp]
 | a ::l,b::m=>by
   have:=zh4 l m
   simp only[lcp,LlcQ]
   split<;>omega
theorem zh3 {α:Type} [DecidableEq α] {l m:List α}{k:Nat}{x y:α}(hx:l[k]? =some x)(hy:m[k]? =some y):lcp (l.drop k) (m.drop k)=if x=y then lcp (l.drop (k+1)) (m.drop (k+1))+1 else 0:=by
 obtain⟨h1,h2⟩:=List.getElem?_eq_some_iff.1 hx
 obtain⟨h3,h4⟩:=List.getElem?_eq_some_iff.1 hy
 rw[←List.getElem_cons_drop h1,←List.getElem_cons_drop h3,h2,h4,lcp]
theorem zi5 {α:Type} [DecidableEq α] {l m:List α}{k:Nat}(h:l.length≤k∨m.length≤k):lcp (l.drop k) (m.drop k)=0:=by
 rcases h with h | h
 · rw[List.drop_eq_nil_of_le h];simp[lcp]
 · rw[List.drop_eq_nil_of_le h]
   cases l.drop k<;>simp[lcp]
theorem zfF {α β:Type} [DecidableEq α] [DecidableEq β] (f:α→β):∀(l m:List α),(∀a∈l,∀b∈m,f a=f b→a=b)→lcp (l.map f) (m.map f)=lcp l m
 | [],_,_=>by simp[lcp]
 | _::_,[],_=>by simp[lcp]
 | a ::l,b::m,h=>by
   simp only[List.map_cons,lcp]
   have ih:=zfF f l m (fun x hx y hy=>h x (by simp[hx]) y (by simp[hy]))
   by_cases hab:a=b
   · rw[ipQ hab,ipQ (by rw[hab]),ih]
   · rw[inQ hab,inQ (fun e=>hab (h a sp1 b sp1 e))]
def yE (L:List Fr):List Int:=L.reverse.map Fr.p
theorem zeV (L M:List Fr)(hL:∀x∈L,x.ok)(hM:∀x∈M,x.ok):lcp (yE L) (yE M)=lcp (places L) (places M):=by
 have h1:places L=(yE L).map Int.toNat:=by simp[places,yE]
 have h2:places M=(yE M).map Int.toNat:=by simp[places,yE]
 rw[h1,h2,zfF]
 intro a ha b hb he
 simp only[yE,List.mem_map,List.mem_reverse] at ha hb
 obtain⟨x,hx,rfl⟩:=ha
 obtain⟨y,hy,rfl⟩:=hb
 have:=(hL x hx).1
 have:=(hM y hy).1
 omega
theorem zaX {L:List Fr}{k:Nat}{x:Fr}(h:L.reverse[k]? =some x):(yE L)[k]? =some x.p:=by
 rw[yE,List.getElem?_map,h];rfl
def zb5 (L M:List Fr)(w:World)(k:Nat)(wr:World):Prop:=lcp (yE L) (yE M)=k+lcp ((yE L).drop k) ((yE M).drop k)∧Below w.heap.size w wr
theorem zfi (w:World)(av bv:Value)(L M:List Fr)(hL:qo w av L)(hM:qo w bv M)(hl:L.length≤1000000)(hm:M.length≤1000000):Calls Tryz.prog 112 #[av,bv] w fun e w'=>e= .returned (.int .i64 (lcp (yE L) (yE M):Nat))∧Below w.heap.size w w':=by
 obtain⟨a,ac,rfl⟩:=zy hL
 obtain⟨b,bc,rfl⟩:=zy hM
 obtain⟨n,hn⟩:∃n,n=L.length:=⟨_,rfl⟩
 obtain⟨m,hm'⟩:∃m,m=M.length:=⟨_,rfl⟩
 have H:=hH (aN hL (aN hM (aN hn hm')))
 rw[←hn] at hl ⊢
 rw[←hm'] at hm ⊢
 clear hL hM hn hm'
 have HS:Hid (zb5 L M w 0 w):=hH ⟨by simp,BrQ _ _⟩
 go_enter Tryz.func112,Tryz.ntmps112
 go_wp2_with fail
 go_loopw [5] (fun i wr=>∃k:Nat,k≤n∧k≤m∧i= .int .i64 (k:Int)∧Hid (zb5 L M w k wr)) (fun i _=>n - (intOf i).toNat)
 case atStart=>exact⟨0,NzlQ _,NzlQ _,rfl,HS⟩
 case round=>
  obtain⟨k,hkn,hkm,rfl,hh⟩:=hrel
  clear HS
  by_cases hlt:k<n∧k<m
  · obtain⟨x,hx⟩:∃x,L.reverse[k]? =some x:=⟨_,List.getElem?_eq_getElem (by rw[List.length_reverse,←H.out.2.2.1];exact hlt.1)⟩
    obtain⟨y,hy⟩:∃y,M.reverse[k]? =some y:=⟨_,List.getElem?_eq_getElem (by rw[List.length_reverse,←H.out.2.2.2];exact hlt.2)⟩
    have hL:=H.out.1
    have hM:=H.out.2.1
    rw[←H.out.2.2.1] at hL
    rw[←H.out.2.2.2] at hM
    obtain⟨g1,rfl,_,_,c1,_⟩:=qo.at H.out.1 hx
    obtain⟨g2,rfl,_,_,c2,_⟩:=qo.at H.out.2.1 hy
    have d1:wr.cell? ⟨g1,k*2+1,none⟩=some (.int .i64 x.p):=(hh.out.2.cell (World.block_lt_of_cell? _ _ c1)).trans c1
    have d2:wr.cell? ⟨g2,k*2+1,none⟩=some (.int .i64 y.p):=(hh.out.2.cell (World.block_lt_of_cell? _ _ c2)).trans c2
    have hstep:=zh3 (zaX hx) (zaX hy)
    obtain⟨p,hp⟩:∃p,p=x.p:=⟨_,rfl⟩
    obtain⟨q,hq⟩:∃q,q=y.p:=⟨_,rfl⟩
    rw[←hp] at d1 hstep
    rw[←hq] at d2 hstep
    have hkl1:(k:Int)<(n:Int):=by omega
    have hkl2:(k:Int)<(m:Int):=by omega
    have hmin:(k:Int)<min (n:Int) (m:Int):=by omega
    by_cases hpq:p=q
    · rw[ipQ hpq] at hstep
      have hbq:(p == q)=true:=by simpa using hpq
      have HN:Hid (zb5 L M w (k+1) wr):=hH ⟨by have:=hh.out.1;omega,hh.out.2⟩
      have HLT:=hH hlt
      clear hL hM hx hy c1 c2 hp hq hstep hpq hh hlt hkn hkm
      go_wp2_with fail
      refine wp_region_quiet (C:=fun X=>Below wr.heap.size wr X) kr1 kr1 (below_drewN (BrQ _ wr) 1) ?_
      refine Y5 (fun QQ hQQ=>?_)
      have HQQ:=hH hQQ
      clear hQQ
      with_reducible refine wpQuiet_step ?_
      intro K hK
      rw[ipQ ug8]
      refine⟨.int .i64 (k:Int),fun X hX=>?_,hK _ ?_⟩
      · clear hK;go_simp
      clear hK K
      simp only[Act.put,pgD,pgE,pgF]
      with_reducible refine wpQuiet_step ?_
      intro K hK
      rw[ipQ ug8]
      refine⟨.slice (some ⟨g1,0,none⟩) n ac,fun X hX=>?_,hK _ ?_⟩
      · clear hK;go_simp
      clear hK K
      simp only[Act.put,pgD,pgE,pgF]
      with_reducible refine wpQuiet_step ?_
      intro K hK
      rw[ipQ ug8]
      refine⟨.int .i64 (n:Int),fun X hX=>?_,hK _ ?_⟩
      · clear hK;go_simp
      clear hK K
      simp only[Act.put,pgD,pgE,pgF]
      with_reducible refine wpQuiet_step ?_
      intro K hK
      rw[ipQ ug8]
      refine⟨.slice (some ⟨g2,0,none⟩) m bc,fun X hX=>?_,hK _ ?_⟩
      · clear hK;go_simp
      clear hK K
      simp only[Act.put,pgD,pgE,pgF]
      with_reducible refine wpQuiet_step ?_
      intro K hK
      rw[ipQ ug8]
      refine⟨.int .i64 (m:Int),fun X hX=>?_,hK _ ?_⟩
      · clear hK;go_simp
      clear hK K
      simp only[Act.put,pgD,pgE,pgF]
      with_reducible refine wpQuiet_step ?_
      intro K hK
      rw[ipQ ug8]
      refine⟨.int .i64 (min (n:Int) (m:Int)),fun X hX=>?_,hK _ ?_⟩
      · exact ua4
      clear hK K
      simp only[Act.put,pgD,pgE,pgF]
      with_reducible refine wpQuiet_step ?_
      intro K hK
      rw[ipQ ug8]
      refine⟨.bool true,fun X hX=>?_,hK _ ?_⟩
      · clear hK;go_simp
      clear hK K
      simp only[Act.put,pgD,pgE,pgF]
      with_reducible refine wpQuiet_step ?_
      intro K hK
      rw[ipQ ug8]
      refine⟨.bool true,fun X hX=>?_,hK _ ?_⟩
      · clear hK;go_simp
      clear hK K
      simp only[Act.put,pgD,pgE,pgF]
      with_reducible refine wpQuiet_step ?_
      intro K hK
      rw[ipQ ug8]
      refine⟨.slice (some ⟨g1,0,none⟩) n ac,fun X hX=>?_,hK _ ?_⟩
      · clear hK;go_simp
      clear hK K
      simp only[Act.put,pgD,pgE,pgF]
      with_reducible refine wpQuiet_step ?_
      intro K hK
      rw[ipQ ug8]
      refine⟨.int .i64 (k:Int),fun X hX=>?_,hK _ ?_⟩
      · clear hK;go_simp
      clear hK K
      simp only[Act.put,pgD,pgE,pgF]
      with_reducible refine wpQuiet_step ?_
      intro K hK
      rw[ipQ ug8]
      refine⟨.pointer (some ⟨g1,k*2,none⟩),fun X hX=>?_,hK _ ?_⟩
      · clear hK;go_simp
      clear hK K
      simp only[Act.put,pgD,pgE,pgF]
      with_reducible refine wpQuiet_step ?_
      intro K hK
      rw[ipQ ug8]
      refine⟨.pointer (some ⟨g1,k*2+1,none⟩),fun X hX=>?_,hK _ ?_⟩
      · clear hK;go_simp
      clear hK K
      simp only[Act.put,pgD,pgE,pgF]
      with_reducible refine wpQuiet_step ?_
      intro K hK
      rw[ipQ ug8]
      refine⟨.int .i64 p,fun X hX=>?_,hK _ ?_⟩
      · clear hK;have d:=(hX.cell (World.block_lt_of_cell? _ _ d1)).trans d1;go_simp
      clear hK K
      simp only[Act.put,pgD,pgE,pgF]
      with_reducible refine wpQuiet_step ?_
      intro K hK
      rw[ipQ ug8]
      refine⟨.slice (some ⟨g2,0,none⟩) m bc,fun X hX=>?_,hK _ ?_⟩
      · clear hK;go_simp
      clear hK K
      simp only[Act.put,pgD,pgE,pgF]
      with_reducible refine wpQuiet_step ?_
      intro K hK
      rw[ipQ ug8]
      refine⟨.int .i64 (k:Int),fun X hX=>?_,hK _ ?_⟩
      · clear hK;go_simp
      clear hK K
      simp only[Act.put,pgD,pgE,pgF]
      with_reducible refine wpQuiet_step ?_
      intro K hK
      rw[ipQ ug8]
      refine⟨.pointer (some ⟨g2,k*2,none⟩),fun X hX=>?_,hK _ ?_⟩
      · clear hK;go_simp
      clear hK K
      simp only[Act.put,pgD,pgE,pgF]
      with_reducible refine wpQuiet_step ?_
      intro K hK
      rw[ipQ ug8]
      refine⟨.pointer (some ⟨g2,k*2+1,none⟩),fun X hX=>?_,hK _ ?_⟩
      · clear hK;go_simp
      clear hK K
      simp only[Act.put,pgD,pgE,pgF]
      with_reducible refine wpQuiet_step ?_
      intro K hK
      rw[ipQ ug8]
      refine⟨.int .i64 q,fun X hX=>?_,hK _ ?_⟩
      · clear hK;have d:=(hX.cell (World.block_lt_of_cell? _ _ d2)).trans d2;go_simp
      clear hK K
      simp only[Act.put,pgD,pgE,pgF]
      with_reducible refine wpQuiet_step ?_
      intro K hK
      rw[ipQ ug8]
      refine⟨.bool true,fun X hX=>?_,hK _ ?_⟩
      · clear hK;go_simp
      clear hK K
      simp only[Act.put,pgD,pgE,pgF]
      with_reducible refine wpQuiet_step ?_
      intro K hK
      rw[ipQ ug8]
      refine⟨.bool true,fun X hX=>?_,hK _ ?_⟩
      · clear hK;go_simp
      clear hK K
      simp only[Act.put,pgD,pgE,pgF]
      refine wpQuiet_nil (HQQ.out _ ?_)
      clear HQQ
      intro V hV
      have HV:=hH hV
      clear hV
      go_wp2_with fail
      exact⟨⟨k+1,by have:=HLT.out;omega,by have:=HLT.out;omega,by go_num,hH ⟨HN.out.1,HN.out.2.trans (HV.out.mono HN.out.2.size)⟩⟩,by have:=HLT.out;simp[intOf];omega⟩
    · rw[inQ hpq] at hstep
      have hbq:(p == q)=false:=by simpa using hpq
      have HE:Hid (lcp (yE L) (yE M)=k∧Below w.heap.size w wr):=hH ⟨by have:=hh.out.1;omega,hh.out.2⟩
      clear hL hM hx hy c1 c2 hp hq hstep hpq hh hlt hkn hkm
      go_wp2_with fail
      refine wp_region_quiet (C:=fun X=>Below wr.heap.size wr X) kr1 kr1 (below_drewN (BrQ _ wr) 1) ?_
      refine Y5 (fun QQ hQQ=>?_)
      have HQQ:=hH hQQ
      clear hQQ
      with_reducible refine wpQuiet_step ?_
      intro K hK
      rw[ipQ ug8]
      refine⟨.int .i64 (k:Int),fun X hX=>?_,hK _ ?_⟩
      · clear hK;go_simp
      clear hK K
      simp only[Act.put,pgD,pgE,pgF]
      with_reducible refine wpQuiet_step ?_
      intro K hK
      rw[ipQ ug8]
      refine⟨.slice (some ⟨g1,0,none⟩) n ac,fun X hX=>?_,hK _ ?_⟩
      · clear hK;go_simp
      clear hK K
      simp only[Act.put,pgD,pgE,pgF]
      with_reducible refine wpQuiet_step ?_
      intro K hK
      rw[ipQ ug8]
      refine⟨.int .i64 (n:Int),fun X hX=>?_,hK _ ?_⟩
      · clear hK;go_simp
      clear hK K
      simp only[Act.put,pgD,pgE,pgF]
      with_reducible refine wpQuiet_step ?_
      intro K hK
      rw[ipQ ug8]
      refine⟨.slice (some ⟨g2,0,none⟩) m bc,fun X hX=>?_,hK _ ?_⟩
      · clear hK;go_simp
      clear hK K
      simp only[Act.put,pgD,pgE,pgF]
      with_reducible refine wpQuiet_step ?_
      intro K hK
      rw[ipQ ug8]
      refine⟨.int .i64 (m:Int),fun X hX=>?_,hK _ ?_⟩
      · clear hK;go_simp
      clear hK K
      simp only[Act.put,pgD,pgE,pgF]
      with_reducible refine wpQuiet_step ?_
      intro K hK
      rw[ipQ ug8]
      refine⟨.int .i64 (min (n:Int) (m:Int)),fun X hX=>?_,hK _ ?_⟩
      · exact ua4
      clear hK K
      simp only[Act.put,pgD,pgE,pgF]
      with_reducible refine wpQuiet_step ?_
      intro K hK
      rw[ipQ ug8]
      refine⟨.bool true,fun X hX=>?_,hK _ ?_⟩
      · clear hK;go_simp
      clear hK K
      simp only[Act.put,pgD,pgE,pgF]
      with_reducible refine wpQuiet_step ?_
      intro K hK
      rw[ipQ ug8]
      refine⟨.bool true,fun X hX=>?_,hK _ ?_⟩
      · clear hK;go_simp
      clear hK K
      simp only[Act.put,pgD,pgE,pgF]
      with_reducible refine wpQuiet_step ?_
      intro K hK
      rw[ipQ ug8]
      refine⟨.slice (some ⟨g1,0,none⟩) n ac,fun X hX=>?_,hK _ ?_⟩
      · clear hK;go_simp
      clear hK K
      simp only[Act.put,pgD,pgE,pgF]
      with_reducible refine wpQuiet_step ?_
      intro K hK
      rw[ipQ ug8]
      refine⟨.int .i64 (k:Int),fun X hX=>?_,hK _ ?_⟩
      · clear hK;go_simp
      clear hK K
      simp only[Act.put,pgD,pgE,pgF]
      with_reducible refine wpQuiet_step ?_
      intro K hK
      rw[ipQ ug8]
      refine⟨.pointer (some ⟨g1,k*2,none⟩),fun X hX=>?_,hK _ ?_⟩
      · clear hK;go_simp
      clear hK K
      simp only[Act.put,pgD,pgE,pgF]
      with_reducible refine wpQuiet_step ?_
      intro K hK
      rw[ipQ ug8]
      refine⟨.pointer (some ⟨g1,k*2+1,none⟩),fun X hX=>?_,hK _ ?_⟩
      · clear hK;go_simp
      clear hK K
      simp only[Act.put,pgD,pgE,pgF]
      with_reducible refine wpQuiet_step ?_
      intro K hK
      rw[ipQ ug8]
      refine⟨.int .i64 p,fun X hX=>?_,hK _ ?_⟩
      · clear hK;have d:=(hX.cell (World.block_lt_of_cell? _ _ d1)).trans d1;go_simp
      clear hK K
      simp only[Act.put,pgD,pgE,pgF]
      with_reducible refine wpQuiet_step ?_
      intro K hK
      rw[ipQ ug8]
      refine⟨.slice (some ⟨g2,0,none⟩) m bc,fun X hX=>?_,hK _ ?_⟩
      · clear hK;go_simp
      clear hK K
      simp only[Act.put,pgD,pgE,pgF]
      with_reducible refine wpQuiet_step ?_
      intro K hK
      rw[ipQ ug8]
      refine⟨.int .i64 (k:Int),fun X hX=>?_,hK _ ?_⟩
      · clear hK;go_simp
      clear hK K
      simp only[Act.put,pgD,pgE,pgF]
      with_reducible refine wpQuiet_step ?_
      intro K hK
      rw[ipQ ug8]
      refine⟨.pointer (some ⟨g2,k*2,none⟩),fun X hX=>?_,hK _ ?_⟩
      · clear hK;go_simp
      clear hK K
      simp only[Act.put,pgD,pgE,pgF]
      with_reducible refine wpQuiet_step ?_
      intro K hK
      rw[ipQ ug8]
      refine⟨.pointer (some ⟨g2,k*2+1,none⟩),fun X hX=>?_,hK _ ?_⟩
      · clear hK;go_simp
      clear hK K
      simp only[Act.put,pgD,pgE,pgF]
      with_reducible refine wpQuiet_step ?_
      intro K hK
      rw[ipQ ug8]
      refine⟨.int .i64 q,fun X hX=>?_,hK _ ?_⟩
      · clear hK;have d:=(hX.cell (World.block_lt_of_cell? _ _ d2)).trans d2;go_simp
      clear hK K
      simp only[Act.put,pgD,pgE,pgF]
      with_reducible refine wpQuiet_step ?_
      intro K hK
      rw[ipQ ug8]
      refine⟨.bool false,fun X hX=>?_,hK _ ?_⟩
      · clear hK;go_simp
      exact sd7
  · have HE:Hid (lcp (yE L) (yE M)=k∧Below w.heap.size w wr):=hH ⟨by
     have:=hh.out.1
     have h2:=zi5 (l:=yE L) (m:=yE M) (k:=k) (by
      simp only[yE,List.length_map,List.length_reverse]
      have:=H.out.2.2.1;have:=H.out.2.2.2;omega)
     omega,hh.out.2⟩
    have hmin:¬(k:Int)<min (n:Int) (m:Int):=by omega
    clear hh hlt hkn hkm
    go_wp2_with fail
    refine wp_region_quiet (C:=fun X=>Below wr.heap.size wr X) kr1 kr1 (below_drewN (BrQ _ wr) 1) ?_
    refine Y5 (fun QQ hQQ=>?_)
    have HQQ:=hH hQQ
    clear hQQ
    with_reducible refine wpQuiet_step ?_
    intro K hK
    rw[ipQ ug8]
    refine⟨.int .i64 (k:Int),fun X hX=>?_,hK _ ?_⟩
    · clear hK;go_simp
    clear hK K
    simp only[Act.put,pgD,pgE,pgF]
    with_reducible refine wpQuiet_step ?_
    intro K hK
    rw[ipQ ug8]
    refine⟨.slice a n ac,fun X hX=>?_,hK _ ?_⟩
    · clear hK;go_simp
    clear hK K
    simp only[Act.put,pgD,pgE,pgF]
    with_reducible refine wpQuiet_step ?_
    intro K hK
    rw[ipQ ug8]
    refine⟨.int .i64 (n:Int),fun X hX=>?_,hK _ ?_⟩
    · clear hK;go_simp
    clear hK K
    simp only[Act.put,pgD,pgE,pgF]
    with_reducible refine wpQuiet_step ?_
    intro K hK
    rw[ipQ ug8]
    refine⟨.slice b m bc,fun X hX=>?_,hK _ ?_⟩
    · clear hK;go_simp
    clear hK K
    simp only[Act.put,pgD,pgE,pgF]
    with_reducible refine wpQuiet_step ?_
    intro K hK
    rw[ipQ ug8]
    refine⟨.int .i64 (m:Int),fun X hX=>?_,hK _ ?_⟩
    · clear hK;go_simp
    clear hK K
    simp only[Act.put,pgD,pgE,pgF]
    with_reducible refine wpQuiet_step ?_
    intro K hK
    rw[ipQ ug8]
    refine⟨.int .i64 (min (n:Int) (m:Int)),fun X hX=>?_,hK _ ?_⟩
    · exact ua4
    clear hK K
    simp only[Act.put,pgD,pgE,pgF]
    with_reducible refine wpQuiet_step ?_
    intro K hK
    rw[ipQ ug8]
    refine⟨.bool false,fun X hX=>?_,hK _ ?_⟩
    · clear hK;go_simp
    clear hK K
    simp only[Act.put,pgD,pgE,pgF]
    with_reducible refine wpQuiet_step ?_
    intro K hK
    rw[ipQ ug8]
    refine⟨.bool false,fun X hX=>?_,hK _ ?_⟩
    · clear hK;go_simp
    clear hK K
    simp only[Act.put,pgD,pgE,pgF]
    with_reducible refine wpQuiet_step ?_
    intro K hK
    rw[inQ ue5]
    with_reducible apply hK
    clear hK K
    simp only[Act.put,pgD,pgE,pgF]
    with_reducible refine wpQuiet_step ?_
    intro K hK
    rw[inQ ue5]
    with_reducible apply hK
    clear hK K
    simp only[Act.put,pgD,pgE,pgF]
    with_reducible refine wpQuiet_step ?_
    intro K hK
    rw[inQ ue5]
    with_reducible apply hK
    clear hK K
    simp only[Act.put,pgD,pgE,pgF]
    with_reducible refine wpQuiet_step ?_
    intro K hK
    rw[inQ ue5]
    with_reducible apply hK
    clear hK K
    simp only[Act.put,pgD,pgE,pgF]
    with_reducible refine wpQuiet_step ?_
    intro K hK
    rw[inQ ue5]
    with_reducible apply hK
    clear hK K
    simp only[Act.put,pgD,pgE,pgF]
    with_reducible refine wpQuiet_step ?_
    intro K hK
    rw[inQ ue5]
    with_reducible apply hK
    clear hK K
    simp only[Act.put,pgD,pgE,pgF]
    with_reducible refine wpQuiet_step ?_
    intro K hK
    rw[inQ ue5]
    with_reducible apply hK
    clear hK K
    simp only[Act.put,pgD,pgE,pgF]
    with_reducible refine wpQuiet_step ?_
    intro K hK
    rw[inQ ue5]
    with_reducible apply hK
    clear hK K
    simp only[Act.put,pgD,pgE,pgF]
    with_reducible refine wpQuiet_step ?_
    intro K hK
    rw[inQ ue5]
    with_reducible apply hK
    clear hK K
    simp only[Act.put,pgD,pgE,pgF]
    with_reducible refine wpQuiet_step ?_
    intro K hK
    rw[inQ ue5]
    with_reducible apply hK
    clear hK K
    simp only[Act.put,pgD,pgE,pgF]
    with_reducible refine wpQuiet_step ?_
    intro K hK
    rw[inQ ue5]
    with_reducible apply hK
    exact sd7
end Go.Proofs.YtgkmmnihaiopaaaGreat
namespace Go.Proofs.YtgkmmnihaiopaaaGreat
open Go.RowKit Go.Shelf
theorem zhS (id:Int)(t:Tr):fpi id 0 (zm t)=(zA id t).map (fun p=>0::p):=by
 simp only[zm,fpi,zA]
 by_cases h:t.id=id
 · rw[ipQ h,ipQ h];rfl
 · rw[inQ h,inQ h]
   cases fpi id 0 t.kids<;>rfl
theorem zaf {root:Fo}:∀(j:Nat) (L:List Fr),qV root L→qV root (L.drop j)
 | 0,_,h=>h
 | j+1,[],h=>by simpa using h
 | j+1,x::L,h=>zaf j L h.tail
theorem jy (L:List Fr):(places L).length=L.length:=by simp[places]
theorem zdL (L:List Fr)(k:Nat)(hk:k<L.length):places (L.drop (L.length - 1 - k))=(places L).take (k+1):=by
 rw[places,places,←List.map_take,List.take_reverse]
 congr 3;omega
theorem Je.at {w' :World}{S:Nat→Prop}{t:Tr}{id:Int}{rv:Value}{L:List Fr}(h:Je w' S t id rv L){k:Nat}(hk:k<L.length):∃(g n cap b off q c pl:Nat) (u:Tr),rv= .slice (some ⟨g,0,none⟩) n cap∧n=L.length∧n≤cap∧w'.cell? ⟨g,k*2,none⟩=some (.slice (some ⟨b,off,none⟩) q c)∧w'.cell? ⟨g,k*2+1,none⟩=some (.int .i64 (pl:Int))∧pl<q∧q≤zb t.kids+1∧
 w'.cell? ⟨b,off+pl*4,none⟩=some (.int .i64 u.id)∧(places L)[k]? =some pl∧atT t (((places L).drop 1).take k)=some u:=by
 obtain⟨x,r,hxr⟩:∃x r,L.drop (L.length - 1 - k)=x::r:=by
  cases hd:L.drop (L.length - 1 - k) with
  | nil=>have:=congrArg List.length hd;rw[List.length_drop,List.length_nil] at this;omega
  | cons x r=>exact⟨x,r,rfl⟩
 have hmem:∀y∈x::r,y∈L:=fun y hy=>by rw[←hxr] at hy;exact List.mem_of_mem_drop hy
 have hxk:L.reverse[k]? =some x:=by
  rw[List.getElem?_reverse hk]
  have h0:(L.drop (L.length - 1 - k))[0]? =some x:=by rw[hxr];rfl
  rwa [List.getElem?_drop,Nat.add_zero] at h0
 obtain⟨a,cap,rfl⟩:=zy h.rows
 have hcap:L.length≤cap:=by
  rcases h.rows.2 with ⟨hv,h0⟩ | ⟨_,_,_,hv,_,_,h3,_⟩
  · omega
  · cases hv;exact h3
 obtain⟨g,rfl,hn,c0,c1,_⟩:=qo.at h.rows hxk
 have hch:=zaf (L.length - 1 - k) L h.chain
 rw[hxr] at hch
 obtain⟨p,u,hp,hat,hu⟩:=zc4 (t:=t) (x::r) hch (fun y hy=>h.ok y (hmem y hy)) x r rfl
 have hok:=h.ok x (hmem x sp1)
 obtain⟨b0,o0,key,l,q,hd,b,off,ka,kc,ha,hSb,d0,_⟩:=(h.lies x (hmem x sp1)).1.at x.p.toNat (by have:=hok.1;have:=hok.2;omega)
 have huk:u=⟨key.1,key.2.1,key.2.2,l⟩:=by rw[zB,hd] at hu;cases hu;rfl
 have hpx:x.p=(x.p.toNat:Int):=by have:=hok.1;omega
 rw[hpx] at c1
 rw[ha] at c0
 have hl:=Zv _ h.chain x (hmem x sp1)
 rw[yt] at hl
 have hpl:places L=(places L).take (k+1)++(places L).drop (k+1):=(List.take_append_drop _ _).symm
 have hpk:=zdL L k hk
 rw[hxr,hp] at hpk
 refine⟨g,L.length,cap,b,off,foLen x.f,x.cap,x.p.toNat,u,rfl,rfl,hcap,c0,c1,by have:=hok.2;have:=hok.1;omega,by omega,by rw[huk];exact d0,?_,?_⟩
 · rw[places,List.getElem?_map,hxk];rfl
 · have e:((places L).drop 1).take k=p:=by
    have h1:(places L).drop 1=((places L).take (k+1)).drop 1++(places L).drop (k+1):=by
     have h2:=List.drop_take (i:=1) (j:=k+1) (l:=places L)
     rw[h2,Nat.add_sub_cancel]
     have h3:=List.take_append_drop k ((places L).drop 1)
     rw[List.drop_drop] at h3
     rw[Nat.add_comm k 1]
     exact h3.symm
    rw[h1,←hpk]
    have hlen:p.length=k:=by
     have:=congrArg List.length hpk
     rw[List.length_take,jy,LlcQ] at this;omega
    simp[hlen]
   rw[e];exact hat
theorem Je.path {w' :World}{S:Nat→Prop}{t:Tr}{id:Int}{rv:Value}{L:List Fr}(h:Je w' S t id rv L):(L= []∧zA id t=none)∨(∃p,zA id t=some p∧places L=0::p∧L.length=p.length+1):=by
 have h1:=h.is
 rw[zhS] at h1
 rcases h1 with ⟨h1,h2⟩ | ⟨h1,h2⟩
 · left
   refine⟨h1,?_⟩
   cases hp:zA id t with
   | none=>rfl
   | some p=>rw[hp] at h2;cases h2
 · right
   cases hp:zA id t with
   | none=>rw[hp] at h2;cases h2
   | some p=>
     rw[hp] at h2
     have h3:=Option.some.inj h2
     exact⟨p,rfl,h3.symm,by rw[←jy,←h3];rfl⟩
theorem Je.kept {w w' :World}{S:Nat→Prop}{t:Tr}{id:Int}{rv:Value}{L:List Fr}(h:Je w S t id rv L)(hb:Below w.heap.size w w'):Je w' S t id rv L:=
 ⟨h.rows.kept fun g hg=>hb.block g (zk h.rows hg).2,h.ok,fun y hy=>⟨(h.lies y hy).1.kept fun k hk=>⟨hk,hb.block k (h.sl k hk)⟩,(h.lies y hy).2⟩,h.chain,h.is,h.few,fun y hy=>nL (h.sl y hy) hb.size⟩
def qN (a b:Int)(t:Tr):Bool:=match zA a t,zA b t with
 | some p,some q=>decide (lcp p q=p.length)
 | _,_=>false
theorem zg (w:World)(o:Obj):Below w.heap.size w (w.alloc o):=(BrQ _ _).alloc (NlrQ _) _
end Go.Proofs.YtgkmmnihaiopaaaGreat
namespace Go.Proofs.YtgkmmnihaiopaaaGreat
open Go.RowKit
theorem Tryz.JN:(Tryz.prog.info? 3).map (fun i=>(i.zero,i.size,i.bytes))=some (some (.int .i64 0),1,8):=by kernel_rfl
def Yg (n:Int):Value:= .int .i64 n
end Go.Proofs.YtgkmmnihaiopaaaGreat
namespace Go.Proofs.YtgkmmnihaiopaaaGreat
open Go.RowKit Go.Shelf
def yY (p:List Nat):List Int:=p.map (fun n:Nat=>(n:Int))
theorem zP (p:List Nat):(yY p).length=p.length:=by simp[yY]
theorem zh6 (W:World)(q:Nat)(h:q≤1000000):∃zs:Array Value,zs.size=q∧(Instr.makeSlice 53 (.int .i64 (q:Int)) (.int .i64 (q:Int))).run Tryz.prog W= .ok (.slice (some ⟨W.heap.size,0,none⟩) q q) (W.alloc (.cells zs 3)):=by
 obtain⟨i0,hi,hz0,hz1,hz2⟩:=info_parts Tryz.JN
 have hr:=run_makeSlice (P:=Tryz.prog) W 53 3 i0 (.int .i64 0) Tryz.underlying53 hi hz0 .i64 .i64 (q:Int) (q:Int) om om (by rw[hz1];omega) (by rw[hz2];omega) om
 rw[hz1] at hr
 exact⟨_,(size_madeCells _ _).trans (Nat.mul_one q),by rw[hr];simp;rfl⟩
def zbv (w:World)(p:Option (List Nat))(e:Ending)(w' :World):Prop:=∃v,e= .returned (.tuple #[v,.bool p.isSome])∧w'.ownsRow w.heap.size 3 1 v (yY (p.getD [])).length ((yY (p.getD [])).map Yg)∧Below w.heap.size w w'
def zcT (W:World)(w0:World)(zs:Array Value)(p:List Nat)(k:Nat)(wr:World):Prop:=wr.ownsRow w0.heap.size 3 1 (.slice (some ⟨W.heap.size,0,none⟩) p.length p.length) p.length (((yY p).map Yg).take k++zs.toList.drop k)∧Below W.heap.size W wr
theorem zcT.step {W w0 wr:World}{zs:Array Value}{p:List Nat}{k x:Nat}{o:Obj}(h:zcT W w0 zs p k wr)(hz:zs.size=p.length)(hx:p[k]? =some x):zcT W w0 zs p (k+1) ((wr.setCell ⟨W.heap.size,k,none⟩ (.int .i64 (x:Int))).alloc o):=by
 have hk:=(List.getElem?_eq_some_iff.1 hx).1
 have h2:=(World.ownsRow.stored h.1 k (.int .i64 (x:Int))).1
 have e:(((yY p).map Yg).take k++zs.toList.drop k).set k (.int .i64 (x:Int))=((yY p).map Yg).take (k+1)++zs.toList.drop (k+1):=by
  have hl:(((yY p).map Yg).take k).length=k:=by rw[List.length_take,List.length_map,zP];omega
  rw[List.set_append_right _ _ om,hl,Nat.sub_self]
  have hz2:k<zs.toList.length:=by rw[Array.length_toList];omega
  rw[←List.getElem_cons_drop hz2,pgE,List.take_add_one]
  have h3:((yY p).map Yg)[k]? =some (.int .i64 (x:Int)):=by rw[List.getElem?_map,yY,List.getElem?_map,hx];rfl
  rw[h3];simp
 rw[e] at h2
 have h4:=h.2.setCell (p:=⟨W.heap.size,k,none⟩) (NlrQ _) (.int .i64 (x:Int))
 exact⟨h2.alloc o,h4.alloc h4.size o⟩
theorem Zj (w:World)(S:Nat→Prop)(nv:Value)(t:Tr)(id:Int)(hS:∀x,S x→x<w.heap.size)(ht:zG w S nv t)(hsz:zb t.kids≤400000):Calls Tryz.prog 95 #[nv,.int .i64 id] w (zbv w (zA id t)):=by
 obtain⟨ka,tc,rfl,hcap,hk⟩:=ht
 have hb:=zg w (.cells #[.int .i64 t.id,.int .i64 t.kind,.string t.text,.slice ka (foLen t.kids) tc] 27)
 have hway:=zfR (w.alloc (.cells #[.int .i64 t.id,.int .i64 t.kind,.string t.text,.slice ka (foLen t.kids) tc] 27)) S _ t id (fun x hx=>nL (hS x hx) hb.size) ⟨ka,tc,rfl,hcap,hk.below hb hS⟩ hsz
 have HC:=hH (aN hway hb)
 obtain⟨n,hn⟩:∃n,n=foLen t.kids:=⟨_,rfl⟩
 rw[←hn] at HC ⊢
 clear hway hb hk hcap hS hn
 go_enter Tryz.func95,Tryz.ntmps95
 go_wp2_with fail
 refine HC.out.1.mono ?_
 rintro e W ⟨rv,L,rfl,hw,hb,_⟩
 have hbW:Below w.heap.size w W:=HC.out.2.trans (hb.mono HC.out.2.size)
 rcases hw.path with ⟨rfl,hp⟩ | ⟨p,hp,hpl,hlen⟩
 · obtain⟨a,c,rfl⟩:=zy hw.rows
   have HE:=hH (aN hp hbW)
   clear hw hb hp hbW HC
   simp only[List.length_nil]
   go_wp2_with fail
   go_ret2
   exact⟨.slice none 0 0,by rw[HE.out.1];rfl,by rw[HE.out.1];exact World.ownsRow_nil _ _ _ _,HE.out.2⟩
 · obtain ⟨m,hm⟩:∃m,m=p.length:=⟨_,rfl⟩
   rw[←hm] at hlen
   obtain⟨g,n2,cap,_,_,_,_,_,_,rfl,rfl,hnc,_⟩:=hw.at (k:=0) om
   have hfew:=hw.few
   have hrow:∀(k x:Nat),p[k]? =some x→∃(a:Option Addr) (q c:Nat),W.cell? ⟨g,2+k*2,none⟩=some (.slice a q c)∧W.cell? ⟨g,2+k*2+1,none⟩=some (.int .i64 (x:Int)):=fun k x hx=>by
    obtain⟨g',_,_,b,off,q,c,pl,u2,e2,_,_,c0,c2,_,_,_,hpk2,_⟩:=hw.at (k:=k+1) (by have:=(List.getElem?_eq_some_iff.1 hx).1;omega)
    cases e2
    rw[hpl,List.getElem?_cons_succ,hx] at hpk2
    cases hpk2
    rw[show (k+1)*2=2+k*2 by omega] at c0 c2
    exact⟨_,_,_,c0,c2⟩
   rw[hlen]
   rw[hlen] at hnc hfew
   obtain⟨zs,hzs,hmk⟩:=zh6 W m om
   have hgl:g<W.heap.size:=(zk hw.rows (g:=g) rfl).2
   have HST:Hid (zcT W w zs p 0 (W.alloc (.cells zs 3))):=hH ⟨⟨by rw[List.take_zero,List.nil_append,List.drop_zero,Array.length_toList];omega,Or.inr ⟨W.heap.size,p.length,zs,rfl,hbW.size,hanQ W _,NlrQ _,by unfold maxLen;omega,by omega,by rw[List.take_zero,List.nil_append,List.drop_zero];rw[List.take_of_length_le (by rw[Array.length_toList];omega)]⟩⟩,zg W _⟩
   have HE:=hH (aN hp (aN hbW (aN hm (aN hrow hzs))))
   have hmb:m≤1000000:=by omega
   have hmz:((m:Int)+1 == 0)=false:=by simp;omega
   have hmw:IntKind.i64.wrap (m:Int)=(m:Int):=IntWalk.i64_in _ om
   have hm1:(1:Int)≤(m:Int)+1:=by omega
   have hcc:(m:Int)+1≤(cap:Int):=by omega
   clear hw hb hp hbW HC hlen hpl hrow hzs hfew hm
   go_wp2_with fail
   all_goals
    go_loopw [23] (fun i wr=>∃k:Nat,k≤m∧i= .int .i64 (k:Int)∧Hid (zcT W w zs p k wr)) (fun i _=>m - (intOf i).toNat)
    case atStart=>exact⟨0,NzlQ _,rfl,HST⟩
    case round=>
     obtain⟨k,hk,rfl,hh⟩:=hrel
     clear HST
     by_cases hlt:k<m
     · first
        | (exfalso;omega)
        | (obtain⟨x,hx⟩:∃x,p[k]? =some x:=⟨_,List.getElem?_eq_getElem (by rw[←HE.out.2.2.1];exact hlt)⟩
           obtain⟨a,q,c,c0,c1⟩:=HE.out.2.2.2.1 k x hx
           obtain⟨v0,hv0⟩:∃v0,zs.toList[k]? =some v0:=⟨_,List.getElem?_eq_getElem (by rw[Array.length_toList,HE.out.2.2.2.2];exact hlt)⟩
           have hown:=hh.out.1
           have hcell:=World.ownsRow.cellAt hown k (by rw[←HE.out.2.2.1];omega)
           have hfz:=World.ownsRow.frozenAt hown k
           rw[List.getElem?_append_right (by rw[List.length_take,List.length_map,zP];omega),List.length_take,List.length_map,zP,List.getElem?_drop,show k+(k - min k p.length)=k by (have:=HE.out.2.2.1;omega),hv0] at hcell
           have d0:wr.cell? ⟨g,2+k*2,none⟩=some (.slice a q c):=(hh.out.2.cell (p:=⟨g,2+k*2,none⟩) hgl).trans c0
           have d1:wr.cell? ⟨g,2+k*2+1,none⟩=some (.int .i64 (x:Int)):=(hh.out.2.cell (p:=⟨g,2+k*2+1,none⟩) hgl).trans c1
           have hWl:W.heap.size<wr.heap.size:=(World.block_lt_of_cell? _ _ hcell)
           have hcellA:∀o,(wr.alloc o).cell? ⟨W.heap.size,k,none⟩=some v0:=fun o=>(World.cell?_of_block (BhaQ wr o W.heap.size hWl)).trans hcell
           have hfzA:∀o,(wr.alloc o).frozen? ⟨W.heap.size,k,none⟩=false:=fun o=>(World.frozen?_of_block (BhaQ wr o W.heap.size hWl)).trans hfz
           have hnx:=fun o=>hh.out.step (o:=o) (by rw[HE.out.2.2.2.2];exact HE.out.2.2.1) hx
           have HN:=hH hnx
           have hki:(k:Int)<(m:Int):=by omega
           have HLT:=hH hlt
           clear hx c0 c1 hv0 hown hcell hfz hnx hlt hk hh
           go_wp2_with fail
           exact⟨⟨k+1,by have:=HLT.out;omega,by go_num,hH (HN.out _)⟩,by have:=HLT.out;simp[intOf];omega⟩)
     · have hki:¬(k:Int)<(m:Int):=by omega
       have hkm:k=m:=by omega
       have HO:=hH (aN hh.out hkm)
       clear hh hk hlt hkm
       go_wp2_with fail
       go_ret2
       obtain⟨⟨ho,hb9⟩,hkm⟩:=HO.out
       refine⟨.slice (some ⟨W.heap.size,0,none⟩) m m,by rw[HE.out.1];rfl,?_,HE.out.2.1.trans (hb9.mono HE.out.2.1.size)⟩
       rw[HE.out.1]
       show World.ownsRow _ _ _ _ _ (yY p).length ((yY p).map Yg)
       rw[zP]
       rw[List.take_of_length_le (by rw[List.length_map,zP];have:=HE.out.2.2.1;omega),List.drop_eq_nil_of_le (by rw[Array.length_toList];have:=HE.out.2.2.2.2;omega),List.append_nil] at ho
       rw[HE.out.2.2.1]
       exact ho
theorem zh2 (p q:List Nat):lcp (0::p) (0::q)=lcp p q+1:=by simp[lcp]
theorem zi6 (l:List Nat):lcp ([]:List Nat) l=0:=by simp[lcp]
theorem zdx (l:List Nat):lcp l ([]:List Nat)=0:=by cases l<;>simp[lcp]
theorem zaY:places []= []:=rfl
theorem zfq (w:World)(S:Nat→Prop)(nv:Value)(t:Tr)(a b:Int)(hS:∀x,S x→x<w.heap.size)(ht:zG w S nv t)(hsz:zb t.kids≤400000):Calls Tryz.prog 97 #[nv,.int .i64 a,.int .i64 b] w fun e w'=>e= .returned (.bool (qN a b t))∧Below w.heap.size w w':=by
 obtain⟨ka,tc,rfl,hcap,hk⟩:=ht
 obtain⟨B,hB⟩:∃B,B=w.alloc (.cells #[.int .i64 t.id,.int .i64 t.kind,.string t.text,.slice ka (foLen t.kids) tc] 27):=⟨_,rfl⟩
 have hb:=zg w (.cells #[.int .i64 t.id,.int .i64 t.kind,.string t.text,.slice ka (foLen t.kids) tc] 27)
 have hbx:=hanQ w (.cells #[.int .i64 t.id,.int .i64 t.kind,.string t.text,.slice ka (foLen t.kids) tc] 27)
 rw[←hB] at hb hbx
 have hway:=fun (i:Int) (X:World) (hX:Below B.heap.size B X)=>zfR X S (.agg #[.int .i64 t.id,.int .i64 t.kind,.string t.text,.slice ka (foLen t.kids) tc]) t i (fun x hx=>nL (hS x hx) (NltQ hb.size hX.size)) ⟨ka,tc,rfl,hcap,hk.below (hb.trans (hX.mono hb.size)) hS⟩ hsz
 obtain⟨n,hn⟩:∃n,n=foLen t.kids:=⟨_,rfl⟩
 rw[←hn] at hB hbx
 simp only[←hn] at hway
 have HC:=hH (aN hway (aN hb (aN hB hbx)))
 rw[←hn]
 obtain⟨pr,hpr⟩:∃pr,pr=qN a b t:=⟨_,rfl⟩
 have HP:=hH hpr
 have hpe:(.bool (qN a b t):Value)=(.bool (pr)):=by rw[hpr]
 rw[hpe]
 clear hway hb hk hcap hS hn hpr hpe hB hbx
 go_enter Tryz.func97,Tryz.ntmps97
 go_wp2_with fail
 rw[←HC.out.2.2.1]
 refine (HC.out.1 a B (BrQ _ _)).mono ?_
 rintro e W ⟨rv,L,rfl,hw,hb,_⟩
 have hbxW:=(hb.block _ (lohQ HC.out.2.2.2)).trans HC.out.2.2.2
 have n0:W.cell? ⟨w.heap.size,0,none⟩=some (.int .i64 t.id):=by rw[corQ _ _ 0 _ _ _ hbxW];rfl
 have n1:W.cell? ⟨w.heap.size,1,none⟩=some (.int .i64 t.kind):=by rw[corQ _ _ 1 _ _ _ hbxW];rfl
 have n2:W.cell? ⟨w.heap.size,2,none⟩=some (.string t.text):=by rw[corQ _ _ 2 _ _ _ hbxW];rfl
 have n3:W.cell? ⟨w.heap.size,3,none⟩=some (.slice ka n tc):=by rw[corQ _ _ 3 _ _ _ hbxW];rfl
 have HW:=hH (aN hw hb)
 clear hw hb hbxW
 go_wp2_with fail
 refine (HC.out.1 b W HW.out.2).mono ?_
 rintro e W2 ⟨rv2,L2,rfl,hw2,hb2,_⟩
 have hw:=HW.out.1.kept hb2
 have hb9:Below w.heap.size w W2:=(HC.out.2.1.trans (HW.out.2.mono HC.out.2.1.size)).trans (hb2.mono (NltQ HC.out.2.1.size HW.out.2.size))
 have hsh:=zfi W2 rv rv2 L L2 hw.rows hw2.rows (by have:=hw.few;omega) (by have:=hw2.few;omega)
 rw[zeV L L2 hw.ok hw2.ok] at hsh
 have H2:=hH (aN hw (aN hw2 hb9))
 have HSH:=hH hsh
 clear hw hw2 hb2 hb9 hsh n0 n1 n2 n3
 go_wp2_with fail
 refine HSH.out.mono ?_
 rintro e W3 ⟨rfl,hb3⟩
 have hw3:=H2.out.1.kept hb3
 have hbz:Below w.heap.size w W3:=H2.out.2.2.trans (hb3.mono H2.out.2.2.size)
 obtain⟨ra,rc,rfl⟩:=zy hw3.rows
 obtain⟨m,hm⟩:∃m,m=lcp (places L) (places L2):=⟨_,rfl⟩
 obtain⟨len,hlen⟩:∃len,len=L.length:=⟨_,rfl⟩
 have hml:=zh4 (places L) (places L2)
 rw[jy,jy,←hm,←hlen] at hml
 have hfew:=hw3.few
 rw[←hlen] at hfew
 have hres:pr=(decide (0<m) && decide (m=len)):=by
  rw[HP.out,qN]
  rcases H2.out.1.path with ⟨h1,h2⟩ | ⟨p,h2,h3,h4⟩
  · rw[h2,hm,h1,zaY,zi6];rfl
  · rw [h2]
    rcases H2.out.2.1.path with ⟨g1,g2⟩ | ⟨q,g2,g3,g4⟩
    · rw[g2,hm,g1,zaY,zdx];simp
    · rw[g2,hm,h3,g3,zh2,hlen,h4]
      simp only[]
      rw[show decide (0<lcp p q+1)=true by simp,Bool.true_and]
      rw[decide_eq_decide];omega
 have HE:=hH (aN hres hbz)
 rw[←hm]
 rw[←hlen]
 clear hw3 hbz hb3 hres hm hlen hfew HSH HW HC
 by_cases h0:0<m
 · have h0i:(0:Int)<(m:Int):=by omega
   by_cases hq:m=len
   · have hqi:((m:Int) == (len:Int))=true:=by simp;omega
     have HQ:=hH (aN h0 hq)
     clear hq h0
     go_wp2_with fail
     go_ret
     exact⟨congrArg (fun z=>Ending.returned (.bool z)) (by rw[HE.out.1];simp[HQ.out.1,HQ.out.2]<;>(have:=HQ.out.1;have:=HQ.out.2;omega)),HE.out.2⟩
   · have hqi:((m:Int) == (len:Int))=false:=by simp;omega
     have HQ:=hH (aN h0 hq)
     clear hq h0
     go_wp2_with fail
     go_ret
     exact⟨congrArg (fun z=>Ending.returned (.bool z)) (by rw[HE.out.1];simp[HQ.out.2]),HE.out.2⟩
 · have h0i:¬(0:Int)<(m:Int):=by omega
   have HQ:=hH h0
   clear h0
   go_wp2_with fail
   go_ret
   exact⟨congrArg (fun z=>Ending.returned (.bool z)) (by rw[HE.out.1];simp[HQ.out]),HE.out.2⟩
def jg (w:World)(S:Nat→Prop)(a:Option Addr)(cap:Nat)(l:List Int):Prop:=l.length≤cap∧(l= []∨∃b off,a=some ⟨b,off,none⟩∧S b∧∀k x,l[k]? =some x→w.cell? ⟨b,off+k,none⟩=some (.int .i64 x))
theorem jg.kept {w w' :World}{S S' :Nat→Prop}{a:Option Addr}{cap:Nat}{l:List Int}(h:jg w S a cap l)(hS:∀k,S k→S' k∧w'.heap[k]? =w.heap[k]?):jg w' S' a cap l:=by
 obtain⟨h0,h1⟩:=h
 refine⟨h0,h1.imp (fun h=>h) ?_⟩
 rintro ⟨b,off,e,hb,hc⟩
 exact⟨b,off,e,(hS b hb).1,fun k x hx=>(World.cell?_of_block (hS b hb).2).trans (hc k x hx)⟩
theorem Yr {w:World}{B:Nat}{a:Option Addr}{cap n:Nat}{l:List Int}(h:w.ownsRow B 3 1 (.slice a n cap) n (l.map Yg)):jg w (fun y=>B≤y∧y<w.heap.size) a cap l∧n=l.length:=by
 have hl:n=l.length:=by have:=h.1;rw[List.length_map] at this;omega
 rcases h.2 with ⟨hv,h0⟩ | ⟨g,c',cur,hv,hB,hh,h3,h4,h5,h6⟩
 · cases hv
   exact⟨⟨by omega,Or.inl (List.length_eq_zero_iff.1 om)⟩,hl⟩
 · cases hv
   refine⟨⟨by omega,Or.inr ⟨g,0,rfl,⟨hB,lt_of_some hh⟩,fun k x hx=>?_⟩⟩,hl⟩
   rw[Nat.zero_add]
   exact zF h rfl k _ (by rw[List.getElem?_map,hx];rfl)
theorem jg.drop {w:World}{S:Nat→Prop}{b off cap:Nat}{l:List Int}(h:jg w S (some ⟨b,off,none⟩) cap l)(m:Nat):jg w S (some ⟨b,off+m,none⟩) (cap - m) (l.drop m):=by
 obtain⟨h0,h1⟩:=h
 refine⟨by rw[List.length_drop];omega,?_⟩
 rcases h1 with h1 | ⟨b',off',e,hb,hc⟩
 · exact Or.inl (by rw[h1];simp)
 · cases e
   refine Or.inr ⟨b,off+m,rfl,hb,fun k x hx=>?_⟩
   rw[List.getElem?_drop] at hx
   have:=hc (m+k) x hx
   rw[Nat.add_assoc];exact this
def kP (w:World)(S:Nat→Prop)(u:Tr)(b off:Nat):Prop:=S b∧w.cell? ⟨b,off,none⟩=some (.int .i64 u.id)∧w.cell? ⟨b,off+1,none⟩=some (.int .i64 u.kind)∧w.cell? ⟨b,off+2,none⟩=some (.string u.text)∧∃ka kc,w.cell? ⟨b,off+3,none⟩=some (.slice ka (foLen u.kids) kc)∧foLen u.kids≤kc∧zt w S u.kids ka
def vB:Fo→Nat→Tr→Fo
 | .nil,_,_=> .nil
 | .node b o k l r,0,u=> .node b o (u.id,u.kind,u.text) u.kids r
 | .node b o k l r,i+1,u=> .node b o k l (vB r i u)
def zO:Tr→List Nat→Tr→Tr
 | _,[],x=>x
 | t,i::p,x=>match zB t.kids i with
   | none=>t
   | some u=>⟨t.id,t.kind,t.text,vB t.kids i (zO u p x)⟩
theorem Zm:∀(f:Fo) (i:Nat) (u:Tr),foLen (vB f i u)=foLen f
 | .nil,_,_=>rfl
 | .node _ _ _ _ _,0,_=>rfl
 | .node _ _ _ _ r,i+1,u=>by simp[vB,foLen,Zm r i u]
theorem zaK:∀(f:Fo) (i:Nat) (u:Tr),i<foLen f→zB (vB f i u) i=some u
 | .nil,_,_,h=>by simp[foLen] at h
 | .node _ _ _ _ _,0,_,_=>rfl
 | .node _ _ _ _ r,i+1,u,h=>by
   have:=zaK r i u uf1
   simpa [zB,vB,zq] using this
theorem zd1:∀(f:Fo) (i:Nat) (u v:Tr),vB (vB f i u) i v=vB f i v
 | .nil,_,_,_=>rfl
 | .node _ _ _ _ _,0,_,_=>rfl
 | .node _ _ _ _ r,i+1,u,v=>by simp[vB,zd1 r i u v]
theorem ji:∀(p:List Nat) (t:Tr) (r:List Nat),atT t (p++r)=(atT t p).bind fun u=>atT u r
 | [],t,r=>rfl
 | i ::p,t,r=>by
   simp only[List.cons_append,atT]
   cases zB t.kids i with
   | none=>rfl
   | some u=>exact ji p u r
theorem Jt:∀(p:List Nat) (t u v x:Tr) (i:Nat),atT t p=some u→zB u.kids i=some v→zO t (p++[i]) x=zO t p ⟨u.id,u.kind,u.text,vB u.kids i x⟩
 | [],t,u,v,x,i,h,hv=>by cases h;simp[zO,hv]
 | j ::p,t,u,v,x,i,h,hv=>by
   simp only[atT] at h
   simp only[List.cons_append,zO]
   cases hk:zB t.kids j with
   | none=>simp[hk] at h
   | some w=>rw[hk] at h;simp only at h ⊢;rw[Jt p w u v x i h hv]
theorem kV {f:Fo}{i:Nat}{u v:Tr}(h:zB f i=some u):qF u v=true→y7 (vB f i v) f=true:=by
 have sameK_symm:∀a b:Int×Int×ByteArray,je a b=je b a:=fun a b=>by
  unfold je
  rw[decide_eq_decide]
  constructor<;>(rintro ⟨h1,h2,h3⟩;exact⟨h1.symm,h2.symm,h3.symm⟩)
 have sameF_symm:∀f g:Fo,y7 f g=y7 g f:=by
  intro f
  induction f with
  | nil=>intro g;cases g<;>rfl
  | node b o a l r ihl ihr=>
    intro g
    cases g with
    | nil=>rfl
    | node b' o' a' l' r'=>
      simp only[y7]
      rw[sameK_symm,ihl,ihr]
      congr 2
      rw[show decide (foLen l=foLen l')=decide (foLen l'=foLen l) from by rw[decide_eq_decide];exact eq_comm]
 intro hs
 have key:∀(f:Fo) (i:Nat),zB f i=some u→y7 (vB f i v) f=true:=by
  intro f
  induction f with
  | nil=>intro i h;cases i<;>simp[zB,zq,yZ] at h
  | node b o k l r ihl ihr=>
    intro i h
    cases i with
    | zero=>
      simp only[zB,zq,yZ] at h
      cases h
      simp only[vB,y7,vO,Bool.and_true]
      simp only[qF] at hs
      rw[Bool.and_eq_true,Bool.and_eq_true] at hs
      rw[sameK_symm,hs.1,sameF_symm,hs.2.2]
      simp only[Bool.true_and,Bool.and_true]
      have:=hs.2.1
      rw[decide_eq_true_iff] at this ⊢
      exact this.symm
    | succ i=>
      have:=ihr i uf4
      simp only[vB,y7,this,vO,Bool.and_true]
      simp[je]
 exact key f i h
def zgZ (w:World)(S:Nat→Prop):Nat→Fo→Nat→Nat→Prop
 | _,.nil,_,_=>True
 | 0,.node _ _ _ _ r,b,off=>zt w S r (some ⟨b,off+4,none⟩)
 | i+1,.node _ _ k l r,b,off=>kP w S ⟨k.1,k.2.1,k.2.2,l⟩ b off∧zgZ w S i r b (off+4)
theorem zad:∀(f:Fo) (i:Nat) {w:World} {S:Nat→Prop} {u:Tr} {b off:Nat},zgZ w S i f b off→kP w S u b (off+i*4)→i<foLen f→zt w S (vB f i u) (some ⟨b,off,none⟩)
 | .nil,_,_,_,_,_,_,_,_,h=>by simp[foLen] at h
 | .node _ _ k l r,0,w,S,u,b,off,h,hn,_=>by
   obtain⟨h0,h1,h2,h3,ka,kc,h4,h5,h6⟩:=hn
   simp only[Nat.zero_mul,Nat.add_zero] at h1 h2 h3 h4
   exact⟨b,off,ka,kc,rfl,h0,h1,h2,h3,h4,h5,h6,h⟩
 | .node _ _ k l r,i+1,w,S,u,b,off,h,hn,hi=>by
   obtain⟨⟨h0,h1,h2,h3,ka,kc,h4,h5,h6⟩,hr⟩:=h
   refine⟨b,off,ka,kc,rfl,h0,h1,h2,h3,h4,h5,h6,zad r i hr ?_ ue7⟩
   rw[show off+4+i*4=off+(i+1)*4 by omega];exact hn
theorem zcd:∀(f:Fo) (i:Nat) (xs:List Value) {w w' :World} {S S' :Nat→Prop} {b off:Nat},yD w S f xs→i<foLen f→S' b→(∀y,S y→S' y∧w'.heap[y]? =w.heap[y]?)→(∀j u,xs[j]? =some u→(j<i*4∨i*4+4≤j)→w'.cell? ⟨b,off+j,none⟩=some u)→zgZ w' S' i f b off
 | .nil,_,_,_,_,_,_,_,_,_,h,_,_,_=>by simp[foLen] at h
 | .node _ _ k l r,0,xs,w,w',S,S',b,off,hf,_,hb,hS,hc=>by
   obtain⟨ka,cap,ys,e,hcp,hkl,hr⟩:=hf
   subst e
   refine yD.lies hb (off+4) (hr.kept hS) fun j u hu=>?_
   have:=hc (j+4) u ud4 (Or.inr om)
   rw[show off+4+j=off+(j+4) by omega];exact this
 | .node _ _ k l r,i+1,xs,w,w',S,S',b,off,hf,hi,hb,hS,hc=>by
   obtain⟨ka,cap,ys,e,hcp,hkl,hr⟩:=hf
   subst e
   refine⟨⟨hb,hc 0 _ rfl (Or.inl om),hc 1 _ rfl (Or.inl om),hc 2 _ rfl (Or.inl om),ka,cap,hc 3 _ rfl (Or.inl om),hcp,hkl.kept hS⟩,zcd r i ys hr ue7 hb hS fun j u hu hj=>?_⟩
   have:=hc (j+4) u ud4 om
   rw[show off+4+j=off+(j+4) by omega];exact this
theorem zhQ:∀(f:Fo) {w:World} {S:Nat→Prop} {b off:Nat},zt w S f (some ⟨b,off,none⟩)→∃xs,yD w S f xs∧xs.length=foLen f*4∧(∀j u,xs[j]? =some u→w.cell? ⟨b,off+j,none⟩=some u)∧∀u∈xs,u.oneCell'=true
 | .nil,_,_,_,_,_=>⟨[],rfl,rfl,fun _ _ h=>by simp at h,fun _ h=>by cases h⟩
 | .node _ _ k l r,w,S,b,off,h=>by
   obtain⟨b',off',ka,kc,e,hb,c0,c1,c2,c3,hcp,hkl,hr⟩:=h
   cases e
   obtain⟨ys,h1,h2,h3,h4⟩:=zhQ r hr
   exact sc5
theorem zck (f:Fo){w:World}{S:Nat→Prop}{a:Option Addr}(h:zt w S f a):∃xs,yD w S f xs∧xs.length=foLen f*4∧(∀ad,a=some ad→∀j u,xs[j]? =some u→w.cell? (ad.add j)=some u)∧(∀u∈xs,u.oneCell'=true):=by
 cases f with
 | nil=>exact⟨[],rfl,rfl,fun _ _ _ _ h=>by simp at h,fun _ h=>by cases h⟩
 | node b0 o0 k l r=>
   have h':=h
   obtain⟨b',off',ka,kc,e,_⟩:=h'
   subst e
   obtain⟨xs,h1,h2,h3,h4⟩:=zhQ _ h
   exact⟨xs,h1,h2,fun ad hd j u hu=>by cases hd;rw[Addr.add_mid];exact h3 j u hu,h4⟩
theorem jo {f:Fo}{i:Nat}{u:Tr}(h:zB f i=some u):zb u.kids+1≤zb f:=by
 have h2:=Yc h
 have h3:∀(j:Nat) (f:Fo),zb (zq j f)≤zb f:=by
  exact sh5
 have:=h3 i f
 omega
theorem za7:∀(f:Fo) (i:Nat) (u v:Tr),zB f i=some u→zb (vB f i v)+zb u.kids=zb f+zb v.kids
 | .nil,i,_,_,h=>by cases i<;>simp[zB,zq,yZ] at h
 | .node _ _ k l r,0,u,v,h=>by
   simp only[zB,zq,yZ] at h
   cases h
   simp only[vB,zb];omega
 | .node _ _ k l r,i+1,u,v,h=>by
   have:=za7 r i u v uf4
   simp only[vB,zb];omega
theorem Q7:∀(p:List Nat) (t u v:Tr),atT t p=some u→qF u v=true→qF (zO t p v) t=true
 | [],t,u,v,h,hs=>by
   cases h
   have e:zO t [] v=v:=rfl
   rw[e]
   have:=kV (f:=zm t) (i:=0) (u:=t) (v:=v) rfl hs
   simp only[zm,vB,y7,Bool.and_true] at this
   simp only[qF];exact this
 | i :: p,t,u,v,h,hs=>by
   simp only[atT] at h
   simp only[zO]
   cases hk:zB t.kids i with
   | none=>rw[hk] at h;cases h
   | some w=>
     rw[hk] at h
     simp only at h ⊢
     have h1:=Q7 p w u v h hs
     have h2:qF w (zO w p v)=true:=by
      have:=kV (f:=zm (zO w p v)) (i:=0) (u:=zO w p v) (v:=w) rfl h1
      simp only[zm,vB,y7,Bool.and_true] at this
      simp only[qF];exact this
     have h3:=kV hk h2
     simp only[qF,h3,Zm]
     simp[je]
def NB (X:World)(y:Nat):Prop:=∃cs,X.heap[y]? =some (.cells cs 27 (0,0))
def SN (S:Nat→Prop)(B0:Nat)(X:World)(y:Nat):Prop:=S y∨(y≠B0+1∧B0≤y∧NB X y)
theorem NB.lt {X:World}{y:Nat}(h:NB X y):y<X.heap.size:=by obtain⟨cs,h⟩:=h;exact lt_of_some h
theorem SN.lt {S:Nat→Prop}{B0:Nat}{X:World}(hS:∀y,S y→y<B0)(hB:B0≤X.heap.size){y:Nat}(h:SN S B0 X y):y<X.heap.size:=by
 rcases h with h | h
 · have:=hS y h;omega
 · exact h.2.2.lt
theorem NB.Js {X Y:World}{y:Nat}(h:NB X y)(e:Y.heap[y]? =X.heap[y]?):NB Y y:=by obtain⟨cs,h⟩:=h;exact⟨cs,e.trans h⟩
theorem jX {w:World}{B:Nat}{e:TypeId}{size:Nat}{v:Value}{n:Nat}{xs:List Value}(h:w.ownsRow B e size v n xs){g:Nat}(hg:v.ownBlock=some g):∃cur,w.heap[g]? =some (.cells cur e (0,0)):=by
 rcases h.2 with ⟨hv,_⟩ | ⟨g',cap,cur,hv,hB,hh,_⟩
 · rw[hv] at hg;cases hg
 · rw[hv] at hg;cases hg;exact⟨cur,hh⟩
theorem zfB {Y:World}{S:Nat→Prop}{g:Nat}(hg:S g):∀(l:Fo) (b off go:Nat),(∀j,j<foLen l*4→Y.cell? ⟨g,go+j,none⟩=Y.cell? ⟨b,off+j,none⟩)→zt Y S l (some ⟨b,off,none⟩)→zt Y S l (some ⟨g,go,none⟩)
 | .nil,_,_,_,_,_=>True.intro
 | .node _ _ k l r,b,off,go,hc,h=>by
   obtain⟨b',off',ka,cap,e,hb,h0,h1,h2,h3,hcp,hl,hr⟩:=h
   cases e
   have c0:=hc 0 ue0
   have c1:=hc 1 ue0
   have c2:=hc 2 ue0
   have c3:=hc 3 ue0
   refine⟨g,go,ka,cap,rfl,hg,c0.trans h0,c1.trans h1,c2.trans h2,c3.trans h3,hcp,hl,zfB hg r _ _ _ (fun j hj=>?_) hr⟩
   have:=hc (4+j) ue0
   rw[Nat.add_assoc,Nat.add_assoc];exact this
theorem Zn {Y:World}{S:Nat→Prop}{g off n c c' :Nat}{ka ka' :Option Addr}(h3:Y.cell? ⟨g,off,none⟩=some (.slice ka n c))(hc:n≤c')(hcopy:∀l,foLen l=n→zt Y S l ka→zt Y S l ka'):
 ∀(f:Fo) (a:Option Addr),zt Y S f a→zt (Y.setCell ⟨g,off,none⟩ (.slice ka' n c')) S f a
 | .nil,_,_=>True.intro
 | .node _ _ k l r,a,h=>by
   obtain⟨b,o,kb,cap,e,hb,h0,h1,h2,h4,hcp,hl,hr⟩:=h
   have hoth:∀j v,Y.cell? ⟨b,j,none⟩=some v→(∀x m q,v≠ .slice x m q)→(Y.setCell ⟨g,off,none⟩ (.slice ka' n c')).cell? ⟨b,j,none⟩=some v:=fun j v hv hne=>by
    rw [World.cell?_setCell_other _ _ _ _ (by
     intro he
     rw[←he,h3] at hv
     exact hne _ _ _ (Option.some.inj hv).symm)]
    exact hv
   refine⟨b,o,?_⟩
   by_cases he:b=g∧o+3=off
   · obtain⟨rfl,rfl⟩:=he
     rw[h3] at h4
     cases h4
     refine⟨ka',c',e,hb,hoth _ _ h0 (by intros;simp),hoth _ _ h1 (by intros;simp),hoth _ _ h2 (by intros;simp),?_,hc,Zn h3 hc hcopy l ka' (hcopy l rfl hl),Zn h3 hc hcopy r _ hr⟩
     exact World.cell?_setCell_same' Y _ _ (by rw[h3];rfl)
   · refine⟨kb,cap,e,hb,hoth _ _ h0 (by intros;simp),hoth _ _ h1 (by intros;simp),hoth _ _ h2 (by intros;simp),?_,hcp,Zn h3 hc hcopy l kb hl,Zn h3 hc hcopy r _ hr⟩
     rw[World.cell?_setCell_other _ _ _ _ (by intro h;cases h;exact he ⟨rfl,rfl⟩)]
     exact h4
theorem zeA {X Y:World}{S:Nat→Prop}{B0 n c' :Nat}{ka ka' :Option Addr}{f:Fo}{xs:List Value}(hS:∀y,S y→y<B0)(hB:B0+1<X.heap.size)(hY:Below X.heap.size X Y)(hf:zt X (SN S B0 X) f ka)(hr:yD X (SN S B0 X) f xs)(hn:n=foLen f)(hl:xs.length=n*4)(hc:∀ad,ka=some ad→∀j u,xs[j]? =some u→X.cell? (ad.add j)=some u)
 (ho:Y.ownsRow X.heap.size 27 4 (.slice ka' n c') n xs):
 n≤c'∧zt Y (SN S B0 Y) f ka'∧(0<n→∃g,ka'=some ⟨g,0,none⟩∧X.heap.size≤g∧NB Y g)∧(∀l,foLen l=n→zt Y (SN S B0 Y) l ka→zt Y (SN S B0 Y) l ka')∧(∀l a,zt X (SN S B0 X) l a→zt Y (SN S B0 Y) l a):=by
 have hkeep:∀y,SN S B0 X y→SN S B0 Y y∧Y.heap[y]? =X.heap[y]?:=fun y hy=>by
  have h1:=hY.block y (hy.lt hS om)
  exact⟨hy.imp (fun h=>h) (fun h=>⟨h.1,h.2.1,h.2.2.Js h1⟩),h1⟩
 have hall:∀l a,zt X (SN S B0 X) l a→zt Y (SN S B0 Y) l a:=fun l a h=>h.kept hkeep
 have hz:n=0→∀l:Fo,foLen l=n→∀a,zt Y (SN S B0 Y) l a:=fun h0 l hl a=>by
  cases l with
  | nil=>exact True.intro
  | node b o k p q=>simp[foLen] at hl;omega
 rcases ho.2 with ⟨hv,h0⟩ | ⟨g,cc,cur,hv,hg,hh,hnc,_⟩
 · cases hv
   exact⟨by omega,hz om f hn.symm _,fun h=>by omega,fun l hl _=>hz om l hl _,hall⟩
 · cases hv
   have hgN:NB Y g:=⟨cur,hh⟩
   have hcell:=fun j u hj=>zF ho (g:=g) rfl j u hj
   have hfk:zt Y (SN S B0 Y) f (some ⟨g,0,none⟩):=yD.lies (Or.inr ⟨by omega,by omega,hgN⟩) 0 (hr.kept hkeep) (fun j u hj=>by rw[Nat.zero_add];exact hcell j u hj)
   refine⟨hnc,hfk,fun _=>⟨g,rfl,hg,hgN⟩,fun l hll hla=>?_,hall⟩
   by_cases h0:n=0
   · exact hz h0 l hll _
   · cases l with
     | nil=>exact True.intro
     | node b o k p q=>
       have hla':=hla
       obtain⟨b',off',kb,cap,e,hb,_⟩:=hla'
       subst e
       cases f with
       | nil=>simp[foLen] at hn;omega
       | node b1 o1 k1 p1 q1=>
         obtain⟨b2,off2,kb2,cap2,e2,hb2,_⟩:=hf
         cases e2
         refine zfB (Or.inr ⟨by omega,by omega,hgN⟩) _ b' off' 0 (fun j hj=>?_) hla
         rw[hll,←hl] at hj
         have hx:xs[j]? =some xs[j]:=List.getElem?_eq_getElem hj
         have h1:=hc _ rfl j _ hx
         rw[Addr.add_mid] at h1
         rw[Nat.zero_add,hcell j _ hx,World.cell?_of_block (a:=⟨b',off'+j,none⟩) (hkeep b' hb2).2,h1]
theorem ziU {w:World}{S:Nat→Prop}{f:Fo}{a:Option Addr}(h:zt w S f a)(ha:a=none):foLen f=0:=by
 cases f with
 | nil=>rfl
 | node b o k l r=>obtain⟨_,_,_,_,e,_⟩:=h;rw[ha] at e;cases e
end Go.Proofs.YtgkmmnihaiopaaaGreat
