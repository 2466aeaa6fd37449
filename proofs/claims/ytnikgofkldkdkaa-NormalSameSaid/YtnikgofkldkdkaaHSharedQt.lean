/-
  .
-/
import Derived.Test.YtnikgofkldkdkaaHWalkPQt
set_option maxRecDepth 100000
set_option maxHeartbeats 40000000
namespace Go.Proofs.Ytnikgofkldkdkaa
open Go.RowKit
set_option linter.unusedVariables false
set_option linter.unusedSimpArgs false
def lcp {α:Type} [DecidableEq α]:List α→List α→Nat
 | a::l,b::m=>if a=b then lcp l m+1 else 0
 | _,_=>0
theorem zhP {α:Type} [DecidableEq α]:∀(l m:List α),lcp l m≤l.length∧lcp l m≤m.length
 | [],_=>by simp[lcp]
 | _::_,[]=>by simp[lcp]
 | a ::l,b::m=>by
   have:=zhP l m
   simp only[lcp,LlcQ]
   split<;>omega
theorem zhO {α:Type} [DecidableEq α] {l m:List α}{k:Nat}{x y:α}(hx:l[k]? =some x)(hy:m[k]? =some y):lcp (l.drop k) (m.drop k)=if x=y then lcp (l.drop (k+1)) (m.drop (k+1))+1 else 0:=by
 obtain⟨h1,h2⟩:=List.getElem?_eq_some_iff.1 hx
 obtain⟨h3,h4⟩:=List.getElem?_eq_some_iff.1 hy
 rw[←List.getElem_cons_drop h1,←List.getElem_cons_drop h3,h2,h4,lcp]
theorem zi2 {α:Type} [DecidableEq α] {l m:List α}{k:Nat}(h:l.length≤k∨m.length≤k):lcp (l.drop k) (m.drop k)=0:=by
 rcases h with h | h
 · rw[List.drop_eq_nil_of_le h];simp[lcp]
 · rw[List.drop_eq_nil_of_le h]
   cases l.drop k<;>simp[lcp]
theorem zfb {α β:Type} [DecidableEq α] [DecidableEq β] (f:α→β):∀(l m:List α),(∀a∈l,∀b∈m,f a=f b→a=b)→lcp (l.map f) (m.map f)=lcp l m
 | [],_,_=>by simp[lcp]
 | _::_,[],_=>by simp[lcp]
 | a ::l,b::m,h=>by
   simp only[List.map_cons,lcp]
   have ih:=zfb f l m (fun x hx y hy=>h x (by simp[hx]) y (by simp[hy]))
   by_cases hab:a=b
   · rw[ipQ hab,ipQ (by rw[hab]),ih]
   · rw[inQ hab,inQ (fun e=>hab (h a sp1 b sp1 e))]
def yK (L:List Fr):List Int:=L.reverse.map Fr.p
theorem zeh (L M:List Fr)(hL:∀x∈L,x.ok)(hM:∀x∈M,x.ok):lcp (yK L) (yK M)=lcp (places L) (places M):=by
 have h1:places L=(yK L).map Int.toNat:=by simp[places,yK]
 have h2:places M=(yK M).map Int.toNat:=by simp[places,yK]
 rw[h1,h2,zfb]
 intro a ha b hb he
 simp only[yK,List.mem_map,List.mem_reverse] at ha hb
 obtain⟨x,hx,rfl⟩:=ha
 obtain⟨y,hy,rfl⟩:=hb
 have:=(hL x hx).1
 have:=(hM y hy).1
 omega
theorem zaG {L:List Fr}{k:Nat}{x:Fr}(h:L.reverse[k]? =some x):(yK L)[k]? =some x.p:=by
 rw[yK,List.getElem?_map,h];rfl
def zbJ (L M:List Fr)(w:World)(k:Nat)(wr:World):Prop:=lcp (yK L) (yK M)=k+lcp ((yK L).drop k) ((yK M).drop k)∧Below w.heap.size w wr
theorem zeI (w:World)(av bv:Value)(L M:List Fr)(hL:qo w av L)(hM:qo w bv M)(hl:L.length≤1000000)(hm:M.length≤1000000):Calls Try.prog 112 #[av,bv] w fun e w'=>e= .returned (.int .i64 (lcp (yK L) (yK M):Nat))∧Below w.heap.size w w':=by
 obtain⟨a,ac,rfl⟩:=zt hL
 obtain⟨b,bc,rfl⟩:=zt hM
 obtain⟨n,hn⟩:∃n,n=L.length:=⟨_,rfl⟩
 obtain⟨m,hm'⟩:∃m,m=M.length:=⟨_,rfl⟩
 have H:=hH (aN hL (aN hM (aN hn hm')))
 rw[←hn] at hl ⊢
 rw[←hm'] at hm ⊢
 clear hL hM hn hm'
 have HS:Hid (zbJ L M w 0 w):=hH ⟨by simp,BrQ _ _⟩
 go_enter Try.func112,Try.ntmps112
 go_wp2_with fail
 go_loopw [5] (fun i wr=>∃k:Nat,k≤n∧k≤m∧i= .int .i64 (k:Int)∧Hid (zbJ L M w k wr)) (fun i _=>n - (intOf i).toNat)
 case atStart=>exact⟨0,NzlQ _,NzlQ _,rfl,HS⟩
 case round=>
  obtain⟨k,hkn,hkm,rfl,hh⟩:=hrel
  clear HS
  by_cases hlt:k<n∧k<m
  · obtain⟨x,hx⟩:∃x,L.reverse[k]? =some x:=⟨_,List.getElem?_eq_getElem (by rw[List.length_reverse,←H.out.2.2.1];exact hlt.1)⟩
    obtain⟨y,hy⟩:∃y,M.reverse[k]? =some y:=⟨_,List.getElem?_eq_getElem (by rw[List.length_reverse,←H.out.2.2.2];exact hlt.2)⟩
    have hL:=H.out.1
    have hM:=H.out.2.1
    rw[←H.out.2.2.1] at hL
    rw[←H.out.2.2.2] at hM
    obtain⟨g1,rfl,_,_,c1,_⟩:=qo.at H.out.1 hx
    obtain⟨g2,rfl,_,_,c2,_⟩:=qo.at H.out.2.1 hy
    have d1:wr.cell? ⟨g1,k*2+1,none⟩=some (.int .i64 x.p):=(hh.out.2.cell (World.block_lt_of_cell? _ _ c1)).trans c1
    have d2:wr.cell? ⟨g2,k*2+1,none⟩=some (.int .i64 y.p):=(hh.out.2.cell (World.block_lt_of_cell? _ _ c2)).trans c2
    have hstep:=zhO (zaG hx) (zaG hy)
    obtain⟨p,hp⟩:∃p,p=x.p:=⟨_,rfl⟩
    obtain⟨q,hq⟩:∃q,q=y.p:=⟨_,rfl⟩
    rw[←hp] at d1 hstep
    rw[←hq] at d2 hstep
    have hkl1:(k:Int)<(n:Int):=by omega
    have hkl2:(k:Int)<(m:Int):=by omega
    have hmin:(k:Int)<min (n:Int) (m:Int):=by omega
    by_cases hpq:p=q
    · rw[ipQ hpq] at hstep
      have hbq:(p == q)=true:=by simpa using hpq
      have HN:Hid (zbJ L M w (k+1) wr):=hH ⟨by have:=hh.out.1;omega,hh.out.2⟩
      have HLT:=hH hlt
      clear hL hM hx hy c1 c2 hp hq hstep hpq hh hlt hkn hkm
      go_wp2_with fail
      refine wp_region_quiet (C:=fun X=>Below wr.heap.size wr X) kr1 kr1 (below_drewN (BrQ _ wr) 1) ?_
      refine YR (fun QQ hQQ=>?_)
      have HQQ:=hH hQQ
      clear hQQ
      with_reducible refine wpQuiet_step ?_
      intro K hK
      rw[ipQ uf0]
      refine⟨.int .i64 (k:Int),fun X hX=>?_,hK _ ?_⟩
      · clear hK;go_simp
      clear hK K
      simp only[Act.put,pgD,pgE,pgF]
      with_reducible refine wpQuiet_step ?_
      intro K hK
      rw[ipQ uf0]
      refine⟨.slice (some ⟨g1,0,none⟩) n ac,fun X hX=>?_,hK _ ?_⟩
      · clear hK;go_simp
      clear hK K
      simp only[Act.put,pgD,pgE,pgF]
      with_reducible refine wpQuiet_step ?_
      intro K hK
      rw[ipQ uf0]
      refine⟨.int .i64 (n:Int),fun X hX=>?_,hK _ ?_⟩
      · clear hK;go_simp
      clear hK K
      simp only[Act.put,pgD,pgE,pgF]
      with_reducible refine wpQuiet_step ?_
      intro K hK
      rw[ipQ uf0]
      refine⟨.slice (some ⟨g2,0,none⟩) m bc,fun X hX=>?_,hK _ ?_⟩
      · clear hK;go_simp
      clear hK K
      simp only[Act.put,pgD,pgE,pgF]
      with_reducible refine wpQuiet_step ?_
      intro K hK
      rw[ipQ uf0]
      refine⟨.int .i64 (m:Int),fun X hX=>?_,hK _ ?_⟩
      · clear hK;go_simp
      clear hK K
      simp only[Act.put,pgD,pgE,pgF]
      with_reducible refine wpQuiet_step ?_
      intro K hK
      rw[ipQ uf0]
      refine⟨.int .i64 (min (n:Int) (m:Int)),fun X hX=>?_,hK _ ?_⟩
      · exact ua3
      clear hK K
      simp only[Act.put,pgD,pgE,pgF]
      with_reducible refine wpQuiet_step ?_
      intro K hK
      rw[ipQ uf0]
      refine⟨.bool true,fun X hX=>?_,hK _ ?_⟩
      · clear hK;go_simp
      clear hK K
      simp only[Act.put,pgD,pgE,pgF]
      with_reducible refine wpQuiet_step ?_
      intro K hK
      rw[ipQ uf0]
      refine⟨.bool true,fun X hX=>?_,hK _ ?_⟩
      · clear hK;go_simp
      clear hK K
      simp only[Act.put,pgD,pgE,pgF]
      with_reducible refine wpQuiet_step ?_
      intro K hK
      rw[ipQ uf0]
      refine⟨.slice (some ⟨g1,0,none⟩) n ac,fun X hX=>?_,hK _ ?_⟩
      · clear hK;go_simp
      clear hK K
      simp only[Act.put,pgD,pgE,pgF]
      with_reducible refine wpQuiet_step ?_
      intro K hK
      rw[ipQ uf0]
      refine⟨.int .i64 (k:Int),fun X hX=>?_,hK _ ?_⟩
      · clear hK;go_simp
      clear hK K
      simp only[Act.put,pgD,pgE,pgF]
      with_reducible refine wpQuiet_step ?_
      intro K hK
      rw[ipQ uf0]
      refine⟨.pointer (some ⟨g1,k*2,none⟩),fun X hX=>?_,hK _ ?_⟩
      · clear hK;go_simp
      clear hK K
      simp only[Act.put,pgD,pgE,pgF]
      with_reducible refine wpQuiet_step ?_
      intro K hK
      rw[ipQ uf0]
      refine⟨.pointer (some ⟨g1,k*2+1,none⟩),fun X hX=>?_,hK _ ?_⟩
      · clear hK;go_simp
      clear hK K
      simp only[Act.put,pgD,pgE,pgF]
      with_reducible refine wpQuiet_step ?_
      intro K hK
      rw[ipQ uf0]
      refine⟨.int .i64 p,fun X hX=>?_,hK _ ?_⟩
      · clear hK;have d:=(hX.cell (World.block_lt_of_cell? _ _ d1)).trans d1;go_simp
      clear hK K
      simp only[Act.put,pgD,pgE,pgF]
      with_reducible refine wpQuiet_step ?_
      intro K hK
      rw[ipQ uf0]
      refine⟨.slice (some ⟨g2,0,none⟩) m bc,fun X hX=>?_,hK _ ?_⟩
      · clear hK;go_simp
      clear hK K
      simp only[Act.put,pgD,pgE,pgF]
      with_reducible refine wpQuiet_step ?_
      intro K hK
      rw[ipQ uf0]
      refine⟨.int .i64 (k:Int),fun X hX=>?_,hK _ ?_⟩
      · clear hK;go_simp
      clear hK K
      simp only[Act.put,pgD,pgE,pgF]
      with_reducible refine wpQuiet_step ?_
      intro K hK
      rw[ipQ uf0]
      refine⟨.pointer (some ⟨g2,k*2,none⟩),fun X hX=>?_,hK _ ?_⟩
      · clear hK;go_simp
      clear hK K
      simp only[Act.put,pgD,pgE,pgF]
      with_reducible refine wpQuiet_step ?_
      intro K hK
      rw[ipQ uf0]
      refine⟨.pointer (some ⟨g2,k*2+1,none⟩),fun X hX=>?_,hK _ ?_⟩
      · clear hK;go_simp
      clear hK K
      simp only[Act.put,pgD,pgE,pgF]
      with_reducible refine wpQuiet_step ?_
      intro K hK
      rw[ipQ uf0]
      refine⟨.int .i64 q,fun X hX=>?_,hK _ ?_⟩
      · clear hK;have d:=(hX.cell (World.block_lt_of_cell? _ _ d2)).trans d2;go_simp
      clear hK K
      simp only[Act.put,pgD,pgE,pgF]
      with_reducible refine wpQuiet_step ?_
      intro K hK
      rw[ipQ uf0]
      refine⟨.bool true,fun X hX=>?_,hK _ ?_⟩
      · clear hK;go_simp
      clear hK K
      simp only[Act.put,pgD,pgE,pgF]
      with_reducible refine wpQuiet_step ?_
      intro K hK
      rw[ipQ uf0]
      refine⟨.bool true,fun X hX=>?_,hK _ ?_⟩
      · clear hK;go_simp
      clear hK K
      simp only[Act.put,pgD,pgE,pgF]
      refine wpQuiet_nil (HQQ.out _ ?_)
      clear HQQ
      intro V hV
      have HV:=hH hV
      clear hV
      go_wp2_with fail
      exact⟨⟨k+1,by have:=HLT.out;omega,by have:=HLT.out;omega,by go_num,hH ⟨HN.out.1,HN.out.2.trans (HV.out.mono HN.out.2.size)⟩⟩,by have:=HLT.out;simp[intOf];omega⟩
    · rw[inQ hpq] at hstep
      have hbq:(p == q)=false:=by simpa using hpq
      have HE:Hid (lcp (yK L) (yK M)=k∧Below w.heap.size w wr):=hH ⟨by have:=hh.out.1;omega,hh.out.2⟩
      clear hL hM hx hy c1 c2 hp hq hstep hpq hh hlt hkn hkm
      go_wp2_with fail
      refine wp_region_quiet (C:=fun X=>Below wr.heap.size wr X) kr1 kr1 (below_drewN (BrQ _ wr) 1) ?_
      refine YR (fun QQ hQQ=>?_)
      have HQQ:=hH hQQ
      clear hQQ
      with_reducible refine wpQuiet_step ?_
      intro K hK
      rw[ipQ uf0]
      refine⟨.int .i64 (k:Int),fun X hX=>?_,hK _ ?_⟩
      · clear hK;go_simp
      clear hK K
      simp only[Act.put,pgD,pgE,pgF]
      with_reducible refine wpQuiet_step ?_
      intro K hK
      rw[ipQ uf0]
      refine⟨.slice (some ⟨g1,0,none⟩) n ac,fun X hX=>?_,hK _ ?_⟩
      · clear hK;go_simp
      clear hK K
      simp only[Act.put,pgD,pgE,pgF]
      with_reducible refine wpQuiet_step ?_
      intro K hK
      rw[ipQ uf0]
      refine⟨.int .i64 (n:Int),fun X hX=>?_,hK _ ?_⟩
      · clear hK;go_simp
      clear hK K
      simp only[Act.put,pgD,pgE,pgF]
      with_reducible refine wpQuiet_step ?_
      intro K hK
      rw[ipQ uf0]
      refine⟨.slice (some ⟨g2,0,none⟩) m bc,fun X hX=>?_,hK _ ?_⟩
      · clear hK;go_simp
      clear hK K
      simp only[Act.put,pgD,pgE,pgF]
      with_reducible refine wpQuiet_step ?_
      intro K hK
      rw[ipQ uf0]
      refine⟨.int .i64 (m:Int),fun X hX=>?_,hK _ ?_⟩
      · clear hK;go_simp
      clear hK K
      simp only[Act.put,pgD,pgE,pgF]
      with_reducible refine wpQuiet_step ?_
      intro K hK
      rw[ipQ uf0]
      refine⟨.int .i64 (min (n:Int) (m:Int)),fun X hX=>?_,hK _ ?_⟩
      · exact ua3
      clear hK K
      simp only[Act.put,pgD,pgE,pgF]
      with_reducible refine wpQuiet_step ?_
      intro K hK
      rw[ipQ uf0]
      refine⟨.bool true,fun X hX=>?_,hK _ ?_⟩
      · clear hK;go_simp
      clear hK K
      simp only[Act.put,pgD,pgE,pgF]
      with_reducible refine wpQuiet_step ?_
      intro K hK
      rw[ipQ uf0]
      refine⟨.bool true,fun X hX=>?_,hK _ ?_⟩
      · clear hK;go_simp
      clear hK K
      simp only[Act.put,pgD,pgE,pgF]
      with_reducible refine wpQuiet_step ?_
      intro K hK
      rw[ipQ uf0]
      refine⟨.slice (some ⟨g1,0,none⟩) n ac,fun X hX=>?_,hK _ ?_⟩
      · clear hK;go_simp
      clear hK K
      simp only[Act.put,pgD,pgE,pgF]
      with_reducible refine wpQuiet_step ?_
      intro K hK
      rw[ipQ uf0]
      refine⟨.int .i64 (k:Int),fun X hX=>?_,hK _ ?_⟩
      · clear hK;go_simp
      clear hK K
      simp only[Act.put,pgD,pgE,pgF]
      with_reducible refine wpQuiet_step ?_
      intro K hK
      rw[ipQ uf0]
      refine⟨.pointer (some ⟨g1,k*2,none⟩),fun X hX=>?_,hK _ ?_⟩
      · clear hK;go_simp
      clear hK K
      simp only[Act.put,pgD,pgE,pgF]
      with_reducible refine wpQuiet_step ?_
      intro K hK
      rw[ipQ uf0]
      refine⟨.pointer (some ⟨g1,k*2+1,none⟩),fun X hX=>?_,hK _ ?_⟩
      · clear hK;go_simp
      clear hK K
      simp only[Act.put,pgD,pgE,pgF]
      with_reducible refine wpQuiet_step ?_
      intro K hK
      rw[ipQ uf0]
      refine⟨.int .i64 p,fun X hX=>?_,hK _ ?_⟩
      · clear hK;have d:=(hX.cell (World.block_lt_of_cell? _ _ d1)).trans d1;go_simp
      clear hK K
      simp only[Act.put,pgD,pgE,pgF]
      with_reducible refine wpQuiet_step ?_
      intro K hK
      rw[ipQ uf0]
      refine⟨.slice (some ⟨g2,0,none⟩) m bc,fun X hX=>?_,hK _ ?_⟩
      · clear hK;go_simp
      clear hK K
      simp only[Act.put,pgD,pgE,pgF]
      with_reducible refine wpQuiet_step ?_
      intro K hK
      rw[ipQ uf0]
      refine⟨.int .i64 (k:Int),fun X hX=>?_,hK _ ?_⟩
      · clear hK;go_simp
      clear hK K
      simp only[Act.put,pgD,pgE,pgF]
      with_reducible refine wpQuiet_step ?_
      intro K hK
      rw[ipQ uf0]
      refine⟨.pointer (some ⟨g2,k*2,none⟩),fun X hX=>?_,hK _ ?_⟩
      · clear hK;go_simp
      clear hK K
      simp only[Act.put,pgD,pgE,pgF]
      with_reducible refine wpQuiet_step ?_
      intro K hK
      rw[ipQ uf0]
      refine⟨.pointer (some ⟨g2,k*2+1,none⟩),fun X hX=>?_,hK _ ?_⟩
      · clear hK;go_simp
      clear hK K
      simp only[Act.put,pgD,pgE,pgF]
      with_reducible refine wpQuiet_step ?_
      intro K hK
      rw[ipQ uf0]
      refine⟨.int .i64 q,fun X hX=>?_,hK _ ?_⟩
      · clear hK;have d:=(hX.cell (World.block_lt_of_cell? _ _ d2)).trans d2;go_simp
      clear hK K
      simp only[Act.put,pgD,pgE,pgF]
      with_reducible refine wpQuiet_step ?_
      intro K hK
      rw[ipQ uf0]
      refine⟨.bool false,fun X hX=>?_,hK _ ?_⟩
      · clear hK;go_simp
      exact sd1
  · have HE:Hid (lcp (yK L) (yK M)=k∧Below w.heap.size w wr):=hH ⟨by
     have:=hh.out.1
     have h2:=zi2 (l:=yK L) (m:=yK M) (k:=k) (by
      simp only[yK,List.length_map,List.length_reverse]
      have:=H.out.2.2.1;have:=H.out.2.2.2;omega)
     omega,hh.out.2⟩
    have hmin:¬(k:Int)<min (n:Int) (m:Int):=by omega
    clear hh hlt hkn hkm
    go_wp2_with fail
    refine wp_region_quiet (C:=fun X=>Below wr.heap.size wr X) kr1 kr1 (below_drewN (BrQ _ wr) 1) ?_
    refine YR (fun QQ hQQ=>?_)
    have HQQ:=hH hQQ
    clear hQQ
    with_reducible refine wpQuiet_step ?_
    intro K hK
    rw[ipQ uf0]
    refine⟨.int .i64 (k:Int),fun X hX=>?_,hK _ ?_⟩
    · clear hK;go_simp
    clear hK K
    simp only[Act.put,pgD,pgE,pgF]
    with_reducible refine wpQuiet_step ?_
    intro K hK
    rw[ipQ uf0]
    refine⟨.slice a n ac,fun X hX=>?_,hK _ ?_⟩
    · clear hK;go_simp
    clear hK K
    simp only[Act.put,pgD,pgE,pgF]
    with_reducible refine wpQuiet_step ?_
    intro K hK
    rw[ipQ uf0]
    refine⟨.int .i64 (n:Int),fun X hX=>?_,hK _ ?_⟩
    · clear hK;go_simp
    clear hK K
    simp only[Act.put,pgD,pgE,pgF]
    with_reducible refine wpQuiet_step ?_
    intro K hK
    rw[ipQ uf0]
    refine⟨.slice b m bc,fun X hX=>?_,hK _ ?_⟩
    · clear hK;go_simp
    clear hK K
    simp only[Act.put,pgD,pgE,pgF]
    with_reducible refine wpQuiet_step ?_
    intro K hK
    rw[ipQ uf0]
    refine⟨.int .i64 (m:Int),fun X hX=>?_,hK _ ?_⟩
    · clear hK;go_simp
    clear hK K
    simp only[Act.put,pgD,pgE,pgF]
    with_reducible refine wpQuiet_step ?_
    intro K hK
    rw[ipQ uf0]
    refine⟨.int .i64 (min (n:Int) (m:Int)),fun X hX=>?_,hK _ ?_⟩
    · exact ua3
    clear hK K
    simp only[Act.put,pgD,pgE,pgF]
    with_reducible refine wpQuiet_step ?_
    intro K hK
    rw[ipQ uf0]
    refine⟨.bool false,fun X hX=>?_,hK _ ?_⟩
    · clear hK;go_simp
    clear hK K
    simp only[Act.put,pgD,pgE,pgF]
    with_reducible refine wpQuiet_step ?_
    intro K hK
    rw[ipQ uf0]
    refine⟨.bool false,fun X hX=>?_,hK _ ?_⟩
    · clear hK;go_simp
    clear hK K
    simp only[Act.put,pgD,pgE,pgF]
    with_reducible refine wpQuiet_step ?_
    intro K hK
    rw[inQ ud1]
    with_reducible apply hK
    clear hK K
    simp only[Act.put,pgD,pgE,pgF]
    with_reducible refine wpQuiet_step ?_
    intro K hK
    rw[inQ ud1]
    with_reducible apply hK
    clear hK K
    simp only[Act.put,pgD,pgE,pgF]
    with_reducible refine wpQuiet_step ?_
    intro K hK
    rw[inQ ud1]
    with_reducible apply hK
    clear hK K
    simp only[Act.put,pgD,pgE,pgF]
    with_reducible refine wpQuiet_step ?_
    intro K hK
    rw[inQ ud1]
    with_reducible apply hK
    clear hK K
    simp only[Act.put,pgD,pgE,pgF]
    with_reducible refine wpQuiet_step ?_
    intro K hK
    rw[inQ ud1]
    with_reducible apply hK
    clear hK K
    simp only[Act.put,pgD,pgE,pgF]
    with_reducible refine wpQuiet_step ?_
    intro K hK
    rw[inQ ud1]
    with_reducible apply hK
    clear hK K
    simp only[Act.put,pgD,pgE,pgF]
    with_reducible refine wpQuiet_step ?_
    intro K hK
    rw[inQ ud1]
    with_reducible apply hK
    clear hK K
    simp only[Act.put,pgD,pgE,pgF]
    with_reducible refine wpQuiet_step ?_
    intro K hK
    rw[inQ ud1]
    with_reducible apply hK
    clear hK K
    simp only[Act.put,pgD,pgE,pgF]
    with_reducible refine wpQuiet_step ?_
    intro K hK
    rw[inQ ud1]
    with_reducible apply hK
    clear hK K
    simp only[Act.put,pgD,pgE,pgF]
    with_reducible refine wpQuiet_step ?_
    intro K hK
    rw[inQ ud1]
    with_reducible apply hK
    clear hK K
    simp only[Act.put,pgD,pgE,pgF]
    with_reducible refine wpQuiet_step ?_
    intro K hK
    rw[inQ ud1]
    with_reducible apply hK
    exact sd1
end Go.Proofs.Ytnikgofkldkdkaa
