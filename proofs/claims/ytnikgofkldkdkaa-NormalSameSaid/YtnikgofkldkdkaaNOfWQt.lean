/-
  .
-/
import Derived.Test.YtnikgofkldkdkaaNRowTQt
set_option maxRecDepth 100000
set_option maxHeartbeats 40000000
set_option linter.unusedVariables false
set_option linter.unusedSimpArgs false
namespace Go.Proofs.Ytnikgofkldkdkaa
open Go.RowKit Go.Shelf
attribute [local go_sem] Oper.semAt_some
def Z0:Nat→List Sf→List Sf
 | 0,l=>l
 | k+1,l=>(yu (Z0 k l)).1
def live (k:Nat)(l:List Sf):Prop:=∀j,j<k→(yu (Z0 j l)).2=true
theorem live.succ {k:Nat}{l:List Sf}(h:live k l)(hk:(yu (Z0 k l)).2=true):live (k+1) l:=fun j hj=>by
 by_cases e:j=k
 · rw[e];exact hk
 · exact h j om
theorem zav {l:List Sf}:∀k,live k l→(Z0 k l).length+k≤l.length
 | 0,_=>NlrQ _
 | k +1,h=>by
   have h1:=zav k (fun j hj=>h j om)
   have h2:=YM (h k om)
   rw[Z0];omega
def ziq (V:World)(q:Nat):Prop:=∀cs T fr,V.heap[q]? =some (.cells cs T fr)→cs.size<4
theorem zbV {V:World}{S:Nat→Prop}:∀{f:Fo} {a:Option Addr},zk V S f a→zk V (fun q=>S q∧¬ziq V q) f a
 | .nil,_,_=>True.intro
 | .node _ _ k l r,a,h=>by
   obtain⟨b,off,ka,cap,e,hb,h0,h1,h2,h3,hc,hl,hr⟩:=h
   refine⟨b,off,ka,cap,e,⟨hb,fun hs=>?_⟩,h0,h1,h2,h3,hc,zbV hl,zbV hr⟩
   obtain⟨cs,T,fr,hh⟩:=zbP h0
   have h4:=hs cs T fr hh
   rw[corQ _ _ _ _ _ _ hh] at h3
   obtain⟨h5,_⟩:=Array.getElem?_eq_some_iff.1 h3
   omega
structure vS (B0:Nat) (V V' :World):Prop where
 os:V'.os=V.os
 tape:V'.tape=V.tape
 output:V'.output=V.output
 size:V.heap.size≤V'.heap.size
 block:∀q,q<V.heap.size→V'.heap[q]? =V.heap[q]?∨(q<B0∧ziq V q)
theorem vS.refl (B0:Nat)(V:World):vS B0 V V:=⟨rfl,rfl,rfl,NlrQ _,fun _ _=>Or.inl rfl⟩
theorem vS.trans {B0:Nat}{V V' V'' :World}(h:vS B0 V V')(k:vS B0 V' V''):vS B0 V V'':=⟨k.os.trans h.os,k.tape.trans h.tape,k.output.trans h.output,NltQ h.size k.size,fun q hq=>by
 have hs:=h.size
 rcases k.block q om with h1 | h1
 · rcases h.block q hq with h2 | h2
   · exact Or.inl (h1.trans h2)
   · exact Or.inr h2
 · rcases h.block q hq with h2 | h2
   · refine Or.inr ⟨h1.1,fun cs T fr hc=>h1.2 cs T fr (h2.trans hc)⟩
   · exact Or.inr h2⟩
def zcY (V:World)(B:Nat):World:={ V with heap:=V.heap.extract 0 B }
theorem QS {V:World}{B:Nat}(h:B≤V.heap.size):(zcY V B).heap.size=B:=by simp[zcY];omega
theorem zfe {V:World}{B q:Nat}(hq:q<B):(zcY V B).heap[q]? =V.heap[q]?:=by
 simp only[zcY]
 rw[Array.getElem?_extract]
 split
 · simp
 · rename_i h
   have h2:V.heap.size≤q:=by omega
   rw[Array.getElem?_eq_none h2]
theorem zei {V:World}{B:Nat}(h:B≤V.heap.size):Below (zcY V B).heap.size (zcY V B) V:=⟨rfl,rfl,rfl,by rw[QS h];exact h,fun q hq=>(zfe (by rw[QS h] at hq;exact hq)).symm⟩
theorem vR.zh8 {w0 V V' :World}{R:Nat}{l:List Sf}(h:vR w0 R l V)(ht:vS w0.heap.size V V'):∃w0',w0'.heap.size=w0.heap.size∧vR w0' R l V':=by
 obtain⟨ga,gc,H,ra,rc,gone,rest,hI⟩:=h
 have hs:=ht.size
 have hws:=hI.below.size
 have hz:(zcY V' w0.heap.size).heap.size=w0.heap.size:=QS om
 have hk:∀q,w0.heap.size≤q→q<V.heap.size→V'.heap[q]? =V.heap[q]?:=fun q h1 h2=>(ht.block q h2).resolve_right (fun h=>by omega)
 refine⟨zcY V' w0.heap.size,hz,ga,gc,H,ra,rc,gone,rest,⟨⟨?_,?_,hI.row.gH,?_,fun i p hp=>?_,hI.row.qj,⟨fun p hp=>?_,hI.row.held.apart,hI.row.held.ok⟩,by rw[hz];exact hI.row.lo⟩,hI.all,hI.no,by have:=zei (V:=V') (B:=w0.heap.size) om;exact this,hI.few,hI.len⟩⟩
 · exact (hk R hI.row.lo.1 (lohQ hI.row.obj)).trans hI.row.obj
 · rw[hz];exact zA hI.row.grow (fun g cur hg hgo=>hk g (zi hI.row.grow hgo).1 (lohQ hg))
 · obtain⟨cs,hcs⟩:=hI.row.hblk
   exact⟨cs,(hk H hI.row.lo.2 (lohQ hcs)).trans hcs⟩
 · obtain⟨o,h1,h2⟩:=hI.row.hrow i p hp
   obtain⟨cs,hcs⟩:=hI.row.hblk
   exact⟨o,h1,(World.cell?_of_block (a:=⟨H,o+i,none⟩) (hk H hI.row.lo.2 (lohQ hcs))).trans h2⟩
 · have hh:=hI.row.held.held p hp
   have hkk:∀q,p.2.own p.1 q→V'.heap[q]? =V.heap[q]?:=fun q hq=>hk q (hh.lt q hq).1 (hh.lt q hq).2
   have h1:=hh.kept hkk
   refine⟨h1.cells,⟨hh.lies.1,?_⟩,by rw[hz];exact h1.texts,h1.nodes,by rw[hz];exact h1.base,by rw[hz];exact h1.zc0⟩
   have h2:zk V (fun q=>q<w0.heap.size) p.2.x.s.sub.kids p.2.x.a:=hh.lies.2.kept fun q hq=>⟨hq,hI.below.block q hq⟩
   refine (zbV h2).kept fun q hq=>⟨by rw[hz];exact hq.1,(zfe hq.1).trans ?_⟩
   exact (ht.block q (by have:=hq.1;omega)).resolve_right (fun h=>hq.2 h.2)
structure qg (B:Nat) (V V' :World):Prop where
 os:V'.os=V.os
 tape:V'.tape=V.tape
 output:V'.output=V.output
 block:∀q,q<B→V'.heap[q]? =V.heap[q]?
theorem vR.low {w0 V V' :World}{R R' :Nat}{l l' :List Sf}(h:vR w0 R l V)(h' :vR w0 R' l' V'):qg w0.heap.size V V':=by
 obtain⟨_,_,_,_,_,_,_,hI⟩:=h
 obtain⟨_,_,_,_,_,_,_,hI'⟩:=h'
 exact⟨hI'.below.os.trans hI.below.os.symm,hI'.below.tape.trans hI.below.tape.symm,hI'.below.output.trans hI.below.output.symm,fun q hq=>(hI'.below.block q hq).trans (hI.below.block q hq).symm⟩
theorem vR.size {w0 V:World}{R:Nat}{l:List Sf}(h:vR w0 R l V):w0.heap.size≤V.heap.size:=by
 obtain⟨_,_,_,_,_,_,_,hI⟩:=h
 exact hI.below.size
theorem zgl {w V W:World}{vs:List SV}{hbs:List Nat}(hl:hbs.length=vs.length)(hrow:V.heap[w.heap.size]? =some (.cells (hbs.map yJ).toArray 73 (0,0)))(hh:∀(i b:Nat) (x:SV),hbs[i]? =some b→vs[i]? =some x→zY w V b (HV.new x))(hn:hbs.Nodup)(hz:∀x∈vs,za x.s.sub.kids+1≤100000)(hw:∀x∈vs,Js x.s)(hb:Below w.heap.size w V)(hlen:vs.length≤10000)(hW:W=V.alloc (.cells #[.slice none 0 0,.slice (some ⟨w.heap.size,0,none⟩) hbs.length hbs.length] 78)):vR w V.heap.size (steps vs) W:=by
 have hbW:Below V.heap.size V W:=by rw[hW];exact (BrQ _ _).alloc (NlrQ _) _
 have hzl:(Yp hbs vs).length=hbs.length:=by have:=congrArg List.length (QE hbs vs hl);simpa using this
 refine⟨none,0,w.heap.size,some ⟨w.heap.size,0,none⟩,hbs.length,[],Yp hbs vs,⟨⟨?_,World.ownsRow_nil _ _ _ _,by simp[Value.ownBlock],⟨_,(hbW.block _ (lohQ hrow)).trans hrow⟩,fun i p hp=>⟨0,rfl,?_⟩,by rw[hzl];exact NlrQ _,?_,⟨hb.size,NlrQ _⟩⟩,by rw[show sfs []= [] from rfl,List.nil_append];exact za3 _ _ hl,fun j x y h=>by simp[sfs] at h,hb.trans (hbW.mono hb.size),fun p hp=>?_,by rw[List.nil_append,hzl];omega⟩⟩
 · have:=hanQ V (.cells #[.slice none 0 0,.slice (some ⟨w.heap.size,0,none⟩) hbs.length hbs.length] 78)
   rw[hW,this,hzl];rfl
 · have h1:hbs[i]? =some p.1:=by rw[←QE hbs vs hl,List.getElem?_map,hp];rfl
   rw[Nat.zero_add,World.cell?_of_block (a:=⟨w.heap.size,i,none⟩) (hbW.block _ (lohQ hrow)),corQ _ _ _ _ _ _ hrow]
   simp[h1]
 · rw[List.nil_append]
   exact (zcT hl hh hn hz hw).below hbW
 · rw[List.nil_append] at hp ⊢
   obtain⟨i,x,_,_,h3⟩:=QD _ _ p hp
   rw[h3,hzl]
   show ([]:List SV).length+_≤_
   simp;omega
def zjT (W:World)(l:List Sf)(J:Nat→Nat→World→Prop)(Jx:World→Prop)(V:World):Prop:=(∃k R w0,w0.heap.size=W.heap.size∧live k l∧(yu (Z0 k l)).2=false∧vR w0 R (Z0 k l) V∧J (k+1) R V)∨Jx V
def zjw (P:Program)(m yl B0:Nat)(l:List Sf)(J:Nat→Nat→World→Prop)(Jx:World→Prop):Prop:=
 ∀(k R:Nat) (w0 V:World),w0.heap.size=B0→live k l→vR w0 R (Z0 k l) V→J k R V→YieldAt Fence.wide m P yl #[.pointer (some ⟨R,0,none⟩)] V fun e V'=>vS B0 V V'∧((e= .returned (.bool true)∧J (k+1) R V')∨(e= .returned (.bool false)∧Jx V'))
def RI1 (W:World)(l:List Sf)(J:Nat→Nat→World→Prop)(R k:Nat)(V:World):Prop:=∃w0,w0.heap.size=W.heap.size∧live k l∧vR w0 R (Z0 k l) V∧J k R V
theorem zgn {m yl:Nat}{vs:List SV}{J:Nat→Nat→World→Prop}{Jx:World→Prop}(W:World)(NB:Nat)(la:Option Addr)(n c:Nat)(hN:W.cell? ⟨NB,0,none⟩=some (.slice la n c))(hr:Y3 W la n c vs)(hn6:n≤10000)(hz:∀x∈vs,za x.s.sub.kids+1≤100000)(hw:∀x∈vs,Js x.s)
 (hB:zjw Try.prog m yl W.heap.size (steps vs) J Jx) (hJ:∀{k R:Nat} {V V' :World},J k R V→qg W.heap.size V V'→J k R V') (h0:∀R,W.heap.size≤R→J 0 R W):
 Calls Try.prog 35 #[.func (.yield yl) #[] #[],.pointer (some ⟨NB,0,none⟩)] W (fun e V=>(∃v,e= .returned v)∧zjT W (steps vs) J Jx V):=by
 have hho:=zcS W la n c vs hr.len hr.row hn6
 obtain⟨l,hl⟩:∃l,l=steps vs:=⟨_,rfl⟩
 rw[←hl] at hB ⊢
 have hln:vs.length≤10000:=by rw[←hr.len];exact hn6
 have HHO:=hH (aN hho (aN hln (aN hz (aN hw hl))))
 have HB:=hH hB
 have HJ:Hid (∀{k R:Nat} {V V' :World},J k R V→qg W.heap.size V V'→J k R V'):=hH hJ
 have H0:=hH h0
 clear hho hr hz hw hB hJ h0 hln hl hn6
 refine (callsIn_wide (n:=6)).1 ?_
 refine callsIn_of_wp Try.func35 rfl trivial ?_ rfl
 simp only[Try.ntmps35,List.size_toArray,LlcQ,List.length_nil,Nat.reduceAdd,Nat.reduceSub,Array.replicate_succ,Array.replicate_zero,List.push_toArray,List.append_toArray,List.nil_append,List.cons_append]
 gi_wp2
 refine⟨trivial,?_⟩
 refine (callsIn_wide.2 HHO.out.1).mono ?_
 rintro e V ⟨hbs,rfl,hbl,hrow,hheld,hnd,_,hb⟩
 obtain⟨W2,hW2⟩:∃W2,W2=V.alloc (.cells #[.slice none 0 0,.slice (some ⟨W.heap.size,0,none⟩) hbs.length hbs.length] 78):=⟨_,rfl⟩
 have hst:vR W V.heap.size (steps vs) W2:=zgl hbl hrow hheld hnd HHO.out.2.2.1 HHO.out.2.2.2.1 hb HHO.out.2.1 hW2
 obtain⟨R,hR⟩:∃R,R=V.heap.size:=⟨_,rfl⟩
 rw[←hR,←HHO.out.2.2.2.2] at hst
 have hlow:qg W.heap.size W W2:=by
  have hbW:Below V.heap.size V W2:=by rw[hW2];exact (BrQ _ _).alloc (NlrQ _) _
  have h:=hb.trans (hbW.mono hb.size)
  exact⟨h.os,h.tape,h.output,h.block⟩
 have HI0:Hid (RI1 W l J R 0 W2):=hH ⟨W,rfl,fun j hj=>by omega,hst,HJ.out (H0.out R (by rw[hR];exact hb.size)) hlow⟩
 have HW2:=hH hW2
 have HRE:=hH hR
 obtain⟨hn,hhn⟩:∃hn,hn=hbs.length:=⟨_,rfl⟩
 rw[←hhn] at hW2 HW2 ⊢
 clear hst hlow hbl hrow hheld hnd hb hhn hR H0 hN hW2
 gi_wp2
 rw[←HW2.out,←HRE.out]
 clear HW2 HRE
 gi_loopg [4] (l.length+2) (fun gk more wr=>(more= .bool true∧∃k,gk+k=l.length+2∧k≤l.length∧Hid (RI1 W l J R k wr))∨(more= .bool false∧gk=0∧Hid (zjT W l J Jx wr)))
 case atStart=>exact Or.inl ⟨rfl,0,rfl,NzlQ _,HI0⟩
 case round=>
  clear HI0
  rcases hrel with ⟨rfl,k,hgk,hkl,hh⟩ | ⟨rfl,hgk,hh⟩
  · obtain⟨w0,hw0,hlv,hst,hJ⟩:=hh.out
    obtain⟨fn,tmps,assign,body,hy,hRR⟩:=YieldAt.Z9 5 (HB.out k R w0 wr hw0 hlv hst hJ)
    have HRR:=hH hRR
    have HK:=hH (aN hgk (aN hkl (aN hw0 (aN hlv hst))))
    clear hRR hgk hkl hw0 hlv hst hJ hh
    gi_wp2
    refine HRR.out.mono ?_
    clear HRR hy
    rintro e w2 ⟨htc,(⟨rfl,hj⟩ | ⟨rfl,hx⟩)⟩
    · obtain⟨hgk,hkl,hw0,hlv,hst⟩:=HK.out
      rw[←hw0] at htc
      obtain⟨w0',hz',hst'⟩:=hst.zh8 htc
      have hsh:=zdv hst'
      have HSH:=hH (aN hsh (aN hst' (aN (hz'.trans hw0) hj)))
      clear hsh hst' hst hz' hw0 htc hj hgk hkl hlv
      gi_wp2
      refine⟨trivial,?_⟩
      refine (callsIn_wide.2 HSH.out.1).mono ?_
      rintro e w3 ⟨rfl,hst3⟩
      obtain⟨b,hb⟩:∃b,b=(yu (Z0 k l)).2:=⟨_,rfl⟩
      rw[←hb]
      have hlow:=vR.low HSH.out.2.1 hst3
      rw[HSH.out.2.2.1] at hlow
      have hj3:=HJ.out HSH.out.2.2.2 hlow
      cases b with
      | true=>
        have hlv2:live (k+1) l:=HK.out.2.2.2.1.succ hb.symm
        have hN2:Hid (RI1 W l J R (k+1) w3):=hH ⟨w0',HSH.out.2.2.1,hlv2,hst3,hj3⟩
        have hk2:=zav (k+1) hlv2
        have hgk:=HK.out.1
        clear hlow hj3 hst3 hb hlv2
        gi_wp2
        gi_roundg (gk - 1)
        case measure=>omega
        case rel=>exact Or.inl ⟨rfl,k+1,by omega,by omega,hN2⟩
      | false=>
        have hN2:Hid (zjT W l J Jx w3):=hH (Or.inl ⟨k,R,w0',HSH.out.2.2.1,HK.out.2.2.2.1,hb.symm,by rw[zbt hb.symm] at hst3;exact hst3,hj3⟩)
        have hgk:=HK.out.1
        have hkl:=HK.out.2.1
        clear hlow hj3 hst3 hb
        gi_wp2
        gi_roundg (0)
        case measure=>omega
        case rel=>exact Or.inr ⟨rfl,rfl,hN2⟩
    · have HE:=hH hx
      clear hx htc
      gi_wp2
      go_end0
      exact⟨⟨_,rfl⟩,Or.inr HE.out⟩
  · have HE:=hh
    clear hh
    gi_wp2
    refine⟨fun f h=>(by cases h),?_⟩
    gi_wp2
    go_end0
    exact⟨⟨_,rfl⟩,HE.out⟩
end Go.Proofs.Ytnikgofkldkdkaa
namespace Go.Proofs.Ytnikgofkldkdkaa
open Go.RowKit Go.Shelf
attribute [local go_sem] Oper.semAt_some
theorem qg.mono {B B' :Nat}{V V' :World}(h:qg B V V')(hB:B'≤B):qg B' V V':=⟨h.os,h.tape,h.output,fun q hq=>h.block q om⟩
theorem qg.put {B b:Nat}{V:World}{o:Obj}(hb:B≤b):qg B V (V.putObj b o):=⟨rfl,rfl,rfl,fun q hq=>WphQ om⟩
theorem YW {B0 b:Nat}{V:World}{o o' :Obj}(hb:b<B0)(ho:V.heap[b]? =some o)(hoc:o.isCells=false):vS B0 V (V.putObj b o'):=⟨rfl,rfl,rfl,by simp[World.putObj],fun q hq=>by
 by_cases e:q=b
 · refine Or.inr ⟨by omega,fun cs T fr hc=>?_⟩
   rw[e,ho] at hc
   cases hc
   cases hoc
 · exact Or.inl (WphQ e)⟩
def zjA (B:Nat)(I:Nat→Nat→World→Prop)(Ix:Code→World→Prop)(k R:Nat)(W:World)(e:Exit)(_:Act)(V:World):Prop:=
 vS (B+2) W V∧V.heap[B]? =W.heap[B]?∧V.heap[B+1]? =W.heap[B+1]?∧((e= .normal∧I (k+1) R V)∨(e= .ret∧Ix .ret V)∨∃id,e= .exit id∧Ix (.exit id) V)
theorem zev {n:Nat}{g:Operand}{ps:Array Tmp}{assign body:Code}{Q:Exit→Act→World→Prop}{a:Act}{w:World}(h1:1≤n){NB:Nat}(hg:a.eval g= .func (.func 35) #[] #[.pointer (some ⟨NB,0,none⟩)])
 (la:Option Addr) (ln lc:Nat) (vs:List SV) (hN:w.cell? ⟨NB,0,none⟩=some (.slice la ln lc)) (hr:Y3 w la ln lc vs) (hn6:ln≤10000) (hz:∀x∈vs,za x.s.sub.kids+1≤100000) (hw:∀x∈vs,Js x.s) (hps:ps.size=1)
 (I:Nat→Nat→World→Prop) (Ix:Code→World→Prop)
 (hI:∀{k R:Nat} {V V' :World},I k R V→qg w.heap.size V V'→I k R V')
 (hIx:∀{c:Code} {V V' :World},Ix c V→qg w.heap.size V V'→Ix c V')
 (h0:∀R,w.heap.size≤R→I 0 R w)
 (hround:∀(l:Nat),l=w.heap.size+1→∀(k R:Nat) (w0 V:World),w0.heap.size=w.heap.size+2→live k (steps vs)→vR w0 R (Z0 k (steps vs)) V→I k R V→
   ∀ (K:Act→World→Prop),(∀a₁ V0,vS (w.heap.size+2) V V0→V0.heap[w.heap.size]? =V.heap[w.heap.size]?→V0.heap[w.heap.size+1]? =V.heap[w.heap.size+1]?→(∀V',(∃o',V'=V0.putObj l o'∧∃o,V0.heap[l]? =some o∧o.isCells=false)→body.wpIn (Fence.wide.inRound l) (n - 1 - 1) Try.prog (zjA w.heap.size I Ix k R V') a₁ V')→K a₁ V0)→
    assign.wpIn (Fence.wide.inRound l) (n - 1 - 1) Try.prog (Exit.then K (fun _ _ _=>False)) { tmps:=(ps.zip #[.pointer (some ⟨R,0,none⟩)]).foldl (fun t (p,v)=>t.setIfInBounds p v) a.tmps,defers:=[] } V)
 (hdone:∀(D k R:Nat) (w0 V:World),D=w.heap.size→w0.heap.size=w.heap.size+2→live k (steps vs)→(yu (Z0 k (steps vs))).2=false→vR w0 R (Z0 k (steps vs)) V→I (k+1) R V→V.heap[D]? =some (.deferred (some []))→Q .normal { a with defers:={ target:= .collected D,args:= #[] }::a.defers } V)
 (hstop:∀(D:Nat) (c:Code) (V:World),D=w.heap.size→Ix c V→V.heap[D]? =some (.deferred (some []))→c.wpIn Fence.wide n Try.prog Q { a with defers:={ target:= .collected D,args:= #[] }::a.defers } V):
 (Code.rangeFunc g ps assign body).wpIn Fence.wide n Try.prog Q a w:=by
 obtain⟨B,hB⟩:∃B,w.heap.size=B:=⟨_,rfl⟩
 simp only[hB] at hI hIx hround hdone hstop h0
 refine wpIn_rangeFunc fun fn hfn=>?_
 obtain⟨rec,hrec⟩:∃rec:LoopState→Option Code→Loop,rec=fun st pe=>{ state:=st,pending:=pe,fn,tmps:=a.tmps,params:=ps,assign,body,defers:=B }:=⟨_,rfl⟩
 obtain⟨W1,hW1⟩:∃W1,W1=(w.alloc (.deferred (some []))).alloc (.loop (rec .ready none)):=⟨_,rfl⟩
 have hsz1:W1.heap.size=B+2:=by rw[hW1];simp[hB]
 have hblk:∀x,x<B→W1.heap[x]? =w.heap[x]?:=fun x hx=>by rw[hW1,BhaQ _ _ _ ue6,BhaQ _ _ _ om]
 have hbk:Book B (rec .ready none) W1:=by
  exact sc6
 have hb1:Below w.heap.size w W1:=by rw[hW1];exact ((BrQ _ _).alloc (NlrQ _) _).alloc sp1 _
 have hlow1:qg B w W1:=⟨hb1.os,hb1.tape,hb1.output,hblk⟩
 have hNl:=World.block_lt_of_cell? _ _ hN
 have hN1:W1.cell? ⟨NB,0,none⟩=some (.slice la ln lc):=(World.cell?_of_block (hblk NB (by rw[←hB];exact hNl))).trans hN
 refine⟨B+1,[{ target:= .collected B,args:= #[] }],W1,{ target:= .fn (.func 35) #[.pointer (some ⟨NB,0,none⟩)],args:= #[.func (.yield (B+1)) #[] #[]] },W1,35, #[.func (.yield (B+1)) #[] #[]]++ #[.pointer (some ⟨NB,0,none⟩)],W1,?_,?_,?_,?_,fun _=>h1,?_⟩
 · exact ua1
 · simp only[resolve,hg]
   simp[go_sem]
 · exact ua2
 · simp[invoke,go_sem]
 · obtain⟨J,hJ⟩:∃J:Nat→Nat→World→Prop,J=fun k R V=>I k R V∧Book B (rec .ready none) V:=⟨_,rfl⟩
   obtain⟨Jx,hJx⟩:∃Jx:World→Prop,Jx=fun V=>∃c,Ix c V∧Book B (rec .done (some c)) V:=⟨_,rfl⟩
   have hbody:zjw Try.prog (n - 1 - 1) (B+1) W1.heap.size (steps vs) J Jx:=by
    subst hJ hJx
    rw[hsz1]
    rintro k R w0 V hw0 hlv hst ⟨j1,j2⟩
    have hr:=hround (B+1) rfl k R w0 V hw0 hlv hst j1
    have hy:=run_yield (P:=Try.prog) (args:= #[.pointer (some ⟨R,0,none⟩)]) j2.1 ud2
    rw[hrec] at hy
    refine⟨fn,_,assign,body,hy,roundIn_of_wpIn hfn (hr _ fun a₁ V0 ht hB0 hB1 hb=>?_)⟩
    have j3:Book B (rec .ready none) V0:=⟨hB1.trans j2.1,hB0.trans j2.2⟩
    refine⟨_,run_beginRound j3.1 (by rw[hrec]),?_⟩
    have hb2:Book B { rec .ready none with state:= .busy } (V0.putObj (B+1) (.loop { rec .ready none with state:= .busy })):=j3.put
    refine wpIn_mono (hb _ ⟨_,rfl,_,j3.1,rfl⟩) ?_
    rintro e3 a3 U ⟨htU,hUB,hUB1,hp⟩
    have hb3:Book B { rec .ready none with state:= .busy } U:=⟨hUB1.trans hb2.1,hUB.trans hb2.2⟩
    have fin:=fun jump=>run_endRound (P:=Try.prog) jump hb3.1
    have htt:vS (B+2) V U:=(ht.trans (YW om j3.1 rfl)).trans htU
    have hfin:∀o',vS (B+2) V (U.putObj (B+1) o'):=fun o'=>htt.trans (YW om hb3.1 rfl)
    have hlow:∀o',qg B U (U.putObj (B+1) o'):=fun o'=>qg.put om
    rw[hrec] at fin hb3
    rcases hp with ⟨rfl,hi3⟩ | ⟨rfl,hi3⟩ | ⟨id,rfl,hi3⟩
    · refine⟨_,_,fin none,hfin _,.inl ⟨rfl,hI hi3 (hlow _),?_⟩⟩
      rw[hrec];exact hb3.put
    · refine⟨_,_,fin (some .ret),hfin _,.inr ⟨rfl,.ret,hIx hi3 (hlow _),?_⟩⟩
      rw[hrec];exact hb3.put
    · refine⟨_,_,fin (some (.exit id)),hfin _,.inr ⟨rfl,.exit id,hIx hi3 (hlow _),?_⟩⟩
      rw[hrec];exact hb3.put
   have hstart:∀R,W1.heap.size≤R→J 0 R W1:=fun R hR=>by rw[hJ];exact⟨hI (h0 R om) hlow1,hbk⟩
   refine (callsIn_wide.2 (zgn W1 NB la ln lc hN1 (hr.on hb1) hn6 hz hw hbody (fun {k R V V1} j hb=>by
    rw[hJ] at j ⊢
    rw[hsz1] at hb
    exact⟨hI j.1 (hb.mono om),(hb.block _ om).trans j.2.1,(hb.block _ om).trans j.2.2⟩) hstart)).mono ?_
   rintro e W2 ⟨⟨v,rfl⟩,hj | hj⟩
   · obtain⟨k,R,w0,hw0,hlv,hno,hst,hj⟩:=hj
     rw[hJ] at hj
     obtain⟨hi,hb⟩:=hj
     have:=run_endLoop (P:=Try.prog) hb.1 ue4
     rw[hrec] at this
     rw[hsz1] at hw0
     obtain⟨w0',hz',hst'⟩:=hst.zh8 (V':=W2.putObj (B+1) (.loop { rec .ready none with state:= .exhausted })) (by rw[hw0];exact YW om hb.1 rfl)
     rw[hrec] at hst'
     exact⟨none,_,this,hdone B k R w0' _ rfl (hz'.trans hw0) hlv hno hst' (hI hi (qg.put om)) ((WphQ om).trans hb.2)⟩
   · rw[hJx] at hj
     obtain⟨c,hi,hb⟩:=hj
     have:=run_endLoop (P:=Try.prog) hb.1 ue4
     rw[hrec] at this
     exact⟨some c,_,this,hstop B c _ rfl (hIx hi (qg.put om)) ((WphQ om).trans hb.2)⟩
theorem zjg (w:World)(a:Option Addr)(n c:Nat):Calls Try.prog 23 #[.slice a n c] w fun e w'=>e= .returned (.func (.func 35) #[] #[.pointer (some ⟨w.heap.size,0,none⟩)])∧w.alloc (.cells #[.slice a n c] 28)=w':=by
 have hmf:∀W:World,(Instr.makeFunc (.func 35) #[] #[.pointer (some ⟨w.heap.size,0,none⟩)]).run Try.prog W= .ok (.func (.func 35) #[] #[.pointer (some ⟨w.heap.size,0,none⟩)]) W:=fun _=>rfl
 go_enter Try.func23,Try.ntmps23
 go_wp2_with fail
 go_ret
 exact⟨rfl,rfl⟩
end Go.Proofs.Ytnikgofkldkdkaa
namespace Go.Proofs.Ytnikgofkldkdkaa
open Go.RowKit Go.Shelf
attribute [local go_sem] Oper.semAt_some
theorem zfi (l:List Sf)(n:Nat):∀k,k≤n→live k l→ofK n l=ofK (n - k) (Z0 k l)
 | 0,_,_=>rfl
 | k +1,hk,h=>by
   rw[zfi l n k om (fun j hj=>h j om),show n - k=(n - (k+1))+1 by omega,ofK,ipQ (h k om),Z0]
theorem zi9 {l:List Sf}{n k:Nat}(hn:l.length≤n)(hl:live k l)(h:(yu (Z0 k l)).2=false):ofK n l=Z0 k l:=by
 have:=zav k hl
 rw[zfi l n k om hl,zj6 h]
theorem zgk {V:World}{a:Option Addr}{n c D:Nat}{vs:List SV}{o o' :Obj}(h:Y3 V a n c vs)(hD:V.heap[D]? =some o)(ho:o.isCells=false):Y3 (V.putObj D o') a n c vs:=by
 have hne:∀{b off:Nat} {u:Value},V.cell? ⟨b,off,none⟩=some u→b≠D:=fun {b off u} hc e=>by
  obtain⟨cs,T,fr,hh⟩:=zbP hc
  rw[e,hD] at hh
  cases hh
  cases ho
 have hs:(V.putObj D o').heap.size=V.heap.size:=by simp[World.putObj]
 refine⟨⟨fun k x hx=>?_,fun x hx=>?_,h.row.fit,h.row.len⟩,h.len,h.cap,h.nil⟩
 · obtain⟨b,off,e,hb,hc⟩:=h.row.cells k x hx
   refine⟨b,off,e,by rw[hs];exact hb,fun j u hj=>?_⟩
   have h1:=hc j u hj
   rw[World.cell?_of_block (a:=⟨b,off+k*9+j,none⟩) (WphQ (hne h1))]
   exact h1
 · obtain⟨h1,h2⟩:=h.row.lies x hx
   refine⟨h1,(zbV h2).kept fun q hq=>⟨by rw[hs];exact hq.1,WphQ (fun e=>hq.2 (fun cs T fr hc=>by
    rw[e,hD] at hc
    cases hc
    cases ho))⟩⟩
def OfI (w:World)(k R:Nat)(V:World):Prop:=∃p:Option Addr,V.heap[w.heap.size]? =some (.cells #[.pointer p] 54 (0,0))∧(0<k→p=some ⟨R,0,none⟩)∧qg w.heap.size w V
theorem zja (w:World)(la:Option Addr)(n c:Nat)(vs:List SV)(hr:Y3 w la n c vs)(hn6:n≤10000)(hz:∀x∈vs,za x.s.sub.kids+1≤100000)(hw:∀x∈vs,Js x.s):
 Calls Try.prog 9 #[.slice la n c] w (OfC (ofK n (steps vs)) w):=by
 obtain⟨W,hW⟩:∃W,W=(w.alloc (.cells #[.pointer none] 54)).alloc (.cells #[.slice la n c] 28):=⟨_,rfl⟩
 have hb:Below w.heap.size w W:=by rw[hW];exact ((BrQ _ _).alloc (NlrQ _) _).alloc sp1 _
 have hs:W.heap.size=w.heap.size+2:=by rw[hW];simp
 have e0:W.heap[w.heap.size]? =some (.cells #[.pointer none] 54 (0,0)):=by rw[hW,BhaQ _ _ _ sp1];exact hanQ _ _
 have e1:W.heap[w.heap.size+1]? =some (.cells #[.slice la n c] 28 (0,0)):=by
  have:=hanQ (w.alloc (.cells #[.pointer none] 54)) (.cells #[.slice la n c] 28)
  rw[WsaQ] at this
  rw[hW];exact this
 have hN:W.cell? ⟨w.heap.size+1,0,none⟩=some (.slice la n c):=by rw[corQ _ _ _ _ _ _ e1];rfl
 have HW:=hH hW
 have HH:=hH (aN hb (aN hs (aN e0 (aN hN (aN hr (aN hn6 (aN hz hw)))))))
 clear hW hb hs e0 e1 hN hr hn6 hz hw
 refine (callsIn_wide (n:=6)).1 ?_
 refine callsIn_of_wp_marks Try.func9 rfl trivial ?_ rfl
 simp only[Try.ntmps9,List.size_toArray,LlcQ,List.length_nil,Nat.reduceAdd,Nat.reduceSub,Array.replicate_succ,Array.replicate_zero,List.push_toArray,List.append_toArray,List.nil_append,List.cons_append]
 gi_wp2_with (refine⟨trivial,?_⟩;gi_at_call 23;refine (callsIn_wide.2 (zjg _ _ _ _)).mono ?_;rintro e w' ⟨rfl,rfl⟩)
 rw[←HW.out]
 refine zev om rfl la n c vs HH.out.2.2.2.1 (HH.out.2.2.2.2.1.on HH.out.1) HH.out.2.2.2.2.2.1 HH.out.2.2.2.2.2.2.1 HH.out.2.2.2.2.2.2.2 rfl (OfI w) (fun _ _=>False) ?hI ?hIx ?h0 ?rnd ?done ?stop
 case hI=>
  rintro k R V V' ⟨p,h1,h2,h3⟩ hl
  have hs:=HH.out.2.1
  exact⟨p,(hl.block _ om).trans h1,h2,⟨hl.os.trans h3.os,hl.tape.trans h3.tape,hl.output.trans h3.output,fun q hq=>(hl.block q om).trans (h3.block q hq)⟩⟩
 case hIx=>exact fun h _=>h.elim
 case h0=>exact fun R _=>⟨none,HH.out.2.2.1,fun h=>by omega,⟨HH.out.1.os,HH.out.1.tape,HH.out.1.output,HH.out.1.block⟩⟩
 case stop=>exact fun _ _ _ _ h _=>h.elim
 case rnd=>
  rintro l hl k R w0 V hw0 hlv hst ⟨p,h1,h2,h3⟩ K hK
  have b0:V.cell? ⟨w.heap.size,0,none⟩=some (.pointer p):=by rw[corQ _ _ _ _ _ _ h1];rfl
  have bf:V.frozen? ⟨w.heap.size,0,none⟩=false:=forQ _ _ _ _ _ h1
  have HK:=hH (aN hK (aN h1 (aN h2 (aN h3 hl))))
  clear hK h1 h2 h3 hl hst hlv hw0
  gi_wp2
  obtain⟨hK,h1,h2,h3,hl⟩:=HK.out
  have hs:=HH.out.2.1
  have hne:∀q,q≠w.heap.size→(V.setCell ⟨w.heap.size,0,none⟩ (.pointer (some ⟨R,0,none⟩))).heap[q]? =V.heap[q]?:=fun q hq=>BhsQ _ _ _ _ hq
  refine hK _ _ ⟨rfl,rfl,rfl,by simp[World.setCell],fun q hq=>?_⟩ (hne _ om) (hne _ om) fun V' hV'=>?_
  · by_cases e:q=w.heap.size
    · refine Or.inr ⟨by omega,fun cs T fr hc=>?_⟩
      rw[e,h1] at hc
      cases hc
      simp
    · exact Or.inl (hne q e)
  · obtain⟨o',ev,o,ho,hoc⟩:=hV'
    have hset:=hssQ V w.heap.size 0 _ _ (.pointer (some ⟨R,0,none⟩)) h1
    have hEND:zjA W.heap.size (OfI w) (fun _ _=>False) k R V' .normal { tmps:= #[],defers:=[] } V':=by
     refine⟨vS.refl _ _,rfl,rfl,.inl ⟨rfl,some ⟨R,0,none⟩,?_,fun _=>rfl,?_⟩⟩
     · rw[ev,WphQ om,hset];rfl
     · rw[ev]
       exact⟨h3.os,h3.tape,h3.output,fun q hq=>by rw[WphQ om,hne q om];exact h3.block q hq⟩
    have HEND:=hH hEND
    clear hEND hset ev ho hoc hne hK h1 h2 h3 hl b0 bf
    gi_wp2
    exact HEND.out
 case done=>
  rintro D k R w0 V hD hw0 hlv hno hst ⟨p,h1,h2,h3⟩ hK
  have hp:=h2 om
  subst hp
  have b0:V.cell? ⟨w.heap.size,0,none⟩=some (.pointer (some ⟨R,0,none⟩)):=by rw[corQ _ _ _ _ _ _ h1];rfl
  have HD:=hH (aN hD (aN hw0 (aN hlv (aN hno (aN hst (aN h3 hK))))))
  have HT:=hH (zgp hst)
  clear hD hw0 hlv hno hst h3 hK h1 h2
  gi_wp2
  refine⟨trivial,?_⟩
  refine (callsIn_wide.2 HT.out).mono ?_
  rintro e V2 ⟨ra,rn,rc,js,rfl,hrs,hjs,hb2⟩
  obtain⟨hD,hw0,hlv,hno,hst,h3,hK⟩:=HD.out
  have hDl:=lohQ hK
  have hK2:=(hb2.block D hDl).trans hK
  have hE:OfC (ofK n (steps vs)) w (.returned (.slice ra rn rc)) (kL V2 [D]):=by
   have hsz:=hst.size
   have hs:=HH.out.2.1
   refine⟨ra,rn,rc,js,rfl,zgk hrs hK2 rfl,?_,⟨hb2.os.trans h3.os,hb2.tape.trans h3.tape,hb2.output.trans h3.output,by rw[Jn];have:=hb2.size;omega,fun q hq=>?_⟩⟩
   · rw[hjs,zi9 (by rw[ji,←HH.out.2.2.2.2.1.len];exact NlrQ _) hlv hno]
   · rw[Zw _ _ ue6,hb2.block q om]
     exact h3.block q hq
  have HE:=hH (aN hE hK2)
  clear hE hK2 hrs hjs hb2 hD hw0 hlv hno hst h3 hK b0 HT HD hDl
  gi_wp2
  exact Zn [D] _ sp1 (fun D' hD'=>by simp at hD';rw[hD'];exact HE.out.2) (fun w'=>by simp[results]) HE.out.1
end Go.Proofs.Ytnikgofkldkdkaa
