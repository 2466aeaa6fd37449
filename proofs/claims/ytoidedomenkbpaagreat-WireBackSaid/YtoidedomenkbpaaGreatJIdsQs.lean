/-
  .
-/
import Derived.Test.YtoidedomenkbpaaGreatIRowPQs
set_option maxRecDepth 100000
set_option maxHeartbeats 40000000
set_option linter.unusedVariables false
set_option linter.unusedSimpArgs false
namespace Go.Proofs.YtoidedomenkbpaaGreat
open Go.RowKit Go.Shelf
attribute [local go_sem] Oper.semAt_some
structure SV where
 s:Sf
 a:Option Addr
 c:Nat
def SV.v (x:SV):Value:= .agg #[.int .i8 x.s.op,.int .i64 x.s.id,.int .i64 x.s.par,.int .i64 x.s.at_,.string x.s.tx,.int .i64 x.s.sub.id,.int .i64 x.s.sub.kind,.string x.s.sub.text,.slice x.a (foLen x.s.sub.kids) x.c]
def zfB (w:World)(S:Nat→Prop)(a:Option Addr)(vs:List SV):Prop:=∀(k:Nat) (x:SV),vs[k]? =some x→∃b off,a=some ⟨b,off,none⟩∧S b∧∀(j:Nat) (u:Value),(zfr x.s x.a x.c)[j]? =some u→w.cell? ⟨b,off+k*9+j,none⟩=some u
theorem zfB.kept {w w' :World}{S S' :Nat→Prop}{a:Option Addr}{vs:List SV}(h:zfB w S a vs)(hS:∀y,S y→S' y∧w'.heap[y]? =w.heap[y]?):zfB w' S' a vs:=fun k x hx=>by
 obtain⟨b,off,e,hb,hc⟩:=h k x hx
 exact⟨b,off,e,(hS b hb).1,fun j u hj=>(World.cell?_of_block (a:=⟨b,off+k*9+j,none⟩) (hS b hb).2).trans (hc j u hj)⟩
structure RH where
 a:Option Addr
 c:Nat
 vs:List SV
def RH.v (r:RH):Value:= .slice r.a r.vs.length r.c
def flat:List RH→List SV
 | []=>[]
 | r::l=>r.vs++flat l
def ZK:List RH→Nat→Nat
 | _,0=>0
 | [],_+1=>0
 | r::l,i+1=>r.vs.length+ZK l i
theorem zbs:∀(l:List RH) (i:Nat) (r:RH),l[i]? =some r→ZK l (i+1)=ZK l i+r.vs.length
 | [],_,_,h=>by simp at h
 | r::l,0,r',h=>by simp at h;subst h;cases l<;>simp[ZK]
 | r ::l,i+1,r',h=>by
   have:=zbs l i r' ud6
   simp only[ZK,this];omega
theorem zdn:∀l:List RH,ZK l l.length=(flat l).length
 | []=>rfl
 | r::l=>by simp[ZK,flat,zdn l]
theorem zfd:∀(l:List RH) (i j:Nat) (r:RH) (x:SV),l[i]? =some r→r.vs[j]? =some x→(flat l)[ZK l i+j]? =some x
 | [],_,_,_,_,h,_=>by simp at h
 | r ::l,0,j,r',x,h,hx=>by
   simp at h;subst h
   rw[ZK,Nat.zero_add,flat,List.getElem?_append_left (List.getElem?_eq_some_iff.1 hx).1];exact hx
 | r ::l,i+1,j,r',x,h,hx=>by
   have:=zfd l i j r' x ud6 hx
   rw[flat,ZK,List.getElem?_append_right om1,show r.vs.length+ZK l i+j - r.vs.length=ZK l i+j by omega];exact this
def Ql (w:World)(NB R:Nat)(rs:List RH)(S:Nat→Prop):Prop:=w.heap[NB]? =some (.cells #[.slice (some ⟨R,0,none⟩) rs.length rs.length] 133 (0,0))∧w.heap[R]? =some (.cells (rs.map RH.v).toArray 22 (0,0))∧S NB∧S R∧(∀y,S y→y<w.heap.size)∧∀(i:Nat) (r:RH),rs[i]? =some r→zfB w S r.a r.vs
theorem Ql.kept {w w' :World}{NB R:Nat}{rs:List RH}{S:Nat→Prop}(h:Ql w NB R rs S)(hs:w.heap.size≤w'.heap.size)(hk:∀y,S y→w'.heap[y]? =w.heap[y]?):Ql w' NB R rs S:=by
 obtain⟨h1,h2,h3,h4,h5,h6⟩:=h
 exact⟨(hk NB h3).trans h1,(hk R h4).trans h2,h3,h4,fun y hy=>nL (h5 y hy) hs,fun i r hr=>(h6 i r hr).kept fun y hy=>⟨hy,hk y hy⟩⟩
def zjc (P:Program)(m l:Nat)(S:Nat→Prop)(tl:List SV)(J:Nat→World→Prop)(Jx:World→Prop):Prop:=
 ∀(k:Nat) (x:SV) (w:World),tl[k]? =some x→(∀y,S y→y<w.heap.size)→J k w→YieldAt Fence.wide m P l #[x.v] w fun e w'=>w.heap.size≤w'.heap.size∧(∀y,S y→w'.heap[y]? =w.heap[y]?)∧((e= .returned (.bool true)∧J (k+1) w')∨(e= .returned (.bool false)∧Jx w'))
def JS (tl:List SV)(J:Nat→World→Prop)(Jx:World→Prop)(e:Ending)(V:World):Prop:=(∃v,e= .returned v)∧(J tl.length V∨Jx V)
def za7 (NB R:Nat)(rs:List RH)(S:Nat→Prop)(J:Nat→World→Prop)(k:Nat)(wr:World):Prop:=Ql wr NB R rs S∧J k wr
theorem JS.mk0 {tl:List SV}{J:Nat→World→Prop}{Jx:World→Prop}{V:World}{k:Nat}{v:Value}(h:J k V)(hk:k=tl.length):JS tl J Jx (.returned v) V:=⟨⟨v,rfl⟩,Or.inl (hk▸h)⟩
theorem JS.mkx {tl:List SV}{J:Nat→World→Prop}{Jx:World→Prop}{V:World}{v:Value}(h:Jx V):JS tl J Jx (.returned v) V:=⟨⟨v,rfl⟩,Or.inr h⟩
theorem Ju (V:World)(o:Obj):za V (V.alloc o) (fun _=>False):=(za.refl V _).alloc _
theorem zdb {m l:Nat}{S:Nat→Prop}{rs:List RH}{J:Nat→World→Prop}{Jx:World→Prop}(hB:zjc Tryz.prog m l S (flat rs) J Jx)(hJ:∀{k:Nat} {V V' :World},J k V→za V V' (fun _=>False)→J k V')(W:World)(NB R:Nat)(hI:Ql W NB R rs S)(hn:rs.length≤1000000)(hm:∀r∈rs,r.vs.length≤1000000)(h0:J 0 W):
 Calls Tryz.prog 96 #[.func (.yield l) #[] #[],.pointer (some ⟨NB,0,none⟩)] W (JS (flat rs) J Jx):=by
 have HST:Hid (za7 NB R rs S J (ZK rs 0) W):=hH ⟨hI,by simpa [ZK] using h0⟩
 obtain⟨n,hn'⟩:∃n,n=rs.length:=⟨_,rfl⟩
 have h1:=hI.1
 rw[←hn'] at hn h1
 have c0:W.cell? ⟨NB,0,none⟩=some (.slice (some ⟨R,0,none⟩) n n):=by rw[corQ _ _ 0 _ _ _ h1];rfl
 have HN:=hH hn'
 have HM:=hH hm
 have HJ:Hid (∀{k:Nat} {V V' :World},J k V→za V V' (fun _=>False)→J k V'):=hH hJ
 clear h0 h1 hn' hm hI hJ
 refine (callsIn_wide (n:=6)).1 ?_
 refine callsIn_of_wp Tryz.func96 rfl trivial ?_ rfl
 simp only[Tryz.ntmps96,List.size_toArray,LlcQ,List.length_nil,Nat.reduceAdd,Nat.reduceSub,Array.replicate_succ,Array.replicate_zero,List.push_toArray,List.append_toArray,List.nil_append,List.cons_append]
 gi_wp2
 gi_loopw [9] (fun i wr=>∃k:Nat,i= .int .i64 (k:Int)∧k≤n∧Hid (za7 NB R rs S J (ZK rs k) wr)) (fun i _=>n - (intOf i).toNat)
 case atStart=>exact⟨0,rfl,NzlQ _,HST⟩
 case round=>
  obtain⟨k,rfl,hkn,hh⟩:=hrel
  clear HST c0
  by_cases hlt:k<n
  · obtain ⟨r,hr⟩:∃r,rs[k]? =some r:=⟨_,List.getElem?_eq_getElem (by rw[←HN.out];exact hlt)⟩
    obtain⟨mm,hmm⟩:∃mm,mm=r.vs.length:=⟨_,rfl⟩
    have hm1:mm≤1000000:=by rw[hmm];exact HM.out r (List.mem_of_getElem? hr)
    obtain⟨ra,hra⟩:∃ra,ra=r.a:=⟨_,rfl⟩
    obtain⟨rc,hrc⟩:∃rc,rc=r.c:=⟨_,rfl⟩
    have hki:(k:Int)<(n:Int):=by omega
    have d0:wr.cell? ⟨R,k,none⟩=some (.slice ra mm rc):=by
     rw[corQ _ _ k _ _ _ hh.out.1.2.1,hra,hmm,hrc]
     simp[List.getElem?_map,hr,RH.v]
    have HR:=hH (aN hr (aN hmm hra))
    have HH:=hh
    obtain⟨wo,hwo⟩:∃wo,wo=wr:=⟨_,rfl⟩
    subst hwo
    clear hr hmm hra hrc hh
    gi_wp2
    clear d0
    gi_loopw [15] (fun i wr=>∃j:Nat,i= .int .i64 (j:Int)∧j≤mm∧Hid (za7 NB R rs S J (ZK rs k+j) wr)) (fun i _=>mm - (intOf i).toNat)
    case atStart=>exact⟨0,rfl,NzlQ _,HH⟩
    case round=>
     obtain⟨j,rfl,hjm,hh⟩:=hrel
     clear HH
     by_cases hjl:j<mm
     · have hji:(j:Int)<(mm:Int):=by omega
       obtain⟨x,hx⟩:∃x,r.vs[j]? =some x:=⟨_,List.getElem?_eq_getElem (by rw[←HR.out.2.1];exact hjl)⟩
       obtain⟨b,off,ea,hSb,hcs⟩:=hh.out.1.2.2.2.2.2 k r HR.out.1 j x hx
       have hra:ra=some ⟨b,off,none⟩:=HR.out.2.2.trans ea
       subst hra
       obtain⟨sn,hsn⟩:∃sn,sn=foLen x.s.sub.kids:=⟨_,rfl⟩
       have HX:Hid (.agg #[.int .i8 x.s.op,.int .i64 x.s.id,.int .i64 x.s.par,.int .i64 x.s.at_,.string x.s.tx,.int .i64 x.s.sub.id,.int .i64 x.s.sub.kind,.string x.s.sub.text,.slice x.a sn x.c]=x.v):=hH (by rw[hsn];rfl)
       have d0:wr.cell? ⟨b,off+j*9,none⟩=some (.int .i8 x.s.op):=hcs 0 _ rfl
       have d1:wr.cell? ⟨b,off+j*9+1,none⟩=some (.int .i64 x.s.id):=hcs 1 _ rfl
       have d2:wr.cell? ⟨b,off+j*9+2,none⟩=some (.int .i64 x.s.par):=hcs 2 _ rfl
       have d3:wr.cell? ⟨b,off+j*9+3,none⟩=some (.int .i64 x.s.at_):=hcs 3 _ rfl
       have d4:wr.cell? ⟨b,off+j*9+4,none⟩=some (.string x.s.tx):=hcs 4 _ rfl
       have d5:wr.cell? ⟨b,off+j*9+5,none⟩=some (.int .i64 x.s.sub.id):=hcs 5 _ rfl
       have d6:wr.cell? ⟨b,off+j*9+6,none⟩=some (.int .i64 x.s.sub.kind):=hcs 6 _ rfl
       have d7:wr.cell? ⟨b,off+j*9+7,none⟩=some (.string x.s.sub.text):=hcs 7 _ rfl
       have d8:wr.cell? ⟨b,off+j*9+8,none⟩=some (.slice x.a sn x.c):=by rw[hsn];exact hcs 8 _ rfl
       have hVI:za7 NB R rs S J (ZK rs k+j) (wr.alloc (.cells #[.int .i8 x.s.op,.int .i64 x.s.id,.int .i64 x.s.par,.int .i64 x.s.at_,.string x.s.tx,.int .i64 x.s.sub.id,.int .i64 x.s.sub.kind,.string x.s.sub.text,.slice x.a sn x.c] 41)):=
        ⟨hh.out.1.kept sp (fun y hy=>BhaQ _ _ _ (hh.out.1.2.2.2.2.1 y hy)),HJ.out hh.out.2 (Ju _ _)⟩
       obtain⟨fn,tmps,assign,body,hy,hR⟩:=YieldAt.zbc 5 (hB (ZK rs k+j) x _ (zfd rs k j r x HR.out.1 hx) hVI.1.2.2.2.2.1 hVI.2)
       rw[←HX.out] at hy
       have hcell:=Zt (hanQ wr (.cells #[.int .i8 x.s.op,.int .i64 x.s.id,.int .i64 x.s.par,.int .i64 x.s.at_,.string x.s.tx,.int .i64 x.s.sub.id,.int .i64 x.s.sub.kind,.string x.s.sub.text,.slice x.a sn x.c] 41))
       obtain⟨e0,e1,e2,e3,e4,e5,e6,e7,e8⟩:=hcell
       have HVI:=hH hVI
       have HRR:=hH hR
       have HJN:=hH (aN hjm hjl)
       have hjw:IntKind.i64.wrap ((j:Int)+1)=(j:Int)+1:=IntWalk.i64_in _ om1
       clear hx ea hSb hcs hsn hh hVI hR hjm
       gi_wp2
       refine HRR.out.mono ?_
       clear HRR hy d0 d1 d2 d3 d4 d5 d6 d7 d8 e0 e1 e2 e3 e4 e5 e6 e7 e8
       rintro e w2 ⟨hs2,hk2,(⟨rfl,hJ4⟩ | ⟨rfl,hJ4⟩)⟩
       · have HNX:Hid (za7 NB R rs S J (ZK rs k+(j+1)) w2):=hH ⟨HVI.out.1.kept hs2 hk2,hJ4⟩
         clear hs2 hk2 hJ4 HVI
         gi_wp2
         refine⟨⟨j+1,by push_cast;rfl,by have:=HJN.out;omega,HNX⟩,by have:=HJN.out;simp[intOf];omega⟩
       · have HE:=hH (JS.mkx (tl:=flat rs) (J:=J) (v:= .tuple #[]) hJ4)
         clear hs2 hk2 hJ4 HVI
         gi_wp2
         go_end0
         exact HE.out
     · have hjn:¬(j:Int)<(mm:Int):=by omega
       have hjm2:j=mm:=by omega
       have HNX:Hid (za7 NB R rs S J (ZK rs (k+1)) wr):=hH (by rw[zbs rs k r HR.out.1,←HR.out.2.1,←hjm2];exact hh.out)
       have hkw:IntKind.i64.wrap ((k:Int)+1)=(k:Int)+1:=IntWalk.i64_in _ om1
       have HKN:=hH (aN hkn hlt)
       clear hh hjm hjm2 hjl hkn hlt
       gi_wp2
       refine⟨⟨k+1,by push_cast;rfl,by have:=HKN.out;omega,HNX⟩,by have:=HKN.out;simp[intOf];omega⟩
  · have hkl:¬(k:Int)<(n:Int):=by omega
    have HE:=hH (JS.mk0 (tl:=flat rs) (Jx:=Jx) (v:= .tuple #[]) hh.out.2 (by rw[←zdn];congr 1;have:=HN.out;omega))
    clear hh hkn hlt
    gi_wp2
    go_end0
    exact HE.out
def zgE (B:Nat)(S:Nat→Prop)(I:Nat→World→Prop)(Ix:Code→World→Prop)(k:Nat)(W:World)(e:Exit)(_:Act)(V:World):Prop:=
 W.heap.size≤V.heap.size∧(∀y,(y=B∨y=B+1∨S y)→V.heap[y]? =W.heap[y]?)∧((e= .normal∧I (k+1) V)∨(e= .ret∧Ix .ret V)∨∃id,e= .exit id∧Ix (.exit id) V)
theorem zcc {n:Nat}{g:Operand}{ps:Array Tmp}{assign body:Code}{Q:Exit→Act→World→Prop}{a:Act}{w:World}(h1:1≤n){NB:Nat}(hg:a.eval g= .func (.func 96) #[] #[.pointer (some ⟨NB,0,none⟩)])
 (R:Nat) (rs:List RH) (S:Nat→Prop) (hids:Ql w NB R rs S) (hn:rs.length≤1000000) (hm:∀r∈rs,r.vs.length≤1000000) (hps:ps.size=1)
 (I:Nat→World→Prop) (Ix:Code→World→Prop)
 (hI:∀{k:Nat} {V V' :World},I k V→za V V' (fun x=>x=w.heap.size+1)→I k V')
 (hIx:∀{c:Code} {V V' :World},Ix c V→za V V' (fun x=>x=w.heap.size+1)→Ix c V')
 (h0:I 0 w)
 (hround:∀(l:Nat),l=w.heap.size+1→∀(k:Nat) (x:SV) (V:World),w.heap.size+2≤V.heap.size→(flat rs)[k]? =some x→I k V→
   ∀ (K:Act→World→Prop),(∀a₁ V0,za V V0 (fun _=>False)→(∀V',(∃o',V'=V0.putObj l o'∧∃o,V0.heap[l]? =some o∧o.isCells=false)→body.wpIn (Fence.wide.inRound l) (n - 1 - 1) Tryz.prog (zgE w.heap.size S I Ix k V') a₁ V')→K a₁ V0)→
    assign.wpIn (Fence.wide.inRound l) (n - 1 - 1) Tryz.prog (Exit.then K (fun _ _ _=>False)) { tmps:=(ps.zip #[x.v]).foldl (fun t (p,v)=>t.setIfInBounds p v) a.tmps,defers:=[] } V)
 (hdone:∀(D:Nat) (V:World),D=w.heap.size→I (flat rs).length V→V.heap[D]? =some (.deferred (some []))→Q .normal { a with defers:={ target:= .collected D,args:= #[] }::a.defers } V)
 (hstop:∀(D:Nat) (c:Code) (V:World),D=w.heap.size→Ix c V→V.heap[D]? =some (.deferred (some []))→c.wpIn Fence.wide n Tryz.prog Q { a with defers:={ target:= .collected D,args:= #[] }::a.defers } V):
 (Code.rangeFunc g ps assign body).wpIn Fence.wide n Tryz.prog Q a w:=by
 obtain⟨B,hB⟩:∃B,w.heap.size=B:=⟨_,rfl⟩
 have hSB:∀y,S y→y<B:=fun y hy=>by have:=hids.2.2.2.2.1 y hy;omega
 simp only[hB] at hI hIx hround hdone hstop h0
 refine wpIn_rangeFunc fun fn hfn=>?_
 obtain⟨rec,hrec⟩:∃rec:LoopState→Option Code→Loop,rec=fun st pe=>{ state:=st,pending:=pe,fn,tmps:=a.tmps,params:=ps,assign,body,defers:=B }:=⟨_,rfl⟩
 obtain⟨W1,hW1⟩:∃W1,W1=(w.alloc (.deferred (some []))).alloc (.loop (rec .ready none)):=⟨_,rfl⟩
 have hsz1:W1.heap.size=B+2:=by rw[hW1];simp[hB]
 have hblk:∀x,x<B→W1.heap[x]? =w.heap[x]?:=fun x hx=>by rw[hW1,BhaQ _ _ _ ud8,BhaQ _ _ _ om1]
 have hbk:Book B (rec .ready none) W1:=by
  exact se6
 have hb1:za w W1 (fun _=>False):=by rw[hW1];exact ((za.refl w _).alloc _).alloc _
 have hI1:I 0 W1:=hI h0 (hb1.mono (fun _ h=>h.elim))
 refine⟨B+1,[{ target:= .collected B,args:= #[] }],W1,{ target:= .fn (.func 96) #[.pointer (some ⟨NB,0,none⟩)],args:= #[.func (.yield (B+1)) #[] #[]] },W1,96, #[.func (.yield (B+1)) #[] #[]]++ #[.pointer (some ⟨NB,0,none⟩)],W1,?_,?_,?_,?_,fun _=>h1,?_⟩
 · rw[hW1,hrec,←hB];exact run_enterLoop_outer _ _ _ _ _
 · simp only[resolve,hg]
   simp[go_sem]
 · intro f' hf';simp[Target.leads] at hf';subst hf';exact trivial
 · simp[invoke,go_sem]
 · obtain⟨J,hJ⟩:∃J:Nat→World→Prop,J=fun k V=>I k V∧Book B (rec .ready none) V:=⟨_,rfl⟩
   obtain⟨Jx,hJx⟩:∃Jx:World→Prop,Jx=fun V=>∃c,Ix c V∧Book B (rec .done (some c)) V:=⟨_,rfl⟩
   have hbody:zjc Tryz.prog (n - 1 - 1) (B+1) S (flat rs) J Jx:=by
    subst hJ hJx
    rintro k x V hx hS ⟨j1,j2⟩
    have hr:=hround (B+1) rfl k x V (by have:=lohQ j2.1;omega) hx j1
    have hSl:∀y,S y→y≠B+1:=fun y hy=>by have:=hSB y hy;omega
    have hy:=run_yield (P:=Tryz.prog) (args:= #[x.v]) j2.1 (by rw[hrec];exact hps.symm)
    rw[hrec] at hy
    refine⟨fn,_,assign,body,hy,roundIn_of_wpIn hfn (hr _ fun a₁ V0 h0 hb=>?_)⟩
    have j3:Book B (rec .ready none) V0:=⟨(h0.block _ (lohQ j2.1) (fun h=>h)).trans j2.1,(h0.block _ (lohQ j2.2) (fun h=>h)).trans j2.2⟩
    refine⟨_,run_beginRound j3.1 (by rw[hrec]),?_⟩
    have hb2:Book B { rec .ready none with state:= .busy } (V0.putObj (B+1) (.loop { rec .ready none with state:= .busy })):=j3.put
    refine wpIn_mono (hb _ ⟨_,rfl,_,j3.1,rfl⟩) ?_
    rintro e3 a3 U ⟨hkU,hkS,hp⟩
    have hb3:Book B { rec .ready none with state:= .busy } U:=⟨(hkS _ (Or.inr (Or.inl rfl))).trans hb2.1,(hkS _ (Or.inl rfl)).trans hb2.2⟩
    have fin:=fun jump=>run_endRound (P:=Tryz.prog) jump hb3.1
    rw[hrec] at fin hb3
    have hUs:V.heap.size≤U.heap.size:=by have:=hkU;have:=h0.size;simp[World.putObj] at*;omega
    have hsz:∀o',V.heap.size≤(U.putObj (B+1) o').heap.size:=fun o'=>by simp[World.putObj];exact hUs
    have hallS:∀o' y,S y→(U.putObj (B+1) o').heap[y]? =V.heap[y]?:=fun o' y hy=>by
     rw[WphQ (hSl y hy),hkS y (Or.inr (Or.inr hy)),WphQ (hSl y hy),h0.block y (hS y hy) (fun h=>h)]
    have htp:∀o',za U (U.putObj (B+1) o') (fun x=>x=B+1):=fun o'=>jv o' hb3.1
    rcases hp with ⟨rfl,hi3⟩ | ⟨rfl,hi3⟩ | ⟨id,rfl,hi3⟩
    · refine⟨_,_,fin none,hsz _,hallS _,.inl ⟨rfl,hI hi3 (htp _),?_⟩⟩
      rw[hrec];exact hb3.put
    · refine⟨_,_,fin (some .ret),hsz _,hallS _,.inr ⟨rfl,.ret,hIx hi3 (htp _),?_⟩⟩
      rw[hrec];exact hb3.put
    · refine⟨_,_,fin (some (.exit id)),hsz _,hallS _,.inr ⟨rfl,.exit id,hIx hi3 (htp _),?_⟩⟩
      rw[hrec];exact hb3.put
   have hstart:J 0 W1:=by rw[hJ];exact⟨hI1,hbk⟩
   refine (callsIn_wide.2 (zdb hbody (fun {k V V1} j hb=>by rw[hJ] at j ⊢;exact⟨hI j.1 (hb.mono (fun _ h=>h.elim)),(hb.block _ (lohQ j.2.1) (fun h=>h)).trans j.2.1,(hb.block _ (lohQ j.2.2) (fun h=>h)).trans j.2.2⟩) W1 NB R (hids.kept hb1.size (fun y hy=>hblk y (hSB y hy))) hn hm hstart)).mono ?_
   rintro e W2 ⟨⟨v,rfl⟩,hj | hj⟩
   · rw[hJ] at hj
     obtain⟨hi,hb⟩:=hj
     have:=run_endLoop (P:=Tryz.prog) hb.1 (by rw[hrec];simp)
     rw[hrec] at this
     refine⟨none,_,this,hdone B _ rfl (hI hi (jv _ hb.1)) ((WphQ om1).trans hb.2)⟩
   · rw[hJx] at hj
     obtain⟨c,hi,hb⟩:=hj
     have:=run_endLoop (P:=Tryz.prog) hb.1 (by rw[hrec];simp)
     rw[hrec] at this
     exact⟨some c,_,this,hstop B c _ rfl (hIx hi (jv _ hb.1)) ((WphQ om1).trans hb.2)⟩
theorem zfV (w:World)(R n c:Nat):Calls Tryz.prog 40 #[.slice (some ⟨R,0,none⟩) n c] w fun e w'=>e= .returned (.func (.func 96) #[] #[.pointer (some ⟨w.heap.size,0,none⟩)])∧w.alloc (.cells #[.slice (some ⟨R,0,none⟩) n c] 133)=w':=by
 have hmf:∀W:World,(Instr.makeFunc (.func 96) #[] #[.pointer (some ⟨w.heap.size,0,none⟩)]).run Tryz.prog W= .ok (.func (.func 96) #[] #[.pointer (some ⟨w.heap.size,0,none⟩)]) W:=fun _=>rfl
 go_enter Tryz.func40,Tryz.ntmps40
 go_wp2_with fail
 go_ret
 exact⟨rfl,rfl⟩
end Go.Proofs.YtoidedomenkbpaaGreat
namespace Go.Proofs.YtoidedomenkbpaaGreat
open Go.RowKit Go.Shelf
attribute [local go_sem] Oper.semAt_some
theorem YN {P:Program}{fn:Func}{p q r:Tmp}{tp tq tr:TypeId}(h:fn.results= #[.cell p tp,.cell q tq,.cell r tr])(tmps:Array Value)(w:World)(g g1 g2:Nat)(t:TypeId)(cs:Array Value)(fr:Nat×Nat)(d:TypeDesc)(a b:Int)(hp:tmps.getD p undef= .pointer (some ⟨g,0,none⟩))(hq:tmps.getD q undef= .pointer (some ⟨g1,0,none⟩))(hr:tmps.getD r undef= .pointer (some ⟨g2,0,none⟩))
 (hg:w.heap[g]? =some (.cells cs t fr)) (hu:P.underlying tp=some d) (hd:(match d with | .struct _ | .array _ _=>true | _=>false)=true) (hi:(P.info? tp).map (·.size)=some cs.size)
 (hc1:w.cell? ⟨g1,0,none⟩=some (.int .i64 a)) (hc2:w.cell? ⟨g2,0,none⟩=some (.int .i64 b)) (hb:∀w,(isAgg tq).run P w= .ok false w) (hb2:∀w,(isAgg tr).run P w= .ok false w):(results fn tmps).run P w= .ok (.tuple #[.agg cs,.int .i64 a,.int .i64 b]) w:=by
 have hp' :tmps[p]?.getD undef= .pointer (some ⟨g,0,none⟩):=by simpa using hp
 have hq' :tmps[q]?.getD undef= .pointer (some ⟨g1,0,none⟩):=by simpa using hq
 have hr' :tmps[r]?.getD undef= .pointer (some ⟨g2,0,none⟩):=by simpa using hr
 have hl0:=run_loadVar_row w g t tp cs fr d hg hu hd hi
 have hl:(loadVar tq ⟨g1,0,none⟩).run P w= .ok (.int .i64 a) w:=by simp[go_sem,hc1,hb,Result.andThen]
 have hl2:(loadVar tr ⟨g2,0,none⟩).run P w= .ok (.int .i64 b) w:=by simp[go_sem,hc2,hb2,Result.andThen]
 simp[results,h,hp',hq',hr',asAddr,hl0,hl,hl2]
theorem zfw {c:Code}{P:Program}{Q:Exit→Act→World→Prop}{a:Act}{w:World}(h:c.wp P (fun e a w=>e= .normal∧Q .normal a w) a w):c.wp P Q a w:=wp_mono h (fun e a w h=>by obtain⟨rfl,h⟩:=h;exact h)
end Go.Proofs.YtoidedomenkbpaaGreat
namespace Go.Proofs.YtoidedomenkbpaaGreat
open Go.RowKit Go.Shelf
def ZY (op id par:Int)(x:Tr):List Int:=if op=1 then par::idT x else if op=3 then [id,par] else [id]
theorem zf1 (w:World)(Sx:Nat→Prop)(x:Tr)(op id par at_:Int)(tx:ByteArray)(sa:Option Addr)(sn sc:Nat)(hSx:∀y,Sx y→y<w.heap.size)(hx:kT w Sx (.agg #[.int .i64 x.id,.int .i64 x.kind,.string x.text,.slice sa sn sc]) x)(hxz:zh x.kids+1≤2000)(hop:(Lit.int .i8 op).wf=true):
 Calls Tryz.prog 47 #[.agg #[.int .i8 op,.int .i64 id,.int .i64 par,.int .i64 at_,.string tx,.int .i64 x.id,.int .i64 x.kind,.string x.text,.slice sa sn sc]] w (zjy w (ZY op id par x)):=by
 obtain⟨xid,hxid⟩:∃xid,xid=x.id:=⟨_,rfl⟩
 obtain⟨xkd,hxkd⟩:∃xkd,xkd=x.kind:=⟨_,rfl⟩
 obtain⟨xtx,hxtx⟩:∃xtx,xtx=x.text:=⟨_,rfl⟩
 rw[←hxid,←hxkd,←hxtx] at hx ⊢
 obtain⟨B,hB⟩:∃B,B=w.alloc (.cells #[.int .i8 op,.int .i64 id,.int .i64 par,.int .i64 at_,.string tx,.int .i64 xid,.int .i64 xkd,.string xtx,.slice sa sn sc] 41):=⟨_,rfl⟩
 have hb:Below w.heap.size w B:=by rw[hB];exact jh _ _
 have hs0:B.heap[w.heap.size]? =some (.cells #[.int .i8 op,.int .i64 id,.int .i64 par,.int .i64 at_,.string tx,.int .i64 xid,.int .i64 xkd,.string xtx,.slice sa sn sc] 41 (0,0)):=by rw[hB];exact hanQ _ _
 obtain⟨ln,hln⟩:∃ln,ln=(idT x).length:=⟨_,rfl⟩
 have HLP:=hH (show 0<ln∧ln≤2000 by rw[hln,Zg];omega)
 have hi:∀X,Below B.heap.size B X→Calls Tryz.prog 100 #[.agg #[.int .i64 xid,.int .i64 xkd,.string xtx,.slice sa sn sc],.int .i64 2000] X (zjy X (idT x)):=fun X hX=>by
  have hbx:=hb.trans (hX.mono hb.size)
  exact zil X Sx _ x 2000 (fun y hy=>nL (hSx y hy) hbx.size) (hx.kept fun y hy=>⟨hy,hbx.block y (hSx y hy)⟩) om1 om1
 have hc:∀X,Below B.heap.size B X→ue3 X w.heap.size op id par at_ tx xid xkd xtx sa sn sc:=fun X hX=>Zt ((hX.block _ (lohQ hs0)).trans hs0)
 have HI:=hH hi
 have HC:=hH hc
 have HB:=hH (aN hb hs0)
 have HBE:=hH hB
 have HBW:=hH hb
 have HLN:=hH hln
 have hob:=QR hop
 obtain⟨bb,hbb⟩:∃bb,bb=w.heap.size:=⟨_,rfl⟩
 have HBB:=hH hbb
 clear hi hb hs0 hB hSx hx hxz hop hc hxid hxkd hxtx hln
 go_enter Tryz.func47,Tryz.ntmps47
 go_upto_region 1 with fail
 rw[←HBE.out,←hbb]
 rw[←hbb] at HC HB
 obtain⟨k0,k1,k2,k3,k4,k5,k6,k7,k8⟩:=HC.out B (BrQ _ _)
 clear hbb HBE
 by_cases h1:op=1
 · have HNM:=hH (show ZY op id par x=par::idT x by rw[ZY,ipQ h1])
   have hb1:(op == 1)=true:=by simpa using h1
   clear hob
   have H1:=hH h1
   clear h1
   go_upto_region 3 with fail
   clear k0 k1 k2 k3 k4 k5 k6 k7 k8 hb1
   refine wrhQ (S:=fun X=>Below B.heap.size B X) kr1 (below_drewN (BrQ _ B) 1) (fun eH=>?_)
   refine tJ (i:=0) (.pointer (some ⟨bb,2,none⟩)) rfl ?_ ?_
   · exact ua5
   simp only[Act.put,pg]
   refine tJ (i:=1) (.int .i64 par) rfl ?_ ?_
   · exact ua5
   simp only[Act.put,pg]
   refine tJ (i:=3) (.pointer (some ⟨bb,5,none⟩)) rfl ?_ ?_
   · exact ua5
   simp only[Act.put,pg]
   refine tJ (i:=4) (.agg #[.int .i64 xid,.int .i64 xkd,.string xtx,.slice sa sn sc]) rfl ?_ ?_
   · exact ua5
   simp only[Act.put,pg]
   refine rd1 [2,5] ?_
   refine AcQ (o:=_) rfl (fun K hK=>?_) (AcQ (o:=_) rfl (fun K hK=>?_) AnQ)
   · skip
     rw[ipQ ue1]
     simp only[pg3]
     have HK:=hH hK
     have HS:=hH eH
     clear hK eH
     go_wp2_with fail
     obtain⟨WA,hWA⟩:∃WA,WA=(World.alloc B (.cells #[.int .i64 par] 3)).drew:=⟨_,rfl⟩
     rw[←hWA]
     obtain⟨pb,hpb⟩:∃pb,pb=B.heap.size:=⟨_,rfl⟩
     have hro:WA.ownsRow B.heap.size 3 1 (.slice (some ⟨pb,0,none⟩) 1 1) 1 [.int .i64 par]:=by rw[hWA,hpb];exact World.ownsRow_lit B #[.int .i64 par] 1 (NlrQ _) ud1 rfl
     have hba:Below B.heap.size B WA:=by rw[hWA];exact below_drewN (jh _ _) 1
     have hbc:Below B.heap.size B WA:=by rw[hWA];exact below_drewN (jh _ _) 1
     have HR:=hH hro
     have HA:=hH (aN hba hbc)
     rw[←hpb]
     refine HK.out _ _ hba (fun eH=>?_)
     clear HK HS hro hba hbc hWA hpb
     refine rd1 [5] ?_
     refine AcQ (o:=_) rfl (fun K hK=>?_) AnQ
     rw[ipQ ue1]
     simp only[pg3]
     have HK:=hH hK
     have HS:=hH eH
     clear hK eH
     go_wp2_with (go_at_call 100;refine (HI.out _ HS.out).mono ?_;rintro e w4 ⟨ia,ic,rfl,hio,hib⟩;have HIO:=hH (aN hio hib);clear hio hib)
     rw[←HLN.out] at HIO ⊢
     refine HK.out _ _ (HS.out.trans (HIO.out.2.mono HS.out.size)) (fun eH=>?_)
     clear HK HS
     refine rd1 [6] ?_
     refine AcQ (o:=_) rfl (fun K hK=>?_) AnQ
     have HK:=hH hK
     have HS:=hH eH
     clear hK eH
     obtain⟨i0,hi0,hz0,hz1,hz2⟩:=info_parts Tryz.zbY
     have hro:=yo (w':=w4) HR.out (fun g cur hg _=>HIO.out.2.block g (lohQ hg))
     have hio:=HIO.out.1
     have hpos:=HLP.out
     obtain⟨ig,ic2,e,_⟩:=hio.form om1
     cases e
     obtain⟨v',Z,hrun,hown,hgr,_,_⟩:=run_append_own_at (P:=Tryz.prog) w4 B.heap.size 30 30 3 i0 _ 1 8 Tryz.underlying30 hi0 hz0 hz1 hz2 rfl ue0 _ _ _ hro ⟨ig,0,none⟩ ln ic ((idT x).map zen) (by rw[List.length_map,←HLN.out,Nat.mul_one]) (fun j v hj=>by rw[Addr.add_mid,Nat.zero_add];exact yH hio rfl j v hj) (fun v hv=>by obtain⟨z,_,rfl⟩:=List.mem_map.1 hv;rfl) ud1 om1 HS.out.size
     exact sb6
   · skip
     rw[ipQ ue1]
     simp only[pg3]
     have HK:=hH hK
     have HS:=hH eH
     clear hK eH
     go_wp2_with (go_at_call 100;refine (HI.out _ HS.out).mono ?_;rintro e w4 ⟨ia,ic,rfl,hio,hib⟩;have HIO:=hH (aN hio hib);clear hio hib)
     rw[←HLN.out] at HIO ⊢
     refine HK.out _ _ (HS.out.trans (HIO.out.2.mono HS.out.size)) (fun eH=>?_)
     clear HK HS
     refine rd1 [2] ?_
     refine AcQ (o:=_) rfl (fun K hK=>?_) AnQ
     rw[ipQ ue1]
     simp only[pg3]
     have HK:=hH hK
     have HS:=hH eH
     clear hK eH
     go_wp2_with fail
     obtain⟨WA,hWA⟩:∃WA,WA=(World.alloc w4 (.cells #[.int .i64 par] 3)):=⟨_,rfl⟩
     rw[←hWA]
     obtain⟨pb,hpb⟩:∃pb,pb=w4.heap.size:=⟨_,rfl⟩
     have hro:WA.ownsRow B.heap.size 3 1 (.slice (some ⟨pb,0,none⟩) 1 1) 1 [.int .i64 par]:=by rw[hWA,hpb];exact World.ownsRow_lit w4 #[.int .i64 par] 1 HS.out.size ud1 rfl
     have hba:Below B.heap.size B WA:=by rw[hWA];exact HS.out.alloc HS.out.size _
     have hbc:Below w4.heap.size w4 WA:=by rw[hWA];exact jh _ _
     have HR:=hH hro
     have HA:=hH (aN hba hbc)
     rw[←hpb]
     refine HK.out _ _ hba (fun eH=>?_)
     clear HK HS hro hba hbc hWA hpb
     refine rd1 [6] ?_
     refine AcQ (o:=_) rfl (fun K hK=>?_) AnQ
     have HK:=hH hK
     have HS:=hH eH
     clear hK eH
     obtain⟨i0,hi0,hz0,hz1,hz2⟩:=info_parts Tryz.zbY
     have hro:=HR.out
     have hio:=yo (w':=WA) HIO.out.1 (fun g cur hg _=>HA.out.2.block g (lohQ hg))
     have hpos:=HLP.out
     obtain⟨ig,ic2,e,_⟩:=hio.form om1
     cases e
     obtain⟨v',Z,hrun,hown,hgr,_,_⟩:=run_append_own_at (P:=Tryz.prog) WA B.heap.size 30 30 3 i0 _ 1 8 Tryz.underlying30 hi0 hz0 hz1 hz2 rfl ue0 _ _ _ hro ⟨ig,0,none⟩ ln ic ((idT x).map zen) (by rw[List.length_map,←HLN.out,Nat.mul_one]) (fun j v hj=>by rw[Addr.add_mid,Nat.zero_add];exact yH hio rfl j v hj) (fun v hv=>by obtain⟨z,_,rfl⟩:=List.mem_map.1 hv;rfl) ud1 om1 HS.out.size
     exact sb6
 · by_cases h3:op=3
   · have HNM:=hH (show ZY op id par x= [id,par] by rw[ZY,inQ h1,ipQ h3])
     have hb1:(op == 1)=false:=by simpa using h1
     have hb3:(op == 3)=true:=by simpa using h3
     clear h1 h3 hob
     have hown:=World.ownsRow_lit B #[.int .i64 id,.int .i64 par] 2 (e:=3) (size:=1) HBW.out.size ud1 rfl
     have HW:=hH hown
     clear hown
     go_wp2_with fail
     go_ret
     rw[HNM.out]
     refine⟨some ⟨B.heap.size,0,none⟩,2,rfl,?_,HBW.out.trans ((jh _ _).mono HBW.out.size)⟩
     exact HW.out
   · have HNM:=hH (show ZY op id par x= [id] by rw[ZY,inQ h1,inQ h3])
     have hb1:(op == 1)=false:=by simpa using h1
     have hb3:(op == 3)=false:=by simpa using h3
     clear h1 h3 hob
     have hown:=World.ownsRow_lit B #[.int .i64 id] 1 (e:=3) (size:=1) HBW.out.size ud1 rfl
     have HW:=hH hown
     clear hown
     go_wp2_with fail
     go_ret
     rw[HNM.out]
     refine⟨some ⟨B.heap.size,0,none⟩,1,rfl,?_,HBW.out.trans ((jh _ _).mono HBW.out.size)⟩
     exact HW.out
end Go.Proofs.YtoidedomenkbpaaGreat
