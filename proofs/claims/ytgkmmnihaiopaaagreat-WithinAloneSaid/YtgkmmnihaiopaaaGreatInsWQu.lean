/-
  .
-/
import Derived.Test.YtgkmmnihaiopaaaGreatKAlong1Qu
import Derived.Test.YtgkmmnihaiopaaaGreatJIdsQu
import Derived.Test.YtgkmmnihaiopaaaGreatRParPQu
import Derived.WalkMore
import Derived.Test.YtgkmmnihaiopaaaGreatSubWQu
import Derived.Test.YtgkmmnihaiopaaaGreatJPgQu
import Derived.Test.YtgkmmnihaiopaaaGreatJPsQu
set_option maxRecDepth 100000
set_option maxHeartbeats 40000000
set_option linter.unusedVariables false
set_option linter.unusedSimpArgs false
namespace Go.Proofs.YtgkmmnihaiopaaaGreat
open Go.RowKit Go.Shelf
attribute [local go_sem] Oper.semAt_some
def yT (op id par:Int):List Int:=if op=1 then [par] else if op=2 then [id] else if op=3 then [id,par] else if op=4 then [id] else []
theorem zaO.kept {w w' :World} {ob pb ib:Nat} {op id par:Int} {S:Nat→Prop} (h:zaO w ob pb ib op id par S) (hs:w.heap.size≤w'.heap.size) (hk:∀y,S y→w'.heap[y]? =w.heap[y]?):zaO w' ob pb ib op id par S:=
 ⟨(hk _ h.so).trans h.o,(hk _ h.sp).trans h.p,(hk _ h.si).trans h.i,h.so,h.sp,h.si,fun y hy=>nL (h.lt y hy) hs⟩
theorem zb0 {m l :Nat} {S:Nat→Prop} {op id par:Int} {J:Nat→World→Prop} {Jx:World→Prop} (hB:ziB Tryz.prog m l S (yT op id par) J Jx) (W:World) (ob pb ib:Nat) (hI:zaO W ob pb ib op id par S) (hJ:J 0 W):
 Calls Tryz.prog 89 #[.func (.yield l) #[] #[],.pointer (some ⟨ob,0,none⟩),.pointer (some ⟨pb,0,none⟩),.pointer (some ⟨ib,0,none⟩)] W (Yk (yT op id par) J Jx):=by
 obtain⟨c0,c1,c2⟩:W.cell? ⟨ob,0,none⟩=some (.int .i8 op)∧W.cell? ⟨pb,0,none⟩=some (.int .i64 par)∧W.cell? ⟨ib,0,none⟩=some (.int .i64 id):=⟨by rw[corQ _ _ 0 _ _ _ hI.o];rfl,by rw[corQ _ _ 0 _ _ _ hI.p];rfl,by rw[corQ _ _ 0 _ _ _ hI.i];rfl⟩
 have HI:=hH (aN hI hJ)
 have HBB:=hH hB
 clear hI hJ hB
 refine (callsIn_wide (n:=6)).1 ?_
 refine callsIn_of_wp Tryz.func89 rfl trivial ?_ rfl
 simp only[Tryz.ntmps89,List.size_toArray,List.length_cons,List.length_nil,Nat.reduceAdd,Nat.reduceSub,Array.replicate_succ,Array.replicate_zero,List.push_toArray,List.append_toArray,List.nil_append,List.cons_append]
 by_cases ho:op=1
 · have HK:Hid (yT op id par= [par]):=hH (by rw[ho];rfl)
   have hb1:(op == 1)=true:=by rw[ho];decide
   have hb2:(op == 2)=false:=by rw[ho];decide
   have hb4:(op == 4)=false:=by rw[ho];decide
   have hb3:(op == 3)=false:=by rw[ho];decide
   clear ho
   obtain⟨fn,tmps,assign,body,hy,hR⟩:=YieldAt.vB 5 (HBB.out 0 par W (by rw[HK.out];rfl) HI.out.1.lt HI.out.2)
   exact sc2
 · have hn1 := ho
   clear ho
   · by_cases ho :op=2
     · have HK:Hid (yT op id par= [id]):=hH (by rw[ho];rfl)
       have hb1:(op == 1)=false:=by rw[ho];decide
       have hb2:(op == 2)=true:=by rw[ho];decide
       have hb4:(op == 4)=false:=by rw[ho];decide
       have hb3:(op == 3)=false:=by rw[ho];decide
       clear ho
       obtain⟨fn,tmps,assign,body,hy,hR⟩:=YieldAt.vB 5 (HBB.out 0 id W (by rw[HK.out];rfl) HI.out.1.lt HI.out.2)
       exact sc2
     · have hn2 :=ho
       clear ho
       · by_cases ho:op=3
         · have HK:Hid (yT op id par= [id,par]):=hH (by rw[ho];rfl)
           have hb1:(op == 1)=false:=by rw[ho];decide
           have hb2:(op == 2)=false:=by rw[ho];decide
           have hb4:(op == 4)=false:=by rw[ho];decide
           have hb3:(op == 3)=true:=by rw[ho];decide
           clear ho
           obtain⟨fn,tmps,assign,body,hy,hR⟩:=YieldAt.vB 5 (HBB.out 0 id W (by rw[HK.out];rfl) HI.out.1.lt HI.out.2)
           have HR:=hH hR
           clear hR
           gi_wp2
           refine HR.out.mono ?_
           clear HR hy
           rintro e w2 ⟨hs2,hk2,(⟨rfl,hJ4⟩ | ⟨rfl,hJ4⟩)⟩
           · have HI2:=hH (aN (HI.out.1.kept hs2 hk2) hJ4)
             have c1:w2.cell? ⟨pb,0,none⟩=some (.int .i64 par):=by rw[corQ _ _ 0 _ _ _ HI2.out.1.p];rfl
             clear hs2 hk2 hJ4 c0 c2
             obtain⟨fn,tmps,assign,body,hy,hR⟩:=YieldAt.vB 5 (HBB.out 1 par w2 (by rw[HK.out];rfl) HI2.out.1.lt HI2.out.2)
             have HR:=hH hR
             clear hR
             gi_wp2
             refine HR.out.mono ?_
             clear HR hy
             rintro e w3 ⟨hs2,hk2,(⟨rfl,hJ4⟩ | ⟨rfl,hJ4⟩)⟩
             · have HE:=hH (Yk.mk0 (tl:=yT op id par) (Jx:=Jx) (v:= .tuple #[]) hJ4 (by rw[HK.out];rfl))
               clear hs2 hk2 hJ4
               gi_wp2
               go_end0
               exact HE.out
             · have HE:=hH (Yk.mkx (tl:=yT op id par) (J:=J) (v:= .tuple #[]) hJ4)
               clear hs2 hk2 hJ4
               gi_wp2
               go_end0
               exact HE.out
           · have HE:=hH (Yk.mkx (tl:=yT op id par) (J:=J) (v:= .tuple #[]) hJ4)
             clear hs2 hk2 hJ4
             gi_wp2
             go_end0
             exact HE.out
         · have hn3:=ho
           clear ho
           · by_cases ho:op=4
             · have HK:Hid (yT op id par= [id]):=hH (by rw[ho];rfl)
               have hb1:(op == 1)=false:=by rw[ho];decide
               have hb2:(op == 2)=false:=by rw[ho];decide
               have hb4:(op == 4)=true:=by rw[ho];decide
               have hb3:(op == 3)=false:=by rw[ho];decide
               clear ho
               obtain⟨fn,tmps,assign,body,hy,hR⟩:=YieldAt.vB 5 (HBB.out 0 id W (by rw[HK.out];rfl) HI.out.1.lt HI.out.2)
               exact sc2
             · have hn4:=ho
               clear ho
               have HK:Hid (yT op id par= []):=hH (by unfold yT;rw[if_neg hn1,if_neg hn2,if_neg hn3,if_neg hn4])
               have hb1:(op == 1)=false:=by simpa using hn1
               have hb2:(op == 2)=false:=by simpa using hn2
               have hb4:(op == 4)=false:=by simpa using hn4
               have hb3:(op == 3)=false:=by simpa using hn3
               have HE:=hH (Yk.mk0 (tl:=yT op id par) (Jx:=Jx) (v:= .tuple #[]) HI.out.2 (by rw[HK.out];rfl))
               clear hn1 hn2 hn3 hn4
               gi_wp2
               go_end0
               exact HE.out
theorem zc0 {n:Nat} {g:Operand} {ps:Array Tmp} {assign body:Code} {Q:Exit→Act→World→Prop} {a:Act} {w:World} (h1:1≤n) {ob pb ib:Nat} (hg:a.eval g= .func (.func 89) #[] #[.pointer (some ⟨ob,0,none⟩),.pointer (some ⟨pb,0,none⟩),.pointer (some ⟨ib,0,none⟩)])
 (op id par:Int) (S:Nat→Prop) (hids:zaO w ob pb ib op id par S) (hps:ps.size=1)
 (I:Nat→World→Prop) (Ix:Code→World→Prop)
 (hI:∀{k:Nat} {V V' :World},I k V→zk V V' (fun x=>w.heap.size≤x∧z8 V x)→I k V')
 (hIx:∀{c:Code} {V V' :World},Ix c V→zk V V' (fun x=>w.heap.size≤x∧z8 V x)→Ix c V')
 (h0:I 0 w)
 (hround:∀(l:Nat),l=w.heap.size+1→∀(k:Nat) (x:Int) (V:World),w.heap.size+2≤V.heap.size→(yT op id par)[k]? =some x→I k V→
   ∀ (K:Act→World→Prop),(∀a₁,(∀V',(∃o',V'=V.putObj l o'∧∃o,V.heap[l]? =some o∧o.isCells=false)→body.wpIn (Fence.wide.inRound l) (n - 1 - 1) Tryz.prog (zgk w.heap.size S I Ix k V') a₁ V')→K a₁ V)→
    assign.wpIn (Fence.wide.inRound l) (n - 1 - 1) Tryz.prog (Exit.then K (fun _ _ _=>False)) { tmps:=(ps.zip #[.int .i64 x]).foldl (fun t (p,v)=>t.setIfInBounds p v) a.tmps,defers:=[] } V)
 (hdone:∀(D:Nat) (V:World),D=w.heap.size→I (yT op id par).length V→V.heap[D]? =some (.deferred (some []))→Q .normal { a with defers:={ target:= .collected D,args:= #[] }::a.defers } V)
 (hstop:∀(D:Nat) (c:Code) (V:World),D=w.heap.size→Ix c V→V.heap[D]? =some (.deferred (some []))→c.wpIn Fence.wide n Tryz.prog Q { a with defers:={ target:= .collected D,args:= #[] }::a.defers } V):
 (Code.rangeFunc g ps assign body).wpIn Fence.wide n Tryz.prog Q a w:=by
 obtain⟨B,hB⟩:∃B,w.heap.size=B:=⟨_,rfl⟩
 have hSB:∀y,S y→y<B:=fun y hy=>by have:=hids.lt y hy;omega
 simp only[hB] at hI hIx hround hdone hstop h0
 refine wpIn_rangeFunc fun fn hfn=>?_
 obtain⟨rec,hrec⟩:∃rec:LoopState→Option Code→Loop,rec=fun st pe=>{ state:=st,pending:=pe,fn,tmps:=a.tmps,params:=ps,assign,body,defers:=B }:=⟨_,rfl⟩
 obtain⟨W1,hW1⟩:∃W1,W1=(w.alloc (.deferred (some []))).alloc (.loop (rec .ready none)):=⟨_,rfl⟩
 have hsz1:W1.heap.size=B+2:=by rw[hW1];simp[hB]
 have hblk:∀x,x<B→W1.heap[x]? =w.heap[x]?:=fun x hx=>by rw[hW1,BhaQ _ _ _ (by simp;omega),BhaQ _ _ _ om]
 have hbk:Book B (rec .ready none) W1:=by
  exact sc1
 have hb1:zk w W1 (fun _=>False):=by rw[hW1];exact ((zk.refl w _).alloc _).alloc _
 have hI1:I 0 W1:=hI h0 (hb1.mono (fun _ h=>h.elim))
 refine⟨B+1,[{ target:= .collected B,args:= #[] }],W1,{ target:= .fn (.func 89) #[.pointer (some ⟨ob,0,none⟩),.pointer (some ⟨pb,0,none⟩),.pointer (some ⟨ib,0,none⟩)],args:= #[.func (.yield (B+1)) #[] #[]] },W1,89, #[.func (.yield (B+1)) #[] #[]]++ #[.pointer (some ⟨ob,0,none⟩),.pointer (some ⟨pb,0,none⟩),.pointer (some ⟨ib,0,none⟩)],W1,?_,?_,?_,?_,fun _=>h1,?_⟩
 · rw[hW1,hrec,←hB];exact run_enterLoop_outer _ _ _ _ _
 · simp only[resolve,hg]
   simp[go_sem]
 · intro f' hf';simp[Target.leads] at hf';subst hf';exact trivial
 · simp[invoke,go_sem]
 · obtain⟨J,hJ⟩:∃J:Nat→World→Prop,J=fun k V=>I k V∧Book B (rec .ready none) V:=⟨_,rfl⟩
   obtain⟨Jx,hJx⟩:∃Jx:World→Prop,Jx=fun V=>∃c,Ix c V∧Book B (rec .done (some c)) V:=⟨_,rfl⟩
   have hbody:ziB Tryz.prog (n - 1 - 1) (B+1) S (yT op id par) J Jx:=by
    subst hJ hJx
    rintro k x V hx hS ⟨j1,j2⟩
    have hr:=hround (B+1) rfl k x V (by have:=lohQ j2.1;omega) hx j1
    have hSl:∀y,S y→y≠B+1:=fun y hy=>by have:=hSB y hy;omega
    have hy:=run_yield (P:=Tryz.prog) (args:= #[.int .i64 x]) j2.1 (by rw[hrec];exact hps.symm)
    rw[hrec] at hy
    refine⟨fn,_,assign,body,hy,roundIn_of_wpIn hfn (hr _ fun a₁ hb=>?_)⟩
    refine⟨_,run_beginRound j2.1 (by rw[hrec]),?_⟩
    have hb2:Book B { rec .ready none with state:= .busy } (V.putObj (B+1) (.loop { rec .ready none with state:= .busy })):=j2.put
    refine wpIn_mono (hb _ ⟨_,rfl,_,j2.1,rfl⟩) ?_
    rintro e3 a3 U ⟨hkU,hkS,hp⟩
    have hb3:=hb2.kept hkU
    have fin:=fun jump=>run_endRound (P:=Tryz.prog) jump hb3.1
    rw[hrec] at fin hb3
    have hUs:V.heap.size≤U.heap.size:=by have:=hkU.size;simp[World.putObj] at this;exact this
    have hsz:∀o',V.heap.size≤(U.putObj (B+1) o').heap.size:=fun o'=>by simp[World.putObj];exact hUs
    have hallS:∀o' y,S y→(U.putObj (B+1) o').heap[y]? =V.heap[y]?:=fun o' y hy=>by
     rw[WphQ (hSl y hy),hkS y hy,WphQ (hSl y hy)]
    have htp:∀o',zk U (U.putObj (B+1) o') (fun x=>B≤x∧z8 U x):=fun o'=>(yA o' hb3.1).mono (fun x hx=>⟨by omega,by rw[hx];exact⟨_,hb3.1,rfl⟩⟩)
    exact sd5
   have hstart:J 0 W1:=by rw[hJ];exact⟨hI1,hbk⟩
   refine (callsIn_wide.2 (zb0 hbody W1 ob pb ib (hids.kept hb1.size (fun y hy=>hblk y (hSB y hy))) hstart)).mono ?_
   rintro e W2 ⟨⟨v,rfl⟩,hj | hj⟩
   · rw[hJ] at hj
     obtain⟨hi,hb⟩:=hj
     have:=run_endLoop (P:=Tryz.prog) hb.1 (by rw[hrec];simp)
     rw[hrec] at this
     refine⟨none,_,this,hdone B _ rfl (hI hi ((yA _ hb.1).mono (fun x hx=>⟨by omega,by rw[hx];exact⟨_,hb.1,rfl⟩⟩))) ((WphQ om).trans hb.2)⟩
   · rw[hJx] at hj
     obtain⟨c,hi,hb⟩:=hj
     have:=run_endLoop (P:=Tryz.prog) hb.1 (by rw[hrec];simp)
     rw[hrec] at this
     exact⟨some c,_,this,hstop B c _ rfl (hIx hi ((yA _ hb.1).mono (fun x hx=>⟨by omega,by rw[hx];exact⟨_,hb.1,rfl⟩⟩))) ((WphQ om).trans hb.2)⟩
end Go.Proofs.YtgkmmnihaiopaaaGreat
namespace Go.Proofs.YtgkmmnihaiopaaaGreat
open Go.RowKit Go.Shelf
attribute [local go_sem] Oper.semAt_some
theorem Yi {P:Program} {fn:Func} {p q r:Tmp} {tp tq tr:TypeId} (h:fn.results= #[.cell p tp,.cell q tq,.cell r tr]) (tmps:Array Value) (w:World) (g g1 g2:Nat) (t:TypeId) (cs:Array Value) (fr:Nat×Nat) (d:TypeDesc) (a b:Int) (hp:tmps.getD p undef= .pointer (some ⟨g,0,none⟩)) (hq:tmps.getD q undef= .pointer (some ⟨g1,0,none⟩)) (hr:tmps.getD r undef= .pointer (some ⟨g2,0,none⟩))
 (hg:w.heap[g]? =some (.cells cs t fr)) (hu:P.underlying tp=some d) (hd:(match d with | .struct _ | .array _ _=>true | _=>false)=true) (hi:(P.info? tp).map (·.size)=some cs.size)
 (hc1:w.cell? ⟨g1,0,none⟩=some (.int .i64 a)) (hc2:w.cell? ⟨g2,0,none⟩=some (.int .i64 b)) (hb:∀w,(isAgg tq).run P w= .ok false w) (hb2:∀w,(isAgg tr).run P w= .ok false w):(results fn tmps).run P w= .ok (.tuple #[.agg cs,.int .i64 a,.int .i64 b]) w:=by
 have hp' :tmps[p]?.getD undef= .pointer (some ⟨g,0,none⟩):=by simpa using hp
 have hq' :tmps[q]?.getD undef= .pointer (some ⟨g1,0,none⟩):=by simpa using hq
 have hr' :tmps[r]?.getD undef= .pointer (some ⟨g2,0,none⟩):=by simpa using hr
 have hl0:=run_loadVar_row w g t tp cs fr d hg hu hd hi
 have hl:(loadVar tq ⟨g1,0,none⟩).run P w= .ok (.int .i64 a) w:=by simp[go_sem,hc1,hb,Result.andThen]
 have hl2:(loadVar tr ⟨g2,0,none⟩).run P w= .ok (.int .i64 b) w:=by simp[go_sem,hc2,hb2,Result.andThen]
 simp[results,h,hp',hq',hr',asAddr,hl0,hl,hl2]
theorem zeR {c:Code} {P:Program} {Q:Exit→Act→World→Prop} {a:Act} {w:World} (h:c.wp P (fun e a w=>e= .normal∧Q .normal a w) a w):c.wp P Q a w:=wp_mono h (fun e a w h=>by obtain⟨rfl,h⟩:=h;exact h)
end Go.Proofs.YtgkmmnihaiopaaaGreat
namespace Go.Proofs.YtgkmmnihaiopaaaGreat
open Go.RowKit Go.Shelf
open Go.Maps
attribute [local go_sem] Oper.semAt_some
def ZU (op id x:Int):Bool:=(id == x) && ((op == 2) || (op == 3))
theorem zf0 (w:World) (op id par at_ xi xk x:Int) (tx xt:ByteArray) (sa:Option Addr) (sn sc:Nat):
 Calls Tryz.prog 72 #[.agg #[.int .i8 op,.int .i64 id,.int .i64 par,.int .i64 at_,.string tx,.int .i64 xi,.int .i64 xk,.string xt,.slice sa sn sc],.int .i64 x] w (Says (ZU op id x) w):=by
 have hb:=zh w (.cells #[.int .i8 op,.int .i64 id,.int .i64 par,.int .i64 at_,.string tx,.int .i64 xi,.int .i64 xk,.string xt,.slice sa sn sc] 44)
 have HB:=hH hb
 clear hb
 obtain⟨r,hr⟩:∃r,r=ZU op id x:=⟨_,rfl⟩
 rw[←hr]
 unfold ZU at hr
 cases h1:(id == x) with
 | false=>
   have HR:=hH (show r=false by rw[hr,h1];rfl)
   exact sd6
 | true =>
   cases h2:(op == 2) with
   | true=>
     have HR:=hH (show r=true by rw[hr,h1,h2];rfl)
     exact sd6
   | false=>
     cases h3:(op == 3) with
     | true=>
       have HR:=hH (show r=true by rw[hr,h1,h2,h3];rfl)
       exact sd6
     | false=>
       have HR:=hH (show r=false by rw[hr,h1,h2,h3];rfl)
       exact sd6
def jk (ids:List Int) (root op id x:Int):Bool:=ids.any (· == x) && !((x == root) && ZU op id x)
def vU (ids:List Int) (root op id par:Int):Bool:= !(yT op id par).isEmpty && (yT op id par).all (jk ids root op id)
theorem zfw {w W V V' :World} (hw:w.heap.size≤W.heap.size) (h:Below w.heap.size w V) (ht:zk V V' (fun x=>W.heap.size≤x∧z8 V x)):Below w.heap.size w V':=
 ⟨ht.os.trans h.os,ht.tape.trans h.tape,ht.output.trans h.output,Nat.le_trans h.size ht.size,fun x hx=>(ht.block x (by have:=h.size;omega) (fun hn=>by have:=hn.1;omega)).trans (h.block x hx)⟩
theorem jR {W V V' :World} (ht:zk V V' (fun x=>W.heap.size≤x∧z8 V x)) (x:Nat) (o:Obj) (ho:V.heap[x]? =some o) (hc:o.isCells=true):V'.heap[x]? =some o:=
 (ht.block x (lohQ ho) (fun hn=>by
   obtain⟨_,o',ho',hc'⟩:=hn
   rw[ho] at ho';cases ho';rw[hc] at hc';cases hc')).trans ho
structure kV (w:World) (mb:Nat) (root:Int) (sv:Array Value) (b:Bool) (V:World):Prop where
 below:Below w.heap.size w V
 m:V.heap[w.heap.size]? =some (.cells #[.map (some mb)] 93 (0,0))
 r:V.heap[w.heap.size+1]? =some (.cells #[.int .i64 root] 3 (0,0))
 s:V.heap[w.heap.size+1+1]? =some (.cells sv 44 (0,0))
 i:V.heap[w.heap.size+1+1+1]? =some (.cells #[.bool b] 4 (0,0))
theorem kV.same {w W V V' :World} {mb:Nat} {root:Int} {sv:Array Value} {b:Bool} (h:kV w mb root sv b V) (hw:w.heap.size≤W.heap.size) (ht:zk V V' (fun x=>W.heap.size≤x∧z8 V x)):kV w mb root sv b V':=
 ⟨zfw hw h.below ht,jR ht _ _ h.m rfl,jR ht _ _ h.r rfl,jR ht _ _ h.s rfl,jR ht _ _ h.i rfl⟩
theorem kV.on {w V V' :World} {mb:Nat} {root:Int} {sv:Array Value} {b:Bool} (h:kV w mb root sv b V) (k:Below V.heap.size V V'):kV w mb root sv b V':=
 ⟨h.below.trans (k.mono h.below.size),(k.block _ (lohQ h.m)).trans h.m,(k.block _ (lohQ h.r)).trans h.r,(k.block _ (lohQ h.s)).trans h.s,(k.block _ (lohQ h.i)).trans h.i⟩
theorem kV.set {w V:World} {mb:Nat} {root:Int} {sv:Array Value} {b:Bool} (h:kV w mb root sv b V) (c:Bool):kV w mb root sv c (V.setCell ⟨w.heap.size+1+1+1,0,none⟩ (.bool c)):=
 ⟨h.below.setCell (by simp only;omega) _,(BhsQ _ _ _ _ (by simp only;omega)).trans h.m,(BhsQ _ _ _ _ (by simp only;omega)).trans h.r,(BhsQ _ _ _ _ (by simp only;omega)).trans h.s,by rw[hssQ _ (w.heap.size+1+1+1) 0 _ _ _ h.i];rfl⟩
theorem kV.put {w V:World} {mb:Nat} {root:Int} {sv:Array Value} {b:Bool} {D:Nat} {o:Obj} (h:kV w mb root sv b V) (hD:w.heap.size+4≤D):kV w mb root sv b (V.putObj D o):=
 ⟨⟨h.below.os,h.below.tape,h.below.output,by have:=h.below.size;simp[World.putObj];exact this,fun q hq=>(WphQ om).trans (h.below.block q hq)⟩,(WphQ om).trans h.m,(WphQ om).trans h.r,(WphQ om).trans h.s,(WphQ om).trans h.i⟩
def zgh (w W1:World) (mb:Nat) (root:Int) (sv:Array Value) (tl:List Int) (good:Int→Bool) (k:Nat) (V:World):Prop:=kV w mb root sv (decide (0<k)) V∧W1.heap.size≤V.heap.size∧∀j x,j<k→tl[j]? =some x→good x=true
def zgi (w W1:World) (mb:Nat) (root:Int) (sv:Array Value) (tl:List Int) (good:Int→Bool) (c:Code) (V:World):Prop:=c= .exit 0∧kV w mb root sv false V∧W1.heap.size≤V.heap.size∧∃x∈tl,good x=false
theorem zdY (w:World) (mb n:Nat) (ids:List Int) (root op id par at_ xi xk:Int) (tx xt:ByteArray) (sa:Option Addr) (sn sc:Nat) (hm:qI w mb n ids) (hw1:(Lit.int .i64 id).wf=true) (hw2:(Lit.int .i64 par).wf=true):
 Calls Tryz.prog 54 #[.map (some mb),.int .i64 root,.agg #[.int .i8 op,.int .i64 id,.int .i64 par,.int .i64 at_,.string tx,.int .i64 xi,.int .i64 xk,.string xt,.slice sa sn sc]] w (Says (vU ids root op id par) w):=by
 obtain⟨W,hW⟩:∃W,W=zt w [.cells #[.map (some mb)] 93,.cells #[.int .i64 root] 3,.cells #[.int .i8 op,.int .i64 id,.int .i64 par,.int .i64 at_,.string tx,.int .i64 xi,.int .i64 xk,.string xt,.slice sa sn sc] 44,.cells #[.bool false] 4]:=⟨_,rfl⟩
 have hb:Below w.heap.size w W:=by rw[hW];exact zm _ _
 have hs:W.heap.size=w.heap.size+4:=by rw[hW];exact zC _ _
 have hown:kV w mb root #[.int .i8 op,.int .i64 id,.int .i64 par,.int .i64 at_,.string tx,.int .i64 xi,.int .i64 xk,.string xt,.slice sa sn sc] false W:=⟨hb,by rw[hW];exact zi _ _ 0 _ rfl,by rw[hW];exact zi _ _ 1 _ rfl,by rw[hW];exact zi _ _ 2 _ rfl,by rw[hW];exact zi _ _ 3 _ rfl⟩
 have hmw:mb<w.heap.size:=by unfold qI at hm;exact World.ownsMap.lt hm
 have hMX:∀X,Below w.heap.size w X→qI X mb n ids:=fun X hX=>hm.at (hX.block _ hmw)
 have htc:=zdm W op id par at_ xi xk tx xt sa sn sc
 obtain⟨s0,s1,s2,s3,s4,s5,s6,s7,s8⟩:=JG hown.s
 have hwf :∀x∈yT op id par,(Lit.int .i64 x).wf=true:=fun x hx=>by
  unfold yT at hx
  split at hx
  · simp at hx;rw[hx];exact hw2
  · split at hx
    · simp at hx;rw[hx];exact hw1
    · split at hx
      · simp at hx;rcases hx with rfl | rfl;exact hw1;exact hw2
      · split at hx
        · simp at hx;rw[hx];exact hw1
        · cases hx
 have HWF:=hH hwf
 have HT:=hH htc
 have H:=hH (aN hown (aN hs hMX))
 have HW:=hH hW
 clear hb hs hown hm hmw hMX htc hW hwf hw1 hw2
 refine (callsIn_wide (n:=8)).1 ?_
 refine callsIn_of_wp_marks Tryz.func54 rfl trivial ?_ rfl
 simp only[Tryz.ntmps54,List.size_toArray,List.length_cons,List.length_nil,Nat.reduceAdd,Nat.reduceSub,Array.replicate_succ,Array.replicate_zero,List.push_toArray,List.append_toArray,List.nil_append,List.cons_append]
 gi_wp2
 refine wpIn_wide.2 (wp_scope_straight (wpIn_wide (n:=8).1 ?_))
 refine wpIn_seq_k ?_
 intro K hK
 gi_wp2
 change Code.wpIn _ _ _ _ _ _ (zt w [.cells #[.map (some mb)] 93,.cells #[.int .i64 root] 3,.cells #[.int .i8 op,.int .i64 id,.int .i64 par,.int .i64 at_,.string tx,.int .i64 xi,.int .i64 xk,.string xt,.slice sa sn sc] 44,.cells #[.bool false] 4])
 rw[←HW.out]
 clear HW
 refine wpIn_label ?_
 gi_wp2
 refine⟨trivial,?_⟩
 refine (callsIn_wide.2 HT.out).mono ?_
 rintro e W1 ⟨ob,pb,ib,rfl,hTA,hb1⟩
 gi_wp2
 clear s0 s1 s2 s3 s4 s5 s6 s7 s8 HT
 have h1:kV w mb root #[.int .i8 op,.int .i64 id,.int .i64 par,.int .i64 at_,.string tx,.int .i64 xi,.int .i64 xk,.string xt,.slice sa sn sc] false W1:=H.out.1.on hb1
 have hs1:W.heap.size≤W1.heap.size:=hb1.size
 have hs0:=H.out.2.1
 have hwW:w.heap.size≤W1.heap.size:=by omega
 refine zc0 om rfl op id par (fun y=>W.heap.size≤y∧y<W1.heap.size) hTA rfl
  (zgh w W1 mb root #[.int .i8 op,.int .i64 id,.int .i64 par,.int .i64 at_,.string tx,.int .i64 xi,.int .i64 xk,.string xt,.slice sa sn sc] (yT op id par) (jk ids root op id)) (zgi w W1 mb root #[.int .i8 op,.int .i64 id,.int .i64 par,.int .i64 at_,.string tx,.int .i64 xi,.int .i64 xk,.string xt,.slice sa sn sc] (yT op id par) (jk ids root op id))
  (fun h ht=>⟨h.1.same hwW ht,Nat.le_trans h.2.1 ht.size,h.2.2⟩) (fun h ht=>⟨h.1,h.2.1.same hwW ht,Nat.le_trans h.2.2.1 ht.size,h.2.2.2⟩)
  ⟨h1,Nat.le_refl _,fun j x hj=>by omega⟩ ?round ?done ?stop
 case done=>
  rintro D V hD ⟨hO,hsV,hg⟩ hK
  have c0:V.cell? ⟨w.heap.size+1+1+1,0,none⟩=some (.bool (decide (0<(yT op id par).length))):=by rw[corQ _ _ 0 _ _ _ hO.i];rfl
  have hr:vU ids root op id par=decide (0<(yT op id par).length):=by
   unfold vU
   have ha:(yT op id par).all (jk ids root op id)=true:=List.all_eq_true.2 fun x hx=>by
    obtain⟨j,hj⟩:=List.mem_iff_getElem?.1 hx
    exact hg j x (List.getElem?_eq_some_iff.1 hj).1 hj
   rw[ha,Bool.and_true]
   cases yT op id par<;>simp
  obtain⟨b,hb⟩:∃b,b=decide (0<(yT op id par).length):=⟨_,rfl⟩
  rw[←hb] at c0 hr
  have HE:=hH (aN hr (aN hO (aN hK (show w.heap.size+4≤D by omega))))
  clear hr hO hK hD hsV hg hb h1 hTA hb1
  gi_wp2
  exact sg6
 case stop=>
  rintro D c V hD ⟨rfl,hO,hsV,x,hx,hg⟩ hK
  have c0:V.cell? ⟨w.heap.size+1+1+1,0,none⟩=some (.bool false):=by rw[corQ _ _ 0 _ _ _ hO.i];rfl
  have hr:vU ids root op id par=false:=by
   unfold vU
   have ha:(yT op id par).all (jk ids root op id)=false:=List.all_eq_false.2 ⟨x,hx,by rw[hg];simp⟩
   rw[ha,Bool.and_false]
  have HE:=hH (aN hr (aN hO (aN hK (show w.heap.size+4≤D by omega))))
  clear hr hO hK hD hsV hg hx h1 hTA hb1
  gi_wp2
  exact sg6
 case round=>
  rintro l hl k x V hV hx ⟨hO,hsV,hg⟩ K hK
  have HK:=hH hK
  have HR:=hH (aN hO (aN hx (aN hl (aN hV (aN hsV (aN hg (aN hs0 hs1)))))))
  clear hK hO hx hl hV hsV hg hs0 hs1 h1 hTA hb1 hwW
  gi_wp2
  refine HK.out _ fun V1 hV1=>?_
  clear HK
  obtain⟨o',ev,o,ho,hoc⟩:=hV1
  obtain⟨hO,hx,hl,hV,hsV,hg,hs0,hs1⟩:=HR.out
  have hO1:kV w mb root #[.int .i8 op,.int .i64 id,.int .i64 par,.int .i64 at_,.string tx,.int .i64 xi,.int .i64 xk,.string xt,.slice sa sn sc] (decide (0<k)) V1:=by rw[ev];exact hO.put om
  have hV1s:V1.heap.size=V.heap.size:=by rw[ev];simp[World.putObj]
  have c0:V1.cell? ⟨w.heap.size,0,none⟩=some (.map (some mb)):=by rw[corQ _ _ 0 _ _ _ hO1.m];rfl
  have c3:V1.cell? ⟨w.heap.size+1+1+1,0,none⟩=some (.bool (decide (0<k))):=by rw[corQ _ _ 0 _ _ _ hO1.i];rfl
  have f3:V1.frozen? ⟨w.heap.size+1+1+1,0,none⟩=false:=forQ _ _ 0 _ _ hO1.i
  have hm1:=H.out.2.2 V1 hO1.below
  unfold qI at hm1
  obtain⟨v,ps,hlook,hv⟩:=hm1.look_ok Y3 Tryz.underlying93 (Q8 V1) unitElem_mk (keyOf_int_mk (P:=Tryz.prog) Tryz.underlying3 (HWF.out x (List.mem_of_getElem? hx)))
  rw[jm] at hlook
  have hvk:v= .agg #[]:=(unitElem_inv hv).1
  subst hvk
  clear hm1 hv
  have hxt:x∈yT op id par:=List.mem_of_getElem? hx
  have hend:∀(V' :World) (aa:Act),kV w mb root #[.int .i8 op,.int .i64 id,.int .i64 par,.int .i64 at_,.string tx,.int .i64 xi,.int .i64 xk,.string xt,.slice sa sn sc] false V'→V1.heap.size≤V'.heap.size→(∀y,y≠w.heap.size+1+1+1→y<V1.heap.size→V'.heap[y]? =V1.heap[y]?)→jk ids root op id x=false→zgk W1.heap.size (fun y=>W.heap.size≤y∧y<W1.heap.size) (zgh w W1 mb root #[.int .i8 op,.int .i64 id,.int .i64 par,.int .i64 at_,.string tx,.int .i64 xi,.int .i64 xk,.string xt,.slice sa sn sc] (yT op id par) (jk ids root op id)) (zgi w W1 mb root #[.int .i8 op,.int .i64 id,.int .i64 par,.int .i64 at_,.string tx,.int .i64 xi,.int .i64 xk,.string xt,.slice sa sn sc] (yT op id par) (jk ids root op id)) k V1 (.exit 0) aa V':=fun V' aa h1 h2 h3 h4=>
   ⟨⟨h2,fun y o hy ho' _=>(h3 y om (lohQ ho')).trans ho'⟩,fun y hy=>h3 y om om,.inr (.inr ⟨0,rfl,rfl,h1,by omega,x,hxt,h4⟩)⟩
  have hgo:∀(V' :World) (aa:Act),kV w mb root #[.int .i8 op,.int .i64 id,.int .i64 par,.int .i64 at_,.string tx,.int .i64 xi,.int .i64 xk,.string xt,.slice sa sn sc] true V'→V1.heap.size≤V'.heap.size→(∀y,y≠w.heap.size+1+1+1→y<V1.heap.size→V'.heap[y]? =V1.heap[y]?)→jk ids root op id x=true→zgk W1.heap.size (fun y=>W.heap.size≤y∧y<W1.heap.size) (zgh w W1 mb root #[.int .i8 op,.int .i64 id,.int .i64 par,.int .i64 at_,.string tx,.int .i64 xi,.int .i64 xk,.string xt,.slice sa sn sc] (yT op id par) (jk ids root op id)) (zgi w W1 mb root #[.int .i8 op,.int .i64 id,.int .i64 par,.int .i64 at_,.string tx,.int .i64 xi,.int .i64 xk,.string xt,.slice sa sn sc] (yT op id par) (jk ids root op id)) k V1 .normal aa V':=fun V' aa h1 h2 h3 h4=>
   ⟨⟨h2,fun y o hy ho' _=>(h3 y om (lohQ ho')).trans ho'⟩,fun y hy=>h3 y om om,.inl ⟨rfl,by rw[decide_eq_true om];exact h1,by omega,fun j z hj hz=>by
     by_cases e:j=k
     · subst e;rw[hx] at hz;cases hz;exact h4
     · exact hg j z om hz⟩⟩
  obtain⟨bi,hbi⟩:∃bi,bi=ids.any (· == x):=⟨_,rfl⟩
  rw[←hbi] at hlook
  have hset:∀(b:Bool) y,y≠w.heap.size+1+1+1→(V1.setCell ⟨w.heap.size+1+1+1,0,none⟩ (.bool b)).heap[y]? =V1.heap[y]?:=fun b y hy=>BhsQ _ _ _ _ hy
  have hsz:∀b:Bool,(V1.setCell ⟨w.heap.size+1+1+1,0,none⟩ (.bool b)).heap.size=V1.heap.size:=fun b=>by simp[World.setCell]
  have HE:=hH (aN hend (aN hgo (aN hbi (aN hset (aN hsz hO1)))))
  clear hend hgo hbi hset hsz ev ho hoc hO hx hl hV hsV hg hs0 hs1 hV1s hxt hO1
  cases bi with
  | false=>
    gi_wp2
    exact HE.out.1 _ _ (HE.out.2.2.2.2.2.set false) (Nat.le_of_eq (HE.out.2.2.2.2.1 false).symm) (fun y h1 _=>HE.out.2.2.2.1 false y h1) (by unfold jk;rw[←HE.out.2.2.1];rfl)
  | true =>
    have hO1:=HE.out.2.2.2.2.2
    have d1:V1.cell? ⟨w.heap.size+1,0,none⟩=some (.int .i64 root):=by rw[corQ _ _ 0 _ _ _ hO1.r];rfl
    obtain⟨s0,s1,s2,s3,s4,s5,s6,s7,s8⟩:=JG hO1.s
    clear hO1
    by_cases hr:x=root
    · have hrb:(x == root)=true:=by simpa using hr
      have HR2:=hH hr
      have HTK:=hH (zf0 (V1.setCell ⟨w.heap.size+1+1+1,0,none⟩ (.bool true)) op id par at_ xi xk x tx xt sa sn sc)
      clear hr
      gi_wp2
      refine⟨trivial,?_⟩
      refine (CallsIn.inRound l (callsIn_wide.2 HTK.out)).mono ?_
      rintro e V3 ⟨rfl,hb3⟩
      clear c0 c3 f3 hlook d1 s0 s1 s2 s3 s4 s5 s6 s7 s8 HTK
      obtain⟨tk,htk⟩:∃tk,tk=ZU op id x:=⟨_,rfl⟩
      rw[←htk]
      have hO3:=(HE.out.2.2.2.2.2.set true).on hb3
      have c3:V3.cell? ⟨w.heap.size+1+1+1,0,none⟩=some (.bool true):=by rw[corQ _ _ 0 _ _ _ hO3.i];rfl
      have f3:V3.frozen? ⟨w.heap.size+1+1+1,0,none⟩=false:=forQ _ _ 0 _ _ hO3.i
      have hs3:V1.heap.size≤V3.heap.size:=by rw[←HE.out.2.2.2.2.1 true];exact hb3.size
      have hk3:∀y,y≠w.heap.size+1+1+1→y<V1.heap.size→V3.heap[y]? =V1.heap[y]?:=fun y h1 h2=>(hb3.block y (by rw[HE.out.2.2.2.2.1 true];exact h2)).trans (HE.out.2.2.2.1 true y h1)
      have H3:=hH (aN hO3 (aN hs3 (aN hk3 htk)))
      clear hO3 hs3 hk3 htk hb3
      cases tk with
      | true=>
        gi_wp2
        exact HE.out.1 _ _ (H3.out.1.set false) (by simp[World.setCell];exact H3.out.2.1) (fun y h1 h2=>(BhsQ _ _ _ _ h1).trans (H3.out.2.2.1 y h1 h2)) (by unfold jk;rw[←HE.out.2.2.1,←H3.out.2.2.2,HR2.out];simp)
      | false=>
        gi_wp2
        exact HE.out.2.1 _ _ H3.out.1 H3.out.2.1 H3.out.2.2.1 (by unfold jk;rw[←HE.out.2.2.1,←H3.out.2.2.2];simp)
    · have hrb:(x == root)=false:=by simpa using hr
      have HR2:=hH hrb
      clear hr
      gi_wp2
      refine⟨trivial,?_⟩
      rename_i K2 hK2
      refine hK2 _ _ ?_
      clear hK2
      gi_wp2
      exact HE.out.2.1 _ _ (HE.out.2.2.2.2.2.set true) (Nat.le_of_eq (HE.out.2.2.2.2.1 true).symm) (fun y h1 _=>HE.out.2.2.2.1 true y h1) (by unfold jk;rw[←HE.out.2.2.1,HR2.out];rfl)
end Go.Proofs.YtgkmmnihaiopaaaGreat
