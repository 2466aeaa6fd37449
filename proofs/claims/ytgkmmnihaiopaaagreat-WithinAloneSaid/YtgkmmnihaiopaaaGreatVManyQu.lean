/-
  .
-/
import Derived.Test.YtgkmmnihaiopaaaGreatRGreatXQu
import Derived.Test.YtgkmmnihaiopaaaGreatEFindWQu
import Derived.Test.YtgkmmnihaiopaaaGreatECountNQu
import Derived.Deep.AppendLies
import Derived.Test.YtgkmmnihaiopaaaGreatERevQu
import Derived.RangeFuncNested
import Derived.RangeFuncBound
import Derived.RangeFuncCalls
import Derived.RangeFuncLeaves
import Derived.RangeFuncWrites
import Derived.Shelf.RegionOpen
import Derived.OwnWalkIn
import Derived.TacticsInMore
import Derived.LoopNIn
import Derived.LoopIn
import Derived.OrdersIn
import Derived.Test.YtgkmmnihaiopaaaGreatGGreatQu
import Derived.Test.YtgkmmnihaiopaaaGreatJPgQu
import Derived.Test.YtgkmmnihaiopaaaGreatJPsQu
set_option maxRecDepth 100000
set_option maxHeartbeats 40000000
set_option linter.unusedVariables false
set_option linter.unusedSimpArgs false
namespace Go.Proofs.YtgkmmnihaiopaaaGreat
open Go.RowKit
theorem zdW {P:Program} {e:TypeId} {size bytes:Nat} (h:(P.info? e).map (fun i=>(i.size,i.bytes,i.zero.map (fun z=>z.cells.size)))=some (size,bytes,some size)):
 ∃i z,P.info? e=some i∧i.zero=some z∧i.size=size∧i.bytes=bytes∧z.cells.size=size:=by
 exact sd8
theorem zeo {α:Type} (M:Nat) (A B:List α):((A.take M)++B).take M=(A++B).take M:=by
 rw[List.take_append,List.take_append,List.take_take,Nat.min_self,List.length_take]
 congr 2
 omega
theorem jr:∀(d:Nat) (f:Fo) (x:Sp),x∈spF d f→zg x.2.2+1≤zg f∧d≤x.1∧x.1+zg x.2.2<d+zg f
 | _,.nil,x,h=>by simp[spF] at h
 | d,.node _ _ k l r,x,h=>by
   simp only[spF,List.mem_cons,List.mem_append] at h
   simp only[zg]
   rcases h with rfl | h | h
   · simp only;omega
   · have:=jr (d+1) l x h;omega
   · have:=jr d r x h;omega
def kR (x:Sp):Tr:=⟨x.2.1.1,x.2.1.2.1,x.2.1.2.2,x.2.2⟩
end Go.Proofs.YtgkmmnihaiopaaaGreat
namespace Go.Proofs.YtgkmmnihaiopaaaGreat
open Go.RowKit Go.Shelf
attribute [local go_sem] Oper.semAt_some
theorem YieldAt.ze6 {m:Nat} (m' :Nat) {P:Program} {l:Nat} {args:Array Value} {W:World} {R:Ending→World→Prop} (h:YieldAt Fence.wide m P l args W R):YieldAt Fence.wide m' P l args W R:=by
 obtain⟨fn,tmps,assign,body,hy,hr⟩:=h
 exact⟨fn,tmps,assign,body,hy,hr.1,fun c cs _=>hr.2 c cs (room_wide _)⟩
structure zgp (P:Program) (m l n₀:Nat) (S:Nat→Prop) (tot:List Sp) (J:List Sp→World→Prop) (Jx:World→Prop):Prop where
 turn:∀{pre:List Sp} {V V' :World},J pre V→Below n₀ V V'→J pre V'
 zdn:∀{V V' :World},Jx V→Below n₀ V V'→Jx V'
 yield:∀{pre rest:List Sp} {d:Nat} {key:Int×Int×ByteArray} {k:Fo} {V:World} {b off kc:Nat} {ka:Option Addr},tot=pre++(d,key,k)::rest→J pre V→n₀≤V.heap.size→S b→
  V.cell? ⟨b,off,none⟩=some (.int .i64 key.1)→V.cell? ⟨b,off+1,none⟩=some (.int .i64 key.2.1)→V.cell? ⟨b,off+2,none⟩=some (.string key.2.2)→V.cell? ⟨b,off+3,none⟩=some (.slice ka (foLen k) kc)→foLen k≤kc→zu V S k ka→
  YieldAt Fence.wide m P l #[.int .i64 (d:Int),.pointer (some ⟨b,off,none⟩)] V fun e V'=>(V.heap.size≤V'.heap.size∧(∀y,S y→V'.heap[y]? =V.heap[y]?))∧((e= .returned (.bool true)∧J (pre++[(d,key,k)]) V')∨(e= .returned (.bool false)∧Jx V'))
def ziJ (S:Nat→Prop) (J:List Sp→World→Prop) (Jx:World→Prop) (pre L:List Sp) (w:World) (e:Ending) (w' :World):Prop:=
 ∃bl,e= .returned (.bool bl)∧w.heap.size≤w'.heap.size∧(∀y,S y→w'.heap[y]? =w.heap[y]?)∧(bl=true→J (pre++L) w')∧(bl=false→Jx w')
theorem zbe:∀(j d:Nat) (f:Fo),spF d f=spF d (zz j f)++spF d (zq j f)
 | 0,_,f=>by cases f<;>simp[zz,zq,spF]
 | _+1,_,.nil=>by simp[zz,zq,spF]
 | j+1,d,.node _ _ k l r=>by simp only[zz,zq,spF,List.cons_append,List.append_assoc];rw[zbe j d r]
def zf9 (S:Nat→Prop) (J:List Sp→World→Prop) (w:World) (d:Nat) (key:Int×Int×ByteArray) (k:Fo) (pre:List Sp) (j:Nat) (wr:World):Prop:=
 J (pre++(d,key,k)::spF (d+1) (zz j k)) wr∧w.heap.size≤wr.heap.size∧∀y,S y→wr.heap[y]? =w.heap[y]?
theorem ze9 {m l n₀:Nat} {S:Nat→Prop} {tot:List Sp} {J:List Sp→World→Prop} {Jx:World→Prop} (hB:zgp Tryz.prog m l n₀ S tot J Jx):∀(q d:Nat) (key:Int×Int×ByteArray) (k:Fo) (pre rest:List Sp) (w:World) (b off kc:Nat) (ka:Option Addr),zg k<q→q≤1000000→d+q≤2000000→tot=pre++((d,key,k)::(spF (d+1) k++rest))→J pre w→n₀≤w.heap.size→S b→
 w.cell? ⟨b,off,none⟩=some (.int .i64 key.1)→w.cell? ⟨b,off+1,none⟩=some (.int .i64 key.2.1)→w.cell? ⟨b,off+2,none⟩=some (.string key.2.2)→w.cell? ⟨b,off+3,none⟩=some (.slice ka (foLen k) kc)→foLen k≤kc→zu w S k ka→
 Calls Tryz.prog 116 #[.pointer (some ⟨b,off,none⟩),.int .i64 (d:Int),.func (.yield l) #[] #[]] w (ziJ S J Jx pre ((d,key,k)::spF (d+1) k) w):=by
 intro q
 induction q with
 | zero=>intro d key k pre rest w b off kc ka h;omega
 | succ q ih=>
   intro d key k pre rest w b off kc ka hq hq6 hdq htot hJ hn0 hSb c0 c1 c2 c3 hcp hk
   obtain⟨fn,tmps,assign,body,hy,hR⟩:=YieldAt.ze6 5 (hB.yield htot hJ hn0 hSb c0 c1 c2 c3 hcp hk)
   obtain⟨n,hn⟩:∃n,n=foLen k:=⟨_,rfl⟩
   have hn6:n≤1000000:=by have:=zK k;omega
   have hd6:(d:Int)≤2000000:=by omega
   have hd0:(0:Int)≤(d:Int):=by omega
   rw[←hn] at c3 hcp
   have H:=hH (aN hq (aN hq6 (aN hdq (aN htot (aN hn0 (aN hSb (aN c3 (aN hcp (aN hk hn)))))))))
   have HR:=hH hR
   have HIH:=hH ih
   clear hq hq6 hdq htot hJ hn0 hSb c0 c1 c2 c3 hcp hk hn hR ih
   refine (callsIn_wide (n:=6)).1 ?_
   refine callsIn_of_wp Tryz.func116 rfl trivial ?_ rfl
   simp only[Tryz.ntmps116,List.size_toArray,List.length_cons,List.length_nil,Nat.reduceAdd,Nat.reduceSub,Array.replicate_succ,Array.replicate_zero,List.push_toArray,List.append_toArray,List.nil_append,List.cons_append]
   gi_wp2
   refine HR.out.mono ?_
   clear HR hy
   rintro e w1 ⟨⟨hs1,hS1⟩,(⟨rfl,hJ1⟩ | ⟨rfl,hx1⟩)⟩
   · have p3:w1.cell? ⟨b,off+3,none⟩=some (.slice ka n kc):=(World.cell?_of_block (a:=⟨b,off+3,none⟩) (hS1 b H.out.2.2.2.2.2.1)).trans H.out.2.2.2.2.2.2.1
     have HS:=hH (show zf9 S J w d key k pre 0 w1 from⟨by simpa [zz,spF] using hJ1,hs1,hS1⟩)
     clear hJ1 hs1 hS1
     gi_wp2
     gi_loopw [7,18] (fun _ i wr=>∃j:Nat,j≤n∧i= .int .i64 (j:Int)∧Hid (zf9 S J w d key k pre j wr)) (fun _ i _=>n - (intOf i).toNat)
     case atStart=>exact⟨0,Nat.zero_le _,rfl,HS⟩
     case round=>
      obtain⟨j,hj,rfl,hh⟩:=hrel
      have p3r:wr.cell? ⟨b,off+3,none⟩=some (.slice ka n kc):=(World.cell?_of_block (a:=⟨b,off+3,none⟩) (hh.out.2.2 b H.out.2.2.2.2.2.1)).trans H.out.2.2.2.2.2.2.1
      by_cases hlt:j<n
      · have hk1:zu wr S k ka:=H.out.2.2.2.2.2.2.2.2.1.kept fun x hx=>⟨hx,hh.out.2.2 x hx⟩
        obtain⟨b0,o0,kkey,l',r,hd1',b',off',a1,n1,rfl,hSb',e0,e1,e2,e3,hc1,hl1⟩:=hk1.at j (by have:=H.out.2.2.2.2.2.2.2.2.2;omega)
        obtain⟨_,_,_,_,_,f1,f2,hsz1,htk⟩:=zS j k (by have:=H.out.2.2.2.2.2.2.2.2.2;omega)
        rw[hd1'] at f1;cases f1
        have htot2:tot=(pre++(d,key,k)::spF (d+1) (zz j k))++((d+1,kkey,l')::(spF (d+1+1) l'++(spF (d+1) r++rest))):=by
         rw[H.out.2.2.2.1,zbe j (d+1) k,hd1']
         simp[spF,List.append_assoc]
        have hcall:=HIH.out (d+1) kkey l' (pre++(d,key,k)::spF (d+1) (zz j k)) (spF (d+1) r++rest) wr b' (off'+j*4) n1 a1 (by have:=H.out.1;omega) (by have:=H.out.2.1;omega) (by have:=H.out.2.2.1;omega) htot2 hh.out.1 (Nat.le_trans H.out.2.2.2.2.1 hh.out.2.1) hSb' e0 e1 e2 e3 hc1 hl1
        have hcast:(((d+1:Nat)):Int)=(d:Int)+1:=by omega
        rw[hcast] at hcall
        have hnx:(pre++(d,key,k)::spF (d+1) (zz j k))++((d+1,kkey,l')::spF (d+1+1) l')=pre++(d,key,k)::spF (d+1) (zz (j+1) k):=by rw[htk,Qe];simp[List.append_assoc]
        have HC:=hH (aN hcall hnx)
        have hji:(j:Int)<(n:Int):=by omega
        clear hk1 hd1' f2 hsz1 htk htot2 hcall hcast hnx e0 e1 e2 e3 hc1 hl1 hSb'
        have hlt5:(j:Int)+1≤1000001:=by omega
        have HLT:=hH hlt
        clear hlt
        gi_wp2_with (refine⟨trivial,?_⟩;gi_at_call 116;refine (callsIn_wide.2 HC.out.1).mono ?_;rintro e w2 ⟨bl,rfl,hs2,hS2,hJ2,hx2⟩;have HE:=hH (aN hs2 (aN hS2 (aN hJ2 hx2)));clear hs2 hS2 hJ2 hx2;cases bl)
        · go_ret
          exact⟨false,rfl,Nat.le_trans hh.out.2.1 HE.out.1,fun y hy=>(HE.out.2.1 y hy).trans (hh.out.2.2 y hy),(fun e=>by cases e),fun _=>HE.out.2.2.2 (by first | rfl | trivial)⟩
        · refine⟨⟨j+1,by have:=HLT.out;omega,by go_num,hH ⟨?_,Nat.le_trans hh.out.2.1 HE.out.1,fun y hy=>(HE.out.2.1 y hy).trans (hh.out.2.2 y hy)⟩⟩,by have:=HLT.out;simp[intOf];omega⟩
          have h:=HE.out.2.2.1 (by first | rfl | trivial)
          rw[HC.out.2] at h
          exact h
      · have hjn:¬(j:Int)<(n:Int):=by omega
        have HJN:=hH (show j=n by omega)
        clear hlt
        gi_wp2
        go_ret
        refine⟨true,rfl,hh.out.2.1,hh.out.2.2,fun _=>?_,fun e=>by cases e⟩
        have h:=hh.out.1
        rw[qg j k (by rw[HJN.out,H.out.2.2.2.2.2.2.2.2.2];exact Nat.le_refl _)] at h
        exact h
   · have HE:=hH (aN hs1 (aN hS1 hx1))
     clear hs1 hS1 hx1
     gi_wp2
     go_ret
     exact⟨false,rfl,HE.out.1,HE.out.2.1,(fun e=>by cases e),fun _=>HE.out.2.2⟩
end Go.Proofs.YtgkmmnihaiopaaaGreat
namespace Go.Proofs.YtgkmmnihaiopaaaGreat
open Go.RowKit Go.Shelf
attribute [local go_sem] Oper.semAt_some
def YO (w:World) (S:Nat→Prop) (t:Tr) (TB:Nat):Prop:=∃ka kc,S TB∧w.heap[TB]? =some (.cells #[.int .i64 t.id,.int .i64 t.kind,.string t.text,.slice ka (foLen t.kids) kc] 27 (0,0))∧foLen t.kids≤kc∧zu w S t.kids ka
theorem zep {m l:Nat} {SS:Nat→Prop} {t:Tr} {J:List Sp→World→Prop} {Jx:World→Prop} (w:World) (hB:zgp Tryz.prog m l w.heap.size SS (spF 1 (zl t)) J Jx) (TB:Nat) (hw:YO w SS t TB) (hsz:zg t.kids+1≤500000) (h0:J [] w):
 Calls Tryz.prog 115 #[.func (.yield l) #[] #[],.pointer (some ⟨TB,0,none⟩)] w fun e V=>(∃v,e= .returned v)∧(J (spF 1 (zl t)) V∨Jx V):=by
 obtain⟨ka,kc,hS,hb,hc,hk⟩:=hw
 have hcall:=ze9 hB 500001 1 (t.id,t.kind,t.text) t.kids [] [] w TB 0 kc ka om om om (by simp[zl,spF]) h0 (Nat.le_refl _) hS (by rw[corQ _ _ 0 _ _ _ hb];rfl) (by rw[corQ _ _ 1 _ _ _ hb];rfl) (by rw[corQ _ _ 2 _ _ _ hb];rfl) (by rw[corQ _ _ 3 _ _ _ hb];rfl) hc hk
 have HC:=hH hcall
 clear hcall hS hb hc hk h0 hB
 go_enter Tryz.func115,Tryz.ntmps115
 go_wp2_with fail
 refine HC.out.mono ?_
 rintro e w2 ⟨bl,rfl,_,_,hJ2,hx2⟩
 have HE:=hH (aN hJ2 hx2)
 clear hJ2 hx2
 go_wp2_with fail
 cases bl
 · exact bodyPost_end (results_none rfl _ _ _) rfl ⟨⟨_,rfl⟩,.inr (HE.out.2 rfl)⟩
 · refine bodyPost_end (results_none rfl _ _ _) rfl ⟨⟨_,rfl⟩,.inl ?_⟩
   have h:=HE.out.1 rfl
   simpa [zl,spF] using h
def zb6 (B:Nat) (SS:Nat→Prop) (I:List Sp→World→Prop) (Ix:Code→World→Prop) (pre:List Sp) (W:World) (e:Exit) (_:Act) (V:World):Prop:=
 (W.heap.size≤V.heap.size∧∀y,(B≤y∨SS y)→y<W.heap.size→V.heap[y]? =W.heap[y]?)∧((e= .normal∧I pre V)∨(e= .ret∧Ix .ret V)∨∃id,e= .exit id∧Ix (.exit id) V)
theorem zeM {n:Nat} {g:Operand} {ps:Array Tmp} {assign body:Code} {Q:Exit→Act→World→Prop} {a:Act} {w:World} (h1:1≤n) {TB:Nat} (hg:a.eval g= .func (.func 115) #[] #[.pointer (some ⟨TB,0,none⟩)])
 (SS:Nat→Prop) (t:Tr) (hwa:YO w SS t TB) (hSS:∀x,SS x→x<w.heap.size) (hsz:zg t.kids+1≤500000) (hps:ps.size=2)
 (I:List Sp→World→Prop) (Ix:Code→World→Prop) (hI:∀{pre:List Sp} {V V' :World},I pre V→Below w.heap.size V V'→I pre V') (hIx:∀{c:Code} {V V' :World},Ix c V→Below w.heap.size V V'→Ix c V')
 (h0:I [] w)
 (hround:∀(l:Nat),l=w.heap.size+1→∀(pre rest:List Sp) (d:Nat) (key:Int×Int×ByteArray) (k:Fo) (V:World) (b off kc:Nat) (ka:Option Addr),spF 1 (zl t)=pre++(d,key,k)::rest→w.heap.size+2≤V.heap.size→I pre V→SS b→
   V.cell? ⟨b,off,none⟩=some (.int .i64 key.1)→V.cell? ⟨b,off+1,none⟩=some (.int .i64 key.2.1)→V.cell? ⟨b,off+2,none⟩=some (.string key.2.2)→V.cell? ⟨b,off+3,none⟩=some (.slice ka (foLen k) kc)→foLen k≤kc→zu V SS k ka→
   ∀ (K:Act→World→Prop),(∀a₁ V0,Below V.heap.size V V0→(∀V',(∃o',V'=V0.putObj l o'∧∃o,V0.heap[l]? =some o∧o.isCells=false)→body.wpIn (Fence.wide.inRound l) (n - 1 - 1) Tryz.prog (zb6 w.heap.size SS I Ix (pre++[(d,key,k)]) V') a₁ V')→K a₁ V0)→
    assign.wpIn (Fence.wide.inRound l) (n - 1 - 1) Tryz.prog (Exit.then K (fun _ _ _=>False)) { tmps:=(ps.zip #[.int .i64 (d:Int),.pointer (some ⟨b,off,none⟩)]).foldl (fun t (p,v)=>t.setIfInBounds p v) a.tmps,defers:=[] } V)
 (hdone:∀(D:Nat) (V:World),w.heap.size≤D→I (spF 1 (zl t)) V→V.heap[D]? =some (.deferred (some []))→Q .normal { a with defers:={ target:= .collected D,args:= #[] }::a.defers } V)
 (hstop:∀(D:Nat) (c:Code) (V:World),w.heap.size≤D→Ix c V→V.heap[D]? =some (.deferred (some []))→c.wpIn Fence.wide n Tryz.prog Q { a with defers:={ target:= .collected D,args:= #[] }::a.defers } V):
 (Code.rangeFunc g ps assign body).wpIn Fence.wide n Tryz.prog Q a w:=by
 obtain⟨B,hB⟩:∃B,w.heap.size=B:=⟨_,rfl⟩
 simp only[hB] at hI hIx hround hdone hstop
 refine wpIn_rangeFunc fun fn hfn=>?_
 obtain⟨rec,hrec⟩:∃rec:LoopState→Option Code→Loop,rec=fun st pe=>{ state:=st,pending:=pe,fn,tmps:=a.tmps,params:=ps,assign,body,defers:=B }:=⟨_,rfl⟩
 obtain⟨W1,hW1⟩:∃W1,W1=(w.alloc (.deferred (some []))).alloc (.loop (rec .ready none)):=⟨_,rfl⟩
 have hsz1:W1.heap.size=B+2:=by rw[hW1];simp[hB]
 have hblk:∀x,x<B→W1.heap[x]? =w.heap[x]?:=fun x hx=>by rw[hW1,BhaQ _ _ _ (by simp;omega),BhaQ _ _ _ om]
 have hbk:Book B (rec .ready none) W1:=by
  exact sc1
 have hI1:I [] W1:=hI h0 (by rw[hW1,←hB];exact ((BrQ _ w).alloc (Nat.le_refl _) _).alloc sp1 _)
 have hSl:∀x,SS x→x<B:=fun x hx=>by have:=hSS x hx;omega
 have hwa1:YO W1 SS t TB:=by
  obtain⟨ka,kc,c0,c1,c2,c3⟩:=hwa
  exact⟨ka,kc,c0,(hblk _ (hSl _ c0)).trans c1,c2,c3.kept fun x hx=>⟨hx,hblk x (hSl x hx)⟩⟩
 refine⟨B+1,[{ target:= .collected B,args:= #[] }],W1,{ target:= .fn (.func 115) #[.pointer (some ⟨TB,0,none⟩)],args:= #[.func (.yield (B+1)) #[] #[]] },W1,115, #[.func (.yield (B+1)) #[] #[]]++ #[.pointer (some ⟨TB,0,none⟩)],W1,?_,?_,?_,?_,fun _=>h1,?_⟩
 · rw[hW1,hrec,←hB];exact run_enterLoop_outer _ _ _ _ _
 · simp only[resolve,hg]
   simp[go_sem]
 · intro f' hf';simp[Target.leads] at hf';subst hf';exact trivial
 · simp[invoke,go_sem]
 · obtain ⟨J,hJ⟩:∃J:List Sp→World→Prop,J=fun pre V=>I pre V∧Book B (rec .ready none) V:=⟨_,rfl⟩
   obtain⟨Jx,hJx⟩:∃Jx:World→Prop,Jx=fun V=>∃c,Ix c V∧Book B (rec .done (some c)) V:=⟨_,rfl⟩
   have hbody:zgp Tryz.prog (n - 1 - 1) (B+1) W1.heap.size SS (spF 1 (zl t)) J Jx:=by
    subst hJ hJx
    refine⟨?_,?_,?_⟩
    · rintro pre V V' ⟨j1,j2⟩ hb
      rw[hsz1] at hb
      exact⟨hI j1 (hb.mono om),(hb.block _ om).trans j2.1,(hb.block _ om).trans j2.2⟩
    · rintro V V' ⟨c,j1,j2⟩ hb
      rw[hsz1] at hb
      exact⟨c,hIx j1 (hb.mono om),(hb.block _ om).trans j2.1,(hb.block _ om).trans j2.2⟩
    · rintro pre rest d key k V b off kc ka htot ⟨j1,j2⟩ hV hSb e0 e1 e2 e3 ec hk
      rw[hsz1] at hV
      have hr:=hround (B+1) rfl pre rest d key k V b off kc ka htot hV j1 hSb e0 e1 e2 e3 ec hk
      have hy:=run_yield (P:=Tryz.prog) (args:= #[.int .i64 (d:Int),.pointer (some ⟨b,off,none⟩)]) j2.1 (by rw[hrec];exact hps.symm)
      rw[hrec] at hy
      refine⟨fn,_,assign,body,hy,roundIn_of_wpIn hfn (hr _ fun a₁ V0 hb0 hb=>?_)⟩
      have j20:Book B (rec .ready none) V0:=⟨(hb0.block _ (lohQ j2.1)).trans j2.1,(hb0.block _ (lohQ j2.2)).trans j2.2⟩
      refine⟨_,run_beginRound j20.1 (by rw[hrec]),?_⟩
      have hb2:Book B { rec .ready none with state:= .busy } (V0.putObj (B+1) (.loop { rec .ready none with state:= .busy })):=j20.put
      refine wpIn_mono (hb _ ⟨_,rfl,_,j20.1,rfl⟩) ?_
      rintro e3 a3 U ⟨⟨hk1,hk2⟩,hp⟩
      have hb3:Book B { rec .ready none with state:= .busy } U:=⟨(hk2 _ (Or.inl om) (lohQ hb2.1)).trans hb2.1,(hk2 _ (Or.inl (Nat.le_refl _)) (lohQ hb2.2)).trans hb2.2⟩
      have fin:=fun jump=>run_endRound (P:=Tryz.prog) jump hb3.1
      rw[hrec] at fin hb3
      have hs0:=hb0.size
      have hsU:V0.heap.size≤U.heap.size:=by simpa [World.putObj] using hk1
      have hall:∀o',V.heap.size≤(U.putObj (B+1) o').heap.size∧∀y,SS y→(U.putObj (B+1) o').heap[y]? =V.heap[y]?:=fun o'=>⟨by simp[World.putObj];omega,fun y hy=>by
       have hyl:=hSl y hy
       have hyB:y≠B+1:=by omega
       rw[WphQ hyB,hk2 y (Or.inr hy) (by simp[World.putObj];omega),WphQ hyB,hb0.block y om]⟩
      have hpb:∀o',Below B U (U.putObj (B+1) o'):=fun o'=>⟨rfl,rfl,rfl,by simp[World.putObj],fun y hy=>WphQ om⟩
      rcases hp with ⟨rfl,hi3⟩ | ⟨rfl,hi3⟩ | ⟨id,rfl,hi3⟩
      · refine⟨_,_,fin none,hall _,.inl ⟨rfl,hI hi3 (hpb _),?_⟩⟩
        rw[hrec];exact hb3.put
      · refine⟨_,_,fin (some .ret),hall _,.inr ⟨rfl,.ret,hIx hi3 (hpb _),?_⟩⟩
        rw[hrec];exact hb3.put
      · refine⟨_,_,fin (some (.exit id)),hall _,.inr ⟨rfl,.exit id,hIx hi3 (hpb _),?_⟩⟩
        rw[hrec];exact hb3.put
   have hstart:J [] W1:=by rw[hJ];exact⟨hI1,hbk⟩
   refine (callsIn_wide.2 (zep W1 hbody TB hwa1 hsz hstart)).mono ?_
   rintro e W2 ⟨⟨v,rfl⟩,(hj | hj)⟩
   · rw[hJ] at hj
     obtain⟨hi,hb⟩:=hj
     have:=run_endLoop (P:=Tryz.prog) hb.1 (by rw[hrec];simp)
     rw[hrec] at this
     exact⟨none,_,this,hdone B _ (Nat.le_refl _) (hI hi ⟨rfl,rfl,rfl,by simp[World.putObj],fun y hy=>WphQ om⟩) ((WphQ om).trans hb.2)⟩
   · rw[hJx] at hj
     obtain⟨c,hi,hb⟩:=hj
     have:=run_endLoop (P:=Tryz.prog) hb.1 (by rw[hrec];simp)
     rw[hrec] at this
     exact⟨some c,_,this,hstop B c _ (Nat.le_refl _) (hIx hi ⟨rfl,rfl,rfl,by simp[World.putObj],fun y hy=>WphQ om⟩) ((WphQ om).trans hb.2)⟩
end Go.Proofs.YtgkmmnihaiopaaaGreat
namespace Go.Proofs.YtgkmmnihaiopaaaGreat
open Go.RowKit Go.Shelf
attribute [local go_sem] Oper.semAt_some
theorem Yh {P:Program} {fn:Func} {p:Tmp} {tb:TypeId} (h:fn.results= #[.cell p tb]) (tmps:Array Value) (w:World) (g:Nat) (b:Bool) (hp:tmps.getD p undef= .pointer (some ⟨g,0,none⟩)) (hc:w.cell? ⟨g,0,none⟩=some (.bool b)) (hb:∀w,(isAgg tb).run P w= .ok false w):
 (results fn tmps).run P w= .ok (.bool b) w:=by
 have hp' :tmps[p]?.getD undef= .pointer (some ⟨g,0,none⟩):=by simpa using hp
 have hl:(loadVar tb ⟨g,0,none⟩).run P w= .ok (.bool b) w:=by simp[go_sem,hc,hb,Result.andThen]
 simp[results,h,hp',asAddr,hl]
theorem zdG {w:World} {b:Nat} {c0 c1 c2 c3:Value} (h:w.heap[b]? =some (.cells #[c0,c1,c2,c3] 27 (0,0))):w.cell? ⟨b,0,none⟩=some c0∧w.cell? ⟨b,1,none⟩=some c1∧w.cell? ⟨b,2,none⟩=some c2∧w.cell? ⟨b,3,none⟩=some c3:=
 ⟨by rw[corQ _ _ 0 _ _ _ h];rfl,by rw[corQ _ _ 1 _ _ _ h];rfl,by rw[corQ _ _ 2 _ _ _ h];rfl,by rw[corQ _ _ 3 _ _ _ h];rfl⟩
theorem zdp (w:World) (c0 c1:Int) (c2:ByteArray) (ka:Option Addr) (n c:Nat):Calls Tryz.prog 102 #[.agg #[.int .i64 c0,.int .i64 c1,.string c2,.slice ka n c]] w fun e w'=>e= .returned (.func (.func 115) #[] #[.pointer (some ⟨w.heap.size,0,none⟩)])∧w.alloc (.cells #[.int .i64 c0,.int .i64 c1,.string c2,.slice ka n c] 27)=w':=by
 have hmf:∀W:World,(Instr.makeFunc (.func 115) #[] #[.pointer (some ⟨w.heap.size,0,none⟩)]).run Tryz.prog W= .ok (.func (.func 115) #[] #[.pointer (some ⟨w.heap.size,0,none⟩)]) W:=fun _=>rfl
 go_enter Tryz.func102,Tryz.ntmps102
 go_wp2_with fail
 go_ret
 exact⟨rfl,rfl⟩
def zgn (W:World) (nb:Nat) (pre:List Sp) (V:World):Prop:=zk W V (fun y=>y=nb+2)∧V.heap[nb+2]? =some (.cells #[.int .i64 (pre.length:Int)] 3 (0,0))∧pre.length≤200
def zgo (W:World) (nb:Nat) (tot:List Sp) (c:Code) (V:World):Prop:=c= .ret∧zk W V (fun y=>y=nb+1∨y=nb+2)∧V.heap[nb+1]? =some (.cells #[.bool true] 4 (0,0))∧200<tot.length
theorem jv {W V V' :World} {S:Nat→Prop} (h:zk W V S) (hb:Below W.heap.size V V'):zk W V' S:=
 ⟨hb.os.trans h.os,hb.tape.trans h.tape,hb.output.trans h.output,Nat.le_trans h.size hb.size,fun k hk hn=>(hb.block k hk).trans (h.block k hk hn)⟩
theorem zhj {w W V:World} {nb D:Nat} (h0:Below w.heap.size w W) (h2:zk W V (fun y=>y=nb+1∨y=nb+2)) (k3:∃x,V.heap[nb+1]? =some (.cells #[.bool x] 4 (0,0))) (hn:nb=w.heap.size) (hK:V.heap[D]? =some (.deferred (some []))) (hD:nb+3≤D) (b:Bool):
 (V.setCell ⟨nb+1,0,none⟩ (.bool b)).heap[D]? =some (.deferred (some []))∧((V.setCell ⟨nb+1,0,none⟩ (.bool b)).putObj D (.deferred none)).cell? ⟨nb+1,0,none⟩=some (.bool b)∧Below w.heap.size w ((V.setCell ⟨nb+1,0,none⟩ (.bool b)).putObj D (.deferred none)):=by
 obtain⟨x,k3⟩:=k3
 have hs0:=h0.size
 have hs2:=h2.size
 have hk:∀y,y≠nb+1→(V.setCell ⟨nb+1,0,none⟩ (.bool b)).heap[y]? =V.heap[y]?:=fun y hy=>BhsQ _ _ _ _ hy
 refine⟨(hk D om).trans hK,?_,h2.os.trans h0.os,h2.tape.trans h0.tape,h2.output.trans h0.output,by simp[World.putObj,World.setCell];omega,fun y hy=>?_⟩
 · have e:((V.setCell ⟨nb+1,0,none⟩ (.bool b)).putObj D (.deferred none)).heap[nb+1]? =some (.cells #[.bool b] 4 (0,0)):=by
    rw[WphQ om,hssQ V (nb+1) 0 _ _ _ k3];simp
   rw[corQ _ _ 0 _ _ _ e];rfl
 · rw[WphQ om,hk y om,h2.block y om om,h0.block y hy]
theorem zfA {w W V:World} {nb D:Nat} (h0:Below w.heap.size w W) (h2:zk W V (fun y=>y=nb+1∨y=nb+2)) (k3:V.heap[nb+1]? =some (.cells #[.bool true] 4 (0,0))) (hn:nb=w.heap.size) (hD:nb+3≤D):
 (V.putObj D (.deferred none)).cell? ⟨nb+1,0,none⟩=some (.bool true)∧Below w.heap.size w (V.putObj D (.deferred none)):=by
 have hs0:=h0.size
 have hs2:=h2.size
 refine⟨?_,h2.os.trans h0.os,h2.tape.trans h0.tape,h2.output.trans h0.output,by simp[World.putObj];omega,fun y hy=>?_⟩
 · have e:(V.putObj D (.deferred none)).heap[nb+1]? =some (.cells #[.bool true] 4 (0,0)):=(WphQ om).trans k3
   rw[corQ _ _ 0 _ _ _ e];rfl
 · rw[WphQ om,h2.block y om om,h0.block y hy]
theorem zdl (w:World) (S:Nat→Prop) (nv:Value) (t:Tr) (hS:∀x,S x→x<w.heap.size) (ht:zJ w S nv t) (hsz:zg t.kids+1≤500000):Calls Tryz.prog 82 #[nv] w (Says (decide (200<zg t.kids+1)) w):=by
 obtain⟨ka,cap,rfl,hcap,hk⟩:=ht
 obtain⟨n,hn⟩:∃n,n=foLen t.kids:=⟨_,rfl⟩
 rw[←hn]
 obtain⟨nb,hnb⟩:∃nb,nb=w.heap.size:=⟨_,rfl⟩
 have hal:=zi [.cells #[.int .i64 t.id,.int .i64 t.kind,.string t.text,.slice ka n cap] 27,.cells #[.bool false] 4,.cells #[.int .i64 0] 3,.cells #[.int .i64 t.id,.int .i64 t.kind,.string t.text,.slice ka n cap] 27] w
 have hab:=zm [.cells #[.int .i64 t.id,.int .i64 t.kind,.string t.text,.slice ka n cap] 27,.cells #[.bool false] 4,.cells #[.int .i64 0] 3,.cells #[.int .i64 t.id,.int .i64 t.kind,.string t.text,.slice ka n cap] 27] w
 have has:=zC [.cells #[.int .i64 t.id,.int .i64 t.kind,.string t.text,.slice ka n cap] 27,.cells #[.bool false] 4,.cells #[.int .i64 0] 3,.cells #[.int .i64 t.id,.int .i64 t.kind,.string t.text,.slice ka n cap] 27] w
 have HA:=hH (aN hab (aN (hal 1 _ rfl) (aN (hal 2 _ rfl) (aN (hal 3 _ rfl) has))))
 have H:=hH (aN hS (aN hcap (aN hk (aN hsz (aN hn hnb)))))
 clear hS hcap hk hsz hn hnb hal hab has
 refine (callsIn_wide (n:=8)).1 ?_
 refine callsIn_of_wp_marks Tryz.func82 rfl trivial ?_ rfl
 simp only[Tryz.ntmps82,List.size_toArray,List.length_cons,List.length_nil,Nat.reduceAdd,Nat.reduceSub,Array.replicate_succ,Array.replicate_zero,List.push_toArray,List.append_toArray,List.nil_append,List.cons_append]
 gi_wp2_with (refine⟨trivial,?_⟩;gi_at_call 102;refine (callsIn_wide.2 (zdp _ _ _ _ _ _ _)).mono ?_;rintro e w' ⟨rfl,rfl⟩)
 change Code.wpIn _ _ _ _ _ _ (zt w [.cells #[.int .i64 t.id,.int .i64 t.kind,.string t.text,.slice ka n cap] 27,.cells #[.bool false] 4,.cells #[.int .i64 0] 3,.cells #[.int .i64 t.id,.int .i64 t.kind,.string t.text,.slice ka n cap] 27])
 generalize hW:zt w _=W at HA ⊢
 clear hW
 rw[←H.out.2.2.2.2.2]
 obtain⟨k0,k1,k2,k3,k4⟩:=HA.out
 rw[←H.out.2.2.2.2.2] at k1 k2 k3 k4
 have k4' :W.heap.size=nb+4:=k4
 have hwn:=H.out.2.2.2.2.2
 have hnode:YO W (fun x=>S x∨x=nb+3) t (nb+3):=⟨ka,cap,Or.inr rfl,by rw[k3,H.out.2.2.2.2.1],H.out.2.1,H.out.2.2.1.kept fun x hx=>⟨Or.inl hx,k0.block x (H.out.1 x hx)⟩⟩
 refine zeM om rfl (fun x=>S x∨x=nb+3) t hnode (fun x hx=>by rcases hx with hx | hx;have:=H.out.1 x hx;omega;omega) H.out.2.2.2.1 rfl (zgn W nb) (zgo W nb (spF 1 (zl t))) (fun h hb=>⟨jv h.1 hb,(hb.block _ om).trans h.2.1,h.2.2⟩) (fun h hb=>⟨h.1,jv h.2.1 hb,(hb.block _ om).trans h.2.2.1,h.2.2.2⟩) ⟨zk.refl _ _,k2,by simp⟩ ?round ?done ?stop
 case done=>
  rintro D V hD ⟨h1,h2,h3⟩ hK
  have e1:V.heap[nb+1]? =some (.cells #[.bool false] 4 (0,0)):=(h1.block _ om om).trans k1
  have b0:V.cell? ⟨nb+1,0,none⟩=some (.bool false):=by rw[corQ _ _ 0 _ _ _ e1];rfl
  have f0:V.frozen? ⟨nb+1,0,none⟩=false:=forQ _ _ 0 _ _ e1
  have HE:=hH (zhj k0 ⟨h1.os,h1.tape,h1.output,h1.size,fun k hk hn=>h1.block k hk (fun e=>hn (Or.inr e))⟩ ⟨_,e1⟩ hwn hK om false)
  have HB:=hH (show decide (200<zg t.kids+1)=false by rw[yE,zL] at h3;exact decide_eq_false om)
  clear h1 h2 h3 e1 hD k0 k1 k2 k3 k4 k4' hwn hnode HA H
  gi_wp2
  obtain⟨q1,q2,q3⟩:=HE.out
  refine⟨by simp,.inl ⟨_,_,rfl,run_takeDeferred q1,?_⟩⟩
  exact⟨_,Yh rfl _ _ _ false rfl q2 (fun _=>by kernel_rfl),by rw[HB.out],q3⟩
 case stop=>
  rintro D c V hD ⟨rfl,h1,h2,h3⟩ hK
  have HE:=hH (zfA k0 h1 h2 hwn (D:=D) om)
  have HB:=hH (show decide (200<zg t.kids+1)=true by rw[yE,zL] at h3;exact decide_eq_true om)
  clear h1 h2 h3 hD k0 k1 k2 k3 k4 k4' hwn hnode HA H
  gi_wp2
  obtain⟨q2,q3⟩:=HE.out
  refine⟨by simp,.inl ⟨_,_,rfl,run_takeDeferred hK,?_⟩⟩
  exact⟨_,Yh rfl _ _ _ true rfl q2 (fun _=>by kernel_rfl),by rw[HB.out],q3⟩
 case round=>
  rintro l hl pre rest d key k V b off kc ka2 htot hV ⟨h1,h2,h3⟩ hSb d0 d1 d2 d3 dc dk K hK
  obtain⟨np,hnp⟩:∃np,np=pre.length:=⟨_,rfl⟩
  rw[←hnp] at h2 h3
  have hlt:np+1≤(spF 1 (zl t)).length:=by rw[htot,hnp];simp
  have hn1:V.heap[nb+1]? =some (.cells #[.bool false] 4 (0,0)):=(h1.block _ om om).trans k1
  have HR:=hH (aN h1 (aN h2 (aN hlt (aN hV (aN hl (aN hnp hn1))))))
  have HK:=hH hK
  have HZ:=hH (aN k4' hwn)
  clear h1 h2 hlt hV hl hnp hn1 hK htot hSb d0 d1 d2 d3 dc dk k0 k1 k2 k3 k4 k4' hwn hnode
  gi_wp2
  refine HK.out _ V (BrQ _ _) fun V1 hV1=>?_
  clear HK
  obtain⟨o',ev,o,ho,hoc⟩:=hV1
  have hk1:∀y,y≠l→V1.heap[y]? =V.heap[y]?:=fun y hy=>by rw[ev];exact WphQ hy
  have hs1:V1.heap.size=V.heap.size:=by rw[ev];simp[World.putObj]
  have hlW:l=nb+5:=by have:=HR.out.2.2.2.2.1;have:=HZ.out.1;omega
  have hc2:V1.heap[nb+2]? =some (.cells #[.int .i64 (np:Int)] 3 (0,0)):=(hk1 _ om).trans HR.out.2.1
  have hc1:V1.heap[nb+1]? =some (.cells #[.bool false] 4 (0,0)):=(hk1 _ om).trans HR.out.2.2.2.2.2.2
  have c2:V1.cell? ⟨nb+1+1,0,none⟩=some (.int .i64 (np:Int)):=by rw[corQ _ _ 0 _ _ _ hc2];rfl
  have f2:V1.frozen? ⟨nb+1+1,0,none⟩=false:=forQ _ _ 0 _ _ hc2
  obtain⟨V2,hV2⟩:∃V2,V2=V1.setCell ⟨nb+1+1,0,none⟩ (.int .i64 ((np:Int)+1)):=⟨_,rfl⟩
  have hk2:∀y,y≠nb+2→V2.heap[y]? =V1.heap[y]?:=fun y hy=>by rw[hV2];exact BhsQ _ _ _ _ hy
  have hc22:V2.heap[nb+2]? =some (.cells #[.int .i64 ((np:Int)+1)] 3 (0,0)):=by rw[hV2,hssQ V1 (nb+1+1) 0 _ _ _ hc2];simp
  have hc12:V2.heap[nb+1]? =some (.cells #[.bool false] 4 (0,0)):=(hk2 _ om).trans hc1
  have hs2:V2.heap.size=V1.heap.size:=by rw[hV2];simp[World.setCell]
  have ht2:zk W V2 (fun y=>y=nb+2):=by
   have h1:=HR.out.1
   refine⟨by rw[hV2,ev];exact h1.os,by rw[hV2,ev];exact h1.tape,by rw[hV2,ev];exact h1.output,by have:=h1.size;omega,fun y hy hn=>?_⟩
   rw[hk2 y hn,hk1 y (by have:=HZ.out.1;omega),h1.block y hy hn]
  have hS2:∀y,(W.heap.size≤y∨(S y∨y=nb+3))→V2.heap[y]? =V1.heap[y]?:=fun y hy=>hk2 y (by
   rcases hy with hy | hy | hy
   · have:=HZ.out.1;omega
   · have:=H.out.1 y hy;have:=HZ.out.2;omega
   · omega)
  by_cases hbig:200<np+1
  · have hbi:(200:Int)<(np:Int)+1:=by omega
    have b1:(V1.setCell ⟨nb+1+1,0,none⟩ (.int .i64 ((np:Int)+1))).cell? ⟨nb+1,0,none⟩=some (.bool false):=by rw[←hV2,corQ _ _ 0 _ _ _ hc12];rfl
    have g1:(V1.setCell ⟨nb+1+1,0,none⟩ (.int .i64 ((np:Int)+1))).frozen? ⟨nb+1,0,none⟩=false:=by rw[←hV2];exact forQ _ _ 0 _ _ hc12
    have hend:∀aa:Act,zb6 W.heap.size (fun x=>S x∨x=nb+3) (zgn W nb) (zgo W nb (spF 1 (zl t))) (pre++[(d,key,k)]) V1 .ret aa ((V1.setCell ⟨nb+1+1,0,none⟩ (.int .i64 ((np:Int)+1))).setCell ⟨nb+1,0,none⟩ (.bool true)):=fun aa=>by
     rw[←hV2]
     have hk3:∀y,y≠nb+1→(V2.setCell ⟨nb+1,0,none⟩ (.bool true)).heap[y]? =V2.heap[y]?:=fun y hy=>BhsQ _ _ _ _ hy
     refine⟨⟨by simp[World.setCell,hs2],fun y hy hyl=>?_⟩,.inr (.inl ⟨rfl,rfl,⟨ht2.os,ht2.tape,ht2.output,by simp[World.setCell];exact ht2.size,fun y hy hn=>?_⟩,?_,by have:=HR.out.2.2.1;omega⟩)⟩
     · rw [hk3 y (by
        rcases hy with hy | hy | hy
        · have:=HZ.out.1;omega
        · have:=H.out.1 y hy;have:=HZ.out.2;omega
        · omega),hS2 y hy]
     · rw[hk3 y (fun e=>hn (Or.inl e)),ht2.block y hy (fun e=>hn (Or.inr e))]
     · rw[hssQ V2 (nb+1) 0 _ _ _ hc12];simp
    have HE:=hH hend
    clear hend hk1 hs1 hc2 hc1 hV2 hk2 hc22 hc12 hs2 ht2 hS2 ev ho hoc hlW hbig
    gi_wp2
    exact HE.out _
  · have hbi:¬(200:Int)<(np:Int)+1:=by omega
    have hend:∀aa:Act,zb6 W.heap.size (fun x=>S x∨x=nb+3) (zgn W nb) (zgo W nb (spF 1 (zl t))) (pre++[(d,key,k)]) V1 .normal aa (V1.setCell ⟨nb+1+1,0,none⟩ (.int .i64 ((np:Int)+1))):=fun aa=>by
     rw[←hV2]
     refine⟨⟨by omega,fun y hy hyl=>hS2 y hy⟩,.inl ⟨rfl,ht2,?_,?_⟩⟩
     · rw[hc22,List.length_append,←HR.out.2.2.2.2.2.1];rfl
     · rw[List.length_append,←HR.out.2.2.2.2.2.1];simp only[List.length_cons,List.length_nil];omega
    have HE:=hH hend
    clear hend hk1 hs1 hc2 hc1 hV2 hk2 hc22 hc12 hs2 ht2 hS2 ev ho hoc hlW hbig
    gi_wp2
    exact HE.out _
end Go.Proofs.YtgkmmnihaiopaaaGreat
