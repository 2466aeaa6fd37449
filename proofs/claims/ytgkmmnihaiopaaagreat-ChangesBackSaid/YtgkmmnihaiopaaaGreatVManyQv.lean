/-
  .
-/
import Derived.Test.YtgkmmnihaiopaaaGreatICopyPQv
set_option maxRecDepth 100000
set_option maxHeartbeats 40000000
set_option linter.unusedVariables false
set_option linter.unusedSimpArgs false
namespace Go.Proofs.YtgkmmnihaiopaaaGreat
open Go.RowKit
theorem zeT {P:Program}{e:TypeId}{size bytes:Nat}(h:(P.info? e).map (fun i=>(i.size,i.bytes,i.zero.map (fun z=>z.cells.size)))=some (size,bytes,some size)):
 ∃i z,P.info? e=some i∧i.zero=some z∧i.size=size∧i.bytes=bytes∧z.cells.size=size:=by
 exact sd9
theorem zfm {α:Type}(M:Nat)(A B:List α):((A.take M)++B).take M=(A++B).take M:=by
 rw[List.take_append,List.take_append,List.take_take,Nat.min_self,List.length_take]
 congr 2
 omega
theorem jU:∀(d:Nat) (f:Fo) (x:Sp),x∈spF d f→zb x.2.2+1≤zb f∧d≤x.1∧x.1+zb x.2.2<d+zb f
 | _,.nil,x,h=>by simp[spF] at h
 | d,.node _ _ k l r,x,h=>by
   simp only[spF,List.mem_cons,List.mem_append] at h
   simp only[zb]
   rcases h with rfl | h | h
   · simp only;omega
   · have:=jU (d+1) l x h;omega
   · have:=jU d r x h;omega
def kX (x:Sp):Tr:=⟨x.2.1.1,x.2.1.2.1,x.2.1.2.2,x.2.2⟩
end Go.Proofs.YtgkmmnihaiopaaaGreat
namespace Go.Proofs.YtgkmmnihaiopaaaGreat
open Go.RowKit Go.Shelf
attribute [local go_sem] Oper.semAt_some
theorem YieldAt.zf0 {m:Nat}(m' :Nat){P:Program}{l:Nat}{args:Array Value}{W:World}{R:Ending→World→Prop}(h:YieldAt Fence.wide m P l args W R):YieldAt Fence.wide m' P l args W R:=by
 obtain⟨fn,tmps,assign,body,hy,hr⟩:=h
 exact⟨fn,tmps,assign,body,hy,hr.1,fun c cs _=>hr.2 c cs (room_wide _)⟩
structure zg9 (P:Program) (m l n₀:Nat) (S:Nat→Prop) (tot:List Sp) (J:List Sp→World→Prop) (Jx:World→Prop):Prop where
 turn:∀{pre:List Sp} {V V' :World},J pre V→Below n₀ V V'→J pre V'
 zd8:∀{V V' :World},Jx V→Below n₀ V V'→Jx V'
 yield:∀{pre rest:List Sp} {d:Nat} {key:Int×Int×ByteArray} {k:Fo} {V:World} {b off kc:Nat} {ka:Option Addr},tot=pre++(d,key,k)::rest→J pre V→n₀≤V.heap.size→S b→
  V.cell? ⟨b,off,none⟩=some (.int .i64 key.1)→V.cell? ⟨b,off+1,none⟩=some (.int .i64 key.2.1)→V.cell? ⟨b,off+2,none⟩=some (.string key.2.2)→V.cell? ⟨b,off+3,none⟩=some (.slice ka (foLen k) kc)→foLen k≤kc→zt V S k ka→
  YieldAt Fence.wide m P l #[.int .i64 (d:Int),.pointer (some ⟨b,off,none⟩)] V fun e V'=>(V.heap.size≤V'.heap.size∧(∀y,S y→V'.heap[y]? =V.heap[y]?))∧((e= .returned (.bool true)∧J (pre++[(d,key,k)]) V')∨(e= .returned (.bool false)∧Jx V'))
def zjB (S:Nat→Prop)(J:List Sp→World→Prop)(Jx:World→Prop)(pre L:List Sp)(w:World)(e:Ending)(w' :World):Prop:=
 ∃bl,e= .returned (.bool bl)∧w.heap.size≤w'.heap.size∧(∀y,S y→w'.heap[y]? =w.heap[y]?)∧(bl=true→J (pre++L) w')∧(bl=false→Jx w')
theorem zbW:∀(j d:Nat) (f:Fo),spF d f=spF d (zx j f)++spF d (zq j f)
 | 0,_,f=>by cases f<;>simp[zx,zq,spF]
 | _+1,_,.nil=>by simp[zx,zq,spF]
 | j+1,d,.node _ _ k l r=>by simp only[zx,zq,spF,List.cons_append,List.append_assoc];rw[zbW j d r]
def zgX (S:Nat→Prop)(J:List Sp→World→Prop)(w:World)(d:Nat)(key:Int×Int×ByteArray)(k:Fo)(pre:List Sp)(j:Nat)(wr:World):Prop:=
 J (pre++(d,key,k)::spF (d+1) (zx j k)) wr∧w.heap.size≤wr.heap.size∧∀y,S y→wr.heap[y]? =w.heap[y]?
theorem zf2 {m l n₀:Nat}{S:Nat→Prop}{tot:List Sp}{J:List Sp→World→Prop}{Jx:World→Prop}(hB:zg9 Tryz.prog m l n₀ S tot J Jx):∀(q d:Nat) (key:Int×Int×ByteArray) (k:Fo) (pre rest:List Sp) (w:World) (b off kc:Nat) (ka:Option Addr),zb k<q→q≤1000000→d+q≤2000000→tot=pre++((d,key,k)::(spF (d+1) k++rest))→J pre w→n₀≤w.heap.size→S b→
 w.cell? ⟨b,off,none⟩=some (.int .i64 key.1)→w.cell? ⟨b,off+1,none⟩=some (.int .i64 key.2.1)→w.cell? ⟨b,off+2,none⟩=some (.string key.2.2)→w.cell? ⟨b,off+3,none⟩=some (.slice ka (foLen k) kc)→foLen k≤kc→zt w S k ka→
 Calls Tryz.prog 116 #[.pointer (some ⟨b,off,none⟩),.int .i64 (d:Int),.func (.yield l) #[] #[]] w (zjB S J Jx pre ((d,key,k)::spF (d+1) k) w):=by
 intro q
 induction q with
 | zero=>intro d key k pre rest w b off kc ka h;omega
 | succ q ih=>
   intro d key k pre rest w b off kc ka hq hq6 hdq htot hJ hn0 hSb c0 c1 c2 c3 hcp hk
   obtain⟨fn,tmps,assign,body,hy,hR⟩:=YieldAt.zf0 5 (hB.yield htot hJ hn0 hSb c0 c1 c2 c3 hcp hk)
   obtain⟨n,hn⟩:∃n,n=foLen k:=⟨_,rfl⟩
   have hn6:n≤1000000:=by have:=zL k;omega
   have hd6:(d:Int)≤2000000:=by omega
   have hd0:(0:Int)≤(d:Int):=by omega
   rw[←hn] at c3 hcp
   have H:=hH (aN hq (aN hq6 (aN hdq (aN htot (aN hn0 (aN hSb (aN c3 (aN hcp (aN hk hn)))))))))
   have HR:=hH hR
   have HIH:=hH ih
   clear hq hq6 hdq htot hJ hn0 hSb c0 c1 c2 c3 hcp hk hn hR ih
   refine (callsIn_wide (n:=6)).1 ?_
   refine callsIn_of_wp Tryz.func116 rfl trivial ?_ rfl
   simp only[Tryz.ntmps116,List.size_toArray,LlcQ,List.length_nil,Nat.reduceAdd,Nat.reduceSub,Array.replicate_succ,Array.replicate_zero,List.push_toArray,List.append_toArray,List.nil_append,List.cons_append]
   gi_wp2
   refine HR.out.mono ?_
   clear HR hy
   rintro e w1 ⟨⟨hs1,hS1⟩,(⟨rfl,hJ1⟩ | ⟨rfl,hx1⟩)⟩
   · have p3:w1.cell? ⟨b,off+3,none⟩=some (.slice ka n kc):=(World.cell?_of_block (a:=⟨b,off+3,none⟩) (hS1 b H.out.2.2.2.2.2.1)).trans H.out.2.2.2.2.2.2.1
     have HS:=hH (show zgX S J w d key k pre 0 w1 from⟨by simpa [zx,spF] using hJ1,hs1,hS1⟩)
     clear hJ1 hs1 hS1
     gi_wp2
     gi_loopw [7,18] (fun _ i wr=>∃j:Nat,j≤n∧i= .int .i64 (j:Int)∧Hid (zgX S J w d key k pre j wr)) (fun _ i _=>n - (intOf i).toNat)
     case atStart=>exact⟨0,NzlQ _,rfl,HS⟩
     case round=>
      obtain⟨j,hj,rfl,hh⟩:=hrel
      have p3r:wr.cell? ⟨b,off+3,none⟩=some (.slice ka n kc):=(World.cell?_of_block (a:=⟨b,off+3,none⟩) (hh.out.2.2 b H.out.2.2.2.2.2.1)).trans H.out.2.2.2.2.2.2.1
      by_cases hlt:j<n
      · have hk1:zt wr S k ka:=H.out.2.2.2.2.2.2.2.2.1.kept fun x hx=>⟨hx,hh.out.2.2 x hx⟩
        obtain⟨b0,o0,kkey,l',r,hd1',b',off',a1,n1,rfl,hSb',e0,e1,e2,e3,hc1,hl1⟩:=hk1.at j (by have:=H.out.2.2.2.2.2.2.2.2.2;omega)
        obtain⟨_,_,_,_,_,f1,f2,hsz1,htk⟩:=zX j k (by have:=H.out.2.2.2.2.2.2.2.2.2;omega)
        rw[hd1'] at f1;cases f1
        have htot2:tot=(pre++(d,key,k)::spF (d+1) (zx j k))++((d+1,kkey,l')::(spF (d+1+1) l'++(spF (d+1) r++rest))):=by
         rw[H.out.2.2.2.1,zbW j (d+1) k,hd1']
         simp[spF,List.append_assoc]
        have hcall:=HIH.out (d+1) kkey l' (pre++(d,key,k)::spF (d+1) (zx j k)) (spF (d+1) r++rest) wr b' (off'+j*4) n1 a1 (by have:=H.out.1;omega) (by have:=H.out.2.1;omega) (by have:=H.out.2.2.1;omega) htot2 hh.out.1 (NltQ H.out.2.2.2.2.1 hh.out.2.1) hSb' e0 e1 e2 e3 hc1 hl1
        have hcast:(((d+1:Nat)):Int)=(d:Int)+1:=by omega
        rw[hcast] at hcall
        have hnx:(pre++(d,key,k)::spF (d+1) (zx j k))++((d+1,kkey,l')::spF (d+1+1) l')=pre++(d,key,k)::spF (d+1) (zx (j+1) k):=by rw[htk,QF];simp[List.append_assoc]
        have HC:=hH (aN hcall hnx)
        have hji:(j:Int)<(n:Int):=by omega
        clear hk1 hd1' f2 hsz1 htk htot2 hcall hcast hnx e0 e1 e2 e3 hc1 hl1 hSb'
        have hlt5:(j:Int)+1≤1000001:=by omega
        have HLT:=hH hlt
        clear hlt
        gi_wp2_with (refine⟨trivial,?_⟩;gi_at_call 116;refine (callsIn_wide.2 HC.out.1).mono ?_;rintro e w2 ⟨bl,rfl,hs2,hS2,hJ2,hx2⟩;have HE:=hH (aN hs2 (aN hS2 (aN hJ2 hx2)));clear hs2 hS2 hJ2 hx2;cases bl)
        · go_ret
          exact⟨false,rfl,NltQ hh.out.2.1 HE.out.1,fun y hy=>(HE.out.2.1 y hy).trans (hh.out.2.2 y hy),(fun e=>by cases e),fun _=>HE.out.2.2.2 (by first | rfl | trivial)⟩
        · refine⟨⟨j+1,by have:=HLT.out;omega,by go_num,hH ⟨?_,NltQ hh.out.2.1 HE.out.1,fun y hy=>(HE.out.2.1 y hy).trans (hh.out.2.2 y hy)⟩⟩,by have:=HLT.out;simp[intOf];omega⟩
          have h:=HE.out.2.2.1 (by first | rfl | trivial)
          rw[HC.out.2] at h
          exact h
      · have hjn:¬(j:Int)<(n:Int):=by omega
        have HJN:=hH (show j=n by omega)
        clear hlt
        gi_wp2
        go_ret
        refine⟨true,rfl,hh.out.2.1,hh.out.2.2,fun _=>?_,fun e=>by cases e⟩
        have h:=hh.out.1
        rw[yT j k (by rw[HJN.out,H.out.2.2.2.2.2.2.2.2.2];exact NlrQ _)] at h
        exact h
   · have HE:=hH (aN hs1 (aN hS1 hx1))
     clear hs1 hS1 hx1
     gi_wp2
     go_ret
     exact⟨false,rfl,HE.out.1,HE.out.2.1,(fun e=>by cases e),fun _=>HE.out.2.2⟩
end Go.Proofs.YtgkmmnihaiopaaaGreat
namespace Go.Proofs.YtgkmmnihaiopaaaGreat
open Go.RowKit Go.Shelf
attribute [local go_sem] Oper.semAt_some
def Qd (w:World)(S:Nat→Prop)(t:Tr)(TB:Nat):Prop:=∃ka kc,S TB∧w.heap[TB]? =some (.cells #[.int .i64 t.id,.int .i64 t.kind,.string t.text,.slice ka (foLen t.kids) kc] 27 (0,0))∧foLen t.kids≤kc∧zt w S t.kids ka
theorem zfn {m l:Nat}{SS:Nat→Prop}{t:Tr}{J:List Sp→World→Prop}{Jx:World→Prop}(w:World)(hB:zg9 Tryz.prog m l w.heap.size SS (spF 1 (zm t)) J Jx)(TB:Nat)(hw:Qd w SS t TB)(hsz:zb t.kids+1≤500000)(h0:J [] w):
 Calls Tryz.prog 115 #[.func (.yield l) #[] #[],.pointer (some ⟨TB,0,none⟩)] w fun e V=>(∃v,e= .returned v)∧(J (spF 1 (zm t)) V∨Jx V):=by
 obtain⟨ka,kc,hS,hb,hc,hk⟩:=hw
 have hcall:=zf2 hB 500001 1 (t.id,t.kind,t.text) t.kids [] [] w TB 0 kc ka om om om (by simp[zm,spF]) h0 (NlrQ _) hS (by rw[corQ _ _ 0 _ _ _ hb];rfl) (by rw[corQ _ _ 1 _ _ _ hb];rfl) (by rw[corQ _ _ 2 _ _ _ hb];rfl) (by rw[corQ _ _ 3 _ _ _ hb];rfl) hc hk
 have HC:=hH hcall
 clear hcall hS hb hc hk h0 hB
 go_enter Tryz.func115,Tryz.ntmps115
 go_wp2_with fail
 refine HC.out.mono ?_
 rintro e w2 ⟨bl,rfl,_,_,hJ2,hx2⟩
 have HE:=hH (aN hJ2 hx2)
 clear hJ2 hx2
 go_wp2_with fail
 cases bl
 · exact bodyPost_end (results_none rfl _ _ _) rfl ⟨⟨_,rfl⟩,.inr (HE.out.2 rfl)⟩
 · refine bodyPost_end (results_none rfl _ _ _) rfl ⟨⟨_,rfl⟩,.inl ?_⟩
   have h:=HE.out.1 rfl
   simpa [zm,spF] using h
def zcR (B:Nat)(SS:Nat→Prop)(I:List Sp→World→Prop)(Ix:Code→World→Prop)(pre:List Sp)(W:World)(e:Exit)(_:Act)(V:World):Prop:=
 (W.heap.size≤V.heap.size∧∀y,(B≤y∨SS y)→y<W.heap.size→V.heap[y]? =W.heap[y]?)∧((e= .normal∧I pre V)∨(e= .ret∧Ix .ret V)∨∃id,e= .exit id∧Ix (.exit id) V)
theorem zfO {n:Nat}{g:Operand}{ps:Array Tmp}{assign body:Code}{Q:Exit→Act→World→Prop}{a:Act}{w:World}(h1:1≤n){TB:Nat}(hg:a.eval g= .func (.func 115) #[] #[.pointer (some ⟨TB,0,none⟩)])
 (SS:Nat→Prop) (t:Tr) (hwa:Qd w SS t TB) (hSS:∀x,SS x→x<w.heap.size) (hsz:zb t.kids+1≤500000) (hps:ps.size=2)
 (I:List Sp→World→Prop) (Ix:Code→World→Prop) (hI:∀{pre:List Sp} {V V' :World},I pre V→Below w.heap.size V V'→I pre V') (hIx:∀{c:Code} {V V' :World},Ix c V→Below w.heap.size V V'→Ix c V')
 (h0:I [] w)
 (hround:∀(l:Nat),l=w.heap.size+1→∀(pre rest:List Sp) (d:Nat) (key:Int×Int×ByteArray) (k:Fo) (V:World) (b off kc:Nat) (ka:Option Addr),spF 1 (zm t)=pre++(d,key,k)::rest→w.heap.size+2≤V.heap.size→I pre V→SS b→
   V.cell? ⟨b,off,none⟩=some (.int .i64 key.1)→V.cell? ⟨b,off+1,none⟩=some (.int .i64 key.2.1)→V.cell? ⟨b,off+2,none⟩=some (.string key.2.2)→V.cell? ⟨b,off+3,none⟩=some (.slice ka (foLen k) kc)→foLen k≤kc→zt V SS k ka→
   ∀ (K:Act→World→Prop),(∀a₁ V0,Below V.heap.size V V0→(∀V',(∃o',V'=V0.putObj l o'∧∃o,V0.heap[l]? =some o∧o.isCells=false)→body.wpIn (Fence.wide.inRound l) (n - 1 - 1) Tryz.prog (zcR w.heap.size SS I Ix (pre++[(d,key,k)]) V') a₁ V')→K a₁ V0)→
    assign.wpIn (Fence.wide.inRound l) (n - 1 - 1) Tryz.prog (Exit.then K (fun _ _ _=>False)) { tmps:=(ps.zip #[.int .i64 (d:Int),.pointer (some ⟨b,off,none⟩)]).foldl (fun t (p,v)=>t.setIfInBounds p v) a.tmps,defers:=[] } V)
 (hdone:∀(D:Nat) (V:World),w.heap.size≤D→I (spF 1 (zm t)) V→V.heap[D]? =some (.deferred (some []))→Q .normal { a with defers:={ target:= .collected D,args:= #[] }::a.defers } V)
 (hstop:∀(D:Nat) (c:Code) (V:World),w.heap.size≤D→Ix c V→V.heap[D]? =some (.deferred (some []))→c.wpIn Fence.wide n Tryz.prog Q { a with defers:={ target:= .collected D,args:= #[] }::a.defers } V):
 (Code.rangeFunc g ps assign body).wpIn Fence.wide n Tryz.prog Q a w:=by
 obtain⟨B,hB⟩:∃B,w.heap.size=B:=⟨_,rfl⟩
 simp only[hB] at hI hIx hround hdone hstop
 refine wpIn_rangeFunc fun fn hfn=>?_
 obtain⟨rec,hrec⟩:∃rec:LoopState→Option Code→Loop,rec=fun st pe=>{ state:=st,pending:=pe,fn,tmps:=a.tmps,params:=ps,assign,body,defers:=B }:=⟨_,rfl⟩
 obtain⟨W1,hW1⟩:∃W1,W1=(w.alloc (.deferred (some []))).alloc (.loop (rec .ready none)):=⟨_,rfl⟩
 have hsz1:W1.heap.size=B+2:=by rw[hW1];simp[hB]
 have hblk:∀x,x<B→W1.heap[x]? =w.heap[x]?:=fun x hx=>by rw[hW1,BhaQ _ _ _ ug5,BhaQ _ _ _ om]
 have hbk:Book B (rec .ready none) W1:=by
  exact sc7
 have hI1:I [] W1:=hI h0 (by rw[hW1,←hB];exact ((BrQ _ w).alloc (NlrQ _) _).alloc sp1 _)
 have hSl:∀x,SS x→x<B:=fun x hx=>by have:=hSS x hx;omega
 have hwa1:Qd W1 SS t TB:=by
  obtain⟨ka,kc,c0,c1,c2,c3⟩:=hwa
  exact⟨ka,kc,c0,(hblk _ (hSl _ c0)).trans c1,c2,c3.kept fun x hx=>⟨hx,hblk x (hSl x hx)⟩⟩
 refine⟨B+1,[{ target:= .collected B,args:= #[] }],W1,{ target:= .fn (.func 115) #[.pointer (some ⟨TB,0,none⟩)],args:= #[.func (.yield (B+1)) #[] #[]] },W1,115, #[.func (.yield (B+1)) #[] #[]]++ #[.pointer (some ⟨TB,0,none⟩)],W1,?_,?_,?_,?_,fun _=>h1,?_⟩
 · exact ua1
 · simp only[resolve,hg]
   simp[go_sem]
 · exact ua2
 · simp[invoke,go_sem]
 · obtain ⟨J,hJ⟩:∃J:List Sp→World→Prop,J=fun pre V=>I pre V∧Book B (rec .ready none) V:=⟨_,rfl⟩
   obtain⟨Jx,hJx⟩:∃Jx:World→Prop,Jx=fun V=>∃c,Ix c V∧Book B (rec .done (some c)) V:=⟨_,rfl⟩
   have hbody:zg9 Tryz.prog (n - 1 - 1) (B+1) W1.heap.size SS (spF 1 (zm t)) J Jx:=by
    subst hJ hJx
    refine⟨?_,?_,?_⟩
    · rintro pre V V' ⟨j1,j2⟩ hb
      rw[hsz1] at hb
      exact⟨hI j1 (hb.mono om),(hb.block _ om).trans j2.1,(hb.block _ om).trans j2.2⟩
    · rintro V V' ⟨c,j1,j2⟩ hb
      rw[hsz1] at hb
      exact⟨c,hIx j1 (hb.mono om),(hb.block _ om).trans j2.1,(hb.block _ om).trans j2.2⟩
    · rintro pre rest d key k V b off kc ka htot ⟨j1,j2⟩ hV hSb e0 e1 e2 e3 ec hk
      rw[hsz1] at hV
      have hr:=hround (B+1) rfl pre rest d key k V b off kc ka htot hV j1 hSb e0 e1 e2 e3 ec hk
      have hy:=run_yield (P:=Tryz.prog) (args:= #[.int .i64 (d:Int),.pointer (some ⟨b,off,none⟩)]) j2.1 ue6
      rw[hrec] at hy
      refine⟨fn,_,assign,body,hy,roundIn_of_wpIn hfn (hr _ fun a₁ V0 hb0 hb=>?_)⟩
      have j20:Book B (rec .ready none) V0:=⟨(hb0.block _ (lohQ j2.1)).trans j2.1,(hb0.block _ (lohQ j2.2)).trans j2.2⟩
      refine⟨_,run_beginRound j20.1 (by rw[hrec]),?_⟩
      have hb2:Book B { rec .ready none with state:= .busy } (V0.putObj (B+1) (.loop { rec .ready none with state:= .busy })):=j20.put
      refine wpIn_mono (hb _ ⟨_,rfl,_,j20.1,rfl⟩) ?_
      rintro e3 a3 U ⟨⟨hk1,hk2⟩,hp⟩
      have hb3:Book B { rec .ready none with state:= .busy } U:=⟨(hk2 _ (Or.inl om) (lohQ hb2.1)).trans hb2.1,(hk2 _ (Or.inl (NlrQ _)) (lohQ hb2.2)).trans hb2.2⟩
      have fin:=fun jump=>run_endRound (P:=Tryz.prog) jump hb3.1
      rw[hrec] at fin hb3
      have hs0:=hb0.size
      have hsU:V0.heap.size≤U.heap.size:=by simpa [World.putObj] using hk1
      have hall:∀o',V.heap.size≤(U.putObj (B+1) o').heap.size∧∀y,SS y→(U.putObj (B+1) o').heap[y]? =V.heap[y]?:=fun o'=>⟨by simp[World.putObj];omega,fun y hy=>by
       have hyl:=hSl y hy
       have hyB:y≠B+1:=by omega
       rw[WphQ hyB,hk2 y (Or.inr hy) (by simp[World.putObj];omega),WphQ hyB,hb0.block y om]⟩
      have hpb:∀o',Below B U (U.putObj (B+1) o'):=fun o'=>⟨rfl,rfl,rfl,by simp[World.putObj],fun y hy=>WphQ om⟩
      rcases hp with ⟨rfl,hi3⟩ | ⟨rfl,hi3⟩ | ⟨id,rfl,hi3⟩
      · refine⟨_,_,fin none,hall _,.inl ⟨rfl,hI hi3 (hpb _),?_⟩⟩
        rw[hrec];exact hb3.put
      · refine⟨_,_,fin (some .ret),hall _,.inr ⟨rfl,.ret,hIx hi3 (hpb _),?_⟩⟩
        rw[hrec];exact hb3.put
      · refine⟨_,_,fin (some (.exit id)),hall _,.inr ⟨rfl,.exit id,hIx hi3 (hpb _),?_⟩⟩
        rw[hrec];exact hb3.put
   have hstart:J [] W1:=by rw[hJ];exact⟨hI1,hbk⟩
   refine (callsIn_wide.2 (zfn W1 hbody TB hwa1 hsz hstart)).mono ?_
   rintro e W2 ⟨⟨v,rfl⟩,(hj | hj)⟩
   · rw[hJ] at hj
     obtain⟨hi,hb⟩:=hj
     have:=run_endLoop (P:=Tryz.prog) hb.1 ug4
     rw[hrec] at this
     exact⟨none,_,this,hdone B _ (NlrQ _) (hI hi ⟨rfl,rfl,rfl,by simp[World.putObj],fun y hy=>WphQ om⟩) ((WphQ om).trans hb.2)⟩
   · rw[hJx] at hj
     obtain⟨c,hi,hb⟩:=hj
     have:=run_endLoop (P:=Tryz.prog) hb.1 ug4
     rw[hrec] at this
     exact⟨some c,_,this,hstop B c _ (NlrQ _) (hIx hi ⟨rfl,rfl,rfl,by simp[World.putObj],fun y hy=>WphQ om⟩) ((WphQ om).trans hb.2)⟩
end Go.Proofs.YtgkmmnihaiopaaaGreat
namespace Go.Proofs.YtgkmmnihaiopaaaGreat
open Go.RowKit
structure Sl where
 kinds:List Int
 least:Int
 most:Int
structure Kd where
 name:ByteArray
 text:Bool
 slots:List Sl
structure Gr where
 kinds:List Kd
 root:Int
instance:Inhabited Sl:=⟨⟨[],0,0⟩⟩
instance:Inhabited Kd:=⟨⟨⟨#[]⟩,false,[]⟩⟩
def qz (w:World)(a:Option Addr)(l:List Int):Prop:=
 0<l.length→∃b off,a=some ⟨b,off,none⟩∧b<w.heap.size∧∀k x,l[k]? =some x→w.cell? ⟨b,off+k,none⟩=some (.int .i64 x)
def zb6 (w:World)(b o:Nat)(s:Sl):Prop:=
 ∃ka kc,w.cell? ⟨b,o,none⟩=some (.slice ka s.kinds.length kc)∧w.cell? ⟨b,o+1,none⟩=some (.int .i64 s.least)∧w.cell? ⟨b,o+2,none⟩=some (.int .i64 s.most)∧qz w ka s.kinds
def vI (w:World)(a:Option Addr)(l:List Sl):Prop:=
 0<l.length→∃b off,a=some ⟨b,off,none⟩∧b<w.heap.size∧∀k s,l[k]? =some s→zb6 w b (off+k*3) s
def zb2 (w:World)(b o:Nat)(k:Kd):Prop:=
 ∃sa sc,w.cell? ⟨b,o,none⟩=some (.string k.name)∧w.cell? ⟨b,o+1,none⟩=some (.bool k.text)∧w.cell? ⟨b,o+2,none⟩=some (.slice sa k.slots.length sc)∧vI w sa k.slots
def kE (w:World)(a:Option Addr)(l:List Kd):Prop:=
 0<l.length→∃b off,a=some ⟨b,off,none⟩∧b<w.heap.size∧∀k x,l[k]? =some x→zb2 w b (off+k*3) x
theorem qz.below {w w' :World}{a:Option Addr}{l:List Int}(h:qz w a l)(hb:Below w.heap.size w w'):qz w' a l:=fun h0=>by
 obtain⟨b,off,e,hlt,hc⟩:=h h0
 exact⟨b,off,e,nL hlt hb.size,fun k x hx=>(World.cell?_of_block (hb.block _ hlt)).trans (hc k x hx)⟩
theorem zb6.below {w w' :World}{b o:Nat}{s:Sl}(h:zb6 w b o s)(hlt:b<w.heap.size)(hb:Below w.heap.size w w'):zb6 w' b o s:=by
 obtain⟨ka,kc,h0,h1,h2,h3⟩:=h
 have e:∀j,w'.cell? ⟨b,j,none⟩=w.cell? ⟨b,j,none⟩:=fun j=>World.cell?_of_block (hb.block _ hlt)
 exact⟨ka,kc,(e _).trans h0,(e _).trans h1,(e _).trans h2,h3.below hb⟩
theorem vI.below {w w' :World}{a:Option Addr}{l:List Sl}(h:vI w a l)(hb:Below w.heap.size w w'):vI w' a l:=fun h0=>by
 obtain⟨b,off,e,hlt,hc⟩:=h h0
 exact⟨b,off,e,nL hlt hb.size,fun k x hx=>(hc k x hx).below hlt hb⟩
theorem zb2.below {w w' :World}{b o:Nat}{k:Kd}(h:zb2 w b o k)(hlt:b<w.heap.size)(hb:Below w.heap.size w w'):zb2 w' b o k:=by
 obtain⟨sa,sc,h0,h1,h2,h3⟩:=h
 have e:∀j,w'.cell? ⟨b,j,none⟩=w.cell? ⟨b,j,none⟩:=fun j=>World.cell?_of_block (hb.block _ hlt)
 exact⟨sa,sc,(e _).trans h0,(e _).trans h1,(e _).trans h2,h3.below hb⟩
theorem kE.below {w w' :World}{a:Option Addr}{l:List Kd}(h:kE w a l)(hb:Below w.heap.size w w'):kE w' a l:=fun h0=>by
 obtain⟨b,off,e,hlt,hc⟩:=h h0
 exact⟨b,off,e,nL hlt hb.size,fun k x hx=>(hc k x hx).below hlt hb⟩
def zcV (w:World)(v:Value)(s:Sl):Prop:=∃ka kc,v= .agg #[.slice ka s.kinds.length kc,.int .i64 s.least,.int .i64 s.most]∧qz w ka s.kinds
def zjs (w:World)(v:Value)(k:Kd):Prop:=∃sa sc,v= .agg #[.string k.name,.bool k.text,.slice sa k.slots.length sc]∧vI w sa k.slots
def GrV (w:World)(v:Value)(g:Gr):Prop:=∃ka kc,v= .agg #[.slice ka g.kinds.length kc,.int .i64 g.root]∧kE w ka g.kinds
theorem GrV.below {w w' :World}{v:Value}{g:Gr}(h:GrV w v g)(hb:Below w.heap.size w w'):GrV w' v g:=by obtain⟨ka,kc,e,h1⟩:=h;exact⟨ka,kc,e,h1.below hb⟩
theorem za8 {w:World}{s:Sl}{ka:Option Addr}{kc:Nat}(h:qz w ka s.kinds):zcV w (.agg #[.slice ka s.kinds.length kc,.int .i64 s.least,.int .i64 s.most]) s:=⟨ka,kc,rfl,h⟩
theorem zjy {w:World}{k:Kd}{sa:Option Addr}{sc:Nat}(h:vI w sa k.slots):zjs w (.agg #[.string k.name,.bool k.text,.slice sa k.slots.length sc]) k:=⟨sa,sc,rfl,h⟩
theorem grV {w:World}{l:List Kd}{root:Int}{ka:Option Addr}{kc:Nat}(h:kE w ka l):GrV w (.agg #[.slice ka l.length kc,.int .i64 root]) ⟨l,root⟩:=⟨ka,kc,rfl,h⟩
def Sl.fits (s:Sl):Prop:=(s.kinds.length:Int)≤9223372036854775807
def Kd.fits (k:Kd):Prop:=(k.name.size:Int)≤9223372036854775807∧(k.slots.length:Int)≤9223372036854775807∧∀s∈k.slots,s.fits
def Gr.fits (g:Gr):Prop:=(g.kinds.length:Int)≤9223372036854775807∧∀k∈g.kinds,k.fits
def Sl.few (s:Sl):Prop:=s.kinds.length≤1000000
def Kd.few (k:Kd):Prop:=k.name.size≤1000000∧k.slots.length≤1000000∧∀s∈k.slots,s.few
def Gr.few (g:Gr):Prop:=g.kinds.length≤1000000∧∀k∈g.kinds,k.few
def Says (b:Bool)(w:World)(e:Ending)(w' :World):Prop:=e= .returned (.bool b)∧Below w.heap.size w w'
theorem Says.mk {b c:Bool}{w w' :World}(h:b=c)(hb:Below w.heap.size w w'):Says b w (.returned (.bool c)) w':=⟨by rw[h],hb⟩
def y8 (n:Int)(w:World)(e:Ending)(w' :World):Prop:=e= .returned (.int .i64 n)∧Below w.heap.size w w'
theorem y8.mk {b c:Int}{w w' :World}(h:b=c)(hb:Below w.heap.size w w'):y8 b w (.returned (.int .i64 c)) w':=⟨by rw[h],hb⟩
end Go.Proofs.YtgkmmnihaiopaaaGreat
namespace Go.Proofs.YtgkmmnihaiopaaaGreat
open Go.RowKit Go.Shelf
attribute [local go_sem] Oper.semAt_some
theorem YK {P:Program}{fn:Func}{p:Tmp}{tb:TypeId}(h:fn.results= #[.cell p tb])(tmps:Array Value)(w:World)(g:Nat)(b:Bool)(hp:tmps.getD p undef= .pointer (some ⟨g,0,none⟩))(hc:w.cell? ⟨g,0,none⟩=some (.bool b))(hb:∀w,(isAgg tb).run P w= .ok false w):
 (results fn tmps).run P w= .ok (.bool b) w:=by
 have hp' :tmps[p]?.getD undef= .pointer (some ⟨g,0,none⟩):=by simpa using hp
 have hl:(loadVar tb ⟨g,0,none⟩).run P w= .ok (.bool b) w:=by simp[go_sem,hc,hb,Result.andThen]
 simp[results,h,hp',asAddr,hl]
theorem zex {w:World}{b:Nat}{c0 c1 c2 c3:Value}(h:w.heap[b]? =some (.cells #[c0,c1,c2,c3] 27 (0,0))):w.cell? ⟨b,0,none⟩=some c0∧w.cell? ⟨b,1,none⟩=some c1∧w.cell? ⟨b,2,none⟩=some c2∧w.cell? ⟨b,3,none⟩=some c3:=
 ⟨by rw[corQ _ _ 0 _ _ _ h];rfl,by rw[corQ _ _ 1 _ _ _ h];rfl,by rw[corQ _ _ 2 _ _ _ h];rfl,by rw[corQ _ _ 3 _ _ _ h];rfl⟩
theorem zea (w:World)(c0 c1:Int)(c2:ByteArray)(ka:Option Addr)(n c:Nat):Calls Tryz.prog 102 #[.agg #[.int .i64 c0,.int .i64 c1,.string c2,.slice ka n c]] w fun e w'=>e= .returned (.func (.func 115) #[] #[.pointer (some ⟨w.heap.size,0,none⟩)])∧w.alloc (.cells #[.int .i64 c0,.int .i64 c1,.string c2,.slice ka n c] 27)=w':=by
 have hmf:∀W:World,(Instr.makeFunc (.func 115) #[] #[.pointer (some ⟨w.heap.size,0,none⟩)]).run Tryz.prog W= .ok (.func (.func 115) #[] #[.pointer (some ⟨w.heap.size,0,none⟩)]) W:=fun _=>rfl
 go_enter Tryz.func102,Tryz.ntmps102
 go_wp2_with fail
 go_ret
 exact⟨rfl,rfl⟩
def zg7 (W:World)(nb:Nat)(pre:List Sp)(V:World):Prop:=zh W V (fun y=>y=nb+2)∧V.heap[nb+2]? =some (.cells #[.int .i64 (pre.length:Int)] 3 (0,0))∧pre.length≤200
def zg8 (W:World)(nb:Nat)(tot:List Sp)(c:Code)(V:World):Prop:=c= .ret∧zh W V (fun y=>y=nb+1∨y=nb+2)∧V.heap[nb+1]? =some (.cells #[.bool true] 4 (0,0))∧200<tot.length
theorem jV {W V V' :World}{S:Nat→Prop}(h:zh W V S)(hb:Below W.heap.size V V'):zh W V' S:=
 ⟨hb.os.trans h.os,hb.tape.trans h.tape,hb.output.trans h.output,NltQ h.size hb.size,fun k hk hn=>(hb.block k hk).trans (h.block k hk hn)⟩
theorem zh7 {w W V:World}{nb D:Nat}(h0:Below w.heap.size w W)(h2:zh W V (fun y=>y=nb+1∨y=nb+2))(k3:∃x,V.heap[nb+1]? =some (.cells #[.bool x] 4 (0,0)))(hn:nb=w.heap.size)(hK:V.heap[D]? =some (.deferred (some [])))(hD:nb+3≤D)(b:Bool):
 (V.setCell ⟨nb+1,0,none⟩ (.bool b)).heap[D]? =some (.deferred (some []))∧((V.setCell ⟨nb+1,0,none⟩ (.bool b)).putObj D (.deferred none)).cell? ⟨nb+1,0,none⟩=some (.bool b)∧Below w.heap.size w ((V.setCell ⟨nb+1,0,none⟩ (.bool b)).putObj D (.deferred none)):=by
 obtain⟨x,k3⟩:=k3
 have hs0:=h0.size
 have hs2:=h2.size
 have hk:∀y,y≠nb+1→(V.setCell ⟨nb+1,0,none⟩ (.bool b)).heap[y]? =V.heap[y]?:=fun y hy=>BhsQ _ _ _ _ hy
 refine⟨(hk D om).trans hK,?_,h2.os.trans h0.os,h2.tape.trans h0.tape,h2.output.trans h0.output,by simp[World.putObj,World.setCell];omega,fun y hy=>?_⟩
 · have e:((V.setCell ⟨nb+1,0,none⟩ (.bool b)).putObj D (.deferred none)).heap[nb+1]? =some (.cells #[.bool b] 4 (0,0)):=by
    rw[WphQ om,hssQ V (nb+1) 0 _ _ _ k3];simp
   rw[corQ _ _ 0 _ _ _ e];rfl
 · rw[WphQ om,hk y om,h2.block y om om,h0.block y hy]
theorem zgp {w W V:World}{nb D:Nat}(h0:Below w.heap.size w W)(h2:zh W V (fun y=>y=nb+1∨y=nb+2))(k3:V.heap[nb+1]? =some (.cells #[.bool true] 4 (0,0)))(hn:nb=w.heap.size)(hD:nb+3≤D):
 (V.putObj D (.deferred none)).cell? ⟨nb+1,0,none⟩=some (.bool true)∧Below w.heap.size w (V.putObj D (.deferred none)):=by
 have hs0:=h0.size
 have hs2:=h2.size
 refine⟨?_,h2.os.trans h0.os,h2.tape.trans h0.tape,h2.output.trans h0.output,by simp[World.putObj];omega,fun y hy=>?_⟩
 · have e:(V.putObj D (.deferred none)).heap[nb+1]? =some (.cells #[.bool true] 4 (0,0)):=(WphQ om).trans k3
   rw[corQ _ _ 0 _ _ _ e];rfl
 · rw[WphQ om,h2.block y om om,h0.block y hy]
theorem zd6 (w:World)(S:Nat→Prop)(nv:Value)(t:Tr)(hS:∀x,S x→x<w.heap.size)(ht:zG w S nv t)(hsz:zb t.kids+1≤500000):Calls Tryz.prog 82 #[nv] w (Says (decide (200<zb t.kids+1)) w):=by
 obtain⟨ka,cap,rfl,hcap,hk⟩:=ht
 obtain⟨n,hn⟩:∃n,n=foLen t.kids:=⟨_,rfl⟩
 rw[←hn]
 obtain⟨nb,hnb⟩:∃nb,nb=w.heap.size:=⟨_,rfl⟩
 have hal:=ze [.cells #[.int .i64 t.id,.int .i64 t.kind,.string t.text,.slice ka n cap] 27,.cells #[.bool false] 4,.cells #[.int .i64 0] 3,.cells #[.int .i64 t.id,.int .i64 t.kind,.string t.text,.slice ka n cap] 27] w
 have hab:=zi [.cells #[.int .i64 t.id,.int .i64 t.kind,.string t.text,.slice ka n cap] 27,.cells #[.bool false] 4,.cells #[.int .i64 0] 3,.cells #[.int .i64 t.id,.int .i64 t.kind,.string t.text,.slice ka n cap] 27] w
 have has:=zw [.cells #[.int .i64 t.id,.int .i64 t.kind,.string t.text,.slice ka n cap] 27,.cells #[.bool false] 4,.cells #[.int .i64 0] 3,.cells #[.int .i64 t.id,.int .i64 t.kind,.string t.text,.slice ka n cap] 27] w
 have HA:=hH (aN hab (aN (hal 1 _ rfl) (aN (hal 2 _ rfl) (aN (hal 3 _ rfl) has))))
 have H:=hH (aN hS (aN hcap (aN hk (aN hsz (aN hn hnb)))))
 clear hS hcap hk hsz hn hnb hal hab has
 refine (callsIn_wide (n:=8)).1 ?_
 refine callsIn_of_wp_marks Tryz.func82 rfl trivial ?_ rfl
 simp only[Tryz.ntmps82,List.size_toArray,LlcQ,List.length_nil,Nat.reduceAdd,Nat.reduceSub,Array.replicate_succ,Array.replicate_zero,List.push_toArray,List.append_toArray,List.nil_append,List.cons_append]
 gi_wp2_with (refine⟨trivial,?_⟩;gi_at_call 102;refine (callsIn_wide.2 (zea _ _ _ _ _ _ _)).mono ?_;rintro e w' ⟨rfl,rfl⟩)
 change Code.wpIn _ _ _ _ _ _ (zl w [.cells #[.int .i64 t.id,.int .i64 t.kind,.string t.text,.slice ka n cap] 27,.cells #[.bool false] 4,.cells #[.int .i64 0] 3,.cells #[.int .i64 t.id,.int .i64 t.kind,.string t.text,.slice ka n cap] 27])
 generalize hW:zl w _=W at HA ⊢
 clear hW
 rw[←H.out.2.2.2.2.2]
 obtain⟨k0,k1,k2,k3,k4⟩:=HA.out
 rw[←H.out.2.2.2.2.2] at k1 k2 k3 k4
 have k4' :W.heap.size=nb+4:=k4
 have hwn:=H.out.2.2.2.2.2
 have hnode:Qd W (fun x=>S x∨x=nb+3) t (nb+3):=⟨ka,cap,Or.inr rfl,by rw[k3,H.out.2.2.2.2.1],H.out.2.1,H.out.2.2.1.kept fun x hx=>⟨Or.inl hx,k0.block x (H.out.1 x hx)⟩⟩
 refine zfO om rfl (fun x=>S x∨x=nb+3) t hnode (fun x hx=>by rcases hx with hx | hx;have:=H.out.1 x hx;omega;omega) H.out.2.2.2.1 rfl (zg7 W nb) (zg8 W nb (spF 1 (zm t))) (fun h hb=>⟨jV h.1 hb,(hb.block _ om).trans h.2.1,h.2.2⟩) (fun h hb=>⟨h.1,jV h.2.1 hb,(hb.block _ om).trans h.2.2.1,h.2.2.2⟩) ⟨zh.refl _ _,k2,by simp⟩ ?round ?done ?stop
 case done=>
  rintro D V hD ⟨h1,h2,h3⟩ hK
  have e1:V.heap[nb+1]? =some (.cells #[.bool false] 4 (0,0)):=(h1.block _ om om).trans k1
  have b0:V.cell? ⟨nb+1,0,none⟩=some (.bool false):=by rw[corQ _ _ 0 _ _ _ e1];rfl
  have f0:V.frozen? ⟨nb+1,0,none⟩=false:=forQ _ _ 0 _ _ e1
  have HE:=hH (zh7 k0 ⟨h1.os,h1.tape,h1.output,h1.size,fun k hk hn=>h1.block k hk (fun e=>hn (Or.inr e))⟩ ⟨_,e1⟩ hwn hK om false)
  have HB:=hH (show decide (200<zb t.kids+1)=false by rw[qM,yt] at h3;exact decide_eq_false om)
  clear h1 h2 h3 e1 hD k0 k1 k2 k3 k4 k4' hwn hnode HA H
  gi_wp2
  obtain⟨q1,q2,q3⟩:=HE.out
  refine⟨by simp,.inl ⟨_,_,rfl,run_takeDeferred q1,?_⟩⟩
  exact⟨_,YK rfl _ _ _ false rfl q2 (fun _=>by kernel_rfl),by rw[HB.out],q3⟩
 case stop=>
  rintro D c V hD ⟨rfl,h1,h2,h3⟩ hK
  have HE:=hH (zgp k0 h1 h2 hwn (D:=D) om)
  have HB:=hH (show decide (200<zb t.kids+1)=true by rw[qM,yt] at h3;exact decide_eq_true om)
  clear h1 h2 h3 hD k0 k1 k2 k3 k4 k4' hwn hnode HA H
  gi_wp2
  obtain⟨q2,q3⟩:=HE.out
  refine⟨by simp,.inl ⟨_,_,rfl,run_takeDeferred hK,?_⟩⟩
  exact⟨_,YK rfl _ _ _ true rfl q2 (fun _=>by kernel_rfl),by rw[HB.out],q3⟩
 case round=>
  rintro l hl pre rest d key k V b off kc ka2 htot hV ⟨h1,h2,h3⟩ hSb d0 d1 d2 d3 dc dk K hK
  obtain⟨np,hnp⟩:∃np,np=pre.length:=⟨_,rfl⟩
  rw[←hnp] at h2 h3
  have hlt:np+1≤(spF 1 (zm t)).length:=by rw[htot,hnp];simp
  have hn1:V.heap[nb+1]? =some (.cells #[.bool false] 4 (0,0)):=(h1.block _ om om).trans k1
  have HR:=hH (aN h1 (aN h2 (aN hlt (aN hV (aN hl (aN hnp hn1))))))
  have HK:=hH hK
  have HZ:=hH (aN k4' hwn)
  clear h1 h2 hlt hV hl hnp hn1 hK htot hSb d0 d1 d2 d3 dc dk k0 k1 k2 k3 k4 k4' hwn hnode
  gi_wp2
  refine HK.out _ V (BrQ _ _) fun V1 hV1=>?_
  clear HK
  obtain⟨o',ev,o,ho,hoc⟩:=hV1
  have hk1:∀y,y≠l→V1.heap[y]? =V.heap[y]?:=fun y hy=>by rw[ev];exact WphQ hy
  have hs1:V1.heap.size=V.heap.size:=by rw[ev];simp[World.putObj]
  have hlW:l=nb+5:=by have:=HR.out.2.2.2.2.1;have:=HZ.out.1;omega
  have hc2:V1.heap[nb+2]? =some (.cells #[.int .i64 (np:Int)] 3 (0,0)):=(hk1 _ om).trans HR.out.2.1
  have hc1:V1.heap[nb+1]? =some (.cells #[.bool false] 4 (0,0)):=(hk1 _ om).trans HR.out.2.2.2.2.2.2
  have c2:V1.cell? ⟨nb+1+1,0,none⟩=some (.int .i64 (np:Int)):=by rw[corQ _ _ 0 _ _ _ hc2];rfl
  have f2:V1.frozen? ⟨nb+1+1,0,none⟩=false:=forQ _ _ 0 _ _ hc2
  obtain⟨V2,hV2⟩:∃V2,V2=V1.setCell ⟨nb+1+1,0,none⟩ (.int .i64 ((np:Int)+1)):=⟨_,rfl⟩
  have hk2:∀y,y≠nb+2→V2.heap[y]? =V1.heap[y]?:=fun y hy=>by rw[hV2];exact BhsQ _ _ _ _ hy
  have hc22:V2.heap[nb+2]? =some (.cells #[.int .i64 ((np:Int)+1)] 3 (0,0)):=by rw[hV2,hssQ V1 (nb+1+1) 0 _ _ _ hc2];simp
  have hc12:V2.heap[nb+1]? =some (.cells #[.bool false] 4 (0,0)):=(hk2 _ om).trans hc1
  have hs2:V2.heap.size=V1.heap.size:=by rw[hV2];simp[World.setCell]
  have ht2:zh W V2 (fun y=>y=nb+2):=by
   have h1:=HR.out.1
   refine⟨by rw[hV2,ev];exact h1.os,by rw[hV2,ev];exact h1.tape,by rw[hV2,ev];exact h1.output,by have:=h1.size;omega,fun y hy hn=>?_⟩
   rw[hk2 y hn,hk1 y (by have:=HZ.out.1;omega),h1.block y hy hn]
  have hS2:∀y,(W.heap.size≤y∨(S y∨y=nb+3))→V2.heap[y]? =V1.heap[y]?:=fun y hy=>hk2 y (by
   rcases hy with hy | hy | hy
   · have:=HZ.out.1;omega
   · have:=H.out.1 y hy;have:=HZ.out.2;omega
   · omega)
  by_cases hbig:200<np+1
  · have hbi:(200:Int)<(np:Int)+1:=by omega
    have b1:(V1.setCell ⟨nb+1+1,0,none⟩ (.int .i64 ((np:Int)+1))).cell? ⟨nb+1,0,none⟩=some (.bool false):=by rw[←hV2,corQ _ _ 0 _ _ _ hc12];rfl
    have g1:(V1.setCell ⟨nb+1+1,0,none⟩ (.int .i64 ((np:Int)+1))).frozen? ⟨nb+1,0,none⟩=false:=by rw[←hV2];exact forQ _ _ 0 _ _ hc12
    have hend:∀aa:Act,zcR W.heap.size (fun x=>S x∨x=nb+3) (zg7 W nb) (zg8 W nb (spF 1 (zm t))) (pre++[(d,key,k)]) V1 .ret aa ((V1.setCell ⟨nb+1+1,0,none⟩ (.int .i64 ((np:Int)+1))).setCell ⟨nb+1,0,none⟩ (.bool true)):=fun aa=>by
     rw[←hV2]
     have hk3:∀y,y≠nb+1→(V2.setCell ⟨nb+1,0,none⟩ (.bool true)).heap[y]? =V2.heap[y]?:=fun y hy=>BhsQ _ _ _ _ hy
     refine⟨⟨by simp[World.setCell,hs2],fun y hy hyl=>?_⟩,.inr (.inl ⟨rfl,rfl,⟨ht2.os,ht2.tape,ht2.output,by simp[World.setCell];exact ht2.size,fun y hy hn=>?_⟩,?_,by have:=HR.out.2.2.1;omega⟩)⟩
     · rw [hk3 y (by
        rcases hy with hy | hy | hy
        · have:=HZ.out.1;omega
        · have:=H.out.1 y hy;have:=HZ.out.2;omega
        · omega),hS2 y hy]
     · rw[hk3 y (fun e=>hn (Or.inl e)),ht2.block y hy (fun e=>hn (Or.inr e))]
     · rw[hssQ V2 (nb+1) 0 _ _ _ hc12];simp
    have HE:=hH hend
    clear hend hk1 hs1 hc2 hc1 hV2 hk2 hc22 hc12 hs2 ht2 hS2 ev ho hoc hlW hbig
    gi_wp2
    exact HE.out _
  · have hbi:¬(200:Int)<(np:Int)+1:=by omega
    have hend:∀aa:Act,zcR W.heap.size (fun x=>S x∨x=nb+3) (zg7 W nb) (zg8 W nb (spF 1 (zm t))) (pre++[(d,key,k)]) V1 .normal aa (V1.setCell ⟨nb+1+1,0,none⟩ (.int .i64 ((np:Int)+1))):=fun aa=>by
     rw[←hV2]
     refine⟨⟨by omega,fun y hy hyl=>hS2 y hy⟩,.inl ⟨rfl,ht2,?_,?_⟩⟩
     · rw[hc22,LlaQ,←HR.out.2.2.2.2.2.1];rfl
     · rw[LlaQ,←HR.out.2.2.2.2.2.1];simp only[LlcQ,List.length_nil];omega
    have HE:=hH hend
    clear hend hk1 hs1 hc2 hc1 hV2 hk2 hc22 hc12 hs2 ht2 hS2 ev ho hoc hlW hbig
    gi_wp2
    exact HE.out _
end Go.Proofs.YtgkmmnihaiopaaaGreat
namespace Go.Proofs.YtgkmmnihaiopaaaGreat
open Go.RowKit
def YS (s:Sl):Bool:=decide (40<s.kinds.length)
def Zz (k:Kd):Bool:=decide (200<k.name.size) || decide (20<k.slots.length) || k.slots.any YS
def Ye (g:Gr):Bool:=decide (40<g.kinds.length) || g.kinds.any Zz
theorem QS {α:Type}{l:List α}{k:Nat}{x:α}(h:l[k]? =some x):l.drop k=x::l.drop (k+1):=by
 obtain⟨hk,rfl⟩:=List.getElem?_eq_some_iff.1 h
 exact List.drop_eq_getElem_cons hk
theorem J9 {α:Type}{f:α→Bool}{l:List α}{k:Nat}{x:α}{r:Bool}(hr:r=(l.drop k).any f)(h:l[k]? =some x):r=(f x || (l.drop (k+1)).any f):=by rw[hr,QS h];rfl
theorem JI {α:Type}{f:α→Bool}{l:List α}{k:Nat}{r:Bool}(hr:r=(l.drop k).any f)(h:l.length≤k):r=false:=by rw[hr,List.drop_eq_nil_of_le h];rfl
def zjM (w:World)(c:Array Value)(l:List Kd)(i:Value)(wr:World):Prop:=
 ∃k:Nat,k≤l.length∧i= .int .i64 k∧wr.heap[w.heap.size]? =some (.cells c 24 (0,0))∧Below w.heap.size w wr∧l.any Zz=(l.drop k).any Zz
def ziF (W:World)(l:List Sl)(j:Value)(wr:World):Prop:=
 ∃k:Nat,k≤l.length∧j= .int .i64 k∧W=wr∧l.any YS=(l.drop k).any YS
theorem zeK (w : World)(v:Value)(g:Gr)(hv:GrV w v g)(hf:g.fits):Calls Tryz.prog 5 #[v] w (Says (Ye g) w):=by
 obtain⟨ka,kc,rfl,hk⟩:=hv
 obtain⟨l,root⟩:=g
 simp only at hk hf ⊢
 have hfl:(l.length:Int)≤9223372036854775807:=hf.1
 have HF:=hH hf.2
 have HK:=hH hk
 clear hf hk
 by_cases h40:40<l.length
 · have h40' :(40:Int)<(l.length:Int):=by omega
   have HG:=hH (show Ye ⟨l,root⟩=true by simp[Ye,h40])
   go_enter Tryz.func5,Tryz.ntmps5
   go_wp2_with fail
   go_ret
   exact Says.mk HG.out (zg _ _)
 · have h40' : ¬ (40:Int)<(l.length:Int):=by omega
   have HG:=hH (show Ye ⟨l,root⟩=l.any Zz by simp[Ye,h40])
   go_enter Tryz.func5,Tryz.ntmps5
   go_wp2_with fail
   go_loopw [12] (fun i wr=>zjM w #[.slice ka l.length kc,.int .i64 root] l i wr) (fun i _=>l.length - (intOf i).toNat)
   case atStart=>exact⟨0,NzlQ _,rfl,hanQ w _,zg _ _,rfl⟩
   case round =>
    obtain⟨k,hkl,rfl,hb,hbel,hany⟩:=hrel
    have p0:wr.cell? ⟨w.heap.size,0,none⟩=some (.slice ka l.length kc):=by rw[corQ wr _ 0 _ _ _ hb];rfl
    have HB:=hH (aN hb hbel)
    have HA:=hH hany
    clear hb hbel hany
    by_cases hlt:k<l.length
    · obtain ⟨x, hx⟩:∃x,l[k]? =some x:=⟨l[k],List.getElem?_eq_getElem hlt⟩
      have hfx:=HF.out x (List.mem_of_getElem? hx)
      obtain⟨b,off,rfl,hblt,hc⟩:=(HK.out.below HB.out.2) om
      obtain⟨sa,sc,c0,c1,c2,hs⟩:=hc k x hx
      have HX:=hH (J9 HA.out hx)
      have hs1:(x.name.size:Int)≤9223372036854775807:=hfx.1
      have hs2:(x.slots.length:Int)≤9223372036854775807:=hfx.2.1
      have HFX:=hH hfx.2.2
      have HS:=hH hs
      have hkl2:(k:Int)<(l.length:Int):=by omega
      clear hx hc hs hfx
      by_cases h200:200<x.name.size
      · have h200' :(200:Int)<(x.name.size:Int):=by omega
        go_wp2_with fail
        go_ret
        exact Says.mk (by rw[HG.out,HX.out];simp[Zz,h200]) HB.out.2
      · have h200' :¬(200:Int)<(x.name.size:Int):=by omega
        by_cases h20:20<x.slots.length
        · have h20' :(20:Int)<(x.slots.length:Int):=by omega
          go_wp2_with fail
          go_ret
          exact Says.mk (by rw[HG.out,HX.out];simp[Zz,h20]) HB.out.2
        · have h20' :¬(20:Int)<(x.slots.length:Int):=by omega
          have HKX:=hH (show Zz x=x.slots.any YS by simp[Zz,h200,h20])
          go_wp2_with fail
          obtain⟨wo,rfl⟩:∃wo,wo=wr:=⟨_,rfl⟩
          go_loopw [40] (fun j wr=>ziF wo x.slots j wr) (fun j _=>x.slots.length - (intOf j).toNat)
          case atStart=>exact⟨0,NzlQ _,rfl,rfl,rfl⟩
          case round=>
           obtain⟨m,hm,rfl,rfl,hany2⟩:=hrel
           have HA2:=hH hany2
           clear hany2
           by_cases hlt2:m<x.slots.length
           · obtain⟨s,hsx⟩:∃s,x.slots[m]? =some s:=⟨x.slots[m],List.getElem?_eq_getElem hlt2⟩
             have hfs:(s.kinds.length:Int)≤9223372036854775807:=HFX.out s (List.mem_of_getElem? hsx)
             obtain⟨b2,off2,rfl,hblt2,hc2⟩:=HS.out om
             obtain⟨ka2,kc2,d0,d1,d2,hi⟩:=hc2 m s hsx
             have HX2:=hH (J9 HA2.out hsx)
             have hm2:(m:Int)<(x.slots.length:Int):=by omega
             clear hsx hc2 hi
             by_cases h4:40<s.kinds.length
             · have h4' :(40:Int)<(s.kinds.length:Int):=by omega
               go_wp2_with fail
               go_ret
               exact Says.mk (by rw[HG.out,HX.out,HKX.out,HX2.out];simp[YS,h4]) HB.out.2
             · have h4' :¬(40:Int)<(s.kinds.length:Int):=by omega
               go_wp2_with fail
               exact⟨⟨m+1,by omega,by go_num,rfl,by rw[HX2.out];simp[YS,h4]⟩,by simp[intOf];omega⟩
           · have he:=JI HA2.out om
             have HE:=hH he
             clear he
             have hm2:¬(m:Int)<(x.slots.length:Int):=by omega
             go_wp2_with fail
             exact⟨⟨k+1,by omega,by go_num,HB.out.1,HB.out.2,by rw[HX.out,HKX.out,HE.out];rfl⟩,by simp[intOf];omega⟩
    · have he:=JI HA.out om
      have HE:=hH he
      clear he
      have hkl2:¬(k:Int)<(l.length:Int):=by omega
      go_wp2_with fail
      go_ret
      exact Says.mk (by rw[HG.out,HE.out]) HB.out.2
theorem zN {w:World}{k:Nat}{o:Obj}(h:w.heap[k]? =some o):k<w.heap.size:=(Array.getElem?_eq_some_iff.1 h).1
end Go.Proofs.YtgkmmnihaiopaaaGreat
namespace Go.Proofs.YtgkmmnihaiopaaaGreat
open Go.ChangeShapes Go.WideShapes Go.ChangeAt Go.RowKit
section
variable {H:Type} {enc:TypeId×Value→H} {w:World} {base:Nat} {spare:Nat→Bool} {held:Bool}
theorem add_block (a:Addr)(j:Nat):(a.add j).block=a.block:=by unfold Addr.add;split<;>rfl
theorem ze2 {fuel:Nat}{v:Value}{x:DataW H×List MemPlace}(h:DataW.trod enc Tryz.prog w base spare held fuel 53 [v]=some x):
 ∃(l:List Int) (a:Option Addr) (cap:Nat),v= .slice a l.length cap∧qz w a l∧(l.length:Int)≤9223372036854775807:=by
 rcases Deep.open_slice Tryz.underlying53 h with ⟨hcs,_⟩ | ⟨ad,len,cap,m,n,D,Pl,hcs,_,hl,hm,hmm,_,hi⟩
 · simp only[List.cons.injEq,and_true] at hcs
   subst hcs
   exact⟨[],none,0,rfl,fun h=>by simp at h,by simp⟩
 · simp only[List.cons.injEq,and_true] at hcs
   subst hcs
   have hle:len≤m:=by rw[hmm];split<;>omega
   have each:∀i,i<len→∃x:Int,w.cell? (ad.add i)=some (.int .i64 x):=fun i hil=>by
    obtain⟨cs',hc,ht⟩:=hi i om
    have h3:Tryz.prog.cellsOf 3=1:=by kernel_rfl
    rw[h3,Nat.mul_one] at hc
    obtain⟨_,hcl,hat⟩:=World.cells?_some hc
    match cs',hcl with
    | [c0],_=>
      obtain⟨x0,e0,_,_⟩:=DataW.trod_int Tryz.underlying3 ht
      have a0:=hat 0 om
      rw[Deep.add_add] at a0
      simp only[List.cons.injEq,and_true] at e0
      subst e0
      exact⟨x0,by simpa using a0⟩
   obtain⟨f,hf⟩:=Deep.choose_lt each
   refine⟨(List.range len).map f,some ad,cap,by simp,fun h0=>?_,by simp only[List.length_map,List.length_range];unfold maxLen at hm;omega⟩
   have h0' :0<len:=by simpa using h0
   obtain⟨b,off,spot⟩:=ad
   have hsp:=World.cell?_spot (hf 0 h0')
   have:spot=none:=by simpa [Addr.add] using hsp
   subst this
   have hlt:=World.block_lt_of_cell? w _ (hf 0 h0')
   rw[Addr.add_mid] at hlt
   refine⟨b,off,rfl,hlt,fun i x hi=>?_⟩
   rw[List.getElem?_map,Option.map_eq_some_iff] at hi
   obtain⟨j,hj,rfl⟩:=hi
   obtain⟨hlt,rfl⟩:=List.getElem?_eq_some_iff.1 hj
   simp only[List.length_range] at hlt
   simp only[List.getElem_range]
   have h1:=hf i hlt
   rw[Addr.add_mid] at h1
   exact h1
theorem zgw (fuel:Nat)(cs:List Value)(x:DataW H×List MemPlace)(h:DataW.trod enc Tryz.prog w base spare held fuel 55 cs=some x):
 ∃(s:Sl) (ka:Option Addr) (kc:Nat),cs= [.slice ka s.kinds.length kc,.int .i64 s.least,.int .i64 s.most]∧qz w ka s.kinds∧s.fits:=by
 obtain⟨xs,n,_,_,hl,hlen,hf⟩:=DataW.trod_struct Tryz.underlying55 h
 have h3:Tryz.prog.cellsOf 55=3:=by kernel_rfl
 rw[h3] at hl
 match cs,hl with
 | [c0,c1,c2],_=>
   have k1:Tryz.prog.cellsOf 3=1:=by kernel_rfl
   have k2:Tryz.prog.cellsOf 53=1:=by kernel_rfl
   match xs,hlen with
   | [y0,y1,y2],_=>
     have t0:DataW.trod enc Tryz.prog w base spare held n 53 (([c0,c1,c2].drop 0).take (Tryz.prog.cellsOf 53))=some y0:=hf 0 _ rfl
     have t1:DataW.trod enc Tryz.prog w base spare held n 3 (([c0,c1,c2].drop 1).take (Tryz.prog.cellsOf 3))=some y1:=hf 1 _ rfl
     have t2:DataW.trod enc Tryz.prog w base spare held n 3 (([c0,c1,c2].drop 2).take (Tryz.prog.cellsOf 3))=some y2:=hf 2 _ rfl
     simp only[k1,k2,List.drop_zero,List.take_succ_cons,List.take_zero,List.drop_succ_cons] at t0 t1 t2
     obtain⟨l,ka,kc,rfl,hi,hle⟩:=ze2 t0
     obtain⟨lo,e1,_,_⟩:=DataW.trod_int Tryz.underlying3 t1
     obtain⟨hi2,e2,_,_⟩:=DataW.trod_int Tryz.underlying3 t2
     simp only[List.cons.injEq,and_true] at e1 e2
     subst e1;subst e2
     exact⟨⟨l,lo,hi2⟩,ka,kc,rfl,hi,hle⟩
theorem zdK {fuel:Nat}{v:Value}{x:DataW H×List MemPlace}(h:DataW.trod enc Tryz.prog w base spare held fuel 50 [v]=some x):
 ∃(l:List Sl) (a:Option Addr) (cap:Nat),v= .slice a l.length cap∧vI w a l∧(l.length:Int)≤9223372036854775807∧∀s∈l,s.fits:=by
 rcases Deep.open_slice Tryz.underlying50 h with ⟨hcs,_⟩ | ⟨ad,len,cap,m,n,D,Pl,hcs,_,hl,hm,hmm,_,hi⟩
 · simp only[List.cons.injEq,and_true] at hcs
   subst hcs
   exact⟨[],none,0,rfl,fun h=>by simp at h,by simp,fun s hs=>by cases hs⟩
 · simp only[List.cons.injEq,and_true] at hcs
   subst hcs
   have hle:len≤m:=by rw[hmm];split<;>omega
   have h3:Tryz.prog.cellsOf 55=3:=by kernel_rfl
   rw[h3] at hi
   have each:∀i,i<len→∃(s:Sl),∃(ka:Option Addr) (kc:Nat),w.cell? (ad.add (i*3))=some (.slice ka s.kinds.length kc)∧w.cell? (ad.add (i*3+1))=some (.int .i64 s.least)∧w.cell? (ad.add (i*3+2))=some (.int .i64 s.most)∧qz w ka s.kinds∧s.fits:=fun i hil=>by
    obtain⟨cs',hc,ht⟩:=hi i om
    obtain⟨_,_,hat⟩:=World.cells?_some hc
    obtain⟨s,ka,kc,rfl,hia,hfi⟩:=zgw n cs' _ ht
    exact si6
   exact sb7
theorem zgv (fuel:Nat)(cs:List Value)(x:DataW H×List MemPlace)(h:DataW.trod enc Tryz.prog w base spare held fuel 52 cs=some x):
 ∃(k:Kd) (sa:Option Addr) (sc:Nat),cs= [.string k.name,.bool k.text,.slice sa k.slots.length sc]∧vI w sa k.slots∧k.fits:=by
 obtain⟨xs,n,_,_,hl,hlen,hf⟩:=DataW.trod_struct Tryz.underlying52 h
 have h3:Tryz.prog.cellsOf 52=3:=by kernel_rfl
 rw[h3] at hl
 match cs,hl with
 | [c0,c1,c2],_=>
   have k1:Tryz.prog.cellsOf 9=1:=by kernel_rfl
   have k2:Tryz.prog.cellsOf 4=1:=by kernel_rfl
   have k3:Tryz.prog.cellsOf 50=1:=by kernel_rfl
   match xs,hlen with
   | [y0,y1,y2],_=>
     have t0:DataW.trod enc Tryz.prog w base spare held n 9 (([c0,c1,c2].drop 0).take (Tryz.prog.cellsOf 9))=some y0:=hf 0 _ rfl
     have t1:DataW.trod enc Tryz.prog w base spare held n 4 (([c0,c1,c2].drop 1).take (Tryz.prog.cellsOf 4))=some y1:=hf 1 _ rfl
     have t2:DataW.trod enc Tryz.prog w base spare held n 50 (([c0,c1,c2].drop 2).take (Tryz.prog.cellsOf 50))=some y2:=hf 2 _ rfl
     simp only[k1,k2,k3,List.drop_zero,List.take_succ_cons,List.take_zero,List.drop_succ_cons] at t0 t1 t2
     obtain⟨nm,e0,_,hns⟩:=DataW.trod_string Tryz.underlying9 t0
     obtain⟨tx,e1,_⟩:=DataW.trod_bool Tryz.underlying4 t1
     obtain⟨l,sa,sc,rfl,hs,hle,hfs⟩:=zdK t2
     simp only[List.cons.injEq,and_true] at e0 e1
     subst e0;subst e1
     exact⟨⟨nm,tx,l⟩,sa,sc,rfl,hs,by show (nm.size:Int)≤_;unfold maxLen at hns;omega,hle,hfs⟩
theorem zdJ {fuel:Nat}{v:Value}{x:DataW H×List MemPlace}(h:DataW.trod enc Tryz.prog w base spare held fuel 22 [v]=some x):
 ∃(l:List Kd) (a:Option Addr) (cap:Nat),v= .slice a l.length cap∧kE w a l∧(l.length:Int)≤9223372036854775807∧∀s∈l,s.fits:=by
 rcases Deep.open_slice Tryz.underlying22 h with ⟨hcs,_⟩ | ⟨ad,len,cap,m,n,D,Pl,hcs,_,hl,hm,hmm,_,hi⟩
 · simp only[List.cons.injEq,and_true] at hcs
   subst hcs
   exact⟨[],none,0,rfl,fun h=>by simp at h,by simp,fun s hs=>by cases hs⟩
 · simp only[List.cons.injEq,and_true] at hcs
   subst hcs
   have hle:len≤m:=by rw[hmm];split<;>omega
   have h3:Tryz.prog.cellsOf 52=3:=by kernel_rfl
   rw[h3] at hi
   have each:∀i,i<len→∃(k:Kd),∃(sa:Option Addr) (sc:Nat),w.cell? (ad.add (i*3))=some (.string k.name)∧w.cell? (ad.add (i*3+1))=some (.bool k.text)∧w.cell? (ad.add (i*3+2))=some (.slice sa k.slots.length sc)∧vI w sa k.slots∧k.fits:=fun i hil=>by
    obtain⟨cs',hc,ht⟩:=hi i om
    obtain⟨_,_,hat⟩:=World.cells?_some hc
    obtain⟨s,ka,kc,rfl,hia,hfi⟩:=zgv n cs' _ ht
    exact si6
   exact sb7
theorem zjc {fuel:Nat}{cs:List Value}{x:DataW H×List MemPlace}(h:DataW.trod enc Tryz.prog w base spare held fuel 24 cs=some x):
 ∃(g:Gr) (ka:Option Addr) (kc:Nat),cs= [.slice ka g.kinds.length kc,.int .i64 g.root]∧kE w ka g.kinds∧g.fits:=by
 obtain⟨xs,n,_,_,hl,hlen,hf⟩:=DataW.trod_struct Tryz.underlying24 h
 have h3:Tryz.prog.cellsOf 24=2:=by kernel_rfl
 rw[h3] at hl
 match cs,hl with
 | [c0,c1],_=>
   have k1:Tryz.prog.cellsOf 3=1:=by kernel_rfl
   have k2:Tryz.prog.cellsOf 22=1:=by kernel_rfl
   match xs,hlen with
   | [y0,y1],_=>
     have t0:DataW.trod enc Tryz.prog w base spare held n 22 (([c0,c1].drop 0).take (Tryz.prog.cellsOf 22))=some y0:=hf 0 _ rfl
     have t1:DataW.trod enc Tryz.prog w base spare held n 3 (([c0,c1].drop 1).take (Tryz.prog.cellsOf 3))=some y1:=hf 1 _ rfl
     simp only[k1,k2,List.drop_zero,List.take_succ_cons,List.take_zero,List.drop_succ_cons] at t0 t1
     obtain⟨l,ka,kc,rfl,hk,hle,hfk⟩:=zdJ t0
     obtain⟨r,e1,_,_⟩:=DataW.trod_int Tryz.underlying3 t1
     simp only[List.cons.injEq,and_true] at e1
     subst e1
     exact⟨⟨l,r⟩,ka,kc,rfl,hk,hle,hfk⟩
theorem open_grV {v:Value}{d:DataW H}{ps:List MemPlace}{cs:Array Value}(hv:v= .agg cs)(h:DataW.Trod enc Tryz.prog w base spare held 24 v d ps):∃g,GrV w v g∧g.fits:=by
 subst hv
 obtain⟨fuel,hf⟩:=h
 obtain⟨g,ka,kc,e,hk,hfit⟩:=zjc hf
 refine⟨g,⟨ka,kc,?_,hk⟩,hfit⟩
 have e2:cs.toList= [.slice ka g.kinds.length kc,.int .i64 g.root]:=by simpa [Value.cells] using e
 rw[show cs=cs.toList.toArray by simp,e2]
end
end Go.Proofs.YtgkmmnihaiopaaaGreat
