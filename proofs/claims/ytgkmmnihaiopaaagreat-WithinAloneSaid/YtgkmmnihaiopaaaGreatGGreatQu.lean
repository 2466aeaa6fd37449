/-
  .
-/
import Derived.Test.YtgkmmnihaiopaaaGreatHRangeQu
import Derived.Test.YtgkmmnihaiopaaaGreatEFindWQu
import Derived.Test.YtgkmmnihaiopaaaGreatHSharedQu
import Derived.Test.YtgkmmnihaiopaaaGreatRows
import Derived.WalkKit
import Derived.WalkSpells
import Derived.WalkLawsBesides
import Derived.Lib.Hide
import Derived.Deep.RegionHeld3
import Derived.StillTailTactics
import Derived.Test.YtgkmmnihaiopaaaGreatJPgQu
set_option maxRecDepth 100000
set_option maxHeartbeats 40000000
set_option linter.unusedVariables false
set_option linter.unusedSimpArgs false
namespace Go.Proofs.YtgkmmnihaiopaaaGreat
open Go.RowKit Go.Shelf
attribute [local go_sem] Oper.semAt_some
structure QI (w' :World) (S:Nat→Prop) (t:Tr) (id:Int) (rv:Value) (L:List Fr):Prop where
 rows:qd w' rv L
 ok:∀y∈L,y.ok
 lies:∀y∈L,zu w' S y.f y.a∧foLen y.f≤y.cap
 chain:qO (zl t) L
 is:(L= []∧fpi id 0 (zl t)=none)∨(L≠[]∧fpi id 0 (zl t)=some (places L))
 few:L.length≤zg t.kids+2
 sl:∀y,S y→y<w'.heap.size
def zjv (w:World) (S:Nat→Prop) (t:Tr) (id:Int) (e:Ending) (w' :World):Prop:=∃rv L,e= .returned rv∧QI w' (fun y=>(S y∨w.heap.size≤y)∧y<w'.heap.size) t id rv L∧Below w.heap.size w w'∧∀g,rv.ownBlock=some g→w.heap.size≤g
theorem Yf {P:Program} {fn:Func} {p:Tmp} {tb:TypeId} (h:fn.results= #[.cell p tb]) (tmps:Array Value) (w:World) (g:Nat) (v:Value) (hp:tmps.getD p undef= .pointer (some ⟨g,0,none⟩)) (hc:w.cell? ⟨g,0,none⟩=some v) (hb:∀w,(isAgg tb).run P w= .ok false w):
 (results fn tmps).run P w= .ok v w:=by
 have hp' :tmps[p]?.getD undef= .pointer (some ⟨g,0,none⟩):=by simpa using hp
 have hl:(loadVar tb ⟨g,0,none⟩).run P w= .ok v w:=by simp[go_sem,hc,hb,Result.andThen]
 simp[results,h,hp',asAddr,hl]
def zdq (t:Tr) (ka:Option Addr) (n cap:Nat) (id:Int):List Obj:=
 [.cells #[.int .i64 t.id,.int .i64 t.kind,.string t.text,.slice ka n cap] 27,.cells #[.int .i64 id] 3,.cells #[.slice none 0 0] 151,.cells #[.int .i64 t.id,.int .i64 t.kind,.string t.text,.slice ka n cap] 27]
def zcd (w W:World) (t:Tr) (id:Int) (T:Nat→Prop) (L:List Fr) (V:World):Prop:=zff id L=fpi id 0 (zl t)∧Below w.heap.size w V∧(∀x,T x→W.heap.size≤x)∧W.heap.size≤V.heap.size∧∀x,x<W.heap.size→V.heap[x]? =W.heap[x]?
def ze4 (w W:World) (S:Nat→Prop) (t:Tr) (id:Int) (T:Nat→Prop) (V:World):Prop:=Below w.heap.size w V∧W.heap.size≤V.heap.size∧∃rv L,V.heap[w.heap.size+2]? =some (.cells #[rv] 151 (0,0))∧vo V (fun y=>S y∨y=W.heap.size+2) t T rv L∧L≠[]∧fpi id 0 (zl t)=some (places L)
theorem zcd.turn {w W V V' :World} {t:Tr} {id:Int} {T T' :Nat→Prop} {L:List Fr} (hw:w.heap.size≤W.heap.size) (h:zcd w W t id T L V) (ht:zk V V' (fun x=>T x∨(W.heap.size≤x∧z8 V x))) (hwd:jd T T' V V'):zcd w W t id T' L V':=by
 obtain⟨h1,h2,h3,h4,h5⟩:=h
 have hk:∀x,x<W.heap.size→V'.heap[x]? =V.heap[x]?:=fun x hx=>ht.block x om (fun h=>by
  rcases h with h | h
  · have:=h3 x h;omega
  · omega)
 exact⟨h1,⟨ht.os.trans h2.os,ht.tape.trans h2.tape,ht.output.trans h2.output,Nat.le_trans h2.size ht.size,fun x hx=>(hk x om).trans (h2.block x hx)⟩,fun x hx=>(hwd x hx).elim (h3 x) (fun h=>by omega),Nat.le_trans h4 ht.size,fun x hx=>(hk x hx).trans (h5 x hx)⟩
theorem ze4.put {w W V:World} {S:Nat→Prop} {t:Tr} {id:Int} {T:Nat→Prop} (hw:w.heap.size+3≤W.heap.size) (hS:∀y,S y→y<W.heap.size) (o o' :Loop) (h:ze4 w W S t id T V) (hT:∀x,T x→W.heap.size+2≤x):ze4 w W S t id T (V.putObj (W.heap.size+1) (.loop o')):=by
 obtain⟨h1,h2,rv,L,h3,h4,h5,h6⟩:=h
 have hs:(V.putObj (W.heap.size+1) (.loop o')).heap.size=V.heap.size:=by simp[World.putObj]
 have hk:∀x,x≠W.heap.size+1→(V.putObj (W.heap.size+1) (.loop o')).heap[x]? =V.heap[x]?:=fun x hx=>WphQ hx
 refine⟨⟨h1.os,h1.tape,h1.output,by have:=h1.size;omega,fun x hx=>(hk x om).trans (h1.block x hx)⟩,by omega,rv,L,(hk _ om).trans h3,h4.kept om (fun y hy=>hk y (by have:=hT y hy;omega)) (fun y hy=>hk y (by
  rcases hy with hy | hy
  · have:=hS y hy;omega
  · omega)),h5,h6⟩
theorem zi9 {w W V V1 V3:World} {S T:Nat→Prop} {t:Tr} {id:Int} {rv:Value} {x:Fr} {r:List Fr} {u:Tr} {aa:Act} {o:Obj} (hwW:w.heap.size≤W.heap.size) (hf:vo V (fun y=>S y∨y=W.heap.size+2) t T rv (x::r)) (hu:zB x.f x.p.toNat=some u) (hI:zcd w W t id T (x::r) V) (hne:¬u.id=id) (hT:∀y,T y→W.heap.size+2≤y) (ev:V1=V.putObj (W.heap.size+1) o) (hb:Below V1.heap.size V1 V3):
 zgm W.heap.size T (fun y=>S y∨y=W.heap.size+2) (zcd w W t id) (fun c T V=>c= .ret∧ze4 w W S t id T V) x r u V1 .normal aa V3:=by
 have hs1:V1.heap.size=V.heap.size:=by rw[ev];simp[World.putObj]
 have hs3:=hb.size
 obtain⟨h1,h2,h3,h4,h5⟩:=hI
 have hk:∀y,y<V.heap.size→y≠W.heap.size+1→V3.heap[y]? =V.heap[y]?:=fun y hy hn=>by rw[hb.block y om,ev,WphQ hn]
 have hpos:∀y∈x::r,0≤y.p:=fun y hy=>(hf.ok y hy).1
 refine⟨⟨hs3,fun y o hy ho _=>(hb.block y (lohQ ho)).trans ho⟩,⟨hs3,fun y hy=>hb.block y (by have:=(hf.apart y hy).1;omega)⟩,fun y hy=>hb.block y (by have:=hf.sl y hy;omega),.inl ⟨rfl,fun a c=>⟨?_,⟨hb.os.trans (by rw[ev];exact h2.os),hb.tape.trans (by rw[ev];exact h2.tape),hb.output.trans (by rw[ev];exact h2.output),by have:=h2.size;omega,fun y hy=>(hk y (by have:=h2.size;omega) om).trans (h2.block y hy)⟩,h3,by omega,fun y hy=>(hk y om om).trans (h5 y hy)⟩⟩⟩
 rw [Qy id _ (fun y hy=>by
  rcases List.mem_cons.1 hy with rfl | hy
  · simp
  · have:=hpos y hy;omega),←zi1 (hf.ok x sp1) hu hne]
 exact h1
theorem zf5 {w W V V1 V3:World} {S T:Nat→Prop} {t:Tr} {id:Int} {rv:Value} {x:Fr} {r:List Fr} {u:Tr} {aa:Act} {o:Obj} (hwW:w.heap.size+3≤W.heap.size) (hf:vo V (fun y=>S y∨y=W.heap.size+2) t T rv (x::r)) (hS:∀y,S y→y<w.heap.size) (hu:zB x.f x.p.toNat=some u) (hI:zcd w W t id T (x::r) V) (heq:u.id=id) (hT:∀y,T y→W.heap.size+2≤y) (ev:V1=V.putObj (W.heap.size+1) o) (hb:Below V1.heap.size V1 V3) {v0:Value} (hc:W.heap[w.heap.size+2]? =some (.cells #[v0] 151 (0,0))):
 zgm W.heap.size T (fun y=>S y∨y=W.heap.size+2) (zcd w W t id) (fun c T V=>c= .ret∧ze4 w W S t id T V) x r u V1 .ret aa (V3.setCell ⟨w.heap.size+1+1,0,none⟩ rv):=by
 have hs1:V1.heap.size=V.heap.size:=by rw[ev];simp[World.putObj]
 have hs3:=hb.size
 obtain⟨h1,h2,h3,h4,h5⟩:=hI
 have hb2:∀y,y≠w.heap.size+2→(V3.setCell ⟨w.heap.size+1+1,0,none⟩ rv).heap[y]? =V3.heap[y]?:=fun y hy=>BhsQ _ _ _ _ hy
 have hk:∀y,y<V.heap.size→y≠W.heap.size+1→V3.heap[y]? =V.heap[y]?:=fun y hy hn=>by rw[hb.block y om,ev,WphQ hn]
 have hsz:(V3.setCell ⟨w.heap.size+1+1,0,none⟩ rv).heap.size=V3.heap.size:=by simp[World.setCell]
 have hT1:∀y,T y→y≠w.heap.size+2∧y≠W.heap.size+1∧y<V.heap.size:=fun y hy=>by have:=hT y hy;have:=(hf.apart y hy).1;omega
 have hS1:∀y,(S y∨y=W.heap.size+2)→y≠w.heap.size+2∧y≠W.heap.size+1∧y<V.heap.size:=fun y hy=>by
  have:=hf.sl y hy
  rcases hy with hy | hy
  · have:=hS y hy;omega
  · omega
 have hc3:V3.heap[w.heap.size+2]? =some (.cells #[v0] 151 (0,0)):=by rw[hk _ om om,h5 _ om];exact hc
 refine⟨⟨by omega,fun y o hy ho _=>(hb2 y om).trans ((hb.block y (lohQ ho)).trans ho)⟩,⟨by omega,fun y hy=>(hb2 y (hT1 y hy).1).trans (hb.block y (by have:=(hT1 y hy).2.2;omega))⟩,fun y hy=>(hb2 y (hS1 y hy).1).trans (hb.block y (by have:=(hS1 y hy).2.2;omega)),.inr (.inl ⟨rfl,rfl,⟨?_,?_,?_,by have:=h2.size;omega,fun y hy=>(hb2 y om).trans ((hk y (by have:=h2.size;omega) om).trans (h2.block y hy))⟩,by omega,rv,x::r,?_,hf.kept om (fun y hy=>(hb2 y (hT1 y hy).1).trans (hk y (hT1 y hy).2.2 (hT1 y hy).2.1)) (fun y hy=>(hb2 y (hS1 y hy).1).trans (hk y (hS1 y hy).2.2 (hS1 y hy).2.1)),by simp,?_⟩)⟩
 · show V3.os=_;rw[hb.os,ev];exact h2.os
 · show V3.tape=_;rw[hb.tape,ev];exact h2.tape
 · show V3.output=_;rw[hb.output,ev];exact h2.output
 · have:=hssQ V3 (w.heap.size+2) 0 _ _ rv hc3
   rw[show w.heap.size+1+1=w.heap.size+2 from rfl,this];simp
 · rw[←h1];exact zgP (hf.ok x sp1) hu heq
theorem zeQ (w:World) (S:Nat→Prop) (nv:Value) (t:Tr) (id:Int) (hS:∀x,S x→x<w.heap.size) (ht:zJ w S nv t) (hsz:zg t.kids≤400000):Calls Tryz.prog 109 #[nv,.int .i64 id] w (zjv w S t id):=by
 obtain⟨ka,cap,rfl,hcap,hk⟩:=ht
 obtain⟨n,hn⟩:∃n,n=foLen t.kids:=⟨_,rfl⟩
 rw[←hn]
 have h0:=zi (zdq t ka n cap id) w
 have hb0:=zm (zdq t ka n cap id) w
 have hs0:=zC (zdq t ka n cap id) w
 have HA:=hH (aN hb0 (aN (h0 1 _ rfl) (aN (h0 2 _ rfl) (aN (h0 3 _ rfl) hs0))))
 have H:=hH (aN hS (aN hcap (aN hk (aN hsz hn))))
 clear hS hcap hk hsz hn h0 hb0 hs0
 refine (callsIn_wide (n:=8)).1 ?_
 refine callsIn_of_wp_marks Tryz.func109 rfl trivial ?_ rfl
 simp only[Tryz.ntmps109,List.size_toArray,List.length_cons,List.length_nil,Nat.reduceAdd,Nat.reduceSub,Array.replicate_succ,Array.replicate_zero,List.push_toArray,List.append_toArray,List.nil_append,List.cons_append]
 gi_wp2_with (refine⟨trivial,?_⟩;gi_at_call 120;refine (callsIn_wide.2 (ziz _ _ _ _ _ _ _)).mono ?_;rintro e w' ⟨rfl,rfl⟩)
 change Code.wpIn _ _ _ _ _ _ (zt w (zdq t ka n cap id))
 generalize hW:zt w (zdq t ka n cap id)=W at HA ⊢
 clear hW
 obtain⟨k0,k1,k2,k3,k4⟩:=HA.out
 have k4' :W.heap.size=w.heap.size+4:=k4
 have hSl:=H.out.1
 have hSW:∀y,S y→y<W.heap.size:=fun y hy=>by have:=hSl y hy;omega
 have hkW:zu W S t.kids ka:=H.out.2.2.1.kept fun y hy=>⟨hy,k0.block y (hSl y hy)⟩
 have k3' :W.heap[w.heap.size+3]? =some (.cells #[.int .i64 t.id,.int .i64 t.kind,.string t.text,.slice ka (foLen t.kids) cap] 27 (0,0)):=by rw[←H.out.2.2.2.2];exact k3
 refine zea om rfl t ka cap S hSW hkW H.out.2.1 H.out.2.2.2.1 k3' rfl
  (zcd w W t id) (fun c T V=>c= .ret∧ze4 w W S t id T V) (fun h ht hwd=>h.turn om ht hwd) (fun o o' h hT ho=>⟨h.1,h.2.put om hSW o o' hT⟩)
  ⟨?_,k0,fun _ h=>h.elim,Nat.le_refl _,fun _ _=>rfl⟩ ?round ?done ?stop
 · rw[Qy id _ (fun y hy=>by rw[List.mem_singleton] at hy;subst hy;simp),zav]
   show (match fpi id 0 (zq 0 (zl t)) with | some q=>some (places []++q) | none=>none)=_
   rw[qC]
   cases fpi id 0 (zl t)<;>rfl
 case done=>
  rintro D T V hD hI hK
  have hd:=(hI.2.2.2.2 (w.heap.size+2) om).trans k2
  have c0:V.cell? ⟨w.heap.size+1+1,0,none⟩=some (.slice none 0 0):=by rw[corQ _ _ 0 _ _ _ hd];rfl
  have cf:V.frozen? ⟨w.heap.size+1+1,0,none⟩=false:=forQ _ _ 0 _ _ hd
  have HE:=hH (aN hI (aN hd (aN hD hK)))
  clear hI hd hK HA H k0 k1 k2 k3 k3' k4 hSW hkW
  gi_wp2
  obtain⟨hI,hd,hD,hK⟩:=HE.out
  have hne:D≠w.heap.size+1+1:=by omega
  refine⟨by simp,.inl ⟨_,_,rfl,run_takeDeferred ((BhsQ V ⟨w.heap.size+1+1,0,none⟩ _ _ hne).trans hK),?_⟩⟩
  have hg:((V.setCell ⟨w.heap.size+1+1,0,none⟩ (.slice none 0 0)).putObj D (.deferred none)).cell? ⟨w.heap.size+1+1,0,none⟩=some (.slice none 0 0):=by
   rw[World.cell?_of_block (w:=V.setCell ⟨w.heap.size+1+1,0,none⟩ (.slice none 0 0)) (WphQ (Ne.symm hne))]
   exact World.cell?_setCell_same' V _ _ (by rw[c0];rfl)
  refine⟨_,Yf rfl _ _ (w.heap.size+1+1) _ rfl hg (fun _=>by kernel_rfl),_,[],rfl,⟨World.ownsRow_nil _ _ _ _,fun _ h=>(by cases h),fun _ h=>(by cases h),trivial,Or.inl ⟨rfl,hI.1.symm⟩,by simp,fun y hy=>hy.2⟩,⟨hI.2.1.os,hI.2.1.tape,hI.2.1.output,by have:=hI.2.1.size;simp[World.putObj,World.setCell];exact this,fun y hy=>?_⟩,fun g hg=>(by cases hg)⟩
  rw[WphQ om,BhsQ _ _ _ _ (by simp only;omega)]
  exact hI.2.1.block y hy
 case stop=>
  rintro D c T V hD hT ⟨rfl,h1,h2,rv,L,h3,h4,h5,h6⟩ hK
  have c0:(V.putObj D (.deferred none)).cell? ⟨w.heap.size+1+1,0,none⟩=some rv:=by
   rw[World.cell?_of_block (WphQ (by simp only;omega)),corQ _ _ 0 _ _ _ h3];rfl
  have hend:zjv w S t id (.returned rv) (V.putObj D (.deferred none)):=by
   have hs:(V.putObj D (.deferred none)).heap.size=V.heap.size:=by simp[World.putObj]
   have hf:=h4.kept (w':=V.putObj D (.deferred none)) om (fun y hy=>WphQ (by have:=hT y hy;omega)) (fun y hy=>WphQ (by
    rcases hy with hy | hy
    · have:=hSl y hy;omega
    · omega))
   refine⟨rv,L,rfl,⟨hf.rows,hf.ok,fun y hy=>⟨(hf.lies y hy).1.kept fun z hz=>⟨⟨hz.imp (fun h=>h) (fun e=>by omega),hf.sl z hz⟩,rfl⟩,(hf.lies y hy).2⟩,hf.chain,Or.inr ⟨h5,h6⟩,by have:=hf.few;omega,fun y hy=>hy.2⟩,⟨h1.os,h1.tape,h1.output,by have:=h1.size;omega,fun y hy=>?_⟩,fun g hg=>by have:=hT g (hf.own g hg);omega⟩
   rw[WphQ om]
   exact h1.block y hy
  have HE:=hH (aN c0 hend)
  clear c0 hend h1 h2 h3 h4 h5 h6 HA H k0 k1 k2 k3 k3' k4 hSl hSW hkW
  gi_wp2
  refine⟨by simp,.inl ⟨_,_,rfl,run_takeDeferred hK,?_⟩⟩
  exact⟨_,Yf rfl _ _ (w.heap.size+1+1) _ rfl HE.out.1 (fun _=>by kernel_rfl),HE.out.2⟩
 case round=>
  rintro l hl T rv x r u V hT hV hf hu hI K hK
  obtain⟨g,rc,k,p,u',b,off,kb,kc,rfl,hk',hkN,hkc,hTg,c0,c1,hxp,hpl,hpN,hu',hxa,hSb,d0,d3,hkk,hku⟩:=hf.here
  rw[hu] at hu'
  cases hu'
  obtain⟨q,hq⟩:∃q,q=foLen x.f:=⟨_,rfl⟩
  obtain⟨uid,huid⟩:∃uid,uid=u.id:=⟨_,rfl⟩
  rw[←hq] at c0 hpl hpN
  rw[←huid] at d0
  rw[hxa] at c0
  have HK:=hH hK
  have hsz:=H.out.2.2.2.1
  have HR:=hH (aN hf (aN hu (aN hI (aN hT (aN hV (aN huid hl))))))
  have HC:=hH (aN c0 (aN c1 d0))
  have hnode:=fun X=>zcT X b off q x.cap p hpl om
  have HN:=hH hnode
  have hk00:(0:Int)≤(k:Int):=by omega
  have hkl:(k:Int)<(k:Int)+1:=by omega
  have hkb:k≤1000000:=by omega
  have hpb:p≤1000000:=by omega
  have hkw:IntKind.i64.wrap (k:Int)=(k:Int):=IntWalk.i64_in _ om
  have hgl:=World.block_lt_of_cell? _ _ c0
  have hbl:=World.block_lt_of_cell? _ _ d0
  clear hf hu hI hT hV hK hq huid c0 c1 d0 d3 hkk hku hnode hxa hl hxp hk'
  gi_wp2
  refine HK.out _ fun V1 hV1=>?_
  clear HK
  obtain⟨o',ev,o,ho,hoc⟩:=hV1
  have hl:=HR.out.2.2.2.2.2.2
  have hV1s:∀y,y≠W.heap.size+1→V1.heap[y]? =V.heap[y]?:=fun y hy=>by rw[ev,hl];exact WphQ hy
  have hgT:g≠W.heap.size+1:=by have:=HR.out.2.2.2.1 g hTg;omega
  have hbT:b≠W.heap.size+1:=by
   rcases hSb with hb | hb
   · have:=hSW b hb;omega
   · omega
  have e0:V1.cell? ⟨g,k*2,none⟩=some (.slice (some ⟨b,off,none⟩) q x.cap):=(World.cell?_of_block (hV1s g hgT)).trans HC.out.1
  have e1:V1.cell? ⟨g,k*2+1,none⟩=some (.int .i64 (p:Int)):=(World.cell?_of_block (hV1s g hgT)).trans HC.out.2.1
  have e2:V1.cell? ⟨b,off+p*4,none⟩=some (.int .i64 uid):=(World.cell?_of_block (hV1s b hbT)).trans HC.out.2.2
  have i0:V1.cell? ⟨w.heap.size+1,0,none⟩=some (.int .i64 id):=by rw[corQ _ _ 0 _ _ _ ((hV1s _ om).trans ((HR.out.2.2.1.2.2.2.2 _ om).trans k1))];rfl
  obtain⟨SX,hSX⟩:∃SX:World→Prop,SX=fun X=>X.cell? ⟨g,k*2,none⟩=some (.slice (some ⟨b,off,none⟩) q x.cap)∧X.cell? ⟨g,k*2+1,none⟩=some (.int .i64 (p:Int))∧X.cell? ⟨b,off+p*4,none⟩=some (.int .i64 uid)∧X.cell? ⟨w.heap.size+1,0,none⟩=some (.int .i64 id):=⟨_,rfl⟩
  have HSx:∀X,SX X→X.cell? ⟨g,k*2,none⟩=some (.slice (some ⟨b,off,none⟩) q x.cap)∧X.cell? ⟨g,k*2+1,none⟩=some (.int .i64 (p:Int))∧X.cell? ⟨b,off+p*4,none⟩=some (.int .i64 uid)∧X.cell? ⟨w.heap.size+1,0,none⟩=some (.int .i64 id):=fun X h=>by rw[hSX] at h;exact h
  have hS0:SX V1.drew:=by rw[hSX];exact⟨e0,e1,e2,i0⟩
  have HSB:Hid (∀X Y,SX X→Below X.heap.size X Y→SX Y):=hH fun X Y h hb=>by
   rw[hSX] at h ⊢
   exact⟨(hb.cell (World.block_lt_of_cell? _ _ h.1)).trans h.1,(hb.cell (World.block_lt_of_cell? _ _ h.2.1)).trans h.2.1,(hb.cell (World.block_lt_of_cell? _ _ h.2.2.1)).trans h.2.2.1,(hb.cell (World.block_lt_of_cell? _ _ h.2.2.2)).trans h.2.2.2⟩
  have HV1:=hH (aN ev hl)
  have HZ:=hH (aN k0 (aN k2 (aN k4' (aN hSl hSW))))
  clear hSX e0 e1 e2 i0 HC ev ho hoc hl hV1s hgT hbT k0 k1 k2 k3 k3' k4 k4' hSl hSW hkW HA
  gi_wp2
  refine jq (S:=SX) kr1 (Ji kr1) ?_
  have hHeld:=hS0
  refine zL1 (i:=0) (.slice (some ⟨g,0,none⟩) (k+1) rc) rfl ?_ ?_
  · clear hHeld;intro X hSw;obtain⟨s0,s1,s2,s3⟩:=HSx X hSw;clear hSw;go_simp
  simp only[Act.put,pg]
  refine zL1 (i:=1) (.slice (some ⟨g,0,none⟩) (k+1) rc) rfl ?_ ?_
  · clear hHeld;intro X hSw;obtain⟨s0,s1,s2,s3⟩:=HSx X hSw;clear hSw;go_simp
  simp only[Act.put,pg]
  refine zL1 (i:=2) (.int .i64 ((k:Int)+1)) rfl ?_ ?_
  · clear hHeld;intro X hSw;obtain⟨s0,s1,s2,s3⟩:=HSx X hSw;clear hSw;go_simp
  simp only[Act.put,pg]
  refine zL1 (i:=3) (.int .i64 (k:Int)) rfl ?_ ?_
  · clear hHeld;intro X hSw;obtain⟨s0,s1,s2,s3⟩:=HSx X hSw;clear hSw;go_simp
  simp only[Act.put,pg]
  refine zL1 (i:=4) (.pointer (some ⟨g,k*2,none⟩)) rfl ?_ ?_
  · clear hHeld;intro X hSw;obtain⟨s0,s1,s2,s3⟩:=HSx X hSw;clear hSw;go_simp
  simp only[Act.put,pg]
  refine zL1 (i:=5) (.agg #[.slice (some ⟨b,off,none⟩) q x.cap,.int .i64 (p:Int)]) rfl ?_ ?_
  · clear hHeld;intro X hSw;obtain⟨s0,s1,s2,s3⟩:=HSx X hSw;clear hSw;go_simp
  simp only[Act.put,pg]
  refine zL1 (i:=10) (.int .i64 id) rfl ?_ ?_
  · clear hHeld;intro X hSw;obtain⟨s0,s1,s2,s3⟩:=HSx X hSw;clear hSw;go_simp
  simp only[Act.put,pg]
  refine zM (i:=6) (o:=_) kr1 rfl ?_
  intro K3 hK3
  rw[if_pos (by rfl)]
  simp only[pg3]
  have HK3:=hH hK3
  have HS0:=hH hS0
  clear hK3 hHeld hS0
  gi_wp2_with (refine⟨trivial,?_⟩;gi_at_call 121;refine (callsIn_wide.2 (HN.out _)).mono ?_;rintro e V3 ⟨rfl,hb3⟩;have HV3:=hH hb3;clear hb3)
  have hHeld:=HSB.out _ V3 HS0.out HV3.out
  refine HK3.out _ _ hHeld ?_
  clear HK3 HS0
  refine zL1 (i:=7) (.pointer (some ⟨b,off+p*4,none⟩)) rfl ?_ ?_
  · clear hHeld;intro X hSw;obtain⟨s0,s1,s2,s3⟩:=HSx X hSw;clear hSw;go_simp
  simp only[Act.put,pg]
  refine zL1 (i:=8) (.pointer (some ⟨b,off+p*4,none⟩)) rfl ?_ ?_
  · clear hHeld;intro X hSw;obtain⟨s0,s1,s2,s3⟩:=HSx X hSw;clear hSw;go_simp
  simp only[Act.put,pg]
  refine zL1 (i:=9) (.int .i64 uid) rfl ?_ ?_
  · clear hHeld;intro X hSw;obtain⟨s0,s1,s2,s3⟩:=HSx X hSw;clear hSw;go_simp
  simp only[Act.put,pg]
  refine zL1 (i:=11) (.bool (uid == id)) rfl ?_ ?_
  · clear hHeld;intro X hSw;obtain⟨s0,s1,s2,s3⟩:=HSx X hSw;clear hSw;go_simp
  simp only[Act.put,pg]
  refine yx kr1 ?_ _
  clear hHeld HSx HSB
  have hb3:Below V1.heap.size V1 V3:=⟨HV3.out.os,HV3.out.tape,HV3.out.output,HV3.out.size,HV3.out.block⟩
  by_cases heq:uid=id
  · have hbq:(uid == id)=true:=by simpa using heq
    rw[hbq]
    have hz:V3.heap[w.heap.size+1+1]? =some (.cells #[.slice none 0 0] 151 (0,0)):=by
     have h9:=HR.out.2.2.1
     rw[hb3.block _ (by rw[HV1.out.1];have:=HZ.out.2.2.1;have:=h9.2.2.2.1;simp[World.putObj];omega),HV1.out.1,HV1.out.2,WphQ (by have:=HZ.out.2.2.1;omega),h9.2.2.2.2 _ (by have:=HZ.out.2.2.1;omega)]
     exact HZ.out.2.1
    have z0:V3.cell? ⟨w.heap.size+1+1,0,none⟩=some (.slice none 0 0):=by rw[corQ _ _ 0 _ _ _ hz];rfl
    have zf:V3.frozen? ⟨w.heap.size+1+1,0,none⟩=false:=forQ _ _ 0 _ _ hz
    have HE:=hH (fun aa=>zf5 (aa:=aa) (by have:=HZ.out.2.2.1;omega) HR.out.1 HZ.out.2.2.2.1 HR.out.2.1 HR.out.2.2.1 (by rw[←HR.out.2.2.2.2.2.1];exact heq) HR.out.2.2.2.1 (by rw[←HV1.out.2];exact HV1.out.1) hb3 HZ.out.2.1)
    clear hz hb3 heq hbq
    gi_wp2
    exact HE.out _
  · have hbq:(uid == id)=false:=by simpa using heq
    rw[hbq]
    have HE:=hH (fun aa=>zi9 (S:=S) (aa:=aa) (by have:=HZ.out.2.2.1;omega) HR.out.1 HR.out.2.1 HR.out.2.2.1 (by rw[←HR.out.2.2.2.2.2.1];exact heq) HR.out.2.2.2.1 (by rw[←HV1.out.2];exact HV1.out.1) hb3)
    clear hb3 heq hbq
    gi_wp2
    exact HE.out _
end Go.Proofs.YtgkmmnihaiopaaaGreat
namespace Go.Proofs.YtgkmmnihaiopaaaGreat
open Go.RowKit Go.Shelf
theorem zg4 (id:Int) (t:Tr):fpi id 0 (zl t)=(zx id t).map (fun p=>0::p):=by
 simp only[zl,fpi,zx]
 by_cases h:t.id=id
 · rw[if_pos h,if_pos h];rfl
 · rw[if_neg h,if_neg h]
   cases fpi id 0 t.kids<;>rfl
theorem JI {root:Fo}:∀(j:Nat) (L:List Fr),qO root L→qO root (L.drop j)
 | 0,_,h=>h
 | j+1,[],h=>by simpa using h
 | j+1,x::L,h=>JI j L h.tail
theorem vV (L:List Fr):(places L).length=L.length:=by simp[places]
theorem zcZ (L:List Fr) (k:Nat) (hk:k<L.length):places (L.drop (L.length - 1 - k))=(places L).take (k+1):=by
 rw[places,places,←List.map_take,List.take_reverse]
 congr 3;omega
theorem QI.at {w' :World} {S:Nat→Prop} {t:Tr} {id:Int} {rv:Value} {L:List Fr} (h:QI w' S t id rv L) {k:Nat} (hk:k<L.length):∃(g n cap b off q c pl:Nat) (u:Tr),rv= .slice (some ⟨g,0,none⟩) n cap∧n=L.length∧n≤cap∧w'.cell? ⟨g,k*2,none⟩=some (.slice (some ⟨b,off,none⟩) q c)∧w'.cell? ⟨g,k*2+1,none⟩=some (.int .i64 (pl:Int))∧pl<q∧q≤zg t.kids+1∧
 w'.cell? ⟨b,off+pl*4,none⟩=some (.int .i64 u.id)∧(places L)[k]? =some pl∧atT t (((places L).drop 1).take k)=some u:=by
 obtain⟨x,r,hxr⟩:∃x r,L.drop (L.length - 1 - k)=x::r:=by
  cases hd:L.drop (L.length - 1 - k) with
  | nil=>have:=congrArg List.length hd;rw[List.length_drop,List.length_nil] at this;omega
  | cons x r=>exact⟨x,r,rfl⟩
 have hmem:∀y∈x::r,y∈L:=fun y hy=>by rw[←hxr] at hy;exact List.mem_of_mem_drop hy
 have hxk:L.reverse[k]? =some x:=by
  rw[List.getElem?_reverse hk]
  have h0:(L.drop (L.length - 1 - k))[0]? =some x:=by rw[hxr];rfl
  rwa [List.getElem?_drop,Nat.add_zero] at h0
 obtain⟨a,cap,rfl⟩:=zw h.rows
 have hcap:L.length≤cap:=by
  rcases h.rows.2 with ⟨hv,h0⟩ | ⟨_,_,_,hv,_,_,h3,_⟩
  · omega
  · cases hv;exact h3
 obtain⟨g,rfl,hn,c0,c1,_⟩:=qd.at h.rows hxk
 have hch:=JI (L.length - 1 - k) L h.chain
 rw[hxr] at hch
 obtain⟨p,u,hp,hat,hu⟩:=zcj (t:=t) (x::r) hch (fun y hy=>h.ok y (hmem y hy)) x r rfl
 have hok:=h.ok x (hmem x sp1)
 obtain⟨b0,o0,key,l,q,hd,b,off,ka,kc,ha,hSb,d0,_⟩:=(h.lies x (hmem x sp1)).1.at x.p.toNat (by have:=hok.1;have:=hok.2;omega)
 have huk:u=⟨key.1,key.2.1,key.2.2,l⟩:=by rw[zB,hd] at hu;cases hu;rfl
 have hpx:x.p=(x.p.toNat:Int):=by have:=hok.1;omega
 rw[hpx] at c1
 rw[ha] at c0
 have hl:=kX _ h.chain x (hmem x sp1)
 rw[zL] at hl
 have hpl:places L=(places L).take (k+1)++(places L).drop (k+1):=(List.take_append_drop _ _).symm
 have hpk:=zcZ L k hk
 rw[hxr,hp] at hpk
 refine⟨g,L.length,cap,b,off,foLen x.f,x.cap,x.p.toNat,u,rfl,rfl,hcap,c0,c1,by have:=hok.2;have:=hok.1;omega,by omega,by rw[huk];exact d0,?_,?_⟩
 · rw[places,List.getElem?_map,hxk];rfl
 · have e:((places L).drop 1).take k=p:=by
    have h1:(places L).drop 1=((places L).take (k+1)).drop 1++(places L).drop (k+1):=by
     have h2:=List.drop_take (i:=1) (j:=k+1) (l:=places L)
     rw[h2,Nat.add_sub_cancel]
     have h3:=List.take_append_drop k ((places L).drop 1)
     rw[List.drop_drop] at h3
     rw[Nat.add_comm k 1]
     exact h3.symm
    rw[h1,←hpk]
    have hlen:p.length=k:=by
     have:=congrArg List.length hpk
     rw[List.length_take,vV,List.length_cons] at this;omega
    simp[hlen]
   rw[e];exact hat
theorem QI.path {w' :World} {S:Nat→Prop} {t:Tr} {id:Int} {rv:Value} {L:List Fr} (h:QI w' S t id rv L):(L= []∧zx id t=none)∨(∃p,zx id t=some p∧places L=0::p∧L.length=p.length+1):=by
 have h1:=h.is
 rw[zg4] at h1
 rcases h1 with ⟨h1,h2⟩ | ⟨h1,h2⟩
 · left
   refine⟨h1,?_⟩
   cases hp:zx id t with
   | none=>rfl
   | some p=>rw[hp] at h2;cases h2
 · right
   cases hp:zx id t with
   | none=>rw[hp] at h2;cases h2
   | some p=>
     rw[hp] at h2
     have h3:=Option.some.inj h2
     exact⟨p,rfl,h3.symm,by rw[←vV,←h3];rfl⟩
theorem QI.kept {w w' :World} {S:Nat→Prop} {t:Tr} {id:Int} {rv:Value} {L:List Fr} (h:QI w S t id rv L) (hb:Below w.heap.size w w'):QI w' S t id rv L:=
 ⟨h.rows.kept fun g hg=>hb.block g (zo h.rows hg).2,h.ok,fun y hy=>⟨(h.lies y hy).1.kept fun k hk=>⟨hk,hb.block k (h.sl k hk)⟩,(h.lies y hy).2⟩,h.chain,h.is,h.few,fun y hy=>nL (h.sl y hy) hb.size⟩
def vk (a b:Int) (t:Tr):Bool:=match zx a t,zx b t with
 | some p,some q=>decide (lcp p q=p.length)
 | _,_=>false
theorem zh (w:World) (o:Obj):Below w.heap.size w (w.alloc o):=(BrQ _ _).alloc (Nat.le_refl _) _
theorem zhd (p q:List Nat):lcp (0::p) (0::q)=lcp p q+1:=by simp[lcp]
theorem zif (l:List Nat):lcp ([]:List Nat) l=0:=by simp[lcp]
theorem zhg (l:List Nat):lcp l ([]:List Nat)=0:=by cases l<;>simp[lcp]
theorem zaq:places []= []:=rfl
theorem zer (w:World) (S:Nat→Prop) (nv:Value) (t:Tr) (a b:Int) (hS:∀x,S x→x<w.heap.size) (ht:zJ w S nv t) (hsz:zg t.kids≤400000):Calls Tryz.prog 97 #[nv,.int .i64 a,.int .i64 b] w fun e w'=>e= .returned (.bool (vk a b t))∧Below w.heap.size w w':=by
 obtain⟨ka,tc,rfl,hcap,hk⟩:=ht
 obtain⟨B,hB⟩:∃B,B=w.alloc (.cells #[.int .i64 t.id,.int .i64 t.kind,.string t.text,.slice ka (foLen t.kids) tc] 27):=⟨_,rfl⟩
 have hb:=zh w (.cells #[.int .i64 t.id,.int .i64 t.kind,.string t.text,.slice ka (foLen t.kids) tc] 27)
 have hbx:=hanQ w (.cells #[.int .i64 t.id,.int .i64 t.kind,.string t.text,.slice ka (foLen t.kids) tc] 27)
 rw[←hB] at hb hbx
 have hway:=fun (i:Int) (X:World) (hX:Below B.heap.size B X)=>zeQ X S (.agg #[.int .i64 t.id,.int .i64 t.kind,.string t.text,.slice ka (foLen t.kids) tc]) t i (fun x hx=>nL (hS x hx) (Nat.le_trans hb.size hX.size)) ⟨ka,tc,rfl,hcap,hk.below (hb.trans (hX.mono hb.size)) hS⟩ hsz
 obtain⟨n,hn⟩:∃n,n=foLen t.kids:=⟨_,rfl⟩
 rw[←hn] at hB hbx
 simp only[←hn] at hway
 have HC:=hH (aN hway (aN hb (aN hB hbx)))
 rw[←hn]
 obtain⟨pr,hpr⟩:∃pr,pr=vk a b t:=⟨_,rfl⟩
 have HP:=hH hpr
 have hpe:(.bool (vk a b t):Value)=(.bool (pr)):=by rw[hpr]
 rw[hpe]
 clear hway hb hk hcap hS hn hpr hpe hB hbx
 go_enter Tryz.func97,Tryz.ntmps97
 go_wp2_with fail
 rw[←HC.out.2.2.1]
 refine (HC.out.1 a B (BrQ _ _)).mono ?_
 rintro e W ⟨rv,L,rfl,hw,hb,_⟩
 have hbxW:=(hb.block _ (lohQ HC.out.2.2.2)).trans HC.out.2.2.2
 have n0:W.cell? ⟨w.heap.size,0,none⟩=some (.int .i64 t.id):=by rw[corQ _ _ 0 _ _ _ hbxW];rfl
 have n1:W.cell? ⟨w.heap.size,1,none⟩=some (.int .i64 t.kind):=by rw[corQ _ _ 1 _ _ _ hbxW];rfl
 have n2:W.cell? ⟨w.heap.size,2,none⟩=some (.string t.text):=by rw[corQ _ _ 2 _ _ _ hbxW];rfl
 have n3:W.cell? ⟨w.heap.size,3,none⟩=some (.slice ka n tc):=by rw[corQ _ _ 3 _ _ _ hbxW];rfl
 have HW:=hH (aN hw hb)
 clear hw hb hbxW
 go_wp2_with fail
 refine (HC.out.1 b W HW.out.2).mono ?_
 rintro e W2 ⟨rv2,L2,rfl,hw2,hb2,_⟩
 have hw:=HW.out.1.kept hb2
 have hb9:Below w.heap.size w W2:=(HC.out.2.1.trans (HW.out.2.mono HC.out.2.1.size)).trans (hb2.mono (Nat.le_trans HC.out.2.1.size HW.out.2.size))
 have hsh:=zel W2 rv rv2 L L2 hw.rows hw2.rows (by have:=hw.few;omega) (by have:=hw2.few;omega)
 rw[zd0 L L2 hw.ok hw2.ok] at hsh
 have H2:=hH (aN hw (aN hw2 hb9))
 have HSH:=hH hsh
 clear hw hw2 hb2 hb9 hsh n0 n1 n2 n3
 go_wp2_with fail
 refine HSH.out.mono ?_
 rintro e W3 ⟨rfl,hb3⟩
 have hw3:=H2.out.1.kept hb3
 have hbz:Below w.heap.size w W3:=H2.out.2.2.trans (hb3.mono H2.out.2.2.size)
 obtain⟨ra,rc,rfl⟩:=zw hw3.rows
 obtain⟨m,hm⟩:∃m,m=lcp (places L) (places L2):=⟨_,rfl⟩
 obtain⟨len,hlen⟩:∃len,len=L.length:=⟨_,rfl⟩
 have hml:=zhf (places L) (places L2)
 rw[vV,vV,←hm,←hlen] at hml
 have hfew:=hw3.few
 rw[←hlen] at hfew
 have hres:pr=(decide (0<m) && decide (m=len)):=by
  rw[HP.out,vk]
  rcases H2.out.1.path with ⟨h1,h2⟩ | ⟨p,h2,h3,h4⟩
  · rw[h2,hm,h1,zaq,zif];rfl
  · rw [h2]
    rcases H2.out.2.1.path with ⟨g1,g2⟩ | ⟨q,g2,g3,g4⟩
    · rw[g2,hm,g1,zaq,zhg];simp
    · rw[g2,hm,h3,g3,zhd,hlen,h4]
      simp only[]
      rw[show decide (0<lcp p q+1)=true by simp,Bool.true_and]
      rw[decide_eq_decide];omega
 have HE:=hH (aN hres hbz)
 rw[←hm]
 rw[←hlen]
 clear hw3 hbz hb3 hres hm hlen hfew HSH HW HC
 by_cases h0:0<m
 · have h0i:(0:Int)<(m:Int):=by omega
   by_cases hq:m=len
   · have hqi:((m:Int) == (len:Int))=true:=by simp;omega
     have HQ:=hH (aN h0 hq)
     clear hq h0
     go_wp2_with fail
     go_ret
     exact⟨congrArg (fun z=>Ending.returned (.bool z)) (by rw[HE.out.1];simp[HQ.out.1,HQ.out.2]<;>(have:=HQ.out.1;have:=HQ.out.2;omega)),HE.out.2⟩
   · have hqi:((m:Int) == (len:Int))=false:=by simp;omega
     have HQ:=hH (aN h0 hq)
     clear hq h0
     go_wp2_with fail
     go_ret
     exact⟨congrArg (fun z=>Ending.returned (.bool z)) (by rw[HE.out.1];simp[HQ.out.2]),HE.out.2⟩
 · have h0i:¬(0:Int)<(m:Int):=by omega
   have HQ:=hH h0
   clear h0
   go_wp2_with fail
   go_ret
   exact⟨congrArg (fun z=>Ending.returned (.bool z)) (by rw[HE.out.1];simp[HQ.out]),HE.out.2⟩
end Go.Proofs.YtgkmmnihaiopaaaGreat
namespace Go.Proofs.YtgkmmnihaiopaaaGreat
open Go.RowKit
structure Sl where
 kinds:List Int
 least:Int
 most:Int
structure Kd where
 name:ByteArray
 text:Bool
 slots:List Sl
structure Gr where
 kinds:List Kd
 root:Int
instance:Inhabited Sl:=⟨⟨[],0,0⟩⟩
instance:Inhabited Kd:=⟨⟨⟨#[]⟩,false,[]⟩⟩
def qw (w:World) (a:Option Addr) (l:List Int):Prop:=
 0<l.length→∃b off,a=some ⟨b,off,none⟩∧b<w.heap.size∧∀k x,l[k]? =some x→w.cell? ⟨b,off+k,none⟩=some (.int .i64 x)
def zbn (w:World) (b o:Nat) (s:Sl):Prop:=
 ∃ka kc,w.cell? ⟨b,o,none⟩=some (.slice ka s.kinds.length kc)∧w.cell? ⟨b,o+1,none⟩=some (.int .i64 s.least)∧w.cell? ⟨b,o+2,none⟩=some (.int .i64 s.most)∧qw w ka s.kinds
def vg (w:World) (a:Option Addr) (l:List Sl):Prop:=
 0<l.length→∃b off,a=some ⟨b,off,none⟩∧b<w.heap.size∧∀k s,l[k]? =some s→zbn w b (off+k*3) s
def zbj (w:World) (b o:Nat) (k:Kd):Prop:=
 ∃sa sc,w.cell? ⟨b,o,none⟩=some (.string k.name)∧w.cell? ⟨b,o+1,none⟩=some (.bool k.text)∧w.cell? ⟨b,o+2,none⟩=some (.slice sa k.slots.length sc)∧vg w sa k.slots
def jP (w:World) (a:Option Addr) (l:List Kd):Prop:=
 0<l.length→∃b off,a=some ⟨b,off,none⟩∧b<w.heap.size∧∀k x,l[k]? =some x→zbj w b (off+k*3) x
theorem qw.below {w w' :World} {a:Option Addr} {l:List Int} (h:qw w a l) (hb:Below w.heap.size w w'):qw w' a l:=fun h0=>by
 obtain⟨b,off,e,hlt,hc⟩:=h h0
 exact⟨b,off,e,nL hlt hb.size,fun k x hx=>(World.cell?_of_block (hb.block _ hlt)).trans (hc k x hx)⟩
theorem zbn.below {w w' :World} {b o:Nat} {s:Sl} (h:zbn w b o s) (hlt:b<w.heap.size) (hb:Below w.heap.size w w'):zbn w' b o s:=by
 obtain⟨ka,kc,h0,h1,h2,h3⟩:=h
 have e:∀j,w'.cell? ⟨b,j,none⟩=w.cell? ⟨b,j,none⟩:=fun j=>World.cell?_of_block (hb.block _ hlt)
 exact⟨ka,kc,(e _).trans h0,(e _).trans h1,(e _).trans h2,h3.below hb⟩
theorem vg.below {w w' :World} {a:Option Addr} {l:List Sl} (h:vg w a l) (hb:Below w.heap.size w w'):vg w' a l:=fun h0=>by
 obtain⟨b,off,e,hlt,hc⟩:=h h0
 exact⟨b,off,e,nL hlt hb.size,fun k x hx=>(hc k x hx).below hlt hb⟩
theorem zbj.below {w w' :World} {b o:Nat} {k:Kd} (h:zbj w b o k) (hlt:b<w.heap.size) (hb:Below w.heap.size w w'):zbj w' b o k:=by
 obtain⟨sa,sc,h0,h1,h2,h3⟩:=h
 have e:∀j,w'.cell? ⟨b,j,none⟩=w.cell? ⟨b,j,none⟩:=fun j=>World.cell?_of_block (hb.block _ hlt)
 exact⟨sa,sc,(e _).trans h0,(e _).trans h1,(e _).trans h2,h3.below hb⟩
theorem jP.below {w w' :World} {a:Option Addr} {l:List Kd} (h:jP w a l) (hb:Below w.heap.size w w'):jP w' a l:=fun h0=>by
 obtain⟨b,off,e,hlt,hc⟩:=h h0
 exact⟨b,off,e,nL hlt hb.size,fun k x hx=>(hc k x hx).below hlt hb⟩
def zcb (w:World) (v:Value) (s:Sl):Prop:=∃ka kc,v= .agg #[.slice ka s.kinds.length kc,.int .i64 s.least,.int .i64 s.most]∧qw w ka s.kinds
def ziF (w:World) (v:Value) (k:Kd):Prop:=∃sa sc,v= .agg #[.string k.name,.bool k.text,.slice sa k.slots.length sc]∧vg w sa k.slots
def GrV (w:World) (v:Value) (g:Gr):Prop:=∃ka kc,v= .agg #[.slice ka g.kinds.length kc,.int .i64 g.root]∧jP w ka g.kinds
theorem GrV.below {w w' :World} {v:Value} {g:Gr} (h:GrV w v g) (hb:Below w.heap.size w w'):GrV w' v g:=by obtain⟨ka,kc,e,h1⟩:=h;exact⟨ka,kc,e,h1.below hb⟩
theorem zax {w:World} {s:Sl} {ka:Option Addr} {kc:Nat} (h:qw w ka s.kinds):zcb w (.agg #[.slice ka s.kinds.length kc,.int .i64 s.least,.int .i64 s.most]) s:=⟨ka,kc,rfl,h⟩
theorem ziH {w:World} {k:Kd} {sa:Option Addr} {sc:Nat} (h:vg w sa k.slots):ziF w (.agg #[.string k.name,.bool k.text,.slice sa k.slots.length sc]) k:=⟨sa,sc,rfl,h⟩
theorem grV {w:World} {l:List Kd} {root:Int} {ka:Option Addr} {kc:Nat} (h:jP w ka l):GrV w (.agg #[.slice ka l.length kc,.int .i64 root]) ⟨l,root⟩:=⟨ka,kc,rfl,h⟩
def Sl.fits (s:Sl):Prop:=(s.kinds.length:Int)≤9223372036854775807
def Kd.fits (k:Kd):Prop:=(k.name.size:Int)≤9223372036854775807∧(k.slots.length:Int)≤9223372036854775807∧∀s∈k.slots,s.fits
def Gr.fits (g:Gr):Prop:=(g.kinds.length:Int)≤9223372036854775807∧∀k∈g.kinds,k.fits
def Sl.few (s:Sl):Prop:=s.kinds.length≤1000000
def Kd.few (k:Kd):Prop:=k.name.size≤1000000∧k.slots.length≤1000000∧∀s∈k.slots,s.few
def Gr.few (g:Gr):Prop:=g.kinds.length≤1000000∧∀k∈g.kinds,k.few
def Says (b:Bool) (w:World) (e:Ending) (w' :World):Prop:=e= .returned (.bool b)∧Below w.heap.size w w'
theorem Says.mk {b c:Bool} {w w' :World} (h:b=c) (hb:Below w.heap.size w w'):Says b w (.returned (.bool c)) w':=⟨by rw[h],hb⟩
def yU (n:Int) (w:World) (e:Ending) (w' :World):Prop:=e= .returned (.int .i64 n)∧Below w.heap.size w w'
theorem yU.mk {b c:Int} {w w' :World} (h:b=c) (hb:Below w.heap.size w w'):yU b w (.returned (.int .i64 c)) w':=⟨by rw[h],hb⟩
def Yw (s:Sl):Bool:=decide (40<s.kinds.length)
def Zb (k:Kd):Bool:=decide (200<k.name.size) || decide (20<k.slots.length) || k.slots.any Yw
def ZI (g:Gr):Bool:=decide (40<g.kinds.length) || g.kinds.any Zb
theorem Qp {α:Type} {l:List α} {k:Nat} {x:α} (h:l[k]? =some x):l.drop k=x::l.drop (k+1):=by
 obtain⟨hk,rfl⟩:=List.getElem?_eq_some_iff.1 h
 exact List.drop_eq_getElem_cons hk
theorem JB {α:Type} {f:α→Bool} {l:List α} {k:Nat} {x:α} {r:Bool} (hr:r=(l.drop k).any f) (h:l[k]? =some x):r=(f x || (l.drop (k+1)).any f):=by rw[hr,Qp h];rfl
theorem Jd {α:Type} {f:α→Bool} {l:List α} {k:Nat} {r:Bool} (hr:r=(l.drop k).any f) (h:l.length≤k):r=false:=by rw[hr,List.drop_eq_nil_of_le h];rfl
def ziT (w:World) (c:Array Value) (l:List Kd) (i:Value) (wr:World):Prop:=
 ∃k:Nat,k≤l.length∧i= .int .i64 k∧wr.heap[w.heap.size]? =some (.cells c 24 (0,0))∧Below w.heap.size w wr∧l.any Zb=(l.drop k).any Zb
def zhM (W:World) (l:List Sl) (j:Value) (wr:World):Prop:=
 ∃k:Nat,k≤l.length∧j= .int .i64 k∧W=wr∧l.any Yw=(l.drop k).any Yw
theorem zdQ (w : World) (v:Value) (g:Gr) (hv:GrV w v g) (hf:g.fits):Calls Tryz.prog 5 #[v] w (Says (ZI g) w):=by
 obtain⟨ka,kc,rfl,hk⟩:=hv
 obtain⟨l,root⟩:=g
 simp only at hk hf ⊢
 have hfl:(l.length:Int)≤9223372036854775807:=hf.1
 have HF:=hH hf.2
 have HK:=hH hk
 clear hf hk
 by_cases h40:40<l.length
 · have h40' :(40:Int)<(l.length:Int):=by omega
   have HG:=hH (show ZI ⟨l,root⟩=true by simp[ZI,h40])
   go_enter Tryz.func5,Tryz.ntmps5
   go_wp2_with fail
   go_ret
   exact Says.mk HG.out (zh _ _)
 · have h40' : ¬ (40:Int)<(l.length:Int):=by omega
   have HG:=hH (show ZI ⟨l,root⟩=l.any Zb by simp[ZI,h40])
   go_enter Tryz.func5,Tryz.ntmps5
   go_wp2_with fail
   go_loopw [12] (fun i wr=>ziT w #[.slice ka l.length kc,.int .i64 root] l i wr) (fun i _=>l.length - (intOf i).toNat)
   case atStart=>exact⟨0,Nat.zero_le _,rfl,hanQ w _,zh _ _,rfl⟩
   case round =>
    obtain⟨k,hkl,rfl,hb,hbel,hany⟩:=hrel
    have p0:wr.cell? ⟨w.heap.size,0,none⟩=some (.slice ka l.length kc):=by rw[corQ wr _ 0 _ _ _ hb];rfl
    have HB:=hH (aN hb hbel)
    have HA:=hH hany
    clear hb hbel hany
    by_cases hlt:k<l.length
    · obtain ⟨x, hx⟩:∃x,l[k]? =some x:=⟨l[k],List.getElem?_eq_getElem hlt⟩
      have hfx:=HF.out x (List.mem_of_getElem? hx)
      obtain⟨b,off,rfl,hblt,hc⟩:=(HK.out.below HB.out.2) om
      obtain⟨sa,sc,c0,c1,c2,hs⟩:=hc k x hx
      have HX:=hH (JB HA.out hx)
      have hs1:(x.name.size:Int)≤9223372036854775807:=hfx.1
      have hs2:(x.slots.length:Int)≤9223372036854775807:=hfx.2.1
      have HFX:=hH hfx.2.2
      have HS:=hH hs
      have hkl2:(k:Int)<(l.length:Int):=by omega
      clear hx hc hs hfx
      by_cases h200:200<x.name.size
      · have h200' :(200:Int)<(x.name.size:Int):=by omega
        go_wp2_with fail
        go_ret
        exact Says.mk (by rw[HG.out,HX.out];simp[Zb,h200]) HB.out.2
      · have h200' :¬(200:Int)<(x.name.size:Int):=by omega
        by_cases h20:20<x.slots.length
        · have h20' :(20:Int)<(x.slots.length:Int):=by omega
          go_wp2_with fail
          go_ret
          exact Says.mk (by rw[HG.out,HX.out];simp[Zb,h20]) HB.out.2
        · have h20' :¬(20:Int)<(x.slots.length:Int):=by omega
          have HKX:=hH (show Zb x=x.slots.any Yw by simp[Zb,h200,h20])
          go_wp2_with fail
          obtain⟨wo,rfl⟩:∃wo,wo=wr:=⟨_,rfl⟩
          go_loopw [40] (fun j wr=>zhM wo x.slots j wr) (fun j _=>x.slots.length - (intOf j).toNat)
          case atStart=>exact⟨0,Nat.zero_le _,rfl,rfl,rfl⟩
          case round=>
           obtain⟨m,hm,rfl,rfl,hany2⟩:=hrel
           have HA2:=hH hany2
           clear hany2
           by_cases hlt2:m<x.slots.length
           · obtain⟨s,hsx⟩:∃s,x.slots[m]? =some s:=⟨x.slots[m],List.getElem?_eq_getElem hlt2⟩
             have hfs:(s.kinds.length:Int)≤9223372036854775807:=HFX.out s (List.mem_of_getElem? hsx)
             obtain⟨b2,off2,rfl,hblt2,hc2⟩:=HS.out om
             obtain⟨ka2,kc2,d0,d1,d2,hi⟩:=hc2 m s hsx
             have HX2:=hH (JB HA2.out hsx)
             have hm2:(m:Int)<(x.slots.length:Int):=by omega
             clear hsx hc2 hi
             by_cases h4:40<s.kinds.length
             · have h4' :(40:Int)<(s.kinds.length:Int):=by omega
               go_wp2_with fail
               go_ret
               exact Says.mk (by rw[HG.out,HX.out,HKX.out,HX2.out];simp[Yw,h4]) HB.out.2
             · have h4' :¬(40:Int)<(s.kinds.length:Int):=by omega
               go_wp2_with fail
               exact⟨⟨m+1,by omega,by go_num,rfl,by rw[HX2.out];simp[Yw,h4]⟩,by simp[intOf];omega⟩
           · have he:=Jd HA2.out om
             have HE:=hH he
             clear he
             have hm2:¬(m:Int)<(x.slots.length:Int):=by omega
             go_wp2_with fail
             exact⟨⟨k+1,by omega,by go_num,HB.out.1,HB.out.2,by rw[HX.out,HKX.out,HE.out];rfl⟩,by simp[intOf];omega⟩
    · have he:=Jd HA.out om
      have HE:=hH he
      clear he
      have hkl2:¬(k:Int)<(l.length:Int):=by omega
      go_wp2_with fail
      go_ret
      exact Says.mk (by rw[HG.out,HE.out]) HB.out.2
theorem zP {w:World} {k:Nat} {o:Obj} (h:w.heap[k]? =some o):k<w.heap.size:=(Array.getElem?_eq_some_iff.1 h).1
end Go.Proofs.YtgkmmnihaiopaaaGreat
