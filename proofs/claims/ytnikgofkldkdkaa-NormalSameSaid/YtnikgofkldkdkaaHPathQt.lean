/-
  .
-/
import Derived.Test.YtnikgofkldkdkaaHSharedQt
import Derived.Test.YtnikgofkldkdkaaRGreatXQt
set_option maxRecDepth 100000
set_option maxHeartbeats 40000000
set_option linter.unusedVariables false
set_option linter.unusedSimpArgs false
namespace Go.Proofs.Ytnikgofkldkdkaa
open Go.RowKit Go.Shelf
attribute [local go_sem] Oper.semAt_some
structure Q8 (w' :World) (S:Nat→Prop) (t:Tr) (id:Int) (rv:Value) (L:List Fr):Prop where
 rows:qo w' rv L
 ok:∀y∈L,y.ok
 lies:∀y∈L,zk w' S y.f y.a∧foLen y.f≤y.cap
 chain:qV (zh t) L
 is:(L= []∧fpi id 0 (zh t)=none)∨(L≠[]∧fpi id 0 (zh t)=some (places L))
 few:L.length≤za t.kids+2
 sl:∀y,S y→y<w'.heap.size
def zky (w:World)(S:Nat→Prop)(t:Tr)(id:Int)(e:Ending)(w' :World):Prop:=∃rv L,e= .returned rv∧Q8 w' (fun y=>(S y∨w.heap.size≤y)∧y<w'.heap.size) t id rv L∧Below w.heap.size w w'∧∀g,rv.ownBlock=some g→w.heap.size≤g
theorem Yv {P:Program}{fn:Func}{p:Tmp}{tb:TypeId}(h:fn.results= #[.cell p tb])(tmps:Array Value)(w:World)(g:Nat)(v:Value)(hp:tmps.getD p undef= .pointer (some ⟨g,0,none⟩))(hc:w.cell? ⟨g,0,none⟩=some v)(hb:∀w,(isAgg tb).run P w= .ok false w):
 (results fn tmps).run P w= .ok v w:=by
 have hp' :tmps[p]?.getD undef= .pointer (some ⟨g,0,none⟩):=by simpa using hp
 have hl:(loadVar tb ⟨g,0,none⟩).run P w= .ok v w:=by simp[go_sem,hc,hb,Result.andThen]
 simp[results,h,hp',asAddr,hl]
def zdE (t:Tr)(ka:Option Addr)(n cap:Nat)(id:Int):List Obj:=
 [.cells #[.int .i64 t.id,.int .i64 t.kind,.string t.text,.slice ka n cap] 27,.cells #[.int .i64 id] 3,.cells #[.slice none 0 0] 165,.cells #[.int .i64 t.id,.int .i64 t.kind,.string t.text,.slice ka n cap] 27]
def zcv (w W:World)(t:Tr)(id:Int)(T:Nat→Prop)(L:List Fr)(V:World):Prop:=zfJ id L=fpi id 0 (zh t)∧Below w.heap.size w V∧(∀x,T x→W.heap.size≤x)∧W.heap.size≤V.heap.size∧∀x,x<W.heap.size→V.heap[x]? =W.heap[x]?
def zfy (w W:World)(S:Nat→Prop)(t:Tr)(id:Int)(T:Nat→Prop)(V:World):Prop:=Below w.heap.size w V∧W.heap.size≤V.heap.size∧∃rv L,V.heap[w.heap.size+2]? =some (.cells #[rv] 165 (0,0))∧vH V (fun y=>S y∨y=W.heap.size+2) t T rv L∧L≠[]∧fpi id 0 (zh t)=some (places L)
theorem zcv.turn {w W V V' :World}{t:Tr}{id:Int}{T T' :Nat→Prop}{L:List Fr}(hw:w.heap.size≤W.heap.size)(h:zcv w W t id T L V)(ht:zo V V' (fun x=>T x∨(W.heap.size≤x∧vQ V x)))(hwd:kg T T' V V'):zcv w W t id T' L V':=by
 obtain⟨h1,h2,h3,h4,h5⟩:=h
 have hk:∀x,x<W.heap.size→V'.heap[x]? =V.heap[x]?:=fun x hx=>ht.block x om (fun h=>by
  rcases h with h | h
  · have:=h3 x h;omega
  · omega)
 exact⟨h1,⟨ht.os.trans h2.os,ht.tape.trans h2.tape,ht.output.trans h2.output,NltQ h2.size ht.size,fun x hx=>(hk x om).trans (h2.block x hx)⟩,fun x hx=>(hwd x hx).elim (h3 x) (fun h=>by omega),NltQ h4 ht.size,fun x hx=>(hk x hx).trans (h5 x hx)⟩
theorem zfy.put {w W V:World}{S:Nat→Prop}{t:Tr}{id:Int}{T:Nat→Prop}(hw:w.heap.size+3≤W.heap.size)(hS:∀y,S y→y<W.heap.size)(o o' :Loop)(h:zfy w W S t id T V)(hT:∀x,T x→W.heap.size+2≤x):zfy w W S t id T (V.putObj (W.heap.size+1) (.loop o')):=by
 obtain⟨h1,h2,rv,L,h3,h4,h5,h6⟩:=h
 have hs:(V.putObj (W.heap.size+1) (.loop o')).heap.size=V.heap.size:=by simp[World.putObj]
 have hk:∀x,x≠W.heap.size+1→(V.putObj (W.heap.size+1) (.loop o')).heap[x]? =V.heap[x]?:=fun x hx=>WphQ hx
 refine⟨⟨h1.os,h1.tape,h1.output,by have:=h1.size;omega,fun x hx=>(hk x om).trans (h1.block x hx)⟩,by omega,rv,L,(hk _ om).trans h3,h4.kept om (fun y hy=>hk y (by have:=hT y hy;omega)) (fun y hy=>hk y (by
  rcases hy with hy | hy
  · have:=hS y hy;omega
  · omega)),h5,h6⟩
theorem zkd {w W V V1 V3:World}{S T:Nat→Prop}{t:Tr}{id:Int}{rv:Value}{x:Fr}{r:List Fr}{u:Tr}{aa:Act}{o:Obj}(hwW:w.heap.size≤W.heap.size)(hf:vH V (fun y=>S y∨y=W.heap.size+2) t T rv (x::r))(hu:zB x.f x.p.toNat=some u)(hI:zcv w W t id T (x::r) V)(hne:¬u.id=id)(hT:∀y,T y→W.heap.size+2≤y)(ev:V1=V.putObj (W.heap.size+1) o)(hb:Below V1.heap.size V1 V3):
 zgQ W.heap.size T (fun y=>S y∨y=W.heap.size+2) (zcv w W t id) (fun c T V=>c= .ret∧zfy w W S t id T V) x r u V1 .normal aa V3:=by
 have hs1:V1.heap.size=V.heap.size:=by rw[ev];simp[World.putObj]
 have hs3:=hb.size
 obtain⟨h1,h2,h3,h4,h5⟩:=hI
 have hk:∀y,y<V.heap.size→y≠W.heap.size+1→V3.heap[y]? =V.heap[y]?:=fun y hy hn=>by rw[hb.block y om,ev,WphQ hn]
 have hpos:∀y∈x::r,0≤y.p:=fun y hy=>(hf.ok y hy).1
 refine⟨⟨hs3,fun y o hy ho _=>(hb.block y (lohQ ho)).trans ho⟩,⟨hs3,fun y hy=>hb.block y (by have:=(hf.apart y hy).1;omega)⟩,fun y hy=>hb.block y (by have:=hf.sl y hy;omega),.inl ⟨rfl,fun a c=>⟨?_,⟨hb.os.trans (by rw[ev];exact h2.os),hb.tape.trans (by rw[ev];exact h2.tape),hb.output.trans (by rw[ev];exact h2.output),by have:=h2.size;omega,fun y hy=>(hk y (by have:=h2.size;omega) om).trans (h2.block y hy)⟩,h3,by omega,fun y hy=>(hk y om om).trans (h5 y hy)⟩⟩⟩
 rw [QV id _ (fun y hy=>by
  rcases List.mem_cons.1 hy with rfl | hy
  · simp
  · have:=hpos y hy;omega),←zj0 (hf.ok x sp1) hu hne]
 exact h1
theorem zgE {w W V V1 V3:World}{S T:Nat→Prop}{t:Tr}{id:Int}{rv:Value}{x:Fr}{r:List Fr}{u:Tr}{aa:Act}{o:Obj}(hwW:w.heap.size+3≤W.heap.size)(hf:vH V (fun y=>S y∨y=W.heap.size+2) t T rv (x::r))(hS:∀y,S y→y<w.heap.size)(hu:zB x.f x.p.toNat=some u)(hI:zcv w W t id T (x::r) V)(heq:u.id=id)(hT:∀y,T y→W.heap.size+2≤y)(ev:V1=V.putObj (W.heap.size+1) o)(hb:Below V1.heap.size V1 V3){v0:Value}(hc:W.heap[w.heap.size+2]? =some (.cells #[v0] 165 (0,0))):
 zgQ W.heap.size T (fun y=>S y∨y=W.heap.size+2) (zcv w W t id) (fun c T V=>c= .ret∧zfy w W S t id T V) x r u V1 .ret aa (V3.setCell ⟨w.heap.size+1+1,0,none⟩ rv):=by
 have hs1:V1.heap.size=V.heap.size:=by rw[ev];simp[World.putObj]
 have hs3:=hb.size
 obtain⟨h1,h2,h3,h4,h5⟩:=hI
 have hb2:∀y,y≠w.heap.size+2→(V3.setCell ⟨w.heap.size+1+1,0,none⟩ rv).heap[y]? =V3.heap[y]?:=fun y hy=>BhsQ _ _ _ _ hy
 have hk:∀y,y<V.heap.size→y≠W.heap.size+1→V3.heap[y]? =V.heap[y]?:=fun y hy hn=>by rw[hb.block y om,ev,WphQ hn]
 have hsz:(V3.setCell ⟨w.heap.size+1+1,0,none⟩ rv).heap.size=V3.heap.size:=by simp[World.setCell]
 have hT1:∀y,T y→y≠w.heap.size+2∧y≠W.heap.size+1∧y<V.heap.size:=fun y hy=>by have:=hT y hy;have:=(hf.apart y hy).1;omega
 have hS1:∀y,(S y∨y=W.heap.size+2)→y≠w.heap.size+2∧y≠W.heap.size+1∧y<V.heap.size:=fun y hy=>by
  have:=hf.sl y hy
  rcases hy with hy | hy
  · have:=hS y hy;omega
  · omega
 have hc3:V3.heap[w.heap.size+2]? =some (.cells #[v0] 165 (0,0)):=by rw[hk _ om om,h5 _ om];exact hc
 refine⟨⟨by omega,fun y o hy ho _=>(hb2 y om).trans ((hb.block y (lohQ ho)).trans ho)⟩,⟨by omega,fun y hy=>(hb2 y (hT1 y hy).1).trans (hb.block y (by have:=(hT1 y hy).2.2;omega))⟩,fun y hy=>(hb2 y (hS1 y hy).1).trans (hb.block y (by have:=(hS1 y hy).2.2;omega)),.inr (.inl ⟨rfl,rfl,⟨?_,?_,?_,by have:=h2.size;omega,fun y hy=>(hb2 y om).trans ((hk y (by have:=h2.size;omega) om).trans (h2.block y hy))⟩,by omega,rv,x::r,?_,hf.kept om (fun y hy=>(hb2 y (hT1 y hy).1).trans (hk y (hT1 y hy).2.2 (hT1 y hy).2.1)) (fun y hy=>(hb2 y (hS1 y hy).1).trans (hk y (hS1 y hy).2.2 (hS1 y hy).2.1)),by simp,?_⟩)⟩
 · show V3.os=_;rw[hb.os,ev];exact h2.os
 · show V3.tape=_;rw[hb.tape,ev];exact h2.tape
 · show V3.output=_;rw[hb.output,ev];exact h2.output
 · have:=hssQ V3 (w.heap.size+2) 0 _ _ rv hc3
   rw[show w.heap.size+1+1=w.heap.size+2 from rfl,this];simp
 · rw[←h1];exact zhm (hf.ok x sp1) hu heq
theorem zfq (w:World)(S:Nat→Prop)(nv:Value)(t:Tr)(id:Int)(hS:∀x,S x→x<w.heap.size)(ht:zK w S nv t)(hsz:za t.kids≤400000):Calls Try.prog 109 #[nv,.int .i64 id] w (zky w S t id):=by
 obtain⟨ka,cap,rfl,hcap,hk⟩:=ht
 obtain⟨n,hn⟩:∃n,n=foLen t.kids:=⟨_,rfl⟩
 rw[←hn]
 have h0:=ze (zdE t ka n cap id) w
 have hb0:=zl (zdE t ka n cap id) w
 have hs0:=zJ (zdE t ka n cap id) w
 have HA:=hH (aN hb0 (aN (h0 1 _ rfl) (aN (h0 2 _ rfl) (aN (h0 3 _ rfl) hs0))))
 have H:=hH (aN hS (aN hcap (aN hk (aN hsz hn))))
 clear hS hcap hk hsz hn h0 hb0 hs0
 refine (callsIn_wide (n:=8)).1 ?_
 refine callsIn_of_wp_marks Try.func109 rfl trivial ?_ rfl
 simp only[Try.ntmps109,List.size_toArray,LlcQ,List.length_nil,Nat.reduceAdd,Nat.reduceSub,Array.replicate_succ,Array.replicate_zero,List.push_toArray,List.append_toArray,List.nil_append,List.cons_append]
 gi_wp2_with (refine⟨trivial,?_⟩;gi_at_call 122;refine (callsIn_wide.2 (zjs _ _ _ _ _ _ _)).mono ?_;rintro e w' ⟨rfl,rfl⟩)
 change Code.wpIn _ _ _ _ _ _ (zx w (zdE t ka n cap id))
 generalize hW:zx w (zdE t ka n cap id)=W at HA ⊢
 clear hW
 obtain⟨k0,k1,k2,k3,k4⟩:=HA.out
 have k4' :W.heap.size=w.heap.size+4:=k4
 have hSl:=H.out.1
 have hSW:∀y,S y→y<W.heap.size:=fun y hy=>by have:=hSl y hy;omega
 have hkW:zk W S t.kids ka:=H.out.2.2.1.kept fun y hy=>⟨hy,k0.block y (hSl y hy)⟩
 have k3' :W.heap[w.heap.size+3]? =some (.cells #[.int .i64 t.id,.int .i64 t.kind,.string t.text,.slice ka (foLen t.kids) cap] 27 (0,0)):=by rw[←H.out.2.2.2.2];exact k3
 refine zew om rfl t ka cap S hSW hkW H.out.2.1 H.out.2.2.2.1 k3' rfl
  (zcv w W t id) (fun c T V=>c= .ret∧zfy w W S t id T V) (fun h ht hwd=>h.turn om ht hwd) (fun o o' h hT ho=>⟨h.1,h.2.put om hSW o o' hT⟩)
  ⟨?_,k0,fun _ h=>h.elim,NlrQ _,fun _ _=>rfl⟩ ?round ?done ?stop
 · rw[QV id _ (fun y hy=>by rw[List.mem_singleton] at hy;subst hy;simp),zaQ]
   show (match fpi id 0 (zm 0 (zh t)) with | some q=>some (places []++q) | none=>none)=_
   rw[qG]
   cases fpi id 0 (zh t)<;>rfl
 case done=>
  rintro D T V hD hI hK
  have hd:=(hI.2.2.2.2 (w.heap.size+2) om).trans k2
  have c0:V.cell? ⟨w.heap.size+1+1,0,none⟩=some (.slice none 0 0):=by rw[corQ _ _ 0 _ _ _ hd];rfl
  have cf:V.frozen? ⟨w.heap.size+1+1,0,none⟩=false:=forQ _ _ 0 _ _ hd
  have HE:=hH (aN hI (aN hd (aN hD hK)))
  clear hI hd hK HA H k0 k1 k2 k3 k3' k4 hSW hkW
  gi_wp2
  obtain⟨hI,hd,hD,hK⟩:=HE.out
  have hne:D≠w.heap.size+1+1:=by omega
  refine⟨by simp,.inl ⟨_,_,rfl,run_takeDeferred ((BhsQ V ⟨w.heap.size+1+1,0,none⟩ _ _ hne).trans hK),?_⟩⟩
  have hg:((V.setCell ⟨w.heap.size+1+1,0,none⟩ (.slice none 0 0)).putObj D (.deferred none)).cell? ⟨w.heap.size+1+1,0,none⟩=some (.slice none 0 0):=by
   rw[World.cell?_of_block (w:=V.setCell ⟨w.heap.size+1+1,0,none⟩ (.slice none 0 0)) (WphQ (Ne.symm hne))]
   exact World.cell?_setCell_same' V _ _ (by rw[c0];rfl)
  refine⟨_,Yv rfl _ _ (w.heap.size+1+1) _ rfl hg (fun _=>by kernel_rfl),_,[],rfl,⟨World.ownsRow_nil _ _ _ _,fun _ h=>(by cases h),fun _ h=>(by cases h),trivial,Or.inl ⟨rfl,hI.1.symm⟩,by simp,fun y hy=>hy.2⟩,⟨hI.2.1.os,hI.2.1.tape,hI.2.1.output,by have:=hI.2.1.size;simp[World.putObj,World.setCell];exact this,fun y hy=>?_⟩,fun g hg=>(by cases hg)⟩
  rw[WphQ om,BhsQ _ _ _ _ ue2]
  exact hI.2.1.block y hy
 case stop=>
  rintro D c T V hD hT ⟨rfl,h1,h2,rv,L,h3,h4,h5,h6⟩ hK
  have c0:(V.putObj D (.deferred none)).cell? ⟨w.heap.size+1+1,0,none⟩=some rv:=by
   rw[World.cell?_of_block (WphQ ue2),corQ _ _ 0 _ _ _ h3];rfl
  have hend:zky w S t id (.returned rv) (V.putObj D (.deferred none)):=by
   have hs:(V.putObj D (.deferred none)).heap.size=V.heap.size:=by simp[World.putObj]
   have hf:=h4.kept (w':=V.putObj D (.deferred none)) om (fun y hy=>WphQ (by have:=hT y hy;omega)) (fun y hy=>WphQ (by
    rcases hy with hy | hy
    · have:=hSl y hy;omega
    · omega))
   refine⟨rv,L,rfl,⟨hf.rows,hf.ok,fun y hy=>⟨(hf.lies y hy).1.kept fun z hz=>⟨⟨hz.imp (fun h=>h) (fun e=>by omega),hf.sl z hz⟩,rfl⟩,(hf.lies y hy).2⟩,hf.chain,Or.inr ⟨h5,h6⟩,by have:=hf.few;omega,fun y hy=>hy.2⟩,⟨h1.os,h1.tape,h1.output,by have:=h1.size;omega,fun y hy=>?_⟩,fun g hg=>by have:=hT g (hf.own g hg);omega⟩
   rw[WphQ om]
   exact h1.block y hy
  have HE:=hH (aN c0 hend)
  clear c0 hend h1 h2 h3 h4 h5 h6 HA H k0 k1 k2 k3 k3' k4 hSl hSW hkW
  gi_wp2
  refine⟨by simp,.inl ⟨_,_,rfl,run_takeDeferred hK,?_⟩⟩
  exact⟨_,Yv rfl _ _ (w.heap.size+1+1) _ rfl HE.out.1 (fun _=>by kernel_rfl),HE.out.2⟩
 case round=>
  rintro l hl T rv x r u V hT hV hf hu hI K hK
  obtain⟨g,rc,k,p,u',b,off,kb,kc,rfl,hk',hkN,hkc,hTg,c0,c1,hxp,hpl,hpN,hu',hxa,hSb,d0,d3,hkk,hku⟩:=hf.here
  rw[hu] at hu'
  cases hu'
  obtain⟨q,hq⟩:∃q,q=foLen x.f:=⟨_,rfl⟩
  obtain⟨uid,huid⟩:∃uid,uid=u.id:=⟨_,rfl⟩
  rw[←hq] at c0 hpl hpN
  rw[←huid] at d0
  rw[hxa] at c0
  have HK:=hH hK
  have hsz:=H.out.2.2.2.1
  have HR:=hH (aN hf (aN hu (aN hI (aN hT (aN hV (aN huid hl))))))
  have HC:=hH (aN c0 (aN c1 d0))
  have hnode:=fun X=>zc7 X b off q x.cap p hpl om
  have HN:=hH hnode
  have hk00:(0:Int)≤(k:Int):=by omega
  have hkl:(k:Int)<(k:Int)+1:=by omega
  have hkb:k≤1000000:=by omega
  have hpb:p≤1000000:=by omega
  have hkw:IntKind.i64.wrap (k:Int)=(k:Int):=IntWalk.i64_in _ om
  have hgl:=World.block_lt_of_cell? _ _ c0
  have hbl:=World.block_lt_of_cell? _ _ d0
  clear hf hu hI hT hV hK hq huid c0 c1 d0 d3 hkk hku hnode hxa hl hxp hk'
  gi_wp2
  refine HK.out _ fun V1 hV1=>?_
  clear HK
  obtain⟨o',ev,o,ho,hoc⟩:=hV1
  have hl:=HR.out.2.2.2.2.2.2
  have hV1s:∀y,y≠W.heap.size+1→V1.heap[y]? =V.heap[y]?:=fun y hy=>by rw[ev,hl];exact WphQ hy
  have hgT:g≠W.heap.size+1:=by have:=HR.out.2.2.2.1 g hTg;omega
  have hbT:b≠W.heap.size+1:=by
   rcases hSb with hb | hb
   · have:=hSW b hb;omega
   · omega
  have e0:V1.cell? ⟨g,k*2,none⟩=some (.slice (some ⟨b,off,none⟩) q x.cap):=(World.cell?_of_block (hV1s g hgT)).trans HC.out.1
  have e1:V1.cell? ⟨g,k*2+1,none⟩=some (.int .i64 (p:Int)):=(World.cell?_of_block (hV1s g hgT)).trans HC.out.2.1
  have e2:V1.cell? ⟨b,off+p*4,none⟩=some (.int .i64 uid):=(World.cell?_of_block (hV1s b hbT)).trans HC.out.2.2
  have i0:V1.cell? ⟨w.heap.size+1,0,none⟩=some (.int .i64 id):=by rw[corQ _ _ 0 _ _ _ ((hV1s _ om).trans ((HR.out.2.2.1.2.2.2.2 _ om).trans k1))];rfl
  obtain⟨SX,hSX⟩:∃SX:World→Prop,SX=fun X=>X.cell? ⟨g,k*2,none⟩=some (.slice (some ⟨b,off,none⟩) q x.cap)∧X.cell? ⟨g,k*2+1,none⟩=some (.int .i64 (p:Int))∧X.cell? ⟨b,off+p*4,none⟩=some (.int .i64 uid)∧X.cell? ⟨w.heap.size+1,0,none⟩=some (.int .i64 id):=⟨_,rfl⟩
  have HSx:∀X,SX X→X.cell? ⟨g,k*2,none⟩=some (.slice (some ⟨b,off,none⟩) q x.cap)∧X.cell? ⟨g,k*2+1,none⟩=some (.int .i64 (p:Int))∧X.cell? ⟨b,off+p*4,none⟩=some (.int .i64 uid)∧X.cell? ⟨w.heap.size+1,0,none⟩=some (.int .i64 id):=fun X h=>by rw[hSX] at h;exact h
  have hS0:SX V1.drew:=by rw[hSX];exact⟨e0,e1,e2,i0⟩
  have HSB:Hid (∀X Y,SX X→Below X.heap.size X Y→SX Y):=hH fun X Y h hb=>by
   rw[hSX] at h ⊢
   exact⟨(hb.cell (World.block_lt_of_cell? _ _ h.1)).trans h.1,(hb.cell (World.block_lt_of_cell? _ _ h.2.1)).trans h.2.1,(hb.cell (World.block_lt_of_cell? _ _ h.2.2.1)).trans h.2.2.1,(hb.cell (World.block_lt_of_cell? _ _ h.2.2.2)).trans h.2.2.2⟩
  have HV1:=hH (aN ev hl)
  have HZ:=hH (aN k0 (aN k2 (aN k4' (aN hSl hSW))))
  clear hSX e0 e1 e2 i0 HC ev ho hoc hl hV1s hgT hbT k0 k1 k2 k3 k3' k4 k4' hSl hSW hkW HA
  gi_wp2
  refine zci (S:=SX) kr1 (zfg kr1) ?_
  have uH:=hS0
  refine zL1 (i:=0) (.slice (some ⟨g,0,none⟩) (k+1) rc) rfl ?_ ?_
  · exact ua0
  simp only[Act.put,pg]
  refine zL1 (i:=1) (.slice (some ⟨g,0,none⟩) (k+1) rc) rfl ?_ ?_
  · exact ua0
  simp only[Act.put,pg]
  refine zL1 (i:=2) (.int .i64 ((k:Int)+1)) rfl ?_ ?_
  · exact ua0
  simp only[Act.put,pg]
  refine zL1 (i:=3) (.int .i64 (k:Int)) rfl ?_ ?_
  · exact ua0
  simp only[Act.put,pg]
  refine zL1 (i:=4) (.pointer (some ⟨g,k*2,none⟩)) rfl ?_ ?_
  · exact ua0
  simp only[Act.put,pg]
  refine zL1 (i:=5) (.agg #[.slice (some ⟨b,off,none⟩) q x.cap,.int .i64 (p:Int)]) rfl ?_ ?_
  · exact ua0
  simp only[Act.put,pg]
  refine zL1 (i:=10) (.int .i64 id) rfl ?_ ?_
  · exact ua0
  simp only[Act.put,pg]
  refine qO (i:=6) (o:=_) kr1 rfl ?_
  intro K3 hK3
  rw[ipQ uf0]
  simp only[pg3]
  have HK3:=hH hK3
  have HS0:=hH hS0
  clear hK3 uH hS0
  gi_wp2_with (refine⟨trivial,?_⟩;gi_at_call 123;refine (callsIn_wide.2 (HN.out _)).mono ?_;rintro e V3 ⟨rfl,hb3⟩;have HV3:=hH hb3;clear hb3)
  have uH:=HSB.out _ V3 HS0.out HV3.out
  refine HK3.out _ _ uH ?_
  clear HK3 HS0
  refine zL1 (i:=7) (.pointer (some ⟨b,off+p*4,none⟩)) rfl ?_ ?_
  · exact ua0
  simp only[Act.put,pg]
  refine zL1 (i:=8) (.pointer (some ⟨b,off+p*4,none⟩)) rfl ?_ ?_
  · exact ua0
  simp only[Act.put,pg]
  refine zL1 (i:=9) (.int .i64 uid) rfl ?_ ?_
  · exact ua0
  simp only[Act.put,pg]
  refine zL1 (i:=11) (.bool (uid == id)) rfl ?_ ?_
  · exact ua0
  simp only[Act.put,pg]
  refine jd kr1 ?_ _
  clear uH HSx HSB
  have hb3:Below V1.heap.size V1 V3:=⟨HV3.out.os,HV3.out.tape,HV3.out.output,HV3.out.size,HV3.out.block⟩
  by_cases heq:uid=id
  · have hbq:(uid == id)=true:=by simpa using heq
    rw[hbq]
    have hz:V3.heap[w.heap.size+1+1]? =some (.cells #[.slice none 0 0] 165 (0,0)):=by
     have h9:=HR.out.2.2.1
     rw[hb3.block _ (by rw[HV1.out.1];have:=HZ.out.2.2.1;have:=h9.2.2.2.1;simp[World.putObj];omega),HV1.out.1,HV1.out.2,WphQ ud0,h9.2.2.2.2 _ ud0]
     exact HZ.out.2.1
    have z0:V3.cell? ⟨w.heap.size+1+1,0,none⟩=some (.slice none 0 0):=by rw[corQ _ _ 0 _ _ _ hz];rfl
    have zf:V3.frozen? ⟨w.heap.size+1+1,0,none⟩=false:=forQ _ _ 0 _ _ hz
    have HE:=hH (fun aa=>zgE (aa:=aa) ud0 HR.out.1 HZ.out.2.2.2.1 HR.out.2.1 HR.out.2.2.1 (by rw[←HR.out.2.2.2.2.2.1];exact heq) HR.out.2.2.2.1 (by rw[←HV1.out.2];exact HV1.out.1) hb3 HZ.out.2.1)
    clear hz hb3 heq hbq
    gi_wp2
    exact HE.out _
  · have hbq:(uid == id)=false:=by simpa using heq
    rw[hbq]
    have HE:=hH (fun aa=>zkd (S:=S) (aa:=aa) ud0 HR.out.1 HR.out.2.1 HR.out.2.2.1 (by rw[←HR.out.2.2.2.2.2.1];exact heq) HR.out.2.2.2.1 (by rw[←HV1.out.2];exact HV1.out.1) hb3)
    clear hb3 heq hbq
    gi_wp2
    exact HE.out _
end Go.Proofs.Ytnikgofkldkdkaa
namespace Go.Proofs.Ytnikgofkldkdkaa
open Go.RowKit Go.Shelf
theorem zhA (id:Int)(t:Tr):fpi id 0 (zh t)=(zw id t).map (fun p=>0::p):=by
 simp only[zh,fpi,zw]
 by_cases h:t.id=id
 · rw[ipQ h,ipQ h];rfl
 · rw[inQ h,inQ h]
   cases fpi id 0 t.kids<;>rfl
theorem JV {root:Fo}:∀(j:Nat) (L:List Fr),qV root L→qV root (L.drop j)
 | 0,_,h=>h
 | j+1,[],h=>by simpa using h
 | j+1,x::L,h=>JV j L h.tail
theorem jq (L:List Fr):(places L).length=L.length:=by simp[places]
theorem zde (L:List Fr)(k:Nat)(hk:k<L.length):places (L.drop (L.length - 1 - k))=(places L).take (k+1):=by
 rw[places,places,←List.map_take,List.take_reverse]
 congr 3;omega
theorem Q8.at {w' :World}{S:Nat→Prop}{t:Tr}{id:Int}{rv:Value}{L:List Fr}(h:Q8 w' S t id rv L){k:Nat}(hk:k<L.length):∃(g n cap b off q c pl:Nat) (u:Tr),rv= .slice (some ⟨g,0,none⟩) n cap∧n=L.length∧n≤cap∧w'.cell? ⟨g,k*2,none⟩=some (.slice (some ⟨b,off,none⟩) q c)∧w'.cell? ⟨g,k*2+1,none⟩=some (.int .i64 (pl:Int))∧pl<q∧q≤za t.kids+1∧
 w'.cell? ⟨b,off+pl*4,none⟩=some (.int .i64 u.id)∧(places L)[k]? =some pl∧atT t (((places L).drop 1).take k)=some u:=by
 obtain⟨x,r,hxr⟩:∃x r,L.drop (L.length - 1 - k)=x::r:=by
  cases hd:L.drop (L.length - 1 - k) with
  | nil=>have:=congrArg List.length hd;rw[List.length_drop,List.length_nil] at this;omega
  | cons x r=>exact⟨x,r,rfl⟩
 have hmem:∀y∈x::r,y∈L:=fun y hy=>by rw[←hxr] at hy;exact List.mem_of_mem_drop hy
 have hxk:L.reverse[k]? =some x:=by
  rw[List.getElem?_reverse hk]
  have h0:(L.drop (L.length - 1 - k))[0]? =some x:=by rw[hxr];rfl
  rwa [List.getElem?_drop,Nat.add_zero] at h0
 obtain⟨a,cap,rfl⟩:=zt h.rows
 have hcap:L.length≤cap:=by
  rcases h.rows.2 with ⟨hv,h0⟩ | ⟨_,_,_,hv,_,_,h3,_⟩
  · omega
  · cases hv;exact h3
 obtain⟨g,rfl,hn,c0,c1,_⟩:=qo.at h.rows hxk
 have hch:=JV (L.length - 1 - k) L h.chain
 rw[hxr] at hch
 obtain⟨p,u,hp,hat,hu⟩:=zcz (t:=t) (x::r) hch (fun y hy=>h.ok y (hmem y hy)) x r rfl
 have hok:=h.ok x (hmem x sp1)
 obtain⟨b0,o0,key,l,q,hd,b,off,ka,kc,ha,hSb,d0,_⟩:=(h.lies x (hmem x sp1)).1.at x.p.toNat (by have:=hok.1;have:=hok.2;omega)
 have huk:u=⟨key.1,key.2.1,key.2.2,l⟩:=by rw[zB,hd] at hu;cases hu;rfl
 have hpx:x.p=(x.p.toNat:Int):=by have:=hok.1;omega
 rw[hpx] at c1
 rw[ha] at c0
 have hl:=Zf _ h.chain x (hmem x sp1)
 rw[yH] at hl
 have hpl:places L=(places L).take (k+1)++(places L).drop (k+1):=(List.take_append_drop _ _).symm
 have hpk:=zde L k hk
 rw[hxr,hp] at hpk
 refine⟨g,L.length,cap,b,off,foLen x.f,x.cap,x.p.toNat,u,rfl,rfl,hcap,c0,c1,by have:=hok.2;have:=hok.1;omega,by omega,by rw[huk];exact d0,?_,?_⟩
 · rw[places,List.getElem?_map,hxk];rfl
 · have e:((places L).drop 1).take k=p:=by
    have h1:(places L).drop 1=((places L).take (k+1)).drop 1++(places L).drop (k+1):=by
     have h2:=List.drop_take (i:=1) (j:=k+1) (l:=places L)
     rw[h2,Nat.add_sub_cancel]
     have h3:=List.take_append_drop k ((places L).drop 1)
     rw[List.drop_drop] at h3
     rw[Nat.add_comm k 1]
     exact h3.symm
    rw[h1,←hpk]
    have hlen:p.length=k:=by
     have:=congrArg List.length hpk
     rw[List.length_take,jq,LlcQ] at this;omega
    simp[hlen]
   rw[e];exact hat
theorem Q8.path {w' :World}{S:Nat→Prop}{t:Tr}{id:Int}{rv:Value}{L:List Fr}(h:Q8 w' S t id rv L):(L= []∧zw id t=none)∨(∃p,zw id t=some p∧places L=0::p∧L.length=p.length+1):=by
 have h1:=h.is
 rw[zhA] at h1
 rcases h1 with ⟨h1,h2⟩ | ⟨h1,h2⟩
 · left
   refine⟨h1,?_⟩
   cases hp:zw id t with
   | none=>rfl
   | some p=>rw[hp] at h2;cases h2
 · right
   cases hp:zw id t with
   | none=>rw[hp] at h2;cases h2
   | some p=>
     rw[hp] at h2
     have h3:=Option.some.inj h2
     exact⟨p,rfl,h3.symm,by rw[←jq,←h3];rfl⟩
theorem Q8.kept {w w' :World}{S:Nat→Prop}{t:Tr}{id:Int}{rv:Value}{L:List Fr}(h:Q8 w S t id rv L)(hb:Below w.heap.size w w'):Q8 w' S t id rv L:=
 ⟨h.rows.kept fun g hg=>hb.block g (zi h.rows hg).2,h.ok,fun y hy=>⟨(h.lies y hy).1.kept fun k hk=>⟨hk,hb.block k (h.sl k hk)⟩,(h.lies y hy).2⟩,h.chain,h.is,h.few,fun y hy=>nL (h.sl y hy) hb.size⟩
def vz (a b:Int)(t:Tr):Bool:=match zw a t,zw b t with
 | some p,some q=>decide (lcp p q=p.length)
 | _,_=>false
theorem zg (w:World)(o:Obj):Below w.heap.size w (w.alloc o):=(BrQ _ _).alloc (NlrQ _) _
end Go.Proofs.Ytnikgofkldkdkaa
namespace Go.Proofs.Ytnikgofkldkdkaa
open Go.RowKit
theorem Try.ze9:(Try.prog.info? 3).map (fun i=>(i.zero,i.size,i.bytes))=some (some (.int .i64 0),1,8):=by kernel_rfl
def Qk (n:Int):Value:= .int .i64 n
end Go.Proofs.Ytnikgofkldkdkaa
namespace Go.Proofs.Ytnikgofkldkdkaa
open Go.RowKit Go.Shelf
def qx (p:List Nat):List Int:=p.map (fun n:Nat=>(n:Int))
theorem zZ (p:List Nat):(qx p).length=p.length:=by simp[qx]
theorem zhT (W:World)(q:Nat)(h:q≤1000000):∃zs:Array Value,zs.size=q∧(Instr.makeSlice 65 (.int .i64 (q:Int)) (.int .i64 (q:Int))).run Try.prog W= .ok (.slice (some ⟨W.heap.size,0,none⟩) q q) (W.alloc (.cells zs 3)):=by
 obtain⟨i0,hi,hz0,hz1,hz2⟩:=info_parts Try.ze9
 have hr:=run_makeSlice (P:=Try.prog) W 65 3 i0 (.int .i64 0) Try.underlying65 hi hz0 .i64 .i64 (q:Int) (q:Int) om om (by rw[hz1];omega) (by rw[hz2];omega) om
 rw[hz1] at hr
 exact⟨_,(size_madeCells _ _).trans (Nat.mul_one q),by rw[hr];simp;rfl⟩
def zcs (w:World)(p:Option (List Nat))(e:Ending)(w' :World):Prop:=∃v,e= .returned (.tuple #[v,.bool p.isSome])∧w'.ownsRow w.heap.size 3 1 v (qx (p.getD [])).length ((qx (p.getD [])).map Qk)∧Below w.heap.size w w'
def zct (W:World)(w0:World)(zs:Array Value)(p:List Nat)(k:Nat)(wr:World):Prop:=wr.ownsRow w0.heap.size 3 1 (.slice (some ⟨W.heap.size,0,none⟩) p.length p.length) p.length (((qx p).map Qk).take k++zs.toList.drop k)∧Below W.heap.size W wr
theorem zct.step {W w0 wr:World}{zs:Array Value}{p:List Nat}{k x:Nat}{o:Obj}(h:zct W w0 zs p k wr)(hz:zs.size=p.length)(hx:p[k]? =some x):zct W w0 zs p (k+1) ((wr.setCell ⟨W.heap.size,k,none⟩ (.int .i64 (x:Int))).alloc o):=by
 have hk:=(List.getElem?_eq_some_iff.1 hx).1
 have h2:=(World.ownsRow.stored h.1 k (.int .i64 (x:Int))).1
 have e:(((qx p).map Qk).take k++zs.toList.drop k).set k (.int .i64 (x:Int))=((qx p).map Qk).take (k+1)++zs.toList.drop (k+1):=by
  have hl:(((qx p).map Qk).take k).length=k:=by rw[List.length_take,List.length_map,zZ];omega
  rw[List.set_append_right _ _ om,hl,Nat.sub_self]
  have hz2:k<zs.toList.length:=by rw[Array.length_toList];omega
  rw[←List.getElem_cons_drop hz2,pgE,List.take_add_one]
  have h3:((qx p).map Qk)[k]? =some (.int .i64 (x:Int)):=by rw[List.getElem?_map,qx,List.getElem?_map,hx];rfl
  rw[h3];simp
 rw[e] at h2
 have h4:=h.2.setCell (p:=⟨W.heap.size,k,none⟩) (NlrQ _) (.int .i64 (x:Int))
 exact⟨h2.alloc o,h4.alloc h4.size o⟩
theorem ZZ (w:World)(S:Nat→Prop)(nv:Value)(t:Tr)(id:Int)(hS:∀x,S x→x<w.heap.size)(ht:zK w S nv t)(hsz:za t.kids≤400000):Calls Try.prog 88 #[nv,.int .i64 id] w (zcs w (zw id t)):=by
 obtain⟨ka,tc,rfl,hcap,hk⟩:=ht
 have hb:=zg w (.cells #[.int .i64 t.id,.int .i64 t.kind,.string t.text,.slice ka (foLen t.kids) tc] 27)
 have hway:=zfq (w.alloc (.cells #[.int .i64 t.id,.int .i64 t.kind,.string t.text,.slice ka (foLen t.kids) tc] 27)) S _ t id (fun x hx=>nL (hS x hx) hb.size) ⟨ka,tc,rfl,hcap,hk.below hb hS⟩ hsz
 have HC:=hH (aN hway hb)
 obtain⟨n,hn⟩:∃n,n=foLen t.kids:=⟨_,rfl⟩
 rw[←hn] at HC ⊢
 clear hway hb hk hcap hS hn
 go_enter Try.func88,Try.ntmps88
 go_wp2_with fail
 refine HC.out.1.mono ?_
 rintro e W ⟨rv,L,rfl,hw,hb,_⟩
 have hbW:Below w.heap.size w W:=HC.out.2.trans (hb.mono HC.out.2.size)
 rcases hw.path with ⟨rfl,hp⟩ | ⟨p,hp,hpl,hlen⟩
 · obtain⟨a,c,rfl⟩:=zt hw.rows
   have HE:=hH (aN hp hbW)
   clear hw hb hp hbW HC
   simp only[List.length_nil]
   go_wp2_with fail
   go_ret2
   exact⟨.slice none 0 0,by rw[HE.out.1];rfl,by rw[HE.out.1];exact World.ownsRow_nil _ _ _ _,HE.out.2⟩
 · obtain ⟨m,hm⟩:∃m,m=p.length:=⟨_,rfl⟩
   rw[←hm] at hlen
   obtain⟨g,n2,cap,_,_,_,_,_,_,rfl,rfl,hnc,_⟩:=hw.at (k:=0) om
   have hfew:=hw.few
   have hrow:∀(k x:Nat),p[k]? =some x→∃(a:Option Addr) (q c:Nat),W.cell? ⟨g,2+k*2,none⟩=some (.slice a q c)∧W.cell? ⟨g,2+k*2+1,none⟩=some (.int .i64 (x:Int)):=fun k x hx=>by
    obtain⟨g',_,_,b,off,q,c,pl,u2,e2,_,_,c0,c2,_,_,_,hpk2,_⟩:=hw.at (k:=k+1) (by have:=(List.getElem?_eq_some_iff.1 hx).1;omega)
    cases e2
    rw[hpl,List.getElem?_cons_succ,hx] at hpk2
    cases hpk2
    rw[show (k+1)*2=2+k*2 by omega] at c0 c2
    exact⟨_,_,_,c0,c2⟩
   rw[hlen]
   rw[hlen] at hnc hfew
   obtain⟨zs,hzs,hmk⟩:=zhT W m om
   have hgl:g<W.heap.size:=(zi hw.rows (g:=g) rfl).2
   have HST:Hid (zct W w zs p 0 (W.alloc (.cells zs 3))):=hH ⟨⟨by rw[List.take_zero,List.nil_append,List.drop_zero,Array.length_toList];omega,Or.inr ⟨W.heap.size,p.length,zs,rfl,hbW.size,hanQ W _,NlrQ _,by unfold maxLen;omega,by omega,by rw[List.take_zero,List.nil_append,List.drop_zero];rw[List.take_of_length_le (by rw[Array.length_toList];omega)]⟩⟩,zg W _⟩
   have HE:=hH (aN hp (aN hbW (aN hm (aN hrow hzs))))
   have hmb:m≤1000000:=by omega
   have hmz:((m:Int)+1 == 0)=false:=by simp;omega
   have hmw:IntKind.i64.wrap (m:Int)=(m:Int):=IntWalk.i64_in _ om
   have hm1:(1:Int)≤(m:Int)+1:=by omega
   have hcc:(m:Int)+1≤(cap:Int):=by omega
   clear hw hb hp hbW HC hlen hpl hrow hzs hfew hm
   go_wp2_with fail
   all_goals
    go_loopw [23] (fun i wr=>∃k:Nat,k≤m∧i= .int .i64 (k:Int)∧Hid (zct W w zs p k wr)) (fun i _=>m - (intOf i).toNat)
    case atStart=>exact⟨0,NzlQ _,rfl,HST⟩
    case round=>
     obtain⟨k,hk,rfl,hh⟩:=hrel
     clear HST
     by_cases hlt:k<m
     · first
        | (exfalso;omega)
        | (obtain⟨x,hx⟩:∃x,p[k]? =some x:=⟨_,List.getElem?_eq_getElem (by rw[←HE.out.2.2.1];exact hlt)⟩
           obtain⟨a,q,c,c0,c1⟩:=HE.out.2.2.2.1 k x hx
           obtain⟨v0,hv0⟩:∃v0,zs.toList[k]? =some v0:=⟨_,List.getElem?_eq_getElem (by rw[Array.length_toList,HE.out.2.2.2.2];exact hlt)⟩
           have hown:=hh.out.1
           have hcell:=World.ownsRow.cellAt hown k (by rw[←HE.out.2.2.1];omega)
           have hfz:=World.ownsRow.frozenAt hown k
           rw[List.getElem?_append_right (by rw[List.length_take,List.length_map,zZ];omega),List.length_take,List.length_map,zZ,List.getElem?_drop,show k+(k - min k p.length)=k by (have:=HE.out.2.2.1;omega),hv0] at hcell
           have d0:wr.cell? ⟨g,2+k*2,none⟩=some (.slice a q c):=(hh.out.2.cell (p:=⟨g,2+k*2,none⟩) hgl).trans c0
           have d1:wr.cell? ⟨g,2+k*2+1,none⟩=some (.int .i64 (x:Int)):=(hh.out.2.cell (p:=⟨g,2+k*2+1,none⟩) hgl).trans c1
           have hWl:W.heap.size<wr.heap.size:=(World.block_lt_of_cell? _ _ hcell)
           have hcellA:∀o,(wr.alloc o).cell? ⟨W.heap.size,k,none⟩=some v0:=fun o=>(World.cell?_of_block (BhaQ wr o W.heap.size hWl)).trans hcell
           have hfzA:∀o,(wr.alloc o).frozen? ⟨W.heap.size,k,none⟩=false:=fun o=>(World.frozen?_of_block (BhaQ wr o W.heap.size hWl)).trans hfz
           have hnx:=fun o=>hh.out.step (o:=o) (by rw[HE.out.2.2.2.2];exact HE.out.2.2.1) hx
           have HN:=hH hnx
           have hki:(k:Int)<(m:Int):=by omega
           have HLT:=hH hlt
           clear hx c0 c1 hv0 hown hcell hfz hnx hlt hk hh
           go_wp2_with fail
           exact⟨⟨k+1,by have:=HLT.out;omega,by go_num,hH (HN.out _)⟩,by have:=HLT.out;simp[intOf];omega⟩)
     · have hki:¬(k:Int)<(m:Int):=by omega
       have hkm:k=m:=by omega
       have HO:=hH (aN hh.out hkm)
       clear hh hk hlt hkm
       go_wp2_with fail
       go_ret2
       obtain⟨⟨ho,hb9⟩,hkm⟩:=HO.out
       refine⟨.slice (some ⟨W.heap.size,0,none⟩) m m,by rw[HE.out.1];rfl,?_,HE.out.2.1.trans (hb9.mono HE.out.2.1.size)⟩
       rw[HE.out.1]
       show World.ownsRow _ _ _ _ _ (qx p).length ((qx p).map Qk)
       rw[zZ]
       rw[List.take_of_length_le (by rw[List.length_map,zZ];have:=HE.out.2.2.1;omega),List.drop_eq_nil_of_le (by rw[Array.length_toList];have:=HE.out.2.2.2.2;omega),List.append_nil] at ho
       rw[HE.out.2.2.1]
       exact ho
end Go.Proofs.Ytnikgofkldkdkaa
namespace Go.Proofs.Ytnikgofkldkdkaa
open Go.RowKit
structure Sl where
 kinds:List Int
 least:Int
 most:Int
structure Kd where
 name:ByteArray
 text:Bool
 slots:List Sl
structure Gr where
 kinds:List Kd
 root:Int
instance:Inhabited Sl:=⟨⟨[],0,0⟩⟩
instance:Inhabited Kd:=⟨⟨⟨#[]⟩,false,[]⟩⟩
def vP (w:World)(a:Option Addr)(l:List Int):Prop:=
 0<l.length→∃b off,a=some ⟨b,off,none⟩∧b<w.heap.size∧∀k x,l[k]? =some x→w.cell? ⟨b,off+k,none⟩=some (.int .i64 x)
def zbK (w:World)(b o:Nat)(s:Sl):Prop:=
 ∃ka kc,w.cell? ⟨b,o,none⟩=some (.slice ka s.kinds.length kc)∧w.cell? ⟨b,o+1,none⟩=some (.int .i64 s.least)∧w.cell? ⟨b,o+2,none⟩=some (.int .i64 s.most)∧vP w ka s.kinds
def j5 (w:World)(a:Option Addr)(l:List Sl):Prop:=
 0<l.length→∃b off,a=some ⟨b,off,none⟩∧b<w.heap.size∧∀k s,l[k]? =some s→zbK w b (off+k*3) s
def zbG (w:World)(b o:Nat)(k:Kd):Prop:=
 ∃sa sc,w.cell? ⟨b,o,none⟩=some (.string k.name)∧w.cell? ⟨b,o+1,none⟩=some (.bool k.text)∧w.cell? ⟨b,o+2,none⟩=some (.slice sa k.slots.length sc)∧j5 w sa k.slots
def Ze (w:World)(a:Option Addr)(l:List Kd):Prop:=
 0<l.length→∃b off,a=some ⟨b,off,none⟩∧b<w.heap.size∧∀k x,l[k]? =some x→zbG w b (off+k*3) x
theorem vP.below {w w' :World}{a:Option Addr}{l:List Int}(h:vP w a l)(hb:Below w.heap.size w w'):vP w' a l:=fun h0=>by
 obtain⟨b,off,e,hlt,hc⟩:=h h0
 exact⟨b,off,e,nL hlt hb.size,fun k x hx=>(World.cell?_of_block (hb.block _ hlt)).trans (hc k x hx)⟩
theorem zbK.below {w w' :World}{b o:Nat}{s:Sl}(h:zbK w b o s)(hlt:b<w.heap.size)(hb:Below w.heap.size w w'):zbK w' b o s:=by
 obtain⟨ka,kc,h0,h1,h2,h3⟩:=h
 have e:∀j,w'.cell? ⟨b,j,none⟩=w.cell? ⟨b,j,none⟩:=fun j=>World.cell?_of_block (hb.block _ hlt)
 exact⟨ka,kc,(e _).trans h0,(e _).trans h1,(e _).trans h2,h3.below hb⟩
theorem j5.below {w w' :World}{a:Option Addr}{l:List Sl}(h:j5 w a l)(hb:Below w.heap.size w w'):j5 w' a l:=fun h0=>by
 obtain⟨b,off,e,hlt,hc⟩:=h h0
 exact⟨b,off,e,nL hlt hb.size,fun k x hx=>(hc k x hx).below hlt hb⟩
theorem zbG.below {w w' :World}{b o:Nat}{k:Kd}(h:zbG w b o k)(hlt:b<w.heap.size)(hb:Below w.heap.size w w'):zbG w' b o k:=by
 obtain⟨sa,sc,h0,h1,h2,h3⟩:=h
 have e:∀j,w'.cell? ⟨b,j,none⟩=w.cell? ⟨b,j,none⟩:=fun j=>World.cell?_of_block (hb.block _ hlt)
 exact⟨sa,sc,(e _).trans h0,(e _).trans h1,(e _).trans h2,h3.below hb⟩
theorem Ze.below {w w' :World}{a:Option Addr}{l:List Kd}(h:Ze w a l)(hb:Below w.heap.size w w'):Ze w' a l:=fun h0=>by
 obtain⟨b,off,e,hlt,hc⟩:=h h0
 exact⟨b,off,e,nL hlt hb.size,fun k x hx=>(hc k x hx).below hlt hb⟩
def zjC (w:World)(v:Value)(s:Sl):Prop:=∃ka kc,v= .agg #[.slice ka s.kinds.length kc,.int .i64 s.least,.int .i64 s.most]∧vP w ka s.kinds
def GrV (w:World)(v:Value)(g:Gr):Prop:=∃ka kc,v= .agg #[.slice ka g.kinds.length kc,.int .i64 g.root]∧Ze w ka g.kinds
theorem GrV.below {w w' :World}{v:Value}{g:Gr}(h:GrV w v g)(hb:Below w.heap.size w w'):GrV w' v g:=by obtain⟨ka,kc,e,h1⟩:=h;exact⟨ka,kc,e,h1.below hb⟩
theorem zio {w:World}{s:Sl}{ka:Option Addr}{kc:Nat}(h:vP w ka s.kinds):zjC w (.agg #[.slice ka s.kinds.length kc,.int .i64 s.least,.int .i64 s.most]) s:=⟨ka,kc,rfl,h⟩
theorem grV {w:World}{l:List Kd}{root:Int}{ka:Option Addr}{kc:Nat}(h:Ze w ka l):GrV w (.agg #[.slice ka l.length kc,.int .i64 root]) ⟨l,root⟩:=⟨ka,kc,rfl,h⟩
def Sl.fits (s:Sl):Prop:=(s.kinds.length:Int)≤9223372036854775807
def Kd.fits (k:Kd):Prop:=(k.name.size:Int)≤9223372036854775807∧(k.slots.length:Int)≤9223372036854775807∧∀s∈k.slots,s.fits
def Gr.fits (g:Gr):Prop:=(g.kinds.length:Int)≤9223372036854775807∧∀k∈g.kinds,k.fits
def Sl.few (s:Sl):Prop:=s.kinds.length≤1000000
def Kd.few (k:Kd):Prop:=k.name.size≤1000000∧k.slots.length≤1000000∧∀s∈k.slots,s.few
def Gr.few (g:Gr):Prop:=g.kinds.length≤1000000∧∀k∈g.kinds,k.few
def Says (b:Bool)(w:World)(e:Ending)(w' :World):Prop:=e= .returned (.bool b)∧Below w.heap.size w w'
theorem Says.mk {b c:Bool}{w w' :World}(h:b=c)(hb:Below w.heap.size w w'):Says b w (.returned (.bool c)) w':=⟨by rw[h],hb⟩
def qB (n:Int)(w:World)(e:Ending)(w' :World):Prop:=e= .returned (.int .i64 n)∧Below w.heap.size w w'
theorem qB.mk {b c:Int}{w w' :World}(h:b=c)(hb:Below w.heap.size w w'):qB b w (.returned (.int .i64 c)) w':=⟨by rw[h],hb⟩
theorem QK {α:Type}{l:List α}{k:Nat}{x:α}(h:l[k]? =some x):l.drop k=x::l.drop (k+1):=by
 obtain⟨hk,rfl⟩:=List.getElem?_eq_some_iff.1 h
 exact List.drop_eq_getElem_cons hk
theorem zhe {α:Type}{f:α→Bool}{l:List α}{k:Nat}{x:α}{r:Bool}(hr:r=(l.drop k).any f)(h:l[k]? =some x):r=(f x || (l.drop (k+1)).any f):=by rw[hr,QK h];rfl
theorem zeU {α:Type}{f:α→Bool}{l:List α}{k:Nat}{r:Bool}(hr:r=(l.drop k).any f)(h:l.length≤k):r=false:=by rw[hr,List.drop_eq_nil_of_le h];rfl
theorem zS {w:World}{k:Nat}{o:Obj}(h:w.heap[k]? =some o):k<w.heap.size:=(Array.getElem?_eq_some_iff.1 h).1
end Go.Proofs.Ytnikgofkldkdkaa
namespace Go.Proofs.Ytnikgofkldkdkaa
def rise (n:Int):Int→List Int→Bool
 | _,[]=>true
 | a,x::r=>decide (a<x) && decide (x<n) && rise n x r
theorem zaL (n:Int):∀(l:List Int) (a:Int),rise n a l=true→l= []∨(l.length:Int)+a<n
 | [],_,_=>Or.inl rfl
 | x ::r,a,h=>by
   simp only[rise,Bool.and_eq_true,decide_eq_true_eq] at h
   right
   rcases zaL n r x h.2 with h1 | h1
   · subst h1;simp;omega
   · simp only[LlcQ];omega
theorem zgg {n a:Int}{l:List Int}{k:Nat}{x:Int}{r:Bool}(hr:r=rise n a (l.drop k))(h:l[k]? =some x):r=(decide (a<x) && decide (x<n) && rise n x (l.drop (k+1))):=by rw[hr,QK h];rfl
theorem zdo {n a:Int}{l:List Int}{k:Nat}{r:Bool}(hr:r=rise n a (l.drop k))(h:l.length≤k):r=true:=by rw[hr,List.drop_eq_nil_of_le h];rfl
def vG (s:Sl):Bool:=decide (0<s.kinds.length) && decide (0≤s.least) && decide (s.least≤s.most) && decide (s.most≤1000)
def vK (n:Int)(s:Sl):Bool:=rise n (-1) s.kinds && vG s
def ZV (k:Kd):Bool:=decide (1≤k.name.size) && decide (k.name.size≤40) && decide (k.slots.length≤8)
def kindOk (n:Int)(k:Kd):Bool:=ZV k && k.slots.all (vK n)
def fresh (l:List Kd)(s:List UInt8):Bool:=l.all fun k=>decide (k.name.data.toList≠s)
def apart:List Kd→Bool
 | []=>true
 | k::r=>fresh r k.name.data.toList && apart r
def zbY (g:Gr):Bool:=decide (g.kinds.length≤32) && decide (0≤g.root) && decide (g.root<(g.kinds.length:Int))
def vg (g:Gr):Bool:=zbY g && g.kinds.all (kindOk g.kinds.length) && apart g.kinds
theorem zhb {α:Type}{f:α→Bool}{l:List α}{k:Nat}{x:α}{r:Bool}(hr:r=(l.drop k).all f)(h:l[k]? =some x):r=(f x && (l.drop (k+1)).all f):=by rw[hr,QK h];rfl
theorem ziK {α:Type}{f:α→Bool}{l:List α}{k:Nat}{r:Bool}(hr:r=(l.drop k).all f)(h:l.length≤k):r=true:=by rw[hr,List.drop_eq_nil_of_le h];rfl
theorem zae (l:List Kd)(k:Kd)(s:List UInt8):fresh (l++[k]) s=(fresh l s && decide (k.name.data.toList≠s)):=by simp[fresh]
theorem JM:∀(l:List Kd) (k:Kd),apart (l++[k])=(apart l && fresh l k.name.data.toList)
 | [],k=>by simp[apart,fresh]
 | x ::r,k=>by
   rw[List.cons_append,apart,apart,JM r k,zae]
   have e:decide (k.name.data.toList≠x.name.data.toList)=decide (x.name.data.toList≠k.name.data.toList):=by
    congr 1;simp only[ne_eq,eq_iff_iff];exact⟨fun h e=>h e.symm,fun h e=>h e.symm⟩
   rw[e]
   simp only[fresh,List.all_cons]
   cases List.all r _<;>cases apart r<;>cases decide (x.name.data.toList≠k.name.data.toList)<;>simp
theorem Yi {α:Type}{l:List α}{k:Nat}{x:α}(h:l[k]? =some x):l.take (k+1)=l.take k++[x]:=by
 rw[List.take_add_one,h];rfl
theorem zhB {l:List Kd}{s:List UInt8}{k:Nat}{x:Kd}(h:fresh l s=true)(hx:l[k]? =some x):x.name.data.toList≠s:=by
 have:=List.all_eq_true.1 h x (List.mem_of_getElem? hx)
 simpa using this
theorem zd6 {l:List Kd}{s:List UInt8}{k:Nat}{x:Kd}(hx:l[k]? =some x):fresh (l.take (k+1)) s=(fresh (l.take k) s && decide (x.name.data.toList≠s)):=by rw[Yi hx,zae]
theorem zdV {l:List Kd}{k:Nat}{x:Kd}(hx:l[k]? =some x):apart (l.take (k+1))=(apart (l.take k) && fresh (l.take k) x.name.data.toList):=by rw[Yi hx,JM]
end Go.Proofs.Ytnikgofkldkdkaa
