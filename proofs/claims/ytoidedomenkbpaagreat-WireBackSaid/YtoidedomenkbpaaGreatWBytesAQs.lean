/-
  .
-/
import Derived.Test.YtoidedomenkbpaaGreatGoodYQs
set_option maxRecDepth 100000
set_option maxHeartbeats 40000000
namespace Go.Proofs.YtoidedomenkbpaaGreat
open Go.RowKit Go.Shelf
open Extern.Stop (cell)
set_option linter.unusedVariables false
set_option linter.unusedSimpArgs false
def GW (s:List UInt8):Prop:=s.length≤100000000000
def RW (b wb:Nat)(s:List UInt8)(X:World):Prop:=ZV b wb s X∧s.length≤100000000000
theorem zm (b wb:Nat)(hne:wb≠b):qm (σ:=List UInt8) GW (RW b wb) (fun q=>q=wb) ze b 101 (.pointer (some ⟨wb,0,none⟩)) (.pointer (some ⟨wb,0,none⟩)) 259 where
 jS:=fun w=>by rfl
 enter:=fun _ _=>by rfl
 does:=fun s X n lo hi h=>(YR b wb s X n lo hi h.1).mono fun e X' hq=>⟨hq.1,fun g=>⟨hq.2.1 (by unfold GW at g;omega),g⟩,hq.2.2⟩
 keep:=fun s X X' h hk hs=>⟨h.1.keep hk hs,h.2⟩
 apart:=fun h=>hne h.symm
 inn:=fun s X q h e=>by obtain⟨⟨a,cap,h1,_⟩,_⟩:=h;rw[e];exact lohQ h1
def kP (sa:Option Addr)(an ac:Nat)(vs:List SV):List UInt8→Option ((Option Addr×Nat×Nat)×List UInt8):=fun s=>some ((sa,an,ac),s++zq (an:Int)++qd ((steps vs).map yS))
def Ya (t:Tr)(ar:Option Addr)(am ad:Nat):List UInt8→Option ((Int×Int×ByteArray×Option Addr×Nat×Nat)×List UInt8):=fun s=>some ((t.id,t.kind,t.text,ar,am,ad),s++qa t)
theorem zcx (w0 X0:World)(b wb:Nat)(hne:wb≠b)(la:Option Addr)(n c:Nat)(vs:List SV)(h0:Below w0.heap.size w0 X0)(hb:w0.heap.size≤b)(hwb:w0.heap.size≤wb)(hn:n=vs.length)(h:Row w0 la vs)(hs:zO (steps vs)=true):
 za3 GW (RW b wb) (fun q=>q=wb) (kP la n c vs) Zx b 101 (.pointer (some ⟨wb,0,none⟩)) (.pointer (some ⟨wb,0,none⟩)) 260 "allotment/wire.steps" X0 (.slice la n c) where
 jS:=fun w=>by rfl
 enter:=fun _ _=>by rfl
 does:=fun s X hR hT=>by
  have hX:=jF h0 hb (fun q e=>by rw[e];exact hwb) hT
  have hl:=Qy hs
  refine (zcz b wb s X la n c vs hn (h.on hX) hR.1 (by have:=hR.2;omega)).mono fun e X' hq=>⟨hq.1,fun g=>⟨hq.2.1 (by unfold GW at g;omega),g⟩,hq.2.2⟩
 keep:=fun s X X' h hk hs=>⟨h.1.keep hk hs,h.2⟩
 apart:=fun h=>hne h.symm
 inn:=fun s X q h e=>by obtain⟨⟨a,cap,h1,_⟩,_⟩:=h;rw[e];exact lohQ h1
theorem zcy (w0 X0:World)(b wb:Nat)(hne:wb≠b)(S:Nat→Prop)(t:Tr)(ka:Option Addr)(kn kc:Nat)(h0:Below w0.heap.size w0 X0)(hb:w0.heap.size≤b)(hwb:w0.heap.size≤wb)(hkn:kn=foLen t.kids)(hkc:foLen t.kids≤kc)(hS:∀y,S y→y<w0.heap.size)(hk:zQ w0 S t.kids ka)(ht:yj t=true):
 za3 GW (RW b wb) (fun q=>q=wb) (Ya t ka kn kc) kz b 101 (.pointer (some ⟨wb,0,none⟩)) (.pointer (some ⟨wb,0,none⟩)) 261 "allotment/wire.tree" X0 (.agg #[.int .i64 t.id,.int .i64 t.kind,.string t.text,.slice ka kn kc]) where
 jS:=fun w=>by rfl
 enter:=fun _ _=>by rfl
 does:=fun s X hR hT=>by
  have hX:=jF h0 hb (fun q e=>by rw[e];exact hwb) hT
  have hl:=Yu ht
  refine (zdY b wb s X S t ka kn kc hkn hkc (fun y hy=>nL (hS y hy) hX.size) (hk.below hX hS) hR.1 (by have:=hR.2;omega)).mono fun e X' hq=>⟨hq.1,fun g=>⟨hq.2.1 (by unfold GW at g;omega),g⟩,hq.2.2⟩
 keep:=fun s X X' h hk hs=>⟨h.1.keep hk hs,h.2⟩
 apart:=fun h=>hne h.symm
 inn:=fun s X q h e=>by obtain⟨⟨a,cap,h1,_⟩,_⟩:=h;rw[e];exact lohQ h1
abbrev WF (act:yt (List UInt8)) (b wb:Nat) (kd:Int) (F:FuncId) (X0:World) (c0:Array Value) (last:Bool):Prop:=ZR GW (RW b wb) (fun q=>q=wb) act b 101 (.pointer (some ⟨wb,0,none⟩)) kd F X0 c0 last
theorem zdW (w X0:World)(b wb:Nat)(hne:wb≠b)(kd:Int)(c0:Array Value)(sa:Option Addr)(an ac:Nat)(vs:List SV)(h0:Below w.heap.size w X0)(hb:w.heap.size≤b)(hwb:w.heap.size≤wb)(hn:an=vs.length)(h:Row w sa vs)(hs:zO (steps vs)=true)(hc:c0[11]? =some (.slice sa an ac)):WF (kU (kP sa an ac vs)) b wb kd 152 X0 c0 true where
 enter:=fun _ _=>by rfl
 does:=fun s X cs hR hT hX hm ht=>Jl sa an ac (zcx w X0 b wb hne sa an ac vs h0 hb hwb hn h hs) s X cs hR hT hX ((ht 11 om1).trans hc)
 keep:=fun h=>by cases h
theorem zfv (w X0:World)(b wb:Nat)(hne:wb≠b)(kd:Int)(c0:Array Value)(t:Tr)(ar:Option Addr)(am ad:Nat)(h0:Below w.heap.size w X0)(hb:w.heap.size≤b)(hwb:w.heap.size≤wb)(hm:am=foLen t.kids)(hcp:foLen t.kids≤ad)(hk:zQ w (fun q=>q<w.heap.size) t.kids ar)(ht0:yj t=true)(hc:c0[12]? =some (.int .i64 t.id)∧c0[13]? =some (.int .i64 t.kind)∧c0[14]? =some (.string t.text)∧c0[15]? =some (.slice ar am ad)):WF (vM (Ya t ar am ad)) b wb kd 150 X0 c0 true where
 enter:=fun _ _=>by rfl
 does:=fun s X cs hR hT hX _ ht=>zab t.id t.kind t.text ar am ad (zcy w X0 b wb hne (fun q=>q<w.heap.size) t ar am ad h0 hb hwb hm hcp (fun _ h=>h) hk ht0) s X cs hR hT hX ⟨(ht 12 om1).trans hc.1,(ht 13 om1).trans hc.2.1,(ht 14 om1).trans hc.2.2.1,(ht 15 om1).trans hc.2.2.2⟩
 keep:=fun h=>by cases h
def YS (a:yt (List UInt8)):Prop:=∀s cs s' cs',a s cs=some (s',cs')→s'.length≤s.length+2000000
theorem zC (q:Nat×Int×Int):YS (zk ze q):=fun s cs s' cs' h=>by
 simp only[zk,ze] at h
 cases h
 rw[LlaQ,zw];omega
theorem JY {sa:Option Addr}{an ac:Nat}{vs:List SV}(hs:zO (steps vs)=true):YS (kU (kP sa an ac vs)):=fun s cs s' cs' h=>by
 simp only[kU,kP] at h
 cases h
 have:=Qy hs
 rw[LlaQ,LlaQ,zw];omega
theorem za9 {t:Tr}{ar:Option Addr}{am ad:Nat}(hs:yj t=true):YS (vM (Ya t ar am ad)):=fun s cs s' cs' h=>by
 simp only[vM,Ya] at h
 cases h
 have:=Yu hs
 rw[LlaQ];omega
theorem qL:∀(l:List (yt (List UInt8))) (s:List UInt8) (cs:Array Value) (s' :List UInt8) (cs' :Array Value),(∀a∈l,YS a)→yl l s cs=some (s',cs')→s'.length≤s.length+2000000*l.length
 | [],s,cs,s',cs',_,h=>by simp only[yl] at h;cases h;simp
 | a ::r,s,cs,s',cs',hl,h=>by
   simp only[yl] at h
   split at h
   · rename_i s1 c1 h1
     have h2:=hl a (List.mem_cons_self ..) s cs s1 c1 h1
     have h3:=qL r s1 c1 s' cs' (fun x hx=>hl x (List.mem_cons_of_mem _ hx)) h
     rw[LlcQ];omega
   · cases h
theorem qN {l:List (yt (List UInt8))}(hl:∀a∈l,YS a)(hn:l.length≤100){s:List UInt8}(hs:s.length≤100)(cs:Array Value)(j:Nat)(s' :List UInt8)(cs' :Array Value)(h:yl (l.take j) s cs=some (s',cs')):GW s':=by
 have h1:=qL (l.take j) s cs s' cs' (fun a ha=>hl a (List.mem_of_mem_take ha)) h
 have h2:(l.take j).length≤100:=by rw[List.length_take];omega
 unfold GW
 omega
theorem wf1 (w X0:World)(b wb:Nat)(hne:wb≠b)(a1 a2 a3 a4 a5 a6 a7 a8 a9 a10:Int)(sa ar:Option Addr)(an ac am ad:Nat)(vs:List SV)(t:Tr)(h:zM w sa ar an am ad vs t)(h0:Below w.heap.size w X0)(hb:w.heap.size≤b)(hwb:w.heap.size≤wb)(j:Nat)(F:FuncId)(q:yt (List UInt8))(h1:([143]:List FuncId)[j]? =some F)(h2:([zk ze (zg 1)]:List (yt (List UInt8)))[j]? =some q):WF q b wb 1 F X0 #[.int .i8 1,.int .i64 a1,.int .i64 a2,.int .i64 a3,.int .i64 a4,.int .i64 a5,.int .i64 a6,.int .i64 a7,.int .i64 a8,.int .i64 a9,.int .i64 a10,.slice sa an ac,.int .i64 t.id,.int .i64 t.kind,.string t.text,.slice ar am ad] (decide (j+1=1)):=
 match j,h1,h2 with
 | 0,h1,h2=>by cases h1;cases h2;exact (zB (zm b wb hne) 1).act X0 _ _
 | j+1,h1,h2=>by simp at h1
theorem zje (a1 a2 a3 a4 a5 a6 a7 a8 a9 a10:Int)(sa ar:Option Addr)(an ac am ad:Nat)(vs:List SV)(t:Tr):yl (zk ze (zl 1)::zk ze (toQ 1):: [zk ze (zg 1)]) [zH 1] #[.int .i8 1,.int .i64 a1,.int .i64 a2,.int .i64 a3,.int .i64 a4,.int .i64 a5,.int .i64 a6,.int .i64 a7,.int .i64 a8,.int .i64 a9,.int .i64 a10,.slice sa an ac,.int .i64 t.id,.int .i64 t.kind,.string t.text,.slice ar am ad]=some ([zH 1]++zq a1++zq a2++zq a4, #[.int .i8 1,.int .i64 a1,.int .i64 a2,.int .i64 a3,.int .i64 a4,.int .i64 a5,.int .i64 a6,.int .i64 a7,.int .i64 a8,.int .i64 a9,.int .i64 a10,.slice sa an ac,.int .i64 t.id,.int .i64 t.kind,.string t.text,.slice ar am ad]):=by kernel_rfl
theorem zky (a1 a2 a3 a4 a5 a6 a7 a8 a9 a10:Int)(sa ar:Option Addr)(an ac am ad:Nat)(vs:List SV)(t:Tr):∀a∈(zk ze (zl 1)::zk ze (toQ 1):: [zk ze (zg 1)]:List (yt (List UInt8))),YS a:=fun a ha=>by
 simp only[List.mem_cons,List.not_mem_nil,or_false] at ha
 rcases ha with rfl | rfl | rfl
 · exact zC _
 · exact zC _
 · exact zC _
def qZ (a1 a2 a3 a4 a5 a6 a7 a8 a9 a10:Int)(sa ar:Option Addr)(an ac am ad:Nat)(vs:List SV)(t:Tr):List UInt8:=[zH 1]++zq a1++zq a2++zq a4
theorem ziR (w:World)(a1 a2 a3 a4 a5 a6 a7 a8 a9 a10:Int)(sa ar:Option Addr)(an ac am ad:Nat)(vs:List SV)(t:Tr)(h:zM w sa ar an am ad vs t)(hr:∀Y,Below w.heap.size w Y→Calls Tryz.prog 22 #[.agg #[.int .i8 1,.int .i64 a1,.int .i64 a2,.int .i64 a3,.int .i64 a4,.int .i64 a5,.int .i64 a6,.int .i64 a7,.int .i64 a8,.int .i64 a9,.int .i64 a10,.slice sa an ac,.int .i64 t.id,.int .i64 t.kind,.string t.text,.slice ar am ad]] Y (zX true Y)):Calls Tryz.prog 31 #[.agg #[.int .i8 1,.int .i64 a1,.int .i64 a2,.int .i64 a3,.int .i64 a4,.int .i64 a5,.int .i64 a6,.int .i64 a7,.int .i64 a8,.int .i64 a9,.int .i64 a10,.slice sa an ac,.int .i64 t.id,.int .i64 t.kind,.string t.text,.slice ar am ad]] w (qf (zy (qZ a1 a2 a3 a4 a5 a6 a7 a8 a9 a10 sa ar an ac am ad vs t)) w):=by
 have hA:=zky a1 a2 a3 a4 a5 a6 a7 a8 a9 a10 sa ar an ac am ad vs t
 have hG:=qN hA sp (s:=[zH 1]) sp #[.int .i8 1,.int .i64 a1,.int .i64 a2,.int .i64 a3,.int .i64 a4,.int .i64 a5,.int .i64 a6,.int .i64 a7,.int .i64 a8,.int .i64 a9,.int .i64 a10,.slice sa an ac,.int .i64 t.id,.int .i64 t.kind,.string t.text,.slice ar am ad]
 have hlen:(qZ a1 a2 a3 a4 a5 a6 a7 a8 a9 a10 sa ar an ac am ad vs t).length≤1000000000:=by
  have:=qL _ _ _ _ _ hA (zje a1 a2 a3 a4 a5 a6 a7 a8 a9 a10 sa ar an ac am ad vs t)
  simp only[LlcQ,List.length_nil] at this
  unfold qZ
  omega
 refine qP w 1 a1 a2 a3 a4 a5 a6 a7 a8 a9 a10 t.id t.kind sa ar an ac am ad t.text 1 rfl ue0 _ hlen hr fun wb Y hY hx hw hlt=>?_
 refine (yN (zm w.heap.size wb om1) 1 1 rfl ue0 ue0 _ rfl [zk ze (zg 1)] rfl ue0 [zH 1] Y #[.int .i8 1,.int .i64 a1,.int .i64 a2,.int .i64 a3,.int .i64 a4,.int .i64 a5,.int .i64 a6,.int .i64 a7,.int .i64 a8,.int .i64 a9,.int .i64 a10,.slice sa an ac,.int .i64 t.id,.int .i64 t.kind,.string t.text,.slice ar am ad] (wf1 w Y w.heap.size wb om1 a1 a2 a3 a4 a5 a6 a7 a8 a9 a10 sa ar an ac am ad vs t h hY (NlrQ _) om1) ⟨hw,by simp⟩ hx (zV _ _ _ _ _ _ _ _ _ _ _ _ _ _ _ _) hG).mono fun e Z hh=>?_
 rw[zje a1 a2 a3 a4 a5 a6 a7 a8 a9 a10 sa ar an ac am ad vs t] at hh
 exact⟨hh.1,hh.2.1.1,hh.2.2.2⟩
theorem wf2 (w X0:World)(b wb:Nat)(hne:wb≠b)(a1 a2 a3 a4 a5 a6 a7 a8 a9 a10:Int)(sa ar:Option Addr)(an ac am ad:Nat)(vs:List SV)(t:Tr)(h:zM w sa ar an am ad vs t)(h0:Below w.heap.size w X0)(hb:w.heap.size≤b)(hwb:w.heap.size≤wb)(j:Nat)(F:FuncId)(q:yt (List UInt8))(h1:([144,143,145,146]:List FuncId)[j]? =some F)(h2:([zk ze ((3,1,1125899906842624)),zk ze (zg 2),zk ze ((5,1,1125899906842624)),zk ze ((6,1,1125899906842624))]:List (yt (List UInt8)))[j]? =some q):WF q b wb 2 F X0 #[.int .i8 2,.int .i64 a1,.int .i64 a2,.int .i64 a3,.int .i64 a4,.int .i64 a5,.int .i64 a6,.int .i64 a7,.int .i64 a8,.int .i64 a9,.int .i64 a10,.slice sa an ac,.int .i64 t.id,.int .i64 t.kind,.string t.text,.slice ar am ad] (decide (j+1=4)):=
 match j,h1,h2 with
 | 0,h1,h2=>by cases h1;cases h2;exact (qK (zm b wb hne) 2).act X0 _ _
 | 1,h1,h2=>by cases h1;cases h2;exact (zB (zm b wb hne) 2).act X0 _ _
 | 2,h1,h2=>by cases h1;cases h2;exact (yg (zm b wb hne) 2).act X0 _ _
 | 3,h1,h2=>by cases h1;cases h2;exact (QZ (zm b wb hne) 2).act X0 _ _
 | j+4,h1,h2=>by simp at h1
theorem zjf (a1 a2 a3 a4 a5 a6 a7 a8 a9 a10:Int)(sa ar:Option Addr)(an ac am ad:Nat)(vs:List SV)(t:Tr):yl (zk ze (zl 2)::zk ze (toQ 2):: [zk ze ((3,1,1125899906842624)),zk ze (zg 2),zk ze ((5,1,1125899906842624)),zk ze ((6,1,1125899906842624))]) [zH 2] #[.int .i8 2,.int .i64 a1,.int .i64 a2,.int .i64 a3,.int .i64 a4,.int .i64 a5,.int .i64 a6,.int .i64 a7,.int .i64 a8,.int .i64 a9,.int .i64 a10,.slice sa an ac,.int .i64 t.id,.int .i64 t.kind,.string t.text,.slice ar am ad]=some ([zH 2]++zq a1++zq a2++zq a3++zq a4++zq a5++zq a6, #[.int .i8 2,.int .i64 a1,.int .i64 a2,.int .i64 a3,.int .i64 a4,.int .i64 a5,.int .i64 a6,.int .i64 a7,.int .i64 a8,.int .i64 a9,.int .i64 a10,.slice sa an ac,.int .i64 t.id,.int .i64 t.kind,.string t.text,.slice ar am ad]):=by kernel_rfl
theorem zkz (a1 a2 a3 a4 a5 a6 a7 a8 a9 a10:Int)(sa ar:Option Addr)(an ac am ad:Nat)(vs:List SV)(t:Tr):∀a∈(zk ze (zl 2)::zk ze (toQ 2):: [zk ze ((3,1,1125899906842624)),zk ze (zg 2),zk ze ((5,1,1125899906842624)),zk ze ((6,1,1125899906842624))]:List (yt (List UInt8))),YS a:=fun a ha=>by
 simp only[List.mem_cons,List.not_mem_nil,or_false] at ha
 rcases ha with rfl | rfl | rfl | rfl | rfl | rfl
 · exact zC _
 · exact zC _
 · exact zC _
 · exact zC _
 · exact zC _
 · exact zC _
def vG (a1 a2 a3 a4 a5 a6 a7 a8 a9 a10:Int)(sa ar:Option Addr)(an ac am ad:Nat)(vs:List SV)(t:Tr):List UInt8:=[zH 2]++zq a1++zq a2++zq a3++zq a4++zq a5++zq a6
theorem ziS (w:World)(a1 a2 a3 a4 a5 a6 a7 a8 a9 a10:Int)(sa ar:Option Addr)(an ac am ad:Nat)(vs:List SV)(t:Tr)(h:zM w sa ar an am ad vs t)(hr:∀Y,Below w.heap.size w Y→Calls Tryz.prog 22 #[.agg #[.int .i8 2,.int .i64 a1,.int .i64 a2,.int .i64 a3,.int .i64 a4,.int .i64 a5,.int .i64 a6,.int .i64 a7,.int .i64 a8,.int .i64 a9,.int .i64 a10,.slice sa an ac,.int .i64 t.id,.int .i64 t.kind,.string t.text,.slice ar am ad]] Y (zX true Y)):Calls Tryz.prog 31 #[.agg #[.int .i8 2,.int .i64 a1,.int .i64 a2,.int .i64 a3,.int .i64 a4,.int .i64 a5,.int .i64 a6,.int .i64 a7,.int .i64 a8,.int .i64 a9,.int .i64 a10,.slice sa an ac,.int .i64 t.id,.int .i64 t.kind,.string t.text,.slice ar am ad]] w (qf (zy (vG a1 a2 a3 a4 a5 a6 a7 a8 a9 a10 sa ar an ac am ad vs t)) w):=by
 have hA:=zkz a1 a2 a3 a4 a5 a6 a7 a8 a9 a10 sa ar an ac am ad vs t
 have hG:=qN hA sp (s:=[zH 2]) sp #[.int .i8 2,.int .i64 a1,.int .i64 a2,.int .i64 a3,.int .i64 a4,.int .i64 a5,.int .i64 a6,.int .i64 a7,.int .i64 a8,.int .i64 a9,.int .i64 a10,.slice sa an ac,.int .i64 t.id,.int .i64 t.kind,.string t.text,.slice ar am ad]
 have hlen:(vG a1 a2 a3 a4 a5 a6 a7 a8 a9 a10 sa ar an ac am ad vs t).length≤1000000000:=by
  have:=qL _ _ _ _ _ hA (zjf a1 a2 a3 a4 a5 a6 a7 a8 a9 a10 sa ar an ac am ad vs t)
  simp only[LlcQ,List.length_nil] at this
  unfold vG
  omega
 refine qP w 2 a1 a2 a3 a4 a5 a6 a7 a8 a9 a10 t.id t.kind sa ar an ac am ad t.text 2 rfl ue0 _ hlen hr fun wb Y hY hx hw hlt=>?_
 refine (yN (zm w.heap.size wb om1) 2 2 rfl ue0 ue0 _ rfl [zk ze ((3,1,1125899906842624)),zk ze (zg 2),zk ze ((5,1,1125899906842624)),zk ze ((6,1,1125899906842624))] rfl ue0 [zH 2] Y #[.int .i8 2,.int .i64 a1,.int .i64 a2,.int .i64 a3,.int .i64 a4,.int .i64 a5,.int .i64 a6,.int .i64 a7,.int .i64 a8,.int .i64 a9,.int .i64 a10,.slice sa an ac,.int .i64 t.id,.int .i64 t.kind,.string t.text,.slice ar am ad] (wf2 w Y w.heap.size wb om1 a1 a2 a3 a4 a5 a6 a7 a8 a9 a10 sa ar an ac am ad vs t h hY (NlrQ _) om1) ⟨hw,by simp⟩ hx (zV _ _ _ _ _ _ _ _ _ _ _ _ _ _ _ _) hG).mono fun e Z hh=>?_
 rw[zjf a1 a2 a3 a4 a5 a6 a7 a8 a9 a10 sa ar an ac am ad vs t] at hh
 exact⟨hh.1,hh.2.1.1,hh.2.2.2⟩
theorem wf3 (w X0:World)(b wb:Nat)(hne:wb≠b)(a1 a2 a3 a4 a5 a6 a7 a8 a9 a10:Int)(sa ar:Option Addr)(an ac am ad:Nat)(vs:List SV)(t:Tr)(h:zM w sa ar an am ad vs t)(hq:yj t=true)(h0:Below w.heap.size w X0)(hb:w.heap.size≤b)(hwb:w.heap.size≤wb)(j:Nat)(F:FuncId)(q:yt (List UInt8))(h1:([143,145,147,148,149,150]:List FuncId)[j]? =some F)(h2:([zk ze (zg 3),zk ze ((5,1,1125899906842624)),zk ze ((7,1,1125899906842624)),zk ze ((8,1,1125899906842624)),zk ze ((9,0,1125899906842624)),vM (Ya t ar am ad)]:List (yt (List UInt8)))[j]? =some q):WF q b wb 3 F X0 #[.int .i8 3,.int .i64 a1,.int .i64 a2,.int .i64 a3,.int .i64 a4,.int .i64 a5,.int .i64 a6,.int .i64 a7,.int .i64 a8,.int .i64 a9,.int .i64 a10,.slice sa an ac,.int .i64 t.id,.int .i64 t.kind,.string t.text,.slice ar am ad] (decide (j+1=6)):=
 match j,h1,h2 with
 | 0,h1,h2=>by cases h1;cases h2;exact (zB (zm b wb hne) 3).act X0 _ _
 | 1,h1,h2=>by cases h1;cases h2;exact (yg (zm b wb hne) 3).act X0 _ _
 | 2,h1,h2=>by cases h1;cases h2;exact (jU (zm b wb hne) 3).act X0 _ _
 | 3,h1,h2=>by cases h1;cases h2;exact (jT (zm b wb hne) 3).act X0 _ _
 | 4,h1,h2=>by cases h1;cases h2;exact (yK (zm b wb hne) 3).act X0 _ _
 | 5,h1,h2=>by cases h1;cases h2;exact zfv w X0 b wb hne 3 _ t ar am ad h0 hb hwb h.kids h.cap h.lies hq ⟨rfl,rfl,rfl,rfl⟩
 | j+6,h1,h2=>by simp at h1
theorem zjg (a1 a2 a3 a4 a5 a6 a7 a8 a9 a10:Int)(sa ar:Option Addr)(an ac am ad:Nat)(vs:List SV)(t:Tr):yl (zk ze (zl 3)::zk ze (toQ 3):: [zk ze (zg 3),zk ze ((5,1,1125899906842624)),zk ze ((7,1,1125899906842624)),zk ze ((8,1,1125899906842624)),zk ze ((9,0,1125899906842624)),vM (Ya t ar am ad)]) [zH 3] #[.int .i8 3,.int .i64 a1,.int .i64 a2,.int .i64 a3,.int .i64 a4,.int .i64 a5,.int .i64 a6,.int .i64 a7,.int .i64 a8,.int .i64 a9,.int .i64 a10,.slice sa an ac,.int .i64 t.id,.int .i64 t.kind,.string t.text,.slice ar am ad]=some ([zH 3]++zq a1++zq a2++zq a4++zq a5++zq a7++zq a8++zq a9++qa t, #[.int .i8 3,.int .i64 a1,.int .i64 a2,.int .i64 a3,.int .i64 a4,.int .i64 a5,.int .i64 a6,.int .i64 a7,.int .i64 a8,.int .i64 a9,.int .i64 a10,.slice sa an ac,.int .i64 t.id,.int .i64 t.kind,.string t.text,.slice ar am ad]):=by kernel_rfl
theorem zkA (a1 a2 a3 a4 a5 a6 a7 a8 a9 a10:Int)(sa ar:Option Addr)(an ac am ad:Nat)(vs:List SV)(t:Tr)(hq:yj t=true):∀a∈(zk ze (zl 3)::zk ze (toQ 3):: [zk ze (zg 3),zk ze ((5,1,1125899906842624)),zk ze ((7,1,1125899906842624)),zk ze ((8,1,1125899906842624)),zk ze ((9,0,1125899906842624)),vM (Ya t ar am ad)]:List (yt (List UInt8))),YS a:=fun a ha=>by
 simp only[List.mem_cons,List.not_mem_nil,or_false] at ha
 rcases ha with rfl | rfl | rfl | rfl | rfl | rfl | rfl | rfl
 · exact zC _
 · exact zC _
 · exact zC _
 · exact zC _
 · exact zC _
 · exact zC _
 · exact zC _
 · exact za9 hq
def vH (a1 a2 a3 a4 a5 a6 a7 a8 a9 a10:Int)(sa ar:Option Addr)(an ac am ad:Nat)(vs:List SV)(t:Tr):List UInt8:=[zH 3]++zq a1++zq a2++zq a4++zq a5++zq a7++zq a8++zq a9++qa t
theorem ziT (w:World)(a1 a2 a3 a4 a5 a6 a7 a8 a9 a10:Int)(sa ar:Option Addr)(an ac am ad:Nat)(vs:List SV)(t:Tr)(h:zM w sa ar an am ad vs t)(hq:yj t=true)(hr:∀Y,Below w.heap.size w Y→Calls Tryz.prog 22 #[.agg #[.int .i8 3,.int .i64 a1,.int .i64 a2,.int .i64 a3,.int .i64 a4,.int .i64 a5,.int .i64 a6,.int .i64 a7,.int .i64 a8,.int .i64 a9,.int .i64 a10,.slice sa an ac,.int .i64 t.id,.int .i64 t.kind,.string t.text,.slice ar am ad]] Y (zX true Y)):Calls Tryz.prog 31 #[.agg #[.int .i8 3,.int .i64 a1,.int .i64 a2,.int .i64 a3,.int .i64 a4,.int .i64 a5,.int .i64 a6,.int .i64 a7,.int .i64 a8,.int .i64 a9,.int .i64 a10,.slice sa an ac,.int .i64 t.id,.int .i64 t.kind,.string t.text,.slice ar am ad]] w (qf (zy (vH a1 a2 a3 a4 a5 a6 a7 a8 a9 a10 sa ar an ac am ad vs t)) w):=by
 have hA:=zkA a1 a2 a3 a4 a5 a6 a7 a8 a9 a10 sa ar an ac am ad vs t hq
 have hG:=qN hA sp (s:=[zH 3]) sp #[.int .i8 3,.int .i64 a1,.int .i64 a2,.int .i64 a3,.int .i64 a4,.int .i64 a5,.int .i64 a6,.int .i64 a7,.int .i64 a8,.int .i64 a9,.int .i64 a10,.slice sa an ac,.int .i64 t.id,.int .i64 t.kind,.string t.text,.slice ar am ad]
 have hlen:(vH a1 a2 a3 a4 a5 a6 a7 a8 a9 a10 sa ar an ac am ad vs t).length≤1000000000:=by
  have:=qL _ _ _ _ _ hA (zjg a1 a2 a3 a4 a5 a6 a7 a8 a9 a10 sa ar an ac am ad vs t)
  simp only[LlcQ,List.length_nil] at this
  unfold vH
  omega
 refine qP w 3 a1 a2 a3 a4 a5 a6 a7 a8 a9 a10 t.id t.kind sa ar an ac am ad t.text 3 rfl ue0 _ hlen hr fun wb Y hY hx hw hlt=>?_
 refine (yN (zm w.heap.size wb om1) 3 3 rfl ue0 ue0 _ rfl [zk ze (zg 3),zk ze ((5,1,1125899906842624)),zk ze ((7,1,1125899906842624)),zk ze ((8,1,1125899906842624)),zk ze ((9,0,1125899906842624)),vM (Ya t ar am ad)] rfl ue0 [zH 3] Y #[.int .i8 3,.int .i64 a1,.int .i64 a2,.int .i64 a3,.int .i64 a4,.int .i64 a5,.int .i64 a6,.int .i64 a7,.int .i64 a8,.int .i64 a9,.int .i64 a10,.slice sa an ac,.int .i64 t.id,.int .i64 t.kind,.string t.text,.slice ar am ad] (wf3 w Y w.heap.size wb om1 a1 a2 a3 a4 a5 a6 a7 a8 a9 a10 sa ar an ac am ad vs t h hq hY (NlrQ _) om1) ⟨hw,by simp⟩ hx (zV _ _ _ _ _ _ _ _ _ _ _ _ _ _ _ _) hG).mono fun e Z hh=>?_
 rw[zjg a1 a2 a3 a4 a5 a6 a7 a8 a9 a10 sa ar an ac am ad vs t] at hh
 exact⟨hh.1,hh.2.1.1,hh.2.2.2⟩
theorem wf4 (w X0:World)(b wb:Nat)(hne:wb≠b)(a1 a2 a3 a4 a5 a6 a7 a8 a9 a10:Int)(sa ar:Option Addr)(an ac am ad:Nat)(vs:List SV)(t:Tr)(h:zM w sa ar an am ad vs t)(h0:Below w.heap.size w X0)(hb:w.heap.size≤b)(hwb:w.heap.size≤wb)(j:Nat)(F:FuncId)(q:yt (List UInt8))(h1:([143,145,151]:List FuncId)[j]? =some F)(h2:([zk ze (zg 4),zk ze ((5,1,1125899906842624)),zk ze ((10,1,999))]:List (yt (List UInt8)))[j]? =some q):WF q b wb 4 F X0 #[.int .i8 4,.int .i64 a1,.int .i64 a2,.int .i64 a3,.int .i64 a4,.int .i64 a5,.int .i64 a6,.int .i64 a7,.int .i64 a8,.int .i64 a9,.int .i64 a10,.slice sa an ac,.int .i64 t.id,.int .i64 t.kind,.string t.text,.slice ar am ad] (decide (j+1=3)):=
 match j,h1,h2 with
 | 0,h1,h2=>by cases h1;cases h2;exact (zB (zm b wb hne) 4).act X0 _ _
 | 1,h1,h2=>by cases h1;cases h2;exact (yg (zm b wb hne) 4).act X0 _ _
 | 2,h1,h2=>by cases h1;cases h2;exact (QX (zm b wb hne) 4).act X0 _ _
 | j+3,h1,h2=>by simp at h1
theorem zjh (a1 a2 a3 a4 a5 a6 a7 a8 a9 a10:Int)(sa ar:Option Addr)(an ac am ad:Nat)(vs:List SV)(t:Tr):yl (zk ze (zl 4)::zk ze (toQ 4):: [zk ze (zg 4),zk ze ((5,1,1125899906842624)),zk ze ((10,1,999))]) [zH 4] #[.int .i8 4,.int .i64 a1,.int .i64 a2,.int .i64 a3,.int .i64 a4,.int .i64 a5,.int .i64 a6,.int .i64 a7,.int .i64 a8,.int .i64 a9,.int .i64 a10,.slice sa an ac,.int .i64 t.id,.int .i64 t.kind,.string t.text,.slice ar am ad]=some ([zH 4]++zq a1++zq a2++zq a4++zq a5++zq a10, #[.int .i8 4,.int .i64 a1,.int .i64 a2,.int .i64 a3,.int .i64 a4,.int .i64 a5,.int .i64 a6,.int .i64 a7,.int .i64 a8,.int .i64 a9,.int .i64 a10,.slice sa an ac,.int .i64 t.id,.int .i64 t.kind,.string t.text,.slice ar am ad]):=by kernel_rfl
theorem zkB (a1 a2 a3 a4 a5 a6 a7 a8 a9 a10:Int)(sa ar:Option Addr)(an ac am ad:Nat)(vs:List SV)(t:Tr):∀a∈(zk ze (zl 4)::zk ze (toQ 4):: [zk ze (zg 4),zk ze ((5,1,1125899906842624)),zk ze ((10,1,999))]:List (yt (List UInt8))),YS a:=fun a ha=>by
 exact sd6
def vI (a1 a2 a3 a4 a5 a6 a7 a8 a9 a10:Int)(sa ar:Option Addr)(an ac am ad:Nat)(vs:List SV)(t:Tr):List UInt8:=[zH 4]++zq a1++zq a2++zq a4++zq a5++zq a10
theorem ziU (w:World)(a1 a2 a3 a4 a5 a6 a7 a8 a9 a10:Int)(sa ar:Option Addr)(an ac am ad:Nat)(vs:List SV)(t:Tr)(h:zM w sa ar an am ad vs t)(hr:∀Y,Below w.heap.size w Y→Calls Tryz.prog 22 #[.agg #[.int .i8 4,.int .i64 a1,.int .i64 a2,.int .i64 a3,.int .i64 a4,.int .i64 a5,.int .i64 a6,.int .i64 a7,.int .i64 a8,.int .i64 a9,.int .i64 a10,.slice sa an ac,.int .i64 t.id,.int .i64 t.kind,.string t.text,.slice ar am ad]] Y (zX true Y)):Calls Tryz.prog 31 #[.agg #[.int .i8 4,.int .i64 a1,.int .i64 a2,.int .i64 a3,.int .i64 a4,.int .i64 a5,.int .i64 a6,.int .i64 a7,.int .i64 a8,.int .i64 a9,.int .i64 a10,.slice sa an ac,.int .i64 t.id,.int .i64 t.kind,.string t.text,.slice ar am ad]] w (qf (zy (vI a1 a2 a3 a4 a5 a6 a7 a8 a9 a10 sa ar an ac am ad vs t)) w):=by
 have hA:=zkB a1 a2 a3 a4 a5 a6 a7 a8 a9 a10 sa ar an ac am ad vs t
 have hG:=qN hA sp (s:=[zH 4]) sp #[.int .i8 4,.int .i64 a1,.int .i64 a2,.int .i64 a3,.int .i64 a4,.int .i64 a5,.int .i64 a6,.int .i64 a7,.int .i64 a8,.int .i64 a9,.int .i64 a10,.slice sa an ac,.int .i64 t.id,.int .i64 t.kind,.string t.text,.slice ar am ad]
 have hlen:(vI a1 a2 a3 a4 a5 a6 a7 a8 a9 a10 sa ar an ac am ad vs t).length≤1000000000:=by
  have:=qL _ _ _ _ _ hA (zjh a1 a2 a3 a4 a5 a6 a7 a8 a9 a10 sa ar an ac am ad vs t)
  simp only[LlcQ,List.length_nil] at this
  unfold vI
  omega
 refine qP w 4 a1 a2 a3 a4 a5 a6 a7 a8 a9 a10 t.id t.kind sa ar an ac am ad t.text 4 rfl ue0 _ hlen hr fun wb Y hY hx hw hlt=>?_
 refine (yN (zm w.heap.size wb om1) 4 4 rfl ue0 ue0 _ rfl [zk ze (zg 4),zk ze ((5,1,1125899906842624)),zk ze ((10,1,999))] rfl ue0 [zH 4] Y #[.int .i8 4,.int .i64 a1,.int .i64 a2,.int .i64 a3,.int .i64 a4,.int .i64 a5,.int .i64 a6,.int .i64 a7,.int .i64 a8,.int .i64 a9,.int .i64 a10,.slice sa an ac,.int .i64 t.id,.int .i64 t.kind,.string t.text,.slice ar am ad] (wf4 w Y w.heap.size wb om1 a1 a2 a3 a4 a5 a6 a7 a8 a9 a10 sa ar an ac am ad vs t h hY (NlrQ _) om1) ⟨hw,by simp⟩ hx (zV _ _ _ _ _ _ _ _ _ _ _ _ _ _ _ _) hG).mono fun e Z hh=>?_
 rw[zjh a1 a2 a3 a4 a5 a6 a7 a8 a9 a10 sa ar an ac am ad vs t] at hh
 exact⟨hh.1,hh.2.1.1,hh.2.2.2⟩
theorem wf5 (w X0:World)(b wb:Nat)(hne:wb≠b)(a1 a2 a3 a4 a5 a6 a7 a8 a9 a10:Int)(sa ar:Option Addr)(an ac am ad:Nat)(vs:List SV)(t:Tr)(h:zM w sa ar an am ad vs t)(hq:zO (steps vs)=true)(h0:Below w.heap.size w X0)(hb:w.heap.size≤b)(hwb:w.heap.size≤wb)(j:Nat)(F:FuncId)(q:yt (List UInt8))(h1:([144,143,145,147,148,152]:List FuncId)[j]? =some F)(h2:([zk ze ((3,1,1125899906842624)),zk ze (zg 5),zk ze ((5,1,1125899906842624)),zk ze ((7,1,1125899906842624)),zk ze ((8,1,1125899906842624)),kU (kP sa an ac vs)]:List (yt (List UInt8)))[j]? =some q):WF q b wb 5 F X0 #[.int .i8 5,.int .i64 a1,.int .i64 a2,.int .i64 a3,.int .i64 a4,.int .i64 a5,.int .i64 a6,.int .i64 a7,.int .i64 a8,.int .i64 a9,.int .i64 a10,.slice sa an ac,.int .i64 t.id,.int .i64 t.kind,.string t.text,.slice ar am ad] (decide (j+1=6)):=
 match j,h1,h2 with
 | 0,h1,h2=>by cases h1;cases h2;exact (qK (zm b wb hne) 5).act X0 _ _
 | 1,h1,h2=>by cases h1;cases h2;exact (zB (zm b wb hne) 5).act X0 _ _
 | 2,h1,h2=>by cases h1;cases h2;exact (yg (zm b wb hne) 5).act X0 _ _
 | 3,h1,h2=>by cases h1;cases h2;exact (jU (zm b wb hne) 5).act X0 _ _
 | 4,h1,h2=>by cases h1;cases h2;exact (jT (zm b wb hne) 5).act X0 _ _
 | 5,h1,h2=>by cases h1;cases h2;exact zdW w X0 b wb hne 5 _ sa an ac vs h0 hb hwb h.len h.row hq rfl
 | j+6,h1,h2=>by simp at h1
theorem zji (a1 a2 a3 a4 a5 a6 a7 a8 a9 a10:Int)(sa ar:Option Addr)(an ac am ad:Nat)(vs:List SV)(t:Tr):yl (zk ze (zl 5)::zk ze (toQ 5):: [zk ze ((3,1,1125899906842624)),zk ze (zg 5),zk ze ((5,1,1125899906842624)),zk ze ((7,1,1125899906842624)),zk ze ((8,1,1125899906842624)),kU (kP sa an ac vs)]) [zH 5] #[.int .i8 5,.int .i64 a1,.int .i64 a2,.int .i64 a3,.int .i64 a4,.int .i64 a5,.int .i64 a6,.int .i64 a7,.int .i64 a8,.int .i64 a9,.int .i64 a10,.slice sa an ac,.int .i64 t.id,.int .i64 t.kind,.string t.text,.slice ar am ad]=some ([zH 5]++zq a1++zq a2++zq a3++zq a4++zq a5++zq a7++zq a8++zq (an:Int)++qd ((steps vs).map yS), #[.int .i8 5,.int .i64 a1,.int .i64 a2,.int .i64 a3,.int .i64 a4,.int .i64 a5,.int .i64 a6,.int .i64 a7,.int .i64 a8,.int .i64 a9,.int .i64 a10,.slice sa an ac,.int .i64 t.id,.int .i64 t.kind,.string t.text,.slice ar am ad]):=by kernel_rfl
theorem zkC (a1 a2 a3 a4 a5 a6 a7 a8 a9 a10:Int)(sa ar:Option Addr)(an ac am ad:Nat)(vs:List SV)(t:Tr)(hq:zO (steps vs)=true):∀a∈(zk ze (zl 5)::zk ze (toQ 5):: [zk ze ((3,1,1125899906842624)),zk ze (zg 5),zk ze ((5,1,1125899906842624)),zk ze ((7,1,1125899906842624)),zk ze ((8,1,1125899906842624)),kU (kP sa an ac vs)]:List (yt (List UInt8))),YS a:=fun a ha=>by
 simp only[List.mem_cons,List.not_mem_nil,or_false] at ha
 rcases ha with rfl | rfl | rfl | rfl | rfl | rfl | rfl | rfl
 · exact zC _
 · exact zC _
 · exact zC _
 · exact zC _
 · exact zC _
 · exact zC _
 · exact zC _
 · exact JY hq
def vk (a1 a2 a3 a4 a5 a6 a7 a8 a9 a10:Int)(sa ar:Option Addr)(an ac am ad:Nat)(vs:List SV)(t:Tr):List UInt8:=[zH 5]++zq a1++zq a2++zq a3++zq a4++zq a5++zq a7++zq a8++zq (an:Int)++qd ((steps vs).map yS)
theorem ziV (w:World)(a1 a2 a3 a4 a5 a6 a7 a8 a9 a10:Int)(sa ar:Option Addr)(an ac am ad:Nat)(vs:List SV)(t:Tr)(h:zM w sa ar an am ad vs t)(hq:zO (steps vs)=true)(hr:∀Y,Below w.heap.size w Y→Calls Tryz.prog 22 #[.agg #[.int .i8 5,.int .i64 a1,.int .i64 a2,.int .i64 a3,.int .i64 a4,.int .i64 a5,.int .i64 a6,.int .i64 a7,.int .i64 a8,.int .i64 a9,.int .i64 a10,.slice sa an ac,.int .i64 t.id,.int .i64 t.kind,.string t.text,.slice ar am ad]] Y (zX true Y)):Calls Tryz.prog 31 #[.agg #[.int .i8 5,.int .i64 a1,.int .i64 a2,.int .i64 a3,.int .i64 a4,.int .i64 a5,.int .i64 a6,.int .i64 a7,.int .i64 a8,.int .i64 a9,.int .i64 a10,.slice sa an ac,.int .i64 t.id,.int .i64 t.kind,.string t.text,.slice ar am ad]] w (qf (zy (vk a1 a2 a3 a4 a5 a6 a7 a8 a9 a10 sa ar an ac am ad vs t)) w):=by
 have hA:=zkC a1 a2 a3 a4 a5 a6 a7 a8 a9 a10 sa ar an ac am ad vs t hq
 have hG:=qN hA sp (s:=[zH 5]) sp #[.int .i8 5,.int .i64 a1,.int .i64 a2,.int .i64 a3,.int .i64 a4,.int .i64 a5,.int .i64 a6,.int .i64 a7,.int .i64 a8,.int .i64 a9,.int .i64 a10,.slice sa an ac,.int .i64 t.id,.int .i64 t.kind,.string t.text,.slice ar am ad]
 have hlen:(vk a1 a2 a3 a4 a5 a6 a7 a8 a9 a10 sa ar an ac am ad vs t).length≤1000000000:=by
  have:=qL _ _ _ _ _ hA (zji a1 a2 a3 a4 a5 a6 a7 a8 a9 a10 sa ar an ac am ad vs t)
  simp only[LlcQ,List.length_nil] at this
  unfold vk
  omega
 refine qP w 5 a1 a2 a3 a4 a5 a6 a7 a8 a9 a10 t.id t.kind sa ar an ac am ad t.text 5 rfl ue0 _ hlen hr fun wb Y hY hx hw hlt=>?_
 refine (yN (zm w.heap.size wb om1) 5 5 rfl ue0 ue0 _ rfl [zk ze ((3,1,1125899906842624)),zk ze (zg 5),zk ze ((5,1,1125899906842624)),zk ze ((7,1,1125899906842624)),zk ze ((8,1,1125899906842624)),kU (kP sa an ac vs)] rfl ue0 [zH 5] Y #[.int .i8 5,.int .i64 a1,.int .i64 a2,.int .i64 a3,.int .i64 a4,.int .i64 a5,.int .i64 a6,.int .i64 a7,.int .i64 a8,.int .i64 a9,.int .i64 a10,.slice sa an ac,.int .i64 t.id,.int .i64 t.kind,.string t.text,.slice ar am ad] (wf5 w Y w.heap.size wb om1 a1 a2 a3 a4 a5 a6 a7 a8 a9 a10 sa ar an ac am ad vs t h hq hY (NlrQ _) om1) ⟨hw,by simp⟩ hx (zV _ _ _ _ _ _ _ _ _ _ _ _ _ _ _ _) hG).mono fun e Z hh=>?_
 rw[zji a1 a2 a3 a4 a5 a6 a7 a8 a9 a10 sa ar an ac am ad vs t] at hh
 exact⟨hh.1,hh.2.1.1,hh.2.2.2⟩
theorem wf6 (w X0:World)(b wb:Nat)(hne:wb≠b)(a1 a2 a3 a4 a5 a6 a7 a8 a9 a10:Int)(sa ar:Option Addr)(an ac am ad:Nat)(vs:List SV)(t:Tr)(h:zM w sa ar an am ad vs t)(h0:Below w.heap.size w X0)(hb:w.heap.size≤b)(hwb:w.heap.size≤wb)(j:Nat)(F:FuncId)(q:yt (List UInt8))(h1:([143,145,149]:List FuncId)[j]? =some F)(h2:([zk ze (zg 6),zk ze ((5,1,1125899906842624)),zk ze ((9,0,1125899906842624))]:List (yt (List UInt8)))[j]? =some q):WF q b wb 6 F X0 #[.int .i8 6,.int .i64 a1,.int .i64 a2,.int .i64 a3,.int .i64 a4,.int .i64 a5,.int .i64 a6,.int .i64 a7,.int .i64 a8,.int .i64 a9,.int .i64 a10,.slice sa an ac,.int .i64 t.id,.int .i64 t.kind,.string t.text,.slice ar am ad] (decide (j+1=3)):=
 match j,h1,h2 with
 | 0,h1,h2=>by cases h1;cases h2;exact (zB (zm b wb hne) 6).act X0 _ _
 | 1,h1,h2=>by cases h1;cases h2;exact (yg (zm b wb hne) 6).act X0 _ _
 | 2,h1,h2=>by cases h1;cases h2;exact (yK (zm b wb hne) 6).act X0 _ _
 | j+3,h1,h2=>by simp at h1
theorem zjj (a1 a2 a3 a4 a5 a6 a7 a8 a9 a10:Int)(sa ar:Option Addr)(an ac am ad:Nat)(vs:List SV)(t:Tr):yl (zk ze (zl 6)::zk ze (toQ 6):: [zk ze (zg 6),zk ze ((5,1,1125899906842624)),zk ze ((9,0,1125899906842624))]) [zH 6] #[.int .i8 6,.int .i64 a1,.int .i64 a2,.int .i64 a3,.int .i64 a4,.int .i64 a5,.int .i64 a6,.int .i64 a7,.int .i64 a8,.int .i64 a9,.int .i64 a10,.slice sa an ac,.int .i64 t.id,.int .i64 t.kind,.string t.text,.slice ar am ad]=some ([zH 6]++zq a1++zq a2++zq a4++zq a5++zq a9, #[.int .i8 6,.int .i64 a1,.int .i64 a2,.int .i64 a3,.int .i64 a4,.int .i64 a5,.int .i64 a6,.int .i64 a7,.int .i64 a8,.int .i64 a9,.int .i64 a10,.slice sa an ac,.int .i64 t.id,.int .i64 t.kind,.string t.text,.slice ar am ad]):=by kernel_rfl
theorem zkD (a1 a2 a3 a4 a5 a6 a7 a8 a9 a10:Int)(sa ar:Option Addr)(an ac am ad:Nat)(vs:List SV)(t:Tr):∀a∈(zk ze (zl 6)::zk ze (toQ 6):: [zk ze (zg 6),zk ze ((5,1,1125899906842624)),zk ze ((9,0,1125899906842624))]:List (yt (List UInt8))),YS a:=fun a ha=>by
 exact sd6
def qR (a1 a2 a3 a4 a5 a6 a7 a8 a9 a10:Int)(sa ar:Option Addr)(an ac am ad:Nat)(vs:List SV)(t:Tr):List UInt8:=[zH 6]++zq a1++zq a2++zq a4++zq a5++zq a9
theorem ziW (w:World)(a1 a2 a3 a4 a5 a6 a7 a8 a9 a10:Int)(sa ar:Option Addr)(an ac am ad:Nat)(vs:List SV)(t:Tr)(h:zM w sa ar an am ad vs t)(hr:∀Y,Below w.heap.size w Y→Calls Tryz.prog 22 #[.agg #[.int .i8 6,.int .i64 a1,.int .i64 a2,.int .i64 a3,.int .i64 a4,.int .i64 a5,.int .i64 a6,.int .i64 a7,.int .i64 a8,.int .i64 a9,.int .i64 a10,.slice sa an ac,.int .i64 t.id,.int .i64 t.kind,.string t.text,.slice ar am ad]] Y (zX true Y)):Calls Tryz.prog 31 #[.agg #[.int .i8 6,.int .i64 a1,.int .i64 a2,.int .i64 a3,.int .i64 a4,.int .i64 a5,.int .i64 a6,.int .i64 a7,.int .i64 a8,.int .i64 a9,.int .i64 a10,.slice sa an ac,.int .i64 t.id,.int .i64 t.kind,.string t.text,.slice ar am ad]] w (qf (zy (qR a1 a2 a3 a4 a5 a6 a7 a8 a9 a10 sa ar an ac am ad vs t)) w):=by
 have hA:=zkD a1 a2 a3 a4 a5 a6 a7 a8 a9 a10 sa ar an ac am ad vs t
 have hG:=qN hA sp (s:=[zH 6]) sp #[.int .i8 6,.int .i64 a1,.int .i64 a2,.int .i64 a3,.int .i64 a4,.int .i64 a5,.int .i64 a6,.int .i64 a7,.int .i64 a8,.int .i64 a9,.int .i64 a10,.slice sa an ac,.int .i64 t.id,.int .i64 t.kind,.string t.text,.slice ar am ad]
 have hlen:(qR a1 a2 a3 a4 a5 a6 a7 a8 a9 a10 sa ar an ac am ad vs t).length≤1000000000:=by
  have:=qL _ _ _ _ _ hA (zjj a1 a2 a3 a4 a5 a6 a7 a8 a9 a10 sa ar an ac am ad vs t)
  simp only[LlcQ,List.length_nil] at this
  unfold qR
  omega
 refine qP w 6 a1 a2 a3 a4 a5 a6 a7 a8 a9 a10 t.id t.kind sa ar an ac am ad t.text 6 rfl ue0 _ hlen hr fun wb Y hY hx hw hlt=>?_
 refine (yN (zm w.heap.size wb om1) 6 6 rfl ue0 ue0 _ rfl [zk ze (zg 6),zk ze ((5,1,1125899906842624)),zk ze ((9,0,1125899906842624))] rfl ue0 [zH 6] Y #[.int .i8 6,.int .i64 a1,.int .i64 a2,.int .i64 a3,.int .i64 a4,.int .i64 a5,.int .i64 a6,.int .i64 a7,.int .i64 a8,.int .i64 a9,.int .i64 a10,.slice sa an ac,.int .i64 t.id,.int .i64 t.kind,.string t.text,.slice ar am ad] (wf6 w Y w.heap.size wb om1 a1 a2 a3 a4 a5 a6 a7 a8 a9 a10 sa ar an ac am ad vs t h hY (NlrQ _) om1) ⟨hw,by simp⟩ hx (zV _ _ _ _ _ _ _ _ _ _ _ _ _ _ _ _) hG).mono fun e Z hh=>?_
 rw[zjj a1 a2 a3 a4 a5 a6 a7 a8 a9 a10 sa ar an ac am ad vs t] at hh
 exact⟨hh.1,hh.2.1.1,hh.2.2.2⟩
theorem wf7 (w X0:World)(b wb:Nat)(hne:wb≠b)(a1 a2 a3 a4 a5 a6 a7 a8 a9 a10:Int)(sa ar:Option Addr)(an ac am ad:Nat)(vs:List SV)(t:Tr)(h:zM w sa ar an am ad vs t)(h0:Below w.heap.size w X0)(hb:w.heap.size≤b)(hwb:w.heap.size≤wb)(j:Nat)(F:FuncId)(q:yt (List UInt8))(h1:([143,145,151]:List FuncId)[j]? =some F)(h2:([zk ze (zg 7),zk ze ((5,1,1125899906842624)),zk ze ((10,1,999))]:List (yt (List UInt8)))[j]? =some q):WF q b wb 7 F X0 #[.int .i8 7,.int .i64 a1,.int .i64 a2,.int .i64 a3,.int .i64 a4,.int .i64 a5,.int .i64 a6,.int .i64 a7,.int .i64 a8,.int .i64 a9,.int .i64 a10,.slice sa an ac,.int .i64 t.id,.int .i64 t.kind,.string t.text,.slice ar am ad] (decide (j+1=3)):=
 match j,h1,h2 with
 | 0,h1,h2=>by cases h1;cases h2;exact (zB (zm b wb hne) 7).act X0 _ _
 | 1,h1,h2=>by cases h1;cases h2;exact (yg (zm b wb hne) 7).act X0 _ _
 | 2,h1,h2=>by cases h1;cases h2;exact (QX (zm b wb hne) 7).act X0 _ _
 | j+3,h1,h2=>by simp at h1
theorem zjk (a1 a2 a3 a4 a5 a6 a7 a8 a9 a10:Int)(sa ar:Option Addr)(an ac am ad:Nat)(vs:List SV)(t:Tr):yl (zk ze (zl 7)::zk ze (toQ 7):: [zk ze (zg 7),zk ze ((5,1,1125899906842624)),zk ze ((10,1,999))]) [zH 7] #[.int .i8 7,.int .i64 a1,.int .i64 a2,.int .i64 a3,.int .i64 a4,.int .i64 a5,.int .i64 a6,.int .i64 a7,.int .i64 a8,.int .i64 a9,.int .i64 a10,.slice sa an ac,.int .i64 t.id,.int .i64 t.kind,.string t.text,.slice ar am ad]=some ([zH 7]++zq a1++zq a2++zq a4++zq a5++zq a10, #[.int .i8 7,.int .i64 a1,.int .i64 a2,.int .i64 a3,.int .i64 a4,.int .i64 a5,.int .i64 a6,.int .i64 a7,.int .i64 a8,.int .i64 a9,.int .i64 a10,.slice sa an ac,.int .i64 t.id,.int .i64 t.kind,.string t.text,.slice ar am ad]):=by kernel_rfl
theorem zkE (a1 a2 a3 a4 a5 a6 a7 a8 a9 a10:Int)(sa ar:Option Addr)(an ac am ad:Nat)(vs:List SV)(t:Tr):∀a∈(zk ze (zl 7)::zk ze (toQ 7):: [zk ze (zg 7),zk ze ((5,1,1125899906842624)),zk ze ((10,1,999))]:List (yt (List UInt8))),YS a:=fun a ha=>by
 exact sd6
def vJ (a1 a2 a3 a4 a5 a6 a7 a8 a9 a10:Int)(sa ar:Option Addr)(an ac am ad:Nat)(vs:List SV)(t:Tr):List UInt8:=[zH 7]++zq a1++zq a2++zq a4++zq a5++zq a10
theorem ziX (w:World)(a1 a2 a3 a4 a5 a6 a7 a8 a9 a10:Int)(sa ar:Option Addr)(an ac am ad:Nat)(vs:List SV)(t:Tr)(h:zM w sa ar an am ad vs t)(hr:∀Y,Below w.heap.size w Y→Calls Tryz.prog 22 #[.agg #[.int .i8 7,.int .i64 a1,.int .i64 a2,.int .i64 a3,.int .i64 a4,.int .i64 a5,.int .i64 a6,.int .i64 a7,.int .i64 a8,.int .i64 a9,.int .i64 a10,.slice sa an ac,.int .i64 t.id,.int .i64 t.kind,.string t.text,.slice ar am ad]] Y (zX true Y)):Calls Tryz.prog 31 #[.agg #[.int .i8 7,.int .i64 a1,.int .i64 a2,.int .i64 a3,.int .i64 a4,.int .i64 a5,.int .i64 a6,.int .i64 a7,.int .i64 a8,.int .i64 a9,.int .i64 a10,.slice sa an ac,.int .i64 t.id,.int .i64 t.kind,.string t.text,.slice ar am ad]] w (qf (zy (vJ a1 a2 a3 a4 a5 a6 a7 a8 a9 a10 sa ar an ac am ad vs t)) w):=by
 have hA:=zkE a1 a2 a3 a4 a5 a6 a7 a8 a9 a10 sa ar an ac am ad vs t
 have hG:=qN hA sp (s:=[zH 7]) sp #[.int .i8 7,.int .i64 a1,.int .i64 a2,.int .i64 a3,.int .i64 a4,.int .i64 a5,.int .i64 a6,.int .i64 a7,.int .i64 a8,.int .i64 a9,.int .i64 a10,.slice sa an ac,.int .i64 t.id,.int .i64 t.kind,.string t.text,.slice ar am ad]
 have hlen:(vJ a1 a2 a3 a4 a5 a6 a7 a8 a9 a10 sa ar an ac am ad vs t).length≤1000000000:=by
  have:=qL _ _ _ _ _ hA (zjk a1 a2 a3 a4 a5 a6 a7 a8 a9 a10 sa ar an ac am ad vs t)
  simp only[LlcQ,List.length_nil] at this
  unfold vJ
  omega
 refine qP w 7 a1 a2 a3 a4 a5 a6 a7 a8 a9 a10 t.id t.kind sa ar an ac am ad t.text 7 rfl ue0 _ hlen hr fun wb Y hY hx hw hlt=>?_
 refine (yN (zm w.heap.size wb om1) 7 7 rfl ue0 ue0 _ rfl [zk ze (zg 7),zk ze ((5,1,1125899906842624)),zk ze ((10,1,999))] rfl ue0 [zH 7] Y #[.int .i8 7,.int .i64 a1,.int .i64 a2,.int .i64 a3,.int .i64 a4,.int .i64 a5,.int .i64 a6,.int .i64 a7,.int .i64 a8,.int .i64 a9,.int .i64 a10,.slice sa an ac,.int .i64 t.id,.int .i64 t.kind,.string t.text,.slice ar am ad] (wf7 w Y w.heap.size wb om1 a1 a2 a3 a4 a5 a6 a7 a8 a9 a10 sa ar an ac am ad vs t h hY (NlrQ _) om1) ⟨hw,by simp⟩ hx (zV _ _ _ _ _ _ _ _ _ _ _ _ _ _ _ _) hG).mono fun e Z hh=>?_
 rw[zjk a1 a2 a3 a4 a5 a6 a7 a8 a9 a10 sa ar an ac am ad vs t] at hh
 exact⟨hh.1,hh.2.1.1,hh.2.2.2⟩
theorem wf8 (w X0:World)(b wb:Nat)(hne:wb≠b)(a1 a2 a3 a4 a5 a6 a7 a8 a9 a10:Int)(sa ar:Option Addr)(an ac am ad:Nat)(vs:List SV)(t:Tr)(h:zM w sa ar an am ad vs t)(hq:zO (steps vs)=true)(h0:Below w.heap.size w X0)(hb:w.heap.size≤b)(hwb:w.heap.size≤wb)(j:Nat)(F:FuncId)(q:yt (List UInt8))(h1:([143,149,152]:List FuncId)[j]? =some F)(h2:([zk ze (zg 8),zk ze ((9,0,1125899906842624)),kU (kP sa an ac vs)]:List (yt (List UInt8)))[j]? =some q):WF q b wb 8 F X0 #[.int .i8 8,.int .i64 a1,.int .i64 a2,.int .i64 a3,.int .i64 a4,.int .i64 a5,.int .i64 a6,.int .i64 a7,.int .i64 a8,.int .i64 a9,.int .i64 a10,.slice sa an ac,.int .i64 t.id,.int .i64 t.kind,.string t.text,.slice ar am ad] (decide (j+1=3)):=
 match j,h1,h2 with
 | 0,h1,h2=>by cases h1;cases h2;exact (zB (zm b wb hne) 8).act X0 _ _
 | 1,h1,h2=>by cases h1;cases h2;exact (yK (zm b wb hne) 8).act X0 _ _
 | 2,h1,h2=>by cases h1;cases h2;exact zdW w X0 b wb hne 8 _ sa an ac vs h0 hb hwb h.len h.row hq rfl
 | j+3,h1,h2=>by simp at h1
theorem zjl (a1 a2 a3 a4 a5 a6 a7 a8 a9 a10:Int)(sa ar:Option Addr)(an ac am ad:Nat)(vs:List SV)(t:Tr):yl (zk ze (zl 8)::zk ze (toQ 8):: [zk ze (zg 8),zk ze ((9,0,1125899906842624)),kU (kP sa an ac vs)]) [zH 8] #[.int .i8 8,.int .i64 a1,.int .i64 a2,.int .i64 a3,.int .i64 a4,.int .i64 a5,.int .i64 a6,.int .i64 a7,.int .i64 a8,.int .i64 a9,.int .i64 a10,.slice sa an ac,.int .i64 t.id,.int .i64 t.kind,.string t.text,.slice ar am ad]=some ([zH 8]++zq a1++zq a2++zq a4++zq a9++zq (an:Int)++qd ((steps vs).map yS), #[.int .i8 8,.int .i64 a1,.int .i64 a2,.int .i64 a3,.int .i64 a4,.int .i64 a5,.int .i64 a6,.int .i64 a7,.int .i64 a8,.int .i64 a9,.int .i64 a10,.slice sa an ac,.int .i64 t.id,.int .i64 t.kind,.string t.text,.slice ar am ad]):=by kernel_rfl
theorem zkF (a1 a2 a3 a4 a5 a6 a7 a8 a9 a10:Int)(sa ar:Option Addr)(an ac am ad:Nat)(vs:List SV)(t:Tr)(hq:zO (steps vs)=true):∀a∈(zk ze (zl 8)::zk ze (toQ 8):: [zk ze (zg 8),zk ze ((9,0,1125899906842624)),kU (kP sa an ac vs)]:List (yt (List UInt8))),YS a:=fun a ha=>by
 simp only[List.mem_cons,List.not_mem_nil,or_false] at ha
 rcases ha with rfl | rfl | rfl | rfl | rfl
 · exact zC _
 · exact zC _
 · exact zC _
 · exact zC _
 · exact JY hq
def vo (a1 a2 a3 a4 a5 a6 a7 a8 a9 a10:Int)(sa ar:Option Addr)(an ac am ad:Nat)(vs:List SV)(t:Tr):List UInt8:=[zH 8]++zq a1++zq a2++zq a4++zq a9++zq (an:Int)++qd ((steps vs).map yS)
theorem ziY (w:World)(a1 a2 a3 a4 a5 a6 a7 a8 a9 a10:Int)(sa ar:Option Addr)(an ac am ad:Nat)(vs:List SV)(t:Tr)(h:zM w sa ar an am ad vs t)(hq:zO (steps vs)=true)(hr:∀Y,Below w.heap.size w Y→Calls Tryz.prog 22 #[.agg #[.int .i8 8,.int .i64 a1,.int .i64 a2,.int .i64 a3,.int .i64 a4,.int .i64 a5,.int .i64 a6,.int .i64 a7,.int .i64 a8,.int .i64 a9,.int .i64 a10,.slice sa an ac,.int .i64 t.id,.int .i64 t.kind,.string t.text,.slice ar am ad]] Y (zX true Y)):Calls Tryz.prog 31 #[.agg #[.int .i8 8,.int .i64 a1,.int .i64 a2,.int .i64 a3,.int .i64 a4,.int .i64 a5,.int .i64 a6,.int .i64 a7,.int .i64 a8,.int .i64 a9,.int .i64 a10,.slice sa an ac,.int .i64 t.id,.int .i64 t.kind,.string t.text,.slice ar am ad]] w (qf (zy (vo a1 a2 a3 a4 a5 a6 a7 a8 a9 a10 sa ar an ac am ad vs t)) w):=by
 have hA:=zkF a1 a2 a3 a4 a5 a6 a7 a8 a9 a10 sa ar an ac am ad vs t hq
 have hG:=qN hA sp (s:=[zH 8]) sp #[.int .i8 8,.int .i64 a1,.int .i64 a2,.int .i64 a3,.int .i64 a4,.int .i64 a5,.int .i64 a6,.int .i64 a7,.int .i64 a8,.int .i64 a9,.int .i64 a10,.slice sa an ac,.int .i64 t.id,.int .i64 t.kind,.string t.text,.slice ar am ad]
 have hlen:(vo a1 a2 a3 a4 a5 a6 a7 a8 a9 a10 sa ar an ac am ad vs t).length≤1000000000:=by
  have:=qL _ _ _ _ _ hA (zjl a1 a2 a3 a4 a5 a6 a7 a8 a9 a10 sa ar an ac am ad vs t)
  simp only[LlcQ,List.length_nil] at this
  unfold vo
  omega
 refine qP w 8 a1 a2 a3 a4 a5 a6 a7 a8 a9 a10 t.id t.kind sa ar an ac am ad t.text 8 rfl ue0 _ hlen hr fun wb Y hY hx hw hlt=>?_
 refine (yN (zm w.heap.size wb om1) 8 8 rfl ue0 ue0 _ rfl [zk ze (zg 8),zk ze ((9,0,1125899906842624)),kU (kP sa an ac vs)] rfl ue0 [zH 8] Y #[.int .i8 8,.int .i64 a1,.int .i64 a2,.int .i64 a3,.int .i64 a4,.int .i64 a5,.int .i64 a6,.int .i64 a7,.int .i64 a8,.int .i64 a9,.int .i64 a10,.slice sa an ac,.int .i64 t.id,.int .i64 t.kind,.string t.text,.slice ar am ad] (wf8 w Y w.heap.size wb om1 a1 a2 a3 a4 a5 a6 a7 a8 a9 a10 sa ar an ac am ad vs t h hq hY (NlrQ _) om1) ⟨hw,by simp⟩ hx (zV _ _ _ _ _ _ _ _ _ _ _ _ _ _ _ _) hG).mono fun e Z hh=>?_
 rw[zjl a1 a2 a3 a4 a5 a6 a7 a8 a9 a10 sa ar an ac am ad vs t] at hh
 exact⟨hh.1,hh.2.1.1,hh.2.2.2⟩
theorem wf9 (w X0:World)(b wb:Nat)(hne:wb≠b)(a1 a2 a3 a4 a5 a6 a7 a8 a9 a10:Int)(sa ar:Option Addr)(an ac am ad:Nat)(vs:List SV)(t:Tr)(h:zM w sa ar an am ad vs t)(h0:Below w.heap.size w X0)(hb:w.heap.size≤b)(hwb:w.heap.size≤wb)(j:Nat)(F:FuncId)(q:yt (List UInt8))(h1:([144,143]:List FuncId)[j]? =some F)(h2:([zk ze ((3,1,1125899906842624)),zk ze (zg 9)]:List (yt (List UInt8)))[j]? =some q):WF q b wb 9 F X0 #[.int .i8 9,.int .i64 a1,.int .i64 a2,.int .i64 a3,.int .i64 a4,.int .i64 a5,.int .i64 a6,.int .i64 a7,.int .i64 a8,.int .i64 a9,.int .i64 a10,.slice sa an ac,.int .i64 t.id,.int .i64 t.kind,.string t.text,.slice ar am ad] (decide (j+1=2)):=
 match j,h1,h2 with
 | 0,h1,h2=>by cases h1;cases h2;exact (qK (zm b wb hne) 9).act X0 _ _
 | 1,h1,h2=>by cases h1;cases h2;exact (zB (zm b wb hne) 9).act X0 _ _
 | j+2,h1,h2=>by simp at h1
theorem zjm (a1 a2 a3 a4 a5 a6 a7 a8 a9 a10:Int)(sa ar:Option Addr)(an ac am ad:Nat)(vs:List SV)(t:Tr):yl (zk ze (zl 9)::zk ze (toQ 9):: [zk ze ((3,1,1125899906842624)),zk ze (zg 9)]) [zH 9] #[.int .i8 9,.int .i64 a1,.int .i64 a2,.int .i64 a3,.int .i64 a4,.int .i64 a5,.int .i64 a6,.int .i64 a7,.int .i64 a8,.int .i64 a9,.int .i64 a10,.slice sa an ac,.int .i64 t.id,.int .i64 t.kind,.string t.text,.slice ar am ad]=some ([zH 9]++zq a1++zq a2++zq a3++zq a4, #[.int .i8 9,.int .i64 a1,.int .i64 a2,.int .i64 a3,.int .i64 a4,.int .i64 a5,.int .i64 a6,.int .i64 a7,.int .i64 a8,.int .i64 a9,.int .i64 a10,.slice sa an ac,.int .i64 t.id,.int .i64 t.kind,.string t.text,.slice ar am ad]):=by kernel_rfl
theorem zkG (a1 a2 a3 a4 a5 a6 a7 a8 a9 a10:Int)(sa ar:Option Addr)(an ac am ad:Nat)(vs:List SV)(t:Tr):∀a∈(zk ze (zl 9)::zk ze (toQ 9):: [zk ze ((3,1,1125899906842624)),zk ze (zg 9)]:List (yt (List UInt8))),YS a:=fun a ha=>by
 simp only[List.mem_cons,List.not_mem_nil,or_false] at ha
 rcases ha with rfl | rfl | rfl | rfl
 · exact zC _
 · exact zC _
 · exact zC _
 · exact zC _
def vK (a1 a2 a3 a4 a5 a6 a7 a8 a9 a10:Int)(sa ar:Option Addr)(an ac am ad:Nat)(vs:List SV)(t:Tr):List UInt8:=[zH 9]++zq a1++zq a2++zq a3++zq a4
theorem ziZ (w:World)(a1 a2 a3 a4 a5 a6 a7 a8 a9 a10:Int)(sa ar:Option Addr)(an ac am ad:Nat)(vs:List SV)(t:Tr)(h:zM w sa ar an am ad vs t)(hr:∀Y,Below w.heap.size w Y→Calls Tryz.prog 22 #[.agg #[.int .i8 9,.int .i64 a1,.int .i64 a2,.int .i64 a3,.int .i64 a4,.int .i64 a5,.int .i64 a6,.int .i64 a7,.int .i64 a8,.int .i64 a9,.int .i64 a10,.slice sa an ac,.int .i64 t.id,.int .i64 t.kind,.string t.text,.slice ar am ad]] Y (zX true Y)):Calls Tryz.prog 31 #[.agg #[.int .i8 9,.int .i64 a1,.int .i64 a2,.int .i64 a3,.int .i64 a4,.int .i64 a5,.int .i64 a6,.int .i64 a7,.int .i64 a8,.int .i64 a9,.int .i64 a10,.slice sa an ac,.int .i64 t.id,.int .i64 t.kind,.string t.text,.slice ar am ad]] w (qf (zy (vK a1 a2 a3 a4 a5 a6 a7 a8 a9 a10 sa ar an ac am ad vs t)) w):=by
 have hA:=zkG a1 a2 a3 a4 a5 a6 a7 a8 a9 a10 sa ar an ac am ad vs t
 have hG:=qN hA sp (s:=[zH 9]) sp #[.int .i8 9,.int .i64 a1,.int .i64 a2,.int .i64 a3,.int .i64 a4,.int .i64 a5,.int .i64 a6,.int .i64 a7,.int .i64 a8,.int .i64 a9,.int .i64 a10,.slice sa an ac,.int .i64 t.id,.int .i64 t.kind,.string t.text,.slice ar am ad]
 have hlen:(vK a1 a2 a3 a4 a5 a6 a7 a8 a9 a10 sa ar an ac am ad vs t).length≤1000000000:=by
  have:=qL _ _ _ _ _ hA (zjm a1 a2 a3 a4 a5 a6 a7 a8 a9 a10 sa ar an ac am ad vs t)
  simp only[LlcQ,List.length_nil] at this
  unfold vK
  omega
 refine qP w 9 a1 a2 a3 a4 a5 a6 a7 a8 a9 a10 t.id t.kind sa ar an ac am ad t.text 9 rfl ue0 _ hlen hr fun wb Y hY hx hw hlt=>?_
 refine (yN (zm w.heap.size wb om1) 9 9 rfl ue0 ue0 _ rfl [zk ze ((3,1,1125899906842624)),zk ze (zg 9)] rfl ue0 [zH 9] Y #[.int .i8 9,.int .i64 a1,.int .i64 a2,.int .i64 a3,.int .i64 a4,.int .i64 a5,.int .i64 a6,.int .i64 a7,.int .i64 a8,.int .i64 a9,.int .i64 a10,.slice sa an ac,.int .i64 t.id,.int .i64 t.kind,.string t.text,.slice ar am ad] (wf9 w Y w.heap.size wb om1 a1 a2 a3 a4 a5 a6 a7 a8 a9 a10 sa ar an ac am ad vs t h hY (NlrQ _) om1) ⟨hw,by simp⟩ hx (zV _ _ _ _ _ _ _ _ _ _ _ _ _ _ _ _) hG).mono fun e Z hh=>?_
 rw[zjm a1 a2 a3 a4 a5 a6 a7 a8 a9 a10 sa ar an ac am ad vs t] at hh
 exact⟨hh.1,hh.2.1.1,hh.2.2.2⟩
theorem zlU (w X0:World)(b wb:Nat)(hne:wb≠b)(a1 a2 a3 a4 a5 a6 a7 a8 a9 a10:Int)(sa ar:Option Addr)(an ac am ad:Nat)(vs:List SV)(t:Tr)(h:zM w sa ar an am ad vs t)(hq:yj t=true)(h0:Below w.heap.size w X0)(hb:w.heap.size≤b)(hwb:w.heap.size≤wb)(j:Nat)(F:FuncId)(q:yt (List UInt8))(h1:([143,149,150]:List FuncId)[j]? =some F)(h2:([zk ze (zg 10),zk ze ((9,0,1125899906842624)),vM (Ya t ar am ad)]:List (yt (List UInt8)))[j]? =some q):WF q b wb 10 F X0 #[.int .i8 10,.int .i64 a1,.int .i64 a2,.int .i64 a3,.int .i64 a4,.int .i64 a5,.int .i64 a6,.int .i64 a7,.int .i64 a8,.int .i64 a9,.int .i64 a10,.slice sa an ac,.int .i64 t.id,.int .i64 t.kind,.string t.text,.slice ar am ad] (decide (j+1=3)):=
 match j,h1,h2 with
 | 0,h1,h2=>by cases h1;cases h2;exact (zB (zm b wb hne) 10).act X0 _ _
 | 1,h1,h2=>by cases h1;cases h2;exact (yK (zm b wb hne) 10).act X0 _ _
 | 2,h1,h2=>by cases h1;cases h2;exact zfv w X0 b wb hne 10 _ t ar am ad h0 hb hwb h.kids h.cap h.lies hq ⟨rfl,rfl,rfl,rfl⟩
 | j+3,h1,h2=>by simp at h1
theorem zh3 (a1 a2 a3 a4 a5 a6 a7 a8 a9 a10:Int)(sa ar:Option Addr)(an ac am ad:Nat)(vs:List SV)(t:Tr):yl (zk ze (zl 10)::zk ze (toQ 10):: [zk ze (zg 10),zk ze ((9,0,1125899906842624)),vM (Ya t ar am ad)]) [zH 10] #[.int .i8 10,.int .i64 a1,.int .i64 a2,.int .i64 a3,.int .i64 a4,.int .i64 a5,.int .i64 a6,.int .i64 a7,.int .i64 a8,.int .i64 a9,.int .i64 a10,.slice sa an ac,.int .i64 t.id,.int .i64 t.kind,.string t.text,.slice ar am ad]=some ([zH 10]++zq a1++zq a2++zq a4++zq a9++qa t, #[.int .i8 10,.int .i64 a1,.int .i64 a2,.int .i64 a3,.int .i64 a4,.int .i64 a5,.int .i64 a6,.int .i64 a7,.int .i64 a8,.int .i64 a9,.int .i64 a10,.slice sa an ac,.int .i64 t.id,.int .i64 t.kind,.string t.text,.slice ar am ad]):=by kernel_rfl
theorem ziQ (a1 a2 a3 a4 a5 a6 a7 a8 a9 a10:Int)(sa ar:Option Addr)(an ac am ad:Nat)(vs:List SV)(t:Tr)(hq:yj t=true):∀a∈(zk ze (zl 10)::zk ze (toQ 10):: [zk ze (zg 10),zk ze ((9,0,1125899906842624)),vM (Ya t ar am ad)]:List (yt (List UInt8))),YS a:=fun a ha=>by
 simp only[List.mem_cons,List.not_mem_nil,or_false] at ha
 rcases ha with rfl | rfl | rfl | rfl | rfl
 · exact zC _
 · exact zC _
 · exact zC _
 · exact zC _
 · exact za9 hq
def yX (a1 a2 a3 a4 a5 a6 a7 a8 a9 a10:Int)(sa ar:Option Addr)(an ac am ad:Nat)(vs:List SV)(t:Tr):List UInt8:=[zH 10]++zq a1++zq a2++zq a4++zq a9++qa t
theorem zhX (w:World)(a1 a2 a3 a4 a5 a6 a7 a8 a9 a10:Int)(sa ar:Option Addr)(an ac am ad:Nat)(vs:List SV)(t:Tr)(h:zM w sa ar an am ad vs t)(hq:yj t=true)(hr:∀Y,Below w.heap.size w Y→Calls Tryz.prog 22 #[.agg #[.int .i8 10,.int .i64 a1,.int .i64 a2,.int .i64 a3,.int .i64 a4,.int .i64 a5,.int .i64 a6,.int .i64 a7,.int .i64 a8,.int .i64 a9,.int .i64 a10,.slice sa an ac,.int .i64 t.id,.int .i64 t.kind,.string t.text,.slice ar am ad]] Y (zX true Y)):Calls Tryz.prog 31 #[.agg #[.int .i8 10,.int .i64 a1,.int .i64 a2,.int .i64 a3,.int .i64 a4,.int .i64 a5,.int .i64 a6,.int .i64 a7,.int .i64 a8,.int .i64 a9,.int .i64 a10,.slice sa an ac,.int .i64 t.id,.int .i64 t.kind,.string t.text,.slice ar am ad]] w (qf (zy (yX a1 a2 a3 a4 a5 a6 a7 a8 a9 a10 sa ar an ac am ad vs t)) w):=by
 have hA:=ziQ a1 a2 a3 a4 a5 a6 a7 a8 a9 a10 sa ar an ac am ad vs t hq
 have hG:=qN hA sp (s:=[zH 10]) sp #[.int .i8 10,.int .i64 a1,.int .i64 a2,.int .i64 a3,.int .i64 a4,.int .i64 a5,.int .i64 a6,.int .i64 a7,.int .i64 a8,.int .i64 a9,.int .i64 a10,.slice sa an ac,.int .i64 t.id,.int .i64 t.kind,.string t.text,.slice ar am ad]
 have hlen:(yX a1 a2 a3 a4 a5 a6 a7 a8 a9 a10 sa ar an ac am ad vs t).length≤1000000000:=by
  have:=qL _ _ _ _ _ hA (zh3 a1 a2 a3 a4 a5 a6 a7 a8 a9 a10 sa ar an ac am ad vs t)
  simp only[LlcQ,List.length_nil] at this
  unfold yX
  omega
 refine qP w 10 a1 a2 a3 a4 a5 a6 a7 a8 a9 a10 t.id t.kind sa ar an ac am ad t.text 10 rfl ue0 _ hlen hr fun wb Y hY hx hw hlt=>?_
 refine (yN (zm w.heap.size wb om1) 10 10 rfl ue0 ue0 _ rfl [zk ze (zg 10),zk ze ((9,0,1125899906842624)),vM (Ya t ar am ad)] rfl ue0 [zH 10] Y #[.int .i8 10,.int .i64 a1,.int .i64 a2,.int .i64 a3,.int .i64 a4,.int .i64 a5,.int .i64 a6,.int .i64 a7,.int .i64 a8,.int .i64 a9,.int .i64 a10,.slice sa an ac,.int .i64 t.id,.int .i64 t.kind,.string t.text,.slice ar am ad] (zlU w Y w.heap.size wb om1 a1 a2 a3 a4 a5 a6 a7 a8 a9 a10 sa ar an ac am ad vs t h hq hY (NlrQ _) om1) ⟨hw,by simp⟩ hx (zV _ _ _ _ _ _ _ _ _ _ _ _ _ _ _ _) hG).mono fun e Z hh=>?_
 rw[zh3 a1 a2 a3 a4 a5 a6 a7 a8 a9 a10 sa ar an ac am ad vs t] at hh
 exact⟨hh.1,hh.2.1.1,hh.2.2.2⟩
end Go.Proofs.YtoidedomenkbpaaGreat
