/-
  .
-/
import Derived.Test.YtoidedomenkbpaaGreatWBoundQr
import Derived.Test.YtoidedomenkbpaaGreatWBytesQr
set_option maxRecDepth 100000
set_option maxHeartbeats 40000000
namespace Go.Proofs.YtoidedomenkbpaaGreat
open Go.RowKit Go.Shelf
open Extern.Stop (cell)
set_option linter.unusedVariables false
set_option linter.unusedSimpArgs false
def GW (s:List UInt8):Prop:=s.length≤100000000000
def RW (b wb:Nat)(s:List UInt8)(X:World):Prop:=ko b wb s X∧s.length≤100000000000
theorem zn (b wb:Nat)(hne:wb≠b):yQ (σ:=List UInt8) GW (RW b wb) (fun q=>q=wb) za b 101 (.pointer (some ⟨wb,0,none⟩)) (.pointer (some ⟨wb,0,none⟩)) 259 where
 jH:=fun w=>by rfl
 enter:=fun _ _=>by rfl
 does:=fun s X n lo hi h=>(ZI b wb s X n lo hi h.1).mono fun e X' hq=>⟨hq.1,fun g=>⟨hq.2.1 (by unfold GW at g;omega),g⟩,hq.2.2⟩
 keep:=fun s X X' h hk hs=>⟨h.1.keep hk hs,h.2⟩
 apart:=fun h=>hne h.symm
 inn:=fun s X q h e=>by obtain⟨⟨a,cap,h1,_⟩,_⟩:=h;rw[e];exact lohQ h1
def jh (sa:Option Addr)(an ac:Nat)(vs:List SV):List UInt8→Option ((Option Addr×Nat×Nat)×List UInt8):=fun s=>some ((sa,an,ac),s++zq (an:Int)++qw ((steps vs).map vQ))
def kL (t:Tr)(ar:Option Addr)(am ad:Nat):List UInt8→Option ((Int×Int×ByteArray×Option Addr×Nat×Nat)×List UInt8):=fun s=>some ((t.id,t.kind,t.text,ar,am,ad),s++qA t)
theorem zau (w0 X0:World)(b wb:Nat)(hne:wb≠b)(la:Option Addr)(n c:Nat)(vs:List SV)(h0:Below w0.heap.size w0 X0)(hb:w0.heap.size≤b)(hwb:w0.heap.size≤wb)(hn:n=vs.length)(h:Row w0 la vs)(hs:zM (steps vs)=true):
 Jk GW (RW b wb) (fun q=>q=wb) (jh la n c vs) zam b 101 (.pointer (some ⟨wb,0,none⟩)) (.pointer (some ⟨wb,0,none⟩)) 260 "allotment/wire.steps" X0 (.slice la n c) where
 jH:=fun w=>by rfl
 enter:=fun _ _=>by rfl
 does:=fun s X hR hT=>by
  have hX:=vM h0 hb (fun q e=>by rw[e];exact hwb) hT
  have hl:=jk hs
  refine (zaw b wb s X la n c vs hn (h.on hX) hR.1 (by have:=hR.2;omega)).mono fun e X' hq=>⟨hq.1,fun g=>⟨hq.2.1 (by unfold GW at g;omega),g⟩,hq.2.2⟩
 keep:=fun s X X' h hk hs=>⟨h.1.keep hk hs,h.2⟩
 apart:=fun h=>hne h.symm
 inn:=fun s X q h e=>by obtain⟨⟨a,cap,h1,_⟩,_⟩:=h;rw[e];exact lohQ h1
theorem zav (w0 X0:World)(b wb:Nat)(hne:wb≠b)(S:Nat→Prop)(t:Tr)(ka:Option Addr)(kn kc:Nat)(h0:Below w0.heap.size w0 X0)(hb:w0.heap.size≤b)(hwb:w0.heap.size≤wb)(hkn:kn=foLen t.kids)(hkc:foLen t.kids≤kc)(hS:∀y,S y→y<w0.heap.size)(hk:zK w0 S t.kids ka)(ht:zU t=true):
 Jk GW (RW b wb) (fun q=>q=wb) (kL t ka kn kc) Qk b 101 (.pointer (some ⟨wb,0,none⟩)) (.pointer (some ⟨wb,0,none⟩)) 261 "allotment/wire.tree" X0 (.agg #[.int .i64 t.id,.int .i64 t.kind,.string t.text,.slice ka kn kc]) where
 jH:=fun w=>by rfl
 enter:=fun _ _=>by rfl
 does:=fun s X hR hT=>by
  have hX:=vM h0 hb (fun q e=>by rw[e];exact hwb) hT
  have hl:=ja ht
  refine (zbX b wb s X S t ka kn kc hkn hkc (fun y hy=>nL (hS y hy) hX.size) (hk.below hX hS) hR.1 (by have:=hR.2;omega)).mono fun e X' hq=>⟨hq.1,fun g=>⟨hq.2.1 (by unfold GW at g;omega),g⟩,hq.2.2⟩
 keep:=fun s X X' h hk hs=>⟨h.1.keep hk hs,h.2⟩
 apart:=fun h=>hne h.symm
 inn:=fun s X q h e=>by obtain⟨⟨a,cap,h1,_⟩,_⟩:=h;rw[e];exact lohQ h1
abbrev WF (act:yj (List UInt8)) (b wb:Nat) (kd:Int) (F:FuncId) (X0:World) (c0:Array Value) (last:Bool):Prop:=JV GW (RW b wb) (fun q=>q=wb) act b 101 (.pointer (some ⟨wb,0,none⟩)) kd F X0 c0 last
theorem zbW (w X0:World)(b wb:Nat)(hne:wb≠b)(kd:Int)(c0:Array Value)(sa:Option Addr)(an ac:Nat)(vs:List SV)(h0:Below w.heap.size w X0)(hb:w.heap.size≤b)(hwb:w.heap.size≤wb)(hn:an=vs.length)(h:Row w sa vs)(hs:zM (steps vs)=true)(hc:c0[11]? =some (.slice sa an ac)):WF (ji (jh sa an ac vs)) b wb kd 152 X0 c0 true where
 enter:=fun _ _=>by rfl
 does:=fun s X cs hR hT hX hm ht=>YL sa an ac (zau w X0 b wb hne sa an ac vs h0 hb hwb hn h hs) s X cs hR hT hX ((ht 11 om).trans hc)
 keep:=fun h=>by cases h
theorem zdn (w X0:World)(b wb:Nat)(hne:wb≠b)(kd:Int)(c0:Array Value)(t:Tr)(ar:Option Addr)(am ad:Nat)(h0:Below w.heap.size w X0)(hb:w.heap.size≤b)(hwb:w.heap.size≤wb)(hm:am=foLen t.kids)(hcp:foLen t.kids≤ad)(hk:zK w (fun q=>q<w.heap.size) t.kids ar)(ht0:zU t=true)(hc:c0[12]? =some (.int .i64 t.id)∧c0[13]? =some (.int .i64 t.kind)∧c0[14]? =some (.string t.text)∧c0[15]? =some (.slice ar am ad)):WF (qG (kL t ar am ad)) b wb kd 150 X0 c0 true where
 enter:=fun _ _=>by rfl
 does:=fun s X cs hR hT hX _ ht=>QA t.id t.kind t.text ar am ad (zav w X0 b wb hne (fun q=>q<w.heap.size) t ar am ad h0 hb hwb hm hcp (fun _ h=>h) hk ht0) s X cs hR hT hX ⟨(ht 12 om).trans hc.1,(ht 13 om).trans hc.2.1,(ht 14 om).trans hc.2.2.1,(ht 15 om).trans hc.2.2.2⟩
 keep:=fun h=>by cases h
def ZJ (a:yj (List UInt8)):Prop:=∀s cs s' cs',a s cs=some (s',cs')→s'.length≤s.length+2000000
theorem zz (q:Nat×Int×Int):ZJ (zk za q):=fun s cs s' cs' h=>by
 simp only[zk,za] at h
 cases h
 rw[LlaQ,zH];omega
theorem Qu {sa:Option Addr}{an ac:Nat}{vs:List SV}(hs:zM (steps vs)=true):ZJ (ji (jh sa an ac vs)):=fun s cs s' cs' h=>by
 simp only[ji,jh] at h
 cases h
 have:=jk hs
 rw[LlaQ,LlaQ,zH];omega
theorem Jn {t:Tr}{ar:Option Addr}{am ad:Nat}(hs:zU t=true):ZJ (qG (kL t ar am ad)):=fun s cs s' cs' h=>by
 simp only[qG,kL] at h
 cases h
 have:=ja hs
 rw[LlaQ];omega
theorem zV:∀(l:List (yj (List UInt8))) (s:List UInt8) (cs:Array Value) (s' :List UInt8) (cs' :Array Value),(∀a∈l,ZJ a)→yz l s cs=some (s',cs')→s'.length≤s.length+2000000*l.length
 | [],s,cs,s',cs',_,h=>by simp only[yz] at h;cases h;simp
 | a ::r,s,cs,s',cs',hl,h=>by
   simp only[yz] at h
   split at h
   · rename_i s1 c1 h1
     have h2:=hl a (List.mem_cons_self ..) s cs s1 c1 h1
     have h3:=zV r s1 c1 s' cs' (fun x hx=>hl x (List.mem_cons_of_mem _ hx)) h
     rw[LlcQ];omega
   · cases h
theorem qi {l:List (yj (List UInt8))}(hl:∀a∈l,ZJ a)(hn:l.length≤100){s:List UInt8}(hs:s.length≤100)(cs:Array Value)(j:Nat)(s' :List UInt8)(cs' :Array Value)(h:yz (l.take j) s cs=some (s',cs')):GW s':=by
 have h1:=zV (l.take j) s cs s' cs' (fun a ha=>hl a (List.mem_of_mem_take ha)) h
 have h2:(l.take j).length≤100:=by rw[List.length_take];omega
 unfold GW
 omega
theorem wf1 (w X0:World)(b wb:Nat)(hne:wb≠b)(a1 a2 a3 a4 a5 a6 a7 a8 a9 a10:Int)(sa ar:Option Addr)(an ac am ad:Nat)(vs:List SV)(t:Tr)(h:zJ w sa ar an am ad vs t)(h0:Below w.heap.size w X0)(hb:w.heap.size≤b)(hwb:w.heap.size≤wb)(j:Nat)(F:FuncId)(q:yj (List UInt8))(h1:([143]:List FuncId)[j]? =some F)(h2:([zk za (ze 1)]:List (yj (List UInt8)))[j]? =some q):WF q b wb 1 F X0 #[.int .i8 1,.int .i64 a1,.int .i64 a2,.int .i64 a3,.int .i64 a4,.int .i64 a5,.int .i64 a6,.int .i64 a7,.int .i64 a8,.int .i64 a9,.int .i64 a10,.slice sa an ac,.int .i64 t.id,.int .i64 t.kind,.string t.text,.slice ar am ad] (decide (j+1=1)):=
 match j,h1,h2 with
 | 0,h1,h2=>by cases h1;cases h2;exact (zN (zn b wb hne) 1).act X0 _ _
 | j+1,h1,h2=>by simp at h1
theorem zfH (a1 a2 a3 a4 a5 a6 a7 a8 a9 a10:Int)(sa ar:Option Addr)(an ac am ad:Nat)(vs:List SV)(t:Tr):yz (zk za (zt 1)::zk za (toQ 1):: [zk za (ze 1)]) [zm 1] #[.int .i8 1,.int .i64 a1,.int .i64 a2,.int .i64 a3,.int .i64 a4,.int .i64 a5,.int .i64 a6,.int .i64 a7,.int .i64 a8,.int .i64 a9,.int .i64 a10,.slice sa an ac,.int .i64 t.id,.int .i64 t.kind,.string t.text,.slice ar am ad]=some ([zm 1]++zq a1++zq a2++zq a4, #[.int .i8 1,.int .i64 a1,.int .i64 a2,.int .i64 a3,.int .i64 a4,.int .i64 a5,.int .i64 a6,.int .i64 a7,.int .i64 a8,.int .i64 a9,.int .i64 a10,.slice sa an ac,.int .i64 t.id,.int .i64 t.kind,.string t.text,.slice ar am ad]):=by kernel_rfl
theorem zfv (a1 a2 a3 a4 a5 a6 a7 a8 a9 a10:Int)(sa ar:Option Addr)(an ac am ad:Nat)(vs:List SV)(t:Tr):∀a∈(zk za (zt 1)::zk za (toQ 1):: [zk za (ze 1)]:List (yj (List UInt8))),ZJ a:=fun a ha=>by
 simp only[List.mem_cons,List.not_mem_nil,or_false] at ha
 rcases ha with rfl | rfl | rfl
 · exact zz _
 · exact zz _
 · exact zz _
def Jc (a1 a2 a3 a4 a5 a6 a7 a8 a9 a10:Int)(sa ar:Option Addr)(an ac am ad:Nat)(vs:List SV)(t:Tr):List UInt8:=[zm 1]++zq a1++zq a2++zq a4
theorem zgE (w:World)(a1 a2 a3 a4 a5 a6 a7 a8 a9 a10:Int)(sa ar:Option Addr)(an ac am ad:Nat)(vs:List SV)(t:Tr)(h:zJ w sa ar an am ad vs t)(hr:∀Y,Below w.heap.size w Y→Calls Tryz.prog 22 #[.agg #[.int .i8 1,.int .i64 a1,.int .i64 a2,.int .i64 a3,.int .i64 a4,.int .i64 a5,.int .i64 a6,.int .i64 a7,.int .i64 a8,.int .i64 a9,.int .i64 a10,.slice sa an ac,.int .i64 t.id,.int .i64 t.kind,.string t.text,.slice ar am ad]] Y (zx true Y)):Calls Tryz.prog 31 #[.agg #[.int .i8 1,.int .i64 a1,.int .i64 a2,.int .i64 a3,.int .i64 a4,.int .i64 a5,.int .i64 a6,.int .i64 a7,.int .i64 a8,.int .i64 a9,.int .i64 a10,.slice sa an ac,.int .i64 t.id,.int .i64 t.kind,.string t.text,.slice ar am ad]] w (jV (zS (Jc a1 a2 a3 a4 a5 a6 a7 a8 a9 a10 sa ar an ac am ad vs t)) w):=by
 have hA:=zfv a1 a2 a3 a4 a5 a6 a7 a8 a9 a10 sa ar an ac am ad vs t
 have hG:=qi hA sp1 (s:=[zm 1]) sp1 #[.int .i8 1,.int .i64 a1,.int .i64 a2,.int .i64 a3,.int .i64 a4,.int .i64 a5,.int .i64 a6,.int .i64 a7,.int .i64 a8,.int .i64 a9,.int .i64 a10,.slice sa an ac,.int .i64 t.id,.int .i64 t.kind,.string t.text,.slice ar am ad]
 have hlen:(Jc a1 a2 a3 a4 a5 a6 a7 a8 a9 a10 sa ar an ac am ad vs t).length≤1000000000:=by
  have:=zV _ _ _ _ _ hA (zfH a1 a2 a3 a4 a5 a6 a7 a8 a9 a10 sa ar an ac am ad vs t)
  simp only[LlcQ,List.length_nil] at this
  unfold Jc
  omega
 refine ql w 1 a1 a2 a3 a4 a5 a6 a7 a8 a9 a10 t.id t.kind sa ar an ac am ad t.text 1 rfl ue3 _ hlen hr fun wb Y hY hx hw hlt=>?_
 refine (yw (zn w.heap.size wb om) 1 1 rfl ue3 ue3 _ rfl [zk za (ze 1)] rfl ue3 [zm 1] Y #[.int .i8 1,.int .i64 a1,.int .i64 a2,.int .i64 a3,.int .i64 a4,.int .i64 a5,.int .i64 a6,.int .i64 a7,.int .i64 a8,.int .i64 a9,.int .i64 a10,.slice sa an ac,.int .i64 t.id,.int .i64 t.kind,.string t.text,.slice ar am ad] (wf1 w Y w.heap.size wb om a1 a2 a3 a4 a5 a6 a7 a8 a9 a10 sa ar an ac am ad vs t h hY (NlrQ _) om) ⟨hw,by simp⟩ hx (yu _ _ _ _ _ _ _ _ _ _ _ _ _ _ _ _) hG).mono fun e Z hh=>?_
 rw[zfH a1 a2 a3 a4 a5 a6 a7 a8 a9 a10 sa ar an ac am ad vs t] at hh
 exact⟨hh.1,hh.2.1.1,hh.2.2.2⟩
theorem wf2 (w X0:World)(b wb:Nat)(hne:wb≠b)(a1 a2 a3 a4 a5 a6 a7 a8 a9 a10:Int)(sa ar:Option Addr)(an ac am ad:Nat)(vs:List SV)(t:Tr)(h:zJ w sa ar an am ad vs t)(h0:Below w.heap.size w X0)(hb:w.heap.size≤b)(hwb:w.heap.size≤wb)(j:Nat)(F:FuncId)(q:yj (List UInt8))(h1:([144,143,145,146]:List FuncId)[j]? =some F)(h2:([zk za ((3,1,1125899906842624)),zk za (ze 2),zk za ((5,1,1125899906842624)),zk za ((6,1,1125899906842624))]:List (yj (List UInt8)))[j]? =some q):WF q b wb 2 F X0 #[.int .i8 2,.int .i64 a1,.int .i64 a2,.int .i64 a3,.int .i64 a4,.int .i64 a5,.int .i64 a6,.int .i64 a7,.int .i64 a8,.int .i64 a9,.int .i64 a10,.slice sa an ac,.int .i64 t.id,.int .i64 t.kind,.string t.text,.slice ar am ad] (decide (j+1=4)):=
 match j,h1,h2 with
 | 0,h1,h2=>by cases h1;cases h2;exact (qZ (zn b wb hne) 2).act X0 _ _
 | 1,h1,h2=>by cases h1;cases h2;exact (zN (zn b wb hne) 2).act X0 _ _
 | 2,h1,h2=>by cases h1;cases h2;exact (yE (zn b wb hne) 2).act X0 _ _
 | 3,h1,h2=>by cases h1;cases h2;exact (JG (zn b wb hne) 2).act X0 _ _
 | j+4,h1,h2=>by simp at h1
theorem zfI (a1 a2 a3 a4 a5 a6 a7 a8 a9 a10:Int)(sa ar:Option Addr)(an ac am ad:Nat)(vs:List SV)(t:Tr):yz (zk za (zt 2)::zk za (toQ 2):: [zk za ((3,1,1125899906842624)),zk za (ze 2),zk za ((5,1,1125899906842624)),zk za ((6,1,1125899906842624))]) [zm 2] #[.int .i8 2,.int .i64 a1,.int .i64 a2,.int .i64 a3,.int .i64 a4,.int .i64 a5,.int .i64 a6,.int .i64 a7,.int .i64 a8,.int .i64 a9,.int .i64 a10,.slice sa an ac,.int .i64 t.id,.int .i64 t.kind,.string t.text,.slice ar am ad]=some ([zm 2]++zq a1++zq a2++zq a3++zq a4++zq a5++zq a6, #[.int .i8 2,.int .i64 a1,.int .i64 a2,.int .i64 a3,.int .i64 a4,.int .i64 a5,.int .i64 a6,.int .i64 a7,.int .i64 a8,.int .i64 a9,.int .i64 a10,.slice sa an ac,.int .i64 t.id,.int .i64 t.kind,.string t.text,.slice ar am ad]):=by kernel_rfl
theorem zfw (a1 a2 a3 a4 a5 a6 a7 a8 a9 a10:Int)(sa ar:Option Addr)(an ac am ad:Nat)(vs:List SV)(t:Tr):∀a∈(zk za (zt 2)::zk za (toQ 2):: [zk za ((3,1,1125899906842624)),zk za (ze 2),zk za ((5,1,1125899906842624)),zk za ((6,1,1125899906842624))]:List (yj (List UInt8))),ZJ a:=fun a ha=>by
 simp only[List.mem_cons,List.not_mem_nil,or_false] at ha
 rcases ha with rfl | rfl | rfl | rfl | rfl | rfl
 · exact zz _
 · exact zz _
 · exact zz _
 · exact zz _
 · exact zz _
 · exact zz _
def zbo (a1 a2 a3 a4 a5 a6 a7 a8 a9 a10:Int)(sa ar:Option Addr)(an ac am ad:Nat)(vs:List SV)(t:Tr):List UInt8:=[zm 2]++zq a1++zq a2++zq a3++zq a4++zq a5++zq a6
theorem zgF (w:World)(a1 a2 a3 a4 a5 a6 a7 a8 a9 a10:Int)(sa ar:Option Addr)(an ac am ad:Nat)(vs:List SV)(t:Tr)(h:zJ w sa ar an am ad vs t)(hr:∀Y,Below w.heap.size w Y→Calls Tryz.prog 22 #[.agg #[.int .i8 2,.int .i64 a1,.int .i64 a2,.int .i64 a3,.int .i64 a4,.int .i64 a5,.int .i64 a6,.int .i64 a7,.int .i64 a8,.int .i64 a9,.int .i64 a10,.slice sa an ac,.int .i64 t.id,.int .i64 t.kind,.string t.text,.slice ar am ad]] Y (zx true Y)):Calls Tryz.prog 31 #[.agg #[.int .i8 2,.int .i64 a1,.int .i64 a2,.int .i64 a3,.int .i64 a4,.int .i64 a5,.int .i64 a6,.int .i64 a7,.int .i64 a8,.int .i64 a9,.int .i64 a10,.slice sa an ac,.int .i64 t.id,.int .i64 t.kind,.string t.text,.slice ar am ad]] w (jV (zS (zbo a1 a2 a3 a4 a5 a6 a7 a8 a9 a10 sa ar an ac am ad vs t)) w):=by
 have hA:=zfw a1 a2 a3 a4 a5 a6 a7 a8 a9 a10 sa ar an ac am ad vs t
 have hG:=qi hA sp1 (s:=[zm 2]) sp1 #[.int .i8 2,.int .i64 a1,.int .i64 a2,.int .i64 a3,.int .i64 a4,.int .i64 a5,.int .i64 a6,.int .i64 a7,.int .i64 a8,.int .i64 a9,.int .i64 a10,.slice sa an ac,.int .i64 t.id,.int .i64 t.kind,.string t.text,.slice ar am ad]
 have hlen:(zbo a1 a2 a3 a4 a5 a6 a7 a8 a9 a10 sa ar an ac am ad vs t).length≤1000000000:=by
  have:=zV _ _ _ _ _ hA (zfI a1 a2 a3 a4 a5 a6 a7 a8 a9 a10 sa ar an ac am ad vs t)
  simp only[LlcQ,List.length_nil] at this
  unfold zbo
  omega
 refine ql w 2 a1 a2 a3 a4 a5 a6 a7 a8 a9 a10 t.id t.kind sa ar an ac am ad t.text 2 rfl ue3 _ hlen hr fun wb Y hY hx hw hlt=>?_
 refine (yw (zn w.heap.size wb om) 2 2 rfl ue3 ue3 _ rfl [zk za ((3,1,1125899906842624)),zk za (ze 2),zk za ((5,1,1125899906842624)),zk za ((6,1,1125899906842624))] rfl ue3 [zm 2] Y #[.int .i8 2,.int .i64 a1,.int .i64 a2,.int .i64 a3,.int .i64 a4,.int .i64 a5,.int .i64 a6,.int .i64 a7,.int .i64 a8,.int .i64 a9,.int .i64 a10,.slice sa an ac,.int .i64 t.id,.int .i64 t.kind,.string t.text,.slice ar am ad] (wf2 w Y w.heap.size wb om a1 a2 a3 a4 a5 a6 a7 a8 a9 a10 sa ar an ac am ad vs t h hY (NlrQ _) om) ⟨hw,by simp⟩ hx (yu _ _ _ _ _ _ _ _ _ _ _ _ _ _ _ _) hG).mono fun e Z hh=>?_
 rw[zfI a1 a2 a3 a4 a5 a6 a7 a8 a9 a10 sa ar an ac am ad vs t] at hh
 exact⟨hh.1,hh.2.1.1,hh.2.2.2⟩
theorem wf3 (w X0:World)(b wb:Nat)(hne:wb≠b)(a1 a2 a3 a4 a5 a6 a7 a8 a9 a10:Int)(sa ar:Option Addr)(an ac am ad:Nat)(vs:List SV)(t:Tr)(h:zJ w sa ar an am ad vs t)(hq:zU t=true)(h0:Below w.heap.size w X0)(hb:w.heap.size≤b)(hwb:w.heap.size≤wb)(j:Nat)(F:FuncId)(q:yj (List UInt8))(h1:([143,145,147,148,149,150]:List FuncId)[j]? =some F)(h2:([zk za (ze 3),zk za ((5,1,1125899906842624)),zk za ((7,1,1125899906842624)),zk za ((8,1,1125899906842624)),zk za ((9,0,1125899906842624)),qG (kL t ar am ad)]:List (yj (List UInt8)))[j]? =some q):WF q b wb 3 F X0 #[.int .i8 3,.int .i64 a1,.int .i64 a2,.int .i64 a3,.int .i64 a4,.int .i64 a5,.int .i64 a6,.int .i64 a7,.int .i64 a8,.int .i64 a9,.int .i64 a10,.slice sa an ac,.int .i64 t.id,.int .i64 t.kind,.string t.text,.slice ar am ad] (decide (j+1=6)):=
 match j,h1,h2 with
 | 0,h1,h2=>by cases h1;cases h2;exact (zN (zn b wb hne) 3).act X0 _ _
 | 1,h1,h2=>by cases h1;cases h2;exact (yE (zn b wb hne) 3).act X0 _ _
 | 2,h1,h2=>by cases h1;cases h2;exact (kD (zn b wb hne) 3).act X0 _ _
 | 3,h1,h2=>by cases h1;cases h2;exact (kC (zn b wb hne) 3).act X0 _ _
 | 4,h1,h2=>by cases h1;cases h2;exact (qd (zn b wb hne) 3).act X0 _ _
 | 5,h1,h2=>by cases h1;cases h2;exact zdn w X0 b wb hne 3 _ t ar am ad h0 hb hwb h.kids h.cap h.lies hq ⟨rfl,rfl,rfl,rfl⟩
 | j+6,h1,h2=>by simp at h1
theorem zfJ (a1 a2 a3 a4 a5 a6 a7 a8 a9 a10:Int)(sa ar:Option Addr)(an ac am ad:Nat)(vs:List SV)(t:Tr):yz (zk za (zt 3)::zk za (toQ 3):: [zk za (ze 3),zk za ((5,1,1125899906842624)),zk za ((7,1,1125899906842624)),zk za ((8,1,1125899906842624)),zk za ((9,0,1125899906842624)),qG (kL t ar am ad)]) [zm 3] #[.int .i8 3,.int .i64 a1,.int .i64 a2,.int .i64 a3,.int .i64 a4,.int .i64 a5,.int .i64 a6,.int .i64 a7,.int .i64 a8,.int .i64 a9,.int .i64 a10,.slice sa an ac,.int .i64 t.id,.int .i64 t.kind,.string t.text,.slice ar am ad]=some ([zm 3]++zq a1++zq a2++zq a4++zq a5++zq a7++zq a8++zq a9++qA t, #[.int .i8 3,.int .i64 a1,.int .i64 a2,.int .i64 a3,.int .i64 a4,.int .i64 a5,.int .i64 a6,.int .i64 a7,.int .i64 a8,.int .i64 a9,.int .i64 a10,.slice sa an ac,.int .i64 t.id,.int .i64 t.kind,.string t.text,.slice ar am ad]):=by kernel_rfl
theorem zfx (a1 a2 a3 a4 a5 a6 a7 a8 a9 a10:Int)(sa ar:Option Addr)(an ac am ad:Nat)(vs:List SV)(t:Tr)(hq:zU t=true):∀a∈(zk za (zt 3)::zk za (toQ 3):: [zk za (ze 3),zk za ((5,1,1125899906842624)),zk za ((7,1,1125899906842624)),zk za ((8,1,1125899906842624)),zk za ((9,0,1125899906842624)),qG (kL t ar am ad)]:List (yj (List UInt8))),ZJ a:=fun a ha=>by
 simp only[List.mem_cons,List.not_mem_nil,or_false] at ha
 rcases ha with rfl | rfl | rfl | rfl | rfl | rfl | rfl | rfl
 · exact zz _
 · exact zz _
 · exact zz _
 · exact zz _
 · exact zz _
 · exact zz _
 · exact zz _
 · exact Jn hq
def zbp (a1 a2 a3 a4 a5 a6 a7 a8 a9 a10:Int)(sa ar:Option Addr)(an ac am ad:Nat)(vs:List SV)(t:Tr):List UInt8:=[zm 3]++zq a1++zq a2++zq a4++zq a5++zq a7++zq a8++zq a9++qA t
theorem zgG (w:World)(a1 a2 a3 a4 a5 a6 a7 a8 a9 a10:Int)(sa ar:Option Addr)(an ac am ad:Nat)(vs:List SV)(t:Tr)(h:zJ w sa ar an am ad vs t)(hq:zU t=true)(hr:∀Y,Below w.heap.size w Y→Calls Tryz.prog 22 #[.agg #[.int .i8 3,.int .i64 a1,.int .i64 a2,.int .i64 a3,.int .i64 a4,.int .i64 a5,.int .i64 a6,.int .i64 a7,.int .i64 a8,.int .i64 a9,.int .i64 a10,.slice sa an ac,.int .i64 t.id,.int .i64 t.kind,.string t.text,.slice ar am ad]] Y (zx true Y)):Calls Tryz.prog 31 #[.agg #[.int .i8 3,.int .i64 a1,.int .i64 a2,.int .i64 a3,.int .i64 a4,.int .i64 a5,.int .i64 a6,.int .i64 a7,.int .i64 a8,.int .i64 a9,.int .i64 a10,.slice sa an ac,.int .i64 t.id,.int .i64 t.kind,.string t.text,.slice ar am ad]] w (jV (zS (zbp a1 a2 a3 a4 a5 a6 a7 a8 a9 a10 sa ar an ac am ad vs t)) w):=by
 have hA:=zfx a1 a2 a3 a4 a5 a6 a7 a8 a9 a10 sa ar an ac am ad vs t hq
 have hG:=qi hA sp1 (s:=[zm 3]) sp1 #[.int .i8 3,.int .i64 a1,.int .i64 a2,.int .i64 a3,.int .i64 a4,.int .i64 a5,.int .i64 a6,.int .i64 a7,.int .i64 a8,.int .i64 a9,.int .i64 a10,.slice sa an ac,.int .i64 t.id,.int .i64 t.kind,.string t.text,.slice ar am ad]
 have hlen:(zbp a1 a2 a3 a4 a5 a6 a7 a8 a9 a10 sa ar an ac am ad vs t).length≤1000000000:=by
  have:=zV _ _ _ _ _ hA (zfJ a1 a2 a3 a4 a5 a6 a7 a8 a9 a10 sa ar an ac am ad vs t)
  simp only[LlcQ,List.length_nil] at this
  unfold zbp
  omega
 refine ql w 3 a1 a2 a3 a4 a5 a6 a7 a8 a9 a10 t.id t.kind sa ar an ac am ad t.text 3 rfl ue3 _ hlen hr fun wb Y hY hx hw hlt=>?_
 refine (yw (zn w.heap.size wb om) 3 3 rfl ue3 ue3 _ rfl [zk za (ze 3),zk za ((5,1,1125899906842624)),zk za ((7,1,1125899906842624)),zk za ((8,1,1125899906842624)),zk za ((9,0,1125899906842624)),qG (kL t ar am ad)] rfl ue3 [zm 3] Y #[.int .i8 3,.int .i64 a1,.int .i64 a2,.int .i64 a3,.int .i64 a4,.int .i64 a5,.int .i64 a6,.int .i64 a7,.int .i64 a8,.int .i64 a9,.int .i64 a10,.slice sa an ac,.int .i64 t.id,.int .i64 t.kind,.string t.text,.slice ar am ad] (wf3 w Y w.heap.size wb om a1 a2 a3 a4 a5 a6 a7 a8 a9 a10 sa ar an ac am ad vs t h hq hY (NlrQ _) om) ⟨hw,by simp⟩ hx (yu _ _ _ _ _ _ _ _ _ _ _ _ _ _ _ _) hG).mono fun e Z hh=>?_
 rw[zfJ a1 a2 a3 a4 a5 a6 a7 a8 a9 a10 sa ar an ac am ad vs t] at hh
 exact⟨hh.1,hh.2.1.1,hh.2.2.2⟩
theorem wf4 (w X0:World)(b wb:Nat)(hne:wb≠b)(a1 a2 a3 a4 a5 a6 a7 a8 a9 a10:Int)(sa ar:Option Addr)(an ac am ad:Nat)(vs:List SV)(t:Tr)(h:zJ w sa ar an am ad vs t)(h0:Below w.heap.size w X0)(hb:w.heap.size≤b)(hwb:w.heap.size≤wb)(j:Nat)(F:FuncId)(q:yj (List UInt8))(h1:([143,145,151]:List FuncId)[j]? =some F)(h2:([zk za (ze 4),zk za ((5,1,1125899906842624)),zk za ((10,1,999))]:List (yj (List UInt8)))[j]? =some q):WF q b wb 4 F X0 #[.int .i8 4,.int .i64 a1,.int .i64 a2,.int .i64 a3,.int .i64 a4,.int .i64 a5,.int .i64 a6,.int .i64 a7,.int .i64 a8,.int .i64 a9,.int .i64 a10,.slice sa an ac,.int .i64 t.id,.int .i64 t.kind,.string t.text,.slice ar am ad] (decide (j+1=3)):=
 match j,h1,h2 with
 | 0,h1,h2=>by cases h1;cases h2;exact (zN (zn b wb hne) 4).act X0 _ _
 | 1,h1,h2=>by cases h1;cases h2;exact (yE (zn b wb hne) 4).act X0 _ _
 | 2,h1,h2=>by cases h1;cases h2;exact (zad (zn b wb hne) 4).act X0 _ _
 | j+3,h1,h2=>by simp at h1
theorem zfK (a1 a2 a3 a4 a5 a6 a7 a8 a9 a10:Int)(sa ar:Option Addr)(an ac am ad:Nat)(vs:List SV)(t:Tr):yz (zk za (zt 4)::zk za (toQ 4):: [zk za (ze 4),zk za ((5,1,1125899906842624)),zk za ((10,1,999))]) [zm 4] #[.int .i8 4,.int .i64 a1,.int .i64 a2,.int .i64 a3,.int .i64 a4,.int .i64 a5,.int .i64 a6,.int .i64 a7,.int .i64 a8,.int .i64 a9,.int .i64 a10,.slice sa an ac,.int .i64 t.id,.int .i64 t.kind,.string t.text,.slice ar am ad]=some ([zm 4]++zq a1++zq a2++zq a4++zq a5++zq a10, #[.int .i8 4,.int .i64 a1,.int .i64 a2,.int .i64 a3,.int .i64 a4,.int .i64 a5,.int .i64 a6,.int .i64 a7,.int .i64 a8,.int .i64 a9,.int .i64 a10,.slice sa an ac,.int .i64 t.id,.int .i64 t.kind,.string t.text,.slice ar am ad]):=by kernel_rfl
theorem zfy (a1 a2 a3 a4 a5 a6 a7 a8 a9 a10:Int)(sa ar:Option Addr)(an ac am ad:Nat)(vs:List SV)(t:Tr):∀a∈(zk za (zt 4)::zk za (toQ 4):: [zk za (ze 4),zk za ((5,1,1125899906842624)),zk za ((10,1,999))]:List (yj (List UInt8))),ZJ a:=fun a ha=>by
 exact se4
def zbq (a1 a2 a3 a4 a5 a6 a7 a8 a9 a10:Int)(sa ar:Option Addr)(an ac am ad:Nat)(vs:List SV)(t:Tr):List UInt8:=[zm 4]++zq a1++zq a2++zq a4++zq a5++zq a10
theorem zgH (w:World)(a1 a2 a3 a4 a5 a6 a7 a8 a9 a10:Int)(sa ar:Option Addr)(an ac am ad:Nat)(vs:List SV)(t:Tr)(h:zJ w sa ar an am ad vs t)(hr:∀Y,Below w.heap.size w Y→Calls Tryz.prog 22 #[.agg #[.int .i8 4,.int .i64 a1,.int .i64 a2,.int .i64 a3,.int .i64 a4,.int .i64 a5,.int .i64 a6,.int .i64 a7,.int .i64 a8,.int .i64 a9,.int .i64 a10,.slice sa an ac,.int .i64 t.id,.int .i64 t.kind,.string t.text,.slice ar am ad]] Y (zx true Y)):Calls Tryz.prog 31 #[.agg #[.int .i8 4,.int .i64 a1,.int .i64 a2,.int .i64 a3,.int .i64 a4,.int .i64 a5,.int .i64 a6,.int .i64 a7,.int .i64 a8,.int .i64 a9,.int .i64 a10,.slice sa an ac,.int .i64 t.id,.int .i64 t.kind,.string t.text,.slice ar am ad]] w (jV (zS (zbq a1 a2 a3 a4 a5 a6 a7 a8 a9 a10 sa ar an ac am ad vs t)) w):=by
 have hA:=zfy a1 a2 a3 a4 a5 a6 a7 a8 a9 a10 sa ar an ac am ad vs t
 have hG:=qi hA sp1 (s:=[zm 4]) sp1 #[.int .i8 4,.int .i64 a1,.int .i64 a2,.int .i64 a3,.int .i64 a4,.int .i64 a5,.int .i64 a6,.int .i64 a7,.int .i64 a8,.int .i64 a9,.int .i64 a10,.slice sa an ac,.int .i64 t.id,.int .i64 t.kind,.string t.text,.slice ar am ad]
 have hlen:(zbq a1 a2 a3 a4 a5 a6 a7 a8 a9 a10 sa ar an ac am ad vs t).length≤1000000000:=by
  have:=zV _ _ _ _ _ hA (zfK a1 a2 a3 a4 a5 a6 a7 a8 a9 a10 sa ar an ac am ad vs t)
  simp only[LlcQ,List.length_nil] at this
  unfold zbq
  omega
 refine ql w 4 a1 a2 a3 a4 a5 a6 a7 a8 a9 a10 t.id t.kind sa ar an ac am ad t.text 4 rfl ue3 _ hlen hr fun wb Y hY hx hw hlt=>?_
 refine (yw (zn w.heap.size wb om) 4 4 rfl ue3 ue3 _ rfl [zk za (ze 4),zk za ((5,1,1125899906842624)),zk za ((10,1,999))] rfl ue3 [zm 4] Y #[.int .i8 4,.int .i64 a1,.int .i64 a2,.int .i64 a3,.int .i64 a4,.int .i64 a5,.int .i64 a6,.int .i64 a7,.int .i64 a8,.int .i64 a9,.int .i64 a10,.slice sa an ac,.int .i64 t.id,.int .i64 t.kind,.string t.text,.slice ar am ad] (wf4 w Y w.heap.size wb om a1 a2 a3 a4 a5 a6 a7 a8 a9 a10 sa ar an ac am ad vs t h hY (NlrQ _) om) ⟨hw,by simp⟩ hx (yu _ _ _ _ _ _ _ _ _ _ _ _ _ _ _ _) hG).mono fun e Z hh=>?_
 rw[zfK a1 a2 a3 a4 a5 a6 a7 a8 a9 a10 sa ar an ac am ad vs t] at hh
 exact⟨hh.1,hh.2.1.1,hh.2.2.2⟩
theorem wf5 (w X0:World)(b wb:Nat)(hne:wb≠b)(a1 a2 a3 a4 a5 a6 a7 a8 a9 a10:Int)(sa ar:Option Addr)(an ac am ad:Nat)(vs:List SV)(t:Tr)(h:zJ w sa ar an am ad vs t)(hq:zM (steps vs)=true)(h0:Below w.heap.size w X0)(hb:w.heap.size≤b)(hwb:w.heap.size≤wb)(j:Nat)(F:FuncId)(q:yj (List UInt8))(h1:([144,143,145,147,148,152]:List FuncId)[j]? =some F)(h2:([zk za ((3,1,1125899906842624)),zk za (ze 5),zk za ((5,1,1125899906842624)),zk za ((7,1,1125899906842624)),zk za ((8,1,1125899906842624)),ji (jh sa an ac vs)]:List (yj (List UInt8)))[j]? =some q):WF q b wb 5 F X0 #[.int .i8 5,.int .i64 a1,.int .i64 a2,.int .i64 a3,.int .i64 a4,.int .i64 a5,.int .i64 a6,.int .i64 a7,.int .i64 a8,.int .i64 a9,.int .i64 a10,.slice sa an ac,.int .i64 t.id,.int .i64 t.kind,.string t.text,.slice ar am ad] (decide (j+1=6)):=
 match j,h1,h2 with
 | 0,h1,h2=>by cases h1;cases h2;exact (qZ (zn b wb hne) 5).act X0 _ _
 | 1,h1,h2=>by cases h1;cases h2;exact (zN (zn b wb hne) 5).act X0 _ _
 | 2,h1,h2=>by cases h1;cases h2;exact (yE (zn b wb hne) 5).act X0 _ _
 | 3,h1,h2=>by cases h1;cases h2;exact (kD (zn b wb hne) 5).act X0 _ _
 | 4,h1,h2=>by cases h1;cases h2;exact (kC (zn b wb hne) 5).act X0 _ _
 | 5,h1,h2=>by cases h1;cases h2;exact zbW w X0 b wb hne 5 _ sa an ac vs h0 hb hwb h.len h.row hq rfl
 | j+6,h1,h2=>by simp at h1
theorem zfL (a1 a2 a3 a4 a5 a6 a7 a8 a9 a10:Int)(sa ar:Option Addr)(an ac am ad:Nat)(vs:List SV)(t:Tr):yz (zk za (zt 5)::zk za (toQ 5):: [zk za ((3,1,1125899906842624)),zk za (ze 5),zk za ((5,1,1125899906842624)),zk za ((7,1,1125899906842624)),zk za ((8,1,1125899906842624)),ji (jh sa an ac vs)]) [zm 5] #[.int .i8 5,.int .i64 a1,.int .i64 a2,.int .i64 a3,.int .i64 a4,.int .i64 a5,.int .i64 a6,.int .i64 a7,.int .i64 a8,.int .i64 a9,.int .i64 a10,.slice sa an ac,.int .i64 t.id,.int .i64 t.kind,.string t.text,.slice ar am ad]=some ([zm 5]++zq a1++zq a2++zq a3++zq a4++zq a5++zq a7++zq a8++zq (an:Int)++qw ((steps vs).map vQ), #[.int .i8 5,.int .i64 a1,.int .i64 a2,.int .i64 a3,.int .i64 a4,.int .i64 a5,.int .i64 a6,.int .i64 a7,.int .i64 a8,.int .i64 a9,.int .i64 a10,.slice sa an ac,.int .i64 t.id,.int .i64 t.kind,.string t.text,.slice ar am ad]):=by kernel_rfl
theorem zfz (a1 a2 a3 a4 a5 a6 a7 a8 a9 a10:Int)(sa ar:Option Addr)(an ac am ad:Nat)(vs:List SV)(t:Tr)(hq:zM (steps vs)=true):∀a∈(zk za (zt 5)::zk za (toQ 5):: [zk za ((3,1,1125899906842624)),zk za (ze 5),zk za ((5,1,1125899906842624)),zk za ((7,1,1125899906842624)),zk za ((8,1,1125899906842624)),ji (jh sa an ac vs)]:List (yj (List UInt8))),ZJ a:=fun a ha=>by
 simp only[List.mem_cons,List.not_mem_nil,or_false] at ha
 rcases ha with rfl | rfl | rfl | rfl | rfl | rfl | rfl | rfl
 · exact zz _
 · exact zz _
 · exact zz _
 · exact zz _
 · exact zz _
 · exact zz _
 · exact zz _
 · exact Qu hq
def zbr (a1 a2 a3 a4 a5 a6 a7 a8 a9 a10:Int)(sa ar:Option Addr)(an ac am ad:Nat)(vs:List SV)(t:Tr):List UInt8:=[zm 5]++zq a1++zq a2++zq a3++zq a4++zq a5++zq a7++zq a8++zq (an:Int)++qw ((steps vs).map vQ)
theorem zgI (w:World)(a1 a2 a3 a4 a5 a6 a7 a8 a9 a10:Int)(sa ar:Option Addr)(an ac am ad:Nat)(vs:List SV)(t:Tr)(h:zJ w sa ar an am ad vs t)(hq:zM (steps vs)=true)(hr:∀Y,Below w.heap.size w Y→Calls Tryz.prog 22 #[.agg #[.int .i8 5,.int .i64 a1,.int .i64 a2,.int .i64 a3,.int .i64 a4,.int .i64 a5,.int .i64 a6,.int .i64 a7,.int .i64 a8,.int .i64 a9,.int .i64 a10,.slice sa an ac,.int .i64 t.id,.int .i64 t.kind,.string t.text,.slice ar am ad]] Y (zx true Y)):Calls Tryz.prog 31 #[.agg #[.int .i8 5,.int .i64 a1,.int .i64 a2,.int .i64 a3,.int .i64 a4,.int .i64 a5,.int .i64 a6,.int .i64 a7,.int .i64 a8,.int .i64 a9,.int .i64 a10,.slice sa an ac,.int .i64 t.id,.int .i64 t.kind,.string t.text,.slice ar am ad]] w (jV (zS (zbr a1 a2 a3 a4 a5 a6 a7 a8 a9 a10 sa ar an ac am ad vs t)) w):=by
 have hA:=zfz a1 a2 a3 a4 a5 a6 a7 a8 a9 a10 sa ar an ac am ad vs t hq
 have hG:=qi hA sp1 (s:=[zm 5]) sp1 #[.int .i8 5,.int .i64 a1,.int .i64 a2,.int .i64 a3,.int .i64 a4,.int .i64 a5,.int .i64 a6,.int .i64 a7,.int .i64 a8,.int .i64 a9,.int .i64 a10,.slice sa an ac,.int .i64 t.id,.int .i64 t.kind,.string t.text,.slice ar am ad]
 have hlen:(zbr a1 a2 a3 a4 a5 a6 a7 a8 a9 a10 sa ar an ac am ad vs t).length≤1000000000:=by
  have:=zV _ _ _ _ _ hA (zfL a1 a2 a3 a4 a5 a6 a7 a8 a9 a10 sa ar an ac am ad vs t)
  simp only[LlcQ,List.length_nil] at this
  unfold zbr
  omega
 refine ql w 5 a1 a2 a3 a4 a5 a6 a7 a8 a9 a10 t.id t.kind sa ar an ac am ad t.text 5 rfl ue3 _ hlen hr fun wb Y hY hx hw hlt=>?_
 refine (yw (zn w.heap.size wb om) 5 5 rfl ue3 ue3 _ rfl [zk za ((3,1,1125899906842624)),zk za (ze 5),zk za ((5,1,1125899906842624)),zk za ((7,1,1125899906842624)),zk za ((8,1,1125899906842624)),ji (jh sa an ac vs)] rfl ue3 [zm 5] Y #[.int .i8 5,.int .i64 a1,.int .i64 a2,.int .i64 a3,.int .i64 a4,.int .i64 a5,.int .i64 a6,.int .i64 a7,.int .i64 a8,.int .i64 a9,.int .i64 a10,.slice sa an ac,.int .i64 t.id,.int .i64 t.kind,.string t.text,.slice ar am ad] (wf5 w Y w.heap.size wb om a1 a2 a3 a4 a5 a6 a7 a8 a9 a10 sa ar an ac am ad vs t h hq hY (NlrQ _) om) ⟨hw,by simp⟩ hx (yu _ _ _ _ _ _ _ _ _ _ _ _ _ _ _ _) hG).mono fun e Z hh=>?_
 rw[zfL a1 a2 a3 a4 a5 a6 a7 a8 a9 a10 sa ar an ac am ad vs t] at hh
 exact⟨hh.1,hh.2.1.1,hh.2.2.2⟩
theorem wf6 (w X0:World)(b wb:Nat)(hne:wb≠b)(a1 a2 a3 a4 a5 a6 a7 a8 a9 a10:Int)(sa ar:Option Addr)(an ac am ad:Nat)(vs:List SV)(t:Tr)(h:zJ w sa ar an am ad vs t)(h0:Below w.heap.size w X0)(hb:w.heap.size≤b)(hwb:w.heap.size≤wb)(j:Nat)(F:FuncId)(q:yj (List UInt8))(h1:([143,145,149]:List FuncId)[j]? =some F)(h2:([zk za (ze 6),zk za ((5,1,1125899906842624)),zk za ((9,0,1125899906842624))]:List (yj (List UInt8)))[j]? =some q):WF q b wb 6 F X0 #[.int .i8 6,.int .i64 a1,.int .i64 a2,.int .i64 a3,.int .i64 a4,.int .i64 a5,.int .i64 a6,.int .i64 a7,.int .i64 a8,.int .i64 a9,.int .i64 a10,.slice sa an ac,.int .i64 t.id,.int .i64 t.kind,.string t.text,.slice ar am ad] (decide (j+1=3)):=
 match j,h1,h2 with
 | 0,h1,h2=>by cases h1;cases h2;exact (zN (zn b wb hne) 6).act X0 _ _
 | 1,h1,h2=>by cases h1;cases h2;exact (yE (zn b wb hne) 6).act X0 _ _
 | 2,h1,h2=>by cases h1;cases h2;exact (qd (zn b wb hne) 6).act X0 _ _
 | j+3,h1,h2=>by simp at h1
theorem zfM (a1 a2 a3 a4 a5 a6 a7 a8 a9 a10:Int)(sa ar:Option Addr)(an ac am ad:Nat)(vs:List SV)(t:Tr):yz (zk za (zt 6)::zk za (toQ 6):: [zk za (ze 6),zk za ((5,1,1125899906842624)),zk za ((9,0,1125899906842624))]) [zm 6] #[.int .i8 6,.int .i64 a1,.int .i64 a2,.int .i64 a3,.int .i64 a4,.int .i64 a5,.int .i64 a6,.int .i64 a7,.int .i64 a8,.int .i64 a9,.int .i64 a10,.slice sa an ac,.int .i64 t.id,.int .i64 t.kind,.string t.text,.slice ar am ad]=some ([zm 6]++zq a1++zq a2++zq a4++zq a5++zq a9, #[.int .i8 6,.int .i64 a1,.int .i64 a2,.int .i64 a3,.int .i64 a4,.int .i64 a5,.int .i64 a6,.int .i64 a7,.int .i64 a8,.int .i64 a9,.int .i64 a10,.slice sa an ac,.int .i64 t.id,.int .i64 t.kind,.string t.text,.slice ar am ad]):=by kernel_rfl
theorem zfA (a1 a2 a3 a4 a5 a6 a7 a8 a9 a10:Int)(sa ar:Option Addr)(an ac am ad:Nat)(vs:List SV)(t:Tr):∀a∈(zk za (zt 6)::zk za (toQ 6):: [zk za (ze 6),zk za ((5,1,1125899906842624)),zk za ((9,0,1125899906842624))]:List (yj (List UInt8))),ZJ a:=fun a ha=>by
 exact se4
def QO (a1 a2 a3 a4 a5 a6 a7 a8 a9 a10:Int)(sa ar:Option Addr)(an ac am ad:Nat)(vs:List SV)(t:Tr):List UInt8:=[zm 6]++zq a1++zq a2++zq a4++zq a5++zq a9
theorem zgJ (w:World)(a1 a2 a3 a4 a5 a6 a7 a8 a9 a10:Int)(sa ar:Option Addr)(an ac am ad:Nat)(vs:List SV)(t:Tr)(h:zJ w sa ar an am ad vs t)(hr:∀Y,Below w.heap.size w Y→Calls Tryz.prog 22 #[.agg #[.int .i8 6,.int .i64 a1,.int .i64 a2,.int .i64 a3,.int .i64 a4,.int .i64 a5,.int .i64 a6,.int .i64 a7,.int .i64 a8,.int .i64 a9,.int .i64 a10,.slice sa an ac,.int .i64 t.id,.int .i64 t.kind,.string t.text,.slice ar am ad]] Y (zx true Y)):Calls Tryz.prog 31 #[.agg #[.int .i8 6,.int .i64 a1,.int .i64 a2,.int .i64 a3,.int .i64 a4,.int .i64 a5,.int .i64 a6,.int .i64 a7,.int .i64 a8,.int .i64 a9,.int .i64 a10,.slice sa an ac,.int .i64 t.id,.int .i64 t.kind,.string t.text,.slice ar am ad]] w (jV (zS (QO a1 a2 a3 a4 a5 a6 a7 a8 a9 a10 sa ar an ac am ad vs t)) w):=by
 have hA:=zfA a1 a2 a3 a4 a5 a6 a7 a8 a9 a10 sa ar an ac am ad vs t
 have hG:=qi hA sp1 (s:=[zm 6]) sp1 #[.int .i8 6,.int .i64 a1,.int .i64 a2,.int .i64 a3,.int .i64 a4,.int .i64 a5,.int .i64 a6,.int .i64 a7,.int .i64 a8,.int .i64 a9,.int .i64 a10,.slice sa an ac,.int .i64 t.id,.int .i64 t.kind,.string t.text,.slice ar am ad]
 have hlen:(QO a1 a2 a3 a4 a5 a6 a7 a8 a9 a10 sa ar an ac am ad vs t).length≤1000000000:=by
  have:=zV _ _ _ _ _ hA (zfM a1 a2 a3 a4 a5 a6 a7 a8 a9 a10 sa ar an ac am ad vs t)
  simp only[LlcQ,List.length_nil] at this
  unfold QO
  omega
 refine ql w 6 a1 a2 a3 a4 a5 a6 a7 a8 a9 a10 t.id t.kind sa ar an ac am ad t.text 6 rfl ue3 _ hlen hr fun wb Y hY hx hw hlt=>?_
 refine (yw (zn w.heap.size wb om) 6 6 rfl ue3 ue3 _ rfl [zk za (ze 6),zk za ((5,1,1125899906842624)),zk za ((9,0,1125899906842624))] rfl ue3 [zm 6] Y #[.int .i8 6,.int .i64 a1,.int .i64 a2,.int .i64 a3,.int .i64 a4,.int .i64 a5,.int .i64 a6,.int .i64 a7,.int .i64 a8,.int .i64 a9,.int .i64 a10,.slice sa an ac,.int .i64 t.id,.int .i64 t.kind,.string t.text,.slice ar am ad] (wf6 w Y w.heap.size wb om a1 a2 a3 a4 a5 a6 a7 a8 a9 a10 sa ar an ac am ad vs t h hY (NlrQ _) om) ⟨hw,by simp⟩ hx (yu _ _ _ _ _ _ _ _ _ _ _ _ _ _ _ _) hG).mono fun e Z hh=>?_
 rw[zfM a1 a2 a3 a4 a5 a6 a7 a8 a9 a10 sa ar an ac am ad vs t] at hh
 exact⟨hh.1,hh.2.1.1,hh.2.2.2⟩
theorem wf7 (w X0:World)(b wb:Nat)(hne:wb≠b)(a1 a2 a3 a4 a5 a6 a7 a8 a9 a10:Int)(sa ar:Option Addr)(an ac am ad:Nat)(vs:List SV)(t:Tr)(h:zJ w sa ar an am ad vs t)(h0:Below w.heap.size w X0)(hb:w.heap.size≤b)(hwb:w.heap.size≤wb)(j:Nat)(F:FuncId)(q:yj (List UInt8))(h1:([143,145,151]:List FuncId)[j]? =some F)(h2:([zk za (ze 7),zk za ((5,1,1125899906842624)),zk za ((10,1,999))]:List (yj (List UInt8)))[j]? =some q):WF q b wb 7 F X0 #[.int .i8 7,.int .i64 a1,.int .i64 a2,.int .i64 a3,.int .i64 a4,.int .i64 a5,.int .i64 a6,.int .i64 a7,.int .i64 a8,.int .i64 a9,.int .i64 a10,.slice sa an ac,.int .i64 t.id,.int .i64 t.kind,.string t.text,.slice ar am ad] (decide (j+1=3)):=
 match j,h1,h2 with
 | 0,h1,h2=>by cases h1;cases h2;exact (zN (zn b wb hne) 7).act X0 _ _
 | 1,h1,h2=>by cases h1;cases h2;exact (yE (zn b wb hne) 7).act X0 _ _
 | 2,h1,h2=>by cases h1;cases h2;exact (zad (zn b wb hne) 7).act X0 _ _
 | j+3,h1,h2=>by simp at h1
theorem zfN (a1 a2 a3 a4 a5 a6 a7 a8 a9 a10:Int)(sa ar:Option Addr)(an ac am ad:Nat)(vs:List SV)(t:Tr):yz (zk za (zt 7)::zk za (toQ 7):: [zk za (ze 7),zk za ((5,1,1125899906842624)),zk za ((10,1,999))]) [zm 7] #[.int .i8 7,.int .i64 a1,.int .i64 a2,.int .i64 a3,.int .i64 a4,.int .i64 a5,.int .i64 a6,.int .i64 a7,.int .i64 a8,.int .i64 a9,.int .i64 a10,.slice sa an ac,.int .i64 t.id,.int .i64 t.kind,.string t.text,.slice ar am ad]=some ([zm 7]++zq a1++zq a2++zq a4++zq a5++zq a10, #[.int .i8 7,.int .i64 a1,.int .i64 a2,.int .i64 a3,.int .i64 a4,.int .i64 a5,.int .i64 a6,.int .i64 a7,.int .i64 a8,.int .i64 a9,.int .i64 a10,.slice sa an ac,.int .i64 t.id,.int .i64 t.kind,.string t.text,.slice ar am ad]):=by kernel_rfl
theorem zfB (a1 a2 a3 a4 a5 a6 a7 a8 a9 a10:Int)(sa ar:Option Addr)(an ac am ad:Nat)(vs:List SV)(t:Tr):∀a∈(zk za (zt 7)::zk za (toQ 7):: [zk za (ze 7),zk za ((5,1,1125899906842624)),zk za ((10,1,999))]:List (yj (List UInt8))),ZJ a:=fun a ha=>by
 exact se4
def zbs (a1 a2 a3 a4 a5 a6 a7 a8 a9 a10:Int)(sa ar:Option Addr)(an ac am ad:Nat)(vs:List SV)(t:Tr):List UInt8:=[zm 7]++zq a1++zq a2++zq a4++zq a5++zq a10
theorem zgK (w:World)(a1 a2 a3 a4 a5 a6 a7 a8 a9 a10:Int)(sa ar:Option Addr)(an ac am ad:Nat)(vs:List SV)(t:Tr)(h:zJ w sa ar an am ad vs t)(hr:∀Y,Below w.heap.size w Y→Calls Tryz.prog 22 #[.agg #[.int .i8 7,.int .i64 a1,.int .i64 a2,.int .i64 a3,.int .i64 a4,.int .i64 a5,.int .i64 a6,.int .i64 a7,.int .i64 a8,.int .i64 a9,.int .i64 a10,.slice sa an ac,.int .i64 t.id,.int .i64 t.kind,.string t.text,.slice ar am ad]] Y (zx true Y)):Calls Tryz.prog 31 #[.agg #[.int .i8 7,.int .i64 a1,.int .i64 a2,.int .i64 a3,.int .i64 a4,.int .i64 a5,.int .i64 a6,.int .i64 a7,.int .i64 a8,.int .i64 a9,.int .i64 a10,.slice sa an ac,.int .i64 t.id,.int .i64 t.kind,.string t.text,.slice ar am ad]] w (jV (zS (zbs a1 a2 a3 a4 a5 a6 a7 a8 a9 a10 sa ar an ac am ad vs t)) w):=by
 have hA:=zfB a1 a2 a3 a4 a5 a6 a7 a8 a9 a10 sa ar an ac am ad vs t
 have hG:=qi hA sp1 (s:=[zm 7]) sp1 #[.int .i8 7,.int .i64 a1,.int .i64 a2,.int .i64 a3,.int .i64 a4,.int .i64 a5,.int .i64 a6,.int .i64 a7,.int .i64 a8,.int .i64 a9,.int .i64 a10,.slice sa an ac,.int .i64 t.id,.int .i64 t.kind,.string t.text,.slice ar am ad]
 have hlen:(zbs a1 a2 a3 a4 a5 a6 a7 a8 a9 a10 sa ar an ac am ad vs t).length≤1000000000:=by
  have:=zV _ _ _ _ _ hA (zfN a1 a2 a3 a4 a5 a6 a7 a8 a9 a10 sa ar an ac am ad vs t)
  simp only[LlcQ,List.length_nil] at this
  unfold zbs
  omega
 refine ql w 7 a1 a2 a3 a4 a5 a6 a7 a8 a9 a10 t.id t.kind sa ar an ac am ad t.text 7 rfl ue3 _ hlen hr fun wb Y hY hx hw hlt=>?_
 refine (yw (zn w.heap.size wb om) 7 7 rfl ue3 ue3 _ rfl [zk za (ze 7),zk za ((5,1,1125899906842624)),zk za ((10,1,999))] rfl ue3 [zm 7] Y #[.int .i8 7,.int .i64 a1,.int .i64 a2,.int .i64 a3,.int .i64 a4,.int .i64 a5,.int .i64 a6,.int .i64 a7,.int .i64 a8,.int .i64 a9,.int .i64 a10,.slice sa an ac,.int .i64 t.id,.int .i64 t.kind,.string t.text,.slice ar am ad] (wf7 w Y w.heap.size wb om a1 a2 a3 a4 a5 a6 a7 a8 a9 a10 sa ar an ac am ad vs t h hY (NlrQ _) om) ⟨hw,by simp⟩ hx (yu _ _ _ _ _ _ _ _ _ _ _ _ _ _ _ _) hG).mono fun e Z hh=>?_
 rw[zfN a1 a2 a3 a4 a5 a6 a7 a8 a9 a10 sa ar an ac am ad vs t] at hh
 exact⟨hh.1,hh.2.1.1,hh.2.2.2⟩
theorem wf8 (w X0:World)(b wb:Nat)(hne:wb≠b)(a1 a2 a3 a4 a5 a6 a7 a8 a9 a10:Int)(sa ar:Option Addr)(an ac am ad:Nat)(vs:List SV)(t:Tr)(h:zJ w sa ar an am ad vs t)(hq:zM (steps vs)=true)(h0:Below w.heap.size w X0)(hb:w.heap.size≤b)(hwb:w.heap.size≤wb)(j:Nat)(F:FuncId)(q:yj (List UInt8))(h1:([143,149,152]:List FuncId)[j]? =some F)(h2:([zk za (ze 8),zk za ((9,0,1125899906842624)),ji (jh sa an ac vs)]:List (yj (List UInt8)))[j]? =some q):WF q b wb 8 F X0 #[.int .i8 8,.int .i64 a1,.int .i64 a2,.int .i64 a3,.int .i64 a4,.int .i64 a5,.int .i64 a6,.int .i64 a7,.int .i64 a8,.int .i64 a9,.int .i64 a10,.slice sa an ac,.int .i64 t.id,.int .i64 t.kind,.string t.text,.slice ar am ad] (decide (j+1=3)):=
 match j,h1,h2 with
 | 0,h1,h2=>by cases h1;cases h2;exact (zN (zn b wb hne) 8).act X0 _ _
 | 1,h1,h2=>by cases h1;cases h2;exact (qd (zn b wb hne) 8).act X0 _ _
 | 2,h1,h2=>by cases h1;cases h2;exact zbW w X0 b wb hne 8 _ sa an ac vs h0 hb hwb h.len h.row hq rfl
 | j+3,h1,h2=>by simp at h1
theorem zfO (a1 a2 a3 a4 a5 a6 a7 a8 a9 a10:Int)(sa ar:Option Addr)(an ac am ad:Nat)(vs:List SV)(t:Tr):yz (zk za (zt 8)::zk za (toQ 8):: [zk za (ze 8),zk za ((9,0,1125899906842624)),ji (jh sa an ac vs)]) [zm 8] #[.int .i8 8,.int .i64 a1,.int .i64 a2,.int .i64 a3,.int .i64 a4,.int .i64 a5,.int .i64 a6,.int .i64 a7,.int .i64 a8,.int .i64 a9,.int .i64 a10,.slice sa an ac,.int .i64 t.id,.int .i64 t.kind,.string t.text,.slice ar am ad]=some ([zm 8]++zq a1++zq a2++zq a4++zq a9++zq (an:Int)++qw ((steps vs).map vQ), #[.int .i8 8,.int .i64 a1,.int .i64 a2,.int .i64 a3,.int .i64 a4,.int .i64 a5,.int .i64 a6,.int .i64 a7,.int .i64 a8,.int .i64 a9,.int .i64 a10,.slice sa an ac,.int .i64 t.id,.int .i64 t.kind,.string t.text,.slice ar am ad]):=by kernel_rfl
theorem zfC (a1 a2 a3 a4 a5 a6 a7 a8 a9 a10:Int)(sa ar:Option Addr)(an ac am ad:Nat)(vs:List SV)(t:Tr)(hq:zM (steps vs)=true):∀a∈(zk za (zt 8)::zk za (toQ 8):: [zk za (ze 8),zk za ((9,0,1125899906842624)),ji (jh sa an ac vs)]:List (yj (List UInt8))),ZJ a:=fun a ha=>by
 simp only[List.mem_cons,List.not_mem_nil,or_false] at ha
 rcases ha with rfl | rfl | rfl | rfl | rfl
 · exact zz _
 · exact zz _
 · exact zz _
 · exact zz _
 · exact Qu hq
def zbt (a1 a2 a3 a4 a5 a6 a7 a8 a9 a10:Int)(sa ar:Option Addr)(an ac am ad:Nat)(vs:List SV)(t:Tr):List UInt8:=[zm 8]++zq a1++zq a2++zq a4++zq a9++zq (an:Int)++qw ((steps vs).map vQ)
theorem zgL (w:World)(a1 a2 a3 a4 a5 a6 a7 a8 a9 a10:Int)(sa ar:Option Addr)(an ac am ad:Nat)(vs:List SV)(t:Tr)(h:zJ w sa ar an am ad vs t)(hq:zM (steps vs)=true)(hr:∀Y,Below w.heap.size w Y→Calls Tryz.prog 22 #[.agg #[.int .i8 8,.int .i64 a1,.int .i64 a2,.int .i64 a3,.int .i64 a4,.int .i64 a5,.int .i64 a6,.int .i64 a7,.int .i64 a8,.int .i64 a9,.int .i64 a10,.slice sa an ac,.int .i64 t.id,.int .i64 t.kind,.string t.text,.slice ar am ad]] Y (zx true Y)):Calls Tryz.prog 31 #[.agg #[.int .i8 8,.int .i64 a1,.int .i64 a2,.int .i64 a3,.int .i64 a4,.int .i64 a5,.int .i64 a6,.int .i64 a7,.int .i64 a8,.int .i64 a9,.int .i64 a10,.slice sa an ac,.int .i64 t.id,.int .i64 t.kind,.string t.text,.slice ar am ad]] w (jV (zS (zbt a1 a2 a3 a4 a5 a6 a7 a8 a9 a10 sa ar an ac am ad vs t)) w):=by
 have hA:=zfC a1 a2 a3 a4 a5 a6 a7 a8 a9 a10 sa ar an ac am ad vs t hq
 have hG:=qi hA sp1 (s:=[zm 8]) sp1 #[.int .i8 8,.int .i64 a1,.int .i64 a2,.int .i64 a3,.int .i64 a4,.int .i64 a5,.int .i64 a6,.int .i64 a7,.int .i64 a8,.int .i64 a9,.int .i64 a10,.slice sa an ac,.int .i64 t.id,.int .i64 t.kind,.string t.text,.slice ar am ad]
 have hlen:(zbt a1 a2 a3 a4 a5 a6 a7 a8 a9 a10 sa ar an ac am ad vs t).length≤1000000000:=by
  have:=zV _ _ _ _ _ hA (zfO a1 a2 a3 a4 a5 a6 a7 a8 a9 a10 sa ar an ac am ad vs t)
  simp only[LlcQ,List.length_nil] at this
  unfold zbt
  omega
 refine ql w 8 a1 a2 a3 a4 a5 a6 a7 a8 a9 a10 t.id t.kind sa ar an ac am ad t.text 8 rfl ue3 _ hlen hr fun wb Y hY hx hw hlt=>?_
 refine (yw (zn w.heap.size wb om) 8 8 rfl ue3 ue3 _ rfl [zk za (ze 8),zk za ((9,0,1125899906842624)),ji (jh sa an ac vs)] rfl ue3 [zm 8] Y #[.int .i8 8,.int .i64 a1,.int .i64 a2,.int .i64 a3,.int .i64 a4,.int .i64 a5,.int .i64 a6,.int .i64 a7,.int .i64 a8,.int .i64 a9,.int .i64 a10,.slice sa an ac,.int .i64 t.id,.int .i64 t.kind,.string t.text,.slice ar am ad] (wf8 w Y w.heap.size wb om a1 a2 a3 a4 a5 a6 a7 a8 a9 a10 sa ar an ac am ad vs t h hq hY (NlrQ _) om) ⟨hw,by simp⟩ hx (yu _ _ _ _ _ _ _ _ _ _ _ _ _ _ _ _) hG).mono fun e Z hh=>?_
 rw[zfO a1 a2 a3 a4 a5 a6 a7 a8 a9 a10 sa ar an ac am ad vs t] at hh
 exact⟨hh.1,hh.2.1.1,hh.2.2.2⟩
theorem wf9 (w X0:World)(b wb:Nat)(hne:wb≠b)(a1 a2 a3 a4 a5 a6 a7 a8 a9 a10:Int)(sa ar:Option Addr)(an ac am ad:Nat)(vs:List SV)(t:Tr)(h:zJ w sa ar an am ad vs t)(h0:Below w.heap.size w X0)(hb:w.heap.size≤b)(hwb:w.heap.size≤wb)(j:Nat)(F:FuncId)(q:yj (List UInt8))(h1:([144,143]:List FuncId)[j]? =some F)(h2:([zk za ((3,1,1125899906842624)),zk za (ze 9)]:List (yj (List UInt8)))[j]? =some q):WF q b wb 9 F X0 #[.int .i8 9,.int .i64 a1,.int .i64 a2,.int .i64 a3,.int .i64 a4,.int .i64 a5,.int .i64 a6,.int .i64 a7,.int .i64 a8,.int .i64 a9,.int .i64 a10,.slice sa an ac,.int .i64 t.id,.int .i64 t.kind,.string t.text,.slice ar am ad] (decide (j+1=2)):=
 match j,h1,h2 with
 | 0,h1,h2=>by cases h1;cases h2;exact (qZ (zn b wb hne) 9).act X0 _ _
 | 1,h1,h2=>by cases h1;cases h2;exact (zN (zn b wb hne) 9).act X0 _ _
 | j+2,h1,h2=>by simp at h1
theorem zfP (a1 a2 a3 a4 a5 a6 a7 a8 a9 a10:Int)(sa ar:Option Addr)(an ac am ad:Nat)(vs:List SV)(t:Tr):yz (zk za (zt 9)::zk za (toQ 9):: [zk za ((3,1,1125899906842624)),zk za (ze 9)]) [zm 9] #[.int .i8 9,.int .i64 a1,.int .i64 a2,.int .i64 a3,.int .i64 a4,.int .i64 a5,.int .i64 a6,.int .i64 a7,.int .i64 a8,.int .i64 a9,.int .i64 a10,.slice sa an ac,.int .i64 t.id,.int .i64 t.kind,.string t.text,.slice ar am ad]=some ([zm 9]++zq a1++zq a2++zq a3++zq a4, #[.int .i8 9,.int .i64 a1,.int .i64 a2,.int .i64 a3,.int .i64 a4,.int .i64 a5,.int .i64 a6,.int .i64 a7,.int .i64 a8,.int .i64 a9,.int .i64 a10,.slice sa an ac,.int .i64 t.id,.int .i64 t.kind,.string t.text,.slice ar am ad]):=by kernel_rfl
theorem zfD (a1 a2 a3 a4 a5 a6 a7 a8 a9 a10:Int)(sa ar:Option Addr)(an ac am ad:Nat)(vs:List SV)(t:Tr):∀a∈(zk za (zt 9)::zk za (toQ 9):: [zk za ((3,1,1125899906842624)),zk za (ze 9)]:List (yj (List UInt8))),ZJ a:=fun a ha=>by
 simp only[List.mem_cons,List.not_mem_nil,or_false] at ha
 rcases ha with rfl | rfl | rfl | rfl
 · exact zz _
 · exact zz _
 · exact zz _
 · exact zz _
def zbu (a1 a2 a3 a4 a5 a6 a7 a8 a9 a10:Int)(sa ar:Option Addr)(an ac am ad:Nat)(vs:List SV)(t:Tr):List UInt8:=[zm 9]++zq a1++zq a2++zq a3++zq a4
theorem zgM (w:World)(a1 a2 a3 a4 a5 a6 a7 a8 a9 a10:Int)(sa ar:Option Addr)(an ac am ad:Nat)(vs:List SV)(t:Tr)(h:zJ w sa ar an am ad vs t)(hr:∀Y,Below w.heap.size w Y→Calls Tryz.prog 22 #[.agg #[.int .i8 9,.int .i64 a1,.int .i64 a2,.int .i64 a3,.int .i64 a4,.int .i64 a5,.int .i64 a6,.int .i64 a7,.int .i64 a8,.int .i64 a9,.int .i64 a10,.slice sa an ac,.int .i64 t.id,.int .i64 t.kind,.string t.text,.slice ar am ad]] Y (zx true Y)):Calls Tryz.prog 31 #[.agg #[.int .i8 9,.int .i64 a1,.int .i64 a2,.int .i64 a3,.int .i64 a4,.int .i64 a5,.int .i64 a6,.int .i64 a7,.int .i64 a8,.int .i64 a9,.int .i64 a10,.slice sa an ac,.int .i64 t.id,.int .i64 t.kind,.string t.text,.slice ar am ad]] w (jV (zS (zbu a1 a2 a3 a4 a5 a6 a7 a8 a9 a10 sa ar an ac am ad vs t)) w):=by
 have hA:=zfD a1 a2 a3 a4 a5 a6 a7 a8 a9 a10 sa ar an ac am ad vs t
 have hG:=qi hA sp1 (s:=[zm 9]) sp1 #[.int .i8 9,.int .i64 a1,.int .i64 a2,.int .i64 a3,.int .i64 a4,.int .i64 a5,.int .i64 a6,.int .i64 a7,.int .i64 a8,.int .i64 a9,.int .i64 a10,.slice sa an ac,.int .i64 t.id,.int .i64 t.kind,.string t.text,.slice ar am ad]
 have hlen:(zbu a1 a2 a3 a4 a5 a6 a7 a8 a9 a10 sa ar an ac am ad vs t).length≤1000000000:=by
  have:=zV _ _ _ _ _ hA (zfP a1 a2 a3 a4 a5 a6 a7 a8 a9 a10 sa ar an ac am ad vs t)
  simp only[LlcQ,List.length_nil] at this
  unfold zbu
  omega
 refine ql w 9 a1 a2 a3 a4 a5 a6 a7 a8 a9 a10 t.id t.kind sa ar an ac am ad t.text 9 rfl ue3 _ hlen hr fun wb Y hY hx hw hlt=>?_
 refine (yw (zn w.heap.size wb om) 9 9 rfl ue3 ue3 _ rfl [zk za ((3,1,1125899906842624)),zk za (ze 9)] rfl ue3 [zm 9] Y #[.int .i8 9,.int .i64 a1,.int .i64 a2,.int .i64 a3,.int .i64 a4,.int .i64 a5,.int .i64 a6,.int .i64 a7,.int .i64 a8,.int .i64 a9,.int .i64 a10,.slice sa an ac,.int .i64 t.id,.int .i64 t.kind,.string t.text,.slice ar am ad] (wf9 w Y w.heap.size wb om a1 a2 a3 a4 a5 a6 a7 a8 a9 a10 sa ar an ac am ad vs t h hY (NlrQ _) om) ⟨hw,by simp⟩ hx (yu _ _ _ _ _ _ _ _ _ _ _ _ _ _ _ _) hG).mono fun e Z hh=>?_
 rw[zfP a1 a2 a3 a4 a5 a6 a7 a8 a9 a10 sa ar an ac am ad vs t] at hh
 exact⟨hh.1,hh.2.1.1,hh.2.2.2⟩
theorem ziF (w X0:World)(b wb:Nat)(hne:wb≠b)(a1 a2 a3 a4 a5 a6 a7 a8 a9 a10:Int)(sa ar:Option Addr)(an ac am ad:Nat)(vs:List SV)(t:Tr)(h:zJ w sa ar an am ad vs t)(hq:zU t=true)(h0:Below w.heap.size w X0)(hb:w.heap.size≤b)(hwb:w.heap.size≤wb)(j:Nat)(F:FuncId)(q:yj (List UInt8))(h1:([143,149,150]:List FuncId)[j]? =some F)(h2:([zk za (ze 10),zk za ((9,0,1125899906842624)),qG (kL t ar am ad)]:List (yj (List UInt8)))[j]? =some q):WF q b wb 10 F X0 #[.int .i8 10,.int .i64 a1,.int .i64 a2,.int .i64 a3,.int .i64 a4,.int .i64 a5,.int .i64 a6,.int .i64 a7,.int .i64 a8,.int .i64 a9,.int .i64 a10,.slice sa an ac,.int .i64 t.id,.int .i64 t.kind,.string t.text,.slice ar am ad] (decide (j+1=3)):=
 match j,h1,h2 with
 | 0,h1,h2=>by cases h1;cases h2;exact (zN (zn b wb hne) 10).act X0 _ _
 | 1,h1,h2=>by cases h1;cases h2;exact (qd (zn b wb hne) 10).act X0 _ _
 | 2,h1,h2=>by cases h1;cases h2;exact zdn w X0 b wb hne 10 _ t ar am ad h0 hb hwb h.kids h.cap h.lies hq ⟨rfl,rfl,rfl,rfl⟩
 | j+3,h1,h2=>by simp at h1
theorem zcU (a1 a2 a3 a4 a5 a6 a7 a8 a9 a10:Int)(sa ar:Option Addr)(an ac am ad:Nat)(vs:List SV)(t:Tr):yz (zk za (zt 10)::zk za (toQ 10):: [zk za (ze 10),zk za ((9,0,1125899906842624)),qG (kL t ar am ad)]) [zm 10] #[.int .i8 10,.int .i64 a1,.int .i64 a2,.int .i64 a3,.int .i64 a4,.int .i64 a5,.int .i64 a6,.int .i64 a7,.int .i64 a8,.int .i64 a9,.int .i64 a10,.slice sa an ac,.int .i64 t.id,.int .i64 t.kind,.string t.text,.slice ar am ad]=some ([zm 10]++zq a1++zq a2++zq a4++zq a9++qA t, #[.int .i8 10,.int .i64 a1,.int .i64 a2,.int .i64 a3,.int .i64 a4,.int .i64 a5,.int .i64 a6,.int .i64 a7,.int .i64 a8,.int .i64 a9,.int .i64 a10,.slice sa an ac,.int .i64 t.id,.int .i64 t.kind,.string t.text,.slice ar am ad]):=by kernel_rfl
theorem zdm (a1 a2 a3 a4 a5 a6 a7 a8 a9 a10:Int)(sa ar:Option Addr)(an ac am ad:Nat)(vs:List SV)(t:Tr)(hq:zU t=true):∀a∈(zk za (zt 10)::zk za (toQ 10):: [zk za (ze 10),zk za ((9,0,1125899906842624)),qG (kL t ar am ad)]:List (yj (List UInt8))),ZJ a:=fun a ha=>by
 simp only[List.mem_cons,List.not_mem_nil,or_false] at ha
 rcases ha with rfl | rfl | rfl | rfl | rfl
 · exact zz _
 · exact zz _
 · exact zz _
 · exact zz _
 · exact Jn hq
def YR (a1 a2 a3 a4 a5 a6 a7 a8 a9 a10:Int)(sa ar:Option Addr)(an ac am ad:Nat)(vs:List SV)(t:Tr):List UInt8:=[zm 10]++zq a1++zq a2++zq a4++zq a9++qA t
theorem zfF (w:World)(a1 a2 a3 a4 a5 a6 a7 a8 a9 a10:Int)(sa ar:Option Addr)(an ac am ad:Nat)(vs:List SV)(t:Tr)(h:zJ w sa ar an am ad vs t)(hq:zU t=true)(hr:∀Y,Below w.heap.size w Y→Calls Tryz.prog 22 #[.agg #[.int .i8 10,.int .i64 a1,.int .i64 a2,.int .i64 a3,.int .i64 a4,.int .i64 a5,.int .i64 a6,.int .i64 a7,.int .i64 a8,.int .i64 a9,.int .i64 a10,.slice sa an ac,.int .i64 t.id,.int .i64 t.kind,.string t.text,.slice ar am ad]] Y (zx true Y)):Calls Tryz.prog 31 #[.agg #[.int .i8 10,.int .i64 a1,.int .i64 a2,.int .i64 a3,.int .i64 a4,.int .i64 a5,.int .i64 a6,.int .i64 a7,.int .i64 a8,.int .i64 a9,.int .i64 a10,.slice sa an ac,.int .i64 t.id,.int .i64 t.kind,.string t.text,.slice ar am ad]] w (jV (zS (YR a1 a2 a3 a4 a5 a6 a7 a8 a9 a10 sa ar an ac am ad vs t)) w):=by
 have hA:=zdm a1 a2 a3 a4 a5 a6 a7 a8 a9 a10 sa ar an ac am ad vs t hq
 have hG:=qi hA sp1 (s:=[zm 10]) sp1 #[.int .i8 10,.int .i64 a1,.int .i64 a2,.int .i64 a3,.int .i64 a4,.int .i64 a5,.int .i64 a6,.int .i64 a7,.int .i64 a8,.int .i64 a9,.int .i64 a10,.slice sa an ac,.int .i64 t.id,.int .i64 t.kind,.string t.text,.slice ar am ad]
 have hlen:(YR a1 a2 a3 a4 a5 a6 a7 a8 a9 a10 sa ar an ac am ad vs t).length≤1000000000:=by
  have:=zV _ _ _ _ _ hA (zcU a1 a2 a3 a4 a5 a6 a7 a8 a9 a10 sa ar an ac am ad vs t)
  simp only[LlcQ,List.length_nil] at this
  unfold YR
  omega
 refine ql w 10 a1 a2 a3 a4 a5 a6 a7 a8 a9 a10 t.id t.kind sa ar an ac am ad t.text 10 rfl ue3 _ hlen hr fun wb Y hY hx hw hlt=>?_
 refine (yw (zn w.heap.size wb om) 10 10 rfl ue3 ue3 _ rfl [zk za (ze 10),zk za ((9,0,1125899906842624)),qG (kL t ar am ad)] rfl ue3 [zm 10] Y #[.int .i8 10,.int .i64 a1,.int .i64 a2,.int .i64 a3,.int .i64 a4,.int .i64 a5,.int .i64 a6,.int .i64 a7,.int .i64 a8,.int .i64 a9,.int .i64 a10,.slice sa an ac,.int .i64 t.id,.int .i64 t.kind,.string t.text,.slice ar am ad] (ziF w Y w.heap.size wb om a1 a2 a3 a4 a5 a6 a7 a8 a9 a10 sa ar an ac am ad vs t h hq hY (NlrQ _) om) ⟨hw,by simp⟩ hx (yu _ _ _ _ _ _ _ _ _ _ _ _ _ _ _ _) hG).mono fun e Z hh=>?_
 rw[zcU a1 a2 a3 a4 a5 a6 a7 a8 a9 a10 sa ar an ac am ad vs t] at hh
 exact⟨hh.1,hh.2.1.1,hh.2.2.2⟩
end Go.Proofs.YtoidedomenkbpaaGreat
