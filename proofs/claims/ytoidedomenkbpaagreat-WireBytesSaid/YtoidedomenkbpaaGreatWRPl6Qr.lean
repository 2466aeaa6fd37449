/-
  .
-/
import Derived.Test.YtoidedomenkbpaaGreatWRightQr
set_option maxRecDepth 100000
set_option maxHeartbeats 40000000
set_option linter.unusedVariables false
set_option linter.unusedSimpArgs false
namespace Go.Proofs.YtoidedomenkbpaaGreat
open Go.RowKit Go.Shelf
def zx (b:Bool)(w:World)(e:Ending)(Z:World):Prop:=e= .returned (.bool b)∧Below w.heap.size w Z
theorem zfZ (w:World)(a:Option Addr)(n c:Nat)(f:Value)(hn:n≤1000000):Calls Tryz.prog 44 #[.slice a n c,.slice none 0 0,f] w (zx (n == 0) w):=by
 cases n with
 | succ m=>
   have hnn:(((m+1:Nat):Int) == 0)=false:=by simp;omega
   have hb:(m+1 == 0)=false:=by simp
   rw[hb]
   obtain⟨p,hp⟩:∃p,p=m+1:=⟨_,rfl⟩
   rw[←hp] at hnn hn ⊢
   clear hp hb
   go_enter Tryz.func44,Tryz.ntmps44
   go_wp2_with fail
   go_ret
   exact⟨rfl,BrQ _ _⟩
 | zero=>
   rw[show ((0:Nat) == 0)=true from rfl]
   go_enter Tryz.func44,Tryz.ntmps44
   go_wp2_with fail
   go_loopw [17] (fun i wr=>i= .int .i64 0∧wr=w) (fun i _=>0)
   case atStart=>exact⟨rfl,rfl⟩
   case round=>
    obtain⟨rfl,rfl⟩:=hrel
    go_wp2_with fail
    go_ret
    exact⟨rfl,BrQ _ _⟩
theorem vW (w:World)(a:Option Addr)(n c:Nat)(hn:n≤1000000):Calls Tryz.prog 62 #[.slice a n c,.slice none 0 0] w (zx (n == 0) w):=by
 have HE:=hH (zfZ w a n c (.func (.func 109) #[] #[]) hn)
 clear hn
 go_enter Tryz.func62,Tryz.ntmps62
 go_wp2_with fail
 refine HE.out.mono ?_
 rintro e Z ⟨rfl,h⟩
 have HB:=hH h
 clear h
 go_wp2_with fail
 go_ret
 exact⟨rfl,HB.out⟩
theorem Q8 (w:World):Calls Tryz.prog 63 #[.agg #[.int .i64 0,.int .i64 0,.string ⟨#[]⟩,.slice none 0 0],.agg #[.int .i64 0,.int .i64 0,.string ⟨#[]⟩,.slice none 0 0]] w (zx true w):=
 (kF w (fun _=>False) (fun _=>False) ⟨0,0,⟨#[]⟩,.nil⟩ ⟨0,0,⟨#[]⟩,.nil⟩ none none 0 0 0 0 rfl rfl (fun _ h=>h.elim) (fun _ h=>h.elim) (NlrQ _) (NlrQ _) trivial trivial ue3 ue3).mono fun e Z h=>⟨h.1.trans (by rw[ZY]),h.2⟩
theorem QI (a0 a1 a2 a3 a4 a5 a6 a7 a8 a9 a10:Int):Yo #[.int .i8 a0,.int .i64 a1,.int .i64 a2,.int .i64 a3,.int .i64 a4,.int .i64 a5,.int .i64 a6,.int .i64 a7,.int .i64 a8,.int .i64 a9,.int .i64 a10,.slice none 0 0,.int .i64 0,.int .i64 0,.string ⟨#[]⟩,.slice none 0 0] a0:=⟨rfl,fun i h1 h2=>by
 have:i=1∨i=2∨i=3∨i=4∨i=5∨i=6∨i=7∨i=8∨i=9∨i=10:=by omega
 rcases this with rfl | rfl | rfl | rfl | rfl | rfl | rfl | rfl | rfl | rfl<;>exact⟨_,rfl⟩⟩
theorem JD {a0:Int}{k:Nat}(hk:a0=(k:Int))(h1:1≤k)(h2:k≤10):zl 1 10 a0=true:=by
 unfold zl
 rw[decide_eq_true om,decide_eq_true om];rfl
theorem JS {a0:Int}{k:Nat}(hk:a0=(k:Int))(h2:k≤10):IntKind.i64.wrap a0=a0:=by
 subst hk
 exact sd0
theorem QV (w:World)(a0 a1 a2 a3 a4 a5 a6 a7 a8 a9 a10 c1 c2 c3 c4 c5 c6 c7 c8 c9 c10:Int)(k:Nat)(hk:a0=(k:Int))(hk1:1≤k)(hk2:k≤10)(l:List FuncId)(hl:kU[k]? =some l)(qs:List (Nat×Int×Int))(hlen:l.length=qs.length)(hqs:∀(b j:Nat) (F:FuncId) (q:Nat×Int×Int),l[j]? =some F→qs[j]? =some q→kN (σ:=Unit) (fun _=>True) (fun _ _=>True) (fun _=>False) zg b 87 (.agg #[]) a0 F q)(hll:l.length≤100)
 (ho:ve zg (zt a0::toQ a0::qs) () #[.int .i8 a0,.int .i64 a1,.int .i64 a2,.int .i64 a3,.int .i64 a4,.int .i64 a5,.int .i64 a6,.int .i64 a7,.int .i64 a8,.int .i64 a9,.int .i64 a10,.slice none 0 0,.int .i64 0,.int .i64 0,.string ⟨#[]⟩,.slice none 0 0]=some ((), #[.int .i8 a0,.int .i64 c1,.int .i64 c2,.int .i64 c3,.int .i64 c4,.int .i64 c5,.int .i64 c6,.int .i64 c7,.int .i64 c8,.int .i64 c9,.int .i64 c10,.slice none 0 0,.int .i64 0,.int .i64 0,.string ⟨#[]⟩,.slice none 0 0])):
 Calls Tryz.prog 22 #[.agg #[.int .i8 a0,.int .i64 a1,.int .i64 a2,.int .i64 a3,.int .i64 a4,.int .i64 a5,.int .i64 a6,.int .i64 a7,.int .i64 a8,.int .i64 a9,.int .i64 a10,.slice none 0 0,.int .i64 0,.int .i64 0,.string ⟨#[]⟩,.slice none 0 0]] w (zx (zP ⟨a0,c1,c2,c3,c4,c5,c6,c7,c8,c9,c10⟩ ⟨a0,0,0,0,0,0,0,0,0,0,0⟩) w):=
 Yz w a0 a1 a2 a3 a4 a5 a6 a7 a8 a9 a10 0 0 none none 0 0 0 0 ⟨#[]⟩ _ fun B hB hx=>YT B w.heap.size a0 a1 a2 a3 a4 a5 a6 a7 a8 a9 a10 0 0 none none 0 0 0 0 ⟨#[]⟩ a0 c1 c2 c3 c4 c5 c6 c7 c8 c9 c10 0 0 none none 0 0 0 0 ⟨#[]⟩ _ hx (JD hk hk1 hk2) (fun Y hY=>(QN (zw w.heap.size) a0 k hk hk1 hk2 l hl qs hlen (hqs w.heap.size) hll () Y #[.int .i8 a0,.int .i64 a1,.int .i64 a2,.int .i64 a3,.int .i64 a4,.int .i64 a5,.int .i64 a6,.int .i64 a7,.int .i64 a8,.int .i64 a9,.int .i64 a10,.slice none 0 0,.int .i64 0,.int .i64 0,.string ⟨#[]⟩,.slice none 0 0] trivial ((hY.block _ (lohQ hx)).trans hx) (QI a0 a1 a2 a3 a4 a5 a6 a7 a8 a9 a10) (fun _ _ _ _=>trivial)).mono fun e Z h=>by
  rw[ho] at h
  exact⟨h.1,h.2.2.1,zC h.2.2.2 (fun q hq=>hq.elim False.elim id)⟩)
  (fun Z hZ=>(qQ Z a0 c1 c2 c3 c4 c5 c6 c7 c8 c9 c10 0 0 none none 0 0 0 0 ⟨#[]⟩ a0 0 0 0 0 0 0 0 0 0 0 0 0 none none 0 0 0 0 ⟨#[]⟩ true true (JS hk hk2) (JS hk hk2) (fun Y _=>vW Y none 0 0 ue3) (fun Y _=>Q8 Y)).mono fun e V h=>⟨h.1.trans (by rw[Bool.and_true,Bool.and_true]),h.2⟩)
theorem zdR (b j:Nat)(F:FuncId)(q:Nat×Int×Int)(h1:([144,143]:List FuncId)[j]? =some F)(h2:([(3,1,1125899906842624),ze 9]:List (Nat×Int×Int))[j]? =some q):kN (σ:=Unit) (fun _=>True) (fun _ _=>True) (fun _=>False) zg b 87 (.agg #[]) 9 F q:=
 match j,h1,h2 with
 | 0,h1,h2=>by cases h1;cases h2;exact qZ (zw b) 9
 | 1,h1,h2=>by cases h1;cases h2;exact zN (zw b) 9
 | j+2,h1,h2=>by simp at h1
theorem zdQ (b j:Nat)(F:FuncId)(q:Nat×Int×Int)(h1:([143]:List FuncId)[j]? =some F)(h2:([ze 1]:List (Nat×Int×Int))[j]? =some q):kN (σ:=Unit) (fun _=>True) (fun _ _=>True) (fun _=>False) zg b 87 (.agg #[]) 1 F q:=
 match j,h1,h2 with
 | 0,h1,h2=>by cases h1;cases h2;exact zN (zw b) 1
 | j+1,h1,h2=>by simp at h1
theorem zfl (w:World):Calls Tryz.prog 22 #[.agg #[.int .i8 9,.int .i64 2,.int .i64 0,.int .i64 1,.int .i64 0,.int .i64 0,.int .i64 0,.int .i64 0,.int .i64 0,.int .i64 0,.int .i64 0,.slice none 0 0,.int .i64 0,.int .i64 0,.string ⟨#[]⟩,.slice none 0 0]] w (zx true w):=
 QV w 9 2 0 1 0 0 0 0 0 0 0 0 0 0 0 0 0 0 0 0 0 9 rfl ue3 ue3 _ rfl [(3,1,1125899906842624),ze 9] rfl zdR ue3 ue4
theorem zhu (w:World):Calls Tryz.prog 22 #[.agg #[.int .i8 1,.int .i64 0,.int .i64 1,.int .i64 0,.int .i64 1,.int .i64 1,.int .i64 0,.int .i64 0,.int .i64 0,.int .i64 0,.int .i64 0,.slice none 0 0,.int .i64 0,.int .i64 0,.string ⟨#[]⟩,.slice none 0 0]] w (zx false w):=
 QV w 1 0 1 0 1 1 0 0 0 0 0 0 0 0 0 1 0 0 0 0 0 1 rfl ue3 ue3 _ rfl [ze 1] rfl zdQ ue3 ue4
theorem yS {V:World}{R1:Nat}{T:TypeId}{c0 c1 c2 c3 c4 c5 c6 c7 c8 c9 c10 c11 c12 c13 c14 c15 u0 u1 u2 u3 u4 u5 u6 u7 u8 u9 u10 u11 u12 u13 u14 u15:Value}(h2:V.heap[R1]? =some (.cells #[c0,c1,c2,c3,c4,c5,c6,c7,c8,c9,c10,c11,c12,c13,c14,c15] T (0,0))):
 ∃V5,V5=((((((((((((((((V.setCell ⟨R1,0,none⟩ u0).setCell ⟨R1,1,none⟩ u1).setCell ⟨R1,2,none⟩ u2).setCell ⟨R1,3,none⟩ u3).setCell ⟨R1,4,none⟩ u4).setCell ⟨R1,5,none⟩ u5).setCell ⟨R1,6,none⟩ u6).setCell ⟨R1,7,none⟩ u7).setCell ⟨R1,8,none⟩ u8).setCell ⟨R1,9,none⟩ u9).setCell ⟨R1,10,none⟩ u10).setCell ⟨R1,11,none⟩ u11).setCell ⟨R1,12,none⟩ u12).setCell ⟨R1,13,none⟩ u13).setCell ⟨R1,14,none⟩ u14).setCell ⟨R1,15,none⟩ u15)∧V5.heap[R1]? =some (.cells #[u0,u1,u2,u3,u4,u5,u6,u7,u8,u9,u10,u11,u12,u13,u14,u15] T (0,0))∧(∀y,y≠R1→V5.heap[y]? =V.heap[y]?)∧V5.os=V.os∧V5.tape=V.tape∧V5.output=V.output∧V5.heap.size=V.heap.size:=by
 obtain⟨V1,e1,g1,o1,a1,t1,p1,s1⟩:=one_set (i:=0) (u:=u0) h2
 obtain⟨V2,e2,g2,o2,a2,t2,p2,s2⟩:=one_set (i:=1) (u:=u1) g1
 obtain⟨V3,e3,g3,o3,a3,t3,p3,s3⟩:=one_set (i:=2) (u:=u2) g2
 obtain⟨V4,e4,g4,o4,a4,t4,p4,s4⟩:=one_set (i:=3) (u:=u3) g3
 obtain⟨V5,e5,g5,o5,a5,t5,p5,s5⟩:=one_set (i:=4) (u:=u4) g4
 obtain⟨V6,e6,g6,o6,a6,t6,p6,s6⟩:=one_set (i:=5) (u:=u5) g5
 obtain⟨V7,e7,g7,o7,a7,t7,p7,s7⟩:=one_set (i:=6) (u:=u6) g6
 obtain⟨V8,e8,g8,o8,a8,t8,p8,s8⟩:=one_set (i:=7) (u:=u7) g7
 obtain⟨V9,e9,g9,o9,a9,t9,p9,s9⟩:=one_set (i:=8) (u:=u8) g8
 obtain⟨V10,e10,g10,o10,a10,t10,p10,s10⟩:=one_set (i:=9) (u:=u9) g9
 obtain⟨V11,e11,g11,o11,a11,t11,p11,s11⟩:=one_set (i:=10) (u:=u10) g10
 obtain⟨V12,e12,g12,o12,a12,t12,p12,s12⟩:=one_set (i:=11) (u:=u11) g11
 obtain⟨V13,e13,g13,o13,a13,t13,p13,s13⟩:=one_set (i:=12) (u:=u12) g12
 obtain⟨V14,e14,g14,o14,a14,t14,p14,s14⟩:=one_set (i:=13) (u:=u13) g13
 obtain⟨V15,e15,g15,o15,a15,t15,p15,s15⟩:=one_set (i:=14) (u:=u14) g14
 obtain⟨V16,e16,g16,o16,a16,t16,p16,s16⟩:=one_set (i:=15) (u:=u15) g15
 exact⟨V16,by rw[e16,e15,e14,e13,e12,e11,e10,e9,e8,e7,e6,e5,e4,e3,e2,e1],by simpa using g16,fun y hy=>by rw[o16 y hy,o15 y hy,o14 y hy,o13 y hy,o12 y hy,o11 y hy,o10 y hy,o9 y hy,o8 y hy,o7 y hy,o6 y hy,o5 y hy,o4 y hy,o3 y hy,o2 y hy,o1 y hy],by rw[a16,a15,a14,a13,a12,a11,a10,a9,a8,a7,a6,a5,a4,a3,a2,a1],by rw[t16,t15,t14,t13,t12,t11,t10,t9,t8,t7,t6,t5,t4,t3,t2,t1],by rw[p16,p15,p14,p13,p12,p11,p10,p9,p8,p7,p6,p5,p4,p3,p2,p1],by rw[s16,s15,s14,s13,s12,s11,s10,s9,s8,s7,s6,s5,s4,s3,s2,s1]⟩
def jg (w:World)(cs:Array Value)(b:Bool)(e:Ending)(w' :World):Prop:=e= .returned (.tuple #[.agg cs,.bool b])∧Below w.heap.size w w'
theorem zd9 (X:World)(a0 a1 a2 a3 a4 a5 a6 a7 a8 a9 a10 ai ak:Int)(sa ar:Option Addr)(an ac am ad:Nat)(aw:ByteArray)(b0 b1 b2 b3 b4 b5 b6 b7 b8 b9 b10 bi bk:Int)(sb_ br:Option Addr)(bn bc bm bd:Nat)(bw:ByteArray)  (h0:(a0 == b0)=false):Calls Tryz.prog 25 #[.agg #[.int .i8 a0,.int .i64 a1,.int .i64 a2,.int .i64 a3,.int .i64 a4,.int .i64 a5,.int .i64 a6,.int .i64 a7,.int .i64 a8,.int .i64 a9,.int .i64 a10,.slice sa an ac,.int .i64 ai,.int .i64 ak,.string aw,.slice ar am ad],.agg #[.int .i8 b0,.int .i64 b1,.int .i64 b2,.int .i64 b3,.int .i64 b4,.int .i64 b5,.int .i64 b6,.int .i64 b7,.int .i64 b8,.int .i64 b9,.int .i64 b10,.slice sb_ bn bc,.int .i64 bi,.int .i64 bk,.string bw,.slice br bm bd]] X (zx false X):=by
 exact sb9
theorem zea (X:World)(a0 a1 a2 a3 a4 a5 a6 a7 a8 a9 a10 ai ak:Int)(sa ar:Option Addr)(an ac am ad:Nat)(aw:ByteArray)(b0 b1 b2 b3 b4 b5 b6 b7 b8 b9 b10 bi bk:Int)(sb_ br:Option Addr)(bn bc bm bd:Nat)(bw:ByteArray)(h0:(a0 == b0)=true)(h1:(a1 == b1)=false):Calls Tryz.prog 25 #[.agg #[.int .i8 a0,.int .i64 a1,.int .i64 a2,.int .i64 a3,.int .i64 a4,.int .i64 a5,.int .i64 a6,.int .i64 a7,.int .i64 a8,.int .i64 a9,.int .i64 a10,.slice sa an ac,.int .i64 ai,.int .i64 ak,.string aw,.slice ar am ad],.agg #[.int .i8 b0,.int .i64 b1,.int .i64 b2,.int .i64 b3,.int .i64 b4,.int .i64 b5,.int .i64 b6,.int .i64 b7,.int .i64 b8,.int .i64 b9,.int .i64 b10,.slice sb_ bn bc,.int .i64 bi,.int .i64 bk,.string bw,.slice br bm bd]] X (zx false X):=by
 exact sb9
theorem zeb (X:World)(a0 a1 a2 a3 a4 a5 a6 a7 a8 a9 a10 ai ak:Int)(sa ar:Option Addr)(an ac am ad:Nat)(aw:ByteArray)(b0 b1 b2 b3 b4 b5 b6 b7 b8 b9 b10 bi bk:Int)(sb_ br:Option Addr)(bn bc bm bd:Nat)(bw:ByteArray)(h0:(a0 == b0)=true)(h1:(a1 == b1)=true)(h2:(a2 == b2)=false):Calls Tryz.prog 25 #[.agg #[.int .i8 a0,.int .i64 a1,.int .i64 a2,.int .i64 a3,.int .i64 a4,.int .i64 a5,.int .i64 a6,.int .i64 a7,.int .i64 a8,.int .i64 a9,.int .i64 a10,.slice sa an ac,.int .i64 ai,.int .i64 ak,.string aw,.slice ar am ad],.agg #[.int .i8 b0,.int .i64 b1,.int .i64 b2,.int .i64 b3,.int .i64 b4,.int .i64 b5,.int .i64 b6,.int .i64 b7,.int .i64 b8,.int .i64 b9,.int .i64 b10,.slice sb_ bn bc,.int .i64 bi,.int .i64 bk,.string bw,.slice br bm bd]] X (zx false X):=by
 exact sb9
theorem zec (X:World)(a0 a1 a2 a3 a4 a5 a6 a7 a8 a9 a10 ai ak:Int)(sa ar:Option Addr)(an ac am ad:Nat)(aw:ByteArray)(b0 b1 b2 b3 b4 b5 b6 b7 b8 b9 b10 bi bk:Int)(sb_ br:Option Addr)(bn bc bm bd:Nat)(bw:ByteArray)(h0:(a0 == b0)=true)(h1:(a1 == b1)=true)(h2:(a2 == b2)=true)(h3:(a3 == b3)=false):Calls Tryz.prog 25 #[.agg #[.int .i8 a0,.int .i64 a1,.int .i64 a2,.int .i64 a3,.int .i64 a4,.int .i64 a5,.int .i64 a6,.int .i64 a7,.int .i64 a8,.int .i64 a9,.int .i64 a10,.slice sa an ac,.int .i64 ai,.int .i64 ak,.string aw,.slice ar am ad],.agg #[.int .i8 b0,.int .i64 b1,.int .i64 b2,.int .i64 b3,.int .i64 b4,.int .i64 b5,.int .i64 b6,.int .i64 b7,.int .i64 b8,.int .i64 b9,.int .i64 b10,.slice sb_ bn bc,.int .i64 bi,.int .i64 bk,.string bw,.slice br bm bd]] X (zx false X):=by
 exact sb9
theorem zhR (w:World)(a1 a2 a3 a4 a5 a6 a7 a8 a9 a10 ai ak:Int)(sa ar:Option Addr)(an ac am ad:Nat)(aw:ByteArray):Calls Tryz.prog 57 #[.agg #[.int .i8 1,.int .i64 a1,.int .i64 a2,.int .i64 a3,.int .i64 a4,.int .i64 a5,.int .i64 a6,.int .i64 a7,.int .i64 a8,.int .i64 a9,.int .i64 a10,.slice sa an ac,.int .i64 ai,.int .i64 ak,.string aw,.slice ar am ad]] w (jg w #[.int .i8 1,.int .i64 a1,.int .i64 a2,.int .i64 0,.int .i64 a4,.int .i64 0,.int .i64 0,.int .i64 0,.int .i64 0,.int .i64 0,.int .i64 0,.slice none 0 0,.int .i64 0,.int .i64 0,.string ⟨#[]⟩,.slice none 0 0] false):=by
 obtain⟨B,hB⟩:∃B,B=zy w [.cells #[.int .i8 1,.int .i64 a1,.int .i64 a2,.int .i64 a3,.int .i64 a4,.int .i64 a5,.int .i64 a6,.int .i64 a7,.int .i64 a8,.int .i64 a9,.int .i64 a10,.slice sa an ac,.int .i64 ai,.int .i64 ak,.string aw,.slice ar am ad] 37,.cells #[.int .i8 0,.int .i64 0,.int .i64 0,.int .i64 0,.int .i64 0,.int .i64 0,.int .i64 0,.int .i64 0,.int .i64 0,.int .i64 0,.int .i64 0,.slice none 0 0,.int .i64 0,.int .i64 0,.string ⟨#[]⟩,.slice none 0 0] 37,.cells #[.int .i8 1,.int .i64 a1,.int .i64 a2,.int .i64 0,.int .i64 a4,.int .i64 0,.int .i64 0,.int .i64 0,.int .i64 0,.int .i64 0,.int .i64 0,.slice none 0 0,.int .i64 0,.int .i64 0,.string ⟨#[]⟩,.slice none 0 0] 37]:=⟨_,rfl⟩
 have hb:Below w.heap.size w B:=by rw[hB];exact zu _ _
 have e0:B.heap[w.heap.size]? =some (.cells #[.int .i8 1,.int .i64 a1,.int .i64 a2,.int .i64 a3,.int .i64 a4,.int .i64 a5,.int .i64 a6,.int .i64 a7,.int .i64 a8,.int .i64 a9,.int .i64 a10,.slice sa an ac,.int .i64 ai,.int .i64 ak,.string aw,.slice ar am ad] 37 (0,0)):=by rw[hB];exact zi _ _ 0 _ rfl
 have e1:B.heap[w.heap.size+1]? =some (.cells #[.int .i8 0,.int .i64 0,.int .i64 0,.int .i64 0,.int .i64 0,.int .i64 0,.int .i64 0,.int .i64 0,.int .i64 0,.int .i64 0,.int .i64 0,.slice none 0 0,.int .i64 0,.int .i64 0,.string ⟨#[]⟩,.slice none 0 0] 37 (0,0)):=by rw[hB];exact zi _ _ 1 _ rfl
 have e2:B.heap[w.heap.size+1+1]? =some (.cells #[.int .i8 1,.int .i64 a1,.int .i64 a2,.int .i64 0,.int .i64 a4,.int .i64 0,.int .i64 0,.int .i64 0,.int .i64 0,.int .i64 0,.int .i64 0,.slice none 0 0,.int .i64 0,.int .i64 0,.string ⟨#[]⟩,.slice none 0 0] 37 (0,0)):=by rw[hB];exact zi _ _ 2 _ rfl
 have hbx:=hb
 have f1:=e1
 obtain⟨V,hV,v1,v2,v3,v4,v5,v6⟩:=yS (u0:= .int .i8 1) (u1:= .int .i64 a1) (u2:= .int .i64 a2) (u3:= .int .i64 0) (u4:= .int .i64 a4) (u5:= .int .i64 0) (u6:= .int .i64 0) (u7:= .int .i64 0) (u8:= .int .i64 0) (u9:= .int .i64 0) (u10:= .int .i64 0) (u11:= .slice none 0 0) (u12:= .int .i64 0) (u13:= .int .i64 0) (u14:= .string ⟨#[]⟩) (u15:= .slice none 0 0) f1
 have HEND:=hH (aN v1 (show Below w.heap.size w V from⟨v3.trans hbx.os,v4.trans hbx.tape,v5.trans hbx.output,by rw[v6];exact hbx.size,fun y hy=>(v2 y om).trans (hbx.block y hy)⟩))
 have HV:=hH hV
 have HB:=hH hB
 have HXC:=hH (aN e2 f1)
 have c0:B.cell? ⟨w.heap.size,0,none⟩=some (.int .i8 1):=by rw[corQ _ _ 0 _ _ _ e0];rfl
 have df:∀j,B.frozen? ⟨w.heap.size+1+1,j,none⟩=false:=fun j=>forQ _ _ j _ _ e2
 clear hB hb e0 e1 e2 hV v1 v2 v3 v4 v5 v6 hbx f1
 go_enter Tryz.func57,Tryz.ntmps57
 go_upto_region 2 with fail
 change Code.wp _ _ _ _ (zy w [.cells #[.int .i8 1,.int .i64 a1,.int .i64 a2,.int .i64 a3,.int .i64 a4,.int .i64 a5,.int .i64 a6,.int .i64 a7,.int .i64 a8,.int .i64 a9,.int .i64 a10,.slice sa an ac,.int .i64 ai,.int .i64 ak,.string aw,.slice ar am ad] 37,.cells #[.int .i8 0,.int .i64 0,.int .i64 0,.int .i64 0,.int .i64 0,.int .i64 0,.int .i64 0,.int .i64 0,.int .i64 0,.int .i64 0,.int .i64 0,.slice none 0 0,.int .i64 0,.int .i64 0,.string ⟨#[]⟩,.slice none 0 0] 37,.cells #[.int .i8 1,.int .i64 a1,.int .i64 a2,.int .i64 0,.int .i64 a4,.int .i64 0,.int .i64 0,.int .i64 0,.int .i64 0,.int .i64 0,.int .i64 0,.slice none 0 0,.int .i64 0,.int .i64 0,.string ⟨#[]⟩,.slice none 0 0] 37])
 rw[←HB.out]
 go_upto_region 37 with fail
 clear c0 df
 have g0:B.cell? ⟨w.heap.size+1+1,0,none⟩=some (.int .i8 1):=by rw[corQ _ _ 0 _ _ _ HXC.out.1];rfl
 have g1:B.cell? ⟨w.heap.size+1+1,1,none⟩=some (.int .i64 a1):=by rw[corQ _ _ 1 _ _ _ HXC.out.1];rfl
 have g2:B.cell? ⟨w.heap.size+1+1,2,none⟩=some (.int .i64 a2):=by rw[corQ _ _ 2 _ _ _ HXC.out.1];rfl
 have g3:B.cell? ⟨w.heap.size+1+1,3,none⟩=some (.int .i64 0):=by rw[corQ _ _ 3 _ _ _ HXC.out.1];rfl
 have g4:B.cell? ⟨w.heap.size+1+1,4,none⟩=some (.int .i64 a4):=by rw[corQ _ _ 4 _ _ _ HXC.out.1];rfl
 have g5:B.cell? ⟨w.heap.size+1+1,5,none⟩=some (.int .i64 0):=by rw[corQ _ _ 5 _ _ _ HXC.out.1];rfl
 have g6:B.cell? ⟨w.heap.size+1+1,6,none⟩=some (.int .i64 0):=by rw[corQ _ _ 6 _ _ _ HXC.out.1];rfl
 have g7:B.cell? ⟨w.heap.size+1+1,7,none⟩=some (.int .i64 0):=by rw[corQ _ _ 7 _ _ _ HXC.out.1];rfl
 have g8:B.cell? ⟨w.heap.size+1+1,8,none⟩=some (.int .i64 0):=by rw[corQ _ _ 8 _ _ _ HXC.out.1];rfl
 have g9:B.cell? ⟨w.heap.size+1+1,9,none⟩=some (.int .i64 0):=by rw[corQ _ _ 9 _ _ _ HXC.out.1];rfl
 have g10:B.cell? ⟨w.heap.size+1+1,10,none⟩=some (.int .i64 0):=by rw[corQ _ _ 10 _ _ _ HXC.out.1];rfl
 have g11:B.cell? ⟨w.heap.size+1+1,11,none⟩=some (.slice none 0 0):=by rw[corQ _ _ 11 _ _ _ HXC.out.1];rfl
 have g12:B.cell? ⟨w.heap.size+1+1,12,none⟩=some (.int .i64 0):=by rw[corQ _ _ 12 _ _ _ HXC.out.1];rfl
 have g13:B.cell? ⟨w.heap.size+1+1,13,none⟩=some (.int .i64 0):=by rw[corQ _ _ 13 _ _ _ HXC.out.1];rfl
 have g14:B.cell? ⟨w.heap.size+1+1,14,none⟩=some (.string ⟨#[]⟩):=by rw[corQ _ _ 14 _ _ _ HXC.out.1];rfl
 have g15:B.cell? ⟨w.heap.size+1+1,15,none⟩=some (.slice none 0 0):=by rw[corQ _ _ 15 _ _ _ HXC.out.1];rfl
 have z0:B.cell? ⟨w.heap.size+1,0,none⟩=some (.int .i8 0):=by rw[corQ _ _ 0 _ _ _ HXC.out.2];rfl
 have z1:B.cell? ⟨w.heap.size+1,1,none⟩=some (.int .i64 0):=by rw[corQ _ _ 1 _ _ _ HXC.out.2];rfl
 have z2:B.cell? ⟨w.heap.size+1,2,none⟩=some (.int .i64 0):=by rw[corQ _ _ 2 _ _ _ HXC.out.2];rfl
 have z3:B.cell? ⟨w.heap.size+1,3,none⟩=some (.int .i64 0):=by rw[corQ _ _ 3 _ _ _ HXC.out.2];rfl
 have z4:B.cell? ⟨w.heap.size+1,4,none⟩=some (.int .i64 0):=by rw[corQ _ _ 4 _ _ _ HXC.out.2];rfl
 have z5:B.cell? ⟨w.heap.size+1,5,none⟩=some (.int .i64 0):=by rw[corQ _ _ 5 _ _ _ HXC.out.2];rfl
 have z6:B.cell? ⟨w.heap.size+1,6,none⟩=some (.int .i64 0):=by rw[corQ _ _ 6 _ _ _ HXC.out.2];rfl
 have z7:B.cell? ⟨w.heap.size+1,7,none⟩=some (.int .i64 0):=by rw[corQ _ _ 7 _ _ _ HXC.out.2];rfl
 have z8:B.cell? ⟨w.heap.size+1,8,none⟩=some (.int .i64 0):=by rw[corQ _ _ 8 _ _ _ HXC.out.2];rfl
 have z9:B.cell? ⟨w.heap.size+1,9,none⟩=some (.int .i64 0):=by rw[corQ _ _ 9 _ _ _ HXC.out.2];rfl
 have z10:B.cell? ⟨w.heap.size+1,10,none⟩=some (.int .i64 0):=by rw[corQ _ _ 10 _ _ _ HXC.out.2];rfl
 have z11:B.cell? ⟨w.heap.size+1,11,none⟩=some (.slice none 0 0):=by rw[corQ _ _ 11 _ _ _ HXC.out.2];rfl
 have z12:B.cell? ⟨w.heap.size+1,12,none⟩=some (.int .i64 0):=by rw[corQ _ _ 12 _ _ _ HXC.out.2];rfl
 have z13:B.cell? ⟨w.heap.size+1,13,none⟩=some (.int .i64 0):=by rw[corQ _ _ 13 _ _ _ HXC.out.2];rfl
 have z14:B.cell? ⟨w.heap.size+1,14,none⟩=some (.string ⟨#[]⟩):=by rw[corQ _ _ 14 _ _ _ HXC.out.2];rfl
 have z15:B.cell? ⟨w.heap.size+1,15,none⟩=some (.slice none 0 0):=by rw[corQ _ _ 15 _ _ _ HXC.out.2];rfl
 have zf:∀j,B.frozen? ⟨w.heap.size+1,j,none⟩=false:=fun j=>forQ _ _ j _ _ HXC.out.2
 exact sb5
theorem zhW (w:World)(a1 a2 a3 a4 a5 a6 a7 a8 a9 a10 ai ak:Int)(sa ar:Option Addr)(an ac am ad:Nat)(aw:ByteArray):Calls Tryz.prog 57 #[.agg #[.int .i8 6,.int .i64 a1,.int .i64 a2,.int .i64 a3,.int .i64 a4,.int .i64 a5,.int .i64 a6,.int .i64 a7,.int .i64 a8,.int .i64 a9,.int .i64 a10,.slice sa an ac,.int .i64 ai,.int .i64 ak,.string aw,.slice ar am ad]] w (jg w #[.int .i8 6,.int .i64 a1,.int .i64 a2,.int .i64 0,.int .i64 a4,.int .i64 a5,.int .i64 0,.int .i64 0,.int .i64 0,.int .i64 a9,.int .i64 0,.slice none 0 0,.int .i64 0,.int .i64 0,.string ⟨#[]⟩,.slice none 0 0] false):=by
 obtain⟨B,hB⟩:∃B,B=zy w [.cells #[.int .i8 6,.int .i64 a1,.int .i64 a2,.int .i64 a3,.int .i64 a4,.int .i64 a5,.int .i64 a6,.int .i64 a7,.int .i64 a8,.int .i64 a9,.int .i64 a10,.slice sa an ac,.int .i64 ai,.int .i64 ak,.string aw,.slice ar am ad] 37,.cells #[.int .i8 0,.int .i64 0,.int .i64 0,.int .i64 0,.int .i64 0,.int .i64 0,.int .i64 0,.int .i64 0,.int .i64 0,.int .i64 0,.int .i64 0,.slice none 0 0,.int .i64 0,.int .i64 0,.string ⟨#[]⟩,.slice none 0 0] 37,.cells #[.int .i8 6,.int .i64 a1,.int .i64 a2,.int .i64 0,.int .i64 a4,.int .i64 0,.int .i64 0,.int .i64 0,.int .i64 0,.int .i64 0,.int .i64 0,.slice none 0 0,.int .i64 0,.int .i64 0,.string ⟨#[]⟩,.slice none 0 0] 37]:=⟨_,rfl⟩
 have hb:Below w.heap.size w B:=by rw[hB];exact zu _ _
 have e0:B.heap[w.heap.size]? =some (.cells #[.int .i8 6,.int .i64 a1,.int .i64 a2,.int .i64 a3,.int .i64 a4,.int .i64 a5,.int .i64 a6,.int .i64 a7,.int .i64 a8,.int .i64 a9,.int .i64 a10,.slice sa an ac,.int .i64 ai,.int .i64 ak,.string aw,.slice ar am ad] 37 (0,0)):=by rw[hB];exact zi _ _ 0 _ rfl
 have e1:B.heap[w.heap.size+1]? =some (.cells #[.int .i8 0,.int .i64 0,.int .i64 0,.int .i64 0,.int .i64 0,.int .i64 0,.int .i64 0,.int .i64 0,.int .i64 0,.int .i64 0,.int .i64 0,.slice none 0 0,.int .i64 0,.int .i64 0,.string ⟨#[]⟩,.slice none 0 0] 37 (0,0)):=by rw[hB];exact zi _ _ 1 _ rfl
 have e2:B.heap[w.heap.size+1+1]? =some (.cells #[.int .i8 6,.int .i64 a1,.int .i64 a2,.int .i64 0,.int .i64 a4,.int .i64 0,.int .i64 0,.int .i64 0,.int .i64 0,.int .i64 0,.int .i64 0,.slice none 0 0,.int .i64 0,.int .i64 0,.string ⟨#[]⟩,.slice none 0 0] 37 (0,0)):=by rw[hB];exact zi _ _ 2 _ rfl
 obtain⟨Y0,hY0,r0,q0,x0,y0,z0,s0⟩:=one_set (i:=5) (u:= .int .i64 a5) e2
 have r0' :Y0.heap[w.heap.size+1+1]? =some (.cells #[.int .i8 6,.int .i64 a1,.int .i64 a2,.int .i64 0,.int .i64 a4,.int .i64 a5,.int .i64 0,.int .i64 0,.int .i64 0,.int .i64 0,.int .i64 0,.slice none 0 0,.int .i64 0,.int .i64 0,.string ⟨#[]⟩,.slice none 0 0] 37 (0,0)):=by simpa using r0
 obtain⟨Y1,hY1,r1,q1,x1,y1,z1,s1⟩:=one_set (i:=9) (u:= .int .i64 a9) r0'
 have r1' :Y1.heap[w.heap.size+1+1]? =some (.cells #[.int .i8 6,.int .i64 a1,.int .i64 a2,.int .i64 0,.int .i64 a4,.int .i64 a5,.int .i64 0,.int .i64 0,.int .i64 0,.int .i64 a9,.int .i64 0,.slice none 0 0,.int .i64 0,.int .i64 0,.string ⟨#[]⟩,.slice none 0 0] 37 (0,0)):=by simpa using r1
 have hbx:Below w.heap.size w Y1:=⟨by rw[x1,x0];exact hb.os,by rw[y1,y0];exact hb.tape,by rw[z1,z0];exact hb.output,by rw[s1,s0];exact hb.size,fun y hy=>by rw[q1 y om,q0 y om];exact hb.block y hy⟩
 have f1:Y1.heap[w.heap.size+1]? =some (.cells #[.int .i8 0,.int .i64 0,.int .i64 0,.int .i64 0,.int .i64 0,.int .i64 0,.int .i64 0,.int .i64 0,.int .i64 0,.int .i64 0,.int .i64 0,.slice none 0 0,.int .i64 0,.int .i64 0,.string ⟨#[]⟩,.slice none 0 0] 37 (0,0)):=by rw[q1 _ om,q0 _ om];exact e1
 have hYE:Y1=((B.setCell ⟨w.heap.size+1+1,5,none⟩ (.int .i64 a5)).setCell ⟨w.heap.size+1+1,9,none⟩ (.int .i64 a9)):=by rw[hY1,hY0]
 obtain⟨V,hV,v1,v2,v3,v4,v5,v6⟩:=yS (u0:= .int .i8 6) (u1:= .int .i64 a1) (u2:= .int .i64 a2) (u3:= .int .i64 0) (u4:= .int .i64 a4) (u5:= .int .i64 a5) (u6:= .int .i64 0) (u7:= .int .i64 0) (u8:= .int .i64 0) (u9:= .int .i64 a9) (u10:= .int .i64 0) (u11:= .slice none 0 0) (u12:= .int .i64 0) (u13:= .int .i64 0) (u14:= .string ⟨#[]⟩) (u15:= .slice none 0 0) f1
 have HEND:=hH (aN v1 (show Below w.heap.size w V from⟨v3.trans hbx.os,v4.trans hbx.tape,v5.trans hbx.output,by rw[v6];exact hbx.size,fun y hy=>(v2 y om).trans (hbx.block y hy)⟩))
 have HV:=hH hV
 have HB:=hH hB
 have HYE:=hH hYE
 have HXC:=hH (aN r1' f1)
 have c0:B.cell? ⟨w.heap.size,0,none⟩=some (.int .i8 6):=by rw[corQ _ _ 0 _ _ _ e0];rfl
 have c5:B.cell? ⟨w.heap.size,5,none⟩=some (.int .i64 a5):=by rw[corQ _ _ 5 _ _ _ e0];rfl
 have d5:B.cell? ⟨w.heap.size+1+1,5,none⟩=some (.int .i64 0):=by rw[corQ _ _ 5 _ _ _ e2];rfl
 have c9:B.cell? ⟨w.heap.size,9,none⟩=some (.int .i64 a9):=by rw[corQ _ _ 9 _ _ _ e0];rfl
 have d9:B.cell? ⟨w.heap.size+1+1,9,none⟩=some (.int .i64 0):=by rw[corQ _ _ 9 _ _ _ e2];rfl
 have df:∀j,B.frozen? ⟨w.heap.size+1+1,j,none⟩=false:=fun j=>forQ _ _ j _ _ e2
 clear hB hb e0 e1 e2 hV v1 v2 v3 v4 v5 v6 hbx f1 hY0 r0 r0' q0 x0 y0 z0 s0 hY1 r1 r1' q1 x1 y1 z1 s1 hYE
 go_enter Tryz.func57,Tryz.ntmps57
 go_upto_region 2 with fail
 change Code.wp _ _ _ _ (zy w [.cells #[.int .i8 6,.int .i64 a1,.int .i64 a2,.int .i64 a3,.int .i64 a4,.int .i64 a5,.int .i64 a6,.int .i64 a7,.int .i64 a8,.int .i64 a9,.int .i64 a10,.slice sa an ac,.int .i64 ai,.int .i64 ak,.string aw,.slice ar am ad] 37,.cells #[.int .i8 0,.int .i64 0,.int .i64 0,.int .i64 0,.int .i64 0,.int .i64 0,.int .i64 0,.int .i64 0,.int .i64 0,.int .i64 0,.int .i64 0,.slice none 0 0,.int .i64 0,.int .i64 0,.string ⟨#[]⟩,.slice none 0 0] 37,.cells #[.int .i8 6,.int .i64 a1,.int .i64 a2,.int .i64 0,.int .i64 a4,.int .i64 0,.int .i64 0,.int .i64 0,.int .i64 0,.int .i64 0,.int .i64 0,.slice none 0 0,.int .i64 0,.int .i64 0,.string ⟨#[]⟩,.slice none 0 0] 37])
 rw[←HB.out]
 go_upto_region 37 with fail
 rw[←HYE.out]
 clear c0 df c5 d5 c9 d9
 have g0:Y1.cell? ⟨w.heap.size+1+1,0,none⟩=some (.int .i8 6):=by rw[corQ _ _ 0 _ _ _ HXC.out.1];rfl
 have g1:Y1.cell? ⟨w.heap.size+1+1,1,none⟩=some (.int .i64 a1):=by rw[corQ _ _ 1 _ _ _ HXC.out.1];rfl
 have g2:Y1.cell? ⟨w.heap.size+1+1,2,none⟩=some (.int .i64 a2):=by rw[corQ _ _ 2 _ _ _ HXC.out.1];rfl
 have g3:Y1.cell? ⟨w.heap.size+1+1,3,none⟩=some (.int .i64 0):=by rw[corQ _ _ 3 _ _ _ HXC.out.1];rfl
 have g4:Y1.cell? ⟨w.heap.size+1+1,4,none⟩=some (.int .i64 a4):=by rw[corQ _ _ 4 _ _ _ HXC.out.1];rfl
 have g5:Y1.cell? ⟨w.heap.size+1+1,5,none⟩=some (.int .i64 a5):=by rw[corQ _ _ 5 _ _ _ HXC.out.1];rfl
 have g6:Y1.cell? ⟨w.heap.size+1+1,6,none⟩=some (.int .i64 0):=by rw[corQ _ _ 6 _ _ _ HXC.out.1];rfl
 have g7:Y1.cell? ⟨w.heap.size+1+1,7,none⟩=some (.int .i64 0):=by rw[corQ _ _ 7 _ _ _ HXC.out.1];rfl
 have g8:Y1.cell? ⟨w.heap.size+1+1,8,none⟩=some (.int .i64 0):=by rw[corQ _ _ 8 _ _ _ HXC.out.1];rfl
 have g9:Y1.cell? ⟨w.heap.size+1+1,9,none⟩=some (.int .i64 a9):=by rw[corQ _ _ 9 _ _ _ HXC.out.1];rfl
 have g10:Y1.cell? ⟨w.heap.size+1+1,10,none⟩=some (.int .i64 0):=by rw[corQ _ _ 10 _ _ _ HXC.out.1];rfl
 have g11:Y1.cell? ⟨w.heap.size+1+1,11,none⟩=some (.slice none 0 0):=by rw[corQ _ _ 11 _ _ _ HXC.out.1];rfl
 exact sa5
theorem zhZ (w:World)(a1 a2 a3 a4 a5 a6 a7 a8 a9 a10 ai ak:Int)(sa ar:Option Addr)(an ac am ad:Nat)(aw:ByteArray):Calls Tryz.prog 57 #[.agg #[.int .i8 9,.int .i64 a1,.int .i64 a2,.int .i64 a3,.int .i64 a4,.int .i64 a5,.int .i64 a6,.int .i64 a7,.int .i64 a8,.int .i64 a9,.int .i64 a10,.slice sa an ac,.int .i64 ai,.int .i64 ak,.string aw,.slice ar am ad]] w (jg w #[.int .i8 9,.int .i64 a1,.int .i64 a2,.int .i64 a3,.int .i64 a4,.int .i64 0,.int .i64 0,.int .i64 0,.int .i64 0,.int .i64 0,.int .i64 0,.slice none 0 0,.int .i64 0,.int .i64 0,.string ⟨#[]⟩,.slice none 0 0] true):=by
 obtain⟨B,hB⟩:∃B,B=zy w [.cells #[.int .i8 9,.int .i64 a1,.int .i64 a2,.int .i64 a3,.int .i64 a4,.int .i64 a5,.int .i64 a6,.int .i64 a7,.int .i64 a8,.int .i64 a9,.int .i64 a10,.slice sa an ac,.int .i64 ai,.int .i64 ak,.string aw,.slice ar am ad] 37,.cells #[.int .i8 0,.int .i64 0,.int .i64 0,.int .i64 0,.int .i64 0,.int .i64 0,.int .i64 0,.int .i64 0,.int .i64 0,.int .i64 0,.int .i64 0,.slice none 0 0,.int .i64 0,.int .i64 0,.string ⟨#[]⟩,.slice none 0 0] 37,.cells #[.int .i8 9,.int .i64 a1,.int .i64 a2,.int .i64 0,.int .i64 a4,.int .i64 0,.int .i64 0,.int .i64 0,.int .i64 0,.int .i64 0,.int .i64 0,.slice none 0 0,.int .i64 0,.int .i64 0,.string ⟨#[]⟩,.slice none 0 0] 37]:=⟨_,rfl⟩
 have hb:Below w.heap.size w B:=by rw[hB];exact zu _ _
 have e0:B.heap[w.heap.size]? =some (.cells #[.int .i8 9,.int .i64 a1,.int .i64 a2,.int .i64 a3,.int .i64 a4,.int .i64 a5,.int .i64 a6,.int .i64 a7,.int .i64 a8,.int .i64 a9,.int .i64 a10,.slice sa an ac,.int .i64 ai,.int .i64 ak,.string aw,.slice ar am ad] 37 (0,0)):=by rw[hB];exact zi _ _ 0 _ rfl
 have e1:B.heap[w.heap.size+1]? =some (.cells #[.int .i8 0,.int .i64 0,.int .i64 0,.int .i64 0,.int .i64 0,.int .i64 0,.int .i64 0,.int .i64 0,.int .i64 0,.int .i64 0,.int .i64 0,.slice none 0 0,.int .i64 0,.int .i64 0,.string ⟨#[]⟩,.slice none 0 0] 37 (0,0)):=by rw[hB];exact zi _ _ 1 _ rfl
 have e2:B.heap[w.heap.size+1+1]? =some (.cells #[.int .i8 9,.int .i64 a1,.int .i64 a2,.int .i64 0,.int .i64 a4,.int .i64 0,.int .i64 0,.int .i64 0,.int .i64 0,.int .i64 0,.int .i64 0,.slice none 0 0,.int .i64 0,.int .i64 0,.string ⟨#[]⟩,.slice none 0 0] 37 (0,0)):=by rw[hB];exact zi _ _ 2 _ rfl
 obtain⟨Y0,hY0,r0,q0,x0,y0,z0,s0⟩:=one_set (i:=3) (u:= .int .i64 a3) e2
 have r0' :Y0.heap[w.heap.size+1+1]? =some (.cells #[.int .i8 9,.int .i64 a1,.int .i64 a2,.int .i64 a3,.int .i64 a4,.int .i64 0,.int .i64 0,.int .i64 0,.int .i64 0,.int .i64 0,.int .i64 0,.slice none 0 0,.int .i64 0,.int .i64 0,.string ⟨#[]⟩,.slice none 0 0] 37 (0,0)):=by simpa using r0
 have hbx:Below w.heap.size w Y0:=⟨by rw[x0];exact hb.os,by rw[y0];exact hb.tape,by rw[z0];exact hb.output,by rw[s0];exact hb.size,fun y hy=>by rw[q0 y om];exact hb.block y hy⟩
 have f1:Y0.heap[w.heap.size+1]? =some (.cells #[.int .i8 0,.int .i64 0,.int .i64 0,.int .i64 0,.int .i64 0,.int .i64 0,.int .i64 0,.int .i64 0,.int .i64 0,.int .i64 0,.int .i64 0,.slice none 0 0,.int .i64 0,.int .i64 0,.string ⟨#[]⟩,.slice none 0 0] 37 (0,0)):=by rw[q0 _ om];exact e1
 have hYE:Y0=(B.setCell ⟨w.heap.size+1+1,3,none⟩ (.int .i64 a3)):=by rw[hY0]
 obtain⟨V,hV,v1,v2,v3,v4,v5,v6⟩:=yS (u0:= .int .i8 9) (u1:= .int .i64 a1) (u2:= .int .i64 a2) (u3:= .int .i64 a3) (u4:= .int .i64 a4) (u5:= .int .i64 0) (u6:= .int .i64 0) (u7:= .int .i64 0) (u8:= .int .i64 0) (u9:= .int .i64 0) (u10:= .int .i64 0) (u11:= .slice none 0 0) (u12:= .int .i64 0) (u13:= .int .i64 0) (u14:= .string ⟨#[]⟩) (u15:= .slice none 0 0) f1
 have HEND:=hH (aN v1 (show Below w.heap.size w V from⟨v3.trans hbx.os,v4.trans hbx.tape,v5.trans hbx.output,by rw[v6];exact hbx.size,fun y hy=>(v2 y om).trans (hbx.block y hy)⟩))
 have HV:=hH hV
 have HB:=hH hB
 have HYE:=hH hYE
 have HXC:=hH (aN r0' f1)
 have c0:B.cell? ⟨w.heap.size,0,none⟩=some (.int .i8 9):=by rw[corQ _ _ 0 _ _ _ e0];rfl
 have c3:B.cell? ⟨w.heap.size,3,none⟩=some (.int .i64 a3):=by rw[corQ _ _ 3 _ _ _ e0];rfl
 have d3:B.cell? ⟨w.heap.size+1+1,3,none⟩=some (.int .i64 0):=by rw[corQ _ _ 3 _ _ _ e2];rfl
 have df:∀j,B.frozen? ⟨w.heap.size+1+1,j,none⟩=false:=fun j=>forQ _ _ j _ _ e2
 clear hB hb e0 e1 e2 hV v1 v2 v3 v4 v5 v6 hbx f1 hY0 r0 r0' q0 x0 y0 z0 s0 hYE
 go_enter Tryz.func57,Tryz.ntmps57
 go_upto_region 2 with fail
 change Code.wp _ _ _ _ (zy w [.cells #[.int .i8 9,.int .i64 a1,.int .i64 a2,.int .i64 a3,.int .i64 a4,.int .i64 a5,.int .i64 a6,.int .i64 a7,.int .i64 a8,.int .i64 a9,.int .i64 a10,.slice sa an ac,.int .i64 ai,.int .i64 ak,.string aw,.slice ar am ad] 37,.cells #[.int .i8 0,.int .i64 0,.int .i64 0,.int .i64 0,.int .i64 0,.int .i64 0,.int .i64 0,.int .i64 0,.int .i64 0,.int .i64 0,.int .i64 0,.slice none 0 0,.int .i64 0,.int .i64 0,.string ⟨#[]⟩,.slice none 0 0] 37,.cells #[.int .i8 9,.int .i64 a1,.int .i64 a2,.int .i64 0,.int .i64 a4,.int .i64 0,.int .i64 0,.int .i64 0,.int .i64 0,.int .i64 0,.int .i64 0,.slice none 0 0,.int .i64 0,.int .i64 0,.string ⟨#[]⟩,.slice none 0 0] 37])
 rw[←HB.out]
 go_upto_region 17 with fail
 rw[←HYE.out]
 clear c0 df c3 d3
 have g0:Y0.cell? ⟨w.heap.size+1+1,0,none⟩=some (.int .i8 9):=by rw[corQ _ _ 0 _ _ _ HXC.out.1];rfl
 have g1:Y0.cell? ⟨w.heap.size+1+1,1,none⟩=some (.int .i64 a1):=by rw[corQ _ _ 1 _ _ _ HXC.out.1];rfl
 have g2:Y0.cell? ⟨w.heap.size+1+1,2,none⟩=some (.int .i64 a2):=by rw[corQ _ _ 2 _ _ _ HXC.out.1];rfl
 have g3:Y0.cell? ⟨w.heap.size+1+1,3,none⟩=some (.int .i64 a3):=by rw[corQ _ _ 3 _ _ _ HXC.out.1];rfl
 have g4:Y0.cell? ⟨w.heap.size+1+1,4,none⟩=some (.int .i64 a4):=by rw[corQ _ _ 4 _ _ _ HXC.out.1];rfl
 have g5:Y0.cell? ⟨w.heap.size+1+1,5,none⟩=some (.int .i64 0):=by rw[corQ _ _ 5 _ _ _ HXC.out.1];rfl
 have g6:Y0.cell? ⟨w.heap.size+1+1,6,none⟩=some (.int .i64 0):=by rw[corQ _ _ 6 _ _ _ HXC.out.1];rfl
 have g7:Y0.cell? ⟨w.heap.size+1+1,7,none⟩=some (.int .i64 0):=by rw[corQ _ _ 7 _ _ _ HXC.out.1];rfl
 have g8:Y0.cell? ⟨w.heap.size+1+1,8,none⟩=some (.int .i64 0):=by rw[corQ _ _ 8 _ _ _ HXC.out.1];rfl
 have g9:Y0.cell? ⟨w.heap.size+1+1,9,none⟩=some (.int .i64 0):=by rw[corQ _ _ 9 _ _ _ HXC.out.1];rfl
 have g10:Y0.cell? ⟨w.heap.size+1+1,10,none⟩=some (.int .i64 0):=by rw[corQ _ _ 10 _ _ _ HXC.out.1];rfl
 have g11:Y0.cell? ⟨w.heap.size+1+1,11,none⟩=some (.slice none 0 0):=by rw[corQ _ _ 11 _ _ _ HXC.out.1];rfl
 have g12:Y0.cell? ⟨w.heap.size+1+1,12,none⟩=some (.int .i64 0):=by rw[corQ _ _ 12 _ _ _ HXC.out.1];rfl
 have g13:Y0.cell? ⟨w.heap.size+1+1,13,none⟩=some (.int .i64 0):=by rw[corQ _ _ 13 _ _ _ HXC.out.1];rfl
 have g14:Y0.cell? ⟨w.heap.size+1+1,14,none⟩=some (.string ⟨#[]⟩):=by rw[corQ _ _ 14 _ _ _ HXC.out.1];rfl
 have g15:Y0.cell? ⟨w.heap.size+1+1,15,none⟩=some (.slice none 0 0):=by rw[corQ _ _ 15 _ _ _ HXC.out.1];rfl
 have z0:Y0.cell? ⟨w.heap.size+1,0,none⟩=some (.int .i8 0):=by rw[corQ _ _ 0 _ _ _ HXC.out.2];rfl
 have z1:Y0.cell? ⟨w.heap.size+1,1,none⟩=some (.int .i64 0):=by rw[corQ _ _ 1 _ _ _ HXC.out.2];rfl
 have z2:Y0.cell? ⟨w.heap.size+1,2,none⟩=some (.int .i64 0):=by rw[corQ _ _ 2 _ _ _ HXC.out.2];rfl
 have z3:Y0.cell? ⟨w.heap.size+1,3,none⟩=some (.int .i64 0):=by rw[corQ _ _ 3 _ _ _ HXC.out.2];rfl
 have z4:Y0.cell? ⟨w.heap.size+1,4,none⟩=some (.int .i64 0):=by rw[corQ _ _ 4 _ _ _ HXC.out.2];rfl
 have z5:Y0.cell? ⟨w.heap.size+1,5,none⟩=some (.int .i64 0):=by rw[corQ _ _ 5 _ _ _ HXC.out.2];rfl
 have z6:Y0.cell? ⟨w.heap.size+1,6,none⟩=some (.int .i64 0):=by rw[corQ _ _ 6 _ _ _ HXC.out.2];rfl
 have z7:Y0.cell? ⟨w.heap.size+1,7,none⟩=some (.int .i64 0):=by rw[corQ _ _ 7 _ _ _ HXC.out.2];rfl
 have z8:Y0.cell? ⟨w.heap.size+1,8,none⟩=some (.int .i64 0):=by rw[corQ _ _ 8 _ _ _ HXC.out.2];rfl
 have z9:Y0.cell? ⟨w.heap.size+1,9,none⟩=some (.int .i64 0):=by rw[corQ _ _ 9 _ _ _ HXC.out.2];rfl
 have z10:Y0.cell? ⟨w.heap.size+1,10,none⟩=some (.int .i64 0):=by rw[corQ _ _ 10 _ _ _ HXC.out.2];rfl
 have z11:Y0.cell? ⟨w.heap.size+1,11,none⟩=some (.slice none 0 0):=by rw[corQ _ _ 11 _ _ _ HXC.out.2];rfl
 have z12:Y0.cell? ⟨w.heap.size+1,12,none⟩=some (.int .i64 0):=by rw[corQ _ _ 12 _ _ _ HXC.out.2];rfl
 have z13:Y0.cell? ⟨w.heap.size+1,13,none⟩=some (.int .i64 0):=by rw[corQ _ _ 13 _ _ _ HXC.out.2];rfl
 have z14:Y0.cell? ⟨w.heap.size+1,14,none⟩=some (.string ⟨#[]⟩):=by rw[corQ _ _ 14 _ _ _ HXC.out.2];rfl
 have z15:Y0.cell? ⟨w.heap.size+1,15,none⟩=some (.slice none 0 0):=by rw[corQ _ _ 15 _ _ _ HXC.out.2];rfl
 have zf:∀j,Y0.frozen? ⟨w.heap.size+1,j,none⟩=false:=fun j=>forQ _ _ j _ _ HXC.out.2
 exact sb5
end Go.Proofs.YtoidedomenkbpaaGreat
