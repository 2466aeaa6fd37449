/-
  .
-/
import Derived.Test.YtoidedomenkbpaaGreatWRightQs
import Derived.Test.YtoidedomenkbpaaGreatSRefQs
set_option maxRecDepth 100000
set_option maxHeartbeats 40000000
set_option linter.unusedVariables false
set_option linter.unusedSimpArgs false
namespace Go.Proofs.YtoidedomenkbpaaGreat
open Go.RowKit Go.Shelf
def zX (b:Bool)(w:World)(e:Ending)(Z:World):Prop:=e= .returned (.bool b)∧Below w.heap.size w Z
theorem zie (w:World)(a:Option Addr)(n c:Nat)(f:Value)(hn:n≤1000000):Calls Tryz.prog 44 #[.slice a n c,.slice none 0 0,f] w (zX (n == 0) w):=by
 cases n with
 | succ m=>
   have hnn:(((m+1:Nat):Int) == 0)=false:=by simp;omega
   have hb:(m+1 == 0)=false:=by simp
   rw[hb]
   obtain⟨p,hp⟩:∃p,p=m+1:=⟨_,rfl⟩
   rw[←hp] at hnn hn ⊢
   clear hp hb
   go_enter Tryz.func44,Tryz.ntmps44
   go_wp2_with fail
   go_ret
   exact⟨rfl,BrQ _ _⟩
 | zero=>
   rw[show ((0:Nat) == 0)=true from rfl]
   go_enter Tryz.func44,Tryz.ntmps44
   go_wp2_with fail
   go_loopw [17] (fun i wr=>i= .int .i64 0∧wr=w) (fun i _=>0)
   case atStart=>exact⟨rfl,rfl⟩
   case round=>
    obtain⟨rfl,rfl⟩:=hrel
    go_wp2_with fail
    go_ret
    exact⟨rfl,BrQ _ _⟩
theorem kv (w:World)(a:Option Addr)(n c:Nat)(hn:n≤1000000):Calls Tryz.prog 62 #[.slice a n c,.slice none 0 0] w (zX (n == 0) w):=by
 have HE:=hH (zie w a n c (.func (.func 109) #[] #[]) hn)
 clear hn
 go_enter Tryz.func62,Tryz.ntmps62
 go_wp2_with fail
 refine HE.out.mono ?_
 rintro e Z ⟨rfl,h⟩
 have HB:=hH h
 clear h
 go_wp2_with fail
 go_ret
 exact⟨rfl,HB.out⟩
theorem zaN (w:World):Calls Tryz.prog 63 #[.agg #[.int .i64 0,.int .i64 0,.string ⟨#[]⟩,.slice none 0 0],.agg #[.int .i64 0,.int .i64 0,.string ⟨#[]⟩,.slice none 0 0]] w (zX true w):=
 (kV w (fun _=>False) (fun _=>False) ⟨0,0,⟨#[]⟩,.nil⟩ ⟨0,0,⟨#[]⟩,.nil⟩ none none 0 0 0 0 rfl rfl (fun _ h=>h.elim) (fun _ h=>h.elim) (NlrQ _) (NlrQ _) trivial trivial ue0 ue0).mono fun e Z h=>⟨h.1.trans (by rw[qj]),h.2⟩
theorem zan (a0 a1 a2 a3 a4 a5 a6 a7 a8 a9 a10:Int):Yf #[.int .i8 a0,.int .i64 a1,.int .i64 a2,.int .i64 a3,.int .i64 a4,.int .i64 a5,.int .i64 a6,.int .i64 a7,.int .i64 a8,.int .i64 a9,.int .i64 a10,.slice none 0 0,.int .i64 0,.int .i64 0,.string ⟨#[]⟩,.slice none 0 0] a0:=⟨rfl,fun i h1 h2=>by
 have:i=1∨i=2∨i=3∨i=4∨i=5∨i=6∨i=7∨i=8∨i=9∨i=10:=by omega
 rcases this with rfl | rfl | rfl | rfl | rfl | rfl | rfl | rfl | rfl | rfl<;>exact⟨_,rfl⟩⟩
theorem QW {a0:Int}{k:Nat}(hk:a0=(k:Int))(h1:1≤k)(h2:k≤10):zA 1 10 a0=true:=by
 unfold zA
 rw[decide_eq_true om1,decide_eq_true om1];rfl
theorem zbP {a0:Int}{k:Nat}(hk:a0=(k:Int))(h2:k≤10):IntKind.i64.wrap a0=a0:=by
 subst hk
 exact sc2
theorem zaE (w:World)(a0 a1 a2 a3 a4 a5 a6 a7 a8 a9 a10 c1 c2 c3 c4 c5 c6 c7 c8 c9 c10:Int)(k:Nat)(hk:a0=(k:Int))(hk1:1≤k)(hk2:k≤10)(l:List FuncId)(hl:ZH[k]? =some l)(qs:List (Nat×Int×Int))(hlen:l.length=qs.length)(hqs:∀(b j:Nat) (F:FuncId) (q:Nat×Int×Int),l[j]? =some F→qs[j]? =some q→kS (σ:=Unit) (fun _=>True) (fun _ _=>True) (fun _=>False) zi b 87 (.agg #[]) a0 F q)(hll:l.length≤100)
 (ho:qU zi (zl a0::toQ a0::qs) () #[.int .i8 a0,.int .i64 a1,.int .i64 a2,.int .i64 a3,.int .i64 a4,.int .i64 a5,.int .i64 a6,.int .i64 a7,.int .i64 a8,.int .i64 a9,.int .i64 a10,.slice none 0 0,.int .i64 0,.int .i64 0,.string ⟨#[]⟩,.slice none 0 0]=some ((), #[.int .i8 a0,.int .i64 c1,.int .i64 c2,.int .i64 c3,.int .i64 c4,.int .i64 c5,.int .i64 c6,.int .i64 c7,.int .i64 c8,.int .i64 c9,.int .i64 c10,.slice none 0 0,.int .i64 0,.int .i64 0,.string ⟨#[]⟩,.slice none 0 0])):
 Calls Tryz.prog 22 #[.agg #[.int .i8 a0,.int .i64 a1,.int .i64 a2,.int .i64 a3,.int .i64 a4,.int .i64 a5,.int .i64 a6,.int .i64 a7,.int .i64 a8,.int .i64 a9,.int .i64 a10,.slice none 0 0,.int .i64 0,.int .i64 0,.string ⟨#[]⟩,.slice none 0 0]] w (zX (yz ⟨a0,c1,c2,c3,c4,c5,c6,c7,c8,c9,c10⟩ ⟨a0,0,0,0,0,0,0,0,0,0,0⟩) w):=
 Q8 w a0 a1 a2 a3 a4 a5 a6 a7 a8 a9 a10 0 0 none none 0 0 0 0 ⟨#[]⟩ _ fun B hB hx=>Jt B w.heap.size a0 a1 a2 a3 a4 a5 a6 a7 a8 a9 a10 0 0 none none 0 0 0 0 ⟨#[]⟩ a0 c1 c2 c3 c4 c5 c6 c7 c8 c9 c10 0 0 none none 0 0 0 0 ⟨#[]⟩ _ hx (QW hk hk1 hk2) (fun Y hY=>(jJ (zx w.heap.size) a0 k hk hk1 hk2 l hl qs hlen (hqs w.heap.size) hll () Y #[.int .i8 a0,.int .i64 a1,.int .i64 a2,.int .i64 a3,.int .i64 a4,.int .i64 a5,.int .i64 a6,.int .i64 a7,.int .i64 a8,.int .i64 a9,.int .i64 a10,.slice none 0 0,.int .i64 0,.int .i64 0,.string ⟨#[]⟩,.slice none 0 0] trivial ((hY.block _ (lohQ hx)).trans hx) (zan a0 a1 a2 a3 a4 a5 a6 a7 a8 a9 a10) (fun _ _ _ _=>trivial)).mono fun e Z h=>by
  rw[ho] at h
  exact⟨h.1,h.2.2.1,zG h.2.2.2 (fun q hq=>hq.elim False.elim id)⟩)
  (fun Z hZ=>(vv Z a0 c1 c2 c3 c4 c5 c6 c7 c8 c9 c10 0 0 none none 0 0 0 0 ⟨#[]⟩ a0 0 0 0 0 0 0 0 0 0 0 0 0 none none 0 0 0 0 ⟨#[]⟩ true true (zbP hk hk2) (zbP hk hk2) (fun Y _=>kv Y none 0 0 ue0) (fun Y _=>zaN Y)).mono fun e V h=>⟨h.1.trans (by rw[Bool.and_true,Bool.and_true]),h.2⟩)
theorem zfX (b j:Nat)(F:FuncId)(q:Nat×Int×Int)(h1:([144,143]:List FuncId)[j]? =some F)(h2:([(3,1,1125899906842624),zg 9]:List (Nat×Int×Int))[j]? =some q):kS (σ:=Unit) (fun _=>True) (fun _ _=>True) (fun _=>False) zi b 87 (.agg #[]) 9 F q:=
 match j,h1,h2 with
 | 0,h1,h2=>by cases h1;cases h2;exact qK (zx b) 9
 | 1,h1,h2=>by cases h1;cases h2;exact zB (zx b) 9
 | j+2,h1,h2=>by simp at h1
theorem zfW (b j:Nat)(F:FuncId)(q:Nat×Int×Int)(h1:([143]:List FuncId)[j]? =some F)(h2:([zg 1]:List (Nat×Int×Int))[j]? =some q):kS (σ:=Unit) (fun _=>True) (fun _ _=>True) (fun _=>False) zi b 87 (.agg #[]) 1 F q:=
 match j,h1,h2 with
 | 0,h1,h2=>by cases h1;cases h2;exact zB (zx b) 1
 | j+1,h1,h2=>by simp at h1
theorem zhI (w:World):Calls Tryz.prog 22 #[.agg #[.int .i8 9,.int .i64 2,.int .i64 0,.int .i64 1,.int .i64 0,.int .i64 0,.int .i64 0,.int .i64 0,.int .i64 0,.int .i64 0,.int .i64 0,.slice none 0 0,.int .i64 0,.int .i64 0,.string ⟨#[]⟩,.slice none 0 0]] w (zX true w):=
 zaE w 9 2 0 1 0 0 0 0 0 0 0 0 0 0 0 0 0 0 0 0 0 9 rfl ue0 ue0 _ rfl [(3,1,1125899906842624),zg 9] rfl zfX ue0 ue1
theorem zkn (w:World):Calls Tryz.prog 22 #[.agg #[.int .i8 1,.int .i64 0,.int .i64 1,.int .i64 0,.int .i64 1,.int .i64 1,.int .i64 0,.int .i64 0,.int .i64 0,.int .i64 0,.int .i64 0,.slice none 0 0,.int .i64 0,.int .i64 0,.string ⟨#[]⟩,.slice none 0 0]] w (zX false w):=
 zaE w 1 0 1 0 1 1 0 0 0 0 0 0 0 0 0 1 0 0 0 0 0 1 rfl ue0 ue0 _ rfl [zg 1] rfl zfW ue0 ue1
end Go.Proofs.YtoidedomenkbpaaGreat
namespace Go.Proofs.YtoidedomenkbpaaGreat
open Go.RowKit
open Extern.Stop (cell)
def vC (n:Int)(s:Nat):UInt8:=UInt8.ofNat (n / (2 ^ s:Nat) % 256).toNat
def be4 (n:Int):List UInt8:=[vC n 24,vC n 16,vC n 8,vC n 0]
def zy (bs:List UInt8):List UInt8:=bs++be4 (Ym 0 bs:Int)
theorem zjX (n:Int)(k:Nat)(h:k<4):(be4 n)[k]? =some (vC n (24 - 8*k)):=by
 have:k=0∨k=1∨k=2∨k=3:=by omega
 rcases this with rfl | rfl | rfl | rfl<;>rfl
theorem YU (n:Int):(be4 n).length=4:=rfl
theorem zS (bs:List UInt8):(zy bs).length=bs.length+4:=by simp[zy,YU]
theorem Yn (n:Int)(q:Nat):cell (vC n q)= .int .u8 (n / 2 ^ q % 256):=by
 have h0:0≤n / 2 ^ q % 256:=Int.emod_nonneg _ ue0
 have h1:n / 2 ^ q % 256<256:=Int.emod_lt_of_pos _ ue0
 have e:(vC n q).toNat=(n / 2 ^ q % 256).toNat:=by
  have e2:vC n q=UInt8.ofNat (n / 2 ^ q % 256).toNat:=by unfold vC;push_cast;rfl
  rw[e2,UInt8.toNat_ofNat'];omega
 show Value.int .u8 ((vC n q).toNat:Int)=_
 rw[e,Int.toNat_of_nonneg h0]
theorem zcK (bs:List UInt8)(n:Int)(k:Nat)(h:k<4):(bs++(be4 n).take (k+1)).length=(bs++(be4 n).take k).length+1∧(bs++(be4 n).take (k+1)).map cell=(bs++(be4 n).take k).map cell++[.int .u8 (n / 2 ^ (24 - 8*k) % 256)]:=by
 rw[List.take_add_one,zjX n k h]
 refine⟨by simp;omega,?_⟩
 simp[Yn]
theorem zdr {w w' :World}{B:Nat}{v:Value}(hB:B≤w.heap.size)(ho:w'.ownsRow B 5 1 v 0 [])(hg:w.grownBy w' none):yQ B v 0 [] w w':=
 ⟨ho,⟨hg.os,hg.tape,hg.output,hg.size,fun k hk=>hg.block k om1 sp⟩,NltQ hB hg.size⟩
def zeT (B:Nat)(bs:List UInt8)(n:Int)(W0:World)(v i:Value)(wr:World):Prop:=∃k:Nat,k≤4∧i= .int .i64 (24 - 8*(k:Int))∧kL B v (bs++(be4 n).take k) W0 wr
theorem zL.cells {w:World}{ad:Addr}{bs:List UInt8}(h:zL w (some ad) bs):∀j u,bs[j]? =some u→w.cell? (ad.add j)=some (cell u):=h.2 ad rfl
theorem Z4 {w w1 w2:World}{v:Value}{bs:List UInt8}(h1:Below w.heap.size w w1)(h2:yQ w.heap.size v (0+bs.length) ([]++bs.map cell) w1 w2):kL w.heap.size v bs w w2:=by
 rw[Nat.zero_add,List.nil_append] at h2
 exact⟨h2.1,h1.trans h2.2.1,h2.2.2⟩
theorem zdC (w:World)(a:Option Addr)(cap:Nat)(bs:List UInt8)(h:zL w a bs)(hl:bs.length≤1000000000):
 Calls Tryz.prog 71 #[.slice a bs.length cap] w (zgI w.heap.size (zy bs) w):=by
 have HS:=hH (zgr w a cap bs h om1)
 obtain⟨i0,hi,hz,hs,hby⟩:=zc7 Tryz.zfj
 have HI:=hH (aN hi (aN hz (aN hs hby)))
 have HB:=hH h
 have HL:=hH hl
 have hlen:0≤(bs.length:Int)+4:=by omega
 clear h hi hz hs hby
 cases a with
 | none=>
   have HE:=hH (HB.out.1 rfl)
   go_enter Tryz.func71,Tryz.ntmps71
   go_wp2_with (first
    | (go_at_call 115;refine HS.out.mono ?_;clear HS;rintro e w1 ⟨rfl,h1⟩;obtain⟨w2,hm,ho,hg⟩:=run_make_own (P:=Tryz.prog) w1 w.heap.size 45 5 i0 (.int .u8 0) 1 Tryz.underlying45 HI.out.1 HI.out.2.1 HI.out.2.2.1 .i64 .i64 (bs.length+4) (by rw[HI.out.2.2.2];have:=HL.out;omega) (by unfold maxLen;have:=HL.out;omega) h1.size;have H1:=hH (aN h1 (zdr h1.size ho hg));clear h1 ho hg;rw[show ((bs.length+4:Nat):Int)=(bs.length:Int)+4 by push_cast;rfl] at hm)
    | (at_builtin;(with_reducible refine Jy rfl (.tmp 12) (.tmp 13) 45 rfl w.heap.size i0 Tryz.underlying45 HI.out.1 (.slice (some ⟨w1.heap.size,0,none⟩) 0 (bs.length+4)) 0 [] rfl w1 H1.out.2 cap bs HE.out rfl ?_);intro v' w3 ho;have HO:=hH (Z4 H1.out.1 ho);clear ho H1))
   exact sb1
 | some ad=>
   go_enter Tryz.func71,Tryz.ntmps71
   go_wp2_with (first
    | (go_at_call 115;refine HS.out.mono ?_;clear HS;rintro e w1 ⟨rfl,h1⟩;obtain⟨w2,hm,ho,hg⟩:=run_make_own (P:=Tryz.prog) w1 w.heap.size 45 5 i0 (.int .u8 0) 1 Tryz.underlying45 HI.out.1 HI.out.2.1 HI.out.2.2.1 .i64 .i64 (bs.length+4) (by rw[HI.out.2.2.2];have:=HL.out;omega) (by unfold maxLen;have:=HL.out;omega) h1.size;have H1:=hH (aN h1 (zdr h1.size ho hg));clear h1 ho hg;rw[show ((bs.length+4:Nat):Int)=(bs.length:Int)+4 by push_cast;rfl] at hm)
    | (at_builtin;(with_reducible refine Yw rfl (.tmp 12) (.tmp 13) 45 rfl w.heap.size i0 Tryz.underlying45 HI.out.1 HI.out.2.1 HI.out.2.2.1 HI.out.2.2.2 (.slice (some ⟨w1.heap.size,0,none⟩) 0 (bs.length+4)) 0 [] rfl w1 H1.out.2 ad cap bs rfl ((HB.out.below (H1.out.1.trans H1.out.2.below)).cells) (by have:=HL.out;omega) ?_);intro v' w3 ho;have HO:=hH (Z4 H1.out.1 ho);clear ho H1))
   exact sb1
end Go.Proofs.YtoidedomenkbpaaGreat
namespace Go.Proofs.YtoidedomenkbpaaGreat
open Go.RowKit Go.Shelf
open Extern.Stop (cell)
theorem vg (w:World)(a0 a1 a2 a3 a4 a5 a6 a7 a8 a9 a10 ai ak:Int)(sa ar:Option Addr)(an ac am ad:Nat)(aw:ByteArray)(h:∀Y,Below w.heap.size w Y→Calls Tryz.prog 22 #[.agg #[.int .i8 a0,.int .i64 a1,.int .i64 a2,.int .i64 a3,.int .i64 a4,.int .i64 a5,.int .i64 a6,.int .i64 a7,.int .i64 a8,.int .i64 a9,.int .i64 a10,.slice sa an ac,.int .i64 ai,.int .i64 ak,.string aw,.slice ar am ad]] Y (zX false Y)):
 Calls Tryz.prog 31 #[.agg #[.int .i8 a0,.int .i64 a1,.int .i64 a2,.int .i64 a3,.int .i64 a4,.int .i64 a5,.int .i64 a6,.int .i64 a7,.int .i64 a8,.int .i64 a9,.int .i64 a10,.slice sa an ac,.int .i64 ai,.int .i64 ak,.string aw,.slice ar am ad]] w (fun e Z=>e= .returned (.tuple #[.slice none 0 0,.int .i64 2])∧Below w.heap.size w Z):=by
 obtain⟨B,hB⟩:∃B,B=w.alloc (.cells #[.int .i8 a0,.int .i64 a1,.int .i64 a2,.int .i64 a3,.int .i64 a4,.int .i64 a5,.int .i64 a6,.int .i64 a7,.int .i64 a8,.int .i64 a9,.int .i64 a10,.slice sa an ac,.int .i64 ai,.int .i64 ak,.string aw,.slice ar am ad] 37):=⟨_,rfl⟩
 have hb:Below w.heap.size w B:=by rw[hB];exact (BrQ _ _).alloc (NlrQ _) _
 have hx:B.heap[w.heap.size]? =some (.cells #[.int .i8 a0,.int .i64 a1,.int .i64 a2,.int .i64 a3,.int .i64 a4,.int .i64 a5,.int .i64 a6,.int .i64 a7,.int .i64 a8,.int .i64 a9,.int .i64 a10,.slice sa an ac,.int .i64 ai,.int .i64 ak,.string aw,.slice ar am ad] 37 (0,0)):=by rw[hB];exact hanQ _ _
 have HR:=hH (h B hb)
 have HB:=hH (aN hb (aN hB hx))
 have c_0:B.cell? ⟨w.heap.size,0,none⟩=some (.int .i8 a0):=by rw[corQ _ _ 0 _ _ _ hx];rfl
 have c_1:B.cell? ⟨w.heap.size,1,none⟩=some (.int .i64 a1):=by rw[corQ _ _ 1 _ _ _ hx];rfl
 have c_2:B.cell? ⟨w.heap.size,2,none⟩=some (.int .i64 a2):=by rw[corQ _ _ 2 _ _ _ hx];rfl
 have c_3:B.cell? ⟨w.heap.size,3,none⟩=some (.int .i64 a3):=by rw[corQ _ _ 3 _ _ _ hx];rfl
 have c_4:B.cell? ⟨w.heap.size,4,none⟩=some (.int .i64 a4):=by rw[corQ _ _ 4 _ _ _ hx];rfl
 have c_5:B.cell? ⟨w.heap.size,5,none⟩=some (.int .i64 a5):=by rw[corQ _ _ 5 _ _ _ hx];rfl
 have c_6:B.cell? ⟨w.heap.size,6,none⟩=some (.int .i64 a6):=by rw[corQ _ _ 6 _ _ _ hx];rfl
 have c_7:B.cell? ⟨w.heap.size,7,none⟩=some (.int .i64 a7):=by rw[corQ _ _ 7 _ _ _ hx];rfl
 have c_8:B.cell? ⟨w.heap.size,8,none⟩=some (.int .i64 a8):=by rw[corQ _ _ 8 _ _ _ hx];rfl
 have c_9:B.cell? ⟨w.heap.size,9,none⟩=some (.int .i64 a9):=by rw[corQ _ _ 9 _ _ _ hx];rfl
 have c_10:B.cell? ⟨w.heap.size,10,none⟩=some (.int .i64 a10):=by rw[corQ _ _ 10 _ _ _ hx];rfl
 have c_11:B.cell? ⟨w.heap.size,11,none⟩=some (.slice sa an ac):=by rw[corQ _ _ 11 _ _ _ hx];rfl
 have c_12:B.cell? ⟨w.heap.size,12,none⟩=some (.int .i64 ai):=by rw[corQ _ _ 12 _ _ _ hx];rfl
 have c_13:B.cell? ⟨w.heap.size,13,none⟩=some (.int .i64 ak):=by rw[corQ _ _ 13 _ _ _ hx];rfl
 have c_14:B.cell? ⟨w.heap.size,14,none⟩=some (.string aw):=by rw[corQ _ _ 14 _ _ _ hx];rfl
 have c_15:B.cell? ⟨w.heap.size,15,none⟩=some (.slice ar am ad):=by rw[corQ _ _ 15 _ _ _ hx];rfl
 clear hb hB hx h
 go_enter Tryz.func31,Tryz.ntmps31
 go_upto_region 1 with fail
 change Code.wp _ _ _ _ (w.alloc (.cells #[.int .i8 a0,.int .i64 a1,.int .i64 a2,.int .i64 a3,.int .i64 a4,.int .i64 a5,.int .i64 a6,.int .i64 a7,.int .i64 a8,.int .i64 a9,.int .i64 a10,.slice sa an ac,.int .i64 ai,.int .i64 ak,.string aw,.slice ar am ad] 37))
 rw[←HB.out.2.1]
 go_wp2_with fail
 refine HR.out.mono ?_
 rintro e Y ⟨rfl,hy⟩
 have HY:=hH hy
 clear hy HR c_0 c_1 c_2 c_3 c_4 c_5 c_6 c_7 c_8 c_9 c_10 c_11 c_12 c_13 c_14 c_15
 go_wp2_with fail
 go_ret2
 exact⟨rfl,HB.out.1.trans (HY.out.mono HB.out.1.size)⟩
def zH (k:Nat):UInt8:=UInt8.ofNat k
theorem zep (k:Nat)(hk:k≤10):cell (zH k)= .int .u8 (k:Int):=by
 exact sc2
theorem zeR {a0:Int}{k:Nat}(hk:a0=(k:Int))(h2:k≤10):IntKind.u8.wrap a0=a0:=by
 subst hk
 exact sc2
theorem zk6 (Y:World)(b k:Nat)(hk:k≤10)(hb:b<Y.heap.size):ZV b (Y.heap.size+1) [zH k] ((Y.alloc (.cells #[.int .u8 (k:Int)] 5)).alloc (.cells #[.slice (some ⟨Y.heap.size,0,none⟩) 1 1] 103)):=by
 have e1:((Y.alloc (.cells #[.int .u8 (k:Int)] 5)).alloc (.cells #[.slice (some ⟨Y.heap.size,0,none⟩) 1 1] 103)).heap[Y.heap.size+1]? =some (.cells #[.slice (some ⟨Y.heap.size,0,none⟩) 1 1] 103 (0,0)):=by
  have h:=hanQ (Y.alloc (.cells #[.int .u8 (k:Int)] 5)) (.cells #[.slice (some ⟨Y.heap.size,0,none⟩) 1 1] 103)
  rw[WsaQ] at h;exact h
 have e0:((Y.alloc (.cells #[.int .u8 (k:Int)] 5)).alloc (.cells #[.slice (some ⟨Y.heap.size,0,none⟩) 1 1] 103)).heap[Y.heap.size]? =some (.cells #[.int .u8 (k:Int)] 5 (0,0)):=by
  rw[BhaQ _ _ _ ud4];exact hanQ _ _
 refine⟨_,1,e1,⟨fun h=>(by cases h),fun ad e j u hj=>?_⟩,fun ad e=>(by cases e;exact⟨(by show Y.heap.size≠b;omega),(by show Y.heap.size≠Y.heap.size+1;omega),(by show Y.heap.size<_;rw[WsaQ,WsaQ];omega)⟩),by simp,by omega,by rw[WsaQ,WsaQ];omega⟩
 cases e
 match j,hj with
 | 0,hj=>
   cases hj
   rw[zep k hk]
   show World.cell? _ ⟨Y.heap.size,0,none⟩=_
   rw[corQ _ _ 0 _ _ _ e0];rfl
 | j+1,hj=>simp at hj
def qf (bs:List UInt8)(w:World)(e:Ending)(Z:World):Prop:=∃v B,e= .returned (.tuple #[v,.int .i64 0])∧w.heap.size≤B∧Z.ownsRow B 5 1 v bs.length (bs.map cell)∧Below w.heap.size w Z
theorem qP (w:World)(a0 a1 a2 a3 a4 a5 a6 a7 a8 a9 a10 ai ak:Int)(sa ar:Option Addr)(an ac am ad:Nat)(aw:ByteArray)(k:Nat)(hk:a0=(k:Int))(hk2:k≤10)(bs:List UInt8)(hl:bs.length≤1000000000)(h:∀Y,Below w.heap.size w Y→Calls Tryz.prog 22 #[.agg #[.int .i8 a0,.int .i64 a1,.int .i64 a2,.int .i64 a3,.int .i64 a4,.int .i64 a5,.int .i64 a6,.int .i64 a7,.int .i64 a8,.int .i64 a9,.int .i64 a10,.slice sa an ac,.int .i64 ai,.int .i64 ak,.string aw,.slice ar am ad]] Y (zX true Y))
 (ho:∀(wb:Nat) (Y:World),Below w.heap.size w Y→Y.heap[w.heap.size]? =some (.cells #[.int .i8 a0,.int .i64 a1,.int .i64 a2,.int .i64 a3,.int .i64 a4,.int .i64 a5,.int .i64 a6,.int .i64 a7,.int .i64 a8,.int .i64 a9,.int .i64 a10,.slice sa an ac,.int .i64 ai,.int .i64 ak,.string aw,.slice ar am ad] 37 (0,0))→ZV w.heap.size wb [zH k] Y→w.heap.size<wb→Calls Tryz.prog 56 #[.pointer (some ⟨w.heap.size,0,none⟩),.iface 101 (.pointer (some ⟨wb,0,none⟩))] Y (fun e Z=>e= .returned (.tuple #[])∧ZV w.heap.size wb bs Z∧za Y Z (fun q=>q=wb∨q=w.heap.size))):
 Calls Tryz.prog 31 #[.agg #[.int .i8 a0,.int .i64 a1,.int .i64 a2,.int .i64 a3,.int .i64 a4,.int .i64 a5,.int .i64 a6,.int .i64 a7,.int .i64 a8,.int .i64 a9,.int .i64 a10,.slice sa an ac,.int .i64 ai,.int .i64 ak,.string aw,.slice ar am ad]] w (qf (zy bs) w):=by
 have HO:=hH ho
 have HL:=hH hl
 have hw8:=zeR hk hk2
 have HK:=hH (aN hk hk2)
 obtain⟨B,hB⟩:∃B,B=w.alloc (.cells #[.int .i8 a0,.int .i64 a1,.int .i64 a2,.int .i64 a3,.int .i64 a4,.int .i64 a5,.int .i64 a6,.int .i64 a7,.int .i64 a8,.int .i64 a9,.int .i64 a10,.slice sa an ac,.int .i64 ai,.int .i64 ak,.string aw,.slice ar am ad] 37):=⟨_,rfl⟩
 have hb:Below w.heap.size w B:=by rw[hB];exact (BrQ _ _).alloc (NlrQ _) _
 have hx:B.heap[w.heap.size]? =some (.cells #[.int .i8 a0,.int .i64 a1,.int .i64 a2,.int .i64 a3,.int .i64 a4,.int .i64 a5,.int .i64 a6,.int .i64 a7,.int .i64 a8,.int .i64 a9,.int .i64 a10,.slice sa an ac,.int .i64 ai,.int .i64 ak,.string aw,.slice ar am ad] 37 (0,0)):=by rw[hB];exact hanQ _ _
 have HR:=hH (h B hb)
 have HB:=hH (aN hb (aN hB hx))
 have c_0:B.cell? ⟨w.heap.size,0,none⟩=some (.int .i8 a0):=by rw[corQ _ _ 0 _ _ _ hx];rfl
 have c_1:B.cell? ⟨w.heap.size,1,none⟩=some (.int .i64 a1):=by rw[corQ _ _ 1 _ _ _ hx];rfl
 have c_2:B.cell? ⟨w.heap.size,2,none⟩=some (.int .i64 a2):=by rw[corQ _ _ 2 _ _ _ hx];rfl
 have c_3:B.cell? ⟨w.heap.size,3,none⟩=some (.int .i64 a3):=by rw[corQ _ _ 3 _ _ _ hx];rfl
 have c_4:B.cell? ⟨w.heap.size,4,none⟩=some (.int .i64 a4):=by rw[corQ _ _ 4 _ _ _ hx];rfl
 have c_5:B.cell? ⟨w.heap.size,5,none⟩=some (.int .i64 a5):=by rw[corQ _ _ 5 _ _ _ hx];rfl
 have c_6:B.cell? ⟨w.heap.size,6,none⟩=some (.int .i64 a6):=by rw[corQ _ _ 6 _ _ _ hx];rfl
 have c_7:B.cell? ⟨w.heap.size,7,none⟩=some (.int .i64 a7):=by rw[corQ _ _ 7 _ _ _ hx];rfl
 have c_8:B.cell? ⟨w.heap.size,8,none⟩=some (.int .i64 a8):=by rw[corQ _ _ 8 _ _ _ hx];rfl
 have c_9:B.cell? ⟨w.heap.size,9,none⟩=some (.int .i64 a9):=by rw[corQ _ _ 9 _ _ _ hx];rfl
 have c_10:B.cell? ⟨w.heap.size,10,none⟩=some (.int .i64 a10):=by rw[corQ _ _ 10 _ _ _ hx];rfl
 have c_11:B.cell? ⟨w.heap.size,11,none⟩=some (.slice sa an ac):=by rw[corQ _ _ 11 _ _ _ hx];rfl
 have c_12:B.cell? ⟨w.heap.size,12,none⟩=some (.int .i64 ai):=by rw[corQ _ _ 12 _ _ _ hx];rfl
 have c_13:B.cell? ⟨w.heap.size,13,none⟩=some (.int .i64 ak):=by rw[corQ _ _ 13 _ _ _ hx];rfl
 have c_14:B.cell? ⟨w.heap.size,14,none⟩=some (.string aw):=by rw[corQ _ _ 14 _ _ _ hx];rfl
 have c_15:B.cell? ⟨w.heap.size,15,none⟩=some (.slice ar am ad):=by rw[corQ _ _ 15 _ _ _ hx];rfl
 clear hb hB hx h ho hl hk hk2
 go_enter Tryz.func31,Tryz.ntmps31
 go_upto_region 1 with fail
 change Code.wp _ _ _ _ (w.alloc (.cells #[.int .i8 a0,.int .i64 a1,.int .i64 a2,.int .i64 a3,.int .i64 a4,.int .i64 a5,.int .i64 a6,.int .i64 a7,.int .i64 a8,.int .i64 a9,.int .i64 a10,.slice sa an ac,.int .i64 ai,.int .i64 ak,.string aw,.slice ar am ad] 37))
 rw[←HB.out.2.1]
 go_wp2_with fail
 refine HR.out.mono ?_
 rintro e Y ⟨rfl,hy⟩
 have HY:=hH hy
 clear hy HR c_0 c_1 c_2 c_3 c_4 c_5 c_6 c_7 c_8 c_9 c_10 c_11 c_12 c_13 c_14 c_15
 have hyx:=(HY.out.block _ (lohQ HB.out.2.2)).trans HB.out.2.2
 have k0:Y.cell? ⟨w.heap.size,0,none⟩=some (.int .i8 a0):=by rw[corQ _ _ 0 _ _ _ hyx];rfl
 have HYX:=hH hyx
 clear hyx
 go_upto_region 4 with fail
 change Code.wp _ _ _ _ ((Y.alloc (.cells #[.int .u8 a0] 5)).alloc (.cells #[.slice (some ⟨Y.heap.size,0,none⟩) 1 1] 103))
 clear k0 hw8
 obtain⟨X,hX⟩:∃X,X=(Y.alloc (.cells #[.int .u8 a0] 5)).alloc (.cells #[.slice (some ⟨Y.heap.size,0,none⟩) 1 1] 103):=⟨_,rfl⟩
 have hyX:Below Y.heap.size Y X:=by rw[hX];exact ((BrQ _ _).alloc (NlrQ _) _).alloc ud4 _
 have hwr:ZV w.heap.size (Y.heap.size+1) [zH k] X:=by
  rw[hX,HK.out.1]
  exact zk6 Y w.heap.size k HK.out.2 (lohQ HYX.out)
 rw[←hX]
 have hwX:=HB.out.1.trans ((HY.out.trans (hyX.mono HY.out.size)).mono HB.out.1.size)
 have HXX:=hH (aN hwX (aN ((hyX.block _ (lohQ HYX.out)).trans HYX.out) (aN hwr (show w.heap.size<Y.heap.size+1 by have:=lohQ HYX.out;omega))))
 clear hX hyX hwr hwX
 obtain⟨wb,hwb⟩:∃wb,wb=Y.heap.size+1:=⟨_,rfl⟩
 rw[←hwb] at HXX
 try rw[WsaQ]
 rw[←hwb]
 clear hwb
 go_wp2_with fail
 refine (HO.out wb X HXX.out.1 HXX.out.2.1 HXX.out.2.2.1 HXX.out.2.2.2).mono ?_
 rintro e Z ⟨rfl,hz,ht⟩
 obtain⟨a,cap,hz1,hz2,hz3,hz4,hz5,hz6⟩:=hz
 have k0:Z.cell? ⟨wb,0,none⟩=some (.slice a bs.length cap):=by rw[corQ _ _ 0 _ _ _ hz1];rfl
 have HS:=hH (zdC Z a cap bs ⟨hz2.1,hz2.2⟩ HL.out)
 have HZ:=hH (show Below w.heap.size w Z from⟨ht.os.trans HXX.out.1.os,ht.tape.trans HXX.out.1.tape,ht.output.trans HXX.out.1.output,NltQ HXX.out.1.size ht.size,fun q hq=>(ht.block q (nL hq HXX.out.1.size) (by have:=HXX.out.2.2.2;omega)).trans (HXX.out.1.block q hq)⟩)
 clear hz1 hz2 hz3 hz4 hz5 hz6 ht
 go_wp2_with fail
 refine HS.out.mono ?_
 rintro e V ⟨v,rfl,hv1,hv2,hv3⟩
 have HV:=hH (aN hv1 (HZ.out.trans (hv2.mono HZ.out.size)))
 clear hv1 hv2 hv3 k0
 go_wp2_with fail
 go_ret2
 exact⟨_,_,rfl,HZ.out.size,HV.out.1,HV.out.2⟩
end Go.Proofs.YtoidedomenkbpaaGreat
namespace Go.Proofs.YtoidedomenkbpaaGreat
open Go.RowKit
open Extern.Stop (cell)
theorem yQ.empty (w:World):yQ w.heap.size (.slice none 0 0) 0 [] w w:=kL.none w
section
variable {P:Program}
theorem Jw {ops:Array Oper}{rest:List Oper}{o:Oper}{a:Act}{Q:Exit→Act→World→Prop}(hgd:o.guard=none)(s x:Operand)(t:TypeId)
 (ho:o.op= .call { callee:= .builtin .append,args:= #[s,x],argTypes:= #[t,t] })
 (B:Nat) (i:TypeInfo) (ht:P.underlying t=some (.slice 5)) (hi:P.info? 5=some i) (hz:i.zero=some (.int .u8 0)) (hsize:i.size=1) (hby:i.bytes=1)
 (v:Value) (bs:List UInt8) (hs:a.eval s=v) (W0 w0:World) (c0 c1 c2 c3:Int) (hb:kL B v bs W0 w0)
 (g0:Nat) (hg0:g0=w0.heap.size) (hx:a.eval x= .slice (some ⟨g0,0,none⟩) 4 4) (hlen:bs.length+4≤140737488355328)
 (h:∀v' w',yQ B v' (bs.length+4) (bs.map cell++[.int .u8 c0,.int .u8 c1,.int .u8 c2,.int .u8 c3]) W0 w'→wpList P ops Q rest (a.put o.dst v') w'):wpList P ops Q (o::rest) a (w0.alloc (.cells #[.int .u8 c0,.int .u8 c1,.int .u8 c2,.int .u8 c3] 5)):=by
 subst hg0
 have hb':=yQ.alloc hb (.cells #[.int .u8 c0,.int .u8 c1,.int .u8 c2,.int .u8 c3] 5)
 exact wpList_append_own _ hgd s x t ho B 5 i (.int .u8 0) 1 1 ht hi hz hsize hby rfl ue0 v bs.length (bs.map cell) hs hb'.1 ⟨w0.heap.size,0,none⟩ 4 4 [.int .u8 c0,.int .u8 c1,.int .u8 c2,.int .u8 c3] hx rfl
  (World.news_of_block (cs:= #[.int .u8 c0,.int .u8 c1,.int .u8 c2,.int .u8 c3]) (hanQ w0 _)) uc9 ud1 om1 hb'.2.2 fun v' w' ho' hg _=>h v' w' (hb'.grown ho' hg)
end
theorem zfH (n:Nat):(be4 (n:Int)).map cell= [.int .u8 ((n:Int) / 16777216 % 256),.int .u8 ((n:Int) / 65536 % 256),.int .u8 ((n:Int) / 256 % 256),.int .u8 ((n:Int) % 256)]:=by
 simp[be4,Yn]
theorem zc6 {w w4:World}{v:Value}{bs:List UInt8}{n:Nat}(hn:n=Ym 0 bs)(h:yQ w.heap.size v (bs.length+4) (bs.map cell++[.int .u8 ((n:Int) / 16777216 % 256),.int .u8 ((n:Int) / 65536 % 256),.int .u8 ((n:Int) / 256 % 256),.int .u8 ((n:Int) % 256)]) w w4):kL w.heap.size v (zy bs) w w4:=by
 show yQ _ _ (zy bs).length ((zy bs).map cell) _ _
 rw[zS]
 unfold zy
 rw[List.map_append,←hn,zfH]
 exact h
theorem zjd (w:World)(a:Option Addr)(cap:Nat)(bs:List UInt8)(h:zL w a bs)(hl:bs.length≤1000000000):
 Calls Tryz.prog 75 #[.slice a bs.length cap] w (zgI w.heap.size (zy bs) w):=by
 have HS:=hH (zeD w a cap bs h om1)
 obtain⟨i0,hi,hz,hs,hby⟩:=zc7 Tryz.zfj
 have HI:=hH (aN hi (aN hz (aN hs hby)))
 have HB:=hH h
 have HL:=hH hl
 obtain⟨n,hn⟩:∃n:Nat,n=Ym 0 bs:=⟨_,rfl⟩
 have HN:=hH hn
 clear h hi hz hs hby hn
 cases a with
 | none=>
   have HE:=hH (HB.out.1 rfl)
   go_enter Tryz.func75,Tryz.ntmps75
   go_wp2_with (first
    | (go_at_call 118;refine HS.out.mono ?_;clear HS;rintro e w1 ⟨rfl,rfl⟩;rw[←HN.out])
    | (at_builtin;(with_reducible refine Jy rfl (.tmp 7) (.tmp 8) 45 rfl w.heap.size i0 Tryz.underlying45 HI.out.1 (.slice none 0 0) 0 [] rfl w (yQ.empty w) cap bs HE.out rfl ?_);intro v' w3 ho;have HO:=hH (Z4 (BrQ _ _) ho);clear ho)
    | (at_builtin;(with_reducible refine Jw rfl (.tmp 10) (.tmp 22) 45 rfl w.heap.size i0 Tryz.underlying45 HI.out.1 HI.out.2.1 HI.out.2.2.1 HI.out.2.2.2 v' bs rfl w w3 ((n:Int) / 16777216 % 256) ((n:Int) / 65536 % 256) ((n:Int) / 256 % 256) ((n:Int) % 256) HO.out _ rfl rfl (by have:=HL.out;omega) ?_);intro v2 w4 ho;have HO2:=hH ho;clear ho))
   go_ret
   exact⟨_,rfl,zc6 HN.out HO2.out⟩
 | some ad=>
   go_enter Tryz.func75,Tryz.ntmps75
   go_wp2_with (first
    | (go_at_call 118;refine HS.out.mono ?_;clear HS;rintro e w1 ⟨rfl,rfl⟩;rw[←HN.out])
    | (at_builtin;(with_reducible refine Yw rfl (.tmp 7) (.tmp 8) 45 rfl w.heap.size i0 Tryz.underlying45 HI.out.1 HI.out.2.1 HI.out.2.2.1 HI.out.2.2.2 (.slice none 0 0) 0 [] rfl w (yQ.empty w) ad cap bs rfl HB.out.cells (by have:=HL.out;omega) ?_);intro v' w3 ho;have HO:=hH (Z4 (BrQ _ _) ho);clear ho)
    | (at_builtin;(with_reducible refine Jw rfl (.tmp 10) (.tmp 22) 45 rfl w.heap.size i0 Tryz.underlying45 HI.out.1 HI.out.2.1 HI.out.2.2.1 HI.out.2.2.2 v' bs rfl w w3 ((n:Int) / 16777216 % 256) ((n:Int) / 65536 % 256) ((n:Int) / 256 % 256) ((n:Int) % 256) HO.out _ rfl rfl (by have:=HL.out;omega) ?_);intro v2 w4 ho;have HO2:=hH ho;clear ho))
   go_ret
   exact⟨_,rfl,zc6 HN.out HO2.out⟩
theorem zcV (w:World)(a b:Option Addr)(na nb ca cb:Nat)(bs cs:List UInt8)(hna:na=bs.length)(hnb:nb=cs.length)(h:zL w a bs)(k:zL w b cs):
 Calls Tryz.prog 119 #[.slice a na ca,.slice b nb cb] w fun e w'=>e= .returned (.bool (bs == cs))∧w=w':=by
 subst hna hnb
 have e1:=h.text ca
 have e2:=k.text cb
 clear h k
 go_enter Tryz.func119,Tryz.ntmps119
 go_wp2_with fail
 go_ret
 exact⟨rfl,rfl⟩
theorem kL.some {B:Nat}{v:Value}{bs:List UInt8}{W0 w:World}(h:kL B v bs W0 w)(h0:0<bs.length):∃a cap,v= .slice (some a) bs.length cap∧zL w (some a) bs∧bs.length≤cap∧(cap:Int)≤9223372036854775807:=by
 obtain⟨a,cap,e,h1,h2,h3⟩:=h.zlx
 cases a with
 | none=>have:=h1.1 rfl;rw[this] at h0;simp at h0
 | some a=>exact⟨a,cap,e,h1,h2,h3⟩
def okN (bs:List UInt8):Bool:=zy (bs.take (bs.length - 4)) == bs
def zI (bs:List UInt8):List UInt8:=if okN bs then bs.take (bs.length - 4) else []
theorem zf5 {bs:List UInt8}(h:bs.length<4):okN bs=false:=by
 unfold okN
 rw[beq_eq_false_iff_ne]
 intro e
 have:=congrArg List.length e
 rw[zS] at this
 simp at this
 omega
def zkM (w:World)(bs:List UInt8)(e:Ending)(w' :World):Prop:=∃a c,e= .returned (.tuple #[.slice a (zI bs).length c,.bool (okN bs)])∧zL w' a (zI bs)∧Below w.heap.size w w'
theorem Qw (w:World)(a:Option Addr)(cap:Nat)(bs:List UInt8)(h:zL w a bs)(hl:bs.length≤1000000000)(hc:bs.length≤cap)(hc2:(cap:Int)≤9223372036854775807):
 Calls Tryz.prog 76 #[.slice a bs.length cap] w (zkM w bs):=by
 by_cases h4:bs.length<4
 · have ho:=zf5 h4
   have HO:=hH ho
   have h4' :((bs.length:Int) - 4)<0:=by omega
   clear ho h
   go_enter Tryz.func76,Tryz.ntmps76
   go_wp2_with fail
   go_ret2
   have e:zI bs= []:=by unfold zI;rw[HO.out];rfl
   exact⟨none,0,by rw[e,HO.out];rfl,by rw[e];exact zL.nil _ _,BrQ _ _⟩
 · obtain⟨m,hm⟩:∃m,bs.length=m+4:=⟨bs.length - 4,by omega⟩
   have htl:(bs.take m).length=m:=by simp;omega
   cases a with
   | none=>have:=h.1 rfl;subst this;simp at h4
   | some ad=>
     have HS:=hH (zdC w (some ad) cap (bs.take m) (h.take m) om1)
     rw[htl] at HS
     have HB:=hH h
     have HM:=hH (aN hm htl)
     rw[hm]
     rw[hm] at hc
     clear h hm htl h4
     go_enter Tryz.func76,Tryz.ntmps76
     go_wp2_with (first
      | (go_at_call 71;refine HS.out.mono ?_;clear HS;rintro e w1 ⟨v1,rfl,h1⟩;obtain⟨a1,c1,rfl,hb1,hle1,hc1⟩:=h1.some (by rw[zS];omega);have hsl:(zy (bs.take m)).length=m+4:=by { rw[zS,HM.out.2] };rw[hsl] at hle1;rw[hsl];have HE:=hH (zcV w1 (some a1) (some ad) (m+4) (m+4) c1 cap (zy (bs.take m)) bs hsl.symm HM.out.1.symm hb1 (HB.out.below h1.below));have H1:=hH (aN h1.below hb1);obtain⟨ok,hok⟩:∃ok,ok=(zy (bs.take m) == bs):=⟨_,rfl⟩;rw[←hok] at HE;have HK:=hH hok;clear h1 hb1 hok hsl)
      | (go_at_call 119;refine HE.out.mono ?_;clear HE;rintro e w2 ⟨rfl,rfl⟩;cases ok))
     · go_ret2
       have e:okN bs=false:=by unfold okN;rw[show bs.length - 4=m by have:=HM.out.1;omega,←HK.out]
       have e2:zI bs= []:=by unfold zI;rw[e];rfl
       exact⟨none,0,by rw[e2,e];rfl,by rw[e2];exact zL.nil _ _,H1.out.1⟩
     · go_ret2
       have hm4:bs.length - 4=m:=by have:=HM.out.1;omega
       have e:okN bs=true:=by unfold okN;rw[hm4,←HK.out]
       have e2:zI bs=bs.take m:=by unfold zI;rw[e,hm4];rfl
       have e3:zy (bs.take m)=bs:=by have:=HK.out;exact eq_of_beq this.symm
       refine⟨some a1,m,by rw[e2,e,HM.out.2];rfl,?_,H1.out.1⟩
       rw[e2]
       have h5:=H1.out.2
       rw[e3] at h5
       exact h5.take m
end Go.Proofs.YtoidedomenkbpaaGreat
