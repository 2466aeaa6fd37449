/-
  .
-/
import Derived.Test.YtoidedomenkbpaaGreatWBytesAQr
set_option maxRecDepth 100000
set_option maxHeartbeats 40000000
set_option linter.unusedVariables false
set_option linter.unusedSimpArgs false
namespace Go.Proofs.YtoidedomenkbpaaGreat
open Go.RowKit
open Extern.Stop (cell)
theorem yC.empty (w:World):yC w.heap.size (.slice none 0 0) 0 [] w w:=vS.none w
section
variable {P:Program}
theorem YW {ops:Array Oper}{rest:List Oper}{o:Oper}{a:Act}{Q:Exit→Act→World→Prop}(hgd:o.guard=none)(s x:Operand)(t:TypeId)
 (ho:o.op= .call { callee:= .builtin .append,args:= #[s,x],argTypes:= #[t,t] })
 (B:Nat) (i:TypeInfo) (ht:P.underlying t=some (.slice 5)) (hi:P.info? 5=some i) (hz:i.zero=some (.int .u8 0)) (hsize:i.size=1) (hby:i.bytes=1)
 (v:Value) (bs:List UInt8) (hs:a.eval s=v) (W0 w0:World) (c0 c1 c2 c3:Int) (hb:vS B v bs W0 w0)
 (g0:Nat) (hg0:g0=w0.heap.size) (hx:a.eval x= .slice (some ⟨g0,0,none⟩) 4 4) (hlen:bs.length+4≤140737488355328)
 (h:∀v' w',yC B v' (bs.length+4) (bs.map cell++[.int .u8 c0,.int .u8 c1,.int .u8 c2,.int .u8 c3]) W0 w'→wpList P ops Q rest (a.put o.dst v') w'):wpList P ops Q (o::rest) a (w0.alloc (.cells #[.int .u8 c0,.int .u8 c1,.int .u8 c2,.int .u8 c3] 5)):=by
 subst hg0
 have hb':=yC.alloc hb (.cells #[.int .u8 c0,.int .u8 c1,.int .u8 c2,.int .u8 c3] 5)
 exact wpList_append_own _ hgd s x t ho B 5 i (.int .u8 0) 1 1 ht hi hz hsize hby rfl ue3 v bs.length (bs.map cell) hs hb'.1 ⟨w0.heap.size,0,none⟩ 4 4 [.int .u8 c0,.int .u8 c1,.int .u8 c2,.int .u8 c3] hx rfl
  (World.news_of_block (cs:= #[.int .u8 c0,.int .u8 c1,.int .u8 c2,.int .u8 c3]) (hanQ w0 _)) ud1 ud2 om hb'.2.2 fun v' w' ho' hg _=>h v' w' (hb'.grown ho' hg)
end
theorem zdB (n:Nat):(be4 (n:Int)).map cell= [.int .u8 ((n:Int) / 16777216 % 256),.int .u8 ((n:Int) / 65536 % 256),.int .u8 ((n:Int) / 256 % 256),.int .u8 ((n:Int) % 256)]:=by
 simp[be4,kW]
theorem za8 {w w4:World}{v:Value}{bs:List UInt8}{n:Nat}(hn:n=kV 0 bs)(h:yC w.heap.size v (bs.length+4) (bs.map cell++[.int .u8 ((n:Int) / 16777216 % 256),.int .u8 ((n:Int) / 65536 % 256),.int .u8 ((n:Int) / 256 % 256),.int .u8 ((n:Int) % 256)]) w w4):vS w.heap.size v (zS bs) w w4:=by
 show yC _ _ (zS bs).length ((zS bs).map cell) _ _
 rw[zQ]
 unfold zS
 rw[List.map_append,←hn,zdB]
 exact h
theorem yR (w:World)(a:Option Addr)(cap:Nat)(bs:List UInt8)(h:zW w a bs)(hl:bs.length≤1000000000):
 Calls Tryz.prog 75 #[.slice a bs.length cap] w (zeF w.heap.size (zS bs) w):=by
 have HS:=hH (zcD w a cap bs h om)
 obtain⟨i0,hi,hz,hs,hby⟩:=za9 Tryz.zc8
 have HI:=hH (aN hi (aN hz (aN hs hby)))
 have HB:=hH h
 have HL:=hH hl
 obtain⟨n,hn⟩:∃n:Nat,n=kV 0 bs:=⟨_,rfl⟩
 have HN:=hH hn
 clear h hi hz hs hby hn
 cases a with
 | none=>
   have HE:=hH (HB.out.1 rfl)
   go_enter Tryz.func75,Tryz.ntmps75
   go_wp2_with (first
    | (go_at_call 118;refine HS.out.mono ?_;clear HS;rintro e w1 ⟨rfl,rfl⟩;rw[←HN.out])
    | (at_builtin;(with_reducible refine YX rfl (.tmp 7) (.tmp 8) 45 rfl w.heap.size i0 Tryz.underlying45 HI.out.1 (.slice none 0 0) 0 [] rfl w (yC.empty w) cap bs HE.out rfl ?_);intro v' w3 ho;have HO:=hH (kG (BrQ _ _) ho);clear ho)
    | (at_builtin;(with_reducible refine YW rfl (.tmp 10) (.tmp 22) 45 rfl w.heap.size i0 Tryz.underlying45 HI.out.1 HI.out.2.1 HI.out.2.2.1 HI.out.2.2.2 v' bs rfl w w3 ((n:Int) / 16777216 % 256) ((n:Int) / 65536 % 256) ((n:Int) / 256 % 256) ((n:Int) % 256) HO.out _ rfl rfl ud3 ?_);intro v2 w4 ho;have HO2:=hH ho;clear ho))
   go_ret
   exact⟨_,rfl,za8 HN.out HO2.out⟩
 | some ad=>
   go_enter Tryz.func75,Tryz.ntmps75
   go_wp2_with (first
    | (go_at_call 118;refine HS.out.mono ?_;clear HS;rintro e w1 ⟨rfl,rfl⟩;rw[←HN.out])
    | (at_builtin;(with_reducible refine Zh rfl (.tmp 7) (.tmp 8) 45 rfl w.heap.size i0 Tryz.underlying45 HI.out.1 HI.out.2.1 HI.out.2.2.1 HI.out.2.2.2 (.slice none 0 0) 0 [] rfl w (yC.empty w) ad cap bs rfl HB.out.cells ud3 ?_);intro v' w3 ho;have HO:=hH (kG (BrQ _ _) ho);clear ho)
    | (at_builtin;(with_reducible refine YW rfl (.tmp 10) (.tmp 22) 45 rfl w.heap.size i0 Tryz.underlying45 HI.out.1 HI.out.2.1 HI.out.2.2.1 HI.out.2.2.2 v' bs rfl w w3 ((n:Int) / 16777216 % 256) ((n:Int) / 65536 % 256) ((n:Int) / 256 % 256) ((n:Int) % 256) HO.out _ rfl rfl ud3 ?_);intro v2 w4 ho;have HO2:=hH ho;clear ho))
   go_ret
   exact⟨_,rfl,za8 HN.out HO2.out⟩
theorem zaZ (w:World)(a b:Option Addr)(na nb ca cb:Nat)(bs cs:List UInt8)(hna:na=bs.length)(hnb:nb=cs.length)(h:zW w a bs)(k:zW w b cs):
 Calls Tryz.prog 119 #[.slice a na ca,.slice b nb cb] w fun e w'=>e= .returned (.bool (bs == cs))∧w=w':=by
 subst hna hnb
 have e1:=h.text ca
 have e2:=k.text cb
 clear h k
 go_enter Tryz.func119,Tryz.ntmps119
 go_wp2_with fail
 go_ret
 exact⟨rfl,rfl⟩
theorem vS.some {B:Nat}{v:Value}{bs:List UInt8}{W0 w:World}(h:vS B v bs W0 w)(h0:0<bs.length):∃a cap,v= .slice (some a) bs.length cap∧zW w (some a) bs∧bs.length≤cap∧(cap:Int)≤9223372036854775807:=by
 obtain⟨a,cap,e,h1,h2,h3⟩:=h.zfX
 cases a with
 | none=>have:=h1.1 rfl;rw[this] at h0;simp at h0
 | some a=>exact⟨a,cap,e,h1,h2,h3⟩
def okN (bs:List UInt8):Bool:=zS (bs.take (bs.length - 4)) == bs
def kY (bs:List UInt8):List UInt8:=if okN bs then bs.take (bs.length - 4) else []
theorem zd0 {bs:List UInt8}(h:bs.length<4):okN bs=false:=by
 unfold okN
 rw[beq_eq_false_iff_ne]
 intro e
 have:=congrArg List.length e
 rw[zQ] at this
 simp at this
 omega
def zhG (w:World)(bs:List UInt8)(e:Ending)(w' :World):Prop:=∃a c,e= .returned (.tuple #[.slice a (kY bs).length c,.bool (okN bs)])∧zW w' a (kY bs)∧Below w.heap.size w w'
theorem zff (w:World)(a:Option Addr)(cap:Nat)(bs:List UInt8)(h:zW w a bs)(hl:bs.length≤1000000000)(hc:bs.length≤cap)(hc2:(cap:Int)≤9223372036854775807):
 Calls Tryz.prog 76 #[.slice a bs.length cap] w (zhG w bs):=by
 by_cases h4:bs.length<4
 · have ho:=zd0 h4
   have HO:=hH ho
   have h4' :((bs.length:Int) - 4)<0:=by omega
   clear ho h
   go_enter Tryz.func76,Tryz.ntmps76
   go_wp2_with fail
   go_ret2
   have e:kY bs= []:=by unfold kY;rw[HO.out];rfl
   exact⟨none,0,by rw[e,HO.out];rfl,by rw[e];exact zW.nil _ _,BrQ _ _⟩
 · obtain⟨m,hm⟩:∃m,bs.length=m+4:=⟨bs.length - 4,by omega⟩
   have htl:(bs.take m).length=m:=by simp;omega
   cases a with
   | none=>have:=h.1 rfl;subst this;simp at h4
   | some ad=>
     have HS:=hH (zbI w (some ad) cap (bs.take m) (h.take m) om)
     rw[htl] at HS
     have HB:=hH h
     have HM:=hH (aN hm htl)
     rw[hm]
     rw[hm] at hc
     clear h hm htl h4
     go_enter Tryz.func76,Tryz.ntmps76
     go_wp2_with (first
      | (go_at_call 71;refine HS.out.mono ?_;clear HS;rintro e w1 ⟨v1,rfl,h1⟩;obtain⟨a1,c1,rfl,hb1,hle1,hc1⟩:=h1.some (by rw[zQ];omega);have hsl:(zS (bs.take m)).length=m+4:=by { rw[zQ,HM.out.2] };rw[hsl] at hle1;rw[hsl];have HE:=hH (zaZ w1 (some a1) (some ad) (m+4) (m+4) c1 cap (zS (bs.take m)) bs hsl.symm HM.out.1.symm hb1 (HB.out.below h1.below));have H1:=hH (aN h1.below hb1);obtain⟨ok,hok⟩:∃ok,ok=(zS (bs.take m) == bs):=⟨_,rfl⟩;rw[←hok] at HE;have HK:=hH hok;clear h1 hb1 hok hsl)
      | (go_at_call 119;refine HE.out.mono ?_;clear HE;rintro e w2 ⟨rfl,rfl⟩;cases ok))
     · go_ret2
       have e:okN bs=false:=by unfold okN;rw[show bs.length - 4=m by have:=HM.out.1;omega,←HK.out]
       have e2:kY bs= []:=by unfold kY;rw[e];rfl
       exact⟨none,0,by rw[e2,e];rfl,by rw[e2];exact zW.nil _ _,H1.out.1⟩
     · go_ret2
       have hm4:bs.length - 4=m:=by have:=HM.out.1;omega
       have e:okN bs=true:=by unfold okN;rw[hm4,←HK.out]
       have e2:kY bs=bs.take m:=by unfold kY;rw[e,hm4];rfl
       have e3:zS (bs.take m)=bs:=by have:=HK.out;exact eq_of_beq this.symm
       refine⟨some a1,m,by rw[e2,e,HM.out.2];rfl,?_,H1.out.1⟩
       rw[e2]
       have h5:=H1.out.2
       rw[e3] at h5
       exact h5.take m
end Go.Proofs.YtoidedomenkbpaaGreat
namespace Go.Proofs.YtoidedomenkbpaaGreat
open Go.RowKit Go.Shelf
open Extern.Stop (cell)
def jv (bs:List UInt8)(w:World)(e:Ending)(Z:World):Prop:=∃a n cap,e= .returned (.tuple #[.slice a n cap,.int .i64 0])∧n=bs.length∧yt Z a bs∧Below w.heap.size w Z
def numsL (l:List Int):List UInt8:=l.flatMap zq
theorem qg {l:List Int}{k:Nat}{n:Int}(h:l[k]? =some n):numsL (l.take (k+1))=numsL (l.take k)++zq n:=by
 rw[List.take_add_one,h];simp[numsL,List.flatMap_append]
theorem yH:∀l:List Int,(numsL l).length=8*l.length
 | []=>rfl
 | n ::l=>by
   have:=yH l
   simp only[numsL,List.flatMap_cons,LlaQ,zH,LlcQ] at this ⊢;omega
theorem vz {w:World}{g:Nat}{x:UInt8}{u:Value}(h:w.heap[g]? =some (.cells #[u] 5 (0,0)))(hu:cell x=u):yt w (some ⟨g,0,none⟩) [x]:=⟨fun e=>(by cases e),fun ad e j v hj=>by
 cases e
 match j,hj with
 | 0,hj=>simp at hj;subst hj;rw[hu];show w.cell? ⟨g,0+0,none⟩=_;rw[corQ _ _ _ _ _ _ h];rfl
 | j+1,hj=>simp at hj⟩
theorem qR {A:World}{B:Nat}{v:Value}{bs:List UInt8}(ho:A.ownsRow B 5 1 v bs.length (bs.map cell))(h0:0<bs.length):∃g cap,v= .slice (some ⟨g,0,none⟩) bs.length cap∧yt A (some ⟨g,0,none⟩) bs:=by
 have hc:=fun g hg=>World.ownsRowF.cells (World.ownsRowF_of ho) (g:=g) hg
 rcases ho.2 with ⟨hv,hn⟩ | ⟨g,cap,cur,hv,hB,hh,h3,h4,_⟩
 · omega
 · subst hv
   exact⟨g,cap,rfl,fun e=>(by cases e),fun ad e j u hj=>by
    cases e
    exact hc g rfl j _ ub9⟩
theorem yB {B:Nat}{v:Value}{bs:List UInt8}{W0 w:World}(h:vS B v bs W0 w):Below B W0 w:=h.2.1
end Go.Proofs.YtoidedomenkbpaaGreat
namespace Go.Proofs.YtoidedomenkbpaaGreat
open Go.RowKit Go.Shelf
theorem qm (w:World)(a0 a1 a2 a3 a4 a5 a6 a7 a8 a9 a10 ai ak:Int)(sa ar:Option Addr)(an ac am ad:Nat)(aw:ByteArray)(h:∀Y,Below w.heap.size w Y→Calls Tryz.prog 23 #[.agg #[.int .i8 a0,.int .i64 a1,.int .i64 a2,.int .i64 a3,.int .i64 a4,.int .i64 a5,.int .i64 a6,.int .i64 a7,.int .i64 a8,.int .i64 a9,.int .i64 a10,.slice sa an ac,.int .i64 ai,.int .i64 ak,.string aw,.slice ar am ad]] Y (zx false Y)):
 Calls Tryz.prog 32 #[.agg #[.int .i8 a0,.int .i64 a1,.int .i64 a2,.int .i64 a3,.int .i64 a4,.int .i64 a5,.int .i64 a6,.int .i64 a7,.int .i64 a8,.int .i64 a9,.int .i64 a10,.slice sa an ac,.int .i64 ai,.int .i64 ak,.string aw,.slice ar am ad]] w (fun e Z=>e= .returned (.tuple #[.slice none 0 0,.int .i64 2])∧Below w.heap.size w Z):=by
 obtain⟨B,hB⟩:∃B,B=w.alloc (.cells #[.int .i8 a0,.int .i64 a1,.int .i64 a2,.int .i64 a3,.int .i64 a4,.int .i64 a5,.int .i64 a6,.int .i64 a7,.int .i64 a8,.int .i64 a9,.int .i64 a10,.slice sa an ac,.int .i64 ai,.int .i64 ak,.string aw,.slice ar am ad] 37):=⟨_,rfl⟩
 have hb:Below w.heap.size w B:=by rw[hB];exact (BrQ _ _).alloc (NlrQ _) _
 have hx:B.heap[w.heap.size]? =some (.cells #[.int .i8 a0,.int .i64 a1,.int .i64 a2,.int .i64 a3,.int .i64 a4,.int .i64 a5,.int .i64 a6,.int .i64 a7,.int .i64 a8,.int .i64 a9,.int .i64 a10,.slice sa an ac,.int .i64 ai,.int .i64 ak,.string aw,.slice ar am ad] 37 (0,0)):=by rw[hB];exact hanQ _ _
 have HR:=hH (h B hb)
 have HB:=hH (aN hb hB)
 have c0:B.cell? ⟨w.heap.size,0,none⟩=some (.int .i8 a0):=by rw[corQ _ _ 0 _ _ _ hx];rfl
 have c1:B.cell? ⟨w.heap.size,1,none⟩=some (.int .i64 a1):=by rw[corQ _ _ 1 _ _ _ hx];rfl
 have c2:B.cell? ⟨w.heap.size,2,none⟩=some (.int .i64 a2):=by rw[corQ _ _ 2 _ _ _ hx];rfl
 have c3:B.cell? ⟨w.heap.size,3,none⟩=some (.int .i64 a3):=by rw[corQ _ _ 3 _ _ _ hx];rfl
 have c4:B.cell? ⟨w.heap.size,4,none⟩=some (.int .i64 a4):=by rw[corQ _ _ 4 _ _ _ hx];rfl
 have c5:B.cell? ⟨w.heap.size,5,none⟩=some (.int .i64 a5):=by rw[corQ _ _ 5 _ _ _ hx];rfl
 have c6:B.cell? ⟨w.heap.size,6,none⟩=some (.int .i64 a6):=by rw[corQ _ _ 6 _ _ _ hx];rfl
 have c7:B.cell? ⟨w.heap.size,7,none⟩=some (.int .i64 a7):=by rw[corQ _ _ 7 _ _ _ hx];rfl
 have c8:B.cell? ⟨w.heap.size,8,none⟩=some (.int .i64 a8):=by rw[corQ _ _ 8 _ _ _ hx];rfl
 have c9:B.cell? ⟨w.heap.size,9,none⟩=some (.int .i64 a9):=by rw[corQ _ _ 9 _ _ _ hx];rfl
 have c10:B.cell? ⟨w.heap.size,10,none⟩=some (.int .i64 a10):=by rw[corQ _ _ 10 _ _ _ hx];rfl
 have c11:B.cell? ⟨w.heap.size,11,none⟩=some (.slice sa an ac):=by rw[corQ _ _ 11 _ _ _ hx];rfl
 have c12:B.cell? ⟨w.heap.size,12,none⟩=some (.int .i64 ai):=by rw[corQ _ _ 12 _ _ _ hx];rfl
 have c13:B.cell? ⟨w.heap.size,13,none⟩=some (.int .i64 ak):=by rw[corQ _ _ 13 _ _ _ hx];rfl
 have c14:B.cell? ⟨w.heap.size,14,none⟩=some (.string aw):=by rw[corQ _ _ 14 _ _ _ hx];rfl
 have c15:B.cell? ⟨w.heap.size,15,none⟩=some (.slice ar am ad):=by rw[corQ _ _ 15 _ _ _ hx];rfl
 clear hb hB hx h
 go_enter Tryz.func32,Tryz.ntmps32
 go_upto_region 1 with fail
 change Code.wp _ _ _ _ (w.alloc (.cells #[.int .i8 a0,.int .i64 a1,.int .i64 a2,.int .i64 a3,.int .i64 a4,.int .i64 a5,.int .i64 a6,.int .i64 a7,.int .i64 a8,.int .i64 a9,.int .i64 a10,.slice sa an ac,.int .i64 ai,.int .i64 ak,.string aw,.slice ar am ad] 37))
 rw[←HB.out.2]
 go_wp2_with fail
 refine HR.out.mono ?_
 rintro e Y ⟨rfl,hy⟩
 have HY:=hH hy
 clear hy HR c0 c1 c2 c3 c4 c5 c6 c7 c8 c9 c10 c11 c12 c13 c14 c15
 go_wp2_with fail
 go_ret2
 exact⟨rfl,HB.out.1.trans (HY.out.mono HB.out.1.size)⟩
end Go.Proofs.YtoidedomenkbpaaGreat
namespace Go.Proofs.YtoidedomenkbpaaGreat
open Go.RowKit Go.Shelf
open Extern.Stop (cell)
theorem zge (w:World)(a1 a2 a3 a4 a5 a6 a7 a8 a9 a10:Int)(sa ar:Option Addr)(an ac am ad:Nat)(vs:List SV)(t:Tr)(h:zJ w sa ar an am ad vs t)(hr:∀Y,Below w.heap.size w Y→Calls Tryz.prog 23 #[.agg #[.int .i8 1,.int .i64 a1,.int .i64 a2,.int .i64 a3,.int .i64 a4,.int .i64 a5,.int .i64 a6,.int .i64 a7,.int .i64 a8,.int .i64 a9,.int .i64 a10,.slice sa an ac,.int .i64 t.id,.int .i64 t.kind,.string t.text,.slice ar am ad]] Y (zx true Y)):Calls Tryz.prog 32 #[.agg #[.int .i8 1,.int .i64 a1,.int .i64 a2,.int .i64 a3,.int .i64 a4,.int .i64 a5,.int .i64 a6,.int .i64 a7,.int .i64 a8,.int .i64 a9,.int .i64 a10,.slice sa an ac,.int .i64 t.id,.int .i64 t.kind,.string t.text,.slice ar am ad]] w (jv (zS (Jc a1 a2 a3 a4 a5 a6 a7 a8 a9 a10 sa ar an ac am ad vs t)) w):=by
 obtain⟨B,hB⟩:∃B,B=w.alloc (.cells #[.int .i8 1,.int .i64 a1,.int .i64 a2,.int .i64 a3,.int .i64 a4,.int .i64 a5,.int .i64 a6,.int .i64 a7,.int .i64 a8,.int .i64 a9,.int .i64 a10,.slice sa an ac,.int .i64 t.id,.int .i64 t.kind,.string t.text,.slice ar am ad] 37):=⟨_,rfl⟩
 have hb:Below w.heap.size w B:=by rw[hB];exact (BrQ _ _).alloc (NlrQ _) _
 have e0:B.heap[w.heap.size]? =some (.cells #[.int .i8 1,.int .i64 a1,.int .i64 a2,.int .i64 a3,.int .i64 a4,.int .i64 a5,.int .i64 a6,.int .i64 a7,.int .i64 a8,.int .i64 a9,.int .i64 a10,.slice sa an ac,.int .i64 t.id,.int .i64 t.kind,.string t.text,.slice ar am ad] 37 (0,0)):=by rw[hB];exact hanQ _ _
 have c0:B.cell? ⟨w.heap.size,0,none⟩=some (.int .i8 1):=by rw[corQ _ _ 0 _ _ _ e0];rfl
 have c1:B.cell? ⟨w.heap.size,1,none⟩=some (.int .i64 a1):=by rw[corQ _ _ 1 _ _ _ e0];rfl
 have c2:B.cell? ⟨w.heap.size,2,none⟩=some (.int .i64 a2):=by rw[corQ _ _ 2 _ _ _ e0];rfl
 have c3:B.cell? ⟨w.heap.size,3,none⟩=some (.int .i64 a3):=by rw[corQ _ _ 3 _ _ _ e0];rfl
 have c4:B.cell? ⟨w.heap.size,4,none⟩=some (.int .i64 a4):=by rw[corQ _ _ 4 _ _ _ e0];rfl
 have c5:B.cell? ⟨w.heap.size,5,none⟩=some (.int .i64 a5):=by rw[corQ _ _ 5 _ _ _ e0];rfl
 have c6:B.cell? ⟨w.heap.size,6,none⟩=some (.int .i64 a6):=by rw[corQ _ _ 6 _ _ _ e0];rfl
 have c7:B.cell? ⟨w.heap.size,7,none⟩=some (.int .i64 a7):=by rw[corQ _ _ 7 _ _ _ e0];rfl
 have c8:B.cell? ⟨w.heap.size,8,none⟩=some (.int .i64 a8):=by rw[corQ _ _ 8 _ _ _ e0];rfl
 have c9:B.cell? ⟨w.heap.size,9,none⟩=some (.int .i64 a9):=by rw[corQ _ _ 9 _ _ _ e0];rfl
 have c10:B.cell? ⟨w.heap.size,10,none⟩=some (.int .i64 a10):=by rw[corQ _ _ 10 _ _ _ e0];rfl
 have c11:B.cell? ⟨w.heap.size,11,none⟩=some (.slice sa an ac):=by rw[corQ _ _ 11 _ _ _ e0];rfl
 have c12:B.cell? ⟨w.heap.size,12,none⟩=some (.int .i64 t.id):=by rw[corQ _ _ 12 _ _ _ e0];rfl
 have c13:B.cell? ⟨w.heap.size,13,none⟩=some (.int .i64 t.kind):=by rw[corQ _ _ 13 _ _ _ e0];rfl
 have c14:B.cell? ⟨w.heap.size,14,none⟩=some (.string t.text):=by rw[corQ _ _ 14 _ _ _ e0];rfl
 have c15:B.cell? ⟨w.heap.size,15,none⟩=some (.slice ar am ad):=by rw[corQ _ _ 15 _ _ _ e0];rfl
 have HB:=hH (aN hb (aN hB e0))
 have HR:=hH (hr B hb)
 have HM:=hH h
 obtain⟨OWN,hown⟩:∃OWN,OWN=Jc a1 a2 a3 a4 a5 a6 a7 a8 a9 a10 sa ar an ac am ad vs t:=⟨_,rfl⟩
 have HO:=hH hown
 rw[←hown]
 have hol:OWN.length≤1000000000:=by
  have:=zV _ _ _ _ _ (zfv a1 a2 a3 a4 a5 a6 a7 a8 a9 a10 sa ar an ac am ad vs t) (zfH a1 a2 a3 a4 a5 a6 a7 a8 a9 a10 sa ar an ac am ad vs t)
  simp only[LlcQ,List.length_nil] at this
  rw[hown]
  unfold Jc
  omega
 have HOL:=hH hol
 obtain⟨i0,hi,hz0,hz1,hz2⟩:=info_parts Tryz.qY
 have HI:=hH (aN hi (aN hz0 (aN hz1 hz2)))
 clear h hb hB e0 hr hown hol hi hz0 hz1 hz2
 go_enter Tryz.func32,Tryz.ntmps32
 go_upto_region 1 with fail
 change Code.wp _ _ _ _ (w.alloc (.cells #[.int .i8 1,.int .i64 a1,.int .i64 a2,.int .i64 a3,.int .i64 a4,.int .i64 a5,.int .i64 a6,.int .i64 a7,.int .i64 a8,.int .i64 a9,.int .i64 a10,.slice sa an ac,.int .i64 t.id,.int .i64 t.kind,.string t.text,.slice ar am ad] 37))
 rw[←HB.out.2.1]
 go_wp2_with fail
 refine HR.out.mono ?_
 rintro e Z1 ⟨rfl,hz1⟩
 have b1:=HB.out.1.trans (hz1.mono HB.out.1.size)
 have m1:=(hz1.block _ (lohQ HB.out.2.2)).trans HB.out.2.2
 clear c0 c1 c2 c3 c4 c5 c6 c7 c8 c9 c10 c11 c12 c13 c14 c15 HR hz1
 obtain⟨g,hg⟩:∃g,g=Z1.heap.size:=⟨_,rfl⟩
 obtain⟨Y1,hY1⟩:∃Y1,Y1=Z1.alloc (.cells #[.int .u8 1] 5):=⟨_,rfl⟩
 have b1a:Below Z1.heap.size Z1 Y1:=by rw[hY1];exact (BrQ _ _).alloc (NlrQ _) _
 have m1a:=(b1a.block _ (lohQ m1)).trans m1
 have r1a:Y1.heap[g]? =some (.cells #[.int .u8 1] 5 (0,0)):=by rw[hY1,hg];exact hanQ _ _
 have hs1:Y1.heap.size=g+1:=by rw[hY1,hg,WsaQ]
 obtain⟨Z2,hZ2⟩:∃Z2,Z2=Y1.alloc (.cells #[.int .i64 a1,.int .i64 a2] 3):=⟨_,rfl⟩
 have b2:Below Y1.heap.size Y1 Z2:=by rw[hZ2];exact (BrQ _ _).alloc (NlrQ _) _
 have m2:=(b2.block _ (lohQ m1a)).trans m1a
 have r1:=(b2.block _ (lohQ r1a)).trans r1a
 have r2:Z2.heap[g+1]? =some (.cells #[.int .i64 a1,.int .i64 a2] 3 (0,0)):=by rw[hZ2,←hs1];exact hanQ _ _
 have hs2:Z2.heap.size=g+2:=by rw[hZ2,WsaQ,hs1]
 have d0:Z1.cell? ⟨w.heap.size,0,none⟩=some (.int .i8 1):=by rw[corQ _ _ 0 _ _ _ m1];rfl
 have f0:Y1.cell? ⟨w.heap.size,0,none⟩=some (.int .i8 1):=by rw[corQ _ _ 0 _ _ _ m1a];rfl
 have f1:Y1.cell? ⟨w.heap.size,1,none⟩=some (.int .i64 a1):=by rw[corQ _ _ 1 _ _ _ m1a];rfl
 have f2:Y1.cell? ⟨w.heap.size,2,none⟩=some (.int .i64 a2):=by rw[corQ _ _ 2 _ _ _ m1a];rfl
 have b12:=b1a.trans (b2.mono b1a.size)
 have H2:=hH (aN (b1.trans (b12.mono b1.size)) (aN hZ2 (aN m2 (aN r1 (aN r2 (aN hs2 hY1))))))
 have HGW:=hH (show w.heap.size<g by rw[hg];exact lohQ m1)
 clear b1 b2 b1a b12 m1 m1a m2 r1 r2 r1a hs2 hZ2 HB hY1
 go_upto_region 4 with fail
 change Code.wp _ _ _ _ (Z1.alloc (.cells #[.int .u8 1] 5))
 rw[←H2.out.2.2.2.2.2.2,←hg]
 clear d0 hg
 go_upto_region 5 with fail
 change Code.wp _ _ _ _ (Y1.alloc (.cells #[.int .i64 a1,.int .i64 a2] 3))
 rw[←H2.out.2.1]
 clear hs1 f0 f1 f2
 as_aux_lemma=>
  have d0:Z2.cell? ⟨w.heap.size,0,none⟩=some (.int .i8 1):=by rw[corQ _ _ 0 _ _ _ H2.out.2.2.1];rfl
  have d1:Z2.cell? ⟨w.heap.size,1,none⟩=some (.int .i64 a1):=by rw[corQ _ _ 1 _ _ _ H2.out.2.2.1];rfl
  have d2:Z2.cell? ⟨w.heap.size,2,none⟩=some (.int .i64 a2):=by rw[corQ _ _ 2 _ _ _ H2.out.2.2.1];rfl
  have d4:Z2.cell? ⟨w.heap.size,4,none⟩=some (.int .i64 a4):=by rw[corQ _ _ 4 _ _ _ H2.out.2.2.1];rfl
  have hrow:Z2.ownsRow g 3 1 (.slice (some ⟨g+1,0,none⟩) 2 2) 2 [.int .i64 a1,.int .i64 a2]:=⟨rfl,Or.inr ⟨g+1,2, #[.int .i64 a1,.int .i64 a2],rfl,by omega,H2.out.2.2.2.2.1,NlrQ _,by unfold maxLen;omega,rfl,rfl⟩⟩
  have HROW:=hH hrow
  clear hrow
  go_upto_region 7 with fail
  have hz2s:=H2.out.2.2.2.2.2.1
  go_wp2_with (at_builtin;refine wpList_append_lies _ rfl (.tmp 23) (.tmp 26) 30 rfl g 3 i0 (.int .i64 0) 1 8 Tryz.underlying30 HI.out.1 HI.out.2.1 HI.out.2.2.1 HI.out.2.2.2 rfl ue3 (.slice (some ⟨g+1,0,none⟩) 2 2) 2 [.int .i64 a1,.int .i64 a2] rfl (HROW.out.alloc _) ⟨g+2,0,none⟩ 1 1 [.int .i64 a4] rfl rfl (World.news_of_block (cs:= #[.int .i64 a4]) uc4) ud1 ue3 ud2 om ud7 _ rfl ?_;intro gl lcap w4 hown hgrow hat hlt;have HW:=hH (aN hown (aN hgrow hlt));clear hown hgrow hat hlt)
  have hgw:=HGW.out
  have hz2:(Z2.alloc (.cells #[.int .i64 a4] 3)).heap.size=g+3:=by rw[WsaQ,hz2s]
  have hkeep:∀y,y<g+1→w4.heap[y]? =Z2.heap[y]?:=fun y hy=>(HW.out.2.1.block y ud9 (fun e=>by simp[Value.ownBlock] at e;omega)).trans (BhaQ Z2 _ _ om)
  have b4:Below w.heap.size w w4:=⟨HW.out.2.1.os.trans H2.out.1.os,HW.out.2.1.tape.trans H2.out.1.tape,HW.out.2.1.output.trans H2.out.1.output,by have:=HW.out.2.1.size;have:=H2.out.1.size;omega,fun y hy=>(hkeep y om).trans (H2.out.1.block y hy)⟩
  have m4:=(hkeep _ om).trans H2.out.2.2.1
  have r4:=(hkeep g om).trans H2.out.2.2.2.1
  have hby:yt w4 (some ⟨g,0,none⟩) [zm 1]:=vz r4 (yY 1 ue3)
  have hlc:∀(j:Nat) (x:Int),([a1,a2,a4]:List Int)[j]? =some x→w4.cell? ⟨gl,j,none⟩=some (.int .i64 x):=fun j x hj=>by
   have hj2:j<3:=by have:=(List.getElem?_eq_some_iff.1 hj).1;simpa using this
   rw[HW.out.1.cellAt j om,show ([.int .i64 a1,.int .i64 a2]++[.int .i64 a4]:List Value)=([a1,a2,a4]:List Int).map (fun x=>Value.int .i64 x) from rfl,List.getElem?_map,hj];rfl
  have H4:=hH (aN b4 (aN m4 (aN hby (aN hlc HW.out.2.2))))
  clear hgw hz2 hkeep b4 m4 r4 hby hlc HW H2 HROW hz2s HI HGW d0 d1 d2 d4
  as_aux_lemma=>
   go_loopw [4,6] (fun v i wr=>∃(j nn cp:Nat) (a:Option Addr),j≤3∧i= .int .i64 (j:Int)∧v= .slice a nn cp∧Hid (nn=([zm 1]++numsL (([a1,a2,a4]:List Int).take j)).length∧yt wr a ([zm 1]++numsL (([a1,a2,a4]:List Int).take j))∧Below w4.heap.size w4 wr)) (fun _ i _=>3 - (intOf i).toNat)
   case atStart=>exact⟨0,1,1,_,NzlQ _,rfl,rfl,hH ⟨rfl,H4.out.2.2.1,BrQ _ _⟩⟩
   case round=>
    obtain⟨j,nn,cp,a,hj,rfl,rfl,hh⟩:=hrel
    obtain⟨wo,hwo⟩:∃wo,wo=wr:=⟨_,rfl⟩
    subst hwo
    by_cases hlt:j<3
    · obtain⟨x,hx⟩:∃x,([a1,a2,a4]:List Int)[j]? =some x:=⟨_,List.getElem?_eq_getElem ud6⟩
      have cx:wo.cell? ⟨gl,j,none⟩=some (.int .i64 x):=(World.cell?_of_block (a:=⟨gl,j,none⟩) (hh.out.2.2.block gl H4.out.2.2.2.2)).trans (H4.out.2.2.2.1 j x hx)
      have hbl:([zm 1]++numsL (([a1,a2,a4]:List Int).take j)).length≤1000:=by
       exact sc6
      have HN:=hH (Zd wo a nn cp _ x hh.out.1 hh.out.2.1 om)
      have HX:=hH (aN (qg hx) (aN hh.out.2.2 hlt))
      have hjl:(j:Int)<3:=by omega
      exact sb0
    · have hjl:¬(j:Int)<3:=by omega
      have hjn:j=3:=by omega
      have hb8:Below w.heap.size w wo:=H4.out.1.trans (hh.out.2.2.mono H4.out.1.size)
      have m8:=(hh.out.2.2.block _ (lohQ H4.out.2.1)).trans H4.out.2.1
      have hat8:yt wo a ([zm 1]++numsL [a1,a2,a4]):=by have h1:=hh.out.2.1;rw[hjn] at h1;exact h1
      have hn8:nn=([zm 1]++numsL [a1,a2,a4]).length:=by have h1:=hh.out.1;rw[hjn] at h1;exact h1
      have H8:=hH (aN hb8 (aN hn8 (aN hat8 m8)))
      have c0:wo.cell? ⟨w.heap.size,0,none⟩=some (.int .i8 1):=by rw[corQ _ _ 0 _ _ _ m8];rfl
      clear hjn hb8 m8 hat8 hn8 hh hlt hj H4
      as_aux_lemma=>
       have HOE:=hH (show [zm 1]++numsL [a1,a2,a4]=OWN by rw[HO.out];unfold Jc numsL;simp[List.flatMap_cons,List.append_assoc])
       exact sb2
theorem zgj (w:World)(a1 a2 a3 a4 a5 a6 a7 a8 a9 a10:Int)(sa ar:Option Addr)(an ac am ad:Nat)(vs:List SV)(t:Tr)(h:zJ w sa ar an am ad vs t)(hr:∀Y,Below w.heap.size w Y→Calls Tryz.prog 23 #[.agg #[.int .i8 6,.int .i64 a1,.int .i64 a2,.int .i64 a3,.int .i64 a4,.int .i64 a5,.int .i64 a6,.int .i64 a7,.int .i64 a8,.int .i64 a9,.int .i64 a10,.slice sa an ac,.int .i64 t.id,.int .i64 t.kind,.string t.text,.slice ar am ad]] Y (zx true Y)):Calls Tryz.prog 32 #[.agg #[.int .i8 6,.int .i64 a1,.int .i64 a2,.int .i64 a3,.int .i64 a4,.int .i64 a5,.int .i64 a6,.int .i64 a7,.int .i64 a8,.int .i64 a9,.int .i64 a10,.slice sa an ac,.int .i64 t.id,.int .i64 t.kind,.string t.text,.slice ar am ad]] w (jv (zS (QO a1 a2 a3 a4 a5 a6 a7 a8 a9 a10 sa ar an ac am ad vs t)) w):=by
 obtain⟨B,hB⟩:∃B,B=w.alloc (.cells #[.int .i8 6,.int .i64 a1,.int .i64 a2,.int .i64 a3,.int .i64 a4,.int .i64 a5,.int .i64 a6,.int .i64 a7,.int .i64 a8,.int .i64 a9,.int .i64 a10,.slice sa an ac,.int .i64 t.id,.int .i64 t.kind,.string t.text,.slice ar am ad] 37):=⟨_,rfl⟩
 have hb:Below w.heap.size w B:=by rw[hB];exact (BrQ _ _).alloc (NlrQ _) _
 have e0:B.heap[w.heap.size]? =some (.cells #[.int .i8 6,.int .i64 a1,.int .i64 a2,.int .i64 a3,.int .i64 a4,.int .i64 a5,.int .i64 a6,.int .i64 a7,.int .i64 a8,.int .i64 a9,.int .i64 a10,.slice sa an ac,.int .i64 t.id,.int .i64 t.kind,.string t.text,.slice ar am ad] 37 (0,0)):=by rw[hB];exact hanQ _ _
 have c0:B.cell? ⟨w.heap.size,0,none⟩=some (.int .i8 6):=by rw[corQ _ _ 0 _ _ _ e0];rfl
 have c1:B.cell? ⟨w.heap.size,1,none⟩=some (.int .i64 a1):=by rw[corQ _ _ 1 _ _ _ e0];rfl
 have c2:B.cell? ⟨w.heap.size,2,none⟩=some (.int .i64 a2):=by rw[corQ _ _ 2 _ _ _ e0];rfl
 have c3:B.cell? ⟨w.heap.size,3,none⟩=some (.int .i64 a3):=by rw[corQ _ _ 3 _ _ _ e0];rfl
 have c4:B.cell? ⟨w.heap.size,4,none⟩=some (.int .i64 a4):=by rw[corQ _ _ 4 _ _ _ e0];rfl
 have c5:B.cell? ⟨w.heap.size,5,none⟩=some (.int .i64 a5):=by rw[corQ _ _ 5 _ _ _ e0];rfl
 have c6:B.cell? ⟨w.heap.size,6,none⟩=some (.int .i64 a6):=by rw[corQ _ _ 6 _ _ _ e0];rfl
 have c7:B.cell? ⟨w.heap.size,7,none⟩=some (.int .i64 a7):=by rw[corQ _ _ 7 _ _ _ e0];rfl
 have c8:B.cell? ⟨w.heap.size,8,none⟩=some (.int .i64 a8):=by rw[corQ _ _ 8 _ _ _ e0];rfl
 have c9:B.cell? ⟨w.heap.size,9,none⟩=some (.int .i64 a9):=by rw[corQ _ _ 9 _ _ _ e0];rfl
 have c10:B.cell? ⟨w.heap.size,10,none⟩=some (.int .i64 a10):=by rw[corQ _ _ 10 _ _ _ e0];rfl
 have c11:B.cell? ⟨w.heap.size,11,none⟩=some (.slice sa an ac):=by rw[corQ _ _ 11 _ _ _ e0];rfl
 have c12:B.cell? ⟨w.heap.size,12,none⟩=some (.int .i64 t.id):=by rw[corQ _ _ 12 _ _ _ e0];rfl
 have c13:B.cell? ⟨w.heap.size,13,none⟩=some (.int .i64 t.kind):=by rw[corQ _ _ 13 _ _ _ e0];rfl
 have c14:B.cell? ⟨w.heap.size,14,none⟩=some (.string t.text):=by rw[corQ _ _ 14 _ _ _ e0];rfl
 have c15:B.cell? ⟨w.heap.size,15,none⟩=some (.slice ar am ad):=by rw[corQ _ _ 15 _ _ _ e0];rfl
 have HB:=hH (aN hb (aN hB e0))
 have HR:=hH (hr B hb)
 have HM:=hH h
 obtain⟨OWN,hown⟩:∃OWN,OWN=QO a1 a2 a3 a4 a5 a6 a7 a8 a9 a10 sa ar an ac am ad vs t:=⟨_,rfl⟩
 have HO:=hH hown
 rw[←hown]
 have hol:OWN.length≤1000000000:=by
  have:=zV _ _ _ _ _ (zfA a1 a2 a3 a4 a5 a6 a7 a8 a9 a10 sa ar an ac am ad vs t) (zfM a1 a2 a3 a4 a5 a6 a7 a8 a9 a10 sa ar an ac am ad vs t)
  simp only[LlcQ,List.length_nil] at this
  rw[hown]
  unfold QO
  omega
 have HOL:=hH hol
 obtain⟨i0,hi,hz0,hz1,hz2⟩:=info_parts Tryz.qY
 have HI:=hH (aN hi (aN hz0 (aN hz1 hz2)))
 clear h hb hB e0 hr hown hol hi hz0 hz1 hz2
 go_enter Tryz.func32,Tryz.ntmps32
 go_upto_region 1 with fail
 change Code.wp _ _ _ _ (w.alloc (.cells #[.int .i8 6,.int .i64 a1,.int .i64 a2,.int .i64 a3,.int .i64 a4,.int .i64 a5,.int .i64 a6,.int .i64 a7,.int .i64 a8,.int .i64 a9,.int .i64 a10,.slice sa an ac,.int .i64 t.id,.int .i64 t.kind,.string t.text,.slice ar am ad] 37))
 rw[←HB.out.2.1]
 go_wp2_with fail
 refine HR.out.mono ?_
 rintro e Z1 ⟨rfl,hz1⟩
 have b1:=HB.out.1.trans (hz1.mono HB.out.1.size)
 have m1:=(hz1.block _ (lohQ HB.out.2.2)).trans HB.out.2.2
 clear c0 c1 c2 c3 c4 c5 c6 c7 c8 c9 c10 c11 c12 c13 c14 c15 HR hz1
 obtain⟨g,hg⟩:∃g,g=Z1.heap.size:=⟨_,rfl⟩
 obtain⟨Y1,hY1⟩:∃Y1,Y1=Z1.alloc (.cells #[.int .u8 6] 5):=⟨_,rfl⟩
 have b1a:Below Z1.heap.size Z1 Y1:=by rw[hY1];exact (BrQ _ _).alloc (NlrQ _) _
 have m1a:=(b1a.block _ (lohQ m1)).trans m1
 have r1a:Y1.heap[g]? =some (.cells #[.int .u8 6] 5 (0,0)):=by rw[hY1,hg];exact hanQ _ _
 have hs1:Y1.heap.size=g+1:=by rw[hY1,hg,WsaQ]
 obtain⟨Z2,hZ2⟩:∃Z2,Z2=Y1.alloc (.cells #[.int .i64 a1,.int .i64 a2] 3):=⟨_,rfl⟩
 have b2:Below Y1.heap.size Y1 Z2:=by rw[hZ2];exact (BrQ _ _).alloc (NlrQ _) _
 have m2:=(b2.block _ (lohQ m1a)).trans m1a
 have r1:=(b2.block _ (lohQ r1a)).trans r1a
 have r2:Z2.heap[g+1]? =some (.cells #[.int .i64 a1,.int .i64 a2] 3 (0,0)):=by rw[hZ2,←hs1];exact hanQ _ _
 have hs2:Z2.heap.size=g+2:=by rw[hZ2,WsaQ,hs1]
 have d0:Z1.cell? ⟨w.heap.size,0,none⟩=some (.int .i8 6):=by rw[corQ _ _ 0 _ _ _ m1];rfl
 have f0:Y1.cell? ⟨w.heap.size,0,none⟩=some (.int .i8 6):=by rw[corQ _ _ 0 _ _ _ m1a];rfl
 have f1:Y1.cell? ⟨w.heap.size,1,none⟩=some (.int .i64 a1):=by rw[corQ _ _ 1 _ _ _ m1a];rfl
 have f2:Y1.cell? ⟨w.heap.size,2,none⟩=some (.int .i64 a2):=by rw[corQ _ _ 2 _ _ _ m1a];rfl
 have b12:=b1a.trans (b2.mono b1a.size)
 have H2:=hH (aN (b1.trans (b12.mono b1.size)) (aN hZ2 (aN m2 (aN r1 (aN r2 (aN hs2 hY1))))))
 have HGW:=hH (show w.heap.size<g by rw[hg];exact lohQ m1)
 clear b1 b2 b1a b12 m1 m1a m2 r1 r2 r1a hs2 hZ2 HB hY1
 go_upto_region 4 with fail
 change Code.wp _ _ _ _ (Z1.alloc (.cells #[.int .u8 6] 5))
 rw[←H2.out.2.2.2.2.2.2,←hg]
 clear d0 hg
 go_upto_region 5 with fail
 change Code.wp _ _ _ _ (Y1.alloc (.cells #[.int .i64 a1,.int .i64 a2] 3))
 rw[←H2.out.2.1]
 clear hs1 f0 f1 f2
 as_aux_lemma=>
  have d0:Z2.cell? ⟨w.heap.size,0,none⟩=some (.int .i8 6):=by rw[corQ _ _ 0 _ _ _ H2.out.2.2.1];rfl
  have d1:Z2.cell? ⟨w.heap.size,1,none⟩=some (.int .i64 a1):=by rw[corQ _ _ 1 _ _ _ H2.out.2.2.1];rfl
  have d2:Z2.cell? ⟨w.heap.size,2,none⟩=some (.int .i64 a2):=by rw[corQ _ _ 2 _ _ _ H2.out.2.2.1];rfl
  have d4:Z2.cell? ⟨w.heap.size,4,none⟩=some (.int .i64 a4):=by rw[corQ _ _ 4 _ _ _ H2.out.2.2.1];rfl
  have d5:Z2.cell? ⟨w.heap.size,5,none⟩=some (.int .i64 a5):=by rw[corQ _ _ 5 _ _ _ H2.out.2.2.1];rfl
  have d9:Z2.cell? ⟨w.heap.size,9,none⟩=some (.int .i64 a9):=by rw[corQ _ _ 9 _ _ _ H2.out.2.2.1];rfl
  have hrow:Z2.ownsRow g 3 1 (.slice (some ⟨g+1,0,none⟩) 2 2) 2 [.int .i64 a1,.int .i64 a2]:=⟨rfl,Or.inr ⟨g+1,2, #[.int .i64 a1,.int .i64 a2],rfl,by omega,H2.out.2.2.2.2.1,NlrQ _,by unfold maxLen;omega,rfl,rfl⟩⟩
  have HROW:=hH hrow
  clear hrow
  go_upto_region 18 with fail
  have hz2s:=H2.out.2.2.2.2.2.1
  go_wp2_with (at_builtin;refine wpList_append_lies _ rfl (.tmp 85) (.tmp 92) 30 rfl g 3 i0 (.int .i64 0) 1 8 Tryz.underlying30 HI.out.1 HI.out.2.1 HI.out.2.2.1 HI.out.2.2.2 rfl ue3 (.slice (some ⟨g+1,0,none⟩) 2 2) 2 [.int .i64 a1,.int .i64 a2] rfl (HROW.out.alloc _) ⟨g+2,0,none⟩ 3 3 [.int .i64 a4,.int .i64 a5,.int .i64 a9] rfl rfl (World.news_of_block (cs:= #[.int .i64 a4,.int .i64 a5,.int .i64 a9]) uc4) ud1 ue3 ud2 om ud7 _ rfl ?_;intro gl lcap w4 hown hgrow hat hlt;have HW:=hH (aN hown (aN hgrow hlt));clear hown hgrow hat hlt)
  have hgw:=HGW.out
  have hz2:(Z2.alloc (.cells #[.int .i64 a4,.int .i64 a5,.int .i64 a9] 3)).heap.size=g+3:=by rw[WsaQ,hz2s]
  have hkeep:∀y,y<g+1→w4.heap[y]? =Z2.heap[y]?:=fun y hy=>(HW.out.2.1.block y ud9 (fun e=>by simp[Value.ownBlock] at e;omega)).trans (BhaQ Z2 _ _ om)
  have b4:Below w.heap.size w w4:=⟨HW.out.2.1.os.trans H2.out.1.os,HW.out.2.1.tape.trans H2.out.1.tape,HW.out.2.1.output.trans H2.out.1.output,by have:=HW.out.2.1.size;have:=H2.out.1.size;omega,fun y hy=>(hkeep y om).trans (H2.out.1.block y hy)⟩
  have m4:=(hkeep _ om).trans H2.out.2.2.1
  have r4:=(hkeep g om).trans H2.out.2.2.2.1
  have hby:yt w4 (some ⟨g,0,none⟩) [zm 6]:=vz r4 (yY 6 ue3)
  have hlc:∀(j:Nat) (x:Int),([a1,a2,a4,a5,a9]:List Int)[j]? =some x→w4.cell? ⟨gl,j,none⟩=some (.int .i64 x):=fun j x hj=>by
   have hj2:j<5:=by have:=(List.getElem?_eq_some_iff.1 hj).1;simpa using this
   rw[HW.out.1.cellAt j om,show ([.int .i64 a1,.int .i64 a2]++[.int .i64 a4,.int .i64 a5,.int .i64 a9]:List Value)=([a1,a2,a4,a5,a9]:List Int).map (fun x=>Value.int .i64 x) from rfl,List.getElem?_map,hj];rfl
  have H4:=hH (aN b4 (aN m4 (aN hby (aN hlc HW.out.2.2))))
  clear hgw hz2 hkeep b4 m4 r4 hby hlc HW H2 HROW hz2s HI HGW d0 d1 d2 d4 d5 d9
  as_aux_lemma=>
   go_loopw [4,6] (fun v i wr=>∃(j nn cp:Nat) (a:Option Addr),j≤5∧i= .int .i64 (j:Int)∧v= .slice a nn cp∧Hid (nn=([zm 6]++numsL (([a1,a2,a4,a5,a9]:List Int).take j)).length∧yt wr a ([zm 6]++numsL (([a1,a2,a4,a5,a9]:List Int).take j))∧Below w4.heap.size w4 wr)) (fun _ i _=>5 - (intOf i).toNat)
   case atStart=>exact⟨0,1,1,_,NzlQ _,rfl,rfl,hH ⟨rfl,H4.out.2.2.1,BrQ _ _⟩⟩
   case round=>
    obtain⟨j,nn,cp,a,hj,rfl,rfl,hh⟩:=hrel
    obtain⟨wo,hwo⟩:∃wo,wo=wr:=⟨_,rfl⟩
    subst hwo
    by_cases hlt:j<5
    · obtain⟨x,hx⟩:∃x,([a1,a2,a4,a5,a9]:List Int)[j]? =some x:=⟨_,List.getElem?_eq_getElem ud6⟩
      have cx:wo.cell? ⟨gl,j,none⟩=some (.int .i64 x):=(World.cell?_of_block (a:=⟨gl,j,none⟩) (hh.out.2.2.block gl H4.out.2.2.2.2)).trans (H4.out.2.2.2.1 j x hx)
      have hbl:([zm 6]++numsL (([a1,a2,a4,a5,a9]:List Int).take j)).length≤1000:=by
       exact sc6
      have HN:=hH (Zd wo a nn cp _ x hh.out.1 hh.out.2.1 om)
      have HX:=hH (aN (qg hx) (aN hh.out.2.2 hlt))
      have hjl:(j:Int)<5:=by omega
      exact sb0
    · have hjl:¬(j:Int)<5:=by omega
      have hjn:j=5:=by omega
      have hb8:Below w.heap.size w wo:=H4.out.1.trans (hh.out.2.2.mono H4.out.1.size)
      have m8:=(hh.out.2.2.block _ (lohQ H4.out.2.1)).trans H4.out.2.1
      have hat8:yt wo a ([zm 6]++numsL [a1,a2,a4,a5,a9]):=by have h1:=hh.out.2.1;rw[hjn] at h1;exact h1
      have hn8:nn=([zm 6]++numsL [a1,a2,a4,a5,a9]).length:=by have h1:=hh.out.1;rw[hjn] at h1;exact h1
      have H8:=hH (aN hb8 (aN hn8 (aN hat8 m8)))
      have c0:wo.cell? ⟨w.heap.size,0,none⟩=some (.int .i8 6):=by rw[corQ _ _ 0 _ _ _ m8];rfl
      clear hjn hb8 m8 hat8 hn8 hh hlt hj H4
      as_aux_lemma=>
       have HOE:=hH (show [zm 6]++numsL [a1,a2,a4,a5,a9]=OWN by rw[HO.out];unfold QO numsL;simp[List.flatMap_cons,List.append_assoc])
       exact sb2
end Go.Proofs.YtoidedomenkbpaaGreat
