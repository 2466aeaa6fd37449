/-
  .
-/
import Derived.Test.YtoidedomenkbpaaGreatRows
import Derived.Test.YtoidedomenkbpaaGreatJPsQs
set_option maxRecDepth 100000
set_option maxHeartbeats 40000000

namespace Go.Proofs.YtoidedomenkbpaaGreat
def step1 (r:Nat):Nat:=if r % 2=1 then (r / 2) ^^^ 2197175160 else r / 2
def ve:Nat→Nat→Nat
 | 0,r=>r
 | k+1,r=>ve k (step1 r)
def sh8 (r:Nat):Nat:=ve 8 r
def JG (r:Nat)(bs:List UInt8):Nat:=bs.foldl (fun r x=>sh8 (r ^^^ x.toNat)) r
def Ym (s:Nat)(bs:List UInt8):Nat:=4294967295 - JG (4294967295 - s) bs
theorem zh5 (a b:Nat):(a ^^^ b) / 2=a / 2 ^^^ b / 2:=by
 have:=Nat.shiftRight_xor_distrib (a:=a) (b:=b) (i:=1)
 simpa [Nat.shiftRight_eq_div_pow] using this
theorem zja (a b:Nat):(a ^^^ b) % 2=(a+b) % 2:=by
 have h0:=Nat.testBit_xor a b 0
 simp only[Nat.testBit_zero] at h0
 have ha:a % 2=0∨a % 2=1:=by omega
 have hb:b % 2=0∨b % 2=1:=by omega
 have hx:(a ^^^ b) % 2=0∨(a ^^^ b) % 2=1:=by omega
 rcases ha with ha | ha<;>rcases hb with hb | hb<;>rcases hx with hx | hx<;>simp[ha,hb,hx] at h0<;>omega
theorem zgp (a b:Nat):step1 (a ^^^ b)=step1 a ^^^ step1 b:=by
 unfold step1
 rw[zja,zh5]
 have ha:a % 2=0∨a % 2=1:=by omega
 have hb:b % 2=0∨b % 2=1:=by omega
 generalize 2197175160=p
 rcases ha with ha | ha<;>rcases hb with hb | hb
 · rw[inQ om1,inQ om1,inQ om1]
 · rw[ipQ om1,inQ om1,ipQ om1,Nat.xor_assoc]
 · rw[ipQ om1,ipQ om1,inQ om1,Nat.xor_assoc,Nat.xor_comm (b / 2) p,←Nat.xor_assoc]
 · rw[inQ om1,ipQ om1,ipQ om1,Nat.xor_assoc,Nat.xor_comm p,Nat.xor_assoc,Nat.xor_self,Nat.xor_zero]
theorem zeK (k:Nat):∀a b,ve k (a ^^^ b)=ve k a ^^^ ve k b:=by
 induction k with
 | zero=>intro a b;rfl
 | succ k ih=>intro a b;show ve k (step1 _)=_;rw[zgp,ih];rfl
theorem zco (k:Nat):step1 (2*k)=k:=by
 unfold step1
 rw[inQ om1];omega
theorem zcp (j:Nat):∀k,ve j (2 ^ j*k)=k:=by
 induction j with
 | zero=>intro k;simp[ve]
 | succ j ih=>intro k;show ve j (step1 _)=_;rw[show 2 ^ (j+1)*k=2*(2 ^ j*k) by rw[Nat.pow_succ,Nat.mul_comm (2 ^ j) 2,Nat.mul_assoc],zco,ih]
theorem zdH (r:Nat)(h:r<4294967296):step1 r<4294967296:=by
 unfold step1
 split
 · exact Nat.xor_lt_two_pow (n:=32) om1 om1
 · omega
theorem zgq (k:Nat):∀r,r<4294967296→ve k r<4294967296:=by
 induction k with
 | zero=>intro r h;exact h
 | succ k ih=>intro r h;exact ih _ (zdH r h)
theorem zhN (r:Nat)(h:r<4294967296):sh8 r<4294967296:=zgq 8 r h
theorem YA (x:UInt8):x.toNat<256:=x.toNat_lt
theorem zh4 (a b:Nat)(ha:a<4294967296)(hb:b<4294967296):a ^^^ b<4294967296:=Nat.xor_lt_two_pow (n:=32) ha hb
theorem ze7 (bs:List UInt8):∀r,r<4294967296→JG r bs<4294967296:=by
 induction bs with
 | nil=>intro r h;exact h
 | cons x bs ih=>intro r h;exact ih _ (zhN _ (zh4 _ _ h (by have:=YA x;omega)))
theorem zcO (a b:List UInt8)(r:Nat):JG r (a++b)=JG (JG r a) b:=by simp[JG,List.foldl_append]
theorem zbf (l:List UInt8)(i:Nat)(x:UInt8)(r:Nat)(h:l[i]? =some x):JG r (l.take (i+1))=sh8 (JG r (l.take i) ^^^ x.toNat):=by
 rw[List.take_add_one,h,zcO];rfl
theorem zi9 (x y:Nat)(h:x<256):x ^^^ 256*y=x+256*y:=by
 have h1:=Nat.two_pow_add_eq_or_of_lt (i:=8) (b:=x) h y
 have h2:(256*y) ||| x=(256*y) ^^^ x:=by
  apply Nat.eq_of_testBit_eq
  intro i
  rw[Nat.testBit_or,Nat.testBit_xor]
  by_cases hi:i<8
  · have:(256*y).testBit i=false:=by
     rw[show 256*y=2 ^ 8*y by rfl,Nat.testBit_two_pow_mul];simp;omega
    simp[this]
  · have:x.testBit i=false:=Nat.testBit_lt_two_pow (nL h (by calc 256=2 ^ 8:=rfl
     _≤2 ^ i:=Nat.pow_le_pow_right ue0 om1))
    simp[this]
 rw[Nat.xor_comm,←h2]
 rw[show (256:Nat)=2 ^ 8 by rfl,←h1];omega
theorem zgn (r:Nat)(x:UInt8):sh8 (r ^^^ x.toNat)=sh8 (r % 256 ^^^ x.toNat) ^^^ r / 256:=by
 have e:r=r % 256 ^^^ 256*(r / 256):=by rw[zi9 _ _ (Nat.mod_lt _ ue0)];omega
 have e2:r ^^^ x.toNat=(r % 256 ^^^ x.toNat) ^^^ 256*(r / 256):=by
  conv=>lhs;rw[e]
  rw[Nat.xor_assoc,Nat.xor_comm (256*(r / 256)),←Nat.xor_assoc]
 rw[e2]
 show ve 8 _=ve 8 _ ^^^ _
 rw[zeK,show 256*(r / 256)=2 ^ 8*(r / 256) by rfl,zcp]
end Go.Proofs.YtoidedomenkbpaaGreat
namespace Go.Proofs.YtoidedomenkbpaaGreat
open Go.RowKit
open Extern.Stop (cell)
theorem zb2 {w:World}{k:Nat}{o:Obj}(h:w.heap[k]? =some o):k<w.heap.size:=(Array.getElem?_eq_some_iff.1 h).1
theorem zds {w w' :World}{B:Nat}{e:TypeId}{size:Nat}{v:Value}{n:Nat}{xs:List Value}(h:w.ownsRow B e size v n xs)(hk:∀g,v.ownBlock=some g→w'.heap[g]? =w.heap[g]?):w'.ownsRow B e size v n xs:=by
 exact se9
theorem zf7 {w:World}{B:Nat}{e:TypeId}{size:Nat}{v:Value}{n:Nat}{xs:List Value}(h:w.ownsRow B e size v n xs)(g:Nat)(hg:v.ownBlock=some g):B≤g∧g<w.heap.size:=by
 rcases h.2 with ⟨h,_⟩ | ⟨g',cap',cur,hv,hB,hh,_⟩
 · subst h;cases hg
 · subst hv;cases hg;exact⟨hB,zb2 hh⟩
def yQ (B:Nat)(v:Value)(n:Nat)(xs:List Value)(W0 w:World):Prop:=w.ownsRow B 5 1 v n xs∧Below B W0 w∧B≤w.heap.size
theorem yQ.buf {B:Nat}{v:Value}{n:Nat}{xs:List Value}{W0 w:World}(h:yQ B v n xs W0 w):Lib.OwnBuf B 5 v n xs W0 w:=⟨World.ownsRowF_of h.1,h.2⟩
abbrev kL (B:Nat) (v:Value) (bs:List UInt8) (W0 w:World):Prop:=yQ B v bs.length (bs.map cell) W0 w
theorem yQ.below {B:Nat}{v:Value}{n:Nat}{xs:List Value}{W0 w:World}(h:yQ B v n xs W0 w):Below B W0 w:=h.2.1
theorem yQ.alloc {B:Nat}{v:Value}{n:Nat}{xs:List Value}{W0 w:World}(h:yQ B v n xs W0 w)(o:Obj):yQ B v n xs W0 (w.alloc o):=⟨zds h.1 (fun g hg=>BhaQ _ _ _ (zf7 h.1 g hg).2),(Lib.OwnBuf.alloc h.buf o).2⟩
theorem yQ.grown {B:Nat}{v v' :Value}{n n' :Nat}{xs xs' :List Value}{W0 w w' :World}(h:yQ B v n xs W0 w)(ho:w'.ownsRow B 5 1 v' n' xs')(hg:w.grownBy w' v.ownBlock):yQ B v' n' xs' W0 w':=⟨ho,(Lib.OwnBuf.grown h.buf (World.ownsRowF_of ho) hg).2⟩
theorem kL.none (w:World):kL w.heap.size (.slice none 0 0) [] w w:=⟨World.ownsRow_nil _ _ _ _,BrQ _ _,NlrQ _⟩
section
variable {P:Program}
theorem YQ {ops:Array Oper}{rest:List Oper}{o:Oper}{a:Act}{Q:Exit→Act→World→Prop}(hgd:o.guard=none)(s x:Operand)(t:TypeId)
 (ho:o.op= .call { callee:= .builtin .append,args:= #[s,x],argTypes:= #[t,t] })
 (B:Nat) (i:TypeInfo) (ht:P.underlying t=some (.slice 5)) (hi:P.info? 5=some i) (hz:i.zero=some (.int .u8 0)) (hsize:i.size=1) (hby:i.bytes=1)
 (v:Value) (n:Nat) (xs:List Value) (hs:a.eval s=v) (W0 w0:World) (c:Int) (hb:yQ B v n xs W0 w0)
 (g0:Nat) (hg0:g0=w0.heap.size) (hx:a.eval x= .slice (some ⟨g0,0,none⟩) 1 1) (hlen:n+1≤140737488355328)
 (h:∀v' w',yQ B v' (n+1) (xs++[.int .u8 c]) W0 w'→wpList P ops Q rest (a.put o.dst v') w'):wpList P ops Q (o::rest) a (w0.alloc (.cells #[.int .u8 c] 5)):=by
 subst hg0
 have hb':=hb.alloc (.cells #[.int .u8 c] 5)
 exact wpList_append_own _ hgd s x t ho B 5 i (.int .u8 0) 1 1 ht hi hz hsize hby rfl ue0 v n xs hs hb'.1 ⟨w0.heap.size,0,none⟩ 1 1 [.int .u8 c] hx rfl
  (World.news_of_block (cs:= #[.int .u8 c]) (hanQ w0 _)) uc9 ud1 om1 hb'.2.2 fun v' w' ho' hg _=>h v' w' (hb'.grown ho' hg)
theorem Yw {ops:Array Oper}{rest:List Oper}{o:Oper}{a:Act}{Q:Exit→Act→World→Prop}{w:World}(hgd:o.guard=none)(sl x:Operand)(t:TypeId)
 (ho:o.op= .call { callee:= .builtin .append,args:= #[sl,x],argTypes:= #[t,t] })
 (B:Nat) (i:TypeInfo) (ht:P.underlying t=some (.slice 5)) (hi:P.info? 5=some i) (hz:i.zero=some (.int .u8 0)) (hsize:i.size=1) (hby:i.bytes=1)
 (v:Value) (n:Nat) (xs:List Value) (hs:a.eval sl=v) (W0:World) (hb:yQ B v n xs W0 w) (ad:Addr) (c:Nat) (bs:List UInt8) (hx:a.eval x= .slice (some ad) bs.length c) (hc:∀j u,bs[j]? =some u→w.cell? (ad.add j)=some (cell u)) (hlen:n+bs.length≤140737488355328)
 (h:∀v' w',yQ B v' (n+bs.length) (xs++bs.map cell) W0 w'→wpList P ops Q rest (a.put o.dst v') w'):wpList P ops Q (o::rest) a w:=
 wpList_append_own _ hgd sl x t ho B 5 i (.int .u8 0) 1 1 ht hi hz hsize hby rfl ue0 v n xs hs hb.1 ad bs.length c (bs.map cell) hx sp
  (fun j u hj=>by
    rw[List.getElem?_map,Option.map_eq_some_iff] at hj
    obtain⟨y,hy,rfl⟩:=hj
    exact hc j y hy)
  (fun u hu=>by
    obtain⟨y,_,rfl⟩:=List.mem_map.1 hu
    rfl) ud1 om1 hb.2.2 fun v' w' ho' hg _=>h v' w' (hb.grown ho' hg)
end
section
variable {P:Program}
theorem JH (w:World)(base:Nat)(t ty e:TypeId)(i:TypeInfo)(size:Nat)(ht:P.underlying t=some (.slice e))(hi:P.info? e=some i)
 (v:Value) (n:Nat) (xs:List Value) (hown:w.ownsRowF base e size v n xs) (c:Nat):
 (Builtin.append_ #[t,t] ty #[v,.slice none 0 c]).run P w= .ok v w:=by
 rcases hown.2 with ⟨rfl,rfl⟩ | ⟨g,cap,cur,fz,rfl,_,_,_,hnc,_⟩
 · exact ua0
 · exact ua1
theorem Jy {ops:Array Oper}{rest:List Oper}{o:Oper}{a:Act}{Q:Exit→Act→World→Prop}{w:World}(hgd:o.guard=none)(sl x:Operand)(t:TypeId)
 (ho:o.op= .call { callee:= .builtin .append,args:= #[sl,x],argTypes:= #[t,t] })
 (B:Nat) (i:TypeInfo) (ht:P.underlying t=some (.slice 5)) (hi:P.info? 5=some i)
 (v:Value) (n:Nat) (xs:List Value) (hs:a.eval sl=v) (W0:World) (hb:yQ B v n xs W0 w) (c:Nat) (bs:List UInt8) (h0:bs= []) (hx:a.eval x= .slice none bs.length c)
 (h:∀v' w',yQ B v' (n+bs.length) (xs++bs.map cell) W0 w'→wpList P ops Q rest (a.put o.dst v') w'):wpList P ops Q (o::rest) a w:=by
 subst h0
 refine wpList_plain hgd fun K hK=>?_
 have hrun:=JH (P:=P) w B t o.type 5 i 1 ht hi v n xs (World.ownsRowF_of hb.1) c
 unfold Oper.wp
 simp[execOp,ho,resolve,invoke,builtin,hs,hx,hrun,Result.andThen]
 exact hK _ _ (h v w (by simpa using hb))
end
def zgI (B:Nat)(bs:List UInt8)(W0:World)(e:Ending)(w' :World):Prop:=∃v',e= .returned v'∧kL B v' bs W0 w'
theorem Tryz.zfj:(Tryz.prog.info? 5).map (fun i=>(i.size,i.bytes,i.zero))=some (1,1,some (.int .u8 0)):=by kernel_rfl
theorem zc7 {P:Program}{e:TypeId}(h:(P.info? e).map (fun i=>(i.size,i.bytes,i.zero))=some (1,1,some (.int .u8 0))):∃i,P.info? e=some i∧i.zero=some (.int .u8 0)∧i.size=1∧i.bytes=1:=by
 rw[Option.map_eq_some_iff] at h
 obtain⟨i,hi,he⟩:=h
 simp only[Prod.mk.injEq] at he
 exact⟨i,hi,he.2.2,he.1,he.2.1⟩
def zL (w:World)(a:Option Addr)(bs:List UInt8):Prop:=(a=none→bs= [])∧∀ad,a=some ad→∀j u,bs[j]? =some u→w.cell? (ad.add j)=some (cell u)
theorem zL.nil (w:World)(a:Option Addr):zL w a []:=⟨fun _=>rfl,fun _ _ j u h=>by simp at h⟩
theorem zL.take {w:World}{a:Option Addr}{bs:List UInt8}(h:zL w a bs)(n:Nat):zL w a (bs.take n):=
 ⟨fun e=>by rw[h.1 e];simp,fun ad e j u hj=>h.2 ad e j u (by rw[List.getElem?_take] at hj;split at hj;exact hj;cases hj)⟩
theorem zL.kept {w w' :World}{a:Option Addr}{bs:List UInt8}(h:zL w a bs)(hk:∀ad,a=some ad→w'.heap[ad.block]? =w.heap[ad.block]?):zL w' a bs:=
 ⟨h.1,fun ad e j u hj=>by
  have h1:=h.2 ad e j u hj
  exact (World.cell?_of_block (a:=ad.add j) (by have:(ad.add j).block=ad.block:=(by unfold Addr.add;split<;>rfl);rw[this];exact hk ad e)).trans h1⟩
theorem zL.lt {w:World}{ad:Addr}{bs:List UInt8}(h:zL w (some ad) bs)(hb:0<bs.length):ad.block<w.heap.size:=by
 obtain⟨u,hu⟩:∃u,bs[0]? =some u:=⟨bs[0],List.getElem?_eq_getElem hb⟩
 have:=World.block_lt_of_cell? w _ (h.2 ad rfl 0 u hu)
 have e:(ad.add 0).block=ad.block:=by unfold Addr.add;split<;>rfl
 omega
theorem zL.below {w w' :World}{a:Option Addr}{bs:List UInt8}(h:zL w a bs)(hb:Below w.heap.size w w'):zL w' a bs:=by
 by_cases h0:0<bs.length
 · exact h.kept fun ad e=>hb.block _ (by subst e;exact h.lt h0)
 · rw[List.eq_nil_of_length_eq_zero (by omega:bs.length=0)];exact zL.nil _ _
theorem kL.zlx {B:Nat}{v:Value}{bs:List UInt8}{W0 w:World}(h:kL B v bs W0 w):∃a cap,v= .slice a bs.length cap∧zL w a bs∧bs.length≤cap∧(cap:Int)≤9223372036854775807:=by
 have ho:=World.ownsRowF_of h.1
 have hc:=fun g hg=>World.ownsRowF.cells ho (g:=g) hg
 rcases ho.2 with ⟨hv,hn⟩ | ⟨g,cap,cur,fz,hv,_,_,_,h3,h4,_⟩
 · exact⟨Option.none,0,by rw[hv,hn],⟨fun _=>List.eq_nil_of_length_eq_zero hn,fun ad e=>by cases e⟩,by omega,by omega⟩
 · subst hv
   exact⟨_,cap,rfl,⟨fun e=>(by cases e),fun ad e j u hj=>by
    cases e
    exact hc g rfl j _ (by rw[List.getElem?_map,hj];rfl)⟩,h3,by unfold maxLen at h4;omega⟩
theorem zL.text {w:World}{a:Option Addr}{bs:List UInt8}(h:zL w a bs)(cap:Nat):(convert 45 9 (.slice a bs.length cap)).run Tryz.prog w= .ok (.string ⟨bs.toArray⟩) w:=by
 cases a with
 | none=>
   have hb:=h.1 rfl
   subst hb
   show (convert 45 9 (.slice Option.none 0 cap)).run Tryz.prog w=_
   rw[run_convert_bytes_string w _ _ _ Option.none 0 cap Tryz.underlying45 Tryz.underlying5 Tryz.underlying9]
   simp[Conv.bytesToString]
   rfl
 | some ad=>
   exact run_convert_bytes_back w _ _ _ ad cap bs Tryz.underlying45 Tryz.underlying5 Tryz.underlying9 (fun j hj=>h.2 ad rfl j _ (List.getElem?_eq_getElem hj))
end Go.Proofs.YtoidedomenkbpaaGreat
namespace Go.Proofs.YtoidedomenkbpaaGreat
open Go.RowKit
theorem zdR (r:Nat)(h:r<4294967296):bits .and .u32 (r:Int) 1=((r % 2:Nat):Int):=by
 have:=u32_and_nat r 1 h ue0
 rw[nat_mask1] at this
 exact this
theorem zfu (r:Nat)(h:r<4294967296)(ho:r % 2=1):bits .and .u32 (r:Int) 1=1:=by rw[zdR r h,ho];rfl
theorem zdS (r:Nat)(h:r<4294967296)(ho:¬r % 2=1):bits .and .u32 (r:Int) 1=0:=by rw[zdR r h,show r % 2=0 by omega];rfl
theorem zdT (r:Nat)(h:r<4294967296):bits .xor .u32 ((r:Int) / 2) 2197175160=((r / 2 ^^^ 2197175160:Nat):Int):=by
 rw[show (r:Int) / 2=((r / 2:Nat):Int) by omega]
 exact u32_xor_nat _ 2197175160 om1 ue0
def YM (r:Nat)(w:World)(v i:Value)(wr:World):Prop:=∃q k:Nat,v= .int .u32 (q:Int)∧i= .int .i64 (k:Int)∧q<4294967296∧k≤8∧ve (8 - k) q=sh8 r∧w=wr
theorem YM.odd {r q k:Nat}{w:World}(hq:q<4294967296)(hk:k<8)(hs:ve (8 - k) q=sh8 r)(ho:q % 2=1):YM r w (.int .u32 ((q / 2 ^^^ 2197175160:Nat):Int)) (.int .i64 ((k:Int)+1)) w:=by
 refine⟨_,k+1,rfl,by congr 1,?_,by omega,?_,rfl⟩
 · have:=zdH q hq;unfold step1 at this;rw[ipQ ho] at this;exact this
 · rw[show 8 - k=(8 - (k+1))+1 by omega] at hs
   rw[←hs];show _=ve _ (step1 q)
   unfold step1;rw[ipQ ho]
theorem YM.even {r q k:Nat}{w:World}(hq:q<4294967296)(hk:k<8)(hs:ve (8 - k) q=sh8 r)(ho:¬q % 2=1):YM r w (.int .u32 ((q:Int) / 2)) (.int .i64 ((k:Int)+1)) w:=by
 refine⟨q / 2,k+1,by congr 1,by congr 1,by omega,by omega,?_,rfl⟩
 rw[show 8 - k=(8 - (k+1))+1 by omega] at hs
 rw[←hs];show _=ve _ (step1 q)
 unfold step1;rw[inQ ho]
theorem zdE (w:World)(r:Nat)(hr:r<4294967296):
 Calls Tryz.prog 197 #[.int .u32 (r:Int)] w fun e w'=>e= .returned (.int .u32 (sh8 r:Int))∧w=w':=by
 go_enter Tryz.func197,Tryz.ntmps197
 go_wp2_with fail
 go_loopw [0,4] (fun v i wr=>YM r w v i wr) (fun _ i _=>(8 - intOf i).toNat)
 case atStart=>exact⟨r,0,rfl,rfl,hr,by omega,rfl,rfl⟩
 case round=>
  obtain⟨q,k,rfl,rfl,hq,hk,hs,rfl⟩:=hrel
  by_cases hlt:k<8
  · by_cases ho:q % 2=1
    · have H:=hH (YM.odd (w:=w) hq hlt hs ho)
      have e1:=zfu q hq ho
      have e2:=zdT q hq
      clear hs ho
      go_wp2_with fail
      exact⟨H.out,by simp[intOf];omega⟩
    · have H:=hH (YM.even (w:=w) hq hlt hs ho)
      have e1:=zdS q hq ho
      clear hs ho
      go_wp2_with fail
      exact⟨H.out,by simp[intOf];omega⟩
  · have hk8:k=8:=by omega
    subst hk8
    have H:=hH hs
    clear hlt hs hk
    go_wp2_with fail
    go_ret
    have:=H.out
    simp only[Nat.sub_self,ve] at this
    exact⟨by rw[this];rfl,rfl⟩
def TabAt (w:World)(tb:Nat):Prop:=∃cs:Array Value,w.heap[tb]? =some (.cells cs 223 (0,0))∧cs.size=256∧∀x:Nat,x<256→cs[x]? =some (.int .u32 0)∨cs[x]? =some (.int .u32 (sh8 x:Int))
structure zfE (w:World) (tb:Nat) (x:Nat) (e:Ending) (w' :World):Prop where
 ret:e= .returned (.int .u32 (sh8 x:Int))
 tab:TabAt w' tb
 os:w'.os=w.os
 tape:w'.tape=w.tape
 output:w'.output=w.output
 size:w'.heap.size=w.heap.size
 block:∀k,k≠tb→w'.heap[k]? =w.heap[k]?
theorem TabAt.made {w:World}{tb:Nat}(h:TabAt w tb)(x:Nat)(hx:x<256):zfE w tb x (.returned (.int .u32 (sh8 x:Int))) (w.setCell ⟨tb,x,none⟩ (.int .u32 (sh8 x:Int))):=by
 obtain⟨cs,h1,h2,h3⟩:=h
 refine⟨rfl,⟨cs.set! x (.int .u32 (sh8 x:Int)),hssQ w tb x _ _ _ h1,by simp[h2],fun y hy=>?_⟩,rfl,rfl,rfl,by simp[World.setCell],fun k hk=>BhsQ _ _ _ _ hk⟩
 by_cases he:y=x
 · subst he
   exact Or.inr (by simp[h2,hy])
 · rw[show (cs.set! x (.int .u32 (sh8 x:Int)))[y]? =cs[y]? by simp[Ne.symm he]]
   exact h3 y hy
theorem zgj (w:World)(tb x:Nat)(hx:x<256)(h:TabAt w tb):
 Calls Tryz.prog 196 #[.int .u8 (x:Int),.pointer (some ⟨tb,0,none⟩)] w (zfE w tb x):=by
 have HM:=hH (h.made x hx)
 have HS:=hH (zdE w x om1)
 obtain⟨cs,h1,h2,h3⟩:=h
 have hc:=corQ w tb x _ _ _ h1
 have hf:=forQ w tb x _ _ h1
 have HT:=hH (aN h1 (aN h2 h3))
 rcases h3 x hx with h4 | h4
 · rw[h4] at hc
   clear h1 h2 h3 h4
   go_enter Tryz.func196,Tryz.ntmps196
   go_wp2_with (go_at_call 197;refine HS.out.mono ?_;clear HS;rintro e w1 ⟨rfl,rfl⟩)
   go_ret
   exact HM.out
 · rw [h4] at hc
   clear h1 h2 h3 h4
   go_enter Tryz.func196,Tryz.ntmps196
   go_wp2_with (go_at_call 197;refine HS.out.mono ?_;clear HS;rintro e w1 ⟨rfl,rfl⟩)
   · go_ret
     exact HM.out
   · go_ret
     exact⟨rfl,⟨cs,HT.out.1,HT.out.2.1,HT.out.2.2⟩,rfl,rfl,rfl,rfl,fun _ _=>rfl⟩
theorem Tryz.zjb (w:World):(zeroValue 223).run Tryz.prog w= .ok (.agg (Array.replicate 256 (.int .u32 0))) w:=by kernel_rfl
def zkK (w:World)(e:Ending)(w' :World):Prop:=e= .returned (.func (.func 196) #[] #[.pointer (some ⟨w.heap.size,0,none⟩)])∧TabAt w' w.heap.size∧Below w.heap.size w w'∧w'.heap.size=w.heap.size+1
theorem zgt (w:World):Calls Tryz.prog 177 #[] w (zkK w):=by
 have hmf:∀(fn:Fn) (first cap:Array Value) (w:World),(Instr.makeFunc fn first cap).run Tryz.prog w= .ok (.func fn first cap) w:=fun _ _ _ _=>rfl
 obtain⟨z,hz,h1⟩:∃z,(∀w,(zeroValue 223).run Tryz.prog w= .ok (.agg z) w)∧z=Array.replicate 256 (.int .u32 0):=⟨_,Tryz.zjb,rfl⟩
 have H:=hH h1
 clear h1
 go_enter Tryz.func177,Tryz.ntmps177
 go_wp2_with fail
 go_ret
 refine⟨rfl,⟨z,hanQ w _,by rw[H.out];simp,fun x hx=>Or.inl (by rw[H.out];simp[hx])⟩,(BrQ _ _).alloc (NlrQ _) _,by simp⟩
end Go.Proofs.YtoidedomenkbpaaGreat
namespace Go.Proofs.YtoidedomenkbpaaGreat
open Go.RowKit
open Extern.Stop (cell)
theorem JN (s:Nat)(h:s<4294967296):bits .xor .u32 IntKind.u32.max (s:Int)=((4294967295 - s:Nat):Int):=by
 rw[show IntKind.u32.max=((4294967295:Nat):Int) by rfl,u32_xor_nat 4294967295 s ue0 h]
 congr 1
 have h1:(BitVec.ofNat 32 s).toNat=s:=by simp;omega
 have h2:=BitVec.toNat_not (x:=BitVec.ofNat 32 s)
 have h3: ~~~ (BitVec.ofNat 32 s)=BitVec.allOnes 32 ^^^ BitVec.ofNat 32 s:=by rw[BitVec.allOnes_xor]
 rw[h3,BitVec.toNat_xor,h1] at h2
 exact h2
theorem ziO (q:Nat)(x:UInt8):bits .xor .u8 ((q:Int) % 256) (x.toNat:Int)=((q % 256 ^^^ x.toNat:Nat):Int):=by
 rw[show (q:Int) % 256=((q % 256:Nat):Int) by omega]
 exact u8_xor_nat _ _ om1 (YA x)
theorem ziN (t q:Nat)(ht:t<4294967296)(hq:q<4294967296):bits .xor .u32 (t:Int) ((q:Int) / 256)=((t ^^^ q / 256:Nat):Int):=by
 rw[show (q:Int) / 256=((q / 256:Nat):Int) by omega]
 exact u32_xor_nat _ _ ht om1
theorem zfE.below {w w' :World}{tb x:Nat}{e:Ending}(h:zfE w tb x e w'){B:Nat}(hB:B≤tb):Below B w w':=
 ⟨h.os,h.tape,h.output,by rw[h.size];exact NlrQ _,fun k hk=>h.block k om1⟩
theorem zfE.parts {w w' :World}{tb x:Nat}{e:Ending}(h:zfE w tb x e w'):e= .returned (.int .u32 (sh8 x:Int))∧TabAt w' tb∧Below tb w w':=⟨h.ret,h.tab,h.below (NlrQ _)⟩
def zh9 (w:World)(tb s:Nat)(bs:List UInt8)(v i:Value)(wr:World):Prop:=∃k:Nat,k≤bs.length∧v= .int .u32 (JG (4294967295 - s) (bs.take k):Int)∧i= .int .i64 (k:Int)∧Below tb w wr∧TabAt wr tb∧tb=w.heap.size
def zgG (w:World)(n:Nat)(e:Ending)(w' :World):Prop:=e= .returned (.int .u32 (n:Int))∧Below w.heap.size w w'
theorem zhf (w:World)(s:Nat)(hs:s<4294967296)(a:Option Addr)(cap:Nat)(bs:List UInt8)(h:zL w a bs)(hl:bs.length≤1000000000000):
 Calls Tryz.prog 154 #[.int .u32 (s:Int),.slice a bs.length cap] w (zgG w (Ym s bs)):=by
 have HT:=hH (zgt w)
 have e0:=JN s hs
 have HB:=hH h
 clear h
 go_enter Tryz.func154,Tryz.ntmps154
 go_wp2_with (go_at_call 177;refine HT.out.mono ?_;clear HT;rintro e w1 ⟨rfl,h1,h2,_⟩;have H1:=hH (aN h1 h2);clear h1 h2)
 clear e0
 have HW:=hH (rfl:w.heap.size=w.heap.size)
 go_loopw [6,14] (fun v i wr=>zh9 w w.heap.size s bs v i wr) (fun _ i _=>(bs.length - intOf i).toNat)
 case atStart=>exact⟨0,NzlQ _,rfl,rfl,H1.out.2,H1.out.1,rfl⟩
 case round=>
  obtain⟨k,hk,rfl,rfl,hb,ht, -⟩:=hrel
  have HK:=hH (aN hb ht)
  obtain⟨q,hq⟩:∃q,q=JG (4294967295 - s) (bs.take k):=⟨_,rfl⟩
  have hql:q<4294967296:=by rw[hq];exact ze7 _ _ om1
  rw[←hq]
  have HQ:=hH hq
  clear hb ht hq
  by_cases hlt:k<bs.length
  · obtain⟨x,hx⟩:∃x,bs[k]? =some x:=⟨bs[k],List.getElem?_eq_getElem hlt⟩
    cases a with
    | none=>have:=HB.out.1 rfl;subst this;simp at hlt
    | some ad=>
      have hadl:=HB.out.lt om1
      have hc:wr.cell? (ad.add k)=some (.int .u8 (x.toNat:Int)):=(HB.out.kept (w':=wr) (fun ad' e=>by cases e;exact HK.out.1.block _ hadl)).2 ad rfl k x hx
      have e1:=ziO q x
      have HR:=hH (zgj wr w.heap.size (q % 256 ^^^ x.toNat) (Nat.xor_lt_two_pow (n:=8) om1 (YA x)) HK.out.2)
      have e2:=ziN (sh8 (q % 256 ^^^ x.toNat)) q (zhN _ (zh4 _ _ om1 (by have:=YA x;omega))) hql
      have HX:=hH hx
      clear hx
      go_wp2_with (go_at_call 196;refine HR.out.mono ?_;clear HR;rintro e w2 h2;obtain⟨rfl,h3,h4⟩:=h2.parts;have H2:=hH (aN h3 h4);clear h2 h3 h4)
      refine⟨⟨k+1,by omega,?_,by congr 1,HK.out.1.trans H2.out.2,H2.out.1,rfl⟩,by simp[intOf];omega⟩
      rw[zbf _ _ _ _ HX.out,←HQ.out,zgn q]
  · have hke:k=bs.length:=by omega
    subst hke
    have e0:=JN q hql
    go_wp2_with fail
    go_ret
    refine⟨?_,HK.out.1⟩
    have e1:Ym s bs=4294967295 - q:=by rw[HQ.out,List.take_length];rfl
    rw[e1];rfl
theorem zgr (w:World)(a:Option Addr)(cap:Nat)(bs:List UInt8)(h:zL w a bs)(hl:bs.length≤1000000000000):
 Calls Tryz.prog 115 #[.slice a bs.length cap] w (zgG w (Ym 0 bs)):=by
 have H:=hH (zhf w 0 ue0 a cap bs h hl)
 clear h
 go_enter Tryz.func115,Tryz.ntmps115
 go_wp2_with (go_at_call 154;refine H.out.mono ?_;clear H;rintro e w1 ⟨rfl,h1⟩)
 go_ret
 exact⟨rfl,h1⟩
theorem zhU (q:Nat)(x:UInt8)(hq:q<4294967296):bits .xor .u32 (q:Int) ((x.toNat:Int) % 4294967296)=((q ^^^ x.toNat:Nat):Int):=by
 have hb:=YA x
 rw[show (x.toNat:Int) % 4294967296=(x.toNat:Int) by omega]
 exact u32_xor_nat _ _ hq om1
def zgC (r:Nat)(w:World)(v i:Value)(wr:World):Prop:=YM r w v i wr
def zjC (w:World)(s:Nat)(bs:List UInt8)(v i:Value)(wr:World):Prop:=∃k:Nat,k≤bs.length∧v= .int .u32 (JG (4294967295 - s) (bs.take k):Int)∧i= .int .i64 (k:Int)∧w=wr
theorem zdv (w:World)(s:Nat)(hs:s<4294967296)(a:Option Addr)(cap:Nat)(bs:List UInt8)(h:zL w a bs)(hl:bs.length≤1000000000000):
 Calls Tryz.prog 155 #[.int .u32 (s:Int),.slice a bs.length cap] w fun e w'=>e= .returned (.int .u32 (Ym s bs:Int))∧w=w':=by
 have e0:=JN s hs
 have HB:=hH h
 clear h
 go_enter Tryz.func155,Tryz.ntmps155
 go_wp2_with fail
 clear e0
 go_loopw [5,6] (fun v i wr=>zjC w s bs v i wr) (fun _ i _=>(bs.length - intOf i).toNat)
 case atStart=>exact⟨0,NzlQ _,rfl,rfl,rfl⟩
 case round =>
  obtain⟨k,hk,rfl,rfl,rfl⟩:=hrel
  obtain⟨q,hq⟩:∃q,q=JG (4294967295 - s) (bs.take k):=⟨_,rfl⟩
  have hql:q<4294967296:=by rw[hq];exact ze7 _ _ om1
  rw[←hq]
  have HQ:=hH hq
  clear hq
  by_cases hlt:k<bs.length
  · obtain ⟨x,hx⟩:∃x,bs[k]? =some x:=⟨bs[k],List.getElem?_eq_getElem hlt⟩
    cases a with
    | none=>have:=HB.out.1 rfl;subst this;simp at hlt
    | some ad=>
      have hc:w.cell? (ad.add k)=some (.int .u8 (x.toNat:Int)):=HB.out.2 ad rfl k x hx
      have e1:=zhU q x hql
      have HX:=hH hx
      have hr:=zh4 q x.toNat hql (by have:=YA x;omega)
      obtain⟨r,hre⟩:∃r,r=q ^^^ x.toNat:=⟨_,rfl⟩
      rw[←hre] at e1 hr
      have HR:=hH hre
      clear hx hre
      go_wp2_with fail
      clear e1 hc
      go_loopw [5,7] (fun v i wr=>zgC r w v i wr) (fun _ i _=>(8 - intOf i).toNat)
      case atStart=>exact⟨r,0,rfl,rfl,hr,by omega,rfl,rfl⟩
      case round=>
       obtain⟨q2,j,rfl,rfl,hq2,hj,hs2,rfl⟩:=hrel
       by_cases hlt2:j<8
       · by_cases ho:q2 % 2=1
         · have H:=hH (YM.odd (w:=w) hq2 hlt2 hs2 ho)
           have e1:=zfu q2 hq2 ho
           have e2:=zdT q2 hq2
           clear hs2 ho
           go_wp2_with fail
           exact⟨H.out,by simp[intOf];omega⟩
         · have H:=hH (YM.even (w:=w) hq2 hlt2 hs2 ho)
           have e1:=zdS q2 hq2 ho
           clear hs2 ho
           go_wp2_with fail
           exact⟨H.out,by simp[intOf];omega⟩
       · have hj8:j=8:=by omega
         subst hj8
         have H:=hH hs2
         clear hlt2 hs2 hj
         go_wp2_with fail
         have h1:=H.out
         simp only[Nat.sub_self,ve] at h1
         refine⟨⟨k+1,by omega,?_,by congr 1,rfl⟩,by simp[intOf];omega⟩
         rw[zbf _ _ _ _ HX.out,←HQ.out,←HR.out,h1]
  · have hke:k=bs.length:=by omega
    subst hke
    have e0:=JN q hql
    go_wp2_with fail
    go_ret
    refine⟨?_,rfl⟩
    have e1:Ym s bs=4294967295 - q:=by rw[HQ.out,List.take_length];rfl
    rw[e1];rfl
theorem zeD (w:World)(a:Option Addr)(cap:Nat)(bs:List UInt8)(h:zL w a bs)(hl:bs.length≤1000000000000):
 Calls Tryz.prog 118 #[.slice a bs.length cap] w fun e w'=>e= .returned (.int .u32 (Ym 0 bs:Int))∧w=w':=by
 have H:=hH (zdv w 0 ue0 a cap bs h hl)
 clear h
 go_enter Tryz.func118,Tryz.ntmps118
 go_wp2_with (go_at_call 155;refine H.out.mono ?_;clear H;rintro e w1 ⟨rfl,rfl⟩)
 go_ret
 exact⟨rfl,rfl⟩
end Go.Proofs.YtoidedomenkbpaaGreat
