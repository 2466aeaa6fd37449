/-
  .
-/
import Derived.Test.YtoidedomenkbpaaGreatWRPl6Qr
set_option maxRecDepth 100000
set_option maxHeartbeats 40000000
set_option linter.unusedVariables false
set_option linter.unusedSimpArgs false
namespace Go.Proofs.YtoidedomenkbpaaGreat
def step1 (r:Nat):Nat:=if r % 2=1 then (r / 2) ^^^ 2197175160 else r / 2
def qx:Nat→Nat→Nat
 | 0,r=>r
 | k+1,r=>qx k (step1 r)
def sh8 (r:Nat):Nat:=qx 8 r
def Y9 (r:Nat)(bs:List UInt8):Nat:=bs.foldl (fun r x=>sh8 (r ^^^ x.toNat)) r
def kV (s:Nat)(bs:List UInt8):Nat:=4294967295 - Y9 (4294967295 - s) bs
theorem zfR (a b:Nat):(a ^^^ b) / 2=a / 2 ^^^ b / 2:=by
 have:=Nat.shiftRight_xor_distrib (a:=a) (b:=b) (i:=1)
 simpa [Nat.shiftRight_eq_div_pow] using this
theorem zgX (a b:Nat):(a ^^^ b) % 2=(a+b) % 2:=by
 have h0:=Nat.testBit_xor a b 0
 simp only[Nat.testBit_zero] at h0
 have ha:a % 2=0∨a % 2=1:=by omega
 have hb:b % 2=0∨b % 2=1:=by omega
 have hx:(a ^^^ b) % 2=0∨(a ^^^ b) % 2=1:=by omega
 rcases ha with ha | ha<;>rcases hb with hb | hb<;>rcases hx with hx | hx<;>simp[ha,hb,hx] at h0<;>omega
theorem zeq (a b:Nat):step1 (a ^^^ b)=step1 a ^^^ step1 b:=by
 unfold step1
 rw[zgX,zfR]
 have ha:a % 2=0∨a % 2=1:=by omega
 have hb:b % 2=0∨b % 2=1:=by omega
 generalize 2197175160=p
 rcases ha with ha | ha<;>rcases hb with hb | hb
 · rw[inQ om,inQ om,inQ om]
 · rw[ipQ om,inQ om,ipQ om,Nat.xor_assoc]
 · rw[ipQ om,ipQ om,inQ om,Nat.xor_assoc,Nat.xor_comm (b / 2) p,←Nat.xor_assoc]
 · rw[inQ om,ipQ om,ipQ om,Nat.xor_assoc,Nat.xor_comm p,Nat.xor_assoc,Nat.xor_self,Nat.xor_zero]
theorem zcO (k:Nat):∀a b,qx k (a ^^^ b)=qx k a ^^^ qx k b:=by
 induction k with
 | zero=>intro a b;rfl
 | succ k ih=>intro a b;show qx k (step1 _)=_;rw[zeq,ih];rfl
theorem zaq (k:Nat):step1 (2*k)=k:=by
 unfold step1
 rw[inQ om];omega
theorem zar (j:Nat):∀k,qx j (2 ^ j*k)=k:=by
 induction j with
 | zero=>intro k;simp[qx]
 | succ j ih=>intro k;show qx j (step1 _)=_;rw[show 2 ^ (j+1)*k=2*(2 ^ j*k) by rw[Nat.pow_succ,Nat.mul_comm (2 ^ j) 2,Nat.mul_assoc],zaq,ih]
theorem zbO (r:Nat)(h:r<4294967296):step1 r<4294967296:=by
 unfold step1
 split
 · exact Nat.xor_lt_two_pow (n:=32) om om
 · omega
theorem zer (k:Nat):∀r,r<4294967296→qx k r<4294967296:=by
 induction k with
 | zero=>intro r h;exact h
 | succ k ih=>intro r h;exact ih _ (zbO r h)
theorem zfq (r:Nat)(h:r<4294967296):sh8 r<4294967296:=zer 8 r h
theorem Zl (x:UInt8):x.toNat<256:=x.toNat_lt
theorem zfQ (a b:Nat)(ha:a<4294967296)(hb:b<4294967296):a ^^^ b<4294967296:=Nat.xor_lt_two_pow (n:=32) ha hb
theorem zc0 (bs:List UInt8):∀r,r<4294967296→Y9 r bs<4294967296:=by
 induction bs with
 | nil=>intro r h;exact h
 | cons x bs ih=>intro r h;exact ih _ (zfq _ (zfQ _ _ h (by have:=Zl x;omega)))
theorem zaS (a b:List UInt8)(r:Nat):Y9 r (a++b)=Y9 (Y9 r a) b:=by simp[Y9,List.foldl_append]
theorem Jt (l:List UInt8)(i:Nat)(x:UInt8)(r:Nat)(h:l[i]? =some x):Y9 r (l.take (i+1))=sh8 (Y9 r (l.take i) ^^^ x.toNat):=by
 rw[List.take_add_one,h,zaS];rfl
theorem zgW (x y:Nat)(h:x<256):x ^^^ 256*y=x+256*y:=by
 have h1:=Nat.two_pow_add_eq_or_of_lt (i:=8) (b:=x) h y
 have h2:(256*y) ||| x=(256*y) ^^^ x:=by
  apply Nat.eq_of_testBit_eq
  intro i
  rw[Nat.testBit_or,Nat.testBit_xor]
  by_cases hi:i<8
  · have:(256*y).testBit i=false:=by
     rw[show 256*y=2 ^ 8*y by rfl,Nat.testBit_two_pow_mul];simp;omega
    simp[this]
  · have:x.testBit i=false:=Nat.testBit_lt_two_pow (nL h (by calc 256=2 ^ 8:=rfl
     _≤2 ^ i:=Nat.pow_le_pow_right ue3 om))
    simp[this]
 rw[Nat.xor_comm,←h2]
 rw[show (256:Nat)=2 ^ 8 by rfl,←h1];omega
theorem zeo (r:Nat)(x:UInt8):sh8 (r ^^^ x.toNat)=sh8 (r % 256 ^^^ x.toNat) ^^^ r / 256:=by
 have e:r=r % 256 ^^^ 256*(r / 256):=by rw[zgW _ _ (Nat.mod_lt _ ue3)];omega
 have e2:r ^^^ x.toNat=(r % 256 ^^^ x.toNat) ^^^ 256*(r / 256):=by
  conv=>lhs;rw[e]
  rw[Nat.xor_assoc,Nat.xor_comm (256*(r / 256)),←Nat.xor_assoc]
 rw[e2]
 show qx 8 _=qx 8 _ ^^^ _
 rw[zcO,show 256*(r / 256)=2 ^ 8*(r / 256) by rfl,zar]
end Go.Proofs.YtoidedomenkbpaaGreat
namespace Go.Proofs.YtoidedomenkbpaaGreat
open Go.RowKit
open Extern.Stop (cell)
theorem J9 {w:World}{k:Nat}{o:Obj}(h:w.heap[k]? =some o):k<w.heap.size:=(Array.getElem?_eq_some_iff.1 h).1
theorem zbw {w w' :World}{B:Nat}{e:TypeId}{size:Nat}{v:Value}{n:Nat}{xs:List Value}(h:w.ownsRow B e size v n xs)(hk:∀g,v.ownBlock=some g→w'.heap[g]? =w.heap[g]?):w'.ownsRow B e size v n xs:=by
 exact sg3
theorem zd2 {w:World}{B:Nat}{e:TypeId}{size:Nat}{v:Value}{n:Nat}{xs:List Value}(h:w.ownsRow B e size v n xs)(g:Nat)(hg:v.ownBlock=some g):B≤g∧g<w.heap.size:=by
 rcases h.2 with ⟨h,_⟩ | ⟨g',cap',cur,hv,hB,hh,_⟩
 · subst h;cases hg
 · subst hv;cases hg;exact⟨hB,J9 hh⟩
def yC (B:Nat)(v:Value)(n:Nat)(xs:List Value)(W0 w:World):Prop:=w.ownsRow B 5 1 v n xs∧Below B W0 w∧B≤w.heap.size
theorem yC.buf {B:Nat}{v:Value}{n:Nat}{xs:List Value}{W0 w:World}(h:yC B v n xs W0 w):Lib.OwnBuf B 5 v n xs W0 w:=⟨World.ownsRowF_of h.1,h.2⟩
abbrev vS (B:Nat) (v:Value) (bs:List UInt8) (W0 w:World):Prop:=yC B v bs.length (bs.map cell) W0 w
theorem yC.below {B:Nat}{v:Value}{n:Nat}{xs:List Value}{W0 w:World}(h:yC B v n xs W0 w):Below B W0 w:=h.2.1
theorem yC.alloc {B:Nat}{v:Value}{n:Nat}{xs:List Value}{W0 w:World}(h:yC B v n xs W0 w)(o:Obj):yC B v n xs W0 (w.alloc o):=⟨zbw h.1 (fun g hg=>BhaQ _ _ _ (zd2 h.1 g hg).2),(Lib.OwnBuf.alloc h.buf o).2⟩
theorem yC.grown {B:Nat}{v v' :Value}{n n' :Nat}{xs xs' :List Value}{W0 w w' :World}(h:yC B v n xs W0 w)(ho:w'.ownsRow B 5 1 v' n' xs')(hg:w.grownBy w' v.ownBlock):yC B v' n' xs' W0 w':=⟨ho,(Lib.OwnBuf.grown h.buf (World.ownsRowF_of ho) hg).2⟩
theorem vS.none (w:World):vS w.heap.size (.slice none 0 0) [] w w:=⟨World.ownsRow_nil _ _ _ _,BrQ _ _,NlrQ _⟩
section
variable {P:Program}
theorem ZH {ops:Array Oper}{rest:List Oper}{o:Oper}{a:Act}{Q:Exit→Act→World→Prop}(hgd:o.guard=none)(s x:Operand)(t:TypeId)
 (ho:o.op= .call { callee:= .builtin .append,args:= #[s,x],argTypes:= #[t,t] })
 (B:Nat) (i:TypeInfo) (ht:P.underlying t=some (.slice 5)) (hi:P.info? 5=some i) (hz:i.zero=some (.int .u8 0)) (hsize:i.size=1) (hby:i.bytes=1)
 (v:Value) (n:Nat) (xs:List Value) (hs:a.eval s=v) (W0 w0:World) (c:Int) (hb:yC B v n xs W0 w0)
 (g0:Nat) (hg0:g0=w0.heap.size) (hx:a.eval x= .slice (some ⟨g0,0,none⟩) 1 1) (hlen:n+1≤140737488355328)
 (h:∀v' w',yC B v' (n+1) (xs++[.int .u8 c]) W0 w'→wpList P ops Q rest (a.put o.dst v') w'):wpList P ops Q (o::rest) a (w0.alloc (.cells #[.int .u8 c] 5)):=by
 subst hg0
 have hb':=hb.alloc (.cells #[.int .u8 c] 5)
 exact wpList_append_own _ hgd s x t ho B 5 i (.int .u8 0) 1 1 ht hi hz hsize hby rfl ue3 v n xs hs hb'.1 ⟨w0.heap.size,0,none⟩ 1 1 [.int .u8 c] hx rfl
  (World.news_of_block (cs:= #[.int .u8 c]) (hanQ w0 _)) ud1 ud2 om hb'.2.2 fun v' w' ho' hg _=>h v' w' (hb'.grown ho' hg)
theorem Zh {ops:Array Oper}{rest:List Oper}{o:Oper}{a:Act}{Q:Exit→Act→World→Prop}{w:World}(hgd:o.guard=none)(sl x:Operand)(t:TypeId)
 (ho:o.op= .call { callee:= .builtin .append,args:= #[sl,x],argTypes:= #[t,t] })
 (B:Nat) (i:TypeInfo) (ht:P.underlying t=some (.slice 5)) (hi:P.info? 5=some i) (hz:i.zero=some (.int .u8 0)) (hsize:i.size=1) (hby:i.bytes=1)
 (v:Value) (n:Nat) (xs:List Value) (hs:a.eval sl=v) (W0:World) (hb:yC B v n xs W0 w) (ad:Addr) (c:Nat) (bs:List UInt8) (hx:a.eval x= .slice (some ad) bs.length c) (hc:∀j u,bs[j]? =some u→w.cell? (ad.add j)=some (cell u)) (hlen:n+bs.length≤140737488355328)
 (h:∀v' w',yC B v' (n+bs.length) (xs++bs.map cell) W0 w'→wpList P ops Q rest (a.put o.dst v') w'):wpList P ops Q (o::rest) a w:=
 wpList_append_own _ hgd sl x t ho B 5 i (.int .u8 0) 1 1 ht hi hz hsize hby rfl ue3 v n xs hs hb.1 ad bs.length c (bs.map cell) hx sp1
  (fun j u hj=>by
    rw[List.getElem?_map,Option.map_eq_some_iff] at hj
    obtain⟨y,hy,rfl⟩:=hj
    exact hc j y hy)
  (fun u hu=>by
    obtain⟨y,_,rfl⟩:=List.mem_map.1 hu
    rfl) ud2 om hb.2.2 fun v' w' ho' hg _=>h v' w' (hb.grown ho' hg)
end
section
variable {P:Program}
theorem Qa (w:World)(base:Nat)(t ty e:TypeId)(i:TypeInfo)(size:Nat)(ht:P.underlying t=some (.slice e))(hi:P.info? e=some i)
 (v:Value) (n:Nat) (xs:List Value) (hown:w.ownsRowF base e size v n xs) (c:Nat):
 (Builtin.append_ #[t,t] ty #[v,.slice none 0 c]).run P w= .ok v w:=by
 rcases hown.2 with ⟨rfl,rfl⟩ | ⟨g,cap,cur,fz,rfl,_,_,_,hnc,_⟩
 · exact ua0
 · exact ua1
theorem YX {ops:Array Oper}{rest:List Oper}{o:Oper}{a:Act}{Q:Exit→Act→World→Prop}{w:World}(hgd:o.guard=none)(sl x:Operand)(t:TypeId)
 (ho:o.op= .call { callee:= .builtin .append,args:= #[sl,x],argTypes:= #[t,t] })
 (B:Nat) (i:TypeInfo) (ht:P.underlying t=some (.slice 5)) (hi:P.info? 5=some i)
 (v:Value) (n:Nat) (xs:List Value) (hs:a.eval sl=v) (W0:World) (hb:yC B v n xs W0 w) (c:Nat) (bs:List UInt8) (h0:bs= []) (hx:a.eval x= .slice none bs.length c)
 (h:∀v' w',yC B v' (n+bs.length) (xs++bs.map cell) W0 w'→wpList P ops Q rest (a.put o.dst v') w'):wpList P ops Q (o::rest) a w:=by
 subst h0
 refine wpList_plain hgd fun K hK=>?_
 have hrun:=Qa (P:=P) w B t o.type 5 i 1 ht hi v n xs (World.ownsRowF_of hb.1) c
 unfold Oper.wp
 simp[execOp,ho,resolve,invoke,builtin,hs,hx,hrun,Result.andThen]
 exact hK _ _ (h v w (by simpa using hb))
end
def zeF (B:Nat)(bs:List UInt8)(W0:World)(e:Ending)(w' :World):Prop:=∃v',e= .returned v'∧vS B v' bs W0 w'
theorem Tryz.zc8:(Tryz.prog.info? 5).map (fun i=>(i.size,i.bytes,i.zero))=some (1,1,some (.int .u8 0)):=by kernel_rfl
theorem za9 {P:Program}{e:TypeId}(h:(P.info? e).map (fun i=>(i.size,i.bytes,i.zero))=some (1,1,some (.int .u8 0))):∃i,P.info? e=some i∧i.zero=some (.int .u8 0)∧i.size=1∧i.bytes=1:=by
 rw[Option.map_eq_some_iff] at h
 obtain⟨i,hi,he⟩:=h
 simp only[Prod.mk.injEq] at he
 exact⟨i,hi,he.2.2,he.1,he.2.1⟩
def zW (w:World)(a:Option Addr)(bs:List UInt8):Prop:=(a=none→bs= [])∧∀ad,a=some ad→∀j u,bs[j]? =some u→w.cell? (ad.add j)=some (cell u)
theorem zW.nil (w:World)(a:Option Addr):zW w a []:=⟨fun _=>rfl,fun _ _ j u h=>by simp at h⟩
theorem zW.take {w:World}{a:Option Addr}{bs:List UInt8}(h:zW w a bs)(n:Nat):zW w a (bs.take n):=
 ⟨fun e=>by rw[h.1 e];simp,fun ad e j u hj=>h.2 ad e j u (by rw[List.getElem?_take] at hj;split at hj;exact hj;cases hj)⟩
theorem zW.kept {w w' :World}{a:Option Addr}{bs:List UInt8}(h:zW w a bs)(hk:∀ad,a=some ad→w'.heap[ad.block]? =w.heap[ad.block]?):zW w' a bs:=
 ⟨h.1,fun ad e j u hj=>by
  have h1:=h.2 ad e j u hj
  exact (World.cell?_of_block (a:=ad.add j) (by have:(ad.add j).block=ad.block:=(by unfold Addr.add;split<;>rfl);rw[this];exact hk ad e)).trans h1⟩
theorem zW.lt {w:World}{ad:Addr}{bs:List UInt8}(h:zW w (some ad) bs)(hb:0<bs.length):ad.block<w.heap.size:=by
 obtain⟨u,hu⟩:∃u,bs[0]? =some u:=⟨bs[0],List.getElem?_eq_getElem hb⟩
 have:=World.block_lt_of_cell? w _ (h.2 ad rfl 0 u hu)
 have e:(ad.add 0).block=ad.block:=by unfold Addr.add;split<;>rfl
 omega
theorem zW.below {w w' :World}{a:Option Addr}{bs:List UInt8}(h:zW w a bs)(hb:Below w.heap.size w w'):zW w' a bs:=by
 by_cases h0:0<bs.length
 · exact h.kept fun ad e=>hb.block _ (by subst e;exact h.lt h0)
 · rw[List.eq_nil_of_length_eq_zero (by omega:bs.length=0)];exact zW.nil _ _
theorem vS.zfX {B:Nat}{v:Value}{bs:List UInt8}{W0 w:World}(h:vS B v bs W0 w):∃a cap,v= .slice a bs.length cap∧zW w a bs∧bs.length≤cap∧(cap:Int)≤9223372036854775807:=by
 have ho:=World.ownsRowF_of h.1
 have hc:=fun g hg=>World.ownsRowF.cells ho (g:=g) hg
 rcases ho.2 with ⟨hv,hn⟩ | ⟨g,cap,cur,fz,hv,_,_,_,h3,h4,_⟩
 · exact⟨Option.none,0,by rw[hv,hn],⟨fun _=>List.eq_nil_of_length_eq_zero hn,fun ad e=>by cases e⟩,by omega,by omega⟩
 · subst hv
   exact⟨_,cap,rfl,⟨fun e=>(by cases e),fun ad e j u hj=>by
    cases e
    exact hc g rfl j _ ub9⟩,h3,by unfold maxLen at h4;omega⟩
theorem zW.text {w:World}{a:Option Addr}{bs:List UInt8}(h:zW w a bs)(cap:Nat):(convert 45 9 (.slice a bs.length cap)).run Tryz.prog w= .ok (.string ⟨bs.toArray⟩) w:=by
 cases a with
 | none=>
   have hb:=h.1 rfl
   subst hb
   show (convert 45 9 (.slice Option.none 0 cap)).run Tryz.prog w=_
   rw[run_convert_bytes_string w _ _ _ Option.none 0 cap Tryz.underlying45 Tryz.underlying5 Tryz.underlying9]
   simp[Conv.bytesToString]
   rfl
 | some ad=>
   exact run_convert_bytes_back w _ _ _ ad cap bs Tryz.underlying45 Tryz.underlying5 Tryz.underlying9 (fun j hj=>h.2 ad rfl j _ (List.getElem?_eq_getElem hj))
end Go.Proofs.YtoidedomenkbpaaGreat
namespace Go.Proofs.YtoidedomenkbpaaGreat
open Go.RowKit
theorem zbS (r:Nat)(h:r<4294967296):bits .and .u32 (r:Int) 1=((r % 2:Nat):Int):=by
 have:=u32_and_nat r 1 h ue3
 rw[nat_mask1] at this
 exact this
theorem zdl (r:Nat)(h:r<4294967296)(ho:r % 2=1):bits .and .u32 (r:Int) 1=1:=by rw[zbS r h,ho];rfl
theorem zbT (r:Nat)(h:r<4294967296)(ho:¬r % 2=1):bits .and .u32 (r:Int) 1=0:=by rw[zbS r h,show r % 2=0 by omega];rfl
theorem zbU (r:Nat)(h:r<4294967296):bits .xor .u32 ((r:Int) / 2) 2197175160=((r / 2 ^^^ 2197175160:Nat):Int):=by
 rw[show (r:Int) / 2=((r / 2:Nat):Int) by omega]
 exact u32_xor_nat _ 2197175160 om ue3
def ZA (r:Nat)(w:World)(v i:Value)(wr:World):Prop:=∃q k:Nat,v= .int .u32 (q:Int)∧i= .int .i64 (k:Int)∧q<4294967296∧k≤8∧qx (8 - k) q=sh8 r∧w=wr
theorem ZA.odd {r q k:Nat}{w:World}(hq:q<4294967296)(hk:k<8)(hs:qx (8 - k) q=sh8 r)(ho:q % 2=1):ZA r w (.int .u32 ((q / 2 ^^^ 2197175160:Nat):Int)) (.int .i64 ((k:Int)+1)) w:=by
 refine⟨_,k+1,rfl,by congr 1,?_,by omega,?_,rfl⟩
 · have:=zbO q hq;unfold step1 at this;rw[ipQ ho] at this;exact this
 · rw[show 8 - k=(8 - (k+1))+1 by omega] at hs
   rw[←hs];show _=qx _ (step1 q)
   unfold step1;rw[ipQ ho]
theorem ZA.even {r q k:Nat}{w:World}(hq:q<4294967296)(hk:k<8)(hs:qx (8 - k) q=sh8 r)(ho:¬q % 2=1):ZA r w (.int .u32 ((q:Int) / 2)) (.int .i64 ((k:Int)+1)) w:=by
 refine⟨q / 2,k+1,by congr 1,by congr 1,by omega,by omega,?_,rfl⟩
 rw[show 8 - k=(8 - (k+1))+1 by omega] at hs
 rw[←hs];show _=qx _ (step1 q)
 unfold step1;rw[inQ ho]
theorem zbK (w:World)(r:Nat)(hr:r<4294967296):
 Calls Tryz.prog 197 #[.int .u32 (r:Int)] w fun e w'=>e= .returned (.int .u32 (sh8 r:Int))∧w=w':=by
 go_enter Tryz.func197,Tryz.ntmps197
 go_wp2_with fail
 go_loopw [0,4] (fun v i wr=>ZA r w v i wr) (fun _ i _=>(8 - intOf i).toNat)
 case atStart=>exact⟨r,0,rfl,rfl,hr,by omega,rfl,rfl⟩
 case round=>
  obtain⟨q,k,rfl,rfl,hq,hk,hs,rfl⟩:=hrel
  by_cases hlt:k<8
  · by_cases ho:q % 2=1
    · have H:=hH (ZA.odd (w:=w) hq hlt hs ho)
      have e1:=zdl q hq ho
      have e2:=zbU q hq
      clear hs ho
      go_wp2_with fail
      exact⟨H.out,by simp[intOf];omega⟩
    · have H:=hH (ZA.even (w:=w) hq hlt hs ho)
      have e1:=zbT q hq ho
      clear hs ho
      go_wp2_with fail
      exact⟨H.out,by simp[intOf];omega⟩
  · have hk8:k=8:=by omega
    subst hk8
    have H:=hH hs
    clear hlt hs hk
    go_wp2_with fail
    go_ret
    have:=H.out
    simp only[Nat.sub_self,qx] at this
    exact⟨by rw[this];rfl,rfl⟩
def TabAt (w:World)(tb:Nat):Prop:=∃cs:Array Value,w.heap[tb]? =some (.cells cs 223 (0,0))∧cs.size=256∧∀x:Nat,x<256→cs[x]? =some (.int .u32 0)∨cs[x]? =some (.int .u32 (sh8 x:Int))
structure zdy (w:World) (tb:Nat) (x:Nat) (e:Ending) (w' :World):Prop where
 ret:e= .returned (.int .u32 (sh8 x:Int))
 tab:TabAt w' tb
 os:w'.os=w.os
 tape:w'.tape=w.tape
 output:w'.output=w.output
 size:w'.heap.size=w.heap.size
 block:∀k,k≠tb→w'.heap[k]? =w.heap[k]?
theorem TabAt.made {w:World}{tb:Nat}(h:TabAt w tb)(x:Nat)(hx:x<256):zdy w tb x (.returned (.int .u32 (sh8 x:Int))) (w.setCell ⟨tb,x,none⟩ (.int .u32 (sh8 x:Int))):=by
 obtain⟨cs,h1,h2,h3⟩:=h
 refine⟨rfl,⟨cs.set! x (.int .u32 (sh8 x:Int)),hssQ w tb x _ _ _ h1,by simp[h2],fun y hy=>?_⟩,rfl,rfl,rfl,by simp[World.setCell],fun k hk=>BhsQ _ _ _ _ hk⟩
 by_cases he:y=x
 · subst he
   exact Or.inr (by simp[h2,hy])
 · rw[show (cs.set! x (.int .u32 (sh8 x:Int)))[y]? =cs[y]? by simp[Ne.symm he]]
   exact h3 y hy
theorem zd8 (w:World)(tb x:Nat)(hx:x<256)(h:TabAt w tb):
 Calls Tryz.prog 196 #[.int .u8 (x:Int),.pointer (some ⟨tb,0,none⟩)] w (zdy w tb x):=by
 have HM:=hH (h.made x hx)
 have HS:=hH (zbK w x om)
 obtain⟨cs,h1,h2,h3⟩:=h
 have hc:=corQ w tb x _ _ _ h1
 have hf:=forQ w tb x _ _ h1
 have HT:=hH (aN h1 (aN h2 h3))
 rcases h3 x hx with h4 | h4
 · rw[h4] at hc
   clear h1 h2 h3 h4
   go_enter Tryz.func196,Tryz.ntmps196
   go_wp2_with (go_at_call 197;refine HS.out.mono ?_;clear HS;rintro e w1 ⟨rfl,rfl⟩)
   go_ret
   exact HM.out
 · rw [h4] at hc
   clear h1 h2 h3 h4
   go_enter Tryz.func196,Tryz.ntmps196
   go_wp2_with (go_at_call 197;refine HS.out.mono ?_;clear HS;rintro e w1 ⟨rfl,rfl⟩)
   · go_ret
     exact HM.out
   · go_ret
     exact⟨rfl,⟨cs,HT.out.1,HT.out.2.1,HT.out.2.2⟩,rfl,rfl,rfl,rfl,fun _ _=>rfl⟩
theorem Tryz.zgY (w:World):(zeroValue 223).run Tryz.prog w= .ok (.agg (Array.replicate 256 (.int .u32 0))) w:=by kernel_rfl
def zhE (w:World)(e:Ending)(w' :World):Prop:=e= .returned (.func (.func 196) #[] #[.pointer (some ⟨w.heap.size,0,none⟩)])∧TabAt w' w.heap.size∧Below w.heap.size w w'∧w'.heap.size=w.heap.size+1
theorem zet (w:World):Calls Tryz.prog 177 #[] w (zhE w):=by
 have hmf:∀(fn:Fn) (first cap:Array Value) (w:World),(Instr.makeFunc fn first cap).run Tryz.prog w= .ok (.func fn first cap) w:=fun _ _ _ _=>rfl
 obtain⟨z,hz,h1⟩:∃z,(∀w,(zeroValue 223).run Tryz.prog w= .ok (.agg z) w)∧z=Array.replicate 256 (.int .u32 0):=⟨_,Tryz.zgY,rfl⟩
 have H:=hH h1
 clear h1
 go_enter Tryz.func177,Tryz.ntmps177
 go_wp2_with fail
 go_ret
 refine⟨rfl,⟨z,hanQ w _,by rw[H.out];simp,fun x hx=>Or.inl (by rw[H.out];simp[hx])⟩,(BrQ _ _).alloc (NlrQ _) _,by simp⟩
end Go.Proofs.YtoidedomenkbpaaGreat
namespace Go.Proofs.YtoidedomenkbpaaGreat
open Go.RowKit
open Extern.Stop (cell)
theorem Ql (s:Nat)(h:s<4294967296):bits .xor .u32 IntKind.u32.max (s:Int)=((4294967295 - s:Nat):Int):=by
 rw[show IntKind.u32.max=((4294967295:Nat):Int) by rfl,u32_xor_nat 4294967295 s ue3 h]
 congr 1
 have h1:(BitVec.ofNat 32 s).toNat=s:=by simp;omega
 have h2:=BitVec.toNat_not (x:=BitVec.ofNat 32 s)
 have h3: ~~~ (BitVec.ofNat 32 s)=BitVec.allOnes 32 ^^^ BitVec.ofNat 32 s:=by rw[BitVec.allOnes_xor]
 rw[h3,BitVec.toNat_xor,h1] at h2
 exact h2
theorem zgD (q:Nat)(x:UInt8):bits .xor .u8 ((q:Int) % 256) (x.toNat:Int)=((q % 256 ^^^ x.toNat:Nat):Int):=by
 rw[show (q:Int) % 256=((q % 256:Nat):Int) by omega]
 exact u8_xor_nat _ _ om (Zl x)
theorem zgC (t q:Nat)(ht:t<4294967296)(hq:q<4294967296):bits .xor .u32 (t:Int) ((q:Int) / 256)=((t ^^^ q / 256:Nat):Int):=by
 rw[show (q:Int) / 256=((q / 256:Nat):Int) by omega]
 exact u32_xor_nat _ _ ht om
theorem zdy.below {w w' :World}{tb x:Nat}{e:Ending}(h:zdy w tb x e w'){B:Nat}(hB:B≤tb):Below B w w':=
 ⟨h.os,h.tape,h.output,by rw[h.size];exact NlrQ _,fun k hk=>h.block k om⟩
theorem zdy.parts {w w' :World}{tb x:Nat}{e:Ending}(h:zdy w tb x e w'):e= .returned (.int .u32 (sh8 x:Int))∧TabAt w' tb∧Below tb w w':=⟨h.ret,h.tab,h.below (NlrQ _)⟩
def zfU (w:World)(tb s:Nat)(bs:List UInt8)(v i:Value)(wr:World):Prop:=∃k:Nat,k≤bs.length∧v= .int .u32 (Y9 (4294967295 - s) (bs.take k):Int)∧i= .int .i64 (k:Int)∧Below tb w wr∧TabAt wr tb∧tb=w.heap.size
def zeD (w:World)(n:Nat)(e:Ending)(w' :World):Prop:=e= .returned (.int .u32 (n:Int))∧Below w.heap.size w w'
theorem zfe (w:World)(s:Nat)(hs:s<4294967296)(a:Option Addr)(cap:Nat)(bs:List UInt8)(h:zW w a bs)(hl:bs.length≤1000000000000):
 Calls Tryz.prog 154 #[.int .u32 (s:Int),.slice a bs.length cap] w (zeD w (kV s bs)):=by
 have HT:=hH (zet w)
 have e0:=Ql s hs
 have HB:=hH h
 clear h
 go_enter Tryz.func154,Tryz.ntmps154
 go_wp2_with (go_at_call 177;refine HT.out.mono ?_;clear HT;rintro e w1 ⟨rfl,h1,h2,_⟩;have H1:=hH (aN h1 h2);clear h1 h2)
 clear e0
 have HW:=hH (rfl:w.heap.size=w.heap.size)
 go_loopw [6,14] (fun v i wr=>zfU w w.heap.size s bs v i wr) (fun _ i _=>(bs.length - intOf i).toNat)
 case atStart=>exact⟨0,NzlQ _,rfl,rfl,H1.out.2,H1.out.1,rfl⟩
 case round=>
  obtain⟨k,hk,rfl,rfl,hb,ht, -⟩:=hrel
  have HK:=hH (aN hb ht)
  obtain⟨q,hq⟩:∃q,q=Y9 (4294967295 - s) (bs.take k):=⟨_,rfl⟩
  have hql:q<4294967296:=by rw[hq];exact zc0 _ _ om
  rw[←hq]
  have HQ:=hH hq
  clear hb ht hq
  by_cases hlt:k<bs.length
  · obtain⟨x,hx⟩:∃x,bs[k]? =some x:=⟨bs[k],List.getElem?_eq_getElem hlt⟩
    cases a with
    | none=>have:=HB.out.1 rfl;subst this;simp at hlt
    | some ad=>
      have hadl:=HB.out.lt om
      have hc:wr.cell? (ad.add k)=some (.int .u8 (x.toNat:Int)):=(HB.out.kept (w':=wr) (fun ad' e=>by cases e;exact HK.out.1.block _ hadl)).2 ad rfl k x hx
      have e1:=zgD q x
      have HR:=hH (zd8 wr w.heap.size (q % 256 ^^^ x.toNat) (Nat.xor_lt_two_pow (n:=8) om (Zl x)) HK.out.2)
      have e2:=zgC (sh8 (q % 256 ^^^ x.toNat)) q (zfq _ (zfQ _ _ om (by have:=Zl x;omega))) hql
      have HX:=hH hx
      clear hx
      go_wp2_with (go_at_call 196;refine HR.out.mono ?_;clear HR;rintro e w2 h2;obtain⟨rfl,h3,h4⟩:=h2.parts;have H2:=hH (aN h3 h4);clear h2 h3 h4)
      refine⟨⟨k+1,by omega,?_,by congr 1,HK.out.1.trans H2.out.2,H2.out.1,rfl⟩,by simp[intOf];omega⟩
      rw[Jt _ _ _ _ HX.out,←HQ.out,zeo q]
  · have hke:k=bs.length:=by omega
    subst hke
    have e0:=Ql q hql
    go_wp2_with fail
    go_ret
    refine⟨?_,HK.out.1⟩
    have e1:kV s bs=4294967295 - q:=by rw[HQ.out,List.take_length];rfl
    rw[e1];rfl
theorem zes (w:World)(a:Option Addr)(cap:Nat)(bs:List UInt8)(h:zW w a bs)(hl:bs.length≤1000000000000):
 Calls Tryz.prog 115 #[.slice a bs.length cap] w (zeD w (kV 0 bs)):=by
 have H:=hH (zfe w 0 ue3 a cap bs h hl)
 clear h
 go_enter Tryz.func115,Tryz.ntmps115
 go_wp2_with (go_at_call 154;refine H.out.mono ?_;clear H;rintro e w1 ⟨rfl,h1⟩)
 go_ret
 exact⟨rfl,h1⟩
theorem zft (q:Nat)(x:UInt8)(hq:q<4294967296):bits .xor .u32 (q:Int) ((x.toNat:Int) % 4294967296)=((q ^^^ x.toNat:Nat):Int):=by
 have hb:=Zl x
 rw[show (x.toNat:Int) % 4294967296=(x.toNat:Int) by omega]
 exact u32_xor_nat _ _ hq om
def zez (r:Nat)(w:World)(v i:Value)(wr:World):Prop:=ZA r w v i wr
def zhd (w:World)(s:Nat)(bs:List UInt8)(v i:Value)(wr:World):Prop:=∃k:Nat,k≤bs.length∧v= .int .u32 (Y9 (4294967295 - s) (bs.take k):Int)∧i= .int .i64 (k:Int)∧w=wr
theorem zbz (w:World)(s:Nat)(hs:s<4294967296)(a:Option Addr)(cap:Nat)(bs:List UInt8)(h:zW w a bs)(hl:bs.length≤1000000000000):
 Calls Tryz.prog 155 #[.int .u32 (s:Int),.slice a bs.length cap] w fun e w'=>e= .returned (.int .u32 (kV s bs:Int))∧w=w':=by
 have e0:=Ql s hs
 have HB:=hH h
 clear h
 go_enter Tryz.func155,Tryz.ntmps155
 go_wp2_with fail
 clear e0
 go_loopw [5,6] (fun v i wr=>zhd w s bs v i wr) (fun _ i _=>(bs.length - intOf i).toNat)
 case atStart=>exact⟨0,NzlQ _,rfl,rfl,rfl⟩
 case round =>
  obtain⟨k,hk,rfl,rfl,rfl⟩:=hrel
  obtain⟨q,hq⟩:∃q,q=Y9 (4294967295 - s) (bs.take k):=⟨_,rfl⟩
  have hql:q<4294967296:=by rw[hq];exact zc0 _ _ om
  rw[←hq]
  have HQ:=hH hq
  clear hq
  by_cases hlt:k<bs.length
  · obtain ⟨x,hx⟩:∃x,bs[k]? =some x:=⟨bs[k],List.getElem?_eq_getElem hlt⟩
    cases a with
    | none=>have:=HB.out.1 rfl;subst this;simp at hlt
    | some ad=>
      have hc:w.cell? (ad.add k)=some (.int .u8 (x.toNat:Int)):=HB.out.2 ad rfl k x hx
      have e1:=zft q x hql
      have HX:=hH hx
      have hr:=zfQ q x.toNat hql (by have:=Zl x;omega)
      obtain⟨r,hre⟩:∃r,r=q ^^^ x.toNat:=⟨_,rfl⟩
      rw[←hre] at e1 hr
      have HR:=hH hre
      clear hx hre
      go_wp2_with fail
      clear e1 hc
      go_loopw [5,7] (fun v i wr=>zez r w v i wr) (fun _ i _=>(8 - intOf i).toNat)
      case atStart=>exact⟨r,0,rfl,rfl,hr,by omega,rfl,rfl⟩
      case round=>
       obtain⟨q2,j,rfl,rfl,hq2,hj,hs2,rfl⟩:=hrel
       by_cases hlt2:j<8
       · by_cases ho:q2 % 2=1
         · have H:=hH (ZA.odd (w:=w) hq2 hlt2 hs2 ho)
           have e1:=zdl q2 hq2 ho
           have e2:=zbU q2 hq2
           clear hs2 ho
           go_wp2_with fail
           exact⟨H.out,by simp[intOf];omega⟩
         · have H:=hH (ZA.even (w:=w) hq2 hlt2 hs2 ho)
           have e1:=zbT q2 hq2 ho
           clear hs2 ho
           go_wp2_with fail
           exact⟨H.out,by simp[intOf];omega⟩
       · have hj8:j=8:=by omega
         subst hj8
         have H:=hH hs2
         clear hlt2 hs2 hj
         go_wp2_with fail
         have h1:=H.out
         simp only[Nat.sub_self,qx] at h1
         refine⟨⟨k+1,by omega,?_,by congr 1,rfl⟩,by simp[intOf];omega⟩
         rw[Jt _ _ _ _ HX.out,←HQ.out,←HR.out,h1]
  · have hke:k=bs.length:=by omega
    subst hke
    have e0:=Ql q hql
    go_wp2_with fail
    go_ret
    refine⟨?_,rfl⟩
    have e1:kV s bs=4294967295 - q:=by rw[HQ.out,List.take_length];rfl
    rw[e1];rfl
theorem zcD (w:World)(a:Option Addr)(cap:Nat)(bs:List UInt8)(h:zW w a bs)(hl:bs.length≤1000000000000):
 Calls Tryz.prog 118 #[.slice a bs.length cap] w fun e w'=>e= .returned (.int .u32 (kV 0 bs:Int))∧w=w':=by
 have H:=hH (zbz w 0 ue3 a cap bs h hl)
 clear h
 go_enter Tryz.func118,Tryz.ntmps118
 go_wp2_with (go_at_call 155;refine H.out.mono ?_;clear H;rintro e w1 ⟨rfl,rfl⟩)
 go_ret
 exact⟨rfl,rfl⟩
def qC (n:Int)(s:Nat):UInt8:=UInt8.ofNat (n / (2 ^ s:Nat) % 256).toNat
def be4 (n:Int):List UInt8:=[qC n 24,qC n 16,qC n 8,qC n 0]
def zS (bs:List UInt8):List UInt8:=bs++be4 (kV 0 bs:Int)
theorem zhf (n:Int)(k:Nat)(h:k<4):(be4 n)[k]? =some (qC n (24 - 8*k)):=by
 have:k=0∨k=1∨k=2∨k=3:=by omega
 rcases this with rfl | rfl | rfl | rfl<;>rfl
theorem ZK (n:Int):(be4 n).length=4:=rfl
theorem zQ (bs:List UInt8):(zS bs).length=bs.length+4:=by simp[zS,ZK]
theorem kW (n:Int)(q:Nat):cell (qC n q)= .int .u8 (n / 2 ^ q % 256):=by
 have h0:0≤n / 2 ^ q % 256:=Int.emod_nonneg _ ue3
 have h1:n / 2 ^ q % 256<256:=Int.emod_lt_of_pos _ ue3
 have e:(qC n q).toNat=(n / 2 ^ q % 256).toNat:=by
  have e2:qC n q=UInt8.ofNat (n / 2 ^ q % 256).toNat:=by unfold qC;push_cast;rfl
  rw[e2,UInt8.toNat_ofNat'];omega
 show Value.int .u8 ((qC n q).toNat:Int)=_
 rw[e,Int.toNat_of_nonneg h0]
theorem zaF (bs:List UInt8)(n:Int)(k:Nat)(h:k<4):(bs++(be4 n).take (k+1)).length=(bs++(be4 n).take k).length+1∧(bs++(be4 n).take (k+1)).map cell=(bs++(be4 n).take k).map cell++[.int .u8 (n / 2 ^ (24 - 8*k) % 256)]:=by
 rw[List.take_add_one,zhf n k h]
 refine⟨by simp;omega,?_⟩
 simp[kW]
theorem zbv {w w' :World}{B:Nat}{v:Value}(hB:B≤w.heap.size)(ho:w'.ownsRow B 5 1 v 0 [])(hg:w.grownBy w' none):yC B v 0 [] w w':=
 ⟨ho,⟨hg.os,hg.tape,hg.output,hg.size,fun k hk=>hg.block k om sp1⟩,NltQ hB hg.size⟩
def zcV (B:Nat)(bs:List UInt8)(n:Int)(W0:World)(v i:Value)(wr:World):Prop:=∃k:Nat,k≤4∧i= .int .i64 (24 - 8*(k:Int))∧vS B v (bs++(be4 n).take k) W0 wr
theorem zW.cells {w:World}{ad:Addr}{bs:List UInt8}(h:zW w (some ad) bs):∀j u,bs[j]? =some u→w.cell? (ad.add j)=some (cell u):=h.2 ad rfl
theorem kG {w w1 w2:World}{v:Value}{bs:List UInt8}(h1:Below w.heap.size w w1)(h2:yC w.heap.size v (0+bs.length) ([]++bs.map cell) w1 w2):vS w.heap.size v bs w w2:=by
 rw[Nat.zero_add,List.nil_append] at h2
 exact⟨h2.1,h1.trans h2.2.1,h2.2.2⟩
theorem zbI (w:World)(a:Option Addr)(cap:Nat)(bs:List UInt8)(h:zW w a bs)(hl:bs.length≤1000000000):
 Calls Tryz.prog 71 #[.slice a bs.length cap] w (zeF w.heap.size (zS bs) w):=by
 have HS:=hH (zes w a cap bs h om)
 obtain⟨i0,hi,hz,hs,hby⟩:=za9 Tryz.zc8
 have HI:=hH (aN hi (aN hz (aN hs hby)))
 have HB:=hH h
 have HL:=hH hl
 have hlen:0≤(bs.length:Int)+4:=by omega
 clear h hi hz hs hby
 cases a with
 | none=>
   have HE:=hH (HB.out.1 rfl)
   go_enter Tryz.func71,Tryz.ntmps71
   go_wp2_with (first
    | (go_at_call 115;refine HS.out.mono ?_;clear HS;rintro e w1 ⟨rfl,h1⟩;obtain⟨w2,hm,ho,hg⟩:=run_make_own (P:=Tryz.prog) w1 w.heap.size 45 5 i0 (.int .u8 0) 1 Tryz.underlying45 HI.out.1 HI.out.2.1 HI.out.2.2.1 .i64 .i64 (bs.length+4) (by rw[HI.out.2.2.2];have:=HL.out;omega) (by unfold maxLen;have:=HL.out;omega) h1.size;have H1:=hH (aN h1 (zbv h1.size ho hg));clear h1 ho hg;rw[show ((bs.length+4:Nat):Int)=(bs.length:Int)+4 by push_cast;rfl] at hm)
    | (at_builtin;(with_reducible refine YX rfl (.tmp 12) (.tmp 13) 45 rfl w.heap.size i0 Tryz.underlying45 HI.out.1 (.slice (some ⟨w1.heap.size,0,none⟩) 0 (bs.length+4)) 0 [] rfl w1 H1.out.2 cap bs HE.out rfl ?_);intro v' w3 ho;have HO:=hH (kG H1.out.1 ho);clear ho H1))
   exact sb7
 | some ad=>
   go_enter Tryz.func71,Tryz.ntmps71
   go_wp2_with (first
    | (go_at_call 115;refine HS.out.mono ?_;clear HS;rintro e w1 ⟨rfl,h1⟩;obtain⟨w2,hm,ho,hg⟩:=run_make_own (P:=Tryz.prog) w1 w.heap.size 45 5 i0 (.int .u8 0) 1 Tryz.underlying45 HI.out.1 HI.out.2.1 HI.out.2.2.1 .i64 .i64 (bs.length+4) (by rw[HI.out.2.2.2];have:=HL.out;omega) (by unfold maxLen;have:=HL.out;omega) h1.size;have H1:=hH (aN h1 (zbv h1.size ho hg));clear h1 ho hg;rw[show ((bs.length+4:Nat):Int)=(bs.length:Int)+4 by push_cast;rfl] at hm)
    | (at_builtin;(with_reducible refine Zh rfl (.tmp 12) (.tmp 13) 45 rfl w.heap.size i0 Tryz.underlying45 HI.out.1 HI.out.2.1 HI.out.2.2.1 HI.out.2.2.2 (.slice (some ⟨w1.heap.size,0,none⟩) 0 (bs.length+4)) 0 [] rfl w1 H1.out.2 ad cap bs rfl ((HB.out.below (H1.out.1.trans H1.out.2.below)).cells) ud3 ?_);intro v' w3 ho;have HO:=hH (kG H1.out.1 ho);clear ho H1))
   exact sb7
end Go.Proofs.YtoidedomenkbpaaGreat
namespace Go.Proofs.YtoidedomenkbpaaGreat
open Go.RowKit Go.Shelf
open Extern.Stop (cell)
theorem qz (w:World)(a0 a1 a2 a3 a4 a5 a6 a7 a8 a9 a10 ai ak:Int)(sa ar:Option Addr)(an ac am ad:Nat)(aw:ByteArray)(h:∀Y,Below w.heap.size w Y→Calls Tryz.prog 22 #[.agg #[.int .i8 a0,.int .i64 a1,.int .i64 a2,.int .i64 a3,.int .i64 a4,.int .i64 a5,.int .i64 a6,.int .i64 a7,.int .i64 a8,.int .i64 a9,.int .i64 a10,.slice sa an ac,.int .i64 ai,.int .i64 ak,.string aw,.slice ar am ad]] Y (zx false Y)):
 Calls Tryz.prog 31 #[.agg #[.int .i8 a0,.int .i64 a1,.int .i64 a2,.int .i64 a3,.int .i64 a4,.int .i64 a5,.int .i64 a6,.int .i64 a7,.int .i64 a8,.int .i64 a9,.int .i64 a10,.slice sa an ac,.int .i64 ai,.int .i64 ak,.string aw,.slice ar am ad]] w (fun e Z=>e= .returned (.tuple #[.slice none 0 0,.int .i64 2])∧Below w.heap.size w Z):=by
 obtain⟨B,hB⟩:∃B,B=w.alloc (.cells #[.int .i8 a0,.int .i64 a1,.int .i64 a2,.int .i64 a3,.int .i64 a4,.int .i64 a5,.int .i64 a6,.int .i64 a7,.int .i64 a8,.int .i64 a9,.int .i64 a10,.slice sa an ac,.int .i64 ai,.int .i64 ak,.string aw,.slice ar am ad] 37):=⟨_,rfl⟩
 have hb:Below w.heap.size w B:=by rw[hB];exact (BrQ _ _).alloc (NlrQ _) _
 have hx:B.heap[w.heap.size]? =some (.cells #[.int .i8 a0,.int .i64 a1,.int .i64 a2,.int .i64 a3,.int .i64 a4,.int .i64 a5,.int .i64 a6,.int .i64 a7,.int .i64 a8,.int .i64 a9,.int .i64 a10,.slice sa an ac,.int .i64 ai,.int .i64 ak,.string aw,.slice ar am ad] 37 (0,0)):=by rw[hB];exact hanQ _ _
 have HR:=hH (h B hb)
 have HB:=hH (aN hb (aN hB hx))
 have c_0:B.cell? ⟨w.heap.size,0,none⟩=some (.int .i8 a0):=by rw[corQ _ _ 0 _ _ _ hx];rfl
 have c_1:B.cell? ⟨w.heap.size,1,none⟩=some (.int .i64 a1):=by rw[corQ _ _ 1 _ _ _ hx];rfl
 have c_2:B.cell? ⟨w.heap.size,2,none⟩=some (.int .i64 a2):=by rw[corQ _ _ 2 _ _ _ hx];rfl
 have c_3:B.cell? ⟨w.heap.size,3,none⟩=some (.int .i64 a3):=by rw[corQ _ _ 3 _ _ _ hx];rfl
 have c_4:B.cell? ⟨w.heap.size,4,none⟩=some (.int .i64 a4):=by rw[corQ _ _ 4 _ _ _ hx];rfl
 have c_5:B.cell? ⟨w.heap.size,5,none⟩=some (.int .i64 a5):=by rw[corQ _ _ 5 _ _ _ hx];rfl
 have c_6:B.cell? ⟨w.heap.size,6,none⟩=some (.int .i64 a6):=by rw[corQ _ _ 6 _ _ _ hx];rfl
 have c_7:B.cell? ⟨w.heap.size,7,none⟩=some (.int .i64 a7):=by rw[corQ _ _ 7 _ _ _ hx];rfl
 have c_8:B.cell? ⟨w.heap.size,8,none⟩=some (.int .i64 a8):=by rw[corQ _ _ 8 _ _ _ hx];rfl
 have c_9:B.cell? ⟨w.heap.size,9,none⟩=some (.int .i64 a9):=by rw[corQ _ _ 9 _ _ _ hx];rfl
 have c_10:B.cell? ⟨w.heap.size,10,none⟩=some (.int .i64 a10):=by rw[corQ _ _ 10 _ _ _ hx];rfl
 have c_11:B.cell? ⟨w.heap.size,11,none⟩=some (.slice sa an ac):=by rw[corQ _ _ 11 _ _ _ hx];rfl
 have c_12:B.cell? ⟨w.heap.size,12,none⟩=some (.int .i64 ai):=by rw[corQ _ _ 12 _ _ _ hx];rfl
 have c_13:B.cell? ⟨w.heap.size,13,none⟩=some (.int .i64 ak):=by rw[corQ _ _ 13 _ _ _ hx];rfl
 have c_14:B.cell? ⟨w.heap.size,14,none⟩=some (.string aw):=by rw[corQ _ _ 14 _ _ _ hx];rfl
 have c_15:B.cell? ⟨w.heap.size,15,none⟩=some (.slice ar am ad):=by rw[corQ _ _ 15 _ _ _ hx];rfl
 clear hb hB hx h
 go_enter Tryz.func31,Tryz.ntmps31
 go_upto_region 1 with fail
 change Code.wp _ _ _ _ (w.alloc (.cells #[.int .i8 a0,.int .i64 a1,.int .i64 a2,.int .i64 a3,.int .i64 a4,.int .i64 a5,.int .i64 a6,.int .i64 a7,.int .i64 a8,.int .i64 a9,.int .i64 a10,.slice sa an ac,.int .i64 ai,.int .i64 ak,.string aw,.slice ar am ad] 37))
 rw[←HB.out.2.1]
 go_wp2_with fail
 refine HR.out.mono ?_
 rintro e Y ⟨rfl,hy⟩
 have HY:=hH hy
 clear hy HR c_0 c_1 c_2 c_3 c_4 c_5 c_6 c_7 c_8 c_9 c_10 c_11 c_12 c_13 c_14 c_15
 go_wp2_with fail
 go_ret2
 exact⟨rfl,HB.out.1.trans (HY.out.mono HB.out.1.size)⟩
def zm (k:Nat):UInt8:=UInt8.ofNat k
theorem yY (k:Nat)(hk:k≤10):cell (zm k)= .int .u8 (k:Int):=by
 exact sd0
theorem zcT {a0:Int}{k:Nat}(hk:a0=(k:Int))(h2:k≤10):IntKind.u8.wrap a0=a0:=by
 subst hk
 exact sd0
theorem zhO (Y:World)(b k:Nat)(hk:k≤10)(hb:b<Y.heap.size):ko b (Y.heap.size+1) [zm k] ((Y.alloc (.cells #[.int .u8 (k:Int)] 5)).alloc (.cells #[.slice (some ⟨Y.heap.size,0,none⟩) 1 1] 103)):=by
 have e1:((Y.alloc (.cells #[.int .u8 (k:Int)] 5)).alloc (.cells #[.slice (some ⟨Y.heap.size,0,none⟩) 1 1] 103)).heap[Y.heap.size+1]? =some (.cells #[.slice (some ⟨Y.heap.size,0,none⟩) 1 1] 103 (0,0)):=by
  have h:=hanQ (Y.alloc (.cells #[.int .u8 (k:Int)] 5)) (.cells #[.slice (some ⟨Y.heap.size,0,none⟩) 1 1] 103)
  rw[WsaQ] at h;exact h
 have e0:((Y.alloc (.cells #[.int .u8 (k:Int)] 5)).alloc (.cells #[.slice (some ⟨Y.heap.size,0,none⟩) 1 1] 103)).heap[Y.heap.size]? =some (.cells #[.int .u8 (k:Int)] 5 (0,0)):=by
  rw[BhaQ _ _ _ ud7];exact hanQ _ _
 refine⟨_,1,e1,⟨fun h=>(by cases h),fun ad e j u hj=>?_⟩,fun ad e=>(by cases e;exact⟨(by show Y.heap.size≠b;omega),(by show Y.heap.size≠Y.heap.size+1;omega),(by show Y.heap.size<_;rw[WsaQ,WsaQ];omega)⟩),by simp,by omega,by rw[WsaQ,WsaQ];omega⟩
 cases e
 match j,hj with
 | 0,hj=>
   cases hj
   rw[yY k hk]
   show World.cell? _ ⟨Y.heap.size,0,none⟩=_
   rw[corQ _ _ 0 _ _ _ e0];rfl
 | j+1,hj=>simp at hj
def jV (bs:List UInt8)(w:World)(e:Ending)(Z:World):Prop:=∃v B,e= .returned (.tuple #[v,.int .i64 0])∧w.heap.size≤B∧Z.ownsRow B 5 1 v bs.length (bs.map cell)∧Below w.heap.size w Z
theorem ql (w:World)(a0 a1 a2 a3 a4 a5 a6 a7 a8 a9 a10 ai ak:Int)(sa ar:Option Addr)(an ac am ad:Nat)(aw:ByteArray)(k:Nat)(hk:a0=(k:Int))(hk2:k≤10)(bs:List UInt8)(hl:bs.length≤1000000000)(h:∀Y,Below w.heap.size w Y→Calls Tryz.prog 22 #[.agg #[.int .i8 a0,.int .i64 a1,.int .i64 a2,.int .i64 a3,.int .i64 a4,.int .i64 a5,.int .i64 a6,.int .i64 a7,.int .i64 a8,.int .i64 a9,.int .i64 a10,.slice sa an ac,.int .i64 ai,.int .i64 ak,.string aw,.slice ar am ad]] Y (zx true Y))
 (ho:∀(wb:Nat) (Y:World),Below w.heap.size w Y→Y.heap[w.heap.size]? =some (.cells #[.int .i8 a0,.int .i64 a1,.int .i64 a2,.int .i64 a3,.int .i64 a4,.int .i64 a5,.int .i64 a6,.int .i64 a7,.int .i64 a8,.int .i64 a9,.int .i64 a10,.slice sa an ac,.int .i64 ai,.int .i64 ak,.string aw,.slice ar am ad] 37 (0,0))→ko w.heap.size wb [zm k] Y→w.heap.size<wb→Calls Tryz.prog 56 #[.pointer (some ⟨w.heap.size,0,none⟩),.iface 101 (.pointer (some ⟨wb,0,none⟩))] Y (fun e Z=>e= .returned (.tuple #[])∧ko w.heap.size wb bs Z∧zb Y Z (fun q=>q=wb∨q=w.heap.size))):
 Calls Tryz.prog 31 #[.agg #[.int .i8 a0,.int .i64 a1,.int .i64 a2,.int .i64 a3,.int .i64 a4,.int .i64 a5,.int .i64 a6,.int .i64 a7,.int .i64 a8,.int .i64 a9,.int .i64 a10,.slice sa an ac,.int .i64 ai,.int .i64 ak,.string aw,.slice ar am ad]] w (jV (zS bs) w):=by
 have HO:=hH ho
 have HL:=hH hl
 have hw8:=zcT hk hk2
 have HK:=hH (aN hk hk2)
 obtain⟨B,hB⟩:∃B,B=w.alloc (.cells #[.int .i8 a0,.int .i64 a1,.int .i64 a2,.int .i64 a3,.int .i64 a4,.int .i64 a5,.int .i64 a6,.int .i64 a7,.int .i64 a8,.int .i64 a9,.int .i64 a10,.slice sa an ac,.int .i64 ai,.int .i64 ak,.string aw,.slice ar am ad] 37):=⟨_,rfl⟩
 have hb:Below w.heap.size w B:=by rw[hB];exact (BrQ _ _).alloc (NlrQ _) _
 have hx:B.heap[w.heap.size]? =some (.cells #[.int .i8 a0,.int .i64 a1,.int .i64 a2,.int .i64 a3,.int .i64 a4,.int .i64 a5,.int .i64 a6,.int .i64 a7,.int .i64 a8,.int .i64 a9,.int .i64 a10,.slice sa an ac,.int .i64 ai,.int .i64 ak,.string aw,.slice ar am ad] 37 (0,0)):=by rw[hB];exact hanQ _ _
 have HR:=hH (h B hb)
 have HB:=hH (aN hb (aN hB hx))
 have c_0:B.cell? ⟨w.heap.size,0,none⟩=some (.int .i8 a0):=by rw[corQ _ _ 0 _ _ _ hx];rfl
 have c_1:B.cell? ⟨w.heap.size,1,none⟩=some (.int .i64 a1):=by rw[corQ _ _ 1 _ _ _ hx];rfl
 have c_2:B.cell? ⟨w.heap.size,2,none⟩=some (.int .i64 a2):=by rw[corQ _ _ 2 _ _ _ hx];rfl
 have c_3:B.cell? ⟨w.heap.size,3,none⟩=some (.int .i64 a3):=by rw[corQ _ _ 3 _ _ _ hx];rfl
 have c_4:B.cell? ⟨w.heap.size,4,none⟩=some (.int .i64 a4):=by rw[corQ _ _ 4 _ _ _ hx];rfl
 have c_5:B.cell? ⟨w.heap.size,5,none⟩=some (.int .i64 a5):=by rw[corQ _ _ 5 _ _ _ hx];rfl
 have c_6:B.cell? ⟨w.heap.size,6,none⟩=some (.int .i64 a6):=by rw[corQ _ _ 6 _ _ _ hx];rfl
 have c_7:B.cell? ⟨w.heap.size,7,none⟩=some (.int .i64 a7):=by rw[corQ _ _ 7 _ _ _ hx];rfl
 have c_8:B.cell? ⟨w.heap.size,8,none⟩=some (.int .i64 a8):=by rw[corQ _ _ 8 _ _ _ hx];rfl
 have c_9:B.cell? ⟨w.heap.size,9,none⟩=some (.int .i64 a9):=by rw[corQ _ _ 9 _ _ _ hx];rfl
 have c_10:B.cell? ⟨w.heap.size,10,none⟩=some (.int .i64 a10):=by rw[corQ _ _ 10 _ _ _ hx];rfl
 have c_11:B.cell? ⟨w.heap.size,11,none⟩=some (.slice sa an ac):=by rw[corQ _ _ 11 _ _ _ hx];rfl
 have c_12:B.cell? ⟨w.heap.size,12,none⟩=some (.int .i64 ai):=by rw[corQ _ _ 12 _ _ _ hx];rfl
 have c_13:B.cell? ⟨w.heap.size,13,none⟩=some (.int .i64 ak):=by rw[corQ _ _ 13 _ _ _ hx];rfl
 have c_14:B.cell? ⟨w.heap.size,14,none⟩=some (.string aw):=by rw[corQ _ _ 14 _ _ _ hx];rfl
 have c_15:B.cell? ⟨w.heap.size,15,none⟩=some (.slice ar am ad):=by rw[corQ _ _ 15 _ _ _ hx];rfl
 clear hb hB hx h ho hl hk hk2
 go_enter Tryz.func31,Tryz.ntmps31
 go_upto_region 1 with fail
 change Code.wp _ _ _ _ (w.alloc (.cells #[.int .i8 a0,.int .i64 a1,.int .i64 a2,.int .i64 a3,.int .i64 a4,.int .i64 a5,.int .i64 a6,.int .i64 a7,.int .i64 a8,.int .i64 a9,.int .i64 a10,.slice sa an ac,.int .i64 ai,.int .i64 ak,.string aw,.slice ar am ad] 37))
 rw[←HB.out.2.1]
 go_wp2_with fail
 refine HR.out.mono ?_
 rintro e Y ⟨rfl,hy⟩
 have HY:=hH hy
 clear hy HR c_0 c_1 c_2 c_3 c_4 c_5 c_6 c_7 c_8 c_9 c_10 c_11 c_12 c_13 c_14 c_15
 have hyx:=(HY.out.block _ (lohQ HB.out.2.2)).trans HB.out.2.2
 have k0:Y.cell? ⟨w.heap.size,0,none⟩=some (.int .i8 a0):=by rw[corQ _ _ 0 _ _ _ hyx];rfl
 have HYX:=hH hyx
 clear hyx
 go_upto_region 4 with fail
 change Code.wp _ _ _ _ ((Y.alloc (.cells #[.int .u8 a0] 5)).alloc (.cells #[.slice (some ⟨Y.heap.size,0,none⟩) 1 1] 103))
 clear k0 hw8
 obtain⟨X,hX⟩:∃X,X=(Y.alloc (.cells #[.int .u8 a0] 5)).alloc (.cells #[.slice (some ⟨Y.heap.size,0,none⟩) 1 1] 103):=⟨_,rfl⟩
 have hyX:Below Y.heap.size Y X:=by rw[hX];exact ((BrQ _ _).alloc (NlrQ _) _).alloc ud7 _
 have hwr:ko w.heap.size (Y.heap.size+1) [zm k] X:=by
  rw[hX,HK.out.1]
  exact zhO Y w.heap.size k HK.out.2 (lohQ HYX.out)
 rw[←hX]
 have hwX:=HB.out.1.trans ((HY.out.trans (hyX.mono HY.out.size)).mono HB.out.1.size)
 have HXX:=hH (aN hwX (aN ((hyX.block _ (lohQ HYX.out)).trans HYX.out) (aN hwr (show w.heap.size<Y.heap.size+1 by have:=lohQ HYX.out;omega))))
 clear hX hyX hwr hwX
 obtain⟨wb,hwb⟩:∃wb,wb=Y.heap.size+1:=⟨_,rfl⟩
 rw[←hwb] at HXX
 try rw[WsaQ]
 rw[←hwb]
 clear hwb
 go_wp2_with fail
 refine (HO.out wb X HXX.out.1 HXX.out.2.1 HXX.out.2.2.1 HXX.out.2.2.2).mono ?_
 rintro e Z ⟨rfl,hz,ht⟩
 obtain⟨a,cap,hz1,hz2,hz3,hz4,hz5,hz6⟩:=hz
 have k0:Z.cell? ⟨wb,0,none⟩=some (.slice a bs.length cap):=by rw[corQ _ _ 0 _ _ _ hz1];rfl
 have HS:=hH (zbI Z a cap bs ⟨hz2.1,hz2.2⟩ HL.out)
 have HZ:=hH (show Below w.heap.size w Z from⟨ht.os.trans HXX.out.1.os,ht.tape.trans HXX.out.1.tape,ht.output.trans HXX.out.1.output,NltQ HXX.out.1.size ht.size,fun q hq=>(ht.block q (nL hq HXX.out.1.size) (by have:=HXX.out.2.2.2;omega)).trans (HXX.out.1.block q hq)⟩)
 clear hz1 hz2 hz3 hz4 hz5 hz6 ht
 go_wp2_with fail
 refine HS.out.mono ?_
 rintro e V ⟨v,rfl,hv1,hv2,hv3⟩
 have HV:=hH (aN hv1 (HZ.out.trans (hv2.mono HZ.out.size)))
 clear hv1 hv2 hv3 k0
 go_wp2_with fail
 go_ret2
 exact⟨_,_,rfl,HZ.out.size,HV.out.1,HV.out.2⟩
end Go.Proofs.YtoidedomenkbpaaGreat
