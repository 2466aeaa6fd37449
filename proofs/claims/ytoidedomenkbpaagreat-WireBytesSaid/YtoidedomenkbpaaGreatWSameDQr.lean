/-
  .
-/
import Derived.Test.YtoidedomenkbpaaGreatWRPl6Qr
set_option maxRecDepth 100000
set_option maxHeartbeats 40000000
set_option linter.unusedVariables false
set_option linter.unusedSimpArgs false
namespace Go.Proofs.YtoidedomenkbpaaGreat
open Go.RowKit Go.Shelf
theorem zed (X:World)(a0 a1 a2 a3 a4 a5 a6 a7 a8 a9 a10 ai ak:Int)(sa ar:Option Addr)(an ac am ad:Nat)(aw:ByteArray)(b0 b1 b2 b3 b4 b5 b6 b7 b8 b9 b10 bi bk:Int)(sb_ br:Option Addr)(bn bc bm bd:Nat)(bw:ByteArray)(h0:(a0 == b0)=true)(h1:(a1 == b1)=true)(h2:(a2 == b2)=true)(h3:(a3 == b3)=true)(h4:(a4 == b4)=false):Calls Tryz.prog 25 #[.agg #[.int .i8 a0,.int .i64 a1,.int .i64 a2,.int .i64 a3,.int .i64 a4,.int .i64 a5,.int .i64 a6,.int .i64 a7,.int .i64 a8,.int .i64 a9,.int .i64 a10,.slice sa an ac,.int .i64 ai,.int .i64 ak,.string aw,.slice ar am ad],.agg #[.int .i8 b0,.int .i64 b1,.int .i64 b2,.int .i64 b3,.int .i64 b4,.int .i64 b5,.int .i64 b6,.int .i64 b7,.int .i64 b8,.int .i64 b9,.int .i64 b10,.slice sb_ bn bc,.int .i64 bi,.int .i64 bk,.string bw,.slice br bm bd]] X (zx false X):=by
 exact sb9
theorem zee (X:World)(a0 a1 a2 a3 a4 a5 a6 a7 a8 a9 a10 ai ak:Int)(sa ar:Option Addr)(an ac am ad:Nat)(aw:ByteArray)(b0 b1 b2 b3 b4 b5 b6 b7 b8 b9 b10 bi bk:Int)(sb_ br:Option Addr)(bn bc bm bd:Nat)(bw:ByteArray)(h0:(a0 == b0)=true)(h1:(a1 == b1)=true)(h2:(a2 == b2)=true)(h3:(a3 == b3)=true)(h4:(a4 == b4)=true)(h5:(a5 == b5)=false):Calls Tryz.prog 25 #[.agg #[.int .i8 a0,.int .i64 a1,.int .i64 a2,.int .i64 a3,.int .i64 a4,.int .i64 a5,.int .i64 a6,.int .i64 a7,.int .i64 a8,.int .i64 a9,.int .i64 a10,.slice sa an ac,.int .i64 ai,.int .i64 ak,.string aw,.slice ar am ad],.agg #[.int .i8 b0,.int .i64 b1,.int .i64 b2,.int .i64 b3,.int .i64 b4,.int .i64 b5,.int .i64 b6,.int .i64 b7,.int .i64 b8,.int .i64 b9,.int .i64 b10,.slice sb_ bn bc,.int .i64 bi,.int .i64 bk,.string bw,.slice br bm bd]] X (zx false X):=by
 exact sb9
theorem zef (X:World)(a0 a1 a2 a3 a4 a5 a6 a7 a8 a9 a10 ai ak:Int)(sa ar:Option Addr)(an ac am ad:Nat)(aw:ByteArray)(b0 b1 b2 b3 b4 b5 b6 b7 b8 b9 b10 bi bk:Int)(sb_ br:Option Addr)(bn bc bm bd:Nat)(bw:ByteArray)(h0:(a0 == b0)=true)(h1:(a1 == b1)=true)(h2:(a2 == b2)=true)(h3:(a3 == b3)=true)(h4:(a4 == b4)=true)(h5:(a5 == b5)=true)(h6:(a6 == b6)=false):Calls Tryz.prog 25 #[.agg #[.int .i8 a0,.int .i64 a1,.int .i64 a2,.int .i64 a3,.int .i64 a4,.int .i64 a5,.int .i64 a6,.int .i64 a7,.int .i64 a8,.int .i64 a9,.int .i64 a10,.slice sa an ac,.int .i64 ai,.int .i64 ak,.string aw,.slice ar am ad],.agg #[.int .i8 b0,.int .i64 b1,.int .i64 b2,.int .i64 b3,.int .i64 b4,.int .i64 b5,.int .i64 b6,.int .i64 b7,.int .i64 b8,.int .i64 b9,.int .i64 b10,.slice sb_ bn bc,.int .i64 bi,.int .i64 bk,.string bw,.slice br bm bd]] X (zx false X):=by
 exact sb9
theorem zeg (X:World)(a0 a1 a2 a3 a4 a5 a6 a7 a8 a9 a10 ai ak:Int)(sa ar:Option Addr)(an ac am ad:Nat)(aw:ByteArray)(b0 b1 b2 b3 b4 b5 b6 b7 b8 b9 b10 bi bk:Int)(sb_ br:Option Addr)(bn bc bm bd:Nat)(bw:ByteArray)(h0:(a0 == b0)=true)(h1:(a1 == b1)=true)(h2:(a2 == b2)=true)(h3:(a3 == b3)=true)(h4:(a4 == b4)=true)(h5:(a5 == b5)=true)(h6:(a6 == b6)=true)(h7:(a7 == b7)=false):Calls Tryz.prog 25 #[.agg #[.int .i8 a0,.int .i64 a1,.int .i64 a2,.int .i64 a3,.int .i64 a4,.int .i64 a5,.int .i64 a6,.int .i64 a7,.int .i64 a8,.int .i64 a9,.int .i64 a10,.slice sa an ac,.int .i64 ai,.int .i64 ak,.string aw,.slice ar am ad],.agg #[.int .i8 b0,.int .i64 b1,.int .i64 b2,.int .i64 b3,.int .i64 b4,.int .i64 b5,.int .i64 b6,.int .i64 b7,.int .i64 b8,.int .i64 b9,.int .i64 b10,.slice sb_ bn bc,.int .i64 bi,.int .i64 bk,.string bw,.slice br bm bd]] X (zx false X):=by
 exact sb9
theorem zeh (X:World)(a0 a1 a2 a3 a4 a5 a6 a7 a8 a9 a10 ai ak:Int)(sa ar:Option Addr)(an ac am ad:Nat)(aw:ByteArray)(b0 b1 b2 b3 b4 b5 b6 b7 b8 b9 b10 bi bk:Int)(sb_ br:Option Addr)(bn bc bm bd:Nat)(bw:ByteArray)(h0:(a0 == b0)=true)(h1:(a1 == b1)=true)(h2:(a2 == b2)=true)(h3:(a3 == b3)=true)(h4:(a4 == b4)=true)(h5:(a5 == b5)=true)(h6:(a6 == b6)=true)(h7:(a7 == b7)=true)(h8:(a8 == b8)=false):Calls Tryz.prog 25 #[.agg #[.int .i8 a0,.int .i64 a1,.int .i64 a2,.int .i64 a3,.int .i64 a4,.int .i64 a5,.int .i64 a6,.int .i64 a7,.int .i64 a8,.int .i64 a9,.int .i64 a10,.slice sa an ac,.int .i64 ai,.int .i64 ak,.string aw,.slice ar am ad],.agg #[.int .i8 b0,.int .i64 b1,.int .i64 b2,.int .i64 b3,.int .i64 b4,.int .i64 b5,.int .i64 b6,.int .i64 b7,.int .i64 b8,.int .i64 b9,.int .i64 b10,.slice sb_ bn bc,.int .i64 bi,.int .i64 bk,.string bw,.slice br bm bd]] X (zx false X):=by
 exact sb9
theorem zei (X:World)(a0 a1 a2 a3 a4 a5 a6 a7 a8 a9 a10 ai ak:Int)(sa ar:Option Addr)(an ac am ad:Nat)(aw:ByteArray)(b0 b1 b2 b3 b4 b5 b6 b7 b8 b9 b10 bi bk:Int)(sb_ br:Option Addr)(bn bc bm bd:Nat)(bw:ByteArray)(h0:(a0 == b0)=true)(h1:(a1 == b1)=true)(h2:(a2 == b2)=true)(h3:(a3 == b3)=true)(h4:(a4 == b4)=true)(h5:(a5 == b5)=true)(h6:(a6 == b6)=true)(h7:(a7 == b7)=true)(h8:(a8 == b8)=true)(h9:(a9 == b9)=false):Calls Tryz.prog 25 #[.agg #[.int .i8 a0,.int .i64 a1,.int .i64 a2,.int .i64 a3,.int .i64 a4,.int .i64 a5,.int .i64 a6,.int .i64 a7,.int .i64 a8,.int .i64 a9,.int .i64 a10,.slice sa an ac,.int .i64 ai,.int .i64 ak,.string aw,.slice ar am ad],.agg #[.int .i8 b0,.int .i64 b1,.int .i64 b2,.int .i64 b3,.int .i64 b4,.int .i64 b5,.int .i64 b6,.int .i64 b7,.int .i64 b8,.int .i64 b9,.int .i64 b10,.slice sb_ bn bc,.int .i64 bi,.int .i64 bk,.string bw,.slice br bm bd]] X (zx false X):=by
 exact sb9
theorem zcG (X:World)(a0 a1 a2 a3 a4 a5 a6 a7 a8 a9 a10 ai ak:Int)(sa ar:Option Addr)(an ac am ad:Nat)(aw:ByteArray)(b0 b1 b2 b3 b4 b5 b6 b7 b8 b9 b10 bi bk:Int)(sb_ br:Option Addr)(bn bc bm bd:Nat)(bw:ByteArray)(h0:(a0 == b0)=true)(h1:(a1 == b1)=true)(h2:(a2 == b2)=true)(h3:(a3 == b3)=true)(h4:(a4 == b4)=true)(h5:(a5 == b5)=true)(h6:(a6 == b6)=true)(h7:(a7 == b7)=true)(h8:(a8 == b8)=true)(h9:(a9 == b9)=true)(h10:(a10 == b10)=false):Calls Tryz.prog 25 #[.agg #[.int .i8 a0,.int .i64 a1,.int .i64 a2,.int .i64 a3,.int .i64 a4,.int .i64 a5,.int .i64 a6,.int .i64 a7,.int .i64 a8,.int .i64 a9,.int .i64 a10,.slice sa an ac,.int .i64 ai,.int .i64 ak,.string aw,.slice ar am ad],.agg #[.int .i8 b0,.int .i64 b1,.int .i64 b2,.int .i64 b3,.int .i64 b4,.int .i64 b5,.int .i64 b6,.int .i64 b7,.int .i64 b8,.int .i64 b9,.int .i64 b10,.slice sb_ bn bc,.int .i64 bi,.int .i64 bk,.string bw,.slice br bm bd]] X (zx false X):=by
 exact sb9
theorem zej (X:World)(a0 a1 a2 a3 a4 a5 a6 a7 a8 a9 a10 ai ak:Int)(sa ar:Option Addr)(an ac am ad:Nat)(aw:ByteArray)(b0 b1 b2 b3 b4 b5 b6 b7 b8 b9 b10 bi bk:Int)(sb_ br:Option Addr)(bn bc bm bd:Nat)(bw:ByteArray)(sb:Bool)(h0:(a0 == b0)=true)(h1:(a1 == b1)=true)(h2:(a2 == b2)=true)(h3:(a3 == b3)=true)(h4:(a4 == b4)=true)(h5:(a5 == b5)=true)(h6:(a6 == b6)=true)(h7:(a7 == b7)=true)(h8:(a8 == b8)=true)(h9:(a9 == b9)=true)(h10:(a10 == b10)=true)(hs:∀Y,Below X.heap.size X Y→Calls Tryz.prog 14 #[.slice sa an ac,.slice sb_ bn bc] Y (fun e Z=>e= .returned (.bool sb)∧Below Y.heap.size Y Z))(hsb:sb=false):Calls Tryz.prog 25 #[.agg #[.int .i8 a0,.int .i64 a1,.int .i64 a2,.int .i64 a3,.int .i64 a4,.int .i64 a5,.int .i64 a6,.int .i64 a7,.int .i64 a8,.int .i64 a9,.int .i64 a10,.slice sa an ac,.int .i64 ai,.int .i64 ak,.string aw,.slice ar am ad],.agg #[.int .i8 b0,.int .i64 b1,.int .i64 b2,.int .i64 b3,.int .i64 b4,.int .i64 b5,.int .i64 b6,.int .i64 b7,.int .i64 b8,.int .i64 b9,.int .i64 b10,.slice sb_ bn bc,.int .i64 bi,.int .i64 bk,.string bw,.slice br bm bd]] X (zx false X):=by
 subst hsb
 have HSS:=hH hs
 clear hs
 go_enter Tryz.func25,Tryz.ntmps25
 go_wp2_with fail
 refine (HSS.out _ (zF _ _ _)).mono ?_
 rintro e Z ⟨rfl,hz⟩
 have HZ:=hH ((zF X _ _).trans (hz.mono (zF X _ _).size))
 clear hz
 go_wp2_with fail
 go_ret
 exact⟨rfl,HZ.out⟩
theorem zek (X:World)(a0 a1 a2 a3 a4 a5 a6 a7 a8 a9 a10 ai ak:Int)(sa ar:Option Addr)(an ac am ad:Nat)(aw:ByteArray)(b0 b1 b2 b3 b4 b5 b6 b7 b8 b9 b10 bi bk:Int)(sb_ br:Option Addr)(bn bc bm bd:Nat)(bw:ByteArray)(sb tb:Bool)(h0:(a0 == b0)=true)(h1:(a1 == b1)=true)(h2:(a2 == b2)=true)(h3:(a3 == b3)=true)(h4:(a4 == b4)=true)(h5:(a5 == b5)=true)(h6:(a6 == b6)=true)(h7:(a7 == b7)=true)(h8:(a8 == b8)=true)(h9:(a9 == b9)=true)(h10:(a10 == b10)=true)(hs:∀Y,Below X.heap.size X Y→Calls Tryz.prog 14 #[.slice sa an ac,.slice sb_ bn bc] Y (fun e Z=>e= .returned (.bool sb)∧Below Y.heap.size Y Z))(ht:∀Y,Below X.heap.size X Y→Calls Tryz.prog 64 #[.agg #[.int .i64 ai,.int .i64 ak,.string aw,.slice ar am ad],.agg #[.int .i64 bi,.int .i64 bk,.string bw,.slice br bm bd]] Y (fun e Z=>e= .returned (.bool tb)∧Below Y.heap.size Y Z))(hsb:sb=true):Calls Tryz.prog 25 #[.agg #[.int .i8 a0,.int .i64 a1,.int .i64 a2,.int .i64 a3,.int .i64 a4,.int .i64 a5,.int .i64 a6,.int .i64 a7,.int .i64 a8,.int .i64 a9,.int .i64 a10,.slice sa an ac,.int .i64 ai,.int .i64 ak,.string aw,.slice ar am ad],.agg #[.int .i8 b0,.int .i64 b1,.int .i64 b2,.int .i64 b3,.int .i64 b4,.int .i64 b5,.int .i64 b6,.int .i64 b7,.int .i64 b8,.int .i64 b9,.int .i64 b10,.slice sb_ bn bc,.int .i64 bi,.int .i64 bk,.string bw,.slice br bm bd]] X (zx tb X):=by
 subst hsb
 have e0:(zy X [.cells #[.int .i8 a0,.int .i64 a1,.int .i64 a2,.int .i64 a3,.int .i64 a4,.int .i64 a5,.int .i64 a6,.int .i64 a7,.int .i64 a8,.int .i64 a9,.int .i64 a10,.slice sa an ac,.int .i64 ai,.int .i64 ak,.string aw,.slice ar am ad] 37,.cells #[.int .i8 b0,.int .i64 b1,.int .i64 b2,.int .i64 b3,.int .i64 b4,.int .i64 b5,.int .i64 b6,.int .i64 b7,.int .i64 b8,.int .i64 b9,.int .i64 b10,.slice sb_ bn bc,.int .i64 bi,.int .i64 bk,.string bw,.slice br bm bd] 37]).heap[X.heap.size]? =some (.cells #[.int .i8 a0,.int .i64 a1,.int .i64 a2,.int .i64 a3,.int .i64 a4,.int .i64 a5,.int .i64 a6,.int .i64 a7,.int .i64 a8,.int .i64 a9,.int .i64 a10,.slice sa an ac,.int .i64 ai,.int .i64 ak,.string aw,.slice ar am ad] 37 (0,0)):=zi _ _ 0 _ rfl
 have e1:(zy X [.cells #[.int .i8 a0,.int .i64 a1,.int .i64 a2,.int .i64 a3,.int .i64 a4,.int .i64 a5,.int .i64 a6,.int .i64 a7,.int .i64 a8,.int .i64 a9,.int .i64 a10,.slice sa an ac,.int .i64 ai,.int .i64 ak,.string aw,.slice ar am ad] 37,.cells #[.int .i8 b0,.int .i64 b1,.int .i64 b2,.int .i64 b3,.int .i64 b4,.int .i64 b5,.int .i64 b6,.int .i64 b7,.int .i64 b8,.int .i64 b9,.int .i64 b10,.slice sb_ bn bc,.int .i64 bi,.int .i64 bk,.string bw,.slice br bm bd] 37]).heap[X.heap.size+1]? =some (.cells #[.int .i8 b0,.int .i64 b1,.int .i64 b2,.int .i64 b3,.int .i64 b4,.int .i64 b5,.int .i64 b6,.int .i64 b7,.int .i64 b8,.int .i64 b9,.int .i64 b10,.slice sb_ bn bc,.int .i64 bi,.int .i64 bk,.string bw,.slice br bm bd] 37 (0,0)):=zi _ _ 1 _ rfl
 have HSS:=hH hs
 have HTT:=hH ht
 have HLA:=hH (fun (Y:World) (h:Below (zy X [.cells #[.int .i8 a0,.int .i64 a1,.int .i64 a2,.int .i64 a3,.int .i64 a4,.int .i64 a5,.int .i64 a6,.int .i64 a7,.int .i64 a8,.int .i64 a9,.int .i64 a10,.slice sa an ac,.int .i64 ai,.int .i64 ak,.string aw,.slice ar am ad] 37,.cells #[.int .i8 b0,.int .i64 b1,.int .i64 b2,.int .i64 b3,.int .i64 b4,.int .i64 b5,.int .i64 b6,.int .i64 b7,.int .i64 b8,.int .i64 b9,.int .i64 b10,.slice sb_ bn bc,.int .i64 bi,.int .i64 bk,.string bw,.slice br bm bd] 37]).heap.size (zy X [.cells #[.int .i8 a0,.int .i64 a1,.int .i64 a2,.int .i64 a3,.int .i64 a4,.int .i64 a5,.int .i64 a6,.int .i64 a7,.int .i64 a8,.int .i64 a9,.int .i64 a10,.slice sa an ac,.int .i64 ai,.int .i64 ak,.string aw,.slice ar am ad] 37,.cells #[.int .i8 b0,.int .i64 b1,.int .i64 b2,.int .i64 b3,.int .i64 b4,.int .i64 b5,.int .i64 b6,.int .i64 b7,.int .i64 b8,.int .i64 b9,.int .i64 b10,.slice sb_ bn bc,.int .i64 bi,.int .i64 bk,.string bw,.slice br bm bd] 37]) Y)=>(show Y.cell? ⟨X.heap.size,12,none⟩=some (.int .i64 ai)∧Y.cell? ⟨X.heap.size,13,none⟩=some (.int .i64 ak)∧Y.cell? ⟨X.heap.size,14,none⟩=some (.string aw)∧Y.cell? ⟨X.heap.size,15,none⟩=some (.slice ar am ad)∧Y.cell? ⟨X.heap.size+1,12,none⟩=some (.int .i64 bi)∧Y.cell? ⟨X.heap.size+1,13,none⟩=some (.int .i64 bk)∧Y.cell? ⟨X.heap.size+1,14,none⟩=some (.string bw)∧Y.cell? ⟨X.heap.size+1,15,none⟩=some (.slice br bm bd) by
  have f0:=(h.block _ (lohQ e0)).trans e0
  have f1:=(h.block _ (lohQ e1)).trans e1
  exact⟨by rw[corQ _ _ 12 _ _ _ f0];rfl,by rw[corQ _ _ 13 _ _ _ f0];rfl,by rw[corQ _ _ 14 _ _ _ f0];rfl,by rw[corQ _ _ 15 _ _ _ f0];rfl,by rw[corQ _ _ 12 _ _ _ f1];rfl,by rw[corQ _ _ 13 _ _ _ f1];rfl,by rw[corQ _ _ 14 _ _ _ f1];rfl,by rw[corQ _ _ 15 _ _ _ f1];rfl⟩))
 clear hs ht e0 e1
 go_enter Tryz.func25,Tryz.ntmps25
 go_wp2_with fail
 refine (HSS.out _ (zF _ _ _)).mono ?_
 rintro e Z ⟨rfl,hz⟩
 have HZ:=hH ((zF X _ _).trans (hz.mono (zF X _ _).size))
 obtain⟨x0,x1,x2,x3,y0,y1,y2,y3⟩:=HLA.out Z hz
 clear hz HLA h0 h1 h2 h3 h4 h5 h6 h7 h8 h9 h10
 go_wp2_with fail
 refine (HTT.out Z HZ.out).mono ?_
 rintro e V ⟨rfl,hv⟩
 have HVV:=hH (HZ.out.trans (hv.mono HZ.out.size))
 clear hv x0 x1 x2 x3 y0 y1 y2 y3
 go_wp2_with fail
 go_ret
 exact⟨rfl,HVV.out⟩
theorem qD (X:World)(a0 a1 a2 a3 a4 a5 a6 a7 a8 a9 a10 ai ak:Int)(sa ar:Option Addr)(an ac am ad:Nat)(aw:ByteArray)(b0 b1 b2 b3 b4 b5 b6 b7 b8 b9 b10 bi bk:Int)(sb_ br:Option Addr)(bn bc bm bd:Nat)(bw:ByteArray)(sb tb:Bool)(hs:∀Y,Below X.heap.size X Y→Calls Tryz.prog 14 #[.slice sa an ac,.slice sb_ bn bc] Y (fun e Z=>e= .returned (.bool sb)∧Below Y.heap.size Y Z))(ht:∀Y,Below X.heap.size X Y→Calls Tryz.prog 64 #[.agg #[.int .i64 ai,.int .i64 ak,.string aw,.slice ar am ad],.agg #[.int .i64 bi,.int .i64 bk,.string bw,.slice br bm bd]] Y (fun e Z=>e= .returned (.bool tb)∧Below Y.heap.size Y Z)):Calls Tryz.prog 25 #[.agg #[.int .i8 a0,.int .i64 a1,.int .i64 a2,.int .i64 a3,.int .i64 a4,.int .i64 a5,.int .i64 a6,.int .i64 a7,.int .i64 a8,.int .i64 a9,.int .i64 a10,.slice sa an ac,.int .i64 ai,.int .i64 ak,.string aw,.slice ar am ad],.agg #[.int .i8 b0,.int .i64 b1,.int .i64 b2,.int .i64 b3,.int .i64 b4,.int .i64 b5,.int .i64 b6,.int .i64 b7,.int .i64 b8,.int .i64 b9,.int .i64 b10,.slice sb_ bn bc,.int .i64 bi,.int .i64 bk,.string bw,.slice br bm bd]] X (zx (zP ⟨a0,a1,a2,a3,a4,a5,a6,a7,a8,a9,a10⟩ ⟨b0,b1,b2,b3,b4,b5,b6,b7,b8,b9,b10⟩ && (sb && tb)) X):=by
 unfold zP
 cases h0:(a0 == b0)
 · simpa only[h0,Bool.false_and,Bool.true_and,Bool.and_false] using zd9 X a0 a1 a2 a3 a4 a5 a6 a7 a8 a9 a10 ai ak sa ar an ac am ad aw b0 b1 b2 b3 b4 b5 b6 b7 b8 b9 b10 bi bk sb_ br bn bc bm bd bw h0
 cases h1:(a1 == b1)
 · simpa only[h1,h0,Bool.false_and,Bool.true_and,Bool.and_false] using zea X a0 a1 a2 a3 a4 a5 a6 a7 a8 a9 a10 ai ak sa ar an ac am ad aw b0 b1 b2 b3 b4 b5 b6 b7 b8 b9 b10 bi bk sb_ br bn bc bm bd bw h0 h1
 cases h2:(a2 == b2)
 · simpa only[h2,h0,h1,Bool.false_and,Bool.true_and,Bool.and_false] using zeb X a0 a1 a2 a3 a4 a5 a6 a7 a8 a9 a10 ai ak sa ar an ac am ad aw b0 b1 b2 b3 b4 b5 b6 b7 b8 b9 b10 bi bk sb_ br bn bc bm bd bw h0 h1 h2
 cases h3:(a3 == b3)
 · simpa only[h3,h0,h1,h2,Bool.false_and,Bool.true_and,Bool.and_false] using zec X a0 a1 a2 a3 a4 a5 a6 a7 a8 a9 a10 ai ak sa ar an ac am ad aw b0 b1 b2 b3 b4 b5 b6 b7 b8 b9 b10 bi bk sb_ br bn bc bm bd bw h0 h1 h2 h3
 cases h4:(a4 == b4)
 · simpa only[h4,h0,h1,h2,h3,Bool.false_and,Bool.true_and,Bool.and_false] using zed X a0 a1 a2 a3 a4 a5 a6 a7 a8 a9 a10 ai ak sa ar an ac am ad aw b0 b1 b2 b3 b4 b5 b6 b7 b8 b9 b10 bi bk sb_ br bn bc bm bd bw h0 h1 h2 h3 h4
 cases h5:(a5 == b5)
 · simpa only[h5,h0,h1,h2,h3,h4,Bool.false_and,Bool.true_and,Bool.and_false] using zee X a0 a1 a2 a3 a4 a5 a6 a7 a8 a9 a10 ai ak sa ar an ac am ad aw b0 b1 b2 b3 b4 b5 b6 b7 b8 b9 b10 bi bk sb_ br bn bc bm bd bw h0 h1 h2 h3 h4 h5
 cases h6:(a6 == b6)
 · simpa only[h6,h0,h1,h2,h3,h4,h5,Bool.false_and,Bool.true_and,Bool.and_false] using zef X a0 a1 a2 a3 a4 a5 a6 a7 a8 a9 a10 ai ak sa ar an ac am ad aw b0 b1 b2 b3 b4 b5 b6 b7 b8 b9 b10 bi bk sb_ br bn bc bm bd bw h0 h1 h2 h3 h4 h5 h6
 cases h7:(a7 == b7)
 · simpa only[h7,h0,h1,h2,h3,h4,h5,h6,Bool.false_and,Bool.true_and,Bool.and_false] using zeg X a0 a1 a2 a3 a4 a5 a6 a7 a8 a9 a10 ai ak sa ar an ac am ad aw b0 b1 b2 b3 b4 b5 b6 b7 b8 b9 b10 bi bk sb_ br bn bc bm bd bw h0 h1 h2 h3 h4 h5 h6 h7
 cases h8:(a8 == b8)
 · simpa only[h8,h0,h1,h2,h3,h4,h5,h6,h7,Bool.false_and,Bool.true_and,Bool.and_false] using zeh X a0 a1 a2 a3 a4 a5 a6 a7 a8 a9 a10 ai ak sa ar an ac am ad aw b0 b1 b2 b3 b4 b5 b6 b7 b8 b9 b10 bi bk sb_ br bn bc bm bd bw h0 h1 h2 h3 h4 h5 h6 h7 h8
 cases h9:(a9 == b9)
 · simpa only[h9,h0,h1,h2,h3,h4,h5,h6,h7,h8,Bool.false_and,Bool.true_and,Bool.and_false] using zei X a0 a1 a2 a3 a4 a5 a6 a7 a8 a9 a10 ai ak sa ar an ac am ad aw b0 b1 b2 b3 b4 b5 b6 b7 b8 b9 b10 bi bk sb_ br bn bc bm bd bw h0 h1 h2 h3 h4 h5 h6 h7 h8 h9
 cases h10:(a10 == b10)
 · simpa only[h10,h0,h1,h2,h3,h4,h5,h6,h7,h8,h9,Bool.false_and,Bool.true_and,Bool.and_false] using zcG X a0 a1 a2 a3 a4 a5 a6 a7 a8 a9 a10 ai ak sa ar an ac am ad aw b0 b1 b2 b3 b4 b5 b6 b7 b8 b9 b10 bi bk sb_ br bn bc bm bd bw h0 h1 h2 h3 h4 h5 h6 h7 h8 h9 h10
 simp only[h0,h1,h2,h3,h4,h5,h6,h7,h8,h9,h10,Bool.true_and]
 cases hsb:sb
 · simpa only[Bool.false_and] using zej X a0 a1 a2 a3 a4 a5 a6 a7 a8 a9 a10 ai ak sa ar an ac am ad aw b0 b1 b2 b3 b4 b5 b6 b7 b8 b9 b10 bi bk sb_ br bn bc bm bd bw sb h0 h1 h2 h3 h4 h5 h6 h7 h8 h9 h10 hs hsb
 · simpa only[Bool.true_and] using zek X a0 a1 a2 a3 a4 a5 a6 a7 a8 a9 a10 ai ak sa ar an ac am ad aw b0 b1 b2 b3 b4 b5 b6 b7 b8 b9 b10 bi bk sb_ br bn bc bm bd bw sb tb h0 h1 h2 h3 h4 h5 h6 h7 h8 h9 h10 hs ht hsb
end Go.Proofs.YtoidedomenkbpaaGreat
