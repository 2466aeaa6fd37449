/-
  .
-/
import Derived.Test.YtoidedomenkbpaaGreatCAddNodeQs
import Derived.Test.YtoidedomenkbpaaGreatCNodeWQs
set_option maxRecDepth 100000
set_option maxHeartbeats 40000000

namespace Go.Proofs.YtoidedomenkbpaaGreat
open Go.RowKit
open Extern.Stop (cell)
structure Stp where
 op:Int
 id:Int
 parent:Int
 place:Int
 text:ByteArray
 sub:Tr
def zkN (w:World)(S:Nat→Prop)(v:Value)(s:Stp):Prop:=
 ∃ka cap,v= .agg #[.int .i8 s.op,.int .i64 s.id,.int .i64 s.parent,.int .i64 s.place,.string s.text,.int .i64 s.sub.id,.int .i64 s.sub.kind,.string s.sub.text,.slice ka (foLen s.sub.kids) cap]∧foLen s.sub.kids≤cap∧zQ w S s.sub.kids ka
def vL (w:World)(S:Nat→Prop)(a:Option Addr)(l:List Stp):Prop:=
 0 <l.length→∃b off,a=some ⟨b,off,none⟩∧S b∧∀k x,l[k]? =some x→∃ka cap,w.cell? ⟨b,off+k*9,none⟩=some (.int .i8 x.op)∧w.cell? ⟨b,off+k*9+1,none⟩=some (.int .i64 x.id)∧w.cell? ⟨b,off+k*9+2,none⟩=some (.int .i64 x.parent)∧
  w.cell? ⟨b,off+k*9+3,none⟩=some (.int .i64 x.place)∧w.cell? ⟨b,off+k*9+4,none⟩=some (.string x.text)∧w.cell? ⟨b,off+k*9+5,none⟩=some (.int .i64 x.sub.id)∧w.cell? ⟨b,off+k*9+6,none⟩=some (.int .i64 x.sub.kind)∧
  w.cell? ⟨b,off+k*9+7,none⟩=some (.string x.sub.text)∧w.cell? ⟨b,off+k*9+8,none⟩=some (.slice ka (foLen x.sub.kids) cap)∧foLen x.sub.kids≤cap∧zQ w S x.sub.kids ka
theorem vL.kept {w w' :World}{S S' :Nat→Prop}{a:Option Addr}{l:List Stp}(h:vL w S a l)(hS:∀k,S k→S' k∧w'.heap[k]? =w.heap[k]?):vL w' S' a l:=fun h0=>by
 obtain⟨b,off,e,hb,hc⟩:=h h0
 refine⟨b,off,e,(hS b hb).1,fun k x hx=>?_⟩
 obtain⟨ka,cap,c0,c1,c2,c3,c4,c5,c6,c7,c8,hp,hf⟩:=hc k x hx
 have hh:=(hS b hb).2
 exact⟨ka,cap,(World.cell?_of_block hh).trans c0,(World.cell?_of_block hh).trans c1,(World.cell?_of_block hh).trans c2,(World.cell?_of_block hh).trans c3,(World.cell?_of_block hh).trans c4,(World.cell?_of_block hh).trans c5,(World.cell?_of_block hh).trans c6,(World.cell?_of_block hh).trans c7,(World.cell?_of_block hh).trans c8,hp,hf.kept hS⟩
def jI (n:Int):UInt8:=UInt8.ofNat (n % 256).toNat
theorem zdp (n:Int):cell (jI n)= .int .u8 (n % 256):=by
 have h0:0≤n % 256:=Int.emod_nonneg _ ue0
 have h1:n % 256<256:=Int.emod_lt_of_pos _ ue0
 have e:(jI n).toNat=(n % 256).toNat:=by
  unfold jI
  rw[UInt8.toNat_ofNat'];omega
 show Value.int .u8 ((jI n).toNat:Int)=_
 rw[e,Int.toNat_of_nonneg h0]
def encS (s:Stp):List UInt8:=[jI s.op]++zq s.id++zq s.parent++zq s.place++(zq (s.text.size:Int)++s.text.data.toList)++qa s.sub
theorem kE (s:Stp):(encS s).length=33+s.text.size+(qa s.sub).length:=by
 simp only[encS,LlaQ,zw,Zp,List.length_singleton];omega
theorem kK.more {B:Nat}{v:Value}{bs:List UInt8}{W0 w:World}{x:UInt8}{c:Int}(hc:cell x= .int .u8 c)(h:jQ B v (bs.length+1) (bs.map cell++[.int .u8 c]) W0 w):kK B v (bs++[x]) W0 w:=by
 show jQ B v (bs++[x]).length ((bs++[x]).map cell) W0 w
 rw[LlaQ,List.map_append,List.map_singleton,hc];exact h
theorem J3 {w w' :World}{a0 a1 a2 a3 a4 a5 a6 a7 a8:Value}{t:TypeId}(h:vO (w.alloc (.cells #[a0,a1,a2,a3,a4,a5,a6,a7,a8] t)) w')(ht:(t == 5)=false):(w'.cell? ⟨w.heap.size,0,none⟩=some a0∧w'.cell? ⟨w.heap.size,1,none⟩=some a1∧w'.cell? ⟨w.heap.size,2,none⟩=some a2∧w'.cell? ⟨w.heap.size,3,none⟩=some a3∧w'.cell? ⟨w.heap.size,4,none⟩=some a4)∧w'.cell? ⟨w.heap.size,5,none⟩=some a5∧w'.cell? ⟨w.heap.size,6,none⟩=some a6∧w'.cell? ⟨w.heap.size,7,none⟩=some a7∧w'.cell? ⟨w.heap.size,8,none⟩=some a8:=by
 have h1:=h _ _ (hanQ w _) (by simp[zbq,ht])
 exact⟨⟨by rw[corQ _ _ 0 _ _ _ h1];rfl,by rw[corQ _ _ 1 _ _ _ h1];rfl,by rw[corQ _ _ 2 _ _ _ h1];rfl,by rw[corQ _ _ 3 _ _ _ h1];rfl,by rw[corQ _ _ 4 _ _ _ h1];rfl⟩,by rw[corQ _ _ 5 _ _ _ h1];rfl,by rw[corQ _ _ 6 _ _ _ h1];rfl,by rw[corQ _ _ 7 _ _ _ h1];rfl,by rw[corQ _ _ 8 _ _ _ h1];rfl⟩
theorem zcH (w:World)(B:Nat)(v:Value)(bs:List UInt8)(S:Nat→Prop)(sv:Value)(s:Stp)(h:kK B v bs w w)(hS:∀k,S k→k<B)(hs:zkN w S sv s)(hl:bs.length+(encS s).length≤1000000000000):
 Calls Tryz.prog 266 #[v,sv] w (zbU B (bs++encS s) w):=by
 obtain⟨ka,cap,rfl,hcap,hk⟩:=hs
 rw[kE] at hl
 obtain⟨i0,hi,hz,hsz,hby⟩:=zbZ Tryz.zfi
 have HI:=hH (aN hi (aN hz (aN hsz hby)))
 obtain⟨len,hlen⟩:∃len,len=foLen s.sub.kids:=⟨_,rfl⟩
 rw[←hlen]
 have H:=hH (aN h (aN hS (aN hk (aN hl (aN hcap hlen)))))
 clear h hS hk hl hcap hlen hi hz hsz hby
 go_enter Tryz.func266,Tryz.ntmps266
 go_wp2_with (first
  | (at_builtin;refine Jv rfl (.tmp 5) (.tmp 9) 45 rfl B i0 Tryz.underlying45 HI.out.1 HI.out.2.1 HI.out.2.2.1 HI.out.2.2.2 _ bs.length (bs.map cell) rfl _ _ _ (H.out.1.alloc _).here (w.heap.size+1) sp rfl (by have:=H.out.2.2.2.1;omega) ?_;intro v0 w1 ho;have h1:=kK.more (zdp _) ho;have d1:=(J3 h1.2 rfl).1.2.1;have HA:=hH (yZ w1 _ B v0 _ s.id h1 (by have:=H.out.2.2.2.1;simp only[LlaQ,List.length_singleton];omega));clear ho h1)
  | (go_at_call 265;(with_reducible refine HA.out.mono ?_);clear HA;rintro e w2 ⟨v1,rfl,h1⟩;have d2:=(J3 h1.2 rfl).1.2.2.1;have HB:=hH (yZ w2 _ B v1 _ s.parent h1 ub7);clear h1)
  | (go_at_call 265;(with_reducible refine HB.out.mono ?_);clear HB;rintro e w3 ⟨v2,rfl,h1⟩;have d3:=(J3 h1.2 rfl).1.2.2.2.1;have HC:=hH (yZ w3 _ B v2 _ s.place h1 ub7);clear h1)
  | (go_at_call 265;(with_reducible refine HC.out.mono ?_);clear HC;rintro e w4 ⟨v3,rfl,h1⟩;have d4:=(J3 h1.2 rfl).1.2.2.2.2;have HD:=hH (Jg w4 _ B v3 _ s.text h1 ub7 (by have:=H.out.2.2.2.1;omega));clear h1)
  | (go_at_call 268;(with_reducible refine HD.out.mono ?_);clear HD;rintro e w5 ⟨v4,rfl,h1⟩;obtain⟨d5,d6,d7,d8⟩:=(J3 h1.2 rfl).2;have HE:=hH (aN h1 (Jf w5 B v4 _ S (.agg #[.int .i64 s.sub.id,.int .i64 s.sub.kind,.string s.sub.text,.slice ka len cap]) s.sub h1.here H.out.2.1 ⟨ka,cap,by rw[H.out.2.2.2.2.2],H.out.2.2.2.2.1,H.out.2.2.1.kept fun x hx=>⟨hx,(h1.1.2.1.block x (H.out.2.1 x hx)).trans (BhaQ _ _ _ (nL (H.out.2.1 x hx) H.out.1.1.2.2))⟩⟩ (by have:=H.out.2.2.2.1;simp only[LlaQ,List.length_singleton,zw,Zp];omega)));clear h1)
  | (go_at_call 267;(with_reducible refine HE.out.2.mono ?_);rintro e w6 ⟨v5,rfl,h1⟩;have HF:=hH h1;clear h1))
 go_ret
 refine⟨v5,rfl,?_⟩
 have h2:=(H.out.1.alloc (.cells #[.int .i8 s.op,.int .i64 s.id,.int .i64 s.parent,.int .i64 s.place,.string s.text,.int .i64 s.sub.id,.int .i64 s.sub.kind,.string s.sub.text,.slice ka len cap] 41)).since (HE.out.1.since HF.out)
 have e9:bs++encS s=bs++[jI s.op]++zq s.id++zq s.parent++zq s.place++(zq (s.text.size:Int)++s.text.data.toList)++qa s.sub:=by simp[encS,List.append_assoc]
 rw[e9];exact h2
def jL (d : List UInt8)(p:Nat):Got Stp:=
 match vZ d p with
 | .error e=> .error e
 | .ok (op, q1)=>match jW d q1 with
   | .error e=> .error e
   | .ok (id,q2)=>match jW d q2 with
     | .error e=> .error e
     | .ok (pa,q3)=>match jW d q3 with
       | .error e=> .error e
       | .ok (pl,q4)=>match Yq d q4 with
         | .error e=> .error e
         | .ok (tx,q5)=>match jo d q5 with
           | .error e=> .error e
           | .ok (t,q6)=> .ok (⟨op,id,pa,pl,tx,t⟩,q6)
abbrev zcA:Array Value:= #[.int .i8 0,.int .i64 0,.int .i64 0,.int .i64 0,.string ⟨#[]⟩,.int .i64 0,.int .i64 0,.string ⟨#[]⟩,.slice none 0 0]
structure SSt (w:World) (b:Nat) (dv:Value) (xc:Array Value) (s:Rd) (wr:World):Prop where
 rd:zT wr b dv s
 low:b<w.heap.size∧∀g,dv.ownBlock=some g→g<w.heap.size
 rs:wr.heap[w.heap.size]? =some (.cells zcA 41 (0,0))
 x:wr.heap[w.heap.size+1]? =some (.cells xc 41 (0,0))
 tch:za w wr (fun k=>k=b)
theorem SSt.read {w wr w' :World}{b:Nat}{dv:Value}{xc:Array Value}{s s' :Rd}(h:SSt w b dv xc s wr)(hr:zT w' b dv s')(ht:za wr w' (fun k=>k=b)):SSt w b dv xc s' w':=by
 have hb:=h.low.1
 exact⟨hr,h.low,(ht.block _ (lohQ h.rs) om1).trans h.rs,(ht.block _ (lohQ h.x) om1).trans h.x,h.tch.trans ht (fun k hk=>Or.inl hk)⟩
theorem SSt.set {w wr:World}{b:Nat}{dv:Value}{xc:Array Value}{s:Rd}(h:SSt w b dv xc s wr)(i:Nat)(v:Value):SSt w b dv (xc.setIfInBounds i v) s (wr.setCell ⟨w.heap.size+1,i,none⟩ v):=by
 have hb:=h.low.1
 have ht:za wr (wr.setCell ⟨w.heap.size+1,i,none⟩ v) (fun k=>k=w.heap.size+1):=za.setCell (S:=fun k=>k=w.heap.size+1) (a:=⟨w.heap.size+1,i,none⟩) rfl _
 exact⟨h.rd.kept ht om1 (fun g hg e=>by have:=h.low.2 g hg;omega),h.low,(ht.block _ (lohQ h.rs) om1).trans h.rs,by rw[hssQ wr _ i _ _ _ h.x],h.tch.trans ht (fun k hk=>Or.inr om1)⟩
theorem SSt.start {w:World}{b:Nat}{dv:Value}{s:Rd}(h:zT w b dv s):SSt w b dv zcA s ((w.alloc (.cells zcA 41)).alloc (.cells zcA 41)):=
 ⟨(h.alloc _).alloc _,⟨lohQ h.here,qO h.owns⟩,heap_alloc2_old w _ _,heap_alloc2_new w _ _,((za.refl w _).alloc _).alloc _⟩
theorem nine {w:World}{k:Nat}{x0 x1 x2 x3 x4 x5 x6 x7 x8:Value}(h:w.heap[k]? =some (.cells #[x0,x1,x2,x3,x4,x5,x6,x7,x8] 41 (0,0))):(w.cell? ⟨k,0,none⟩=some x0∧w.cell? ⟨k,1,none⟩=some x1∧w.cell? ⟨k,2,none⟩=some x2∧w.cell? ⟨k,3,none⟩=some x3∧w.cell? ⟨k,4,none⟩=some x4)∧(w.cell? ⟨k,5,none⟩=some x5∧w.cell? ⟨k,6,none⟩=some x6∧w.cell? ⟨k,7,none⟩=some x7∧w.cell? ⟨k,8,none⟩=some x8)∧∀j,w.frozen? ⟨k,j,none⟩=false:=
 ⟨⟨by rw[corQ _ _ 0 _ _ _ h];rfl,by rw[corQ _ _ 1 _ _ _ h];rfl,by rw[corQ _ _ 2 _ _ _ h];rfl,by rw[corQ _ _ 3 _ _ _ h];rfl,by rw[corQ _ _ 4 _ _ _ h];rfl⟩,⟨by rw[corQ _ _ 5 _ _ _ h];rfl,by rw[corQ _ _ 6 _ _ _ h];rfl,by rw[corQ _ _ 7 _ _ _ h];rfl,by rw[corQ _ _ 8 _ _ _ h];rfl⟩,fun j=>forQ w k j _ _ h⟩
theorem zlT {w:World}{k:Nat}{t:TypeId}{c0 c1 c2 c3 c4 c5 c6 c7 c8:Value}(h:w.heap[k]? =some (.cells #[c0,c1,c2,c3,c4,c5,c6,c7,c8] t (0,0)))(u0 u1 u2 u3 u4 u5 u6 u7 u8:Value)(W:World)
 (hW:W=(((((((((w.setCell ⟨k,0,none⟩ u0).setCell ⟨k,1,none⟩ u1).setCell ⟨k,2,none⟩ u2).setCell ⟨k,3,none⟩ u3).setCell ⟨k,4,none⟩ u4).setCell ⟨k,5,none⟩ u5).setCell ⟨k,6,none⟩ u6).setCell ⟨k,7,none⟩ u7).setCell ⟨k,8,none⟩ u8)):
 W.heap[k]? =some (.cells #[u0,u1,u2,u3,u4,u5,u6,u7,u8] t (0,0))∧za w W (fun x=>x=k)∧W.heap.size=w.heap.size:=by
 have st:∀(v:World) (i:Nat) (u:Value),za v (v.setCell ⟨k,i,none⟩ u) (fun x=>x=k):=fun v i u=>za.setCell (S:=fun x=>x=k) (a:=⟨k,i,none⟩) rfl u
 have tr:∀{x y z:World},za x y (fun x=>x=k)→za y z (fun x=>x=k)→za x z (fun x=>x=k):=fun h1 h2=>h1.trans h2 (fun _ hk=>Or.inl hk)
 have h0:(w.setCell ⟨k,0,none⟩ u0).heap[k]? =some (.cells #[u0,c1,c2,c3,c4,c5,c6,c7,c8] t (0,0)):=hssQ _ k 0 _ _ u0 h
 have h1:((w.setCell ⟨k,0,none⟩ u0).setCell ⟨k,1,none⟩ u1).heap[k]? =some (.cells #[u0,u1,c2,c3,c4,c5,c6,c7,c8] t (0,0)):=hssQ _ k 1 _ _ u1 h0
 have h2:(((w.setCell ⟨k,0,none⟩ u0).setCell ⟨k,1,none⟩ u1).setCell ⟨k,2,none⟩ u2).heap[k]? =some (.cells #[u0,u1,u2,c3,c4,c5,c6,c7,c8] t (0,0)):=hssQ _ k 2 _ _ u2 h1
 have h3:((((w.setCell ⟨k,0,none⟩ u0).setCell ⟨k,1,none⟩ u1).setCell ⟨k,2,none⟩ u2).setCell ⟨k,3,none⟩ u3).heap[k]? =some (.cells #[u0,u1,u2,u3,c4,c5,c6,c7,c8] t (0,0)):=hssQ _ k 3 _ _ u3 h2
 have h4:(((((w.setCell ⟨k,0,none⟩ u0).setCell ⟨k,1,none⟩ u1).setCell ⟨k,2,none⟩ u2).setCell ⟨k,3,none⟩ u3).setCell ⟨k,4,none⟩ u4).heap[k]? =some (.cells #[u0,u1,u2,u3,u4,c5,c6,c7,c8] t (0,0)):=hssQ _ k 4 _ _ u4 h3
 have h5:((((((w.setCell ⟨k,0,none⟩ u0).setCell ⟨k,1,none⟩ u1).setCell ⟨k,2,none⟩ u2).setCell ⟨k,3,none⟩ u3).setCell ⟨k,4,none⟩ u4).setCell ⟨k,5,none⟩ u5).heap[k]? =some (.cells #[u0,u1,u2,u3,u4,u5,c6,c7,c8] t (0,0)):=hssQ _ k 5 _ _ u5 h4
 have h6:(((((((w.setCell ⟨k,0,none⟩ u0).setCell ⟨k,1,none⟩ u1).setCell ⟨k,2,none⟩ u2).setCell ⟨k,3,none⟩ u3).setCell ⟨k,4,none⟩ u4).setCell ⟨k,5,none⟩ u5).setCell ⟨k,6,none⟩ u6).heap[k]? =some (.cells #[u0,u1,u2,u3,u4,u5,u6,c7,c8] t (0,0)):=hssQ _ k 6 _ _ u6 h5
 have h7:((((((((w.setCell ⟨k,0,none⟩ u0).setCell ⟨k,1,none⟩ u1).setCell ⟨k,2,none⟩ u2).setCell ⟨k,3,none⟩ u3).setCell ⟨k,4,none⟩ u4).setCell ⟨k,5,none⟩ u5).setCell ⟨k,6,none⟩ u6).setCell ⟨k,7,none⟩ u7).heap[k]? =some (.cells #[u0,u1,u2,u3,u4,u5,u6,u7,c8] t (0,0)):=hssQ _ k 7 _ _ u7 h6
 have h8:(((((((((w.setCell ⟨k,0,none⟩ u0).setCell ⟨k,1,none⟩ u1).setCell ⟨k,2,none⟩ u2).setCell ⟨k,3,none⟩ u3).setCell ⟨k,4,none⟩ u4).setCell ⟨k,5,none⟩ u5).setCell ⟨k,6,none⟩ u6).setCell ⟨k,7,none⟩ u7).setCell ⟨k,8,none⟩ u8).heap[k]? =some (.cells #[u0,u1,u2,u3,u4,u5,u6,u7,u8] t (0,0)):=hssQ _ k 8 _ _ u8 h7
 have hs:∀(v:World) (i:Nat) (u:Value),(v.setCell ⟨k,i,none⟩ u).heap.size=v.heap.size:=fun v i u=>by simp[World.setCell]
 have a0:=st w 0 u0
 have a1:=tr a0 (st _ 1 u1)
 have a2:=tr a1 (st _ 2 u2)
 have a3:=tr a2 (st _ 3 u3)
 have a4:=tr a3 (st _ 4 u4)
 have a5:=tr a4 (st _ 5 u5)
 have a6:=tr a5 (st _ 6 u6)
 have a7:=tr a6 (st _ 7 u7)
 have a8:=tr a7 (st _ 8 u8)
 rw[←hW] at h8 a8
 exact⟨h8,a8,by rw[hW,hs,hs,hs,hs,hs,hs,hs,hs,hs]⟩
abbrev zjE (w:World):Stp→Value→World→Prop:=fun x v w'=>zkN w' (jC w w') v x
theorem zhP (w :World)(b:Nat)(dv:Value)(s:Rd)(h:zT w b dv s):Calls Tryz.prog 285 #[.pointer (some ⟨b,0,none⟩)] w (JC (zjE w) w b dv s (jL s.data s.pos)):=by
 obtain⟨out,hout⟩:∃out,out=jL s.data s.pos:=⟨_,rfl⟩
 rw[←hout]
 have HO:=hH hout
 have hst:=SSt.start h
 have H0:=hH hst
 have hc0:=ZN _ b dv s hst.rd
 have HC0:=hH hc0
 obtain⟨⟨x0,x1,x2,x3,x4⟩,⟨x5,x6,x7,x8⟩,xf⟩:=nine hst.x
 clear hst hout h hc0
 go_enter Tryz.func285,Tryz.ntmps285
 go_wp2_with fail
 cases hp1:vZ s.data s.pos with
 | error e1=>
   have ho:out= .error e1:=by
    rw[HO.out];simp only[jL,hp1]
   subst ho
   have hc:=HC0.out
   rw[hp1] at hc
   refine hc.mono ?_
   rintro e w4 ⟨rfl,h1,h2⟩
   clear hc hp1 HO
   go_wp2_with fail
   exact⟨rfl,rfl,h1,(H0.out.read h1 h2).tch⟩
 | ok y1 =>
   obtain⟨op,q1⟩:=y1
   have hc:=HC0.out
   rw[hp1] at hc
   refine hc.mono ?_
   rintro e w1 ⟨v4,rfl,rfl,h1,h2⟩
   have HP1:=hH hp1
   have hs4:SSt w b dv #[.int .i8 0,.int .i64 0,.int .i64 0,.int .i64 0,.string ⟨#[]⟩,.int .i64 0,.int .i64 0,.string ⟨#[]⟩,.slice none 0 0] { s with pos:=q1 } w1:=H0.out.read h1 h2
   obtain⟨⟨z0,z1,z2,z3,z4⟩,⟨z5,z6,z7,z8⟩,zf⟩:=nine hs4.x
   have hs5:SSt w b dv #[.int .i8 op,.int .i64 0,.int .i64 0,.int .i64 0,.string ⟨#[]⟩,.int .i64 0,.int .i64 0,.string ⟨#[]⟩,.slice none 0 0] { s with pos:=q1 } (w1.setCell ⟨w.heap.size+1,0,none⟩ (.int .i8 op)):=hs4.set 0 (.int .i8 op)
   have hcn:=jm _ b dv { s with pos:=q1 } hs5.rd
   have HC1:=hH hcn
   have HS1:=hH hs5
   clear hc hp1 h1 h2 hs4 hs5 hcn x0 x1 x2 x3 x4 x5 x6 x7 x8 xf HC0
   have x0:=z0
   have x1:=z1
   have x2:=z2
   have x3:=z3
   have x4:=z4
   have x5:=z5
   have x6:=z6
   have x7:=z7
   have x8:=z8
   have xf:=zf
   clear z0 z1 z2 z3 z4 z5 z6 z7 z8 zf
   go_wp2_with fail
   cases hp2:jW s.data q1 with
   | error e1=>
     have ho:out= .error e1:=by
      have hp1:=HP1.out;rw[HO.out];simp only[jL,hp1,hp2]
     subst ho
     have hc:=HC1.out
     rw[hp2] at hc
     refine hc.mono ?_
     rintro e w4 ⟨rfl,h1,h2⟩
     clear hc hp2 HO
     go_wp2_with fail
     exact⟨rfl,rfl,h1,(HS1.out.read h1 h2).tch⟩
   | ok y1 =>
     obtain⟨id,q2⟩:=y1
     have hc:=HC1.out
     rw[hp2] at hc
     refine hc.mono ?_
     rintro e w2 ⟨v4,rfl,rfl,h1,h2⟩
     have HP2:=hH hp2
     have hs4:SSt w b dv #[.int .i8 op,.int .i64 0,.int .i64 0,.int .i64 0,.string ⟨#[]⟩,.int .i64 0,.int .i64 0,.string ⟨#[]⟩,.slice none 0 0] { s with pos:=q2 } w2:=HS1.out.read h1 h2
     obtain⟨⟨z0,z1,z2,z3,z4⟩,⟨z5,z6,z7,z8⟩,zf⟩:=nine hs4.x
     have hs5:SSt w b dv #[.int .i8 op,.int .i64 id,.int .i64 0,.int .i64 0,.string ⟨#[]⟩,.int .i64 0,.int .i64 0,.string ⟨#[]⟩,.slice none 0 0] { s with pos:=q2 } (w2.setCell ⟨w.heap.size+1,1,none⟩ (.int .i64 id)):=hs4.set 1 (.int .i64 id)
     have hcn:=jm _ b dv { s with pos:=q2 } hs5.rd
     have HC2:=hH hcn
     have HS2:=hH hs5
     clear hc hp2 h1 h2 hs4 hs5 hcn x0 x1 x2 x3 x4 x5 x6 x7 x8 xf HC1
     have x0:=z0
     have x1:=z1
     have x2:=z2
     have x3:=z3
     have x4:=z4
     have x5:=z5
     have x6:=z6
     have x7:=z7
     have x8:=z8
     have xf:=zf
     clear z0 z1 z2 z3 z4 z5 z6 z7 z8 zf
     go_wp2_with fail
     cases hp3:jW s.data q2 with
     | error e1=>
       have ho:out= .error e1:=by
        have hp1:=HP1.out;have hp2:=HP2.out;rw[HO.out];simp only[jL,hp1,hp2,hp3]
       subst ho
       have hc:=HC2.out
       rw[hp3] at hc
       refine hc.mono ?_
       rintro e w4 ⟨rfl,h1,h2⟩
       clear hc hp3 HO
       go_wp2_with fail
       exact⟨rfl,rfl,h1,(HS2.out.read h1 h2).tch⟩
     | ok y1 =>
       obtain⟨pa,q3⟩:=y1
       have hc:=HC2.out
       rw[hp3] at hc
       refine hc.mono ?_
       rintro e w3 ⟨v4,rfl,rfl,h1,h2⟩
       have HP3:=hH hp3
       have hs4:SSt w b dv #[.int .i8 op,.int .i64 id,.int .i64 0,.int .i64 0,.string ⟨#[]⟩,.int .i64 0,.int .i64 0,.string ⟨#[]⟩,.slice none 0 0] { s with pos:=q3 } w3:=HS2.out.read h1 h2
       obtain⟨⟨z0,z1,z2,z3,z4⟩,⟨z5,z6,z7,z8⟩,zf⟩:=nine hs4.x
       have hs5:SSt w b dv #[.int .i8 op,.int .i64 id,.int .i64 pa,.int .i64 0,.string ⟨#[]⟩,.int .i64 0,.int .i64 0,.string ⟨#[]⟩,.slice none 0 0] { s with pos:=q3 } (w3.setCell ⟨w.heap.size+1,2,none⟩ (.int .i64 pa)):=hs4.set 2 (.int .i64 pa)
       have hcn:=jm _ b dv { s with pos:=q3 } hs5.rd
       have HC3:=hH hcn
       have HS3:=hH hs5
       clear hc hp3 h1 h2 hs4 hs5 hcn x0 x1 x2 x3 x4 x5 x6 x7 x8 xf HC2
       have x0:=z0
       have x1:=z1
       have x2:=z2
       have x3:=z3
       have x4:=z4
       have x5:=z5
       have x6:=z6
       have x7:=z7
       have x8:=z8
       have xf:=zf
       clear z0 z1 z2 z3 z4 z5 z6 z7 z8 zf
       go_wp2_with fail
       cases hp4:jW s.data q3 with
       | error e1=>
         have ho:out= .error e1:=by
          have hp1:=HP1.out;have hp2:=HP2.out;have hp3:=HP3.out;rw[HO.out];simp only[jL,hp1,hp2,hp3,hp4]
         subst ho
         have hc:=HC3.out
         rw[hp4] at hc
         refine hc.mono ?_
         rintro e w4 ⟨rfl,h1,h2⟩
         clear hc hp4 HO
         go_wp2_with fail
         exact⟨rfl,rfl,h1,(HS3.out.read h1 h2).tch⟩
       | ok y1 =>
         obtain⟨pl,q4⟩:=y1
         have hc:=HC3.out
         rw[hp4] at hc
         refine hc.mono ?_
         rintro e w4 ⟨v4,rfl,rfl,h1,h2⟩
         have HP4:=hH hp4
         have hs4:SSt w b dv #[.int .i8 op,.int .i64 id,.int .i64 pa,.int .i64 0,.string ⟨#[]⟩,.int .i64 0,.int .i64 0,.string ⟨#[]⟩,.slice none 0 0] { s with pos:=q4 } w4:=HS3.out.read h1 h2
         obtain⟨⟨z0,z1,z2,z3,z4⟩,⟨z5,z6,z7,z8⟩,zf⟩:=nine hs4.x
         have hs5:SSt w b dv #[.int .i8 op,.int .i64 id,.int .i64 pa,.int .i64 pl,.string ⟨#[]⟩,.int .i64 0,.int .i64 0,.string ⟨#[]⟩,.slice none 0 0] { s with pos:=q4 } (w4.setCell ⟨w.heap.size+1,3,none⟩ (.int .i64 pl)):=hs4.set 3 (.int .i64 pl)
         have hcn:=zbM _ b dv { s with pos:=q4 } hs5.rd
         have HC4:=hH hcn
         have HS4:=hH hs5
         clear hc hp4 h1 h2 hs4 hs5 hcn x0 x1 x2 x3 x4 x5 x6 x7 x8 xf HC3
         have x0:=z0
         have x1:=z1
         have x2:=z2
         have x3:=z3
         have x4:=z4
         have x5:=z5
         have x6:=z6
         have x7:=z7
         have x8:=z8
         have xf:=zf
         clear z0 z1 z2 z3 z4 z5 z6 z7 z8 zf
         go_wp2_with fail
         cases hp5:Yq s.data q4 with
         | error e1=>
           have ho:out= .error e1:=by
            have hp1:=HP1.out;have hp2:=HP2.out;have hp3:=HP3.out;have hp4:=HP4.out;rw[HO.out];simp only[jL,hp1,hp2,hp3,hp4,hp5]
           subst ho
           have hc:=HC4.out
           rw[hp5] at hc
           refine hc.mono ?_
           rintro e w4 ⟨rfl,h1,h2⟩
           clear hc hp5 HO
           go_wp2_with fail
           exact⟨rfl,rfl,h1,(HS4.out.read h1 h2).tch⟩
         | ok y1=>
           obtain⟨tx,q5⟩:=y1
           have hc:=HC4.out
           rw[hp5] at hc
           refine hc.mono ?_
           rintro e w5 ⟨v4,rfl,rfl,h1,h2⟩
           have HP5:=hH hp5
           have hs4:SSt w b dv #[.int .i8 op,.int .i64 id,.int .i64 pa,.int .i64 pl,.string ⟨#[]⟩,.int .i64 0,.int .i64 0,.string ⟨#[]⟩,.slice none 0 0] { s with pos:=q5 } w5:=HS4.out.read h1 h2
           obtain⟨⟨z0,z1,z2,z3,z4⟩,⟨z5,z6,z7,z8⟩,zf⟩:=nine hs4.x
           have hs5:SSt w b dv #[.int .i8 op,.int .i64 id,.int .i64 pa,.int .i64 pl,.string tx,.int .i64 0,.int .i64 0,.string ⟨#[]⟩,.slice none 0 0] { s with pos:=q5 } (w5.setCell ⟨w.heap.size+1,4,none⟩ (.string tx)):=hs4.set 4 (.string tx)
           have hcn:=QV _ b dv { s with pos:=q5 } hs5.rd
           have HC5:=hH hcn
           have HS5:=hH hs5
           clear hc hp5 h1 h2 hs4 hs5 hcn x0 x1 x2 x3 x4 x5 x6 x7 x8 xf HC4
           have x0:=z0
           have x1:=z1
           have x2:=z2
           have x3:=z3
           have x4:=z4
           have x5:=z5
           have x6:=z6
           have x7:=z7
           have x8:=z8
           have xf:=zf
           clear z0 z1 z2 z3 z4 z5 z6 z7 z8 zf
           go_wp2_with fail
           cases hp6:jo s.data q5 with
           | error e1=>
             have ho:out= .error e1:=by
              exact sf8
             subst ho
             have hc:=HC5.out
             rw[hp6] at hc
             refine hc.mono ?_
             rintro e w6 ⟨rfl,h1,h2⟩
             clear hc hp6 HO
             go_wp2_with fail
             exact⟨rfl,rfl,h1,(HS5.out.read h1 h2).tch⟩
           | ok y1=>
             obtain⟨t,q6⟩:=y1
             have ho:out= .ok (⟨op,id,pa,pl,tx,t⟩,q6):=by
              exact sf8
             subst ho
             have hc:=HC5.out
             rw[hp6] at hc
             refine hc.mono ?_
             rintro e w6 ⟨v4,rfl,⟨ka,kcap,rfl,hcp,hk⟩,h1,h2⟩
             obtain⟨len,hlen⟩:∃len,len=foLen t.kids:=⟨_,rfl⟩
             rw[←hlen]
             have hs6:=HS5.out.read h1 h2
             obtain⟨⟨z0,z1,z2,z3,z4⟩,⟨z5,z6,z7,z8⟩,zf⟩:=nine hs6.x
             have hs7:SSt w b dv #[.int .i8 op,.int .i64 id,.int .i64 pa,.int .i64 pl,.string tx,.int .i64 t.id,.int .i64 t.kind,.string t.text,.slice ka len kcap] { s with pos:=q6 } ((((w6.setCell ⟨w.heap.size+1,5,none⟩ (.int .i64 t.id)).setCell ⟨w.heap.size+1,6,none⟩ (.int .i64 t.kind)).setCell ⟨w.heap.size+1,7,none⟩ (.string t.text)).setCell ⟨w.heap.size+1,8,none⟩ (.slice ka len kcap)):=(((hs6.set 5 (.int .i64 t.id)).set 6 (.int .i64 t.kind)).set 7 (.string t.text)).set 8 (.slice ka len kcap)
             obtain⟨⟨k0,k1,k2,k3,k4⟩,⟨k5,k6,k7,k8⟩,kf⟩:=nine hs7.x
             obtain⟨⟨r0,r1,r2,r3,r4⟩,⟨r5,r6,r7,r8⟩,rf⟩:=nine hs7.rs
             have HE:=hH (aN hs7 (aN h2 (aN hcp (aN hk hlen))))
             clear hc hp6 HO h1 h2 hs6 hs7 hcp hk hlen x0 x1 x2 x3 x4 x5 x6 x7 x8 xf HC5
             go_wp2_with fail
             obtain⟨g1,g2,g3,g4,g5⟩:=HE.out
             obtain⟨f1,f2,f3⟩:=zlT g1.rs (.int .i8 op) (.int .i64 id) (.int .i64 pa) (.int .i64 pl) (.string tx) (.int .i64 t.id) (.int .i64 t.kind) (.string t.text) (.slice ka len kcap) _ rfl
             refine brQ (results_cell_row rfl _ _ w.heap.size 41 _ (0,0) _ rfl f1 Tryz.underlying41 rfl kr1) rfl ?_
             have hb:=g1.low.1
             have hx5:=lohQ HS5.out.x
             have h5s:=g2.size
             have t4:za w6 ((((w6.setCell ⟨w.heap.size+1,5,none⟩ (.int .i64 t.id)).setCell ⟨w.heap.size+1,6,none⟩ (.int .i64 t.kind)).setCell ⟨w.heap.size+1,7,none⟩ (.string t.text)).setCell ⟨w.heap.size+1,8,none⟩ (.slice ka len kcap)) (fun x=>x=w.heap.size+1):=(((za.setCell (w:=w6) (S:=fun x=>x=w.heap.size+1) (a:=⟨w.heap.size+1,5,none⟩) rfl _).trans (za.setCell (S:=fun x=>x=w.heap.size+1) (a:=⟨w.heap.size+1,6,none⟩) rfl _) (fun k hk=>Or.inl hk)).trans (za.setCell (S:=fun x=>x=w.heap.size+1) (a:=⟨w.heap.size+1,7,none⟩) rfl _) (fun k hk=>Or.inl hk)).trans (za.setCell (S:=fun x=>x=w.heap.size+1) (a:=⟨w.heap.size+1,8,none⟩) rfl _) (fun k hk=>Or.inl hk)
             have hsz4:((((w6.setCell ⟨w.heap.size+1,5,none⟩ (.int .i64 t.id)).setCell ⟨w.heap.size+1,6,none⟩ (.int .i64 t.kind)).setCell ⟨w.heap.size+1,7,none⟩ (.string t.text)).setCell ⟨w.heap.size+1,8,none⟩ (.slice ka len kcap)).heap.size=w6.heap.size:=by simp[World.setCell]
             have hsz5:(w5.setCell ⟨w.heap.size+1,4,none⟩ (.string tx)).heap.size=w5.heap.size:=by simp[World.setCell]
             refine⟨_,rfl,⟨ka,kcap,by rw[g5],g3,g4.kept fun x hx=>?_⟩,g1.rd.kept f2 om1 (fun g hg e=>by have:=g1.low.2 g hg;omega),g1.tch.trans f2 (fun k hk=>Or.inr om1)⟩
             have hx1:=hx.1
             have hx2:=hx.2
             exact⟨⟨by omega,by omega⟩,(f2.block x om1 om1).trans (t4.block x hx2 om1)⟩
def zkL (w:World)(bs:List UInt8)(e:Ending)(w' :World):Prop:=∃a n cap,e= .returned (.slice a n cap)∧n=bs.length∧Yd w' a bs∧(∀ad,a=some ad→w.heap.size≤ad.block∧ad.block<w'.heap.size)∧Below w.heap.size w w'
theorem zbe {B:Nat}{v:Value}{bs:List UInt8}{W0 w:World}(h:kK B v bs W0 w):∃a cap,v= .slice a bs.length cap∧Yd w a bs∧∀ad,a=some ad→B≤ad.block∧ad.block<w.heap.size:=by
 exact sc8
theorem ze6 (w:World)(a:Option Addr)(n cap:Nat)(bs:List UInt8)(hn:n=bs.length)(h:Yd w a bs)(hl:bs.length≤1000000000000):Calls Tryz.prog 120 #[.slice a n cap] w (zbU w.heap.size bs w):=by
 subst hn
 exact (Yk w a cap bs h hl).mono fun _ _ ⟨v,h1,h2,h3⟩=>⟨v,h1,kK.of h2 h3⟩
def zll (w:World)(id kd:Int)(tx:ByteArray)(ka:Option Addr)(len cap:Nat)(W:World):Prop:=W.cell? ⟨w.heap.size,0,none⟩=some (.int .i64 id)∧W.cell? ⟨w.heap.size,1,none⟩=some (.int .i64 kd)∧W.cell? ⟨w.heap.size,2,none⟩=some (.string tx)∧W.cell? ⟨w.heap.size,3,none⟩=some (.slice ka len cap)
theorem zeV {w W:World}{id kd:Int}{tx:ByteArray}{ka:Option Addr}{len cap:Nat}(h:W.heap[w.heap.size]? =some (.cells #[.int .i64 id,.int .i64 kd,.string tx,.slice ka len cap] 35 (0,0))):zll w id kd tx ka len cap W:=
 ⟨by rw[corQ _ _ 0 _ _ _ h];rfl,by rw[corQ _ _ 1 _ _ _ h];rfl,by rw[corQ _ _ 2 _ _ _ h];rfl,by rw[corQ _ _ 3 _ _ _ h];rfl⟩
theorem zk7 (w:World)(S:Nat→Prop)(nv:Value)(t:Tr)(a:Option Addr)(n cap:Nat)(bs:List UInt8)(hS:∀k,S k→k<w.heap.size)(hv:kT w S nv t)(hn:n=bs.length)(hby:Yd w a bs)(hl:bs.length+(qa t).length≤1000000000000):
 Calls Tryz.prog 264 #[.slice a n cap,nv] w (zkL w (bs++qa t)):=by
 obtain⟨ka,kcap,rfl,hkc,hk⟩:=hv
 obtain⟨len,hlen⟩:∃len,len=foLen t.kids:=⟨_,rfl⟩
 rw[←hlen]
 have hb1:Below w.heap.size w (w.alloc (.cells #[.int .i64 t.id,.int .i64 t.kind,.string t.text,.slice ka len kcap] 35)):=(BrQ _ _).alloc (NlrQ _) _
 have hby1:=hby.below hb1
 have HC:=hH (ze6 (w.alloc (.cells #[.int .i64 t.id,.int .i64 t.kind,.string t.text,.slice ka len kcap] 35)).drew a n cap bs hn hby1 om1)
 have hbox:=hanQ w (.cells #[.int .i64 t.id,.int .i64 t.kind,.string t.text,.slice ka len kcap] 35)
 obtain⟨c0,c1,c2,c3⟩:=zeV hbox
 have H:=hH hb1
 have HD:Hid (∀w2 v1,kK (w.alloc (.cells #[.int .i64 t.id,.int .i64 t.kind,.string t.text,.slice ka len kcap] 35)).drew.heap.size v1 bs (w.alloc (.cells #[.int .i64 t.id,.int .i64 t.kind,.string t.text,.slice ka len kcap] 35)).drew w2→Calls Tryz.prog 267 #[v1,.agg #[.int .i64 t.id,.int .i64 t.kind,.string t.text,.slice ka len kcap]] w2 (zbU (w.alloc (.cells #[.int .i64 t.id,.int .i64 t.kind,.string t.text,.slice ka len kcap] 35)).drew.heap.size (bs++qa t) w2)):=hH fun w2 v1 h1=>
  Jf w2 _ v1 bs S _ t h1.here (fun x hx=>nL (hS x hx) hb1.size) ⟨ka,kcap,by rw[hlen],hkc,hk.kept fun x hx=>⟨hx,(h1.1.2.1.block x (nL (hS x hx) hb1.size)).trans (hb1.block x (hS x hx))⟩⟩ hl
 have HB:Hid (∀w2 v1 bs2,kK (w.alloc (.cells #[.int .i64 t.id,.int .i64 t.kind,.string t.text,.slice ka len kcap] 35)).drew.heap.size v1 bs2 (w.alloc (.cells #[.int .i64 t.id,.int .i64 t.kind,.string t.text,.slice ka len kcap] 35)).drew w2→ue2 w2 w.heap.size t.id t.kind t.text ka len kcap):=hH fun w2 v1 bs2 h1=>
  zeV ((h1.1.2.1.block _ (by show w.heap.size<(w.alloc _).heap.size;rw[WsaQ];omega)).trans hbox)
 clear hS hk hkc hlen hl hbox hby hby1 hn hb1
 go_enter Tryz.func264,Tryz.ntmps264
 go_wp2_with fail
 go_region_held3 (fun W=>ue2 W w.heap.size t.id t.kind t.text ka len kcap)
  (first | (go_keep;done) | exact⟨c0,c1,c2,c3⟩ | exact HB.out _ _ _ h1 | exact HB.out _ _ _ h2)
  (first
    | (go_at_call 120;refine HC.out.mono ?_;rintro e w2 ⟨v1,rfl,h1⟩)
    | (go_at_call 267;refine (HD.out _ _ h1).mono ?_;rintro e w3 ⟨v2,rfl,h2'⟩;have h2:=jQ.since h1 h2'))
 have HF:=hH h2
 rename_i hheld
 clear h1 h2 h2' hheld c0 c1 c2 c3
 go_wp2_with fail
 go_ret
 have h3:=HF.out
 obtain⟨a',cap',rfl,h4,h5⟩:=zbe h3
 have hd:Below w.heap.size w (w.alloc (.cells #[.int .i64 t.id,.int .i64 t.kind,.string t.text,.slice ka len kcap] 35)).drew:=⟨H.out.os,H.out.tape,H.out.output,H.out.size,H.out.block⟩
 exact⟨a',_,cap',rfl,rfl,h4,fun ad e=>⟨NltQ H.out.size (h5 ad e).1,(h5 ad e).2⟩,hd.trans (h3.1.2.1.mono H.out.size)⟩
def qd (l:List Stp):List UInt8:=l.flatMap encS
theorem zbh (l:List Stp)(k:Nat)(x:Stp)(h:l[k]? =some x):qd (l.take (k+1))=qd (l.take k)++encS x:=by
 rw[List.take_add_one,h];simp[qd,List.flatMap_append]
theorem zfa:∀(l:List Stp) (k:Nat),(qd (l.take k)).length≤(qd l).length
 | [],k=>by simp[qd]
 | x::l,0=>by simp[qd]
 | x ::l,k+1=>by
   have:=zfa l k
   simp only[qd,List.take_succ_cons,List.flatMap_cons,LlaQ] at this ⊢;omega
def zgH (w:World)(pre:List UInt8)(l:List Stp)(len:Nat)(v i:Value)(wr:World):Prop:=∃k:Nat,k≤len∧i= .int .i64 k∧kK w.heap.size v (pre++qd (l.take k)) w wr
theorem zkd (w:World)(S:Nat→Prop)(l:List Stp)(a sa:Option Addr)(n cap len scap:Nat)(bs:List UInt8)(hS:∀k,S k→k<w.heap.size)(hs:vL w S sa l)(hlen:len=l.length)(hn:n=bs.length)(hby:Yd w a bs)(hl:bs.length+8+(qd l).length≤1000000000000)(hl2:len≤1000000):
 Calls Tryz.prog 263 #[.slice a n cap,.slice sa len scap] w (zkL w (bs++zq (len:Int)++qd l)):=by
 have HC:=hH (ze6 w a n cap bs hn hby om1)
 have HD:Hid (∀w2 v1,kK w.heap.size v1 bs w w2→Calls Tryz.prog 265 #[v1,.int .i64 (len:Int)] w2 (zbU w.heap.size (bs++zq (len:Int)) w)):=hH fun w2 v1 h1=>yZ w2 w _ v1 bs _ h1 om1
 have H:=hH (aN hS (aN hs (aN hlen hl)))
 clear hS hs hlen hl hn hby
 go_enter Tryz.func263,Tryz.ntmps263
 go_wp2_with (first
  | (go_at_call 120;refine HC.out.mono ?_;clear HC;rintro e w2 ⟨v1,rfl,h1⟩;have H1:=hH (HD.out _ _ h1);clear h1)
  | (go_at_call 265;refine H1.out.mono ?_;clear H1;rintro e w3 ⟨v2,rfl,h1⟩;have H2:=hH h1;clear h1))
 go_loopw [0,14] (fun v i wr=>zgH w (bs++zq (len:Int)) l len v i wr) (fun _ i _=>len - (intOf i).toNat)
 case atStart=>exact⟨0,NzlQ _,rfl,by simpa [qd] using H2.out⟩
 case round=>
  obtain⟨k,hk,rfl,hinv⟩:=hrel
  have HV:=hH hinv
  clear hinv
  by_cases hlt:k<len
  · obtain⟨x,hx⟩:∃x,l[k]? =some x:=⟨l[k]'(by have:=H.out.2.2.1;omega),List.getElem?_eq_getElem _⟩
    obtain⟨b,off,rfl,hSb,hc⟩:=(H.out.2.1.kept (w':=wr) (S':=S) fun y hy=>⟨hy,HV.out.1.2.1.block y (H.out.1 y hy)⟩) (by have:=H.out.2.2.1;omega)
    obtain⟨ka,kcap,c0,c1,c2,c3,c4,c5,c6,c7,c8,hp,hf⟩:=hc k x hx
    have hbd:(qd (l.take (k+1))).length≤(qd l).length:=zfa l (k+1)
    rw[zbh l k x hx,LlaQ] at hbd
    have hadd:=fun (o:Obj)=>zcH (wr.alloc o) w.heap.size u0 _ S (.agg #[.int .i8 x.op,.int .i64 x.id,.int .i64 x.parent,.int .i64 x.place,.string x.text,.int .i64 x.sub.id,.int .i64 x.sub.kind,.string x.sub.text,.slice ka (foLen x.sub.kids) kcap]) x (HV.out.alloc o).here H.out.1 ⟨ka,kcap,rfl,hp,hf.kept fun y hy=>⟨hy,BhaQ _ _ _ (by have:=H.out.1 y hy;have:=HV.out.1.2.2;omega)⟩⟩ (by have:=H.out.2.2.2;simp only[LlaQ,zw];omega)
    obtain⟨m1,hm1⟩:∃m,m=foLen x.sub.kids:=⟨_,rfl⟩
    rw[←hm1] at hadd c8
    have HA:=hH hadd
    have HX:=hH (zbh l k x hx)
    have hkl:(k:Int)<(len:Int):=by omega
    clear hc hx hadd hf hp hm1 hbd hSb
    go_wp2_with (go_at_call 266;(with_reducible refine (HA.out _).mono ?_);clear HA;rintro e w4 ⟨v3,rfl,h1⟩;have HE:=hH (jQ.since (HV.out.alloc _) h1);clear h1)
    have e9:bs++zq (len:Int)++qd (l.take k)++encS x=bs++zq (len:Int)++qd (l.take (k+1)):=by rw[HX.out,List.append_assoc]
    have h7:=HE.out
    refine⟨⟨k+1,by omega,by go_num,?_⟩,by simp[intOf];omega⟩
    rw[←e9];exact h7
  · have hkk:k=len:=by omega
    have HKK:=hH hkk
    have hkl:¬(k:Int)<(len:Int):=by omega
    clear hkk
    go_wp2_with fail
    go_ret
    have h8:=HV.out
    rw[HKK.out,H.out.2.2.1,List.take_length,←H.out.2.2.1,List.append_assoc] at h8
    obtain⟨a',cap',rfl,h4,h5⟩:=zbe h8
    exact⟨a',_,cap',rfl,rfl,h4,h5,h8.1.2.1⟩
end Go.Proofs.YtoidedomenkbpaaGreat
