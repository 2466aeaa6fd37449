/-
  .
-/
import Derived.Test.YtoidedomenkbpaaGreatRows
import Derived.Test.YtoidedomenkbpaaGreatJPsQs
set_option maxRecDepth 100000
set_option maxHeartbeats 40000000
set_option linter.unusedVariables false
set_option linter.unusedSimpArgs false
namespace Go.Proofs.YtoidedomenkbpaaGreat
open Go.RowKit
open Extern.Stop (cell)
structure za (w w' :World) (S:Nat→Prop):Prop where
 os:w'.os=w.os
 tape:w'.tape=w.tape
 output:w'.output=w.output
 size:w.heap.size≤w'.heap.size
 block:∀k,k<w.heap.size→¬S k→w'.heap[k]? =w.heap[k]?
theorem za.refl (w:World)(S:Nat→Prop):za w w S:=⟨rfl,rfl,rfl,NlrQ _,fun _ _ _=>rfl⟩
theorem za.trans {w w1 w2:World}{S S' :Nat→Prop}(h:za w w1 S)(h2:za w1 w2 S')(hS:∀k,S' k→S k∨w.heap.size≤k):za w w2 S:=
 ⟨h2.os.trans h.os,h2.tape.trans h.tape,h2.output.trans h.output,NltQ h.size h2.size,fun k hk hn=>by
  rw [h2.block k (nL hk h.size) (fun hs=>by
   rcases hS k hs with h' | h'
   · exact hn h'
   · omega),h.block k hk hn]⟩
theorem za.setCell {w:World}{S:Nat→Prop}{a:Addr}(ha:S a.block)(v:Value):za w (w.setCell a v) S:=
 ⟨rfl,rfl,rfl,by simp[World.setCell],fun k _ hn=>BhsQ _ _ _ _ (fun e=>hn (e▸ha))⟩
theorem za.drew {w w' :World}{S:Nat→Prop}(h:za w w' S):za w w'.drew S:=⟨h.os,h.tape,h.output,h.size,h.block⟩
theorem za.alloc {w w' :World}{S:Nat→Prop}(h:za w w' S)(o:Obj):za w (w'.alloc o) S:=
 ⟨h.os,h.tape,h.output,by rw[WsaQ];have:=h.size;omega,fun k hk hn=>by
  rw[BhaQ _ _ _ (nL hk h.size)];exact h.block k hk hn⟩
theorem lohQ {w:World}{k:Nat}{o:Obj}(h:w.heap[k]? =some o):k<w.heap.size:=(Array.getElem?_eq_some_iff.1 h).1
structure Rd where
 data:List UInt8
 pos:Nat
 bad:Bool
theorem vE {w w' :World}{B:Nat}{e:TypeId}{size:Nat}{v:Value}{n:Nat}{xs:List Value}(h:w.ownsRow B e size v n xs)(hk:∀g,v.ownBlock=some g→w'.heap[g]? =w.heap[g]?):w'.ownsRow B e size v n xs:=by
 exact se9
theorem qO {w:World}{B:Nat}{e:TypeId}{size:Nat}{v:Value}{n:Nat}{xs:List Value}(h:w.ownsRow B e size v n xs)(g:Nat)(hg:v.ownBlock=some g):g<w.heap.size:=by
 rcases h.2 with ⟨h,_⟩ | ⟨g',cap',cur,hv,_,hh,_⟩
 · subst h;cases hg
 · subst hv;cases hg;exact lohQ hh
theorem za.drewN {w w' :World}{S:Nat→Prop}(h:za w w' S)(k:Nat):za w (w'.drewN k) S:=⟨h.os,h.tape,h.output,h.size,h.block⟩
def fell:List PanicEntry:=[{ v:= .iface 25 (.int .i64 30),recovered:=false }]
end Go.Proofs.YtoidedomenkbpaaGreat
namespace Go.Proofs.YtoidedomenkbpaaGreat
open Go.RowKit
def Zi:List PanicEntry:=[{ v:= .iface 142 (.agg #[]),recovered:=false }]
def ql (b:Bool)(w:World)(e:Ending)(w' :World):Prop:=e=(if b then .returned (.tuple #[]) else .panicked Zi)∧Below w.heap.size w w'
theorem ql.yes {b:Bool}{w w' :World}(h:b=true)(hb:Below w.heap.size w w'):ql b w (.returned (.tuple #[])) w':=⟨by rw[h];rfl,hb⟩
theorem ql.no {b:Bool}{w w' :World}(h:b=false)(hb:Below w.heap.size w w'):ql b w (.panicked Zi) w':=⟨by rw[h];rfl,hb⟩
theorem ql.t {w w' :World}{e:Ending}(h:ql true w e w'):e= .returned (.tuple #[])∧Below w.heap.size w w':=h
theorem ql.f {w w' :World}{e:Ending}(h:ql false w e w'):e= .panicked Zi∧Below w.heap.size w w':=⟨h.1.trans (inQ ue0),h.2⟩
theorem yV (w:World)(b:Bool):Calls Tryz.prog 54 #[.bool b] w (ql b w):=by
 cases b
 · go_enter Tryz.func54,Tryz.ntmps54
   go_wp2_with fail
   exact⟨rfl,rfl,BrQ _ _⟩
 · go_enter Tryz.func54,Tryz.ntmps54
   go_wp2_with fail
   go_end0
   exact⟨rfl,BrQ _ _⟩
def zA (lo hi n:Int):Bool:=decide (lo≤n) && decide (n≤hi)
theorem yP (w:World)(n lo hi:Int):Calls Tryz.prog 110 #[.int .i64 n,.int .i64 lo,.int .i64 hi] w (ql (zA lo hi n) w):=by
 by_cases h1:lo≤n
 · by_cases h2:n≤hi
   · have hb:zA lo hi n=true:=by unfold zA;rw[decide_eq_true h1,decide_eq_true h2];rfl
     have HA:=hH (yV w true)
     have HB:=hH hb
     clear hb
     go_enter Tryz.func110,Tryz.ntmps110
     exact sf6
   · have hb:zA lo hi n=false:=by unfold zA;rw[decide_eq_false h2,Bool.and_false]
     exact se4
 · have hb:zA lo hi n=false:=by unfold zA;rw[decide_eq_false h1,Bool.false_and]
   exact se4
theorem Ji (w:World)(s:ByteArray):Calls Tryz.prog 111 #[.string s] w (ql (decide (s.size≤40)) w):=by
 by_cases h1:s.size≤40
 · have h2:(s.size:Int)≤40:=by omega
   have HA:=hH (yV w true)
   have HB:=hH (show decide (s.size≤40)=true from decide_eq_true h1)
   clear h1
   go_enter Tryz.func111,Tryz.ntmps111
   exact sf6
 · have h2:¬(s.size:Int)≤40:=by omega
   have HA:=hH (yV w false)
   have HB:=hH (show decide (s.size≤40)=false from decide_eq_false h1)
   clear h1
   go_enter Tryz.func111,Tryz.ntmps111
   go_wp2_with fail
   refine HA.out.mono ?_
   intro e w' hq;obtain⟨rfl,hb'⟩:=hq.f
   exact⟨rfl,ql.no HB.out hb'⟩
theorem jy (w:World)(k:Int):Calls Tryz.prog 142 #[.int .i8 k] w fun e w'=>e= .returned (.bool (decide (k=2∨k=5∨k=9)))∧w'=w:=by
 by_cases h2:k=2
 · subst h2
   exact se3
 by_cases h5:k=5
 · subst h5
   exact se3
 by_cases h9:k=9
 · subst h9
   exact se3
 have HB:=hH (show decide (k=2∨k=5∨k=9)=false from decide_eq_false om1)
 have b2:(k == 2)=false:=by simpa using h2
 have b5:(k == 5)=false:=by simpa using h5
 have b9:(k == 9)=false:=by simpa using h9
 clear h2 h5 h9
 go_enter Tryz.func142,Tryz.ntmps142
 go_wp2_with fail
 go_ret
 exact⟨by rw[HB.out];rfl,rfl⟩
theorem jR (w:World)(k:Int):Calls Tryz.prog 55 #[.int .i8 k] w fun e w'=>e= .returned (.bool (zA 1 10 k))∧w'=w:=by
 by_cases h1:1≤k
 · by_cases h2:k≤10
   · have HB:=hH (show zA 1 10 k=true by unfold zA;rw[decide_eq_true h1,decide_eq_true h2];rfl)
     exact se0
   · have HB:=hH (show zA 1 10 k=false by unfold zA;rw[decide_eq_false h2,Bool.and_false])
     exact se0
 · have HB:=hH (show zA 1 10 k=false by unfold zA;rw[decide_eq_false h1,Bool.false_and])
   exact se0
theorem zif (w:World):(binOp .eql 20 .nilIface .nilIface).run Tryz.prog w= .ok (.bool true) w:=by kernel_rfl
theorem zih (w:World):(binOp .eql 20 (.iface 142 (.agg #[])) .nilIface).run Tryz.prog w= .ok (.bool false) w:=by kernel_rfl
theorem zd6 (w:World):(Instr.typeAssert .nilIface 20 142 true).run Tryz.prog w= .ok (.tuple #[.agg #[],.bool false]) w:=by kernel_rfl
theorem zd7 (w:World):(Instr.typeAssert (.iface 142 (.agg #[])) 20 142 true).run Tryz.prog w= .ok (.tuple #[.agg #[],.bool true]) w:=by kernel_rfl
theorem zdh (w:World):
 CallsD Tryz.prog 104 #[] .returning w fun e u' w'=>e= .returned (.tuple #[])∧u'= .returning∧w'=w:=by
 have h1:=zif
 have h2:=zd6
 refine callsD_of_wpS Tryz.func104 rfl fun c₀ cs hu=>?_
 apply wpS_seq
 apply wpS_region
 simp[wpOpsS,go_sem,recoverD,hu,Tryz.ntmps104,Exit.thenS]
 refine wpS_of_wp ?_
 go_wp2_with fail
 cases c₀
 simp_all [bodyPostS,results,Tryz.results104]
theorem zdg (w:World):
 CallsD Tryz.prog 104 #[] (.panicking Zi) w fun e u' w'=>e= .returned (.tuple #[])∧u'= .panicking [{ v:= .iface 142 (.agg #[]),recovered:=true }]∧w'=w:=by
 have h1:=zih
 have h2:=zd7
 refine callsD_of_wpS Tryz.func104 rfl fun c₀ cs hu=>?_
 unfold Zi at hu
 apply wpS_seq
 apply wpS_region
 simp[wpOpsS,go_sem,recoverD,hu,Tryz.ntmps104,Exit.thenS]
 refine wpS_of_wp ?_
 go_wp2_with fail
 simp_all [bodyPostS,results,Tryz.results104]
theorem ziq (w:World)(F:FuncId)(q:Addr)(b:Bool)(R:World→Prop)(henter:∀(args:Array Value) (w:World),(callFunc F args).run Tryz.prog w= .ok (.enter F args) w)
 (hk:Calls Tryz.prog F #[.pointer (some q)] w fun e w'=>e=(if b then .returned (.tuple #[]) else .panicked Zi)∧R w'):
 Calls Tryz.prog 52 #[.func (.func F) #[] #[.pointer (some q)]] w fun e w'=>e= .returned (.bool b)∧R w':=by
 have hmf:∀(fn:Fn) (first cap:Array Value) (w:World),(Instr.makeFunc fn first cap).run Tryz.prog w= .ok (.func fn first cap) w:=fun _ _ _ _=>rfl
 cases b
 · have HK:=hH hk
   clear hk
   go_enter_defers Tryz.func52,Tryz.ntmps52
   go_wp2_with fail
   refine HK.out.mono ?_
   rintro e w1 ⟨he,h1⟩
   rw[inQ ue0] at he
   subst he
   have H1:=hH h1
   clear h1
   refine leaves_cons (f:=104) (args:= #[]) sp ud7 ?_
   refine (zdg _).mono ?_
   rintro e u' w'' ⟨rfl,rfl,rfl⟩
   simp[Leaves,settle,results,Tryz.results52,go_sem]
   exact H1.out
 · have HK:=hH hk
   clear hk
   go_enter_defers Tryz.func52,Tryz.ntmps52
   go_wp2_with fail
   refine HK.out.mono ?_
   rintro e w1 ⟨he,h1⟩
   replace he:=he.trans (ipQ trivial)
   subst he
   have H1:=hH h1
   clear h1
   go_wp2_with fail
   refine leaves_cons (f:=104) (args:= #[]) sp ud7 ?_
   refine (zdh _).mono ?_
   rintro e u' w'' ⟨rfl,rfl,rfl⟩
   simp[Leaves,settle,results,Tryz.results52,go_sem]
   exact H1.out
end Go.Proofs.YtoidedomenkbpaaGreat
namespace Go.Proofs.YtoidedomenkbpaaGreat
open Go.RowKit
open Extern.Stop (cell)
structure zT (w:World) (b:Nat) (dv:Value) (s:Rd):Prop where
 here:w.heap[b]? =some (.cells #[dv,.int .i64 (s.pos:Int),.bool s.bad] 161 (0,0))
 owns:w.ownsRow 0 5 1 dv s.data.length (s.data.map cell)
 apart:dv.ownBlock≠some b
 fits:s.pos≤s.data.length
 few:s.data.length≤100000000
theorem zT.kept {w w' :World}{b:Nat}{dv:Value}{s:Rd}(h:zT w b dv s){S:Nat→Prop}(ht:za w w' S)(h1:¬S b)(h2:∀g,dv.ownBlock=some g→¬S g):zT w' b dv s:=
 ⟨(ht.block b (lohQ h.here) h1).trans h.here,vE h.owns (fun g hg=>ht.block g (qO h.owns g hg) (h2 g hg)),h.apart,h.fits,h.few⟩
theorem zT.alloc {w:World}{b:Nat}{dv:Value}{s:Rd}(h:zT w b dv s)(o:Obj):zT (w.alloc o) b dv s:=
 h.kept (S:=fun _=>False) ((za.refl w _).alloc o) id (fun _ _=>id)
theorem zT.drew {w:World}{b:Nat}{dv:Value}{s:Rd}(h:zT w b dv s):zT w.drew b dv s:=⟨h.here,h.owns,h.apart,h.fits,h.few⟩
theorem zT.move {w:World}{b:Nat}{dv:Value}{s:Rd}(h:zT w b dv s)(p:Nat)(hp:p≤s.data.length):zT (w.setCell ⟨b,1,none⟩ (.int .i64 (p:Int))) b dv { s with pos:=p }:=
 ⟨by rw[hssQ w b 1 _ _ _ h.here];rfl,vE h.owns (fun g hg=>BhsQ _ _ _ _ (fun e=>h.apart (by rw[hg,e]))),h.apart,hp,h.few⟩
theorem zT.fall {w:World}{b:Nat}{dv:Value}{s:Rd}(h:zT w b dv s):zT (w.setCell ⟨b,2,none⟩ (.bool true)) b dv { s with bad:=true }:=
 ⟨by rw[hssQ w b 2 _ _ _ h.here];rfl,vE h.owns (fun g hg=>BhsQ _ _ _ _ (fun e=>h.apart (by rw[hg,e]))),h.apart,h.fits,h.few⟩
theorem zT.cells {w:World}{b:Nat}{dv:Value}{s:Rd}(h:zT w b dv s):w.cell? ⟨b,0,none⟩=some dv∧w.cell? ⟨b,1,none⟩=some (.int .i64 (s.pos:Int))∧w.cell? ⟨b,2,none⟩=some (.bool s.bad)∧∀j,w.frozen? ⟨b,j,none⟩=false:=
 ⟨by rw[corQ w _ 0 _ _ _ h.here];rfl,by rw[corQ w _ 1 _ _ _ h.here];rfl,by rw[corQ w _ 2 _ _ _ h.here];rfl,fun j=>forQ w b j _ _ h.here⟩
theorem zT.form {w:World}{b:Nat}{dv:Value}{s:Rd}(h:zT w b dv s):(dv= .slice none 0 0∧s.data= [])∨∃g cap,dv= .slice (some ⟨g,0,none⟩) s.data.length cap∧s.data.length≤cap∧(cap:Int)≤9223372036854775807∧g≠b∧∀j u,s.data[j]? =some u→w.cell? ⟨g,j,none⟩=some (cell u):=by
 obtain⟨h1,h2⟩:=h.owns
 have ha:=h.apart
 rcases h2 with ⟨rfl,h2⟩ | ⟨g,cap,cur,hv,hg,hh,h3,h4,h5,h6⟩
 · exact Or.inl ⟨rfl,List.eq_nil_of_length_eq_zero h2⟩
 · subst hv
   refine Or.inr ⟨g,cap,rfl,h3,by unfold maxLen at h4;omega,fun e=>ha (by rw[e];rfl),fun j u hj=>?_⟩
   have hjl:=(List.getElem?_eq_some_iff.1 hj).1
   have e1:(s.data.map cell)[j]? =some (cell u):=by simp[hj]
   rw[←h6,List.getElem?_take_of_lt om1] at e1
   rw[corQ w g j _ _ _ hh,←Array.getElem?_toList];exact e1
theorem zT.cell {w:World}{b:Nat}{g n cap:Nat}{s:Rd}(h:zT w b (.slice (some ⟨g,0,none⟩) n cap) s)(j:Nat)(u:UInt8)(hj:s.data[j]? =some u):w.cell? ⟨g,j,none⟩=some (cell u):=by
 rcases h.form with ⟨e,_⟩ | ⟨g',cap',e,_,_,_,hc⟩
 · cases e
 · cases e;exact hc j u hj
theorem zT.drewN {w:World}{b:Nat}{dv:Value}{s:Rd}(h:zT w b dv s)(k:Nat):zT (w.drewN k) b dv s:=
 h.kept (S:=fun _=>False) ⟨rfl,rfl,rfl,NlrQ _,fun _ _ _=>rfl⟩ id (fun _ _=>id)
def Ye (w:World)(b:Nat)(dv:Value)(s:Rd)(at_:Nat)(e:Ending)(w' :World):Prop:=e= .panicked fell∧zT w' b dv { s with pos:=at_,bad:=true }∧za w w' (fun k=>k=b)
theorem zaa (w:World)(b:Nat)(dv:Value)(s:Rd)(h:zT w b dv s)(p:Nat)(hp:p≤s.data.length):
 Calls Tryz.prog 178 #[.pointer (some ⟨b,0,none⟩),.int .i64 (p:Int)] w (Ye w b dv s p):=by
 obtain⟨c0,c1,c2,f⟩:=h.cells
 have HE:=hH (aN ((h.move p hp).fall) (((za.setCell (w:=w) (S:=fun k=>k=b) (a:=⟨b,1,none⟩) rfl (.int .i64 (p:Int)))).trans (za.setCell (w:=_) (S:=fun k=>k=b) (a:=⟨b,2,none⟩) rfl (.bool true)) (fun k hk=>Or.inl hk)))
 clear h
 go_enter Tryz.func178,Tryz.ntmps178
 go_wp2_with fail
 exact⟨rfl,rfl,HE.out.1,HE.out.2⟩
def za8 (w:World)(b:Nat)(dv:Value)(s:Rd)(n:Nat)(e:Ending)(w' :World):Prop:=
 ∃g o cap,e= .returned (.slice (some ⟨g,o,none⟩) n cap)∧dv.ownBlock=some g∧(∀j u,((s.data.drop s.pos).take n)[j]? =some u→w'.cell? ⟨g,o+j,none⟩=some (cell u))∧zT w' b dv { s with pos:=s.pos+n }∧za w w' (fun k=>k=b)
theorem za8.mk {w:World}{b g o cap cap' n m:Nat}{s:Rd}{w' :World}(i:Int)(hi:i=((s.pos+n:Nat):Int))(k1 k2:Nat)(h:zT w b (.slice (some ⟨g,0,none⟩) m cap) s)(hn:s.pos+n≤s.data.length)(ho:o=s.pos∨n=0)
 (hw:w'=(((w.drewN k1).setCell ⟨b,1,none⟩ (.int .i64 i)).drewN k2)):za8 w b (.slice (some ⟨g,0,none⟩) m cap) s n (.returned (.slice (some ⟨g,o,none⟩) n cap')) w':=by
 subst hi
 have hr:zT w' b (.slice (some ⟨g,0,none⟩) m cap) { s with pos:=s.pos+n }:=by rw[hw];exact (((h.drewN k1).move _ hn).drewN k2)
 refine⟨g,o,cap',rfl,rfl,fun j u hj=>?_,hr,?_⟩
 · have hjn:j<n:=by
    have:=(List.getElem?_eq_some_iff.1 hj).1
    simp at this;omega
   rw[List.getElem?_take_of_lt hjn,List.getElem?_drop] at hj
   rcases ho with rfl | rfl
   · exact hr.cell _ u hj
   · omega
 · rw[hw]
   exact za.drewN (((za.refl w (fun k=>k=b)).drewN k1).trans (za.setCell (S:=fun k=>k=b) (a:=⟨b,1,none⟩) rfl _) (fun k hk=>Or.inl hk)) k2
theorem zcq (w:World)(b:Nat)(dv:Value)(s:Rd)(h:zT w b dv s)(n:Nat)(hn:s.pos+n≤s.data.length)(h0:s.data≠[]):
 Calls Tryz.prog 157 #[.pointer (some ⟨b,0,none⟩),.int .i64 (n:Int)] w (za8 w b dv s n):=by
 obtain⟨c0,c1,c2,f⟩:=h.cells
 rcases h.form with ⟨_,hd⟩ | ⟨g,cap,rfl,hc,hm,hg,hcell⟩
 · exact absurd hd h0
 have hfit:=h.fits
 have hfew:=h.few
 have HR:=hH h
 have hd:decide ((n:Int)>(s.data.length:Int) - (s.pos:Int))=false:=by simp;omega
 clear h h0 hcell c2
 go_enter Tryz.func157,Tryz.ntmps157
 go_wp2_with (go_quiet (fail))
 · go_ret
   exact za8.mk _ om1 _ _ (by have h':=HR.out;rw[h] at h';exact h') hn (Or.inr om1) rfl
 · go_ret
   exact za8.mk _ om1 _ _ HR.out hn (Or.inl rfl) rfl
theorem zdM (w:World)(b:Nat)(dv:Value)(s:Rd)(h:zT w b dv s)(n:Nat)(hn:s.data.length<s.pos+n):
 Calls Tryz.prog 157 #[.pointer (some ⟨b,0,none⟩),.int .i64 (n:Int)] w (Ye w b dv s s.data.length):=by
 obtain⟨c0,c1,c2,f⟩:=h.cells
 obtain⟨a,cap,hdv⟩:∃a cap,dv= .slice a s.data.length cap:=by
  rcases h.form with ⟨rfl,hd⟩ | ⟨g,cap,rfl,_⟩
  · exact⟨none,0,by rw[hd];rfl⟩
  · exact⟨_,cap,rfl⟩
 have HF:Hid (∀k:Nat,Calls Tryz.prog 178 #[.pointer (some ⟨b,0,none⟩),.int .i64 (s.data.length:Int)] (w.drewN k) (Ye (w.drewN k) b dv s s.data.length)):=hH (fun k=>zaa _ b dv s (h.drewN k) _ (NlrQ _))
 have hfit:=h.fits
 have hfew:=h.few
 subst hdv
 have hd:decide ((n:Int)>(s.data.length:Int) - (s.pos:Int))=true:=by simp;omega
 clear h c2
 go_enter Tryz.func157,Tryz.ntmps157
 go_wp2_with (first
  | (go_at_call 178;refine (HF.out _).mono ?_;rintro e w1 ⟨rfl,h1,h2⟩)
  | go_quiet (fail))
 exact⟨rfl,rfl,h1,((za.refl w (fun k=>k=b)).drewN _).trans h2 (fun k hk=>Or.inl hk)⟩
theorem zaq (w:World)(b:Nat)(dv:Value)(s:Rd)(h:zT w b dv s)(hn:s.data.length<s.pos+8):
 Calls Tryz.prog 274 #[.pointer (some ⟨b,0,none⟩)] w (Ye w b dv s s.data.length):=by
 have HT:=hH (zdM w b dv s h 8 hn)
 clear h hn
 go_enter Tryz.func274,Tryz.ntmps274
 exact sg5
def zb7 (m:Int)(u:UInt8):Int:=bits BinOp.or IntKind.i64 (wrap64 (m*256)) (wrap64 (u.toNat:Int))
def numOf (l:List UInt8):Int:=l.foldl zb7 0
theorem zao (l:List UInt8)(k:Nat)(u:UInt8)(h:l[k]? =some u):numOf (l.take (k+1))=zb7 (numOf (l.take k)) u:=by
 rw[List.take_add_one,h];simp[numOf,List.foldl_append]
def Rd.num (s:Rd):Int:=numOf ((s.data.drop s.pos).take 8)
def zlu (w:World)(b:Nat)(dv:Value)(s:Rd)(e:Ending)(w' :World):Prop:=e= .returned (.int .i64 s.num)∧zT w' b dv { s with pos:=s.pos+8 }∧za w w' (fun k=>k=b)
theorem zbr (w:World)(b:Nat)(dv:Value)(s:Rd)(h:zT w b dv s)(hn:s.pos+8≤s.data.length):
 Calls Tryz.prog 274 #[.pointer (some ⟨b,0,none⟩)] w (zlu w b dv s):=by
 have HT:=hH (zcq w b dv s h 8 hn (by intro e;rw[e] at hn;simp at hn))
 clear h
 go_enter Tryz.func274,Tryz.ntmps274
 go_wp2_with (go_at_call 157;refine HT.out.mono ?_;rintro e w1 ⟨g,o,cap,rfl,hg,hc,h1,h2⟩)
 have HB:=hH (aN hc (aN h1 h2))
 have hlen:((s.data.drop s.pos).take 8).length=8:=by simp;omega
 obtain⟨bs,hbs⟩:∃bs,bs=(s.data.drop s.pos).take 8:=⟨_,rfl⟩
 rw[←hbs] at HB hlen
 have HB2:=hH (aN hbs hlen)
 clear hc h1 h2 HT hn hbs hg
 go_loop [3,5,9] (fun n _ i=>∃k:Nat,k≤8∧i= .int .i64 k∧n= .int .i64 (numOf (bs.take k))) (fun _ _ i=>8 - (intOf i).toNat)
 case atStart=>exact⟨0,NzlQ _,rfl,rfl⟩
 case round=>
  obtain⟨k,hk,rfl,rfl⟩:=hrel
  by_cases hlt:k<8
  · obtain⟨u,hu⟩:∃u,bs[k]? =some u:=⟨bs[k]'om1,List.getElem?_eq_getElem _⟩
    have q0:w1.cell? ⟨g,o+k,none⟩=some (.int .u8 u.toNat):=HB.out.1 k u hu
    have HU:=hH (zao bs k u hu)
    have hkl:(k:Int)<8:=by omega
    obtain⟨m,hm⟩:∃m,m=numOf (bs.take k):=⟨_,rfl⟩
    rw[←hm] at HU ⊢
    clear hu hlen hm
    go_wp2_with fail
    exact⟨⟨k+1,by omega,by go_num,by rw[HU.out];rfl⟩,by simp[intOf];omega⟩
  · have hkl:¬(k:Int)<8:=by omega
    have hk8:k=8:=by omega
    subst hk8
    obtain⟨m,hm⟩:∃m,m=numOf (bs.take 8):=⟨_,rfl⟩
    have HM:=hH hm
    rw[←hm]
    clear hm hlen
    go_wp2_with fail
    go_ret
    refine⟨?_,HB.out.2.1,HB.out.2.2⟩
    rw[HM.out,List.take_of_length_le (by have:=HB2.out.2;omega),HB2.out.1];rfl
end Go.Proofs.YtoidedomenkbpaaGreat
