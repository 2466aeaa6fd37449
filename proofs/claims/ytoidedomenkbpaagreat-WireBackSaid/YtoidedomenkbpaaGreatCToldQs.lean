/-
  .
-/
import Derived.Test.YtoidedomenkbpaaGreatWAskQs
set_option maxRecDepth 100000
set_option maxHeartbeats 40000000
namespace Go.Proofs.YtoidedomenkbpaaGreat
open Go.RowKit
open Extern.Stop (cell)
abbrev yL (b:Nat):Obj:= .cells #[.pointer (some ⟨b,0,none⟩)] 110
def YL (K:Value→World→Prop)(w:World)(b:Nat)(dv:Value)(s' :Rd)(e:Ending)(w' :World):Prop:=∃v,e= .returned v∧K v w'∧zT w' b dv s'∧za w w' (fun k=>k=b)
def ZE (z:Value)(w:World)(b:Nat)(dv:Value)(s' :Rd)(e:Ending)(w' :World):Prop:=e= .returned z∧zT w' b dv s'∧za w w' (fun k=>k=b)
theorem ja (w:World)(b:Nat):(w.alloc (yL b)).cell? ⟨w.heap.size,0,none⟩=some (.pointer (some ⟨b,0,none⟩)):=by
 rw[corQ _ _ 0 _ _ _ (hanQ w _)];rfl
theorem ZF {w w' :World}{b:Nat}(h:za (w.alloc (yL b)) w' (fun k=>k=b))(hb:b<w.heap.size):w'.cell? ⟨w.heap.size,0,none⟩=some (.pointer (some ⟨b,0,none⟩)):=by
 rw[World.cell?_of_block (h.block w.heap.size ud4 om1)];exact ja w b
theorem jr {w w' :World}{b:Nat}{S:Nat→Prop}(h:za (w.alloc (yL b)) w' S):za w w' S:=
 ((za.refl w S).alloc (yL b)).trans h (fun _ hk=>Or.inl hk)
theorem J4 (w:World)(x b:Nat)(hx:w.cell? ⟨x,0,none⟩=some (.pointer (some ⟨b,0,none⟩)))(hb:w.cell? ⟨b,2,none⟩=some (.bool true))(pv:Value)(older:List PanicEntry):
 CallsD Tryz.prog 277 #[.pointer (some ⟨x,0,none⟩)] (.panicking ({ v:=pv,recovered:=false }::older)) w fun e u' w'=>
  e= .returned (.tuple #[])∧u'= .panicking ({ v:=pv,recovered:=true }::older)∧w'=w:=by
 refine callsD_of_wpS Tryz.func277 rfl fun c₀ cs hu=>?_
 apply wpS_seq
 apply wpS_region
 simp[wpOpsS,go_sem,hx,hb,Tryz.ntmps277,Exit.thenS]
 refine wpS_cond (t:=true) ud5 ?_
 simp only[if_true]
 apply wpS_region
 simp[wpOpsS,go_sem,recoverD,hu,bodyPostS,results,Tryz.results277]
theorem J5 (w:World)(x b:Nat)(hx:w.cell? ⟨x,0,none⟩=some (.pointer (some ⟨b,0,none⟩)))(hb:w.cell? ⟨b,2,none⟩=some (.bool false)):
 CallsD Tryz.prog 277 #[.pointer (some ⟨x,0,none⟩)] .returning w fun e u' w'=>
  e= .returned (.tuple #[])∧u'= .returning∧w'=w:=by
 refine callsD_of_wpS Tryz.func277 rfl fun c₀ cs hu=>?_
 apply wpS_seq
 apply wpS_region
 simp[wpOpsS,go_sem,hx,hb,Tryz.ntmps277,Exit.thenS]
 refine wpS_cond (t:=false) ud5 ?_
 simp only[Bool.false_eq_true,if_false]
 refine wpS_of_wp (wp_skip ?_)
 cases c₀
 simp_all [bodyPostS,results,Tryz.results277]
theorem zcr (w:World)(b:Nat)(dv:Value)(s:Rd)(h:zT w b dv s)(hs:s.bad=true)(fv:Value):Calls Tryz.prog 273 #[.pointer (some ⟨b,0,none⟩),fv] w (ZE (.int .i64 0) w b dv s):=by
 have hmf:∀(fn:Fn) (first cap:Array Value) (w:World),(Instr.makeFunc fn first cap).run Tryz.prog w= .ok (.func fn first cap) w:=fun _ _ _ _=>rfl
 obtain⟨c0,c1,c2,f⟩:=(h.alloc (yL b)).cells
 rw[hs] at c2
 have x0:=ja w b
 have H:=hH (h.alloc (yL b))
 clear h hs
 go_enter_defers Tryz.func273,Tryz.ntmps273
 go_wp2_with fail
 simp[bodyPostD,Leaves,results,Tryz.results273,go_sem]
 exact⟨rfl,H.out,(za.refl w _).alloc _⟩
theorem QL (w:World)(x b:Nat)(hx:w.cell? ⟨x,0,none⟩=some (.pointer (some ⟨b,0,none⟩)))(hb:w.cell? ⟨b,2,none⟩=some (.bool true))(pv:Value)(older:List PanicEntry):
 CallsD Tryz.prog 156 #[.pointer (some ⟨x,0,none⟩)] (.panicking ({ v:=pv,recovered:=false }::older)) w fun e u' w'=>
  e= .returned (.tuple #[])∧u'= .panicking ({ v:=pv,recovered:=true }::older)∧w'=w:=by
 refine callsD_of_wpS Tryz.func156 rfl fun c₀ cs hu=>?_
 apply wpS_seq
 apply wpS_region
 simp[wpOpsS,go_sem,hx,hb,Tryz.ntmps156,Exit.thenS]
 refine wpS_cond (t:=true) ud5 ?_
 simp only[if_true]
 apply wpS_region
 simp[wpOpsS,go_sem,recoverD,hu,bodyPostS,results,Tryz.results156]
theorem QN (w:World)(x b:Nat)(hx:w.cell? ⟨x,0,none⟩=some (.pointer (some ⟨b,0,none⟩)))(hb:w.cell? ⟨b,2,none⟩=some (.bool false)):
 CallsD Tryz.prog 156 #[.pointer (some ⟨x,0,none⟩)] .returning w fun e u' w'=>
  e= .returned (.tuple #[])∧u'= .returning∧w'=w:=by
 refine callsD_of_wpS Tryz.func156 rfl fun c₀ cs hu=>?_
 apply wpS_seq
 apply wpS_region
 simp[wpOpsS,go_sem,hx,hb,Tryz.ntmps156,Exit.thenS]
 refine wpS_cond (t:=false) ud5 ?_
 simp only[Bool.false_eq_true,if_false]
 refine wpS_of_wp (wp_skip ?_)
 cases c₀
 simp_all [bodyPostS,results,Tryz.results156]
theorem Yt (w:World)(b:Nat)(dv:Value)(s:Rd)(h:zT w b dv s)(hs:s.bad=true)(fv:Value):Calls Tryz.prog 121 #[.pointer (some ⟨b,0,none⟩),fv] w (ZE (.int .i8 0) w b dv s):=by
 have hmf:∀(fn:Fn) (first cap:Array Value) (w:World),(Instr.makeFunc fn first cap).run Tryz.prog w= .ok (.func fn first cap) w:=fun _ _ _ _=>rfl
 obtain⟨c0,c1,c2,f⟩:=(h.alloc (yL b)).cells
 rw[hs] at c2
 have x0:=ja w b
 have H:=hH (h.alloc (yL b))
 clear h hs
 go_enter_defers Tryz.func121,Tryz.ntmps121
 go_wp2_with fail
 simp[bodyPostD,Leaves,results,Tryz.results121,go_sem]
 exact⟨rfl,H.out,(za.refl w _).alloc _⟩
theorem JD (w:World)(x b:Nat)(hx:w.cell? ⟨x,0,none⟩=some (.pointer (some ⟨b,0,none⟩)))(hb:w.cell? ⟨b,2,none⟩=some (.bool true))(pv:Value)(older:List PanicEntry):
 CallsD Tryz.prog 286 #[.pointer (some ⟨x,0,none⟩)] (.panicking ({ v:=pv,recovered:=false }::older)) w fun e u' w'=>
  e= .returned (.tuple #[])∧u'= .panicking ({ v:=pv,recovered:=true }::older)∧w'=w:=by
 refine callsD_of_wpS Tryz.func286 rfl fun c₀ cs hu=>?_
 apply wpS_seq
 apply wpS_region
 simp[wpOpsS,go_sem,hx,hb,Tryz.ntmps286,Exit.thenS]
 refine wpS_cond (t:=true) ud5 ?_
 simp only[if_true]
 apply wpS_region
 simp[wpOpsS,go_sem,recoverD,hu,bodyPostS,results,Tryz.results286]
theorem JE (w:World)(x b:Nat)(hx:w.cell? ⟨x,0,none⟩=some (.pointer (some ⟨b,0,none⟩)))(hb:w.cell? ⟨b,2,none⟩=some (.bool false)):
 CallsD Tryz.prog 286 #[.pointer (some ⟨x,0,none⟩)] .returning w fun e u' w'=>
  e= .returned (.tuple #[])∧u'= .returning∧w'=w:=by
 refine callsD_of_wpS Tryz.func286 rfl fun c₀ cs hu=>?_
 apply wpS_seq
 apply wpS_region
 simp[wpOpsS,go_sem,hx,hb,Tryz.ntmps286,Exit.thenS]
 refine wpS_cond (t:=false) ud5 ?_
 simp only[Bool.false_eq_true,if_false]
 refine wpS_of_wp (wp_skip ?_)
 cases c₀
 simp_all [bodyPostS,results,Tryz.results286]
theorem QM (w:World)(x b:Nat)(hx:w.cell? ⟨x,0,none⟩=some (.pointer (some ⟨b,0,none⟩)))(hb:w.cell? ⟨b,2,none⟩=some (.bool true))(pv:Value)(older:List PanicEntry):
 CallsD Tryz.prog 282 #[.pointer (some ⟨x,0,none⟩)] (.panicking ({ v:=pv,recovered:=false }::older)) w fun e u' w'=>
  e= .returned (.tuple #[])∧u'= .panicking ({ v:=pv,recovered:=true }::older)∧w'=w:=by
 refine callsD_of_wpS Tryz.func282 rfl fun c₀ cs hu=>?_
 apply wpS_seq
 apply wpS_region
 simp[wpOpsS,go_sem,hx,hb,Tryz.ntmps282,Exit.thenS]
 refine wpS_cond (t:=true) ud5 ?_
 simp only[if_true]
 apply wpS_region
 simp[wpOpsS,go_sem,recoverD,hu,bodyPostS,results,Tryz.results282]
theorem QO (w:World)(x b:Nat)(hx:w.cell? ⟨x,0,none⟩=some (.pointer (some ⟨b,0,none⟩)))(hb:w.cell? ⟨b,2,none⟩=some (.bool false)):
 CallsD Tryz.prog 282 #[.pointer (some ⟨x,0,none⟩)] .returning w fun e u' w'=>
  e= .returned (.tuple #[])∧u'= .returning∧w'=w:=by
 refine callsD_of_wpS Tryz.func282 rfl fun c₀ cs hu=>?_
 apply wpS_seq
 apply wpS_region
 simp[wpOpsS,go_sem,hx,hb,Tryz.ntmps282,Exit.thenS]
 refine wpS_cond (t:=false) ud5 ?_
 simp only[Bool.false_eq_true,if_false]
 refine wpS_of_wp (wp_skip ?_)
 cases c₀
 simp_all [bodyPostS,results,Tryz.results282]
theorem zaK (w:World)(b:Nat)(dv:Value)(s:Rd)(h:zT w b dv s)(hs:s.bad=true)(fv:Value):Calls Tryz.prog 278 #[.pointer (some ⟨b,0,none⟩),fv] w (ZE (.slice none 0 0) w b dv s):=by
 have hmf:∀(fn:Fn) (first cap:Array Value) (w:World),(Instr.makeFunc fn first cap).run Tryz.prog w= .ok (.func fn first cap) w:=fun _ _ _ _=>rfl
 obtain⟨c0,c1,c2,f⟩:=(h.alloc (yL b)).cells
 rw[hs] at c2
 have x0:=ja w b
 have H:=hH (h.alloc (yL b))
 clear h hs
 go_enter_defers Tryz.func278,Tryz.ntmps278
 go_wp2_with fail
 simp[bodyPostD,Leaves,results,Tryz.results278,go_sem]
 exact⟨rfl,H.out,(za.refl w _).alloc _⟩
theorem zdO (w:World)(b:Nat)(dv:Value)(s s' :Rd)(h:zT w b dv s)(hs:s.bad=false)(hs' :s'.bad=false)(K:Value→World→Prop)
 (hk:Calls Tryz.prog 274 #[.pointer (some ⟨b,0,none⟩)] (w.alloc (yL b)) (YL K (w.alloc (yL b)) b dv s')):
 Calls Tryz.prog 273 #[.pointer (some ⟨b,0,none⟩),.func (.func 274) #[.pointer (some ⟨b,0,none⟩)] #[]] w (YL K w b dv s'):=by
 have hmf:∀(fn:Fn) (first cap:Array Value) (w:World),(Instr.makeFunc fn first cap).run Tryz.prog w= .ok (.func fn first cap) w:=fun _ _ _ _=>rfl
 obtain⟨c0,c1,c2,f⟩:=(h.alloc (yL b)).cells
 rw[hs] at c2
 have x0:=ja w b
 have hlt:=lohQ h.here
 have HK:=hH hk
 clear h hs hk
 go_enter_defers Tryz.func273,Tryz.ntmps273
 go_wp2_with (go_at_call 274;refine HK.out.mono ?_;rintro e w1 ⟨v,rfl,h1,h2,h3⟩;have H1:=hH (aN h1 (aN h2 h3));clear h1 h2 h3)
 refine leaves_cons (f:=277) (args:= #[.pointer (some ⟨w.heap.size,0,none⟩)]) sp ud7 ?_
 refine (J5 _ w.heap.size b (ZF H1.out.2.2 hlt) uc1).mono ?_
 rintro e u' w'' ⟨rfl,rfl,rfl⟩
 simp[Leaves,settle,results,Tryz.results273,go_sem]
 exact⟨_,rfl,H1.out.1,H1.out.2.1,jr H1.out.2.2⟩
theorem zaZ (w:World)(b:Nat)(dv:Value)(s:Rd)(h:zT w b dv s)(hs:s.bad=false)(p:Nat)
 (hk:Calls Tryz.prog 274 #[.pointer (some ⟨b,0,none⟩)] (w.alloc (yL b)) (Ye (w.alloc (yL b)) b dv s p)):
 Calls Tryz.prog 273 #[.pointer (some ⟨b,0,none⟩),.func (.func 274) #[.pointer (some ⟨b,0,none⟩)] #[]] w (ZE (.int .i64 0) w b dv { s with pos:=p,bad:=true }):=by
 have hmf:∀(fn:Fn) (first cap:Array Value) (w:World),(Instr.makeFunc fn first cap).run Tryz.prog w= .ok (.func fn first cap) w:=fun _ _ _ _=>rfl
 obtain⟨c0,c1,c2,f⟩:=(h.alloc (yL b)).cells
 rw[hs] at c2
 have x0:=ja w b
 have hlt:=lohQ h.here
 have HK:=hH hk
 clear h hs hk
 go_enter_defers Tryz.func273,Tryz.ntmps273
 go_wp2_with (go_at_call 274;refine HK.out.mono ?_;rintro e w1 ⟨rfl,h2,h3⟩;have H1:=hH (aN h2 h3);clear h2 h3)
 refine leaves_cons (f:=277) (args:= #[.pointer (some ⟨w.heap.size,0,none⟩)]) sp ud7 ?_
 refine (J4 _ w.heap.size b (ZF H1.out.2 hlt) H1.out.1.cells.2.2.1 _ []).mono ?_
 rintro e u' w'' ⟨rfl,rfl,rfl⟩
 simp[Leaves,settle,results,Tryz.results273,go_sem]
 exact⟨rfl,H1.out.1,jr H1.out.2⟩
theorem YO (w:World)(b:Nat)(dv:Value)(s s' :Rd)(h:zT w b dv s)(hs:s.bad=false)(hs' :s'.bad=false)(K:Value→World→Prop)
 (hk:Calls Tryz.prog 122 #[.pointer (some ⟨b,0,none⟩)] (w.alloc (yL b)) (YL K (w.alloc (yL b)) b dv s')):
 Calls Tryz.prog 121 #[.pointer (some ⟨b,0,none⟩),.func (.func 122) #[.pointer (some ⟨b,0,none⟩)] #[]] w (YL K w b dv s'):=by
 have hmf:∀(fn:Fn) (first cap:Array Value) (w:World),(Instr.makeFunc fn first cap).run Tryz.prog w= .ok (.func fn first cap) w:=fun _ _ _ _=>rfl
 obtain⟨c0,c1,c2,f⟩:=(h.alloc (yL b)).cells
 rw[hs] at c2
 have x0:=ja w b
 have hlt:=lohQ h.here
 have HK:=hH hk
 clear h hs hk
 go_enter_defers Tryz.func121,Tryz.ntmps121
 go_wp2_with (go_at_call 122;refine HK.out.mono ?_;rintro e w1 ⟨v,rfl,h1,h2,h3⟩;have H1:=hH (aN h1 (aN h2 h3));clear h1 h2 h3)
 refine leaves_cons (f:=156) (args:= #[.pointer (some ⟨w.heap.size,0,none⟩)]) sp ud7 ?_
 refine (QN _ w.heap.size b (ZF H1.out.2.2 hlt) uc1).mono ?_
 rintro e u' w'' ⟨rfl,rfl,rfl⟩
 simp[Leaves,settle,results,Tryz.results121,go_sem]
 exact⟨_,rfl,H1.out.1,H1.out.2.1,jr H1.out.2.2⟩
theorem Z9 (w:World)(b:Nat)(dv:Value)(s:Rd)(h:zT w b dv s)(hs:s.bad=false)(p:Nat)
 (hk:Calls Tryz.prog 122 #[.pointer (some ⟨b,0,none⟩)] (w.alloc (yL b)) (Ye (w.alloc (yL b)) b dv s p)):
 Calls Tryz.prog 121 #[.pointer (some ⟨b,0,none⟩),.func (.func 122) #[.pointer (some ⟨b,0,none⟩)] #[]] w (ZE (.int .i8 0) w b dv { s with pos:=p,bad:=true }):=by
 have hmf:∀(fn:Fn) (first cap:Array Value) (w:World),(Instr.makeFunc fn first cap).run Tryz.prog w= .ok (.func fn first cap) w:=fun _ _ _ _=>rfl
 obtain⟨c0,c1,c2,f⟩:=(h.alloc (yL b)).cells
 rw[hs] at c2
 have x0:=ja w b
 have hlt:=lohQ h.here
 have HK:=hH hk
 clear h hs hk
 go_enter_defers Tryz.func121,Tryz.ntmps121
 go_wp2_with (go_at_call 122;refine HK.out.mono ?_;rintro e w1 ⟨rfl,h2,h3⟩;have H1:=hH (aN h2 h3);clear h2 h3)
 refine leaves_cons (f:=156) (args:= #[.pointer (some ⟨w.heap.size,0,none⟩)]) sp ud7 ?_
 refine (QL _ w.heap.size b (ZF H1.out.2 hlt) H1.out.1.cells.2.2.1 _ []).mono ?_
 rintro e u' w'' ⟨rfl,rfl,rfl⟩
 simp[Leaves,settle,results,Tryz.results121,go_sem]
 exact⟨rfl,H1.out.1,jr H1.out.2⟩
theorem za1 (w:World)(b:Nat)(dv:Value)(s s' :Rd)(h:zT w b dv s)(hs:s.bad=false)(hs' :s'.bad=false)(K:Value→World→Prop)
 (hk:Calls Tryz.prog 279 #[.pointer (some ⟨b,0,none⟩)] (w.alloc (yL b)) (YL K (w.alloc (yL b)) b dv s')):
 Calls Tryz.prog 278 #[.pointer (some ⟨b,0,none⟩),.func (.func 279) #[.pointer (some ⟨b,0,none⟩)] #[]] w (YL K w b dv s'):=by
 have hmf:∀(fn:Fn) (first cap:Array Value) (w:World),(Instr.makeFunc fn first cap).run Tryz.prog w= .ok (.func fn first cap) w:=fun _ _ _ _=>rfl
 obtain⟨c0,c1,c2,f⟩:=(h.alloc (yL b)).cells
 rw[hs] at c2
 have x0:=ja w b
 have hlt:=lohQ h.here
 have HK:=hH hk
 clear h hs hk
 go_enter_defers Tryz.func278,Tryz.ntmps278
 go_wp2_with (go_at_call 279;refine HK.out.mono ?_;rintro e w1 ⟨v,rfl,h1,h2,h3⟩;have H1:=hH (aN h1 (aN h2 h3));clear h1 h2 h3)
 refine leaves_cons (f:=282) (args:= #[.pointer (some ⟨w.heap.size,0,none⟩)]) sp ud7 ?_
 refine (QO _ w.heap.size b (ZF H1.out.2.2 hlt) uc1).mono ?_
 rintro e u' w'' ⟨rfl,rfl,rfl⟩
 simp[Leaves,settle,results,Tryz.results278,go_sem]
 exact⟨_,rfl,H1.out.1,H1.out.2.1,jr H1.out.2.2⟩
theorem JK (w:World)(b:Nat)(dv:Value)(s:Rd)(h:zT w b dv s)(hs:s.bad=false)(p:Nat)
 (hk:Calls Tryz.prog 279 #[.pointer (some ⟨b,0,none⟩)] (w.alloc (yL b)) (Ye (w.alloc (yL b)) b dv s p)):
 Calls Tryz.prog 278 #[.pointer (some ⟨b,0,none⟩),.func (.func 279) #[.pointer (some ⟨b,0,none⟩)] #[]] w (ZE (.slice none 0 0) w b dv { s with pos:=p,bad:=true }):=by
 have hmf:∀(fn:Fn) (first cap:Array Value) (w:World),(Instr.makeFunc fn first cap).run Tryz.prog w= .ok (.func fn first cap) w:=fun _ _ _ _=>rfl
 obtain⟨c0,c1,c2,f⟩:=(h.alloc (yL b)).cells
 rw[hs] at c2
 have x0:=ja w b
 have hlt:=lohQ h.here
 have HK:=hH hk
 clear h hs hk
 go_enter_defers Tryz.func278,Tryz.ntmps278
 go_wp2_with (go_at_call 279;refine HK.out.mono ?_;rintro e w1 ⟨rfl,h2,h3⟩;have H1:=hH (aN h2 h3);clear h2 h3)
 refine leaves_cons (f:=282) (args:= #[.pointer (some ⟨w.heap.size,0,none⟩)]) sp ud7 ?_
 refine (QM _ w.heap.size b (ZF H1.out.2 hlt) H1.out.1.cells.2.2.1 _ []).mono ?_
 rintro e u' w'' ⟨rfl,rfl,rfl⟩
 simp[Leaves,settle,results,Tryz.results278,go_sem]
 exact⟨rfl,H1.out.1,jr H1.out.2⟩
end Go.Proofs.YtoidedomenkbpaaGreat
