/-
  .
-/
import Derived.Test.YtoidedomenkbpaaGreatERevQr
set_option maxRecDepth 100000
set_option maxHeartbeats 40000000

namespace Go.Proofs.YtoidedomenkbpaaGreat
open Go.RowKit
open Extern.Stop (cell)
abbrev vg (b:Nat):Obj:= .cells #[.pointer (some ⟨b,0,none⟩)] 110
def zaA (K:Value→World→Prop)(w:World)(b:Nat)(dv:Value)(s' :Rd)(e:Ending)(w' :World):Prop:=∃v,e= .returned v∧K v w'∧yJ w' b dv s'∧zb w w' (fun k=>k=b)
def Qs (z:Value)(w:World)(b:Nat)(dv:Value)(s' :Rd)(e:Ending)(w' :World):Prop:=e= .returned z∧yJ w' b dv s'∧zb w w' (fun k=>k=b)
theorem jy (w:World)(b:Nat):(w.alloc (vg b)).cell? ⟨w.heap.size,0,none⟩=some (.pointer (some ⟨b,0,none⟩)):=by
 rw[corQ _ _ 0 _ _ _ (hanQ w _)];rfl
theorem Yd {w w' :World}{b:Nat}(h:zb (w.alloc (vg b)) w' (fun k=>k=b))(hb:b<w.heap.size):w'.cell? ⟨w.heap.size,0,none⟩=some (.pointer (some ⟨b,0,none⟩)):=by
 rw[World.cell?_of_block (h.block w.heap.size ud7 om)];exact jy w b
theorem jM {w w' :World}{b:Nat}{S:Nat→Prop}(h:zb (w.alloc (vg b)) w' S):zb w w' S:=
 ((zb.refl w S).alloc (vg b)).trans h (fun _ hk=>Or.inl hk)
theorem Qw (w:World)(x b:Nat)(hx:w.cell? ⟨x,0,none⟩=some (.pointer (some ⟨b,0,none⟩)))(hb:w.cell? ⟨b,2,none⟩=some (.bool true))(pv:Value)(older:List PanicEntry):
 CallsD Tryz.prog 277 #[.pointer (some ⟨x,0,none⟩)] (.panicking ({ v:=pv,recovered:=false }::older)) w fun e u' w'=>
  e= .returned (.tuple #[])∧u'= .panicking ({ v:=pv,recovered:=true }::older)∧w'=w:=by
 refine callsD_of_wpS Tryz.func277 rfl fun c₀ cs hu=>?_
 apply wpS_seq
 apply wpS_region
 simp[wpOpsS,go_sem,hx,hb,Tryz.ntmps277,Exit.thenS]
 refine wpS_cond (t:=true) (by simp[Act.eval]) ?_
 simp only[if_true]
 apply wpS_region
 simp[wpOpsS,go_sem,recoverD,hu,bodyPostS,results,Tryz.results277]
theorem Qx (w:World)(x b:Nat)(hx:w.cell? ⟨x,0,none⟩=some (.pointer (some ⟨b,0,none⟩)))(hb:w.cell? ⟨b,2,none⟩=some (.bool false)):
 CallsD Tryz.prog 277 #[.pointer (some ⟨x,0,none⟩)] .returning w fun e u' w'=>
  e= .returned (.tuple #[])∧u'= .returning∧w'=w:=by
 refine callsD_of_wpS Tryz.func277 rfl fun c₀ cs hu=>?_
 apply wpS_seq
 apply wpS_region
 simp[wpOpsS,go_sem,hx,hb,Tryz.ntmps277,Exit.thenS]
 refine wpS_cond (t:=false) (by simp[Act.eval]) ?_
 simp only[Bool.false_eq_true,if_false]
 refine wpS_of_wp (wp_skip ?_)
 cases c₀
 simp_all [bodyPostS,results,Tryz.results277]
theorem zas (w:World)(b:Nat)(dv:Value)(s:Rd)(h:yJ w b dv s)(hs:s.bad=true)(fv:Value):Calls Tryz.prog 273 #[.pointer (some ⟨b,0,none⟩),fv] w (Qs (.int .i64 0) w b dv s):=by
 have hmf:∀(fn:Fn) (first cap:Array Value) (w:World),(Instr.makeFunc fn first cap).run Tryz.prog w= .ok (.func fn first cap) w:=fun _ _ _ _=>rfl
 obtain⟨c0,c1,c2,f⟩:=(h.alloc (vg b)).cells
 rw[hs] at c2
 have x0:=jy w b
 have H:=hH (h.alloc (vg b))
 clear h hs
 go_enter_defers Tryz.func273,Tryz.ntmps273
 go_wp2_with fail
 simp[bodyPostD,Leaves,results,Tryz.results273,go_sem]
 exact⟨rfl,H.out,(zb.refl w _).alloc _⟩
theorem Yt (w:World)(x b:Nat)(hx:w.cell? ⟨x,0,none⟩=some (.pointer (some ⟨b,0,none⟩)))(hb:w.cell? ⟨b,2,none⟩=some (.bool true))(pv:Value)(older:List PanicEntry):
 CallsD Tryz.prog 156 #[.pointer (some ⟨x,0,none⟩)] (.panicking ({ v:=pv,recovered:=false }::older)) w fun e u' w'=>
  e= .returned (.tuple #[])∧u'= .panicking ({ v:=pv,recovered:=true }::older)∧w'=w:=by
 refine callsD_of_wpS Tryz.func156 rfl fun c₀ cs hu=>?_
 apply wpS_seq
 apply wpS_region
 simp[wpOpsS,go_sem,hx,hb,Tryz.ntmps156,Exit.thenS]
 refine wpS_cond (t:=true) (by simp[Act.eval]) ?_
 simp only[if_true]
 apply wpS_region
 simp[wpOpsS,go_sem,recoverD,hu,bodyPostS,results,Tryz.results156]
theorem Yu (w:World)(x b:Nat)(hx:w.cell? ⟨x,0,none⟩=some (.pointer (some ⟨b,0,none⟩)))(hb:w.cell? ⟨b,2,none⟩=some (.bool false)):
 CallsD Tryz.prog 156 #[.pointer (some ⟨x,0,none⟩)] .returning w fun e u' w'=>
  e= .returned (.tuple #[])∧u'= .returning∧w'=w:=by
 refine callsD_of_wpS Tryz.func156 rfl fun c₀ cs hu=>?_
 apply wpS_seq
 apply wpS_region
 simp[wpOpsS,go_sem,hx,hb,Tryz.ntmps156,Exit.thenS]
 refine wpS_cond (t:=false) (by simp[Act.eval]) ?_
 simp only[Bool.false_eq_true,if_false]
 refine wpS_of_wp (wp_skip ?_)
 cases c₀
 simp_all [bodyPostS,results,Tryz.results156]
theorem Q0 (w:World)(b:Nat)(dv:Value)(s:Rd)(h:yJ w b dv s)(hs:s.bad=true)(fv:Value):Calls Tryz.prog 121 #[.pointer (some ⟨b,0,none⟩),fv] w (Qs (.int .i8 0) w b dv s):=by
 have hmf:∀(fn:Fn) (first cap:Array Value) (w:World),(Instr.makeFunc fn first cap).run Tryz.prog w= .ok (.func fn first cap) w:=fun _ _ _ _=>rfl
 obtain⟨c0,c1,c2,f⟩:=(h.alloc (vg b)).cells
 rw[hs] at c2
 have x0:=jy w b
 have H:=hH (h.alloc (vg b))
 clear h hs
 go_enter_defers Tryz.func121,Tryz.ntmps121
 go_wp2_with fail
 simp[bodyPostD,Leaves,results,Tryz.results121,go_sem]
 exact⟨rfl,H.out,(zb.refl w _).alloc _⟩
theorem zbR (w:World)(b:Nat)(dv:Value)(s s' :Rd)(h:yJ w b dv s)(hs:s.bad=false)(hs' :s'.bad=false)(K:Value→World→Prop)
 (hk:Calls Tryz.prog 274 #[.pointer (some ⟨b,0,none⟩)] (w.alloc (vg b)) (zaA K (w.alloc (vg b)) b dv s')):
 Calls Tryz.prog 273 #[.pointer (some ⟨b,0,none⟩),.func (.func 274) #[.pointer (some ⟨b,0,none⟩)] #[]] w (zaA K w b dv s'):=by
 have hmf:∀(fn:Fn) (first cap:Array Value) (w:World),(Instr.makeFunc fn first cap).run Tryz.prog w= .ok (.func fn first cap) w:=fun _ _ _ _=>rfl
 obtain⟨c0,c1,c2,f⟩:=(h.alloc (vg b)).cells
 rw[hs] at c2
 have x0:=jy w b
 have hlt:=lohQ h.here
 have HK:=hH hk
 clear h hs hk
 go_enter_defers Tryz.func273,Tryz.ntmps273
 go_wp2_with (go_at_call 274;refine HK.out.mono ?_;rintro e w1 ⟨v,rfl,h1,h2,h3⟩;have H1:=hH (aN h1 (aN h2 h3));clear h1 h2 h3)
 refine leaves_cons (f:=277) (args:= #[.pointer (some ⟨w.heap.size,0,none⟩)]) sp1 ue0 ?_
 refine (Qx _ w.heap.size b (Yd H1.out.2.2 hlt) (by have:=H1.out.2.1.cells.2.2.1;rw[hs'] at this;exact this)).mono ?_
 rintro e u' w'' ⟨rfl,rfl,rfl⟩
 simp[Leaves,settle,results,Tryz.results273,go_sem]
 exact⟨_,rfl,H1.out.1,H1.out.2.1,jM H1.out.2.2⟩
theorem Jg (w:World)(b:Nat)(dv:Value)(s:Rd)(h:yJ w b dv s)(hs:s.bad=false)(p:Nat)
 (hk:Calls Tryz.prog 274 #[.pointer (some ⟨b,0,none⟩)] (w.alloc (vg b)) (Qm (w.alloc (vg b)) b dv s p)):
 Calls Tryz.prog 273 #[.pointer (some ⟨b,0,none⟩),.func (.func 274) #[.pointer (some ⟨b,0,none⟩)] #[]] w (Qs (.int .i64 0) w b dv { s with pos:=p,bad:=true }):=by
 have hmf:∀(fn:Fn) (first cap:Array Value) (w:World),(Instr.makeFunc fn first cap).run Tryz.prog w= .ok (.func fn first cap) w:=fun _ _ _ _=>rfl
 obtain⟨c0,c1,c2,f⟩:=(h.alloc (vg b)).cells
 rw[hs] at c2
 have x0:=jy w b
 have hlt:=lohQ h.here
 have HK:=hH hk
 clear h hs hk
 go_enter_defers Tryz.func273,Tryz.ntmps273
 go_wp2_with (go_at_call 274;refine HK.out.mono ?_;rintro e w1 ⟨rfl,h2,h3⟩;have H1:=hH (aN h2 h3);clear h2 h3)
 refine leaves_cons (f:=277) (args:= #[.pointer (some ⟨w.heap.size,0,none⟩)]) sp1 ue0 ?_
 refine (Qw _ w.heap.size b (Yd H1.out.2 hlt) H1.out.1.cells.2.2.1 _ []).mono ?_
 rintro e u' w'' ⟨rfl,rfl,rfl⟩
 simp[Leaves,settle,results,Tryz.results273,go_sem]
 exact⟨rfl,H1.out.1,jM H1.out.2⟩
theorem Jh (w:World)(b:Nat)(dv:Value)(s s' :Rd)(h:yJ w b dv s)(hs:s.bad=false)(hs' :s'.bad=false)(K:Value→World→Prop)
 (hk:Calls Tryz.prog 122 #[.pointer (some ⟨b,0,none⟩)] (w.alloc (vg b)) (zaA K (w.alloc (vg b)) b dv s')):
 Calls Tryz.prog 121 #[.pointer (some ⟨b,0,none⟩),.func (.func 122) #[.pointer (some ⟨b,0,none⟩)] #[]] w (zaA K w b dv s'):=by
 have hmf:∀(fn:Fn) (first cap:Array Value) (w:World),(Instr.makeFunc fn first cap).run Tryz.prog w= .ok (.func fn first cap) w:=fun _ _ _ _=>rfl
 obtain⟨c0,c1,c2,f⟩:=(h.alloc (vg b)).cells
 rw[hs] at c2
 have x0:=jy w b
 have hlt:=lohQ h.here
 have HK:=hH hk
 clear h hs hk
 go_enter_defers Tryz.func121,Tryz.ntmps121
 go_wp2_with (go_at_call 122;refine HK.out.mono ?_;rintro e w1 ⟨v,rfl,h1,h2,h3⟩;have H1:=hH (aN h1 (aN h2 h3));clear h1 h2 h3)
 refine leaves_cons (f:=156) (args:= #[.pointer (some ⟨w.heap.size,0,none⟩)]) sp1 ue0 ?_
 refine (Yu _ w.heap.size b (Yd H1.out.2.2 hlt) (by have:=H1.out.2.1.cells.2.2.1;rw[hs'] at this;exact this)).mono ?_
 rintro e u' w'' ⟨rfl,rfl,rfl⟩
 simp[Leaves,settle,results,Tryz.results121,go_sem]
 exact⟨_,rfl,H1.out.1,H1.out.2.1,jM H1.out.2.2⟩
theorem Qb (w:World)(b:Nat)(dv:Value)(s:Rd)(h:yJ w b dv s)(hs:s.bad=false)(p:Nat)
 (hk:Calls Tryz.prog 122 #[.pointer (some ⟨b,0,none⟩)] (w.alloc (vg b)) (Qm (w.alloc (vg b)) b dv s p)):
 Calls Tryz.prog 121 #[.pointer (some ⟨b,0,none⟩),.func (.func 122) #[.pointer (some ⟨b,0,none⟩)] #[]] w (Qs (.int .i8 0) w b dv { s with pos:=p,bad:=true }):=by
 have hmf:∀(fn:Fn) (first cap:Array Value) (w:World),(Instr.makeFunc fn first cap).run Tryz.prog w= .ok (.func fn first cap) w:=fun _ _ _ _=>rfl
 obtain⟨c0,c1,c2,f⟩:=(h.alloc (vg b)).cells
 rw[hs] at c2
 have x0:=jy w b
 have hlt:=lohQ h.here
 have HK:=hH hk
 clear h hs hk
 go_enter_defers Tryz.func121,Tryz.ntmps121
 go_wp2_with (go_at_call 122;refine HK.out.mono ?_;rintro e w1 ⟨rfl,h2,h3⟩;have H1:=hH (aN h2 h3);clear h2 h3)
 refine leaves_cons (f:=156) (args:= #[.pointer (some ⟨w.heap.size,0,none⟩)]) sp1 ue0 ?_
 refine (Yt _ w.heap.size b (Yd H1.out.2 hlt) H1.out.1.cells.2.2.1 _ []).mono ?_
 rintro e u' w'' ⟨rfl,rfl,rfl⟩
 simp[Leaves,settle,results,Tryz.results121,go_sem]
 exact⟨rfl,H1.out.1,jM H1.out.2⟩
def JY (R:Value→World→Prop)(e:Ending)(w' :World):Prop:=∃v,e= .returned v∧R v w'
theorem zaz (w:World)(r:Value)(R:Value→World→Prop)(h:Calls Tryz.prog 273 #[r,.func (.func 274) #[r] #[]] w (JY R)):Calls Tryz.prog 269 #[r] w (JY R):=by
 have hmf:∀(fn:Fn) (first cap:Array Value) (w:World),(Instr.makeFunc fn first cap).run Tryz.prog w= .ok (.func fn first cap) w:=fun _ _ _ _=>rfl
 have H:=hH h
 clear h
 go_enter Tryz.func269,Tryz.ntmps269
 go_wp2_with (go_at_call 273;refine H.out.mono ?_;clear H;rintro e w1 ⟨v,rfl,h1⟩;have H1:=hH h1;clear h1)
 go_ret
 exact⟨_,rfl,H1.out⟩
theorem zb5 (w:World)(r:Value)(R:Value→World→Prop)(h:Calls Tryz.prog 121 #[r,.func (.func 122) #[r] #[]] w (JY R)):Calls Tryz.prog 78 #[r] w (JY R):=by
 have hmf:∀(fn:Fn) (first cap:Array Value) (w:World),(Instr.makeFunc fn first cap).run Tryz.prog w= .ok (.func fn first cap) w:=fun _ _ _ _=>rfl
 have H:=hH h
 clear h
 go_enter Tryz.func78,Tryz.ntmps78
 go_wp2_with (go_at_call 121;refine H.out.mono ?_;clear H;rintro e w1 ⟨v,rfl,h1⟩;have H1:=hH h1;clear h1)
 go_ret
 exact⟨_,rfl,H1.out⟩
def Rd.number (s:Rd):Int×Rd:=
 if s.bad then (0,s) else if s.pos+8≤s.data.length then (s.num,{ s with pos:=s.pos+8 }) else (0,{ s with pos:=s.data.length,bad:=true })
theorem zbY {f:FuncId}{args:Array Value}{w:World}{z:Value}{b:Nat}{dv:Value}{s:Rd}(h:Calls Tryz.prog f args w (Qs z w b dv s)):Calls Tryz.prog f args w (JY fun v w'=>v=z∧yJ w' b dv s∧zb w w' (fun k=>k=b)):=h.mono fun _ _ ⟨h1,h2⟩=>⟨z,h1,rfl,h2⟩
theorem zb1 (w:World)(b:Nat)(dv:Value)(s:Rd)(h:yJ w b dv s):Calls Tryz.prog 269 #[.pointer (some ⟨b,0,none⟩)] w (JY fun v w'=>v= .int .i64 s.number.1∧yJ w' b dv s.number.2∧zb w w' (fun k=>k=b)):=by
 apply zaz
 cases hb:s.bad with
 | true=>
   have e:s.number=(0,s):=by simp[Rd.number,hb]
   rw[e]
   exact zbY (zas w b dv s h hb _)
 | false=>
   by_cases hp:s.pos+8≤s.data.length
   · have e:s.number=(s.num,{ s with pos:=s.pos+8 }):=by simp[Rd.number,hb,hp]
     rw[e]
     exact zbR w b dv s { s with pos:=s.pos+8 } h hb hb (fun v _=>v= .int .i64 s.num) ((zdY _ b dv s (h.alloc _) hp).mono fun _ _ ⟨h1,h2,h3⟩=>⟨_,h1,rfl,h2,h3⟩)
   · have e:s.number=(0,{ s with pos:=s.data.length,bad:=true }):=by simp[Rd.number,hb,hp]
     rw[e]
     exact zbY (Jg w b dv s h hb s.data.length (zcx _ b dv s (h.alloc _) om))
def Rd.zaV (s:Rd):Value:=if s.bad∨s.pos<s.data.length then .tuple #[.int .i64 s.pos,.int .i64 30] else .tuple #[.int .i64 0,.int .i64 0]
theorem zfS (w:World)(b:Nat)(dv:Value)(s:Rd)(h:yJ w b dv s):Calls Tryz.prog 79 #[.pointer (some ⟨b,0,none⟩)] w (JY fun v w'=>v=s.zaV∧yJ w' b dv s∧zb w w' (fun _=>False)):=by
 obtain⟨c0,c1,c2,f⟩:=h.cells
 obtain⟨a,cap,hdv⟩:∃a cap,dv= .slice a s.data.length cap:=zdg h.owns
 have hfit:=h.fits
 have hfew:=h.few
 have H:=hH h
 subst hdv
 clear h
 cases hb:s.bad with
 | true=>
   have e:s.zaV= .tuple #[.int .i64 s.pos,.int .i64 30]:=by simp[Rd.zaV,hb]
   rw[e]
   rw[hb] at c2
   exact sd7
 | false=>
   rw[hb] at c2
   by_cases hp:s.pos<s.data.length
   · have e:s.zaV= .tuple #[.int .i64 s.pos,.int .i64 30]:=by simp[Rd.zaV,hp]
     rw[e]
     have hd:decide ((s.pos:Int)<(s.data.length:Int))=true:=by simp;omega
     exact sd7
   · have e:s.zaV= .tuple #[.int .i64 0,.int .i64 0]:=by simp[Rd.zaV,hp,hb]
     rw[e]
     have hd:decide ((s.pos:Int)<(s.data.length:Int))=false:=by simp;omega
     exact sd7
abbrev Got (α:Type):=Except Nat (α×Nat)
def zcc (u:UInt8):Int:=IntKind.i8.wrap (u.toNat:Int)
def QR (d:List UInt8)(p:Nat):Got Int:=match d[p]? with
 | some u=> .ok (zcc u,p+1)
 | none=> .error d.length
def zio {α:Type}(V:α→Value→World→Prop)(w:World)(b:Nat)(dv:Value)(s:Rd):Got α→Ending→World→Prop
 | .ok (x,q),e,w'=>∃v,e= .returned v∧V x v w'∧yJ w' b dv { s with pos:=q }∧zb w w' (fun k=>k=b)
 | .error p,e,w'=>Qm w b dv s p e w'
theorem JQ (w:World)(b:Nat)(dv:Value)(s:Rd)(h:yJ w b dv s):Calls Tryz.prog 122 #[.pointer (some ⟨b,0,none⟩)] w (zio (fun n v _=>v= .int .i8 n) w b dv s (QR s.data s.pos)):=by
 unfold QR
 cases hp:s.data[s.pos]? with
 | none=>
   have hl:s.data.length<s.pos+1:=by have:=List.getElem?_eq_none_iff.1 hp;omega
   have HT:=hH (zbQ w b dv s h 1 hl)
   clear h hp hl
   go_enter Tryz.func122,Tryz.ntmps122
   exact sh6
 | some u=>
   have hl:=(List.getElem?_eq_some_iff.1 hp).1
   have HT:=hH (zdj w b dv s h 1 om (by intro e;rw[e] at hl;simp at hl))
   have HU:Hid (((s.data.drop s.pos).take 1)[0]? =some u):=hH (by rw[List.getElem?_take_of_lt om,List.getElem?_drop];exact hp)
   clear h hp hl
   go_enter Tryz.func122,Tryz.ntmps122
   go_wp2_with (go_at_call 157;refine HT.out.mono ?_;clear HT;rintro e w1 ⟨g,o,cap,rfl,_,hc,h1,h2⟩;have q0:w1.cell? ⟨g,o,none⟩=some (.int .u8 u.toNat):=hc 0 u HU.out;have H1:=hH (aN h1 h2);clear hc h1 h2)
   go_ret
   exact⟨_,rfl,rfl,H1.out.1,H1.out.2⟩
def Jl {α:Type}(z:Value)(V:α→Value→World→Prop)(w:World)(b:Nat)(dv:Value)(s:Rd)(o:Got α)(v:Value)(w' :World):Prop:=
 if s.bad then v=z∧yJ w' b dv s∧zb w w' (fun k=>k=b) else
 match o with
 | .ok (x,q)=>V x v w'∧yJ w' b dv { s with pos:=q }∧zb w w' (fun k=>k=b)
 | .error p=>v=z∧yJ w' b dv { s with pos:=p,bad:=true }∧zb w w' (fun k=>k=b)
theorem zga {α:Type}{f:FuncId}{args:Array Value}{z:Value}{V:α→Value→World→Prop}{w:World}{b:Nat}{dv:Value}{s:Rd}{o:Got α}
 (hbad:s.bad=true→Calls Tryz.prog f args w (Qs z w b dv s))
 (hok:∀x q,o= .ok (x,q)→s.bad=false→Calls Tryz.prog f args w (zaA (fun v w'=>V x v w') w b dv { s with pos:=q }))
 (herr:∀p,o= .error p→s.bad=false→Calls Tryz.prog f args w (Qs z w b dv { s with pos:=p,bad:=true })):
 Calls Tryz.prog f args w (JY (Jl z V w b dv s o)):=by
 cases hb:s.bad with
 | true=>exact (hbad hb).mono fun e w' ⟨h1,h2,h3⟩=>⟨z,h1,by unfold Jl;rw[ipQ hb];exact⟨rfl,h2,h3⟩⟩
 | false=>
   have hne:¬s.bad=true:=by rw[hb];decide
   cases o with
   | error p=>exact (herr p rfl hb).mono fun e w' ⟨h1,h2,h3⟩=>⟨z,h1,by unfold Jl;rw[inQ hne];exact⟨rfl,h2,h3⟩⟩
   | ok x=>exact (hok x.1 x.2 rfl hb).mono fun e w' ⟨v,h1,h2,h3,h4⟩=>⟨v,h1,by unfold Jl;rw[inQ hne];exact⟨h2,h3,h4⟩⟩
theorem zdx (w:World)(b:Nat)(dv:Value)(s:Rd)(h:yJ w b dv s):Calls Tryz.prog 78 #[.pointer (some ⟨b,0,none⟩)] w (JY (Jl (.int .i8 0) (fun n v _=>v= .int .i8 n) w b dv s (QR s.data s.pos))):=
 zb5 w _ _ (zga (fun hb=>Q0 w b dv s h hb _)
  (fun x q ho hb=>Jh w b dv s { s with pos:=q } h hb hb (fun v _=>v= .int .i8 x) (by have:=JQ _ b dv s (h.alloc (vg b));rw[ho] at this;exact this))
  (fun p ho hb=>Qb w b dv s h hb p (by have:=JQ _ b dv s (h.alloc (vg b));rw[ho] at this;exact this)))
end Go.Proofs.YtoidedomenkbpaaGreat
