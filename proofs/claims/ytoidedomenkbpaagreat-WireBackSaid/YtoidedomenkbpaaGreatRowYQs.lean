/-
  .
-/
import Derived.Test.YtoidedomenkbpaaGreatFieldYQs
import Derived.Test.YtoidedomenkbpaaGreatGoodYQs
set_option maxRecDepth 100000
set_option maxHeartbeats 40000000
set_option linter.unusedVariables false
set_option linter.unusedSimpArgs false
namespace Go.Proofs.YtoidedomenkbpaaGreat
open Go.RowKit
open Extern.Stop (cell)
abbrev WB (w:World) (b:Nat):World:=(w.alloc (yL b)).alloc (.cells yT 35)
abbrev Je:Value:= .agg #[.int .i64 0,.int .i64 0,.string ⟨#[]⟩,.slice none 0 0]
theorem Zm (w:World)(b:Nat):(WB w b).heap[w.heap.size]? =some (yL b)∧(WB w b).heap[w.heap.size+1]? =some (.cells yT 35 (0,0)):=⟨heap_alloc2_old w _ _,heap_alloc2_new w _ _⟩
theorem zaJ (w:World)(b:Nat)(dv:Value)(s:Rd)(h:zT w b dv s)(hs:s.bad=false)(p:Nat)
 (hk:Calls Tryz.prog 281 #[.pointer (some ⟨b,0,none⟩)] (WB w b) (Ye (WB w b) b dv s p)):
 Calls Tryz.prog 280 #[.pointer (some ⟨b,0,none⟩),.func (.func 281) #[.pointer (some ⟨b,0,none⟩)] #[]] w (ZE Je w b dv { s with pos:=p,bad:=true }):=by
 have hmf:∀(fn:Fn) (first cap:Array Value) (w:World),(Instr.makeFunc fn first cap).run Tryz.prog w= .ok (.func fn first cap) w:=fun _ _ _ _=>rfl
 obtain⟨c0,c1,c2,f⟩:=((h.alloc (yL b)).alloc (.cells yT 35)).cells
 rw[hs] at c2
 have x0:(WB w b).cell? ⟨w.heap.size,0,none⟩=some (.pointer (some ⟨b,0,none⟩)):=by rw[corQ _ _ 0 _ _ _ (Zm w b).1];rfl
 have hlt:=lohQ h.here
 have HK:=hH hk
 clear h hs hk
 go_enter_defers Tryz.func280,Tryz.ntmps280
 go_wp2_with (go_at_call 281;refine HK.out.mono ?_;rintro e w1 ⟨rfl,h2,h3⟩;have H1:=hH (aN h2 h3);clear h2 h3)
 have hbx:w1.heap[w.heap.size]? =some (yL b):=(H1.out.2.block _ ud8 om1).trans (Zm w b).1
 refine leaves_cons (f:=286) (args:= #[.pointer (some ⟨w.heap.size,0,none⟩)]) sp ud7 ?_
 refine (JD _ w.heap.size b (by rw[corQ _ _ 0 _ _ _ hbx];rfl) H1.out.1.cells.2.2.1 _ []).mono ?_
 rintro e u' w'' ⟨rfl,rfl,rfl⟩
 have hg:w''.heap[w.heap.size+1]? =some (.cells yT 35 (0,0)):=(H1.out.2.block _ sp om1).trans (Zm w b).2
 show Leaves _ _ _ _ [] .returning _
 exact⟨_,results_cell_row rfl _ _ (w.heap.size+1) 35 _ (0,0) _ rfl hg Tryz.underlying35 rfl kr1,rfl,H1.out.1,(((za.refl w _).alloc _).alloc _).trans H1.out.2 (fun k hk=>Or.inl hk)⟩
theorem za0 (w:World)(b:Nat)(dv:Value)(s:Rd)(h:zT w b dv s)(hs:s.bad=true)(fv:Value):
 Calls Tryz.prog 280 #[.pointer (some ⟨b,0,none⟩),fv] w (ZE Je w b dv s):=by
 have hmf:∀(fn:Fn) (first cap:Array Value) (w:World),(Instr.makeFunc fn first cap).run Tryz.prog w= .ok (.func fn first cap) w:=fun _ _ _ _=>rfl
 obtain⟨c0,c1,c2,f⟩:=((h.alloc (yL b)).alloc (.cells yT 35)).cells
 rw[hs] at c2
 have x0:(WB w b).cell? ⟨w.heap.size,0,none⟩=some (.pointer (some ⟨b,0,none⟩)):=by rw[corQ _ _ 0 _ _ _ (Zm w b).1];rfl
 have H:=hH h
 clear h hs
 go_enter_defers Tryz.func280,Tryz.ntmps280
 go_wp2_with fail
 show Leaves _ _ _ _ [] .returning _
 exact⟨_,results_cell_row rfl _ _ (w.heap.size+1) 35 _ (0,0) _ rfl (Zm w b).2 Tryz.underlying35 rfl kr1,rfl,(H.out.alloc _).alloc _,((za.refl w _).alloc _).alloc _⟩
theorem zcs (w:World)(b:Nat)(dv:Value)(s s' :Rd)(t:Tr)(h:zT w b dv s)(hs:s.bad=false)(hs' :s'.bad=false)
 (hk:Calls Tryz.prog 281 #[.pointer (some ⟨b,0,none⟩)] (WB w b) (YL (fun v w'=>kT w' (jC (WB w b) w') v t) (WB w b) b dv s')):
 Calls Tryz.prog 280 #[.pointer (some ⟨b,0,none⟩),.func (.func 281) #[.pointer (some ⟨b,0,none⟩)] #[]] w (YL (fun v w'=>kT w' (jC w w') v t) w b dv s'):=by
 have hmf:∀(fn:Fn) (first cap:Array Value) (w:World),(Instr.makeFunc fn first cap).run Tryz.prog w= .ok (.func fn first cap) w:=fun _ _ _ _=>rfl
 obtain⟨c0,c1,c2,f⟩:=((h.alloc (yL b)).alloc (.cells yT 35)).cells
 rw[hs] at c2
 have x0:(WB w b).cell? ⟨w.heap.size,0,none⟩=some (.pointer (some ⟨b,0,none⟩)):=by rw[corQ _ _ 0 _ _ _ (Zm w b).1];rfl
 have hlt:=lohQ h.here
 have hdl:=qO h.owns
 have HK:=hH (aN hk (aN hlt hdl))
 clear h hs hk hlt hdl
 go_enter_defers Tryz.func280,Tryz.ntmps280
 go_wp2_with (go_at_call 281;refine HK.out.1.mono ?_;rintro e w1 ⟨v,rfl,⟨ka,kcap,rfl,hcp,hk⟩,h2,h3⟩;have hg:w1.heap[w.heap.size+1]? =some (.cells yT 35 (0,0)):=(h3.block _ sp (by have:=HK.out.2.1;omega)).trans (Zm w b).2;have d0:w1.cell? ⟨w.heap.size+1,0,none⟩=some (.int .i64 0):=(by rw[corQ w1 _ 0 _ _ _ hg];rfl);have d1:w1.cell? ⟨w.heap.size+1,1,none⟩=some (.int .i64 0):=(by rw[corQ w1 _ 1 _ _ _ hg];rfl);have d2:w1.cell? ⟨w.heap.size+1,2,none⟩=some (.string ⟨#[]⟩):=(by rw[corQ w1 _ 2 _ _ _ hg];rfl);have d3:w1.cell? ⟨w.heap.size+1,3,none⟩=some (.slice none 0 0):=(by rw[corQ w1 _ 3 _ _ _ hg];rfl);have df:∀j,w1.frozen? ⟨w.heap.size+1,j,none⟩=false:=(fun j=>forQ w1 _ j _ _ hg);obtain⟨len,hlen⟩:∃len,len=foLen t.kids:=⟨_,rfl⟩;rw[←hlen];have H1:=hH (aN hg (aN hcp (aN hk (aN hlen (aN h2 h3)))));clear hg hcp hk hlen h2 h3)
 obtain⟨g1,g2,g3,g4,g5,g6⟩:=H1.out
 obtain⟨s1,s2,s3⟩:=zhM g1 (.int .i64 t.id) (.int .i64 t.kind) (.string t.text) (.slice ka len kcap)
 have hb:=HK.out.2.1
 have hsz:=g6.size
 rw[WsaQ,WsaQ] at hsz
 have hrd:=g5.kept s2 om1 (fun g hg e=>by have:=HK.out.2.2 g hg;omega)
 have hbx:w1.heap[w.heap.size]? =some (yL b):=(g6.block _ (by rw[WsaQ,WsaQ];omega) om1).trans (Zm w b).1
 refine leaves_cons (f:=286) (args:= #[.pointer (some ⟨w.heap.size,0,none⟩)]) sp ud7 ?_
 refine (JE _ w.heap.size b (by rw[World.cell?_of_block (s2.block w.heap.size (lohQ hbx) om1),corQ _ _ 0 _ _ _ hbx];rfl) (by have:=hrd.cells.2.2.1;rw[hs'] at this;exact this)).mono ?_
 rintro e u' w'' ⟨rfl,rfl,rfl⟩
 show Leaves _ _ _ _ [] .returning _
 refine⟨_,results_cell_row rfl _ _ (w.heap.size+1) 35 _ (0,0) _ rfl s1 Tryz.underlying35 rfl kr1,_,rfl,⟨ka,kcap,by rw[g4],g2,g3.kept fun x hx=>?_⟩,hrd,((((za.refl w _).alloc _).alloc _).trans g6 (fun k hk=>Or.inl hk)).trans s2 (fun k hk=>Or.inr om1)⟩
 have hx1:=hx.1
 rw[WsaQ,WsaQ] at hx1
 exact sg0
def vN {α:Type}(z:Value)(V:α→Value→World→Prop)(w:World)(b:Nat)(dv:Value)(s:Rd)(o:Got α)(v:Value)(w' :World):Prop:=
 if s.bad then v=z∧zT w' b dv s∧za w w' (fun k=>k=b) else
 match o with
 | .ok (x,q)=>V x v w'∧zT w' b dv { s with pos:=q }∧za w w' (fun k=>k=b)
 | .error p=>v=z∧zT w' b dv { s with pos:=p,bad:=true }∧za w w' (fun k=>k=b)
theorem zam {α:Type}{f:FuncId}{args:Array Value}{z:Value}{V:α→Value→World→Prop}{w:World}{b:Nat}{dv:Value}{s:Rd}{o:Got α}
 (hbad:s.bad=true→Calls Tryz.prog f args w (ZE z w b dv s))
 (hok:∀x q,o= .ok (x,q)→s.bad=false→Calls Tryz.prog f args w (YL (fun v w'=>V x v w') w b dv { s with pos:=q }))
 (herr:∀p,o= .error p→s.bad=false→Calls Tryz.prog f args w (ZE z w b dv { s with pos:=p,bad:=true })):
 Calls Tryz.prog f args w (YH (vN z V w b dv s o)):=by
 cases hb:s.bad with
 | true=>exact (hbad hb).mono fun e w' ⟨h1,h2,h3⟩=>⟨z,h1,by unfold vN;rw[ipQ hb];exact⟨rfl,h2,h3⟩⟩
 | false=>
   have hne:¬s.bad=true:=by rw[hb];decide
   cases o with
   | error p=>exact (herr p rfl hb).mono fun e w' ⟨h1,h2,h3⟩=>⟨z,h1,by unfold vN;rw[inQ hne];exact⟨rfl,h2,h3⟩⟩
   | ok x=>exact (hok x.1 x.2 rfl hb).mono fun e w' ⟨v,h1,h2,h3,h4⟩=>⟨v,h1,by unfold vN;rw[inQ hne];exact⟨h2,h3,h4⟩⟩
theorem JU (w:World)(b:Nat)(dv:Value)(s:Rd)(h:zT w b dv s):Calls Tryz.prog 78 #[.pointer (some ⟨b,0,none⟩)] w (YH (vN (.int .i8 0) (fun n v _=>v= .int .i8 n) w b dv s (vZ s.data s.pos))):=
 JV w _ _ (zam (fun hb=>Yt w b dv s h hb _)
  (fun x q ho hb=>YO w b dv s { s with pos:=q } h hb hb (fun v _=>v= .int .i8 x) ub9)
  (fun p ho hb=>Z9 w b dv s h hb p ub9))
theorem zeL {w:World}{b:Nat}{l:List Stp}{v:Value}{w' :World}(h:ZT (w.alloc (yL b)) l v w'):ZT w l v w':=by
 obtain⟨a,n,cap,h1,h2,h3,h4⟩:=h
 exact⟨a,n,cap,h1,h2,h3,h4.kept fun x hx=>⟨⟨by have:=hx.1;rw[WsaQ] at this;omega,hx.2⟩,rfl⟩⟩
theorem zfD (w:World)(b:Nat)(dv:Value)(s:Rd)(h:zT w b dv s):Calls Tryz.prog 275 #[.pointer (some ⟨b,0,none⟩)] w (YH (vN (.slice none 0 0) (ZT w) w b dv s (je s.data s.pos))):=
 zd5 w _ _ (zam (fun hb=>zaK w b dv s h hb _)
  (fun x q ho hb=>za1 w b dv s { s with pos:=q } h hb hb (ZT w x) (by
    have:=zbK _ b dv s (h.alloc (yL b));rw[ho] at this
    exact this.mono fun e w' ⟨v,h1,h2,h3,h4⟩=>⟨v,h1,zeL h2,h3,h4⟩))
  (fun p ho hb=>JK w b dv s h hb p (by have:=zbK _ b dv s (h.alloc (yL b));rw[ho] at this;exact this)))
theorem zgF (w:World)(b:Nat)(dv:Value)(s:Rd)(h:zT w b dv s):Calls Tryz.prog 276 #[.pointer (some ⟨b,0,none⟩)] w (YH (vN Je (zcG w) w b dv s (jo s.data s.pos))):=by
 have hmf:∀(fn:Fn) (first cap:Array Value) (w:World),(Instr.makeFunc fn first cap).run Tryz.prog w= .ok (.func fn first cap) w:=fun _ _ _ _=>rfl
 have hlt:=lohQ h.here
 have hdl:=qO h.owns
 have ht:Calls Tryz.prog 280 #[.pointer (some ⟨b,0,none⟩),.func (.func 281) #[.pointer (some ⟨b,0,none⟩)] #[]] (w.alloc (.cells yT 35)) (YH (vN Je (zcG (w.alloc (.cells yT 35))) (w.alloc (.cells yT 35)) b dv s (jo s.data s.pos))):=
  zam (fun hb=>za0 _ b dv s (h.alloc _) hb _)
   (fun x q ho hb=>zcs _ b dv s { s with pos:=q } x (h.alloc _) hb hb ub3)
   (fun p ho hb=>zaJ _ b dv s (h.alloc _) hb p ub3)
 have hform:∀v w',vN Je (zcG (w.alloc (.cells yT 35))) (w.alloc (.cells yT 35)) b dv s (jo s.data s.pos) v w'→(∃i k t a n c,v= .agg #[.int .i64 i,.int .i64 k,.string t,.slice a n c])∧za (w.alloc (.cells yT 35)) w' (fun k=>k=b):=by
  intro v w' hm
  unfold vN at hm
  split at hm
  · exact⟨⟨0,0,⟨#[]⟩,none,0,0,hm.1⟩,hm.2.2⟩
  · split at hm
    · obtain⟨⟨ka,kcap,hv,_⟩,_,h3⟩:=hm
      exact⟨⟨_,_,_,_,_,_,hv⟩,h3⟩
    · exact⟨⟨0,0,⟨#[]⟩,none,0,0,hm.1⟩,hm.2.2⟩
 have HT:=hH (aN ht (aN hform (aN hlt hdl)))
 clear ht hform hlt hdl h
 go_enter Tryz.func276,Tryz.ntmps276
 go_wp2_with (go_at_call 280;refine HT.out.1.mono ?_;rintro e w1 ⟨v,rfl,hm⟩;obtain⟨⟨i,k,t,a,n,c,rfl⟩,h3⟩:=HT.out.2.1 _ _ hm;have hg:w1.heap[w.heap.size]? =some (.cells yT 35 (0,0)):=(h3.block _ sp (by have:=HT.out.2.2.1;omega)).trans (hanQ w _);have d0:w1.cell? ⟨w.heap.size,0,none⟩=some (.int .i64 0):=(by rw[corQ w1 _ 0 _ _ _ hg];rfl);have d1:w1.cell? ⟨w.heap.size,1,none⟩=some (.int .i64 0):=(by rw[corQ w1 _ 1 _ _ _ hg];rfl);have d2:w1.cell? ⟨w.heap.size,2,none⟩=some (.string ⟨#[]⟩):=(by rw[corQ w1 _ 2 _ _ _ hg];rfl);have d3:w1.cell? ⟨w.heap.size,3,none⟩=some (.slice none 0 0):=(by rw[corQ w1 _ 3 _ _ _ hg];rfl);have df:∀j,w1.frozen? ⟨w.heap.size,j,none⟩=false:=(fun j=>forQ w1 _ j _ _ hg);have H1:=hH (aN hg (aN hm h3));clear hg hm h3)
 obtain⟨g1,g2,g3⟩:=H1.out
 obtain⟨s1,s2,s3⟩:=zhM g1 (.int .i64 i) (.int .i64 k) (.string t) (.slice a n c)
 refine brQ (results_cell_row rfl _ _ w.heap.size 35 _ (0,0) _ rfl s1 Tryz.underlying35 rfl kr1) rfl ?_
 have hb:=HT.out.2.2.1
 have hd:=HT.out.2.2.2
 have tt:∀{W:World},za (w.alloc (.cells yT 35)) w1 (fun k=>k=b)→za w1 W (fun k=>k=w.heap.size)→za w W (fun k=>k=b):=fun h1 h2=>(((za.refl w _).alloc _).trans h1 (fun k hk=>Or.inl hk)).trans h2 (fun k hk=>Or.inr om1)
 refine⟨_,rfl,?_⟩
 unfold vN at g2 ⊢
 split
 · rename_i hbad
   rw[ipQ hbad] at g2
   exact⟨g2.1,g2.2.1.kept s2 om1 (fun g hg e=>by have:=hd g hg;omega),tt g3 s2⟩
 · rename_i hbad
   rw[inQ hbad] at g2
   cases hp:jo s.data s.pos with
   | error p=>
     rw[hp] at g2
     exact⟨g2.1,g2.2.1.kept s2 om1 (fun g hg e=>by have:=hd g hg;omega),tt g3 s2⟩
   | ok x=>
     rw[hp] at g2
     obtain⟨⟨ka,kcap,hv,hcp,hk⟩,g4,_⟩:=g2
     refine⟨⟨ka,kcap,hv,hcp,hk.kept fun y hy=>?_⟩,g4.kept s2 om1 (fun g hg e=>by have:=hd g hg;omega),tt g3 s2⟩
     have hy1:=hy.1
     rw[WsaQ] at hy1
     exact⟨⟨by omega,by rw[s3];exact hy.2⟩,s2.block y hy.2 om1⟩
end Go.Proofs.YtoidedomenkbpaaGreat
namespace Go.Proofs.YtoidedomenkbpaaGreat
open Go.RowKit Go.Shelf
def Rd.steps (s:Rd):List Stp×Rd:=if s.bad then ([],s) else match je s.data s.pos with
 | .ok (l,q)=>(l,{ s with pos:=q })
 | .error p=>([],{ s with pos:=p,bad:=true })
def Rd.tree (s:Rd):Tr×Rd:=if s.bad then (⟨0,0,⟨#[]⟩,.nil⟩,s) else match jo s.data s.pos with
 | .ok (t,q)=>(t,{ s with pos:=q })
 | .error p=>(⟨0,0,⟨#[]⟩,.nil⟩,{ s with pos:=p,bad:=true })
def JB (N:Nat)(Z:World):Nat→Prop:=fun q=>N≤q∧q<Z.heap.size
def zjt (b rb N:Nat)(s:Rd)(m:Option Addr×Nat×Nat)(Z:World):Prop:=yC b rb s.steps.2 Z∧m.2.1=s.steps.1.length∧m.2.1≤m.2.2∧vL Z (JB N Z) m.1 s.steps.1
def zju (b rb N:Nat)(s:Rd)(m:Int×Int×ByteArray×Option Addr×Nat×Nat)(Z:World):Prop:=yC b rb s.tree.2 Z∧(m.1=s.tree.1.id∧m.2.1=s.tree.1.kind∧m.2.2.1=s.tree.1.text∧m.2.2.2.2.1=foLen s.tree.1.kids)∧m.2.2.2.2.1≤m.2.2.2.2.2∧zQ Z (JB N Z) s.tree.1.kids m.2.2.2.1
theorem yC.on {b rb:Nat}{s:Rd}{X X' :World}(h:yC b rb s X)(hk:∀q,q<X.heap.size→q≠b→X'.heap[q]? =X.heap[q]?):yC b rb s X':=by
 obtain⟨dv,h1,h2,h3⟩:=h
 exact⟨dv,⟨(hk _ (lohQ h1.here) h2).trans h1.here,vE h1.owns (fun g hg=>hk g (qO h1.owns g hg) (fun e=>h3 (by rw[hg,e]))),h1.apart,h1.fits,h1.few⟩,h2,h3⟩
theorem zeM {w w' :World}{b:Nat}{dv v:Value}{s:Rd}(h:vN (.slice none 0 0) (ZT w) w b dv s (je s.data s.pos) v w'):∃(m:Option Addr×Nat×Nat),v=Zx m∧zT w' b dv s.steps.2∧m.2.1=s.steps.1.length∧m.2.1≤m.2.2∧vL w' (jC w w') m.1 s.steps.1∧za w w' (fun k=>k=b):=by
 unfold vN at h
 unfold Rd.steps
 split at h
 · rename_i hb
   rw[ipQ hb]
   obtain⟨rfl,h2,h3⟩:=h
   exact⟨(none,0,0),rfl,h2,rfl,NlrQ _,fun h0=>absurd h0 sp,h3⟩
 · rename_i hb
   rw[inQ hb]
   cases hp:je s.data s.pos with
   | error p=>
     rw[hp] at h
     obtain⟨rfl,h2,h3⟩:=h
     exact⟨(none,0,0),rfl,h2,rfl,NlrQ _,fun h0=>absurd h0 sp,h3⟩
   | ok x=>
     obtain⟨l,q⟩:=x
     rw[hp] at h
     obtain⟨⟨a,n,cap,rfl,h4,h5,h6⟩,h2,h3⟩:=h
     exact⟨(a,n,cap),rfl,h2,h4,h5,h6,h3⟩
theorem zgv {w w' :World}{b:Nat}{dv v:Value}{s:Rd}(h:vN Je (zcG w) w b dv s (jo s.data s.pos) v w'):∃(m:Int×Int×ByteArray×Option Addr×Nat×Nat),v=kz m∧zT w' b dv s.tree.2∧(m.1=s.tree.1.id∧m.2.1=s.tree.1.kind∧m.2.2.1=s.tree.1.text∧m.2.2.2.2.1=foLen s.tree.1.kids)∧m.2.2.2.2.1≤m.2.2.2.2.2∧zQ w' (jC w w') s.tree.1.kids m.2.2.2.1∧za w w' (fun k=>k=b):=by
 unfold vN at h
 unfold Rd.tree
 split at h
 · rename_i hb
   rw[ipQ hb]
   obtain⟨rfl,h2,h3⟩:=h
   exact⟨(0,0,⟨#[]⟩,none,0,0),rfl,h2,⟨rfl,rfl,rfl,rfl⟩,NlrQ _,True.intro,h3⟩
 · rename_i hb
   rw[inQ hb]
   cases hp:jo s.data s.pos with
   | error p=>
     rw[hp] at h
     obtain⟨rfl,h2,h3⟩:=h
     exact⟨(0,0,⟨#[]⟩,none,0,0),rfl,h2,⟨rfl,rfl,rfl,rfl⟩,NlrQ _,True.intro,h3⟩
   | ok x=>
     obtain⟨t,q⟩:=x
     rw[hp] at h
     obtain⟨⟨ka,cap,rfl,h4,h5⟩,h2,h3⟩:=h
     exact⟨(t.id,t.kind,t.text,ka,foLen t.kids,cap),rfl,h2,⟨rfl,rfl,rfl,rfl⟩,h4,h5,h3⟩
theorem zaV (b rb:Nat)(s:Rd)(X:World)(av:Value)(h:yC b rb s X):
 Calls Tryz.prog 271 #[.agg #[.pointer (some ⟨rb,0,none⟩)],av] X (fun e X'=>∃m,e= .returned (Zx m)∧yC b rb s.steps.2 X'∧m.2.1=s.steps.1.length∧m.2.1≤m.2.2∧vL X' (JB X.heap.size X') m.1 s.steps.1∧za X X' (fun q=>q=rb)):=by
 obtain⟨dv,h1,h2,h3⟩:=h
 obtain⟨B,hB⟩:∃B,B=X.alloc (.cells #[.pointer (some ⟨rb,0,none⟩)] 114):=⟨_,rfl⟩
 have hb:Below X.heap.size X B:=by rw[hB];exact (BrQ _ _).alloc (NlrQ _) _
 have eB:B.heap[X.heap.size]? =some (.cells #[.pointer (some ⟨rb,0,none⟩)] 114 (0,0)):=by rw[hB];exact hanQ _ _
 have k0:B.cell? ⟨X.heap.size,0,none⟩=some (.pointer (some ⟨rb,0,none⟩)):=by rw[corQ _ _ 0 _ _ _ eB];rfl
 have HN:=hH (zfD B rb dv s (by rw[hB];exact h1.alloc _))
 have HX:=hH (aN hb (aN hB (aN h2 h3)))
 clear hb eB h1 h2 h3 hB
 go_enter Tryz.func271,Tryz.ntmps271
 go_upto_region 1 with fail
 change Code.wp _ _ _ _ (X.alloc (.cells #[.pointer (some ⟨rb,0,none⟩)] 114))
 rw[←HX.out.2.1]
 go_wp2_with fail
 refine HN.out.mono ?_
 rintro e w1 ⟨v,rfl,hm⟩
 obtain⟨⟨a,n,cap⟩,rfl,m1,m2,m3,m4,m5⟩:=zeM hm
 have HF:=hH (aN m1 (aN m2 (aN m3 (aN m4 m5))))
 clear hm m1 m2 m3 m4 m5 HN
 unfold Zx
 go_wp2_with fail
 go_ret
 exact⟨(a,n,cap),rfl,⟨dv,HF.out.1,HX.out.2.2.1,HX.out.2.2.2⟩,HF.out.2.1,HF.out.2.2.1,HF.out.2.2.2.1.kept fun q hq=>⟨⟨NltQ HX.out.1.size hq.1,hq.2⟩,rfl⟩,(zn HX.out.1 _).zK HF.out.2.2.2.2⟩
theorem zbJ (b rb:Nat)(hne:rb≠b)(X0:World)(hb:b<X0.heap.size)(av:Value):zcC (σ:=Rd) (fun s X=>yC b rb s X) (fun q=>q=rb) (zjt b rb X0.heap.size) Zx b 114 (.agg #[.pointer (some ⟨rb,0,none⟩)]) (.agg #[.pointer (some ⟨rb,0,none⟩)]) 271 "allotment/wire.steps" X0 av where
 jS:=fun w=>by rfl
 enter:=fun _ _=>by rfl
 does:=fun s X h hT=>(zaV b rb s X av h).mono fun e X' ⟨m,h1,h2,h3,h4,h5,h6⟩=>⟨m,h1,h6,fun Z hk hs=>⟨h2.on hk,h3,h4,h5.kept fun q hq=>⟨⟨NltQ hT.size hq.1,nL hq.2 hs⟩,hk q hq.2 (by have:=hq.1;have:=hT.size;omega)⟩⟩⟩
 keep:=fun s X X' h hk hs=>h.on hk
 apart:=fun h=>hne h.symm
 inn:=fun s X q h e=>by obtain⟨dv,h1,_⟩:=h;rw[e];exact lohQ h1.here
theorem zcd (b rb:Nat)(s:Rd)(X:World)(ti tk:Int)(tt:ByteArray)(ta:Option Addr)(tn tc:Nat)(h:yC b rb s X):
 Calls Tryz.prog 272 #[.agg #[.pointer (some ⟨rb,0,none⟩)],.agg #[.int .i64 ti,.int .i64 tk,.string tt,.slice ta tn tc]] X (fun e X'=>∃m,e= .returned (kz m)∧yC b rb s.tree.2 X'∧(m.1=s.tree.1.id∧m.2.1=s.tree.1.kind∧m.2.2.1=s.tree.1.text∧m.2.2.2.2.1=foLen s.tree.1.kids)∧m.2.2.2.2.1≤m.2.2.2.2.2∧zQ X' (JB X.heap.size X') s.tree.1.kids m.2.2.2.1∧za X X' (fun q=>q=rb)):=by
 obtain⟨dv,h1,h2,h3⟩:=h
 obtain⟨B,hB⟩:∃B,B=zU X [.cells #[.pointer (some ⟨rb,0,none⟩)] 114,.cells #[.int .i64 ti,.int .i64 tk,.string tt,.slice ta tn tc] 35,.cells #[.int .i64 0,.int .i64 0,.string ⟨#[]⟩,.slice none 0 0] 35]:=⟨_,rfl⟩
 have hb:Below X.heap.size X B:=by rw[hB];exact zR _ _
 have eB:B.heap[X.heap.size]? =some (.cells #[.pointer (some ⟨rb,0,none⟩)] 114 (0,0)):=by rw[hB];exact zD _ _ 0 _ rfl
 have eR:B.heap[X.heap.size+1+1]? =some (.cells #[.int .i64 0,.int .i64 0,.string ⟨#[]⟩,.slice none 0 0] 35 (0,0)):=by rw[hB];exact zD _ _ 2 _ rfl
 have k0:B.cell? ⟨X.heap.size,0,none⟩=some (.pointer (some ⟨rb,0,none⟩)):=by rw[corQ _ _ 0 _ _ _ eB];rfl
 have hrb:=lohQ h1.here
 have HN:=hH (zgF B rb dv s (⟨(hb.block _ hrb).trans h1.here,vE h1.owns (fun g hg=>hb.block _ (qO h1.owns g hg)),h1.apart,h1.fits,h1.few⟩))
 have hod:dv.ownBlock≠some (X.heap.size+1+1):=fun e=>by have:=qO h1.owns _ e;omega
 have HX:=hH (aN hb (aN hB (aN h2 (aN h3 (aN eR (aN hrb hod))))))
 clear hb eB h1 h2 h3 hB eR hrb hod
 go_enter Tryz.func272,Tryz.ntmps272
 go_upto_region 1 with fail
 change Code.wp _ _ _ _ (zU X [.cells #[.pointer (some ⟨rb,0,none⟩)] 114,.cells #[.int .i64 ti,.int .i64 tk,.string tt,.slice ta tn tc] 35,.cells #[.int .i64 0,.int .i64 0,.string ⟨#[]⟩,.slice none 0 0] 35])
 rw[←HX.out.2.1]
 go_wp2_with fail
 refine HN.out.mono ?_
 rintro e w1 ⟨v,rfl,hm⟩
 obtain⟨⟨i,k,t,a,n,cap⟩,rfl,m1,⟨m2,m3,m4,m5⟩,m6,m7,m8⟩:=zgv hm
 simp only at m2 m3 m4 m5 m6 m7
 have eZ:=(m8.block _ (lohQ HX.out.2.2.2.2.1) (by have:=HX.out.2.2.2.2.2.1;omega)).trans HX.out.2.2.2.2.1
 obtain⟨s1,s2,s3⟩:=zk9 eZ (.int .i64 i) (.int .i64 k) (.string t) (.slice a n cap)
 have g0:∀j,w1.frozen? ⟨X.heap.size+1+1,j,none⟩=false:=fun j=>forQ _ _ j _ _ eZ
 obtain⟨z0,z1,z2,z3⟩:=zbW eZ
 have hXs:X.heap.size+1+1<B.heap.size:=lohQ HX.out.2.2.2.2.1
 have hb9:=s2 (X.heap.size+1+1) (NlrQ _)
 obtain⟨Z,hZ⟩:∃Z,Z=((((w1.setCell ⟨X.heap.size+1+1,0,none⟩ (.int .i64 i)).setCell ⟨X.heap.size+1+1,1,none⟩ (.int .i64 k)).setCell ⟨X.heap.size+1+1,2,none⟩ (.string t)).setCell ⟨X.heap.size+1+1,3,none⟩ (.slice a n cap)):=⟨_,rfl⟩
 rw[←hZ] at s1 s3 hb9
 have tZ:za X Z (fun q=>q=rb):=by
  have t1:=(zn HX.out.1 (fun q=>q=rb)).zK m8
  exact⟨hb9.os.trans t1.os,hb9.tape.trans t1.tape,hb9.output.trans t1.output,NltQ t1.size hb9.size,fun q h4 h5=>(s3 q om1).trans (t1.block q h4 h5)⟩
 have rZ:zT Z rb dv s.tree.2:=⟨(s3 _ (by have:=HX.out.2.2.2.2.2.1;omega)).trans m1.here,vE m1.owns (fun g hg=>s3 g (fun e=>HX.out.2.2.2.2.2.2 (by rw[hg,e]))),m1.apart,m1.fits,m1.few⟩
 have HF:=hH (aN s1 (aN rZ (aN tZ (aN m2 (aN m3 (aN m4 (aN m5 (aN m6 (m7.kept (S':=JB X.heap.size Z) (w':=Z) fun q hq=>⟨⟨by have:=hq.1;have:=HX.out.1.size;omega,nL hq.2 hb9.size⟩,s3 q (by have:=hq.1;omega)⟩)))))))))
 have HZ:=hH hZ
 clear hm m1 m2 m3 m4 m5 m6 m7 m8 HN s1 s2 s3 eZ tZ rZ hb9 hZ hXs
 unfold kz
 go_wp2_with fail
 rw[←HZ.out]
 exact brQ (qo rfl _ _ (X.heap.size+1+1) 35 _ _ _ rfl HF.out.1 Tryz.underlying35 rfl kr1) rfl ⟨(i,k,t,a,n,cap),rfl,⟨dv,HF.out.2.1,HX.out.2.2.1,HX.out.2.2.2.1⟩,⟨HF.out.2.2.2.1,HF.out.2.2.2.2.1,HF.out.2.2.2.2.2.1,HF.out.2.2.2.2.2.2.1⟩,HF.out.2.2.2.2.2.2.2.1,HF.out.2.2.2.2.2.2.2.2,HF.out.2.2.1⟩
theorem zdP (b rb:Nat)(hne:rb≠b)(X0:World)(hb:b<X0.heap.size)(ti tk:Int)(tt:ByteArray)(ta:Option Addr)(tn tc:Nat):zcC (σ:=Rd) (fun s X=>yC b rb s X) (fun q=>q=rb) (zju b rb X0.heap.size) kz b 114 (.agg #[.pointer (some ⟨rb,0,none⟩)]) (.agg #[.pointer (some ⟨rb,0,none⟩)]) 272 "allotment/wire.tree" X0 (.agg #[.int .i64 ti,.int .i64 tk,.string tt,.slice ta tn tc]) where
 jS:=fun w=>by rfl
 enter:=fun _ _=>by rfl
 does:=fun s X h hT=>(zcd b rb s X ti tk tt ta tn tc h).mono fun e X' ⟨m,h1,h2,h3,h4,h5,h6⟩=>⟨m,h1,h6,fun Z hk hs=>⟨h2.on hk,h3,h4,h5.kept fun q hq=>⟨⟨NltQ hT.size hq.1,nL hq.2 hs⟩,hk q hq.2 (by have:=hq.1;have:=hT.size;omega)⟩⟩⟩
 keep:=fun s X X' h hk hs=>h.on hk
 apart:=fun h=>hne h.symm
 inn:=fun s X q h e=>by obtain⟨dv,h1,_⟩:=h;rw[e];exact lohQ h1.here
theorem wrap64_wf (x:Int):(Lit.int .i64 (IntKind.i64.wrap x)).wf=true:=by
 have h:(decide (IntKind.i64.min≤IntKind.i64.wrap x) && decide (IntKind.i64.wrap x≤IntKind.i64.max))=true:=by
  have e1:IntKind.i64.min= -9223372036854775808:=by decide
  have e2:IntKind.i64.max=9223372036854775807:=by decide
  rw[e1,e2,IntKind.wrap_i64,Bool.and_eq_true,decide_eq_true_eq,decide_eq_true_eq]
  omega
 exact h
theorem zh0 (x:Int):(Lit.int .i8 (IntKind.i8.wrap x)).wf=true:=by
 have h:(decide (IntKind.i8.min≤IntKind.i8.wrap x) && decide (IntKind.i8.wrap x≤IntKind.i8.max))=true:=by
  have e1:IntKind.i8.min= -128:=by decide
  have e2:IntKind.i8.max=127:=by decide
  have e3:IntKind.i8.wrap x=(x+128) % 256 - 128:=by
   unfold IntKind.wrap
   simp[IntKind.signed,IntKind.bits]
   omega
  rw[e1,e2,e3,Bool.and_eq_true,decide_eq_true_eq,decide_eq_true_eq]
  omega
 exact h
theorem zhi (l:List UInt8)(h:l.length≤8):(Lit.int .i64 (numOf l)).wf=true:=by
 rw[Q0 l h];exact wrap64_wf _
theorem ziw {d:List UInt8}{p:Nat}{n:Int}{q:Nat}(h:jW d p= .ok (n,q)):(Lit.int .i64 n).wf=true:=by
 unfold jW at h
 split at h
 · cases h;exact zhi _ (by rw[List.length_take];omega)
 · cases h
theorem zgc {d:List UInt8}{p:Nat}{n:Int}{q:Nat}(h:vZ d p= .ok (n,q)):(Lit.int .i8 n).wf=true:=by
 unfold vZ at h
 split at h
 · cases h;exact zh0 _
 · cases h
theorem zbA {d:List UInt8}{p:Nat}{t:ByteArray}{q:Nat}(h:Yq d p= .ok (t,q))(hd:d.length≤100000):(t.size:Int)≤9223372036854775807:=by
 have h1:=Q6 h
 have h2:=congrArg List.length h1.1
 have h3:=h1.2
 simp only[List.length_drop,LlaQ,zw] at h2
 have e:t.data.toList.length=t.size:=Array.length_toList
 omega
theorem zbw {α:Type}{one:Nat→Nat→Got (α×Nat)}(sz:α→Nat)(P:α→Prop)(h1:∀m p x m' q,one m p= .ok ((x,m'),q)→m'=m+sz x∧P x):∀(n m p:Nat) (l:List α) (m' q:Nat),yF one n m p= .ok ((l,m'),q)→m'=m+(l.map sz).sum∧(∀x∈l,P x)
 | 0,m,p,l,m',q,h=>by
   simp only[yF] at h
   cases h
   exact⟨by simp,fun x hx=>by cases hx⟩
 | n + 1,m,p,l,m',q,h=>by
   rw[yF] at h
   split at h
   · cases h
   · rename_i l1 m1 q1 e1
     split at h
     · cases h
     · rename_i x m2 q2 e2
       cases h
       obtain⟨a1,a2⟩:=zbw sz P h1 n m p _ _ _ e1
       obtain⟨b1,b2⟩:=h1 _ _ _ _ _ e2
       refine⟨by rw[b1,a1];simp;omega,fun y hy=>?_⟩
       rcases List.mem_append.1 hy with hy | hy
       · exact a2 y hy
       · rw[List.mem_singleton] at hy;rw[hy];exact b2
theorem zbi:∀l:List Tr,zh (kM l)=(l.map fun t=>zh t.kids+1).sum
 | []=>rfl
 | t ::l=>by
   have:=zbi l
   simp only[kM,zh,List.map_cons,List.sum_cons];omega
def OkT (t:Tr):Prop:=zdo (t.id,t.kind,t.text)∧zev t.kids
theorem zby {d:List UInt8}(hd:d.length≤100000):∀(f depth m p:Nat) (t:Tr) (m' q:Nat),yA d f depth m p= .ok ((t,m'),q)→m'=m+(zh t.kids+1)∧OkT t
 | 0,depth,m,p,t,m',q,h=>by simp only[yA] at h;cases h
 | f +1,depth,m,p,t,m',q,h=>by
   rw[yA] at h
   split at h
   · cases h
   split at h
   · cases h
   rename_i id q1 e1
   split at h
   · cases h
   rename_i kd q2 e2
   split at h
   · cases h
   rename_i tx q3 e3
   split at h
   · cases h
   rename_i n q4 e4
   split at h
   · cases h
   rename_i l m2 q5 e5
   cases h
   obtain⟨h6,h7⟩:=zbw (fun t=>zh t.kids+1) OkT (fun m p x m' q hx=>zby hd f (depth+1) m p x m' q hx) n (m+1) q4 l _ _ e5
   refine⟨by rw[h6];simp only[zbi];omega,⟨zbA e3 hd,ziw e1⟩,zb9 l fun u hu=>h7 u hu⟩
theorem zat {d:List UInt8}:∀(f depth m p:Nat) (t:Tr) (m' q:Nat),yA d f depth m p= .ok ((t,m'),q)→m'≤200
 | 0,depth,m,p,t,m',q,h=>by simp only[yA] at h;cases h
 | f + 1,depth,m,p,t,m',q,h=>by
   rw[yA] at h
   split at h
   · cases h
   rename_i hm
   split at h
   · cases h
   split at h
   · cases h
   split at h
   · cases h
   split at h
   · cases h
   split at h
   · cases h
   rename_i l m2 q5 e5
   cases h
   have key:∀(n m p:Nat) (l:List Tr) (m' q:Nat),m≤200→yF (fun m' q=>yA d f (depth+1) m' q) n m p= .ok ((l,m'),q)→m'≤200:=by
    intro n
    induction n with
    | zero=>
      intro m p l m' q h1 h2
      simp only[yF] at h2
      cases h2;exact h1
    | succ n ih=>
      intro m p l m' q h1 h2
      rw[yF] at h2
      split at h2
      · cases h2
      split at h2
      · cases h2
      rename_i x m2 q2 e2
      cases h2
      exact zat f (depth+1) _ _ _ _ _ e2
   exact key _ _ _ _ _ _ om1 e5
theorem Q7 {d:List UInt8}{p:Nat}{t:Tr}{q:Nat}(h:jo d p= .ok (t,q))(hd:d.length≤100000):zh t.kids+1≤200∧OkT t:=by
 unfold jo at h
 split at h
 · cases h
 rename_i t' m' q' e
 cases h
 have h1:=zby hd _ _ _ _ _ _ _ e
 have h2:=zat _ _ _ _ _ _ _ e
 exact⟨by omega,h1.2⟩
def OkS (s:Stp):Prop:=(Lit.int .i8 s.op).wf=true∧zh s.sub.kids+1≤200∧OkT s.sub∧(s.text.size:Int)≤9223372036854775807
theorem zgd {d:List UInt8}{p:Nat}{x:Stp}{q:Nat}(h:jL d p= .ok (x,q))(hd:d.length≤100000):OkS x:=by
 rw[jL] at h
 split at h
 · cases h
 rename_i op q1 e1
 split at h
 · cases h
 split at h
 · cases h
 split at h
 · cases h
 split at h
 · cases h
 rename_i tx q5 e5
 split at h
 · cases h
 rename_i t q6 e6
 cases h
 exact⟨zgc e1,(Q7 e6 hd).1,(Q7 e6 hd).2,zbA e5 hd⟩
theorem zeA {d:List UInt8}{p:Nat}{l:List Stp}{q:Nat}(h:je d p= .ok (l,q))(hd:d.length≤100000):l.length≤60∧∀x∈l,OkS x:=by
 have hi:=zau h
 unfold je at h
 split at h
 · cases h
 rename_i n q1 e1
 have hn:n≤60:=by
  unfold vY at e1
  split at e1
  · cases e1
  split at e1
  · cases e1
  · rename_i hc
    cases e1
    simp only[not_or] at hc
    omega
 have key:∀(n m p:Nat) (l:List Stp) (m' q:Nat),yF (Yo d) n m p= .ok ((l,m'),q)→l.length=n∧∀x∈l,OkS x:=by
  intro n
  induction n with
  | zero=>
    intro m p l m' q h2
    simp only[yF] at h2
    cases h2;exact⟨rfl,fun x hx=>by cases hx⟩
  | succ n ih=>
    intro m p l m' q h2
    rw[yF] at h2
    split at h2
    · cases h2
    rename_i l1 m1 q1 e1
    split at h2
    · cases h2
    rename_i x m2 q2 e2
    cases h2
    obtain⟨a1,a2⟩:=ih _ _ _ _ _ e1
    refine⟨by simp[a1],fun y hy=>?_⟩
    rcases List.mem_append.1 hy with hy | hy
    · exact a2 y hy
    · rw[List.mem_singleton] at hy
      rw[hy]
      unfold Yo at e2
      split at e2
      · cases e2
      rename_i x' q' e3
      cases e2
      exact zgd e3 hd
 unfold Y7 at h
 split at h
 · cases h
 rename_i l' m' q' e2
 cases h
 obtain⟨a1,a2⟩:=key _ _ _ _ _ _ e2
 exact⟨by omega,a2⟩
def JI (x:Stp):Sf:=⟨x.op,x.id,x.parent,x.place,x.text,x.sub⟩
theorem zaI (x:Stp):yS (JI x)=x:=rfl
theorem zhk {t:Tr}(h:OkT t):okF (spF 1 (qJ t)):=zb8 1 (qJ t) ⟨h.1,h.2,True.intro⟩
theorem row_of {Z:World}{N:Nat}{sa:Option Addr}{l:List Stp}(h:vL Z (JB N Z) sa l)(hl:l.length≤60)(hok:∀x∈l,OkS x):∃vs:List SV,Row Z sa vs∧vs.length=l.length∧(steps vs).map yS=l∧steps vs=l.map JI:=by
 by_cases h0:0<l.length
 · obtain⟨b,off,rfl,hb,hc⟩:=h h0
   have each:∀k,k<l.length→∃y:SV,(∃x,l[k]? =some x∧y.s=JI x)∧(∀j u,(zfr y.s y.a y.c)[j]? =some u→Z.cell? ⟨b,off+k*9+j,none⟩=some u)∧ZB Z y∧Yy y.s:=fun k hk=>by
    have hx:l[k]? =some l[k]:=List.getElem?_eq_getElem hk
    obtain⟨ka,cap,c0,c1,c2,c3,c4,c5,c6,c7,c8,hp,hf⟩:=hc k _ hx
    obtain⟨o1,o2,o3,o4⟩:=hok _ (List.mem_of_getElem? hx)
    refine⟨⟨JI l[k],ka,cap⟩,⟨_,hx,rfl⟩,fun j u hj=>?_,⟨hp,hf.kept fun q hq=>⟨hq.2,rfl⟩⟩,⟨o1,by show zh l[k].sub.kids+1≤2000;omega,zhk o3,o4⟩⟩
    match j,hj with
    | 0,hj=>cases hj;exact c0
    | 1,hj=>cases hj;exact c1
    | 2,hj=>cases hj;exact c2
    | 3,hj=>cases hj;exact c3
    | 4,hj=>cases hj;exact c4
    | 5,hj=>cases hj;exact c5
    | 6,hj=>cases hj;exact c6
    | 7,hj=>cases hj;exact c7
    | 8,hj=>cases hj;exact c8
    | j+9,hj=>simp[zfr] at hj
   haveI:Inhabited SV:=⟨⟨zjn,none,0⟩⟩
   obtain⟨f,hff⟩:=Deep.choose_lt each
   have hmem:∀x∈(List.range l.length).map f,ZB Z x∧Yy x.s:=fun x hx=>by
    obtain⟨j,hj,rfl⟩:=List.mem_map.1 hx
    obtain⟨_,_,h1,h2⟩:=hff j (List.mem_range.1 hj)
    exact⟨h1,h2⟩
   have hst:steps ((List.range l.length).map f)=l.map JI:=by
    apply List.ext_getElem?
    intro k
    rw[steps,List.map_map,List.getElem?_map,List.getElem?_map]
    by_cases hk:k<l.length
    · obtain⟨⟨x,hx,he⟩,_⟩:=hff k hk
      rw[List.getElem?_range hk,hx]
      simp[he]
    · rw[List.getElem?_eq_none ud8,List.getElem?_eq_none om1];rfl
   refine⟨(List.range l.length).map f,⟨fun k x hx=>?_,fun x hx=>(hmem x hx).1,fun x hx=>(hmem x hx).2,by simp;omega⟩,by simp,?_,hst⟩
   · rw[List.getElem?_map,Option.map_eq_some_iff] at hx
     obtain⟨j,hj,rfl⟩:=hx
     obtain⟨hlt',rfl⟩:=List.getElem?_eq_some_iff.1 hj
     simp only[List.length_range] at hlt'
     simp only[List.getElem_range]
     exact⟨b,off,rfl,hb.2,(hff k hlt').2.1⟩
   · rw[hst,List.map_map]
     have:(yS∘JI)=id:=funext fun x=>zaI x
     rw[this,List.map_id]
 · have e:l= []:=List.eq_nil_of_length_eq_zero om1
   subst e
   exact⟨[],⟨fun k x hx=>by simp at hx,fun x hx=>by simp at hx,fun x hx=>by simp at hx,by simp⟩,rfl,rfl,rfl⟩
theorem zaF (s:Rd)(hd:s.data.length≤100000):s.steps.1.length≤60∧∀x∈s.steps.1,OkS x:=by
 unfold Rd.steps
 split
 · exact⟨by simp,fun x hx=>by simp at hx⟩
 · split
   · rename_i e;exact zeA e hd
   · exact⟨by simp,fun x hx=>by simp at hx⟩
theorem zbF (s:Rd)(hd:s.data.length≤100000):zh s.tree.1.kids+1≤200∧OkT s.tree.1:=by
 unfold Rd.tree
 split
 · exact ua9
 · split
   · rename_i e;exact Q7 e hd
   · exact ua9
end Go.Proofs.YtoidedomenkbpaaGreat
