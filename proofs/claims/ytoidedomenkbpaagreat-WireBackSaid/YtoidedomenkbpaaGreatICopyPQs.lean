/-
  .
-/
import Derived.Test.YtoidedomenkbpaaGreatWTreeBQs
set_option maxRecDepth 100000
set_option maxHeartbeats 40000000
set_option linter.unusedVariables false
set_option linter.unusedSimpArgs false
namespace Go.Proofs.YtoidedomenkbpaaGreat
open Go.RowKit
def zia (w:World)(t:Tr)(e:Ending)(w' :World):Prop:=∃a n cap,e= .returned (.slice a n cap)∧Z7 w' w.heap.size (.slice a n cap) n∧Below w.heap.size w w'∧(2001≤n∨n=zh t.kids+1)∧n≤2001
theorem zhW (w:World)(S:Nat→Prop)(v:Value)(t:Tr)(hlen:foLen t.kids≤9223372036854775807)(hfit:Z8 t.kids)(hS:∀k,S k→k<w.heap.size)(hv:kT w S v t):
 Calls Tryz.prog 36 #[v,.int .i64 2001] w (zia w t):=by
 obtain⟨ka,cap,rfl,hcp,hk⟩:=hv
 have hb:Below w.heap.size w (w.alloc (.cells #[.int .i64 t.id,.int .i64 t.kind,.string t.text,.slice ka (foLen t.kids) cap] 35)):=(BrQ _ _).alloc (NlrQ _) _
 have hc:=zgl _ (w.alloc (.cells #[.int .i64 t.id,.int .i64 t.kind,.string t.text,.slice ka (foLen t.kids) cap] 35)) S _ t w.heap.size (.slice none 0 0) 0 1 (Nat.lt_succ_self _) hlen hfit hS hb.size ⟨ka,cap,rfl,hcp,hk.below hb hS⟩ ⟨[],World.ownsRow_nil _ _ _ _,fun i hi=>by omega⟩ om1 om1 om1
 have HC:=hH (aN hc hb)
 clear hc hb hk hfit hS
 obtain⟨len,hl⟩:∃len,len=foLen t.kids:=⟨_,rfl⟩
 rw[←hl] at HC
 rw[←hl]
 clear hl
 go_enter Tryz.func36,Tryz.ntmps36
 go_wp2_with fail
 refine HC.out.1.mono ?_
 rintro e w2 ⟨rv,n,rfl,hsp,hg,hn,hn2,_⟩
 have hb2:Below w.heap.size w w2:=HC.out.2.trans ⟨hg.1.os,hg.1.tape,hg.1.output,hg.1.size,fun k hk=>hg.1.block k (by have:=HC.out.2.size;omega) (by simp[Value.ownBlock])⟩
 have hsp':=hsp
 obtain⟨xs,ho,_⟩:=hsp
 obtain⟨a,cap',rfl⟩:=yE ho
 have HE:=hH (aN hsp' (aN hb2 (show 2001≤n∨n=zh t.kids+1 by omega)))
 clear hsp' ho hg hn hb2
 go_wp2_with fail
 go_ret
 exact⟨_,_,_,rfl,HE.out.1,HE.out.2.1,HE.out.2.2,hn2⟩
def zjx (w:World)(t:Tr)(e:Ending)(w' :World):Prop:=∃b,e= .returned (.bool b)∧(b=false→zh t.kids+1≤2000)∧Below w.heap.size w w'
theorem zaj (w:World)(S:Nat→Prop)(v:Value)(t:Tr)(hlen:foLen t.kids≤9223372036854775807)(hfit:Z8 t.kids)(hS:∀k,S k→k<w.heap.size)(hv:kT w S v t):
 Calls Tryz.prog 26 #[v] w (zjx w t):=by
 obtain⟨ka,cap,rfl,hcp,hk⟩:=hv
 have hb:Below w.heap.size w (w.alloc (.cells #[.int .i64 t.id,.int .i64 t.kind,.string t.text,.slice ka (foLen t.kids) cap] 35)):=(BrQ _ _).alloc (NlrQ _) _
 have hc:=zhW (w.alloc (.cells #[.int .i64 t.id,.int .i64 t.kind,.string t.text,.slice ka (foLen t.kids) cap] 35)) S _ t hlen hfit (fun k hk=>nL (hS k hk) hb.size) ⟨ka,cap,rfl,hcp,hk.below hb hS⟩
 have HC:=hH (aN hc hb)
 clear hc hb hk hfit hS
 obtain⟨len,hl⟩:∃len,len=foLen t.kids:=⟨_,rfl⟩
 rw[←hl] at HC
 rw[←hl]
 clear hl
 go_enter Tryz.func26,Tryz.ntmps26
 go_wp2_with fail
 refine HC.out.1.mono ?_
 rintro e w2 ⟨a,n,cap',rfl,⟨xs,ho,hx⟩,hb2,hn,hn2⟩
 have HB:Hid (Below w.heap.size w w2):=show Below w.heap.size w w2 from HC.out.2.trans (hb2.mono HC.out.2.size)
 clear hb2
 by_cases hg:2000<n
 · have hg2:(2000:Int)<(n:Int):=by omega
   clear hn
   go_wp2_with fail
   go_ret
   exact⟨true,rfl,(fun e=>by cases e),HB.out⟩
 · have hg2:¬(2000:Int)<(n:Int):=by omega
   have HS:Hid (zh t.kids+1≤2000):=show zh t.kids+1≤2000 by omega
   have HO:=hH (aN ho hx)
   clear hn ho hx
   go_wp2_with fail
   go_loop [4] (fun i=>∃k:Nat,k≤n∧i= .int .i64 k) (fun i=>n - (intOf i).toNat)
   case atStart=>exact⟨0,NzlQ _,rfl⟩
   case round=>
    obtain⟨k,hk,rfl⟩:=hrel
    by_cases hlt:k<n
    · obtain⟨d,hd⟩:=HO.out.2 k hlt
      have ho:=HO.out.1
      have hgg:∃g,a=some ⟨g,0,none⟩:=by
       rcases ho.2 with ⟨hv,h0⟩ | ⟨g,cap2,cur,hv,_⟩
       · omega
       · cases hv;exact⟨g,rfl⟩
      obtain⟨g,rfl⟩:=hgg
      have c4:w2.cell? ⟨g,k*5+4,none⟩=some (.int .i64 d):=yH ho rfl _ _ hd
      have hkl:(k:Int)<(n:Int):=by omega
      clear ho hd
      by_cases hdd:2000<d
      · go_wp2_with fail
        go_ret
        exact⟨true,rfl,(fun e=>by cases e),HB.out⟩
      · go_wp2_with fail
        exact⟨⟨k+1,by omega,by go_num⟩,by simp[intOf];omega⟩
    · have hkl:¬(k:Int)<(n:Int):=by omega
      go_wp2_with fail
      go_ret
      exact⟨false,rfl,fun _=>HS.out,HB.out⟩
theorem zfZ (t:Tr):Y4 (spF 1 (qJ t))=(zh t.kids:Int)+1:=by
 rw[Y4,jg,jf];omega
def zgM (t u:Tr)(w:World)(e:Ending)(w' :World):Prop:=e= .returned (.bool (yh t u))∧Below w.heap.size w w'
theorem jw (w:World)(o o' :Obj):Below w.heap.size w ((w.alloc o).alloc o'):=((BrQ _ _).alloc (NlrQ _) _).alloc sp _
end Go.Proofs.YtoidedomenkbpaaGreat
namespace Go.Proofs.YtoidedomenkbpaaGreat
open Go.RowKit Go.Shelf
open Go.Maps
attribute [local go_sem] Oper.semAt_some
def okF (l:List Sp):Prop:=∀x∈l,(x.2.1.2.2.size:Int)≤9223372036854775807∧(Lit.int .i64 x.2.1.1).wf=true
section
variable {P:Program} {H:Type} {n:Nat}
end
end Go.Proofs.YtoidedomenkbpaaGreat
namespace Go.Proofs.YtoidedomenkbpaaGreat
open Go.ChangeShapes Go.WideShapes Go.ChangeAt Go.RowKit
open Extern.Stop (cell)
theorem ze5 {w:World}{a:Addr}{v:Value}(h:w.cell? a=some v):a.block<w.heap.size:=block_lt_of_cell h
theorem JX (a:Addr)(j:Nat):(a.add j).block=a.block:=by unfold Addr.add;split<;>rfl
def kM:List Tr→Fo
 | []=> .nil
 | t::l=> .node 0 0 (t.id,t.kind,t.text) t.kids (kM l)
theorem Yl:∀l:List Tr,foLen (kM l)=l.length
 | []=>rfl
 | _::l=>by simp[kM,foLen,Yl l]
theorem zc1:∀l:List Tr,(∀t∈l,foLen t.kids≤9223372036854775807∧Z8 t.kids)→Z8 (kM l)
 | [],_=>True.intro
 | t::l,h=>⟨(h t (List.mem_cons_self ..)).1,(h t (List.mem_cons_self ..)).2,zc1 l fun u hu=>h u (List.mem_cons_of_mem _ hu)⟩
theorem zfe {w:World}{S:Nat→Prop}{b:Nat}(hb:S b):∀(l:List Tr) (off:Nat),(∀i t,l[i]? =some t→∃ka cap,w.cell? ⟨b,off+i*4,none⟩=some (.int .i64 t.id)∧w.cell? ⟨b,off+i*4+1,none⟩=some (.int .i64 t.kind)∧
 w.cell? ⟨b,off+i*4+2,none⟩=some (.string t.text)∧w.cell? ⟨b,off+i*4+3,none⟩=some (.slice ka (foLen t.kids) cap)∧foLen t.kids≤cap∧zQ w S t.kids ka)→zQ w S (kM l) (some ⟨b,off,none⟩)
 | [],_,_=>True.intro
 | t ::l,off,h=>by
   obtain⟨ka,cap,h0,h1,h2,h3,hcp,hf⟩:=h 0 t rfl
   refine⟨b,off,ka,cap,rfl,hb,by simpa using h0,by simpa using h1,by simpa using h2,by simpa using h3,hcp,hf,zfe hb l (off+4) fun i u hu=>?_⟩
   obtain⟨ka,cap,h0,h1,h2,h3,hcp,hf⟩:=h (i+1) u (by simpa using hu)
   rw[show off+(i+1)*4=off+4+i*4 by omega] at h0 h1 h2 h3
   exact⟨ka,cap,h0,h1,h2,h3,hcp,hf⟩
def Old (w:World):Nat→Prop:=fun k=>k<w.heap.size
def zdo (k:Int×Int×ByteArray):Prop:=(k.2.2.size:Int)≤9223372036854775807∧(Lit.int .i64 k.1).wf=true
def zev:Fo→Prop
 | .nil=>True
 | .node _ _ k l r=>zdo k∧zev l∧zev r
theorem zb8:∀(d:Nat) (f:Fo),zev f→okF (spF d f)
 | _,.nil,_=>fun x hx=>by cases hx
 | d,.node _ _ k l r,h=>fun x hx=>by
   simp only[spF,List.mem_cons,List.mem_append] at hx
   rcases hx with rfl | hx | hx
   · exact h.1
   · exact zb8 (d+1) l h.2.1 x hx
   · exact zb8 d r h.2.2 x hx
def Fits (t:Tr):Prop:=foLen t.kids≤9223372036854775807∧Z8 t.kids∧zdo (t.id,t.kind,t.text)∧zev t.kids
theorem zb9:∀l:List Tr,(∀t∈l,zdo (t.id,t.kind,t.text)∧zev t.kids)→zev (kM l)
 | [],_=>True.intro
 | t::l,h=>⟨(h t (List.mem_cons_self ..)).1,(h t (List.mem_cons_self ..)).2,zb9 l fun u hu=>h u (List.mem_cons_of_mem _ hu)⟩
section
variable {H:Type} {enc:TypeId×Value→H} {w:World} {base:Nat} {spare:Nat→Bool} {held:Bool}
theorem zar : ∀(fuel:Nat) (cs:List Value) (x:DataW H×List MemPlace),DataW.trod enc Tryz.prog w base spare held fuel 35 cs=some x→
 ∃(t:Tr) (ka:Option Addr) (cap:Nat),cs= [.int .i64 t.id,.int .i64 t.kind,.string t.text,.slice ka (foLen t.kids) cap]∧foLen t.kids≤cap∧zQ w (Old w) t.kids ka∧Fits t:=by
 intro fuel
 induction fuel using Nat.strongRecOn with
 | ind fuel ih =>
   intro cs x h
   obtain⟨xs,n,hn,_,hl,hlen,hf⟩:=DataW.trod_struct Tryz.underlying35 h
   have h4:Tryz.prog.cellsOf 35=4:=by kernel_rfl
   rw[h4] at hl
   match cs,hl with
   | [c0, c1, c2,c3],_=>
     have k1:Tryz.prog.cellsOf 3=1:=by kernel_rfl
     have k2:Tryz.prog.cellsOf 9=1:=by kernel_rfl
     have k3:Tryz.prog.cellsOf 33=1:=by kernel_rfl
     match xs,hlen with
     | [y0, y1,y2,y3],_=>
       have t0:DataW.trod enc Tryz.prog w base spare held n 3 (([c0,c1,c2,c3].drop 0).take (Tryz.prog.cellsOf 3))=some y0:=hf 0 _ rfl
       have t1:DataW.trod enc Tryz.prog w base spare held n 3 (([c0,c1,c2,c3].drop 1).take (Tryz.prog.cellsOf 3))=some y1:=hf 1 _ rfl
       have t2:DataW.trod enc Tryz.prog w base spare held n 9 (([c0,c1,c2,c3].drop 2).take (Tryz.prog.cellsOf 9))=some y2:=hf 2 _ rfl
       have t3:DataW.trod enc Tryz.prog w base spare held n 33 (([c0,c1,c2,c3].drop 3).take (Tryz.prog.cellsOf 33))=some y3:=hf 3 _ rfl
       simp only[k1,k2,k3,List.drop_zero,List.take_succ_cons,List.take_zero,List.drop_succ_cons] at t0 t1 t2 t3
       obtain⟨id,e0,_,wf0⟩:=DataW.trod_int Tryz.underlying3 t0
       obtain⟨kd,e1,_,_⟩:=DataW.trod_int Tryz.underlying3 t1
       obtain⟨tx,e2,_,hsz⟩:=DataW.trod_string Tryz.underlying9 t2
       have hkey:zdo (id,kd,tx):=⟨by show (tx.size:Int)≤_;unfold maxLen at hsz;omega,wf0⟩
       simp only[List.cons.injEq,and_true] at e0 e1 e2
       subst e0;subst e1;subst e2
       rcases DataW.trod_slice Tryz.underlying33 t3 with ⟨e3,_⟩ | ⟨ad,len,cap,elems,rest,m,hm,e3,_,_,hlc,hcm,_,hi,_⟩
       · simp only[List.cons.injEq,and_true] at e3
         subst e3
         exact⟨⟨id,kd,tx,.nil⟩,none,0,rfl,NlrQ _,True.intro,NzlQ _,True.intro,hkey,True.intro⟩
       · simp only[List.cons.injEq,and_true] at e3
         subst e3
         rw[h4] at hi
         have each:∀i,i<len→∃(u:Tr),∃(ka:Option Addr) (kcap:Nat),w.cell? (ad.add (i*4))=some (.int .i64 u.id)∧w.cell? (ad.add (i*4+1))=some (.int .i64 u.kind)∧w.cell? (ad.add (i*4+2))=some (.string u.text)∧
          w.cell? (ad.add (i*4+3))=some (.slice ka (foLen u.kids) kcap)∧foLen u.kids≤kcap∧zQ w (Old w) u.kids ka∧Fits u:=fun i hil=>by
          have h1:=hi i hil
          obtain⟨y,hy⟩:∃y,elems[i]? =some y:=⟨elems[i]'om1,List.getElem?_eq_getElem _⟩
          rw[hy,Option.bind_eq_some_iff] at h1
          obtain⟨cs',hc,ht⟩:=h1
          obtain⟨_,_,hat⟩:=World.cells?_some hc
          obtain⟨u,ka,kcap,rfl,hcp,hfo,hft⟩:=ih m om1 cs' y ht
          have a0:=hat 0 om1
          have a1:=hat 1 om1
          have a2:=hat 2 om1
          have a3:=hat 3 om1
          rw[Deep.add_add] at a0 a1 a2 a3
          exact⟨u,ka,kcap,a0,a1,a2,a3,hcp,hfo,hft⟩
         obtain⟨f,hff⟩:=Deep.choose_lt each
         have hls:foLen (kM ((List.range len).map f))=len:=by rw[Yl];simp
         refine⟨⟨id,kd,tx,kM ((List.range len).map f)⟩,some ad,cap,by rw[hls],by rw[hls];exact hlc,?_,?_,?_,hkey,?_⟩
         · cases hl0:len with
           | zero=>exact True.intro
           | succ len'=>
             rw[←hl0]
             obtain⟨b,off,spot⟩:=ad
             obtain⟨_,_,hz,_⟩:=hff 0 om1
             have hsp:spot=none:=by simpa [Addr.add] using World.cell?_spot hz
             subst hsp
             have hlt:=ze5 hz
             rw[JX] at hlt
             refine zfe (show Old w b from hlt) _ off fun i u hu=>?_
             rw[List.getElem?_map,Option.map_eq_some_iff] at hu
             obtain⟨j,hj,rfl⟩:=hu
             obtain⟨hlt',rfl⟩:=List.getElem?_eq_some_iff.1 hj
             simp only[List.length_range] at hlt'
             simp only[List.getElem_range]
             obtain⟨ka,kcap,h0,h1,h2,h3,hcp,hfo,_⟩:=hff i hlt'
             rw[Addr.add_mid] at h0 h1 h2 h3
             exact⟨ka,kcap,h0,by rw[Nat.add_assoc];exact h1,by rw[Nat.add_assoc];exact h2,by rw[Nat.add_assoc];exact h3,hcp,hfo⟩
         · show foLen (kM ((List.range len).map f))≤_
           rw[hls];unfold maxLen at hcm;omega
         · refine zc1 _ fun u hu=>?_
           simp only[List.mem_map,List.mem_range] at hu
           obtain⟨i,hil,rfl⟩:=hu
           obtain⟨_,_,_,_,_,_,_,_,hft⟩:=hff i hil
           exact⟨hft.1,hft.2.1⟩
         · refine zb9 _ fun u hu=>?_
           simp only[List.mem_map,List.mem_range] at hu
           obtain⟨i,hil,rfl⟩:=hu
           obtain⟨_,_,_,_,_,_,_,_,hft⟩:=hff i hil
           exact hft.2.2
theorem zex (fuel:Nat)(cs:List Value)(x:DataW H×List MemPlace)(h:DataW.trod enc Tryz.prog w base spare held fuel 41 cs=some x):
 ∃(op id par at_:Int) (tx:ByteArray) (u:Tr) (ka:Option Addr) (cap:Nat),cs= [.int .i8 op,.int .i64 id,.int .i64 par,.int .i64 at_,.string tx,.int .i64 u.id,.int .i64 u.kind,.string u.text,.slice ka (foLen u.kids) cap]∧foLen u.kids≤cap∧zQ w (Old w) u.kids ka∧Fits u∧((Lit.int .i8 op).wf=true∧(Lit.int .i64 id).wf=true∧(Lit.int .i64 par).wf=true∧(Lit.int .i64 at_).wf=true)∧(tx.size:Int)≤9223372036854775807:=by
 obtain⟨xs,n,_,_,hl,hlen,hf⟩:=DataW.trod_struct Tryz.underlying41 h
 have h9:Tryz.prog.cellsOf 41=9:=by kernel_rfl
 rw[h9] at hl
 match cs,hl with
 | [c0,c1,c2,c3,c4,c5,c6,c7,c8],_=>
   have k1:Tryz.prog.cellsOf 3=1:=by kernel_rfl
   have k2:Tryz.prog.cellsOf 9=1:=by kernel_rfl
   have k3:Tryz.prog.cellsOf 35=4:=by kernel_rfl
   have k4:Tryz.prog.cellsOf 32=1:=by kernel_rfl
   match xs,hlen with
   | [y0,y1,y2,y3,y4,y5],_=>
     have t0:DataW.trod enc Tryz.prog w base spare held n 32 (([c0,c1,c2,c3,c4,c5,c6,c7,c8].drop 0).take (Tryz.prog.cellsOf 32))=some y0:=hf 0 _ rfl
     have t1:DataW.trod enc Tryz.prog w base spare held n 3 (([c0,c1,c2,c3,c4,c5,c6,c7,c8].drop 1).take (Tryz.prog.cellsOf 3))=some y1:=hf 1 _ rfl
     have t2:DataW.trod enc Tryz.prog w base spare held n 3 (([c0,c1,c2,c3,c4,c5,c6,c7,c8].drop 2).take (Tryz.prog.cellsOf 3))=some y2:=hf 2 _ rfl
     have t3:DataW.trod enc Tryz.prog w base spare held n 3 (([c0,c1,c2,c3,c4,c5,c6,c7,c8].drop 3).take (Tryz.prog.cellsOf 3))=some y3:=hf 3 _ rfl
     have t4:DataW.trod enc Tryz.prog w base spare held n 9 (([c0,c1,c2,c3,c4,c5,c6,c7,c8].drop 4).take (Tryz.prog.cellsOf 9))=some y4:=hf 4 _ rfl
     have t5:DataW.trod enc Tryz.prog w base spare held n 35 (([c0,c1,c2,c3,c4,c5,c6,c7,c8].drop 5).take (Tryz.prog.cellsOf 35))=some y5:=hf 5 _ rfl
     simp only[k1,k2,k3,k4,List.drop_zero,List.take_succ_cons,List.take_zero,List.drop_succ_cons] at t0 t1 t2 t3 t4 t5
     obtain⟨op,e0,_,b0⟩:=DataW.trod_int Tryz.underlying32 t0
     obtain⟨id,e1,_,b1⟩:=DataW.trod_int Tryz.underlying3 t1
     obtain⟨pa,e2,_,b2⟩:=DataW.trod_int Tryz.underlying3 t2
     obtain⟨pl,e3,_,b3⟩:=DataW.trod_int Tryz.underlying3 t3
     obtain⟨tx,e4,_,b4⟩:=DataW.trod_string Tryz.underlying9 t4
     obtain⟨u,ka,cap,e5,hcp,hfo,hft⟩:=zar n _ y5 t5
     simp only[List.cons.injEq,and_true] at e0 e1 e2 e3 e4 e5
     obtain⟨rfl,rfl,rfl,rfl⟩:=e5
     subst e0;subst e1;subst e2;subst e3;subst e4
     exact⟨op,id,pa,pl,tx,u,ka,cap,rfl,hcp,hfo,hft,⟨b0,b1,b2,b3⟩,by unfold maxLen at b4;omega⟩
end
end Go.Proofs.YtoidedomenkbpaaGreat
namespace Go.Proofs.YtoidedomenkbpaaGreat
open Go.RowKit
theorem Tryz.zbY:(Tryz.prog.info? 3).map (fun i=>(i.zero,i.size,i.bytes))=some (some (.int .i64 0),1,8):=by kernel_rfl
def zen (n:Int):Value:= .int .i64 n
end Go.Proofs.YtoidedomenkbpaaGreat
namespace Go.Proofs.YtoidedomenkbpaaGreat
open Go.RowKit Go.Shelf
def zbT (w:World)(S:Nat→Prop)(u:Tr)(b off:Nat):Prop:=S b∧w.cell? ⟨b,off,none⟩=some (.int .i64 u.id)∧w.cell? ⟨b,off+1,none⟩=some (.int .i64 u.kind)∧w.cell? ⟨b,off+2,none⟩=some (.string u.text)∧∃ka kc,w.cell? ⟨b,off+3,none⟩=some (.slice ka (foLen u.kids) kc)∧foLen u.kids≤kc∧zQ w S u.kids ka
theorem zha:∀(f:Fo) {w:World} {S:Nat→Prop} {b off:Nat},zQ w S f (some ⟨b,off,none⟩)→∃xs,jN w S f xs∧xs.length=foLen f*4∧(∀j u,xs[j]? =some u→w.cell? ⟨b,off+j,none⟩=some u)∧∀u∈xs,u.oneCell'=true
 | .nil,_,_,_,_,_=>⟨[],rfl,rfl,fun _ _ h=>by simp at h,fun _ h=>by cases h⟩
 | .node _ _ k l r,w,S,b,off,h=>by
   obtain⟨b',off',ka,kc,e,hb,c0,c1,c2,c3,hcp,hkl,hr⟩:=h
   cases e
   obtain⟨ys,h1,h2,h3,h4⟩:=zha r hr
   refine⟨[.int .i64 k.1,.int .i64 k.2.1,.string k.2.2,.slice ka (foLen l) kc]++ys,⟨ka,kc,ys,rfl,hcp,hkl,h1⟩,by rw[LlaQ,h2];simp[foLen];omega,fun j u hu=>?_,fun u hu=>?_⟩
   · match j,hu with
     | 0,hu=>simp at hu;subst hu;exact c0
     | 1,hu=>simp at hu;subst hu;exact c1
     | 2,hu=>simp at hu;subst hu;exact c2
     | 3,hu=>simp at hu;subst hu;exact c3
     | j +4,hu=>
       have:=h3 j u (by simpa using hu)
       rw[show off+(j+4)=off+4+j by omega];exact this
   · rcases List.mem_append.1 hu with hu | hu
     · simp only[List.mem_cons,List.not_mem_nil,or_false] at hu
       rcases hu with rfl | rfl | rfl | rfl<;>rfl
     · exact h4 u hu
theorem zik (f:Fo){w:World}{S:Nat→Prop}{a:Option Addr}(h:zQ w S f a):∃xs,jN w S f xs∧xs.length=foLen f*4∧(∀ad,a=some ad→∀j u,xs[j]? =some u→w.cell? (ad.add j)=some u)∧(∀u∈xs,u.oneCell'=true):=by
 cases f with
 | nil=>exact⟨[],rfl,rfl,fun _ _ _ _ h=>by simp at h,fun _ h=>by cases h⟩
 | node b0 o0 k l r=>
   have h':=h
   obtain⟨b',off',ka,kc,e,_⟩:=h'
   subst e
   obtain⟨xs,h1,h2,h3,h4⟩:=zha _ h
   exact⟨xs,h1,h2,fun ad hd j u hu=>by cases hd;rw[Addr.add_mid];exact h3 j u hu,h4⟩
theorem QT {f:Fo}{i:Nat}{u:Tr}(h:Yc f i=some u):zh u.kids+1≤zh f:=by
 have h2:=zcZ h
 have h3:∀(j:Nat) (f:Fo),zh (yx j f)≤zh f:=by
  intro j
  induction j with
  | zero=>intro f;rw[zc0];exact NlrQ _
  | succ j ih=>intro f;cases f with
    | nil=>exact NlrQ _
    | node b o a l r=>have:=ih r;simp only[yx,zh];omega
 have:=h3 i f
 omega
theorem zbW {w:World}{b:Nat}{c0 c1 c2 c3:Value}{T:TypeId}(h:w.heap[b]? =some (.cells #[c0,c1,c2,c3] T (0,0))):w.cell? ⟨b,0,none⟩=some c0∧w.cell? ⟨b,1,none⟩=some c1∧w.cell? ⟨b,2,none⟩=some c2∧w.cell? ⟨b,3,none⟩=some c3:=
 ⟨by rw[corQ _ _ 0 _ _ _ h];rfl,by rw[corQ _ _ 1 _ _ _ h];rfl,by rw[corQ _ _ 2 _ _ _ h];rfl,by rw[corQ _ _ 3 _ _ _ h];rfl⟩
theorem zaW {P:Program}{fn:Func}{p u:Tmp}{ty:TypeId}(h:fn.results= #[.cell p ty,.tmp u])(tmps:Array Value)(w:World)(g:Nat)(t:TypeId)(cs:Array Value)(fr:Nat×Nat)(d:TypeDesc)(x:Value)
 (hp:tmps.getD p undef= .pointer (some ⟨g,0,none⟩)) (hg:w.heap[g]? =some (.cells cs t fr)) (hu:P.underlying ty=some d) (hd:(match d with | .struct _ | .array _ _=>true | _=>false)=true) (hi:(P.info? ty).map (·.size)=some cs.size) (hp2:tmps.getD u undef=x):
 (results fn tmps).run P w= .ok (.tuple #[.agg cs,x]) w:=by
 have hp' :tmps[p]?.getD undef= .pointer (some ⟨g,0,none⟩):=by simpa using hp
 have hp2' :tmps[u]?.getD undef=x:=by simpa using hp2
 simp[results,h,hp',hp2',asAddr,run_loadVar_row w g t ty cs fr d hg hu hd hi]
theorem zai {V:World}{R1:Nat}{c0 c1 c2 c3 u0 u1 u2 u3:Value}(h2:V.heap[R1]? =some (.cells #[c0,c1,c2,c3] 35 (0,0))):
 ∃V5,V5=((((V.setCell ⟨R1,0,none⟩ u0).setCell ⟨R1,1,none⟩ u1).setCell ⟨R1,2,none⟩ u2).setCell ⟨R1,3,none⟩ u3)∧V5.heap[R1]? =some (.cells #[u0,u1,u2,u3] 35 (0,0))∧(∀y,y≠R1→V5.heap[y]? =V.heap[y]?)∧V5.os=V.os∧V5.tape=V.tape∧V5.output=V.output∧V5.heap.size=V.heap.size:=by
 have g1:=hssQ V R1 0 _ _ u0 h2
 have g2:=hssQ _ R1 1 _ _ u1 g1
 have g3:=hssQ _ R1 2 _ _ u2 g2
 have g4:=hssQ _ R1 3 _ _ u3 g3
 refine⟨_,rfl,by simpa using g4,fun y hy=>?_,rfl,rfl,rfl,by simp[World.setCell]⟩
 rw[BhsQ _ _ _ _ hy,BhsQ _ _ _ _ hy,BhsQ _ _ _ _ hy,BhsQ _ _ _ _ hy]
def NB (X:World)(y:Nat):Prop:=∃cs,X.heap[y]? =some (.cells cs 35 (0,0))
def SN (S:Nat→Prop)(B0:Nat)(X:World)(y:Nat):Prop:=S y∨(y≠B0+1∧B0≤y∧NB X y)
theorem NB.lt {X:World}{y:Nat}(h:NB X y):y<X.heap.size:=by obtain⟨cs,h⟩:=h;exact lt_of_some h
theorem SN.lt {S:Nat→Prop}{B0:Nat}{X:World}(hS:∀y,S y→y<B0)(hB:B0≤X.heap.size){y:Nat}(h:SN S B0 X y):y<X.heap.size:=by
 rcases h with h | h
 · have:=hS y h;omega
 · exact h.2.2.lt
theorem NB.Jr {X Y:World}{y:Nat}(h:NB X y)(e:Y.heap[y]? =X.heap[y]?):NB Y y:=by obtain⟨cs,h⟩:=h;exact⟨cs,e.trans h⟩
theorem YD {w:World}{B:Nat}{e:TypeId}{size:Nat}{v:Value}{n:Nat}{xs:List Value}(h:w.ownsRow B e size v n xs){g:Nat}(hg:v.ownBlock=some g):∃cur,w.heap[g]? =some (.cells cur e (0,0)):=by
 rcases h.2 with ⟨hv,_⟩ | ⟨g',cap,cur,hv,hB,hh,_⟩
 · rw[hv] at hg;cases hg
 · rw[hv] at hg;cases hg;exact⟨cur,hh⟩
theorem zfg {Y:World}{S:Nat→Prop}{g:Nat}(hg:S g):∀(l:Fo) (b off go:Nat),(∀j,j<foLen l*4→Y.cell? ⟨g,go+j,none⟩=Y.cell? ⟨b,off+j,none⟩)→zQ Y S l (some ⟨b,off,none⟩)→zQ Y S l (some ⟨g,go,none⟩)
 | .nil,_,_,_,_,_=>True.intro
 | .node _ _ k l r,b,off,go,hc,h=>by
   obtain⟨b',off',ka,cap,e,hb,h0,h1,h2,h3,hcp,hl,hr⟩:=h
   cases e
   have c0:=hc 0 uc6
   have c1:=hc 1 uc6
   have c2:=hc 2 uc6
   have c3:=hc 3 uc6
   refine⟨g,go,ka,cap,rfl,hg,c0.trans h0,c1.trans h1,c2.trans h2,c3.trans h3,hcp,hl,zfg hg r _ _ _ (fun j hj=>?_) hr⟩
   have:=hc (4+j) uc6
   rw[Nat.add_assoc,Nat.add_assoc];exact this
theorem ZM {Y:World}{S:Nat→Prop}{g off n c c' :Nat}{ka ka' :Option Addr}(h3:Y.cell? ⟨g,off,none⟩=some (.slice ka n c))(hc:n≤c')(hcopy:∀l,foLen l=n→zQ Y S l ka→zQ Y S l ka'):
 ∀(f:Fo) (a:Option Addr),zQ Y S f a→zQ (Y.setCell ⟨g,off,none⟩ (.slice ka' n c')) S f a
 | .nil,_,_=>True.intro
 | .node _ _ k l r,a,h=>by
   obtain⟨b,o,kb,cap,e,hb,h0,h1,h2,h4,hcp,hl,hr⟩:=h
   have hoth:∀j v,Y.cell? ⟨b,j,none⟩=some v→(∀x m q,v≠ .slice x m q)→(Y.setCell ⟨g,off,none⟩ (.slice ka' n c')).cell? ⟨b,j,none⟩=some v:=fun j v hv hne=>by
    rw [World.cell?_setCell_other _ _ _ _ (by
     intro he
     rw[←he,h3] at hv
     exact hne _ _ _ (Option.some.inj hv).symm)]
    exact hv
   refine⟨b,o,?_⟩
   by_cases he:b=g∧o+3=off
   · obtain⟨rfl,rfl⟩:=he
     rw[h3] at h4
     cases h4
     refine⟨ka',c',e,hb,hoth _ _ h0 (by intros;simp),hoth _ _ h1 (by intros;simp),hoth _ _ h2 (by intros;simp),?_,hc,ZM h3 hc hcopy l ka' (hcopy l rfl hl),ZM h3 hc hcopy r _ hr⟩
     exact World.cell?_setCell_same' Y _ _ (by rw[h3];rfl)
   · refine⟨kb,cap,e,hb,hoth _ _ h0 (by intros;simp),hoth _ _ h1 (by intros;simp),hoth _ _ h2 (by intros;simp),?_,hcp,ZM h3 hc hcopy l kb hl,ZM h3 hc hcopy r _ hr⟩
     rw[World.cell?_setCell_other _ _ _ _ (by intro h;cases h;exact he ⟨rfl,rfl⟩)]
     exact h4
theorem zeb {X Y:World}{S:Nat→Prop}{B0 n c' :Nat}{ka ka' :Option Addr}{f:Fo}{xs:List Value}(hS:∀y,S y→y<B0)(hB:B0+1<X.heap.size)(hY:Below X.heap.size X Y)(hf:zQ X (SN S B0 X) f ka)(hr:jN X (SN S B0 X) f xs)(hn:n=foLen f)(hl:xs.length=n*4)(hc:∀ad,ka=some ad→∀j u,xs[j]? =some u→X.cell? (ad.add j)=some u)
 (ho:Y.ownsRow X.heap.size 35 4 (.slice ka' n c') n xs):
 n≤c'∧zQ Y (SN S B0 Y) f ka'∧(0<n→∃g,ka'=some ⟨g,0,none⟩∧X.heap.size≤g∧NB Y g)∧(∀l,foLen l=n→zQ Y (SN S B0 Y) l ka→zQ Y (SN S B0 Y) l ka')∧(∀l a,zQ X (SN S B0 X) l a→zQ Y (SN S B0 Y) l a):=by
 have hkeep:∀y,SN S B0 X y→SN S B0 Y y∧Y.heap[y]? =X.heap[y]?:=fun y hy=>by
  have h1:=hY.block y (hy.lt hS om1)
  exact⟨hy.imp (fun h=>h) (fun h=>⟨h.1,h.2.1,h.2.2.Jr h1⟩),h1⟩
 have hall:∀l a,zQ X (SN S B0 X) l a→zQ Y (SN S B0 Y) l a:=fun l a h=>h.kept hkeep
 have hz:n=0→∀l:Fo,foLen l=n→∀a,zQ Y (SN S B0 Y) l a:=fun h0 l hl a=>by
  cases l with
  | nil=>exact True.intro
  | node b o k p q=>simp[foLen] at hl;omega
 rcases ho.2 with ⟨hv,h0⟩ | ⟨g,cc,cur,hv,hg,hh,hnc,_⟩
 · cases hv
   exact⟨by omega,hz om1 f hn.symm _,fun h=>by omega,fun l hl _=>hz om1 l hl _,hall⟩
 · cases hv
   have hgN:NB Y g:=⟨cur,hh⟩
   have hcell:=fun j u hj=>yH ho (g:=g) rfl j u hj
   have hfk:zQ Y (SN S B0 Y) f (some ⟨g,0,none⟩):=jN.lies (Or.inr ⟨by omega,by omega,hgN⟩) 0 (hr.kept hkeep) (fun j u hj=>by rw[Nat.zero_add];exact hcell j u hj)
   refine⟨hnc,hfk,fun _=>⟨g,rfl,hg,hgN⟩,fun l hll hla=>?_,hall⟩
   by_cases h0:n=0
   · exact hz h0 l hll _
   · cases l with
     | nil=>exact True.intro
     | node b o k p q=>
       have hla':=hla
       obtain⟨b',off',kb,cap,e,hb,_⟩:=hla'
       subst e
       cases f with
       | nil=>simp[foLen] at hn;omega
       | node b1 o1 k1 p1 q1=>
         obtain⟨b2,off2,kb2,cap2,e2,hb2,_⟩:=hf
         cases e2
         refine zfg (Or.inr ⟨by omega,by omega,hgN⟩) _ b' off' 0 (fun j hj=>?_) hla
         rw[hll,←hl] at hj
         have hx:xs[j]? =some xs[j]:=List.getElem?_eq_getElem hj
         have h1:=hc _ rfl j _ hx
         rw[Addr.add_mid] at h1
         rw[Nat.zero_add,hcell j _ hx,World.cell?_of_block (a:=⟨b',off'+j,none⟩) (hkeep b' hb2).2,h1]
theorem zij {w:World}{S:Nat→Prop}{f:Fo}{a:Option Addr}(h:zQ w S f a)(ha:a=none):foLen f=0:=by
 cases f with
 | nil=>rfl
 | node b o k l r=>obtain⟨_,_,_,_,e,_⟩:=h;rw[ha] at e;cases e
attribute [local go_sem] Oper.semAt_some
def zgK (w:World)(et:TypeId)(size:Nat)(f:Sp→List Value)(l:List Sp)(e:Ending)(w' :World):Prop:=∃v,e= .returned v∧w'.ownsRow w.heap.size et size v l.length (l.flatMap f)∧Below w.heap.size w w'
structure JR (w:World) (st et ft:TypeId) (size LB OB g cap:Nat) (fv:Value) (f:Sp→List Value) (pre:List Sp) (V:World):Prop where
 cell:V.heap[LB]? =some (.cells #[.slice (some ⟨g,0,none⟩) pre.length cap] st (0,0))
 of_:V.heap[OB]? =some (.cells #[fv] ft (0,0))
 own:V.ownsRow w.heap.size et size (.slice (some ⟨g,0,none⟩) pre.length cap) pre.length (pre.flatMap f)
 below:Below w.heap.size w V
theorem JR.keep {w V V' :World}{st et ft:TypeId}{size LB OB g cap:Nat}{fv:Value}{f:Sp→List Value}{pre:List Sp}(h:JR w st et ft size LB OB g cap fv f pre V)(ho:V'.os=V.os∧V'.tape=V.tape∧V'.output=V.output∧V.heap.size≤V'.heap.size)(M:Nat)(hL:LB<M)(hO:OB<M)(hg:g<M)(hw:w.heap.size≤M)(hk:∀x,x<M→x<V.heap.size→V'.heap[x]? =V.heap[x]?):JR w st et ft size LB OB g cap fv f pre V':=
 ⟨(hk _ hL (lohQ h.cell)).trans h.cell,(hk _ hO (lohQ h.of_)).trans h.of_,yo h.own (fun g' cur hc hg'=>by cases hg';exact hk _ hg (lohQ hc)),ho.1.trans h.below.os,ho.2.1.trans h.below.tape,ho.2.2.1.trans h.below.output,NltQ h.below.size ho.2.2.2,fun x hx=>(hk x om1 (by have:=h.below.size;omega)).trans (h.below.block x hx)⟩
section
variable {n:Nat} {P:Program}
theorem zbd {ops:Array Oper}{Q:Exit→Act→World→Prop}{md:Region.Mode}{S:World→Prop}{i j:Nat}{o o' :Oper}{fuel:Nat}{listed:Array Bool}{a:Act}{w:World}(hr:Region.ready md ops listed= [i,j])(ho:ops[i]? =some o)(ho' :ops[j]? =some o')
 (h:∀K:Act→World→Prop,(∀a' w',S w'→jB n P md ops Q S fuel (listed.setIfInBounds i true) a' w'→K a' w')→if Region.wanted o (yielded ops a.tmps)=true then Oper.wpIn Fence.wide n P o a w K Q else K (a.put o.dst undef) w)
 (h' :∀K:Act→World→Prop,(∀a' w',S w'→jB n P md ops Q S fuel (listed.setIfInBounds j true) a' w'→K a' w')→if Region.wanted o' (yielded ops a.tmps)=true then Oper.wpIn Fence.wide n P o' a w K Q else K (a.put o'.dst undef) w):jB n P md ops Q S (fuel+1) listed a w:=by
 have one:∀(k:Nat) (o:Oper),ops[k]? =some o→(∀K:Act→World→Prop,(∀a' w',S w'→jB n P md ops Q S fuel (listed.setIfInBounds k true) a' w'→K a' w')→if Region.wanted o (yielded ops a.tmps)=true then Oper.wpIn Fence.wide n P o a w K Q else K (a.put o.dst undef) w)→wpOpIn Fence.wide n P ops Q k (fun a' w'=>S w'∧jB n P md ops Q S fuel (listed.setIfInBounds k true) a' w') a w:=fun k o ho h=>by
  unfold wpOpIn
  rw[ho]
  have:=h (fun a' w'=>S w'∧jB n P md ops Q S fuel (listed.setIfInBounds k true) a' w') (fun a' w' h1 h2=>⟨h1,h2⟩)
  exact se8
 refine⟨fun h0=>(by rw[hr] at h0;cases h0),fun k hk=>?_⟩
 rw[hr] at hk
 simp only[List.mem_cons,List.not_mem_nil,or_false] at hk
 rcases hk with rfl | rfl
 · exact one _ _ ho h
 · exact one _ _ ho' h'
theorem jV (w:World){o:Oper}{a:Act}{K:Act→World→Prop}{Q:Exit→Act→World→Prop}(s x:Operand)(t:TypeId)(hop:o.op=Op.call { callee:=Callee.builtin Builtin.append,args:= #[s,x],argTypes:= #[t,t] })
 (base:Nat) (e:TypeId) (i:TypeInfo) (size:Nat) (h1:P.underlying t=some (.slice e)) (h2:P.info? e=some i) (h4:i.size=size)
 (g k cap:Nat) (xs:List Value) (hs:a.eval s= .slice (some ⟨g,0,none⟩) k cap) (hown:w.ownsRow base e size (.slice (some ⟨g,0,none⟩) k cap) k xs) (ad:Addr) (m c:Nat) (news:List Value) (hx:a.eval x= .slice (some ad) m c) (hn:news.length=m*size)
 (hc:∀j u,news[j]? =some u→w.cell? (ad.add j)=some u) (h1c:∀u∈news,u.oneCell'=true) (b1:k+m≤cap)
 (hK:∀w',w'.ownsRow base e size (.slice (some ⟨g,0,none⟩) (k+m) cap) (k+m) (xs++news)→w.grownBy w' (some g)→K (a.put o.dst (.slice (some ⟨g,0,none⟩) (k+m) cap)) w'):Oper.wpIn Fence.wide n P o a w K Q:=by
 obtain⟨w',hrun,r1,r2⟩:=run_append_fits (P:=P) w base t o.type e i size h1 h2 h4 g k cap xs hown ad m c news hn hc h1c b1
 unfold Oper.wpIn
 refine⟨?_,?_⟩
 · simp[Oper.about,hop,resolve,Target.leads,Sem.run_pure]
 · rw[Oper.semAt_plain Fence.wide _ _ (by rw[hop];intro c hc';cases hc')]
   simp[execOp,hop,resolve,invoke,builtin,hs,hx,hrun,Result.andThen]
   exact hK w' r1 r2
end
theorem zch {w V1 V2 w4:World}{st et ft:TypeId}{size LB OB g cap:Nat}{fv:Value}{f:Sp→List Value}{pre:List Sp}{x:Sp}{o:Obj}(hR:JR w st et ft size LB OB g cap fv f pre V1)(hb:Below V1.heap.size V1 V2)(hown:w4.ownsRow w.heap.size et size (.slice (some ⟨g,0,none⟩) (pre.length+1) cap) (pre.length+1) (pre.flatMap f++f x))
 (hgr:(V2.alloc o).grownBy w4 (some g)) (hLg:LB≠g) (hOg:OB≠g) (hLO:LB≠OB) (hwL:w.heap.size≤LB) (hwg:w.heap.size≤g):
 ∃V5,V5=w4.setCell ⟨LB,0,none⟩ (.slice (some ⟨g,0,none⟩) (pre.length+1) cap)∧JR w st et ft size LB OB g cap fv f (pre++[x]) V5∧(∀y,y<V1.heap.size→y≠g→y≠LB→V5.heap[y]? =V1.heap[y]?)∧V1.heap.size≤V5.heap.size∧w4.frozen? ⟨LB,0,none⟩=false:=by
 have hs:=hb.size
 have hs4:=hgr.size
 rw[WsaQ] at hs4
 have h4:∀y,y<V1.heap.size→y≠g→w4.heap[y]? =V1.heap[y]?:=fun y hy hg=>by
  rw[hgr.block y ud4 (by simpa using hg),BhaQ V2 _ _ om1,hb.block y hy]
 have h5:∀y,y≠LB→(w4.setCell ⟨LB,0,none⟩ (.slice (some ⟨g,0,none⟩) (pre.length+1) cap)).heap[y]? =w4.heap[y]?:=fun y hy=>BhsQ _ _ _ _ hy
 have hL4:=(h4 LB (lohQ hR.cell) hLg).trans hR.cell
 have hO4:=(h4 OB (lohQ hR.of_) hOg).trans hR.of_
 have hbl:=hR.below
 refine⟨_,rfl,⟨?_,(h5 _ hLO.symm).trans hO4,?_,?_⟩,fun y hy h1 h2=>(h5 y h2).trans (h4 y hy h1),by simp[World.setCell];omega,forQ _ _ 0 _ _ hL4⟩
 · rw[hssQ _ LB 0 _ _ _ hL4];simp
 · have:=yo hown (w':=w4.setCell ⟨LB,0,none⟩ (.slice (some ⟨g,0,none⟩) (pre.length+1) cap)) (fun g' cur hc hg'=>by cases hg';exact h5 _ hLg.symm)
   simpa using this
 · exact⟨hgr.os.trans (hb.os.trans hbl.os),hgr.tape.trans (hb.tape.trans hbl.tape),hgr.output.trans (hb.output.trans hbl.output),by have:=hbl.size;simp[World.setCell];omega,fun y hy=>by
    have:=hbl.size
    rw[h5 y om1,h4 y om1 om1];exact hbl.block y hy⟩
end Go.Proofs.YtoidedomenkbpaaGreat
namespace Go.Proofs.YtoidedomenkbpaaGreat
open Go.RowKit Go.Shelf
attribute [local go_sem] Oper.semAt_some
theorem zcf {n:Nat}{P:Program}{ops:Array Oper}{Q:Exit→Act→World→Prop}{S:World→Prop}{id:Nat}{a:Act}{w:World}(hm:P.follows .mixedOrders=true)(h:jB n P .any ops Q S ops.size (Array.replicate ops.size false) a w.drew):(Code.region id ops true).wpIn Fence.wide n P Q a w:=
 wpIn_region_any hm (Yi _ _ _ _ h)
theorem zce {n:Nat}{P:Program}{ops:Array Oper}{Q:Exit→Act→World→Prop}{S:World→Prop}{id:Nat}{a:Act}{w:World}(hm:P.follows .mixedOrders=true)(h:jB n P .any ops (fun e a w=>e= .normal∧Q .normal a w) S ops.size (Array.replicate ops.size false) a w.drew):(Code.region id ops true).wpIn Fence.wide n P Q a w:=
 wpIn_mono (zcf hm h) (fun e a w h=>by obtain⟨rfl,h⟩:=h;exact h)
end Go.Proofs.YtoidedomenkbpaaGreat
namespace Go.Proofs.YtoidedomenkbpaaGreat
open Go.RowKit Go.Shelf
theorem zk9 {w:World}{b:Nat}{t:TypeId}{c0 c1 c2 c3:Value}(h:w.heap[b]? =some (.cells #[c0,c1,c2,c3] t (0,0)))(u0 u1 u2 u3:Value):
 ((((w.setCell ⟨b,0,none⟩ u0).setCell ⟨b,1,none⟩ u1).setCell ⟨b,2,none⟩ u2).setCell ⟨b,3,none⟩ u3).heap[b]? =some (.cells #[u0,u1,u2,u3] t (0,0))∧
 (∀B,B≤b→Below B w ((((w.setCell ⟨b,0,none⟩ u0).setCell ⟨b,1,none⟩ u1).setCell ⟨b,2,none⟩ u2).setCell ⟨b,3,none⟩ u3))∧
 ∀x,x≠b→((((w.setCell ⟨b,0,none⟩ u0).setCell ⟨b,1,none⟩ u1).setCell ⟨b,2,none⟩ u2).setCell ⟨b,3,none⟩ u3).heap[x]? =w.heap[x]?:=by
 have h0:=hssQ w b 0 _ _ u0 h
 have h1:=hssQ _ b 1 _ _ u1 h0
 have h2:=hssQ _ b 2 _ _ u2 h1
 have h3:=hssQ _ b 3 _ _ u3 h2
 exact⟨h3,fun B hB=>((((BrQ _ _).setCell hB _).setCell hB _).setCell hB _).setCell hB _,fun x hx=>by
  rw[BhsQ _ _ _ _ hx,BhsQ _ _ _ _ hx,BhsQ _ _ _ _ hx,BhsQ _ _ _ _ hx]⟩
section
variable {w wr w2:World} {c1:Array Value} {id kd:Int} {tx:ByteArray} {ks:Fo} {k:Nat} {rv:Value} {xs:List Value}
end
end Go.Proofs.YtoidedomenkbpaaGreat
