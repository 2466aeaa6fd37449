/-
  .
-/
import Derived.Test.YtoidedomenkbpaaGreatCNodeQs
set_option maxRecDepth 100000
set_option maxHeartbeats 40000000

namespace Go.Proofs.YtoidedomenkbpaaGreat
open Go.RowKit
open Extern.Stop (cell)
theorem Q4 {α:Type}{one:Nat→Nat→Got (α×Nat)}{m p k m1 q e:Nat}{l:List α}(h:yF one k m p= .ok ((l,m1),q))(he:one m1 q= .error e):∀n,k<n→yF one n m p= .error e
 | 0,h0=>by omega
 | n + 1,h0=>by
   by_cases hk:k=n
   · subst hk
     simp only[yF,h,he]
   · simp only[yF,Q4 h he n om1]
theorem zbj:∀(l:List Tr) (t:Tr),kM (l++[t])=kN (kM l) 0 0 (t.id,t.kind,t.text) t.kids
 | [],_=>rfl
 | x::l,t=>by simp[kM,kN,zbj l t]
def zfz (w wr:World)(rv:Value):Nat→Prop:=fun x=>w.heap.size≤x∧x<wr.heap.size∧rv.ownBlock≠some x
def zbo (t:Tr)(ka:Option Addr)(cap:Nat):List Value:=[.int .i64 t.id,.int .i64 t.kind,.string t.text,.slice ka (foLen t.kids) cap]
structure zfy (w:World) (nb rb fb b db:Nat) (dv:Value) (s:Rd) (depth:Nat) (rv:Value) (k:Nat) (xs:List Value) (l:List Tr) (mk qk:Nat) (wr:World):Prop where
 st:yw wr nb rb fb b dv { s with pos:=qk } mk
 box:wr.heap[db]? =some (.cells #[.int .i64 (depth:Int)] 3 (0,0))
 tch:za w wr (NbR b nb)
 row:wr.ownsRow w.heap.size 35 4 rv k xs
 fo:jN wr (zfz w wr rv) (kM l) xs
 len:l.length=k
theorem zfy.next {w wr w2 w3:World}{nb rb fb b db:Nat}{dv:Value}{s:Rd}{depth:Nat}{rv:Value}{k:Nat}{xs:List Value}{l:List Tr}{mk qk m2 q2 gg cap' :Nat}{t:Tr}{ka:Option Addr}{kcap:Nat}{o:Obj}(h:zfy w nb rb fb b db dv s depth rv k xs l mk qk wr)(hl:JP w.heap.size nb rb fb b dv)(hdb:db<w.heap.size)(hdn:db≠b∧db≠nb)
 (hcp:foLen t.kids≤kcap) (hk:zQ w2 (jC wr w2) t.kids ka) (hst:yw w2 nb rb fb b dv { s with pos:=q2 } m2) (ht:za wr w2 (NbR b nb))
 (hrow:w3.ownsRow w.heap.size 35 4 (.slice (some ⟨gg,0,none⟩) (k+1) cap') (k+1) (xs++zbo t ka kcap)) (hg:(w2.alloc o).grownBy w3 rv.ownBlock) (hat:rv.ownBlock=some gg∨gg=w2.heap.size+1):
 zfy w nb rb fb b db dv s depth (.slice (some ⟨gg,0,none⟩) (k+1) cap') (k+1) (xs++zbo t ka kcap) (l++[t]) m2 q2 w3:=by
 have hrv:∀g,rv.ownBlock=some g→w.heap.size≤g∧g<wr.heap.size:=fun g hg=>zY h.row hg
 have hnr:∀x,w.heap.size≤x→¬NbR b nb x:=fun x hx e=>by
  have h1:=hl.1
  have h2:=hl.2.1
  rcases e with e | e<;>omega
 have hs1:=h.tch.size
 have hs2:=ht.size
 have hs3:=hg.size
 rw[WsaQ] at hs3
 have t3:za w2 w3 (fun x=>rv.ownBlock=some x):=((za.refl w2 _).alloc o).trans (S':=fun x=>rv.ownBlock=some x) ⟨hg.os,hg.tape,hg.output,hg.size,fun x hx hn=>hg.block x hx (fun e=>hn e.symm)⟩ (fun x hx=>Or.inl hx)
 have tch3:za w w3 (NbR b nb):=(h.tch.trans ht (fun x hx=>Or.inl hx)).trans t3 (fun x hx=>Or.inr (hrv x hx).1)
 refine⟨hst.keep t3 (fun e=>by have:=hrv _ e;have:=hl.1;omega) (fun g hg' e=>by have:=hrv _ e;have:=hl.2.2.2.2 g hg';omega) (fun e=>by have:=hrv _ e;have:=hl.2.1;omega) (fun e=>by have:=hrv _ e;have:=hl.2.2.1;omega) (fun e=>by have:=hrv _ e;have:=hl.2.2.2.1;omega),?_,tch3,hrow,?_,by simp[h.len]⟩
 · rw[t3.block db om1 (fun e=>by have:=hrv _ e;omega),ht.block db om1 (fun e=>by rcases e with e | e;exact hdn.1 e;exact hdn.2 e)]
   exact h.box
 · rw [zbj]
   have f1:jN w3 (zfz w w3 (.slice (some ⟨gg,0,none⟩) (k+1) cap')) (kM l) xs:=h.fo.kept fun x hx=>by
    have hx3:rv.ownBlock≠some x:=hx.2.2
    have hxw:=hx.1
    have hxr:=hx.2.1
    refine⟨⟨hx.1,by omega,fun e=>?_⟩,?_⟩
    · simp only[Value.ownBlock,Option.some.injEq] at e
      rcases hat with h' | h'
      · exact hx3 (by rw[h',e])
      · omega
    · rw[t3.block x om1 hx3,ht.block x hxr (hnr x hxw)]
   have f2:zQ w3 (zfz w w3 (.slice (some ⟨gg,0,none⟩) (k+1) cap')) t.kids ka:=hk.kept fun x hx=>by
    exact sd9
   exact f1.snoc f2 kcap hcp
def zh8 (w:World)(nb rb fb b:Nat)(dv:Value)(s:Rd):Got (List Tr×Nat)→Ending→World→Prop
 | .ok ((l,m),q),e,w'=>∃a n cap,e= .returned (.slice a n cap)∧n=l.length∧n≤cap∧zQ w' (jC w w') (kM l) a∧yw w' nb rb fb b dv { s with pos:=q } m∧za w w' (NbR b nb)
 | .error p,e,w'=>e= .panicked fell∧zT w' b dv { s with pos:=p,bad:=true }∧za w w' (NbR b nb)
theorem zdt (d : List UInt8):∀(f depth m p:Nat) (t:Tr) (m' q:Nat),yA d f depth m p= .ok ((t,m'),q)→m'≤200
 | 0,_,_,_,_,_,_,h=>by simp[yA] at h
 | f + 1, depth, m,p,t,m',q,h=>by
   unfold yA at h
   split at h
   · cases h
   · rename_i hc
     have hl :∀n mm pp l mm' qq,mm≤200→yF (fun m' q=>yA d f (depth+1) m' q) n mm pp= .ok ((l,mm'),qq)→mm'≤200:=by
      intro n
      induction n with
      | zero=>intro mm pp l mm' qq h0 h1;simp only[yF] at h1;cases h1;exact h0
      | succ n ih=>
        intro mm pp l mm' qq h0 h1
        simp only[yF] at h1
        cases hp:yF (fun m' q=>yA d f (depth+1) m' q) n mm pp with
        | error e=>rw[hp] at h1;cases h1
        | ok x=>
          obtain⟨⟨l1,m1⟩,q1⟩:=x
          rw[hp] at h1
          simp only at h1
          cases hq:yA d f (depth+1) m1 q1 with
          | error e=>rw[hq] at h1;cases h1
          | ok y=>
            obtain⟨⟨t1,m2⟩,q2⟩:=y
            rw[hq] at h1
            cases h1
            exact zdt d f (depth+1) m1 q1 t1 _ _ hq
     split at h
     · cases h
     · split at h
       · cases h
       · split at h
         · cases h
         · split at h
           · cases h
           · split at h
             · cases h
             · rename_i hll
               cases h
               exact hl _ _ _ _ _ _ om1 hll
theorem Tryz.zj1:(Tryz.prog.info? 35).map (fun i=>(i.size,i.bytes,i.zero.map (fun z=>z.cells.size)))=some (4,56,some 4):=by kernel_rfl
theorem zhm (d:List UInt8)(f depth:Nat):∀n mm pp l mm' qq,mm≤200→yF (fun m' q=>yA d f depth m' q) n mm pp= .ok ((l,mm'),qq)→mm'≤200:=by
 intro n
 induction n with
 | zero=>intro mm pp l mm' qq h0 h1;simp only[yF] at h1;cases h1;exact h0
 | succ n ih=>
   intro mm pp l mm' qq h0 h1
   simp only[yF] at h1
   cases hp:yF (fun m' q=>yA d f depth m' q) n mm pp with
   | error e=>rw[hp] at h1;cases h1
   | ok x=>
     obtain⟨⟨l1,m1⟩,q1⟩:=x
     rw[hp] at h1
     simp only at h1
     cases hq:yA d f depth m1 q1 with
     | error e=>rw[hq] at h1;cases h1
     | ok y=>
       obtain⟨⟨t1,m2⟩,q2⟩:=y
       rw[hq] at h1
       cases h1
       exact zdt d f depth m1 q1 t1 _ _ hq
theorem zhd (nb rb fb b:Nat)(dv:Value)(d:List UInt8)(f depth db:Nat)(hn:zcE nb rb fb b dv d f (depth+1))(hd40:depth≤1000)(w:World)(s:Rd)(m:Nat)(hs:s.data=d)(h:yw w nb rb fb b dv s m)(hm:m≤200)(hdb:w.heap[db]? =some (.cells #[.int .i64 (depth:Int)] 3 (0,0)))(hdn:db≠nb)(n:Nat)(hn2:n≤100000000):
 Calls Tryz.prog 289 #[.int .i64 (n:Int),.func (.func 290) #[] #[.pointer (some ⟨fb,0,none⟩),.pointer (some ⟨db,0,none⟩)]] w (zh8 w nb rb fb b dv s (yF (fun m' q=>yA d f (depth+1) m' q) n m s.pos)):=by
 have hlow:=h.low
 have hdb1:=lohQ hdb
 have hdb2:db≠b:=fun e=>by
  have h1:=h.rd.here
  rw[←e,hdb] at h1;cases h1
 have H:=hH (aN hlow (aN hdb1 (aN (aN hdb2 hdn) (aN hs (aN hn (aN hd40 hm))))))
 obtain⟨out,hout⟩:∃out,out=yF (fun m' q=>yA d f (depth+1) m' q) n m s.pos:=⟨_,rfl⟩
 rw[←hout]
 have HO:=hH hout
 have H0:Hid (zfy w nb rb fb b db dv s depth (.slice none 0 0) 0 [] [] m s.pos w):=hH ⟨h,hdb,za.refl _ _,World.ownsRow_nil _ _ _ _,rfl,rfl⟩
 obtain⟨i0,z0,hi0,hz0,hz1,hz2,hz3⟩:=jk Tryz.zj1
 have HI:=hH (aN hi0 (aN hz0 (aN hz1 (aN hz2 hz3))))
 clear hlow hdb hdb1 hdb2 hdn hs hn hd40 hm h hout hi0 hz0 hz1 hz2 hz3
 go_enter Tryz.func289,Tryz.ntmps289
 go_wp2_with fail
 go_loopg [5,7] n (fun gk rv i wr=>∃(k:Nat) (xs:List Value) (l:List Tr) (mk qk:Nat),k+gk=n∧i= .int .i64 (k:Int)∧Hid (zfy w nb rb fb b db dv s depth rv k xs l mk qk wr∧yF (fun m' q=>yA d f (depth+1) m' q) k m s.pos= .ok ((l,mk),qk)))
 case atStart=>exact⟨0,[],[],m,s.pos,by omega,rfl,hH ⟨H0.out,rfl⟩⟩
 case round=>
  obtain⟨k,xs,l,mk,qk,hkn,rfl,HL⟩:=hrel
  obtain⟨ra,rc,hrv⟩:=yE HL.out.1.row
  subst hrv
  by_cases hlt:k<n
  · have hkl:(k:Int)<(n:Int):=by omega
    have hsub:=zhQ nb rb fb b dv d f depth db H.out.2.2.2.2.1 H.out.2.2.2.2.2.1 wr { s with pos:=qk } mk H.out.2.2.2.1 HL.out.1.st (zhm d f (depth+1) k m s.pos l mk qk H.out.2.2.2.2.2.2 HL.out.2) HL.out.1.box
    cases hp:yA d f (depth+1) mk qk with
    | error p=>
      have hsub2:Calls Tryz.prog 290 #[.pointer (some ⟨fb,0,none⟩),.pointer (some ⟨db,0,none⟩)] wr (Qk wr nb rb fb b dv { s with pos:=qk } (.error p)):=by rw[←hp];exact hsub
      have HS:=hH hsub2
      have ho:out= .error p:=by rw[HO.out];exact Q4 HL.out.2 hp n hlt
      subst ho
      clear hsub hsub2 hp HO
      go_wp2_with (go_at_call 290;refine HS.out.mono ?_;rintro e w1 ⟨rfl,h1,h2⟩)
      exact⟨rfl,rfl,h1,HL.out.1.tch.trans h2 (fun x hx=>Or.inl hx)⟩
    | ok x=>
      obtain⟨⟨t,m2⟩,q2⟩:=x
      have hsub2:Calls Tryz.prog 290 #[.pointer (some ⟨fb,0,none⟩),.pointer (some ⟨db,0,none⟩)] wr (Qk wr nb rb fb b dv { s with pos:=qk } (.ok ((t,m2),q2))):=by rw[←hp];exact hsub
      have HS:=hH hsub2
      have hnx:yF (fun m' q=>yA d f (depth+1) m' q) (k+1) m s.pos= .ok ((l++[t],m2),q2):=by simp only[yF,HL.out.2,hp]
      have HX:=hH hnx
      clear hsub hsub2 hp hnx
      go_wp2_with (first
       | (go_at_call 290;refine HS.out.mono ?_;clear HS;rintro e w2 ⟨v,rfl,⟨ka,kcap,rfl,hcp,hk⟩,h1,h2⟩;obtain⟨ln,hln⟩:∃ln,ln=foLen t.kids:=⟨_,rfl⟩;rw[←hln];have hrow2:=vE HL.out.1.row (fun g hg=>h2.block g (qO HL.out.1.row g hg) (fun e=>by have h3:=(zY HL.out.1.row hg).1;have h4:=H.out.1.1;have h5:=H.out.1.2.1;rcases e with e | e<;>omega));have hsz:=HL.out.1.tch.size;have H2:=hH (aN hcp (aN hk (aN h1 (aN h2 (aN hln (aN hrow2 (NltQ hsz h2.size)))))));clear hcp hk h1 h2 hln hrow2 hsz)
       | (at_builtin;refine wpList_append_lies _ rfl (.tmp 9) (.tmp 12) _ rfl w.heap.size 35 i0 z0 4 56 Tryz.underlying33 HI.out.1 HI.out.2.1 HI.out.2.2.1 HI.out.2.2.2.1 HI.out.2.2.2.2 om1 (.slice ra k rc) k xs rfl (H2.out.2.2.2.2.2.1.alloc _) ⟨w2.heap.size,0,none⟩ 1 1 [.int .i64 t.id,.int .i64 t.kind,.string t.text,.slice ka ln kcap] rfl rfl (World.news_of_block (cs:= #[.int .i64 t.id,.int .i64 t.kind,.string t.text,.slice ka ln kcap]) (t:=35) (fr:=(0,0)) (hanQ w2 _)) uc9 om1 ud1 om1 (by have:=H2.out.2.2.2.2.2.2;simp;omega) (w2.heap.size+1) sp ?_;intro gg cap' w3 hown3 hgrow hat hlt3;have H3:=hH (aN hown3 (aN hgrow hat));clear hown3 hgrow hat hlt3))
      have h5:=H2.out.2.2.2.2.1
      have h6:=H3.out.1
      have h7:=H3.out.2.1
      rw[h5] at h6
      have h8:=zfy.next HL.out.1 H.out.1 H.out.2.1 H.out.2.2.1 H2.out.1 H2.out.2.1 H2.out.2.2.1 H2.out.2.2.2.1 h6 h7 H3.out.2.2
      go_roundg (gk - 1)
      case measure=>omega
      case rel=>exact⟨k+1,_,l++[t],m2,q2,by omega,by go_num,hH ⟨h8,HX.out⟩⟩
  · have hkk:k=n:=by omega
    have HKK:=hH hkk
    have hkl:¬(k:Int)<(n:Int):=by omega
    have ho:out= .ok ((l,mk),qk):=by rw[HO.out,←hkk];exact HL.out.2
    subst ho
    clear hkk HO
    go_wp2_with fail
    go_ret
    have hrow:=HL.out.1.row
    refine⟨ra,k,rc,rfl,HL.out.1.len.symm,?_,?_,HL.out.1.st,HL.out.1.tch⟩
    · rcases hrow.2 with ⟨h1,h2⟩ | ⟨g',cap',cur,hv,_,hh,h3,_⟩
      · omega
      · cases hv;exact h3
    · rcases hrow.2 with ⟨h1,h2⟩ | ⟨g',cap',cur,hv,hB,hh,_⟩
      · have h3:l= []:=List.eq_nil_of_length_eq_zero (by have:=HL.out.1.len;omega)
        subst h3
        exact True.intro
      · cases hv
        refine jN.lies (g:=g') ⟨hB,lohQ hh⟩ 0 (HL.out.1.fo.kept fun x hx=>⟨⟨hx.1,hx.2.1⟩,rfl⟩) fun j u hu=>?_
        rw[Nat.zero_add]
        exact yH hrow rfl j u hu
theorem yw.apart {w:World}{nb rb fb b:Nat}{dv:Value}{s:Rd}{m:Nat}(h:yw w nb rb fb b dv s m):(nb≠b∧rb≠b∧fb≠b)∧(rb≠nb∧fb≠nb)∧dv.ownBlock≠some nb:=by
 have hb:=h.rd.here
 have hn:=h.n
 have hr:=h.r
 have hf:=h.f
 refine⟨⟨fun e=>?_,fun e=>?_,fun e=>?_⟩,⟨fun e=>?_,fun e=>?_⟩,fun e=>?_⟩
 · rw[e,hb] at hn;cases hn
 · rw[e,hb] at hr;cases hr
 · rw[e,hb] at hf;cases hf
 · rw[e,hn] at hr;cases hr
 · rw[e,hn] at hf;cases hf
 · rcases h.rd.owns.2 with ⟨h1,_⟩ | ⟨g,cap,cur,hv,_,hh,_⟩
   · rw[h1] at e;cases e
   · rw[hv] at e;cases e
     rw[hn] at hh;cases hh
theorem yw.count {w:World}{nb rb fb b:Nat}{dv:Value}{s:Rd}{m:Nat}(h:yw w nb rb fb b dv s m)(i:Int)(m' :Nat)(hi:i=(m' :Int)):yw (w.setCell ⟨nb,0,none⟩ (.int .i64 i)) nb rb fb b dv s m':=by
 subst hi
 obtain⟨⟨a1,a2,a3⟩,⟨a4,a5⟩,a6⟩:=h.apart
 have ht:za w (w.setCell ⟨nb,0,none⟩ (.int .i64 (m' :Int))) (fun k=>k=nb):=za.setCell (S:=fun k=>k=nb) (a:=⟨nb,0,none⟩) rfl _
 exact⟨h.rd.kept ht (fun e=>a1 e.symm) (fun g hg e=>a6 (by rw[hg,e])),by rw[hssQ w nb 0 _ _ _ h.n];rfl,(ht.block _ (lohQ h.r) a4).trans h.r,(ht.block _ (lohQ h.f) a5).trans h.f⟩
theorem yw.read {w w' :World}{nb rb fb b:Nat}{dv:Value}{s s' :Rd}{m:Nat}(h:yw w nb rb fb b dv s m)(hr:zT w' b dv s')(ht:za w w' (fun k=>k=b)):yw w' nb rb fb b dv s' m:=by
 obtain⟨⟨a1,a2,a3⟩,_,_⟩:=h.apart
 exact⟨hr,(ht.block _ (lohQ h.n) a1).trans h.n,(ht.block _ (lohQ h.r) a2).trans h.r,(ht.block _ (lohQ h.f) a3).trans h.f⟩
abbrev yT:Array Value:= #[.int .i64 0,.int .i64 0,.string ⟨#[]⟩,.slice none 0 0]
structure NSt (w:World) (nb rb fb b:Nat) (dv:Value) (depth:Nat) (xc:Array Value) (s:Rd) (m:Nat) (wr:World):Prop where
 st:yw wr nb rb fb b dv s m
 db:wr.heap[w.heap.size]? =some (.cells #[.int .i64 (depth:Int)] 3 (0,0))
 rs:wr.heap[w.heap.size+1]? =some (.cells yT 35 (0,0))
 x:wr.heap[w.heap.size+1+1]? =some (.cells xc 35 (0,0))
 tch:za w wr (NbR b nb)
theorem NSt.move {w wr w' :World}{nb rb fb b:Nat}{dv:Value}{depth:Nat}{xc:Array Value}{s s' :Rd}{m m' :Nat}(h:NSt w nb rb fb b dv depth xc s m wr)(hl:JP w.heap.size nb rb fb b dv)(hs:yw w' nb rb fb b dv s' m')(ht:za wr w' (NbR b nb)):NSt w nb rb fb b dv depth xc s' m' w':=by
 have hb:=hl.1
 have hn:=hl.2.1
 have key:∀k o,w.heap.size≤k→wr.heap[k]? =some o→w'.heap[k]? =some o:=fun k o hk ho=>by
  rw[ht.block k (lohQ ho) (fun e=>by rcases e with e | e<;>omega)];exact ho
 exact⟨hs,key _ _ om1 h.db,key _ _ om1 h.rs,key _ _ om1 h.x,h.tch.trans ht (fun k hk=>Or.inl hk)⟩
theorem NSt.read {w wr w' :World}{nb rb fb b:Nat}{dv:Value}{depth:Nat}{xc:Array Value}{s s' :Rd}{m:Nat}(h:NSt w nb rb fb b dv depth xc s m wr)(hl:JP w.heap.size nb rb fb b dv)(hr:zT w' b dv s')(ht:za wr w' (fun k=>k=b)):NSt w nb rb fb b dv depth xc s' m w':=
 h.move hl (h.st.read hr ht) ⟨ht.os,ht.tape,ht.output,ht.size,fun k hk hn=>ht.block k hk (fun e=>hn (Or.inl e))⟩
theorem NSt.set {w wr:World}{nb rb fb b:Nat}{dv:Value}{depth:Nat}{xc:Array Value}{s:Rd}{m:Nat}(h:NSt w nb rb fb b dv depth xc s m wr)(hl:JP w.heap.size nb rb fb b dv)(i:Nat)(v:Value):NSt w nb rb fb b dv depth (xc.setIfInBounds i v) s m (wr.setCell ⟨w.heap.size+1+1,i,none⟩ v):=by
 have ht:za wr (wr.setCell ⟨w.heap.size+1+1,i,none⟩ v) (fun k=>k=w.heap.size+1+1):=za.setCell (S:=fun k=>k=w.heap.size+1+1) (a:=⟨w.heap.size+1+1,i,none⟩) rfl _
 exact⟨h.st.one hl om1 ht,(ht.block _ (lohQ h.db) om1).trans h.db,(ht.block _ (lohQ h.rs) om1).trans h.rs,by rw[hssQ wr _ i _ _ _ h.x],h.tch.trans ht (fun k hk=>Or.inr om1)⟩
theorem NSt.facts {w wr:World}{nb rb fb b:Nat}{dv:Value}{depth:Nat}{x0 x1 x2 x3:Value}{s:Rd}{m:Nat}(h:NSt w nb rb fb b dv depth #[x0,x1,x2,x3] s m wr):wr.cell? ⟨rb,0,none⟩=some (.pointer (some ⟨b,0,none⟩))∧(wr.cell? ⟨w.heap.size+1+1,0,none⟩=some x0∧wr.cell? ⟨w.heap.size+1+1,1,none⟩=some x1∧wr.cell? ⟨w.heap.size+1+1,2,none⟩=some x2∧wr.cell? ⟨w.heap.size+1+1,3,none⟩=some x3)∧(∀j,wr.frozen? ⟨w.heap.size+1+1,j,none⟩=false):=
 ⟨by rw[corQ _ _ 0 _ _ _ h.st.r];rfl,⟨by rw[corQ _ _ 0 _ _ _ h.x];rfl,by rw[corQ _ _ 1 _ _ _ h.x];rfl,by rw[corQ _ _ 2 _ _ _ h.x];rfl,by rw[corQ _ _ 3 _ _ _ h.x];rfl⟩,fun j=>forQ wr _ j _ _ h.x⟩
theorem NSt.start {w:World}{nb rb fb b:Nat}{dv:Value}{depth:Nat}{s:Rd}{m:Nat}(h:yw w nb rb fb b dv s m)(i:Int)(m' :Nat)(hi:i=(m' :Int)):
 NSt w nb rb fb b dv depth yT s m' ((((w.setCell ⟨nb,0,none⟩ (.int .i64 i)).alloc (.cells #[.int .i64 (depth:Int)] 3)).alloc (.cells yT 35)).alloc (.cells yT 35)):=by
 have hn:=lohQ h.n
 have hsz:(w.setCell ⟨nb,0,none⟩ (.int .i64 i)).heap.size=w.heap.size:=by simp[World.setCell]
 refine⟨(((h.count i m' hi).alloc _).alloc _).alloc _,?_,?_,?_,?_⟩
 · rw[BhaQ _ _ _ (by rw[WsaQ,WsaQ,hsz];omega)]
   have:=heap_alloc2_old (w.setCell ⟨nb,0,none⟩ (.int .i64 i)) (.cells #[.int .i64 (depth:Int)] 3) (.cells yT 35)
   rw[hsz] at this;exact this
 · rw[BhaQ _ _ _ (by rw[WsaQ,WsaQ,hsz];omega)]
   have:=heap_alloc2_new (w.setCell ⟨nb,0,none⟩ (.int .i64 i)) (.cells #[.int .i64 (depth:Int)] 3) (.cells yT 35)
   rw[hsz] at this;exact this
 · have:=hanQ (((w.setCell ⟨nb,0,none⟩ (.int .i64 i)).alloc (.cells #[.int .i64 (depth:Int)] 3)).alloc (.cells yT 35)) (.cells yT 35)
   rw[WsaQ,WsaQ,hsz] at this;exact this
 · exact (((za.setCell (w:=w) (S:=NbR b nb) (a:=⟨nb,0,none⟩) (Or.inr rfl) _).alloc _).alloc _).alloc _
def zh6 (w:World)(nb b:Nat)(dv:Value)(s:Rd)(e:Ending)(w' :World):Prop:=e= .panicked fell∧zT w' b dv { s with pos:=s.pos,bad:=true }∧za w w' (NbR b nb)
theorem Yj (nb rb fb b:Nat)(dv:Value)(depth:Nat)(w:World)(s:Rd)(m:Nat)(h:yw w nb rb fb b dv s m)(hm:m≤200)(hd2:depth≤1000)(hbad:40<depth∨200<m+1):
 Calls Tryz.prog 287 #[.int .i64 (depth:Int),.pointer (some ⟨nb,0,none⟩),.pointer (some ⟨rb,0,none⟩),.pointer (some ⟨fb,0,none⟩)] w (zh6 w nb b dv s):=by
 have cn:w.cell? ⟨nb,0,none⟩=some (.int .i64 (m:Int)):=by rw[corQ _ _ 0 _ _ _ h.n];rfl
 have fn:w.frozen? ⟨nb,0,none⟩=false:=forQ _ _ _ _ _ h.n
 have hnl:=lohQ h.n
 have hfit:=h.rd.fits
 have hfew:=h.rd.few
 have hst:∀o o' :Obj,yw (((w.setCell ⟨nb,0,none⟩ (.int .i64 ((m:Int)+1))).alloc o).alloc o') nb rb fb b dv s (m+1):=fun o o'=>((h.count ((m:Int)+1) (m+1) om1).alloc o).alloc o'
 have ht0:∀o o' :Obj,za w (((w.setCell ⟨nb,0,none⟩ (.int .i64 ((m:Int)+1))).alloc o).alloc o') (NbR b nb):=fun o o'=>((za.setCell (w:=w) (S:=NbR b nb) (a:=⟨nb,0,none⟩) (Or.inr rfl) _).alloc o).alloc o'
 have hr:∀o o' :Obj,(((w.setCell ⟨nb,0,none⟩ (.int .i64 ((m:Int)+1))).alloc o).alloc o').cell? ⟨rb,0,none⟩=some (.pointer (some ⟨b,0,none⟩)):=fun o o'=>by rw[corQ _ _ 0 _ _ _ (hst o o').r];rfl
 have hp:∀o o' :Obj,(((w.setCell ⟨nb,0,none⟩ (.int .i64 ((m:Int)+1))).alloc o).alloc o').cell? ⟨b,1,none⟩=some (.int .i64 (s.pos:Int)):=fun o o'=>(hst o o').rd.cells.2.1
 have r0:=hr (.cells #[.int .i64 (depth:Int)] 3) (.cells yT 35)
 have q0:=hp (.cells #[.int .i64 (depth:Int)] 3) (.cells yT 35)
 have hst0:=hst (.cells #[.int .i64 (depth:Int)] 3) (.cells yT 35)
 have ht00:=ht0 (.cells #[.int .i64 (depth:Int)] 3) (.cells yT 35)
 obtain⟨W,hW⟩:∃W,W=(((w.setCell ⟨nb,0,none⟩ (.int .i64 ((m:Int)+1))).alloc (.cells #[.int .i64 (depth:Int)] 3)).alloc (.cells yT 35)).drew:=⟨_,rfl⟩
 have HW:=hH hW
 have HF:Hid (Calls Tryz.prog 178 #[.pointer (some ⟨b,0,none⟩),.int .i64 (s.pos:Int)] W (Ye W b dv s s.pos)):=hH (zaa _ b dv s (by rw[hW];exact hst0.rd.drew) s.pos hfit)
 have HT:Hid (za w W (NbR b nb)):=hH (by rw[hW];exact ht00.drew)
 have r1:W.cell? ⟨rb,0,none⟩=some (.pointer (some ⟨b,0,none⟩)):=by rw[hW];exact r0
 have q1:W.cell? ⟨b,1,none⟩=some (.int .i64 (s.pos:Int)):=by rw[hW];exact q0
 clear h hst ht0 hr hp hfit hfew hst0 ht00 hW r0 q0
 by_cases h40:40<depth
 · have h40' :(40:Int)<(depth:Int):=by omega
   exact sb7
 · have h40' :¬(40:Int)<(depth:Int):=by omega
   have h200:(200:Int)<(m:Int)+1:=by omega
   exact sb7
end Go.Proofs.YtoidedomenkbpaaGreat
