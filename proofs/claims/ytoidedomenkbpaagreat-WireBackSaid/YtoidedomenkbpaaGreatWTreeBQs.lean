/-
  .
-/
import Derived.Test.YtoidedomenkbpaaGreatECountNQs
set_option maxRecDepth 100000
set_option maxHeartbeats 40000000
set_option linter.unusedVariables false
set_option linter.unusedSimpArgs false
namespace Go.Proofs.YtoidedomenkbpaaGreat
open Go.RowKit
theorem Tryz.zj4:(Tryz.prog.info? 95).map (fun i=>(i.size,i.bytes,i.zero.map (fun z=>z.cells.size)))=some (5,64,some 5):=by kernel_rfl
def Z7 (w:World)(B:Nat)(rv:Value)(n:Nat):Prop:=∃xs,w.ownsRow B 95 5 rv n xs∧∀i,i<n→∃d,xs[i*5+4]? =some (.int .i64 d)
def YT (w w' :World)(rv rv' :Value):Prop:=w.grownBy w' rv.ownBlock∧(rv'.ownBlock=rv.ownBlock∨∀g,rv'.ownBlock=some g→w.heap.size<g)
def zlv (w:World)(B:Nat)(rv:Value)(n:Nat)(t:Tr)(e:Ending)(w' :World):Prop:=
 ∃rv' n',e= .returned rv'∧Z7 w' B rv' n'∧YT w w' rv rv'∧(2001≤n'∨n'=n+zh t.kids+1)∧n'≤2001∧n≤n'
theorem Z7.bounds {w:World}{B:Nat}{rv:Value}{n:Nat}(h:Z7 w B rv n){g:Nat}(hg:rv.ownBlock=some g):B≤g∧g<w.heap.size:=by
 obtain⟨xs,ho,_⟩:=h
 exact zY ho hg
theorem YT.low {w wr:World}{B n:Nat}{rv l:Value}(h:YT w wr rv l)(hs:Z7 w B rv n)(hB:B≤w.heap.size):∀k,k<B→wr.heap[k]? =w.heap[k]?:=fun k hk=>
 h.1.block k om1 (fun e=>by have:=(hs.bounds e.symm).1;omega)
theorem YT.trans {w wr w2:World}{rv l l2:Value}(h:YT w wr rv l)(h2:YT wr w2 l l2):YT w w2 rv l2:=by
 have hs:=h.1.size
 refine⟨⟨h2.1.os.trans h.1.os,h2.1.tape.trans h.1.tape,h2.1.output.trans h.1.output,NltQ hs h2.1.size,fun k hk hn=>?_⟩,?_⟩
 · rw[h2.1.block k om1 (fun e=>?_),h.1.block k hk hn]
   rcases h.2 with h' | h'
   · exact hn (e.trans h')
   · have:=h' k e.symm;omega
 · rcases h2.2 with h' | h'
   · rw[h'];exact h.2
   · exact Or.inr fun g hg=>by have:=h' g hg;omega
theorem YT.box {w:World}{o:Obj}(rv:Value):YT w (w.alloc o) rv rv:=⟨⟨rfl,rfl,rfl,by simp,fun k hk _=>BhaQ w o k hk⟩,Or.inl rfl⟩
theorem YT.first {w w1:World}{o1 o2:Obj}{rv:Value}{gg len cap:Nat}(h:((w.alloc o1).alloc o2).grownBy w1 rv.ownBlock)(hat:rv.ownBlock=some gg∨gg=w.heap.size+1+1):YT w w1 rv (.slice (some ⟨gg,0,none⟩) len cap):=
 ⟨⟨h.os,h.tape,h.output,by have:=h.size;simp at this;omega,fun k hk hn=>by rw[h.block k ud8 hn,BhaQ _ _ _ ud8,BhaQ _ _ _ hk]⟩,
  hat.elim (fun e=>Or.inl (by rw[e];rfl)) (fun e=>Or.inr fun g hg=>by simp only[Value.ownBlock,Option.some.injEq] at hg;omega)⟩
theorem Z7.box {w:World}{B:Nat}{rv:Value}{n:Nat}(h:Z7 w B rv n)(o:Obj):Z7 (w.alloc o) B rv n:=by
 obtain⟨xs,ho,hx⟩:=h
 exact⟨xs,ho.alloc o,hx⟩
theorem zeH {xs:List Value}{n:Nat}{a b c e:Value}{d:Int}(hl:xs.length=n*5)(hx:∀i,i<n→∃d,xs[i*5+4]? =some (.int .i64 d)):∀i,i<n+1→∃d',(xs++[a,b,c,e,.int .i64 d])[i*5+4]? =some (.int .i64 d'):=fun i hi=>by
 by_cases h:i<n
 · obtain⟨d',h'⟩:=hx i h
   exact⟨d',by rw[List.getElem?_append_left om1];exact h'⟩
 · have:i=n:=by omega
   subst this
   exact⟨d,by rw[List.getElem?_append_right om1,hl];simp⟩
def zfF (w:World)(B:Nat)(rv:Value)(n:Nat)(c1:Array Value)(ks:Fo)(len:Nat)(l i:Value)(wr:World):Prop:=
 ∃k nk,k≤len∧i= .int .i64 k∧Z7 wr B l nk∧YT w wr rv l∧(2001≤nk∨nk=n+1+zh (zW k ks))∧nk≤2001∧n+1≤nk∧wr.heap[w.heap.size]? =some (.cells c1 35 (0,0))
theorem zgl :∀(m:Nat) (w:World) (S:Nat→Prop) (v:Value) (t:Tr) (B:Nat) (rv:Value) (n:Nat) (d:Int),zh t.kids<m→foLen t.kids≤9223372036854775807→Z8 t.kids→(∀k,S k→k<B)→B≤w.heap.size→kT w S v t→
 Z7 w B rv n→n≤2001→0≤d→d≤(n:Int)+1→
 Calls Tryz.prog 87 #[rv,v,.int .i64 d,.int .i64 2001] w (zlv w B rv n t):=by
 intro m
 induction m with
 | zero=>intro w S v t B rv n d h;omega
 | succ m ih =>
   intro w S v t B rv n d hm hlen2 hfit hS hB hv hrow hn hd0 hd1
   obtain⟨ka,cap,rfl,hcp,hk⟩:=hv
   obtain⟨id,kd,tx,ks⟩:=t
   simp only at hk hm hlen2 hfit
   simp only
   obtain⟨xs,ho,hxs⟩:=hrow
   obtain⟨ra,rcap,rfl⟩:=yE ho
   obtain⟨len,hlen⟩:∃len,len=foLen ks:=⟨_,rfl⟩
   rw[←hlen]
   rw[←hlen] at hlen2
   have HN:=hH (aN hm hfit)
   have HLEN:=hH hlen
   have HK:=hH hk
   have HSS:=hH (aN hS hB)
   have HIH:=hH ih
   have HO:=hH (aN ho hxs)
   clear hlen hk hm hfit hS hB ih ho hxs
   by_cases hfull:2001≤n
   · have hn2:n=2001:=by omega
     subst hn2
     go_enter Tryz.func87,Tryz.ntmps87
     go_wp2_with fail
     go_ret
     exact⟨_,2001,rfl,(show Z7 w B _ 2001 from⟨xs,HO.out⟩).box _,YT.box _,Or.inl hfull,by omega,by omega⟩
   · have hnn:¬(2001:Int)≤(n:Int):=by omega
     go_enter Tryz.func87,Tryz.ntmps87
     obtain⟨i0,z0,hi0,hz0,hz1,hz2,hz3⟩:=jk Tryz.zj4
     have hnew:((w.alloc (.cells #[.int .i64 id,.int .i64 kd,.string tx,.slice ka len cap] 35)).alloc (.cells #[.int .i64 id,.int .i64 kd,.string tx,.slice ka len cap,.int .i64 d] 95)).heap[w.heap.size+1]? =some (.cells #[.int .i64 id,.int .i64 kd,.string tx,.slice ka len cap,.int .i64 d] 95 (0,0)):=heap_alloc2_new w _ _
     have HNEW:=hH hnew
     have hBw:B≤w.heap.size:=HSS.out.2
     clear hnew
     go_wp2_with (at_builtin;refine wpList_append_lies _ rfl (.tmp 15) (.tmp 19) _ rfl B 95 i0 z0 5 64 Tryz.underlying53 hi0 hz0 hz1 hz2 hz3 om1 (.slice ra n rcap) n xs rfl ((HO.out.1.alloc _).alloc _) ⟨w.heap.size+1,0,none⟩ 1 1 [.int .i64 id,.int .i64 kd,.string tx,.slice ka len cap,.int .i64 d] rfl rfl (World.news_of_block (cs:= #[.int .i64 id,.int .i64 kd,.string tx,.slice ka len cap,.int .i64 d]) (t:=95) (fr:=(0,0)) HNEW.out) uc9 om1 ud1 om1 ud8 (w.heap.size+1+1) sp ?_;intro gg cap' w1 hown1 hgrow hat hlt1)
     have hg1:YT w w1 (.slice ra n rcap) (.slice (some ⟨gg,0,none⟩) (n+1) cap'):=YT.first hgrow hat
     have hsp1:Z7 w1 B (.slice (some ⟨gg,0,none⟩) (n+1) cap') (n+1):=⟨_,hown1,zeH HO.out.1.1 HO.out.2⟩
     have hob:∀g,(Value.slice ra n rcap).ownBlock=some g→g<w.heap.size:=fun g hg=>(zY HO.out.1 hg).2
     have hbox:w1.heap[w.heap.size]? =some (.cells #[.int .i64 id,.int .i64 kd,.string tx,.slice ka len cap] 35 (0,0)):=by
      rw[hgrow.block _ ud8 (fun e=>by have:=hob _ e.symm;omega)];exact heap_alloc2_old w _ _
     have HG:=hH (aN hg1 (aN hsp1 (aN hob hbox)))
     clear hg1 hsp1 hob hbox hgrow hown1 hat
     go_loopw [0,9] (fun l i wr=>zfF w B (.slice ra n rcap) n #[.int .i64 id,.int .i64 kd,.string tx,.slice ka len cap] ks len l i wr) (fun _ i _=>len - (intOf i).toNat)
     case atStart=>exact⟨0,n+1,NzlQ _,rfl,HG.out.2.1,HG.out.1,Or.inr rfl,by omega,NlrQ _,HG.out.2.2.2⟩
     case round=>
      obtain⟨k,nk,hk,rfl,hsp,hgr,hnk,hnk2,hnk3,hbx⟩:=hrel
      have p1:wr.cell? ⟨w.heap.size,3,none⟩=some (.slice ka len cap):=by rw[corQ wr _ 3 _ _ _ hbx];rfl
      have HR:=hH (aN hsp (aN hgr (aN hnk hbx)))
      clear hsp hgr hnk hbx
      by_cases hlt:k<len
      · have hlow:=HR.out.2.1.low ⟨xs,HO.out⟩ hBw
        have hk1:zQ wr S ks ka:=HK.out.kept fun x hx=>⟨hx,hlow x (HSS.out.1 x hx)⟩
        obtain⟨b0,o0,⟨ki,kk,kt⟩,l',r,hd1',b,off,a1,n1,rfl,hSb,c0,c1,c2,c3,hc1,hl1⟩:=hk1.at k (by rw[←HLEN.out];exact hlt)
        obtain⟨_,_,_,_,_,e1,e2,hsz1,htk⟩:=kF k ks (by rw[←HLEN.out];exact hlt)
        rw[hd1'] at e1;cases e1
        have hft:=zac k HN.out.2 hd1'
        have hcall:=HIH.out wr S (.agg #[.int .i64 ki,.int .i64 kk,.string kt,.slice a1 (foLen l') n1]) ⟨ki,kk,kt,l'⟩ B u0 nk (d+1) (by have:=HN.out.1;simp only;omega) hft.1 hft.2 HSS.out.1 (NltQ hBw HR.out.2.1.1.size) ⟨a1,n1,rfl,hc1,hl1⟩ HR.out.1 hnk2 om1 om1
        obtain⟨m1,hm1⟩:∃m,m=foLen l':=⟨_,rfl⟩
        rw[←hm1] at hcall c3
        simp only at c0 c1 c2
        have HC:=hH hcall
        have htk2:zh (zW (k+1) ks)=zh (zW k ks)+zh l'+1:=by rw[htk,Jo]
        have HTK:=hH htk2
        have hkl:(k:Int)<(len:Int):=by omega
        clear hk1 hlow hd1' hcall hm1 htk htk2 hl1 hc1 hsz1 hSb e2 hft
        go_wp2_with fail
        refine HC.out.mono ?_
        rintro e w2 ⟨l2,n2,rfl,hsp2,hg2,hn2,hn22,hn23⟩
        have HE:=hH (aN hsp2 (aN hg2 hn2))
        clear hsp2 hg2 hn2
        go_wp2_with fail
        have hne:some w.heap.size≠u0.ownBlock:=fun e=>by
         rcases HR.out.2.1.2 with h | h
         · have:=HG.out.2.2.1 _ (h.symm.trans e.symm);omega
         · have:=h _ e.symm;omega
        exact⟨⟨k+1,n2,by omega,by go_num,HE.out.1,HR.out.2.1.trans HE.out.2.1,by
         have h1:=HR.out.2.2.1
         have h2:2001≤n2∨n2=nk+zh l'+1:=HE.out.2.2
         have h3:=HTK.out
         omega,hn22,by omega,(HE.out.2.1.1.block _ (lt_of_some HR.out.2.2.2) hne).trans HR.out.2.2.2⟩,by simp[intOf];omega⟩
      · have hkk:k=len:=by omega
        have HKK:=hH hkk
        clear hkk
        go_wp2_with fail
        go_ret
        exact⟨_,nk,rfl,HR.out.1,HR.out.2.1,by
         rcases HR.out.2.2.1 with h | h
         · exact Or.inl h
         · right
           rw[Zf k ks (by rw[HKK.out,HLEN.out];exact NlrQ _)] at h
           show nk=n+zh ks+1;omega,hnk2,by omega⟩
end Go.Proofs.YtoidedomenkbpaaGreat
namespace Go.Proofs.YtoidedomenkbpaaGreat
open Go.RowKit Go.Shelf
def kQ (d c:Nat)(k:Int×Int×ByteArray):Bool:=decide (c≤200) && decide (d≤32) && zA 1 1125899906842624 k.1 && zA 0 32 k.2.1 && decide (k.2.2.size≤40)
def vW:Nat→Nat→Fo→Option Nat
 | d,c,.nil=>some c
 | d,c,.node _ _ k l r=>if kQ d (c+1) k=true then (match vW (d+1) (c+1) l with | some m=>vW d m r | none=>none) else none
def jM (d c:Nat)(t:Tr):Option Nat:=if kQ d (c+1) (t.id,t.kind,t.text)=true then vW (d+1) (c+1) t.kids else none
def yj (t:Tr):Bool:=(jM 1 0 t).isSome
theorem zeP (d c b o:Nat)(k:Int×Int×ByteArray)(l r:Fo):vW d c (.node b o k l r)=(match jM d c ⟨k.1,k.2.1,k.2.2,l⟩ with | some m=>vW d m r | none=>none):=by
 simp only[vW,jM]
 split<;>rfl
theorem vT:∀(d c:Nat) (f:Fo) (m:Nat),vW d c f=some m→c≤200→m≤200∧c≤m
 | d,c,.nil,m,h,hc=>by simp only[vW] at h;cases h;exact⟨hc,NlrQ _⟩
 | d, c, .node b o k l r,m,h,hc=>by
   simp only[vW] at h
   split at h
   · rename_i hw
     have h1:c+1≤200:=by simp only[kQ,Bool.and_eq_true,decide_eq_true_eq] at hw;exact hw.1.1.1.1
     split at h
     · rename_i p hp
       have h2:=vT _ _ l p hp h1
       have h3:=vT d p r m h h2.1
       exact⟨h3.1,by omega⟩
     · cases h
   · cases h
theorem zeQ {d c m:Nat}{t:Tr}(h:jM d c t=some m):m≤200:=by
 unfold jM at h
 split at h
 · rename_i hw
   have h1:c+1≤200:=by simp only[kQ,Bool.and_eq_true,decide_eq_true_eq] at hw;exact hw.1.1.1.1
   exact (vT _ _ _ _ h h1).1
 · cases h
structure Zz (W:World) (NB:Nat) (c:Nat) (X:World):Prop where
 cell:X.heap[NB]? =some (.cells #[.int .i64 (c:Int)] 3 (0,0))
 below:∀y,y<W.heap.size→y≠NB→X.heap[y]? =W.heap[y]?
 size:W.heap.size≤X.heap.size
 os:X.os=W.os
 tape:X.tape=W.tape
 output:X.output=W.output
theorem Zz.on {W X Y:World}{NB c:Nat}(h:Zz W NB c X)(hb:Below X.heap.size X Y):Zz W NB c Y:=
 ⟨(hb.block _ (lohQ h.cell)).trans h.cell,fun y h1 h2=>(hb.block _ (nL h1 h.size)).trans (h.below y h1 h2),NltQ h.size hb.size,hb.os.trans h.os,hb.tape.trans h.tape,hb.output.trans h.output⟩
theorem Zz.set {W X:World}{NB c:Nat}(h:Zz W NB c X)(m:Nat):Zz W NB m (X.setCell ⟨NB,0,none⟩ (.int .i64 (m:Int))):=
 ⟨by rw[hssQ _ _ _ _ _ _ h.cell];rfl,fun y h1 h2=>(BhsQ _ _ _ _ h2).trans (h.below y h1 h2),by have:=h.size;simpa [World.setCell] using this,h.os,h.tape,h.output⟩
def Qh (W:World)(NB:Nat)(o:Option Nat)(e:Ending)(X:World):Prop:=match o with
 | some c=>e= .returned (.tuple #[])∧Zz W NB c X
 | none=>e= .panicked Zi∧∃c,Zz W NB c X
theorem Qh.none {W X:World}{NB c:Nat}{o:Option Nat}(h:o=Option.none)(hc:Zz W NB c X):Qh W NB o (.panicked Zi) X:=by subst h;exact⟨rfl,c,hc⟩
theorem Qh.some {W X:World}{NB c:Nat}{o:Option Nat}(h:o=Option.some c)(hc:Zz W NB c X):Qh W NB o (.returned (.tuple #[])) X:=by subst h;exact⟨rfl,hc⟩
theorem zgW {W:World}{NB FB:Nat}{S:Nat→Prop}(hF:W.heap[FB]? =some (.cells #[.func (.func 114) #[] #[.pointer (some ⟨NB,0,none⟩),.pointer (some ⟨FB,0,none⟩)]] 152 (0,0)))(hFN:FB≠NB)(hS:∀y,S y→y<W.heap.size∧y≠NB):
 ∀(M:Nat) (X:World) (c d:Nat) (t:Tr) (ka:Option Addr) (kn kc:Nat),zh t.kids<M→c≤200→d≤33→kn=foLen t.kids→zQ W S t.kids ka→Zz W NB c X→
 Calls Tryz.prog 114 #[.agg #[.int .i64 t.id,.int .i64 t.kind,.string t.text,.slice ka kn kc],.int .i64 (d:Int),.pointer (some ⟨NB,0,none⟩),.pointer (some ⟨FB,0,none⟩)] X (Qh W NB (jM d c t)):=by
 intro M
 induction M with
 | zero=>intro X c d t ka kn kc h;omega
 | succ M ih =>
   intro X c d t ka kn kc hM hc hd hkn hk hX
   obtain⟨c1,hc1⟩:∃c1,c1=c+1:=⟨_,rfl⟩
   have hcw:IntKind.i64.wrap ((c:Int)+1)=(c1:Int):=by rw[IntWalk.i64_in _ om1];omega
   obtain⟨d1,hd1⟩:∃d1,d1=d+1:=⟨_,rfl⟩
   have hdw:IntKind.i64.wrap ((d:Int)+1)=(d1:Int):=by rw[IntWalk.i64_in _ om1];omega
   obtain⟨N,hN⟩:∃N,N=jM d c t:=⟨_,rfl⟩
   have hno:∀h:kQ d (c+1) (t.id,t.kind,t.text)=false,N=none:=fun h=>by rw[hN,jM,h];rfl
   obtain⟨B,hB⟩:∃B,B=X.alloc (.cells #[.int .i64 t.id,.int .i64 t.kind,.string t.text,.slice ka kn kc] 35):=⟨_,rfl⟩
   have hb:Below X.heap.size X B:=by rw[hB];exact (BrQ _ _).alloc (NlrQ _) _
   have hXB:=hX.on hb
   have hV:=hXB.set c1
   obtain⟨V,hVe⟩:∃V,V=B.setCell ⟨NB,0,none⟩ (.int .i64 (c1:Int)):=⟨_,rfl⟩
   rw[←hVe] at hV
   have eB:B.heap[X.heap.size]? =some (.cells #[.int .i64 t.id,.int .i64 t.kind,.string t.text,.slice ka kn kc] 35 (0,0)):=by rw[hB];exact hanQ _ _
   have hXN:NB<X.heap.size:=lohQ hX.cell
   have eV:V.heap[X.heap.size]? =some (.cells #[.int .i64 t.id,.int .i64 t.kind,.string t.text,.slice ka kn kc] 35 (0,0)):=by rw[hVe];exact (BhsQ _ _ _ _ ud3).trans eB
   have hXW:W.heap.size≤X.heap.size:=hX.size
   have n0:B.cell? ⟨NB,0,none⟩=some (.int .i64 (c:Int)):=by rw[corQ _ _ 0 _ _ _ hXB.cell];rfl
   have nf:∀j,B.frozen? ⟨NB,j,none⟩=false:=fun j=>forQ _ _ j _ _ hXB.cell
   have v0:V.cell? ⟨NB,0,none⟩=some (.int .i64 (c1:Int)):=by rw[corQ _ _ 0 _ _ _ hV.cell];rfl
   have hcells:∀Y,Below V.heap.size V Y→ue2 Y X.heap.size t.id t.kind t.text ka kn kc:=fun Y hY=>by
    have e:=(hY.block _ (lohQ eV)).trans eV
    exact⟨by rw[corQ _ _ 0 _ _ _ e];rfl,by rw[corQ _ _ 1 _ _ _ e];rfl,by rw[corQ _ _ 2 _ _ _ e];rfl,by rw[corQ _ _ 3 _ _ _ e];rfl⟩
   have HC:=hH hcells
   have HNO:=hH hno
   have HN:=hH hN
   have HV:=hH hV
   have HBE:=hH (aN hB hVe)
   have HT:=hH (aN hM (aN hkn (aN hk (aN hd (aN hc1 hd1)))))
   have HIH:=hH ih
   have HXW:=hH hXW
   have HF:Hid (∀Y m,Zz W NB m Y→Y.cell? ⟨FB,0,none⟩=some (.func (.func 114) #[] #[.pointer (some ⟨NB,0,none⟩),.pointer (some ⟨FB,0,none⟩)])):=hH fun Y m h=>by rw[corQ _ _ 0 _ _ _ ((h.below _ (lohQ hF) hFN).trans hF)];rfl
   clear hcells hno hN hV hB hVe hM hkn hk ih hb hXB eB eV hXN hXW hX
   rw[←HN.out]
   by_cases hcd:c1≤200∧d≤32
   rotate_left
   · have HNN:=hH (HNO.out (by
      have:=HT.out.2.2.2.2.1
      rw[←this];unfold kQ
      by_cases h1:c1≤200
      · rw[decide_eq_false (fun h2:d≤32=>hcd ⟨h1,h2⟩),Bool.and_false];rfl
      · rw[decide_eq_false h1];rfl))
     have HA:=hH (fun Y=>yV Y false)
     by_cases h1:c1≤200
     · have g1:(c1:Int)≤200:=by omega
       have g2:¬(d:Int)≤32:=by omega
       exact sd1
     · have g1:¬(c1:Int)≤200:=by omega
       exact sd1
   have g1:(c1:Int)≤200:=by omega
   have g2:(d:Int)≤32:=by omega
   have HCD:=hH hcd
   clear hcd hc1 hd1
   go_enter Tryz.func114,Tryz.ntmps114
   go_upto_region 1 with fail
   change Code.wp _ _ _ _ (X.alloc (.cells #[.int .i64 t.id,.int .i64 t.kind,.string t.text,.slice ka kn kc] 35))
   rw[←HBE.out.1]
   go_upto_region 2 with fail
   rw[←HBE.out.2]
   clear HBE
   go_wp2_with fail
   refine (yV V true).mono ?_
   intro e w1 hq;obtain⟨rfl,hb1⟩:=hq.t
   have H1:=hH hb1
   clear hq hb1 v0 n0 nf g1 g2
   obtain⟨k0,k1,k2,k3⟩:=HC.out w1 H1.out
   go_wp2_with fail
   refine (yP w1 t.id 1 1125899906842624).mono ?_
   intro e w2 hq
   cases hb0:zA 1 1125899906842624 t.id
   · rw[hb0] at hq
     obtain⟨rfl,hb2⟩:=hq.f
     exact⟨rfl,Qh.none (HNO.out (by simp only[kQ,hb0,Bool.and_false,Bool.false_and])) (HV.out.on (H1.out.trans (hb2.mono H1.out.size)))⟩
   rw[hb0] at hq
   obtain⟨rfl,hb2⟩:=hq.t
   have H2:=hH (H1.out.trans (hb2.mono H1.out.size))
   have HB0:=hH hb0
   clear hq hb2 k0 k1 k2 k3 hb0 H1
   obtain⟨k0,k1,k2,k3⟩:=HC.out w2 H2.out
   go_wp2_with fail
   refine (yP w2 t.kind 0 32).mono ?_
   intro e w3 hq
   cases hb0:zA 0 32 t.kind
   · rw[hb0] at hq
     obtain⟨rfl,hb2⟩:=hq.f
     exact⟨rfl,Qh.none (HNO.out (by simp only[kQ,hb0,Bool.and_false,Bool.false_and])) (HV.out.on (H2.out.trans (hb2.mono H2.out.size)))⟩
   rw[hb0] at hq
   obtain⟨rfl,hb2⟩:=hq.t
   have H3:=hH (H2.out.trans (hb2.mono H2.out.size))
   have HB1:=hH hb0
   clear hq hb2 k0 k1 k2 k3 hb0 H2
   obtain⟨k0,k1,k2,k3⟩:=HC.out w3 H3.out
   go_wp2_with fail
   refine (Ji w3 t.text).mono ?_
   intro e w4 hq
   cases hb0:decide (t.text.size≤40)
   · rw[hb0] at hq
     obtain⟨rfl,hb2⟩:=hq.f
     exact⟨rfl,Qh.none (HNO.out (by simp only[kQ,hb0,Bool.and_false])) (HV.out.on (H3.out.trans (hb2.mono H3.out.size)))⟩
   rw[hb0] at hq
   obtain⟨rfl,hb2⟩:=hq.t
   have H4:=hH (H3.out.trans (hb2.mono H3.out.size))
   have HNE:=hH (show N=vW d1 c1 t.kids by
    rw[HN.out,jM,←HT.out.2.2.2.2.1,HT.out.2.2.2.2.2,ipQ (by simp only[kQ,HB0.out,HB1.out,hb0,decide_eq_true HCD.out.1,decide_eq_true HCD.out.2];rfl)])
   clear hq hb2 k0 k1 k2 k3 hb0 H3 HB0 HB1 HNO
   obtain⟨k0,k1,k2,k3⟩:=HC.out w4 H4.out
   have hcv:=HV.out.on H4.out
   have HI:=hH (aN hcv (aN HCD.out.1 HNE.out))
   clear hcv
   go_wp2_with fail
   clear k0 k1 k2 k3
   go_loopw [29] (fun i wr=>∃j:Nat,j≤kn∧i= .int .i64 (j:Int)∧Hid (∃m:Nat,j≤m∧m≤200∧Zz W NB m wr∧N=vW d1 m (yx j t.kids))) (fun i _=>kn - (intOf i).toNat)
   case atStart=>exact⟨0,NzlQ _,rfl,hH ⟨c1,NzlQ _,HI.out.2.1,HI.out.1,by rw[HI.out.2.2];cases t.kids<;>rfl⟩⟩
   case round=>
    obtain⟨j,hj,rfl,hh⟩:=hrel
    obtain⟨wo,hwo⟩:∃wo,wo=wr:=⟨_,rfl⟩
    subst hwo
    obtain⟨m,hjm,hm,hcm,hNm⟩:=hh.out
    clear hh
    by_cases hlt:j<kn
    · obtain ⟨b0,o0,key,ll,rr,hdr,g,go,na,nc,rfl,hSg,q0,q1,q2,q3,qc,qk⟩:=zQ.at j HT.out.2.2.1 (by have:=HT.out.2.1;omega)
      obtain⟨_,_,_,_,_,hdr',hnx,hsz,_⟩:=kF j t.kids (by have:=HT.out.2.1;omega)
      rw[hdr] at hdr'
      cases hdr'
      have hji:(j:Int)<(kn:Int):=by omega
      have hj2:(j:Int)≤200:=by omega
      have hj0:(0:Int)≤(j:Int):=by omega
      obtain⟨ln,hln⟩:∃ln,ln=foLen ll:=⟨_,rfl⟩
      rw[←hln] at q3 qc
      have hgW:∀(i:Nat) (u:Value),W.cell? ⟨g,i,none⟩=some u→wo.cell? ⟨g,i,none⟩=some u:=fun i u h=>(World.cell?_of_block (a:=⟨g,i,none⟩) (hcm.below g (hS g hSg).1 (hS g hSg).2)).trans h
      have r0:=hgW _ _ q0
      have r1:=hgW _ _ q1
      have r2:=hgW _ _ q2
      have r3:=hgW _ _ q3
      obtain⟨Z,hZ⟩:∃Z,Z=wo.alloc (.cells #[.int .i64 key.1,.int .i64 key.2.1,.string key.2.2,.slice na ln nc] 35):=⟨_,rfl⟩
      have hZb:Below wo.heap.size wo Z:=by rw[hZ];exact (BrQ _ _).alloc (NlrQ _) _
      have eZ:Z.heap[wo.heap.size]? =some (.cells #[.int .i64 key.1,.int .i64 key.2.1,.string key.2.2,.slice na ln nc] 35 (0,0)):=by rw[hZ];exact hanQ _ _
      have hcZ:=hcm.on hZb
      have fZ:=HF.out Z m hcZ
      have z0:Z.cell? ⟨wo.heap.size,0,none⟩=some (.int .i64 key.1):=by rw[corQ _ _ 0 _ _ _ eZ];rfl
      have z1:Z.cell? ⟨wo.heap.size,1,none⟩=some (.int .i64 key.2.1):=by rw[corQ _ _ 1 _ _ _ eZ];rfl
      have z2:Z.cell? ⟨wo.heap.size,2,none⟩=some (.string key.2.2):=by rw[corQ _ _ 2 _ _ _ eZ];rfl
      have z3:Z.cell? ⟨wo.heap.size,3,none⟩=some (.slice na ln nc):=by rw[corQ _ _ 3 _ _ _ eZ];rfl
      have hcall:=HIH.out Z m d1 ⟨key.1,key.2.1,key.2.2,ll⟩ na ln nc (by have:=HT.out.1;simp only;omega) hm (by have:=HT.out.2.2.2.2.2;have:=HCD.out.2;omega) hln qk hcZ
      have HCALL:=hH hcall
      have HZE:=hH hZ
      have HR:=hH (aN hjm (aN hlt (show N=(match jM d1 m ⟨key.1,key.2.1,key.2.2,ll⟩ with | some m=>vW d1 m (yx (j+1) t.kids) | none=>none) by rw[hNm,hdr,zeP,hnx])))
      clear hcall hZ hZb eZ hcZ hjm hlt hNm hdr hnx hsz hm hcm qk q0 q1 q2 q3 qc hgW hSg hj hln
      go_upto_region 9 with fail
      change Code.wp _ _ _ _ (wo.alloc (.cells #[.int .i64 key.1,.int .i64 key.2.1,.string key.2.2,.slice na ln nc] 35))
      rw[←HZE.out]
      clear r0 r1 r2 r3
      go_wp2_with fail
      refine HCALL.out.mono ?_
      intro e w6 hq
      unfold Qh at hq
      cases hT:jM d1 m ⟨key.1,key.2.1,key.2.2,ll⟩ with
      | none=>
        rw[hT] at hq
        obtain⟨rfl,c',hc'⟩:=hq
        exact⟨rfl,Qh.none (by have:=HR.out.2.2;rw[hT] at this;exact this) hc'⟩
      | some p=>
        rw[hT] at hq
        obtain⟨rfl,hc'⟩:=hq
        have HQ:=hH (aN hc' (aN (zeQ hT) (show N=vW d1 p (yx (j+1) t.kids) by have:=HR.out.2.2;rw[hT] at this;exact this)))
        have hmp:m+1≤p:=by
         unfold jM at hT
         split at hT
         · rename_i hw
           have h1:m+1≤200:=by simp only[kQ,Bool.and_eq_true,decide_eq_true_eq] at hw;exact hw.1.1.1.1
           exact (vT _ _ _ _ hT h1).2
         · cases hT
        have HMP:=hH hmp
        clear hmp hT hc' z0 z1 z2 z3 fZ
        go_wp2_with fail
        exact⟨⟨j+1,HR.out.2.1,by go_num,hH ⟨p,by have:=HR.out.1;have:=HMP.out;omega,HQ.out.2.1,HQ.out.1,HQ.out.2.2⟩⟩,by have:=HR.out.2.1;simp[intOf];omega⟩
    · have hji:¬(j:Int)<(kn:Int):=by omega
      have HE:=hH (aN (show N=some m by rw[hNm,Ze j _ (by have:=HT.out.2.1;omega)];rfl) hcm)
      clear hNm hcm hjm hm hlt hj
      go_wp2_with fail
      go_end0
      exact Qh.some HE.out.1 HE.out.2
end Go.Proofs.YtoidedomenkbpaaGreat
namespace Go.Proofs.YtoidedomenkbpaaGreat
open Go.RowKit Go.Shelf
theorem zeO {t:Tr}{c:Nat}(h:jM 1 0 t=some c):yj t=true:=by unfold yj;rw[h];rfl
theorem zeN {t:Tr}(h:jM 1 0 t=none):yj t=false:=by unfold yj;rw[h];rfl
theorem Jj (w:World)(S:Nat→Prop)(t:Tr)(ka:Option Addr)(kn kc:Nat)(hkn:kn=foLen t.kids)(hS:∀y,S y→y<w.heap.size)(hk:zQ w S t.kids ka):
 Calls Tryz.prog 69 #[.agg #[.int .i64 t.id,.int .i64 t.kind,.string t.text,.slice ka kn kc]] w (ql (yj t) w):=by
 have hmf:∀(fn:Fn) (first cap:Array Value) (w:World),(Instr.makeFunc fn first cap).run Tryz.prog w= .ok (.func fn first cap) w:=fun _ _ _ _=>rfl
 obtain⟨DV,hDV⟩:∃DV,DV=Value.func (.func 114) #[] #[.pointer (some ⟨w.heap.size+1,0,none⟩),.pointer (some ⟨w.heap.size+1+1,0,none⟩)]:=⟨_,rfl⟩
 obtain⟨W,hW⟩:∃W,W=zU w [.cells #[.int .i64 t.id,.int .i64 t.kind,.string t.text,.slice ka kn kc] 35,.cells #[.int .i64 0] 3,.cells #[DV] 152]:=⟨_,rfl⟩
 have hb:Below w.heap.size w W:=by rw[hW];exact zR _ _
 have h0:W.heap[w.heap.size]? =some (.cells #[.int .i64 t.id,.int .i64 t.kind,.string t.text,.slice ka kn kc] 35 (0,0)):=by rw[hW];exact zD _ _ 0 _ rfl
 have h1:W.heap[w.heap.size+1]? =some (.cells #[.int .i64 0] 3 (0,0)):=by rw[hW];exact zD _ _ 1 _ rfl
 have h2:W.heap[w.heap.size+1+1]? =some (.cells #[DV] 152 (0,0)):=by rw[hW];exact zD _ _ 2 _ rfl
 have hs:=hb.size
 have hc:=zgW (W:=W) (NB:=w.heap.size+1) (FB:=w.heap.size+1+1) (S:=S) (by rw[h2,hDV]) om1 (fun y hy=>by have:=hS y hy;exact⟨by omega,by omega⟩) (zh t.kids+1) W 0 1 t ka kn kc om1 om1 om1 hkn (hk.below hb hS) ⟨h1,fun _ _ _=>rfl,NlrQ _,rfl,rfl,rfl⟩
 have HC:=hH (aN hc (aN hb hW))
 have HDV:=hH hDV
 have n0:W.cell? ⟨w.heap.size,0,none⟩=some (.int .i64 t.id):=by rw[corQ _ _ 0 _ _ _ h0];rfl
 have n1:W.cell? ⟨w.heap.size,1,none⟩=some (.int .i64 t.kind):=by rw[corQ _ _ 1 _ _ _ h0];rfl
 have n2:W.cell? ⟨w.heap.size,2,none⟩=some (.string t.text):=by rw[corQ _ _ 2 _ _ _ h0];rfl
 have n3:W.cell? ⟨w.heap.size,3,none⟩=some (.slice ka kn kc):=by rw[corQ _ _ 3 _ _ _ h0];rfl
 have n5:W.cell? ⟨w.heap.size+1+1,0,none⟩=some DV:=by rw[corQ _ _ 0 _ _ _ h2];rfl
 clear hc hb hW h0 h1 h2 hs hDV hk hkn hS
 go_enter Tryz.func69,Tryz.ntmps69
 go_upto_region 4 with fail
 have hWW:=HC.out.2.2
 rw[HDV.out] at hWW
 change Code.wp _ _ _ _ (zU w [.cells #[.int .i64 t.id,.int .i64 t.kind,.string t.text,.slice ka kn kc] 35,.cells #[.int .i64 0] 3,.cells #[Value.func (.func 114) #[] #[.pointer (some ⟨w.heap.size+1,0,none⟩),.pointer (some ⟨w.heap.size+1+1,0,none⟩)]] 152])
 rw[←hWW]
 clear hWW
 rw[HDV.out] at n5
 go_wp2_with fail
 refine HC.out.1.mono ?_
 intro e X hq
 unfold Qh at hq
 cases hT:jM 1 0 t with
 | none=>
   rw[hT] at hq
   obtain⟨rfl,c',hc'⟩:=hq
   have hbX:Below w.heap.size w X:=⟨hc'.os.trans HC.out.2.1.os,hc'.tape.trans HC.out.2.1.tape,hc'.output.trans HC.out.2.1.output,NltQ HC.out.2.1.size hc'.size,fun y hy=>(hc'.below y (nL hy HC.out.2.1.size) om1).trans (HC.out.2.1.block y hy)⟩
   exact⟨rfl,ql.no (zeN hT) hbX⟩
 | some c'=>
   rw[hT] at hq
   obtain⟨rfl,hc'⟩:=hq
   have hbX:Below w.heap.size w X:=⟨hc'.os.trans HC.out.2.1.os,hc'.tape.trans HC.out.2.1.tape,hc'.output.trans HC.out.2.1.output,NltQ HC.out.2.1.size hc'.size,fun y hy=>(hc'.below y (nL hy HC.out.2.1.size) om1).trans (HC.out.2.1.block y hy)⟩
   have HX:=hH (ql.yes (zeO hT) hbX)
   clear hT hc' hbX
   go_wp2_with fail
   go_end0
   exact HX.out
end Go.Proofs.YtoidedomenkbpaaGreat
