/-
  .
-/
import Derived.Test.YtgkmmnihaiopaaaGreatRCountQv
set_option maxRecDepth 100000
set_option maxHeartbeats 40000000
set_option linter.unusedVariables false
set_option linter.unusedSimpArgs false
namespace Go.Proofs.YtgkmmnihaiopaaaGreat
open Go.RowKit
def YH (t u:Tr)(w:World)(e:Ending)(w' :World):Prop:=e= .returned (.bool (qF t u))∧Below w.heap.size w w'
theorem YH.mk {t u:Tr}{w w' :World}{b:Bool}(h:qF t u=b)(hb:Below w.heap.size w w'):YH t u w (.returned (.bool b)) w':=⟨by rw[h],hb⟩
theorem yQ (w:World)(o o' :Obj):Below w.heap.size w ((w.alloc o).alloc o'):=((BrQ _ _).alloc (NlrQ _) _).alloc sp1 _
theorem zio (w:World)(id1 kd1 id2 kd2:Int)(tx1 tx2:ByteArray)(a1 a2:Option Addr)(len1 cap1 len2 cap2:Nat)(t u:Tr)(hs:qF t u=false)(hd:¬(id1=id2∧kd1=kd2∧tx1.toList=tx2.toList∧len1=len2)):
 Calls Tryz.prog 13 #[.agg #[.int .i64 id1,.int .i64 kd1,.string tx1,.slice a1 len1 cap1],.agg #[.int .i64 id2,.int .i64 kd2,.string tx2,.slice a2 len2 cap2]] w (YH t u w):=by
 have HS:=hH hs
 clear hs
 by_cases h1:id1=id2
 · by_cases h2:kd1=kd2
   · by_cases h3:tx1.toList=tx2.toList
     · have h4:¬len1=len2:=fun h=>hd ⟨h1,h2,h3,h⟩
       clear hd
       subst h1;subst h2
       exact sd6
     · clear hd
       subst h1;subst h2
       exact sd6
   · clear hd
     subst h1
     exact sd6
 · clear hd
   exact sd6
def zfW (w:World)(c1 c2:Array Value)(len:Nat)(f g:Fo)(i:Value)(wr:World):Prop:=
 ∃k:Nat,k≤len∧i= .int .i64 k∧wr.heap[w.heap.size]? =some (.cells c1 27 (0,0))∧wr.heap[w.heap.size+1]? =some (.cells c2 27 (0,0))∧Below w.heap.size w wr∧y7 f g=y7 (zq k f) (zq k g)
theorem zin :∀(n:Nat) (w:World) (S1 S2:Nat→Prop) (v1 v2:Value) (t u:Tr),zb t.kids<n→foLen t.kids≤9223372036854775807∧qZ t.kids→(∀k,S1 k→k<w.heap.size)→(∀k,S2 k→k<w.heap.size)→zG w S1 v1 t→zG w S2 v2 u→
 Calls Tryz.prog 13 #[v1,v2] w (YH t u w):=by
 intro n
 induction n with
 | zero=>intro w S1 S2 v1 v2 t u h;omega
 | succ n ih=>
   intro w S1 S2 v1 v2 t u hn hm hS1 hS2 hv1 hv2
   obtain⟨ka1,cap1,rfl,_,hk1⟩:=hv1
   obtain⟨ka2,cap2,rfl,_,hk2⟩:=hv2
   obtain⟨id1,kd1,tx1,ks1⟩:=t
   obtain⟨id2,kd2,tx2,ks2⟩:=u
   simp only at hk1 hk2 hn hm
   simp only
   by_cases hd:id1=id2∧kd1=kd2∧tx1.toList=tx2.toList∧foLen ks1=foLen ks2
   · obtain ⟨rfl,rfl,h3,h4⟩:=hd
     have hsame:qF ⟨id1,kd1,tx1,ks1⟩ ⟨id1,kd1,tx2,ks2⟩=y7 ks1 ks2:=by simp[qF,je,h3,h4]
     obtain⟨len,hlen⟩:∃len,len=foLen ks1:=⟨_,rfl⟩
     rw[←h4,←hlen]
     have HLEN:=hH (aN hlen (hlen.trans h4))
     have HK:=hH (aN hk1 hk2)
     have HS:=hH hsame
     have hlen6:len≤9223372036854775807:=by rw[hlen];exact hm.1
     have HN:=hH (aN hn hm)
     have HSS:=hH (aN hS1 hS2)
     have HIH:=hH ih
     clear hlen h4 hk1 hk2 hsame hn hm hS1 hS2 ih
     go_enter Tryz.func13,Tryz.ntmps13
     go_wp2_with fail
     go_loopw [5] (fun i wr=>zfW w #[.int .i64 id1,.int .i64 kd1,.string tx1,.slice ka1 len cap1] #[.int .i64 id1,.int .i64 kd1,.string tx2,.slice ka2 len cap2] len ks1 ks2 i wr) (fun i _=>len - (intOf i).toNat)
     case atStart=>
      exact⟨0,NzlQ _,rfl,by rw[BhaQ _ _ _ sp1];exact hanQ w _,by have:=hanQ (w.alloc (.cells #[.int .i64 id1,.int .i64 kd1,.string tx1,.slice ka1 len cap1] 27)) (.cells #[.int .i64 id1,.int .i64 kd1,.string tx2,.slice ka2 len cap2] 27);simpa using this,yQ _ _ _,rfl⟩
     case round=>
      obtain⟨k,hk,rfl,hb1,hb2,hbel,hsf⟩:=hrel
      have p1:wr.cell? ⟨w.heap.size,3,none⟩=some (.slice ka1 len cap1):=by rw[corQ wr _ 3 _ _ _ hb1];rfl
      have p2:wr.cell? ⟨w.heap.size+1,3,none⟩=some (.slice ka2 len cap2):=by rw[corQ wr _ 3 _ _ _ hb2];rfl
      have HSF:=hH hsf
      have HB:=hH (aN hb1 (aN hb2 hbel))
      clear hb1 hb2 hbel hsf
      by_cases hlt:k<len
      · obtain⟨W,hW⟩:∃W,W=wr.drew:=⟨_,rfl⟩
        have hW0:Below w.heap.size w W:=by rw[hW];exact below_drewN HB.out.2.2 1
        have hsz:w.heap.size≤W.heap.size:=hW0.size
        have q1:W.cell? ⟨w.heap.size,3,none⟩=some (.slice ka1 len cap1):=by rw[hW];exact p1
        have q2:W.cell? ⟨w.heap.size+1,3,none⟩=some (.slice ka2 len cap2):=by rw[hW];exact p2
        have hk1:=HK.out.1.below hW0 HSS.out.1
        have hk2:=HK.out.2.below hW0 HSS.out.2
        obtain⟨b0,o0,⟨ki,kk,kt⟩,l,r,hd1,b,off,a1,n1,rfl,hSb,c0,c1,c2,c3,hcp1,hl1⟩:=hk1.at k ue3
        obtain⟨b0',o0',⟨ki',kk',kt'⟩,l',r',hd2,b',off',a2,n2,rfl,hSb',d0,d1,d2,d3,hcp2,hl2⟩:=hk2.at k (by rw[←HLEN.out.2];exact hlt)
        obtain⟨_,_,_,_,_,e1,e2,hsz1,_⟩:=zX k ks1 ue3
        rw[hd1] at e1;cases e1
        obtain⟨_,_,_,_,_,e1,e2',_,_⟩:=zX k ks2 (by rw[←HLEN.out.2];exact hlt)
        rw[hd2] at e1;cases e1
        have hs1:y7 ks1 ks2=(qF ⟨ki,kk,kt,l⟩ ⟨ki',kk',kt',l'⟩ && y7 (zq (k+1) ks1) (zq (k+1) ks2)):=by rw[HSF.out,hd1,hd2,e2,e2'];rfl
        have hcall:=HIH.out W S1 S2 (.agg #[.int .i64 ki,.int .i64 kk,.string kt,.slice a1 (foLen l) n1]) (.agg #[.int .i64 ki',.int .i64 kk',.string kt',.slice a2 (foLen l') n2]) ⟨ki,kk,kt,l⟩ ⟨ki',kk',kt',l'⟩ ud9 (Zx k HN.out.2.2 hd1) (fun x hx=>nL (HSS.out.1 x hx) hsz) (fun x hx=>nL (HSS.out.2 x hx) hsz) ⟨a1,n1,rfl,hcp1,hl1⟩ ⟨a2,n2,rfl,hcp2,hl2⟩
        obtain⟨bb,hbb⟩:∃bb,bb=qF ⟨ki,kk,kt,l⟩ ⟨ki',kk',kt',l'⟩:=⟨_,rfl⟩
        obtain⟨m1,hm1⟩:∃m,m=foLen l:=⟨_,rfl⟩
        obtain⟨m2,hm2⟩:∃m,m=foLen l':=⟨_,rfl⟩
        rw[←hm1,←hm2] at hcall
        rw[←hm1] at c3
        rw[←hm2] at d3
        rw[←hbb] at hs1
        simp only at c0 c1 c2 d0 d1 d2
        have HC:=hH hcall
        have HS1:=hH hs1
        have HBB:=hH hbb
        have HW:=hH hW
        have HW0:=hH hW0
        have HBW:=hH (show W.heap[w.heap.size]? =some (.cells #[.int .i64 id1,.int .i64 kd1,.string tx1,.slice (some ⟨b,off,none⟩) len cap1] 27 (0,0))∧W.heap[w.heap.size+1]? =some (.cells #[.int .i64 id1,.int .i64 kd1,.string tx2,.slice (some ⟨b',off',none⟩) len cap2] 27 (0,0)) by rw[hW];exact⟨HB.out.1,HB.out.2.1⟩)
        have hkl:(k:Int)<(len:Int):=by omega
        have hlt2:w.heap.size+1<W.heap.size:=lt_of_some HBW.out.2
        clear hk1 hk2 hd1 hd2 e2 e2' hs1 hcall hbb hm1 hm2 hW hW0 hsz hl1 hl2 hcp1 hcp2 hsz1 hSb hSb'
        go_wp2_with fail
        have hdr:({ heap:=wr.heap,tape:=wr.tape,drawn:=wr.drawn+1,os:=wr.os,output:=wr.output }:World)=W:=HW.out.symm
        refine wp_region_still_tail 10 kr1 kr1 ?_
        simp only[List.take_succ_cons,List.take_zero,List.drop_succ_cons,List.drop_zero]
        rw[hdr]
        clear hdr
        repeat still_step
        try refine wpStill_nil ?_
        cases bb
        · go_wp2_with (go_at_call 13;refine HC.out.mono ?_;rintro e w2 ⟨rfl,hb2⟩;rw[←HBB.out];have HB2:=hH hb2;clear hb2)
          go_ret
          exact YH.mk (by rw[HS.out,HS1.out];rfl) (HW0.out.trans (HB2.out.mono (Nat.le_of_lt (Nat.lt_of_succ_lt hlt2))))
        · go_wp2_with (go_at_call 13;refine HC.out.mono ?_;rintro e w2 ⟨rfl,hb2⟩;rw[←HBB.out];have HB2:=hH hb2;clear hb2)
          exact⟨⟨k+1,by omega,by go_num,(HB2.out.block _ (Nat.lt_of_succ_lt hlt2)).trans HBW.out.1,(HB2.out.block _ hlt2).trans HBW.out.2,HW0.out.trans (HB2.out.mono (Nat.le_of_lt (Nat.lt_of_succ_lt hlt2))),by rw[HS1.out];rfl⟩,by simp[intOf];omega⟩
      · have hkk:k=len:=by omega
        have hs:=HSF.out
        rw[qK k _ (by rw[←HLEN.out.1];omega),qK k _ (by rw[←HLEN.out.2];omega)] at hs
        have HR:=hH (HS.out.trans hs)
        clear hs hkk
        go_wp2_with fail
        go_ret
        exact YH.mk HR.out HB.out.2.2
   · refine zio w id1 kd1 id2 kd2 tx1 tx2 ka1 ka2 _ _ _ _ _ _ ?_ hd
     simp only[qF,je]
     simp
     intro h1 h2 h3 h4
     exact absurd ⟨h1,h2,h3,h4⟩ hd
theorem QF (d:Nat):∀(f:Fo) (b o:Nat) (k:Int×Int×ByteArray) (l:Fo),spF d (qA f b o k l)=spF d f++((d,k,l)::spF (d+1) l)
 | .nil,_,_,_,_=>by simp[qA,spF]
 | .node _ _ _ l' r,b,o,k,l=>by simp[qA,spF,QF d r b o k l,List.append_assoc]
def spT (d:Nat)(t:Tr):List Sp:=(d,(t.id,t.kind,t.text),t.kids)::spF (d+1) t.kids
theorem zd3 (t:Tr):spT 1 t=spF 1 (zm t):=by simp[spT,zm,spF]
def QI (w:World)(S:Nat→Prop)(xs:List Value)(i:Nat)(x:Sp):Prop:=
 xs[i*5]? =some (.int .i64 x.2.1.1)∧xs[i*5+1]? =some (.int .i64 x.2.1.2.1)∧xs[i*5+2]? =some (.string x.2.1.2.2)∧(∃ka cap,xs[i*5+3]? =some (.slice ka (foLen x.2.2) cap)∧foLen x.2.2≤cap∧zt w S x.2.2 ka)∧xs[i*5+4]? =some (.int .i64 (x.1:Int))
def qJ (S:Nat→Prop)(w:World)(B:Nat)(rv:Value)(n:Nat)(T:List Sp):Prop:=T.length=n∧∃xs,w.ownsRow B 59 5 rv n xs∧∀i x,T[i]? =some x→QI w S xs i x
theorem QI.kept {w w' :World}{S:Nat→Prop}{xs:List Value}{i:Nat}{x:Sp}(h:QI w S xs i x)(hk:∀k,S k→w'.heap[k]? =w.heap[k]?):QI w' S xs i x:=by
 obtain⟨a,b,c,⟨ka,cap,e,f,g⟩,z⟩:=h
 exact⟨a,b,c,⟨ka,cap,e,f,g.kept fun k hs=>⟨hs,hk k hs⟩⟩,z⟩
theorem qJ.bounds {S:Nat→Prop}{w:World}{B:Nat}{rv:Value}{n:Nat}{T:List Sp}(h:qJ S w B rv n T){g:Nat}(hg:rv.ownBlock=some g):B≤g∧g<w.heap.size:=by
 obtain⟨_,xs,ho,_⟩:=h
 exact zk ho hg
theorem jD.zi7 {S:Nat→Prop}{w wr:World}{B n:Nat}{rv l:Value}{T:List Sp}(h:jD w wr rv l)(hs:qJ S w B rv n T)(hB:B≤w.heap.size):∀k,k<B→wr.heap[k]? =w.heap[k]?:=fun k hk=>
 h.1.block k om (fun e=>by have:=(hs.bounds e.symm).1;omega)
theorem Jw {w w' :World}{S:Nat→Prop}{xs:List Value}{n:Nat}{T:List Sp}{x:Sp}{ka:Option Addr}{cap:Nat}(hl:xs.length=n*5)(hT:T.length=n)(hx:∀i y,T[i]? =some y→QI w S xs i y)(hk:∀k,S k→w'.heap[k]? =w.heap[k]?)(hc:foLen x.2.2≤cap)(hf:zt w' S x.2.2 ka):
 ∀i y,(T++[x])[i]? =some y→QI w' S (xs++[.int .i64 x.2.1.1,.int .i64 x.2.1.2.1,.string x.2.1.2.2,.slice ka (foLen x.2.2) cap,.int .i64 (x.1:Int)]) i y:=fun i y hi=>by
 by_cases h:i<n
 · rw[List.getElem?_append_left om] at hi
   obtain⟨a,b,c,⟨kb,cb,e,f,g⟩,z⟩:=(hx i y hi).kept hk
   exact⟨by rw[List.getElem?_append_left om];exact a,by rw[List.getElem?_append_left om];exact b,by rw[List.getElem?_append_left om];exact c,⟨kb,cb,by rw[List.getElem?_append_left om];exact e,f,g⟩,by rw[List.getElem?_append_left om];exact z⟩
 · have hil:=(List.getElem?_eq_some_iff.1 hi).1
   have:i=n:=by simp at hil;omega
   subst this
   rw[List.getElem?_append_right om,hT,Nat.sub_self] at hi
   simp at hi
   subst hi
   refine⟨?_,?_,?_,⟨ka,cap,?_,hc,hf⟩,?_⟩<;>(rw[List.getElem?_append_right om,hl];simp)
def zkU (S:Nat→Prop)(w:World)(B:Nat)(rv:Value)(n:Nat)(T:List Sp)(d:Nat)(t:Tr)(e:Ending)(w' :World):Prop:=
 ∃rv',e= .returned rv'∧qJ S w' B rv' (n+(zb t.kids+1)) (T++spT d t)∧jD w w' rv rv'
def zfU (S:Nat→Prop)(w:World)(B:Nat)(rv:Value)(n:Nat)(T:List Sp)(x:Sp)(c1:Array Value)(ks:Fo)(len:Nat)(l i:Value)(wr:World):Prop:=
 ∃k,k≤len∧i= .int .i64 (k:Nat)∧qJ S wr B l (n+1+zb (zx k ks)) (T++(x::spF (x.1+1) (zx k ks)))∧jD w wr rv l∧wr.heap[w.heap.size]? =some (.cells c1 27 (0,0))
theorem zff (M:Nat)(hM:M≤2000000):∀(m:Nat) (w:World) (S:Nat→Prop) (v:Value) (t:Tr) (B:Nat) (rv:Value) (n:Nat) (T:List Sp) (d:Nat),zb t.kids<m→m≤1000000→n+zb t.kids+1≤M→(∀k,S k→k<B)→B≤w.heap.size→zG w S v t→
 qJ S w B rv n T→d≤n+1→
 Calls Tryz.prog 39 #[rv,v,.int .i64 (d:Int),.int .i64 (M:Int)] w (zkU S w B rv n T d t):=by
 intro m
 induction m with
 | zero=>intro w S v t B rv n T d h;omega
 | succ m ih=>
   intro w S v t B rv n T d hm hm5 hnM hS hB hv hrow hd1
   obtain⟨ka,cap,rfl,hcpt,hk⟩:=hv
   obtain⟨id,kd,tx,ks⟩:=t
   simp only at hk hm hnM hcpt
   simp only
   obtain⟨hT,xs,ho,hxs⟩:=hrow
   obtain⟨ra,rcap,rfl⟩:=zy ho
   obtain⟨len,hlen⟩:∃len,len=foLen ks:=⟨_,rfl⟩
   have hlen2:len≤1000000:=by have:=zL ks;omega
   rw[←hlen] at hcpt ⊢
   have HN:=hH (aN hm (aN hm5 hnM))
   have HLEN:=hH (aN hlen hcpt)
   have HK:=hH hk
   have HSS:=hH (aN hS hB)
   have HIH:=hH ih
   have HO:=hH (aN ho hxs)
   have HT:=hH hT
   have HD:=hH hd1
   have hdM:(d:Int)≤2000001:=by omega
   have hd0:(0:Int)≤(d:Int):=by omega
   have hnn:¬(M:Int)≤(n:Int):=by omega
   have hn5:n≤2000000:=by omega
   clear hlen hk hm hm5 hnM hS hB ih ho hxs hT hcpt hd1
   go_enter Tryz.func39,Tryz.ntmps39
   obtain⟨i0,z0,hi0,hz0,hz1,hz2,hz3⟩:=yw Tryz.zeR
   have hnew:((w.alloc (.cells #[.int .i64 id,.int .i64 kd,.string tx,.slice ka len cap] 27)).alloc (.cells #[.int .i64 id,.int .i64 kd,.string tx,.slice ka len cap,.int .i64 (d:Int)] 59)).heap[w.heap.size+1]? =some (.cells #[.int .i64 id,.int .i64 kd,.string tx,.slice ka len cap,.int .i64 (d:Int)] 59 (0,0)):=heap_alloc2_new w _ _
   have HNEW:=hH hnew
   have hBw:B≤w.heap.size:=HSS.out.2
   clear hnew
   go_wp2_with (at_builtin;refine wpList_append_lies _ rfl (.tmp 15) (.tmp 19) _ rfl B 59 i0 z0 5 64 Tryz.underlying56 hi0 hz0 hz1 hz2 hz3 om (.slice ra n rcap) n xs rfl ((HO.out.1.alloc _).alloc _) ⟨w.heap.size+1,0,none⟩ 1 1 [.int .i64 id,.int .i64 kd,.string tx,.slice ka len cap,.int .i64 (d:Int)] rfl rfl (World.news_of_block (cs:= #[.int .i64 id,.int .i64 kd,.string tx,.slice ka len cap,.int .i64 (d:Int)]) (t:=59) (fr:=(0,0)) HNEW.out) uf6 om uf7 om ug5 (w.heap.size+1+1) sp1 ?_;intro gg cap' w1 hown1 hgrow hat hlt1)
   have hg1:jD w w1 (.slice ra n rcap) (.slice (some ⟨gg,0,none⟩) (n+1) cap'):=jD.first hgrow hat
   have hsp0:qJ S w B (.slice ra n rcap) n T:=⟨HT.out,xs,HO.out⟩
   have hlow1:=hg1.zi7 hsp0 hBw
   have hsp1:qJ S w1 B (.slice (some ⟨gg,0,none⟩) (n+1) cap') (n+1) (T++[(d,(id,kd,tx),ks)]):=⟨by rw[LlaQ,HT.out];rfl,_,hown1,by
    have:=Jw (x:=(d,(id,kd,tx),ks)) (ka:=ka) (cap:=cap) HO.out.1.1 HT.out HO.out.2 (w':=w1) (fun k hk=>hlow1 k (HSS.out.1 k hk)) (by show foLen ks≤cap;rw[←HLEN.out.1];exact HLEN.out.2) (HK.out.kept fun x hx=>⟨hx,hlow1 x (HSS.out.1 x hx)⟩)
    simp only[←HLEN.out.1] at this
    exact this⟩
   have hob:∀g,(Value.slice ra n rcap).ownBlock=some g→g<w.heap.size:=fun g hg=>(zk HO.out.1 hg).2
   have hbox:w1.heap[w.heap.size]? =some (.cells #[.int .i64 id,.int .i64 kd,.string tx,.slice ka len cap] 27 (0,0)):=by
    exact sh0
   have HG:=hH (aN hg1 (aN hsp1 (aN hob hbox)))
   clear hg1 hsp1 hob hbox hgrow hown1 hat hsp0 hlow1
   go_loopw [0,9] (fun l i wr=>zfU S w B (.slice ra n rcap) n T (d,(id,kd,tx),ks) #[.int .i64 id,.int .i64 kd,.string tx,.slice ka len cap] ks len l i wr) (fun _ i _=>len - (intOf i).toNat)
   case atStart=>exact⟨0,NzlQ _,rfl,by simpa [zx,zb,spF] using HG.out.2.1,HG.out.1,HG.out.2.2.2⟩
   case round=>
    obtain⟨k,hk,rfl,hsp,hgr,hbx⟩:=hrel
    have p1:wr.cell? ⟨w.heap.size,3,none⟩=some (.slice ka len cap):=by rw[corQ wr _ 3 _ _ _ hbx];rfl
    have HR:=hH (aN hsp (aN hgr hbx))
    clear hsp hgr hbx
    by_cases hlt:k<len
    · have hlow:=HR.out.2.1.zi7 ⟨HT.out,xs,HO.out⟩ hBw
      have hk1:zt wr S ks ka:=HK.out.kept fun x hx=>⟨hx,hlow x (HSS.out.1 x hx)⟩
      obtain⟨b0,o0,⟨ki,kk,kt⟩,l',r,hd1',b,off,a1,n1,rfl,hSb,c0,c1,c2,c3,hcp,hl1⟩:=hk1.at k ue3
      obtain⟨_,_,_,_,_,e1,e2,hsz1,htk⟩:=zX k ks ue3
      rw[hd1'] at e1;cases e1
      have hfs:zb (zx k ks)+zb l'+1≤zb ks:=by have:=Jl (k+1) ks;rw[htk,kK] at this;exact this
      have hcall:=HIH.out wr S (.agg #[.int .i64 ki,.int .i64 kk,.string kt,.slice a1 (foLen l') n1]) ⟨ki,kk,kt,l'⟩ B u0 (n+1+zb (zx k ks)) (T++((d,(id,kd,tx),ks)::spF (d+1) (zx k ks))) (d+1) ud9 (by have:=HN.out.2.1;omega) (by have:=HN.out.2.2;simp only;omega) HSS.out.1 (NltQ hBw HR.out.2.1.1.size) ⟨a1,n1,rfl,hcp,hl1⟩ HR.out.1 (by have:=HD.out;omega)
      obtain⟨m1,hm1⟩:∃m,m=foLen l':=⟨_,rfl⟩
      rw[←hm1] at hcall c3
      simp only at c0 c1 c2
      have hcast:(((d+1:Nat)):Int)=(d:Int)+1:=by omega
      rw[hcast] at hcall
      have HC:=hH hcall
      have htk2:spF (d+1) (zx (k+1) ks)=spF (d+1) (zx k ks)++((d+1,(ki,kk,kt),l')::spF (d+1+1) l'):=by rw[htk,QF]
      have htk3:zb (zx (k+1) ks)=zb (zx k ks)+zb l'+1:=by rw[htk,kK]
      have HTK:=hH (aN htk2 htk3)
      have hkl:(k:Int)<(len:Int):=by omega
      clear hk1 hlow hd1' hcall hm1 htk htk2 htk3 hl1 hsz1 hSb e2 hcp hcast hfs
      go_wp2_with fail
      refine HC.out.mono ?_
      rintro e w2 ⟨l2,rfl,hsp2,hg2⟩
      have HE:=hH (aN hsp2 hg2)
      clear hsp2 hg2
      go_wp2_with fail
      have hne:some w.heap.size≠u0.ownBlock:=fun e=>by
       exact sg3
      refine⟨⟨k+1,by omega,by go_num,?_,HR.out.2.1.trans HE.out.2,(HE.out.2.1.block _ (lt_of_some HR.out.2.2) hne).trans HR.out.2.2⟩,by simp[intOf];omega⟩
      have h1:=HE.out.1
      simp only at h1 ⊢
      rw[HTK.out.1,HTK.out.2]
      have e3:T++((d,(id,kd,tx),ks)::spF (d+1) (zx k ks))++spT (d+1) ⟨ki,kk,kt,l'⟩=T++((d,(id,kd,tx),ks)::(spF (d+1) (zx k ks)++((d+1,(ki,kk,kt),l')::spF (d+1+1) l'))):=by simp[spT,List.append_assoc]
      rw[e3] at h1
      rw[show n+1+(zb (zx k ks)+zb l'+1)=n+1+zb (zx k ks)+(zb l'+1) by omega]
      exact h1
    · have hkk:k=len:=by omega
      have HKK:=hH hkk
      have hkl:¬(k:Int)<(len:Int):=by omega
      clear hkk
      go_wp2_with fail
      go_ret
      refine⟨_,rfl,?_,HR.out.2.1⟩
      have h:=HR.out.1
      rw[yT k ks (by rw[HKK.out,HLEN.out.1];exact NlrQ _)] at h
      show qJ S _ B _ (n+(zb ks+1)) (T++spT d ⟨id,kd,tx,ks⟩)
      rw[show n+(zb ks+1)=n+1+zb ks by omega]
      exact h
def zkt (w:World)(S:Nat→Prop)(t:Tr)(e:Ending)(w' :World):Prop:=∃a cap,e= .returned (.slice a (zb t.kids+1) cap)∧qJ S w' w.heap.size (.slice a (zb t.kids+1) cap) (zb t.kids+1) (spF 1 (zm t))∧Below w.heap.size w w'
theorem Ja (M:Nat)(hM:M≤2000000)(w:World)(S:Nat→Prop)(v:Value)(t:Tr)(hsz:zb t.kids+1≤M)(hsz5:zb t.kids+1≤1000000)(hS:∀k,S k→k<w.heap.size)(hv:zG w S v t):
 Calls Tryz.prog 18 #[v,.int .i64 (M:Int)] w (zkt w S t):=by
 obtain⟨ka,cap,rfl,hcp,hk⟩:=hv
 have hb:Below w.heap.size w (w.alloc (.cells #[.int .i64 t.id,.int .i64 t.kind,.string t.text,.slice ka (foLen t.kids) cap] 27)):=(BrQ _ _).alloc (NlrQ _) _
 have hc:=zff M hM _ (w.alloc (.cells #[.int .i64 t.id,.int .i64 t.kind,.string t.text,.slice ka (foLen t.kids) cap] 27)) S _ t w.heap.size (.slice none 0 0) 0 [] 1 (Nat.lt_succ_self _) hsz5 om hS hb.size ⟨ka,cap,rfl,hcp,hk.below hb hS⟩ ⟨rfl,[],World.ownsRow_nil _ _ _ _,fun i p hi=>by simp at hi⟩ om
 have HC:=hH (aN hc hb)
 clear hc hb hk hS hcp hsz hsz5
 obtain⟨len,hl⟩:∃len,len=foLen t.kids:=⟨_,rfl⟩
 rw[←hl] at HC
 rw[←hl]
 clear hl
 go_enter Tryz.func18,Tryz.ntmps18
 go_wp2_with fail
 refine HC.out.1.mono ?_
 rintro e w2 ⟨rv,rfl,hsp,hg⟩
 have hb2:Below w.heap.size w w2:=HC.out.2.trans ⟨hg.1.os,hg.1.tape,hg.1.output,hg.1.size,fun k hk=>hg.1.block k (by have:=HC.out.2.size;omega) (by simp[Value.ownBlock])⟩
 have hsp':=hsp
 obtain⟨hT,xs,ho,_⟩:=hsp
 obtain⟨a,cap',rfl⟩:=zy ho
 have HE:=hH (aN hsp' hb2)
 clear hsp' ho hg hT
 go_wp2_with fail
 go_ret
 have h:=HE.out.1
 rw[List.nil_append,zd3,Nat.zero_add] at h
 exact⟨_,_,rfl,h,HE.out.2⟩
end Go.Proofs.YtgkmmnihaiopaaaGreat
namespace Go.Proofs.YtgkmmnihaiopaaaGreat
open Go.RowKit Go.Shelf
theorem zfC:∀(f:Fo) {w:World} {S:Nat→Prop} {b off:Nat},zt w S f (some ⟨b,off,none⟩)→∃xs,yD w S f xs∧xs.length=foLen f*4∧(∀j u,xs[j]? =some u→w.cell? ⟨b,off+j,none⟩=some u)∧∀u∈xs,u.oneCell'=true
 | .nil,_,_,_,_,_=>⟨[],rfl,rfl,fun _ _ h=>by simp at h,fun _ h=>by cases h⟩
 | .node _ _ k l r,w,S,b,off,h=>by
   obtain⟨b',off',ka,kc,e,hb,c0,c1,c2,c3,hcp,hkl,hr⟩:=h
   cases e
   obtain⟨ys,h1,h2,h3,h4⟩:=zfC r hr
   exact sc5
theorem zdh (f:Fo){w:World}{S:Nat→Prop}{a:Option Addr}(h:zt w S f a):∃xs,yD w S f xs∧xs.length=foLen f*4∧(∀ad,a=some ad→∀j u,xs[j]? =some u→w.cell? (ad.add j)=some u)∧(∀u∈xs,u.oneCell'=true):=by
 cases f with
 | nil=>exact⟨[],rfl,rfl,fun _ _ _ _ h=>by simp at h,fun _ h=>by cases h⟩
 | node b0 o0 k l r=>
   have h':=h
   obtain⟨b',off',ka,kc,e,_⟩:=h'
   subst e
   obtain⟨xs,h1,h2,h3,h4⟩:=zfC _ h
   exact⟨xs,h1,h2,fun ad hd j u hu=>by cases hd;rw[Addr.add_mid];exact h3 j u hu,h4⟩
theorem zC {P:Program}{fn:Func}{p u:Tmp}{ty:TypeId}(h:fn.results= #[.cell p ty,.tmp u])(tmps:Array Value)(w:World)(g:Nat)(t:TypeId)(cs:Array Value)(fr:Nat×Nat)(d:TypeDesc)(x:Value)
 (hp:tmps.getD p undef= .pointer (some ⟨g,0,none⟩)) (hg:w.heap[g]? =some (.cells cs t fr)) (hu:P.underlying ty=some d) (hd:(match d with | .struct _ | .array _ _=>true | _=>false)=true) (hi:(P.info? ty).map (·.size)=some cs.size) (hp2:tmps.getD u undef=x):
 (results fn tmps).run P w= .ok (.tuple #[.agg cs,x]) w:=by
 exact sg4
theorem QU {V:World}{R1:Nat}{c0 c1 c2 c3 u0 u1 u2 u3:Value}(h2:V.heap[R1]? =some (.cells #[c0,c1,c2,c3] 27 (0,0))):
 ∃V5,V5=((((V.setCell ⟨R1,0,none⟩ u0).setCell ⟨R1,1,none⟩ u1).setCell ⟨R1,2,none⟩ u2).setCell ⟨R1,3,none⟩ u3)∧V5.heap[R1]? =some (.cells #[u0,u1,u2,u3] 27 (0,0))∧(∀y,y≠R1→V5.heap[y]? =V.heap[y]?)∧V5.os=V.os∧V5.tape=V.tape∧V5.output=V.output∧V5.heap.size=V.heap.size:=by
 exact sd8
def YF (w w' :World):Nat→Prop:=fun x=>w.heap.size≤x∧x<w'.heap.size
def zhc (t:Tr)(w:World)(e:Ending)(w' :World):Prop:=∃v,e= .returned v∧zG w' (YF w w') v t∧Below w.heap.size w w'
def YL (t:Tr)(w:World)(e:Ending)(w' :World):Prop:=∃ra rc xs,e= .returned (.agg #[.int .i64 t.id,.int .i64 t.kind,.string t.text,.slice ra (foLen t.kids) rc])∧foLen t.kids≤rc∧w'.ownsRow w.heap.size 27 4 (.slice ra (foLen t.kids) rc) (foLen t.kids) xs∧yD w' (fun x=>YF w w' x∧(Value.slice ra (foLen t.kids) rc).ownBlock≠some x) t.kids xs∧Below w.heap.size w w'
theorem zcj {w' :World}{B n rc:Nat}{S:Nat→Prop}{ra:Option Addr}{ks:Fo}{xs:List Value}(hn:n=foLen ks)(h:w'.ownsRow B 27 4 (.slice ra n rc) n xs)(hr:yD w' S ks xs)(hg:∀x,(Value.slice ra n rc).ownBlock=some x→S x):zt w' S ks ra:=by
 cases hks:ks with
 | nil=>exact True.intro
 | node b o a l r=>
   rw[←hks]
   have hgg:∃g,ra=some ⟨g,0,none⟩:=by
    rcases h.2 with ⟨hv,h0⟩ | ⟨g,cap,cur,hv,_⟩
    · rw[hn,hks] at h0;simp[foLen] at h0
    · cases hv;exact⟨g,rfl⟩
   obtain⟨g,rfl⟩:=hgg
   refine hr.lies (hg g rfl) 0 fun j u hj=>?_
   rw[Nat.zero_add]
   exact zF h rfl j u hj
theorem YL.weak {t:Tr}{w:World}{e:Ending}{w' :World}(h:YL t w e w'):zhc t w e w':=by
 obtain⟨ra,rc,xs,rfl,hrc,ho,hr,hb⟩:=h
 exact⟨_,rfl,⟨ra,rc,rfl,hrc,zcj rfl ho (hr.kept fun x hx=>⟨hx.1,rfl⟩) (fun x hx=>zk ho hx)⟩,hb⟩
theorem yF {w:World}{b:Nat}{t:TypeId}{c0 c1 c2 c3:Value}(h:w.heap[b]? =some (.cells #[c0,c1,c2,c3] t (0,0)))(u0 u1 u2 u3:Value):
 ((((w.setCell ⟨b,0,none⟩ u0).setCell ⟨b,1,none⟩ u1).setCell ⟨b,2,none⟩ u2).setCell ⟨b,3,none⟩ u3).heap[b]? =some (.cells #[u0,u1,u2,u3] t (0,0))∧
 (∀B,B≤b→Below B w ((((w.setCell ⟨b,0,none⟩ u0).setCell ⟨b,1,none⟩ u1).setCell ⟨b,2,none⟩ u2).setCell ⟨b,3,none⟩ u3))∧
 ∀x,x≠b→((((w.setCell ⟨b,0,none⟩ u0).setCell ⟨b,1,none⟩ u1).setCell ⟨b,2,none⟩ u2).setCell ⟨b,3,none⟩ u3).heap[x]? =w.heap[x]?:=by
 have h0:=hssQ w b 0 _ _ u0 h
 have h1:=hssQ _ b 1 _ _ u1 h0
 have h2:=hssQ _ b 2 _ _ u2 h1
 have h3:=hssQ _ b 3 _ _ u3 h2
 exact⟨h3,fun B hB=>((((BrQ _ _).setCell hB _).setCell hB _).setCell hB _).setCell hB _,fun x hx=>by
  rw[BhsQ _ _ _ _ hx,BhsQ _ _ _ _ hx,BhsQ _ _ _ _ hx,BhsQ _ _ _ _ hx]⟩
theorem jd {w:World}{B:Nat}{e:TypeId}{size:Nat}{v:Value}{n:Nat}{xs:List Value}(h:w.ownsRow B e size v n xs):∃a cap,v= .slice a n cap∧n≤cap:=by
 rcases h.2 with ⟨hv,h0⟩ | ⟨g',cap,cur,hv,_,_,hc,_⟩
 · exact⟨none,0,by rw[hv,h0],by omega⟩
 · exact⟨_,_,hv,hc⟩
def zhf (w wr:World)(rv:Value):Nat→Prop:=fun x=>w.heap.size+3≤x∧x<wr.heap.size∧rv.ownBlock≠some x
def zT (w:World)(c1:Array Value)(id kd:Int)(tx:ByteArray)(ks:Fo)(k:Nat)(rv:Value)(xs:List Value)(wr:World):Prop:=
 wr.heap[w.heap.size]? =some (.cells c1 27 (0,0))∧wr.heap[w.heap.size+1]? =some (.cells #[.int .i64 0,.int .i64 0,.string ⟨#[]⟩,.slice none 0 0] 27 (0,0))∧
 wr.heap[w.heap.size+1+1]? =some (.cells #[.int .i64 id,.int .i64 kd,.string tx,rv] 27 (0,0))∧Below w.heap.size w wr∧
 wr.ownsRow (w.heap.size+3) 27 4 rv k xs∧yD wr (zhf w wr rv) (zx k ks) xs
def zek (w:World)(c1:Array Value)(id kd:Int)(tx:ByteArray)(ks:Fo)(len:Nat)(i:Value)(wr:World):Prop:=
 ∃k rv xs,k≤len∧i= .int .i64 k∧zT w c1 id kd tx ks k rv xs wr
section
variable {w wr w2:World} {c1:Array Value} {id kd:Int} {tx:ByteArray} {ks:Fo} {k:Nat} {rv:Value} {xs:List Value}
theorem zT.start (w:World)(c1:Array Value)(id kd:Int)(tx:ByteArray)(ks:Fo):zT w c1 id kd tx ks 0 (.slice none 0 0) []
 (((w.alloc (.cells c1 27)).alloc (.cells #[.int .i64 0,.int .i64 0,.string ⟨#[]⟩,.slice none 0 0] 27)).alloc (.cells #[.int .i64 id,.int .i64 kd,.string tx,.slice none 0 0] 27)):=by
 refine⟨?_,?_,?_,?_,World.ownsRow_nil _ _ _ _,rfl⟩
 · rw[BhaQ _ _ _ ug5,BhaQ _ _ _ sp1];exact hanQ w _
 · rw[BhaQ _ _ _ sp1]
   have:=hanQ (w.alloc (.cells c1 27)) (.cells #[.int .i64 0,.int .i64 0,.string ⟨#[]⟩,.slice none 0 0] 27)
   simpa using this
 · have:=hanQ ((w.alloc (.cells c1 27)).alloc (.cells #[.int .i64 0,.int .i64 0,.string ⟨#[]⟩,.slice none 0 0] 27)) (.cells #[.int .i64 id,.int .i64 kd,.string tx,.slice none 0 0] 27)
   simpa using this
 · exact (((BrQ _ _).alloc (NlrQ _) _).alloc sp1 _).alloc ug5 _
theorem zT.size (h:zT w c1 id kd tx ks k rv xs wr):w.heap.size+1+1<wr.heap.size:=lt_of_some h.2.2.1
theorem zT.below (h:zT w c1 id kd tx ks k rv xs wr)(hb:Below wr.heap.size wr w2):zT w c1 id kd tx ks k rv xs w2:=by
 have hs:=h.size
 obtain⟨h0,h1,h2,h3,h4,h5⟩:=h
 refine⟨(hb.block _ om).trans h0,(hb.block _ om).trans h1,(hb.block _ om).trans h2,h3.trans (hb.mono om),zH h4 (fun g cur hg _=>hb.block g (lt_of_some hg)),h5.kept fun x hx=>⟨⟨hx.1,nL hx.2.1 hb.size,hx.2.2⟩,hb.block x hx.2.1⟩⟩
theorem zT.kid (h:zT w c1 id kd tx ks k rv xs wr){l:Fo}{ka:Option Addr}(hf:zt w2 (YF wr w2) l ka):zt w2 (zhf w w2 rv) l ka:=hf.kept fun x hx=>by
 have hs:=h.size
 refine⟨⟨by have:=hx.1;omega,hx.2,fun e=>?_⟩,rfl⟩
 have:=(zk h.2.2.2.2.1 e).2
 have:=hx.1
 omega
theorem zT.step {w1:World}{o1 o2:Obj}{b o:Nat}{ki kk:Int}{kt:ByteArray}{l:Fo}{ka:Option Addr}{kc gg cap:Nat}(hkc:foLen l≤kc)(h:zT w c1 id kd tx ks k rv xs w2)(hl:zt w2 (zhf w w2 rv) l ka)(ht:zx (k+1) ks=qA (zx k ks) b o (ki,kk,kt) l)
 (hown:w1.ownsRow (w.heap.size+3) 27 4 (.slice (some ⟨gg,0,none⟩) (k+1) cap) (k+1) (xs++[.int .i64 ki,.int .i64 kk,.string kt,.slice ka (foLen l) kc]))
 (hgrow:((w2.alloc o1).alloc o2).grownBy w1 rv.ownBlock) (hat:rv.ownBlock=some gg∨gg=w2.heap.size+1+1):
 zT w c1 id kd tx ks (k+1) (.slice (some ⟨gg,0,none⟩) (k+1) cap) (xs++[.int .i64 ki,.int .i64 kk,.string kt,.slice ka (foLen l) kc]) (w1.setCell ⟨w.heap.size+1+1,3,none⟩ (.slice (some ⟨gg,0,none⟩) (k+1) cap)):=by
 have hs:=h.size
 obtain⟨h0,h1,h2,h3,h4,h5⟩:=h
 have hob:∀g,rv.ownBlock=some g→w.heap.size+3≤g∧g<w2.heap.size:=fun g hg=>zk h4 hg
 have old:∀x,x<w2.heap.size→rv.ownBlock≠some x→w1.heap[x]? =w2.heap[x]?:=fun x hx hn=>by
  rw[hgrow.block x ug5 (fun e=>hn e.symm),BhaQ _ _ _ ug5,BhaQ _ _ _ hx]
 have nob:∀x,x<w.heap.size+3→rv.ownBlock≠some x:=fun x hx e=>by have:=(hob x e).1;omega
 have hgs:w2.heap.size≤w1.heap.size:=by have:=hgrow.size;simp at this;omega
 have hgg:gg≠w.heap.size+1+1:=fun e=>by
  rcases hat with hat | hat
  · have:=(hob gg hat).1;omega
  · omega
 have hout:w1.heap[w.heap.size+1+1]? =some (.cells #[.int .i64 id,.int .i64 kd,.string tx,rv] 27 (0,0)):=(old _ hs (nob _ om)).trans h2
 have keep:∀x,x<w2.heap.size→rv.ownBlock≠some x→x≠w.heap.size+1+1→(w1.setCell ⟨w.heap.size+1+1,3,none⟩ (.slice (some ⟨gg,0,none⟩) (k+1) cap)).heap[x]? =w2.heap[x]?:=fun x hx hn hne=>by
  rw[BhsQ _ _ _ _ hne];exact old x hx hn
 have hmid:∀x,zhf w w2 rv x→zhf w (w1.setCell ⟨w.heap.size+1+1,3,none⟩ (.slice (some ⟨gg,0,none⟩) (k+1) cap)) (.slice (some ⟨gg,0,none⟩) (k+1) cap) x∧(w1.setCell ⟨w.heap.size+1+1,3,none⟩ (.slice (some ⟨gg,0,none⟩) (k+1) cap)).heap[x]? =w2.heap[x]?:=fun x hx=>by
  exact sf4
 refine⟨(keep _ om (nob _ om) om).trans h0,(keep _ om (nob _ om) om).trans h1,?_,?_,?_,?_⟩
 · rw[hssQ w1 _ 3 _ _ _ hout];rfl
 · have hB:Below w.heap.size w ((w2.alloc o1).alloc o2):=(h3.alloc om _).alloc ug5 _
   exact (hB.grown hgrow ug5 (fun g hg=>by have:=(hob g hg).1;omega)).setCell ug5 _
 · exact zH hown (fun g cur hg hgo=>BhsQ _ _ _ _ (fun e=>hgg (by cases hgo;exact e)))
 · rw[ht]
   exact (h5.kept hmid).snoc (hl.kept hmid) kc hkc
theorem zT.done {w' :World}{ra:Option Addr}{rcap:Nat}(h:zT w c1 id kd tx ks k (.slice ra k rcap) xs wr)(hk:k=foLen ks)(hrc:k≤rcap)(hb:Below w.heap.size wr w')(ho:∀x,x≠w.heap.size+1→w'.heap[x]? =wr.heap[x]?):
 YL ⟨id,kd,tx,ks⟩ w (.returned (.agg #[.int .i64 id,.int .i64 kd,.string tx,.slice ra k rcap])) w':=by
 obtain⟨_,_,_,h3,h4,h5⟩:=h
 rw[yT k ks om] at h5
 refine⟨ra,rcap,xs,by rw[←hk],by simp only;rw[←hk];exact hrc,?_,?_,h3.trans hb⟩
 · simp only;rw[←hk]
   have h6:=zH (w':=w') h4 (fun g cur hg hgo=>ho g (by have:=(zk h4 hgo).1;omega))
   exact⟨h6.1,h6.2.imp (fun h=>h) (fun ⟨g,cap,cur,e1,e2,e3⟩=>⟨g,cap,cur,e1,by omega,e3⟩)⟩
 · simp only;rw[←hk]
   exact h5.kept fun x hx=>⟨⟨⟨by have:=hx.1;omega,nL hx.2.1 hb.size⟩,hx.2.2⟩,ho x (by have:=hx.1;omega)⟩
end
theorem ZE:∀(n:Nat) (w:World) (S:Nat→Prop) (v:Value) (t:Tr),zb t.kids<n→zb t.kids≤1000000→(∀k,S k→k<w.heap.size)→zG w S v t→
 Calls Tryz.prog 37 #[v] w (YL t w):=by
 intro n
 induction n with
 | zero=>intro w S v t h;omega
 | succ n ih=>
   intro w S v t hn hm hS hv
   obtain⟨ka,cap,rfl,hcp0,hk⟩:=hv
   obtain⟨id,kd,tx,ks⟩:=t
   simp only at hk hn hm
   simp only
   obtain⟨len,hlen⟩:∃len,len=foLen ks:=⟨_,rfl⟩
   rw[←hlen]
   have hlen6:len≤1000000:=by rw[hlen];exact NltQ (zL ks) hm
   have HN:=hH (aN hn hm)
   have HLEN:=hH hlen
   have HK:=hH hk
   clear hcp0
   have HSS:=hH hS
   have HIH:=hH ih
   clear hlen hk hn hm hS ih
   go_enter Tryz.func37,Tryz.ntmps37
   go_wp2_with fail
   go_loopw [4] (fun i wr=>zek w #[.int .i64 id,.int .i64 kd,.string tx,.slice ka len cap] id kd tx ks len i wr) (fun i _=>len - (intOf i).toNat)
   case atStart=>exact⟨0,_,_,NzlQ _,rfl,zT.start _ _ _ _ _ _⟩
   case round=>
    obtain⟨k,rv,xs,hk,rfl,hinv⟩:=hrel
    have p1:wr.cell? ⟨w.heap.size,3,none⟩=some (.slice ka len cap):=by rw[corQ wr _ 3 _ _ _ hinv.1];rfl
    have HI:=hH hinv
    clear hinv
    by_cases hlt:k<len
    · have hk1:=HK.out.below HI.out.2.2.2.1 HSS.out
      obtain⟨b0,o0,⟨ki,kk,kt⟩,l,r,hd1,b,off,a1,n1,rfl,hSb,c0,c1,c2,c3,hcp1,hl1⟩:=hk1.at k ue9
      obtain⟨_,_,_,_,_,e1,e2,hsz1,htk⟩:=zX k ks ue9
      rw[hd1] at e1;cases e1
      have hcall:=HIH.out wr S (.agg #[.int .i64 ki,.int .i64 kk,.string kt,.slice a1 (foLen l) n1]) ⟨ki,kk,kt,l⟩ ud9 (by have:=HN.out.2;simp only;omega) (fun x hx=>nL (HSS.out x hx) HI.out.2.2.2.1.size) ⟨a1,n1,rfl,hcp1,hl1⟩
      obtain⟨m1,hm1⟩:∃m,m=foLen l:=⟨_,rfl⟩
      rw[←hm1] at hcall c3
      simp only at c0 c1 c2
      have HC:=hH hcall
      have HM1:=hH hm1
      have HTK:=hH htk
      have hkl:(k:Int)<(len:Int):=by omega
      clear hk1 hd1 hcall hm1 htk hl1 hsz1 hSb e2 hcp1
      go_wp2_with fail
      refine (HC.out.mono fun _ _ h=>YL.weak h).mono ?_
      rintro e w2 ⟨_,rfl,⟨ka2,cap2,rfl,hcp2,hf2⟩,hb2⟩
      have hi2:=HI.out.below hb2
      have hkid:=HI.out.kid hf2
      have hs2:=hi2.size
      have ho:=hi2.2.2.2.2.1
      simp only
      rw[←HM1.out]
      have d3:w2.cell? ⟨w.heap.size+1+1,3,none⟩=some rv:=by rw[corQ w2 _ 3 _ _ _ hi2.2.2.1];rfl
      have f3:w2.frozen? ⟨w.heap.size+1+1,3,none⟩=false:=forQ w2 _ 3 _ _ hi2.2.2.1
      obtain⟨i0,z0,hi0,hz0,hz1,hz2,hz3⟩:=yw Tryz.Qp
      have hnew:(((w2.alloc (.cells #[.int .i64 ki,.int .i64 kk,.string kt,.slice ka2 m1 cap2] 27)).alloc (.cells #[.int .i64 ki,.int .i64 kk,.string kt,.slice ka2 m1 cap2] 27)).heap[w2.heap.size+1]? =some (.cells #[.int .i64 ki,.int .i64 kk,.string kt,.slice ka2 m1 cap2] 27 (0,0))):=by
       exact sf9
      have HNEW:=hH hnew
      clear hnew
      have hB:w.heap.size+3≤w2.heap.size:=hs2
      have hstep:=fun w1 gg cap' h1 h2 h3=>hi2.step (hkc:=hcp2) (w1:=w1) (gg:=gg) (cap:=cap') (kc:=cap2) (o1:= .cells #[.int .i64 ki,.int .i64 kk,.string kt,.slice ka2 m1 cap2] 27) (o2:= .cells #[.int .i64 ki,.int .i64 kk,.string kt,.slice ka2 m1 cap2] 27) hkid HTK.out h1 h2 h3
      rw[←HM1.out] at hstep
      have HST:=hH hstep
      have hne:rv.ownBlock≠some (w.heap.size+1+1):=fun e=>by have:=(zk ho e).1;omega
      have hlt2:(⟨w.heap.size+1+1,3,none⟩:Addr).block<((w2.alloc (.cells #[.int .i64 ki,.int .i64 kk,.string kt,.slice ka2 m1 cap2] 27)).alloc (.cells #[.int .i64 ki,.int .i64 kk,.string kt,.slice ka2 m1 cap2] 27)).heap.size:=by simp;omega
      have hheap:((w2.alloc (.cells #[.int .i64 ki,.int .i64 kk,.string kt,.slice ka2 m1 cap2] 27)).alloc (.cells #[.int .i64 ki,.int .i64 kk,.string kt,.slice ka2 m1 cap2] 27)).heap[w.heap.size+1+1]? =w2.heap[w.heap.size+1+1]?:=by rw[BhaQ _ _ _ ug5,BhaQ _ _ _ hs2]
      have HAUX:=hH (aN hne (aN hlt2 (aN ((World.cell?_of_block (a:=⟨w.heap.size+1+1,3,none⟩) hheap).trans d3) ((World.frozen?_of_block (a:=⟨w.heap.size+1+1,3,none⟩) hheap).trans f3))))
      clear hi2 hkid hf2 hb2 hstep hne hlt2 hheap f3 hcp2
      go_wp2_with (at_builtin;refine wpList_append_lies _ rfl (.tmp 27) (.tmp 29) _ rfl (w.heap.size+3) 27 i0 z0 4 56 Tryz.underlying25 hi0 hz0 hz1 hz2 hz3 om rv k xs rfl ((ho.alloc _).alloc _) ⟨w2.heap.size+1,0,none⟩ 1 1 [.int .i64 ki,.int .i64 kk,.string kt,.slice ka2 m1 cap2] rfl rfl (World.news_of_block (cs:= #[.int .i64 ki,.int .i64 kk,.string kt,.slice ka2 m1 cap2]) (t:=27) (fr:=(0,0)) HNEW.out) uf6 om uf7 om ug5 (w2.heap.size+1+1) sp1 ?_;intro gg cap' w1 hown1 hgrow hat hlt1;have c1w:=(hgrow.cell_far _ HAUX.out.2.1 (Ne.symm HAUX.out.1)).trans HAUX.out.2.2.1;have f1w:=(hgrow.frozen_far _ HAUX.out.2.1 (Ne.symm HAUX.out.1)).trans HAUX.out.2.2.2)
      exact⟨⟨k+1,_,_,by omega,by go_num,HST.out _ _ _ hown1 hgrow hat⟩,by simp[intOf];omega⟩
    · have hkk:k=len:=by omega
      have hi:=HI.out
      obtain⟨ra,rcap,rfl,hrc⟩:=jd hi.2.2.2.2.1
      have HRC:=hH hrc
      clear hrc
      have q0:wr.cell? ⟨w.heap.size+1+1,0,none⟩=some (.int .i64 id):=by rw[corQ wr _ 0 _ _ _ hi.2.2.1];rfl
      have q1:wr.cell? ⟨w.heap.size+1+1,1,none⟩=some (.int .i64 kd):=by rw[corQ wr _ 1 _ _ _ hi.2.2.1];rfl
      have q2:wr.cell? ⟨w.heap.size+1+1,2,none⟩=some (.string tx):=by rw[corQ wr _ 2 _ _ _ hi.2.2.1];rfl
      have q3:wr.cell? ⟨w.heap.size+1+1,3,none⟩=some (.slice ra k rcap):=by rw[corQ wr _ 3 _ _ _ hi.2.2.1];rfl
      have z0:wr.cell? ⟨w.heap.size+1,0,none⟩=some (.int .i64 0):=by rw[corQ wr _ 0 _ _ _ hi.2.1];rfl
      have z1:wr.cell? ⟨w.heap.size+1,1,none⟩=some (.int .i64 0):=by rw[corQ wr _ 1 _ _ _ hi.2.1];rfl
      have z2:wr.cell? ⟨w.heap.size+1,2,none⟩=some (.string ⟨#[]⟩):=by rw[corQ wr _ 2 _ _ _ hi.2.1];rfl
      have z3:wr.cell? ⟨w.heap.size+1,3,none⟩=some (.slice none 0 0):=by rw[corQ wr _ 3 _ _ _ hi.2.1];rfl
      have g0:=forQ wr _ 0 _ _ hi.2.1
      have g1:=forQ wr _ 1 _ _ hi.2.1
      have g2:=forQ wr _ 2 _ _ hi.2.1
      have g3:=forQ wr _ 3 _ _ hi.2.1
      clear hi
      have HLK:Hid (k=foLen ks):=show k=foLen ks by rw[hkk,HLEN.out]
      clear hkk
      go_wp2_with fail
      have hz:=yF HI.out.2.1 (.int .i64 id) (.int .i64 kd) (.string tx) (.slice ra k rcap)
      refine brQ (results_cell_row rfl _ _ (w.heap.size+1) 27 _ (0,0) _ rfl hz.1 Tryz.underlying27 rfl kr1) rfl ?_
      exact HI.out.done HLK.out HRC.out (hz.2.1 _ om) hz.2.2
theorem zgF (n:Nat)(w:World)(S:Nat→Prop)(v:Value)(t:Tr)(h1:zb t.kids<n)(h2:zb t.kids≤1000000)(h3:∀k,S k→k<w.heap.size)(h4:zG w S v t):Calls Tryz.prog 37 #[v] w (zhc t w):=
 (ZE n w S v t h1 h2 h3 h4).mono fun _ _ h=>h.weak
end Go.Proofs.YtgkmmnihaiopaaaGreat
namespace Go.Proofs.YtgkmmnihaiopaaaGreat
open Go.RowKit Go.Shelf
def zg5 (w wr:World)(rv:Value):Nat→Prop:=fun x=>w.heap.size+1≤x∧x<wr.heap.size∧rv.ownBlock≠some x
def qf (w:World)(id kd:Int)(tx:ByteArray)(ks:Fo)(k:Nat)(rv:Value)(xs:List Value)(wr:World):Prop:=
 wr.heap[w.heap.size]? =some (.cells #[.int .i64 id,.int .i64 kd,.string tx,rv] 27 (0,0))∧Below w.heap.size w wr∧
 wr.ownsRow (w.heap.size+1) 27 4 rv k xs∧yD wr (zg5 w wr rv) (zx k ks) xs
section
variable {w wr w2:World} {id kd:Int} {tx:ByteArray} {ks:Fo} {k:Nat} {rv:Value} {xs:List Value}
theorem qf.start (w:World)(id kd:Int)(tx:ByteArray)(ks:Fo):qf w id kd tx ks 0 (.slice none 0 0) [] (w.alloc (.cells #[.int .i64 id,.int .i64 kd,.string tx,.slice none 0 0] 27)):=
 ⟨hanQ w _,(BrQ _ _).alloc (NlrQ _) _,World.ownsRow_nil _ _ _ _,rfl⟩
theorem qf.size (h:qf w id kd tx ks k rv xs wr):w.heap.size<wr.heap.size:=lt_of_some h.1
theorem qf.below (h:qf w id kd tx ks k rv xs wr)(hb:Below wr.heap.size wr w2):qf w id kd tx ks k rv xs w2:=by
 have hs:=h.size
 obtain⟨h2,h3,h4,h5⟩:=h
 refine⟨(hb.block _ om).trans h2,h3.trans (hb.mono om),zH h4 (fun g cur hg _=>hb.block g (lt_of_some hg)),h5.kept fun x hx=>⟨⟨hx.1,nL hx.2.1 hb.size,hx.2.2⟩,hb.block x hx.2.1⟩⟩
theorem qf.kid (h:qf w id kd tx ks k rv xs wr){l:Fo}{ka:Option Addr}(hf:zt w2 (YF wr w2) l ka):zt w2 (zg5 w w2 rv) l ka:=hf.kept fun x hx=>by
 have hs:=h.size
 refine⟨⟨by have:=hx.1;omega,hx.2,fun e=>?_⟩,rfl⟩
 have:=(zk h.2.2.1 e).2
 have:=hx.1
 omega
theorem qf.step {w1:World}{o1 o2:Obj}{b o:Nat}{ki kk:Int}{kt:ByteArray}{l:Fo}{ka:Option Addr}{kc gg cap:Nat}(hkc:foLen l≤kc)(h:qf w id kd tx ks k rv xs w2)(hl:zt w2 (zg5 w w2 rv) l ka)(ht:zx (k+1) ks=qA (zx k ks) b o (ki,kk,kt) l)
 (hown:w1.ownsRow (w.heap.size+1) 27 4 (.slice (some ⟨gg,0,none⟩) (k+1) cap) (k+1) (xs++[.int .i64 ki,.int .i64 kk,.string kt,.slice ka (foLen l) kc]))
 (hgrow:((w2.alloc o1).alloc o2).grownBy w1 rv.ownBlock) (hat:rv.ownBlock=some gg∨gg=w2.heap.size+1+1):
 qf w id kd tx ks (k+1) (.slice (some ⟨gg,0,none⟩) (k+1) cap) (xs++[.int .i64 ki,.int .i64 kk,.string kt,.slice ka (foLen l) kc]) (w1.setCell ⟨w.heap.size,3,none⟩ (.slice (some ⟨gg,0,none⟩) (k+1) cap)):=by
 have hs:=h.size
 obtain⟨h2,h3,h4,h5⟩:=h
 have hob:∀g,rv.ownBlock=some g→w.heap.size+1≤g∧g<w2.heap.size:=fun g hg=>zk h4 hg
 have old:∀x,x<w2.heap.size→rv.ownBlock≠some x→w1.heap[x]? =w2.heap[x]?:=fun x hx hn=>by
  rw[hgrow.block x ug5 (fun e=>hn e.symm),BhaQ _ _ _ ug5,BhaQ _ _ _ hx]
 have nob:∀x,x<w.heap.size+1→rv.ownBlock≠some x:=fun x hx e=>by have:=(hob x e).1;omega
 have hgs:w2.heap.size≤w1.heap.size:=by have:=hgrow.size;simp at this;omega
 have hgg:gg≠w.heap.size:=fun e=>by
  rcases hat with hat | hat
  · have:=(hob gg hat).1;omega
  · omega
 have hout:w1.heap[w.heap.size]? =some (.cells #[.int .i64 id,.int .i64 kd,.string tx,rv] 27 (0,0)):=(old _ hs (nob _ om)).trans h2
 have keep:∀x,x<w2.heap.size→rv.ownBlock≠some x→x≠w.heap.size→(w1.setCell ⟨w.heap.size,3,none⟩ (.slice (some ⟨gg,0,none⟩) (k+1) cap)).heap[x]? =w2.heap[x]?:=fun x hx hn hne=>by
  rw[BhsQ _ _ _ _ hne];exact old x hx hn
 have hmid:∀x,zg5 w w2 rv x→zg5 w (w1.setCell ⟨w.heap.size,3,none⟩ (.slice (some ⟨gg,0,none⟩) (k+1) cap)) (.slice (some ⟨gg,0,none⟩) (k+1) cap) x∧(w1.setCell ⟨w.heap.size,3,none⟩ (.slice (some ⟨gg,0,none⟩) (k+1) cap)).heap[x]? =w2.heap[x]?:=fun x hx=>by
  exact sf4
 refine⟨?_,?_,?_,?_⟩
 · rw[hssQ w1 _ 3 _ _ _ hout];rfl
 · have hB:Below w.heap.size w ((w2.alloc o1).alloc o2):=(h3.alloc om _).alloc (by simp<;>omega) _
   exact (hB.grown hgrow (by simp<;>omega) (fun g hg=>by have:=(hob g hg).1;omega)).setCell (by simp<;>omega) _
 · exact zH hown (fun g cur hg hgo=>BhsQ _ _ _ _ (fun e=>hgg (by cases hgo;exact e)))
 · rw[ht]
   exact (h5.kept hmid).snoc (hl.kept hmid) kc hkc
theorem qf.done {ra:Option Addr}{n rcap:Nat}(h:qf w id kd tx ks k (.slice ra n rcap) xs wr)(hk:k=foLen ks)(hn:n=k)(hrc:n≤rcap):zt wr (fun x=>w.heap.size+1≤x∧x<wr.heap.size) ks ra:=by
 obtain⟨_,_,h4,h5⟩:=h
 rw[yT k ks om] at h5
 subst hn
 exact zcj hk h4 (h5.kept fun x hx=>⟨⟨hx.1,hx.2.1⟩,rfl⟩) (fun x hx=>zk h4 hx)
end
end Go.Proofs.YtgkmmnihaiopaaaGreat
namespace Go.Proofs.YtgkmmnihaiopaaaGreat
open Go.RowKit Go.Shelf
theorem Y7:∀(d:Nat) (f:Fo),∀x∈spF d f,x.1+1≤d+zb f
 | d,.nil,x,h=>by cases h
 | d, .node b o k l r,x,h=>by
   rw[spF] at h
   simp only[zb]
   rcases List.mem_cons.1 h with rfl | h
   · simp only;omega
   · rcases List.mem_append.1 h with h | h
     · have:=Y7 (d+1) l x h;omega
     · have:=Y7 d r x h;omega
theorem zdo (w:World)(S:Nat→Prop)(v:Value)(t:Tr)(hsz:zb t.kids+1≤2000)(hS:∀k,S k→k<w.heap.size)(hv:zG w S v t):
 Calls Tryz.prog 28 #[v] w fun e w'=>e= .returned (.bool false)∧Below w.heap.size w w':=by
 obtain⟨ka,cap,rfl,hcap,hk⟩:=hv
 obtain⟨len,hlen⟩:∃len,len=foLen t.kids:=⟨_,rfl⟩
 obtain⟨B,hB⟩:∃B,B=w.alloc (.cells #[.int .i64 t.id,.int .i64 t.kind,.string t.text,.slice ka len cap] 27):=⟨_,rfl⟩
 have hb:Below w.heap.size w B:=by rw[hB];exact (BrQ _ _).alloc (NlrQ _) _
 have hc:=Ja 2001 om B S (.agg #[.int .i64 t.id,.int .i64 t.kind,.string t.text,.slice ka len cap]) t om om (fun q hq=>nL (hS q hq) hb.size) ⟨ka,cap,by rw[hlen],hcap,hk.below hb hS⟩
 have HC:=hH (aN hc hb)
 have HBE:=hH hB
 have HZ:=hH hsz
 rw[←hlen]
 clear hc hb hB hsz hS hk hcap hlen
 go_enter Tryz.func28,Tryz.ntmps28
 go_wp2_with fail
 rw[←HBE.out]
 clear HBE
 refine HC.out.1.mono ?_
 rintro e w2 ⟨a,cap',rfl,hsp,hb2⟩
 obtain⟨T,hT⟩:∃T,T=spF 1 (zm t):=⟨_,rfl⟩
 have hd:∀x∈T,x.1≤2000:=fun x hx=>by
  have h1:=Y7 1 (zm t) x (by rw[←hT];exact hx)
  have h2:=HZ.out
  simp only[zm,zb] at h1
  omega
 rw[←hT] at hsp
 obtain⟨n,hn⟩:∃n,n=zb t.kids+1:=⟨_,rfl⟩
 rw[←hn] at hsp ⊢
 have hn2:¬(2000:Int)<(n:Int):=by rw[hn];have:=HZ.out;omega
 have HT:=hH (aN hsp (aN (HC.out.2.trans (hb2.mono HC.out.2.size)) hd))
 clear hsp hb2 hT HC hn hd
 go_wp2_with fail
 go_loop [4] (fun i=>∃k:Nat,k≤n∧i= .int .i64 k) (fun i=>n - (intOf i).toNat)
 case atStart=>exact⟨0,NzlQ _,rfl⟩
 case round=>
  obtain⟨k,hk,rfl⟩:=hrel
  by_cases hlt:k<n
  · obtain⟨hTl,xs,ho,hx⟩:=HT.out.1
    obtain⟨x,hxk⟩:∃x,T[k]? =some x:=⟨_,List.getElem?_eq_getElem (by rw[hTl];exact hlt)⟩
    obtain⟨_,_,_,_,hz⟩:=hx k x hxk
    have hgg:∃g,a=some ⟨g,0,none⟩:=by
     exact se8
    obtain⟨g,rfl⟩:=hgg
    have c4:w2.cell? ⟨g,k*5+4,none⟩=some (.int .i64 (x.1:Int)):=zF ho rfl _ _ hz
    have hkl:(k:Int)<(n:Int):=by omega
    have hdd:=HT.out.2.2 x (List.mem_iff_getElem?.2 ⟨k,hxk⟩)
    obtain⟨d,hd⟩:∃d,d=x.1:=⟨_,rfl⟩
    rw[←hd] at c4 hdd
    have hdi:¬(2000:Int)<(d:Int):=by omega
    have HL:=hH hlt
    clear ho hx hxk hz hTl hdd hlt hd hk
    go_wp2_with fail
    exact⟨⟨k+1,by have:=HL.out;omega,by go_num⟩,by have:=HL.out;simp[intOf];omega⟩
  · have hkl:¬(k:Int)<(n:Int):=by omega
    go_wp2_with fail
    go_ret
    exact⟨rfl,HT.out.2.1⟩
theorem Jn (w:World)(S:Nat→Prop)(v:Value)(t:Tr)(hlen:foLen t.kids≤9223372036854775807)(hfit:qZ t.kids)(hS:∀k,S k→k<w.heap.size)(hv:zG w S v t):
 Calls Tryz.prog 28 #[v] w fun e w'=>e= .returned (.bool (decide (¬zb t.kids+1≤2000)))∧Below w.heap.size w w':=by
 by_cases h:zb t.kids+1≤2000
 · refine (zdo w S v t h hS hv).mono ?_
   rintro e w' ⟨rfl,hb⟩
   exact⟨by rw[decide_eq_false om],hb⟩
 · refine (zeM w S v t hlen hfit hS hv).mono ?_
   rintro e w' ⟨b,rfl,h1,hb⟩
   refine⟨?_,hb⟩
   rw[decide_eq_true h]
   cases b with
   | true=>rfl
   | false=>exact absurd (h1 rfl) h
end Go.Proofs.YtgkmmnihaiopaaaGreat
