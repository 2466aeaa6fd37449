/-
  .
-/
import Derived.Test.YtnikgofkldkdkaaHRangeQt
set_option maxRecDepth 100000
set_option maxHeartbeats 40000000
set_option linter.unusedVariables false
set_option linter.unusedSimpArgs false
namespace Go.Proofs.Ytnikgofkldkdkaa
open Go.RowKit
def ziJ (w:World)(t:Tr)(e:Ending)(w' :World):Prop:=∃a n cap,e= .returned (.slice a n cap)∧ZA w' w.heap.size (.slice a n cap) n∧Below w.heap.size w w'∧(2001≤n∨n=za t.kids+1)∧n≤2001
theorem ziv (w:World)(S:Nat→Prop)(v:Value)(t:Tr)(hlen:foLen t.kids≤9223372036854775807)(hfit:vB t.kids)(hS:∀k,S k→k<w.heap.size)(hv:zK w S v t):
 Calls Try.prog 6 #[v,.int .i64 2001] w (ziJ w t):=by
 obtain⟨ka,cap,rfl,hcp,hk⟩:=hv
 have hb:Below w.heap.size w (w.alloc (.cells #[.int .i64 t.id,.int .i64 t.kind,.string t.text,.slice ka (foLen t.kids) cap] 27)):=(BrQ _ _).alloc (NlrQ _) _
 have hc:=zgu _ (w.alloc (.cells #[.int .i64 t.id,.int .i64 t.kind,.string t.text,.slice ka (foLen t.kids) cap] 27)) S _ t w.heap.size (.slice none 0 0) 0 1 (Nat.lt_succ_self _) hlen hfit hS hb.size ⟨ka,cap,rfl,hcp,hk.below hb hS⟩ ⟨[],World.ownsRow_nil _ _ _ _,fun i hi=>by omega⟩ om om om
 have HC:=hH (aN hc hb)
 clear hc hb hk hfit hS
 obtain⟨len,hl⟩:∃len,len=foLen t.kids:=⟨_,rfl⟩
 rw[←hl] at HC
 rw[←hl]
 clear hl
 go_enter Try.func6,Try.ntmps6
 go_wp2_with fail
 refine HC.out.1.mono ?_
 rintro e w2 ⟨rv,n,rfl,hsp,hg,hn,hn2,_⟩
 have hb2:Below w.heap.size w w2:=HC.out.2.trans ⟨hg.1.os,hg.1.tape,hg.1.output,hg.1.size,fun k hk=>hg.1.block k (by have:=HC.out.2.size;omega) (by simp[Value.ownBlock])⟩
 have hsp':=hsp
 obtain⟨xs,ho,_⟩:=hsp
 obtain⟨a,cap',rfl⟩:=zt ho
 have HE:=hH (aN hsp' (aN hb2 (show 2001≤n∨n=za t.kids+1 by omega)))
 clear hsp' ho hg hn hb2
 go_wp2_with fail
 go_ret
 exact⟨_,_,_,rfl,HE.out.1,HE.out.2.1,HE.out.2.2,hn2⟩
def zjM (w:World)(t:Tr)(e:Ending)(w' :World):Prop:=∃b,e= .returned (.bool b)∧(b=false→za t.kids+1≤2000)∧Below w.heap.size w w'
theorem zd7 (w:World)(S:Nat→Prop)(v:Value)(t:Tr)(hlen:foLen t.kids≤9223372036854775807)(hfit:vB t.kids)(hS:∀k,S k→k<w.heap.size)(hv:zK w S v t):
 Calls Try.prog 58 #[v] w (zjM w t):=by
 obtain⟨ka,cap,rfl,hcp,hk⟩:=hv
 have hb:Below w.heap.size w (w.alloc (.cells #[.int .i64 t.id,.int .i64 t.kind,.string t.text,.slice ka (foLen t.kids) cap] 27)):=(BrQ _ _).alloc (NlrQ _) _
 have hc:=ziv (w.alloc (.cells #[.int .i64 t.id,.int .i64 t.kind,.string t.text,.slice ka (foLen t.kids) cap] 27)) S _ t hlen hfit (fun k hk=>nL (hS k hk) hb.size) ⟨ka,cap,rfl,hcp,hk.below hb hS⟩
 have HC:=hH (aN hc hb)
 clear hc hb hk hfit hS
 obtain⟨len,hl⟩:∃len,len=foLen t.kids:=⟨_,rfl⟩
 rw[←hl] at HC
 rw[←hl]
 clear hl
 go_enter Try.func58,Try.ntmps58
 go_wp2_with fail
 refine HC.out.1.mono ?_
 rintro e w2 ⟨a,n,cap',rfl,⟨xs,ho,hx⟩,hb2,hn,hn2⟩
 have HB:Hid (Below w.heap.size w w2):=show Below w.heap.size w w2 from HC.out.2.trans (hb2.mono HC.out.2.size)
 clear hb2
 by_cases hg:2000<n
 · have hg2:(2000:Int)<(n:Int):=by omega
   clear hn
   go_wp2_with fail
   go_ret
   exact⟨true,rfl,(fun e=>by cases e),HB.out⟩
 · have hg2:¬(2000:Int)<(n:Int):=by omega
   have HS:Hid (za t.kids+1≤2000):=show za t.kids+1≤2000 by omega
   have HO:=hH (aN ho hx)
   clear hn ho hx
   go_wp2_with fail
   go_loop [4] (fun i=>∃k:Nat,k≤n∧i= .int .i64 k) (fun i=>n - (intOf i).toNat)
   case atStart=>exact⟨0,NzlQ _,rfl⟩
   case round=>
    obtain⟨k,hk,rfl⟩:=hrel
    by_cases hlt:k<n
    · obtain⟨d,hd⟩:=HO.out.2 k hlt
      have ho:=HO.out.1
      have hgg:∃g,a=some ⟨g,0,none⟩:=by
       exact se0
      obtain⟨g,rfl⟩:=hgg
      have c4:w2.cell? ⟨g,k*5+4,none⟩=some (.int .i64 d):=zC ho rfl _ _ hd
      have hkl:(k:Int)<(n:Int):=by omega
      clear ho hd
      by_cases hdd:2000<d
      · go_wp2_with fail
        go_ret
        exact⟨true,rfl,(fun e=>by cases e),HB.out⟩
      · go_wp2_with fail
        exact⟨⟨k+1,by omega,by go_num⟩,by simp[intOf];omega⟩
    · have hkl:¬(k:Int)<(n:Int):=by omega
      go_wp2_with fail
      go_ret
      exact⟨false,rfl,fun _=>HS.out,HB.out⟩
theorem Jc:∀(k:Nat) (f:Fo),za (zy k f)≤za f
 | 0,_=>by simp[zy,za]
 | _+1,.nil=>NlrQ _
 | k+1,.node _ _ _ l r=>by have:=Jc k r;simp only[zy,za];omega
def Yr (t u:Tr)(w:World)(e:Ending)(w' :World):Prop:=e= .returned (.bool (Yw t u))∧Below w.heap.size w w'
theorem Yr.mk {t u:Tr}{w w' :World}{b:Bool}(h:Yw t u=b)(hb:Below w.heap.size w w'):Yr t u w (.returned (.bool b)) w':=⟨by rw[h],hb⟩
theorem Zc (w:World)(o o' :Obj):Below w.heap.size w ((w.alloc o).alloc o'):=((BrQ _ _).alloc (NlrQ _) _).alloc sp1 _
theorem zin (w:World)(id1 kd1 id2 kd2:Int)(tx1 tx2:ByteArray)(a1 a2:Option Addr)(len1 cap1 len2 cap2:Nat)(t u:Tr)(hs:Yw t u=false)(hd:¬(id1=id2∧kd1=kd2∧tx1.toList=tx2.toList∧len1=len2)):
 Calls Try.prog 11 #[.agg #[.int .i64 id1,.int .i64 kd1,.string tx1,.slice a1 len1 cap1],.agg #[.int .i64 id2,.int .i64 kd2,.string tx2,.slice a2 len2 cap2]] w (Yr t u w):=by
 have HS:=hH hs
 clear hs
 by_cases h1:id1=id2
 · by_cases h2:kd1=kd2
   · by_cases h3:tx1.toList=tx2.toList
     · have h4:¬len1=len2:=fun h=>hd ⟨h1,h2,h3,h⟩
       clear hd
       subst h1;subst h2
       exact sd0
     · clear hd
       subst h1;subst h2
       exact sd0
   · clear hd
     subst h1
     exact sd0
 · clear hd
   exact sd0
def zfw (w:World)(c1 c2:Array Value)(len:Nat)(f g:Fo)(i:Value)(wr:World):Prop:=
 ∃k:Nat,k≤len∧i= .int .i64 k∧wr.heap[w.heap.size]? =some (.cells c1 27 (0,0))∧wr.heap[w.heap.size+1]? =some (.cells c2 27 (0,0))∧Below w.heap.size w wr∧kZ f g=kZ (zm k f) (zm k g)
theorem zim :∀(n:Nat) (w:World) (S1 S2:Nat→Prop) (v1 v2:Value) (t u:Tr),za t.kids<n→foLen t.kids≤9223372036854775807∧vB t.kids→(∀k,S1 k→k<w.heap.size)→(∀k,S2 k→k<w.heap.size)→zK w S1 v1 t→zK w S2 v2 u→
 Calls Try.prog 11 #[v1,v2] w (Yr t u w):=by
 intro n
 induction n with
 | zero=>intro w S1 S2 v1 v2 t u h;omega
 | succ n ih=>
   intro w S1 S2 v1 v2 t u hn hm hS1 hS2 hv1 hv2
   obtain⟨ka1,cap1,rfl,_,hk1⟩:=hv1
   obtain⟨ka2,cap2,rfl,_,hk2⟩:=hv2
   obtain⟨id1,kd1,tx1,ks1⟩:=t
   obtain⟨id2,kd2,tx2,ks2⟩:=u
   simp only at hk1 hk2 hn hm
   simp only
   by_cases hd:id1=id2∧kd1=kd2∧tx1.toList=tx2.toList∧foLen ks1=foLen ks2
   · obtain ⟨rfl,rfl,h3,h4⟩:=hd
     have hsame:Yw ⟨id1,kd1,tx1,ks1⟩ ⟨id1,kd1,tx2,ks2⟩=kZ ks1 ks2:=by simp[Yw,Jl,h3,h4]
     obtain⟨len,hlen⟩:∃len,len=foLen ks1:=⟨_,rfl⟩
     rw[←h4,←hlen]
     have HLEN:=hH (aN hlen (hlen.trans h4))
     have HK:=hH (aN hk1 hk2)
     have HS:=hH hsame
     have hlen6:len≤9223372036854775807:=by rw[hlen];exact hm.1
     have HN:=hH (aN hn hm)
     have HSS:=hH (aN hS1 hS2)
     have HIH:=hH ih
     clear hlen h4 hk1 hk2 hsame hn hm hS1 hS2 ih
     go_enter Try.func11,Try.ntmps11
     go_wp2_with fail
     go_loopw [5] (fun i wr=>zfw w #[.int .i64 id1,.int .i64 kd1,.string tx1,.slice ka1 len cap1] #[.int .i64 id1,.int .i64 kd1,.string tx2,.slice ka2 len cap2] len ks1 ks2 i wr) (fun i _=>len - (intOf i).toNat)
     case atStart=>
      exact⟨0,NzlQ _,rfl,by rw[BhaQ _ _ _ sp1];exact hanQ w _,by have:=hanQ (w.alloc (.cells #[.int .i64 id1,.int .i64 kd1,.string tx1,.slice ka1 len cap1] 27)) (.cells #[.int .i64 id1,.int .i64 kd1,.string tx2,.slice ka2 len cap2] 27);simpa using this,Zc _ _ _,rfl⟩
     case round=>
      obtain⟨k,hk,rfl,hb1,hb2,hbel,hsf⟩:=hrel
      have p1:wr.cell? ⟨w.heap.size,3,none⟩=some (.slice ka1 len cap1):=by rw[corQ wr _ 3 _ _ _ hb1];rfl
      have p2:wr.cell? ⟨w.heap.size+1,3,none⟩=some (.slice ka2 len cap2):=by rw[corQ wr _ 3 _ _ _ hb2];rfl
      have HSF:=hH hsf
      have HB:=hH (aN hb1 (aN hb2 hbel))
      clear hb1 hb2 hbel hsf
      by_cases hlt:k<len
      · obtain⟨W,hW⟩:∃W,W=wr.drew:=⟨_,rfl⟩
        have hW0:Below w.heap.size w W:=by rw[hW];exact below_drewN HB.out.2.2 1
        have hsz:w.heap.size≤W.heap.size:=hW0.size
        have q1:W.cell? ⟨w.heap.size,3,none⟩=some (.slice ka1 len cap1):=by rw[hW];exact p1
        have q2:W.cell? ⟨w.heap.size+1,3,none⟩=some (.slice ka2 len cap2):=by rw[hW];exact p2
        have hk1:=HK.out.1.below hW0 HSS.out.1
        have hk2:=HK.out.2.below hW0 HSS.out.2
        obtain⟨b0,o0,⟨ki,kk,kt⟩,l,r,hd1,b,off,a1,n1,rfl,hSb,c0,c1,c2,c3,hcp1,hl1⟩:=hk1.at k uc9
        obtain⟨b0',o0',⟨ki',kk',kt'⟩,l',r',hd2,b',off',a2,n2,rfl,hSb',d0,d1,d2,d3,hcp2,hl2⟩:=hk2.at k (by rw[←HLEN.out.2];exact hlt)
        obtain⟨_,_,_,_,_,e1,e2,hsz1,_⟩:=yw k ks1 uc9
        rw[hd1] at e1;cases e1
        obtain⟨_,_,_,_,_,e1,e2',_,_⟩:=yw k ks2 (by rw[←HLEN.out.2];exact hlt)
        rw[hd2] at e1;cases e1
        have hs1:kZ ks1 ks2=(Yw ⟨ki,kk,kt,l⟩ ⟨ki',kk',kt',l'⟩ && kZ (zm (k+1) ks1) (zm (k+1) ks2)):=by rw[HSF.out,hd1,hd2,e2,e2'];rfl
        have hcall:=HIH.out W S1 S2 (.agg #[.int .i64 ki,.int .i64 kk,.string kt,.slice a1 (foLen l) n1]) (.agg #[.int .i64 ki',.int .i64 kk',.string kt',.slice a2 (foLen l') n2]) ⟨ki,kk,kt,l⟩ ⟨ki',kk',kt',l'⟩ uc8 (Zi k HN.out.2.2 hd1) (fun x hx=>nL (HSS.out.1 x hx) hsz) (fun x hx=>nL (HSS.out.2 x hx) hsz) ⟨a1,n1,rfl,hcp1,hl1⟩ ⟨a2,n2,rfl,hcp2,hl2⟩
        obtain⟨bb,hbb⟩:∃bb,bb=Yw ⟨ki,kk,kt,l⟩ ⟨ki',kk',kt',l'⟩:=⟨_,rfl⟩
        obtain⟨m1,hm1⟩:∃m,m=foLen l:=⟨_,rfl⟩
        obtain⟨m2,hm2⟩:∃m,m=foLen l':=⟨_,rfl⟩
        rw[←hm1,←hm2] at hcall
        rw[←hm1] at c3
        rw[←hm2] at d3
        rw[←hbb] at hs1
        simp only at c0 c1 c2 d0 d1 d2
        have HC:=hH hcall
        have HS1:=hH hs1
        have HBB:=hH hbb
        have HW:=hH hW
        have HW0:=hH hW0
        have HBW:=hH (show W.heap[w.heap.size]? =some (.cells #[.int .i64 id1,.int .i64 kd1,.string tx1,.slice (some ⟨b,off,none⟩) len cap1] 27 (0,0))∧W.heap[w.heap.size+1]? =some (.cells #[.int .i64 id1,.int .i64 kd1,.string tx2,.slice (some ⟨b',off',none⟩) len cap2] 27 (0,0)) by rw[hW];exact⟨HB.out.1,HB.out.2.1⟩)
        have hkl:(k:Int)<(len:Int):=by omega
        have hlt2:w.heap.size+1<W.heap.size:=lt_of_some HBW.out.2
        clear hk1 hk2 hd1 hd2 e2 e2' hs1 hcall hbb hm1 hm2 hW hW0 hsz hl1 hl2 hcp1 hcp2 hsz1 hSb hSb'
        go_wp2_with fail
        have hdr:({ heap:=wr.heap,tape:=wr.tape,drawn:=wr.drawn+1,os:=wr.os,output:=wr.output }:World)=W:=HW.out.symm
        refine wp_region_still_tail 10 kr1 kr1 ?_
        simp only[List.take_succ_cons,List.take_zero,List.drop_succ_cons,List.drop_zero]
        rw[hdr]
        clear hdr
        repeat still_step
        try refine wpStill_nil ?_
        cases bb
        · go_wp2_with (go_at_call 11;refine HC.out.mono ?_;rintro e w2 ⟨rfl,hb2⟩;rw[←HBB.out];have HB2:=hH hb2;clear hb2)
          go_ret
          exact Yr.mk (by rw[HS.out,HS1.out];rfl) (HW0.out.trans (HB2.out.mono (Nat.le_of_lt (Nat.lt_of_succ_lt hlt2))))
        · go_wp2_with (go_at_call 11;refine HC.out.mono ?_;rintro e w2 ⟨rfl,hb2⟩;rw[←HBB.out];have HB2:=hH hb2;clear hb2)
          exact⟨⟨k+1,by omega,by go_num,(HB2.out.block _ (Nat.lt_of_succ_lt hlt2)).trans HBW.out.1,(HB2.out.block _ hlt2).trans HBW.out.2,HW0.out.trans (HB2.out.mono (Nat.le_of_lt (Nat.lt_of_succ_lt hlt2))),by rw[HS1.out];rfl⟩,by simp[intOf];omega⟩
      · have hkk:k=len:=by omega
        have hs:=HSF.out
        rw[qJ k _ (by rw[←HLEN.out.1];omega),qJ k _ (by rw[←HLEN.out.2];omega)] at hs
        have HR:=hH (HS.out.trans hs)
        clear hs hkk
        go_wp2_with fail
        go_ret
        exact Yr.mk HR.out HB.out.2.2
   · refine zin w id1 kd1 id2 kd2 tx1 tx2 ka1 ka2 _ _ _ _ _ _ ?_ hd
     simp only[Yw,Jl]
     simp
     intro h1 h2 h3 h4
     exact absurd ⟨h1,h2,h3,h4⟩ hd
theorem zaS (d:Nat):∀(f:Fo) (b o:Nat) (k:Int×Int×ByteArray) (l:Fo),spF d (qD f b o k l)=spF d f++((d,k,l)::spF (d+1) l)
 | .nil,_,_,_,_=>by simp[qD,spF]
 | .node _ _ _ l' r,b,o,k,l=>by simp[qD,spF,zaS d r b o k l,List.append_assoc]
def spT (d:Nat)(t:Tr):List Sp:=(d,(t.id,t.kind,t.text),t.kids)::spF (d+1) t.kids
theorem zdx (t:Tr):spT 1 t=spF 1 (zh t):=by simp[spT,zh,spF]
def QF (w:World)(S:Nat→Prop)(xs:List Value)(i:Nat)(x:Sp):Prop:=
 xs[i*5]? =some (.int .i64 x.2.1.1)∧xs[i*5+1]? =some (.int .i64 x.2.1.2.1)∧xs[i*5+2]? =some (.string x.2.1.2.2)∧(∃ka cap,xs[i*5+3]? =some (.slice ka (foLen x.2.2) cap)∧foLen x.2.2≤cap∧zk w S x.2.2 ka)∧xs[i*5+4]? =some (.int .i64 (x.1:Int))
def qH (S:Nat→Prop)(w:World)(B:Nat)(rv:Value)(n:Nat)(T:List Sp):Prop:=T.length=n∧∃xs,w.ownsRow B 52 5 rv n xs∧∀i x,T[i]? =some x→QF w S xs i x
theorem QF.kept {w w' :World}{S:Nat→Prop}{xs:List Value}{i:Nat}{x:Sp}(h:QF w S xs i x)(hk:∀k,S k→w'.heap[k]? =w.heap[k]?):QF w' S xs i x:=by
 obtain⟨a,b,c,⟨ka,cap,e,f,g⟩,z⟩:=h
 exact⟨a,b,c,⟨ka,cap,e,f,g.kept fun k hs=>⟨hs,hk k hs⟩⟩,z⟩
theorem qH.bounds {S:Nat→Prop}{w:World}{B:Nat}{rv:Value}{n:Nat}{T:List Sp}(h:qH S w B rv n T){g:Nat}(hg:rv.ownBlock=some g):B≤g∧g<w.heap.size:=by
 obtain⟨_,xs,ho,_⟩:=h
 exact zi ho hg
theorem jw.zi5 {S:Nat→Prop}{w wr:World}{B n:Nat}{rv l:Value}{T:List Sp}(h:jw w wr rv l)(hs:qH S w B rv n T)(hB:B≤w.heap.size):∀k,k<B→wr.heap[k]? =w.heap[k]?:=fun k hk=>
 h.1.block k om (fun e=>by have:=(hs.bounds e.symm).1;omega)
theorem Jm {w w' :World}{S:Nat→Prop}{xs:List Value}{n:Nat}{T:List Sp}{x:Sp}{ka:Option Addr}{cap:Nat}(hl:xs.length=n*5)(hT:T.length=n)(hx:∀i y,T[i]? =some y→QF w S xs i y)(hk:∀k,S k→w'.heap[k]? =w.heap[k]?)(hc:foLen x.2.2≤cap)(hf:zk w' S x.2.2 ka):
 ∀i y,(T++[x])[i]? =some y→QF w' S (xs++[.int .i64 x.2.1.1,.int .i64 x.2.1.2.1,.string x.2.1.2.2,.slice ka (foLen x.2.2) cap,.int .i64 (x.1:Int)]) i y:=fun i y hi=>by
 by_cases h:i<n
 · rw[List.getElem?_append_left om] at hi
   obtain⟨a,b,c,⟨kb,cb,e,f,g⟩,z⟩:=(hx i y hi).kept hk
   exact⟨by rw[List.getElem?_append_left om];exact a,by rw[List.getElem?_append_left om];exact b,by rw[List.getElem?_append_left om];exact c,⟨kb,cb,by rw[List.getElem?_append_left om];exact e,f,g⟩,by rw[List.getElem?_append_left om];exact z⟩
 · have hil:=(List.getElem?_eq_some_iff.1 hi).1
   have:i=n:=by simp at hil;omega
   subst this
   rw[List.getElem?_append_right om,hT,Nat.sub_self] at hi
   simp at hi
   subst hi
   refine⟨?_,?_,?_,⟨ka,cap,?_,hc,hf⟩,?_⟩<;>(rw[List.getElem?_append_right om,hl];simp)
def zkM (S:Nat→Prop)(w:World)(B:Nat)(rv:Value)(n:Nat)(T:List Sp)(d:Nat)(t:Tr)(e:Ending)(w' :World):Prop:=
 ∃rv',e= .returned rv'∧qH S w' B rv' (n+(za t.kids+1)) (T++spT d t)∧jw w w' rv rv'
def zfu (S:Nat→Prop)(w:World)(B:Nat)(rv:Value)(n:Nat)(T:List Sp)(x:Sp)(c1:Array Value)(ks:Fo)(len:Nat)(l i:Value)(wr:World):Prop:=
 ∃k,k≤len∧i= .int .i64 (k:Nat)∧qH S wr B l (n+1+za (zy k ks)) (T++(x::spF (x.1+1) (zy k ks)))∧jw w wr rv l∧wr.heap[w.heap.size]? =some (.cells c1 27 (0,0))
theorem zeD (M:Nat)(hM:M≤2000000):∀(m:Nat) (w:World) (S:Nat→Prop) (v:Value) (t:Tr) (B:Nat) (rv:Value) (n:Nat) (T:List Sp) (d:Nat),za t.kids<m→m≤1000000→n+za t.kids+1≤M→(∀k,S k→k<B)→B≤w.heap.size→zK w S v t→
 qH S w B rv n T→d≤n+1→
 Calls Try.prog 20 #[rv,v,.int .i64 (d:Int),.int .i64 (M:Int)] w (zkM S w B rv n T d t):=by
 intro m
 induction m with
 | zero=>intro w S v t B rv n T d h;omega
 | succ m ih=>
   intro w S v t B rv n T d hm hm5 hnM hS hB hv hrow hd1
   obtain⟨ka,cap,rfl,hcpt,hk⟩:=hv
   obtain⟨id,kd,tx,ks⟩:=t
   simp only at hk hm hnM hcpt
   simp only
   obtain⟨hT,xs,ho,hxs⟩:=hrow
   obtain⟨ra,qj,rfl⟩:=zt ho
   obtain⟨len,hlen⟩:∃len,len=foLen ks:=⟨_,rfl⟩
   have hlen2:len≤1000000:=by have:=zM ks;omega
   rw[←hlen] at hcpt ⊢
   have HN:=hH (aN hm (aN hm5 hnM))
   have HLEN:=hH (aN hlen hcpt)
   have HK:=hH hk
   have HSS:=hH (aN hS hB)
   have HIH:=hH ih
   have HO:=hH (aN ho hxs)
   have HT:=hH hT
   have HD:=hH hd1
   have hdM:(d:Int)≤2000001:=by omega
   have hd0:(0:Int)≤(d:Int):=by omega
   have hnn:¬(M:Int)≤(n:Int):=by omega
   have hn5:n≤2000000:=by omega
   clear hlen hk hm hm5 hnM hS hB ih ho hxs hT hcpt hd1
   go_enter Try.func20,Try.ntmps20
   obtain⟨i0,z0,hi0,hz0,hz1,hz2,hz3⟩:=zW Try.zeb
   have hnew:((w.alloc (.cells #[.int .i64 id,.int .i64 kd,.string tx,.slice ka len cap] 27)).alloc (.cells #[.int .i64 id,.int .i64 kd,.string tx,.slice ka len cap,.int .i64 (d:Int)] 52)).heap[w.heap.size+1]? =some (.cells #[.int .i64 id,.int .i64 kd,.string tx,.slice ka len cap,.int .i64 (d:Int)] 52 (0,0)):=heap_alloc2_new w _ _
   have HNEW:=hH hnew
   have hBw:B≤w.heap.size:=HSS.out.2
   clear hnew
   go_wp2_with (at_builtin;refine wpList_append_lies _ rfl (.tmp 15) (.tmp 19) _ rfl B 52 i0 z0 5 64 Try.underlying30 hi0 hz0 hz1 hz2 hz3 om (.slice ra n qj) n xs rfl ((HO.out.1.alloc _).alloc _) ⟨w.heap.size+1,0,none⟩ 1 1 [.int .i64 id,.int .i64 kd,.string tx,.slice ka len cap,.int .i64 (d:Int)] rfl rfl (World.news_of_block (cs:= #[.int .i64 id,.int .i64 kd,.string tx,.slice ka len cap,.int .i64 (d:Int)]) (t:=52) (fr:=(0,0)) HNEW.out) ue0 om ue1 om ue6 (w.heap.size+1+1) sp1 ?_;intro gg cap' w1 hown1 hgrow hat hlt1)
   have hg1:jw w w1 (.slice ra n qj) (.slice (some ⟨gg,0,none⟩) (n+1) cap'):=jw.first hgrow hat
   have hsp0:qH S w B (.slice ra n qj) n T:=⟨HT.out,xs,HO.out⟩
   have hlow1:=hg1.zi5 hsp0 hBw
   have hsp1:qH S w1 B (.slice (some ⟨gg,0,none⟩) (n+1) cap') (n+1) (T++[(d,(id,kd,tx),ks)]):=⟨by rw[LlaQ,HT.out];rfl,_,hown1,by
    have:=Jm (x:=(d,(id,kd,tx),ks)) (ka:=ka) (cap:=cap) HO.out.1.1 HT.out HO.out.2 (w':=w1) (fun k hk=>hlow1 k (HSS.out.1 k hk)) (by show foLen ks≤cap;rw[←HLEN.out.1];exact HLEN.out.2) (HK.out.kept fun x hx=>⟨hx,hlow1 x (HSS.out.1 x hx)⟩)
    simp only[←HLEN.out.1] at this
    exact this⟩
   have hob:∀g,(Value.slice ra n qj).ownBlock=some g→g<w.heap.size:=fun g hg=>(zi HO.out.1 hg).2
   have hbox:w1.heap[w.heap.size]? =some (.cells #[.int .i64 id,.int .i64 kd,.string tx,.slice ka len cap] 27 (0,0)):=by
    exact sf5
   have HG:=hH (aN hg1 (aN hsp1 (aN hob hbox)))
   clear hg1 hsp1 hob hbox hgrow hown1 hat hsp0 hlow1
   go_loopw [0,9] (fun l i wr=>zfu S w B (.slice ra n qj) n T (d,(id,kd,tx),ks) #[.int .i64 id,.int .i64 kd,.string tx,.slice ka len cap] ks len l i wr) (fun _ i _=>len - (intOf i).toNat)
   case atStart=>exact⟨0,NzlQ _,rfl,by simpa [zy,za,spF] using HG.out.2.1,HG.out.1,HG.out.2.2.2⟩
   case round=>
    obtain⟨k,hk,rfl,hsp,hgr,hbx⟩:=hrel
    have p1:wr.cell? ⟨w.heap.size,3,none⟩=some (.slice ka len cap):=by rw[corQ wr _ 3 _ _ _ hbx];rfl
    have HR:=hH (aN hsp (aN hgr hbx))
    clear hsp hgr hbx
    by_cases hlt:k<len
    · have hlow:=HR.out.2.1.zi5 ⟨HT.out,xs,HO.out⟩ hBw
      have hk1:zk wr S ks ka:=HK.out.kept fun x hx=>⟨hx,hlow x (HSS.out.1 x hx)⟩
      obtain⟨b0,o0,⟨ki,kk,kt⟩,l',r,hd1',b,off,a1,n1,rfl,hSb,c0,c1,c2,c3,hcp,hl1⟩:=hk1.at k uc9
      obtain⟨_,_,_,_,_,e1,e2,hsz1,htk⟩:=yw k ks uc9
      rw[hd1'] at e1;cases e1
      have hfs:za (zy k ks)+za l'+1≤za ks:=by have:=Jc (k+1) ks;rw[htk,kE] at this;exact this
      have hcall:=HIH.out wr S (.agg #[.int .i64 ki,.int .i64 kk,.string kt,.slice a1 (foLen l') n1]) ⟨ki,kk,kt,l'⟩ B u0 (n+1+za (zy k ks)) (T++((d,(id,kd,tx),ks)::spF (d+1) (zy k ks))) (d+1) uc8 (by have:=HN.out.2.1;omega) (by have:=HN.out.2.2;simp only;omega) HSS.out.1 (NltQ hBw HR.out.2.1.1.size) ⟨a1,n1,rfl,hcp,hl1⟩ HR.out.1 (by have:=HD.out;omega)
      obtain⟨m1,hm1⟩:∃m,m=foLen l':=⟨_,rfl⟩
      rw[←hm1] at hcall c3
      simp only at c0 c1 c2
      have hcast:(((d+1:Nat)):Int)=(d:Int)+1:=by omega
      rw[hcast] at hcall
      have HC:=hH hcall
      have htk2:spF (d+1) (zy (k+1) ks)=spF (d+1) (zy k ks)++((d+1,(ki,kk,kt),l')::spF (d+1+1) l'):=by rw[htk,zaS]
      have htk3:za (zy (k+1) ks)=za (zy k ks)+za l'+1:=by rw[htk,kE]
      have HTK:=hH (aN htk2 htk3)
      have hkl:(k:Int)<(len:Int):=by omega
      clear hk1 hlow hd1' hcall hm1 htk htk2 htk3 hl1 hsz1 hSb e2 hcp hcast hfs
      go_wp2_with fail
      refine HC.out.mono ?_
      rintro e w2 ⟨l2,rfl,hsp2,hg2⟩
      have HE:=hH (aN hsp2 hg2)
      clear hsp2 hg2
      go_wp2_with fail
      have hne:some w.heap.size≠u0.ownBlock:=fun e=>by
       exact sf1
      refine⟨⟨k+1,by omega,by go_num,?_,HR.out.2.1.trans HE.out.2,(HE.out.2.1.block _ (lt_of_some HR.out.2.2) hne).trans HR.out.2.2⟩,by simp[intOf];omega⟩
      have h1:=HE.out.1
      simp only at h1 ⊢
      rw[HTK.out.1,HTK.out.2]
      have e3:T++((d,(id,kd,tx),ks)::spF (d+1) (zy k ks))++spT (d+1) ⟨ki,kk,kt,l'⟩=T++((d,(id,kd,tx),ks)::(spF (d+1) (zy k ks)++((d+1,(ki,kk,kt),l')::spF (d+1+1) l'))):=by simp[spT,List.append_assoc]
      rw[e3] at h1
      rw[show n+1+(za (zy k ks)+za l'+1)=n+1+za (zy k ks)+(za l'+1) by omega]
      exact h1
    · have hkk:k=len:=by omega
      have HKK:=hH hkk
      have hkl:¬(k:Int)<(len:Int):=by omega
      clear hkk
      go_wp2_with fail
      go_ret
      refine⟨_,rfl,?_,HR.out.2.1⟩
      have h:=HR.out.1
      rw[qK k ks (by rw[HKK.out,HLEN.out.1];exact NlrQ _)] at h
      show qH S _ B _ (n+(za ks+1)) (T++spT d ⟨id,kd,tx,ks⟩)
      rw[show n+(za ks+1)=n+1+za ks by omega]
      exact h
def zkx (w:World)(S:Nat→Prop)(t:Tr)(e:Ending)(w' :World):Prop:=∃a cap,e= .returned (.slice a (za t.kids+1) cap)∧qH S w' w.heap.size (.slice a (za t.kids+1) cap) (za t.kids+1) (spF 1 (zh t))∧Below w.heap.size w w'
theorem Yk (M:Nat)(hM:M≤2000000)(w:World)(S:Nat→Prop)(v:Value)(t:Tr)(hsz:za t.kids+1≤M)(hsz5:za t.kids+1≤1000000)(hS:∀k,S k→k<w.heap.size)(hv:zK w S v t):
 Calls Try.prog 6 #[v,.int .i64 (M:Int)] w (zkx w S t):=by
 obtain⟨ka,cap,rfl,hcp,hk⟩:=hv
 have hb:Below w.heap.size w (w.alloc (.cells #[.int .i64 t.id,.int .i64 t.kind,.string t.text,.slice ka (foLen t.kids) cap] 27)):=(BrQ _ _).alloc (NlrQ _) _
 have hc:=zeD M hM _ (w.alloc (.cells #[.int .i64 t.id,.int .i64 t.kind,.string t.text,.slice ka (foLen t.kids) cap] 27)) S _ t w.heap.size (.slice none 0 0) 0 [] 1 (Nat.lt_succ_self _) hsz5 om hS hb.size ⟨ka,cap,rfl,hcp,hk.below hb hS⟩ ⟨rfl,[],World.ownsRow_nil _ _ _ _,fun i p hi=>by simp at hi⟩ om
 have HC:=hH (aN hc hb)
 clear hc hb hk hS hcp hsz hsz5
 obtain⟨len,hl⟩:∃len,len=foLen t.kids:=⟨_,rfl⟩
 rw[←hl] at HC
 rw[←hl]
 clear hl
 go_enter Try.func6,Try.ntmps6
 go_wp2_with fail
 refine HC.out.1.mono ?_
 rintro e w2 ⟨rv,rfl,hsp,hg⟩
 have hb2:Below w.heap.size w w2:=HC.out.2.trans ⟨hg.1.os,hg.1.tape,hg.1.output,hg.1.size,fun k hk=>hg.1.block k (by have:=HC.out.2.size;omega) (by simp[Value.ownBlock])⟩
 have hsp':=hsp
 obtain⟨hT,xs,ho,_⟩:=hsp
 obtain⟨a,cap',rfl⟩:=zt ho
 have HE:=hH (aN hsp' hb2)
 clear hsp' ho hg hT
 go_wp2_with fail
 go_ret
 have h:=HE.out.1
 rw[List.nil_append,zdx,Nat.zero_add] at h
 exact⟨_,_,rfl,h,HE.out.2⟩
end Go.Proofs.Ytnikgofkldkdkaa
namespace Go.Proofs.Ytnikgofkldkdkaa
open Go.RowKit Go.Shelf
theorem YU:∀(d:Nat) (f:Fo),∀x∈spF d f,x.1+1≤d+za f
 | d,.nil,x,h=>by cases h
 | d, .node b o k l r,x,h=>by
   rw[spF] at h
   simp only[za]
   rcases List.mem_cons.1 h with rfl | h
   · simp only;omega
   · rcases List.mem_append.1 h with h | h
     · have:=YU (d+1) l x h;omega
     · have:=YU d r x h;omega
theorem zcQ (w:World)(S:Nat→Prop)(v:Value)(t:Tr)(hsz:za t.kids+1≤2000)(hS:∀k,S k→k<w.heap.size)(hv:zK w S v t):
 Calls Try.prog 58 #[v] w fun e w'=>e= .returned (.bool false)∧Below w.heap.size w w':=by
 obtain⟨ka,cap,rfl,hcap,hk⟩:=hv
 obtain⟨len,hlen⟩:∃len,len=foLen t.kids:=⟨_,rfl⟩
 obtain⟨B,hB⟩:∃B,B=w.alloc (.cells #[.int .i64 t.id,.int .i64 t.kind,.string t.text,.slice ka len cap] 27):=⟨_,rfl⟩
 have hb:Below w.heap.size w B:=by rw[hB];exact (BrQ _ _).alloc (NlrQ _) _
 have hc:=Yk 2001 om B S (.agg #[.int .i64 t.id,.int .i64 t.kind,.string t.text,.slice ka len cap]) t om om (fun q hq=>nL (hS q hq) hb.size) ⟨ka,cap,by rw[hlen],hcap,hk.below hb hS⟩
 have HC:=hH (aN hc hb)
 have HBE:=hH hB
 have HZ:=hH hsz
 rw[←hlen]
 clear hc hb hB hsz hS hk hcap hlen
 go_enter Try.func58,Try.ntmps58
 go_wp2_with fail
 rw[←HBE.out]
 clear HBE
 refine HC.out.1.mono ?_
 rintro e w2 ⟨a,cap',rfl,hsp,hb2⟩
 obtain⟨T,hT⟩:∃T,T=spF 1 (zh t):=⟨_,rfl⟩
 have hd:∀x∈T,x.1≤2000:=fun x hx=>by
  have h1:=YU 1 (zh t) x (by rw[←hT];exact hx)
  have h2:=HZ.out
  simp only[zh,za] at h1
  omega
 rw[←hT] at hsp
 obtain⟨n,hn⟩:∃n,n=za t.kids+1:=⟨_,rfl⟩
 rw[←hn] at hsp ⊢
 have hn2:¬(2000:Int)<(n:Int):=by rw[hn];have:=HZ.out;omega
 have HT:=hH (aN hsp (aN (HC.out.2.trans (hb2.mono HC.out.2.size)) hd))
 clear hsp hb2 hT HC hn hd
 go_wp2_with fail
 go_loop [4] (fun i=>∃k:Nat,k≤n∧i= .int .i64 k) (fun i=>n - (intOf i).toNat)
 case atStart=>exact⟨0,NzlQ _,rfl⟩
 case round=>
  obtain⟨k,hk,rfl⟩:=hrel
  by_cases hlt:k<n
  · obtain⟨hTl,xs,ho,hx⟩:=HT.out.1
    obtain⟨x,hxk⟩:∃x,T[k]? =some x:=⟨_,List.getElem?_eq_getElem (by rw[hTl];exact hlt)⟩
    obtain⟨_,_,_,_,hz⟩:=hx k x hxk
    have hgg:∃g,a=some ⟨g,0,none⟩:=by
     exact se0
    obtain⟨g,rfl⟩:=hgg
    have c4:w2.cell? ⟨g,k*5+4,none⟩=some (.int .i64 (x.1:Int)):=zC ho rfl _ _ hz
    have hkl:(k:Int)<(n:Int):=by omega
    have hdd:=HT.out.2.2 x (List.mem_iff_getElem?.2 ⟨k,hxk⟩)
    obtain⟨d,hd⟩:∃d,d=x.1:=⟨_,rfl⟩
    rw[←hd] at c4 hdd
    have hdi:¬(2000:Int)<(d:Int):=by omega
    have HL:=hH hlt
    clear ho hx hxk hz hTl hdd hlt hd hk
    go_wp2_with fail
    exact⟨⟨k+1,by have:=HL.out;omega,by go_num⟩,by have:=HL.out;simp[intOf];omega⟩
  · have hkl:¬(k:Int)<(n:Int):=by omega
    go_wp2_with fail
    go_ret
    exact⟨rfl,HT.out.2.1⟩
theorem Je (w:World)(S:Nat→Prop)(v:Value)(t:Tr)(hlen:foLen t.kids≤9223372036854775807)(hfit:vB t.kids)(hS:∀k,S k→k<w.heap.size)(hv:zK w S v t):
 Calls Try.prog 58 #[v] w fun e w'=>e= .returned (.bool (decide (¬za t.kids+1≤2000)))∧Below w.heap.size w w':=by
 by_cases h:za t.kids+1≤2000
 · refine (zcQ w S v t h hS hv).mono ?_
   rintro e w' ⟨rfl,hb⟩
   exact⟨by rw[decide_eq_false om],hb⟩
 · refine (zd7 w S v t hlen hfit hS hv).mono ?_
   rintro e w' ⟨b,rfl,h1,hb⟩
   refine⟨?_,hb⟩
   rw[decide_eq_true h]
   cases b with
   | true=>rfl
   | false=>exact absurd (h1 rfl) h
end Go.Proofs.Ytnikgofkldkdkaa
