/-
  .
-/
import Derived.Test.YtoidedomenkbpaaGreatERowLQr
set_option maxRecDepth 100000
set_option maxHeartbeats 40000000
set_option linter.unusedVariables false
set_option linter.unusedSimpArgs false
namespace Go.Proofs.YtoidedomenkbpaaGreat
open Go.RowKit
def jJ (t u:Tr)(w:World)(e:Ending)(w' :World):Prop:=e= .returned (.bool (zL t u))∧Below w.heap.size w w'
theorem jJ.mk {t u:Tr}{w w' :World}{b:Bool}(h:zL t u=b)(hb:Below w.heap.size w w'):jJ t u w (.returned (.bool b)) w':=⟨by rw[h],hb⟩
theorem zF (w:World)(o o' :Obj):Below w.heap.size w ((w.alloc o).alloc o'):=((BrQ _ _).alloc (NlrQ _) _).alloc sp1 _
theorem zfp (w:World)(id1 kd1 id2 kd2:Int)(tx1 tx2:ByteArray)(a1 a2:Option Addr)(len1 cap1 len2 cap2:Nat)(t u:Tr)(hs:zL t u=false)(hd:¬(id1=id2∧kd1=kd2∧tx1.toList=tx2.toList∧len1=len2)):
 Calls Tryz.prog 64 #[.agg #[.int .i64 id1,.int .i64 kd1,.string tx1,.slice a1 len1 cap1],.agg #[.int .i64 id2,.int .i64 kd2,.string tx2,.slice a2 len2 cap2]] w (jJ t u w):=by
 have HS:=hH hs
 clear hs
 by_cases h1:id1=id2
 · by_cases h2:kd1=kd2
   · by_cases h3:tx1.toList=tx2.toList
     · have h4:¬len1=len2:=fun h=>hd ⟨h1,h2,h3,h⟩
       clear hd
       subst h1;subst h2
       exact sd5
     · clear hd
       subst h1;subst h2
       exact sd5
   · clear hd
     subst h1
     exact sd5
 · clear hd
   exact sd5
def zdw (w:World)(c1 c2:Array Value)(len:Nat)(f g:Fo)(i:Value)(wr:World):Prop:=
 ∃k:Nat,k≤len∧i= .int .i64 k∧wr.heap[w.heap.size]? =some (.cells c1 35 (0,0))∧wr.heap[w.heap.size+1]? =some (.cells c2 35 (0,0))∧Below w.heap.size w wr∧vP f g=vP (zT k f) (zT k g)
theorem QY :∀(n:Nat) (w:World) (S1 S2:Nat→Prop) (v1 v2:Value) (t u:Tr),zh t.kids<n→foLen t.kids≤9223372036854775807∧vY t.kids→(∀k,S1 k→k<w.heap.size)→(∀k,S2 k→k<w.heap.size)→vL w S1 v1 t→vL w S2 v2 u→
 Calls Tryz.prog 64 #[v1,v2] w (jJ t u w):=by
 intro n
 induction n with
 | zero=>intro w S1 S2 v1 v2 t u h;omega
 | succ n ih=>
   intro w S1 S2 v1 v2 t u hn hm hS1 hS2 hv1 hv2
   obtain⟨ka1,cap1,rfl,_,hk1⟩:=hv1
   obtain⟨ka2,cap2,rfl,_,hk2⟩:=hv2
   obtain⟨id1,kd1,tx1,ks1⟩:=t
   obtain⟨id2,kd2,tx2,ks2⟩:=u
   simp only at hk1 hk2 hn hm
   simp only
   by_cases hd:id1=id2∧kd1=kd2∧tx1.toList=tx2.toList∧foLen ks1=foLen ks2
   · obtain ⟨rfl,rfl,h3,h4⟩:=hd
     have hsame:zL ⟨id1,kd1,tx1,ks1⟩ ⟨id1,kd1,tx2,ks2⟩=vP ks1 ks2:=by simp[zL,Yl,h3,h4]
     obtain⟨len,hlen⟩:∃len,len=foLen ks1:=⟨_,rfl⟩
     rw[←h4,←hlen]
     have HLEN:=hH (aN hlen (hlen.trans h4))
     have HK:=hH (aN hk1 hk2)
     have HS:=hH hsame
     have hlen6:len≤9223372036854775807:=by rw[hlen];exact hm.1
     have HN:=hH (aN hn hm)
     have HSS:=hH (aN hS1 hS2)
     have HIH:=hH ih
     clear hlen h4 hk1 hk2 hsame hn hm hS1 hS2 ih
     go_enter Tryz.func64,Tryz.ntmps64
     go_wp2_with fail
     go_loopw [5] (fun i wr=>zdw w #[.int .i64 id1,.int .i64 kd1,.string tx1,.slice ka1 len cap1] #[.int .i64 id1,.int .i64 kd1,.string tx2,.slice ka2 len cap2] len ks1 ks2 i wr) (fun i _=>len - (intOf i).toNat)
     case atStart=>
      exact⟨0,NzlQ _,rfl,by rw[BhaQ _ _ _ sp1];exact hanQ w _,by have:=hanQ (w.alloc (.cells #[.int .i64 id1,.int .i64 kd1,.string tx1,.slice ka1 len cap1] 35)) (.cells #[.int .i64 id1,.int .i64 kd1,.string tx2,.slice ka2 len cap2] 35);simpa using this,zF _ _ _,rfl⟩
     case round=>
      obtain⟨k,hk,rfl,hb1,hb2,hbel,hsf⟩:=hrel
      have p1:wr.cell? ⟨w.heap.size,3,none⟩=some (.slice ka1 len cap1):=by rw[corQ wr _ 3 _ _ _ hb1];rfl
      have p2:wr.cell? ⟨w.heap.size+1,3,none⟩=some (.slice ka2 len cap2):=by rw[corQ wr _ 3 _ _ _ hb2];rfl
      have HSF:=hH hsf
      have HB:=hH (aN hb1 (aN hb2 hbel))
      clear hb1 hb2 hbel hsf
      by_cases hlt:k<len
      · obtain⟨W,hW⟩:∃W,W=wr.drew:=⟨_,rfl⟩
        have hW0:Below w.heap.size w W:=by rw[hW];exact below_drewN HB.out.2.2 1
        have hsz:w.heap.size≤W.heap.size:=hW0.size
        have q1:W.cell? ⟨w.heap.size,3,none⟩=some (.slice ka1 len cap1):=by rw[hW];exact p1
        have q2:W.cell? ⟨w.heap.size+1,3,none⟩=some (.slice ka2 len cap2):=by rw[hW];exact p2
        have hk1:=HK.out.1.below hW0 HSS.out.1
        have hk2:=HK.out.2.below hW0 HSS.out.2
        obtain⟨b0,o0,⟨ki,kk,kt⟩,l,r,hd1,b,off,a1,n1,rfl,hSb,c0,c1,c2,c3,hcp1,hl1⟩:=hk1.at k uc3
        obtain⟨b0',o0',⟨ki',kk',kt'⟩,l',r',hd2,b',off',a2,n2,rfl,hSb',d0,d1,d2,d3,hcp2,hl2⟩:=hk2.at k (by rw[←HLEN.out.2];exact hlt)
        obtain⟨_,_,_,_,_,e1,e2,hsz1,_⟩:=yL k ks1 uc3
        rw[hd1] at e1;cases e1
        obtain⟨_,_,_,_,_,e1,e2',_,_⟩:=yL k ks2 (by rw[←HLEN.out.2];exact hlt)
        rw[hd2] at e1;cases e1
        have hs1:vP ks1 ks2=(zL ⟨ki,kk,kt,l⟩ ⟨ki',kk',kt',l'⟩ && vP (zT (k+1) ks1) (zT (k+1) ks2)):=by rw[HSF.out,hd1,hd2,e2,e2'];rfl
        have hcall:=HIH.out W S1 S2 (.agg #[.int .i64 ki,.int .i64 kk,.string kt,.slice a1 (foLen l) n1]) (.agg #[.int .i64 ki',.int .i64 kk',.string kt',.slice a2 (foLen l') n2]) ⟨ki,kk,kt,l⟩ ⟨ki',kk',kt',l'⟩ ub8 (kv k HN.out.2.2 hd1) (fun x hx=>nL (HSS.out.1 x hx) hsz) (fun x hx=>nL (HSS.out.2 x hx) hsz) ⟨a1,n1,rfl,hcp1,hl1⟩ ⟨a2,n2,rfl,hcp2,hl2⟩
        obtain⟨bb,hbb⟩:∃bb,bb=zL ⟨ki,kk,kt,l⟩ ⟨ki',kk',kt',l'⟩:=⟨_,rfl⟩
        obtain⟨m1,hm1⟩:∃m,m=foLen l:=⟨_,rfl⟩
        obtain⟨m2,hm2⟩:∃m,m=foLen l':=⟨_,rfl⟩
        rw[←hm1,←hm2] at hcall
        rw[←hm1] at c3
        rw[←hm2] at d3
        rw[←hbb] at hs1
        simp only at c0 c1 c2 d0 d1 d2
        have HC:=hH hcall
        have HS1:=hH hs1
        have HBB:=hH hbb
        have HW:=hH hW
        have HW0:=hH hW0
        have HBW:=hH (show W.heap[w.heap.size]? =some (.cells #[.int .i64 id1,.int .i64 kd1,.string tx1,.slice (some ⟨b,off,none⟩) len cap1] 35 (0,0))∧W.heap[w.heap.size+1]? =some (.cells #[.int .i64 id1,.int .i64 kd1,.string tx2,.slice (some ⟨b',off',none⟩) len cap2] 35 (0,0)) by rw[hW];exact⟨HB.out.1,HB.out.2.1⟩)
        have hkl:(k:Int)<(len:Int):=by omega
        have hlt2:w.heap.size+1<W.heap.size:=lt_of_some HBW.out.2
        clear hk1 hk2 hd1 hd2 e2 e2' hs1 hcall hbb hm1 hm2 hW hW0 hsz hl1 hl2 hcp1 hcp2 hsz1 hSb hSb'
        go_wp2_with fail
        have hdr:({ heap:=wr.heap,tape:=wr.tape,drawn:=wr.drawn+1,os:=wr.os,output:=wr.output }:World)=W:=HW.out.symm
        refine wp_region_still_tail 10 kr1 kr1 ?_
        simp only[List.take_succ_cons,List.take_zero,List.drop_succ_cons,List.drop_zero]
        rw[hdr]
        clear hdr
        repeat still_step
        try refine wpStill_nil ?_
        cases bb
        · go_wp2_with (go_at_call 64;refine HC.out.mono ?_;rintro e w2 ⟨rfl,hb2⟩;rw[←HBB.out];have HB2:=hH hb2;clear hb2)
          go_ret
          exact jJ.mk (by rw[HS.out,HS1.out];rfl) (HW0.out.trans (HB2.out.mono (Nat.le_of_lt (Nat.lt_of_succ_lt hlt2))))
        · go_wp2_with (go_at_call 64;refine HC.out.mono ?_;rintro e w2 ⟨rfl,hb2⟩;rw[←HBB.out];have HB2:=hH hb2;clear hb2)
          exact⟨⟨k+1,by omega,by go_num,(HB2.out.block _ (Nat.lt_of_succ_lt hlt2)).trans HBW.out.1,(HB2.out.block _ hlt2).trans HBW.out.2,HW0.out.trans (HB2.out.mono (Nat.le_of_lt (Nat.lt_of_succ_lt hlt2))),by rw[HS1.out];rfl⟩,by simp[intOf];omega⟩
      · have hkk:k=len:=by omega
        have hs:=HSF.out
        rw[qJ k _ (by rw[←HLEN.out.1];omega),qJ k _ (by rw[←HLEN.out.2];omega)] at hs
        have HR:=hH (HS.out.trans hs)
        clear hs hkk
        go_wp2_with fail
        go_ret
        exact jJ.mk HR.out HB.out.2.2
   · refine zfp w id1 kd1 id2 kd2 tx1 tx2 ka1 ka2 _ _ _ _ _ _ ?_ hd
     simp only[zL,Yl]
     simp
     intro h1 h2 h3 h4
     exact absurd ⟨h1,h2,h3,h4⟩ hd
end Go.Proofs.YtoidedomenkbpaaGreat
namespace Go.Proofs.YtoidedomenkbpaaGreat
open Go.RowKit Go.Shelf
def YD (x y:Sp):Bool:=decide (x.2.1.1=y.2.1.1) && (decide (x.2.1.2.1=y.2.1.2.1) && (decide (foLen x.2.2=foLen y.2.2) && decide (x.2.1.2.2.toList=y.2.1.2.2.toList)))
def eqL:List Sp→List Sp→Bool
 | [],[]=>true
 | x::l,y::m=>YD x y && eqL l m
 | _,_=>false
theorem ZO:∀(f g:Fo) (d e:Nat) (p q:List Sp),foLen f=foLen g→eqL (spF d f++p) (spF e g++q)=(vP f g && eqL p q)
 | .nil,.nil,_,_,_,_,_=>by simp[spF,vP]
 | .nil,.node _ _ _ _ _,_,_,_,_,h=>by simp[foLen] at h
 | .node _ _ _ _ _,.nil,_,_,_,_,h=>by simp[foLen] at h
 | .node _ _ k l r,.node _ _ k' l' r',d,e,p,q,h=>by
   have hr:foLen r=foLen r':=by simpa [foLen] using h
   simp only[spF,List.cons_append,List.append_assoc,eqL,vP]
   by_cases hl:foLen l=foLen l'
   · rw[ZO l l' (d+1) (e+1) _ _ hl,ZO r r' d e p q hr]
     simp only[YD,Yl,hl,decide_true,Bool.true_and]
     by_cases h1:k.1=k'.1<;>by_cases h2:k.2.1=k'.2.1<;>by_cases h3:k.2.2.toList=k'.2.2.toList<;>simp[h1,h2,h3,Bool.and_assoc]
   · simp[YD,hl]
theorem ze3 (a b:Tr):eqL (spF 1 (yI a)) (spF 1 (yI b))=zL a b:=by
 have:=ZO (yI a) (yI b) 1 1 [] [] (by simp[yI,foLen])
 rw[List.append_nil,List.append_nil] at this
 rw[this]
 simp[eqL,yI,vP,zL]
theorem Qy:∀(l m:List Sp),eqL l m=true→l.length=m.length
 | [],[],_=>rfl
 | x::l,y::m,h=>by simp only[eqL,Bool.and_eq_true] at h;simp[Qy l m h.2]
 | [],_::_,h=>by simp[eqL] at h
 | _::_,[],h=>by simp[eqL] at h
theorem zaX:∀(k:Nat) (l m:List Sp) (x y:Sp),l[k]? =some x→m[k]? =some y→eqL (l.drop k) (m.drop k)=(YD x y && eqL (l.drop (k+1)) (m.drop (k+1)))
 | 0,x::l,y::m,_,_,h1,h2=>by simp at h1 h2;subst h1;subst h2;simp[eqL]
 | k+1,x::l,y::m,a,b,h1,h2=>by simpa using zaX k l m a b (by simpa using h1) (by simpa using h2)
 | _,[],_,_,_,h1,_=>by simp at h1
 | _,_::_,[],_,_,_,h2=>by simp at h2
theorem QH:∀(l:List Sp) (k:Nat) (x:Sp),l[k]? =some x→(l.flatMap qp)[k*4]? =some (.int .i64 x.2.1.1)∧(l.flatMap qp)[k*4+1]? =some (.int .i64 x.2.1.2.1)∧(l.flatMap qp)[k*4+2]? =some (.int .i64 (foLen x.2.2:Int))∧(l.flatMap qp)[k*4+3]? =some (.string x.2.1.2.2)
 | x::l,0,_,h=>by simp at h;subst h;simp[qp]
 | y ::l,k+1,x,h=>by
   have:=QH l k x ud8
   have e:∀j,((y::l).flatMap qp)[(k+1)*4+j]? =(l.flatMap qp)[k*4+j]?:=fun j=>by
    rw[List.flatMap_cons,show (k+1)*4+j=k*4+j+4 by omega]
    simp[qp]
   exact⟨(e 0).trans this.1,(e 1).trans this.2.1,(e 2).trans this.2.2.1,(e 3).trans this.2.2.2⟩
 | [],_,_,h=>by simp at h
def zii (w:World)(l m:List Sp)(i:Value)(wr:World):Prop:=∃k:Nat,k≤l.length∧i= .int .i64 (k:Int)∧Hid (Below w.heap.size w wr)∧Hid (eqL l m=eqL (l.drop k) (m.drop k))
theorem Yh {w:World}{B:Nat}{a:Option Addr}{c n:Nat}{l:List Sp}(h:w.ownsRow B 182 4 (.slice a n c) n (l.flatMap qp))(hn:0<n){k:Nat}{x:Sp}(hx:l[k]? =some x):∃g,a=some ⟨g,0,none⟩∧g<w.heap.size∧w.cell? ⟨g,k*4,none⟩=some (.int .i64 x.2.1.1)∧w.cell? ⟨g,k*4+1,none⟩=some (.int .i64 x.2.1.2.1)∧w.cell? ⟨g,k*4+2,none⟩=some (.int .i64 (foLen x.2.2:Int))∧w.cell? ⟨g,k*4+3,none⟩=some (.string x.2.1.2.2):=by
 have hgg:∃g,a=some ⟨g,0,none⟩:=by
  rcases h.2 with ⟨_,h0⟩ | ⟨g,cap2,cur,hv,_⟩
  · omega
  · cases hv;exact⟨g,rfl⟩
 obtain⟨g,rfl⟩:=hgg
 obtain⟨l0,l1,l2,l3⟩:=QH l k x hx
 exact⟨g,rfl,(zO h rfl).2,yx h rfl _ _ l0,yx h rfl _ _ l1,yx h rfl _ _ l2,yx h rfl _ _ l3⟩
theorem zfY:∀(l m:List Sp) (k:Nat),l.length=m.length→l.length≤k→eqL (l.drop k) (m.drop k)=true:=fun l m k h hk=>by
 rw[List.drop_of_length_le hk,List.drop_of_length_le om];rfl
theorem za0 (w:World)(B1 B2:Nat)(v1 v2:Value)(l m:List Sp)(h1:w.ownsRow B1 182 4 v1 l.length (l.flatMap qp))(h2:w.ownsRow B2 182 4 v2 m.length (m.flatMap qp))(hl:l.length≤1000000)(hm:m.length≤1000000):
 Calls Tryz.prog 134 #[v1,v2] w fun e w'=>e= .returned (.bool (eqL l m))∧Below w.heap.size w w':=by
 obtain⟨a1,c1,rfl⟩:=zZ h1
 obtain⟨a2,c2,rfl⟩:=zZ h2
 by_cases hd:l.length=m.length
 · obtain ⟨n,hn⟩:∃n,n=l.length:=⟨_,rfl⟩
   have hn2:n=m.length:=by omega
   rw[←hn2] at h2 ⊢
   rw[←hn] at h1 ⊢
   have HK:=hH (aN h1 h2)
   have HN:=hH (aN hn hn2)
   have hn6:n≤1000000:=by omega
   clear h1 h2 hd hn hn2 hl hm
   go_enter Tryz.func134,Tryz.ntmps134
   go_wp2_with fail
   go_loopw [5,13] (fun _ i wr=>zii w l m i wr) (fun _ i _=>n - (intOf i).toNat)
   case atStart=>exact⟨0,NzlQ _,rfl,hH (BrQ _ _),hH rfl⟩
   case round=>
    obtain⟨k,hkl,rfl,HB,HA⟩:=hrel
    rw[←HN.out.1] at hkl
    by_cases hlt:k<n
    · obtain⟨x,hx⟩:∃x,l[k]? =some x:=⟨l[k]'(by rw[←HN.out.1];exact hlt),List.getElem?_eq_getElem _⟩
      obtain⟨y,hy⟩:∃y,m[k]? =some y:=⟨m[k]'(by rw[←HN.out.2];exact hlt),List.getElem?_eq_getElem _⟩
      obtain⟨g1,rfl,hg1,x0e,x1e,x2e,x3e⟩:=Yh HK.out.1 om hx
      obtain⟨g2,rfl,hg2,y0e,y1e,y2e,y3e⟩:=Yh HK.out.2 om hy
      have hdr:=zaX k l m x y hx hy
      obtain⟨bb,hbb⟩:∃bb,bb=YD x y:=⟨_,rfl⟩
      rw[←hbb] at hdr
      have HDR:=hH hdr
      obtain⟨x0,hx0⟩:∃z,z=x.2.1.1:=⟨_,rfl⟩
      obtain⟨x1,hx1⟩:∃z,z=x.2.1.2.1:=⟨_,rfl⟩
      obtain⟨x2,hx2⟩:∃z:Int,z=(foLen x.2.2:Int):=⟨_,rfl⟩
      obtain⟨x3,hx3⟩:∃z,z=x.2.1.2.2:=⟨_,rfl⟩
      obtain⟨y0,hy0⟩:∃z,z=y.2.1.1:=⟨_,rfl⟩
      obtain⟨y1,hy1⟩:∃z,z=y.2.1.2.1:=⟨_,rfl⟩
      obtain⟨y2,hy2⟩:∃z:Int,z=(foLen y.2.2:Int):=⟨_,rfl⟩
      obtain⟨y3,hy3⟩:∃z,z=y.2.1.2.2:=⟨_,rfl⟩
      rw[←hx0] at x0e
      rw[←hx1] at x1e
      rw[←hx2] at x2e
      rw[←hx3] at x3e
      rw[←hy0] at y0e
      rw[←hy1] at y1e
      rw[←hy2] at y2e
      rw[←hy3] at y3e
      have HBB:Hid ((decide (x0=y0) && (decide (x1=y1) && (decide (x2=y2) && decide (x3.toList=y3.toList))))=bb):=hH (by
       rw[hbb,YD,hx0,hx1,hx2,hx3,hy0,hy1,hy2,hy3]
       congr 3
       by_cases hf:foLen x.2.2=foLen y.2.2
       · simp[hf]
       · rw[decide_eq_false hf,decide_eq_false om])
      have HCL:=hH (fun (X:World) (hX:Below wr.heap.size wr X)=>(show X.cell? ⟨g1,k*4,none⟩=some (.int .i64 x0)∧X.cell? ⟨g1,k*4+1,none⟩=some (.int .i64 x1)∧X.cell? ⟨g1,k*4+2,none⟩=some (.int .i64 x2)∧X.cell? ⟨g1,k*4+3,none⟩=some (.string x3)∧X.cell? ⟨g2,k*4,none⟩=some (.int .i64 y0)∧X.cell? ⟨g2,k*4+1,none⟩=some (.int .i64 y1)∧X.cell? ⟨g2,k*4+2,none⟩=some (.int .i64 y2)∧X.cell? ⟨g2,k*4+3,none⟩=some (.string y3) from by
       have hb:=HB.out
       have hs:=hb.size
       have e1:X.heap[g1]? =w.heap[g1]?:=(hX.block _ om).trans (hb.block _ hg1)
       have e2:X.heap[g2]? =w.heap[g2]?:=(hX.block _ om).trans (hb.block _ hg2)
       exact⟨(World.cell?_of_block (a:=⟨g1,k*4,none⟩) e1).trans x0e,(World.cell?_of_block (a:=⟨g1,k*4+1,none⟩) e1).trans x1e,(World.cell?_of_block (a:=⟨g1,k*4+2,none⟩) e1).trans x2e,(World.cell?_of_block (a:=⟨g1,k*4+3,none⟩) e1).trans x3e,(World.cell?_of_block (a:=⟨g2,k*4,none⟩) e2).trans y0e,(World.cell?_of_block (a:=⟨g2,k*4+1,none⟩) e2).trans y1e,(World.cell?_of_block (a:=⟨g2,k*4+2,none⟩) e2).trans y2e,(World.cell?_of_block (a:=⟨g2,k*4+3,none⟩) e2).trans y3e⟩))
      have hkl2:(k:Int)<(n:Int):=by omega
      have HLT:=hH hlt
      clear hx hy x0e x1e x2e x3e y0e y1e y2e y3e hdr hbb hx0 hx1 hx2 hx3 hy0 hy1 hy2 hy3 hlt hkl hg1 hg2
      go_wp2_with fail
      refine wp_region_quiet (C:=fun X=>Below wr.heap.size wr X) kr1 kr1 (show Below wr.heap.size wr wr.drew from⟨rfl,rfl,rfl,NlrQ _,fun _ _=>rfl⟩) ?_
      refine wpQuiet_step (fun K hK=>?_)
      rw[ipQ ue4]
      refine⟨.slice (some ⟨g1,0,none⟩) n c1,fun X hX=>?_,hK _ ?_⟩
      · clear hK;go_simp
      clear hK K
      simp only[Act.put,pgD,pgE,pgF]
      refine wpQuiet_step (fun K hK=>?_)
      rw[ipQ ue4]
      refine⟨.int .i64 (k:Int),fun X hX=>?_,hK _ ?_⟩
      · clear hK;go_simp
      clear hK K
      simp only[Act.put,pgD,pgE,pgF]
      refine wpQuiet_step (fun K hK=>?_)
      rw[ipQ ue4]
      refine⟨.pointer (some ⟨g1,k*4,none⟩),fun X hX=>?_,hK _ ?_⟩
      · clear hK;go_simp
      clear hK K
      simp only[Act.put,pgD,pgE,pgF]
      refine wpQuiet_step (fun K hK=>?_)
      rw[ipQ ue4]
      refine⟨.agg #[.int .i64 x0,.int .i64 x1,.int .i64 x2,.string x3],fun X hX=>?_,hK _ ?_⟩
      · clear hK;obtain⟨s0,s1,s2,s3,s4,s5,s6,s7⟩:=HCL.out X hX;go_simp
      clear hK K
      simp only[Act.put,pgD,pgE,pgF]
      refine wpQuiet_step (fun K hK=>?_)
      rw[ipQ ue4]
      refine⟨.slice (some ⟨g2,0,none⟩) n c2,fun X hX=>?_,hK _ ?_⟩
      · clear hK;go_simp
      clear hK K
      simp only[Act.put,pgD,pgE,pgF]
      refine wpQuiet_step (fun K hK=>?_)
      rw[ipQ ue4]
      refine⟨.int .i64 (k:Int),fun X hX=>?_,hK _ ?_⟩
      · clear hK;go_simp
      clear hK K
      simp only[Act.put,pgD,pgE,pgF]
      refine wpQuiet_step (fun K hK=>?_)
      rw[ipQ ue4]
      refine⟨.pointer (some ⟨g2,k*4,none⟩),fun X hX=>?_,hK _ ?_⟩
      · clear hK;go_simp
      clear hK K
      simp only[Act.put,pgD,pgE,pgF]
      refine wpQuiet_step (fun K hK=>?_)
      rw[ipQ ue4]
      refine⟨.agg #[.int .i64 y0,.int .i64 y1,.int .i64 y2,.string y3],fun X hX=>?_,hK _ ?_⟩
      · clear hK;obtain⟨s0,s1,s2,s3,s4,s5,s6,s7⟩:=HCL.out X hX;go_simp
      clear hK K
      simp only[Act.put,pgD,pgE,pgF]
      refine wpQuiet_step (fun K hK=>?_)
      rw[ipQ ue4]
      refine⟨.bool (!bb),fun X hX=>?_,hK _ ?_⟩
      · clear hK;go_simp;rw[←HBB.out];clear HBB HDR HCL;by_cases h1:x0=y0<;>by_cases h2:x1=y1<;>by_cases h3:x2=y2<;>by_cases h4:x3.toList=y3.toList<;>simp[h1,h2,h3,h4]
      clear hK K
      simp only[Act.put,pgD,pgE,pgF]
      refine wpQuiet_nil ?_
      intro X hX
      have HX:=hH (HB.out.trans (hX.mono HB.out.size))
      clear hX HCL
      cases bb
      · go_wp2_with fail
        go_ret
        exact⟨by rw[HA.out,HDR.out];rfl,HX.out⟩
      · go_wp2_with fail
        exact⟨⟨k+1,by have:=HLT.out;have:=HN.out.1;omega,by go_num,HX,hH (by rw[HA.out,HDR.out];rfl)⟩,by have:=HLT.out;simp[intOf];omega⟩
    · have HE:=hH (show eqL l m=true by rw[HA.out];exact zfY l m k (by rw[←HN.out.1];exact HN.out.2) (by rw[←HN.out.1];omega))
      have hkl2:¬(k:Int)<(n:Int):=by omega
      clear hkl hlt
      go_wp2_with fail
      go_ret
      exact⟨by rw[HE.out];rfl,HB.out⟩
 · have HE:=hH (show eqL l m=false by
    cases h:eqL l m with
    | false=>rfl
    | true=>exact absurd (Qy l m h) hd)
   have hd' :¬(l.length:Int)=(m.length:Int):=by omega
   clear h1 h2
   go_enter Tryz.func134,Tryz.ntmps134
   go_wp2_with fail
   go_ret
   exact⟨by rw[HE.out];rfl,BrQ _ _⟩
attribute [local go_sem] Oper.semAt_some
theorem zeu (w:World)(S1 S2:Nat→Prop)(v1 v2:Value)(t u:Tr)(hS1:∀x,S1 x→x<w.heap.size)(hS2:∀x,S2 x→x<w.heap.size)(ht:vL w S1 v1 t)(hu:vL w S2 v2 u)(hs1:zh t.kids+1≤400000)(hs2:zh u.kids+1≤400000):
 Calls Tryz.prog 99 #[v1,v2] w (jJ t u w):=by
 obtain⟨ka,cap,rfl,hcap,hk⟩:=ht
 obtain⟨kb,cap2,rfl,hcap2,hkb⟩:=hu
 obtain⟨n,hn⟩:∃n,n=foLen t.kids:=⟨_,rfl⟩
 obtain⟨m,hm⟩:∃m,m=foLen u.kids:=⟨_,rfl⟩
 rw[←hn,←hm]
 have hal:=zi [.cells #[.int .i64 t.id,.int .i64 t.kind,.string t.text,.slice ka n cap] 35,.cells #[.int .i64 u.id,.int .i64 u.kind,.string u.text,.slice kb m cap2] 35] w
 have hab:=zu [.cells #[.int .i64 t.id,.int .i64 t.kind,.string t.text,.slice ka n cap] 35,.cells #[.int .i64 u.id,.int .i64 u.kind,.string u.text,.slice kb m cap2] 35] w
 have kx:=hal 0 _ rfl
 rw[Nat.add_zero] at kx
 have ky:=hal 1 _ rfl
 obtain⟨V,hV⟩:∃V,V=zy w [.cells #[.int .i64 t.id,.int .i64 t.kind,.string t.text,.slice ka n cap] 35,.cells #[.int .i64 u.id,.int .i64 u.kind,.string u.text,.slice kb m cap2] 35]:=⟨_,rfl⟩
 rw[←hV] at kx ky hab
 obtain⟨SX,hSX⟩:∃SX:World→Prop,SX=fun X=>Below V.heap.size V X:=⟨_,rfl⟩
 have HSx:∀X,SX X→X.cell? ⟨w.heap.size,0,none⟩=some (.int .i64 t.id)∧X.cell? ⟨w.heap.size,1,none⟩=some (.int .i64 t.kind)∧X.cell? ⟨w.heap.size,2,none⟩=some (.string t.text)∧X.cell? ⟨w.heap.size,3,none⟩=some (.slice ka n cap)∧
  ue5 X (w.heap.size+1) u.id u.kind u.text kb m cap2:=fun X h=>by
  rw[hSX] at h
  have e1:=(h.block _ (lohQ kx)).trans kx
  have e2:=(h.block _ (lohQ ky)).trans ky
  exact⟨by rw[corQ _ _ 0 _ _ _ e1];rfl,by rw[corQ _ _ 1 _ _ _ e1];rfl,by rw[corQ _ _ 2 _ _ _ e1];rfl,by rw[corQ _ _ 3 _ _ _ e1];rfl,by rw[corQ _ _ 0 _ _ _ e2];rfl,by rw[corQ _ _ 1 _ _ _ e2];rfl,by rw[corQ _ _ 2 _ _ _ e2];rfl,by rw[corQ _ _ 3 _ _ _ e2];rfl⟩
 have hS0:SX V.drew:=by rw[hSX];exact⟨rfl,rfl,rfl,NlrQ _,fun _ _=>rfl⟩
 have HSB:=hH (fun (X Y:World) (h:SX X) (hb:Below X.heap.size X Y)=>(show SX Y by rw[hSX] at h ⊢;exact h.trans (hb.mono h.size)))
 have hwX:∀X,SX X→Below w.heap.size w X:=fun X h=>by rw[hSX] at h;exact hab.trans (h.mono hab.size)
 have HRA:Hid (∀X,SX X→Calls Tryz.prog 135 #[.agg #[.int .i64 t.id,.int .i64 t.kind,.string t.text,.slice ka n cap],.func (.func 136) #[] #[]] X (zeK X 182 4 qp (spF 1 (yI t)))):=hH fun X h=>zbE X S1 _ t (fun x hx=>nL (hS1 x hx) (hwX X h).size) ⟨ka,cap,by rw[hn],hcap,hk.kept fun x hx=>⟨hx,(hwX X h).block x (hS1 x hx)⟩⟩ hs1
 have HRB:Hid (∀X,SX X→Calls Tryz.prog 135 #[.agg #[.int .i64 u.id,.int .i64 u.kind,.string u.text,.slice kb m cap2],.func (.func 136) #[] #[]] X (zeK X 182 4 qp (spF 1 (yI u)))):=hH fun X h=>zbE X S2 _ u (fun x hx=>nL (hS2 x hx) (hwX X h).size) ⟨kb,cap2,by rw[hm],hcap2,hkb.kept fun x hx=>⟨hx,(hwX X h).block x (hS2 x hx)⟩⟩ hs2
 have HL:=hH (show (spF 1 (yI t)).length≤1000000∧(spF 1 (yI u)).length≤1000000 by rw[qU,qU,qO,qO];omega)
 have HFIN:=hH hwX
 have HV:=hH hV
 clear hS1 hS2 hcap hk hcap2 hkb hs1 hs2 hn hm hal hab kx ky hwX hSX hV
 refine (callsIn_wide (n:=8)).1 ?_
 refine callsIn_of_wp_marks Tryz.func99 rfl trivial ?_ rfl
 simp only[Tryz.ntmps99,List.size_toArray,LlcQ,List.length_nil,Nat.reduceAdd,Nat.reduceSub,Array.replicate_succ,Array.replicate_zero,List.push_toArray,List.append_toArray,List.nil_append,List.cons_append]
 gi_wp2_with fail
 change Code.wpIn _ _ _ _ _ _ (zy w [.cells #[.int .i64 t.id,.int .i64 t.kind,.string t.text,.slice ka n cap] 35,.cells #[.int .i64 u.id,.int .i64 u.kind,.string u.text,.slice kb m cap2] 35])
 rw[←HV.out]
 refine zaj (S:=SX) kr1 ?_
 have eH:=hS0
 clear hS0
 refine zL1 (i:=0) (.agg #[.int .i64 t.id,.int .i64 t.kind,.string t.text,.slice ka n cap]) rfl ?_ ?_
 · clear eH;intro X hSw;obtain⟨s0,s1,s2,s3,s4,s5,s6,s7⟩:=HSx X hSw;clear hSw;go_simp
 simp only[Act.put,pg]
 refine zL1 (i:=2) (.agg #[.int .i64 u.id,.int .i64 u.kind,.string u.text,.slice kb m cap2]) rfl ?_ ?_
 · clear eH;intro X hSw;obtain⟨s0,s1,s2,s3,s4,s5,s6,s7⟩:=HSx X hSw;clear hSw;go_simp
 simp only[Act.put,pg]
 refine yT (i:=1) (o:=_) kr1 rfl fun K1 hK1=>?_
 rw[ipQ ue4]
 simp only[pg3]
 have HK1:=hH hK1
 have HH1:=hH eH
 clear hK1 eH
 gi_wp2_with (refine⟨trivial,?_⟩;gi_at_call 135;refine (callsIn_wide.2 (HRA.out _ HH1.out)).mono ?_;rintro e X1 ⟨va,rfl,hoa,hb⟩;have HX1:=hH (aN hoa hb);clear hoa hb)
 have eH:=HSB.out _ X1 HH1.out HX1.out.2
 refine HK1.out _ _ eH ?_
 clear HK1
 refine yT (i:=3) (o:=_) kr1 rfl fun K3 hK3=>?_
 rw[ipQ ue4]
 simp only[pg3]
 have HK3:=hH hK3
 have HH3:=hH eH
 clear hK3 eH
 gi_wp2_with (refine⟨trivial,?_⟩;gi_at_call 135;refine (callsIn_wide.2 (HRB.out _ HH3.out)).mono ?_;rintro e X3 ⟨vb,rfl,hob,hb⟩;have HX3:=hH (aN hob hb);clear hob hb)
 have eH:=HSB.out _ X3 HH3.out HX3.out.2
 refine HK3.out _ _ eH ?_
 clear HK3
 refine yT (i:=4) (o:=_) kr1 rfl fun K4 hK4=>?_
 rw[ipQ ue4]
 simp only[pg3]
 have HK4:=hH hK4
 have HH4:=hH eH
 clear hK4 eH
 gi_wp2_with (refine⟨trivial,?_⟩;gi_at_call 134;refine (callsIn_wide.2 (za0 X3 _ _ va vb _ _ (zR HX1.out.1 (fun g cur hc hg=>HX3.out.2.block g (lohQ hc))) HX3.out.1 HL.out.1 HL.out.2)).mono ?_;rintro e X4 ⟨rfl,hb⟩;rw[ze3];have HX4:=hH hb;clear hb)
 have eH:=HSB.out _ X4 HH4.out HX4.out
 refine HK4.out _ _ eH ?_
 clear HK4
 refine zG1 (i:=5) ((.bool (zL t u))) rfl ?_
 simp only[Act.put,pg]
 refine kr kr1 ⟨rfl,?_⟩ _
 have HE:=hH (HFIN.out _ eH)
 clear eH HSx
 gi_wp2
 exact⟨_,results_tmp rfl _ _ _,rfl,HE.out⟩
end Go.Proofs.YtoidedomenkbpaaGreat
