/-
  .
-/
import Derived.Test.YtoidedomenkbpaaGreatETSameQr
set_option maxRecDepth 100000
set_option maxHeartbeats 40000000
set_option linter.unusedVariables false
set_option linter.unusedSimpArgs false
namespace Go.Proofs.YtoidedomenkbpaaGreat
open Go.RowKit
theorem zbM (d:Nat):∀(f:Fo) (b o:Nat) (k:Int×Int×ByteArray) (l:Fo),spF d (qK f b o k l)=spF d f++((d,k,l)::spF (d+1) l)
 | .nil,_,_,_,_=>by simp[qK,spF]
 | .node _ _ _ l' r,b,o,k,l=>by simp[qK,spF,zbM d r b o k l,List.append_assoc]
def spT (d:Nat)(t:Tr):List Sp:=(d,(t.id,t.kind,t.text),t.kids)::spF (d+1) t.kids
theorem zfr (t:Tr):spT 1 t=spF 1 (yI t):=by simp[spT,yI,spF]
def Yq (w:World)(S:Nat→Prop)(xs:List Value)(i:Nat)(x:Sp):Prop:=
 xs[i*5]? =some (.int .i64 x.2.1.1)∧xs[i*5+1]? =some (.int .i64 x.2.1.2.1)∧xs[i*5+2]? =some (.string x.2.1.2.2)∧(∃ka cap,xs[i*5+3]? =some (.slice ka (foLen x.2.2) cap)∧foLen x.2.2≤cap∧zK w S x.2.2 ka)∧xs[i*5+4]? =some (.int .i64 (x.1:Int))
def jO (S:Nat→Prop)(w:World)(B:Nat)(rv:Value)(n:Nat)(T:List Sp):Prop:=T.length=n∧∃xs,w.ownsRow B 95 5 rv n xs∧∀i x,T[i]? =some x→Yq w S xs i x
theorem Yq.kept {w w' :World}{S:Nat→Prop}{xs:List Value}{i:Nat}{x:Sp}(h:Yq w S xs i x)(hk:∀k,S k→w'.heap[k]? =w.heap[k]?):Yq w' S xs i x:=by
 obtain⟨a,b,c,⟨ka,cap,e,f,g⟩,z⟩:=h
 exact⟨a,b,c,⟨ka,cap,e,f,g.kept fun k hs=>⟨hs,hk k hs⟩⟩,z⟩
theorem jO.bounds {S:Nat→Prop}{w:World}{B:Nat}{rv:Value}{n:Nat}{T:List Sp}(h:jO S w B rv n T){g:Nat}(hg:rv.ownBlock=some g):B≤g∧g<w.heap.size:=by
 obtain⟨_,xs,ho,_⟩:=h
 exact zO ho hg
theorem jF.zhN {S:Nat→Prop}{w wr:World}{B n:Nat}{rv l:Value}{T:List Sp}(h:jF w wr rv l)(hs:jO S w B rv n T)(hB:B≤w.heap.size):∀k,k<B→wr.heap[k]? =w.heap[k]?:=fun k hk=>
 h.1.block k om (fun e=>by have:=(hs.bounds e.symm).1;omega)
theorem zbN {w w' :World}{S:Nat→Prop}{xs:List Value}{n:Nat}{T:List Sp}{x:Sp}{ka:Option Addr}{cap:Nat}(hl:xs.length=n*5)(hT:T.length=n)(hx:∀i y,T[i]? =some y→Yq w S xs i y)(hk:∀k,S k→w'.heap[k]? =w.heap[k]?)(hc:foLen x.2.2≤cap)(hf:zK w' S x.2.2 ka):
 ∀i y,(T++[x])[i]? =some y→Yq w' S (xs++[.int .i64 x.2.1.1,.int .i64 x.2.1.2.1,.string x.2.1.2.2,.slice ka (foLen x.2.2) cap,.int .i64 (x.1:Int)]) i y:=fun i y hi=>by
 by_cases h:i<n
 · rw[List.getElem?_append_left om] at hi
   obtain⟨a,b,c,⟨kb,cb,e,f,g⟩,z⟩:=(hx i y hi).kept hk
   exact⟨by rw[List.getElem?_append_left om];exact a,by rw[List.getElem?_append_left om];exact b,by rw[List.getElem?_append_left om];exact c,⟨kb,cb,by rw[List.getElem?_append_left om];exact e,f,g⟩,by rw[List.getElem?_append_left om];exact z⟩
 · have hil:=(List.getElem?_eq_some_iff.1 hi).1
   have:i=n:=by simp at hil;omega
   subst this
   rw[List.getElem?_append_right om,hT,Nat.sub_self] at hi
   simp at hi
   subst hi
   refine⟨?_,?_,?_,⟨ka,cap,?_,hc,hf⟩,?_⟩<;>(rw[List.getElem?_append_right om,hl];simp)
theorem zcr {P:Program}{e:TypeId}{size bytes:Nat}(h:(P.info? e).map (fun i=>(i.size,i.bytes,i.zero.map (fun z=>z.cells.size)))=some (size,bytes,some size)):
 ∃i z,P.info? e=some i∧i.zero=some z∧i.size=size∧i.bytes=bytes∧z.cells.size=size:=by
 exact se0
theorem zcP {α:Type}(M:Nat)(A B:List α):((A.take M)++B).take M=(A++B).take M:=by
 rw[List.take_append,List.take_append,List.take_take,Nat.min_self,List.length_take]
 congr 2
 omega
structure Sl where
 kinds:List Int
 least:Int
 most:Int
structure Kd where
 name:ByteArray
 text:Bool
 slots:List Sl
instance:Inhabited Sl:=⟨⟨[],0,0⟩⟩
instance:Inhabited Kd:=⟨⟨⟨#[]⟩,false,[]⟩⟩
end Go.Proofs.YtoidedomenkbpaaGreat
namespace Go.Proofs.YtoidedomenkbpaaGreat
open Go.RowKit Go.Shelf
theorem vC (w:World)(o:Obj):Below w.heap.size w (w.alloc o):=(BrQ _ _).alloc (NlrQ _) _
end Go.Proofs.YtoidedomenkbpaaGreat
namespace Go.Proofs.YtoidedomenkbpaaGreat
def fresh (l:List Kd)(s:List UInt8):Bool:=l.all fun k=>decide (k.name.data.toList≠s)
def apart:List Kd→Bool
 | []=>true
 | k::r=>fresh r k.name.data.toList && apart r
end Go.Proofs.YtoidedomenkbpaaGreat
namespace Go.Proofs.YtoidedomenkbpaaGreat
open Go.RowKit
def Ahead (l:List Int)(k:Nat)(a:Int):Prop:=(k=0→a= -1)∧∀m,k=m+1→l[m]? =some a
end Go.Proofs.YtoidedomenkbpaaGreat
namespace Go.Proofs.YtoidedomenkbpaaGreat
open Go.RowKit Go.Shelf
open Go.Maps
attribute [local go_sem] Oper.semAt_some
def okF (l:List Sp):Prop:=∀x∈l,(x.2.1.2.2.size:Int)≤9223372036854775807∧(Lit.int .i64 x.2.1.1).wf=true
section
variable {P:Program} {H:Type} {n:Nat}
end
end Go.Proofs.YtoidedomenkbpaaGreat
namespace Go.Proofs.YtoidedomenkbpaaGreat
open Go.RowKit
def zir (S:Nat→Prop)(w:World)(B:Nat)(rv:Value)(T:List Sp)(M d:Nat)(t:Tr)(e:Ending)(w' :World):Prop:=
 ∃rv',e= .returned rv'∧jO S w' B rv' ((T++spT d t).take M).length ((T++spT d t).take M)∧jF w w' rv rv'
def zdu (S:Nat→Prop)(w:World)(B:Nat)(rv:Value)(T:List Sp)(M:Nat)(x:Sp)(c1:Array Value)(ks:Fo)(len:Nat)(l i:Value)(wr:World):Prop:=
 ∃(k:Nat) (L:List Sp),k≤len∧i= .int .i64 (k:Nat)∧Hid (L=(T++(x::spF (x.1+1) (zG k ks))).take M)∧jO S wr B l L.length L∧jF w wr rv l∧wr.heap[w.heap.size]? =some (.cells c1 35 (0,0))∧T.length+1≤L.length∧L.length≤M
theorem zcH (M:Nat)(hM:M≤2000000):∀(m:Nat) (w:World) (S:Nat→Prop) (v:Value) (t:Tr) (B:Nat) (rv:Value) (n:Nat) (T:List Sp) (d:Nat),zh t.kids<m→foLen t.kids≤9223372036854775807→vY t.kids→(∀k,S k→k<B)→B≤w.heap.size→vL w S v t→
 jO S w B rv n T→n≤M→d≤n+1→
 Calls Tryz.prog 87 #[rv,v,.int .i64 (d:Int),.int .i64 (M:Int)] w (zir S w B rv T M d t):=by
 intro m
 induction m with
 | zero=>intro w S v t B rv n T d h;omega
 | succ m ih=>
   intro w S v t B rv n T d hm hm5 hfit hS hB hv hrow hnM hd1
   obtain⟨ka,cap,rfl,hcpt,hk⟩:=hv
   obtain⟨id,kd,tx,ks⟩:=t
   simp only at hk hm hcpt hm5 hfit
   simp only
   obtain⟨hT,xs,ho,hxs⟩:=hrow
   obtain⟨ra,rcap,rfl⟩:=zZ ho
   obtain⟨len,hlen⟩:∃len,len=foLen ks:=⟨_,rfl⟩
   have hlen2:len≤9223372036854775807:=by omega
   rw[←hlen] at hcpt ⊢
   have HN:=hH (aN hm hfit)
   have HLEN:=hH (aN hlen hcpt)
   have HK:=hH hk
   have HSS:=hH (aN hS hB)
   have HIH:=hH ih
   have HO:=hH (aN ho hxs)
   have HT:=hH hT
   have HD:=hH hd1
   have hdM:(d:Int)≤2000001:=by omega
   have hd0:(0:Int)≤(d:Int):=by omega
   have hn5:n≤2000000:=by omega
   clear hlen hk hm hm5 hfit hS hB ih ho hxs hT hcpt hd1
   by_cases hful:M≤n
   · have hMn:(M:Int)≤(n:Int):=by omega
     have HF:=hH (show (T++spT d ⟨id,kd,tx,ks⟩).take M=T by rw[List.take_append_of_le_length (by rw[HT.out];exact hful),List.take_of_length_le (by rw[HT.out];exact hnM)])
     clear hful
     go_enter Tryz.func87,Tryz.ntmps87
     go_wp2_with fail
     go_ret
     refine⟨_,rfl,?_,jF.box _⟩
     rw[HF.out,HT.out]
     exact⟨HT.out,xs,HO.out.1.alloc _,fun i x hi=>(HO.out.2 i x hi).kept fun k hk=>BhaQ _ _ _ (nL (HSS.out.1 k hk) HSS.out.2)⟩
   have hnn:¬(M:Int)≤(n:Int):=by omega
   have hnM1:n+1≤M:=by omega
   have HFN:=hH hful
   clear hful
   go_enter Tryz.func87,Tryz.ntmps87
   obtain⟨i0,z0,hi0,hz0,hz1,hz2,hz3⟩:=zcr Tryz.zfc
   have hnew:((w.alloc (.cells #[.int .i64 id,.int .i64 kd,.string tx,.slice ka len cap] 35)).alloc (.cells #[.int .i64 id,.int .i64 kd,.string tx,.slice ka len cap,.int .i64 (d:Int)] 95)).heap[w.heap.size+1]? =some (.cells #[.int .i64 id,.int .i64 kd,.string tx,.slice ka len cap,.int .i64 (d:Int)] 95 (0,0)):=heap_alloc2_new w _ _
   have HNEW:=hH hnew
   have hBw:B≤w.heap.size:=HSS.out.2
   clear hnew
   go_wp2_with (at_builtin;refine wpList_append_lies _ rfl (.tmp 15) (.tmp 19) _ rfl B 95 i0 z0 5 64 Tryz.underlying53 hi0 hz0 hz1 hz2 hz3 om (.slice ra n rcap) n xs rfl ((HO.out.1.alloc _).alloc _) ⟨w.heap.size+1,0,none⟩ 1 1 [.int .i64 id,.int .i64 kd,.string tx,.slice ka len cap,.int .i64 (d:Int)] rfl rfl (World.news_of_block (cs:= #[.int .i64 id,.int .i64 kd,.string tx,.slice ka len cap,.int .i64 (d:Int)]) (t:=95) (fr:=(0,0)) HNEW.out) ud1 om ud2 om ue1 (w.heap.size+1+1) sp1 ?_;intro gg cap' w1 hown1 hgrow hat hlt1)
   have hg1:jF w w1 (.slice ra n rcap) (.slice (some ⟨gg,0,none⟩) (n+1) cap'):=jF.first hgrow hat
   have hsp0:jO S w B (.slice ra n rcap) n T:=⟨HT.out,xs,HO.out⟩
   have hlow1:=hg1.zhN hsp0 hBw
   have hsp1:jO S w1 B (.slice (some ⟨gg,0,none⟩) (n+1) cap') (n+1) (T++[(d,(id,kd,tx),ks)]):=⟨by rw[LlaQ,HT.out];rfl,_,hown1,by
    have:=zbN (x:=(d,(id,kd,tx),ks)) (ka:=ka) (cap:=cap) HO.out.1.1 HT.out HO.out.2 (w':=w1) (fun k hk=>hlow1 k (HSS.out.1 k hk)) (by show foLen ks≤cap;rw[←HLEN.out.1];exact HLEN.out.2) (HK.out.kept fun x hx=>⟨hx,hlow1 x (HSS.out.1 x hx)⟩)
    simp only[←HLEN.out.1] at this
    exact this⟩
   have hob:∀g,(Value.slice ra n rcap).ownBlock=some g→g<w.heap.size:=fun g hg=>(zO HO.out.1 hg).2
   have hbox:w1.heap[w.heap.size]? =some (.cells #[.int .i64 id,.int .i64 kd,.string tx,.slice ka len cap] 35 (0,0)):=by
    rw[hgrow.block _ ue1 (fun e=>by have:=hob _ e.symm;omega)];exact heap_alloc2_old w _ _
   have HG:=hH (aN hg1 (aN hsp1 (aN hob hbox)))
   clear hg1 hsp1 hob hbox hgrow hown1 hat hsp0 hlow1
   go_loopw [0,9] (fun l i wr=>zdu S w B (.slice ra n rcap) T M (d,(id,kd,tx),ks) #[.int .i64 id,.int .i64 kd,.string tx,.slice ka len cap] ks len l i wr) (fun _ i _=>len - (intOf i).toNat)
   case atStart=>exact⟨0,T++[(d,(id,kd,tx),ks)],NzlQ _,rfl,hH (by simp only[zG,spF];rw[List.take_of_length_le (by rw[LlaQ,HT.out];exact hnM1)]),by rw[LlaQ,HT.out];exact HG.out.2.1,HG.out.1,HG.out.2.2.2,by simp,by rw[LlaQ,HT.out];exact hnM1⟩
   case round=>
    obtain⟨k,L,hk,rfl,HL,hsp,hgr,hbx,hTL,hLM⟩:=hrel
    have p1:wr.cell? ⟨w.heap.size,3,none⟩=some (.slice ka len cap):=by rw[corQ wr _ 3 _ _ _ hbx];rfl
    have HR:=hH (aN hsp (aN hgr (aN hbx hTL)))
    clear hsp hgr hbx hTL
    by_cases hlt:k<len
    · have hlow:=HR.out.2.1.zhN ⟨HT.out,xs,HO.out⟩ hBw
      have hk1:zK wr S ks ka:=HK.out.kept fun x hx=>⟨hx,hlow x (HSS.out.1 x hx)⟩
      obtain⟨b0,o0,⟨ki,kk,kt⟩,l',r,hd1',b,off,a1,n1,rfl,hSb,c0,c1,c2,c3,hcp,hl1⟩:=hk1.at k uc3
      obtain⟨_,_,_,_,_,e1,e2,hsz1,htk⟩:=yL k ks uc3
      rw[hd1'] at e1;cases e1
      have hft:=kv k HN.out.2 hd1'
      have hcall:=HIH.out wr S (.agg #[.int .i64 ki,.int .i64 kk,.string kt,.slice a1 (foLen l') n1]) ⟨ki,kk,kt,l'⟩ B u0 L.length L (d+1) ub8 hft.1 hft.2 HSS.out.1 (NltQ hBw HR.out.2.1.1.size) ⟨a1,n1,rfl,hcp,hl1⟩ HR.out.1 hLM (by have:=HD.out;have:=HR.out.2.2.2;have:=HT.out;omega)
      obtain⟨m1,hm1⟩:∃m,m=foLen l':=⟨_,rfl⟩
      rw[←hm1] at hcall c3
      simp only at c0 c1 c2
      have hcast:(((d+1:Nat)):Int)=(d:Int)+1:=by omega
      rw[hcast] at hcall
      have HC:=hH hcall
      have htk2:spF (d+1) (zG (k+1) ks)=spF (d+1) (zG k ks)++((d+1,(ki,kk,kt),l')::spF (d+1+1) l'):=by rw[htk,zbM]
      have HTK:=hH htk2
      have hkl:(k:Int)<(len:Int):=by omega
      clear hk1 hlow hd1' hcall hm1 htk htk2 hl1 hsz1 hSb e2 hcp hcast hft
      go_wp2_with fail
      refine HC.out.mono ?_
      rintro e w2 ⟨l2,rfl,hsp2,hg2⟩
      have HE:=hH (aN hsp2 hg2)
      clear hsp2 hg2
      go_wp2_with fail
      have hne:some w.heap.size≠u0.ownBlock:=fun e=>by
       rcases HR.out.2.1.2 with h | h
       · have:=HG.out.2.2.1 _ (h.symm.trans e.symm);omega
       · have:=h _ e.symm;omega
      have hLL:(L++spT (d+1) ⟨ki,kk,kt,l'⟩).take M=(T++((d,(id,kd,tx),ks)::spF (d+1) (zG (k+1) ks))).take M:=by
       rw[HL.out,zcP,HTK.out]
       simp[spT,List.append_assoc]
      have hle:L.length≤((L++spT (d+1) ⟨ki,kk,kt,l'⟩).take M).length:=by
       rw[List.length_take,LlaQ];omega
      refine⟨⟨k+1,(L++spT (d+1) ⟨ki,kk,kt,l'⟩).take M,by omega,by go_num,hH hLL,HE.out.1,HR.out.2.1.trans HE.out.2,(HE.out.2.1.block _ (lt_of_some HR.out.2.2.1) hne).trans HR.out.2.2.1,by have:=HR.out.2.2.2;omega,by rw[List.length_take];omega⟩,by simp[intOf];omega⟩
    · have hkk:k=len:=by omega
      have HKK:=hH hkk
      have hkl:¬(k:Int)<(len:Int):=by omega
      clear hkk
      go_wp2_with fail
      go_ret
      refine⟨_,rfl,?_,HR.out.2.1⟩
      have h:=HR.out.1
      have hL:=HL.out
      rw[qL k ks (by rw[HKK.out,HLEN.out.1];exact NlrQ _)] at hL
      show jO S _ B _ ((T++spT d ⟨id,kd,tx,ks⟩).take M).length ((T++spT d ⟨id,kd,tx,ks⟩).take M)
      have e:(T++spT d ⟨id,kd,tx,ks⟩).take M=L:=hL.symm
      rw[e]
      exact h
def WalkM (w:World)(S:Nat→Prop)(t:Tr)(M:Nat)(e:Ending)(w' :World):Prop:=∃a cap,e= .returned (.slice a ((spF 1 (yI t)).take M).length cap)∧jO S w' w.heap.size (.slice a ((spF 1 (yI t)).take M).length cap) ((spF 1 (yI t)).take M).length ((spF 1 (yI t)).take M)∧Below w.heap.size w w'
theorem zew (M:Nat)(hM:M≤2000000)(w:World)(S:Nat→Prop)(v:Value)(t:Tr)(hlen:foLen t.kids≤9223372036854775807)(hfit:vY t.kids)(hS:∀k,S k→k<w.heap.size)(hv:vL w S v t):
 Calls Tryz.prog 36 #[v,.int .i64 (M:Int)] w (WalkM w S t M):=by
 obtain⟨ka,cap,rfl,hcp,hk⟩:=hv
 have hb:Below w.heap.size w (w.alloc (.cells #[.int .i64 t.id,.int .i64 t.kind,.string t.text,.slice ka (foLen t.kids) cap] 35)):=(BrQ _ _).alloc (NlrQ _) _
 have hc:=zcH M hM _ (w.alloc (.cells #[.int .i64 t.id,.int .i64 t.kind,.string t.text,.slice ka (foLen t.kids) cap] 35)) S _ t w.heap.size (.slice none 0 0) 0 [] 1 (Nat.lt_succ_self _) hlen hfit hS hb.size ⟨ka,cap,rfl,hcp,hk.below hb hS⟩ ⟨rfl,[],World.ownsRow_nil _ _ _ _,fun i p hi=>by simp at hi⟩ (NzlQ _) om
 have HC:=hH (aN hc hb)
 clear hc hb hk hS hcp hlen hfit
 obtain⟨len,hl⟩:∃len,len=foLen t.kids:=⟨_,rfl⟩
 rw[←hl] at HC
 rw[←hl]
 clear hl
 go_enter Tryz.func36,Tryz.ntmps36
 go_wp2_with fail
 refine HC.out.1.mono ?_
 rintro e w2 ⟨rv,rfl,hsp,hg⟩
 have hb2:Below w.heap.size w w2:=HC.out.2.trans ⟨hg.1.os,hg.1.tape,hg.1.output,hg.1.size,fun k hk=>hg.1.block k (by have:=HC.out.2.size;omega) (by simp[Value.ownBlock])⟩
 have hsp':=hsp
 obtain⟨hT,xs,ho,_⟩:=hsp
 obtain⟨a,cap',rfl⟩:=zZ ho
 have HE:=hH (aN hsp' hb2)
 clear hsp' ho hg hT
 rw[List.nil_append,zfr] at HE ⊢
 obtain⟨q,hq⟩:∃q,q=((spF 1 (yI t)).take M).length:=⟨_,rfl⟩
 rw[←hq] at HE ⊢
 have HQ:=hH hq
 clear hq
 go_wp2_with fail
 go_ret
 exact⟨_,_,by rw[←HQ.out];rfl,by rw[←HQ.out];exact HE.out.1,HE.out.2⟩
theorem Tryz.qY:(Tryz.prog.info? 3).map (fun i=>(i.zero,i.size,i.bytes))=some (some (.int .i64 0),1,8):=by kernel_rfl
def zcs (n:Int):Value:= .int .i64 n
end Go.Proofs.YtoidedomenkbpaaGreat
namespace Go.Proofs.YtoidedomenkbpaaGreat
open Go.RowKit Go.Shelf
def JX (w:World)(S:Nat→Prop)(u:Tr)(b off:Nat):Prop:=S b∧w.cell? ⟨b,off,none⟩=some (.int .i64 u.id)∧w.cell? ⟨b,off+1,none⟩=some (.int .i64 u.kind)∧w.cell? ⟨b,off+2,none⟩=some (.string u.text)∧∃ka kc,w.cell? ⟨b,off+3,none⟩=some (.slice ka (foLen u.kids) kc)∧foLen u.kids≤kc∧zK w S u.kids ka
theorem ze9:∀(f:Fo) {w:World} {S:Nat→Prop} {b off:Nat},zK w S f (some ⟨b,off,none⟩)→∃xs,vO w S f xs∧xs.length=foLen f*4∧(∀j u,xs[j]? =some u→w.cell? ⟨b,off+j,none⟩=some u)∧∀u∈xs,u.oneCell'=true
 | .nil,_,_,_,_,_=>⟨[],rfl,rfl,fun _ _ h=>by simp at h,fun _ h=>by cases h⟩
 | .node _ _ k l r,w,S,b,off,h=>by
   obtain⟨b',off',ka,kc,e,hb,c0,c1,c2,c3,hcp,hkl,hr⟩:=h
   cases e
   obtain⟨ys,h1,h2,h3,h4⟩:=ze9 r hr
   refine⟨[.int .i64 k.1,.int .i64 k.2.1,.string k.2.2,.slice ka (foLen l) kc]++ys,⟨ka,kc,ys,rfl,hcp,hkl,h1⟩,by rw[LlaQ,h2];simp[foLen];omega,fun j u hu=>?_,fun u hu=>?_⟩
   · match j,hu with
     | 0,hu=>simp at hu;subst hu;exact c0
     | 1,hu=>simp at hu;subst hu;exact c1
     | 2,hu=>simp at hu;subst hu;exact c2
     | 3,hu=>simp at hu;subst hu;exact c3
     | j +4,hu=>
       have:=h3 j u (by simpa using hu)
       rw[show off+(j+4)=off+4+j by omega];exact this
   · rcases List.mem_append.1 hu with hu | hu
     · simp only[List.mem_cons,List.not_mem_nil,or_false] at hu
       rcases hu with rfl | rfl | rfl | rfl<;>rfl
     · exact h4 u hu
theorem zf5 (f:Fo){w:World}{S:Nat→Prop}{a:Option Addr}(h:zK w S f a):∃xs,vO w S f xs∧xs.length=foLen f*4∧(∀ad,a=some ad→∀j u,xs[j]? =some u→w.cell? (ad.add j)=some u)∧(∀u∈xs,u.oneCell'=true):=by
 cases f with
 | nil=>exact⟨[],rfl,rfl,fun _ _ _ _ h=>by simp at h,fun _ h=>by cases h⟩
 | node b0 o0 k l r=>
   have h':=h
   obtain⟨b',off',ka,kc,e,_⟩:=h'
   subst e
   obtain⟨xs,h1,h2,h3,h4⟩:=ze9 _ h
   exact⟨xs,h1,h2,fun ad hd j u hu=>by cases hd;rw[Addr.add_mid];exact h3 j u hu,h4⟩
theorem Yy {f:Fo}{i:Nat}{u:Tr}(h:kP f i=some u):zh u.kids+1≤zh f:=by
 have h2:=za3 h
 have h3:∀(j:Nat) (f:Fo),zh (zT j f)≤zh f:=by
  intro j
  induction j with
  | zero=>intro f;rw[za4];exact NlrQ _
  | succ j ih=>intro f;cases f with
    | nil=>exact NlrQ _
    | node b o a l r=>have:=ih r;simp only[zT,zh];omega
 have:=h3 i f
 omega
theorem zaG {w:World}{b:Nat}{c0 c1 c2 c3:Value}{T:TypeId}(h:w.heap[b]? =some (.cells #[c0,c1,c2,c3] T (0,0))):w.cell? ⟨b,0,none⟩=some c0∧w.cell? ⟨b,1,none⟩=some c1∧w.cell? ⟨b,2,none⟩=some c2∧w.cell? ⟨b,3,none⟩=some c3:=
 ⟨by rw[corQ _ _ 0 _ _ _ h];rfl,by rw[corQ _ _ 1 _ _ _ h];rfl,by rw[corQ _ _ 2 _ _ _ h];rfl,by rw[corQ _ _ 3 _ _ _ h];rfl⟩
theorem yl {P:Program}{fn:Func}{p u:Tmp}{ty:TypeId}(h:fn.results= #[.cell p ty,.tmp u])(tmps:Array Value)(w:World)(g:Nat)(t:TypeId)(cs:Array Value)(fr:Nat×Nat)(d:TypeDesc)(x:Value)
 (hp:tmps.getD p undef= .pointer (some ⟨g,0,none⟩)) (hg:w.heap[g]? =some (.cells cs t fr)) (hu:P.underlying ty=some d) (hd:(match d with | .struct _ | .array _ _=>true | _=>false)=true) (hi:(P.info? ty).map (·.size)=some cs.size) (hp2:tmps.getD u undef=x):
 (results fn tmps).run P w= .ok (.tuple #[.agg cs,x]) w:=by
 have hp' :tmps[p]?.getD undef= .pointer (some ⟨g,0,none⟩):=by simpa using hp
 have hp2' :tmps[u]?.getD undef=x:=by simpa using hp2
 simp[results,h,hp',hp2',asAddr,run_loadVar_row w g t ty cs fr d hg hu hd hi]
theorem QD {V:World}{R1:Nat}{c0 c1 c2 c3 u0 u1 u2 u3:Value}(h2:V.heap[R1]? =some (.cells #[c0,c1,c2,c3] 35 (0,0))):
 ∃V5,V5=((((V.setCell ⟨R1,0,none⟩ u0).setCell ⟨R1,1,none⟩ u1).setCell ⟨R1,2,none⟩ u2).setCell ⟨R1,3,none⟩ u3)∧V5.heap[R1]? =some (.cells #[u0,u1,u2,u3] 35 (0,0))∧(∀y,y≠R1→V5.heap[y]? =V.heap[y]?)∧V5.os=V.os∧V5.tape=V.tape∧V5.output=V.output∧V5.heap.size=V.heap.size:=by
 have g1:=hssQ V R1 0 _ _ u0 h2
 have g2:=hssQ _ R1 1 _ _ u1 g1
 have g3:=hssQ _ R1 2 _ _ u2 g2
 have g4:=hssQ _ R1 3 _ _ u3 g3
 refine⟨_,rfl,by simpa using g4,fun y hy=>?_,rfl,rfl,rfl,by simp[World.setCell]⟩
 rw[BhsQ _ _ _ _ hy,BhsQ _ _ _ _ hy,BhsQ _ _ _ _ hy,BhsQ _ _ _ _ hy]
def NB (X:World)(y:Nat):Prop:=∃cs,X.heap[y]? =some (.cells cs 35 (0,0))
def SN (S:Nat→Prop)(B0:Nat)(X:World)(y:Nat):Prop:=S y∨(y≠B0+1∧B0≤y∧NB X y)
theorem NB.lt {X:World}{y:Nat}(h:NB X y):y<X.heap.size:=by obtain⟨cs,h⟩:=h;exact lt_of_some h
theorem SN.lt {S:Nat→Prop}{B0:Nat}{X:World}(hS:∀y,S y→y<B0)(hB:B0≤X.heap.size){y:Nat}(h:SN S B0 X y):y<X.heap.size:=by
 rcases h with h | h
 · have:=hS y h;omega
 · exact h.2.2.lt
theorem NB.YP {X Y:World}{y:Nat}(h:NB X y)(e:Y.heap[y]? =X.heap[y]?):NB Y y:=by obtain⟨cs,h⟩:=h;exact⟨cs,e.trans h⟩
theorem Zn {w:World}{B:Nat}{e:TypeId}{size:Nat}{v:Value}{n:Nat}{xs:List Value}(h:w.ownsRow B e size v n xs){g:Nat}(hg:v.ownBlock=some g):∃cur,w.heap[g]? =some (.cells cur e (0,0)):=by
 rcases h.2 with ⟨hv,_⟩ | ⟨g',cap,cur,hv,hB,hh,_⟩
 · rw[hv] at hg;cases hg
 · rw[hv] at hg;cases hg;exact⟨cur,hh⟩
theorem zc7 {Y:World}{S:Nat→Prop}{g:Nat}(hg:S g):∀(l:Fo) (b off go:Nat),(∀j,j<foLen l*4→Y.cell? ⟨g,go+j,none⟩=Y.cell? ⟨b,off+j,none⟩)→zK Y S l (some ⟨b,off,none⟩)→zK Y S l (some ⟨g,go,none⟩)
 | .nil,_,_,_,_,_=>True.intro
 | .node _ _ k l r,b,off,go,hc,h=>by
   obtain⟨b',off',ka,cap,e,hb,h0,h1,h2,h3,hcp,hl,hr⟩:=h
   cases e
   have c0:=hc 0 uc0
   have c1:=hc 1 uc0
   have c2:=hc 2 uc0
   have c3:=hc 3 uc0
   refine⟨g,go,ka,cap,rfl,hg,c0.trans h0,c1.trans h1,c2.trans h2,c3.trans h3,hcp,hl,zc7 hg r _ _ _ (fun j hj=>?_) hr⟩
   have:=hc (4+j) uc0
   rw[Nat.add_assoc,Nat.add_assoc];exact this
theorem j6 {Y:World}{S:Nat→Prop}{g off n c c' :Nat}{ka ka' :Option Addr}(h3:Y.cell? ⟨g,off,none⟩=some (.slice ka n c))(hc:n≤c')(hcopy:∀l,foLen l=n→zK Y S l ka→zK Y S l ka'):
 ∀(f:Fo) (a:Option Addr),zK Y S f a→zK (Y.setCell ⟨g,off,none⟩ (.slice ka' n c')) S f a
 | .nil,_,_=>True.intro
 | .node _ _ k l r,a,h=>by
   obtain⟨b,o,kb,cap,e,hb,h0,h1,h2,h4,hcp,hl,hr⟩:=h
   have hoth:∀j v,Y.cell? ⟨b,j,none⟩=some v→(∀x m q,v≠ .slice x m q)→(Y.setCell ⟨g,off,none⟩ (.slice ka' n c')).cell? ⟨b,j,none⟩=some v:=fun j v hv hne=>by
    rw [World.cell?_setCell_other _ _ _ _ (by
     intro he
     rw[←he,h3] at hv
     exact hne _ _ _ (Option.some.inj hv).symm)]
    exact hv
   refine⟨b,o,?_⟩
   by_cases he:b=g∧o+3=off
   · obtain⟨rfl,rfl⟩:=he
     rw[h3] at h4
     cases h4
     refine⟨ka',c',e,hb,hoth _ _ h0 (by intros;simp),hoth _ _ h1 (by intros;simp),hoth _ _ h2 (by intros;simp),?_,hc,j6 h3 hc hcopy l ka' (hcopy l rfl hl),j6 h3 hc hcopy r _ hr⟩
     exact World.cell?_setCell_same' Y _ _ (by rw[h3];rfl)
   · refine⟨kb,cap,e,hb,hoth _ _ h0 (by intros;simp),hoth _ _ h1 (by intros;simp),hoth _ _ h2 (by intros;simp),?_,hcp,j6 h3 hc hcopy l kb hl,j6 h3 hc hcopy r _ hr⟩
     rw[World.cell?_setCell_other _ _ _ _ (by intro h;cases h;exact he ⟨rfl,rfl⟩)]
     exact h4
theorem zcf {X Y:World}{S:Nat→Prop}{B0 n c' :Nat}{ka ka' :Option Addr}{f:Fo}{xs:List Value}(hS:∀y,S y→y<B0)(hB:B0+1<X.heap.size)(hY:Below X.heap.size X Y)(hf:zK X (SN S B0 X) f ka)(hr:vO X (SN S B0 X) f xs)(hn:n=foLen f)(hl:xs.length=n*4)(hc:∀ad,ka=some ad→∀j u,xs[j]? =some u→X.cell? (ad.add j)=some u)
 (ho:Y.ownsRow X.heap.size 35 4 (.slice ka' n c') n xs):
 n≤c'∧zK Y (SN S B0 Y) f ka'∧(0<n→∃g,ka'=some ⟨g,0,none⟩∧X.heap.size≤g∧NB Y g)∧(∀l,foLen l=n→zK Y (SN S B0 Y) l ka→zK Y (SN S B0 Y) l ka')∧(∀l a,zK X (SN S B0 X) l a→zK Y (SN S B0 Y) l a):=by
 have hkeep:∀y,SN S B0 X y→SN S B0 Y y∧Y.heap[y]? =X.heap[y]?:=fun y hy=>by
  have h1:=hY.block y (hy.lt hS om)
  exact⟨hy.imp (fun h=>h) (fun h=>⟨h.1,h.2.1,h.2.2.YP h1⟩),h1⟩
 have hall:∀l a,zK X (SN S B0 X) l a→zK Y (SN S B0 Y) l a:=fun l a h=>h.kept hkeep
 have hz:n=0→∀l:Fo,foLen l=n→∀a,zK Y (SN S B0 Y) l a:=fun h0 l hl a=>by
  cases l with
  | nil=>exact True.intro
  | node b o k p q=>simp[foLen] at hl;omega
 rcases ho.2 with ⟨hv,h0⟩ | ⟨g,cc,cur,hv,hg,hh,hnc,_⟩
 · cases hv
   exact⟨by omega,hz om f hn.symm _,fun h=>by omega,fun l hl _=>hz om l hl _,hall⟩
 · cases hv
   have hgN:NB Y g:=⟨cur,hh⟩
   have hcell:=fun j u hj=>yx ho (g:=g) rfl j u hj
   have hfk:zK Y (SN S B0 Y) f (some ⟨g,0,none⟩):=vO.lies (Or.inr ⟨by omega,by omega,hgN⟩) 0 (hr.kept hkeep) (fun j u hj=>by rw[Nat.zero_add];exact hcell j u hj)
   refine⟨hnc,hfk,fun _=>⟨g,rfl,hg,hgN⟩,fun l hll hla=>?_,hall⟩
   by_cases h0:n=0
   · exact hz h0 l hll _
   · cases l with
     | nil=>exact True.intro
     | node b o k p q=>
       have hla':=hla
       obtain⟨b',off',kb,cap,e,hb,_⟩:=hla'
       subst e
       cases f with
       | nil=>simp[foLen] at hn;omega
       | node b1 o1 k1 p1 q1=>
         obtain⟨b2,off2,kb2,cap2,e2,hb2,_⟩:=hf
         cases e2
         refine zc7 (Or.inr ⟨by omega,by omega,hgN⟩) _ b' off' 0 (fun j hj=>?_) hla
         rw[hll,←hl] at hj
         have hx:xs[j]? =some xs[j]:=List.getElem?_eq_getElem hj
         have h1:=hc _ rfl j _ hx
         rw[Addr.add_mid] at h1
         rw[Nat.zero_add,hcell j _ hx,World.cell?_of_block (a:=⟨b',off'+j,none⟩) (hkeep b' hb2).2,h1]
theorem zf4 {w:World}{S:Nat→Prop}{f:Fo}{a:Option Addr}(h:zK w S f a)(ha:a=none):foLen f=0:=by
 cases f with
 | nil=>rfl
 | node b o k l r=>obtain⟨_,_,_,_,e,_⟩:=h;rw[ha] at e;cases e
end Go.Proofs.YtoidedomenkbpaaGreat
