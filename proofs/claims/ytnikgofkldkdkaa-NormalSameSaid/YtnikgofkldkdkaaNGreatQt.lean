/-
  .
-/
import Derived.Test.YtnikgofkldkdkaaVRKindsQt
set_option maxRecDepth 100000
set_option maxHeartbeats 40000000
set_option linter.unusedVariables false
set_option linter.unusedSimpArgs false
namespace Go.Proofs.Ytnikgofkldkdkaa
open Go.RowKit
def zkL (S:Nat→Prop)(w:World)(B:Nat)(rv:Value)(T:List Sp)(M d:Nat)(t:Tr)(e:Ending)(w' :World):Prop:=
 ∃rv',e= .returned rv'∧qH S w' B rv' ((T++spT d t).take M).length ((T++spT d t).take M)∧jw w w' rv rv'
def zft (S:Nat→Prop)(w:World)(B:Nat)(rv:Value)(T:List Sp)(M:Nat)(x:Sp)(c1:Array Value)(ks:Fo)(len:Nat)(l i:Value)(wr:World):Prop:=
 ∃(k:Nat) (L:List Sp),k≤len∧i= .int .i64 (k:Nat)∧Hid (L=(T++(x::spF (x.1+1) (zy k ks))).take M)∧qH S wr B l L.length L∧jw w wr rv l∧wr.heap[w.heap.size]? =some (.cells c1 27 (0,0))∧T.length+1≤L.length∧L.length≤M
theorem zeC (M:Nat)(hM:M≤2000000):∀(m:Nat) (w:World) (S:Nat→Prop) (v:Value) (t:Tr) (B:Nat) (rv:Value) (n:Nat) (T:List Sp) (d:Nat),za t.kids<m→foLen t.kids≤9223372036854775807→vB t.kids→(∀k,S k→k<B)→B≤w.heap.size→zK w S v t→
 qH S w B rv n T→n≤M→d≤n+1→
 Calls Try.prog 20 #[rv,v,.int .i64 (d:Int),.int .i64 (M:Int)] w (zkL S w B rv T M d t):=by
 intro m
 induction m with
 | zero=>intro w S v t B rv n T d h;omega
 | succ m ih=>
   intro w S v t B rv n T d hm hm5 hfit hS hB hv hrow hnM hd1
   obtain⟨ka,cap,rfl,hcpt,hk⟩:=hv
   obtain⟨id,kd,tx,ks⟩:=t
   simp only at hk hm hcpt hm5 hfit
   simp only
   obtain⟨hT,xs,ho,hxs⟩:=hrow
   obtain⟨ra,qj,rfl⟩:=zt ho
   obtain⟨len,hlen⟩:∃len,len=foLen ks:=⟨_,rfl⟩
   have hlen2:len≤9223372036854775807:=by omega
   rw[←hlen] at hcpt ⊢
   have HN:=hH (aN hm hfit)
   have HLEN:=hH (aN hlen hcpt)
   have HK:=hH hk
   have HSS:=hH (aN hS hB)
   have HIH:=hH ih
   have HO:=hH (aN ho hxs)
   have HT:=hH hT
   have HD:=hH hd1
   have hdM:(d:Int)≤2000001:=by omega
   have hd0:(0:Int)≤(d:Int):=by omega
   have hn5:n≤2000000:=by omega
   clear hlen hk hm hm5 hfit hS hB ih ho hxs hT hcpt hd1
   by_cases hful:M≤n
   · have hMn:(M:Int)≤(n:Int):=by omega
     have HF:=hH (show (T++spT d ⟨id,kd,tx,ks⟩).take M=T by rw[List.take_append_of_le_length (by rw[HT.out];exact hful),List.take_of_length_le (by rw[HT.out];exact hnM)])
     clear hful
     go_enter Try.func20,Try.ntmps20
     go_wp2_with fail
     go_ret
     refine⟨_,rfl,?_,jw.box _⟩
     rw[HF.out,HT.out]
     exact⟨HT.out,xs,HO.out.1.alloc _,fun i x hi=>(HO.out.2 i x hi).kept fun k hk=>BhaQ _ _ _ (nL (HSS.out.1 k hk) HSS.out.2)⟩
   have hnn:¬(M:Int)≤(n:Int):=by omega
   have hnM1:n+1≤M:=by omega
   have HFN:=hH hful
   clear hful
   go_enter Try.func20,Try.ntmps20
   obtain⟨i0,z0,hi0,hz0,hz1,hz2,hz3⟩:=zed Try.zeb
   have hnew:((w.alloc (.cells #[.int .i64 id,.int .i64 kd,.string tx,.slice ka len cap] 27)).alloc (.cells #[.int .i64 id,.int .i64 kd,.string tx,.slice ka len cap,.int .i64 (d:Int)] 52)).heap[w.heap.size+1]? =some (.cells #[.int .i64 id,.int .i64 kd,.string tx,.slice ka len cap,.int .i64 (d:Int)] 52 (0,0)):=heap_alloc2_new w _ _
   have HNEW:=hH hnew
   have hBw:B≤w.heap.size:=HSS.out.2
   clear hnew
   go_wp2_with (at_builtin;refine wpList_append_lies _ rfl (.tmp 15) (.tmp 19) _ rfl B 52 i0 z0 5 64 Try.underlying30 hi0 hz0 hz1 hz2 hz3 om (.slice ra n qj) n xs rfl ((HO.out.1.alloc _).alloc _) ⟨w.heap.size+1,0,none⟩ 1 1 [.int .i64 id,.int .i64 kd,.string tx,.slice ka len cap,.int .i64 (d:Int)] rfl rfl (World.news_of_block (cs:= #[.int .i64 id,.int .i64 kd,.string tx,.slice ka len cap,.int .i64 (d:Int)]) (t:=52) (fr:=(0,0)) HNEW.out) ue0 om ue1 om ue6 (w.heap.size+1+1) sp1 ?_;intro gg cap' w1 hown1 hgrow hat hlt1)
   have hg1:jw w w1 (.slice ra n qj) (.slice (some ⟨gg,0,none⟩) (n+1) cap'):=jw.first hgrow hat
   have hsp0:qH S w B (.slice ra n qj) n T:=⟨HT.out,xs,HO.out⟩
   have hlow1:=hg1.zi5 hsp0 hBw
   have hsp1:qH S w1 B (.slice (some ⟨gg,0,none⟩) (n+1) cap') (n+1) (T++[(d,(id,kd,tx),ks)]):=⟨by rw[LlaQ,HT.out];rfl,_,hown1,by
    have:=Jm (x:=(d,(id,kd,tx),ks)) (ka:=ka) (cap:=cap) HO.out.1.1 HT.out HO.out.2 (w':=w1) (fun k hk=>hlow1 k (HSS.out.1 k hk)) (by show foLen ks≤cap;rw[←HLEN.out.1];exact HLEN.out.2) (HK.out.kept fun x hx=>⟨hx,hlow1 x (HSS.out.1 x hx)⟩)
    simp only[←HLEN.out.1] at this
    exact this⟩
   have hob:∀g,(Value.slice ra n qj).ownBlock=some g→g<w.heap.size:=fun g hg=>(zi HO.out.1 hg).2
   have hbox:w1.heap[w.heap.size]? =some (.cells #[.int .i64 id,.int .i64 kd,.string tx,.slice ka len cap] 27 (0,0)):=by
    exact sf5
   have HG:=hH (aN hg1 (aN hsp1 (aN hob hbox)))
   clear hg1 hsp1 hob hbox hgrow hown1 hat hsp0 hlow1
   go_loopw [0,9] (fun l i wr=>zft S w B (.slice ra n qj) T M (d,(id,kd,tx),ks) #[.int .i64 id,.int .i64 kd,.string tx,.slice ka len cap] ks len l i wr) (fun _ i _=>len - (intOf i).toNat)
   case atStart=>exact⟨0,T++[(d,(id,kd,tx),ks)],NzlQ _,rfl,hH (by simp only[zy,spF];rw[List.take_of_length_le (by rw[LlaQ,HT.out];exact hnM1)]),by rw[LlaQ,HT.out];exact HG.out.2.1,HG.out.1,HG.out.2.2.2,by simp,by rw[LlaQ,HT.out];exact hnM1⟩
   case round=>
    obtain⟨k,L,hk,rfl,HL,hsp,hgr,hbx,hTL,hLM⟩:=hrel
    have p1:wr.cell? ⟨w.heap.size,3,none⟩=some (.slice ka len cap):=by rw[corQ wr _ 3 _ _ _ hbx];rfl
    have HR:=hH (aN hsp (aN hgr (aN hbx hTL)))
    clear hsp hgr hbx hTL
    by_cases hlt:k<len
    · have hlow:=HR.out.2.1.zi5 ⟨HT.out,xs,HO.out⟩ hBw
      have hk1:zk wr S ks ka:=HK.out.kept fun x hx=>⟨hx,hlow x (HSS.out.1 x hx)⟩
      obtain⟨b0,o0,⟨ki,kk,kt⟩,l',r,hd1',b,off,a1,n1,rfl,hSb,c0,c1,c2,c3,hcp,hl1⟩:=hk1.at k uc9
      obtain⟨_,_,_,_,_,e1,e2,hsz1,htk⟩:=yw k ks uc9
      rw[hd1'] at e1;cases e1
      have hft:=Zi k HN.out.2 hd1'
      have hcall:=HIH.out wr S (.agg #[.int .i64 ki,.int .i64 kk,.string kt,.slice a1 (foLen l') n1]) ⟨ki,kk,kt,l'⟩ B u0 L.length L (d+1) uc8 hft.1 hft.2 HSS.out.1 (NltQ hBw HR.out.2.1.1.size) ⟨a1,n1,rfl,hcp,hl1⟩ HR.out.1 hLM (by have:=HD.out;have:=HR.out.2.2.2;have:=HT.out;omega)
      obtain⟨m1,hm1⟩:∃m,m=foLen l':=⟨_,rfl⟩
      rw[←hm1] at hcall c3
      simp only at c0 c1 c2
      have hcast:(((d+1:Nat)):Int)=(d:Int)+1:=by omega
      rw[hcast] at hcall
      have HC:=hH hcall
      have htk2:spF (d+1) (zy (k+1) ks)=spF (d+1) (zy k ks)++((d+1,(ki,kk,kt),l')::spF (d+1+1) l'):=by rw[htk,zaS]
      have HTK:=hH htk2
      have hkl:(k:Int)<(len:Int):=by omega
      clear hk1 hlow hd1' hcall hm1 htk htk2 hl1 hsz1 hSb e2 hcp hcast hft
      go_wp2_with fail
      refine HC.out.mono ?_
      rintro e w2 ⟨l2,rfl,hsp2,hg2⟩
      have HE:=hH (aN hsp2 hg2)
      clear hsp2 hg2
      go_wp2_with fail
      have hne:some w.heap.size≠u0.ownBlock:=fun e=>by
       exact sf1
      have hLL:(L++spT (d+1) ⟨ki,kk,kt,l'⟩).take M=(T++((d,(id,kd,tx),ks)::spF (d+1) (zy (k+1) ks))).take M:=by
       rw[HL.out,zeK,HTK.out]
       simp[spT,List.append_assoc]
      have hle:L.length≤((L++spT (d+1) ⟨ki,kk,kt,l'⟩).take M).length:=by
       rw[List.length_take,LlaQ];omega
      refine⟨⟨k+1,(L++spT (d+1) ⟨ki,kk,kt,l'⟩).take M,by omega,by go_num,hH hLL,HE.out.1,HR.out.2.1.trans HE.out.2,(HE.out.2.1.block _ (lt_of_some HR.out.2.2.1) hne).trans HR.out.2.2.1,by have:=HR.out.2.2.2;omega,by rw[List.length_take];omega⟩,by simp[intOf];omega⟩
    · have hkk:k=len:=by omega
      have HKK:=hH hkk
      have hkl:¬(k:Int)<(len:Int):=by omega
      clear hkk
      go_wp2_with fail
      go_ret
      refine⟨_,rfl,?_,HR.out.2.1⟩
      have h:=HR.out.1
      have hL:=HL.out
      rw[qK k ks (by rw[HKK.out,HLEN.out.1];exact NlrQ _)] at hL
      show qH S _ B _ ((T++spT d ⟨id,kd,tx,ks⟩).take M).length ((T++spT d ⟨id,kd,tx,ks⟩).take M)
      have e:(T++spT d ⟨id,kd,tx,ks⟩).take M=L:=hL.symm
      rw[e]
      exact h
def WalkM (w:World)(S:Nat→Prop)(t:Tr)(M:Nat)(e:Ending)(w' :World):Prop:=∃a cap,e= .returned (.slice a ((spF 1 (zh t)).take M).length cap)∧qH S w' w.heap.size (.slice a ((spF 1 (zh t)).take M).length cap) ((spF 1 (zh t)).take M).length ((spF 1 (zh t)).take M)∧Below w.heap.size w w'
theorem Yj (M:Nat)(hM:M≤2000000)(w:World)(S:Nat→Prop)(v:Value)(t:Tr)(hlen:foLen t.kids≤9223372036854775807)(hfit:vB t.kids)(hS:∀k,S k→k<w.heap.size)(hv:zK w S v t):
 Calls Try.prog 6 #[v,.int .i64 (M:Int)] w (WalkM w S t M):=by
 obtain⟨ka,cap,rfl,hcp,hk⟩:=hv
 have hb:Below w.heap.size w (w.alloc (.cells #[.int .i64 t.id,.int .i64 t.kind,.string t.text,.slice ka (foLen t.kids) cap] 27)):=(BrQ _ _).alloc (NlrQ _) _
 have hc:=zeC M hM _ (w.alloc (.cells #[.int .i64 t.id,.int .i64 t.kind,.string t.text,.slice ka (foLen t.kids) cap] 27)) S _ t w.heap.size (.slice none 0 0) 0 [] 1 (Nat.lt_succ_self _) hlen hfit hS hb.size ⟨ka,cap,rfl,hcp,hk.below hb hS⟩ ⟨rfl,[],World.ownsRow_nil _ _ _ _,fun i p hi=>by simp at hi⟩ (NzlQ _) om
 have HC:=hH (aN hc hb)
 clear hc hb hk hS hcp hlen hfit
 obtain⟨len,hl⟩:∃len,len=foLen t.kids:=⟨_,rfl⟩
 rw[←hl] at HC
 rw[←hl]
 clear hl
 go_enter Try.func6,Try.ntmps6
 go_wp2_with fail
 refine HC.out.1.mono ?_
 rintro e w2 ⟨rv,rfl,hsp,hg⟩
 have hb2:Below w.heap.size w w2:=HC.out.2.trans ⟨hg.1.os,hg.1.tape,hg.1.output,hg.1.size,fun k hk=>hg.1.block k (by have:=HC.out.2.size;omega) (by simp[Value.ownBlock])⟩
 have hsp':=hsp
 obtain⟨hT,xs,ho,_⟩:=hsp
 obtain⟨a,cap',rfl⟩:=zt ho
 have HE:=hH (aN hsp' hb2)
 clear hsp' ho hg hT
 rw[List.nil_append,zdx] at HE ⊢
 obtain⟨q,hq⟩:∃q,q=((spF 1 (zh t)).take M).length:=⟨_,rfl⟩
 rw[←hq] at HE ⊢
 have HQ:=hH hq
 clear hq
 go_wp2_with fail
 go_ret
 exact⟨_,_,by rw[←HQ.out];rfl,by rw[←HQ.out];exact HE.out.1,HE.out.2⟩
end Go.Proofs.Ytnikgofkldkdkaa
namespace Go.Proofs.Ytnikgofkldkdkaa
open Go.RowKit Go.Shelf
def zjE:Fo→Nat→Tr→Fo
 | .nil,_,_=> .nil
 | .node b o k l r,0,u=> .node b o (u.id,u.kind,u.text) u.kids r
 | .node b o k l r,i+1,u=> .node b o k l (zjE r i u)
theorem ze6:∀(f:Fo) {w:World} {S:Nat→Prop} {b off:Nat},zk w S f (some ⟨b,off,none⟩)→∃xs,yM w S f xs∧xs.length=foLen f*4∧(∀j u,xs[j]? =some u→w.cell? ⟨b,off+j,none⟩=some u)∧∀u∈xs,u.oneCell'=true
 | .nil,_,_,_,_,_=>⟨[],rfl,rfl,fun _ _ h=>by simp at h,fun _ h=>by cases h⟩
 | .node _ _ k l r,w,S,b,off,h=>by
   obtain⟨b',off',ka,kc,e,hb,c0,c1,c2,c3,hcp,hkl,hr⟩:=h
   cases e
   obtain⟨ys,h1,h2,h3,h4⟩:=ze6 r hr
   exact sc5
theorem zcK (f:Fo){w:World}{S:Nat→Prop}{a:Option Addr}(h:zk w S f a):∃xs,yM w S f xs∧xs.length=foLen f*4∧(∀ad,a=some ad→∀j u,xs[j]? =some u→w.cell? (ad.add j)=some u)∧(∀u∈xs,u.oneCell'=true):=by
 cases f with
 | nil=>exact⟨[],rfl,rfl,fun _ _ _ _ h=>by simp at h,fun _ h=>by cases h⟩
 | node b0 o0 k l r=>
   have h':=h
   obtain⟨b',off',ka,kc,e,_⟩:=h'
   subst e
   obtain⟨xs,h1,h2,h3,h4⟩:=ze6 _ h
   exact⟨xs,h1,h2,fun ad hd j u hu=>by cases hd;rw[Addr.add_mid];exact h3 j u hu,h4⟩
theorem zq {P:Program}{fn:Func}{p u:Tmp}{ty:TypeId}(h:fn.results= #[.cell p ty,.tmp u])(tmps:Array Value)(w:World)(g:Nat)(t:TypeId)(cs:Array Value)(fr:Nat×Nat)(d:TypeDesc)(x:Value)
 (hp:tmps.getD p undef= .pointer (some ⟨g,0,none⟩)) (hg:w.heap[g]? =some (.cells cs t fr)) (hu:P.underlying ty=some d) (hd:(match d with | .struct _ | .array _ _=>true | _=>false)=true) (hi:(P.info? ty).map (·.size)=some cs.size) (hp2:tmps.getD u undef=x):
 (results fn tmps).run P w= .ok (.tuple #[.agg cs,x]) w:=by
 exact sf2
theorem QN {V:World}{R1:Nat}{c0 c1 c2 c3 u0 u1 u2 u3:Value}(h2:V.heap[R1]? =some (.cells #[c0,c1,c2,c3] 27 (0,0))):
 ∃V5,V5=((((V.setCell ⟨R1,0,none⟩ u0).setCell ⟨R1,1,none⟩ u1).setCell ⟨R1,2,none⟩ u2).setCell ⟨R1,3,none⟩ u3)∧V5.heap[R1]? =some (.cells #[u0,u1,u2,u3] 27 (0,0))∧(∀y,y≠R1→V5.heap[y]? =V.heap[y]?)∧V5.os=V.os∧V5.tape=V.tape∧V5.output=V.output∧V5.heap.size=V.heap.size:=by
 exact sd2
end Go.Proofs.Ytnikgofkldkdkaa
namespace Go.Proofs.Ytnikgofkldkdkaa
open Go.RowKit
structure Sf where
 op:Int
 id:Int
 par:Int
 at_:Int
 tx:ByteArray
 sub:Tr
structure SV where
 s:Sf
 a:Option Addr
 c:Nat
def vO (s:Sf)(a:Option Addr)(c:Nat):List Value:=[.int .i8 s.op,.int .i64 s.id,.int .i64 s.par,.int .i64 s.at_,.string s.tx,.int .i64 s.sub.id,.int .i64 s.sub.kind,.string s.sub.text,.slice a (foLen s.sub.kids) c]
def qC (W:World)(f:Fo)(a:Option Addr)(c:Nat):Prop:=foLen f≤c∧zk W (fun q=>q<W.heap.size) f a
theorem qC.at {W X:World}{t:Tr}{a:Option Addr}{c:Nat}(h:qC W t.kids a c)(hb:Below W.heap.size W X):zK X (fun q=>q<W.heap.size) (.agg #[.int .i64 t.id,.int .i64 t.kind,.string t.text,.slice a (foLen t.kids) c]) t:=⟨a,c,rfl,h.1,h.2.kept fun q hq=>⟨hq,hb.block q hq⟩⟩
theorem qC.on {W X:World}{f:Fo}{a:Option Addr}{c:Nat}(h:qC W f a c)(hb:Below W.heap.size W X):qC X f a c:=⟨h.1,h.2.kept fun q hq=>⟨nL hq hb.size,hb.block q hq⟩⟩
def steps (vs:List SV):List Sf:=vs.map SV.s
theorem zdz {vs:List SV}{k:Nat}{x:SV}(h:vs[k]? =some x):(steps vs)[k]? =some x.s:=by rw[steps,List.getElem?_map,h];rfl
theorem ji (vs:List SV):(steps vs).length=vs.length:=by simp[steps]
structure Row (w:World) (a:Option Addr) (vs:List SV):Prop where
 cells:∀(k:Nat) (x:SV),vs[k]? =some x→∃b off,a=some ⟨b,off,none⟩∧b<w.heap.size∧∀(j:Nat) (u:Value),(vO x.s x.a x.c)[j]? =some u→w.cell? ⟨b,off+k*9+j,none⟩=some u
 lies:∀x∈vs,qC w x.s.sub.kids x.a x.c
 fit:∀x∈vs,za x.s.sub.kids+1≤100000
 len:vs.length≤1000000
theorem Row.on {w X:World}{a:Option Addr}{vs:List SV}(h:Row w a vs)(hb:Below w.heap.size w X):Row X a vs:=
 ⟨fun k x hx=>by
  obtain⟨b,off,e,h1,h2⟩:=h.cells k x hx
  exact⟨b,off,e,nL h1 hb.size,fun j u hj=>(World.cell?_of_block (a:=⟨b,off+k*9+j,none⟩) (hb.block b h1)).trans (h2 j u hj)⟩,fun x hx=>(h.lies x hx).on hb,h.fit,h.len⟩
theorem Row.at {w X:World}{a:Option Addr}{vs:List SV}(h:Row w a vs)(hb:Below w.heap.size w X){k:Nat}{x:SV}(hx:vs[k]? =some x):∃b off,a=some ⟨b,off,none⟩∧X.cell? ⟨b,off+k*9,none⟩=some (.int .i8 x.s.op)∧X.cell? ⟨b,off+k*9+1,none⟩=some (.int .i64 x.s.id)∧X.cell? ⟨b,off+k*9+2,none⟩=some (.int .i64 x.s.par)∧X.cell? ⟨b,off+k*9+3,none⟩=some (.int .i64 x.s.at_)∧X.cell? ⟨b,off+k*9+4,none⟩=some (.string x.s.tx)∧X.cell? ⟨b,off+k*9+5,none⟩=some (.int .i64 x.s.sub.id)∧X.cell? ⟨b,off+k*9+6,none⟩=some (.int .i64 x.s.sub.kind)∧X.cell? ⟨b,off+k*9+7,none⟩=some (.string x.s.sub.text)∧X.cell? ⟨b,off+k*9+8,none⟩=some (.slice x.a (foLen x.s.sub.kids) x.c):=by
 obtain⟨b,off,e,hbl,hc⟩:=h.cells k x hx
 have hg:=fun j u hj=>(World.cell?_of_block (a:=⟨b,off+k*9+j,none⟩) (hb.block b hbl)).trans (hc j u hj)
 exact⟨b,off,e,hg 0 _ rfl,hg 1 _ rfl,hg 2 _ rfl,hg 3 _ rfl,hg 4 _ rfl,hg 5 _ rfl,hg 6 _ rfl,hg 7 _ rfl,hg 8 _ rfl⟩
def zkz (w:World)(e:Ending)(w' :World):Prop:=e= .returned (.bool true)∧Below w.heap.size w w'
structure zfv (w:World) (a:Option Addr) (vs:List SV):Prop where
 cells:∀(k:Nat) (x:SV),vs[k]? =some x→∃b off,a=some ⟨b,off,none⟩∧b<w.heap.size∧∀(j:Nat) (u:Value),(vO x.s x.a x.c)[j]? =some u→w.cell? ⟨b,off+k*9+j,none⟩=some u
 lies:∀x∈vs,qC w x.s.sub.kids x.a x.c
 inn:∀x∈vs,foLen x.s.sub.kids≤9223372036854775807∧vB x.s.sub.kids
def YC (vs:List SV):Prop:=vs.length≤60∧∀x∈vs,za x.s.sub.kids+1≤200
theorem zfv.row {w:World}{a:Option Addr}{vs:List SV}(h:zfv w a vs)(hs:YC vs):Row w a vs:=
 ⟨h.cells,h.lies,fun x hx=>by have:=hs.2 x hx;omega,by have:=hs.1;omega⟩
def zjN (w:World)(vs:List SV)(e:Ending)(w' :World):Prop:=∃b,e= .returned (.bool b)∧(b=false→YC vs)∧Below w.heap.size w w'
theorem zcP (w:World)(la:Option Addr)(n c:Nat)(vs:List SV)(hn:n=vs.length)(h:zfv w la vs):
 Calls Try.prog 5 #[.slice la n c] w (zjN w vs):=by
 have HR:=hH h
 have HN:=hH hn
 clear h hn
 go_enter Try.func5,Try.ntmps5
 by_cases h60:60<n
 · have h60i:(60:Int)<(n:Int):=by omega
   go_wp2_with fail
   go_ret
   exact⟨true,rfl,(fun h=>by cases h),BrQ _ _⟩
 · have h60i:¬(60:Int)<(n:Int):=by omega
   have HN60:=hH (show n≤60 by omega)
   have hn60:=HN60.out
   clear h60
   go_wp2_with fail
   clear h60i
   go_loopw [3] (fun i wr=>∃k:Nat,k≤n∧i= .int .i64 (k:Int)∧Hid (Below w.heap.size w wr∧∀j x,j<k→vs[j]? =some x→za x.s.sub.kids+1≤200)) (fun i _=>n - (intOf i).toNat)
   case atStart=>exact⟨0,NzlQ _,rfl,hH ⟨BrQ _ _,fun j x h=>by omega⟩⟩
   case round=>
    obtain⟨k,hk,rfl,hh⟩:=hrel
    obtain⟨wo,hwo⟩:∃wo,wo=wr:=⟨_,rfl⟩
    subst hwo
    by_cases hlt:k<n
    · have hkl:(k:Int)<(n:Int):=by omega
      obtain⟨x,hx⟩:∃x,vs[k]? =some x:=⟨_,List.getElem?_eq_getElem (by rw[←HN.out];exact hlt)⟩
      have hxm:=List.mem_of_getElem? hx
      obtain⟨b,off,rfl,hbl,hcs⟩:=HR.out.cells k x hx
      have hin:=HR.out.inn x hxm
      have hly:=HR.out.lies x hxm
      obtain⟨xs,xa,xc⟩:=x
      simp only at hin hly hcs
      obtain⟨sn,hsn⟩:∃sn,sn=foLen xs.sub.kids:=⟨_,rfl⟩
      have hce:wo.cell? ⟨b,off+k*9+5,none⟩=some (.int .i64 xs.sub.id)∧wo.cell? ⟨b,off+k*9+6,none⟩=some (.int .i64 xs.sub.kind)∧wo.cell? ⟨b,off+k*9+7,none⟩=some (.string xs.sub.text)∧wo.cell? ⟨b,off+k*9+8,none⟩=some (.slice xa sn xc):=by
       have h:=fun j u hj=>(World.cell?_of_block (a:=⟨b,off+k*9+j,none⟩) (hh.out.1.block b hbl)).trans (hcs j u hj)
       rw[hsn]
       exact⟨h 5 _ rfl,h 6 _ rfl,h 7 _ rfl,h 8 _ rfl⟩
      have HWK:Hid (Calls Try.prog 6 #[.agg #[.int .i64 xs.sub.id,.int .i64 xs.sub.kind,.string xs.sub.text,.slice xa sn xc],.int .i64 201] wo (WalkM wo (fun y=>y<w.heap.size) xs.sub 201)):=hH (by rw[hsn];exact Yj 201 om wo _ _ xs.sub hin.1 hin.2 (fun y hy=>nL hy hh.out.1.size) (hly.at hh.out.1))
      obtain⟨c5,c6,c7,c8⟩:=hce
      have HX:=hH hx
      have HB:=hH hh.out.1
      have HA:=hH hh.out.2
      have HKN:=hH (aN hk hlt)
      clear hx hxm hcs hin hly hsn hbl hh hk hlt
      go_wp2_with fail
      refine HWK.out.mono ?_
      rintro e w3 ⟨ya,yc,rfl,_,hb3⟩
      have HB3:=hH (HB.out.trans (hb3.mono HB.out.size))
      obtain⟨ln,hln⟩:∃ln,ln=((spF 1 (zh xs.sub)).take 201).length:=⟨_,rfl⟩
      rw[←hln]
      have hn2:ln=min (za xs.sub.kids+1) 201:=by rw[hln,List.length_take,vL,yH];omega
      clear hln hb3 c5 c6 c7 c8
      have HLN:=hH hn2
      by_cases hbig:(200:Int)<(ln:Int)
      · clear hn2
        go_wp2_with fail
        go_ret
        exact⟨true,rfl,(fun e=>by cases e),HB3.out⟩
      · have HS:=hH (show za xs.sub.kids+1≤200 by omega)
        clear hn2
        go_wp2_with fail
        refine⟨⟨k+1,by have:=HKN.out.2;omega,by go_num,hH ⟨HB3.out,fun j y hj hy=>?_⟩⟩,by have:=HKN.out.2;simp[intOf];omega⟩
        rcases Nat.lt_or_ge j k with h | h
        · exact HA.out j y h hy
        · have e:j=k:=by omega
          subst e
          rw[HX.out] at hy;cases hy
          exact HS.out
    · have hkl:¬(k:Int)<(n:Int):=by omega
      have HB:=hH hh.out.1
      have HA:=hH hh.out.2
      have HK:=hH (show k=n by omega)
      clear hh hlt hk
      go_wp2_with fail
      go_ret
      refine⟨false,rfl,fun _=>⟨by rw[←HN.out];exact HN60.out,fun x hx=>?_⟩,HB.out⟩
      obtain⟨j,hj⟩:=List.mem_iff_getElem?.1 hx
      exact HA.out j x (by rw[HK.out,HN.out];exact (List.getElem?_eq_some_iff.1 hj).1) hj
end Go.Proofs.Ytnikgofkldkdkaa
