/-
  .
-/
import Derived.Test.YtgkmmnihaiopaaaGreatKInsertQu
import Derived.Test.YtgkmmnihaiopaaaGreatSubWQu
import Derived.Test.YtgkmmnihaiopaaaGreatVManyQu
import Derived.Deep.Cut
import Derived.Carry
import Derived.Test.YtgkmmnihaiopaaaGreatKFreshQu
import Derived.Test.YtgkmmnihaiopaaaGreatJPgQu
set_option maxRecDepth 100000
set_option maxHeartbeats 40000000
set_option linter.unusedVariables false
set_option linter.unusedSimpArgs false
namespace Go.Proofs.YtgkmmnihaiopaaaGreat
open Go.RowKit Go.Shelf
def cntF (a:Int):Fo→Nat
 | .nil=>0
 | .node _ _ k l r=>(if k.1=a then 1 else 0)+cntF a l+cntF a r
def q8 (a:Int) (t:Tr):Nat:=(if t.id=a then 1 else 0)+cntF a t.kids
theorem vF (a:Int):∀f:Fo,a∈je f↔0<cntF a f
 | .nil=>by simp[je,spF,cntF]
 | .node b o k l r=>by
   rw[yI,List.mem_cons,List.mem_append,vF a l,vF a r,cntF]
   by_cases h:k.1=a
   · rw[if_pos h];constructor
     · intro _;omega
     · intro _;exact Or.inl h.symm
   · rw [if_neg h];constructor
     · rintro (h1 | h1 | h1)
       · exact absurd h1.symm h
       · omega
       · omega
     · intro h1;right;omega
theorem Qo :∀f:Fo,(je f).Nodup↔∀a,cntF a f≤1
 | .nil=>by simp[je,spF,cntF]
 | .node b o k l r=>by
   rw[yI,List.nodup_cons,List.nodup_append,List.mem_append,vF,vF,Qo l,Qo r]
   constructor
   · rintro ⟨h1,h2,h3,h4⟩ a
     rw[cntF]
     have h2a:=h2 a
     have h3a:=h3 a
     by_cases h:k.1=a
     · subst h;rw[if_pos rfl];omega
     · rw [if_neg h]
       by_cases hl:0<cntF a l
       · by_cases hr:0<cntF a r
         · exact absurd rfl (h4 a ((vF a l).2 hl) a ((vF a r).2 hr))
         · omega
       · omega
   · intro h
     refine⟨?_,fun a=>?_,fun a=>?_,?_⟩
     · have:=h k.1
       rw[cntF,if_pos rfl] at this
       omega
     · have:=h a;rw[cntF] at this;omega
     · have:=h a;rw[cntF] at this;omega
     · rintro a ha b hb rfl
       have:=h a
       rw[cntF] at this
       have h1:=(vF a l).1 ha
       have h2:=(vF a r).1 hb
       omega
theorem ZF (a:Int) (t:Tr):cntF a (zl t)=q8 a t:=by simp[zl,cntF,q8]
theorem JO (t:Tr):qB t↔∀a,q8 a t≤1:=by
 rw[qB,Qo]
 exact⟨fun h a=>by rw[←ZF];exact h a,fun h a=>by rw[ZF];exact h a⟩
theorem zbx (a:Int):∀(f:Fo) (i:Nat) (u:Tr),zB f i=some u→cntF a (yo f i)+q8 a u=cntF a f
 | .nil,i,u,h=>by cases i<;>simp[zB,zq,yO] at h
 | .node b o k l r,0,u,h=>by
   simp only[zB,zq,yO] at h
   cases h
   simp only[yo,cntF,q8];omega
 | .node b o k l r,i+1,u,h=>by
   have:=zbx a r i u (by simpa [zB,zq] using h)
   simp only[yo,cntF];omega
theorem zew (a:Int):∀(f:Fo) (i:Nat) (u v:Tr),zB f i=some u→cntF a (vD f i v)+q8 a u=cntF a f+q8 a v
 | .nil,i,_,_,h=>by cases i<;>simp[zB,zq,yO] at h
 | .node _ _ k l r,0,u,v,h=>by
   simp only[zB,zq,yO] at h
   cases h
   simp only[vD,cntF,q8];omega
 | .node _ _ k l r,i+1,u,v,h=>by
   have:=zew a r i u v (by simpa [zB,zq] using h)
   simp only[vD,cntF];omega
theorem zby (a:Int):∀(p:List Nat) (t u x:Tr),atT t p=some u→q8 a (zQ t p x)+q8 a u=q8 a t+q8 a x
 | [],t,u,x,h=>by cases h;simp only[zQ];omega
 | i ::p,t,u,x,h=>by
   simp only[atT] at h
   simp only[zQ]
   cases hk:zB t.kids i with
   | none=>rw[hk] at h;cases h
   | some v=>
     rw[hk] at h
     have h1:=zby a p v u x h
     have h2:=zew a t.kids i v (zQ v p x) hk
     simp only[q8] at h1 h2 ⊢
     omega
theorem zhZ (a:Int) {f:Fo} {i:Nat} {u:Tr} (h:zB f i=some u):q8 a u≤cntF a f:=by
 have:=zbx a f i u h;omega
theorem zgM (a:Int):∀(p:List Nat) (t u:Tr),atT t p=some u→q8 a u≤q8 a t
 | [],t,u,h=>by cases h;omega
 | i ::p,t,u,h=>by
   simp only[atT] at h
   cases hk:zB t.kids i with
   | none=>rw[hk] at h;cases h
   | some v=>
     rw[hk] at h
     have h1:=zgM a p v u h
     have h2:=zhZ a hk
     simp only[q8] at h1 h2 ⊢
     omega
theorem Jf (a:Int):∀(f:Fo) (i:Nat),fpi a i f=none↔cntF a f=0
 | .nil,i=>by simp[fpi,cntF]
 | .node b o k l r,i=>by
   rw[fpi,cntF]
   by_cases h:k.1=a
   · rw[if_pos h,if_pos h];simp
   · rw [if_neg h,if_neg h]
     cases hl:fpi a 0 l with
     | some p=>
       have:=mt (Jf a l 0).2 (by rw[hl];simp)
       simp only;constructor
       · intro h;cases h
       · intro h;omega
     | none=>
       have h1:=(Jf a l 0).1 hl
       simp only
       rw[Jf a r (i+1)];omega
theorem ZP (a:Int) (t:Tr):zx a t=none↔q8 a t=0:=by
 rw[zx,q8]
 by_cases h:t.id=a
 · rw[if_pos h,if_pos h];simp
 · rw[if_neg h,if_neg h,Jf];omega
theorem zfO {a:Int} {t:Tr} (h:0<q8 a t):∃p,zx a t=some p:=by
 cases hp:zx a t with
 | none=>have:=(ZP a t).1 hp;omega
 | some p=>exact⟨p,rfl⟩
theorem zgN (t:Tr):0<q8 t.id t:=by rw[q8,if_pos rfl];omega
theorem zbS:∀(p:List Nat) (t u x:Tr),atT t p=some u→atT (zQ t p x) p=some x
 | [],t,u,x,h=>rfl
 | i ::p,t,u,x,h=>by
   simp only[atT] at h
   simp only[zQ]
   cases hk:zB t.kids i with
   | none=>rw[hk] at h;cases h
   | some v=>
     rw[hk] at h
     simp only[atT,zad _ i _ (yZ hk)]
     exact zbS p v u x h
theorem zbT:∀(p:List Nat) (t u x y:Tr),atT t p=some u→zQ (zQ t p x) p y=zQ t p y
 | [],t,u,x,y,h=>rfl
 | i ::p,t,u,x,y,h=>by
   simp only[atT] at h
   cases hk:zB t.kids i with
   | none=>rw[hk] at h;cases h
   | some v=>
     rw[hk] at h
     simp only[zQ,hk,zad _ i _ (yZ hk),zdc]
     rw[zbT p v u x y h]
theorem zeN:∀(f:Fo) (i:Nat) (u:Tr),zB f i=some u→vD f i u=f
 | .nil,i,_,h=>by cases i<;>simp[zB,zq,yO] at h
 | .node _ _ k l r,0,u,h=>by
   simp only[zB,zq,yO] at h
   cases h;rfl
 | .node _ _ k l r,i+1,u,h=>by
   simp only[vD];rw[zeN r i u (by simpa [zB,zq] using h)]
theorem zeL:∀(p:List Nat) (t u:Tr),atT t p=some u→zQ t p u=t
 | [],t,u,h=>by cases h;rfl
 | i ::p,t,u,h=>by
   simp only[atT] at h
   cases hk:zB t.kids i with
   | none=>rw[hk] at h;cases h
   | some v=>
     rw[hk] at h
     simp only[zQ,hk]
     rw[zeL p v u h,zeN _ _ _ hk]
theorem zeu {p:List Nat} {t u v:Tr} {i:Nat} (h:atT t p=some u) (hv:zB u.kids i=some v):atT t (p++[i])=some v:=by
 rw[yJ,h]
 simp only[Option.bind_some,atT,hv]
theorem zcP {id par at_:Int} {t x:Tr} (h:yH id par at_ t=(x,0)):
 ∃p i u v q z,zx id t=some (p++[i])∧atT t p=some u∧zB u.kids i=some v∧v.id=id∧zx par (zQ t p ⟨u.id,u.kind,u.text,yo u.kids i⟩)=some q∧atT (zQ t p ⟨u.id,u.kind,u.text,yo u.kids i⟩) q=some z∧0≤at_∧at_≤(foLen z.kids:Int)∧x=zQ (zQ t p ⟨u.id,u.kind,u.text,yo u.kids i⟩) q ⟨z.id,z.kind,z.text,qA z.kids at_.toNat v⟩:=by
 cases hi:zx id t with
 | none=>rw[Y7 hi] at h;cases h
 | some p0 =>
   cases hp:zx par t with
   | none=>rw[Qx hp] at h;cases h
   | some q0 =>
     by_cases h0:p0= []
     · subst h0;rw[YA hi hp] at h;cases h
     · cases hw:vk id par t with
       | true=>rw[Yz hi hp h0 hw] at h;cases h
       | false =>
         obtain⟨p,i,rfl⟩:∃p i,p0=p++[i]:=⟨p0.dropLast,p0.getLast h0,(List.dropLast_concat_getLast h0).symm⟩
         obtain⟨v,hv0,hvid⟩:=vI id t _ hi
         obtain⟨u,hu,hv⟩:=ko p i t v hv0
         rw[zaj hi hp hw hu hv] at h
         cases hq:zx par (zQ t p ⟨u.id,u.kind,u.text,yo u.kids i⟩) with
         | none=>rw[kK hq] at h;cases h
         | some q=>
           obtain⟨z,hz,_⟩:=vI _ _ _ hq
           rw[vR hq hz] at h
           by_cases hc:0≤at_∧at_≤(foLen z.kids:Int)
           · rw[if_pos hc] at h
             exact⟨p,i,u,v,q,z,rfl,hu,hv,hvid,hq,hz,hc.1,hc.2,(Prod.mk.inj h).1.symm⟩
           · rw[if_neg hc] at h
             exact absurd (Prod.mk.inj h).2 (by decide)
end Go.Proofs.YtgkmmnihaiopaaaGreat
namespace Go.Proofs.YtgkmmnihaiopaaaGreat
open Go.RowKit
def zjO (S:Nat→Prop) (w:World) (B:Nat) (rv:Value) (T:List Sp) (M d:Nat) (t:Tr) (e:Ending) (w' :World):Prop:=
 ∃rv',e= .returned rv'∧qE S w' B rv' ((T++spT d t).take M).length ((T++spT d t).take M)∧jb w w' rv rv'
def zeY (S:Nat→Prop) (w:World) (B:Nat) (rv:Value) (T:List Sp) (M:Nat) (x:Sp) (c1:Array Value) (ks:Fo) (len:Nat) (l i:Value) (wr:World):Prop:=
 ∃(k:Nat) (L:List Sp),k≤len∧i= .int .i64 (k:Nat)∧Hid (L=(T++(x::spF (x.1+1) (zz k ks))).take M)∧qE S wr B l L.length L∧jb w wr rv l∧wr.heap[w.heap.size]? =some (.cells c1 27 (0,0))∧T.length+1≤L.length∧L.length≤M
theorem zeh (M:Nat) (hM:M≤2000000):∀(m:Nat) (w:World) (S:Nat→Prop) (v:Value) (t:Tr) (B:Nat) (rv:Value) (n:Nat) (T:List Sp) (d:Nat),zg t.kids<m→foLen t.kids≤9223372036854775807→qD t.kids→(∀k,S k→k<B)→B≤w.heap.size→zJ w S v t→
 qE S w B rv n T→n≤M→d≤n+1→
 Calls Tryz.prog 39 #[rv,v,.int .i64 (d:Int),.int .i64 (M:Int)] w (zjO S w B rv T M d t):=by
 intro m
 induction m with
 | zero=>intro w S v t B rv n T d h;omega
 | succ m ih=>
   intro w S v t B rv n T d hm hm5 hfit hS hB hv hrow hnM hd1
   obtain⟨ka,cap,rfl,hcpt,hk⟩:=hv
   obtain⟨id,kd,tx,ks⟩:=t
   simp only at hk hm hcpt hm5 hfit
   simp only
   obtain⟨hT,xs,ho,hxs⟩:=hrow
   obtain⟨ra,rcap,rfl⟩:=zw ho
   obtain⟨len,hlen⟩:∃len,len=foLen ks:=⟨_,rfl⟩
   have hlen2:len≤9223372036854775807:=by omega
   rw[←hlen] at hcpt ⊢
   have HN:=hH (aN hm hfit)
   have HLEN:=hH (aN hlen hcpt)
   have HK:=hH hk
   have HSS:=hH (aN hS hB)
   have HIH:=hH ih
   have HO:=hH (aN ho hxs)
   have HT:=hH hT
   have HD:=hH hd1
   have hdM:(d:Int)≤2000001:=by omega
   have hd0:(0:Int)≤(d:Int):=by omega
   have hn5:n≤2000000:=by omega
   clear hlen hk hm hm5 hfit hS hB ih ho hxs hT hcpt hd1
   by_cases hful:M≤n
   · have hMn:(M:Int)≤(n:Int):=by omega
     have HF:=hH (show (T++spT d ⟨id,kd,tx,ks⟩).take M=T by rw[List.take_append_of_le_length (by rw[HT.out];exact hful),List.take_of_length_le (by rw[HT.out];exact hnM)])
     clear hful
     go_enter Tryz.func39,Tryz.ntmps39
     go_wp2_with fail
     go_ret
     refine⟨_,rfl,?_,jb.box _⟩
     rw[HF.out,HT.out]
     exact⟨HT.out,xs,HO.out.1.alloc _,fun i x hi=>(HO.out.2 i x hi).kept fun k hk=>BhaQ _ _ _ (nL (HSS.out.1 k hk) HSS.out.2)⟩
   have hnn:¬(M:Int)≤(n:Int):=by omega
   have hnM1:n+1≤M:=by omega
   have HFN:=hH hful
   clear hful
   go_enter Tryz.func39,Tryz.ntmps39
   obtain⟨i0,z0,hi0,hz0,hz1,hz2,hz3⟩:=zdW Tryz.zdU
   have hnew:((w.alloc (.cells #[.int .i64 id,.int .i64 kd,.string tx,.slice ka len cap] 27)).alloc (.cells #[.int .i64 id,.int .i64 kd,.string tx,.slice ka len cap,.int .i64 (d:Int)] 59)).heap[w.heap.size+1]? =some (.cells #[.int .i64 id,.int .i64 kd,.string tx,.slice ka len cap,.int .i64 (d:Int)] 59 (0,0)):=heap_alloc2_new w _ _
   have HNEW:=hH hnew
   have hBw:B≤w.heap.size:=HSS.out.2
   clear hnew
   go_wp2_with (at_builtin;refine wpList_append_lies _ rfl (.tmp 15) (.tmp 19) _ rfl B 59 i0 z0 5 64 Tryz.underlying56 hi0 hz0 hz1 hz2 hz3 om (.slice ra n rcap) n xs rfl ((HO.out.1.alloc _).alloc _) ⟨w.heap.size+1,0,none⟩ 1 1 [.int .i64 id,.int .i64 kd,.string tx,.slice ka len cap,.int .i64 (d:Int)] rfl rfl (World.news_of_block (cs:= #[.int .i64 id,.int .i64 kd,.string tx,.slice ka len cap,.int .i64 (d:Int)]) (t:=59) (fr:=(0,0)) HNEW.out) (by simp[Value.oneCell']) om (by unfold maxLen;omega) om (by simp;omega) (w.heap.size+1+1) sp1 ?_;intro gg cap' w1 hown1 hgrow hat hlt1)
   have hg1:jb w w1 (.slice ra n rcap) (.slice (some ⟨gg,0,none⟩) (n+1) cap'):=jb.first hgrow hat
   have hsp0:qE S w B (.slice ra n rcap) n T:=⟨HT.out,xs,HO.out⟩
   have hlow1:=hg1.zih hsp0 hBw
   have hsp1:qE S w1 B (.slice (some ⟨gg,0,none⟩) (n+1) cap') (n+1) (T++[(d,(id,kd,tx),ks)]):=⟨by rw[List.length_append,HT.out];rfl,_,hown1,by
    have:=Q3 (x:=(d,(id,kd,tx),ks)) (ka:=ka) (cap:=cap) HO.out.1.1 HT.out HO.out.2 (w':=w1) (fun k hk=>hlow1 k (HSS.out.1 k hk)) (by show foLen ks≤cap;rw[←HLEN.out.1];exact HLEN.out.2) (HK.out.kept fun x hx=>⟨hx,hlow1 x (HSS.out.1 x hx)⟩)
    simp only[←HLEN.out.1] at this
    exact this⟩
   have hob:∀g,(Value.slice ra n rcap).ownBlock=some g→g<w.heap.size:=fun g hg=>(zo HO.out.1 hg).2
   have hbox:w1.heap[w.heap.size]? =some (.cells #[.int .i64 id,.int .i64 kd,.string tx,.slice ka len cap] 27 (0,0)):=by
    rw[hgrow.block _ (by simp;omega) (fun e=>by have:=hob _ e.symm;omega)];exact heap_alloc2_old w _ _
   have HG:=hH (aN hg1 (aN hsp1 (aN hob hbox)))
   clear hg1 hsp1 hob hbox hgrow hown1 hat hsp0 hlow1
   go_loopw [0,9] (fun l i wr=>zeY S w B (.slice ra n rcap) T M (d,(id,kd,tx),ks) #[.int .i64 id,.int .i64 kd,.string tx,.slice ka len cap] ks len l i wr) (fun _ i _=>len - (intOf i).toNat)
   case atStart=>exact⟨0,T++[(d,(id,kd,tx),ks)],Nat.zero_le _,rfl,hH (by simp only[zz,spF];rw[List.take_of_length_le (by rw[List.length_append,HT.out];exact hnM1)]),by rw[List.length_append,HT.out];exact HG.out.2.1,HG.out.1,HG.out.2.2.2,by simp,by rw[List.length_append,HT.out];exact hnM1⟩
   case round=>
    obtain⟨k,L,hk,rfl,HL,hsp,hgr,hbx,hTL,hLM⟩:=hrel
    have p1:wr.cell? ⟨w.heap.size,3,none⟩=some (.slice ka len cap):=by rw[corQ wr _ 3 _ _ _ hbx];rfl
    have HR:=hH (aN hsp (aN hgr (aN hbx hTL)))
    clear hsp hgr hbx hTL
    by_cases hlt:k<len
    · have hlow:=HR.out.2.1.zih ⟨HT.out,xs,HO.out⟩ hBw
      have hk1:zu wr S ks ka:=HK.out.kept fun x hx=>⟨hx,hlow x (HSS.out.1 x hx)⟩
      obtain⟨b0,o0,⟨ki,kk,kt⟩,l',r,hd1',b,off,a1,n1,rfl,hSb,c0,c1,c2,c3,hcp,hl1⟩:=hk1.at k (by rw[←HLEN.out.1];exact hlt)
      obtain⟨_,_,_,_,_,e1,e2,hsz1,htk⟩:=zS k ks (by rw[←HLEN.out.1];exact hlt)
      rw[hd1'] at e1;cases e1
      have hft:=kZ k HN.out.2 hd1'
      have hcall:=HIH.out wr S (.agg #[.int .i64 ki,.int .i64 kk,.string kt,.slice a1 (foLen l') n1]) ⟨ki,kk,kt,l'⟩ B u0 L.length L (d+1) (by have:=HN.out.1;simp only;omega) hft.1 hft.2 HSS.out.1 (Nat.le_trans hBw HR.out.2.1.1.size) ⟨a1,n1,rfl,hcp,hl1⟩ HR.out.1 hLM (by have:=HD.out;have:=HR.out.2.2.2;have:=HT.out;omega)
      obtain⟨m1,hm1⟩:∃m,m=foLen l':=⟨_,rfl⟩
      rw[←hm1] at hcall c3
      simp only at c0 c1 c2
      have hcast:(((d+1:Nat)):Int)=(d:Int)+1:=by omega
      rw[hcast] at hcall
      have HC:=hH hcall
      have htk2:spF (d+1) (zz (k+1) ks)=spF (d+1) (zz k ks)++((d+1,(ki,kk,kt),l')::spF (d+1+1) l'):=by rw[htk,Qe]
      have HTK:=hH htk2
      have hkl:(k:Int)<(len:Int):=by omega
      clear hk1 hlow hd1' hcall hm1 htk htk2 hl1 hsz1 hSb e2 hcp hcast hft
      go_wp2_with fail
      refine HC.out.mono ?_
      rintro e w2 ⟨l2,rfl,hsp2,hg2⟩
      have HE:=hH (aN hsp2 hg2)
      clear hsp2 hg2
      go_wp2_with fail
      have hne:some w.heap.size≠u0.ownBlock:=fun e=>by
       rcases HR.out.2.1.2 with h | h
       · have:=HG.out.2.2.1 _ (h.symm.trans e.symm);omega
       · have:=h _ e.symm;omega
      have hLL:(L++spT (d+1) ⟨ki,kk,kt,l'⟩).take M=(T++((d,(id,kd,tx),ks)::spF (d+1) (zz (k+1) ks))).take M:=by
       rw[HL.out,zeo,HTK.out]
       simp[spT,List.append_assoc]
      have hle:L.length≤((L++spT (d+1) ⟨ki,kk,kt,l'⟩).take M).length:=by
       rw[List.length_take,List.length_append];omega
      refine⟨⟨k+1,(L++spT (d+1) ⟨ki,kk,kt,l'⟩).take M,by omega,by go_num,hH hLL,HE.out.1,HR.out.2.1.trans HE.out.2,(HE.out.2.1.block _ (lt_of_some HR.out.2.2.1) hne).trans HR.out.2.2.1,by have:=HR.out.2.2.2;omega,by rw[List.length_take];omega⟩,by simp[intOf];omega⟩
    · have hkk:k=len:=by omega
      have HKK:=hH hkk
      have hkl:¬(k:Int)<(len:Int):=by omega
      clear hkk
      go_wp2_with fail
      go_ret
      refine⟨_,rfl,?_,HR.out.2.1⟩
      have h:=HR.out.1
      have hL:=HL.out
      rw[qg k ks (by rw[HKK.out,HLEN.out.1];exact Nat.le_refl _)] at hL
      show qE S _ B _ ((T++spT d ⟨id,kd,tx,ks⟩).take M).length ((T++spT d ⟨id,kd,tx,ks⟩).take M)
      have e:(T++spT d ⟨id,kd,tx,ks⟩).take M=L:=hL.symm
      rw[e]
      exact h
def WalkM (w:World) (S:Nat→Prop) (t:Tr) (M:Nat) (e:Ending) (w' :World):Prop:=∃a cap,e= .returned (.slice a ((spF 1 (zl t)).take M).length cap)∧qE S w' w.heap.size (.slice a ((spF 1 (zl t)).take M).length cap) ((spF 1 (zl t)).take M).length ((spF 1 (zl t)).take M)∧Below w.heap.size w w'
theorem kT (M:Nat) (hM:M≤2000000) (w:World) (S:Nat→Prop) (v:Value) (t:Tr) (hlen:foLen t.kids≤9223372036854775807) (hfit:qD t.kids) (hS:∀k,S k→k<w.heap.size) (hv:zJ w S v t):
 Calls Tryz.prog 18 #[v,.int .i64 (M:Int)] w (WalkM w S t M):=by
 obtain⟨ka,cap,rfl,hcp,hk⟩:=hv
 have hb:Below w.heap.size w (w.alloc (.cells #[.int .i64 t.id,.int .i64 t.kind,.string t.text,.slice ka (foLen t.kids) cap] 27)):=(BrQ _ _).alloc (Nat.le_refl _) _
 have hc:=zeh M hM _ (w.alloc (.cells #[.int .i64 t.id,.int .i64 t.kind,.string t.text,.slice ka (foLen t.kids) cap] 27)) S _ t w.heap.size (.slice none 0 0) 0 [] 1 (Nat.lt_succ_self _) hlen hfit hS hb.size ⟨ka,cap,rfl,hcp,hk.below hb hS⟩ ⟨rfl,[],World.ownsRow_nil _ _ _ _,fun i p hi=>by simp at hi⟩ (Nat.zero_le _) om
 have HC:=hH (aN hc hb)
 clear hc hb hk hS hcp hlen hfit
 obtain⟨len,hl⟩:∃len,len=foLen t.kids:=⟨_,rfl⟩
 rw[←hl] at HC
 rw[←hl]
 clear hl
 go_enter Tryz.func18,Tryz.ntmps18
 go_wp2_with fail
 refine HC.out.1.mono ?_
 rintro e w2 ⟨rv,rfl,hsp,hg⟩
 have hb2:Below w.heap.size w w2:=HC.out.2.trans ⟨hg.1.os,hg.1.tape,hg.1.output,hg.1.size,fun k hk=>hg.1.block k (by have:=HC.out.2.size;omega) (by simp[Value.ownBlock])⟩
 have hsp':=hsp
 obtain⟨hT,xs,ho,_⟩:=hsp
 obtain⟨a,cap',rfl⟩:=zw ho
 have HE:=hH (aN hsp' hb2)
 clear hsp' ho hg hT
 rw[List.nil_append,zdf] at HE ⊢
 obtain⟨q,hq⟩:∃q,q=((spF 1 (zl t)).take M).length:=⟨_,rfl⟩
 rw[←hq] at HE ⊢
 have HQ:=hH hq
 clear hq
 go_wp2_with fail
 go_ret
 exact⟨_,_,by rw[←HQ.out];rfl,by rw[←HQ.out];exact HE.out.1,HE.out.2⟩
def zes (w:World) (t:Tr) (e:Ending) (w' :World):Prop:=∃b,e= .returned (.bool b)∧(b=false→zg t.kids+1≤250)∧Below w.heap.size w w'
theorem kP {S:Nat→Prop} {w:World} {B n:Nat} {a:Option Addr} {cap:Nat} {T:List Sp} (h:qE S w B (.slice a n cap) n T) {k:Nat} {x:Sp} (hx:T[k]? =some x):∃g,a=some ⟨g,0,none⟩∧g<w.heap.size∧w.cell? ⟨g,k*5,none⟩=some (.int .i64 x.2.1.1)∧w.cell? ⟨g,k*5+1,none⟩=some (.int .i64 x.2.1.2.1)∧w.cell? ⟨g,k*5+2,none⟩=some (.string x.2.1.2.2)∧(∃ka c,w.cell? ⟨g,k*5+3,none⟩=some (.slice ka (foLen x.2.2) c)∧foLen x.2.2≤c∧zu w S x.2.2 ka)∧w.cell? ⟨g,k*5+4,none⟩=some (.int .i64 (x.1:Int)):=by
 obtain⟨hT,xs,ho,hxs⟩:=h
 have hk:=(List.getElem?_eq_some_iff.1 hx).1
 have hgg:∃g,a=some ⟨g,0,none⟩:=by
  rcases ho.2 with ⟨hv,h0⟩ | ⟨g,cap2,cur,hv,_⟩
  · omega
  · cases hv;exact⟨g,rfl⟩
 obtain⟨g,rfl⟩:=hgg
 obtain⟨p0,p1,p2,⟨ka,c,p3,q1,q2⟩,p4⟩:=hxs k x hx
 exact⟨g,rfl,(zo ho rfl).2,zF ho rfl _ _ p0,zF ho rfl _ _ p1,zF ho rfl _ _ p2,⟨ka,c,zF ho rfl _ _ p3,q1,q2⟩,zF ho rfl _ _ p4⟩
theorem J3 (w:World) (S:Nat→Prop) (v:Value) (t:Tr) (hlen:foLen t.kids≤9223372036854775807) (hfit:qD t.kids) (hS:∀k,S k→k<w.heap.size) (hv:zJ w S v t):
 Calls Tryz.prog 6 #[v] w (zes w t):=by
 obtain⟨ka,cap,rfl,hcp,hk⟩:=hv
 have hb:Below w.heap.size w (w.alloc (.cells #[.int .i64 t.id,.int .i64 t.kind,.string t.text,.slice ka (foLen t.kids) cap] 27)):=(BrQ _ _).alloc (Nat.le_refl _) _
 have hc:=kT 251 om (w.alloc (.cells #[.int .i64 t.id,.int .i64 t.kind,.string t.text,.slice ka (foLen t.kids) cap] 27)) S _ t hlen hfit (fun k hk=>nL (hS k hk) hb.size) ⟨ka,cap,rfl,hcp,hk.below hb hS⟩
 have HC:=hH (aN hc hb)
 clear hc hb hk hfit hS hcp
 obtain⟨len,hl⟩:∃len,len=foLen t.kids:=⟨_,rfl⟩
 rw[←hl] at HC
 rw[←hl]
 clear hl
 go_enter Tryz.func6,Tryz.ntmps6
 go_wp2_with fail
 refine HC.out.1.mono ?_
 rintro e w2 ⟨a,cap',rfl,hsp,hb2⟩
 have HB:=hH (show Below w.heap.size w w2 from HC.out.2.trans (hb2.mono HC.out.2.size))
 obtain⟨n,hn⟩:∃n,n=((spF 1 (zl t)).take 251).length:=⟨_,rfl⟩
 rw[←hn] at hsp ⊢
 have HO:=hH (aN hsp hn)
 have hn2:n≤251:=by rw[hn,List.length_take];omega
 clear hb2 hn hsp
 go_wp2_with fail
 go_loop [4,5,10] (fun s _ i=>∃k:Nat,k≤n∧i= .int .i64 k∧∃q:Nat,s= .int .i64 q∧q≤20000) (fun _ _ i=>n - (intOf i).toNat)
 case atStart=>exact⟨0,Nat.zero_le _,rfl,0,rfl,by omega⟩
 case round=>
  obtain⟨k,hk,rfl,q,rfl,hq⟩:=hrel
  by_cases hlt:k<n
  · obtain⟨p,hp⟩:∃p,((spF 1 (zl t)).take 251)[k]? =some p:=⟨_,List.getElem?_eq_getElem (by rw[←HO.out.2];exact hlt)⟩
    obtain⟨g,rfl,_,_,_,c2,_,_⟩:=kP HO.out.1 hp
    obtain⟨tx,htx⟩:∃tx,tx=p.2.1.2.2:=⟨_,rfl⟩
    rw[←htx] at c2
    have hkl:(k:Int)<(n:Int):=by omega
    clear hp htx
    by_cases hbig:20000<q+tx.size
    · have hbig2:(20000:Int) - (q:Int)<(tx.size:Int):=by omega
      go_wp2_with fail
      go_ret
      exact⟨true,rfl,(fun e=>by cases e),HB.out⟩
    · have hbig2:¬(20000:Int) - (q:Int)<(tx.size:Int):=by omega
      go_wp2_with fail
      exact⟨⟨k+1,by omega,by go_num,q+tx.size,by go_num,by omega⟩,by simp[intOf];omega⟩
  · have hkl:¬(k:Int)<(n:Int):=by omega
    clear hk
    by_cases h250:250<n
    · have h251:(250:Int)<(n:Int):=by omega
      go_wp2_with fail
      go_ret
      exact⟨true,rfl,(fun e=>by cases e),HB.out⟩
    · have h251:¬(250:Int)<(n:Int):=by omega
      have HN:=hH h250
      clear h250
      go_wp2_with fail
      go_ret
      refine⟨false,rfl,fun _=>?_,HB.out⟩
      have h2:=HN.out
      rw[HO.out.2,List.length_take,yE,zL] at h2
      omega
end Go.Proofs.YtgkmmnihaiopaaaGreat
namespace Go.Proofs.YtgkmmnihaiopaaaGreat
open Go.RowKit Go.Shelf
theorem zbs:∀(f:Fo) (d k:Nat) (r:List Nat) (u v:Tr),zB f k=some u→atT u r=some v→∃x∈spF d f,kR x=v
 | .nil,_,k,_,_,_,h,_=>by cases k<;>simp[zB,zq,yO] at h
 | .node b o key l q,d,0,r,u,v,h,hv=>by
   have hu:u=⟨key.1,key.2.1,key.2.2,l⟩:=by simp only[zB,zq,yO] at h;cases h;rfl
   subst hu
   cases r with
   | nil=>cases hv;exact⟨(d,key,l),by simp[spF],rfl⟩
   | cons i r=>
     simp only[atT] at hv
     cases hk:zB l i with
     | none=>rw[hk] at hv;cases hv
     | some w=>
       rw[hk] at hv
       obtain⟨x,h1,h2⟩:=zbs l (d+1) i r w v hk hv
       exact⟨x,by simp[spF,h1],h2⟩
 | .node b o key l q,d,k+1,r,u,v,h,hv=>by
   obtain⟨x,h1,h2⟩:=zbs q d k r u v (by simpa [zB,zq] using h) hv
   exact⟨x,by simp[spF,h1],h2⟩
theorem zfP {t u:Tr} {p:List Nat} (h:atT t p=some u):∃x∈spF 1 (zl t),kR x=u:=
 zbs (zl t) 1 0 p t u rfl h
end Go.Proofs.YtgkmmnihaiopaaaGreat
