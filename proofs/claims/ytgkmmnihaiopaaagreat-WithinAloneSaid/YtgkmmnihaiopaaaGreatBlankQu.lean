/-
  .
-/
import Derived.Test.YtgkmmnihaiopaaaGreatRGreatXQu
import Derived.OwnWalk
import Derived.Test.YtgkmmnihaiopaaaGreatGGreatQu
import Derived.Deep.RegionHeld3
import Derived.StillTailTactics
import Derived.Test.YtgkmmnihaiopaaaGreatERowWQu
import Derived.Test.YtgkmmnihaiopaaaGreatRKidsQu
import Derived.Test.YtgkmmnihaiopaaaGreatJPgQu
import Derived.Test.YtgkmmnihaiopaaaGreatJPsQu
set_option maxRecDepth 100000
set_option maxHeartbeats 40000000
set_option linter.unusedVariables false
set_option linter.unusedSimpArgs false
namespace Go.Proofs.YtgkmmnihaiopaaaGreat
open Go.RowKit
theorem Tryz.Jh:(Tryz.prog.info? 3).map (fun i=>(i.zero,i.size,i.bytes))=some (some (.int .i64 0),1,8):=by kernel_rfl
def zg9 (l:List Sp):List Int:=l.map (fun x=>x.2.1.1)
def Zu (n:Int):Value:= .int .i64 n
def ziE (w:World) (l:List Int) (e:Ending) (w' :World):Prop:=∃v,e= .returned v∧w'.ownsRow w.heap.size 3 1 v l.length (l.map Zu)∧Below w.heap.size w w'
end Go.Proofs.YtgkmmnihaiopaaaGreat
namespace Go.Proofs.YtgkmmnihaiopaaaGreat
open Go.RowKit Go.Shelf
def qh (p:List Nat):List Int:=p.map (fun n:Nat=>(n:Int))
theorem zX (p:List Nat):(qh p).length=p.length:=by simp[qh]
theorem zhi (W:World) (q:Nat) (h:q≤1000000):∃zs:Array Value,zs.size=q∧(Instr.makeSlice 53 (.int .i64 (q:Int)) (.int .i64 (q:Int))).run Tryz.prog W= .ok (.slice (some ⟨W.heap.size,0,none⟩) q q) (W.alloc (.cells zs 3)):=by
 obtain⟨i0,hi,hz0,hz1,hz2⟩:=info_parts Tryz.Jh
 have hr:=run_makeSlice (P:=Tryz.prog) W 53 3 i0 (.int .i64 0) Tryz.underlying53 hi hz0 .i64 .i64 (q:Int) (q:Int) om om (by rw[hz1];omega) (by rw[hz2];omega) om
 rw[hz1] at hr
 exact⟨_,(size_madeCells _ _).trans (Nat.mul_one q),by rw[hr];simp;rfl⟩
def zb8 (w:World) (p:Option (List Nat)) (e:Ending) (w' :World):Prop:=∃v,e= .returned (.tuple #[v,.bool p.isSome])∧w'.ownsRow w.heap.size 3 1 v (qh (p.getD [])).length ((qh (p.getD [])).map Zu)∧Below w.heap.size w w'
def zb9 (W:World) (w0:World) (zs:Array Value) (p:List Nat) (k:Nat) (wr:World):Prop:=wr.ownsRow w0.heap.size 3 1 (.slice (some ⟨W.heap.size,0,none⟩) p.length p.length) p.length (((qh p).map Zu).take k++zs.toList.drop k)∧Below W.heap.size W wr
theorem zb9.step {W w0 wr:World} {zs:Array Value} {p:List Nat} {k x:Nat} {o:Obj} (h:zb9 W w0 zs p k wr) (hz:zs.size=p.length) (hx:p[k]? =some x):zb9 W w0 zs p (k+1) ((wr.setCell ⟨W.heap.size,k,none⟩ (.int .i64 (x:Int))).alloc o):=by
 have hk:=(List.getElem?_eq_some_iff.1 hx).1
 have h2:=(World.ownsRow.stored h.1 k (.int .i64 (x:Int))).1
 have e:(((qh p).map Zu).take k++zs.toList.drop k).set k (.int .i64 (x:Int))=((qh p).map Zu).take (k+1)++zs.toList.drop (k+1):=by
  have hl:(((qh p).map Zu).take k).length=k:=by rw[List.length_take,List.length_map,zX];omega
  rw[List.set_append_right _ _ om,hl,Nat.sub_self]
  have hz2:k<zs.toList.length:=by rw[Array.length_toList];omega
  rw[←List.getElem_cons_drop hz2,pgE,List.take_add_one]
  have h3:((qh p).map Zu)[k]? =some (.int .i64 (x:Int)):=by rw[List.getElem?_map,qh,List.getElem?_map,hx];rfl
  rw[h3];simp
 rw[e] at h2
 have h4:=h.2.setCell (p:=⟨W.heap.size,k,none⟩) (Nat.le_refl _) (.int .i64 (x:Int))
 exact⟨h2.alloc o,h4.alloc h4.size o⟩
theorem ZO (w:World) (S:Nat→Prop) (nv:Value) (t:Tr) (id:Int) (hS:∀x,S x→x<w.heap.size) (ht:zJ w S nv t) (hsz:zg t.kids≤400000):Calls Tryz.prog 95 #[nv,.int .i64 id] w (zb8 w (zx id t)):=by
 obtain⟨ka,tc,rfl,hcap,hk⟩:=ht
 have hb:=zh w (.cells #[.int .i64 t.id,.int .i64 t.kind,.string t.text,.slice ka (foLen t.kids) tc] 27)
 have hway:=zeQ (w.alloc (.cells #[.int .i64 t.id,.int .i64 t.kind,.string t.text,.slice ka (foLen t.kids) tc] 27)) S _ t id (fun x hx=>nL (hS x hx) hb.size) ⟨ka,tc,rfl,hcap,hk.below hb hS⟩ hsz
 have HC:=hH (aN hway hb)
 obtain⟨n,hn⟩:∃n,n=foLen t.kids:=⟨_,rfl⟩
 rw[←hn] at HC ⊢
 clear hway hb hk hcap hS hn
 go_enter Tryz.func95,Tryz.ntmps95
 go_wp2_with fail
 refine HC.out.1.mono ?_
 rintro e W ⟨rv,L,rfl,hw,hb,_⟩
 have hbW:Below w.heap.size w W:=HC.out.2.trans (hb.mono HC.out.2.size)
 rcases hw.path with ⟨rfl,hp⟩ | ⟨p,hp,hpl,hlen⟩
 · obtain⟨a,c,rfl⟩:=zw hw.rows
   have HE:=hH (aN hp hbW)
   clear hw hb hp hbW HC
   simp only[List.length_nil]
   go_wp2_with fail
   go_ret2
   exact⟨.slice none 0 0,by rw[HE.out.1];rfl,by rw[HE.out.1];exact World.ownsRow_nil _ _ _ _,HE.out.2⟩
 · obtain ⟨m,hm⟩:∃m,m=p.length:=⟨_,rfl⟩
   rw[←hm] at hlen
   obtain⟨g,n2,cap,_,_,_,_,_,_,rfl,rfl,hnc,_⟩:=hw.at (k:=0) om
   have hfew:=hw.few
   have hrow:∀(k x:Nat),p[k]? =some x→∃(a:Option Addr) (q c:Nat),W.cell? ⟨g,2+k*2,none⟩=some (.slice a q c)∧W.cell? ⟨g,2+k*2+1,none⟩=some (.int .i64 (x:Int)):=fun k x hx=>by
    obtain⟨g',_,_,b,off,q,c,pl,u2,e2,_,_,c0,c2,_,_,_,hpk2,_⟩:=hw.at (k:=k+1) (by have:=(List.getElem?_eq_some_iff.1 hx).1;omega)
    cases e2
    rw[hpl,List.getElem?_cons_succ,hx] at hpk2
    cases hpk2
    rw[show (k+1)*2=2+k*2 by omega] at c0 c2
    exact⟨_,_,_,c0,c2⟩
   rw[hlen]
   rw[hlen] at hnc hfew
   obtain⟨zs,hzs,hmk⟩:=zhi W m om
   have hgl:g<W.heap.size:=(zo hw.rows (g:=g) rfl).2
   have HST:Hid (zb9 W w zs p 0 (W.alloc (.cells zs 3))):=hH ⟨⟨by rw[List.take_zero,List.nil_append,List.drop_zero,Array.length_toList];omega,Or.inr ⟨W.heap.size,p.length,zs,rfl,hbW.size,hanQ W _,Nat.le_refl _,by unfold maxLen;omega,by omega,by rw[List.take_zero,List.nil_append,List.drop_zero];rw[List.take_of_length_le (by rw[Array.length_toList];omega)]⟩⟩,zh W _⟩
   have HE:=hH (aN hp (aN hbW (aN hm (aN hrow hzs))))
   have hmb:m≤1000000:=by omega
   have hmz:((m:Int)+1 == 0)=false:=by simp;omega
   have hmw:IntKind.i64.wrap (m:Int)=(m:Int):=IntWalk.i64_in _ om
   have hm1:(1:Int)≤(m:Int)+1:=by omega
   have hcc:(m:Int)+1≤(cap:Int):=by omega
   clear hw hb hp hbW HC hlen hpl hrow hzs hfew hm
   go_wp2_with fail
   all_goals
    go_loopw [23] (fun i wr=>∃k:Nat,k≤m∧i= .int .i64 (k:Int)∧Hid (zb9 W w zs p k wr)) (fun i _=>m - (intOf i).toNat)
    case atStart=>exact⟨0,Nat.zero_le _,rfl,HST⟩
    case round=>
     obtain⟨k,hk,rfl,hh⟩:=hrel
     clear HST
     by_cases hlt:k<m
     · first
        | (exfalso;omega)
        | (obtain⟨x,hx⟩:∃x,p[k]? =some x:=⟨_,List.getElem?_eq_getElem (by rw[←HE.out.2.2.1];exact hlt)⟩
           obtain⟨a,q,c,c0,c1⟩:=HE.out.2.2.2.1 k x hx
           obtain⟨v0,hv0⟩:∃v0,zs.toList[k]? =some v0:=⟨_,List.getElem?_eq_getElem (by rw[Array.length_toList,HE.out.2.2.2.2];exact hlt)⟩
           have hown:=hh.out.1
           have hcell:=World.ownsRow.cellAt hown k (by rw[←HE.out.2.2.1];omega)
           have hfz:=World.ownsRow.frozenAt hown k
           rw[List.getElem?_append_right (by rw[List.length_take,List.length_map,zX];omega),List.length_take,List.length_map,zX,List.getElem?_drop,show k+(k - min k p.length)=k by (have:=HE.out.2.2.1;omega),hv0] at hcell
           have d0:wr.cell? ⟨g,2+k*2,none⟩=some (.slice a q c):=(hh.out.2.cell (p:=⟨g,2+k*2,none⟩) hgl).trans c0
           have d1:wr.cell? ⟨g,2+k*2+1,none⟩=some (.int .i64 (x:Int)):=(hh.out.2.cell (p:=⟨g,2+k*2+1,none⟩) hgl).trans c1
           have hWl:W.heap.size<wr.heap.size:=(World.block_lt_of_cell? _ _ hcell)
           have hcellA:∀o,(wr.alloc o).cell? ⟨W.heap.size,k,none⟩=some v0:=fun o=>(World.cell?_of_block (BhaQ wr o W.heap.size hWl)).trans hcell
           have hfzA:∀o,(wr.alloc o).frozen? ⟨W.heap.size,k,none⟩=false:=fun o=>(World.frozen?_of_block (BhaQ wr o W.heap.size hWl)).trans hfz
           have hnx:=fun o=>hh.out.step (o:=o) (by rw[HE.out.2.2.2.2];exact HE.out.2.2.1) hx
           have HN:=hH hnx
           have hki:(k:Int)<(m:Int):=by omega
           have HLT:=hH hlt
           clear hx c0 c1 hv0 hown hcell hfz hnx hlt hk hh
           go_wp2_with fail
           exact⟨⟨k+1,by have:=HLT.out;omega,by go_num,hH (HN.out _)⟩,by have:=HLT.out;simp[intOf];omega⟩)
     · have hki:¬(k:Int)<(m:Int):=by omega
       have hkm:k=m:=by omega
       have HO:=hH (aN hh.out hkm)
       clear hh hk hlt hkm
       go_wp2_with fail
       go_ret2
       obtain⟨⟨ho,hb9⟩,hkm⟩:=HO.out
       refine⟨.slice (some ⟨W.heap.size,0,none⟩) m m,by rw[HE.out.1];rfl,?_,HE.out.2.1.trans (hb9.mono HE.out.2.1.size)⟩
       rw[HE.out.1]
       show World.ownsRow _ _ _ _ _ (qh p).length ((qh p).map Zu)
       rw[zX]
       rw[List.take_of_length_le (by rw[List.length_map,zX];have:=HE.out.2.2.1;omega),List.drop_eq_nil_of_le (by rw[Array.length_toList];have:=HE.out.2.2.2.2;omega),List.append_nil] at ho
       rw[HE.out.2.2.1]
       exact ho
def vL (w:World) (S:Nat→Prop) (a:Option Addr) (cap:Nat) (l:List Int):Prop:=l.length≤cap∧(l= []∨∃b off,a=some ⟨b,off,none⟩∧S b∧∀k x,l[k]? =some x→w.cell? ⟨b,off+k,none⟩=some (.int .i64 x))
theorem vL.kept {w w' :World} {S S' :Nat→Prop} {a:Option Addr} {cap:Nat} {l:List Int} (h:vL w S a cap l) (hS:∀k,S k→S' k∧w'.heap[k]? =w.heap[k]?):vL w' S' a cap l:=by
 obtain⟨h0,h1⟩:=h
 refine⟨h0,h1.imp (fun h=>h) ?_⟩
 rintro ⟨b,off,e,hb,hc⟩
 exact⟨b,off,e,(hS b hb).1,fun k x hx=>(World.cell?_of_block (hS b hb).2).trans (hc k x hx)⟩
theorem ZZ {w:World} {B:Nat} {a:Option Addr} {cap n:Nat} {l:List Int} (h:w.ownsRow B 3 1 (.slice a n cap) n (l.map Zu)):vL w (fun y=>B≤y∧y<w.heap.size) a cap l∧n=l.length:=by
 have hl:n=l.length:=by have:=h.1;rw[List.length_map] at this;omega
 rcases h.2 with ⟨hv,h0⟩ | ⟨g,c',cur,hv,hB,hh,h3,h4,h5,h6⟩
 · cases hv
   exact⟨⟨by omega,Or.inl (List.length_eq_zero_iff.1 om)⟩,hl⟩
 · cases hv
   refine⟨⟨by omega,Or.inr ⟨g,0,rfl,⟨hB,lt_of_some hh⟩,fun k x hx=>?_⟩⟩,hl⟩
   rw[Nat.zero_add]
   exact zF h rfl k _ (by rw[List.getElem?_map,hx];rfl)
theorem vL.drop {w:World} {S:Nat→Prop} {b off cap:Nat} {l:List Int} (h:vL w S (some ⟨b,off,none⟩) cap l) (m:Nat):vL w S (some ⟨b,off+m,none⟩) (cap - m) (l.drop m):=by
 obtain⟨h0,h1⟩:=h
 refine⟨by rw[List.length_drop];omega,?_⟩
 rcases h1 with h1 | ⟨b',off',e,hb,hc⟩
 · exact Or.inl (by rw[h1];simp)
 · cases e
   refine Or.inr ⟨b,off+m,rfl,hb,fun k x hx=>?_⟩
   rw[List.getElem?_drop] at hx
   have:=hc (m+k) x hx
   rw[Nat.add_assoc];exact this
def jX (w:World) (S:Nat→Prop) (u:Tr) (b off:Nat):Prop:=S b∧w.cell? ⟨b,off,none⟩=some (.int .i64 u.id)∧w.cell? ⟨b,off+1,none⟩=some (.int .i64 u.kind)∧w.cell? ⟨b,off+2,none⟩=some (.string u.text)∧∃ka kc,w.cell? ⟨b,off+3,none⟩=some (.slice ka (foLen u.kids) kc)∧foLen u.kids≤kc∧zu w S u.kids ka
def vD:Fo→Nat→Tr→Fo
 | .nil,_,_=> .nil
 | .node b o k l r,0,u=> .node b o (u.id,u.kind,u.text) u.kids r
 | .node b o k l r,i+1,u=> .node b o k l (vD r i u)
def zQ:Tr→List Nat→Tr→Tr
 | _,[],x=>x
 | t,i::p,x=>match zB t.kids i with
   | none=>t
   | some u=>⟨t.id,t.kind,t.text,vD t.kids i (zQ u p x)⟩
theorem ZR:∀(f:Fo) (i:Nat) (u:Tr),foLen (vD f i u)=foLen f
 | .nil,_,_=>rfl
 | .node _ _ _ _ _,0,_=>rfl
 | .node _ _ _ _ r,i+1,u=>by simp[vD,foLen,ZR r i u]
theorem zad:∀(f:Fo) (i:Nat) (u:Tr),i<foLen f→zB (vD f i u) i=some u
 | .nil,_,_,h=>by simp[foLen] at h
 | .node _ _ _ _ _,0,_,_=>rfl
 | .node _ _ _ _ r,i+1,u,h=>by
   have:=zad r i u (by simp[foLen] at h;omega)
   simpa [zB,vD,zq] using this
theorem zdc:∀(f:Fo) (i:Nat) (u v:Tr),vD (vD f i u) i v=vD f i v
 | .nil,_,_,_=>rfl
 | .node _ _ _ _ _,0,_,_=>rfl
 | .node _ _ _ _ r,i+1,u,v=>by simp[vD,zdc r i u v]
theorem yJ:∀(p:List Nat) (t:Tr) (r:List Nat),atT t (p++r)=(atT t p).bind fun u=>atT u r
 | [],t,r=>rfl
 | i ::p,t,r=>by
   simp only[List.cons_append,atT]
   cases zB t.kids i with
   | none=>rfl
   | some u=>exact yJ p u r
theorem QX:∀(p:List Nat) (t u v x:Tr) (i:Nat),atT t p=some u→zB u.kids i=some v→zQ t (p++[i]) x=zQ t p ⟨u.id,u.kind,u.text,vD u.kids i x⟩
 | [],t,u,v,x,i,h,hv=>by cases h;simp[zQ,hv]
 | j ::p,t,u,v,x,i,h,hv=>by
   simp only[atT] at h
   simp only[List.cons_append,zQ]
   cases hk:zB t.kids j with
   | none=>simp[hk] at h
   | some w=>rw[hk] at h;simp only at h ⊢;rw[QX p w u v x i h hv]
def zgb (w:World) (S:Nat→Prop):Nat→Fo→Nat→Nat→Prop
 | _,.nil,_,_=>True
 | 0,.node _ _ _ _ r,b,off=>zu w S r (some ⟨b,off+4,none⟩)
 | i+1,.node _ _ k l r,b,off=>jX w S ⟨k.1,k.2.1,k.2.2,l⟩ b off∧zgb w S i r b (off+4)
theorem JH:∀(f:Fo) (i:Nat) {w:World} {S:Nat→Prop} {u:Tr} {b off:Nat},zgb w S i f b off→jX w S u b (off+i*4)→i<foLen f→zu w S (vD f i u) (some ⟨b,off,none⟩)
 | .nil,_,_,_,_,_,_,_,_,h=>by simp[foLen] at h
 | .node _ _ k l r,0,w,S,u,b,off,h,hn,_=>by
   obtain⟨h0,h1,h2,h3,ka,kc,h4,h5,h6⟩:=hn
   simp only[Nat.zero_mul,Nat.add_zero] at h1 h2 h3 h4
   exact⟨b,off,ka,kc,rfl,h0,h1,h2,h3,h4,h5,h6,h⟩
 | .node _ _ k l r,i+1,w,S,u,b,off,h,hn,hi=>by
   obtain⟨⟨h0,h1,h2,h3,ka,kc,h4,h5,h6⟩,hr⟩:=h
   refine⟨b,off,ka,kc,rfl,h0,h1,h2,h3,h4,h5,h6,JH r i hr ?_ (by simp[foLen] at hi;omega)⟩
   rw[show off+4+i*4=off+(i+1)*4 by omega];exact hn
theorem zbu:∀(f:Fo) (i:Nat) (xs:List Value) {w w' :World} {S S' :Nat→Prop} {b off:Nat},yF w S f xs→i<foLen f→S' b→(∀y,S y→S' y∧w'.heap[y]? =w.heap[y]?)→(∀j u,xs[j]? =some u→(j<i*4∨i*4+4≤j)→w'.cell? ⟨b,off+j,none⟩=some u)→zgb w' S' i f b off
 | .nil,_,_,_,_,_,_,_,_,_,h,_,_,_=>by simp[foLen] at h
 | .node _ _ k l r,0,xs,w,w',S,S',b,off,hf,_,hb,hS,hc=>by
   obtain⟨ka,cap,ys,e,hcp,hkl,hr⟩:=hf
   subst e
   refine yF.lies hb (off+4) (hr.kept hS) fun j u hu=>?_
   have:=hc (j+4) u (by rw[List.getElem?_append_right sp1];simpa using hu) (Or.inr om)
   rw[show off+4+j=off+(j+4) by omega];exact this
 | .node _ _ k l r,i+1,xs,w,w',S,S',b,off,hf,hi,hb,hS,hc=>by
   obtain⟨ka,cap,ys,e,hcp,hkl,hr⟩:=hf
   subst e
   refine⟨⟨hb,hc 0 _ rfl (Or.inl om),hc 1 _ rfl (Or.inl om),hc 2 _ rfl (Or.inl om),ka,cap,hc 3 _ rfl (Or.inl om),hcp,hkl.kept hS⟩,zbu r i ys hr (by simp[foLen] at hi;omega) hb hS fun j u hu hj=>?_⟩
   have:=hc (j+4) u (by rw[List.getElem?_append_right sp1];simpa using hu) om
   rw[show off+4+j=off+(j+4) by omega];exact this
theorem zg3:∀(f:Fo) {w:World} {S:Nat→Prop} {b off:Nat},zu w S f (some ⟨b,off,none⟩)→∃xs,yF w S f xs∧xs.length=foLen f*4∧(∀j u,xs[j]? =some u→w.cell? ⟨b,off+j,none⟩=some u)∧∀u∈xs,u.oneCell'=true
 | .nil,_,_,_,_,_=>⟨[],rfl,rfl,fun _ _ h=>by simp at h,fun _ h=>by cases h⟩
 | .node _ _ k l r,w,S,b,off,h=>by
   obtain⟨b',off',ka,kc,e,hb,c0,c1,c2,c3,hcp,hkl,hr⟩:=h
   cases e
   obtain⟨ys,h1,h2,h3,h4⟩:=zg3 r hr
   exact sc4
theorem zeA (f:Fo) {w:World} {S:Nat→Prop} {a:Option Addr} (h:zu w S f a):∃xs,yF w S f xs∧xs.length=foLen f*4∧(∀ad,a=some ad→∀j u,xs[j]? =some u→w.cell? (ad.add j)=some u)∧(∀u∈xs,u.oneCell'=true):=by
 cases f with
 | nil=>exact⟨[],rfl,rfl,fun _ _ _ _ h=>by simp at h,fun _ h=>by cases h⟩
 | node b0 o0 k l r=>
   have h':=h
   obtain⟨b',off',ka,kc,e,_⟩:=h'
   subst e
   obtain⟨xs,h1,h2,h3,h4⟩:=zg3 _ h
   exact⟨xs,h1,h2,fun ad hd j u hu=>by cases hd;rw[Addr.add_mid];exact h3 j u hu,h4⟩
theorem kF {f:Fo} {i:Nat} {u:Tr} (h:zB f i=some u):zg u.kids+1≤zg f:=by
 have h2:=ZG h
 have h3:∀(j:Nat) (f:Fo),zg (zq j f)≤zg f:=by
  exact sg1
 have:=h3 i f
 omega
theorem zaw:∀(f:Fo) (i:Nat) (u v:Tr),zB f i=some u→zg (vD f i v)+zg u.kids=zg f+zg v.kids
 | .nil,i,_,_,h=>by cases i<;>simp[zB,zq,yO] at h
 | .node _ _ k l r,0,u,v,h=>by
   simp only[zB,zq,yO] at h
   cases h
   simp only[vD,zg];omega
 | .node _ _ k l r,i+1,u,v,h=>by
   have:=zaw r i u v (by simpa [zB,zq] using h)
   simp only[vD,zg];omega
end Go.Proofs.YtgkmmnihaiopaaaGreat
namespace Go.Proofs.YtgkmmnihaiopaaaGreat
open Go.RowKit
theorem za2:∀l:List Sp,l.flatMap idC=(zg9 l).map Zu
 | []=>rfl
 | x::l=>by rw[List.flatMap_cons,za2 l];rfl
theorem zbi (w:World) (S:Nat→Prop) (nv:Value) (t:Tr) (hS:∀x,S x→x<w.heap.size) (ht:zJ w S nv t) (hsz:zg t.kids+1≤400000):Calls Tryz.prog 73 #[nv] w (ziE w (zg9 (spF 1 (zl t)))):=by
 obtain⟨ka,cap,rfl,hcap,hk⟩:=ht
 obtain⟨n,hn⟩:∃n,n=foLen t.kids:=⟨_,rfl⟩
 rw[←hn]
 have hb:Below w.heap.size w (w.alloc (.cells #[.int .i64 t.id,.int .i64 t.kind,.string t.text,.slice ka n cap] 27)):=(BrQ _ w).alloc (Nat.le_refl _) _
 have hc:=zhu (w.alloc (.cells #[.int .i64 t.id,.int .i64 t.kind,.string t.text,.slice ka n cap] 27)) S (.agg #[.int .i64 t.id,.int .i64 t.kind,.string t.text,.slice ka n cap]) t (fun x hx=>nL (hS x hx) hb.size) ⟨ka,cap,by rw[hn],hcap,hk.below hb hS⟩ hsz
 have HC:=hH (aN hc hb)
 clear hc hb hS hcap hk hn hsz
 go_enter Tryz.func73,Tryz.ntmps73
 go_wp2_with fail
 refine HC.out.1.mono ?_
 rintro e w2 ⟨v,rfl,ho,hb2⟩
 have HE:=hH (aN ho hb2)
 clear ho hb2
 go_wp2_with fail
 go_ret
 refine⟨_,rfl,?_,HC.out.2.trans (HE.out.2.mono HC.out.2.size)⟩
 have h:=zfJ HE.out.1 HC.out.2.size
 rw[za2] at h
 rw[show (zg9 (spF 1 (zl t))).length=(spF 1 (zl t)).length by simp[zg9]]
 exact h
end Go.Proofs.YtgkmmnihaiopaaaGreat
namespace Go.Proofs.YtgkmmnihaiopaaaGreat
open Go.RowKit Go.Shelf
def yV (id:Int):Fo→Fo
 | .nil=> .nil
 | .node b o k l r=>if k.1=id then .node b o (id,0,⟨#[]⟩) .nil (yV id r) else .node b o k (yV id l) (yV id r)
def yh (id:Int) (t:Tr):Tr:=if t.id=id then ⟨id,0,⟨#[]⟩,.nil⟩ else ⟨t.id,t.kind,t.text,yV id t.kids⟩
theorem qQ (id:Int) (b o:Nat) (k:Int×Int×ByteArray) (l r:Fo):yV id (.node b o k l r)= .node b o ((yh id ⟨k.1,k.2.1,k.2.2,l⟩).id,(yh id ⟨k.1,k.2.1,k.2.2,l⟩).kind,(yh id ⟨k.1,k.2.1,k.2.2,l⟩).text) (yh id ⟨k.1,k.2.1,k.2.2,l⟩).kids (yV id r):=by
 rw[yV,yh]
 simp only
 split<;>rfl
theorem QK (id:Int):∀(k:Nat) (f:Fo),zq k (yV id f)=yV id (zq k f)
 | 0,f=>by simp[zq]
 | k+1,.nil=>by simp[zq,yV]
 | k+1,.node b o a l r=>by rw[qQ];simp only[zq];exact QK id k r
theorem JF (id:Int):∀f:Fo,foLen (yV id f)=foLen f
 | .nil=>rfl
 | .node b o k l r=>by rw[qQ];simp only[foLen];rw[JF id r]
theorem zaT (id:Int):∀(f:Fo) (i:Nat) (u v:Tr),zB f i=some u→yh id v=yh id u→yV id (vD f i v)=yV id f
 | .nil,i,u,v,h,_=>by cases i<;>simp[zB,zq,yO] at h
 | .node b o k l r,0,u,v,h,e=>by
   simp only[zB,zq,yO] at h
   cases h
   show yV id (.node b o (v.id,v.kind,v.text) v.kids r)=_
   rw[qQ,qQ]
   simp only
   rw[show (⟨v.id,v.kind,v.text,v.kids⟩:Tr)=v from rfl,e]
 | .node b o k l r,i+1,u,v,h,e=>by
   simp only[vD]
   rw[qQ,qQ,zaT id r i u v (by simpa only[zB,zq] using h) e]
theorem zaS (id:Int):∀(q:List Nat) (t u v:Tr),atT t q=some u→u.id=id→v.id=id→yh id (zQ t q v)=yh id t
 | [],t,u,v,h,h1,h2=>by
   cases h
   show yh id v=yh id t
   rw[yh,if_pos h2,yh,if_pos h1]
 | i ::q,t,u,v,h,h1,h2=>by
   simp only[atT] at h
   cases hk:zB t.kids i with
   | none=>rw[hk] at h;cases h
   | some k=>
     rw[hk] at h
     simp only[zQ,hk]
     have e:=zaT id t.kids i k _ hk (zaS id q k u v h h1 h2)
     rw[yh,yh]
     simp only
     rw[e]
theorem zas (root:Int):∀(n:Nat) (w:World) (S:Nat→Prop) (v:Value) (t:Tr),zg t.kids<n→zg t.kids≤1000000→(∀k,S k→k<w.heap.size)→zJ w S v t→
 Calls Tryz.prog 17 #[v,.int .i64 root] w (jD (yh root t) w):=by
 intro n
 induction n with
 | zero=>intro w S v t h;omega
 | succ n ih=>
   intro w S v t hn hm hS hv
   obtain⟨ka,cap,rfl,hcp0,hk⟩:=hv
   obtain⟨id,kd,tx,ks⟩:=t
   simp only at hk hn hm
   simp only
   obtain⟨len,hlen⟩:∃len,len=foLen ks:=⟨_,rfl⟩
   rw[←hlen]
   have hlen6:len≤1000000:=by rw[hlen];exact Nat.le_trans (zK ks) hm
   have HN:=hH (aN hn hm)
   have HLEN:=hH hlen
   have HK:=hH hk
   clear hcp0
   have HSS:=hH hS
   have HIH:=hH ih
   by_cases hroot:id=root
   · have hrb:(id == root)=true:=by simpa using hroot
     have hbt:yh root ⟨id,kd,tx,ks⟩=⟨root,0,⟨#[]⟩,.nil⟩:=by rw[yh,if_pos hroot]
     have HBT:=hH hbt
     obtain⟨W,hW⟩:∃W,W=zt w [.cells #[.int .i64 id,.int .i64 kd,.string tx,.slice ka len cap] 27,.cells #[.int .i64 0,.int .i64 0,.string ⟨#[]⟩,.slice none 0 0] 27]:=⟨_,rfl⟩
     have hb:Below w.heap.size w W:=by rw[hW];exact zm _ _
     have e0:W.heap[w.heap.size]? =some (.cells #[.int .i64 id,.int .i64 kd,.string tx,.slice ka len cap] 27 (0,0)):=by rw[hW];exact zi _ _ 0 _ rfl
     have e1:W.heap[w.heap.size+1]? =some (.cells #[.int .i64 0,.int .i64 0,.string ⟨#[]⟩,.slice none 0 0] 27 (0,0)):=by rw[hW];exact zi _ _ 1 _ rfl
     obtain⟨p0,p1,p2,p3⟩:=zD e0
     obtain⟨z0,z1,z2,z3⟩:=zD e1
     have gz:∀j,W.frozen? ⟨w.heap.size+1,j,none⟩=false:=fun j=>forQ _ _ j _ _ e1
     have HZ:=hH (zW e1 (.int .i64 root) (.int .i64 0) (.string ⟨#[]⟩) (.slice none 0 0))
     have HB:=hH hb
     have HW:=hH hW
     clear hlen hk hn hm hS ih hroot hbt hb e0 e1 hW
     go_enter Tryz.func17,Tryz.ntmps17
     go_upto_region 1 with fail
     change Code.wp _ _ _ _ (zt w [.cells #[.int .i64 id,.int .i64 kd,.string tx,.slice ka len cap] 27,.cells #[.int .i64 0,.int .i64 0,.string ⟨#[]⟩,.slice none 0 0] 27])
     rw[←HW.out]
     clear HW
     go_wp2_with fail
     refine brQ (results_cell_row rfl _ _ (w.heap.size+1) 27 _ (0,0) _ rfl HZ.out.1 Tryz.underlying27 rfl kr1) rfl ?_
     rw[HBT.out]
     exact⟨none,0,[],rfl,Nat.le_refl _,World.ownsRow_nil _ _ _ _,rfl,HB.out.trans (HZ.out.2.1 _ om)⟩
   have hrb:(id == root)=false:=by simpa using hroot
   have hbt:yh root ⟨id,kd,tx,ks⟩=⟨id,kd,tx,yV root ks⟩:=by rw[yh,if_neg hroot]
   rw[hbt]
   have hlb:len=foLen (yV root ks):=by rw[JF];exact hlen
   have HLB:=hH hlb
   clear hlen hk hn hm hS ih hroot hbt hlb
   go_enter Tryz.func17,Tryz.ntmps17
   go_wp2_with fail
   go_loopw [24] (fun i wr=>Jq w #[.int .i64 id,.int .i64 kd,.string tx,.slice ka len cap] id kd tx (yV root ks) len i wr) (fun i _=>len - (intOf i).toNat)
   case atStart=>exact⟨0,_,_,Nat.zero_le _,rfl,zR.start _ _ _ _ _ _⟩
   case round=>
    obtain⟨k,rv,xs,hk,rfl,hinv⟩:=hrel
    have p1:wr.cell? ⟨w.heap.size,3,none⟩=some (.slice ka len cap):=by rw[corQ wr _ 3 _ _ _ hinv.1];rfl
    have HI:=hH hinv
    clear hinv
    by_cases hlt:k<len
    · have hk1:=HK.out.below HI.out.2.2.2.1 HSS.out
      obtain⟨b0,o0,⟨ki,kk,kt⟩,l,r,hd1,b,off,a1,n1,rfl,hSb,c0,c1,c2,c3,hcp1,hl1⟩:=hk1.at k (by rw[←HLEN.out];exact hlt)
      obtain⟨_,_,_,_,_,e1,e2,hsz1,_⟩:=zS k ks (by rw[←HLEN.out];exact hlt)
      rw[hd1] at e1;cases e1
      obtain⟨u,hu⟩:∃u,u=yh root ⟨ki,kk,kt,l⟩:=⟨_,rfl⟩
      obtain⟨bb,bo,⟨bi,bk,bt⟩,bl,br,f1,_,_,htk⟩:=zS k (yV root ks) (by rw[←HLB.out];exact hlt)
      rw[QK,hd1,qQ] at f1
      simp only at f1
      rw[←hu] at f1
      cases f1
      have hcall:=HIH.out wr S (.agg #[.int .i64 ki,.int .i64 kk,.string kt,.slice a1 (foLen l) n1]) ⟨ki,kk,kt,l⟩ (by have:=HN.out.1;simp only;omega) (by have:=HN.out.2;simp only;omega) (fun x hx=>nL (HSS.out x hx) HI.out.2.2.2.1.size) ⟨a1,n1,rfl,hcp1,hl1⟩
      obtain⟨m0,hm0⟩:∃m,m=foLen l:=⟨_,rfl⟩
      obtain⟨m1,hm1⟩:∃m,m=foLen u.kids:=⟨_,rfl⟩
      rw[←hu] at hcall
      rw[←hm0] at hcall c3
      simp only at c0 c1 c2
      have HC:=hH hcall
      have HM1:=hH hm1
      have HTK:=hH htk
      have hkl:(k:Int)<(len:Int):=by omega
      clear hk1 hd1 hcall hm1 hm0 htk hl1 hsz1 hSb e2 hcp1 hu
      go_wp2_with fail
      refine (HC.out.mono fun _ _ h=>jD.weak h).mono ?_
      rintro e w2 ⟨_,rfl,⟨ka2,cap2,rfl,hcp2,hf2⟩,hb2⟩
      have hi2:=HI.out.below hb2
      have hkid:=HI.out.kid hf2
      have hs2:=hi2.size
      have ho:=hi2.2.2.2.2.1
      simp only
      rw[←HM1.out]
      have d3:w2.cell? ⟨w.heap.size+1+1,3,none⟩=some rv:=by rw[corQ w2 _ 3 _ _ _ hi2.2.2.1];rfl
      have f3:w2.frozen? ⟨w.heap.size+1+1,3,none⟩=false:=forQ w2 _ 3 _ _ hi2.2.2.1
      obtain⟨i0,z0,hi0,hz0,hz1,hz2,hz3⟩:=yz Tryz.Yd
      have hnew:(((w2.alloc (.cells #[.int .i64 u.id,.int .i64 u.kind,.string u.text,.slice ka2 m1 cap2] 27)).alloc (.cells #[.int .i64 u.id,.int .i64 u.kind,.string u.text,.slice ka2 m1 cap2] 27)).heap[w2.heap.size+1]? =some (.cells #[.int .i64 u.id,.int .i64 u.kind,.string u.text,.slice ka2 m1 cap2] 27 (0,0))):=by
       have:=hanQ (w2.alloc (.cells #[.int .i64 u.id,.int .i64 u.kind,.string u.text,.slice ka2 m1 cap2] 27)) (.cells #[.int .i64 u.id,.int .i64 u.kind,.string u.text,.slice ka2 m1 cap2] 27)
       simpa using this
      have HNEW:=hH hnew
      clear hnew
      have hB:w.heap.size+3≤w2.heap.size:=hs2
      have hstep:=fun w1 gg cap' h1 h2 h3=>hi2.step (hkc:=hcp2) (w1:=w1) (gg:=gg) (cap:=cap') (kc:=cap2) (o1:= .cells #[.int .i64 u.id,.int .i64 u.kind,.string u.text,.slice ka2 m1 cap2] 27) (o2:= .cells #[.int .i64 u.id,.int .i64 u.kind,.string u.text,.slice ka2 m1 cap2] 27) hkid HTK.out h1 h2 h3
      rw[←HM1.out] at hstep
      have HST:=hH hstep
      have hne:rv.ownBlock≠some (w.heap.size+1+1):=fun e=>by have:=(zo ho e).1;omega
      have hlt2:(⟨w.heap.size+1+1,3,none⟩:Addr).block<((w2.alloc (.cells #[.int .i64 u.id,.int .i64 u.kind,.string u.text,.slice ka2 m1 cap2] 27)).alloc (.cells #[.int .i64 u.id,.int .i64 u.kind,.string u.text,.slice ka2 m1 cap2] 27)).heap.size:=by simp;omega
      have hheap:((w2.alloc (.cells #[.int .i64 u.id,.int .i64 u.kind,.string u.text,.slice ka2 m1 cap2] 27)).alloc (.cells #[.int .i64 u.id,.int .i64 u.kind,.string u.text,.slice ka2 m1 cap2] 27)).heap[w.heap.size+1+1]? =w2.heap[w.heap.size+1+1]?:=by rw[BhaQ _ _ _ (by simp;omega),BhaQ _ _ _ hs2]
      have HAUX:=hH (aN hne (aN hlt2 (aN ((World.cell?_of_block (a:=⟨w.heap.size+1+1,3,none⟩) hheap).trans d3) ((World.frozen?_of_block (a:=⟨w.heap.size+1+1,3,none⟩) hheap).trans f3))))
      clear hi2 hkid hf2 hb2 hstep hne hlt2 hheap f3 hcp2
      go_wp2_with (at_builtin;refine wpList_append_lies _ rfl (.tmp 35) (.tmp 37) _ rfl (w.heap.size+3) 27 i0 z0 4 56 Tryz.underlying25 hi0 hz0 hz1 hz2 hz3 om rv k xs rfl ((ho.alloc _).alloc _) ⟨w2.heap.size+1,0,none⟩ 1 1 [.int .i64 u.id,.int .i64 u.kind,.string u.text,.slice ka2 m1 cap2] rfl rfl (World.news_of_block (cs:= #[.int .i64 u.id,.int .i64 u.kind,.string u.text,.slice ka2 m1 cap2]) (t:=27) (fr:=(0,0)) HNEW.out) (by simp[Value.oneCell']) om (by unfold maxLen;omega) om (by simp;omega) (w2.heap.size+1+1) sp1 ?_;intro gg cap' w1 hown1 hgrow hat hlt1;have c1w:=(hgrow.cell_far _ HAUX.out.2.1 (Ne.symm HAUX.out.1)).trans HAUX.out.2.2.1;have f1w:=(hgrow.frozen_far _ HAUX.out.2.1 (Ne.symm HAUX.out.1)).trans HAUX.out.2.2.2)
      exact⟨⟨k+1,_,_,by omega,by go_num,HST.out _ _ _ hown1 hgrow hat⟩,by simp[intOf];omega⟩
    · have hkk:k=len:=by omega
      have hi:=HI.out
      obtain⟨ra,rcap,rfl,hrc⟩:=qV hi.2.2.2.2.1
      have HRC:=hH hrc
      clear hrc
      have q0:wr.cell? ⟨w.heap.size+1+1,0,none⟩=some (.int .i64 id):=by rw[corQ wr _ 0 _ _ _ hi.2.2.1];rfl
      have q1:wr.cell? ⟨w.heap.size+1+1,1,none⟩=some (.int .i64 kd):=by rw[corQ wr _ 1 _ _ _ hi.2.2.1];rfl
      have q2:wr.cell? ⟨w.heap.size+1+1,2,none⟩=some (.string tx):=by rw[corQ wr _ 2 _ _ _ hi.2.2.1];rfl
      have q3:wr.cell? ⟨w.heap.size+1+1,3,none⟩=some (.slice ra k rcap):=by rw[corQ wr _ 3 _ _ _ hi.2.2.1];rfl
      have z0:wr.cell? ⟨w.heap.size+1,0,none⟩=some (.int .i64 0):=by rw[corQ wr _ 0 _ _ _ hi.2.1];rfl
      have z1:wr.cell? ⟨w.heap.size+1,1,none⟩=some (.int .i64 0):=by rw[corQ wr _ 1 _ _ _ hi.2.1];rfl
      have z2:wr.cell? ⟨w.heap.size+1,2,none⟩=some (.string ⟨#[]⟩):=by rw[corQ wr _ 2 _ _ _ hi.2.1];rfl
      have z3:wr.cell? ⟨w.heap.size+1,3,none⟩=some (.slice none 0 0):=by rw[corQ wr _ 3 _ _ _ hi.2.1];rfl
      have g0:=forQ wr _ 0 _ _ hi.2.1
      have g1:=forQ wr _ 1 _ _ hi.2.1
      have g2:=forQ wr _ 2 _ _ hi.2.1
      have g3:=forQ wr _ 3 _ _ hi.2.1
      clear hi
      have HLK:Hid (k=foLen (yV root ks)):=show k=foLen (yV root ks) by rw[hkk,HLB.out]
      exact sd9
end Go.Proofs.YtgkmmnihaiopaaaGreat
