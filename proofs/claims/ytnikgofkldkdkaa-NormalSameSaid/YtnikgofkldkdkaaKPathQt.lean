/-
  .
-/
import Derived.Test.YtnikgofkldkdkaaHPathQt
set_option maxRecDepth 100000
set_option maxHeartbeats 40000000
set_option linter.unusedVariables false
set_option linter.unusedSimpArgs false
namespace Go.Proofs.Ytnikgofkldkdkaa
open Go.RowKit Go.Shelf
theorem zhN (p q:List Nat):lcp (0::p) (0::q)=lcp p q+1:=by simp[lcp]
theorem zi3 (l:List Nat):lcp ([]:List Nat) l=0:=by simp[lcp]
theorem zhQ (l:List Nat):lcp l ([]:List Nat)=0:=by cases l<;>simp[lcp]
theorem zaH:places []= []:=rfl
theorem zeQ (w:World)(S:Nat→Prop)(nv:Value)(t:Tr)(a b:Int)(hS:∀x,S x→x<w.heap.size)(ht:zK w S nv t)(hsz:za t.kids≤400000):Calls Try.prog 90 #[nv,.int .i64 a,.int .i64 b] w fun e w'=>e= .returned (.bool (vz a b t))∧Below w.heap.size w w':=by
 obtain⟨ka,tc,rfl,hcap,hk⟩:=ht
 obtain⟨B,hB⟩:∃B,B=w.alloc (.cells #[.int .i64 t.id,.int .i64 t.kind,.string t.text,.slice ka (foLen t.kids) tc] 27):=⟨_,rfl⟩
 have hb:=zg w (.cells #[.int .i64 t.id,.int .i64 t.kind,.string t.text,.slice ka (foLen t.kids) tc] 27)
 have hbx:=hanQ w (.cells #[.int .i64 t.id,.int .i64 t.kind,.string t.text,.slice ka (foLen t.kids) tc] 27)
 rw[←hB] at hb hbx
 have hway:=fun (i:Int) (X:World) (hX:Below B.heap.size B X)=>zfq X S (.agg #[.int .i64 t.id,.int .i64 t.kind,.string t.text,.slice ka (foLen t.kids) tc]) t i (fun x hx=>nL (hS x hx) (NltQ hb.size hX.size)) ⟨ka,tc,rfl,hcap,hk.below (hb.trans (hX.mono hb.size)) hS⟩ hsz
 obtain⟨n,hn⟩:∃n,n=foLen t.kids:=⟨_,rfl⟩
 rw[←hn] at hB hbx
 simp only[←hn] at hway
 have HC:=hH (aN hway (aN hb (aN hB hbx)))
 rw[←hn]
 obtain⟨pr,hpr⟩:∃pr,pr=vz a b t:=⟨_,rfl⟩
 have HP:=hH hpr
 have hpe:(.bool (vz a b t):Value)=(.bool (pr)):=by rw[hpr]
 rw[hpe]
 clear hway hb hk hcap hS hn hpr hpe hB hbx
 go_enter Try.func90,Try.ntmps90
 go_wp2_with fail
 rw[←HC.out.2.2.1]
 refine (HC.out.1 a B (BrQ _ _)).mono ?_
 rintro e W ⟨rv,L,rfl,hw,hb,_⟩
 have hbxW:=(hb.block _ (lohQ HC.out.2.2.2)).trans HC.out.2.2.2
 have n0:W.cell? ⟨w.heap.size,0,none⟩=some (.int .i64 t.id):=by rw[corQ _ _ 0 _ _ _ hbxW];rfl
 have n1:W.cell? ⟨w.heap.size,1,none⟩=some (.int .i64 t.kind):=by rw[corQ _ _ 1 _ _ _ hbxW];rfl
 have n2:W.cell? ⟨w.heap.size,2,none⟩=some (.string t.text):=by rw[corQ _ _ 2 _ _ _ hbxW];rfl
 have n3:W.cell? ⟨w.heap.size,3,none⟩=some (.slice ka n tc):=by rw[corQ _ _ 3 _ _ _ hbxW];rfl
 have HW:=hH (aN hw hb)
 clear hw hb hbxW
 go_wp2_with fail
 refine (HC.out.1 b W HW.out.2).mono ?_
 rintro e W2 ⟨rv2,L2,rfl,hw2,hb2,_⟩
 have hw:=HW.out.1.kept hb2
 have hb9:Below w.heap.size w W2:=(HC.out.2.1.trans (HW.out.2.mono HC.out.2.1.size)).trans (hb2.mono (NltQ HC.out.2.1.size HW.out.2.size))
 have hsh:=zeI W2 rv rv2 L L2 hw.rows hw2.rows (by have:=hw.few;omega) (by have:=hw2.few;omega)
 rw[zeh L L2 hw.ok hw2.ok] at hsh
 have H2:=hH (aN hw (aN hw2 hb9))
 have HSH:=hH hsh
 clear hw hw2 hb2 hb9 hsh n0 n1 n2 n3
 go_wp2_with fail
 refine HSH.out.mono ?_
 rintro e W3 ⟨rfl,hb3⟩
 have hw3:=H2.out.1.kept hb3
 have hbz:Below w.heap.size w W3:=H2.out.2.2.trans (hb3.mono H2.out.2.2.size)
 obtain⟨ra,rc,rfl⟩:=zt hw3.rows
 obtain⟨m,hm⟩:∃m,m=lcp (places L) (places L2):=⟨_,rfl⟩
 obtain⟨len,hlen⟩:∃len,len=L.length:=⟨_,rfl⟩
 have hml:=zhP (places L) (places L2)
 rw[jq,jq,←hm,←hlen] at hml
 have hfew:=hw3.few
 rw[←hlen] at hfew
 have hres:pr=(decide (0<m) && decide (m=len)):=by
  rw[HP.out,vz]
  rcases H2.out.1.path with ⟨h1,h2⟩ | ⟨p,h2,h3,h4⟩
  · rw[h2,hm,h1,zaH,zi3];rfl
  · rw [h2]
    rcases H2.out.2.1.path with ⟨g1,g2⟩ | ⟨q,g2,g3,g4⟩
    · rw[g2,hm,g1,zaH,zhQ];simp
    · rw[g2,hm,h3,g3,zhN,hlen,h4]
      simp only[]
      rw[show decide (0<lcp p q+1)=true by simp,Bool.true_and]
      rw[decide_eq_decide];omega
 have HE:=hH (aN hres hbz)
 rw[←hm]
 rw[←hlen]
 clear hw3 hbz hb3 hres hm hlen hfew HSH HW HC
 by_cases h0:0<m
 · have h0i:(0:Int)<(m:Int):=by omega
   by_cases hq:m=len
   · have hqi:((m:Int) == (len:Int))=true:=by simp;omega
     have HQ:=hH (aN h0 hq)
     clear hq h0
     go_wp2_with fail
     go_ret
     exact⟨congrArg (fun z=>Ending.returned (.bool z)) (by rw[HE.out.1];simp[HQ.out.1,HQ.out.2]<;>(have:=HQ.out.1;have:=HQ.out.2;omega)),HE.out.2⟩
   · have hqi:((m:Int) == (len:Int))=false:=by simp;omega
     have HQ:=hH (aN h0 hq)
     clear hq h0
     go_wp2_with fail
     go_ret
     exact⟨congrArg (fun z=>Ending.returned (.bool z)) (by rw[HE.out.1];simp[HQ.out.2]),HE.out.2⟩
 · have h0i:¬(0:Int)<(m:Int):=by omega
   have HQ:=hH h0
   clear h0
   go_wp2_with fail
   go_ret
   exact⟨congrArg (fun z=>Ending.returned (.bool z)) (by rw[HE.out.1];simp[HQ.out]),HE.out.2⟩
def vW (w:World)(S:Nat→Prop)(a:Option Addr)(cap:Nat)(l:List Int):Prop:=l.length≤cap∧(l= []∨∃b off,a=some ⟨b,off,none⟩∧S b∧∀k x,l[k]? =some x→w.cell? ⟨b,off+k,none⟩=some (.int .i64 x))
theorem vW.kept {w w' :World}{S S' :Nat→Prop}{a:Option Addr}{cap:Nat}{l:List Int}(h:vW w S a cap l)(hS:∀k,S k→S' k∧w'.heap[k]? =w.heap[k]?):vW w' S' a cap l:=by
 obtain⟨h0,h1⟩:=h
 refine⟨h0,h1.imp (fun h=>h) ?_⟩
 rintro ⟨b,off,e,hb,hc⟩
 exact⟨b,off,e,(hS b hb).1,fun k x hx=>(World.cell?_of_block (hS b hb).2).trans (hc k x hx)⟩
theorem Yd {w:World}{B:Nat}{a:Option Addr}{cap n:Nat}{l:List Int}(h:w.ownsRow B 3 1 (.slice a n cap) n (l.map Qk)):vW w (fun y=>B≤y∧y<w.heap.size) a cap l∧n=l.length:=by
 have hl:n=l.length:=by have:=h.1;rw[List.length_map] at this;omega
 rcases h.2 with ⟨hv,h0⟩ | ⟨g,c',cur,hv,hB,hh,h3,h4,h5,h6⟩
 · cases hv
   exact⟨⟨by omega,Or.inl (List.length_eq_zero_iff.1 om)⟩,hl⟩
 · cases hv
   refine⟨⟨by omega,Or.inr ⟨g,0,rfl,⟨hB,lt_of_some hh⟩,fun k x hx=>?_⟩⟩,hl⟩
   rw[Nat.zero_add]
   exact zC h rfl k _ (by rw[List.getElem?_map,hx];rfl)
theorem vW.drop {w:World}{S:Nat→Prop}{b off cap:Nat}{l:List Int}(h:vW w S (some ⟨b,off,none⟩) cap l)(m:Nat):vW w S (some ⟨b,off+m,none⟩) (cap - m) (l.drop m):=by
 obtain⟨h0,h1⟩:=h
 refine⟨by rw[List.length_drop];omega,?_⟩
 rcases h1 with h1 | ⟨b',off',e,hb,hc⟩
 · exact Or.inl (by rw[h1];simp)
 · cases e
   refine Or.inr ⟨b,off+m,rfl,hb,fun k x hx=>?_⟩
   rw[List.getElem?_drop] at hx
   have:=hc (m+k) x hx
   rw[Nat.add_assoc];exact this
def kI (w:World)(S:Nat→Prop)(u:Tr)(b off:Nat):Prop:=S b∧w.cell? ⟨b,off,none⟩=some (.int .i64 u.id)∧w.cell? ⟨b,off+1,none⟩=some (.int .i64 u.kind)∧w.cell? ⟨b,off+2,none⟩=some (.string u.text)∧∃ka kc,w.cell? ⟨b,off+3,none⟩=some (.slice ka (foLen u.kids) kc)∧foLen u.kids≤kc∧zk w S u.kids ka
def vv:Fo→Nat→Tr→Fo
 | .nil,_,_=> .nil
 | .node b o k l r,0,u=> .node b o (u.id,u.kind,u.text) u.kids r
 | .node b o k l r,i+1,u=> .node b o k l (vv r i u)
def zP:Tr→List Nat→Tr→Tr
 | _,[],x=>x
 | t,i::p,x=>match zB t.kids i with
   | none=>t
   | some u=>⟨t.id,t.kind,t.text,vv t.kids i (zP u p x)⟩
theorem Z4:∀(f:Fo) (i:Nat) (u:Tr),foLen (vv f i u)=foLen f
 | .nil,_,_=>rfl
 | .node _ _ _ _ _,0,_=>rfl
 | .node _ _ _ _ r,i+1,u=>by simp[vv,foLen,Z4 r i u]
theorem zaq:∀(f:Fo) (i:Nat) (u:Tr),i<foLen f→zB (vv f i u) i=some u
 | .nil,_,_,h=>by simp[foLen] at h
 | .node _ _ _ _ _,0,_,_=>rfl
 | .node _ _ _ _ r,i+1,u,h=>by
   have:=zaq r i u ud6
   simpa [zB,vv,zm] using this
theorem zdu:∀(f:Fo) (i:Nat) (u v:Tr),vv (vv f i u) i v=vv f i v
 | .nil,_,_,_=>rfl
 | .node _ _ _ _ _,0,_,_=>rfl
 | .node _ _ _ _ r,i+1,u,v=>by simp[vv,zdu r i u v]
theorem vI:∀(p:List Nat) (t:Tr) (r:List Nat),atT t (p++r)=(atT t p).bind fun u=>atT u r
 | [],t,r=>rfl
 | i ::p,t,r=>by
   simp only[List.cons_append,atT]
   cases zB t.kids i with
   | none=>rfl
   | some u=>exact vI p u r
theorem Jj:∀(p:List Nat) (t u v x:Tr) (i:Nat),atT t p=some u→zB u.kids i=some v→zP t (p++[i]) x=zP t p ⟨u.id,u.kind,u.text,vv u.kids i x⟩
 | [],t,u,v,x,i,h,hv=>by cases h;simp[zP,hv]
 | j ::p,t,u,v,x,i,h,hv=>by
   simp only[atT] at h
   simp only[List.cons_append,zP]
   cases hk:zB t.kids j with
   | none=>simp[hk] at h
   | some w=>rw[hk] at h;simp only at h ⊢;rw[Jj p w u v x i h hv]
def zgK (w:World)(S:Nat→Prop):Nat→Fo→Nat→Nat→Prop
 | _,.nil,_,_=>True
 | 0,.node _ _ _ _ r,b,off=>zk w S r (some ⟨b,off+4,none⟩)
 | i+1,.node _ _ k l r,b,off=>kI w S ⟨k.1,k.2.1,k.2.2,l⟩ b off∧zgK w S i r b (off+4)
theorem JS:∀(f:Fo) (i:Nat) {w:World} {S:Nat→Prop} {u:Tr} {b off:Nat},zgK w S i f b off→kI w S u b (off+i*4)→i<foLen f→zk w S (vv f i u) (some ⟨b,off,none⟩)
 | .nil,_,_,_,_,_,_,_,_,h=>by simp[foLen] at h
 | .node _ _ k l r,0,w,S,u,b,off,h,hn,_=>by
   obtain⟨h0,h1,h2,h3,ka,kc,h4,h5,h6⟩:=hn
   simp only[Nat.zero_mul,Nat.add_zero] at h1 h2 h3 h4
   exact⟨b,off,ka,kc,rfl,h0,h1,h2,h3,h4,h5,h6,h⟩
 | .node _ _ k l r,i+1,w,S,u,b,off,h,hn,hi=>by
   obtain⟨⟨h0,h1,h2,h3,ka,kc,h4,h5,h6⟩,hr⟩:=h
   refine⟨b,off,ka,kc,rfl,h0,h1,h2,h3,h4,h5,h6,JS r i hr ?_ ud4⟩
   rw[show off+4+i*4=off+(i+1)*4 by omega];exact hn
theorem zbO:∀(f:Fo) (i:Nat) (xs:List Value) {w w' :World} {S S' :Nat→Prop} {b off:Nat},yM w S f xs→i<foLen f→S' b→(∀y,S y→S' y∧w'.heap[y]? =w.heap[y]?)→(∀j u,xs[j]? =some u→(j<i*4∨i*4+4≤j)→w'.cell? ⟨b,off+j,none⟩=some u)→zgK w' S' i f b off
 | .nil,_,_,_,_,_,_,_,_,_,h,_,_,_=>by simp[foLen] at h
 | .node _ _ k l r,0,xs,w,w',S,S',b,off,hf,_,hb,hS,hc=>by
   obtain⟨ka,cap,ys,e,hcp,hkl,hr⟩:=hf
   subst e
   refine yM.lies hb (off+4) (hr.kept hS) fun j u hu=>?_
   have:=hc (j+4) u uc3 (Or.inr om)
   rw[show off+4+j=off+(j+4) by omega];exact this
 | .node _ _ k l r,i+1,xs,w,w',S,S',b,off,hf,hi,hb,hS,hc=>by
   obtain⟨ka,cap,ys,e,hcp,hkl,hr⟩:=hf
   subst e
   refine⟨⟨hb,hc 0 _ rfl (Or.inl om),hc 1 _ rfl (Or.inl om),hc 2 _ rfl (Or.inl om),ka,cap,hc 3 _ rfl (Or.inl om),hcp,hkl.kept hS⟩,zbO r i ys hr ud4 hb hS fun j u hu hj=>?_⟩
   have:=hc (j+4) u uc3 om
   rw[show off+4+j=off+(j+4) by omega];exact this
theorem zhz:∀(f:Fo) {w:World} {S:Nat→Prop} {b off:Nat},zk w S f (some ⟨b,off,none⟩)→∃xs,yM w S f xs∧xs.length=foLen f*4∧(∀j u,xs[j]? =some u→w.cell? ⟨b,off+j,none⟩=some u)∧∀u∈xs,u.oneCell'=true
 | .nil,_,_,_,_,_=>⟨[],rfl,rfl,fun _ _ h=>by simp at h,fun _ h=>by cases h⟩
 | .node _ _ k l r,w,S,b,off,h=>by
   obtain⟨b',off',ka,kc,e,hb,c0,c1,c2,c3,hcp,hkl,hr⟩:=h
   cases e
   obtain⟨ys,h1,h2,h3,h4⟩:=zhz r hr
   exact sc5
theorem ze5 (f:Fo){w:World}{S:Nat→Prop}{a:Option Addr}(h:zk w S f a):∃xs,yM w S f xs∧xs.length=foLen f*4∧(∀ad,a=some ad→∀j u,xs[j]? =some u→w.cell? (ad.add j)=some u)∧(∀u∈xs,u.oneCell'=true):=by
 cases f with
 | nil=>exact⟨[],rfl,rfl,fun _ _ _ _ h=>by simp at h,fun _ h=>by cases h⟩
 | node b0 o0 k l r=>
   have h':=h
   obtain⟨b',off',ka,kc,e,_⟩:=h'
   subst e
   obtain⟨xs,h1,h2,h3,h4⟩:=zhz _ h
   exact⟨xs,h1,h2,fun ad hd j u hu=>by cases hd;rw[Addr.add_mid];exact h3 j u hu,h4⟩
theorem kT {f:Fo}{i:Nat}{u:Tr}(h:zB f i=some u):za u.kids+1≤za f:=by
 have h2:=ZM h
 have h3:∀(j:Nat) (f:Fo),za (zm j f)≤za f:=by
  exact sf8
 have:=h3 i f
 omega
theorem zaR:∀(f:Fo) (i:Nat) (u v:Tr),zB f i=some u→za (vv f i v)+za u.kids=za f+za v.kids
 | .nil,i,_,_,h=>by cases i<;>simp[zB,zm,qA] at h
 | .node _ _ k l r,0,u,v,h=>by
   simp only[zB,zm,qA] at h
   cases h
   simp only[vv,za];omega
 | .node _ _ k l r,i+1,u,v,h=>by
   have:=zaR r i u v ud9
   simp only[vv,za];omega
def yR:Fo→Nat→Tr→Fo
 | f,0,u=> .node 0 0 (u.id,u.kind,u.text) u.kids f
 | .nil,_+1,_=> .nil
 | .node b o k l r,i+1,u=> .node b o k l (yR r i u)
def yA:Fo→Nat→Fo
 | .nil,_=> .nil
 | .node _ _ _ _ r,0=>r
 | .node b o k l r,i+1=> .node b o k l (yA r i)
theorem vk (f:Fo)(u:Tr):yR f 0 u= .node 0 0 (u.id,u.kind,u.text) u.kids f:=by cases f<;>rfl
theorem zbf (b o:Nat)(k:Int×Int×ByteArray)(l r:Fo):yA (.node b o k l r) 0=r:=rfl
theorem zaj:∀(f:Fo) (i:Nat) (u:Tr),i≤foLen f→foLen (yR f i u)=foLen f+1
 | f,0,u,_=>by rw[vk];rfl
 | .nil,i+1,u,h=>by simp[foLen] at h
 | .node b o k l r,i+1,u,h=>by
   have:=zaj r i u ud6
   simp only[yR,foLen,this]
theorem J3:∀(f:Fo) (i:Nat),i<foLen f→foLen (yA f i)+1=foLen f
 | .nil,i,h=>by simp[foLen] at h
 | .node b o k l r,0,_=>rfl
 | .node b o k l r,i+1,h=>by
   have:=J3 r i ud6
   simp only[yA,foLen];omega
theorem ZU:∀(f:Fo) (i:Nat) (u:Tr),i≤foLen f→zB (yR f i u) i=some u
 | f,0,u,_=>by rw[vk];rfl
 | .nil,i+1,u,h=>by simp[foLen] at h
 | .node b o k l r,i+1,u,h=>by
   have:=ZU r i u ud6
   simpa [zB,yR,zm] using this
theorem zbT:∀(f:Fo) (i:Nat) (u:Tr),i≤foLen f→yA (yR f i u) i=f
 | f,0,u,_=>by rw[vk];rfl
 | .nil,i+1,u,h=>by simp[foLen] at h
 | .node b o k l r,i+1,u,h=>by
   have:=zbT r i u ud6
   simp only[yR,yA,this]
theorem ziW:∀(f:Fo) (i:Nat) (u:Tr),zB f i=some u→kZ (yR (yA f i) i u) f=true∧foLen (yR (yA f i) i u)=foLen f
 | .nil,i,u,h=>by cases i<;>simp[zB,zm,qA] at h
 | .node b o k l r,0,u,h=>by
   simp only[zB,zm,qA] at h
   cases h
   rw[zbf,vk]
   exact⟨by simp[kZ,Jl,jY],rfl⟩
 | .node b o k l r,i+1,u,h=>by
   obtain⟨h1,h2⟩:=ziW r i u ud9
   refine⟨?_,by simp only[yA,yR,foLen,h2]⟩
   simp only[yA,yR,kZ,h1,jY,Bool.and_true]
   simp[Jl]
theorem kS:∀(f:Fo) (i:Nat) (u:Tr),i≤foLen f→za (yR f i u)=za f+za u.kids+1
 | f,0,u,_=>by rw[vk];simp only[za];omega
 | .nil,i+1,u,h=>by simp[foLen] at h
 | .node b o k l r,i+1,u,h=>by
   have:=kS r i u ud6
   simp only[yR,za,this];omega
theorem Yb:∀(f:Fo) (i:Nat) (u:Tr),zB f i=some u→za (yA f i)+za u.kids+1=za f
 | .nil,i,u,h=>by cases i<;>simp[zB,zm,qA] at h
 | .node b o k l r,0,u,h=>by
   simp only[zB,zm,qA] at h
   cases h
   simp only[yA,za];omega
 | .node b o k l r,i+1,u,h=>by
   have:=Yb r i u ud9
   simp only[yA,za];omega
def ZK (u:Tr)(ka:Option Addr)(kc:Nat):List Value:=[.int .i64 u.id,.int .i64 u.kind,.string u.text,.slice ka (foLen u.kids) kc]
theorem zak {w:World}{S:Nat→Prop}:∀(f:Fo) (i:Nat) (u:Tr) (ka:Option Addr) (kc:Nat) (xs:List Value),yM w S f xs→foLen u.kids≤kc→zk w S u.kids ka→i≤foLen f→yM w S (yR f i u) (xs.take (i*4)++ZK u ka kc++xs.drop (i*4))
 | f,0,u,ka,kc,xs,h,hc,hk,_=>by
   rw[vk,Nat.zero_mul,List.take_zero,List.drop_zero,List.nil_append]
   exact⟨ka,kc,xs,rfl,hc,hk,h⟩
 | .nil,i+1,u,ka,kc,xs,h,hc,hk,hi=>by simp[foLen] at hi
 | .node b o k l r,i+1,u,ka,kc,xs,h,hc,hk,hi=>by
   obtain⟨na,nc,ys,e,h1,h2,h3⟩:=h
   subst e
   have:=zak r i u ka kc ys h3 hc hk ud4
   refine⟨na,nc,_,?_,h1,h2,this⟩
   rw[show (i+1)*4=i*4+1+1+1+1 by omega]
   simp
theorem J4 {w:World}{S:Nat→Prop}:∀(f:Fo) (i:Nat) (xs:List Value),yM w S f xs→i<foLen f→yM w S (yA f i) (xs.take (i*4)++xs.drop (i*4+4))
 | .nil,i,xs,h,hi=>by simp[foLen] at hi
 | .node b o k l r,0,xs,h,hi=>by
   obtain⟨na,nc,ys,e,h1,h2,h3⟩:=h
   subst e
   rw[zbf];simpa using h3
 | .node b o k l r,i+1,xs,h,hi=>by
   obtain⟨na,nc,ys,e,h1,h2,h3⟩:=h
   subst e
   have:=J4 r i ys h3 ud4
   refine⟨na,nc,_,?_,h1,h2,this⟩
   rw[show (i+1)*4=i*4+1+1+1+1 by omega,show i*4+1+1+1+1+4=i*4+4+1+1+1+1 by omega]
   simp
theorem yM.nth {w:World}{S:Nat→Prop}:∀(f:Fo) (i:Nat) (u:Tr) (xs:List Value),yM w S f xs→zB f i=some u→∃ka kc,xs[i*4]? =some (.int .i64 u.id)∧xs[i*4+1]? =some (.int .i64 u.kind)∧xs[i*4+2]? =some (.string u.text)∧xs[i*4+3]? =some (.slice ka (foLen u.kids) kc)∧foLen u.kids≤kc∧zk w S u.kids ka
 | .nil,i,u,xs,h,hi=>by cases i<;>simp[zB,zm,qA] at hi
 | .node b o k l r,0,u,xs,h,hi=>by
   obtain⟨na,nc,ys,e,h1,h2,h3⟩:=h
   subst e
   simp only[zB,zm,qA] at hi
   cases hi
   exact⟨na,nc,by simp,by simp,by simp,by simp,h1,h2⟩
 | .node b o k l r,i+1,u,xs,h,hi=>by
   obtain⟨na,nc,ys,e,h1,h2,h3⟩:=h
   subst e
   obtain⟨ka,kc,e0,e1,e2,e3,h4⟩:=yM.nth r i u ys h3 (by simpa [zB,zm] using hi)
   refine⟨ka,kc,?_,?_,?_,?_,h4⟩
   · rw[show (i+1)*4=i*4+4 by omega,List.getElem?_append_right sp1];simpa using e0
   · rw[show (i+1)*4+1=i*4+1+4 by omega,List.getElem?_append_right sp1];simpa using e1
   · rw[show (i+1)*4+2=i*4+2+4 by omega,List.getElem?_append_right sp1];simpa using e2
   · rw[show (i+1)*4+3=i*4+3+4 by omega,List.getElem?_append_right sp1];simpa using e3
theorem qE:∀(id:Int) (t:Tr) (p:List Nat),zw id t=some p→∃u,atT t p=some u∧u.id=id:=by
 have key :∀(f:Fo) (id:Int) (i:Nat) (p:List Nat),fpi id i f=some p→∃j q u,p=(i+j)::q∧∃v,zB f j=some v∧atT v q=some u∧u.id=id:=by
  intro f
  induction f with
  | nil=>intro id i p h;simp[fpi] at h
  | node b o k l r ihl ihr=>
    intro id i p h
    simp only[fpi] at h
    split at h
    · rename_i hk
      cases h
      exact⟨0,[],⟨k.1,k.2.1,k.2.2,l⟩,rfl,_,rfl,rfl,hk⟩
    · split at h
      · rename_i q hq
        cases h
        obtain⟨j,q',u,e,v,h1,h2,h3⟩:=ihl id 0 q hq
        subst e
        refine⟨0,(0+j)::q',u,rfl,⟨k.1,k.2.1,k.2.2,l⟩,rfl,?_,h3⟩
        rw[atT];simp only[Nat.zero_add,h1];exact h2
      · obtain⟨j,q',u,e,v,h1,h2,h3⟩:=ihr id (i+1) p h
        refine⟨j+1,q',u,by rw[e];congr 1;omega,v,?_,h2,h3⟩
        simpa [zB,zm] using h1
 intro id t p h
 rw[zw] at h
 split at h
 · rename_i hid
   cases h
   exact⟨t,rfl,hid⟩
 · obtain⟨j,q,u,e,v,h1,h2,h3⟩:=key _ _ _ _ h
   subst e
   exact⟨u,by rw[atT];simp only[Nat.zero_add,h1];exact h2,h3⟩
theorem Y6:∀(p:List Nat) (t u:Tr),atT t p=some u→za u.kids+p.length≤za t.kids
 | [],t,u,h=>by cases h;simp
 | i ::p,t,u,h=>by
   simp only[atT] at h
   cases hk:zB t.kids i with
   | none=>rw[hk] at h;cases h
   | some v=>
     rw[hk] at h
     have h1:=Y6 p v u h
     have h2:=kT hk
     simp only[LlcQ];omega
def zG:Tr:=⟨0,0,⟨#[]⟩,.nil⟩
def kX (par at_:Int)(t x:Tr):Tr×Int:=match zw par t with
 | none=>(zG,4)
 | some p=>match atT t p with
   | none=>(zG,4)
   | some u=>if 0≤at_∧at_≤(foLen u.kids:Int) then (zP t p ⟨u.id,u.kind,u.text,yR u.kids at_.toNat x⟩,0) else (zP t p u,2)
def ZG (t:Tr)(q:List Nat)(i:Nat):Tr×Tr:=match atT t q with
 | none=>(zG,zG)
 | some u=>match zB u.kids i with
   | none=>(zG,zG)
   | some v=>(zP t q ⟨u.id,u.kind,u.text,yA u.kids i⟩,v)
theorem jf:∀(p:List Nat) (t u x:Tr),atT t p=some u→za (zP t p x).kids+za u.kids=za t.kids+za x.kids
 | [],t,u,x,h=>by cases h;simp[zP];omega
 | i ::p,t,u,x,h=>by
   simp only[atT] at h
   simp only[zP]
   cases hk:zB t.kids i with
   | none=>rw[hk] at h;cases h
   | some v=>
     rw[hk] at h
     have h1:=jf p v u x h
     have h2:=zaR t.kids i v (zP v p x) hk
     simp only
     omega
theorem zbx (par at_:Int)(t x:Tr):za (kX par at_ t x).1.kids≤za t.kids+za x.kids+1:=by
 unfold kX
 split
 · simp[zG,za]
 · split
   · simp[zG,za]
   · rename_i p hp _ u hu
     split
     · rename_i hc
       have h1:=jf p t u ⟨u.id,u.kind,u.text,yR u.kids at_.toNat x⟩ hu
       have h2:=kS u.kids at_.toNat x om
       simp only at h1 ⊢;omega
     · have h1:=jf p t u u hu
       simp only;omega
theorem YV (t:Tr)(q:List Nat)(i:Nat):za (ZG t q i).1.kids+za (ZG t q i).2.kids≤za t.kids:=by
 unfold ZG
 split
 · simp[zG,za]
 · rename_i u hu
   split
   · simp[zG,za]
   · rename_i v hv
     have h1:=jf q t u ⟨u.id,u.kind,u.text,yA u.kids i⟩ hu
     have h2:=Yb u.kids i v hv
     simp only at h1 ⊢;omega
def jK (f:Fo):List Int:=(spF 1 f).map fun x=>x.2.1.1
theorem zb1:∀(d:Nat) (f:Fo),(spF d f).map (fun x=>x.2.1.1)=jK f
 | _,.nil=>rfl
 | d,.node _ _ k l r=>by
   simp only[jK,spF,List.map_cons,List.map_append]
   rw[zb1 (d+1) l,zb1 d r,zb1 (1+1) l]
   rfl
theorem y8 (b o:Nat)(k:Int×Int×ByteArray)(l r:Fo):jK (.node b o k l r)=k.1::(jK l++jK r):=by
 simp only[jK,spF,List.map_cons,List.map_append]
 rw[zb1 (1+1) l]
 rfl
def qR (t:Tr):Prop:=(jK (zh t)).Nodup
theorem zd0 {t:Tr}(h:qR t):t.id∉jK t.kids∧(jK t.kids).Nodup:=by
 rw[qR,zh,y8] at h
 have e:jK Deep.BT.nil= []:=rfl
 rw[e,List.append_nil] at h
 exact⟨(List.nodup_cons.1 h).1,(List.nodup_cons.1 h).2⟩
theorem Zj:∀(id:Int) (f:Fo) (j:Nat),id∉jK f→fpi id j f=none
 | _,.nil,_,_=>rfl
 | id,.node b o k l r,j,h=>by
   rw[y8] at h
   simp only[List.mem_cons,List.mem_append,not_or] at h
   rw[fpi,inQ (fun e=>h.1 e.symm),Zj id l 0 h.2.1]
   exact Zj id r (j+1) h.2.2
theorem at_mem:∀(f:Fo) (k:Nat) (r:List Nat) (u v:Tr),zB f k=some u→atT u r=some v→v.id∈jK f
 | .nil,k,r,u,v,h,_=>by rw[Jy ue5] at h;cases h
 | .node b o key l q,0,r,u,v,h,hv=>by
   rw[y8]
   have hu:u=⟨key.1,key.2.1,key.2.2,l⟩:=by simp only[zB,zm,qA] at h;cases h;rfl
   subst hu
   cases r with
   | nil=>cases hv;simp
   | cons i r=>
     simp only[atT] at hv
     cases hk:zB l i with
     | none=>rw[hk] at hv;cases hv
     | some w=>
       rw[hk] at hv
       have:=at_mem l i r w v hk hv
       simp[this]
 | .node b o key l q,k+1,r,u,v,h,hv=>by
   rw[y8]
   have h2:zB q k=some u:=by simpa [zB,zm] using h
   have:=at_mem q k r u v h2 hv
   simp[this]
theorem zad:∀(f:Fo) (j k:Nat) (r:List Nat) (u v:Tr),(jK f).Nodup→zB f k=some u→atT u r=some v→fpi v.id j f=some ((j+k)::r)
 | .nil,_,k,r,u,v,_,h,_=>by rw[Jy ue5] at h;cases h
 | .node b o key l q,j,0,r,u,v,hd,h,hv=>by
   rw[y8,List.nodup_cons,List.nodup_append] at hd
   have hu:u=⟨key.1,key.2.1,key.2.2,l⟩:=by simp only[zB,zm,qA] at h;cases h;rfl
   subst hu
   cases r with
   | nil=>cases hv;simp[fpi]
   | cons i r=>
     simp only[atT] at hv
     cases hk:zB l i with
     | none=>rw[hk] at hv;cases hv
     | some w=>
       rw[hk] at hv
       simp only at hv
       have hm:=at_mem l i r w v hk hv
       have h1:=zad l 0 i r w v hd.2.1 hk hv
       rw[fpi,inQ (fun e=>hd.1 (by rw[e];simp[hm])),h1]
       simp
 | .node b o key l q,j,k+1,r,u,v,hd,h,hv=>by
   rw[y8,List.nodup_cons,List.nodup_append] at hd
   have h2:zB q k=some u:=by simpa [zB,zm] using h
   have hm:=at_mem q k r u v h2 hv
   have h1:=zad q (j+1) k r u v hd.2.2.1 h2 hv
   have hnl:v.id∉jK l:=fun e=>hd.2.2.2 _ e _ hm rfl
   rw[fpi,inQ (fun e=>hd.1 (by rw[e];simp[hm])),Zj _ l 0 hnl,h1]
   rw[show j+1+k=j+(k+1) by omega]
theorem jW {t v:Tr}{r:List Nat}(hd:qR t)(hv:atT t r=some v):zw v.id t=some r:=by
 obtain⟨h1,h2⟩:=zd0 hd
 cases r with
 | nil=>cases hv;simp[zw]
 | cons i r=>
   simp only[atT] at hv
   cases hk:zB t.kids i with
   | none=>rw[hk] at hv;cases hv
   | some u=>
     rw[hk] at hv
     simp only at hv
     have hm:=at_mem t.kids i r u v hk hv
     rw[zw,inQ (fun e=>h1 (by rw[e];exact hm)),zad t.kids 0 i r u v h2 hk hv,Nat.zero_add]
theorem ZN:∀(id:Int) (f:Fo) (j:Nat) (p:List Nat),fpi id j f=some p→∃k r,p=k::r∧j≤k∧∃u,zB f (k - j)=some u∧∃v,atT u r=some v∧v.id=id
 | _,.nil,_,_,h=>by cases h
 | id, .node b o key l q,j,p,h=>by
   rw[fpi] at h
   by_cases hi:key.1=id
   · rw[ipQ hi] at h
     cases h
     exact⟨j,[],rfl,NlrQ _,⟨key.1,key.2.1,key.2.2,l⟩,by rw[Nat.sub_self];rfl,_,rfl,hi⟩
   · rw [inQ hi] at h
     cases hl:fpi id 0 l with
     | some p'=>
       rw[hl] at h
       cases h
       obtain⟨k,r,rfl,_,u,hu,v,hv,hvi⟩:=ZN id l 0 p' hl
       rw[Nat.sub_zero] at hu
       refine⟨j,k::r,rfl,NlrQ _,⟨key.1,key.2.1,key.2.2,l⟩,by rw[Nat.sub_self];rfl,v,?_,hvi⟩
       simp only[atT]
       rw[hu]
       exact hv
     | none=>
       rw[hl] at h
       obtain⟨k,r,rfl,hk,u,hu,hv⟩:=ZN id q (j+1) p h
       refine⟨k,r,rfl,by omega,u,?_,hv⟩
       rw[show k - j=(k - (j+1))+1 by omega]
       simpa [zB,zm] using hu
theorem J8 (id:Int):∀(f:Fo) (d j:Nat),(qX id (spF d f)).map zdC=(fpi id j f).bind fun p=>(match p with | []=>none | k::r=>(zB f (k - j)).bind fun u=>atT u r)
 | .nil,_,_=>rfl
 | .node b o key l q,d,j=>by
   by_cases h:key.1=id
   · rw[fpi,ipQ h]
     have:qX id (spF d (.node b o key l q))=some (d,key,l):=J7 (pre:=[]) (rest:=spF (d+1) l++spF d q) (fun _ h=>by cases h) h
     rw[this]
     simp[zB,zm,qA,atT,zdC]
   · rw [fpi,inQ h]
     have e:qX id (spF d (.node b o key l q))=(qX id (spF (d+1) l)).or (qX id (spF d q)):=by
      simp only[qX,spF,List.find?_cons,List.find?_append]
      have hb:(key.1 == id)=false:=by simpa using h
      rw[hb]
     rw[e]
     have i1:=J8 id l (d+1) 0
     have i2:=J8 id q d (j+1)
     cases hl:fpi id 0 l with
     | none =>
       rw[hl] at i1
       have:qX id (spF (d+1) l)=none:=by
        cases hx:qX id (spF (d+1) l) with
        | none=>rfl
        | some x=>rw[hx] at i1;simp at i1
       rw[this,Option.none_or,i2]
       cases hq:fpi id (j+1) q with
       | none=>rfl
       | some p=>
         cases p with
         | nil=>rfl
         | cons k r=>
           obtain⟨k',r',e',hk,_⟩:=ZN id q (j+1) _ hq
           cases e'
           simp only[Option.bind_some]
           have:k - j=(k - (j+1))+1:=by omega
           rw[this]
           simp[zB,zm]
     | some p=>
       rw[hl] at i1
       have :(qX id (spF (d+1) l)).isSome:=by
        cases hx:qX id (spF (d+1) l) with
        | some x=>rfl
        | none=>
          exfalso
          rw[hx] at i1
          obtain⟨k,r,rfl,_,u,hu1,v,hv,_⟩:=ZN id l 0 p hl
          simp only[Option.map_none,Option.bind_some,hu1,hv] at i1
          cases i1
       obtain⟨x,hx⟩:=Option.isSome_iff_exists.1 this
       rw[hx] at i1 ⊢
       simp only[Option.some_or,i1,Option.bind_some]
       obtain⟨k,r,rfl,_⟩:=ZN id l 0 p hl
       rw[Nat.sub_self]
       show (zB l k).bind (fun u=>atT u r)=(some (⟨key.1,key.2.1,key.2.2,l⟩:Tr)).bind fun u=>atT u (k::r)
       simp only[Option.bind_some,atT]
       cases zB l k<;>rfl
theorem zbg (id:Int)(t:Tr):(qX id (spF 1 (zh t))).map zdC=(zw id t).bind fun p=>atT t p:=by
 rw[J8 id (zh t) 1 0]
 simp only[zh,fpi,zw]
 by_cases h:t.id=id
 · rw[ipQ h,ipQ h];simp[zB,zm,qA,atT]
 · rw[inQ h,inQ h]
   cases hl:fpi id 0 t.kids with
   | none=>rfl
   | some p=>simp[zB,zm,qA]
theorem zbh (id:Int)(t:Tr):(qX id (spF 1 (zh t))).isSome=(zw id t).isSome:=by
 have h:=zbg id t
 cases hp:zw id t with
 | none=>rw[hp] at h;simp at h;rw[h];rfl
 | some p=>
   obtain⟨v,hv⟩:∃v,atT t p=some v:=by
    rw[zw] at hp
    split at hp
    · cases hp;exact⟨t,rfl⟩
    · obtain⟨k,r,rfl,_,u,hu,v,hv,_⟩:=ZN _ _ _ _ hp
      rw[Nat.sub_zero] at hu
      exact⟨v,by simp only[atT];rw[hu];exact hv⟩
   rw[hp] at h
   simp only[Option.bind_some,hv] at h
   cases hf:qX id (spF 1 (zh t)) with
   | none=>rw[hf] at h;cases h
   | some x=>rfl
theorem zaF (id:Int)(t:Tr)(p:List Nat)(hp:zw id t=some p):∃v,atT t p=some v∧v.id=id:=by
 rw[zw] at hp
 split at hp
 · next h=>cases hp;exact⟨t,rfl,h⟩
 · obtain⟨k,r,rfl,_,u,hu,v,hv,hi⟩:=ZN _ _ _ _ hp
   rw[Nat.sub_zero] at hu
   exact⟨v,by simp only[atT];rw[hu];exact hv,hi⟩
theorem zfc {α:Type} [DecidableEq α]:∀(l m:List α),lcp l m=l.length↔l<+:m
 | [],m=>by simp[lcp]
 | a::l,[]=>by simp[lcp]
 | a ::l,b::m=>by
   simp only[lcp,LlcQ]
   by_cases h:a=b
   · subst h
     rw[ipQ rfl,List.cons_prefix_cons]
     simp[zfc l m]
   · rw[inQ h]
     simp[List.cons_prefix_cons,h]
theorem YX {t:Tr}{a b:Int}{p q:List Nat}(ha:zw a t=some p)(hb:zw b t=some q):vz a b t=decide (p<+:q):=by
 rw[vz,ha,hb]
 simp only[decide_eq_decide]
 exact zfc p q
end Go.Proofs.Ytnikgofkldkdkaa
namespace Go.Proofs.Ytnikgofkldkdkaa
open Go.RowKit
def zaD (xs:List Value)(m i:Nat):List Value:=if i≤m then xs.take (i*4) else xs.take (m*4)++(xs.drop (m*4+4)).take ((i - (m+1))*4)
def QI (m i:Nat):Nat:=if i≤m then i else i - 1
theorem zf4 {xs:List Value}{m i:Nat}(h:i≠m):zaD xs m i++(xs.drop (i*4)).take 4=zaD xs m (i+1)∧QI m (i+1)=QI m i+1:=by
 unfold zaD QI
 by_cases hi:i<m
 · rw[ipQ om,ipQ om,ipQ om,ipQ om]
   exact⟨by rw[show (i+1)*4=i*4+4 by omega,List.take_add],rfl⟩
 · rw[inQ om,inQ om,inQ om,inQ om]
   refine⟨?_,by omega⟩
   rw[List.append_assoc]
   congr 1
   rw[show (i+1 - (m+1))*4=(i - (m+1))*4+4 by omega,List.take_add,List.drop_drop]
   congr 3
   omega
theorem zbu (xs:List Value)(m:Nat):zaD xs m (m+1)=zaD xs m m∧QI m (m+1)=QI m m:=by
 unfold zaD QI
 rw[inQ om,ipQ (NlrQ _),inQ om,ipQ (NlrQ _)]
 simp
theorem zh2 {xs:List Value}{m n:Nat}(hl:xs.length=n*4)(hm:m<n):zaD xs m n=xs.take (m*4)++xs.drop (m*4+4)∧QI m n=n - 1:=by
 unfold zaD QI
 rw[inQ om,inQ om]
 refine⟨?_,rfl⟩
 congr 1
 exact List.take_of_length_le (by rw[List.length_drop];omega)
theorem ziQ {xs:List Value}{a:Nat}{c0 c1 c2 c3:Value}(h0:xs[a]? =some c0)(h1:xs[a+1]? =some c1)(h2:xs[a+2]? =some c2)(h3:xs[a+3]? =some c3):(xs.drop a).take 4= [c0,c1,c2,c3]:=by
 apply List.ext_getElem?
 intro j
 rw[List.getElem?_take]
 match j with
 | 0=>simpa using h0
 | 1=>simpa using h1
 | 2=>simpa using h2
 | 3=>simpa using h3
 | j+4=>simp;omega
end Go.Proofs.Ytnikgofkldkdkaa
namespace Go.Proofs.Ytnikgofkldkdkaa
open Go.RowKit Go.Shelf
theorem Yg {S:Nat→Prop}{w:World}{B n:Nat}{a:Option Addr}{cap:Nat}{T:List Sp}(h:qH S w B (.slice a n cap) n T){k:Nat}{x:Sp}(hx:T[k]? =some x):∃g,a=some ⟨g,0,none⟩∧g<w.heap.size∧w.cell? ⟨g,k*5,none⟩=some (.int .i64 x.2.1.1)∧n≤cap:=by
 obtain⟨hT,xs,ho,hxs⟩:=h
 have hk:=(List.getElem?_eq_some_iff.1 hx).1
 rcases ho.2 with ⟨hv,h0⟩ | ⟨g,cap2,cur,hv,_,_,h3,_⟩
 · omega
 · cases hv
   obtain⟨p0,_⟩:=hxs k x hx
   exact⟨g,rfl,(zi ho rfl).2,zC ho rfl _ _ p0,h3⟩
theorem ZX {T:List Sp}{k:Nat}{x:Sp}(h:((T.take k).map fun x=>x.2.1.1).Nodup)(hx:T[k]? =some x)(hn:∀m y,m<k→T[m]? =some y→y.2.1.1≠x.2.1.1):((T.take (k+1)).map fun x=>x.2.1.1).Nodup:=by
 rw[List.take_add_one,hx,List.map_append,List.nodup_append]
 refine⟨h,by simp,fun a ha b hb=>?_⟩
 simp only[Option.toList_some,List.map_cons,List.map_nil,List.mem_singleton] at hb
 obtain⟨y,hy,rfl⟩:=List.mem_map.1 ha
 obtain⟨m,hm⟩:=List.mem_iff_getElem?.1 hy
 rw[List.getElem?_take] at hm
 split at hm
 · next hlt=>rw[hb];exact hn m y hlt hm
 · cases hm
def zks (t:Tr)(w:World)(e:Ending)(w' :World):Prop:=∃b,e= .returned (.bool b)∧(b=true→qR t)∧Below w.heap.size w w'
theorem zf0 (w:World)(S:Nat→Prop)(t:Tr)(ka:Option Addr)(len cap:Nat)(hlen:len=foLen t.kids)(hsz:za t.kids+1≤200)(hS:∀k,S k→k<w.heap.size)(hcap:foLen t.kids≤cap)(hk:zk w S t.kids ka):
 Calls Try.prog 7 #[.agg #[.int .i64 t.id,.int .i64 t.kind,.string t.text,.slice ka len cap]] w (zks t w):=by
 obtain⟨B,hB⟩:∃B,B=w.alloc (.cells #[.int .i64 t.id,.int .i64 t.kind,.string t.text,.slice ka len cap] 27):=⟨_,rfl⟩
 have hb:Below w.heap.size w B:=by rw[hB];exact (BrQ _ _).alloc (NlrQ _) _
 have hc:=Yk 201 om B S (.agg #[.int .i64 t.id,.int .i64 t.kind,.string t.text,.slice ka len cap]) t om om (fun q hq=>nL (hS q hq) hb.size) ⟨ka,cap,by rw[hlen],hcap,hk.below hb hS⟩
 have HC:=hH (aN hc hb)
 have HBE:=hH hB
 have HZ:=hH hsz
 clear hc hb hB hsz hS hk hcap hlen
 go_enter Try.func7,Try.ntmps7
 go_wp2_with fail
 rw[←HBE.out]
 clear HBE
 refine HC.out.1.mono ?_
 rintro e w2 ⟨a,cap',rfl,hsp,hb2⟩
 obtain⟨T,hT⟩:∃T,T=spF 1 (zh t):=⟨_,rfl⟩
 rw[←hT] at hsp
 obtain⟨n,hn⟩:∃n,n=za t.kids+1:=⟨_,rfl⟩
 rw[←hn] at hsp ⊢
 have hn200:n≤200:=by rw[hn];exact HZ.out
 have HT:=hH (aN hsp (aN (HC.out.2.trans (hb2.mono HC.out.2.size)) hT))
 clear hsp hb2 hT HC hn
 go_wp2_with fail
 go_loopw [10] (fun i wr=>∃k:Nat,k≤n∧i= .int .i64 (k:Int)∧Hid (Below w2.heap.size w2 wr∧((T.take k).map fun x=>x.2.1.1).Nodup)) (fun i _=>n - (intOf i).toNat)
 case atStart=>exact⟨0,NzlQ _,rfl,hH ⟨BrQ _ _,by simp⟩⟩
 case round =>
  obtain⟨k,hk,rfl,hh⟩:=hrel
  by_cases hlt:k<n
  · have hki :(k:Int)<(n:Int):=by omega
    obtain⟨x,hx⟩:∃x,T[k]? =some x:=⟨_,List.getElem?_eq_getElem (by rw[HT.out.1.1];exact hlt)⟩
    have HXK:=hH (aN hx hlt)
    have HOUT:=hh
    clear hx hlt hk hh
    go_wp2_with fail
    go_loopw [14] (fun j wr=>∃m:Nat,m≤k∧j= .int .i64 (m:Int)∧Hid (Below w2.heap.size w2 wr∧∀c y,c<m→T[c]? =some y→y.2.1.1≠x.2.1.1)) (fun j _=>k - (intOf j).toNat)
    case atStart=>exact⟨0,NzlQ _,rfl,hH ⟨HOUT.out.1,fun c y h=>by omega⟩⟩
    case round=>
     obtain⟨m,hm,rfl,hi⟩:=hrel
     by_cases hlm:m<k
     · have hmi:(m:Int)<(k:Int):=by omega
       obtain⟨y,hy⟩:∃y,T[m]? =some y:=⟨_,List.getElem?_eq_getElem (by rw[HT.out.1.1];have:=HXK.out.2;omega)⟩
       obtain⟨g,rfl,hg,c0,hcap⟩:=Yg HT.out.1 HXK.out.1
       obtain⟨g',e',_,d0,_⟩:=Yg HT.out.1 hy
       cases e'
       have p0:=(hi.out.1.cell (p:=⟨g,k*5,none⟩) hg).trans c0
       have p1:=(hi.out.1.cell (p:=⟨g,m*5,none⟩) hg).trans d0
       have HM:=hH (aN hy (aN hlm hi.out))
       have hkn:(k:Int)<(n:Int):=by have:=HXK.out.2;omega
       have hmn:(m:Int)<(n:Int):=by omega
       clear hy hlm hm c0 d0 hg hi
       by_cases he:y.2.1.1=x.2.1.1
       · have hb:(y.2.1.1 == x.2.1.1)=true:=by simpa using he
         clear he
         go_wp2_with fail
         go_upto_region 9 with (go_quiet (fail))
         go_wp2_with fail
         go_ret
         have hb2:=HT.out.2.1.trans (HM.out.2.2.1.mono HT.out.2.1.size)
         exact⟨false,rfl,(fun h=>by cases h),⟨hb2.os,hb2.tape,hb2.output,hb2.size,hb2.block⟩⟩
       · have hb:(y.2.1.1 == x.2.1.1)=false:=by simpa using he
         have HNE:=hH he
         clear he
         go_wp2_with fail
         go_upto_region 10 with (go_quiet (fail))
         go_wp2_with fail
         have hb2:=HM.out.2.2.1
         exact⟨⟨m+1,by have:=HM.out.2.1;omega,by go_num,hH ⟨⟨hb2.os,hb2.tape,hb2.output,hb2.size,hb2.block⟩,fun c y' hc hy'=>by
          by_cases e:c=m
          · subst e
            rw[HM.out.1] at hy'
            cases hy'
            exact HNE.out
          · exact HM.out.2.2.2 c y' om hy'⟩⟩,by have:=HM.out.2.1;simp[intOf];omega⟩
     · have hmi:¬(m:Int)<(k:Int):=by omega
       obtain rfl:m=k:=by omega
       have HN:=hH (aN hi.out.1 (ZX HOUT.out.2 HXK.out.1 hi.out.2))
       have hkn:(m:Int)<(n:Int):=by have:=HXK.out.2;omega
       clear hi hm hlm HOUT
       go_wp2_with fail
       exact⟨⟨m+1,by have:=HXK.out.2;omega,by go_num,HN⟩,by have:=HXK.out.2;simp[intOf];omega⟩
  · have hki:¬(k:Int)<(n:Int):=by omega
    obtain rfl:k=n:=by omega
    have HE:=hH hh.out
    clear hh hlt hk
    go_wp2_with fail
    go_ret
    refine⟨true,rfl,fun _=>?_,HT.out.2.1.trans (HE.out.1.mono HT.out.2.1.size)⟩
    have h:=HE.out.2
    rw[←HT.out.1.1,List.take_length,HT.out.2.2] at h
    exact h
end Go.Proofs.Ytnikgofkldkdkaa
