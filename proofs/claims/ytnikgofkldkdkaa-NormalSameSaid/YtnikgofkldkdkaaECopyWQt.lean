/-
  .
-/
import Derived.Test.YtnikgofkldkdkaaHWalkPQt
set_option maxRecDepth 100000
set_option maxHeartbeats 40000000
set_option linter.unusedVariables false
namespace Go.Proofs.Ytnikgofkldkdkaa
open Go.RowKit Go.Shelf
attribute [local go_sem] Oper.semAt_some
def yD (w:World)(b:Nat):Prop:=∃cs t fr,w.heap[b]? =some (.cells cs t fr)
theorem yD.lt {w:World}{b:Nat}(h:yD w b):b<w.heap.size:=by obtain⟨_,_,_,h⟩:=h;exact lohQ h
theorem zbP {w:World}{b o:Nat}{v:Value}(h:w.cell? ⟨b,o,none⟩=some v):yD w b:=by
 unfold World.cell? at h
 split at h
 · rename_i cs t fr hh;exact⟨_,_,_,hh⟩
 · cases h
def XT (T:Nat→Prop)(V:World):Nat→Prop:=fun x=>yD V x∧¬T x
theorem zhy {w w' :World}{X X' :Nat→Prop}{cb co n cap cap' rb:Nat}{ka ka' :Option Addr}(hX:∀x,X x→X' x)(hsame:∀b o,X b→¬(b=cb∧o=co)→w'.cell? ⟨b,o,none⟩=w.cell? ⟨b,o,none⟩)
 (hold:w.cell? ⟨cb,co,none⟩=some (.slice ka n cap)) (hnew:w'.cell? ⟨cb,co,none⟩=some (.slice ka' n cap')) (hcap:n≤cap')
 (hrow:0<n→ka'=some ⟨rb,0,none⟩∧X' rb∧∀b0 off,ka=some ⟨b0,off,none⟩→∀j v,j<n*4→w.cell? ⟨b0,off+j,none⟩=some v→w'.cell? ⟨rb,j,none⟩=some v):
 ∀(f:Fo),(∀a,zk w X f a→zk w' X' f a)∧(∀b0 off rb' o',zk w X f (some ⟨b0,off,none⟩)→X' rb'→(∀j v,j<foLen f*4→w.cell? ⟨b0,off+j,none⟩=some v→w'.cell? ⟨rb',o'+j,none⟩=some v)→zk w' X' f (some ⟨rb',o',none⟩)):=by
 have hp:∀b o v,X b→(∀a n c,v≠ .slice a n c)→w.cell? ⟨b,o,none⟩=some v→w'.cell? ⟨b,o,none⟩=some v:=fun b o v hb hv hc=>by
  rw[hsame b o hb (fun ⟨e1,e2⟩=>by subst e1;subst e2;rw[hold] at hc;cases hc;exact hv _ _ _ rfl)];exact hc
 intro f
 induction f with
 | nil=>exact⟨fun _ _=>True.intro,fun _ _ _ _ _ _ _=>True.intro⟩
 | node _ _ k l r ihl ihr=>
   have kid:∀b off ka1 cap1,X b→w.cell? ⟨b,off+3,none⟩=some (.slice ka1 (foLen l) cap1)→foLen l≤cap1→zk w X l ka1→∃ka2 cap2,w'.cell? ⟨b,off+3,none⟩=some (.slice ka2 (foLen l) cap2)∧foLen l≤cap2∧zk w' X' l ka2:=fun b off ka1 cap1 hb h3 hc3 hl=>by
    by_cases hc:b=cb∧off+3=co
    · obtain⟨rfl,rfl⟩:=hc
      rw[hold] at h3
      cases h3
      refine⟨ka',cap',hnew,hcap,?_⟩
      cases l with
      | nil=>exact True.intro
      | node b1 o1 k1 l1 r1=>
        obtain⟨g1,g2,g3⟩:=hrow ue5
        obtain⟨b2,off2,_,_,e,_⟩:=id hl
        subst e
        rw[g1]
        exact ihl.2 b2 off2 rb 0 hl g2 (fun j v hj hv=>by rw[Nat.zero_add];exact g3 b2 off2 rfl j v hj hv)
    · exact⟨ka1,cap1,(hsame b _ hb hc).trans h3,hc3,ihl.1 _ hl⟩
   refine⟨fun a hf=>?_,fun b0 off rb' o' hf hrb hcp=>?_⟩
   · obtain⟨b,off,ka1,cap1,e,hb,h0,h1,h2,h3,hc3,hl,hr⟩:=hf
     obtain⟨ka2,cap2,h3',hc3',hl'⟩:=kid b off ka1 cap1 hb h3 hc3 hl
     exact⟨b,off,ka2,cap2,e,hX b hb,hp _ _ _ hb (fun _ _ _ h=>by cases h) h0,hp _ _ _ hb (fun _ _ _ h=>by cases h) h1,hp _ _ _ hb (fun _ _ _ h=>by cases h) h2,h3',hc3',hl',ihr.1 _ hr⟩
   · obtain⟨b,off',ka1,cap1,e,hb,h0,h1,h2,h3,hc3,hl,hr⟩:=hf
     cases e
     simp only[foLen] at hcp
     refine⟨rb',o',ka1,cap1,rfl,hrb,hcp 0 _ om h0,hcp 1 _ om h1,hcp 2 _ om h2,hcp 3 _ om h3,hc3,ihl.1 _ hl,ihr.2 _ _ rb' (o'+4) hr hrb (fun j v hj hv=>?_)⟩
     have:=hcp (4+j) v om (by rw[←Nat.add_assoc];exact hv)
     rw[←Nat.add_assoc] at this;exact this
theorem zcJ {w:World}{X:Nat→Prop}:∀{f:Fo} {b off:Nat},zk w X f (some ⟨b,off,none⟩)→∃xs:List Value,xs.length=foLen f*4∧(∀u∈xs,u.oneCell'=true)∧∀j u,xs[j]? =some u→w.cell? ⟨b,off+j,none⟩=some u
 | .nil,_,_,_=>⟨[],rfl,fun _ h=>by simp at h,fun _ _ h=>by simp at h⟩
 | .node _ _ k l r,b,off,h=>by
   obtain⟨b1,off1,ka,cap,e,hb,h0,h1,h2,h3,_,hl,hr⟩:=h
   cases e
   obtain⟨xs,x1,x2,x3⟩:=zcJ hr
   refine⟨[.int .i64 k.1,.int .i64 k.2.1,.string k.2.2,.slice ka (foLen l) cap]++xs,by simp[foLen,x1];omega,fun u hu=>?_,fun j u hj=>?_⟩
   · rcases List.mem_append.1 hu with hu | hu
     · simp only[List.mem_cons,List.not_mem_nil,or_false] at hu
       rcases hu with rfl | rfl | rfl | rfl<;>rfl
     · exact x2 u hu
   · match j,hj with
     | 0,hj=>simp only[List.cons_append,List.getElem?_cons_zero,Option.some.injEq] at hj;subst hj;exact h0
     | 1,hj=>simp only[List.cons_append,List.getElem?_cons_succ,List.getElem?_cons_zero,Option.some.injEq] at hj;subst hj;exact h1
     | 2,hj=>simp only[List.cons_append,List.getElem?_cons_succ,List.getElem?_cons_zero,Option.some.injEq] at hj;subst hj;exact h2
     | 3,hj=>simp only[List.cons_append,List.getElem?_cons_succ,List.getElem?_cons_zero,Option.some.injEq] at hj;subst hj;exact h3
     | j +4,hj=>
       have:=x3 j u (by simpa using hj)
       rw[show off+(j+4)=off+4+j by omega];exact this
theorem ze4 {w:World}{X:Nat→Prop}{f:Fo}{ka:Option Addr}(h:zk w X f ka):∃xs:List Value,xs.length=foLen f*4∧(∀u∈xs,u.oneCell'=true)∧(∀ad,ka=some ad→∀j u,xs[j]? =some u→w.cell? (ad.add j)=some u)∧(ka=none→foLen f=0):=by
 cases f with
 | nil=>exact⟨[],rfl,fun _ h=>by simp at h,fun _ _ _ _ h=>by simp at h,fun _=>rfl⟩
 | node b0 o0 k l r=>
   obtain⟨b,off,_,_,e,_⟩:=id h
   subst e
   obtain⟨xs,h1,h2,h3⟩:=zcJ h
   refine⟨xs,h1,h2,fun ad he j u hj=>?_,fun e=>by cases e⟩
   cases he
   have hadd:(⟨b,off,none⟩:Addr).add j=⟨b,off+j,none⟩:=by unfold Addr.add;split<;>simp_all
   rw[hadd]
   exact h3 j u hj
def kN (w:World)(b:Nat):Prop:=∃cs t,w.heap[b]? =some (.cells cs t (0,0))
def ex (T EB:Nat→Prop):Nat→Prop:=fun x=>T x∨EB x
def zg0 (n0:Nat)(EB T:Nat→Prop)(V:World)(s:Seg):Prop:=zk V (XT (ex T EB) V) s.f s.a∧(s.f≠ .nil→∃b off,s.a=some ⟨b,off,none⟩∧n0≤b∧kN V b)
structure jP (w:World) (B RB:Nat) (EB:Nat→Prop) (t:Tr) (T:Nat→Prop) (A:List Seg) (V:World):Prop where
 below:Below w.heap.size w V
 hT:∀x,T x→B≤x
 big:B≤V.heap.size
 exl:∀x,EB x→x<B
 root:zk V (XT (ex T EB) V) (zh t) (some ⟨RB,0,none⟩)
 rows:∀s∈A,zg0 w.heap.size EB T V s
section
variable {w:World} {B RB:Nat} {EB:Nat→Prop} {t:Tr} {T T' :Nat→Prop} {A:List Seg} {V V' :World}
theorem zjv (ht:zo V V' (fun x=>T x∨(B≤x∧vQ V x)))(hw:kg T T' V V')(x:Nat)(hx:XT T V x):XT T' V' x∧V'.heap[x]? =V.heap[x]?:=by
 obtain⟨⟨cs,ty,fr,hc⟩,hn⟩:=hx
 have hs:=lohQ hc
 have he:=ht.block x hs (fun h=>by
  rcases h with h | ⟨_,o,ho,hoc⟩
  · exact hn h
  · rw[hc] at ho;cases ho;cases hoc)
 exact⟨⟨⟨cs,ty,fr,he.trans hc⟩,fun h=>(hw x h).elim hn (fun h=>by omega)⟩,he⟩
theorem QC (ht:zo V V' (fun x=>T x∨(B≤x∧vQ V x)))(hw:kg T T' V V')(x:Nat)(hx:XT (ex T EB) V x):XT (ex T' EB) V' x∧V'.heap[x]? =V.heap[x]?:=
 zjv (T:=ex T EB) (T':=ex T' EB) (ht.mono (fun y hy=>hy.imp (fun h=>Or.inl h) id)) (fun y hy=>hy.elim (fun h=>(hw y h).imp (fun h=>Or.inl h) id) (fun h=>Or.inl (Or.inr h))) x hx
theorem jP.turn (hB:w.heap.size≤B)(h:jP w B RB EB t T A V)(ht:zo V V' (fun x=>T x∨(B≤x∧vQ V x)))(hw:kg T T' V V'):jP w B RB EB t T' A V' where
 below:=⟨ht.os.trans h.below.os,ht.tape.trans h.below.tape,ht.output.trans h.below.output,NltQ h.below.size ht.size,fun x hx=>(ht.block x (by have:=h.big;omega) (fun hh=>by
  rcases hh with hh | hh
  · have:=h.hT x hh;omega
  · omega)).trans (h.below.block x hx)⟩
 hT:=fun x hx=>(hw x hx).elim (h.hT x) (fun hh=>by have:=h.big;omega)
 big:=NltQ h.big ht.size
 exl:=h.exl
 root:=h.root.kept (QC ht hw)
 rows :=fun s hs=>⟨(h.rows s hs).1.kept (QC ht hw),fun hne=>by
  obtain⟨b,off,e,hb,cs,ty,hc⟩:=(h.rows s hs).2 hne
  have hf:=(h.rows s hs).1
  have hx:XT (ex T EB) V b:=by
   obtain⟨sd,sa,sc,sf⟩:=s
   simp only at e hne hf
   cases sf with
   | nil=>exact absurd rfl hne
   | node _ _ k l r=>
     obtain⟨b1,off1,_,_,e1,hb1,_⟩:=hf
     rw[e] at e1;cases e1;exact hb1
  exact⟨b,off,e,hb,cs,ty,(QC ht hw b hx).2.trans hc⟩⟩
theorem jP.next {d c bo oo b off n cap:Nat}{ad ka:Option Addr}{key:Int×Int×ByteArray}{k r:Fo}{xs:List Value}{w1:World}{rv:Value}(hB:w.heap.size≤B)(hTs:∀x,T x→x<V.heap.size)(h:jP w B RB EB t T (⟨d,ad,c,.node bo oo key k r⟩::A) V)(hn:n=foLen k)(hcell:V.cell? ⟨b,off+3,none⟩=some (.slice ka n cap))(had:ad=some ⟨b,off,none⟩)
 (hxl:xs.length=n*4) (hxc:∀ad,ka=some ad→∀j u,xs[j]? =some u→V.cell? (ad.add j)=some u) (hb1:Below V.heap.size V w1) (hown:w1.ownsRow V.heap.size 27 4 rv n xs):
 ∃ ra rc,rv= .slice ra n rc∧n≤rc∧w1.cell? ⟨b,off+3,none⟩=some (.slice ka n cap)∧w1.frozen? ⟨b,off+3,none⟩=false∧(w1.setCell ⟨b,off+3,none⟩ (.slice ra n rc)).cell? ⟨b,off+3,none⟩=some (.slice ra n rc)∧
  jP w B RB EB t T (⟨d+1,ra,rc,k⟩::⟨d,some ⟨b,off+4,none⟩,c - 1,r⟩::A) (w1.setCell ⟨b,off+3,none⟩ (.slice ra n rc))∧Kept T V (w1.setCell ⟨b,off+3,none⟩ (.slice ra n rc))∧KeepsFrom B V (w1.setCell ⟨b,off+3,none⟩ (.slice ra n rc)):=by
 subst had
 obtain⟨hf,hfree⟩:=h.rows _ (List.mem_cons_self ..)
 simp only at hf hfree
 obtain⟨b1,off1,e1,hb0,cs,ty,hF⟩:=hfree sp1
 cases e1
 have hf0:=hf
 obtain⟨b1,off1,ka1,cap1,e1,hbX,c0,c1,c2,c3,c4,hk,hr⟩:=hf
 cases e1
 rw[←hn,hcell] at c3
 cases c3
 have hbT:¬T b:=fun hh=>hbX.2 (Or.inl hh)
 have hpb:=lohQ hF
 have hF1:=(hb1.block _ hpb).trans hF
 obtain⟨ra,rc,hrv⟩:=zt hown
 subst hrv
 have hrc:n≤rc:=by
  rcases hown.2 with ⟨hv,h0⟩ | ⟨_,_,_,hv,_,_,h3,_⟩
  · omega
  · cases hv;exact h3
 have hc1:w1.cell? ⟨b,off+3,none⟩=some (.slice ka n cap):=(World.cell?_of_block (hb1.block _ hpb)).trans hcell
 have hS:=hssQ w1 b (off+3) _ _ (.slice ra n rc) hF1
 have hsz:(w1.setCell ⟨b,off+3,none⟩ (.slice ra n rc)).heap.size=w1.heap.size:=by simp[World.setCell]
 have hs1:=hb1.size
 have hnew:(w1.setCell ⟨b,off+3,none⟩ (.slice ra n rc)).cell? ⟨b,off+3,none⟩=some (.slice ra n rc):=World.cell?_setCell_same' _ _ _ (by rw[hc1];rfl)
 have hoth:∀b' o,¬(b'=b∧o=off+3)→(w1.setCell ⟨b,off+3,none⟩ (.slice ra n rc)).cell? ⟨b',o,none⟩=w1.cell? ⟨b',o,none⟩:=fun b' o h=>World.cell?_setCell_other _ _ _ _ (fun e=>h (by cases e;exact⟨rfl,rfl⟩))
 have hblk:∀x,x≠b→(w1.setCell ⟨b,off+3,none⟩ (.slice ra n rc)).heap[x]? =w1.heap[x]?:=fun x hx=>BhsQ _ _ _ _ hx
 have hX:∀x,XT (ex T EB) V x→XT (ex T EB) (w1.setCell ⟨b,off+3,none⟩ (.slice ra n rc)) x:=fun x hx=>by
  refine⟨?_,hx.2⟩
  by_cases hxb:x=b
  · rw[hxb];exact⟨_,_,_,hS⟩
  · obtain⟨cs',t',fr',hc'⟩:=hx.1
    exact⟨cs',t',fr',(hblk x hxb).trans ((hb1.block x (lohQ hc')).trans hc')⟩
 have hfo:=zhy (w:=V) (w':=w1.setCell ⟨b,off+3,none⟩ (.slice ra n rc)) (cb:=b) (co:=off+3) (rb:=((Value.slice ra n rc).ownBlock).getD 0) hX (fun b' o hb' hne=>(hoth b' o hne).trans (World.cell?_of_block (hb1.block _ hb'.1.lt))) hcell hnew hrc (fun h0=>by
  obtain⟨g,cap2,e,hg,hgl⟩:=hown.form h0
  cases e
  have hgr:w1.heap[g]?≠none:=by rw[Array.getElem?_eq_getElem hgl];simp
  obtain⟨cur,hcur⟩:=yU hown (g:=g) rfl
  refine⟨rfl,⟨⟨cur,_,_,(hblk g om).trans hcur⟩,fun hh=>by
   have h1:=h.exl
   have h2:=h.big
   have hh' :T g∨EB g:=hh
   rcases hh' with hh | hh
   · have:=hTs g hh;omega
   · have:=h1 g hh;omega⟩,fun b0 off0 hka j v hj hv=>?_⟩
  obtain⟨u,hu⟩:∃u,xs[j]? =some u:=⟨xs[j]'om,List.getElem?_eq_getElem _⟩
  have h2:=hxc _ hka j u hu
  have hadd:(⟨b0,off0,none⟩:Addr).add j=⟨b0,off0+j,none⟩:=by unfold Addr.add;split<;>simp_all
  rw[hadd,hv] at h2
  cases h2
  exact (hoth g j (fun h=>by have:=h.1;omega)).trans (zC hown rfl j _ hu))
 have hfreeK:∀x,kN V x→kN (w1.setCell ⟨b,off+3,none⟩ (.slice ra n rc)) x:=fun x ⟨cs',t',hc'⟩=>by
  by_cases hxb:x=b
  · rw[hxb];exact⟨_,_,hS⟩
  · exact⟨cs',t',(hblk x hxb).trans ((hb1.block x (lohQ hc')).trans hc')⟩
 refine⟨ra,rc,rfl,hrc,hc1,forQ _ _ _ _ _ hF1,hnew,⟨?_,h.hT,by rw[hsz];have:=h.big;omega,h.exl,(hfo _).1 _ h.root,fun s hs=>?_⟩,⟨by rw[hsz];exact hs1,fun x hx=>?_⟩,⟨by rw[hsz];exact hs1,fun x o hx ho hno=>?_⟩⟩
 · exact (h.below.trans (hb1.mono h.below.size)).setCell (p:=⟨b,off+3,none⟩) hb0 _
 · rcases List.mem_cons.1 hs with rfl | hs
   · simp only[zg0]
     have hkk:=(hfo (.node bo oo key k .nil)).1 (some ⟨b,off,none⟩) ⟨b,off,ka,cap,rfl,hbX,c0,c1,c2,by rw[←hn];exact hcell,c4,hk,True.intro⟩
     obtain⟨b2,off2,ka2,cap2,e2,_,_,_,_,q3,q4,q5,_⟩:=hkk
     cases e2
     rw[hnew] at q3
     cases q3
     refine⟨q5,fun hne=>?_⟩
     obtain⟨g,cap3,e3,hg,hgl⟩:=hown.form (by rw[hn];exact zaa hne)
     cases e3
     obtain⟨cur,hcur⟩:=yU hown (g:=g) rfl
     exact⟨g,0,rfl,by have:=h.below.size;omega,cur,_,(hblk g om).trans hcur⟩
   · rcases List.mem_cons.1 hs with rfl | hs
     · simp only[zg0]
       exact⟨(hfo r).1 _ hr,fun _=>⟨b,off+4,rfl,hb0,hfreeK b ⟨cs,ty,hF⟩⟩⟩
     · have h9:=h.rows s (List.mem_cons_of_mem _ hs)
       exact⟨(hfo s.f).1 _ h9.1,fun hne=>by
        obtain⟨b',off',e',hb',hfr'⟩:=h9.2 hne
        exact⟨b',off',e',hb',hfreeK b' hfr'⟩⟩
 · rw[hblk x (fun e=>hbT (e▸hx))];exact hb1.block x (hTs x hx)
 · have hxl2:=lohQ ho
   rw[hblk x (fun e=>by rw[e,hF] at ho;cases ho;cases hno),hb1.block x hxl2];exact ho
end
end Go.Proofs.Ytnikgofkldkdkaa
namespace Go.Proofs.Ytnikgofkldkdkaa
open Go.RowKit Go.Shelf
attribute [local go_sem] Oper.semAt_some
def zjx (w:World)(S:Nat→Prop)(t:Tr)(e:Ending)(w' :World):Prop:=∃v,e= .returned v∧zK w' (fun x=>yD w' x∧(S x∨w.heap.size≤x)) v t∧Below w.heap.size w w'
def exc (w:World)(S:Nat→Prop):Nat→Prop:=fun x=>x=w.heap.size+1∨(x<w.heap.size∧¬S x)
theorem zdF (w:World)(cs zs:Array Value)(v:Value):
 ((((w.alloc (.cells cs 27)).alloc (.cells zs 27)).alloc (.cells cs 27)).alloc (.cells #[v] 25)).heap.size=w.heap.size+4∧
 Below w.heap.size w ((((w.alloc (.cells cs 27)).alloc (.cells zs 27)).alloc (.cells cs 27)).alloc (.cells #[v] 25))∧
 ((((w.alloc (.cells cs 27)).alloc (.cells zs 27)).alloc (.cells cs 27)).alloc (.cells #[v] 25)).heap[w.heap.size+1]? =some (.cells zs 27 (0,0))∧
 ((((w.alloc (.cells cs 27)).alloc (.cells zs 27)).alloc (.cells cs 27)).alloc (.cells #[v] 25)).heap[w.heap.size+1+1]? =some (.cells cs 27 (0,0))∧
 ((((w.alloc (.cells cs 27)).alloc (.cells zs 27)).alloc (.cells cs 27)).alloc (.cells #[v] 25)).heap[w.heap.size+1+1+1]? =some (.cells #[v] 25 (0,0)):=by
 refine⟨by simp,?_,?_,?_,?_⟩
 · exact ((((BrQ _ w).alloc (NlrQ _) _).alloc ud8 _).alloc ud8 _).alloc ud8 _
 · rw[BhaQ _ _ _ ud8,BhaQ _ _ _ ud8]
   have:=hanQ (w.alloc (.cells cs 27)) (.cells zs 27)
   rw[WsaQ] at this;exact this
 · rw[BhaQ _ _ _ ud8]
   have:=hanQ ((w.alloc (.cells cs 27)).alloc (.cells zs 27)) (.cells cs 27)
   rw[WsaQ,WsaQ] at this;exact this
 · have:=hanQ (((w.alloc (.cells cs 27)).alloc (.cells zs 27)).alloc (.cells cs 27)) (.cells #[v] 25)
   rw[WsaQ,WsaQ,WsaQ] at this;exact this
def zkn (w W:World)(S:Nat→Prop)(t:Tr)(T:Nat→Prop)(A:List Seg)(V:World):Prop:=jP w W.heap.size (w.heap.size+1+1) (exc w S) t T A V∧yE A≤500000∧∃zs:Array Value,zs= #[.int .i64 0,.int .i64 0,.string ⟨#[]⟩,.slice none 0 0]∧V.heap[w.heap.size+1]? =some (.cells zs 27 (0,0))
theorem vF {P:Program}{fn:Func}{p:Tmp}{ty:TypeId}(h:fn.results= #[.cell p ty])(tmps:Array Value)(w:World)(g:Nat)(t:TypeId)(cs:Array Value)(fr:Nat×Nat)(d:TypeDesc)
 (hp:tmps.getD p undef= .pointer (some ⟨g,0,none⟩)) (hg:w.heap[g]? =some (.cells cs t fr)) (hu:P.underlying ty=some d) (hd:(match d with | .struct _ | .array _ _=>true | _=>false)=true) (hi:(P.info? ty).map (·.size)=some cs.size):
 (results fn tmps).run P w= .ok (.agg cs) w:=by
 have hp' :tmps[p]?.getD undef= .pointer (some ⟨g,0,none⟩):=by simpa using hp
 simp[results,h,hp',asAddr,run_loadVar_row w g t ty cs fr d hg hu hd hi]
theorem J2 {w V:World}{S:Nat→Prop}{t:Tr}{B RB D:Nat}{T:Nat→Prop}{ra:Option Addr}{rc:Nat}(h:jP w B RB (exc w S) t T [] V)(hk:zk V (XT (ex T (exc w S)) V) t.kids ra)(hc:foLen t.kids≤rc)
 (hz:V.heap[w.heap.size+1]? =some (.cells #[.int .i64 0,.int .i64 0,.string ⟨#[]⟩,.slice none 0 0] 27 (0,0))) (hK:V.heap[D]? =some (.deferred (some []))) (hD:w.heap.size+1<D):
 ((((V.setCell ⟨w.heap.size+1,0,none⟩ (.int .i64 t.id)).setCell ⟨w.heap.size+1,1,none⟩ (.int .i64 t.kind)).setCell ⟨w.heap.size+1,2,none⟩ (.string t.text)).setCell ⟨w.heap.size+1,3,none⟩ (.slice ra (foLen t.kids) rc)).heap[D]? =some (.deferred (some []))∧
 (((((V.setCell ⟨w.heap.size+1,0,none⟩ (.int .i64 t.id)).setCell ⟨w.heap.size+1,1,none⟩ (.int .i64 t.kind)).setCell ⟨w.heap.size+1,2,none⟩ (.string t.text)).setCell ⟨w.heap.size+1,3,none⟩ (.slice ra (foLen t.kids) rc)).putObj D (.deferred none)).heap[w.heap.size+1]? =some (.cells #[.int .i64 t.id,.int .i64 t.kind,.string t.text,.slice ra (foLen t.kids) rc] 27 (0,0))∧
 zjx w S t (.returned (.agg #[.int .i64 t.id,.int .i64 t.kind,.string t.text,.slice ra (foLen t.kids) rc])) ((((((V.setCell ⟨w.heap.size+1,0,none⟩ (.int .i64 t.id)).setCell ⟨w.heap.size+1,1,none⟩ (.int .i64 t.kind)).setCell ⟨w.heap.size+1,2,none⟩ (.string t.text)).setCell ⟨w.heap.size+1,3,none⟩ (.slice ra (foLen t.kids) rc)).putObj D (.deferred none))):=by
 have h1:=hssQ V (w.heap.size+1) 0 _ _ (.int .i64 t.id) hz
 have h2:=hssQ _ (w.heap.size+1) 1 _ _ (.int .i64 t.kind) h1
 have h3:=hssQ _ (w.heap.size+1) 2 _ _ (.string t.text) h2
 have h4:=hssQ _ (w.heap.size+1) 3 _ _ (.slice ra (foLen t.kids) rc) h3
 have hb:∀x,x≠w.heap.size+1→((((V.setCell ⟨w.heap.size+1,0,none⟩ (.int .i64 t.id)).setCell ⟨w.heap.size+1,1,none⟩ (.int .i64 t.kind)).setCell ⟨w.heap.size+1,2,none⟩ (.string t.text)).setCell ⟨w.heap.size+1,3,none⟩ (.slice ra (foLen t.kids) rc)).heap[x]? =V.heap[x]?:=fun x hx=>by
  rw[BhsQ _ _ _ _ hx,BhsQ _ _ _ _ hx,BhsQ _ _ _ _ hx,BhsQ _ _ _ _ hx]
 have hk1:=(hb D om).trans hK
 have hall:∀x,x≠w.heap.size+1→x≠D→(((((V.setCell ⟨w.heap.size+1,0,none⟩ (.int .i64 t.id)).setCell ⟨w.heap.size+1,1,none⟩ (.int .i64 t.kind)).setCell ⟨w.heap.size+1,2,none⟩ (.string t.text)).setCell ⟨w.heap.size+1,3,none⟩ (.slice ra (foLen t.kids) rc)).putObj D (.deferred none)).heap[x]? =V.heap[x]?:=fun x hx hd=>(WphQ hd).trans (hb x hx)
 refine⟨hk1,?_,_,rfl,⟨ra,rc,rfl,hc,hk.kept fun x hx=>?_⟩,?_⟩
 · rw[WphQ om,h4];simp
 · obtain⟨⟨cs,ty,fr,hcx⟩,hn⟩:=hx
   have hxe:x≠w.heap.size+1:=fun e=>hn (Or.inr (Or.inl e))
   have hxD:x≠D:=fun e=>by rw[e,hK] at hcx;cases hcx
   refine⟨⟨⟨cs,ty,fr,(hall x hxe hxD).trans hcx⟩,?_⟩,hall x hxe hxD⟩
   by_cases hxw:x<w.heap.size
   · by_cases hs:S x
     · exact Or.inl hs
     · exact absurd (Or.inr (Or.inr ⟨hxw,hs⟩)) hn
   · exact Or.inr om
 · have hh:=(((h.below.setCell (p:=⟨w.heap.size+1,0,none⟩) sp1 (.int .i64 t.id)).setCell (p:=⟨w.heap.size+1,1,none⟩) sp1 (.int .i64 t.kind)).setCell (p:=⟨w.heap.size+1,2,none⟩) sp1 (.string t.text)).setCell (p:=⟨w.heap.size+1,3,none⟩) sp1 (.slice ra (foLen t.kids) rc)
   revert hh hk1
   generalize ((((V.setCell ⟨w.heap.size+1,0,none⟩ (.int .i64 t.id)).setCell ⟨w.heap.size+1,1,none⟩ (.int .i64 t.kind)).setCell ⟨w.heap.size+1,2,none⟩ (.string t.text)).setCell ⟨w.heap.size+1,3,none⟩ (.slice ra (foLen t.kids) rc))=V4
   intro hk1 hh
   exact⟨hh.os,hh.tape,hh.output,by have:=hh.size;simp[World.putObj];exact this,fun x hx=>(WphQ om).trans (hh.block x hx)⟩
theorem jA (w:World)(S:Nat→Prop)(nv:Value)(t:Tr)(hS:∀x,S x→yD w x)(ht:zK w S nv t)(hsz:za t.kids+1≤500000):Calls Try.prog 40 #[nv] w (zjx w S t):=by
 obtain⟨ka,cap,rfl,hcap,hk⟩:=ht
 obtain⟨n,hn⟩:∃n,n=foLen t.kids:=⟨_,rfl⟩
 rw[←hn]
 obtain⟨k1,k2,k3,k4,k5⟩:=zdF w #[.int .i64 t.id,.int .i64 t.kind,.string t.text,.slice ka n cap] #[.int .i64 0,.int .i64 0,.string ⟨#[]⟩,.slice none 0 0] (.slice (some ⟨w.heap.size+1+1,0,none⟩) 1 1)
 have HW:=hH (aN k1 (aN k2 (aN k3 (aN k4 k5))))
 have H:=hH (aN hS (aN hcap (aN hk (aN hsz hn))))
 clear hS hcap hk hsz hn k1 k2 k3 k4 k5
 refine (callsIn_wide (n:=6)).1 ?_
 refine callsIn_of_wp_marks Try.func40 rfl trivial ?_ rfl
 simp only[Try.ntmps40,List.size_toArray,LlcQ,List.length_nil,Nat.reduceAdd,Nat.reduceSub,Array.replicate_succ,Array.replicate_zero,List.push_toArray,List.append_toArray,List.nil_append,List.cons_append]
 gi_wp2_with (refine⟨trivial,?_⟩;gi_at_call 48;refine (callsIn_wide.2 (ze1 _ _ _ _)).mono ?_;rintro e w' ⟨rfl,rfl⟩)
 generalize hW:World.alloc _ _=W at HW ⊢
 clear hW
 obtain⟨k1,k2,k3,k4,k5⟩:=HW.out
 have hSW:∀x,S x→W.heap[x]? =w.heap[x]?:=fun x hx=>k2.block x (H.out.1 x hx).lt
 have hroot:=Q4 hSW H.out.2.1 H.out.2.2.1 (by rw[←H.out.2.2.2.2];exact k4)
 have hroot2:zk W (XT (ex (fun _=>False) (exc w S)) W) (zh t) (some ⟨w.heap.size+1+1,0,none⟩):=hroot.kept fun x hx=>⟨⟨by
  rcases hx with hx | hx
  · obtain⟨cs,ty,fr,hc⟩:=H.out.1 x hx
    exact⟨cs,ty,fr,(hSW x hx).trans hc⟩
  · rw [hx];exact⟨_,_,_,k4⟩,fun h=>by
    rcases h with h | h | h
    · exact h
    · rcases hx with hx | hx
      · have:=(H.out.1 x hx).lt;omega
      · omega
    · rcases hx with hx | hx
      · exact h.2 hx
      · omega⟩,rfl⟩
 have hn4:w.heap.size+4=W.heap.size:=k1.symm
 refine zaK om rfl ⟨1,some ⟨w.heap.size+1+1,0,none⟩,1,zh t⟩ rfl (by simp[zh]) (by simp[zh,foLen]) (by rw[yH];exact H.out.2.2.2.1) (by rw[corQ _ _ 0 _ _ _ k5];rfl) rfl
  (zkn w W S t) (fun _ _ _=>False) ?turn (fun h _ _=>h.elim) ?empty ?start ?round ?done ?stop
 case turn=>
  rintro T T' A V V' ⟨h1,h9,zs,hz,h2⟩ ht hw
  refine⟨h1.turn om ht hw,h9,zs,hz,(ht.block _ (lohQ h2) (fun h=>?_)).trans h2⟩
  rcases h with h | h
  · have:=h1.hT _ h;omega
  · omega
 case empty=>
  rintro T A B d c a V ⟨h1,h9,h2⟩
  exact⟨⟨h1.below,h1.hT,h1.big,h1.exl,h1.root,fun s hs=>h1.rows s uc2⟩,by rw[yF,zL] at h9;rw[yF];omega,h2⟩
 case start=>
  refine⟨⟨k2,fun _ h=>h.elim,NlrQ _,fun x hx=>by rcases hx with hx | hx<;>omega,hroot2,fun s hs=>?_⟩,by rw[zL,qI,yH];have:=H.out.2.2.2.1;omega,_,rfl,k3⟩
  rw[List.mem_singleton] at hs
  subst hs
  exact⟨hroot2,fun _=>⟨_,_,rfl,by omega,_,_,k4⟩⟩
 case stop=>exact fun _ _ _ _ _ h _=>h.elim
 case done=>
  rintro D T V hD ⟨hI,_,zs,rfl,hz⟩ hK
  obtain⟨b,off,ra,rc,e1,hb,c0,c1,c2,c3,c4,hkk,_⟩:=hI.root
  cases e1
  obtain⟨m,hm⟩:∃m,m=foLen t.kids:=⟨_,rfl⟩
  rw[←hm] at c3 c4
  simp only[Nat.zero_add] at c0 c1 c2 c3
  have z0:V.cell? ⟨w.heap.size+1,0,none⟩=some (.int .i64 0):=by rw[corQ _ _ 0 _ _ _ hz];rfl
  have z1:V.cell? ⟨w.heap.size+1,1,none⟩=some (.int .i64 0):=by rw[corQ _ _ 1 _ _ _ hz];rfl
  have z2:V.cell? ⟨w.heap.size+1,2,none⟩=some (.string ⟨#[]⟩):=by rw[corQ _ _ 2 _ _ _ hz];rfl
  have z3:V.cell? ⟨w.heap.size+1,3,none⟩=some (.slice none 0 0):=by rw[corQ _ _ 3 _ _ _ hz];rfl
  have zf:∀j,V.frozen? ⟨w.heap.size+1,j,none⟩=false:=fun j=>forQ _ _ j _ _ hz
  have HE:=hH (aN hI (aN hkk (aN hm (aN hz (aN hK (aN hD c4))))))
  clear hI hkk hm hz hK HW H k1 k2 k3 k4 k5 hSW hroot hroot2 hb c4 hD hn4
  gi_wp2
  obtain⟨q1,q2,q3,q4,q5,q6,q7⟩:=HE.out
  have hcp:=J2 q1 q2 (by rw[←q3];exact q7) q4 q5 uc6
  rw[←q3] at hcp
  refine⟨by simp,.inl ⟨_,_,rfl,run_takeDeferred hcp.1,?_⟩⟩
  exact⟨_,vF rfl _ _ (w.heap.size+1) 27 _ _ _ rfl hcp.2.1 Try.underlying27 rfl kr1,hcp.2.2⟩
 case round=>
  rintro l hl T d c bo oo ad key k r A V hT hV ⟨hI,hag,zs,rfl,hz⟩
  obtain⟨hf,hfree⟩:=hI.rows _ (List.mem_cons_self ..)
  simp only at hf hfree
  obtain⟨b,off,kka,kcap,e1,hbX,c0,c1,c2,c3,c4,hkk,hrr⟩:=hf
  obtain⟨m,hm⟩:∃m,m=foLen k:=⟨_,rfl⟩
  rw[←hm] at c3 c4
  obtain⟨xs,x1,x2,x3,x4⟩:=ze4 hkk
  rw[←hm] at x1 x4
  rw[zL] at hag
  simp only[za] at hag
  have hm6:m≤1000000:=by have:=zM k;omega
  refine⟨b,off,e1,fun K hK=>?_⟩
  have HK:=hH hK
  have HI:=hH (aN hI (aN hz (aN hT (aN hm (aN e1 (aN x1 (aN x2 (aN x3 (aN x4 (aN hl (aN hbX (aN hV hag))))))))))))
  clear hI hz hT hm e1 x1 x2 x3 x4 hl hbX hV hK hkk hrr c0 c1 c2 c4 hfree H hag k1 k2 k3 k4 k5 hSW hroot hroot2 hn4
  gi_wp2
  refine HK.out _ fun V1 hV1=>?_
  clear HK
  obtain⟨o',ev,o,ho,hoc⟩:=hV1
  have hbl:b≠l:=fun e=>by
   obtain⟨⟨cs,ty,fr,hc⟩,_⟩:=HI.out.2.2.2.2.2.2.2.2.2.2.1
   rw[e,ho] at hc;cases hc;cases hoc
  have hV1s:∀x,x≠l→V1.heap[x]? =V.heap[x]?:=fun x hx=>by rw[ev];exact WphQ hx
  have hsz1:V1.heap.size=V.heap.size:=by rw[ev];simp[World.putObj]
  have hI1:jP w W.heap.size (w.heap.size+1+1) (exc w S) t T (⟨d,ad,c,.node bo oo key k r⟩::A) V1:=by
   exact sf0
  have c3' :V1.cell? ⟨b,off+3,none⟩=some (.slice kka m kcap):=(World.cell?_of_block (hV1s b hbl)).trans c3
  have hxc:∀ad,kka=some ad→∀j u,xs[j]? =some u→V1.cell? (ad.add j)=some u:=fun ad he j u hj=>by
   exact sd8
  have hclone:=kz V1 kka m kcap xs HI.out.2.2.2.2.2.1 HI.out.2.2.2.2.2.2.1 om hxc HI.out.2.2.2.2.2.2.2.2.1
  have hnext:=fun (w1:World) (rv:Value) hb1 hown=>jP.next (w1:=w1) (rv:=rv) (by have:=HW.out.1;omega) (fun x hx=>by rw[hsz1];exact (HI.out.2.2.1 x hx).1) hI1 HI.out.2.2.2.1 c3' HI.out.2.2.2.2.1 HI.out.2.2.2.2.2.1 hxc hb1 hown
  have HX:=hH (aN hclone (aN hnext (aN hsz1 (aN hV1s (aN ho hoc)))))
  clear hclone hnext hxc hI1 ev hV1s ho hoc hsz1 c3
  gi_wp2_with (refine⟨trivial,?_⟩;gi_at_call 57;refine (CallsIn.inRound l (callsIn_wide.2 HX.out.1)).mono ?_;rintro e w1 ⟨rv,rfl,hb1,hown⟩;obtain⟨ra,rc,rfl,q1,q2,q3,q4,q5,q6,q7⟩:=HX.out.2.1 w1 rv hb1 hown;have HQ:=hH (aN q1 (aN q5 (aN q6 (aN q7 (aN q4 (aN hb1 hown))))));clear q1 q4 q5 q6 q7 hown hb1 c3')
  obtain⟨q1,q5,q6,q7,q4,hb1,hown⟩:=HQ.out
  have hm:=HI.out.2.2.2.1
  refine⟨q7,q6,.inl ⟨rfl,ra,rc,by rw[←hm];exact q4,by rw[←hm];exact q1,q5,?_,_,rfl,?_⟩⟩
  · have:=HI.out.2.2.2.2.2.2.2.2.2.2.2.2
    rw[zL,zL];simp only;omega
  · have hbX:=HI.out.2.2.2.2.2.2.2.2.2.2.1
    have hz:=HI.out.2.1
    have hzl:=lohQ hz
    have hne:w.heap.size+1≠l:=fun e=>by
     have h9:=HX.out.2.2.2.2.1
     rw[←e,hz] at h9;cases h9;have h8:=HX.out.2.2.2.2.2;cases h8
    exact sg0
end Go.Proofs.Ytnikgofkldkdkaa
