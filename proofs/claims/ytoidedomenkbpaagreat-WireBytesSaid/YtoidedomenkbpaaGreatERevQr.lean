/-
  .
-/
import Derived.Test.YtoidedomenkbpaaGreatCPutQr
set_option maxRecDepth 100000
set_option maxHeartbeats 40000000
set_option linter.unusedVariables false
namespace Go.Proofs.YtoidedomenkbpaaGreat
open Go.RowKit
abbrev Fo:=Deep.BT (Int×Int×ByteArray)
def foLen:Fo→Nat
 | .nil=>0
 | .node _ _ _ _ r=>foLen r+1
def zh:Fo→Nat
 | .nil=>0
 | .node _ _ _ l r=>zh l+zh r+1
def zT:Nat→Fo→Fo
 | 0,f=>f
 | _+1,.nil=> .nil
 | k+1,.node _ _ _ _ r=>zT k r
def qK:Fo→Nat→Nat→(Int×Int×ByteArray)→Fo→Fo
 | .nil,b,o,a,l=> .node b o a l .nil
 | .node b' o' a' l' r,b,o,a,l=> .node b' o' a' l' (qK r b o a l)
def zG:Nat→Fo→Fo
 | 0,_=> .nil
 | _+1,.nil=> .nil
 | k+1,.node b o a l r=> .node b o a l (zG k r)
def Yl (a b:Int×Int×ByteArray):Bool:=decide (a.1=b.1∧a.2.1=b.2.1∧a.2.2.toList=b.2.2.toList)
def vP:Fo→Fo→Bool
 | .nil,.nil=>true
 | .node _ _ a l r,.node _ _ a' l' r'=>Yl a a' && (decide (foLen l=foLen l') && vP l l') && vP r r'
 | _,_=>false
structure Tr where
 id:Int
 kind:Int
 text:ByteArray
 kids:Fo
instance:Inhabited Tr:=⟨⟨0,0,⟨#[]⟩,.nil⟩⟩
def zL (t u:Tr):Bool:=Yl (t.id,t.kind,t.text) (u.id,u.kind,u.text) && (decide (foLen t.kids=foLen u.kids) && vP t.kids u.kids)
theorem ZW:∀f:Fo,vP f f=true
 | .nil=>rfl
 | .node _ _ a l r=>by simp[vP,Yl,ZW l,ZW r]
theorem ZY (t:Tr):zL t t=true:=by simp[zL,Yl,ZW]
theorem qJ:∀(k:Nat) (f:Fo),foLen f≤k→zT k f= .nil
 | 0,.nil,_=>rfl
 | 0,.node _ _ _ _ _,h=>by simp[foLen] at h
 | _+1,.nil,_=>rfl
 | k+1,.node _ _ _ _ r,h=>qJ k r uc8
theorem yL:∀(k:Nat) (f:Fo),k<foLen f→∃b o a l r,zT k f= .node b o a l r∧zT (k+1) f=r∧zh l<zh f∧zG (k+1) f=qK (zG k f) b o a l
 | _,.nil,h=>by simp[foLen] at h
 | 0,.node b o a l r,_=>⟨b,o,a,l,r,rfl,by simp[zT],by simp[zh];omega,by simp[zG,qK]⟩
 | k +1,.node b0 o0 a0 l0 r0,h=>by
   obtain⟨b,o,a,l,r,h1,h2,h3,h4⟩:=yL k r0 uc8
   exact⟨b,o,a,l,r,h1,h2,by simp[zh];omega,by rw[zG,h4];simp[zG,qK]⟩
theorem zcn:∀(f:Fo) (b o:Nat) (a:Int×Int×ByteArray) (l:Fo),foLen (qK f b o a l)=foLen f+1
 | .nil,_,_,_,_=>rfl
 | .node _ _ _ _ r,b,o,a,l=>by simp[qK,foLen,zcn r b o a l]
theorem qL:∀(k:Nat) (f:Fo),foLen f≤k→zG k f=f
 | 0,.nil,_=>rfl
 | 0,.node _ _ _ _ _,h=>by simp[foLen] at h
 | _+1,.nil,_=>rfl
 | k+1,.node _ _ _ _ r,h=>by rw[zG,qL k r uc8]
theorem YN:∀(f:Fo) (b o:Nat) (a:Int×Int×ByteArray) (l:Fo),zh (qK f b o a l)=zh f+zh l+1
 | .nil,_,_,_,_=>by simp[qK,zh]
 | .node _ _ _ _ r,b,o,a,l=>by simp[qK,zh,YN r b o a l];omega
def vY:Fo→Prop
 | .nil=>True
 | .node _ _ _ l r=>foLen l≤9223372036854775807∧vY l∧vY r
theorem kv:∀(k:Nat) {f:Fo} {b o:Nat} {a:Int×Int×ByteArray} {l r:Fo},vY f→zT k f= .node b o a l r→foLen l≤9223372036854775807∧vY l
 | 0,.node _ _ _ _ _,_,_,_,_,_,h,e=>by simp only[zT] at e;cases e;exact⟨h.1,h.2.1⟩
 | k+1,.node _ _ _ _ _,_,_,_,_,_,h,e=>kv k h.2.2 e
theorem yV:∀f:Fo,foLen f≤zh f
 | .nil=>NlrQ _
 | .node _ _ _ _ r=>by have:=yV r;simp[foLen,zh];omega
def zK (w:World)(S:Nat→Prop):Fo→Option Addr→Prop
 | .nil,_=>True
 | .node _ _ k l r,a=>∃b off ka cap,a=some ⟨b,off,none⟩∧S b∧w.cell? ⟨b,off,none⟩=some (.int .i64 k.1)∧w.cell? ⟨b,off+1,none⟩=some (.int .i64 k.2.1)∧
    w.cell? ⟨b,off+2,none⟩=some (.string k.2.2)∧w.cell? ⟨b,off+3,none⟩=some (.slice ka (foLen l) cap)∧foLen l≤cap∧zK w S l ka∧zK w S r (some ⟨b,off+4,none⟩)
def vL (w:World)(S:Nat→Prop)(v:Value)(t:Tr):Prop:=
 ∃ka cap,v= .agg #[.int .i64 t.id,.int .i64 t.kind,.string t.text,.slice ka (foLen t.kids) cap]∧foLen t.kids≤cap∧zK w S t.kids ka
theorem zK.kept {w w' :World}{S S' :Nat→Prop}(hS:∀k,S k→S' k∧w'.heap[k]? =w.heap[k]?):∀{f:Fo} {a:Option Addr},zK w S f a→zK w' S' f a
 | .nil,_,_=>True.intro
 | .node _ _ k l r,a,h=>by
   obtain⟨b,off,ka,cap,e,hb,h0,h1,h2,h3,hc,hl,hr⟩:=h
   have hh:=(hS b hb).2
   exact⟨b,off,ka,cap,e,(hS b hb).1,(World.cell?_of_block hh).trans h0,(World.cell?_of_block hh).trans h1,(World.cell?_of_block hh).trans h2,(World.cell?_of_block hh).trans h3,hc,hl.kept hS,hr.kept hS⟩
theorem vL.kept {w w' :World}{S S' :Nat→Prop}{v:Value}{t:Tr}(h:vL w S v t)(hS:∀k,S k→S' k∧w'.heap[k]? =w.heap[k]?):vL w' S' v t:=by
 obtain⟨ka,cap,e,hc,hk⟩:=h
 exact⟨ka,cap,e,hc,hk.kept hS⟩
theorem zK.below {w w' :World}{S:Nat→Prop}{B:Nat}{f:Fo}{a:Option Addr}(h:zK w S f a)(hb:Below B w w')(hS:∀k,S k→k<B):zK w' S f a:=h.kept fun k hk=>⟨hk,hb.block k (hS k hk)⟩
theorem zK.at {w:World}{S:Nat→Prop}:∀{f:Fo} {a:Option Addr} (k:Nat),zK w S f a→k<foLen f→
 ∃ b0 o0 key l r,zT k f= .node b0 o0 key l r∧∃b off ka cap,a=some ⟨b,off,none⟩∧S b∧w.cell? ⟨b,off+k*4,none⟩=some (.int .i64 key.1)∧w.cell? ⟨b,off+k*4+1,none⟩=some (.int .i64 key.2.1)∧
  w.cell? ⟨b,off+k*4+2,none⟩=some (.string key.2.2)∧w.cell? ⟨b,off+k*4+3,none⟩=some (.slice ka (foLen l) cap)∧foLen l≤cap∧zK w S l ka
 | .nil,_,_,_,h=>by simp[foLen] at h
 | .node b0 o0 key l r,_,0,h,_=>by
   obtain⟨b,off,ka,cap,e,hb,h0,h1,h2,h3,hc,hl,_⟩:=h
   exact⟨b0,o0,key,l,r,rfl,b,off,ka,cap,e,hb,by simpa using h0,by simpa using h1,by simpa using h2,by simpa using h3,hc,hl⟩
 | .node _ _ _ _ r,_,k+1,h,hk=>by
   obtain⟨b,off,_,_,e,hb,_,_,_,_,_,_,hr⟩:=h
   obtain⟨b0,o0,key,l,r',hd,b',off',ka,cap,e',hb',h0,h1,h2,h3,hc,hl⟩:=hr.at k (by simp[foLen] at hk;omega)
   cases e'
   have hs:off+4+k*4=off+(k+1)*4:=by omega
   rw[hs] at h0 h1 h2 h3
   exact⟨b0,o0,key,l,r',hd,b,off,ka,cap,e,hb,h0,h1,h2,h3,hc,hl⟩
theorem lt_of_some {w:World}{k:Nat}{o:Obj}(h:w.heap[k]? =some o):k<w.heap.size:=(Array.getElem?_eq_some_iff.1 h).1
theorem zR {w w' :World}{B:Nat}{e:TypeId}{size:Nat}{v:Value}{n:Nat}{xs:List Value}(h:w.ownsRow B e size v n xs)(hk:∀g cur,w.heap[g]? =some (.cells cur e (0,0))→v.ownBlock=some g→w'.heap[g]? =w.heap[g]?):w'.ownsRow B e size v n xs:=by
 obtain⟨h1,h2⟩:=h
 refine⟨h1,?_⟩
 rcases h2 with h2 | ⟨g,cap,cur,hv,hg,hh,r⟩
 · exact Or.inl h2
 · exact Or.inr ⟨g,cap,cur,hv,hg,(hk g cur hh (by rw[hv];rfl)).trans hh,r⟩
theorem zO {w:World}{B:Nat}{e:TypeId}{size:Nat}{v:Value}{n:Nat}{xs:List Value}(h:w.ownsRow B e size v n xs){g:Nat}(hg:v.ownBlock=some g):B≤g∧g<w.heap.size:=by
 rcases h.2 with ⟨hv,_⟩ | ⟨g',cap,cur,hv,hB,hh,_⟩
 · rw[hv] at hg;cases hg
 · rw[hv] at hg;cases hg;exact⟨hB,lt_of_some hh⟩
theorem zZ {w:World}{B:Nat}{e:TypeId}{size:Nat}{v:Value}{n:Nat}{xs:List Value}(h:w.ownsRow B e size v n xs):∃a cap,v= .slice a n cap:=by
 rcases h.2 with ⟨hv,h0⟩ | ⟨g',cap,cur,hv,_⟩
 · exact⟨none,0,by rw[hv,h0]⟩
 · exact⟨_,_,hv⟩
theorem yx {w:World}{B:Nat}{e:TypeId}{size:Nat}{v:Value}{n:Nat}{xs:List Value}(h:w.ownsRow B e size v n xs){g:Nat}(hg:v.ownBlock=some g)(j:Nat)(u:Value)(hj:xs[j]? =some u):w.cell? ⟨g,j,none⟩=some u:=by
 rcases h.2 with ⟨hv,_⟩ | ⟨g',cap,cur,hv,hB,hh,_,_,_,ht⟩
 · rw[hv] at hg;cases hg
 · rw[hv] at hg;cases hg
   rw[corQ w g' j _ _ _ hh]
   rw[←ht,List.getElem?_take] at hj
   split at hj
   · simpa using hj
   · cases hj
def vO (w:World)(S:Nat→Prop):Fo→List Value→Prop
 | .nil,xs=>xs= []
 | .node _ _ k l r,xs=>∃ka cap ys,xs= [.int .i64 k.1,.int .i64 k.2.1,.string k.2.2,.slice ka (foLen l) cap]++ys∧foLen l≤cap∧zK w S l ka∧vO w S r ys
theorem vO.kept {w w' :World}{S S' :Nat→Prop}(hS:∀k,S k→S' k∧w'.heap[k]? =w.heap[k]?):∀{f:Fo} {xs:List Value},vO w S f xs→vO w' S' f xs
 | .nil,_,h=>h
 | .node _ _ k l r,xs,h=>by
   obtain⟨ka,cap,ys,e,hc,hl,hr⟩:=h
   exact⟨ka,cap,ys,e,hc,hl.kept hS,hr.kept hS⟩
theorem vO.snoc {w:World}{S:Nat→Prop}{b o:Nat}{k:Int×Int×ByteArray}{l:Fo}{ka:Option Addr}(hl:zK w S l ka)(cap:Nat)(hc:foLen l≤cap):∀{f:Fo} {xs:List Value},vO w S f xs→
 vO w S (qK f b o k l) (xs++[.int .i64 k.1,.int .i64 k.2.1,.string k.2.2,.slice ka (foLen l) cap])
 | .nil,xs,h=>by subst h;exact⟨ka,cap,[],by simp,hc,hl,rfl⟩
 | .node _ _ _ _ _,xs,h=>by
   obtain⟨ka',cap',ys,e,hc',hl',hr⟩:=h
   exact⟨ka',cap',_,by rw[e,List.append_assoc],hc',hl',vO.snoc hl cap hc hr⟩
theorem vO.lies {w:World}{S:Nat→Prop}{g:Nat}(hg:S g):∀{f:Fo} {xs:List Value} (off:Nat),vO w S f xs→(∀j u,xs[j]? =some u→w.cell? ⟨g,off+j,none⟩=some u)→zK w S f (some ⟨g,off,none⟩)
 | .nil,_,_,_,_=>True.intro
 | .node _ _ k l r,xs,off,h,hc=>by
   obtain⟨ka,cap,ys,e,hcp,hl,hr⟩:=h
   subst e
   refine⟨g,off,ka,cap,rfl,hg,hc 0 _ rfl,hc 1 _ rfl,hc 2 _ rfl,hc 3 _ rfl,hcp,hl,vO.lies hg (off+4) hr fun j u hu=>?_⟩
   have:=hc (j+4) u (by rw[List.getElem?_append_right sp1];simpa using hu)
   rw[show off+4+j=off+(j+4) by omega];exact this
structure Seg where
 d:Nat
 a:Option Addr
 cap:Nat
 f:Fo
def Seg.v (s:Seg):Value:= .slice s.a (foLen s.f) s.cap
def Seg.cells (s:Seg):List Value:=[.int .i64 (s.d:Int),s.v]
def yF (A:List Seg):Nat:=(A.map fun s=>zh s.f).sum
theorem vB:yF []=0:=rfl
theorem yZ (s:Seg)(A:List Seg):yF (s::A)=zh s.f+yF A:=by simp[yF]
theorem qB (A B:List Seg):yF (A++B)=yF A+yF B:=by simp[yF]
theorem Qv (A:List Seg):yF A.reverse=yF A:=by
 induction A with
 | nil=>rfl
 | cons s A ih=>rw[List.reverse_cons,qB,ih,yZ,yZ,vB];omega
structure Yb (M:Nat) (s:Seg):Prop where
 deep:s.d+zh s.f≤M
 cap:foLen s.f≤s.cap
theorem QC:∀{f:Fo},f≠ .nil→1≤zh f
 | .nil,h=>absurd rfl h
 | .node _ _ _ _ _,_=>by simp[zh]
theorem Jo:∀(A:List Seg),(∀s∈A,s.f≠ .nil)→A.length≤yF A
 | [],_=>NlrQ _
 | s ::A,h=>by
   have h1:=Jo A (fun x hx=>h x (List.mem_cons_of_mem _ hx))
   have h2:=QC (h s sp1)
   rw[yZ,LlcQ];omega
def Kept (T:Nat→Prop)(w w' :World):Prop:=w.heap.size≤w'.heap.size∧∀x,T x→w'.heap[x]? =w.heap[x]?
theorem Kept.trans {T:Nat→Prop}{a b c:World}(h:Kept T a b)(k:Kept T b c):Kept T a c:=⟨NltQ h.1 k.1,fun x hx=>(k.2 x hx).trans (h.2 x hx)⟩
def Yc (T T' :Nat→Prop)(w w' :World):Prop:=∀x,T' x→T x∨(w.heap.size≤x∧x<w'.heap.size)
structure Body (P:Program) (m l:Nat) (J:(Nat→Prop)→List Seg→World→Prop) (Jx:(Nat→Prop)→World→Prop):Prop where
 turn:∀{T T' :Nat→Prop} {A:List Seg} {w w' :World},J T A w→zb w w' T→Yc T T' w w'→J T' A w'
 zdk:∀{T T' :Nat→Prop} {w w' :World},Jx T w→zb w w' T→Yc T T' w w'→Jx T' w'
 empty:∀{T:Nat→Prop} {A B:List Seg} {d c:Nat} {a:Option Addr} {w:World},J T (A++⟨d,a,c,.nil⟩::B) w→J T (A++B) w
 yield:∀{T:Nat→Prop} {d c bo oo:Nat} {a:Option Addr} {key:Int×Int×ByteArray} {k r:Fo} {A:List Seg} {w:World},(∀x,T x→x<w.heap.size)→J T (⟨d,a,c,.node bo oo key k r⟩::A) w→
  ∃ b off,a=some ⟨b,off,none⟩∧YieldAt Fence.wide m P l #[.int .i64 (d:Int),.pointer (some ⟨b,off,none⟩)] w fun e w'=>Kept T w w'∧
   ((e= .returned (.bool true)∧∃ka kc,w'.cell? ⟨b,off+3,none⟩=some (.slice ka (foLen k) kc)∧foLen k≤kc∧J T (⟨d+1,ka,kc,k⟩::⟨d,some ⟨b,off+4,none⟩,c - 1,r⟩::A) w')∨(e= .returned (.bool false)∧Jx T w'))
structure Its (T:Nat→Prop) (w:World) (l LB YB FB DB:Nat) (lv:Value) (L:List Seg) (lf:Bool):Prop where
 later:w.heap[LB]? =some (.cells #[lv] 176 (0,0))
 row:w.ownsRow 0 175 2 lv L.length (L.flatMap Seg.cells)
 yld:w.heap[YB]? =some (.cells #[.func (.yield l) #[] #[]] 173 (0,0))
 flag:w.heap[FB]? =some (.cells #[.bool lf] 4 (0,0))
 down:w.heap[DB]? =some (.cells #[.func (.func 132) #[] #[.pointer (some ⟨LB,0,none⟩),.pointer (some ⟨YB,0,none⟩),.pointer (some ⟨FB,0,none⟩),.pointer (some ⟨DB,0,none⟩)]] 177 (0,0))
 hl:T LB
 hy:T YB
 hf:T FB
 hd:T DB
 hr:∀g,lv.ownBlock=some g→T g
 sub:∀x,T x→x<w.heap.size
theorem zdF (L:List Seg):(L.flatMap Seg.cells).length=L.length*2:=by
 induction L with
 | nil=>rfl
 | cons s L ih=>rw[List.flatMap_cons,LlaQ,ih,LlcQ];simp[Seg.cells];omega
theorem zY {w:World}{x y:Nat}{cs cs' :Array Value}{t t' :TypeId}{fr fr' :Nat×Nat}(h:w.heap[x]? =some (.cells cs t fr))(h' :w.heap[y]? =some (.cells cs' t' fr'))(ht:t≠t'):x≠y:=fun e=>by
 subst e;rw[h] at h';cases h';exact ht rfl
theorem JJ {w:World}{B:Nat}{e:TypeId}{size:Nat}{v:Value}{n:Nat}{xs:List Value}(h:w.ownsRow B e size v n xs){g:Nat}(hg:v.ownBlock=some g):∃cur,w.heap[g]? =some (.cells cur e (0,0)):=by
 rcases h.2 with ⟨hv,_⟩ | ⟨g',cap,cur,hv,hB,hh,_⟩
 · rw[hv] at hg;cases hg
 · rw[hv] at hg;cases hg;exact⟨cur,hh⟩
theorem Its.zcv {T:Nat→Prop}{w:World}{l LB YB FB DB:Nat}{lv:Value}{L:List Seg}{lf:Bool}(h:Its T w l LB YB FB DB lv L lf):LB≠YB∧LB≠FB∧LB≠DB∧YB≠FB∧YB≠DB∧FB≠DB∧∀g,lv.ownBlock=some g→g≠LB∧g≠YB∧g≠FB∧g≠DB:=
 ⟨zY h.later h.yld ue3,zY h.later h.flag ue3,zY h.later h.down ue3,zY h.yld h.flag ue3,zY h.yld h.down ue3,zY h.flag h.down ue3,fun g hg=>by
  obtain⟨cur,hc⟩:=JJ h.row hg
  exact⟨zY hc h.later ue3,zY hc h.yld ue3,zY hc h.flag ue3,zY hc h.down ue3⟩⟩
theorem Its.kept {T T' :Nat→Prop}{w w' :World}{l LB YB FB DB:Nat}{lv:Value}{L:List Seg}{lf:Bool}(h:Its T w l LB YB FB DB lv L lf)(hk:∀x,T x→w'.heap[x]? =w.heap[x]?)(hT:∀x,T x→T' x)(hs:∀x,T' x→x<w'.heap.size):Its T' w' l LB YB FB DB lv L lf:=
 ⟨(hk _ h.hl).trans h.later,zR h.row (fun g _ _ hgo=>hk g (h.hr g hgo)),(hk _ h.hy).trans h.yld,(hk _ h.hf).trans h.flag,(hk _ h.hd).trans h.down,hT _ h.hl,hT _ h.hy,hT _ h.hf,hT _ h.hd,fun g hg=>hT g (h.hr g hg),hs⟩
theorem Its.zc4 {T T' :Nat→Prop}{w w' :World}{l LB YB FB DB:Nat}{lv:Value}{L:List Seg}{lf b:Bool}(h:Its T w l LB YB FB DB lv L lf)(hk:∀x,T x→x≠FB→w'.heap[x]? =w.heap[x]?)(hf:w'.heap[FB]? =some (.cells #[.bool b] 4 (0,0)))(hT:∀x,T x→T' x)(hs:∀x,T' x→x<w'.heap.size):Its T' w' l LB YB FB DB lv L b:=by
 obtain⟨n1,n2,n3,n4,n5,n6,n7⟩:=h.zcv
 exact⟨(hk _ h.hl n2).trans h.later,zR h.row (fun g _ _ hgo=>hk g (h.hr g hgo) (n7 g hgo).2.2.1),(hk _ h.hy n4).trans h.yld,hf,(hk _ h.hd n6.symm).trans h.down,hT _ h.hl,hT _ h.hy,hT _ h.hf,hT _ h.hd,fun g hg=>hT g (h.hr g hg),hs⟩
theorem Its.zfm {T T' :Nat→Prop}{w w' :World}{l LB YB FB DB:Nat}{lv lv' :Value}{L L' :List Seg}{lf:Bool}(h:Its T w l LB YB FB DB lv L lf)(hk:∀x,T x→x≠LB→lv.ownBlock≠some x→w'.heap[x]? =w.heap[x]?)(hl:w'.heap[LB]? =some (.cells #[lv'] 176 (0,0)))(ho:w'.ownsRow 0 175 2 lv' L'.length (L'.flatMap Seg.cells))
 (hr:∀g,lv'.ownBlock=some g→T' g) (hT:∀x,T x→T' x) (hs:∀x,T' x→x<w'.heap.size):Its T' w' l LB YB FB DB lv' L' lf:=by
 obtain⟨n1,n2,n3,n4,n5,n6,n7⟩:=h.zcv
 exact⟨hl,ho,(hk _ h.hy n1.symm (fun e=>(n7 _ e).2.1 rfl)).trans h.yld,(hk _ h.hf n2.symm (fun e=>(n7 _ e).2.2.1 rfl)).trans h.flag,(hk _ h.hd n3.symm (fun e=>(n7 _ e).2.2.2 rfl)).trans h.down,hT _ h.hl,hT _ h.hy,hT _ h.hf,hT _ h.hd,hr,hs⟩
structure jG (T T' :Nat→Prop) (w w' :World) (LB FB:Nat) (lv lv' :Value):Prop where
 wide:∀x,T x→T' x
 new:∀x,T' x→T x∨w.heap.size≤x
 size:w.heap.size≤w'.heap.size
 same:∀x,T x→x≠LB→x≠FB→lv.ownBlock≠some x→w'.heap[x]? =w.heap[x]?
 row:lv'.ownBlock=lv.ownBlock∨∀g,lv'.ownBlock=some g→w.heap.size≤g
theorem jG.trans {T T1 T2:Nat→Prop}{w w1 w2:World}{LB FB:Nat}{lv lv1 lv2:Value}(h:jG T T1 w w1 LB FB lv lv1)(k:jG T1 T2 w1 w2 LB FB lv1 lv2)(hs:∀x,T x→x<w.heap.size):jG T T2 w w2 LB FB lv lv2 where
 wide:=fun x hx=>k.wide x (h.wide x hx)
 new:=fun x hx=>by
  have:=h.size
  rcases k.new x hx with h1 | h1
  · exact h.new x h1
  · exact Or.inr om
 size:=NltQ h.size k.size
 same:=fun x hx h1 h2 h3=>(k.same x (h.wide x hx) h1 h2 (fun e=>by
  rcases h.row with hr | hr
  · rw[hr] at e;exact h3 e
  · have:=hr x e;have:=hs x hx;omega)).trans (h.same x hx h1 h2 h3)
 row:=by
  have:=h.size
  rcases k.row with h1 | h1
  · rw[h1];exact h.row
  · exact Or.inr fun g hg=>by have:=h1 g hg;omega
def Z9 (J:(Nat→Prop)→List Seg→World→Prop)(Jx:(Nat→Prop)→World→Prop)(M k:Nat)(s:Seg)(A A' :List Seg)(T:Nat→Prop)(bl lf:Bool)(w:World):Prop:=
 (bl=true∧lf=false∧A'= []∧J T A w)∨(bl=false∧A'.length≤zh s.f∧((lf=false∧J T (A'++A) w∧(∀x∈A',Yb M x∧x.f≠ .nil)∧yF A'≤zh s.f∧(0<k→yF A'<zh s.f))∨(lf=true∧Jx T w)))
def Jj (J:(Nat→Prop)→List Seg→World→Prop)(Jx:(Nat→Prop)→World→Prop)(M k l LB YB FB DB:Nat)(T:Nat→Prop)(s:Seg)(A L:List Seg)(lv:Value)(w:World)(e:Ending)(w' :World):Prop:=
 ∃(bl lf:Bool) (T' :Nat→Prop) (lv' :Value) (A' :List Seg),e= .returned (.bool bl)∧jG T T' w w' LB FB lv lv'∧Its T' w' l LB YB FB DB lv' (L++A') lf∧Z9 J Jx M k s A A' T' bl lf w'
def zb0 (J:(Nat→Prop)→List Seg→World→Prop)(Jx:(Nat→Prop)→World→Prop)(M l LB YB FB DB k:Nat):Prop:=
 ∀ (T:Nat→Prop) (w:World) (s:Seg) (A L:List Seg) (lv:Value),Its T w l LB YB FB DB lv L false→J T (s::A) w→Yb M s→L.length+zh s.f≤1000000→
  Calls Tryz.prog 132 #[.agg #[.int .i64 (s.d:Int),s.v],.int .i64 (k:Int),.pointer (some ⟨LB,0,none⟩),.pointer (some ⟨YB,0,none⟩),.pointer (some ⟨FB,0,none⟩),.pointer (some ⟨DB,0,none⟩)] w (Jj J Jx M k l LB YB FB DB T s A L lv w)
theorem YieldAt.Jp {m:Nat}(m' :Nat){P:Program}{l:Nat}{args:Array Value}{W:World}{R:Ending→World→Prop}(h:YieldAt Fence.wide m P l args W R):YieldAt Fence.wide m' P l args W R:=by
 obtain⟨fn,tmps,assign,body,hy,hr⟩:=h
 exact⟨fn,tmps,assign,body,hy,hr.1,fun c cs _=>hr.2 c cs (room_wide _)⟩
end Go.Proofs.YtoidedomenkbpaaGreat
namespace Go.Proofs.YtoidedomenkbpaaGreat
open Go.RowKit
theorem Ye:∀(M:List Seg) (k:Nat) (s:Seg),M[k]? =some s→(M.flatMap Seg.cells)[k*2]? =some (.int .i64 (s.d:Int))∧(M.flatMap Seg.cells)[k*2+1]? =some s.v
 | [],_,_,h=>by simp at h
 | x ::M,0,s,h=>by
   simp at h;subst h
   simp[Seg.cells]
 | x ::M,k+1,s,h=>by
   have:=Ye M k s ud8
   rw[List.flatMap_cons]
   have e1:(k+1)*2=k*2+1+1:=by omega
   rw[e1]
   simpa [Seg.cells] using this
theorem Yv:∀(M:List Seg) (k:Nat) (s:Seg),k<M.length→(M.set k s).flatMap Seg.cells=((M.flatMap Seg.cells).set (k*2) (.int .i64 (s.d:Int))).set (k*2+1) s.v
 | [],_,_,h=>by simp at h
 | x::M,0,s,h=>by simp[Seg.cells]
 | x ::M,k+1,s,h=>by
   have:=Yv M k s ud8
   rw[pgF,List.flatMap_cons,List.flatMap_cons,this]
   have e1:(k+1)*2=k*2+1+1:=by omega
   rw[e1]
   simp[Seg.cells]
def Turned (L M:List Seg)(i:Nat):Prop:=M.length=L.length∧∀k,k<L.length→M[k]? =if k<i∨L.length - i≤k then L[L.length - 1 - k]? else L[k]?
theorem Turned.start (L:List Seg):Turned L L 0:=⟨rfl,fun k hk=>by rw[inQ om]⟩
theorem Turned.step {L M:List Seg}{i:Nat}(h:Turned L M i)(hi:i+1+i<L.length)(s t:Seg)(hs:M[i]? =some s)(ht:M[L.length - 1 - i]? =some t):Turned L ((M.set i t).set (L.length - 1 - i) s) (i+1):=by
 refine⟨by simp[h.1],fun k hk=>?_⟩
 have hM:=h.2 k hk
 have h1:=h.2 i om
 have h2:=h.2 (L.length - 1 - i) om
 rw[inQ om] at h1 h2
 rw[List.getElem?_set,List.getElem?_set]
 by_cases hk1:k=L.length - 1 - i
 · subst hk1
   rw[ipQ rfl,ipQ (by simp[h.1];omega),ipQ om,←hs,h1]
   congr 1;omega
 · rw [inQ (Ne.symm hk1)]
   by_cases hk2:k=i
   · subst hk2
     rw[ipQ rfl,ipQ (by rw[h.1];omega),ipQ om,←ht,h2]
   · rw[inQ (Ne.symm hk2),hM]
     by_cases hc:k<i∨L.length - i≤k
     · rw[ipQ hc,ipQ om]
     · rw[inQ hc,inQ om]
theorem Turned.done {L M:List Seg}{i:Nat}(h:Turned L M i)(hi:L.length≤i+1+i):M=L.reverse:=by
 apply List.ext_getElem?
 intro k
 by_cases hk:k<L.length
 · rw[List.getElem?_reverse hk,h.2 k hk]
   split
   · rfl
   · congr 1;omega
 · rw[List.getElem?_eq_none (by rw[h.1];omega),List.getElem?_eq_none (by rw[List.length_reverse];omega)]
def zhe (lv:Value)(L:List Seg)(w:World)(e:Ending)(w' :World):Prop:=e= .returned (.tuple #[])∧w'.ownsRow 0 175 2 lv L.length (L.reverse.flatMap Seg.cells)∧zb w w' (fun x=>lv.ownBlock=some x)
def Qo (la:Option Addr)(n lc:Nat)(L:List Seg)(w:World)(i:Nat)(wr:World):Prop:=∃M,Turned L M i∧wr.ownsRow 0 175 2 (.slice la n lc) n (M.flatMap Seg.cells)∧zb w wr (fun x=>(Value.slice la n lc).ownBlock=some x)
theorem Qo.drew {la:Option Addr}{n lc i:Nat}{L:List Seg}{w wr:World}(h:Qo la n lc L w i wr):Qo la n lc L w i wr.drew:=by
 obtain⟨M,h1,h2,h3⟩:=h
 exact⟨M,h1,h2,h3.drew⟩
theorem Qo.end {la:Option Addr}{n lc i:Nat}{L:List Seg}{w wr:World}(h:Qo la n lc L w i wr)(hn:n=L.length)(hi:n≤i+1+i):zhe (.slice la n lc) L w (.returned (.tuple #[])) wr:=by
 obtain⟨M,h1,h2,h3⟩:=h
 rw[h1.done om] at h2
 subst hn
 exact⟨rfl,h2,h3⟩
theorem Qo.at {la:Option Addr}{n lc i:Nat}{L:List Seg}{w wr:World}(h:Qo la n lc L w i wr)(hn:n=L.length)(hi:i+1+i<n):∃(g:Nat) (s t:Seg),la=some ⟨g,0,none⟩∧(∀j,wr.frozen? ⟨g,j,none⟩=false)∧
 wr.cell? ⟨g,i*2,none⟩=some (.int .i64 (s.d:Int))∧wr.cell? ⟨g,i*2+1,none⟩=some (.slice s.a (foLen s.f) s.cap)∧wr.cell? ⟨g,(n - 1 - i)*2,none⟩=some (.int .i64 (t.d:Int))∧wr.cell? ⟨g,(n - 1 - i)*2+1,none⟩=some (.slice t.a (foLen t.f) t.cap)∧
 Qo (some ⟨g,0,none⟩) n lc L w (i+1) ((((wr.setCell ⟨g,i*2,none⟩ (.int .i64 (t.d:Int))).setCell ⟨g,i*2+1,none⟩ (.slice t.a (foLen t.f) t.cap)).setCell ⟨g,(n - 1 - i)*2,none⟩ (.int .i64 (s.d:Int))).setCell ⟨g,(n - 1 - i)*2+1,none⟩ (.slice s.a (foLen s.f) s.cap)):=by
 obtain⟨M,h1,h2,h3⟩:=h
 obtain⟨g,cap,e,_⟩:=h2.form om
 cases e
 obtain⟨s,hs⟩:∃s,M[i]? =some s:=⟨M[i]'(by have:=h1.1;omega),List.getElem?_eq_getElem _⟩
 obtain⟨t,ht⟩:∃t,M[n - 1 - i]? =some t:=⟨M[n - 1 - i]'(by have:=h1.1;omega),List.getElem?_eq_getElem _⟩
 have cs:=Ye M i s hs
 have ct:=Ye M _ t ht
 refine⟨g,s,t,rfl,fun j=>h2.frozenAt j,yx h2 rfl _ _ cs.1,yx h2 rfl _ _ cs.2,yx h2 rfl _ _ ct.1,yx h2 rfl _ _ ct.2,?_⟩
 have k1:=(h2.stored (i*2) (.int .i64 (t.d:Int))).1
 have k2:=(k1.stored (i*2+1) (.slice t.a (foLen t.f) t.cap)).1
 have k3:=(k2.stored ((n - 1 - i)*2) (.int .i64 (s.d:Int))).1
 have k4:=(k3.stored ((n - 1 - i)*2+1) (.slice s.a (foLen s.f) s.cap)).1
 have ht':=ht
 rw[hn] at ht'
 refine⟨(M.set i t).set (n - 1 - i) s,by rw[hn];exact h1.step om s t hs ht',?_,?_⟩
 · rw[Yv (M.set i t) _ s (by rw[List.length_set];have:=h1.1;omega),Yv M i t (by have:=h1.1;omega)]
   exact k4
 · have hb:(fun x=>(Value.slice (some ⟨g,0,none⟩) n lc).ownBlock=some x)=fun x=>x=g:=by
    funext x;simp[Value.ownBlock];exact eq_comm
   rw[hb] at h3 ⊢
   have tr:∀{A B:World},zb w A (fun x=>x=g)→zb A B (fun x=>x=g)→zb w B (fun x=>x=g):=fun p q=>p.trans q (fun k hk=>Or.inl hk)
   exact tr (tr (tr (tr h3 (zb.setCell (S:=fun x=>x=g) (a:=⟨g,_,none⟩) rfl _)) (zb.setCell (S:=fun x=>x=g) (a:=⟨g,_,none⟩) rfl _)) (zb.setCell (S:=fun x=>x=g) (a:=⟨g,_,none⟩) rfl _)) (zb.setCell (S:=fun x=>x=g) (a:=⟨g,_,none⟩) rfl _)
theorem zbB (w:World)(la:Option Addr)(n lc:Nat)(L:List Seg)(hn:n=L.length)(hl:n≤2000000)(ho:w.ownsRow 0 175 2 (.slice la n lc) n (L.flatMap Seg.cells)):Calls Tryz.prog 133 #[.slice la n lc] w (zhe (.slice la n lc) L w):=by
 have HS:Hid (Qo la n lc L w 0 w):=hH ⟨L,Turned.start L,ho,zb.refl _ _⟩
 have HN:=hH hn
 clear ho hn
 go_enter Tryz.func133,Tryz.ntmps133
 go_wp2_with fail
 go_loopw [2,3] (fun vi vj wr=>∃i:Nat,i≤n∧vi= .int .i64 i∧vj= .int .i64 ((n:Int) - 1 - i)∧Hid (Qo la n lc L w i wr)) (fun vi _ _=>n - (intOf vi).toNat)
 case atStart=>exact⟨0,NzlQ _,rfl,by simp,HS⟩
 case round=>
  obtain⟨i,hi,rfl,rfl,hh⟩:=hrel
  by_cases hlt:i+1+i<n
  · obtain⟨g,s,t,rfl,fz,c0,c1,c2,c3,hnx⟩:=hh.out.at HN.out hlt
    obtain⟨p,hp⟩:∃p,p=n - 1 - i:=⟨_,rfl⟩
    have hpi:(n:Int) - 1 - (i:Int)=(p:Int):=by omega
    rw[←hp] at c2 c3 hnx
    rw[hpi]
    have hip:(i:Int)<(p:Int):=by omega
    have hpn:(p:Int)<(n:Int):=by omega
    have hin:(i:Int)<(n:Int):=by omega
    have hi0:(0:Int)≤(i:Int):=by omega
    have hp0:(0:Int)≤(p:Int):=by omega
    have HX:=hH (aN hnx (aN hp hpi))
    clear hnx hp hpi hh
    go_wp2_with fail
    go_region_law (fail)
    all_goals
     have HY:Hid (Qo (some ⟨g,0,none⟩) n lc L w (i+1) ((((wr.setCell ⟨g,i*2,none⟩ (.int .i64 (t.d:Int))).setCell ⟨g,i*2+1,none⟩ (.slice t.a (foLen t.f) t.cap)).setCell ⟨g,p*2,none⟩ (.int .i64 (s.d:Int))).setCell ⟨g,p*2+1,none⟩ (.slice s.a (foLen s.f) s.cap)).drew):=hH HX.out.1.drew
     have hpe:(p:Int) - 1=(n:Int) - 1 - ((i+1:Nat):Int):=by have:=HX.out.2.2;omega
     have HPE:=hH hpe
     clear hpe c0 c1 c2 c3 fz
     go_wp2_with fail
     go_roundw
     case rel=>exact⟨i+1,by omega,by go_num,by rw[HPE.out],HY⟩
     case measure=>simp[intOf];omega
  · have hji:¬(i:Int)<(n:Int) - 1 - i:=by omega
    have HE:=hH (hh.out.end HN.out om)
    clear hh HS
    go_wp2_with fail
    go_end0
    exact HE.out
end Go.Proofs.YtoidedomenkbpaaGreat
namespace Go.Proofs.YtoidedomenkbpaaGreat
open Go.RowKit
open Extern.Stop (cell)
def yt (w:World)(a:Option Addr)(bs:List UInt8):Prop:=(a=none→bs= [])∧∀ad,a=some ad→∀j u,bs[j]? =some u→w.cell? (ad.add j)=some (cell u)
def zg3 (w:World)(bs:List UInt8)(e:Ending)(w' :World):Prop:=∃v',e= .returned v'∧Below w.heap.size w w'∧w'.ownsRow w.heap.size 5 1 v' bs.length (bs.map cell)
theorem Tryz.zdW (w:World)(a:Option Addr)(n c:Nat):(binOp .eql 45 (.slice a n c) (.slice none 0 0)).run Tryz.prog w= .ok (.bool a.isNone) w:=Lib.run_eql_slice_nil w _ _ a n c 0 0 Tryz.underlying45
theorem kS (w:World)(a:Option Addr)(cap:Nat)(bs:List UInt8)(h:yt w a bs)(hn:bs.length≤1000000000000):
 Calls Tryz.prog 120 #[.slice a bs.length cap] w (zg3 w bs):=by
 have hq:=Tryz.zdW
 cases a with
 | none=>
   have hb:=h.1 rfl
   subst hb
   clear h hn
   go_enter Tryz.func120,Tryz.ntmps120
   go_wp2_with fail
   go_ret
   exact⟨_,rfl,BrQ _ _,World.ownsRow_nil _ _ _ _⟩
 | some ad=>
   have hc1:∀(j:Nat) (u:Value),(bs.map cell)[j]? =some u→(w.alloc (.cells #[] 5)).cell? (ad.add j)=some u:=fun j u hj=>by
    rw[List.getElem?_map,Option.map_eq_some_iff] at hj
    obtain⟨x,hx,rfl⟩:=hj
    exact Lib.cell?_alloc_some _ (h.2 ad rfl j x hx)
   have hc2:∀u∈bs.map cell,u.oneCell'=true:=fun u hu=>by
    obtain⟨x,_,rfl⟩:=List.mem_map.1 hu
    rfl
   have HC:=hH (aN hc1 hc2)
   clear hc1 hc2
   obtain⟨i0,hi,hz,hs,hby⟩:=ZR Tryz.QF
   have HI:=hH (aN hi (aN hz (aN hs hby)))
   obtain⟨n,hnn⟩:∃n,n=bs.length:=⟨_,rfl⟩
   have HN:=hH (aN hnn hn)
   rw[←hnn]
   clear h hn hi hz hs hby hnn
   go_enter Tryz.func120,Tryz.ntmps120
   go_wp2_with (at_builtin;refine wpList_append_own_at _ rfl (.tmp 5) (.tmp 6) _ rfl w.heap.size 5 i0 (.int .u8 0) 1 1 Tryz.underlying45 HI.out.1 HI.out.2.1 HI.out.2.2.1 HI.out.2.2.2 rfl om (.slice (some ⟨w.heap.size,0,none⟩) 0 0) 0 [] rfl (World.ownsRow_made w #[] 0 (NlrQ _) ud2 rfl) ad n cap (bs.map cell) rfl (by rw[HN.out.1];simp) HC.out.1 HC.out.2 (by have:=HN.out;unfold maxLen;omega) (by have:=HN.out;omega) sp1 ?_;intro v' w1 hown hgrow _ hat)
   go_ret
   have hs:=hgrow.size
   rw[WsaQ] at hs
   refine⟨_,rfl,⟨hgrow.os,hgrow.tape,hgrow.output,by omega,fun x hx=>by
    rw[hgrow.block x ud7 (by simp[Value.ownBlock];omega),BhaQ _ _ _ hx]⟩,?_⟩
   rw[Nat.zero_add,List.nil_append] at hown
   rw[←HN.out.1];exact hown
theorem qy.of {w w' :World}{v:Value}{bs:List UInt8}(hb:Below w.heap.size w w')(h:w'.ownsRow w.heap.size 5 1 v bs.length (bs.map cell)):qy w.heap.size v bs w w':=⟨⟨World.ownsRowF_of h,hb,hb.size⟩,qE.below hb⟩
theorem Jd (w:World)(a:Option Addr)(cap:Nat)(bs:List UInt8)(h:yt w a bs)(hn:bs.length≤1000000000000)(n:Int):
 Calls Tryz.prog 262 #[.slice a bs.length cap,.int .i64 n] w (Yp w.heap.size (bs++zq n) w):=by
 have HC:=hH (kS w a cap bs h hn)
 have HT:=hH (fun w1 v (h1:qy w.heap.size v bs w w1)=>yK w1 w w.heap.size v bs n h1 hn)
 clear h hn
 go_enter Tryz.func262,Tryz.ntmps262
 go_wp2_with (first
  | (go_at_call 120;refine HC.out.mono ?_;clear HC;rintro e w1 ⟨v1,rfl,h1,h2⟩;have H1:=hH (HT.out _ _ (qy.of h1 h2));clear h1 h2)
  | (go_at_call 265;refine H1.out.mono ?_;clear H1;rintro e w2 ⟨v2,rfl,h1⟩;have H2:=hH h1;clear h1))
 go_ret
 exact⟨_,rfl,H2.out⟩
theorem zdg {w:World}{B:Nat}{e:TypeId}{size:Nat}{v:Value}{n:Nat}{xs:List Value}(h:w.ownsRow B e size v n xs):∃a c,v= .slice a n c:=by
 rcases h.2 with ⟨h,h'⟩ | ⟨g',cap',cur,hv,_,hh,_⟩
 · exact⟨none,0,by rw[h,h']⟩
 · exact⟨_,_,hv⟩
def zil (w:World)(bs:List UInt8)(e:Ending)(w' :World):Prop:=∃b dv,e= .returned (.pointer (some ⟨b,0,none⟩))∧w.heap.size≤b∧(∀g,dv.ownBlock=some g→w.heap.size≤g)∧yJ w' b dv ⟨bs,0,false⟩∧Below w.heap.size w w'
theorem zd1 {w:World}{B B' :Nat}{e:TypeId}{size:Nat}{v:Value}{n:Nat}{xs:List Value}(h:w.ownsRow B e size v n xs)(hB:B'≤B):w.ownsRow B' e size v n xs:=by
 obtain⟨h1,h2⟩:=h
 refine⟨h1,?_⟩
 rcases h2 with h2 | ⟨g,cap,cur,hv,hg,r⟩
 · exact Or.inl h2
 · exact Or.inr ⟨g,cap,cur,hv,NltQ hB hg,r⟩
theorem zdV (w:World)(a:Option Addr)(cap:Nat)(bs:List UInt8)(h:yt w a bs)(hn:bs.length≤100000000):
 Calls Tryz.prog 77 #[.slice a bs.length cap] w (zil w bs):=by
 have HC:=hH (kS w a cap bs h om)
 have HN:=hH hn
 clear h hn
 go_enter Tryz.func77,Tryz.ntmps77
 go_wp2_with (go_at_call 120;refine HC.out.mono ?_;clear HC;rintro e w1 ⟨v1,rfl,h1,h2⟩;obtain⟨a1,c1,rfl⟩:=zdg h2;have H1:=hH (aN h1 h2);clear h1 h2)
 go_ret
 have hb:=H1.out.1
 have ho:=H1.out.2
 have hs:=hb.size
 refine⟨w1.heap.size,_,rfl,hs,fun g hg=>?_,⟨hanQ _ _,?_,fun e=>?_,NzlQ _,HN.out⟩,hb.alloc hs _⟩
 · rcases ho.2 with ⟨h,_⟩ | ⟨g',cap',cur,hv,h3,_⟩
   · rw[h] at hg;cases hg
   · rw[hv] at hg;cases hg;exact h3
 · exact zd1 (j5 ho (fun g hg=>BhaQ _ _ _ (Qd ho g hg))) (NzlQ _)
 · exact absurd (Qd ho _ e) (Nat.lt_irrefl _)
def ZN (k:Int×Int×ByteArray)(n:Nat):List UInt8:=zq k.1++zq k.2.1++(zq (k.2.2.size:Int)++k.2.2.data.toList)++zq (n:Int)
def vv:Fo→List UInt8
 | .nil=>[]
 | .node _ _ k l r=>ZN k (foLen l)++(vv l++vv r)
def qA (t:Tr):List UInt8:=ZN (t.id,t.kind,t.text) (foLen t.kids)++vv t.kids
def Yx:Fo→Nat
 | .nil=>0
 | .node _ _ k l r=>k.2.2.size+Yx l+Yx r
def zcQ (t:Tr):Nat:=t.text.size+Yx t.kids
theorem qI (k:Int×Int×ByteArray)(n:Nat):(ZN k n).length=32+k.2.2.size:=by
 have:k.2.2.data.toList.length=k.2.2.size:=by simp
 simp[ZN,zH,this];omega
theorem jL:∀f:Fo,(vv f).length=32*zh f+Yx f
 | .nil=>rfl
 | .node _ _ k l r=>by
   simp only[vv,LlaQ,qI,jL l,jL r,zh,Yx];omega
theorem YK (t:Tr):(qA t).length=32*(zh t.kids+1)+zcQ t:=by
 simp only[qA,LlaQ,qI,jL,zcQ];omega
structure Wait where
 a:Option Addr
 cap:Nat
 f:Fo
def Wait.v (r:Wait):Value:= .slice r.a (foLen r.f) r.cap
def encR (rows:List Wait):List UInt8:=rows.foldl (fun acc r=>vv r.f++acc) []
theorem jW (rows:List Wait)(r:Wait):encR (rows++[r])=vv r.f++encR rows:=by simp[encR,List.foldl_append]
def Zg (rows:List Wait):Nat:=rows.foldl (fun acc r=>(2*zh r.f+1)+acc) 0
theorem qW (rows:List Wait)(r:Wait):Zg (rows++[r])=(2*zh r.f+1)+Zg rows:=by simp[Zg,List.foldl_append]
theorem JR:∀(rows:List Wait) (acc:Nat),rows.length+acc≤rows.foldl (fun acc r=>(2*zh r.f+1)+acc) acc
 | [],acc=>by simp
 | r ::rows,acc=>by
   have:=JR rows ((2*zh r.f+1)+acc)
   simp only[List.foldl_cons,LlcQ];omega
theorem zev (rows:List Wait):rows.length≤Zg rows:=by have:=JR rows 0;simpa [Zg] using this
theorem Jb {α:Type}(l:List α):l= []∨∃rs x,l=rs++[x]:=by
 rcases List.eq_nil_or_concat l with h | ⟨rs,x,h⟩
 · exact Or.inl h
 · exact Or.inr ⟨rs,x,by rw[h];simp⟩
def zfV (w:World)(bs:List UInt8)(n:Int)(v i:Value)(wr:World):Prop:=∃k:Nat,k≤8∧i= .int .i64 (7 - (k:Int))∧qy w.heap.size v (bs++(zq n).take k) w wr
theorem qy.none (w:World):qy w.heap.size (.slice none 0 0) [] w w:=⟨⟨World.ownsRowF_nil _ _ _ _,BrQ _ _,NlrQ _⟩,qE.refl _⟩
theorem qy.zfX {B:Nat}{v:Value}{bs:List UInt8}{W0 w:World}(h:qy B v bs W0 w):∃a cap,v= .slice a bs.length cap∧yt w a bs:=by
 have ho:=h.1.1
 have hc:=fun g hg=>World.ownsRowF.cells ho (g:=g) hg
 rcases ho.2 with ⟨hv,hn⟩ | ⟨g,cap,cur,fz,hv,_⟩
 · refine⟨Option.none,0,by rw[hv,hn],fun _=>List.eq_nil_of_length_eq_zero hn,fun ad e=>by cases e⟩
 · subst hv
   exact⟨_,cap,rfl,fun e=>(by cases e),fun ad e j u hj=>by
    cases e
    exact hc g rfl j _ ub9⟩
def zeI (w:World)(n:Int)(v i:Value)(wr:World):Prop:=∃k:Nat,k≤8∧i= .int .i64 (7 - (k:Int))∧qy w.heap.size v ((zq n).take k) w wr
theorem zae (n:Int)(k:Nat)(h:k<8):((zq n).take (k+1)).length=((zq n).take k).length+1∧((zq n).take (k+1)).map cell=((zq n).take k).map cell++[.int .u8 (n / 2 ^ (56 - 8*k) % 256)]:=QK [] n k h
theorem zbV (n:Int)(q:Nat)(h:q≤7):IntKind.u64.wrap n / 2 ^ (8*q) % 256=n / 2 ^ (8*q) % 256:=by
 have e:IntKind.u64.wrap n=n % 18446744073709551616:=by simp[IntKind.wrap,IntKind.signed,IntKind.bits]
 rw[e]
 have hq:q=0∨q=1∨q=2∨q=3∨q=4∨q=5∨q=6∨q=7:=by omega
 rcases hq with rfl | rfl | rfl | rfl | rfl | rfl | rfl | rfl<;>first | (simp;done) | (simp;omega) | omega
theorem ZC (w:World)(a:Option Addr)(cap:Nat)(bs:List UInt8)(n:Int)(h:yt w a bs)(hl:bs.length≤1000000000000):
 Calls Tryz.prog 72 #[.slice a bs.length cap,.int .i64 n] w (Yp w.heap.size (bs++zq n) w):=by
 obtain⟨i0,hi,hz,hs,hby⟩:=ZR Tryz.QF
 have HI:=hH (aN hi (aN hz (aN hs hby)))
 clear hi hz hs hby
 have HL:=hH hl
 cases a with
 | none =>
   have hb:=h.1 rfl
   subst hb
   clear h hl
   go_enter Tryz.func72,Tryz.ntmps72
   go_wp2_with fail
   have HO:=hH (qy.none w)
   go_loopw [5,6] (fun v i wr=>zeI w n v i wr) (fun _ i _=>(intOf i+1).toNat)
   case atStart=>exact⟨0,NzlQ _,rfl,by simpa using HO.out⟩
   case round=>
    obtain⟨k,hk,rfl,hinv⟩:=hrel
    have HV:=hH hinv
    clear hinv
    by_cases hlt:k<8
    · obtain⟨q,hq⟩:∃q:Nat,q=7 - k:=⟨_,rfl⟩
      have hqi:(7 - (k:Int))=(q:Int):=by omega
      have hq7:q≤7:=by omega
      have HQ:=hH (aN hq (aN hlt hqi))
      rw[hqi]
      clear hq hqi hlt hk
      go_wp2_with (at_builtin;refine jb rfl (.tmp 14) (.tmp 22) 45 rfl w.heap.size i0 Tryz.underlying45 HI.out.1 HI.out.2.1 HI.out.2.2.1 HI.out.2.2.2 _ ((zq n).take k).length (((zq n).take k).map cell) rfl w wr (IntKind.u64.wrap n / 2 ^ (8*q) % 256) HV.out _ rfl rfl (by have:=HQ.out.2.1;have:=HL.out;simp only[List.length_take,zH];omega) ?_;intro v' w1 ho;have HO2:=hH ho;clear ho)
      refine⟨⟨k+1,by have:=HQ.out.2.1;omega,by have:=HQ.out.2.2;congr 1;omega,?_⟩,by first | (simp[intOf];done) | (simp[intOf];omega)⟩
      have h1:=zae n k HQ.out.2.1
      have h2:=HO2.out
      rw[zbV n q hq7,show 8*q=56 - 8*k by have:=HQ.out.1;have:=HQ.out.2.1;omega] at h2
      show vw w.heap.size v' ((zq n).take (k+1)).length (((zq n).take (k+1)).map cell) w w1
      rw[h1.1,h1.2]
      exact h2
    · have hk8:k=8:=by omega
      subst hk8
      have hi8:(7 - ((8:Nat):Int))= -1:=by omega
      exact sh4
 | some ad=>
   have HC:=hH (h.2 ad rfl)
   clear h hl
   go_enter Tryz.func72,Tryz.ntmps72
   go_wp2_with (at_builtin;refine Yn rfl (.tmp 7) (.tmp 8) 45 rfl w.heap.size i0 Tryz.underlying45 HI.out.1 HI.out.2.1 HI.out.2.2.1 HI.out.2.2.2 (.slice none 0 0) 0 [] rfl w (qy.none w) ad cap bs rfl HC.out ud3 ?_;intro v' w1 ho;have HO:=hH ho;clear ho)
   go_loopw [5,6] (fun v i wr=>zfV w bs n v i wr) (fun _ i _=>(intOf i+1).toNat)
   case atStart=>exact⟨0,NzlQ _,rfl,by simpa using HO.out⟩
   case round=>
    obtain⟨k,hk,rfl,hinv⟩:=hrel
    have HV:=hH hinv
    clear hinv
    by_cases hlt:k<8
    · obtain⟨q,hq⟩:∃q:Nat,q=7 - k:=⟨_,rfl⟩
      have hqi:(7 - (k:Int))=(q:Int):=by omega
      have hq7:q≤7:=by omega
      have HQ:=hH (aN hq (aN hlt hqi))
      rw[hqi]
      clear hq hqi hlt hk
      go_wp2_with (at_builtin;refine jb rfl (.tmp 14) (.tmp 22) 45 rfl w.heap.size i0 Tryz.underlying45 HI.out.1 HI.out.2.1 HI.out.2.2.1 HI.out.2.2.2 _ (bs++(zq n).take k).length ((bs++(zq n).take k).map cell) rfl w wr (IntKind.u64.wrap n / 2 ^ (8*q) % 256) HV.out _ rfl rfl (by have:=HQ.out.2.1;have:=HL.out;simp only[LlaQ,List.length_take,zH];omega) ?_;intro v' w1 ho;have HO2:=hH ho;clear ho)
      refine⟨⟨k+1,by have:=HQ.out.2.1;omega,by have:=HQ.out.2.2;congr 1;omega,?_⟩,by first | (simp[intOf];done) | (simp[intOf];omega)⟩
      have h1:=QK bs n k HQ.out.2.1
      have h2:=HO2.out
      rw[zbV n q hq7,show 8*q=56 - 8*k by have:=HQ.out.1;have:=HQ.out.2.1;omega] at h2
      show vw w.heap.size v' (bs++(zq n).take (k+1)).length ((bs++(zq n).take (k+1)).map cell) w w1
      rw[h1.1,h1.2]
      exact h2
    · have hk8:k=8:=by omega
      subst hk8
      have hi8:(7 - ((8:Nat):Int))= -1:=by omega
      exact sh4
theorem zbA (w:World)(a:Option Addr)(cap:Nat)(bs:List UInt8)(s:ByteArray)(h:yt w a bs)(hl:bs.length+s.size+8≤1000000000000):
 Calls Tryz.prog 117 #[.slice a bs.length cap,.string s] w (Yp w.heap.size (bs++(zq (s.size:Int)++s.data.toList)) w):=by
 have HN:=hH (ZC w a cap bs (s.size:Int) h om)
 obtain⟨i0,hi,hz,hsz,hby⟩:=ZR Tryz.QF
 have HI:=hH (aN hi (aN hz (aN hsz hby)))
 have HL:=hH hl
 clear h hi hz hsz hby hl
 go_enter Tryz.func117,Tryz.ntmps117
 go_wp2_with (first
  | (go_at_call 72;refine HN.out.mono ?_;clear HN;rintro e w1 ⟨v1,rfl,h1⟩;have H1:=hH h1;clear h1)
  | (at_builtin;refine YY rfl (.tmp 8) (.tmp 9) 45 9 rfl w.heap.size i0 Tryz.underlying45 Tryz.underlying9 HI.out.1 HI.out.2.1 HI.out.2.2.1 HI.out.2.2.2 _ (bs++zq (s.size:Int)).length ((bs++zq (s.size:Int)).map cell) rfl w H1.out s rfl (by have:=HL.out;simp only[LlaQ,zH];omega) ?_;intro v' w2 ho;have HO:=hH ho;clear ho))
 go_ret
 refine⟨_,rfl,?_⟩
 have h2:=HO.out
 have e1:(bs++(zq (s.size:Int)++s.data.toList)).length=(bs++zq (s.size:Int)).length+s.size:=by
  have:s.data.toList.length=s.size:=by simp
  simp[this];omega
 have e2:(bs++(zq (s.size:Int)++s.data.toList)).map cell=(bs++zq (s.size:Int)).map cell++Lib.strCells s:=by
  rw[←List.append_assoc,List.map_append (l₁:=bs++_)];rfl
 show vw w.heap.size _ (bs++(zq (s.size:Int)++s.data.toList)).length ((bs++(zq (s.size:Int)++s.data.toList)).map cell) w _
 rw[e1,e2]
 exact h2
end Go.Proofs.YtoidedomenkbpaaGreat
