/-
  .
-/
import Derived.Test.YtgkmmnihaiopaaaGreatECountNQu
import Derived.Test.YtgkmmnihaiopaaaGreatRGreatXQu
import Derived.Deep.Cut
import Derived.Deep.AppendLies
import Derived.Test.YtgkmmnihaiopaaaGreatJPgQu
import Derived.Test.YtgkmmnihaiopaaaGreatJPsQu
set_option maxRecDepth 100000
set_option maxHeartbeats 40000000
set_option linter.unusedVariables false
set_option linter.unusedSimpArgs false
namespace Go.Proofs.YtgkmmnihaiopaaaGreat
open Go.RowKit
def fpi (id:Int):Nat→Fo→Option (List Nat)
 | _,.nil=>none
 | i,.node _ _ k l r=>if k.1=id then some [i] else match fpi id 0 l with
   | some p=>some (i::p)
   | none=>fpi id (i+1) r
def zx (id:Int) (t:Tr):Option (List Nat):=if t.id=id then some [] else fpi id 0 t.kids
def yO:Fo→Option Tr
 | .nil=>none
 | .node _ _ k l _=>some ⟨k.1,k.2.1,k.2.2,l⟩
def zB (f:Fo) (j:Nat):Option Tr:=yO (zq j f)
def atT:Tr→List Nat→Option Tr
 | t,[]=>some t
 | t,i::p=>match zB t.kids i with
   | none=>none
   | some u=>atT u p
theorem zbH {f:Fo} {j:Nat} (h:j<foLen f):∃b o k l r,zq j f= .node b o k l r∧zB f j=some ⟨k.1,k.2.1,k.2.2,l⟩∧zq (j+1) f=r:=by
 obtain⟨b,o,k,l,r,h1,h2,_⟩:=zS j f h
 exact⟨b,o,k,l,r,h1,by rw[zB,h1];rfl,h2⟩
theorem zbG {f:Fo} {j:Nat} (h:foLen f≤j):zB f j=none:=by rw[zB,qF j f h];rfl
theorem yZ {f:Fo} {j:Nat} {u:Tr} (h:zB f j=some u):j<foLen f:=by
 rcases Nat.lt_or_ge j (foLen f) with h1 | h1
 · exact h1
 · rw[zbG h1] at h;cases h
theorem JU {id:Int} {f:Fo} {j:Nat} (h:j<foLen f):∀{u:Tr},zB f j=some u→fpi id j (zq j f)=if u.id=id then some [j] else match fpi id 0 u.kids with
 | some p=>some (j::p)
 | none=>fpi id (j+1) (zq (j+1) f):=by
 intro u hu
 obtain⟨b,o,k,l,r,h1,h2,h3⟩:=zbH h
 rw[h2] at hu;cases hu
 rw[h1,h3];rfl
theorem qC (f:Fo):zq 0 f=f:=by cases f<;>rfl
structure Fr where
 a:Option Addr
 cap:Nat
 f:Fo
 p:Int
def Fr.cells (x:Fr):List Value:=[.slice x.a (foLen x.f) x.cap,.int .i64 x.p]
def Fr.nx (x:Fr):Nat:=(x.p+1).toNat
def places (L:List Fr):List Nat:=L.reverse.map fun x=>x.p.toNat
def yG:List Fr→List Fr
 | []=>[]
 | x::r=>if x.p+1<(foLen x.f:Int) then ⟨x.a,x.cap,x.f,x.p+1⟩::r else yG r
def zav (id:Int):List Fr→Option (List Nat)
 | []=>none
 | x ::r=>match fpi id x.nx (zq x.nx x.f) with
   | some q=>some (places r++q)
   | none=>zav id r
def zff (id:Int):List Fr→Option (List Nat)
 | []=>none
 | x ::r=>match fpi id x.p.toNat (zq x.p.toNat x.f) with
   | some q=>some (places r++q)
   | none=>zav id r
def Y4:List Fr→Nat
 | []=>0
 | x::r=>zg (zq x.nx x.f)+Y4 r
def qO (root:Fo):List Fr→Prop
 | []=>True
 | [x]=>x.f=root
 | x::y::r=>(0≤y.p∧∃u,zB y.f y.p.toNat=some u∧x.f=u.kids)∧qO root (y::r)
def Fr.ok (x:Fr):Prop:=0≤x.p∧x.p<(foLen x.f:Int)
theorem qO.tail {root:Fo} {x:Fr} {r:List Fr} (h:qO root (x::r)):qO root r:=by
 cases r with
 | nil=>trivial
 | cons y r=>exact h.2
theorem Qy (id:Int):∀L:List Fr,(∀x∈L, -1≤x.p)→zff id (yG L)=zav id L
 | [],_=>rfl
 | x ::r,h=>by
   have hx:=h x sp1
   by_cases hl:x.p+1<(foLen x.f:Int)
   · rw[yG,if_pos hl];rfl
   · rw[yG,if_neg hl,Qy id r (fun y hy=>h y (by simp[hy])),zav]
     rw[qF x.nx x.f (by unfold Fr.nx;omega)];rfl
theorem QU {root:Fo}:∀L:List Fr,qO root L→qO root (yG L)
 | [],_=>trivial
 | x ::r,h=>by
   by_cases hl:x.p+1<(foLen x.f:Int)
   · rw[yG,if_pos hl]
     cases r with
     | nil=>exact h
     | cons y r=>exact h
   · rw[yG,if_neg hl];exact QU r h.tail
theorem zcQ:∀L:List Fr,(∀x∈L, -1≤x.p)→(∀x∈L.tail,x.ok)→∀x∈yG L,x.ok
 | [],_,_,_,h=>by cases h
 | x ::r,h1,h2,y,hy=>by
   by_cases hl:x.p+1<(foLen x.f:Int)
   · rw[yG,if_pos hl] at hy
     rcases List.mem_cons.1 hy with rfl | hy
     · exact⟨by have:=h1 x sp1;simp only;omega,hl⟩
     · exact h2 y hy
   · rw[yG,if_neg hl] at hy
     exact zcQ r (fun z hz=>h1 z (by simp[hz])) (fun z hz=>h2 z (List.mem_of_mem_tail hz)) y hy
theorem za5 (P:Option Addr→Nat→Fo→Prop):∀L:List Fr,(∀x∈L,P x.a x.cap x.f)→∀x∈yG L,P x.a x.cap x.f
 | [],_,_,h=>by cases h
 | x ::r,h,y,hy=>by
   by_cases hl:x.p+1<(foLen x.f:Int)
   · rw[yG,if_pos hl] at hy
     rcases List.mem_cons.1 hy with rfl | hy
     · exact h x sp1
     · exact h y (by simp[hy])
   · rw[yG,if_neg hl] at hy
     exact za5 P r (fun z hz=>h z (by simp[hz])) y hy
theorem Y8:∀L:List Fr,(yG L).length≤L.length
 | []=>Nat.le_refl _
 | x ::r=>by
   by_cases hl:x.p+1<(foLen x.f:Int)
   · rw[yG,if_pos hl];simp
   · rw[yG,if_neg hl];have:=Y8 r;simp;omega
theorem ZG {f:Fo} {j:Nat} {u:Tr} (h:zB f j=some u):zg (zq j f)=zg u.kids+zg (zq (j+1) f)+1:=by
 obtain⟨b,o,k,l,r,h1,h2,h3⟩:=zbH (yZ h)
 rw[h2] at h;cases h
 rw[h1,h3];simp[zg]
def jl:List Fr→Nat
 | []=>0
 | x::r=>zg (zq x.p.toNat x.f)+Y4 r
theorem YC:∀L:List Fr,(∀x∈L, -1≤x.p)→jl (yG L)≤Y4 L
 | [],_=>Nat.le_refl _
 | x ::r,h=>by
   have hx:=h x sp1
   by_cases hl:x.p+1<(foLen x.f:Int)
   · rw[yG,if_pos hl]
     simp only[jl,Y4,Fr.nx]
     exact Nat.le_refl _
   · rw[yG,if_neg hl]
     have h1:=YC r (fun z hz=>h z (by simp[hz]))
     rw[Y4];omega
theorem zah {x:Fr} {r:List Fr} {u:Tr} {a:Option Addr} {c:Nat} (hx:x.ok) (hu:zB x.f x.p.toNat=some u):Y4 (⟨a,c,u.kids, -1⟩::x::r)+1=jl (x::r):=by
 have h1:=ZG hu
 have h2:x.nx=x.p.toNat+1:=by unfold Fr.nx;have:=hx.1;omega
 have h3:(Fr.mk a c u.kids (-1)).nx=0:=by unfold Fr.nx;simp
 simp only[jl,Y4,h2,h3,qC];omega
theorem zgP {id:Int} {x:Fr} {r:List Fr} {u:Tr} (hx:x.ok) (hu:zB x.f x.p.toNat=some u) (hid:u.id=id):zff id (x::r)=some (places (x::r)):=by
 rw[zff,JU (yZ hu) hu,if_pos hid]
 simp[places]
theorem zi1 {id:Int} {x:Fr} {r:List Fr} {u:Tr} {a:Option Addr} {c:Nat} (hx:x.ok) (hu:zB x.f x.p.toNat=some u) (hid:¬u.id=id):zff id (x::r)=zav id (⟨a,c,u.kids, -1⟩::x::r):=by
 rw[zff,JU (yZ hu) hu,if_neg hid]
 have h2:x.nx=x.p.toNat+1:=by unfold Fr.nx;have:=hx.1;omega
 have h3:(Fr.mk a c u.kids (-1)).nx=0:=by unfold Fr.nx;simp
 simp only[zav,h2,h3,qC]
 cases h:fpi id 0 u.kids with
 | none=>rfl
 | some p=>simp[places]
theorem zcj {t:Tr} {b o:Nat}:∀(L:List Fr),qO (.node b o (t.id,t.kind,t.text) t.kids .nil) L→(∀x∈L,x.ok)→∀x r,L=x::r→∃p u,places L=0::p∧atT t p=some u∧zB x.f x.p.toNat=some u
 | [x],h,hok,_,_,rfl=>by
   simp only[qO] at h
   have h1:=hok x sp1
   rw[Fr.ok,h] at h1
   simp only[foLen] at h1
   have h2:x.p=0:=by omega
   exact⟨[],t,by simp[places,h2],rfl,by rw[h,h2];rfl⟩
 | x :: y ::r,h,hok,_,_,rfl=>by
   obtain⟨p,u,h1,h2,h3⟩:=zcj (y::r) h.2 (fun z hz=>hok z (by simp[hz])) y r rfl
   obtain⟨v,h4,h5⟩:=h.1.2
   rw[h3] at h4;cases h4
   have h6:=hok x sp1
   obtain⟨b',o',k,l,q,h7,h8,_⟩:=zbH (f:=x.f) (j:=x.p.toNat) (by have:=h6.1;have:=h6.2;omega)
   refine⟨p++[x.p.toNat],_,?_,?_,h8⟩
   · rw[places,List.reverse_cons,List.map_append]
     have h9:=h1
     rw[places] at h9
     rw[h9];rfl
   · have e:∀(p:List Nat) (t:Tr) (u:Tr) (j:Nat),atT t p=some u→atT t (p++[j])=zB u.kids j:=by
      intro p
      induction p with
      | nil=>intro t u j h;cases h;simp[atT];cases zB t.kids j<;>rfl
      | cons i p ih=>
        intro t u j h
        simp only[List.cons_append,atT] at h ⊢
        cases hk:zB t.kids i with
        | none=>rw[hk] at h;cases h
        | some v=>rw[hk] at h;simp only at h ⊢;exact ih v u j h
     rw[e p t u _ h2,←h5];exact h8
end Go.Proofs.YtgkmmnihaiopaaaGreat
namespace Go.Proofs.YtgkmmnihaiopaaaGreat
open Go.RowKit Go.Shelf
theorem zeB:∀(f:Fo) {w:World} {S:Nat→Prop} {b off:Nat},zu w S f (some ⟨b,off,none⟩)→∃xs,yF w S f xs∧xs.length=foLen f*4∧(∀j u,xs[j]? =some u→w.cell? ⟨b,off+j,none⟩=some u)∧∀u∈xs,u.oneCell'=true
 | .nil,_,_,_,_,_=>⟨[],rfl,rfl,fun _ _ h=>by simp at h,fun _ h=>by cases h⟩
 | .node _ _ k l r,w,S,b,off,h=>by
   obtain⟨b',off',ka,kc,e,hb,c0,c1,c2,c3,hcp,hkl,hr⟩:=h
   cases e
   obtain⟨ys,h1,h2,h3,h4⟩:=zeB r hr
   exact sc4
theorem zcw (f:Fo) {w:World} {S:Nat→Prop} {a:Option Addr} (h:zu w S f a):∃xs,yF w S f xs∧xs.length=foLen f*4∧(∀ad,a=some ad→∀j u,xs[j]? =some u→w.cell? (ad.add j)=some u)∧(∀u∈xs,u.oneCell'=true):=by
 cases f with
 | nil=>exact⟨[],rfl,rfl,fun _ _ _ _ h=>by simp at h,fun _ h=>by cases h⟩
 | node b0 o0 k l r=>
   have h':=h
   obtain⟨b',off',ka,kc,e,_⟩:=h'
   subst e
   obtain⟨xs,h1,h2,h3,h4⟩:=zeB _ h
   exact⟨xs,h1,h2,fun ad hd j u hu=>by cases hd;rw[Addr.add_mid];exact h3 j u hu,h4⟩
theorem zy {P:Program} {fn:Func} {p u:Tmp} {ty:TypeId} (h:fn.results= #[.cell p ty,.tmp u]) (tmps:Array Value) (w:World) (g:Nat) (t:TypeId) (cs:Array Value) (fr:Nat×Nat) (d:TypeDesc) (x:Value)
 (hp:tmps.getD p undef= .pointer (some ⟨g,0,none⟩)) (hg:w.heap[g]? =some (.cells cs t fr)) (hu:P.underlying ty=some d) (hd:(match d with | .struct _ | .array _ _=>true | _=>false)=true) (hi:(P.info? ty).map (·.size)=some cs.size) (hp2:tmps.getD u undef=x):
 (results fn tmps).run P w= .ok (.tuple #[.agg cs,x]) w:=by
 exact sf7
theorem Qs {V:World} {R1:Nat} {c0 c1 c2 c3 u0 u1 u2 u3:Value} (h2:V.heap[R1]? =some (.cells #[c0,c1,c2,c3] 27 (0,0))):
 ∃V5,V5=((((V.setCell ⟨R1,0,none⟩ u0).setCell ⟨R1,1,none⟩ u1).setCell ⟨R1,2,none⟩ u2).setCell ⟨R1,3,none⟩ u3)∧V5.heap[R1]? =some (.cells #[u0,u1,u2,u3] 27 (0,0))∧(∀y,y≠R1→V5.heap[y]? =V.heap[y]?)∧V5.os=V.os∧V5.tape=V.tape∧V5.output=V.output∧V5.heap.size=V.heap.size:=by
 exact sd7
def YF (id:Int) (t:Tr) (i:Nat):Fo→Option (Tr×Nat)
 | .nil=>none
 | .node x y k l r=>if k.1=id then some (t,i) else match YF id ⟨k.1,k.2.1,k.2.2,l⟩ 0 l with
   | some z=>some z
   | none=>YF id t (i+1) r
def QC (id:Int) (t:Tr):Option (Tr×Nat):=YF id t 0 t.kids
theorem jI {P:Program} {fn:Func} {p u s:Tmp} {ty:TypeId} (h:fn.results= #[.cell p ty,.tmp u,.tmp s]) (tmps:Array Value) (w:World) (g:Nat) (t:TypeId) (cs:Array Value) (fr:Nat×Nat) (d:TypeDesc) (x y:Value)
 (hp:tmps.getD p undef= .pointer (some ⟨g,0,none⟩)) (hg:w.heap[g]? =some (.cells cs t fr)) (hu:P.underlying ty=some d) (hd:(match d with | .struct _ | .array _ _=>true | _=>false)=true) (hi:(P.info? ty).map (·.size)=some cs.size) (hp2:tmps.getD u undef=x) (hp3:tmps.getD s undef=y):
 (results fn tmps).run P w= .ok (.tuple #[.agg cs,x,y]) w:=by
 have hp' :tmps[p]?.getD undef= .pointer (some ⟨g,0,none⟩):=by simpa using hp
 have hp2' :tmps[u]?.getD undef=x:=by simpa using hp2
 have hp3' :tmps[s]?.getD undef=y:=by simpa using hp3
 simp[results,h,hp',hp2',hp3',asAddr,run_loadVar_row w g t ty cs fr d hg hu hd hi]
theorem zD {w:World} {b:Nat} {c0 c1 c2 c3:Value} {T:TypeId} (h:w.heap[b]? =some (.cells #[c0,c1,c2,c3] T (0,0))):w.cell? ⟨b,0,none⟩=some c0∧w.cell? ⟨b,1,none⟩=some c1∧w.cell? ⟨b,2,none⟩=some c2∧w.cell? ⟨b,3,none⟩=some c3:=
 ⟨by rw[corQ _ _ 0 _ _ _ h];rfl,by rw[corQ _ _ 1 _ _ _ h];rfl,by rw[corQ _ _ 2 _ _ _ h];rfl,by rw[corQ _ _ 3 _ _ _ h];rfl⟩
def zjM (id:Int) (t:Tr) (S:Nat→Prop) (w:World) (e:Ending) (w' :World):Prop:=∃(z:Tr) (k:Nat) (b:Bool) (pa:Option Addr) (pn pc:Nat),e= .returned (.tuple #[.agg #[.int .i64 z.id,.int .i64 z.kind,.string z.text,.slice pa pn pc],.int .i64 (k:Int),.bool b])∧(b=true→QC id t=some (z,k)∧pn=foLen z.kids∧foLen z.kids≤pc∧zu w' S z.kids pa)∧(b=false→QC id t=none)∧Below w.heap.size w w'
theorem zfM {id:Int} {t:Tr} {f:Fo} {j x y:Nat} {k:Int×Int×ByteArray} {l r:Fo} (hd:zq j f= .node x y k l r) (hr:zq (j+1) f=r):YF id t j (zq j f)=if k.1=id then some (t,j) else match QC id ⟨k.1,k.2.1,k.2.2,l⟩ with
 | some z=>some z
 | none=>YF id t (j+1) (zq (j+1) f):=by
 rw[hd,YF,hr];rfl
def zgv (w:World) (t:Tr) (id:Int) (cs zs:Array Value) (k:Nat) (wr:World):Prop:=QC id t=YF id t k (zq k t.kids)∧wr.heap[w.heap.size]? =some (.cells cs 27 (0,0))∧wr.heap[w.heap.size+1]? =some (.cells zs 27 (0,0))∧Below w.heap.size w wr∧w.heap.size+2≤wr.heap.size
theorem zbR {w wo V:World} (h:Below w.heap.size w wo) (v2:∀y,y≠w.heap.size+1→V.heap[y]? =wo.heap[y]?) (v3:V.os=wo.os) (v4:V.tape=wo.tape) (v5:V.output=wo.output) (v6:V.heap.size=wo.heap.size):Below w.heap.size w V:=
 ⟨v3.trans h.os,v4.trans h.tape,v5.trans h.output,by rw[v6];exact h.size,fun y hy=>(v2 y om).trans (h.block y hy)⟩
theorem zda :∀(M:Nat) (w:World) (S:Nat→Prop) (v:Value) (t:Tr) (id:Int),zg t.kids<M→M≤500000→(∀k,S k→k<w.heap.size)→zJ w S v t→
 Calls Tryz.prog 52 #[v,.int .i64 id] w (zjM id t S w):=by
 intro M
 induction M with
 | zero=>intro w S v t id h;omega
 | succ M ih=>
   intro w S v t id hM hMb hS hv
   obtain⟨ka,cap,rfl,hcap,hk⟩:=hv
   obtain⟨tid,tk,tx,ks⟩:=t
   simp only at hM hcap hk ⊢
   obtain⟨len,hlen⟩:∃len,len=foLen ks:=⟨_,rfl⟩
   rw[←hlen] at hcap ⊢
   have hl5:len≤500000:=by have:=zK ks;omega
   obtain⟨B,hB⟩:∃B,B=zt w [.cells #[.int .i64 tid,.int .i64 tk,.string tx,.slice ka len cap] 27,.cells #[.int .i64 0,.int .i64 0,.string ⟨#[]⟩,.slice none 0 0] 27]:=⟨_,rfl⟩
   have HST:Hid (zgv w ⟨tid,tk,tx,ks⟩ id #[.int .i64 tid,.int .i64 tk,.string tx,.slice ka len cap] #[.int .i64 0,.int .i64 0,.string ⟨#[]⟩,.slice none 0 0] 0 B):=hH ⟨by rw[qC];rfl,by rw[hB];exact zi _ _ 0 _ rfl,by rw[hB];exact zi _ _ 1 _ rfl,by rw[hB];exact zm _ _,by rw[hB,zC];exact Nat.le_refl _⟩
   have HH:=hH (aN hk (aN hS (aN hlen (aN hM (aN hMb hcap)))))
   have HIH:=hH ih
   have HBE:=hH hB
   clear ih hk hS hlen hM hMb hB
   go_enter Tryz.func52,Tryz.ntmps52
   go_upto_region 1 with fail
   change Code.wp _ _ _ _ (zt w [.cells #[.int .i64 tid,.int .i64 tk,.string tx,.slice ka len cap] 27,.cells #[.int .i64 0,.int .i64 0,.string ⟨#[]⟩,.slice none 0 0] 27])
   rw[←HBE.out]
   clear HBE
   go_wp2_with fail
   go_loopw [7] (fun i wr=>∃k:Nat,k≤len∧i= .int .i64 (k:Int)∧Hid (zgv w ⟨tid,tk,tx,ks⟩ id #[.int .i64 tid,.int .i64 tk,.string tx,.slice ka len cap] #[.int .i64 0,.int .i64 0,.string ⟨#[]⟩,.slice none 0 0] k wr)) (fun i _=>len - (intOf i).toNat)
   case atStart=>exact⟨0,Nat.zero_le _,rfl,HST⟩
   case round=>
    obtain⟨k,hk,rfl,hh⟩:=hrel
    obtain⟨wo,hwo⟩:∃wo,wo=wr:=⟨_,rfl⟩
    subst hwo
    clear HST
    have hbx:=hh.out.2.1
    obtain⟨p0,p1,p2,p3⟩:=zD hbx
    by_cases hlt:k<len
    · have hki:(k:Int)<(len:Int):=by omega
      have hk1:zu wo S ks ka:=HH.out.1.below hh.out.2.2.2.1 HH.out.2.1
      obtain⟨x,y,⟨ki,kk,kt⟩,l,r,hd,b,off,ka2,kc2,rfl,hSb,c0,c1,c2,c3,hc2,hl2⟩:=hk1.at k (by rw[←HH.out.2.2.1];exact hlt)
      have hsz:=zS k ks (by rw[←HH.out.2.2.1];exact hlt)
      obtain⟨_,_,_,_,_,e1,hdr,hsz,_⟩:=hsz
      rw[hd] at e1;cases e1
      have hstep:=zfM (id:=id) (t:=⟨tid,tk,tx,ks⟩) hd hdr
      have HI:=hH (aN hh.out hstep)
      have HLT:=hH hlt
      have hzb:=hh.out.2.2.1
      obtain⟨z0,z1,z2,z3⟩:=zD hzb
      have zf:∀j,wo.frozen? ⟨w.heap.size+1,j,none⟩=false:=fun j=>forQ _ _ j _ _ hzb
      by_cases hid:ki=id
      · have hbi:(ki == id)=true:=by simpa using hid
        have HR:=hH (show QC id ⟨tid,tk,tx,ks⟩=some (⟨tid,tk,tx,ks⟩,k) by rw[HI.out.1.1,hstep,if_pos hid])
        obtain⟨V,hV,v1,v2,v3,v4,v5,v6⟩:=Qs (u0:= .int .i64 tid) (u1:= .int .i64 tk) (u2:= .string tx) (u3:= .slice (some ⟨b,off,none⟩) len cap) hzb
        have HV:=hH (aN hV v1)
        have HB:=hH (show Below w.heap.size w V from zbR HI.out.1.2.2.2.1 v2 v3 v4 v5 v6)
        have HK:=hH (HH.out.1.below HB.out HH.out.2.1)
        clear hk1 hd hdr hsz hstep hlt hh hk hbx hl2 hc2 hSb hV v1 v2 v3 v4 v5 v6 hzb hid
        go_wp2_with fail
        rw[←HV.out.1]
        refine brQ (jI rfl _ _ (w.heap.size+1) 27 _ (0,0) _ (.int .i64 (k:Int)) (.bool true) rfl HV.out.2 Tryz.underlying27 rfl kr1 rfl rfl) rfl ?_
        exact⟨⟨tid,tk,tx,ks⟩,k,true,some ⟨b,off,none⟩,len,cap,rfl,fun _=>⟨HR.out,HH.out.2.2.1,by have:=HH.out.2.2.2.2.2;rw[HH.out.2.2.1] at this;exact this,HK.out⟩,(fun h=>by cases h),HB.out⟩
      · have hbi:(ki == id)=false:=by simpa using hid
        have hcall:=HIH.out wo S (.agg #[.int .i64 ki,.int .i64 kk,.string kt,.slice ka2 (foLen l) kc2]) ⟨ki,kk,kt,l⟩ id (by have:=HH.out.2.2.2.1;simp only;omega) (by have:=HH.out.2.2.2.2.1;omega) (fun x hx=>nL (HH.out.2.1 x hx) hh.out.2.2.2.1.size) ⟨ka2,kc2,rfl,hc2,hl2⟩
        obtain⟨n2,hn2⟩:∃n2,n2=foLen l:=⟨_,rfl⟩
        rw[←hn2] at hcall c3
        simp only at c0 c1 c2
        have HC:=hH hcall
        rw[if_neg hid] at hstep
        have HS2:=hH hstep
        clear hk1 hd hdr hsz hstep hlt hh hk hbx hl2 hc2 hSb hzb hid hcall hn2 z0 z1 z2 z3 zf
        go_wp2_with fail
        refine HC.out.mono ?_
        rintro e w2 ⟨z,m,bb,pa,pn,pc,rfl,h1,h0,hb2⟩
        obtain⟨W3,hW3⟩:∃W3,W3=w2.alloc (.cells #[.int .i64 z.id,.int .i64 z.kind,.string z.text,.slice pa pn pc] 27):=⟨_,rfl⟩
        have hb3:Below wo.heap.size wo W3:=by rw[hW3];exact hb2.alloc hb2.size _
        have hbw3:=HI.out.1.2.2.2.1.trans (hb3.mono HI.out.1.2.2.2.1.size)
        have hbw2:=HI.out.1.2.2.2.1.trans (hb2.mono HI.out.1.2.2.2.1.size)
        have e1:=(hb3.block _ (lohQ HI.out.1.2.1)).trans HI.out.1.2.1
        have e2:=(hb3.block _ (lohQ HI.out.1.2.2.1)).trans HI.out.1.2.2.1
        have e8:W3.heap[w2.heap.size]? =some (.cells #[.int .i64 z.id,.int .i64 z.kind,.string z.text,.slice pa pn pc] 27 (0,0)):=by rw[hW3];exact hanQ _ _
        have hsz3:w.heap.size+2≤W3.heap.size:=Nat.le_trans HI.out.1.2.2.2.2 hb3.size
        have HW3:=hH hW3
        have HA:=hH (aN h1 h0)
        have HE:=hH (aN e1 (aN e2 (aN hbw3 (aN hsz3 hbw2))))
        obtain⟨G,hG⟩:∃G,G=w2.heap.size:=⟨_,rfl⟩
        clear hb2 hb3 hW3 h1 h0 hbw3 hbw2 hsz3 HC p0 p1 p2 p3 c0 c1 c2 c3
        go_upto_region 7 with fail
        change Code.wp _ _ _ _ (w2.alloc (.cells #[.int .i64 z.id,.int .i64 z.kind,.string z.text,.slice pa pn pc] 27))
        rw[←HW3.out,←hG]
        rw[←hG] at e8
        clear HW3 hG
        obtain⟨x0,x1,x2,x3⟩:=zD e8
        obtain⟨z0,z1,z2,z3⟩:=zD e2
        have zf:∀j,W3.frozen? ⟨w.heap.size+1,j,none⟩=false:=fun j=>forQ _ _ j _ _ e2
        cases bb
        · have HN:=hH (show zgv w ⟨tid,tk,tx,ks⟩ id _ _ (k+1) W3 from⟨by rw[HI.out.1.1,HS2.out,HA.out.2 rfl],HE.out.1,HE.out.2.1,HE.out.2.2.1,HE.out.2.2.2.1⟩)
          clear e1 e2 e8 x0 x1 x2 x3 z0 z1 z2 z3 zf
          go_wp2_with fail
          exact⟨⟨k+1,by have:=HLT.out;omega,by go_num,HN⟩,by have:=HLT.out;simp[intOf];omega⟩
        · obtain⟨h1,h2,h3,h4⟩:=HA.out.1 rfl
          obtain⟨V,hV,v1,v2,v3,v4,v5,v6⟩:=Qs (u0:= .int .i64 z.id) (u1:= .int .i64 z.kind) (u2:= .string z.text) (u3:= .slice pa pn pc) e2
          have HV:=hH (aN hV v1)
          have HB:=hH (show Below w.heap.size w V from zbR HE.out.2.2.1 v2 v3 v4 v5 v6)
          have HR:=hH (aN (show QC id ⟨tid,tk,tx,ks⟩=some (z,m) by rw[HI.out.1.1,HS2.out,h1]) (aN h2 (aN h3 (h4.kept fun q hq=>⟨hq,(HB.out.block q (HH.out.2.1 q hq)).trans (HE.out.2.2.2.2.block q (HH.out.2.1 q hq)).symm⟩))))
          clear e1 e2 e8 hV v1 v2 v3 v4 v5 v6 h1 h2 h3 h4
          go_wp2_with fail
          rw[←HV.out.1]
          refine brQ (jI rfl _ _ (w.heap.size+1) 27 _ (0,0) _ (.int .i64 (m:Int)) (.bool true) rfl HV.out.2 Tryz.underlying27 rfl kr1 rfl rfl) rfl ?_
          exact⟨z,m,true,pa,pn,pc,rfl,fun _=>HR.out,(fun h=>by cases h),HB.out⟩
    · have hki:¬(k:Int)<(len:Int):=by omega
      have HN:=hH (show QC id ⟨tid,tk,tx,ks⟩=none by rw[hh.out.1];rw[qF k ks (by rw[←HH.out.2.2.1];omega)];rfl)
      have hzb:=hh.out.2.2.1
      have HB0:=hH hh.out.2.2.2.1
      obtain⟨z0,z1,z2,z3⟩:=zD hzb
      have zf:∀j,wo.frozen? ⟨w.heap.size+1,j,none⟩=false:=fun j=>forQ _ _ j _ _ hzb
      obtain⟨V,hV,v1,v2,v3,v4,v5,v6⟩:=Qs (u0:= .int .i64 0) (u1:= .int .i64 0) (u2:= .string ⟨#[]⟩) (u3:= .slice none 0 0) hzb
      have HV:=hH (aN hV v1)
      have HB:=hH (show Below w.heap.size w V from zbR HB0.out v2 v3 v4 v5 v6)
      clear hh hlt hk hbx hzb hV v1 v2 v3 v4 v5 v6
      go_wp2_with fail
      rw[←HV.out.1]
      refine brQ (jI rfl _ _ (w.heap.size+1) 27 _ (0,0) _ (.int .i64 ((0:Nat):Int)) (.bool false) rfl HV.out.2 Tryz.underlying27 rfl kr1 rfl rfl) rfl ?_
      exact⟨⟨0,0,⟨#[]⟩,.nil⟩,0,false,none,0,0,rfl,(fun h=>by cases h),fun _=>HN.out,HB.out⟩
def Ya (w w' :World):Nat→Prop:=fun x=>w.heap.size≤x∧x<w'.heap.size
def Jp (t:Tr) (w:World) (e:Ending) (w' :World):Prop:=∃v,e= .returned v∧zJ w' (Ya w w') v t∧Below w.heap.size w w'
def jD (t:Tr) (w:World) (e:Ending) (w' :World):Prop:=∃ra rc xs,e= .returned (.agg #[.int .i64 t.id,.int .i64 t.kind,.string t.text,.slice ra (foLen t.kids) rc])∧foLen t.kids≤rc∧w'.ownsRow w.heap.size 27 4 (.slice ra (foLen t.kids) rc) (foLen t.kids) xs∧yF w' (fun x=>Ya w w' x∧(Value.slice ra (foLen t.kids) rc).ownBlock≠some x) t.kids xs∧Below w.heap.size w w'
theorem zbB {w' :World} {B n rc:Nat} {S:Nat→Prop} {ra:Option Addr} {ks:Fo} {xs:List Value} (hn:n=foLen ks) (h:w'.ownsRow B 27 4 (.slice ra n rc) n xs) (hr:yF w' S ks xs) (hg:∀x,(Value.slice ra n rc).ownBlock=some x→S x):zu w' S ks ra:=by
 cases hks:ks with
 | nil=>exact True.intro
 | node b o a l r=>
   rw[←hks]
   have hgg:∃g,ra=some ⟨g,0,none⟩:=by
    rcases h.2 with ⟨hv,h0⟩ | ⟨g,cap,cur,hv,_⟩
    · rw[hn,hks] at h0;simp[foLen] at h0
    · cases hv;exact⟨g,rfl⟩
   obtain⟨g,rfl⟩:=hgg
   refine hr.lies (hg g rfl) 0 fun j u hj=>?_
   rw[Nat.zero_add]
   exact zF h rfl j u hj
theorem jD.weak {t:Tr} {w:World} {e:Ending} {w' :World} (h:jD t w e w'):Jp t w e w':=by
 obtain⟨ra,rc,xs,rfl,hrc,ho,hr,hb⟩:=h
 exact⟨_,rfl,⟨ra,rc,rfl,hrc,zbB rfl ho (hr.kept fun x hx=>⟨hx.1,rfl⟩) (fun x hx=>zo ho hx)⟩,hb⟩
theorem zW {w:World} {b:Nat} {t:TypeId} {c0 c1 c2 c3:Value} (h:w.heap[b]? =some (.cells #[c0,c1,c2,c3] t (0,0))) (u0 u1 u2 u3:Value):
 ((((w.setCell ⟨b,0,none⟩ u0).setCell ⟨b,1,none⟩ u1).setCell ⟨b,2,none⟩ u2).setCell ⟨b,3,none⟩ u3).heap[b]? =some (.cells #[u0,u1,u2,u3] t (0,0))∧
 (∀B,B≤b→Below B w ((((w.setCell ⟨b,0,none⟩ u0).setCell ⟨b,1,none⟩ u1).setCell ⟨b,2,none⟩ u2).setCell ⟨b,3,none⟩ u3))∧
 ∀x,x≠b→((((w.setCell ⟨b,0,none⟩ u0).setCell ⟨b,1,none⟩ u1).setCell ⟨b,2,none⟩ u2).setCell ⟨b,3,none⟩ u3).heap[x]? =w.heap[x]?:=by
 have h0:=hssQ w b 0 _ _ u0 h
 have h1:=hssQ _ b 1 _ _ u1 h0
 have h2:=hssQ _ b 2 _ _ u2 h1
 have h3:=hssQ _ b 3 _ _ u3 h2
 exact⟨h3,fun B hB=>((((BrQ _ _).setCell hB _).setCell hB _).setCell hB _).setCell hB _,fun x hx=>by
  rw[BhsQ _ _ _ _ hx,BhsQ _ _ _ _ hx,BhsQ _ _ _ _ hx,BhsQ _ _ _ _ hx]⟩
theorem qV {w:World} {B:Nat} {e:TypeId} {size:Nat} {v:Value} {n:Nat} {xs:List Value} (h:w.ownsRow B e size v n xs):∃a cap,v= .slice a n cap∧n≤cap:=by
 rcases h.2 with ⟨hv,h0⟩ | ⟨g',cap,cur,hv,_,_,hc,_⟩
 · exact⟨none,0,by rw[hv,h0],by omega⟩
 · exact⟨_,_,hv,hc⟩
def zgu (w wr:World) (rv:Value):Nat→Prop:=fun x=>w.heap.size+3≤x∧x<wr.heap.size∧rv.ownBlock≠some x
def zR (w:World) (c1:Array Value) (id kd:Int) (tx:ByteArray) (ks:Fo) (k:Nat) (rv:Value) (xs:List Value) (wr:World):Prop:=
 wr.heap[w.heap.size]? =some (.cells c1 27 (0,0))∧wr.heap[w.heap.size+1]? =some (.cells #[.int .i64 0,.int .i64 0,.string ⟨#[]⟩,.slice none 0 0] 27 (0,0))∧
 wr.heap[w.heap.size+1+1]? =some (.cells #[.int .i64 id,.int .i64 kd,.string tx,rv] 27 (0,0))∧Below w.heap.size w wr∧
 wr.ownsRow (w.heap.size+3) 27 4 rv k xs∧yF wr (zgu w wr rv) (zz k ks) xs
def Jq (w:World) (c1:Array Value) (id kd:Int) (tx:ByteArray) (ks:Fo) (len:Nat) (i:Value) (wr:World):Prop:=
 ∃k rv xs,k≤len∧i= .int .i64 k∧zR w c1 id kd tx ks k rv xs wr
section
variable {w wr w2:World} {c1:Array Value} {id kd:Int} {tx:ByteArray} {ks:Fo} {k:Nat} {rv:Value} {xs:List Value}
theorem zR.start (w:World) (c1:Array Value) (id kd:Int) (tx:ByteArray) (ks:Fo):zR w c1 id kd tx ks 0 (.slice none 0 0) []
 (((w.alloc (.cells c1 27)).alloc (.cells #[.int .i64 0,.int .i64 0,.string ⟨#[]⟩,.slice none 0 0] 27)).alloc (.cells #[.int .i64 id,.int .i64 kd,.string tx,.slice none 0 0] 27)):=by
 refine⟨?_,?_,?_,?_,World.ownsRow_nil _ _ _ _,rfl⟩
 · rw[BhaQ _ _ _ (by simp;omega),BhaQ _ _ _ sp1];exact hanQ w _
 · rw[BhaQ _ _ _ sp1]
   have:=hanQ (w.alloc (.cells c1 27)) (.cells #[.int .i64 0,.int .i64 0,.string ⟨#[]⟩,.slice none 0 0] 27)
   simpa using this
 · have:=hanQ ((w.alloc (.cells c1 27)).alloc (.cells #[.int .i64 0,.int .i64 0,.string ⟨#[]⟩,.slice none 0 0] 27)) (.cells #[.int .i64 id,.int .i64 kd,.string tx,.slice none 0 0] 27)
   simpa using this
 · exact (((BrQ _ _).alloc (Nat.le_refl _) _).alloc sp1 _).alloc (by simp;omega) _
theorem zR.size (h:zR w c1 id kd tx ks k rv xs wr):w.heap.size+1+1<wr.heap.size:=lt_of_some h.2.2.1
theorem zR.below (h:zR w c1 id kd tx ks k rv xs wr) (hb:Below wr.heap.size wr w2):zR w c1 id kd tx ks k rv xs w2:=by
 have hs:=h.size
 obtain⟨h0,h1,h2,h3,h4,h5⟩:=h
 refine⟨(hb.block _ om).trans h0,(hb.block _ om).trans h1,(hb.block _ om).trans h2,h3.trans (hb.mono om),zI h4 (fun g cur hg _=>hb.block g (lt_of_some hg)),h5.kept fun x hx=>⟨⟨hx.1,nL hx.2.1 hb.size,hx.2.2⟩,hb.block x hx.2.1⟩⟩
theorem zR.kid (h:zR w c1 id kd tx ks k rv xs wr) {l:Fo} {ka:Option Addr} (hf:zu w2 (Ya wr w2) l ka):zu w2 (zgu w w2 rv) l ka:=hf.kept fun x hx=>by
 have hs:=h.size
 refine⟨⟨by have:=hx.1;omega,hx.2,fun e=>?_⟩,rfl⟩
 have:=(zo h.2.2.2.2.1 e).2
 have:=hx.1
 omega
theorem zR.step {w1:World} {o1 o2:Obj} {b o:Nat} {ki kk:Int} {kt:ByteArray} {l:Fo} {ka:Option Addr} {kc gg cap:Nat} (hkc:foLen l≤kc) (h:zR w c1 id kd tx ks k rv xs w2) (hl:zu w2 (zgu w w2 rv) l ka) (ht:zz (k+1) ks=qx (zz k ks) b o (ki,kk,kt) l)
 (hown:w1.ownsRow (w.heap.size+3) 27 4 (.slice (some ⟨gg,0,none⟩) (k+1) cap) (k+1) (xs++[.int .i64 ki,.int .i64 kk,.string kt,.slice ka (foLen l) kc]))
 (hgrow:((w2.alloc o1).alloc o2).grownBy w1 rv.ownBlock) (hat:rv.ownBlock=some gg∨gg=w2.heap.size+1+1):
 zR w c1 id kd tx ks (k+1) (.slice (some ⟨gg,0,none⟩) (k+1) cap) (xs++[.int .i64 ki,.int .i64 kk,.string kt,.slice ka (foLen l) kc]) (w1.setCell ⟨w.heap.size+1+1,3,none⟩ (.slice (some ⟨gg,0,none⟩) (k+1) cap)):=by
 have hs:=h.size
 obtain⟨h0,h1,h2,h3,h4,h5⟩:=h
 have hob:∀g,rv.ownBlock=some g→w.heap.size+3≤g∧g<w2.heap.size:=fun g hg=>zo h4 hg
 have old:∀x,x<w2.heap.size→rv.ownBlock≠some x→w1.heap[x]? =w2.heap[x]?:=fun x hx hn=>by
  rw[hgrow.block x (by simp;omega) (fun e=>hn e.symm),BhaQ _ _ _ (by simp;omega),BhaQ _ _ _ hx]
 have nob:∀x,x<w.heap.size+3→rv.ownBlock≠some x:=fun x hx e=>by have:=(hob x e).1;omega
 have hgs:w2.heap.size≤w1.heap.size:=by have:=hgrow.size;simp at this;omega
 have hgg:gg≠w.heap.size+1+1:=fun e=>by
  rcases hat with hat | hat
  · have:=(hob gg hat).1;omega
  · omega
 have hout:w1.heap[w.heap.size+1+1]? =some (.cells #[.int .i64 id,.int .i64 kd,.string tx,rv] 27 (0,0)):=(old _ hs (nob _ om)).trans h2
 have keep:∀x,x<w2.heap.size→rv.ownBlock≠some x→x≠w.heap.size+1+1→(w1.setCell ⟨w.heap.size+1+1,3,none⟩ (.slice (some ⟨gg,0,none⟩) (k+1) cap)).heap[x]? =w2.heap[x]?:=fun x hx hn hne=>by
  rw[BhsQ _ _ _ _ hne];exact old x hx hn
 have hmid:∀x,zgu w w2 rv x→zgu w (w1.setCell ⟨w.heap.size+1+1,3,none⟩ (.slice (some ⟨gg,0,none⟩) (k+1) cap)) (.slice (some ⟨gg,0,none⟩) (k+1) cap) x∧(w1.setCell ⟨w.heap.size+1+1,3,none⟩ (.slice (some ⟨gg,0,none⟩) (k+1) cap)).heap[x]? =w2.heap[x]?:=fun x hx=>by
  exact sf1
 refine⟨(keep _ om (nob _ om) om).trans h0,(keep _ om (nob _ om) om).trans h1,?_,?_,?_,?_⟩
 · rw[hssQ w1 _ 3 _ _ _ hout];rfl
 · have hB:Below w.heap.size w ((w2.alloc o1).alloc o2):=(h3.alloc om _).alloc (by simp;omega) _
   exact (hB.grown hgrow (by simp;omega) (fun g hg=>by have:=(hob g hg).1;omega)).setCell (by simp;omega) _
 · exact zI hown (fun g cur hg hgo=>BhsQ _ _ _ _ (fun e=>hgg (by cases hgo;exact e)))
 · rw[ht]
   exact (h5.kept hmid).snoc (hl.kept hmid) kc hkc
theorem zR.done {w' :World} {ra:Option Addr} {rcap:Nat} (h:zR w c1 id kd tx ks k (.slice ra k rcap) xs wr) (hk:k=foLen ks) (hrc:k≤rcap) (hb:Below w.heap.size wr w') (ho:∀x,x≠w.heap.size+1→w'.heap[x]? =wr.heap[x]?):
 jD ⟨id,kd,tx,ks⟩ w (.returned (.agg #[.int .i64 id,.int .i64 kd,.string tx,.slice ra k rcap])) w':=by
 obtain⟨_,_,_,h3,h4,h5⟩:=h
 rw[qg k ks om] at h5
 refine⟨ra,rcap,xs,by rw[←hk],by simp only;rw[←hk];exact hrc,?_,?_,h3.trans hb⟩
 · simp only;rw[←hk]
   have h6:=zI (w':=w') h4 (fun g cur hg hgo=>ho g (by have:=(zo h4 hgo).1;omega))
   exact⟨h6.1,h6.2.imp (fun h=>h) (fun ⟨g,cap,cur,e1,e2,e3⟩=>⟨g,cap,cur,e1,by omega,e3⟩)⟩
 · simp only;rw[←hk]
   exact h5.kept fun x hx=>⟨⟨⟨by have:=hx.1;omega,nL hx.2.1 hb.size⟩,hx.2.2⟩,ho x (by have:=hx.1;omega)⟩
end
theorem Ze:∀(n:Nat) (w:World) (S:Nat→Prop) (v:Value) (t:Tr),zg t.kids<n→zg t.kids≤1000000→(∀k,S k→k<w.heap.size)→zJ w S v t→
 Calls Tryz.prog 37 #[v] w (jD t w):=by
 intro n
 induction n with
 | zero=>intro w S v t h;omega
 | succ n ih=>
   intro w S v t hn hm hS hv
   obtain⟨ka,cap,rfl,hcp0,hk⟩:=hv
   obtain⟨id,kd,tx,ks⟩:=t
   simp only at hk hn hm
   simp only
   obtain⟨len,hlen⟩:∃len,len=foLen ks:=⟨_,rfl⟩
   rw[←hlen]
   have hlen6:len≤1000000:=by rw[hlen];exact Nat.le_trans (zK ks) hm
   have HN:=hH (aN hn hm)
   have HLEN:=hH hlen
   have HK:=hH hk
   clear hcp0
   have HSS:=hH hS
   have HIH:=hH ih
   clear hlen hk hn hm hS ih
   go_enter Tryz.func37,Tryz.ntmps37
   go_wp2_with fail
   go_loopw [4] (fun i wr=>Jq w #[.int .i64 id,.int .i64 kd,.string tx,.slice ka len cap] id kd tx ks len i wr) (fun i _=>len - (intOf i).toNat)
   case atStart=>exact⟨0,_,_,Nat.zero_le _,rfl,zR.start _ _ _ _ _ _⟩
   case round=>
    obtain⟨k,rv,xs,hk,rfl,hinv⟩:=hrel
    have p1:wr.cell? ⟨w.heap.size,3,none⟩=some (.slice ka len cap):=by rw[corQ wr _ 3 _ _ _ hinv.1];rfl
    have HI:=hH hinv
    clear hinv
    by_cases hlt:k<len
    · have hk1:=HK.out.below HI.out.2.2.2.1 HSS.out
      obtain⟨b0,o0,⟨ki,kk,kt⟩,l,r,hd1,b,off,a1,n1,rfl,hSb,c0,c1,c2,c3,hcp1,hl1⟩:=hk1.at k (by rw[←HLEN.out];exact hlt)
      obtain⟨_,_,_,_,_,e1,e2,hsz1,htk⟩:=zS k ks (by rw[←HLEN.out];exact hlt)
      rw[hd1] at e1;cases e1
      have hcall:=HIH.out wr S (.agg #[.int .i64 ki,.int .i64 kk,.string kt,.slice a1 (foLen l) n1]) ⟨ki,kk,kt,l⟩ (by have:=HN.out.1;simp only;omega) (by have:=HN.out.2;simp only;omega) (fun x hx=>nL (HSS.out x hx) HI.out.2.2.2.1.size) ⟨a1,n1,rfl,hcp1,hl1⟩
      obtain⟨m1,hm1⟩:∃m,m=foLen l:=⟨_,rfl⟩
      rw[←hm1] at hcall c3
      simp only at c0 c1 c2
      have HC:=hH hcall
      have HM1:=hH hm1
      have HTK:=hH htk
      have hkl:(k:Int)<(len:Int):=by omega
      clear hk1 hd1 hcall hm1 htk hl1 hsz1 hSb e2 hcp1
      go_wp2_with fail
      refine (HC.out.mono fun _ _ h=>jD.weak h).mono ?_
      rintro e w2 ⟨_,rfl,⟨ka2,cap2,rfl,hcp2,hf2⟩,hb2⟩
      have hi2:=HI.out.below hb2
      have hkid:=HI.out.kid hf2
      have hs2:=hi2.size
      have ho:=hi2.2.2.2.2.1
      simp only
      rw[←HM1.out]
      have d3:w2.cell? ⟨w.heap.size+1+1,3,none⟩=some rv:=by rw[corQ w2 _ 3 _ _ _ hi2.2.2.1];rfl
      have f3:w2.frozen? ⟨w.heap.size+1+1,3,none⟩=false:=forQ w2 _ 3 _ _ hi2.2.2.1
      obtain⟨i0,z0,hi0,hz0,hz1,hz2,hz3⟩:=yz Tryz.Yd
      have hnew:(((w2.alloc (.cells #[.int .i64 ki,.int .i64 kk,.string kt,.slice ka2 m1 cap2] 27)).alloc (.cells #[.int .i64 ki,.int .i64 kk,.string kt,.slice ka2 m1 cap2] 27)).heap[w2.heap.size+1]? =some (.cells #[.int .i64 ki,.int .i64 kk,.string kt,.slice ka2 m1 cap2] 27 (0,0))):=by
       exact sf4
      have HNEW:=hH hnew
      clear hnew
      have hB:w.heap.size+3≤w2.heap.size:=hs2
      have hstep:=fun w1 gg cap' h1 h2 h3=>hi2.step (hkc:=hcp2) (w1:=w1) (gg:=gg) (cap:=cap') (kc:=cap2) (o1:= .cells #[.int .i64 ki,.int .i64 kk,.string kt,.slice ka2 m1 cap2] 27) (o2:= .cells #[.int .i64 ki,.int .i64 kk,.string kt,.slice ka2 m1 cap2] 27) hkid HTK.out h1 h2 h3
      rw[←HM1.out] at hstep
      have HST:=hH hstep
      have hne:rv.ownBlock≠some (w.heap.size+1+1):=fun e=>by have:=(zo ho e).1;omega
      have hlt2:(⟨w.heap.size+1+1,3,none⟩:Addr).block<((w2.alloc (.cells #[.int .i64 ki,.int .i64 kk,.string kt,.slice ka2 m1 cap2] 27)).alloc (.cells #[.int .i64 ki,.int .i64 kk,.string kt,.slice ka2 m1 cap2] 27)).heap.size:=by simp;omega
      have hheap:((w2.alloc (.cells #[.int .i64 ki,.int .i64 kk,.string kt,.slice ka2 m1 cap2] 27)).alloc (.cells #[.int .i64 ki,.int .i64 kk,.string kt,.slice ka2 m1 cap2] 27)).heap[w.heap.size+1+1]? =w2.heap[w.heap.size+1+1]?:=by rw[BhaQ _ _ _ (by simp;omega),BhaQ _ _ _ hs2]
      have HAUX:=hH (aN hne (aN hlt2 (aN ((World.cell?_of_block (a:=⟨w.heap.size+1+1,3,none⟩) hheap).trans d3) ((World.frozen?_of_block (a:=⟨w.heap.size+1+1,3,none⟩) hheap).trans f3))))
      clear hi2 hkid hf2 hb2 hstep hne hlt2 hheap f3 hcp2
      go_wp2_with (at_builtin;refine wpList_append_lies _ rfl (.tmp 27) (.tmp 29) _ rfl (w.heap.size+3) 27 i0 z0 4 56 Tryz.underlying25 hi0 hz0 hz1 hz2 hz3 om rv k xs rfl ((ho.alloc _).alloc _) ⟨w2.heap.size+1,0,none⟩ 1 1 [.int .i64 ki,.int .i64 kk,.string kt,.slice ka2 m1 cap2] rfl rfl (World.news_of_block (cs:= #[.int .i64 ki,.int .i64 kk,.string kt,.slice ka2 m1 cap2]) (t:=27) (fr:=(0,0)) HNEW.out) (by simp[Value.oneCell']) om (by unfold maxLen;omega) om (by simp;omega) (w2.heap.size+1+1) sp1 ?_;intro gg cap' w1 hown1 hgrow hat hlt1;have c1w:=(hgrow.cell_far _ HAUX.out.2.1 (Ne.symm HAUX.out.1)).trans HAUX.out.2.2.1;have f1w:=(hgrow.frozen_far _ HAUX.out.2.1 (Ne.symm HAUX.out.1)).trans HAUX.out.2.2.2)
      exact⟨⟨k+1,_,_,by omega,by go_num,HST.out _ _ _ hown1 hgrow hat⟩,by simp[intOf];omega⟩
    · have hkk:k=len:=by omega
      have hi:=HI.out
      obtain⟨ra,rcap,rfl,hrc⟩:=qV hi.2.2.2.2.1
      have HRC:=hH hrc
      clear hrc
      have q0:wr.cell? ⟨w.heap.size+1+1,0,none⟩=some (.int .i64 id):=by rw[corQ wr _ 0 _ _ _ hi.2.2.1];rfl
      have q1:wr.cell? ⟨w.heap.size+1+1,1,none⟩=some (.int .i64 kd):=by rw[corQ wr _ 1 _ _ _ hi.2.2.1];rfl
      have q2:wr.cell? ⟨w.heap.size+1+1,2,none⟩=some (.string tx):=by rw[corQ wr _ 2 _ _ _ hi.2.2.1];rfl
      have q3:wr.cell? ⟨w.heap.size+1+1,3,none⟩=some (.slice ra k rcap):=by rw[corQ wr _ 3 _ _ _ hi.2.2.1];rfl
      have z0:wr.cell? ⟨w.heap.size+1,0,none⟩=some (.int .i64 0):=by rw[corQ wr _ 0 _ _ _ hi.2.1];rfl
      have z1:wr.cell? ⟨w.heap.size+1,1,none⟩=some (.int .i64 0):=by rw[corQ wr _ 1 _ _ _ hi.2.1];rfl
      have z2:wr.cell? ⟨w.heap.size+1,2,none⟩=some (.string ⟨#[]⟩):=by rw[corQ wr _ 2 _ _ _ hi.2.1];rfl
      have z3:wr.cell? ⟨w.heap.size+1,3,none⟩=some (.slice none 0 0):=by rw[corQ wr _ 3 _ _ _ hi.2.1];rfl
      have g0:=forQ wr _ 0 _ _ hi.2.1
      have g1:=forQ wr _ 1 _ _ hi.2.1
      have g2:=forQ wr _ 2 _ _ hi.2.1
      have g3:=forQ wr _ 3 _ _ hi.2.1
      clear hi
      have HLK:Hid (k=foLen ks):=show k=foLen ks by rw[hkk,HLEN.out]
      exact sd9
theorem zbb (n:Nat) (w:World) (S:Nat→Prop) (v:Value) (t:Tr) (h1:zg t.kids<n) (h2:zg t.kids≤1000000) (h3:∀k,S k→k<w.heap.size) (h4:zJ w S v t):Calls Tryz.prog 37 #[v] w (Jp t w):=
 (Ze n w S v t h1 h2 h3 h4).mono fun _ _ h=>h.weak
end Go.Proofs.YtgkmmnihaiopaaaGreat
namespace Go.Proofs.YtgkmmnihaiopaaaGreat
open Go.RowKit Go.Shelf
def zgj (w wr:World) (rv:Value):Nat→Prop:=fun x=>w.heap.size+1≤x∧x<wr.heap.size∧rv.ownBlock≠some x
def y7 (w:World) (id kd:Int) (tx:ByteArray) (ks:Fo) (k:Nat) (rv:Value) (xs:List Value) (wr:World):Prop:=
 wr.heap[w.heap.size]? =some (.cells #[.int .i64 id,.int .i64 kd,.string tx,rv] 27 (0,0))∧Below w.heap.size w wr∧
 wr.ownsRow (w.heap.size+1) 27 4 rv k xs∧yF wr (zgj w wr rv) (zz k ks) xs
section
variable {w wr w2:World} {id kd:Int} {tx:ByteArray} {ks:Fo} {k:Nat} {rv:Value} {xs:List Value}
theorem y7.start (w:World) (id kd:Int) (tx:ByteArray) (ks:Fo):y7 w id kd tx ks 0 (.slice none 0 0) [] (w.alloc (.cells #[.int .i64 id,.int .i64 kd,.string tx,.slice none 0 0] 27)):=
 ⟨hanQ w _,(BrQ _ _).alloc (Nat.le_refl _) _,World.ownsRow_nil _ _ _ _,rfl⟩
theorem y7.size (h:y7 w id kd tx ks k rv xs wr):w.heap.size<wr.heap.size:=lt_of_some h.1
theorem y7.below (h:y7 w id kd tx ks k rv xs wr) (hb:Below wr.heap.size wr w2):y7 w id kd tx ks k rv xs w2:=by
 have hs:=h.size
 obtain⟨h2,h3,h4,h5⟩:=h
 refine⟨(hb.block _ om).trans h2,h3.trans (hb.mono om),zI h4 (fun g cur hg _=>hb.block g (lt_of_some hg)),h5.kept fun x hx=>⟨⟨hx.1,nL hx.2.1 hb.size,hx.2.2⟩,hb.block x hx.2.1⟩⟩
theorem y7.kid (h:y7 w id kd tx ks k rv xs wr) {l:Fo} {ka:Option Addr} (hf:zu w2 (Ya wr w2) l ka):zu w2 (zgj w w2 rv) l ka:=hf.kept fun x hx=>by
 have hs:=h.size
 refine⟨⟨by have:=hx.1;omega,hx.2,fun e=>?_⟩,rfl⟩
 have:=(zo h.2.2.1 e).2
 have:=hx.1
 omega
theorem y7.step {w1:World} {o1 o2:Obj} {b o:Nat} {ki kk:Int} {kt:ByteArray} {l:Fo} {ka:Option Addr} {kc gg cap:Nat} (hkc:foLen l≤kc) (h:y7 w id kd tx ks k rv xs w2) (hl:zu w2 (zgj w w2 rv) l ka) (ht:zz (k+1) ks=qx (zz k ks) b o (ki,kk,kt) l)
 (hown:w1.ownsRow (w.heap.size+1) 27 4 (.slice (some ⟨gg,0,none⟩) (k+1) cap) (k+1) (xs++[.int .i64 ki,.int .i64 kk,.string kt,.slice ka (foLen l) kc]))
 (hgrow:((w2.alloc o1).alloc o2).grownBy w1 rv.ownBlock) (hat:rv.ownBlock=some gg∨gg=w2.heap.size+1+1):
 y7 w id kd tx ks (k+1) (.slice (some ⟨gg,0,none⟩) (k+1) cap) (xs++[.int .i64 ki,.int .i64 kk,.string kt,.slice ka (foLen l) kc]) (w1.setCell ⟨w.heap.size,3,none⟩ (.slice (some ⟨gg,0,none⟩) (k+1) cap)):=by
 have hs:=h.size
 obtain⟨h2,h3,h4,h5⟩:=h
 have hob:∀g,rv.ownBlock=some g→w.heap.size+1≤g∧g<w2.heap.size:=fun g hg=>zo h4 hg
 have old:∀x,x<w2.heap.size→rv.ownBlock≠some x→w1.heap[x]? =w2.heap[x]?:=fun x hx hn=>by
  rw[hgrow.block x (by simp;omega) (fun e=>hn e.symm),BhaQ _ _ _ (by simp;omega),BhaQ _ _ _ hx]
 have nob:∀x,x<w.heap.size+1→rv.ownBlock≠some x:=fun x hx e=>by have:=(hob x e).1;omega
 have hgs:w2.heap.size≤w1.heap.size:=by have:=hgrow.size;simp at this;omega
 have hgg:gg≠w.heap.size:=fun e=>by
  rcases hat with hat | hat
  · have:=(hob gg hat).1;omega
  · omega
 have hout:w1.heap[w.heap.size]? =some (.cells #[.int .i64 id,.int .i64 kd,.string tx,rv] 27 (0,0)):=(old _ hs (nob _ om)).trans h2
 have keep:∀x,x<w2.heap.size→rv.ownBlock≠some x→x≠w.heap.size→(w1.setCell ⟨w.heap.size,3,none⟩ (.slice (some ⟨gg,0,none⟩) (k+1) cap)).heap[x]? =w2.heap[x]?:=fun x hx hn hne=>by
  rw[BhsQ _ _ _ _ hne];exact old x hx hn
 have hmid:∀x,zgj w w2 rv x→zgj w (w1.setCell ⟨w.heap.size,3,none⟩ (.slice (some ⟨gg,0,none⟩) (k+1) cap)) (.slice (some ⟨gg,0,none⟩) (k+1) cap) x∧(w1.setCell ⟨w.heap.size,3,none⟩ (.slice (some ⟨gg,0,none⟩) (k+1) cap)).heap[x]? =w2.heap[x]?:=fun x hx=>by
  exact sf1
 refine⟨?_,?_,?_,?_⟩
 · rw[hssQ w1 _ 3 _ _ _ hout];rfl
 · have hB:Below w.heap.size w ((w2.alloc o1).alloc o2):=(h3.alloc om _).alloc (by simp<;>omega) _
   exact (hB.grown hgrow (by simp<;>omega) (fun g hg=>by have:=(hob g hg).1;omega)).setCell (by simp<;>omega) _
 · exact zI hown (fun g cur hg hgo=>BhsQ _ _ _ _ (fun e=>hgg (by cases hgo;exact e)))
 · rw[ht]
   exact (h5.kept hmid).snoc (hl.kept hmid) kc hkc
theorem y7.done {ra:Option Addr} {n rcap:Nat} (h:y7 w id kd tx ks k (.slice ra n rcap) xs wr) (hk:k=foLen ks) (hn:n=k) (hrc:n≤rcap):zu wr (fun x=>w.heap.size+1≤x∧x<wr.heap.size) ks ra:=by
 obtain⟨_,_,h4,h5⟩:=h
 rw[qg k ks om] at h5
 subst hn
 exact zbB hk h4 (h5.kept fun x hx=>⟨⟨hx.1,hx.2.1⟩,rfl⟩) (fun x hx=>zo h4 hx)
end
end Go.Proofs.YtgkmmnihaiopaaaGreat
