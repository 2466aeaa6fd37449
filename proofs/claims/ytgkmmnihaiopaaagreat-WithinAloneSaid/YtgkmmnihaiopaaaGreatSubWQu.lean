/-
  .
-/
import Derived.Test.YtgkmmnihaiopaaaGreatGGreatQu
import Derived.Test.YtgkmmnihaiopaaaGreatEFindWQu
import Derived.Deep.RegionHeld
import Derived.Test.YtgkmmnihaiopaaaGreatBlankQu
import Derived.Test.YtgkmmnihaiopaaaGreatKFreshQu
import Derived.Test.YtgkmmnihaiopaaaGreatRGreatXQu
import Derived.Test.YtgkmmnihaiopaaaGreatKAlong1Qu
import Derived.Deep.Cut
import Derived.BigQuiet
import Derived.Test.YtgkmmnihaiopaaaGreatJPgQu
import Derived.Test.YtgkmmnihaiopaaaGreatJPsQu
set_option maxRecDepth 100000
set_option maxHeartbeats 40000000
set_option linter.unusedVariables false
set_option linter.unusedSimpArgs false
namespace Go.Proofs.YtgkmmnihaiopaaaGreat
open Go.RowKit Go.Shelf
def je (f:Fo):List Int:=(spF 1 f).map fun x=>x.2.1.1
theorem Qu:∀(d:Nat) (f:Fo),(spF d f).map (fun x=>x.2.1.1)=je f
 | _,.nil=>rfl
 | d,.node _ _ k l r=>by
   simp only[je,spF,List.map_cons,List.map_append]
   rw[Qu (d+1) l,Qu d r,Qu (1+1) l]
   rfl
theorem yI (b o:Nat) (k:Int×Int×ByteArray) (l r:Fo):je (.node b o k l r)=k.1::(je l++je r):=by
 simp only[je,spF,List.map_cons,List.map_append]
 rw[Qu (1+1) l]
 rfl
def qB (t:Tr):Prop:=(je (zl t)).Nodup
theorem zdJ {t:Tr} (h:qB t):t.id∉je t.kids∧(je t.kids).Nodup:=by
 rw[qB,zl,yI] at h
 have e:je Deep.BT.nil= []:=rfl
 rw[e,List.append_nil] at h
 exact⟨(List.nodup_cons.1 h).1,(List.nodup_cons.1 h).2⟩
theorem Za:∀(id:Int) (f:Fo) (j:Nat),id∉je f→fpi id j f=none
 | _,.nil,_,_=>rfl
 | id,.node b o k l r,j,h=>by
   rw[yI] at h
   simp only[List.mem_cons,List.mem_append,not_or] at h
   rw[fpi,if_neg (fun e=>h.1 e.symm),Za id l 0 h.2.1]
   exact Za id r (j+1) h.2.2
theorem at_mem:∀(f:Fo) (k:Nat) (r:List Nat) (u v:Tr),zB f k=some u→atT u r=some v→v.id∈je f
 | .nil,k,r,u,v,h,_=>by rw[zbG (by simp[foLen])] at h;cases h
 | .node b o key l q,0,r,u,v,h,hv=>by
   rw[yI]
   have hu:u=⟨key.1,key.2.1,key.2.2,l⟩:=by simp only[zB,zq,yO] at h;cases h;rfl
   subst hu
   cases r with
   | nil=>cases hv;simp
   | cons i r=>
     simp only[atT] at hv
     cases hk:zB l i with
     | none=>rw[hk] at hv;cases hv
     | some w=>
       rw[hk] at hv
       have:=at_mem l i r w v hk hv
       simp[this]
 | .node b o key l q,k+1,r,u,v,h,hv=>by
   rw[yI]
   have h2:zB q k=some u:=by simpa [zB,zq] using h
   have:=at_mem q k r u v h2 hv
   simp[this]
theorem JV:∀(f:Fo) (j k:Nat) (r:List Nat) (u v:Tr),(je f).Nodup→zB f k=some u→atT u r=some v→fpi v.id j f=some ((j+k)::r)
 | .nil,_,k,r,u,v,_,h,_=>by rw[zbG (by simp[foLen])] at h;cases h
 | .node b o key l q,j,0,r,u,v,hd,h,hv=>by
   rw[yI,List.nodup_cons,List.nodup_append] at hd
   have hu:u=⟨key.1,key.2.1,key.2.2,l⟩:=by simp only[zB,zq,yO] at h;cases h;rfl
   subst hu
   cases r with
   | nil=>cases hv;simp[fpi]
   | cons i r=>
     simp only[atT] at hv
     cases hk:zB l i with
     | none=>rw[hk] at hv;cases hv
     | some w=>
       rw[hk] at hv
       simp only at hv
       have hm:=at_mem l i r w v hk hv
       have h1:=JV l 0 i r w v hd.2.1 hk hv
       rw[fpi,if_neg (fun e=>hd.1 (by rw[e];simp[hm])),h1]
       simp
 | .node b o key l q,j,k+1,r,u,v,hd,h,hv=>by
   rw[yI,List.nodup_cons,List.nodup_append] at hd
   have h2:zB q k=some u:=by simpa [zB,zq] using h
   have hm:=at_mem q k r u v h2 hv
   have h1:=JV q (j+1) k r u v hd.2.2.1 h2 hv
   have hnl:v.id∉je l:=fun e=>hd.2.2.2 _ e _ hm rfl
   rw[fpi,if_neg (fun e=>hd.1 (by rw[e];simp[hm])),Za _ l 0 hnl,h1]
   rw[show j+1+k=j+(k+1) by omega]
theorem YG {t v:Tr} {r:List Nat} (hd:qB t) (hv:atT t r=some v):zx v.id t=some r:=by
 obtain⟨h1,h2⟩:=zdJ hd
 cases r with
 | nil=>cases hv;simp[zx]
 | cons i r=>
   simp only[atT] at hv
   cases hk:zB t.kids i with
   | none=>rw[hk] at hv;cases hv
   | some u=>
     rw[hk] at hv
     simp only at hv
     have hm:=at_mem t.kids i r u v hk hv
     rw[zx,if_neg (fun e=>h1 (by rw[e];exact hm)),JV t.kids 0 i r u v h2 hk hv,Nat.zero_add]
theorem ZH:∀(id:Int) (f:Fo) (j:Nat) (p:List Nat),fpi id j f=some p→∃k r,p=k::r∧j≤k∧∃u,zB f (k - j)=some u∧∃v,atT u r=some v∧v.id=id
 | _,.nil,_,_,h=>by cases h
 | id, .node b o key l q,j,p,h=>by
   rw[fpi] at h
   by_cases hi:key.1=id
   · rw[if_pos hi] at h
     cases h
     exact⟨j,[],rfl,Nat.le_refl _,⟨key.1,key.2.1,key.2.2,l⟩,by rw[Nat.sub_self];rfl,_,rfl,hi⟩
   · rw [if_neg hi] at h
     cases hl:fpi id 0 l with
     | some p'=>
       rw[hl] at h
       cases h
       obtain⟨k,r,rfl,_,u,hu,v,hv,hvi⟩:=ZH id l 0 p' hl
       rw[Nat.sub_zero] at hu
       refine⟨j,k::r,rfl,Nat.le_refl _,⟨key.1,key.2.1,key.2.2,l⟩,by rw[Nat.sub_self];rfl,v,?_,hvi⟩
       simp only[atT]
       rw[hu]
       exact hv
     | none=>
       rw[hl] at h
       obtain⟨k,r,rfl,hk,u,hu,hv⟩:=ZH id q (j+1) p h
       refine⟨k,r,rfl,by omega,u,?_,hv⟩
       rw[show k - j=(k - (j+1))+1 by omega]
       simpa [zB,zq] using hu
theorem JR (id:Int):∀(f:Fo) (d j:Nat),(qo id (spF d f)).map zZ=(fpi id j f).bind fun p=>(match p with | []=>none | k::r=>(zB f (k - j)).bind fun u=>atT u r)
 | .nil,_,_=>rfl
 | .node b o key l q,d,j=>by
   by_cases h:key.1=id
   · rw[fpi,if_pos h]
     have:qo id (spF d (.node b o key l q))=some (d,key,l):=Yq (pre:=[]) (rest:=spF (d+1) l++spF d q) (fun _ h=>by cases h) h
     rw[this]
     simp[zB,zq,yO,atT,zZ]
   · rw [fpi,if_neg h]
     have e:qo id (spF d (.node b o key l q))=(qo id (spF (d+1) l)).or (qo id (spF d q)):=by
      simp only[qo,spF,List.find?_cons,List.find?_append]
      have hb:(key.1 == id)=false:=by simpa using h
      rw[hb]
     rw[e]
     have i1:=JR id l (d+1) 0
     have i2:=JR id q d (j+1)
     cases hl:fpi id 0 l with
     | none =>
       rw[hl] at i1
       have:qo id (spF (d+1) l)=none:=by
        cases hx:qo id (spF (d+1) l) with
        | none=>rfl
        | some x=>rw[hx] at i1;simp at i1
       rw[this,Option.none_or,i2]
       cases hq:fpi id (j+1) q with
       | none=>rfl
       | some p=>
         cases p with
         | nil=>rfl
         | cons k r=>
           obtain⟨k',r',e',hk,_⟩:=ZH id q (j+1) _ hq
           cases e'
           simp only[Option.bind_some]
           have:k - j=(k - (j+1))+1:=by omega
           rw[this]
           simp[zB,zq]
     | some p=>
       rw[hl] at i1
       have :(qo id (spF (d+1) l)).isSome:=by
        cases hx:qo id (spF (d+1) l) with
        | some x=>rfl
        | none=>
          exfalso
          rw[hx] at i1
          obtain⟨k,r,rfl,_,u,hu1,v,hv,_⟩:=ZH id l 0 p hl
          simp only[Option.map_none,Option.bind_some,hu1,hv] at i1
          cases i1
       obtain⟨x,hx⟩:=Option.isSome_iff_exists.1 this
       rw[hx] at i1 ⊢
       simp only[Option.some_or,i1,Option.bind_some]
       obtain⟨k,r,rfl,_⟩:=ZH id l 0 p hl
       rw[Nat.sub_self]
       show (zB l k).bind (fun u=>atT u r)=(some (⟨key.1,key.2.1,key.2.2,l⟩:Tr)).bind fun u=>atT u (k::r)
       simp only[Option.bind_some,atT]
       cases zB l k<;>rfl
theorem Qq (id:Int) (t:Tr):(qo id (spF 1 (zl t))).map zZ=(zx id t).bind fun p=>atT t p:=by
 rw[JR id (zl t) 1 0]
 simp only[zl,fpi,zx]
 by_cases h:t.id=id
 · rw[if_pos h,if_pos h];simp[zB,zq,yO,atT]
 · rw[if_neg h,if_neg h]
   cases hl:fpi id 0 t.kids with
   | none=>rfl
   | some p=>simp[zB,zq,yO]
theorem ZX (id:Int) (t:Tr):(qo id (spF 1 (zl t))).isSome=(zx id t).isSome:=by
 have h:=Qq id t
 cases hp:zx id t with
 | none=>rw[hp] at h;simp at h;rw[h];rfl
 | some p=>
   obtain⟨v,hv⟩:∃v,atT t p=some v:=by
    rw[zx] at hp
    split at hp
    · cases hp;exact⟨t,rfl⟩
    · obtain⟨k,r,rfl,_,u,hu,v,hv,_⟩:=ZH _ _ _ _ hp
      rw[Nat.sub_zero] at hu
      exact⟨v,by simp only[atT];rw[hu];exact hv⟩
   rw[hp] at h
   simp only[Option.bind_some,hv] at h
   cases hf:qo id (spF 1 (zl t)) with
   | none=>rw[hf] at h;cases h
   | some x=>rfl
theorem ve (id:Int) (t:Tr) (p:List Nat) (hp:zx id t=some p):∃v,atT t p=some v∧v.id=id:=by
 rw[zx] at hp
 split at hp
 · next h=>cases hp;exact⟨t,rfl,h⟩
 · obtain⟨k,r,rfl,_,u,hu,v,hv,hi⟩:=ZH _ _ _ _ hp
   rw[Nat.sub_zero] at hu
   exact⟨v,by simp only[atT];rw[hu];exact hv,hi⟩
theorem zeG {α:Type} [DecidableEq α]:∀(l m:List α),lcp l m=l.length↔l<+:m
 | [],m=>by simp[lcp]
 | a::l,[]=>by simp[lcp]
 | a ::l,b::m=>by
   simp only[lcp,List.length_cons]
   by_cases h:a=b
   · subst h
     rw[if_pos rfl,List.cons_prefix_cons]
     simp[zeG l m]
   · rw[if_neg h]
     simp[List.cons_prefix_cons,h]
theorem zaB {t:Tr} {a b:Int} {p q:List Nat} (ha:zx a t=some p) (hb:zx b t=some q):vk a b t=decide (p<+:q):=by
 rw[vk,ha,hb]
 simp only[decide_eq_decide]
 exact zeG p q
end Go.Proofs.YtgkmmnihaiopaaaGreat
namespace Go.Proofs.YtgkmmnihaiopaaaGreat
open Go.RowKit Go.Shelf
open Go.Maps
def ziO (id:Int) (t:Tr) (S:Nat→Prop) (w:World) (e:Ending) (w' :World):Prop:=∃(z:Tr) (va:Option Addr) (vc:Nat) (b:Bool),e= .returned (.tuple #[.agg #[.int .i64 z.id,.int .i64 z.kind,.string z.text,.slice va (foLen z.kids) vc],.bool b])∧foLen z.kids≤vc∧zu w' (fun x=>zN w' x∧(S x∨w.heap.size≤x)) z.kids va∧Below w.heap.size w w'∧(b=true→∃p,zx id t=some p∧atT t p=some z)∧(b=false→zx id t=none)
theorem JP (w:World) (S:Nat→Prop) (nv:Value) (t:Tr) (id:Int) (hS:∀x,S x→zN w x) (ht:zJ w S nv t) (hsz:zg t.kids+1≤500000):Calls Tryz.prog 35 #[nv,.int .i64 id] w (ziO id t S w):=by
 refine (zf1 w S nv t id hS ht hsz).mono ?_
 exact sd0
theorem ZJ (t:Tr):zg9 (spF 1 (zl t))=idT t:=by
 show (spF 1 (zl t)).map (fun x=>x.2.1.1)=idT t
 rw[Qu 1,zl,yI,idT]
 have e:∀f:Fo,je f=idF f:=fun f=>by
  induction f with
  | nil=>rfl
  | node b o k l r hl hr=>rw[yI,idF,hl,hr]
 rw[e,e];simp[idF]
theorem zeD:∀(f:Fo) (i:Nat) (v:Tr),zB f i=some v→∃A C,idF f=A++idT v++C
 | .nil,i,v,h=>by cases i<;>simp[zB,zq,yO] at h
 | .node b o k l r,0,v,h=>by
   simp only[zB,zq,yO] at h
   cases h
   exact⟨[],idF r,by simp[idF,idT]⟩
 | .node b o k l r,i+1,v,h=>by
   obtain⟨A,C,e⟩:=zeD r i v (by simpa only[zB,zq] using h)
   exact⟨k.1::(idF l++A),C,by simp[idF,e]⟩
theorem zbD:∀(q:List Nat) (t u:Tr),atT t q=some u→∃A C,idT t=A++idT u++C
 | [],t,u,h=>by cases h;exact⟨[],[],by simp⟩
 | i ::q,t,u,h=>by
   simp only[atT] at h
   cases hk:zB t.kids i with
   | none=>rw[hk] at h;cases h
   | some v=>
     rw[hk] at h
     obtain⟨A,C,e⟩:=zbD q v u h
     obtain⟨A',C',e'⟩:=zeD t.kids i v hk
     exact⟨t.id::(A'++A),C++C',by rw[idT,e',e];simp⟩
theorem ze5 {t u:Tr} {q:List Nat} {root i:Int} {k:Nat} (hn:(idT t).Nodup) (hu:atT t q=some u) (hid:u.id=root) (hi:(idT t)[k]? =some i) (hne:∀j,j≤k→(idT t)[j]?≠some root):i∉idT u:=by
 obtain⟨A,C,e⟩:=zbD q t u hu
 have hr:(idT t)[A.length]? =some root:=by
  rw[e,List.append_assoc,List.getElem?_append_right (Nat.le_refl _),Nat.sub_self,idT,hid];rfl
 have hk:k<A.length:=by
  rcases Nat.lt_or_ge k A.length with h | h
  · exact h
  · exact absurd hr (hne _ h)
 have hA:i∈A:=by
  rw[e,List.append_assoc,List.getElem?_append_left hk] at hi
  exact List.mem_of_getElem? hi
 rw[e,List.append_assoc,List.nodup_append] at hn
 intro h
 exact hn.2.2 i hA i (List.mem_append_left _ h) rfl
def jL (root:Int) (t:Tr):List Int:=match zx root t with
 | none=>[]
 | some q=>match atT t q with
   | none=>[]
   | some u=>idT u
theorem zdg {root:Int} {t:Tr} (h:zx root t=none):jL root t= []:=by unfold jL;rw[h]
theorem zdh {root:Int} {t u:Tr} {q:List Nat} (h:zx root t=some q) (hu:atT t q=some u):jL root t=idT u:=by unfold jL;rw[h];simp only;rw[hu]
theorem Yl.del {w W X Z:World} {mb n:Nat} {l:List Int} {i:Int} (h:Yl w W mb l n X) (ho:Z.ownsMap Tryz.prog 3 (unitElem (H:=Value)) mb n ((setOf (.agg []) (l.map (Lit.int .i64 ·))).del (.int .i64 i))) (hi:i∉l) (hg:X.mapTurned Z mb) (hw:w.heap.size≤mb) (hWX:w.heap.size≤W.heap.size):Yl w W mb l n Z:=by
 obtain⟨h1,h2,h3,h4⟩:=h
 have hgr:=hg.grown
 have h5:∀y,y<X.heap.size→y≠mb→Z.heap[y]? =X.heap[y]?:=fun y hy hne=>hgr.block y hy (fun e=>hne (Option.some.inj e))
 have h7:=h2.size
 have h8:Maps.has (setOf (.agg []:DataW Value) (l.map (Lit.int .i64 ·))) (.int .i64 i)=false:=by
  rw[jm]
  exact List.any_eq_false.2 fun x hx=>by intro he;rw[eq_of_beq he] at hx;exact hi hx
 rw[del_of_not_has h8] at ho
 exact⟨ho,⟨hgr.os.trans h2.os,hgr.tape.trans h2.tape,hgr.output.trans h2.output,Nat.le_trans h2.size hgr.size,fun y hy=>(h5 y om om).trans (h2.block y hy)⟩,fun y hy hne=>(h5 y om hne).trans (h3 y hy hne),Nat.le_trans h4 hgr.size⟩
def ziX (w:World) (l:List Int) (e:Ending) (w' :World):Prop:=∃mb n,e= .returned (.map (some mb))∧qI w' mb n l∧w.heap.size≤mb∧Below w.heap.size w w'
theorem zdi (w :World) (S:Nat→Prop) (nv:Value) (t:Tr) (root:Int) (hS:∀x,S x→zN w x) (ht:zJ w S nv t) (hsz:zg t.kids+1≤2000) (hd:(idT t).Nodup) (hok:∀i∈idT t,(Lit.int .i64 i).wf=true):
 Calls Tryz.prog 55 #[nv,.int .i64 root] w (ziX w (jL root t)):=by
 obtain⟨ka,tc,rfl,hcap,hk⟩:=ht
 obtain⟨nk,hnk⟩:∃n,n=foLen t.kids:=⟨_,rfl⟩
 rw[←hnk]
 have hSl:∀q,S q→q<w.heap.size:=fun q hq=>by obtain⟨_,_,_,h⟩:=hS q hq;exact lohQ h
 obtain⟨B,hB⟩:∃B,B=zt w [.cells #[.int .i64 t.id,.int .i64 t.kind,.string t.text,.slice ka nk tc] 27,.map #[] 0]:=⟨_,rfl⟩
 have hb:Below w.heap.size w B:=by rw[hB];exact zm _ _
 have hs:B.heap.size=w.heap.size+2:=by rw[hB];exact zC _ _
 have e0:B.heap[w.heap.size]? =some (.cells #[.int .i64 t.id,.int .i64 t.kind,.string t.text,.slice ka nk tc] 27 (0,0)):=by rw[hB];exact zi _ _ 0 _ rfl
 have hm0:qI B (w.heap.size+1) 0 []:=by
  have h:=World.ownsMap_made (w.alloc (.cells #[.int .i64 t.id,.int .i64 t.kind,.string t.text,.slice ka nk tc] 27)) Tryz.prog 3 (unitElem (H:=Value))
  rw[WsaQ] at h
  rw[hB];exact h
 have hSX:∀X,Below w.heap.size w X→∀x,S x→zN X x:=fun X hX x hx=>by obtain⟨cs,tt,fr,h⟩:=hS x hx;exact⟨cs,tt,fr,(hX.block x (lohQ h)).trans h⟩
 have hT:∀X,Below w.heap.size w X→zJ X S (.agg #[.int .i64 t.id,.int .i64 t.kind,.string t.text,.slice ka nk tc]) t:=fun X hX=>⟨ka,tc,by rw[hnk],hcap,hk.below hX hSl⟩
 have hf:=JP B S (.agg #[.int .i64 t.id,.int .i64 t.kind,.string t.text,.slice ka nk tc]) t root (hSX B hb) (hT B hb) om
 have hids:∀X,Below w.heap.size w X→Calls Tryz.prog 73 #[.agg #[.int .i64 t.id,.int .i64 t.kind,.string t.text,.slice ka nk tc]] X (ziE X (idT t)):=fun X hX=>by
  have h:=zbi X S (.agg #[.int .i64 t.id,.int .i64 t.kind,.string t.text,.slice ka nk tc]) t (fun q hq=>nL (hSl q hq) hX.size) (hT X hX) om
  rwa [ZJ] at h
 have hl:(idT t).length≤2000:=by rw[yQ];omega
 obtain⟨lt,hlt⟩:∃l,l=idT t:=⟨_,rfl⟩
 rw[←hlt] at hids hl hd hok
 have HF:=hH hf
 have HI:=hH hids
 have HT:=hH (aN hlt (aN hl (aN hd (aN hok (aN hsz hSl)))))
 have HB:=hH (aN hb (aN hs (aN e0 hm0)))
 have HBE:=hH hB
 obtain⟨b0,b1,b2,b3⟩:=zG e0
 have hmm:=@run_makeMap Tryz.prog
 clear hf hids hl hd hok hsz hb hs e0 hm0 hB hlt hnk hcap hk hS hSl hSX hT
 go_enter Tryz.func55,Tryz.ntmps55
 go_upto_region 2 with fail
 change Code.wp _ _ _ _ (zt w [.cells #[.int .i64 t.id,.int .i64 t.kind,.string t.text,.slice ka nk tc] 27,.map #[] 0])
 rw[←HBE.out]
 clear hmm HBE
 go_wp2_with fail
 refine HF.out.mono ?_
 rintro e w2 ⟨z,va,vc,ok,rfl,hvc,hvf,hb2,hy,hn⟩
 clear HF b0 b1 b2 b3
 obtain⟨zn,hzn⟩:∃zn,zn=foLen z.kids:=⟨_,rfl⟩
 rw[←hzn]
 obtain⟨W3,hW3⟩:∃W3,W3=w2.alloc (.cells #[.int .i64 z.id,.int .i64 z.kind,.string z.text,.slice va zn vc] 27):=⟨_,rfl⟩
 have hb3:Below B.heap.size B W3:=hb2.trans (by rw[hW3];exact (BrQ _ _).alloc hb2.size _)
 have eG:W3.heap[w2.heap.size]? =some (.cells #[.int .i64 z.id,.int .i64 z.kind,.string z.text,.slice va zn vc] 27 (0,0)):=by rw[hW3];exact hanQ _ _
 have hvl:∀q,(zN w2 q∧(S q∨B.heap.size≤q))→q<w2.heap.size:=fun q hq=>by obtain⟨⟨_,_,_,h⟩,_⟩:=hq;exact lohQ h
 have hvf3:zu W3 (fun q=>q<w2.heap.size) z.kids va:=hvf.kept fun q hq=>⟨hvl q hq,by rw[hW3];exact BhaQ _ _ _ (hvl q hq)⟩
 have h23:w2.heap.size<W3.heap.size:=by rw[hW3,WsaQ];omega
 obtain⟨G,hG⟩:∃G,G=w2.heap.size:=⟨_,rfl⟩
 rw[←hG] at eG h23
 have hGl:w.heap.size+2≤G:=by rw[hG];have:=hb2.size;have:=HB.out.2.1;omega
 have hbw:=HB.out.1.trans (hb3.mono HB.out.1.size)
 have f0:=(hb3.block _ (lohQ HB.out.2.2.1)).trans HB.out.2.2.1
 have fm:=HB.out.2.2.2.at (hb3.block _ (by have:=HB.out.2.1;omega))
 obtain⟨mb,hmb⟩:∃mb,mb=w.heap.size+1:=⟨_,rfl⟩
 rw[←hmb] at fm ⊢
 have HA:=hH (aN hbw (aN f0 (aN fm (aN eG (aN hvf3 (aN hvc (aN hzn (aN h23 (aN hGl (aN hmb hG))))))))))
 have HY:=hH (aN hy hn)
 have HW3:=hH hW3
 clear hb2 hW3 hb3 hbw f0 fm eG hvf hvl hvf3 hvc hzn hy hn h23 hGl HB hmb
 go_upto_region 3 with fail
 change Code.wp _ _ _ _ (w2.alloc (.cells #[.int .i64 z.id,.int .i64 z.kind,.string z.text,.slice va zn vc] 27))
 rw[←HW3.out,←hG]
 clear HW3 hG
 cases ok with
 | false=>
   go_wp2_with fail
   go_ret
   exact⟨mb,0,rfl,by rw[zdg (HY.out.2 (by trivial))];exact HA.out.2.2.1,by rw[HA.out.2.2.2.2.2.2.2.2.2.1];omega,HA.out.1⟩
 | true =>
   obtain⟨pp,hp,hz⟩:=HY.out.1 (by trivial)
   have hsub:=zdh hp hz
   have hzid:z.id=root:=by obtain⟨u,hu,hid⟩:=ve root t pp hp;rw[hz] at hu;cases hu;exact hid
   have hzs:zg z.kids+1≤2000:=by
    obtain⟨A,C,e⟩:=zbD pp t z hz
    have h1:=congrArg List.length e
    rw[List.length_append,List.length_append,yQ,yQ] at h1
    have h2:=HT.out.2.2.2.2.1;omega
   have hzd:∀i∈idT z,i∈lt:=fun i hi=>by
    obtain⟨A,C,e⟩:=zbD pp t z hz
    rw[HT.out.1,e];exact List.mem_append_left _ (List.mem_append_right _ hi)
   have hcall:=zbi W3 (fun q=>q<W3.heap.size) (.agg #[.int .i64 z.id,.int .i64 z.kind,.string z.text,.slice va zn vc]) z (fun q hq=>hq) ⟨va,vc,by rw[HA.out.2.2.2.2.2.2.1],HA.out.2.2.2.2.2.1,HA.out.2.2.2.2.1.kept fun q hq=>⟨Nat.lt_trans hq (by have h1:=HA.out.2.2.2.2.2.2.2.1;rw[HA.out.2.2.2.2.2.2.2.2.2.2] at h1;exact h1),rfl⟩⟩ om
   rw[ZJ] at hcall
   obtain⟨lz,hlz⟩:∃lz,lz=idT z:=⟨_,rfl⟩
   have hlzl:lz.length≤2000:=by rw[hlz,yQ];omega
   rw[←hlz] at hcall hsub hzd
   have HCALL:=hH hcall
   have HP:=hH (aN hp (aN hz (aN hsub (aN hzid (aN hzd (aN hlz hlzl))))))
   obtain⟨g0,g1,g2,g3⟩:=zG HA.out.2.2.2.1
   clear hp hz hsub hzid hzs hzd hcall hlz HY hlzl
   go_wp2_with fail
   refine HCALL.out.mono ?_
   rintro e w4 ⟨v,rfl,hown,hb4⟩
   obtain⟨ia,ic,rfl⟩:=zw hown
   clear g0 g1 g2 g3 HCALL
   obtain⟨m,hm⟩:∃m,m=lz.length:=⟨_,rfl⟩
   rw[←hm] at hown ⊢
   have hm2:m≤2000:=by rw[hm];exact HP.out.2.2.2.2.2.2
   have hmw:mb<W3.heap.size:=by have:=HA.out.2.2.2.2.2.2.2.1;have:=HA.out.2.2.2.2.2.2.2.2.1;have:=HA.out.2.2.2.2.2.2.2.2.2.1;omega
   have hwm:w.heap.size≤mb:=by have:=HA.out.2.2.2.2.2.2.2.2.2.1;omega
   have hbw:=HA.out.1.trans (hb4.mono HA.out.1.size)
   have hF0:Yl w w4 mb [] 0 w4:=⟨HA.out.2.2.1.at (hb4.block _ hmw),hbw,fun _ _ _=>rfl,Nat.le_refl _⟩
   have f0:=(hb4.block _ (lohQ HA.out.2.1)).trans HA.out.2.1
   have hneq:∀g,(Value.slice ia m ic).ownBlock=some g→g≠mb:=fun g hg=>by have:=(zo hown hg).1;omega
   have hn0:w.heap.size≠mb:=by have:=HA.out.2.2.2.2.2.2.2.2.2.1;omega
   have HF0:=hH hF0
   have HO:=hH (aN hown (aN hm (aN hneq (aN hwm (aN hbw.size (aN f0 hn0))))))
   clear hown hm hmw hwm hbw hF0 f0 hneq hn0 hb4 HA
   go_wp2_with fail
   go_loopw [25] (fun i wr=>∃k:Nat,k≤m∧i= .int .i64 (k:Int)∧Hid (Yl w w4 mb (lz.take k) k wr)) (fun i _=>m - (intOf i).toNat)
   case atStart=>exact⟨0,Nat.zero_le _,rfl,HF0⟩
   case round =>
    obtain⟨k,hk,rfl,hh⟩:=hrel
    by_cases hlt:k<m
    · have hki:(k:Int)<(m:Int):=by omega
      obtain⟨i,hi⟩:∃i,lz[k]? =some i:=⟨_,List.getElem?_eq_getElem (by rw[←HO.out.2.1];exact hlt)⟩
      obtain⟨g,rfl,hgc,hgl,hcell⟩:=Jj HO.out.1 om
      have c0:wr.cell? ⟨g,k,none⟩=some (.int .i64 i):=(World.cell?_of_block (a:=⟨g,k,none⟩) (hh.out.2.2.1 g hgl (HO.out.2.2.1 g rfl))).trans (hcell k i hi)
      have hkey:=keyOf_int_mk (P:=Tryz.prog) Tryz.underlying3 (HT.out.2.2.2.1 i (HP.out.2.2.2.2.1 i (List.mem_of_getElem? hi)))
      have hown0:=hh.out.1
      unfold qI at hown0
      have hownA:(wr.alloc (.cells #[] 121)).ownsMap Tryz.prog 3 (unitElem (H:=Value)) mb k (setOf (.agg []) ((lz.take k).map (Lit.int .i64 ·))):=qI.at hh.out.1 (BhaQ _ _ _ (World.ownsMap.lt hown0))
      have HR:=hH (aN hi hlt)
      clear hi hlt hk hcell hgl
      go_wp2_with (at_mapUpdate;refine wpList_mapUpdate_own _ rfl _ _ _ 93 rfl 3 121 Y3 Tryz.underlying93 unitElem mb k _ rfl (by first | exact hown0 | exact hownA) (by unfold maxLen;omega) _ _ _ rfl rfl hkey _ [] unitElem_mk ?_;intro w5 hown5 hgrow5)
      refine⟨⟨k+1,by have:=HR.out.2;omega,by go_num,hH ?_⟩,by have:=HR.out.2;simp[intOf];omega⟩
      rw[List.take_add_one,HR.out.1]
      exact hh.out.add (by first | exact BrQ _ _ | exact zh _ _) hgrow5 (Zd hown5) HO.out.2.2.2.1 HO.out.2.2.2.2.1
    · have hki :¬(k:Int)<(m:Int):=by omega
      have hkm:k=m:=by omega
      have hl3:lz.take k=lz:=by rw[hkm,HO.out.2.1];exact List.take_length
      have hF1:=hh.out
      rw[hl3] at hF1
      have f0:=(hF1.2.2.1 _ (lohQ HO.out.2.2.2.2.2.1) HO.out.2.2.2.2.2.2).trans HO.out.2.2.2.2.2.1
      have HC2:=hH (HI.out wr hF1.2.1)
      have HF1:=hH hF1
      obtain⟨b0,b1,b2,b3⟩:=zG f0
      obtain⟨w5,hw5⟩:∃w5,w5=wr:=⟨_,rfl⟩
      subst hw5
      clear hkm hlt hk hh hl3 hF1 f0 HI HF0
      go_wp2_with fail
      refine HC2.out.mono ?_
      rintro e w6 ⟨v,rfl,hown,hb6⟩
      obtain⟨ja,jc,rfl⟩:=zw hown
      clear b0 b1 b2 b3 HC2
      obtain⟨n,hn⟩:∃n,n=lt.length:=⟨_,rfl⟩
      rw[←hn] at hown ⊢
      have hn2:n≤2000:=by rw[hn];exact HT.out.2.1
      have hF1:=HF1.out
      have hmw:mb<w5.heap.size:=World.ownsMap.lt hF1.1
      have hF2:Yl w w6 mb lz k w6:=⟨hF1.1.at (hb6.block _ hmw),hF1.2.1.trans (hb6.mono hF1.2.1.size),fun _ _ _=>rfl,Nat.le_refl _⟩
      have hneq:∀g,(Value.slice ja n jc).ownBlock=some g→g≠mb:=fun g hg=>by have:=(zo hown hg).1;omega
      have HF2:=hH hF2
      have HO2:=hH (aN hown (aN hn (aN hneq (aN HO.out.2.2.2.1 hF2.2.1.size))))
      clear hown hn hmw hF1 hF2 hneq hb6 HF1 HO
      go_wp2_with fail
      have hend:∀X,Yl w w6 mb lz k X→ziX w (jL root t) (.returned (.map (some mb))) X:=fun X h=>⟨mb,k,rfl,by rw[HP.out.2.2.1];exact h.1,HO2.out.2.2.2.1,h.2.1⟩
      have HEND:=hH hend
      clear hend
      go_loopw [36] (fun i wr=>∃j:Nat,j≤n∧i= .int .i64 (j:Int)∧Hid (Yl w w6 mb lz k wr∧∀c,c<j→lt[c]?≠some root)) (fun i _=>n - (intOf i).toNat)
      case atStart=>exact⟨0,Nat.zero_le _,rfl,hH ⟨HF2.out,fun c hc=>by omega⟩⟩
      case round=>
       obtain⟨j,hj,rfl,hh⟩:=hrel
       by_cases hlt:j<n
       · have hki:(j:Int)<(n:Int):=by omega
         obtain⟨i,hi⟩:∃i,lt[j]? =some i:=⟨_,List.getElem?_eq_getElem (by rw[←HO2.out.2.1];exact hlt)⟩
         obtain⟨g,rfl,hgc,hgl,hcell⟩:=Jj HO2.out.1 om
         have c0:wr.cell? ⟨g,j,none⟩=some (.int .i64 i):=(World.cell?_of_block (a:=⟨g,j,none⟩) (hh.out.1.2.2.1 g hgl (HO2.out.2.2.1 g rfl))).trans (hcell j i hi)
         have HR:=hH (aN hi hlt)
         clear hcell hgl hj
         by_cases he:i=root
         · have heb:(i == root)=true:=by simpa using he
           have HE:=hH (HEND.out _ hh.out.1)
           clear he hi hlt hh
           go_wp2_with fail
           go_ret
           exact HE.out
         · have heb:(i == root)=false:=by simpa using he
           have hnew:∀c,c≤j→lt[c]?≠some root:=fun c hc=>by
            rcases Nat.lt_or_ge c j with h | h
            · exact hh.out.2 c h
            · have:c=j:=by omega
              subst this;rw[hi];intro e;exact he (Option.some.inj e)
           have hnot:i∉lz:=by
            rw[HP.out.2.2.2.2.2.1]
            exact ze5 (by rw[←HT.out.1];exact HT.out.2.2.1) HP.out.2.1 HP.out.2.2.2.1 (by rw[←HT.out.1];exact hi) (by rw[←HT.out.1];exact hnew)
           have hkey:=keyOf_int_mk (P:=Tryz.prog) Tryz.underlying3 (HT.out.2.2.2.1 i (List.mem_of_getElem? hi))
           have hown0:=hh.out.1.1
           unfold qI at hown0
           have HN:=hH (aN hnew hnot)
           clear he hi hlt hnew hnot
           go_wp2_with (at_delete;refine wpList_delete_own _ rfl _ _ 93 3 rfl 121 Y3 Tryz.underlying93 _ mb k _ rfl hown0 _ _ rfl hkey ?_;intro w7 hown7 hturn7)
           exact⟨⟨j+1,by have:=HR.out.2;omega,by go_num,hH ⟨hh.out.1.del hown7 HN.out.2 hturn7 HO2.out.2.2.2.1 HO2.out.2.2.2.2,fun c hc=>HN.out.1 c om⟩⟩,by have:=HR.out.2;simp[intOf];omega⟩
       · have hki:¬(j:Int)<(n:Int):=by omega
         have HE:=hH (HEND.out _ hh.out.1)
         clear hh hlt hj
         go_wp2_with fail
         go_ret
         exact HE.out
end Go.Proofs.YtgkmmnihaiopaaaGreat
namespace Go.Proofs.YtgkmmnihaiopaaaGreat
open Go.RowKit
def zgs (w:World) (S:Nat→Prop) (t:Tr) (id:Int) (e:Ending) (w' :World):Prop:=
 ∃v,e= .returned (.tuple #[v,.bool (qo id (spF 1 (zl t))).isSome])∧zJ w' S v (((qo id (spF 1 (zl t))).map zZ).getD zeT)∧Below w.heap.size w w'
theorem zfR (w:World) (S:Nat→Prop) (v:Value) (t:Tr) (id:Int) (hsz:zg t.kids+1≤2000) (hS:∀k,S k→k<w.heap.size) (hv:zJ w S v t):
 Calls Tryz.prog 31 #[v,.int .i64 id] w (zgs w S t id):=by
 obtain⟨ka,cap,rfl,hcp,hk⟩:=hv
 obtain⟨len,hl⟩:∃len,len=foLen t.kids:=⟨_,rfl⟩
 rw[←hl]
 have HH:=hH (aN hl (aN hcp (aN hk (aN hS hsz))))
 clear hl hcp hk hS hsz
 obtain⟨o1,ho1⟩:∃o1,o1=Obj.cells #[.int .i64 t.id,.int .i64 t.kind,.string t.text,.slice ka len cap] 27 (0,0):=⟨_,rfl⟩
 obtain⟨o2,ho2⟩:∃o2,o2=Obj.cells #[.int .i64 0,.int .i64 0,.string ⟨#[]⟩,.slice none 0 0] 27 (0,0):=⟨_,rfl⟩
 have hb:Below w.heap.size w ((w.alloc o1).alloc o2):=((BrQ _ w).alloc (Nat.le_refl _) _).alloc sp1 _
 have hz:((w.alloc o1).alloc o2).heap[w.heap.size+1]? =some o2:=by have:=hanQ (w.alloc o1) o2;rw[WsaQ] at this;exact this
 have hc:=QH 2000 om ((w.alloc o1).alloc o2) S (.agg #[.int .i64 t.id,.int .i64 t.kind,.string t.text,.slice ka len cap]) t HH.out.2.2.2.2 (by have:=HH.out.2.2.2.2;omega) (fun k hk=>nL (HH.out.2.2.2.1 k hk) hb.size) ⟨ka,cap,by rw[HH.out.1],HH.out.2.1,HH.out.2.2.1.below hb HH.out.2.2.2.1⟩
 rw[ho1,ho2] at hc hb hz
 have HC:=hH (aN hc (aN hb hz))
 clear hc hb hz ho1 ho2 o1 o2
 go_enter Tryz.func31,Tryz.ntmps31
 go_wp2_with fail
 refine HC.out.1.mono ?_
 rintro e w2 ⟨a,cap',rfl,⟨hTl,xs,ho,hx⟩,hb2⟩
 have hB:Below w.heap.size w w2:=HC.out.2.1.trans (hb2.mono HC.out.2.1.size)
 have hz2:=(hb2.block _ (lohQ HC.out.2.2)).trans HC.out.2.2
 have z0:w2.cell? ⟨w.heap.size+1,0,none⟩=some (.int .i64 0):=by rw[corQ _ _ 0 _ _ _ hz2];rfl
 have z1:w2.cell? ⟨w.heap.size+1,1,none⟩=some (.int .i64 0):=by rw[corQ _ _ 1 _ _ _ hz2];rfl
 have z2:w2.cell? ⟨w.heap.size+1,2,none⟩=some (.string ⟨#[]⟩):=by rw[corQ _ _ 2 _ _ _ hz2];rfl
 have z3:w2.cell? ⟨w.heap.size+1,3,none⟩=some (.slice none 0 0):=by rw[corQ _ _ 3 _ _ _ hz2];rfl
 have zf:∀j,w2.frozen? ⟨w.heap.size+1,j,none⟩=false:=fun j=>forQ _ _ j _ _ hz2
 obtain⟨q,hq⟩:∃q,q=zg t.kids+1:=⟨_,rfl⟩
 rw[←hq] at ho hTl ⊢
 have hq5:q≤2000:=by rw[hq];exact HH.out.2.2.2.2
 have HO:=hH (aN ho (aN hx (aN hTl (aN hB hz2))))
 clear hb2 ho hx hTl HC hq hB hz2
 have hend:∀(x:Tr) (kb:Option Addr) (kc m:Nat) (b:Bool),m=foLen x.kids→foLen x.kids≤kc→zu w2 S x.kids kb→(qo id (spF 1 (zl t))).isSome=b→(((qo id (spF 1 (zl t))).map zZ).getD zeT)=x→∀tmps:Array Value,tmps.getD 4 undef= .pointer (some ⟨w.heap.size+1,0,none⟩)→tmps.getD 5 undef= .bool b→
  bodyPost Tryz.prog Tryz.f31 (zgs w S t id) .ret { tmps,defers:=[] } ((((w2.setCell ⟨w.heap.size+1,0,none⟩ (.int .i64 x.id)).setCell ⟨w.heap.size+1,1,none⟩ (.int .i64 x.kind)).setCell ⟨w.heap.size+1,2,none⟩ (.string x.text)).setCell ⟨w.heap.size+1,3,none⟩ (.slice kb m kc)):=by
  intro x kb kc m b hm hc hf hs hx tmps t4 t5
  subst hm
  obtain⟨V5,e5,r1,r2,r3,r4,r5,r6⟩:=zA (u0:= .int .i64 x.id) (u1:= .int .i64 x.kind) (u2:= .string x.text) (u3:= .slice kb (foLen x.kids) kc) HO.out.2.2.2.2
  rw[←e5]
  have hB:=HO.out.2.2.2.1
  refine brQ (vW rfl tmps V5 (w.heap.size+1) 27 _ _ _ (.bool b) t4 r1 Tryz.underlying27 rfl kr1 t5) rfl ?_
  refine⟨_,by rw[hs],?_,r3.trans hB.os,r4.trans hB.tape,r5.trans hB.output,by rw[r6];exact hB.size,fun k hk=>(r2 k om).trans (hB.block k hk)⟩
  rw[hx]
  exact⟨kb,kc,rfl,hc,hf.kept fun k hk=>⟨hk,r2 k (by have:=HH.out.2.2.2.1 k hk;omega)⟩⟩
 have HEND:=hH hend
 clear hend
 go_wp2_with fail
 go_loop [7] (fun i=>∃k:Nat,k≤q∧i= .int .i64 (k:Int)∧Hid (∀x∈(spF 1 (zl t)).take k,x.2.1.1≠id)) (fun i=>q - (intOf i).toNat)
 case atStart=>exact⟨0,Nat.zero_le _,rfl,hH sp1⟩
 case round=>
  obtain⟨k,hk,rfl,hnone⟩:=hrel
  by_cases hlt:k<q
  · obtain⟨x,hx⟩:∃x,(spF 1 (zl t))[k]? =some x:=⟨_,List.getElem?_eq_getElem (by have:=HO.out.2.2.1;rw[this];exact hlt)⟩
    obtain⟨s0,s1,s2,⟨kb,kc,s3,hkc,hkb⟩,_⟩:=HO.out.2.1 k x hx
    have ho:=HO.out.1
    have hgg:∃g,a=some ⟨g,0,none⟩:=by
     rcases ho.2 with ⟨hv,h0⟩ | ⟨g,cap2,cur,hv,_⟩
     · omega
     · cases hv;exact⟨g,rfl⟩
    obtain⟨g,rfl⟩:=hgg
    have c0:w2.cell? ⟨g,k*5,none⟩=some (.int .i64 x.2.1.1):=zF ho rfl _ _ s0
    have c1:w2.cell? ⟨g,k*5+1,none⟩=some (.int .i64 x.2.1.2.1):=zF ho rfl _ _ s1
    have c2:w2.cell? ⟨g,k*5+2,none⟩=some (.string x.2.1.2.2):=zF ho rfl _ _ s2
    have c3:w2.cell? ⟨g,k*5+3,none⟩=some (.slice kb (foLen x.2.2) kc):=zF ho rfl _ _ s3
    obtain⟨d,⟨xi,xk,xt⟩,xf⟩:=x
    simp only at c0 c1 c2 c3 hkc hkb
    obtain⟨m,hm⟩:∃m,m=foLen xf:=⟨_,rfl⟩
    rw[←hm] at c3
    have HM:=hH (aN hm (aN hkc (aN hkb hx)))
    have HLT:=hH hlt
    have hkl:(k:Int)<(q:Int):=by omega
    clear ho s0 s1 s2 s3 hm hkc hkb hx hlt hk
    by_cases heq:xi=id
    · have hbq:(xi == id)=true:=by simpa using heq
      have HQ:=hH heq
      clear heq
      go_wp2_with fail
      have hs:qo id (spF 1 (zl t))=some (d,(xi,xk,xt),xf):=by
       have h1:spF 1 (zl t)=(spF 1 (zl t)).take k++(d,(xi,xk,xt),xf)::(spF 1 (zl t)).drop (k+1):=by
        have h2:=HM.out.2.2.2
        obtain⟨hl,he⟩:=List.getElem?_eq_some_iff.1 h2
        rw[←he,List.getElem_cons_drop,List.take_append_drop]
       rw[h1];exact Yq hnone.out HQ.out
      exact HEND.out ⟨xi,xk,xt,xf⟩ kb kc m true HM.out.1 HM.out.2.1 HM.out.2.2.1 (by rw[hs];rfl) (by rw[hs];rfl) _ rfl rfl
    · have hbq:(xi == id)=false:=by simpa using heq
      have HQ:=hH heq
      clear heq
      go_wp2_with fail
      exact⟨⟨k+1,by have:=HLT.out;omega,by go_num,hH (fun y hy=>by
       rw[List.take_add_one,HM.out.2.2.2] at hy
       rcases List.mem_append.1 hy with hy | hy
       · exact hnone.out y hy
       · simp at hy;rw[hy];exact HQ.out)⟩,by have:=HLT.out;simp[intOf];omega⟩
  · have hkq:k=q:=by omega
    have HKQ:=hH hkq
    have hkl:¬(k:Int)<(q:Int):=by omega
    clear hkq hk
    go_wp2_with fail
    have hs:qo id (spF 1 (zl t))=none:=Yp (by
     have:=hnone.out
     rwa [List.take_of_length_le (by rw[HO.out.2.2.1,HKQ.out];exact Nat.le_refl _)] at this)
    exact HEND.out zeT none 0 0 false rfl (Nat.le_refl _) True.intro (by rw[hs];rfl) (by rw[hs];rfl) _ rfl rfl
def zji (id:Int) (t:Tr) (S:Nat→Prop) (w:World) (e:Ending) (w' :World):Prop:=∃(z:Tr) (va:Option Addr) (vc:Nat) (b:Bool),e= .returned (.tuple #[.agg #[.int .i64 z.id,.int .i64 z.kind,.string z.text,.slice va (foLen z.kids) vc],.bool b])∧foLen z.kids≤vc∧zu w' S z.kids va∧Below w.heap.size w w'∧(b=true→∃p,zx id t=some p∧atT t p=some z)∧(b=false→zx id t=none)
theorem vw (w:World) (S:Nat→Prop) (v:Value) (t:Tr) (id:Int) (hsz:zg t.kids+1≤2000) (hS:∀k,S k→k<w.heap.size) (hv:zJ w S v t):
 Calls Tryz.prog 31 #[v,.int .i64 id] w (zji id t S w):=by
 refine (zfR w S v t id hsz hS hv).mono ?_
 exact sd0
end Go.Proofs.YtgkmmnihaiopaaaGreat
namespace Go.Proofs.YtgkmmnihaiopaaaGreat
open Go.RowKit Go.Shelf
theorem zbg {S:Nat→Prop} {w:World} {B n:Nat} {a:Option Addr} {cap:Nat} {T:List Sp} (h:qE S w B (.slice a n cap) n T) {k:Nat} {x:Sp} (hx:T[k]? =some x):∃g,a=some ⟨g,0,none⟩∧g<w.heap.size∧w.cell? ⟨g,k*5,none⟩=some (.int .i64 x.2.1.1)∧n≤cap:=by
 obtain⟨hT,xs,ho,hxs⟩:=h
 have hk:=(List.getElem?_eq_some_iff.1 hx).1
 rcases ho.2 with ⟨hv,h0⟩ | ⟨g,cap2,cur,hv,_,_,h3,_⟩
 · omega
 · cases hv
   obtain⟨p0,_⟩:=hxs k x hx
   exact⟨g,rfl,(zo ho rfl).2,zF ho rfl _ _ p0,h3⟩
theorem QW {T:List Sp} {k:Nat} {x:Sp} (h:((T.take k).map fun x=>x.2.1.1).Nodup) (hx:T[k]? =some x) (hn:∀m y,m<k→T[m]? =some y→y.2.1.1≠x.2.1.1):((T.take (k+1)).map fun x=>x.2.1.1).Nodup:=by
 rw[List.take_add_one,hx,List.map_append,List.nodup_append]
 refine⟨h,by simp,fun a ha b hb=>?_⟩
 simp only[Option.toList_some,List.map_cons,List.map_nil,List.mem_singleton] at hb
 obtain⟨y,hy,rfl⟩:=List.mem_map.1 ha
 obtain⟨m,hm⟩:=List.mem_iff_getElem?.1 hy
 rw[List.getElem?_take] at hm
 split at hm
 · next hlt=>rw[hb];exact hn m y hlt hm
 · cases hm
end Go.Proofs.YtgkmmnihaiopaaaGreat
