/-
  .
-/
import Derived.Test.YtnikgofkldkdkaaRKidsQt
import Derived.Test.YtnikgofkldkdkaaNSepIQt
set_option maxRecDepth 100000
set_option maxHeartbeats 40000000
set_option linter.unusedVariables false
set_option linter.unusedSimpArgs false
namespace Go.Proofs.Ytnikgofkldkdkaa
open Go.RowKit
def wiF (id:Int)(tx:ByteArray):Fo→Fo×Bool
 | .nil=>(.nil,false)
 | .node x y k l r=>if k.1=id then (.node x y (k.1,k.2.1,tx) l r,true) else if (wiF id tx l).2=true then (.node x y k (wiF id tx l).1 r,true) else (.node x y k l (wiF id tx r).1,(wiF id tx r).2)
def wiT (id:Int)(tx:ByteArray)(t:Tr):Tr×Bool:=if t.id=id then (⟨t.id,t.kind,tx,t.kids⟩,true) else if (wiF id tx t.kids).2=true then (⟨t.id,t.kind,t.text,(wiF id tx t.kids).1⟩,true) else (t,false)
section
variable {id:Int} {tx:ByteArray}
theorem zjt:∀(f:Fo) (i:Nat) (u:Tr),zB f i=some u→(∀j v,j<i→zB f j=some v→(wiT id tx v).2=false)→(wiT id tx u).2=true→wiF id tx f=(zjE f i (wiT id tx u).1,true)
 | .nil,i,u,h,_,_=>by rw[Jy ue5] at h;cases h
 | .node x y k l r,0,u,h,_,hu=>by
   have e:u=⟨k.1,k.2.1,k.2.2,l⟩:=by have:zB (.node x y k l r) 0=some ⟨k.1,k.2.1,k.2.2,l⟩:=rfl;rw[this] at h;exact (Option.some.inj h).symm
   subst e
   unfold wiT at hu ⊢
   simp only at hu ⊢
   rw[wiF]
   by_cases h1:k.1=id
   · rw[ipQ h1,ipQ h1];rfl
   · rw[inQ h1] at hu ⊢
     by_cases h2:(wiF id tx l).2=true
     · rw[ipQ h2,inQ h1,ipQ h2];rfl
     · rw[inQ h2] at hu;cases hu
 | .node x y k l r,i+1,u,h,hj,hu=>by
   have h0:(wiT id tx ⟨k.1,k.2.1,k.2.2,l⟩).2=false:=hj 0 _ om rfl
   have hr:zB r i=some u:=h
   have e:=zjt r i u hr (fun j v hj2 hv=>hj (j+1) v om hv) hu
   unfold wiT at h0
   simp only at h0
   rw[wiF]
   by_cases h1:k.1=id
   · rw[ipQ h1] at h0;cases h0
   · rw[inQ h1] at h0 ⊢
     by_cases h2:(wiF id tx l).2=true
     · rw[ipQ h2] at h0;cases h0
     · rw[inQ h2,e];rfl
theorem za1:∀f:Fo,za (wiF id tx f).1=za f
 | .nil=>rfl
 | .node x y k l r=>by
   rw[wiF]
   split
   · rfl
   · split
     · simp only[za];rw[za1 l]
     · simp only[za];rw[za1 r]
theorem QB (t:Tr):za (wiT id tx t).1.kids=za t.kids:=by
 unfold wiT
 split
 · rfl
 · split
   · exact za1 t.kids
   · rfl
end
def yC (a b:Sf):List Sf×Bool:=
 if a.op=b.op∧(a.op=4∨a.op=3)∧a.id=b.id then ([b],true)
 else if a.op=1∧b.op=2∧a.sub.id=b.id then ([],true)
 else if a.op=1∧b.op=4∧(wiT b.id b.tx a.sub).2=true then ([⟨a.op,a.id,a.par,a.at_,a.tx,(wiT b.id b.tx a.sub).1⟩],true)
 else ([],false)
theorem zf7 (a b:Sf):(yC a b).1.length≤1:=by
 unfold yC
 split
 · exact NlrQ _
 · split
   · exact NzlQ _
   · split
     · exact NlrQ _
     · exact NzlQ _
theorem zdd {a b:Sf}{M:Nat}(ha:za a.sub.kids+1≤M)(hb:za b.sub.kids+1≤M):∀s∈(yC a b).1,za s.sub.kids+1≤M:=by
 unfold yC
 intro s hs
 split at hs
 · simp at hs;rw[hs];exact hb
 · split at hs
   · simp at hs
   · split at hs
     · simp at hs;rw[hs];simp only;rw[QB];exact ha
     · simp at hs
def yu:List Sf→List Sf×Bool
 | []=>([],false)
 | [a]=>([a],false)
 | a::b::r=>if (yC a b).2=true then ((yC a b).1++r,true) else (a::(yu (b::r)).1,(yu (b::r)).2)
theorem zbt:∀{l:List Sf},(yu l).2=false→(yu l).1=l
 | [],_=>rfl
 | [a],_=>rfl
 | a ::b::r,h=>by
   rw[yu] at h ⊢
   split at h
   · cases h
   · rename_i h1
     rw[inQ h1]
     simp only at h ⊢
     rw[zbt h]
theorem YM:∀{l:List Sf},(yu l).2=true→(yu l).1.length<l.length
 | [],h=>by cases h
 | [a],h=>by cases h
 | a ::b::r,h=>by
   rw[yu] at h ⊢
   split at h
   · rename_i h1
     rw[ipQ h1]
     have:=zf7 a b
     simp only[LlaQ,LlcQ];omega
   · rename_i h1
     rw[inQ h1]
     simp only at h ⊢
     have:=YM h
     simp only[LlcQ] at this ⊢;omega
theorem Ji {M:Nat}:∀{l:List Sf},(∀s∈l,za s.sub.kids+1≤M)→∀s∈(yu l).1,za s.sub.kids+1≤M
 | [],_,s,hs=>by simp[yu] at hs
 | [a],h,s,hs=>h s (by simpa [yu] using hs)
 | a ::b::r,h,s,hs=>by
   rw[yu] at hs
   split at hs
   · rcases List.mem_append.1 hs with h1 | h1
     · exact zdd (h a sp1) (h b sp1) s h1
     · exact h s (by simp[h1])
   · rcases List.mem_cons.1 hs with h1 | h1
     · rw[h1];exact h a sp1
     · exact Ji (fun t ht=>h t (List.mem_cons_of_mem _ ht)) s h1
theorem zaB:∀(l:List Sf) (i:Nat) (a b:Sf),l[i]? =some a→l[i+1]? =some b→(∀j x y,j<i→l[j]? =some x→l[j+1]? =some y→(yC x y).2=false)→(yC a b).2=true→yu l=(l.take i++(yC a b).1++l.drop (i+2),true)
 | [],i,a,b,h,_,_,_=>by simp at h
 | [x],i,a,b,_,h,_,_=>by simp at h
 | x ::y::r,0,a,b,ha,hb,_,hp=>by
   simp at ha hb;subst ha;subst hb
   rw[yu,ipQ hp];simp
 | x ::y::r,i+1,a,b,ha,hb,hj,hp=>by
   have h0:(yC x y).2=false:=hj 0 x y om rfl rfl
   have e:=zaB (y::r) i a b (by simpa using ha) (by simpa using hb) (fun j u v hji hu hv=>hj (j+1) u v om (by simpa using hu) (by simpa using hv)) hp
   rw[yu,inQ (by rw[h0];decide),e]
   simp
theorem YN:∀(l:List Sf),(∀j x y,l[j]? =some x→l[j+1]? =some y→(yC x y).2=false)→yu l=(l,false)
 | [],_=>rfl
 | [x],_=>rfl
 | x ::y::r,hj=>by
   have h0:(yC x y).2=false:=hj 0 x y rfl rfl
   have e:=YN (y::r) fun j u v hu hv=>hj (j+1) u v (by simpa using hu) (by simpa using hv)
   rw[yu,inQ (by rw[h0];decide),e]
def za8:Nat→List Sf→List (List Sf)
 | 0,l=>[l]
 | n+1,l=>if (yu l).2=true then l::za8 n (yu l).1 else [l]
def ofK:Nat→List Sf→List Sf
 | 0,l=>l
 | n+1,l=>if (yu l).2=true then ofK n (yu l).1 else l
theorem zdD (n:Nat)(l:List Sf):za8 n l≠[]:=by cases n with
 | zero=>simp[za8]
 | succ n=>rw[za8];split<;>simp
theorem zgD:∀(n:Nat) (l:List Sf),(za8 n l).getLast (zdD n l)=ofK n l
 | 0,l=>rfl
 | n + 1,l=>by
   by_cases h:(yu l).2=true
   · have e:za8 (n+1) l=l::za8 n (yu l).1:=by rw[za8,ipQ h]
     simp only[e]
     rw[List.getLast_cons (zdD n _),zgD n,ofK,ipQ h]
   · have e:za8 (n+1) l= [l]:=by rw[za8,inQ h]
     simp only[e]
     rw[ofK,inQ h];rfl
theorem zfh:∀(n:Nat) (l:List Sf),(ofK n l).length≤l.length
 | 0,l=>NlrQ _
 | n + 1,l=>by
   rw[ofK]
   split
   · rename_i h1
     have h2:=zfh n (yu l).1
     have:=YM h1;omega
   · exact NlrQ _
theorem zj6 {n:Nat}{l:List Sf}(h:(yu l).2=false):ofK n l=l:=by cases n with
 | zero=>rfl
 | succ n=>rw[ofK,inQ (by rw[h];decide)]
theorem zbs {M:Nat}:∀(n:Nat) {l:List Sf},(∀s∈l,za s.sub.kids+1≤M)→∀s∈ofK n l,za s.sub.kids+1≤M
 | 0,l,h=>h
 | n +1,l,h=>by
   rw[ofK]
   split
   · exact zbs n (Ji h)
   · exact h
end Go.Proofs.Ytnikgofkldkdkaa
namespace Go.Proofs.Ytnikgofkldkdkaa
open Go.RowKit Go.Shelf
attribute [local go_sem] Oper.semAt_some
def Zl (V:World)(f:Fo)(a:Option Addr):List Nat:=hdB 0 f a++zz V 0 f (adB a) (adO a)
theorem zbk {V V' :World}{Y:Nat→Prop}{f:Fo}{a:Option Addr}(h:zk V Y f a)(hY:∀q,Y q→V'.heap[q]? =V.heap[q]?):Zl V' f a=Zl V f a:=by
 cases f with
 | nil=>rfl
 | node x y k l r=>
   obtain⟨b,o,e,hb⟩:=yS h sp1
   subst e
   rw[Zl,Zl,show adB (some ⟨b,o,none⟩)=b from rfl,show adO (some ⟨b,o,none⟩)=o from rfl,jg h (fun q hq j=>jV (hY q hq) j)]
theorem zbW {V:World}{X:Nat→Prop}{f:Fo}{b o:Nat}(h:zk V X f (some ⟨b,o,none⟩))(hf:f≠ .nil):X b:=by
 obtain⟨b1,o1,e,hb⟩:=yS h hf
 cases e;exact hb
theorem zaM (t:Tr):zh t≠ .nil:=by simp[zh]
theorem zgv {w W:World}{S:Nat→Prop}{t:Tr}{n0 RB cap:Nat}{ka:Option Addr}(hc:W.heap[RB]? =some (.cells #[.int .i64 t.id,.int .i64 t.kind,.string t.text,.slice ka (foLen t.kids) cap] 27 (0,0)))(hk:zk W S t.kids ka)(hS:∀q,S q→q<n0)(d c:Nat):YA W n0 RB t [⟨d,some ⟨RB,0,none⟩,c,zh t⟩]:=by
 have c3:W.cell? ⟨RB,0+3,none⟩=some (.slice ka (foLen t.kids) cap):=by rw[corQ _ _ _ _ _ _ hc];rfl
 have e:zz W n0 (zh t) RB 0= []:=by
  rw[zh,zz,zI c3]
  obtain⟨kf,hkf⟩:∃kf,kf=t.kids:=⟨_,rfl⟩
  rw[←hkf] at hk ⊢
  cases kf with
  | nil=>rfl
  | node x y k l r=>
    obtain⟨b,o,e,hb⟩:=yS hk sp1
    subst e
    have h1:hdB n0 (.node x y k l r) (some ⟨b,o,none⟩)= []:=by
     rw[hdB,show adB (some ⟨b,o,none⟩)=b from rfl,inQ (by have:=hS b hb;omega)]
    rw[h1,show adB (some ⟨b,o,none⟩)=b from rfl,show adO (some ⟨b,o,none⟩)=o from rfl]
    have h2:zz W n0 (.node x y k l r) b o= []:=by
     rw[List.eq_nil_iff_forall_not_mem]
     intro q hq
     have:=hS q (qF hk hq)
     have:=Qx hq
     omega
    rw[h2];rfl
 refine⟨by rw[e];simp,⟨Or.inr ⟨_,List.mem_singleton.2 rfl,0,0,rfl,by simp[zh,foLen],rfl⟩,True.intro⟩,fun s hs b off e1 _=>?_,by simp[List.filterMap_cons,zh,za7],fun q hq=>?_⟩
 · rw[List.mem_singleton] at hs
   subst hs
   cases e1
   exact e
 · rw[e,List.mem_singleton] at hq
   subst hq
   exact⟨_,_,hc⟩
theorem zjj {V:World}{n0 RB:Nat}{t:Tr}{X:Nat→Prop}{ra:Option Addr}{m rc:Nat}(h:YA V n0 RB t [])(hr:zk V X (zh t) (some ⟨RB,0,none⟩))(hn0:n0≤RB)(hc:V.cell? ⟨RB,3,none⟩=some (.slice ra m rc)):zk V (fun q=>X q∧n0≤q) t.kids ra∧(Zl V t.kids ra).Nodup∧∀q∈Zl V t.kids ra,kN V q:=by
 have hd:=(h.done.kept (X:=X) (W':=fun _ _=>False) (fun _ _ _=>rfl) (fun q j ⟨s,hs,_⟩=>by simp at hs) _ _ _ hr).new _ _ _ hr hn0
 obtain⟨b1,o1,ka,cap,e,_,_,_,_,c3,_,hk,_⟩:=hd
 cases e
 rw[Nat.zero_add,hc] at c3
 cases c3
 have e:zz V n0 (zh t) RB 0=hdB n0 t.kids ra++(zz V n0 t.kids (adB ra) (adO ra)++[]):=by rw[zh,zz,zI (by rw[Nat.zero_add];exact hc)];rfl
 rw[List.append_nil] at e
 have e2:Zl V t.kids ra=zz V n0 (zh t) RB 0:=by
  rw[e,Zl]
  obtain⟨kf,hkf⟩:∃kf,kf=t.kids:=⟨_,rfl⟩
  rw[←hkf] at hk ⊢
  cases kf with
  | nil=>rfl
  | node x y k l r=>
    obtain⟨b,o,e,hb⟩:=yS hk sp1
    subst e
    have hk2:zk V (fun q=>n0≤q) (.node x y k l r) (some ⟨b,o,none⟩):=hk.kept fun q hq=>⟨hq.2,rfl⟩
    rw[show adB (some ⟨b,o,none⟩)=b from rfl,show adO (some ⟨b,o,none⟩)=o from rfl,YT hk2]
    simp only[hdB]
    rw[show adB (some ⟨b,o,none⟩)=b from rfl,ipQ hb.2,ipQ (NzlQ _)]
 rw[e2]
 exact⟨hk,(List.nodup_cons.1 h.nodup).2,fun q hq=>h.free q (List.mem_cons_of_mem _ hq)⟩
def zgM (t:Tr)(w:World)(e:Ending)(w' :World):Prop:=∃ra rc,e= .returned (.agg #[.int .i64 t.id,.int .i64 t.kind,.string t.text,.slice ra (foLen t.kids) rc])∧foLen t.kids≤rc∧zk w' (kP w w') t.kids ra∧(Zl w' t.kids ra).Nodup∧(∀q∈Zl w' t.kids ra,kN w' q)∧Below w.heap.size w w'
def zko (w W:World)(S:Nat→Prop)(t:Tr)(T:Nat→Prop)(A:List Seg)(V:World):Prop:=jP w W.heap.size (w.heap.size+1+1) (exc w S) t T A V∧(yE A≤500000∧YA V w.heap.size (w.heap.size+1+1) t A)∧∃zs:Array Value,zs= #[.int .i64 0,.int .i64 0,.string ⟨#[]⟩,.slice none 0 0]∧V.heap[w.heap.size+1]? =some (.cells zs 27 (0,0))
theorem zfI {w V:World}{S:Nat→Prop}{t:Tr}{B D:Nat}{T:Nat→Prop}{ra:Option Addr}{rc:Nat}(h:jP w B (w.heap.size+1+1) (exc w S) t T [] V)(hs:YA V w.heap.size (w.heap.size+1+1) t [])(hc3:V.cell? ⟨w.heap.size+1+1,3,none⟩=some (.slice ra (foLen t.kids) rc))(hrc:foLen t.kids≤rc)
 (hz:V.heap[w.heap.size+1]? =some (.cells #[.int .i64 0,.int .i64 0,.string ⟨#[]⟩,.slice none 0 0] 27 (0,0))) (hK:V.heap[D]? =some (.deferred (some []))) (hD:w.heap.size+1<D) (W' :World) (hW' :W'=(((((V.setCell ⟨w.heap.size+1,0,none⟩ (.int .i64 t.id)).setCell ⟨w.heap.size+1,1,none⟩ (.int .i64 t.kind)).setCell ⟨w.heap.size+1,2,none⟩ (.string t.text)).setCell ⟨w.heap.size+1,3,none⟩ (.slice ra (foLen t.kids) rc)).putObj D (.deferred none)))
 (hB:Below w.heap.size w W'):zgM t w (.returned (.agg #[.int .i64 t.id,.int .i64 t.kind,.string t.text,.slice ra (foLen t.kids) rc])) W':=by
 obtain⟨q1,q2,q3⟩:=zjj hs h.root om hc3
 have hall:∀x,x≠w.heap.size+1→x≠D→W'.heap[x]? =V.heap[x]?:=fun x hx hd=>by
  rw[hW',WphQ hd,BhsQ _ _ _ _ hx,BhsQ _ _ _ _ hx,BhsQ _ _ _ _ hx,BhsQ _ _ _ _ hx]
 have hX:∀x,(XT (ex T (exc w S)) V x∧w.heap.size≤x)→W'.heap[x]? =V.heap[x]?∧x<W'.heap.size:=fun x hx=>by
  obtain⟨⟨⟨cs,ty,fr,hcx⟩,hn⟩,_⟩:=hx
  have hxe:x≠w.heap.size+1:=fun e=>hn (Or.inr (Or.inl e))
  have hxD:x≠D:=fun e=>by rw[e,hK] at hcx;cases hcx
  exact⟨hall x hxe hxD,lohQ ((hall x hxe hxD).trans hcx)⟩
 have hkb:=zbk q1 (fun q hq=>(hX q hq).1)
 refine⟨ra,rc,rfl,hrc,q1.kept fun x hx=>⟨⟨hx.2,(hX x hx).2⟩,(hX x hx).1⟩,by rw[hkb];exact q2,fun q hq=>?_,hB⟩
 rw[hkb] at hq
 obtain⟨cs,ty,hcq⟩:=q3 q hq
 refine⟨cs,ty,?_⟩
 obtain⟨kf,hkf⟩:∃kf,kf=t.kids:=⟨_,rfl⟩
 rw[←hkf] at q1 hq
 have hXq:XT (ex T (exc w S)) V q∧w.heap.size≤q:=by
  cases kf with
  | nil=>simp[Zl,hdB,zz] at hq
  | node x y k l r=>
    obtain⟨b,o,e,hb⟩:=yS q1 sp1
    subst e
    rcases List.mem_append.1 hq with hq | hq
    · rw[(zbZ hq).2];exact hb
    · exact qF q1 hq
 exact ((hX q hXq).1).trans hcq
theorem zfH (w:World)(S:Nat→Prop)(nv:Value)(t:Tr)(hS:∀x,S x→yD w x)(ht:zK w S nv t)(hsz:za t.kids+1≤500000):Calls Try.prog 40 #[nv] w (zgM t w):=by
 obtain⟨ka,cap,rfl,hcap,hk⟩:=ht
 obtain⟨n,hn⟩:∃n,n=foLen t.kids:=⟨_,rfl⟩
 rw[←hn]
 obtain⟨k1,k2,k3,k4,k5⟩:=zdF w #[.int .i64 t.id,.int .i64 t.kind,.string t.text,.slice ka n cap] #[.int .i64 0,.int .i64 0,.string ⟨#[]⟩,.slice none 0 0] (.slice (some ⟨w.heap.size+1+1,0,none⟩) 1 1)
 have HW:=hH (aN k1 (aN k2 (aN k3 (aN k4 k5))))
 have H:=hH (aN hS (aN hcap (aN hk (aN hsz hn))))
 clear hS hcap hk hsz hn k1 k2 k3 k4 k5
 refine (callsIn_wide (n:=6)).1 ?_
 refine callsIn_of_wp_marks Try.func40 rfl trivial ?_ rfl
 simp only[Try.ntmps40,List.size_toArray,LlcQ,List.length_nil,Nat.reduceAdd,Nat.reduceSub,Array.replicate_succ,Array.replicate_zero,List.push_toArray,List.append_toArray,List.nil_append,List.cons_append]
 gi_wp2_with (refine⟨trivial,?_⟩;gi_at_call 48;refine (callsIn_wide.2 (ze1 _ _ _ _)).mono ?_;rintro e w' ⟨rfl,rfl⟩)
 generalize hW:World.alloc _ _=W at HW ⊢
 clear hW
 obtain⟨k1,k2,k3,k4,k5⟩:=HW.out
 have hSW:∀x,S x→W.heap[x]? =w.heap[x]?:=fun x hx=>k2.block x (H.out.1 x hx).lt
 have hroot:=Q4 hSW H.out.2.1 H.out.2.2.1 (by rw[←H.out.2.2.2.2];exact k4)
 have hroot2:zk W (XT (ex (fun _=>False) (exc w S)) W) (zh t) (some ⟨w.heap.size+1+1,0,none⟩):=hroot.kept fun x hx=>⟨⟨by
  rcases hx with hx | hx
  · obtain⟨cs,ty,fr,hc⟩:=H.out.1 x hx
    exact⟨cs,ty,fr,(hSW x hx).trans hc⟩
  · rw [hx];exact⟨_,_,_,k4⟩,fun h=>by
    rcases h with h | h | h
    · exact h
    · rcases hx with hx | hx
      · have:=(H.out.1 x hx).lt;omega
      · omega
    · rcases hx with hx | hx
      · exact h.2 hx
      · omega⟩,rfl⟩
 have hn4:w.heap.size+4=W.heap.size:=k1.symm
 refine zaK om rfl ⟨1,some ⟨w.heap.size+1+1,0,none⟩,1,zh t⟩ rfl (by simp[zh]) (by simp[zh,foLen]) (by rw[yH];exact H.out.2.2.2.1) (by rw[corQ _ _ 0 _ _ _ k5];rfl) rfl
  (zko w W S t) (fun _ _ _=>False) ?turn (fun h _ _=>h.elim) ?empty ?start ?round ?done ?stop
 case turn=>
  rintro T T' A V V' ⟨h1,h9,zs,hz,h2⟩ ht hw
  refine⟨h1.turn om ht hw,⟨h9.1,h9.2.turn h1.root (fun s hs=>(h1.rows s hs).1) (fun q hq=>(QC ht hw q hq).2) (zbW h1.root (zaM t))⟩,zs,hz,(ht.block _ (lohQ h2) (fun h=>?_)).trans h2⟩
  rcases h with h | h
  · have:=h1.hT _ h;omega
  · omega
 case empty=>
  rintro T A B d c a V ⟨h1,h9,h2⟩
  exact⟨⟨h1.below,h1.hT,h1.big,h1.exl,h1.root,fun s hs=>h1.rows s uc2⟩,⟨by have h9:=h9.1;rw[yF,zL] at h9;rw[yF];omega,h9.2.empty (h1.root.kept fun _ _=>⟨True.intro,rfl⟩)⟩,h2⟩
 case start=>
  refine⟨⟨k2,fun _ h=>h.elim,NlrQ _,fun x hx=>by rcases hx with hx | hx<;>omega,hroot2,fun s hs=>?_⟩,⟨by rw[zL,qI,yH];have:=H.out.2.2.2.1;omega,zgv (w:=w) (S:=S) (cap:=cap) (by rw[←H.out.2.2.2.2];exact k4) (H.out.2.2.1.kept fun q hq=>⟨hq,hSW q hq⟩) (fun q hq=>(H.out.1 q hq).lt) _ _⟩,_,rfl,k3⟩
  rw[List.mem_singleton] at hs
  subst hs
  exact⟨hroot2,fun _=>⟨_,_,rfl,by omega,_,_,k4⟩⟩
 case stop=>exact fun _ _ _ _ _ h _=>h.elim
 case done=>
  rintro D T V hD ⟨hI,hag,zs,rfl,hz⟩ hK
  obtain⟨b,off,ra,rc,e1,hb,c0,c1,c2,c3,c4,hkk,_⟩:=hI.root
  cases e1
  obtain⟨m,hm⟩:∃m,m=foLen t.kids:=⟨_,rfl⟩
  rw[←hm] at c3 c4
  simp only[Nat.zero_add] at c0 c1 c2 c3
  have z0:V.cell? ⟨w.heap.size+1,0,none⟩=some (.int .i64 0):=by rw[corQ _ _ 0 _ _ _ hz];rfl
  have z1:V.cell? ⟨w.heap.size+1,1,none⟩=some (.int .i64 0):=by rw[corQ _ _ 1 _ _ _ hz];rfl
  have z2:V.cell? ⟨w.heap.size+1,2,none⟩=some (.string ⟨#[]⟩):=by rw[corQ _ _ 2 _ _ _ hz];rfl
  have z3:V.cell? ⟨w.heap.size+1,3,none⟩=some (.slice none 0 0):=by rw[corQ _ _ 3 _ _ _ hz];rfl
  have zf:∀j,V.frozen? ⟨w.heap.size+1,j,none⟩=false:=fun j=>forQ _ _ j _ _ hz
  have HE:=hH (aN hI (aN hkk (aN hm (aN hz (aN hK (aN hD c4))))))
  have HSP:=hH (aN hag.2 c3)
  clear hag hI hkk hm hz hK HW H k1 k2 k3 k4 k5 hSW hroot hroot2 hb c4 hD hn4
  gi_wp2
  obtain⟨q1,q2,q3,q4,q5,q6,q7⟩:=HE.out
  have hcp:=J2 q1 q2 (by rw[←q3];exact q7) q4 q5 uc6
  have hcs:=zfI (ra:=ra) (rc:=rc) q1 HSP.out.1 (by rw[←q3];exact HSP.out.2) (by rw[←q3];exact q7) q4 q5 uc6 _ rfl hcp.2.2.choose_spec.2.2
  rw[←q3] at hcp hcs
  refine⟨by simp,.inl ⟨_,_,rfl,run_takeDeferred hcp.1,?_⟩⟩
  exact⟨_,vF rfl _ _ (w.heap.size+1) 27 _ _ _ rfl hcp.2.1 Try.underlying27 rfl kr1,hcs⟩
 case round=>
  rintro l hl T d c bo oo ad key k r A V hT hV ⟨hI,hag,zs,rfl,hz⟩
  obtain⟨hf,hfree⟩:=hI.rows _ (List.mem_cons_self ..)
  simp only at hf hfree
  obtain⟨b,off,kka,kcap,e1,hbX,c0,c1,c2,c3,c4,hkk,hrr⟩:=hf
  obtain⟨m,hm⟩:∃m,m=foLen k:=⟨_,rfl⟩
  rw[←hm] at c3 c4
  obtain⟨xs,x1,x2,x3,x4⟩:=ze4 hkk
  rw[←hm] at x1 x4
  obtain⟨hag,hsep⟩:=hag
  rw[zL] at hag
  simp only[za] at hag
  have HSP:=hH hsep
  clear hsep
  have hm6:m≤1000000:=by have:=zM k;omega
  refine⟨b,off,e1,fun K hK=>?_⟩
  have HK:=hH hK
  have HI:=hH (aN hI (aN hz (aN hT (aN hm (aN e1 (aN x1 (aN x2 (aN x3 (aN x4 (aN hl (aN hbX (aN hV hag))))))))))))
  clear hI hz hT hm e1 x1 x2 x3 x4 hl hbX hV hK hkk hrr c0 c1 c2 c4 hfree H hag k1 k2 k3 k4 k5 hSW hroot hroot2 hn4
  gi_wp2
  refine HK.out _ fun V1 hV1=>?_
  clear HK
  obtain⟨o',ev,o,ho,hoc⟩:=hV1
  have hbl:b≠l:=fun e=>by
   obtain⟨⟨cs,ty,fr,hc⟩,_⟩:=HI.out.2.2.2.2.2.2.2.2.2.2.1
   rw[e,ho] at hc;cases hc;cases hoc
  have hV1s:∀x,x≠l→V1.heap[x]? =V.heap[x]?:=fun x hx=>by rw[ev];exact WphQ hx
  have hsz1:V1.heap.size=V.heap.size:=by rw[ev];simp[World.putObj]
  have hI1:jP w W.heap.size (w.heap.size+1+1) (exc w S) t T (⟨d,ad,c,.node bo oo key k r⟩::A) V1:=by
   exact sf0
  have c3' :V1.cell? ⟨b,off+3,none⟩=some (.slice kka m kcap):=(World.cell?_of_block (hV1s b hbl)).trans c3
  have hxc:∀ad,kka=some ad→∀j u,xs[j]? =some u→V1.cell? (ad.add j)=some u:=fun ad he j u hj=>by
   exact sd8
  have hclone:=kz V1 kka m kcap xs HI.out.2.2.2.2.2.1 HI.out.2.2.2.2.2.2.1 om hxc HI.out.2.2.2.2.2.2.2.2.1
  have hnext:=fun (w1:World) (rv:Value) hb1 hown=>jP.next (w1:=w1) (rv:=rv) (by have:=HW.out.1;omega) (fun x hx=>by rw[hsz1];exact (HI.out.2.2.1 x hx).1) hI1 HI.out.2.2.2.1 c3' HI.out.2.2.2.2.1 HI.out.2.2.2.2.2.1 hxc hb1 hown
  have hsep1:YA V1 w.heap.size (w.heap.size+1+1) t (⟨d,ad,c,.node bo oo key k r⟩::A):=HSP.out.turn HI.out.1.root (fun s hs=>(HI.out.1.rows s hs).1) (fun q hq=>hV1s q (fun e=>by
   obtain⟨⟨cs,ty,fr,hc⟩,_⟩:=hq
   rw[e,ho] at hc;cases hc;cases hoc)) (zbW HI.out.1.root (zaM t))
  have hfb:=(hI1.rows _ (List.mem_cons_self ..)).2 sp1
  have hsn:=fun (w1:World) (ra:Option Addr) (rc:Nat) (hb1:Below V1.heap.size V1 w1) (hown:w1.ownsRow V1.heap.size 27 4 (.slice ra m rc) m xs)=>YA.next (w1:=w1) (ra:=ra) (rc:=rc) hsep1 hI1.root (fun s hs=>(hI1.rows s hs).1) (fun q hq=>hq.1.lt) (by obtain⟨b5,o5,e5,h5,_⟩:=hfb;have e6:=HI.out.2.2.2.2.1;rw[e6] at e5;cases e5;exact h5) (by have:=hI1.below.size;omega) (zbW hI1.root (zaM t)) HI.out.2.2.2.1 c3' HI.out.2.2.2.2.1 (by obtain⟨b5,o5,e5,_,h5⟩:=hfb;have e6:=HI.out.2.2.2.2.1;rw[e6] at e5;cases e5;exact h5) (World.block_lt_of_cell? _ _ c3') HI.out.2.2.2.2.2.1 hxc hb1 hown ((World.cell?_of_block (hb1.block b (World.block_lt_of_cell? _ _ c3'))).trans c3')
  have HX:=hH (aN hclone (aN hnext (aN hsz1 (aN hV1s (aN ho (aN hoc hsn))))))
  clear hsn hfb hsep1 HSP hclone hnext hxc hI1 ev hV1s ho hoc hsz1 c3
  gi_wp2_with (refine⟨trivial,?_⟩;gi_at_call 57;refine (CallsIn.inRound l (callsIn_wide.2 HX.out.1)).mono ?_;rintro e w1 ⟨rv,rfl,hb1,hown⟩;obtain⟨ra,rc,rfl,q1,q2,q3,q4,q5,q6,q7⟩:=HX.out.2.1 w1 rv hb1 hown;have HQ:=hH (aN q1 (aN q5 (aN q6 (aN q7 (aN q4 (aN hb1 hown))))));clear q1 q4 q5 q6 q7 hown hb1 c3')
  obtain⟨q1,q5,q6,q7,q4,hb1,hown⟩:=HQ.out
  have hm:=HI.out.2.2.2.1
  refine⟨q7,q6,.inl ⟨rfl,ra,rc,by rw[←hm];exact q4,by rw[←hm];exact q1,q5,?_,_,rfl,?_⟩⟩
  · exact⟨by have:=HI.out.2.2.2.2.2.2.2.2.2.2.2.2;rw[zL,zL];simp only;omega,HX.out.2.2.2.2.2.2 w1 ra rc hb1 hown⟩
  · have hbX:=HI.out.2.2.2.2.2.2.2.2.2.2.1
    have hz:=HI.out.2.1
    have hzl:=lohQ hz
    have hne:w.heap.size+1≠l:=fun e=>by
     have h9:=HX.out.2.2.2.2.1
     rw[←e,hz] at h9;cases h9;have h8:=HX.out.2.2.2.2.2.1;cases h8
    exact sg0
end Go.Proofs.Ytnikgofkldkdkaa
namespace Go.Proofs.Ytnikgofkldkdkaa
open Go.RowKit Go.Shelf
section
variable {l n:Nat} {P:Program} {ops:Array Oper} {Q:Exit→Act→World→Prop} {md:Region.Mode}
theorem zcp {i:Nat}{K:Act→World→Prop}{a:Act}{w:World}(hlo:¬LetsOut Q)(hd:∀(j:Nat) (o:Oper) c,ops[j]? =some o→o.op≠ .defer c)(h:wpOp P ops Q i K a w):wpOpIn (Fence.wide.inRound l) n P ops Q i K a w:=by
 unfold wpOp at h
 unfold wpOpIn
 cases ho:ops[i]? with
 | none=>simpa only[ho] using h
 | some o =>
   simp only[ho] at h ⊢
   split
   · rename_i hw
     rw[ipQ hw] at h
     rcases h with h | ⟨_,h⟩
     · refine⟨fun _ _=>trivial,?_⟩
       rw[show (Fence.wide.inRound l).round=some l from rfl,Oper.semAt_some l _ o (fun c=>hd i o c ho)]
       unfold Oper.wp at h
       generalize (execOp a.eval o).run P w=r at h ⊢
       cases r with
       | ok x w'=>
         cases x<;>simp only[Oper.upon,Oper.uponIn] at h ⊢
         all_goals first
          | exact h
          | exact⟨fun h=>(by cases h),CallsIn.inRound l (callsIn_wide.2 h)⟩
          | exact⟨fun h=>(by cases h),fun c cs _=>let ⟨v,w',r,s⟩:=h c cs;⟨v,w',r,stepsIn_wide.2 s⟩⟩
       | halt x w'=>cases x<;>simp only[Oper.upon,Oper.uponIn] at h ⊢<;>exact h
     · exact absurd h hlo
   · rename_i hw
     rw[inQ hw] at h
     exact⟨fun _ _=>trivial,h⟩
theorem Yx (hlo:¬LetsOut Q)(hd:∀(j:Nat) (o:Oper) c,ops[j]? =some o→o.op≠ .defer c):∀(fuel:Nat) (listed:Array Bool) (a:Act) (w:World),wpAny P md ops Q fuel listed a w→wpAnyIn (Fence.wide.inRound l) n P md ops Q fuel listed a w
 | 0,_,_,_,h=>h
 | fuel+1,_,_,_,h=>⟨h.1,fun i hi=>zcp hlo hd (wpOp_mono (fun a' w' h'=>Yx hlo hd fuel _ a' w' h') (h.2 i hi))⟩
theorem Zx {S:World→Prop}{id:Nat}{a:Act}{w:World}(hm:P.follows .mixedOrders=true)(hlo:¬LetsOut Q)(hd:∀(j:Nat) (o:Oper) c,ops[j]? =some o→o.op≠ .defer c)(hS:S w.drew)
 (h:S w.drew→wpAnyH P .any ops Q S ops.size (Array.replicate ops.size false) a w.drew):(Code.region id ops true).wpIn (Fence.wide.inRound l) n P Q a w:=
 wpIn_region_any hm (Yx hlo hd _ _ _ _ (wpAny_of_held _ _ _ _ (h hS)))
end
def marks (Ds:List Nat):List Deferred:=Ds.map fun D=>{ target:= .collected D,args:= #[] }
def kL (w:World):List Nat→World
 | []=>w
 | D::Ds=>kL (w.putObj D (.deferred none)) Ds
theorem Jn:∀(Ds:List Nat) (w:World),(kL w Ds).heap.size=w.heap.size
 | [],_=>rfl
 | D::Ds,w=>by rw[kL,Jn Ds];simp[World.putObj]
theorem Zw:∀(Ds:List Nat) (w:World) {q:Nat},q∉Ds→(kL w Ds).heap[q]? =w.heap[q]?
 | [],_,_,_=>rfl
 | D ::Ds,w,q,h=>by
   rw[kL,Zw Ds _ (fun hq=>h (List.mem_cons_of_mem _ hq))]
   exact WphQ (fun e=>h (by rw[e];exact List.mem_cons_self ..))
theorem zcn (Ds:List Nat):∀(w:World) (B:Nat),(∀D∈Ds,B≤D)→B≤w.heap.size→Below B w (kL w Ds):=by
 induction Ds with
 | nil=>exact fun w B _ _=>BrQ _ _
 | cons D Ds ih=>
   intro w B h hB
   have h1:=ih (w.putObj D (.deferred none)) B (fun D' hD=>h D' (List.mem_cons_of_mem _ hD)) (by simpa [World.putObj] using hB)
   have hD:=h D (List.mem_cons_self ..)
   exact⟨h1.os,h1.tape,h1.output,by have:=h1.size;simpa [kL,World.putObj] using this,fun q hq=>(h1.block q hq).trans (WphQ om)⟩
theorem Zn {F:Fence}{n:Nat}{P:Program}{fn:Func}{tmps:Array Value}{R:Ending→World→Prop}{v:Value}:∀(Ds:List Nat) (w:World),Ds.Nodup→(∀D∈Ds,w.heap[D]? =some (.deferred (some [])))→(∀w',(results fn tmps).run P w'= .ok v w')→R (.returned v) (kL w Ds)→LeavesInM F n P fn tmps R (marks Ds) .returning w
 | [],w,_,_,hr,h=>⟨v,hr w,h⟩
 | D ::Ds,w,hd,hall,hr,h=>by
   obtain⟨d1,d2⟩:=List.nodup_cons.1 hd
   refine⟨by simp,Or.inl ⟨D,_,rfl,run_takeDeferred (hall D (List.mem_cons_self ..)),?_⟩⟩
   exact Zn Ds _ d2 (fun D' hD=>(WphQ (fun e=>d1 (by rw[←e];exact hD))).trans (hall D' (List.mem_cons_of_mem _ hD))) hr h
end Go.Proofs.Ytnikgofkldkdkaa
namespace Go.Proofs.Ytnikgofkldkdkaa
open Go.RowKit Go.Shelf
def yP (V:World):Fo→Nat→Nat→List (Int×(Nat×Nat))
 | .nil,_,_=>[]
 | .node _ _ k l r,b,o=>(k.1,(b,o))::(yP V l (adB (zO V b o)) (adO (zO V b o))++yP V r b (o+4))
def zR (i:Int):List (Int×(Nat×Nat))→Option (Nat×Nat)
 | []=>none
 | p::L=>if p.1=i then some p.2 else zR i L
theorem vE (i:Int):∀(L M:List (Int×(Nat×Nat))),zR i (L++M)=(zR i L).or (zR i M)
 | [],M=>by simp[zR]
 | p ::L,M=>by
   rw[List.cons_append,zR,zR,vE i L M]
   split<;>simp
theorem Zh (i:Int):∀(L:List (Int×(Nat×Nat))) (a:Nat×Nat),zR i L=some a→(i,a)∈L
 | [],a,h=>by cases h
 | p ::L,a,h=>by
   rw[zR] at h
   split at h
   · rename_i hp;cases h;subst hp;exact List.mem_cons_self ..
   · exact List.mem_cons_of_mem _ (Zh i L a h)
def ZE:Fo→Prop
 | .nil=>True
 | .node _ _ k l r=>(Lit.int .i64 k.1).wf=true∧ZE l∧ZE r
theorem Qu {V:World}:∀(f:Fo) (b o:Nat),(yP V f b o).length=za f
 | .nil,_,_=>rfl
 | .node _ _ k l r,b,o=>by rw[yP,LlcQ,LlaQ,Qu l,Qu r];simp[za]
theorem jl {V:World}(id:Int)(tx:ByteArray):∀(f:Fo) (b o:Nat),(wiF id tx f).2=(zR id (yP V f b o)).isSome
 | .nil,_,_=>rfl
 | .node _ _ k l r,b,o=>by
   rw[wiF,yP,zR]
   by_cases h:k.1=id
   · rw[ipQ h,ipQ h];rfl
   · rw [inQ h,inQ h,vE]
     have hl:=jl (V:=V) id tx l (adB (zO V b o)) (adO (zO V b o))
     by_cases h2:(wiF id tx l).2=true
     · rw[ipQ h2]
       rw[h2] at hl
       cases hf:zR id (yP V l (adB (zO V b o)) (adO (zO V b o))) with
       | none=>rw[hf] at hl;cases hl
       | some a=>rfl
     · rw[inQ h2]
       simp only[Bool.not_eq_true] at h2
       rw[h2] at hl
       cases hf:zR id (yP V l (adB (zO V b o)) (adO (zO V b o))) with
       | none=>rw[Option.none_or];exact jl id tx r b (o+4)
       | some a=>rw[hf] at hl;cases hl
theorem ZR {f:Fo}{V:World}{X:Nat→Prop}{g go:Nat}(h:f≠ .nil):g∈hdB 0 f (some ⟨g,go,none⟩):=by
 cases f with
 | nil=>exact absurd rfl h
 | node _ _ _ _ _=>simp[hdB,adB]
theorem Yf {V:World}{X:Nat→Prop}:∀{f:Fo} {b o:Nat} {p:Int×(Nat×Nat)},zk V X f (some ⟨b,o,none⟩)→p∈yP V f b o→(p.2.1=b∧o≤p.2.2)∨p.2.1∈zz V 0 f b o
 | .nil,_,_,_,_,h=>by simp[yP] at h
 | .node _ _ k l r,b,o,p,hf,h=>by
   obtain⟨b1,o1,ka,cap,e,hb,_,_,_,h3,_,hl,hr⟩:=hf
   cases e
   rw[yP,zI h3] at h
   rw[zz,zI h3]
   rcases List.mem_cons.1 h with rfl | h
   · exact Or.inl ⟨rfl,NlrQ _⟩
   · rcases List.mem_append.1 h with h | h
     · cases l with
       | nil=>simp[yP] at h
       | node x y k2 l2 r2=>
         obtain⟨g,go,e,hg⟩:=yS hl sp1
         subst e
         rcases Yf hl h with h1 | h1
         · exact Or.inr (List.mem_append_left _ (by rw[h1.1];exact ZR (V:=V) (X:=X) sp1))
         · exact Or.inr (List.mem_append_right _ (List.mem_append_left _ h1))
     · rcases Yf hr h with h1 | h1
       · exact Or.inl ⟨h1.1,by omega⟩
       · exact Or.inr (List.mem_append_right _ (List.mem_append_right _ h1))
theorem jB {V V' :World}{X:Nat→Prop}:∀(f:Fo) (b o:Nat),zk V X f (some ⟨b,o,none⟩)→(∀j,o≤j→V'.cell? ⟨b,j,none⟩=V.cell? ⟨b,j,none⟩)→(∀q∈zz V 0 f b o,∀j,V'.cell? ⟨q,j,none⟩=V.cell? ⟨q,j,none⟩)→
 zk V' X f (some ⟨b,o,none⟩)∧yP V' f b o=yP V f b o∧zz V' 0 f b o=zz V 0 f b o
 | .nil,_,_,_,_,_=>⟨True.intro,rfl,rfl⟩
 | .node _ _ k l r,b,o,hf,h1,h2=>by
   obtain⟨b1,o1,ka,cap,e,hb,c0,c1,c2,c3,c4,hl,hr⟩:=hf
   cases e
   rw[zz,zI c3] at h2
   have c3':=(h1 (o+3) om).trans c3
   obtain⟨r1,r2,r3⟩:=jB r b (o+4) hr (fun j hj=>h1 j om) (fun q hq=>h2 q (by simp[hq]))
   have hL:zk V' X l ka∧yP V' l (adB ka) (adO ka)=yP V l (adB ka) (adO ka)∧zz V' 0 l (adB ka) (adO ka)=zz V 0 l (adB ka) (adO ka):=by
    cases l with
    | nil=>exact⟨True.intro,rfl,rfl⟩
    | node x y k2 l2 r2=>
      obtain⟨g,go,e,hg⟩:=yS hl sp1
      subst e
      exact jB _ g go hl (fun j _=>h2 g (List.mem_append_left _ (ZR (V:=V) (X:=X) sp1)) j) (fun q hq=>h2 q (List.mem_append_right _ (List.mem_append_left _ hq)))
   obtain⟨l1,l2,l3⟩:=hL
   exact⟨⟨b,o,ka,cap,rfl,hb,(h1 _ om).trans c0,(h1 _ om).trans c1,(h1 _ om).trans c2,c3',c4,l1,r1⟩,by rw[yP,yP,zI c3,zI c3',l2,r2],by rw[zz,zz,zI c3,zI c3',l3,r3]⟩
theorem zfr (id:Int)(tx:ByteArray):∀f:Fo,foLen (wiF id tx f).1=foLen f
 | .nil=>rfl
 | .node _ _ k l r=>by
   rw[wiF]
   split
   · rfl
   · split
     · rfl
     · simp only[foLen,zfr id tx r]
theorem ziT {n0:Nat}{f g:Fo}{a:Option Addr}(h:foLen f=foLen g):hdB n0 f a=hdB n0 g a:=by
 cases f with
 | nil=>cases g with
   | nil=>rfl
   | node _ _ _ _ _=>simp[foLen] at h
 | node _ _ _ _ _=>cases g with
   | nil=>simp[foLen] at h
   | node _ _ _ _ _=>rfl
theorem Q7 {V V' :World}{X:Nat→Prop}{id:Int}{tx:ByteArray}{pb po:Nat}(hset:V'.cell? ⟨pb,po+2,none⟩=some (.string tx))(hoth:∀q j,¬(q=pb∧j=po+2)→V'.cell? ⟨q,j,none⟩=V.cell? ⟨q,j,none⟩):
 ∀ (f:Fo) (b o:Nat),zk V X f (some ⟨b,o,none⟩)→(b::zz V 0 f b o).Nodup→zR id (yP V f b o)=some (pb,po)→
  zk V' X (wiF id tx f).1 (some ⟨b,o,none⟩)∧yP V' (wiF id tx f).1 b o=yP V f b o∧zz V' 0 (wiF id tx f).1 b o=zz V 0 f b o
 | .nil,_,_,_,_,h=>by cases h
 | .node x y k l r,b,o,hf,hd,h=>by
   have hin:=fun p (hp:p∈yP V (.node x y k l r) b o)=>Yf hf hp
   obtain⟨b1,o1,ka,cap,e,hb,c0,c1,c2,c3,c4,hl,hr⟩:=hf
   cases e
   rw[zz,zI c3] at hd
   rw[yP,zI c3,zR] at h
   obtain⟨d1,d2⟩:=List.nodup_cons.1 hd
   obtain⟨d3,d4,d5⟩:=List.nodup_append.1 d2
   obtain⟨d6,d7,d8⟩:=List.nodup_append.1 d4
   have hout:∀q,q≠pb→∀j,V'.cell? ⟨q,j,none⟩=V.cell? ⟨q,j,none⟩:=fun q hq j=>hoth q j (fun e=>hq e.1)
   rw[wiF]
   by_cases hk:k.1=id
   · rw [ipQ hk] at h
     have hpb:b=pb∧o=po:=⟨congrArg Prod.fst (Option.some.inj h),congrArg Prod.snd (Option.some.inj h)⟩
     obtain⟨rfl,rfl⟩:=hpb
     rw[ipQ hk]
     have hR:=jB (V':=V') r b (o+4) hr (fun j hj=>hoth b j (fun e=>by have:=e.2;omega)) (fun q hq=>hout q (fun e=>by subst e;exact d1 (by simp[hq])))
     have hL:zk V' X l ka∧yP V' l (adB ka) (adO ka)=yP V l (adB ka) (adO ka)∧zz V' 0 l (adB ka) (adO ka)=zz V 0 l (adB ka) (adO ka):=by
      cases l with
      | nil=>exact⟨True.intro,rfl,rfl⟩
      | node x2 y2 k2 l2 r2=>
        obtain⟨g,go,e,hg⟩:=yS hl sp1
        subst e
        exact jB _ g go hl (fun j _=>hout g (fun e=>d1 (by rw[←e];exact List.mem_append_left _ (ZR (V:=V) (X:=X) sp1))) j) (fun q hq=>hout q (fun e=>d1 (by rw[←e];exact List.mem_append_right _ (List.mem_append_left _ hq))))
     obtain⟨l1,l2,l3⟩:=hL
     obtain⟨r1,r2,r3⟩:=hR
     have c3':=(hoth b (o+3) (fun e=>by have:=e.2;omega)).trans c3
     exact⟨⟨b,o,ka,cap,rfl,hb,(hoth b _ (fun e=>by have:=e.2;omega)).trans c0,(hoth b _ (fun e=>by have:=e.2;omega)).trans c1,hset,c3',c4,l1,r1⟩,by rw[yP,yP,zI c3,zI c3',l2,r2],by rw[zz,zz,zI c3,zI c3',l3,r3]⟩
   · rw [inQ hk,vE] at h
     rw[inQ hk]
     have hw:=jl (V:=V) id tx l (adB ka) (adO ka)
     cases hfl:zR id (yP V l (adB ka) (adO ka)) with
     | some p=>
       rw[hfl] at h hw
       rw[Option.some_or] at h
       cases h
       have hw2:(wiF id tx l).2=true:=by rw[hw];rfl
       rw[ipQ hw2]
       cases l with
       | nil=>cases hfl
       | node x2 y2 k2 l2 r2=>
         obtain⟨g,go,e,hg⟩:=yS hl sp1
         subst e
         have hgh:=ZR (V:=V) (X:=X) (f:= .node x2 y2 k2 l2 r2) (g:=g) (go:=go) sp1
         have hpin:=Yf hl (Zh id _ _ hfl)
         simp only at hpin
         have hp:pb=g∨pb∈zz V 0 (.node x2 y2 k2 l2 r2) g go:=hpin.imp (fun h=>h.1) (fun h=>h)
         have hpb:b≠pb:=fun e=>by
          rcases hp with h | h
          · exact d1 (by rw[e,h];exact List.mem_append_left _ hgh)
          · exact d1 (by rw[e];exact List.mem_append_right _ (List.mem_append_left _ h))
         have hR:=jB (V':=V') r b (o+4) hr (fun j _=>hout b hpb j) (fun q hq=>hout q (fun e=>by
          subst e
          rcases hp with h | h
          · exact d5 q (by rw[h];exact hgh) q (List.mem_append_right _ hq) rfl
          · exact d8 q h q hq rfl))
         obtain⟨l1,l2',l3⟩:=Q7 hset hoth _ g go hl (List.nodup_cons.2 ⟨fun h=>d5 g hgh g (List.mem_append_left _ h) rfl,d6⟩) hfl
         obtain⟨r1,r2',r3⟩:=hR
         have c3':=(hout b hpb (o+3)).trans c3
         have hlen:=zfr id tx (.node x2 y2 k2 l2 r2)
         refine⟨⟨b,o,some ⟨g,go,none⟩,cap,rfl,hb,(hout b hpb _).trans c0,(hout b hpb _).trans c1,(hout b hpb _).trans c2,by rw[hlen];exact c3',by rw[hlen];exact c4,l1,r1⟩,?_,?_⟩
         · rw[yP,yP,zI c3,zI c3',r2']
           rw[show adB (some ⟨g,go,none⟩)=g from rfl,show adO (some ⟨g,go,none⟩)=go from rfl,l2']
         · rw[zz,zz,zI c3,zI c3',r3,ziT hlen]
           rw[show adB (some ⟨g,go,none⟩)=g from rfl,show adO (some ⟨g,go,none⟩)=go from rfl,l3]
     | none =>
       rw[hfl] at h hw
       rw[Option.none_or] at h
       have hw2:¬(wiF id tx l).2=true:=by rw[hw];decide
       rw[inQ hw2]
       have hpin:=Yf hr (Zh id _ _ h)
       simp only at hpin
       have hL:zk V' X l ka∧yP V' l (adB ka) (adO ka)=yP V l (adB ka) (adO ka)∧zz V' 0 l (adB ka) (adO ka)=zz V 0 l (adB ka) (adO ka):=by
        cases l with
        | nil=>exact⟨True.intro,rfl,rfl⟩
        | node x2 y2 k2 l2 r2=>
          obtain⟨g,go,e,hg⟩:=yS hl sp1
          subst e
          have hgh:=ZR (V:=V) (X:=X) (f:= .node x2 y2 k2 l2 r2) (g:=g) (go:=go) sp1
          refine jB _ g go hl (fun j _=>hout g (fun e=>?_) j) (fun q hq=>hout q (fun e=>?_))
          · rcases hpin with h | h
            · exact d1 (by rw[←h.1,←e];exact List.mem_append_left _ hgh)
            · exact d5 g hgh g (List.mem_append_right _ (by rw[e];exact h)) rfl
          · rcases hpin with h | h
            · exact d1 (by rw[←h.1,←e];exact List.mem_append_right _ (List.mem_append_left _ hq))
            · exact d8 q hq q (by rw[e];exact h) rfl
       obtain⟨l1,l2',l3⟩:=hL
       obtain⟨r1,r2',r3⟩:=Q7 hset hoth r b (o+4) hr (List.nodup_cons.2 ⟨fun h=>d1 ue8,d7⟩) h
       have hown:∀j,j<o+4→V'.cell? ⟨b,j,none⟩=V.cell? ⟨b,j,none⟩:=fun j hj=>hoth b j (fun e=>by
        rcases hpin with h | h
        · have:=h.2;have:=e.2;omega
        · have h9:=h;rw[←e.1] at h9;exact d1 (by simp[h9]))
       have c3':=(hown (o+3) om).trans c3
       exact⟨⟨b,o,ka,cap,rfl,hb,(hown _ om).trans c0,(hown _ om).trans c1,(hown _ om).trans c2,c3',c4,l1,r1⟩,by rw[yP,yP,zI c3,zI c3',l2',r2'],by rw[zz,zz,zI c3,zI c3',l3,r3]⟩
theorem ziw (id:Int)(tx:ByteArray)(t:Tr):wiF id tx (zh t)=(zh (wiT id tx t).1,(wiT id tx t).2):=by
 rw[zh,wiF,wiT]
 simp only
 split
 · rfl
 · split
   · rfl
   · rfl
end Go.Proofs.Ytnikgofkldkdkaa
