/-
  .
-/
import Derived.Test.YtnikgofkldkdkaaECopyWQt
set_option maxRecDepth 100000
set_option maxHeartbeats 40000000
set_option linter.unusedVariables false
set_option linter.unusedSimpArgs false
namespace Go.Proofs.Ytnikgofkldkdkaa
open Go.RowKit Go.Shelf
def adB:Option Addr→Nat
 | some a=>a.block
 | none=>0
def adO:Option Addr→Nat
 | some a=>a.off
 | none=>0
def zO (V:World)(b o:Nat):Option Addr:=match V.cell? ⟨b,o+3,none⟩ with
 | some (.slice a _ _)=>a
 | _=>none
theorem zI {V:World}{b o n c:Nat}{a:Option Addr}(h:V.cell? ⟨b,o+3,none⟩=some (.slice a n c)):zO V b o=a:=by rw[zO,h]
def hdB (n0:Nat):Fo→Option Addr→List Nat
 | .nil,_=>[]
 | .node _ _ _ _ _,a=>if n0≤adB a then [adB a] else []
def zz (V:World)(n0:Nat):Fo→Nat→Nat→List Nat
 | .nil,_,_=>[]
 | .node _ _ _ l r,b,o=>hdB n0 l (zO V b o)++(zz V n0 l (adB (zO V b o)) (adO (zO V b o))++zz V n0 r b (o+4))
theorem zbZ {n0:Nat}{f:Fo}{a:Option Addr}{q:Nat}(h:q∈hdB n0 f a):n0≤q∧q=adB a:=by
 cases f with
 | nil=>simp[hdB] at h
 | node _ _ _ _ _=>
   rw[hdB] at h
   split at h
   · simp at h;subst h;exact⟨by assumption,rfl⟩
   · simp at h
theorem Qx {V:World}{n0:Nat}:∀{f:Fo} {b o q:Nat},q∈zz V n0 f b o→n0≤q
 | .nil,_,_,_,h=>by simp[zz] at h
 | .node _ _ _ l r,b,o,q,h=>by
   rw[zz] at h
   rcases List.mem_append.1 h with h | h
   · exact (zbZ h).1
   · rcases List.mem_append.1 h with h | h
     · exact Qx h
     · exact Qx h
theorem yS {V:World}{X:Nat→Prop}{f:Fo}{a:Option Addr}(h:zk V X f a)(hf:f≠ .nil):∃b o,a=some ⟨b,o,none⟩∧X b:=by
 cases f with
 | nil=>exact absurd rfl hf
 | node _ _ k l r=>obtain⟨b,o,_,_,e,hb,_⟩:=h;exact⟨b,o,e,hb⟩
theorem qF {V:World}{n0:Nat}{X:Nat→Prop}:∀{f:Fo} {b o q:Nat},zk V X f (some ⟨b,o,none⟩)→q∈zz V n0 f b o→X q
 | .nil,_,_,_,_,h=>by simp[zz] at h
 | .node _ _ _ l r,b,o,q,hf,h=>by
   obtain⟨b1,o1,ka,cap,e,hb,_,_,_,h3,_,hl,hr⟩:=hf
   cases e
   rw[zz,zI h3] at h
   rcases List.mem_append.1 h with h | h
   · have h2:=zbZ h
     cases l with
     | nil=>simp[hdB] at h
     | node _ _ _ _ _=>
       obtain⟨g,go,e,hg⟩:=yS hl sp1
       rw[h2.2,e];exact hg
   · rcases List.mem_append.1 h with h | h
     · cases l with
       | nil=>simp[zz] at h
       | node _ _ _ _ _=>
         obtain⟨g,go,e,hg⟩:=yS hl sp1
         subst e
         exact qF hl h
     · exact qF hr h
theorem jh {V V' :World}{n0:Nat}:∀(f:Fo) (b o b' o' :Nat),(∀i,i<foLen f→zO V' b' (o'+4*i)=zO V b (o+4*i))→(∀q,(q∈zz V n0 f b o∨q<n0)→∀j,zO V' q j=zO V q j)→zz V' n0 f b' o'=zz V n0 f b o
 | .nil,_,_,_,_,_,_=>rfl
 | .node _ _ _ l r,b,o,b',o',h1,h2=>by
   have e0:zO V' b' o'=zO V b o:=by have:=h1 0 ue5;simpa using this
   rw[zz] at h2
   rw[zz,zz,e0]
   have er:=jh r b (o+4) b' (o'+4) (fun i hi=>by
    have:=h1 (i+1) (by simp[foLen];omega)
    rw[show o'+4+4*i=o'+4*(i+1) by omega,show o+4+4*i=o+4*(i+1) by omega];exact this) (fun q hq=>h2 q (hq.imp (fun h=>by simp[h]) id))
   rw[er]
   have el:zz V' n0 l (adB (zO V b o)) (adO (zO V b o))=zz V n0 l (adB (zO V b o)) (adO (zO V b o)):=by
    cases l with
    | nil=>rfl
    | node x y k l2 r2=>
      refine jh _ _ _ _ _ (fun i _=>h2 _ ?_ _) (fun q hq=>h2 q (hq.imp (fun h=>by simp[h]) id))
      by_cases hg:n0≤adB (zO V b o)
      · exact Or.inl (by simp[hdB,hg])
      · exact Or.inr om
   rw[el]
theorem jg {V V' :World}{n0:Nat}{X:Nat→Prop}:∀{f:Fo} {b o:Nat},zk V X f (some ⟨b,o,none⟩)→(∀q,X q→∀j,zO V' q j=zO V q j)→zz V' n0 f b o=zz V n0 f b o
 | .nil,_,_,_,_=>rfl
 | .node _ _ _ l r,b,o,hf,hX=>by
   obtain⟨b1,o1,ka,cap,e,hb,_,_,_,h3,_,hl,hr⟩:=hf
   cases e
   rw[zz,zz,hX b hb,zI h3,jg hr hX]
   cases l with
   | nil=>rfl
   | node _ _ _ _ _=>
     obtain⟨g,go,e,hg⟩:=yS hl sp1
     subst e
     rw[show adB (some ⟨g,go,none⟩)=g from rfl,show adO (some ⟨g,go,none⟩)=go from rfl,jg hl hX]
theorem zaN {V:World}{n0:Nat}{X Y:Nat→Prop}:∀{f g:Fo} {b o:Nat},zk V X f (some ⟨b,o,none⟩)→zk V Y g (some ⟨b,o,none⟩)→foLen f=foLen g→zz V n0 f b o=zz V n0 g b o
 | .nil,.nil,_,_,_,_,_=>rfl
 | .nil,.node _ _ _ _ _,_,_,_,_,h=>by simp[foLen] at h
 | .node _ _ _ _ _,.nil,_,_,_,_,h=>by simp[foLen] at h
 | .node _ _ _ l r,.node _ _ _ l' r',b,o,hf,hg,h=>by
   obtain⟨b1,o1,ka,cap,e,hb,_,_,_,h3,_,hl,hr⟩:=hf
   cases e
   obtain⟨b1,o1,ka',cap',e,hb',_,_,_,h3',_,hl',hr'⟩:=hg
   cases e
   have hll:foLen l=foLen l'∧ka=ka':=by
    have e:=Option.some.inj (h3.symm.trans h3')
    injection e with e1 e2 e3
    exact⟨e2,e1⟩
   obtain⟨e1,rfl⟩:=hll
   rw[zz,zz,zI h3,zaN hr hr' (by simpa [foLen] using h)]
   cases l with
   | nil=>cases l' with
     | nil=>rfl
     | node _ _ _ _ _=>simp[foLen] at e1
   | node _ _ _ _ _=>cases l' with
     | nil=>simp[foLen] at e1
     | node _ _ _ _ _=>
       obtain⟨g,go,e,hg⟩:=yS hl sp1
       subst e
       rw[show adB (some ⟨g,go,none⟩)=g from rfl,show adO (some ⟨g,go,none⟩)=go from rfl,zaN hl hl' e1]
       rfl
theorem YS {V V' : World}{n0 tb to rb n:Nat}{X:Nat→Prop}{ka:Option Addr}{cap:Nat}(htn:n0≤tb)(hrb:∀q,X q→q≠rb)(hcell:V.cell? ⟨tb,to+3,none⟩=some (.slice ka n cap))(hold:0<n→adB ka<n0)(hnew:0<n→zO V' tb to=some ⟨rb,0,none⟩)(hrn:n0≤rb)
 (hoth:∀q j,X q→¬(q=tb∧j=to)→zO V' q j=zO V q j) (hlow:∀q,q<n0→∀j,zO V' q j=zO V q j)
 (hz:∀l,zk V X l ka→foLen l=n→zz V' n0 l rb 0= []) (hz0:∀l,zk V X l ka→foLen l=n→∀g go,ka=some ⟨g,go,none⟩→zz V n0 l g go= []):
 ∀ (f:Fo) (b o:Nat),zk V X f (some ⟨b,o,none⟩)→(b::zz V n0 f b o).Nodup→
  (b::zz V' n0 f b o).Nodup∧(∀q,q∈zz V' n0 f b o→q∈zz V n0 f b o∨q=rb)∧(rb∈zz V' n0 f b o→0<n∧((tb=b∧o≤to)∨tb∈zz V n0 f b o))
 | .nil,b,o,hf,hd=>⟨by simp[zz],fun q h=>by simp[zz] at h,fun h=>by simp[zz] at h⟩
 | .node x0 y0 k0 l r,b,o,hf,hd=>by
   have hall:=fun q (hq:q∈zz V n0 (.node x0 y0 k0 l r) b o)=>qF hf hq
   obtain⟨b1,o1,ka1,cap1,e,hb,_,_,_,h3,hc1,hl,hr⟩:=hf
   cases e
   have hV:zz V n0 (.node x0 y0 k0 l r) b o=hdB n0 l ka1++(zz V n0 l (adB ka1) (adO ka1)++zz V n0 r b (o+4)):=by rw[zz,zI h3]
   rw[hV] at hd hall ⊢
   rw[zz]
   obtain⟨L3,hL3⟩:∃L,L=zz V n0 r b (o+4):=⟨_,rfl⟩
   rw[←hL3] at hd hall ⊢
   by_cases ht:b=tb∧o=to
   · obtain⟨rfl,rfl⟩:=ht
     rw[hcell] at h3
     cases h3
     have hr3:zz V' n0 r b (o+4)=L3:=by
      rw[hL3]
      refine jh r b (o+4) b (o+4) (fun i _=>hoth b _ hb (fun h=>by have:=h.2;omega)) (fun q hq j=>?_)
      by_cases hq0:q<n0
      · exact hlow q hq0 j
      · have hq:=hq.resolve_right hq0
        rw[←hL3] at hq
        refine hoth q j (hall q (by simp[hq])) (fun h=>?_)
        rw[h.1] at hq
        exact (List.nodup_cons.1 hd).1 (by simp[hq])
     rw[hr3]
     have hd3:(b::L3).Nodup:=by
      obtain⟨d1,d2⟩:=List.nodup_cons.1 hd
      exact List.nodup_cons.2 ⟨fun h=>d1 ue8,(List.nodup_append.1 (List.nodup_append.1 d2).2.1).2.1⟩
     cases l with
     | nil=>
       simp only[zz,hdB,List.nil_append]
       exact⟨hd3,fun q h=>Or.inl h,fun h=>absurd rfl (hrb rb (hall rb ue8))⟩
     | node x y k l2 r2=>
       have hz1:=hz _ hl rfl
       rw[hnew ue5,show adB (some ⟨rb,0,none⟩)=rb from rfl,show adO (some ⟨rb,0,none⟩)=0 from rfl,hz1]
       rw[show hdB n0 (.node x y k l2 r2) (some ⟨rb,0,none⟩)= [rb] by simp only[hdB];rw[show adB (some ⟨rb,0,none⟩)=rb from rfl,ipQ hrn]]
       have hbr:=hrb b hb
       have hr3:rb∉L3:=fun h=>hrb rb (hall rb ue8) rfl
       refine⟨?_,fun q h=>?_,fun _=>⟨by simp[foLen],Or.inl ⟨rfl,NlrQ _⟩⟩⟩
       · obtain⟨d1,d2⟩:=List.nodup_cons.1 hd3
         simp only[List.nil_append,List.cons_append,List.nodup_cons,List.mem_cons,not_or]
         exact⟨⟨hbr,d1⟩,hr3,d2⟩
       · simp only[List.nil_append,List.cons_append,List.mem_cons] at h
         rcases h with h | h
         · exact Or.inr h
         · exact Or.inl ue8
   · have e0 : zO V' b o=ka1:=(hoth b o hb ht).trans (zI h3)
     rw[e0]
     obtain⟨d1,d2⟩:=List.nodup_cons.1 hd
     obtain⟨d3,d4,d5⟩:=List.nodup_append.1 d2
     obtain⟨d6,d7,d8⟩:=List.nodup_append.1 d4
     have hR:=YS htn hrb hcell hold hnew hrn hoth hlow hz hz0 r b (o+4) hr (by rw[←hL3];exact List.nodup_cons.2 ⟨fun h=>d1 ue8,d7⟩)
     rw[←hL3] at hR
     obtain⟨R1,R2,R3⟩:=hR
     obtain⟨R4,R5⟩:=List.nodup_cons.1 R1
     cases l with
     | nil=>
       simp only[zz,hdB,List.nil_append]
       exact⟨R1,R2,fun h=>⟨(R3 h).1,(R3 h).2.imp (fun h=>⟨h.1,by omega⟩) id⟩⟩
     | node x y k l2 r2=>
       obtain⟨g,go,e,hg⟩:=yS hl sp1
       subst e
       rw[show adB (some ⟨g,go,none⟩)=g from rfl,show adO (some ⟨g,go,none⟩)=go from rfl] at*
       obtain⟨H1,hH1⟩:∃H,H=hdB n0 (.node x y k l2 r2) (some ⟨g,go,none⟩):=⟨_,rfl⟩
       have hH:∀q,q∈H1↔(q=g∧n0≤g):=fun q=>by
        rw[hH1,hdB,show adB (some ⟨g,go,none⟩)=g from rfl]
        split
        · simp;intro _;assumption
        · simp;omega
       rw[←hH1] at d1 d3 d5 hall ⊢
       have hL:=YS htn hrb hcell hold hnew hrn hoth hlow hz hz0 _ g go hl (List.nodup_cons.2 ⟨fun h=>by
        have:=Qx h
        exact d5 g ((hH g).2 ⟨rfl,this⟩) g ue8 rfl,d6⟩)
       obtain⟨K1,K2,K3⟩:=hL
       obtain⟨K4,K5⟩:=List.nodup_cons.1 K1
       have hrbL:rb∉zz V n0 (.node x y k l2 r2) g go:=fun h=>hrb rb (hall rb ue8) rfl
       have hrbR:rb∉L3:=fun h=>hrb rb (hall rb ue8) rfl
       have hgrb:g≠rb:=hrb g hg
       refine⟨?_,fun q h=>?_,fun h=>?_⟩
       · refine List.nodup_cons.2 ⟨fun h=>?_,List.nodup_append.2 ⟨d3,List.nodup_append.2 ⟨K5,R5,fun p hp q hq e=>?_⟩,fun p hp q hq e=>?_⟩⟩
         · rcases List.mem_append.1 h with h | h
           · exact d1 ue8
           · rcases List.mem_append.1 h with h | h
             · rcases K2 b h with h | h
               · exact d1 ue8
               · exact hrb b hb h
             · exact R4 h
         · subst e
           rcases K2 p hp with h1 | rfl
           · rcases R2 p hq with h2 | rfl
             · exact d8 p h1 p h2 rfl
             · exact hrbL h1
           · rcases (R3 hq).2 with h2 | h2
             · rcases (K3 hp).2 with h3 | h3
               · have:=(hH g).2 ⟨rfl,by rw[←h3.1];exact htn⟩
                 exact d1 (by rw[←h2.1,h3.1];simp[this])
               · exact d1 (by rw[←h2.1];simp[h3])
             · rcases (K3 hp).2 with h3 | h3
               · have:=(hH g).2 ⟨rfl,by rw[←h3.1];exact htn⟩
                 exact d5 g this g (by rw[←h3.1];simp[h2]) rfl
               · exact d8 tb h3 tb h2 rfl
         · subst e
           have hpg:=(hH p).1 hp
           rcases List.mem_append.1 hq with h | h
           · rw[hpg.1] at h;exact K4 h
           · rcases R2 p h with h | h
             · exact d5 p hp p ue8 rfl
             · exact hgrb (hpg.1.symm.trans h)
       · rcases List.mem_append.1 h with h | h
         · exact Or.inl ue8
         · rcases List.mem_append.1 h with h | h
           · exact (K2 q h).imp (fun h=>by simp[h]) id
           · exact (R2 q h).imp (fun h=>by simp[h]) id
       · rcases List.mem_append.1 h with h | h
         · exact absurd ((hH rb).1 h).1.symm hgrb
         · rcases List.mem_append.1 h with h | h
           · refine⟨(K3 h).1,?_⟩
             rcases (K3 h).2 with h3 | h3
             · exact Or.inr (by have:=(hH g).2 ⟨rfl,by rw[←h3.1];exact htn⟩;rw[h3.1];simp[this])
             · exact Or.inr (by simp[h3])
           · refine⟨(R3 h).1,?_⟩
             rcases (R3 h).2 with h3 | h3
             · exact Or.inl ⟨h3.1,by omega⟩
             · exact Or.inr (by simp[h3])
def vD (V:World)(n0:Nat)(W:Nat→Nat→Prop):Fo→Nat→Nat→Prop
 | .nil,_,_=>True
 | .node _ _ _ l r,b,o=>((l= .nil∨(n0≤adB (zO V b o)∧vD V n0 W l (adB (zO V b o)) (adO (zO V b o))))∨W b o)∧vD V n0 W r b (o+4)
theorem vD.all {V:World}{n0:Nat}{W:Nat→Nat→Prop}:∀(f:Fo) (b o:Nat),(∀i,i<foLen f→W b (o+4*i))→vD V n0 W f b o
 | .nil,_,_,_=>True.intro
 | .node _ _ _ l r,b,o,h=>⟨Or.inr (by have:=h 0 ue5;simpa using this),vD.all r b (o+4) fun i hi=>by
   have:=h (i+1) (by simp[foLen];omega)
   rw[show o+4+4*i=o+4*(i+1) by omega];exact this⟩
theorem vD.step {V V' :World}{n0 tb to rb n:Nat}{W W' :Nat→Nat→Prop}{X:Nat→Prop}{ka:Option Addr}{cap:Nat}(hcell:V.cell? ⟨tb,to+3,none⟩=some (.slice ka n cap))(hnew:0<n→zO V' tb to=some ⟨rb,0,none⟩)(hrn:n0≤rb)
 (hoth:∀q j,X q→¬(q=tb∧j=to)→zO V' q j=zO V q j) (hW:∀q j,¬(q=tb∧j=to)→W q j→W' q j) (hWr:∀i,i<n→W' rb (4*i)):
 ∀(f:Fo) (b o:Nat),zk V X f (some ⟨b,o,none⟩)→vD V n0 W f b o→vD V' n0 W' f b o
 | .nil,_,_,_,_=>True.intro
 | .node _ _ _ l r,b,o,hf,hd=>by
   obtain⟨b1,o1,ka1,cap1,e,hb,_,_,_,h3,hc1,hl,hr⟩:=hf
   cases e
   refine⟨?_,vD.step hcell hnew hrn hoth hW hWr r b (o+4) hr hd.2⟩
   by_cases ht:b=tb∧o=to
   · obtain⟨rfl,rfl⟩:=ht
     rw[hcell] at h3
     cases h3
     cases l with
     | nil=>exact Or.inl (Or.inl rfl)
     | node x y k l2 r2=>
       rw[hnew ue5]
       exact Or.inl (Or.inr ⟨hrn,vD.all _ _ _ fun i hi=>by rw[show adO (some ⟨rb,0,none⟩)=0 from rfl,Nat.zero_add];exact hWr i hi⟩)
   · rw [hoth b o hb ht]
     rcases hd.1 with (h | ⟨h1,h2⟩) | h
     · exact Or.inl (Or.inl h)
     · rw [zI h3] at h1 h2 ⊢
       cases l with
       | nil=>exact Or.inl (Or.inl rfl)
       | node x y k l2 r2=>
         obtain⟨g,go,e,hg⟩:=yS hl sp1
         subst e
         exact Or.inl (Or.inr ⟨h1,vD.step hcell hnew hrn hoth hW hWr _ g go hl h2⟩)
     · exact Or.inr (hW b o ht h)
theorem vD.kept {V V' :World}{n0:Nat}{W W' :Nat→Nat→Prop}{X:Nat→Prop}(hX:∀q,X q→∀j,zO V' q j=zO V q j)(hW:∀q j,W q j→W' q j):∀(f:Fo) (b o:Nat),zk V X f (some ⟨b,o,none⟩)→vD V n0 W f b o→vD V' n0 W' f b o
 | .nil,_,_,_,_=>True.intro
 | .node _ _ _ l r,b,o,hf,hd=>by
   obtain⟨b1,o1,ka1,cap1,e,hb,_,_,_,h3,hc1,hl,hr⟩:=hf
   cases e
   refine⟨?_,vD.kept hX hW r b (o+4) hr hd.2⟩
   rw[hX b hb o]
   rcases hd.1 with (h | ⟨h1,h2⟩) | h
   · exact Or.inl (Or.inl h)
   · rw [zI h3] at h1 h2 ⊢
     cases l with
     | nil=>exact Or.inl (Or.inl rfl)
     | node x y k l2 r2=>
       obtain⟨g,go,e,hg⟩:=yS hl sp1
       subst e
       exact Or.inl (Or.inr ⟨h1,vD.kept hX hW _ g go hl h2⟩)
   · exact Or.inr (hW b o h)
theorem vD.new {V:World}{n0:Nat}{X:Nat→Prop}:∀(f:Fo) (b o:Nat),zk V X f (some ⟨b,o,none⟩)→n0≤b→vD V n0 (fun _ _=>False) f b o→zk V (fun q=>X q∧n0≤q) f (some ⟨b,o,none⟩)
 | .nil,_,_,_,_,_=>True.intro
 | .node _ _ _ l r,b,o,hf,hb0,hd=>by
   obtain⟨b1,o1,ka1,cap1,e,hb,c0,c1,c2,h3,hc1,hl,hr⟩:=hf
   cases e
   refine⟨b,o,ka1,cap1,rfl,⟨hb,hb0⟩,c0,c1,c2,h3,hc1,?_,vD.new r b (o+4) hr hb0 hd.2⟩
   cases l with
   | nil=>exact True.intro
   | node x y k l2 r2=>
     obtain⟨g,go,e,hg⟩:=yS hl sp1
     subst e
     have h:=hd.1
     rw[zI h3] at h
     rcases h with (h | ⟨h1,h2⟩) | h
     · cases h
     · exact vD.new _ g go hl h1 h2
     · exact h.elim
theorem YT {V:World}{n0:Nat}:∀{f:Fo} {b o:Nat},zk V (fun q=>n0≤q) f (some ⟨b,o,none⟩)→zz V n0 f b o=zz V 0 f b o
 | .nil,_,_,_=>rfl
 | .node _ _ _ l r,b,o,hf=>by
   obtain⟨b1,o1,ka1,cap1,e,hb,c0,c1,c2,h3,hc1,hl,hr⟩:=hf
   cases e
   rw[zz,zz,zI h3,YT hr]
   cases l with
   | nil=>rfl
   | node x y k l2 r2=>
     obtain⟨g,go,e,hg⟩:=yS hl sp1
     subst e
     rw[show adB (some ⟨g,go,none⟩)=g from rfl,show adO (some ⟨g,go,none⟩)=go from rfl,YT hl]
     simp only[hdB]
     rw[show adB (some ⟨g,go,none⟩)=g from rfl,ipQ hg,ipQ (NzlQ _)]
def za7 (s:Seg):Option Nat:=match s.f with
 | .nil=>none
 | .node _ _ _ _ _=>some (adB s.a)
def zkw (A:List Seg)(b o:Nat):Prop:=∃s∈A,∃so i,s.a=some ⟨b,so,none⟩∧i<foLen s.f∧o=so+4*i
structure YA (V:World) (n0 RB:Nat) (t:Tr) (A:List Seg):Prop where
 nodup:(RB::zz V n0 (zh t) RB 0).Nodup
 done:vD V n0 (zkw A) (zh t) RB 0
 old:∀s∈A,∀b off,s.a=some ⟨b,off,none⟩→s.f≠ .nil→zz V n0 s.f b off= []
 apart:(A.filterMap za7).Nodup
 free:∀q∈RB::zz V n0 (zh t) RB 0,kN V q
theorem YA.empty {V:World}{n0 RB:Nat}{t:Tr}{A B:List Seg}{d c:Nat}{a:Option Addr}(h:YA V n0 RB t (A++⟨d,a,c,.nil⟩::B))(hr:zk V (fun _=>True) (zh t) (some ⟨RB,0,none⟩)):YA V n0 RB t (A++B) where
 nodup:=h.nodup
 done :=h.done.kept (X:=fun _=>True) (fun _ _ _=>rfl) (fun q j ⟨s,hs,so,i,e,hi,ho⟩=>by
  rcases List.mem_append.1 hs with h1 | h1
  · exact⟨s,List.mem_append_left _ h1,so,i,e,hi,ho⟩
  · rcases List.mem_cons.1 h1 with rfl | h1
    · simp[foLen] at hi
    · exact⟨s,List.mem_append_right _ h1,so,i,e,hi,ho⟩) _ _ _ hr
 old:=fun s hs=>h.old s (by rcases List.mem_append.1 hs with h1 | h1;exact List.mem_append_left _ h1;exact List.mem_append_right _ (List.mem_cons_of_mem _ h1))
 apart:=by
  have:=h.apart
  rw[List.filterMap_append,List.filterMap_cons,show za7 ⟨d,a,c,.nil⟩=none from rfl] at this
  rw[List.filterMap_append];exact this
 free:=h.free
theorem jV {V V' :World}{q:Nat}(h:V'.heap[q]? =V.heap[q]?)(j:Nat):zO V' q j=zO V q j:=by
 rw[zO,zO,World.cell?_of_block (a:=⟨q,j+3,none⟩) h]
theorem YA.turn {V V' :World}{n0 RB:Nat}{t:Tr}{A:List Seg}{X:Nat→Prop}(h:YA V n0 RB t A)(hr:zk V X (zh t) (some ⟨RB,0,none⟩))(ha:∀s∈A,zk V X s.f s.a)(hX:∀q,X q→V'.heap[q]? =V.heap[q]?)(hRB:X RB):YA V' n0 RB t A:=by
 have hk:=jg (n0:=n0) hr (fun q hq j=>jV (hX q hq) j)
 refine⟨by rw[hk];exact h.nodup,h.done.kept (fun q hq j=>jV (hX q hq) j) (fun _ _ h=>h) _ _ _ hr,fun s hs b off e hne=>?_,h.apart,fun q hq=>?_⟩
 · have hf:=ha s hs
   rw[e] at hf
   rw[jg (n0:=n0) hf (fun q hq j=>jV (hX q hq) j)]
   exact h.old s hs b off e hne
 · rw[hk] at hq
   obtain⟨cs,ty,hc⟩:=h.free q hq
   refine⟨cs,ty,(hX q ?_).trans hc⟩
   rcases List.mem_cons.1 hq with rfl | hq
   · exact hRB
   · exact qF hr hq
theorem zji {X:Nat→Prop}{V:World}:∀{A:List Seg},(∀s∈A,zk V X s.f s.a)→∀q∈A.filterMap za7,X q:=fun {A} ha q hq=>by
 obtain⟨s,hs,e⟩:=List.mem_filterMap.1 hq
 have hf:=ha s hs
 obtain⟨sd,sa,sc,sf⟩:=s
 cases sf with
 | nil=>cases e
 | node x y k l r=>
   obtain⟨b,o,e2,hb⟩:=yS hf sp1
   simp only at e2
   subst e2
   cases e
   exact hb
theorem YA.next {V w1:World}{n0 RB:Nat}{t:Tr}{A:List Seg}{X:Nat→Prop}{d c bo oo b off n cap:Nat}{ad ka ra:Option Addr}{rc:Nat}{key:Int×Int×ByteArray}{k r:Fo}{xs:List Value}(h:YA V n0 RB t (⟨d,ad,c,.node bo oo key k r⟩::A))(hr:zk V X (zh t) (some ⟨RB,0,none⟩))(ha:∀s∈(⟨d,ad,c,.node bo oo key k r⟩::A:List Seg),zk V X s.f s.a)(hXs:∀q,X q→q<V.heap.size)(hnb:n0≤b)(hn0:n0≤V.heap.size)(hRB:X RB)
 (hn:n=foLen k) (hcell:V.cell? ⟨b,off+3,none⟩=some (.slice ka n cap)) (had:ad=some ⟨b,off,none⟩) (hfb:kN V b) (hbT:b<V.heap.size)
 (hxl:xs.length=n*4) (hxc:∀ad,ka=some ad→∀j u,xs[j]? =some u→V.cell? (ad.add j)=some u) (hb1:Below V.heap.size V w1) (hown:w1.ownsRow V.heap.size 27 4 (.slice ra n rc) n xs) (hc1:w1.cell? ⟨b,off+3,none⟩=some (.slice ka n cap)):
 YA (w1.setCell ⟨b,off+3,none⟩ (.slice ra n rc)) n0 RB t (⟨d+1,ra,rc,k⟩::⟨d,some ⟨b,off+4,none⟩,c - 1,r⟩::A):=by
 subst had
 obtain⟨V',hV'⟩:∃V',V'=w1.setCell ⟨b,off+3,none⟩ (.slice ra n rc):=⟨_,rfl⟩
 rw[←hV']
 have hs1:=hb1.size
 have hcellE:∀q j,q<V.heap.size→¬(q=b∧j=off+3)→V'.cell? ⟨q,j,none⟩=V.cell? ⟨q,j,none⟩:=fun q j hq hne=>by
  rw[hV',World.cell?_setCell_other _ _ _ _ (fun e=>hne (by cases e;exact⟨rfl,rfl⟩))]
  exact World.cell?_of_block (hb1.block q hq)
 have hoth:∀q j,X q→¬(q=b∧j=off)→zO V' q j=zO V q j:=fun q j hq hne=>by
  rw[zO,zO,hcellE q (j+3) (hXs q hq) (fun e=>hne ⟨e.1,by have:=e.2;omega⟩)]
 have hlow:∀q,q<n0→∀j,zO V' q j=zO V q j:=fun q hq j=>by
  rw[zO,zO,hcellE q (j+3) om (fun e=>by have:=e.1;omega)]
 have hnew:zO V' b off=ra:=zI (by rw[hV'];exact World.cell?_setCell_same' _ _ _ (by rw[hc1];rfl))
 obtain⟨b1,o1,ka1,cap1,e1,hbX,c0,c1,c2,c3,c4,hk,hrr⟩:=ha _ (List.mem_cons_self ..)
 cases e1
 rw[←hn,hcell] at c3
 cases c3
 have hold:=h.old _ (List.mem_cons_self ..) b off rfl sp1
 rw[zz,zI hcell] at hold
 obtain⟨o1,o2⟩:=List.append_eq_nil_iff.1 hold
 obtain⟨o2,o3⟩:=List.append_eq_nil_iff.1 o2
 have hold2:0<n→adB ka<n0:=fun h0=>by
  cases k with
  | nil=>simp[foLen] at hn;omega
  | node x y k2 l2 r2=>
    rw[hdB] at o1
    split at o1
    · simp at o1
    · omega
 obtain⟨rb,hrb⟩:∃rb,V.heap.size≤rb∧(0<n→ra=some ⟨rb,0,none⟩∧kN V' rb∧∀g go,ka=some ⟨g,go,none⟩→∀i,i<n→zO V' rb (0+4*i)=zO V g (go+4*i)):=by
  by_cases h0:0<n
  · obtain⟨g,cap2,e,hg,hgl⟩:=hown.form h0
    cases e
    obtain⟨cur,hcur⟩:=yU hown (g:=g) rfl
    refine⟨g,hg,fun _=>⟨rfl,⟨cur,_,by rw[hV',BhsQ _ _ _ _ (show g≠b by omega)];exact hcur⟩,fun g2 go e2 i hi=>?_⟩⟩
    obtain⟨u,hu⟩:∃u,xs[4*i+3]? =some u:=⟨xs[4*i+3]'om,List.getElem?_eq_getElem _⟩
    have h2:=hxc _ e2 _ u hu
    have hadd:(⟨g2,go,none⟩:Addr).add (4*i+3)=⟨g2,go+(4*i+3),none⟩:=by unfold Addr.add;split<;>simp_all
    rw[hadd] at h2
    have h3:V'.cell? ⟨g,0+4*i+3,none⟩=some u:=by
     rw[hV',World.cell?_setCell_other _ _ _ _ (fun e=>by cases e;omega)]
     have:=zC hown rfl _ _ hu
     rw[Nat.zero_add];exact this
    rw[zO,zO,h3,show go+4*i+3=go+(4*i+3) by omega,h2]
  · exact⟨V.heap.size,NlrQ _,fun h=>absurd h h0⟩
 obtain⟨hrs,hra⟩:=hrb
 have hz0:∀l,zk V X l ka→foLen l=n→∀g go,ka=some ⟨g,go,none⟩→zz V n0 l g go= []:=fun l hl hln g go e=>by
  subst e
  rw[zaN hl hk (by rw[hln,hn])]
  exact o2
 have hz:∀l,zk V X l ka→foLen l=n→zz V' n0 l rb 0= []:=fun l hl hln=>by
  cases l with
  | nil=>rfl
  | node x y k2 l2 r2=>
    obtain⟨g,go,e,hg⟩:=yS hl sp1
    have h0:0<n:=by rw[←hln];simp[foLen]
    have h1:=hz0 _ hl hln g go e
    rw [jh _ g go rb 0 (fun i hi=>(hra h0).2.2 g go e i om) (fun q hq j=>by
     rw[h1] at hq
     rcases hq with hq | hq
     · simp at hq
     · exact hlow q hq j)]
    exact h1
 have hst:=YS (V:=V) (V':=V') (n0:=n0) (tb:=b) (to:=off) (rb:=rb) (n:=n) (X:=X) hnb (fun q hq=>by have:=hXs q hq;omega) hcell hold2 (fun h0=>hnew.trans (hra h0).1) om hoth hlow hz hz0 (zh t) RB 0 hr h.nodup
 have hfreeK:∀x,x<V.heap.size→kN V x→kN V' x:=fun x hx ⟨cs',t',hc'⟩=>by
  by_cases hxb:x=b
  · subst hxb
    have hF1:=(hb1.block x hx).trans hc'
    rw[hV']
    exact⟨_,_,hssQ w1 x (off+3) _ _ (.slice ra n rc) hF1⟩
  · exact⟨cs',t',by rw[hV',BhsQ _ _ _ _ hxb];exact (hb1.block x hx).trans hc'⟩
 refine⟨hst.1,?_,?_,?_,?_⟩
 · refine h.done.step hcell (fun h0=>hnew.trans (hra h0).1) om hoth (fun q j hne hw=>?_) (fun i hi=>⟨_,List.mem_cons_self ..,0,i,(hra om).1,by simp only;omega,by omega⟩) _ _ _ hr
   obtain⟨s,hs,so,i,e,hi,ho⟩:=hw
   rcases List.mem_cons.1 hs with rfl | hs
   · simp only at e hi
     cases e
     cases i with
     | zero=>exact absurd ⟨rfl,by omega⟩ hne
     | succ i=>exact⟨_,List.mem_cons_of_mem _ (List.mem_cons_self ..),off+4,i,rfl,by simp[foLen] at hi;simp only;omega,by omega⟩
   · exact⟨s,List.mem_cons_of_mem _ (List.mem_cons_of_mem _ hs),so,i,e,hi,ho⟩
 · intro s hs b2 off2 e hne
   rcases List.mem_cons.1 hs with rfl | hs
   · simp only at e hne ⊢
     have h0:0<n:=by rw[hn];exact zaa hne
     rw[(hra h0).1] at e
     cases e
     exact hz k hk hn.symm
   · rcases List.mem_cons.1 hs with rfl | hs
     · simp only at e hne ⊢
       cases e
       rw [jh r b (off+4) b (off+4) (fun i _=>hoth b _ hbX (fun h=>by have:=h.2;omega)) (fun q hq j=>by
        rw[o3] at hq
        rcases hq with hq | hq
        · simp at hq
        · exact hlow q hq j)]
       exact o3
     · have h1:=h.old s (List.mem_cons_of_mem _ hs) b2 off2 e hne
       have hfs:=ha s (List.mem_cons_of_mem _ hs)
       have hb2:b2≠b:=fun eb=>by
        have hd:=h.apart
        rw[List.filterMap_cons,show za7 ⟨d,some ⟨b,off,none⟩,c,.node bo oo key k r⟩=some b from rfl] at hd
        refine (List.nodup_cons.1 hd).1 (List.mem_filterMap.2 ⟨s,hs,?_⟩)
        obtain⟨sd,sa,sc,sf⟩:=s
        simp only at e hne
        subst e eb
        cases sf with
        | nil=>exact absurd rfl hne
        | node x y k2 l2 r2=>rfl
       have hX2:X b2:=by
        obtain⟨b3,o3,e3,h3⟩:=yS hfs hne
        rw[e] at e3;cases e3;exact h3
       rw [jh s.f b2 off2 b2 off2 (fun i _=>hoth b2 _ hX2 (fun h=>hb2 h.1)) (fun q hq j=>by
        rw[h1] at hq
        rcases hq with hq | hq
        · simp at hq
        · exact hlow q hq j)]
       exact h1
 · have hd:=h.apart
   rw[List.filterMap_cons,show za7 ⟨d,some ⟨b,off,none⟩,c,.node bo oo key k r⟩=some b from rfl] at hd
   obtain⟨d1,d2⟩:=List.nodup_cons.1 hd
   have hin:=zji (A:=A) (X:=X) (V:=V) (fun s hs=>ha s (List.mem_cons_of_mem _ hs))
   have hR:(List.filterMap za7 (⟨d,some ⟨b,off+4,none⟩,c - 1,r⟩::A)).Nodup∧∀q∈List.filterMap za7 (⟨d,some ⟨b,off+4,none⟩,c - 1,r⟩::A),q<V.heap.size:=by
    rw[List.filterMap_cons]
    cases r with
    | nil=>exact⟨d2,fun q hq=>hXs q (hin q hq)⟩
    | node x y k2 l2 r2=>
      rw[show za7 ⟨d,some ⟨b,off+4,none⟩,c - 1,.node x y k2 l2 r2⟩=some b from rfl]
      exact⟨List.nodup_cons.2 ⟨d1,d2⟩,fun q hq=>by
       rcases List.mem_cons.1 hq with rfl | hq
       · exact hbT
       · exact hXs q (hin q hq)⟩
   rw[List.filterMap_cons]
   cases k with
   | nil=>exact hR.1
   | node x y k2 l2 r2=>
     have h0:0<n:=by rw[hn];simp[foLen]
     rw[show za7 ⟨d+1,ra,rc,.node x y k2 l2 r2⟩=some rb from by rw[(hra h0).1];rfl]
     exact List.nodup_cons.2 ⟨fun hq=>by have:=hR.2 _ hq;omega,hR.1⟩
 · intro q hq
   rcases List.mem_cons.1 hq with rfl | hq
   · exact hfreeK _ (hXs _ hRB) (h.free _ (List.mem_cons_self ..))
   · rcases hst.2.1 q hq with h1 | rfl
     · exact hfreeK _ (hXs _ (qF hr h1)) (h.free _ (List.mem_cons_of_mem _ h1))
     · exact (hra (hst.2.2 hq).1).2.1
end Go.Proofs.Ytnikgofkldkdkaa
