/-
  .
-/
import Derived.Test.YtoidedomenkbpaaGreatWSameQr
set_option maxRecDepth 100000
set_option maxHeartbeats 40000000
set_option linter.unusedVariables false
set_option linter.unusedSimpArgs false
namespace Go.Proofs.YtoidedomenkbpaaGreat
open Go.RowKit Go.Shelf
def zeA (w w' :World):Nat→Prop:=fun x=>w.heap.size≤x∧x<w'.heap.size
def zeG (t:Tr)(w:World)(e:Ending)(w' :World):Prop:=∃v,e= .returned v∧vL w' (zeA w w') v t∧Below w.heap.size w w'
def Qn (t:Tr)(w:World)(e:Ending)(w' :World):Prop:=∃ra rc xs,e= .returned (.agg #[.int .i64 t.id,.int .i64 t.kind,.string t.text,.slice ra (foLen t.kids) rc])∧foLen t.kids≤rc∧w'.ownsRow w.heap.size 35 4 (.slice ra (foLen t.kids) rc) (foLen t.kids) xs∧vO w' (fun x=>zeA w w' x∧(Value.slice ra (foLen t.kids) rc).ownBlock≠some x) t.kids xs∧Below w.heap.size w w'
theorem zhh {w' :World}{B n rc:Nat}{S:Nat→Prop}{ra:Option Addr}{ks:Fo}{xs:List Value}(hn:n=foLen ks)(h:w'.ownsRow B 35 4 (.slice ra n rc) n xs)(hr:vO w' S ks xs)(hg:∀x,(Value.slice ra n rc).ownBlock=some x→S x):zK w' S ks ra:=by
 cases hks:ks with
 | nil=>exact True.intro
 | node b o a l r=>
   rw[←hks]
   have hgg:∃g,ra=some ⟨g,0,none⟩:=by
    rcases h.2 with ⟨hv,h0⟩ | ⟨g,cap,cur,hv,_⟩
    · rw[hn,hks] at h0;simp[foLen] at h0
    · cases hv;exact⟨g,rfl⟩
   obtain⟨g,rfl⟩:=hgg
   refine hr.lies (hg g rfl) 0 fun j u hj=>?_
   rw[Nat.zero_add]
   exact yx h rfl j u hj
theorem Qn.weak {t:Tr}{w:World}{e:Ending}{w' :World}(h:Qn t w e w'):zeG t w e w':=by
 obtain⟨ra,rc,xs,rfl,hrc,ho,hr,hb⟩:=h
 exact⟨_,rfl,⟨ra,rc,rfl,hrc,zhh rfl ho (hr.kept fun x hx=>⟨hx.1,rfl⟩) (fun x hx=>zO ho hx)⟩,hb⟩
theorem zh0 {w:World}{b:Nat}{t:TypeId}{c0 c1 c2 c3:Value}(h:w.heap[b]? =some (.cells #[c0,c1,c2,c3] t (0,0)))(u0 u1 u2 u3:Value):
 ((((w.setCell ⟨b,0,none⟩ u0).setCell ⟨b,1,none⟩ u1).setCell ⟨b,2,none⟩ u2).setCell ⟨b,3,none⟩ u3).heap[b]? =some (.cells #[u0,u1,u2,u3] t (0,0))∧
 (∀B,B≤b→Below B w ((((w.setCell ⟨b,0,none⟩ u0).setCell ⟨b,1,none⟩ u1).setCell ⟨b,2,none⟩ u2).setCell ⟨b,3,none⟩ u3))∧
 ∀x,x≠b→((((w.setCell ⟨b,0,none⟩ u0).setCell ⟨b,1,none⟩ u1).setCell ⟨b,2,none⟩ u2).setCell ⟨b,3,none⟩ u3).heap[x]? =w.heap[x]?:=by
 have h0:=hssQ w b 0 _ _ u0 h
 have h1:=hssQ _ b 1 _ _ u1 h0
 have h2:=hssQ _ b 2 _ _ u2 h1
 have h3:=hssQ _ b 3 _ _ u3 h2
 exact⟨h3,fun B hB=>((((BrQ _ _).setCell hB _).setCell hB _).setCell hB _).setCell hB _,fun x hx=>by
  rw[BhsQ _ _ _ _ hx,BhsQ _ _ _ _ hx,BhsQ _ _ _ _ hx,BhsQ _ _ _ _ hx]⟩
theorem QQ {w:World}{B:Nat}{e:TypeId}{size:Nat}{v:Value}{n:Nat}{xs:List Value}(h:w.ownsRow B e size v n xs):∃a cap,v= .slice a n cap∧n≤cap:=by
 rcases h.2 with ⟨hv,h0⟩ | ⟨g',cap,cur,hv,_,_,hc,_⟩
 · exact⟨none,0,by rw[hv,h0],by omega⟩
 · exact⟨_,_,hv,hc⟩
def zeH (w wr:World)(rv:Value):Nat→Prop:=fun x=>w.heap.size+3≤x∧x<wr.heap.size∧rv.ownBlock≠some x
def yP (w:World)(c1:Array Value)(id kd:Int)(tx:ByteArray)(ks:Fo)(k:Nat)(rv:Value)(xs:List Value)(wr:World):Prop:=
 wr.heap[w.heap.size]? =some (.cells c1 35 (0,0))∧wr.heap[w.heap.size+1]? =some (.cells #[.int .i64 0,.int .i64 0,.string ⟨#[]⟩,.slice none 0 0] 35 (0,0))∧
 wr.heap[w.heap.size+1+1]? =some (.cells #[.int .i64 id,.int .i64 kd,.string tx,rv] 35 (0,0))∧Below w.heap.size w wr∧
 wr.ownsRow (w.heap.size+3) 35 4 rv k xs∧vO wr (zeH w wr rv) (zG k ks) xs
def zb2 (w:World)(c1:Array Value)(id kd:Int)(tx:ByteArray)(ks:Fo)(len:Nat)(i:Value)(wr:World):Prop:=
 ∃k rv xs,k≤len∧i= .int .i64 k∧yP w c1 id kd tx ks k rv xs wr
section
variable {w wr w2:World} {c1:Array Value} {id kd:Int} {tx:ByteArray} {ks:Fo} {k:Nat} {rv:Value} {xs:List Value}
theorem yP.start (w:World)(c1:Array Value)(id kd:Int)(tx:ByteArray)(ks:Fo):yP w c1 id kd tx ks 0 (.slice none 0 0) []
 (((w.alloc (.cells c1 35)).alloc (.cells #[.int .i64 0,.int .i64 0,.string ⟨#[]⟩,.slice none 0 0] 35)).alloc (.cells #[.int .i64 id,.int .i64 kd,.string tx,.slice none 0 0] 35)):=by
 refine⟨?_,?_,?_,?_,World.ownsRow_nil _ _ _ _,rfl⟩
 · rw[BhaQ _ _ _ ue1,BhaQ _ _ _ sp1];exact hanQ w _
 · rw[BhaQ _ _ _ sp1]
   have:=hanQ (w.alloc (.cells c1 35)) (.cells #[.int .i64 0,.int .i64 0,.string ⟨#[]⟩,.slice none 0 0] 35)
   simpa using this
 · have:=hanQ ((w.alloc (.cells c1 35)).alloc (.cells #[.int .i64 0,.int .i64 0,.string ⟨#[]⟩,.slice none 0 0] 35)) (.cells #[.int .i64 id,.int .i64 kd,.string tx,.slice none 0 0] 35)
   simpa using this
 · exact (((BrQ _ _).alloc (NlrQ _) _).alloc sp1 _).alloc ue1 _
theorem yP.size (h:yP w c1 id kd tx ks k rv xs wr):w.heap.size+1+1<wr.heap.size:=lt_of_some h.2.2.1
theorem yP.below (h:yP w c1 id kd tx ks k rv xs wr)(hb:Below wr.heap.size wr w2):yP w c1 id kd tx ks k rv xs w2:=by
 have hs:=h.size
 obtain⟨h0,h1,h2,h3,h4,h5⟩:=h
 refine⟨(hb.block _ om).trans h0,(hb.block _ om).trans h1,(hb.block _ om).trans h2,h3.trans (hb.mono om),zR h4 (fun g cur hg _=>hb.block g (lt_of_some hg)),h5.kept fun x hx=>⟨⟨hx.1,nL hx.2.1 hb.size,hx.2.2⟩,hb.block x hx.2.1⟩⟩
theorem yP.kid (h:yP w c1 id kd tx ks k rv xs wr){l:Fo}{ka:Option Addr}(hf:zK w2 (zeA wr w2) l ka):zK w2 (zeH w w2 rv) l ka:=hf.kept fun x hx=>by
 have hs:=h.size
 refine⟨⟨by have:=hx.1;omega,hx.2,fun e=>?_⟩,rfl⟩
 have:=(zO h.2.2.2.2.1 e).2
 have:=hx.1
 omega
theorem yP.step {w1:World}{o1 o2:Obj}{b o:Nat}{ki kk:Int}{kt:ByteArray}{l:Fo}{ka:Option Addr}{kc gg cap:Nat}(hkc:foLen l≤kc)(h:yP w c1 id kd tx ks k rv xs w2)(hl:zK w2 (zeH w w2 rv) l ka)(ht:zG (k+1) ks=qK (zG k ks) b o (ki,kk,kt) l)
 (hown:w1.ownsRow (w.heap.size+3) 35 4 (.slice (some ⟨gg,0,none⟩) (k+1) cap) (k+1) (xs++[.int .i64 ki,.int .i64 kk,.string kt,.slice ka (foLen l) kc]))
 (hgrow:((w2.alloc o1).alloc o2).grownBy w1 rv.ownBlock) (hat:rv.ownBlock=some gg∨gg=w2.heap.size+1+1):
 yP w c1 id kd tx ks (k+1) (.slice (some ⟨gg,0,none⟩) (k+1) cap) (xs++[.int .i64 ki,.int .i64 kk,.string kt,.slice ka (foLen l) kc]) (w1.setCell ⟨w.heap.size+1+1,3,none⟩ (.slice (some ⟨gg,0,none⟩) (k+1) cap)):=by
 have hs:=h.size
 obtain⟨h0,h1,h2,h3,h4,h5⟩:=h
 have hob:∀g,rv.ownBlock=some g→w.heap.size+3≤g∧g<w2.heap.size:=fun g hg=>zO h4 hg
 have old:∀x,x<w2.heap.size→rv.ownBlock≠some x→w1.heap[x]? =w2.heap[x]?:=fun x hx hn=>by
  rw[hgrow.block x ue1 (fun e=>hn e.symm),BhaQ _ _ _ ue1,BhaQ _ _ _ hx]
 have nob:∀x,x<w.heap.size+3→rv.ownBlock≠some x:=fun x hx e=>by have:=(hob x e).1;omega
 have hgs:w2.heap.size≤w1.heap.size:=by have:=hgrow.size;simp at this;omega
 have hgg:gg≠w.heap.size+1+1:=fun e=>by
  rcases hat with hat | hat
  · have:=(hob gg hat).1;omega
  · omega
 have hout:w1.heap[w.heap.size+1+1]? =some (.cells #[.int .i64 id,.int .i64 kd,.string tx,rv] 35 (0,0)):=(old _ hs (nob _ om)).trans h2
 have keep:∀x,x<w2.heap.size→rv.ownBlock≠some x→x≠w.heap.size+1+1→(w1.setCell ⟨w.heap.size+1+1,3,none⟩ (.slice (some ⟨gg,0,none⟩) (k+1) cap)).heap[x]? =w2.heap[x]?:=fun x hx hn hne=>by
  rw[BhsQ _ _ _ _ hne];exact old x hx hn
 have hmid:∀x,zeH w w2 rv x→zeH w (w1.setCell ⟨w.heap.size+1+1,3,none⟩ (.slice (some ⟨gg,0,none⟩) (k+1) cap)) (.slice (some ⟨gg,0,none⟩) (k+1) cap) x∧(w1.setCell ⟨w.heap.size+1+1,3,none⟩ (.slice (some ⟨gg,0,none⟩) (k+1) cap)).heap[x]? =w2.heap[x]?:=fun x hx=>by
  refine⟨⟨hx.1,by simp[World.setCell];have:=hx.2.1;omega,fun e=>?_⟩,keep x hx.2.1 hx.2.2 (by have:=hx.1;omega)⟩
  simp only[Value.ownBlock,Option.some.injEq] at e
  rcases hat with hat | hat
  · exact hx.2.2 (by rw[hat,e])
  · have:=hx.2.1;omega
 refine⟨(keep _ om (nob _ om) om).trans h0,(keep _ om (nob _ om) om).trans h1,?_,?_,?_,?_⟩
 · rw[hssQ w1 _ 3 _ _ _ hout];rfl
 · have hB:Below w.heap.size w ((w2.alloc o1).alloc o2):=(h3.alloc om _).alloc ue1 _
   exact (hB.grown hgrow ue1 (fun g hg=>by have:=(hob g hg).1;omega)).setCell ue1 _
 · exact zR hown (fun g cur hg hgo=>BhsQ _ _ _ _ (fun e=>hgg (by cases hgo;exact e)))
 · rw[ht]
   exact (h5.kept hmid).snoc (hl.kept hmid) kc hkc
theorem yP.done {w' :World}{ra:Option Addr}{rcap:Nat}(h:yP w c1 id kd tx ks k (.slice ra k rcap) xs wr)(hk:k=foLen ks)(hrc:k≤rcap)(hb:Below w.heap.size wr w')(ho:∀x,x≠w.heap.size+1→w'.heap[x]? =wr.heap[x]?):
 Qn ⟨id,kd,tx,ks⟩ w (.returned (.agg #[.int .i64 id,.int .i64 kd,.string tx,.slice ra k rcap])) w':=by
 obtain⟨_,_,_,h3,h4,h5⟩:=h
 rw[qL k ks om] at h5
 refine⟨ra,rcap,xs,by rw[←hk],by simp only;rw[←hk];exact hrc,?_,?_,h3.trans hb⟩
 · simp only;rw[←hk]
   have h6:=zR (w':=w') h4 (fun g cur hg hgo=>ho g (by have:=(zO h4 hgo).1;omega))
   exact⟨h6.1,h6.2.imp (fun h=>h) (fun ⟨g,cap,cur,e1,e2,e3⟩=>⟨g,cap,cur,e1,by omega,e3⟩)⟩
 · simp only;rw[←hk]
   exact h5.kept fun x hx=>⟨⟨⟨by have:=hx.1;omega,nL hx.2.1 hb.size⟩,hx.2.2⟩,ho x (by have:=hx.1;omega)⟩
end
theorem zcC:∀(n:Nat) (w:World) (S:Nat→Prop) (v:Value) (t:Tr),zh t.kids<n→zh t.kids≤1000000→(∀k,S k→k<w.heap.size)→vL w S v t→
 Calls Tryz.prog 113 #[v] w (Qn t w):=by
 intro n
 induction n with
 | zero=>intro w S v t h;omega
 | succ n ih=>
   intro w S v t hn hm hS hv
   obtain⟨ka,cap,rfl,hcp0,hk⟩:=hv
   obtain⟨id,kd,tx,ks⟩:=t
   simp only at hk hn hm
   simp only
   obtain⟨len,hlen⟩:∃len,len=foLen ks:=⟨_,rfl⟩
   rw[←hlen]
   have hlen6:len≤1000000:=by rw[hlen];exact NltQ (yV ks) hm
   have HN:=hH (aN hn hm)
   have HLEN:=hH hlen
   have HK:=hH hk
   clear hcp0
   have HSS:=hH hS
   have HIH:=hH ih
   clear hlen hk hn hm hS ih
   go_enter Tryz.func113,Tryz.ntmps113
   go_wp2_with fail
   go_loopw [4] (fun i wr=>zb2 w #[.int .i64 id,.int .i64 kd,.string tx,.slice ka len cap] id kd tx ks len i wr) (fun i _=>len - (intOf i).toNat)
   case atStart=>exact⟨0,_,_,NzlQ _,rfl,yP.start _ _ _ _ _ _⟩
   case round=>
    obtain⟨k,rv,xs,hk,rfl,hinv⟩:=hrel
    have p1:wr.cell? ⟨w.heap.size,3,none⟩=some (.slice ka len cap):=by rw[corQ wr _ 3 _ _ _ hinv.1];rfl
    have HI:=hH hinv
    clear hinv
    by_cases hlt:k<len
    · have hk1:=HK.out.below HI.out.2.2.2.1 HSS.out
      obtain⟨b0,o0,⟨ki,kk,kt⟩,l,r,hd1,b,off,a1,n1,rfl,hSb,c0,c1,c2,c3,hcp1,hl1⟩:=hk1.at k uc7
      obtain⟨_,_,_,_,_,e1,e2,hsz1,htk⟩:=yL k ks uc7
      rw[hd1] at e1;cases e1
      have hcall:=HIH.out wr S (.agg #[.int .i64 ki,.int .i64 kk,.string kt,.slice a1 (foLen l) n1]) ⟨ki,kk,kt,l⟩ ub8 (by have:=HN.out.2;simp only;omega) (fun x hx=>nL (HSS.out x hx) HI.out.2.2.2.1.size) ⟨a1,n1,rfl,hcp1,hl1⟩
      obtain⟨m1,hm1⟩:∃m,m=foLen l:=⟨_,rfl⟩
      rw[←hm1] at hcall c3
      simp only at c0 c1 c2
      have HC:=hH hcall
      have HM1:=hH hm1
      have HTK:=hH htk
      have hkl:(k:Int)<(len:Int):=by omega
      clear hk1 hd1 hcall hm1 htk hl1 hsz1 hSb e2 hcp1
      go_wp2_with fail
      refine (HC.out.mono fun _ _ h=>Qn.weak h).mono ?_
      rintro e w2 ⟨_,rfl,⟨ka2,cap2,rfl,hcp2,hf2⟩,hb2⟩
      have hi2:=HI.out.below hb2
      have hkid:=HI.out.kid hf2
      have hs2:=hi2.size
      have ho:=hi2.2.2.2.2.1
      simp only
      rw[←HM1.out]
      have d3:w2.cell? ⟨w.heap.size+1+1,3,none⟩=some rv:=by rw[corQ w2 _ 3 _ _ _ hi2.2.2.1];rfl
      have f3:w2.frozen? ⟨w.heap.size+1+1,3,none⟩=false:=forQ w2 _ 3 _ _ hi2.2.2.1
      obtain⟨i0,z0,hi0,hz0,hz1,hz2,hz3⟩:=vT Tryz.zg0
      have hnew:(((w2.alloc (.cells #[.int .i64 ki,.int .i64 kk,.string kt,.slice ka2 m1 cap2] 35)).alloc (.cells #[.int .i64 ki,.int .i64 kk,.string kt,.slice ka2 m1 cap2] 35)).heap[w2.heap.size+1]? =some (.cells #[.int .i64 ki,.int .i64 kk,.string kt,.slice ka2 m1 cap2] 35 (0,0))):=by
       have:=hanQ (w2.alloc (.cells #[.int .i64 ki,.int .i64 kk,.string kt,.slice ka2 m1 cap2] 35)) (.cells #[.int .i64 ki,.int .i64 kk,.string kt,.slice ka2 m1 cap2] 35)
       simpa using this
      have HNEW:=hH hnew
      clear hnew
      have hB:w.heap.size+3≤w2.heap.size:=hs2
      have hstep:=fun w1 gg cap' h1 h2 h3=>hi2.step (hkc:=hcp2) (w1:=w1) (gg:=gg) (cap:=cap') (kc:=cap2) (o1:= .cells #[.int .i64 ki,.int .i64 kk,.string kt,.slice ka2 m1 cap2] 35) (o2:= .cells #[.int .i64 ki,.int .i64 kk,.string kt,.slice ka2 m1 cap2] 35) hkid HTK.out h1 h2 h3
      rw[←HM1.out] at hstep
      have HST:=hH hstep
      have hne:rv.ownBlock≠some (w.heap.size+1+1):=fun e=>by have:=(zO ho e).1;omega
      have hlt2:(⟨w.heap.size+1+1,3,none⟩:Addr).block<((w2.alloc (.cells #[.int .i64 ki,.int .i64 kk,.string kt,.slice ka2 m1 cap2] 35)).alloc (.cells #[.int .i64 ki,.int .i64 kk,.string kt,.slice ka2 m1 cap2] 35)).heap.size:=by simp;omega
      have hheap:((w2.alloc (.cells #[.int .i64 ki,.int .i64 kk,.string kt,.slice ka2 m1 cap2] 35)).alloc (.cells #[.int .i64 ki,.int .i64 kk,.string kt,.slice ka2 m1 cap2] 35)).heap[w.heap.size+1+1]? =w2.heap[w.heap.size+1+1]?:=by rw[BhaQ _ _ _ ue1,BhaQ _ _ _ hs2]
      have HAUX:=hH (aN hne (aN hlt2 (aN ((World.cell?_of_block (a:=⟨w.heap.size+1+1,3,none⟩) hheap).trans d3) ((World.frozen?_of_block (a:=⟨w.heap.size+1+1,3,none⟩) hheap).trans f3))))
      clear hi2 hkid hf2 hb2 hstep hne hlt2 hheap f3 hcp2
      go_wp2_with (at_builtin;refine wpList_append_lies _ rfl (.tmp 27) (.tmp 29) _ rfl (w.heap.size+3) 35 i0 z0 4 56 Tryz.underlying33 hi0 hz0 hz1 hz2 hz3 om rv k xs rfl ((ho.alloc _).alloc _) ⟨w2.heap.size+1,0,none⟩ 1 1 [.int .i64 ki,.int .i64 kk,.string kt,.slice ka2 m1 cap2] rfl rfl (World.news_of_block (cs:= #[.int .i64 ki,.int .i64 kk,.string kt,.slice ka2 m1 cap2]) (t:=35) (fr:=(0,0)) HNEW.out) ud1 om ud2 om ue1 (w2.heap.size+1+1) sp1 ?_;intro gg cap' w1 hown1 hgrow hat hlt1;have c1w:=(hgrow.cell_far _ HAUX.out.2.1 (Ne.symm HAUX.out.1)).trans HAUX.out.2.2.1;have f1w:=(hgrow.frozen_far _ HAUX.out.2.1 (Ne.symm HAUX.out.1)).trans HAUX.out.2.2.2)
      exact⟨⟨k+1,_,_,by omega,by go_num,HST.out _ _ _ hown1 hgrow hat⟩,by simp[intOf];omega⟩
    · have hkk:k=len:=by omega
      have hi:=HI.out
      obtain⟨ra,rcap,rfl,hrc⟩:=QQ hi.2.2.2.2.1
      have HRC:=hH hrc
      clear hrc
      have q0:wr.cell? ⟨w.heap.size+1+1,0,none⟩=some (.int .i64 id):=by rw[corQ wr _ 0 _ _ _ hi.2.2.1];rfl
      have q1:wr.cell? ⟨w.heap.size+1+1,1,none⟩=some (.int .i64 kd):=by rw[corQ wr _ 1 _ _ _ hi.2.2.1];rfl
      have q2:wr.cell? ⟨w.heap.size+1+1,2,none⟩=some (.string tx):=by rw[corQ wr _ 2 _ _ _ hi.2.2.1];rfl
      have q3:wr.cell? ⟨w.heap.size+1+1,3,none⟩=some (.slice ra k rcap):=by rw[corQ wr _ 3 _ _ _ hi.2.2.1];rfl
      have z0:wr.cell? ⟨w.heap.size+1,0,none⟩=some (.int .i64 0):=by rw[corQ wr _ 0 _ _ _ hi.2.1];rfl
      have z1:wr.cell? ⟨w.heap.size+1,1,none⟩=some (.int .i64 0):=by rw[corQ wr _ 1 _ _ _ hi.2.1];rfl
      have z2:wr.cell? ⟨w.heap.size+1,2,none⟩=some (.string ⟨#[]⟩):=by rw[corQ wr _ 2 _ _ _ hi.2.1];rfl
      have z3:wr.cell? ⟨w.heap.size+1,3,none⟩=some (.slice none 0 0):=by rw[corQ wr _ 3 _ _ _ hi.2.1];rfl
      have g0:=forQ wr _ 0 _ _ hi.2.1
      have g1:=forQ wr _ 1 _ _ hi.2.1
      have g2:=forQ wr _ 2 _ _ hi.2.1
      have g3:=forQ wr _ 3 _ _ hi.2.1
      clear hi
      have HLK:Hid (k=foLen ks):=show k=foLen ks by rw[hkk,HLEN.out]
      clear hkk
      go_wp2_with fail
      have hz:=zh0 HI.out.2.1 (.int .i64 id) (.int .i64 kd) (.string tx) (.slice ra k rcap)
      refine brQ (results_cell_row rfl _ _ (w.heap.size+1) 35 _ (0,0) _ rfl hz.1 Tryz.underlying35 rfl kr1) rfl ?_
      exact HI.out.done HLK.out HRC.out (hz.2.1 _ om) hz.2.2
theorem zd6 (n:Nat)(w:World)(S:Nat→Prop)(v:Value)(t:Tr)(h1:zh t.kids<n)(h2:zh t.kids≤1000000)(h3:∀k,S k→k<w.heap.size)(h4:vL w S v t):Calls Tryz.prog 113 #[v] w (zeG t w):=
 (zcC n w S v t h1 h2 h3 h4).mono fun _ _ h=>h.weak
end Go.Proofs.YtoidedomenkbpaaGreat
namespace Go.Proofs.YtoidedomenkbpaaGreat
open Go.RowKit Go.Shelf
theorem zbx (w:World)(S:Nat→Prop)(nv:Value)(t:Tr)(hS:∀y,S y→y<w.heap.size)(ht:vL w S nv t)(hsz:zh t.kids≤100000):Calls Tryz.prog 113 #[nv] w (Z7 w S t):=by
 refine (zd6 200000 w S nv t om om hS ht).mono ?_
 rintro e w' ⟨v,rfl,h,hb⟩
 exact⟨v,rfl,h.kept fun y hy=>⟨⟨Or.inr hy.1,hy.2⟩,rfl⟩,hb⟩
theorem zgp (w:World)(S:Nat→Prop)(id par at_ s1 s2:Int)(tx s3:ByteArray)(sa:Option Addr)(sn sc:Nat):
 Calls Tryz.prog 67 #[.agg #[.int .i8 2,.int .i64 id,.int .i64 par,.int .i64 at_,.string tx,.int .i64 s1,.int .i64 s2,.string s3,.slice sa sn sc]] w (qj w S ⟨2,id,0,0,⟨#[]⟩,zo⟩):=by
 obtain⟨B,hB⟩:∃B,B=zy w [.cells #[.int .i8 2,.int .i64 id,.int .i64 par,.int .i64 at_,.string tx,.int .i64 s1,.int .i64 s2,.string s3,.slice sa sn sc] 41,.cells #[.int .i8 0,.int .i64 0,.int .i64 0,.int .i64 0,.string ⟨#[]⟩,.int .i64 0,.int .i64 0,.string ⟨#[]⟩,.slice none 0 0] 41]:=⟨_,rfl⟩
 have hb:Below w.heap.size w B:=by rw[hB];exact zu _ _
 have hs0:B.heap[w.heap.size]? =some (.cells #[.int .i8 2,.int .i64 id,.int .i64 par,.int .i64 at_,.string tx,.int .i64 s1,.int .i64 s2,.string s3,.slice sa sn sc] 41 (0,0)):=by rw[hB];exact zi _ _ 0 _ rfl
 have hr0:B.heap[w.heap.size+1]? =some (.cells #[.int .i8 0,.int .i64 0,.int .i64 0,.int .i64 0,.string ⟨#[]⟩,.int .i64 0,.int .i64 0,.string ⟨#[]⟩,.slice none 0 0] 41 (0,0)):=by rw[hB];exact zi _ _ 1 _ rfl
 obtain⟨V9,hV9,v1,v2,v3,v4,v5,v6⟩:=vN (u0:= .int .i8 2) (u1:= .int .i64 id) (u2:= .int .i64 0) (u3:= .int .i64 0) (u4:= .string ⟨#[]⟩) (u5:= .int .i64 0) (u6:= .int .i64 0) (u7:= .string ⟨#[]⟩) (u8:= .slice none 0 0) hr0
 obtain⟨m0,m1,m2,m3,m4,m5,m6,m7,m8⟩:=vo hs0
 obtain⟨z0,z1,z2,z3,z4,z5,z6,z7,z8⟩:=vo hr0
 have zf:∀j,B.frozen? ⟨w.heap.size+1,j,none⟩=false:=fun j=>forQ _ _ j _ _ hr0
 have HEND:Hid (qj w S ⟨2,id,0,0,⟨#[]⟩,zo⟩ (.returned (.agg #[.int .i8 2,.int .i64 id,.int .i64 0,.int .i64 0,.string ⟨#[]⟩,.int .i64 0,.int .i64 0,.string ⟨#[]⟩,.slice none 0 0])) V9):=hH ⟨_,rfl,⟨none,0,rfl,NlrQ _,True.intro⟩,⟨v3.trans hb.os,v4.trans hb.tape,v5.trans hb.output,by rw[v6];exact hb.size,fun y hy=>(v2 y om).trans (hb.block y hy)⟩⟩
 have HV9:=hH (aN hV9 v1)
 have HBE:=hH hB
 clear hb hs0 hr0 hB hV9 v1 v2 v3 v4 v5 v6
 go_enter Tryz.func67,Tryz.ntmps67
 go_upto_region 1 with fail
 change Code.wp _ _ _ _ (zy w [.cells #[.int .i8 2,.int .i64 id,.int .i64 par,.int .i64 at_,.string tx,.int .i64 s1,.int .i64 s2,.string s3,.slice sa sn sc] 41,.cells #[.int .i8 0,.int .i64 0,.int .i64 0,.int .i64 0,.string ⟨#[]⟩,.int .i64 0,.int .i64 0,.string ⟨#[]⟩,.slice none 0 0] 41])
 exact sc0
theorem zgq (w:World)(S:Nat→Prop)(id par at_ s1 s2:Int)(tx s3:ByteArray)(sa:Option Addr)(sn sc:Nat):
 Calls Tryz.prog 67 #[.agg #[.int .i8 3,.int .i64 id,.int .i64 par,.int .i64 at_,.string tx,.int .i64 s1,.int .i64 s2,.string s3,.slice sa sn sc]] w (qj w S ⟨3,id,par,at_,⟨#[]⟩,zo⟩):=by
 obtain⟨B,hB⟩:∃B,B=zy w [.cells #[.int .i8 3,.int .i64 id,.int .i64 par,.int .i64 at_,.string tx,.int .i64 s1,.int .i64 s2,.string s3,.slice sa sn sc] 41,.cells #[.int .i8 0,.int .i64 0,.int .i64 0,.int .i64 0,.string ⟨#[]⟩,.int .i64 0,.int .i64 0,.string ⟨#[]⟩,.slice none 0 0] 41]:=⟨_,rfl⟩
 have hb:Below w.heap.size w B:=by rw[hB];exact zu _ _
 have hs0:B.heap[w.heap.size]? =some (.cells #[.int .i8 3,.int .i64 id,.int .i64 par,.int .i64 at_,.string tx,.int .i64 s1,.int .i64 s2,.string s3,.slice sa sn sc] 41 (0,0)):=by rw[hB];exact zi _ _ 0 _ rfl
 have hr0:B.heap[w.heap.size+1]? =some (.cells #[.int .i8 0,.int .i64 0,.int .i64 0,.int .i64 0,.string ⟨#[]⟩,.int .i64 0,.int .i64 0,.string ⟨#[]⟩,.slice none 0 0] 41 (0,0)):=by rw[hB];exact zi _ _ 1 _ rfl
 obtain⟨V9,hV9,v1,v2,v3,v4,v5,v6⟩:=vN (u0:= .int .i8 3) (u1:= .int .i64 id) (u2:= .int .i64 par) (u3:= .int .i64 at_) (u4:= .string ⟨#[]⟩) (u5:= .int .i64 0) (u6:= .int .i64 0) (u7:= .string ⟨#[]⟩) (u8:= .slice none 0 0) hr0
 obtain⟨m0,m1,m2,m3,m4,m5,m6,m7,m8⟩:=vo hs0
 obtain⟨z0,z1,z2,z3,z4,z5,z6,z7,z8⟩:=vo hr0
 have zf:∀j,B.frozen? ⟨w.heap.size+1,j,none⟩=false:=fun j=>forQ _ _ j _ _ hr0
 have HEND:Hid (qj w S ⟨3,id,par,at_,⟨#[]⟩,zo⟩ (.returned (.agg #[.int .i8 3,.int .i64 id,.int .i64 par,.int .i64 at_,.string ⟨#[]⟩,.int .i64 0,.int .i64 0,.string ⟨#[]⟩,.slice none 0 0])) V9):=hH ⟨_,rfl,⟨none,0,rfl,NlrQ _,True.intro⟩,⟨v3.trans hb.os,v4.trans hb.tape,v5.trans hb.output,by rw[v6];exact hb.size,fun y hy=>(v2 y om).trans (hb.block y hy)⟩⟩
 have HV9:=hH (aN hV9 v1)
 have HBE:=hH hB
 clear hb hs0 hr0 hB hV9 v1 v2 v3 v4 v5 v6
 go_enter Tryz.func67,Tryz.ntmps67
 go_upto_region 1 with fail
 change Code.wp _ _ _ _ (zy w [.cells #[.int .i8 3,.int .i64 id,.int .i64 par,.int .i64 at_,.string tx,.int .i64 s1,.int .i64 s2,.string s3,.slice sa sn sc] 41,.cells #[.int .i8 0,.int .i64 0,.int .i64 0,.int .i64 0,.string ⟨#[]⟩,.int .i64 0,.int .i64 0,.string ⟨#[]⟩,.slice none 0 0] 41])
 exact sc0
theorem zgr (w:World)(S:Nat→Prop)(id par at_ s1 s2:Int)(tx s3:ByteArray)(sa:Option Addr)(sn sc:Nat):
 Calls Tryz.prog 67 #[.agg #[.int .i8 4,.int .i64 id,.int .i64 par,.int .i64 at_,.string tx,.int .i64 s1,.int .i64 s2,.string s3,.slice sa sn sc]] w (qj w S ⟨4,id,0,0,tx,zo⟩):=by
 obtain⟨B,hB⟩:∃B,B=zy w [.cells #[.int .i8 4,.int .i64 id,.int .i64 par,.int .i64 at_,.string tx,.int .i64 s1,.int .i64 s2,.string s3,.slice sa sn sc] 41,.cells #[.int .i8 0,.int .i64 0,.int .i64 0,.int .i64 0,.string ⟨#[]⟩,.int .i64 0,.int .i64 0,.string ⟨#[]⟩,.slice none 0 0] 41]:=⟨_,rfl⟩
 have hb:Below w.heap.size w B:=by rw[hB];exact zu _ _
 have hs0:B.heap[w.heap.size]? =some (.cells #[.int .i8 4,.int .i64 id,.int .i64 par,.int .i64 at_,.string tx,.int .i64 s1,.int .i64 s2,.string s3,.slice sa sn sc] 41 (0,0)):=by rw[hB];exact zi _ _ 0 _ rfl
 have hr0:B.heap[w.heap.size+1]? =some (.cells #[.int .i8 0,.int .i64 0,.int .i64 0,.int .i64 0,.string ⟨#[]⟩,.int .i64 0,.int .i64 0,.string ⟨#[]⟩,.slice none 0 0] 41 (0,0)):=by rw[hB];exact zi _ _ 1 _ rfl
 obtain⟨V9,hV9,v1,v2,v3,v4,v5,v6⟩:=vN (u0:= .int .i8 4) (u1:= .int .i64 id) (u2:= .int .i64 0) (u3:= .int .i64 0) (u4:= .string tx) (u5:= .int .i64 0) (u6:= .int .i64 0) (u7:= .string ⟨#[]⟩) (u8:= .slice none 0 0) hr0
 obtain⟨m0,m1,m2,m3,m4,m5,m6,m7,m8⟩:=vo hs0
 obtain⟨z0,z1,z2,z3,z4,z5,z6,z7,z8⟩:=vo hr0
 have zf:∀j,B.frozen? ⟨w.heap.size+1,j,none⟩=false:=fun j=>forQ _ _ j _ _ hr0
 have HEND:Hid (qj w S ⟨4,id,0,0,tx,zo⟩ (.returned (.agg #[.int .i8 4,.int .i64 id,.int .i64 0,.int .i64 0,.string tx,.int .i64 0,.int .i64 0,.string ⟨#[]⟩,.slice none 0 0])) V9):=hH ⟨_,rfl,⟨none,0,rfl,NlrQ _,True.intro⟩,⟨v3.trans hb.os,v4.trans hb.tape,v5.trans hb.output,by rw[v6];exact hb.size,fun y hy=>(v2 y om).trans (hb.block y hy)⟩⟩
 have HV9:=hH (aN hV9 v1)
 have HBE:=hH hB
 clear hb hs0 hr0 hB hV9 v1 v2 v3 v4 v5 v6
 go_enter Tryz.func67,Tryz.ntmps67
 go_upto_region 1 with fail
 change Code.wp _ _ _ _ (zy w [.cells #[.int .i8 4,.int .i64 id,.int .i64 par,.int .i64 at_,.string tx,.int .i64 s1,.int .i64 s2,.string s3,.slice sa sn sc] 41,.cells #[.int .i8 0,.int .i64 0,.int .i64 0,.int .i64 0,.string ⟨#[]⟩,.int .i64 0,.int .i64 0,.string ⟨#[]⟩,.slice none 0 0] 41])
 exact sc0
theorem zgo (w:World)(Sx:Nat→Prop)(x:Tr)(id par at_:Int)(tx:ByteArray)(sa:Option Addr)(sn sc:Nat)(hSx:∀y,Sx y→y<w.heap.size)(hx:vL w Sx (.agg #[.int .i64 x.id,.int .i64 x.kind,.string x.text,.slice sa sn sc]) x)(hxz:zh x.kids≤100000):
 Calls Tryz.prog 67 #[.agg #[.int .i8 1,.int .i64 id,.int .i64 par,.int .i64 at_,.string tx,.int .i64 x.id,.int .i64 x.kind,.string x.text,.slice sa sn sc]] w (qj w Sx ⟨1,0,par,at_,⟨#[]⟩,x⟩):=by
 obtain⟨B,hB⟩:∃B,B=zy w [.cells #[.int .i8 1,.int .i64 id,.int .i64 par,.int .i64 at_,.string tx,.int .i64 x.id,.int .i64 x.kind,.string x.text,.slice sa sn sc] 41,.cells #[.int .i8 0,.int .i64 0,.int .i64 0,.int .i64 0,.string ⟨#[]⟩,.int .i64 0,.int .i64 0,.string ⟨#[]⟩,.slice none 0 0] 41]:=⟨_,rfl⟩
 have hb:Below w.heap.size w B:=by rw[hB];exact zu _ _
 have hs:B.heap.size=w.heap.size+2:=by rw[hB];exact qa _ _
 have hs0:B.heap[w.heap.size]? =some (.cells #[.int .i8 1,.int .i64 id,.int .i64 par,.int .i64 at_,.string tx,.int .i64 x.id,.int .i64 x.kind,.string x.text,.slice sa sn sc] 41 (0,0)):=by rw[hB];exact zi _ _ 0 _ rfl
 have hr0:B.heap[w.heap.size+1]? =some (.cells #[.int .i8 0,.int .i64 0,.int .i64 0,.int .i64 0,.string ⟨#[]⟩,.int .i64 0,.int .i64 0,.string ⟨#[]⟩,.slice none 0 0] 41 (0,0)):=by rw[hB];exact zi _ _ 1 _ rfl
 have hcp:∀X,Tc B X (w.heap.size+1)→Calls Tryz.prog 113 #[.agg #[.int .i64 x.id,.int .i64 x.kind,.string x.text,.slice sa sn sc]] X (Z7 X Sx x):=fun X hX=>zbx X Sx _ x (fun y hy=>nL (hSx y hy) (NltQ hb.size hX.size)) (hx.kept fun y hy=>⟨hy,(hX.block y (by have:=hSx y hy;omega) (by have:=hSx y hy;omega)).trans (hb.block y (hSx y hy))⟩) hxz
 obtain⟨m0,m1,m2,m3,m4,m5,m6,m7,m8⟩:=vo hs0
 have HCP:=hH hcp
 have HST:=hH hs0
 have HSX:=hH hSx
 have HB:=hH (aN hb (aN hs hr0))
 have HBE:=hH hB
 clear hcp hs0 hb hs hr0 hB hx hSx hxz
 go_enter Tryz.func67,Tryz.ntmps67
 go_upto_region 1 with fail
 change Code.wp _ _ _ _ (zy w [.cells #[.int .i8 1,.int .i64 id,.int .i64 par,.int .i64 at_,.string tx,.int .i64 x.id,.int .i64 x.kind,.string x.text,.slice sa sn sc] 41,.cells #[.int .i8 0,.int .i64 0,.int .i64 0,.int .i64 0,.string ⟨#[]⟩,.int .i64 0,.int .i64 0,.string ⟨#[]⟩,.slice none 0 0] 41])
 rw[←HBE.out]
 clear HBE
 go_upto_region 3 with fail
 clear m0 m1 m2 m3 m4 m5 m6 m7 m8
 refine wrhQ (S:=fun X=>Tc B X (w.heap.size+1)) kr1 (Tc.of (below_drewN (BrQ _ B) 1)) (fun eH=>?_)
 refine tG (i:=0) (.pointer (some ⟨w.heap.size,0,none⟩)) rfl ?_
 simp only[Act.put,pg]
 refine tJ (i:=1) (.int .i8 1) rfl ?_ ?_
 · exact ua7
 simp only[Act.put,pg]
 refine tG (i:=2) (.pointer (some ⟨w.heap.size,2,none⟩)) rfl ?_
 simp only[Act.put,pg]
 refine tJ (i:=3) (.int .i64 par) rfl ?_ ?_
 · exact ua7
 simp only[Act.put,pg]
 refine tG (i:=4) (.pointer (some ⟨w.heap.size,3,none⟩)) rfl ?_
 simp only[Act.put,pg]
 refine tJ (i:=5) (.int .i64 at_) rfl ?_ ?_
 · exact ua7
 simp only[Act.put,pg]
 refine tG (i:=6) (.pointer (some ⟨w.heap.size,5,none⟩)) rfl ?_
 simp only[Act.put,pg]
 refine tJ (i:=7) (.agg #[.int .i64 x.id,.int .i64 x.kind,.string x.text,.slice sa sn sc]) rfl ?_ ?_
 · exact ua7
 simp only[Act.put,pg]
 refine rd [8] ?_
 refine AcQ (o:=_) rfl (fun K hK=>?_) AnQ
 rw[ipQ ue4]
 simp only[pg3]
 have HK:=hH hK
 have HS:=hH eH
 clear hK eH
 go_wp2_with (go_at_call 113;refine (HCP.out _ HS.out).mono ?_;rintro e w5 ⟨_,rfl,⟨yb,yc,rfl,hyc,hyk⟩,hb5⟩;have H5:=hH (aN hyc (aN hyk (aN hb5 ((hb5.block _ (lohQ HB.out.2.2)).trans HB.out.2.2))));have HS5:=hH (HS.out.then hb5);clear hyc hyk hb5)
 exact sb3
theorem zgn (w:World)(S:Nat→Prop)(op id par at_ s1 s2:Int)(tx s3:ByteArray)(sa:Option Addr)(sn sc:Nat)(h1:¬op=1)(h2:¬op=2)(h3:¬op=3)(h4:¬op=4):
 Calls Tryz.prog 67 #[.agg #[.int .i8 op,.int .i64 id,.int .i64 par,.int .i64 at_,.string tx,.int .i64 s1,.int .i64 s2,.string s3,.slice sa sn sc]] w (qj w S ⟨op,0,0,0,⟨#[]⟩,zo⟩):=by
 obtain⟨B,hB⟩:∃B,B=zy w [.cells #[.int .i8 op,.int .i64 id,.int .i64 par,.int .i64 at_,.string tx,.int .i64 s1,.int .i64 s2,.string s3,.slice sa sn sc] 41,.cells #[.int .i8 0,.int .i64 0,.int .i64 0,.int .i64 0,.string ⟨#[]⟩,.int .i64 0,.int .i64 0,.string ⟨#[]⟩,.slice none 0 0] 41]:=⟨_,rfl⟩
 have hb:Below w.heap.size w B:=by rw[hB];exact zu _ _
 have hs0:B.heap[w.heap.size]? =some (.cells #[.int .i8 op,.int .i64 id,.int .i64 par,.int .i64 at_,.string tx,.int .i64 s1,.int .i64 s2,.string s3,.slice sa sn sc] 41 (0,0)):=by rw[hB];exact zi _ _ 0 _ rfl
 have hr0:B.heap[w.heap.size+1]? =some (.cells #[.int .i8 0,.int .i64 0,.int .i64 0,.int .i64 0,.string ⟨#[]⟩,.int .i64 0,.int .i64 0,.string ⟨#[]⟩,.slice none 0 0] 41 (0,0)):=by rw[hB];exact zi _ _ 1 _ rfl
 obtain⟨V9,hV9,v1,v2,v3,v4,v5,v6⟩:=vN (u0:= .int .i8 op) (u1:= .int .i64 0) (u2:= .int .i64 0) (u3:= .int .i64 0) (u4:= .string ⟨#[]⟩) (u5:= .int .i64 0) (u6:= .int .i64 0) (u7:= .string ⟨#[]⟩) (u8:= .slice none 0 0) hr0
 obtain⟨m0,m1,m2,m3,m4,m5,m6,m7,m8⟩:=vo hs0
 obtain⟨z0,z1,z2,z3,z4,z5,z6,z7,z8⟩:=vo hr0
 have zf:∀j,B.frozen? ⟨w.heap.size+1,j,none⟩=false:=fun j=>forQ _ _ j _ _ hr0
 have HEND:Hid (qj w S ⟨op,0,0,0,⟨#[]⟩,zo⟩ (.returned (.agg #[.int .i8 op,.int .i64 0,.int .i64 0,.int .i64 0,.string ⟨#[]⟩,.int .i64 0,.int .i64 0,.string ⟨#[]⟩,.slice none 0 0])) V9):=hH ⟨_,rfl,⟨none,0,rfl,NlrQ _,True.intro⟩,⟨v3.trans hb.os,v4.trans hb.tape,v5.trans hb.output,by rw[v6];exact hb.size,fun y hy=>(v2 y om).trans (hb.block y hy)⟩⟩
 have HV9:=hH (aN hV9 v1)
 have HBE:=hH hB
 have q1:(op == 1)=false:=by simpa using h1
 have q2:(op == 2)=false:=by simpa using h2
 have q3:(op == 3)=false:=by simpa using h3
 have q4:(op == 4)=false:=by simpa using h4
 clear h1 h2 h3 h4
 clear hb hs0 hr0 hB hV9 v1 v2 v3 v4 v5 v6
 go_enter Tryz.func67,Tryz.ntmps67
 go_upto_region 1 with fail
 change Code.wp _ _ _ _ (zy w [.cells #[.int .i8 op,.int .i64 id,.int .i64 par,.int .i64 at_,.string tx,.int .i64 s1,.int .i64 s2,.string s3,.slice sa sn sc] 41,.cells #[.int .i8 0,.int .i64 0,.int .i64 0,.int .i64 0,.string ⟨#[]⟩,.int .i64 0,.int .i64 0,.string ⟨#[]⟩,.slice none 0 0] 41])
 exact sc0
end Go.Proofs.YtoidedomenkbpaaGreat
