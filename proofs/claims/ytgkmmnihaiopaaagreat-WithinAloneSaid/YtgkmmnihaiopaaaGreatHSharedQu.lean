/-
  .
-/
import Derived.BigQuiet
import Derived.Deep.Quiet
import Derived.Test.YtgkmmnihaiopaaaGreatRKidsQu
import Derived.Deep.RegionLaw
import Derived.Laws.OwnMore
import Derived.IntWalk
import Derived.Deep.LoopGhost
import Derived.Laws.EntriesVeiled
import Derived.Test.YtgkmmnihaiopaaaGreatJPgQu
import Derived.Test.YtgkmmnihaiopaaaGreatJPsQu
set_option maxRecDepth 100000
set_option maxHeartbeats 40000000
set_option linter.unusedVariables false
set_option linter.unusedSimpArgs false
namespace Go.Proofs.YtgkmmnihaiopaaaGreat
open Go.RowKit
theorem zcT (w:World) (b off n cap p:Nat) (hp:p<n) (hn:n≤1000000000):Calls Tryz.prog 121 #[.agg #[.slice (some ⟨b,off,none⟩) n cap,.int .i64 (p:Int)]] w fun e w'=>e= .returned (.pointer (some ⟨b,off+p*4,none⟩))∧Below w.heap.size w w':=by
 have hpl:(p:Int)<(n:Int):=by omega
 go_enter Tryz.func121,Tryz.ntmps121
 go_wp2_with fail
 go_ret
 exact⟨rfl,(BrQ _ _).alloc (Nat.le_refl _) _⟩
theorem YH {P:Program} {ops:Array Oper} {C:World→Prop} {Q:Exit→Act→World→Prop} {l:List Oper} {a:Act} (h:∀QQ:Act→Prop,(∀a,(∀w',C w'→Q .normal a w')→QQ a)→wpQuiet P ops C QQ l a):wpQuiet P ops C (fun a'=>∀w',C w'→Q .normal a' w') l a:=h _ (fun _ h=>h)
theorem Yt:∀(M:List Fr) (k:Nat) (s:Fr),M[k]? =some s→(M.flatMap Fr.cells)[k*2]? =some (.slice s.a (foLen s.f) s.cap)∧(M.flatMap Fr.cells)[k*2+1]? =some (.int .i64 s.p)
 | [],_,_,h=>by simp at h
 | x ::M,0,s,h=>by
   simp at h;subst h
   simp[Fr.cells]
 | x ::M,k+1,s,h=>by
   have:=Yt M k s (by simpa using h)
   rw[List.flatMap_cons]
   have e1:(k+1)*2=k*2+1+1:=by omega
   rw[e1]
   simpa [Fr.cells] using this
theorem zcx (L:List Fr):(L.flatMap Fr.cells).length=L.length*2:=by
 induction L with
 | nil=>rfl
 | cons s L ih=>rw[List.flatMap_cons,List.length_append,ih,List.length_cons];simp[Fr.cells];omega
theorem QR:∀(M:List Fr) (k:Nat) (s:Fr) (p:Int),M[k]? =some s→(M.flatMap Fr.cells).set (k*2+1) (.int .i64 p)=(M.set k ⟨s.a,s.cap,s.f,p⟩).flatMap Fr.cells
 | [],_,_,_,h=>by simp at h
 | x ::M,0,s,p,h=>by
   simp at h;subst h
   simp[Fr.cells]
 | x ::M,k+1,s,p,h=>by
   have:=QR M k s p (by simpa using h)
   rw[pgF,List.flatMap_cons,List.flatMap_cons,←this]
   have e1:(k+1)*2+1=k*2+1+1+1:=by omega
   rw[e1]
   simp[Fr.cells]
theorem zd8 {w:World} {B n j cap:Nat} {a:Option Addr} {e:TypeId} {xs ys:List Value} (h:w.ownsRow B e 2 (.slice a n cap) n (xs++ys)) (hj:xs.length=j*2) (hjn:j≤n):w.ownsRow B e 2 (.slice a j cap) j xs:=by
 rcases h.2 with ⟨hv,hn⟩ | ⟨g',cap',cur,hv,hB,hh,h3,h4,h5,h6⟩
 · cases hv
   have:j=0:=by omega
   subst this
   rw[List.length_eq_zero_iff.1 (by omega:xs.length=0)]
   exact World.ownsRow_nil _ _ _ _
 · cases hv
   refine⟨hj,Or.inr ⟨g',cap,cur,rfl,hB,hh,by omega,h4,h5,?_⟩⟩
   have h7:(cur.toList.take (n*2)).take (j*2)=(xs++ys).take (j*2):=by rw[h6]
   rw[List.take_take,Nat.min_eq_left om] at h7
   rw[h7,List.take_left' hj]
def qd (w:World) (rv:Value) (L:List Fr):Prop:=w.ownsRow 0 154 2 rv L.length (L.reverse.flatMap Fr.cells)
theorem qd.kept {w w' :World} {rv:Value} {L:List Fr} (h:qd w rv L) (hk:∀g,rv.ownBlock=some g→w'.heap[g]? =w.heap[g]?):qd w' rv L:=zI h fun g _ _ hg=>hk g hg
theorem qd.at {w:World} {a:Option Addr} {n cap:Nat} {L:List Fr} (h:qd w (.slice a n cap) L) {k:Nat} {x:Fr} (hx:L.reverse[k]? =some x):∃g,a=some ⟨g,0,none⟩∧n=L.length∧w.cell? ⟨g,k*2,none⟩=some (.slice x.a (foLen x.f) x.cap)∧w.cell? ⟨g,k*2+1,none⟩=some (.int .i64 x.p)∧(∀j,w.frozen? ⟨g,j,none⟩=false):=by
 have hk:k<L.length:=by have:=(List.getElem?_eq_some_iff.1 hx).1;rwa [List.length_reverse] at this
 have hn:n=L.length:=by
  rcases h.2 with ⟨hv,h0⟩ | ⟨g,cap,cur,hv,_⟩
  · omega
  · cases hv;rfl
 subst hn
 have hf:=h
 obtain⟨g,cap',e,_⟩:=World.ownsRow.form h om
 cases e
 obtain⟨c0,c1⟩:=Yt _ k x hx
 exact⟨g,rfl,rfl,zF h rfl _ _ c0,zF h rfl _ _ c1,fun j=>World.ownsRow.frozenAt hf j⟩
def zaM (rv:Value) (L:List Fr) (w:World) (e:Ending) (w' :World):Prop:=∃rv',e= .returned rv'∧qd w' rv' (yG L)∧(rv'.ownBlock=rv.ownBlock∨rv'.ownBlock=none)∧zk w w' (fun x=>rv.ownBlock=some x)
def Yb (ra:Option Addr) (n rc:Nat) (L:List Fr) (w:World) (j:Nat) (wr:World):Prop:=∃A R,A.length=j∧R.length+j=n∧yG A=yG L∧(∀x∈A,x∈L)∧wr.ownsRow 0 154 2 (.slice ra n rc) n ((A.reverse++R).flatMap Fr.cells)∧zk w wr (fun x=>(Value.slice ra n rc).ownBlock=some x)
theorem Yb.drew {ra:Option Addr} {n rc j:Nat} {L:List Fr} {w wr:World} (h:Yb ra n rc L w j wr):Yb ra n rc L w j wr.drew:=by
 obtain⟨A,R,h1,h2,h3,h4,h5,h6⟩:=h
 exact⟨A,R,h1,h2,h3,h4,h5,h6.drew⟩
theorem zaM.drew {rv:Value} {L:List Fr} {w w' :World} {e:Ending} (h:zaM rv L w e w'):zaM rv L w e w'.drew:=by
 obtain⟨rv',h1,h2,h3,h4⟩:=h
 exact⟨rv',h1,h2,h3,h4.drew⟩
theorem Yb.at {ra:Option Addr} {n rc k:Nat} {L:List Fr} {w wr:World} (h:Yb ra n rc L w (k+1) wr):∃(g:Nat) (x:Fr),ra=some ⟨g,0,none⟩∧x∈L∧(∀j,wr.frozen? ⟨g,j,none⟩=false)∧wr.cell? ⟨g,k*2,none⟩=some (.slice x.a (foLen x.f) x.cap)∧wr.cell? ⟨g,k*2+1,none⟩=some (.int .i64 x.p)∧k+1≤n∧n≤rc∧
 ((x.p+1<(foLen x.f:Int)→zaM (.slice (some ⟨g,0,none⟩) n rc) L w (.returned (.slice (some ⟨g,0,none⟩) (k+1) rc)) (wr.setCell ⟨g,k*2+1,none⟩ (.int .i64 (x.p+1))))∧(¬x.p+1<(foLen x.f:Int)→Yb (some ⟨g,0,none⟩) n rc L w k (wr.setCell ⟨g,k*2+1,none⟩ (.int .i64 (x.p+1))))):=by
 obtain⟨A,R,h1,h2,h3,h4,h5,h6⟩:=h
 obtain⟨g,cap,e,hcap⟩:=h5.form om
 cases e
 cases A with
 | nil=>simp at h1
 | cons x A=>
   have hA:A.length=k:=by simpa using h1
   have hx:((x::A).reverse++R)[k]? =some x:=by
    rw[List.reverse_cons,List.append_assoc,List.getElem?_append_right (by simp[hA])];simp[hA]
   have hc:=Yt _ k x hx
   have hst:=(h5.stored (k*2+1) (.int .i64 (x.p+1))).1
   rw[QR _ k x _ hx] at hst
   have hset:((x::A).reverse++R).set k ⟨x.a,x.cap,x.f,x.p+1⟩=(⟨x.a,x.cap,x.f,x.p+1⟩::A).reverse++R:=by
    rw[List.reverse_cons,List.reverse_cons,List.append_assoc,List.append_assoc,List.set_append_right _ _ (by simp[hA])]
    simp[hA]
   rw[hset] at hst
   have hb:(fun y=>(Value.slice (some ⟨g,0,none⟩) n rc).ownBlock=some y)=fun y=>y=g:=by
    funext y;simp[Value.ownBlock];exact eq_comm
   have ht:zk w (wr.setCell ⟨g,k*2+1,none⟩ (.int .i64 (x.p+1))) (fun y=>(Value.slice (some ⟨g,0,none⟩) n rc).ownBlock=some y):=by
    rw[hb] at h6 ⊢
    exact h6.trans (zk.setCell (S:=fun y=>y=g) (a:=⟨g,_,none⟩) rfl _) (fun y hy=>Or.inl hy)
   have hrc:n≤rc:=by
    rcases h5.2 with ⟨hv,hn⟩ | ⟨g',cap',cur,hv,hB,hh,h3',_⟩
    · cases hv
    · cases hv;exact h3'
   refine⟨g,x,rfl,h4 x sp1,fun j=>h5.frozenAt j,zF h5 rfl _ _ hc.1,zF h5 rfl _ _ hc.2,by omega,hrc,fun hl=>?_,fun hl=>?_⟩
   · have e:yG L=⟨x.a,x.cap,x.f,x.p+1⟩::A:=by rw[←h3,yG,if_pos hl]
     refine⟨_,rfl,?_,Or.inl rfl,ht⟩
     unfold qd
     rw[e]
     rw[List.flatMap_append] at hst
     have:=zd8 (j:=k+1) hst (by rw[zcx,List.length_reverse,List.length_cons,hA]) om
     rw[List.length_cons,hA]
     exact this
   · refine⟨A,⟨x.a,x.cap,x.f,x.p+1⟩::R,hA,by rw[List.length_cons];omega,by rw[←h3,yG,if_neg hl],fun y hy=>h4 y (by simp[hy]),?_,ht⟩
     rw[List.reverse_cons,List.append_assoc] at hst
     exact hst
theorem Yb.end {ra:Option Addr} {n rc:Nat} {L:List Fr} {w wr:World} (h:Yb ra n rc L w 0 wr):zaM (.slice ra n rc) L w (.returned (.slice none 0 0)) wr:=by
 obtain⟨A,R,h1,h2,h3,h4,h5,h6⟩:=h
 rw[List.length_eq_zero_iff.1 h1] at h3
 refine⟨_,rfl,?_,Or.inr rfl,h6⟩
 rw[←h3]
 exact World.ownsRow_nil _ _ _ _
theorem zcR (w:World) (rv:Value) (L:List Fr) (h:qd w rv L) (hL:L.length≤1000000) (hx:∀x∈L, -1≤x.p∧x.p≤1000000000):Calls Tryz.prog 127 #[rv] w (zaM rv L w):=by
 obtain⟨ra,rc,rfl⟩:=zw h
 obtain⟨n,hn⟩:∃n,n=L.length:=⟨_,rfl⟩
 have HS:Hid (Yb ra n rc L w n w):=hH ⟨L,[],hn.symm,by simp,rfl,fun x hx=>hx,by rw[List.append_nil,hn];exact h,by rw[hn];exact zk.refl _ _⟩
 have HX:=hH hx
 rw[←hn] at hL ⊢
 clear h hx hn
 go_enter Tryz.func127,Tryz.ntmps127
 go_wp2_with fail
 go_loopw [3] (fun i wr=>∃j:Nat,j≤n∧i= .int .i64 ((j:Int) - 1)∧Hid (Yb ra n rc L w j wr)) (fun i _=>(intOf i+1).toNat)
 case atStart=>exact⟨n,Nat.le_refl _,rfl,HS⟩
 case round=>
  obtain⟨j,hj,rfl,hh⟩:=hrel
  clear HS
  cases j with
  | zero=>
    have HE:=hH hh.out.end
    clear hh
    have hz:((0:Nat):Int) - 1= -1:=by omega
    rw[hz]
    go_wp2_with fail
    go_ret
    exact HE.out
  | succ k=>
    obtain⟨g,x,rfl,hxL,fz,c0,c1,hkn,hnr,hy,hno⟩:=hh.out.at
    have hxp:=HX.out x hxL
    obtain⟨xa,xc,xf,p⟩:=x
    obtain⟨q,hq⟩:∃q,q=foLen xf:=⟨_,rfl⟩
    simp only at c0 c1 hy hno hxp
    rw[←hq] at c0 hy hno
    have hk1:((k+1:Nat):Int) - 1=(k:Int):=by omega
    rw[hk1]
    have hkl:(k:Int)<(n:Int):=by omega
    have hkl1:(k:Int)+1≤(n:Int):=by omega
    have hp1:IntKind.i64.wrap (p+1)=p+1:=IntWalk.i64_in _ om
    have HXP:=hH (aN hxp (aN hj hkn))
    by_cases hlt:p+1<(q:Int)
    · have HY:=hH (hy hlt)
      clear hy hno hh hxp hj hk1 hkn
      go_wp2_with fail
      go_region
      all_goals
       go_wp2_with fail
       go_ret
       exact HY.out.drew
    · have HY:=hH (hno hlt)
      clear hy hno hh hxp hj hk1 hkn
      go_wp2_with fail
      go_region
      all_goals
       go_wp2_with fail
       go_roundw
       case rel=>exact⟨k,by have:=HXP.out.2.2;omega,by go_num,hH HY.out.drew⟩
       case measure=>simp[intOf]
end Go.Proofs.YtgkmmnihaiopaaaGreat
namespace Go.Proofs.YtgkmmnihaiopaaaGreat
open Go.RowKit Go.Shelf
structure vo (w:World) (S:Nat→Prop) (t:Tr) (T:Nat→Prop) (rv:Value) (L:List Fr):Prop where
 rows:qd w rv L
 own:∀g,rv.ownBlock=some g→T g
 ok:∀y∈L,y.ok
 lies:∀y∈L,zu w S y.f y.a∧foLen y.f≤y.cap
 chain:qO (zl t) L
 apart:∀y,T y→y<w.heap.size∧¬S y
 few:L.length+jl L≤zg t.kids+2
 sl:∀y,S y→y<w.heap.size
structure zgz (w:World) (S:Nat→Prop) (t:Tr) (T:Nat→Prop) (rv:Value) (L:List Fr):Prop where
 rows:qd w rv L
 own:∀g,rv.ownBlock=some g→T g
 p:∀y∈L, -1≤y.p∧y.p≤(foLen y.f:Int)
 ok:∀y∈L.tail,y.ok
 lies:∀y∈L,zu w S y.f y.a∧foLen y.f≤y.cap
 chain:qO (zl t) L
 apart:∀y,T y→y<w.heap.size∧¬S y
 few:L.length+Y4 L≤zg t.kids+2
 sl:∀y,S y→y<w.heap.size
theorem kX {root:Fo}:∀(L:List Fr),qO root L→∀x∈L,foLen x.f≤zg root
 | [],_,_,h=>by cases h
 | [x],h,y,hy=>by
   rw[List.mem_singleton] at hy;subst hy
   rw[qO] at h;rw[h];exact zK _
 | x :: z :: r,h,y,hy=>by
   rcases List.mem_cons.1 hy with rfl | hy
   · obtain ⟨_,u,hu,he⟩:=h.1
     have h1 : ∀(L:List Fr),qO root L→∀x∈L,zg x.f≤zg root:=by
      intro L
      induction L with
      | nil=>intro _ x hx;cases hx
      | cons a L ih=>
        intro hL x hx
        cases L with
        | nil=>rw[List.mem_singleton] at hx;subst hx;rw[qO] at hL;rw[hL];exact Nat.le_refl _
        | cons b L=>
          rcases List.mem_cons.1 hx with rfl | hx
          · obtain⟨_,v,hv,hf⟩:=hL.1
            have h2:=ih hL.2 b sp1
            have h3:=ZG hv
            have h4:∀(j:Nat) (f:Fo),zg (zq j f)≤zg f:=by
             exact sg1
            have h5:=h4 b.p.toNat b.f
            rw[hf];omega
          · exact ih hL.2 x hx
     have h2:=h1 (y::z::r) h y sp1
     have:=zK y.f
     omega
   · exact kX (z::r) h.2 y hy
theorem vo.kept {w w' :World} {S T:Nat→Prop} {t:Tr} {rv:Value} {L:List Fr} (h:vo w S t T rv L) (hs:w.heap.size≤w'.heap.size) (hT:∀y,T y→w'.heap[y]? =w.heap[y]?) (hS:∀y,S y→w'.heap[y]? =w.heap[y]?):vo w' S t T rv L:=
 ⟨h.rows.kept fun g hg=>hT g (h.own g hg),h.own,h.ok,fun y hy=>⟨(h.lies y hy).1.kept fun k hk=>⟨hk,hS k hk⟩,(h.lies y hy).2⟩,h.chain,fun y hy=>⟨nL (h.apart y hy).1 hs,(h.apart y hy).2⟩,h.few,fun y hy=>nL (h.sl y hy) hs⟩
theorem zgz.next {w w' :World} {S T:Nat→Prop} {t:Tr} {rv rv' :Value} {L:List Fr} (h:zgz w S t T rv L) (h1:qd w' rv' (yG L)) (h2:rv'.ownBlock=rv.ownBlock∨rv'.ownBlock=none) (h3:zk w w' (fun x=>rv.ownBlock=some x)):vo w' S t T rv' (yG L):=by
 have hp:∀x∈L, -1≤x.p:=fun x hx=>(h.p x hx).1
 refine⟨h1,fun g hg=>?_,zcQ L hp h.ok,za5 (fun a c f=>zu w' S f a∧foLen f≤c) L (fun y hy=>⟨(h.lies y hy).1.kept fun k hk=>⟨hk,h3.block k (h.sl k hk) (fun e=>(h.apart k (h.own k e)).2 hk)⟩,(h.lies y hy).2⟩),QU L h.chain,fun y hy=>⟨nL (h.apart y hy).1 h3.size,(h.apart y hy).2⟩,?_,fun y hy=>nL (h.sl y hy) h3.size⟩
 · rcases h2 with e | e
   · exact h.own g (e▸hg)
   · rw[e] at hg;cases hg
 · have:=Y8 L
   have:=YC L hp
   have:=h.few
   omega
theorem vo.here {w:World} {S T:Nat→Prop} {t:Tr} {rv:Value} {x:Fr} {r:List Fr} (h:vo w S t T rv (x::r)):∃(g cap n p:Nat) (u:Tr) (b off:Nat) (ka:Option Addr) (kc:Nat),rv= .slice (some ⟨g,0,none⟩) (n+1) cap∧n=r.length∧n≤zg t.kids+1∧(n:Int)+1≤cap∧T g∧w.cell? ⟨g,n*2,none⟩=some (.slice x.a (foLen x.f) x.cap)∧w.cell? ⟨g,n*2+1,none⟩=some (.int .i64 (p:Int))∧x.p=(p:Int)∧p<foLen x.f∧foLen x.f≤zg t.kids+1∧
 zB x.f x.p.toNat=some u∧x.a=some ⟨b,off,none⟩∧S b∧w.cell? ⟨b,off+p*4,none⟩=some (.int .i64 u.id)∧w.cell? ⟨b,off+p*4+3,none⟩=some (.slice ka (foLen u.kids) kc)∧foLen u.kids≤kc∧zu w S u.kids ka:=by
 have hok:=h.ok x sp1
 obtain⟨ra,rc,rfl⟩:=zw h.rows
 obtain⟨g,rfl,hn,c0,c1,_⟩:=qd.at h.rows (k:=r.length) (x:=x) (by rw[List.reverse_cons,List.getElem?_append_right sp1];simp)
 have hl:=kX _ h.chain x sp1
 rw[zL] at hl
 have hf:=h.few
 have hcap:(r.length:Int)+1≤rc:=by
  rcases h.rows.2 with ⟨hv,_⟩ | ⟨_,_,_,hv,_,_,h3,_⟩
  · cases hv
  · cases hv;simp only[List.length_cons] at h3;omega
 obtain⟨b0,o0,key,l,q,hd,b,off,ka,kc,ha,hSb,d0,_,_,d3,hkc,hk⟩:=(h.lies x sp1).1.at x.p.toNat (by have:=hok.1;have:=hok.2;omega)
 have hp:x.p=(x.p.toNat:Int):=by have:=hok.1;omega
 rw[hp] at c1
 refine⟨g,rc,r.length,x.p.toNat,⟨key.1,key.2.1,key.2.2,l⟩,b,off,ka,kc,by rw[List.length_cons],rfl,?_,hcap,h.own g rfl,c0,c1,hp,by have:=hok.2;omega,by omega,by rw[zB,hd];rfl,ha,hSb,d0,d3,hkc,hk⟩
 have h9:1≤jl (x::r):=by
  rw[jl,hd];simp only[zg];omega
 simp only[List.length_cons] at hf;omega
theorem vo.push {w w3:World} {S T T3:Nat→Prop} {t:Tr} {rv rv3:Value} {x:Fr} {r:List Fr} {u:Tr} {ka:Option Addr} {kc:Nat} (h:vo w S t T rv (x::r)) (hu:zB x.f x.p.toNat=some u) (hk:zu w S u.kids ka) (hkc:foLen u.kids≤kc) (hs:w.heap.size≤w3.heap.size) (hS:∀y,S y→w3.heap[y]? =w.heap[y]?)
 (hr:w3.ownsRow 0 154 2 rv3 (r.length+1+1) ((x::r).reverse.flatMap Fr.cells++[.slice ka (foLen u.kids) kc,.int .i64 (-1)])) (ho:∀g,rv3.ownBlock=some g→T3 g) (hT:∀y,T3 y→y<w3.heap.size∧¬S y):zgz w3 S t T3 rv3 (⟨ka,kc,u.kids, -1⟩::x::r):=by
 have hok:=h.ok x sp1
 refine⟨?_,ho,fun y hy=>?_,h.ok,fun y hy=>?_,⟨⟨hok.1,u,hu,rfl⟩,h.chain⟩,hT,?_,fun y hy=>nL (h.sl y hy) hs⟩
 · unfold qd
   rw[List.reverse_cons,List.flatMap_append]
   exact hr
 · rcases List.mem_cons.1 hy with rfl | hy
   · exact⟨by simp,by simp only;omega⟩
   · have:=h.ok y hy;exact⟨by have:=this.1;omega,by have:=this.2;omega⟩
 · rcases List.mem_cons.1 hy with rfl | hy
   · exact⟨hk.kept fun k hk=>⟨hk,hS k hk⟩,hkc⟩
   · exact⟨(h.lies y hy).1.kept fun k hk=>⟨hk,hS k hk⟩,(h.lies y hy).2⟩
 · have h1:=zah (a:=ka) (c:=kc) (r:=r) hok hu
   have h2:=h.few
   simp only[List.length_cons] at h2 ⊢
   omega
end Go.Proofs.YtgkmmnihaiopaaaGreat
namespace Go.Proofs.YtgkmmnihaiopaaaGreat
open Go.RowKit
def lcp {α:Type} [DecidableEq α]:List α→List α→Nat
 | a::l,b::m=>if a=b then lcp l m+1 else 0
 | _,_=>0
theorem zhf {α:Type} [DecidableEq α]:∀(l m:List α),lcp l m≤l.length∧lcp l m≤m.length
 | [],_=>by simp[lcp]
 | _::_,[]=>by simp[lcp]
 | a ::l,b::m=>by
   have:=zhf l m
   simp only[lcp,List.length_cons]
   split<;>omega
theorem zhe {α:Type} [DecidableEq α] {l m:List α} {k:Nat} {x y:α} (hx:l[k]? =some x) (hy:m[k]? =some y):lcp (l.drop k) (m.drop k)=if x=y then lcp (l.drop (k+1)) (m.drop (k+1))+1 else 0:=by
 obtain⟨h1,h2⟩:=List.getElem?_eq_some_iff.1 hx
 obtain⟨h3,h4⟩:=List.getElem?_eq_some_iff.1 hy
 rw[←List.getElem_cons_drop h1,←List.getElem_cons_drop h3,h2,h4,lcp]
theorem zie {α:Type} [DecidableEq α] {l m:List α} {k:Nat} (h:l.length≤k∨m.length≤k):lcp (l.drop k) (m.drop k)=0:=by
 rcases h with h | h
 · rw[List.drop_eq_nil_of_le h];simp[lcp]
 · rw[List.drop_eq_nil_of_le h]
   cases l.drop k<;>simp[lcp]
theorem zeF {α β:Type} [DecidableEq α] [DecidableEq β] (f:α→β):∀(l m:List α),(∀a∈l,∀b∈m,f a=f b→a=b)→lcp (l.map f) (m.map f)=lcp l m
 | [],_,_=>by simp[lcp]
 | _::_,[],_=>by simp[lcp]
 | a ::l,b::m,h=>by
   simp only[List.map_cons,lcp]
   have ih:=zeF f l m (fun x hx y hy=>h x (by simp[hx]) y (by simp[hy]))
   by_cases hab:a=b
   · rw[if_pos hab,if_pos (by rw[hab]),ih]
   · rw[if_neg hab,if_neg (fun e=>hab (h a sp1 b sp1 e))]
def yB (L:List Fr):List Int:=L.reverse.map Fr.p
theorem zd0 (L M:List Fr) (hL:∀x∈L,x.ok) (hM:∀x∈M,x.ok):lcp (yB L) (yB M)=lcp (places L) (places M):=by
 have h1:places L=(yB L).map Int.toNat:=by simp[places,yB]
 have h2:places M=(yB M).map Int.toNat:=by simp[places,yB]
 rw[h1,h2,zeF]
 intro a ha b hb he
 simp only[yB,List.mem_map,List.mem_reverse] at ha hb
 obtain⟨x,hx,rfl⟩:=ha
 obtain⟨y,hy,rfl⟩:=hb
 have:=(hL x hx).1
 have:=(hM y hy).1
 omega
theorem zao {L:List Fr} {k:Nat} {x:Fr} (h:L.reverse[k]? =some x):(yB L)[k]? =some x.p:=by
 rw[yB,List.getElem?_map,h];rfl
def zbm (L M:List Fr) (w:World) (k:Nat) (wr:World):Prop:=lcp (yB L) (yB M)=k+lcp ((yB L).drop k) ((yB M).drop k)∧Below w.heap.size w wr
theorem zel (w:World) (av bv:Value) (L M:List Fr) (hL:qd w av L) (hM:qd w bv M) (hl:L.length≤1000000) (hm:M.length≤1000000):Calls Tryz.prog 112 #[av,bv] w fun e w'=>e= .returned (.int .i64 (lcp (yB L) (yB M):Nat))∧Below w.heap.size w w':=by
 obtain⟨a,ac,rfl⟩:=zw hL
 obtain⟨b,bc,rfl⟩:=zw hM
 obtain⟨n,hn⟩:∃n,n=L.length:=⟨_,rfl⟩
 obtain⟨m,hm'⟩:∃m,m=M.length:=⟨_,rfl⟩
 have H:=hH (aN hL (aN hM (aN hn hm')))
 rw[←hn] at hl ⊢
 rw[←hm'] at hm ⊢
 clear hL hM hn hm'
 have HS:Hid (zbm L M w 0 w):=hH ⟨by simp,BrQ _ _⟩
 go_enter Tryz.func112,Tryz.ntmps112
 go_wp2_with fail
 go_loopw [5] (fun i wr=>∃k:Nat,k≤n∧k≤m∧i= .int .i64 (k:Int)∧Hid (zbm L M w k wr)) (fun i _=>n - (intOf i).toNat)
 case atStart=>exact⟨0,Nat.zero_le _,Nat.zero_le _,rfl,HS⟩
 case round=>
  obtain⟨k,hkn,hkm,rfl,hh⟩:=hrel
  clear HS
  by_cases hlt:k<n∧k<m
  · obtain⟨x,hx⟩:∃x,L.reverse[k]? =some x:=⟨_,List.getElem?_eq_getElem (by rw[List.length_reverse,←H.out.2.2.1];exact hlt.1)⟩
    obtain⟨y,hy⟩:∃y,M.reverse[k]? =some y:=⟨_,List.getElem?_eq_getElem (by rw[List.length_reverse,←H.out.2.2.2];exact hlt.2)⟩
    have hL:=H.out.1
    have hM:=H.out.2.1
    rw[←H.out.2.2.1] at hL
    rw[←H.out.2.2.2] at hM
    obtain⟨g1,rfl,_,_,c1,_⟩:=qd.at H.out.1 hx
    obtain⟨g2,rfl,_,_,c2,_⟩:=qd.at H.out.2.1 hy
    have d1:wr.cell? ⟨g1,k*2+1,none⟩=some (.int .i64 x.p):=(hh.out.2.cell (World.block_lt_of_cell? _ _ c1)).trans c1
    have d2:wr.cell? ⟨g2,k*2+1,none⟩=some (.int .i64 y.p):=(hh.out.2.cell (World.block_lt_of_cell? _ _ c2)).trans c2
    have hstep:=zhe (zao hx) (zao hy)
    obtain⟨p,hp⟩:∃p,p=x.p:=⟨_,rfl⟩
    obtain⟨q,hq⟩:∃q,q=y.p:=⟨_,rfl⟩
    rw[←hp] at d1 hstep
    rw[←hq] at d2 hstep
    have hkl1:(k:Int)<(n:Int):=by omega
    have hkl2:(k:Int)<(m:Int):=by omega
    have hmin:(k:Int)<min (n:Int) (m:Int):=by omega
    by_cases hpq:p=q
    · rw[if_pos hpq] at hstep
      have hbq:(p == q)=true:=by simpa using hpq
      have HN:Hid (zbm L M w (k+1) wr):=hH ⟨by have:=hh.out.1;omega,hh.out.2⟩
      have HLT:=hH hlt
      clear hL hM hx hy c1 c2 hp hq hstep hpq hh hlt hkn hkm
      go_wp2_with fail
      refine wp_region_quiet (C:=fun X=>Below wr.heap.size wr X) kr1 kr1 (below_drewN (BrQ _ wr) 1) ?_
      refine YH (fun QQ hQQ=>?_)
      have HQQ:=hH hQQ
      clear hQQ
      with_reducible refine wpQuiet_step ?_
      intro K hK
      rw[if_pos (by rfl)]
      refine⟨.int .i64 (k:Int),fun X hX=>?_,hK _ ?_⟩
      · clear hK;go_simp
      clear hK K
      simp only[Act.put,pgD,pgE,pgF]
      with_reducible refine wpQuiet_step ?_
      intro K hK
      rw[if_pos (by rfl)]
      refine⟨.slice (some ⟨g1,0,none⟩) n ac,fun X hX=>?_,hK _ ?_⟩
      · clear hK;go_simp
      clear hK K
      simp only[Act.put,pgD,pgE,pgF]
      with_reducible refine wpQuiet_step ?_
      intro K hK
      rw[if_pos (by rfl)]
      refine⟨.int .i64 (n:Int),fun X hX=>?_,hK _ ?_⟩
      · clear hK;go_simp
      clear hK K
      simp only[Act.put,pgD,pgE,pgF]
      with_reducible refine wpQuiet_step ?_
      intro K hK
      rw[if_pos (by rfl)]
      refine⟨.slice (some ⟨g2,0,none⟩) m bc,fun X hX=>?_,hK _ ?_⟩
      · clear hK;go_simp
      clear hK K
      simp only[Act.put,pgD,pgE,pgF]
      with_reducible refine wpQuiet_step ?_
      intro K hK
      rw[if_pos (by rfl)]
      refine⟨.int .i64 (m:Int),fun X hX=>?_,hK _ ?_⟩
      · clear hK;go_simp
      clear hK K
      simp only[Act.put,pgD,pgE,pgF]
      with_reducible refine wpQuiet_step ?_
      intro K hK
      rw[if_pos (by rfl)]
      refine⟨.int .i64 (min (n:Int) (m:Int)),fun X hX=>?_,hK _ ?_⟩
      · clear hK;go_simp<;>(rw[Int.min_def];split<;>split<;>omega)
      clear hK K
      simp only[Act.put,pgD,pgE,pgF]
      with_reducible refine wpQuiet_step ?_
      intro K hK
      rw[if_pos (by rfl)]
      refine⟨.bool true,fun X hX=>?_,hK _ ?_⟩
      · clear hK;go_simp
      clear hK K
      simp only[Act.put,pgD,pgE,pgF]
      with_reducible refine wpQuiet_step ?_
      intro K hK
      rw[if_pos (by rfl)]
      refine⟨.bool true,fun X hX=>?_,hK _ ?_⟩
      · clear hK;go_simp
      clear hK K
      simp only[Act.put,pgD,pgE,pgF]
      with_reducible refine wpQuiet_step ?_
      intro K hK
      rw[if_pos (by rfl)]
      refine⟨.slice (some ⟨g1,0,none⟩) n ac,fun X hX=>?_,hK _ ?_⟩
      · clear hK;go_simp
      clear hK K
      simp only[Act.put,pgD,pgE,pgF]
      with_reducible refine wpQuiet_step ?_
      intro K hK
      rw[if_pos (by rfl)]
      refine⟨.int .i64 (k:Int),fun X hX=>?_,hK _ ?_⟩
      · clear hK;go_simp
      clear hK K
      simp only[Act.put,pgD,pgE,pgF]
      with_reducible refine wpQuiet_step ?_
      intro K hK
      rw[if_pos (by rfl)]
      refine⟨.pointer (some ⟨g1,k*2,none⟩),fun X hX=>?_,hK _ ?_⟩
      · clear hK;go_simp
      clear hK K
      simp only[Act.put,pgD,pgE,pgF]
      with_reducible refine wpQuiet_step ?_
      intro K hK
      rw[if_pos (by rfl)]
      refine⟨.pointer (some ⟨g1,k*2+1,none⟩),fun X hX=>?_,hK _ ?_⟩
      · clear hK;go_simp
      clear hK K
      simp only[Act.put,pgD,pgE,pgF]
      with_reducible refine wpQuiet_step ?_
      intro K hK
      rw[if_pos (by rfl)]
      refine⟨.int .i64 p,fun X hX=>?_,hK _ ?_⟩
      · clear hK;have d:=(hX.cell (World.block_lt_of_cell? _ _ d1)).trans d1;go_simp
      clear hK K
      simp only[Act.put,pgD,pgE,pgF]
      with_reducible refine wpQuiet_step ?_
      intro K hK
      rw[if_pos (by rfl)]
      refine⟨.slice (some ⟨g2,0,none⟩) m bc,fun X hX=>?_,hK _ ?_⟩
      · clear hK;go_simp
      clear hK K
      simp only[Act.put,pgD,pgE,pgF]
      with_reducible refine wpQuiet_step ?_
      intro K hK
      rw[if_pos (by rfl)]
      refine⟨.int .i64 (k:Int),fun X hX=>?_,hK _ ?_⟩
      · clear hK;go_simp
      clear hK K
      simp only[Act.put,pgD,pgE,pgF]
      with_reducible refine wpQuiet_step ?_
      intro K hK
      rw[if_pos (by rfl)]
      refine⟨.pointer (some ⟨g2,k*2,none⟩),fun X hX=>?_,hK _ ?_⟩
      · clear hK;go_simp
      clear hK K
      simp only[Act.put,pgD,pgE,pgF]
      with_reducible refine wpQuiet_step ?_
      intro K hK
      rw[if_pos (by rfl)]
      refine⟨.pointer (some ⟨g2,k*2+1,none⟩),fun X hX=>?_,hK _ ?_⟩
      · clear hK;go_simp
      clear hK K
      simp only[Act.put,pgD,pgE,pgF]
      with_reducible refine wpQuiet_step ?_
      intro K hK
      rw[if_pos (by rfl)]
      refine⟨.int .i64 q,fun X hX=>?_,hK _ ?_⟩
      · clear hK;have d:=(hX.cell (World.block_lt_of_cell? _ _ d2)).trans d2;go_simp
      clear hK K
      simp only[Act.put,pgD,pgE,pgF]
      with_reducible refine wpQuiet_step ?_
      intro K hK
      rw[if_pos (by rfl)]
      refine⟨.bool true,fun X hX=>?_,hK _ ?_⟩
      · clear hK;go_simp
      clear hK K
      simp only[Act.put,pgD,pgE,pgF]
      with_reducible refine wpQuiet_step ?_
      intro K hK
      rw[if_pos (by rfl)]
      refine⟨.bool true,fun X hX=>?_,hK _ ?_⟩
      · clear hK;go_simp
      clear hK K
      simp only[Act.put,pgD,pgE,pgF]
      refine wpQuiet_nil (HQQ.out _ ?_)
      clear HQQ
      intro V hV
      have HV:=hH hV
      clear hV
      go_wp2_with fail
      exact⟨⟨k+1,by have:=HLT.out;omega,by have:=HLT.out;omega,by go_num,hH ⟨HN.out.1,HN.out.2.trans (HV.out.mono HN.out.2.size)⟩⟩,by have:=HLT.out;simp[intOf];omega⟩
    · rw[if_neg hpq] at hstep
      have hbq:(p == q)=false:=by simpa using hpq
      have HE:Hid (lcp (yB L) (yB M)=k∧Below w.heap.size w wr):=hH ⟨by have:=hh.out.1;omega,hh.out.2⟩
      clear hL hM hx hy c1 c2 hp hq hstep hpq hh hlt hkn hkm
      go_wp2_with fail
      refine wp_region_quiet (C:=fun X=>Below wr.heap.size wr X) kr1 kr1 (below_drewN (BrQ _ wr) 1) ?_
      refine YH (fun QQ hQQ=>?_)
      have HQQ:=hH hQQ
      clear hQQ
      with_reducible refine wpQuiet_step ?_
      intro K hK
      rw[if_pos (by rfl)]
      refine⟨.int .i64 (k:Int),fun X hX=>?_,hK _ ?_⟩
      · clear hK;go_simp
      clear hK K
      simp only[Act.put,pgD,pgE,pgF]
      with_reducible refine wpQuiet_step ?_
      intro K hK
      rw[if_pos (by rfl)]
      refine⟨.slice (some ⟨g1,0,none⟩) n ac,fun X hX=>?_,hK _ ?_⟩
      · clear hK;go_simp
      clear hK K
      simp only[Act.put,pgD,pgE,pgF]
      with_reducible refine wpQuiet_step ?_
      intro K hK
      rw[if_pos (by rfl)]
      refine⟨.int .i64 (n:Int),fun X hX=>?_,hK _ ?_⟩
      · clear hK;go_simp
      clear hK K
      simp only[Act.put,pgD,pgE,pgF]
      with_reducible refine wpQuiet_step ?_
      intro K hK
      rw[if_pos (by rfl)]
      refine⟨.slice (some ⟨g2,0,none⟩) m bc,fun X hX=>?_,hK _ ?_⟩
      · clear hK;go_simp
      clear hK K
      simp only[Act.put,pgD,pgE,pgF]
      with_reducible refine wpQuiet_step ?_
      intro K hK
      rw[if_pos (by rfl)]
      refine⟨.int .i64 (m:Int),fun X hX=>?_,hK _ ?_⟩
      · clear hK;go_simp
      clear hK K
      simp only[Act.put,pgD,pgE,pgF]
      with_reducible refine wpQuiet_step ?_
      intro K hK
      rw[if_pos (by rfl)]
      refine⟨.int .i64 (min (n:Int) (m:Int)),fun X hX=>?_,hK _ ?_⟩
      · clear hK;go_simp<;>(rw[Int.min_def];split<;>split<;>omega)
      clear hK K
      simp only[Act.put,pgD,pgE,pgF]
      with_reducible refine wpQuiet_step ?_
      intro K hK
      rw[if_pos (by rfl)]
      refine⟨.bool true,fun X hX=>?_,hK _ ?_⟩
      · clear hK;go_simp
      clear hK K
      simp only[Act.put,pgD,pgE,pgF]
      with_reducible refine wpQuiet_step ?_
      intro K hK
      rw[if_pos (by rfl)]
      refine⟨.bool true,fun X hX=>?_,hK _ ?_⟩
      · clear hK;go_simp
      clear hK K
      simp only[Act.put,pgD,pgE,pgF]
      with_reducible refine wpQuiet_step ?_
      intro K hK
      rw[if_pos (by rfl)]
      refine⟨.slice (some ⟨g1,0,none⟩) n ac,fun X hX=>?_,hK _ ?_⟩
      · clear hK;go_simp
      clear hK K
      simp only[Act.put,pgD,pgE,pgF]
      with_reducible refine wpQuiet_step ?_
      intro K hK
      rw[if_pos (by rfl)]
      refine⟨.int .i64 (k:Int),fun X hX=>?_,hK _ ?_⟩
      · clear hK;go_simp
      clear hK K
      simp only[Act.put,pgD,pgE,pgF]
      with_reducible refine wpQuiet_step ?_
      intro K hK
      rw[if_pos (by rfl)]
      refine⟨.pointer (some ⟨g1,k*2,none⟩),fun X hX=>?_,hK _ ?_⟩
      · clear hK;go_simp
      clear hK K
      simp only[Act.put,pgD,pgE,pgF]
      with_reducible refine wpQuiet_step ?_
      intro K hK
      rw[if_pos (by rfl)]
      refine⟨.pointer (some ⟨g1,k*2+1,none⟩),fun X hX=>?_,hK _ ?_⟩
      · clear hK;go_simp
      clear hK K
      simp only[Act.put,pgD,pgE,pgF]
      with_reducible refine wpQuiet_step ?_
      intro K hK
      rw[if_pos (by rfl)]
      refine⟨.int .i64 p,fun X hX=>?_,hK _ ?_⟩
      · clear hK;have d:=(hX.cell (World.block_lt_of_cell? _ _ d1)).trans d1;go_simp
      clear hK K
      simp only[Act.put,pgD,pgE,pgF]
      with_reducible refine wpQuiet_step ?_
      intro K hK
      rw[if_pos (by rfl)]
      refine⟨.slice (some ⟨g2,0,none⟩) m bc,fun X hX=>?_,hK _ ?_⟩
      · clear hK;go_simp
      clear hK K
      simp only[Act.put,pgD,pgE,pgF]
      with_reducible refine wpQuiet_step ?_
      intro K hK
      rw[if_pos (by rfl)]
      refine⟨.int .i64 (k:Int),fun X hX=>?_,hK _ ?_⟩
      · clear hK;go_simp
      clear hK K
      simp only[Act.put,pgD,pgE,pgF]
      with_reducible refine wpQuiet_step ?_
      intro K hK
      rw[if_pos (by rfl)]
      refine⟨.pointer (some ⟨g2,k*2,none⟩),fun X hX=>?_,hK _ ?_⟩
      · clear hK;go_simp
      clear hK K
      simp only[Act.put,pgD,pgE,pgF]
      with_reducible refine wpQuiet_step ?_
      intro K hK
      rw[if_pos (by rfl)]
      refine⟨.pointer (some ⟨g2,k*2+1,none⟩),fun X hX=>?_,hK _ ?_⟩
      · clear hK;go_simp
      clear hK K
      simp only[Act.put,pgD,pgE,pgF]
      with_reducible refine wpQuiet_step ?_
      intro K hK
      rw[if_pos (by rfl)]
      refine⟨.int .i64 q,fun X hX=>?_,hK _ ?_⟩
      · clear hK;have d:=(hX.cell (World.block_lt_of_cell? _ _ d2)).trans d2;go_simp
      clear hK K
      simp only[Act.put,pgD,pgE,pgF]
      with_reducible refine wpQuiet_step ?_
      intro K hK
      rw[if_pos (by rfl)]
      refine⟨.bool false,fun X hX=>?_,hK _ ?_⟩
      · clear hK;go_simp
      exact sd4
  · have HE:Hid (lcp (yB L) (yB M)=k∧Below w.heap.size w wr):=hH ⟨by
     have:=hh.out.1
     have h2:=zie (l:=yB L) (m:=yB M) (k:=k) (by
      simp only[yB,List.length_map,List.length_reverse]
      have:=H.out.2.2.1;have:=H.out.2.2.2;omega)
     omega,hh.out.2⟩
    have hmin:¬(k:Int)<min (n:Int) (m:Int):=by omega
    clear hh hlt hkn hkm
    go_wp2_with fail
    refine wp_region_quiet (C:=fun X=>Below wr.heap.size wr X) kr1 kr1 (below_drewN (BrQ _ wr) 1) ?_
    refine YH (fun QQ hQQ=>?_)
    have HQQ:=hH hQQ
    clear hQQ
    with_reducible refine wpQuiet_step ?_
    intro K hK
    rw[if_pos (by rfl)]
    refine⟨.int .i64 (k:Int),fun X hX=>?_,hK _ ?_⟩
    · clear hK;go_simp
    clear hK K
    simp only[Act.put,pgD,pgE,pgF]
    with_reducible refine wpQuiet_step ?_
    intro K hK
    rw[if_pos (by rfl)]
    refine⟨.slice a n ac,fun X hX=>?_,hK _ ?_⟩
    · clear hK;go_simp
    clear hK K
    simp only[Act.put,pgD,pgE,pgF]
    with_reducible refine wpQuiet_step ?_
    intro K hK
    rw[if_pos (by rfl)]
    refine⟨.int .i64 (n:Int),fun X hX=>?_,hK _ ?_⟩
    · clear hK;go_simp
    clear hK K
    simp only[Act.put,pgD,pgE,pgF]
    with_reducible refine wpQuiet_step ?_
    intro K hK
    rw[if_pos (by rfl)]
    refine⟨.slice b m bc,fun X hX=>?_,hK _ ?_⟩
    · clear hK;go_simp
    clear hK K
    simp only[Act.put,pgD,pgE,pgF]
    with_reducible refine wpQuiet_step ?_
    intro K hK
    rw[if_pos (by rfl)]
    refine⟨.int .i64 (m:Int),fun X hX=>?_,hK _ ?_⟩
    · clear hK;go_simp
    clear hK K
    simp only[Act.put,pgD,pgE,pgF]
    with_reducible refine wpQuiet_step ?_
    intro K hK
    rw[if_pos (by rfl)]
    refine⟨.int .i64 (min (n:Int) (m:Int)),fun X hX=>?_,hK _ ?_⟩
    · clear hK;go_simp<;>(rw[Int.min_def];split<;>split<;>omega)
    clear hK K
    simp only[Act.put,pgD,pgE,pgF]
    with_reducible refine wpQuiet_step ?_
    intro K hK
    rw[if_pos (by rfl)]
    refine⟨.bool false,fun X hX=>?_,hK _ ?_⟩
    · clear hK;go_simp
    clear hK K
    simp only[Act.put,pgD,pgE,pgF]
    with_reducible refine wpQuiet_step ?_
    intro K hK
    rw[if_pos (by rfl)]
    refine⟨.bool false,fun X hX=>?_,hK _ ?_⟩
    · clear hK;go_simp
    clear hK K
    simp only[Act.put,pgD,pgE,pgF]
    with_reducible refine wpQuiet_step ?_
    intro K hK
    rw[if_neg (by exact Bool.false_ne_true)]
    with_reducible apply hK
    clear hK K
    simp only[Act.put,pgD,pgE,pgF]
    with_reducible refine wpQuiet_step ?_
    intro K hK
    rw[if_neg (by exact Bool.false_ne_true)]
    with_reducible apply hK
    clear hK K
    simp only[Act.put,pgD,pgE,pgF]
    with_reducible refine wpQuiet_step ?_
    intro K hK
    rw[if_neg (by exact Bool.false_ne_true)]
    with_reducible apply hK
    clear hK K
    simp only[Act.put,pgD,pgE,pgF]
    with_reducible refine wpQuiet_step ?_
    intro K hK
    rw[if_neg (by exact Bool.false_ne_true)]
    with_reducible apply hK
    clear hK K
    simp only[Act.put,pgD,pgE,pgF]
    with_reducible refine wpQuiet_step ?_
    intro K hK
    rw[if_neg (by exact Bool.false_ne_true)]
    with_reducible apply hK
    clear hK K
    simp only[Act.put,pgD,pgE,pgF]
    with_reducible refine wpQuiet_step ?_
    intro K hK
    rw[if_neg (by exact Bool.false_ne_true)]
    with_reducible apply hK
    clear hK K
    simp only[Act.put,pgD,pgE,pgF]
    with_reducible refine wpQuiet_step ?_
    intro K hK
    rw[if_neg (by exact Bool.false_ne_true)]
    with_reducible apply hK
    clear hK K
    simp only[Act.put,pgD,pgE,pgF]
    with_reducible refine wpQuiet_step ?_
    intro K hK
    rw[if_neg (by exact Bool.false_ne_true)]
    with_reducible apply hK
    clear hK K
    simp only[Act.put,pgD,pgE,pgF]
    with_reducible refine wpQuiet_step ?_
    intro K hK
    rw[if_neg (by exact Bool.false_ne_true)]
    with_reducible apply hK
    clear hK K
    simp only[Act.put,pgD,pgE,pgF]
    with_reducible refine wpQuiet_step ?_
    intro K hK
    rw[if_neg (by exact Bool.false_ne_true)]
    with_reducible apply hK
    clear hK K
    simp only[Act.put,pgD,pgE,pgF]
    with_reducible refine wpQuiet_step ?_
    intro K hK
    rw[if_neg (by exact Bool.false_ne_true)]
    with_reducible apply hK
    exact sd4
end Go.Proofs.YtgkmmnihaiopaaaGreat
