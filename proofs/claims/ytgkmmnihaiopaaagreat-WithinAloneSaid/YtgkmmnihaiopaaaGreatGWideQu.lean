/-
  .
-/
import Derived.Test.YtgkmmnihaiopaaaGreatGGreatQu
import Derived.Maps.OwnSet
import Derived.Maps.OwnOps
import Derived.Deep.QuietTactic
import Derived.BigQuiet
import Derived.Deep.MidRow
import Derived.Deep.WholeRow
import Derived.Test.YtgkmmnihaiopaaaGreatJPgQu
import Derived.Test.YtgkmmnihaiopaaaGreatJPsQu
set_option maxRecDepth 100000
set_option maxHeartbeats 40000000

namespace Go.Proofs.YtgkmmnihaiopaaaGreat
def rise (n:Int):Int→List Int→Bool
 | _,[]=>true
 | a,x::r=>decide (a<x) && decide (x<n) && rise n x r
theorem zc7 (n:Int):∀(l:List Int) (a:Int),rise n a l=true→l= []∨(l.length:Int)+a<n
 | [],_,_=>Or.inl rfl
 | x ::r,a,h=>by
   simp only[rise,Bool.and_eq_true,decide_eq_true_eq] at h
   right
   rcases zc7 n r x h.2 with h1 | h1
   · subst h1;simp;omega
   · simp only[List.length_cons];omega
theorem zbc {n a:Int} {l:List Int} {k:Nat} {x:Int} {r:Bool} (hr:r=rise n a (l.drop k)) (h:l[k]? =some x):r=(decide (a<x) && decide (x<n) && rise n x (l.drop (k+1))):=by rw[hr,Qp h];rfl
theorem zat {n a:Int} {l:List Int} {k:Nat} {r:Bool} (hr:r=rise n a (l.drop k)) (h:l.length≤k):r=true:=by rw[hr,List.drop_eq_nil_of_le h];rfl
def qJ (s:Sl):Bool:=decide (0<s.kinds.length) && decide (0≤s.least) && decide (s.least≤s.most) && decide (s.most≤1000)
def yL (n:Int) (s:Sl):Bool:=rise n (-1) s.kinds && qJ s
def kG (k:Kd):Bool:=decide (1≤k.name.size) && decide (k.name.size≤40) && decide (k.slots.length≤8)
def kindOk (n:Int) (k:Kd):Bool:=kG k && k.slots.all (yL n)
def fresh (l:List Kd) (s:List UInt8):Bool:=l.all fun k=>decide (k.name.data.toList≠s)
def apart:List Kd→Bool
 | []=>true
 | k::r=>fresh r k.name.data.toList && apart r
def zdP (g:Gr):Bool:=decide (g.kinds.length≤32) && decide (0≤g.root) && decide (g.root<(g.kinds.length:Int))
def qz (g:Gr):Bool:=zdP g && g.kinds.all (kindOk g.kinds.length) && apart g.kinds
theorem JA {α:Type} {f:α→Bool} {l:List α} {k:Nat} {x:α} {r:Bool} (hr:r=(l.drop k).all f) (h:l[k]? =some x):r=(f x && (l.drop (k+1)).all f):=by rw[hr,Qp h];rfl
theorem zbo {α:Type} {f:α→Bool} {l:List α} {k:Nat} {r:Bool} (hr:r=(l.drop k).all f) (h:l.length≤k):r=true:=by rw[hr,List.drop_eq_nil_of_le h];rfl
theorem JX (l:List Kd) (k:Kd) (s:List UInt8):fresh (l++[k]) s=(fresh l s && decide (k.name.data.toList≠s)):=by simp[fresh]
theorem JD:∀(l:List Kd) (k:Kd),apart (l++[k])=(apart l && fresh l k.name.data.toList)
 | [],k=>by simp[apart,fresh]
 | x ::r,k=>by
   rw[List.cons_append,apart,apart,JD r k,JX]
   have e:decide (k.name.data.toList≠x.name.data.toList)=decide (x.name.data.toList≠k.name.data.toList):=by
    congr 1;simp only[ne_eq,eq_iff_iff];exact⟨fun h e=>h e.symm,fun h e=>h e.symm⟩
   rw[e]
   simp only[fresh,List.all_cons]
   cases List.all r _<;>cases apart r<;>cases decide (x.name.data.toList≠k.name.data.toList)<;>simp
theorem Z7 {α:Type} {l:List α} {k:Nat} {x:α} (h:l[k]? =some x):l.take (k+1)=l.take k++[x]:=by
 rw[List.take_add_one,h];rfl
theorem zcz {l:List Kd} {s:List UInt8} {k:Nat} {x:Kd} (h:fresh l s=true) (hx:l[k]? =some x):x.name.data.toList≠s:=by
 have:=List.all_eq_true.1 h x (List.mem_of_getElem? hx)
 simpa using this
theorem Yv {l:List Kd} {s:List UInt8} {k:Nat} {x:Kd} (hx:l[k]? =some x):fresh (l.take (k+1)) s=(fresh (l.take k) s && decide (x.name.data.toList≠s)):=by rw[Z7 hx,JX]
theorem Ym {l:List Kd} {k:Nat} {x:Kd} (hx:l[k]? =some x):apart (l.take (k+1))=(apart (l.take k) && fresh (l.take k) x.name.data.toList):=by rw[Z7 hx,JD]
end Go.Proofs.YtgkmmnihaiopaaaGreat
namespace Go.Proofs.YtgkmmnihaiopaaaGreat
open Go.RowKit
theorem Q0 {s:Sl} (h:¬(0<s.kinds.length∧0≤s.least∧s.least≤s.most∧s.most≤1000)):qJ s=false:=by
 cases h2:qJ s
 · rfl
 · simp[qJ] at h2
   exact absurd ⟨List.length_pos_iff.2 (by first | exact h2.1.1.1 | exact List.length_pos_iff.1 h2.1.1.1),h2.1.1.2,h2.1.2,h2.2⟩ h
def zjr (w:World) (c:Array Value) (n:Int) (l:List Int) (a i:Value) (wr:World):Prop:=
 ∃(k:Nat) (x:Int),k≤l.length∧i= .int .i64 k∧a= .int .i64 x∧wr.heap[w.heap.size]? =some (.cells c 55 (0,0))∧Below w.heap.size w wr∧rise n (-1) l=rise n x (l.drop k)
theorem zdd (w:World) (v:Value) (s:Sl) (n:Int) (hv:zcb w v s) (hf:s.few):Calls Tryz.prog 114 #[v,.int .i64 n] w (Says (yL n s) w):=by
 obtain⟨ka,kc,rfl,hk⟩:=hv
 obtain⟨l,lo,hi⟩:=s
 simp only at hk
 have hfl:l.length≤1000000:=hf
 have HK:=hH hk
 clear hf hk
 go_enter Tryz.func114,Tryz.ntmps114
 go_wp2_with fail
 go_loopw [5,11] (fun a i wr=>zjr w #[.slice ka l.length kc,.int .i64 lo,.int .i64 hi] n l a i wr) (fun _ i _=>l.length - (intOf i).toNat)
 case atStart=>exact⟨0, -1,Nat.zero_le _,rfl,rfl,hanQ w _,zh _ _,rfl⟩
 case round =>
  obtain⟨k,a,hkl,rfl,rfl,hb,hbel,hany⟩:=hrel
  have HB:=hH (aN hb hbel)
  have HA:=hH hany
  by_cases hlt:k<l.length
  · obtain⟨x,hx⟩:∃x,l[k]? =some x:=⟨l[k],List.getElem?_eq_getElem hlt⟩
    obtain⟨b,off,rfl,hblt,hc⟩:=(HK.out.below hbel) om
    have c0:=hc k x hx
    have HX:=hH (zbc HA.out hx)
    have hkl2:(k:Int)<(l.length:Int):=by omega
    clear hx hc hb hbel hany
    by_cases h1:x≤a
    · go_wp2_with fail
      go_ret
      exact Says.mk (by rw[yL,HX.out];simp;intro h;omega) HB.out.2
    · by_cases h2:n≤x
      · go_wp2_with fail
        go_ret
        exact Says.mk (by rw[yL,HX.out];simp;intro _ h;omega) HB.out.2
      · go_wp2_with fail
        exact⟨⟨k+1,x,by omega,by go_num,rfl,HB.out.1,HB.out.2,by rw[HX.out];simp;omega⟩,by simp[intOf];omega⟩
  · have p0 : wr.cell? ⟨w.heap.size,0,none⟩=some (.slice ka l.length kc):=by rw[corQ wr _ 0 _ _ _ hb];rfl
    have p1:wr.cell? ⟨w.heap.size,1,none⟩=some (.int .i64 lo):=by rw[corQ wr _ 1 _ _ _ hb];rfl
    have p2:wr.cell? ⟨w.heap.size,2,none⟩=some (.int .i64 hi):=by rw[corQ wr _ 2 _ _ _ hb];rfl
    have HE:=hH (show yL n ⟨l,lo,hi⟩=qJ ⟨l,lo,hi⟩ by rw[yL,zat HA.out om];rfl)
    have hkl2:¬(k:Int)<(l.length:Int):=by omega
    have HN:¬(0<l.length∧0≤lo∧lo≤hi∧hi≤1000)→yL n ⟨l,lo,hi⟩=false:=fun h=>HE.out.trans (Q0 (s:=⟨l,lo,hi⟩) h)
    have HNN:=hH HN
    clear HN hb hbel hany
    by_cases h1:0<l.length
    · have h1' :(0:Int)<(l.length:Int):=by omega
      by_cases h2:0≤lo
      · by_cases h3:lo≤hi
        · by_cases h4:hi≤1000
          · go_wp2_with fail
            go_ret
            exact Says.mk (by rw[HE.out];simp[qJ,h2,h3,h4];omega) HB.out.2
          · go_wp2_with fail
            go_ret
            exact Says.mk (HNN.out om) HB.out.2
        · go_wp2_with fail
          go_ret
          exact Says.mk (HNN.out om) HB.out.2
      · go_wp2_with fail
        go_ret
        exact Says.mk (HNN.out om) HB.out.2
    · have h1' :¬(0:Int)<(l.length:Int):=by omega
      go_wp2_with fail
      go_ret
      exact Says.mk (HNN.out om) HB.out.2
def zjj (w:World) (n:Int) (l:List Sl) (i:Value) (wr:World):Prop:=
 ∃(k:Nat),k≤l.length∧i= .int .i64 k∧Below w.heap.size w wr∧l.all (yL n)=(l.drop k).all (yL n)
theorem zcJ (w:World) (v:Value) (x:Kd) (n:Int) (hv:ziF w v x) (hf:x.few):Calls Tryz.prog 100 #[v,.int .i64 n] w (Says (kindOk n x) w):=by
 obtain⟨sa,sc,rfl,hk⟩:=hv
 obtain⟨nm,tx,l⟩:=x
 simp only at hk
 obtain⟨hf1,hf2,hf3⟩:=hf
 simp only at hf1 hf2 hf3
 have HK:=hH hk
 have HF:=hH hf3
 clear hf3 hk
 have HN:¬(1≤nm.size∧nm.size≤40∧l.length≤8)→kindOk n ⟨nm,tx,l⟩=false:=fun h=>by
  cases h2:kindOk n ⟨nm,tx,l⟩
  · rfl
  · simp[kindOk,kG] at h2
    omega
 have HNN:=hH HN
 clear HN
 by_cases h1:nm.size<1
 · have h1' :(nm.size:Int)<1:=by omega
   exact se2
 · have h1' : ¬(nm.size:Int)<1:=by omega
   by_cases h2:40<nm.size
   · have h2' :(40:Int)<(nm.size:Int):=by omega
     exact se2
   · have h2' :¬(40:Int)<(nm.size:Int):=by omega
     by_cases h3:8<l.length
     · have h3' :(8:Int)<(l.length:Int):=by omega
       exact se2
     · have h3' :¬(8:Int)<(l.length:Int):=by omega
       have HY:=hH (show kindOk n ⟨nm,tx,l⟩=l.all (yL n) by simp only[kindOk,kG];rw[decide_eq_true (by omega:1≤nm.size),decide_eq_true (by omega:nm.size≤40),decide_eq_true (by omega:l.length≤8)];rfl)
       clear HNN
       go_enter Tryz.func100,Tryz.ntmps100
       go_wp2_with fail
       go_loopw [26] (fun i wr=>zjj w n l i wr) (fun i _=>l.length - (intOf i).toNat)
       case atStart=>exact⟨0,Nat.zero_le _,rfl,zh _ _,rfl⟩
       case round=>
        obtain⟨k,hkl,rfl,hbel,hany⟩:=hrel
        have HB:=hH hbel
        have HA:=hH hany
        by_cases hlt:k<l.length
        · obtain⟨s,hx⟩:∃s,l[k]? =some s:=⟨l[k],List.getElem?_eq_getElem hlt⟩
          have hfs:=HF.out s (List.mem_of_getElem? hx)
          obtain⟨b,off,rfl,hblt,hc⟩:=(HK.out.below hbel) om
          obtain⟨ka2,kc2,d0,d1,d2,hi⟩:=hc k s hx
          have HI:=hH (aN hi hfs)
          obtain⟨bb,hbb⟩:∃bb,yL n s=bb:=⟨_,rfl⟩
          have HX:=hH ((JA HA.out hx).trans (by rw[hbb]))
          have HBB:=hH hbb
          have hkl2:(k:Int)<(l.length:Int):=by omega
          clear hx hc hi hfs hbb hbel hany
          cases bb
          · go_wp2_with (go_at_call 114;((with_reducible refine (zdd _ _ s n (zax (HI.out.1.below (zh _ _))) HI.out.2).mono ?_);rintro e w2 ⟨rfl,h2⟩;rw[HBB.out];have H2:=hH ((zh wr _).trans (h2.mono (zh wr _).size));clear h2))
            go_ret
            exact Says.mk (by rw[HY.out,HX.out];rfl) (HB.out.trans (H2.out.mono HB.out.size))
          · go_wp2_with (go_at_call 114;((with_reducible refine (zdd _ _ s n (zax (HI.out.1.below (zh _ _))) HI.out.2).mono ?_);rintro e w2 ⟨rfl,h2⟩;rw[HBB.out];have H2:=hH ((zh wr _).trans (h2.mono (zh wr _).size));clear h2))
            exact⟨⟨k+1,by omega,by go_num,HB.out.trans (H2.out.mono HB.out.size),by rw[HX.out];rfl⟩,by simp[intOf];omega⟩
        · have HE:=hH (zbo HA.out om)
          have hkl2:¬(k:Int)<(l.length:Int):=by omega
          clear hbel hany
          go_wp2_with fail
          go_ret
          exact Says.mk (HY.out.trans HE.out) HB.out
end Go.Proofs.YtgkmmnihaiopaaaGreat
namespace Go.Proofs.YtgkmmnihaiopaaaGreat
open Go.RowKit Go.Maps
theorem zjT:Keyed Tryz.prog 9:=string_keyed Tryz.underlying9
theorem zfx (q:IntKind) (n:Int) (w:World):(Instr.makeMap 142 (some (.int q n))).run Tryz.prog w= .ok (.map (some w.heap.size)) (w.alloc (.map #[] 0)):=by
 simp[Instr.makeMap,run_underlying Tryz.underlying142,asInt,asIntOf,Result.andThen]
theorem zja {k:Nat} (h:k≤1000000):(Lit.int .i64 (k:Int)).wf=true:=by
 simp only[Lit.wf,Bool.and_eq_true,decide_eq_true_eq]
 have e1:IntKind.i64.min= -9223372036854775808:=rfl
 have e2:IntKind.i64.max=9223372036854775807:=rfl
 omega
theorem zen (s:List UInt8):WideAt.IsKeyLit (.string s):=True.intro
structure zca (l:List Kd) (k:Nat) (D:DataW Value):Prop where
 tidy:Tidy D
 le:Maps.size D≤k
 size:Maps.size D=k↔apart (l.take k)=true
 has:∀s,Maps.has D (.string s)= !fresh (l.take k) s
 find:apart (l.take k)=true→∀j x,j<k→l[j]? =some x→D.atKey (.string x.name.data.toList) (.lit (.int .i64 0))= .lit (.int .i64 (j:Int))
theorem zca.start (l:List Kd):zca l 0 (.map []):=⟨tidy_empty,Nat.le_refl _,⟨fun _=>rfl,fun _=>rfl⟩,fun _=>rfl,fun _ j _ h=>by omega⟩
theorem zca.next {l:List Kd} {k:Nat} {D:DataW Value} {x:Kd} (h:zca l k D) (hx:l[k]? =some x):zca l (k+1) (D.put (.string x.name.data.toList) (.lit (.int .i64 (k:Int)))):=by
 have hs:=size_put (k:= .string x.name.data.toList) h.tidy (.lit (.int .i64 (k:Int)))
 have hh:=h.has x.name.data.toList
 refine⟨h.tidy.put (zen _) _,?_,?_,fun s=>?_,fun ha j y hj hy=>?_⟩
 · rw[hs];have:=h.le;split<;>omega
 · rw[hs,Ym hx,hh,Bool.and_eq_true,←h.size]
   have:=h.le
   cases fresh (l.take k) x.name.data.toList
   · simp;omega
   · simp
 · by_cases e:s=x.name.data.toList
   · subst e
     rw[has_put_same h.tidy.isMap (zen _),Yv hx]
     simp
   · rw[has_put_other (by simpa using e),h.has,Yv hx]
     have:decide (x.name.data.toList≠s)=true:=by simpa using fun h=>e h.symm
     rw[this,Bool.and_true]
 · rw [Ym hx,Bool.and_eq_true] at ha
   by_cases e:j=k
   · subst e
     rw[hx] at hy;cases hy
     exact atKey_put_same h.tidy.isMap (zen _) _ _
   · have hjk:j<k:=by omega
     have hne:=zcz (k:=j) ha.2 (by rw[List.getElem?_take,if_pos hjk];exact hy)
     rw[atKey_put_other (by simpa using hne)]
     exact h.find ha.1 j y hjk hy
def ziG (w:World) (b n:Nat) (D:DataW Value):Prop:=w.ownsMap Tryz.prog 9 (plainElem Tryz.prog 3) b n D
def zhP (l:List Kd) (w:World) (e:Ending) (w' :World):Prop:=∃D b,e= .returned (.map (some b))∧w.heap.size≤b∧ziG w' b l.length D∧Below w.heap.size w w'∧zca l l.length D
def zhQ (w:World) (b:Nat) (l:List Kd) (i:Value) (wr:World):Prop:=∃(k:Nat) (D:DataW Value),k≤l.length∧i= .int .i64 k∧ziG wr b k D∧Below w.heap.size w wr∧zca l k D
theorem zd9 (w:World) (a:Option Addr) (cap:Nat) (l:List Kd) (h:jP w a l) (hl:l.length≤1000000) (hf:∀k∈l,k.few):Calls Tryz.prog 101 #[.slice a l.length cap] w (zhP l w):=by
 have hmm:=zfx
 have HK:=hH h
 have HF:=hH hf
 clear h hf
 go_enter Tryz.func101,Tryz.ntmps101
 go_wp2_with fail
 clear hmm
 go_loopw [11] (fun i wr=>zhQ w w.heap.size l i wr) (fun i _=>l.length - (intOf i).toNat)
 case atStart=>exact⟨0,.map [],Nat.zero_le _,rfl,World.ownsMap_made _ _ _ _,zh _ _,zca.start l⟩
 case round=>
  obtain⟨k,D,hkl,rfl,hown,hbel,hpl⟩:=hrel
  have HB:=hH hbel
  have HP:=hH hpl
  have HO:=hH hown
  by_cases hlt:k<l.length
  · obtain⟨x,hx⟩:∃x,l[k]? =some x:=⟨l[k],List.getElem?_eq_getElem hlt⟩
    have hfx:=(HF.out x (List.mem_of_getElem? hx)).1
    obtain⟨b,off,rfl,hblt,hc⟩:=(HK.out.below hbel) om
    obtain⟨sa,sc,c0,c1,c2,hs⟩:=hc k x hx
    have HX:=hH (hpl.next hx)
    have HKEY:=hH (WideMaps.keyOf_string_mk (P:=Tryz.prog) Tryz.underlying9 (s:=x.name) (by unfold maxLen;omega))
    have HW:=hH (plainElem_int (H:=Value) Tryz.underlying3 (zja (k:=k) om))
    have hkl2:(k:Int)<(l.length:Int):=by omega
    clear hx hc hs hfx hown hbel hpl
    go_wp2_with (at_mapUpdate;refine wpList_mapUpdate_own _ rfl _ _ _ 142 rfl 9 3 zjT Tryz.underlying142 _ w.heap.size k _ rfl (World.ownsMap.alloc HO.out _) (by unfold maxLen;omega) _ _ _ rfl rfl HKEY.out _ [] HW.out ?_;intro w1 hown1 hgrow1;have HO1:=hH hown1;have HG1:=hH hgrow1;clear hown1 hgrow1)
    exact⟨⟨k+1,_,by omega,by go_num,HO1.out,(HB.out.alloc HB.out.size _).grown HG1.out (by have:=HB.out.size;simp;omega) (fun j hj=>by cases hj;exact Nat.le_refl _),HX.out⟩,by simp[intOf];omega⟩
  · obtain rfl:k=l.length:=by omega
    have hkl2:¬(l.length:Int)<(l.length:Int):=by omega
    clear hown hbel hpl hlt
    go_wp2_with fail
    go_ret
    exact⟨D,_,rfl,Nat.le_refl _,HO.out,HB.out,HP.out⟩
end Go.Proofs.YtgkmmnihaiopaaaGreat
namespace Go.Proofs.YtgkmmnihaiopaaaGreat
open Go.RowKit
def Ahead (l:List Int) (k:Nat) (a:Int):Prop:=(k=0→a= -1)∧∀m,k=m+1→l[m]? =some a
def zjo (w:World) (n:Int) (l:List Int) (i:Value) (wr:World):Prop:=
 ∃(k:Nat) (a:Int),k≤l.length∧i= .int .i64 k∧ -1≤a∧Ahead l k a∧Below w.heap.size w wr∧rise n (-1) l=rise n a (l.drop k)
def rising (n:Int) (l:List Int):Bool:=rise n (-1) l && decide (0<l.length)
theorem jJ (w :World) (a:Option Addr) (cap:Nat) (l:List Int) (n:Int) (hn:n≤32) (h:qw w a l) (hf:l.length≤1000000):Calls Tryz.prog 40 #[.slice a l.length cap,.int .i64 n] w (Says (rising n l) w):=by
 have HK:=hH h
 clear h
 go_enter Tryz.func40,Tryz.ntmps40
 go_wp2_with fail
 go_loopw [5] (fun i wr=>zjo w n l i wr) (fun i _=>l.length - (intOf i).toNat)
 case atStart=>exact⟨0, -1,Nat.zero_le _,rfl,by omega,⟨fun _=>rfl,fun m h=>by omega⟩,BrQ _ _,rfl⟩
 case round =>
  obtain⟨k,y,hkl,rfl,hy,⟨hy0,hy1⟩,hbel,hany⟩:=hrel
  have HB:=hH hbel
  have HA:=hH hany
  by_cases hlt:k<l.length
  · obtain ⟨x,hx⟩:∃x,l[k]? =some x:=⟨l[k],List.getElem?_eq_getElem hlt⟩
    obtain⟨b,off,rfl,hblt,hc⟩:=(HK.out.below hbel) om
    have c0:=hc k x hx
    have HX:=hH (zbc HA.out hx)
    have hkl2:(k:Int)<(l.length:Int):=by omega
    have hk0:(0:Int)≤(k:Int):=by omega
    have HXX:=hH hx
    by_cases hx0:x<0
    · have hx0' :decide (x<0)=true:=by simpa using hx0
      clear hx hc hbel hany hy0 hy1
      exact sf3
    · have hx0' :decide (x<0)=false:=by simpa using hx0
      by_cases hxn:n≤x
      · have hxn' :decide (n≤x)=true:=by simpa using hxn
        clear hx hc hbel hany hy0 hy1
        exact sf3
      · have hxn' :decide (n≤x)=false:=by simpa using hxn
        by_cases hk1:k=0
        · have hka:=hy0 hk1
          subst hka
          have hk2:decide ((0:Int)<(k:Int))=false:=by simp;omega
          have hk3:decide (0<k)=false:=by simp;omega
          have HK1:=hH hk1
          clear hx hc hbel hany hy0 hy1 hk1
          go_wp2_with fail
          go_quiet (fail)
          go_wp2_with fail
          exact⟨⟨k+1,x,by omega,by go_num,by omega,⟨fun h=>by omega,fun m h=>by obtain rfl:m=k:=om;exact HXX.out⟩,below_drewN HB.out _,by rw[HX.out];simp;omega⟩,by simp[intOf];omega⟩
        · obtain⟨m,rfl⟩:∃m,k=m+1:=⟨k - 1,by omega⟩
          have hym:=hy1 m rfl
          have c1:=hc m y hym
          have hk2:decide ((0:Int)<((m:Int)+1))=true:=by rw[decide_eq_true];omega
          have hk3:decide (0<m+1)=true:=by simp
          by_cases hle:x≤y
          · have hle' :decide (x≤y)=true:=by simpa using hle
            clear hx hc hbel hany hy0 hy1 hym
            exact sf3
          · have hle' :decide (x≤y)=false:=by simpa using hle
            clear hx hc hbel hany hy0 hy1 hym
            go_wp2_with fail
            go_quiet (fail)
            go_wp2_with fail
            exact⟨⟨m+2,x,by omega,by go_num,by omega,⟨fun h=>by omega,fun j h=>by obtain rfl:j=m+1:=om;exact HXX.out⟩,below_drewN HB.out _,by rw[HX.out];simp;omega⟩,by simp[intOf];omega⟩
  · have HE:=hH (show rising n l=decide (0<l.length) by rw[rising,zat HA.out om];rfl)
    have hkl2:¬(k:Int)<(l.length:Int):=by omega
    have hlen:=zc7 n l (-1) (zat HA.out om)
    have h32:l.length≤32:=by
     rcases hlen with h | h
     · rw[h];simp
     · omega
    clear hbel hany hlen hy0 hy1
    by_cases h1:0<l.length
    · have h1' :(1:Int)≤(l.length:Int):=by omega
      have h2' :(l.length:Int)≤32:=by omega
      go_wp2_with fail
      go_ret
      exact Says.mk (by rw[HE.out,decide_eq_true h1]) HB.out
    · have h1' :¬(1:Int)≤(l.length:Int):=by omega
      go_wp2_with fail
      go_ret
      exact Says.mk (by rw[HE.out,decide_eq_false h1]) HB.out
def qG (l:List Int) (x:Int):Bool:=l.any fun y=>decide (y=x)
def zjJ (w:World) (l:List Int) (x:Int) (i:Value) (wr:World):Prop:=∃k:Nat,k≤l.length∧i= .int .i64 k∧w=wr∧qG l x=qG (l.drop k) x
def zdu (b:Bool) (w:World) (e:Ending) (w' :World):Prop:=∃n:Int,e= .returned (.int .i64 n)∧(b=true→0≤n)∧(b=false→n<0)∧w=w'
theorem zdu.yes {b:Bool} {w:World} {k:Nat} (h:b=true):zdu b w (.returned (.int .i64 (k:Int))) w:=⟨k,rfl,(fun _=>by omega),(fun e=>by rw[h] at e;cases e),rfl⟩
theorem zdu.no {b:Bool} {w:World} (h:b=false):zdu b w (.returned (.int .i64 (-1))) w:=⟨-1,rfl,(fun e=>by rw[h] at e;cases e),(fun _=>by omega),rfl⟩
theorem zcF {l:List Int} {x y:Int} {k:Nat} {r:Bool} (hr:r=qG (l.drop k) x) (h:l[k]? =some y):r=(decide (y=x) || qG (l.drop (k+1)) x):=JB hr h
theorem zfr (w:World) (a:Option Addr) (cap:Nat) (l:List Int) (x:Int) (h:qw w a l) (hf:l.length≤1000000):Calls Tryz.prog 134 #[.slice a l.length cap,.int .i64 x] w (zdu (qG l x) w):=by
 have HK:=hH h
 clear h
 go_enter Tryz.func134,Tryz.ntmps134
 go_wp2_with fail
 go_loopw [8] (fun i wr=>zjJ w l x i wr) (fun i _=>l.length - (intOf i).toNat)
 case atStart=>exact⟨0,Nat.zero_le _,rfl,rfl,rfl⟩
 case round=>
  obtain⟨k,hkl,rfl,rfl,hany⟩:=hrel
  have HA:=hH hany
  clear hany
  by_cases hlt:k<l.length
  · obtain⟨y,hy⟩:∃y,l[k]? =some y:=⟨l[k],List.getElem?_eq_getElem hlt⟩
    obtain⟨b,off,rfl,hblt,hc⟩:=HK.out om
    have c0:=hc k y hy
    have HX:=hH (zcF HA.out hy)
    have hkl2:(k:Int)<(l.length:Int):=by omega
    clear hy hc
    by_cases he:x=y
    · have HE:=hH he.symm
      subst he
      go_wp2_with fail
      go_ret
      exact zdu.yes (by rw[HX.out];simp)
    · have HE:=hH he
      go_wp2_with fail
      exact⟨⟨k+1,by omega,by go_num,rfl,by rw[HX.out,decide_eq_false (fun e=>HE.out e.symm)];rfl⟩,by simp[intOf];omega⟩
  · have HE:=hH (show qG l x=false from Jd HA.out om)
    have hkl2:¬(k:Int)<(l.length:Int):=by omega
    go_wp2_with fail
    go_ret
    exact zdu.no HE.out
theorem zbz (w:World) (a:Option Addr) (cap:Nat) (l:List Int) (x:Int) (h:qw w a l) (hf:l.length≤1000000):Calls Tryz.prog 133 #[.slice a l.length cap,.int .i64 x] w fun e w'=>e= .returned (.bool (qG l x))∧w=w':=by
 have HK:=hH (zfr w a cap l x h hf)
 clear h
 obtain⟨bb,hbb⟩:∃bb,qG l x=bb:=⟨_,rfl⟩
 rw[hbb]
 rw[hbb] at HK
 clear hbb
 go_enter Tryz.func133,Tryz.ntmps133
 cases bb
 · go_wp2_with (go_at_call 134;((with_reducible refine HK.out.mono ?_);rintro e w2 ⟨n,rfl,_,h2,rfl⟩;have h3:=hH (h2 rfl);clear h2))
   go_ret
   exact⟨by show Ending.returned (.bool (decide (0≤n)))=_;rw[decide_eq_false (by have:=h3.out;omega)],rfl⟩
 · go_wp2_with (go_at_call 134;((with_reducible refine HK.out.mono ?_);rintro e w2 ⟨n,rfl,h2,_,rfl⟩;have h3:=h2 rfl;clear h2))
   go_ret
   exact⟨rfl,rfl⟩
def zjL (w:World) (c:Array Value) (l:List Int) (x:Int) (i:Value) (wr:World):Prop:=∃k:Nat,k≤l.length∧i= .int .i64 k∧wr.heap[w.heap.size]? =some (.cells c 55 (0,0))∧Below w.heap.size w wr∧qG l x=qG (l.drop k) x
theorem zbJ (w:World) (v:Value) (s:Sl) (x:Int) (hv:zcb w v s) (hf:s.few):Calls Tryz.prog 74 #[v,.int .i64 x] w (Says (qG s.kinds x) w):=by
 obtain⟨ka,kc,rfl,hk⟩:=hv
 obtain⟨l,lo,hi⟩:=s
 simp only at hk ⊢
 have hfl:l.length≤1000000:=hf
 have HK:=hH hk
 clear hf hk
 go_enter Tryz.func74,Tryz.ntmps74
 go_wp2_with fail
 go_loopw [5] (fun i wr=>zjL w #[.slice ka l.length kc,.int .i64 lo,.int .i64 hi] l x i wr) (fun i _=>l.length - (intOf i).toNat)
 case atStart=>exact⟨0,Nat.zero_le _,rfl,hanQ w _,zh _ _,rfl⟩
 case round=>
  obtain⟨k,hkl,rfl,hb,hbel,hany⟩:=hrel
  have p0:wr.cell? ⟨w.heap.size,0,none⟩=some (.slice ka l.length kc):=by rw[corQ wr _ 0 _ _ _ hb];rfl
  have HB:=hH (aN hb hbel)
  have HA:=hH hany
  by_cases hlt:k<l.length
  · obtain⟨y,hy⟩:∃y,l[k]? =some y:=⟨l[k],List.getElem?_eq_getElem hlt⟩
    obtain⟨b,off,rfl,hblt,hc⟩:=(HK.out.below hbel) om
    have c0:=hc k y hy
    have HX:=hH (zcF HA.out hy)
    have hkl2:(k:Int)<(l.length:Int):=by omega
    clear hy hc hb hbel hany
    by_cases he:y=x
    · subst he
      go_wp2_with fail
      go_ret
      exact Says.mk (by rw[HX.out];simp) HB.out.2
    · have HE:=hH he
      go_wp2_with fail
      exact⟨⟨k+1,by omega,by go_num,HB.out.1,HB.out.2,by rw[HX.out,decide_eq_false HE.out];rfl⟩,by simp[intOf];omega⟩
  · have HE:=hH (show qG l x=false from Jd HA.out om)
    have hkl2:¬(k:Int)<(l.length:Int):=by omega
    clear hb hbel hany
    go_wp2_with fail
    go_ret
    exact Says.mk HE.out HB.out.2
def vec (f:Nat→Bool):Array Value:=((List.range 201).map fun j=>Value.bool (f j)).toArray
theorem y9 (f:Nat→Bool):(vec f).size=201:=by simp[vec]
theorem Zl (f:Nat→Bool) (j:Nat) (h:j<201):(vec f)[j]? =some (.bool (f j)):=by
 simp[vec,h]
theorem zb1 (f:Nat→Bool) (i:Nat) (b:Bool):(vec f).setIfInBounds i (.bool b)=vec (fun j=>if j=i then b else f j):=by
 apply Array.ext_getElem?
 intro j
 by_cases hj:j<201
 · rw[Zl _ j hj,Array.getElem?_setIfInBounds]
   by_cases e:i=j
   · subst e;rw[if_pos rfl,if_pos (by rw[y9];exact hj),if_pos rfl]
   · rw[if_neg e,Zl _ j hj,if_neg (fun h=>e h.symm)]
 · rw[Array.getElem?_eq_none (by simp[y9];omega),Array.getElem?_eq_none (by rw[y9];omega)]
theorem zeP {f g:Nat→Bool} (h:∀j,j<201→f j=g j):vec f=vec g:=by
 apply Array.ext_getElem?
 intro j
 by_cases hj:j<201
 · rw[Zl _ j hj,Zl _ j hj,h j hj]
 · rw[Array.getElem?_eq_none (by rw[y9];omega),Array.getElem?_eq_none (by rw[y9];omega)]
def zdC (cs:Array Value):Bool:=cs.all (·.oneCell')
theorem ziy (f:Nat→Bool):zdC (vec f)=true:=by
 refine Array.all_eq_true_iff_forall_mem.2 fun u hu=>?_
 simp only[vec,List.mem_toArray,List.mem_map] at hu
 obtain⟨b,_,rfl⟩:=hu;rfl
def blk (w:World) (b:Nat):Array Value:=match w.heap[b]? with
 | some (.cells cs _ _)=>cs
 | _=> #[]
theorem Qk {w:World} {b:Nat} {cs:Array Value} {t:TypeId} {fr:Nat×Nat} (h:w.heap[b]? =some (.cells cs t fr)):blk w b=cs:=by simp[blk,h]
theorem blk_alloc_new (w:World) (cs:Array Value) (t:TypeId) (n:Nat) (hn:n=w.heap.size):blk (w.alloc (.cells cs t)) n=cs:=by
 subst hn;exact Qk (hanQ w _)
theorem zgH {w:World} {b:Nat} {v:Value} (j:Nat) (h:(blk w b)[j]? =some v):w.cell? ⟨b,j,none⟩=some v:=by
 unfold blk at h
 split at h
 · rename_i cs t fr hb;rw[corQ w b j cs t fr hb];exact h
 · simp at h
theorem Y5 {P:Program} (w:World) (b s:Nat) (ty:TypeId) (d:TypeDesc) (hu:P.underlying ty=some d) (hd:d.isRow=true) (hi:(P.info? ty).map (·.size)=some s) (h:(blk w b).size=s):
 (loadVar ty ⟨b,0,none⟩).run P w= .ok (.agg (blk w b)) w:=by
 have:=run_loadVar_mid (P:=P) w b 0 ty (blk w b).toList d (fun j v hv=>by
  refine zgH _ ?_
  rw[Nat.zero_add];rw[Array.getElem?_toList] at hv;exact hv) hu hd (by rw[Array.length_toList,h];exact hi)
 rw[Array.toArray_toList] at this
 exact this
theorem Tryz.zhA:(Tryz.prog.info? 172).map (·.size)=some 201:=by kernel_rfl
def Zq:Value→Nat
 | .pointer (some a)=>a.block
 | _=>0
def ZK:Value→Bool
 | .pointer (some a)=>a.off == 0 && a.spot.isNone
 | _=>false
theorem kz (a:Addr):Zq (.pointer (some a))=a.block:=rfl
theorem Yx (b n:Nat):ZK (.pointer (some ⟨b,n,none⟩))=(n == 0):=by simp[ZK]
theorem zac {v:Value} (h:ZK v=true):v= .pointer (some ⟨Zq v,0,none⟩):=by
 unfold ZK at h
 split at h
 · rename_i a
   obtain⟨b,n,s⟩:=a
   simp at h
   obtain⟨rfl,rfl⟩:=h
   rfl
 · cases h
def zdB:Value→Array Value
 | .agg cs=>cs
 | _=> #[]
def isT:Value→Bool
 | .agg cs=>cs.size == 201 && zdC cs
 | _=>false
theorem Jz (cs:Array Value):zdB (.agg cs)=cs:=rfl
theorem zbF (f:Nat→Bool):isT (.agg (vec f))=true:=by simp[isT,y9,ziy]
theorem zid {v:Value} (h:isT v=true):v= .agg (zdB v)∧(zdB v).size=201∧zdC (zdB v)=true:=by
 unfold isT at h
 split at h
 · simp at h;exact⟨rfl,h.1,h.2⟩
 · cases h
def jV (w:World) (b:Nat):Bool:=match w.heap[b]? with
 | some (.cells cs _ fr)=>cs.size == 201 && fr == (0,0)
 | _=>false
theorem j4 (w:World) (c:Array Value) (t:TypeId) (n:Nat) (hn:n=w.heap.size):jV (w.alloc (.cells c t)) n=(c.size == 201):=by
 subst hn
 unfold jV
 rw[hanQ]
 simp
theorem Yu {w:World} {b:Nat} {cs:Array Value} {t:TypeId} (h:w.heap[b]? =some (.cells cs t (0,0))) (hs:cs.size=201):jV w b=true:=by simp[jV,h,hs]
theorem zcy {w:World} {b:Nat} (h:jV w b=true):∃cs t,w.heap[b]? =some (.cells cs t (0,0))∧cs.size=201:=by
 unfold jV at h
 split at h
 · rename_i cs t fr hb
   simp at h
   obtain⟨h1,rfl⟩:=h
   exact⟨cs,t,hb,h1⟩
 · cases h
theorem ji (w:World) (c c' :Array Value) (t:TypeId) (n:Nat) (hn:n=w.heap.size):(w.alloc (.cells c t)).setRow n c'=w.alloc (.cells c' t):=by
 subst hn;exact World.setRow_alloc_new w c c' t
def noF:Nat→Bool:=fun _=>false
def Ye:Nat→Bool:=fun j=>decide (j=0)
section
variable (w:World) (ρ:Operand→Value) (a:Act) (dst:Option Tmp) (x y:Operand) (ty' :TypeId) (pos:String) (aft:Array Edge) (g:Option (Nat×Bool)) (K:Act→World→Prop) (Q:Exit→Act→World→Prop)
theorem loadT (h:ZK (ρ x)=true) (h2:(blk w (Zq (ρ x))).size=201):(execOp ρ ⟨dst,.load 172 x,ty',pos,aft,g⟩).run Tryz.prog w= .ok (.value (.agg (blk w (Zq (ρ x))))) w:=by
 have e:=zac h
 simp only[execOp,Sem.run_bind]
 rw[e]
 simp only[Instr.loadAt,Instr.sureAddr,Sem.run_bind,Sem.run_pure,Result.andThen_ok,kz]
 rw[Y5 (P:=Tryz.prog) w (Zq (ρ x)) 201 172 _ Tryz.underlying172 rfl Tryz.zhA h2]
 rfl
theorem zb3 (h:ZK (a.eval x)=true) (h2:(blk w (Zq (a.eval x))).size=201):Oper.wp Tryz.prog ⟨dst,.load 172 x,ty',pos,aft,g⟩ a w K Q=K (a.put dst (.agg (blk w (Zq (a.eval x))))) w:=by
 unfold Oper.wp
 rw[loadT w a.eval dst x ty' pos aft g h h2]
 rfl
theorem storeT (h:ZK (ρ x)=true) (h2:jV w (Zq (ρ x))=true) (h3:isT (ρ y)=true):
 (execOp ρ ⟨dst,.store 172 x y,ty',pos,aft,g⟩).run Tryz.prog w= .ok .skip (w.setRow (Zq (ρ x)) (zdB (ρ y))):=by
 have e1:=zac h
 obtain⟨e2,e3,e4⟩:=zid h3
 obtain⟨cs,t,hb,hs⟩:=zcy h2
 have hr:=run_storeVar_row (P:=Tryz.prog) w (Zq (ρ x)) t 172 cs (zdB (ρ y)) hb (by rw[e3];exact Tryz.zhA) om e4
 simp only[execOp,Sem.run_bind]
 rw[e2,e1]
 simp only[Instr.storeAt,Instr.sureAddr,Sem.run_bind,Sem.run_pure,Result.andThen_ok,kz]
 rw[hr]
 rfl
theorem zaE (h:ZK (a.eval x)=true) (h2:jV w (Zq (a.eval x))=true) (h3:isT (a.eval y)=true):
 Oper.wp Tryz.prog ⟨dst,.store 172 x y,ty',pos,aft,g⟩ a w K Q=K (a.put dst undef) (w.setRow (Zq (a.eval x)) (zdB (a.eval y))):=by
 unfold Oper.wp
 rw[storeT w a.eval dst x y ty' pos aft g h h2 h3]
 rfl
theorem zbp:(execOp ρ ⟨dst,.alloc 172,ty',pos,aft,g⟩).run Tryz.prog w= .ok (.value (.pointer (some ⟨w.heap.size,0,none⟩))) (w.alloc (.cells (vec noF) 172)):=by kernel_rfl
theorem zaC:Oper.wp Tryz.prog ⟨dst,.alloc 172,ty',pos,aft,g⟩ a w K Q=K (a.put dst (.pointer (some ⟨w.heap.size,0,none⟩))) (w.alloc (.cells (vec noF) 172)):=by
 unfold Oper.wp
 rw[zbp w a.eval dst ty' pos aft g]
 rfl
theorem zhX:(Instr.build 172 #[(0,.bool true)]).run Tryz.prog w= .ok (.agg (vec Ye)) w:=by kernel_rfl
theorem zbt (h:ρ x= .bool true):(execOp ρ ⟨dst,.build 172 #[(0,x)],ty',pos,aft,g⟩).run Tryz.prog w= .ok (.value (.agg (vec Ye))) w:=by
 simp only[execOp,List.map_toArray,List.map_cons,List.map_nil,Sem.run_bind]
 rw[h,zhX]
 rfl
theorem zaD (h:a.eval x= .bool true):Oper.wp Tryz.prog ⟨dst,.build 172 #[(0,x)],ty',pos,aft,g⟩ a w K Q=K (a.put dst (.agg (vec Ye))) w:=by
 unfold Oper.wp
 rw[zbt w a.eval dst x ty' pos aft g h]
 rfl
end
end Go.Proofs.YtgkmmnihaiopaaaGreat
