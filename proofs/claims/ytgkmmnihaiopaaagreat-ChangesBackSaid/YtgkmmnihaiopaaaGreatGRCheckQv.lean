/-
  .
-/
import Derived.Test.YtgkmmnihaiopaaaGreatVManyQv
set_option maxRecDepth 100000
set_option maxHeartbeats 40000000

namespace Go.Proofs.YtgkmmnihaiopaaaGreat
def rise (n:Int):Int→List Int→Bool
 | _,[]=>true
 | a,x::r=>decide (a<x) && decide (x<n) && rise n x r
theorem zdT (n:Int):∀(l:List Int) (a:Int),rise n a l=true→l= []∨(l.length:Int)+a<n
 | [],_,_=>Or.inl rfl
 | x ::r,a,h=>by
   simp only[rise,Bool.and_eq_true,decide_eq_true_eq] at h
   right
   rcases zdT n r x h.2 with h1 | h1
   · subst h1;simp;omega
   · simp only[LlcQ];omega
theorem zbU {n a:Int}{l:List Int}{k:Nat}{x:Int}{r:Bool}(hr:r=rise n a (l.drop k))(h:l[k]? =some x):r=(decide (a<x) && decide (x<n) && rise n x (l.drop (k+1))):=by rw[hr,QS h];rfl
theorem za2 {n a:Int}{l:List Int}{k:Nat}{r:Bool}(hr:r=rise n a (l.drop k))(h:l.length≤k):r=true:=by rw[hr,List.drop_eq_nil_of_le h];rfl
def qO (s:Sl):Bool:=decide (0<s.kinds.length) && decide (0≤s.least) && decide (s.least≤s.most) && decide (s.most≤1000)
def yM (n:Int)(s:Sl):Bool:=rise n (-1) s.kinds && qO s
def Zg (k:Kd):Bool:=decide (1≤k.name.size) && decide (k.name.size≤40) && decide (k.slots.length≤8)
def kindOk (n:Int)(k:Kd):Bool:=Zg k && k.slots.all (yM n)
def fresh (l:List Kd)(s:List UInt8):Bool:=l.all fun k=>decide (k.name.data.toList≠s)
def apart:List Kd→Bool
 | []=>true
 | k::r=>fresh r k.name.data.toList && apart r
def zeJ (g:Gr):Bool:=decide (g.kinds.length≤32) && decide (0≤g.root) && decide (g.root<(g.kinds.length:Int))
def qB (g:Gr):Bool:=zeJ g && g.kinds.all (kindOk g.kinds.length) && apart g.kinds
theorem J8 {α:Type}{f:α→Bool}{l:List α}{k:Nat}{x:α}{r:Bool}(hr:r=(l.drop k).all f)(h:l[k]? =some x):r=(f x && (l.drop (k+1)).all f):=by rw[hr,QS h];rfl
theorem zb7 {α:Type}{f:α→Bool}{l:List α}{k:Nat}{r:Bool}(hr:r=(l.drop k).all f)(h:l.length≤k):r=true:=by rw[hr,List.drop_eq_nil_of_le h];rfl
theorem zay (l:List Kd)(k:Kd)(s:List UInt8):fresh (l++[k]) s=(fresh l s && decide (k.name.data.toList≠s)):=by simp[fresh]
theorem zab:∀(l:List Kd) (k:Kd),apart (l++[k])=(apart l && fresh l k.name.data.toList)
 | [],k=>by simp[apart,fresh]
 | x ::r,k=>by
   rw[List.cons_append,apart,apart,zab r k,zay]
   have e:decide (k.name.data.toList≠x.name.data.toList)=decide (x.name.data.toList≠k.name.data.toList):=by
    congr 1;simp only[ne_eq,eq_iff_iff];exact⟨fun h e=>h e.symm,fun h e=>h e.symm⟩
   rw[e]
   simp only[fresh,List.all_cons]
   cases List.all r _<;>cases apart r<;>cases decide (x.name.data.toList≠k.name.data.toList)<;>simp
theorem Yz {α:Type}{l:List α}{k:Nat}{x:α}(h:l[k]? =some x):l.take (k+1)=l.take k++[x]:=by
 rw[List.take_add_one,h];rfl
theorem zdk {l:List Kd}{s:List UInt8}{k:Nat}{x:Kd}(h:fresh l s=true)(hx:l[k]? =some x):x.name.data.toList≠s:=by
 have:=List.all_eq_true.1 h x (List.mem_of_getElem? hx)
 simpa using this
theorem YR {l:List Kd}{s:List UInt8}{k:Nat}{x:Kd}(hx:l[k]? =some x):fresh (l.take (k+1)) s=(fresh (l.take k) s && decide (x.name.data.toList≠s)):=by rw[Yz hx,zay]
theorem YM {l:List Kd}{k:Nat}{x:Kd}(hx:l[k]? =some x):apart (l.take (k+1))=(apart (l.take k) && fresh (l.take k) x.name.data.toList):=by rw[Yz hx,zab]
end Go.Proofs.YtgkmmnihaiopaaaGreat
namespace Go.Proofs.YtgkmmnihaiopaaaGreat
open Go.RowKit
theorem Jv {s:Sl}(h:¬(0<s.kinds.length∧0≤s.least∧s.least≤s.most∧s.most≤1000)):qO s=false:=by
 cases h2:qO s
 · rfl
 · simp[qO] at h2
   exact absurd ⟨List.length_pos_iff.2 (by first | exact h2.1.1.1 | exact List.length_pos_iff.1 h2.1.1.1),h2.1.1.2,h2.1.2,h2.2⟩ h
def zkr (w:World)(c:Array Value)(n:Int)(l:List Int)(a i:Value)(wr:World):Prop:=
 ∃(k:Nat) (x:Int),k≤l.length∧i= .int .i64 k∧a= .int .i64 x∧wr.heap[w.heap.size]? =some (.cells c 55 (0,0))∧Below w.heap.size w wr∧rise n (-1) l=rise n x (l.drop k)
theorem zd2 (w:World)(v:Value)(s:Sl)(n:Int)(hv:zcV w v s)(hf:s.few):Calls Tryz.prog 114 #[v,.int .i64 n] w (Says (yM n s) w):=by
 obtain⟨ka,kc,rfl,hk⟩:=hv
 obtain⟨l,lo,hi⟩:=s
 simp only at hk
 have hfl:l.length≤1000000:=hf
 have HK:=hH hk
 clear hf hk
 go_enter Tryz.func114,Tryz.ntmps114
 go_wp2_with fail
 go_loopw [5,11] (fun a i wr=>zkr w #[.slice ka l.length kc,.int .i64 lo,.int .i64 hi] n l a i wr) (fun _ i _=>l.length - (intOf i).toNat)
 case atStart=>exact⟨0, -1,NzlQ _,rfl,rfl,hanQ w _,zg _ _,rfl⟩
 case round =>
  obtain⟨k,a,hkl,rfl,rfl,hb,hbel,hany⟩:=hrel
  have HB:=hH (aN hb hbel)
  have HA:=hH hany
  by_cases hlt:k<l.length
  · obtain⟨x,hx⟩:∃x,l[k]? =some x:=⟨l[k],List.getElem?_eq_getElem hlt⟩
    obtain⟨b,off,rfl,hblt,hc⟩:=(HK.out.below hbel) om
    have c0:=hc k x hx
    have HX:=hH (zbU HA.out hx)
    have hkl2:(k:Int)<(l.length:Int):=by omega
    clear hx hc hb hbel hany
    by_cases h1:x≤a
    · go_wp2_with fail
      go_ret
      exact Says.mk (by rw[yM,HX.out];simp;intro h;omega) HB.out.2
    · by_cases h2:n≤x
      · go_wp2_with fail
        go_ret
        exact Says.mk (by rw[yM,HX.out];simp;intro _ h;omega) HB.out.2
      · go_wp2_with fail
        exact⟨⟨k+1,x,by omega,by go_num,rfl,HB.out.1,HB.out.2,by rw[HX.out];simp;omega⟩,by simp[intOf];omega⟩
  · have p0 : wr.cell? ⟨w.heap.size,0,none⟩=some (.slice ka l.length kc):=by rw[corQ wr _ 0 _ _ _ hb];rfl
    have p1:wr.cell? ⟨w.heap.size,1,none⟩=some (.int .i64 lo):=by rw[corQ wr _ 1 _ _ _ hb];rfl
    have p2:wr.cell? ⟨w.heap.size,2,none⟩=some (.int .i64 hi):=by rw[corQ wr _ 2 _ _ _ hb];rfl
    have HE:=hH (show yM n ⟨l,lo,hi⟩=qO ⟨l,lo,hi⟩ by rw[yM,za2 HA.out om];rfl)
    have hkl2:¬(k:Int)<(l.length:Int):=by omega
    have HN:¬(0<l.length∧0≤lo∧lo≤hi∧hi≤1000)→yM n ⟨l,lo,hi⟩=false:=fun h=>HE.out.trans (Jv (s:=⟨l,lo,hi⟩) h)
    have HNN:=hH HN
    clear HN hb hbel hany
    by_cases h1:0<l.length
    · have h1' :(0:Int)<(l.length:Int):=by omega
      by_cases h2:0≤lo
      · by_cases h3:lo≤hi
        · by_cases h4:hi≤1000
          · go_wp2_with fail
            go_ret
            exact Says.mk (by rw[HE.out];simp[qO,h2,h3,h4];omega) HB.out.2
          · go_wp2_with fail
            go_ret
            exact Says.mk (HNN.out om) HB.out.2
        · go_wp2_with fail
          go_ret
          exact Says.mk (HNN.out om) HB.out.2
      · go_wp2_with fail
        go_ret
        exact Says.mk (HNN.out om) HB.out.2
    · have h1' :¬(0:Int)<(l.length:Int):=by omega
      go_wp2_with fail
      go_ret
      exact Says.mk (HNN.out om) HB.out.2
def zkm (w:World)(n:Int)(l:List Sl)(i:Value)(wr:World):Prop:=
 ∃(k:Nat),k≤l.length∧i= .int .i64 k∧Below w.heap.size w wr∧l.all (yM n)=(l.drop k).all (yM n)
theorem zdw (w:World)(v:Value)(x:Kd)(n:Int)(hv:zjs w v x)(hf:x.few):Calls Tryz.prog 100 #[v,.int .i64 n] w (Says (kindOk n x) w):=by
 obtain⟨sa,sc,rfl,hk⟩:=hv
 obtain⟨nm,tx,l⟩:=x
 simp only at hk
 obtain⟨hf1,hf2,hf3⟩:=hf
 simp only at hf1 hf2 hf3
 have HK:=hH hk
 have HF:=hH hf3
 clear hf3 hk
 have HN:¬(1≤nm.size∧nm.size≤40∧l.length≤8)→kindOk n ⟨nm,tx,l⟩=false:=fun h=>by
  cases h2:kindOk n ⟨nm,tx,l⟩
  · rfl
  · simp[kindOk,Zg] at h2
    omega
 have HNN:=hH HN
 clear HN
 by_cases h1:nm.size<1
 · have h1' :(nm.size:Int)<1:=by omega
   exact se3
 · have h1' : ¬(nm.size:Int)<1:=by omega
   by_cases h2:40<nm.size
   · have h2' :(40:Int)<(nm.size:Int):=by omega
     exact se3
   · have h2' :¬(40:Int)<(nm.size:Int):=by omega
     by_cases h3:8<l.length
     · have h3' :(8:Int)<(l.length:Int):=by omega
       exact se3
     · have h3' :¬(8:Int)<(l.length:Int):=by omega
       have HY:=hH (show kindOk n ⟨nm,tx,l⟩=l.all (yM n) by simp only[kindOk,Zg];rw[decide_eq_true (by omega:1≤nm.size),decide_eq_true (by omega:nm.size≤40),decide_eq_true (by omega:l.length≤8)];rfl)
       clear HNN
       go_enter Tryz.func100,Tryz.ntmps100
       go_wp2_with fail
       go_loopw [26] (fun i wr=>zkm w n l i wr) (fun i _=>l.length - (intOf i).toNat)
       case atStart=>exact⟨0,NzlQ _,rfl,zg _ _,rfl⟩
       case round=>
        obtain⟨k,hkl,rfl,hbel,hany⟩:=hrel
        have HB:=hH hbel
        have HA:=hH hany
        by_cases hlt:k<l.length
        · obtain⟨s,hx⟩:∃s,l[k]? =some s:=⟨l[k],List.getElem?_eq_getElem hlt⟩
          have hfs:=HF.out s (List.mem_of_getElem? hx)
          obtain⟨b,off,rfl,hblt,hc⟩:=(HK.out.below hbel) om
          obtain⟨ka2,kc2,d0,d1,d2,hi⟩:=hc k s hx
          have HI:=hH (aN hi hfs)
          obtain⟨bb,hbb⟩:∃bb,yM n s=bb:=⟨_,rfl⟩
          have HX:=hH ((J8 HA.out hx).trans (by rw[hbb]))
          have HBB:=hH hbb
          have hkl2:(k:Int)<(l.length:Int):=by omega
          clear hx hc hi hfs hbb hbel hany
          cases bb
          · go_wp2_with (go_at_call 114;((with_reducible refine (zd2 _ _ s n (za8 (HI.out.1.below (zg _ _))) HI.out.2).mono ?_);rintro e w2 ⟨rfl,h2⟩;rw[HBB.out];have H2:=hH ((zg wr _).trans (h2.mono (zg wr _).size));clear h2))
            go_ret
            exact Says.mk (by rw[HY.out,HX.out];rfl) (HB.out.trans (H2.out.mono HB.out.size))
          · go_wp2_with (go_at_call 114;((with_reducible refine (zd2 _ _ s n (za8 (HI.out.1.below (zg _ _))) HI.out.2).mono ?_);rintro e w2 ⟨rfl,h2⟩;rw[HBB.out];have H2:=hH ((zg wr _).trans (h2.mono (zg wr _).size));clear h2))
            exact⟨⟨k+1,by omega,by go_num,HB.out.trans (H2.out.mono HB.out.size),by rw[HX.out];rfl⟩,by simp[intOf];omega⟩
        · have HE:=hH (zb7 HA.out om)
          have hkl2:¬(k:Int)<(l.length:Int):=by omega
          clear hbel hany
          go_wp2_with fail
          go_ret
          exact Says.mk (HY.out.trans HE.out) HB.out
end Go.Proofs.YtgkmmnihaiopaaaGreat
namespace Go.Proofs.YtgkmmnihaiopaaaGreat
open Go.RowKit Go.Maps
theorem zkY:Keyed Tryz.prog 9:=string_keyed Tryz.underlying9
theorem zgn (q:IntKind)(n:Int)(w:World):(Instr.makeMap 142 (some (.int q n))).run Tryz.prog w= .ok (.map (some w.heap.size)) (w.alloc (.map #[] 0)):=by
 simp[Instr.makeMap,run_underlying Tryz.underlying142,asInt,asIntOf,Result.andThen]
theorem zka {k:Nat}(h:k≤1000000):(Lit.int .i64 (k:Int)).wf=true:=by
 simp only[Lit.wf,Bool.and_eq_true,decide_eq_true_eq]
 have e1:IntKind.i64.min= -9223372036854775808:=rfl
 have e2:IntKind.i64.max=9223372036854775807:=rfl
 omega
theorem zfl (s:List UInt8):WideAt.IsKeyLit (.string s):=True.intro
structure zcU (l:List Kd) (k:Nat) (D:DataW Value):Prop where
 tidy:Tidy D
 le:Maps.size D≤k
 size:Maps.size D=k↔apart (l.take k)=true
 has:∀s,Maps.has D (.string s)= !fresh (l.take k) s
 find:apart (l.take k)=true→∀j x,j<k→l[j]? =some x→D.atKey (.string x.name.data.toList) (.lit (.int .i64 0))= .lit (.int .i64 (j:Int))
theorem zcU.start (l:List Kd):zcU l 0 (.map []):=⟨tidy_empty,NlrQ _,⟨fun _=>rfl,fun _=>rfl⟩,fun _=>rfl,fun _ j _ h=>by omega⟩
theorem zcU.next {l:List Kd}{k:Nat}{D:DataW Value}{x:Kd}(h:zcU l k D)(hx:l[k]? =some x):zcU l (k+1) (D.put (.string x.name.data.toList) (.lit (.int .i64 (k:Int)))):=by
 have hs:=size_put (k:= .string x.name.data.toList) h.tidy (.lit (.int .i64 (k:Int)))
 have hh:=h.has x.name.data.toList
 refine⟨h.tidy.put (zfl _) _,?_,?_,fun s=>?_,fun ha j y hj hy=>?_⟩
 · rw[hs];have:=h.le;split<;>omega
 · rw[hs,YM hx,hh,Bool.and_eq_true,←h.size]
   have:=h.le
   cases fresh (l.take k) x.name.data.toList
   · simp;omega
   · simp
 · by_cases e:s=x.name.data.toList
   · subst e
     rw[has_put_same h.tidy.isMap (zfl _),YR hx]
     simp
   · rw[has_put_other (by simpa using e),h.has,YR hx]
     have:decide (x.name.data.toList≠s)=true:=by simpa using fun h=>e h.symm
     rw[this,Bool.and_true]
 · rw [YM hx,Bool.and_eq_true] at ha
   by_cases e:j=k
   · subst e
     rw[hx] at hy;cases hy
     exact atKey_put_same h.tidy.isMap (zfl _) _ _
   · have hjk:j<k:=by omega
     have hne:=zdk (k:=j) ha.2 (by rw[List.getElem?_take,ipQ hjk];exact hy)
     rw[atKey_put_other (by simpa using hne)]
     exact h.find ha.1 j y hjk hy
def zjt (w:World)(b n:Nat)(D:DataW Value):Prop:=w.ownsMap Tryz.prog 9 (plainElem Tryz.prog 3) b n D
def ziI (l:List Kd)(w:World)(e:Ending)(w' :World):Prop:=∃D b,e= .returned (.map (some b))∧w.heap.size≤b∧zjt w' b l.length D∧Below w.heap.size w w'∧zcU l l.length D
def ziJ (w:World)(b:Nat)(l:List Kd)(i:Value)(wr:World):Prop:=∃(k:Nat) (D:DataW Value),k≤l.length∧i= .int .i64 k∧zjt wr b k D∧Below w.heap.size w wr∧zcU l k D
theorem ze6 (w:World)(a:Option Addr)(cap:Nat)(l:List Kd)(h:kE w a l)(hl:l.length≤1000000)(hf:∀k∈l,k.few):Calls Tryz.prog 101 #[.slice a l.length cap] w (ziI l w):=by
 have hmm:=zgn
 have HK:=hH h
 have HF:=hH hf
 clear h hf
 go_enter Tryz.func101,Tryz.ntmps101
 go_wp2_with fail
 clear hmm
 go_loopw [11] (fun i wr=>ziJ w w.heap.size l i wr) (fun i _=>l.length - (intOf i).toNat)
 case atStart=>exact⟨0,.map [],NzlQ _,rfl,World.ownsMap_made _ _ _ _,zg _ _,zcU.start l⟩
 case round=>
  obtain⟨k,D,hkl,rfl,hown,hbel,hpl⟩:=hrel
  have HB:=hH hbel
  have HP:=hH hpl
  have HO:=hH hown
  by_cases hlt:k<l.length
  · obtain⟨x,hx⟩:∃x,l[k]? =some x:=⟨l[k],List.getElem?_eq_getElem hlt⟩
    have hfx:=(HF.out x (List.mem_of_getElem? hx)).1
    obtain⟨b,off,rfl,hblt,hc⟩:=(HK.out.below hbel) om
    obtain⟨sa,sc,c0,c1,c2,hs⟩:=hc k x hx
    have HX:=hH (hpl.next hx)
    have HKEY:=hH (WideMaps.keyOf_string_mk (P:=Tryz.prog) Tryz.underlying9 (s:=x.name) uf7)
    have HW:=hH (plainElem_int (H:=Value) Tryz.underlying3 (zka (k:=k) om))
    have hkl2:(k:Int)<(l.length:Int):=by omega
    clear hx hc hs hfx hown hbel hpl
    go_wp2_with (at_mapUpdate;refine wpList_mapUpdate_own _ rfl _ _ _ 142 rfl 9 3 zkY Tryz.underlying142 _ w.heap.size k _ rfl (World.ownsMap.alloc HO.out _) uf7 _ _ _ rfl rfl HKEY.out _ [] HW.out ?_;intro w1 hown1 hgrow1;have HO1:=hH hown1;have HG1:=hH hgrow1;clear hown1 hgrow1)
    exact⟨⟨k+1,_,by omega,by go_num,HO1.out,(HB.out.alloc HB.out.size _).grown HG1.out (by have:=HB.out.size;simp;omega) (fun j hj=>by cases hj;exact NlrQ _),HX.out⟩,by simp[intOf];omega⟩
  · obtain rfl:k=l.length:=by omega
    have hkl2:¬(l.length:Int)<(l.length:Int):=by omega
    clear hown hbel hpl hlt
    go_wp2_with fail
    go_ret
    exact⟨D,_,rfl,NlrQ _,HO.out,HB.out,HP.out⟩
def zjO (w:World)(c:Array Value)(n:Int)(l:List Kd)(i:Value)(wr:World):Prop:=
 ∃(k:Nat),k≤l.length∧i= .int .i64 k∧wr.heap[w.heap.size]? =some (.cells c 24 (0,0))∧Below w.heap.size w wr∧l.all (kindOk n)=(l.drop k).all (kindOk n)
theorem zfD {g:Gr}(h:¬(g.kinds.length≤32∧0≤g.root∧g.root<(g.kinds.length:Int))):qB g=false:=by
 cases h2:qB g
 · rfl
 · simp[qB,zeJ] at h2
   omega
theorem zbK {g:Gr}(h1:g.kinds.length≤32)(h2:0≤g.root)(h3:g.root<(g.kinds.length:Int)):qB g=(g.kinds.all (kindOk g.kinds.length) && apart g.kinds):=by
 simp only[qB,zeJ];rw[decide_eq_true h1,decide_eq_true h2,decide_eq_true h3];rfl
theorem Yt (w :World)(v:Value)(g:Gr)(hv:GrV w v g)(hf:g.few):Calls Tryz.prog 81 #[v] w (Says (qB g) w):=by
 obtain⟨ka,kc,rfl,hk⟩:=hv
 obtain⟨l,root⟩:=g
 simp only at hk ⊢
 have hfl:l.length≤1000000:=hf.1
 have HF:=hH hf.2
 have HK:=hH hk
 clear hf hk
 have HN:=hH (fun (h:¬(l.length≤32∧0≤root∧root<(l.length:Int)))=>zfD (g:=⟨l,root⟩) h)
 by_cases h1:32<l.length
 · have h1' :(32:Int)<(l.length:Int):=by omega
   go_enter Tryz.func81,Tryz.ntmps81
   go_wp2_with fail
   go_ret
   exact Says.mk (HN.out om) (zg _ _)
 · have h1' : ¬(32:Int)<(l.length:Int):=by omega
   by_cases h2:root<0
   · go_enter Tryz.func81,Tryz.ntmps81
     go_wp2_with fail
     go_ret
     exact Says.mk (HN.out om) (zg _ _)
   · by_cases h3:(l.length:Int)≤root
     · go_enter Tryz.func81,Tryz.ntmps81
       go_wp2_with fail
       go_ret
       exact Says.mk (HN.out om) (zg _ _)
     · have HY:=hH (zbK (g:=⟨l,root⟩) ug1 ug1 ug1)
       clear HN
       go_enter Tryz.func81,Tryz.ntmps81
       go_wp2_with fail
       go_loopw [25] (fun i wr=>zjO w #[.slice ka l.length kc,.int .i64 root] l.length l i wr) (fun i _=>l.length - (intOf i).toNat)
       case atStart=>exact⟨0,NzlQ _,rfl,hanQ w _,zg _ _,rfl⟩
       case round=>
        obtain⟨k,hkl,rfl,hb,hbel,hany⟩:=hrel
        have HB:=hH (aN hb hbel)
        have HA:=hH hany
        by_cases hlt:k<l.length
        · obtain⟨x,hx⟩:∃x,l[k]? =some x:=⟨l[k],List.getElem?_eq_getElem hlt⟩
          have hfs:=HF.out x (List.mem_of_getElem? hx)
          obtain⟨b,off,rfl,hblt,hc⟩:=(HK.out.below hbel) om
          obtain⟨sa,sc,d0,d1,d2,hi⟩:=hc k x hx
          have HI:=hH (aN hi hfs)
          obtain⟨bb,hbb⟩:∃bb,kindOk (l.length:Int) x=bb:=⟨_,rfl⟩
          have HX:=hH ((J8 HA.out hx).trans (by rw[hbb]))
          have HBB:=hH hbb
          have hkl2:(k:Int)<(l.length:Int):=by omega
          clear hx hc hi hfs hbb hb hbel hany
          cases bb
          · go_wp2_with (go_at_call 100;((with_reducible refine (zdw _ _ x _ (zjy (HI.out.1.below (zg _ _))) HI.out.2).mono ?_);rintro e w2 ⟨rfl,h2⟩;rw[HBB.out];have H2:=hH ((zg wr _).trans (h2.mono (zg wr _).size));clear h2))
            go_ret
            exact Says.mk (by rw[HY.out,HX.out];rfl) (HB.out.2.trans (H2.out.mono HB.out.2.size))
          · go_wp2_with (go_at_call 100;((with_reducible refine (zdw _ _ x _ (zjy (HI.out.1.below (zg _ _))) HI.out.2).mono ?_);rintro e w2 ⟨rfl,h2⟩;rw[HBB.out];have H2:=hH ((zg wr _).trans (h2.mono (zg wr _).size));clear h2))
            exact⟨⟨k+1,by omega,by go_num,(H2.out.block _ (zN HB.out.1)).trans HB.out.1,HB.out.2.trans (H2.out.mono HB.out.2.size),by rw[HX.out];rfl⟩,by simp[intOf];omega⟩
        · have HE:=hH (zb7 HA.out om)
          have p0:wr.cell? ⟨w.heap.size,0,none⟩=some (.slice ka l.length kc):=by rw[corQ wr _ 0 _ _ _ hb];rfl
          have hkl2:¬(k:Int)<(l.length:Int):=by omega
          have HKW:=hH (HK.out.below hbel)
          clear hb hbel hany
          go_wp2_with (first
           | (go_at_call 101;((with_reducible refine (ze6 _ _ _ l HKW.out hfl HF.out).mono ?_);rintro e w2 ⟨D,mb,rfl,hmb,hown,h2,hpl⟩;have H2:=hH h2;have HP:=hH hpl;have HO:=hH hown;clear h2 hpl hown))
           | (at_len;(refine wpList_len_own _ rfl _ 142 rfl 9 3 Tryz.underlying142 _ mb _ D rfl HO.out ?_);obtain⟨sz,hsz⟩:∃sz,sz=Maps.size D:=⟨_,rfl⟩;rw[←hsz];have HZ:=hH hsz;clear hsz))
          go_ret
          refine Says.mk ?_ (HB.out.2.trans (H2.out.mono HB.out.2.size))
          have hall:=HP.out.size
          rw[List.take_of_length_le (NlrQ _),←HZ.out] at hall
          rw[HY.out,HE.out]
          cases hap:apart l
          · have:¬sz=l.length:=fun h=>by rw[hall.1 h] at hap;cases hap
            simp;omega
          · have:=hall.2 hap
            simp;omega
def Zw (b:Bool):Int:=if b then 0 else 50
theorem yg {w w2:World}{cs:Array Value}{t:TypeId}(h:Below (w.alloc (.cells cs t)).heap.size (w.alloc (.cells cs t)) w2)(j:Nat)(v:Value)(hv:cs[j]? =some v):w2.cell? ⟨w.heap.size,j,none⟩=some v:=by
 rw[World.cell?_of_block (h.block w.heap.size sp1),corQ _ _ j _ _ _ (hanQ w _)];exact hv
theorem zbB (w:World)(v:Value)(g:Gr)(hv:GrV w v g)(hf:g.few):Calls Tryz.prog 64 #[v] w (y8 (Zw (qB g)) w):=by
 obtain⟨ka,kc,rfl,hk⟩:=hv
 obtain⟨l,root⟩:=g
 simp only at hk
 have HF:=hH hf
 have HK:=hH hk
 obtain⟨bb,hbb⟩:∃bb,qB ⟨l,root⟩=bb:=⟨_,rfl⟩
 rw[hbb]
 have HBB:=hH hbb
 clear hf hk hbb
 go_enter Tryz.func64,Tryz.ntmps64
 cases bb
 · go_wp2_with (go_at_call 81;((with_reducible refine (Yt _ _ _ (grV (HK.out.below (zg _ _))) HF.out).mono ?_);rintro e w2 ⟨rfl,h2⟩;rw[HBB.out];have H2:=hH ((zg w _).trans (h2.mono (zg w _).size));clear h2))
   go_ret
   exact⟨rfl,H2.out⟩
 · go_wp2_with (go_at_call 81;((with_reducible refine (Yt _ _ _ (grV (HK.out.below (zg _ _))) HF.out).mono ?_);rintro e w2 ⟨rfl,h2⟩;rw[HBB.out];have H2:=hH ((zg w _).trans (h2.mono (zg w _).size));clear h2))
   go_ret
   exact⟨rfl,H2.out⟩
def kindOf (g:Gr)(n:Int):Option Kd:=if qB g=true∧0≤n then g.kinds[n.toNat]? else none
def QH (w:World)(e:Ending)(w' :World):Prop:=e= .returned (.tuple #[.agg #[.string ⟨#[]⟩,.bool false,.slice none 0 0],.bool false])∧Below w.heap.size w w'
def zkd (k:Kd)(w:World)(e:Ending)(w' :World):Prop:=∃sa sc,e= .returned (.tuple #[.agg #[.string k.name,.bool k.text,.slice sa k.slots.length sc],.bool true])∧Below w.heap.size w w'∧vI w' sa k.slots
theorem QM {w w2:World}{o:Obj}{cs:Array Value}{t:TypeId}(h:Below ((w.alloc o).alloc (.cells cs t)).heap.size ((w.alloc o).alloc (.cells cs t)) w2)(j:Nat)(v:Value)(hv:cs[j]? =some v):w2.cell? ⟨w.heap.size+1,j,none⟩=some v:=by
 have:=yg h j v hv
 simpa using this
theorem Jh {w w2:World}{o:Obj}{cs:Array Value}{t:TypeId}(h:Below ((w.alloc o).alloc (.cells cs t)).heap.size ((w.alloc o).alloc (.cells cs t)) w2)(j:Nat):w2.frozen? ⟨w.heap.size+1,j,none⟩=false:=by
 have hb:w2.heap[(w.alloc o).heap.size]? =some (.cells cs t (0,0)):=(h.block _ sp1).trans (hanQ _ _)
 rw[WsaQ] at hb
 exact forQ w2 _ j _ _ hb
theorem Ji {w w2:World}{o:Obj}{cs:Array Value}{t:TypeId}(h:Below ((w.alloc o).alloc (.cells cs t)).heap.size ((w.alloc o).alloc (.cells cs t)) w2):w2.heap[w.heap.size+1]? =some (.cells cs t (0,0)):=by
 have hb:w2.heap[(w.alloc o).heap.size]? =some (.cells cs t (0,0)):=(h.block _ sp1).trans (hanQ _ _)
 rwa [WsaQ] at hb
theorem zbA {w w2:World}{o o' :Obj}(h:Below ((w.alloc o).alloc o').heap.size ((w.alloc o).alloc o') w2):w.heap.size+1<w2.heap.size:=by
 have:=h.size
 simp at this
 omega
theorem zjV {w w2:World}{o:Obj}{cs:Array Value}{t:TypeId}(h:Below ((w.alloc (.cells cs t)).alloc o).heap.size ((w.alloc (.cells cs t)).alloc o) w2)(j:Nat)(v:Value)(hv:cs[j]? =some v):w2.cell? ⟨w.heap.size,j,none⟩=some v:=by
 rw[World.cell?_of_block (h.block w.heap.size ug5),World.cell?_of_block (BhaQ _ _ _ sp1),corQ _ _ j _ _ _ (hanQ w _)];exact hv
theorem QH.mk {w w' :World}(h:Below w.heap.size w w'):QH w (.returned (.tuple #[.agg #[.string ⟨#[]⟩,.bool false,.slice none 0 0],.bool false])) w':=⟨rfl,h⟩
theorem zdv {g:Gr}{n:Int}(h:kindOf g n=none)(hg:qB g=true):¬(0≤n∧n<(g.kinds.length:Int)):=fun ⟨h1,h2⟩=>by
 rw[kindOf,ipQ ⟨hg,h1⟩,List.getElem?_eq_none_iff] at h
 omega
theorem Yi {g:Gr}{n:Int}{k:Kd}(h:kindOf g n=some k):qB g=true∧∃j:Nat,n=(j:Int)∧j<g.kinds.length∧g.kinds[j]? =some k:=by
 unfold kindOf at h
 split at h
 · rename_i h1
   have:=(List.getElem?_eq_some_iff.1 h).1
   exact⟨h1.1,n.toNat,by omega,this,h⟩
 · cases h
theorem zkB {w:World}{b:Nat}{x0 x1 x2:Value}{t:TypeId}(h:w.heap[b]? =some (.cells #[x0,x1,x2] t (0,0)))(y0 y1 y2:Value):
 ∃W,W=((w.setCell ⟨b,0,none⟩ y0).setCell ⟨b,1,none⟩ y1).setCell ⟨b,2,none⟩ y2∧W.heap[b]? =some (.cells #[y0,y1,y2] t (0,0))∧Below b w W:=by
 have b0:Below b w (w.setCell ⟨b,0,none⟩ y0):=(BrQ b w).setCell (p:=⟨b,0,none⟩) (NlrQ b) y0
 have b1:Below b w ((w.setCell ⟨b,0,none⟩ y0).setCell ⟨b,1,none⟩ y1):=b0.setCell (p:=⟨b,1,none⟩) (NlrQ b) y1
 refine⟨_,rfl,?_,b1.setCell (p:=⟨b,2,none⟩) (NlrQ b) y2⟩
 rw[hssQ _ b 2 _ _ y2 (hssQ _ b 1 _ _ y1 (hssQ w b 0 _ _ y0 h))]
 rfl
theorem zkA {w:World}{b:Nat}{x0 x1 x2:Value}{t:TypeId}(h:w.heap[b]? =some (.cells #[x0,x1,x2] t (0,0))):w.cell? ⟨b,0,none⟩=some x0∧w.cell? ⟨b,1,none⟩=some x1∧w.cell? ⟨b,2,none⟩=some x2:=
 ⟨by rw[corQ w b 0 _ _ _ h];rfl,by rw[corQ w b 1 _ _ _ h];rfl,by rw[corQ w b 2 _ _ _ h];rfl⟩
theorem zbM (w:World)(v:Value)(g:Gr)(n:Int)(hv:GrV w v g)(hf:g.few)(hn:kindOf g n=none):Calls Tryz.prog 128 #[v,.int .i64 n] w (QH w):=by
 obtain⟨ka,kc,rfl,hk⟩:=hv
 obtain⟨l,root⟩:=g
 simp only at hk
 have hfl:l.length≤1000000:=hf.1
 have HF:=hH hf
 have HK:=hH hk
 have HN:=hH (zdv hn)
 clear hf hk hn
 by_cases h1:n<0
 · go_enter Tryz.func128,Tryz.ntmps128
   exact sg8
 · by_cases h2:(l.length:Int)≤n
   · go_enter Tryz.func128,Tryz.ntmps128
     exact sg8
   · have HG:=hH (show qB ⟨l,root⟩=false by
      cases h:qB ⟨l,root⟩
      · rfl
      · exact absurd ⟨by omega,by show n<(l.length:Int);omega⟩ (HN.out h))
     go_enter Tryz.func128,Tryz.ntmps128
     go_wp2_with (go_at_call 81;((with_reducible refine (Yt _ _ _ (grV (HK.out.below (yQ _ _ _))) HF.out).mono ?_);rintro e w2 ⟨rfl,h2⟩;rw[HG.out];have H2:=hH h2;have p0:=QM h2 0 _ rfl;have p1:=QM h2 1 _ rfl;have p2:=QM h2 2 _ rfl;have q0:=Jh h2;have hz:w.heap.size+1<w2.heap.size:=zbA h2;clear h2))
     obtain⟨W,hW,hWb,hWB⟩:=zkB (Ji H2.out) (.string { data:= #[] }) (.bool false) (.slice none 0 0)
     rw[←hW]
     obtain⟨e0,e1,e2⟩:=zkA hWb
     refine brQ (v:= .tuple #[.agg #[.string ⟨#[]⟩,.bool false,.slice none 0 0],.bool false]) ud1 rfl (QH.mk ?_)
     exact ((yQ w _ _).trans (H2.out.mono (yQ w _ _).size)).trans (hWB.mono (Nat.le_succ _))
theorem jq (w:World)(v:Value)(g:Gr)(n:Int)(k:Kd)(hv:GrV w v g)(hf:g.few)(hn:kindOf g n=some k):Calls Tryz.prog 128 #[v,.int .i64 n] w (zkd k w):=by
 obtain⟨ka,kc,rfl,hk⟩:=hv
 obtain⟨l,root⟩:=g
 simp only at hk
 have hfl:l.length≤1000000:=hf.1
 obtain⟨hg,j,rfl,hj,hx⟩:=Yi hn
 simp only at hj hx
 obtain⟨b,off,rfl,hblt,hc⟩:=hk om
 obtain⟨sa,sc,c0,c1,c2,hs⟩:=hc j k hx
 have HF:=hH hf
 have HK:=hH hk
 have HG:=hH hg
 have HS:=hH hs
 have HC:=hH (aN c0 (aN c1 c2))
 have hj2:(j:Int)<(l.length:Int):=by omega
 clear hf hk hn hg hx hc hs c0 c1 c2
 go_enter Tryz.func128,Tryz.ntmps128
 go_wp2_with (go_at_call 81;((with_reducible refine (Yt _ _ _ (grV (HK.out.below (yQ _ _ _))) HF.out).mono ?_);rintro e w2 ⟨rfl,h2⟩;rw[HG.out];have H2:=hH h2;have HB:=hH ((yQ w _ _).trans (h2.mono (yQ w _ _).size));have p0:=zjV h2 0 _ rfl;have q0:=QM h2 0 _ rfl;have q1:=QM h2 1 _ rfl;have q2:=QM h2 2 _ rfl;have q3:=Jh h2;have hz:w.heap.size+1<w2.heap.size:=zbA h2;have d0:=(HB.out.cell hblt).trans HC.out.1;have d1:=(HB.out.cell hblt).trans HC.out.2.1;have d2:=(HB.out.cell hblt).trans HC.out.2.2;clear h2))
 obtain⟨W,hW,hWb,hWB⟩:=zkB (Ji H2.out) (.string k.name) (.bool k.text) (.slice sa k.slots.length sc)
 rw[←hW]
 obtain⟨e0,e1,e2⟩:=zkA hWb
 have hBW:=HB.out.trans (hWB.mono (Nat.le_succ _))
 exact brQ (v:= .tuple #[.agg #[.string k.name,.bool k.text,.slice sa k.slots.length sc],.bool true]) ud1 rfl ⟨sa,sc,rfl,hBW,HS.out.below hBW⟩
end Go.Proofs.YtgkmmnihaiopaaaGreat
namespace Go.Proofs.YtgkmmnihaiopaaaGreat
open Go.RowKit
def Ahead (l:List Int)(k:Nat)(a:Int):Prop:=(k=0→a= -1)∧∀m,k=m+1→l[m]? =some a
def zkq (w:World)(n:Int)(l:List Int)(i:Value)(wr:World):Prop:=
 ∃(k:Nat) (a:Int),k≤l.length∧i= .int .i64 k∧ -1≤a∧Ahead l k a∧Below w.heap.size w wr∧rise n (-1) l=rise n a (l.drop k)
def rising (n:Int)(l:List Int):Bool:=rise n (-1) l && decide (0<l.length)
theorem kw (w :World)(a:Option Addr)(cap:Nat)(l:List Int)(n:Int)(hn:n≤32)(h:qz w a l)(hf:l.length≤1000000):Calls Tryz.prog 40 #[.slice a l.length cap,.int .i64 n] w (Says (rising n l) w):=by
 have HK:=hH h
 clear h
 go_enter Tryz.func40,Tryz.ntmps40
 go_wp2_with fail
 go_loopw [5] (fun i wr=>zkq w n l i wr) (fun i _=>l.length - (intOf i).toNat)
 case atStart=>exact⟨0, -1,NzlQ _,rfl,by omega,⟨fun _=>rfl,fun m h=>by omega⟩,BrQ _ _,rfl⟩
 case round =>
  obtain⟨k,y,hkl,rfl,hy,⟨hy0,hy1⟩,hbel,hany⟩:=hrel
  have HB:=hH hbel
  have HA:=hH hany
  by_cases hlt:k<l.length
  · obtain ⟨x,hx⟩:∃x,l[k]? =some x:=⟨l[k],List.getElem?_eq_getElem hlt⟩
    obtain⟨b,off,rfl,hblt,hc⟩:=(HK.out.below hbel) om
    have c0:=hc k x hx
    have HX:=hH (zbU HA.out hx)
    have hkl2:(k:Int)<(l.length:Int):=by omega
    have hk0:(0:Int)≤(k:Int):=by omega
    have HXX:=hH hx
    by_cases hx0:x<0
    · have hx0' :decide (x<0)=true:=by simpa using hx0
      clear hx hc hbel hany hy0 hy1
      exact sf6
    · have hx0' :decide (x<0)=false:=by simpa using hx0
      by_cases hxn:n≤x
      · have hxn' :decide (n≤x)=true:=by simpa using hxn
        clear hx hc hbel hany hy0 hy1
        exact sf6
      · have hxn' :decide (n≤x)=false:=by simpa using hxn
        by_cases hk1:k=0
        · have hka:=hy0 hk1
          subst hka
          have hk2:decide ((0:Int)<(k:Int))=false:=by simp;omega
          have hk3:decide (0<k)=false:=by simp;omega
          have HK1:=hH hk1
          clear hx hc hbel hany hy0 hy1 hk1
          go_wp2_with fail
          go_quiet (fail)
          go_wp2_with fail
          exact⟨⟨k+1,x,by omega,by go_num,by omega,⟨fun h=>by omega,fun m h=>by obtain rfl:m=k:=om;exact HXX.out⟩,below_drewN HB.out _,by rw[HX.out];simp;omega⟩,by simp[intOf];omega⟩
        · obtain⟨m,rfl⟩:∃m,k=m+1:=⟨k - 1,by omega⟩
          have hym:=hy1 m rfl
          have c1:=hc m y hym
          have hk2:decide ((0:Int)<((m:Int)+1))=true:=by rw[decide_eq_true];omega
          have hk3:decide (0<m+1)=true:=by simp
          by_cases hle:x≤y
          · have hle' :decide (x≤y)=true:=by simpa using hle
            clear hx hc hbel hany hy0 hy1 hym
            exact sf6
          · have hle' :decide (x≤y)=false:=by simpa using hle
            clear hx hc hbel hany hy0 hy1 hym
            go_wp2_with fail
            go_quiet (fail)
            go_wp2_with fail
            exact⟨⟨m+2,x,by omega,by go_num,by omega,⟨fun h=>by omega,fun j h=>by obtain rfl:j=m+1:=om;exact HXX.out⟩,below_drewN HB.out _,by rw[HX.out];simp;omega⟩,by simp[intOf];omega⟩
  · have HE:=hH (show rising n l=decide (0<l.length) by rw[rising,za2 HA.out om];rfl)
    have hkl2:¬(k:Int)<(l.length:Int):=by omega
    have hlen:=zdT n l (-1) (za2 HA.out om)
    have h32:l.length≤32:=by
     rcases hlen with h | h
     · rw[h];simp
     · omega
    clear hbel hany hlen hy0 hy1
    by_cases h1:0<l.length
    · have h1' :(1:Int)≤(l.length:Int):=by omega
      have h2' :(l.length:Int)≤32:=by omega
      go_wp2_with fail
      go_ret
      exact Says.mk (by rw[HE.out,decide_eq_true h1]) HB.out
    · have h1' :¬(1:Int)≤(l.length:Int):=by omega
      go_wp2_with fail
      go_ret
      exact Says.mk (by rw[HE.out,decide_eq_false h1]) HB.out
def qL (l:List Int)(x:Int):Bool:=l.any fun y=>decide (y=x)
def zkN (w:World)(l:List Int)(x:Int)(i:Value)(wr:World):Prop:=∃k:Nat,k≤l.length∧i= .int .i64 k∧w=wr∧qL l x=qL (l.drop k) x
def zeg (b:Bool)(w:World)(e:Ending)(w' :World):Prop:=∃n:Int,e= .returned (.int .i64 n)∧(b=true→0≤n)∧(b=false→n<0)∧w=w'
theorem zeg.yes {b:Bool}{w:World}{k:Nat}(h:b=true):zeg b w (.returned (.int .i64 (k:Int))) w:=⟨k,rfl,(fun _=>by omega),(fun e=>by rw[h] at e;cases e),rfl⟩
theorem zeg.no {b:Bool}{w:World}(h:b=false):zeg b w (.returned (.int .i64 (-1))) w:=⟨-1,rfl,(fun e=>by rw[h] at e;cases e),(fun _=>by omega),rfl⟩
theorem zdp {l:List Int}{x y:Int}{k:Nat}{r:Bool}(hr:r=qL (l.drop k) x)(h:l[k]? =some y):r=(decide (y=x) || qL (l.drop (k+1)) x):=J9 hr h
theorem zgj (w:World)(a:Option Addr)(cap:Nat)(l:List Int)(x:Int)(h:qz w a l)(hf:l.length≤1000000):Calls Tryz.prog 134 #[.slice a l.length cap,.int .i64 x] w (zeg (qL l x) w):=by
 have HK:=hH h
 clear h
 go_enter Tryz.func134,Tryz.ntmps134
 go_wp2_with fail
 go_loopw [8] (fun i wr=>zkN w l x i wr) (fun i _=>l.length - (intOf i).toNat)
 case atStart=>exact⟨0,NzlQ _,rfl,rfl,rfl⟩
 case round=>
  obtain⟨k,hkl,rfl,rfl,hany⟩:=hrel
  have HA:=hH hany
  clear hany
  by_cases hlt:k<l.length
  · obtain⟨y,hy⟩:∃y,l[k]? =some y:=⟨l[k],List.getElem?_eq_getElem hlt⟩
    obtain⟨b,off,rfl,hblt,hc⟩:=HK.out om
    have c0:=hc k y hy
    have HX:=hH (zdp HA.out hy)
    have hkl2:(k:Int)<(l.length:Int):=by omega
    clear hy hc
    by_cases he:x=y
    · have HE:=hH he.symm
      subst he
      go_wp2_with fail
      go_ret
      exact zeg.yes (by rw[HX.out];simp)
    · have HE:=hH he
      go_wp2_with fail
      exact⟨⟨k+1,by omega,by go_num,rfl,by rw[HX.out,decide_eq_false (fun e=>HE.out e.symm)];rfl⟩,by simp[intOf];omega⟩
  · have HE:=hH (show qL l x=false from JI HA.out om)
    have hkl2:¬(k:Int)<(l.length:Int):=by omega
    go_wp2_with fail
    go_ret
    exact zeg.no HE.out
theorem zcg (w:World)(a:Option Addr)(cap:Nat)(l:List Int)(x:Int)(h:qz w a l)(hf:l.length≤1000000):Calls Tryz.prog 133 #[.slice a l.length cap,.int .i64 x] w fun e w'=>e= .returned (.bool (qL l x))∧w=w':=by
 have HK:=hH (zgj w a cap l x h hf)
 clear h
 obtain⟨bb,hbb⟩:∃bb,qL l x=bb:=⟨_,rfl⟩
 rw[hbb]
 rw[hbb] at HK
 clear hbb
 go_enter Tryz.func133,Tryz.ntmps133
 cases bb
 · go_wp2_with (go_at_call 134;((with_reducible refine HK.out.mono ?_);rintro e w2 ⟨n,rfl,_,h2,rfl⟩;have h3:=hH (h2 rfl);clear h2))
   go_ret
   exact⟨by show Ending.returned (.bool (decide (0≤n)))=_;rw[decide_eq_false (by have:=h3.out;omega)],rfl⟩
 · go_wp2_with (go_at_call 134;((with_reducible refine HK.out.mono ?_);rintro e w2 ⟨n,rfl,h2,_,rfl⟩;have h3:=h2 rfl;clear h2))
   go_ret
   exact⟨rfl,rfl⟩
def zkP (w:World)(c:Array Value)(l:List Int)(x:Int)(i:Value)(wr:World):Prop:=∃k:Nat,k≤l.length∧i= .int .i64 k∧wr.heap[w.heap.size]? =some (.cells c 55 (0,0))∧Below w.heap.size w wr∧qL l x=qL (l.drop k) x
theorem zcv (w:World)(v:Value)(s:Sl)(x:Int)(hv:zcV w v s)(hf:s.few):Calls Tryz.prog 74 #[v,.int .i64 x] w (Says (qL s.kinds x) w):=by
 obtain⟨ka,kc,rfl,hk⟩:=hv
 obtain⟨l,lo,hi⟩:=s
 simp only at hk ⊢
 have hfl:l.length≤1000000:=hf
 have HK:=hH hk
 clear hf hk
 go_enter Tryz.func74,Tryz.ntmps74
 go_wp2_with fail
 go_loopw [5] (fun i wr=>zkP w #[.slice ka l.length kc,.int .i64 lo,.int .i64 hi] l x i wr) (fun i _=>l.length - (intOf i).toNat)
 case atStart=>exact⟨0,NzlQ _,rfl,hanQ w _,zg _ _,rfl⟩
 case round=>
  obtain⟨k,hkl,rfl,hb,hbel,hany⟩:=hrel
  have p0:wr.cell? ⟨w.heap.size,0,none⟩=some (.slice ka l.length kc):=by rw[corQ wr _ 0 _ _ _ hb];rfl
  have HB:=hH (aN hb hbel)
  have HA:=hH hany
  by_cases hlt:k<l.length
  · obtain⟨y,hy⟩:∃y,l[k]? =some y:=⟨l[k],List.getElem?_eq_getElem hlt⟩
    obtain⟨b,off,rfl,hblt,hc⟩:=(HK.out.below hbel) om
    have c0:=hc k y hy
    have HX:=hH (zdp HA.out hy)
    have hkl2:(k:Int)<(l.length:Int):=by omega
    clear hy hc hb hbel hany
    by_cases he:y=x
    · subst he
      go_wp2_with fail
      go_ret
      exact Says.mk (by rw[HX.out];simp) HB.out.2
    · have HE:=hH he
      go_wp2_with fail
      exact⟨⟨k+1,by omega,by go_num,HB.out.1,HB.out.2,by rw[HX.out,decide_eq_false HE.out];rfl⟩,by simp[intOf];omega⟩
  · have HE:=hH (show qL l x=false from JI HA.out om)
    have hkl2:¬(k:Int)<(l.length:Int):=by omega
    clear hb hbel hany
    go_wp2_with fail
    go_ret
    exact Says.mk HE.out HB.out.2
def vec (f:Nat→Bool):Array Value:=((List.range 201).map fun j=>Value.bool (f j)).toArray
theorem qm (f:Nat→Bool):(vec f).size=201:=by simp[vec]
theorem ZJ (f:Nat→Bool)(j:Nat)(h:j<201):(vec f)[j]? =some (.bool (f j)):=by
 simp[vec,h]
theorem zcL (f:Nat→Bool)(i:Nat)(b:Bool):(vec f).setIfInBounds i (.bool b)=vec (fun j=>if j=i then b else f j):=by
 apply Array.ext_getElem?
 intro j
 by_cases hj:j<201
 · rw[ZJ _ j hj,Array.getElem?_setIfInBounds]
   by_cases e:i=j
   · subst e;rw[ipQ rfl,ipQ (by rw[qm];exact hj),ipQ rfl]
   · rw[inQ e,ZJ _ j hj,inQ (fun h=>e h.symm)]
 · rw[Array.getElem?_eq_none (by simp[qm];omega),Array.getElem?_eq_none (by rw[qm];omega)]
theorem zfQ {f g:Nat→Bool}(h:∀j,j<201→f j=g j):vec f=vec g:=by
 apply Array.ext_getElem?
 intro j
 by_cases hj:j<201
 · rw[ZJ _ j hj,ZJ _ j hj,h j hj]
 · rw[Array.getElem?_eq_none (by rw[qm];omega),Array.getElem?_eq_none (by rw[qm];omega)]
def zeq (cs:Array Value):Bool:=cs.all (·.oneCell')
theorem zjj (f:Nat→Bool):zeq (vec f)=true:=by
 refine Array.all_eq_true_iff_forall_mem.2 fun u hu=>?_
 simp only[vec,List.mem_toArray,List.mem_map] at hu
 obtain⟨b,_,rfl⟩:=hu;rfl
def blk (w:World)(b:Nat):Array Value:=match w.heap[b]? with
 | some (.cells cs _ _)=>cs
 | _=> #[]
theorem QL {w:World}{b:Nat}{cs:Array Value}{t:TypeId}{fr:Nat×Nat}(h:w.heap[b]? =some (.cells cs t fr)):blk w b=cs:=by simp[blk,h]
theorem blk_alloc_new (w:World)(cs:Array Value)(t:TypeId)(n:Nat)(hn:n=w.heap.size):blk (w.alloc (.cells cs t)) n=cs:=by
 subst hn;exact QL (hanQ w _)
theorem zhA {w:World}{b:Nat}{v:Value}(j:Nat)(h:(blk w b)[j]? =some v):w.cell? ⟨b,j,none⟩=some v:=by
 unfold blk at h
 split at h
 · rename_i cs t fr hb;rw[corQ w b j cs t fr hb];exact h
 · simp at h
theorem Qt {P:Program}(w:World)(b s:Nat)(ty:TypeId)(d:TypeDesc)(hu:P.underlying ty=some d)(hd:d.isRow=true)(hi:(P.info? ty).map (·.size)=some s)(h:(blk w b).size=s):
 (loadVar ty ⟨b,0,none⟩).run P w= .ok (.agg (blk w b)) w:=by
 have:=run_loadVar_mid (P:=P) w b 0 ty (blk w b).toList d (fun j v hv=>by
  refine zhA _ ?_
  rw[Nat.zero_add];rw[Array.getElem?_toList] at hv;exact hv) hu hd (by rw[Array.length_toList,h];exact hi)
 rw[Array.toArray_toList] at this
 exact this
theorem Tryz.ziq:(Tryz.prog.info? 172).map (·.size)=some 201:=by kernel_rfl
def ZQ:Value→Nat
 | .pointer (some a)=>a.block
 | _=>0
def Yh:Value→Bool
 | .pointer (some a)=>a.off == 0 && a.spot.isNone
 | _=>false
theorem Zd (a:Addr):ZQ (.pointer (some a))=a.block:=rfl
theorem YT (b n:Nat):Yh (.pointer (some ⟨b,n,none⟩))=(n == 0):=by simp[Yh]
theorem zaJ {v:Value}(h:Yh v=true):v= .pointer (some ⟨ZQ v,0,none⟩):=by
 unfold Yh at h
 split at h
 · rename_i a
   obtain⟨b,n,s⟩:=a
   simp at h
   obtain⟨rfl,rfl⟩:=h
   rfl
 · cases h
def zep:Value→Array Value
 | .agg cs=>cs
 | _=> #[]
def isT:Value→Bool
 | .agg cs=>cs.size == 201 && zeq cs
 | _=>false
theorem J7 (cs:Array Value):zep (.agg cs)=cs:=rfl
theorem zcr (f:Nat→Bool):isT (.agg (vec f))=true:=by simp[isT,qm,zjj]
theorem zi4 {v:Value}(h:isT v=true):v= .agg (zep v)∧(zep v).size=201∧zeq (zep v)=true:=by
 unfold isT at h
 split at h
 · simp at h;exact⟨rfl,h.1,h.2⟩
 · cases h
def kL (w:World)(b:Nat):Bool:=match w.heap[b]? with
 | some (.cells cs _ fr)=>cs.size == 201 && fr == (0,0)
 | _=>false
theorem kR (w:World)(c:Array Value)(t:TypeId)(n:Nat)(hn:n=w.heap.size):kL (w.alloc (.cells c t)) n=(c.size == 201):=by
 subst hn
 unfold kL
 rw[hanQ]
 simp
theorem YQ {w:World}{b:Nat}{cs:Array Value}{t:TypeId}(h:w.heap[b]? =some (.cells cs t (0,0)))(hs:cs.size=201):kL w b=true:=by simp[kL,h,hs]
theorem zdj {w:World}{b:Nat}(h:kL w b=true):∃cs t,w.heap[b]? =some (.cells cs t (0,0))∧cs.size=201:=by
 unfold kL at h
 split at h
 · rename_i cs t fr hb
   simp at h
   obtain⟨h1,rfl⟩:=h
   exact⟨cs,t,hb,h1⟩
 · cases h
theorem jM (w:World)(c c' :Array Value)(t:TypeId)(n:Nat)(hn:n=w.heap.size):(w.alloc (.cells c t)).setRow n c'=w.alloc (.cells c' t):=by
 subst hn;exact World.setRow_alloc_new w c c' t
def noF:Nat→Bool:=fun _=>false
def YI:Nat→Bool:=fun j=>decide (j=0)
section
variable (w:World) (ρ:Operand→Value) (a:Act) (dst:Option Tmp) (x y:Operand) (ty' :TypeId) (pos:String) (aft:Array Edge) (g:Option (Nat×Bool)) (K:Act→World→Prop) (Q:Exit→Act→World→Prop)
theorem loadT (h:Yh (ρ x)=true)(h2:(blk w (ZQ (ρ x))).size=201):(execOp ρ ⟨dst,.load 172 x,ty',pos,aft,g⟩).run Tryz.prog w= .ok (.value (.agg (blk w (ZQ (ρ x))))) w:=by
 have e:=zaJ h
 simp only[execOp,Sem.run_bind]
 rw[e]
 simp only[Instr.loadAt,Instr.sureAddr,Sem.run_bind,Sem.run_pure,Result.andThen_ok,Zd]
 rw[Qt (P:=Tryz.prog) w (ZQ (ρ x)) 201 172 _ Tryz.underlying172 rfl Tryz.ziq h2]
 rfl
theorem zcN (h:Yh (a.eval x)=true)(h2:(blk w (ZQ (a.eval x))).size=201):Oper.wp Tryz.prog ⟨dst,.load 172 x,ty',pos,aft,g⟩ a w K Q=K (a.put dst (.agg (blk w (ZQ (a.eval x))))) w:=by
 unfold Oper.wp
 rw[loadT w a.eval dst x ty' pos aft g h h2]
 rfl
theorem storeT (h:Yh (ρ x)=true)(h2:kL w (ZQ (ρ x))=true)(h3:isT (ρ y)=true):
 (execOp ρ ⟨dst,.store 172 x y,ty',pos,aft,g⟩).run Tryz.prog w= .ok .skip (w.setRow (ZQ (ρ x)) (zep (ρ y))):=by
 have e1:=zaJ h
 obtain⟨e2,e3,e4⟩:=zi4 h3
 obtain⟨cs,t,hb,hs⟩:=zdj h2
 have hr:=run_storeVar_row (P:=Tryz.prog) w (ZQ (ρ x)) t 172 cs (zep (ρ y)) hb (by rw[e3];exact Tryz.ziq) om e4
 simp only[execOp,Sem.run_bind]
 rw[e2,e1]
 simp only[Instr.storeAt,Instr.sureAddr,Sem.run_bind,Sem.run_pure,Result.andThen_ok,Zd]
 rw[hr]
 rfl
theorem zbi (h:Yh (a.eval x)=true)(h2:kL w (ZQ (a.eval x))=true)(h3:isT (a.eval y)=true):
 Oper.wp Tryz.prog ⟨dst,.store 172 x y,ty',pos,aft,g⟩ a w K Q=K (a.put dst undef) (w.setRow (ZQ (a.eval x)) (zep (a.eval y))):=by
 unfold Oper.wp
 rw[storeT w a.eval dst x y ty' pos aft g h h2 h3]
 rfl
theorem zb8:(execOp ρ ⟨dst,.alloc 172,ty',pos,aft,g⟩).run Tryz.prog w= .ok (.value (.pointer (some ⟨w.heap.size,0,none⟩))) (w.alloc (.cells (vec noF) 172)):=by kernel_rfl
theorem zbg:Oper.wp Tryz.prog ⟨dst,.alloc 172,ty',pos,aft,g⟩ a w K Q=K (a.put dst (.pointer (some ⟨w.heap.size,0,none⟩))) (w.alloc (.cells (vec noF) 172)):=by
 unfold Oper.wp
 rw[zb8 w a.eval dst ty' pos aft g]
 rfl
theorem ziP:(Instr.build 172 #[(0,.bool true)]).run Tryz.prog w= .ok (.agg (vec YI)) w:=by kernel_rfl
theorem zcc (h:ρ x= .bool true):(execOp ρ ⟨dst,.build 172 #[(0,x)],ty',pos,aft,g⟩).run Tryz.prog w= .ok (.value (.agg (vec YI))) w:=by
 simp only[execOp,List.map_toArray,List.map_cons,List.map_nil,Sem.run_bind]
 rw[h,ziP]
 rfl
theorem zbh (h:a.eval x= .bool true):Oper.wp Tryz.prog ⟨dst,.build 172 #[(0,x)],ty',pos,aft,g⟩ a w K Q=K (a.put dst (.agg (vec YI))) w:=by
 unfold Oper.wp
 rw[zcc w a.eval dst x ty' pos aft g h]
 rfl
end
end Go.Proofs.YtgkmmnihaiopaaaGreat
namespace Go.Proofs.YtgkmmnihaiopaaaGreat
open Go.RowKit
theorem j5 {l:List Kd}{root:Int}{i:Nat}{x:Kd}(hx:l[i]? =some x)(h:kindOk (l.length:Int) x=false):qB ⟨l,root⟩=false:=by
 cases h2:qB ⟨l,root⟩
 · rfl
 · simp only[qB,Bool.and_eq_true,List.all_eq_true] at h2
   have:=h2.1.2 x (List.mem_of_getElem? hx)
   rw[h] at this;cases this
theorem zaa:∀{l:List Kd} {i j:Nat} {x y:Kd},apart l=true→j<i→l[i]? =some x→l[j]? =some y→y.name.data.toList≠x.name.data.toList
 | [],i,_,_,_,_,_,hx,_=>by simp at hx
 | k::r,0,_,_,_,_,hj,_,_=>by omega
 | k ::r,i+1,0,x,y,h,_,hx,hy=>by
   simp only[apart,Bool.and_eq_true] at h
   simp at hx hy
   subst hy
   exact fun e=>zdk h.1 hx e.symm
 | k ::r,i+1,j+1,x,y,h,hj,hx,hy=>by
   simp only[apart,Bool.and_eq_true] at h
   exact zaa h.2 (by omega:j<i) (by simpa using hx) (by simpa using hy)
theorem zhz {l:List Kd}{root:Int}{i j:Nat}{x y:Kd}(hj:j<i)(hx:l[i]? =some x)(hy:l[j]? =some y)(h:y.name.data.toList=x.name.data.toList):qB ⟨l,root⟩=false:=by
 cases h2:qB ⟨l,root⟩
 · rfl
 · simp only[qB,Bool.and_eq_true] at h2
   exact absurd h (zaa h2.2 hj hx hy)
theorem Qi {n:Int}{x:Kd}{j:Nat}{s:Sl}(hs:x.slots[j]? =some s)(h:yM n s=false):kindOk n x=false:=by
 cases h2:kindOk n x
 · rfl
 · simp only[kindOk,Bool.and_eq_true,List.all_eq_true] at h2
   have:=h2.2 s (List.mem_of_getElem? hs)
   rw[h] at this;cases this
theorem ze0 {n:Int}{s:Sl}(h:rising n s.kinds=false):yM n s=false:=by
 cases h2:yM n s
 · rfl
 · simp only[yM,qO,Bool.and_eq_true] at h2
   rw[rising,h2.1,h2.2.1.1.1] at h;cases h
theorem zdU {n:Int}{s:Sl}(h:rising n s.kinds=true):yM n s=qO s:=by
 simp only[rising,Bool.and_eq_true] at h
 rw[yM,h.1];rfl
theorem zfb {n:Int}{s:Sl}(h:rising n s.kinds=true):0<s.kinds.length:=by
 simp only[rising,Bool.and_eq_true,decide_eq_true_eq] at h
 exact h.2
theorem Yj {n:Int}{x:Kd}(h:¬(1≤x.name.size∧x.name.size≤40∧x.slots.length≤8)):kindOk n x=false:=by
 cases h2:kindOk n x
 · rfl
 · simp[kindOk,Zg] at h2
   omega
theorem zcu {n:Int}{x:Kd}(h1:1≤x.name.size)(h2:x.name.size≤40)(h3:x.slots.length≤8)(h4:x.slots.all (yM n)=true):kindOk n x=true:=by
 simp only[kindOk,Zg];rw[decide_eq_true h1,decide_eq_true h2,decide_eq_true h3,h4];rfl
theorem vY {g:Gr}(h:qB g=false):Zw (qB g)=50:=by rw[h];rfl
theorem qX {g:Gr}(h:qB g=true):Zw (qB g)=0:=by rw[h];rfl
theorem zhs {f:Kd→Bool}{l:List Kd}{i:Nat}{x:Kd}(h:(l.take i).all f=true)(hx:l[i]? =some x)(hf:f x=true):(l.take (i+1)).all f=true:=by
 rw[Yz hx,List.all_append,h];simp[hf]
def ziK (w:World)(c:Array Value)(l:List Kd)(i:Value)(wr:World):Prop:=
 ∃(k:Nat),k≤l.length∧i= .int .i64 k∧wr.heap[w.heap.size]? =some (.cells c 24 (0,0))∧Below w.heap.size w wr∧(l.take k).all (kindOk l.length)=true∧apart (l.take k)=true
def zha (W:World)(l:List Kd)(k:Nat)(nm:List UInt8)(j:Value)(wr:World):Prop:=
 ∃(m:Nat),m≤k∧j= .int .i64 m∧Below W.heap.size W wr∧fresh (l.take m) nm=true
def zhb (W:World)(l:List Sl)(n:Int)(j:Value)(wr:World):Prop:=
 ∃(m:Nat),m≤l.length∧j= .int .i64 m∧Below W.heap.size W wr∧l.all (yM n)=(l.drop m).all (yM n)
theorem yo (w : World)(v:Value)(g:Gr)(hv:GrV w v g)(hf:g.few):Calls Tryz.prog 19 #[v] w (y8 (Zw (qB g)) w):=by
 obtain⟨ka,kc,rfl,hk⟩:=hv
 obtain⟨l,root⟩:=g
 simp only at hk
 have hfl:l.length≤1000000:=hf.1
 have HF:=hH (show ∀k∈l,k.few from hf.2)
 have HK:=hH hk
 clear hf hk
 have HN:=hH (fun (h:¬(l.length≤32∧0≤root∧root<(l.length:Int)))=>vY (zfD (g:=⟨l,root⟩) h))
 by_cases h0:l.length<1
 · have h0' :(l.length:Int)<1:=by omega
   exact si3
 have h0' :¬(l.length:Int)<1:=by omega
 by_cases h1:32<l.length
 · have h1' :(32:Int)<(l.length:Int):=by omega
   exact si3
 have h1' :¬(32:Int)<(l.length:Int):=by omega
 by_cases h2:root<0
 · go_enter Tryz.func19,Tryz.ntmps19
   go_wp2_with fail
   go_ret
   exact y8.mk (HN.out om) (zg _ _)
 by_cases h3:(l.length:Int)≤root
 · go_enter Tryz.func19,Tryz.ntmps19
   go_wp2_with fail
   go_ret
   exact y8.mk (HN.out om) (zg _ _)
 have HY:=hH (zbK (g:=⟨l,root⟩) ug1 ug1 ug1)
 have h32:l.length≤32:=by omega
 clear HN
 go_enter Tryz.func19,Tryz.ntmps19
 go_wp2_with fail
 clear h0' h1' h2 h3 h0 h1
 go_loopw [4] (fun i wr=>ziK w #[.slice ka l.length kc,.int .i64 root] l i wr) (fun i _=>l.length - (intOf i).toNat)
 case atStart=>exact⟨0,NzlQ _,rfl,hanQ w _,zg _ _,rfl,rfl⟩
 case round =>
  obtain⟨k,hkl,rfl,hb,hbel,hall,hap⟩:=hrel
  have HB:=hH (aN hb hbel)
  have HA:=hH (aN hall hap)
  have p0:wr.cell? ⟨w.heap.size,0,none⟩=some (.slice ka l.length kc):=by rw[corQ wr _ 0 _ _ _ hb];rfl
  by_cases hlt:k<l.length
  · obtain ⟨x, hx⟩:∃x,l[k]? =some x:=⟨l[k],List.getElem?_eq_getElem hlt⟩
    have hfx:=HF.out x (List.mem_of_getElem? hx)
    obtain⟨b,off,rfl,hblt,hc⟩:=(HK.out.below hbel) om
    obtain⟨sa,sc,c0,c1,c2,hs⟩:=hc k x hx
    have HS:=hH hs
    have HX:=hH hx
    have HFX:=hH hfx.2.2
    have hs1:=hfx.1
    have hs2:=hfx.2.1
    have hkl2:(k:Int)<(l.length:Int):=by omega
    clear hx hc hs hfx hb hbel hall hap
    by_cases g1:x.name.size<1
    · have g1' :(x.name.size:Int)<1:=by omega
      exact sh4
    have g1' :¬(x.name.size:Int)<1:=by omega
    by_cases g2:40<x.name.size
    · have g2' :(40:Int)<(x.name.size:Int):=by omega
      exact sh4
    have g2' :¬(40:Int)<(x.name.size:Int):=by omega
    by_cases g3:8<x.slots.length
    · have g3' :(8:Int)<(x.slots.length:Int):=by omega
      exact sh4
    have g3' :¬(8:Int)<(x.slots.length:Int):=by omega
    go_wp2_with fail
    have hz8:x.slots.length≤8:=by omega
    clear g1' g2' g3' p0 c0 c1 c2
    obtain⟨w1,rfl⟩:∃w1,w1=wr:=⟨_,rfl⟩
    obtain⟨wo,hwo⟩:∃wo,wo=w1.alloc (.cells #[.string x.name,.bool x.text,.slice sa x.slots.length sc] 52):=⟨_,rfl⟩
    rw[←hwo]
    have HWB:=hH (show Below w1.heap.size w1 wo by rw[hwo];exact zg _ _)
    have HWK:=hH (show wo.heap[w1.heap.size]? =some (.cells #[.string x.name,.bool x.text,.slice sa x.slots.length sc] 52 (0,0)) by rw[hwo];exact hanQ _ _)
    have HWG:=hH (show wo.heap[w.heap.size]? =some (.cells #[.slice (some ⟨b,off,none⟩) l.length kc,.int .i64 root] 24 (0,0)) by rw[hwo,BhaQ _ _ _ (zN HB.out.1)];exact HB.out.1)
    have HWO:=hH (HB.out.2.trans (HWB.out.mono HB.out.2.size))
    obtain⟨kb,hkb⟩:∃kb,kb=w1.heap.size:=⟨_,rfl⟩
    rw[←hkb] at HWK
    rw[←hkb]
    clear hwo hkb
    go_loopw [6] (fun j wr=>zha wo l k x.name.data.toList j wr) (fun j _=>k - (intOf j).toNat)
    case atStart=>exact⟨0,NzlQ _,rfl,BrQ _ _,rfl⟩
    case round =>
     obtain⟨m,hm,rfl,hbel1,hfr⟩:=hrel
     have HB1:=hH hbel1
     have HFR:=hH hfr
     have HB2:=hH (HWO.out.trans (hbel1.mono HWO.out.size))
     have q0:wr.cell? ⟨kb,0,none⟩=some (.string x.name):=by rw[corQ wr _ 0 _ _ _ ((hbel1.block _ (zN HWK.out)).trans HWK.out)];rfl
     have q2:wr.cell? ⟨kb,2,none⟩=some (.slice sa x.slots.length sc):=by rw[corQ wr _ 2 _ _ _ ((hbel1.block _ (zN HWK.out)).trans HWK.out)];rfl
     by_cases hlt1:m<k
     · obtain⟨y,hy⟩:∃y,l[m]? =some y:=⟨l[m]'om,List.getElem?_eq_getElem _⟩
       have r0:wr.cell? ⟨w.heap.size,0,none⟩=some (.slice (some ⟨b,off,none⟩) l.length kc):=by rw[corQ wr _ 0 _ _ _ ((hbel1.block _ (zN HWG.out)).trans HWG.out)];rfl
       obtain⟨b',off',he,hblt',hc'⟩:=(HK.out.below HB2.out) om
       cases he
       obtain⟨sa',sc',c0,_,_,_⟩:=hc' m y hy
       have HYY:=hH hy
       have hm2:(m:Int)<(k:Int):=by omega
       have hm3:(m:Int)<(l.length:Int):=by omega
       clear hy hc' hbel1 hfr q2
       by_cases hn:y.name.toList=x.name.toList
       · have HNN:=hH (show y.name.data.toList=x.name.data.toList by rw[←ByteArray.toList_eq,←ByteArray.toList_eq,hn])
         go_wp2_with fail
         go_quiet (fail)
         go_wp2_with fail
         go_ret
         exact y8.mk (vY (zhz om HX.out HYY.out HNN.out)) (below_drewN HB2.out _)
       · have hn2:(y.name.toList == x.name.toList)=false:=by simpa using hn
         have HNN:=hH (show y.name.data.toList≠x.name.data.toList by rw[←ByteArray.toList_eq,←ByteArray.toList_eq];exact hn)
         go_wp2_with fail
         go_quiet (fail)
         go_wp2_with fail
         exact⟨⟨m+1,by omega,by go_num,below_drewN HB1.out _,by rw[YR HYY.out,HFR.out,decide_eq_true HNN.out];rfl⟩,by simp[intOf];omega⟩
     · have HFF :=hH (show fresh (l.take k) x.name.data.toList=true by obtain rfl:m=k:=om;exact HFR.out)
       have hm2:¬(m:Int)<(k:Int):=by omega
       clear hbel1 hfr q0 q2 HFR
       go_wp2_with fail
       obtain⟨w3,rfl⟩:∃w3,w3=wr:=⟨_,rfl⟩
       go_loopw [7] (fun j wr=>zhb w3 x.slots l.length j wr) (fun j _=>x.slots.length - (intOf j).toNat)
       case atStart=>exact⟨0,NzlQ _,rfl,BrQ _ _,rfl⟩
       case round=>
        obtain⟨j,hj,rfl,hbel2,hall2⟩:=hrel
        have HA2:=hH hall2
        have HB3:=hH (HB2.out.trans (hbel2.mono HB2.out.size))
        have HB4:=hH hbel2
        have hbk:=(hbel2.block _ (zN ((HB1.out.block _ (zN HWK.out)).trans HWK.out))).trans ((HB1.out.block _ (zN HWK.out)).trans HWK.out)
        have q2:wr.cell? ⟨kb,2,none⟩=some (.slice sa x.slots.length sc):=by rw[corQ wr _ 2 _ _ _ hbk];rfl
        by_cases hlt2:j<x.slots.length
        · obtain⟨s,hsx⟩:∃s,x.slots[j]? =some s:=⟨x.slots[j],List.getElem?_eq_getElem hlt2⟩
          have hfs:s.kinds.length≤1000000:=HFX.out s (List.mem_of_getElem? hsx)
          have hs' :vI wr sa x.slots:=(HS.out.below ((HWB.out.trans (HB1.out.mono HWB.out.size)).trans (hbel2.mono (HWB.out.trans (HB1.out.mono HWB.out.size)).size)))
          obtain⟨b2,off2,rfl,hblt2,hc2⟩:=hs' om
          obtain⟨ka2,kc2,d0,d1,d2,hi⟩:=hc2 j s hsx
          have HI:=hH hi
          have HSX:=hH hsx
          have hj2:(j:Int)<(x.slots.length:Int):=by omega
          obtain⟨bb,hbb⟩:∃bb,rising (l.length:Int) s.kinds=bb:=⟨_,rfl⟩
          have HBB:=hH hbb
          clear hbel2 hall2 hbk hsx hc2 hi hbb
          cases bb
          · go_wp2_with (go_at_call 40;((with_reducible refine (kw _ _ _ _ _ om (HI.out.below (zg _ _)) hfs).mono ?_);rintro e w5 ⟨rfl,h2⟩;rw[HBB.out];have H2:=hH ((zg wr _).trans (h2.mono (zg wr _).size));clear h2))
            go_ret
            exact y8.mk (vY (j5 HX.out (Qi HSX.out (ze0 HBB.out)))) (HB3.out.trans (H2.out.mono HB3.out.size))
          · have hso:yM (l.length:Int) s=qO s:=zdU HBB.out
            have HSO:=hH hso
            have HNO:=hH (fun (h:¬(0<s.kinds.length∧0≤s.least∧s.least≤s.most∧s.most≤1000))=>hso.trans (Jv h))
            have hpos:0<s.kinds.length:=zfb HBB.out
            clear hso
            by_cases e1:s.least<0
            · go_wp2_with (go_at_call 40;((with_reducible refine (kw _ _ _ _ _ om (HI.out.below (zg _ _)) hfs).mono ?_);rintro e w5 ⟨rfl,h2⟩;rw[HBB.out];have H2:=hH ((zg wr _).trans (h2.mono (zg wr _).size));have q5:=yg h2 1 _ rfl;clear h2))
              exact sg5
            by_cases e2:s.most<s.least
            · go_wp2_with (go_at_call 40;((with_reducible refine (kw _ _ _ _ _ om (HI.out.below (zg _ _)) hfs).mono ?_);rintro e w5 ⟨rfl,h2⟩;rw[HBB.out];have H2:=hH ((zg wr _).trans (h2.mono (zg wr _).size));have q5:=yg h2 1 _ rfl;have q6:=yg h2 2 _ rfl;clear h2))
              exact sg5
            by_cases e3:1000<s.most
            · go_wp2_with (go_at_call 40;((with_reducible refine (kw _ _ _ _ _ om (HI.out.below (zg _ _)) hfs).mono ?_);rintro e w5 ⟨rfl,h2⟩;rw[HBB.out];have H2:=hH ((zg wr _).trans (h2.mono (zg wr _).size));have q5:=yg h2 1 _ rfl;have q6:=yg h2 2 _ rfl;clear h2))
              exact sg5
            have HOK:=hH (show yM (l.length:Int) s=true by rw[HSO.out,qO,decide_eq_true hpos,decide_eq_true (by omega:0≤s.least),decide_eq_true (by omega:s.least≤s.most),decide_eq_true (by omega:s.most≤1000)];rfl)
            have HSTEP:=hH (J8 HA2.out HSX.out)
            go_wp2_with (go_at_call 40;((with_reducible refine (kw _ _ _ _ _ om (HI.out.below (zg _ _)) hfs).mono ?_);rintro e w5 ⟨rfl,h2⟩;rw[HBB.out];have H2:=hH ((zg wr _).trans (h2.mono (zg wr _).size));have q5:=yg h2 1 _ rfl;have q6:=yg h2 2 _ rfl;clear h2))
            exact⟨⟨j+1,by omega,by go_num,HB4.out.trans (H2.out.mono HB4.out.size),by rw[HSTEP.out,HOK.out];rfl⟩,by simp[intOf];omega⟩
        · have HE:=hH (zb7 HA2.out om)
          have hj2:¬(j:Int)<(x.slots.length:Int):=by omega
          have hwg:=(HB4.out.block _ (zN ((HB1.out.block _ (zN HWG.out)).trans HWG.out))).trans ((HB1.out.block _ (zN HWG.out)).trans HWG.out)
          have HWW:=hH hwg
          clear hbel2 hall2 hbk hwg
          go_wp2_with fail
          exact⟨⟨k+1,by omega,by go_num,HWW.out,HB3.out,zhs HA.out.1 HX.out (zcu om om om HE.out),by rw[YM HX.out,HA.out.2,HFF.out];rfl⟩,by simp[intOf];omega⟩
  · have hkl2:¬(k:Int)<(l.length:Int):=by omega
    have HE:=hH (show l.all (kindOk l.length)=true∧apart l=true by rw[List.take_of_length_le om] at hall hap;exact⟨hall,hap⟩)
    clear hb hbel hall hap
    go_wp2_with fail
    go_ret
    exact y8.mk (qX (by rw[HY.out,HE.out.1,HE.out.2];rfl)) HB.out.2
end Go.Proofs.YtgkmmnihaiopaaaGreat
