/-
  .
-/
import Derived.Deep.Cut
import Derived.Deep.CutRange
import Derived.Deep.LoopGhost
import Derived.Deep.AppendLies
import Derived.Test.YtgkmmnihaiopaaaGreatRParPQu
import Derived.Test.YtgkmmnihaiopaaaGreatKPlacePQu
import Derived.Test.YtgkmmnihaiopaaaGreatAllWQu
import Derived.Deep.RegionHeld
import Derived.Test.YtgkmmnihaiopaaaGreatJIdsQu
import Derived.Test.YtgkmmnihaiopaaaGreatECopyWQu
import Derived.Laws.MakeOwn
import Derived.Test.YtgkmmnihaiopaaaGreatEDownQu
import Derived.Test.YtgkmmnihaiopaaaGreatGGreatQu
import Derived.Test.YtgkmmnihaiopaaaGreatJPgQu
set_option maxRecDepth 100000
set_option maxHeartbeats 40000000
set_option linter.unusedVariables false
set_option linter.unusedSimpArgs false
namespace Go.Proofs.YtgkmmnihaiopaaaGreat
open Go.RowKit Go.Shelf
def zjw (w:World) (e:Ending) (w' :World):Prop:=e= .returned (.bool true)∧Below w.heap.size w w'
theorem Row.at {w X:World} {a:Option Addr} {vs:List SV} (h:Row w a vs) (hb:Below w.heap.size w X) {k:Nat} {x:SV} (hx:vs[k]? =some x):∃b off,a=some ⟨b,off,none⟩∧X.cell? ⟨b,off+k*9,none⟩=some (.int .i8 x.s.op)∧X.cell? ⟨b,off+k*9+1,none⟩=some (.int .i64 x.s.id)∧X.cell? ⟨b,off+k*9+2,none⟩=some (.int .i64 x.s.par)∧X.cell? ⟨b,off+k*9+3,none⟩=some (.int .i64 x.s.at_)∧X.cell? ⟨b,off+k*9+4,none⟩=some (.string x.s.tx)∧X.cell? ⟨b,off+k*9+5,none⟩=some (.int .i64 x.s.sub.id)∧X.cell? ⟨b,off+k*9+6,none⟩=some (.int .i64 x.s.sub.kind)∧X.cell? ⟨b,off+k*9+7,none⟩=some (.string x.s.sub.text)∧X.cell? ⟨b,off+k*9+8,none⟩=some (.slice x.a (foLen x.s.sub.kids) x.c):=by
 obtain⟨b,off,e,hbl,hc⟩:=h.cells k x hx
 have hg:=fun j u hj=>(World.cell?_of_block (a:=⟨b,off+k*9+j,none⟩) (hb.block b hbl)).trans (hc j u hj)
 exact⟨b,off,e,hg 0 _ rfl,hg 1 _ rfl,hg 2 _ rfl,hg 3 _ rfl,hg 4 _ rfl,hg 5 _ rfl,hg 6 _ rfl,hg 7 _ rfl,hg 8 _ rfl⟩
def qf:List Sf→Nat
 | []=>0
 | s::l=>min (jH s) 201+qf l
theorem QN:∀(l:List Sf) (s:Sf),qf (l++[s])=qf l+min (jH s) 201
 | [],s=>by simp[qf]
 | t::l,s=>by rw[List.cons_append,qf,qf,QN l s];omega
theorem zaV:∀l:List Sf,qf l≤201*l.length
 | []=>Nat.zero_le _
 | t::l=>by have:=zaV l;rw[qf,List.length_cons];omega
theorem Yn:∀l:List Sf,qf l≤200↔yK l≤200
 | []=>by simp[qf,yK]
 | t :: l =>by
   have h:∀l:List Sf,qf l≤yK l:=fun l=>by
    induction l with
    | nil=>exact Nat.le_refl _
    | cons a l ih=>rw[qf,yK];omega
   have h1:=h l
   have h2:=Yn l
   rw[qf,yK]
   constructor
   · intro h3
     have:=h2.1 om
     by_cases h4:jH t≤200
     · have e:min (jH t) 201=jH t:=by omega
       rw[e] at h3
       have h5:∀l:List Sf,qf l≤200→qf l=yK l:=fun l=>by
        induction l with
        | nil=>intro _;rfl
        | cons a l ih=>intro hh;rw[qf] at hh ⊢;rw[yK,←ih om];omega
       rw[h5 l om] at h3;exact h3
     · omega
   · intro h3;omega
theorem zgK {l:List Sf} (h:l.length≤60):jZ l=if qf l≤200 then 0 else 3:=by
 unfold jZ
 by_cases h1:qf l≤200
 · rw[if_pos h1,if_pos ((jA l).2 ⟨h,(Yn l).1 h1⟩)]
 · rw[if_neg h1,if_neg fun h2=>h1 ((Yn l).2 ((jA l).1 h2).2)]
def zjf (l:List Sf) (w:World) (e:Ending) (w' :World):Prop:=e= .returned (.int .i64 (jZ l))∧Below w.heap.size w w'
theorem zbV (w:World) (la:Option Addr) (n c:Nat) (vs:List SV) (hn:n=vs.length) (h:Row w la vs):
 Calls Tryz.prog 36 #[.slice la n c] w (zjf (steps vs) w):=by
 have hn1:n≤1000000:=by have:=h.len;omega
 have H:=hH (aN h hn)
 clear h hn
 by_cases h60:60<n
 · have HV:=hH (show jZ (steps vs)=3 by
    unfold jZ
    rw[if_neg]
    intro h2
    have:=((jA _).1 h2).1
    rw[qM,←H.out.2] at this
    omega)
   have h60i:(60:Int)<(n:Int):=by omega
   clear h60
   go_enter Tryz.func36,Tryz.ntmps36
   go_wp2_with fail
   go_ret
   exact⟨by rw[HV.out];rfl,BrQ _ _⟩
 have h60i:¬(60:Int)<(n:Int):=by omega
 have HN60:=hH (show n≤60 by omega)
 clear h60
 go_enter Tryz.func36,Tryz.ntmps36
 go_wp2_with fail
 clear h60i
 go_loopw [3,4] (fun sv i wr=>∃(k s:Nat),k≤n∧i= .int .i64 (k:Int)∧sv= .int .i64 (s:Int)∧s≤12060∧Hid (s=qf ((steps vs).take k)∧Below w.heap.size w wr)) (fun _ i _=>n - (intOf i).toNat)
 case atStart=>exact⟨0,0,Nat.zero_le _,rfl,rfl,Nat.zero_le _,hH ⟨rfl,BrQ _ _⟩⟩
 case round=>
  obtain⟨k,s,hk,rfl,rfl,hs,hh⟩:=hrel
  obtain⟨wo,hwo⟩:∃wo,wo=wr:=⟨_,rfl⟩
  subst hwo
  by_cases hlt:k<n
  · obtain⟨x,hx⟩:∃x,vs[k]? =some x:=⟨_,List.getElem?_eq_getElem (by rw[←H.out.2];exact hlt)⟩
    obtain⟨b,off,rfl,c0,c1,c2,c3,c4,c5,c6,c7,c8⟩:=H.out.1.at hh.out.2 hx
    have hlx:=H.out.1.lies x (List.mem_of_getElem? hx)
    have hfx:=(H.out.1.fit x (List.mem_of_getElem? hx)).size
    have hsx:=Qf hx
    unfold Zx at hlx
    obtain⟨t,xa,xc⟩:=x
    simp only at hlx hfx hsx c0 c1 c2 c3 c4 c5 c6 c7 c8
    obtain⟨xn,hxn⟩:∃xn,xn=foLen t.sub.kids:=⟨_,rfl⟩
    have HWK:Hid (Calls Tryz.prog 18 #[.agg #[.int .i64 t.sub.id,.int .i64 t.sub.kind,.string t.sub.text,.slice xa xn xc],.int .i64 201] wo (WalkM wo (fun q=>q<w.heap.size) t.sub 201)):=hH (by
     rw[hxn]
     exact kT 201 om wo _ _ t.sub (by have:=zK t.sub.kids;omega) (Qr _ om) (fun y hy=>nL hy hh.out.2.size) (hlx.at hh.out.2))
    rw[←hxn] at c8
    have hst:qf ((steps vs).take (k+1))=s+min (jH t) 201:=by rw[List.take_add_one,hsx,Option.toList_some,QN,←hh.out.1]
    have hcl:qf ((steps vs).take (k+1))≤12060:=by
     have h1:=zaV ((steps vs).take (k+1))
     have h2:((steps vs).take (k+1)).length≤60:=by rw[List.length_take];have:=HN60.out;omega
     omega
    have HST:=hH (aN hst hcl)
    have HKN:=hH (aN hk hlt)
    have HB:=hH hh.out.2
    have hkl:(k:Int)<(n:Int):=by omega
    obtain⟨op,hop⟩:∃op,op=t.op:=⟨_,rfl⟩
    rw[←hop] at c0
    have HOP:=hH hop
    have HSZ:=hH (show jH t=if op=1 then zg t.sub.kids+1 else 0 by rw[hop];rfl)
    clear hx hlx hfx hsx hxn hst hcl hk hlt hh hop
    by_cases h1:op=1
    · have hb1:(op == 1)=true:=by simpa using h1
      have HS1:=hH (show jH t=zg t.sub.kids+1 by rw[HSZ.out,if_pos h1])
      clear h1 HSZ
      go_wp2_with fail
      refine HWK.out.mono ?_
      rintro e w3 ⟨ya,yc,rfl,_,hb3⟩
      have HB3:=hH (HB.out.trans (hb3.mono HB.out.size))
      obtain⟨ln,hln⟩:∃ln,ln=((spF 1 (zl t.sub)).take 201).length:=⟨_,rfl⟩
      rw[←hln]
      have hn2:ln=min (jH t) 201:=by rw[hln,List.length_take,yE,zL,HS1.out];omega
      have hn3:ln≤201:=by omega
      have HLN:=hH hn2
      clear hln hb3 hn2 c0 c1 c2 c3 c4 c5 c6 c7 c8 hb1
      have hpw:IntKind.i64.wrap ((s:Int)+(ln:Int))=(s:Int)+(ln:Int):=IntWalk.i64_in _ om
      go_wp2_with fail
      exact⟨⟨k+1,s+ln,by have:=HKN.out.2;omega,by go_num,by push_cast;rfl,by have h:=HST.out;rw[HLN.out];omega,hH ⟨by rw[HST.out.1,HLN.out],HB3.out⟩⟩,by have:=HKN.out.2;simp[intOf];omega⟩
    · have hb1:(op == 1)=false:=by simpa using h1
      have HS1:=hH (show jH t=0 by rw[HSZ.out,if_neg h1])
      clear h1 HSZ HWK
      go_wp2_with fail
      exact⟨⟨k+1,s,by have:=HKN.out.2;omega,by go_num,rfl,hs,hH ⟨by rw[HST.out.1,HS1.out];simp,HB.out⟩⟩,by have:=HKN.out.2;simp[intOf];omega⟩
  · have hkl:¬(k:Int)<(n:Int):=by omega
    have HB:=hH hh.out.2
    have HV:=hH (show jZ (steps vs)=if s≤200 then 0 else 3 by
     rw[zgK (by rw[qM,←H.out.2];exact HN60.out)]
     have h1:=hh.out.1
     rw[List.take_of_length_le (by rw[qM,←H.out.2];omega)] at h1
     rw[h1])
    clear hh hk hlt
    by_cases h2:200<s
    · have h2i:(200:Int)<(s:Int):=by omega
      have HW:=hH (show jZ (steps vs)=3 by rw[HV.out,if_neg om])
      clear h2 HV
      go_wp2_with fail
      go_ret
      exact⟨by rw[HW.out];rfl,HB.out⟩
    · have h2i:¬(200:Int)<(s:Int):=by omega
      have HW:=hH (show jZ (steps vs)=0 by rw[HV.out,if_pos om])
      clear h2 HV
      go_wp2_with fail
      go_ret
      exact⟨by rw[HW.out];rfl,HB.out⟩
theorem vJ {P:Program} {fn:Func} {p u v:Tmp} {ty:TypeId} (h:fn.results= #[.cell p ty,.tmp u,.tmp v]) (tmps:Array Value) (w:World) (g:Nat) (t:TypeId) (cs:Array Value) (fr:Nat×Nat) (d:TypeDesc) (x y:Value)
 (hp:tmps.getD p undef= .pointer (some ⟨g,0,none⟩)) (hg:w.heap[g]? =some (.cells cs t fr)) (hu:P.underlying ty=some d) (hd:(match d with | .struct _ | .array _ _=>true | _=>false)=true) (hi:(P.info? ty).map (·.size)=some cs.size) (hp2:tmps.getD u undef=x) (hp3:tmps.getD v undef=y):
 (results fn tmps).run P w= .ok (.tuple #[.agg cs,x,y]) w:=by
 have hp' :tmps[p]?.getD undef= .pointer (some ⟨g,0,none⟩):=by simpa using hp
 have hp2' :tmps[u]?.getD undef=x:=by simpa using hp2
 have hp3' :tmps[v]?.getD undef=y:=by simpa using hp3
 simp[results,h,hp',hp2',hp3',asAddr,run_loadVar_row w g t ty cs fr d hg hu hd hi]
end Go.Proofs.YtgkmmnihaiopaaaGreat
namespace Go.Proofs.YtgkmmnihaiopaaaGreat
open Go.RowKit
structure zdy (s:Sf):Prop where
 op:(Lit.int .i8 s.op).wf=true
 len:foLen s.sub.kids≤9223372036854775807
 fit:qD s.sub.kids
 ok:okF (spF 1 (zl s.sub))
 tx:(s.tx.size:Int)≤9223372036854775807
structure zbl (w:World) (a:Option Addr) (vs:List SV):Prop where
 cells:ze0 w (fun q=>q<w.heap.size) a vs
 lies:∀x∈vs,Zx w x
 inn:∀x∈vs,zdy x.s
theorem zbl.on {w X:World} {a:Option Addr} {vs:List SV} (h:zbl w a vs) (hb:Below w.heap.size w X):zbl X a vs:=
 ⟨h.cells.kept fun y hy=>⟨nL hy hb.size,hb.block y hy⟩,fun x hx=>jC.on (h.lies x hx) hb,h.inn⟩
def zdx (vs:List SV):Prop:=vs.length≤70∧∀x∈vs,zg x.s.sub.kids+1≤250
theorem zbl.row {w:World} {a:Option Addr} {vs:List SV} (h:zbl w a vs) (hs:zdx vs):Row w a vs:=
 ⟨h.cells,h.lies,fun x hx=>⟨(h.inn x hx).op,hs.2 x hx,(h.inn x hx).ok,(h.inn x hx).tx⟩,by have:=hs.1;omega⟩
def zhN (w:World) (vs:List SV) (e:Ending) (w' :World):Prop:=∃b,e= .returned (.bool b)∧(b=false→zdx vs)∧Below w.heap.size w w'
theorem zcD (w : World) (la:Option Addr) (n c:Nat) (vs:List SV) (hn:n=vs.length) (h:zbl w la vs):
 Calls Tryz.prog 7 #[.slice la n c] w (zhN w vs):=by
 have HR:=hH h
 have HN:=hH hn
 clear h hn
 go_enter Tryz.func7,Tryz.ntmps7
 by_cases h70:70<n
 · have h70i:(70:Int)<(n:Int):=by omega
   go_wp2_with fail
   go_ret
   exact⟨true,rfl,(fun h=>by cases h),BrQ _ _⟩
 · have h70i : ¬ (70:Int)<(n:Int):=by omega
   go_wp2_with fail
   go_loopg [3,4,11] n (fun gk n1 n2 i wr=>∃(k:Nat) (p q:Int),gk+k=n∧i= .int .i64 (k:Int)∧n1= .int .i64 p∧n2= .int .i64 q∧0≤p∧p≤300∧0≤q∧q≤20000∧Hid (Below w.heap.size w wr∧∀j x,j<k→vs[j]? =some x→zg x.s.sub.kids+1≤250))
   case atStart=>exact⟨0,0,0,by omega,rfl,rfl,rfl,by omega,by omega,by omega,by omega,hH ⟨BrQ _ _,fun j x h=>by omega⟩⟩
   case round =>
    obtain⟨k,p,q,hk,rfl,rfl,rfl,hp0,hp1,hq0,hq1,hh⟩:=hrel
    obtain⟨wo,hwo⟩:∃wo,wo=wr:=⟨_,rfl⟩
    subst hwo
    by_cases hkn:k<n
    · have hki : (k:Int)<(n:Int):=by omega
      obtain⟨x,hx⟩:∃x,vs[k]? =some x:=⟨_,List.getElem?_eq_getElem (by rw[←HN.out];exact hkn)⟩
      have hxm:=List.mem_of_getElem? hx
      obtain⟨b,off,rfl,hbl,hcs⟩:=HR.out.cells k x hx
      obtain⟨sn,hsn⟩:∃sn,sn=foLen x.s.sub.kids:=⟨_,rfl⟩
      have hce:∀X,Below w.heap.size w X→X.cell? ⟨b,off+k*9+4,none⟩=some (.string x.s.tx)∧X.cell? ⟨b,off+k*9+5,none⟩=some (.int .i64 x.s.sub.id)∧X.cell? ⟨b,off+k*9+6,none⟩=some (.int .i64 x.s.sub.kind)∧X.cell? ⟨b,off+k*9+7,none⟩=some (.string x.s.sub.text)∧X.cell? ⟨b,off+k*9+8,none⟩=some (.slice x.a sn x.c):=fun X hX=>by
       have h:=fun j u hj=>(World.cell?_of_block (a:=⟨b,off+k*9+j,none⟩) (hX.block b hbl)).trans (hcs j u hj)
       rw[hsn]
       exact⟨h 4 _ rfl,h 5 _ rfl,h 6 _ rfl,h 7 _ rfl,h 8 _ rfl⟩
      have hin:=HR.out.inn x hxm
      have htr:∀X,Below w.heap.size w X→zJ X (fun y=>y<w.heap.size) (.agg #[.int .i64 x.s.sub.id,.int .i64 x.s.sub.kind,.string x.s.sub.text,.slice x.a sn x.c]) x.s.sub:=fun X hX=>by rw[hsn];exact (HR.out.lies x hxm).at hX
      have hgr:∀X,Below w.heap.size w X→Calls Tryz.prog 6 #[.agg #[.int .i64 x.s.sub.id,.int .i64 x.s.sub.kind,.string x.s.sub.text,.slice x.a sn x.c]] X (zes X x.s.sub):=fun X hX=>J3 X _ _ x.s.sub hin.len hin.fit (fun y hy=>nL hy hX.size) (htr X hX)
      have hwk:∀X,Below w.heap.size w X→Calls Tryz.prog 18 #[.agg #[.int .i64 x.s.sub.id,.int .i64 x.s.sub.kind,.string x.s.sub.text,.slice x.a sn x.c],.int .i64 251] X (WalkM X (fun y=>y<w.heap.size) x.s.sub 251):=fun X hX=>kT 251 om X _ _ x.s.sub hin.len hin.fit (fun y hy=>nL hy hX.size) (htr X hX)
      have HG:=hH (aN hgr hwk)
      have HCE:=hH hce
      have HX:=hH hx
      have HHB:=hH hh.out.2
      have HBR:=hH hh.out.1
      have HKN:=hH (aN hk hkn)
      obtain⟨c4,c5,c6,c7,c8⟩:=hce wo hh.out.1
      have HGR:=hH (hgr wo hh.out.1)
      have htx:=hin.tx
      clear hgr hwk hce hx hh hk hxm hcs hin htr hsn hbl
      go_wp2_with fail
      refine HGR.out.mono ?_
      rintro e w1 ⟨bg,rfl,hbg,hb1⟩
      have HB1:=hH (HBR.out.trans (hb1.mono HBR.out.size))
      have HBG:=hH hbg
      clear c4 c5 c6 c7 c8 hb1 hbg HGR
      obtain⟨c4,c5,c6,c7,c8⟩:=HCE.out w1 HB1.out
      have hqw:IntKind.i64.wrap (20000 - q)=20000 - q:=IntWalk.i64_in _ om
      cases bg
      · have HSZ :=hH (HBG.out rfl)
        have HWK:=hH (HG.out.2 w1 HB1.out)
        obtain⟨tz,htz⟩:∃tz:Nat,tz=x.s.tx.size:=⟨_,rfl⟩
        by_cases hbig:(20000 - q)<(x.s.tx.size:Int)
        · go_wp2_with fail
          go_ret
          exact⟨true,rfl,(fun e=>by cases e),HB1.out⟩
        · have hqw2:IntKind.i64.wrap (q+(x.s.tx.size:Int))=q+(x.s.tx.size:Int):=IntWalk.i64_in _ om
          have HQ2:=hH (show 0≤q+(x.s.tx.size:Int)∧q+(x.s.tx.size:Int)≤20000 by omega)
          clear htz
          go_wp2_with fail
          refine HWK.out.mono ?_
          rintro e w3 ⟨ya,yc,rfl,_,hb3⟩
          have HB3:=hH (HB1.out.trans (hb3.mono HB1.out.size))
          obtain⟨ln,hln⟩:∃ln,ln=((spF 1 (zl x.s.sub)).take 251).length:=⟨_,rfl⟩
          rw[←hln]
          have hn2:ln≤251:=by rw[hln,List.length_take];omega
          clear hln hb3 c4 c5 c6 c7 c8 hbig hqw2 hqw
          have hpw:IntKind.i64.wrap (p+(ln:Int))=p+(ln:Int):=IntWalk.i64_in _ om
          have HP2:=hH (show 0≤p+(ln:Int) by omega)
          by_cases h300:(300:Int)<p+(ln:Int)
          · go_wp2_with fail
            go_ret
            exact⟨true,rfl,(fun e=>by cases e),HB3.out⟩
          · have HP3:=hH h300
            go_wp2_with fail
            go_roundg (gk - 1)
            case measure=>have:=HKN.out;omega
            case rel=>exact⟨k+1,p+(ln:Int),q+(x.s.tx.size:Int),by have:=HKN.out;omega,by go_num,rfl,rfl,HP2.out,by have:=HP3.out;omega,HQ2.out.1,HQ2.out.2,hH ⟨HB3.out,fun j y hj hy=>by
             rcases Nat.lt_or_ge j k with h | h
             · exact HHB.out j y h hy
             · have:j=k:=by omega
               subst this
               rw[HX.out] at hy;cases hy;exact HSZ.out⟩⟩
      · go_wp2_with fail
        go_ret
        exact⟨true,rfl,(fun e=>by cases e),HB1.out⟩
    · have hki:¬(k:Int)<(n:Int):=by omega
      have HE:=hH (show zdx vs from⟨by rw[←HN.out];omega,fun x hx=>by
       obtain⟨j,hj,e⟩:=List.mem_iff_getElem.1 hx
       exact hh.out.2 j x (by have:=HN.out;omega) (by rw[List.getElem?_eq_getElem hj,e])⟩)
      have HB:=hH hh.out.1
      clear hh hk hkn
      go_wp2_with fail
      go_ret
      exact⟨false,rfl,fun _=>HE.out,HB.out⟩
end Go.Proofs.YtgkmmnihaiopaaaGreat
namespace Go.Proofs.YtgkmmnihaiopaaaGreat
open Go.RowKit Go.Shelf
theorem zdR {g:Gr} (h:ZI g=false):g.few∧g.kinds.length≤40:=by
 simp only[ZI,Bool.or_eq_false_iff,decide_eq_false_iff_not,List.any_eq_false] at h
 refine⟨⟨by omega,fun k hk=>?_⟩,by omega⟩
 have h1:=h.2 k hk
 simp only[Zb,Bool.or_eq_true,decide_eq_true_eq,List.any_eq_true,not_or,not_exists,not_and] at h1
 refine⟨by omega,by omega,fun s hs=>?_⟩
 have h2:=h1.2 s hs
 simp only[Yw,decide_eq_true_eq] at h2
 show s.kinds.length≤1000000
 omega
end Go.Proofs.YtgkmmnihaiopaaaGreat
