/-
  .
-/
import Derived.Test.YtoidedomenkbpaaGreatJCheckQr
import Derived.Test.YtoidedomenkbpaaGreatWRStepQr
set_option maxRecDepth 100000
set_option maxHeartbeats 40000000
set_option linter.unusedVariables false
set_option linter.unusedSimpArgs false
namespace Go.Proofs.YtoidedomenkbpaaGreat
open Go.RowKit Go.Shelf
structure Row (w:World) (a:Option Addr) (vs:List SV):Prop where
 cells:zdv w (fun q=>q<w.heap.size) a vs
 lies:∀x∈vs,kI w x
 fit:∀x∈vs,Qc x.s
 len:vs.length≤1000000
theorem Row.on {w X:World}{a:Option Addr}{vs:List SV}(h:Row w a vs)(hb:Below w.heap.size w X):Row X a vs:=
 ⟨h.cells.kept fun y hy=>⟨nL hy hb.size,hb.block y hy⟩,fun x hx=>jo.on (h.lies x hx) hb,h.fit,h.len⟩
structure RowsIn (X:World) (NB R:Nat) (rs:List RH):Prop where
 box:X.heap[NB]? =some (.cells #[.slice (some ⟨R,0,none⟩) rs.length rs.length] 133 (0,0))
 head:X.heap[R]? =some (.cells (rs.map RH.v).toArray 22 (0,0))
 rows:∀r∈rs,Row X r.a r.vs
 few:rs.length≤2
theorem RowsIn.j {X:World}{NB R:Nat}{rs:List RH}(h:RowsIn X NB R rs):Ya X NB R rs (fun q=>q<X.heap.size):=
 ⟨h.box,h.head,lohQ h.box,lohQ h.head,fun _ hy=>hy,fun i r hr=>(h.rows r (List.mem_of_getElem? hr)).cells⟩
theorem zbj:∀{rs:List RH} {x:SV},x∈flat rs→∃r∈rs,x∈r.vs
 | [],x,h=>by simp[flat] at h
 | r ::rs,x,h=>by
   rw[flat,List.mem_append] at h
   rcases h with h | h
   · exact⟨r,List.mem_cons_self ..,h⟩
   · obtain⟨q,h1,h2⟩:=zbj h
     exact⟨q,List.mem_cons_of_mem _ h1,h2⟩
theorem ze7 {X:World}{NB R:Nat}{rs:List RH}(h:RowsIn X NB R rs):(flat rs).length≤2000000:=by
 obtain⟨_,_,h3,h4⟩:=h
 match rs,h3,h4 with
 | [],_,_=>simp[flat]
 | [r],h3,_=>have:=(h3 r sp1).len;simp[flat];omega
 | [r,q],h3,_=>have:=(h3 r sp1).len;have:=(h3 q sp1).len;simp[flat];omega
 | _::_::_::_,_,h4=>simp at h4
theorem RowsIn.lies {X:World}{NB R:Nat}{rs:List RH}(h:RowsIn X NB R rs){x:SV}(hx:x∈flat rs):kI X x∧Qc x.s:=by
 obtain⟨r,h1,h2⟩:=zbj hx
 exact⟨(h.rows r h1).lies x h2,(h.rows r h1).fit x h2⟩
theorem jY {l:List Sf}{k:Nat}{s:Sf}(h:l[k]? =some s):yN (l.take (k+1))=yN (l.take k)+jD s:=by
 rw[List.take_add_one,h,jP]
 simp[yN]
theorem QG (l:List Sf)(k:Nat):yN (l.take k)≤yN l:=by
 conv=>rhs;rw[←List.take_append_drop k l,jP]
 omega
def steps (vs:List SV):List Sf:=vs.map SV.s
theorem kg {vs:List SV}{k:Nat}{x:SV}(h:vs[k]? =some x):(steps vs)[k]? =some x.s:=by rw[steps,List.getElem?_map,h];rfl
theorem qo (vs:List SV):(steps vs).length=vs.length:=by simp[steps]
def jB (l:List Sf):Int:=if zbm l=true then 0 else 3
def zif (X:World)(l:List Sf)(k:Nat)(v:RV)(V:World):Prop:=Below X.heap.size X V∧v.i=60 - (k:Int)∧v.k=200 - (yN (l.take k):Int)∧k≤60∧yN (l.take k)≤200
def zih (X:World)(l:List Sf)(k:Nat)(v:RV)(n:Int)(V:World):Prop:=Below X.heap.size X V∧n=3∧zbm l=false
theorem zdH {X:World}{NB R:Nat}{rs:List RH}(h:RowsIn X NB R rs):DoQ Tryz.prog 94 #[] X.heap.size (fun q=>q<X.heap.size) (flat rs) (zif X (steps (flat rs))) (zih X (steps (flat rs))):=by
 refine⟨enters_of Tryz.func94 kr1 rfl,?_,?_,?_⟩
 · rintro k v V V' ⟨h1,h2⟩ ht
   exact sg4
 · rintro k v n V V' ⟨h1,h2⟩ ht
   exact sg4
 · rintro k x v W hx hW ⟨hb,hi,hk,hk60,hs⟩
   obtain⟨hl,hf⟩:=h.lies (List.mem_of_getElem? hx)
   have hxs:=kg hx
   rw[Array.append_empty]
   refine (zce W X x v.i v.k hl hb hf om om).mono ?_
   rintro e W' ⟨p',q',m,rfl,hb2,hc⟩
   refine⟨⟨p',q'⟩,m,rfl,hb2.size,fun q hq=>hb2.block q (by rcases hq with hq | hq;have:=hb.size;omega;omega),fun hm=>?_,fun hm=>?_⟩
   · rcases hc with ⟨_,rfl,rfl,h1,h2⟩ | ⟨h1,_⟩
     · have hq:=jY hxs
       exact⟨hb.trans (hb2.mono hb.size),by show v.i - 1=_;omega,by show v.k - _=_;rw[hq];omega,by omega,by rw[hq];omega⟩
     · omega
   · rcases hc with ⟨h1,_⟩ | ⟨rfl,h1⟩
     · exact absurd h1 hm
     · refine⟨hb.trans (hb2.mono hb.size),rfl,?_⟩
       rw[Bool.eq_false_iff]
       intro ho
       rw[jm] at ho
       have hq:=jY hxs
       have h3:=QG (steps (flat rs)) (k+1)
       have h4:=(List.getElem?_eq_some_iff.1 hxs).1
       rcases h1 with h1 | h1<;>omega
theorem zeT (X:World)(NB R:Nat)(rs:List RH)(h:RowsIn X NB R rs):
 Calls Tryz.prog 39 #[.func (.func 96) #[] #[.pointer (some ⟨NB,0,none⟩)]] X fun e w'=>e= .returned (.int .i64 (jB (steps (flat rs))))∧Below X.heap.size X w':=by
 have hf:=zdN X NB R ⟨60,200⟩ (zdH h) h.j (by have:=h.few;omega) (fun r hr=>(h.rows r hr).len) (by have:=ze7 h;omega) ⟨BrQ _ _,by simp,by simp[yN],by omega,by simp[yN]⟩
 have hf2:Calls Tryz.prog 93 #[.agg #[.int .i64 60,.int .i64 200],.func (.func 96) #[] #[.pointer (some ⟨NB,0,none⟩)],.func (.func 94) #[] #[]] X fun e w'=>∃(p q k:Int),e= .returned (.tuple #[.agg #[.int .i64 p,.int .i64 q],.int .i64 k,.int .i64 (jB (steps (flat rs)))])∧Below X.heap.size X w':=hf.mono (by
  rintro e w' ⟨k,v,n,rfl,hh⟩
  rcases hh with ⟨rfl,rfl,h1⟩ | ⟨_,_,h1,h2,h3⟩
  · have ho:zbm (steps (flat rs))=true:=by
     rw[jm,qo]
     have:=h1.2.2.2.2
     rw[List.take_of_length_le (by rw[qo];exact NlrQ _)] at this
     exact⟨h1.2.2.2.1,this⟩
    exact⟨v.i,v.k,_,by rw[jB,ipQ ho];rfl,h1.1⟩
  · exact⟨v.i,v.k,_,by rw[jB,inQ (by rw[h3];exact Bool.false_ne_true),h2];rfl,h1⟩)
 obtain⟨c,hc⟩:∃c,c=jB (steps (flat rs)):=⟨_,rfl⟩
 rw[←hc] at hf2 ⊢
 have HF:=hH hf2
 clear hf hf2 hc h
 go_enter Tryz.func39,Tryz.ntmps39
 go_wp2_with fail
 refine HF.out.mono ?_
 rintro e w2 ⟨p,q,k,rfl,hb⟩
 have HB:=hH (hb.trans ((vC w2 (.cells #[.int .i64 p,.int .i64 q] 128)).mono hb.size))
 clear hb HF
 go_wp2_with fail
 go_ret
 exact⟨rfl,HB.out⟩
theorem zcE {X:World}{a:Option Addr}{c:Nat}{vs:List SV}{NB R:Nat}(h:Row X a vs)(h1:X.heap[NB]? =some (.cells #[.slice (some ⟨R,0,none⟩) 1 1] 133 (0,0)))(h2:X.heap[R]? =some (.cells #[.slice a vs.length c] 22 (0,0))):RowsIn X NB R [⟨a,c,vs⟩]:=
 ⟨h1,h2,fun r hr=>by rw[List.mem_singleton] at hr;subst hr;exact h,by simp⟩
theorem ze8 (a:Option Addr)(c:Nat)(vs:List SV):flat [⟨a,c,vs⟩]=vs:=by simp[flat]
theorem zdp (w:World)(a:Option Addr)(n c:Nat)(vs:List SV)(hn:n=vs.length)(h:Row w a vs):
 Calls Tryz.prog 88 #[.slice a n c] w fun e w'=>e= .returned (.int .i64 (jB (steps vs)))∧Below w.heap.size w w':=by
 obtain⟨X,hX⟩:∃X,X=zy w [.cells #[.slice a n c] 22,.cells #[.slice (some ⟨w.heap.size,0,none⟩) 1 1] 133]:=⟨_,rfl⟩
 have hb:Below w.heap.size w X:=by rw[hX];exact zu _ _
 have e0:X.heap[w.heap.size]? =some (.cells #[.slice a n c] 22 (0,0)):=by rw[hX];exact zi _ _ 0 _ rfl
 have e1:X.heap[w.heap.size+1]? =some (.cells #[.slice (some ⟨w.heap.size,0,none⟩) 1 1] 133 (0,0)):=by rw[hX];exact zi _ _ 1 _ rfl
 have hc:=zeT X (w.heap.size+1) w.heap.size _ (zcE (c:=c) (h.on hb) e1 (by rw[←hn];exact e0))
 rw[ze8] at hc
 have HC:=hH hc
 have HX:=hH hX
 have HB:=hH hb
 obtain⟨m,hm⟩:∃m,m=jB (steps vs):=⟨_,rfl⟩
 rw[←hm] at HC ⊢
 clear hc hX hb e0 e1 hm h hn
 go_enter Tryz.func88,Tryz.ntmps88
 go_wp2_with (go_at_call 40;refine (zdP _ _ _ _).mono ?_;rintro e w2 ⟨rfl,rfl⟩)
 change Calls _ _ _ (zy w [.cells #[.slice a n c] 22,.cells #[.slice (some ⟨w.heap.size,0,none⟩) 1 1] 133]) _
 rw[←HX.out]
 refine HC.out.mono ?_
 rintro e w3 ⟨rfl,hb3⟩
 have HB3:=hH (HB.out.trans (hb3.mono HB.out.size))
 clear hb3 HC HX
 go_wp2_with fail
 go_ret
 exact⟨rfl,HB3.out⟩
theorem Row.at {w X:World}{a:Option Addr}{vs:List SV}(h:Row w a vs)(hb:Below w.heap.size w X){k:Nat}{x:SV}(hx:vs[k]? =some x):∃b off,a=some ⟨b,off,none⟩∧X.cell? ⟨b,off+k*9,none⟩=some (.int .i8 x.s.op)∧X.cell? ⟨b,off+k*9+1,none⟩=some (.int .i64 x.s.id)∧X.cell? ⟨b,off+k*9+2,none⟩=some (.int .i64 x.s.par)∧X.cell? ⟨b,off+k*9+3,none⟩=some (.int .i64 x.s.at_)∧X.cell? ⟨b,off+k*9+4,none⟩=some (.string x.s.tx)∧X.cell? ⟨b,off+k*9+5,none⟩=some (.int .i64 x.s.sub.id)∧X.cell? ⟨b,off+k*9+6,none⟩=some (.int .i64 x.s.sub.kind)∧X.cell? ⟨b,off+k*9+7,none⟩=some (.string x.s.sub.text)∧X.cell? ⟨b,off+k*9+8,none⟩=some (.slice x.a (foLen x.s.sub.kids) x.c):=by
 obtain⟨b,off,e,hbl,hc⟩:=h.cells k x hx
 have hg:=fun j u hj=>(World.cell?_of_block (a:=⟨b,off+k*9+j,none⟩) (hb.block b hbl)).trans (hc j u hj)
 exact⟨b,off,e,hg 0 _ rfl,hg 1 _ rfl,hg 2 _ rfl,hg 3 _ rfl,hg 4 _ rfl,hg 5 _ rfl,hg 6 _ rfl,hg 7 _ rfl,hg 8 _ rfl⟩
def qf:List Sf→Nat
 | []=>0
 | s::l=>min (jD s) 201+qf l
theorem YJ:∀(l:List Sf) (s:Sf),qf (l++[s])=qf l+min (jD s) 201
 | [],s=>by simp[qf]
 | t::l,s=>by rw[List.cons_append,qf,qf,YJ l s];omega
theorem Js:∀l:List Sf,qf l≤201*l.length
 | []=>NzlQ _
 | t::l=>by have:=Js l;rw[qf,LlcQ];omega
theorem ZL:∀l:List Sf,qf l≤200↔yN l≤200
 | []=>by simp[qf,yN]
 | t :: l =>by
   have h:∀l:List Sf,qf l≤yN l:=fun l=>by
    induction l with
    | nil=>exact NlrQ _
    | cons a l ih=>rw[qf,yN];omega
   have h1:=h l
   have h2:=ZL l
   rw[qf,yN]
   constructor
   · intro h3
     have:=h2.1 om
     by_cases h4:jD t≤200
     · have e:min (jD t) 201=jD t:=by omega
       rw[e] at h3
       have h5:∀l:List Sf,qf l≤200→qf l=yN l:=fun l=>by
        induction l with
        | nil=>intro _;rfl
        | cons a l ih=>intro hh;rw[qf] at hh ⊢;rw[yN,←ih om];omega
       rw[h5 l om] at h3;exact h3
     · omega
   · intro h3;omega
theorem zeU {l:List Sf}(h:l.length≤60):jB l=if qf l≤200 then 0 else 3:=by
 unfold jB
 by_cases h1:qf l≤200
 · rw[ipQ h1,ipQ ((jm l).2 ⟨h,(ZL l).1 h1⟩)]
 · rw[inQ h1,inQ fun h2=>h1 ((ZL l).2 ((jm l).1 h2).2)]
def zhC (l:List Sf)(w:World)(e:Ending)(w' :World):Prop:=e= .returned (.int .i64 (jB l))∧Below w.heap.size w w'
theorem zah (w:World)(la:Option Addr)(n c:Nat)(vs:List SV)(hn:n=vs.length)(h:Row w la vs):
 Calls Tryz.prog 42 #[.slice la n c] w (zhC (steps vs) w):=by
 have hn1:n≤1000000:=by have:=h.len;omega
 have H:=hH (aN h hn)
 clear h hn
 by_cases h60:60<n
 · have HV:=hH (show jB (steps vs)=3 by
    unfold jB
    rw[inQ]
    intro h2
    have:=((jm _).1 h2).1
    rw[qo,←H.out.2] at this
    omega)
   have h60i:(60:Int)<(n:Int):=by omega
   clear h60
   go_enter Tryz.func42,Tryz.ntmps42
   go_wp2_with fail
   go_ret
   exact⟨by rw[HV.out];rfl,BrQ _ _⟩
 have h60i:¬(60:Int)<(n:Int):=by omega
 have HN60:=hH (show n≤60 by omega)
 clear h60
 go_enter Tryz.func42,Tryz.ntmps42
 go_wp2_with fail
 clear h60i
 go_loopw [3,4] (fun sv i wr=>∃(k s:Nat),k≤n∧i= .int .i64 (k:Int)∧sv= .int .i64 (s:Int)∧s≤12060∧Hid (s=qf ((steps vs).take k)∧Below w.heap.size w wr)) (fun _ i _=>n - (intOf i).toNat)
 case atStart=>exact⟨0,0,NzlQ _,rfl,rfl,NzlQ _,hH ⟨rfl,BrQ _ _⟩⟩
 case round=>
  obtain⟨k,s,hk,rfl,rfl,hs,hh⟩:=hrel
  obtain⟨wo,hwo⟩:∃wo,wo=wr:=⟨_,rfl⟩
  subst hwo
  by_cases hlt:k<n
  · obtain⟨x,hx⟩:∃x,vs[k]? =some x:=⟨_,List.getElem?_eq_getElem (by rw[←H.out.2];exact hlt)⟩
    obtain⟨b,off,rfl,c0,c1,c2,c3,c4,c5,c6,c7,c8⟩:=H.out.1.at hh.out.2 hx
    have hlx:=H.out.1.lies x (List.mem_of_getElem? hx)
    have hfx:=(H.out.1.fit x (List.mem_of_getElem? hx)).size
    have hsx:=kg hx
    unfold kI at hlx
    obtain⟨t,xa,xc⟩:=x
    simp only at hlx hfx hsx c0 c1 c2 c3 c4 c5 c6 c7 c8
    obtain⟨xn,hxn⟩:∃xn,xn=foLen t.sub.kids:=⟨_,rfl⟩
    have HWK:Hid (Calls Tryz.prog 36 #[.agg #[.int .i64 t.sub.id,.int .i64 t.sub.kind,.string t.sub.text,.slice xa xn xc],.int .i64 201] wo (WalkM wo (fun q=>q<w.heap.size) t.sub 201)):=hH (by
     rw[hxn]
     exact zew 201 om wo _ _ t.sub (by have:=yV t.sub.kids;omega) (Yw _ om) (fun y hy=>nL hy hh.out.2.size) (hlx.at hh.out.2))
    rw[←hxn] at c8
    have hst:qf ((steps vs).take (k+1))=s+min (jD t) 201:=by rw[List.take_add_one,hsx,Option.toList_some,YJ,←hh.out.1]
    have hcl:qf ((steps vs).take (k+1))≤12060:=by
     have h1:=Js ((steps vs).take (k+1))
     have h2:((steps vs).take (k+1)).length≤60:=by rw[List.length_take];have:=HN60.out;omega
     omega
    have HST:=hH (aN hst hcl)
    have HKN:=hH (aN hk hlt)
    have HB:=hH hh.out.2
    have hkl:(k:Int)<(n:Int):=by omega
    obtain⟨op,hop⟩:∃op,op=t.op:=⟨_,rfl⟩
    rw[←hop] at c0
    have HOP:=hH hop
    have HSZ:=hH (show jD t=if op=1 then zh t.sub.kids+1 else 0 by rw[hop];rfl)
    clear hx hlx hfx hsx hxn hst hcl hk hlt hh hop
    by_cases h1:op=1
    · have hb1:(op == 1)=true:=by simpa using h1
      have HS1:=hH (show jD t=zh t.sub.kids+1 by rw[HSZ.out,ipQ h1])
      clear h1 HSZ
      go_wp2_with fail
      refine HWK.out.mono ?_
      rintro e w3 ⟨ya,yc,rfl,_,hb3⟩
      have HB3:=hH (HB.out.trans (hb3.mono HB.out.size))
      obtain⟨ln,hln⟩:∃ln,ln=((spF 1 (yI t.sub)).take 201).length:=⟨_,rfl⟩
      rw[←hln]
      have hn2:ln=min (jD t) 201:=by rw[hln,List.length_take,qU,qO,HS1.out];omega
      have hn3:ln≤201:=by omega
      have HLN:=hH hn2
      clear hln hb3 hn2 c0 c1 c2 c3 c4 c5 c6 c7 c8 hb1
      have hpw:IntKind.i64.wrap ((s:Int)+(ln:Int))=(s:Int)+(ln:Int):=IntWalk.i64_in _ om
      go_wp2_with fail
      exact⟨⟨k+1,s+ln,by have:=HKN.out.2;omega,by go_num,by push_cast;rfl,by have h:=HST.out;rw[HLN.out];omega,hH ⟨by rw[HST.out.1,HLN.out],HB3.out⟩⟩,by have:=HKN.out.2;simp[intOf];omega⟩
    · have hb1:(op == 1)=false:=by simpa using h1
      have HS1:=hH (show jD t=0 by rw[HSZ.out,inQ h1])
      clear h1 HSZ HWK
      go_wp2_with fail
      exact⟨⟨k+1,s,by have:=HKN.out.2;omega,by go_num,rfl,hs,hH ⟨by rw[HST.out.1,HS1.out];simp,HB.out⟩⟩,by have:=HKN.out.2;simp[intOf];omega⟩
  · have hkl:¬(k:Int)<(n:Int):=by omega
    have HB:=hH hh.out.2
    have HV:=hH (show jB (steps vs)=if s≤200 then 0 else 3 by
     rw[zeU (by rw[qo,←H.out.2];exact HN60.out)]
     have h1:=hh.out.1
     rw[List.take_of_length_le (by rw[qo,←H.out.2];omega)] at h1
     rw[h1])
    clear hh hk hlt
    by_cases h2:200<s
    · have h2i:(200:Int)<(s:Int):=by omega
      have HW:=hH (show jB (steps vs)=3 by rw[HV.out,inQ om])
      clear h2 HV
      go_wp2_with fail
      go_ret
      exact⟨by rw[HW.out];rfl,HB.out⟩
    · have h2i:¬(200:Int)<(s:Int):=by omega
      have HW:=hH (show jB (steps vs)=0 by rw[HV.out,ipQ om])
      clear h2 HV
      go_wp2_with fail
      go_ret
      exact⟨by rw[HW.out];rfl,HB.out⟩
def zM (l:List Sf):Bool:=decide (jB l=0) && l.all yM
theorem QZ {l:List Sf}{k:Nat}{s:Sf}(h:l[k]? =some s)(hs:yM s=false):zM l=false:=by
 unfold zM
 rw[Bool.and_eq_false_iff]
 right
 rw[List.all_eq_false]
 exact⟨s,List.mem_of_getElem? h,by rw[hs];exact Bool.false_ne_true⟩
def zb6 (w:World)(x:SV)(bb:Bool):Prop:=∀X,Below w.heap.size w X→Calls Tryz.prog 66 #[.agg #[.int .i8 x.s.op,.int .i64 x.s.id,.int .i64 x.s.par,.int .i64 x.s.at_,.string x.s.tx,.int .i64 x.s.sub.id,.int .i64 x.s.sub.kind,.string x.s.sub.text,.slice x.a (foLen x.s.sub.kids) x.c]] X (yO bb X)
theorem zcM {w:World}{a:Option Addr}{vs:List SV}(h:Row w a vs){k:Nat}{x:SV}(hx:vs[k]? =some x):zb6 w x (yM x.s):=fun X hX=>by
 have hm:=List.mem_of_getElem? hx
 have hl:jo w x.s.sub.kids x.a x.c:=h.lies x hm
 obtain⟨ka,kc,he,hcap,hk⟩:=jo.at hl hX
 cases he
 exact zaE X (fun q=>q<w.heap.size) x.s x.a (foLen x.s.sub.kids) x.c rfl (fun y hy=>nL hy hX.size) hcap hk (by have:=(h.fit x hm).size;omega)
theorem J2 (w:World)(la:Option Addr)(n c:Nat)(vs:List SV)(hn:n=vs.length)(h:Row w la vs):
 Calls Tryz.prog 258 #[.slice la n c] w (yO (zM (steps vs)) w):=by
 have hc:=zdp w la n c vs hn h
 have hn1:n≤1000000:=by have:=h.len;omega
 by_cases h0:jB (steps vs)=0
 rotate_left
 · have h3:jB (steps vs)=3:=by unfold jB at h0 ⊢;split at h0;exact absurd rfl h0;rename_i hq;rw[inQ hq]
   rw[h3] at hc
   have HC:=hH hc
   have HA:=hH (fun Y=>yG Y false)
   have HF:=hH (show zM (steps vs)=false by unfold zM;rw[decide_eq_false h0,Bool.false_and])
   clear hc h h0 h3 hn
   go_enter Tryz.func258,Tryz.ntmps258
   go_wp2_with fail
   refine HC.out.mono ?_
   rintro e w1 ⟨rfl,hb1⟩
   have HB1:=hH hb1
   clear hb1
   go_wp2_with fail
   refine (HA.out w1).mono ?_
   intro e w' hq;obtain⟨rfl,hb'⟩:=hq.f
   exact⟨rfl,yO.no HF.out (HB1.out.trans (hb'.mono HB1.out.size))⟩
 · rw [h0] at hc
   have HC:=hH hc
   have HA:=hH (fun Y=>yG Y true)
   have H:=hH (aN h hn)
   have H0:=hH h0
   clear hc h h0 hn
   go_enter Tryz.func258,Tryz.ntmps258
   go_wp2_with fail
   refine HC.out.mono ?_
   rintro e w1 ⟨rfl,hb1⟩
   have HB1:=hH hb1
   clear hb1
   go_wp2_with fail
   refine (HA.out w1).mono ?_
   intro e w2 hq;obtain⟨rfl,hb'⟩:=hq.t
   have HB2:=hH (HB1.out.trans (hb'.mono HB1.out.size))
   clear hq hb' HC HA HB1
   go_wp2_with fail
   go_loopw [10] (fun i wr=>∃k:Nat,k≤n∧i= .int .i64 (k:Int)∧Hid ((∀j x,j<k→(steps vs)[j]? =some x→yM x=true)∧Below w.heap.size w wr)) (fun i _=>n - (intOf i).toNat)
   case atStart=>exact⟨0,NzlQ _,rfl,hH ⟨fun j x hj=>by omega,HB2.out⟩⟩
   case round=>
    obtain⟨k,hk,rfl,hh⟩:=hrel
    obtain⟨wo,hwo⟩:∃wo,wo=wr:=⟨_,rfl⟩
    subst hwo
    by_cases hlt:k<n
    · obtain⟨x,hx⟩:∃x,vs[k]? =some x:=⟨_,List.getElem?_eq_getElem (by rw[←H.out.2];exact hlt)⟩
      obtain⟨b,off,rfl,c0,c1,c2,c3,c4,c5,c6,c7,c8⟩:=H.out.1.at hh.out.2 hx
      have hst:=kg hx
      obtain⟨bb,hbb⟩:∃bb,bb=yM x.s:=⟨_,rfl⟩
      have has:zb6 w x bb:=by rw[hbb];exact zcM H.out.1 hx
      unfold zb6 at has
      obtain⟨t,xa,xc⟩:=x
      simp only at hst has hbb c0 c1 c2 c3 c4 c5 c6 c7 c8
      obtain⟨xn,hxn⟩:∃xn,xn=foLen t.sub.kids:=⟨_,rfl⟩
      rw[←hxn] at c8 has
      obtain⟨Z,hZ⟩:∃Z,Z=wo.alloc (.cells #[.int .i8 t.op,.int .i64 t.id,.int .i64 t.par,.int .i64 t.at_,.string t.tx,.int .i64 t.sub.id,.int .i64 t.sub.kind,.string t.sub.text,.slice xa xn xc] 41):=⟨_,rfl⟩
      have hZb:Below w.heap.size w Z:=by rw[hZ];exact hh.out.2.alloc hh.out.2.size _
      have eZ:Z.heap[wo.heap.size]? =some (.cells #[.int .i8 t.op,.int .i64 t.id,.int .i64 t.par,.int .i64 t.at_,.string t.tx,.int .i64 t.sub.id,.int .i64 t.sub.kind,.string t.sub.text,.slice xa xn xc] 41 (0,0)):=by rw[hZ];exact hanQ _ _
      have HAS:=hH (has Z hZb)
      have HZ:=hH (aN hZ hZb)
      have HST:=hH (aN hst (aN hbb (aN hh.out.1 hlt)))
      have hkl:(k:Int)<(n:Int):=by omega
      obtain⟨z0,z1,z2,z3,z4,z5,z6,z7,z8⟩:=vo eZ
      clear hx hst has hbb hxn hZ hZb eZ hlt hh hk
      go_upto_region 4 with fail
      change Code.wp _ _ _ _ (wo.alloc (.cells #[.int .i8 t.op,.int .i64 t.id,.int .i64 t.par,.int .i64 t.at_,.string t.tx,.int .i64 t.sub.id,.int .i64 t.sub.kind,.string t.sub.text,.slice xa xn xc] 41))
      rw[←HZ.out.1]
      clear c0 c1 c2 c3 c4 c5 c6 c7 c8
      go_wp2_with fail
      refine HAS.out.mono ?_
      intro e w6 hq
      cases bb
      · obtain⟨rfl,hb6⟩:=hq.f
        exact⟨rfl,yO.no (QZ HST.out.1 HST.out.2.1.symm) (HZ.out.2.trans (hb6.mono HZ.out.2.size))⟩
      · obtain⟨rfl,hb6⟩:=hq.t
        have HB6:=hH (HZ.out.2.trans (hb6.mono HZ.out.2.size))
        clear hq hb6 z0 z1 z2 z3 z4 z5 z6 z7 z8
        go_wp2_with fail
        exact sf1
    · have hkl:¬(k:Int)<(n:Int):=by omega
      have HE:=hH (show yO (zM (steps vs)) w (.returned (.tuple #[])) wo from yO.yes (by
       unfold zM
       rw[H0.out,Bool.and_eq_true]
       refine⟨rfl,?_⟩
       rw[List.all_eq_true]
       intro s hs
       obtain⟨j,hj,e⟩:=List.getElem_of_mem hs
       exact hh.out.1 j s (by rw[qo,←H.out.2] at hj;omega) ub5) hh.out.2)
      clear hlt hh hk
      go_wp2_with fail
      go_end0
      exact HE.out
theorem zf2 {X0 X1 X:World}{s r:Sf}{aa ba:Option Addr}{ac bc n m:Nat}(h0:jo X0 s.sub.kids aa ac)(h1:jo X1 r.sub.kids ba bc)(b0:Below X0.heap.size X0 X)(b1:Below X1.heap.size X1 X)(hz:zh s.sub.kids+1≤100000)(hn:n=foLen s.sub.kids)(hm:m=foLen r.sub.kids):
 Calls Tryz.prog 43 #[.agg #[.int .i8 s.op,.int .i64 s.id,.int .i64 s.par,.int .i64 s.at_,.string s.tx,.int .i64 s.sub.id,.int .i64 s.sub.kind,.string s.sub.text,.slice aa n ac],.agg #[.int .i8 r.op,.int .i64 r.id,.int .i64 r.par,.int .i64 r.at_,.string r.tx,.int .i64 r.sub.id,.int .i64 r.sub.kind,.string r.sub.text,.slice ba m bc]] X (EqC s r X):=
 zhL (hH fun w' hb=>by subst hn;subst hm;exact QY _ w' _ _ _ _ _ _ (Nat.lt_succ_self _) ⟨by have:=yV s.sub.kids;omega,jX _ om⟩ (fun y hy=>nL hy (b0.trans (hb.mono b0.size)).size) (fun y hy=>nL hy (b1.trans (hb.mono b1.size)).size) (h0.at (b0.trans (hb.mono b0.size))) (h1.at (b1.trans (hb.mono b1.size))))
def eqR:List Sf→List Sf→Bool
 | [],[]=>true
 | a::p,b::q=>eqS a b && eqR p q
 | _,_=>false
theorem zaY:∀p:List Sf,eqR p p=true
 | []=>rfl
 | a::p=>by rw[eqR,ze5,zaY p];rfl
theorem zc2:∀{p q:List Sf},p.length≠q.length→eqR p q=false
 | [],[],h=>absurd rfl h
 | a::p,b::q,h=>by rw[eqR,zc2 (p:=p) (q:=q) (fun e=>h (by simp[e])),Bool.and_false]
 | [],_::_,_=>rfl
 | _::_,[],_=>rfl
theorem ze4 {p q:List Sf}{k:Nat}{a b:Sf}(ha:p[k]? =some a)(hb:q[k]? =some b):eqR (p.drop k) (q.drop k)=(eqS a b && eqR (p.drop (k+1)) (q.drop (k+1))):=by
 obtain⟨h1,rfl⟩:=List.getElem?_eq_some_iff.1 ha
 obtain⟨h2,rfl⟩:=List.getElem?_eq_some_iff.1 hb
 rw[List.drop_eq_getElem_cons h1,List.drop_eq_getElem_cons h2,eqR]
def zdq (p q:List Sf)(X:World)(e:Ending)(W:World):Prop:=e= .returned (.bool (eqR p q))∧Below X.heap.size X W
theorem zdq.mk {p q:List Sf}{w w' :World}{c:Bool}(h:eqR p q=c)(hb:Below w.heap.size w w'):zdq p q w (.returned (.bool c)) w':=⟨by rw[h],hb⟩
theorem zc3 (w:World)(la lb:Option Addr)(n m ca cb:Nat)(pa pb:List SV)(hn:n=pa.length)(hm:m=pb.length)(ha:Row w la pa)(hb:Row w lb pb):
 Calls Tryz.prog 14 #[.slice la n ca,.slice lb m cb] w (zdq (steps pa) (steps pb) w):=by
 have hl:n≤1000000:=by have:=ha.len;omega
 have hl2:m≤1000000:=by have:=hb.len;omega
 have H:=hH (aN ha (aN hb (aN hn hm)))
 clear ha hb hn hm
 by_cases hne:n=m
 rotate_left
 · have hnn:((n:Int) == (m:Int))=false:=by simp;omega
   have HV:=hH (show eqR (steps pa) (steps pb)=false from zc2 (by rw[qo,qo,←H.out.2.2.1,←H.out.2.2.2];exact hne))
   clear hne
   go_enter Tryz.func14,Tryz.ntmps14
   go_wp2_with fail
   go_ret
   exact zdq.mk HV.out (BrQ _ _)
 subst hne
 have hnn:((n:Int) == (n:Int))=true:=by simp
 go_enter Tryz.func14,Tryz.ntmps14
 go_wp2_with fail
 clear hnn
 go_loopw [5] (fun i wr=>∃k:Nat,k≤n∧i= .int .i64 (k:Int)∧Hid (Below w.heap.size w wr∧eqR (steps pa) (steps pb)=eqR ((steps pa).drop k) ((steps pb).drop k))) (fun i _=>n - (intOf i).toNat)
 case atStart=>exact⟨0,NzlQ _,rfl,hH ⟨BrQ _ _,rfl⟩⟩
 case round=>
  obtain⟨k,hk,rfl,hrr⟩:=hrel
  obtain⟨wo,hwo⟩:∃wo,wo=wr:=⟨_,rfl⟩
  subst hwo
  by_cases hlt:k<n
  · obtain⟨x,hx⟩:∃x,pa[k]? =some x:=⟨_,List.getElem?_eq_getElem (by rw[←H.out.2.2.1];exact hlt)⟩
    obtain⟨y,hy⟩:∃y,pb[k]? =some y:=⟨_,List.getElem?_eq_getElem (by rw[←H.out.2.2.2];exact hlt)⟩
    have hdr:=ze4 (kg hx) (kg hy)
    have hlx:=H.out.1.lies x (List.mem_of_getElem? hx)
    have hly:=H.out.2.1.lies y (List.mem_of_getElem? hy)
    have hfx:=(H.out.1.fit x (List.mem_of_getElem? hx)).size
    have hfy:=(H.out.2.1.fit y (List.mem_of_getElem? hy)).size
    unfold kI at hlx hly
    have hax:=fun X hX=>H.out.1.at (X:=X) hX hx
    have hay:=fun X hX=>H.out.2.1.at (X:=X) hX hy
    obtain⟨xs,xa,xc⟩:=x
    obtain⟨ys,ya,yc⟩:=y
    simp only at hdr hlx hly hfx hfy hax hay
    obtain⟨xn,hxn⟩:∃xn,xn=foLen xs.sub.kids:=⟨_,rfl⟩
    obtain⟨yn,hyn⟩:∃yn,yn=foLen ys.sub.kids:=⟨_,rfl⟩
    rw[←hxn] at hax
    rw[←hyn] at hay
    have HCC:=hH (fun X (hX:Below w.heap.size w X)=>zf2 (X:=X) hlx hly hX hX om hxn hyn)
    have HKN:=hH (aN hk hlt)
    have hkl:(k:Int)<(n:Int):=by omega
    obtain⟨cc,hcc⟩:∃cc,cc=eqS xs ys:=⟨_,rfl⟩
    rw[←hcc] at hdr
    have HCQ:=hH hcc
    have HDR:=hH (hrr.out.2.trans hdr)
    have HBR:=hH hrr.out.1
    clear hx hy hlx hly hfx hfy hxn hyn hk hlt hrr hdr hcc
    obtain⟨W,hW⟩:∃W,W=wo.drew:=⟨_,rfl⟩
    have hW0:Below w.heap.size w W:=by rw[hW];exact below_drewN HBR.out 1
    obtain⟨b,off,rfl,c0,c1,c2,c3,c4,c5,c6,c7,c8⟩:=hax W hW0
    obtain⟨b',off',rfl,d0,d1,d2,d3,d4,d5,d6,d7,d8⟩:=hay W hW0
    have HC:=hH (HCC.out W hW0)
    have HW:=hH hW
    have HW0:=hH hW0
    clear hax hay hW hW0 HCC
    go_wp2_with fail
    have hdr:({ heap:=wo.heap,tape:=wo.tape,drawn:=wo.drawn+1,os:=wo.os,output:=wo.output }:World)=W:=HW.out.symm
    refine wp_region_still_tail 8 kr1 kr1 ?_
    simp only[List.take_succ_cons,List.take_zero,List.drop_succ_cons,List.drop_zero]
    rw[hdr]
    clear hdr
    repeat still_step
    try refine wpStill_nil ?_
    go_wp2_with (go_at_call 43;refine HC.out.mono ?_;rintro e w2 ⟨rfl,hb2⟩;rw[←HCQ.out];have HB3:=hH (HW0.out.trans (hb2.mono HW0.out.size));clear hb2;cases cc)
    · go_ret
      exact zdq.mk (HDR.out.trans (Bool.false_and _)) HB3.out
    · exact⟨⟨k+1,by have:=HKN.out;omega,by go_num,hH ⟨HB3.out,HDR.out.trans (Bool.true_and _)⟩⟩,by have:=HKN.out;simp[intOf];omega⟩
  · have hkl:¬(k:Int)<(n:Int):=by omega
    have HV:=hH (show eqR (steps pa) (steps pb)=true by
     rw[hrr.out.2,List.drop_of_length_le (by rw[qo,←H.out.2.2.1];omega),List.drop_of_length_le (by rw[qo,←H.out.2.2.2];omega)];rfl)
    have HB3:=hH hrr.out.1
    clear hrr hk hlt
    go_wp2_with fail
    go_ret
    exact zdq.mk HV.out HB3.out
def zb8 (w:World)(x:SV)(bb:Bool):Prop:=∀X,Below w.heap.size w X→Calls Tryz.prog 28 #[.agg #[.int .i8 x.s.op,.int .i64 x.s.id,.int .i64 x.s.par,.int .i64 x.s.at_,.string x.s.tx,.int .i64 x.s.sub.id,.int .i64 x.s.sub.kind,.string x.s.sub.text,.slice x.a (foLen x.s.sub.kids) x.c]] X (fun e w'=>e= .returned (.bool bb)∧Below X.heap.size X w')
theorem zcN {w:World}{a:Option Addr}{vs:List SV}(h:Row w a vs){k:Nat}{x:SV}(hx:vs[k]? =some x):zb8 w x (yM x.s):=fun X hX=>by
 have hm:=List.mem_of_getElem? hx
 have hl:jo w x.s.sub.kids x.a x.c:=h.lies x hm
 obtain⟨ka,kc,he,hcap,hk⟩:=jo.at hl hX
 cases he
 exact zcI X (fun q=>q<w.heap.size) x.s x.a (foLen x.s.sub.kids) x.c rfl (fun y hy=>nL hy hX.size) hcap hk (by have:=(h.fit x hm).size;omega)
theorem QX (w:World)(la:Option Addr)(n c:Nat)(vs:List SV)(hn:n=vs.length)(h:Row w la vs):
 Calls Tryz.prog 108 #[.slice la n c] w (fun e w'=>e= .returned (.bool (zM (steps vs)))∧Below w.heap.size w w'):=by
 have hc:=zah w la n c vs hn h
 unfold zhC at hc
 have hn1:n≤1000000:=by have:=h.len;omega
 by_cases h0:jB (steps vs)=0
 rotate_left
 · have h3:jB (steps vs)=3:=by unfold jB at h0 ⊢;split at h0;exact absurd rfl h0;rename_i hq;rw[inQ hq]
   rw[h3] at hc
   have HC:=hH hc
   have HF:=hH (show zM (steps vs)=false by unfold zM;rw[decide_eq_false h0,Bool.false_and])
   clear hc h h0 h3 hn
   go_enter Tryz.func108,Tryz.ntmps108
   go_wp2_with fail
   refine HC.out.mono ?_
   rintro e w1 ⟨rfl,hb1⟩
   have HB1:=hH hb1
   clear hb1
   go_wp2_with fail
   go_ret
   exact⟨by rw[HF.out];rfl,HB1.out⟩
 · rw [h0] at hc
   have HC:=hH hc
   have H:=hH (aN h hn)
   have H0:=hH h0
   clear hc h h0 hn
   go_enter Tryz.func108,Tryz.ntmps108
   go_wp2_with fail
   refine HC.out.mono ?_
   rintro e w2 ⟨rfl,hb'⟩
   have HB2:=hH hb'
   clear hb' HC
   go_wp2_with fail
   go_loopw [3] (fun i wr=>∃k:Nat,k≤n∧i= .int .i64 (k:Int)∧Hid ((∀j x,j<k→(steps vs)[j]? =some x→yM x=true)∧Below w.heap.size w wr)) (fun i _=>n - (intOf i).toNat)
   case atStart=>exact⟨0,NzlQ _,rfl,hH ⟨fun j x hj=>by omega,HB2.out⟩⟩
   case round=>
    obtain⟨k,hk,rfl,hh⟩:=hrel
    obtain⟨wo,hwo⟩:∃wo,wo=wr:=⟨_,rfl⟩
    subst hwo
    by_cases hlt:k<n
    · obtain⟨x,hx⟩:∃x,vs[k]? =some x:=⟨_,List.getElem?_eq_getElem (by rw[←H.out.2];exact hlt)⟩
      obtain⟨b,off,rfl,c0,c1,c2,c3,c4,c5,c6,c7,c8⟩:=H.out.1.at hh.out.2 hx
      have hst:=kg hx
      obtain⟨bb,hbb⟩:∃bb,bb=yM x.s:=⟨_,rfl⟩
      have has:zb8 w x bb:=by rw[hbb];exact zcN H.out.1 hx
      unfold zb8 at has
      obtain⟨t,xa,xc⟩:=x
      simp only at hst has hbb c0 c1 c2 c3 c4 c5 c6 c7 c8
      obtain⟨xn,hxn⟩:∃xn,xn=foLen t.sub.kids:=⟨_,rfl⟩
      rw[←hxn] at c8 has
      have HAS:=hH (has wo hh.out.2)
      have HWO:=hH hh.out.2
      have HST:=hH (aN hst (aN hbb (aN hh.out.1 hlt)))
      have hkl:(k:Int)<(n:Int):=by omega
      clear hx hst has hbb hxn hlt hh hk
      go_wp2_with fail
      refine HAS.out.mono ?_
      rintro e w6 ⟨rfl,hb6⟩
      have HB6:=hH (HWO.out.trans (hb6.mono HWO.out.size))
      clear hb6 c0 c1 c2 c3 c4 c5 c6 c7 c8
      cases bb
      · have HF:=hH (QZ HST.out.1 HST.out.2.1.symm)
        go_wp2_with fail
        go_ret
        exact⟨by rw[HF.out];rfl,HB6.out⟩
      · go_wp2_with fail
        exact sf1
    · have hkl:¬(k:Int)<(n:Int):=by omega
      have HE:=hH (aN (show zM (steps vs)=true by
       unfold zM
       rw[H0.out,Bool.and_eq_true]
       refine⟨rfl,?_⟩
       rw[List.all_eq_true]
       intro s hs
       obtain⟨j,hj,e⟩:=List.getElem_of_mem hs
       exact hh.out.1 j s (by rw[qo,←H.out.2] at hj;omega) ub5) hh.out.2)
      clear hlt hh hk
      go_wp2_with fail
      go_ret
      exact⟨by rw[HE.out.1];rfl,HE.out.2⟩
end Go.Proofs.YtoidedomenkbpaaGreat
