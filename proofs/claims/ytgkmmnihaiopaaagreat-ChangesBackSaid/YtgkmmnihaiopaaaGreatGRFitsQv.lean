/-
  .
-/
import Derived.Test.YtgkmmnihaiopaaaGreatGRCheckQv
set_option maxRecDepth 100000
set_option maxHeartbeats 40000000

namespace Go.Proofs.YtgkmmnihaiopaaaGreat
open Go.RowKit Go.Maps
def Zp (o:Option Kd)(s:ByteArray):Bool:=match o with
 | none=>false
 | some k=>s.toList.isEmpty || (k.text && decide (s.size≤40))
def zjN (l:List Sl):Prop:=l.length≤8∧∀s∈l,0≤s.least∧s.least≤1000
theorem zdH {g:Gr}{n:Int}{k:Kd}(h:kindOf g n=some k):zjN k.slots:=by
 obtain⟨hg,j,_,_,hx⟩:=Yi h
 simp only[qB,Bool.and_eq_true,List.all_eq_true] at hg
 have h1:=hg.1.2 k (List.mem_of_getElem? hx)
 simp only[kindOk,Zg,Bool.and_eq_true,decide_eq_true_eq,List.all_eq_true] at h1
 refine⟨h1.1.2,fun s hs=>?_⟩
 have h2:=h1.2 s hs
 simp only[yM,qO,Bool.and_eq_true,decide_eq_true_eq] at h2
 omega
theorem zis (w:World)(v:Value)(g:Gr)(n:Int)(s:ByteArray)(hv:GrV w v g)(hf:g.few)(hs:(s.size:Int)≤9223372036854775807):Calls Tryz.prog 122 #[v,.int .i64 n,.string s] w (Says (Zp (kindOf g n) s) w):=by
 obtain⟨ka,kc,rfl,hk⟩:=hv
 obtain⟨l,root⟩:=g
 simp only at hk
 have HF:=hH hf
 have HK:=hH hk
 clear hf hk
 cases ho:kindOf ⟨l,root⟩ n with
 | none=>
   have HO:=hH ho
   clear ho
   go_enter Tryz.func122,Tryz.ntmps122
   go_wp2_with (go_at_call 128;((with_reducible refine (zbM _ _ _ n (grV (HK.out.below (zg _ _))) HF.out HO.out).mono ?_);rintro e w2 ⟨rfl,h2⟩;have H2:=hH h2;clear h2))
   go_ret
   exact⟨rfl,((zg w _).trans (H2.out.mono (zg w _).size)).alloc ((zg w _).trans (H2.out.mono (zg w _).size)).size _⟩
 | some k =>
   have HO:=hH ho
   clear ho
   obtain⟨nm,tx,sl⟩:=k
   by_cases he:s.toList.isEmpty=true
   · have he2:s.toList= []:=by simpa using he
     have HV:=hH (show Zp (some ⟨nm,tx,sl⟩) s=true by simp[Zp,he2])
     go_enter Tryz.func122,Tryz.ntmps122
     exact se5
   · have he1:s.toList.isEmpty=false:=by simpa using he
     have he2:¬s.toList= []:=by simpa using he
     have HV:=hH (show Zp (some ⟨nm,tx,sl⟩) s=(tx && decide (s.size≤40)) by rw[Zp,he1];rfl)
     clear he
     cases tx
     · go_enter Tryz.func122,Tryz.ntmps122
       exact se5
     · by_cases h4:s.size≤40
       · have h4' :(s.size:Int)≤40:=by omega
         go_enter Tryz.func122,Tryz.ntmps122
         go_wp2_with (go_at_call 128;((with_reducible refine (jq _ _ _ n _ (grV (HK.out.below (zg _ _))) HF.out HO.out).mono ?_);rintro e w2 ⟨sa,sc,rfl,h2,_⟩;have H2:=hH ((zg w _).trans (h2.mono (zg w _).size));clear h2))
         go_ret
         exact Says.mk (by rw[HV.out,decide_eq_true h4];rfl) (H2.out.alloc H2.out.size _)
       · have h4' :¬(s.size:Int)≤40:=by omega
         go_enter Tryz.func122,Tryz.ntmps122
         go_wp2_with (go_at_call 128;((with_reducible refine (jq _ _ _ n _ (grV (HK.out.below (zg _ _))) HF.out HO.out).mono ?_);rintro e w2 ⟨sa,sc,rfl,h2,_⟩;have H2:=hH ((zg w _).trans (h2.mono (zg w _).size));clear h2))
         go_ret
         exact Says.mk uc9 (H2.out.alloc H2.out.size _)
end Go.Proofs.YtgkmmnihaiopaaaGreat
namespace Go.Proofs.YtgkmmnihaiopaaaGreat
open Go.RowKit
theorem JG {w wr:World}(h:Below w.heap.size w wr)(o o' :Obj):Below w.heap.size w ((wr.alloc o).alloc o'):=(h.alloc h.size _).alloc (by have:=h.size;simp;omega) _
theorem zd9 (w:World)(o o' :Obj):((w.alloc o).alloc o').heap[w.heap.size]? =some o∧((w.alloc o).alloc o').heap[w.heap.size+1]? =some o':=by
 refine⟨by rw[BhaQ _ _ _ sp1];exact hanQ w o,?_⟩
 have:=hanQ (w.alloc o) o'
 simpa using this
theorem cell0 {w:World}{b:Nat}{cs:Array Value}{t:TypeId}(h:w.heap[b]? =some (.cells cs t (0,0)))(j:Nat){v:Value}(hv:cs[j]? =some v):w.cell? ⟨b,j,none⟩=some v:=by
 rw[corQ w b j _ _ _ h];exact hv
end Go.Proofs.YtgkmmnihaiopaaaGreat
namespace Go.Proofs.YtgkmmnihaiopaaaGreat
structure JH (kids:List Int) (s:Sl) (b j:Nat):Prop where
 le:b≤j
 ends:j≤kids.length
 least:s.least≤((j - b:Nat):Int)
 most:((j - b:Nat):Int)≤s.most
 all:∀i x,b≤i→i<j→kids[i]? =some x→qL s.kinds x=true
def zbb (kids:List Int)(s:Sl)(b j:Nat):Bool:=
 decide (b≤j) && decide (j≤kids.length) && decide (s.least≤((j - b:Nat):Int)) && decide (((j - b:Nat):Int)≤s.most) && ((kids.drop b).take (j - b)).all (qL s.kinds)
theorem zcK {kids:List Int}{s:Sl}{b j:Nat}:zbb kids s b j=true↔JH kids s b j:=by
 simp only[zbb,Bool.and_eq_true,decide_eq_true_eq,List.all_eq_true]
 constructor
 · rintro ⟨⟨⟨⟨h1,h2⟩,h3⟩,h4⟩,h5⟩
   refine⟨h1,h2,h3,h4,fun i x hi hj hx=>h5 x ?_⟩
   rw[List.mem_iff_getElem?]
   exact⟨i - b,by rw[List.getElem?_take,ipQ om,List.getElem?_drop,show b+(i - b)=i by omega];exact hx⟩
 · rintro ⟨h1,h2,h3,h4,h5⟩
   refine⟨⟨⟨⟨h1,h2⟩,h3⟩,h4⟩,fun x hx=>?_⟩
   obtain⟨i,hi⟩:=List.mem_iff_getElem?.1 hx
   rw[List.getElem?_take] at hi
   split at hi
   · rw[List.getElem?_drop] at hi
     exact h5 (b+i) x om om hi
   · cases hi
def Jq (kids:List Int)(s:Sl)(T:Nat→Bool):Nat→Bool:=fun j=>(List.range (j+1)).any fun b=>T b && zbb kids s b j
theorem zgr {kids:List Int}{s:Sl}{T:Nat→Bool}{j:Nat}:Jq kids s T j=true↔∃b,T b=true∧JH kids s b j:=by
 simp only[Jq,List.any_eq_true,List.mem_range,Bool.and_eq_true,zcK]
 exact⟨fun ⟨b,_,h⟩=>⟨b,h⟩,fun ⟨b,h⟩=>⟨b,by have:=h.2.le;omega,h⟩⟩
def ZP (kids:List Int)(slots:List Sl):Nat→Bool:=slots.foldl (fun T s=>Jq kids s T) YI
def kJ (o:Option Kd)(kids:List Int):Bool:=match o with
 | none=>false
 | some k=>decide (kids.length≤200) && ZP kids k.slots kids.length
theorem zbD {kids:List Int}{slots:List Sl}{k:Nat}{s:Sl}(hs:slots[k]? =some s):ZP kids (slots.take (k+1))=Jq kids s (ZP kids (slots.take k)):=by
 rw[Yz hs,ZP,List.foldl_append];rfl
def jR (kids:List Int)(kinds:List Int):Nat→Bool:=fun i=>match kids[i]? with
 | some x=>qL kinds x
 | none=>false
theorem Yw {kids kinds:List Int}{i:Nat}{x:Int}(h:kids[i]? =some x):jR kids kinds i=qL kinds x:=by simp[jR,h]
theorem Q0 {kids kinds:List Int}{i:Nat}(h:kids.length≤i):jR kids kinds i=false:=by simp[jR,List.getElem?_eq_none h]
end Go.Proofs.YtgkmmnihaiopaaaGreat
namespace Go.Proofs.YtgkmmnihaiopaaaGreat
open Go.RowKit
attribute [local go_sem ↓] loadT zcN storeT zbi zb8 zbg zcc zbh
attribute [local go_sem] Zd YT J7 zcr qm kR jM blk_alloc_new
def zkg (f:Nat→Bool)(w:World)(e:Ending)(w' :World):Prop:=e= .returned (.agg (vec f))∧Below w.heap.size w w'
theorem Ju {w:World}{b:Nat}{f:Nat→Bool}{t:TypeId}(h:w.heap[b]? =some (.cells (vec f) t (0,0))):(loadVar 172 ⟨b,0,none⟩).run Tryz.prog w= .ok (.agg (vec f)) w:=by
 have:=Qt (P:=Tryz.prog) w b 201 172 _ Tryz.underlying172 rfl Tryz.ziq (by rw[QL h,qm])
 rwa [QL h] at this
theorem QD {P:Program}{fn:Func}{p:Tmp}{ty:TypeId}(h:fn.results= #[.cell p ty])(tmps:Array Value)(w:World)(a:Addr)(v:Value)(hp:tmps.getD p undef= .pointer (some a))(hv:(loadVar ty a).run P w= .ok v w):
 (results fn tmps).run P w= .ok v w:=by
 have hp' :tmps[p]?.getD undef= .pointer (some a):=by simpa using hp
 simp[results,h,hp',asAddr,hv]
def zg3 (w:World)(c:Array Value)(kids kinds:List Int)(i:Value)(wr:World):Prop:=
 ∃ (k:Nat) (f:Nat→Bool),k≤kids.length∧i= .int .i64 k∧wr.heap[w.heap.size]? =some (.cells c 55 (0,0))∧wr.heap[w.heap.size+1]? =some (.cells (vec noF) 172 (0,0))∧wr.heap[w.heap.size+2]? =some (.cells (vec f) 172 (0,0))∧
  Below w.heap.size w wr∧∀j,f j=(decide (j<k) && jR kids kinds j)
theorem ZI (w:World)(o o' o'' :Obj):(((w.alloc o).alloc o').alloc o'').heap[w.heap.size]? =some o∧(((w.alloc o).alloc o').alloc o'').heap[w.heap.size+1]? =some o'∧(((w.alloc o).alloc o').alloc o'').heap[w.heap.size+2]? =some o'':=by
 have h1:=hanQ (w.alloc o) o'
 have h2:=hanQ ((w.alloc o).alloc o') o''
 simp only[WsaQ] at h1 h2
 exact⟨by rw[BhaQ _ _ _ ug5,BhaQ _ _ _ sp1];exact hanQ w o,by rw[BhaQ _ _ _ sp1];exact h1,h2⟩
theorem jH (w:World)(o o' o'' :Obj):Below w.heap.size w (((w.alloc o).alloc o').alloc o''):=(((BrQ _ _).alloc (NlrQ _) _).alloc sp1 _).alloc ug5 _
theorem zdb (w:World)(a:Option Addr)(cap:Nat)(kids:List Int)(v:Value)(s:Sl)(h:qz w a kids)(hl:kids.length≤200)(hv:zcV w v s)(hf:s.few):
 Calls Tryz.prog 132 #[.slice a kids.length cap,v] w (zkg (jR kids s.kinds) w):=by
 obtain⟨ka,kc,rfl,hk⟩:=hv
 obtain⟨l,lo,hi⟩:=s
 simp only at hk ⊢
 have hfl:l.length≤1000000:=hf
 have HK:=hH hk
 have HA:=hH h
 clear hf hk h
 go_enter Tryz.func132,Tryz.ntmps132
 go_wp2_with fail
 go_loopw [10] (fun i wr=>zg3 w #[.slice ka l.length kc,.int .i64 lo,.int .i64 hi] kids l i wr) (fun i _=>kids.length - (intOf i).toNat)
 case atStart=>exact⟨0,noF,NzlQ _,rfl,(ZI w _ _ _).1,(ZI w _ _ _).2.1,(ZI w _ _ _).2.2,jH _ _ _ _,fun j=>by simp[noF]⟩
 case round=>
  obtain⟨k,f,hkl,rfl,hb0,hb1,hb2,hbel,hff⟩:=hrel
  have HB:=hH (aN hb0 (aN hb1 (aN hb2 hbel)))
  have HF:=hH hff
  by_cases hlt:k<kids.length
  · obtain⟨x,hx⟩:∃x,kids[k]? =some x:=⟨kids[k],List.getElem?_eq_getElem hlt⟩
    obtain⟨b,off,rfl,hblt,hc⟩:=(HA.out.below hbel) om
    have c0:=hc k x hx
    have p0:=cell0 hb0 0 rfl
    have q0:wr.cell? ⟨w.heap.size+2,k,none⟩=some (.bool (f k)):=cell0 hb2 k (ZJ f k om)
    have q1:∀j,wr.frozen? ⟨w.heap.size+2,j,none⟩=false:=fun j=>forQ wr _ j _ _ hb2
    have q2:=q1 k
    have HC:=hH (zcg wr ka kc l x (HK.out.below hbel) hfl)
    have HX:=hH hx
    have hk2:(k:Int)<(kids.length:Int):=by omega
    have hk3:(k:Int)<201:=by omega
    clear hx hc hb0 hb1 hb2 hbel hff q1
    obtain⟨bb,hbb⟩:∃bb,bb=qL l x:=⟨_,rfl⟩
    rw[←hbb] at HC
    have HBB:=hH hbb
    clear hbb
    go_wp2_with (go_at_call 133;((with_reducible refine HC.out.mono ?_);rintro e w2 ⟨rfl,rfl⟩))
    refine⟨⟨k+1,fun j=>if j=k then bb else f j,by omega,by go_num,?_,?_,?_,?_,?_⟩,by simp[intOf];omega⟩
    · rw[BhsQ _ _ _ _ (by show w.heap.size≠w.heap.size+2;omega)];exact HB.out.1
    · rw[BhsQ _ _ _ _ (by show w.heap.size+1≠w.heap.size+2;omega)];exact HB.out.2.1
    · rw[hssQ _ _ k _ _ _ HB.out.2.2.1,zcL]
    · exact HB.out.2.2.2.setCell (by show w.heap.size≤w.heap.size+2;omega) _
    · intro j
      by_cases e:j=k
      · subst e;show (if j=j then bb else f j)=_;rw[ipQ rfl,Yw HX.out,HBB.out,decide_eq_true om];rfl
      · show (if j=k then bb else f j)=_
        rw[inQ e,HF.out]
        congr 1
        exact decide_eq_decide.2 om
  · obtain rfl:k=kids.length:=by omega
    have hfe:vec f=vec (jR kids l):=zfQ fun j _=>by
     rw[hff]
     by_cases e:j<kids.length
     · rw[decide_eq_true e];rfl
     · rw[decide_eq_false e,Q0 om];rfl
    rw[hfe] at hb2
    have e1:=QL hb2
    have e2:=YQ hb1 (qm _)
    have hk2:¬(kids.length:Int)<(kids.length:Int):=by omega
    clear hlt hfe hff HF HB
    have HB1:=hH hb1
    have HB2:=hH hbel
    clear hb0 hb1 hb2 hbel
    go_wp2_with fail
    have hr:=Ju (setRow_heap wr (w.heap.size+1) _ (vec (jR kids l)) _ _ HB1.out)
    refine brQ (v:= .agg (vec (jR kids l))) (QD rfl _ _ ⟨w.heap.size+1,0,none⟩ _ rfl hr) rfl ⟨rfl,?_⟩
    exact below_setRow HB2.out om _
end Go.Proofs.YtgkmmnihaiopaaaGreat
namespace Go.Proofs.YtgkmmnihaiopaaaGreat
def FP (kids:List Int)(s:Sl)(T:Nat→Bool)(c:Nat)(f:Nat→Bool):Prop:=∀j,f j=true↔∃b,b<c∧T b=true∧JH kids s b j
def FI (kids:List Int)(s:Sl)(T:Nat→Bool)(c n:Nat)(f:Nat→Bool):Prop:=∀j,f j=true↔(∃b,b<c∧T b=true∧JH kids s b j)∨∃m:Nat,m<n∧s.least≤(m:Int)∧j=c+m
def zko (kids:List Int)(s:Sl)(c n:Nat):Prop:=∀i,c≤i→i<c+n→jR kids s.kinds i=true
theorem FP.start (kids:List Int)(s:Sl)(T:Nat→Bool):FP kids s T 0 noF:=fun j=>⟨fun h=>by simp[noF] at h,fun ⟨b,h,_⟩=>by omega⟩
theorem FP.skip {kids:List Int}{s:Sl}{T:Nat→Bool}{c:Nat}{f:Nat→Bool}(h:FP kids s T c f)(hT:T c=false):FP kids s T (c+1) f:=fun j=>by
 rw[h j]
 constructor
 · rintro ⟨b,h1,h2⟩;exact⟨b,by omega,h2⟩
 · rintro ⟨b,h1,h2,h3⟩
   refine⟨b,?_,h2,h3⟩
   by_cases e:b=c
   · subst e;rw[hT] at h2;cases h2
   · omega
theorem FP.all {kids:List Int}{s:Sl}{T:Nat→Bool}{f:Nat→Bool}(h:FP kids s T (kids.length+1) f):f=Jq kids s T:=by
 funext j
 rw[Bool.eq_iff_iff,h j,zgr]
 constructor
 · rintro ⟨b,_,h⟩;exact⟨b,h⟩
 · rintro ⟨b,h1,h2⟩;exact⟨b,by have:=h2.le;have:=h2.ends;omega,h1,h2⟩
theorem FI.start {kids:List Int}{s:Sl}{T:Nat→Bool}{c:Nat}{f:Nat→Bool}(h:FP kids s T c f):FI kids s T c 0 f:=fun j=>by
 rw[h j]
 exact⟨Or.inl,fun h=>h.elim id fun ⟨m,h,_⟩=>by omega⟩
theorem FI.skip {kids:List Int}{s:Sl}{T:Nat→Bool}{c n:Nat}{f:Nat→Bool}(h:FI kids s T c n f)(hn:(n:Int)<s.least):FI kids s T c (n+1) f:=fun j=>by
 rw[h j]
 exact sh3
theorem FI.put {kids:List Int}{s:Sl}{T:Nat→Bool}{c n:Nat}{f:Nat→Bool}(h:FI kids s T c n f)(hn:s.least≤(n:Int)):FI kids s T c (n+1) (fun j=>if j=c+n then true else f j):=fun j=>by
 show (if j=c+n then true else f j)=true↔_
 by_cases e:j=c+n
 · rw[ipQ e]
   exact⟨fun _=>Or.inr ⟨n,by omega,hn,e⟩,fun _=>rfl⟩
 · rw[inQ e,h j]
   exact sh3
theorem zcF {kids:List Int}{kinds:List Int}{i:Nat}(h:jR kids kinds i=true):i<kids.length∧∀x,kids[i]? =some x→qL kinds x=true:=by
 by_cases hi:i<kids.length
 · refine⟨hi,fun x hx=>?_⟩
   rw[Yw hx] at h;exact h
 · rw[Q0 om] at h;cases h
theorem FI.done {kids:List Int}{s:Sl}{T:Nat→Bool}{c N:Nat}{f:Nat→Bool}(h:FI kids s T c N f)(hc:c≤kids.length)(hT:T c=true)(ho:∀i,c≤i→i+1<c+N→jR kids s.kinds i=true)
 (hN:(N:Int)≤s.most+1) (hend:(N:Int)=s.most+1∨1≤N∧jR kids s.kinds (c+N - 1)=false):FP kids s T (c+1) f:=fun j=>by
 rw[h j]
 constructor
 · rintro (⟨b,h1,h2⟩ | ⟨m,h1,h2,h3⟩)
   · exact⟨b,by omega,h2⟩
   · refine⟨c,by omega,hT,by omega,?_,?_,?_,fun i x hi hj hx=>(zcF (ho i hi om)).2 x hx⟩
     · by_cases e:m=0
       · omega
       · have:=(zcF (ho (c+m - 1) om om)).1;omega
     · rw[show j - c=m by omega];exact h2
     · rw[show j - c=m by omega];omega
 · rintro ⟨b,h1,h2,h3⟩
   by_cases e:b=c
   · subst e
     refine Or.inr ⟨j - b,?_,h3.least,by have:=h3.le;omega⟩
     rcases hend with hend | ⟨h1N,hend⟩
     · have:=h3.most;omega
     · by_cases hlt:j - b<N
       · exact hlt
       · exfalso
         have hj:=h3.ends
         have hle:=h3.le
         have hi:b+N - 1<kids.length:=by omega
         have hx:=List.getElem?_eq_getElem hi
         have:=h3.all (b+N - 1) _ om om hx
         rw[Yw hx,this] at hend
         cases hend
   · exact Or.inl ⟨b,by omega,h2,h3⟩
end Go.Proofs.YtgkmmnihaiopaaaGreat
namespace Go.Proofs.YtgkmmnihaiopaaaGreat
open Go.RowKit
attribute [local go_sem ↓] loadT zcN storeT zbi zb8 zbg zcc zbh
attribute [local go_sem] Zd YT J7 zcr qm kR jM blk_alloc_new
theorem zir (W:World)(b k:Nat)(h:k≤200):(Instr.sliceAt 172 (.pointer (some ⟨b,0,none⟩)) none (some (.int .i64 ((k:Int)+1))) none).run Tryz.prog W= .ok (.slice (some ⟨b,0,none⟩) (k+1) 201) W:=by
 have ha:Tryz.prog.arrayLen 172=201:=by kernel_rfl
 have hs:∀W,(sizeOf (Tryz.prog.elem 172)).run Tryz.prog W= .ok 1 W:=fun W=>by kernel_rfl
 rw[run_sliceAt_array_h (P:=Tryz.prog) W 172 ⟨b,0,none⟩ kr1 .i64 ((k:Int)+1) om (by rw[ha];omega),hs,ha]
 show Result.ok _ _=_
 have e:((k:Int)+1).toNat=k+1:=by omega
 simp only[slicedAt,e]
 congr 2
structure zfX (w:World) (O:Nat) (c:Array Value) (T own f:Nat→Bool) (wr:World):Prop where
 slot:wr.heap[w.heap.size]? =some (.cells c 55 (0,0))
 from_:wr.heap[w.heap.size+1]? =some (.cells (vec T) 172 (0,0))
 res:wr.heap[w.heap.size+2]? =some (.cells (vec noF) 172 (0,0))
 own:wr.heap[O]? =some (.cells (vec own) 172 (0,0))
 ends:wr.heap[O+1]? =some (.cells (vec f) 172 (0,0))
 lt:w.heap.size+2<O
 below:Below w.heap.size w wr
theorem zfX.set {w wr:World}{O:Nat}{c:Array Value}{T own f:Nat→Bool}(h:zfX w O c T own f wr)(i:Nat):zfX w O c T own (fun j=>if j=i then true else f j) (wr.setCell ⟨O+1,i,none⟩ (.bool true)):=by
 have hlt:=h.lt
 exact⟨by rw[BhsQ _ _ _ _ (by show w.heap.size≠O+1;omega)];exact h.slot,by rw[BhsQ _ _ _ _ (by show w.heap.size+1≠O+1;omega)];exact h.from_,
  by rw[BhsQ _ _ _ _ (by show w.heap.size+2≠O+1;omega)];exact h.res,by rw[BhsQ _ _ _ _ (by show O≠O+1;omega)];exact h.own,
  by rw[hssQ _ (O+1) i _ _ _ h.ends,zcL],hlt,h.below.setCell (by show w.heap.size≤O+1;omega) _⟩
def zkW (w:World)(O:Nat)(c:Array Value)(kids:List Int)(s:Sl)(T:Nat→Bool)(g:Nat)(i:Value)(wr:World):Prop:=
 ∃(k:Nat) (f:Nat→Bool),k+g=kids.length+1∧i= .int .i64 k∧zfX w O c T (jR kids s.kinds) f wr∧FP kids s T k f
def zks (w:World)(O:Nat)(c:Array Value)(kids:List Int)(s:Sl)(T:Nat→Bool)(k:Nat)(g:Nat)(i:Value)(wr:World):Prop:=
 ∃(n:Nat) (f:Nat→Bool),(n:Int)+(g:Int)=s.most+1∧i= .int .i64 n∧k+n≤kids.length∧zfX w O c T (jR kids s.kinds) f wr∧FI kids s T k n f∧zko kids s k n
theorem zbp (w :World)(a:Option Addr)(cap:Nat)(kids:List Int)(v:Value)(s:Sl)(T:Nat→Bool)(h:qz w a kids)(hl:kids.length≤200)(hv:zcV w v s)(hf:s.few)(h0:0≤s.least)(h1:s.least≤s.most)(h2:s.most≤1000):
 Calls Tryz.prog 131 #[.slice a kids.length cap,v,.agg (vec T)] w (zkg (Jq kids s T) w):=by
 obtain⟨ka,kc,rfl,hk⟩:=hv
 obtain⟨l,lo,hi⟩:=s
 simp only at hk h0 h1 h2
 have HK:=hH hk
 have HA:=hH h
 have HFEW:=hH hf
 clear hf hk h
 have hsl:=fun W=>zir W (w.heap.size+1) kids.length hl
 go_enter Tryz.func131,Tryz.ntmps131
 go_wp2_with fail
 go_step3
 go_wp2_with (go_at_call 132;((with_reducible refine (zdb _ _ _ kids _ ⟨l,lo,hi⟩ (HA.out.below (jH _ _ _ _)) hl (za8 (s:=⟨l,lo,hi⟩) (HK.out.below (jH _ _ _ _))) HFEW.out).mono ?_);rintro e w2 ⟨rfl,h2⟩;have H2:=hH h2;clear h2))
 go_step3
 go_wp2_with fail
 have HSTART:=hH (show zfX w w2.heap.size #[.slice ka l.length kc,.int .i64 lo,.int .i64 hi] T (jR kids l) noF ((w2.alloc (.cells (vec (jR kids l)) 172)).alloc (.cells (vec noF) 172)) from by
  have h3:=ZI w (.cells #[.slice ka l.length kc,.int .i64 lo,.int .i64 hi] 55) (.cells (vec T) 172) (.cells (vec noF) 172)
  have hz:=H2.out.size
  have hbb:=JG (BrQ w2.heap.size w2) (.cells (vec (jR kids l)) 172) (.cells (vec noF) 172)
  have hbo:=fun k hk=>(hbb.block k (nL hk hz)).trans (H2.out.block k hk)
  simp only[WsaQ] at hbo hz
  exact⟨(hbo _ om).trans h3.1,(hbo _ om).trans h3.2.1,(hbo _ om).trans h3.2.2,(zd9 w2 _ _).1,(zd9 w2 _ _).2,by omega,(jH w _ _ _).trans ((H2.out.trans (hbb.mono H2.out.size)).mono (jH w _ _ _).size)⟩)
 obtain⟨O,hO⟩:∃O,O=w2.heap.size:=⟨_,rfl⟩
 rw[←hO] at HSTART
 rw[←hO]
 clear hO hsl
 go_loopg [20] (kids.length+1) (fun g i wr=>zkW w O #[.slice ka l.length kc,.int .i64 lo,.int .i64 hi] kids ⟨l,lo,hi⟩ T g i wr)
 case atStart=>exact⟨0,noF,by omega,rfl,HSTART.out,FP.start _ _ _⟩
 case round =>
  obtain⟨k,f,hkg,rfl,hB,hFP⟩:=hrel
  have HB:=hH hB
  have HFP:=hH hFP
  cases gk with
  | zero=>
    obtain rfl:k=kids.length+1:=by omega
    have hfe:=hFP.all
    rw[hfe] at hB
    have e1:=QL hB.ends
    have e2:=YQ hB.res (qm _)
    have HR:=hH (aN hB.res (aN hB.below hB.lt))
    clear hB hFP hfe HB HFP
    go_wp2_with fail
    try rw[Exit.noGoto_ret]
    have hr:=Ju (setRow_heap wr (w.heap.size+2) _ (vec (Jq kids ⟨l,lo,hi⟩ T)) _ _ HR.out.1)
    refine brQ (v:= .agg (vec (Jq kids ⟨l,lo,hi⟩ T))) (QD rfl _ _ ⟨w.heap.size+2,0,none⟩ _ rfl hr) rfl ⟨rfl,?_⟩
    exact below_setRow HR.out.2.1 om _
  | succ g =>
    have hk1:k≤kids.length:=by omega
    have hk2:(k:Int)<(kids.length:Int)+1:=by omega
    have c0:wr.cell? ⟨w.heap.size+1,k,none⟩=some (.bool (T k)):=cell0 hB.from_ k (ZJ T k om)
    have c1:wr.cell? ⟨w.heap.size,2,none⟩=some (.int .i64 hi):=cell0 hB.slot 2 rfl
    obtain⟨bb,hbb⟩:∃bb,bb=T k:=⟨_,rfl⟩
    rw[←hbb] at c0
    have HBB:=hH hbb
    clear hB hFP hbb
    cases bb
    · go_wp2_with fail
      go_roundg g
      case measure=>omega
      case rel=>exact⟨k+1,f,by omega,by go_num,HB.out,HFP.out.skip HBB.out.symm⟩
    · go_wp2_with fail
      clear c0 c1
      obtain⟨w3,rfl⟩:∃w3,w3=wr:=⟨_,rfl⟩
      go_loopg [30] (hi+1).toNat (fun g2 i wr=>zks w O #[.slice ka l.length kc,.int .i64 lo,.int .i64 hi] kids ⟨l,lo,hi⟩ T k g2 i wr)
      case atStart=>exact⟨0,f,by simp only;omega,rfl,by omega,HB.out,FI.start HFP.out,fun i h1 h2=>by omega⟩
      case round=>
       obtain⟨n,f2,hng,rfl,hkn,hB2,hFI,hown⟩:=hrel
       simp only at hng
       have HB2:=hH hB2
       have HFI:=hH hFI
       have HOWN:=hH hown
       have c1:wr.cell? ⟨w.heap.size,1,none⟩=some (.int .i64 lo):=cell0 hB2.slot 1 rfl
       cases gk with
       | zero=>
         have hn1:¬(n:Int)<hi+1:=by omega
         have HD:=hH (HFI.out.done (N:=n) om HBB.out.symm (fun i h3 h4=>HOWN.out i h3 om) ug1 (Or.inl ug1))
         clear hB2 hFI hown c1
         go_wp2_with fail
         go_roundg g
         case measure=>omega
         case rel=>exact⟨k+1,f2,by omega,by go_num,HB2.out,HD.out⟩
       | succ g2=>
         have hn1:(n:Int)<hi+1:=by omega
         have hkn2:k+n<201:=by omega
         have hkn3:(k:Int)+(n:Int)<201:=by omega
         have d0:wr.cell? ⟨O,k+n,none⟩=some (.bool (jR kids l (k+n))):=cell0 hB2.own (k+n) (ZJ _ _ hkn2)
         have d1:wr.cell? ⟨O+1,k+n,none⟩=some (.bool (f2 (k+n))):=cell0 hB2.ends (k+n) (ZJ _ _ hkn2)
         have d2:wr.frozen? ⟨O+1,k+n,none⟩=false:=forQ wr _ _ _ _ hB2.ends
         obtain⟨ob,hob⟩:∃ob,ob=jR kids l (k+n):=⟨_,rfl⟩
         rw[←hob] at d0
         have HOB:=hH hob
         clear hB2 hFI hown hob
         by_cases hlo:lo≤(n:Int)
         · cases ob
           · have HD:=hH ((HFI.out.put (n:=n) hlo).done (N:=n+1) om HBB.out.symm (fun i h3 h4=>HOWN.out i h3 om) ug1 (Or.inr ⟨by omega,HOB.out.symm⟩))
             go_wp2_with fail
             go_roundg g
             case measure=>omega
             case rel=>exact⟨k+1,_,by omega,by go_num,HB2.out.set (k+n),HD.out⟩
           · have HO2:=hH (zcF HOB.out.symm).1
             go_wp2_with fail
             go_roundg g2
             case measure=>omega
             case rel=>exact⟨n+1,_,by simp only;omega,by go_num,by have:=HO2.out;omega,HB2.out.set (k+n),HFI.out.put (n:=n) hlo,fun i h3 h4=>by by_cases e:i=k+n;exact e▸HOB.out.symm;exact HOWN.out i h3 om⟩
         · cases ob
           · have HD:=hH ((HFI.out.skip (n:=n) ug1).done (N:=n+1) om HBB.out.symm (fun i h3 h4=>HOWN.out i h3 om) ug1 (Or.inr ⟨by omega,HOB.out.symm⟩))
             go_wp2_with fail
             go_roundg g
             case measure=>omega
             case rel=>exact⟨k+1,_,by omega,by go_num,HB2.out,HD.out⟩
           · have HO2:=hH (zcF HOB.out.symm).1
             go_wp2_with fail
             go_roundg g2
             case measure=>omega
             case rel=>exact⟨n+1,_,by simp only;omega,by go_num,by have:=HO2.out;omega,HB2.out,HFI.out.skip (n:=n) ug1,fun i h3 h4=>by by_cases e:i=k+n;exact e▸HOB.out.symm;exact HOWN.out i h3 om⟩
end Go.Proofs.YtgkmmnihaiopaaaGreat
namespace Go.Proofs.YtgkmmnihaiopaaaGreat
open Go.RowKit
attribute [local go_sem ↓] loadT zcN storeT zbi zb8 zbg zcc zbh
attribute [local go_sem] Zd YT J7 zcr qm kR jM blk_alloc_new
theorem zj8 (f:Nat→Bool):(vec f= #[])=False:=by
 simp only[eq_iff_iff,iff_false];intro h
 have:=congrArg Array.size h
 rw[qm] at this;simp at this
theorem zgQ:(vec noF).setIfInBounds 0 (.bool true)=vec YI:=by rw[zcL];exact zfQ fun j _=>by by_cases e:j=0<;>simp[YI,noF,e]
attribute [local go_sem] zj8 zgQ
def zhk (l:List Sl):Prop:=∀s∈l,s.few∧0≤s.least∧s.least≤s.most∧s.most≤1000
theorem zdI {g:Gr}{n:Int}{k:Kd}(h:kindOf g n=some k)(hf:g.few):zhk k.slots:=by
 obtain⟨hg,j,_,_,hx⟩:=Yi h
 simp only[qB,Bool.and_eq_true,List.all_eq_true] at hg
 have h1:=hg.1.2 k (List.mem_of_getElem? hx)
 simp only[kindOk,Bool.and_eq_true,List.all_eq_true] at h1
 intro s hs
 have h2:=h1.2 s hs
 simp only[yM,qO,Bool.and_eq_true,decide_eq_true_eq] at h2
 exact⟨(hf.2 k (List.mem_of_getElem? hx)).2.2 s hs,by omega,by omega,by omega⟩
def zkL (w:World)(kids:List Int)(l:List Sl)(i:Value)(wr:World):Prop:=
 ∃(k:Nat),k≤l.length∧i= .int .i64 k∧wr.heap[w.heap.size]? =some (.cells (vec (ZP kids (l.take k))) 172 (0,0))∧Below w.heap.size w wr
theorem zce (w:World)(a:Option Addr)(cap:Nat)(kids:List Int)(a2:Option Addr)(cap2:Nat)(l:List Sl)(h:qz w a kids)(hl:kids.length≤200)(h2:vI w a2 l)(hl2:l.length≤1000000)(h3:zhk l):
 Calls Tryz.prog 129 #[.slice a kids.length cap,.slice a2 l.length cap2] w (Says (ZP kids l kids.length) w):=by
 have HA:=hH h
 have HK:=hH h2
 have H3:=hH h3
 clear h h2 h3
 have hbd:∀W,(zeroValue 172).run Tryz.prog W= .ok (.agg (vec noF)) W:=fun W=>by kernel_rfl
 go_enter Tryz.func129,Tryz.ntmps129
 go_wp2_with fail
 clear hbd
 go_loopw [11] (fun i wr=>zkL w kids l i wr) (fun i _=>l.length - (intOf i).toNat)
 case atStart=>exact⟨0,NzlQ _,rfl,hanQ w _,zg _ _⟩
 case round=>
  obtain⟨k,hkl,rfl,hb,hbel⟩:=hrel
  have HB:=hH (aN hb hbel)
  by_cases hlt:k<l.length
  · obtain⟨s,hx⟩:∃s,l[k]? =some s:=⟨l[k],List.getElem?_eq_getElem hlt⟩
    obtain⟨hs0,hs1,hs2,hs3⟩:=H3.out s (List.mem_of_getElem? hx)
    obtain⟨b,off,rfl,hblt,hc⟩:=(HK.out.below hbel) om
    obtain⟨ka2,kc2,d0,d1,d2,hi⟩:=hc k s hx
    have HI:=hH hi
    have HFEW:=hH hs0
    have HX:=hH (zbD (kids:=kids) hx)
    obtain⟨T,hT⟩:∃T,T=ZP kids (l.take k):=⟨_,rfl⟩
    rw[←hT] at hb HX
    have HAW:=hH (HA.out.below hbel)
    have hbk:blk (wr.alloc (.cells #[.slice ka2 s.kinds.length kc2,.int .i64 s.least,.int .i64 s.most] 55)) w.heap.size=vec T:=QL ((BhaQ _ _ _ (zN hb)).trans hb)
    have hkl2:(k:Int)<(l.length:Int):=by omega
    have HHB:=hH hb
    have HBEL:=hH hbel
    clear hx hc hi hb hbel hs0 HB hT
    go_wp2_with (go_at_call 131;((with_reducible refine (zbp _ _ _ kids _ s T (HAW.out.below (zg _ _)) hl (za8 (HI.out.below (zg _ _))) HFEW.out hs1 hs2 hs3).mono ?_);rintro e w2 ⟨rfl,h2⟩;have H2:=hH ((zg wr _).trans (h2.mono (zg wr _).size));have HF2:=hH ((H2.out.block _ (zN HHB.out)).trans HHB.out);have hfr:=YQ HF2.out (qm _);clear h2))
    refine⟨⟨k+1,by omega,by go_num,?_,?_⟩,by simp[intOf];omega⟩
    · rw[setRow_heap _ _ _ _ _ _ HF2.out,HX.out]
    · exact below_setRow (HBEL.out.trans (H2.out.mono HBEL.out.size)) (NlrQ _) _
  · obtain rfl:k=l.length:=by omega
    rw[List.take_of_length_le (NlrQ _)] at hb
    have c0:=cell0 hb kids.length (ZJ _ _ om)
    obtain⟨bb,hbb⟩:∃bb,bb=ZP kids l kids.length:=⟨_,rfl⟩
    rw[←hbb] at c0
    have HBB:=hH hbb
    have hk2:(kids.length:Int)<201:=by omega
    have hkl2:¬(l.length:Int)<(l.length:Int):=by omega
    have HBEL:=hH hbel
    clear hb hbel hlt HB hbb
    go_wp2_with fail
    go_ret
    exact Says.mk HBB.out.symm HBEL.out
theorem zhO (w:World)(v:Value)(g:Gr)(n:Int)(a:Option Addr)(cap:Nat)(kids:List Int)(hv:GrV w v g)(hf:g.few)(h:qz w a kids)(hl:kids.length≤1000000):
 Calls Tryz.prog 123 #[v,.int .i64 n,.slice a kids.length cap] w (Says (kJ (kindOf g n) kids) w):=by
 obtain⟨ka,kc,rfl,hk⟩:=hv
 obtain⟨l,root⟩:=g
 simp only at hk
 have HF:=hH hf
 have HK:=hH hk
 have HA:=hH h
 cases ho:kindOf ⟨l,root⟩ n with
 | none=>
   have HO:=hH ho
   clear ho hf hk h
   go_enter Tryz.func123,Tryz.ntmps123
   go_wp2_with (go_at_call 128;((with_reducible refine (zbM _ _ _ n (grV (HK.out.below (zg _ _))) HF.out HO.out).mono ?_);rintro e w2 ⟨rfl,h2⟩;have H2:=hH ((zg w _).trans (h2.mono (zg w _).size));clear h2))
   go_ret
   exact Says.mk rfl (H2.out.alloc H2.out.size _)
 | some k=>
   have HO:=hH ho
   have HS:=hH (zdI ho hf)
   have HS8:=hH (zdH ho).1
   clear ho hf hk h
   by_cases h200:kids.length≤200
   · have h200' :(kids.length:Int)≤200:=by omega
     have HV:=hH (show kJ (some k) kids=ZP kids k.slots kids.length by rw[kJ,decide_eq_true h200];rfl)
     go_enter Tryz.func123,Tryz.ntmps123
     go_wp2_with (first
      | (go_at_call 128;((with_reducible refine (jq _ _ _ n _ (grV (HK.out.below (zg _ _))) HF.out HO.out).mono ?_);rintro e w2 ⟨sa,sc,rfl,h2,hs⟩;have H2:=hH ((zg w _).trans (h2.mono (zg w _).size));have HSA:=hH hs;clear h2 hs))
      | (go_at_call 129;((with_reducible refine (zce _ _ _ kids _ _ _ ((HA.out.below H2.out).below (zg _ _)) h200 (HSA.out.below (zg _ _)) (NltQ HS8.out ug7) HS.out).mono ?_);rintro e w3 ⟨rfl,h3⟩;have H3:=hH h3;clear h3)))
     go_ret
     exact Says.mk HV.out ((H2.out.alloc H2.out.size _).trans (H3.out.mono (by have:=H2.out.size;simp;omega)))
   · have h200' :¬(kids.length:Int)≤200:=by omega
     have HV:=hH (show kJ (some k) kids=false by rw[kJ,decide_eq_false h200];rfl)
     go_enter Tryz.func123,Tryz.ntmps123
     go_wp2_with (go_at_call 128;((with_reducible refine (jq _ _ _ n _ (grV (HK.out.below (zg _ _))) HF.out HO.out).mono ?_);rintro e w2 ⟨sa,sc,rfl,h2,hs⟩;have H2:=hH ((zg w _).trans (h2.mono (zg w _).size));clear h2 hs))
     go_ret
     exact Says.mk HV.out (H2.out.alloc H2.out.size _)
end Go.Proofs.YtgkmmnihaiopaaaGreat
namespace Go.Proofs.YtgkmmnihaiopaaaGreat
open Go.RowKit
theorem zaL {g:Gr}{n:Int}(h:qB g=false):kindOf g n=none:=by rw[kindOf,inQ (by rw[h];simp)]
theorem zaM {g:Gr}{n:Int}(h:n<0):kindOf g n=none:=by rw[kindOf,inQ om]
theorem Jo {g:Gr}{n:Int}(h:(g.kinds.length:Int)≤n):kindOf g n=none:=by
 unfold kindOf;split
 · exact List.getElem?_eq_none om
 · rfl
theorem zbN {g:Gr}{j:Nat}{k:Kd}(h:qB g=true)(hk:g.kinds[j]? =some k):kindOf g (j:Int)=some k:=by
 rw[kindOf,ipQ ⟨h,by omega⟩];simpa using hk
theorem zgL (w:World)(v:Value)(g:Gr)(n:Int)(s:ByteArray)(hv:GrV w v g)(hf:g.few)(hs:(s.size:Int)≤9223372036854775807):Calls Tryz.prog 56 #[v,.int .i64 n,.string s] w (Says (Zp (kindOf g n) s) w):=by
 obtain⟨ka,kc,rfl,hk⟩:=hv
 obtain⟨l,root⟩:=g
 simp only at hk
 have hfl:l.length≤1000000:=hf.1
 have HF:=hH hf
 have HK:=hH hk
 obtain⟨bb,hbb⟩:∃bb,qB ⟨l,root⟩=bb:=⟨_,rfl⟩
 have HBB:=hH hbb
 clear hf hk hbb
 cases bb
 · go_enter Tryz.func56,Tryz.ntmps56
   exact se6
 · by_cases h1:n<0
   · go_enter Tryz.func56,Tryz.ntmps56
     exact se7
   by_cases h2:(l.length:Int)≤n
   · go_enter Tryz.func56,Tryz.ntmps56
     exact se2
   obtain⟨j,rfl⟩:∃j:Nat,n=(j:Int):=⟨n.toNat,by omega⟩
   obtain⟨k,hx⟩:∃x,l[j]? =some x:=⟨l[j]'om,List.getElem?_eq_getElem _⟩
   have HO:=hH (zbN (g:=⟨l,root⟩) HBB.out hx)
   obtain⟨b,off,rfl,hblt,hc⟩:=HK.out om
   obtain⟨sa,sc,_,c1,_,_⟩:=hc j k hx
   have HC:=hH c1
   have hj2:(j:Int)<(l.length:Int):=by omega
   clear hx hc c1 h1 h2
   obtain⟨nm,tx,sl⟩:=k
   by_cases he:s.toList.isEmpty=true
   · have he2:s.toList= []:=by simpa using he
     have HV:=hH (show Zp (kindOf ⟨l,root⟩ (j:Int)) s=true by rw[HO.out];simp[Zp,he2])
     go_enter Tryz.func56,Tryz.ntmps56
     exact se4
   · have he1:s.toList.isEmpty=false:=by simpa using he
     have he2:¬s.toList= []:=by simpa using he
     have HV:=hH (show Zp (kindOf ⟨l,root⟩ (j:Int)) s=(tx && decide (s.size≤40)) by rw[HO.out,Zp,he1];rfl)
     clear he
     cases tx
     · go_enter Tryz.func56,Tryz.ntmps56
       go_wp2_with (go_at_call 19;((with_reducible refine (yo _ _ _ (grV (HK.out.below (zg _ _))) HF.out).mono ?_);rintro e w2 ⟨rfl,h2⟩;rw[qX HBB.out];have H2:=hH ((zg w _).trans (h2.mono (zg w _).size));have p0:=yg h2 0 _ rfl;have d1:=(H2.out.cell hblt).trans HC.out;clear h2))
       go_ret
       exact Says.mk HV.out H2.out
     · by_cases h4:s.size≤40
       · have h4' :(s.size:Int)≤40:=by omega
         go_enter Tryz.func56,Tryz.ntmps56
         go_wp2_with (go_at_call 19;((with_reducible refine (yo _ _ _ (grV (HK.out.below (zg _ _))) HF.out).mono ?_);rintro e w2 ⟨rfl,h2⟩;rw[qX HBB.out];have H2:=hH ((zg w _).trans (h2.mono (zg w _).size));have p0:=yg h2 0 _ rfl;have d1:=(H2.out.cell hblt).trans HC.out;clear h2))
         go_ret
         exact Says.mk (by rw[HV.out,decide_eq_true h4];rfl) H2.out
       · have h4' :¬(s.size:Int)≤40:=by omega
         go_enter Tryz.func56,Tryz.ntmps56
         go_wp2_with (go_at_call 19;((with_reducible refine (yo _ _ _ (grV (HK.out.below (zg _ _))) HF.out).mono ?_);rintro e w2 ⟨rfl,h2⟩;rw[qX HBB.out];have H2:=hH ((zg w _).trans (h2.mono (zg w _).size));have p0:=yg h2 0 _ rfl;have d1:=(H2.out.cell hblt).trans HC.out;clear h2))
         go_ret
         exact Says.mk uc9 H2.out
def ZF (m:Nat)(f:Nat→Bool):Array Value:=((List.range m).map fun j=>Value.bool (f j)).toArray
theorem jZ (m:Nat)(f:Nat→Bool):(ZF m f).size=m:=by simp[ZF]
theorem kM (m:Nat)(f:Nat→Bool)(j:Nat)(h:j<m):(ZF m f)[j]? =some (.bool (f j)):=by simp[ZF,h]
theorem zij {m:Nat}{f g:Nat→Bool}(h:∀j,j<m→f j=g j):ZF m f=ZF m g:=by
 apply Array.ext_getElem?
 intro j
 by_cases hj:j<m
 · rw[kM _ _ j hj,kM _ _ j hj,h j hj]
 · rw[Array.getElem?_eq_none (by rw[jZ];omega),Array.getElem?_eq_none (by rw[jZ];omega)]
theorem zdV (m:Nat)(f:Nat→Bool)(i:Nat):(ZF m f).setIfInBounds i (.bool true)=ZF m (fun j=>if j=i then true else f j):=by
 apply Array.ext_getElem?
 intro j
 by_cases hj:j<m
 · rw[kM _ _ j hj,Array.getElem?_setIfInBounds]
   by_cases e:i=j
   · subst e;rw[ipQ rfl,ipQ (by rw[jZ];exact hj),ipQ rfl]
   · rw[inQ e,kM _ _ j hj,inQ (fun h=>e h.symm)]
 · rw[Array.getElem?_eq_none (by simp[jZ];omega),Array.getElem?_eq_none (by rw[jZ];omega)]
theorem zfd (m:Nat)(f:Nat→Bool):(ZF (m+1) f)[0]? =some (.bool (f 0)):=kM _ _ 0 om
theorem zgK (m:Nat):(ZF m noF).setIfInBounds 0 (.bool true)=ZF m YI:=by rw[zdV];exact zij fun j _=>by by_cases e:j=0<;>simp[YI,noF,e]
attribute [local go_sem] zfd zgK jZ
theorem zdy (W:World)(k:Nat)(h:k≤1000):(Instr.makeSlice 124 (.int .i64 ((k:Int)+1)) (.int .i64 ((k:Int)+1))).run Tryz.prog W= .ok (.slice (some ⟨W.heap.size,0,none⟩) (k+1) (k+1)) (W.alloc (.cells (ZF (k+1) noF) 4)):=by
 have hi4:(Tryz.prog.info? 4).map (fun i=>(i.zero,i.size,i.bytes))=some (some (.bool false),1,1):=by kernel_rfl
 obtain⟨i0,hi,hx⟩:=Option.map_eq_some_iff.1 hi4
 simp only[Prod.mk.injEq] at hx
 obtain⟨hz0,hz1,hz2⟩:=hx
 have e:((k:Int)+1).toNat=k+1:=by omega
 have hr:=run_makeSlice (P:=Tryz.prog) W 124 4 i0 (.bool false) Tryz.underlying124 hi hz0 .i64 .i64 ((k:Int)+1) ((k:Int)+1) om om (by rw[hz1];omega) (by rw[hz2];omega) om
 rw[hr,e,hz1]
 have e2:madeCells ((.bool false:Value).cells) ((k+1)*1)=ZF (k+1) noF:=by
  simp only[madeCells,ZF,noF,Value.cells]
  apply Array.ext sp1
  intro i h1 h2
  simp[Nat.mod_one]
 rw[e2]
structure ZM (B C N:Nat) (L:Nat) (w:World) (T f:Nat→Bool) (wr:World):Prop where
 from_:wr.heap[C]? =some (.cells (ZF (L+1) T) 4 (0,0))
 next:wr.heap[N]? =some (.cells (ZF (L+1) f) 4 (0,0))
 lt:C<N
 ge:B≤C
 below:Below B w wr
theorem ZM.set {B C N L:Nat}{w wr:World}{T f:Nat→Bool}(h:ZM B C N L w T f wr)(i:Nat):ZM B C N L w T (fun j=>if j=i then true else f j) (wr.setCell ⟨N,i,none⟩ (.bool true)):=by
 have h1:=h.lt
 have h2:=h.ge
 exact⟨by rw[BhsQ _ _ _ _ (by show C≠N;omega)];exact h.from_,by rw[hssQ _ N i _ _ _ h.next,zdV],h1,h2,h.below.setCell (by show B≤N;omega) _⟩
theorem ZM.more {B C N L:Nat}{w wr w' :World}{T f:Nat→Bool}(h:ZM B C N L w T f wr)(hb:Below wr.heap.size wr w'):ZM B C N L w T f w':=
 ⟨(hb.block _ (zN h.from_)).trans h.from_,(hb.block _ (zN h.next)).trans h.next,h.lt,h.ge,h.below.trans (hb.mono (NltQ h.ge (Nat.le_of_lt (zN h.from_))))⟩
theorem ZM.drewN {B C N L:Nat}{w wr:World}{T f:Nat→Bool}(h:ZM B C N L w T f wr)(n:Nat):ZM B C N L w T f (wr.drewN n):=h.more (below_drewN (BrQ _ _) n)
def zhe (w:World)(kids:List Int)(l:List Sl)(i v:Value)(wr:World):Prop:=
 ∃(k C:Nat) (T:Nat→Bool),k≤l.length∧i= .int .i64 k∧v= .slice (some ⟨C,0,none⟩) (kids.length+1) (kids.length+1)∧wr.heap[C]? =some (.cells (ZF (kids.length+1) T) 4 (0,0))∧w.heap.size≤C∧Below w.heap.size w wr∧T=ZP kids (l.take k)
def ziL (w:World)(C N:Nat)(kids:List Int)(s:Sl)(T:Nat→Bool)(g:Nat)(i:Value)(wr:World):Prop:=
 ∃(k:Nat) (f:Nat→Bool),k+g=kids.length+1∧i= .int .i64 k∧ZM w.heap.size C N kids.length w T f wr∧FP kids s T k f
def ziM (w:World)(C N:Nat)(kids:List Int)(s:Sl)(T:Nat→Bool)(k:Nat)(g:Nat)(i:Value)(wr:World):Prop:=
 ∃(n:Nat) (f:Nat→Bool),(n:Int)+(g:Int)=s.most+1∧i= .int .i64 n∧k+n≤kids.length+1∧ZM w.heap.size C N kids.length w T f wr∧FI kids s T k n f∧∀i,k≤i→i+1<k+n→jR kids s.kinds i=true
theorem zgH (w : World)(v:Value)(g:Gr)(n:Int)(a:Option Addr)(cap:Nat)(kids:List Int)(hv:GrV w v g)(hf:g.few)(h:qz w a kids)(hl:kids.length≤1000000):
 Calls Tryz.prog 57 #[v,.int .i64 n,.slice a kids.length cap] w (Says (kJ (kindOf g n) kids) w):=by
 obtain⟨ka,kc,rfl,hk⟩:=hv
 obtain⟨l,root⟩:=g
 simp only at hk
 have hfl:l.length≤1000000:=hf.1
 have HF:=hH hf
 have HK:=hH hk
 have HA:=hH h
 obtain⟨bb,hbb⟩:∃bb,qB ⟨l,root⟩=bb:=⟨_,rfl⟩
 have HBB:=hH hbb
 clear hk hbb h
 cases bb
 · clear hf
   go_enter Tryz.func57,Tryz.ntmps57
   exact se6
 by_cases h1:n<0
 · clear hf
   go_enter Tryz.func57,Tryz.ntmps57
   exact se7
 by_cases h2:(l.length:Int)≤n
 · clear hf
   go_enter Tryz.func57,Tryz.ntmps57
   exact se2
 obtain⟨j,rfl⟩:∃j:Nat,n=(j:Int):=⟨n.toNat,by omega⟩
 obtain⟨k,hx⟩:∃x,l[j]? =some x:=⟨l[j]'om,List.getElem?_eq_getElem _⟩
 have ho:=zbN (g:=⟨l,root⟩) HBB.out hx
 have HO:=hH ho
 obtain⟨h8,_⟩:=zdH ho
 have HS3:=hH (zdI ho hf)
 obtain⟨b,off,rfl,hblt,hc⟩:=HK.out om
 obtain⟨sa,sc,_,_,c2,hs⟩:=hc j k hx
 have HC:=hH c2
 have HS:=hH hs
 have hj2:(j:Int)<(l.length:Int):=by omega
 obtain⟨nm,tx,sl⟩:=k
 simp only at h8 HC HS HS3
 clear hx hc c2 h1 h2 ho hs hf
 by_cases h200:200<kids.length
 · have h200' :(200:Int)<(kids.length:Int):=by omega
   have HV:=hH (show kJ (kindOf ⟨l,root⟩ (j:Int)) kids=false by rw[HO.out,kJ,decide_eq_false om];rfl)
   go_enter Tryz.func57,Tryz.ntmps57
   exact se4
 have h200' :¬(200:Int)<(kids.length:Int):=by omega
 have HV:=hH (show kJ (kindOf ⟨l,root⟩ (j:Int)) kids=ZP kids sl kids.length by rw[HO.out,kJ,decide_eq_true om];rfl)
 have hmk:=fun W=>zdy W kids.length om
 have hj0:decide ((j:Int)<0)=false:=by rw[decide_eq_false];omega
 have hj4:decide (l.length≤j)=false:=by rw[decide_eq_false];omega
 have hj5:decide ((200:Int)<(kids.length:Int))=false:=by rw[decide_eq_false];omega
 have hk0:(0:Int)<(kids.length:Int)+1:=by omega
 go_enter Tryz.func57,Tryz.ntmps57
 go_wp2_with (go_at_call 19;((with_reducible refine (yo _ _ _ (grV (HK.out.below (zg _ _))) HF.out).mono ?_);rintro e w2 ⟨rfl,h2⟩;rw[qX HBB.out];have H2:=hH ((zg w _).trans (h2.mono (zg w _).size));have hz:w.heap.size<w2.heap.size:=(by have:=h2.size;simp at this;omega);have p0:=yg h2 0 _ rfl;have d2:=(H2.out.cell hblt).trans HC.out;have hbz:=nL hblt H2.out.size;clear h2))
 clear hmk p0 d2 hz hbz
 have HROW:=hH (show zhe w kids sl (.int .i64 0) (.slice (some ⟨w2.heap.size,0,none⟩) (kids.length+1) (kids.length+1)) (w2.alloc (.cells (ZF (kids.length+1) YI) 4)) from
  ⟨0,w2.heap.size,YI,NzlQ _,rfl,rfl,hanQ _ _,H2.out.size,H2.out.alloc H2.out.size _,rfl⟩)
 have hmk:=fun W=>zdy W kids.length om
 have HMK:=hH hmk
 clear hmk hj0 hk0 hj4 hj5
 go_loopw [7,9] (fun v i wr=>zhe w kids sl i v wr) (fun _ i _=>sl.length - (intOf i).toNat)
 case atStart=>exact HROW.out
 case round =>
  obtain⟨k,C,T,hkl,rfl,rfl,hb,hC,hbel,hT⟩:=hrel
  have HB:=hH (aN hb hbel)
  have HT:=hH hT
  by_cases hlt:k<sl.length
  case neg=>
   obtain rfl:k=sl.length:=by omega
   have c0:=cell0 hb kids.length (kM _ _ _ om)
   have HE:=hH (show ZP kids sl kids.length=T kids.length by rw[hT,List.take_of_length_le (NlrQ _)])
   obtain⟨bb,hbb⟩:∃bb,bb=T kids.length:=⟨_,rfl⟩
   rw[←hbb] at c0
   have HBB2:=hH hbb
   have hkl2:¬(sl.length:Int)<(sl.length:Int):=by omega
   clear hb hbel hT hbb hlt
   go_wp2_with fail
   go_ret
   exact Says.mk (by rw[HV.out,HE.out,←HBB2.out]) HB.out.2
  obtain⟨s,hx⟩:∃s,sl[k]? =some s:=⟨sl[k],List.getElem?_eq_getElem hlt⟩
  obtain⟨hs0,hs1,hs2,hs3⟩:=HS3.out s (List.mem_of_getElem? hx)
  have HFEW:=hH hs0
  have HSTEP:=hH (zbD (kids:=kids) hx)
  have hkl2:(k:Int)<(sl.length:Int):=by omega
  have HX:=hH hx
  have hmk:=HMK.out
  clear hx hb hbel hT hs0
  obtain⟨si,lo,hi⟩:=s
  simp only at hs1 hs2 hs3
  go_wp2_with fail
  clear hmk
  have HNEW:=hH (show ZM w.heap.size C wr.heap.size kids.length w T noF (wr.alloc (.cells (ZF (kids.length+1) noF) 4)) from
   ⟨by rw[BhaQ _ _ _ (zN HB.out.1)];exact HB.out.1,hanQ _ _,zN HB.out.1,hC,HB.out.2.alloc HB.out.2.size _⟩)
  obtain⟨w3,rfl⟩:∃w3,w3=wr:=⟨_,rfl⟩
  obtain⟨N,hN⟩:∃N,N=w3.heap.size:=⟨_,rfl⟩
  rw[←hN] at HNEW
  rw[←hN]
  clear hN
  go_loopg [11] (kids.length+1) (fun g i wr=>ziL w C N kids ⟨si,lo,hi⟩ T g i wr)
  case atStart=>exact⟨0,noF,by omega,rfl,HNEW.out,FP.start _ _ _⟩
  case round =>
   obtain⟨k2,f,hkg,rfl,hR,hFP⟩:=hrel
   have HR:=hH hR
   have HFP:=hH hFP
   cases gk with
   | zero=>
     obtain rfl:k2=kids.length+1:=by omega
     have HFE:=hH hFP.all
     have hk3:¬(kids.length:Int)+1≤(kids.length:Int):=by omega
     clear hR hFP
     go_wp2_with fail
     exact⟨⟨k+1,N,f,by omega,by go_num,rfl,HR.out.next,by have:=HR.out.lt;omega,HR.out.below,by rw[HFE.out,HSTEP.out,←HT.out]⟩,by simp[intOf];omega⟩
   | succ g =>
     have hk3:(k2:Int)≤(kids.length:Int):=by omega
     have c0:=cell0 hR.from_ k2 (kM _ _ _ om)
     have hk4:(k2:Int)<(kids.length:Int)+1:=by omega
     obtain⟨bb,hbb⟩:∃bb,bb=T k2:=⟨_,rfl⟩
     rw[←hbb] at c0
     have HTB:=hH hbb
     clear hR hFP hbb
     cases bb
     · go_wp2_with fail
       go_roundg g
       case measure=>omega
       case rel=>exact⟨k2+1,f,by omega,by go_num,HR.out,HFP.out.skip HTB.out.symm⟩
     · go_wp2_with fail
       clear c0
       obtain⟨w4,rfl⟩:∃w4,w4=wr:=⟨_,rfl⟩
       go_loopg [12] (hi+1).toNat (fun g2 i wr=>ziM w C N kids ⟨si,lo,hi⟩ T k2 g2 i wr)
       case atStart=>exact⟨0,f,by simp only;omega,rfl,by omega,HR.out,FI.start HFP.out,fun i h1 h2=>by omega⟩
       case round =>
        obtain⟨n,f2,hng,rfl,hkn,hR2,hFI,hown⟩:=hrel
        simp only at hng hown
        have HR2:=hH hR2
        have HFI:=hH hFI
        have HOWN:=hH hown
        obtain⟨b2,off2,rfl,hbz2,hc2⟩:=(HS.out.below hR2.below) om
        obtain⟨ka2,kc2,d0,d1,d2,hii⟩:=hc2 k _ HX.out
        simp only at d0 d1 d2 hii
        have HI:=hH hii
        clear hc2 hii
        cases gk with
        | zero=>
          have hn1:¬(n:Int)≤hi:=by omega
          have HD:=hH (HFI.out.done (N:=n) om HTB.out.symm (fun i h3 h4=>HOWN.out i h3 h4) ug1 (Or.inl ug1))
          exact sj4
        | succ g2 =>
          have hn1:(n:Int)≤hi:=by omega
          by_cases hle:k2+n≤kids.length
          case neg=>
           have hle2:¬(k2:Int)+(n:Int)≤(kids.length:Int):=by omega
           have HD:=hH (HFI.out.done (N:=n) om HTB.out.symm (fun i h3 h4=>HOWN.out i h3 h4) ug1 (Or.inr ⟨by omega,Q0 om⟩))
           exact sj4
          have hle2:(k2:Int)+(n:Int)≤(kids.length:Int):=by omega
          have hle3:(k2:Int)+(n:Int)<(kids.length:Int)+1:=by omega
          have hNz:N<wr.heap.size:=zN hR2.next
          have dN:=cell0 hR2.next (k2+n) (kM _ _ _ om)
          have dF:wr.frozen? ⟨N,k2+n,none⟩=false:=forQ wr _ _ _ _ hR2.next
          by_cases hn0:n=0
          · have HNX:=hH (show ∀i,k2≤i→i+1<k2+(n+1)→jR kids si i=true from fun i h3 h4=>by omega)
            have hn2:decide ((0:Int)<(n:Int))=false:=by rw[decide_eq_false];omega
            have hn3:decide (0<n)=false:=by rw[decide_eq_false];omega
            have HN0:=hH hn0
            clear hR2 hFI hown hn0
            go_wp2_with fail
            go_quiet (fail)
            by_cases hlo:lo≤(n:Int)
            · go_wp2_with fail
              go_roundg g2
              case measure=>omega
              case rel=>exact⟨n+1,_,by simp only;omega,by go_num,by omega,(HR2.out.drewN _).set (k2+n),HFI.out.put (n:=n) hlo,HNX.out⟩
            · go_wp2_with fail
              go_roundg g2
              case measure=>omega
              case rel=>exact⟨n+1,_,by simp only;omega,by go_num,by omega,HR2.out.drewN _,HFI.out.skip (n:=n) ug1,HNX.out⟩
          · obtain⟨p,hp⟩:∃p,p=k2+n - 1:=⟨_,rfl⟩
            obtain⟨x,hxk⟩:∃x,kids[p]? =some x:=⟨kids[p]'om,List.getElem?_eq_getElem _⟩
            obtain⟨ab,ao,rfl,habz,hca⟩:=(HA.out.below hR2.below) om
            have cx:=hca p x hxk
            have hpi:(k2:Int)+(n:Int) - 1=(p:Int):=by omega
            have hpl:(p:Int)<(kids.length:Int):=by omega
            have hn2:decide ((0:Int)<(n:Int))=true:=by rw[decide_eq_true];omega
            have hn3:decide (0<n)=true:=by rw[decide_eq_true];omega
            obtain⟨bx,hbx⟩:∃bx,qL si x=bx:=⟨_,rfl⟩
            have HBX:=hH hbx
            have HOB:=hH (show jR kids si (k2+n - 1)=bx by rw[←hp,Yw hxk,hbx])
            have HD1:=hH d1
            have HDN:=hH (aN dN dF)
            have HN0:=hH (aN hn0 hp)
            obtain⟨W,hW⟩:∃W,W=wr.drew:=⟨_,rfl⟩
            have HWE:=hH hW
            have hWb:Below wr.heap.size wr W:=by rw[hW];exact below_drewN (BrQ _ _) 1
            have HWB:=hH hWb
            have HIW:=hH (HI.out.below hWb)
            have d0':=(hWb.cell (p:=⟨b2,off2+k*3,none⟩) hbz2).trans d0
            have d1':=(hWb.cell (p:=⟨b2,off2+k*3+1,none⟩) hbz2).trans d1
            have d2':=(hWb.cell (p:=⟨b2,off2+k*3+2,none⟩) hbz2).trans d2
            have cx':=(hWb.cell (p:=⟨ab,ao+p,none⟩) habz).trans cx
            have wr1:IntKind.i64.wrap ((k2:Int)+(n:Int))=(k2:Int)+(n:Int):=IntWalk.i64_in _ om
            have wr3:IntKind.i64.wrap (p:Int)=(p:Int):=IntWalk.i64_in _ om
            clear hR2 hFI hown hca hxk hbx hn0 hp hW hWb
            cases bx
            · have HD:=hH (HFI.out.done (N:=n) om HTB.out.symm (fun i h3 h4=>HOWN.out i h3 h4) ug1 (Or.inr ⟨by have:=HN0.out.1;omega,HOB.out⟩))
              go_wp2_with fail
              have hdr:({ heap:=wr.heap,tape:=wr.tape,drawn:=wr.drawn+1,os:=wr.os,output:=wr.output }:World)=W:=HWE.out.symm
              refine wp_region_still_tail 14 kr1 kr1 ?_
              simp only[List.take_succ_cons,List.take_zero,List.drop_succ_cons,List.drop_zero]
              rw[hdr]
              clear hdr
              repeat still_step
              try refine wpStill_nil ?_
              clear wr1 wr3
              go_wp2_with (go_at_call 74;((with_reducible refine (zcv _ _ ⟨si,lo,hi⟩ x (za8 (s:=⟨si,lo,hi⟩) HIW.out) HFEW.out).mono ?_);rintro e w5 ⟨rfl,h5⟩;rw[HBX.out];have H5:=hH (HWB.out.trans (h5.mono HWB.out.size));have e1:=(H5.out.cell hbz2).trans HD1.out;have e2:=(H5.out.cell (p:=⟨N,k2+n,none⟩) hNz).trans HDN.out.1;have e3:=(H5.out.frozen (p:=⟨N,k2+n,none⟩) hNz).trans HDN.out.2;have hz5:wr.heap.size≤w5.heap.size:=H5.out.size;have hz6:b2<w5.heap.size:=om;have hz7:N<w5.heap.size:=om;clear h5))
              go_roundg g
              case measure=>omega
              case rel=>exact⟨k2+1,f2,by omega,by go_num,HR2.out.more H5.out,HD.out⟩
            · have HNX:=hH (show ∀i,k2≤i→i+1<k2+(n+1)→jR kids si i=true from fun i h3 h4=>by by_cases e:i=k2+n - 1;exact e▸HOB.out;exact HOWN.out i h3 om)
              by_cases hlo:lo≤(n:Int)
              · go_wp2_with fail
                have hdr:({ heap:=wr.heap,tape:=wr.tape,drawn:=wr.drawn+1,os:=wr.os,output:=wr.output }:World)=W:=HWE.out.symm
                refine wp_region_still_tail 14 kr1 kr1 ?_
                simp only[List.take_succ_cons,List.take_zero,List.drop_succ_cons,List.drop_zero]
                rw[hdr]
                clear hdr
                repeat still_step
                try refine wpStill_nil ?_
                clear wr1 wr3
                go_wp2_with (go_at_call 74;((with_reducible refine (zcv _ _ ⟨si,lo,hi⟩ x (za8 (s:=⟨si,lo,hi⟩) HIW.out) HFEW.out).mono ?_);rintro e w5 ⟨rfl,h5⟩;rw[HBX.out];have H5:=hH (HWB.out.trans (h5.mono HWB.out.size));have e1:=(H5.out.cell hbz2).trans HD1.out;have e2:=(H5.out.cell (p:=⟨N,k2+n,none⟩) hNz).trans HDN.out.1;have e3:=(H5.out.frozen (p:=⟨N,k2+n,none⟩) hNz).trans HDN.out.2;have hz5:wr.heap.size≤w5.heap.size:=H5.out.size;have hz6:b2<w5.heap.size:=om;have hz7:N<w5.heap.size:=om;clear h5))
                go_roundg g2
                case measure=>omega
                case rel=>exact⟨n+1,_,by simp only;omega,by go_num,by omega,(HR2.out.more H5.out).set (k2+n),HFI.out.put (n:=n) hlo,HNX.out⟩
              · go_wp2_with fail
                have hdr:({ heap:=wr.heap,tape:=wr.tape,drawn:=wr.drawn+1,os:=wr.os,output:=wr.output }:World)=W:=HWE.out.symm
                refine wp_region_still_tail 14 kr1 kr1 ?_
                simp only[List.take_succ_cons,List.take_zero,List.drop_succ_cons,List.drop_zero]
                rw[hdr]
                clear hdr
                repeat still_step
                try refine wpStill_nil ?_
                clear wr1 wr3
                go_wp2_with (go_at_call 74;((with_reducible refine (zcv _ _ ⟨si,lo,hi⟩ x (za8 (s:=⟨si,lo,hi⟩) HIW.out) HFEW.out).mono ?_);rintro e w5 ⟨rfl,h5⟩;rw[HBX.out];have H5:=hH (HWB.out.trans (h5.mono HWB.out.size));have e1:=(H5.out.cell hbz2).trans HD1.out;have e2:=(H5.out.cell (p:=⟨N,k2+n,none⟩) hNz).trans HDN.out.1;have e3:=(H5.out.frozen (p:=⟨N,k2+n,none⟩) hNz).trans HDN.out.2;have hz5:wr.heap.size≤w5.heap.size:=H5.out.size;have hz6:b2<w5.heap.size:=om;have hz7:N<w5.heap.size:=om;clear h5))
                go_roundg g2
                case measure=>omega
                case rel=>exact⟨n+1,_,by simp only;omega,by go_num,by omega,HR2.out.more H5.out,HFI.out.skip (n:=n) ug1,HNX.out⟩
end Go.Proofs.YtgkmmnihaiopaaaGreat
