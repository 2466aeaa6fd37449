/-
  .
-/
import Derived.Test.YtgkmmnihaiopaaaGreatGRCheckQu
import Derived.Test.YtgkmmnihaiopaaaGreatGWideQu
import Derived.Laws.CopyOwn
import Derived.Deep.LoopGhost
import Derived.WalkMore
import Derived.Test.YtgkmmnihaiopaaaGreatJPgQu
import Derived.Test.YtgkmmnihaiopaaaGreatJPsQu
set_option maxRecDepth 100000
set_option maxHeartbeats 40000000

namespace Go.Proofs.YtgkmmnihaiopaaaGreat
open Go.RowKit Go.Maps
def kQ (o:Option Kd) (s:ByteArray):Bool:=match o with
 | none=>false
 | some k=>s.toList.isEmpty || (k.text && decide (s.size≤40))
def ziU (l:List Sl):Prop:=l.length≤8∧∀s∈l,0≤s.least∧s.least≤1000
theorem zcV {g:Gr} {n:Int} {k:Kd} (h:kindOf g n=some k):ziU k.slots:=by
 obtain⟨hg,j,_,_,hx⟩:=ZL h
 simp only[qz,Bool.and_eq_true,List.all_eq_true] at hg
 have h1:=hg.1.2 k (List.mem_of_getElem? hx)
 simp only[kindOk,kG,Bool.and_eq_true,decide_eq_true_eq,List.all_eq_true] at h1
 refine⟨h1.1.2,fun s hs=>?_⟩
 have h2:=h1.2 s hs
 simp only[yL,qJ,Bool.and_eq_true,decide_eq_true_eq] at h2
 omega
theorem zhD (w:World) (v:Value) (g:Gr) (n:Int) (s:ByteArray) (hv:GrV w v g) (hf:g.few) (hs:(s.size:Int)≤9223372036854775807):Calls Tryz.prog 122 #[v,.int .i64 n,.string s] w (Says (kQ (kindOf g n) s) w):=by
 obtain⟨ka,kc,rfl,hk⟩:=hv
 obtain⟨l,root⟩:=g
 simp only at hk
 have HF:=hH hf
 have HK:=hH hk
 clear hf hk
 cases ho:kindOf ⟨l,root⟩ n with
 | none=>
   have HO:=hH ho
   clear ho
   go_enter Tryz.func122,Tryz.ntmps122
   go_wp2_with (go_at_call 128;((with_reducible refine (za3 _ _ _ n (grV (HK.out.below (zh _ _))) HF.out HO.out).mono ?_);rintro e w2 ⟨rfl,h2⟩;have H2:=hH h2;clear h2))
   go_ret
   exact⟨rfl,((zh w _).trans (H2.out.mono (zh w _).size)).alloc ((zh w _).trans (H2.out.mono (zh w _).size)).size _⟩
 | some k =>
   have HO:=hH ho
   clear ho
   obtain⟨nm,tx,sl⟩:=k
   by_cases he:s.toList.isEmpty=true
   · have he2:s.toList= []:=by simpa using he
     have HV:=hH (show kQ (some ⟨nm,tx,sl⟩) s=true by simp[kQ,he2])
     go_enter Tryz.func122,Tryz.ntmps122
     exact se4
   · have he1:s.toList.isEmpty=false:=by simpa using he
     have he2:¬s.toList= []:=by simpa using he
     have HV:=hH (show kQ (some ⟨nm,tx,sl⟩) s=(tx && decide (s.size≤40)) by rw[kQ,he1];rfl)
     clear he
     cases tx
     · go_enter Tryz.func122,Tryz.ntmps122
       exact se4
     · by_cases h4:s.size≤40
       · have h4' :(s.size:Int)≤40:=by omega
         go_enter Tryz.func122,Tryz.ntmps122
         go_wp2_with (go_at_call 128;((with_reducible refine (vO _ _ _ n _ (grV (HK.out.below (zh _ _))) HF.out HO.out).mono ?_);rintro e w2 ⟨sa,sc,rfl,h2,_⟩;have H2:=hH ((zh w _).trans (h2.mono (zh w _).size));clear h2))
         go_ret
         exact Says.mk (by rw[HV.out,decide_eq_true h4];rfl) (H2.out.alloc H2.out.size _)
       · have h4' :¬(s.size:Int)≤40:=by omega
         go_enter Tryz.func122,Tryz.ntmps122
         go_wp2_with (go_at_call 128;((with_reducible refine (vO _ _ _ n _ (grV (HK.out.below (zh _ _))) HF.out HO.out).mono ?_);rintro e w2 ⟨sa,sc,rfl,h2,_⟩;have H2:=hH ((zh w _).trans (h2.mono (zh w _).size));clear h2))
         go_ret
         exact Says.mk (by rw[HV.out,decide_eq_false h4];first | rfl | (rw[decide_eq_false om];rfl)) (H2.out.alloc H2.out.size _)
end Go.Proofs.YtgkmmnihaiopaaaGreat
namespace Go.Proofs.YtgkmmnihaiopaaaGreat
open Go.RowKit
theorem Ja {w wr:World} (h:Below w.heap.size w wr) (o o' :Obj):Below w.heap.size w ((wr.alloc o).alloc o'):=(h.alloc h.size _).alloc (by have:=h.size;simp;omega) _
theorem zdo (w:World) (o o' :Obj):((w.alloc o).alloc o').heap[w.heap.size]? =some o∧((w.alloc o).alloc o').heap[w.heap.size+1]? =some o':=by
 refine⟨by rw[BhaQ _ _ _ sp1];exact hanQ w o,?_⟩
 have:=hanQ (w.alloc o) o'
 simpa using this
theorem cell0 {w:World} {b:Nat} {cs:Array Value} {t:TypeId} (h:w.heap[b]? =some (.cells cs t (0,0))) (j:Nat) {v:Value} (hv:cs[j]? =some v):w.cell? ⟨b,j,none⟩=some v:=by
 rw[corQ w b j _ _ _ h];exact hv
theorem len3 {n k:Nat} (h:n=k):(n:Int)=(k:Int):=by rw[h]
end Go.Proofs.YtgkmmnihaiopaaaGreat
namespace Go.Proofs.YtgkmmnihaiopaaaGreat
structure Jc (kids:List Int) (s:Sl) (b j:Nat):Prop where
 le:b≤j
 ends:j≤kids.length
 least:s.least≤((j - b:Nat):Int)
 most:((j - b:Nat):Int)≤s.most
 all:∀i x,b≤i→i<j→kids[i]? =some x→qG s.kinds x=true
def zaA (kids:List Int) (s:Sl) (b j:Nat):Bool:=
 decide (b≤j) && decide (j≤kids.length) && decide (s.least≤((j - b:Nat):Int)) && decide (((j - b:Nat):Int)≤s.most) && ((kids.drop b).take (j - b)).all (qG s.kinds)
theorem zbY {kids:List Int} {s:Sl} {b j:Nat}:zaA kids s b j=true↔Jc kids s b j:=by
 simp only[zaA,Bool.and_eq_true,decide_eq_true_eq,List.all_eq_true]
 constructor
 · rintro ⟨⟨⟨⟨h1,h2⟩,h3⟩,h4⟩,h5⟩
   refine⟨h1,h2,h3,h4,fun i x hi hj hx=>h5 x ?_⟩
   rw[List.mem_iff_getElem?]
   exact⟨i - b,by rw[List.getElem?_take,if_pos om,List.getElem?_drop,show b+(i - b)=i by omega];exact hx⟩
 · rintro ⟨h1,h2,h3,h4,h5⟩
   refine⟨⟨⟨⟨h1,h2⟩,h3⟩,h4⟩,fun x hx=>?_⟩
   obtain⟨i,hi⟩:=List.mem_iff_getElem?.1 hx
   rw[List.getElem?_take] at hi
   split at hi
   · rw[List.getElem?_drop] at hi
     exact h5 (b+i) x om om hi
   · cases hi
def QV (kids:List Int) (s:Sl) (T:Nat→Bool):Nat→Bool:=fun j=>(List.range (j+1)).any fun b=>T b && zaA kids s b j
theorem zfC {kids:List Int} {s:Sl} {T:Nat→Bool} {j:Nat}:QV kids s T j=true↔∃b,T b=true∧Jc kids s b j:=by
 simp only[QV,List.any_eq_true,List.mem_range,Bool.and_eq_true,zbY]
 exact⟨fun ⟨b,_,h⟩=>⟨b,h⟩,fun ⟨b,h⟩=>⟨b,by have:=h.2.le;omega,h⟩⟩
def Zp (kids:List Int) (slots:List Sl):Nat→Bool:=slots.foldl (fun T s=>QV kids s T) Ye
def jT (o:Option Kd) (kids:List Int):Bool:=match o with
 | none=>false
 | some k=>decide (kids.length≤200) && Zp kids k.slots kids.length
theorem zaY {kids:List Int} {slots:List Sl} {k:Nat} {s:Sl} (hs:slots[k]? =some s):Zp kids (slots.take (k+1))=QV kids s (Zp kids (slots.take k)):=by
 rw[Z7 hs,Zp,List.foldl_append];rfl
def jo (kids:List Int) (kinds:List Int):Nat→Bool:=fun i=>match kids[i]? with
 | some x=>qG kinds x
 | none=>false
theorem Z5 {kids kinds:List Int} {i:Nat} {x:Int} (h:kids[i]? =some x):jo kids kinds i=qG kinds x:=by simp[jo,h]
theorem Qz {kids kinds:List Int} {i:Nat} (h:kids.length≤i):jo kids kinds i=false:=by simp[jo,List.getElem?_eq_none h]
end Go.Proofs.YtgkmmnihaiopaaaGreat
namespace Go.Proofs.YtgkmmnihaiopaaaGreat
open Go.RowKit
attribute [local go_sem ↓] loadT zb3 storeT zaE zbp zaC zbt zaD
attribute [local go_sem] kz Yx Jz zbF y9 j4 ji blk_alloc_new
def zje (f:Nat→Bool) (w:World) (e:Ending) (w' :World):Prop:=e= .returned (.agg (vec f))∧Below w.heap.size w w'
theorem QY {w:World} {b:Nat} {f:Nat→Bool} {t:TypeId} (h:w.heap[b]? =some (.cells (vec f) t (0,0))):(loadVar 172 ⟨b,0,none⟩).run Tryz.prog w= .ok (.agg (vec f)) w:=by
 have:=Y5 (P:=Tryz.prog) w b 201 172 _ Tryz.underlying172 rfl Tryz.zhA (by rw[Qk h,y9])
 rwa [Qk h] at this
theorem Qc {P:Program} {fn:Func} {p:Tmp} {ty:TypeId} (h:fn.results= #[.cell p ty]) (tmps:Array Value) (w:World) (a:Addr) (v:Value) (hp:tmps.getD p undef= .pointer (some a)) (hv:(loadVar ty a).run P w= .ok v w):
 (results fn tmps).run P w= .ok v w:=by
 have hp' :tmps[p]?.getD undef= .pointer (some a):=by simpa using hp
 simp[results,h,hp',asAddr,hv]
def zgf (w:World) (c:Array Value) (kids kinds:List Int) (i:Value) (wr:World):Prop:=
 ∃ (k:Nat) (f:Nat→Bool),k≤kids.length∧i= .int .i64 k∧wr.heap[w.heap.size]? =some (.cells c 55 (0,0))∧wr.heap[w.heap.size+1]? =some (.cells (vec noF) 172 (0,0))∧wr.heap[w.heap.size+2]? =some (.cells (vec f) 172 (0,0))∧
  Below w.heap.size w wr∧∀j,f j=(decide (j<k) && jo kids kinds j)
theorem Zk (w:World) (o o' o'' :Obj):(((w.alloc o).alloc o').alloc o'').heap[w.heap.size]? =some o∧(((w.alloc o).alloc o').alloc o'').heap[w.heap.size+1]? =some o'∧(((w.alloc o).alloc o').alloc o'').heap[w.heap.size+2]? =some o'':=by
 have h1:=hanQ (w.alloc o) o'
 have h2:=hanQ ((w.alloc o).alloc o') o''
 simp only[WsaQ] at h1 h2
 exact⟨by rw[BhaQ _ _ _ (by simp;omega),BhaQ _ _ _ sp1];exact hanQ w o,by rw[BhaQ _ _ _ sp1];exact h1,h2⟩
theorem jg (w:World) (o o' o'' :Obj):Below w.heap.size w (((w.alloc o).alloc o').alloc o''):=(((BrQ _ _).alloc (Nat.le_refl _) _).alloc sp1 _).alloc (by simp;omega) _
theorem zcs (w:World) (a:Option Addr) (cap:Nat) (kids:List Int) (v:Value) (s:Sl) (h:qw w a kids) (hl:kids.length≤200) (hv:zcb w v s) (hf:s.few):
 Calls Tryz.prog 132 #[.slice a kids.length cap,v] w (zje (jo kids s.kinds) w):=by
 obtain⟨ka,kc,rfl,hk⟩:=hv
 obtain⟨l,lo,hi⟩:=s
 simp only at hk ⊢
 have hfl:l.length≤1000000:=hf
 have HK:=hH hk
 have HA:=hH h
 clear hf hk h
 go_enter Tryz.func132,Tryz.ntmps132
 go_wp2_with fail
 go_loopw [10] (fun i wr=>zgf w #[.slice ka l.length kc,.int .i64 lo,.int .i64 hi] kids l i wr) (fun i _=>kids.length - (intOf i).toNat)
 case atStart=>exact⟨0,noF,Nat.zero_le _,rfl,(Zk w _ _ _).1,(Zk w _ _ _).2.1,(Zk w _ _ _).2.2,jg _ _ _ _,fun j=>by simp[noF]⟩
 case round=>
  obtain⟨k,f,hkl,rfl,hb0,hb1,hb2,hbel,hff⟩:=hrel
  have HB:=hH (aN hb0 (aN hb1 (aN hb2 hbel)))
  have HF:=hH hff
  by_cases hlt:k<kids.length
  · obtain⟨x,hx⟩:∃x,kids[k]? =some x:=⟨kids[k],List.getElem?_eq_getElem hlt⟩
    obtain⟨b,off,rfl,hblt,hc⟩:=(HA.out.below hbel) om
    have c0:=hc k x hx
    have p0:=cell0 hb0 0 rfl
    have q0:wr.cell? ⟨w.heap.size+2,k,none⟩=some (.bool (f k)):=cell0 hb2 k (Zl f k om)
    have q1:∀j,wr.frozen? ⟨w.heap.size+2,j,none⟩=false:=fun j=>forQ wr _ j _ _ hb2
    have q2:=q1 k
    have HC:=hH (zbz wr ka kc l x (HK.out.below hbel) hfl)
    have HX:=hH hx
    have hk2:(k:Int)<(kids.length:Int):=by omega
    have hk3:(k:Int)<201:=by omega
    clear hx hc hb0 hb1 hb2 hbel hff q1
    obtain⟨bb,hbb⟩:∃bb,bb=qG l x:=⟨_,rfl⟩
    rw[←hbb] at HC
    have HBB:=hH hbb
    clear hbb
    go_wp2_with (go_at_call 133;((with_reducible refine HC.out.mono ?_);rintro e w2 ⟨rfl,rfl⟩))
    refine⟨⟨k+1,fun j=>if j=k then bb else f j,by omega,by go_num,?_,?_,?_,?_,?_⟩,by simp[intOf];omega⟩
    · rw[BhsQ _ _ _ _ (by show w.heap.size≠w.heap.size+2;omega)];exact HB.out.1
    · rw[BhsQ _ _ _ _ (by show w.heap.size+1≠w.heap.size+2;omega)];exact HB.out.2.1
    · rw[hssQ _ _ k _ _ _ HB.out.2.2.1,zb1]
    · exact HB.out.2.2.2.setCell (by show w.heap.size≤w.heap.size+2;omega) _
    · intro j
      by_cases e:j=k
      · subst e;show (if j=j then bb else f j)=_;rw[if_pos rfl,Z5 HX.out,HBB.out,decide_eq_true om];rfl
      · show (if j=k then bb else f j)=_
        rw[if_neg e,HF.out]
        congr 1
        exact decide_eq_decide.2 om
  · obtain rfl:k=kids.length:=by omega
    have hfe:vec f=vec (jo kids l):=zeP fun j _=>by
     rw[hff]
     by_cases e:j<kids.length
     · rw[decide_eq_true e];rfl
     · rw[decide_eq_false e,Qz om];rfl
    rw[hfe] at hb2
    have e1:=Qk hb2
    have e2:=Yu hb1 (y9 _)
    have hk2:¬(kids.length:Int)<(kids.length:Int):=by omega
    clear hlt hfe hff HF HB
    have HB1:=hH hb1
    have HB2:=hH hbel
    clear hb0 hb1 hb2 hbel
    go_wp2_with fail
    have hr:=QY (setRow_heap wr (w.heap.size+1) _ (vec (jo kids l)) _ _ HB1.out)
    refine brQ (v:= .agg (vec (jo kids l))) (Qc rfl _ _ ⟨w.heap.size+1,0,none⟩ _ rfl hr) rfl ⟨rfl,?_⟩
    exact below_setRow HB2.out om _
end Go.Proofs.YtgkmmnihaiopaaaGreat
namespace Go.Proofs.YtgkmmnihaiopaaaGreat
def FP (kids:List Int) (s:Sl) (T:Nat→Bool) (c:Nat) (f:Nat→Bool):Prop:=∀j,f j=true↔∃b,b<c∧T b=true∧Jc kids s b j
def FI (kids:List Int) (s:Sl) (T:Nat→Bool) (c n:Nat) (f:Nat→Bool):Prop:=∀j,f j=true↔(∃b,b<c∧T b=true∧Jc kids s b j)∨∃m:Nat,m<n∧s.least≤(m:Int)∧j=c+m
def zjl (kids:List Int) (s:Sl) (c n:Nat):Prop:=∀i,c≤i→i<c+n→jo kids s.kinds i=true
theorem FP.start (kids:List Int) (s:Sl) (T:Nat→Bool):FP kids s T 0 noF:=fun j=>⟨fun h=>by simp[noF] at h,fun ⟨b,h,_⟩=>by omega⟩
theorem FP.skip {kids:List Int} {s:Sl} {T:Nat→Bool} {c:Nat} {f:Nat→Bool} (h:FP kids s T c f) (hT:T c=false):FP kids s T (c+1) f:=fun j=>by
 rw[h j]
 constructor
 · rintro ⟨b,h1,h2⟩;exact⟨b,by omega,h2⟩
 · rintro ⟨b,h1,h2,h3⟩
   refine⟨b,?_,h2,h3⟩
   by_cases e:b=c
   · subst e;rw[hT] at h2;cases h2
   · omega
theorem FP.all {kids:List Int} {s:Sl} {T:Nat→Bool} {f:Nat→Bool} (h:FP kids s T (kids.length+1) f):f=QV kids s T:=by
 funext j
 rw[Bool.eq_iff_iff,h j,zfC]
 constructor
 · rintro ⟨b,_,h⟩;exact⟨b,h⟩
 · rintro ⟨b,h1,h2⟩;exact⟨b,by have:=h2.le;have:=h2.ends;omega,h1,h2⟩
theorem FI.start {kids:List Int} {s:Sl} {T:Nat→Bool} {c:Nat} {f:Nat→Bool} (h:FP kids s T c f):FI kids s T c 0 f:=fun j=>by
 rw[h j]
 exact⟨Or.inl,fun h=>h.elim id fun ⟨m,h,_⟩=>by omega⟩
theorem FI.skip {kids:List Int} {s:Sl} {T:Nat→Bool} {c n:Nat} {f:Nat→Bool} (h:FI kids s T c n f) (hn:(n:Int)<s.least):FI kids s T c (n+1) f:=fun j=>by
 rw[h j]
 exact sg0
theorem FI.put {kids:List Int} {s:Sl} {T:Nat→Bool} {c n:Nat} {f:Nat→Bool} (h:FI kids s T c n f) (hn:s.least≤(n:Int)):FI kids s T c (n+1) (fun j=>if j=c+n then true else f j):=fun j=>by
 show (if j=c+n then true else f j)=true↔_
 by_cases e:j=c+n
 · rw[if_pos e]
   exact⟨fun _=>Or.inr ⟨n,by omega,hn,e⟩,fun _=>rfl⟩
 · rw[if_neg e,h j]
   exact sg0
theorem zbQ {kids:List Int} {kinds:List Int} {i:Nat} (h:jo kids kinds i=true):i<kids.length∧∀x,kids[i]? =some x→qG kinds x=true:=by
 by_cases hi:i<kids.length
 · refine⟨hi,fun x hx=>?_⟩
   rw[Z5 hx] at h;exact h
 · rw[Qz om] at h;cases h
theorem FI.done {kids:List Int} {s:Sl} {T:Nat→Bool} {c N:Nat} {f:Nat→Bool} (h:FI kids s T c N f) (hc:c≤kids.length) (hT:T c=true) (ho:∀i,c≤i→i+1<c+N→jo kids s.kinds i=true)
 (hN:(N:Int)≤s.most+1) (hend:(N:Int)=s.most+1∨1≤N∧jo kids s.kinds (c+N - 1)=false):FP kids s T (c+1) f:=fun j=>by
 rw[h j]
 constructor
 · rintro (⟨b,h1,h2⟩ | ⟨m,h1,h2,h3⟩)
   · exact⟨b,by omega,h2⟩
   · refine⟨c,by omega,hT,by omega,?_,?_,?_,fun i x hi hj hx=>(zbQ (ho i hi om)).2 x hx⟩
     · by_cases e:m=0
       · omega
       · have:=(zbQ (ho (c+m - 1) om om)).1;omega
     · rw[show j - c=m by omega];exact h2
     · rw[show j - c=m by omega];omega
 · rintro ⟨b,h1,h2,h3⟩
   by_cases e:b=c
   · subst e
     refine Or.inr ⟨j - b,?_,h3.least,by have:=h3.le;omega⟩
     rcases hend with hend | ⟨h1N,hend⟩
     · have:=h3.most;omega
     · by_cases hlt:j - b<N
       · exact hlt
       · exfalso
         have hj:=h3.ends
         have hle:=h3.le
         have hi:b+N - 1<kids.length:=by omega
         have hx:=List.getElem?_eq_getElem hi
         have:=h3.all (b+N - 1) _ om om hx
         rw[Z5 hx,this] at hend
         cases hend
   · exact Or.inl ⟨b,by omega,h2,h3⟩
end Go.Proofs.YtgkmmnihaiopaaaGreat
namespace Go.Proofs.YtgkmmnihaiopaaaGreat
open Go.RowKit
attribute [local go_sem ↓] loadT zb3 storeT zaE zbp zaC zbt zaD
attribute [local go_sem] kz Yx Jz zbF y9 j4 ji blk_alloc_new
theorem zhB (W:World) (b k:Nat) (h:k≤200):(Instr.sliceAt 172 (.pointer (some ⟨b,0,none⟩)) none (some (.int .i64 ((k:Int)+1))) none).run Tryz.prog W= .ok (.slice (some ⟨b,0,none⟩) (k+1) 201) W:=by
 have ha:Tryz.prog.arrayLen 172=201:=by kernel_rfl
 have hs:∀W,(sizeOf (Tryz.prog.elem 172)).run Tryz.prog W= .ok 1 W:=fun W=>by kernel_rfl
 rw[run_sliceAt_array_h (P:=Tryz.prog) W 172 ⟨b,0,none⟩ kr1 .i64 ((k:Int)+1) om (by rw[ha];omega),hs,ha]
 show Result.ok _ _=_
 have e:((k:Int)+1).toNat=k+1:=by omega
 simp only[slicedAt,e]
 congr 2
structure ze2 (w:World) (O:Nat) (c:Array Value) (T own f:Nat→Bool) (wr:World):Prop where
 slot:wr.heap[w.heap.size]? =some (.cells c 55 (0,0))
 from_:wr.heap[w.heap.size+1]? =some (.cells (vec T) 172 (0,0))
 res:wr.heap[w.heap.size+2]? =some (.cells (vec noF) 172 (0,0))
 own:wr.heap[O]? =some (.cells (vec own) 172 (0,0))
 ends:wr.heap[O+1]? =some (.cells (vec f) 172 (0,0))
 lt:w.heap.size+2<O
 below:Below w.heap.size w wr
theorem ze2.set {w wr:World} {O:Nat} {c:Array Value} {T own f:Nat→Bool} (h:ze2 w O c T own f wr) (i:Nat):ze2 w O c T own (fun j=>if j=i then true else f j) (wr.setCell ⟨O+1,i,none⟩ (.bool true)):=by
 have hlt:=h.lt
 exact⟨by rw[BhsQ _ _ _ _ (by show w.heap.size≠O+1;omega)];exact h.slot,by rw[BhsQ _ _ _ _ (by show w.heap.size+1≠O+1;omega)];exact h.from_,
  by rw[BhsQ _ _ _ _ (by show w.heap.size+2≠O+1;omega)];exact h.res,by rw[BhsQ _ _ _ _ (by show O≠O+1;omega)];exact h.own,
  by rw[hssQ _ (O+1) i _ _ _ h.ends,zb1],hlt,h.below.setCell (by show w.heap.size≤O+1;omega) _⟩
def zjQ (w:World) (O:Nat) (c:Array Value) (kids:List Int) (s:Sl) (T:Nat→Bool) (g:Nat) (i:Value) (wr:World):Prop:=
 ∃(k:Nat) (f:Nat→Bool),k+g=kids.length+1∧i= .int .i64 k∧ze2 w O c T (jo kids s.kinds) f wr∧FP kids s T k f
def zjs (w:World) (O:Nat) (c:Array Value) (kids:List Int) (s:Sl) (T:Nat→Bool) (k:Nat) (g:Nat) (i:Value) (wr:World):Prop:=
 ∃(n:Nat) (f:Nat→Bool),(n:Int)+(g:Int)=s.most+1∧i= .int .i64 n∧k+n≤kids.length∧ze2 w O c T (jo kids s.kinds) f wr∧FI kids s T k n f∧zjl kids s k n
theorem zaH (w :World) (a:Option Addr) (cap:Nat) (kids:List Int) (v:Value) (s:Sl) (T:Nat→Bool) (h:qw w a kids) (hl:kids.length≤200) (hv:zcb w v s) (hf:s.few) (h0:0≤s.least) (h1:s.least≤s.most) (h2:s.most≤1000):
 Calls Tryz.prog 131 #[.slice a kids.length cap,v,.agg (vec T)] w (zje (QV kids s T) w):=by
 obtain⟨ka,kc,rfl,hk⟩:=hv
 obtain⟨l,lo,hi⟩:=s
 simp only at hk h0 h1 h2
 have HK:=hH hk
 have HA:=hH h
 have HFEW:=hH hf
 clear hf hk h
 have hsl:=fun W=>zhB W (w.heap.size+1) kids.length hl
 go_enter Tryz.func131,Tryz.ntmps131
 go_wp2_with fail
 go_step3
 go_wp2_with (go_at_call 132;((with_reducible refine (zcs _ _ _ kids _ ⟨l,lo,hi⟩ (HA.out.below (jg _ _ _ _)) hl (zax (s:=⟨l,lo,hi⟩) (HK.out.below (jg _ _ _ _))) HFEW.out).mono ?_);rintro e w2 ⟨rfl,h2⟩;have H2:=hH h2;clear h2))
 go_step3
 go_wp2_with fail
 have HSTART:=hH (show ze2 w w2.heap.size #[.slice ka l.length kc,.int .i64 lo,.int .i64 hi] T (jo kids l) noF ((w2.alloc (.cells (vec (jo kids l)) 172)).alloc (.cells (vec noF) 172)) from by
  have h3:=Zk w (.cells #[.slice ka l.length kc,.int .i64 lo,.int .i64 hi] 55) (.cells (vec T) 172) (.cells (vec noF) 172)
  have hz:=H2.out.size
  have hbb:=Ja (BrQ w2.heap.size w2) (.cells (vec (jo kids l)) 172) (.cells (vec noF) 172)
  have hbo:=fun k hk=>(hbb.block k (nL hk hz)).trans (H2.out.block k hk)
  simp only[WsaQ] at hbo hz
  exact⟨(hbo _ om).trans h3.1,(hbo _ om).trans h3.2.1,(hbo _ om).trans h3.2.2,(zdo w2 _ _).1,(zdo w2 _ _).2,by omega,(jg w _ _ _).trans ((H2.out.trans (hbb.mono H2.out.size)).mono (jg w _ _ _).size)⟩)
 obtain⟨O,hO⟩:∃O,O=w2.heap.size:=⟨_,rfl⟩
 rw[←hO] at HSTART
 rw[←hO]
 clear hO hsl
 go_loopg [20] (kids.length+1) (fun g i wr=>zjQ w O #[.slice ka l.length kc,.int .i64 lo,.int .i64 hi] kids ⟨l,lo,hi⟩ T g i wr)
 case atStart=>exact⟨0,noF,by omega,rfl,HSTART.out,FP.start _ _ _⟩
 case round =>
  obtain⟨k,f,hkg,rfl,hB,hFP⟩:=hrel
  have HB:=hH hB
  have HFP:=hH hFP
  cases gk with
  | zero=>
    obtain rfl:k=kids.length+1:=by omega
    have hfe:=hFP.all
    rw[hfe] at hB
    have e1:=Qk hB.ends
    have e2:=Yu hB.res (y9 _)
    have HR:=hH (aN hB.res (aN hB.below hB.lt))
    clear hB hFP hfe HB HFP
    go_wp2_with fail
    try rw[Exit.noGoto_ret]
    have hr:=QY (setRow_heap wr (w.heap.size+2) _ (vec (QV kids ⟨l,lo,hi⟩ T)) _ _ HR.out.1)
    refine brQ (v:= .agg (vec (QV kids ⟨l,lo,hi⟩ T))) (Qc rfl _ _ ⟨w.heap.size+2,0,none⟩ _ rfl hr) rfl ⟨rfl,?_⟩
    exact below_setRow HR.out.2.1 om _
  | succ g =>
    have hk1:k≤kids.length:=by omega
    have hk2:(k:Int)<(kids.length:Int)+1:=by omega
    have c0:wr.cell? ⟨w.heap.size+1,k,none⟩=some (.bool (T k)):=cell0 hB.from_ k (Zl T k om)
    have c1:wr.cell? ⟨w.heap.size,2,none⟩=some (.int .i64 hi):=cell0 hB.slot 2 rfl
    obtain⟨bb,hbb⟩:∃bb,bb=T k:=⟨_,rfl⟩
    rw[←hbb] at c0
    have HBB:=hH hbb
    clear hB hFP hbb
    cases bb
    · go_wp2_with fail
      go_roundg g
      case measure=>omega
      case rel=>exact⟨k+1,f,by omega,by go_num,HB.out,HFP.out.skip HBB.out.symm⟩
    · go_wp2_with fail
      clear c0 c1
      obtain⟨w3,rfl⟩:∃w3,w3=wr:=⟨_,rfl⟩
      go_loopg [30] (hi+1).toNat (fun g2 i wr=>zjs w O #[.slice ka l.length kc,.int .i64 lo,.int .i64 hi] kids ⟨l,lo,hi⟩ T k g2 i wr)
      case atStart=>exact⟨0,f,by simp only;omega,rfl,by omega,HB.out,FI.start HFP.out,fun i h1 h2=>by omega⟩
      case round=>
       obtain⟨n,f2,hng,rfl,hkn,hB2,hFI,hown⟩:=hrel
       simp only at hng
       have HB2:=hH hB2
       have HFI:=hH hFI
       have HOWN:=hH hown
       have c1:wr.cell? ⟨w.heap.size,1,none⟩=some (.int .i64 lo):=cell0 hB2.slot 1 rfl
       cases gk with
       | zero=>
         have hn1:¬(n:Int)<hi+1:=by omega
         have HD:=hH (HFI.out.done (N:=n) om HBB.out.symm (fun i h3 h4=>HOWN.out i h3 om) (by simp only;omega) (Or.inl (by simp only;omega)))
         clear hB2 hFI hown c1
         go_wp2_with fail
         go_roundg g
         case measure=>omega
         case rel=>exact⟨k+1,f2,by omega,by go_num,HB2.out,HD.out⟩
       | succ g2=>
         have hn1:(n:Int)<hi+1:=by omega
         have hkn2:k+n<201:=by omega
         have hkn3:(k:Int)+(n:Int)<201:=by omega
         have d0:wr.cell? ⟨O,k+n,none⟩=some (.bool (jo kids l (k+n))):=cell0 hB2.own (k+n) (Zl _ _ hkn2)
         have d1:wr.cell? ⟨O+1,k+n,none⟩=some (.bool (f2 (k+n))):=cell0 hB2.ends (k+n) (Zl _ _ hkn2)
         have d2:wr.frozen? ⟨O+1,k+n,none⟩=false:=forQ wr _ _ _ _ hB2.ends
         obtain⟨ob,hob⟩:∃ob,ob=jo kids l (k+n):=⟨_,rfl⟩
         rw[←hob] at d0
         have HOB:=hH hob
         clear hB2 hFI hown hob
         by_cases hlo:lo≤(n:Int)
         · cases ob
           · have HD:=hH ((HFI.out.put (n:=n) hlo).done (N:=n+1) om HBB.out.symm (fun i h3 h4=>HOWN.out i h3 om) (by simp only;omega) (Or.inr ⟨by omega,HOB.out.symm⟩))
             go_wp2_with fail
             go_roundg g
             case measure=>omega
             case rel=>exact⟨k+1,_,by omega,by go_num,HB2.out.set (k+n),HD.out⟩
           · have HO2:=hH (zbQ HOB.out.symm).1
             go_wp2_with fail
             go_roundg g2
             case measure=>omega
             case rel=>exact⟨n+1,_,by simp only;omega,by go_num,by have:=HO2.out;omega,HB2.out.set (k+n),HFI.out.put (n:=n) hlo,fun i h3 h4=>by by_cases e:i=k+n;exact e▸HOB.out.symm;exact HOWN.out i h3 om⟩
         · cases ob
           · have HD:=hH ((HFI.out.skip (n:=n) (by simp only;omega)).done (N:=n+1) om HBB.out.symm (fun i h3 h4=>HOWN.out i h3 om) (by simp only;omega) (Or.inr ⟨by omega,HOB.out.symm⟩))
             go_wp2_with fail
             go_roundg g
             case measure=>omega
             case rel=>exact⟨k+1,_,by omega,by go_num,HB2.out,HD.out⟩
           · have HO2:=hH (zbQ HOB.out.symm).1
             go_wp2_with fail
             go_roundg g2
             case measure=>omega
             case rel=>exact⟨n+1,_,by simp only;omega,by go_num,by have:=HO2.out;omega,HB2.out,HFI.out.skip (n:=n) (by simp only;omega),fun i h3 h4=>by by_cases e:i=k+n;exact e▸HOB.out.symm;exact HOWN.out i h3 om⟩
end Go.Proofs.YtgkmmnihaiopaaaGreat
namespace Go.Proofs.YtgkmmnihaiopaaaGreat
open Go.RowKit
attribute [local go_sem ↓] loadT zb3 storeT zaE zbp zaC zbt zaD
attribute [local go_sem] kz Yx Jz zbF y9 j4 ji blk_alloc_new
theorem zi8 (f:Nat→Bool):(vec f= #[])=False:=by
 simp only[eq_iff_iff,iff_false];intro h
 have:=congrArg Array.size h
 rw[y9] at this;simp at this
theorem zf2:(vec noF).setIfInBounds 0 (.bool true)=vec Ye:=by rw[zb1];exact zeP fun j _=>by by_cases e:j=0<;>simp[Ye,noF,e]
attribute [local go_sem] zi8 zf2
def zgx (l:List Sl):Prop:=∀s∈l,s.few∧0≤s.least∧s.least≤s.most∧s.most≤1000
theorem zcW {g:Gr} {n:Int} {k:Kd} (h:kindOf g n=some k) (hf:g.few):zgx k.slots:=by
 obtain⟨hg,j,_,_,hx⟩:=ZL h
 simp only[qz,Bool.and_eq_true,List.all_eq_true] at hg
 have h1:=hg.1.2 k (List.mem_of_getElem? hx)
 simp only[kindOk,Bool.and_eq_true,List.all_eq_true] at h1
 intro s hs
 have h2:=h1.2 s hs
 simp only[yL,qJ,Bool.and_eq_true,decide_eq_true_eq] at h2
 exact⟨(hf.2 k (List.mem_of_getElem? hx)).2.2 s hs,by omega,by omega,by omega⟩
def zjH (w:World) (kids:List Int) (l:List Sl) (i:Value) (wr:World):Prop:=
 ∃(k:Nat),k≤l.length∧i= .int .i64 k∧wr.heap[w.heap.size]? =some (.cells (vec (Zp kids (l.take k))) 172 (0,0))∧Below w.heap.size w wr
theorem zbv (w:World) (a:Option Addr) (cap:Nat) (kids:List Int) (a2:Option Addr) (cap2:Nat) (l:List Sl) (h:qw w a kids) (hl:kids.length≤200) (h2:vg w a2 l) (hl2:l.length≤1000000) (h3:zgx l):
 Calls Tryz.prog 129 #[.slice a kids.length cap,.slice a2 l.length cap2] w (Says (Zp kids l kids.length) w):=by
 have HA:=hH h
 have HK:=hH h2
 have H3:=hH h3
 clear h h2 h3
 have hbd:∀W,(zeroValue 172).run Tryz.prog W= .ok (.agg (vec noF)) W:=fun W=>by kernel_rfl
 go_enter Tryz.func129,Tryz.ntmps129
 go_wp2_with fail
 clear hbd
 go_loopw [11] (fun i wr=>zjH w kids l i wr) (fun i _=>l.length - (intOf i).toNat)
 case atStart=>exact⟨0,Nat.zero_le _,rfl,hanQ w _,zh _ _⟩
 case round=>
  obtain⟨k,hkl,rfl,hb,hbel⟩:=hrel
  have HB:=hH (aN hb hbel)
  by_cases hlt:k<l.length
  · obtain⟨s,hx⟩:∃s,l[k]? =some s:=⟨l[k],List.getElem?_eq_getElem hlt⟩
    obtain⟨hs0,hs1,hs2,hs3⟩:=H3.out s (List.mem_of_getElem? hx)
    obtain⟨b,off,rfl,hblt,hc⟩:=(HK.out.below hbel) om
    obtain⟨ka2,kc2,d0,d1,d2,hi⟩:=hc k s hx
    have HI:=hH hi
    have HFEW:=hH hs0
    have HX:=hH (zaY (kids:=kids) hx)
    obtain⟨T,hT⟩:∃T,T=Zp kids (l.take k):=⟨_,rfl⟩
    rw[←hT] at hb HX
    have HAW:=hH (HA.out.below hbel)
    have hbk:blk (wr.alloc (.cells #[.slice ka2 s.kinds.length kc2,.int .i64 s.least,.int .i64 s.most] 55)) w.heap.size=vec T:=Qk ((BhaQ _ _ _ (zP hb)).trans hb)
    have hkl2:(k:Int)<(l.length:Int):=by omega
    have HHB:=hH hb
    have HBEL:=hH hbel
    clear hx hc hi hb hbel hs0 HB hT
    go_wp2_with (go_at_call 131;((with_reducible refine (zaH _ _ _ kids _ s T (HAW.out.below (zh _ _)) hl (zax (HI.out.below (zh _ _))) HFEW.out hs1 hs2 hs3).mono ?_);rintro e w2 ⟨rfl,h2⟩;have H2:=hH ((zh wr _).trans (h2.mono (zh wr _).size));have HF2:=hH ((H2.out.block _ (zP HHB.out)).trans HHB.out);have hfr:=Yu HF2.out (y9 _);clear h2))
    refine⟨⟨k+1,by omega,by go_num,?_,?_⟩,by simp[intOf];omega⟩
    · rw[setRow_heap _ _ _ _ _ _ HF2.out,HX.out]
    · exact below_setRow (HBEL.out.trans (H2.out.mono HBEL.out.size)) (Nat.le_refl _) _
  · obtain rfl:k=l.length:=by omega
    rw[List.take_of_length_le (Nat.le_refl _)] at hb
    have c0:=cell0 hb kids.length (Zl _ _ om)
    obtain⟨bb,hbb⟩:∃bb,bb=Zp kids l kids.length:=⟨_,rfl⟩
    rw[←hbb] at c0
    have HBB:=hH hbb
    have hk2:(kids.length:Int)<201:=by omega
    have hkl2:¬(l.length:Int)<(l.length:Int):=by omega
    have HBEL:=hH hbel
    clear hb hbel hlt HB hbb
    go_wp2_with fail
    go_ret
    exact Says.mk HBB.out.symm HBEL.out
theorem zgY (w:World) (v:Value) (g:Gr) (n:Int) (a:Option Addr) (cap:Nat) (kids:List Int) (hv:GrV w v g) (hf:g.few) (h:qw w a kids) (hl:kids.length≤1000000):
 Calls Tryz.prog 123 #[v,.int .i64 n,.slice a kids.length cap] w (Says (jT (kindOf g n) kids) w):=by
 obtain⟨ka,kc,rfl,hk⟩:=hv
 obtain⟨l,root⟩:=g
 simp only at hk
 have HF:=hH hf
 have HK:=hH hk
 have HA:=hH h
 cases ho:kindOf ⟨l,root⟩ n with
 | none=>
   have HO:=hH ho
   clear ho hf hk h
   go_enter Tryz.func123,Tryz.ntmps123
   go_wp2_with (go_at_call 128;((with_reducible refine (za3 _ _ _ n (grV (HK.out.below (zh _ _))) HF.out HO.out).mono ?_);rintro e w2 ⟨rfl,h2⟩;have H2:=hH ((zh w _).trans (h2.mono (zh w _).size));clear h2))
   go_ret
   exact Says.mk rfl (H2.out.alloc H2.out.size _)
 | some k=>
   have HO:=hH ho
   have HS:=hH (zcW ho hf)
   have HS8:=hH (zcV ho).1
   clear ho hf hk h
   by_cases h200:kids.length≤200
   · have h200' :(kids.length:Int)≤200:=by omega
     have HV:=hH (show jT (some k) kids=Zp kids k.slots kids.length by rw[jT,decide_eq_true h200];rfl)
     go_enter Tryz.func123,Tryz.ntmps123
     go_wp2_with (first
      | (go_at_call 128;((with_reducible refine (vO _ _ _ n _ (grV (HK.out.below (zh _ _))) HF.out HO.out).mono ?_);rintro e w2 ⟨sa,sc,rfl,h2,hs⟩;have H2:=hH ((zh w _).trans (h2.mono (zh w _).size));have HSA:=hH hs;clear h2 hs))
      | (go_at_call 129;((with_reducible refine (zbv _ _ _ kids _ _ _ ((HA.out.below H2.out).below (zh _ _)) h200 (HSA.out.below (zh _ _)) (Nat.le_trans HS8.out (by decide)) HS.out).mono ?_);rintro e w3 ⟨rfl,h3⟩;have H3:=hH h3;clear h3)))
     go_ret
     exact Says.mk HV.out ((H2.out.alloc H2.out.size _).trans (H3.out.mono (by have:=H2.out.size;simp;omega)))
   · have h200' :¬(kids.length:Int)≤200:=by omega
     have HV:=hH (show jT (some k) kids=false by rw[jT,decide_eq_false h200];rfl)
     go_enter Tryz.func123,Tryz.ntmps123
     go_wp2_with (go_at_call 128;((with_reducible refine (vO _ _ _ n _ (grV (HK.out.below (zh _ _))) HF.out HO.out).mono ?_);rintro e w2 ⟨sa,sc,rfl,h2,hs⟩;have H2:=hH ((zh w _).trans (h2.mono (zh w _).size));clear h2 hs))
     go_ret
     exact Says.mk HV.out (H2.out.alloc H2.out.size _)
end Go.Proofs.YtgkmmnihaiopaaaGreat
namespace Go.Proofs.YtgkmmnihaiopaaaGreat
open Go.RowKit
theorem zae {g:Gr} {n:Int} (h:qz g=false):kindOf g n=none:=by rw[kindOf,if_neg (by rw[h];simp)]
theorem zaf {g:Gr} {n:Int} (h:n<0):kindOf g n=none:=by rw[kindOf,if_neg om]
theorem QT {g:Gr} {n:Int} (h:(g.kinds.length:Int)≤n):kindOf g n=none:=by
 unfold kindOf;split
 · exact List.getElem?_eq_none om
 · rfl
theorem za4 {g:Gr} {j:Nat} {k:Kd} (h:qz g=true) (hk:g.kinds[j]? =some k):kindOf g (j:Int)=some k:=by
 rw[kindOf,if_pos ⟨h,by omega⟩];simpa using hk
theorem zfW (w:World) (v:Value) (g:Gr) (n:Int) (s:ByteArray) (hv:GrV w v g) (hf:g.few) (hs:(s.size:Int)≤9223372036854775807):Calls Tryz.prog 56 #[v,.int .i64 n,.string s] w (Says (kQ (kindOf g n) s) w):=by
 obtain⟨ka,kc,rfl,hk⟩:=hv
 obtain⟨l,root⟩:=g
 simp only at hk
 have hfl:l.length≤1000000:=hf.1
 have HF:=hH hf
 have HK:=hH hk
 obtain⟨bb,hbb⟩:∃bb,qz ⟨l,root⟩=bb:=⟨_,rfl⟩
 have HBB:=hH hbb
 clear hf hk hbb
 cases bb
 · go_enter Tryz.func56,Tryz.ntmps56
   exact se5
 · by_cases h1:n<0
   · go_enter Tryz.func56,Tryz.ntmps56
     exact se6
   by_cases h2:(l.length:Int)≤n
   · go_enter Tryz.func56,Tryz.ntmps56
     exact se1
   obtain⟨j,rfl⟩:∃j:Nat,n=(j:Int):=⟨n.toNat,by omega⟩
   obtain⟨k,hx⟩:∃x,l[j]? =some x:=⟨l[j]'om,List.getElem?_eq_getElem _⟩
   have HO:=hH (za4 (g:=⟨l,root⟩) HBB.out hx)
   obtain⟨b,off,rfl,hblt,hc⟩:=HK.out om
   obtain⟨sa,sc,_,c1,_,_⟩:=hc j k hx
   have HC:=hH c1
   have hj2:(j:Int)<(l.length:Int):=by omega
   clear hx hc c1 h1 h2
   obtain⟨nm,tx,sl⟩:=k
   by_cases he:s.toList.isEmpty=true
   · have he2:s.toList= []:=by simpa using he
     have HV:=hH (show kQ (kindOf ⟨l,root⟩ (j:Int)) s=true by rw[HO.out];simp[kQ,he2])
     go_enter Tryz.func56,Tryz.ntmps56
     exact se3
   · have he1:s.toList.isEmpty=false:=by simpa using he
     have he2:¬s.toList= []:=by simpa using he
     have HV:=hH (show kQ (kindOf ⟨l,root⟩ (j:Int)) s=(tx && decide (s.size≤40)) by rw[HO.out,kQ,he1];rfl)
     clear he
     cases tx
     · go_enter Tryz.func56,Tryz.ntmps56
       go_wp2_with (go_at_call 19;((with_reducible refine (yt _ _ _ (grV (HK.out.below (zh _ _))) HF.out).mono ?_);rintro e w2 ⟨rfl,h2⟩;rw[qR HBB.out];have H2:=hH ((zh w _).trans (h2.mono (zh w _).size));have p0:=yj h2 0 _ rfl;have d1:=(H2.out.cell hblt).trans HC.out;clear h2))
       go_ret
       exact Says.mk HV.out H2.out
     · by_cases h4:s.size≤40
       · have h4' :(s.size:Int)≤40:=by omega
         go_enter Tryz.func56,Tryz.ntmps56
         go_wp2_with (go_at_call 19;((with_reducible refine (yt _ _ _ (grV (HK.out.below (zh _ _))) HF.out).mono ?_);rintro e w2 ⟨rfl,h2⟩;rw[qR HBB.out];have H2:=hH ((zh w _).trans (h2.mono (zh w _).size));have p0:=yj h2 0 _ rfl;have d1:=(H2.out.cell hblt).trans HC.out;clear h2))
         go_ret
         exact Says.mk (by rw[HV.out,decide_eq_true h4];rfl) H2.out
       · have h4' :¬(s.size:Int)≤40:=by omega
         go_enter Tryz.func56,Tryz.ntmps56
         go_wp2_with (go_at_call 19;((with_reducible refine (yt _ _ _ (grV (HK.out.below (zh _ _))) HF.out).mono ?_);rintro e w2 ⟨rfl,h2⟩;rw[qR HBB.out];have H2:=hH ((zh w _).trans (h2.mono (zh w _).size));have p0:=yj h2 0 _ rfl;have d1:=(H2.out.cell hblt).trans HC.out;clear h2))
         go_ret
         exact Says.mk (by rw[HV.out,decide_eq_false h4];first | rfl | (rw[decide_eq_false om];rfl)) H2.out
end Go.Proofs.YtgkmmnihaiopaaaGreat
