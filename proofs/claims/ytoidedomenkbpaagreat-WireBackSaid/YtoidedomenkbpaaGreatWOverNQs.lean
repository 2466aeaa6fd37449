/-
  .
-/
import Derived.Test.YtoidedomenkbpaaGreatWFieldsQs
set_option maxRecDepth 100000
set_option maxHeartbeats 40000000
set_option linter.unusedVariables false
set_option linter.unusedSimpArgs false
namespace Go.Proofs.YtoidedomenkbpaaGreat
open Go.RowKit Go.Shelf
structure Yf (cs:Array Value) (kd:Int):Prop where
 kind:cs[0]? =some (.int .i8 kd)
 nums:∀i,1≤i→i≤10→∃n,cs[i]? =some (.int .i64 n)
theorem Yf.set {cs:Array Value}{kd:Int}(h:Yf cs kd){i:Nat}(hi:1≤i)(m:Int):Yf (cs.setIfInBounds i (.int .i64 m)) kd:=by
 refine⟨by rw[Array.getElem?_setIfInBounds_ne om1];exact h.kind,fun j h1 h2=>?_⟩
 by_cases e:i=j
 · subst e
   obtain⟨n,hn⟩:=h.nums i h1 h2
   have hlt:i<cs.size:=(Array.getElem?_eq_some_iff.1 hn).1
   exact⟨m,by rw[Array.getElem?_setIfInBounds_self_of_lt hlt]⟩
 · rw[Array.getElem?_setIfInBounds_ne e];exact h.nums j h1 h2
def vV (cs:Array Value)(i:Nat):Int:=match cs[i]? with
 | some (.int _ n)=>n
 | _=>0
theorem kG {cs:Array Value}{i:Nat}{n:Int}(h:cs[i]? =some (.int .i64 n)):vV cs i=n:=by unfold vV;rw[h]
def qU {σ:Type}(num:σ→Int→Int→Int→Option (Int×σ)):List (Nat×Int×Int)→σ→Array Value→Option (σ×Array Value)
 | [],s,cs=>some (s,cs)
 | q ::r,s,cs=>match num s (vV cs q.1) q.2.1 q.2.2 with
   | some (m,s')=>qU num r s' (cs.setIfInBounds q.1 (.int .i64 m))
   | none=>none
theorem Ja {σ:Type}{num:σ→Int→Int→Int→Option (Int×σ)}:∀{qs:List (Nat×Int×Int)} {j:Nat} {q:Nat×Int×Int} {s s' t:σ} {cs cs' :Array Value} {m:Int},qU num (qs.take j) s cs=some (s',cs')→qs[j]? =some q→num s' (vV cs' q.1) q.2.1 q.2.2=some (m,t)→qU num (qs.take (j+1)) s cs=some (t,cs'.setIfInBounds q.1 (.int .i64 m))
 | [],j,q,s,s',t,cs,cs',m,_,hq,_=>by simp at hq
 | p ::r,0,q,s,s',t,cs,cs',m,h,hq,hn=>by
   simp at hq;subst hq
   simp only[List.take_zero,qU] at h
   cases h
   simp only[Nat.zero_add,List.take_succ_cons,List.take_zero,qU,hn]
 | p ::r,j+1,q,s,s',t,cs,cs',m,h,hq,hn=>by
   rw[List.take_succ_cons,qU] at h ⊢
   split at h
   · rename_i m1 s1 h1
     exact Ja h (by simpa using hq) hn
   · cases h
theorem zbG {σ:Type}{num:σ→Int→Int→Int→Option (Int×σ)}:∀{qs:List (Nat×Int×Int)} {j:Nat} {q:Nat×Int×Int} {s s' :σ} {cs cs' :Array Value},qU num (qs.take j) s cs=some (s',cs')→qs[j]? =some q→num s' (vV cs' q.1) q.2.1 q.2.2=none→qU num qs s cs=none
 | [],j,q,s,s',cs,cs',_,hq,_=>by simp at hq
 | p ::r,0,q,s,s',cs,cs',h,hq,hn=>by
   simp at hq;subst hq
   simp only[List.take_zero,qU] at h
   cases h
   rw[qU,hn]
 | p ::r,j+1,q,s,s',cs,cs',h,hq,hn=>by
   rw[List.take_succ_cons,qU] at h
   rw[qU]
   split at h
   · rename_i m1 s1 h1
     exact zbG h (by simpa using hq) hn
   · cases h
def Zb {σ:Type}(R:σ→World→Prop)(O:Nat→Prop)(o:Option (σ×Array Value))(b:Nat)(X:World)(e:Ending)(X' :World):Prop:=match o with
 | some (s',cs')=>e= .returned (.tuple #[])∧R s' X'∧X'.heap[b]? =some (.cells cs' 37 (0,0))∧za X X' (fun q=>O q∨q=b)
 | none=>e= .panicked Zi∧za X X' (fun q=>O q∨q=b)
structure kS {σ:Type} (G:σ→Prop) (R:σ→World→Prop) (O:Nat→Prop) (num:σ→Int→Int→Int→Option (Int×σ)) (b:Nat) (T:TypeId) (v:Value) (kd:Int) (F:FuncId) (q:Nat×Int×Int):Prop where
 one:1≤q.1∧q.1≤10
 enter:∀(args:Array Value) (w:World),(callFunc F args).run Tryz.prog w= .ok (.enter F args) w
 does:∀(s:σ) (X:World) (cs:Array Value) (n:Int),R s X→X.heap[b]? =some (.cells cs 37 (0,0))→cs[q.1]? =some (.int .i64 n)→cs[0]? =some (.int .i8 kd)→Calls Tryz.prog F #[.agg #[.pointer (some ⟨b,0,none⟩),.iface T v]] X (zJ G R O (num s n q.2.1 q.2.2) b cs q.1 X)
theorem za.zK {w X Y:World}{S:Nat→Prop}(h:za w X S)(k:za X Y S):za w Y S:=⟨k.os.trans h.os,k.tape.trans h.tape,k.output.trans h.output,NltQ h.size k.size,fun q h1 h2=>(k.block q (nL h1 h.size) h2).trans (h.block q h1 h2)⟩
theorem zn {w X:World}(h:Below w.heap.size w X)(S:Nat→Prop):za w X S:=⟨h.os,h.tape,h.output,h.size,fun k hk _=>h.block k hk⟩
def Zn (kd:Int):Bool:=decide (kd=2∨kd=5∨kd=9)
def zl (kd:Int):Nat×Int×Int:=(1,(if Zn kd then 1 else 0),(if Zn kd then 8 else 0))
def toQ (kd:Int):Nat×Int×Int:=(2,(if Zn kd then 0 else 1),(if Zn kd then 0 else 8))
def zg (kd:Int):Nat×Int×Int:=(4,(if Zn kd then 0 else 1),1125899906842624)
section
variable {σ:Type} {G:σ→Prop} {R:σ→World→Prop} {O:Nat→Prop} {num:σ→Int→Int→Int→Option (Int×σ)} {b:Nat} {T:TypeId} {v rv:Value} {fn:FuncId}
set_option maxRecDepth 100000
theorem qK (H:qm G R O num b T v rv fn)(kd:Int):kS G R O num b T v kd 144 (3,1,1125899906842624):=⟨by decide,fun _ _=>by rfl,fun s X cs n h1 h2 h3 _=>zeh H s X cs n h1 h2 h3⟩
theorem yg (H:qm G R O num b T v rv fn)(kd:Int):kS G R O num b T v kd 145 (5,1,1125899906842624):=⟨by decide,fun _ _=>by rfl,fun s X cs n h1 h2 h3 _=>zbX H s X cs n h1 h2 h3⟩
theorem QZ (H:qm G R O num b T v rv fn)(kd:Int):kS G R O num b T v kd 146 (6,1,1125899906842624):=⟨by decide,fun _ _=>by rfl,fun s X cs n h1 h2 h3 _=>zei H s X cs n h1 h2 h3⟩
theorem jU (H:qm G R O num b T v rv fn)(kd:Int):kS G R O num b T v kd 147 (7,1,1125899906842624):=⟨by decide,fun _ _=>by rfl,fun s X cs n h1 h2 h3 _=>zcY H s X cs n h1 h2 h3⟩
theorem jT (H:qm G R O num b T v rv fn)(kd:Int):kS G R O num b T v kd 148 (8,1,1125899906842624):=⟨by decide,fun _ _=>by rfl,fun s X cs n h1 h2 h3 _=>zcX H s X cs n h1 h2 h3⟩
theorem yK (H:qm G R O num b T v rv fn)(kd:Int):kS G R O num b T v kd 149 (9,0,1125899906842624):=⟨by decide,fun _ _=>by rfl,fun s X cs n h1 h2 h3 _=>zaR H s X cs n h1 h2 h3⟩
theorem QX (H:qm G R O num b T v rv fn)(kd:Int):kS G R O num b T v kd 151 (10,1,999):=⟨by decide,fun _ _=>by rfl,fun s X cs n h1 h2 h3 _=>zii H s X cs n h1 h2 h3⟩
theorem zB (H:qm G R O num b T v rv fn)(kd:Int):kS G R O num b T v kd 143 (zg kd):=⟨⟨by show 1≤4;decide,by show 4≤10;decide⟩,fun _ _=>by rfl,fun s X cs n h1 h2 h3 h4=>by
 unfold zg
 cases hc:Zn kd
 · exact zcm H s X cs n kd h1 h2 h3 h4 hc
 · exact zdD H s X cs n kd h1 h2 h3 h4 hc⟩
theorem QY (H:qm G R O num b T v rv fn)(kd:Int):kS G R O num b T v kd 105 (zl kd):=⟨⟨by show 1≤1;decide,by show 1≤10;decide⟩,fun _ _=>by rfl,fun s X cs n h1 h2 h3 h4=>by
 unfold zl
 cases hc:Zn kd
 · exact zel H s X cs n kd h1 h2 h3 h4 hc
 · exact zfU H s X cs n kd h1 h2 h3 h4 hc⟩
theorem zb6 (H:qm G R O num b T v rv fn)(kd:Int):kS G R O num b T v kd 106 (toQ kd):=⟨⟨by show 1≤2;decide,by show 2≤10;decide⟩,fun _ _=>by rfl,fun s X cs n h1 h2 h3 h4=>by
 unfold toQ
 cases hc:Zn kd
 · exact zhS H s X cs n kd h1 h2 h3 h4 hc
 · exact ziM H s X cs n kd h1 h2 h3 h4 hc⟩
end
end Go.Proofs.YtoidedomenkbpaaGreat
namespace Go.Proofs.YtoidedomenkbpaaGreat
open Go.RowKit Go.Shelf
theorem Zb.none {σ:Type}{R:σ→World→Prop}{O:Nat→Prop}{o:Option (σ×Array Value)}{b:Nat}{X X' :World}(h:o=Option.none)(ht:za X X' (fun q=>O q∨q=b)):Zb R O o b X (.panicked Zi) X':=by subst h;exact⟨rfl,ht⟩
theorem Zb.some {σ:Type}{R:σ→World→Prop}{O:Nat→Prop}{o:Option (σ×Array Value)}{b:Nat}{X X' :World}{s' :σ}{cs' :Array Value}(h:o=Option.some (s',cs'))(hr:R s' X')(hc:X'.heap[b]? =Option.some (.cells cs' 37 (0,0)))(ht:za X X' (fun q=>O q∨q=b)):Zb R O o b X (.returned (.tuple #[])) X':=by subst h;exact⟨rfl,hr,hc,ht⟩
theorem QS (w:World)(A:Array Value)(hA:A.size=11)(k:Nat)(h1:1≤k)(h2:k≤10)(x:Value)(hx:A[k]? =some x):(Instr.index 148 (.agg A) (.int .i8 (k:Int))).run Tryz.prog w= .ok x w:=by
 obtain⟨L⟩:=A
 match L,hA with
 | [a0,a1,a2,a3,a4,a5,a6,a7,a8,a9,a10],_=>
   match k,h1,h2,hx with
   | 1,_,_,hx=>simp at hx;subst hx;simp[Instr.index,run_underlying Tryz.underlying148,asIntOf,go_sem]
   | 2,_,_,hx=>simp at hx;subst hx;simp[Instr.index,run_underlying Tryz.underlying148,asIntOf,go_sem]
   | 3,_,_,hx=>simp at hx;subst hx;simp[Instr.index,run_underlying Tryz.underlying148,asIntOf,go_sem]
   | 4,_,_,hx=>simp at hx;subst hx;simp[Instr.index,run_underlying Tryz.underlying148,asIntOf,go_sem]
   | 5,_,_,hx=>simp at hx;subst hx;simp[Instr.index,run_underlying Tryz.underlying148,asIntOf,go_sem]
   | 6,_,_,hx=>simp at hx;subst hx;simp[Instr.index,run_underlying Tryz.underlying148,asIntOf,go_sem]
   | 7,_,_,hx=>simp at hx;subst hx;simp[Instr.index,run_underlying Tryz.underlying148,asIntOf,go_sem]
   | 8,_,_,hx=>simp at hx;subst hx;simp[Instr.index,run_underlying Tryz.underlying148,asIntOf,go_sem]
   | 9,_,_,hx=>simp at hx;subst hx;simp[Instr.index,run_underlying Tryz.underlying148,asIntOf,go_sem]
   | 10,_,_,hx=>simp at hx;subst hx;simp[Instr.index,run_underlying Tryz.underlying148,asIntOf,go_sem]
theorem jJ {σ:Type}{G:σ→Prop}{R:σ→World→Prop}{O:Nat→Prop}{num:σ→Int→Int→Int→Option (Int×σ)}{b:Nat}{T:TypeId}{v rv:Value}{fn:FuncId}(H:qm G R O num b T v rv fn)(kd:Int)(k:Nat)(hk:kd=(k:Int))(hk1:1≤k)(hk2:k≤10)(l:List FuncId)(hl:ZH[k]? =some l)(qs:List (Nat×Int×Int))(hlen:l.length=qs.length)(hqs:∀(j:Nat) (F:FuncId) (q:Nat×Int×Int),l[j]? =some F→qs[j]? =some q→kS G R O num b T v kd F q)(hll:l.length≤100)(s:σ)(X:World)(cs:Array Value)(hR:R s X)(hX:X.heap[b]? =some (.cells cs 37 (0,0)))(hm:Yf cs kd)(hG:∀(j:Nat) (s' :σ) (cs' :Array Value),qU num ((zl kd::toQ kd::qs).take j) s cs=some (s',cs')→G s'):
 Calls Tryz.prog 56 #[.pointer (some ⟨b,0,none⟩),.iface T v] X (Zb R O (qU num (zl kd::toQ kd::qs) s cs) b X):=by
 obtain⟨B,hB⟩:∃B,B=X.alloc (.cells #[.pointer (some ⟨b,0,none⟩),.iface T v] 146):=⟨_,rfl⟩
 have hb:Below X.heap.size X B:=by rw[hB];exact (BrQ _ _).alloc (NlrQ _) _
 have eB:B.heap[X.heap.size]? =some (.cells #[.pointer (some ⟨b,0,none⟩),.iface T v] 146 (0,0)):=by rw[hB];exact hanQ _ _
 have hXb:b<X.heap.size:=lohQ hX
 have hBX:=(hb.block _ hXb).trans hX
 have hRB:=H.keep s X B hR (fun q hq _=>hb.block q hq) hb.size
 have hno:∀q,X.heap.size≤q→¬(O q∨q=b):=fun q hq h=>by
  rcases h with h | h
  · have:=H.inn s X q hR h;omega
  · omega
 obtain⟨N,hN⟩:∃N,N=qU num (zl kd::toQ kd::qs) s cs:=⟨_,rfl⟩
 rw[←hN]
 have HN:=hH hN
 have HG:=hH hG
 have HM:=hH hm
 have HNO:=hH hno
 have HH:=hH H
 have HL:=hH (aN hl (aN hlen (aN hqs (aN hll (aN hk1 (aN hk2 hk))))))
 have HB:=hH (aN (zn hb (fun q=>O q∨q=b)) (aN hB (aN hBX (aN eB hRB))))
 have k0:B.cell? ⟨X.heap.size,0,none⟩=some (.pointer (some ⟨b,0,none⟩)):=by rw[corQ _ _ 0 _ _ _ eB];rfl
 have k1:B.cell? ⟨X.heap.size,1,none⟩=some (.iface T v):=by rw[corQ _ _ 1 _ _ _ eB];rfl
 clear hG hb hB eB hXb hBX hRB hR hX hm hno H hN hl hlen hqs hll hk hk1 hk2
 go_enter Tryz.func56,Tryz.ntmps56
 go_upto_region 1 with fail
 change Code.wp _ _ _ _ (X.alloc (.cells #[.pointer (some ⟨b,0,none⟩),.iface T v] 146))
 rw[←HB.out.2.1]
 go_wp2_with fail
 obtain⟨n1,hn1⟩:=HM.out.nums 1 om1 om1
 refine ((QY HH.out kd).does s B cs n1 HB.out.2.2.2.2 HB.out.2.2.1 hn1 HM.out.kind).mono ?_
 intro e W1 hq
 have e1:vV cs (zl kd).1=n1:=kG hn1
 unfold zJ at hq
 cases ho:num s n1 (zl kd).2.1 (zl kd).2.2 with
 | none=>
   rw[ho] at hq
   obtain⟨rfl,ht⟩:=hq
   exact⟨rfl,Zb.none (by rw[HN.out,qU,e1,ho]) (HB.out.1.zK ht)⟩
 | some ms=>
 obtain⟨m1,s1⟩:=ms
 rw[ho] at hq
 obtain⟨rfl,hr1,hc1,ht1⟩:=hq
 have hr1:=hr1 (HG.out 1 s1 (cs.setIfInBounds (zl kd).1 (.int .i64 m1)) (by simp only[List.take_succ_cons,List.take_zero,qU,e1,ho]))
 have hm1:=HM.out.set (i:=1) om1 m1
 obtain⟨cs1,hcs1⟩:∃cs1,cs1=cs.setIfInBounds (zl kd).1 (.int .i64 m1):=⟨_,rfl⟩
 rw[←hcs1] at hc1
 rw[show cs.setIfInBounds 1 (.int .i64 m1)=cs1 from hcs1.symm] at hm1
 have HG1:=hH (fun (j:Nat) (s' :σ) (cs' :Array Value) (h:qU num ((toQ kd::qs).take j) s1 cs1=some (s',cs'))=>HG.out (j+1) s' cs' (by rw[List.take_succ_cons,qU,e1,ho];rw[hcs1] at h;exact h))
 have HN1:=hH (show N=qU num (toQ kd::qs) s1 cs1 by rw[HN.out,qU,e1,ho,hcs1])
 have ht:=HB.out.1.zK ht1
 have eP1:=(ht1.block X.heap.size (lohQ HB.out.2.2.2.1) (HNO.out _ (NlrQ _))).trans HB.out.2.2.2.1
 have H1:=hH (aN hr1 (aN hc1 (aN hm1 (aN ht eP1))))
 clear hn1 e1 ho hr1 hc1 ht1 hm1 hcs1 ht k0 k1 HN HM HB HG
 have k0:W1.cell? ⟨X.heap.size,0,none⟩=some (.pointer (some ⟨b,0,none⟩)):=by rw[corQ _ _ 0 _ _ _ eP1];rfl
 have k1:W1.cell? ⟨X.heap.size,1,none⟩=some (.iface T v):=by rw[corQ _ _ 1 _ _ _ eP1];rfl
 clear eP1
 go_wp2_with fail
 obtain⟨n2,hn2⟩:=H1.out.2.2.1.nums 2 om1 om1
 refine ((zb6 HH.out kd).does s1 W1 cs1 n2 H1.out.1 H1.out.2.1 hn2 H1.out.2.2.1.kind).mono ?_
 intro e W2 hq
 have e1:vV cs1 (toQ kd).1=n2:=kG hn2
 unfold zJ at hq
 cases ho:num s1 n2 (toQ kd).2.1 (toQ kd).2.2 with
 | none=>
   rw[ho] at hq
   obtain⟨rfl,ht⟩:=hq
   exact⟨rfl,Zb.none (by rw[HN1.out,qU,e1,ho]) (H1.out.2.2.2.1.zK ht)⟩
 | some ms=>
 obtain⟨m2,s2⟩:=ms
 rw[ho] at hq
 obtain⟨rfl,hr1,hc1,ht1⟩:=hq
 have hr1:=hr1 (HG1.out 1 s2 (cs1.setIfInBounds (toQ kd).1 (.int .i64 m2)) (by simp only[List.take_succ_cons,List.take_zero,qU,e1,ho]))
 have hm1:=H1.out.2.2.1.set (i:=2) om1 m2
 obtain⟨cs2,hcs2⟩:∃cs2,cs2=cs1.setIfInBounds (toQ kd).1 (.int .i64 m2):=⟨_,rfl⟩
 rw[←hcs2] at hc1
 rw[show cs1.setIfInBounds 2 (.int .i64 m2)=cs2 from hcs2.symm] at hm1
 have HG2:=hH (fun (j:Nat) (s' :σ) (cs' :Array Value) (h:qU num (qs.take j) s2 cs2=some (s',cs'))=>HG1.out (j+1) s' cs' (by rw[List.take_succ_cons,qU,e1,ho];rw[hcs2] at h;exact h))
 have HN2:=hH (show N=qU num qs s2 cs2 by rw[HN1.out,qU,e1,ho,hcs2])
 have ht:=H1.out.2.2.2.1.zK ht1
 have eP2:=(ht1.block X.heap.size (lohQ H1.out.2.2.2.2) (HNO.out _ (NlrQ _))).trans H1.out.2.2.2.2
 have H2:=hH (aN hr1 (aN hc1 (aN hm1 (aN ht eP2))))
 clear hn2 e1 ho hr1 hc1 ht1 hm1 hcs2 ht k0 k1 HN1 H1 HG1 eP2
 have HKD:=hH (fun (Y:World) (hY:Below W2.heap.size W2 Y)=>(show Y.cell? ⟨X.heap.size,0,none⟩=some (.pointer (some ⟨b,0,none⟩))∧Y.cell? ⟨X.heap.size,1,none⟩=some (.iface T v)∧Y.cell? ⟨b,0,none⟩=some (.int .i8 kd) by
  have eP:=(hY.block _ (lohQ H2.out.2.2.2.2)).trans H2.out.2.2.2.2
  have eM:=(hY.block _ (lohQ H2.out.2.1)).trans H2.out.2.1
  exact⟨by rw[corQ _ _ 0 _ _ _ eP];rfl,by rw[corQ _ _ 1 _ _ _ eP];rfl,by rw[corQ _ _ 0 _ _ _ eM];exact H2.out.2.2.1.kind⟩))
 go_upto_region 3 with fail
 refine wrhQ (S:=fun Y=>Below W2.heap.size W2 Y) kr1 (qW (BrQ _ _) 1) (fun eH=>?_)
 refine tJ (i:=0) (.agg #[.pointer (some ⟨b,0,none⟩),.iface T v]) rfl ?_ ?_
 · exact ua7
 simp only[Act.put,pg]
 refine tJ (i:=2) (.pointer (some ⟨b,0,none⟩)) rfl ?_ ?_
 · clear eH;intro Y hSw;clear hSw;go_simp
 simp only[Act.put,pg]
 refine tJ (i:=3) (.pointer (some ⟨b,0,none⟩)) rfl ?_ ?_
 · clear eH;intro Y hSw;clear hSw;go_simp
 simp only[Act.put,pg]
 refine tJ (i:=4) (.pointer (some ⟨b,0,none⟩)) rfl ?_ ?_
 · clear eH;intro Y hSw;clear hSw;go_simp
 simp only[Act.put,pg]
 refine tJ (i:=5) (.int .i8 kd) rfl ?_ ?_
 · exact ua7
 simp only[Act.put,pg]
 refine tJ (i:=8) (.int .i64 0) rfl ?_ ?_
 · clear eH;intro Y hSw;clear hSw;go_simp
 simp only[Act.put,pg]
 refine rd1 [1] ?_
 refine AcQ (o:=_) rfl (fun K hK=>?_) AnQ
 rw[ipQ ue1]
 simp only[pg3]
 have HK:=hH hK
 have HS:=hH eH
 clear hK eH
 go_wp2_with fail
 refine (YY _ b T v).mono ?_
 rintro e W3 ⟨A,rfl,hA,htab,hb3⟩
 have hb23:=HS.out.trans (hb3.mono HS.out.size)
 obtain⟨r,hAk,hr,hrow⟩:=htab k l HL.out.2.2.2.2.1 HL.out.1
 have H3:=hH (aN hb23 (aN hrow (aN (show W2.heap.size≤r from hr) (aN hA hAk))))
 clear hA htab hb3 hAk hr hrow
 go_wp2_with fail
 refine HK.out _ _ hb23 (fun eH=>?_)
 clear HK HS hb23
 obtain⟨ll,hll⟩:∃ll,ll=l.length:=⟨_,rfl⟩
 have HLL:=hH hll
 have hidx:∀w:World,(Instr.index 148 (.agg A) (.int .i8 kd)).run Tryz.prog w= .ok (.slice (some ⟨r,0,none⟩) ll ll) w:=fun w=>by
  exact se5
 clear hll
 refine tJ (i:=6) (.slice (some ⟨r,0,none⟩) ll ll) rfl ?_ ?_
 · exact ua8
 simp only[Act.put,pg]
 clear hidx
 refine tJ (i:=7) (.int .i64 (ll:Int)) rfl ?_ ?_
 · clear eH;intro Y hSw;clear hSw;go_simp
 simp only[Act.put,pg]
 refine wpAnyH_done kr1 ?_ _
 clear eH HKD
 have hl100:ll≤100:=by rw[HLL.out];exact HL.out.2.2.2.1
 have HR3:=hH (HH.out.keep s2 W2 W3 H2.out.1 (fun q h _=>H3.out.1.block q h) H3.out.1.size)
 have HM3:=hH ((H3.out.1.block b (lohQ H2.out.2.1)).trans H2.out.2.1)
 go_wp2_with fail
 go_loopw [22] (fun i wr=>∃j:Nat,j≤ll∧i= .int .i64 (j:Int)∧Hid (∃s' cs',qU num (qs.take j) s2 cs2=some (s',cs')∧R s' wr∧wr.heap[b]? =some (.cells cs' 37 (0,0))∧Yf cs' kd∧za W3 wr (fun q=>O q∨q=b))) (fun i _=>ll - (intOf i).toNat)
 case atStart=>exact⟨0,NzlQ _,rfl,hH ⟨s2,cs2,rfl,HR3.out,HM3.out,H2.out.2.2.1,⟨rfl,rfl,rfl,NlrQ _,fun _ _ _=>rfl⟩⟩⟩
 case round=>
  obtain⟨j,hj,rfl,hh⟩:=hrel
  obtain⟨wo,hwo⟩:∃wo,wo=wr:=⟨_,rfl⟩
  subst hwo
  obtain⟨s',cs',hrun,hrr,hcc,hmm,htt⟩:=hh.out
  clear hh
  by_cases hlt:j<ll
  · obtain⟨F,hF⟩:∃F,l[j]? =some F:=⟨_,List.getElem?_eq_getElem (by rw[←HLL.out];exact hlt)⟩
    obtain⟨q,hq⟩:∃q,qs[j]? =some q:=⟨_,List.getElem?_eq_getElem (by rw[←HL.out.2.1,←HLL.out];exact hlt)⟩
    have HF:=hH (HL.out.2.2.1 j F q hF hq)
    have hji:(j:Int)<(ll:Int):=by omega
    have hj0:(0:Int)≤(j:Int):=by omega
    have hj2:(j:Int)≤100:=by omega
    have hrow:wo.heap[r]? =some (.cells (l.map (mfV (.agg #[.pointer (some ⟨b,0,none⟩),.iface T v]))).toArray 1 (0,0)):=(htt.block r (lohQ H3.out.2.1) (HNO.out r (NltQ (Nat.le_of_lt (lohQ H2.out.2.2.2.2)) H3.out.2.2.1))).trans H3.out.2.1
    have rj:wo.cell? ⟨r,j,none⟩=some (.func (.func F) #[.agg #[.pointer (some ⟨b,0,none⟩),.iface T v]] #[]):=by
     rw[corQ _ _ j _ _ _ hrow]
     simp[hF,mfV]
    obtain⟨n,hn⟩:=hmm.nums q.1 HF.out.one.1 HF.out.one.2
    have hen:=HF.out.enter
    have hdo:=HF.out.does s' wo cs' n hrr hcc hn hmm.kind
    have HD:=hH (aN hdo (aN hrun (aN hq (aN (kG hn) (aN hmm htt)))))
    clear hdo hrun hq hn hmm htt hrr hcc hrow hF hj
    go_wp2_with fail
    refine HD.out.1.mono ?_
    intro e W6 hq
    unfold zJ at hq
    cases ho:num s' n q.2.1 q.2.2 with
    | none=>
      rw[ho] at hq
      obtain⟨rfl,ht⟩:=hq
      refine⟨rfl,Zb.none (by rw[HN2.out];exact zbG HD.out.2.1 HD.out.2.2.1 (by rw[HD.out.2.2.2.1];exact ho)) (H2.out.2.2.2.1.zK ((zn H3.out.1 _).zK (HD.out.2.2.2.2.2.zK ht)))⟩
    | some ms=>
      obtain⟨m,t⟩:=ms
      rw[ho] at hq
      obtain⟨rfl,hr6,hc6,ht6⟩:=hq
      have hr6:=hr6 (HG2.out _ _ _ (Ja HD.out.2.1 HD.out.2.2.1 (by rw[HD.out.2.2.2.1];exact ho)))
      have HQ:=hH (aN (Ja HD.out.2.1 HD.out.2.2.1 (by rw[HD.out.2.2.2.1];exact ho)) (aN hr6 (aN hc6 (aN (HD.out.2.2.2.2.1.set HF.out.one.1 m) (HD.out.2.2.2.2.2.zK ht6)))))
      have HJ:=hH hlt
      clear ho hr6 hc6 ht6 rj hlt
      exact sf3
  · have hji:¬(j:Int)<(ll:Int):=by omega
    exact sd8
structure zjA where
 (k n1 n2 n3 n4 n5 n6 n7 n8 n9 n10:Int)
deriving DecidableEq
theorem Jq (w:World)(k n1 n2 n3 n4 n5 n6 n7 n8 n9 n10:Int)(sa:Option Addr)(sn sc:Nat)(i kd:Int)(s:ByteArray)(ka:Option Addr)(kn kc:Nat)(hk:IntKind.i64.wrap k=k):
 Calls Tryz.prog 61 #[.agg #[.int .i8 k,.int .i64 n1,.int .i64 n2,.int .i64 n3,.int .i64 n4,.int .i64 n5,.int .i64 n6,.int .i64 n7,.int .i64 n8,.int .i64 n9,.int .i64 n10,.slice sa sn sc,.int .i64 i,.int .i64 kd,.string s,.slice ka kn kc]] w (fun e w'=>e= .returned (.agg #[.int .i64 k,.int .i64 n1,.int .i64 n2,.int .i64 n3,.int .i64 n4,.int .i64 n5,.int .i64 n6,.int .i64 n7,.int .i64 n8,.int .i64 n9,.int .i64 n10])∧Below w.heap.size w w'):=by
 go_enter Tryz.func61,Tryz.ntmps61
 go_wp2_with fail
 refine brQ (results_cell_row rfl _ _ (w.heap.size+1) 91 #[.int .i64 k,.int .i64 n1,.int .i64 n2,.int .i64 n3,.int .i64 n4,.int .i64 n5,.int .i64 n6,.int .i64 n7,.int .i64 n8,.int .i64 n9,.int .i64 n10] (0,0) _ rfl (by rw[show w.heap.size+1=(w.alloc (.cells #[.int .i8 k,.int .i64 n1,.int .i64 n2,.int .i64 n3,.int .i64 n4,.int .i64 n5,.int .i64 n6,.int .i64 n7,.int .i64 n8,.int .i64 n9,.int .i64 n10,.slice sa sn sc,.int .i64 i,.int .i64 kd,.string s,.slice ka kn kc] 37)).heap.size from (WsaQ _ _).symm];exact hanQ _ _) Tryz.underlying91 rfl kr1) rfl ?_
 exact⟨rfl,((BrQ _ _).alloc (NlrQ _) _).alloc ud4 _⟩
def yz (a b:zjA):Bool:=a.k == b.k && (a.n1 == b.n1 && (a.n2 == b.n2 && (a.n3 == b.n3 && (a.n4 == b.n4 && (a.n5 == b.n5 && (a.n6 == b.n6 && (a.n7 == b.n7 && (a.n8 == b.n8 && (a.n9 == b.n9 && a.n10 == b.n10)))))))))
theorem Qp (w:World)(d:Nat)(xs ys:Array Value):∀(is:List Nat),(∀i,i∈is→(∃x,xs[i]? =some (.int .i64 x))∧(∃y,ys[i]? =some (.int .i64 y)))→(Op.eqItems (d+1) 3 1 xs ys is).run Tryz.prog w= .ok (is.all fun i=>vV xs i == vV ys i) w
 | [],_=>by simp[Op.eqItems]
 | i ::is,h=>by
   obtain⟨⟨x,hx⟩,y,hy⟩:=h i sp
   have ih:=Qp w d xs ys is (fun j hj=>h j (by simp[hj]))
   have px:∀(zs:Array Value) (z:Int),zs[i]? =some (.int .i64 z)→(part 3 zs (i*1)).run Tryz.prog w= .ok (.int .i64 z) w:=fun zs z hz=>by
    simp[part,run_underlying Tryz.underlying3,hz]
   simp only[Op.eqItems,Sem.run_bind,px xs x hx,px ys y hy,Result.andThen_ok,Op.equalIn,run_underlying Tryz.underlying3]
   cases hb:(x == y)
   · simp[hb,vV,hx,hy]
   · simp[hb,vV,hx,hy,ih]
theorem J9 (w:World)(k n1 n2 n3 n4 n5 n6 n7 n8 n9 n10 k' n1' n2' n3' n4' n5' n6' n7' n8' n9' n10' :Int):(binOp .eql 91 (.agg #[.int .i64 k,.int .i64 n1,.int .i64 n2,.int .i64 n3,.int .i64 n4,.int .i64 n5,.int .i64 n6,.int .i64 n7,.int .i64 n8,.int .i64 n9,.int .i64 n10]) (.agg #[.int .i64 k',.int .i64 n1',.int .i64 n2',.int .i64 n3',.int .i64 n4',.int .i64 n5',.int .i64 n6',.int .i64 n7',.int .i64 n8',.int .i64 n9',.int .i64 n10'])).run Tryz.prog w= .ok (.bool (yz ⟨k,n1,n2,n3,n4,n5,n6,n7,n8,n9,n10⟩ ⟨k',n1',n2',n3',n4',n5',n6',n7',n8',n9',n10'⟩)) w:=by
 obtain⟨i,hi⟩:∃i,Tryz.prog.info? 3=some i:=Option.isSome_iff_exists.1 (show (Tryz.prog.info? 3).isSome=true by kernel_rfl)
 have hr:=run_equalIn_array w 9999 #[.int .i64 k,.int .i64 n1,.int .i64 n2,.int .i64 n3,.int .i64 n4,.int .i64 n5,.int .i64 n6,.int .i64 n7,.int .i64 n8,.int .i64 n9,.int .i64 n10] #[.int .i64 k',.int .i64 n1',.int .i64 n2',.int .i64 n3',.int .i64 n4',.int .i64 n5',.int .i64 n6',.int .i64 n7',.int .i64 n8',.int .i64 n9',.int .i64 n10'] Tryz.underlying91 hi
 rw [show Tryz.prog.cellsOf 3=1 from by kernel_rfl,show List.range 11= [0,1,2,3,4,5,6,7,8,9,10] from rfl,Qp w 9998 _ _ _ (fun i hi=>by
  simp only[List.mem_cons,List.not_mem_nil,or_false] at hi
  rcases hi with rfl | rfl | rfl | rfl | rfl | rfl | rfl | rfl | rfl | rfl | rfl<;>exact⟨⟨_,rfl⟩,_,rfl⟩)] at hr
 have hb:Op.maxDepth=9999+1:=rfl
 simp only[binOp,Op.equal,hb,Sem.run_bind,hr,Result.andThen_ok,Functor.map]
 simp[yz,vV,List.all]
end Go.Proofs.YtoidedomenkbpaaGreat
