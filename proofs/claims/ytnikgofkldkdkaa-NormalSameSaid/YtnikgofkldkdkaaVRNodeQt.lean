/-
  .
-/
import Derived.Test.YtnikgofkldkdkaaGRFitsQt
set_option maxRecDepth 100000
set_option maxHeartbeats 40000000
namespace Go.Proofs.Ytnikgofkldkdkaa
open Go.RowKit Go.Shelf
attribute [local go_sem] Oper.semAt_some
set_option linter.unusedVariables false
set_option linter.unusedSimpArgs false
theorem YL {g:Gr}{x:Tr}(h:kindOf g x.kind=none):kU g x=false:=by
 unfold kU;rw[h];simp[Ja]
theorem zgi (w:World)(S:Nat→Prop)(gv:Value)(g:Gr)(nv:Value)(x:Tr)(hg:GrV w gv g)(hf:g.few)(hS:∀y,S y→y<w.heap.size)(hx:zK w S nv x)(hn:foLen x.kids≤1000000)(hts:(x.text.size:Int)≤9223372036854775807):
 Calls Try.prog 45 #[gv,nv] w (Says (kU g x) w):=by
 obtain⟨ga,gc,rfl,hgk⟩:=hg
 obtain⟨ka,cap,rfl,hcap,hk⟩:=hx
 obtain⟨n,hn0⟩:∃n,n=foLen x.kids:=⟨_,rfl⟩
 obtain⟨gn,hgn⟩:∃gn,gn=g.kinds.length:=⟨_,rfl⟩
 rw[←hn0,←hgn]
 have hal:=ze [.cells #[.slice ga gn gc,.int .i64 g.root] 24,.cells #[.int .i64 x.id,.int .i64 x.kind,.string x.text,.slice ka n cap] 27] w
 have hab:=zl [.cells #[.slice ga gn gc,.int .i64 g.root] 24,.cells #[.int .i64 x.id,.int .i64 x.kind,.string x.text,.slice ka n cap] 27] w
 have kx:=hal 0 _ rfl
 rw[Nat.add_zero] at kx
 have ky:=hal 1 _ rfl
 obtain⟨V,hV⟩:∃V,V=zx w [.cells #[.slice ga gn gc,.int .i64 g.root] 24,.cells #[.int .i64 x.id,.int .i64 x.kind,.string x.text,.slice ka n cap] 27]:=⟨_,rfl⟩
 rw[←hV] at kx ky hab
 obtain⟨SX,hSX⟩:∃SX:World→Prop,SX=fun X=>Below V.heap.size V X:=⟨_,rfl⟩
 have HSx:∀X,SX X→X.cell? ⟨w.heap.size,0,none⟩=some (.slice ga gn gc)∧X.cell? ⟨w.heap.size,1,none⟩=some (.int .i64 g.root)∧uf1 X (w.heap.size+1) x.id x.kind x.text ka n cap:=fun X h=>by
  rw[hSX] at h
  obtain⟨a0,a1⟩:=zjZ ((h.block _ (lohQ kx)).trans kx)
  obtain⟨b0,b1,b2,b3⟩:=ziM ((h.block _ (lohQ ky)).trans ky)
  exact⟨a0,a1,b0,b1,b2,b3⟩
 have hS0:SX V.drew:=by rw[hSX];exact⟨rfl,rfl,rfl,NlrQ _,fun _ _=>rfl⟩
 have HSB:=hH (fun (X Y:World) (h:SX X) (hb:Below X.heap.size X Y)=>(show SX Y by rw[hSX] at h ⊢;exact h.trans (hb.mono h.size)))
 have hwX:∀X,SX X→Below w.heap.size w X:=fun X h=>by rw[hSX] at h;exact hab.trans (h.mono hab.size)
 have hgX:∀X,SX X→GrV X (.agg #[.slice ga gn gc,.int .i64 g.root]) g:=fun X h=>⟨ga,gc,by rw[hgn],hgk.below (hwX X h)⟩
 obtain⟨b1,hb1⟩:∃b,b=zaX (kindOf g x.kind) x.text:=⟨_,rfl⟩
 obtain⟨b2,hb2⟩:∃b,b=Ja (kindOf g x.kind) (qY x.kids):=⟨_,rfl⟩
 obtain⟨kn,hkn⟩:∃kn,kn=(qY x.kids).length:=⟨_,rfl⟩
 have HTX:Hid (∀X,SX X→Calls Try.prog 66 #[.agg #[.slice ga gn gc,.int .i64 g.root],.int .i64 x.kind,.string x.text] X (Says b1 X)):=hH fun X h=>by
  have:=zgo X _ g x.kind x.text (hgX X h) hf hts
  rw[←hb1] at this;exact this
 have HKI:Hid (∀X,SX X→Calls Try.prog 68 #[.agg #[.int .i64 x.id,.int .i64 x.kind,.string x.text,.slice ka n cap]] X (zgP X x.kids)):=hH fun X h=>zeA X S _ x (fun y hy=>nL (hS y hy) (hwX X h).size) ⟨ka,cap,by rw[hn0],hcap,hk.below (hwX X h) hS⟩ hn
 have HFI:Hid (∀X,SX X→∀xa xc,vP X xa (qY x.kids)→Calls Try.prog 67 #[.agg #[.slice ga gn gc,.int .i64 g.root],.int .i64 x.kind,.slice xa kn xc] X (Says b2 X)):=hH fun X h xa xc hi=>by
  have:=zgf X _ g x.kind xa xc (qY x.kids) (hgX X h) hf hi (by rw[kJ];exact hn)
  rw[←hb2,←hkn] at this;exact this
 have HKL:=hH hkn
 obtain⟨ck,hck⟩:∃ck,ck=vg g:=⟨_,rfl⟩
 have HCK:Hid (∀X,SX X→Calls Try.prog 28 #[.agg #[.slice ga gn gc,.int .i64 g.root]] X (qB (QL ck) X)):=hH fun X h=>by
  have:=yG X _ g (hgX X h) hf
  rw[←hck] at this;exact this
 have HC:=hH hck
 have HGN:=hH hgn
 have HBB:=hH (aN hb1 hb2)
 have HB:=hH (show kU g x=(b1 && b2) by rw[hb1,hb2];rfl)
 have HFIN:=hH hwX
 have HV:=hH hV
 clear hS hcap hk hn hts hf hgk hn0 hgn hal hab kx ky hwX hgX hSX hV hb1 hb2 hkn hck
 cases ck
 · rw[show QL false=50 from rfl] at HCK
   have HB:=hH (show kU g x=false by rw[YL];unfold kindOf;rw[inQ (by rw[←HC.out];simp)])
   refine (callsIn_wide (n:=8)).1 ?_
   refine callsIn_of_wp_marks Try.func45 rfl trivial ?_ rfl
   simp only[Try.ntmps45,List.size_toArray,LlcQ,List.length_nil,Nat.reduceAdd,Nat.reduceSub,Array.replicate_succ,Array.replicate_zero,List.push_toArray,List.append_toArray,List.nil_append,List.cons_append]
   gi_wp2_with fail
   change Code.wpIn _ _ _ _ _ _ (zx w [.cells #[.slice ga gn gc,.int .i64 g.root] 24,.cells #[.int .i64 x.id,.int .i64 x.kind,.string x.text,.slice ka n cap] 27])
   rw[←HV.out]
   refine jC (S:=SX) kr1 ?_
   have uH:=hS0
   clear hS0
   refine zL1 (i:=0) (.agg #[.slice ga gn gc,.int .i64 g.root]) rfl ?_ ?_
   · exact uc1
   simp only[Act.put,pg]
   refine qO (i:=1) (o:=_) kr1 rfl fun K1 hK1=>?_
   rw[ipQ uf0]
   simp only[pg3]
   have HK1:=hH hK1
   have HH1:=hH uH
   clear hK1 uH
   gi_wp2_with (refine⟨trivial,?_⟩;gi_at_call 28;refine (callsIn_wide.2 (HCK.out _ HH1.out)).mono ?_;rintro e X1 ⟨rfl,hb⟩;have HX1:=hH hb;clear hb)
   have uH:=HSB.out _ X1 HH1.out HX1.out
   refine HK1.out _ _ uH ?_
   clear HK1
   refine zG1 (i:=2) (.bool false) rfl ?_
   simp only[Act.put,pg]
   refine zG1 (i:=3) (.bool false) rfl ?_
   simp only[Act.put,pg]
   refine zR1 (i:=4) rfl ?_
   simp only[Act.put,pg]
   refine zR1 (i:=5) rfl ?_
   simp only[Act.put,pg]
   refine zR1 (i:=6) rfl ?_
   simp only[Act.put,pg]
   refine zG1 (i:=7) (.bool false) rfl ?_
   simp only[Act.put,pg]
   refine zG1 (i:=8) (.bool false) rfl ?_
   simp only[Act.put,pg]
   refine zR1 (i:=9) rfl ?_
   simp only[Act.put,pg]
   refine zR1 (i:=10) rfl ?_
   simp only[Act.put,pg]
   refine zR1 (i:=11) rfl ?_
   simp only[Act.put,pg]
   refine zR1 (i:=12) rfl ?_
   simp only[Act.put,pg]
   refine zR1 (i:=13) rfl ?_
   simp only[Act.put,pg]
   refine zR1 (i:=14) rfl ?_
   exact sa2
 rw[show QL true=0 from rfl] at HCK
 by_cases h0:0≤x.kind
 case neg=>
  have HB:=hH (show kU g x=false by rw[YL];unfold kindOf;rw[inQ (by intro h;exact h0 h.2)])
  refine (callsIn_wide (n:=8)).1 ?_
  refine callsIn_of_wp_marks Try.func45 rfl trivial ?_ rfl
  simp only[Try.ntmps45,List.size_toArray,LlcQ,List.length_nil,Nat.reduceAdd,Nat.reduceSub,Array.replicate_succ,Array.replicate_zero,List.push_toArray,List.append_toArray,List.nil_append,List.cons_append]
  gi_wp2_with fail
  change Code.wpIn _ _ _ _ _ _ (zx w [.cells #[.slice ga gn gc,.int .i64 g.root] 24,.cells #[.int .i64 x.id,.int .i64 x.kind,.string x.text,.slice ka n cap] 27])
  rw[←HV.out]
  refine jC (S:=SX) kr1 ?_
  have uH:=hS0
  clear hS0
  refine zL1 (i:=0) (.agg #[.slice ga gn gc,.int .i64 g.root]) rfl ?_ ?_
  · exact uc1
  simp only[Act.put,pg]
  refine qO (i:=1) (o:=_) kr1 rfl fun K1 hK1=>?_
  rw[ipQ uf0]
  simp only[pg3]
  have HK1:=hH hK1
  have HH1:=hH uH
  clear hK1 uH
  gi_wp2_with (refine⟨trivial,?_⟩;gi_at_call 28;refine (callsIn_wide.2 (HCK.out _ HH1.out)).mono ?_;rintro e X1 ⟨rfl,hb⟩;have HX1:=hH hb;clear hb)
  have uH:=HSB.out _ X1 HH1.out HX1.out
  refine HK1.out _ _ uH ?_
  clear HK1
  refine zG1 (i:=2) (.bool true) rfl ?_
  simp only[Act.put,pg]
  refine zG1 (i:=3) (.bool true) rfl ?_
  simp only[Act.put,pg]
  refine zG1 (i:=4) ((.pointer (some ⟨w.heap.size+1,1,none⟩))) rfl ?_
  simp only[Act.put,pg]
  refine zL1 (i:=5) (.int .i64 x.kind) rfl ?_ ?_
  · exact uc1
  simp only[Act.put,pg]
  refine zG1 (i:=6) (.bool false) rfl ?_
  simp only[Act.put,pg]
  refine zG1 (i:=7) (.bool false) rfl ?_
  simp only[Act.put,pg]
  refine zG1 (i:=8) (.bool false) rfl ?_
  simp only[Act.put,pg]
  refine zR1 (i:=9) rfl ?_
  simp only[Act.put,pg]
  refine zR1 (i:=10) rfl ?_
  simp only[Act.put,pg]
  refine zR1 (i:=11) rfl ?_
  simp only[Act.put,pg]
  refine zR1 (i:=12) rfl ?_
  simp only[Act.put,pg]
  refine zR1 (i:=13) rfl ?_
  simp only[Act.put,pg]
  refine zR1 (i:=14) rfl ?_
  exact sa2
 by_cases hl:x.kind<(gn:Int)
 case neg=>
  have HB:=hH (show kU g x=false by rw[YL];unfold kindOf;exact ite_eq_right_iff.2 fun _=>List.getElem?_eq_none (by have:=HGN.out;omega))
  refine (callsIn_wide (n:=8)).1 ?_
  refine callsIn_of_wp_marks Try.func45 rfl trivial ?_ rfl
  simp only[Try.ntmps45,List.size_toArray,LlcQ,List.length_nil,Nat.reduceAdd,Nat.reduceSub,Array.replicate_succ,Array.replicate_zero,List.push_toArray,List.append_toArray,List.nil_append,List.cons_append]
  gi_wp2_with fail
  change Code.wpIn _ _ _ _ _ _ (zx w [.cells #[.slice ga gn gc,.int .i64 g.root] 24,.cells #[.int .i64 x.id,.int .i64 x.kind,.string x.text,.slice ka n cap] 27])
  rw[←HV.out]
  refine jC (S:=SX) kr1 ?_
  have uH:=hS0
  clear hS0
  refine zL1 (i:=0) (.agg #[.slice ga gn gc,.int .i64 g.root]) rfl ?_ ?_
  · exact uc1
  simp only[Act.put,pg]
  refine qO (i:=1) (o:=_) kr1 rfl fun K1 hK1=>?_
  rw[ipQ uf0]
  simp only[pg3]
  have HK1:=hH hK1
  have HH1:=hH uH
  clear hK1 uH
  gi_wp2_with (refine⟨trivial,?_⟩;gi_at_call 28;refine (callsIn_wide.2 (HCK.out _ HH1.out)).mono ?_;rintro e X1 ⟨rfl,hb⟩;have HX1:=hH hb;clear hb)
  have uH:=HSB.out _ X1 HH1.out HX1.out
  refine HK1.out _ _ uH ?_
  clear HK1
  refine zG1 (i:=2) (.bool true) rfl ?_
  simp only[Act.put,pg]
  refine zG1 (i:=3) (.bool true) rfl ?_
  simp only[Act.put,pg]
  refine zG1 (i:=4) ((.pointer (some ⟨w.heap.size+1,1,none⟩))) rfl ?_
  simp only[Act.put,pg]
  refine zL1 (i:=5) (.int .i64 x.kind) rfl ?_ ?_
  · exact uc1
  simp only[Act.put,pg]
  refine zG1 (i:=6) (.bool true) rfl ?_
  simp only[Act.put,pg]
  refine zG1 (i:=7) (.bool true) rfl ?_
  simp only[Act.put,pg]
  refine zG1 (i:=8) (.bool true) rfl ?_
  simp only[Act.put,pg]
  refine zG1 (i:=9) ((.pointer (some ⟨w.heap.size+1,1,none⟩))) rfl ?_
  simp only[Act.put,pg]
  refine zL1 (i:=10) (.int .i64 x.kind) rfl ?_ ?_
  · exact uc1
  simp only[Act.put,pg]
  refine zG1 (i:=11) ((.pointer (some ⟨w.heap.size,0,none⟩))) rfl ?_
  simp only[Act.put,pg]
  refine zL1 (i:=12) (.slice ga gn gc) rfl ?_ ?_
  · exact uc1
  simp only[Act.put,pg]
  refine zG1 (i:=13) ((.int .i64 (gn:Int))) rfl ?_
  simp only[Act.put,pg]
  refine zG1 (i:=14) (.bool false) rfl ?_
  exact sa2
 cases b1
 · have HB:=hH (show kU g x=false by unfold kU;rw[←HBB.out.1];rfl)
   refine (callsIn_wide (n:=8)).1 ?_
   refine callsIn_of_wp_marks Try.func45 rfl trivial ?_ rfl
   simp only[Try.ntmps45,List.size_toArray,LlcQ,List.length_nil,Nat.reduceAdd,Nat.reduceSub,Array.replicate_succ,Array.replicate_zero,List.push_toArray,List.append_toArray,List.nil_append,List.cons_append]
   gi_wp2_with fail
   change Code.wpIn _ _ _ _ _ _ (zx w [.cells #[.slice ga gn gc,.int .i64 g.root] 24,.cells #[.int .i64 x.id,.int .i64 x.kind,.string x.text,.slice ka n cap] 27])
   rw[←HV.out]
   refine jC (S:=SX) kr1 ?_
   have uH:=hS0
   clear hS0
   refine zL1 (i:=0) (.agg #[.slice ga gn gc,.int .i64 g.root]) rfl ?_ ?_
   · exact uc1
   simp only[Act.put,pg]
   refine qO (i:=1) (o:=_) kr1 rfl fun K1 hK1=>?_
   rw[ipQ uf0]
   simp only[pg3]
   have HK1:=hH hK1
   have HH1:=hH uH
   clear hK1 uH
   gi_wp2_with (refine⟨trivial,?_⟩;gi_at_call 28;refine (callsIn_wide.2 (HCK.out _ HH1.out)).mono ?_;rintro e X1 ⟨rfl,hb⟩;have HX1:=hH hb;clear hb)
   have uH:=HSB.out _ X1 HH1.out HX1.out
   refine HK1.out _ _ uH ?_
   clear HK1
   refine zG1 (i:=2) (.bool true) rfl ?_
   simp only[Act.put,pg]
   refine zG1 (i:=3) (.bool true) rfl ?_
   simp only[Act.put,pg]
   refine zG1 (i:=4) ((.pointer (some ⟨w.heap.size+1,1,none⟩))) rfl ?_
   simp only[Act.put,pg]
   refine zL1 (i:=5) (.int .i64 x.kind) rfl ?_ ?_
   · exact uc1
   simp only[Act.put,pg]
   refine zG1 (i:=6) (.bool true) rfl ?_
   simp only[Act.put,pg]
   refine zG1 (i:=7) (.bool true) rfl ?_
   simp only[Act.put,pg]
   refine zG1 (i:=8) (.bool true) rfl ?_
   simp only[Act.put,pg]
   refine zG1 (i:=9) ((.pointer (some ⟨w.heap.size+1,1,none⟩))) rfl ?_
   simp only[Act.put,pg]
   refine zL1 (i:=10) (.int .i64 x.kind) rfl ?_ ?_
   · exact uc1
   simp only[Act.put,pg]
   refine zG1 (i:=11) ((.pointer (some ⟨w.heap.size,0,none⟩))) rfl ?_
   simp only[Act.put,pg]
   refine zL1 (i:=12) (.slice ga gn gc) rfl ?_ ?_
   · exact uc1
   simp only[Act.put,pg]
   refine zG1 (i:=13) ((.int .i64 (gn:Int))) rfl ?_
   simp only[Act.put,pg]
   refine zG1 (i:=14) (.bool true) rfl ?_
   simp only[Act.put,pg]
   refine zG1 (i:=15) (.bool true) rfl ?_
   simp only[Act.put,pg]
   refine zG1 (i:=16) (.bool true) rfl ?_
   simp only[Act.put,pg]
   refine zL1 (i:=17) (.agg #[.slice ga gn gc,.int .i64 g.root]) rfl ?_ ?_
   · exact uc1
   simp only[Act.put,pg]
   refine zG1 (i:=18) ((.pointer (some ⟨w.heap.size+1,1,none⟩))) rfl ?_
   simp only[Act.put,pg]
   refine zL1 (i:=19) (.int .i64 x.kind) rfl ?_ ?_
   · exact uc1
   simp only[Act.put,pg]
   refine zG1 (i:=20) ((.pointer (some ⟨w.heap.size+1,2,none⟩))) rfl ?_
   simp only[Act.put,pg]
   refine zL1 (i:=21) (.string x.text) rfl ?_ ?_
   · exact uc1
   simp only[Act.put,pg]
   refine qO (i:=22) (o:=_) kr1 rfl fun K22 hK22=>?_
   rw[ipQ uf0]
   simp only[pg3]
   have HK22:=hH hK22
   have HH22:=hH uH
   clear hK22 uH
   gi_wp2_with (refine⟨trivial,?_⟩;gi_at_call 66;refine (callsIn_wide.2 (HTX.out _ HH22.out)).mono ?_;rintro e X22 ⟨rfl,hb⟩;have HX22:=hH hb;clear hb)
   have uH:=HSB.out _ X22 HH22.out HX22.out
   refine HK22.out _ _ uH ?_
   clear HK22
   refine zG1 (i:=23) (.bool false) rfl ?_
   simp only[Act.put,pg]
   refine zG1 (i:=24) (.bool false) rfl ?_
   simp only[Act.put,pg]
   refine zR1 (i:=25) rfl ?_
   simp only[Act.put,pg]
   refine zR1 (i:=26) rfl ?_
   simp only[Act.put,pg]
   refine zR1 (i:=27) rfl ?_
   simp only[Act.put,pg]
   refine zR1 (i:=28) rfl ?_
   simp only[Act.put,pg]
   refine zR1 (i:=29) rfl ?_
   simp only[Act.put,pg]
   refine zR1 (i:=30) rfl ?_
   simp only[Act.put,pg]
   refine zG1 (i:=31) (.bool false) rfl ?_
   simp only[Act.put,pg]
   refine zG1 (i:=32) (.bool false) rfl ?_
   exact sc4
 · have HB:=hH (show kU g x=b2 by unfold kU;rw[←HBB.out.1,←HBB.out.2];rfl)
   refine (callsIn_wide (n:=8)).1 ?_
   refine callsIn_of_wp_marks Try.func45 rfl trivial ?_ rfl
   simp only[Try.ntmps45,List.size_toArray,LlcQ,List.length_nil,Nat.reduceAdd,Nat.reduceSub,Array.replicate_succ,Array.replicate_zero,List.push_toArray,List.append_toArray,List.nil_append,List.cons_append]
   gi_wp2_with fail
   change Code.wpIn _ _ _ _ _ _ (zx w [.cells #[.slice ga gn gc,.int .i64 g.root] 24,.cells #[.int .i64 x.id,.int .i64 x.kind,.string x.text,.slice ka n cap] 27])
   rw[←HV.out]
   refine jC (S:=SX) kr1 ?_
   have uH:=hS0
   clear hS0
   refine zL1 (i:=0) (.agg #[.slice ga gn gc,.int .i64 g.root]) rfl ?_ ?_
   · exact uc1
   simp only[Act.put,pg]
   refine qO (i:=1) (o:=_) kr1 rfl fun K1 hK1=>?_
   rw[ipQ uf0]
   simp only[pg3]
   have HK1:=hH hK1
   have HH1:=hH uH
   clear hK1 uH
   gi_wp2_with (refine⟨trivial,?_⟩;gi_at_call 28;refine (callsIn_wide.2 (HCK.out _ HH1.out)).mono ?_;rintro e X1 ⟨rfl,hb⟩;have HX1:=hH hb;clear hb)
   have uH:=HSB.out _ X1 HH1.out HX1.out
   refine HK1.out _ _ uH ?_
   clear HK1
   refine zG1 (i:=2) (.bool true) rfl ?_
   simp only[Act.put,pg]
   refine zG1 (i:=3) (.bool true) rfl ?_
   simp only[Act.put,pg]
   refine zG1 (i:=4) ((.pointer (some ⟨w.heap.size+1,1,none⟩))) rfl ?_
   simp only[Act.put,pg]
   refine zL1 (i:=5) (.int .i64 x.kind) rfl ?_ ?_
   · exact uc1
   simp only[Act.put,pg]
   refine zG1 (i:=6) (.bool true) rfl ?_
   simp only[Act.put,pg]
   refine zG1 (i:=7) (.bool true) rfl ?_
   simp only[Act.put,pg]
   refine zG1 (i:=8) (.bool true) rfl ?_
   simp only[Act.put,pg]
   refine zG1 (i:=9) ((.pointer (some ⟨w.heap.size+1,1,none⟩))) rfl ?_
   simp only[Act.put,pg]
   refine zL1 (i:=10) (.int .i64 x.kind) rfl ?_ ?_
   · exact uc1
   simp only[Act.put,pg]
   refine zG1 (i:=11) ((.pointer (some ⟨w.heap.size,0,none⟩))) rfl ?_
   simp only[Act.put,pg]
   refine zL1 (i:=12) (.slice ga gn gc) rfl ?_ ?_
   · exact uc1
   simp only[Act.put,pg]
   refine zG1 (i:=13) ((.int .i64 (gn:Int))) rfl ?_
   simp only[Act.put,pg]
   refine zG1 (i:=14) (.bool true) rfl ?_
   simp only[Act.put,pg]
   refine zG1 (i:=15) (.bool true) rfl ?_
   simp only[Act.put,pg]
   refine zG1 (i:=16) (.bool true) rfl ?_
   simp only[Act.put,pg]
   refine zL1 (i:=17) (.agg #[.slice ga gn gc,.int .i64 g.root]) rfl ?_ ?_
   · exact uc1
   simp only[Act.put,pg]
   refine zG1 (i:=18) ((.pointer (some ⟨w.heap.size+1,1,none⟩))) rfl ?_
   simp only[Act.put,pg]
   refine zL1 (i:=19) (.int .i64 x.kind) rfl ?_ ?_
   · exact uc1
   simp only[Act.put,pg]
   refine zG1 (i:=20) ((.pointer (some ⟨w.heap.size+1,2,none⟩))) rfl ?_
   simp only[Act.put,pg]
   refine zL1 (i:=21) (.string x.text) rfl ?_ ?_
   · exact uc1
   simp only[Act.put,pg]
   refine qO (i:=22) (o:=_) kr1 rfl fun K22 hK22=>?_
   rw[ipQ uf0]
   simp only[pg3]
   have HK22:=hH hK22
   have HH22:=hH uH
   clear hK22 uH
   gi_wp2_with (refine⟨trivial,?_⟩;gi_at_call 66;refine (callsIn_wide.2 (HTX.out _ HH22.out)).mono ?_;rintro e X22 ⟨rfl,hb⟩;have HX22:=hH hb;clear hb)
   have uH:=HSB.out _ X22 HH22.out HX22.out
   refine HK22.out _ _ uH ?_
   clear HK22
   refine zG1 (i:=23) (.bool true) rfl ?_
   simp only[Act.put,pg]
   refine zG1 (i:=24) (.bool true) rfl ?_
   simp only[Act.put,pg]
   refine zL1 (i:=25) (.agg #[.slice ga gn gc,.int .i64 g.root]) rfl ?_ ?_
   · exact uc1
   simp only[Act.put,pg]
   refine zG1 (i:=26) ((.pointer (some ⟨w.heap.size+1,1,none⟩))) rfl ?_
   simp only[Act.put,pg]
   refine zL1 (i:=27) (.int .i64 x.kind) rfl ?_ ?_
   · exact uc1
   simp only[Act.put,pg]
   refine zL1 (i:=28) (.agg #[.int .i64 x.id,.int .i64 x.kind,.string x.text,.slice ka n cap]) rfl ?_ ?_
   · exact uc1
   simp only[Act.put,pg]
   refine qO (i:=29) (o:=_) kr1 rfl fun K29 hK29=>?_
   rw[ipQ uf0]
   simp only[pg3]
   have HK29:=hH hK29
   have HH29:=hH uH
   clear hK29 uH
   gi_wp2_with (refine⟨trivial,?_⟩;gi_at_call 68;refine (callsIn_wide.2 (HKI.out _ HH29.out)).mono ?_;rintro e X29 ⟨xa,xc,rfl,hxi,hb⟩;rw[←HKL.out];have HX29:=hH (aN hxi hb);clear hxi hb)
   have uH:=HSB.out _ X29 HH29.out HX29.out.2
   refine HK29.out _ _ uH ?_
   clear HK29
   refine qO (i:=30) (o:=_) kr1 rfl fun K30 hK30=>?_
   rw[ipQ uf0]
   simp only[pg3]
   have HK30:=hH hK30
   have HH30:=hH uH
   clear hK30 uH
   gi_wp2_with (refine⟨trivial,?_⟩;gi_at_call 67;refine (callsIn_wide.2 (HFI.out _ HH30.out xa xc HX29.out.1)).mono ?_;rintro e X30 ⟨rfl,hb⟩;have HX30:=hH hb;clear hb)
   have uH:=HSB.out _ X30 HH30.out HX30.out
   refine HK30.out _ _ uH ?_
   clear HK30
   refine zG1 (i:=31) (.bool b2) rfl ?_
   simp only[Act.put,pg]
   refine zG1 (i:=32) (.bool b2) rfl ?_
   exact sc4
end Go.Proofs.Ytnikgofkldkdkaa
