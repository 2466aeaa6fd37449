/-
  .
-/
import Derived.StillTailTactics
import Derived.Test.YtchccbfljamjnaaGreatIPlainQm
import Derived.Test.YtchccbfljamjnaaGreatETSameQm
import Derived.Test.YtchccbfljamjnaaGreatELoneQm
import Derived.Test.YtchccbfljamjnaaGreatJPgQm
set_option maxRecDepth 100000
set_option maxHeartbeats 40000000
namespace Go.Proofs.YtchccbfljamjnaaGreat
open Go.RowKit
set_option linter.unusedVariables false
set_option linter.unusedSimpArgs false
def eqS (a b : Sf) : Bool := decide (a.op = b.op) && (decide (a.id = b.id) && (decide (a.par = b.par) && (decide (a.at_ = b.at_) && (decide (a.tx.toList = b.tx.toList) && yF a.sub b.sub))))
def EqC (a b : Sf) (X : World) (e : Ending) (W : World) : Prop := e = .returned (.bool (eqS a b)) ∧ Below X.heap.size X W
theorem EqC.mk {a b : Sf} {w w' : World} {c : Bool} (h : eqS a b = c) (hb : Below w.heap.size w w') : EqC a b w (.returned (.bool c)) w' := ⟨by rw [h], hb⟩
theorem zbv {X : World} {op id par at_ op2 id2 par2 at2 : Int} {tx tx2 : ByteArray} {u v : Tr} {aa ba : Option Addr} {ac bc n m : Nat} (HC : Hid (∀ w', Below X.heap.size X w' → Calls Tryz.prog 64 #[.agg #[.int .i64 u.id, .int .i64 u.kind, .string u.text, .slice aa n ac], .agg #[.int .i64 v.id, .int .i64 v.kind, .string v.text, .slice ba m bc]] w' (qb u v w'))) :
 Calls Tryz.prog 43 #[.agg #[.int .i8 op, .int .i64 id, .int .i64 par, .int .i64 at_, .string tx, .int .i64 u.id, .int .i64 u.kind, .string u.text, .slice aa n ac], .agg #[.int .i8 op2, .int .i64 id2, .int .i64 par2, .int .i64 at2, .string tx2, .int .i64 v.id, .int .i64 v.kind, .string v.text, .slice ba m bc]] X (EqC ⟨op, id, par, at_, tx, u⟩ ⟨op2, id2, par2, at2, tx2, v⟩ X) := by
 by_cases h1 : op = op2
 · have qh1 : (op == op2) = true := by simpa using h1
   by_cases h2 : id = id2
   · have qh2 : (id == id2) = true := by simpa using h2
     by_cases h3 : par = par2
     · have qh3 : (par == par2) = true := by simpa using h3
       by_cases h4 : at_ = at2
       · have qh4 : (at_ == at2) = true := by simpa using h4
         by_cases ht : tx.toList = tx2.toList
         · have HV := hH (show eqS ⟨op, id, par, at_, tx, u⟩ ⟨op2, id2, par2, at2, tx2, v⟩ = yF u v by simp [eqS, h1, h2, h3, h4, ht])
           have HC2 := HC
           clear HC h1 h2 h3 h4
           go_enter Tryz.func43, Tryz.ntmps43
           go_wp2_with fail
           refine (HC2.out _ (zq _ _ _)).mono ?_
           rintro e w2 ⟨rfl, hb⟩
           have HB := hH ((zq _ _ _).trans (hb.mono (zq _ _ _).size))
           clear hb
           go_wp2_with fail
           go_ret
           exact EqC.mk HV.out HB.out
         · have HV := hH (show eqS ⟨op, id, par, at_, tx, u⟩ ⟨op2, id2, par2, at2, tx2, v⟩ = false by simp [eqS, ht])
           have q6 : (tx.toList == tx2.toList) = false := by simpa using ht
           clear h1 h2 h3 h4
           clear HC
           go_enter Tryz.func43, Tryz.ntmps43
           go_wp2_with fail
           go_ret
           exact EqC.mk HV.out (zq _ _ _)
       · have qh4 : (at_ == at2) = false := by simpa using h4
         have HV := hH (show eqS ⟨op, id, par, at_, tx, u⟩ ⟨op2, id2, par2, at2, tx2, v⟩ = false by simp [eqS, h4])
         clear h1 h2 h3 h4
         clear HC
         go_enter Tryz.func43, Tryz.ntmps43
         go_wp2_with fail
         go_ret
         exact EqC.mk HV.out (zq _ _ _)
     · have qh3 : (par == par2) = false := by simpa using h3
       have HV := hH (show eqS ⟨op, id, par, at_, tx, u⟩ ⟨op2, id2, par2, at2, tx2, v⟩ = false by simp [eqS, h3])
       clear h1 h2 h3
       clear HC
       go_enter Tryz.func43, Tryz.ntmps43
       go_wp2_with fail
       go_ret
       exact EqC.mk HV.out (zq _ _ _)
   · have qh2 : (id == id2) = false := by simpa using h2
     have HV := hH (show eqS ⟨op, id, par, at_, tx, u⟩ ⟨op2, id2, par2, at2, tx2, v⟩ = false by simp [eqS, h2])
     clear h1 h2
     clear HC
     go_enter Tryz.func43, Tryz.ntmps43
     go_wp2_with fail
     go_ret
     exact EqC.mk HV.out (zq _ _ _)
 · have qh1 : (op == op2) = false := by simpa using h1
   have HV := hH (show eqS ⟨op, id, par, at_, tx, u⟩ ⟨op2, id2, par2, at2, tx2, v⟩ = false by simp [eqS, h1])
   clear h1
   clear HC
   go_enter Tryz.func43, Tryz.ntmps43
   go_wp2_with fail
   go_ret
   exact EqC.mk HV.out (zq _ _ _)
theorem zbl {X : World} {op id par at_ op2 id2 par2 at2 : Int} {tx tx2 : ByteArray} {u v : Tr} {aa ba : Option Addr} {ac bc n m : Nat} (HC : Hid (∀ w', Below X.heap.size X w' → Calls Tryz.prog 63 #[.agg #[.int .i64 u.id, .int .i64 u.kind, .string u.text, .slice aa n ac], .agg #[.int .i64 v.id, .int .i64 v.kind, .string v.text, .slice ba m bc]] w' (qb u v w'))) :
 Calls Tryz.prog 109 #[.agg #[.int .i8 op, .int .i64 id, .int .i64 par, .int .i64 at_, .string tx, .int .i64 u.id, .int .i64 u.kind, .string u.text, .slice aa n ac], .agg #[.int .i8 op2, .int .i64 id2, .int .i64 par2, .int .i64 at2, .string tx2, .int .i64 v.id, .int .i64 v.kind, .string v.text, .slice ba m bc]] X (EqC ⟨op, id, par, at_, tx, u⟩ ⟨op2, id2, par2, at2, tx2, v⟩ X) := by
 by_cases h1 : op = op2
 · have qh1 : (op == op2) = true := by simpa using h1
   by_cases h2 : id = id2
   · have qh2 : (id == id2) = true := by simpa using h2
     by_cases h3 : par = par2
     · have qh3 : (par == par2) = true := by simpa using h3
       by_cases h4 : at_ = at2
       · have qh4 : (at_ == at2) = true := by simpa using h4
         by_cases ht : tx.toList = tx2.toList
         · have HV := hH (show eqS ⟨op, id, par, at_, tx, u⟩ ⟨op2, id2, par2, at2, tx2, v⟩ = yF u v by simp [eqS, h1, h2, h3, h4, ht])
           have HC2 := HC
           clear HC h1 h2 h3 h4
           go_enter Tryz.func109, Tryz.ntmps109
           go_wp2_with fail
           refine (HC2.out _ (zq _ _ _)).mono ?_
           rintro e w2 ⟨rfl, hb⟩
           have HB := hH ((zq _ _ _).trans (hb.mono (zq _ _ _).size))
           clear hb
           go_wp2_with fail
           go_ret
           exact EqC.mk HV.out HB.out
         · have HV := hH (show eqS ⟨op, id, par, at_, tx, u⟩ ⟨op2, id2, par2, at2, tx2, v⟩ = false by simp [eqS, ht])
           have q6 : (tx.toList == tx2.toList) = false := by simpa using ht
           clear h1 h2 h3 h4
           clear HC
           go_enter Tryz.func109, Tryz.ntmps109
           go_wp2_with fail
           go_ret
           exact EqC.mk HV.out (zq _ _ _)
       · have qh4 : (at_ == at2) = false := by simpa using h4
         have HV := hH (show eqS ⟨op, id, par, at_, tx, u⟩ ⟨op2, id2, par2, at2, tx2, v⟩ = false by simp [eqS, h4])
         clear h1 h2 h3 h4
         clear HC
         go_enter Tryz.func109, Tryz.ntmps109
         go_wp2_with fail
         go_ret
         exact EqC.mk HV.out (zq _ _ _)
     · have qh3 : (par == par2) = false := by simpa using h3
       have HV := hH (show eqS ⟨op, id, par, at_, tx, u⟩ ⟨op2, id2, par2, at2, tx2, v⟩ = false by simp [eqS, h3])
       clear h1 h2 h3
       clear HC
       go_enter Tryz.func109, Tryz.ntmps109
       go_wp2_with fail
       go_ret
       exact EqC.mk HV.out (zq _ _ _)
   · have qh2 : (id == id2) = false := by simpa using h2
     have HV := hH (show eqS ⟨op, id, par, at_, tx, u⟩ ⟨op2, id2, par2, at2, tx2, v⟩ = false by simp [eqS, h2])
     clear h1 h2
     clear HC
     go_enter Tryz.func109, Tryz.ntmps109
     go_wp2_with fail
     go_ret
     exact EqC.mk HV.out (zq _ _ _)
 · have qh1 : (op == op2) = false := by simpa using h1
   have HV := hH (show eqS ⟨op, id, par, at_, tx, u⟩ ⟨op2, id2, par2, at2, tx2, v⟩ = false by simp [eqS, h1])
   clear h1
   clear HC
   go_enter Tryz.func109, Tryz.ntmps109
   go_wp2_with fail
   go_ret
   exact EqC.mk HV.out (zq _ _ _)
theorem kY : ∀ (f g : Fo), foLen f ≠ foLen g → yR f g = false
 | .nil, .nil, h => absurd rfl h
 | .nil, .node _ _ _ _ _, _ => rfl
 | .node _ _ _ _ _, .nil, _ => rfl
 | .node _ _ k l r, .node _ _ k2 l2 r2, h => by
   simp only [yR]
   rw [kY r r2 (fun e => h (by simp only [foLen]; omega)), Bool.and_false]
theorem Q7 {t u : Tr} (h : foLen t.kids ≠ foLen u.kids) : yF t u = false := by
 unfold yF
 simp [kY _ _ h]
theorem vR (w : World) (S1 S2 : Nat → Prop) (t u : Tr) (ka kb : Option Addr) (n m kc mc : Nat) (hn : n = foLen t.kids) (hm : m = foLen u.kids) (hS1 : ∀ x, S1 x → x < w.heap.size) (hS2 : ∀ x, S2 x → x < w.heap.size) (hcap : foLen t.kids ≤ kc) (hcap2 : foLen u.kids ≤ mc) (hk : zi w S1 t.kids ka) (hkb : zi w S2 u.kids kb) (hs1 : zb t.kids + 1 ≤ 400000) (hs2 : zb u.kids + 1 ≤ 400000) :
 Calls Tryz.prog 63 #[.agg #[.int .i64 t.id, .int .i64 t.kind, .string t.text, .slice ka n kc], .agg #[.int .i64 u.id, .int .i64 u.kind, .string u.text, .slice kb m mc]] w (qb t u w) := by
 obtain ⟨W, hW⟩ : ∃ W, W = zl w [.cells #[.int .i64 t.id, .int .i64 t.kind, .string t.text, .slice ka n kc] 35, .cells #[.int .i64 u.id, .int .i64 u.kind, .string u.text, .slice kb m mc] 35] := ⟨_, rfl⟩
 have hb : Below w.heap.size w W := by rw [hW]; exact zh _ _
 have h0 : W.heap[w.heap.size]? = some (.cells #[.int .i64 t.id, .int .i64 t.kind, .string t.text, .slice ka n kc] 35 (0, 0)) := by rw [hW]; exact zg _ _ 0 _ rfl
 have h1 : W.heap[w.heap.size + 1]? = some (.cells #[.int .i64 u.id, .int .i64 u.kind, .string u.text, .slice kb m mc] 35 (0, 0)) := by rw [hW]; exact zg _ _ 1 _ rfl
 have n0 : W.cell? ⟨w.heap.size, 0, none⟩ = some (.int .i64 t.id) := by rw [cell_of_row _ _ 0 _ _ _ h0]; rfl
 have n1 : W.cell? ⟨w.heap.size, 1, none⟩ = some (.int .i64 t.kind) := by rw [cell_of_row _ _ 1 _ _ _ h0]; rfl
 have n2 : W.cell? ⟨w.heap.size, 2, none⟩ = some (.string t.text) := by rw [cell_of_row _ _ 2 _ _ _ h0]; rfl
 have n3 : W.cell? ⟨w.heap.size, 3, none⟩ = some (.slice ka n kc) := by rw [cell_of_row _ _ 3 _ _ _ h0]; rfl
 have m0 : W.cell? ⟨w.heap.size + 1, 0, none⟩ = some (.int .i64 u.id) := by rw [cell_of_row _ _ 0 _ _ _ h1]; rfl
 have m1 : W.cell? ⟨w.heap.size + 1, 1, none⟩ = some (.int .i64 u.kind) := by rw [cell_of_row _ _ 1 _ _ _ h1]; rfl
 have m2 : W.cell? ⟨w.heap.size + 1, 2, none⟩ = some (.string u.text) := by rw [cell_of_row _ _ 2 _ _ _ h1]; rfl
 have m3 : W.cell? ⟨w.heap.size + 1, 3, none⟩ = some (.slice kb m mc) := by rw [cell_of_row _ _ 3 _ _ _ h1]; rfl
 have HC := hH (Jd W S1 S2 (.agg #[.int .i64 t.id, .int .i64 t.kind, .string t.text, .slice ka n kc]) (.agg #[.int .i64 u.id, .int .i64 u.kind, .string u.text, .slice kb m mc]) t u (fun x hx => nL (hS1 x hx) hb.size) (fun x hx => nL (hS2 x hx) hb.size) ⟨ka, kc, by rw [hn], hcap, hk.below hb hS1⟩ ⟨kb, mc, by rw [hm], hcap2, hkb.below hb hS2⟩ hs1 hs2)
 have HB := hH (aN hb hW)
 by_cases hne : n = m
 · have hq : ((n : Int) == (m : Int)) = true := by simp [hne]
   clear hb hW h0 h1 hn hm hS1 hS2 hcap hcap2 hk hkb hs1 hs2 hne
   go_enter Tryz.func63, Tryz.ntmps63
   go_upto_region 1 with fail
   change Code.wp _ _ _ _ (zl w [.cells #[.int .i64 t.id, .int .i64 t.kind, .string t.text, .slice ka n kc] 35, .cells #[.int .i64 u.id, .int .i64 u.kind, .string u.text, .slice kb m mc] 35])
   rw [← HB.out.2]
   go_wp2_with fail
   refine HC.out.mono ?_
   rintro e w2 ⟨rfl, hb2⟩
   have HB2 := hH (HB.out.1.trans (hb2.mono HB.out.1.size))
   clear hb2
   go_wp2_with fail
   go_ret
   exact ⟨rfl, HB2.out⟩
 · have hq : ((n : Int) == (m : Int)) = false := by simp; omega
   have HV := hH (show yF t u = false from Q7 (by rw [← hn, ← hm]; exact hne))
   clear hb hW h0 h1 hn hm hS1 hS2 hcap hcap2 hk hkb hs1 hs2 hne HC
   go_enter Tryz.func63, Tryz.ntmps63
   go_upto_region 1 with fail
   change Code.wp _ _ _ _ (zl w [.cells #[.int .i64 t.id, .int .i64 t.kind, .string t.text, .slice ka n kc] 35, .cells #[.int .i64 u.id, .int .i64 u.kind, .string u.text, .slice kb m mc] 35])
   rw [← HB.out.2]
   go_wp2_with fail
   go_ret
   exact ⟨by rw [HV.out]; rfl, HB.out.1⟩
theorem qU (w : World) (S1 S2 : Nat → Prop) (s r : Sf) (aa ba : Option Addr) (n ac m bc : Nat) (hn : n = foLen s.sub.kids) (hm : m = foLen r.sub.kids) (hS1 : ∀ x, S1 x → x < w.heap.size) (hS2 : ∀ x, S2 x → x < w.heap.size) (hc1 : foLen s.sub.kids ≤ ac) (hc2 : foLen r.sub.kids ≤ bc) (h1 : zi w S1 s.sub.kids aa) (h2 : zi w S2 r.sub.kids ba) (hz1 : zb s.sub.kids + 1 ≤ 400000) (hz2 : zb r.sub.kids + 1 ≤ 400000) :
 Calls Tryz.prog 109 #[.agg #[.int .i8 s.op, .int .i64 s.id, .int .i64 s.par, .int .i64 s.at_, .string s.tx, .int .i64 s.sub.id, .int .i64 s.sub.kind, .string s.sub.text, .slice aa n ac], .agg #[.int .i8 r.op, .int .i64 r.id, .int .i64 r.par, .int .i64 r.at_, .string r.tx, .int .i64 r.sub.id, .int .i64 r.sub.kind, .string r.sub.text, .slice ba m bc]] w (EqC s r w) :=
 zbl (hH fun w' hb => vR w' S1 S2 s.sub r.sub aa ba n m ac bc hn hm (fun x hx => nL (hS1 x hx) hb.size) (fun x hx => nL (hS2 x hx) hb.size) hc1 hc2 (h1.below hb hS1) (h2.below hb hS2) hz1 hz2)
theorem vW : ∀ f : Fo, zb f ≤ 9223372036854775807 → qf f
 | .nil, _ => True.intro
 | .node b o k l r, h => by
   simp only [zb] at h
   exact ⟨by have := yN l; omega, vW l (by omega), vW r (by omega)⟩
theorem y7 (w : World) (S1 S2 : Nat → Prop) (s r : Sf) (aa ba : Option Addr) (n ac m bc : Nat) (hn : n = foLen s.sub.kids) (hm : m = foLen r.sub.kids) (hS1 : ∀ x, S1 x → x < w.heap.size) (hS2 : ∀ x, S2 x → x < w.heap.size) (hc1 : foLen s.sub.kids ≤ ac) (hc2 : foLen r.sub.kids ≤ bc) (h1 : zi w S1 s.sub.kids aa) (h2 : zi w S2 r.sub.kids ba) (hz1 : zb s.sub.kids + 1 ≤ 400000) :
 Calls Tryz.prog 43 #[.agg #[.int .i8 s.op, .int .i64 s.id, .int .i64 s.par, .int .i64 s.at_, .string s.tx, .int .i64 s.sub.id, .int .i64 s.sub.kind, .string s.sub.text, .slice aa n ac], .agg #[.int .i8 r.op, .int .i64 r.id, .int .i64 r.par, .int .i64 r.at_, .string r.tx, .int .i64 r.sub.id, .int .i64 r.sub.kind, .string r.sub.text, .slice ba m bc]] w (EqC s r w) :=
 zbv (hH fun w' hb => by
  subst hn; subst hm
  exact JW 400000 w' S1 S2 _ _ s.sub r.sub (by omega) ⟨by have := yN s.sub.kids; omega, vW _ (by omega)⟩ (fun x hx => nL (hS1 x hx) hb.size) (fun x hx => nL (hS2 x hx) hb.size) ⟨aa, ac, rfl, hc1, h1.below hb hS1⟩ ⟨ba, bc, rfl, hc2, h2.below hb hS2⟩)
end Go.Proofs.YtchccbfljamjnaaGreat
