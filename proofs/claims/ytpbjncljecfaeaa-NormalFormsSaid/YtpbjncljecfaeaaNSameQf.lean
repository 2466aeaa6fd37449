/-
  SameStep and SameSteps: are two steps, two rows the same in all fields? No condition but that there are not too many nodes.
-/
import Derived.StillTailTactics
import Derived.Test.YtpbjncljecfaeaaNGreatQf
namespace Go.Proofs.Ytpbjncljecfaeaa
open Go.RowKit
set_option linter.unusedVariables false
set_option linter.unusedSimpArgs false

def eqS (a b : Sf) : Bool := decide (a.op = b.op) && (decide (a.id = b.id) && (decide (a.par = b.par) && (decide (a.at_ = b.at_) && (decide (a.tx.toList = b.tx.toList) && sameT a.sub b.sub))))
theorem eqS_refl (a : Sf) : eqS a a = true := by simp [eqS, sameT_refl]
def EqC (a b : Sf) (X : World) (e : Ending) (W : World) : Prop := e = .returned (.bool (eqS a b)) ∧ Below X.heap.size X W
theorem EqC.mk {a b : Sf} {w w' : World} {c : Bool} (h : eqS a b = c) (hb : Below w.heap.size w w') : EqC a b w (.returned (.bool c)) w' := ⟨by rw [h], hb⟩
set_option maxRecDepth 100000 in
set_option maxHeartbeats 2000000 in
theorem eqs1 {X : World} {op id par at_ op2 id2 par2 at2 : Int} {tx tx2 : ByteArray} {u v : Tr} {aa ba : Option Addr} {ac bc n m : Nat} (HC : Hid (∀ w', Below X.heap.size X w' → Calls Try.prog 34 #[.agg #[.int .i64 u.id, .int .i64 u.kind, .string u.text, .slice aa n ac], .agg #[.int .i64 v.id, .int .i64 v.kind, .string v.text, .slice ba m bc]] w' (SameC u v w'))) :
    Calls Try.prog 23 #[.agg #[.int .i8 op, .int .i64 id, .int .i64 par, .int .i64 at_, .string tx, .int .i64 u.id, .int .i64 u.kind, .string u.text, .slice aa n ac], .agg #[.int .i8 op2, .int .i64 id2, .int .i64 par2, .int .i64 at2, .string tx2, .int .i64 v.id, .int .i64 v.kind, .string v.text, .slice ba m bc]] X (EqC ⟨op, id, par, at_, tx, u⟩ ⟨op2, id2, par2, at2, tx2, v⟩ X) := by
  by_cases h1 : op = op2
  · have qh1 : (op == op2) = true := by simpa using h1
    by_cases h2 : id = id2
    · have qh2 : (id == id2) = true := by simpa using h2
      by_cases h3 : par = par2
      · have qh3 : (par == par2) = true := by simpa using h3
        by_cases h4 : at_ = at2
        · have qh4 : (at_ == at2) = true := by simpa using h4
          by_cases ht : tx.toList = tx2.toList
          · have HV := Lib.hid (show eqS ⟨op, id, par, at_, tx, u⟩ ⟨op2, id2, par2, at2, tx2, v⟩ = sameT u v by simp [eqS, h1, h2, h3, h4, ht])
            have HC2 := HC
            clear HC h1 h2 h3 h4
            go_enter Try.func23, Try.ntmps23
            go_wp2_with fail
            refine (HC2.out _ (two_boxes _ _ _)).mono ?_
            rintro e w2 ⟨rfl, hb⟩
            have HB := Lib.hid ((two_boxes _ _ _).trans (hb.mono (two_boxes _ _ _).size))
            clear hb
            go_wp2_with fail
            go_ret
            exact EqC.mk HV.out HB.out
          · have HV := Lib.hid (show eqS ⟨op, id, par, at_, tx, u⟩ ⟨op2, id2, par2, at2, tx2, v⟩ = false by simp [eqS, ht])
            have q6 : (tx.toList == tx2.toList) = false := by simpa using ht
            clear h1 h2 h3 h4
            clear HC
            go_enter Try.func23, Try.ntmps23
            go_wp2_with fail
            go_ret
            exact EqC.mk HV.out (two_boxes _ _ _)
        · have qh4 : (at_ == at2) = false := by simpa using h4
          have HV := Lib.hid (show eqS ⟨op, id, par, at_, tx, u⟩ ⟨op2, id2, par2, at2, tx2, v⟩ = false by simp [eqS, h4])
          clear h1 h2 h3 h4
          clear HC
          go_enter Try.func23, Try.ntmps23
          go_wp2_with fail
          go_ret
          exact EqC.mk HV.out (two_boxes _ _ _)
      · have qh3 : (par == par2) = false := by simpa using h3
        have HV := Lib.hid (show eqS ⟨op, id, par, at_, tx, u⟩ ⟨op2, id2, par2, at2, tx2, v⟩ = false by simp [eqS, h3])
        clear h1 h2 h3
        clear HC
        go_enter Try.func23, Try.ntmps23
        go_wp2_with fail
        go_ret
        exact EqC.mk HV.out (two_boxes _ _ _)
    · have qh2 : (id == id2) = false := by simpa using h2
      have HV := Lib.hid (show eqS ⟨op, id, par, at_, tx, u⟩ ⟨op2, id2, par2, at2, tx2, v⟩ = false by simp [eqS, h2])
      clear h1 h2
      clear HC
      go_enter Try.func23, Try.ntmps23
      go_wp2_with fail
      go_ret
      exact EqC.mk HV.out (two_boxes _ _ _)
  · have qh1 : (op == op2) = false := by simpa using h1
    have HV := Lib.hid (show eqS ⟨op, id, par, at_, tx, u⟩ ⟨op2, id2, par2, at2, tx2, v⟩ = false by simp [eqS, h1])
    clear h1
    clear HC
    go_enter Try.func23, Try.ntmps23
    go_wp2_with fail
    go_ret
    exact EqC.mk HV.out (two_boxes _ _ _)
theorem eqs_any {X0 X1 X : World} {s r : Sf} {aa ba : Option Addr} {ac bc n m : Nat} (h0 : LiesI X0 s.sub.kids aa ac) (h1 : LiesI X1 r.sub.kids ba bc) (b0 : Below X0.heap.size X0 X) (b1 : Below X1.heap.size X1 X) (hz : foSize s.sub.kids + 1 ≤ 100000) (hn : n = foLen s.sub.kids) (hm : m = foLen r.sub.kids) :
    Calls Try.prog 23 #[.agg #[.int .i8 s.op, .int .i64 s.id, .int .i64 s.par, .int .i64 s.at_, .string s.tx, .int .i64 s.sub.id, .int .i64 s.sub.kind, .string s.sub.text, .slice aa n ac], .agg #[.int .i8 r.op, .int .i64 r.id, .int .i64 r.par, .int .i64 r.at_, .string r.tx, .int .i64 r.sub.id, .int .i64 r.sub.kind, .string r.sub.text, .slice ba m bc]] X (EqC s r X) :=
  eqs1 (Lib.hid fun w' hb => by subst hn; subst hm; exact same_any _ w' _ _ _ _ _ _ (Nat.lt_succ_self _) ⟨by have := foLen_le s.sub.kids; omega, foFit_szN _ (by omega)⟩ (fun y hy => Nat.lt_of_lt_of_le hy (b0.trans (hb.mono b0.size)).size) (fun y hy => Nat.lt_of_lt_of_le hy (b1.trans (hb.mono b1.size)).size) (h0.at (b0.trans (hb.mono b0.size))) (h1.at (b1.trans (hb.mono b1.size))))
def eqR : List Sf → List Sf → Bool
  | [], [] => true
  | a :: p, b :: q => eqS a b && eqR p q
  | _, _ => false
theorem eqR_refl : ∀ p : List Sf, eqR p p = true
  | [] => rfl
  | a :: p => by rw [eqR, eqS_refl, eqR_refl p]; rfl
theorem eqR_len : ∀ {p q : List Sf}, p.length ≠ q.length → eqR p q = false
  | [], [], h => absurd rfl h
  | a :: p, b :: q, h => by rw [eqR, eqR_len (p := p) (q := q) (fun e => h (by simp [e])), Bool.and_false]
  | [], _ :: _, _ => rfl
  | _ :: _, [], _ => rfl
theorem eqR_drop {p q : List Sf} {k : Nat} {a b : Sf} (ha : p[k]? = some a) (hb : q[k]? = some b) : eqR (p.drop k) (q.drop k) = (eqS a b && eqR (p.drop (k + 1)) (q.drop (k + 1))) := by
  obtain ⟨h1, rfl⟩ := List.getElem?_eq_some_iff.1 ha
  obtain ⟨h2, rfl⟩ := List.getElem?_eq_some_iff.1 hb
  rw [List.drop_eq_getElem_cons h1, List.drop_eq_getElem_cons h2, eqR]
def EqrC (p q : List Sf) (X : World) (e : Ending) (W : World) : Prop := e = .returned (.bool (eqR p q)) ∧ Below X.heap.size X W
theorem EqrC.mk {p q : List Sf} {w w' : World} {c : Bool} (h : eqR p q = c) (hb : Below w.heap.size w w') : EqrC p q w (.returned (.bool c)) w' := ⟨by rw [h], hb⟩
set_option maxRecDepth 100000 in
set_option maxHeartbeats 4000000 in
theorem eqr_any (w : World) (la lb : Option Addr) (n m ca cb : Nat) (pa pb : List SV) (hn : n = pa.length) (hm : m = pb.length) (ha : Row w la pa) (hb : Row w lb pb) :
    Calls Try.prog 10 #[.slice la n ca, .slice lb m cb] w (EqrC (steps pa) (steps pb) w) := by
  have hl : n ≤ 1000000 := by have := ha.len; omega
  have hl2 : m ≤ 1000000 := by have := hb.len; omega
  have H := Lib.hid (And.intro ha (And.intro hb (And.intro hn hm)))
  clear ha hb hn hm
  by_cases hne : n = m
  rotate_left
  · have hnn : ((n : Int) == (m : Int)) = false := by simp; omega
    have HV := Lib.hid (show eqR (steps pa) (steps pb) = false from eqR_len (by rw [steps_len, steps_len, ← H.out.2.2.1, ← H.out.2.2.2]; exact hne))
    clear hne
    go_enter Try.func10, Try.ntmps10
    go_wp2_with fail
    go_ret
    exact EqrC.mk HV.out (Below.refl _ _)
  subst hne
  have hnn : ((n : Int) == (n : Int)) = true := by simp
  go_enter Try.func10, Try.ntmps10
  go_wp2_with fail
  clear hnn
  go_loopw [5] (fun i wr => ∃ k : Nat, k ≤ n ∧ i = .int .i64 (k : Int) ∧ Hid (Below w.heap.size w wr ∧ eqR (steps pa) (steps pb) = eqR ((steps pa).drop k) ((steps pb).drop k))) (fun i _ => n - (intOf i).toNat)
  case atStart => exact ⟨0, Nat.zero_le _, rfl, Lib.hid ⟨Below.refl _ _, rfl⟩⟩
  case round =>
    obtain ⟨k, hk, rfl, hrr⟩ := hrel
    obtain ⟨wo, hwo⟩ : ∃ wo, wo = wr := ⟨_, rfl⟩
    subst hwo
    by_cases hlt : k < n
    · obtain ⟨x, hx⟩ : ∃ x, pa[k]? = some x := ⟨_, List.getElem?_eq_getElem (by rw [← H.out.2.2.1]; exact hlt)⟩
      obtain ⟨y, hy⟩ : ∃ y, pb[k]? = some y := ⟨_, List.getElem?_eq_getElem (by rw [← H.out.2.2.2]; exact hlt)⟩
      have hdr := eqR_drop (steps_at hx) (steps_at hy)
      have hlx := H.out.1.lies x (List.mem_of_getElem? hx)
      have hly := H.out.2.1.lies y (List.mem_of_getElem? hy)
      have hfx := H.out.1.fit x (List.mem_of_getElem? hx)
      have hfy := H.out.2.1.fit y (List.mem_of_getElem? hy)
      have hax := fun X hX => H.out.1.at (X := X) hX hx
      have hay := fun X hX => H.out.2.1.at (X := X) hX hy
      obtain ⟨xs, xa, xc⟩ := x
      obtain ⟨ys, ya, yc⟩ := y
      simp only at hdr hlx hly hfx hfy hax hay
      obtain ⟨xn, hxn⟩ : ∃ xn, xn = foLen xs.sub.kids := ⟨_, rfl⟩
      obtain ⟨yn, hyn⟩ : ∃ yn, yn = foLen ys.sub.kids := ⟨_, rfl⟩
      rw [← hxn] at hax
      rw [← hyn] at hay
      have HCC := Lib.hid (fun X (hX : Below w.heap.size w X) => eqs_any (X := X) hlx hly hX hX (by omega) hxn hyn)
      have HKN := Lib.hid (And.intro hk hlt)
      have hkl : (k : Int) < (n : Int) := by omega
      obtain ⟨cc, hcc⟩ : ∃ cc, cc = eqS xs ys := ⟨_, rfl⟩
      rw [← hcc] at hdr
      have HCQ := Lib.hid hcc
      have HDR := Lib.hid (hrr.out.2.trans hdr)
      have HBR := Lib.hid hrr.out.1
      clear hx hy hlx hly hfx hfy hxn hyn hk hlt hrr hdr hcc
      obtain ⟨W, hW⟩ : ∃ W, W = wo.drew := ⟨_, rfl⟩
      have hW0 : Below w.heap.size w W := by rw [hW]; exact below_drewN HBR.out 1
      obtain ⟨b, off, rfl, c0, c1, c2, c3, c4, c5, c6, c7, c8⟩ := hax W hW0
      obtain ⟨b', off', rfl, d0, d1, d2, d3, d4, d5, d6, d7, d8⟩ := hay W hW0
      have HC := Lib.hid (HCC.out W hW0)
      have HW := Lib.hid hW
      have HW0 := Lib.hid hW0
      clear hax hay hW hW0 HCC
      go_wp2_with fail
      have hdr : ({ heap := wo.heap, tape := wo.tape, drawn := wo.drawn + 1, os := wo.os, output := wo.output } : World) = W := HW.out.symm
      refine wp_region_still_tail 8 (by kernel_rfl) (by kernel_rfl) ?_
      simp only [List.take_succ_cons, List.take_zero, List.drop_succ_cons, List.drop_zero]
      rw [hdr]
      clear hdr
      repeat still_step
      try refine wpStill_nil ?_
      go_wp2_with (go_at_call 23; refine HC.out.mono ?_; rintro e w2 ⟨rfl, hb2⟩; rw [← HCQ.out]; have HB3 := Lib.hid (HW0.out.trans (hb2.mono HW0.out.size)); clear hb2; cases cc)
      · go_ret
        exact EqrC.mk (HDR.out.trans (Bool.false_and _)) HB3.out
      · exact ⟨⟨k + 1, by have := HKN.out; omega, by go_num, Lib.hid ⟨HB3.out, HDR.out.trans (Bool.true_and _)⟩⟩, by have := HKN.out; simp [intOf]; omega⟩
    · have hkl : ¬ (k : Int) < (n : Int) := by omega
      have HV := Lib.hid (show eqR (steps pa) (steps pb) = true by
        rw [hrr.out.2, List.drop_of_length_le (by rw [steps_len, ← H.out.2.2.1]; omega), List.drop_of_length_le (by rw [steps_len, ← H.out.2.2.2]; omega)]; rfl)
      have HB3 := Lib.hid hrr.out.1
      clear hrr hk hlt
      go_wp2_with fail
      go_ret
      exact EqrC.mk HV.out HB3.out
end Go.Proofs.Ytpbjncljecfaeaa
