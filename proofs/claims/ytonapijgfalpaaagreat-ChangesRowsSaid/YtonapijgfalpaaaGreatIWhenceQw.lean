/-
  .
-/
import Derived.Test.YtonapijgfalpaaaGreatKAlong1Qw
import Derived.Deep.Cut
import Derived.Test.YtonapijgfalpaaaGreatKOpenQw
import Derived.Test.YtonapijgfalpaaaGreatKRemoveQw
import Derived.Test.YtonapijgfalpaaaGreatKPathQw
import Derived.Test.YtonapijgfalpaaaGreatJPgQw
set_option maxRecDepth 100000
set_option maxHeartbeats 40000000
set_option linter.unusedVariables false
set_option linter.unusedSimpArgs false
namespace Go.Proofs.YtonapijgfalpaaaGreat
open Go.RowKit Go.Shelf
theorem zdm (w : World) (S : Nat → Prop) (hS : ∀ y, S y → y < w.heap.size) (u : Tr) (sb : Nat) (tx : ByteArray) (hsl : sb < w.heap.size) (hc : w.cell? ⟨sb, 4, none⟩ = some (.string tx)) : ∀ W, Below w.heap.size w W → W.heap.size = w.heap.size + 4 → zfV Tryz.prog W w.heap.size (fun _ => False) S S u 128 (.pointer (some ⟨sb, 0, none⟩)) ⟨u.id, u.kind, tx, u.kids⟩ (fun _ => True) := fun W hb hs => by
 refine ⟨fun _ _ => rfl, fun X X1 b off sv xs hH k hlt hbl => ?_⟩
 obtain ⟨a, c, rfl⟩ := zw k.own
 have hst : X1.cell? ⟨sb, 4, none⟩ = some (.string tx) := (World.cell?_of_block (a := ⟨sb, 4, none⟩) ((k.h.kept sb (by omega) (by omega) (fun h => h)).trans (hb.block sb hsl))).trans hc
 have c2 := k.c2
 have fz := k.fz
 have HK := Lib.hid (aN k (aN hH (aN hlt hbl)))
 clear k hH hlt hbl hc hsl hb
 go_enter Tryz.func128, Tryz.ntmps128
 go_wp2_with fail
 go_end0
 obtain ⟨k, hH, hlt, hbl⟩ := HK.out
 obtain ⟨X', hX'⟩ : ∃ X', X' = X1.setCell ⟨b, off + 2, none⟩ (.string tx) := ⟨_, rfl⟩
 rw [← hX']
 have hco : ∀ i, i ≠ off + 2 → X'.cell? ⟨b, i, none⟩ = X1.cell? ⟨b, i, none⟩ := fun i hi => by
  rw [hX', World.cell?_setCell_other X1 ⟨b, off + 2, none⟩ ⟨b, i, none⟩ _ (by intro e; cases e; exact hi rfl)]
 have hblk : ∀ y, y ≠ b → X'.heap[y]? = X1.heap[y]? := fun y hy => by rw [hX']; exact Below.heap_setCell _ _ _ _ hy
 have hSz := hH.size
 obtain ⟨hl, hlc⟩ := za5 (S' := fun y => y ≠ b ∧ (S y ∨ (y = w.heap.size ∨ W.heap.size ≤ y))) k.own k.row rfl (fun y hy => ⟨by have := hS y hy; rcases hbl with h | h <;> omega, Or.inl hy⟩) (fun y hy => ⟨by omega, Or.inr (Or.inr (by omega))⟩)
 refine ⟨rfl, by rw [hX']; rfl, by rw [hX']; rfl, by rw [hX']; rfl, by rw [hX']; simp [World.setCell], fun y _ hn _ => hblk y hn, fun j hj => hco j (by omega), ⟨Or.inr hbl, ?_, ?_, ?_, a, c, ?_, hlc, hl.kept fun y hy => ⟨hy.2, hblk y hy.1⟩⟩, trivial⟩
 · rw [hco _ (by omega)]; exact k.c0
 · rw [hco _ (by omega)]; exact k.c1
 · rw [hX']; exact World.cell?_setCell_same' X1 _ _ (by rw [k.c2]; rfl)
 · rw [hco _ (by omega)]; exact k.c3
def jl (id : Int) (tx : ByteArray) (t : Tr) : Tr × Int := match zM id t with
 | none => (zA, 4)
 | some p => match atT t p with
   | none => (zA, 4)
   | some u => (yj t p ⟨u.id, u.kind, tx, u.kids⟩, 0)
theorem Yd {id : Int} {tx : ByteArray} {t : Tr} (h : zM id t = none) : jl id tx t = (zA, 4) := by unfold jl; rw [h]
theorem Je {id : Int} {tx : ByteArray} {t u : Tr} {p : List Nat} (h : zM id t = some p) (hu : atT t p = some u) : jl id tx t = (yj t p ⟨u.id, u.kind, tx, u.kids⟩, 0) := by
 unfold jl; rw [h]; simp only; rw [hu]
theorem zdg (w : World) (S : Nat → Prop) (nv : Value) (t : Tr) (op id par at_ s1 s2 : Int) (tx s3 : ByteArray) (sa : Option Addr) (sn sc : Nat) (hS : ∀ y, S y → y < w.heap.size) (ht : zL w S nv t) (hsz : ze t.kids ≤ 100000) :
 Calls Tryz.prog 107 #[nv, .agg #[.int .i8 op, .int .i64 id, .int .i64 par, .int .i64 at_, .string tx, .int .i64 s1, .int .i64 s2, .string s3, .slice sa sn sc]] w (YN w S (jl id tx t)) := by
 obtain ⟨ka, tc, rfl, hcap, hk⟩ := ht
 obtain ⟨nk, hnk⟩ : ∃ nk, nk = zb t.kids := ⟨_, rfl⟩
 rw [← hnk]
 obtain ⟨B, hB⟩ : ∃ B, B = zo w [.cells #[.int .i64 t.id, .int .i64 t.kind, .string t.text, .slice ka nk tc] 37, .cells #[.int .i8 op, .int .i64 id, .int .i64 par, .int .i64 at_, .string tx, .int .i64 s1, .int .i64 s2, .string s3, .slice sa sn sc] 49, .cells #[.int .i64 0, .int .i64 0, .string ⟨#[]⟩, .slice none 0 0] 37] := ⟨_, rfl⟩
 have hb : Below w.heap.size w B := by rw [hB]; exact zk _ _
 have hs : B.heap.size = w.heap.size + 3 := by rw [hB]; exact zx _ _
 have ht0 : B.heap[w.heap.size]? = some (.cells #[.int .i64 t.id, .int .i64 t.kind, .string t.text, .slice ka nk tc] 37 (0, 0)) := by rw [hB]; exact zg _ _ 0 _ rfl
 have hs0 : B.heap[w.heap.size + 1]? = some (.cells #[.int .i8 op, .int .i64 id, .int .i64 par, .int .i64 at_, .string tx, .int .i64 s1, .int .i64 s2, .string s3, .slice sa sn sc] 49 (0, 0)) := by rw [hB]; exact zg _ _ 1 _ rfl
 have hr0 : B.heap[w.heap.size + 1 + 1]? = some (.cells #[.int .i64 0, .int .i64 0, .string ⟨#[]⟩, .slice none 0 0] 37 (0, 0)) := by rw [hB]; exact zg _ _ 2 _ rfl
 have htr : ∀ X, Below B.heap.size B X → zL X S (.agg #[.int .i64 t.id, .int .i64 t.kind, .string t.text, .slice ka nk tc]) t := fun X hX => ⟨ka, tc, by rw [hnk], by rw [hnk] at *; exact hcap, hk.below (hb.trans (hX.mono hb.size)) hS⟩
 have hSX : ∀ X, Below B.heap.size B X → ∀ y, S y → y < X.heap.size := fun X hX y hy => nL (hS y hy) (Nat.le_trans hb.size hX.size)
 have hpath : ∀ (i : Int) (X : World), Below B.heap.size B X → Calls Tryz.prog 124 #[.agg #[.int .i64 t.id, .int .i64 t.kind, .string t.text, .slice ka nk tc], .int .i64 i] X (zco X (zM i t)) := fun i X hX => Qj X S _ t i (hSX X hX) (htr X hX) (by omega)
 have hcell : ∀ X, Below B.heap.size B X → (X.cell? ⟨w.heap.size, 0, none⟩ = some (.int .i64 t.id) ∧ X.cell? ⟨w.heap.size, 1, none⟩ = some (.int .i64 t.kind) ∧ X.cell? ⟨w.heap.size, 2, none⟩ = some (.string t.text) ∧ X.cell? ⟨w.heap.size, 3, none⟩ = some (.slice ka nk tc)) ∧ X.cell? ⟨w.heap.size + 1, 1, none⟩ = some (.int .i64 id) ∧ X.cell? ⟨w.heap.size + 1, 4, none⟩ = some (.string tx) := fun X hX => by
  have e0 := (hX.block _ (lt_of_heap ht0)).trans ht0
  have e1 := (hX.block _ (lt_of_heap hs0)).trans hs0
  exact ⟨zJ e0, by rw [cell_of_row _ _ 1 _ _ _ e1]; rfl, by rw [cell_of_row _ _ 4 _ _ _ e1]; rfl⟩
 obtain ⟨pr, hpr⟩ : ∃ pr, pr = jl id tx t := ⟨_, rfl⟩
 rw [← hpr]
 have HP := Lib.hid hpath
 have HCE := Lib.hid hcell
 have HTR := Lib.hid (aN htr hSX)
 have HB := Lib.hid (aN hb (aN hs hr0))
 have HSZ := Lib.hid hsz
 have HBE := Lib.hid hB
 have HSW := Lib.hid hS
 have HPR := Lib.hid hpr
 clear hpath hcell htr hSX hb hs ht0 hs0 hr0 hS hk hcap hsz hnk hB hpr
 go_enter Tryz.func107, Tryz.ntmps107
 go_wp2_with fail
 change Calls _ _ _ (zo w [.cells #[.int .i64 t.id, .int .i64 t.kind, .string t.text, .slice ka nk tc] 37, .cells #[.int .i8 op, .int .i64 id, .int .i64 par, .int .i64 at_, .string tx, .int .i64 s1, .int .i64 s2, .string s3, .slice sa sn sc] 49, .cells #[.int .i64 0, .int .i64 0, .string ⟨#[]⟩, .slice none 0 0] 37]) _
 rw [← HBE.out]
 refine (HP.out id B (Below.refl _ _)).mono ?_
 rintro e W2 ⟨pv, rfl, hown, hb2⟩
 cases hpi : zM id t with
 | none =>
   clear hown
   simp only [Option.isSome_none]
   have hE : pr = (zA, 4) := by rw [HPR.out, Yd hpi]
   have hr3 := (hb2.block _ (lt_of_heap HB.out.2.2)).trans HB.out.2.2
   have hbz : Below w.heap.size w W2 := HB.out.1.trans (hb2.mono HB.out.1.size)
   obtain ⟨z0, z1, z2, z3⟩ := zJ hr3
   have zf : ∀ j, W2.frozen? ⟨w.heap.size + 1 + 1, j, none⟩ = false := fun j => frozen_of_row _ _ j _ _ hr3
   obtain ⟨V, hV, r1, r2, r3, r4, r5, r6⟩ := zu (u0 := .int .i64 0) (u1 := .int .i64 0) (u2 := .string ⟨#[]⟩) (u3 := .slice none 0 0) hr3
   have HE := Lib.hid (aN hE (aN hbz (aN hr3 (aN hV (aN r1 (aN r2 (aN r3 (aN r4 (aN r5 r6)))))))))
   clear hE hbz hr3 hV r1 r2 r3 r4 r5 r6
   go_wp2_with fail
   rw [← HE.out.2.2.2.1]
   obtain ⟨hE, hbz, hr3, hV, r1, r2, r3, r4, r5, r6⟩ := HE.out
   exact step_end (p := 4) (u := 5) rfl rfl (g := w.heap.size + 1 + 1) (y := zA) (m := 0) (kb := none) (kc := 0) ⟨r3.trans hbz.os, r4.trans hbz.tape, r5.trans hbz.output, by rw [r6]; exact hbz.size, fun k hk => (r2 k (by omega)).trans (hbz.block k hk)⟩ (by omega) ⟨_, _, r1, rfl⟩ rfl (Nat.le_refl _) True.intro (by rw [hE]) rfl (by rw [hE]; rfl)
 | some p =>
   rw [hpi] at hown
   simp only [Option.getD_some] at hown
   obtain ⟨pa, pc, rfl⟩ := zw hown
   obtain ⟨m, hm⟩ : ∃ m, m = (yE p).length := ⟨_, rfl⟩
   rw [← hm] at hown ⊢
   have hpl : m = p.length := by rw [hm, zN]
   simp only [Option.isSome_some]
   obtain ⟨u, hu, huid⟩ := qY id t _ hpi
   have hE := Je (tx := tx) hpi hu
   rw [← HPR.out] at hE
   have hus := Zr p t u hu
   have hsz := HSZ.out
   obtain ⟨⟨n0, n1, n2, n3⟩, m1, m4⟩ := HCE.out W2 hb2
   have hB2 := hb2.size
   have hBs := HB.out.2.1
   have hal := zfT W2 (E := fun _ => False) (S := S) (SS := S) (RR := fun _ => True) (.agg #[.int .i64 t.id, .int .i64 t.kind, .string t.text, .slice ka nk tc]) t u ⟨u.id, u.kind, tx, u.kids⟩ p pa m pc (fun y hy => ⟨HTR.out.2 W2 hb2 y hy, fun h => h⟩) (fun y hy => ⟨HTR.out.2 W2 hb2 y hy, fun h => h⟩) (fun _ h => h) (fun _ h => h.elim) hpl (by omega) (HTR.out.1 W2 hb2) (by omega) ((Q9 (l := yE p) hown).1.kept fun y hy => ⟨⟨hy.2, fun h => h⟩, rfl⟩) hu
    (zdm W2 S (HTR.out.2 W2 hb2) u (w.heap.size + 1) tx (by omega) m4) (fun _ _ _ h => h)
   obtain ⟨y, hy⟩ : ∃ y, y = yj t p ⟨u.id, u.kind, tx, u.kids⟩ := ⟨_, rfl⟩
   rw [← hy] at hal hE
   have HAL := Lib.hid hal
   have HG := Lib.hid (aN hE hb2)
   have hmf : ∀ (fn : Fn) (first cap : Array Value) (w : World), (Instr.makeFunc fn first cap).run Tryz.prog w = .ok (.func fn first cap) w := fun _ _ _ _ => rfl
   clear hal hown hm hpl hpi hu huid hE hus hsz hb2 hB2 hBs hy
   go_wp2_with fail
   refine HAL.out.mono ?_
   rintro e X ⟨_, rfl, ⟨kb, kc, rfl, hkc, hkk⟩, k1, k2, k3, k4, k5, _⟩
   obtain ⟨yn, hyn⟩ : ∃ yn, yn = zb y.kids := ⟨_, rfl⟩
   rw [← hyn] at hkc ⊢
   have hbx : Below W2.heap.size W2 X := ⟨k1, k2, k3, k4, fun z hz => k5 z hz (fun h => h)⟩
   have hbX : Below B.heap.size B X := HG.out.2.trans (hbx.mono HG.out.2.size)
   have hr3 := (hbX.block _ (lt_of_heap HB.out.2.2)).trans HB.out.2.2
   have hbz : Below w.heap.size w X := HB.out.1.trans (hbX.mono HB.out.1.size)
   obtain ⟨z0, z1, z2, z3⟩ := zJ hr3
   have zf : ∀ j, X.frozen? ⟨w.heap.size + 1 + 1, j, none⟩ = false := fun j => frozen_of_row _ _ j _ _ hr3
   obtain ⟨V, hV, r1, r2, r3, r4, r5, r6⟩ := zu (u0 := .int .i64 y.id) (u1 := .int .i64 y.kind) (u2 := .string y.text) (u3 := .slice kb yn kc) hr3
   have hBw := HB.out.2.1
   have hWB := HG.out.2.size
   have hok : zF V (fun z => S z ∨ w.heap.size ≤ z ∧ z < V.heap.size) y.kids kb := hkk.kept fun z hz => by
    have hSz := HTR.out.2 B (Below.refl _ _)
    have hz2 : (S z ∨ w.heap.size ≤ z ∧ z < V.heap.size) ∧ z ≠ w.heap.size + 1 + 1 := by
     rcases hz with hz | hz
     · have h1 := HSW.out z hz
       exact ⟨Or.inl hz, by omega⟩
     · exact ⟨Or.inr ⟨by omega, by omega⟩, by omega⟩
    exact ⟨hz2.1, r2 z hz2.2⟩
   have HE := Lib.hid (aN hbz (aN hV (aN r1 (aN r2 (aN r3 (aN r4 (aN r5 (aN r6 (aN hok (aN hkc hyn))))))))))
   clear hmf hbX hr3 hbz hV r1 r2 r3 r4 r5 r6 hBw hWB hok hkk hkc hyn hbx k1 k2 k3 k4 k5 n0 n1 n2 n3 m1 m4
   go_wp2_with fail
   rw [← HE.out.2.1]
   obtain ⟨hbz, hV, r1, r2, r3, r4, r5, r6, hok, hkc, hyn⟩ := HE.out
   exact step_end (p := 4) (u := 5) rfl rfl (g := w.heap.size + 1 + 1) (y := y) (m := yn) (kb := kb) (kc := kc) ⟨r3.trans hbz.os, r4.trans hbz.tape, r5.trans hbz.output, by rw [r6]; exact hbz.size, fun k hk => (r2 k (by omega)).trans (hbz.block k hk)⟩ (by omega) ⟨_, _, r1, rfl⟩ hyn (by rw [← hyn]; exact hkc) hok (by rw [HG.out.1]) rfl (by rw [HG.out.1]; rfl)
abbrev Key := Int × Int × ByteArray
def Tr.key (t : Tr) : Key := (t.id, t.kind, t.text)
def vQ (p : Key → Bool) (k : Key) : Nat := if p k = true then 1 else 0
def yT (p : Key → Bool) : Fo → Nat
 | .nil => 0
 | .node _ _ k l r => vQ p k + yT p l + yT p r
def yw (p : Key → Bool) (t : Tr) : Nat := vQ p t.key + yT p t.kids
theorem Qe (p : Key → Bool) : ∀ (f : Fo) (i : Nat) (u : Tr), i ≤ zb f → yT p (vK f i u) = yT p f + yw p u
 | f, 0, u, _ => by rw [kE, yT, yw]; simp only [Tr.key]; omega
 | .nil, i + 1, u, h => by simp [zb] at h
 | .node b o k l r, i + 1, u, h => by
   have := Qe p r i u (by simp [zb] at h; omega)
   simp only [vK, yT, this]; omega
theorem YM (p : Key → Bool) : ∀ (f : Fo) (i : Nat) (u : Tr), zH f i = some u → yT p (yG f i) + yw p u = yT p f
 | .nil, i, u, h => by cases i <;> simp [zH, zt, vk] at h
 | .node b o k l r, 0, u, h => by
   simp only [zH, zt, vk] at h
   cases h
   simp only [yG, yT, yw, Tr.key]; rw [show (k.1, k.2.1, k.2.2) = k from rfl]; omega
 | .node b o k l r, i + 1, u, h => by
   have := YM p r i u (by simpa [zH, zt] using h)
   simp only [yG, yT]; omega
theorem zbe (p : Key → Bool) : ∀ (f : Fo) (i : Nat) (u v : Tr), zH f i = some u → yT p (ZF f i v) + yw p u = yT p f + yw p v
 | .nil, i, _, _, h => by cases i <;> simp [zH, zt, vk] at h
 | .node _ _ k l r, 0, u, v, h => by
   simp only [zH, zt, vk] at h
   cases h
   simp only [ZF, yT, yw, Tr.key]; rw [show (k.1, k.2.1, k.2.2) = k from rfl]; omega
 | .node _ _ k l r, i + 1, u, v, h => by
   have := zbe p r i u v (by simpa [zH, zt] using h)
   simp only [ZF, yT]; omega
theorem jq (p : Key → Bool) : ∀ (q : List Nat) (t u x : Tr), atT t q = some u → yw p (yj t q x) + yw p u = yw p t + yw p x
 | [], t, u, x, h => by cases h; simp only [yj]; omega
 | i :: q, t, u, x, h => by
   simp only [atT] at h
   simp only [yj]
   cases hk : zH t.kids i with
   | none => rw [hk] at h; cases h
   | some v =>
     rw [hk] at h
     have h1 := jq p q v u x h
     have h2 := zbe p t.kids i v (yj v q x) hk
     simp only [yw, Tr.key] at h1 h2 ⊢
     omega
theorem YW (p : Key → Bool) : ∀ (f : Fo) (d : Nat), (∃ x ∈ spF d f, p x.2.1 = true) ↔ 0 < yT p f
 | .nil, d => by simp [spF, yT]
 | .node b o k l r, d => by
   have h1 := YW p l (d + 1)
   have h2 := YW p r d
   simp only [spF, yT, List.mem_cons, List.mem_append]
   constructor
   · rintro ⟨x, (rfl | hx | hx), hp⟩
     · rw [vQ, if_pos hp]; omega
     · have := h1.1 ⟨x, hx, hp⟩; omega
     · have := h2.1 ⟨x, hx, hp⟩; omega
   · intro h
     by_cases hk : p k = true
     · exact ⟨_, Or.inl rfl, hk⟩
     · rw [vQ, if_neg hk] at h
       by_cases hl : 0 < yT p l
       · obtain ⟨x, hx, hp⟩ := h1.2 hl; exact ⟨x, Or.inr (Or.inl hx), hp⟩
       · obtain ⟨x, hx, hp⟩ := h2.2 (by omega); exact ⟨x, Or.inr (Or.inr hx), hp⟩
theorem zcE (p : Key → Bool) (t : Tr) : yT p (zm t) = yw p t := by simp only [zm, yT, yw, Tr.key]; omega
theorem YE (p : Key → Bool) (t : Tr) : (∃ x ∈ spF 1 (zm t), p x.2.1 = true) ↔ 0 < yw p t := by rw [YW, zcE]
def QJ (a : Int) : Key → Bool := fun k => decide (k.1 = a)
theorem Qd (a : Int) : ∀ f : Fo, yT (QJ a) f = cntF a f
 | .nil => rfl
 | .node b o k l r => by
   simp only [yT, cntF, Qd a l, Qd a r, vQ, QJ, decide_eq_true_eq]
theorem zci (a : Int) (t : Tr) : yw (QJ a) t = ze3 a t := by
 simp only [yw, ze3, Qd, vQ, QJ, Tr.key]
 by_cases h : t.id = a <;> simp [h]
theorem JF : ∀ f : Fo, yT (fun _ => true) f = ze f
 | .nil => rfl
 | .node b o k l r => by simp only [yT, ze, JF l, JF r, vQ, if_pos]; omega
theorem qj (t : Tr) : yw (fun _ => true) t = ze t.kids + 1 := by simp only [yw, JF, vQ, if_pos]; omega
theorem Qx : ∀ (q : List Nat) (t u x : Tr), atT t q = some u → x.id = u.id → (yj t q x).id = t.id
 | [], t, u, x, h, hx => by cases h; exact hx
 | i :: q, t, u, x, h, hx => by
   simp only [yj]
   cases hk : zH t.kids i with
   | none => rfl
   | some v => rfl
def yS (op id par at_ : Int) (tx : ByteArray) (x t : Tr) : Tr × Int :=
 if op = 1 then Yy par at_ x t else if op = 2 then ql id t else if op = 3 then vT id par at_ t else if op = 4 then jl id tx t else (zA, 2)
inductive Fx (op id : Int) (tx : ByteArray) (x t y : Tr) : Prop
 | ins (ho : op = 1) (h : ∀ p, yw p y = yw p t + yw p x)
 | del (ho : op = 2) (q : List Nat) (v : Tr) (hq : zM id t = some q) (hv : atT t q = some v) (h : ∀ p, yw p y + yw p v = yw p t)
 | mov (ho : op = 3) (h : ∀ p, yw p y = yw p t)
 | wri (ho : op = 4) (q : List Nat) (u : Tr) (hq : zM id t = some q) (hu : atT t q = some u) (h : ∀ p, yw p y + vQ p u.key = yw p t + vQ p (u.id, u.kind, tx))
theorem Zl {op id par at_ : Int} {tx : ByteArray} {x t y : Tr} (h : yS op id par at_ tx x t = (y, 0)) : Fx op id tx x t y ∧ y.id = t.id := by
 unfold yS at h
 split at h
 · rename_i ho
   unfold Yy at h
   split at h
   · rename_i h0
     have hy : (Yt par at_ t x).1 = y := (Prod.mk.inj h).1
     cases hp : zM par t with
     | none => rw [QW hp] at h0; exact absurd h0 (by decide)
     | some q =>
       obtain ⟨u, hu, _⟩ := qY _ _ _ hp
       rw [Q4 hp hu] at h0 hy
       split at h0
       · rename_i hc
         rw [if_pos hc] at hy
         simp only at hy
         subst hy
         refine ⟨.ins ho fun p => ?_, Qx q t u _ hu rfl⟩
         have h1 := jq p q t u ⟨u.id, u.kind, u.text, vK u.kids at_.toNat x⟩ hu
         have h2 := Qe p u.kids at_.toNat x (by omega)
         have h3 : yw p u = vQ p u.key + yT p u.kids := rfl
         have h4 : yw p ⟨u.id, u.kind, u.text, vK u.kids at_.toNat x⟩ = vQ p u.key + yT p (vK u.kids at_.toNat x) := rfl
         omega
       · exact absurd (show (2 : Int) = 0 from h0) (by decide)
   · rename_i h0
     exact absurd (Prod.mk.inj h).2 h0
 · split at h
   · rename_i ho
     cases hp : zM id t with
     | none => rw [Zu hp] at h; exact absurd (Prod.mk.inj h).2 (by decide)
     | some q0 =>
       by_cases h0 : q0 = []
       · subst h0; rw [Zn hp] at h; exact absurd (Prod.mk.inj h).2 (by decide)
       · obtain ⟨q, i, rfl⟩ : ∃ p i, q0 = p ++ [i] := ⟨q0.dropLast, q0.getLast h0, (List.dropLast_concat_getLast h0).symm⟩
         obtain ⟨v, hv0, hvid⟩ := qY id t _ hp
         obtain ⟨u, hu, hv⟩ := Zm q i t v hv0
         rw [Y8 hp hu hv] at h
         have hy := (Prod.mk.inj h).1
         subst hy
         refine ⟨.del ho _ v hp hv0 fun p => ?_, Qx q t u _ hu rfl⟩
         have h1 := jq p q t u ⟨u.id, u.kind, u.text, yG u.kids i⟩ hu
         have h2 := YM p u.kids i v hv
         have h3 : yw p u = vQ p u.key + yT p u.kids := rfl
         have h4 : yw p ⟨u.id, u.kind, u.text, yG u.kids i⟩ = vQ p u.key + yT p (yG u.kids i) := rfl
         omega
   · split at h
     · rename_i ho
       obtain ⟨q0, i, u, v, q, z, hi, hu, hv, hvid, hq, hz, ha, hb, hx⟩ := zeJ h
       obtain ⟨w, hw⟩ : ∃ w, w = yj t q0 ⟨u.id, u.kind, u.text, yG u.kids i⟩ := ⟨_, rfl⟩
       rw [← hw] at hz hx
       subst hx
       have e1 := Qx q w z ⟨z.id, z.kind, z.text, vK z.kids at_.toNat v⟩ hz rfl
       have e2 := Qx q0 t u ⟨u.id, u.kind, u.text, yG u.kids i⟩ hu rfl
       rw [← hw] at e2
       refine ⟨.mov ho fun p => ?_, e1.trans e2⟩
       have h1 := jq p q0 t u ⟨u.id, u.kind, u.text, yG u.kids i⟩ hu
       rw [← hw] at h1
       have h2 := YM p u.kids i v hv
       have h3 : yw p u = vQ p u.key + yT p u.kids := rfl
       have h4 : yw p ⟨u.id, u.kind, u.text, yG u.kids i⟩ = vQ p u.key + yT p (yG u.kids i) := rfl
       have h5 := jq p q w z ⟨z.id, z.kind, z.text, vK z.kids at_.toNat v⟩ hz
       have h6 := Qe p z.kids at_.toNat v (by omega)
       have h7 : yw p z = vQ p z.key + yT p z.kids := rfl
       have h8 : yw p ⟨z.id, z.kind, z.text, vK z.kids at_.toNat v⟩ = vQ p z.key + yT p (vK z.kids at_.toNat v) := rfl
       omega
     · split at h
       · rename_i ho
         cases hp : zM id t with
         | none => rw [Yd hp] at h; exact absurd (Prod.mk.inj h).2 (by decide)
         | some q =>
           obtain ⟨u, hu, huid⟩ := qY id t _ hp
           rw [Je hp hu] at h
           have hy := (Prod.mk.inj h).1
           subst hy
           refine ⟨.wri ho q u hp hu fun p => ?_, Qx q t u _ hu rfl⟩
           have h1 := jq p q t u ⟨u.id, u.kind, tx, u.kids⟩ hu
           have h3 : yw p u = vQ p u.key + yT p u.kids := rfl
           have h4 : yw p ⟨u.id, u.kind, tx, u.kids⟩ = vQ p (u.id, u.kind, tx) + yT p u.kids := rfl
           omega
       · exact absurd (Prod.mk.inj h).2 (by decide)
structure Sf where
 op : Int
 id : Int
 par : Int
 at_ : Int
 tx : ByteArray
 sub : Tr
def jO : Tr → Int → Int → List Nat → Tr × Int × Int
 | n, a, b, [] => (n, a, b)
 | n, a, b, i :: p => match zH n.kids i with
   | none => (n, a, b)
   | some u => jO u n.id (i : Int) p
def yB (id : Int) (t : Tr) : Tr × Int × Int := jO t 0 0 ((zM id t).getD [])
def zaV : Sf := ⟨0, 0, 0, 0, ⟨#[]⟩, zA⟩
def invK (op id : Int) (x t : Tr) : Sf :=
 if op = 1 then ⟨2, x.id, 0, 0, ⟨#[]⟩, zA⟩
 else if op = 2 then ⟨1, 0, (yB id t).2.1, (yB id t).2.2, ⟨#[]⟩, (yB id t).1⟩
 else if op = 3 then ⟨3, id, (yB id t).2.1, (yB id t).2.2, ⟨#[]⟩, zA⟩
 else if op = 4 then ⟨4, id, 0, 0, (yB id t).1.text, zA⟩ else zaV
def Sf.on (s : Sf) (t : Tr) : Tr × Int := yS s.op s.id s.par s.at_ s.tx s.sub t
theorem zb8 : ∀ f : Fo, idF f = kV f
 | .nil => rfl
 | .node b o k l r => by rw [jD, idF, zb8 l, zb8 r]
theorem QM {P : Program} {fn : Func} {p u v : Tmp} {ty : TypeId} (h : fn.results = #[.cell p ty, .tmp u, .tmp v]) (tmps : Array Value) (w : World) (g : Nat) (t : TypeId) (cs : Array Value) (fr : Nat × Nat) (d : TypeDesc) (x y : Value)
 (hp : tmps.getD p undef = .pointer (some ⟨g, 0, none⟩)) (hg : w.heap[g]? = some (.cells cs t fr)) (hu : P.underlying ty = some d) (hd : (match d with | .struct _ | .array _ _ => true | _ => false) = true) (hi : (P.info? ty).map (·.size) = some cs.size) (hp2 : tmps.getD u undef = x) (hp3 : tmps.getD v undef = y) :
 (results fn tmps).run P w = .ok (.tuple #[.agg cs, x, y]) w := by
 have hp' : tmps[p]?.getD undef = .pointer (some ⟨g, 0, none⟩) := by simpa using hp
 have hp2' : tmps[u]?.getD undef = x := by simpa using hp2
 have hp3' : tmps[v]?.getD undef = y := by simpa using hp3
 simp [results, h, hp', hp2', hp3', asAddr, run_loadVar_row w g t ty cs fr d hg hu hd hi]
theorem zbW {p : List Nat} {k j : Nat} {u vv : Tr} {a b : Int} (hj : p[k]? = some j) (h : atT u (p.drop k) = some vv) : ∃ v, zH u.kids j = some v ∧ jO u a b (p.drop k) = jO v u.id (j : Int) (p.drop (k + 1)) ∧ atT v (p.drop (k + 1)) = some vv := by
 obtain ⟨hk, e⟩ := List.getElem?_eq_some_iff.1 hj
 have hd : p.drop k = j :: p.drop (k + 1) := by rw [List.drop_eq_getElem_cons hk, e]
 rw [hd] at h
 simp only [atT] at h
 cases hv : zH u.kids j with
 | none => rw [hv] at h; cases h
 | some v => rw [hv] at h; exact ⟨v, rfl, by rw [hd]; simp only [jO, hv], h⟩
def WhI (w : World) (S : Nat → Prop) (g : Nat) (X : World) (u : Tr) : Prop := Below w.heap.size w X ∧ (∃ ka kc, X.heap[g]? = some (.cells #[.int .i64 u.id, .int .i64 u.kind, .string u.text, .slice ka (zb u.kids) kc] 37 (0, 0)) ∧ zb u.kids ≤ kc ∧ zF X S u.kids ka)
def zfQ (w : World) (S : Nat → Prop) (r : Tr × Int × Int) (e : Ending) (w' : World) : Prop := ∃ v, e = .returned (.tuple #[v, .int .i64 r.2.1, .int .i64 r.2.2]) ∧ zL w' S v r.1 ∧ Below w.heap.size w w'
theorem Qg (w : World) (S : Nat → Prop) (nv : Value) (t : Tr) (id : Int) (hS : ∀ y, S y → y < w.heap.size) (ht : zL w S nv t) (hsz : ze t.kids ≤ 300000) : Calls Tryz.prog 134 #[nv, .int .i64 id] w (zfQ w S (yB id t)) := by
 obtain ⟨ka, tc, rfl, hcap, hk⟩ := ht
 obtain ⟨nk, hnk⟩ : ∃ nk, nk = zb t.kids := ⟨_, rfl⟩
 rw [← hnk]
 obtain ⟨B, hB⟩ : ∃ B, B = zo w [.cells #[.int .i64 t.id, .int .i64 t.kind, .string t.text, .slice ka nk tc] 37, .cells #[.int .i64 0, .int .i64 0, .string ⟨#[]⟩, .slice none 0 0] 37] := ⟨_, rfl⟩
 have hb : Below w.heap.size w B := by rw [hB]; exact zk _ _
 have hs : B.heap.size = w.heap.size + 2 := by rw [hB]; exact zx _ _
 have ht0 : B.heap[w.heap.size]? = some (.cells #[.int .i64 t.id, .int .i64 t.kind, .string t.text, .slice ka nk tc] 37 (0, 0)) := by rw [hB]; exact zg _ _ 0 _ rfl
 have hr0 : B.heap[w.heap.size + 1]? = some (.cells #[.int .i64 0, .int .i64 0, .string ⟨#[]⟩, .slice none 0 0] 37 (0, 0)) := by rw [hB]; exact zg _ _ 1 _ rfl
 have hpath := Qj B S (.agg #[.int .i64 t.id, .int .i64 t.kind, .string t.text, .slice ka nk tc]) t id (fun y hy => nL (hS y hy) hb.size) ⟨ka, tc, by rw [hnk], hcap, hk.below hb hS⟩ (by omega)
 obtain ⟨p, hp⟩ : ∃ p, p = (zM id t).getD [] := ⟨_, rfl⟩
 have hat : ∃ vv, atT t p = some vv ∧ p.length ≤ ze t.kids := by
  cases h : zM id t with
  | none => rw [h] at hp; simp only [Option.getD_none] at hp; subst hp; exact ⟨t, rfl, Nat.zero_le _⟩
  | some q =>
    rw [h] at hp
    simp only [Option.getD_some] at hp
    obtain ⟨u, hu, _⟩ := qY _ _ _ h
    subst hp
    exact ⟨u, hu, by have := Zr _ _ _ hu; omega⟩
 obtain ⟨vv, hvv, hpl⟩ := hat
 have hwk : yB id t = jO t 0 0 p := by rw [hp]; rfl
 rw [hwk]
 unfold zco at hpath
 rw [← hp] at hpath
 obtain ⟨b0, b1, b2, b3⟩ := zJ ht0
 have HP := Lib.hid hpath
 have HB := Lib.hid (aN hb (aN hs (aN ht0 hr0)))
 have HK := Lib.hid (aN hnk (aN hcap (aN hk hS)))
 have HV := Lib.hid (aN hvv hsz)
 have HS := Lib.hid hS
 have HBE := Lib.hid hB
 have hp6 : p.length ≤ 300000 := by omega
 clear hpath hb hs ht0 hr0 hB hnk hcap hk hS hvv hpl hwk hp hsz
 go_enter Tryz.func134, Tryz.ntmps134
 go_upto_region 1 with fail
 change Code.wp _ _ _ _ (zo w [.cells #[.int .i64 t.id, .int .i64 t.kind, .string t.text, .slice ka nk tc] 37, .cells #[.int .i64 0, .int .i64 0, .string ⟨#[]⟩, .slice none 0 0] 37])
 rw [← HBE.out]
 clear HBE
 go_wp2_with fail
 refine HP.out.mono ?_
 rintro e W ⟨pv, rfl, hown, hbW⟩
 obtain ⟨pa, pc, rfl⟩ := zw hown
 have hW1 := (hbW.block _ (lt_of_heap HB.out.2.2.1)).trans HB.out.2.2.1
 have hW2 := (hbW.block _ (lt_of_heap HB.out.2.2.2)).trans HB.out.2.2.2
 clear b0 b1 b2 b3
 obtain ⟨b0, b1, b2, b3⟩ := zJ hW1
 obtain ⟨z0, z1, z2, z3⟩ := zJ hW2
 have zf : ∀ j, W.frozen? ⟨w.heap.size + 1, j, none⟩ = false := fun j => frozen_of_row _ _ j _ _ hW2
 obtain ⟨V, hV, r1, r2, r3, r4, r5, r6⟩ := zu (u0 := .int .i64 t.id) (u1 := .int .i64 t.kind) (u2 := .string t.text) (u3 := .slice ka nk tc) hW2
 obtain ⟨m, hm⟩ : ∃ m, m = (yE p).length := ⟨_, rfl⟩
 rw [← hm] at hown ⊢
 have hgl := fun g hg => zq hown (g := g) hg
 have hownV := zB (w' := V) hown (fun g cur hc hg => r2 g (by have := (hgl g hg).1; have := HB.out.2.1; omega))
 have hbw := HB.out.1
 have hbz := HB.out.2.1
 have hWz := hbW.size
 have hIV : WhI w S (w.heap.size + 1) V t := ⟨⟨r3.trans (hbW.os.trans hbw.os), r4.trans (hbW.tape.trans hbw.tape), r5.trans (hbW.output.trans hbw.output), by rw [r6]; omega, fun y hy => (r2 y (by omega)).trans ((hbW.block y (by omega)).trans (hbw.block y hy))⟩, ka, tc, by rw [← HK.out.1]; exact r1, HK.out.2.1, HK.out.2.2.1.kept fun y hy => ⟨hy, (r2 y (by have := HK.out.2.2.2 y hy; omega)).trans ((hbW.block y (by have := HK.out.2.2.2 y hy; omega)).trans (hbw.block y (HK.out.2.2.2 y hy)))⟩⟩
 rw [HB.out.2.1] at hownV
 have HI0 := Lib.hid (aN hIV (aN hownV (aN (fun g hg => show w.heap.size + 2 ≤ g by have := (hgl g hg).1; omega) (show m = p.length by rw [hm, zN]))))
 have hm6 : m ≤ 300000 := by rw [hm, zN]; exact hp6
 have HVE := Lib.hid hV
 clear hown hbW hW1 hW2 hV r1 r2 r3 r4 r5 r6 hm hgl hownV hbw hbz hWz hIV HP HB HK
 go_upto_region 3 with fail
 rw [← HVE.out]
 clear HVE b0 b1 b2 b3 z0 z1 z2 z3 zf
 go_wp2_with fail
 go_loopw [5, 6, 18] (fun a b i wr => ∃ (k : Nat) (ai bi : Int) (u : Tr), k ≤ m ∧ i = .int .i64 (k : Int) ∧ a = .int .i64 ai ∧ b = .int .i64 bi ∧ Hid (WhI w S (w.heap.size + 1) wr u ∧ wr.ownsRow (w.heap.size + 2) 3 1 (.slice pa m pc) m ((yE p).map qF) ∧ jO u ai bi (p.drop k) = jO t 0 0 p ∧ atT u (p.drop k) = some vv)) (fun _ _ i _ => m - (intOf i).toNat)
 case atStart => exact ⟨0, 0, 0, t, Nat.zero_le _, rfl, rfl, rfl, Lib.hid ⟨HI0.out.1, HI0.out.2.1, by rw [List.drop_zero], by rw [List.drop_zero]; exact HV.out.1⟩⟩
 case round =>
  obtain ⟨k, ai, bi, u, hk, rfl, rfl, rfl, hh⟩ := hrel
  by_cases hlt : k < m
  · have hki : (k : Int) < (m : Int) := by omega
    obtain ⟨⟨hbel, ka2, kc2, hh1, hc, hf⟩, hown, hwk, hat⟩ := hh.out
    obtain ⟨j, hj⟩ : ∃ j, p[k]? = some j := ⟨_, List.getElem?_eq_getElem (by rw [← HI0.out.2.2.2]; exact hlt)⟩
    obtain ⟨g, hpa, hgc, hgl, hcell⟩ := YD hown (by omega)
    subst hpa
    have c0 : wr.cell? ⟨g, k, none⟩ = some (.int .i64 (j : Int)) := hcell k (j : Int) (by rw [yE, List.getElem?_map, hj]; rfl)
    obtain ⟨v, hkv, hwk2, hat2⟩ := zbW (a := ai) (b := bi) hj hat
    obtain ⟨n0, n1, n2, n3⟩ := zJ hh1
    have nf : ∀ i, wr.frozen? ⟨w.heap.size + 1, i, none⟩ = false := fun i => frozen_of_row _ _ i _ _ hh1
    have hju := qC hkv
    obtain ⟨b0, o0, key, l, r, hd, g2, go, na, nc, hka, hSg, q0, q1, q2, q3, qc, qk⟩ := hf.at j hju
    subst hka
    have hv : v = ⟨key.1, key.2.1, key.2.2, l⟩ := by rw [zH, hd] at hkv; cases hkv; rfl
    obtain ⟨un, hun⟩ : ∃ un, un = zb u.kids := ⟨_, rfl⟩
    obtain ⟨ln, hln⟩ : ∃ ln, ln = zb l := ⟨_, rfl⟩
    rw [← hun] at n3
    rw [← hln] at q3
    have hju2 : (j : Int) < (un : Int) := by omega
    have hj0 : (0 : Int) ≤ (j : Int) := by omega
    obtain ⟨V, hV, r1, r2, r3, r4, r5, r6⟩ := zu (u0 := .int .i64 key.1) (u1 := .int .i64 key.2.1) (u2 := .string key.2.2) (u3 := .slice na ln nc) hh1
    have hne : ∀ y, S y → y ≠ w.heap.size + 1 := fun y hy e => by have := HS.out y hy; omega
    have hIV : WhI w S (w.heap.size + 1) V.drew v := ⟨⟨r3.trans hbel.os, r4.trans hbel.tape, r5.trans hbel.output, by show w.heap.size ≤ V.heap.size; rw [r6]; exact hbel.size, fun y hy => (r2 y (by omega)).trans (hbel.block y hy)⟩, na, nc, by subst hv; rw [← hln]; exact r1, by subst hv; exact qc, by subst hv; exact zF.kept (w := wr) (w' := V.drew) (S := S) (S' := S) (fun y hy => ⟨hy, r2 y (hne y hy)⟩) qk⟩
    have hownV := zB (w' := V.drew) hown (fun g' cur hc hg => r2 g' (by have := HI0.out.2.2.1 g' hg; omega))
    have HEND := Lib.hid (aN hIV (aN hownV (aN (hwk2.symm.trans hwk) (aN hat2 hlt))))
    have HVE := Lib.hid hV
    clear hbel hh1 hc hf hown hwk hat hj hgc hcell hkv hwk2 hat2 hd hSg qc qk hv hun hln hV r1 r2 r3 r4 r5 r6 hne hIV hownV hlt hju hh hk HI0 hgl
    go_wp2_with fail
    go_region_law (fail)
    all_goals
     rw [← HVE.out]
     go_wp2_with fail
     refine ⟨⟨k + 1, u.id, (j : Int), v, by have := HEND.out.2.2.2.2; omega, by go_num, rfl, rfl, Lib.hid ⟨HEND.out.1, HEND.out.2.1, HEND.out.2.2.1, HEND.out.2.2.2.1⟩⟩, by have := HEND.out.2.2.2.2; simp [intOf]; omega⟩
  · have hki : ¬ (k : Int) < (m : Int) := by omega
    obtain ⟨⟨hbel, ka2, kc2, hh1, hc, hf⟩, hown, hwk, hat⟩ := hh.out
    rw [List.drop_eq_nil_of_le (by have := HI0.out.2.2.2; omega)] at hwk
    obtain ⟨n0, n1, n2, n3⟩ := zJ hh1
    have nf : ∀ i, wr.frozen? ⟨w.heap.size + 1, i, none⟩ = false := fun i => frozen_of_row _ _ i _ _ hh1
    obtain ⟨un, hun⟩ : ∃ un, un = zb u.kids := ⟨_, rfl⟩
    rw [← hun] at n3 hh1
    obtain ⟨V, hV, r1, r2, r3, r4, r5, r6⟩ := zu (u0 := .int .i64 u.id) (u1 := .int .i64 u.kind) (u2 := .string u.text) (u3 := .slice ka2 un kc2) hh1
    have HEND : Hid (zfQ w S (jO t 0 0 p) (.returned (.tuple #[.agg #[.int .i64 u.id, .int .i64 u.kind, .string u.text, .slice ka2 un kc2], .int .i64 ai, .int .i64 bi])) V) := Lib.hid (by
     rw [← hwk, show jO u ai bi [] = (u, ai, bi) from rfl]
     exact ⟨_, rfl, ⟨ka2, kc2, by rw [hun], hc, hf.kept fun y hy => ⟨hy, r2 y (fun e => by have := HS.out y hy; omega)⟩⟩, ⟨r3.trans hbel.os, r4.trans hbel.tape, r5.trans hbel.output, by rw [r6]; exact hbel.size, fun y hy => (r2 y (by omega)).trans (hbel.block y hy)⟩⟩)
    have HR := Lib.hid r1
    have HVE := Lib.hid hV
    clear hbel hh1 hc hf hown hwk hat hlt hk hh hun HI0 hV r1 r2 r3 r4 r5 r6
    go_wp2_with fail
    rw [← HVE.out]
    refine bodyPost_ret (QM rfl _ _ (w.heap.size + 1) 37 _ (0, 0) _ (.int .i64 ai) (.int .i64 bi) rfl HR.out Tryz.underlying37 rfl (by kernel_rfl) rfl rfl) rfl ?_
    exact HEND.out
end Go.Proofs.YtonapijgfalpaaaGreat
