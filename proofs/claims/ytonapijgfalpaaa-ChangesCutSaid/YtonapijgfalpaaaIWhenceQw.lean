/-
  .
-/
import Derived.Deep.Cut
import Derived.Test.YtonapijgfalpaaaKWriteAQw
import Derived.Test.YtonapijgfalpaaaKPlacePQw
import Derived.Test.YtonapijgfalpaaaKInsertQw
import Derived.Test.YtonapijgfalpaaaKFreshQw
import Derived.Test.YtonapijgfalpaaaKPathQw
set_option linter.unusedVariables false
set_option linter.unusedSimpArgs false
namespace Go.Proofs.Ytonapijgfalpaaa
open Go.RowKit Go.Shelf
def removeK (id : Int) (t : Tr) : Tr × Int := match pathT id t with
 | none => (zeroK, 4)
 | some p => if p = [] then (zeroK, 90) else ((takeK t p.dropLast (p.getLastD 0)).1, 0)
theorem removeK_none {id : Int} {t : Tr} (h : pathT id t = none) : removeK id t = (zeroK, 4) := by unfold removeK; rw [h]
theorem removeK_root {id : Int} {t : Tr} (h : pathT id t = some []) : removeK id t = (zeroK, 90) := by unfold removeK; rw [h]; rfl
theorem removeK_go {id : Int} {t u v : Tr} {p : List Nat} {i : Nat} (h : pathT id t = some (p ++ [i])) (hu : atT t p = some u) (hv : kidF u.kids i = some v) : removeK id t = (putP t p ⟨u.id, u.kind, u.text, delF u.kids i⟩, 0) := by
 have ht : takeK t p i = (putP t p ⟨u.id, u.kind, u.text, delF u.kids i⟩, v) := by unfold takeK; rw [hu]; simp only; rw [hv]
 have hd : (p ++ [i]).dropLast = p := by simp
 have hl : (p ++ [i]).getLastD 0 = i := by simp [List.getLastD_eq_getLast?]
 unfold removeK; rw [h]; simp only
 rw [if_neg (by simp), hd, hl, ht]
set_option maxRecDepth 100000 in
set_option maxHeartbeats 8000000 in
theorem remove_any (w : World) (S : Nat → Prop) (nv : Value) (t : Tr) (op id par at_ s1 s2 : Int) (tx s3 : ByteArray) (sa : Option Addr) (sn sc : Nat) (hS : ∀ y, S y → y < w.heap.size) (ht : TrAt w S nv t) (hsz : foSize t.kids ≤ 100000) :
 Calls Try.prog 160 #[nv, .agg #[.int .i8 op, .int .i64 id, .int .i64 par, .int .i64 at_, .string tx, .int .i64 s1, .int .i64 s2, .string s3, .slice sa sn sc]] w (StepC w S (removeK id t)) := by
 obtain ⟨ka, tc, rfl, hcap, hk⟩ := ht
 obtain ⟨nk, hnk⟩ : ∃ nk, nk = foLen t.kids := ⟨_, rfl⟩
 rw [← hnk]
 obtain ⟨B, hB⟩ : ∃ B, B = allocs w [.cells #[.int .i64 t.id, .int .i64 t.kind, .string t.text, .slice ka nk tc] 24, .cells #[.int .i8 op, .int .i64 id, .int .i64 par, .int .i64 at_, .string tx, .int .i64 s1, .int .i64 s2, .string s3, .slice sa sn sc] 47, .cells #[.int .i64 0, .int .i64 0, .string ⟨#[]⟩, .slice none 0 0] 24] := ⟨_, rfl⟩
 have hb : Below w.heap.size w B := by rw [hB]; exact allocs_below _ _
 have hs : B.heap.size = w.heap.size + 3 := by rw [hB]; exact allocs_size _ _
 have ht0 : B.heap[w.heap.size]? = some (.cells #[.int .i64 t.id, .int .i64 t.kind, .string t.text, .slice ka nk tc] 24 (0, 0)) := by rw [hB]; exact allocs_at _ _ 0 _ rfl
 have hs0 : B.heap[w.heap.size + 1]? = some (.cells #[.int .i8 op, .int .i64 id, .int .i64 par, .int .i64 at_, .string tx, .int .i64 s1, .int .i64 s2, .string s3, .slice sa sn sc] 47 (0, 0)) := by rw [hB]; exact allocs_at _ _ 1 _ rfl
 have hr0 : B.heap[w.heap.size + 1 + 1]? = some (.cells #[.int .i64 0, .int .i64 0, .string ⟨#[]⟩, .slice none 0 0] 24 (0, 0)) := by rw [hB]; exact allocs_at _ _ 2 _ rfl
 have htr : ∀ X, Below B.heap.size B X → TrAt X S (.agg #[.int .i64 t.id, .int .i64 t.kind, .string t.text, .slice ka nk tc]) t := fun X hX => ⟨ka, tc, by rw [hnk], by rw [hnk] at *; exact hcap, hk.below (hb.trans (hX.mono hb.size)) hS⟩
 have hSX : ∀ X, Below B.heap.size B X → ∀ y, S y → y < X.heap.size := fun X hX y hy => Nat.lt_of_lt_of_le (hS y hy) (Nat.le_trans hb.size hX.size)
 have hpath : ∀ (i : Int) (X : World), Below B.heap.size B X → Calls Try.prog 67 #[.agg #[.int .i64 t.id, .int .i64 t.kind, .string t.text, .slice ka nk tc], .int .i64 i] X (PathC X (pathT i t)) := fun i X hX => path_any X S _ t i (hSX X hX) (htr X hX) (by omega)
 have hcell : ∀ X, Below B.heap.size B X → (X.cell? ⟨w.heap.size, 0, none⟩ = some (.int .i64 t.id) ∧ X.cell? ⟨w.heap.size, 1, none⟩ = some (.int .i64 t.kind) ∧ X.cell? ⟨w.heap.size, 2, none⟩ = some (.string t.text) ∧ X.cell? ⟨w.heap.size, 3, none⟩ = some (.slice ka nk tc)) ∧ X.cell? ⟨w.heap.size + 1, 1, none⟩ = some (.int .i64 id) := fun X hX => by
  have e0 := (hX.block _ (lt_of_heap ht0)).trans ht0
  have e1 := (hX.block _ (lt_of_heap hs0)).trans hs0
  exact ⟨box4 e0, by rw [cell_of_row _ _ 1 _ _ _ e1]; rfl⟩
 obtain ⟨pr, hpr⟩ : ∃ pr, pr = removeK id t := ⟨_, rfl⟩
 rw [← hpr]
 have HP := Lib.hid hpath
 have HCE := Lib.hid hcell
 have HTR := Lib.hid (And.intro htr hSX)
 have HB := Lib.hid (And.intro hb (And.intro hs hr0))
 have HSZ := Lib.hid hsz
 have HBE := Lib.hid hB
 have HSW := Lib.hid hS
 have HPR := Lib.hid hpr
 clear hpath hcell htr hSX hb hs ht0 hs0 hr0 hS hk hcap hsz hnk hB hpr
 go_enter Try.func160, Try.ntmps160
 go_wp2_with fail
 change Calls _ _ _ (allocs w [.cells #[.int .i64 t.id, .int .i64 t.kind, .string t.text, .slice ka nk tc] 24, .cells #[.int .i8 op, .int .i64 id, .int .i64 par, .int .i64 at_, .string tx, .int .i64 s1, .int .i64 s2, .string s3, .slice sa sn sc] 47, .cells #[.int .i64 0, .int .i64 0, .string ⟨#[]⟩, .slice none 0 0] 24]) _
 rw [← HBE.out]
 refine (HP.out id B (Below.refl _ _)).mono ?_
 rintro e W2 ⟨pv, rfl, hown, hb2⟩
 cases hpi : pathT id t with
 | none =>
   clear hown
   simp only [Option.isSome_none]
   have hE : pr = (zeroK, 4) := by rw [HPR.out, removeK_none hpi]
   have hr3 := (hb2.block _ (lt_of_heap HB.out.2.2)).trans HB.out.2.2
   have hbz : Below w.heap.size w W2 := HB.out.1.trans (hb2.mono HB.out.1.size)
   obtain ⟨z0, z1, z2, z3⟩ := box4 hr3
   have zf : ∀ j, W2.frozen? ⟨w.heap.size + 1 + 1, j, none⟩ = false := fun j => frozen_of_row _ _ j _ _ hr3
   obtain ⟨V, hV, r1, r2, r3, r4, r5, r6⟩ := four_set (u0 := .int .i64 0) (u1 := .int .i64 0) (u2 := .string ⟨#[]⟩) (u3 := .slice none 0 0) hr3
   have HE := Lib.hid (And.intro hE (And.intro hbz (And.intro hr3 (And.intro hV (And.intro r1 (And.intro r2 (And.intro r3 (And.intro r4 (And.intro r5 r6)))))))))
   clear hE hbz hr3 hV r1 r2 r3 r4 r5 r6
   go_wp2_with fail
   rw [← HE.out.2.2.2.1]
   obtain ⟨hE, hbz, hr3, hV, r1, r2, r3, r4, r5, r6⟩ := HE.out
   exact step_end (p := 4) (u := 5) rfl rfl (g := w.heap.size + 1 + 1) (y := zeroK) (m := 0) (kb := none) (kc := 0) ⟨r3.trans hbz.os, r4.trans hbz.tape, r5.trans hbz.output, by rw [r6]; exact hbz.size, fun k hk => (r2 k (by omega)).trans (hbz.block k hk)⟩ (by omega) ⟨_, _, r1, rfl⟩ rfl (Nat.le_refl _) True.intro (by rw [hE]) rfl (by rw [hE]; rfl)
 | some p =>
   rw [hpi] at hown
   simp only [Option.getD_some] at hown
   obtain ⟨pa, pc, rfl⟩ := owns_slice hown
   obtain ⟨m, hm⟩ : ∃ m, m = (natI p).length := ⟨_, rfl⟩
   rw [← hm] at hown ⊢
   have hpl : m = p.length := by rw [hm, natI_length]
   simp only [Option.isSome_some]
   by_cases hp0 : p = []
   · have hm0 : m = 0 := by rw [hpl, hp0]; rfl
     subst hm0
     have hE0 : pr = (zeroK, 90) := by rw [HPR.out, removeK_root (by rw [hpi, hp0])]
     clear hown hm hpl hp0 hpi
     have hE : pr = (zeroK, 90) := hE0
     have hr3 := (hb2.block _ (lt_of_heap HB.out.2.2)).trans HB.out.2.2
     have hbz : Below w.heap.size w W2 := HB.out.1.trans (hb2.mono HB.out.1.size)
     obtain ⟨z0, z1, z2, z3⟩ := box4 hr3
     have zf : ∀ j, W2.frozen? ⟨w.heap.size + 1 + 1, j, none⟩ = false := fun j => frozen_of_row _ _ j _ _ hr3
     obtain ⟨V, hV, r1, r2, r3, r4, r5, r6⟩ := four_set (u0 := .int .i64 0) (u1 := .int .i64 0) (u2 := .string ⟨#[]⟩) (u3 := .slice none 0 0) hr3
     have HE := Lib.hid (And.intro hE (And.intro hbz (And.intro hr3 (And.intro hV (And.intro r1 (And.intro r2 (And.intro r3 (And.intro r4 (And.intro r5 r6)))))))))
     clear hE hbz hr3 hV r1 r2 r3 r4 r5 r6
     go_wp2_with fail
     rw [← HE.out.2.2.2.1]
     obtain ⟨hE, hbz, hr3, hV, r1, r2, r3, r4, r5, r6⟩ := HE.out
     exact step_end (p := 4) (u := 5) rfl rfl (g := w.heap.size + 1 + 1) (y := zeroK) (m := 0) (kb := none) (kc := 0) ⟨r3.trans hbz.os, r4.trans hbz.tape, r5.trans hbz.output, by rw [r6]; exact hbz.size, fun k hk => (r2 k (by omega)).trans (hbz.block k hk)⟩ (by omega) ⟨_, _, r1, rfl⟩ rfl (Nat.le_refl _) True.intro (by rw [hE]) rfl (by rw [hE]; rfl)
   · obtain ⟨p', i, rfl⟩ : ∃ p' i, p = p' ++ [i] := ⟨p.dropLast, p.getLast hp0, (List.dropLast_concat_getLast hp0).symm⟩
     have hm1 : (m : Int) ≠ 0 := by rw [hpl]; simp; omega
     obtain ⟨v, hv0, hvid⟩ := pathT_at id t _ hpi
     obtain ⟨u, hu, hv⟩ := atT_last p' i t v hv0
     have hE := removeK_go hpi hu hv
     rw [← HPR.out] at hE
     have htk := take_any W2 S (.agg #[.int .i64 t.id, .int .i64 t.kind, .string t.text, .slice ka nk tc]) t u v p' i pa m pc (HTR.out.2 W2 hb2) (HTR.out.1 W2 hb2) (by have := HSZ.out; omega) hu hv (by rw [hpl, List.length_append]; rfl) ((intsL_own (l := natI (p' ++ [i])) hown).1.kept fun y hy => ⟨hy.2, rfl⟩)
     obtain ⟨y, hy⟩ : ∃ y, y = putP t p' ⟨u.id, u.kind, u.text, delF u.kids i⟩ := ⟨_, rfl⟩
     rw [← hy] at htk hE
     obtain ⟨⟨n0, n1, n2, n3⟩, m1⟩ := HCE.out W2 hb2
     have HTK := Lib.hid htk
     have HG := Lib.hid (And.intro hE hb2)
     clear htk hown hm hpl hp0 hpi hu hv hv0 hvid hE hb2 hy
     go_wp2_with fail
     refine HTK.out.mono ?_
     rintro e X ⟨_, _, rfl, ⟨kb, kc, rfl, hkc, hkk⟩, ⟨va, vc, rfl, _, _⟩, hbx⟩
     obtain ⟨yn, hyn⟩ : ∃ yn, yn = foLen y.kids := ⟨_, rfl⟩
     obtain ⟨vn, hvn⟩ : ∃ vn, vn = foLen v.kids := ⟨_, rfl⟩
     rw [← hyn, ← hvn]
     rw [← hyn] at hkc
     have hbX : Below B.heap.size B X := HG.out.2.trans (hbx.mono HG.out.2.size)
     obtain ⟨X2, hX2⟩ : ∃ X2, X2 = allocs X [.cells #[.int .i64 y.id, .int .i64 y.kind, .string y.text, .slice kb yn kc] 24, .cells #[.int .i64 v.id, .int .i64 v.kind, .string v.text, .slice va vn vc] 24] := ⟨_, rfl⟩
     have hb2 : Below X.heap.size X X2 := by rw [hX2]; exact allocs_below _ _
     have hX2s : X2.heap.size = X.heap.size + 2 := by rw [hX2]; exact allocs_size _ _
     have hbX2 : Below B.heap.size B X2 := hbX.trans (hb2.mono hbX.size)
     have hyX : X2.heap[X.heap.size]? = some (.cells #[.int .i64 y.id, .int .i64 y.kind, .string y.text, .slice kb yn kc] 24 (0, 0)) := by rw [hX2]; exact allocs_at _ _ 0 _ rfl
     obtain ⟨y0, y1, y2, y3⟩ := box4 hyX
     have hr3 := (hbX2.block _ (lt_of_heap HB.out.2.2)).trans HB.out.2.2
     have hbz : Below w.heap.size w X2 := HB.out.1.trans (hbX2.mono HB.out.1.size)
     obtain ⟨z0, z1, z2, z3⟩ := box4 hr3
     have zf : ∀ j, X2.frozen? ⟨w.heap.size + 1 + 1, j, none⟩ = false := fun j => frozen_of_row _ _ j _ _ hr3
     obtain ⟨V, hV, r1, r2, r3, r4, r5, r6⟩ := four_set (u0 := .int .i64 y.id) (u1 := .int .i64 y.kind) (u2 := .string y.text) (u3 := .slice kb yn kc) hr3
     have hBw := HB.out.2.1
     have hWB := HG.out.2.size
     have hok : FoAt V (fun z => S z ∨ w.heap.size ≤ z ∧ z < V.heap.size) y.kids kb := hkk.kept fun z hz => by
      have hSz := HTR.out.2 B (Below.refl _ _)
      have hxs := hbx.size
      have hz2 : (S z ∨ w.heap.size ≤ z ∧ z < V.heap.size) ∧ z < X.heap.size ∧ z ≠ w.heap.size + 1 + 1 := by
       rcases hz with hz | hz
       · have h1 := HSW.out z hz; have h2 := hSz z hz
         exact ⟨Or.inl hz, by omega, by omega⟩
       · exact ⟨Or.inr ⟨by omega, by omega⟩, by omega, by omega⟩
      exact ⟨hz2.1, (r2 z hz2.2.2).trans (hb2.block z hz2.2.1)⟩
     have HE := Lib.hid (And.intro hbz (And.intro hV (And.intro r1 (And.intro r2 (And.intro r3 (And.intro r4 (And.intro r5 (And.intro r6 (And.intro hok (And.intro hkc hyn))))))))))
     have HX2 := Lib.hid hX2
     clear hbX hb2 hX2s hbX2 hyX hr3 hbz hV r1 r2 r3 r4 r5 r6 hBw hWB hok hkk hkc hyn hvn hbx hX2 n0 n1 n2 n3 m1
     go_upto_region 7 with fail
     change Code.wp _ _ _ _ (allocs X [.cells #[.int .i64 y.id, .int .i64 y.kind, .string y.text, .slice kb yn kc] 24, .cells #[.int .i64 v.id, .int .i64 v.kind, .string v.text, .slice va vn vc] 24])
     rw [← HX2.out]
     go_wp2_with fail
     rw [← HE.out.2.1]
     obtain ⟨hbz, hV, r1, r2, r3, r4, r5, r6, hok, hkc, hyn⟩ := HE.out
     exact step_end (p := 4) (u := 5) rfl rfl (g := w.heap.size + 1 + 1) (y := y) (m := yn) (kb := kb) (kc := kc) ⟨r3.trans hbz.os, r4.trans hbz.tape, r5.trans hbz.output, by rw [r6]; exact hbz.size, fun k hk => (r2 k (by omega)).trans (hbz.block k hk)⟩ (by omega) ⟨_, _, r1, rfl⟩ hyn (by rw [← hyn]; exact hkc) hok (by rw [HG.out.1]) rfl (by rw [HG.out.1]; rfl)
abbrev Key := Int × Int × ByteArray
def Tr.key (t : Tr) : Key := (t.id, t.kind, t.text)
def oneP (p : Key → Bool) (k : Key) : Nat := if p k = true then 1 else 0
def cntP (p : Key → Bool) : Fo → Nat
 | .nil => 0
 | .node _ _ k l r => oneP p k + cntP p l + cntP p r
def cntQ (p : Key → Bool) (t : Tr) : Nat := oneP p t.key + cntP p t.kids
theorem cntP_ins (p : Key → Bool) : ∀ (f : Fo) (i : Nat) (u : Tr), i ≤ foLen f → cntP p (insF f i u) = cntP p f + cntQ p u
 | f, 0, u, _ => by rw [insF_zero, cntP, cntQ]; simp only [Tr.key]; omega
 | .nil, i + 1, u, h => by simp [foLen] at h
 | .node b o k l r, i + 1, u, h => by
   have := cntP_ins p r i u (by simp [foLen] at h; omega)
   simp only [insF, cntP, this]; omega
theorem cntP_del (p : Key → Bool) : ∀ (f : Fo) (i : Nat) (u : Tr), kidF f i = some u → cntP p (delF f i) + cntQ p u = cntP p f
 | .nil, i, u, h => by cases i <;> simp [kidF, foDrop, headT] at h
 | .node b o k l r, 0, u, h => by
   simp only [kidF, foDrop, headT] at h
   cases h
   simp only [delF, cntP, cntQ, Tr.key]; rw [show (k.1, k.2.1, k.2.2) = k from rfl]; omega
 | .node b o k l r, i + 1, u, h => by
   have := cntP_del p r i u (by simpa [kidF, foDrop] using h)
   simp only [delF, cntP]; omega
theorem cntP_set (p : Key → Bool) : ∀ (f : Fo) (i : Nat) (u v : Tr), kidF f i = some u → cntP p (setF f i v) + cntQ p u = cntP p f + cntQ p v
 | .nil, i, _, _, h => by cases i <;> simp [kidF, foDrop, headT] at h
 | .node _ _ k l r, 0, u, v, h => by
   simp only [kidF, foDrop, headT] at h
   cases h
   simp only [setF, cntP, cntQ, Tr.key]; rw [show (k.1, k.2.1, k.2.2) = k from rfl]; omega
 | .node _ _ k l r, i + 1, u, v, h => by
   have := cntP_set p r i u v (by simpa [kidF, foDrop] using h)
   simp only [setF, cntP]; omega
theorem cntQ_put (p : Key → Bool) : ∀ (q : List Nat) (t u x : Tr), atT t q = some u → cntQ p (putP t q x) + cntQ p u = cntQ p t + cntQ p x
 | [], t, u, x, h => by cases h; simp only [putP]; omega
 | i :: q, t, u, x, h => by
   simp only [atT] at h
   simp only [putP]
   cases hk : kidF t.kids i with
   | none => rw [hk] at h; cases h
   | some v =>
     rw [hk] at h
     have h1 := cntQ_put p q v u x h
     have h2 := cntP_set p t.kids i v (putP v q x) hk
     simp only [cntQ, Tr.key] at h1 h2 ⊢
     omega
theorem cntP_mem (p : Key → Bool) : ∀ (f : Fo) (d : Nat), (∃ x ∈ spF d f, p x.2.1 = true) ↔ 0 < cntP p f
 | .nil, d => by simp [spF, cntP]
 | .node b o k l r, d => by
   have h1 := cntP_mem p l (d + 1)
   have h2 := cntP_mem p r d
   simp only [spF, cntP, List.mem_cons, List.mem_append]
   constructor
   · rintro ⟨x, (rfl | hx | hx), hp⟩
     · rw [oneP, if_pos hp]; omega
     · have := h1.1 ⟨x, hx, hp⟩; omega
     · have := h2.1 ⟨x, hx, hp⟩; omega
   · intro h
     by_cases hk : p k = true
     · exact ⟨_, Or.inl rfl, hk⟩
     · rw [oneP, if_neg hk] at h
       by_cases hl : 0 < cntP p l
       · obtain ⟨x, hx, hp⟩ := h1.2 hl; exact ⟨x, Or.inr (Or.inl hx), hp⟩
       · obtain ⟨x, hx, hp⟩ := h2.2 (by omega); exact ⟨x, Or.inr (Or.inr hx), hp⟩
theorem cntP_root (p : Key → Bool) (t : Tr) : cntP p (rootF t) = cntQ p t := by simp only [rootF, cntP, cntQ, Tr.key]; omega
theorem cntQ_mem (p : Key → Bool) (t : Tr) : (∃ x ∈ spF 1 (rootF t), p x.2.1 = true) ↔ 0 < cntQ p t := by rw [cntP_mem, cntP_root]
def isId (a : Int) : Key → Bool := fun k => decide (k.1 = a)
theorem cnt_isId (a : Int) : ∀ f : Fo, cntP (isId a) f = cntF a f
 | .nil => rfl
 | .node b o k l r => by
   simp only [cntP, cntF, cnt_isId a l, cnt_isId a r, oneP, isId, decide_eq_true_eq]
theorem cntQ_id (a : Int) (t : Tr) : cntQ (isId a) t = cntT a t := by
 simp only [cntQ, cntT, cnt_isId, oneP, isId, Tr.key]
 by_cases h : t.id = a <;> simp [h]
theorem cnt_all : ∀ f : Fo, cntP (fun _ => true) f = foSize f
 | .nil => rfl
 | .node b o k l r => by simp only [cntP, foSize, cnt_all l, cnt_all r, oneP, if_pos]; omega
theorem cntQ_all (t : Tr) : cntQ (fun _ => true) t = foSize t.kids + 1 := by simp only [cntQ, cnt_all, oneP, if_pos]; omega
theorem put_id : ∀ (q : List Nat) (t u x : Tr), atT t q = some u → x.id = u.id → (putP t q x).id = t.id
 | [], t, u, x, h, hx => by cases h; exact hx
 | i :: q, t, u, x, h, hx => by
   simp only [putP]
   cases hk : kidF t.kids i with
   | none => rfl
   | some v => rfl
def stepK (op id par at_ : Int) (tx : ByteArray) (x t : Tr) : Tr × Int :=
 if op = 1 then insertK par at_ x t else if op = 2 then removeK id t else if op = 3 then moveK id par at_ t else if op = 4 then writeK id tx t else (zeroK, 2)
inductive Fx (op id : Int) (tx : ByteArray) (x t y : Tr) : Prop
 | ins (ho : op = 1) (h : ∀ p, cntQ p y = cntQ p t + cntQ p x)
 | del (ho : op = 2) (q : List Nat) (v : Tr) (hq : pathT id t = some q) (hv : atT t q = some v) (h : ∀ p, cntQ p y + cntQ p v = cntQ p t)
 | mov (ho : op = 3) (h : ∀ p, cntQ p y = cntQ p t)
 | wri (ho : op = 4) (q : List Nat) (u : Tr) (hq : pathT id t = some q) (hu : atT t q = some u) (h : ∀ p, cntQ p y + oneP p u.key = cntQ p t + oneP p (u.id, u.kind, tx))
theorem stepK_fx {op id par at_ : Int} {tx : ByteArray} {x t y : Tr} (h : stepK op id par at_ tx x t = (y, 0)) : Fx op id tx x t y ∧ y.id = t.id := by
 unfold stepK at h
 split at h
 · rename_i ho
   unfold insertK at h
   split at h
   · rename_i h0
     have hy : (putK par at_ t x).1 = y := (Prod.mk.inj h).1
     cases hp : pathT par t with
     | none => rw [putK_none hp] at h0; exact absurd h0 (by decide)
     | some q =>
       obtain ⟨u, hu, _⟩ := pathT_at _ _ _ hp
       rw [putK_some hp hu] at h0 hy
       split at h0
       · rename_i hc
         rw [if_pos hc] at hy
         simp only at hy
         subst hy
         refine ⟨.ins ho fun p => ?_, put_id q t u _ hu rfl⟩
         have h1 := cntQ_put p q t u ⟨u.id, u.kind, u.text, insF u.kids at_.toNat x⟩ hu
         have h2 := cntP_ins p u.kids at_.toNat x (by omega)
         have h3 : cntQ p u = oneP p u.key + cntP p u.kids := rfl
         have h4 : cntQ p ⟨u.id, u.kind, u.text, insF u.kids at_.toNat x⟩ = oneP p u.key + cntP p (insF u.kids at_.toNat x) := rfl
         omega
       · exact absurd (show (2 : Int) = 0 from h0) (by decide)
   · rename_i h0
     exact absurd (Prod.mk.inj h).2 h0
 · split at h
   · rename_i ho
     cases hp : pathT id t with
     | none => rw [removeK_none hp] at h; exact absurd (Prod.mk.inj h).2 (by decide)
     | some q0 =>
       by_cases h0 : q0 = []
       · subst h0; rw [removeK_root hp] at h; exact absurd (Prod.mk.inj h).2 (by decide)
       · obtain ⟨q, i, rfl⟩ : ∃ p i, q0 = p ++ [i] := ⟨q0.dropLast, q0.getLast h0, (List.dropLast_concat_getLast h0).symm⟩
         obtain ⟨v, hv0, hvid⟩ := pathT_at id t _ hp
         obtain ⟨u, hu, hv⟩ := atT_last q i t v hv0
         rw [removeK_go hp hu hv] at h
         have hy := (Prod.mk.inj h).1
         subst hy
         refine ⟨.del ho _ v hp hv0 fun p => ?_, put_id q t u _ hu rfl⟩
         have h1 := cntQ_put p q t u ⟨u.id, u.kind, u.text, delF u.kids i⟩ hu
         have h2 := cntP_del p u.kids i v hv
         have h3 : cntQ p u = oneP p u.key + cntP p u.kids := rfl
         have h4 : cntQ p ⟨u.id, u.kind, u.text, delF u.kids i⟩ = oneP p u.key + cntP p (delF u.kids i) := rfl
         omega
   · split at h
     · rename_i ho
       obtain ⟨q0, i, u, v, q, z, hi, hu, hv, hvid, hq, hz, ha, hb, hx⟩ := moveK_ok h
       obtain ⟨w, hw⟩ : ∃ w, w = putP t q0 ⟨u.id, u.kind, u.text, delF u.kids i⟩ := ⟨_, rfl⟩
       rw [← hw] at hz hx
       subst hx
       have e1 := put_id q w z ⟨z.id, z.kind, z.text, insF z.kids at_.toNat v⟩ hz rfl
       have e2 := put_id q0 t u ⟨u.id, u.kind, u.text, delF u.kids i⟩ hu rfl
       rw [← hw] at e2
       refine ⟨.mov ho fun p => ?_, e1.trans e2⟩
       have h1 := cntQ_put p q0 t u ⟨u.id, u.kind, u.text, delF u.kids i⟩ hu
       rw [← hw] at h1
       have h2 := cntP_del p u.kids i v hv
       have h3 : cntQ p u = oneP p u.key + cntP p u.kids := rfl
       have h4 : cntQ p ⟨u.id, u.kind, u.text, delF u.kids i⟩ = oneP p u.key + cntP p (delF u.kids i) := rfl
       have h5 := cntQ_put p q w z ⟨z.id, z.kind, z.text, insF z.kids at_.toNat v⟩ hz
       have h6 := cntP_ins p z.kids at_.toNat v (by omega)
       have h7 : cntQ p z = oneP p z.key + cntP p z.kids := rfl
       have h8 : cntQ p ⟨z.id, z.kind, z.text, insF z.kids at_.toNat v⟩ = oneP p z.key + cntP p (insF z.kids at_.toNat v) := rfl
       omega
     · split at h
       · rename_i ho
         cases hp : pathT id t with
         | none => rw [writeK_none hp] at h; exact absurd (Prod.mk.inj h).2 (by decide)
         | some q =>
           obtain ⟨u, hu, huid⟩ := pathT_at id t _ hp
           rw [writeK_go hp hu] at h
           have hy := (Prod.mk.inj h).1
           subst hy
           refine ⟨.wri ho q u hp hu fun p => ?_, put_id q t u _ hu rfl⟩
           have h1 := cntQ_put p q t u ⟨u.id, u.kind, tx, u.kids⟩ hu
           have h3 : cntQ p u = oneP p u.key + cntP p u.kids := rfl
           have h4 : cntQ p ⟨u.id, u.kind, tx, u.kids⟩ = oneP p (u.id, u.kind, tx) + cntP p u.kids := rfl
           omega
       · exact absurd (Prod.mk.inj h).2 (by decide)
structure Sf where
 op : Int
 id : Int
 par : Int
 at_ : Int
 tx : ByteArray
 sub : Tr
def walkW : Tr → Int → Int → List Nat → Tr × Int × Int
 | n, a, b, [] => (n, a, b)
 | n, a, b, i :: p => match kidF n.kids i with
   | none => (n, a, b)
   | some u => walkW u n.id (i : Int) p
def whenceK (id : Int) (t : Tr) : Tr × Int × Int := walkW t 0 0 ((pathT id t).getD [])
def zeroS : Sf := ⟨0, 0, 0, 0, ⟨#[]⟩, zeroK⟩
def invK (op id : Int) (x t : Tr) : Sf :=
 if op = 1 then ⟨2, x.id, 0, 0, ⟨#[]⟩, zeroK⟩
 else if op = 2 then ⟨1, 0, (whenceK id t).2.1, (whenceK id t).2.2, ⟨#[]⟩, (whenceK id t).1⟩
 else if op = 3 then ⟨3, id, (whenceK id t).2.1, (whenceK id t).2.2, ⟨#[]⟩, zeroK⟩
 else if op = 4 then ⟨4, id, 0, 0, (whenceK id t).1.text, zeroK⟩ else zeroS
def Sf.on (s : Sf) (t : Tr) : Tr × Int := stepK s.op s.id s.par s.at_ s.tx s.sub t
theorem idF_eq : ∀ f : Fo, idF f = idsF f
 | .nil => rfl
 | .node b o k l r => by rw [idsF_node, idF, idF_eq l, idF_eq r]
theorem results_cell3 {P : Program} {fn : Func} {p u v : Tmp} {ty : TypeId} (h : fn.results = #[.cell p ty, .tmp u, .tmp v]) (tmps : Array Value) (w : World) (g : Nat) (t : TypeId) (cs : Array Value) (fr : Nat × Nat) (d : TypeDesc) (x y : Value)
 (hp : tmps.getD p undef = .pointer (some ⟨g, 0, none⟩)) (hg : w.heap[g]? = some (.cells cs t fr)) (hu : P.underlying ty = some d) (hd : (match d with | .struct _ | .array _ _ => true | _ => false) = true) (hi : (P.info? ty).map (·.size) = some cs.size) (hp2 : tmps.getD u undef = x) (hp3 : tmps.getD v undef = y) :
 (results fn tmps).run P w = .ok (.tuple #[.agg cs, x, y]) w := by
 have hp' : tmps[p]?.getD undef = .pointer (some ⟨g, 0, none⟩) := by simpa using hp
 have hp2' : tmps[u]?.getD undef = x := by simpa using hp2
 have hp3' : tmps[v]?.getD undef = y := by simpa using hp3
 simp [results, h, hp', hp2', hp3', asAddr, run_loadVar_row w g t ty cs fr d hg hu hd hi]
theorem walkW_step {p : List Nat} {k j : Nat} {u vv : Tr} {a b : Int} (hj : p[k]? = some j) (h : atT u (p.drop k) = some vv) : ∃ v, kidF u.kids j = some v ∧ walkW u a b (p.drop k) = walkW v u.id (j : Int) (p.drop (k + 1)) ∧ atT v (p.drop (k + 1)) = some vv := by
 obtain ⟨hk, e⟩ := List.getElem?_eq_some_iff.1 hj
 have hd : p.drop k = j :: p.drop (k + 1) := by rw [List.drop_eq_getElem_cons hk, e]
 rw [hd] at h
 simp only [atT] at h
 cases hv : kidF u.kids j with
 | none => rw [hv] at h; cases h
 | some v => rw [hv] at h; exact ⟨v, rfl, by rw [hd]; simp only [walkW, hv], h⟩
def WhI (w : World) (S : Nat → Prop) (g : Nat) (X : World) (u : Tr) : Prop := Below w.heap.size w X ∧ (∃ ka kc, X.heap[g]? = some (.cells #[.int .i64 u.id, .int .i64 u.kind, .string u.text, .slice ka (foLen u.kids) kc] 24 (0, 0)) ∧ foLen u.kids ≤ kc ∧ FoAt X S u.kids ka)
def WhenC (w : World) (S : Nat → Prop) (r : Tr × Int × Int) (e : Ending) (w' : World) : Prop := ∃ v, e = .returned (.tuple #[v, .int .i64 r.2.1, .int .i64 r.2.2]) ∧ TrAt w' S v r.1 ∧ Below w.heap.size w w'
set_option maxRecDepth 100000 in
set_option maxHeartbeats 8000000 in
theorem whence_any (w : World) (S : Nat → Prop) (nv : Value) (t : Tr) (id : Int) (hS : ∀ y, S y → y < w.heap.size) (ht : TrAt w S nv t) (hsz : foSize t.kids ≤ 300000) : Calls Try.prog 191 #[nv, .int .i64 id] w (WhenC w S (whenceK id t)) := by
 obtain ⟨ka, tc, rfl, hcap, hk⟩ := ht
 obtain ⟨nk, hnk⟩ : ∃ nk, nk = foLen t.kids := ⟨_, rfl⟩
 rw [← hnk]
 obtain ⟨B, hB⟩ : ∃ B, B = allocs w [.cells #[.int .i64 t.id, .int .i64 t.kind, .string t.text, .slice ka nk tc] 24, .cells #[.int .i64 0, .int .i64 0, .string ⟨#[]⟩, .slice none 0 0] 24] := ⟨_, rfl⟩
 have hb : Below w.heap.size w B := by rw [hB]; exact allocs_below _ _
 have hs : B.heap.size = w.heap.size + 2 := by rw [hB]; exact allocs_size _ _
 have ht0 : B.heap[w.heap.size]? = some (.cells #[.int .i64 t.id, .int .i64 t.kind, .string t.text, .slice ka nk tc] 24 (0, 0)) := by rw [hB]; exact allocs_at _ _ 0 _ rfl
 have hr0 : B.heap[w.heap.size + 1]? = some (.cells #[.int .i64 0, .int .i64 0, .string ⟨#[]⟩, .slice none 0 0] 24 (0, 0)) := by rw [hB]; exact allocs_at _ _ 1 _ rfl
 have hpath := path_any B S (.agg #[.int .i64 t.id, .int .i64 t.kind, .string t.text, .slice ka nk tc]) t id (fun y hy => Nat.lt_of_lt_of_le (hS y hy) hb.size) ⟨ka, tc, by rw [hnk], hcap, hk.below hb hS⟩ (by omega)
 obtain ⟨p, hp⟩ : ∃ p, p = (pathT id t).getD [] := ⟨_, rfl⟩
 have hat : ∃ vv, atT t p = some vv ∧ p.length ≤ foSize t.kids := by
  cases h : pathT id t with
  | none => rw [h] at hp; simp only [Option.getD_none] at hp; subst hp; exact ⟨t, rfl, Nat.zero_le _⟩
  | some q =>
    rw [h] at hp
    simp only [Option.getD_some] at hp
    obtain ⟨u, hu, _⟩ := pathT_at _ _ _ h
    subst hp
    exact ⟨u, hu, by have := atT_size _ _ _ hu; omega⟩
 obtain ⟨vv, hvv, hpl⟩ := hat
 have hwk : whenceK id t = walkW t 0 0 p := by rw [hp]; rfl
 rw [hwk]
 unfold PathC at hpath
 rw [← hp] at hpath
 obtain ⟨b0, b1, b2, b3⟩ := box4 ht0
 have HP := Lib.hid hpath
 have HB := Lib.hid (And.intro hb (And.intro hs (And.intro ht0 hr0)))
 have HK := Lib.hid (And.intro hnk (And.intro hcap (And.intro hk hS)))
 have HV := Lib.hid (And.intro hvv hsz)
 have HS := Lib.hid hS
 have HBE := Lib.hid hB
 have hp6 : p.length ≤ 300000 := by omega
 clear hpath hb hs ht0 hr0 hB hnk hcap hk hS hvv hpl hwk hp hsz
 go_enter Try.func191, Try.ntmps191
 go_upto_region 1 with fail
 change Code.wp _ _ _ _ (allocs w [.cells #[.int .i64 t.id, .int .i64 t.kind, .string t.text, .slice ka nk tc] 24, .cells #[.int .i64 0, .int .i64 0, .string ⟨#[]⟩, .slice none 0 0] 24])
 rw [← HBE.out]
 clear HBE
 go_wp2_with fail
 refine HP.out.mono ?_
 rintro e W ⟨pv, rfl, hown, hbW⟩
 obtain ⟨pa, pc, rfl⟩ := owns_slice hown
 have hW1 := (hbW.block _ (lt_of_heap HB.out.2.2.1)).trans HB.out.2.2.1
 have hW2 := (hbW.block _ (lt_of_heap HB.out.2.2.2)).trans HB.out.2.2.2
 clear b0 b1 b2 b3
 obtain ⟨b0, b1, b2, b3⟩ := box4 hW1
 obtain ⟨z0, z1, z2, z3⟩ := box4 hW2
 have zf : ∀ j, W.frozen? ⟨w.heap.size + 1, j, none⟩ = false := fun j => frozen_of_row _ _ j _ _ hW2
 obtain ⟨V, hV, r1, r2, r3, r4, r5, r6⟩ := four_set (u0 := .int .i64 t.id) (u1 := .int .i64 t.kind) (u2 := .string t.text) (u3 := .slice ka nk tc) hW2
 obtain ⟨m, hm⟩ : ∃ m, m = (natI p).length := ⟨_, rfl⟩
 rw [← hm] at hown ⊢
 have hgl := fun g hg => owns_bounds hown (g := g) hg
 have hownV := owns_kept (w' := V) hown (fun g cur hc hg => r2 g (by have := (hgl g hg).1; have := HB.out.2.1; omega))
 have hbw := HB.out.1
 have hbz := HB.out.2.1
 have hWz := hbW.size
 have hIV : WhI w S (w.heap.size + 1) V t := ⟨⟨r3.trans (hbW.os.trans hbw.os), r4.trans (hbW.tape.trans hbw.tape), r5.trans (hbW.output.trans hbw.output), by rw [r6]; omega, fun y hy => (r2 y (by omega)).trans ((hbW.block y (by omega)).trans (hbw.block y hy))⟩, ka, tc, by rw [← HK.out.1]; exact r1, HK.out.2.1, HK.out.2.2.1.kept fun y hy => ⟨hy, (r2 y (by have := HK.out.2.2.2 y hy; omega)).trans ((hbW.block y (by have := HK.out.2.2.2 y hy; omega)).trans (hbw.block y (HK.out.2.2.2 y hy)))⟩⟩
 rw [HB.out.2.1] at hownV
 have HI0 := Lib.hid (And.intro hIV (And.intro hownV (And.intro (fun g hg => show w.heap.size + 2 ≤ g by have := (hgl g hg).1; omega) (show m = p.length by rw [hm, natI_length]))))
 have hm6 : m ≤ 300000 := by rw [hm, natI_length]; exact hp6
 have HVE := Lib.hid hV
 clear hown hbW hW1 hW2 hV r1 r2 r3 r4 r5 r6 hm hgl hownV hbw hbz hWz hIV HP HB HK
 go_upto_region 3 with fail
 rw [← HVE.out]
 clear HVE b0 b1 b2 b3 z0 z1 z2 z3 zf
 go_wp2_with fail
 go_loopw [5, 6, 18] (fun a b i wr => ∃ (k : Nat) (ai bi : Int) (u : Tr), k ≤ m ∧ i = .int .i64 (k : Int) ∧ a = .int .i64 ai ∧ b = .int .i64 bi ∧ Hid (WhI w S (w.heap.size + 1) wr u ∧ wr.ownsRow (w.heap.size + 2) 3 1 (.slice pa m pc) m ((natI p).map intV) ∧ walkW u ai bi (p.drop k) = walkW t 0 0 p ∧ atT u (p.drop k) = some vv)) (fun _ _ i _ => m - (intOf i).toNat)
 case atStart => exact ⟨0, 0, 0, t, Nat.zero_le _, rfl, rfl, rfl, Lib.hid ⟨HI0.out.1, HI0.out.2.1, by rw [List.drop_zero], by rw [List.drop_zero]; exact HV.out.1⟩⟩
 case round =>
  obtain ⟨k, ai, bi, u, hk, rfl, rfl, rfl, hh⟩ := hrel
  by_cases hlt : k < m
  · have hki : (k : Int) < (m : Int) := by omega
    obtain ⟨⟨hbel, ka2, kc2, hh1, hc, hf⟩, hown, hwk, hat⟩ := hh.out
    obtain ⟨j, hj⟩ : ∃ j, p[k]? = some j := ⟨_, List.getElem?_eq_getElem (by rw [← HI0.out.2.2.2]; exact hlt)⟩
    obtain ⟨g, hpa, hgc, hgl, hcell⟩ := own_cap hown (by omega)
    subst hpa
    have c0 : wr.cell? ⟨g, k, none⟩ = some (.int .i64 (j : Int)) := hcell k (j : Int) (by rw [natI, List.getElem?_map, hj]; rfl)
    obtain ⟨v, hkv, hwk2, hat2⟩ := walkW_step (a := ai) (b := bi) hj hat
    obtain ⟨n0, n1, n2, n3⟩ := box4 hh1
    have nf : ∀ i, wr.frozen? ⟨w.heap.size + 1, i, none⟩ = false := fun i => frozen_of_row _ _ i _ _ hh1
    have hju := kidF_some hkv
    obtain ⟨b0, o0, key, l, r, hd, g2, go, na, nc, hka, hSg, q0, q1, q2, q3, qc, qk⟩ := hf.at j hju
    subst hka
    have hv : v = ⟨key.1, key.2.1, key.2.2, l⟩ := by rw [kidF, hd] at hkv; cases hkv; rfl
    obtain ⟨un, hun⟩ : ∃ un, un = foLen u.kids := ⟨_, rfl⟩
    obtain ⟨ln, hln⟩ : ∃ ln, ln = foLen l := ⟨_, rfl⟩
    rw [← hun] at n3
    rw [← hln] at q3
    have hju2 : (j : Int) < (un : Int) := by omega
    have hj0 : (0 : Int) ≤ (j : Int) := by omega
    obtain ⟨V, hV, r1, r2, r3, r4, r5, r6⟩ := four_set (u0 := .int .i64 key.1) (u1 := .int .i64 key.2.1) (u2 := .string key.2.2) (u3 := .slice na ln nc) hh1
    have hne : ∀ y, S y → y ≠ w.heap.size + 1 := fun y hy e => by have := HS.out y hy; omega
    have hIV : WhI w S (w.heap.size + 1) V.drew v := ⟨⟨r3.trans hbel.os, r4.trans hbel.tape, r5.trans hbel.output, by show w.heap.size ≤ V.heap.size; rw [r6]; exact hbel.size, fun y hy => (r2 y (by omega)).trans (hbel.block y hy)⟩, na, nc, by subst hv; rw [← hln]; exact r1, by subst hv; exact qc, by subst hv; exact FoAt.kept (w := wr) (w' := V.drew) (S := S) (S' := S) (fun y hy => ⟨hy, r2 y (hne y hy)⟩) qk⟩
    have hownV := owns_kept (w' := V.drew) hown (fun g' cur hc hg => r2 g' (by have := HI0.out.2.2.1 g' hg; omega))
    have HEND := Lib.hid (And.intro hIV (And.intro hownV (And.intro (hwk2.symm.trans hwk) (And.intro hat2 hlt))))
    have HVE := Lib.hid hV
    clear hbel hh1 hc hf hown hwk hat hj hgc hcell hkv hwk2 hat2 hd hSg qc qk hv hun hln hV r1 r2 r3 r4 r5 r6 hne hIV hownV hlt hju hh hk HI0 hgl
    go_wp2_with fail
    go_region_law (fail)
    all_goals
     rw [← HVE.out]
     go_wp2_with fail
     refine ⟨⟨k + 1, u.id, (j : Int), v, by have := HEND.out.2.2.2.2; omega, by go_num, rfl, rfl, Lib.hid ⟨HEND.out.1, HEND.out.2.1, HEND.out.2.2.1, HEND.out.2.2.2.1⟩⟩, by have := HEND.out.2.2.2.2; simp [intOf]; omega⟩
  · have hki : ¬ (k : Int) < (m : Int) := by omega
    obtain ⟨⟨hbel, ka2, kc2, hh1, hc, hf⟩, hown, hwk, hat⟩ := hh.out
    rw [List.drop_eq_nil_of_le (by have := HI0.out.2.2.2; omega)] at hwk
    obtain ⟨n0, n1, n2, n3⟩ := box4 hh1
    have nf : ∀ i, wr.frozen? ⟨w.heap.size + 1, i, none⟩ = false := fun i => frozen_of_row _ _ i _ _ hh1
    obtain ⟨un, hun⟩ : ∃ un, un = foLen u.kids := ⟨_, rfl⟩
    rw [← hun] at n3 hh1
    obtain ⟨V, hV, r1, r2, r3, r4, r5, r6⟩ := four_set (u0 := .int .i64 u.id) (u1 := .int .i64 u.kind) (u2 := .string u.text) (u3 := .slice ka2 un kc2) hh1
    have HEND : Hid (WhenC w S (walkW t 0 0 p) (.returned (.tuple #[.agg #[.int .i64 u.id, .int .i64 u.kind, .string u.text, .slice ka2 un kc2], .int .i64 ai, .int .i64 bi])) V) := Lib.hid (by
     rw [← hwk, show walkW u ai bi [] = (u, ai, bi) from rfl]
     exact ⟨_, rfl, ⟨ka2, kc2, by rw [hun], hc, hf.kept fun y hy => ⟨hy, r2 y (fun e => by have := HS.out y hy; omega)⟩⟩, ⟨r3.trans hbel.os, r4.trans hbel.tape, r5.trans hbel.output, by rw [r6]; exact hbel.size, fun y hy => (r2 y (by omega)).trans (hbel.block y hy)⟩⟩)
    have HR := Lib.hid r1
    have HVE := Lib.hid hV
    clear hbel hh1 hc hf hown hwk hat hlt hk hh hun HI0 hV r1 r2 r3 r4 r5 r6
    go_wp2_with fail
    rw [← HVE.out]
    refine bodyPost_ret (results_cell3 rfl _ _ (w.heap.size + 1) 24 _ (0, 0) _ (.int .i64 ai) (.int .i64 bi) rfl HR.out Try.underlying24 rfl (by kernel_rfl) rfl rfl) rfl ?_
    exact HEND.out
end Go.Proofs.Ytonapijgfalpaaa
