/-
  .
-/
import Derived.Test.YtonapijgfalpaaaKTakeAQw
import Derived.Test.YtonapijgfalpaaaKPathQw
import Derived.Test.YtonapijgfalpaaaKAlong1Qw
import Derived.Deep.Cut
set_option linter.unusedVariables false
set_option linter.unusedSimpArgs false
namespace Go.Proofs.Ytonapijgfalpaaa
open Go.RowKit Go.Shelf
theorem atT_last : ∀ (q : List Nat) (i : Nat) (t v : Tr), atT t (q ++ [i]) = some v → ∃ u, atT t q = some u ∧ kidF u.kids i = some v
 | [], i, t, v, h => by
   rw [List.nil_append, atT] at h
   cases hk : kidF t.kids i with
   | none => rw [hk] at h; cases h
   | some x => rw [hk] at h; exact ⟨t, rfl, by rw [hk]; simpa [atT] using h⟩
 | j :: q, i, t, v, h => by
   rw [List.cons_append, atT] at h
   cases hk : kidF t.kids j with
   | none => rw [hk] at h; cases h
   | some x =>
     rw [hk] at h
     obtain ⟨u, h1, h2⟩ := atT_last q i x v h
     exact ⟨u, by rw [atT, hk]; exact h1, h2⟩
def moveK (id par at_ : Int) (t : Tr) : Tr × Int := match pathT id t, pathT par t with
 | some p, some _ => if p = [] then (zeroK, 90) else if withinT id par t = true then (zeroK, 91) else putK par at_ (takeK t p.dropLast (p.getLastD 0)).1 (takeK t p.dropLast (p.getLastD 0)).2
 | _, _ => (zeroK, 4)
theorem moveK_id {id par at_ : Int} {t : Tr} (h : pathT id t = none) : moveK id par at_ t = (zeroK, 4) := by unfold moveK; rw [h]
theorem moveK_par {id par at_ : Int} {t : Tr} (h : pathT par t = none) : moveK id par at_ t = (zeroK, 4) := by unfold moveK; rw [h]; cases pathT id t <;> rfl
theorem moveK_root {id par at_ : Int} {t : Tr} {q : List Nat} (h : pathT id t = some []) (h2 : pathT par t = some q) : moveK id par at_ t = (zeroK, 90) := by unfold moveK; rw [h, h2]; rfl
theorem moveK_loop {id par at_ : Int} {t : Tr} {p q : List Nat} (h : pathT id t = some p) (h2 : pathT par t = some q) (hp : p ≠ []) (hw : withinT id par t = true) : moveK id par at_ t = (zeroK, 91) := by unfold moveK; rw [h, h2]; simp only; rw [if_neg hp, if_pos hw]
theorem moveK_go {id par at_ : Int} {t u v : Tr} {p q : List Nat} {i : Nat} (h : pathT id t = some (p ++ [i])) (h2 : pathT par t = some q) (hw : withinT id par t = false) (hu : atT t p = some u) (hv : kidF u.kids i = some v) : moveK id par at_ t = putK par at_ (putP t p ⟨u.id, u.kind, u.text, delF u.kids i⟩) v := by
 have ht : takeK t p i = (putP t p ⟨u.id, u.kind, u.text, delF u.kids i⟩, v) := by unfold takeK; rw [hu]; simp only; rw [hv]
 have hd : (p ++ [i]).dropLast = p := by simp
 have hl : (p ++ [i]).getLastD 0 = i := by simp [List.getLastD_eq_getLast?]
 unfold moveK; rw [h, h2]; simp only
 rw [if_neg (by simp), if_neg (by rw [hw]; exact Bool.false_ne_true), hd, hl, ht]
set_option maxRecDepth 100000 in
set_option maxHeartbeats 8000000 in
theorem move_any (w : World) (S : Nat → Prop) (nv : Value) (t : Tr) (op id par at_ s1 s2 : Int) (tx s3 : ByteArray) (sa : Option Addr) (sn sc : Nat) (hS : ∀ y, S y → y < w.heap.size) (ht : TrAt w S nv t) (hsz : foSize t.kids ≤ 300000) :
 Calls Try.prog 161 #[nv, .agg #[.int .i8 op, .int .i64 id, .int .i64 par, .int .i64 at_, .string tx, .int .i64 s1, .int .i64 s2, .string s3, .slice sa sn sc]] w (StepC w S (moveK id par at_ t)) := by
 obtain ⟨ka, tc, rfl, hcap, hk⟩ := ht
 obtain ⟨nk, hnk⟩ : ∃ nk, nk = foLen t.kids := ⟨_, rfl⟩
 rw [← hnk]
 obtain ⟨B, hB⟩ : ∃ B, B = allocs w [.cells #[.int .i64 t.id, .int .i64 t.kind, .string t.text, .slice ka nk tc] 24, .cells #[.int .i8 op, .int .i64 id, .int .i64 par, .int .i64 at_, .string tx, .int .i64 s1, .int .i64 s2, .string s3, .slice sa sn sc] 47, .cells #[.int .i64 0, .int .i64 0, .string ⟨#[]⟩, .slice none 0 0] 24] := ⟨_, rfl⟩
 have hb : Below w.heap.size w B := by rw [hB]; exact allocs_below _ _
 have hs : B.heap.size = w.heap.size + 3 := by rw [hB]; exact allocs_size _ _
 have ht0 : B.heap[w.heap.size]? = some (.cells #[.int .i64 t.id, .int .i64 t.kind, .string t.text, .slice ka nk tc] 24 (0, 0)) := by rw [hB]; exact allocs_at _ _ 0 _ rfl
 have hs0 : B.heap[w.heap.size + 1]? = some (.cells #[.int .i8 op, .int .i64 id, .int .i64 par, .int .i64 at_, .string tx, .int .i64 s1, .int .i64 s2, .string s3, .slice sa sn sc] 47 (0, 0)) := by rw [hB]; exact allocs_at _ _ 1 _ rfl
 have hr0 : B.heap[w.heap.size + 1 + 1]? = some (.cells #[.int .i64 0, .int .i64 0, .string ⟨#[]⟩, .slice none 0 0] 24 (0, 0)) := by rw [hB]; exact allocs_at _ _ 2 _ rfl
 have htr : ∀ X, Below B.heap.size B X → TrAt X S (.agg #[.int .i64 t.id, .int .i64 t.kind, .string t.text, .slice ka nk tc]) t := fun X hX => ⟨ka, tc, by rw [hnk], by rw [hnk] at *; exact hcap, hk.below (hb.trans (hX.mono hb.size)) hS⟩
 have hSX : ∀ X, Below B.heap.size B X → ∀ y, S y → y < X.heap.size := fun X hX y hy => Nat.lt_of_lt_of_le (hS y hy) (Nat.le_trans hb.size hX.size)
 have hpath : ∀ (i : Int) (X : World), Below B.heap.size B X → Calls Try.prog 67 #[.agg #[.int .i64 t.id, .int .i64 t.kind, .string t.text, .slice ka nk tc], .int .i64 i] X (PathC X (pathT i t)) := fun i X hX => path_any X S _ t i (hSX X hX) (htr X hX) (by omega)
 have hwith : ∀ (X : World), Below B.heap.size B X → Calls Try.prog 65 #[.agg #[.int .i64 t.id, .int .i64 t.kind, .string t.text, .slice ka nk tc], .int .i64 id, .int .i64 par] X _ := fun X hX => within_any X S _ t id par (hSX X hX) (htr X hX) (by omega)
 have hcell : ∀ X, Below B.heap.size B X → (X.cell? ⟨w.heap.size, 0, none⟩ = some (.int .i64 t.id) ∧ X.cell? ⟨w.heap.size, 1, none⟩ = some (.int .i64 t.kind) ∧ X.cell? ⟨w.heap.size, 2, none⟩ = some (.string t.text) ∧ X.cell? ⟨w.heap.size, 3, none⟩ = some (.slice ka nk tc)) ∧ X.cell? ⟨w.heap.size + 1, 1, none⟩ = some (.int .i64 id) ∧ X.cell? ⟨w.heap.size + 1, 2, none⟩ = some (.int .i64 par) ∧ X.cell? ⟨w.heap.size + 1, 3, none⟩ = some (.int .i64 at_) := fun X hX => by
  have e0 := (hX.block _ (lt_of_heap ht0)).trans ht0
  have e1 := (hX.block _ (lt_of_heap hs0)).trans hs0
  exact ⟨box4 e0, by rw [cell_of_row _ _ 1 _ _ _ e1]; rfl, by rw [cell_of_row _ _ 2 _ _ _ e1]; rfl, by rw [cell_of_row _ _ 3 _ _ _ e1]; rfl⟩
 obtain ⟨pr, hpr⟩ : ∃ pr, pr = moveK id par at_ t := ⟨_, rfl⟩
 rw [← hpr]
 have HP := Lib.hid hpath
 have HWI := Lib.hid hwith
 have HCE := Lib.hid hcell
 have HTR := Lib.hid (And.intro htr hSX)
 have HB := Lib.hid (And.intro hb (And.intro hs hr0))
 have HSZ := Lib.hid hsz
 have HBE := Lib.hid hB
 have HSW := Lib.hid hS
 have HPR := Lib.hid hpr
 clear hpath hwith hcell htr hSX hb hs ht0 hs0 hr0 hS hk hcap hsz hnk hB hpr
 go_enter Try.func161, Try.ntmps161
 go_wp2_with fail
 change Calls _ _ _ (allocs w [.cells #[.int .i64 t.id, .int .i64 t.kind, .string t.text, .slice ka nk tc] 24, .cells #[.int .i8 op, .int .i64 id, .int .i64 par, .int .i64 at_, .string tx, .int .i64 s1, .int .i64 s2, .string s3, .slice sa sn sc] 47, .cells #[.int .i64 0, .int .i64 0, .string ⟨#[]⟩, .slice none 0 0] 24]) _
 rw [← HBE.out]
 refine (HP.out id B (Below.refl _ _)).mono ?_
 rintro e W1 ⟨pv, rfl, hown, hb1⟩
 obtain ⟨⟨n0, n1, n2, n3⟩, m1, m2, m3⟩ := HCE.out W1 hb1
 have H1 := Lib.hid (And.intro hown hb1)
 clear hown hb1
 go_wp2_with fail
 refine (HP.out par W1 H1.out.2).mono ?_
 rintro e W2 ⟨pv2, rfl, _, hb12⟩
 have hb2 : Below B.heap.size B W2 := H1.out.2.trans (hb12.mono H1.out.2.size)
 have hown : W2.ownsRow B.heap.size 3 1 pv _ _ := owns_kept (w' := W2) H1.out.1 (fun g cur hg _ => hb12.block g (lt_of_heap hg))
 clear n0 n1 n2 n3 m1 m2 m3 hb12 H1
 cases hpi : pathT id t with
 | none =>
   clear hown
   cases hpp : pathT par t with
   | none =>
     simp only [Option.isSome_none]
     have hE : pr = (zeroK, 4) := by rw [HPR.out, moveK_id hpi]
     have hr3 := (hb2.block _ (lt_of_heap HB.out.2.2)).trans HB.out.2.2
     have hbz : Below w.heap.size w W2 := HB.out.1.trans (hb2.mono HB.out.1.size)
     obtain ⟨z0, z1, z2, z3⟩ := box4 hr3
     have zf : ∀ j, W2.frozen? ⟨w.heap.size + 1 + 1, j, none⟩ = false := fun j => frozen_of_row _ _ j _ _ hr3
     obtain ⟨V, hV, r1, r2, r3, r4, r5, r6⟩ := four_set (u0 := .int .i64 0) (u1 := .int .i64 0) (u2 := .string ⟨#[]⟩) (u3 := .slice none 0 0) hr3
     have HE := Lib.hid (And.intro hE (And.intro hbz (And.intro hr3 (And.intro hV (And.intro r1 (And.intro r2 (And.intro r3 (And.intro r4 (And.intro r5 r6)))))))))
     clear hE hbz hr3 hV r1 r2 r3 r4 r5 r6
     go_wp2_with fail
     rw [← HE.out.2.2.2.1]
     obtain ⟨hE, hbz, hr3, hV, r1, r2, r3, r4, r5, r6⟩ := HE.out
     exact step_end (p := 4) (u := 5) rfl rfl (g := w.heap.size + 1 + 1) (y := zeroK) (m := 0) (kb := none) (kc := 0) ⟨r3.trans hbz.os, r4.trans hbz.tape, r5.trans hbz.output, by rw [r6]; exact hbz.size, fun k hk => (r2 k (by omega)).trans (hbz.block k hk)⟩ (by omega) ⟨_, _, r1, rfl⟩ rfl (Nat.le_refl _) True.intro (by rw [hE]) rfl (by rw [hE]; rfl)
   | some q =>
     simp only [Option.isSome_none, Option.isSome_some]
     have hE : pr = (zeroK, 4) := by rw [HPR.out, moveK_id hpi]
     have hr3 := (hb2.block _ (lt_of_heap HB.out.2.2)).trans HB.out.2.2
     have hbz : Below w.heap.size w W2 := HB.out.1.trans (hb2.mono HB.out.1.size)
     obtain ⟨z0, z1, z2, z3⟩ := box4 hr3
     have zf : ∀ j, W2.frozen? ⟨w.heap.size + 1 + 1, j, none⟩ = false := fun j => frozen_of_row _ _ j _ _ hr3
     obtain ⟨V, hV, r1, r2, r3, r4, r5, r6⟩ := four_set (u0 := .int .i64 0) (u1 := .int .i64 0) (u2 := .string ⟨#[]⟩) (u3 := .slice none 0 0) hr3
     have HE := Lib.hid (And.intro hE (And.intro hbz (And.intro hr3 (And.intro hV (And.intro r1 (And.intro r2 (And.intro r3 (And.intro r4 (And.intro r5 r6)))))))))
     clear hE hbz hr3 hV r1 r2 r3 r4 r5 r6
     go_wp2_with fail
     rw [← HE.out.2.2.2.1]
     obtain ⟨hE, hbz, hr3, hV, r1, r2, r3, r4, r5, r6⟩ := HE.out
     exact step_end (p := 4) (u := 5) rfl rfl (g := w.heap.size + 1 + 1) (y := zeroK) (m := 0) (kb := none) (kc := 0) ⟨r3.trans hbz.os, r4.trans hbz.tape, r5.trans hbz.output, by rw [r6]; exact hbz.size, fun k hk => (r2 k (by omega)).trans (hbz.block k hk)⟩ (by omega) ⟨_, _, r1, rfl⟩ rfl (Nat.le_refl _) True.intro (by rw [hE]) rfl (by rw [hE]; rfl)
 | some p =>
   cases hpp : pathT par t with
   | none =>
     clear hown
     simp only [Option.isSome_none, Option.isSome_some]
     have hE : pr = (zeroK, 4) := by rw [HPR.out, moveK_par hpp]
     have hr3 := (hb2.block _ (lt_of_heap HB.out.2.2)).trans HB.out.2.2
     have hbz : Below w.heap.size w W2 := HB.out.1.trans (hb2.mono HB.out.1.size)
     obtain ⟨z0, z1, z2, z3⟩ := box4 hr3
     have zf : ∀ j, W2.frozen? ⟨w.heap.size + 1 + 1, j, none⟩ = false := fun j => frozen_of_row _ _ j _ _ hr3
     obtain ⟨V, hV, r1, r2, r3, r4, r5, r6⟩ := four_set (u0 := .int .i64 0) (u1 := .int .i64 0) (u2 := .string ⟨#[]⟩) (u3 := .slice none 0 0) hr3
     have HE := Lib.hid (And.intro hE (And.intro hbz (And.intro hr3 (And.intro hV (And.intro r1 (And.intro r2 (And.intro r3 (And.intro r4 (And.intro r5 r6)))))))))
     clear hE hbz hr3 hV r1 r2 r3 r4 r5 r6
     go_wp2_with fail
     rw [← HE.out.2.2.2.1]
     obtain ⟨hE, hbz, hr3, hV, r1, r2, r3, r4, r5, r6⟩ := HE.out
     exact step_end (p := 4) (u := 5) rfl rfl (g := w.heap.size + 1 + 1) (y := zeroK) (m := 0) (kb := none) (kc := 0) ⟨r3.trans hbz.os, r4.trans hbz.tape, r5.trans hbz.output, by rw [r6]; exact hbz.size, fun k hk => (r2 k (by omega)).trans (hbz.block k hk)⟩ (by omega) ⟨_, _, r1, rfl⟩ rfl (Nat.le_refl _) True.intro (by rw [hE]) rfl (by rw [hE]; rfl)
   | some q =>
     rw [hpi] at hown
     simp only [Option.getD_some] at hown
     obtain ⟨pa, pc, rfl⟩ := owns_slice hown
     obtain ⟨m, hm⟩ : ∃ m, m = (natI p).length := ⟨_, rfl⟩
     rw [← hm] at hown ⊢
     have hpl : m = p.length := by rw [hm, natI_length]
     simp only [Option.isSome_some]
     by_cases hp0 : p = []
     · have hm0 : m = 0 := by rw [hpl, hp0]; rfl
       subst hm0
       have hE0 : pr = (zeroK, 90) := by rw [HPR.out, moveK_root (by rw [hpi, hp0]) hpp]
       clear hown hm hpl hp0 hpi hpp
       have hE : pr = (zeroK, 90) := hE0
       have hr3 := (hb2.block _ (lt_of_heap HB.out.2.2)).trans HB.out.2.2
       have hbz : Below w.heap.size w W2 := HB.out.1.trans (hb2.mono HB.out.1.size)
       obtain ⟨z0, z1, z2, z3⟩ := box4 hr3
       have zf : ∀ j, W2.frozen? ⟨w.heap.size + 1 + 1, j, none⟩ = false := fun j => frozen_of_row _ _ j _ _ hr3
       obtain ⟨V, hV, r1, r2, r3, r4, r5, r6⟩ := four_set (u0 := .int .i64 0) (u1 := .int .i64 0) (u2 := .string ⟨#[]⟩) (u3 := .slice none 0 0) hr3
       have HE := Lib.hid (And.intro hE (And.intro hbz (And.intro hr3 (And.intro hV (And.intro r1 (And.intro r2 (And.intro r3 (And.intro r4 (And.intro r5 r6)))))))))
       clear hE hbz hr3 hV r1 r2 r3 r4 r5 r6
       go_wp2_with fail
       rw [← HE.out.2.2.2.1]
       obtain ⟨hE, hbz, hr3, hV, r1, r2, r3, r4, r5, r6⟩ := HE.out
       exact step_end (p := 4) (u := 5) rfl rfl (g := w.heap.size + 1 + 1) (y := zeroK) (m := 0) (kb := none) (kc := 0) ⟨r3.trans hbz.os, r4.trans hbz.tape, r5.trans hbz.output, by rw [r6]; exact hbz.size, fun k hk => (r2 k (by omega)).trans (hbz.block k hk)⟩ (by omega) ⟨_, _, r1, rfl⟩ rfl (Nat.le_refl _) True.intro (by rw [hE]) rfl (by rw [hE]; rfl)
     · obtain ⟨p', i, rfl⟩ : ∃ p' i, p = p' ++ [i] := ⟨p.dropLast, p.getLast hp0, (List.dropLast_concat_getLast hp0).symm⟩
       have hm1 : (m : Int) ≠ 0 := by rw [hpl]; simp; omega
       obtain ⟨v, hv0, hvid⟩ := pathT_at id t _ hpi
       obtain ⟨u, hu, hv⟩ := atT_last p' i t v hv0
       obtain ⟨⟨n0, n1, n2, n3⟩, m1, m2, m3⟩ := HCE.out W2 hb2
       have HQ := Lib.hid (And.intro hown (And.intro hm (And.intro hpl (And.intro hpi (And.intro hpp (And.intro hu (And.intro hv hb2)))))))
       clear hown hm hpl hp0 hpi hpp hv0 hu hv hvid
       go_wp2_with fail
       refine (HWI.out W2 hb2).mono ?_
       rintro e W3 ⟨rfl, hb23⟩
       have hb3 : Below B.heap.size B W3 := hb2.trans (hb23.mono hb2.size)
       clear n0 n1 n2 n3 m1 m2 m3
       obtain ⟨hown, hm, hpl, hpi, hpp, hu, hv, _⟩ := HQ.out
       cases hwi : withinT id par t with
       | true =>
         have hE0 : pr = (zeroK, 91) := by rw [HPR.out, moveK_loop hpi hpp (by simp) hwi]
         clear hown hm hpl hpi hpp hu hv hwi HQ hb23 hb2
         have hE : pr = (zeroK, 91) := hE0
         have hr3 := (hb3.block _ (lt_of_heap HB.out.2.2)).trans HB.out.2.2
         have hbz : Below w.heap.size w W3 := HB.out.1.trans (hb3.mono HB.out.1.size)
         obtain ⟨z0, z1, z2, z3⟩ := box4 hr3
         have zf : ∀ j, W3.frozen? ⟨w.heap.size + 1 + 1, j, none⟩ = false := fun j => frozen_of_row _ _ j _ _ hr3
         obtain ⟨V, hV, r1, r2, r3, r4, r5, r6⟩ := four_set (u0 := .int .i64 0) (u1 := .int .i64 0) (u2 := .string ⟨#[]⟩) (u3 := .slice none 0 0) hr3
         have HE := Lib.hid (And.intro hE (And.intro hbz (And.intro hr3 (And.intro hV (And.intro r1 (And.intro r2 (And.intro r3 (And.intro r4 (And.intro r5 r6)))))))))
         clear hE hbz hr3 hV r1 r2 r3 r4 r5 r6
         go_wp2_with fail
         rw [← HE.out.2.2.2.1]
         obtain ⟨hE, hbz, hr3, hV, r1, r2, r3, r4, r5, r6⟩ := HE.out
         exact step_end (p := 4) (u := 5) rfl rfl (g := w.heap.size + 1 + 1) (y := zeroK) (m := 0) (kb := none) (kc := 0) ⟨r3.trans hbz.os, r4.trans hbz.tape, r5.trans hbz.output, by rw [r6]; exact hbz.size, fun k hk => (r2 k (by omega)).trans (hbz.block k hk)⟩ (by omega) ⟨_, _, r1, rfl⟩ rfl (Nat.le_refl _) True.intro (by rw [hE]) rfl (by rw [hE]; rfl)
       | false =>
         have hE := moveK_go (at_ := at_) hpi hpp hwi hu hv
         rw [← HPR.out] at hE
         have hown3 := owns_kept (w' := W3) hown (fun g cur hg _ => hb23.block g (lt_of_heap hg))
         have htk := take_any W3 S (.agg #[.int .i64 t.id, .int .i64 t.kind, .string t.text, .slice ka nk tc]) t u v p' i pa m pc (HTR.out.2 W3 hb3) (HTR.out.1 W3 hb3) HSZ.out hu hv (by rw [hpl, List.length_append]; rfl) ((intsL_own (l := natI (p' ++ [i])) hown3).1.kept fun y hy => ⟨hy.2, rfl⟩)
         have hts := takeK_size t p' i
         rw [show takeK t p' i = (putP t p' ⟨u.id, u.kind, u.text, delF u.kids i⟩, v) by unfold takeK; rw [hu]; simp only; rw [hv]] at hts
         simp only at hts
         obtain ⟨y, hy⟩ : ∃ y, y = putP t p' ⟨u.id, u.kind, u.text, delF u.kids i⟩ := ⟨_, rfl⟩
         rw [← hy] at htk hE hts
         obtain ⟨⟨n0, n1, n2, n3⟩, m1, m2, m3⟩ := HCE.out W3 hb3
         have HTK := Lib.hid htk
         have HG := Lib.hid (And.intro hE (And.intro hts hb3))
         clear htk hown3 hown hm hpl hpi hpp hu hv hwi hb23 hb2 hE hts hb3 hy HQ
         go_wp2_with fail
         refine HTK.out.mono ?_
         rintro e X ⟨_, _, rfl, ⟨kb, kc, rfl, hkc, hkk⟩, ⟨va, vc, rfl, hvc, hvk⟩, hbx⟩
         obtain ⟨yn, hyn⟩ : ∃ yn, yn = foLen y.kids := ⟨_, rfl⟩
         obtain ⟨vn, hvn⟩ : ∃ vn, vn = foLen v.kids := ⟨_, rfl⟩
         rw [← hyn, ← hvn]
         have hbX : Below B.heap.size B X := HG.out.2.2.trans (hbx.mono HG.out.2.2.size)
         obtain ⟨X2, hX2⟩ : ∃ X2, X2 = allocs X [.cells #[.int .i64 y.id, .int .i64 y.kind, .string y.text, .slice kb yn kc] 24, .cells #[.int .i64 v.id, .int .i64 v.kind, .string v.text, .slice va vn vc] 24] := ⟨_, rfl⟩
         have hb2 : Below X.heap.size X X2 := by rw [hX2]; exact allocs_below _ _
         have hX2s : X2.heap.size = X.heap.size + 2 := by rw [hX2]; exact allocs_size _ _
         have hbX2 : Below B.heap.size B X2 := hbX.trans (hb2.mono hbX.size)
         have hSXX : ∀ z, (S z ∨ W3.heap.size ≤ z ∧ z < X.heap.size) → z < X.heap.size := fun z hz => hz.elim (fun h => HTR.out.2 X hbX z h) (fun h => h.2)
         have hSX2 : ∀ z, (S z ∨ W3.heap.size ≤ z ∧ z < X.heap.size) → z < X2.heap.size := fun z hz => Nat.lt_of_lt_of_le (hSXX z hz) hb2.size
         have hput := put_any X2 (fun z => S z ∨ W3.heap.size ≤ z ∧ z < X.heap.size) (fun z => S z ∨ W3.heap.size ≤ z ∧ z < X.heap.size) (.agg #[.int .i64 y.id, .int .i64 y.kind, .string y.text, .slice kb yn kc]) (.agg #[.int .i64 v.id, .int .i64 v.kind, .string v.text, .slice va vn vc]) y v par at_ hSX2 hSX2 ⟨kb, kc, by rw [hyn], hkc, hkk.kept fun z hz => ⟨hz, hb2.block z (hSXX z hz)⟩⟩ ⟨va, vc, by rw [hvn], hvc, hvk.kept fun z hz => ⟨hz, hb2.block z (hSXX z hz)⟩⟩ (by have := HG.out.2.1; have := HSZ.out; omega)
         have hyX : X2.heap[X.heap.size]? = some (.cells #[.int .i64 y.id, .int .i64 y.kind, .string y.text, .slice kb yn kc] 24 (0, 0)) := by rw [hX2]; exact allocs_at _ _ 0 _ rfl
         have hvX : X2.heap[X.heap.size + 1]? = some (.cells #[.int .i64 v.id, .int .i64 v.kind, .string v.text, .slice va vn vc] 24 (0, 0)) := by rw [hX2]; exact allocs_at _ _ 1 _ rfl
         obtain ⟨y0, y1, y2, y3⟩ := box4 hyX
         obtain ⟨v0, v1, v2, v3⟩ := box4 hvX
         obtain ⟨⟨n0, n1, n2, n3⟩, m1, m2, m3⟩ := HCE.out X hbX
         obtain ⟨⟨p0, p1, p2, p3⟩, q1, q2, q3⟩ := HCE.out X2 hbX2
         have HPUT := Lib.hid (And.intro hput hbX2)
         have HX2 := Lib.hid hX2
         have HX2S := Lib.hid (And.intro hX2s hbx.size)
         clear hSXX hSX2 hput hX2 hb2 hX2s hkc hkk hvc hvk hyn hvn hbx hyX hvX
         go_upto_region 10 with fail
         change Code.wp _ _ _ _ (allocs X [.cells #[.int .i64 y.id, .int .i64 y.kind, .string y.text, .slice kb yn kc] 24, .cells #[.int .i64 v.id, .int .i64 v.kind, .string v.text, .slice va vn vc] 24])
         rw [← HX2.out]
         clear n0 n1 n2 n3 m1 m2 m3
         go_wp2_with fail
         refine HPUT.out.1.mono ?_
         rintro e X3 ⟨_, rfl, ⟨ob, oc, rfl, hoc, hok⟩, hb3⟩
         obtain ⟨on, hon⟩ : ∃ on, on = foLen pr.1.kids := ⟨_, rfl⟩
         rw [← HG.out.1] at hoc hok ⊢
         rw [← hon] at hoc ⊢
         have hbX3 : Below B.heap.size B X3 := HPUT.out.2.trans (hb3.mono HPUT.out.2.size)
         have hr3 := (hbX3.block _ (lt_of_heap HB.out.2.2)).trans HB.out.2.2
         have hbz : Below w.heap.size w X3 := HB.out.1.trans (hbX3.mono HB.out.1.size)
         obtain ⟨z0, z1, z2, z3⟩ := box4 hr3
         have zf : ∀ j, X3.frozen? ⟨w.heap.size + 1 + 1, j, none⟩ = false := fun j => frozen_of_row _ _ j _ _ hr3
         obtain ⟨V, hV, r1, r2, r3, r4, r5, r6⟩ := four_set (u0 := .int .i64 pr.1.id) (u1 := .int .i64 pr.1.kind) (u2 := .string pr.1.text) (u3 := .slice ob on oc) hr3
         have hBw := HB.out.2.1
         have h3B := HG.out.2.2.size
         have h2X := HX2S.out
         have hokV : FoAt V (fun z => S z ∨ w.heap.size ≤ z ∧ z < V.heap.size) pr.1.kids ob := hok.kept fun z hz => by
          have hz2 : S z ∨ w.heap.size ≤ z ∧ z < V.heap.size ∧ z ≠ w.heap.size + 1 + 1 := by
           rcases hz with (hz | hz) | hz
           · rcases hz with hz | hz
             · exact Or.inl hz
             · exact Or.inr ⟨by omega, by have := hb3.size; omega, by omega⟩
           · rcases hz with hz | hz
             · exact Or.inl hz
             · exact Or.inr ⟨by omega, by have := hb3.size; omega, by omega⟩
           · exact Or.inr ⟨by omega, by omega, by omega⟩
          exact ⟨hz2.imp (fun h => h) (fun h => ⟨h.1, h.2.1⟩), r2 z (by rcases hz2 with h | h; have := HTR.out.2 B (Below.refl _ _) z h; have := HSW.out z h; omega; omega)⟩
         have HE := Lib.hid (And.intro hbz (And.intro hr3 (And.intro hV (And.intro r1 (And.intro r2 (And.intro r3 (And.intro r4 (And.intro r5 (And.intro r6 (And.intro hokV (And.intro hoc hon)))))))))))
         clear hbX3 hb3 hbz hr3 hV r1 r2 r3 r4 r5 r6 hokV hoc hon hok y0 y1 y2 y3 v0 v1 v2 v3 p0 p1 p2 p3 q1 q2 q3
         go_wp2_with fail
         rw [← HE.out.2.2.1]
         obtain ⟨hbz, hr3, hV, r1, r2, r3, r4, r5, r6, hokV, hoc, hon⟩ := HE.out
         exact step_end (p := 4) (u := 5) rfl rfl (g := w.heap.size + 1 + 1) (y := pr.1) (m := on) (kb := ob) (kc := oc) ⟨r3.trans hbz.os, r4.trans hbz.tape, r5.trans hbz.output, by rw [r6]; exact hbz.size, fun k hk => (r2 k (by omega)).trans (hbz.block k hk)⟩ (by omega) ⟨_, _, r1, rfl⟩ hon (by rw [← hon]; exact hoc) hokV rfl rfl rfl
set_option maxRecDepth 100000 in
set_option maxHeartbeats 2000000 in
theorem chg_write (w : World) (S : Nat → Prop) (hS : ∀ y, S y → y < w.heap.size) (u : Tr) (sb : Nat) (tx : ByteArray) (hsl : sb < w.heap.size) (hc : w.cell? ⟨sb, 4, none⟩ = some (.string tx)) : ∀ W, Below w.heap.size w W → W.heap.size = w.heap.size + 4 → Chg1 Try.prog W w.heap.size (fun _ => False) S S u 189 (.pointer (some ⟨sb, 0, none⟩)) ⟨u.id, u.kind, tx, u.kids⟩ (fun _ => True) := fun W hb hs => by
 refine ⟨fun _ _ => rfl, fun X X1 b off sv xs hH k hlt hbl => ?_⟩
 obtain ⟨a, c, rfl⟩ := owns_slice k.own
 have hst : X1.cell? ⟨sb, 4, none⟩ = some (.string tx) := (World.cell?_of_block (a := ⟨sb, 4, none⟩) ((k.h.kept sb (by omega) (by omega) (fun h => h)).trans (hb.block sb hsl))).trans hc
 have c2 := k.c2
 have fz := k.fz
 have HK := Lib.hid (And.intro k (And.intro hH (And.intro hlt hbl)))
 clear k hH hlt hbl hc hsl hb
 go_enter Try.func189, Try.ntmps189
 go_wp2_with fail
 go_end0
 obtain ⟨k, hH, hlt, hbl⟩ := HK.out
 obtain ⟨X', hX'⟩ : ∃ X', X' = X1.setCell ⟨b, off + 2, none⟩ (.string tx) := ⟨_, rfl⟩
 rw [← hX']
 have hco : ∀ i, i ≠ off + 2 → X'.cell? ⟨b, i, none⟩ = X1.cell? ⟨b, i, none⟩ := fun i hi => by
  rw [hX', World.cell?_setCell_other X1 ⟨b, off + 2, none⟩ ⟨b, i, none⟩ _ (by intro e; cases e; exact hi rfl)]
 have hblk : ∀ y, y ≠ b → X'.heap[y]? = X1.heap[y]? := fun y hy => by rw [hX']; exact Below.heap_setCell _ _ _ _ hy
 have hSz := hH.size
 obtain ⟨hl, hlc⟩ := own_lies (S' := fun y => y ≠ b ∧ (S y ∨ (y = w.heap.size ∨ W.heap.size ≤ y))) k.own k.row rfl (fun y hy => ⟨by have := hS y hy; rcases hbl with h | h <;> omega, Or.inl hy⟩) (fun y hy => ⟨by omega, Or.inr (Or.inr (by omega))⟩)
 refine ⟨rfl, by rw [hX']; rfl, by rw [hX']; rfl, by rw [hX']; rfl, by rw [hX']; simp [World.setCell], fun y _ hn _ => hblk y hn, fun j hj => hco j (by omega), ⟨Or.inr hbl, ?_, ?_, ?_, a, c, ?_, hlc, hl.kept fun y hy => ⟨hy.2, hblk y hy.1⟩⟩, trivial⟩
 · rw [hco _ (by omega)]; exact k.c0
 · rw [hco _ (by omega)]; exact k.c1
 · rw [hX']; exact World.cell?_setCell_same' X1 _ _ (by rw [k.c2]; rfl)
 · rw [hco _ (by omega)]; exact k.c3
def writeK (id : Int) (tx : ByteArray) (t : Tr) : Tr × Int := match pathT id t with
 | none => (zeroK, 4)
 | some p => match atT t p with
   | none => (zeroK, 4)
   | some u => (putP t p ⟨u.id, u.kind, tx, u.kids⟩, 0)
theorem writeK_none {id : Int} {tx : ByteArray} {t : Tr} (h : pathT id t = none) : writeK id tx t = (zeroK, 4) := by unfold writeK; rw [h]
theorem writeK_go {id : Int} {tx : ByteArray} {t u : Tr} {p : List Nat} (h : pathT id t = some p) (hu : atT t p = some u) : writeK id tx t = (putP t p ⟨u.id, u.kind, tx, u.kids⟩, 0) := by
 unfold writeK; rw [h]; simp only; rw [hu]
set_option maxRecDepth 100000 in
set_option maxHeartbeats 8000000 in
theorem write_any (w : World) (S : Nat → Prop) (nv : Value) (t : Tr) (op id par at_ s1 s2 : Int) (tx s3 : ByteArray) (sa : Option Addr) (sn sc : Nat) (hS : ∀ y, S y → y < w.heap.size) (ht : TrAt w S nv t) (hsz : foSize t.kids ≤ 100000) :
 Calls Try.prog 162 #[nv, .agg #[.int .i8 op, .int .i64 id, .int .i64 par, .int .i64 at_, .string tx, .int .i64 s1, .int .i64 s2, .string s3, .slice sa sn sc]] w (StepC w S (writeK id tx t)) := by
 obtain ⟨ka, tc, rfl, hcap, hk⟩ := ht
 obtain ⟨nk, hnk⟩ : ∃ nk, nk = foLen t.kids := ⟨_, rfl⟩
 rw [← hnk]
 obtain ⟨B, hB⟩ : ∃ B, B = allocs w [.cells #[.int .i64 t.id, .int .i64 t.kind, .string t.text, .slice ka nk tc] 24, .cells #[.int .i8 op, .int .i64 id, .int .i64 par, .int .i64 at_, .string tx, .int .i64 s1, .int .i64 s2, .string s3, .slice sa sn sc] 47, .cells #[.int .i64 0, .int .i64 0, .string ⟨#[]⟩, .slice none 0 0] 24] := ⟨_, rfl⟩
 have hb : Below w.heap.size w B := by rw [hB]; exact allocs_below _ _
 have hs : B.heap.size = w.heap.size + 3 := by rw [hB]; exact allocs_size _ _
 have ht0 : B.heap[w.heap.size]? = some (.cells #[.int .i64 t.id, .int .i64 t.kind, .string t.text, .slice ka nk tc] 24 (0, 0)) := by rw [hB]; exact allocs_at _ _ 0 _ rfl
 have hs0 : B.heap[w.heap.size + 1]? = some (.cells #[.int .i8 op, .int .i64 id, .int .i64 par, .int .i64 at_, .string tx, .int .i64 s1, .int .i64 s2, .string s3, .slice sa sn sc] 47 (0, 0)) := by rw [hB]; exact allocs_at _ _ 1 _ rfl
 have hr0 : B.heap[w.heap.size + 1 + 1]? = some (.cells #[.int .i64 0, .int .i64 0, .string ⟨#[]⟩, .slice none 0 0] 24 (0, 0)) := by rw [hB]; exact allocs_at _ _ 2 _ rfl
 have htr : ∀ X, Below B.heap.size B X → TrAt X S (.agg #[.int .i64 t.id, .int .i64 t.kind, .string t.text, .slice ka nk tc]) t := fun X hX => ⟨ka, tc, by rw [hnk], by rw [hnk] at *; exact hcap, hk.below (hb.trans (hX.mono hb.size)) hS⟩
 have hSX : ∀ X, Below B.heap.size B X → ∀ y, S y → y < X.heap.size := fun X hX y hy => Nat.lt_of_lt_of_le (hS y hy) (Nat.le_trans hb.size hX.size)
 have hpath : ∀ (i : Int) (X : World), Below B.heap.size B X → Calls Try.prog 67 #[.agg #[.int .i64 t.id, .int .i64 t.kind, .string t.text, .slice ka nk tc], .int .i64 i] X (PathC X (pathT i t)) := fun i X hX => path_any X S _ t i (hSX X hX) (htr X hX) (by omega)
 have hcell : ∀ X, Below B.heap.size B X → (X.cell? ⟨w.heap.size, 0, none⟩ = some (.int .i64 t.id) ∧ X.cell? ⟨w.heap.size, 1, none⟩ = some (.int .i64 t.kind) ∧ X.cell? ⟨w.heap.size, 2, none⟩ = some (.string t.text) ∧ X.cell? ⟨w.heap.size, 3, none⟩ = some (.slice ka nk tc)) ∧ X.cell? ⟨w.heap.size + 1, 1, none⟩ = some (.int .i64 id) ∧ X.cell? ⟨w.heap.size + 1, 4, none⟩ = some (.string tx) := fun X hX => by
  have e0 := (hX.block _ (lt_of_heap ht0)).trans ht0
  have e1 := (hX.block _ (lt_of_heap hs0)).trans hs0
  exact ⟨box4 e0, by rw [cell_of_row _ _ 1 _ _ _ e1]; rfl, by rw [cell_of_row _ _ 4 _ _ _ e1]; rfl⟩
 obtain ⟨pr, hpr⟩ : ∃ pr, pr = writeK id tx t := ⟨_, rfl⟩
 rw [← hpr]
 have HP := Lib.hid hpath
 have HCE := Lib.hid hcell
 have HTR := Lib.hid (And.intro htr hSX)
 have HB := Lib.hid (And.intro hb (And.intro hs hr0))
 have HSZ := Lib.hid hsz
 have HBE := Lib.hid hB
 have HSW := Lib.hid hS
 have HPR := Lib.hid hpr
 clear hpath hcell htr hSX hb hs ht0 hs0 hr0 hS hk hcap hsz hnk hB hpr
 go_enter Try.func162, Try.ntmps162
 go_wp2_with fail
 change Calls _ _ _ (allocs w [.cells #[.int .i64 t.id, .int .i64 t.kind, .string t.text, .slice ka nk tc] 24, .cells #[.int .i8 op, .int .i64 id, .int .i64 par, .int .i64 at_, .string tx, .int .i64 s1, .int .i64 s2, .string s3, .slice sa sn sc] 47, .cells #[.int .i64 0, .int .i64 0, .string ⟨#[]⟩, .slice none 0 0] 24]) _
 rw [← HBE.out]
 refine (HP.out id B (Below.refl _ _)).mono ?_
 rintro e W2 ⟨pv, rfl, hown, hb2⟩
 cases hpi : pathT id t with
 | none =>
   clear hown
   simp only [Option.isSome_none]
   have hE : pr = (zeroK, 4) := by rw [HPR.out, writeK_none hpi]
   have hr3 := (hb2.block _ (lt_of_heap HB.out.2.2)).trans HB.out.2.2
   have hbz : Below w.heap.size w W2 := HB.out.1.trans (hb2.mono HB.out.1.size)
   obtain ⟨z0, z1, z2, z3⟩ := box4 hr3
   have zf : ∀ j, W2.frozen? ⟨w.heap.size + 1 + 1, j, none⟩ = false := fun j => frozen_of_row _ _ j _ _ hr3
   obtain ⟨V, hV, r1, r2, r3, r4, r5, r6⟩ := four_set (u0 := .int .i64 0) (u1 := .int .i64 0) (u2 := .string ⟨#[]⟩) (u3 := .slice none 0 0) hr3
   have HE := Lib.hid (And.intro hE (And.intro hbz (And.intro hr3 (And.intro hV (And.intro r1 (And.intro r2 (And.intro r3 (And.intro r4 (And.intro r5 r6)))))))))
   clear hE hbz hr3 hV r1 r2 r3 r4 r5 r6
   go_wp2_with fail
   rw [← HE.out.2.2.2.1]
   obtain ⟨hE, hbz, hr3, hV, r1, r2, r3, r4, r5, r6⟩ := HE.out
   exact step_end (p := 4) (u := 5) rfl rfl (g := w.heap.size + 1 + 1) (y := zeroK) (m := 0) (kb := none) (kc := 0) ⟨r3.trans hbz.os, r4.trans hbz.tape, r5.trans hbz.output, by rw [r6]; exact hbz.size, fun k hk => (r2 k (by omega)).trans (hbz.block k hk)⟩ (by omega) ⟨_, _, r1, rfl⟩ rfl (Nat.le_refl _) True.intro (by rw [hE]) rfl (by rw [hE]; rfl)
 | some p =>
   rw [hpi] at hown
   simp only [Option.getD_some] at hown
   obtain ⟨pa, pc, rfl⟩ := owns_slice hown
   obtain ⟨m, hm⟩ : ∃ m, m = (natI p).length := ⟨_, rfl⟩
   rw [← hm] at hown ⊢
   have hpl : m = p.length := by rw [hm, natI_length]
   simp only [Option.isSome_some]
   obtain ⟨u, hu, huid⟩ := pathT_at id t _ hpi
   have hE := writeK_go (tx := tx) hpi hu
   rw [← HPR.out] at hE
   have hus := atT_size p t u hu
   have hsz := HSZ.out
   obtain ⟨⟨n0, n1, n2, n3⟩, m1, m4⟩ := HCE.out W2 hb2
   have hB2 := hb2.size
   have hBs := HB.out.2.1
   have hal := along1 W2 (E := fun _ => False) (S := S) (SS := S) (RR := fun _ => True) (.agg #[.int .i64 t.id, .int .i64 t.kind, .string t.text, .slice ka nk tc]) t u ⟨u.id, u.kind, tx, u.kids⟩ p pa m pc (fun y hy => ⟨HTR.out.2 W2 hb2 y hy, fun h => h⟩) (fun y hy => ⟨HTR.out.2 W2 hb2 y hy, fun h => h⟩) (fun _ h => h) (fun _ h => h.elim) hpl (by omega) (HTR.out.1 W2 hb2) (by omega) ((intsL_own (l := natI p) hown).1.kept fun y hy => ⟨⟨hy.2, fun h => h⟩, rfl⟩) hu
    (chg_write W2 S (HTR.out.2 W2 hb2) u (w.heap.size + 1) tx (by omega) m4) (fun _ _ _ h => h)
   obtain ⟨y, hy⟩ : ∃ y, y = putP t p ⟨u.id, u.kind, tx, u.kids⟩ := ⟨_, rfl⟩
   rw [← hy] at hal hE
   have HAL := Lib.hid hal
   have HG := Lib.hid (And.intro hE hb2)
   have hmf : ∀ (fn : Fn) (first cap : Array Value) (w : World), (Instr.makeFunc fn first cap).run Try.prog w = .ok (.func fn first cap) w := fun _ _ _ _ => rfl
   clear hal hown hm hpl hpi hu huid hE hus hsz hb2 hB2 hBs hy
   go_wp2_with fail
   refine HAL.out.mono ?_
   rintro e X ⟨_, rfl, ⟨kb, kc, rfl, hkc, hkk⟩, k1, k2, k3, k4, k5, _⟩
   obtain ⟨yn, hyn⟩ : ∃ yn, yn = foLen y.kids := ⟨_, rfl⟩
   rw [← hyn] at hkc ⊢
   have hbx : Below W2.heap.size W2 X := ⟨k1, k2, k3, k4, fun z hz => k5 z hz (fun h => h)⟩
   have hbX : Below B.heap.size B X := HG.out.2.trans (hbx.mono HG.out.2.size)
   have hr3 := (hbX.block _ (lt_of_heap HB.out.2.2)).trans HB.out.2.2
   have hbz : Below w.heap.size w X := HB.out.1.trans (hbX.mono HB.out.1.size)
   obtain ⟨z0, z1, z2, z3⟩ := box4 hr3
   have zf : ∀ j, X.frozen? ⟨w.heap.size + 1 + 1, j, none⟩ = false := fun j => frozen_of_row _ _ j _ _ hr3
   obtain ⟨V, hV, r1, r2, r3, r4, r5, r6⟩ := four_set (u0 := .int .i64 y.id) (u1 := .int .i64 y.kind) (u2 := .string y.text) (u3 := .slice kb yn kc) hr3
   have hBw := HB.out.2.1
   have hWB := HG.out.2.size
   have hok : FoAt V (fun z => S z ∨ w.heap.size ≤ z ∧ z < V.heap.size) y.kids kb := hkk.kept fun z hz => by
    have hSz := HTR.out.2 B (Below.refl _ _)
    have hz2 : (S z ∨ w.heap.size ≤ z ∧ z < V.heap.size) ∧ z ≠ w.heap.size + 1 + 1 := by
     rcases hz with hz | hz
     · have h1 := HSW.out z hz
       exact ⟨Or.inl hz, by omega⟩
     · exact ⟨Or.inr ⟨by omega, by omega⟩, by omega⟩
    exact ⟨hz2.1, r2 z hz2.2⟩
   have HE := Lib.hid (And.intro hbz (And.intro hV (And.intro r1 (And.intro r2 (And.intro r3 (And.intro r4 (And.intro r5 (And.intro r6 (And.intro hok (And.intro hkc hyn))))))))))
   clear hmf hbX hr3 hbz hV r1 r2 r3 r4 r5 r6 hBw hWB hok hkk hkc hyn hbx k1 k2 k3 k4 k5 n0 n1 n2 n3 m1 m4
   go_wp2_with fail
   rw [← HE.out.2.1]
   obtain ⟨hbz, hV, r1, r2, r3, r4, r5, r6, hok, hkc, hyn⟩ := HE.out
   exact step_end (p := 4) (u := 5) rfl rfl (g := w.heap.size + 1 + 1) (y := y) (m := yn) (kb := kb) (kc := kc) ⟨r3.trans hbz.os, r4.trans hbz.tape, r5.trans hbz.output, by rw [r6]; exact hbz.size, fun k hk => (r2 k (by omega)).trans (hbz.block k hk)⟩ (by omega) ⟨_, _, r1, rfl⟩ hyn (by rw [← hyn]; exact hkc) hok (by rw [HG.out.1]) rfl (by rw [HG.out.1]; rfl)
end Go.Proofs.Ytonapijgfalpaaa
