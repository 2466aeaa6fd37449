/-
  .
-/
import Derived.Deep.Cut
import Derived.Test.YtonapijgfalpaaaIBacksQw
import Derived.Test.YtonapijgfalpaaaKInsertQw
import Derived.Test.YtonapijgfalpaaaKWriteAQw
import Derived.Test.YtonapijgfalpaaaKApplyMQw
import Derived.Test.YtonapijgfalpaaaIWhenceQw
import Derived.Test.YtonapijgfalpaaaKApplyIQw
import Derived.Test.YtonapijgfalpaaaKApplyRQw
import Derived.Test.YtonapijgfalpaaaKApplyWQw
set_option linter.unusedVariables false
set_option linter.unusedSimpArgs false
namespace Go.Proofs.Ytonapijgfalpaaa
open Go.RowKit Go.Shelf
set_option maxRecDepth 100000 in
set_option maxHeartbeats 8000000 in
theorem plain2 (w : World) (S : Nat → Prop) (id par at_ s1 s2 : Int) (tx s3 : ByteArray) (sa : Option Addr) (sn sc : Nat) :
 Calls Try.prog 125 #[.agg #[.int .i8 2, .int .i64 id, .int .i64 par, .int .i64 at_, .string tx, .int .i64 s1, .int .i64 s2, .string s3, .slice sa sn sc]] w (BackC w S ⟨2, id, 0, 0, ⟨#[]⟩, zeroK⟩) := by
 obtain ⟨B, hB⟩ : ∃ B, B = allocs w [.cells #[.int .i8 2, .int .i64 id, .int .i64 par, .int .i64 at_, .string tx, .int .i64 s1, .int .i64 s2, .string s3, .slice sa sn sc] 47, .cells #[.int .i8 0, .int .i64 0, .int .i64 0, .int .i64 0, .string ⟨#[]⟩, .int .i64 0, .int .i64 0, .string ⟨#[]⟩, .slice none 0 0] 47] := ⟨_, rfl⟩
 have hb : Below w.heap.size w B := by rw [hB]; exact allocs_below _ _
 have hs0 : B.heap[w.heap.size]? = some (.cells #[.int .i8 2, .int .i64 id, .int .i64 par, .int .i64 at_, .string tx, .int .i64 s1, .int .i64 s2, .string s3, .slice sa sn sc] 47 (0, 0)) := by rw [hB]; exact allocs_at _ _ 0 _ rfl
 have hr0 : B.heap[w.heap.size + 1]? = some (.cells #[.int .i8 0, .int .i64 0, .int .i64 0, .int .i64 0, .string ⟨#[]⟩, .int .i64 0, .int .i64 0, .string ⟨#[]⟩, .slice none 0 0] 47 (0, 0)) := by rw [hB]; exact allocs_at _ _ 1 _ rfl
 obtain ⟨V9, hV9, v1, v2, v3, v4, v5, v6⟩ := nine_set (u0 := .int .i8 2) (u1 := .int .i64 id) (u2 := .int .i64 0) (u3 := .int .i64 0) (u4 := .string ⟨#[]⟩) (u5 := .int .i64 0) (u6 := .int .i64 0) (u7 := .string ⟨#[]⟩) (u8 := .slice none 0 0) hr0
 obtain ⟨m0, m1, m2, m3, m4, m5, m6, m7, m8⟩ := box9 hs0
 obtain ⟨z0, z1, z2, z3, z4, z5, z6, z7, z8⟩ := box9 hr0
 have zf : ∀ j, B.frozen? ⟨w.heap.size + 1, j, none⟩ = false := fun j => frozen_of_row _ _ j _ _ hr0
 have HEND : Hid (BackC w S ⟨2, id, 0, 0, ⟨#[]⟩, zeroK⟩ (.returned (.agg #[.int .i8 2, .int .i64 id, .int .i64 0, .int .i64 0, .string ⟨#[]⟩, .int .i64 0, .int .i64 0, .string ⟨#[]⟩, .slice none 0 0])) V9) := Lib.hid ⟨_, rfl, ⟨none, 0, rfl, Nat.le_refl _, True.intro⟩, ⟨v3.trans hb.os, v4.trans hb.tape, v5.trans hb.output, by rw [v6]; exact hb.size, fun y hy => (v2 y (by omega)).trans (hb.block y hy)⟩⟩
 have HV9 := Lib.hid (And.intro hV9 v1)
 have HBE := Lib.hid hB
 clear hb hs0 hr0 hB hV9 v1 v2 v3 v4 v5 v6
 go_enter Try.func125, Try.ntmps125
 go_upto_region 1 with fail
 change Code.wp _ _ _ _ (allocs w [.cells #[.int .i8 2, .int .i64 id, .int .i64 par, .int .i64 at_, .string tx, .int .i64 s1, .int .i64 s2, .string s3, .slice sa sn sc] 47, .cells #[.int .i8 0, .int .i64 0, .int .i64 0, .int .i64 0, .string ⟨#[]⟩, .int .i64 0, .int .i64 0, .string ⟨#[]⟩, .slice none 0 0] 47])
 rw [← HBE.out]
 clear HBE
 go_wp2_with fail
 rw [← HV9.out.1]
 refine bodyPost_ret (results_cellI rfl _ _ (w.heap.size + 1) 47 _ (0, 0) _ rfl HV9.out.2 Try.underlying47 rfl (by kernel_rfl)) rfl ?_
 exact HEND.out
set_option maxRecDepth 100000 in
set_option maxHeartbeats 8000000 in
theorem plain4 (w : World) (S : Nat → Prop) (id par at_ s1 s2 : Int) (tx s3 : ByteArray) (sa : Option Addr) (sn sc : Nat) :
 Calls Try.prog 125 #[.agg #[.int .i8 4, .int .i64 id, .int .i64 par, .int .i64 at_, .string tx, .int .i64 s1, .int .i64 s2, .string s3, .slice sa sn sc]] w (BackC w S ⟨4, id, 0, 0, tx, zeroK⟩) := by
 obtain ⟨B, hB⟩ : ∃ B, B = allocs w [.cells #[.int .i8 4, .int .i64 id, .int .i64 par, .int .i64 at_, .string tx, .int .i64 s1, .int .i64 s2, .string s3, .slice sa sn sc] 47, .cells #[.int .i8 0, .int .i64 0, .int .i64 0, .int .i64 0, .string ⟨#[]⟩, .int .i64 0, .int .i64 0, .string ⟨#[]⟩, .slice none 0 0] 47] := ⟨_, rfl⟩
 have hb : Below w.heap.size w B := by rw [hB]; exact allocs_below _ _
 have hs0 : B.heap[w.heap.size]? = some (.cells #[.int .i8 4, .int .i64 id, .int .i64 par, .int .i64 at_, .string tx, .int .i64 s1, .int .i64 s2, .string s3, .slice sa sn sc] 47 (0, 0)) := by rw [hB]; exact allocs_at _ _ 0 _ rfl
 have hr0 : B.heap[w.heap.size + 1]? = some (.cells #[.int .i8 0, .int .i64 0, .int .i64 0, .int .i64 0, .string ⟨#[]⟩, .int .i64 0, .int .i64 0, .string ⟨#[]⟩, .slice none 0 0] 47 (0, 0)) := by rw [hB]; exact allocs_at _ _ 1 _ rfl
 obtain ⟨V9, hV9, v1, v2, v3, v4, v5, v6⟩ := nine_set (u0 := .int .i8 4) (u1 := .int .i64 id) (u2 := .int .i64 0) (u3 := .int .i64 0) (u4 := .string tx) (u5 := .int .i64 0) (u6 := .int .i64 0) (u7 := .string ⟨#[]⟩) (u8 := .slice none 0 0) hr0
 obtain ⟨m0, m1, m2, m3, m4, m5, m6, m7, m8⟩ := box9 hs0
 obtain ⟨z0, z1, z2, z3, z4, z5, z6, z7, z8⟩ := box9 hr0
 have zf : ∀ j, B.frozen? ⟨w.heap.size + 1, j, none⟩ = false := fun j => frozen_of_row _ _ j _ _ hr0
 have HEND : Hid (BackC w S ⟨4, id, 0, 0, tx, zeroK⟩ (.returned (.agg #[.int .i8 4, .int .i64 id, .int .i64 0, .int .i64 0, .string tx, .int .i64 0, .int .i64 0, .string ⟨#[]⟩, .slice none 0 0])) V9) := Lib.hid ⟨_, rfl, ⟨none, 0, rfl, Nat.le_refl _, True.intro⟩, ⟨v3.trans hb.os, v4.trans hb.tape, v5.trans hb.output, by rw [v6]; exact hb.size, fun y hy => (v2 y (by omega)).trans (hb.block y hy)⟩⟩
 have HV9 := Lib.hid (And.intro hV9 v1)
 have HBE := Lib.hid hB
 clear hb hs0 hr0 hB hV9 v1 v2 v3 v4 v5 v6
 go_enter Try.func125, Try.ntmps125
 go_upto_region 1 with fail
 change Code.wp _ _ _ _ (allocs w [.cells #[.int .i8 4, .int .i64 id, .int .i64 par, .int .i64 at_, .string tx, .int .i64 s1, .int .i64 s2, .string s3, .slice sa sn sc] 47, .cells #[.int .i8 0, .int .i64 0, .int .i64 0, .int .i64 0, .string ⟨#[]⟩, .int .i64 0, .int .i64 0, .string ⟨#[]⟩, .slice none 0 0] 47])
 rw [← HBE.out]
 clear HBE
 go_wp2_with fail
 rw [← HV9.out.1]
 refine bodyPost_ret (results_cellI rfl _ _ (w.heap.size + 1) 47 _ (0, 0) _ rfl HV9.out.2 Try.underlying47 rfl (by kernel_rfl)) rfl ?_
 exact HEND.out
theorem moveK_size (id par at_ : Int) (t : Tr) : foSize (moveK id par at_ t).1.kids ≤ foSize t.kids + 1 := by
 unfold moveK
 split
 · split
   · simp [zeroK, foSize]
   · split
     · simp [zeroK, foSize]
     · exact Nat.le_trans (putK_size _ _ _ _) (Nat.succ_le_succ (takeK_size _ _ _))
 · simp [zeroK, foSize]
theorem applyM_any (w : World) (S Sx : Nat → Prop) (nv : Value) (t x : Tr) (id par at_ : Int) (tx : ByteArray) (sa : Option Addr) (sn sc : Nat) (hS : ∀ y, S y → y < w.heap.size) (hSx : ∀ y, Sx y → y < w.heap.size) (ht : TrAt w S nv t) (hx : TrAt w Sx (.agg #[.int .i64 x.id, .int .i64 x.kind, .string x.text, .slice sa sn sc]) x) (hsz : foSize t.kids + 1 ≤ 2000) (hxz : foSize x.kids + 1 ≤ 2000) :
 Calls Try.prog 77 #[nv, .agg #[.int .i8 3, .int .i64 id, .int .i64 par, .int .i64 at_, .string tx, .int .i64 x.id, .int .i64 x.kind, .string x.text, .slice sa sn sc]] w (ApplyC w S (moveK id par at_ t)) :=
 apply_move w S Sx S nv t x id par at_ tx sa sn sc (moveK id par at_ t) hS hSx hS ht hx hsz hxz (by have := moveK_size id par at_ t; omega) fun X hX =>
  move_any X S nv t 3 id par at_ x.id x.kind tx x.text sa sn sc (fun y hy => Nat.lt_of_lt_of_le (hS y hy) hX.size) (ht.kept fun y hy => ⟨hy, hX.block y (hS y hy)⟩) (by omega)
set_option maxRecDepth 100000 in
set_option maxHeartbeats 8000000 in
theorem apply_other (w : World) (S Sx T : Nat → Prop) (nv : Value) (t x : Tr) (op id par at_ : Int) (tx : ByteArray) (sa : Option Addr) (sn sc : Nat) (hS : ∀ y, S y → y < w.heap.size) (hSx : ∀ y, Sx y → y < w.heap.size) (ht : TrAt w S nv t) (hx : TrAt w Sx (.agg #[.int .i64 x.id, .int .i64 x.kind, .string x.text, .slice sa sn sc]) x) (hsz : foSize t.kids + 1 ≤ 2000) (hxz : foSize x.kids + 1 ≤ 2000) (hop : op < 1 ∨ 5 ≤ op) (hop8 : -128 ≤ op ∧ op ≤ 127) :
 Calls Try.prog 77 #[nv, .agg #[.int .i8 op, .int .i64 id, .int .i64 par, .int .i64 at_, .string tx, .int .i64 x.id, .int .i64 x.kind, .string x.text, .slice sa sn sc]] w (ApplyC w T (zeroK, 2)) := by
 obtain ⟨ka, tc, rfl, hcap, hk⟩ := ht
 obtain ⟨nk, hnk⟩ : ∃ nk, nk = foLen t.kids := ⟨_, rfl⟩
 rw [← hnk]
 obtain ⟨B, hB⟩ : ∃ B, B = allocs w [.cells #[.int .i64 t.id, .int .i64 t.kind, .string t.text, .slice ka nk tc] 24, .cells #[.int .i8 op, .int .i64 id, .int .i64 par, .int .i64 at_, .string tx, .int .i64 x.id, .int .i64 x.kind, .string x.text, .slice sa sn sc] 47, .cells #[.int .i64 0, .int .i64 0, .string ⟨#[]⟩, .slice none 0 0] 24] := ⟨_, rfl⟩
 have hb : Below w.heap.size w B := by rw [hB]; exact allocs_below _ _
 have hs : B.heap.size = w.heap.size + 3 := by rw [hB]; exact allocs_size _ _
 have ht0 : B.heap[w.heap.size]? = some (.cells #[.int .i64 t.id, .int .i64 t.kind, .string t.text, .slice ka nk tc] 24 (0, 0)) := by rw [hB]; exact allocs_at _ _ 0 _ rfl
 have hs0 : B.heap[w.heap.size + 1]? = some (.cells #[.int .i8 op, .int .i64 id, .int .i64 par, .int .i64 at_, .string tx, .int .i64 x.id, .int .i64 x.kind, .string x.text, .slice sa sn sc] 47 (0, 0)) := by rw [hB]; exact allocs_at _ _ 1 _ rfl
 have hr0 : B.heap[w.heap.size + 1 + 1]? = some (.cells #[.int .i64 0, .int .i64 0, .string ⟨#[]⟩, .slice none 0 0] 24 (0, 0)) := by rw [hB]; exact allocs_at _ _ 2 _ rfl
 have htr : ∀ X, Below B.heap.size B X → TrAt X S (.agg #[.int .i64 t.id, .int .i64 t.kind, .string t.text, .slice ka nk tc]) t := fun X hX => ⟨ka, tc, by rw [hnk], by rw [hnk] at *; exact hcap, hk.below (hb.trans (hX.mono hb.size)) hS⟩
 have hSX : ∀ X, Below B.heap.size B X → ∀ y, S y → y < X.heap.size := fun X hX y hy => Nat.lt_of_lt_of_le (hS y hy) (Nat.le_trans hb.size hX.size)
 have hgt : ∀ X, Below B.heap.size B X → Calls Try.prog 122 #[.agg #[.int .i64 t.id, .int .i64 t.kind, .string t.text, .slice ka nk tc]] X _ := fun X hX => great_any X S _ t (hSX X hX) (htr X hX) hsz
 have hgx : ∀ X, Below B.heap.size B X → Calls Try.prog 122 #[.agg #[.int .i64 x.id, .int .i64 x.kind, .string x.text, .slice sa sn sc]] X _ := fun X hX => great_any X Sx _ x (fun y hy => Nat.lt_of_lt_of_le (hSx y hy) (Nat.le_trans hb.size hX.size)) (by
  obtain ⟨qa, qc, e, h1, h2⟩ := hx
  exact ⟨qa, qc, e, h1, h2.below (hb.trans (hX.mono hb.size)) hSx⟩) hxz
 have hcell : ∀ X, Below B.heap.size B X → (X.cell? ⟨w.heap.size, 0, none⟩ = some (.int .i64 t.id) ∧ X.cell? ⟨w.heap.size, 1, none⟩ = some (.int .i64 t.kind) ∧ X.cell? ⟨w.heap.size, 2, none⟩ = some (.string t.text) ∧ X.cell? ⟨w.heap.size, 3, none⟩ = some (.slice ka nk tc)) ∧ (X.cell? ⟨w.heap.size + 1, 0, none⟩ = some (.int .i8 op) ∧ X.cell? ⟨w.heap.size + 1, 1, none⟩ = some (.int .i64 id) ∧ X.cell? ⟨w.heap.size + 1, 2, none⟩ = some (.int .i64 par) ∧ X.cell? ⟨w.heap.size + 1, 3, none⟩ = some (.int .i64 at_) ∧ X.cell? ⟨w.heap.size + 1, 4, none⟩ = some (.string tx) ∧ X.cell? ⟨w.heap.size + 1, 5, none⟩ = some (.int .i64 x.id) ∧ X.cell? ⟨w.heap.size + 1, 6, none⟩ = some (.int .i64 x.kind) ∧ X.cell? ⟨w.heap.size + 1, 7, none⟩ = some (.string x.text) ∧ X.cell? ⟨w.heap.size + 1, 8, none⟩ = some (.slice sa sn sc)) := fun X hX => by
  have e0 := (hX.block _ (lt_of_heap ht0)).trans ht0
  have e1 := (hX.block _ (lt_of_heap hs0)).trans hs0
  exact ⟨box4 e0, by rw [cell_of_row _ _ 0 _ _ _ e1]; rfl, by rw [cell_of_row _ _ 1 _ _ _ e1]; rfl, by rw [cell_of_row _ _ 2 _ _ _ e1]; rfl, by rw [cell_of_row _ _ 3 _ _ _ e1]; rfl, by rw [cell_of_row _ _ 4 _ _ _ e1]; rfl, by rw [cell_of_row _ _ 5 _ _ _ e1]; rfl, by rw [cell_of_row _ _ 6 _ _ _ e1]; rfl, by rw [cell_of_row _ _ 7 _ _ _ e1]; rfl, by rw [cell_of_row _ _ 8 _ _ _ e1]; rfl⟩
 have HG := Lib.hid (And.intro hgt hgx)
 have HCE := Lib.hid hcell
 have HB := Lib.hid (And.intro hb (And.intro hs hr0))
 have HBE := Lib.hid hB
 clear hgt hgx hcell htr hSX hb hs ht0 hs0 hr0 hS hSx hk hcap hsz hxz hnk hB hx
 go_enter Try.func77, Try.ntmps77
 go_wp2_with fail
 change Calls _ _ _ (allocs w [.cells #[.int .i64 t.id, .int .i64 t.kind, .string t.text, .slice ka nk tc] 24, .cells #[.int .i8 op, .int .i64 id, .int .i64 par, .int .i64 at_, .string tx, .int .i64 x.id, .int .i64 x.kind, .string x.text, .slice sa sn sc] 47, .cells #[.int .i64 0, .int .i64 0, .string ⟨#[]⟩, .slice none 0 0] 24]) _
 rw [← HBE.out]
 refine (HG.out.1 B (Below.refl _ _)).mono ?_
 rintro e W1 ⟨rfl, hb1⟩
 obtain ⟨⟨n0, n1, n2, n3⟩, m0, m1, m2, m3, m4, m5, m6, m7, m8⟩ := HCE.out W1 hb1
 have H1 := Lib.hid hb1
 clear hb1
 go_wp2_with fail
 refine (HG.out.2 W1 H1.out).mono ?_
 rintro e W2 ⟨rfl, hb12⟩
 have hb2 : Below B.heap.size B W2 := H1.out.trans (hb12.mono H1.out.size)
 clear n0 n1 n2 n3 m0 m1 m2 m3 m4 m5 m6 m7 m8 H1 hb12
 obtain ⟨⟨n0, n1, n2, n3⟩, m0, m1, m2, m3, m4, m5, m6, m7, m8⟩ := HCE.out W2 hb2
 have HOP := Lib.hid (operations_any W2)
 have H2 := Lib.hid hb2
 clear hb2
 go_wp2_with fail
 refine HOP.out.mono ?_
 rintro e W3 ⟨rfl, hb23⟩
 unfold opsV
 have hb3 : Below B.heap.size B W3 := H2.out.trans (hb23.mono H2.out.size)
 obtain ⟨W4, hW4⟩ : ∃ W4, W4 = W3.alloc (.cells #[.nilFunc, .func (.func 159) #[] #[], .func (.func 160) #[] #[], .func (.func 161) #[] #[], .func (.func 162) #[] #[]] 146) := ⟨_, rfl⟩
 have hb34 : Below W3.heap.size W3 W4 := by rw [hW4]; exact (Below.refl _ _).alloc (Nat.le_refl _) _
 have ho4 : W4.heap[W3.heap.size]? = some opsO := by rw [hW4]; exact heap_alloc_new W3 _
 have hb4 : Below B.heap.size B W4 := hb3.trans (hb34.mono hb3.size)
 have hc4 : ∀ X, Below W4.heap.size W4 X → ((X.cell? ⟨w.heap.size, 0, none⟩ = some (.int .i64 t.id) ∧ X.cell? ⟨w.heap.size, 1, none⟩ = some (.int .i64 t.kind) ∧ X.cell? ⟨w.heap.size, 2, none⟩ = some (.string t.text) ∧ X.cell? ⟨w.heap.size, 3, none⟩ = some (.slice ka nk tc)) ∧ (X.cell? ⟨w.heap.size + 1, 0, none⟩ = some (.int .i8 op) ∧ X.cell? ⟨w.heap.size + 1, 1, none⟩ = some (.int .i64 id) ∧ X.cell? ⟨w.heap.size + 1, 2, none⟩ = some (.int .i64 par) ∧ X.cell? ⟨w.heap.size + 1, 3, none⟩ = some (.int .i64 at_) ∧ X.cell? ⟨w.heap.size + 1, 4, none⟩ = some (.string tx) ∧ X.cell? ⟨w.heap.size + 1, 5, none⟩ = some (.int .i64 x.id) ∧ X.cell? ⟨w.heap.size + 1, 6, none⟩ = some (.int .i64 x.kind) ∧ X.cell? ⟨w.heap.size + 1, 7, none⟩ = some (.string x.text) ∧ X.cell? ⟨w.heap.size + 1, 8, none⟩ = some (.slice sa sn sc))) := fun X hX => HCE.out X (hb4.trans (hX.mono hb4.size))
 clear n0 n1 n2 n3 m0 m1 m2 m3 m4 m5 m6 m7 m8 HOP hb23
 have HB4 := Lib.hid hb4
 have HC4 := Lib.hid hc4
 have HW4 := Lib.hid hW4
 obtain ⟨⟨n0, n1, n2, n3⟩, m0, m1, m2, m3, m4, m5, m6, m7, m8⟩ := HCE.out W4 hb4
 clear hb3 hb34 ho4 hb4 hW4 hc4
 go_upto_region 4 with fail
 change Code.wp _ _ _ _ (W3.alloc (.cells #[.nilFunc, .func (.func 159) #[] #[], .func (.func 160) #[] #[], .func (.func 161) #[] #[], .func (.func 162) #[] #[]] 146))
 rw [← HW4.out]
 by_cases h1 : op < 1
 · clear hop hop8
   have hr3 := (HB4.out.block _ (lt_of_heap HB.out.2.2)).trans HB.out.2.2
   have hbz : Below w.heap.size w W4 := HB.out.1.trans (HB4.out.mono HB.out.1.size)
   obtain ⟨z0, z1, z2, z3⟩ := box4 hr3
   have zf : ∀ j, W4.frozen? ⟨w.heap.size + 1 + 1, j, none⟩ = false := fun j => frozen_of_row _ _ j _ _ hr3
   obtain ⟨V, hV, r1, r2, r3, r4, r5, r6⟩ := four_set (u0 := .int .i64 0) (u1 := .int .i64 0) (u2 := .string ⟨#[]⟩) (u3 := .slice none 0 0) hr3
   have HE := Lib.hid (And.intro hbz (And.intro hV (And.intro r1 (And.intro r2 (And.intro r3 (And.intro r4 (And.intro r5 r6)))))))
   clear hbz hr3 hV r1 r2 r3 r4 r5 r6
   go_wp2_with fail
   rw [← HE.out.2.1]
   obtain ⟨hbz, hV, r1, r2, r3, r4, r5, r6⟩ := HE.out
   exact apply_end (p := 4) (u := 5) rfl rfl (g := w.heap.size + 1 + 1) (y := zeroK) ⟨r3.trans hbz.os, r4.trans hbz.tape, r5.trans hbz.output, by rw [r6]; exact hbz.size, fun k hk => (r2 k (by omega)).trans (hbz.block k hk)⟩ r1 rfl (Nat.le_refl _) True.intro (by rw [applyR, if_neg (by decide)]) rfl rfl
 · have h5 : 5 ≤ op := by omega
   have hw : IntKind.i64.wrap op = op := IntWalk.i64_in _ (by omega)
   clear hop hop8
   have hr3 := (HB4.out.block _ (lt_of_heap HB.out.2.2)).trans HB.out.2.2
   have hbz : Below w.heap.size w W4 := HB.out.1.trans (HB4.out.mono HB.out.1.size)
   obtain ⟨z0, z1, z2, z3⟩ := box4 hr3
   have zf : ∀ j, W4.frozen? ⟨w.heap.size + 1 + 1, j, none⟩ = false := fun j => frozen_of_row _ _ j _ _ hr3
   obtain ⟨V, hV, r1, r2, r3, r4, r5, r6⟩ := four_set (u0 := .int .i64 0) (u1 := .int .i64 0) (u2 := .string ⟨#[]⟩) (u3 := .slice none 0 0) hr3
   have HE := Lib.hid (And.intro hbz (And.intro hV (And.intro r1 (And.intro r2 (And.intro r3 (And.intro r4 (And.intro r5 r6)))))))
   clear hbz hr3 hV r1 r2 r3 r4 r5 r6
   go_wp2_with fail
   rw [← HE.out.2.1]
   obtain ⟨hbz, hV, r1, r2, r3, r4, r5, r6⟩ := HE.out
   exact apply_end (p := 4) (u := 5) rfl rfl (g := w.heap.size + 1 + 1) (y := zeroK) ⟨r3.trans hbz.os, r4.trans hbz.tape, r5.trans hbz.output, by rw [r6]; exact hbz.size, fun k hk => (r2 k (by omega)).trans (hbz.block k hk)⟩ r1 rfl (Nat.le_refl _) True.intro (by rw [applyR, if_neg (by decide)]) rfl rfl
theorem ApplyC.mono {w : World} {T T' : Nat → Prop} {r : Tr × Int} {e : Ending} {w' : World} (h : ApplyC w T r e w') (hT : ∀ y, T y → T' y) : ApplyC w T' r e w' := by
 obtain ⟨v, e1, h1, h2⟩ := h
 exact ⟨v, e1, h1.kept fun y hy => ⟨⟨hy.1, hy.2.imp (hT y) (fun h => h)⟩, rfl⟩, h2⟩
theorem insertK_size (par at_ : Int) (x t : Tr) : foSize (insertK par at_ x t).1.kids ≤ foSize t.kids + foSize x.kids + 1 := by
 unfold insertK
 split
 · exact putK_size par at_ t x
 · simp [zeroK, foSize]
theorem removeK_size (id : Int) (t : Tr) : foSize (removeK id t).1.kids ≤ foSize t.kids := by
 unfold removeK
 split
 · simp [zeroK, foSize]
 · split
   · simp [zeroK, foSize]
   · have := takeK_size t; exact Nat.le_trans (Nat.le_add_right _ _) (this _ _)
theorem writeK_size (id : Int) (tx : ByteArray) (t : Tr) : foSize (writeK id tx t).1.kids ≤ foSize t.kids := by
 unfold writeK
 split
 · simp [zeroK, foSize]
 · split
   · simp [zeroK, foSize]
   · rename_i p _ _ u hu
     have := putP_size2 p t u ⟨u.id, u.kind, tx, u.kids⟩ hu
     simp only at this ⊢; omega
theorem i8_bounds {op : Int} (h : (Lit.int .i8 op).wf = true) : -128 ≤ op ∧ op ≤ 127 := by
 simp [Lit.wf] at h
 have e1 : IntKind.i8.min = -128 := by decide
 have e2 : IntKind.i8.max = 127 := by decide
 omega
theorem apply_any (w : World) (S Sx : Nat → Prop) (nv : Value) (t x : Tr) (op id par at_ : Int) (tx : ByteArray) (sa : Option Addr) (sn sc : Nat) (hS : ∀ y, S y → y < w.heap.size) (hSx : ∀ y, Sx y → y < w.heap.size) (ht : TrAt w S nv t) (hx : TrAt w Sx (.agg #[.int .i64 x.id, .int .i64 x.kind, .string x.text, .slice sa sn sc]) x) (hsz : foSize t.kids + 1 ≤ 2000) (hxz : foSize x.kids + 1 ≤ 2000) (hop : (Lit.int .i8 op).wf = true) (hok : ∀ i ∈ idT t, (Lit.int .i64 i).wf = true) (hxk : ∀ i ∈ idT x, (Lit.int .i64 i).wf = true) :
 Calls Try.prog 77 #[nv, .agg #[.int .i8 op, .int .i64 id, .int .i64 par, .int .i64 at_, .string tx, .int .i64 x.id, .int .i64 x.kind, .string x.text, .slice sa sn sc]] w (ApplyC w (fun y => S y ∨ Sx y) (stepK op id par at_ tx x t)) := by
 have hX : ∀ X, Below w.heap.size w X → (∀ y, S y → y < X.heap.size) ∧ TrAt X S nv t := fun X h => ⟨fun y hy => Nat.lt_of_lt_of_le (hS y hy) h.size, ht.kept fun y hy => ⟨hy, h.block y (hS y hy)⟩⟩
 unfold stepK
 split
 · rename_i h1
   subst h1
   refine apply_insert w S Sx _ nv t x id par at_ tx sa sn sc _ hS hSx (fun y hy => hy.elim (hS y) (hSx y)) ht hx hsz hxz (by have := insertK_size par at_ x t; omega) fun X h => ?_
   exact insert_any X S nv t 1 id par at_ x.id x.kind tx x.text sa sn sc (hX X h).1 (hX X h).2 (by omega) Sx x (fun y hy => Nat.lt_of_lt_of_le (hSx y hy) h.size) (hx.kept fun y hy => ⟨hy, h.block y (hSx y hy)⟩) hxz hsz hok hxk
 · split
   · rename_i h1
     subst h1
     refine Calls.mono (apply_remove w S Sx S nv t x id par at_ tx sa sn sc _ hS hSx hS ht hx hsz hxz (by have := removeK_size id t; omega) fun X h => ?_) fun e w' h => h.mono fun y hy => Or.inl hy
     exact remove_any X S nv t 2 id par at_ x.id x.kind tx x.text sa sn sc (hX X h).1 (hX X h).2 (by omega)
   · split
     · rename_i h1
       subst h1
       exact Calls.mono (applyM_any w S Sx nv t x id par at_ tx sa sn sc hS hSx ht hx hsz hxz) fun e w' h => h.mono fun y hy => Or.inl hy
     · split
       · rename_i h1
         subst h1
         refine Calls.mono (apply_write w S Sx S nv t x id par at_ tx sa sn sc _ hS hSx hS ht hx hsz hxz (by have := writeK_size id tx t; omega) fun X h => ?_) fun e w' h => h.mono fun y hy => Or.inl hy
         exact write_any X S nv t 4 id par at_ x.id x.kind tx x.text sa sn sc (hX X h).1 (hX X h).2 (by omega)
       · exact apply_other w S Sx _ nv t x op id par at_ tx sa sn sc hS hSx ht hx hsz hxz (by omega) (i8_bounds hop)
def invV : Value := .agg #[.nilFunc, .func (.func 164) #[] #[], .func (.func 165) #[] #[], .func (.func 166) #[] #[], .func (.func 167) #[] #[]]
set_option maxRecDepth 100000 in
theorem inverses_any (w : World) : Calls Try.prog 126 #[] w fun e w' => e = .returned invV ∧ Below w.heap.size w w' := by
 go_enter Try.func126, Try.ntmps126
 go_wp2_with fail
 exact bodyPost_ret (results_cellW rfl _ _ w.heap.size 151 _ _ _ rfl (heap_alloc_new w _) Try.underlying151 rfl (by kernel_rfl)) rfl ⟨rfl, (Below.refl _ _).alloc (Nat.le_refl _) _⟩
theorem index_inv4 (X : World) : (Instr.index 151 (.agg #[.nilFunc, .func (.func 164) #[] #[], .func (.func 165) #[] #[], .func (.func 166) #[] #[], .func (.func 167) #[] #[]]) (.int .i8 4)).run Try.prog X = .ok (.func (.func 167) #[] #[]) X := by
 simp [Instr.index, run_underlying Try.underlying151, asIntOf, go_sem]
def InvC (w : World) (T : Nat → Prop) (n : Int) (s : Sf) (e : Ending) (w' : World) : Prop := ∃ v, e = .returned (.tuple #[v, .int .i64 n]) ∧ SfAt w' (fun y => (T y ∨ w.heap.size ≤ y) ∧ y < w'.heap.size) v s ∧ Below w.heap.size w w'
theorem walkW_size : ∀ (p : List Nat) (n : Tr) (a b : Int), foSize (walkW n a b p).1.kids ≤ foSize n.kids
 | [], n, a, b => Nat.le_refl _
 | i :: p, n, a, b => by
   simp only [walkW]
   cases hk : kidF n.kids i with
   | none => exact Nat.le_refl _
   | some u =>
     have h1 := walkW_size p u n.id (i : Int)
     have h2 := kidF_size hk
     simp only at h1 ⊢; omega
theorem whence_size (id : Int) (t : Tr) : foSize (whenceK id t).1.kids ≤ foSize t.kids := walkW_size _ t 0 0
set_option maxRecDepth 100000 in
set_option maxHeartbeats 8000000 in
theorem invert_err (w : World) (S Sx : Nat → Prop) (nv : Value) (t x : Tr) (op id par at_ : Int) (tx : ByteArray) (sa : Option Addr) (sn sc : Nat) (hS : ∀ y, S y → y < w.heap.size) (hSx : ∀ y, Sx y → y < w.heap.size) (ht : TrAt w S nv t) (hx : TrAt w Sx (.agg #[.int .i64 x.id, .int .i64 x.kind, .string x.text, .slice sa sn sc]) x) (hsz : foSize t.kids + 1 ≤ 2000) (hxz : foSize x.kids + 1 ≤ 2000) (hop : (Lit.int .i8 op).wf = true) (hok : ∀ i ∈ idT t, (Lit.int .i64 i).wf = true) (hxk : ∀ i ∈ idT x, (Lit.int .i64 i).wf = true) (h0 : (stepK op id par at_ tx x t).2 ≠ 0) :
 Calls Try.prog 80 #[nv, .agg #[.int .i8 op, .int .i64 id, .int .i64 par, .int .i64 at_, .string tx, .int .i64 x.id, .int .i64 x.kind, .string x.text, .slice sa sn sc]] w (InvC w (fun y => S y ∨ Sx y) (stepK op id par at_ tx x t).2 zeroS) := by
 obtain ⟨ka, tc, rfl, hcap, hk⟩ := ht
 obtain ⟨nk, hnk⟩ : ∃ nk, nk = foLen t.kids := ⟨_, rfl⟩
 rw [← hnk]
 obtain ⟨B, hB⟩ : ∃ B, B = allocs w [.cells #[.int .i64 t.id, .int .i64 t.kind, .string t.text, .slice ka nk tc] 24, .cells #[.int .i8 op, .int .i64 id, .int .i64 par, .int .i64 at_, .string tx, .int .i64 x.id, .int .i64 x.kind, .string x.text, .slice sa sn sc] 47, .cells #[.int .i8 0, .int .i64 0, .int .i64 0, .int .i64 0, .string ⟨#[]⟩, .int .i64 0, .int .i64 0, .string ⟨#[]⟩, .slice none 0 0] 47] := ⟨_, rfl⟩
 have hb : Below w.heap.size w B := by rw [hB]; exact allocs_below _ _
 have hs : B.heap.size = w.heap.size + 3 := by rw [hB]; exact allocs_size _ _
 have ht0 : B.heap[w.heap.size]? = some (.cells #[.int .i64 t.id, .int .i64 t.kind, .string t.text, .slice ka nk tc] 24 (0, 0)) := by rw [hB]; exact allocs_at _ _ 0 _ rfl
 have hs0 : B.heap[w.heap.size + 1]? = some (.cells #[.int .i8 op, .int .i64 id, .int .i64 par, .int .i64 at_, .string tx, .int .i64 x.id, .int .i64 x.kind, .string x.text, .slice sa sn sc] 47 (0, 0)) := by rw [hB]; exact allocs_at _ _ 1 _ rfl
 have hr0 : B.heap[w.heap.size + 1 + 1]? = some (.cells #[.int .i8 0, .int .i64 0, .int .i64 0, .int .i64 0, .string ⟨#[]⟩, .int .i64 0, .int .i64 0, .string ⟨#[]⟩, .slice none 0 0] 47 (0, 0)) := by rw [hB]; exact allocs_at _ _ 2 _ rfl
 have htr : ∀ X, (∀ y, y < w.heap.size → X.heap[y]? = w.heap[y]?) → TrAt X S (.agg #[.int .i64 t.id, .int .i64 t.kind, .string t.text, .slice ka nk tc]) t := fun X hX => ⟨ka, tc, by rw [hnk], by rw [hnk] at *; exact hcap, hk.kept fun y hy => ⟨hy, hX y (hS y hy)⟩⟩
 have hap := apply_any B S Sx (.agg #[.int .i64 t.id, .int .i64 t.kind, .string t.text, .slice ka nk tc]) t x op id par at_ tx sa sn sc (fun y hy => Nat.lt_of_lt_of_le (hS y hy) hb.size) (fun y hy => Nat.lt_of_lt_of_le (hSx y hy) hb.size) (htr B hb.block) (hx.kept fun y hy => ⟨hy, hb.block y (hSx y hy)⟩) hsz hxz hop hok hxk
 obtain ⟨r, hr⟩ : ∃ r, r = stepK op id par at_ tx x t := ⟨_, rfl⟩
 rw [← hr] at hap h0 ⊢
 obtain ⟨ye, hye⟩ : ∃ ye, ye = r.2 := ⟨_, rfl⟩
 obtain ⟨y, hy⟩ : ∃ y, y = applyR r := ⟨_, rfl⟩
 unfold ApplyC at hap
 rw [← hye] at hap h0 ⊢
 rw [← hy] at hap
 obtain ⟨b0, b1, b2, b3⟩ := box4 ht0
 obtain ⟨m0, m1, m2, m3, m4, m5, m6, m7, m8⟩ := box9 hs0
 have HAP := Lib.hid hap
 have HB := Lib.hid (And.intro hb (And.intro hs (And.intro ht0 (And.intro hs0 hr0))))
 have HBE := Lib.hid hB
 clear hap hb hs ht0 hs0 hr0 hB hnk hcap hk hS hSx hsz hxz hok hxk hx htr hop hr hye hy
 go_enter Try.func80, Try.ntmps80
 go_upto_region 1 with fail
 change Code.wp _ _ _ _ (allocs w [.cells #[.int .i64 t.id, .int .i64 t.kind, .string t.text, .slice ka nk tc] 24, .cells #[.int .i8 op, .int .i64 id, .int .i64 par, .int .i64 at_, .string tx, .int .i64 x.id, .int .i64 x.kind, .string x.text, .slice sa sn sc] 47, .cells #[.int .i8 0, .int .i64 0, .int .i64 0, .int .i64 0, .string ⟨#[]⟩, .int .i64 0, .int .i64 0, .string ⟨#[]⟩, .slice none 0 0] 47])
 rw [← HBE.out]
 clear HBE
 go_wp2_with fail
 refine HAP.out.mono ?_
 rintro e W ⟨_, rfl, ⟨yb, yc, rfl, _, _⟩, hbW⟩
 obtain ⟨yn, hyn⟩ : ∃ yn, yn = foLen y.kids := ⟨_, rfl⟩
 rw [← hyn]
 clear hyn
 obtain ⟨U, hU⟩ : ∃ U, U = W.alloc (.cells #[.int .i64 y.id, .int .i64 y.kind, .string y.text, .slice yb yn yc] 24) := ⟨_, rfl⟩
 have hbU : Below W.heap.size W U := by rw [hU]; exact box_below _ _
 have hbB : Below B.heap.size B U := hbW.trans (hbU.mono hbW.size)
 have ht1 := (hbB.block _ (lt_of_heap HB.out.2.2.1)).trans HB.out.2.2.1
 have hs1 := (hbB.block _ (lt_of_heap HB.out.2.2.2.1)).trans HB.out.2.2.2.1
 have hr1 := (hbB.block _ (lt_of_heap HB.out.2.2.2.2)).trans HB.out.2.2.2.2
 have hUs : w.heap.size + 3 ≤ U.heap.size := by have := HB.out.2.1; have := hbB.size; omega
 have hbw : Below w.heap.size w U := HB.out.1.trans (hbB.mono HB.out.1.size)
 have HU := Lib.hid hU
 have HT := Lib.hid (And.intro ht1 (And.intro hs1 (And.intro hr1 (And.intro hUs hbw))))
 clear hbW hU hbU hbB ht1 hs1 hr1 hUs hbw b0 b1 b2 b3 m0 m1 m2 m3 m4 m5 m6 m7 m8
 go_upto_region 2 with fail
 rw [← HU.out]
 obtain ⟨ht1, hs1, hr1, hUs, hbw⟩ := HT.out
 obtain ⟨z0, z1, z2, z3, z4, z5, z6, z7, z8⟩ := box9 hr1
 have zf : ∀ j, U.frozen? ⟨w.heap.size + 1 + 1, j, none⟩ = false := fun j => frozen_of_row _ _ j _ _ hr1
 obtain ⟨V9, hV9, v1, v2, v3, v4, v5, v6⟩ := nine_set (u0 := .int .i8 0) (u1 := .int .i64 0) (u2 := .int .i64 0) (u3 := .int .i64 0) (u4 := .string ⟨#[]⟩) (u5 := .int .i64 0) (u6 := .int .i64 0) (u7 := .string ⟨#[]⟩) (u8 := .slice none 0 0) hr1
 have HEND : Hid (InvC w (fun y => S y ∨ Sx y) ye zeroS (.returned (.tuple #[.agg #[.int .i8 0, .int .i64 0, .int .i64 0, .int .i64 0, .string ⟨#[]⟩, .int .i64 0, .int .i64 0, .string ⟨#[]⟩, .slice none 0 0], .int .i64 ye])) V9) := Lib.hid ⟨_, rfl, ⟨none, 0, rfl, Nat.le_refl _, True.intro⟩, ⟨v3.trans hbw.os, v4.trans hbw.tape, v5.trans hbw.output, by rw [v6]; exact hbw.size, fun y hy => (v2 y (by omega)).trans (hbw.block y hy)⟩⟩
 have HV9 := Lib.hid (And.intro hV9 v1)
 clear ht1 hs1 hr1 hUs hbw hV9 v1 v2 v3 v4 v5 v6
 go_wp2_with fail
 rw [← HV9.out.1]
 refine bodyPost_ret (results_cellT rfl _ _ (w.heap.size + 1 + 1) 47 _ (0, 0) _ (.int .i64 ye) rfl HV9.out.2 Try.underlying47 rfl (by kernel_rfl) rfl) rfl ?_
 exact HEND.out
end Go.Proofs.Ytonapijgfalpaaa
