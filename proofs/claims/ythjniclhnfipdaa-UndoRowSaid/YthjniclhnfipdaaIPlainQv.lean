/-
  A step with the fields of its operation alone. No condition but that there are not too many nodes.
-/
import Derived.Deep.Cut
import Derived.Test.YthjniclhnfipdaaIBacksQv
import Derived.Test.YthjniclhnfipdaaKInsertQv
namespace Go.Proofs.Ythjniclhnfipdaa
open Go.RowKit Go.Shelf
set_option linter.unusedVariables false
set_option linter.unusedSimpArgs false

set_option maxRecDepth 100000 in
set_option maxHeartbeats 8000000 in
theorem plain2 (w : World) (S : Nat → Prop) (id par at_ s1 s2 : Int) (tx s3 : ByteArray) (sa : Option Addr) (sn sc : Nat) :
    Calls Try.prog 119 #[.agg #[.int .i8 2, .int .i64 id, .int .i64 par, .int .i64 at_, .string tx, .int .i64 s1, .int .i64 s2, .string s3, .slice sa sn sc]] w (BackC w S ⟨2, id, 0, 0, ⟨#[]⟩, zeroK⟩) := by
  obtain ⟨B, hB⟩ : ∃ B, B = allocs w [.cells #[.int .i8 2, .int .i64 id, .int .i64 par, .int .i64 at_, .string tx, .int .i64 s1, .int .i64 s2, .string s3, .slice sa sn sc] 47, .cells #[.int .i8 0, .int .i64 0, .int .i64 0, .int .i64 0, .string ⟨#[]⟩, .int .i64 0, .int .i64 0, .string ⟨#[]⟩, .slice none 0 0] 47] := ⟨_, rfl⟩
  have hb : Below w.heap.size w B := by rw [hB]; exact allocs_below _ _
  have hs0 : B.heap[w.heap.size]? = some (.cells #[.int .i8 2, .int .i64 id, .int .i64 par, .int .i64 at_, .string tx, .int .i64 s1, .int .i64 s2, .string s3, .slice sa sn sc] 47 (0, 0)) := by rw [hB]; exact allocs_at _ _ 0 _ rfl
  have hr0 : B.heap[w.heap.size + 1]? = some (.cells #[.int .i8 0, .int .i64 0, .int .i64 0, .int .i64 0, .string ⟨#[]⟩, .int .i64 0, .int .i64 0, .string ⟨#[]⟩, .slice none 0 0] 47 (0, 0)) := by rw [hB]; exact allocs_at _ _ 1 _ rfl
  obtain ⟨V9, hV9, v1, v2, v3, v4, v5, v6⟩ := nine_set (u0 := .int .i8 2) (u1 := .int .i64 id) (u2 := .int .i64 0) (u3 := .int .i64 0) (u4 := .string ⟨#[]⟩) (u5 := .int .i64 0) (u6 := .int .i64 0) (u7 := .string ⟨#[]⟩) (u8 := .slice none 0 0) hr0
  obtain ⟨m0, m1, m2, m3, m4, m5, m6, m7, m8⟩ := box9 hs0
  obtain ⟨z0, z1, z2, z3, z4, z5, z6, z7, z8⟩ := box9 hr0
  have zf : ∀ j, B.frozen? ⟨w.heap.size + 1, j, none⟩ = false := fun j => frozen_of_row _ _ j _ _ hr0
  have HEND : Hid (BackC w S ⟨2, id, 0, 0, ⟨#[]⟩, zeroK⟩ (.returned (.agg #[.int .i8 2, .int .i64 id, .int .i64 0, .int .i64 0, .string ⟨#[]⟩, .int .i64 0, .int .i64 0, .string ⟨#[]⟩, .slice none 0 0])) V9) := Lib.hid ⟨_, rfl, ⟨none, 0, rfl, Nat.le_refl _, True.intro⟩, ⟨v3.trans hb.os, v4.trans hb.tape, v5.trans hb.output, by rw [v6]; exact hb.size, fun y hy => (v2 y (by omega)).trans (hb.block y hy)⟩⟩
  have HV9 := Lib.hid (And.intro hV9 v1)
  have HBE := Lib.hid hB
  clear hb hs0 hr0 hB hV9 v1 v2 v3 v4 v5 v6
  go_enter Try.func119, Try.ntmps119
  go_upto_region 1 with fail
  change Code.wp _ _ _ _ (allocs w [.cells #[.int .i8 2, .int .i64 id, .int .i64 par, .int .i64 at_, .string tx, .int .i64 s1, .int .i64 s2, .string s3, .slice sa sn sc] 47, .cells #[.int .i8 0, .int .i64 0, .int .i64 0, .int .i64 0, .string ⟨#[]⟩, .int .i64 0, .int .i64 0, .string ⟨#[]⟩, .slice none 0 0] 47])
  rw [← HBE.out]
  clear HBE
  go_wp2_with fail
  rw [← HV9.out.1]
  refine bodyPost_ret (results_cellI rfl _ _ (w.heap.size + 1) 47 _ (0, 0) _ rfl HV9.out.2 Try.underlying47 rfl (by kernel_rfl)) rfl ?_
  exact HEND.out
set_option maxRecDepth 100000 in
set_option maxHeartbeats 8000000 in
theorem plain3 (w : World) (S : Nat → Prop) (id par at_ s1 s2 : Int) (tx s3 : ByteArray) (sa : Option Addr) (sn sc : Nat) :
    Calls Try.prog 119 #[.agg #[.int .i8 3, .int .i64 id, .int .i64 par, .int .i64 at_, .string tx, .int .i64 s1, .int .i64 s2, .string s3, .slice sa sn sc]] w (BackC w S ⟨3, id, par, at_, ⟨#[]⟩, zeroK⟩) := by
  obtain ⟨B, hB⟩ : ∃ B, B = allocs w [.cells #[.int .i8 3, .int .i64 id, .int .i64 par, .int .i64 at_, .string tx, .int .i64 s1, .int .i64 s2, .string s3, .slice sa sn sc] 47, .cells #[.int .i8 0, .int .i64 0, .int .i64 0, .int .i64 0, .string ⟨#[]⟩, .int .i64 0, .int .i64 0, .string ⟨#[]⟩, .slice none 0 0] 47] := ⟨_, rfl⟩
  have hb : Below w.heap.size w B := by rw [hB]; exact allocs_below _ _
  have hs0 : B.heap[w.heap.size]? = some (.cells #[.int .i8 3, .int .i64 id, .int .i64 par, .int .i64 at_, .string tx, .int .i64 s1, .int .i64 s2, .string s3, .slice sa sn sc] 47 (0, 0)) := by rw [hB]; exact allocs_at _ _ 0 _ rfl
  have hr0 : B.heap[w.heap.size + 1]? = some (.cells #[.int .i8 0, .int .i64 0, .int .i64 0, .int .i64 0, .string ⟨#[]⟩, .int .i64 0, .int .i64 0, .string ⟨#[]⟩, .slice none 0 0] 47 (0, 0)) := by rw [hB]; exact allocs_at _ _ 1 _ rfl
  obtain ⟨V9, hV9, v1, v2, v3, v4, v5, v6⟩ := nine_set (u0 := .int .i8 3) (u1 := .int .i64 id) (u2 := .int .i64 par) (u3 := .int .i64 at_) (u4 := .string ⟨#[]⟩) (u5 := .int .i64 0) (u6 := .int .i64 0) (u7 := .string ⟨#[]⟩) (u8 := .slice none 0 0) hr0
  obtain ⟨m0, m1, m2, m3, m4, m5, m6, m7, m8⟩ := box9 hs0
  obtain ⟨z0, z1, z2, z3, z4, z5, z6, z7, z8⟩ := box9 hr0
  have zf : ∀ j, B.frozen? ⟨w.heap.size + 1, j, none⟩ = false := fun j => frozen_of_row _ _ j _ _ hr0
  have HEND : Hid (BackC w S ⟨3, id, par, at_, ⟨#[]⟩, zeroK⟩ (.returned (.agg #[.int .i8 3, .int .i64 id, .int .i64 par, .int .i64 at_, .string ⟨#[]⟩, .int .i64 0, .int .i64 0, .string ⟨#[]⟩, .slice none 0 0])) V9) := Lib.hid ⟨_, rfl, ⟨none, 0, rfl, Nat.le_refl _, True.intro⟩, ⟨v3.trans hb.os, v4.trans hb.tape, v5.trans hb.output, by rw [v6]; exact hb.size, fun y hy => (v2 y (by omega)).trans (hb.block y hy)⟩⟩
  have HV9 := Lib.hid (And.intro hV9 v1)
  have HBE := Lib.hid hB
  clear hb hs0 hr0 hB hV9 v1 v2 v3 v4 v5 v6
  go_enter Try.func119, Try.ntmps119
  go_upto_region 1 with fail
  change Code.wp _ _ _ _ (allocs w [.cells #[.int .i8 3, .int .i64 id, .int .i64 par, .int .i64 at_, .string tx, .int .i64 s1, .int .i64 s2, .string s3, .slice sa sn sc] 47, .cells #[.int .i8 0, .int .i64 0, .int .i64 0, .int .i64 0, .string ⟨#[]⟩, .int .i64 0, .int .i64 0, .string ⟨#[]⟩, .slice none 0 0] 47])
  rw [← HBE.out]
  clear HBE
  go_wp2_with fail
  rw [← HV9.out.1]
  refine bodyPost_ret (results_cellI rfl _ _ (w.heap.size + 1) 47 _ (0, 0) _ rfl HV9.out.2 Try.underlying47 rfl (by kernel_rfl)) rfl ?_
  exact HEND.out
set_option maxRecDepth 100000 in
set_option maxHeartbeats 8000000 in
theorem plain4 (w : World) (S : Nat → Prop) (id par at_ s1 s2 : Int) (tx s3 : ByteArray) (sa : Option Addr) (sn sc : Nat) :
    Calls Try.prog 119 #[.agg #[.int .i8 4, .int .i64 id, .int .i64 par, .int .i64 at_, .string tx, .int .i64 s1, .int .i64 s2, .string s3, .slice sa sn sc]] w (BackC w S ⟨4, id, 0, 0, tx, zeroK⟩) := by
  obtain ⟨B, hB⟩ : ∃ B, B = allocs w [.cells #[.int .i8 4, .int .i64 id, .int .i64 par, .int .i64 at_, .string tx, .int .i64 s1, .int .i64 s2, .string s3, .slice sa sn sc] 47, .cells #[.int .i8 0, .int .i64 0, .int .i64 0, .int .i64 0, .string ⟨#[]⟩, .int .i64 0, .int .i64 0, .string ⟨#[]⟩, .slice none 0 0] 47] := ⟨_, rfl⟩
  have hb : Below w.heap.size w B := by rw [hB]; exact allocs_below _ _
  have hs0 : B.heap[w.heap.size]? = some (.cells #[.int .i8 4, .int .i64 id, .int .i64 par, .int .i64 at_, .string tx, .int .i64 s1, .int .i64 s2, .string s3, .slice sa sn sc] 47 (0, 0)) := by rw [hB]; exact allocs_at _ _ 0 _ rfl
  have hr0 : B.heap[w.heap.size + 1]? = some (.cells #[.int .i8 0, .int .i64 0, .int .i64 0, .int .i64 0, .string ⟨#[]⟩, .int .i64 0, .int .i64 0, .string ⟨#[]⟩, .slice none 0 0] 47 (0, 0)) := by rw [hB]; exact allocs_at _ _ 1 _ rfl
  obtain ⟨V9, hV9, v1, v2, v3, v4, v5, v6⟩ := nine_set (u0 := .int .i8 4) (u1 := .int .i64 id) (u2 := .int .i64 0) (u3 := .int .i64 0) (u4 := .string tx) (u5 := .int .i64 0) (u6 := .int .i64 0) (u7 := .string ⟨#[]⟩) (u8 := .slice none 0 0) hr0
  obtain ⟨m0, m1, m2, m3, m4, m5, m6, m7, m8⟩ := box9 hs0
  obtain ⟨z0, z1, z2, z3, z4, z5, z6, z7, z8⟩ := box9 hr0
  have zf : ∀ j, B.frozen? ⟨w.heap.size + 1, j, none⟩ = false := fun j => frozen_of_row _ _ j _ _ hr0
  have HEND : Hid (BackC w S ⟨4, id, 0, 0, tx, zeroK⟩ (.returned (.agg #[.int .i8 4, .int .i64 id, .int .i64 0, .int .i64 0, .string tx, .int .i64 0, .int .i64 0, .string ⟨#[]⟩, .slice none 0 0])) V9) := Lib.hid ⟨_, rfl, ⟨none, 0, rfl, Nat.le_refl _, True.intro⟩, ⟨v3.trans hb.os, v4.trans hb.tape, v5.trans hb.output, by rw [v6]; exact hb.size, fun y hy => (v2 y (by omega)).trans (hb.block y hy)⟩⟩
  have HV9 := Lib.hid (And.intro hV9 v1)
  have HBE := Lib.hid hB
  clear hb hs0 hr0 hB hV9 v1 v2 v3 v4 v5 v6
  go_enter Try.func119, Try.ntmps119
  go_upto_region 1 with fail
  change Code.wp _ _ _ _ (allocs w [.cells #[.int .i8 4, .int .i64 id, .int .i64 par, .int .i64 at_, .string tx, .int .i64 s1, .int .i64 s2, .string s3, .slice sa sn sc] 47, .cells #[.int .i8 0, .int .i64 0, .int .i64 0, .int .i64 0, .string ⟨#[]⟩, .int .i64 0, .int .i64 0, .string ⟨#[]⟩, .slice none 0 0] 47])
  rw [← HBE.out]
  clear HBE
  go_wp2_with fail
  rw [← HV9.out.1]
  refine bodyPost_ret (results_cellI rfl _ _ (w.heap.size + 1) 47 _ (0, 0) _ rfl HV9.out.2 Try.underlying47 rfl (by kernel_rfl)) rfl ?_
  exact HEND.out
set_option maxRecDepth 100000 in
set_option maxHeartbeats 8000000 in
theorem plain1 (w : World) (Sx : Nat → Prop) (x : Tr) (id par at_ : Int) (tx : ByteArray) (sa : Option Addr) (sn sc : Nat) (hSx : ∀ y, Sx y → y < w.heap.size) (hx : TrAt w Sx (.agg #[.int .i64 x.id, .int .i64 x.kind, .string x.text, .slice sa sn sc]) x) (hxz : foSize x.kids ≤ 100000) :
    Calls Try.prog 119 #[.agg #[.int .i8 1, .int .i64 id, .int .i64 par, .int .i64 at_, .string tx, .int .i64 x.id, .int .i64 x.kind, .string x.text, .slice sa sn sc]] w (BackC w Sx ⟨1, 0, par, at_, ⟨#[]⟩, x⟩) := by
  obtain ⟨B, hB⟩ : ∃ B, B = allocs w [.cells #[.int .i8 1, .int .i64 id, .int .i64 par, .int .i64 at_, .string tx, .int .i64 x.id, .int .i64 x.kind, .string x.text, .slice sa sn sc] 47, .cells #[.int .i8 0, .int .i64 0, .int .i64 0, .int .i64 0, .string ⟨#[]⟩, .int .i64 0, .int .i64 0, .string ⟨#[]⟩, .slice none 0 0] 47] := ⟨_, rfl⟩
  have hb : Below w.heap.size w B := by rw [hB]; exact allocs_below _ _
  have hs : B.heap.size = w.heap.size + 2 := by rw [hB]; exact allocs_size _ _
  have hs0 : B.heap[w.heap.size]? = some (.cells #[.int .i8 1, .int .i64 id, .int .i64 par, .int .i64 at_, .string tx, .int .i64 x.id, .int .i64 x.kind, .string x.text, .slice sa sn sc] 47 (0, 0)) := by rw [hB]; exact allocs_at _ _ 0 _ rfl
  have hr0 : B.heap[w.heap.size + 1]? = some (.cells #[.int .i8 0, .int .i64 0, .int .i64 0, .int .i64 0, .string ⟨#[]⟩, .int .i64 0, .int .i64 0, .string ⟨#[]⟩, .slice none 0 0] 47 (0, 0)) := by rw [hB]; exact allocs_at _ _ 1 _ rfl
  have hcp : ∀ X, Tc B X (w.heap.size + 1) → Calls Try.prog 149 #[.agg #[.int .i64 x.id, .int .i64 x.kind, .string x.text, .slice sa sn sc]] X (CopiedC X Sx x) := fun X hX => copied_any X Sx _ x (fun y hy => Nat.lt_of_lt_of_le (hSx y hy) (Nat.le_trans hb.size hX.size)) (hx.kept fun y hy => ⟨hy, (hX.block y (by have := hSx y hy; omega) (by have := hSx y hy; omega)).trans (hb.block y (hSx y hy))⟩) hxz
  obtain ⟨m0, m1, m2, m3, m4, m5, m6, m7, m8⟩ := box9 hs0
  have HCP := Lib.hid hcp
  have HST := Lib.hid hs0
  have HSX := Lib.hid hSx
  have HB := Lib.hid (And.intro hb (And.intro hs hr0))
  have HBE := Lib.hid hB
  clear hcp hs0 hb hs hr0 hB hx hSx hxz
  go_enter Try.func119, Try.ntmps119
  go_upto_region 1 with fail
  change Code.wp _ _ _ _ (allocs w [.cells #[.int .i8 1, .int .i64 id, .int .i64 par, .int .i64 at_, .string tx, .int .i64 x.id, .int .i64 x.kind, .string x.text, .slice sa sn sc] 47, .cells #[.int .i8 0, .int .i64 0, .int .i64 0, .int .i64 0, .string ⟨#[]⟩, .int .i64 0, .int .i64 0, .string ⟨#[]⟩, .slice none 0 0] 47])
  rw [← HBE.out]
  clear HBE
  go_upto_region 3 with fail
  clear m0 m1 m2 m3 m4 m5 m6 m7 m8
  refine wp_region_held_drew (S := fun X => Tc B X (w.heap.size + 1)) (by kernel_rfl) (Tc.of (below_drewN (Below.refl _ B) 1)) (fun hHeld => ?_)
  refine wpAnyH_take (i := 0) (oi := _) (v := .pointer (some ⟨w.heap.size, 0, none⟩)) rfl (by kernel_rfl) (by kernel_rfl) (by kernel_rfl) (fun _ _ _ h => h) (Or.inl ⟨by rfl, ?_⟩) (by assumption) ?_
  · clear hHeld; intro X hSw; clear hSw; go_simp
  simp only [Act.put, List.getElem_toArray, List.getElem_cons_zero, List.getElem_cons_succ, List.setIfInBounds_toArray, List.set_cons_zero, List.set_cons_succ]
  refine wpAnyH_take (i := 1) (oi := _) (v := .int .i8 1) rfl (by kernel_rfl) (by kernel_rfl) (by kernel_rfl) (fun _ _ _ h => h) (Or.inl ⟨by rfl, ?_⟩) (by assumption) ?_
  · clear hHeld; intro X hSw; obtain ⟨m0, m1, m2, m3, m4, m5, m6, m7, m8⟩ := box9 ((hSw.block _ (lt_of_heap HST.out) (by omega)).trans HST.out); clear hSw; go_simp
  simp only [Act.put, List.getElem_toArray, List.getElem_cons_zero, List.getElem_cons_succ, List.setIfInBounds_toArray, List.set_cons_zero, List.set_cons_succ]
  refine wpAnyH_take (i := 2) (oi := _) (v := .pointer (some ⟨w.heap.size, 2, none⟩)) rfl (by kernel_rfl) (by kernel_rfl) (by kernel_rfl) (fun _ _ _ h => h) (Or.inl ⟨by rfl, ?_⟩) (by assumption) ?_
  · clear hHeld; intro X hSw; clear hSw; go_simp
  simp only [Act.put, List.getElem_toArray, List.getElem_cons_zero, List.getElem_cons_succ, List.setIfInBounds_toArray, List.set_cons_zero, List.set_cons_succ]
  refine wpAnyH_take (i := 3) (oi := _) (v := .int .i64 par) rfl (by kernel_rfl) (by kernel_rfl) (by kernel_rfl) (fun _ _ _ h => h) (Or.inl ⟨by rfl, ?_⟩) (by assumption) ?_
  · clear hHeld; intro X hSw; obtain ⟨m0, m1, m2, m3, m4, m5, m6, m7, m8⟩ := box9 ((hSw.block _ (lt_of_heap HST.out) (by omega)).trans HST.out); clear hSw; go_simp
  simp only [Act.put, List.getElem_toArray, List.getElem_cons_zero, List.getElem_cons_succ, List.setIfInBounds_toArray, List.set_cons_zero, List.set_cons_succ]
  refine wpAnyH_take (i := 4) (oi := _) (v := .pointer (some ⟨w.heap.size, 3, none⟩)) rfl (by kernel_rfl) (by kernel_rfl) (by kernel_rfl) (fun _ _ _ h => h) (Or.inl ⟨by rfl, ?_⟩) (by assumption) ?_
  · clear hHeld; intro X hSw; clear hSw; go_simp
  simp only [Act.put, List.getElem_toArray, List.getElem_cons_zero, List.getElem_cons_succ, List.setIfInBounds_toArray, List.set_cons_zero, List.set_cons_succ]
  refine wpAnyH_take (i := 5) (oi := _) (v := .int .i64 at_) rfl (by kernel_rfl) (by kernel_rfl) (by kernel_rfl) (fun _ _ _ h => h) (Or.inl ⟨by rfl, ?_⟩) (by assumption) ?_
  · clear hHeld; intro X hSw; obtain ⟨m0, m1, m2, m3, m4, m5, m6, m7, m8⟩ := box9 ((hSw.block _ (lt_of_heap HST.out) (by omega)).trans HST.out); clear hSw; go_simp
  simp only [Act.put, List.getElem_toArray, List.getElem_cons_zero, List.getElem_cons_succ, List.setIfInBounds_toArray, List.set_cons_zero, List.set_cons_succ]
  refine wpAnyH_take (i := 6) (oi := _) (v := .pointer (some ⟨w.heap.size, 5, none⟩)) rfl (by kernel_rfl) (by kernel_rfl) (by kernel_rfl) (fun _ _ _ h => h) (Or.inl ⟨by rfl, ?_⟩) (by assumption) ?_
  · clear hHeld; intro X hSw; clear hSw; go_simp
  simp only [Act.put, List.getElem_toArray, List.getElem_cons_zero, List.getElem_cons_succ, List.setIfInBounds_toArray, List.set_cons_zero, List.set_cons_succ]
  refine wpAnyH_take (i := 7) (oi := _) (v := .agg #[.int .i64 x.id, .int .i64 x.kind, .string x.text, .slice sa sn sc]) rfl (by kernel_rfl) (by kernel_rfl) (by kernel_rfl) (fun _ _ _ h => h) (Or.inl ⟨by rfl, ?_⟩) (by assumption) ?_
  · clear hHeld; intro X hSw; obtain ⟨m0, m1, m2, m3, m4, m5, m6, m7, m8⟩ := box9 ((hSw.block _ (lt_of_heap HST.out) (by omega)).trans HST.out); clear hSw; go_simp
  simp only [Act.put, List.getElem_toArray, List.getElem_cons_zero, List.getElem_cons_succ, List.setIfInBounds_toArray, List.set_cons_zero, List.set_cons_succ]
  refine wpAnyH_ready (rs := [8]) (by kernel_rfl) (by simp) ?_
  refine AllReadyH.cons (o := _) rfl (fun K hK => ?_) AllReadyH.nil
  rw [if_pos (by rfl)]
  simp only [List.getElem_toArray, List.getElem_cons_zero, List.getElem_cons_succ]
  have HK := Lib.hid hK
  have HS := Lib.hid hHeld
  clear hK hHeld
  go_wp2_with (go_at_call 149; refine (HCP.out _ HS.out).mono ?_; rintro e w5 ⟨_, rfl, ⟨yb, yc, rfl, hyc, hyk⟩, hb5⟩; have H5 := Lib.hid (And.intro hyc (And.intro hyk (And.intro hb5 ((hb5.block _ (lt_of_heap HB.out.2.2)).trans HB.out.2.2)))); have HS5 := Lib.hid (HS.out.then hb5); clear hyc hyk hb5)
  refine HK.out _ _ HS5.out (fun hHeld => ?_)
  clear HK HS
  obtain ⟨xn, hxn⟩ : ∃ xn, xn = foLen x.kids := ⟨_, rfl⟩
  refine wpAnyH_take (i := 9) (oi := _) (v := .agg #[.int .i8 1, .int .i64 0, .int .i64 par, .int .i64 at_, .string ⟨#[]⟩, .int .i64 x.id, .int .i64 x.kind, .string x.text, .slice yb (foLen x.kids) yc]) rfl (by kernel_rfl) (by kernel_rfl) (by kernel_rfl) (fun _ _ _ h => h) (Or.inl ⟨by rfl, ?_⟩) (by assumption) ?_
  · clear hHeld; intro X hSw; clear hSw; go_simp
  simp only [Act.put, List.getElem_toArray, List.getElem_cons_zero, List.getElem_cons_succ, List.setIfInBounds_toArray, List.set_cons_zero, List.set_cons_succ]
  refine wpAnyH_ready (rs := [10]) (by kernel_rfl) (by simp) ?_
  refine AllReadyH.cons (o := _) rfl (fun K hK => ?_) AllReadyH.nil
  rw [if_pos (by rfl)]
  simp only [List.getElem_toArray, List.getElem_cons_zero, List.getElem_cons_succ]
  have HK := Lib.hid hK
  have HS := Lib.hid hHeld
  clear hK hHeld
  have hz := H5.out.2.2.2
  obtain ⟨z0, z1, z2, z3, z4, z5, z6, z7, z8⟩ := box9 hz
  have zf : ∀ j, w5.frozen? ⟨w.heap.size + 1, j, none⟩ = false := fun j => frozen_of_row _ _ j _ _ hz
  obtain ⟨V9, hV9, v1, v2, v3, v4, v5, v6⟩ := nine_set (u0 := .int .i8 1) (u1 := .int .i64 0) (u2 := .int .i64 par) (u3 := .int .i64 at_) (u4 := .string ⟨#[]⟩) (u5 := .int .i64 x.id) (u6 := .int .i64 x.kind) (u7 := .string x.text) (u8 := .slice yb (foLen x.kids) yc) hz
  have hT9 : Tc B V9 (w.heap.size + 1) := ⟨v3.trans HS5.out.os, v4.trans HS5.out.tape, v5.trans HS5.out.output, by rw [v6]; exact HS5.out.size, fun y hy hn => (v2 y hn).trans (HS5.out.block y hy hn)⟩
  have hE : BackC w Sx ⟨1, 0, par, at_, ⟨#[]⟩, x⟩ (.returned (.agg #[.int .i8 1, .int .i64 0, .int .i64 par, .int .i64 at_, .string ⟨#[]⟩, .int .i64 x.id, .int .i64 x.kind, .string x.text, .slice yb (foLen x.kids) yc])) V9 := ⟨_, rfl, ⟨yb, yc, rfl, H5.out.1, ?kept⟩, hT9.below HB.out.1 (by omega)⟩
  case kept =>
    exact H5.out.2.1.kept fun y hy => by
      have hy1 : Sx y ∨ B.heap.size ≤ y := hy.1
      have hne : y ≠ w.heap.size + 1 := by
        rcases hy1 with h | h
        · have := HSX.out y h; omega
        · have := HB.out.2.1; omega
      exact ⟨⟨hy1.imp (fun h => h) (fun h => by have := HB.out.2.1; omega), by rw [v6]; exact hy.2⟩, v2 y hne⟩
  have HE := Lib.hid (And.intro hE (And.intro hV9 (And.intro v1 hT9)))
  clear hz hV9 v1 v2 v3 v4 v5 v6 hT9 hE
  go_wp2_with fail
  rw [← HE.out.2.1]
  refine HK.out _ _ HE.out.2.2.2 (fun hHeld => ?_)
  clear HK HS z0 z1 z2 z3 z4 z5 z6 z7 z8 zf H5 HS5
  refine wpAnyH_done (by kernel_rfl) ?_ _
  clear hHeld
  go_wp2_with fail
  refine bodyPost_ret (results_cellI rfl _ _ (w.heap.size + 1) 47 _ (0, 0) _ rfl HE.out.2.2.1 Try.underlying47 rfl (by kernel_rfl)) rfl ?_
  exact HE.out.1
end Go.Proofs.Ythjniclhnfipdaa
