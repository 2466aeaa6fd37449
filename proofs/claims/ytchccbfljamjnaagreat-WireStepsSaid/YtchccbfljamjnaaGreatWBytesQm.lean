/-
  .
-/
import Derived.Test.YtchccbfljamjnaaGreatWRightMQm
import Derived.Test.YtchccbfljamjnaaGreatWHandWQm
import Derived.Test.YtchccbfljamjnaaGreatSOpenQm
import Derived.Test.YtchccbfljamjnaaGreatJPgQm
set_option maxRecDepth 100000
set_option maxHeartbeats 40000000
namespace Go.Proofs.YtchccbfljamjnaaGreat
open Go.RowKit Go.Shelf
open Extern.Stop (cell)
set_option linter.unusedVariables false
set_option linter.unusedSimpArgs false
theorem Jw (w : World) (a0 a1 a2 a3 a4 a5 a6 a7 a8 a9 a10 ai ak : Int) (sa ar : Option Addr) (an ac am ad : Nat) (aw : ByteArray) (h : ∀ Y, Below w.heap.size w Y → Calls Tryz.prog 22 #[.agg #[.int .i8 a0, .int .i64 a1, .int .i64 a2, .int .i64 a3, .int .i64 a4, .int .i64 a5, .int .i64 a6, .int .i64 a7, .int .i64 a8, .int .i64 a9, .int .i64 a10, .slice sa an ac, .int .i64 ai, .int .i64 ak, .string aw, .slice ar am ad]] Y (qB false Y)) :
 Calls Tryz.prog 31 #[.agg #[.int .i8 a0, .int .i64 a1, .int .i64 a2, .int .i64 a3, .int .i64 a4, .int .i64 a5, .int .i64 a6, .int .i64 a7, .int .i64 a8, .int .i64 a9, .int .i64 a10, .slice sa an ac, .int .i64 ai, .int .i64 ak, .string aw, .slice ar am ad]] w (fun e Z => e = .returned (.tuple #[.slice none 0 0, .int .i64 2]) ∧ Below w.heap.size w Z) := by
 obtain ⟨B, hB⟩ : ∃ B, B = w.alloc (.cells #[.int .i8 a0, .int .i64 a1, .int .i64 a2, .int .i64 a3, .int .i64 a4, .int .i64 a5, .int .i64 a6, .int .i64 a7, .int .i64 a8, .int .i64 a9, .int .i64 a10, .slice sa an ac, .int .i64 ai, .int .i64 ak, .string aw, .slice ar am ad] 37) := ⟨_, rfl⟩
 have hb : Below w.heap.size w B := by rw [hB]; exact (Below.refl _ _).alloc (Nat.le_refl _) _
 have hx : B.heap[w.heap.size]? = some (.cells #[.int .i8 a0, .int .i64 a1, .int .i64 a2, .int .i64 a3, .int .i64 a4, .int .i64 a5, .int .i64 a6, .int .i64 a7, .int .i64 a8, .int .i64 a9, .int .i64 a10, .slice sa an ac, .int .i64 ai, .int .i64 ak, .string aw, .slice ar am ad] 37 (0, 0)) := by rw [hB]; exact heap_alloc_new _ _
 have HR := hH (h B hb)
 have HB := hH (aN hb (aN hB hx))
 have c_0 : B.cell? ⟨w.heap.size, 0, none⟩ = some (.int .i8 a0) := by rw [cell_of_row _ _ 0 _ _ _ hx]; rfl
 have c_1 : B.cell? ⟨w.heap.size, 1, none⟩ = some (.int .i64 a1) := by rw [cell_of_row _ _ 1 _ _ _ hx]; rfl
 have c_2 : B.cell? ⟨w.heap.size, 2, none⟩ = some (.int .i64 a2) := by rw [cell_of_row _ _ 2 _ _ _ hx]; rfl
 have c_3 : B.cell? ⟨w.heap.size, 3, none⟩ = some (.int .i64 a3) := by rw [cell_of_row _ _ 3 _ _ _ hx]; rfl
 have c_4 : B.cell? ⟨w.heap.size, 4, none⟩ = some (.int .i64 a4) := by rw [cell_of_row _ _ 4 _ _ _ hx]; rfl
 have c_5 : B.cell? ⟨w.heap.size, 5, none⟩ = some (.int .i64 a5) := by rw [cell_of_row _ _ 5 _ _ _ hx]; rfl
 have c_6 : B.cell? ⟨w.heap.size, 6, none⟩ = some (.int .i64 a6) := by rw [cell_of_row _ _ 6 _ _ _ hx]; rfl
 have c_7 : B.cell? ⟨w.heap.size, 7, none⟩ = some (.int .i64 a7) := by rw [cell_of_row _ _ 7 _ _ _ hx]; rfl
 have c_8 : B.cell? ⟨w.heap.size, 8, none⟩ = some (.int .i64 a8) := by rw [cell_of_row _ _ 8 _ _ _ hx]; rfl
 have c_9 : B.cell? ⟨w.heap.size, 9, none⟩ = some (.int .i64 a9) := by rw [cell_of_row _ _ 9 _ _ _ hx]; rfl
 have c_10 : B.cell? ⟨w.heap.size, 10, none⟩ = some (.int .i64 a10) := by rw [cell_of_row _ _ 10 _ _ _ hx]; rfl
 have c_11 : B.cell? ⟨w.heap.size, 11, none⟩ = some (.slice sa an ac) := by rw [cell_of_row _ _ 11 _ _ _ hx]; rfl
 have c_12 : B.cell? ⟨w.heap.size, 12, none⟩ = some (.int .i64 ai) := by rw [cell_of_row _ _ 12 _ _ _ hx]; rfl
 have c_13 : B.cell? ⟨w.heap.size, 13, none⟩ = some (.int .i64 ak) := by rw [cell_of_row _ _ 13 _ _ _ hx]; rfl
 have c_14 : B.cell? ⟨w.heap.size, 14, none⟩ = some (.string aw) := by rw [cell_of_row _ _ 14 _ _ _ hx]; rfl
 have c_15 : B.cell? ⟨w.heap.size, 15, none⟩ = some (.slice ar am ad) := by rw [cell_of_row _ _ 15 _ _ _ hx]; rfl
 clear hb hB hx h
 go_enter Tryz.func31, Tryz.ntmps31
 go_upto_region 1 with fail
 change Code.wp _ _ _ _ (w.alloc (.cells #[.int .i8 a0, .int .i64 a1, .int .i64 a2, .int .i64 a3, .int .i64 a4, .int .i64 a5, .int .i64 a6, .int .i64 a7, .int .i64 a8, .int .i64 a9, .int .i64 a10, .slice sa an ac, .int .i64 ai, .int .i64 ak, .string aw, .slice ar am ad] 37))
 rw [← HB.out.2.1]
 go_wp2_with fail
 refine HR.out.mono ?_
 rintro e Y ⟨rfl, hy⟩
 have HY := hH hy
 clear hy HR c_0 c_1 c_2 c_3 c_4 c_5 c_6 c_7 c_8 c_9 c_10 c_11 c_12 c_13 c_14 c_15
 go_wp2_with fail
 go_ret2
 exact ⟨rfl, HB.out.1.trans (HY.out.mono HB.out.1.size)⟩
def qH (k : Nat) : UInt8 := UInt8.ofNat k
theorem YM (k : Nat) (hk : k ≤ 10) : cell (qH k) = .int .u8 (k : Int) := by
 have : k = 0 ∨ k = 1 ∨ k = 2 ∨ k = 3 ∨ k = 4 ∨ k = 5 ∨ k = 6 ∨ k = 7 ∨ k = 8 ∨ k = 9 ∨ k = 10 := by omega
 rcases this with rfl | rfl | rfl | rfl | rfl | rfl | rfl | rfl | rfl | rfl | rfl <;> rfl
theorem Y4 {a0 : Int} {k : Nat} (hk : a0 = (k : Int)) (h2 : k ≤ 10) : IntKind.u8.wrap a0 = a0 := by
 subst hk
 have : k = 0 ∨ k = 1 ∨ k = 2 ∨ k = 3 ∨ k = 4 ∨ k = 5 ∨ k = 6 ∨ k = 7 ∨ k = 8 ∨ k = 9 ∨ k = 10 := by omega
 rcases this with rfl | rfl | rfl | rfl | rfl | rfl | rfl | rfl | rfl | rfl | rfl <;> rfl
theorem zbi (Y : World) (b k : Nat) (hk : k ≤ 10) (hb : b < Y.heap.size) : jo b (Y.heap.size + 1) [qH k] ((Y.alloc (.cells #[.int .u8 (k : Int)] 5)).alloc (.cells #[.slice (some ⟨Y.heap.size, 0, none⟩) 1 1] 103)) := by
 have e1 : ((Y.alloc (.cells #[.int .u8 (k : Int)] 5)).alloc (.cells #[.slice (some ⟨Y.heap.size, 0, none⟩) 1 1] 103)).heap[Y.heap.size + 1]? = some (.cells #[.slice (some ⟨Y.heap.size, 0, none⟩) 1 1] 103 (0, 0)) := by
  have h := heap_alloc_new (Y.alloc (.cells #[.int .u8 (k : Int)] 5)) (.cells #[.slice (some ⟨Y.heap.size, 0, none⟩) 1 1] 103)
  rw [World.size_alloc] at h; exact h
 have e0 : ((Y.alloc (.cells #[.int .u8 (k : Int)] 5)).alloc (.cells #[.slice (some ⟨Y.heap.size, 0, none⟩) 1 1] 103)).heap[Y.heap.size]? = some (.cells #[.int .u8 (k : Int)] 5 (0, 0)) := by
  rw [Below.heap_alloc _ _ _ (by rw [World.size_alloc]; omega)]; exact heap_alloc_new _ _
 refine ⟨_, 1, e1, ⟨fun h => (by cases h), fun ad e j u hj => ?_⟩, fun ad e => (by cases e; exact ⟨(by show Y.heap.size ≠ b; omega), (by show Y.heap.size ≠ Y.heap.size + 1; omega), (by show Y.heap.size < _; rw [World.size_alloc, World.size_alloc]; omega)⟩), by simp, by omega, by rw [World.size_alloc, World.size_alloc]; omega⟩
 cases e
 match j, hj with
 | 0, hj =>
   cases hj
   rw [YM k hk]
   show World.cell? _ ⟨Y.heap.size, 0, none⟩ = _
   rw [cell_of_row _ _ 0 _ _ _ e0]; rfl
 | j + 1, hj => simp at hj
def zaF (bs : List UInt8) (w : World) (e : Ending) (Z : World) : Prop := ∃ v B, e = .returned (.tuple #[v, .int .i64 0]) ∧ w.heap.size ≤ B ∧ Z.ownsRow B 5 1 v bs.length (bs.map cell) ∧ Below w.heap.size w Z
theorem Qz (w : World) (a0 a1 a2 a3 a4 a5 a6 a7 a8 a9 a10 ai ak : Int) (sa ar : Option Addr) (an ac am ad : Nat) (aw : ByteArray) (k : Nat) (hk : a0 = (k : Int)) (hk2 : k ≤ 10) (bs : List UInt8) (hl : bs.length ≤ 1000000000) (h : ∀ Y, Below w.heap.size w Y → Calls Tryz.prog 22 #[.agg #[.int .i8 a0, .int .i64 a1, .int .i64 a2, .int .i64 a3, .int .i64 a4, .int .i64 a5, .int .i64 a6, .int .i64 a7, .int .i64 a8, .int .i64 a9, .int .i64 a10, .slice sa an ac, .int .i64 ai, .int .i64 ak, .string aw, .slice ar am ad]] Y (qB true Y))
 (ho : ∀ (wb : Nat) (Y : World), Below w.heap.size w Y → Y.heap[w.heap.size]? = some (.cells #[.int .i8 a0, .int .i64 a1, .int .i64 a2, .int .i64 a3, .int .i64 a4, .int .i64 a5, .int .i64 a6, .int .i64 a7, .int .i64 a8, .int .i64 a9, .int .i64 a10, .slice sa an ac, .int .i64 ai, .int .i64 ak, .string aw, .slice ar am ad] 37 (0, 0)) → jo w.heap.size wb [qH k] Y → w.heap.size < wb → Calls Tryz.prog 56 #[.pointer (some ⟨w.heap.size, 0, none⟩), .iface 101 (.pointer (some ⟨wb, 0, none⟩))] Y (fun e Z => e = .returned (.tuple #[]) ∧ jo w.heap.size wb bs Z ∧ za Y Z (fun q => q = wb ∨ q = w.heap.size))) :
 Calls Tryz.prog 31 #[.agg #[.int .i8 a0, .int .i64 a1, .int .i64 a2, .int .i64 a3, .int .i64 a4, .int .i64 a5, .int .i64 a6, .int .i64 a7, .int .i64 a8, .int .i64 a9, .int .i64 a10, .slice sa an ac, .int .i64 ai, .int .i64 ak, .string aw, .slice ar am ad]] w (zaF (yh bs) w) := by
 have HO := hH ho
 have HL := hH hl
 have hw8 := Y4 hk hk2
 have HK := hH (aN hk hk2)
 obtain ⟨B, hB⟩ : ∃ B, B = w.alloc (.cells #[.int .i8 a0, .int .i64 a1, .int .i64 a2, .int .i64 a3, .int .i64 a4, .int .i64 a5, .int .i64 a6, .int .i64 a7, .int .i64 a8, .int .i64 a9, .int .i64 a10, .slice sa an ac, .int .i64 ai, .int .i64 ak, .string aw, .slice ar am ad] 37) := ⟨_, rfl⟩
 have hb : Below w.heap.size w B := by rw [hB]; exact (Below.refl _ _).alloc (Nat.le_refl _) _
 have hx : B.heap[w.heap.size]? = some (.cells #[.int .i8 a0, .int .i64 a1, .int .i64 a2, .int .i64 a3, .int .i64 a4, .int .i64 a5, .int .i64 a6, .int .i64 a7, .int .i64 a8, .int .i64 a9, .int .i64 a10, .slice sa an ac, .int .i64 ai, .int .i64 ak, .string aw, .slice ar am ad] 37 (0, 0)) := by rw [hB]; exact heap_alloc_new _ _
 have HR := hH (h B hb)
 have HB := hH (aN hb (aN hB hx))
 have c_0 : B.cell? ⟨w.heap.size, 0, none⟩ = some (.int .i8 a0) := by rw [cell_of_row _ _ 0 _ _ _ hx]; rfl
 have c_1 : B.cell? ⟨w.heap.size, 1, none⟩ = some (.int .i64 a1) := by rw [cell_of_row _ _ 1 _ _ _ hx]; rfl
 have c_2 : B.cell? ⟨w.heap.size, 2, none⟩ = some (.int .i64 a2) := by rw [cell_of_row _ _ 2 _ _ _ hx]; rfl
 have c_3 : B.cell? ⟨w.heap.size, 3, none⟩ = some (.int .i64 a3) := by rw [cell_of_row _ _ 3 _ _ _ hx]; rfl
 have c_4 : B.cell? ⟨w.heap.size, 4, none⟩ = some (.int .i64 a4) := by rw [cell_of_row _ _ 4 _ _ _ hx]; rfl
 have c_5 : B.cell? ⟨w.heap.size, 5, none⟩ = some (.int .i64 a5) := by rw [cell_of_row _ _ 5 _ _ _ hx]; rfl
 have c_6 : B.cell? ⟨w.heap.size, 6, none⟩ = some (.int .i64 a6) := by rw [cell_of_row _ _ 6 _ _ _ hx]; rfl
 have c_7 : B.cell? ⟨w.heap.size, 7, none⟩ = some (.int .i64 a7) := by rw [cell_of_row _ _ 7 _ _ _ hx]; rfl
 have c_8 : B.cell? ⟨w.heap.size, 8, none⟩ = some (.int .i64 a8) := by rw [cell_of_row _ _ 8 _ _ _ hx]; rfl
 have c_9 : B.cell? ⟨w.heap.size, 9, none⟩ = some (.int .i64 a9) := by rw [cell_of_row _ _ 9 _ _ _ hx]; rfl
 have c_10 : B.cell? ⟨w.heap.size, 10, none⟩ = some (.int .i64 a10) := by rw [cell_of_row _ _ 10 _ _ _ hx]; rfl
 have c_11 : B.cell? ⟨w.heap.size, 11, none⟩ = some (.slice sa an ac) := by rw [cell_of_row _ _ 11 _ _ _ hx]; rfl
 have c_12 : B.cell? ⟨w.heap.size, 12, none⟩ = some (.int .i64 ai) := by rw [cell_of_row _ _ 12 _ _ _ hx]; rfl
 have c_13 : B.cell? ⟨w.heap.size, 13, none⟩ = some (.int .i64 ak) := by rw [cell_of_row _ _ 13 _ _ _ hx]; rfl
 have c_14 : B.cell? ⟨w.heap.size, 14, none⟩ = some (.string aw) := by rw [cell_of_row _ _ 14 _ _ _ hx]; rfl
 have c_15 : B.cell? ⟨w.heap.size, 15, none⟩ = some (.slice ar am ad) := by rw [cell_of_row _ _ 15 _ _ _ hx]; rfl
 clear hb hB hx h ho hl hk hk2
 go_enter Tryz.func31, Tryz.ntmps31
 go_upto_region 1 with fail
 change Code.wp _ _ _ _ (w.alloc (.cells #[.int .i8 a0, .int .i64 a1, .int .i64 a2, .int .i64 a3, .int .i64 a4, .int .i64 a5, .int .i64 a6, .int .i64 a7, .int .i64 a8, .int .i64 a9, .int .i64 a10, .slice sa an ac, .int .i64 ai, .int .i64 ak, .string aw, .slice ar am ad] 37))
 rw [← HB.out.2.1]
 go_wp2_with fail
 refine HR.out.mono ?_
 rintro e Y ⟨rfl, hy⟩
 have HY := hH hy
 clear hy HR c_0 c_1 c_2 c_3 c_4 c_5 c_6 c_7 c_8 c_9 c_10 c_11 c_12 c_13 c_14 c_15
 have hyx := (HY.out.block _ (lt_of_heap HB.out.2.2)).trans HB.out.2.2
 have k0 : Y.cell? ⟨w.heap.size, 0, none⟩ = some (.int .i8 a0) := by rw [cell_of_row _ _ 0 _ _ _ hyx]; rfl
 have HYX := hH hyx
 clear hyx
 go_upto_region 4 with fail
 change Code.wp _ _ _ _ ((Y.alloc (.cells #[.int .u8 a0] 5)).alloc (.cells #[.slice (some ⟨Y.heap.size, 0, none⟩) 1 1] 103))
 clear k0 hw8
 obtain ⟨X, hX⟩ : ∃ X, X = (Y.alloc (.cells #[.int .u8 a0] 5)).alloc (.cells #[.slice (some ⟨Y.heap.size, 0, none⟩) 1 1] 103) := ⟨_, rfl⟩
 have hyX : Below Y.heap.size Y X := by rw [hX]; exact ((Below.refl _ _).alloc (Nat.le_refl _) _).alloc (by rw [World.size_alloc]; omega) _
 have hwr : jo w.heap.size (Y.heap.size + 1) [qH k] X := by
  rw [hX, HK.out.1]
  exact zbi Y w.heap.size k HK.out.2 (lt_of_heap HYX.out)
 rw [← hX]
 have hwX := HB.out.1.trans ((HY.out.trans (hyX.mono HY.out.size)).mono HB.out.1.size)
 have HXX := hH (aN hwX (aN ((hyX.block _ (lt_of_heap HYX.out)).trans HYX.out) (aN hwr (show w.heap.size < Y.heap.size + 1 by have := lt_of_heap HYX.out; omega))))
 clear hX hyX hwr hwX
 obtain ⟨wb, hwb⟩ : ∃ wb, wb = Y.heap.size + 1 := ⟨_, rfl⟩
 rw [← hwb] at HXX
 try rw [World.size_alloc]
 rw [← hwb]
 clear hwb
 go_wp2_with fail
 refine (HO.out wb X HXX.out.1 HXX.out.2.1 HXX.out.2.2.1 HXX.out.2.2.2).mono ?_
 rintro e Z ⟨rfl, hz, ht⟩
 obtain ⟨a, cap, hz1, hz2, hz3, hz4, hz5, hz6⟩ := hz
 have k0 : Z.cell? ⟨wb, 0, none⟩ = some (.slice a bs.length cap) := by rw [cell_of_row _ _ 0 _ _ _ hz1]; rfl
 have HS := hH (Yc Z a cap bs ⟨hz2.1, hz2.2⟩ HL.out)
 have HZ := hH (show Below w.heap.size w Z from ⟨ht.os.trans HXX.out.1.os, ht.tape.trans HXX.out.1.tape, ht.output.trans HXX.out.1.output, Nat.le_trans HXX.out.1.size ht.size, fun q hq => (ht.block q (nL hq HXX.out.1.size) (by have := HXX.out.2.2.2; omega)).trans (HXX.out.1.block q hq)⟩)
 clear hz1 hz2 hz3 hz4 hz5 hz6 ht
 go_wp2_with fail
 refine HS.out.mono ?_
 rintro e V ⟨v, rfl, hv1, hv2, hv3⟩
 have HV := hH (aN hv1 (HZ.out.trans (hv2.mono HZ.out.size)))
 clear hv1 hv2 hv3 k0
 go_wp2_with fail
 go_ret2
 exact ⟨_, _, rfl, HZ.out.size, HV.out.1, HV.out.2⟩
end Go.Proofs.YtchccbfljamjnaaGreat
