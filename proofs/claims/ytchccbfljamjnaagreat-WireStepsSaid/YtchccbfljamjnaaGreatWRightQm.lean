/-
  .
-/
import Derived.Test.YtchccbfljamjnaaGreatWSameMQm
import Derived.Test.YtchccbfljamjnaaGreatWHandWQm
import Derived.Test.YtchccbfljamjnaaGreatJPgQm
set_option maxRecDepth 100000
set_option maxHeartbeats 40000000
namespace Go.Proofs.YtchccbfljamjnaaGreat
open Go.RowKit Go.Shelf
set_option linter.unusedVariables false
set_option linter.unusedSimpArgs false
def Zu (b : Nat) (r : Bool) (X : World) (e : Ending) (W : World) : Prop := e = (if r then .returned (.tuple #[]) else .panicked qV) ∧ za X W (fun q => q = b)
theorem Zu.yes {b : Nat} {X W : World} (h : za X W (fun q => q = b)) : Zu b true X (.returned (.tuple #[])) W := ⟨rfl, h⟩
theorem Zu.no {b : Nat} {X W : World} (h : za X W (fun q => q = b)) : Zu b false X (.panicked qV) W := ⟨rfl, h⟩
theorem Z9 (X : World) (b : Nat) (a0 a1 a2 a3 a4 a5 a6 a7 a8 a9 a10 ai ak : Int) (sa ar : Option Addr) (an ac am ad : Nat) (aw : ByteArray) (c0 c1 c2 c3 c4 c5 c6 c7 c8 c9 c10 ci ck : Int) (sc cr : Option Addr) (cn cc cm cd : Nat) (cw : ByteArray) (r : Bool) (hx : X.heap[b]? = some (.cells #[.int .i8 a0, .int .i64 a1, .int .i64 a2, .int .i64 a3, .int .i64 a4, .int .i64 a5, .int .i64 a6, .int .i64 a7, .int .i64 a8, .int .i64 a9, .int .i64 a10, .slice sa an ac, .int .i64 ai, .int .i64 ak, .string aw, .slice ar am ad] 37 (0, 0))) (hk : zu 1 10 a0 = true) (ho : ∀ Y, Below X.heap.size X Y → Calls Tryz.prog 56 #[.pointer (some ⟨b, 0, none⟩), .iface 87 (.agg #[])] Y (fun e Z => e = .returned (.tuple #[]) ∧ Z.heap[b]? = some (.cells #[.int .i8 c0, .int .i64 c1, .int .i64 c2, .int .i64 c3, .int .i64 c4, .int .i64 c5, .int .i64 c6, .int .i64 c7, .int .i64 c8, .int .i64 c9, .int .i64 c10, .slice sc cn cc, .int .i64 ci, .int .i64 ck, .string cw, .slice cr cm cd] 37 (0, 0)) ∧ za Y Z (fun q => q = b)))
 (hs : ∀ Z, za X Z (fun q => q = b) → Calls Tryz.prog 24 #[.agg #[.int .i8 c0, .int .i64 c1, .int .i64 c2, .int .i64 c3, .int .i64 c4, .int .i64 c5, .int .i64 c6, .int .i64 c7, .int .i64 c8, .int .i64 c9, .int .i64 c10, .slice sc cn cc, .int .i64 ci, .int .i64 ck, .string cw, .slice cr cm cd], .agg #[.int .i8 a0, .int .i64 0, .int .i64 0, .int .i64 0, .int .i64 0, .int .i64 0, .int .i64 0, .int .i64 0, .int .i64 0, .int .i64 0, .int .i64 0, .slice none 0 0, .int .i64 0, .int .i64 0, .string ⟨#[]⟩, .slice none 0 0]] Z (fun e V => e = .returned (.bool r) ∧ Below Z.heap.size Z V)) :
 Calls Tryz.prog 53 #[.pointer (some ⟨b, 0, none⟩)] X (Zu b r X) := by
 have HS := hH hs
 have k0 : X.cell? ⟨b, 0, none⟩ = some (.int .i8 a0) := by rw [cell_of_row _ _ 0 _ _ _ hx]; rfl
 have HI := hH (jO X a0)
 have HA := hH (zP X true)
 rw [hk] at HI
 have HX := hH hx
 have HO := hH ho
 clear ho hx hk hs
 go_enter Tryz.func53, Tryz.ntmps53
 go_wp2_with fail
 refine HI.out.mono ?_
 rintro e w1 ⟨rfl, h2⟩
 rw [h2]
 clear h2 w1
 go_wp2_with fail
 refine HA.out.mono ?_
 intro e X1 hq; obtain ⟨rfl, hb⟩ := hq.t
 have HB := hH hb
 clear HI HA hq k0
 have k0 : X1.cell? ⟨b, 0, none⟩ = some (.int .i8 a0) := by rw [cell_of_row _ _ 0 _ _ _ ((hb.block _ (lt_of_heap HX.out)).trans HX.out)]; rfl
 clear hb
 go_upto_region 2 with fail
 change Code.wp _ _ _ _ (X1.alloc (.cells #[.int .i8 a0, .int .i64 0, .int .i64 0, .int .i64 0, .int .i64 0, .int .i64 0, .int .i64 0, .int .i64 0, .int .i64 0, .int .i64 0, .int .i64 0, .slice none 0 0, .int .i64 0, .int .i64 0, .string ⟨#[]⟩, .slice none 0 0] 37))
 obtain ⟨Y, hY⟩ : ∃ Y, Y = X1.alloc (.cells #[.int .i8 a0, .int .i64 0, .int .i64 0, .int .i64 0, .int .i64 0, .int .i64 0, .int .i64 0, .int .i64 0, .int .i64 0, .int .i64 0, .int .i64 0, .slice none 0 0, .int .i64 0, .int .i64 0, .string ⟨#[]⟩, .slice none 0 0] 37) := ⟨_, rfl⟩
 rw [← hY]
 have hyb : Below X.heap.size X Y := by rw [hY]; exact HB.out.alloc HB.out.size _
 have hyk : Y.heap[X1.heap.size]? = some (.cells #[.int .i8 a0, .int .i64 0, .int .i64 0, .int .i64 0, .int .i64 0, .int .i64 0, .int .i64 0, .int .i64 0, .int .i64 0, .int .i64 0, .int .i64 0, .slice none 0 0, .int .i64 0, .int .i64 0, .string ⟨#[]⟩, .slice none 0 0] 37 (0, 0)) := by rw [hY]; exact heap_alloc_new _ _
 have HY := hH (aN hyb hyk)
 clear hY hyb hyk k0
 go_wp2_with fail
 refine (HO.out _ HY.out.1).mono ?_
 rintro e Z ⟨rfl, hzb, hz⟩
 have hXZ := (zy HY.out.1 _).yu hz
 have hzk := (hz.block _ (lt_of_heap HY.out.2) (by have := HB.out.size; have := lt_of_heap HX.out; omega)).trans HY.out.2
 have HZ := hH hXZ
 have c_0 : Z.cell? ⟨b, 0, none⟩ = some (.int .i8 c0) := by rw [cell_of_row _ _ 0 _ _ _ hzb]; rfl
 have c_1 : Z.cell? ⟨b, 1, none⟩ = some (.int .i64 c1) := by rw [cell_of_row _ _ 1 _ _ _ hzb]; rfl
 have c_2 : Z.cell? ⟨b, 2, none⟩ = some (.int .i64 c2) := by rw [cell_of_row _ _ 2 _ _ _ hzb]; rfl
 have c_3 : Z.cell? ⟨b, 3, none⟩ = some (.int .i64 c3) := by rw [cell_of_row _ _ 3 _ _ _ hzb]; rfl
 have c_4 : Z.cell? ⟨b, 4, none⟩ = some (.int .i64 c4) := by rw [cell_of_row _ _ 4 _ _ _ hzb]; rfl
 have c_5 : Z.cell? ⟨b, 5, none⟩ = some (.int .i64 c5) := by rw [cell_of_row _ _ 5 _ _ _ hzb]; rfl
 have c_6 : Z.cell? ⟨b, 6, none⟩ = some (.int .i64 c6) := by rw [cell_of_row _ _ 6 _ _ _ hzb]; rfl
 have c_7 : Z.cell? ⟨b, 7, none⟩ = some (.int .i64 c7) := by rw [cell_of_row _ _ 7 _ _ _ hzb]; rfl
 have c_8 : Z.cell? ⟨b, 8, none⟩ = some (.int .i64 c8) := by rw [cell_of_row _ _ 8 _ _ _ hzb]; rfl
 have c_9 : Z.cell? ⟨b, 9, none⟩ = some (.int .i64 c9) := by rw [cell_of_row _ _ 9 _ _ _ hzb]; rfl
 have c_10 : Z.cell? ⟨b, 10, none⟩ = some (.int .i64 c10) := by rw [cell_of_row _ _ 10 _ _ _ hzb]; rfl
 have c_11 : Z.cell? ⟨b, 11, none⟩ = some (.slice sc cn cc) := by rw [cell_of_row _ _ 11 _ _ _ hzb]; rfl
 have c_12 : Z.cell? ⟨b, 12, none⟩ = some (.int .i64 ci) := by rw [cell_of_row _ _ 12 _ _ _ hzb]; rfl
 have c_13 : Z.cell? ⟨b, 13, none⟩ = some (.int .i64 ck) := by rw [cell_of_row _ _ 13 _ _ _ hzb]; rfl
 have c_14 : Z.cell? ⟨b, 14, none⟩ = some (.string cw) := by rw [cell_of_row _ _ 14 _ _ _ hzb]; rfl
 have c_15 : Z.cell? ⟨b, 15, none⟩ = some (.slice cr cm cd) := by rw [cell_of_row _ _ 15 _ _ _ hzb]; rfl
 have k_0 : Z.cell? ⟨X1.heap.size, 0, none⟩ = some (.int .i8 a0) := by rw [cell_of_row _ _ 0 _ _ _ hzk]; rfl
 have k_1 : Z.cell? ⟨X1.heap.size, 1, none⟩ = some (.int .i64 0) := by rw [cell_of_row _ _ 1 _ _ _ hzk]; rfl
 have k_2 : Z.cell? ⟨X1.heap.size, 2, none⟩ = some (.int .i64 0) := by rw [cell_of_row _ _ 2 _ _ _ hzk]; rfl
 have k_3 : Z.cell? ⟨X1.heap.size, 3, none⟩ = some (.int .i64 0) := by rw [cell_of_row _ _ 3 _ _ _ hzk]; rfl
 have k_4 : Z.cell? ⟨X1.heap.size, 4, none⟩ = some (.int .i64 0) := by rw [cell_of_row _ _ 4 _ _ _ hzk]; rfl
 have k_5 : Z.cell? ⟨X1.heap.size, 5, none⟩ = some (.int .i64 0) := by rw [cell_of_row _ _ 5 _ _ _ hzk]; rfl
 have k_6 : Z.cell? ⟨X1.heap.size, 6, none⟩ = some (.int .i64 0) := by rw [cell_of_row _ _ 6 _ _ _ hzk]; rfl
 have k_7 : Z.cell? ⟨X1.heap.size, 7, none⟩ = some (.int .i64 0) := by rw [cell_of_row _ _ 7 _ _ _ hzk]; rfl
 have k_8 : Z.cell? ⟨X1.heap.size, 8, none⟩ = some (.int .i64 0) := by rw [cell_of_row _ _ 8 _ _ _ hzk]; rfl
 have k_9 : Z.cell? ⟨X1.heap.size, 9, none⟩ = some (.int .i64 0) := by rw [cell_of_row _ _ 9 _ _ _ hzk]; rfl
 have k_10 : Z.cell? ⟨X1.heap.size, 10, none⟩ = some (.int .i64 0) := by rw [cell_of_row _ _ 10 _ _ _ hzk]; rfl
 have k_11 : Z.cell? ⟨X1.heap.size, 11, none⟩ = some (.slice none 0 0) := by rw [cell_of_row _ _ 11 _ _ _ hzk]; rfl
 have k_12 : Z.cell? ⟨X1.heap.size, 12, none⟩ = some (.int .i64 0) := by rw [cell_of_row _ _ 12 _ _ _ hzk]; rfl
 have k_13 : Z.cell? ⟨X1.heap.size, 13, none⟩ = some (.int .i64 0) := by rw [cell_of_row _ _ 13 _ _ _ hzk]; rfl
 have k_14 : Z.cell? ⟨X1.heap.size, 14, none⟩ = some (.string ⟨#[]⟩) := by rw [cell_of_row _ _ 14 _ _ _ hzk]; rfl
 have k_15 : Z.cell? ⟨X1.heap.size, 15, none⟩ = some (.slice none 0 0) := by rw [cell_of_row _ _ 15 _ _ _ hzk]; rfl
 clear hXZ hzk hz hzb
 go_wp2_with fail
 refine (HS.out _ HZ.out).mono ?_
 rintro e V ⟨rfl, hv⟩
 have HV := hH (HZ.out.yu (zy hv (fun q => q = b)))
 have HA := hH (zP V r)
 clear hv c_0 c_1 c_2 c_3 c_4 c_5 c_6 c_7 c_8 c_9 c_10 c_11 c_12 c_13 c_14 c_15 k_0 k_1 k_2 k_3 k_4 k_5 k_6 k_7 k_8 k_9 k_10 k_11 k_12 k_13 k_14 k_15
 cases r
 · go_wp2_with fail
   refine HA.out.mono ?_
   intro e U hq; obtain ⟨rfl, hb⟩ := hq.f
   exact ⟨rfl, Zu.no (HV.out.yu (zy hb _))⟩
 · go_wp2_with fail
   refine HA.out.mono ?_
   intro e U hq; obtain ⟨rfl, hb⟩ := hq.t
   have HU := hH (HV.out.yu (zy hb (fun q => q = b)))
   clear hq hb
   go_wp2_with fail
   go_end0
   exact Zu.yes HU.out
theorem ZI (args : Array Value) (w : World) : (callFunc 53 args).run Tryz.prog w = .ok (.enter 53 args) w := by rfl
theorem Q4 (w : World) (a0 a1 a2 a3 a4 a5 a6 a7 a8 a9 a10 ai ak : Int) (sa ar : Option Addr) (an ac am ad : Nat) (aw : ByteArray) (r : Bool) (h : ∀ B, Below w.heap.size w B → B.heap[w.heap.size]? = some (.cells #[.int .i8 a0, .int .i64 a1, .int .i64 a2, .int .i64 a3, .int .i64 a4, .int .i64 a5, .int .i64 a6, .int .i64 a7, .int .i64 a8, .int .i64 a9, .int .i64 a10, .slice sa an ac, .int .i64 ai, .int .i64 ak, .string aw, .slice ar am ad] 37 (0, 0)) → Calls Tryz.prog 53 #[.pointer (some ⟨w.heap.size, 0, none⟩)] B (Zu w.heap.size r B)) :
 Calls Tryz.prog 22 #[.agg #[.int .i8 a0, .int .i64 a1, .int .i64 a2, .int .i64 a3, .int .i64 a4, .int .i64 a5, .int .i64 a6, .int .i64 a7, .int .i64 a8, .int .i64 a9, .int .i64 a10, .slice sa an ac, .int .i64 ai, .int .i64 ak, .string aw, .slice ar am ad]] w (fun e W => e = .returned (.bool r) ∧ Below w.heap.size w W) := by
 have hmf : ∀ (fn : Fn) (first cap : Array Value) (w : World), (Instr.makeFunc fn first cap).run Tryz.prog w = .ok (.func fn first cap) w := fun _ _ _ _ => rfl
 obtain ⟨B, hB⟩ : ∃ B, B = w.alloc (.cells #[.int .i8 a0, .int .i64 a1, .int .i64 a2, .int .i64 a3, .int .i64 a4, .int .i64 a5, .int .i64 a6, .int .i64 a7, .int .i64 a8, .int .i64 a9, .int .i64 a10, .slice sa an ac, .int .i64 ai, .int .i64 ak, .string aw, .slice ar am ad] 37) := ⟨_, rfl⟩
 have hb : Below w.heap.size w B := by rw [hB]; exact (Below.refl _ _).alloc (Nat.le_refl _) _
 have h1 := h B hb (by rw [hB]; exact heap_alloc_new _ _)
 have HM := hH (Zg B 53 ⟨w.heap.size, 0, none⟩ r (fun V => za B V (fun q => q = w.heap.size)) ZI h1)
 have HB := hH hb
 have HBE := hH hB
 clear hB hb h1 h
 go_enter Tryz.func22, Tryz.ntmps22
 go_upto_region 1 with fail
 change Code.wp _ _ _ _ (w.alloc (.cells #[.int .i8 a0, .int .i64 a1, .int .i64 a2, .int .i64 a3, .int .i64 a4, .int .i64 a5, .int .i64 a6, .int .i64 a7, .int .i64 a8, .int .i64 a9, .int .i64 a10, .slice sa an ac, .int .i64 ai, .int .i64 ak, .string aw, .slice ar am ad] 37))
 rw [← HBE.out]
 go_wp2_with fail
 refine HM.out.mono ?_
 rintro e w' ⟨rfl, ht⟩
 have HW := hH (show Below w.heap.size w w' from ⟨ht.os.trans HB.out.os, ht.tape.trans HB.out.tape, ht.output.trans HB.out.output, Nat.le_trans HB.out.size ht.size, fun q hq => (ht.block q (nL hq HB.out.size) (by omega)).trans (HB.out.block q hq)⟩)
 clear ht
 go_wp2_with fail
 go_ret
 exact ⟨rfl, HW.out⟩
end Go.Proofs.YtchccbfljamjnaaGreat
