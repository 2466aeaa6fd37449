/-
  .
-/
import Derived.Test.YtchccbfljamjnaaGreatWOverNQn
import Derived.Test.YtchccbfljamjnaaGreatWFieldVQn
import Derived.Test.YtchccbfljamjnaaGreatWEqualFQn
import Derived.Test.YtchccbfljamjnaaGreatICopyPQn
import Derived.Test.YtchccbfljamjnaaGreatIBacksQn
import Derived.Test.YtchccbfljamjnaaGreatWSameMQn
import Derived.Test.YtchccbfljamjnaaGreatCSmallQn
import Derived.Test.YtchccbfljamjnaaGreatJPgQn
set_option maxRecDepth 100000
set_option maxHeartbeats 40000000
set_option linter.unusedVariables false
set_option linter.unusedSimpArgs false
namespace Go.Proofs.YtchccbfljamjnaaGreat
open Go.RowKit Go.Shelf
def zb (s : Unit) (n lo hi : Int) : Option (Int × Unit) := if zh lo hi n then some (0, ()) else none
theorem Qo (X : World) (n lo hi : Int) : Calls Tryz.prog 255 #[.agg #[], .int .i64 n, .int .i64 lo, .int .i64 hi] X (fun e X' => e = (if zh lo hi n then .returned (.int .i64 0) else .panicked vR) ∧ Below X.heap.size X X') := by
 have HA := hH (zU (X.alloc (.cells #[] 87)) n lo hi)
 have HX := hH (fun X' (h : Below (X.alloc (.cells #[] 87)).heap.size (X.alloc (.cells #[] 87)) X') => (((Below.refl X.heap.size X).alloc (Nat.le_refl _) (.cells #[] 87)).trans (h.mono (by rw [World.size_alloc]; omega)) : Below X.heap.size X X'))
 cases hb : zh lo hi n
 · rw [hb] at HA
   clear hb
   go_enter Tryz.func255, Tryz.ntmps255
   go_wp2_with fail
   refine HA.out.mono ?_
   intro e w' hq; obtain ⟨rfl, hb'⟩ := hq.f
   exact ⟨rfl, rfl, HX.out _ hb'⟩
 · rw [hb] at HA
   clear hb
   go_enter Tryz.func255, Tryz.ntmps255
   go_wp2_with fail
   refine HA.out.mono ?_
   intro e w' hq; obtain ⟨rfl, hb'⟩ := hq.t
   have HB' := hH hb'
   clear hb'
   go_wp2_with fail
   go_ret
   exact ⟨rfl, HX.out _ HB'.out⟩
theorem zm (b : Nat) : yB (σ := Unit) (fun _ => True) (fun _ _ => True) (fun _ => False) zb b 87 (.agg #[]) (.agg #[]) 255 where
 jk := fun w => by rfl
 enter := fun _ _ => by rfl
 does := fun s X n lo hi _ => (Qo X n lo hi).mono fun e X' ⟨h1, h2⟩ => by
  unfold zb
  cases hb : zh lo hi n
  · rw [hb] at h1
    exact ⟨h1, zu h2 _⟩
  · rw [hb] at h1
    exact ⟨h1, fun _ => trivial, zu h2 _⟩
 keep := fun _ _ _ _ _ _ => trivial
 apart := fun h => h
 inn := fun _ _ _ _ h => h.elim
def qW (b : Bool) (v : Value) (X : World) (e : Ending) (X' : World) : Prop := e = (if b then .returned v else .panicked vR) ∧ Below X.heap.size X X'
theorem qW.yes {b : Bool} {v : Value} {X X' : World} (h : b = true) (hb : Below X.heap.size X X') : qW b v X (.returned v) X' := ⟨by rw [h]; rfl, hb⟩
theorem qW.no {b : Bool} {v : Value} {X X' : World} (h : b = false) (hb : Below X.heap.size X X') : qW b v X (.panicked vR) X' := ⟨by rw [h]; rfl, hb⟩
theorem zav (X : World) (S : Nat → Prop) (t : Tr) (ka : Option Addr) (kn kc : Nat) (hkn : kn = foLen t.kids) (hS : ∀ y, S y → y < X.heap.size) (hk : zB X S t.kids ka) :
 Calls Tryz.prog 257 #[.agg #[], .agg #[.int .i64 t.id, .int .i64 t.kind, .string t.text, .slice ka kn kc]] X (qW (zT t) (.agg #[.int .i64 0, .int .i64 0, .string ⟨#[]⟩, .slice none 0 0]) X) := by
 obtain ⟨B, hB⟩ : ∃ B, B = zn X [.cells #[] 87, .cells #[.int .i64 t.id, .int .i64 t.kind, .string t.text, .slice ka kn kc] 35, .cells #[.int .i64 0, .int .i64 0, .string ⟨#[]⟩, .slice none 0 0] 35] := ⟨_, rfl⟩
 have hb : Below X.heap.size X B := by rw [hB]; exact zl _ _
 have e1 : B.heap[X.heap.size + 1]? = some (.cells #[.int .i64 t.id, .int .i64 t.kind, .string t.text, .slice ka kn kc] 35 (0, 0)) := by rw [hB]; exact zg _ _ 1 _ rfl
 have e2 : B.heap[X.heap.size + 1 + 1]? = some (.cells #[.int .i64 0, .int .i64 0, .string ⟨#[]⟩, .slice none 0 0] 35 (0, 0)) := by rw [hB]; exact zg _ _ 2 _ rfl
 have HC := hH (Zf B S t ka kn kc hkn (fun y hy => nL (hS y hy) hb.size) (hk.below hb hS))
 obtain ⟨n0, n1, n2, n3⟩ := zcN e1
 have HB := hH (aN hb (aN hB e2))
 obtain ⟨q, hq⟩ : ∃ q, q = zT t := ⟨_, rfl⟩
 rw [← hq] at HC ⊢
 clear hq hkn hS hk hb hB e1 e2
 cases q
 · go_enter Tryz.func257, Tryz.ntmps257
   go_upto_region 1 with fail
   change Code.wp _ _ _ _ (zn X [.cells #[] 87, .cells #[.int .i64 t.id, .int .i64 t.kind, .string t.text, .slice ka kn kc] 35, .cells #[.int .i64 0, .int .i64 0, .string ⟨#[]⟩, .slice none 0 0] 35])
   rw [← HB.out.2.1]
   go_wp2_with fail
   refine HC.out.mono ?_
   intro e w' hq; obtain ⟨rfl, hb'⟩ := hq.f
   exact ⟨rfl, qW.no rfl (HB.out.1.trans (hb'.mono HB.out.1.size))⟩
 · go_enter Tryz.func257, Tryz.ntmps257
   go_upto_region 1 with fail
   change Code.wp _ _ _ _ (zn X [.cells #[] 87, .cells #[.int .i64 t.id, .int .i64 t.kind, .string t.text, .slice ka kn kc] 35, .cells #[.int .i64 0, .int .i64 0, .string ⟨#[]⟩, .slice none 0 0] 35])
   rw [← HB.out.2.1]
   go_wp2_with fail
   refine HC.out.mono ?_
   intro e Z hq; obtain ⟨rfl, hz⟩ := hq.t
   have hZ := HB.out.1.trans (hz.mono HB.out.1.size)
   have eZ := (hz.block _ (lt_of_heap HB.out.2.2)).trans HB.out.2.2
   obtain ⟨V, hV, v1, v2, v3, v4, v5, v6⟩ := Q8 (u0 := .int .i64 0) (u1 := .int .i64 0) (u2 := .string ⟨#[]⟩) (u3 := .slice none 0 0) eZ
   obtain ⟨z0, z1, z2, z3⟩ := zcN eZ
   have zf : ∀ j, Z.frozen? ⟨X.heap.size + 1 + 1, j, none⟩ = false := fun j => frozen_of_row _ _ j _ _ eZ
   have HV := hH (aN hV (aN v1 (show Below X.heap.size X V from ⟨v3.trans hZ.os, v4.trans hZ.tape, v5.trans hZ.output, by rw [v6]; exact hZ.size, fun y hy => (v2 y (by omega)).trans (hZ.block y hy)⟩)))
   clear hq hz hZ eZ hV v1 v2 v3 v4 v5 v6 n0 n1 n2 n3
   go_wp2_with fail
   rw [← HV.out.1]
   refine bodyPost_ret (zQ rfl _ _ (X.heap.size + 1 + 1) 35 _ (0, 0) _ rfl HV.out.2.1 Tryz.underlying35 rfl (by kernel_rfl)) rfl ?_
   exact qW.yes rfl HV.out.2.2
theorem Je (X : World) (la : Option Addr) (n c : Nat) (vs : List SV) (hn : n = vs.length) (h : Row X la vs) :
 Calls Tryz.prog 256 #[.agg #[], .slice la n c] X (qW (zJ (steps vs)) (.slice none 0 0) X) := by
 obtain ⟨B, hB⟩ : ∃ B, B = X.alloc (.cells #[] 87) := ⟨_, rfl⟩
 have hb : Below X.heap.size X B := by rw [hB]; exact (Below.refl _ _).alloc (Nat.le_refl _) _
 have HC := hH (Qh B la n c vs hn (h.on hb))
 have HB := hH (aN hb hB)
 obtain ⟨q, hq⟩ : ∃ q, q = zJ (steps vs) := ⟨_, rfl⟩
 rw [← hq] at HC ⊢
 clear hq hb hB hn h
 cases q
 · go_enter Tryz.func256, Tryz.ntmps256
   go_upto_region 1 with fail
   change Code.wp _ _ _ _ (X.alloc (.cells #[] 87))
   rw [← HB.out.2]
   go_wp2_with fail
   refine HC.out.mono ?_
   intro e w' hq; obtain ⟨rfl, hb'⟩ := hq.f
   exact ⟨rfl, qW.no rfl (HB.out.1.trans (hb'.mono HB.out.1.size))⟩
 · go_enter Tryz.func256, Tryz.ntmps256
   go_upto_region 1 with fail
   change Code.wp _ _ _ _ (X.alloc (.cells #[] 87))
   rw [← HB.out.2]
   go_wp2_with fail
   refine HC.out.mono ?_
   intro e Z hq; obtain ⟨rfl, hz⟩ := hq.t
   have HZ := hH (HB.out.1.trans (hz.mono HB.out.1.size))
   clear hq hz
   go_wp2_with fail
   go_ret
   exact qW.yes rfl HZ.out
theorem jC {w0 X0 X : World} {b : Nat} {O : Nat → Prop} (h0 : Below w0.heap.size w0 X0) (hb : w0.heap.size ≤ b) (hO : ∀ q, O q → w0.heap.size ≤ q) (hT : za X0 X (fun q => O q ∨ q = b)) : Below w0.heap.size w0 X :=
 ⟨hT.os.trans h0.os, hT.tape.trans h0.tape, hT.output.trans h0.output, Nat.le_trans h0.size hT.size, fun y hy => (hT.block y (nL hy h0.size) (fun h => by rcases h with h | h; have := hO y h; omega; omega)).trans (h0.block y hy)⟩
theorem Jd (w0 X0 : World) (b : Nat) (S : Nat → Prop) (t : Tr) (ka : Option Addr) (kn kc : Nat) (h0 : Below w0.heap.size w0 X0) (hb : w0.heap.size ≤ b) (hkn : kn = foLen t.kids) (hS : ∀ y, S y → y < w0.heap.size) (hk : zB w0 S t.kids ka) :
 za0 (σ := Unit) (fun _ => True) (fun _ _ => True) (fun _ => False) (fun _ => if zT t then some ((0, 0, ⟨#[]⟩, none, 0, 0), ()) else none) QE b 87 (.agg #[]) (.agg #[]) 257 "allotment/wire.tree" X0 (.agg #[.int .i64 t.id, .int .i64 t.kind, .string t.text, .slice ka kn kc]) where
 jk := fun w => by rfl
 enter := fun _ _ => by rfl
 does := fun s X _ hT => by
  have hX := jC h0 hb (fun _ h => h.elim) hT
  refine (zav X S t ka kn kc hkn (fun y hy => nL (hS y hy) hX.size) (hk.below hX hS)).mono fun e X' h => ?_
  unfold qW at h
  cases hq : zT t
  · rw [hq] at h
    exact ⟨h.1, zu h.2 _⟩
  · rw [hq] at h
    exact ⟨h.1, fun _ => trivial, zu h.2 _⟩
 keep := fun _ _ _ _ _ _ => trivial
 apart := fun h => h
 inn := fun _ _ _ _ h => h.elim
theorem Jc (w0 X0 : World) (b : Nat) (la : Option Addr) (n c : Nat) (vs : List SV) (h0 : Below w0.heap.size w0 X0) (hb : w0.heap.size ≤ b) (hn : n = vs.length) (h : Row w0 la vs) :
 za0 (σ := Unit) (fun _ => True) (fun _ _ => True) (fun _ => False) (fun _ => if zJ (steps vs) then some ((none, 0, 0), ()) else none) zaJ b 87 (.agg #[]) (.agg #[]) 256 "allotment/wire.steps" X0 (.slice la n c) where
 jk := fun w => by rfl
 enter := fun _ _ => by rfl
 does := fun s X _ hT => by
  have hX := jC h0 hb (fun _ h => h.elim) hT
  refine (Je X la n c vs hn (h.on hX)).mono fun e X' hh => ?_
  unfold qW at hh
  cases hq : zJ (steps vs)
  · rw [hq] at hh
    exact ⟨hh.1, zu hh.2 _⟩
  · rw [hq] at hh
    exact ⟨hh.1, fun _ => trivial, zu hh.2 _⟩
 keep := fun _ _ _ _ _ _ => trivial
 apart := fun h => h
 inn := fun _ _ _ _ h => h.elim
def Zv (b : Nat) (r : Bool) (X : World) (e : Ending) (W : World) : Prop := e = (if r then .returned (.tuple #[]) else .panicked vR) ∧ za X W (fun q => q = b)
theorem Zv.yes {b : Nat} {X W : World} (h : za X W (fun q => q = b)) : Zv b true X (.returned (.tuple #[])) W := ⟨rfl, h⟩
theorem Zv.no {b : Nat} {X W : World} (h : za X W (fun q => q = b)) : Zv b false X (.panicked vR) W := ⟨rfl, h⟩
theorem Js (X : World) (b : Nat) (a0 a1 a2 a3 a4 a5 a6 a7 a8 a9 a10 ai ak : Int) (sa ar : Option Addr) (an ac am ad : Nat) (aw : ByteArray) (hx : X.heap[b]? = some (.cells #[.int .i8 a0, .int .i64 a1, .int .i64 a2, .int .i64 a3, .int .i64 a4, .int .i64 a5, .int .i64 a6, .int .i64 a7, .int .i64 a8, .int .i64 a9, .int .i64 a10, .slice sa an ac, .int .i64 ai, .int .i64 ak, .string aw, .slice ar am ad] 37 (0, 0))) (hk : zh 1 10 a0 = false) :
 Calls Tryz.prog 53 #[.pointer (some ⟨b, 0, none⟩)] X (Zv b false X) := by
 have k0 : X.cell? ⟨b, 0, none⟩ = some (.int .i8 a0) := by rw [cell_of_row _ _ 0 _ _ _ hx]; rfl
 have HI := hH (ji X a0)
 have HA := hH (zZ X false)
 rw [hk] at HI
 clear hx hk
 go_enter Tryz.func53, Tryz.ntmps53
 go_wp2_with fail
 refine HI.out.mono ?_
 rintro e w1 ⟨rfl, rfl⟩
 go_wp2_with fail
 refine HA.out.mono ?_
 intro e w1 hq; obtain ⟨rfl, hb⟩ := hq.f
 exact ⟨rfl, Zv.no (zu hb _)⟩
theorem Jt (X : World) (b : Nat) (a0 a1 a2 a3 a4 a5 a6 a7 a8 a9 a10 ai ak : Int) (sa ar : Option Addr) (an ac am ad : Nat) (aw : ByteArray) (hx : X.heap[b]? = some (.cells #[.int .i8 a0, .int .i64 a1, .int .i64 a2, .int .i64 a3, .int .i64 a4, .int .i64 a5, .int .i64 a6, .int .i64 a7, .int .i64 a8, .int .i64 a9, .int .i64 a10, .slice sa an ac, .int .i64 ai, .int .i64 ak, .string aw, .slice ar am ad] 37 (0, 0))) (hk : zh 1 10 a0 = true) (ho : ∀ Y, Below X.heap.size X Y → Calls Tryz.prog 56 #[.pointer (some ⟨b, 0, none⟩), .iface 87 (.agg #[])] Y (fun e Z => e = .panicked vR ∧ za Y Z (fun q => q = b))) :
 Calls Tryz.prog 53 #[.pointer (some ⟨b, 0, none⟩)] X (Zv b false X) := by
 have k0 : X.cell? ⟨b, 0, none⟩ = some (.int .i8 a0) := by rw [cell_of_row _ _ 0 _ _ _ hx]; rfl
 have HI := hH (ji X a0)
 have HA := hH (zZ X true)
 rw [hk] at HI
 have HX := hH hx
 have HO := hH ho
 clear ho hx hk
 go_enter Tryz.func53, Tryz.ntmps53
 go_wp2_with fail
 refine HI.out.mono ?_
 rintro e w1 ⟨rfl, h2⟩
 rw [h2]
 clear h2 w1
 go_wp2_with fail
 refine HA.out.mono ?_
 intro e X1 hq; obtain ⟨rfl, hb⟩ := hq.t
 have HB := hH hb
 clear HI HA hq k0
 have k0 : X1.cell? ⟨b, 0, none⟩ = some (.int .i8 a0) := by rw [cell_of_row _ _ 0 _ _ _ ((hb.block _ (lt_of_heap HX.out)).trans HX.out)]; rfl
 clear hb
 go_upto_region 2 with fail
 change Code.wp _ _ _ _ (X1.alloc (.cells #[.int .i8 a0, .int .i64 0, .int .i64 0, .int .i64 0, .int .i64 0, .int .i64 0, .int .i64 0, .int .i64 0, .int .i64 0, .int .i64 0, .int .i64 0, .slice none 0 0, .int .i64 0, .int .i64 0, .string ⟨#[]⟩, .slice none 0 0] 37))
 obtain ⟨Y, hY⟩ : ∃ Y, Y = X1.alloc (.cells #[.int .i8 a0, .int .i64 0, .int .i64 0, .int .i64 0, .int .i64 0, .int .i64 0, .int .i64 0, .int .i64 0, .int .i64 0, .int .i64 0, .int .i64 0, .slice none 0 0, .int .i64 0, .int .i64 0, .string ⟨#[]⟩, .slice none 0 0] 37) := ⟨_, rfl⟩
 rw [← hY]
 have hyb : Below X.heap.size X Y := by rw [hY]; exact HB.out.alloc HB.out.size _
 have hyk : Y.heap[X1.heap.size]? = some (.cells #[.int .i8 a0, .int .i64 0, .int .i64 0, .int .i64 0, .int .i64 0, .int .i64 0, .int .i64 0, .int .i64 0, .int .i64 0, .int .i64 0, .int .i64 0, .slice none 0 0, .int .i64 0, .int .i64 0, .string ⟨#[]⟩, .slice none 0 0] 37 (0, 0)) := by rw [hY]; exact heap_alloc_new _ _
 have HY := hH (aN hyb hyk)
 clear hY hyb hyk k0
 go_wp2_with fail
 refine (HO.out _ HY.out.1).mono ?_
 rintro e Z ⟨rfl, hz⟩
 exact ⟨rfl, Zv.no ((zu HY.out.1 _).zN hz)⟩
theorem Zo (X : World) (b : Nat) (a0 a1 a2 a3 a4 a5 a6 a7 a8 a9 a10 ai ak : Int) (sa ar : Option Addr) (an ac am ad : Nat) (aw : ByteArray) (c0 c1 c2 c3 c4 c5 c6 c7 c8 c9 c10 ci ck : Int) (sc cr : Option Addr) (cn cc cm cd : Nat) (cw : ByteArray) (r : Bool) (hx : X.heap[b]? = some (.cells #[.int .i8 a0, .int .i64 a1, .int .i64 a2, .int .i64 a3, .int .i64 a4, .int .i64 a5, .int .i64 a6, .int .i64 a7, .int .i64 a8, .int .i64 a9, .int .i64 a10, .slice sa an ac, .int .i64 ai, .int .i64 ak, .string aw, .slice ar am ad] 37 (0, 0))) (hk : zh 1 10 a0 = true) (ho : ∀ Y, Below X.heap.size X Y → Calls Tryz.prog 56 #[.pointer (some ⟨b, 0, none⟩), .iface 87 (.agg #[])] Y (fun e Z => e = .returned (.tuple #[]) ∧ Z.heap[b]? = some (.cells #[.int .i8 c0, .int .i64 c1, .int .i64 c2, .int .i64 c3, .int .i64 c4, .int .i64 c5, .int .i64 c6, .int .i64 c7, .int .i64 c8, .int .i64 c9, .int .i64 c10, .slice sc cn cc, .int .i64 ci, .int .i64 ck, .string cw, .slice cr cm cd] 37 (0, 0)) ∧ za Y Z (fun q => q = b)))
 (hs : ∀ Z, za X Z (fun q => q = b) → Calls Tryz.prog 24 #[.agg #[.int .i8 c0, .int .i64 c1, .int .i64 c2, .int .i64 c3, .int .i64 c4, .int .i64 c5, .int .i64 c6, .int .i64 c7, .int .i64 c8, .int .i64 c9, .int .i64 c10, .slice sc cn cc, .int .i64 ci, .int .i64 ck, .string cw, .slice cr cm cd], .agg #[.int .i8 a0, .int .i64 0, .int .i64 0, .int .i64 0, .int .i64 0, .int .i64 0, .int .i64 0, .int .i64 0, .int .i64 0, .int .i64 0, .int .i64 0, .slice none 0 0, .int .i64 0, .int .i64 0, .string ⟨#[]⟩, .slice none 0 0]] Z (fun e V => e = .returned (.bool r) ∧ Below Z.heap.size Z V)) :
 Calls Tryz.prog 53 #[.pointer (some ⟨b, 0, none⟩)] X (Zv b r X) := by
 have HS := hH hs
 have k0 : X.cell? ⟨b, 0, none⟩ = some (.int .i8 a0) := by rw [cell_of_row _ _ 0 _ _ _ hx]; rfl
 have HI := hH (ji X a0)
 have HA := hH (zZ X true)
 rw [hk] at HI
 have HX := hH hx
 have HO := hH ho
 clear ho hx hk hs
 go_enter Tryz.func53, Tryz.ntmps53
 go_wp2_with fail
 refine HI.out.mono ?_
 rintro e w1 ⟨rfl, h2⟩
 rw [h2]
 clear h2 w1
 go_wp2_with fail
 refine HA.out.mono ?_
 intro e X1 hq; obtain ⟨rfl, hb⟩ := hq.t
 have HB := hH hb
 clear HI HA hq k0
 have k0 : X1.cell? ⟨b, 0, none⟩ = some (.int .i8 a0) := by rw [cell_of_row _ _ 0 _ _ _ ((hb.block _ (lt_of_heap HX.out)).trans HX.out)]; rfl
 clear hb
 go_upto_region 2 with fail
 change Code.wp _ _ _ _ (X1.alloc (.cells #[.int .i8 a0, .int .i64 0, .int .i64 0, .int .i64 0, .int .i64 0, .int .i64 0, .int .i64 0, .int .i64 0, .int .i64 0, .int .i64 0, .int .i64 0, .slice none 0 0, .int .i64 0, .int .i64 0, .string ⟨#[]⟩, .slice none 0 0] 37))
 obtain ⟨Y, hY⟩ : ∃ Y, Y = X1.alloc (.cells #[.int .i8 a0, .int .i64 0, .int .i64 0, .int .i64 0, .int .i64 0, .int .i64 0, .int .i64 0, .int .i64 0, .int .i64 0, .int .i64 0, .int .i64 0, .slice none 0 0, .int .i64 0, .int .i64 0, .string ⟨#[]⟩, .slice none 0 0] 37) := ⟨_, rfl⟩
 rw [← hY]
 have hyb : Below X.heap.size X Y := by rw [hY]; exact HB.out.alloc HB.out.size _
 have hyk : Y.heap[X1.heap.size]? = some (.cells #[.int .i8 a0, .int .i64 0, .int .i64 0, .int .i64 0, .int .i64 0, .int .i64 0, .int .i64 0, .int .i64 0, .int .i64 0, .int .i64 0, .int .i64 0, .slice none 0 0, .int .i64 0, .int .i64 0, .string ⟨#[]⟩, .slice none 0 0] 37 (0, 0)) := by rw [hY]; exact heap_alloc_new _ _
 have HY := hH (aN hyb hyk)
 clear hY hyb hyk k0
 go_wp2_with fail
 refine (HO.out _ HY.out.1).mono ?_
 rintro e Z ⟨rfl, hzb, hz⟩
 have hXZ := (zu HY.out.1 _).zN hz
 have hzk := (hz.block _ (lt_of_heap HY.out.2) (by have := HB.out.size; have := lt_of_heap HX.out; omega)).trans HY.out.2
 have HZ := hH hXZ
 have c_0 : Z.cell? ⟨b, 0, none⟩ = some (.int .i8 c0) := by rw [cell_of_row _ _ 0 _ _ _ hzb]; rfl
 have c_1 : Z.cell? ⟨b, 1, none⟩ = some (.int .i64 c1) := by rw [cell_of_row _ _ 1 _ _ _ hzb]; rfl
 have c_2 : Z.cell? ⟨b, 2, none⟩ = some (.int .i64 c2) := by rw [cell_of_row _ _ 2 _ _ _ hzb]; rfl
 have c_3 : Z.cell? ⟨b, 3, none⟩ = some (.int .i64 c3) := by rw [cell_of_row _ _ 3 _ _ _ hzb]; rfl
 have c_4 : Z.cell? ⟨b, 4, none⟩ = some (.int .i64 c4) := by rw [cell_of_row _ _ 4 _ _ _ hzb]; rfl
 have c_5 : Z.cell? ⟨b, 5, none⟩ = some (.int .i64 c5) := by rw [cell_of_row _ _ 5 _ _ _ hzb]; rfl
 have c_6 : Z.cell? ⟨b, 6, none⟩ = some (.int .i64 c6) := by rw [cell_of_row _ _ 6 _ _ _ hzb]; rfl
 have c_7 : Z.cell? ⟨b, 7, none⟩ = some (.int .i64 c7) := by rw [cell_of_row _ _ 7 _ _ _ hzb]; rfl
 have c_8 : Z.cell? ⟨b, 8, none⟩ = some (.int .i64 c8) := by rw [cell_of_row _ _ 8 _ _ _ hzb]; rfl
 have c_9 : Z.cell? ⟨b, 9, none⟩ = some (.int .i64 c9) := by rw [cell_of_row _ _ 9 _ _ _ hzb]; rfl
 have c_10 : Z.cell? ⟨b, 10, none⟩ = some (.int .i64 c10) := by rw [cell_of_row _ _ 10 _ _ _ hzb]; rfl
 have c_11 : Z.cell? ⟨b, 11, none⟩ = some (.slice sc cn cc) := by rw [cell_of_row _ _ 11 _ _ _ hzb]; rfl
 have c_12 : Z.cell? ⟨b, 12, none⟩ = some (.int .i64 ci) := by rw [cell_of_row _ _ 12 _ _ _ hzb]; rfl
 have c_13 : Z.cell? ⟨b, 13, none⟩ = some (.int .i64 ck) := by rw [cell_of_row _ _ 13 _ _ _ hzb]; rfl
 have c_14 : Z.cell? ⟨b, 14, none⟩ = some (.string cw) := by rw [cell_of_row _ _ 14 _ _ _ hzb]; rfl
 have c_15 : Z.cell? ⟨b, 15, none⟩ = some (.slice cr cm cd) := by rw [cell_of_row _ _ 15 _ _ _ hzb]; rfl
 have k_0 : Z.cell? ⟨X1.heap.size, 0, none⟩ = some (.int .i8 a0) := by rw [cell_of_row _ _ 0 _ _ _ hzk]; rfl
 have k_1 : Z.cell? ⟨X1.heap.size, 1, none⟩ = some (.int .i64 0) := by rw [cell_of_row _ _ 1 _ _ _ hzk]; rfl
 have k_2 : Z.cell? ⟨X1.heap.size, 2, none⟩ = some (.int .i64 0) := by rw [cell_of_row _ _ 2 _ _ _ hzk]; rfl
 have k_3 : Z.cell? ⟨X1.heap.size, 3, none⟩ = some (.int .i64 0) := by rw [cell_of_row _ _ 3 _ _ _ hzk]; rfl
 have k_4 : Z.cell? ⟨X1.heap.size, 4, none⟩ = some (.int .i64 0) := by rw [cell_of_row _ _ 4 _ _ _ hzk]; rfl
 have k_5 : Z.cell? ⟨X1.heap.size, 5, none⟩ = some (.int .i64 0) := by rw [cell_of_row _ _ 5 _ _ _ hzk]; rfl
 have k_6 : Z.cell? ⟨X1.heap.size, 6, none⟩ = some (.int .i64 0) := by rw [cell_of_row _ _ 6 _ _ _ hzk]; rfl
 have k_7 : Z.cell? ⟨X1.heap.size, 7, none⟩ = some (.int .i64 0) := by rw [cell_of_row _ _ 7 _ _ _ hzk]; rfl
 have k_8 : Z.cell? ⟨X1.heap.size, 8, none⟩ = some (.int .i64 0) := by rw [cell_of_row _ _ 8 _ _ _ hzk]; rfl
 have k_9 : Z.cell? ⟨X1.heap.size, 9, none⟩ = some (.int .i64 0) := by rw [cell_of_row _ _ 9 _ _ _ hzk]; rfl
 have k_10 : Z.cell? ⟨X1.heap.size, 10, none⟩ = some (.int .i64 0) := by rw [cell_of_row _ _ 10 _ _ _ hzk]; rfl
 have k_11 : Z.cell? ⟨X1.heap.size, 11, none⟩ = some (.slice none 0 0) := by rw [cell_of_row _ _ 11 _ _ _ hzk]; rfl
 have k_12 : Z.cell? ⟨X1.heap.size, 12, none⟩ = some (.int .i64 0) := by rw [cell_of_row _ _ 12 _ _ _ hzk]; rfl
 have k_13 : Z.cell? ⟨X1.heap.size, 13, none⟩ = some (.int .i64 0) := by rw [cell_of_row _ _ 13 _ _ _ hzk]; rfl
 have k_14 : Z.cell? ⟨X1.heap.size, 14, none⟩ = some (.string ⟨#[]⟩) := by rw [cell_of_row _ _ 14 _ _ _ hzk]; rfl
 have k_15 : Z.cell? ⟨X1.heap.size, 15, none⟩ = some (.slice none 0 0) := by rw [cell_of_row _ _ 15 _ _ _ hzk]; rfl
 clear hXZ hzk hz hzb
 go_wp2_with fail
 refine (HS.out _ HZ.out).mono ?_
 rintro e V ⟨rfl, hv⟩
 have HV := hH (HZ.out.zN (zu hv (fun q => q = b)))
 have HA := hH (zZ V r)
 clear hv c_0 c_1 c_2 c_3 c_4 c_5 c_6 c_7 c_8 c_9 c_10 c_11 c_12 c_13 c_14 c_15 k_0 k_1 k_2 k_3 k_4 k_5 k_6 k_7 k_8 k_9 k_10 k_11 k_12 k_13 k_14 k_15
 cases r
 · go_wp2_with fail
   refine HA.out.mono ?_
   intro e U hq; obtain ⟨rfl, hb⟩ := hq.f
   exact ⟨rfl, Zv.no (HV.out.zN (zu hb _))⟩
 · go_wp2_with fail
   refine HA.out.mono ?_
   intro e U hq; obtain ⟨rfl, hb⟩ := hq.t
   have HU := hH (HV.out.zN (zu hb (fun q => q = b)))
   clear hq hb
   go_wp2_with fail
   go_end0
   exact Zv.yes HU.out
theorem QS (args : Array Value) (w : World) : (callFunc 53 args).run Tryz.prog w = .ok (.enter 53 args) w := by rfl
theorem kW (w : World) (a0 a1 a2 a3 a4 a5 a6 a7 a8 a9 a10 ai ak : Int) (sa ar : Option Addr) (an ac am ad : Nat) (aw : ByteArray) (r : Bool) (h : ∀ B, Below w.heap.size w B → B.heap[w.heap.size]? = some (.cells #[.int .i8 a0, .int .i64 a1, .int .i64 a2, .int .i64 a3, .int .i64 a4, .int .i64 a5, .int .i64 a6, .int .i64 a7, .int .i64 a8, .int .i64 a9, .int .i64 a10, .slice sa an ac, .int .i64 ai, .int .i64 ak, .string aw, .slice ar am ad] 37 (0, 0)) → Calls Tryz.prog 53 #[.pointer (some ⟨w.heap.size, 0, none⟩)] B (Zv w.heap.size r B)) :
 Calls Tryz.prog 22 #[.agg #[.int .i8 a0, .int .i64 a1, .int .i64 a2, .int .i64 a3, .int .i64 a4, .int .i64 a5, .int .i64 a6, .int .i64 a7, .int .i64 a8, .int .i64 a9, .int .i64 a10, .slice sa an ac, .int .i64 ai, .int .i64 ak, .string aw, .slice ar am ad]] w (fun e W => e = .returned (.bool r) ∧ Below w.heap.size w W) := by
 have hmf : ∀ (fn : Fn) (first cap : Array Value) (w : World), (Instr.makeFunc fn first cap).run Tryz.prog w = .ok (.func fn first cap) w := fun _ _ _ _ => rfl
 obtain ⟨B, hB⟩ : ∃ B, B = w.alloc (.cells #[.int .i8 a0, .int .i64 a1, .int .i64 a2, .int .i64 a3, .int .i64 a4, .int .i64 a5, .int .i64 a6, .int .i64 a7, .int .i64 a8, .int .i64 a9, .int .i64 a10, .slice sa an ac, .int .i64 ai, .int .i64 ak, .string aw, .slice ar am ad] 37) := ⟨_, rfl⟩
 have hb : Below w.heap.size w B := by rw [hB]; exact (Below.refl _ _).alloc (Nat.le_refl _) _
 have h1 := h B hb (by rw [hB]; exact heap_alloc_new _ _)
 have HM := hH (zdJ B 53 ⟨w.heap.size, 0, none⟩ r (fun V => za B V (fun q => q = w.heap.size)) QS h1)
 have HB := hH hb
 have HBE := hH hB
 clear hB hb h1 h
 go_enter Tryz.func22, Tryz.ntmps22
 go_upto_region 1 with fail
 change Code.wp _ _ _ _ (w.alloc (.cells #[.int .i8 a0, .int .i64 a1, .int .i64 a2, .int .i64 a3, .int .i64 a4, .int .i64 a5, .int .i64 a6, .int .i64 a7, .int .i64 a8, .int .i64 a9, .int .i64 a10, .slice sa an ac, .int .i64 ai, .int .i64 ak, .string aw, .slice ar am ad] 37))
 rw [← HBE.out]
 go_wp2_with fail
 refine HM.out.mono ?_
 rintro e w' ⟨rfl, ht⟩
 have HW := hH (show Below w.heap.size w w' from ⟨ht.os.trans HB.out.os, ht.tape.trans HB.out.tape, ht.output.trans HB.out.output, Nat.le_trans HB.out.size ht.size, fun q hq => (ht.block q (nL hq HB.out.size) (by omega)).trans (HB.out.block q hq)⟩)
 clear ht
 go_wp2_with fail
 go_ret
 exact ⟨rfl, HW.out⟩
end Go.Proofs.YtchccbfljamjnaaGreat
namespace Go.Proofs.YtchccbfljamjnaaGreat
open Go.RowKit Go.Shelf
open Extern.Stop (cell)
theorem zby {B : Nat} {v : Value} {bs : List UInt8} {W0 w : World} (h : Qf B v bs W0 w) : ∃ a cap, v = .slice a bs.length cap ∧ J3 w a bs ∧ ∀ ad, a = some ad → B ≤ ad.block ∧ ad.block < w.heap.size := by
 have ho := h.1.1
 have hc := fun g hg => World.ownsRowF.cells ho (g := g) hg
 rcases ho.2 with ⟨hv, hn⟩ | ⟨g, cap, cur, fz, hv, hB, hh, _⟩
 · refine ⟨Option.none, 0, by rw [hv, hn], ⟨fun _ => List.eq_nil_of_length_eq_zero hn, fun ad e => by cases e⟩, fun ad e => by cases e⟩
 · subst hv
   exact ⟨_, cap, rfl, ⟨fun e => (by cases e), fun ad e j u hj => by
    cases e
    exact hc g rfl j _ (by rw [List.getElem?_map, hj]; rfl)⟩, fun ad e => by cases e; exact ⟨hB, lt_of_heap hh⟩⟩
theorem ZQ {w w' : World} {a : Option Addr} {bs : List UInt8} (h : J3 w a bs) (hk : ∀ ad, a = some ad → w'.heap[ad.block]? = w.heap[ad.block]?) : J3 w' a bs :=
 ⟨h.1, fun ad e j u hj => by
  have h1 := h.2 ad e j u hj
  exact (World.cell?_of_block (a := ad.add j) (by have : (ad.add j).block = ad.block := (by unfold Addr.add; split <;> rfl); rw [this]; exact hk ad e)).trans h1⟩
def Zx (b wb : Nat) (bs : List UInt8) (X : World) : Prop := ∃ a cap, X.heap[wb]? = some (.cells #[.slice a bs.length cap] 103 (0, 0)) ∧ J3 X a bs ∧ (∀ ad, a = some ad → ad.block ≠ b ∧ ad.block ≠ wb ∧ ad.block < X.heap.size) ∧ bs.length ≤ 1000000000000 ∧ wb ≠ b ∧ b < X.heap.size
def jK (s : List UInt8) (n lo hi : Int) : Option (Int × List UInt8) := some (n, s ++ qZ n)
theorem Zx.keep {b wb : Nat} {bs : List UInt8} {X X' : World} (h : Zx b wb bs X) (hk : ∀ q, q < X.heap.size → q ≠ b → X'.heap[q]? = X.heap[q]?) (hs : X.heap.size ≤ X'.heap.size) : Zx b wb bs X' := by
 obtain ⟨a, cap, h1, h2, h3, h4, h5, h6⟩ := h
 exact ⟨a, cap, (hk wb (lt_of_heap h1) h5).trans h1, ZQ h2 (fun ad e => hk _ (h3 ad e).2.2 (h3 ad e).1), fun ad e => ⟨(h3 ad e).1, (h3 ad e).2.1, nL (h3 ad e).2.2 hs⟩, h4, h5, nL h6 hs⟩
theorem YI (b wb : Nat) (bs : List UInt8) (X : World) (n lo hi : Int) (h : Zx b wb bs X) :
 Calls Tryz.prog 259 #[.pointer (some ⟨wb, 0, none⟩), .int .i64 n, .int .i64 lo, .int .i64 hi] X (fun e X' => e = .returned (.int .i64 n) ∧ ((bs ++ qZ n).length ≤ 1000000000000 → Zx b wb (bs ++ qZ n) X') ∧ za X X' (fun q => q = wb)) := by
 obtain ⟨a, cap, h1, h2, h3, h4, h5, h6⟩ := h
 have k0 : X.cell? ⟨wb, 0, none⟩ = some (.slice a bs.length cap) := by rw [cell_of_row _ _ 0 _ _ _ h1]; rfl
 have HP := hH (YA X a cap bs h2 h4 n)
 obtain ⟨L, hL⟩ : ∃ L, L = (bs ++ qZ n).length := ⟨_, rfl⟩
 have HE := hH (fun (v : Value) (w1 : World) (h : Qf X.heap.size v (bs ++ qZ n) X w1) => (show ∃ a' cap', v = .slice a' L cap' ∧ w1.frozen? ⟨wb, 0, none⟩ = false ∧ w1.cell? ⟨wb, 0, none⟩ = some (.slice a bs.length cap) ∧ ((bs ++ qZ n).length ≤ 1000000000000 → Zx b wb (bs ++ qZ n) (w1.setCell ⟨wb, 0, none⟩ (.slice a' L cap'))) ∧ za X (w1.setCell ⟨wb, 0, none⟩ (.slice a' L cap')) (fun q => q = wb) by
  have hb : Below X.heap.size X w1 := h.1.2.1
  have e1 := (hb.block wb (lt_of_heap h1)).trans h1
  obtain ⟨a', cap', hv, hat, had⟩ := zby h
  have ht : za w1 (w1.setCell ⟨wb, 0, none⟩ (.slice a' L cap')) (fun q => q = wb) := zt
  refine ⟨a', cap', by rw [hL]; exact hv, frozen_of_row _ _ 0 _ _ e1, by rw [cell_of_row _ _ 0 _ _ _ e1]; rfl, fun hl => ?_, (zu hb _).zN ht⟩
  refine ⟨a', cap', ?_, ZQ hat (fun ad e => ht.block _ (had ad e).2 (by have := (had ad e).1; have := lt_of_heap h1; omega)), fun ad e => ⟨by have := (had ad e).1; omega, by have := (had ad e).1; have := lt_of_heap h1; omega, nL (had ad e).2 ht.size⟩, hl, h5, nL h6 (Nat.le_trans hb.size ht.size)⟩
  rw [heap_setCell_same _ _ 0 _ _ _ e1, ← hL]; rfl))
 clear hL
 clear h1 h2 h3 h4 h5 h6
 go_enter Tryz.func259, Tryz.ntmps259
 go_wp2_with (go_at_call 262; refine HP.out.mono ?_; clear HP; rintro e w1 ⟨v1, rfl, h1⟩; obtain ⟨a', cap', rfl, f1, c1, c2⟩ := HE.out _ _ h1; have HF := hH c2; clear h1 c2)
 go_ret
 exact ⟨rfl, HF.out.1, HF.out.2⟩
theorem jL (b wb : Nat) (hne : wb ≠ b) : yB (σ := List UInt8) (fun s => s.length ≤ 1000000000000) (fun s X => Zx b wb s X) (fun q => q = wb) jK b 101 (.pointer (some ⟨wb, 0, none⟩)) (.pointer (some ⟨wb, 0, none⟩)) 259 where
 jk := fun w => by rfl
 enter := fun _ _ => by rfl
 does := fun s X n lo hi h => YI b wb s X n lo hi h
 keep := fun s X X' h hk hs => h.keep hk hs
 apart := fun h => hne h.symm
 inn := fun s X q h e => by obtain ⟨a, cap, h1, _⟩ := h; rw [e]; exact lt_of_heap h1
def J8 (b rb : Nat) (s : Rd) (X : World) : Prop := ∃ dv, yj X rb dv s ∧ rb ≠ b ∧ dv.ownBlock ≠ some b
def Qu (s : Rd) (n lo hi : Int) : Option (Int × Rd) := some (s.number.1, s.number.2)
theorem YC (b rb : Nat) (s : Rd) (X : World) (n lo hi : Int) (h : J8 b rb s X) :
 Calls Tryz.prog 270 #[.agg #[.pointer (some ⟨rb, 0, none⟩)], .int .i64 n, .int .i64 lo, .int .i64 hi] X (fun e X' => e = .returned (.int .i64 s.number.1) ∧ J8 b rb s.number.2 X' ∧ za X X' (fun q => q = rb)) := by
 obtain ⟨dv, h1, h2, h3⟩ := h
 obtain ⟨B, hB⟩ : ∃ B, B = X.alloc (.cells #[.pointer (some ⟨rb, 0, none⟩)] 114) := ⟨_, rfl⟩
 have hb : Below X.heap.size X B := by rw [hB]; exact (Below.refl _ _).alloc (Nat.le_refl _) _
 have eB : B.heap[X.heap.size]? = some (.cells #[.pointer (some ⟨rb, 0, none⟩)] 114 (0, 0)) := by rw [hB]; exact heap_alloc_new _ _
 have k0 : B.cell? ⟨X.heap.size, 0, none⟩ = some (.pointer (some ⟨rb, 0, none⟩)) := by rw [cell_of_row _ _ 0 _ _ _ eB]; rfl
 have HN := hH (J6 B rb dv s (by rw [hB]; exact h1.alloc _))
 have HX := hH (aN hb (aN hB (aN h2 h3)))
 clear hb eB h1 h2 h3 hB
 go_enter Tryz.func270, Tryz.ntmps270
 go_upto_region 1 with fail
 change Code.wp _ _ _ _ (X.alloc (.cells #[.pointer (some ⟨rb, 0, none⟩)] 114))
 rw [← HX.out.2.1]
 go_wp2_with (go_at_call 269; refine HN.out.mono ?_; clear HN; rintro e w1 ⟨v1, rfl, rfl, h1, h2⟩; have HF := hH (aN h1 h2); clear h1 h2)
 go_ret
 exact ⟨rfl, ⟨dv, HF.out.1, HX.out.2.2.1, HX.out.2.2.2⟩, (zu HX.out.1 _).zN HF.out.2⟩
theorem jI (b rb : Nat) (hne : rb ≠ b) : yB (σ := Rd) (fun _ => True) (fun s X => J8 b rb s X) (fun q => q = rb) Qu b 114 (.agg #[.pointer (some ⟨rb, 0, none⟩)]) (.agg #[.pointer (some ⟨rb, 0, none⟩)]) 270 where
 jk := fun w => by rfl
 enter := fun _ _ => by rfl
 does := fun s X n lo hi h => (YC b rb s X n lo hi h).mono fun e X' ⟨h1, h2, h3⟩ => ⟨h1, fun _ => h2, h3⟩
 keep := fun s X X' h hk hs => by
  obtain ⟨dv, h1, h2, h3⟩ := h
  refine ⟨dv, ⟨(hk _ (lt_of_heap h1.here) h2).trans h1.here, jb h1.owns (fun g hg => hk g (ZC h1.owns g hg) (fun e => h3 (by rw [hg, e]))), h1.apart, h1.fits, h1.few⟩, h2, h3⟩
 apart := fun h => hne h.symm
 inn := fun s X q h e => by obtain ⟨dv, h1, _⟩ := h; rw [e]; exact lt_of_heap h1.here
end Go.Proofs.YtchccbfljamjnaaGreat
