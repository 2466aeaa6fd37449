/-
  .
-/
import Derived.Test.YtchccbfljamjnaaGreatWBytesQm
import Derived.Test.YtchccbfljamjnaaGreatCSmallQm
import Derived.Test.YtchccbfljamjnaaGreatSOpenQm
import Derived.Test.YtchccbfljamjnaaGreatJPgQm
set_option maxRecDepth 100000
set_option maxHeartbeats 40000000
namespace Go.Proofs.YtchccbfljamjnaaGreat
open Go.RowKit Go.Shelf
open Extern.Stop (cell)
set_option linter.unusedVariables false
set_option linter.unusedSimpArgs false
theorem zt {U : World} {g j : Nat} {zs : Array Value} {T : TypeId} {v : Value} (h : U.heap[g]? = some (.cells zs T (0, 0))) (hj : zs[j]? = some v) : U.setCell ⟨g, j, none⟩ v = U := by
 have hs : zs.setIfInBounds j v = zs := by
  apply Array.ext_getElem?
  intro i
  rw [Array.getElem?_setIfInBounds]
  split
  · rename_i e; subst e
    have hlt := (Array.getElem?_eq_some_iff.1 hj).1
    rw [if_pos hlt, hj]
  · rfl
 have hh : (U.setCell ⟨g, j, none⟩ v).heap = U.heap := by
  apply Array.ext_getElem?
  intro i
  by_cases e : i = g
  · subst e; rw [heap_setCell_same _ _ _ _ _ _ h, hs, h]
  · exact heap_setCell_other _ _ _ _ e
 cases U
 simp only [World.setCell] at hh ⊢
 rw [hh]
theorem jZ {P : Program} {fn : Func} {p u v : Tmp} {ty : TypeId} (h : fn.results = #[.cell p ty, .tmp u, .tmp v]) (tmps : Array Value) (w : World) (g : Nat) (t : TypeId) (zs : Array Value) (fr : Nat × Nat) (d : TypeDesc) (x y : Value)
 (hp : tmps.getD p undef = .pointer (some ⟨g, 0, none⟩)) (hg : w.heap[g]? = some (.cells zs t fr)) (hu : P.underlying ty = some d) (hd : (match d with | .struct _ | .array _ _ => true | _ => false) = true) (hi : (P.info? ty).map (·.size) = some zs.size) (hp2 : tmps.getD u undef = x) (hp3 : tmps.getD v undef = y) :
 (results fn tmps).run P w = .ok (.tuple #[.agg zs, x, y]) w := by
 have hp' : tmps[p]?.getD undef = .pointer (some ⟨g, 0, none⟩) := by simpa using hp
 have hp2' : tmps[u]?.getD undef = x := by simpa using hp2
 have hp3' : tmps[v]?.getD undef = y := by simpa using hp3
 simp [results, h, hp', hp2', hp3', asAddr, run_loadVar_row w g t ty zs fr d hg hu hd hi]
theorem Qy (k : Nat) (h : k ≤ 10) : Yy (qH k) = (k : Int) := by
 have : k = 0 ∨ k = 1 ∨ k = 2 ∨ k = 3 ∨ k = 4 ∨ k = 5 ∨ k = 6 ∨ k = 7 ∨ k = 8 ∨ k = 9 ∨ k = 10 := by omega
 rcases this with rfl | rfl | rfl | rfl | rfl | rfl | rfl | rfl | rfl | rfl | rfl <;> rfl
theorem YY (w : World) (b : Nat) (dv : Value) (own : List UInt8) (k : Nat) (hk : k ≤ 10) (h0 : own[0]? = some (qH k)) (h : zH w b dv ⟨own, 0, false⟩) :
 Calls Tryz.prog 78 #[.pointer (some ⟨b, 0, none⟩)] w (fun e w' => e = .returned (.int .i8 (k : Int)) ∧ zH w' b dv ⟨own, 1, false⟩ ∧ za w w' (fun q => q = b)) :=
 (Qr w b dv _ h).mono fun e w' ⟨v, h1, h2⟩ => by
   have ho : jW own 0 = .ok ((k : Int), 1) := by unfold jW; rw [h0]; show Except.ok (Yy (qH k), 0 + 1) = _; rw [Qy k hk]
   unfold kM at h2
   rw [if_neg (by simp), ho] at h2
   obtain ⟨h3, h4, h5⟩ := h2
   exact ⟨by rw [h1, h3], h4, h5⟩
theorem JS (w : World) (a : Option Addr) (cap : Nat) (bs own : List UInt8) (c0 c1 c2 c3 c4 c5 c6 c7 c8 c9 c10 ci ck : Int) (sc cr : Option Addr) (cn cc cm cd : Nat) (cw : ByteArray) (k : Nat) (s : Rd) (hat : zx w a bs) (hl : bs.length ≤ 65536) (hc : bs.length ≤ cap) (hc2 : (cap : Int) ≤ 9223372036854775807) (hok : okN bs = true) (hown : qK bs = own) (hol : own.length ≤ 65536) (h0 : own[0]? = some (qH k)) (hk1 : 1 ≤ k) (hk2 : k ≤ 10)
 (ho : ∀ (rb : Nat) (Y : World), Below w.heap.size w Y → Y.heap[w.heap.size]? = some (.cells #[.int .i8 (k : Int), .int .i64 0, .int .i64 0, .int .i64 0, .int .i64 0, .int .i64 0, .int .i64 0, .int .i64 0, .int .i64 0, .int .i64 0, .int .i64 0, .slice none 0 0, .int .i64 0, .int .i64 0, .string ⟨#[]⟩, .slice none 0 0] 37 (0, 0)) → Yt w.heap.size rb ⟨own, 1, false⟩ Y → w.heap.size < rb → Calls Tryz.prog 56 #[.pointer (some ⟨w.heap.size, 0, none⟩), .iface 114 (.agg #[.pointer (some ⟨rb, 0, none⟩)])] Y (fun e Z => e = .returned (.tuple #[]) ∧ Yt w.heap.size rb s Z ∧ Z.heap[w.heap.size]? = some (.cells #[.int .i8 c0, .int .i64 c1, .int .i64 c2, .int .i64 c3, .int .i64 c4, .int .i64 c5, .int .i64 c6, .int .i64 c7, .int .i64 c8, .int .i64 c9, .int .i64 c10, .slice sc cn cc, .int .i64 ci, .int .i64 ck, .string cw, .slice cr cm cd] 37 (0, 0)) ∧ za Y Z (fun q => q = rb ∨ q = w.heap.size)))
 (he : s.ZH = .tuple #[.int .i64 0, .int .i64 0])
 (hR : ∀ Y, Below w.heap.size w Y → Calls Tryz.prog 22 #[.agg #[.int .i8 c0, .int .i64 c1, .int .i64 c2, .int .i64 c3, .int .i64 c4, .int .i64 c5, .int .i64 c6, .int .i64 c7, .int .i64 c8, .int .i64 c9, .int .i64 c10, .slice sc cn cc, .int .i64 ci, .int .i64 ck, .string cw, .slice cr cm cd]] Y (qB true Y)) :
 Calls Tryz.prog 33 #[.slice a bs.length cap] w (fun e Z => e = .returned (.tuple #[.agg #[.int .i8 c0, .int .i64 c1, .int .i64 c2, .int .i64 c3, .int .i64 c4, .int .i64 c5, .int .i64 c6, .int .i64 c7, .int .i64 c8, .int .i64 c9, .int .i64 c10, .slice sc cn cc, .int .i64 ci, .int .i64 ck, .string cw, .slice cr cm cd], .int .i64 0, .int .i64 0]) ∧ Below w.heap.size w Z) := by
 obtain ⟨B, hB⟩ : ∃ B, B = w.alloc (.cells #[.int .i8 0, .int .i64 0, .int .i64 0, .int .i64 0, .int .i64 0, .int .i64 0, .int .i64 0, .int .i64 0, .int .i64 0, .int .i64 0, .int .i64 0, .slice none 0 0, .int .i64 0, .int .i64 0, .string ⟨#[]⟩, .slice none 0 0] 37) := ⟨_, rfl⟩
 have hb : Below w.heap.size w B := by rw [hB]; exact (Below.refl _ _).alloc (Nat.le_refl _) _
 have hx : B.heap[w.heap.size]? = some (.cells #[.int .i8 0, .int .i64 0, .int .i64 0, .int .i64 0, .int .i64 0, .int .i64 0, .int .i64 0, .int .i64 0, .int .i64 0, .int .i64 0, .int .i64 0, .slice none 0 0, .int .i64 0, .int .i64 0, .string ⟨#[]⟩, .slice none 0 0] 37 (0, 0)) := by rw [hB]; exact heap_alloc_new _ _
 have HOP := hH (JQ B a cap bs (hat.below hb) (by omega) hc hc2)
 have HB := hH (aN hb (aN hB hx))
 have HO := hH ho
 have HR := hH hR
 have HE := hH he
 have HK := hH (aN hok (aN hown (aN h0 (aN hk1 (aN hk2 hol)))))
 have hlen : (bs.length : Int) ≤ 65536 := by omega
 obtain ⟨n, hn⟩ : ∃ n, n = bs.length := ⟨_, rfl⟩
 rw [← hn] at HOP hlen ⊢
 clear hat hl hc hc2 hok hown hol h0 hk1 hk2 ho he hR hb hB hx hn
 go_enter Tryz.func33, Tryz.ntmps33
 go_upto_region 1 with fail
 change Code.wp _ _ _ _ (w.alloc (.cells #[.int .i8 0, .int .i64 0, .int .i64 0, .int .i64 0, .int .i64 0, .int .i64 0, .int .i64 0, .int .i64 0, .int .i64 0, .int .i64 0, .int .i64 0, .slice none 0 0, .int .i64 0, .int .i64 0, .string ⟨#[]⟩, .slice none 0 0] 37))
 rw [← HB.out.2.1]
 go_wp2_with fail
 refine HOP.out.mono ?_
 rintro e B1 ⟨oa, oc, rfl, h1, h2⟩
 rw [HK.out.1, HK.out.2.1]
 rw [HK.out.2.1] at h1
 have HN := hH (QP B1 oa oc own ⟨h1.1, h1.2⟩ (by have := HK.out.2.2.2.2.2; omega))
 have H1 := hH h2
 clear h1 h2 HOP hlen
 obtain ⟨m, hm⟩ : ∃ m, m = own.length := ⟨_, rfl⟩
 rw [← hm] at HN ⊢
 clear hm
 go_wp2_with fail
 refine HN.out.mono ?_
 rintro e B2 ⟨rb, dv, rfl, hr1, hr2, hr3, hr4⟩
 have HS := hH (YY B2 rb dv own k HK.out.2.2.2.2.1 HK.out.2.2.1 hr3)
 have hwB := lt_of_heap HB.out.2.2
 have hb12 := H1.out.trans (hr4.mono H1.out.size)
 have H2 := hH (aN (show w.heap.size < rb by have := H1.out.size; omega) (aN (fun g hg => (show g ≠ w.heap.size by have := hr2 g hg; have := H1.out.size; omega)) (aN (HB.out.1.trans (hb12.mono HB.out.1.size)) ((hb12.block _ hwB).trans HB.out.2.2))))
 clear hr1 hr2 hr3 hr4 hwB hb12 HN H1
 go_wp2_with fail
 refine HS.out.mono ?_
 rintro e B3 ⟨rfl, hs1, hs2⟩
 have e3 := (hs2.block _ (lt_of_heap H2.out.2.2.2) (by have := H2.out.1; omega)).trans H2.out.2.2.2
 have f0 : B3.frozen? ⟨w.heap.size, 0, none⟩ = false := frozen_of_row _ _ 0 _ _ e3
 have k0 : B3.cell? ⟨w.heap.size, 0, none⟩ = some (.int .i8 0) := by rw [cell_of_row _ _ 0 _ _ _ e3]; rfl
 have hb3 : Below w.heap.size w B3 := ⟨hs2.os.trans H2.out.2.2.1.os, hs2.tape.trans H2.out.2.2.1.tape, hs2.output.trans H2.out.2.2.1.output, Nat.le_trans H2.out.2.2.1.size hs2.size, fun q hq => (hs2.block q (nL hq H2.out.2.2.1.size) (by have := H2.out.1; omega)).trans (H2.out.2.2.1.block q hq)⟩
 obtain ⟨X, hX⟩ : ∃ X, X = B3.setCell ⟨w.heap.size, 0, none⟩ (.int .i8 (k : Int)) := ⟨_, rfl⟩
 have hxs : za B3 X (fun q => q = w.heap.size) := by rw [hX]; exact zm
 have eX : X.heap[w.heap.size]? = some (.cells #[.int .i8 (k : Int), .int .i64 0, .int .i64 0, .int .i64 0, .int .i64 0, .int .i64 0, .int .i64 0, .int .i64 0, .int .i64 0, .int .i64 0, .int .i64 0, .slice none 0 0, .int .i64 0, .int .i64 0, .string ⟨#[]⟩, .slice none 0 0] 37 (0, 0)) := by rw [hX, heap_setCell_same _ _ 0 _ _ _ e3]; rfl
 have hbX : Below w.heap.size w X := ⟨hxs.os.trans hb3.os, hxs.tape.trans hb3.tape, hxs.output.trans hb3.output, Nat.le_trans hb3.size hxs.size, fun q hq => (hxs.block q (nL hq hb3.size) (by omega)).trans (hb3.block q hq)⟩
 have hrX : Yt w.heap.size rb ⟨own, 1, false⟩ X := ⟨dv, hs1.kept hxs (by have := H2.out.1; omega) (fun g hg => H2.out.2.1 g hg), by have := H2.out.1; omega, fun e => H2.out.2.1 _ e rfl⟩
 have HX := hH (aN hX (aN eX (aN hbX (aN hrX H2.out.1))))
 clear e3 hb3 hX hxs eX hbX hrX hs1 hs2 HS H2
 go_upto_region 8 with fail
 try change Code.wp _ _ _ _ (B3.setCell ⟨w.heap.size, 0, none⟩ (.int .i8 (k : Int)))
 rw [← HX.out.1]
 clear f0 k0
 have k0 : X.cell? ⟨w.heap.size, 0, none⟩ = some (.int .i8 (k : Int)) := by rw [cell_of_row _ _ 0 _ _ _ HX.out.2.1]; rfl
 have HI := hH (jO X (k : Int))
 rw [kT (k := k) rfl HK.out.2.2.2.1 HK.out.2.2.2.2.1] at HI
 go_wp2_with fail
 refine HI.out.mono ?_
 rintro e X' ⟨rfl, h2⟩
 rw [h2]
 clear h2 X' HI k0
 go_wp2_with fail
 refine (HO.out rb X HX.out.2.2.1 HX.out.2.1 HX.out.2.2.2.1 HX.out.2.2.2.2).mono ?_
 rintro e Z ⟨rfl, hz1, hz2, hz3⟩
 obtain ⟨dz, hd1, hd2, hd3⟩ := hz1
 have HEN := hH (J9 Z rb dz s hd1)
 have HZ := hH (aN (show Below w.heap.size w Z from ⟨hz3.os.trans HX.out.2.2.1.os, hz3.tape.trans HX.out.2.2.1.tape, hz3.output.trans HX.out.2.2.1.output, Nat.le_trans HX.out.2.2.1.size hz3.size, fun q hq => (hz3.block q (nL hq HX.out.2.2.1.size) (by have := HX.out.2.2.2.2; omega)).trans (HX.out.2.2.1.block q hq)⟩) hz2)
 clear hd1 hd2 hd3 hz2 hz3
 go_wp2_with fail
 refine HEN.out.mono ?_
 rintro e V ⟨v, rfl, rfl, _, ht⟩
 rw [HE.out]
 have eV := (ht.block _ (lt_of_heap HZ.out.2) (fun h => h)).trans HZ.out.2
 have HV := hH (show Below w.heap.size w V from ⟨ht.os.trans HZ.out.1.os, ht.tape.trans HZ.out.1.tape, ht.output.trans HZ.out.1.output, Nat.le_trans HZ.out.1.size ht.size, fun q hq => (ht.block q (nL hq HZ.out.1.size) (fun h => h)).trans (HZ.out.1.block q hq)⟩)
 clear ht
 have c_0 : V.cell? ⟨w.heap.size, 0, none⟩ = some (.int .i8 c0) := by rw [cell_of_row _ _ 0 _ _ _ eV]; rfl
 have c_1 : V.cell? ⟨w.heap.size, 1, none⟩ = some (.int .i64 c1) := by rw [cell_of_row _ _ 1 _ _ _ eV]; rfl
 have c_2 : V.cell? ⟨w.heap.size, 2, none⟩ = some (.int .i64 c2) := by rw [cell_of_row _ _ 2 _ _ _ eV]; rfl
 have c_3 : V.cell? ⟨w.heap.size, 3, none⟩ = some (.int .i64 c3) := by rw [cell_of_row _ _ 3 _ _ _ eV]; rfl
 have c_4 : V.cell? ⟨w.heap.size, 4, none⟩ = some (.int .i64 c4) := by rw [cell_of_row _ _ 4 _ _ _ eV]; rfl
 have c_5 : V.cell? ⟨w.heap.size, 5, none⟩ = some (.int .i64 c5) := by rw [cell_of_row _ _ 5 _ _ _ eV]; rfl
 have c_6 : V.cell? ⟨w.heap.size, 6, none⟩ = some (.int .i64 c6) := by rw [cell_of_row _ _ 6 _ _ _ eV]; rfl
 have c_7 : V.cell? ⟨w.heap.size, 7, none⟩ = some (.int .i64 c7) := by rw [cell_of_row _ _ 7 _ _ _ eV]; rfl
 have c_8 : V.cell? ⟨w.heap.size, 8, none⟩ = some (.int .i64 c8) := by rw [cell_of_row _ _ 8 _ _ _ eV]; rfl
 have c_9 : V.cell? ⟨w.heap.size, 9, none⟩ = some (.int .i64 c9) := by rw [cell_of_row _ _ 9 _ _ _ eV]; rfl
 have c_10 : V.cell? ⟨w.heap.size, 10, none⟩ = some (.int .i64 c10) := by rw [cell_of_row _ _ 10 _ _ _ eV]; rfl
 have c_11 : V.cell? ⟨w.heap.size, 11, none⟩ = some (.slice sc cn cc) := by rw [cell_of_row _ _ 11 _ _ _ eV]; rfl
 have c_12 : V.cell? ⟨w.heap.size, 12, none⟩ = some (.int .i64 ci) := by rw [cell_of_row _ _ 12 _ _ _ eV]; rfl
 have c_13 : V.cell? ⟨w.heap.size, 13, none⟩ = some (.int .i64 ck) := by rw [cell_of_row _ _ 13 _ _ _ eV]; rfl
 have c_14 : V.cell? ⟨w.heap.size, 14, none⟩ = some (.string cw) := by rw [cell_of_row _ _ 14 _ _ _ eV]; rfl
 have c_15 : V.cell? ⟨w.heap.size, 15, none⟩ = some (.slice cr cm cd) := by rw [cell_of_row _ _ 15 _ _ _ eV]; rfl
 have HEV := hH eV
 clear eV
 go_wp2_with fail
 refine (HR.out V HV.out).mono ?_
 rintro e U ⟨rfl, hu⟩
 have eU := (hu.block _ (lt_of_heap HEV.out)).trans HEV.out
 have HU := hH (aN (HV.out.trans (hu.mono HV.out.size)) eU)
 clear hu c_0 c_1 c_2 c_3 c_4 c_5 c_6 c_7 c_8 c_9 c_10 c_11 c_12 c_13 c_14 c_15
 have c_0 : U.cell? ⟨w.heap.size, 0, none⟩ = some (.int .i8 c0) := by rw [cell_of_row _ _ 0 _ _ _ eU]; rfl
 have c_1 : U.cell? ⟨w.heap.size, 1, none⟩ = some (.int .i64 c1) := by rw [cell_of_row _ _ 1 _ _ _ eU]; rfl
 have c_2 : U.cell? ⟨w.heap.size, 2, none⟩ = some (.int .i64 c2) := by rw [cell_of_row _ _ 2 _ _ _ eU]; rfl
 have c_3 : U.cell? ⟨w.heap.size, 3, none⟩ = some (.int .i64 c3) := by rw [cell_of_row _ _ 3 _ _ _ eU]; rfl
 have c_4 : U.cell? ⟨w.heap.size, 4, none⟩ = some (.int .i64 c4) := by rw [cell_of_row _ _ 4 _ _ _ eU]; rfl
 have c_5 : U.cell? ⟨w.heap.size, 5, none⟩ = some (.int .i64 c5) := by rw [cell_of_row _ _ 5 _ _ _ eU]; rfl
 have c_6 : U.cell? ⟨w.heap.size, 6, none⟩ = some (.int .i64 c6) := by rw [cell_of_row _ _ 6 _ _ _ eU]; rfl
 have c_7 : U.cell? ⟨w.heap.size, 7, none⟩ = some (.int .i64 c7) := by rw [cell_of_row _ _ 7 _ _ _ eU]; rfl
 have c_8 : U.cell? ⟨w.heap.size, 8, none⟩ = some (.int .i64 c8) := by rw [cell_of_row _ _ 8 _ _ _ eU]; rfl
 have c_9 : U.cell? ⟨w.heap.size, 9, none⟩ = some (.int .i64 c9) := by rw [cell_of_row _ _ 9 _ _ _ eU]; rfl
 have c_10 : U.cell? ⟨w.heap.size, 10, none⟩ = some (.int .i64 c10) := by rw [cell_of_row _ _ 10 _ _ _ eU]; rfl
 have c_11 : U.cell? ⟨w.heap.size, 11, none⟩ = some (.slice sc cn cc) := by rw [cell_of_row _ _ 11 _ _ _ eU]; rfl
 have c_12 : U.cell? ⟨w.heap.size, 12, none⟩ = some (.int .i64 ci) := by rw [cell_of_row _ _ 12 _ _ _ eU]; rfl
 have c_13 : U.cell? ⟨w.heap.size, 13, none⟩ = some (.int .i64 ck) := by rw [cell_of_row _ _ 13 _ _ _ eU]; rfl
 have c_14 : U.cell? ⟨w.heap.size, 14, none⟩ = some (.string cw) := by rw [cell_of_row _ _ 14 _ _ _ eU]; rfl
 have c_15 : U.cell? ⟨w.heap.size, 15, none⟩ = some (.slice cr cm cd) := by rw [cell_of_row _ _ 15 _ _ _ eU]; rfl
 have ff : ∀ j, U.frozen? ⟨w.heap.size, j, none⟩ = false := fun j => frozen_of_row _ _ j _ _ eU
 clear eU
 go_wp2_with fail
 rw [zt (U := U) (g := w.heap.size) (j := 0) (v := .int .i8 c0) HU.out.2 rfl, zt (U := U) (g := w.heap.size) (j := 1) (v := .int .i64 c1) HU.out.2 rfl, zt (U := U) (g := w.heap.size) (j := 2) (v := .int .i64 c2) HU.out.2 rfl, zt (U := U) (g := w.heap.size) (j := 3) (v := .int .i64 c3) HU.out.2 rfl, zt (U := U) (g := w.heap.size) (j := 4) (v := .int .i64 c4) HU.out.2 rfl, zt (U := U) (g := w.heap.size) (j := 5) (v := .int .i64 c5) HU.out.2 rfl, zt (U := U) (g := w.heap.size) (j := 6) (v := .int .i64 c6) HU.out.2 rfl, zt (U := U) (g := w.heap.size) (j := 7) (v := .int .i64 c7) HU.out.2 rfl, zt (U := U) (g := w.heap.size) (j := 8) (v := .int .i64 c8) HU.out.2 rfl, zt (U := U) (g := w.heap.size) (j := 9) (v := .int .i64 c9) HU.out.2 rfl, zt (U := U) (g := w.heap.size) (j := 10) (v := .int .i64 c10) HU.out.2 rfl, zt (U := U) (g := w.heap.size) (j := 11) (v := .slice sc cn cc) HU.out.2 rfl, zt (U := U) (g := w.heap.size) (j := 12) (v := .int .i64 ci) HU.out.2 rfl, zt (U := U) (g := w.heap.size) (j := 13) (v := .int .i64 ck) HU.out.2 rfl, zt (U := U) (g := w.heap.size) (j := 14) (v := .string cw) HU.out.2 rfl, zt (U := U) (g := w.heap.size) (j := 15) (v := .slice cr cm cd) HU.out.2 rfl]
 refine bodyPost_ret (jZ rfl _ _ w.heap.size 37 #[.int .i8 c0, .int .i64 c1, .int .i64 c2, .int .i64 c3, .int .i64 c4, .int .i64 c5, .int .i64 c6, .int .i64 c7, .int .i64 c8, .int .i64 c9, .int .i64 c10, .slice sc cn cc, .int .i64 ci, .int .i64 ck, .string cw, .slice cr cm cd] (0, 0) _ (.int .i64 0) (.int .i64 0) rfl HU.out.2 Tryz.underlying37 rfl (by kernel_rfl) rfl rfl) rfl ?_
 exact ⟨rfl, HU.out.1⟩
end Go.Proofs.YtchccbfljamjnaaGreat
