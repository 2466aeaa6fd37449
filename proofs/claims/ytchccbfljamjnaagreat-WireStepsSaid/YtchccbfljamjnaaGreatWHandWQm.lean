/-
  .
-/
import Derived.Test.YtchccbfljamjnaaGreatWOverNQm
import Derived.Test.YtchccbfljamjnaaGreatCSmallQm
import Derived.Test.YtchccbfljamjnaaGreatCCloneQm
import Derived.Test.YtchccbfljamjnaaGreatJPgQm
set_option maxRecDepth 100000
set_option maxHeartbeats 40000000
set_option linter.unusedVariables false
set_option linter.unusedSimpArgs false
namespace Go.Proofs.YtchccbfljamjnaaGreat
open Go.RowKit Go.Shelf
def ql (s : Unit) (n lo hi : Int) : Option (Int × Unit) := if zu lo hi n then some (0, ()) else none
theorem Ze (X : World) (n lo hi : Int) : Calls Tryz.prog 255 #[.agg #[], .int .i64 n, .int .i64 lo, .int .i64 hi] X (fun e X' => e = (if zu lo hi n then .returned (.int .i64 0) else .panicked qV) ∧ Below X.heap.size X X') := by
 have HA := hH (zB (X.alloc (.cells #[] 87)) n lo hi)
 have HX := hH (fun X' (h : Below (X.alloc (.cells #[] 87)).heap.size (X.alloc (.cells #[] 87)) X') => (((Below.refl X.heap.size X).alloc (Nat.le_refl _) (.cells #[] 87)).trans (h.mono (by rw [World.size_alloc]; omega)) : Below X.heap.size X X'))
 cases hb : zu lo hi n
 · rw [hb] at HA
   clear hb
   go_enter Tryz.func255, Tryz.ntmps255
   go_wp2_with fail
   refine HA.out.mono ?_
   intro e w' hq; obtain ⟨rfl, hb'⟩ := hq.f
   exact ⟨rfl, rfl, HX.out _ hb'⟩
 · rw [hb] at HA
   clear hb
   go_enter Tryz.func255, Tryz.ntmps255
   go_wp2_with fail
   refine HA.out.mono ?_
   intro e w' hq; obtain ⟨rfl, hb'⟩ := hq.t
   have HB' := hH hb'
   clear hb'
   go_wp2_with fail
   go_ret
   exact ⟨rfl, HX.out _ HB'.out⟩
theorem qy (b : Nat) : yK (σ := Unit) (fun _ => True) (fun _ _ => True) (fun _ => False) ql b 87 (.agg #[]) (.agg #[]) 255 where
 ZY := fun w => by rfl
 enter := fun _ _ => by rfl
 does := fun s X n lo hi _ => (Ze X n lo hi).mono fun e X' ⟨h1, h2⟩ => by
  unfold ql
  cases hb : zu lo hi n
  · rw [hb] at h1
    exact ⟨h1, zy h2 _⟩
  · rw [hb] at h1
    exact ⟨h1, fun _ => trivial, zy h2 _⟩
 keep := fun _ _ _ _ _ _ => trivial
 apart := fun h => h
 inn := fun _ _ _ _ h => h.elim
end Go.Proofs.YtchccbfljamjnaaGreat
namespace Go.Proofs.YtchccbfljamjnaaGreat
open Go.RowKit Go.Shelf
open Extern.Stop (cell)
theorem Qx {B : Nat} {v : Value} {bs : List UInt8} {W0 w : World} (h : Zb B v bs W0 w) : ∃ a cap, v = .slice a bs.length cap ∧ Yo w a bs ∧ ∀ ad, a = some ad → B ≤ ad.block ∧ ad.block < w.heap.size := by
 have ho := h.1.1
 have hc := fun g hg => World.ownsRowF.cells ho (g := g) hg
 rcases ho.2 with ⟨hv, hn⟩ | ⟨g, cap, cur, fz, hv, hB, hh, _⟩
 · refine ⟨Option.none, 0, by rw [hv, hn], ⟨fun _ => List.eq_nil_of_length_eq_zero hn, fun ad e => by cases e⟩, fun ad e => by cases e⟩
 · subst hv
   exact ⟨_, cap, rfl, ⟨fun e => (by cases e), fun ad e j u hj => by
    cases e
    exact hc g rfl j _ (by rw [List.getElem?_map, hj]; rfl)⟩, fun ad e => by cases e; exact ⟨hB, lt_of_heap hh⟩⟩
theorem jH {w w' : World} {a : Option Addr} {bs : List UInt8} (h : Yo w a bs) (hk : ∀ ad, a = some ad → w'.heap[ad.block]? = w.heap[ad.block]?) : Yo w' a bs :=
 ⟨h.1, fun ad e j u hj => by
  have h1 := h.2 ad e j u hj
  exact (World.cell?_of_block (a := ad.add j) (by have : (ad.add j).block = ad.block := (by unfold Addr.add; split <;> rfl); rw [this]; exact hk ad e)).trans h1⟩
def jo (b wb : Nat) (bs : List UInt8) (X : World) : Prop := ∃ a cap, X.heap[wb]? = some (.cells #[.slice a bs.length cap] 103 (0, 0)) ∧ Yo X a bs ∧ (∀ ad, a = some ad → ad.block ≠ b ∧ ad.block ≠ wb ∧ ad.block < X.heap.size) ∧ bs.length ≤ 1000000000000 ∧ wb ≠ b ∧ b < X.heap.size
def qO (s : List UInt8) (n lo hi : Int) : Option (Int × List UInt8) := some (n, s ++ yS n)
theorem jo.keep {b wb : Nat} {bs : List UInt8} {X X' : World} (h : jo b wb bs X) (hk : ∀ q, q < X.heap.size → q ≠ b → X'.heap[q]? = X.heap[q]?) (hs : X.heap.size ≤ X'.heap.size) : jo b wb bs X' := by
 obtain ⟨a, cap, h1, h2, h3, h4, h5, h6⟩ := h
 exact ⟨a, cap, (hk wb (lt_of_heap h1) h5).trans h1, jH h2 (fun ad e => hk _ (h3 ad e).2.2 (h3 ad e).1), fun ad e => ⟨(h3 ad e).1, (h3 ad e).2.1, nL (h3 ad e).2.2 hs⟩, h4, h5, nL h6 hs⟩
theorem kK (b wb : Nat) (bs : List UInt8) (X : World) (n lo hi : Int) (h : jo b wb bs X) :
 Calls Tryz.prog 259 #[.pointer (some ⟨wb, 0, none⟩), .int .i64 n, .int .i64 lo, .int .i64 hi] X (fun e X' => e = .returned (.int .i64 n) ∧ ((bs ++ yS n).length ≤ 1000000000000 → jo b wb (bs ++ yS n) X') ∧ za X X' (fun q => q = wb)) := by
 obtain ⟨a, cap, h1, h2, h3, h4, h5, h6⟩ := h
 have k0 : X.cell? ⟨wb, 0, none⟩ = some (.slice a bs.length cap) := by rw [cell_of_row _ _ 0 _ _ _ h1]; rfl
 have HP := hH (kD X a cap bs h2 h4 n)
 obtain ⟨L, hL⟩ : ∃ L, L = (bs ++ yS n).length := ⟨_, rfl⟩
 have HE := hH (fun (v : Value) (w1 : World) (h : Zb X.heap.size v (bs ++ yS n) X w1) => (show ∃ a' cap', v = .slice a' L cap' ∧ w1.frozen? ⟨wb, 0, none⟩ = false ∧ w1.cell? ⟨wb, 0, none⟩ = some (.slice a bs.length cap) ∧ ((bs ++ yS n).length ≤ 1000000000000 → jo b wb (bs ++ yS n) (w1.setCell ⟨wb, 0, none⟩ (.slice a' L cap'))) ∧ za X (w1.setCell ⟨wb, 0, none⟩ (.slice a' L cap')) (fun q => q = wb) by
  have hb : Below X.heap.size X w1 := h.1.2.1
  have e1 := (hb.block wb (lt_of_heap h1)).trans h1
  obtain ⟨a', cap', hv, hat, had⟩ := Qx h
  have ht : za w1 (w1.setCell ⟨wb, 0, none⟩ (.slice a' L cap')) (fun q => q = wb) := zm
  refine ⟨a', cap', by rw [hL]; exact hv, frozen_of_row _ _ 0 _ _ e1, by rw [cell_of_row _ _ 0 _ _ _ e1]; rfl, fun hl => ?_, (zy hb _).yu ht⟩
  refine ⟨a', cap', ?_, jH hat (fun ad e => ht.block _ (had ad e).2 (by have := (had ad e).1; have := lt_of_heap h1; omega)), fun ad e => ⟨by have := (had ad e).1; omega, by have := (had ad e).1; have := lt_of_heap h1; omega, nL (had ad e).2 ht.size⟩, hl, h5, nL h6 (Nat.le_trans hb.size ht.size)⟩
  rw [heap_setCell_same _ _ 0 _ _ _ e1, ← hL]; rfl))
 clear hL
 clear h1 h2 h3 h4 h5 h6
 go_enter Tryz.func259, Tryz.ntmps259
 go_wp2_with (go_at_call 262; refine HP.out.mono ?_; clear HP; rintro e w1 ⟨v1, rfl, h1⟩; obtain ⟨a', cap', rfl, f1, c1, c2⟩ := HE.out _ _ h1; have HF := hH c2; clear h1 c2)
 go_ret
 exact ⟨rfl, HF.out.1, HF.out.2⟩
theorem qP (b wb : Nat) (hne : wb ≠ b) : yK (σ := List UInt8) (fun s => s.length ≤ 1000000000000) (fun s X => jo b wb s X) (fun q => q = wb) qO b 101 (.pointer (some ⟨wb, 0, none⟩)) (.pointer (some ⟨wb, 0, none⟩)) 259 where
 ZY := fun w => by rfl
 enter := fun _ _ => by rfl
 does := fun s X n lo hi h => kK b wb s X n lo hi h
 keep := fun s X X' h hk hs => h.keep hk hs
 apart := fun h => hne h.symm
 inn := fun s X q h e => by obtain ⟨a, cap, h1, _⟩ := h; rw [e]; exact lt_of_heap h1
def Yt (b rb : Nat) (s : Rd) (X : World) : Prop := ∃ dv, zH X rb dv s ∧ rb ≠ b ∧ dv.ownBlock ≠ some b
def Zj (s : Rd) (n lo hi : Int) : Option (Int × Rd) := some (s.number.1, s.number.2)
theorem kE (b rb : Nat) (s : Rd) (X : World) (n lo hi : Int) (h : Yt b rb s X) :
 Calls Tryz.prog 270 #[.agg #[.pointer (some ⟨rb, 0, none⟩)], .int .i64 n, .int .i64 lo, .int .i64 hi] X (fun e X' => e = .returned (.int .i64 s.number.1) ∧ Yt b rb s.number.2 X' ∧ za X X' (fun q => q = rb)) := by
 obtain ⟨dv, h1, h2, h3⟩ := h
 obtain ⟨B, hB⟩ : ∃ B, B = X.alloc (.cells #[.pointer (some ⟨rb, 0, none⟩)] 114) := ⟨_, rfl⟩
 have hb : Below X.heap.size X B := by rw [hB]; exact (Below.refl _ _).alloc (Nat.le_refl _) _
 have eB : B.heap[X.heap.size]? = some (.cells #[.pointer (some ⟨rb, 0, none⟩)] 114 (0, 0)) := by rw [hB]; exact heap_alloc_new _ _
 have k0 : B.cell? ⟨X.heap.size, 0, none⟩ = some (.pointer (some ⟨rb, 0, none⟩)) := by rw [cell_of_row _ _ 0 _ _ _ eB]; rfl
 have HN := hH (Yq B rb dv s (by rw [hB]; exact h1.alloc _))
 have HX := hH (aN hb (aN hB (aN h2 h3)))
 clear hb eB h1 h2 h3 hB
 go_enter Tryz.func270, Tryz.ntmps270
 go_upto_region 1 with fail
 change Code.wp _ _ _ _ (X.alloc (.cells #[.pointer (some ⟨rb, 0, none⟩)] 114))
 rw [← HX.out.2.1]
 go_wp2_with (go_at_call 269; refine HN.out.mono ?_; clear HN; rintro e w1 ⟨v1, rfl, rfl, h1, h2⟩; have HF := hH (aN h1 h2); clear h1 h2)
 go_ret
 exact ⟨rfl, ⟨dv, HF.out.1, HX.out.2.2.1, HX.out.2.2.2⟩, (zy HX.out.1 _).yu HF.out.2⟩
theorem qL (b rb : Nat) (hne : rb ≠ b) : yK (σ := Rd) (fun _ => True) (fun s X => Yt b rb s X) (fun q => q = rb) Zj b 114 (.agg #[.pointer (some ⟨rb, 0, none⟩)]) (.agg #[.pointer (some ⟨rb, 0, none⟩)]) 270 where
 ZY := fun w => by rfl
 enter := fun _ _ => by rfl
 does := fun s X n lo hi h => (kE b rb s X n lo hi h).mono fun e X' ⟨h1, h2, h3⟩ => ⟨h1, fun _ => h2, h3⟩
 keep := fun s X X' h hk hs => by
  obtain ⟨dv, h1, h2, h3⟩ := h
  refine ⟨dv, ⟨(hk _ (lt_of_heap h1.here) h2).trans h1.here, qm h1.owns (fun g hg => hk g (jw h1.owns g hg) (fun e => h3 (by rw [hg, e]))), h1.apart, h1.fits, h1.few⟩, h2, h3⟩
 apart := fun h => hne h.symm
 inn := fun s X q h e => by obtain ⟨dv, h1, _⟩ := h; rw [e]; exact lt_of_heap h1.here
end Go.Proofs.YtchccbfljamjnaaGreat
