/-
  .
-/
import Derived.Test.YtchccbfljamjnaaGreatWReadQm
import Derived.Test.YtchccbfljamjnaaGreatJPgQm
set_option maxRecDepth 100000
set_option maxHeartbeats 40000000
namespace Go.Proofs.YtchccbfljamjnaaGreat
open Go.RowKit Go.Shelf
open Extern.Stop (cell)
set_option linter.unusedVariables false
set_option linter.unusedSimpArgs false
theorem Yb : ∀ {qs : List (Nat × Int × Int)} {s s' : List UInt8} {cs cs' : Array Value}, yn qO qs s cs = some (s', cs') → s'.length = s.length + 8 * qs.length
 | [], s, s', cs, cs', h => by simp only [yn] at h; cases h; simp
 | q :: r, s, s', cs, cs', h => by
   simp only [yn, qO] at h
   have := Yb h
   rw [this, List.length_append, jg, List.length_cons]; omega
theorem jS (bs : List UInt8) : okN (yh bs) = true ∧ qK (yh bs) = bs := by
 have e : (yh bs).take ((yh bs).length - 4) = bs := by rw [zS, Nat.add_sub_cancel, yh, List.take_left]
 have h : okN (yh bs) = true := by unfold okN; rw [e]; simp
 exact ⟨h, by unfold qK; rw [if_pos h, e]⟩
theorem zay {A : World} {B : Nat} {v : Value} {bs : List UInt8} (ho : A.ownsRow B 5 1 v bs.length (bs.map cell)) (h0 : 0 < bs.length) : ∃ g cap, v = .slice (some ⟨g, 0, none⟩) bs.length cap ∧ B ≤ g ∧ bs.length ≤ cap ∧ (cap : Int) ≤ 9223372036854775807 ∧ zx A (some ⟨g, 0, none⟩) bs := by
 have hc := fun g hg => World.ownsRowF.cells (World.ownsRowF_of ho) (g := g) hg
 rcases ho.2 with ⟨hv, hn⟩ | ⟨g, cap, cur, hv, hB, hh, h3, h4, _⟩
 · omega
 · subst hv
   exact ⟨g, cap, rfl, hB, h3, by unfold maxLen at h4; omega, fun e => (by cases e), fun ad e j u hj => by
    cases e
    exact hc g rfl j _ (by rw [List.getElem?_map, hj]; rfl)⟩
def qs9 : List (Nat × Int × Int) := [(3, 1, 1125899906842624), qA 9]
def jU : List UInt8 := [qH 9] ++ yS 2 ++ yS 0 ++ yS 1 ++ yS 0
theorem Qk : (yh jU).length = 37 := by rw [zS]; rfl
theorem Je (b wb : Nat) (hne : wb ≠ b) (j : Nat) (F : FuncId) (q : Nat × Int × Int) (h1 : ([144, 143] : List FuncId)[j]? = some F) (h2 : qs9[j]? = some q) : kv (σ := List UInt8) (fun s => s.length ≤ 1000000000000) (fun s X => jo b wb s X) (fun q => q = wb) qO b 101 (.pointer (some ⟨wb, 0, none⟩)) 9 F q :=
 match j, h1, h2 with
 | 0, h1, h2 => by cases h1; cases h2; exact vX (qP b wb hne) 9
 | 1, h1, h2 => by cases h1; cases h2; exact qh (qP b wb hne) 9
 | j + 2, h1, h2 => by simp at h1
theorem JR (b rb : Nat) (hne : rb ≠ b) (j : Nat) (F : FuncId) (q : Nat × Int × Int) (h1 : ([144, 143] : List FuncId)[j]? = some F) (h2 : qs9[j]? = some q) : kv (σ := Rd) (fun _ => True) (fun s X => Yt b rb s X) (fun q => q = rb) Zj b 114 (.agg #[.pointer (some ⟨rb, 0, none⟩)]) 9 F q :=
 match j, h1, h2 with
 | 0, h1, h2 => by cases h1; cases h2; exact vX (qL b rb hne) 9
 | 1, h1, h2 => by cases h1; cases h2; exact qh (qL b rb hne) 9
 | j + 2, h1, h2 => by simp at h1
theorem zaU (w : World) : Calls Tryz.prog 31 #[.agg #[.int .i8 9, .int .i64 2, .int .i64 0, .int .i64 1, .int .i64 0, .int .i64 0, .int .i64 0, .int .i64 0, .int .i64 0, .int .i64 0, .int .i64 0, .slice none 0 0, .int .i64 0, .int .i64 0, .string ⟨#[]⟩, .slice none 0 0]] w (zaF (yh jU) w) :=
 Qz w 9 2 0 1 0 0 0 0 0 0 0 0 0 none none 0 0 0 0 ⟨#[]⟩ 9 rfl (by decide) jU (by decide) (fun Y _ => JU Y) fun wb Y hY hx hw hlt =>
  (jT (qP w.heap.size wb (by omega)) 9 9 rfl (by decide) (by decide) _ rfl qs9 rfl (Je w.heap.size wb (by omega)) (by decide) [qH 9] Y _ hw hx (jQ 9 2 0 1 0 0 0 0 0 0 0) (fun j s' cs' h => by
    have h2 := Yb h
    have h3 : ((qg 9 :: toQ 9 :: qs9).take j).length ≤ 4 := by rw [List.length_take]; exact Nat.min_le_right _ _
    show s'.length ≤ _
    rw [h2]; simp only [List.length_cons, List.length_nil]; omega)).mono fun e Z h => by
  rw [show yn qO (qg 9 :: toQ 9 :: qs9) [qH 9] #[.int .i8 9, .int .i64 2, .int .i64 0, .int .i64 1, .int .i64 0, .int .i64 0, .int .i64 0, .int .i64 0, .int .i64 0, .int .i64 0, .int .i64 0, .slice none 0 0, .int .i64 0, .int .i64 0, .string ⟨#[]⟩, .slice none 0 0] = some (jU, #[.int .i8 9, .int .i64 2, .int .i64 0, .int .i64 1, .int .i64 0, .int .i64 0, .int .i64 0, .int .i64 0, .int .i64 0, .int .i64 0, .int .i64 0, .slice none 0 0, .int .i64 0, .int .i64 0, .string ⟨#[]⟩, .slice none 0 0]) from rfl] at h
  exact ⟨h.1, h.2.1, h.2.2.2⟩
theorem zbw : yn Zj (qg 9 :: toQ 9 :: qs9) (⟨jU, 1, false⟩ : Rd) #[.int .i8 9, .int .i64 0, .int .i64 0, .int .i64 0, .int .i64 0, .int .i64 0, .int .i64 0, .int .i64 0, .int .i64 0, .int .i64 0, .int .i64 0, .slice none 0 0, .int .i64 0, .int .i64 0, .string ⟨#[]⟩, .slice none 0 0] = some ((⟨jU, 33, false⟩ : Rd), #[.int .i8 9, .int .i64 2, .int .i64 0, .int .i64 1, .int .i64 0, .int .i64 0, .int .i64 0, .int .i64 0, .int .i64 0, .int .i64 0, .int .i64 0, .slice none 0 0, .int .i64 0, .int .i64 0, .string ⟨#[]⟩, .slice none 0 0]) := by kernel_rfl
theorem zbj (w : World) (a : Option Addr) (cap : Nat) (hat : zx w a (yh jU)) (hc : 37 ≤ cap) (hc2 : (cap : Int) ≤ 9223372036854775807) : Calls Tryz.prog 33 #[.slice a 37 cap] w (fun e Z => e = .returned (.tuple #[.agg #[.int .i8 9, .int .i64 2, .int .i64 0, .int .i64 1, .int .i64 0, .int .i64 0, .int .i64 0, .int .i64 0, .int .i64 0, .int .i64 0, .int .i64 0, .slice none 0 0, .int .i64 0, .int .i64 0, .string ⟨#[]⟩, .slice none 0 0], .int .i64 0, .int .i64 0]) ∧ Below w.heap.size w Z) :=
 JS w a cap (yh jU) jU 9 2 0 1 0 0 0 0 0 0 0 0 0 none none 0 0 0 0 ⟨#[]⟩ 9 ⟨jU, 33, false⟩ hat (by rw [zS]; decide) (by rw [zS]; exact hc) hc2 (jS _).1 (jS _).2 (by decide) rfl (by decide) (by decide)
  (fun rb Y hY hx hr hlt => (jT (qL w.heap.size rb (by omega)) 9 9 rfl (by decide) (by decide) _ rfl qs9 rfl (JR w.heap.size rb (by omega)) (by decide) ⟨jU, 1, false⟩ Y #[.int .i8 9, .int .i64 0, .int .i64 0, .int .i64 0, .int .i64 0, .int .i64 0, .int .i64 0, .int .i64 0, .int .i64 0, .int .i64 0, .int .i64 0, .slice none 0 0, .int .i64 0, .int .i64 0, .string ⟨#[]⟩, .slice none 0 0] hr hx (jQ 9 0 0 0 0 0 0 0 0 0 0) (fun _ _ _ _ => trivial)).mono fun e Z h => by
    rw [zbw] at h
    exact ⟨h.1, h.2.1, h.2.2.1, h.2.2.2⟩) rfl (fun Y _ => JU Y)
theorem zaW (w : World) : Calls Tryz.prog 31 #[.agg #[.int .i8 1, .int .i64 0, .int .i64 1, .int .i64 0, .int .i64 1, .int .i64 1, .int .i64 0, .int .i64 0, .int .i64 0, .int .i64 0, .int .i64 0, .slice none 0 0, .int .i64 0, .int .i64 0, .string ⟨#[]⟩, .slice none 0 0]] w (fun e Z => e = .returned (.tuple #[.slice none 0 0, .int .i64 2]) ∧ Below w.heap.size w Z) :=
 Jw w 1 0 1 0 1 1 0 0 0 0 0 0 0 none none 0 0 0 0 ⟨#[]⟩ fun Y _ => za4 Y
theorem vD (w : World) : Calls Tryz.prog 21 #[] w (qB true w) := by
 have H9 := hH zaU
 have H1 := hH zaW
 have HR := hH zbj
 go_enter Tryz.func21, Tryz.ntmps21
 go_wp2_with fail
 refine (H9.out _).mono ?_
 rintro e A ⟨v, B, rfl, hB, ho, hb⟩
 have HA := hH (aN hB (aN ho hb))
 obtain ⟨g, cap, rfl, hg, hcap, hcap2, hat⟩ := zay ho (by rw [Qk]; decide)
 rw [Qk] at hcap ⊢
 have HAT := hH (aN hb (aN hat (aN hcap hcap2)))
 clear hB ho hb hg hat hcap hcap2 HA H9
 go_wp2_with fail
 refine (H1.out _).mono ?_
 rintro e C ⟨rfl, hc⟩
 have HAC := hH (aN (HAT.out.1.trans (hc.mono HAT.out.1.size)) (HAT.out.2.1.below hc))
 clear hc H1
 go_wp2_with fail
 refine (HR.out C _ cap HAC.out.2 HAT.out.2.2.1 HAT.out.2.2.2).mono ?_
 rintro e D ⟨rfl, hd⟩
 have hDt := HAC.out.2.below hd
 have b0 : D.cell? ⟨g, 0, none⟩ = some (.int .u8 9) := hDt.2 _ rfl 0 9 rfl
 have b8 : D.cell? ⟨g, 8, none⟩ = some (.int .u8 2) := hDt.2 _ rfl 8 2 rfl
 have HD := hH (HAC.out.1.trans (hd.mono HAC.out.1.size))
 obtain ⟨Y, hY⟩ : ∃ Y, Y = D.alloc (.cells #[.int .i8 9, .int .i64 2, .int .i64 0, .int .i64 1, .int .i64 0, .int .i64 0, .int .i64 0, .int .i64 0, .int .i64 0, .int .i64 0, .int .i64 0, .slice none 0 0, .int .i64 0, .int .i64 0, .string ⟨#[]⟩, .slice none 0 0] 37) := ⟨_, rfl⟩
 have hyb : Below D.heap.size D Y := by rw [hY]; exact (Below.refl _ _).alloc (Nat.le_refl _) _
 have hyr : Y.heap[D.heap.size]? = some (.cells #[.int .i8 9, .int .i64 2, .int .i64 0, .int .i64 1, .int .i64 0, .int .i64 0, .int .i64 0, .int .i64 0, .int .i64 0, .int .i64 0, .int .i64 0, .slice none 0 0, .int .i64 0, .int .i64 0, .string ⟨#[]⟩, .slice none 0 0] 37 (0, 0)) := by rw [hY]; exact heap_alloc_new _ _
 have gD : g < D.heap.size := World.block_lt_of_cell? _ _ b0
 have b0 : Y.cell? ⟨g, 0, none⟩ = some (.int .u8 9) := (World.cell?_of_block (hyb.block _ gD)).trans b0
 have b8 : Y.cell? ⟨g, 8, none⟩ = some (.int .u8 2) := (World.cell?_of_block (hyb.block _ gD)).trans b8
 have r1 : Y.cell? ⟨D.heap.size, 1, none⟩ = some (.int .i64 2) := by rw [cell_of_row _ _ 1 _ _ _ hyr]; rfl
 have r3 : Y.cell? ⟨D.heap.size, 3, none⟩ = some (.int .i64 1) := by rw [cell_of_row _ _ 3 _ _ _ hyr]; rfl
 have HY := hH (aN hY (HD.out.trans (hyb.mono HD.out.size)))
 clear hd hDt hY hyb hyr gD HAC HAT HR
 go_upto_region 4 with fail
 change Code.wp _ _ _ _ (D.alloc (.cells #[.int .i8 9, .int .i64 2, .int .i64 0, .int .i64 1, .int .i64 0, .int .i64 0, .int .i64 0, .int .i64 0, .int .i64 0, .int .i64 0, .int .i64 0, .slice none 0 0, .int .i64 0, .int .i64 0, .string ⟨#[]⟩, .slice none 0 0] 37))
 rw [← HY.out.1]
 go_wp2_with (go_quiet (fail))
 go_ret
 exact ⟨rfl, HY.out.2⟩
end Go.Proofs.YtchccbfljamjnaaGreat
