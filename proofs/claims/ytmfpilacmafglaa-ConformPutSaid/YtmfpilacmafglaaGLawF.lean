/-
  What GrammarFits answers: true. No condition but that its arguments lie in memory as they came in.
-/
import Derived.Test.YtmfpilacmafglaaGWakes
import Derived.Deep.RegionHeld3
namespace Go.Proofs.Ytmfpilacmafglaa
open Go.RowKit

theorem great_few {g : Gr} (h : greatG g = false) : g.few ∧ g.kinds.length ≤ 40 := by
  simp only [greatG, Bool.or_eq_false_iff, decide_eq_false_iff_not, List.any_eq_false] at h
  refine ⟨⟨by omega, fun k hk => ?_⟩, by omega⟩
  have h1 := h.2 k hk
  simp only [greatK, Bool.or_eq_true, decide_eq_true_eq, List.any_eq_true, not_or, not_exists, not_and] at h1
  refine ⟨by omega, by omega, fun s hs => ?_⟩
  have h2 := h1.2 s hs
  simp only [greatS, decide_eq_true_eq] at h2
  show s.kinds.length ≤ 1000000
  omega

/-- Behind the world W0 of a box of a grammar. -/
theorem box_two {w X : World} {ka : Option Addr} {n kc : Nat} {root : Int} (h : Below (w.alloc (.cells #[.slice ka n kc, .int .i64 root] 55)).heap.size (w.alloc (.cells #[.slice ka n kc, .int .i64 root] 55)) X) :
    X.cell? ⟨w.heap.size, 0, none⟩ = some (.slice ka n kc) ∧ X.cell? ⟨w.heap.size, 1, none⟩ = some (.int .i64 root) := ⟨boxed_cell h 0 _ rfl, boxed_cell h 1 _ rfl⟩

set_option maxRecDepth 100000 in
set_option maxHeartbeats 1000000 in
theorem grammarFits_any (w : World) (v : Value) (g : Gr) (n : Int) (a : Option Addr) (cap : Nat) (kids : List Int) (hv : GrV w v g) (hf : g.fits) (h : IntsAt w a kids) (hm : (kids.length : Int) ≤ 9223372036854775807) :
    Calls Try.prog 5 #[v, .int .i64 n, .slice a kids.length cap] w (Says true w) := by
  obtain ⟨ka, kc, rfl, hk⟩ := hv
  obtain ⟨l, root⟩ := g
  simp only at hk
  have HF := Lib.hid hf
  have HK := Lib.hid hk
  have HA := Lib.hid h
  have HW := Lib.hid wakes_any
  clear hf hk h
  obtain ⟨W0, hW0⟩ : ∃ W0, W0 = w.alloc (.cells #[.slice ka l.length kc, .int .i64 root] 55) := ⟨_, rfl⟩
  have HB0 := Lib.hid (show Below w.heap.size w W0 by rw [hW0]; exact box_below _ _)
  have HBOX := Lib.hid (show ∀ X, Below W0.heap.size W0 X → X.cell? ⟨w.heap.size, 0, none⟩ = some (.slice ka l.length kc) ∧ X.cell? ⟨w.heap.size, 1, none⟩ = some (.int .i64 root) by rw [hW0]; exact fun X hX => box_two hX)
  have HW0 := Lib.hid hW0
  clear hW0
  by_cases hg : greatG ⟨l, root⟩ = true
  · have HG := Lib.hid hg
    clear hg
    go_enter Try.func5, Try.ntmps5
    go_wp2_with (first
      | (go_at_call 25; ((with_reducible refine (great_any _ _ _ (grV (HK.out.below (box_below _ _))) HF.out).mono ?_); rintro e w2 ⟨rfl, h2⟩; rw [HG.out]; have H2 := Lib.hid ((box_below w _).trans (h2.mono (box_below w _).size)); clear h2))
      | (go_at_call 26; ((with_reducible refine (HW.out _).mono ?_); rintro e w3 ⟨rfl, h3⟩; have H3 := Lib.hid (H2.out.trans (h3.mono H2.out.size)); clear h3)))
    go_ret
    exact ⟨rfl, H3.out⟩
  have hg' : greatG ⟨l, root⟩ = false := by simpa using hg
  have HG := Lib.hid hg'
  have HFEW := Lib.hid (great_few hg').1
  clear hg hg'
  by_cases h300 : 300 < kids.length
  · have h300' : (300 : Int) < (kids.length : Int) := by omega
    go_enter Try.func5, Try.ntmps5
    go_wp2_with (first
      | (go_at_call 25; ((with_reducible refine (great_any _ _ _ (grV (HK.out.below (box_below _ _))) HF.out).mono ?_); rintro e w2 ⟨rfl, h2⟩; rw [HG.out]; have H2 := Lib.hid ((box_below w _).trans (h2.mono (box_below w _).size)); clear h2))
      | (go_at_call 26; ((with_reducible refine (HW.out _).mono ?_); rintro e w3 ⟨rfl, h3⟩; have H3 := Lib.hid (H2.out.trans (h3.mono H2.out.size)); clear h3)))
    go_ret
    exact ⟨rfl, H3.out⟩
  have h300' : ¬ (300 : Int) < (kids.length : Int) := by omega
  have hk300 : kids.length ≤ 300 := by omega
  obtain ⟨bb, hbb⟩ : ∃ bb, fitsV (kindOf ⟨l, root⟩ n) kids = bb := ⟨_, rfl⟩
  have HP := Lib.hid (show ∀ X, Below W0.heap.size W0 X → Calls Try.prog 37 #[.agg #[.slice ka l.length kc, .int .i64 root], .int .i64 n, .slice a kids.length cap] X (Says bb X) from fun X hX => by
    rw [← hbb]; exact fits_any X _ _ n a cap kids (grV ((HK.out.below HB0.out).below hX)) HFEW.out ((HA.out.below HB0.out).below hX) (by omega))
  have HR := Lib.hid (show ∀ X, Below W0.heap.size W0 X → Calls Try.prog 38 #[.agg #[.slice ka l.length kc, .int .i64 root], .int .i64 n, .slice a kids.length cap] X (Says bb X) from fun X hX => by
    rw [← hbb]; exact rfits_any X _ _ n a cap kids (grV ((HK.out.below HB0.out).below hX)) HFEW.out ((HA.out.below HB0.out).below hX) (by omega))
  clear hbb
  go_enter Try.func5, Try.ntmps5
  go_wp2_with (go_at_call 25; ((with_reducible refine (great_any _ _ _ (grV (HK.out.below (box_below _ _))) HF.out).mono ?_); rintro e w2 ⟨rfl, h2⟩; rw [HG.out]; rw [← HW0.out] at h2; have K0 := Lib.hid h2; have K1 := Lib.hid (show Below W0.heap.size W0 w2.drew from below_drewN h2 1); clear h2))
  obtain ⟨q0, q1⟩ := HBOX.out _ K1.out
  go_region_held3 (fun X => X.cell? ⟨w.heap.size, 0, none⟩ = some (.slice ka l.length kc) ∧ X.cell? ⟨w.heap.size, 1, none⟩ = some (.int .i64 root))
    (first | (go_keep; done) | exact HBOX.out _ KAB.out | exact HBOX.out _ KA.out | exact HBOX.out _ KB.out | exact HBOX.out _ KW.out)
    (first
      | (go_at_call 37; ((with_reducible refine (HP.out _ K1.out).mono ?_); rintro e y1 ⟨rfl, h3⟩; have KA := Lib.hid (K1.out.trans (h3.mono K1.out.size)); clear h3))
      | (go_at_call 37; ((with_reducible refine (HP.out _ KB.out).mono ?_); rintro e y2 ⟨rfl, h3⟩; have KAB := Lib.hid (KB.out.trans (h3.mono KB.out.size)); clear h3))
      | (go_at_call 38; ((with_reducible refine (HR.out _ K1.out).mono ?_); rintro e y1 ⟨rfl, h3⟩; have KB := Lib.hid (K1.out.trans (h3.mono K1.out.size)); clear h3))
      | (go_at_call 38; ((with_reducible refine (HR.out _ KA.out).mono ?_); rintro e y2 ⟨rfl, h3⟩; have KAB := Lib.hid (KA.out.trans (h3.mono KA.out.size)); clear h3))
      | (go_at_call 26; ((with_reducible refine (HW.out _).mono ?_); rintro e y3 ⟨rfl, h3⟩; have KW := Lib.hid (KAB.out.trans (h3.mono KAB.out.size)); clear h3)))
  go_wp2_with fail
  go_ret
  exact ⟨rfl, HB0.out.trans (KW.out.mono HB0.out.size)⟩
end Go.Proofs.Ytmfpilacmafglaa
