/-
  What GrammarTells answers: true. No condition but that its arguments lie in memory as they came in.
-/
import Derived.Test.YtecpdelbidglnaaGLawF
import Derived.Deep.Quiet
import Derived.Deep.QuietTactic
namespace Go.Proofs.Ytecpdelbidglnaa
open Go.RowKit

/-- Answers v, and goes on in the class. -/
def InC (C : World → Prop) (v : Value) (e : Ending) (w' : World) : Prop := e = .returned v ∧ C w'
theorem inC {W0 X : World} {f : FuncId} {args : Array Value} {v : Value} (hX : Below W0.heap.size W0 X) (h : Calls Try.prog f args X fun e w' => e = .returned v ∧ Below X.heap.size X w') :
    Calls Try.prog f args X fun e w' => e = .returned v ∧ Below W0.heap.size W0 w' := h.mono fun _ _ ⟨h1, h2⟩ => ⟨h1, hX.trans (h2.mono hX.size)⟩
theorem box_four {w X : World} {ka ka2 : Option Addr} {n kc n2 kc2 : Nat} {root root2 : Int} {W0 : World} (hW : W0 = (w.alloc (.cells #[.slice ka n kc, .int .i64 root] 24)).alloc (.cells #[.slice ka2 n2 kc2, .int .i64 root2] 24)) (h : Below W0.heap.size W0 X) :
    X.cell? ⟨w.heap.size, 0, none⟩ = some (.slice ka n kc) ∧ X.cell? ⟨w.heap.size, 1, none⟩ = some (.int .i64 root) ∧ X.cell? ⟨w.heap.size + 1, 0, none⟩ = some (.slice ka2 n2 kc2) ∧ X.cell? ⟨w.heap.size + 1, 1, none⟩ = some (.int .i64 root2) := by
  subst hW
  exact ⟨boxed1 h 0 _ rfl, boxed1 h 1 _ rfl, boxed2 h 0 _ rfl, boxed2 h 1 _ rfl⟩

set_option maxRecDepth 100000 in
set_option maxHeartbeats 4000000 in
theorem grammarTells_any (w : World) (v : Value) (g : Gr) (v2 : Value) (g2 : Gr) (n : Int) (s : ByteArray) (hv : GrV w v g) (hf : g.fits) (hv2 : GrV w v2 g2) (hf2 : g2.fits) (hs : (s.size : Int) ≤ 9223372036854775807) :
    Calls Try.prog 3 #[v, v2, .int .i64 n, .string s] w (Says true w) := by
  obtain ⟨ka, kc, rfl, hk⟩ := hv
  obtain ⟨l, root⟩ := g
  obtain ⟨ka2, kc2, rfl, hk2⟩ := hv2
  obtain ⟨l2, root2⟩ := g2
  simp only at hk hk2
  have HF := Lib.hid (And.intro hf hf2)
  have HK := Lib.hid (And.intro hk hk2)
  have HW := Lib.hid wakes_any
  clear hf hk hf2 hk2
  obtain ⟨W0, hW0⟩ : ∃ W0, W0 = (w.alloc (.cells #[.slice ka l.length kc, .int .i64 root] 24)).alloc (.cells #[.slice ka2 l2.length kc2, .int .i64 root2] 24) := ⟨_, rfl⟩
  have HB0 := Lib.hid (show Below w.heap.size w W0 by rw [hW0]; exact two_boxes_alloc (Below.refl _ _) _ _)
  have HBOX := Lib.hid (fun X (hX : Below W0.heap.size W0 X) => box_four hW0 hX)
  have HW0 := Lib.hid hW0
  clear hW0
  by_cases hg : greatG ⟨l, root⟩ = true
  · have HG := Lib.hid hg
    clear hg
    go_enter Try.func3, Try.ntmps3
    go_wp2_with (first
      | (go_at_call 7; ((with_reducible refine (great_any _ _ _ (grV (HK.out.1.below (two_boxes_alloc (Below.refl w.heap.size w) _ _))) HF.out.1).mono ?_); rintro e w2 ⟨rfl, h2⟩; rw [HG.out]; rw [← HW0.out] at h2; have H2 := Lib.hid h2; clear h2))
      | (go_at_call 8; ((with_reducible refine (HW.out _).mono ?_); rintro e w3 ⟨rfl, h3⟩; have H3 := Lib.hid (H2.out.trans (h3.mono H2.out.size)); clear h3)))
    go_ret
    exact ⟨rfl, HB0.out.trans (H3.out.mono HB0.out.size)⟩
  have hg' : greatG ⟨l, root⟩ = false := by simpa using hg
  have HG := Lib.hid hg'
  have HFEW := Lib.hid (great_few hg').1
  clear hg hg'
  by_cases hg2 : greatG ⟨l2, root2⟩ = true
  · have HG2 := Lib.hid hg2
    clear hg2
    go_enter Try.func3, Try.ntmps3
    go_wp2_with (first
      | (go_at_call 7; ((with_reducible refine (great_any _ _ _ (grV (HK.out.1.below (two_boxes_alloc (Below.refl w.heap.size w) _ _))) HF.out.1).mono ?_); rintro e w2 ⟨rfl, h2⟩; rw [HG.out]; rw [← HW0.out] at h2; have H2 := Lib.hid h2; obtain ⟨_, _, r2, r3⟩ := HBOX.out _ h2; clear h2))
      | (go_at_call 7; ((with_reducible refine (great_any _ _ _ (grV (HK.out.2.below (HB0.out.trans (H2.out.mono HB0.out.size)))) HF.out.2).mono ?_); rintro e w2 ⟨rfl, h2⟩; rw [HG2.out]; have H4 := Lib.hid (H2.out.trans (h2.mono H2.out.size)); clear h2))
      | (go_at_call 8; ((with_reducible refine (HW.out _).mono ?_); rintro e w3 ⟨rfl, h3⟩; have H3 := Lib.hid (H4.out.trans (h3.mono H4.out.size)); clear h3)))
    go_ret
    exact ⟨rfl, HB0.out.trans (H3.out.mono HB0.out.size)⟩
  have hg2' : greatG ⟨l2, root2⟩ = false := by simpa using hg2
  have HG2 := Lib.hid hg2'
  have HFEW2 := Lib.hid (great_few hg2').1
  clear hg2 hg2'
  by_cases h1000 : 1000 < s.size
  · have h1000' : (1000 : Int) < (s.size : Int) := by omega
    go_enter Try.func3, Try.ntmps3
    go_wp2_with (first
      | (go_at_call 7; ((with_reducible refine (great_any _ _ _ (grV (HK.out.1.below (two_boxes_alloc (Below.refl w.heap.size w) _ _))) HF.out.1).mono ?_); rintro e w2 ⟨rfl, h2⟩; rw [HG.out]; rw [← HW0.out] at h2; have H2 := Lib.hid h2; obtain ⟨_, _, r2, r3⟩ := HBOX.out _ h2; clear h2))
      | (go_at_call 7; ((with_reducible refine (great_any _ _ _ (grV (HK.out.2.below (HB0.out.trans (H2.out.mono HB0.out.size)))) HF.out.2).mono ?_); rintro e w2 ⟨rfl, h2⟩; rw [HG2.out]; have H4 := Lib.hid (H2.out.trans (h2.mono H2.out.size)); clear h2))
      | (go_at_call 8; ((with_reducible refine (HW.out _).mono ?_); rintro e w3 ⟨rfl, h3⟩; have H3 := Lib.hid (H4.out.trans (h3.mono H4.out.size)); clear h3)))
    go_ret
    exact ⟨rfl, HB0.out.trans (H3.out.mono HB0.out.size)⟩
  have h1000' : ¬ (1000 : Int) < (s.size : Int) := by omega
  have h1000'' : s.size ≤ 1000000 := by omega
  obtain ⟨fk, fo, hfv⟩ : ∃ fk fo, findV ⟨l, root⟩ s.data.toList = (fk, fo) := ⟨_, _, rfl⟩
  obtain ⟨ck, hck⟩ : ∃ ck, errN (grOk ⟨l, root⟩) = ck := ⟨_, rfl⟩
  obtain ⟨tb, htb⟩ : ∃ tb, textV (kindOf ⟨l, root⟩ n) s = tb := ⟨_, rfl⟩
  obtain ⟨ln, hln⟩ : ∃ ln, leastV (kindOf ⟨l, root⟩ n) = ln := ⟨_, rfl⟩
  obtain ⟨sb, hsb⟩ : ∃ sb, sameGr ⟨l, root⟩ ⟨l2, root2⟩ = sb := ⟨_, rfl⟩
  have HGV := Lib.hid (show ∀ X, Below W0.heap.size W0 X → GrV X (.agg #[.slice ka l.length kc, .int .i64 root]) ⟨l, root⟩ from fun X hX => grV ((HK.out.1.below HB0.out).below hX))
  have HGV2 := Lib.hid (show ∀ X, Below W0.heap.size W0 X → GrV X (.agg #[.slice ka2 l2.length kc2, .int .i64 root2]) ⟨l2, root2⟩ from fun X hX => grV ((HK.out.2.below HB0.out).below hX))
  have HF1 := Lib.hid (fun X (hX : Below W0.heap.size W0 X) => inC hX (show Calls Try.prog 9 #[.agg #[.slice ka l.length kc, .int .i64 root], .string s] X fun e w' => e = .returned (.tuple #[.int .i64 fk, .bool fo]) ∧ Below X.heap.size X w' by have := find_any X _ _ s (HGV.out X hX) HFEW.out h1000''; rw [hfv] at this; exact this))
  have HF2 := Lib.hid (fun X (hX : Below W0.heap.size W0 X) => inC hX (show Calls Try.prog 10 #[.agg #[.slice ka l.length kc, .int .i64 root], .string s] X fun e w' => e = .returned (.tuple #[.int .i64 fk, .bool fo]) ∧ Below X.heap.size X w' by have := rfind_any X _ _ s (HGV.out X hX) HFEW.out; rw [hfv] at this; exact this))
  have HC1 := Lib.hid (fun X (hX : Below W0.heap.size W0 X) => inC hX (show Calls Try.prog 11 #[.agg #[.slice ka l.length kc, .int .i64 root]] X fun e w' => e = .returned (.int .i64 ck) ∧ Below X.heap.size X w' by have := check_any X _ _ (HGV.out X hX) HFEW.out; rw [hck] at this; exact this))
  have HC2 := Lib.hid (fun X (hX : Below W0.heap.size W0 X) => inC hX (show Calls Try.prog 12 #[.agg #[.slice ka l.length kc, .int .i64 root]] X fun e w' => e = .returned (.int .i64 ck) ∧ Below X.heap.size X w' by have := rcheck_any X _ _ (HGV.out X hX) HFEW.out; rw [hck] at this; exact this))
  have HT1 := Lib.hid (fun X (hX : Below W0.heap.size W0 X) => inC hX (show Calls Try.prog 13 #[.agg #[.slice ka l.length kc, .int .i64 root], .int .i64 n, .string s] X fun e w' => e = .returned (.bool tb) ∧ Below X.heap.size X w' by have := text_any X _ _ n s (HGV.out X hX) HFEW.out hs; rw [htb] at this; exact this))
  have HT2 := Lib.hid (fun X (hX : Below W0.heap.size W0 X) => inC hX (show Calls Try.prog 14 #[.agg #[.slice ka l.length kc, .int .i64 root], .int .i64 n, .string s] X fun e w' => e = .returned (.bool tb) ∧ Below X.heap.size X w' by have := rtext_any X _ _ n s (HGV.out X hX) HFEW.out hs; rw [htb] at this; exact this))
  have HL1 := Lib.hid (fun X (hX : Below W0.heap.size W0 X) => inC hX (show Calls Try.prog 15 #[.agg #[.slice ka l.length kc, .int .i64 root], .int .i64 n] X fun e w' => e = .returned (.int .i64 ln) ∧ Below X.heap.size X w' by have := least_any X _ _ n (HGV.out X hX) HFEW.out; rw [hln] at this; exact this))
  have HL2 := Lib.hid (fun X (hX : Below W0.heap.size W0 X) => inC hX (show Calls Try.prog 16 #[.agg #[.slice ka l.length kc, .int .i64 root], .int .i64 n] X fun e w' => e = .returned (.int .i64 ln) ∧ Below X.heap.size X w' by have := rleast_any X _ _ n (HGV.out X hX) HFEW.out; rw [hln] at this; exact this))
  have HS1 := Lib.hid (fun X (hX : Below W0.heap.size W0 X) => inC hX (show Calls Try.prog 17 #[.agg #[.slice ka l.length kc, .int .i64 root], .agg #[.slice ka2 l2.length kc2, .int .i64 root2]] X fun e w' => e = .returned (.bool sb) ∧ Below X.heap.size X w' by have := sameP_any X _ _ _ _ (HGV.out X hX) (HGV2.out X hX) HFEW.out HFEW2.out; rw [hsb] at this; exact this))
  have HS2 := Lib.hid (fun X (hX : Below W0.heap.size W0 X) => inC hX (show Calls Try.prog 18 #[.agg #[.slice ka l.length kc, .int .i64 root], .agg #[.slice ka2 l2.length kc2, .int .i64 root2]] X fun e w' => e = .returned (.bool sb) ∧ Below X.heap.size X w' by have := rsame_any X _ _ _ _ (HGV.out X hX) (HGV2.out X hX) HFEW.out HFEW2.out; rw [hsb] at this; exact this))
  have HS3 := Lib.hid (fun X (hX : Below W0.heap.size W0 X) => inC hX (show Calls Try.prog 17 #[.agg #[.slice ka l.length kc, .int .i64 root], .agg #[.slice ka l.length kc, .int .i64 root]] X fun e w' => e = .returned (.bool true) ∧ Below X.heap.size X w' by have := sameP_any X _ _ _ _ (HGV.out X hX) (HGV.out X hX) HFEW.out HFEW.out; rw [sameGr_refl] at this; exact this))
  have HW2 := Lib.hid (fun X (hX : Below W0.heap.size W0 X) => inC hX (HW.out X))
  clear hfv hck htb hln hsb
  go_enter Try.func3, Try.ntmps3
  go_wp2_with (first
    | (go_at_call 7; ((with_reducible refine (great_any _ _ _ (grV (HK.out.1.below (two_boxes_alloc (Below.refl w.heap.size w) _ _))) HF.out.1).mono ?_); rintro e w2 ⟨rfl, h2⟩; rw [HG.out]; rw [← HW0.out] at h2; have H2 := Lib.hid h2; obtain ⟨_, _, r2, r3⟩ := HBOX.out _ h2; clear h2))
    | (go_at_call 7; ((with_reducible refine (great_any _ _ _ (grV (HK.out.2.below (HB0.out.trans (H2.out.mono HB0.out.size)))) HF.out.2).mono ?_); rintro e w3 ⟨rfl, h2⟩; rw [HG2.out]; have H4 := Lib.hid (H2.out.trans (h2.mono H2.out.size)); obtain ⟨r4, r5, _, _⟩ := HBOX.out _ H4.out; clear h2))
    | (go_at_call 9; ((with_reducible refine (HF1.out _ H4.out).mono ?_); rintro e w4 ⟨rfl, h2⟩; have H5 := Lib.hid h2; obtain ⟨r6, r7, _, _⟩ := HBOX.out _ h2; clear h2))
    | (go_at_call 10; ((with_reducible refine (HF2.out _ H5.out).mono ?_); rintro e w5 ⟨rfl, h2⟩; have H6 := Lib.hid h2; have H7 := Lib.hid (show Below W0.heap.size W0 w5.drew from below_drewN h2 1); clear h2)))
  refine wp_region_quiet (C := fun X => Below W0.heap.size W0 X) (by kernel_rfl) (by kernel_rfl) H7.out ?_
  clear h1000' h1000''
  refine wpQuiet_step (fun K hK => ?_)
  rw [if_pos (by rfl)]
  refine ⟨.agg #[.slice ka l.length kc, .int .i64 root], fun X hX => ?_, hK _ ?_⟩
  · clear hK; obtain ⟨q0, q1, q2, q3⟩ := HBOX.out X hX; go_simp
  clear hK K
  simp only [Act.put, List.setIfInBounds_toArray, List.set_cons_zero, List.set_cons_succ]
  refine wpQuiet_step (fun K hK => ?_)
  rw [if_pos (by rfl)]
  refine ⟨.int .i64 ck, fun X hX => ?_, hK _ ?_⟩
  · clear hK; go_simp; exact HC1.out X hX
  clear hK K
  simp only [Act.put, List.setIfInBounds_toArray, List.set_cons_zero, List.set_cons_succ]
  refine wpQuiet_step (fun K hK => ?_)
  rw [if_pos (by rfl)]
  refine ⟨.agg #[.slice ka l.length kc, .int .i64 root], fun X hX => ?_, hK _ ?_⟩
  · clear hK; obtain ⟨q0, q1, q2, q3⟩ := HBOX.out X hX; go_simp
  clear hK K
  simp only [Act.put, List.setIfInBounds_toArray, List.set_cons_zero, List.set_cons_succ]
  refine wpQuiet_step (fun K hK => ?_)
  rw [if_pos (by rfl)]
  refine ⟨.int .i64 ck, fun X hX => ?_, hK _ ?_⟩
  · clear hK; go_simp; exact HC2.out X hX
  clear hK K
  simp only [Act.put, List.setIfInBounds_toArray, List.set_cons_zero, List.set_cons_succ]
  refine wpQuiet_step (fun K hK => ?_)
  rw [if_pos (by rfl)]
  refine ⟨.bool true, fun X hX => ?_, hK _ ?_⟩
  · clear hK; go_simp
  clear hK K
  simp only [Act.put, List.setIfInBounds_toArray, List.set_cons_zero, List.set_cons_succ]
  refine wpQuiet_step (fun K hK => ?_)
  rw [if_pos (by rfl)]
  refine ⟨.bool true, fun X hX => ?_, hK _ ?_⟩
  · clear hK; go_simp
  clear hK K
  simp only [Act.put, List.setIfInBounds_toArray, List.set_cons_zero, List.set_cons_succ]
  refine wpQuiet_step (fun K hK => ?_)
  rw [if_pos (by rfl)]
  refine ⟨.int .i64 fk, fun X hX => ?_, hK _ ?_⟩
  · clear hK; go_simp
  clear hK K
  simp only [Act.put, List.setIfInBounds_toArray, List.set_cons_zero, List.set_cons_succ]
  refine wpQuiet_step (fun K hK => ?_)
  rw [if_pos (by rfl)]
  refine ⟨.int .i64 fk, fun X hX => ?_, hK _ ?_⟩
  · clear hK; go_simp
  clear hK K
  simp only [Act.put, List.setIfInBounds_toArray, List.set_cons_zero, List.set_cons_succ]
  refine wpQuiet_step (fun K hK => ?_)
  rw [if_pos (by rfl)]
  refine ⟨.bool true, fun X hX => ?_, hK _ ?_⟩
  · clear hK; go_simp
  clear hK K
  simp only [Act.put, List.setIfInBounds_toArray, List.set_cons_zero, List.set_cons_succ]
  refine wpQuiet_step (fun K hK => ?_)
  rw [if_pos (by rfl)]
  refine ⟨.bool true, fun X hX => ?_, hK _ ?_⟩
  · clear hK; go_simp
  clear hK K
  simp only [Act.put, List.setIfInBounds_toArray, List.set_cons_zero, List.set_cons_succ]
  refine wpQuiet_step (fun K hK => ?_)
  rw [if_pos (by rfl)]
  refine ⟨.bool true, fun X hX => ?_, hK _ ?_⟩
  · clear hK; go_simp
  clear hK K
  simp only [Act.put, List.setIfInBounds_toArray, List.set_cons_zero, List.set_cons_succ]
  refine wpQuiet_step (fun K hK => ?_)
  rw [if_pos (by rfl)]
  refine ⟨.bool fo, fun X hX => ?_, hK _ ?_⟩
  · clear hK; go_simp
  clear hK K
  simp only [Act.put, List.setIfInBounds_toArray, List.set_cons_zero, List.set_cons_succ]
  refine wpQuiet_step (fun K hK => ?_)
  rw [if_pos (by rfl)]
  refine ⟨.bool fo, fun X hX => ?_, hK _ ?_⟩
  · clear hK; go_simp
  clear hK K
  simp only [Act.put, List.setIfInBounds_toArray, List.set_cons_zero, List.set_cons_succ]
  refine wpQuiet_step (fun K hK => ?_)
  rw [if_pos (by rfl)]
  refine ⟨.bool true, fun X hX => ?_, hK _ ?_⟩
  · clear hK; go_simp
  clear hK K
  simp only [Act.put, List.setIfInBounds_toArray, List.set_cons_zero, List.set_cons_succ]
  refine wpQuiet_step (fun K hK => ?_)
  rw [if_pos (by rfl)]
  refine ⟨.bool true, fun X hX => ?_, hK _ ?_⟩
  · clear hK; go_simp
  clear hK K
  simp only [Act.put, List.setIfInBounds_toArray, List.set_cons_zero, List.set_cons_succ]
  refine wpQuiet_step (fun K hK => ?_)
  rw [if_pos (by rfl)]
  refine ⟨.bool true, fun X hX => ?_, hK _ ?_⟩
  · clear hK; go_simp
  clear hK K
  simp only [Act.put, List.setIfInBounds_toArray, List.set_cons_zero, List.set_cons_succ]
  refine wpQuiet_step (fun K hK => ?_)
  rw [if_pos (by rfl)]
  refine ⟨.agg #[.slice ka l.length kc, .int .i64 root], fun X hX => ?_, hK _ ?_⟩
  · clear hK; obtain ⟨q0, q1, q2, q3⟩ := HBOX.out X hX; go_simp
  clear hK K
  simp only [Act.put, List.setIfInBounds_toArray, List.set_cons_zero, List.set_cons_succ]
  refine wpQuiet_step (fun K hK => ?_)
  rw [if_pos (by rfl)]
  refine ⟨.int .i64 n, fun X hX => ?_, hK _ ?_⟩
  · clear hK; go_simp
  clear hK K
  simp only [Act.put, List.setIfInBounds_toArray, List.set_cons_zero, List.set_cons_succ]
  refine wpQuiet_step (fun K hK => ?_)
  rw [if_pos (by rfl)]
  refine ⟨.string s, fun X hX => ?_, hK _ ?_⟩
  · clear hK; go_simp
  clear hK K
  simp only [Act.put, List.setIfInBounds_toArray, List.set_cons_zero, List.set_cons_succ]
  refine wpQuiet_step (fun K hK => ?_)
  rw [if_pos (by rfl)]
  refine ⟨.bool tb, fun X hX => ?_, hK _ ?_⟩
  · clear hK; go_simp; exact HT1.out X hX
  clear hK K
  simp only [Act.put, List.setIfInBounds_toArray, List.set_cons_zero, List.set_cons_succ]
  refine wpQuiet_step (fun K hK => ?_)
  rw [if_pos (by rfl)]
  refine ⟨.agg #[.slice ka l.length kc, .int .i64 root], fun X hX => ?_, hK _ ?_⟩
  · clear hK; obtain ⟨q0, q1, q2, q3⟩ := HBOX.out X hX; go_simp
  clear hK K
  simp only [Act.put, List.setIfInBounds_toArray, List.set_cons_zero, List.set_cons_succ]
  refine wpQuiet_step (fun K hK => ?_)
  rw [if_pos (by rfl)]
  refine ⟨.int .i64 n, fun X hX => ?_, hK _ ?_⟩
  · clear hK; go_simp
  clear hK K
  simp only [Act.put, List.setIfInBounds_toArray, List.set_cons_zero, List.set_cons_succ]
  refine wpQuiet_step (fun K hK => ?_)
  rw [if_pos (by rfl)]
  refine ⟨.string s, fun X hX => ?_, hK _ ?_⟩
  · clear hK; go_simp
  clear hK K
  simp only [Act.put, List.setIfInBounds_toArray, List.set_cons_zero, List.set_cons_succ]
  refine wpQuiet_step (fun K hK => ?_)
  rw [if_pos (by rfl)]
  refine ⟨.bool tb, fun X hX => ?_, hK _ ?_⟩
  · clear hK; go_simp; exact HT2.out X hX
  clear hK K
  simp only [Act.put, List.setIfInBounds_toArray, List.set_cons_zero, List.set_cons_succ]
  refine wpQuiet_step (fun K hK => ?_)
  rw [if_pos (by rfl)]
  refine ⟨.bool true, fun X hX => ?_, hK _ ?_⟩
  · clear hK; go_simp
  clear hK K
  simp only [Act.put, List.setIfInBounds_toArray, List.set_cons_zero, List.set_cons_succ]
  refine wpQuiet_step (fun K hK => ?_)
  rw [if_pos (by rfl)]
  refine ⟨.bool true, fun X hX => ?_, hK _ ?_⟩
  · clear hK; go_simp
  clear hK K
  simp only [Act.put, List.setIfInBounds_toArray, List.set_cons_zero, List.set_cons_succ]
  refine wpQuiet_step (fun K hK => ?_)
  rw [if_pos (by rfl)]
  refine ⟨.bool true, fun X hX => ?_, hK _ ?_⟩
  · clear hK; go_simp
  clear hK K
  simp only [Act.put, List.setIfInBounds_toArray, List.set_cons_zero, List.set_cons_succ]
  refine wpQuiet_step (fun K hK => ?_)
  rw [if_pos (by rfl)]
  refine ⟨.agg #[.slice ka l.length kc, .int .i64 root], fun X hX => ?_, hK _ ?_⟩
  · clear hK; obtain ⟨q0, q1, q2, q3⟩ := HBOX.out X hX; go_simp
  clear hK K
  simp only [Act.put, List.setIfInBounds_toArray, List.set_cons_zero, List.set_cons_succ]
  refine wpQuiet_step (fun K hK => ?_)
  rw [if_pos (by rfl)]
  refine ⟨.int .i64 n, fun X hX => ?_, hK _ ?_⟩
  · clear hK; go_simp
  clear hK K
  simp only [Act.put, List.setIfInBounds_toArray, List.set_cons_zero, List.set_cons_succ]
  refine wpQuiet_step (fun K hK => ?_)
  rw [if_pos (by rfl)]
  refine ⟨.int .i64 ln, fun X hX => ?_, hK _ ?_⟩
  · clear hK; go_simp; exact HL1.out X hX
  clear hK K
  simp only [Act.put, List.setIfInBounds_toArray, List.set_cons_zero, List.set_cons_succ]
  refine wpQuiet_step (fun K hK => ?_)
  rw [if_pos (by rfl)]
  refine ⟨.agg #[.slice ka l.length kc, .int .i64 root], fun X hX => ?_, hK _ ?_⟩
  · clear hK; obtain ⟨q0, q1, q2, q3⟩ := HBOX.out X hX; go_simp
  clear hK K
  simp only [Act.put, List.setIfInBounds_toArray, List.set_cons_zero, List.set_cons_succ]
  refine wpQuiet_step (fun K hK => ?_)
  rw [if_pos (by rfl)]
  refine ⟨.int .i64 n, fun X hX => ?_, hK _ ?_⟩
  · clear hK; go_simp
  clear hK K
  simp only [Act.put, List.setIfInBounds_toArray, List.set_cons_zero, List.set_cons_succ]
  refine wpQuiet_step (fun K hK => ?_)
  rw [if_pos (by rfl)]
  refine ⟨.int .i64 ln, fun X hX => ?_, hK _ ?_⟩
  · clear hK; go_simp; exact HL2.out X hX
  clear hK K
  simp only [Act.put, List.setIfInBounds_toArray, List.set_cons_zero, List.set_cons_succ]
  refine wpQuiet_step (fun K hK => ?_)
  rw [if_pos (by rfl)]
  refine ⟨.bool true, fun X hX => ?_, hK _ ?_⟩
  · clear hK; go_simp
  clear hK K
  simp only [Act.put, List.setIfInBounds_toArray, List.set_cons_zero, List.set_cons_succ]
  refine wpQuiet_step (fun K hK => ?_)
  rw [if_pos (by rfl)]
  refine ⟨.bool true, fun X hX => ?_, hK _ ?_⟩
  · clear hK; go_simp
  clear hK K
  simp only [Act.put, List.setIfInBounds_toArray, List.set_cons_zero, List.set_cons_succ]
  refine wpQuiet_step (fun K hK => ?_)
  rw [if_pos (by rfl)]
  refine ⟨.bool true, fun X hX => ?_, hK _ ?_⟩
  · clear hK; go_simp
  clear hK K
  simp only [Act.put, List.setIfInBounds_toArray, List.set_cons_zero, List.set_cons_succ]
  refine wpQuiet_step (fun K hK => ?_)
  rw [if_pos (by rfl)]
  refine ⟨.agg #[.slice ka l.length kc, .int .i64 root], fun X hX => ?_, hK _ ?_⟩
  · clear hK; obtain ⟨q0, q1, q2, q3⟩ := HBOX.out X hX; go_simp
  clear hK K
  simp only [Act.put, List.setIfInBounds_toArray, List.set_cons_zero, List.set_cons_succ]
  refine wpQuiet_step (fun K hK => ?_)
  rw [if_pos (by rfl)]
  refine ⟨.agg #[.slice ka2 l2.length kc2, .int .i64 root2], fun X hX => ?_, hK _ ?_⟩
  · clear hK; obtain ⟨q0, q1, q2, q3⟩ := HBOX.out X hX; go_simp
  clear hK K
  simp only [Act.put, List.setIfInBounds_toArray, List.set_cons_zero, List.set_cons_succ]
  refine wpQuiet_step (fun K hK => ?_)
  rw [if_pos (by rfl)]
  refine ⟨.bool sb, fun X hX => ?_, hK _ ?_⟩
  · clear hK; go_simp; exact HS1.out X hX
  clear hK K
  simp only [Act.put, List.setIfInBounds_toArray, List.set_cons_zero, List.set_cons_succ]
  refine wpQuiet_step (fun K hK => ?_)
  rw [if_pos (by rfl)]
  refine ⟨.agg #[.slice ka l.length kc, .int .i64 root], fun X hX => ?_, hK _ ?_⟩
  · clear hK; obtain ⟨q0, q1, q2, q3⟩ := HBOX.out X hX; go_simp
  clear hK K
  simp only [Act.put, List.setIfInBounds_toArray, List.set_cons_zero, List.set_cons_succ]
  refine wpQuiet_step (fun K hK => ?_)
  rw [if_pos (by rfl)]
  refine ⟨.agg #[.slice ka2 l2.length kc2, .int .i64 root2], fun X hX => ?_, hK _ ?_⟩
  · clear hK; obtain ⟨q0, q1, q2, q3⟩ := HBOX.out X hX; go_simp
  clear hK K
  simp only [Act.put, List.setIfInBounds_toArray, List.set_cons_zero, List.set_cons_succ]
  refine wpQuiet_step (fun K hK => ?_)
  rw [if_pos (by rfl)]
  refine ⟨.bool sb, fun X hX => ?_, hK _ ?_⟩
  · clear hK; go_simp; exact HS2.out X hX
  clear hK K
  simp only [Act.put, List.setIfInBounds_toArray, List.set_cons_zero, List.set_cons_succ]
  refine wpQuiet_step (fun K hK => ?_)
  rw [if_pos (by rfl)]
  refine ⟨.bool true, fun X hX => ?_, hK _ ?_⟩
  · clear hK; go_simp
  clear hK K
  simp only [Act.put, List.setIfInBounds_toArray, List.set_cons_zero, List.set_cons_succ]
  refine wpQuiet_step (fun K hK => ?_)
  rw [if_pos (by rfl)]
  refine ⟨.bool true, fun X hX => ?_, hK _ ?_⟩
  · clear hK; go_simp
  clear hK K
  simp only [Act.put, List.setIfInBounds_toArray, List.set_cons_zero, List.set_cons_succ]
  refine wpQuiet_step (fun K hK => ?_)
  rw [if_pos (by rfl)]
  refine ⟨.bool true, fun X hX => ?_, hK _ ?_⟩
  · clear hK; go_simp
  clear hK K
  simp only [Act.put, List.setIfInBounds_toArray, List.set_cons_zero, List.set_cons_succ]
  refine wpQuiet_step (fun K hK => ?_)
  rw [if_pos (by rfl)]
  refine ⟨.agg #[.slice ka l.length kc, .int .i64 root], fun X hX => ?_, hK _ ?_⟩
  · clear hK; obtain ⟨q0, q1, q2, q3⟩ := HBOX.out X hX; go_simp
  clear hK K
  simp only [Act.put, List.setIfInBounds_toArray, List.set_cons_zero, List.set_cons_succ]
  refine wpQuiet_step (fun K hK => ?_)
  rw [if_pos (by rfl)]
  refine ⟨.agg #[.slice ka l.length kc, .int .i64 root], fun X hX => ?_, hK _ ?_⟩
  · clear hK; obtain ⟨q0, q1, q2, q3⟩ := HBOX.out X hX; go_simp
  clear hK K
  simp only [Act.put, List.setIfInBounds_toArray, List.set_cons_zero, List.set_cons_succ]
  refine wpQuiet_step (fun K hK => ?_)
  rw [if_pos (by rfl)]
  refine ⟨.bool true, fun X hX => ?_, hK _ ?_⟩
  · clear hK; go_simp; exact HS3.out X hX
  clear hK K
  simp only [Act.put, List.setIfInBounds_toArray, List.set_cons_zero, List.set_cons_succ]
  refine wpQuiet_step (fun K hK => ?_)
  rw [if_pos (by rfl)]
  refine ⟨.bool true, fun X hX => ?_, hK _ ?_⟩
  · clear hK; go_simp
  clear hK K
  simp only [Act.put, List.setIfInBounds_toArray, List.set_cons_zero, List.set_cons_succ]
  refine wpQuiet_step (fun K hK => ?_)
  rw [if_pos (by rfl)]
  refine ⟨.bool true, fun X hX => ?_, hK _ ?_⟩
  · clear hK; go_simp
  clear hK K
  simp only [Act.put, List.setIfInBounds_toArray, List.set_cons_zero, List.set_cons_succ]
  refine wpQuiet_step (fun K hK => ?_)
  rw [if_pos (by rfl)]
  refine ⟨.bool true, fun X hX => ?_, hK _ ?_⟩
  · clear hK; go_simp; exact HW2.out X hX
  clear hK K
  simp only [Act.put, List.setIfInBounds_toArray, List.set_cons_zero, List.set_cons_succ]
  refine wpQuiet_step (fun K hK => ?_)
  rw [if_pos (by rfl)]
  refine ⟨.bool true, fun X hX => ?_, hK _ ?_⟩
  · clear hK; go_simp
  clear hK K
  simp only [Act.put, List.setIfInBounds_toArray, List.set_cons_zero, List.set_cons_succ]
  refine wpQuiet_step (fun K hK => ?_)
  rw [if_pos (by rfl)]
  refine ⟨.bool true, fun X hX => ?_, hK _ ?_⟩
  · clear hK; go_simp
  clear hK K
  simp only [Act.put, List.setIfInBounds_toArray, List.set_cons_zero, List.set_cons_succ]
  refine wpQuiet_nil ?_
  intro X hX
  have H8 := Lib.hid hX
  clear hX
  go_wp2_with fail
  go_ret
  exact ⟨rfl, HB0.out.trans (H8.out.mono HB0.out.size)⟩
end Go.Proofs.Ytecpdelbidglnaa
