/-
  The document's own digits of a number. No condition.
-/
import Derived.Test.YtbbiemnjidfglaaDoorEShowD
import Derived.Test.YtbbiemnjidfglaaDoorERow
import Derived.Test.YtbbiemnjidfglaaDoorELawC
namespace Go.Proofs.YtbbiemnjidfglaaDoor
open Go.RowKit Go.Shelf
open Extern.Stop (cell)
attribute [local go_sem] Oper.semAt_some
set_option linter.unusedVariables false
set_option linter.unusedSimpArgs false

theorem conv_digit (X : World) (g r : Nat) (u : UInt8) (hu : u = UInt8.ofNat (48 + r)) (hr : r ≤ 9) (h : X.cell? ⟨g, 0, none⟩ = some (.int .u8 (48 + (r : Int)))) : (convert 56 9 (.slice (some ⟨g, 0, none⟩) 1 1)).run Tryd.prog X = .ok (.string ⟨#[u]⟩) X := by
  subst hu
  have := run_convert_bytes_back (P := Tryd.prog) X 56 9 5 ⟨g, 0, none⟩ 1 [UInt8.ofNat (48 + r)] Tryd.underlying56 Tryd.underlying5 Tryd.underlying9 (fun j hj => ?_)
  · exact this
  · have hj0 : j = 0 := by simp at hj; omega
    subst hj0
    show X.cell? ⟨g, 0, none⟩ = _
    rw [h]
    simp only [List.getElem_cons_zero, UInt8.toNat_ofNat']
    congr 2
    omega
set_option maxRecDepth 100000 in
theorem positive_small (w : World) (n : Nat) (hn : n < 10) : Calls Tryd.prog 50 #[.int .u64 (n : Int)] w (SayC w (Lib.decDigits n)) := by
  have hk : (n : Int) < 10 := by omega
  have h0 : (0 : Int) ≤ 48 + (n : Int) := by omega
  have h1 : 48 + (n : Int) ≤ 58 := by omega
  obtain ⟨u, hu⟩ : ∃ u, u = UInt8.ofNat (48 + n) := ⟨_, rfl⟩
  have hcv := conv_digit (w.alloc (.cells #[.int .u8 (48 + (n : Int))] 5)) w.heap.size n u hu (by omega) (by rw [cell_of_row _ _ 0 _ _ _ (heap_alloc_new w _)]; rfl)
  have HE := Lib.hid (show Lib.decDigits n = [u] by rw [Lib.decDigits, dif_pos hn, hu])
  clear hu
  go_enter Tryd.func50, Tryd.ntmps50
  go_wp2_with fail
  go_ret
  exact ⟨by rw [HE.out]; rfl, (Below.refl _ _).alloc (Nat.le_refl _) _⟩
theorem dec_length : ∀ (n : Nat), (Lib.decDigits n).length ≤ n + 1 := fun n => by
  induction n using Nat.strongRecOn with
  | ind n ih =>
    rw [Lib.decDigits]
    split
    · simp
    · rw [List.length_append]
      have := ih (n / 10) (by omega)
      simp only [List.length_cons, List.length_nil]; omega
set_option maxRecDepth 100000 in
set_option maxHeartbeats 1000000 in
theorem positive_big (w : World) (n q r : Nat) (hq : q = n / 10) (hr : r = n % 10) (hn : 10 ≤ n) (hn2 : n ≤ 18446744073709551615) (hl : (Lib.decDigits q).length ≤ 1000000) (ih : ∀ W : World, Calls Tryd.prog 50 #[.int .u64 (q : Int)] W (SayC W (Lib.decDigits q))) : Calls Tryd.prog 50 #[.int .u64 (n : Int)] w (SayC w (Lib.decDigits n)) := by
  have hk : ¬ (n : Int) < 10 := by omega
  have hr9 : r ≤ 9 := by omega
  have hdv : (n : Int) / 10 = (q : Int) := by omega
  have hmd : (n : Int) % 10 = (r : Int) := by omega
  have hdv2 : (n : Int).tdiv 10 = (q : Int) := by rw [Int.tdiv_eq_ediv_of_nonneg (by omega)]; exact hdv
  have hmd2 : (n : Int).tmod 10 = (r : Int) := by rw [Int.tmod_eq_emod_of_nonneg (by omega)]; exact hmd
  have h0 : (0 : Int) ≤ 48 + (r : Int) := by omega
  have h1 : 48 + (r : Int) ≤ 58 := by omega
  have hw1 : IntKind.u64.wrap (48 + (r : Int)) = 48 + (r : Int) := IntWalk.u64_in _ (by omega)
  have hw2 : IntKind.u8.wrap (48 + (r : Int)) = 48 + (r : Int) := IntWalk.u8_in _ (by omega)
  have hwq : IntKind.u64.wrap (q : Int) = (q : Int) := IntWalk.u64_in _ (by omega)
  obtain ⟨u, hu⟩ : ∃ u, u = UInt8.ofNat (48 + r) := ⟨_, rfl⟩
  have HU := Lib.hid hu
  have hsz : ¬ 9223372036854775807 < (Lib.decDigits q).length + 1 := by omega
  have HE := Lib.hid (show Ending.returned (.string ((⟨(Lib.decDigits q).toArray⟩ : ByteArray) ++ ⟨#[u]⟩)) = Ending.returned (.string ⟨(Lib.decDigits n).toArray⟩) by
    rw [Lib.decDigits.eq_1 n, dif_neg (by omega), hu, hq, hr, ← bytes_append])
  have HFIN := HE
  have HIH := Lib.hid ih
  clear ih hq hr hn hn2 hdv hmd hl HE hu
  refine (callsIn_wide (n := 8)).1 ?_
  refine callsIn_of_wp_marks Tryd.func50 rfl trivial ?_ rfl
  simp only [Tryd.ntmps50, List.size_toArray, List.length_cons, List.length_nil, Nat.reduceAdd, Nat.reduceSub, Array.replicate_succ, Array.replicate_zero, List.push_toArray, List.append_toArray, List.nil_append, List.cons_append]
  gi_wp2_with fail
  refine region_calm (S := fun _ => True) (by kernel_rfl) ?_
  have hVb : Below w.heap.size w w.drew := ⟨rfl, rfl, rfl, Nat.le_refl _, fun _ _ => rfl⟩
  generalize w.drew = V at hVb ⊢
  have hHeld : (fun _ : World => True) V := trivial
  refine anyIn_take (i := 0) (oi := _) (v := (.int .u64 (n : Int))) rfl (by kernel_rfl) (by kernel_rfl) (by kernel_rfl) (fun _ _ _ h => by cases h.1) (Or.inl ⟨by rfl, ?_⟩) hHeld ?_
  · clear hHeld; intro X hSw; clear hSw; go_simp
  simp only [Act.put, List.getElem_toArray, List.getElem_cons_zero, List.getElem_cons_succ, List.setIfInBounds_toArray, List.set_cons_zero, List.set_cons_succ]
  refine anyIn_take (i := 1) (oi := _) (v := (.int .u64 (q : Int))) rfl (by kernel_rfl) (by kernel_rfl) (by kernel_rfl) (fun _ _ _ h => by cases h.1) (Or.inl ⟨by rfl, ?_⟩) hHeld ?_
  · clear hHeld; intro X hSw; clear hSw; go_simp
  simp only [Act.put, List.getElem_toArray, List.getElem_cons_zero, List.getElem_cons_succ, List.setIfInBounds_toArray, List.set_cons_zero, List.set_cons_succ]
  refine anyIn_take (i := 3) (oi := _) (v := (.int .u64 (n : Int))) rfl (by kernel_rfl) (by kernel_rfl) (by kernel_rfl) (fun _ _ _ h => by cases h.1) (Or.inl ⟨by rfl, ?_⟩) hHeld ?_
  · clear hHeld; intro X hSw; clear hSw; go_simp
  simp only [Act.put, List.getElem_toArray, List.getElem_cons_zero, List.getElem_cons_succ, List.setIfInBounds_toArray, List.set_cons_zero, List.set_cons_succ]
  refine anyIn_take (i := 4) (oi := _) (v := (.int .u64 (r : Int))) rfl (by kernel_rfl) (by kernel_rfl) (by kernel_rfl) (fun _ _ _ h => by cases h.1) (Or.inl ⟨by rfl, ?_⟩) hHeld ?_
  · clear hHeld; intro X hSw; clear hSw; go_simp
  simp only [Act.put, List.getElem_toArray, List.getElem_cons_zero, List.getElem_cons_succ, List.setIfInBounds_toArray, List.set_cons_zero, List.set_cons_succ]
  refine anyIn_take (i := 5) (oi := _) (v := (.int .u64 (48 + (r : Int)))) rfl (by kernel_rfl) (by kernel_rfl) (by kernel_rfl) (fun _ _ _ h => by cases h.1) (Or.inl ⟨by rfl, ?_⟩) hHeld ?_
  · clear hHeld; intro X hSw; clear hSw; go_simp
  simp only [Act.put, List.getElem_toArray, List.getElem_cons_zero, List.getElem_cons_succ, List.setIfInBounds_toArray, List.set_cons_zero, List.set_cons_succ]
  refine anyIn_take (i := 6) (oi := _) (v := (.int .u8 (48 + (r : Int)))) rfl (by kernel_rfl) (by kernel_rfl) (by kernel_rfl) (fun _ _ _ h => by cases h.1) (Or.inl ⟨by rfl, ?_⟩) hHeld ?_
  · clear hHeld; intro X hSw; clear hSw; go_simp
  simp only [Act.put, List.getElem_toArray, List.getElem_cons_zero, List.getElem_cons_succ, List.setIfInBounds_toArray, List.set_cons_zero, List.set_cons_succ]
  refine anyIn_two (i := 2) (j := 7) (o := _) (o' := _) (by kernel_rfl) rfl rfl ?_ ?_
  · intro K2 hK2
    rw [if_pos (by rfl)]
    simp only [List.getElem_toArray, List.getElem_cons_zero, List.getElem_cons_succ]
    have HK2 := Lib.hid hK2
    clear hK2
    clear hHeld
    gi_wp2_with (refine ⟨trivial, ?_⟩; gi_at_call 50; refine (callsIn_wide.2 (HIH.out V)).mono ?_; rintro e X ⟨rfl, hb⟩; have HX := Lib.hid hb; clear hb)
    refine HK2.out _ _ trivial ?_
    clear HK2
    have hHeld : (fun _ : World => True) X := trivial
    refine anyIn_one (i := 7) (o := _) (by kernel_rfl) rfl ?_
    intro K7 hK7
    rw [if_pos (by rfl)]
    simp only [List.getElem_toArray, List.getElem_cons_zero, List.getElem_cons_succ]
    have HK7 := Lib.hid hK7
    clear hK7
    clear hHeld
    gi_wp2
    refine HK7.out _ _ trivial ?_
    clear HK7
    have hHeld : (fun _ : World => True) (X.alloc (.cells #[.int .u8 (48 + (r : Int))] 5)) := trivial
    refine anyIn_one (i := 8) (o := _) (by kernel_rfl) rfl ?_
    intro K8 hK8
    rw [if_pos (by rfl)]
    simp only [List.getElem_toArray, List.getElem_cons_zero, List.getElem_cons_succ]
    have HK8 := Lib.hid hK8
    clear hK8
    clear hHeld
    have hcv := conv_digit (X.alloc (.cells #[.int .u8 (48 + (r : Int))] 5)) X.heap.size r u HU.out hr9 (by rw [cell_of_row _ _ 0 _ _ _ (heap_alloc_new X _)]; rfl)
    gi_wp2
    refine HK8.out _ _ trivial ?_
    clear HK8 hcv
    have hHeld : (fun _ : World => True) (X.alloc (.cells #[.int .u8 (48 + (r : Int))] 5)) := trivial
    refine anyIn_take (i := 9) (oi := _) (v := (.string ((⟨(Lib.decDigits q).toArray⟩ : ByteArray) ++ ⟨#[u]⟩))) rfl (by kernel_rfl) (by kernel_rfl) (by kernel_rfl) (fun _ _ _ h => by cases h.1) (Or.inl ⟨by rfl, ?_⟩) hHeld ?_
    · clear hHeld; intro X hSw; clear hSw; go_simp
    simp only [Act.put, List.getElem_toArray, List.getElem_cons_zero, List.getElem_cons_succ, List.setIfInBounds_toArray, List.set_cons_zero, List.set_cons_succ]
    refine anyIn_take (i := 10) (oi := _) (v := (.string ((⟨(Lib.decDigits q).toArray⟩ : ByteArray) ++ ⟨#[u]⟩))) rfl (by kernel_rfl) (by kernel_rfl) (by kernel_rfl) (fun _ _ _ h => by cases h.1) (Or.inl ⟨by rfl, ?_⟩) hHeld ?_
    · clear hHeld; intro X hSw; clear hSw; go_simp
    simp only [Act.put, List.getElem_toArray, List.getElem_cons_zero, List.getElem_cons_succ, List.setIfInBounds_toArray, List.set_cons_zero, List.set_cons_succ]
    refine anyIn_done (by kernel_rfl) ⟨rfl, ?_⟩ _
    clear hHeld
    gi_wp2
    exact ⟨_, results_tmp rfl _ _ _, by rw [← HFIN.out]; rfl, (show Below w.heap.size w _ from (show Below w.heap.size w X from hVb.trans (HX.out.mono hVb.size)).alloc (Nat.le_trans hVb.size HX.out.size) _)⟩
  · intro K7 hK7
    rw [if_pos (by rfl)]
    simp only [List.getElem_toArray, List.getElem_cons_zero, List.getElem_cons_succ]
    have HK7 := Lib.hid hK7
    clear hK7
    clear hHeld
    gi_wp2
    refine HK7.out _ _ trivial ?_
    clear HK7
    have hHeld : (fun _ : World => True) (V.alloc (.cells #[.int .u8 (48 + (r : Int))] 5)) := trivial
    refine anyIn_two (i := 2) (j := 8) (o := _) (o' := _) (by kernel_rfl) rfl rfl ?_ ?_
    · intro K2 hK2
      rw [if_pos (by rfl)]
      simp only [List.getElem_toArray, List.getElem_cons_zero, List.getElem_cons_succ]
      have HK2 := Lib.hid hK2
      clear hK2
      clear hHeld
      gi_wp2_with (refine ⟨trivial, ?_⟩; gi_at_call 50; refine (callsIn_wide.2 (HIH.out (V.alloc (.cells #[.int .u8 (48 + (r : Int))] 5)))).mono ?_; rintro e X ⟨rfl, hb⟩; have HX := Lib.hid hb; clear hb)
      refine HK2.out _ _ trivial ?_
      clear HK2
      have hHeld : (fun _ : World => True) X := trivial
      refine anyIn_one (i := 8) (o := _) (by kernel_rfl) rfl ?_
      intro K8 hK8
      rw [if_pos (by rfl)]
      simp only [List.getElem_toArray, List.getElem_cons_zero, List.getElem_cons_succ]
      have HK8 := Lib.hid hK8
      clear hK8
      clear hHeld
      have hcv := conv_digit X V.heap.size r u HU.out hr9 (by rw [World.cell?_of_block (w := (V.alloc (.cells #[.int .u8 (48 + (r : Int))] 5))) (a := ⟨V.heap.size, 0, none⟩) (HX.out.block _ (by rw [World.size_alloc]; exact Nat.lt_succ_self _)), cell_of_row _ _ 0 _ _ _ (heap_alloc_new V _)]; rfl)
      gi_wp2
      refine HK8.out _ _ trivial ?_
      clear HK8 hcv
      have hHeld : (fun _ : World => True) X := trivial
      refine anyIn_take (i := 9) (oi := _) (v := (.string ((⟨(Lib.decDigits q).toArray⟩ : ByteArray) ++ ⟨#[u]⟩))) rfl (by kernel_rfl) (by kernel_rfl) (by kernel_rfl) (fun _ _ _ h => by cases h.1) (Or.inl ⟨by rfl, ?_⟩) hHeld ?_
      · clear hHeld; intro X hSw; clear hSw; go_simp
      simp only [Act.put, List.getElem_toArray, List.getElem_cons_zero, List.getElem_cons_succ, List.setIfInBounds_toArray, List.set_cons_zero, List.set_cons_succ]
      refine anyIn_take (i := 10) (oi := _) (v := (.string ((⟨(Lib.decDigits q).toArray⟩ : ByteArray) ++ ⟨#[u]⟩))) rfl (by kernel_rfl) (by kernel_rfl) (by kernel_rfl) (fun _ _ _ h => by cases h.1) (Or.inl ⟨by rfl, ?_⟩) hHeld ?_
      · clear hHeld; intro X hSw; clear hSw; go_simp
      simp only [Act.put, List.getElem_toArray, List.getElem_cons_zero, List.getElem_cons_succ, List.setIfInBounds_toArray, List.set_cons_zero, List.set_cons_succ]
      refine anyIn_done (by kernel_rfl) ⟨rfl, ?_⟩ _
      clear hHeld
      gi_wp2
      exact ⟨_, results_tmp rfl _ _ _, by rw [← HFIN.out]; rfl, (show Below w.heap.size w X from (show Below w.heap.size w (V.alloc (.cells #[.int .u8 (48 + (r : Int))] 5)) from hVb.alloc hVb.size _).trans (HX.out.mono (by rw [World.size_alloc]; exact Nat.le_succ_of_le hVb.size)))⟩
    · intro K8 hK8
      rw [if_pos (by rfl)]
      simp only [List.getElem_toArray, List.getElem_cons_zero, List.getElem_cons_succ]
      have HK8 := Lib.hid hK8
      clear hK8
      clear hHeld
      have hcv := conv_digit (V.alloc (.cells #[.int .u8 (48 + (r : Int))] 5)) V.heap.size r u HU.out hr9 (by rw [cell_of_row _ _ 0 _ _ _ (heap_alloc_new V _)]; rfl)
      gi_wp2
      refine HK8.out _ _ trivial ?_
      clear HK8 hcv
      have hHeld : (fun _ : World => True) (V.alloc (.cells #[.int .u8 (48 + (r : Int))] 5)) := trivial
      refine anyIn_one (i := 2) (o := _) (by kernel_rfl) rfl ?_
      intro K2 hK2
      rw [if_pos (by rfl)]
      simp only [List.getElem_toArray, List.getElem_cons_zero, List.getElem_cons_succ]
      have HK2 := Lib.hid hK2
      clear hK2
      clear hHeld
      gi_wp2_with (refine ⟨trivial, ?_⟩; gi_at_call 50; refine (callsIn_wide.2 (HIH.out (V.alloc (.cells #[.int .u8 (48 + (r : Int))] 5)))).mono ?_; rintro e X ⟨rfl, hb⟩; have HX := Lib.hid hb; clear hb)
      refine HK2.out _ _ trivial ?_
      clear HK2
      have hHeld : (fun _ : World => True) X := trivial
      refine anyIn_take (i := 9) (oi := _) (v := (.string ((⟨(Lib.decDigits q).toArray⟩ : ByteArray) ++ ⟨#[u]⟩))) rfl (by kernel_rfl) (by kernel_rfl) (by kernel_rfl) (fun _ _ _ h => by cases h.1) (Or.inl ⟨by rfl, ?_⟩) hHeld ?_
      · clear hHeld; intro X hSw; clear hSw; go_simp
      simp only [Act.put, List.getElem_toArray, List.getElem_cons_zero, List.getElem_cons_succ, List.setIfInBounds_toArray, List.set_cons_zero, List.set_cons_succ]
      refine anyIn_take (i := 10) (oi := _) (v := (.string ((⟨(Lib.decDigits q).toArray⟩ : ByteArray) ++ ⟨#[u]⟩))) rfl (by kernel_rfl) (by kernel_rfl) (by kernel_rfl) (fun _ _ _ h => by cases h.1) (Or.inl ⟨by rfl, ?_⟩) hHeld ?_
      · clear hHeld; intro X hSw; clear hSw; go_simp
      simp only [Act.put, List.getElem_toArray, List.getElem_cons_zero, List.getElem_cons_succ, List.setIfInBounds_toArray, List.set_cons_zero, List.set_cons_succ]
      refine anyIn_done (by kernel_rfl) ⟨rfl, ?_⟩ _
      clear hHeld
      gi_wp2
      exact ⟨_, results_tmp rfl _ _ _, by rw [← HFIN.out]; rfl, (show Below w.heap.size w X from (show Below w.heap.size w (V.alloc (.cells #[.int .u8 (48 + (r : Int))] 5)) from hVb.alloc hVb.size _).trans (HX.out.mono (by rw [World.size_alloc]; exact Nat.le_succ_of_le hVb.size)))⟩
theorem dec_len20 : ∀ (k n : Nat), n < 10 ^ (k + 1) → (Lib.decDigits n).length ≤ k + 1
  | 0, n, h => by rw [Lib.decDigits, dif_pos (by simpa using h)]; simp
  | k + 1, n, h => by
    rw [Lib.decDigits]
    split
    · simp
    · have := dec_len20 k (n / 10) (by rw [Nat.pow_succ] at h; omega)
      simp only [List.length_append, List.length_cons, List.length_nil]; omega
theorem positive_any (n : Nat) : ∀ (w : World), n ≤ 18446744073709551615 → Calls Tryd.prog 50 #[.int .u64 (n : Int)] w (SayC w (Lib.decDigits n)) := by
  induction n using Nat.strongRecOn with
  | ind n ih =>
    intro w hn
    by_cases h : n < 10
    · exact positive_small w n h
    · refine positive_big w n (n / 10) (n % 10) rfl rfl (by omega) hn ?_ (fun W => ih (n / 10) (by omega) W (by omega))
      have := dec_len20 19 (n / 10) (by omega)
      omega
end Go.Proofs.YtbbiemnjidfglaaDoor
