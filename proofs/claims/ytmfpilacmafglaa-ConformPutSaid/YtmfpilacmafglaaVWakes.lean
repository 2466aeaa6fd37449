/-
  What 'wakes' of layer 7 answers: true. No condition.
-/
import Derived.Test.YtmfpilacmafglaaVSub
import Derived.Test.YtmfpilacmafglaaGRow
import Derived.Test.YtmfpilacmafglaaEHeld
namespace Go.Proofs.Ytmfpilacmafglaa
open Go.RowKit Go.Shelf
attribute [local go_sem] Oper.semAt_some
set_option linter.unusedVariables false
set_option linter.unusedSimpArgs false

def wkG : Gr := ⟨[⟨⟨#[108, 105, 115, 116]⟩, false, [⟨[1], 0, 3⟩]⟩, ⟨⟨#[97]⟩, true, []⟩], 0⟩
def wkX : Tr := ⟨2, 1, ⟨#[]⟩, .nil⟩
def wkT : Tr := ⟨1, 0, ⟨#[]⟩, .node 0 0 (2, 1, ⟨#[]⟩) .nil (.node 0 0 (2, 1, ⟨#[]⟩) .nil .nil)⟩
theorem wkT_sp : spF 1 (rootF wkT) = [(1, (1, 0, ⟨#[]⟩), wkT.kids), (2, (2, 1, ⟨#[]⟩), .nil), (2, (2, 1, ⟨#[]⟩), .nil)] := rfl
theorem wkX_sp : spF 1 (rootF wkX) = [(1, (2, 1, ⟨#[]⟩), .nil)] := rfl
theorem wkT_ok : okF (spF 1 (rootF wkT)) := fun x hx => by
  rw [wkT_sp] at hx
  simp only [List.mem_cons, List.not_mem_nil, or_false] at hx
  rcases hx with rfl | rfl | rfl <;> exact ⟨by decide, by decide⟩
theorem wkX_ok : okF (spF 1 (rootF wkX)) := fun x hx => by
  rw [wkX_sp] at hx
  simp only [List.mem_cons, List.not_mem_nil, or_false] at hx
  subst hx; exact ⟨by decide, by decide⟩
theorem wk1 : treeR wkG wkT = (2, 70) := by kernel_rfl
theorem wk2 : treeR wkG wkX = (0, 70) := by kernel_rfl
theorem wk3 : subR wkG wkX = (0, 0) := by kernel_rfl
theorem wk_few : wkG.few := by
  refine ⟨(by show (2 : Nat) ≤ 1000000; decide), fun k hk => ?_⟩
  simp only [wkG, List.mem_cons, List.not_mem_nil, or_false] at hk
  rcases hk with rfl | rfl
  · refine ⟨(by show (4 : Nat) ≤ 1000000; decide), (by show (1 : Nat) ≤ 1000000; decide), fun s hs => ?_⟩
    simp only [List.mem_cons, List.not_mem_nil, or_false] at hs
    subst hs; exact (by decide : (1 : Nat) ≤ 1000000)
  · exact ⟨by decide, by simp, fun s hs => by cases hs⟩
set_option maxRecDepth 100000 in
set_option maxHeartbeats 4000000 in
theorem wakes7_any (w : World) : Calls Try.prog 39 #[] w (Says true w) := by
  have hal := allocs_at [.cells #[.int .i64 1] 3, .cells #[.slice (some ⟨w.heap.size, 0, none⟩) 1 1, .int .i64 0, .int .i64 3] 87, .cells #[.string { data := #[108, 105, 115, 116] }, .bool false, .slice (some ⟨w.heap.size + 1, 0, none⟩) 1 1, .string { data := #[97] }, .bool true, .slice none 0 0] 85, .cells #[.slice (some ⟨w.heap.size + 1 + 1, 0, none⟩) 2 2, .int .i64 0] 55, .cells #[.int .i64 2, .int .i64 1, .string { data := #[] }, .slice none 0 0, .int .i64 2, .int .i64 1, .string { data := #[] }, .slice none 0 0] 24, .cells #[.int .i64 1, .int .i64 0, .string { data := #[] }, .slice (some ⟨w.heap.size + 1 + 1 + 1 + 1, 0, none⟩) 2 2] 24] w
  have hab := allocs_below [.cells #[.int .i64 1] 3, .cells #[.slice (some ⟨w.heap.size, 0, none⟩) 1 1, .int .i64 0, .int .i64 3] 87, .cells #[.string { data := #[108, 105, 115, 116] }, .bool false, .slice (some ⟨w.heap.size + 1, 0, none⟩) 1 1, .string { data := #[97] }, .bool true, .slice none 0 0] 85, .cells #[.slice (some ⟨w.heap.size + 1 + 1, 0, none⟩) 2 2, .int .i64 0] 55, .cells #[.int .i64 2, .int .i64 1, .string { data := #[] }, .slice none 0 0, .int .i64 2, .int .i64 1, .string { data := #[] }, .slice none 0 0] 24, .cells #[.int .i64 1, .int .i64 0, .string { data := #[] }, .slice (some ⟨w.heap.size + 1 + 1 + 1 + 1, 0, none⟩) 2 2] 24] w
  obtain ⟨W, hW⟩ : ∃ W, W = allocs w [.cells #[.int .i64 1] 3, .cells #[.slice (some ⟨w.heap.size, 0, none⟩) 1 1, .int .i64 0, .int .i64 3] 87, .cells #[.string { data := #[108, 105, 115, 116] }, .bool false, .slice (some ⟨w.heap.size + 1, 0, none⟩) 1 1, .string { data := #[97] }, .bool true, .slice none 0 0] 85, .cells #[.slice (some ⟨w.heap.size + 1 + 1, 0, none⟩) 2 2, .int .i64 0] 55, .cells #[.int .i64 2, .int .i64 1, .string { data := #[] }, .slice none 0 0, .int .i64 2, .int .i64 1, .string { data := #[] }, .slice none 0 0] 24, .cells #[.int .i64 1, .int .i64 0, .string { data := #[] }, .slice (some ⟨w.heap.size + 1 + 1 + 1 + 1, 0, none⟩) 2 2] 24] := ⟨_, rfl⟩
  have h0 : W.heap[w.heap.size]? = some (.cells #[.int .i64 1] 3) := by rw [hW]; exact hal 0 _ rfl
  have h1 : W.heap[w.heap.size + 1]? = some (.cells #[.slice (some ⟨w.heap.size, 0, none⟩) 1 1, .int .i64 0, .int .i64 3] 87) := by rw [hW]; exact hal 1 _ rfl
  have h2 : W.heap[w.heap.size + 1 + 1]? = some (.cells #[.string { data := #[108, 105, 115, 116] }, .bool false, .slice (some ⟨w.heap.size + 1, 0, none⟩) 1 1, .string { data := #[97] }, .bool true, .slice none 0 0] 85) := by rw [hW]; exact hal 2 _ rfl
  have h3 : W.heap[w.heap.size + 1 + 1 + 1]? = some (.cells #[.slice (some ⟨w.heap.size + 1 + 1, 0, none⟩) 2 2, .int .i64 0] 55) := by rw [hW]; exact hal 3 _ rfl
  have h4 : W.heap[w.heap.size + 1 + 1 + 1 + 1]? = some (.cells #[.int .i64 2, .int .i64 1, .string { data := #[] }, .slice none 0 0, .int .i64 2, .int .i64 1, .string { data := #[] }, .slice none 0 0] 24) := by rw [hW]; exact hal 4 _ rfl
  have h5 : W.heap[w.heap.size + 1 + 1 + 1 + 1 + 1]? = some (.cells #[.int .i64 1, .int .i64 0, .string { data := #[] }, .slice (some ⟨w.heap.size + 1 + 1 + 1 + 1, 0, none⟩) 2 2] 24) := by rw [hW]; exact hal 5 _ rfl
  rw [← hW] at hab
  have i1 : IntsAt W (some ⟨w.heap.size, 0, none⟩) [1] := ints_in h0
  have hs : SlotsAt W (some ⟨w.heap.size + 1, 0, none⟩) [⟨[1], 0, 3⟩] := fun _ => ⟨_, 0, rfl, lt_of_some' h1, fun k s hx => by
    match k, hx with
    | 0, hx => cases hx; exact ⟨_, 1, cell0 h1 0 rfl, cell0 h1 1 rfl, cell0 h1 2 rfl, i1⟩
    | k + 1, hx => simp at hx⟩
  have hk : KindsAt W (some ⟨w.heap.size + 1 + 1, 0, none⟩) wkG.kinds := fun _ => ⟨_, 0, rfl, lt_of_some' h2, fun k s hx => by
    match k, hx with
    | 0, hx => cases hx; exact ⟨_, 1, cell0 h2 0 rfl, cell0 h2 1 rfl, cell0 h2 2 rfl, hs⟩
    | 1, hx => cases hx; exact ⟨none, 0, cell0 h2 3 rfl, cell0 h2 4 rfl, cell0 h2 5 rfl, fun h => absurd h (by decide)⟩
    | k + 2, hx => simp [wkG] at hx⟩
  have hT : TrAt W (fun y => y = w.heap.size + 1 + 1 + 1 + 1) (.agg #[.int .i64 1, .int .i64 0, .string { data := #[] }, .slice (some ⟨w.heap.size + 1 + 1 + 1 + 1, 0, none⟩) 2 2]) wkT := by
    refine ⟨some ⟨w.heap.size + 1 + 1 + 1 + 1, 0, none⟩, 2, rfl, Nat.le_refl _, w.heap.size + 1 + 1 + 1 + 1, 0, none, 0, rfl, rfl, ?_, ?_, ?_, ?_, Nat.le_refl _, True.intro, w.heap.size + 1 + 1 + 1 + 1, 4, none, 0, rfl, rfl, ?_, ?_, ?_, ?_, Nat.le_refl _, True.intro, True.intro⟩
    · exact cell0 h4 0 rfl
    · exact cell0 h4 1 rfl
    · exact cell0 h4 2 rfl
    · exact cell0 h4 3 rfl
    · exact cell0 h4 4 rfl
    · exact cell0 h4 5 rfl
    · exact cell0 h4 6 rfl
    · exact cell0 h4 7 rfl
  have hlt := lt_of_some' h5
  have hltW : ∀ y, y = w.heap.size + 1 + 1 + 1 + 1 → y < W.heap.size := fun y e => by rw [e]; exact lt_of_some' h4
  obtain ⟨SX, hSX⟩ : ∃ SX : World → Prop, SX = fun X => Below W.heap.size W X := ⟨_, rfl⟩
  have HSx : ∀ X, SX X → X.cell? ⟨w.heap.size + 1 + 1 + 1, 0, none⟩ = some (.slice (some ⟨w.heap.size + 1 + 1, 0, none⟩) 2 2) ∧ X.cell? ⟨w.heap.size + 1 + 1 + 1, 1, none⟩ = some (.int .i64 0) ∧ X.cell? ⟨w.heap.size + 1 + 1 + 1 + 1, 0, none⟩ = some (.int .i64 2) ∧ X.cell? ⟨w.heap.size + 1 + 1 + 1 + 1, 1, none⟩ = some (.int .i64 1) ∧ X.cell? ⟨w.heap.size + 1 + 1 + 1 + 1, 2, none⟩ = some (.string { data := #[] }) ∧ X.cell? ⟨w.heap.size + 1 + 1 + 1 + 1, 3, none⟩ = some (.slice none 0 0) ∧ X.cell? ⟨w.heap.size + 1 + 1 + 1 + 1 + 1, 0, none⟩ = some (.int .i64 1) ∧ X.cell? ⟨w.heap.size + 1 + 1 + 1 + 1 + 1, 1, none⟩ = some (.int .i64 0) ∧ X.cell? ⟨w.heap.size + 1 + 1 + 1 + 1 + 1, 2, none⟩ = some (.string { data := #[] }) ∧ X.cell? ⟨w.heap.size + 1 + 1 + 1 + 1 + 1, 3, none⟩ = some (.slice (some ⟨w.heap.size + 1 + 1 + 1 + 1, 0, none⟩) 2 2) := fun X h => by
    rw [hSX] at h
    have k3 := (h.block _ (lt_of_some' h3)).trans h3
    have k4 := (h.block _ (lt_of_some' h4)).trans h4
    have k5 := (h.block _ (lt_of_some' h5)).trans h5
    exact ⟨cell0 k3 0 rfl, cell0 k3 1 rfl, cell0 k4 0 rfl, cell0 k4 1 rfl, cell0 k4 2 rfl, cell0 k4 3 rfl, cell0 k5 0 rfl, cell0 k5 1 rfl, cell0 k5 2 rfl, cell0 k5 3 rfl⟩
  have HS1 := Lib.hid (show SX W by rw [hSX]; exact Below.refl _ _)
  have HSB := Lib.hid (fun (X Y : World) (h : SX X) (hb : Below X.heap.size X Y) => (show SX Y by rw [hSX] at h ⊢; exact h.trans (hb.mono h.size)))
  have HSD := Lib.hid (fun (X : World) (h : SX X) => (show SX X.drew by rw [hSX] at h ⊢; exact ⟨h.os, h.tape, h.output, h.size, h.block⟩))
  have HFIN := Lib.hid (fun (X : World) (h : SX X) => (show Below w.heap.size w X by rw [hSX] at h; exact hab.trans (h.mono hab.size)))
  have hgX : ∀ X, SX X → GrV X (.agg #[.slice (some ⟨w.heap.size + 1 + 1, 0, none⟩) 2 2, .int .i64 0]) wkG := fun X h => ⟨_, 2, rfl, by rw [hSX] at h; exact hk.below h⟩
  have HT1 : Hid (∀ X, SX X → Calls Try.prog 40 #[.agg #[.slice (some ⟨w.heap.size + 1 + 1, 0, none⟩) 2 2, .int .i64 0], .agg #[.int .i64 1, .int .i64 0, .string { data := #[] }, .slice (some ⟨w.heap.size + 1 + 1 + 1 + 1, 0, none⟩) 2 2]] X (Says2 (2, 70) X)) := Lib.hid fun X h => by
    have := tree_any X (fun y => y = w.heap.size + 1 + 1 + 1 + 1) _ _ wkG wkT (hgX X h) wk_few (fun y e => Nat.lt_of_lt_of_le (hltW y e) (by rw [hSX] at h; exact h.size)) (by rw [hSX] at h; obtain ⟨ka, kc, e, hc, hf⟩ := hT; exact ⟨ka, kc, e, hc, hf.kept fun y hy => ⟨hy, h.block y (hltW y hy)⟩⟩) (by decide) wkT_ok
    rw [wk1] at this; exact this
  have hxX : ∀ X, TrAt X (fun _ => False) (.agg #[.int .i64 2, .int .i64 1, .string { data := #[] }, .slice none 0 0]) wkX := fun X => ⟨none, 0, rfl, Nat.le_refl _, True.intro⟩
  have HT2 : Hid (∀ X, SX X → Calls Try.prog 40 #[.agg #[.slice (some ⟨w.heap.size + 1 + 1, 0, none⟩) 2 2, .int .i64 0], .agg #[.int .i64 2, .int .i64 1, .string { data := #[] }, .slice none 0 0]] X (Says2 (0, 70) X)) := Lib.hid fun X h => by
    have := tree_any X (fun _ => False) _ _ wkG wkX (hgX X h) wk_few (fun _ e => e.elim) (hxX X) (by decide) wkX_ok
    rw [wk2] at this; exact this
  have HT3 : Hid (∀ X, SX X → Calls Try.prog 42 #[.agg #[.slice (some ⟨w.heap.size + 1 + 1, 0, none⟩) 2 2, .int .i64 0], .agg #[.int .i64 2, .int .i64 1, .string { data := #[] }, .slice none 0 0]] X (Says2 (0, 0) X)) := Lib.hid fun X h => by
    have := sub_any X (fun _ => False) _ _ wkG wkX (hgX X h) wk_few (fun _ e => e.elim) (hxX X) (by decide) wkX_ok
    rw [wk3] at this; exact this
  have HW := Lib.hid hW
  obtain ⟨p0, p1, _, _, _, _, p6, p7, p8, p9⟩ := HSx W HS1.out
  clear hal hab h0 h1 h2 h3 h4 h5 i1 hs hk hT hlt hltW hSX hgX hxX hW
  refine (callsIn_wide (n := 8)).1 ?_
  refine callsIn_of_wp_marks Try.func39 rfl trivial ?_ rfl
  simp only [Try.ntmps39, List.size_toArray, List.length_cons, List.length_nil, Nat.reduceAdd, Nat.reduceSub, Array.replicate_succ, Array.replicate_zero, List.push_toArray, List.append_toArray, List.nil_append, List.cons_append]
  gi_wp2_with fail
  change Fence.wide.fn _ ∧ CallsIn Fence.wide _ _ _ _ (allocs w [.cells #[.int .i64 1] 3, .cells #[.slice (some ⟨w.heap.size, 0, none⟩) 1 1, .int .i64 0, .int .i64 3] 87, .cells #[.string { data := #[108, 105, 115, 116] }, .bool false, .slice (some ⟨w.heap.size + 1, 0, none⟩) 1 1, .string { data := #[97] }, .bool true, .slice none 0 0] 85, .cells #[.slice (some ⟨w.heap.size + 1 + 1, 0, none⟩) 2 2, .int .i64 0] 55, .cells #[.int .i64 2, .int .i64 1, .string { data := #[] }, .slice none 0 0, .int .i64 2, .int .i64 1, .string { data := #[] }, .slice none 0 0] 24, .cells #[.int .i64 1, .int .i64 0, .string { data := #[] }, .slice (some ⟨w.heap.size + 1 + 1 + 1 + 1, 0, none⟩) 2 2] 24]) _
  rw [← HW.out]
  refine ⟨trivial, ?_⟩
  gi_at_call 40
  refine (callsIn_wide.2 (HT1.out _ HS1.out)).mono ?_
  rintro e w2 ⟨rfl, hb⟩
  have HS2 := Lib.hid (HSB.out _ _ HS1.out hb)
  clear hb p0 p1 p6 p7 p8 p9
  gi_wp2_with fail
  refine region_calm (S := SX) (by kernel_rfl) ?_
  have hHeld := HSD.out _ HS2.out
  refine anyIn_take (i := 0) (oi := _) (v := (.agg #[.slice (some ⟨w.heap.size + 1 + 1, 0, none⟩) 2 2, .int .i64 0])) rfl (by kernel_rfl) (by kernel_rfl) (by kernel_rfl) (fun _ _ _ h => by cases h.1) (Or.inl ⟨by rfl, ?_⟩) hHeld ?_
  · clear hHeld; intro X hSw; obtain ⟨s0, s1, s2, s3, s4, s5, s6, s7, s8, s9⟩ := HSx X hSw; clear hSw; go_simp
  simp only [Act.put, List.getElem_toArray, List.getElem_cons_zero, List.getElem_cons_succ, List.setIfInBounds_toArray, List.set_cons_zero, List.set_cons_succ]
  refine anyIn_take (i := 1) (oi := _) (v := (.pointer (some ⟨w.heap.size + 1 + 1 + 1 + 1 + 1, 3, none⟩))) rfl (by kernel_rfl) (by kernel_rfl) (by kernel_rfl) (fun _ _ _ h => by cases h.1) (Or.inl ⟨by rfl, ?_⟩) hHeld ?_
  · clear hHeld; intro X hSw; clear hSw; go_simp
  simp only [Act.put, List.getElem_toArray, List.getElem_cons_zero, List.getElem_cons_succ, List.setIfInBounds_toArray, List.set_cons_zero, List.set_cons_succ]
  refine anyIn_take (i := 2) (oi := _) (v := (.slice (some ⟨w.heap.size + 1 + 1 + 1 + 1, 0, none⟩) 2 2)) rfl (by kernel_rfl) (by kernel_rfl) (by kernel_rfl) (fun _ _ _ h => by cases h.1) (Or.inl ⟨by rfl, ?_⟩) hHeld ?_
  · clear hHeld; intro X hSw; obtain ⟨s0, s1, s2, s3, s4, s5, s6, s7, s8, s9⟩ := HSx X hSw; clear hSw; go_simp
  simp only [Act.put, List.getElem_toArray, List.getElem_cons_zero, List.getElem_cons_succ, List.setIfInBounds_toArray, List.set_cons_zero, List.set_cons_succ]
  refine anyIn_take (i := 3) (oi := _) (v := (.pointer (some ⟨w.heap.size + 1 + 1 + 1 + 1, 0, none⟩))) rfl (by kernel_rfl) (by kernel_rfl) (by kernel_rfl) (fun _ _ _ h => by cases h.1) (Or.inl ⟨by rfl, ?_⟩) hHeld ?_
  · clear hHeld; intro X hSw; clear hSw; go_simp
  simp only [Act.put, List.getElem_toArray, List.getElem_cons_zero, List.getElem_cons_succ, List.setIfInBounds_toArray, List.set_cons_zero, List.set_cons_succ]
  refine anyIn_take (i := 4) (oi := _) (v := (.agg #[.int .i64 2, .int .i64 1, .string { data := #[] }, .slice none 0 0])) rfl (by kernel_rfl) (by kernel_rfl) (by kernel_rfl) (fun _ _ _ h => by cases h.1) (Or.inl ⟨by rfl, ?_⟩) hHeld ?_
  · clear hHeld; intro X hSw; obtain ⟨s0, s1, s2, s3, s4, s5, s6, s7, s8, s9⟩ := HSx X hSw; clear hSw; go_simp
  simp only [Act.put, List.getElem_toArray, List.getElem_cons_zero, List.getElem_cons_succ, List.setIfInBounds_toArray, List.set_cons_zero, List.set_cons_succ]
  refine anyIn_one (i := 5) (o := _) (by kernel_rfl) rfl fun K5 hK5 => ?_
  rw [if_pos (by rfl)]
  simp only [List.getElem_toArray, List.getElem_cons_zero, List.getElem_cons_succ]
  have HK5 := Lib.hid hK5
  have HH5 := Lib.hid hHeld
  clear hK5 hHeld
  gi_wp2_with (refine ⟨trivial, ?_⟩; gi_at_call 40; refine (callsIn_wide.2 (HT2.out _ HH5.out)).mono ?_; rintro e w3 ⟨rfl, hb⟩; have HX5 := Lib.hid hb; clear hb)
  have hHeld := HSB.out _ w3 HH5.out HX5.out
  refine HK5.out _ _ hHeld ?_
  clear HK5
  refine anyIn_take (i := 6) (oi := _) (v := (.tuple #[.int .i64 0, .int .i64 70])) rfl (by kernel_rfl) (by kernel_rfl) (by kernel_rfl) (fun _ _ _ h => by cases h.1) (Or.inl ⟨by rfl, ?_⟩) hHeld ?_
  · clear hHeld; intro X hSw; clear hSw; go_simp
  simp only [Act.put, List.getElem_toArray, List.getElem_cons_zero, List.getElem_cons_succ, List.setIfInBounds_toArray, List.set_cons_zero, List.set_cons_succ]
  refine anyIn_take (i := 7) (oi := _) (v := (.int .i64 0)) rfl (by kernel_rfl) (by kernel_rfl) (by kernel_rfl) (fun _ _ _ h => by cases h.1) (Or.inl ⟨by rfl, ?_⟩) hHeld ?_
  · clear hHeld; intro X hSw; clear hSw; go_simp
  simp only [Act.put, List.getElem_toArray, List.getElem_cons_zero, List.getElem_cons_succ, List.setIfInBounds_toArray, List.set_cons_zero, List.set_cons_succ]
  refine anyIn_take (i := 8) (oi := _) (v := (.int .i64 70)) rfl (by kernel_rfl) (by kernel_rfl) (by kernel_rfl) (fun _ _ _ h => by cases h.1) (Or.inl ⟨by rfl, ?_⟩) hHeld ?_
  · clear hHeld; intro X hSw; clear hSw; go_simp
  simp only [Act.put, List.getElem_toArray, List.getElem_cons_zero, List.getElem_cons_succ, List.setIfInBounds_toArray, List.set_cons_zero, List.set_cons_succ]
  refine anyIn_take (i := 9) (oi := _) (v := (.int .i64 0)) rfl (by kernel_rfl) (by kernel_rfl) (by kernel_rfl) (fun _ _ _ h => by cases h.1) (Or.inl ⟨by rfl, ?_⟩) hHeld ?_
  · clear hHeld; intro X hSw; clear hSw; go_simp
  simp only [Act.put, List.getElem_toArray, List.getElem_cons_zero, List.getElem_cons_succ, List.setIfInBounds_toArray, List.set_cons_zero, List.set_cons_succ]
  refine anyIn_take (i := 10) (oi := _) (v := (.int .i64 70)) rfl (by kernel_rfl) (by kernel_rfl) (by kernel_rfl) (fun _ _ _ h => by cases h.1) (Or.inl ⟨by rfl, ?_⟩) hHeld ?_
  · clear hHeld; intro X hSw; clear hSw; go_simp
  simp only [Act.put, List.getElem_toArray, List.getElem_cons_zero, List.getElem_cons_succ, List.setIfInBounds_toArray, List.set_cons_zero, List.set_cons_succ]
  refine anyIn_done (by kernel_rfl) ⟨rfl, ?_⟩ _
  have HS3 := Lib.hid hHeld
  clear hHeld HX5 HH5
  gi_wp2_with fail
  refine region_calm (S := SX) (by kernel_rfl) ?_
  have hHeld := HSD.out _ HS3.out
  refine anyIn_take (i := 0) (oi := _) (v := (.agg #[.slice (some ⟨w.heap.size + 1 + 1, 0, none⟩) 2 2, .int .i64 0])) rfl (by kernel_rfl) (by kernel_rfl) (by kernel_rfl) (fun _ _ _ h => by cases h.1) (Or.inl ⟨by rfl, ?_⟩) hHeld ?_
  · clear hHeld; intro X hSw; obtain ⟨s0, s1, s2, s3, s4, s5, s6, s7, s8, s9⟩ := HSx X hSw; clear hSw; go_simp
  simp only [Act.put, List.getElem_toArray, List.getElem_cons_zero, List.getElem_cons_succ, List.setIfInBounds_toArray, List.set_cons_zero, List.set_cons_succ]
  refine anyIn_take (i := 1) (oi := _) (v := (.pointer (some ⟨w.heap.size + 1 + 1 + 1 + 1 + 1, 3, none⟩))) rfl (by kernel_rfl) (by kernel_rfl) (by kernel_rfl) (fun _ _ _ h => by cases h.1) (Or.inl ⟨by rfl, ?_⟩) hHeld ?_
  · clear hHeld; intro X hSw; clear hSw; go_simp
  simp only [Act.put, List.getElem_toArray, List.getElem_cons_zero, List.getElem_cons_succ, List.setIfInBounds_toArray, List.set_cons_zero, List.set_cons_succ]
  refine anyIn_take (i := 2) (oi := _) (v := (.slice (some ⟨w.heap.size + 1 + 1 + 1 + 1, 0, none⟩) 2 2)) rfl (by kernel_rfl) (by kernel_rfl) (by kernel_rfl) (fun _ _ _ h => by cases h.1) (Or.inl ⟨by rfl, ?_⟩) hHeld ?_
  · clear hHeld; intro X hSw; obtain ⟨s0, s1, s2, s3, s4, s5, s6, s7, s8, s9⟩ := HSx X hSw; clear hSw; go_simp
  simp only [Act.put, List.getElem_toArray, List.getElem_cons_zero, List.getElem_cons_succ, List.setIfInBounds_toArray, List.set_cons_zero, List.set_cons_succ]
  refine anyIn_take (i := 3) (oi := _) (v := (.pointer (some ⟨w.heap.size + 1 + 1 + 1 + 1, 0, none⟩))) rfl (by kernel_rfl) (by kernel_rfl) (by kernel_rfl) (fun _ _ _ h => by cases h.1) (Or.inl ⟨by rfl, ?_⟩) hHeld ?_
  · clear hHeld; intro X hSw; clear hSw; go_simp
  simp only [Act.put, List.getElem_toArray, List.getElem_cons_zero, List.getElem_cons_succ, List.setIfInBounds_toArray, List.set_cons_zero, List.set_cons_succ]
  refine anyIn_take (i := 4) (oi := _) (v := (.agg #[.int .i64 2, .int .i64 1, .string { data := #[] }, .slice none 0 0])) rfl (by kernel_rfl) (by kernel_rfl) (by kernel_rfl) (fun _ _ _ h => by cases h.1) (Or.inl ⟨by rfl, ?_⟩) hHeld ?_
  · clear hHeld; intro X hSw; obtain ⟨s0, s1, s2, s3, s4, s5, s6, s7, s8, s9⟩ := HSx X hSw; clear hSw; go_simp
  simp only [Act.put, List.getElem_toArray, List.getElem_cons_zero, List.getElem_cons_succ, List.setIfInBounds_toArray, List.set_cons_zero, List.set_cons_succ]
  refine anyIn_one (i := 5) (o := _) (by kernel_rfl) rfl fun K5 hK5 => ?_
  rw [if_pos (by rfl)]
  simp only [List.getElem_toArray, List.getElem_cons_zero, List.getElem_cons_succ]
  have HK5 := Lib.hid hK5
  have HH5 := Lib.hid hHeld
  clear hK5 hHeld
  gi_wp2_with (refine ⟨trivial, ?_⟩; gi_at_call 42; refine (callsIn_wide.2 (HT3.out _ HH5.out)).mono ?_; rintro e w4 ⟨rfl, hb⟩; have HX5 := Lib.hid hb; clear hb)
  have hHeld := HSB.out _ w4 HH5.out HX5.out
  refine HK5.out _ _ hHeld ?_
  clear HK5
  refine anyIn_take (i := 6) (oi := _) (v := (.tuple #[.int .i64 0, .int .i64 0])) rfl (by kernel_rfl) (by kernel_rfl) (by kernel_rfl) (fun _ _ _ h => by cases h.1) (Or.inl ⟨by rfl, ?_⟩) hHeld ?_
  · clear hHeld; intro X hSw; clear hSw; go_simp
  simp only [Act.put, List.getElem_toArray, List.getElem_cons_zero, List.getElem_cons_succ, List.setIfInBounds_toArray, List.set_cons_zero, List.set_cons_succ]
  refine anyIn_take (i := 7) (oi := _) (v := (.int .i64 0)) rfl (by kernel_rfl) (by kernel_rfl) (by kernel_rfl) (fun _ _ _ h => by cases h.1) (Or.inl ⟨by rfl, ?_⟩) hHeld ?_
  · clear hHeld; intro X hSw; clear hSw; go_simp
  simp only [Act.put, List.getElem_toArray, List.getElem_cons_zero, List.getElem_cons_succ, List.setIfInBounds_toArray, List.set_cons_zero, List.set_cons_succ]
  refine anyIn_take (i := 8) (oi := _) (v := (.int .i64 0)) rfl (by kernel_rfl) (by kernel_rfl) (by kernel_rfl) (fun _ _ _ h => by cases h.1) (Or.inl ⟨by rfl, ?_⟩) hHeld ?_
  · clear hHeld; intro X hSw; clear hSw; go_simp
  simp only [Act.put, List.getElem_toArray, List.getElem_cons_zero, List.getElem_cons_succ, List.setIfInBounds_toArray, List.set_cons_zero, List.set_cons_succ]
  refine anyIn_take (i := 9) (oi := _) (v := (.int .i64 0)) rfl (by kernel_rfl) (by kernel_rfl) (by kernel_rfl) (fun _ _ _ h => by cases h.1) (Or.inl ⟨by rfl, ?_⟩) hHeld ?_
  · clear hHeld; intro X hSw; clear hSw; go_simp
  simp only [Act.put, List.getElem_toArray, List.getElem_cons_zero, List.getElem_cons_succ, List.setIfInBounds_toArray, List.set_cons_zero, List.set_cons_succ]
  refine anyIn_take (i := 10) (oi := _) (v := (.int .i64 0)) rfl (by kernel_rfl) (by kernel_rfl) (by kernel_rfl) (fun _ _ _ h => by cases h.1) (Or.inl ⟨by rfl, ?_⟩) hHeld ?_
  · clear hHeld; intro X hSw; clear hSw; go_simp
  simp only [Act.put, List.getElem_toArray, List.getElem_cons_zero, List.getElem_cons_succ, List.setIfInBounds_toArray, List.set_cons_zero, List.set_cons_succ]
  refine anyIn_done (by kernel_rfl) ⟨rfl, ?_⟩ _
  have HS4 := Lib.hid hHeld
  clear hHeld HX5 HH5
  clear HSx
  gi_wp2_with fail
  exact ⟨_, results_tmp rfl _ _ _, rfl, HFIN.out _ HS4.out⟩
end Go.Proofs.Ytmfpilacmafglaa
