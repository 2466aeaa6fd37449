/-
  What TreeCounts answers: true. No condition but that its argument lies in memory as it came in.
  Same: are two trees the same? No condition but that there are not too many nodes.
-/
import Derived.Test.YteccnekdmehloaaDoorEHeld
import Derived.Test.YteccnekdmehloaaDoorEWakes
import Derived.Test.YteccnekdmehloaaDoorESame
namespace Go.Proofs.YteccnekdmehloaaDoor
open Go.RowKit Go.Shelf
attribute [local go_sem] Oper.semAt_some
set_option linter.unusedVariables false
set_option linter.unusedSimpArgs false

theorem region_plain {n : Nat} {P : Program} {ops : Array Oper} {Q : Exit → Act → World → Prop} {S : World → Prop} {id : Nat} {a : Act} {w : World} (hm : P.follows .mixedOrders = true) (h : AnyIn n P .any ops Q S ops.size (Array.replicate ops.size false) a w.drew) : (Code.region id ops true).wpIn Fence.wide n P Q a w :=
  wpIn_region_any hm (anyIn_plain _ _ _ _ h)
/-- .. where nothing panics. -/
theorem region_calm {n : Nat} {P : Program} {ops : Array Oper} {Q : Exit → Act → World → Prop} {S : World → Prop} {id : Nat} {a : Act} {w : World} (hm : P.follows .mixedOrders = true) (h : AnyIn n P .any ops (fun e a w => e = .normal ∧ Q .normal a w) S ops.size (Array.replicate ops.size false) a w.drew) : (Code.region id ops true).wpIn Fence.wide n P Q a w :=
  wpIn_mono (region_plain hm h) (fun e a w h => by obtain ⟨rfl, h⟩ := h; exact h)
end Go.Proofs.YteccnekdmehloaaDoor
namespace Go.Proofs.YteccnekdmehloaaDoor
open Go.RowKit Go.Shelf
attribute [local go_sem] Oper.semAt_some
set_option linter.unusedVariables false
set_option linter.unusedSimpArgs false

set_option maxRecDepth 100000 in
set_option maxHeartbeats 2000000 in
theorem tsame_any (w : World) (S1 S2 : Nat → Prop) (v1 v2 : Value) (t u : Tr) (hS1 : ∀ x, S1 x → x < w.heap.size) (hS2 : ∀ x, S2 x → x < w.heap.size) (ht : TrAt w S1 v1 t) (hu : TrAt w S2 v2 u) (hs1 : foSize t.kids + 1 ≤ 400000) (hs2 : foSize u.kids + 1 ≤ 400000) :
    Calls Tryd.prog 14 #[v1, v2] w (SameC t u w) := by
  obtain ⟨ka, cap, rfl, hcap, hk⟩ := ht
  obtain ⟨kb, cap2, rfl, hcap2, hkb⟩ := hu
  obtain ⟨n, hn⟩ : ∃ n, n = foLen t.kids := ⟨_, rfl⟩
  obtain ⟨m, hm⟩ : ∃ m, m = foLen u.kids := ⟨_, rfl⟩
  rw [← hn, ← hm]
  have hal := allocs_at [.cells #[.int .i64 t.id, .int .i64 t.kind, .string t.text, .slice ka n cap] 25, .cells #[.int .i64 u.id, .int .i64 u.kind, .string u.text, .slice kb m cap2] 25] w
  have hab := allocs_below [.cells #[.int .i64 t.id, .int .i64 t.kind, .string t.text, .slice ka n cap] 25, .cells #[.int .i64 u.id, .int .i64 u.kind, .string u.text, .slice kb m cap2] 25] w
  have kx := hal 0 _ rfl
  rw [Nat.add_zero] at kx
  have ky := hal 1 _ rfl
  obtain ⟨V, hV⟩ : ∃ V, V = allocs w [.cells #[.int .i64 t.id, .int .i64 t.kind, .string t.text, .slice ka n cap] 25, .cells #[.int .i64 u.id, .int .i64 u.kind, .string u.text, .slice kb m cap2] 25] := ⟨_, rfl⟩
  rw [← hV] at kx ky hab
  obtain ⟨SX, hSX⟩ : ∃ SX : World → Prop, SX = fun X => Below V.heap.size V X := ⟨_, rfl⟩
  have HSx : ∀ X, SX X → X.cell? ⟨w.heap.size, 0, none⟩ = some (.int .i64 t.id) ∧ X.cell? ⟨w.heap.size, 1, none⟩ = some (.int .i64 t.kind) ∧ X.cell? ⟨w.heap.size, 2, none⟩ = some (.string t.text) ∧ X.cell? ⟨w.heap.size, 3, none⟩ = some (.slice ka n cap) ∧
      X.cell? ⟨w.heap.size + 1, 0, none⟩ = some (.int .i64 u.id) ∧ X.cell? ⟨w.heap.size + 1, 1, none⟩ = some (.int .i64 u.kind) ∧ X.cell? ⟨w.heap.size + 1, 2, none⟩ = some (.string u.text) ∧ X.cell? ⟨w.heap.size + 1, 3, none⟩ = some (.slice kb m cap2) := fun X h => by
    rw [hSX] at h
    have e1 := (h.block _ (lt_of_heap kx)).trans kx
    have e2 := (h.block _ (lt_of_heap ky)).trans ky
    exact ⟨by rw [cell_of_row _ _ 0 _ _ _ e1]; rfl, by rw [cell_of_row _ _ 1 _ _ _ e1]; rfl, by rw [cell_of_row _ _ 2 _ _ _ e1]; rfl, by rw [cell_of_row _ _ 3 _ _ _ e1]; rfl, by rw [cell_of_row _ _ 0 _ _ _ e2]; rfl, by rw [cell_of_row _ _ 1 _ _ _ e2]; rfl, by rw [cell_of_row _ _ 2 _ _ _ e2]; rfl, by rw [cell_of_row _ _ 3 _ _ _ e2]; rfl⟩
  have hS0 : SX V.drew := by rw [hSX]; exact ⟨rfl, rfl, rfl, Nat.le_refl _, fun _ _ => rfl⟩
  have HSB := Lib.hid (fun (X Y : World) (h : SX X) (hb : Below X.heap.size X Y) => (show SX Y by rw [hSX] at h ⊢; exact h.trans (hb.mono h.size)))
  have hwX : ∀ X, SX X → Below w.heap.size w X := fun X h => by rw [hSX] at h; exact hab.trans (h.mono hab.size)
  have HRA : Hid (∀ X, SX X → Calls Tryd.prog 31 #[.agg #[.int .i64 t.id, .int .i64 t.kind, .string t.text, .slice ka n cap], .func (.func 32) #[] #[]] X (RowC X 61 4 loneC (spF 1 (rootF t)))) := Lib.hid fun X h => rowL_any X S1 _ t (fun x hx => Nat.lt_of_lt_of_le (hS1 x hx) (hwX X h).size) ⟨ka, cap, by rw [hn], hcap, hk.kept fun x hx => ⟨hx, (hwX X h).block x (hS1 x hx)⟩⟩ hs1
  have HRB : Hid (∀ X, SX X → Calls Tryd.prog 31 #[.agg #[.int .i64 u.id, .int .i64 u.kind, .string u.text, .slice kb m cap2], .func (.func 32) #[] #[]] X (RowC X 61 4 loneC (spF 1 (rootF u)))) := Lib.hid fun X h => rowL_any X S2 _ u (fun x hx => Nat.lt_of_lt_of_le (hS2 x hx) (hwX X h).size) ⟨kb, cap2, by rw [hm], hcap2, hkb.kept fun x hx => ⟨hx, (hwX X h).block x (hS2 x hx)⟩⟩ hs2
  have HL := Lib.hid (show (spF 1 (rootF t)).length ≤ 1000000 ∧ (spF 1 (rootF u)).length ≤ 1000000 by rw [spF_length, spF_length, rootF_size, rootF_size]; omega)
  have HFIN := Lib.hid hwX
  have HV := Lib.hid hV
  clear hS1 hS2 hcap hk hcap2 hkb hs1 hs2 hn hm hal hab kx ky hwX hSX hV
  refine (callsIn_wide (n := 8)).1 ?_
  refine callsIn_of_wp_marks Tryd.func14 rfl trivial ?_ rfl
  simp only [Tryd.ntmps14, List.size_toArray, List.length_cons, List.length_nil, Nat.reduceAdd, Nat.reduceSub, Array.replicate_succ, Array.replicate_zero, List.push_toArray, List.append_toArray, List.nil_append, List.cons_append]
  gi_wp2_with fail
  change Code.wpIn _ _ _ _ _ _ (allocs w [.cells #[.int .i64 t.id, .int .i64 t.kind, .string t.text, .slice ka n cap] 25, .cells #[.int .i64 u.id, .int .i64 u.kind, .string u.text, .slice kb m cap2] 25])
  rw [← HV.out]
  refine region_calm (S := SX) (by kernel_rfl) ?_
  have hHeld := hS0
  clear hS0
  refine anyIn_take (i := 0) (oi := _) (v := (.agg #[.int .i64 t.id, .int .i64 t.kind, .string t.text, .slice ka n cap])) rfl (by kernel_rfl) (by kernel_rfl) (by kernel_rfl) (fun _ _ _ h => by cases h.1) (Or.inl ⟨by rfl, ?_⟩) hHeld ?_
  · clear hHeld; intro X hSw; obtain ⟨s0, s1, s2, s3, s4, s5, s6, s7⟩ := HSx X hSw; clear hSw; go_simp
  simp only [Act.put, List.getElem_toArray, List.getElem_cons_zero, List.getElem_cons_succ, List.setIfInBounds_toArray, List.set_cons_zero, List.set_cons_succ]
  refine anyIn_take (i := 2) (oi := _) (v := (.agg #[.int .i64 u.id, .int .i64 u.kind, .string u.text, .slice kb m cap2])) rfl (by kernel_rfl) (by kernel_rfl) (by kernel_rfl) (fun _ _ _ h => by cases h.1) (Or.inl ⟨by rfl, ?_⟩) hHeld ?_
  · clear hHeld; intro X hSw; obtain ⟨s0, s1, s2, s3, s4, s5, s6, s7⟩ := HSx X hSw; clear hSw; go_simp
  simp only [Act.put, List.getElem_toArray, List.getElem_cons_zero, List.getElem_cons_succ, List.setIfInBounds_toArray, List.set_cons_zero, List.set_cons_succ]
  refine anyIn_one (i := 1) (o := _) (by kernel_rfl) rfl fun K1 hK1 => ?_
  rw [if_pos (by rfl)]
  simp only [List.getElem_toArray, List.getElem_cons_zero, List.getElem_cons_succ]
  have HK1 := Lib.hid hK1
  have HH1 := Lib.hid hHeld
  clear hK1 hHeld
  gi_wp2_with (refine ⟨trivial, ?_⟩; gi_at_call 31; refine (callsIn_wide.2 (HRA.out _ HH1.out)).mono ?_; rintro e X1 ⟨va, rfl, hoa, hb⟩; have HX1 := Lib.hid (And.intro hoa hb); clear hoa hb)
  have hHeld := HSB.out _ X1 HH1.out HX1.out.2
  refine HK1.out _ _ hHeld ?_
  clear HK1
  refine anyIn_one (i := 3) (o := _) (by kernel_rfl) rfl fun K3 hK3 => ?_
  rw [if_pos (by rfl)]
  simp only [List.getElem_toArray, List.getElem_cons_zero, List.getElem_cons_succ]
  have HK3 := Lib.hid hK3
  have HH3 := Lib.hid hHeld
  clear hK3 hHeld
  gi_wp2_with (refine ⟨trivial, ?_⟩; gi_at_call 31; refine (callsIn_wide.2 (HRB.out _ HH3.out)).mono ?_; rintro e X3 ⟨vb, rfl, hob, hb⟩; have HX3 := Lib.hid (And.intro hob hb); clear hob hb)
  have hHeld := HSB.out _ X3 HH3.out HX3.out.2
  refine HK3.out _ _ hHeld ?_
  clear HK3
  refine anyIn_one (i := 4) (o := _) (by kernel_rfl) rfl fun K4 hK4 => ?_
  rw [if_pos (by rfl)]
  simp only [List.getElem_toArray, List.getElem_cons_zero, List.getElem_cons_succ]
  have HK4 := Lib.hid hK4
  have HH4 := Lib.hid hHeld
  clear hK4 hHeld
  gi_wp2_with (refine ⟨trivial, ?_⟩; gi_at_call 30; refine (callsIn_wide.2 (equal_lones X3 _ _ va vb _ _ (owns_kept HX1.out.1 (fun g cur hc hg => HX3.out.2.block g (lt_of_heap hc))) HX3.out.1 HL.out.1 HL.out.2)).mono ?_; rintro e X4 ⟨rfl, hb⟩; rw [eqL_tree]; have HX4 := Lib.hid hb; clear hb)
  have hHeld := HSB.out _ X4 HH4.out HX4.out
  refine HK4.out _ _ hHeld ?_
  clear HK4
  refine anyIn_take (i := 5) (oi := _) (v := (.bool (sameT t u))) rfl (by kernel_rfl) (by kernel_rfl) (by kernel_rfl) (fun _ _ _ h => by cases h.1) (Or.inl ⟨by rfl, ?_⟩) hHeld ?_
  · clear hHeld; intro X hSw; clear hSw; go_simp
  simp only [Act.put, List.getElem_toArray, List.getElem_cons_zero, List.getElem_cons_succ, List.setIfInBounds_toArray, List.set_cons_zero, List.set_cons_succ]
  refine anyIn_done (by kernel_rfl) ⟨rfl, ?_⟩ _
  have HE := Lib.hid (HFIN.out _ hHeld)
  clear hHeld HSx
  gi_wp2
  exact ⟨_, results_tmp rfl _ _ _, rfl, HE.out⟩
end Go.Proofs.YteccnekdmehloaaDoor
