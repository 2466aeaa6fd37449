/-
  The document's own Within and Common. No condition but that there are not too many nodes.
-/
import Derived.Test.YtjppibomjnmjpaaHRParent
namespace Go.Proofs.Ytjppibomjnmjpaa
open Go.RowKit Go.Shelf
set_option linter.unusedVariables false
set_option linter.unusedSimpArgs false

def LcpI (W2 : World) (p q : List Nat) (k : Nat) (wr : World) : Prop := lcp p q = k + lcp (p.drop k) (q.drop k) ∧ Below W2.heap.size W2 wr
set_option maxRecDepth 100000 in
set_option maxHeartbeats 8000000 in
theorem rwithin_any (w : World) (S : Nat → Prop) (nv : Value) (t : Tr) (a b : Int) (hS : ∀ x, S x → x < w.heap.size) (ht : TrAt w S nv t) (hsz : foSize t.kids ≤ 400000) (hlen : foLen t.kids ≤ 9223372036854775807) (hfit : foFit t.kids) : Calls Try.prog 17 #[nv, .int .i64 a, .int .i64 b] w fun e w' => e = .returned (.bool (withinT a b t)) ∧ Below w.heap.size w w' := by
  obtain ⟨ka, tc, rfl, hcap, hk⟩ := ht
  obtain ⟨B, hB⟩ : ∃ B, B = w.alloc (.cells #[.int .i64 t.id, .int .i64 t.kind, .string t.text, .slice ka (foLen t.kids) tc] 24) := ⟨_, rfl⟩
  have hb := box_below w (.cells #[.int .i64 t.id, .int .i64 t.kind, .string t.text, .slice ka (foLen t.kids) tc] 24)
  have hbx := heap_alloc_new w (.cells #[.int .i64 t.id, .int .i64 t.kind, .string t.text, .slice ka (foLen t.kids) tc] 24)
  rw [← hB] at hb hbx
  have hpath := fun (i : Int) (X : World) (hX : Below B.heap.size B X) => rpath_any 500000 X S (.agg #[.int .i64 t.id, .int .i64 t.kind, .string t.text, .slice ka (foLen t.kids) tc]) t i (by omega) (by omega) (fun x hx => Nat.lt_of_lt_of_le (hS x hx) (Nat.le_trans hb.size hX.size)) ⟨ka, tc, rfl, hcap, hk.below (hb.trans (hX.mono hb.size)) hS⟩
  have hat := at_knows w S t ka tc hS hk hcap hlen hfit
  obtain ⟨nk, hnk⟩ : ∃ n, n = foLen t.kids := ⟨_, rfl⟩
  rw [← hnk] at hB hbx hat
  simp only [← hnk] at hpath
  rw [← hnk]
  have HC := Lib.hid (And.intro hpath (And.intro hb (And.intro hB hbx)))
  have HATT := Lib.hid hat
  have HSZ := Lib.hid hsz
  obtain ⟨pr, hpr⟩ : ∃ pr, pr = withinT a b t := ⟨_, rfl⟩
  have hpe : (.bool (withinT a b t) : Value) = (.bool (pr)) := by rw [hpr]
  rw [hpe]
  have HP := Lib.hid hpr
  clear hpath hb hB hbx hat hk hcap hS hnk hlen hfit hsz hpr hpe
  go_enter Try.func17, Try.ntmps17
  go_wp2_with fail
  rw [← HC.out.2.2.1]
  refine (HC.out.1 a B (Below.refl _ _)).mono ?_
  rintro e W1 ⟨pv, rfl, hown, hb1⟩
  have hbx1 := (hb1.block _ (lt_of_heap HC.out.2.2.2)).trans HC.out.2.2.2
  have n0 : W1.cell? ⟨w.heap.size, 0, none⟩ = some (.int .i64 t.id) := by rw [cell_of_row _ _ 0 _ _ _ hbx1]; rfl
  have n1 : W1.cell? ⟨w.heap.size, 1, none⟩ = some (.int .i64 t.kind) := by rw [cell_of_row _ _ 1 _ _ _ hbx1]; rfl
  have n2 : W1.cell? ⟨w.heap.size, 2, none⟩ = some (.string t.text) := by rw [cell_of_row _ _ 2 _ _ _ hbx1]; rfl
  have n3 : W1.cell? ⟨w.heap.size, 3, none⟩ = some (.slice ka nk tc) := by rw [cell_of_row _ _ 3 _ _ _ hbx1]; rfl
  have H1 := Lib.hid (And.intro hown (And.intro hb1 hbx1))
  clear hown hb1 hbx1
  obtain ⟨pa, pc, rfl⟩ := owns_slice H1.out.1
  obtain ⟨oa, hoa⟩ : ∃ oa, oa = pathT a t := ⟨_, rfl⟩
  rw [← hoa] at H1 ⊢
  obtain ⟨n, hn⟩ : ∃ n, n = (natI (oa.getD [])).length := ⟨_, rfl⟩
  rw [← hn] at H1 ⊢
  have HA := Lib.hid (And.intro hoa hn)
  clear hoa hn
  obtain ⟨fa, hfa⟩ : ∃ fa, fa = oa.isSome := ⟨_, rfl⟩
  rw [← hfa]
  have HFA := Lib.hid hfa
  clear hfa
  go_wp2_with fail
  refine (HC.out.1 b W1 H1.out.2.1).mono ?_
  rintro e W2 ⟨qv, rfl, hown2, hb2⟩
  have hown1 := owns_kept H1.out.1 (w' := W2) (fun g cur hc _ => hb2.block g (lt_of_some hc))
  have hbw1 : Below w.heap.size w W1 := HC.out.2.1.trans (H1.out.2.1.mono HC.out.2.1.size)
  have hbw : Below w.heap.size w W2 := hbw1.trans (hb2.mono hbw1.size)
  have hbx2 := (hb2.block _ (lt_of_heap H1.out.2.2)).trans H1.out.2.2
  obtain ⟨qa, qc, rfl⟩ := owns_slice hown2
  obtain ⟨ob, hob⟩ : ∃ ob, ob = pathT b t := ⟨_, rfl⟩
  rw [← hob] at hown2 ⊢
  obtain ⟨m, hm⟩ : ∃ m, m = (natI (ob.getD [])).length := ⟨_, rfl⟩
  rw [← hm] at hown2 ⊢
  obtain ⟨fb, hfb⟩ : ∃ fb, fb = ob.isSome := ⟨_, rfl⟩
  rw [← hfb]
  have H2 := Lib.hid (And.intro hown1 (And.intro hown2 (And.intro hbw hbx2)))
  have HB := Lib.hid (And.intro hob (And.intro hm hfb))
  clear hown1 hown2 hb2 hbw1 hbw hbx2 hob hm hfb n0 n1 n2 n3
  cases oa with
  | none =>
    have hE : pr = false := by rw [HP.out, withinT, ← HA.out.1]
    have hf := HFA.out
    simp only [Option.isSome_none] at hf
    subst hf
    have HE := Lib.hid (And.intro hE H2.out.2.2.1)
    clear hE
    go_wp2_with fail
    go_ret
    exact ⟨congrArg (fun z => Ending.returned (.bool z)) HE.out.1.symm, HE.out.2⟩
  | some p =>
    have hf := HFA.out
    simp only [Option.isSome_some] at hf
    subst hf
    cases ob with
    | none =>
      have hE : pr = false := by rw [HP.out, withinT, ← HA.out.1, ← HB.out.1]
      have hf := HB.out.2.2
      simp only [Option.isSome_none] at hf
      subst hf
      have HE := Lib.hid (And.intro hE H2.out.2.2.1)
      clear hE
      go_wp2_with fail
      go_ret
      exact ⟨congrArg (fun z => Ending.returned (.bool z)) HE.out.1.symm, HE.out.2⟩
    | some q =>
      have hf := HB.out.2.2
      simp only [Option.isSome_some] at hf
      subst hf
      have hE : pr = decide (lcp p q = p.length) := by rw [HP.out, withinT, ← HA.out.1, ← HB.out.1]
      have hnp : n = p.length := by have := HA.out.2; simpa [natI_length] using this
      have hmq : m = q.length := by have := HB.out.2.1; simpa [natI_length] using this
      have hp6 := path_le a t p HA.out.1.symm
      have hq6 := path_le b t q HB.out.1.symm
      have hn6 : n ≤ 500000 := by have := HSZ.out; omega
      have hm6 : m ≤ 500000 := by have := HSZ.out; omega
      have HN := Lib.hid (And.intro hnp hmq)
      clear hp6 hq6 hnp hmq
      by_cases hnm : (m : Int) < (n : Int)
      · have hE2 : pr = false := by
          rw [hE, decide_eq_false_iff_not]
          have := (lcp_le p q).2; have := HN.out.1; have := HN.out.2; omega
        have HE := Lib.hid (And.intro hE2 H2.out.2.2.1)
        clear hE hE2
        go_wp2_with fail
        go_ret
        exact ⟨congrArg (fun z => Ending.returned (.bool z)) HE.out.1.symm, HE.out.2⟩
      · have HE := Lib.hid hE
        have HST : Hid (LcpI W2 p q 0 W2) := Lib.hid ⟨by simp, Below.refl _ _⟩
        clear hE
        go_wp2_with fail
        go_loopw [11] (fun i wr => ∃ k : Nat, k ≤ n ∧ i = .int .i64 (k : Int) ∧ Hid (LcpI W2 p q k wr)) (fun i _ => n - (intOf i).toNat)
        case atStart => exact ⟨0, Nat.zero_le _, rfl, HST⟩
        case round =>
        obtain ⟨k, hk, rfl, hh⟩ := hrel
        clear HST
        by_cases hlt : k < n
        · have hkm : k < m := by omega
          obtain ⟨x, hx⟩ : ∃ x, p[k]? = some x := ⟨_, List.getElem?_eq_getElem (by have := HN.out.1; omega)⟩
          obtain ⟨y, hy⟩ : ∃ y, q[k]? = some y := ⟨_, List.getElem?_eq_getElem (by have := HN.out.2; omega)⟩
          have ho1 := H2.out.1
          have ho2 := H2.out.2.1
          simp only [Option.getD_some] at ho1 ho2
          obtain ⟨g1, c1e, e1, _⟩ := World.ownsRow.form ho1 (by omega)
          cases e1
          obtain ⟨g2, c2e, e2, _⟩ := World.ownsRow.form ho2 (by omega)
          cases e2
          have d1 := owns_cell ho1 rfl k _ (by rw [List.getElem?_map, natI_at hx]; rfl)
          have d2 := owns_cell ho2 rfl k _ (by rw [List.getElem?_map, natI_at hy]; rfl)
          have c1 : wr.cell? ⟨g1, k, none⟩ = some (.int .i64 (x : Int)) := (hh.out.2.cell (World.block_lt_of_cell? _ _ d1)).trans d1
          have c2 : wr.cell? ⟨g2, k, none⟩ = some (.int .i64 (y : Int)) := (hh.out.2.cell (World.block_lt_of_cell? _ _ d2)).trans d2
          have hstep := lcp_drop hx hy
          have hki : (k : Int) < (n : Int) := by omega
          have hkmi : (k : Int) < (m : Int) := by omega
          by_cases hxy : x = y
          · rw [if_pos hxy] at hstep
            have hb : ((x : Int) == (y : Int)) = true := by simp; omega
            have HNX : Hid (LcpI W2 p q (k + 1) wr) := Lib.hid ⟨by have := hh.out.1; omega, hh.out.2⟩
            have HLT := Lib.hid hlt
            have HXY : Hid ((x : Int) = (y : Int)) := Lib.hid (by omega)
            clear hx hy ho1 ho2 d1 d2 hstep hh hlt hk hkm hxy
            go_wp2_with fail
            refine wp_region_quiet (C := fun X => Below wr.heap.size wr X) (by kernel_rfl) (by kernel_rfl) (below_drewN (Below.refl _ wr) 1) ?_
            refine quiet_open (fun QQ hQQ => ?_)
            have HQQ := Lib.hid hQQ
            clear hQQ
            with_reducible refine wpQuiet_step ?_
            intro K hK
            rw [if_pos (by rfl)]
            refine ⟨.slice (some ⟨g1, 0, none⟩) n pc, fun X hX => ?_, hK _ ?_⟩
            · clear hK; go_simp
            clear hK K
            simp only [Act.put, List.setIfInBounds_toArray, List.set_cons_zero, List.set_cons_succ]
            with_reducible refine wpQuiet_step ?_
            intro K hK
            rw [if_pos (by rfl)]
            refine ⟨.int .i64 (k : Int), fun X hX => ?_, hK _ ?_⟩
            · clear hK; go_simp
            clear hK K
            simp only [Act.put, List.setIfInBounds_toArray, List.set_cons_zero, List.set_cons_succ]
            with_reducible refine wpQuiet_step ?_
            intro K hK
            rw [if_pos (by rfl)]
            refine ⟨.pointer (some ⟨g1, k, none⟩), fun X hX => ?_, hK _ ?_⟩
            · clear hK; go_simp
            clear hK K
            simp only [Act.put, List.setIfInBounds_toArray, List.set_cons_zero, List.set_cons_succ]
            with_reducible refine wpQuiet_step ?_
            intro K hK
            rw [if_pos (by rfl)]
            refine ⟨.int .i64 (x : Int), fun X hX => ?_, hK _ ?_⟩
            · clear hK; have d := (hX.cell (World.block_lt_of_cell? _ _ c1)).trans c1; go_simp
            clear hK K
            simp only [Act.put, List.setIfInBounds_toArray, List.set_cons_zero, List.set_cons_succ]
            with_reducible refine wpQuiet_step ?_
            intro K hK
            rw [if_pos (by rfl)]
            refine ⟨.slice (some ⟨g2, 0, none⟩) m qc, fun X hX => ?_, hK _ ?_⟩
            · clear hK; go_simp
            clear hK K
            simp only [Act.put, List.setIfInBounds_toArray, List.set_cons_zero, List.set_cons_succ]
            with_reducible refine wpQuiet_step ?_
            intro K hK
            rw [if_pos (by rfl)]
            refine ⟨.int .i64 (k : Int), fun X hX => ?_, hK _ ?_⟩
            · clear hK; go_simp
            clear hK K
            simp only [Act.put, List.setIfInBounds_toArray, List.set_cons_zero, List.set_cons_succ]
            with_reducible refine wpQuiet_step ?_
            intro K hK
            rw [if_pos (by rfl)]
            refine ⟨.pointer (some ⟨g2, k, none⟩), fun X hX => ?_, hK _ ?_⟩
            · clear hK; go_simp
            clear hK K
            simp only [Act.put, List.setIfInBounds_toArray, List.set_cons_zero, List.set_cons_succ]
            with_reducible refine wpQuiet_step ?_
            intro K hK
            rw [if_pos (by rfl)]
            refine ⟨.int .i64 (y : Int), fun X hX => ?_, hK _ ?_⟩
            · clear hK; have d := (hX.cell (World.block_lt_of_cell? _ _ c2)).trans c2; go_simp
            clear hK K
            simp only [Act.put, List.setIfInBounds_toArray, List.set_cons_zero, List.set_cons_succ]
            with_reducible refine wpQuiet_step ?_
            intro K hK
            rw [if_pos (by rfl)]
            refine ⟨.bool false, fun X hX => ?_, hK _ ?_⟩
            · clear hK; go_simp; exact HXY.out
            clear hK K
            simp only [Act.put, List.setIfInBounds_toArray, List.set_cons_zero, List.set_cons_succ]
            refine wpQuiet_nil (HQQ.out _ ?_)
            clear HQQ
            intro V hV
            have HV := Lib.hid hV
            clear hV
            go_wp2_with fail
            exact ⟨⟨k + 1, by have := HLT.out; omega, by go_num, Lib.hid ⟨HNX.out.1, HNX.out.2.trans (HV.out.mono HNX.out.2.size)⟩⟩, by have := HLT.out; simp [intOf]; omega⟩
          · rw [if_neg hxy] at hstep
            have hb : ((x : Int) == (y : Int)) = false := by simp; omega
            have hE2 : pr = false := by
              rw [HE.out, decide_eq_false_iff_not]
              have := hh.out.1; have := HN.out.1; omega
            have HXY : Hid (¬ (x : Int) = (y : Int)) := Lib.hid (by omega)
            have HE2 := Lib.hid (And.intro hE2 (H2.out.2.2.1.trans (hh.out.2.mono H2.out.2.2.1.size)))
            clear hx hy ho1 ho2 d1 d2 hstep hh hlt hk hkm hxy hE2
            go_wp2_with fail
            refine wp_region_quiet (C := fun X => Below wr.heap.size wr X) (by kernel_rfl) (by kernel_rfl) (below_drewN (Below.refl _ wr) 1) ?_
            refine quiet_open (fun QQ hQQ => ?_)
            have HQQ := Lib.hid hQQ
            clear hQQ
            with_reducible refine wpQuiet_step ?_
            intro K hK
            rw [if_pos (by rfl)]
            refine ⟨.slice (some ⟨g1, 0, none⟩) n pc, fun X hX => ?_, hK _ ?_⟩
            · clear hK; go_simp
            clear hK K
            simp only [Act.put, List.setIfInBounds_toArray, List.set_cons_zero, List.set_cons_succ]
            with_reducible refine wpQuiet_step ?_
            intro K hK
            rw [if_pos (by rfl)]
            refine ⟨.int .i64 (k : Int), fun X hX => ?_, hK _ ?_⟩
            · clear hK; go_simp
            clear hK K
            simp only [Act.put, List.setIfInBounds_toArray, List.set_cons_zero, List.set_cons_succ]
            with_reducible refine wpQuiet_step ?_
            intro K hK
            rw [if_pos (by rfl)]
            refine ⟨.pointer (some ⟨g1, k, none⟩), fun X hX => ?_, hK _ ?_⟩
            · clear hK; go_simp
            clear hK K
            simp only [Act.put, List.setIfInBounds_toArray, List.set_cons_zero, List.set_cons_succ]
            with_reducible refine wpQuiet_step ?_
            intro K hK
            rw [if_pos (by rfl)]
            refine ⟨.int .i64 (x : Int), fun X hX => ?_, hK _ ?_⟩
            · clear hK; have d := (hX.cell (World.block_lt_of_cell? _ _ c1)).trans c1; go_simp
            clear hK K
            simp only [Act.put, List.setIfInBounds_toArray, List.set_cons_zero, List.set_cons_succ]
            with_reducible refine wpQuiet_step ?_
            intro K hK
            rw [if_pos (by rfl)]
            refine ⟨.slice (some ⟨g2, 0, none⟩) m qc, fun X hX => ?_, hK _ ?_⟩
            · clear hK; go_simp
            clear hK K
            simp only [Act.put, List.setIfInBounds_toArray, List.set_cons_zero, List.set_cons_succ]
            with_reducible refine wpQuiet_step ?_
            intro K hK
            rw [if_pos (by rfl)]
            refine ⟨.int .i64 (k : Int), fun X hX => ?_, hK _ ?_⟩
            · clear hK; go_simp
            clear hK K
            simp only [Act.put, List.setIfInBounds_toArray, List.set_cons_zero, List.set_cons_succ]
            with_reducible refine wpQuiet_step ?_
            intro K hK
            rw [if_pos (by rfl)]
            refine ⟨.pointer (some ⟨g2, k, none⟩), fun X hX => ?_, hK _ ?_⟩
            · clear hK; go_simp
            clear hK K
            simp only [Act.put, List.setIfInBounds_toArray, List.set_cons_zero, List.set_cons_succ]
            with_reducible refine wpQuiet_step ?_
            intro K hK
            rw [if_pos (by rfl)]
            refine ⟨.int .i64 (y : Int), fun X hX => ?_, hK _ ?_⟩
            · clear hK; have d := (hX.cell (World.block_lt_of_cell? _ _ c2)).trans c2; go_simp
            clear hK K
            simp only [Act.put, List.setIfInBounds_toArray, List.set_cons_zero, List.set_cons_succ]
            with_reducible refine wpQuiet_step ?_
            intro K hK
            rw [if_pos (by rfl)]
            refine ⟨.bool true, fun X hX => ?_, hK _ ?_⟩
            · clear hK; go_simp; exact HXY.out
            clear hK K
            simp only [Act.put, List.setIfInBounds_toArray, List.set_cons_zero, List.set_cons_succ]
            refine wpQuiet_nil (HQQ.out _ ?_)
            clear HQQ
            intro V hV
            have HV := Lib.hid hV
            clear hV
            go_wp2_with fail
            go_ret
            exact ⟨congrArg (fun z => Ending.returned (.bool z)) HE2.out.1.symm, HE2.out.2.trans (HV.out.mono HE2.out.2.size)⟩
        · have hki : ¬ (k : Int) < (n : Int) := by omega
          have hE2 : pr = true := by
            rw [HE.out, decide_eq_true_iff]
            have := hh.out.1
            have h2 := lcp_end (l := p) (m := q) (k := k) (Or.inl (by have := HN.out.1; omega))
            have := HN.out.1; omega
          have HE2 := Lib.hid (And.intro hE2 (H2.out.2.2.1.trans (hh.out.2.mono H2.out.2.2.1.size)))
          clear hh hlt hk hE2
          go_wp2_with fail
          go_ret
          exact ⟨congrArg (fun z => Ending.returned (.bool z)) HE2.out.1.symm, HE2.out.2⟩
set_option maxRecDepth 100000 in
set_option maxHeartbeats 8000000 in
theorem rcommon_any (w : World) (S : Nat → Prop) (nv : Value) (t : Tr) (a b : Int) (hS : ∀ x, S x → x < w.heap.size) (ht : TrAt w S nv t) (hsz : foSize t.kids ≤ 400000) (hlen : foLen t.kids ≤ 9223372036854775807) (hfit : foFit t.kids) : Calls Try.prog 23 #[nv, .int .i64 a, .int .i64 b] w fun e w' => e = .returned (.tuple #[.int .i64 (commonT a b t).1, .bool (commonT a b t).2]) ∧ Below w.heap.size w w' := by
  obtain ⟨ka, tc, rfl, hcap, hk⟩ := ht
  obtain ⟨B, hB⟩ : ∃ B, B = w.alloc (.cells #[.int .i64 t.id, .int .i64 t.kind, .string t.text, .slice ka (foLen t.kids) tc] 24) := ⟨_, rfl⟩
  have hb := box_below w (.cells #[.int .i64 t.id, .int .i64 t.kind, .string t.text, .slice ka (foLen t.kids) tc] 24)
  have hbx := heap_alloc_new w (.cells #[.int .i64 t.id, .int .i64 t.kind, .string t.text, .slice ka (foLen t.kids) tc] 24)
  rw [← hB] at hb hbx
  have hpath := fun (i : Int) (X : World) (hX : Below B.heap.size B X) => rpath_any 500000 X S (.agg #[.int .i64 t.id, .int .i64 t.kind, .string t.text, .slice ka (foLen t.kids) tc]) t i (by omega) (by omega) (fun x hx => Nat.lt_of_lt_of_le (hS x hx) (Nat.le_trans hb.size hX.size)) ⟨ka, tc, rfl, hcap, hk.below (hb.trans (hX.mono hb.size)) hS⟩
  have hat := at_knows w S t ka tc hS hk hcap hlen hfit
  obtain ⟨nk, hnk⟩ : ∃ n, n = foLen t.kids := ⟨_, rfl⟩
  rw [← hnk] at hB hbx hat
  simp only [← hnk] at hpath
  rw [← hnk]
  have HC := Lib.hid (And.intro hpath (And.intro hb (And.intro hB hbx)))
  have HATT := Lib.hid hat
  have HSZ := Lib.hid hsz
  obtain ⟨pr, hpr⟩ : ∃ pr, pr = commonT a b t := ⟨_, rfl⟩
  have hpe : (.tuple #[.int .i64 (commonT a b t).1, .bool (commonT a b t).2] : Value) = (.tuple #[.int .i64 (pr).1, .bool (pr).2]) := by rw [hpr]
  rw [hpe]
  have HP := Lib.hid hpr
  clear hpath hb hB hbx hat hk hcap hS hnk hlen hfit hsz hpr hpe
  go_enter Try.func23, Try.ntmps23
  go_wp2_with fail
  rw [← HC.out.2.2.1]
  refine (HC.out.1 a B (Below.refl _ _)).mono ?_
  rintro e W1 ⟨pv, rfl, hown, hb1⟩
  have hbx1 := (hb1.block _ (lt_of_heap HC.out.2.2.2)).trans HC.out.2.2.2
  have n0 : W1.cell? ⟨w.heap.size, 0, none⟩ = some (.int .i64 t.id) := by rw [cell_of_row _ _ 0 _ _ _ hbx1]; rfl
  have n1 : W1.cell? ⟨w.heap.size, 1, none⟩ = some (.int .i64 t.kind) := by rw [cell_of_row _ _ 1 _ _ _ hbx1]; rfl
  have n2 : W1.cell? ⟨w.heap.size, 2, none⟩ = some (.string t.text) := by rw [cell_of_row _ _ 2 _ _ _ hbx1]; rfl
  have n3 : W1.cell? ⟨w.heap.size, 3, none⟩ = some (.slice ka nk tc) := by rw [cell_of_row _ _ 3 _ _ _ hbx1]; rfl
  have H1 := Lib.hid (And.intro hown (And.intro hb1 hbx1))
  clear hown hb1 hbx1
  obtain ⟨pa, pc, rfl⟩ := owns_slice H1.out.1
  obtain ⟨oa, hoa⟩ : ∃ oa, oa = pathT a t := ⟨_, rfl⟩
  rw [← hoa] at H1 ⊢
  obtain ⟨n, hn⟩ : ∃ n, n = (natI (oa.getD [])).length := ⟨_, rfl⟩
  rw [← hn] at H1 ⊢
  have HA := Lib.hid (And.intro hoa hn)
  clear hoa hn
  obtain ⟨fa, hfa⟩ : ∃ fa, fa = oa.isSome := ⟨_, rfl⟩
  rw [← hfa]
  have HFA := Lib.hid hfa
  clear hfa
  go_wp2_with fail
  refine (HC.out.1 b W1 H1.out.2.1).mono ?_
  rintro e W2 ⟨qv, rfl, hown2, hb2⟩
  have hown1 := owns_kept H1.out.1 (w' := W2) (fun g cur hc _ => hb2.block g (lt_of_some hc))
  have hbw1 : Below w.heap.size w W1 := HC.out.2.1.trans (H1.out.2.1.mono HC.out.2.1.size)
  have hbw : Below w.heap.size w W2 := hbw1.trans (hb2.mono hbw1.size)
  have hbx2 := (hb2.block _ (lt_of_heap H1.out.2.2)).trans H1.out.2.2
  obtain ⟨qa, qc, rfl⟩ := owns_slice hown2
  obtain ⟨ob, hob⟩ : ∃ ob, ob = pathT b t := ⟨_, rfl⟩
  rw [← hob] at hown2 ⊢
  obtain ⟨m, hm⟩ : ∃ m, m = (natI (ob.getD [])).length := ⟨_, rfl⟩
  rw [← hm] at hown2 ⊢
  obtain ⟨fb, hfb⟩ : ∃ fb, fb = ob.isSome := ⟨_, rfl⟩
  rw [← hfb]
  have H2 := Lib.hid (And.intro hown1 (And.intro hown2 (And.intro hbw hbx2)))
  have HB := Lib.hid (And.intro hob (And.intro hm hfb))
  clear hown1 hown2 hb2 hbw1 hbw hbx2 hob hm hfb n0 n1 n2 n3
  cases oa with
  | none =>
    have hE : pr = (0, false) := by rw [HP.out, commonT, ← HA.out.1]
    have hf := HFA.out
    simp only [Option.isSome_none] at hf
    subst hf
    have HE := Lib.hid (And.intro hE H2.out.2.2.1)
    clear hE
    go_wp2_with fail
    go_ret2
    exact ⟨congrArg (fun z : Int × Bool => Ending.returned (.tuple #[.int .i64 z.1, .bool z.2])) HE.out.1.symm, HE.out.2⟩
  | some p =>
    have hf := HFA.out
    simp only [Option.isSome_some] at hf
    subst hf
    cases ob with
    | none =>
      have hE : pr = (0, false) := by rw [HP.out, commonT, ← HA.out.1, ← HB.out.1]
      have hf := HB.out.2.2
      simp only [Option.isSome_none] at hf
      subst hf
      have HE := Lib.hid (And.intro hE H2.out.2.2.1)
      clear hE
      go_wp2_with fail
      go_ret2
      exact ⟨congrArg (fun z : Int × Bool => Ending.returned (.tuple #[.int .i64 z.1, .bool z.2])) HE.out.1.symm, HE.out.2⟩
    | some q =>
      have hf := HB.out.2.2
      simp only [Option.isSome_some] at hf
      subst hf
      have hE : pr = (idAt t (p.take (lcp p q)), true) := by rw [HP.out, commonT, ← HA.out.1, ← HB.out.1]
      have hnp : n = p.length := by have := HA.out.2; simpa [natI_length] using this
      have hmq : m = q.length := by have := HB.out.2.1; simpa [natI_length] using this
      have hp6 := path_le a t p HA.out.1.symm
      have hq6 := path_le b t q HB.out.1.symm
      have hn6 : n ≤ 500000 := by have := HSZ.out; omega
      have hm6 : m ≤ 500000 := by have := HSZ.out; omega
      have HN := Lib.hid (And.intro hnp hmq)
      have HE := Lib.hid hE
      have HST : Hid (LcpI W2 p q 0 W2) := Lib.hid ⟨by simp, Below.refl _ _⟩
      clear hp6 hq6 hnp hmq hE
      go_wp2_with fail
      go_loopw [12] (fun i wr => ∃ k : Nat, k ≤ n ∧ k ≤ m ∧ i = .int .i64 (k : Int) ∧ Hid (LcpI W2 p q k wr)) (fun i _ => n - (intOf i).toNat)
      case atStart => exact ⟨0, Nat.zero_le _, Nat.zero_le _, rfl, HST⟩
      case round =>
      obtain ⟨k, hk, hkm, rfl, hh⟩ := hrel
      clear HST
      by_cases hlt : k < n ∧ k < m
      · have hlt1 := hlt.1
        have hlt2 := hlt.2
        obtain ⟨x, hx⟩ : ∃ x, p[k]? = some x := ⟨_, List.getElem?_eq_getElem (by have := HN.out.1; omega)⟩
        obtain ⟨y, hy⟩ : ∃ y, q[k]? = some y := ⟨_, List.getElem?_eq_getElem (by have := HN.out.2; omega)⟩
        have ho1 := H2.out.1
        have ho2 := H2.out.2.1
        simp only [Option.getD_some] at ho1 ho2
        obtain ⟨g1, c1e, e1, _⟩ := World.ownsRow.form ho1 (by omega)
        cases e1
        obtain ⟨g2, c2e, e2, _⟩ := World.ownsRow.form ho2 (by omega)
        cases e2
        have d1 := owns_cell ho1 rfl k _ (by rw [List.getElem?_map, natI_at hx]; rfl)
        have d2 := owns_cell ho2 rfl k _ (by rw [List.getElem?_map, natI_at hy]; rfl)
        have c1 : wr.cell? ⟨g1, k, none⟩ = some (.int .i64 (x : Int)) := (hh.out.2.cell (World.block_lt_of_cell? _ _ d1)).trans d1
        have c2 : wr.cell? ⟨g2, k, none⟩ = some (.int .i64 (y : Int)) := (hh.out.2.cell (World.block_lt_of_cell? _ _ d2)).trans d2
        have hstep := lcp_drop hx hy
        have hki : (k : Int) < (n : Int) := by omega
        have hkmi : (k : Int) < (m : Int) := by omega
        by_cases hxy : x = y
        · rw [if_pos hxy] at hstep
          have hb : ((x : Int) == (y : Int)) = true := by simp; omega
          have HNX : Hid (LcpI W2 p q (k + 1) wr) := Lib.hid ⟨by have := hh.out.1; omega, hh.out.2⟩
          have HLT := Lib.hid hlt
          clear hx hy ho1 ho2 d1 d2 hstep hh hlt hk hkm hxy hlt1 hlt2
          go_wp2_with fail
          refine wp_region_quiet (C := fun X => Below wr.heap.size wr X) (by kernel_rfl) (by kernel_rfl) (below_drewN (Below.refl _ wr) 1) ?_
          refine quiet_open (fun QQ hQQ => ?_)
          have HQQ := Lib.hid hQQ
          clear hQQ
          with_reducible refine wpQuiet_step ?_
          intro K hK
          rw [if_pos (by rfl)]
          refine ⟨.int .i64 (k : Int), fun X hX => ?_, hK _ ?_⟩
          · clear hK; go_simp
          clear hK K
          simp only [Act.put, List.setIfInBounds_toArray, List.set_cons_zero, List.set_cons_succ]
          with_reducible refine wpQuiet_step ?_
          intro K hK
          rw [if_pos (by rfl)]
          refine ⟨.slice (some ⟨g1, 0, none⟩) n pc, fun X hX => ?_, hK _ ?_⟩
          · clear hK; go_simp
          clear hK K
          simp only [Act.put, List.setIfInBounds_toArray, List.set_cons_zero, List.set_cons_succ]
          with_reducible refine wpQuiet_step ?_
          intro K hK
          rw [if_pos (by rfl)]
          refine ⟨.int .i64 (n : Int), fun X hX => ?_, hK _ ?_⟩
          · clear hK; go_simp
          clear hK K
          simp only [Act.put, List.setIfInBounds_toArray, List.set_cons_zero, List.set_cons_succ]
          with_reducible refine wpQuiet_step ?_
          intro K hK
          rw [if_pos (by rfl)]
          refine ⟨.bool true, fun X hX => ?_, hK _ ?_⟩
          · clear hK; go_simp
          clear hK K
          simp only [Act.put, List.setIfInBounds_toArray, List.set_cons_zero, List.set_cons_succ]
          with_reducible refine wpQuiet_step ?_
          intro K hK
          rw [if_pos (by rfl)]
          refine ⟨.bool true, fun X hX => ?_, hK _ ?_⟩
          · clear hK; go_simp
          clear hK K
          simp only [Act.put, List.setIfInBounds_toArray, List.set_cons_zero, List.set_cons_succ]
          with_reducible refine wpQuiet_step ?_
          intro K hK
          rw [if_pos (by rfl)]
          refine ⟨.int .i64 (k : Int), fun X hX => ?_, hK _ ?_⟩
          · clear hK; go_simp
          clear hK K
          simp only [Act.put, List.setIfInBounds_toArray, List.set_cons_zero, List.set_cons_succ]
          with_reducible refine wpQuiet_step ?_
          intro K hK
          rw [if_pos (by rfl)]
          refine ⟨.slice (some ⟨g2, 0, none⟩) m qc, fun X hX => ?_, hK _ ?_⟩
          · clear hK; go_simp
          clear hK K
          simp only [Act.put, List.setIfInBounds_toArray, List.set_cons_zero, List.set_cons_succ]
          with_reducible refine wpQuiet_step ?_
          intro K hK
          rw [if_pos (by rfl)]
          refine ⟨.int .i64 (m : Int), fun X hX => ?_, hK _ ?_⟩
          · clear hK; go_simp
          clear hK K
          simp only [Act.put, List.setIfInBounds_toArray, List.set_cons_zero, List.set_cons_succ]
          with_reducible refine wpQuiet_step ?_
          intro K hK
          rw [if_pos (by rfl)]
          refine ⟨.bool true, fun X hX => ?_, hK _ ?_⟩
          · clear hK; go_simp
          clear hK K
          simp only [Act.put, List.setIfInBounds_toArray, List.set_cons_zero, List.set_cons_succ]
          with_reducible refine wpQuiet_step ?_
          intro K hK
          rw [if_pos (by rfl)]
          refine ⟨.bool true, fun X hX => ?_, hK _ ?_⟩
          · clear hK; go_simp
          clear hK K
          simp only [Act.put, List.setIfInBounds_toArray, List.set_cons_zero, List.set_cons_succ]
          with_reducible refine wpQuiet_step ?_
          intro K hK
          rw [if_pos (by rfl)]
          refine ⟨.bool true, fun X hX => ?_, hK _ ?_⟩
          · clear hK; go_simp
          clear hK K
          simp only [Act.put, List.setIfInBounds_toArray, List.set_cons_zero, List.set_cons_succ]
          with_reducible refine wpQuiet_step ?_
          intro K hK
          rw [if_pos (by rfl)]
          refine ⟨.slice (some ⟨g1, 0, none⟩) n pc, fun X hX => ?_, hK _ ?_⟩
          · clear hK; go_simp
          clear hK K
          simp only [Act.put, List.setIfInBounds_toArray, List.set_cons_zero, List.set_cons_succ]
          with_reducible refine wpQuiet_step ?_
          intro K hK
          rw [if_pos (by rfl)]
          refine ⟨.int .i64 (k : Int), fun X hX => ?_, hK _ ?_⟩
          · clear hK; go_simp
          clear hK K
          simp only [Act.put, List.setIfInBounds_toArray, List.set_cons_zero, List.set_cons_succ]
          with_reducible refine wpQuiet_step ?_
          intro K hK
          rw [if_pos (by rfl)]
          refine ⟨.pointer (some ⟨g1, k, none⟩), fun X hX => ?_, hK _ ?_⟩
          · clear hK; go_simp
          clear hK K
          simp only [Act.put, List.setIfInBounds_toArray, List.set_cons_zero, List.set_cons_succ]
          with_reducible refine wpQuiet_step ?_
          intro K hK
          rw [if_pos (by rfl)]
          refine ⟨.int .i64 (x : Int), fun X hX => ?_, hK _ ?_⟩
          · clear hK; have d := (hX.cell (World.block_lt_of_cell? _ _ c1)).trans c1; go_simp
          clear hK K
          simp only [Act.put, List.setIfInBounds_toArray, List.set_cons_zero, List.set_cons_succ]
          with_reducible refine wpQuiet_step ?_
          intro K hK
          rw [if_pos (by rfl)]
          refine ⟨.slice (some ⟨g2, 0, none⟩) m qc, fun X hX => ?_, hK _ ?_⟩
          · clear hK; go_simp
          clear hK K
          simp only [Act.put, List.setIfInBounds_toArray, List.set_cons_zero, List.set_cons_succ]
          with_reducible refine wpQuiet_step ?_
          intro K hK
          rw [if_pos (by rfl)]
          refine ⟨.int .i64 (k : Int), fun X hX => ?_, hK _ ?_⟩
          · clear hK; go_simp
          clear hK K
          simp only [Act.put, List.setIfInBounds_toArray, List.set_cons_zero, List.set_cons_succ]
          with_reducible refine wpQuiet_step ?_
          intro K hK
          rw [if_pos (by rfl)]
          refine ⟨.pointer (some ⟨g2, k, none⟩), fun X hX => ?_, hK _ ?_⟩
          · clear hK; go_simp
          clear hK K
          simp only [Act.put, List.setIfInBounds_toArray, List.set_cons_zero, List.set_cons_succ]
          with_reducible refine wpQuiet_step ?_
          intro K hK
          rw [if_pos (by rfl)]
          refine ⟨.int .i64 (y : Int), fun X hX => ?_, hK _ ?_⟩
          · clear hK; have d := (hX.cell (World.block_lt_of_cell? _ _ c2)).trans c2; go_simp
          clear hK K
          simp only [Act.put, List.setIfInBounds_toArray, List.set_cons_zero, List.set_cons_succ]
          with_reducible refine wpQuiet_step ?_
          intro K hK
          rw [if_pos (by rfl)]
          refine ⟨.bool true, fun X hX => ?_, hK _ ?_⟩
          · clear hK; go_simp
          clear hK K
          simp only [Act.put, List.setIfInBounds_toArray, List.set_cons_zero, List.set_cons_succ]
          with_reducible refine wpQuiet_step ?_
          intro K hK
          rw [if_pos (by rfl)]
          refine ⟨.bool true, fun X hX => ?_, hK _ ?_⟩
          · clear hK; go_simp
          clear hK K
          simp only [Act.put, List.setIfInBounds_toArray, List.set_cons_zero, List.set_cons_succ]
          refine wpQuiet_nil (HQQ.out _ ?_)
          clear HQQ
          intro V hV
          have HV := Lib.hid hV
          clear hV
          go_wp2_with fail
          exact ⟨⟨k + 1, by have := HLT.out; omega, by have := HLT.out; omega, by go_num, Lib.hid ⟨HNX.out.1, HNX.out.2.trans (HV.out.mono HNX.out.2.size)⟩⟩, by have := HLT.out; simp [intOf]; omega⟩
        · rw [if_neg hxy] at hstep
          have hb : ((x : Int) == (y : Int)) = false := by simp; omega
          have hlk : lcp p q = k := by have := hh.out.1; omega
          have hE2 : pr = (idAt t (p.take k), true) := by rw [HE.out, hlk]
          obtain ⟨uu, huu, _⟩ := pathT_at a t p HA.out.1.symm
          obtain ⟨u, hu⟩ := atT_take p t uu k huu
          obtain ⟨uid, huid⟩ : ∃ x, x = u.id := ⟨_, rfl⟩
          obtain ⟨ukd, hukd⟩ : ∃ x, x = u.kind := ⟨_, rfl⟩
          obtain ⟨utx, hutx⟩ : ∃ x, x = u.text := ⟨_, rfl⟩
          obtain ⟨um, hum⟩ : ∃ x, x = foLen u.kids := ⟨_, rfl⟩
          rw [idAt, hu] at hE2
          simp only [Option.map_some, Option.getD_some] at hE2
          rw [← huid] at hE2
          have hwr := H2.out.2.2.1.trans (hh.out.2.mono H2.out.2.2.1.size)
          have hop := owns_kept H2.out.1 (w' := wr) (fun g cur hc _ => hh.out.2.block g (lt_of_some hc))
          have HAT : Hid (∀ X, Below wr.heap.size wr X → Calls Try.prog 21 #[.agg #[.int .i64 t.id, .int .i64 t.kind, .string t.text, .slice ka nk tc], .slice (some ⟨g1, 0, none⟩) k pc] X fun e w' => (∃ ya yc, e = .returned (.tuple #[.agg #[.int .i64 uid, .int .i64 ukd, .string utx, .slice ya um yc], .bool true])) ∧ Below wr.heap.size wr w' ∧ Below X.heap.size X w') := Lib.hid fun X hX => by
            have h9 := at_first (p := p) HATT.out hwr hX hop (k := k) (by have := HN.out.1; omega) (by omega) hu
            rw [← huid, ← hukd, ← hutx, ← hum] at h9
            exact h9
          have hbxW := (hh.out.2.block _ (lt_of_heap H2.out.2.2.2)).trans H2.out.2.2.2
          have b0 : wr.cell? ⟨w.heap.size, 0, none⟩ = some (.int .i64 t.id) := by rw [cell_of_row _ _ 0 _ _ _ hbxW]; rfl
          have b1 : wr.cell? ⟨w.heap.size, 1, none⟩ = some (.int .i64 t.kind) := by rw [cell_of_row _ _ 1 _ _ _ hbxW]; rfl
          have b2 : wr.cell? ⟨w.heap.size, 2, none⟩ = some (.string t.text) := by rw [cell_of_row _ _ 2 _ _ _ hbxW]; rfl
          have b3 : wr.cell? ⟨w.heap.size, 3, none⟩ = some (.slice ka nk tc) := by rw [cell_of_row _ _ 3 _ _ _ hbxW]; rfl
          have HBX := Lib.hid (fun (X : World) (h : Below wr.heap.size wr X) => (show X.cell? ⟨w.heap.size, 0, none⟩ = some (.int .i64 t.id) ∧ X.cell? ⟨w.heap.size, 1, none⟩ = some (.int .i64 t.kind) ∧ X.cell? ⟨w.heap.size, 2, none⟩ = some (.string t.text) ∧ X.cell? ⟨w.heap.size, 3, none⟩ = some (.slice ka nk tc) from
            ⟨(h.cell (World.block_lt_of_cell? _ _ b0)).trans b0, (h.cell (World.block_lt_of_cell? _ _ b1)).trans b1, (h.cell (World.block_lt_of_cell? _ _ b2)).trans b2, (h.cell (World.block_lt_of_cell? _ _ b3)).trans b3⟩))
          have HE2 := Lib.hid (And.intro hE2 hwr)
          have hk0 : (0 : Int) ≤ (k : Int) := by omega
          have hkc : (k : Int) ≤ (pc : Int) := by
            have : n ≤ pc := by
              rcases hop.2 with ⟨hv, h0⟩ | ⟨_, _, _, hv, _, _, h3, _⟩
              · omega
              · cases hv; exact h3
            omega
          clear hx hy ho1 ho2 d1 d2 hstep hh hlt hk hkm hxy hE2 hwr hop hu huu huid hukd hutx hum hbxW b0 b1 b2 b3 hlk hlt1 hlt2
          go_wp2_with fail
          refine wp_region_quiet (C := fun X => Below wr.heap.size wr X) (by kernel_rfl) (by kernel_rfl) (below_drewN (Below.refl _ wr) 1) ?_
          refine quiet_open (fun QQ hQQ => ?_)
          have HQQ := Lib.hid hQQ
          clear hQQ
          with_reducible refine wpQuiet_step ?_
          intro K hK
          rw [if_pos (by rfl)]
          refine ⟨.int .i64 (k : Int), fun X hX => ?_, hK _ ?_⟩
          · clear hK; go_simp
          clear hK K
          simp only [Act.put, List.setIfInBounds_toArray, List.set_cons_zero, List.set_cons_succ]
          with_reducible refine wpQuiet_step ?_
          intro K hK
          rw [if_pos (by rfl)]
          refine ⟨.slice (some ⟨g1, 0, none⟩) n pc, fun X hX => ?_, hK _ ?_⟩
          · clear hK; go_simp
          clear hK K
          simp only [Act.put, List.setIfInBounds_toArray, List.set_cons_zero, List.set_cons_succ]
          with_reducible refine wpQuiet_step ?_
          intro K hK
          rw [if_pos (by rfl)]
          refine ⟨.int .i64 (n : Int), fun X hX => ?_, hK _ ?_⟩
          · clear hK; go_simp
          clear hK K
          simp only [Act.put, List.setIfInBounds_toArray, List.set_cons_zero, List.set_cons_succ]
          with_reducible refine wpQuiet_step ?_
          intro K hK
          rw [if_pos (by rfl)]
          refine ⟨.bool true, fun X hX => ?_, hK _ ?_⟩
          · clear hK; go_simp
          clear hK K
          simp only [Act.put, List.setIfInBounds_toArray, List.set_cons_zero, List.set_cons_succ]
          with_reducible refine wpQuiet_step ?_
          intro K hK
          rw [if_pos (by rfl)]
          refine ⟨.bool true, fun X hX => ?_, hK _ ?_⟩
          · clear hK; go_simp
          clear hK K
          simp only [Act.put, List.setIfInBounds_toArray, List.set_cons_zero, List.set_cons_succ]
          with_reducible refine wpQuiet_step ?_
          intro K hK
          rw [if_pos (by rfl)]
          refine ⟨.int .i64 (k : Int), fun X hX => ?_, hK _ ?_⟩
          · clear hK; go_simp
          clear hK K
          simp only [Act.put, List.setIfInBounds_toArray, List.set_cons_zero, List.set_cons_succ]
          with_reducible refine wpQuiet_step ?_
          intro K hK
          rw [if_pos (by rfl)]
          refine ⟨.slice (some ⟨g2, 0, none⟩) m qc, fun X hX => ?_, hK _ ?_⟩
          · clear hK; go_simp
          clear hK K
          simp only [Act.put, List.setIfInBounds_toArray, List.set_cons_zero, List.set_cons_succ]
          with_reducible refine wpQuiet_step ?_
          intro K hK
          rw [if_pos (by rfl)]
          refine ⟨.int .i64 (m : Int), fun X hX => ?_, hK _ ?_⟩
          · clear hK; go_simp
          clear hK K
          simp only [Act.put, List.setIfInBounds_toArray, List.set_cons_zero, List.set_cons_succ]
          with_reducible refine wpQuiet_step ?_
          intro K hK
          rw [if_pos (by rfl)]
          refine ⟨.bool true, fun X hX => ?_, hK _ ?_⟩
          · clear hK; go_simp
          clear hK K
          simp only [Act.put, List.setIfInBounds_toArray, List.set_cons_zero, List.set_cons_succ]
          with_reducible refine wpQuiet_step ?_
          intro K hK
          rw [if_pos (by rfl)]
          refine ⟨.bool true, fun X hX => ?_, hK _ ?_⟩
          · clear hK; go_simp
          clear hK K
          simp only [Act.put, List.setIfInBounds_toArray, List.set_cons_zero, List.set_cons_succ]
          with_reducible refine wpQuiet_step ?_
          intro K hK
          rw [if_pos (by rfl)]
          refine ⟨.bool true, fun X hX => ?_, hK _ ?_⟩
          · clear hK; go_simp
          clear hK K
          simp only [Act.put, List.setIfInBounds_toArray, List.set_cons_zero, List.set_cons_succ]
          with_reducible refine wpQuiet_step ?_
          intro K hK
          rw [if_pos (by rfl)]
          refine ⟨.slice (some ⟨g1, 0, none⟩) n pc, fun X hX => ?_, hK _ ?_⟩
          · clear hK; go_simp
          clear hK K
          simp only [Act.put, List.setIfInBounds_toArray, List.set_cons_zero, List.set_cons_succ]
          with_reducible refine wpQuiet_step ?_
          intro K hK
          rw [if_pos (by rfl)]
          refine ⟨.int .i64 (k : Int), fun X hX => ?_, hK _ ?_⟩
          · clear hK; go_simp
          clear hK K
          simp only [Act.put, List.setIfInBounds_toArray, List.set_cons_zero, List.set_cons_succ]
          with_reducible refine wpQuiet_step ?_
          intro K hK
          rw [if_pos (by rfl)]
          refine ⟨.pointer (some ⟨g1, k, none⟩), fun X hX => ?_, hK _ ?_⟩
          · clear hK; go_simp
          clear hK K
          simp only [Act.put, List.setIfInBounds_toArray, List.set_cons_zero, List.set_cons_succ]
          with_reducible refine wpQuiet_step ?_
          intro K hK
          rw [if_pos (by rfl)]
          refine ⟨.int .i64 (x : Int), fun X hX => ?_, hK _ ?_⟩
          · clear hK; have d := (hX.cell (World.block_lt_of_cell? _ _ c1)).trans c1; go_simp
          clear hK K
          simp only [Act.put, List.setIfInBounds_toArray, List.set_cons_zero, List.set_cons_succ]
          with_reducible refine wpQuiet_step ?_
          intro K hK
          rw [if_pos (by rfl)]
          refine ⟨.slice (some ⟨g2, 0, none⟩) m qc, fun X hX => ?_, hK _ ?_⟩
          · clear hK; go_simp
          clear hK K
          simp only [Act.put, List.setIfInBounds_toArray, List.set_cons_zero, List.set_cons_succ]
          with_reducible refine wpQuiet_step ?_
          intro K hK
          rw [if_pos (by rfl)]
          refine ⟨.int .i64 (k : Int), fun X hX => ?_, hK _ ?_⟩
          · clear hK; go_simp
          clear hK K
          simp only [Act.put, List.setIfInBounds_toArray, List.set_cons_zero, List.set_cons_succ]
          with_reducible refine wpQuiet_step ?_
          intro K hK
          rw [if_pos (by rfl)]
          refine ⟨.pointer (some ⟨g2, k, none⟩), fun X hX => ?_, hK _ ?_⟩
          · clear hK; go_simp
          clear hK K
          simp only [Act.put, List.setIfInBounds_toArray, List.set_cons_zero, List.set_cons_succ]
          with_reducible refine wpQuiet_step ?_
          intro K hK
          rw [if_pos (by rfl)]
          refine ⟨.int .i64 (y : Int), fun X hX => ?_, hK _ ?_⟩
          · clear hK; have d := (hX.cell (World.block_lt_of_cell? _ _ c2)).trans c2; go_simp
          clear hK K
          simp only [Act.put, List.setIfInBounds_toArray, List.set_cons_zero, List.set_cons_succ]
          with_reducible refine wpQuiet_step ?_
          intro K hK
          rw [if_pos (by rfl)]
          refine ⟨.bool false, fun X hX => ?_, hK _ ?_⟩
          · clear hK; go_simp
          clear hK K
          simp only [Act.put, List.setIfInBounds_toArray, List.set_cons_zero, List.set_cons_succ]
          with_reducible refine wpQuiet_step ?_
          intro K hK
          rw [if_pos (by rfl)]
          refine ⟨.bool false, fun X hX => ?_, hK _ ?_⟩
          · clear hK; go_simp
          clear hK K
          simp only [Act.put, List.setIfInBounds_toArray, List.set_cons_zero, List.set_cons_succ]
          refine wpQuiet_nil (HQQ.out _ ?_)
          clear HQQ
          intro V hV
          have HV := Lib.hid hV
          have hBV := Lib.hid (fun (X : World) (h : Below V.heap.size V X) => HBX.out X (HV.out.trans (h.mono HV.out.size)))
          have hAV := Lib.hid (fun (X : World) (h : Below V.heap.size V X) => (HAT.out X (HV.out.trans (h.mono HV.out.size))).mono (fun e w' (hh : _ ∧ _ ∧ _) => (⟨hh.1, h.trans (hh.2.2.mono h.size), hh.2.2⟩ : _ ∧ Below V.heap.size V w' ∧ _)))
          have HE2 := Lib.hid (And.intro HE2.out.1 (HE2.out.2.trans (HV.out.mono HE2.out.2.size)))
          clear hV c1 c2
          go_wp2_with fail
          refine wp_region_held_drew (S := fun X => Below V.heap.size V X) (by kernel_rfl) (below_drewN (Below.refl _ V) 1) (fun hHeld => ?_)
          refine wpAnyH_take (i := 0) (oi := _) (v := .agg #[.int .i64 t.id, .int .i64 t.kind, .string t.text, .slice ka nk tc]) rfl (by kernel_rfl) (by kernel_rfl) (by kernel_rfl) (fun _ _ _ h => h) (Or.inl ⟨by rfl, ?_⟩) (by assumption) ?_
          · clear hHeld; intro X hSw; obtain ⟨s0, s1, s2, s3⟩ := hBV.out X hSw; clear hSw; go_simp
          simp only [Act.put, List.getElem_toArray, List.getElem_cons_zero, List.getElem_cons_succ, List.setIfInBounds_toArray, List.set_cons_zero, List.set_cons_succ]
          refine wpAnyH_take (i := 1) (oi := _) (v := .slice (some ⟨g1, 0, none⟩) n pc) rfl (by kernel_rfl) (by kernel_rfl) (by kernel_rfl) (fun _ _ _ h => h) (Or.inl ⟨by rfl, ?_⟩) (by assumption) ?_
          · clear hHeld; intro X hSw; clear hSw; go_simp
          simp only [Act.put, List.getElem_toArray, List.getElem_cons_zero, List.getElem_cons_succ, List.setIfInBounds_toArray, List.set_cons_zero, List.set_cons_succ]
          refine wpAnyH_take (i := 2) (oi := _) (v := .int .i64 (k : Int)) rfl (by kernel_rfl) (by kernel_rfl) (by kernel_rfl) (fun _ _ _ h => h) (Or.inl ⟨by rfl, ?_⟩) (by assumption) ?_
          · clear hHeld; intro X hSw; clear hSw; go_simp
          simp only [Act.put, List.getElem_toArray, List.getElem_cons_zero, List.getElem_cons_succ, List.setIfInBounds_toArray, List.set_cons_zero, List.set_cons_succ]
          refine wpAnyH_take (i := 3) (oi := _) (v := .slice (some ⟨g1, 0, none⟩) k pc) rfl (by kernel_rfl) (by kernel_rfl) (by kernel_rfl) (fun _ _ _ h => h) (Or.inl ⟨by rfl, ?_⟩) (by assumption) ?_
          · clear hHeld; intro X hSw; clear hSw; go_simp
          simp only [Act.put, List.getElem_toArray, List.getElem_cons_zero, List.getElem_cons_succ, List.setIfInBounds_toArray, List.set_cons_zero, List.set_cons_succ]
          refine wpAnyH_ready (rs := [4, 8]) (by kernel_rfl) (by simp) ?_
          refine AllReadyH.cons (o := _) rfl (fun K hK => ?_) (AllReadyH.cons (o := _) rfl (fun K hK => ?_) AllReadyH.nil)
          · rw [if_pos (by rfl)]
            simp only [List.getElem_toArray, List.getElem_cons_zero, List.getElem_cons_succ]
            have HK := Lib.hid hK
            have HS := Lib.hid hHeld
            clear hK hHeld
            go_wp2_with (go_at_call 21; refine (hAV.out _ HS.out).mono ?_; rintro e w4 ⟨⟨ya, yc, rfl⟩, hb4, _⟩; have H4 := Lib.hid hb4; clear hb4)
            refine HK.out _ _ H4.out (fun hHeld => ?_)
            clear HK HS
            refine wpAnyH_take (i := 5) (oi := _) (v := .tuple #[.agg #[.int .i64 uid, .int .i64 ukd, .string utx, .slice ya um yc], .bool true]) rfl (by kernel_rfl) (by kernel_rfl) (by kernel_rfl) (fun _ _ _ h => h) (Or.inl ⟨by rfl, ?_⟩) (by assumption) ?_
            · clear hHeld; intro X hSw; clear hSw; go_simp
            simp only [Act.put, List.getElem_toArray, List.getElem_cons_zero, List.getElem_cons_succ, List.setIfInBounds_toArray, List.set_cons_zero, List.set_cons_succ]
            refine wpAnyH_take (i := 6) (oi := _) (v := .agg #[.int .i64 uid, .int .i64 ukd, .string utx, .slice ya um yc]) rfl (by kernel_rfl) (by kernel_rfl) (by kernel_rfl) (fun _ _ _ h => h) (Or.inl ⟨by rfl, ?_⟩) (by assumption) ?_
            · clear hHeld; intro X hSw; clear hSw; go_simp
            simp only [Act.put, List.getElem_toArray, List.getElem_cons_zero, List.getElem_cons_succ, List.setIfInBounds_toArray, List.set_cons_zero, List.set_cons_succ]
            refine wpAnyH_take (i := 7) (oi := _) (v := .bool true) rfl (by kernel_rfl) (by kernel_rfl) (by kernel_rfl) (fun _ _ _ h => h) (Or.inl ⟨by rfl, ?_⟩) (by assumption) ?_
            · clear hHeld; intro X hSw; clear hSw; go_simp
            simp only [Act.put, List.getElem_toArray, List.getElem_cons_zero, List.getElem_cons_succ, List.setIfInBounds_toArray, List.set_cons_zero, List.set_cons_succ]
            refine wpAnyH_ready (rs := [8]) (by kernel_rfl) (by simp) ?_
            refine AllReadyH.cons (o := _) rfl (fun K hK => ?_) AllReadyH.nil
            rw [if_pos (by rfl)]
            simp only [List.getElem_toArray, List.getElem_cons_zero, List.getElem_cons_succ]
            have HK := Lib.hid hK
            have HS := Lib.hid hHeld
            clear hK hHeld
            go_wp2_with fail
            obtain ⟨WA, hWA⟩ : ∃ WA, WA = (World.alloc w4 (.cells #[.int .i64 0, .int .i64 0, .string ⟨#[]⟩, .slice none 0 0] 24)) := ⟨_, rfl⟩
            rw [← hWA]
            have hza : WA.heap[w4.heap.size]? = some (.cells #[.int .i64 0, .int .i64 0, .string ⟨#[]⟩, .slice none 0 0] 24 (0, 0)) := by rw [hWA]; exact heap_alloc_new w4 _
            have hba : Below V.heap.size V WA := by rw [hWA]; exact HS.out.alloc HS.out.size _
            have HA := Lib.hid (And.intro hza (And.intro hba (show V.heap.size ≤ w4.heap.size from HS.out.size)))
            refine HK.out _ _ hba (fun hHeld => ?_)
            clear HK HS hza hba hWA
            refine wpAnyH_ready (rs := [9]) (by kernel_rfl) (by simp) ?_
            refine AllReadyH.cons (o := _) rfl (fun K hK => ?_) AllReadyH.nil
            rw [if_pos (by rfl)]
            simp only [List.getElem_toArray, List.getElem_cons_zero, List.getElem_cons_succ]
            have HK := Lib.hid hK
            have HS := Lib.hid hHeld
            clear hK hHeld
            have hz : WA.heap[w4.heap.size]? = some (.cells #[.int .i64 0, .int .i64 0, .string ⟨#[]⟩, .slice none 0 0] 24 (0, 0)) := HA.out.1
            have z0 : WA.cell? ⟨w4.heap.size, 0, none⟩ = some (.int .i64 0) := by rw [cell_of_row _ _ 0 _ _ _ hz]; rfl
            have z1 : WA.cell? ⟨w4.heap.size, 1, none⟩ = some (.int .i64 0) := by rw [cell_of_row _ _ 1 _ _ _ hz]; rfl
            have z2 : WA.cell? ⟨w4.heap.size, 2, none⟩ = some (.string ⟨#[]⟩) := by rw [cell_of_row _ _ 2 _ _ _ hz]; rfl
            have z3 : WA.cell? ⟨w4.heap.size, 3, none⟩ = some (.slice none 0 0) := by rw [cell_of_row _ _ 3 _ _ _ hz]; rfl
            have zf : ∀ j, WA.frozen? ⟨w4.heap.size, j, none⟩ = false := fun j => frozen_of_row _ _ j _ _ hz
            obtain ⟨V5, e5, r1, r2, r3, r4, r5, r6⟩ := four_set (u0 := .int .i64 uid) (u1 := .int .i64 ukd) (u2 := .string utx) (u3 := .slice ya um yc) hz
            have hb5 : Below V.heap.size V V5 := ⟨r3.trans HS.out.os, r4.trans HS.out.tape, r5.trans HS.out.output, by rw [r6]; exact HS.out.size, fun y hy => (r2 y (by have := HA.out.2.2; omega)).trans (HS.out.block y hy)⟩
            have h5c : V5.cell? ⟨w4.heap.size, 0, none⟩ = some (.int .i64 uid) := by rw [cell_of_row _ _ 0 _ _ _ r1]; rfl
            have H5 := Lib.hid (And.intro hb5 e5)
            clear hz r1 r2 r3 r4 r5 r6 hb5 e5
            go_wp2_with fail
            rw [← H5.out.2]
            refine HK.out _ _ H5.out.1 (fun hHeld => ?_)
            clear HK HS z0 z1 z2 z3 zf
            refine wpAnyH_take (i := 10) (oi := _) (v := .bool true) rfl (by kernel_rfl) (by kernel_rfl) (by kernel_rfl) (fun _ _ _ h => h) (Or.inl ⟨by rfl, ?_⟩) (by assumption) ?_
            · clear hHeld; intro X hSw; clear hSw; go_simp
            simp only [Act.put, List.getElem_toArray, List.getElem_cons_zero, List.getElem_cons_succ, List.setIfInBounds_toArray, List.set_cons_zero, List.set_cons_succ]
            refine wpAnyH_done (by kernel_rfl) ?_ _
            clear hHeld
            go_wp2_with fail
            go_ret2
            exact ⟨congrArg (fun z : Int × Bool => Ending.returned (.tuple #[.int .i64 z.1, .bool z.2])) HE2.out.1.symm, HE2.out.2.trans (H5.out.1.mono HE2.out.2.size)⟩
          · rw [if_pos (by rfl)]
            simp only [List.getElem_toArray, List.getElem_cons_zero, List.getElem_cons_succ]
            have HK := Lib.hid hK
            have HS := Lib.hid hHeld
            clear hK hHeld
            go_wp2_with fail
            obtain ⟨WA, hWA⟩ : ∃ WA, WA = (World.alloc V (.cells #[.int .i64 0, .int .i64 0, .string ⟨#[]⟩, .slice none 0 0] 24)).drew := ⟨_, rfl⟩
            rw [← hWA]
            have hza : WA.heap[V.heap.size]? = some (.cells #[.int .i64 0, .int .i64 0, .string ⟨#[]⟩, .slice none 0 0] 24 (0, 0)) := by rw [hWA]; exact heap_alloc_new V _
            have hba : Below V.heap.size V WA := by rw [hWA]; exact below_drewN (box_below _ _) 1
            have HA := Lib.hid (And.intro hza (And.intro hba (show V.heap.size ≤ V.heap.size from Nat.le_refl _)))
            refine HK.out _ _ hba (fun hHeld => ?_)
            clear HK HS hza hba hWA
            refine wpAnyH_ready (rs := [4]) (by kernel_rfl) (by simp) ?_
            refine AllReadyH.cons (o := _) rfl (fun K hK => ?_) AllReadyH.nil
            rw [if_pos (by rfl)]
            simp only [List.getElem_toArray, List.getElem_cons_zero, List.getElem_cons_succ]
            have HK := Lib.hid hK
            have HS := Lib.hid hHeld
            clear hK hHeld
            go_wp2_with (go_at_call 21; refine (hAV.out _ HS.out).mono ?_; rintro e w4 ⟨⟨ya, yc, rfl⟩, hb4, hb4b⟩; have H4 := Lib.hid hb4; have H4b := Lib.hid (hb4b.block _ (lt_of_heap HA.out.1)); clear hb4 hb4b)
            refine HK.out _ _ H4.out (fun hHeld => ?_)
            clear HK HS
            refine wpAnyH_take (i := 5) (oi := _) (v := .tuple #[.agg #[.int .i64 uid, .int .i64 ukd, .string utx, .slice ya um yc], .bool true]) rfl (by kernel_rfl) (by kernel_rfl) (by kernel_rfl) (fun _ _ _ h => h) (Or.inl ⟨by rfl, ?_⟩) (by assumption) ?_
            · clear hHeld; intro X hSw; clear hSw; go_simp
            simp only [Act.put, List.getElem_toArray, List.getElem_cons_zero, List.getElem_cons_succ, List.setIfInBounds_toArray, List.set_cons_zero, List.set_cons_succ]
            refine wpAnyH_take (i := 6) (oi := _) (v := .agg #[.int .i64 uid, .int .i64 ukd, .string utx, .slice ya um yc]) rfl (by kernel_rfl) (by kernel_rfl) (by kernel_rfl) (fun _ _ _ h => h) (Or.inl ⟨by rfl, ?_⟩) (by assumption) ?_
            · clear hHeld; intro X hSw; clear hSw; go_simp
            simp only [Act.put, List.getElem_toArray, List.getElem_cons_zero, List.getElem_cons_succ, List.setIfInBounds_toArray, List.set_cons_zero, List.set_cons_succ]
            refine wpAnyH_take (i := 7) (oi := _) (v := .bool true) rfl (by kernel_rfl) (by kernel_rfl) (by kernel_rfl) (fun _ _ _ h => h) (Or.inl ⟨by rfl, ?_⟩) (by assumption) ?_
            · clear hHeld; intro X hSw; clear hSw; go_simp
            simp only [Act.put, List.getElem_toArray, List.getElem_cons_zero, List.getElem_cons_succ, List.setIfInBounds_toArray, List.set_cons_zero, List.set_cons_succ]
            refine wpAnyH_ready (rs := [9]) (by kernel_rfl) (by simp) ?_
            refine AllReadyH.cons (o := _) rfl (fun K hK => ?_) AllReadyH.nil
            rw [if_pos (by rfl)]
            simp only [List.getElem_toArray, List.getElem_cons_zero, List.getElem_cons_succ]
            have HK := Lib.hid hK
            have HS := Lib.hid hHeld
            clear hK hHeld
            have hz : w4.heap[V.heap.size]? = some (.cells #[.int .i64 0, .int .i64 0, .string ⟨#[]⟩, .slice none 0 0] 24 (0, 0)) := (H4b.out).trans HA.out.1
            have z0 : w4.cell? ⟨V.heap.size, 0, none⟩ = some (.int .i64 0) := by rw [cell_of_row _ _ 0 _ _ _ hz]; rfl
            have z1 : w4.cell? ⟨V.heap.size, 1, none⟩ = some (.int .i64 0) := by rw [cell_of_row _ _ 1 _ _ _ hz]; rfl
            have z2 : w4.cell? ⟨V.heap.size, 2, none⟩ = some (.string ⟨#[]⟩) := by rw [cell_of_row _ _ 2 _ _ _ hz]; rfl
            have z3 : w4.cell? ⟨V.heap.size, 3, none⟩ = some (.slice none 0 0) := by rw [cell_of_row _ _ 3 _ _ _ hz]; rfl
            have zf : ∀ j, w4.frozen? ⟨V.heap.size, j, none⟩ = false := fun j => frozen_of_row _ _ j _ _ hz
            obtain ⟨V5, e5, r1, r2, r3, r4, r5, r6⟩ := four_set (u0 := .int .i64 uid) (u1 := .int .i64 ukd) (u2 := .string utx) (u3 := .slice ya um yc) hz
            have hb5 : Below V.heap.size V V5 := ⟨r3.trans HS.out.os, r4.trans HS.out.tape, r5.trans HS.out.output, by rw [r6]; exact HS.out.size, fun y hy => (r2 y (by have := HA.out.2.2; omega)).trans (HS.out.block y hy)⟩
            have h5c : V5.cell? ⟨V.heap.size, 0, none⟩ = some (.int .i64 uid) := by rw [cell_of_row _ _ 0 _ _ _ r1]; rfl
            have H5 := Lib.hid (And.intro hb5 e5)
            clear hz r1 r2 r3 r4 r5 r6 hb5 e5
            go_wp2_with fail
            rw [← H5.out.2]
            refine HK.out _ _ H5.out.1 (fun hHeld => ?_)
            clear HK HS z0 z1 z2 z3 zf
            refine wpAnyH_take (i := 10) (oi := _) (v := .bool true) rfl (by kernel_rfl) (by kernel_rfl) (by kernel_rfl) (fun _ _ _ h => h) (Or.inl ⟨by rfl, ?_⟩) (by assumption) ?_
            · clear hHeld; intro X hSw; clear hSw; go_simp
            simp only [Act.put, List.getElem_toArray, List.getElem_cons_zero, List.getElem_cons_succ, List.setIfInBounds_toArray, List.set_cons_zero, List.set_cons_succ]
            refine wpAnyH_done (by kernel_rfl) ?_ _
            clear hHeld
            go_wp2_with fail
            go_ret2
            exact ⟨congrArg (fun z : Int × Bool => Ending.returned (.tuple #[.int .i64 z.1, .bool z.2])) HE2.out.1.symm, HE2.out.2.trans (H5.out.1.mono HE2.out.2.size)⟩
      · have hlk : lcp p q = k := by
          have := hh.out.1
          have h2 := lcp_end (l := p) (m := q) (k := k) (by have := HN.out.1; have := HN.out.2; omega)
          omega
        have hE2 : pr = (idAt t (p.take k), true) := by rw [HE.out, hlk]
        obtain ⟨uu, huu, _⟩ := pathT_at a t p HA.out.1.symm
        obtain ⟨u, hu⟩ := atT_take p t uu k huu
        obtain ⟨uid, huid⟩ : ∃ x, x = u.id := ⟨_, rfl⟩
        obtain ⟨ukd, hukd⟩ : ∃ x, x = u.kind := ⟨_, rfl⟩
        obtain ⟨utx, hutx⟩ : ∃ x, x = u.text := ⟨_, rfl⟩
        obtain ⟨um, hum⟩ : ∃ x, x = foLen u.kids := ⟨_, rfl⟩
        rw [idAt, hu] at hE2
        simp only [Option.map_some, Option.getD_some] at hE2
        rw [← huid] at hE2
        have hwr := H2.out.2.2.1.trans (hh.out.2.mono H2.out.2.2.1.size)
        have hop := owns_kept H2.out.1 (w' := wr) (fun g cur hc _ => hh.out.2.block g (lt_of_some hc))
        have HAT : Hid (∀ X, Below wr.heap.size wr X → Calls Try.prog 21 #[.agg #[.int .i64 t.id, .int .i64 t.kind, .string t.text, .slice ka nk tc], .slice pa k pc] X fun e w' => (∃ ya yc, e = .returned (.tuple #[.agg #[.int .i64 uid, .int .i64 ukd, .string utx, .slice ya um yc], .bool true])) ∧ Below wr.heap.size wr w' ∧ Below X.heap.size X w') := Lib.hid fun X hX => by
          have h9 := at_first (p := p) HATT.out hwr hX hop (k := k) (by have := HN.out.1; omega) (by omega) hu
          rw [← huid, ← hukd, ← hutx, ← hum] at h9
          exact h9
        have hbxW := (hh.out.2.block _ (lt_of_heap H2.out.2.2.2)).trans H2.out.2.2.2
        have b0 : wr.cell? ⟨w.heap.size, 0, none⟩ = some (.int .i64 t.id) := by rw [cell_of_row _ _ 0 _ _ _ hbxW]; rfl
        have b1 : wr.cell? ⟨w.heap.size, 1, none⟩ = some (.int .i64 t.kind) := by rw [cell_of_row _ _ 1 _ _ _ hbxW]; rfl
        have b2 : wr.cell? ⟨w.heap.size, 2, none⟩ = some (.string t.text) := by rw [cell_of_row _ _ 2 _ _ _ hbxW]; rfl
        have b3 : wr.cell? ⟨w.heap.size, 3, none⟩ = some (.slice ka nk tc) := by rw [cell_of_row _ _ 3 _ _ _ hbxW]; rfl
        have HBX := Lib.hid (fun (X : World) (h : Below wr.heap.size wr X) => (show X.cell? ⟨w.heap.size, 0, none⟩ = some (.int .i64 t.id) ∧ X.cell? ⟨w.heap.size, 1, none⟩ = some (.int .i64 t.kind) ∧ X.cell? ⟨w.heap.size, 2, none⟩ = some (.string t.text) ∧ X.cell? ⟨w.heap.size, 3, none⟩ = some (.slice ka nk tc) from
          ⟨(h.cell (World.block_lt_of_cell? _ _ b0)).trans b0, (h.cell (World.block_lt_of_cell? _ _ b1)).trans b1, (h.cell (World.block_lt_of_cell? _ _ b2)).trans b2, (h.cell (World.block_lt_of_cell? _ _ b3)).trans b3⟩))
        have HE2 := Lib.hid (And.intro hE2 hwr)
        have hk0 : (0 : Int) ≤ (k : Int) := by omega
        have hkc : (k : Int) ≤ (pc : Int) := by
          have : n ≤ pc := by
            rcases hop.2 with ⟨hv, h0⟩ | ⟨_, _, _, hv, _, _, h3, _⟩
            · omega
            · cases hv; exact h3
          omega
        have hE3 : (k < n ∧ k = m) ∨ k = n := by omega
        have HLT := Lib.hid hE3
        clear hh hE2 hwr hop hu huu huid hukd hutx hum hbxW b0 b1 b2 b3 hlk hlt hk hkm
        have hE4 := HLT.out
        rcases hE4 with ⟨hk1, hk2⟩ | hk1
        · have hki : (k : Int) < (n : Int) := by omega
          have hkmi : ¬ (k : Int) < (m : Int) := by omega
          clear hk1 hk2 hE3
          go_wp2_with fail
          refine wp_region_quiet (C := fun X => Below wr.heap.size wr X) (by kernel_rfl) (by kernel_rfl) (below_drewN (Below.refl _ wr) 1) ?_
          refine quiet_open (fun QQ hQQ => ?_)
          have HQQ := Lib.hid hQQ
          clear hQQ
          with_reducible refine wpQuiet_step ?_
          intro K hK
          rw [if_pos (by rfl)]
          refine ⟨.int .i64 (k : Int), fun X hX => ?_, hK _ ?_⟩
          · clear hK; go_simp
          clear hK K
          simp only [Act.put, List.setIfInBounds_toArray, List.set_cons_zero, List.set_cons_succ]
          with_reducible refine wpQuiet_step ?_
          intro K hK
          rw [if_pos (by rfl)]
          refine ⟨.slice pa n pc, fun X hX => ?_, hK _ ?_⟩
          · clear hK; go_simp
          clear hK K
          simp only [Act.put, List.setIfInBounds_toArray, List.set_cons_zero, List.set_cons_succ]
          with_reducible refine wpQuiet_step ?_
          intro K hK
          rw [if_pos (by rfl)]
          refine ⟨.int .i64 (n : Int), fun X hX => ?_, hK _ ?_⟩
          · clear hK; go_simp
          clear hK K
          simp only [Act.put, List.setIfInBounds_toArray, List.set_cons_zero, List.set_cons_succ]
          with_reducible refine wpQuiet_step ?_
          intro K hK
          rw [if_pos (by rfl)]
          refine ⟨.bool true, fun X hX => ?_, hK _ ?_⟩
          · clear hK; go_simp
          clear hK K
          simp only [Act.put, List.setIfInBounds_toArray, List.set_cons_zero, List.set_cons_succ]
          with_reducible refine wpQuiet_step ?_
          intro K hK
          rw [if_pos (by rfl)]
          refine ⟨.bool true, fun X hX => ?_, hK _ ?_⟩
          · clear hK; go_simp
          clear hK K
          simp only [Act.put, List.setIfInBounds_toArray, List.set_cons_zero, List.set_cons_succ]
          with_reducible refine wpQuiet_step ?_
          intro K hK
          rw [if_pos (by rfl)]
          refine ⟨.int .i64 (k : Int), fun X hX => ?_, hK _ ?_⟩
          · clear hK; go_simp
          clear hK K
          simp only [Act.put, List.setIfInBounds_toArray, List.set_cons_zero, List.set_cons_succ]
          with_reducible refine wpQuiet_step ?_
          intro K hK
          rw [if_pos (by rfl)]
          refine ⟨.slice qa m qc, fun X hX => ?_, hK _ ?_⟩
          · clear hK; go_simp
          clear hK K
          simp only [Act.put, List.setIfInBounds_toArray, List.set_cons_zero, List.set_cons_succ]
          with_reducible refine wpQuiet_step ?_
          intro K hK
          rw [if_pos (by rfl)]
          refine ⟨.int .i64 (m : Int), fun X hX => ?_, hK _ ?_⟩
          · clear hK; go_simp
          clear hK K
          simp only [Act.put, List.setIfInBounds_toArray, List.set_cons_zero, List.set_cons_succ]
          with_reducible refine wpQuiet_step ?_
          intro K hK
          rw [if_pos (by rfl)]
          refine ⟨.bool false, fun X hX => ?_, hK _ ?_⟩
          · clear hK; go_simp; omega
          clear hK K
          simp only [Act.put, List.setIfInBounds_toArray, List.set_cons_zero, List.set_cons_succ]
          with_reducible refine wpQuiet_step ?_
          intro K hK
          rw [if_pos (by rfl)]
          refine ⟨.bool false, fun X hX => ?_, hK _ ?_⟩
          · clear hK; go_simp
          clear hK K
          simp only [Act.put, List.setIfInBounds_toArray, List.set_cons_zero, List.set_cons_succ]
          with_reducible refine wpQuiet_step ?_
          intro K hK
          rw [if_pos (by rfl)]
          refine ⟨.bool false, fun X hX => ?_, hK _ ?_⟩
          · clear hK; go_simp
          clear hK K
          simp only [Act.put, List.setIfInBounds_toArray, List.set_cons_zero, List.set_cons_succ]
          with_reducible refine wpQuiet_step ?_
          intro K hK
          rw [if_neg (by exact Bool.false_ne_true)]
          with_reducible apply hK
          clear hK K
          simp only [Act.put, List.setIfInBounds_toArray, List.set_cons_zero, List.set_cons_succ]
          with_reducible refine wpQuiet_step ?_
          intro K hK
          rw [if_neg (by exact Bool.false_ne_true)]
          with_reducible apply hK
          clear hK K
          simp only [Act.put, List.setIfInBounds_toArray, List.set_cons_zero, List.set_cons_succ]
          with_reducible refine wpQuiet_step ?_
          intro K hK
          rw [if_neg (by exact Bool.false_ne_true)]
          with_reducible apply hK
          clear hK K
          simp only [Act.put, List.setIfInBounds_toArray, List.set_cons_zero, List.set_cons_succ]
          with_reducible refine wpQuiet_step ?_
          intro K hK
          rw [if_neg (by exact Bool.false_ne_true)]
          with_reducible apply hK
          clear hK K
          simp only [Act.put, List.setIfInBounds_toArray, List.set_cons_zero, List.set_cons_succ]
          with_reducible refine wpQuiet_step ?_
          intro K hK
          rw [if_neg (by exact Bool.false_ne_true)]
          with_reducible apply hK
          clear hK K
          simp only [Act.put, List.setIfInBounds_toArray, List.set_cons_zero, List.set_cons_succ]
          with_reducible refine wpQuiet_step ?_
          intro K hK
          rw [if_neg (by exact Bool.false_ne_true)]
          with_reducible apply hK
          clear hK K
          simp only [Act.put, List.setIfInBounds_toArray, List.set_cons_zero, List.set_cons_succ]
          with_reducible refine wpQuiet_step ?_
          intro K hK
          rw [if_neg (by exact Bool.false_ne_true)]
          with_reducible apply hK
          clear hK K
          simp only [Act.put, List.setIfInBounds_toArray, List.set_cons_zero, List.set_cons_succ]
          with_reducible refine wpQuiet_step ?_
          intro K hK
          rw [if_neg (by exact Bool.false_ne_true)]
          with_reducible apply hK
          clear hK K
          simp only [Act.put, List.setIfInBounds_toArray, List.set_cons_zero, List.set_cons_succ]
          with_reducible refine wpQuiet_step ?_
          intro K hK
          rw [if_neg (by exact Bool.false_ne_true)]
          with_reducible apply hK
          clear hK K
          simp only [Act.put, List.setIfInBounds_toArray, List.set_cons_zero, List.set_cons_succ]
          with_reducible refine wpQuiet_step ?_
          intro K hK
          rw [if_pos (by rfl)]
          refine ⟨.bool false, fun X hX => ?_, hK _ ?_⟩
          · clear hK; go_simp
          clear hK K
          simp only [Act.put, List.setIfInBounds_toArray, List.set_cons_zero, List.set_cons_succ]
          refine wpQuiet_nil (HQQ.out _ ?_)
          clear HQQ
          intro V hV
          have HV := Lib.hid hV
          have hBV := Lib.hid (fun (X : World) (h : Below V.heap.size V X) => HBX.out X (HV.out.trans (h.mono HV.out.size)))
          have hAV := Lib.hid (fun (X : World) (h : Below V.heap.size V X) => (HAT.out X (HV.out.trans (h.mono HV.out.size))).mono (fun e w' (hh : _ ∧ _ ∧ _) => (⟨hh.1, h.trans (hh.2.2.mono h.size), hh.2.2⟩ : _ ∧ Below V.heap.size V w' ∧ _)))
          have HE2 := Lib.hid (And.intro HE2.out.1 (HE2.out.2.trans (HV.out.mono HE2.out.2.size)))
          clear hV
          go_wp2_with fail
          refine wp_region_held_drew (S := fun X => Below V.heap.size V X) (by kernel_rfl) (below_drewN (Below.refl _ V) 1) (fun hHeld => ?_)
          refine wpAnyH_take (i := 0) (oi := _) (v := .agg #[.int .i64 t.id, .int .i64 t.kind, .string t.text, .slice ka nk tc]) rfl (by kernel_rfl) (by kernel_rfl) (by kernel_rfl) (fun _ _ _ h => h) (Or.inl ⟨by rfl, ?_⟩) (by assumption) ?_
          · clear hHeld; intro X hSw; obtain ⟨s0, s1, s2, s3⟩ := hBV.out X hSw; clear hSw; go_simp
          simp only [Act.put, List.getElem_toArray, List.getElem_cons_zero, List.getElem_cons_succ, List.setIfInBounds_toArray, List.set_cons_zero, List.set_cons_succ]
          refine wpAnyH_take (i := 1) (oi := _) (v := .slice pa n pc) rfl (by kernel_rfl) (by kernel_rfl) (by kernel_rfl) (fun _ _ _ h => h) (Or.inl ⟨by rfl, ?_⟩) (by assumption) ?_
          · clear hHeld; intro X hSw; clear hSw; go_simp
          simp only [Act.put, List.getElem_toArray, List.getElem_cons_zero, List.getElem_cons_succ, List.setIfInBounds_toArray, List.set_cons_zero, List.set_cons_succ]
          refine wpAnyH_take (i := 2) (oi := _) (v := .int .i64 (k : Int)) rfl (by kernel_rfl) (by kernel_rfl) (by kernel_rfl) (fun _ _ _ h => h) (Or.inl ⟨by rfl, ?_⟩) (by assumption) ?_
          · clear hHeld; intro X hSw; clear hSw; go_simp
          simp only [Act.put, List.getElem_toArray, List.getElem_cons_zero, List.getElem_cons_succ, List.setIfInBounds_toArray, List.set_cons_zero, List.set_cons_succ]
          refine wpAnyH_take (i := 3) (oi := _) (v := .slice pa k pc) rfl (by kernel_rfl) (by kernel_rfl) (by kernel_rfl) (fun _ _ _ h => h) (Or.inl ⟨by rfl, ?_⟩) (by assumption) ?_
          · clear hHeld; intro X hSw; clear hSw; go_simp
          simp only [Act.put, List.getElem_toArray, List.getElem_cons_zero, List.getElem_cons_succ, List.setIfInBounds_toArray, List.set_cons_zero, List.set_cons_succ]
          refine wpAnyH_ready (rs := [4, 8]) (by kernel_rfl) (by simp) ?_
          refine AllReadyH.cons (o := _) rfl (fun K hK => ?_) (AllReadyH.cons (o := _) rfl (fun K hK => ?_) AllReadyH.nil)
          · rw [if_pos (by rfl)]
            simp only [List.getElem_toArray, List.getElem_cons_zero, List.getElem_cons_succ]
            have HK := Lib.hid hK
            have HS := Lib.hid hHeld
            clear hK hHeld
            go_wp2_with (go_at_call 21; refine (hAV.out _ HS.out).mono ?_; rintro e w4 ⟨⟨ya, yc, rfl⟩, hb4, _⟩; have H4 := Lib.hid hb4; clear hb4)
            refine HK.out _ _ H4.out (fun hHeld => ?_)
            clear HK HS
            refine wpAnyH_take (i := 5) (oi := _) (v := .tuple #[.agg #[.int .i64 uid, .int .i64 ukd, .string utx, .slice ya um yc], .bool true]) rfl (by kernel_rfl) (by kernel_rfl) (by kernel_rfl) (fun _ _ _ h => h) (Or.inl ⟨by rfl, ?_⟩) (by assumption) ?_
            · clear hHeld; intro X hSw; clear hSw; go_simp
            simp only [Act.put, List.getElem_toArray, List.getElem_cons_zero, List.getElem_cons_succ, List.setIfInBounds_toArray, List.set_cons_zero, List.set_cons_succ]
            refine wpAnyH_take (i := 6) (oi := _) (v := .agg #[.int .i64 uid, .int .i64 ukd, .string utx, .slice ya um yc]) rfl (by kernel_rfl) (by kernel_rfl) (by kernel_rfl) (fun _ _ _ h => h) (Or.inl ⟨by rfl, ?_⟩) (by assumption) ?_
            · clear hHeld; intro X hSw; clear hSw; go_simp
            simp only [Act.put, List.getElem_toArray, List.getElem_cons_zero, List.getElem_cons_succ, List.setIfInBounds_toArray, List.set_cons_zero, List.set_cons_succ]
            refine wpAnyH_take (i := 7) (oi := _) (v := .bool true) rfl (by kernel_rfl) (by kernel_rfl) (by kernel_rfl) (fun _ _ _ h => h) (Or.inl ⟨by rfl, ?_⟩) (by assumption) ?_
            · clear hHeld; intro X hSw; clear hSw; go_simp
            simp only [Act.put, List.getElem_toArray, List.getElem_cons_zero, List.getElem_cons_succ, List.setIfInBounds_toArray, List.set_cons_zero, List.set_cons_succ]
            refine wpAnyH_ready (rs := [8]) (by kernel_rfl) (by simp) ?_
            refine AllReadyH.cons (o := _) rfl (fun K hK => ?_) AllReadyH.nil
            rw [if_pos (by rfl)]
            simp only [List.getElem_toArray, List.getElem_cons_zero, List.getElem_cons_succ]
            have HK := Lib.hid hK
            have HS := Lib.hid hHeld
            clear hK hHeld
            go_wp2_with fail
            obtain ⟨WA, hWA⟩ : ∃ WA, WA = (World.alloc w4 (.cells #[.int .i64 0, .int .i64 0, .string ⟨#[]⟩, .slice none 0 0] 24)) := ⟨_, rfl⟩
            rw [← hWA]
            have hza : WA.heap[w4.heap.size]? = some (.cells #[.int .i64 0, .int .i64 0, .string ⟨#[]⟩, .slice none 0 0] 24 (0, 0)) := by rw [hWA]; exact heap_alloc_new w4 _
            have hba : Below V.heap.size V WA := by rw [hWA]; exact HS.out.alloc HS.out.size _
            have HA := Lib.hid (And.intro hza (And.intro hba (show V.heap.size ≤ w4.heap.size from HS.out.size)))
            refine HK.out _ _ hba (fun hHeld => ?_)
            clear HK HS hza hba hWA
            refine wpAnyH_ready (rs := [9]) (by kernel_rfl) (by simp) ?_
            refine AllReadyH.cons (o := _) rfl (fun K hK => ?_) AllReadyH.nil
            rw [if_pos (by rfl)]
            simp only [List.getElem_toArray, List.getElem_cons_zero, List.getElem_cons_succ]
            have HK := Lib.hid hK
            have HS := Lib.hid hHeld
            clear hK hHeld
            have hz : WA.heap[w4.heap.size]? = some (.cells #[.int .i64 0, .int .i64 0, .string ⟨#[]⟩, .slice none 0 0] 24 (0, 0)) := HA.out.1
            have z0 : WA.cell? ⟨w4.heap.size, 0, none⟩ = some (.int .i64 0) := by rw [cell_of_row _ _ 0 _ _ _ hz]; rfl
            have z1 : WA.cell? ⟨w4.heap.size, 1, none⟩ = some (.int .i64 0) := by rw [cell_of_row _ _ 1 _ _ _ hz]; rfl
            have z2 : WA.cell? ⟨w4.heap.size, 2, none⟩ = some (.string ⟨#[]⟩) := by rw [cell_of_row _ _ 2 _ _ _ hz]; rfl
            have z3 : WA.cell? ⟨w4.heap.size, 3, none⟩ = some (.slice none 0 0) := by rw [cell_of_row _ _ 3 _ _ _ hz]; rfl
            have zf : ∀ j, WA.frozen? ⟨w4.heap.size, j, none⟩ = false := fun j => frozen_of_row _ _ j _ _ hz
            obtain ⟨V5, e5, r1, r2, r3, r4, r5, r6⟩ := four_set (u0 := .int .i64 uid) (u1 := .int .i64 ukd) (u2 := .string utx) (u3 := .slice ya um yc) hz
            have hb5 : Below V.heap.size V V5 := ⟨r3.trans HS.out.os, r4.trans HS.out.tape, r5.trans HS.out.output, by rw [r6]; exact HS.out.size, fun y hy => (r2 y (by have := HA.out.2.2; omega)).trans (HS.out.block y hy)⟩
            have h5c : V5.cell? ⟨w4.heap.size, 0, none⟩ = some (.int .i64 uid) := by rw [cell_of_row _ _ 0 _ _ _ r1]; rfl
            have H5 := Lib.hid (And.intro hb5 e5)
            clear hz r1 r2 r3 r4 r5 r6 hb5 e5
            go_wp2_with fail
            rw [← H5.out.2]
            refine HK.out _ _ H5.out.1 (fun hHeld => ?_)
            clear HK HS z0 z1 z2 z3 zf
            refine wpAnyH_take (i := 10) (oi := _) (v := .bool true) rfl (by kernel_rfl) (by kernel_rfl) (by kernel_rfl) (fun _ _ _ h => h) (Or.inl ⟨by rfl, ?_⟩) (by assumption) ?_
            · clear hHeld; intro X hSw; clear hSw; go_simp
            simp only [Act.put, List.getElem_toArray, List.getElem_cons_zero, List.getElem_cons_succ, List.setIfInBounds_toArray, List.set_cons_zero, List.set_cons_succ]
            refine wpAnyH_done (by kernel_rfl) ?_ _
            clear hHeld
            go_wp2_with fail
            go_ret2
            exact ⟨congrArg (fun z : Int × Bool => Ending.returned (.tuple #[.int .i64 z.1, .bool z.2])) HE2.out.1.symm, HE2.out.2.trans (H5.out.1.mono HE2.out.2.size)⟩
          · rw [if_pos (by rfl)]
            simp only [List.getElem_toArray, List.getElem_cons_zero, List.getElem_cons_succ]
            have HK := Lib.hid hK
            have HS := Lib.hid hHeld
            clear hK hHeld
            go_wp2_with fail
            obtain ⟨WA, hWA⟩ : ∃ WA, WA = (World.alloc V (.cells #[.int .i64 0, .int .i64 0, .string ⟨#[]⟩, .slice none 0 0] 24)).drew := ⟨_, rfl⟩
            rw [← hWA]
            have hza : WA.heap[V.heap.size]? = some (.cells #[.int .i64 0, .int .i64 0, .string ⟨#[]⟩, .slice none 0 0] 24 (0, 0)) := by rw [hWA]; exact heap_alloc_new V _
            have hba : Below V.heap.size V WA := by rw [hWA]; exact below_drewN (box_below _ _) 1
            have HA := Lib.hid (And.intro hza (And.intro hba (show V.heap.size ≤ V.heap.size from Nat.le_refl _)))
            refine HK.out _ _ hba (fun hHeld => ?_)
            clear HK HS hza hba hWA
            refine wpAnyH_ready (rs := [4]) (by kernel_rfl) (by simp) ?_
            refine AllReadyH.cons (o := _) rfl (fun K hK => ?_) AllReadyH.nil
            rw [if_pos (by rfl)]
            simp only [List.getElem_toArray, List.getElem_cons_zero, List.getElem_cons_succ]
            have HK := Lib.hid hK
            have HS := Lib.hid hHeld
            clear hK hHeld
            go_wp2_with (go_at_call 21; refine (hAV.out _ HS.out).mono ?_; rintro e w4 ⟨⟨ya, yc, rfl⟩, hb4, hb4b⟩; have H4 := Lib.hid hb4; have H4b := Lib.hid (hb4b.block _ (lt_of_heap HA.out.1)); clear hb4 hb4b)
            refine HK.out _ _ H4.out (fun hHeld => ?_)
            clear HK HS
            refine wpAnyH_take (i := 5) (oi := _) (v := .tuple #[.agg #[.int .i64 uid, .int .i64 ukd, .string utx, .slice ya um yc], .bool true]) rfl (by kernel_rfl) (by kernel_rfl) (by kernel_rfl) (fun _ _ _ h => h) (Or.inl ⟨by rfl, ?_⟩) (by assumption) ?_
            · clear hHeld; intro X hSw; clear hSw; go_simp
            simp only [Act.put, List.getElem_toArray, List.getElem_cons_zero, List.getElem_cons_succ, List.setIfInBounds_toArray, List.set_cons_zero, List.set_cons_succ]
            refine wpAnyH_take (i := 6) (oi := _) (v := .agg #[.int .i64 uid, .int .i64 ukd, .string utx, .slice ya um yc]) rfl (by kernel_rfl) (by kernel_rfl) (by kernel_rfl) (fun _ _ _ h => h) (Or.inl ⟨by rfl, ?_⟩) (by assumption) ?_
            · clear hHeld; intro X hSw; clear hSw; go_simp
            simp only [Act.put, List.getElem_toArray, List.getElem_cons_zero, List.getElem_cons_succ, List.setIfInBounds_toArray, List.set_cons_zero, List.set_cons_succ]
            refine wpAnyH_take (i := 7) (oi := _) (v := .bool true) rfl (by kernel_rfl) (by kernel_rfl) (by kernel_rfl) (fun _ _ _ h => h) (Or.inl ⟨by rfl, ?_⟩) (by assumption) ?_
            · clear hHeld; intro X hSw; clear hSw; go_simp
            simp only [Act.put, List.getElem_toArray, List.getElem_cons_zero, List.getElem_cons_succ, List.setIfInBounds_toArray, List.set_cons_zero, List.set_cons_succ]
            refine wpAnyH_ready (rs := [9]) (by kernel_rfl) (by simp) ?_
            refine AllReadyH.cons (o := _) rfl (fun K hK => ?_) AllReadyH.nil
            rw [if_pos (by rfl)]
            simp only [List.getElem_toArray, List.getElem_cons_zero, List.getElem_cons_succ]
            have HK := Lib.hid hK
            have HS := Lib.hid hHeld
            clear hK hHeld
            have hz : w4.heap[V.heap.size]? = some (.cells #[.int .i64 0, .int .i64 0, .string ⟨#[]⟩, .slice none 0 0] 24 (0, 0)) := (H4b.out).trans HA.out.1
            have z0 : w4.cell? ⟨V.heap.size, 0, none⟩ = some (.int .i64 0) := by rw [cell_of_row _ _ 0 _ _ _ hz]; rfl
            have z1 : w4.cell? ⟨V.heap.size, 1, none⟩ = some (.int .i64 0) := by rw [cell_of_row _ _ 1 _ _ _ hz]; rfl
            have z2 : w4.cell? ⟨V.heap.size, 2, none⟩ = some (.string ⟨#[]⟩) := by rw [cell_of_row _ _ 2 _ _ _ hz]; rfl
            have z3 : w4.cell? ⟨V.heap.size, 3, none⟩ = some (.slice none 0 0) := by rw [cell_of_row _ _ 3 _ _ _ hz]; rfl
            have zf : ∀ j, w4.frozen? ⟨V.heap.size, j, none⟩ = false := fun j => frozen_of_row _ _ j _ _ hz
            obtain ⟨V5, e5, r1, r2, r3, r4, r5, r6⟩ := four_set (u0 := .int .i64 uid) (u1 := .int .i64 ukd) (u2 := .string utx) (u3 := .slice ya um yc) hz
            have hb5 : Below V.heap.size V V5 := ⟨r3.trans HS.out.os, r4.trans HS.out.tape, r5.trans HS.out.output, by rw [r6]; exact HS.out.size, fun y hy => (r2 y (by have := HA.out.2.2; omega)).trans (HS.out.block y hy)⟩
            have h5c : V5.cell? ⟨V.heap.size, 0, none⟩ = some (.int .i64 uid) := by rw [cell_of_row _ _ 0 _ _ _ r1]; rfl
            have H5 := Lib.hid (And.intro hb5 e5)
            clear hz r1 r2 r3 r4 r5 r6 hb5 e5
            go_wp2_with fail
            rw [← H5.out.2]
            refine HK.out _ _ H5.out.1 (fun hHeld => ?_)
            clear HK HS z0 z1 z2 z3 zf
            refine wpAnyH_take (i := 10) (oi := _) (v := .bool true) rfl (by kernel_rfl) (by kernel_rfl) (by kernel_rfl) (fun _ _ _ h => h) (Or.inl ⟨by rfl, ?_⟩) (by assumption) ?_
            · clear hHeld; intro X hSw; clear hSw; go_simp
            simp only [Act.put, List.getElem_toArray, List.getElem_cons_zero, List.getElem_cons_succ, List.setIfInBounds_toArray, List.set_cons_zero, List.set_cons_succ]
            refine wpAnyH_done (by kernel_rfl) ?_ _
            clear hHeld
            go_wp2_with fail
            go_ret2
            exact ⟨congrArg (fun z : Int × Bool => Ending.returned (.tuple #[.int .i64 z.1, .bool z.2])) HE2.out.1.symm, HE2.out.2.trans (H5.out.1.mono HE2.out.2.size)⟩
        · have hki : ¬ (k : Int) < (n : Int) := by omega
          clear hk1 hE3
          go_wp2_with fail
          refine wp_region_quiet (C := fun X => Below wr.heap.size wr X) (by kernel_rfl) (by kernel_rfl) (below_drewN (Below.refl _ wr) 1) ?_
          refine quiet_open (fun QQ hQQ => ?_)
          have HQQ := Lib.hid hQQ
          clear hQQ
          with_reducible refine wpQuiet_step ?_
          intro K hK
          rw [if_pos (by rfl)]
          refine ⟨.int .i64 (k : Int), fun X hX => ?_, hK _ ?_⟩
          · clear hK; go_simp
          clear hK K
          simp only [Act.put, List.setIfInBounds_toArray, List.set_cons_zero, List.set_cons_succ]
          with_reducible refine wpQuiet_step ?_
          intro K hK
          rw [if_pos (by rfl)]
          refine ⟨.slice pa n pc, fun X hX => ?_, hK _ ?_⟩
          · clear hK; go_simp
          clear hK K
          simp only [Act.put, List.setIfInBounds_toArray, List.set_cons_zero, List.set_cons_succ]
          with_reducible refine wpQuiet_step ?_
          intro K hK
          rw [if_pos (by rfl)]
          refine ⟨.int .i64 (n : Int), fun X hX => ?_, hK _ ?_⟩
          · clear hK; go_simp
          clear hK K
          simp only [Act.put, List.setIfInBounds_toArray, List.set_cons_zero, List.set_cons_succ]
          with_reducible refine wpQuiet_step ?_
          intro K hK
          rw [if_pos (by rfl)]
          refine ⟨.bool false, fun X hX => ?_, hK _ ?_⟩
          · clear hK; go_simp; omega
          clear hK K
          simp only [Act.put, List.setIfInBounds_toArray, List.set_cons_zero, List.set_cons_succ]
          with_reducible refine wpQuiet_step ?_
          intro K hK
          rw [if_pos (by rfl)]
          refine ⟨.bool false, fun X hX => ?_, hK _ ?_⟩
          · clear hK; go_simp
          clear hK K
          simp only [Act.put, List.setIfInBounds_toArray, List.set_cons_zero, List.set_cons_succ]
          with_reducible refine wpQuiet_step ?_
          intro K hK
          rw [if_neg (by exact Bool.false_ne_true)]
          with_reducible apply hK
          clear hK K
          simp only [Act.put, List.setIfInBounds_toArray, List.set_cons_zero, List.set_cons_succ]
          with_reducible refine wpQuiet_step ?_
          intro K hK
          rw [if_neg (by exact Bool.false_ne_true)]
          with_reducible apply hK
          clear hK K
          simp only [Act.put, List.setIfInBounds_toArray, List.set_cons_zero, List.set_cons_succ]
          with_reducible refine wpQuiet_step ?_
          intro K hK
          rw [if_neg (by exact Bool.false_ne_true)]
          with_reducible apply hK
          clear hK K
          simp only [Act.put, List.setIfInBounds_toArray, List.set_cons_zero, List.set_cons_succ]
          with_reducible refine wpQuiet_step ?_
          intro K hK
          rw [if_neg (by exact Bool.false_ne_true)]
          with_reducible apply hK
          clear hK K
          simp only [Act.put, List.setIfInBounds_toArray, List.set_cons_zero, List.set_cons_succ]
          with_reducible refine wpQuiet_step ?_
          intro K hK
          rw [if_pos (by rfl)]
          refine ⟨.bool false, fun X hX => ?_, hK _ ?_⟩
          · clear hK; go_simp
          clear hK K
          simp only [Act.put, List.setIfInBounds_toArray, List.set_cons_zero, List.set_cons_succ]
          with_reducible refine wpQuiet_step ?_
          intro K hK
          rw [if_pos (by rfl)]
          refine ⟨.bool false, fun X hX => ?_, hK _ ?_⟩
          · clear hK; go_simp
          clear hK K
          simp only [Act.put, List.setIfInBounds_toArray, List.set_cons_zero, List.set_cons_succ]
          with_reducible refine wpQuiet_step ?_
          intro K hK
          rw [if_neg (by exact Bool.false_ne_true)]
          with_reducible apply hK
          clear hK K
          simp only [Act.put, List.setIfInBounds_toArray, List.set_cons_zero, List.set_cons_succ]
          with_reducible refine wpQuiet_step ?_
          intro K hK
          rw [if_neg (by exact Bool.false_ne_true)]
          with_reducible apply hK
          clear hK K
          simp only [Act.put, List.setIfInBounds_toArray, List.set_cons_zero, List.set_cons_succ]
          with_reducible refine wpQuiet_step ?_
          intro K hK
          rw [if_neg (by exact Bool.false_ne_true)]
          with_reducible apply hK
          clear hK K
          simp only [Act.put, List.setIfInBounds_toArray, List.set_cons_zero, List.set_cons_succ]
          with_reducible refine wpQuiet_step ?_
          intro K hK
          rw [if_neg (by exact Bool.false_ne_true)]
          with_reducible apply hK
          clear hK K
          simp only [Act.put, List.setIfInBounds_toArray, List.set_cons_zero, List.set_cons_succ]
          with_reducible refine wpQuiet_step ?_
          intro K hK
          rw [if_neg (by exact Bool.false_ne_true)]
          with_reducible apply hK
          clear hK K
          simp only [Act.put, List.setIfInBounds_toArray, List.set_cons_zero, List.set_cons_succ]
          with_reducible refine wpQuiet_step ?_
          intro K hK
          rw [if_neg (by exact Bool.false_ne_true)]
          with_reducible apply hK
          clear hK K
          simp only [Act.put, List.setIfInBounds_toArray, List.set_cons_zero, List.set_cons_succ]
          with_reducible refine wpQuiet_step ?_
          intro K hK
          rw [if_neg (by exact Bool.false_ne_true)]
          with_reducible apply hK
          clear hK K
          simp only [Act.put, List.setIfInBounds_toArray, List.set_cons_zero, List.set_cons_succ]
          with_reducible refine wpQuiet_step ?_
          intro K hK
          rw [if_neg (by exact Bool.false_ne_true)]
          with_reducible apply hK
          clear hK K
          simp only [Act.put, List.setIfInBounds_toArray, List.set_cons_zero, List.set_cons_succ]
          with_reducible refine wpQuiet_step ?_
          intro K hK
          rw [if_neg (by exact Bool.false_ne_true)]
          with_reducible apply hK
          clear hK K
          simp only [Act.put, List.setIfInBounds_toArray, List.set_cons_zero, List.set_cons_succ]
          with_reducible refine wpQuiet_step ?_
          intro K hK
          rw [if_pos (by rfl)]
          refine ⟨.bool false, fun X hX => ?_, hK _ ?_⟩
          · clear hK; go_simp
          clear hK K
          simp only [Act.put, List.setIfInBounds_toArray, List.set_cons_zero, List.set_cons_succ]
          refine wpQuiet_nil (HQQ.out _ ?_)
          clear HQQ
          intro V hV
          have HV := Lib.hid hV
          have hBV := Lib.hid (fun (X : World) (h : Below V.heap.size V X) => HBX.out X (HV.out.trans (h.mono HV.out.size)))
          have hAV := Lib.hid (fun (X : World) (h : Below V.heap.size V X) => (HAT.out X (HV.out.trans (h.mono HV.out.size))).mono (fun e w' (hh : _ ∧ _ ∧ _) => (⟨hh.1, h.trans (hh.2.2.mono h.size), hh.2.2⟩ : _ ∧ Below V.heap.size V w' ∧ _)))
          have HE2 := Lib.hid (And.intro HE2.out.1 (HE2.out.2.trans (HV.out.mono HE2.out.2.size)))
          clear hV
          go_wp2_with fail
          refine wp_region_held_drew (S := fun X => Below V.heap.size V X) (by kernel_rfl) (below_drewN (Below.refl _ V) 1) (fun hHeld => ?_)
          refine wpAnyH_take (i := 0) (oi := _) (v := .agg #[.int .i64 t.id, .int .i64 t.kind, .string t.text, .slice ka nk tc]) rfl (by kernel_rfl) (by kernel_rfl) (by kernel_rfl) (fun _ _ _ h => h) (Or.inl ⟨by rfl, ?_⟩) (by assumption) ?_
          · clear hHeld; intro X hSw; obtain ⟨s0, s1, s2, s3⟩ := hBV.out X hSw; clear hSw; go_simp
          simp only [Act.put, List.getElem_toArray, List.getElem_cons_zero, List.getElem_cons_succ, List.setIfInBounds_toArray, List.set_cons_zero, List.set_cons_succ]
          refine wpAnyH_take (i := 1) (oi := _) (v := .slice pa n pc) rfl (by kernel_rfl) (by kernel_rfl) (by kernel_rfl) (fun _ _ _ h => h) (Or.inl ⟨by rfl, ?_⟩) (by assumption) ?_
          · clear hHeld; intro X hSw; clear hSw; go_simp
          simp only [Act.put, List.getElem_toArray, List.getElem_cons_zero, List.getElem_cons_succ, List.setIfInBounds_toArray, List.set_cons_zero, List.set_cons_succ]
          refine wpAnyH_take (i := 2) (oi := _) (v := .int .i64 (k : Int)) rfl (by kernel_rfl) (by kernel_rfl) (by kernel_rfl) (fun _ _ _ h => h) (Or.inl ⟨by rfl, ?_⟩) (by assumption) ?_
          · clear hHeld; intro X hSw; clear hSw; go_simp
          simp only [Act.put, List.getElem_toArray, List.getElem_cons_zero, List.getElem_cons_succ, List.setIfInBounds_toArray, List.set_cons_zero, List.set_cons_succ]
          refine wpAnyH_take (i := 3) (oi := _) (v := .slice pa k pc) rfl (by kernel_rfl) (by kernel_rfl) (by kernel_rfl) (fun _ _ _ h => h) (Or.inl ⟨by rfl, ?_⟩) (by assumption) ?_
          · clear hHeld; intro X hSw; clear hSw; go_simp
          simp only [Act.put, List.getElem_toArray, List.getElem_cons_zero, List.getElem_cons_succ, List.setIfInBounds_toArray, List.set_cons_zero, List.set_cons_succ]
          refine wpAnyH_ready (rs := [4, 8]) (by kernel_rfl) (by simp) ?_
          refine AllReadyH.cons (o := _) rfl (fun K hK => ?_) (AllReadyH.cons (o := _) rfl (fun K hK => ?_) AllReadyH.nil)
          · rw [if_pos (by rfl)]
            simp only [List.getElem_toArray, List.getElem_cons_zero, List.getElem_cons_succ]
            have HK := Lib.hid hK
            have HS := Lib.hid hHeld
            clear hK hHeld
            go_wp2_with (go_at_call 21; refine (hAV.out _ HS.out).mono ?_; rintro e w4 ⟨⟨ya, yc, rfl⟩, hb4, _⟩; have H4 := Lib.hid hb4; clear hb4)
            refine HK.out _ _ H4.out (fun hHeld => ?_)
            clear HK HS
            refine wpAnyH_take (i := 5) (oi := _) (v := .tuple #[.agg #[.int .i64 uid, .int .i64 ukd, .string utx, .slice ya um yc], .bool true]) rfl (by kernel_rfl) (by kernel_rfl) (by kernel_rfl) (fun _ _ _ h => h) (Or.inl ⟨by rfl, ?_⟩) (by assumption) ?_
            · clear hHeld; intro X hSw; clear hSw; go_simp
            simp only [Act.put, List.getElem_toArray, List.getElem_cons_zero, List.getElem_cons_succ, List.setIfInBounds_toArray, List.set_cons_zero, List.set_cons_succ]
            refine wpAnyH_take (i := 6) (oi := _) (v := .agg #[.int .i64 uid, .int .i64 ukd, .string utx, .slice ya um yc]) rfl (by kernel_rfl) (by kernel_rfl) (by kernel_rfl) (fun _ _ _ h => h) (Or.inl ⟨by rfl, ?_⟩) (by assumption) ?_
            · clear hHeld; intro X hSw; clear hSw; go_simp
            simp only [Act.put, List.getElem_toArray, List.getElem_cons_zero, List.getElem_cons_succ, List.setIfInBounds_toArray, List.set_cons_zero, List.set_cons_succ]
            refine wpAnyH_take (i := 7) (oi := _) (v := .bool true) rfl (by kernel_rfl) (by kernel_rfl) (by kernel_rfl) (fun _ _ _ h => h) (Or.inl ⟨by rfl, ?_⟩) (by assumption) ?_
            · clear hHeld; intro X hSw; clear hSw; go_simp
            simp only [Act.put, List.getElem_toArray, List.getElem_cons_zero, List.getElem_cons_succ, List.setIfInBounds_toArray, List.set_cons_zero, List.set_cons_succ]
            refine wpAnyH_ready (rs := [8]) (by kernel_rfl) (by simp) ?_
            refine AllReadyH.cons (o := _) rfl (fun K hK => ?_) AllReadyH.nil
            rw [if_pos (by rfl)]
            simp only [List.getElem_toArray, List.getElem_cons_zero, List.getElem_cons_succ]
            have HK := Lib.hid hK
            have HS := Lib.hid hHeld
            clear hK hHeld
            go_wp2_with fail
            obtain ⟨WA, hWA⟩ : ∃ WA, WA = (World.alloc w4 (.cells #[.int .i64 0, .int .i64 0, .string ⟨#[]⟩, .slice none 0 0] 24)) := ⟨_, rfl⟩
            rw [← hWA]
            have hza : WA.heap[w4.heap.size]? = some (.cells #[.int .i64 0, .int .i64 0, .string ⟨#[]⟩, .slice none 0 0] 24 (0, 0)) := by rw [hWA]; exact heap_alloc_new w4 _
            have hba : Below V.heap.size V WA := by rw [hWA]; exact HS.out.alloc HS.out.size _
            have HA := Lib.hid (And.intro hza (And.intro hba (show V.heap.size ≤ w4.heap.size from HS.out.size)))
            refine HK.out _ _ hba (fun hHeld => ?_)
            clear HK HS hza hba hWA
            refine wpAnyH_ready (rs := [9]) (by kernel_rfl) (by simp) ?_
            refine AllReadyH.cons (o := _) rfl (fun K hK => ?_) AllReadyH.nil
            rw [if_pos (by rfl)]
            simp only [List.getElem_toArray, List.getElem_cons_zero, List.getElem_cons_succ]
            have HK := Lib.hid hK
            have HS := Lib.hid hHeld
            clear hK hHeld
            have hz : WA.heap[w4.heap.size]? = some (.cells #[.int .i64 0, .int .i64 0, .string ⟨#[]⟩, .slice none 0 0] 24 (0, 0)) := HA.out.1
            have z0 : WA.cell? ⟨w4.heap.size, 0, none⟩ = some (.int .i64 0) := by rw [cell_of_row _ _ 0 _ _ _ hz]; rfl
            have z1 : WA.cell? ⟨w4.heap.size, 1, none⟩ = some (.int .i64 0) := by rw [cell_of_row _ _ 1 _ _ _ hz]; rfl
            have z2 : WA.cell? ⟨w4.heap.size, 2, none⟩ = some (.string ⟨#[]⟩) := by rw [cell_of_row _ _ 2 _ _ _ hz]; rfl
            have z3 : WA.cell? ⟨w4.heap.size, 3, none⟩ = some (.slice none 0 0) := by rw [cell_of_row _ _ 3 _ _ _ hz]; rfl
            have zf : ∀ j, WA.frozen? ⟨w4.heap.size, j, none⟩ = false := fun j => frozen_of_row _ _ j _ _ hz
            obtain ⟨V5, e5, r1, r2, r3, r4, r5, r6⟩ := four_set (u0 := .int .i64 uid) (u1 := .int .i64 ukd) (u2 := .string utx) (u3 := .slice ya um yc) hz
            have hb5 : Below V.heap.size V V5 := ⟨r3.trans HS.out.os, r4.trans HS.out.tape, r5.trans HS.out.output, by rw [r6]; exact HS.out.size, fun y hy => (r2 y (by have := HA.out.2.2; omega)).trans (HS.out.block y hy)⟩
            have h5c : V5.cell? ⟨w4.heap.size, 0, none⟩ = some (.int .i64 uid) := by rw [cell_of_row _ _ 0 _ _ _ r1]; rfl
            have H5 := Lib.hid (And.intro hb5 e5)
            clear hz r1 r2 r3 r4 r5 r6 hb5 e5
            go_wp2_with fail
            rw [← H5.out.2]
            refine HK.out _ _ H5.out.1 (fun hHeld => ?_)
            clear HK HS z0 z1 z2 z3 zf
            refine wpAnyH_take (i := 10) (oi := _) (v := .bool true) rfl (by kernel_rfl) (by kernel_rfl) (by kernel_rfl) (fun _ _ _ h => h) (Or.inl ⟨by rfl, ?_⟩) (by assumption) ?_
            · clear hHeld; intro X hSw; clear hSw; go_simp
            simp only [Act.put, List.getElem_toArray, List.getElem_cons_zero, List.getElem_cons_succ, List.setIfInBounds_toArray, List.set_cons_zero, List.set_cons_succ]
            refine wpAnyH_done (by kernel_rfl) ?_ _
            clear hHeld
            go_wp2_with fail
            go_ret2
            exact ⟨congrArg (fun z : Int × Bool => Ending.returned (.tuple #[.int .i64 z.1, .bool z.2])) HE2.out.1.symm, HE2.out.2.trans (H5.out.1.mono HE2.out.2.size)⟩
          · rw [if_pos (by rfl)]
            simp only [List.getElem_toArray, List.getElem_cons_zero, List.getElem_cons_succ]
            have HK := Lib.hid hK
            have HS := Lib.hid hHeld
            clear hK hHeld
            go_wp2_with fail
            obtain ⟨WA, hWA⟩ : ∃ WA, WA = (World.alloc V (.cells #[.int .i64 0, .int .i64 0, .string ⟨#[]⟩, .slice none 0 0] 24)).drew := ⟨_, rfl⟩
            rw [← hWA]
            have hza : WA.heap[V.heap.size]? = some (.cells #[.int .i64 0, .int .i64 0, .string ⟨#[]⟩, .slice none 0 0] 24 (0, 0)) := by rw [hWA]; exact heap_alloc_new V _
            have hba : Below V.heap.size V WA := by rw [hWA]; exact below_drewN (box_below _ _) 1
            have HA := Lib.hid (And.intro hza (And.intro hba (show V.heap.size ≤ V.heap.size from Nat.le_refl _)))
            refine HK.out _ _ hba (fun hHeld => ?_)
            clear HK HS hza hba hWA
            refine wpAnyH_ready (rs := [4]) (by kernel_rfl) (by simp) ?_
            refine AllReadyH.cons (o := _) rfl (fun K hK => ?_) AllReadyH.nil
            rw [if_pos (by rfl)]
            simp only [List.getElem_toArray, List.getElem_cons_zero, List.getElem_cons_succ]
            have HK := Lib.hid hK
            have HS := Lib.hid hHeld
            clear hK hHeld
            go_wp2_with (go_at_call 21; refine (hAV.out _ HS.out).mono ?_; rintro e w4 ⟨⟨ya, yc, rfl⟩, hb4, hb4b⟩; have H4 := Lib.hid hb4; have H4b := Lib.hid (hb4b.block _ (lt_of_heap HA.out.1)); clear hb4 hb4b)
            refine HK.out _ _ H4.out (fun hHeld => ?_)
            clear HK HS
            refine wpAnyH_take (i := 5) (oi := _) (v := .tuple #[.agg #[.int .i64 uid, .int .i64 ukd, .string utx, .slice ya um yc], .bool true]) rfl (by kernel_rfl) (by kernel_rfl) (by kernel_rfl) (fun _ _ _ h => h) (Or.inl ⟨by rfl, ?_⟩) (by assumption) ?_
            · clear hHeld; intro X hSw; clear hSw; go_simp
            simp only [Act.put, List.getElem_toArray, List.getElem_cons_zero, List.getElem_cons_succ, List.setIfInBounds_toArray, List.set_cons_zero, List.set_cons_succ]
            refine wpAnyH_take (i := 6) (oi := _) (v := .agg #[.int .i64 uid, .int .i64 ukd, .string utx, .slice ya um yc]) rfl (by kernel_rfl) (by kernel_rfl) (by kernel_rfl) (fun _ _ _ h => h) (Or.inl ⟨by rfl, ?_⟩) (by assumption) ?_
            · clear hHeld; intro X hSw; clear hSw; go_simp
            simp only [Act.put, List.getElem_toArray, List.getElem_cons_zero, List.getElem_cons_succ, List.setIfInBounds_toArray, List.set_cons_zero, List.set_cons_succ]
            refine wpAnyH_take (i := 7) (oi := _) (v := .bool true) rfl (by kernel_rfl) (by kernel_rfl) (by kernel_rfl) (fun _ _ _ h => h) (Or.inl ⟨by rfl, ?_⟩) (by assumption) ?_
            · clear hHeld; intro X hSw; clear hSw; go_simp
            simp only [Act.put, List.getElem_toArray, List.getElem_cons_zero, List.getElem_cons_succ, List.setIfInBounds_toArray, List.set_cons_zero, List.set_cons_succ]
            refine wpAnyH_ready (rs := [9]) (by kernel_rfl) (by simp) ?_
            refine AllReadyH.cons (o := _) rfl (fun K hK => ?_) AllReadyH.nil
            rw [if_pos (by rfl)]
            simp only [List.getElem_toArray, List.getElem_cons_zero, List.getElem_cons_succ]
            have HK := Lib.hid hK
            have HS := Lib.hid hHeld
            clear hK hHeld
            have hz : w4.heap[V.heap.size]? = some (.cells #[.int .i64 0, .int .i64 0, .string ⟨#[]⟩, .slice none 0 0] 24 (0, 0)) := (H4b.out).trans HA.out.1
            have z0 : w4.cell? ⟨V.heap.size, 0, none⟩ = some (.int .i64 0) := by rw [cell_of_row _ _ 0 _ _ _ hz]; rfl
            have z1 : w4.cell? ⟨V.heap.size, 1, none⟩ = some (.int .i64 0) := by rw [cell_of_row _ _ 1 _ _ _ hz]; rfl
            have z2 : w4.cell? ⟨V.heap.size, 2, none⟩ = some (.string ⟨#[]⟩) := by rw [cell_of_row _ _ 2 _ _ _ hz]; rfl
            have z3 : w4.cell? ⟨V.heap.size, 3, none⟩ = some (.slice none 0 0) := by rw [cell_of_row _ _ 3 _ _ _ hz]; rfl
            have zf : ∀ j, w4.frozen? ⟨V.heap.size, j, none⟩ = false := fun j => frozen_of_row _ _ j _ _ hz
            obtain ⟨V5, e5, r1, r2, r3, r4, r5, r6⟩ := four_set (u0 := .int .i64 uid) (u1 := .int .i64 ukd) (u2 := .string utx) (u3 := .slice ya um yc) hz
            have hb5 : Below V.heap.size V V5 := ⟨r3.trans HS.out.os, r4.trans HS.out.tape, r5.trans HS.out.output, by rw [r6]; exact HS.out.size, fun y hy => (r2 y (by have := HA.out.2.2; omega)).trans (HS.out.block y hy)⟩
            have h5c : V5.cell? ⟨V.heap.size, 0, none⟩ = some (.int .i64 uid) := by rw [cell_of_row _ _ 0 _ _ _ r1]; rfl
            have H5 := Lib.hid (And.intro hb5 e5)
            clear hz r1 r2 r3 r4 r5 r6 hb5 e5
            go_wp2_with fail
            rw [← H5.out.2]
            refine HK.out _ _ H5.out.1 (fun hHeld => ?_)
            clear HK HS z0 z1 z2 z3 zf
            refine wpAnyH_take (i := 10) (oi := _) (v := .bool true) rfl (by kernel_rfl) (by kernel_rfl) (by kernel_rfl) (fun _ _ _ h => h) (Or.inl ⟨by rfl, ?_⟩) (by assumption) ?_
            · clear hHeld; intro X hSw; clear hSw; go_simp
            simp only [Act.put, List.getElem_toArray, List.getElem_cons_zero, List.getElem_cons_succ, List.setIfInBounds_toArray, List.set_cons_zero, List.set_cons_succ]
            refine wpAnyH_done (by kernel_rfl) ?_ _
            clear hHeld
            go_wp2_with fail
            go_ret2
            exact ⟨congrArg (fun z : Int × Bool => Ending.returned (.tuple #[.int .i64 z.1, .bool z.2])) HE2.out.1.symm, HE2.out.2.trans (H5.out.1.mono HE2.out.2.size)⟩
end Go.Proofs.Ytjppibomjnmjpaa
