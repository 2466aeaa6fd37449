/-
  Within and Common: whether a node is in another one's subtree, and the lowest node that has two. No condition but that there are not too many nodes.
-/
import Derived.Test.YtjppibomjnmjpaaHParent
namespace Go.Proofs.Ytjppibomjnmjpaa
open Go.RowKit Go.Shelf
set_option linter.unusedVariables false
set_option linter.unusedSimpArgs false

theorem lcp_cons (p q : List Nat) : lcp (0 :: p) (0 :: q) = lcp p q + 1 := by simp [lcp]
theorem lcp_nil (l : List Nat) : lcp ([] : List Nat) l = 0 := by simp [lcp]
theorem lcp_nil' (l : List Nat) : lcp l ([] : List Nat) = 0 := by cases l <;> simp [lcp]
theorem places_nil : places [] = [] := rfl
set_option maxRecDepth 100000 in
set_option maxHeartbeats 2000000 in
theorem within_any (w : World) (S : Nat → Prop) (nv : Value) (t : Tr) (a b : Int) (hS : ∀ x, S x → x < w.heap.size) (ht : TrAt w S nv t) (hsz : foSize t.kids ≤ 400000) : Calls Try.prog 16 #[nv, .int .i64 a, .int .i64 b] w fun e w' => e = .returned (.bool (withinT a b t)) ∧ Below w.heap.size w w' := by
  obtain ⟨ka, tc, rfl, hcap, hk⟩ := ht
  obtain ⟨B, hB⟩ : ∃ B, B = w.alloc (.cells #[.int .i64 t.id, .int .i64 t.kind, .string t.text, .slice ka (foLen t.kids) tc] 24) := ⟨_, rfl⟩
  have hb := box_below w (.cells #[.int .i64 t.id, .int .i64 t.kind, .string t.text, .slice ka (foLen t.kids) tc] 24)
  have hbx := heap_alloc_new w (.cells #[.int .i64 t.id, .int .i64 t.kind, .string t.text, .slice ka (foLen t.kids) tc] 24)
  rw [← hB] at hb hbx
  have hway := fun (i : Int) (X : World) (hX : Below B.heap.size B X) => way_any X S (.agg #[.int .i64 t.id, .int .i64 t.kind, .string t.text, .slice ka (foLen t.kids) tc]) t i (fun x hx => Nat.lt_of_lt_of_le (hS x hx) (Nat.le_trans hb.size hX.size)) ⟨ka, tc, rfl, hcap, hk.below (hb.trans (hX.mono hb.size)) hS⟩ hsz
  obtain ⟨n, hn⟩ : ∃ n, n = foLen t.kids := ⟨_, rfl⟩
  rw [← hn] at hB hbx
  simp only [← hn] at hway
  have HC := Lib.hid (And.intro hway (And.intro hb (And.intro hB hbx)))
  rw [← hn]
  obtain ⟨pr, hpr⟩ : ∃ pr, pr = withinT a b t := ⟨_, rfl⟩
  have HP := Lib.hid hpr
  have hpe : (.bool (withinT a b t) : Value) = (.bool (pr)) := by rw [hpr]
  rw [hpe]
  clear hway hb hk hcap hS hn hpr hpe hB hbx
  go_enter Try.func16, Try.ntmps16
  go_wp2_with fail
  rw [← HC.out.2.2.1]
  refine (HC.out.1 a B (Below.refl _ _)).mono ?_
  rintro e W ⟨rv, L, rfl, hw, hb, _⟩
  have hbxW := (hb.block _ (lt_of_heap HC.out.2.2.2)).trans HC.out.2.2.2
  have n0 : W.cell? ⟨w.heap.size, 0, none⟩ = some (.int .i64 t.id) := by rw [cell_of_row _ _ 0 _ _ _ hbxW]; rfl
  have n1 : W.cell? ⟨w.heap.size, 1, none⟩ = some (.int .i64 t.kind) := by rw [cell_of_row _ _ 1 _ _ _ hbxW]; rfl
  have n2 : W.cell? ⟨w.heap.size, 2, none⟩ = some (.string t.text) := by rw [cell_of_row _ _ 2 _ _ _ hbxW]; rfl
  have n3 : W.cell? ⟨w.heap.size, 3, none⟩ = some (.slice ka n tc) := by rw [cell_of_row _ _ 3 _ _ _ hbxW]; rfl
  have HW := Lib.hid (And.intro hw hb)
  clear hw hb hbxW
  go_wp2_with fail
  refine (HC.out.1 b W HW.out.2).mono ?_
  rintro e W2 ⟨rv2, L2, rfl, hw2, hb2, _⟩
  have hw := HW.out.1.kept hb2
  have hb9 : Below w.heap.size w W2 := (HC.out.2.1.trans (HW.out.2.mono HC.out.2.1.size)).trans (hb2.mono (Nat.le_trans HC.out.2.1.size HW.out.2.size))
  have hsh := shared_any W2 rv rv2 L L2 hw.rows hw2.rows (by have := hw.few; omega) (by have := hw2.few; omega)
  rw [lcp_places L L2 hw.ok hw2.ok] at hsh
  have H2 := Lib.hid (And.intro hw (And.intro hw2 hb9))
  have HSH := Lib.hid hsh
  clear hw hw2 hb2 hb9 hsh n0 n1 n2 n3
  go_wp2_with fail
  refine HSH.out.mono ?_
  rintro e W3 ⟨rfl, hb3⟩
  have hw3 := H2.out.1.kept hb3
  have hbz : Below w.heap.size w W3 := H2.out.2.2.trans (hb3.mono H2.out.2.2.size)
  obtain ⟨ra, rc, rfl⟩ := owns_slice hw3.rows
  obtain ⟨m, hm⟩ : ∃ m, m = lcp (places L) (places L2) := ⟨_, rfl⟩
  obtain ⟨len, hlen⟩ : ∃ len, len = L.length := ⟨_, rfl⟩
  have hml := lcp_le (places L) (places L2)
  rw [places_length, places_length, ← hm, ← hlen] at hml
  have hfew := hw3.few
  rw [← hlen] at hfew
  have hres : pr = (decide (0 < m) && decide (m = len)) := by
    rw [HP.out, withinT]
    rcases H2.out.1.path with ⟨h1, h2⟩ | ⟨p, h2, h3, h4⟩
    · rw [h2, hm, h1, places_nil, lcp_nil]; rfl
    · rw [h2]
      rcases H2.out.2.1.path with ⟨g1, g2⟩ | ⟨q, g2, g3, g4⟩
      · rw [g2, hm, g1, places_nil, lcp_nil']; simp
      · rw [g2, hm, h3, g3, lcp_cons, hlen, h4]
        simp only []
        rw [show decide (0 < lcp p q + 1) = true by simp, Bool.true_and]
        rw [decide_eq_decide]; omega
  have HE := Lib.hid (And.intro hres hbz)
  rw [← hm]
  rw [← hlen]
  clear hw3 hbz hb3 hres hm hlen hfew HSH HW HC
  by_cases h0 : 0 < m
  · have h0i : (0 : Int) < (m : Int) := by omega
    by_cases hq : m = len
    · have hqi : ((m : Int) == (len : Int)) = true := by simp; omega
      have HQ := Lib.hid (And.intro h0 hq)
      clear hq h0
      go_wp2_with fail
      go_ret
      exact ⟨congrArg (fun z => Ending.returned (.bool z)) (by rw [HE.out.1]; simp [HQ.out.1, HQ.out.2] <;> (have := HQ.out.1; have := HQ.out.2; omega)), HE.out.2⟩
    · have hqi : ((m : Int) == (len : Int)) = false := by simp; omega
      have HQ := Lib.hid (And.intro h0 hq)
      clear hq h0
      go_wp2_with fail
      go_ret
      exact ⟨congrArg (fun z => Ending.returned (.bool z)) (by rw [HE.out.1]; simp [HQ.out.2]), HE.out.2⟩
  · have h0i : ¬ (0 : Int) < (m : Int) := by omega
    have HQ := Lib.hid h0
    clear h0
    go_wp2_with fail
    go_ret
    exact ⟨congrArg (fun z => Ending.returned (.bool z)) (by rw [HE.out.1]; simp [HQ.out]), HE.out.2⟩
set_option maxRecDepth 100000 in
set_option maxHeartbeats 2000000 in
theorem common_any (w : World) (S : Nat → Prop) (nv : Value) (t : Tr) (a b : Int) (hS : ∀ x, S x → x < w.heap.size) (ht : TrAt w S nv t) (hsz : foSize t.kids ≤ 400000) : Calls Try.prog 22 #[nv, .int .i64 a, .int .i64 b] w fun e w' => e = .returned (.tuple #[.int .i64 (commonT a b t).1, .bool (commonT a b t).2]) ∧ Below w.heap.size w w' := by
  obtain ⟨ka, tc, rfl, hcap, hk⟩ := ht
  obtain ⟨B, hB⟩ : ∃ B, B = w.alloc (.cells #[.int .i64 t.id, .int .i64 t.kind, .string t.text, .slice ka (foLen t.kids) tc] 24) := ⟨_, rfl⟩
  have hb := box_below w (.cells #[.int .i64 t.id, .int .i64 t.kind, .string t.text, .slice ka (foLen t.kids) tc] 24)
  have hbx := heap_alloc_new w (.cells #[.int .i64 t.id, .int .i64 t.kind, .string t.text, .slice ka (foLen t.kids) tc] 24)
  rw [← hB] at hb hbx
  have hway := fun (i : Int) (X : World) (hX : Below B.heap.size B X) => way_any X S (.agg #[.int .i64 t.id, .int .i64 t.kind, .string t.text, .slice ka (foLen t.kids) tc]) t i (fun x hx => Nat.lt_of_lt_of_le (hS x hx) (Nat.le_trans hb.size hX.size)) ⟨ka, tc, rfl, hcap, hk.below (hb.trans (hX.mono hb.size)) hS⟩ hsz
  obtain ⟨n, hn⟩ : ∃ n, n = foLen t.kids := ⟨_, rfl⟩
  rw [← hn] at hB hbx
  simp only [← hn] at hway
  have HC := Lib.hid (And.intro hway (And.intro hb (And.intro hB hbx)))
  rw [← hn]
  obtain ⟨pr, hpr⟩ : ∃ pr, pr = commonT a b t := ⟨_, rfl⟩
  have HP := Lib.hid hpr
  have hpe : (.tuple #[.int .i64 (commonT a b t).1, .bool (commonT a b t).2] : Value) = (.tuple #[.int .i64 (pr).1, .bool (pr).2]) := by rw [hpr]
  rw [hpe]
  clear hway hb hk hcap hS hn hpr hpe hB hbx
  go_enter Try.func22, Try.ntmps22
  go_wp2_with fail
  rw [← HC.out.2.2.1]
  refine (HC.out.1 a B (Below.refl _ _)).mono ?_
  rintro e W ⟨rv, L, rfl, hw, hb, _⟩
  have hbxW := (hb.block _ (lt_of_heap HC.out.2.2.2)).trans HC.out.2.2.2
  have n0 : W.cell? ⟨w.heap.size, 0, none⟩ = some (.int .i64 t.id) := by rw [cell_of_row _ _ 0 _ _ _ hbxW]; rfl
  have n1 : W.cell? ⟨w.heap.size, 1, none⟩ = some (.int .i64 t.kind) := by rw [cell_of_row _ _ 1 _ _ _ hbxW]; rfl
  have n2 : W.cell? ⟨w.heap.size, 2, none⟩ = some (.string t.text) := by rw [cell_of_row _ _ 2 _ _ _ hbxW]; rfl
  have n3 : W.cell? ⟨w.heap.size, 3, none⟩ = some (.slice ka n tc) := by rw [cell_of_row _ _ 3 _ _ _ hbxW]; rfl
  have HW := Lib.hid (And.intro hw hb)
  clear hw hb hbxW
  go_wp2_with fail
  refine (HC.out.1 b W HW.out.2).mono ?_
  rintro e W2 ⟨rv2, L2, rfl, hw2, hb2, _⟩
  have hw := HW.out.1.kept hb2
  have hb9 : Below w.heap.size w W2 := (HC.out.2.1.trans (HW.out.2.mono HC.out.2.1.size)).trans (hb2.mono (Nat.le_trans HC.out.2.1.size HW.out.2.size))
  have hsh := shared_any W2 rv rv2 L L2 hw.rows hw2.rows (by have := hw.few; omega) (by have := hw2.few; omega)
  rw [lcp_places L L2 hw.ok hw2.ok] at hsh
  have H2 := Lib.hid (And.intro hw (And.intro hw2 hb9))
  have HSH := Lib.hid hsh
  clear hw hw2 hb2 hb9 hsh n0 n1 n2 n3
  go_wp2_with fail
  refine HSH.out.mono ?_
  rintro e W3 ⟨rfl, hb3⟩
  have hw3 := H2.out.1.kept hb3
  have hbz : Below w.heap.size w W3 := H2.out.2.2.trans (hb3.mono H2.out.2.2.size)
  obtain ⟨ra, rc, rfl⟩ := owns_slice hw3.rows
  obtain ⟨m, hm⟩ : ∃ m, m = lcp (places L) (places L2) := ⟨_, rfl⟩
  obtain ⟨len, hlen⟩ : ∃ len, len = L.length := ⟨_, rfl⟩
  have hml := lcp_le (places L) (places L2)
  rw [places_length, places_length, ← hm, ← hlen] at hml
  have hfew := hw3.few
  rw [← hlen] at hfew
  by_cases h0 : m = 0
  · have hres : pr = (0, false) := by
      rw [HP.out, commonT]
      rcases H2.out.1.path with ⟨h1, h2⟩ | ⟨p, h2, h3, h4⟩
      · rw [h2]
      · rw [h2]
        rcases H2.out.2.1.path with ⟨g1, g2⟩ | ⟨q, g2, g3, g4⟩
        · rw [g2]
        · rw [h3, g3, lcp_cons] at hm; omega
    have HE := Lib.hid (And.intro hres hbz)
    rw [← hm, h0]
    clear hw3 hbz hb3 hres hm hlen hfew HSH HW HC
    simp only [Int.natCast_zero]
    go_wp2_with fail
    go_ret2
    exact ⟨congrArg (fun z : Int × Bool => Ending.returned (.tuple #[.int .i64 z.1, .bool z.2])) HE.out.1.symm, HE.out.2⟩
  · obtain ⟨j, hj⟩ : ∃ j, m = j + 1 := ⟨m - 1, by omega⟩
    obtain ⟨g, n2, cap, b0, off, q0, c, pl, u, e1, rfl, hnc, c0, c1, hplq, hq, d0, hpk, hat⟩ := hw3.at (k := j) (by omega)
    cases e1
    have hres : pr = (u.id, true) := by
      rw [HP.out, commonT]
      rcases H2.out.1.path with ⟨h1, h2⟩ | ⟨p, h2, h3, h4⟩
      · rw [hm, h1, places_nil, lcp_nil] at h0; exact absurd rfl h0
      · rw [h2]
        rcases H2.out.2.1.path with ⟨g1, g2⟩ | ⟨q, g2, g3, g4⟩
        · rw [hm, g1, places_nil, lcp_nil'] at h0; exact absurd rfl h0
        · rw [g2]
          rw [h3, g3, lcp_cons] at hm
          rw [h3] at hat
          simp only [List.drop_succ_cons, List.drop_zero] at hat
          have : lcp p q = j := by omega
          simp only [this, idAt, hat]; rfl
    obtain ⟨uid, huid⟩ : ∃ uid, uid = u.id := ⟨_, rfl⟩
    rw [← huid] at d0 hres
    have hnode := node_any W3 b0 off q0 c pl hplq (by omega)
    have HN := Lib.hid hnode
    have HE := Lib.hid (And.intro hres hbz)
    rw [← hm, hj]
    rw [← hlen]
    rw [← hlen] at hnc
    have hjl : (j : Int) < (len : Int) := by omega
    have hjb : j ≤ 1000000 := by omega
    have hj0 : (0 : Int) ≤ (j : Int) := by omega
    have hjw : IntKind.i64.wrap (j : Int) = (j : Int) := IntWalk.i64_in _ (by omega)
    have hjz : ((j : Int) + 1 == 0) = false := by simp; omega
    have hdl := World.block_lt_of_cell? _ _ d0
    clear hw3 hbz hb3 hres hm hlen hfew HSH HW HC hnode hat hpk hplq hq huid h0 hml hnc
    go_wp2_with (go_at_call 32; refine HN.out.mono ?_; rintro e W4 ⟨rfl, hb4⟩; have d9 := (hb4.cell (p := ⟨b0, off + pl * 4, none⟩) hdl).trans d0; have H4 := Lib.hid hb4; clear hb4)
    go_ret2
    exact ⟨congrArg (fun z : Int × Bool => Ending.returned (.tuple #[.int .i64 z.1, .bool z.2])) HE.out.1.symm, HE.out.2.trans (H4.out.mono HE.out.2.size)⟩
end Go.Proofs.Ytjppibomjnmjpaa
