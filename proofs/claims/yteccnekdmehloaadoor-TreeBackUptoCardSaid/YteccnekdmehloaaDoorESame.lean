/-
  Rows of lone nodes: two of them are the same just if the trees are. Plain laws, and what the comparison of two of them answers. No condition.
  Same: are two trees the same? No condition but that there are not too many nodes.
-/
import Derived.Test.YteccnekdmehloaaDoorERowL
import Derived.Test.YteccnekdmehloaaDoorRWalkN
import Derived.BigQuiet
namespace Go.Proofs.YteccnekdmehloaaDoor
open Go.RowKit Go.Shelf
set_option linter.unusedVariables false
set_option linter.unusedSimpArgs false

def sameL (x y : Sp) : Bool := decide (x.2.1.1 = y.2.1.1) && (decide (x.2.1.2.1 = y.2.1.2.1) && (decide (foLen x.2.2 = foLen y.2.2) && decide (x.2.1.2.2.toList = y.2.1.2.2.toList)))
def eqL : List Sp → List Sp → Bool
  | [], [] => true
  | x :: l, y :: m => sameL x y && eqL l m
  | _, _ => false
theorem eqL_forest : ∀ (f g : Fo) (d e : Nat) (p q : List Sp), foLen f = foLen g → eqL (spF d f ++ p) (spF e g ++ q) = (sameF f g && eqL p q)
  | .nil, .nil, _, _, _, _, _ => by simp [spF, sameF]
  | .nil, .node _ _ _ _ _, _, _, _, _, h => by simp [foLen] at h
  | .node _ _ _ _ _, .nil, _, _, _, _, h => by simp [foLen] at h
  | .node _ _ k l r, .node _ _ k' l' r', d, e, p, q, h => by
    have hr : foLen r = foLen r' := by simpa [foLen] using h
    simp only [spF, List.cons_append, List.append_assoc, eqL, sameF]
    by_cases hl : foLen l = foLen l'
    · rw [eqL_forest l l' (d + 1) (e + 1) _ _ hl, eqL_forest r r' d e p q hr]
      simp only [sameL, sameK, hl, decide_true, Bool.true_and]
      by_cases h1 : k.1 = k'.1 <;> by_cases h2 : k.2.1 = k'.2.1 <;> by_cases h3 : k.2.2.toList = k'.2.2.toList <;> simp [h1, h2, h3, Bool.and_assoc]
    · simp [sameL, hl]
theorem eqL_tree (a b : Tr) : eqL (spF 1 (rootF a)) (spF 1 (rootF b)) = sameT a b := by
  have := eqL_forest (rootF a) (rootF b) 1 1 [] [] (by simp [rootF, foLen])
  rw [List.append_nil, List.append_nil] at this
  rw [this]
  simp [eqL, rootF, sameF, sameT]
theorem eqL_length : ∀ (l m : List Sp), eqL l m = true → l.length = m.length
  | [], [], _ => rfl
  | x :: l, y :: m, h => by simp only [eqL, Bool.and_eq_true] at h; simp [eqL_length l m h.2]
  | [], _ :: _, h => by simp [eqL] at h
  | _ :: _, [], h => by simp [eqL] at h
theorem eqL_drop : ∀ (k : Nat) (l m : List Sp) (x y : Sp), l[k]? = some x → m[k]? = some y → eqL (l.drop k) (m.drop k) = (sameL x y && eqL (l.drop (k + 1)) (m.drop (k + 1)))
  | 0, x :: l, y :: m, _, _, h1, h2 => by simp at h1 h2; subst h1; subst h2; simp [eqL]
  | k + 1, x :: l, y :: m, a, b, h1, h2 => by simpa using eqL_drop k l m a b (by simpa using h1) (by simpa using h2)
  | _, [], _, _, _, h1, _ => by simp at h1
  | _, _ :: _, [], _, _, _, h2 => by simp at h2
theorem lone_cells : ∀ (l : List Sp) (k : Nat) (x : Sp), l[k]? = some x → (l.flatMap loneC)[k * 4]? = some (.int .i64 x.2.1.1) ∧ (l.flatMap loneC)[k * 4 + 1]? = some (.int .i64 x.2.1.2.1) ∧ (l.flatMap loneC)[k * 4 + 2]? = some (.int .i64 (foLen x.2.2 : Int)) ∧ (l.flatMap loneC)[k * 4 + 3]? = some (.string x.2.1.2.2)
  | x :: l, 0, _, h => by simp at h; subst h; simp [loneC]
  | y :: l, k + 1, x, h => by
    have := lone_cells l k x (by simpa using h)
    have e : ∀ j, ((y :: l).flatMap loneC)[(k + 1) * 4 + j]? = (l.flatMap loneC)[k * 4 + j]? := fun j => by
      rw [List.flatMap_cons, show (k + 1) * 4 + j = k * 4 + j + 4 by omega]
      simp [loneC]
    exact ⟨(e 0).trans this.1, (e 1).trans this.2.1, (e 2).trans this.2.2.1, (e 3).trans this.2.2.2⟩
  | [], _, _, h => by simp at h
end Go.Proofs.YteccnekdmehloaaDoor
namespace Go.Proofs.YteccnekdmehloaaDoor
open Go.RowKit Go.Shelf
set_option linter.unusedVariables false
set_option linter.unusedSimpArgs false

def EqLR (w : World) (l m : List Sp) (i : Value) (wr : World) : Prop := ∃ k : Nat, k ≤ l.length ∧ i = .int .i64 (k : Int) ∧ Hid (Below w.heap.size w wr) ∧ Hid (eqL l m = eqL (l.drop k) (m.drop k))
theorem loneRow_cell {w : World} {B : Nat} {a : Option Addr} {c n : Nat} {l : List Sp} (h : w.ownsRow B 61 4 (.slice a n c) n (l.flatMap loneC)) (hn : 0 < n) {k : Nat} {x : Sp} (hx : l[k]? = some x) : ∃ g, a = some ⟨g, 0, none⟩ ∧ g < w.heap.size ∧ w.cell? ⟨g, k * 4, none⟩ = some (.int .i64 x.2.1.1) ∧ w.cell? ⟨g, k * 4 + 1, none⟩ = some (.int .i64 x.2.1.2.1) ∧ w.cell? ⟨g, k * 4 + 2, none⟩ = some (.int .i64 (foLen x.2.2 : Int)) ∧ w.cell? ⟨g, k * 4 + 3, none⟩ = some (.string x.2.1.2.2) := by
  have hgg : ∃ g, a = some ⟨g, 0, none⟩ := by
    rcases h.2 with ⟨_, h0⟩ | ⟨g, cap2, cur, hv, _⟩
    · omega
    · cases hv; exact ⟨g, rfl⟩
  obtain ⟨g, rfl⟩ := hgg
  obtain ⟨l0, l1, l2, l3⟩ := lone_cells l k x hx
  exact ⟨g, rfl, (owns_bounds h rfl).2, owns_cell h rfl _ _ l0, owns_cell h rfl _ _ l1, owns_cell h rfl _ _ l2, owns_cell h rfl _ _ l3⟩
theorem eqL_end : ∀ (l m : List Sp) (k : Nat), l.length = m.length → l.length ≤ k → eqL (l.drop k) (m.drop k) = true := fun l m k h hk => by
  rw [List.drop_of_length_le hk, List.drop_of_length_le (by omega)]; rfl
set_option maxRecDepth 100000 in
set_option maxHeartbeats 1000000 in
theorem equal_lones (w : World) (B1 B2 : Nat) (v1 v2 : Value) (l m : List Sp) (h1 : w.ownsRow B1 61 4 v1 l.length (l.flatMap loneC)) (h2 : w.ownsRow B2 61 4 v2 m.length (m.flatMap loneC)) (hl : l.length ≤ 1000000) (hm : m.length ≤ 1000000) :
    Calls Tryd.prog 30 #[v1, v2] w fun e w' => e = .returned (.bool (eqL l m)) ∧ Below w.heap.size w w' := by
  obtain ⟨a1, c1, rfl⟩ := owns_slice h1
  obtain ⟨a2, c2, rfl⟩ := owns_slice h2
  by_cases hd : l.length = m.length
  · obtain ⟨n, hn⟩ : ∃ n, n = l.length := ⟨_, rfl⟩
    have hn2 : n = m.length := by omega
    rw [← hn2] at h2 ⊢
    rw [← hn] at h1 ⊢
    have HK := Lib.hid (And.intro h1 h2)
    have HN := Lib.hid (And.intro hn hn2)
    have hn6 : n ≤ 1000000 := by omega
    clear h1 h2 hd hn hn2 hl hm
    go_enter Tryd.func30, Tryd.ntmps30
    go_wp2_with fail
    go_loopw [5, 13] (fun _ i wr => EqLR w l m i wr) (fun _ i _ => n - (intOf i).toNat)
    case atStart => exact ⟨0, Nat.zero_le _, rfl, Lib.hid (Below.refl _ _), Lib.hid rfl⟩
    case round =>
      obtain ⟨k, hkl, rfl, HB, HA⟩ := hrel
      rw [← HN.out.1] at hkl
      by_cases hlt : k < n
      · obtain ⟨x, hx⟩ : ∃ x, l[k]? = some x := ⟨l[k]'(by rw [← HN.out.1]; exact hlt), List.getElem?_eq_getElem _⟩
        obtain ⟨y, hy⟩ : ∃ y, m[k]? = some y := ⟨m[k]'(by rw [← HN.out.2]; exact hlt), List.getElem?_eq_getElem _⟩
        obtain ⟨g1, rfl, hg1, x0e, x1e, x2e, x3e⟩ := loneRow_cell HK.out.1 (by omega) hx
        obtain ⟨g2, rfl, hg2, y0e, y1e, y2e, y3e⟩ := loneRow_cell HK.out.2 (by omega) hy
        have hdr := eqL_drop k l m x y hx hy
        obtain ⟨bb, hbb⟩ : ∃ bb, bb = sameL x y := ⟨_, rfl⟩
        rw [← hbb] at hdr
        have HDR := Lib.hid hdr
        obtain ⟨x0, hx0⟩ : ∃ z, z = x.2.1.1 := ⟨_, rfl⟩
        obtain ⟨x1, hx1⟩ : ∃ z, z = x.2.1.2.1 := ⟨_, rfl⟩
        obtain ⟨x2, hx2⟩ : ∃ z : Int, z = (foLen x.2.2 : Int) := ⟨_, rfl⟩
        obtain ⟨x3, hx3⟩ : ∃ z, z = x.2.1.2.2 := ⟨_, rfl⟩
        obtain ⟨y0, hy0⟩ : ∃ z, z = y.2.1.1 := ⟨_, rfl⟩
        obtain ⟨y1, hy1⟩ : ∃ z, z = y.2.1.2.1 := ⟨_, rfl⟩
        obtain ⟨y2, hy2⟩ : ∃ z : Int, z = (foLen y.2.2 : Int) := ⟨_, rfl⟩
        obtain ⟨y3, hy3⟩ : ∃ z, z = y.2.1.2.2 := ⟨_, rfl⟩
        rw [← hx0] at x0e
        rw [← hx1] at x1e
        rw [← hx2] at x2e
        rw [← hx3] at x3e
        rw [← hy0] at y0e
        rw [← hy1] at y1e
        rw [← hy2] at y2e
        rw [← hy3] at y3e
        have HBB : Hid ((decide (x0 = y0) && (decide (x1 = y1) && (decide (x2 = y2) && decide (x3.toList = y3.toList)))) = bb) := Lib.hid (by
          rw [hbb, sameL, hx0, hx1, hx2, hx3, hy0, hy1, hy2, hy3]
          congr 3
          by_cases hf : foLen x.2.2 = foLen y.2.2
          · simp [hf]
          · rw [decide_eq_false hf, decide_eq_false (by omega)])
        have HCL := Lib.hid (fun (X : World) (hX : Below wr.heap.size wr X) => (show X.cell? ⟨g1, k * 4, none⟩ = some (.int .i64 x0) ∧ X.cell? ⟨g1, k * 4 + 1, none⟩ = some (.int .i64 x1) ∧ X.cell? ⟨g1, k * 4 + 2, none⟩ = some (.int .i64 x2) ∧ X.cell? ⟨g1, k * 4 + 3, none⟩ = some (.string x3) ∧ X.cell? ⟨g2, k * 4, none⟩ = some (.int .i64 y0) ∧ X.cell? ⟨g2, k * 4 + 1, none⟩ = some (.int .i64 y1) ∧ X.cell? ⟨g2, k * 4 + 2, none⟩ = some (.int .i64 y2) ∧ X.cell? ⟨g2, k * 4 + 3, none⟩ = some (.string y3) from by
          have hb := HB.out
          have hs := hb.size
          have e1 : X.heap[g1]? = w.heap[g1]? := (hX.block _ (by omega)).trans (hb.block _ hg1)
          have e2 : X.heap[g2]? = w.heap[g2]? := (hX.block _ (by omega)).trans (hb.block _ hg2)
          exact ⟨(World.cell?_of_block (a := ⟨g1, k * 4, none⟩) e1).trans x0e, (World.cell?_of_block (a := ⟨g1, k * 4 + 1, none⟩) e1).trans x1e, (World.cell?_of_block (a := ⟨g1, k * 4 + 2, none⟩) e1).trans x2e, (World.cell?_of_block (a := ⟨g1, k * 4 + 3, none⟩) e1).trans x3e, (World.cell?_of_block (a := ⟨g2, k * 4, none⟩) e2).trans y0e, (World.cell?_of_block (a := ⟨g2, k * 4 + 1, none⟩) e2).trans y1e, (World.cell?_of_block (a := ⟨g2, k * 4 + 2, none⟩) e2).trans y2e, (World.cell?_of_block (a := ⟨g2, k * 4 + 3, none⟩) e2).trans y3e⟩))
        have hkl2 : (k : Int) < (n : Int) := by omega
        have HLT := Lib.hid hlt
        clear hx hy x0e x1e x2e x3e y0e y1e y2e y3e hdr hbb hx0 hx1 hx2 hx3 hy0 hy1 hy2 hy3 hlt hkl hg1 hg2
        go_wp2_with fail
        refine wp_region_quiet (C := fun X => Below wr.heap.size wr X) (by kernel_rfl) (by kernel_rfl) (show Below wr.heap.size wr wr.drew from ⟨rfl, rfl, rfl, Nat.le_refl _, fun _ _ => rfl⟩) ?_
        refine wpQuiet_step (fun K hK => ?_)
        rw [if_pos (by rfl)]
        refine ⟨.slice (some ⟨g1, 0, none⟩) n c1, fun X hX => ?_, hK _ ?_⟩
        · clear hK; go_simp
        clear hK K
        simp only [Act.put, List.setIfInBounds_toArray, List.set_cons_zero, List.set_cons_succ]
        refine wpQuiet_step (fun K hK => ?_)
        rw [if_pos (by rfl)]
        refine ⟨.int .i64 (k : Int), fun X hX => ?_, hK _ ?_⟩
        · clear hK; go_simp
        clear hK K
        simp only [Act.put, List.setIfInBounds_toArray, List.set_cons_zero, List.set_cons_succ]
        refine wpQuiet_step (fun K hK => ?_)
        rw [if_pos (by rfl)]
        refine ⟨.pointer (some ⟨g1, k * 4, none⟩), fun X hX => ?_, hK _ ?_⟩
        · clear hK; go_simp
        clear hK K
        simp only [Act.put, List.setIfInBounds_toArray, List.set_cons_zero, List.set_cons_succ]
        refine wpQuiet_step (fun K hK => ?_)
        rw [if_pos (by rfl)]
        refine ⟨.agg #[.int .i64 x0, .int .i64 x1, .int .i64 x2, .string x3], fun X hX => ?_, hK _ ?_⟩
        · clear hK; obtain ⟨s0, s1, s2, s3, s4, s5, s6, s7⟩ := HCL.out X hX; go_simp
        clear hK K
        simp only [Act.put, List.setIfInBounds_toArray, List.set_cons_zero, List.set_cons_succ]
        refine wpQuiet_step (fun K hK => ?_)
        rw [if_pos (by rfl)]
        refine ⟨.slice (some ⟨g2, 0, none⟩) n c2, fun X hX => ?_, hK _ ?_⟩
        · clear hK; go_simp
        clear hK K
        simp only [Act.put, List.setIfInBounds_toArray, List.set_cons_zero, List.set_cons_succ]
        refine wpQuiet_step (fun K hK => ?_)
        rw [if_pos (by rfl)]
        refine ⟨.int .i64 (k : Int), fun X hX => ?_, hK _ ?_⟩
        · clear hK; go_simp
        clear hK K
        simp only [Act.put, List.setIfInBounds_toArray, List.set_cons_zero, List.set_cons_succ]
        refine wpQuiet_step (fun K hK => ?_)
        rw [if_pos (by rfl)]
        refine ⟨.pointer (some ⟨g2, k * 4, none⟩), fun X hX => ?_, hK _ ?_⟩
        · clear hK; go_simp
        clear hK K
        simp only [Act.put, List.setIfInBounds_toArray, List.set_cons_zero, List.set_cons_succ]
        refine wpQuiet_step (fun K hK => ?_)
        rw [if_pos (by rfl)]
        refine ⟨.agg #[.int .i64 y0, .int .i64 y1, .int .i64 y2, .string y3], fun X hX => ?_, hK _ ?_⟩
        · clear hK; obtain ⟨s0, s1, s2, s3, s4, s5, s6, s7⟩ := HCL.out X hX; go_simp
        clear hK K
        simp only [Act.put, List.setIfInBounds_toArray, List.set_cons_zero, List.set_cons_succ]
        refine wpQuiet_step (fun K hK => ?_)
        rw [if_pos (by rfl)]
        refine ⟨.bool (!bb), fun X hX => ?_, hK _ ?_⟩
        · clear hK; go_simp; rw [← HBB.out]; clear HBB HDR HCL; by_cases h1 : x0 = y0 <;> by_cases h2 : x1 = y1 <;> by_cases h3 : x2 = y2 <;> by_cases h4 : x3.toList = y3.toList <;> simp [h1, h2, h3, h4]
        clear hK K
        simp only [Act.put, List.setIfInBounds_toArray, List.set_cons_zero, List.set_cons_succ]
        refine wpQuiet_nil ?_
        intro X hX
        have HX := Lib.hid (HB.out.trans (hX.mono HB.out.size))
        clear hX HCL
        cases bb
        · go_wp2_with fail
          go_ret
          exact ⟨by rw [HA.out, HDR.out]; rfl, HX.out⟩
        · go_wp2_with fail
          exact ⟨⟨k + 1, by have := HLT.out; have := HN.out.1; omega, by go_num, HX, Lib.hid (by rw [HA.out, HDR.out]; rfl)⟩, by have := HLT.out; simp [intOf]; omega⟩
      · have HE := Lib.hid (show eqL l m = true by rw [HA.out]; exact eqL_end l m k (by rw [← HN.out.1]; exact HN.out.2) (by rw [← HN.out.1]; omega))
        have hkl2 : ¬ (k : Int) < (n : Int) := by omega
        clear hkl hlt
        go_wp2_with fail
        go_ret
        exact ⟨by rw [HE.out]; rfl, HB.out⟩
  · have HE := Lib.hid (show eqL l m = false by
      cases h : eqL l m with
      | false => rfl
      | true => exact absurd (eqL_length l m h) hd)
    have hd' : ¬ (l.length : Int) = (m.length : Int) := by omega
    clear h1 h2
    go_enter Tryd.func30, Tryd.ntmps30
    go_wp2_with fail
    go_ret
    exact ⟨by rw [HE.out]; rfl, Below.refl _ _⟩
end Go.Proofs.YteccnekdmehloaaDoor
