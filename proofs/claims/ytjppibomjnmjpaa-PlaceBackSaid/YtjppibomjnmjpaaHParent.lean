/-
  Parent: a node's parent, and its place there. No condition but that there are not too many nodes.
-/
import Derived.Test.YtjppibomjnmjpaaHAt
namespace Go.Proofs.Ytjppibomjnmjpaa
open Go.RowKit Go.Shelf
set_option linter.unusedVariables false
set_option linter.unusedSimpArgs false

theorem box_below (w : World) (o : Obj) : Below w.heap.size w (w.alloc o) := (Below.refl _ _).alloc (Nat.le_refl _) _
set_option maxRecDepth 100000 in
set_option maxHeartbeats 2000000 in
theorem parent_any (w : World) (S : Nat → Prop) (nv : Value) (t : Tr) (id : Int) (hS : ∀ x, S x → x < w.heap.size) (ht : TrAt w S nv t) (hsz : foSize t.kids ≤ 400000) : Calls Try.prog 10 #[nv, .int .i64 id] w fun e w' => e = .returned (.tuple #[.int .i64 (parentT id t).1, .int .i64 (parentT id t).2.1, .bool (parentT id t).2.2]) ∧ Below w.heap.size w w' := by
  obtain ⟨ka, tc, rfl, hcap, hk⟩ := ht
  have hb := box_below w (.cells #[.int .i64 t.id, .int .i64 t.kind, .string t.text, .slice ka (foLen t.kids) tc] 24)
  have hway := way_any (w.alloc (.cells #[.int .i64 t.id, .int .i64 t.kind, .string t.text, .slice ka (foLen t.kids) tc] 24)) S _ t id (fun x hx => Nat.lt_of_lt_of_le (hS x hx) hb.size) ⟨ka, tc, rfl, hcap, hk.below hb hS⟩ hsz
  have HC := Lib.hid (And.intro hway hb)
  obtain ⟨n, hn⟩ : ∃ n, n = foLen t.kids := ⟨_, rfl⟩
  rw [← hn] at HC ⊢
  obtain ⟨pr, hpr⟩ : ∃ pr, pr = parentT id t := ⟨_, rfl⟩
  rw [← hpr]
  have HP := Lib.hid hpr
  clear hway hb hk hcap hS hn hpr
  go_enter Try.func10, Try.ntmps10
  go_wp2_with fail
  refine HC.out.1.mono ?_
  rintro e W ⟨rv, L, rfl, hw, hb, _⟩
  have hbW : Below w.heap.size w W := HC.out.2.trans (hb.mono HC.out.2.size)
  rcases hw.path with ⟨rfl, hp⟩ | ⟨p, hp, hpl, hlen⟩
  · obtain ⟨a, c, rfl⟩ := owns_slice hw.rows
    have HE := Lib.hid (And.intro hp hbW)
    clear hw hb hp hbW HC
    simp only [List.length_nil]
    go_wp2_with fail
    go_ret3
    exact ⟨by rw [HP.out, parentT, HE.out.1]; rfl, HE.out.2⟩
  · cases p with
    | nil =>
      obtain ⟨a, c, rfl⟩ := owns_slice hw.rows
      rw [hlen]
      have HE := Lib.hid (And.intro hp hbW)
      clear hw hb hp hbW HC hlen hpl
      simp only [List.length_nil, Nat.zero_add]
      go_wp2_with fail
      go_ret3
      exact ⟨by rw [HP.out, parentT, HE.out.1]; rfl, HE.out.2⟩
    | cons p0 ps =>
    obtain ⟨j, hj⟩ : ∃ j, j = ps.length := ⟨_, rfl⟩
    rw [List.length_cons, ← hj] at hlen
    obtain ⟨g, n2, cap, b, off, q, c, pl, u, rfl, rfl, hnc, c0, c1, hplq, hq, d0, hpk, hat⟩ := hw.at (k := j) (by omega)
    obtain ⟨g', _, _, _, _, _, _, pl2, u2, e2, _, _, _, c2, _, _, _, hpk2, _⟩ := hw.at (k := j + 1) (by omega)
    cases e2
    have hfew := hw.few
    rw [hlen]
    rw [hlen] at hnc hfew
    have hres : pr = (u.id, (pl2 : Int), true) := by
      rw [HP.out, parentT, hp]
      simp only [List.cons_ne_nil, if_false, List.length_cons, Nat.add_sub_cancel]
      rw [hpl] at hpk2 hat
      simp only [List.drop_succ_cons, List.drop_zero] at hat
      rw [← hj, idAt, hat, List.getD_eq_getElem?_getD]
      rw [List.getElem?_cons_succ] at hpk2
      rw [hpk2]; rfl
    obtain ⟨uid, huid⟩ : ∃ uid, uid = u.id := ⟨_, rfl⟩
    rw [← huid] at d0 hres
    have HN : Hid (∀ X, Below W.heap.size W X → Calls Try.prog 32 #[.agg #[.slice (some ⟨b, off, none⟩) q c, .int .i64 (pl : Int)]] X fun e w' => e = .returned (.pointer (some ⟨b, off + pl * 4, none⟩)) ∧ Below W.heap.size W w') := Lib.hid fun X hX => by
      refine (node_any X b off q c pl hplq (by omega)).mono ?_
      rintro e w' ⟨h1, h2⟩
      exact ⟨h1, hX.trans (h2.mono hX.size)⟩
    have HX := Lib.hid (fun (X : World) (h : Below W.heap.size W X) => (show X.cell? ⟨g, j * 2, none⟩ = some (.slice (some ⟨b, off, none⟩) q c) ∧ X.cell? ⟨g, j * 2 + 1, none⟩ = some (.int .i64 (pl : Int)) ∧ X.cell? ⟨b, off + pl * 4, none⟩ = some (.int .i64 uid) ∧ X.cell? ⟨g, (j + 1) * 2 + 1, none⟩ = some (.int .i64 (pl2 : Int)) from
      ⟨(h.cell (World.block_lt_of_cell? _ _ c0)).trans c0, (h.cell (World.block_lt_of_cell? _ _ c1)).trans c1, (h.cell (World.block_lt_of_cell? _ _ d0)).trans d0, (h.cell (World.block_lt_of_cell? _ _ c2)).trans c2⟩))
    have HE := Lib.hid (And.intro hres hbW)
    have hjb : j ≤ 1000000 := by omega
    have hj0 : (0 : Int) ≤ (j : Int) := by omega
    have hjl1 : (j : Int) < (j : Int) + 1 + 1 := by omega
    have hjl2 : (j : Int) + 1 < (j : Int) + 1 + 1 := by omega
    have hj01 : (0 : Int) ≤ (j : Int) + 1 := by omega
    have hnl : ¬ (j : Int) + 1 < 1 := by omega
    have hjw : IntKind.i64.wrap ((j : Int) + 1) = (j : Int) + 1 := IntWalk.i64_in _ (by omega)
    have hjw2 : IntKind.i64.wrap (j : Int) = (j : Int) := IntWalk.i64_in _ (by omega)
    have hjn : ((j : Int) + 1).toNat = j + 1 := by omega
    clear hw hb hp hbW HC hlen hpl c0 c1 c2 d0 hat hpk hpk2 hres huid hj hfew hplq hq hnc
    go_wp2_with fail
    refine wp_region_quiet (C := fun X => Below W.heap.size W X) (by kernel_rfl) (by kernel_rfl) (below_drewN (Below.refl _ W) 1) ?_
    refine quiet_open (fun QQ hQQ => ?_)
    have HQQ := Lib.hid hQQ
    clear hQQ
    with_reducible refine wpQuiet_step ?_
    intro K hK
    rw [if_pos (by rfl)]
    refine ⟨.slice (some ⟨g, 0, none⟩) (j + 1 + 1) cap, fun X hX => ?_, hK _ ?_⟩
    · clear hK; go_simp
    clear hK K
    simp only [Act.put, List.setIfInBounds_toArray, List.set_cons_zero, List.set_cons_succ]
    with_reducible refine wpQuiet_step ?_
    intro K hK
    rw [if_pos (by rfl)]
    refine ⟨.int .i64 ((j : Int) + 1), fun X hX => ?_, hK _ ?_⟩
    · clear hK; go_simp
    clear hK K
    simp only [Act.put, List.setIfInBounds_toArray, List.set_cons_zero, List.set_cons_succ]
    with_reducible refine wpQuiet_step ?_
    intro K hK
    rw [if_pos (by rfl)]
    refine ⟨.int .i64 (j : Int), fun X hX => ?_, hK _ ?_⟩
    · clear hK; go_simp
    clear hK K
    simp only [Act.put, List.setIfInBounds_toArray, List.set_cons_zero, List.set_cons_succ]
    with_reducible refine wpQuiet_step ?_
    intro K hK
    rw [if_pos (by rfl)]
    refine ⟨.pointer (some ⟨g, j * 2, none⟩), fun X hX => ?_, hK _ ?_⟩
    · clear hK; go_simp
    clear hK K
    simp only [Act.put, List.setIfInBounds_toArray, List.set_cons_zero, List.set_cons_succ]
    with_reducible refine wpQuiet_step ?_
    intro K hK
    rw [if_pos (by rfl)]
    refine ⟨.agg #[.slice (some ⟨b, off, none⟩) q c, .int .i64 (pl : Int)], fun X hX => ?_, hK _ ?_⟩
    · clear hK; obtain ⟨x0, x1, x2, x3⟩ := HX.out X hX; go_simp
    clear hK K
    simp only [Act.put, List.setIfInBounds_toArray, List.set_cons_zero, List.set_cons_succ]
    with_reducible refine wpQuiet_step ?_
    intro K hK
    rw [if_pos (by rfl)]
    refine ⟨.pointer (some ⟨b, off + pl * 4, none⟩), fun X hX => ?_, hK _ ?_⟩
    · clear hK; go_simp; exact HN.out X hX
    clear hK K
    simp only [Act.put, List.setIfInBounds_toArray, List.set_cons_zero, List.set_cons_succ]
    with_reducible refine wpQuiet_step ?_
    intro K hK
    rw [if_pos (by rfl)]
    refine ⟨.pointer (some ⟨b, off + pl * 4, none⟩), fun X hX => ?_, hK _ ?_⟩
    · clear hK; go_simp
    clear hK K
    simp only [Act.put, List.setIfInBounds_toArray, List.set_cons_zero, List.set_cons_succ]
    with_reducible refine wpQuiet_step ?_
    intro K hK
    rw [if_pos (by rfl)]
    refine ⟨.pointer (some ⟨b, off + pl * 4, none⟩), fun X hX => ?_, hK _ ?_⟩
    · clear hK; go_simp
    clear hK K
    simp only [Act.put, List.setIfInBounds_toArray, List.set_cons_zero, List.set_cons_succ]
    with_reducible refine wpQuiet_step ?_
    intro K hK
    rw [if_pos (by rfl)]
    refine ⟨.int .i64 uid, fun X hX => ?_, hK _ ?_⟩
    · clear hK; obtain ⟨x0, x1, x2, x3⟩ := HX.out X hX; go_simp
    clear hK K
    simp only [Act.put, List.setIfInBounds_toArray, List.set_cons_zero, List.set_cons_succ]
    with_reducible refine wpQuiet_step ?_
    intro K hK
    rw [if_pos (by rfl)]
    refine ⟨.slice (some ⟨g, 0, none⟩) (j + 1 + 1) cap, fun X hX => ?_, hK _ ?_⟩
    · clear hK; go_simp
    clear hK K
    simp only [Act.put, List.setIfInBounds_toArray, List.set_cons_zero, List.set_cons_succ]
    with_reducible refine wpQuiet_step ?_
    intro K hK
    rw [if_pos (by rfl)]
    refine ⟨.int .i64 ((j : Int) + 1), fun X hX => ?_, hK _ ?_⟩
    · clear hK; go_simp
    clear hK K
    simp only [Act.put, List.setIfInBounds_toArray, List.set_cons_zero, List.set_cons_succ]
    with_reducible refine wpQuiet_step ?_
    intro K hK
    rw [if_pos (by rfl)]
    refine ⟨.pointer (some ⟨g, (j + 1) * 2, none⟩), fun X hX => ?_, hK _ ?_⟩
    · clear hK; go_simp
    clear hK K
    simp only [Act.put, List.setIfInBounds_toArray, List.set_cons_zero, List.set_cons_succ]
    with_reducible refine wpQuiet_step ?_
    intro K hK
    rw [if_pos (by rfl)]
    refine ⟨.pointer (some ⟨g, (j + 1) * 2 + 1, none⟩), fun X hX => ?_, hK _ ?_⟩
    · clear hK; go_simp
    clear hK K
    simp only [Act.put, List.setIfInBounds_toArray, List.set_cons_zero, List.set_cons_succ]
    with_reducible refine wpQuiet_step ?_
    intro K hK
    rw [if_pos (by rfl)]
    refine ⟨.int .i64 (pl2 : Int), fun X hX => ?_, hK _ ?_⟩
    · clear hK; obtain ⟨x0, x1, x2, x3⟩ := HX.out X hX; go_simp
    clear hK K
    simp only [Act.put, List.setIfInBounds_toArray, List.set_cons_zero, List.set_cons_succ]
    with_reducible refine wpQuiet_step ?_
    intro K hK
    rw [if_pos (by rfl)]
    refine ⟨.int .i64 uid, fun X hX => ?_, hK _ ?_⟩
    · clear hK; go_simp
    clear hK K
    simp only [Act.put, List.setIfInBounds_toArray, List.set_cons_zero, List.set_cons_succ]
    with_reducible refine wpQuiet_step ?_
    intro K hK
    rw [if_pos (by rfl)]
    refine ⟨.int .i64 (pl2 : Int), fun X hX => ?_, hK _ ?_⟩
    · clear hK; go_simp
    clear hK K
    simp only [Act.put, List.setIfInBounds_toArray, List.set_cons_zero, List.set_cons_succ]
    with_reducible refine wpQuiet_step ?_
    intro K hK
    rw [if_pos (by rfl)]
    refine ⟨.bool true, fun X hX => ?_, hK _ ?_⟩
    · clear hK; go_simp
    clear hK K
    simp only [Act.put, List.setIfInBounds_toArray, List.set_cons_zero, List.set_cons_succ]
    refine wpQuiet_nil (HQQ.out _ ?_)
    clear HQQ
    intro V hV
    have HV := Lib.hid hV
    clear hV
    go_wp2_with fail
    go_ret3
    exact ⟨congrArg (fun z : Int × Int × Bool => Ending.returned (.tuple #[.int .i64 z.1, .int .i64 z.2.1, .bool z.2.2])) HE.out.1.symm, HE.out.2.trans (HV.out.mono HE.out.2.size)⟩
end Go.Proofs.Ytjppibomjnmjpaa
