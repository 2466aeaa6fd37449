/-
  Above: the ids above a node, as a function over which one ranges. No condition but that there are not too many nodes.
-/
import Derived.Deep.RegionHeld
import Derived.Test.YtjppibomjnmjpaaHPath
namespace Go.Proofs.Ytjppibomjnmjpaa
open Go.RowKit Go.Shelf
set_option linter.unusedVariables false
set_option linter.unusedSimpArgs false

/-- The ids of a way. -/
def idsOf (id : Int) (t : Tr) : List Int := match pathT id t with
  | none => []
  | some p => wayIds t p
def AboveC (w : World) (ids : List Int) (e : Ending) (w' : World) : Prop := ∃ b v, e = .returned (.func (.func 43) #[] #[.pointer (some ⟨b, 0, none⟩)]) ∧ w'.heap[b]? = some (.cells #[v] 29 (0, 0)) ∧ w'.ownsRow w.heap.size 3 1 v ids.length (ids.map intV) ∧ w.heap.size ≤ b ∧ Below w.heap.size w w'
structure AbI (w0 W : World) (zs : Array Value) (ids : List Int) (n k : Nat) (wr : World) : Prop where
  row : wr.ownsRow w0.heap.size 3 1 (.slice (some ⟨W.heap.size, 0, none⟩) n n) n ((ids.map intV).take k ++ zs.toList.drop k)
  below : Below W.heap.size W wr
  cell : wr.heap[W.heap.size + 1]? = some (.cells #[.slice (some ⟨W.heap.size, 0, none⟩) n n] 29 (0, 0))
theorem AbI.step {w0 W wr w6 : World} {zs : Array Value} {ids : List Int} {n k : Nat} {x : Int} {o : Obj} (h : AbI w0 W zs ids n k wr) (hz : zs.size = n) (hn : n = ids.length) (hx : ids[k]? = some x) (hb : Below (wr.alloc o).heap.size (wr.alloc o) w6) : AbI w0 W zs ids n (k + 1) (w6.setCell ⟨W.heap.size, k, none⟩ (.int .i64 x)) := by
  have hk := (List.getElem?_eq_some_iff.1 hx).1
  have hsz : wr.heap.size ≤ w6.heap.size := by have := hb.size; rw [World.size_alloc] at this; omega
  have hblk : ∀ y, y < wr.heap.size → w6.heap[y]? = wr.heap[y]? := fun y hy => (hb.block y (by rw [World.size_alloc]; omega)).trans (Below.heap_alloc wr o y hy)
  have h1 := owns_kept h.row (w' := w6) (fun g cur hc _ => hblk g (lt_of_some hc))
  have h2 := (World.ownsRow.stored h1 k (.int .i64 x)).1
  have e : ((ids.map intV).take k ++ zs.toList.drop k).set k (.int .i64 x) = (ids.map intV).take (k + 1) ++ zs.toList.drop (k + 1) := by
    have hl : ((ids.map intV).take k).length = k := by rw [List.length_take, List.length_map]; omega
    rw [List.set_append_right _ _ (by omega), hl, Nat.sub_self]
    have hz2 : k < zs.toList.length := by rw [Array.length_toList]; omega
    rw [← List.getElem_cons_drop hz2, List.set_cons_zero, List.take_add_one]
    have h3 : (ids.map intV)[k]? = some (.int .i64 x) := by rw [List.getElem?_map, hx]; rfl
    rw [h3]; simp
  rw [e] at h2
  have hb6 : Below W.heap.size W w6 := h.below.trans ⟨hb.os, hb.tape, hb.output, hsz, fun y hy => hblk y (by have := h.below.size; omega)⟩
  refine ⟨h2, hb6.setCell (p := ⟨W.heap.size, k, none⟩) (Nat.le_refl _) _, ?_⟩
  rw [Below.heap_setCell _ _ _ _ (by simp), hblk _ (lt_of_heap h.cell)]
  exact h.cell
set_option maxRecDepth 100000 in
set_option maxHeartbeats 4000000 in
theorem above_any (w : World) (S : Nat → Prop) (nv : Value) (t : Tr) (id : Int) (hS : ∀ x, S x → x < w.heap.size) (ht : TrAt w S nv t) (hsz : foSize t.kids ≤ 400000) : Calls Try.prog 33 #[nv, .int .i64 id] w (AboveC w (idsOf id t)) := by
  obtain ⟨ka, tc, rfl, hcap, hk⟩ := ht
  have hb := box_below w (.cells #[.int .i64 t.id, .int .i64 t.kind, .string t.text, .slice ka (foLen t.kids) tc] 24)
  have hway := way_any (w.alloc (.cells #[.int .i64 t.id, .int .i64 t.kind, .string t.text, .slice ka (foLen t.kids) tc] 24)) S _ t id (fun x hx => Nat.lt_of_lt_of_le (hS x hx) hb.size) ⟨ka, tc, rfl, hcap, hk.below hb hS⟩ hsz
  have HC := Lib.hid (And.intro hway hb)
  obtain ⟨nk, hnk⟩ : ∃ n, n = foLen t.kids := ⟨_, rfl⟩
  rw [← hnk] at HC ⊢
  have hmf : ∀ (fn : Fn) (first cap : Array Value) (w : World), (Instr.makeFunc fn first cap).run Try.prog w = .ok (.func fn first cap) w := fun _ _ _ _ => rfl
  clear hway hb hk hcap hS hnk
  go_enter Try.func33, Try.ntmps33
  go_wp2_with fail
  refine HC.out.1.mono ?_
  rintro e W ⟨rv, L, rfl, hw, hb, _⟩
  have hbW : Below w.heap.size w W := HC.out.2.trans (hb.mono HC.out.2.size)
  obtain ⟨ids, hids⟩ : ∃ ids, ids = idsOf id t := ⟨_, rfl⟩
  rw [← hids]
  obtain ⟨n, hn⟩ : ∃ n, n = L.length := ⟨_, rfl⟩
  have hrow : n = ids.length ∧ ∀ k, k < n → ∃ (g n' cap b off q c pl : Nat) (x : Int), rv = .slice (some ⟨g, 0, none⟩) n' cap ∧ W.cell? ⟨g, k * 2, none⟩ = some (.slice (some ⟨b, off, none⟩) q c) ∧ W.cell? ⟨g, k * 2 + 1, none⟩ = some (.int .i64 (pl : Int)) ∧ pl < q ∧ q ≤ foSize t.kids + 1 ∧ W.cell? ⟨b, off + pl * 4, none⟩ = some (.int .i64 x) ∧ ids[k]? = some x := by
    rcases hw.path with ⟨h1, h2⟩ | ⟨p, h2, h3, h4⟩
    · rw [hids, idsOf, h2]
      exact ⟨by rw [hn, h1]; rfl, fun k hk => by rw [hn, h1] at hk; exact absurd hk (Nat.not_lt_zero k)⟩
    · rw [hids, idsOf, h2]
      refine ⟨by rw [hn, h4]; simp [wayIds], fun k hk => ?_⟩
      obtain ⟨g, n', cap, b, off, q, c, pl, u, e1, _, _, c0, c1, hpq, hq, d0, _, hat⟩ := hw.at (k := k) (by omega)
      refine ⟨g, n', cap, b, off, q, c, pl, u.id, e1, c0, c1, hpq, hq, d0, ?_⟩
      rw [h3] at hat
      simp only [List.drop_succ_cons, List.drop_zero] at hat
      simp only [wayIds, List.getElem?_map]
      rw [List.getElem?_range (by omega)]
      simp [idAt, hat]
  have hfew := hw.few
  have hrv := hw.rows
  rw [← hn] at hfew
  obtain ⟨a0, c0, rfl⟩ := owns_slice hrv
  rw [← hn] at hrow ⊢
  obtain ⟨zs, hzs, hmk⟩ := make_len W n (by omega)
  have hg : ∀ g, a0 = some ⟨g, 0, none⟩ → g < W.heap.size := fun g e => (owns_bounds hrv (g := g) (by rw [e]; rfl)).2
  have HST : Hid (AbI w W zs ids n 0 ((W.alloc (.cells zs 3)).alloc (.cells #[.slice (some ⟨W.heap.size, 0, none⟩) n n] 29))) := Lib.hid ⟨⟨by rw [List.take_zero, List.nil_append, List.drop_zero, Array.length_toList]; omega, Or.inr ⟨W.heap.size, n, zs, rfl, hbW.size, heap_alloc2_old W _ _, Nat.le_refl _, by unfold maxLen; omega, by omega, by rw [List.take_zero, List.nil_append, List.drop_zero, List.take_of_length_le (by rw [Array.length_toList]; omega)]⟩⟩, two_boxes W _ _, heap_alloc2_new W _ _⟩
  have HE := Lib.hid (And.intro hbW (And.intro hrow.1 (And.intro hrow.2 (And.intro hzs (And.intro hg hids)))))
  have hnb : n ≤ 1000000 := by omega
  have hn0 : (0 : Int) ≤ (n : Int) := by omega
  clear hw hb hbW HC hrow hzs hfew hn hrv hg hids
  go_wp2_with fail
  go_loopw [17] (fun i wr => ∃ k : Nat, k ≤ n ∧ i = .int .i64 (k : Int) ∧ Hid (AbI w W zs ids n k wr)) (fun i _ => n - (intOf i).toNat)
  case atStart => exact ⟨0, Nat.zero_le _, rfl, HST⟩
  case round =>
    obtain ⟨k, hk, rfl, hh⟩ := hrel
    clear HST
    by_cases hlt : k < n
    · obtain ⟨g, n', cap, b, off, q, c, pl, uid, e1, x0, x1, hpq, hq, y0, hid⟩ := HE.out.2.2.1 k hlt
      cases e1
      have hgl := HE.out.2.2.2.2.1 g rfl
      have hbl : b < W.heap.size := World.block_lt_of_cell? _ _ y0
      have hown := hh.out.row
      obtain ⟨v0, hv0⟩ : ∃ v0, zs.toList[k]? = some v0 := ⟨_, List.getElem?_eq_getElem (by rw [Array.length_toList, HE.out.2.2.2.1]; exact hlt)⟩
      have hcell := World.ownsRow.cellAt hown k (by omega)
      have hfz := World.ownsRow.frozenAt hown k
      rw [List.getElem?_append_right (by rw [List.length_take, List.length_map]; omega), List.length_take, List.length_map, List.getElem?_drop, show k + (k - min k ids.length) = k by (have := HE.out.2.1; omega), hv0] at hcell
      have d0 : wr.cell? ⟨g, k * 2, none⟩ = some (.slice (some ⟨b, off, none⟩) q c) := (hh.out.below.cell (p := ⟨g, k * 2, none⟩) hgl).trans x0
      have d1 : wr.cell? ⟨g, k * 2 + 1, none⟩ = some (.int .i64 (pl : Int)) := (hh.out.below.cell (p := ⟨g, k * 2 + 1, none⟩) hgl).trans x1
      have i0 : wr.cell? ⟨W.heap.size + 1, 0, none⟩ = some (.slice (some ⟨W.heap.size, 0, none⟩) n n) := by rw [cell_of_row _ _ 0 _ _ _ hh.out.cell]; rfl
      have u0 : wr.cell? ⟨b, off + pl * 4, none⟩ = some (.int .i64 uid) := (hh.out.below.cell (p := ⟨b, off + pl * 4, none⟩) hbl).trans y0
      obtain ⟨wa, hwa⟩ : ∃ wa, wa = wr.alloc (.cells #[.slice (some ⟨b, off, none⟩) q c, .int .i64 (pl : Int)] 57) := ⟨_, rfl⟩
      have hba : Below wr.heap.size wr wa := by rw [hwa]; exact box_below _ _
      have hnew : wa.heap[wr.heap.size]? = some (.cells #[.slice (some ⟨b, off, none⟩) q c, .int .i64 (pl : Int)] 57 (0, 0)) := by rw [hwa]; exact heap_alloc_new wr _
      obtain ⟨SX, hSX⟩ : ∃ SX : World → Prop, SX = fun X => X.cell? ⟨W.heap.size + 1, 0, none⟩ = some (.slice (some ⟨W.heap.size, 0, none⟩) n n) ∧ X.cell? ⟨wr.heap.size, 0, none⟩ = some (.slice (some ⟨b, off, none⟩) q c) ∧ X.cell? ⟨wr.heap.size, 1, none⟩ = some (.int .i64 (pl : Int)) ∧ X.cell? ⟨b, off + pl * 4, none⟩ = some (.int .i64 uid) := ⟨_, rfl⟩
      have HSx : ∀ X, SX X → X.cell? ⟨W.heap.size + 1, 0, none⟩ = some (.slice (some ⟨W.heap.size, 0, none⟩) n n) ∧ X.cell? ⟨wr.heap.size, 0, none⟩ = some (.slice (some ⟨b, off, none⟩) q c) ∧ X.cell? ⟨wr.heap.size, 1, none⟩ = some (.int .i64 (pl : Int)) ∧ X.cell? ⟨b, off + pl * 4, none⟩ = some (.int .i64 uid) := fun X h => by rw [hSX] at h; exact h
      have hS0 : SX wa.drew := by
        rw [hSX]
        exact ⟨(hba.cell (World.block_lt_of_cell? _ _ i0)).trans i0, (cell_of_row wa _ 0 _ _ _ hnew), (cell_of_row wa _ 1 _ _ _ hnew), (hba.cell (World.block_lt_of_cell? _ _ u0)).trans u0⟩
      have HSB : Hid (∀ X Y, SX X → Below X.heap.size X Y → SX Y) := Lib.hid fun X Y h hb => by
        rw [hSX] at h ⊢
        exact ⟨(hb.cell (World.block_lt_of_cell? _ _ h.1)).trans h.1, (hb.cell (World.block_lt_of_cell? _ _ h.2.1)).trans h.2.1, (hb.cell (World.block_lt_of_cell? _ _ h.2.2.1)).trans h.2.2.1, (hb.cell (World.block_lt_of_cell? _ _ h.2.2.2)).trans h.2.2.2⟩
      have hWl : W.heap.size < wr.heap.size := (World.block_lt_of_cell? _ _ hcell)
      have HSS : Hid (∀ X u, SX X → SX (X.setCell ⟨W.heap.size, k, none⟩ u)) := Lib.hid fun X u h => by
        rw [hSX] at h ⊢
        have hne : ∀ y, y ≠ W.heap.size → (X.setCell ⟨W.heap.size, k, none⟩ u).heap[y]? = X.heap[y]? := fun y hy => Below.heap_setCell _ _ _ _ hy
        exact ⟨(World.cell?_of_block (hne _ (by simp))).trans h.1, (World.cell?_of_block (hne _ (by simp only; omega))).trans h.2.1, (World.cell?_of_block (hne _ (by simp only; omega))).trans h.2.2.1, (World.cell?_of_block (hne _ (by simp only; omega))).trans h.2.2.2⟩
      have hnode := fun X => node_any X b off q c pl hpq (by omega)
      have HN := Lib.hid hnode
      have hcA : ∀ X, Below wa.heap.size wa X → X.cell? ⟨W.heap.size, k, none⟩ = some v0 ∧ X.frozen? ⟨W.heap.size, k, none⟩ = false := fun X hX => by
        have h1 := hba.size
        have h2 : X.heap[W.heap.size]? = wr.heap[W.heap.size]? := (hX.block _ (by omega)).trans (hba.block _ hWl)
        exact ⟨(World.cell?_of_block h2).trans hcell, (World.frozen?_of_block h2).trans hfz⟩
      have HCA := Lib.hid hcA
      have hnx : ∀ X, Below wa.heap.size wa X → AbI w W zs ids n (k + 1) (X.setCell ⟨W.heap.size, k, none⟩ (.int .i64 uid)) := fun X hX => hh.out.step (o := .cells #[.slice (some ⟨b, off, none⟩) q c, .int .i64 (pl : Int)] 57) HE.out.2.2.2.1 HE.out.2.1 hid (by rw [← hwa]; exact hX)
      have HNX := Lib.hid hnx
      have hki : (k : Int) < (n : Int) := by omega
      have hk0 : (0 : Int) ≤ (k : Int) := by omega
      have HLT := Lib.hid (And.intro hlt hwa)
      clear hh hcell hfz hown hv0 x0 x1 y0 hid hlt hwa hnode hcA hnx hba hnew hSX i0 u0 hk hgl hbl hpq hq
      go_wp2_with fail
      rw [← HLT.out.2]
      refine wp_region_held_drew (S := SX) (by kernel_rfl) hS0 (fun hHeld => ?_)
      refine wpAnyH_take (i := 0) (oi := _) (v := .slice (some ⟨W.heap.size, 0, none⟩) n n) rfl (by kernel_rfl) (by kernel_rfl) (by kernel_rfl) (fun _ _ _ h => h) (Or.inl ⟨by rfl, ?_⟩) (by assumption) ?_
      · clear hHeld; intro X hSw; obtain ⟨s0, s1, s2, s3⟩ := HSx X hSw; clear hSw; go_simp
      simp only [Act.put, List.getElem_toArray, List.getElem_cons_zero, List.getElem_cons_succ, List.setIfInBounds_toArray, List.set_cons_zero, List.set_cons_succ]
      refine wpAnyH_take (i := 1) (oi := _) (v := .int .i64 (k : Int)) rfl (by kernel_rfl) (by kernel_rfl) (by kernel_rfl) (fun _ _ _ h => h) (Or.inl ⟨by rfl, ?_⟩) (by assumption) ?_
      · clear hHeld; intro X hSw; obtain ⟨s0, s1, s2, s3⟩ := HSx X hSw; clear hSw; go_simp
      simp only [Act.put, List.getElem_toArray, List.getElem_cons_zero, List.getElem_cons_succ, List.setIfInBounds_toArray, List.set_cons_zero, List.set_cons_succ]
      refine wpAnyH_take (i := 2) (oi := _) (v := .agg #[.slice (some ⟨b, off, none⟩) q c, .int .i64 (pl : Int)]) rfl (by kernel_rfl) (by kernel_rfl) (by kernel_rfl) (fun _ _ _ h => h) (Or.inl ⟨by rfl, ?_⟩) (by assumption) ?_
      · clear hHeld; intro X hSw; obtain ⟨s0, s1, s2, s3⟩ := HSx X hSw; clear hSw; go_simp
      simp only [Act.put, List.getElem_toArray, List.getElem_cons_zero, List.getElem_cons_succ, List.setIfInBounds_toArray, List.set_cons_zero, List.set_cons_succ]
      refine wpAnyH_ready (rs := [3]) (by kernel_rfl) (by simp) ?_
      refine AllReadyH.cons (o := _) rfl (fun K hK => ?_) AllReadyH.nil
      rw [if_pos (by rfl)]
      simp only [List.getElem_toArray, List.getElem_cons_zero, List.getElem_cons_succ]
      have HK3 := Lib.hid hK
      clear hK
      have HS0 := Lib.hid hHeld
      clear hHeld hS0
      go_wp2_with (go_at_call 32; refine (HN.out _).mono ?_; rintro e w6 ⟨rfl, b6⟩; have H6 := Lib.hid b6; clear b6)
      refine HK3.out _ _ (HSB.out _ w6 HS0.out H6.out) (fun hHeld => ?_)
      clear HK3 HS0
      refine wpAnyH_take (i := 4) (oi := _) (v := .pointer (some ⟨b, off + pl * 4, none⟩)) rfl (by kernel_rfl) (by kernel_rfl) (by kernel_rfl) (fun _ _ _ h => h) (Or.inl ⟨by rfl, ?_⟩) (by assumption) ?_
      · clear hHeld; intro X hSw; obtain ⟨s0, s1, s2, s3⟩ := HSx X hSw; clear hSw; go_simp
      simp only [Act.put, List.getElem_toArray, List.getElem_cons_zero, List.getElem_cons_succ, List.setIfInBounds_toArray, List.set_cons_zero, List.set_cons_succ]
      refine wpAnyH_take (i := 5) (oi := _) (v := .pointer (some ⟨b, off + pl * 4, none⟩)) rfl (by kernel_rfl) (by kernel_rfl) (by kernel_rfl) (fun _ _ _ h => h) (Or.inl ⟨by rfl, ?_⟩) (by assumption) ?_
      · clear hHeld; intro X hSw; obtain ⟨s0, s1, s2, s3⟩ := HSx X hSw; clear hSw; go_simp
      simp only [Act.put, List.getElem_toArray, List.getElem_cons_zero, List.getElem_cons_succ, List.setIfInBounds_toArray, List.set_cons_zero, List.set_cons_succ]
      refine wpAnyH_take (i := 6) (oi := _) (v := .int .i64 uid) rfl (by kernel_rfl) (by kernel_rfl) (by kernel_rfl) (fun _ _ _ h => h) (Or.inl ⟨by rfl, ?_⟩) (by assumption) ?_
      · clear hHeld; intro X hSw; obtain ⟨s0, s1, s2, s3⟩ := HSx X hSw; clear hSw; go_simp
      simp only [Act.put, List.getElem_toArray, List.getElem_cons_zero, List.getElem_cons_succ, List.setIfInBounds_toArray, List.set_cons_zero, List.set_cons_succ]
      refine wpAnyH_take (i := 7) (oi := _) (v := .pointer (some ⟨W.heap.size, k, none⟩)) rfl (by kernel_rfl) (by kernel_rfl) (by kernel_rfl) (fun _ _ _ h => h) (Or.inl ⟨by rfl, ?_⟩) (by assumption) ?_
      · clear hHeld; intro X hSw; obtain ⟨s0, s1, s2, s3⟩ := HSx X hSw; clear hSw; go_simp
      simp only [Act.put, List.getElem_toArray, List.getElem_cons_zero, List.getElem_cons_succ, List.setIfInBounds_toArray, List.set_cons_zero, List.set_cons_succ]
      refine wpAnyH_ready (rs := [8]) (by kernel_rfl) (by simp) ?_
      refine AllReadyH.cons (o := _) rfl (fun K hK => ?_) AllReadyH.nil
      rw [if_pos (by rfl)]
      simp only [List.getElem_toArray, List.getElem_cons_zero, List.getElem_cons_succ]
      have HK8 := Lib.hid hK
      clear hK
      have H66 : Below wa.heap.size wa w6 := ⟨H6.out.os, H6.out.tape, H6.out.output, H6.out.size, H6.out.block⟩
      obtain ⟨z0, zf⟩ := HCA.out w6 H66
      have HNY := Lib.hid (HNX.out w6 H66)
      have HS0 := Lib.hid hHeld
      clear hHeld H66
      go_wp2_with fail
      refine HK8.out _ _ (HSS.out _ _ HS0.out) (fun hHeld => ?_)
      clear HK8 HS0 hHeld
      refine wpAnyH_done (by kernel_rfl) ?_ _
      clear HSx z0 zf
      go_wp2_with fail
      exact ⟨⟨k + 1, by have := HLT.out.1; omega, by go_num, HNY⟩, by have := HLT.out.1; simp [intOf]; omega⟩
    · have hki : ¬ (k : Int) < (n : Int) := by omega
      have hkm : k = n := by omega
      have HO := Lib.hid (And.intro hh.out hkm)
      clear hh hk hlt hkm
      go_wp2_with fail
      go_ret
      obtain ⟨ho, hkm⟩ := HO.out
      have h9 := ho.row
      rw [List.take_of_length_le (by rw [List.length_map]; have := HE.out.2.1; omega), List.drop_eq_nil_of_le (by rw [Array.length_toList]; have := HE.out.2.2.2.1; omega), List.append_nil] at h9
      refine ⟨W.heap.size + 1, .slice (some ⟨W.heap.size, 0, none⟩) n n, rfl, ho.cell, by rw [← HE.out.2.2.2.2.2, ← HE.out.2.1]; exact h9, by have := HE.out.1.size; omega, HE.out.1.trans (ho.below.mono HE.out.1.size)⟩
end Go.Proofs.Ytjppibomjnmjpaa
