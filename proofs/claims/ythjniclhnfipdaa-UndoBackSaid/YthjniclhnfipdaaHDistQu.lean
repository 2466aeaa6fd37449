/-
  Within and Common: whether a node is in another one's subtree, and the lowest node that has two. No condition but that there are not too many nodes.
  Above: the ids above a node, as a function over which one ranges. No condition but that there are not too many nodes.
  Trees whose ids are all different, plainly: what stands at the path of an id, and what is above what. No condition.
-/
import Derived.Test.YthjniclhnfipdaaGIntsQu
import Derived.Deep.RegionHeld
import Derived.Test.YthjniclhnfipdaaHPathQu
import Derived.Test.YthjniclhnfipdaaRSameQu
import Derived.Test.YthjniclhnfipdaaEHeldQu
namespace Go.Proofs.Ythjniclhnfipdaa
open Go.RowKit Go.Shelf
set_option linter.unusedVariables false
set_option linter.unusedSimpArgs false

theorem lcp_cons (p q : List Nat) : lcp (0 :: p) (0 :: q) = lcp p q + 1 := by simp [lcp]
theorem lcp_nil (l : List Nat) : lcp ([] : List Nat) l = 0 := by simp [lcp]
theorem lcp_nil' (l : List Nat) : lcp l ([] : List Nat) = 0 := by cases l <;> simp [lcp]
theorem places_nil : places [] = [] := rfl
set_option maxRecDepth 100000 in
set_option maxHeartbeats 2000000 in
theorem within_any (w : World) (S : Nat → Prop) (nv : Value) (t : Tr) (a b : Int) (hS : ∀ x, S x → x < w.heap.size) (ht : TrAt w S nv t) (hsz : foSize t.kids ≤ 400000) : Calls Try.prog 63 #[nv, .int .i64 a, .int .i64 b] w fun e w' => e = .returned (.bool (withinT a b t)) ∧ Below w.heap.size w w' := by
  obtain ⟨ka, tc, rfl, hcap, hk⟩ := ht
  obtain ⟨B, hB⟩ : ∃ B, B = w.alloc (.cells #[.int .i64 t.id, .int .i64 t.kind, .string t.text, .slice ka (foLen t.kids) tc] 24) := ⟨_, rfl⟩
  have hb := box_below w (.cells #[.int .i64 t.id, .int .i64 t.kind, .string t.text, .slice ka (foLen t.kids) tc] 24)
  have hbx := heap_alloc_new w (.cells #[.int .i64 t.id, .int .i64 t.kind, .string t.text, .slice ka (foLen t.kids) tc] 24)
  rw [← hB] at hb hbx
  have hway := fun (i : Int) (X : World) (hX : Below B.heap.size B X) => way_any X S (.agg #[.int .i64 t.id, .int .i64 t.kind, .string t.text, .slice ka (foLen t.kids) tc]) t i (fun x hx => Nat.lt_of_lt_of_le (hS x hx) (Nat.le_trans hb.size hX.size)) ⟨ka, tc, rfl, hcap, hk.below (hb.trans (hX.mono hb.size)) hS⟩ hsz
  obtain ⟨n, hn⟩ : ∃ n, n = foLen t.kids := ⟨_, rfl⟩
  rw [← hn] at hB hbx
  simp only [← hn] at hway
  have HC := Lib.hid (And.intro hway (And.intro hb (And.intro hB hbx)))
  rw [← hn]
  obtain ⟨pr, hpr⟩ : ∃ pr, pr = withinT a b t := ⟨_, rfl⟩
  have HP := Lib.hid hpr
  have hpe : (.bool (withinT a b t) : Value) = (.bool (pr)) := by rw [hpr]
  rw [hpe]
  clear hway hb hk hcap hS hn hpr hpe hB hbx
  go_enter Try.func63, Try.ntmps63
  go_wp2_with fail
  rw [← HC.out.2.2.1]
  refine (HC.out.1 a B (Below.refl _ _)).mono ?_
  rintro e W ⟨rv, L, rfl, hw, hb, _⟩
  have hbxW := (hb.block _ (lt_of_heap HC.out.2.2.2)).trans HC.out.2.2.2
  have n0 : W.cell? ⟨w.heap.size, 0, none⟩ = some (.int .i64 t.id) := by rw [cell_of_row _ _ 0 _ _ _ hbxW]; rfl
  have n1 : W.cell? ⟨w.heap.size, 1, none⟩ = some (.int .i64 t.kind) := by rw [cell_of_row _ _ 1 _ _ _ hbxW]; rfl
  have n2 : W.cell? ⟨w.heap.size, 2, none⟩ = some (.string t.text) := by rw [cell_of_row _ _ 2 _ _ _ hbxW]; rfl
  have n3 : W.cell? ⟨w.heap.size, 3, none⟩ = some (.slice ka n tc) := by rw [cell_of_row _ _ 3 _ _ _ hbxW]; rfl
  have HW := Lib.hid (And.intro hw hb)
  clear hw hb hbxW
  go_wp2_with fail
  refine (HC.out.1 b W HW.out.2).mono ?_
  rintro e W2 ⟨rv2, L2, rfl, hw2, hb2, _⟩
  have hw := HW.out.1.kept hb2
  have hb9 : Below w.heap.size w W2 := (HC.out.2.1.trans (HW.out.2.mono HC.out.2.1.size)).trans (hb2.mono (Nat.le_trans HC.out.2.1.size HW.out.2.size))
  have hsh := shared_any W2 rv rv2 L L2 hw.rows hw2.rows (by have := hw.few; omega) (by have := hw2.few; omega)
  rw [lcp_places L L2 hw.ok hw2.ok] at hsh
  have H2 := Lib.hid (And.intro hw (And.intro hw2 hb9))
  have HSH := Lib.hid hsh
  clear hw hw2 hb2 hb9 hsh n0 n1 n2 n3
  go_wp2_with fail
  refine HSH.out.mono ?_
  rintro e W3 ⟨rfl, hb3⟩
  have hw3 := H2.out.1.kept hb3
  have hbz : Below w.heap.size w W3 := H2.out.2.2.trans (hb3.mono H2.out.2.2.size)
  obtain ⟨ra, rc, rfl⟩ := owns_slice hw3.rows
  obtain ⟨m, hm⟩ : ∃ m, m = lcp (places L) (places L2) := ⟨_, rfl⟩
  obtain ⟨len, hlen⟩ : ∃ len, len = L.length := ⟨_, rfl⟩
  have hml := lcp_le (places L) (places L2)
  rw [places_length, places_length, ← hm, ← hlen] at hml
  have hfew := hw3.few
  rw [← hlen] at hfew
  have hres : pr = (decide (0 < m) && decide (m = len)) := by
    rw [HP.out, withinT]
    rcases H2.out.1.path with ⟨h1, h2⟩ | ⟨p, h2, h3, h4⟩
    · rw [h2, hm, h1, places_nil, lcp_nil]; rfl
    · rw [h2]
      rcases H2.out.2.1.path with ⟨g1, g2⟩ | ⟨q, g2, g3, g4⟩
      · rw [g2, hm, g1, places_nil, lcp_nil']; simp
      · rw [g2, hm, h3, g3, lcp_cons, hlen, h4]
        simp only []
        rw [show decide (0 < lcp p q + 1) = true by simp, Bool.true_and]
        rw [decide_eq_decide]; omega
  have HE := Lib.hid (And.intro hres hbz)
  rw [← hm]
  rw [← hlen]
  clear hw3 hbz hb3 hres hm hlen hfew HSH HW HC
  by_cases h0 : 0 < m
  · have h0i : (0 : Int) < (m : Int) := by omega
    by_cases hq : m = len
    · have hqi : ((m : Int) == (len : Int)) = true := by simp; omega
      have HQ := Lib.hid (And.intro h0 hq)
      clear hq h0
      go_wp2_with fail
      go_ret
      exact ⟨congrArg (fun z => Ending.returned (.bool z)) (by rw [HE.out.1]; simp [HQ.out.1, HQ.out.2] <;> (have := HQ.out.1; have := HQ.out.2; omega)), HE.out.2⟩
    · have hqi : ((m : Int) == (len : Int)) = false := by simp; omega
      have HQ := Lib.hid (And.intro h0 hq)
      clear hq h0
      go_wp2_with fail
      go_ret
      exact ⟨congrArg (fun z => Ending.returned (.bool z)) (by rw [HE.out.1]; simp [HQ.out.2]), HE.out.2⟩
  · have h0i : ¬ (0 : Int) < (m : Int) := by omega
    have HQ := Lib.hid h0
    clear h0
    go_wp2_with fail
    go_ret
    exact ⟨congrArg (fun z => Ending.returned (.bool z)) (by rw [HE.out.1]; simp [HQ.out]), HE.out.2⟩
end Go.Proofs.Ythjniclhnfipdaa
namespace Go.Proofs.Ythjniclhnfipdaa
open Go.RowKit Go.Shelf
set_option linter.unusedVariables false
set_option linter.unusedSimpArgs false

structure AbI (w0 W : World) (zs : Array Value) (ids : List Int) (n k : Nat) (wr : World) : Prop where
  row : wr.ownsRow w0.heap.size 3 1 (.slice (some ⟨W.heap.size, 0, none⟩) n n) n ((ids.map intV).take k ++ zs.toList.drop k)
  below : Below W.heap.size W wr
  cell : wr.heap[W.heap.size + 1]? = some (.cells #[.slice (some ⟨W.heap.size, 0, none⟩) n n] 64 (0, 0))
theorem AbI.step {w0 W wr w6 : World} {zs : Array Value} {ids : List Int} {n k : Nat} {x : Int} {o : Obj} (h : AbI w0 W zs ids n k wr) (hz : zs.size = n) (hn : n = ids.length) (hx : ids[k]? = some x) (hb : Below (wr.alloc o).heap.size (wr.alloc o) w6) : AbI w0 W zs ids n (k + 1) (w6.setCell ⟨W.heap.size, k, none⟩ (.int .i64 x)) := by
  have hk := (List.getElem?_eq_some_iff.1 hx).1
  have hsz : wr.heap.size ≤ w6.heap.size := by have := hb.size; rw [World.size_alloc] at this; omega
  have hblk : ∀ y, y < wr.heap.size → w6.heap[y]? = wr.heap[y]? := fun y hy => (hb.block y (by rw [World.size_alloc]; omega)).trans (Below.heap_alloc wr o y hy)
  have h1 := owns_kept h.row (w' := w6) (fun g cur hc _ => hblk g (lt_of_some hc))
  have h2 := (World.ownsRow.stored h1 k (.int .i64 x)).1
  have e : ((ids.map intV).take k ++ zs.toList.drop k).set k (.int .i64 x) = (ids.map intV).take (k + 1) ++ zs.toList.drop (k + 1) := by
    have hl : ((ids.map intV).take k).length = k := by rw [List.length_take, List.length_map]; omega
    rw [List.set_append_right _ _ (by omega), hl, Nat.sub_self]
    have hz2 : k < zs.toList.length := by rw [Array.length_toList]; omega
    rw [← List.getElem_cons_drop hz2, List.set_cons_zero, List.take_add_one]
    have h3 : (ids.map intV)[k]? = some (.int .i64 x) := by rw [List.getElem?_map, hx]; rfl
    rw [h3]; simp
  rw [e] at h2
  have hb6 : Below W.heap.size W w6 := h.below.trans ⟨hb.os, hb.tape, hb.output, hsz, fun y hy => hblk y (by have := h.below.size; omega)⟩
  refine ⟨h2, hb6.setCell (p := ⟨W.heap.size, k, none⟩) (Nat.le_refl _) _, ?_⟩
  rw [Below.heap_setCell _ _ _ _ (by simp), hblk _ (lt_of_heap h.cell)]
  exact h.cell
end Go.Proofs.Ythjniclhnfipdaa
namespace Go.Proofs.Ythjniclhnfipdaa
open Go.RowKit Go.Shelf
set_option linter.unusedVariables false
set_option linter.unusedSimpArgs false

def idsF (f : Fo) : List Int := (spF 1 f).map fun x => x.2.1.1
theorem idsF_d : ∀ (d : Nat) (f : Fo), (spF d f).map (fun x => x.2.1.1) = idsF f
  | _, .nil => rfl
  | d, .node _ _ k l r => by
    simp only [idsF, spF, List.map_cons, List.map_append]
    rw [idsF_d (d + 1) l, idsF_d d r, idsF_d (1 + 1) l]
    rfl
theorem idsF_node (b o : Nat) (k : Int × Int × ByteArray) (l r : Fo) : idsF (.node b o k l r) = k.1 :: (idsF l ++ idsF r) := by
  simp only [idsF, spF, List.map_cons, List.map_append]
  rw [idsF_d (1 + 1) l]
  rfl
def DistT (t : Tr) : Prop := (idsF (rootF t)).Nodup
theorem distT_kids {t : Tr} (h : DistT t) : t.id ∉ idsF t.kids ∧ (idsF t.kids).Nodup := by
  rw [DistT, rootF, idsF_node] at h
  have e : idsF Deep.BT.nil = [] := rfl
  rw [e, List.append_nil] at h
  exact ⟨(List.nodup_cons.1 h).1, (List.nodup_cons.1 h).2⟩
theorem fpi_none_mem : ∀ (id : Int) (f : Fo) (j : Nat), id ∉ idsF f → fpi id j f = none
  | _, .nil, _, _ => rfl
  | id, .node b o k l r, j, h => by
    rw [idsF_node] at h
    simp only [List.mem_cons, List.mem_append, not_or] at h
    rw [fpi, if_neg (fun e => h.1 e.symm), fpi_none_mem id l 0 h.2.1]
    exact fpi_none_mem id r (j + 1) h.2.2
/-- What stands at a path of a row's node bears an id of the row. -/
theorem at_mem : ∀ (f : Fo) (k : Nat) (r : List Nat) (u v : Tr), kidF f k = some u → atT u r = some v → v.id ∈ idsF f
  | .nil, k, r, u, v, h, _ => by rw [kidF_ge (by simp [foLen])] at h; cases h
  | .node b o key l q, 0, r, u, v, h, hv => by
    rw [idsF_node]
    have hu : u = ⟨key.1, key.2.1, key.2.2, l⟩ := by simp only [kidF, foDrop, headT] at h; cases h; rfl
    subst hu
    cases r with
    | nil => cases hv; simp
    | cons i r =>
      simp only [atT] at hv
      cases hk : kidF l i with
      | none => rw [hk] at hv; cases hv
      | some w =>
        rw [hk] at hv
        have := at_mem l i r w v hk hv
        simp [this]
  | .node b o key l q, k + 1, r, u, v, h, hv => by
    rw [idsF_node]
    have h2 : kidF q k = some u := by simpa [kidF, foDrop] using h
    have := at_mem q k r u v h2 hv
    simp [this]
theorem fpi_uniq : ∀ (f : Fo) (j k : Nat) (r : List Nat) (u v : Tr), (idsF f).Nodup → kidF f k = some u → atT u r = some v → fpi v.id j f = some ((j + k) :: r)
  | .nil, _, k, r, u, v, _, h, _ => by rw [kidF_ge (by simp [foLen])] at h; cases h
  | .node b o key l q, j, 0, r, u, v, hd, h, hv => by
    rw [idsF_node, List.nodup_cons, List.nodup_append] at hd
    have hu : u = ⟨key.1, key.2.1, key.2.2, l⟩ := by simp only [kidF, foDrop, headT] at h; cases h; rfl
    subst hu
    cases r with
    | nil => cases hv; simp [fpi]
    | cons i r =>
      simp only [atT] at hv
      cases hk : kidF l i with
      | none => rw [hk] at hv; cases hv
      | some w =>
        rw [hk] at hv
        simp only at hv
        have hm := at_mem l i r w v hk hv
        have h1 := fpi_uniq l 0 i r w v hd.2.1 hk hv
        rw [fpi, if_neg (fun e => hd.1 (by rw [e]; simp [hm])), h1]
        simp
  | .node b o key l q, j, k + 1, r, u, v, hd, h, hv => by
    rw [idsF_node, List.nodup_cons, List.nodup_append] at hd
    have h2 : kidF q k = some u := by simpa [kidF, foDrop] using h
    have hm := at_mem q k r u v h2 hv
    have h1 := fpi_uniq q (j + 1) k r u v hd.2.2.1 h2 hv
    have hnl : v.id ∉ idsF l := fun e => hd.2.2.2 _ e _ hm rfl
    rw [fpi, if_neg (fun e => hd.1 (by rw [e]; simp [hm])), fpi_none_mem _ l 0 hnl, h1]
    rw [show j + 1 + k = j + (k + 1) by omega]
/-- The path of an id is the path of the node that bears it. -/
theorem pathT_uniq {t v : Tr} {r : List Nat} (hd : DistT t) (hv : atT t r = some v) : pathT v.id t = some r := by
  obtain ⟨h1, h2⟩ := distT_kids hd
  cases r with
  | nil => cases hv; simp [pathT]
  | cons i r =>
    simp only [atT] at hv
    cases hk : kidF t.kids i with
    | none => rw [hk] at hv; cases hv
    | some u =>
      rw [hk] at hv
      simp only at hv
      have hm := at_mem t.kids i r u v hk hv
      rw [pathT, if_neg (fun e => h1 (by rw [e]; exact hm)), fpi_uniq t.kids 0 i r u v h2 hk hv, Nat.zero_add]
end Go.Proofs.Ythjniclhnfipdaa
