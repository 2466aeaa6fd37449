/-
  The document's own Count and Depth of a tree. No condition but that there are not too many nodes.
-/
import Derived.Test.YtbbiemnjidfglaaDoorRGreat
import Derived.Test.YtbbiemnjidfglaaDoorECount
namespace Go.Proofs.YtbbiemnjidfglaaDoor
open Go.RowKit
set_option linter.unusedVariables false
set_option linter.unusedSimpArgs false

def depN : Fo → Nat
  | .nil => 0
  | .node _ _ _ l r => max (depN l + 1) (depN r)
theorem depN_snoc : ∀ (f : Fo) (b o : Nat) (a : Int × Int × ByteArray) (l : Fo), depN (foSnoc f b o a l) = max (depN f) (depN l + 1)
  | .nil, _, _, _, _ => by simp [foSnoc, depN]
  | .node _ _ _ l' r, b, o, a, l => by simp only [foSnoc, depN, depN_snoc r b o a l]; omega
theorem depN_le : ∀ f : Fo, depN f ≤ foSize f
  | .nil => Nat.le_refl _
  | .node _ _ _ l r => by have := depN_le l; have := depN_le r; simp only [depN, foSize]; omega
theorem foSize_take : ∀ (k : Nat) (f : Fo), foSize (foTake k f) ≤ foSize f
  | 0, _ => by simp [foTake, foSize]
  | _ + 1, .nil => Nat.le_refl _
  | k + 1, .node _ _ _ l r => by have := foSize_take k r; simp only [foTake, foSize]; omega
theorem max_foldl : ∀ (d : Nat) (f : Fo) (m : Int), (depN f = 0 → (spF d f).foldl (fun m x => max m (x.1 : Int)) m = m) ∧ (0 < depN f → (spF d f).foldl (fun m x => max m (x.1 : Int)) m = max m ((d : Int) + depN f - 1))
  | _, .nil, _ => ⟨fun _ => rfl, fun h => by simp [depN] at h⟩
  | d, .node _ _ k l r, m => by
    have hd : depN (.node 0 0 k l r) = max (depN l + 1) (depN r) := rfl
    refine ⟨fun h => by simp only [depN] at h; omega, fun _ => ?_⟩
    simp only [spF, List.foldl_cons, List.foldl_append]
    obtain ⟨l1, l2⟩ := max_foldl (d + 1) l (max m (d : Int))
    obtain ⟨x, hx⟩ : ∃ x, x = (spF (d + 1) l).foldl (fun m x => max m (x.1 : Int)) (max m (d : Int)) := ⟨_, rfl⟩
    rw [← hx] at l1 l2 ⊢
    obtain ⟨r1, r2⟩ := max_foldl d r x
    obtain ⟨y, hy⟩ : ∃ y, y = (spF d r).foldl (fun m x => max m (x.1 : Int)) x := ⟨_, rfl⟩
    rw [← hy] at r1 r2 ⊢
    have hd2 : (depN (.node 0 0 k l r) : Int) = max ((depN l : Int) + 1) (depN r : Int) := by rw [hd]; omega
    show y = max m ((d : Int) + (depN (.node 0 0 k l r) : Int) - 1)
    rw [hd2]
    clear hd hd2 hx hy
    rcases Nat.eq_zero_or_pos (depN l) with h1 | h1 <;> rcases Nat.eq_zero_or_pos (depN r) with h2 | h2
    · have := l1 h1; have := r1 h2; omega
    · have := l1 h1; have := r2 h2; omega
    · have := l2 h1; have := r1 h2; omega
    · have := l2 h1; have := r2 h2; omega
theorem maxI_root (t : Tr) : maxI (spF 1 (rootF t)) = (depN t.kids : Int) + 1 := by
  have h := (max_foldl 1 (rootF t) 0).2
  have hd : depN (rootF t) = max (depN t.kids + 1) 0 := rfl
  have h2 := h (by omega)
  rw [maxI, h2]; omega
theorem lenI_root (t : Tr) : lenI (spF 1 (rootF t)) = (foSize t.kids : Int) + 1 := by
  rw [lenI, spF_length, rootF_size]; omega

set_option maxRecDepth 100000 in
set_option maxHeartbeats 1000000 in
theorem rcount_any : ∀ (m : Nat) (w : World) (S : Nat → Prop) (v : Value) (t : Tr), foSize t.kids < m → m ≤ 500000 → (∀ k, S k → k < w.heap.size) → TrAt w S v t →
    Calls Tryd.prog 18 #[v] w (IntC w ((foSize t.kids : Int) + 1)) := by
  intro m
  induction m with
  | zero => intro w S v t h; omega
  | succ m ih =>
    intro w S v t hm hm5 hS hv
    obtain ⟨ka, cap, rfl, hcp, hk⟩ := hv
    obtain ⟨id, kd, tx, ks⟩ := t
    simp only at hk hm hcp
    simp only
    obtain ⟨len, hlen⟩ : ∃ len, len = foLen ks := ⟨_, rfl⟩
    rw [← hlen]
    have hlen5 : len ≤ 500000 := by have := foLen_le ks; omega
    have HN := Lib.hid (And.intro hm hm5)
    have HLEN := Lib.hid hlen
    have HK := Lib.hid hk
    have HSS := Lib.hid hS
    have HIH := Lib.hid ih
    have hbox := heap_alloc_new w (.cells #[.int .i64 id, .int .i64 kd, .string tx, .slice ka len cap] 24)
    have hb0 : Below w.heap.size w (w.alloc (.cells #[.int .i64 id, .int .i64 kd, .string tx, .slice ka len cap] 24)) := (Below.refl _ w).alloc (Nat.le_refl _) _
    have H0 := Lib.hid (And.intro hb0 hbox)
    clear hlen hk hm hm5 hS ih hcp hbox hb0
    go_enter Tryd.func18, Tryd.ntmps18
    go_wp2_with fail
    go_loopw [3, 4] (fun nv i wr => ∃ (k : Nat) (a : Int), k ≤ len ∧ i = .int .i64 k ∧ nv = .int .i64 a ∧ 0 ≤ a ∧ a ≤ 500001 ∧ Hid (a = (foSize (foTake k ks) : Int) + 1) ∧ Hid (Below w.heap.size w wr ∧ wr.heap[w.heap.size]? = some (.cells #[.int .i64 id, .int .i64 kd, .string tx, .slice ka len cap] 24 (0, 0)))) (fun _ i _ => len - (intOf i).toNat)
    case atStart => exact ⟨0, _, Nat.zero_le _, rfl, rfl, by omega, by omega, Lib.hid (by simp [foTake, foSize]), H0⟩
    case round =>
      obtain ⟨k, a, hk, rfl, rfl, ha0, ha1, hae, hwr⟩ := hrel
      have p1 : wr.cell? ⟨w.heap.size, 3, none⟩ = some (.slice ka len cap) := by rw [cell_of_row wr _ 3 _ _ _ hwr.out.2]; rfl
      by_cases hlt : k < len
      · have hk1 : FoAt wr S ks ka := HK.out.kept fun x hx => ⟨hx, hwr.out.1.block x (HSS.out x hx)⟩
        obtain ⟨b0, o0, ⟨ki, kk, kt⟩, l', r, hd1', b, off, a1, n1, rfl, hSb, c0, c1, c2, c3, hc1, hl1⟩ := hk1.at k (by rw [← HLEN.out]; exact hlt)
        obtain ⟨_, _, _, _, _, e1, e2, hsz1, htk⟩ := foDrop_node k ks (by rw [← HLEN.out]; exact hlt)
        rw [hd1'] at e1; cases e1
        have hcall := HIH.out wr S (.agg #[.int .i64 ki, .int .i64 kk, .string kt, .slice a1 (foLen l') n1]) ⟨ki, kk, kt, l'⟩ (by have := HN.out.1; simp only; omega) (by have := HN.out.2; omega) (fun x hx => Nat.lt_of_lt_of_le (HSS.out x hx) hwr.out.1.size) ⟨a1, n1, rfl, hc1, hl1⟩
        obtain ⟨m1, hm1⟩ : ∃ m, m = foLen l' := ⟨_, rfl⟩
        rw [← hm1] at hcall c3
        simp only at c0 c1 c2 hcall
        have hnext : (foSize (foTake k ks) : Int) + 1 + ((foSize l' : Int) + 1) = (foSize (foTake (k + 1) ks) : Int) + 1 := by
          rw [htk]; rw [foSize_snoc]; omega
        have hbnd : foSize (foTake (k + 1) ks) ≤ 500000 := by have := foSize_take (k + 1) ks; have := HN.out; omega
        obtain ⟨q, hq⟩ : ∃ q : Int, q = (foSize l' : Int) + 1 := ⟨_, rfl⟩
        have hq5 : 0 ≤ q ∧ q ≤ 500000 := by have h1 := hsz1; have h2 := depN_le l'; have := HN.out; rw [hq]; omega
        rw [← hq] at hcall hnext
        have HC := Lib.hid hcall
        have HTK := Lib.hid (And.intro hnext hbnd)
        have hkl : (k : Int) < (len : Int) := by omega
        obtain ⟨hq0, hq1⟩ := hq5
        have hdl := Lib.hid (depN_le (foTake (k + 1) ks))
        clear hk1 hd1' hcall hm1 htk hl1 hc1 hsz1 hSb e2 hnext hbnd hq
        go_wp2_with fail
        refine HC.out.mono ?_
        rintro e w2 ⟨rfl, hb2⟩
        have HE : Hid (Below w.heap.size w w2 ∧ w2.heap[w.heap.size]? = some (.cells #[.int .i64 id, .int .i64 kd, .string tx, .slice (some ⟨b, off, none⟩) len cap] 24 (0, 0))) := Lib.hid ⟨hwr.out.1.trans (hb2.mono hwr.out.1.size), (hb2.block _ (lt_of_heap hwr.out.2)).trans hwr.out.2⟩
        clear hb2
        go_wp2_with fail
        refine ⟨⟨k + 1, a + q, by omega, by go_num, by go_num, by omega, by have h1 := HTK.out.1; have h2 := HTK.out.2; have h3 := hae.out; omega, Lib.hid (by have h1 := HTK.out.1; rw [hae.out]; exact h1), HE⟩, by simp [intOf]; omega⟩
      · have hkk : k = len := by omega
        have HKK := Lib.hid hkk
        have hall : a = (foSize ks : Int) + 1 := by rw [hae.out, foTake_all k ks (by rw [HKK.out, HLEN.out]; exact Nat.le_refl _)]
        have HALL := Lib.hid hall
        have hkl : ¬ (k : Int) < (len : Int) := by omega
        clear hkk hall
        go_wp2_with fail
        go_ret
        exact ⟨by rw [HALL.out]; rfl, hwr.out.1⟩

set_option maxRecDepth 100000 in
set_option maxHeartbeats 1000000 in
theorem rdepth_any : ∀ (m : Nat) (w : World) (S : Nat → Prop) (v : Value) (t : Tr), foSize t.kids < m → m ≤ 500000 → (∀ k, S k → k < w.heap.size) → TrAt w S v t →
    Calls Tryd.prog 20 #[v] w (IntC w ((depN t.kids : Int) + 1)) := by
  intro m
  induction m with
  | zero => intro w S v t h; omega
  | succ m ih =>
    intro w S v t hm hm5 hS hv
    obtain ⟨ka, cap, rfl, hcp, hk⟩ := hv
    obtain ⟨id, kd, tx, ks⟩ := t
    simp only at hk hm hcp
    simp only
    obtain ⟨len, hlen⟩ : ∃ len, len = foLen ks := ⟨_, rfl⟩
    rw [← hlen]
    have hlen5 : len ≤ 500000 := by have := foLen_le ks; omega
    have HN := Lib.hid (And.intro hm hm5)
    have HLEN := Lib.hid hlen
    have HK := Lib.hid hk
    have HSS := Lib.hid hS
    have HIH := Lib.hid ih
    have hbox := heap_alloc_new w (.cells #[.int .i64 id, .int .i64 kd, .string tx, .slice ka len cap] 24)
    have hb0 : Below w.heap.size w (w.alloc (.cells #[.int .i64 id, .int .i64 kd, .string tx, .slice ka len cap] 24)) := (Below.refl _ w).alloc (Nat.le_refl _) _
    have H0 := Lib.hid (And.intro hb0 hbox)
    clear hlen hk hm hm5 hS ih hcp hbox hb0
    go_enter Tryd.func20, Tryd.ntmps20
    go_wp2_with fail
    go_loopw [3, 4] (fun nv i wr => ∃ (k : Nat) (a : Int), k ≤ len ∧ i = .int .i64 k ∧ nv = .int .i64 a ∧ 0 ≤ a ∧ a ≤ 500001 ∧ Hid (a = (depN (foTake k ks) : Int)) ∧ Hid (Below w.heap.size w wr ∧ wr.heap[w.heap.size]? = some (.cells #[.int .i64 id, .int .i64 kd, .string tx, .slice ka len cap] 24 (0, 0)))) (fun _ i _ => len - (intOf i).toNat)
    case atStart => exact ⟨0, _, Nat.zero_le _, rfl, rfl, by omega, by omega, Lib.hid (by simp [foTake, depN]), H0⟩
    case round =>
      obtain ⟨k, a, hk, rfl, rfl, ha0, ha1, hae, hwr⟩ := hrel
      have p1 : wr.cell? ⟨w.heap.size, 3, none⟩ = some (.slice ka len cap) := by rw [cell_of_row wr _ 3 _ _ _ hwr.out.2]; rfl
      by_cases hlt : k < len
      · have hk1 : FoAt wr S ks ka := HK.out.kept fun x hx => ⟨hx, hwr.out.1.block x (HSS.out x hx)⟩
        obtain ⟨b0, o0, ⟨ki, kk, kt⟩, l', r, hd1', b, off, a1, n1, rfl, hSb, c0, c1, c2, c3, hc1, hl1⟩ := hk1.at k (by rw [← HLEN.out]; exact hlt)
        obtain ⟨_, _, _, _, _, e1, e2, hsz1, htk⟩ := foDrop_node k ks (by rw [← HLEN.out]; exact hlt)
        rw [hd1'] at e1; cases e1
        have hcall := HIH.out wr S (.agg #[.int .i64 ki, .int .i64 kk, .string kt, .slice a1 (foLen l') n1]) ⟨ki, kk, kt, l'⟩ (by have := HN.out.1; simp only; omega) (by have := HN.out.2; omega) (fun x hx => Nat.lt_of_lt_of_le (HSS.out x hx) hwr.out.1.size) ⟨a1, n1, rfl, hc1, hl1⟩
        obtain ⟨m1, hm1⟩ : ∃ m, m = foLen l' := ⟨_, rfl⟩
        rw [← hm1] at hcall c3
        simp only at c0 c1 c2 hcall
        have hnext : max (depN (foTake k ks) : Int) ((depN l' : Int) + 1) = (depN (foTake (k + 1) ks) : Int) := by
          rw [htk]; rw [depN_snoc]; omega
        have hbnd : foSize (foTake (k + 1) ks) ≤ 500000 := by have := foSize_take (k + 1) ks; have := HN.out; omega
        obtain ⟨q, hq⟩ : ∃ q : Int, q = (depN l' : Int) + 1 := ⟨_, rfl⟩
        have hq5 : 0 ≤ q ∧ q ≤ 500000 := by have h1 := hsz1; have h2 := depN_le l'; have := HN.out; rw [hq]; omega
        rw [← hq] at hcall hnext
        have HC := Lib.hid hcall
        have HTK := Lib.hid (And.intro hnext hbnd)
        have hkl : (k : Int) < (len : Int) := by omega
        obtain ⟨hq0, hq1⟩ := hq5
        have hdl := Lib.hid (depN_le (foTake (k + 1) ks))
        clear hk1 hd1' hcall hm1 htk hl1 hc1 hsz1 hSb e2 hnext hbnd hq
        go_wp2_with fail
        refine HC.out.mono ?_
        rintro e w2 ⟨rfl, hb2⟩
        have HE : Hid (Below w.heap.size w w2 ∧ w2.heap[w.heap.size]? = some (.cells #[.int .i64 id, .int .i64 kd, .string tx, .slice (some ⟨b, off, none⟩) len cap] 24 (0, 0))) := Lib.hid ⟨hwr.out.1.trans (hb2.mono hwr.out.1.size), (hb2.block _ (lt_of_heap hwr.out.2)).trans hwr.out.2⟩
        clear hb2
        go_wp2_with fail
        exact ⟨⟨k + 1, if a < q then q else a, by omega, by go_num, rfl, by split <;> omega, by have := HTK.out.2; have := hdl.out; split <;> omega, Lib.hid (by have h1 := HTK.out.1; have h3 := hae.out; split <;> omega), HE⟩, by simp [intOf]; omega⟩
      · have hkk : k = len := by omega
        have HKK := Lib.hid hkk
        have hall : a = (depN ks : Int) := by rw [hae.out, foTake_all k ks (by rw [HKK.out, HLEN.out]; exact Nat.le_refl _)]
        have HALL := Lib.hid hall
        have hkl : ¬ (k : Int) < (len : Int) := by omega
        clear hkk hall
        go_wp2_with fail
        go_ret
        exact ⟨by rw [HALL.out]; rfl, hwr.out.1⟩
end Go.Proofs.YtbbiemnjidfglaaDoor
