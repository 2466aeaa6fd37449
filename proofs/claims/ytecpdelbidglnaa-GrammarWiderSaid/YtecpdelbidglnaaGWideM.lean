/-
  A wider grammar in memory: rows that were copied, and of which one element was changed. No condition.
-/
import Derived.Test.YtecpdelbidglnaaGWideP
import Derived.Laws.AppendOwn
namespace Go.Proofs.Ytecpdelbidglnaa
open Go.RowKit

theorem set3_at {cur : Array Value} {a : Nat} {u0 u1 u2 : Value} (h : a + 2 < cur.size) :
    let C := ((cur.setIfInBounds a u0).setIfInBounds (a + 1) u1).setIfInBounds (a + 2) u2
    C[a]? = some u0 ∧ C[a + 1]? = some u1 ∧ C[a + 2]? = some u2 ∧ ∀ j, j ≠ a → j ≠ a + 1 → j ≠ a + 2 → C[j]? = cur[j]? := by
  refine ⟨?_, ?_, ?_, fun j h0 h1 h2 => ?_⟩
  · rw [Array.getElem?_setIfInBounds_ne (by omega), Array.getElem?_setIfInBounds_ne (by omega), Array.getElem?_setIfInBounds_self_of_lt (by omega)]
  · rw [Array.getElem?_setIfInBounds_ne (by omega), Array.getElem?_setIfInBounds_self_of_lt (by simp; omega)]
  · rw [Array.getElem?_setIfInBounds_self_of_lt (by simp; omega)]
  · rw [Array.getElem?_setIfInBounds_ne (fun e => h2 e.symm), Array.getElem?_setIfInBounds_ne (fun e => h1 e.symm), Array.getElem?_setIfInBounds_ne (fun e => h0 e.symm)]

theorem store3 {Y : World} {g a : Nat} {cs : Array Value} {t : TypeId} (u0 u1 u2 : Value) (h : Y.heap[g]? = some (.cells cs t (0, 0))) (ha : a + 2 < cs.size) :
    (∃ o, Y.cell? ⟨g, a, none⟩ = some o) ∧ Y.frozen? ⟨g, a, none⟩ = false ∧ (∃ o, (Y.setCell ⟨g, a, none⟩ u0).cell? ⟨g, a + 1, none⟩ = some o) ∧ (Y.setCell ⟨g, a, none⟩ u0).frozen? ⟨g, a + 1, none⟩ = false ∧
    (∃ o, ((Y.setCell ⟨g, a, none⟩ u0).setCell ⟨g, a + 1, none⟩ u1).cell? ⟨g, a + 2, none⟩ = some o) ∧ ((Y.setCell ⟨g, a, none⟩ u0).setCell ⟨g, a + 1, none⟩ u1).frozen? ⟨g, a + 2, none⟩ = false ∧
    (((Y.setCell ⟨g, a, none⟩ u0).setCell ⟨g, a + 1, none⟩ u1).setCell ⟨g, a + 2, none⟩ u2).heap[g]? = some (.cells (((cs.setIfInBounds a u0).setIfInBounds (a + 1) u1).setIfInBounds (a + 2) u2) t (0, 0)) ∧
    ∀ k, k ≠ g → (((Y.setCell ⟨g, a, none⟩ u0).setCell ⟨g, a + 1, none⟩ u1).setCell ⟨g, a + 2, none⟩ u2).heap[k]? = Y.heap[k]? := by
  have h1 := heap_setCell_same Y g a cs t u0 h
  have h2 := heap_setCell_same _ g (a + 1) _ t u1 h1
  have h3 := heap_setCell_same _ g (a + 2) _ t u2 h2
  have z : ∀ (W : World) (cs' : Array Value) (i : Nat), W.heap[g]? = some (.cells cs' t (0, 0)) → i < cs'.size → ∃ o, W.cell? ⟨g, i, none⟩ = some o := fun W cs' i hw hi => ⟨cs'[i], by rw [cell_of_row W g i _ _ _ hw]; exact Array.getElem?_eq_getElem hi⟩
  refine ⟨z _ _ _ h (by omega), frozen_of_row _ _ _ _ _ h, z _ _ _ h1 (by simp; omega), frozen_of_row _ _ _ _ _ h1, z _ _ _ h2 (by simp; omega), frozen_of_row _ _ _ _ _ h2, h3, fun k hk => ?_⟩
  rw [Below.heap_setCell _ _ _ _ hk, Below.heap_setCell _ _ _ _ hk, Below.heap_setCell _ _ _ _ hk]

theorem kinds_wide {w X : World} {b off g1 i : Nat} {l : List Kd} {x' : Kd} {C : Array Value} {t : TypeId} {sa' : Option Addr} {sc' : Nat} (hk : KindsAt w (some ⟨b, off, none⟩) l) (hwx : Below w.heap.size w X) (hh : X.heap[g1]? = some (.cells C t (0, 0)))
    (hC : ∀ j, j < l.length * 3 → j ≠ i * 3 → j ≠ i * 3 + 1 → j ≠ i * 3 + 2 → C[j]? = w.cell? ⟨b, off + j, none⟩) (h0 : C[i * 3]? = some (.string x'.name)) (h1 : C[i * 3 + 1]? = some (.bool x'.text)) (h2 : C[i * 3 + 2]? = some (.slice sa' x'.slots.length sc'))
    (hs : SlotsAt X sa' x'.slots) : KindsAt X (some ⟨g1, 0, none⟩) (l.set i x') := fun hl => by
  rw [List.length_set] at hl
  obtain ⟨b', off', e, hblt, hc⟩ := hk hl
  cases e
  refine ⟨g1, 0, rfl, lt_of_some' hh, fun k y hy => ?_⟩
  rw [Nat.zero_add]
  have hkl : k < l.length := by have := (List.getElem?_eq_some_iff.1 hy).1; simpa using this
  have at_ : ∀ j, X.cell? ⟨g1, j, none⟩ = C[j]? := fun j => cell_of_row X g1 j _ _ _ hh
  by_cases e : k = i
  · subst e
    rw [List.getElem?_set, if_pos rfl, if_pos hkl] at hy
    cases hy
    exact ⟨sa', sc', (at_ _).trans h0, (at_ _).trans h1, (at_ _).trans h2, hs⟩
  · rw [List.getElem?_set, if_neg (fun h => e h.symm)] at hy
    obtain ⟨sa, sc, c0, c1, c2, hs2⟩ := hc k y hy
    exact ⟨sa, sc, ((at_ _).trans (hC (k * 3) (by omega) (by omega) (by omega) (by omega))).trans c0, ((at_ _).trans (hC (k * 3 + 1) (by omega) (by omega) (by omega) (by omega))).trans (by rw [← Nat.add_assoc]; exact c1),
      ((at_ _).trans (hC (k * 3 + 2) (by omega) (by omega) (by omega) (by omega))).trans (by rw [← Nat.add_assoc]; exact c2), hs2.below hwx⟩
theorem slots_wide {w X : World} {b off g1 i : Nat} {l : List Sl} {s' : Sl} {C : Array Value} {t : TypeId} {ka' : Option Addr} {kc' : Nat} (hk : SlotsAt w (some ⟨b, off, none⟩) l) (hwx : Below w.heap.size w X) (hh : X.heap[g1]? = some (.cells C t (0, 0)))
    (hC : ∀ j, j < l.length * 3 → j ≠ i * 3 → j ≠ i * 3 + 1 → j ≠ i * 3 + 2 → C[j]? = w.cell? ⟨b, off + j, none⟩) (h0 : C[i * 3]? = some (.slice ka' s'.kinds.length kc')) (h1 : C[i * 3 + 1]? = some (.int .i64 s'.least)) (h2 : C[i * 3 + 2]? = some (.int .i64 s'.most))
    (hs : IntsAt X ka' s'.kinds) : SlotsAt X (some ⟨g1, 0, none⟩) (l.set i s') := fun hl => by
  rw [List.length_set] at hl
  obtain ⟨b', off', e, hblt, hc⟩ := hk hl
  cases e
  refine ⟨g1, 0, rfl, lt_of_some' hh, fun k y hy => ?_⟩
  rw [Nat.zero_add]
  have hkl : k < l.length := by have := (List.getElem?_eq_some_iff.1 hy).1; simpa using this
  have at_ : ∀ j, X.cell? ⟨g1, j, none⟩ = C[j]? := fun j => cell_of_row X g1 j _ _ _ hh
  by_cases e : k = i
  · subst e
    rw [List.getElem?_set, if_pos rfl, if_pos hkl] at hy
    cases hy
    exact ⟨ka', kc', (at_ _).trans h0, (at_ _).trans h1, (at_ _).trans h2, hs⟩
  · rw [List.getElem?_set, if_neg (fun h => e h.symm)] at hy
    obtain ⟨sa, sc, c0, c1, c2, hs2⟩ := hc k y hy
    exact ⟨sa, sc, ((at_ _).trans (hC (k * 3) (by omega) (by omega) (by omega) (by omega))).trans c0, ((at_ _).trans (hC (k * 3 + 1) (by omega) (by omega) (by omega) (by omega))).trans (by rw [← Nat.add_assoc]; exact c1),
      ((at_ _).trans (hC (k * 3 + 2) (by omega) (by omega) (by omega) (by omega))).trans (by rw [← Nat.add_assoc]; exact c2), hs2.below hwx⟩

/-- The kinds that were laid down so far, and those still to come. -/
theorem ins_done {o c : Int} {r : List Int} : insO o true (c :: r) = c :: insO o true r := by rw [insO_true, insO_true]
theorem ins_later {o c : Int} {r : List Int} (h : ¬ o ≤ c) : insO o false (c :: r) = c :: insO o false r := by rw [insO, if_neg h]
theorem ins_here {o c : Int} {r : List Int} (h : o ≤ c) (h2 : ¬ c = o) : insO o false (c :: r) = o :: c :: insO o true r := by rw [insO_true]; show (if o ≤ c then (if c = o then c :: r else o :: c :: r) else c :: insO o false r) = _; rw [if_pos h, if_neg h2]
theorem ins_there {o c : Int} {r : List Int} (h : c = o) : insO o false (c :: r) = c :: insO o true r := by rw [insO_true]; show (if o ≤ c then (if c = o then c :: r else o :: c :: r) else c :: insO o false r) = _; rw [if_pos (by omega), if_pos h]
theorem ins_drop {o : Int} {d : Bool} {K all l : List Int} {k : Nat} {c : Int} (h : K ++ insO o d (l.drop k) = all) (hc : l[k]? = some c) : K ++ insO o d (c :: l.drop (k + 1)) = all := by rw [← drop_cons hc]; exact h
theorem ins_end {o : Int} {d : Bool} {K all l : List Int} {k : Nat} (h : K ++ insO o d (l.drop k) = all) (hk : l.length ≤ k) : K ++ insO o d [] = all := by rw [List.drop_eq_nil_of_le hk] at h; exact h

/-- The loop over the slot's kinds. -/
def WideL (X3 : World) (o : Int) (d : Bool) (l : List Int) (v dn i : Value) (wr : World) : Prop :=
  ∃ (k : Nat) (K : List Int) (d' : Bool), k ≤ l.length ∧ i = .int .i64 k ∧ dn = .bool d' ∧ K.length ≤ k + 1 ∧ wr.ownsRow X3.heap.size 3 1 v K.length (K.map (Value.int .i64)) ∧ Below X3.heap.size X3 wr ∧ K ++ insO o d' (l.drop k) = insO o d l ∧ (d' = false → K.length ≤ k)
theorem app_below {X3 wr w1 : World} {v : Value} {L : Nat} {xs : List Value} {e : TypeId} {size : Nat} {o : Obj} (hown : wr.ownsRow X3.heap.size e size v L xs) (hb : Below X3.heap.size X3 wr) (hg : (wr.alloc o).grownBy w1 v.ownBlock) : Below X3.heap.size X3 w1 :=
  (hb.alloc hb.size o).grown hg (by have := hb.size; simp; omega) (fun k hk => (hown.lt k hk).1)
theorem own_snoc {w1 : World} {B : Nat} {e : TypeId} {v : Value} {K : List Int} {c : Int} (h : w1.ownsRow B e 1 v (K.length + 1) (K.map (Value.int .i64) ++ [.int .i64 c])) : w1.ownsRow B e 1 v (K ++ [c]).length ((K ++ [c]).map (Value.int .i64)) := by
  rw [List.length_append, List.map_append]; exact h
theorem ints_keep {w w' : World} {B : Nat} {e : TypeId} {va : Option Addr} {n vc : Nat} {M : List Int} (h : w.ownsRow B e 1 (.slice va n vc) n (M.map (Value.int .i64))) (hw : ∀ k, B ≤ k → w'.heap[k]? = w.heap[k]?) : IntsAt w' va M := fun h0 => by
  rcases h.2 with ⟨hv, hn⟩ | ⟨g', cap', cur, hv, hB, hh, _, _, _, ht⟩
  · have := h.1; simp at this; omega
  · cases hv
    have hh' := (hw g' hB).trans hh
    refine ⟨g', 0, rfl, lt_of_some' hh', fun k x hx => ?_⟩
    rw [Nat.zero_add, cell_of_row w' g' k _ _ _ hh']
    have h1 : (M.map (Value.int .i64))[k]? = some (.int .i64 x) := by simp [hx]
    rw [← ht, List.getElem?_take] at h1
    split at h1
    · simpa using h1
    · cases h1
theorem wide_mem {w Z : World} {b off sb soff g1 g2 i j c2 vc : Nat} {l : List Kd} {x : Kd} {s : Sl} {cur1 cur2 : Array Value} {va : Option Addr} {o m : Int} {d : Bool} {t1 t2 : TypeId} {M : List Int} (hM : M = insO o d s.kinds)
    (HK : KindsAt w (some ⟨b, off, none⟩) l) (HS : SlotsAt w (some ⟨sb, soff, none⟩) x.slots) (hwz : Below w.heap.size w Z)
    (h1 : ∀ q, q < l.length * 3 → cur1[q]? = w.cell? ⟨b, off + q, none⟩) (h2 : ∀ q, q < x.slots.length * 3 → cur2[q]? = w.cell? ⟨sb, soff + q, none⟩) (s1 : i * 3 + 2 < cur1.size) (s2 : j * 3 + 2 < cur2.size)
    (z1 : Z.heap[g1]? = some (.cells (((cur1.setIfInBounds (i * 3) (.string x.name)).setIfInBounds (i * 3 + 1) (.bool x.text)).setIfInBounds (i * 3 + 2) (.slice (some ⟨g2, 0, none⟩) x.slots.length c2)) t1 (0, 0)))
    (z2 : Z.heap[g2]? = some (.cells (((cur2.setIfInBounds (j * 3) (.slice va M.length vc)).setIfInBounds (j * 3 + 1) (.int .i64 s.least)).setIfInBounds (j * 3 + 2) (.int .i64 m)) t2 (0, 0)))
    (hi : IntsAt Z va M) : KindsAt Z (some ⟨g1, 0, none⟩) (l.set i (wideK x j (wideS s o d m))) := by
  subst hM
  obtain ⟨a0, a1, a2, a3⟩ := set3_at (u0 := .string x.name) (u1 := .bool x.text) (u2 := .slice (some ⟨g2, 0, none⟩) x.slots.length c2) s1
  obtain ⟨b0, b1, b2, b3⟩ := set3_at (u0 := .slice va (insO o d s.kinds).length vc) (u1 := .int .i64 s.least) (u2 := .int .i64 m) s2
  refine kinds_wide HK hwz z1 (fun q hq n0 n1 n2 => (a3 q n0 n1 n2).trans (h1 q hq)) a0 a1 (sa' := some ⟨g2, 0, none⟩) (sc' := c2) ?_ ?_
  · rw [a2]
    show _ = some (Value.slice (some ⟨g2, 0, none⟩) (x.slots.set j (wideS s o d m)).length c2)
    rw [List.length_set]
  · exact slots_wide HS hwz z2 (fun q hq n0 n1 n2 => (b3 q n0 n1 n2).trans (h2 q hq)) b0 b1 b2 hi
theorem own_snoc2 {w1 : World} {B : Nat} {e : TypeId} {v : Value} {K : List Int} {o c : Int} (h : w1.ownsRow B e 1 v (K.length + 1 + 1) ((K.map (Value.int .i64) ++ [.int .i64 o]) ++ [.int .i64 c])) : w1.ownsRow B e 1 v ((K ++ [o]) ++ [c]).length (((K ++ [o]) ++ [c]).map (Value.int .i64)) := by
  rw [List.length_append, List.length_append, List.map_append, List.map_append]; exact h
end Go.Proofs.Ytecpdelbidglnaa
