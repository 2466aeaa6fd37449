/-
  A row's node by its pointer. No condition but that the place is one of the row.
  next: one place on. No condition but that the rows are not too many, nor too long.
-/
import Derived.BigQuiet
import Derived.Deep.Quiet
import Derived.Test.YtfdcopegkhofnaaHPureQb
import Derived.Deep.RegionLaw
import Derived.Laws.OwnMore
import Derived.IntWalk
namespace Go.Proofs.Ytfdcopegkhofnaa
open Go.RowKit
set_option linter.unusedVariables false

theorem node_any (w : World) (b off n cap p : Nat) (hp : p < n) (hn : n ≤ 1000000000) : Calls Try.prog 104 #[.agg #[.slice (some ⟨b, off, none⟩) n cap, .int .i64 (p : Int)]] w fun e w' => e = .returned (.pointer (some ⟨b, off + p * 4, none⟩)) ∧ Below w.heap.size w w' := by
  have hpl : (p : Int) < (n : Int) := by omega
  go_enter Try.func104, Try.ntmps104
  go_wp2_with fail
  go_ret
  exact ⟨rfl, (Below.refl _ _).alloc (Nat.le_refl _) _⟩

theorem quiet_open {P : Program} {ops : Array Oper} {C : World → Prop} {Q : Exit → Act → World → Prop} {l : List Oper} {a : Act} (h : ∀ QQ : Act → Prop, (∀ a, (∀ w', C w' → Q .normal a w') → QQ a) → wpQuiet P ops C QQ l a) : wpQuiet P ops C (fun a' => ∀ w', C w' → Q .normal a' w') l a := h _ (fun _ h => h)
theorem frcells_at : ∀ (M : List Fr) (k : Nat) (s : Fr), M[k]? = some s → (M.flatMap Fr.cells)[k * 2]? = some (.slice s.a (foLen s.f) s.cap) ∧ (M.flatMap Fr.cells)[k * 2 + 1]? = some (.int .i64 s.p)
  | [], _, _, h => by simp at h
  | x :: M, 0, s, h => by
    simp at h; subst h
    simp [Fr.cells]
  | x :: M, k + 1, s, h => by
    have := frcells_at M k s (by simpa using h)
    rw [List.flatMap_cons]
    have e1 : (k + 1) * 2 = k * 2 + 1 + 1 := by omega
    rw [e1]
    simpa [Fr.cells] using this
theorem frcells_len (L : List Fr) : (L.flatMap Fr.cells).length = L.length * 2 := by
  induction L with
  | nil => rfl
  | cons s L ih => rw [List.flatMap_cons, List.length_append, ih, List.length_cons]; simp [Fr.cells]; omega
theorem frcells_set : ∀ (M : List Fr) (k : Nat) (s : Fr) (p : Int), M[k]? = some s → (M.flatMap Fr.cells).set (k * 2 + 1) (.int .i64 p) = (M.set k ⟨s.a, s.cap, s.f, p⟩).flatMap Fr.cells
  | [], _, _, _, h => by simp at h
  | x :: M, 0, s, p, h => by
    simp at h; subst h
    simp [Fr.cells]
  | x :: M, k + 1, s, p, h => by
    have := frcells_set M k s p (by simpa using h)
    rw [List.set_cons_succ, List.flatMap_cons, List.flatMap_cons, ← this]
    have e1 : (k + 1) * 2 + 1 = k * 2 + 1 + 1 + 1 := by omega
    rw [e1]
    simp [Fr.cells]
/-- The first rows of a row of rows. -/
theorem owns_first {w : World} {B n j cap : Nat} {a : Option Addr} {e : TypeId} {xs ys : List Value} (h : w.ownsRow B e 2 (.slice a n cap) n (xs ++ ys)) (hj : xs.length = j * 2) (hjn : j ≤ n) : w.ownsRow B e 2 (.slice a j cap) j xs := by
  rcases h.2 with ⟨hv, hn⟩ | ⟨g', cap', cur, hv, hB, hh, h3, h4, h5, h6⟩
  · cases hv
    have : j = 0 := by omega
    subst this
    rw [List.length_eq_zero_iff.1 (by omega : xs.length = 0)]
    exact World.ownsRow_nil _ _ _ _
  · cases hv
    refine ⟨hj, Or.inr ⟨g', cap, cur, rfl, hB, hh, by omega, h4, h5, ?_⟩⟩
    have h7 : (cur.toList.take (n * 2)).take (j * 2) = (xs ++ ys).take (j * 2) := by rw [h6]
    rw [List.take_take, Nat.min_eq_left (by omega)] at h7
    rw [h7, List.take_left' hj]
/-- The rows of a way lie in a row of the walk's own: the last one first. -/
def RowsAt (w : World) (rv : Value) (L : List Fr) : Prop := w.ownsRow 0 124 2 rv L.length (L.reverse.flatMap Fr.cells)
theorem RowsAt.kept {w w' : World} {rv : Value} {L : List Fr} (h : RowsAt w rv L) (hk : ∀ g, rv.ownBlock = some g → w'.heap[g]? = w.heap[g]?) : RowsAt w' rv L := owns_kept h fun g _ _ hg => hk g hg
/-- The row at a place. -/
theorem RowsAt.at {w : World} {a : Option Addr} {n cap : Nat} {L : List Fr} (h : RowsAt w (.slice a n cap) L) {k : Nat} {x : Fr} (hx : L.reverse[k]? = some x) : ∃ g, a = some ⟨g, 0, none⟩ ∧ n = L.length ∧ w.cell? ⟨g, k * 2, none⟩ = some (.slice x.a (foLen x.f) x.cap) ∧ w.cell? ⟨g, k * 2 + 1, none⟩ = some (.int .i64 x.p) ∧ (∀ j, w.frozen? ⟨g, j, none⟩ = false) := by
  have hk : k < L.length := by have := (List.getElem?_eq_some_iff.1 hx).1; rwa [List.length_reverse] at this
  have hn : n = L.length := by
    rcases h.2 with ⟨hv, h0⟩ | ⟨g, cap, cur, hv, _⟩
    · omega
    · cases hv; rfl
  subst hn
  have hf := h
  obtain ⟨g, cap', e, _⟩ := World.ownsRow.form h (by omega)
  cases e
  obtain ⟨c0, c1⟩ := frcells_at _ k x hx
  exact ⟨g, rfl, rfl, owns_cell h rfl _ _ c0, owns_cell h rfl _ _ c1, fun j => World.ownsRow.frozenAt hf j⟩
end Go.Proofs.Ytfdcopegkhofnaa
namespace Go.Proofs.Ytfdcopegkhofnaa
open Go.RowKit
set_option linter.unusedVariables false
set_option linter.unusedSimpArgs false

def NextC (rv : Value) (L : List Fr) (w : World) (e : Ending) (w' : World) : Prop := ∃ rv', e = .returned rv' ∧ RowsAt w' rv' (nextS L) ∧ (rv'.ownBlock = rv.ownBlock ∨ rv'.ownBlock = none) ∧ Touched w w' (fun x => rv.ownBlock = some x)
def NextI (ra : Option Addr) (n rc : Nat) (L : List Fr) (w : World) (j : Nat) (wr : World) : Prop := ∃ A R, A.length = j ∧ R.length + j = n ∧ nextS A = nextS L ∧ (∀ x ∈ A, x ∈ L) ∧ wr.ownsRow 0 124 2 (.slice ra n rc) n ((A.reverse ++ R).flatMap Fr.cells) ∧ Touched w wr (fun x => (Value.slice ra n rc).ownBlock = some x)
theorem NextI.drew {ra : Option Addr} {n rc j : Nat} {L : List Fr} {w wr : World} (h : NextI ra n rc L w j wr) : NextI ra n rc L w j wr.drew := by
  obtain ⟨A, R, h1, h2, h3, h4, h5, h6⟩ := h
  exact ⟨A, R, h1, h2, h3, h4, h5, h6.drew⟩
theorem NextC.drew {rv : Value} {L : List Fr} {w w' : World} {e : Ending} (h : NextC rv L w e w') : NextC rv L w e w'.drew := by
  obtain ⟨rv', h1, h2, h3, h4⟩ := h
  exact ⟨rv', h1, h2, h3, h4.drew⟩
/-- The last row that is still asked, and what a round makes of it. -/
theorem NextI.at {ra : Option Addr} {n rc k : Nat} {L : List Fr} {w wr : World} (h : NextI ra n rc L w (k + 1) wr) : ∃ (g : Nat) (x : Fr), ra = some ⟨g, 0, none⟩ ∧ x ∈ L ∧ (∀ j, wr.frozen? ⟨g, j, none⟩ = false) ∧ wr.cell? ⟨g, k * 2, none⟩ = some (.slice x.a (foLen x.f) x.cap) ∧ wr.cell? ⟨g, k * 2 + 1, none⟩ = some (.int .i64 x.p) ∧ k + 1 ≤ n ∧ n ≤ rc ∧
    ((x.p + 1 < (foLen x.f : Int) → NextC (.slice (some ⟨g, 0, none⟩) n rc) L w (.returned (.slice (some ⟨g, 0, none⟩) (k + 1) rc)) (wr.setCell ⟨g, k * 2 + 1, none⟩ (.int .i64 (x.p + 1)))) ∧ (¬ x.p + 1 < (foLen x.f : Int) → NextI (some ⟨g, 0, none⟩) n rc L w k (wr.setCell ⟨g, k * 2 + 1, none⟩ (.int .i64 (x.p + 1))))) := by
  obtain ⟨A, R, h1, h2, h3, h4, h5, h6⟩ := h
  obtain ⟨g, cap, e, hcap⟩ := h5.form (by omega)
  cases e
  cases A with
  | nil => simp at h1
  | cons x A =>
    have hA : A.length = k := by simpa using h1
    have hx : ((x :: A).reverse ++ R)[k]? = some x := by
      rw [List.reverse_cons, List.append_assoc, List.getElem?_append_right (by simp [hA])]; simp [hA]
    have hc := frcells_at _ k x hx
    have hst := (h5.stored (k * 2 + 1) (.int .i64 (x.p + 1))).1
    rw [frcells_set _ k x _ hx] at hst
    have hset : ((x :: A).reverse ++ R).set k ⟨x.a, x.cap, x.f, x.p + 1⟩ = (⟨x.a, x.cap, x.f, x.p + 1⟩ :: A).reverse ++ R := by
      rw [List.reverse_cons, List.reverse_cons, List.append_assoc, List.append_assoc, List.set_append_right _ _ (by simp [hA])]
      simp [hA]
    rw [hset] at hst
    have hb : (fun y => (Value.slice (some ⟨g, 0, none⟩) n rc).ownBlock = some y) = fun y => y = g := by
      funext y; simp [Value.ownBlock]; exact eq_comm
    have ht : Touched w (wr.setCell ⟨g, k * 2 + 1, none⟩ (.int .i64 (x.p + 1))) (fun y => (Value.slice (some ⟨g, 0, none⟩) n rc).ownBlock = some y) := by
      rw [hb] at h6 ⊢
      exact h6.trans (Touched.setCell (S := fun y => y = g) (a := ⟨g, _, none⟩) rfl _) (fun y hy => Or.inl hy)
    have hrc : n ≤ rc := by
      rcases h5.2 with ⟨hv, hn⟩ | ⟨g', cap', cur, hv, hB, hh, h3', _⟩
      · cases hv
      · cases hv; exact h3'
    refine ⟨g, x, rfl, h4 x (by simp), fun j => h5.frozenAt j, owns_cell h5 rfl _ _ hc.1, owns_cell h5 rfl _ _ hc.2, by omega, hrc, fun hl => ?_, fun hl => ?_⟩
    · have e : nextS L = ⟨x.a, x.cap, x.f, x.p + 1⟩ :: A := by rw [← h3, nextS, if_pos hl]
      refine ⟨_, rfl, ?_, Or.inl rfl, ht⟩
      unfold RowsAt
      rw [e]
      rw [List.flatMap_append] at hst
      have := owns_first (j := k + 1) hst (by rw [frcells_len, List.length_reverse, List.length_cons, hA]) (by omega)
      rw [List.length_cons, hA]
      exact this
    · refine ⟨A, ⟨x.a, x.cap, x.f, x.p + 1⟩ :: R, hA, by rw [List.length_cons]; omega, by rw [← h3, nextS, if_neg hl], fun y hy => h4 y (by simp [hy]), ?_, ht⟩
      rw [List.reverse_cons, List.append_assoc] at hst
      exact hst
theorem NextI.end {ra : Option Addr} {n rc : Nat} {L : List Fr} {w wr : World} (h : NextI ra n rc L w 0 wr) : NextC (.slice ra n rc) L w (.returned (.slice none 0 0)) wr := by
  obtain ⟨A, R, h1, h2, h3, h4, h5, h6⟩ := h
  rw [List.length_eq_zero_iff.1 h1] at h3
  refine ⟨_, rfl, ?_, Or.inr rfl, h6⟩
  rw [← h3]
  exact World.ownsRow_nil _ _ _ _
set_option maxRecDepth 100000 in
set_option maxHeartbeats 2000000 in
theorem next_any (w : World) (rv : Value) (L : List Fr) (h : RowsAt w rv L) (hL : L.length ≤ 1000000) (hx : ∀ x ∈ L, -1 ≤ x.p ∧ x.p ≤ 1000000000) : Calls Try.prog 148 #[rv] w (NextC rv L w) := by
  obtain ⟨ra, rc, rfl⟩ := owns_slice h
  obtain ⟨n, hn⟩ : ∃ n, n = L.length := ⟨_, rfl⟩
  have HS : Hid (NextI ra n rc L w n w) := Lib.hid ⟨L, [], hn.symm, by simp, rfl, fun x hx => hx, by rw [List.append_nil, hn]; exact h, by rw [hn]; exact Touched.refl _ _⟩
  have HX := Lib.hid hx
  rw [← hn] at hL ⊢
  clear h hx hn
  go_enter Try.func148, Try.ntmps148
  go_wp2_with fail
  go_loopw [3] (fun i wr => ∃ j : Nat, j ≤ n ∧ i = .int .i64 ((j : Int) - 1) ∧ Hid (NextI ra n rc L w j wr)) (fun i _ => (intOf i + 1).toNat)
  case atStart => exact ⟨n, Nat.le_refl _, rfl, HS⟩
  case round =>
    obtain ⟨j, hj, rfl, hh⟩ := hrel
    clear HS
    cases j with
    | zero =>
      have HE := Lib.hid hh.out.end
      clear hh
      have hz : ((0 : Nat) : Int) - 1 = -1 := by omega
      rw [hz]
      go_wp2_with fail
      go_ret
      exact HE.out
    | succ k =>
      obtain ⟨g, x, rfl, hxL, fz, c0, c1, hkn, hnr, hy, hno⟩ := hh.out.at
      have hxp := HX.out x hxL
      obtain ⟨xa, xc, xf, p⟩ := x
      obtain ⟨q, hq⟩ : ∃ q, q = foLen xf := ⟨_, rfl⟩
      simp only at c0 c1 hy hno hxp
      rw [← hq] at c0 hy hno
      have hk1 : ((k + 1 : Nat) : Int) - 1 = (k : Int) := by omega
      rw [hk1]
      have hkl : (k : Int) < (n : Int) := by omega
      have hkl1 : (k : Int) + 1 ≤ (n : Int) := by omega
      have hp1 : IntKind.i64.wrap (p + 1) = p + 1 := IntWalk.i64_in _ (by omega)
      have HXP := Lib.hid (And.intro hxp (And.intro hj hkn))
      by_cases hlt : p + 1 < (q : Int)
      · have HY := Lib.hid (hy hlt)
        clear hy hno hh hxp hj hk1 hkn
        go_wp2_with fail
        go_region
        all_goals
          go_wp2_with fail
          go_ret
          exact HY.out.drew
      · have HY := Lib.hid (hno hlt)
        clear hy hno hh hxp hj hk1 hkn
        go_wp2_with fail
        go_region
        all_goals
          go_wp2_with fail
          go_roundw
          case rel => exact ⟨k, by have := HXP.out.2.2; omega, by go_num, Lib.hid HY.out.drew⟩
          case measure => simp [intOf]
end Go.Proofs.Ytfdcopegkhofnaa
