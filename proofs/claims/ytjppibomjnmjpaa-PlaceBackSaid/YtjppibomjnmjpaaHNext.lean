/-
  next: one place on. No condition but that the rows are not too many, nor too long.
-/
import Derived.Deep.RegionLaw
import Derived.Laws.OwnMore
import Derived.IntWalk
import Derived.Test.YtjppibomjnmjpaaHNode
namespace Go.Proofs.Ytjppibomjnmjpaa
open Go.RowKit
set_option linter.unusedVariables false
set_option linter.unusedSimpArgs false

def NextC (rv : Value) (L : List Fr) (w : World) (e : Ending) (w' : World) : Prop := ∃ rv', e = .returned rv' ∧ RowsAt w' rv' (nextS L) ∧ (rv'.ownBlock = rv.ownBlock ∨ rv'.ownBlock = none) ∧ Touched w w' (fun x => rv.ownBlock = some x)
def NextI (ra : Option Addr) (n rc : Nat) (L : List Fr) (w : World) (j : Nat) (wr : World) : Prop := ∃ A R, A.length = j ∧ R.length + j = n ∧ nextS A = nextS L ∧ (∀ x ∈ A, x ∈ L) ∧ wr.ownsRow 0 57 2 (.slice ra n rc) n ((A.reverse ++ R).flatMap Fr.cells) ∧ Touched w wr (fun x => (Value.slice ra n rc).ownBlock = some x)
theorem NextI.drew {ra : Option Addr} {n rc j : Nat} {L : List Fr} {w wr : World} (h : NextI ra n rc L w j wr) : NextI ra n rc L w j wr.drew := by
  obtain ⟨A, R, h1, h2, h3, h4, h5, h6⟩ := h
  exact ⟨A, R, h1, h2, h3, h4, h5, h6.drew⟩
theorem NextC.drew {rv : Value} {L : List Fr} {w w' : World} {e : Ending} (h : NextC rv L w e w') : NextC rv L w e w'.drew := by
  obtain ⟨rv', h1, h2, h3, h4⟩ := h
  exact ⟨rv', h1, h2, h3, h4.drew⟩
/-- The last row that is still asked, and what a round makes of it. -/
theorem NextI.at {ra : Option Addr} {n rc k : Nat} {L : List Fr} {w wr : World} (h : NextI ra n rc L w (k + 1) wr) : ∃ (g : Nat) (x : Fr), ra = some ⟨g, 0, none⟩ ∧ x ∈ L ∧ (∀ j, wr.frozen? ⟨g, j, none⟩ = false) ∧ wr.cell? ⟨g, k * 2, none⟩ = some (.slice x.a (foLen x.f) x.cap) ∧ wr.cell? ⟨g, k * 2 + 1, none⟩ = some (.int .i64 x.p) ∧ k + 1 ≤ n ∧ n ≤ rc ∧
    ((x.p + 1 < (foLen x.f : Int) → NextC (.slice (some ⟨g, 0, none⟩) n rc) L w (.returned (.slice (some ⟨g, 0, none⟩) (k + 1) rc)) (wr.setCell ⟨g, k * 2 + 1, none⟩ (.int .i64 (x.p + 1)))) ∧ (¬ x.p + 1 < (foLen x.f : Int) → NextI (some ⟨g, 0, none⟩) n rc L w k (wr.setCell ⟨g, k * 2 + 1, none⟩ (.int .i64 (x.p + 1))))) := by
  obtain ⟨A, R, h1, h2, h3, h4, h5, h6⟩ := h
  obtain ⟨g, cap, e, hcap⟩ := h5.form (by omega)
  cases e
  cases A with
  | nil => simp at h1
  | cons x A =>
    have hA : A.length = k := by simpa using h1
    have hx : ((x :: A).reverse ++ R)[k]? = some x := by
      rw [List.reverse_cons, List.append_assoc, List.getElem?_append_right (by simp [hA])]; simp [hA]
    have hc := frcells_at _ k x hx
    have hst := (h5.stored (k * 2 + 1) (.int .i64 (x.p + 1))).1
    rw [frcells_set _ k x _ hx] at hst
    have hset : ((x :: A).reverse ++ R).set k ⟨x.a, x.cap, x.f, x.p + 1⟩ = (⟨x.a, x.cap, x.f, x.p + 1⟩ :: A).reverse ++ R := by
      rw [List.reverse_cons, List.reverse_cons, List.append_assoc, List.append_assoc, List.set_append_right _ _ (by simp [hA])]
      simp [hA]
    rw [hset] at hst
    have hb : (fun y => (Value.slice (some ⟨g, 0, none⟩) n rc).ownBlock = some y) = fun y => y = g := by
      funext y; simp [Value.ownBlock]; exact eq_comm
    have ht : Touched w (wr.setCell ⟨g, k * 2 + 1, none⟩ (.int .i64 (x.p + 1))) (fun y => (Value.slice (some ⟨g, 0, none⟩) n rc).ownBlock = some y) := by
      rw [hb] at h6 ⊢
      exact h6.trans (Touched.setCell (S := fun y => y = g) (a := ⟨g, _, none⟩) rfl _) (fun y hy => Or.inl hy)
    have hrc : n ≤ rc := by
      rcases h5.2 with ⟨hv, hn⟩ | ⟨g', cap', cur, hv, hB, hh, h3', _⟩
      · cases hv
      · cases hv; exact h3'
    refine ⟨g, x, rfl, h4 x (by simp), fun j => h5.frozenAt j, owns_cell h5 rfl _ _ hc.1, owns_cell h5 rfl _ _ hc.2, by omega, hrc, fun hl => ?_, fun hl => ?_⟩
    · have e : nextS L = ⟨x.a, x.cap, x.f, x.p + 1⟩ :: A := by rw [← h3, nextS, if_pos hl]
      refine ⟨_, rfl, ?_, Or.inl rfl, ht⟩
      unfold RowsAt
      rw [e]
      rw [List.flatMap_append] at hst
      have := owns_first (j := k + 1) hst (by rw [frcells_len, List.length_reverse, List.length_cons, hA]) (by omega)
      rw [List.length_cons, hA]
      exact this
    · refine ⟨A, ⟨x.a, x.cap, x.f, x.p + 1⟩ :: R, hA, by rw [List.length_cons]; omega, by rw [← h3, nextS, if_neg hl], fun y hy => h4 y (by simp [hy]), ?_, ht⟩
      rw [List.reverse_cons, List.append_assoc] at hst
      exact hst
theorem NextI.end {ra : Option Addr} {n rc : Nat} {L : List Fr} {w wr : World} (h : NextI ra n rc L w 0 wr) : NextC (.slice ra n rc) L w (.returned (.slice none 0 0)) wr := by
  obtain ⟨A, R, h1, h2, h3, h4, h5, h6⟩ := h
  rw [List.length_eq_zero_iff.1 h1] at h3
  refine ⟨_, rfl, ?_, Or.inr rfl, h6⟩
  rw [← h3]
  exact World.ownsRow_nil _ _ _ _
set_option maxRecDepth 100000 in
set_option maxHeartbeats 2000000 in
theorem next_any (w : World) (rv : Value) (L : List Fr) (h : RowsAt w rv L) (hL : L.length ≤ 1000000) (hx : ∀ x ∈ L, -1 ≤ x.p ∧ x.p ≤ 1000000000) : Calls Try.prog 48 #[rv] w (NextC rv L w) := by
  obtain ⟨ra, rc, rfl⟩ := owns_slice h
  obtain ⟨n, hn⟩ : ∃ n, n = L.length := ⟨_, rfl⟩
  have HS : Hid (NextI ra n rc L w n w) := Lib.hid ⟨L, [], hn.symm, by simp, rfl, fun x hx => hx, by rw [List.append_nil, hn]; exact h, by rw [hn]; exact Touched.refl _ _⟩
  have HX := Lib.hid hx
  rw [← hn] at hL ⊢
  clear h hx hn
  go_enter Try.func48, Try.ntmps48
  go_wp2_with fail
  go_loopw [3] (fun i wr => ∃ j : Nat, j ≤ n ∧ i = .int .i64 ((j : Int) - 1) ∧ Hid (NextI ra n rc L w j wr)) (fun i _ => (intOf i + 1).toNat)
  case atStart => exact ⟨n, Nat.le_refl _, rfl, HS⟩
  case round =>
    obtain ⟨j, hj, rfl, hh⟩ := hrel
    clear HS
    cases j with
    | zero =>
      have HE := Lib.hid hh.out.end
      clear hh
      have hz : ((0 : Nat) : Int) - 1 = -1 := by omega
      rw [hz]
      go_wp2_with fail
      go_ret
      exact HE.out
    | succ k =>
      obtain ⟨g, x, rfl, hxL, fz, c0, c1, hkn, hnr, hy, hno⟩ := hh.out.at
      have hxp := HX.out x hxL
      obtain ⟨xa, xc, xf, p⟩ := x
      obtain ⟨q, hq⟩ : ∃ q, q = foLen xf := ⟨_, rfl⟩
      simp only at c0 c1 hy hno hxp
      rw [← hq] at c0 hy hno
      have hk1 : ((k + 1 : Nat) : Int) - 1 = (k : Int) := by omega
      rw [hk1]
      have hkl : (k : Int) < (n : Int) := by omega
      have hkl1 : (k : Int) + 1 ≤ (n : Int) := by omega
      have hp1 : IntKind.i64.wrap (p + 1) = p + 1 := IntWalk.i64_in _ (by omega)
      have HXP := Lib.hid (And.intro hxp (And.intro hj hkn))
      by_cases hlt : p + 1 < (q : Int)
      · have HY := Lib.hid (hy hlt)
        clear hy hno hh hxp hj hk1 hkn
        go_wp2_with fail
        go_region
        all_goals
          go_wp2_with fail
          go_ret
          exact HY.out.drew
      · have HY := Lib.hid (hno hlt)
        clear hy hno hh hxp hj hk1 hkn
        go_wp2_with fail
        go_region
        all_goals
          go_wp2_with fail
          go_roundw
          case rel => exact ⟨k, by have := HXP.out.2.2; omega, by go_num, Lib.hid HY.out.drew⟩
          case measure => simp [intOf]
end Go.Proofs.Ytjppibomjnmjpaa
