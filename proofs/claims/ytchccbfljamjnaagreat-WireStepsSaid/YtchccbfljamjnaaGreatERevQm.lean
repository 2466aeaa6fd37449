/-
  .
-/
import Derived.Deep.RegionLaw
import Derived.Laws.OwnMore
import Derived.IntWalk
import Derived.Test.YtchccbfljamjnaaGreatEDefQm
import Derived.Test.YtchccbfljamjnaaGreatJPgQm
set_option maxRecDepth 100000
set_option maxHeartbeats 40000000
namespace Go.Proofs.YtchccbfljamjnaaGreat
open Go.RowKit
set_option linter.unusedVariables false
theorem vM : ∀ (M : List Seg) (k : Nat) (s : Seg), M[k]? = some s → (M.flatMap Seg.cells)[k * 2]? = some (.int .i64 (s.d : Int)) ∧ (M.flatMap Seg.cells)[k * 2 + 1]? = some s.v
 | [], _, _, h => by simp at h
 | x :: M, 0, s, h => by
   simp at h; subst h
   simp [Seg.cells]
 | x :: M, k + 1, s, h => by
   have := vM M k s (by simpa using h)
   rw [List.flatMap_cons]
   have e1 : (k + 1) * 2 = k * 2 + 1 + 1 := by omega
   rw [e1]
   simpa [Seg.cells] using this
theorem vV : ∀ (M : List Seg) (k : Nat) (s : Seg), k < M.length → (M.set k s).flatMap Seg.cells = ((M.flatMap Seg.cells).set (k * 2) (.int .i64 (s.d : Int))).set (k * 2 + 1) s.v
 | [], _, _, h => by simp at h
 | x :: M, 0, s, h => by simp [Seg.cells]
 | x :: M, k + 1, s, h => by
   have := vV M k s (by simpa using h)
   rw [pgF, List.flatMap_cons, List.flatMap_cons, this]
   have e1 : (k + 1) * 2 = k * 2 + 1 + 1 := by omega
   rw [e1]
   simp [Seg.cells]
def Turned (L M : List Seg) (i : Nat) : Prop := M.length = L.length ∧ ∀ k, k < L.length → M[k]? = if k < i ∨ L.length - i ≤ k then L[L.length - 1 - k]? else L[k]?
theorem Turned.start (L : List Seg) : Turned L L 0 := ⟨rfl, fun k hk => by rw [if_neg (by omega)]⟩
theorem Turned.step {L M : List Seg} {i : Nat} (h : Turned L M i) (hi : i + 1 + i < L.length) (s t : Seg) (hs : M[i]? = some s) (ht : M[L.length - 1 - i]? = some t) : Turned L ((M.set i t).set (L.length - 1 - i) s) (i + 1) := by
 refine ⟨by simp [h.1], fun k hk => ?_⟩
 have hM := h.2 k hk
 have h1 := h.2 i (by omega)
 have h2 := h.2 (L.length - 1 - i) (by omega)
 rw [if_neg (by omega)] at h1 h2
 rw [List.getElem?_set, List.getElem?_set]
 by_cases hk1 : k = L.length - 1 - i
 · subst hk1
   rw [if_pos rfl, if_pos (by simp [h.1]; omega), if_pos (by omega), ← hs, h1]
   congr 1; omega
 · rw [if_neg (Ne.symm hk1)]
   by_cases hk2 : k = i
   · subst hk2
     rw [if_pos rfl, if_pos (by rw [h.1]; omega), if_pos (by omega), ← ht, h2]
   · rw [if_neg (Ne.symm hk2), hM]
     by_cases hc : k < i ∨ L.length - i ≤ k
     · rw [if_pos hc, if_pos (by omega)]
     · rw [if_neg hc, if_neg (by omega)]
theorem Turned.done {L M : List Seg} {i : Nat} (h : Turned L M i) (hi : L.length ≤ i + 1 + i) : M = L.reverse := by
 apply List.ext_getElem?
 intro k
 by_cases hk : k < L.length
 · rw [List.getElem?_reverse hk, h.2 k hk]
   split
   · rfl
   · congr 1; omega
 · rw [List.getElem?_eq_none (by rw [h.1]; omega), List.getElem?_eq_none (by rw [List.length_reverse]; omega)]
def zaS (lv : Value) (L : List Seg) (w : World) (e : Ending) (w' : World) : Prop := e = .returned (.tuple #[]) ∧ w'.ownsRow 0 175 2 lv L.length (L.reverse.flatMap Seg.cells) ∧ za w w' (fun x => lv.ownBlock = some x)
def jC (la : Option Addr) (n lc : Nat) (L : List Seg) (w : World) (i : Nat) (wr : World) : Prop := ∃ M, Turned L M i ∧ wr.ownsRow 0 175 2 (.slice la n lc) n (M.flatMap Seg.cells) ∧ za w wr (fun x => (Value.slice la n lc).ownBlock = some x)
theorem jC.drew {la : Option Addr} {n lc i : Nat} {L : List Seg} {w wr : World} (h : jC la n lc L w i wr) : jC la n lc L w i wr.drew := by
 obtain ⟨M, h1, h2, h3⟩ := h
 exact ⟨M, h1, h2, h3.drew⟩
theorem jC.end {la : Option Addr} {n lc i : Nat} {L : List Seg} {w wr : World} (h : jC la n lc L w i wr) (hn : n = L.length) (hi : n ≤ i + 1 + i) : zaS (.slice la n lc) L w (.returned (.tuple #[])) wr := by
 obtain ⟨M, h1, h2, h3⟩ := h
 rw [h1.done (by omega)] at h2
 subst hn
 exact ⟨rfl, h2, h3⟩
theorem jC.at {la : Option Addr} {n lc i : Nat} {L : List Seg} {w wr : World} (h : jC la n lc L w i wr) (hn : n = L.length) (hi : i + 1 + i < n) : ∃ (g : Nat) (s t : Seg), la = some ⟨g, 0, none⟩ ∧ (∀ j, wr.frozen? ⟨g, j, none⟩ = false) ∧
 wr.cell? ⟨g, i * 2, none⟩ = some (.int .i64 (s.d : Int)) ∧ wr.cell? ⟨g, i * 2 + 1, none⟩ = some (.slice s.a (foLen s.f) s.cap) ∧ wr.cell? ⟨g, (n - 1 - i) * 2, none⟩ = some (.int .i64 (t.d : Int)) ∧ wr.cell? ⟨g, (n - 1 - i) * 2 + 1, none⟩ = some (.slice t.a (foLen t.f) t.cap) ∧
 jC (some ⟨g, 0, none⟩) n lc L w (i + 1) ((((wr.setCell ⟨g, i * 2, none⟩ (.int .i64 (t.d : Int))).setCell ⟨g, i * 2 + 1, none⟩ (.slice t.a (foLen t.f) t.cap)).setCell ⟨g, (n - 1 - i) * 2, none⟩ (.int .i64 (s.d : Int))).setCell ⟨g, (n - 1 - i) * 2 + 1, none⟩ (.slice s.a (foLen s.f) s.cap)) := by
 obtain ⟨M, h1, h2, h3⟩ := h
 obtain ⟨g, cap, e, _⟩ := h2.form (by omega)
 cases e
 obtain ⟨s, hs⟩ : ∃ s, M[i]? = some s := ⟨M[i]'(by have := h1.1; omega), List.getElem?_eq_getElem _⟩
 obtain ⟨t, ht⟩ : ∃ t, M[n - 1 - i]? = some t := ⟨M[n - 1 - i]'(by have := h1.1; omega), List.getElem?_eq_getElem _⟩
 have cs := vM M i s hs
 have ct := vM M _ t ht
 refine ⟨g, s, t, rfl, fun j => h2.frozenAt j, zK h2 rfl _ _ cs.1, zK h2 rfl _ _ cs.2, zK h2 rfl _ _ ct.1, zK h2 rfl _ _ ct.2, ?_⟩
 have k1 := (h2.stored (i * 2) (.int .i64 (t.d : Int))).1
 have k2 := (k1.stored (i * 2 + 1) (.slice t.a (foLen t.f) t.cap)).1
 have k3 := (k2.stored ((n - 1 - i) * 2) (.int .i64 (s.d : Int))).1
 have k4 := (k3.stored ((n - 1 - i) * 2 + 1) (.slice s.a (foLen s.f) s.cap)).1
 have ht' := ht
 rw [hn] at ht'
 refine ⟨(M.set i t).set (n - 1 - i) s, by rw [hn]; exact h1.step (by omega) s t hs ht', ?_, ?_⟩
 · rw [vV (M.set i t) _ s (by rw [List.length_set]; have := h1.1; omega), vV M i t (by have := h1.1; omega)]
   exact k4
 · have hb : (fun x => (Value.slice (some ⟨g, 0, none⟩) n lc).ownBlock = some x) = fun x => x = g := by
    funext x; simp [Value.ownBlock]; exact eq_comm
   rw [hb] at h3 ⊢
   have tr : ∀ {A B : World}, za w A (fun x => x = g) → za A B (fun x => x = g) → za w B (fun x => x = g) := fun p q => p.trans q (fun k hk => Or.inl hk)
   exact tr (tr (tr (tr h3 (za.setCell (S := fun x => x = g) (a := ⟨g, _, none⟩) rfl _)) (za.setCell (S := fun x => x = g) (a := ⟨g, _, none⟩) rfl _)) (za.setCell (S := fun x => x = g) (a := ⟨g, _, none⟩) rfl _)) (za.setCell (S := fun x => x = g) (a := ⟨g, _, none⟩) rfl _)
theorem Z8 (w : World) (la : Option Addr) (n lc : Nat) (L : List Seg) (hn : n = L.length) (hl : n ≤ 2000000) (ho : w.ownsRow 0 175 2 (.slice la n lc) n (L.flatMap Seg.cells)) : Calls Tryz.prog 133 #[.slice la n lc] w (zaS (.slice la n lc) L w) := by
 have HS : Hid (jC la n lc L w 0 w) := hH ⟨L, Turned.start L, ho, za.refl _ _⟩
 have HN := hH hn
 clear ho hn
 go_enter Tryz.func133, Tryz.ntmps133
 go_wp2_with fail
 go_loopw [2, 3] (fun vi vj wr => ∃ i : Nat, i ≤ n ∧ vi = .int .i64 i ∧ vj = .int .i64 ((n : Int) - 1 - i) ∧ Hid (jC la n lc L w i wr)) (fun vi _ _ => n - (intOf vi).toNat)
 case atStart => exact ⟨0, Nat.zero_le _, rfl, by simp, HS⟩
 case round =>
  obtain ⟨i, hi, rfl, rfl, hh⟩ := hrel
  by_cases hlt : i + 1 + i < n
  · obtain ⟨g, s, t, rfl, fz, c0, c1, c2, c3, hnx⟩ := hh.out.at HN.out hlt
    obtain ⟨p, hp⟩ : ∃ p, p = n - 1 - i := ⟨_, rfl⟩
    have hpi : (n : Int) - 1 - (i : Int) = (p : Int) := by omega
    rw [← hp] at c2 c3 hnx
    rw [hpi]
    have hip : (i : Int) < (p : Int) := by omega
    have hpn : (p : Int) < (n : Int) := by omega
    have hin : (i : Int) < (n : Int) := by omega
    have hi0 : (0 : Int) ≤ (i : Int) := by omega
    have hp0 : (0 : Int) ≤ (p : Int) := by omega
    have HX := hH (aN hnx (aN hp hpi))
    clear hnx hp hpi hh
    go_wp2_with fail
    go_region_law (fail)
    all_goals
     have HY : Hid (jC (some ⟨g, 0, none⟩) n lc L w (i + 1) ((((wr.setCell ⟨g, i * 2, none⟩ (.int .i64 (t.d : Int))).setCell ⟨g, i * 2 + 1, none⟩ (.slice t.a (foLen t.f) t.cap)).setCell ⟨g, p * 2, none⟩ (.int .i64 (s.d : Int))).setCell ⟨g, p * 2 + 1, none⟩ (.slice s.a (foLen s.f) s.cap)).drew) := hH HX.out.1.drew
     have hpe : (p : Int) - 1 = (n : Int) - 1 - ((i + 1 : Nat) : Int) := by have := HX.out.2.2; omega
     have HPE := hH hpe
     clear hpe c0 c1 c2 c3 fz
     go_wp2_with fail
     go_roundw
     case rel => exact ⟨i + 1, by omega, by go_num, by rw [HPE.out], HY⟩
     case measure => simp [intOf]; omega
  · have hji : ¬ (i : Int) < (n : Int) - 1 - i := by omega
    have HE := hH (hh.out.end HN.out (by omega))
    clear hh HS
    go_wp2_with fail
    go_end0
    exact HE.out
end Go.Proofs.YtchccbfljamjnaaGreat
