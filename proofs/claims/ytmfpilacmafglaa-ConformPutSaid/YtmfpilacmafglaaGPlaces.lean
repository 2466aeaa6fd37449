/-
  The program's map of names. No condition but that the kinds lie where they are said to lie.
-/
import Derived.Test.YtmfpilacmafglaaGKind
import Derived.Maps.OwnSet
import Derived.Maps.OwnOps
namespace Go.Proofs.Ytmfpilacmafglaa
open Go.RowKit Go.Maps

theorem lawS : Keyed Try.prog 9 := string_keyed Try.underlying9
theorem zeroI (w : World) : (zeroValue 3).run Try.prog w = .ok (.int .i64 0) w := by kernel_rfl
theorem make_hint (q : IntKind) (n : Int) (w : World) : (Instr.makeMap 89 (some (.int q n))).run Try.prog w = .ok (.map (some w.heap.size)) (w.alloc (.map #[] 0)) := by
  simp [Instr.makeMap, run_underlying Try.underlying89, asInt, asIntOf, Result.andThen]
theorem wf_nat {k : Nat} (h : k ≤ 1000000) : (Lit.int .i64 (k : Int)).wf = true := by
  simp only [Lit.wf, Bool.and_eq_true, decide_eq_true_eq]
  have e1 : IntKind.i64.min = -9223372036854775808 := rfl
  have e2 : IntKind.i64.max = 9223372036854775807 := rfl
  omega

theorem strKey (s : List UInt8) : WideAt.IsKeyLit (.string s) := True.intro
/-- What the map holds behind so many kinds. -/
structure PlOk (l : List Kd) (k : Nat) (D : DataW Value) : Prop where
  tidy : Tidy D
  le : Maps.size D ≤ k
  size : Maps.size D = k ↔ apart (l.take k) = true
  has : ∀ s, Maps.has D (.string s) = !fresh (l.take k) s
  find : apart (l.take k) = true → ∀ j x, j < k → l[j]? = some x → D.atKey (.string x.name.data.toList) (.lit (.int .i64 0)) = .lit (.int .i64 (j : Int))
theorem PlOk.start (l : List Kd) : PlOk l 0 (.map []) := ⟨tidy_empty, Nat.le_refl _, ⟨fun _ => rfl, fun _ => rfl⟩, fun _ => rfl, fun _ j _ h => by omega⟩
theorem PlOk.next {l : List Kd} {k : Nat} {D : DataW Value} {x : Kd} (h : PlOk l k D) (hx : l[k]? = some x) : PlOk l (k + 1) (D.put (.string x.name.data.toList) (.lit (.int .i64 (k : Int)))) := by
  have hs := size_put (k := .string x.name.data.toList) h.tidy (.lit (.int .i64 (k : Int)))
  have hh := h.has x.name.data.toList
  refine ⟨h.tidy.put (strKey _) _, ?_, ?_, fun s => ?_, fun ha j y hj hy => ?_⟩
  · rw [hs]; have := h.le; split <;> omega
  · rw [hs, apart_take hx, hh, Bool.and_eq_true, ← h.size]
    have := h.le
    cases fresh (l.take k) x.name.data.toList
    · simp; omega
    · simp
  · by_cases e : s = x.name.data.toList
    · subst e
      rw [has_put_same h.tidy.isMap (strKey _), fresh_take hx]
      simp
    · rw [has_put_other (by simpa using e), h.has, fresh_take hx]
      have : decide (x.name.data.toList ≠ s) = true := by simpa using fun h => e h.symm
      rw [this, Bool.and_true]
  · rw [apart_take hx, Bool.and_eq_true] at ha
    by_cases e : j = k
    · subst e
      rw [hx] at hy; cases hy
      exact atKey_put_same h.tidy.isMap (strKey _) _ _
    · have hjk : j < k := by omega
      have hne := fresh_at (k := j) ha.2 (by rw [List.getElem?_take, if_pos hjk]; exact hy)
      rw [atKey_put_other (by simpa using hne)]
      exact h.find ha.1 j y hjk hy

def OwnsP (w : World) (b n : Nat) (D : DataW Value) : Prop := w.ownsMap Try.prog 9 (plainElem Try.prog 3) b n D
def PlacesC (l : List Kd) (w : World) (e : Ending) (w' : World) : Prop := ∃ D b, e = .returned (.map (some b)) ∧ w.heap.size ≤ b ∧ OwnsP w' b l.length D ∧ Below w.heap.size w w' ∧ PlOk l l.length D
def PlacesR (w : World) (b : Nat) (l : List Kd) (i : Value) (wr : World) : Prop := ∃ (k : Nat) (D : DataW Value), k ≤ l.length ∧ i = .int .i64 k ∧ OwnsP wr b k D ∧ Below w.heap.size w wr ∧ PlOk l k D

set_option maxRecDepth 100000 in
set_option maxHeartbeats 1000000 in
theorem places_any (w : World) (a : Option Addr) (cap : Nat) (l : List Kd) (h : KindsAt w a l) (hl : l.length ≤ 1000000) (hf : ∀ k ∈ l, k.few) : Calls Try.prog 66 #[.slice a l.length cap] w (PlacesC l w) := by
  have hmm := make_hint
  have HK := Lib.hid h
  have HF := Lib.hid hf
  clear h hf
  go_enter Try.func66, Try.ntmps66
  go_wp2_with fail
  clear hmm
  go_loopw [11] (fun i wr => PlacesR w w.heap.size l i wr) (fun i _ => l.length - (intOf i).toNat)
  case atStart => exact ⟨0, .map [], Nat.zero_le _, rfl, World.ownsMap_made _ _ _ _, box_below _ _, PlOk.start l⟩
  case round =>
    obtain ⟨k, D, hkl, rfl, hown, hbel, hpl⟩ := hrel
    have HB := Lib.hid hbel
    have HP := Lib.hid hpl
    have HO := Lib.hid hown
    by_cases hlt : k < l.length
    · obtain ⟨x, hx⟩ : ∃ x, l[k]? = some x := ⟨l[k], List.getElem?_eq_getElem hlt⟩
      have hfx := (HF.out x (List.mem_of_getElem? hx)).1
      obtain ⟨b, off, rfl, hblt, hc⟩ := (HK.out.below hbel) (by omega)
      obtain ⟨sa, sc, c0, c1, c2, hs⟩ := hc k x hx
      have HX := Lib.hid (hpl.next hx)
      have HKEY := Lib.hid (WideMaps.keyOf_string_mk (P := Try.prog) Try.underlying9 (s := x.name) (by unfold maxLen; omega))
      have HW := Lib.hid (plainElem_int (H := Value) Try.underlying3 (wf_nat (k := k) (by omega)))
      have hkl2 : (k : Int) < (l.length : Int) := by omega
      clear hx hc hs hfx hown hbel hpl
      go_wp2_with (at_mapUpdate; refine wpList_mapUpdate_own _ rfl _ _ _ 89 rfl 9 3 lawS Try.underlying89 _ w.heap.size k _ rfl (World.ownsMap.alloc HO.out _) (by unfold maxLen; omega) _ _ _ rfl rfl HKEY.out _ [] HW.out ?_; intro w1 hown1 hgrow1; have HO1 := Lib.hid hown1; have HG1 := Lib.hid hgrow1; clear hown1 hgrow1)
      exact ⟨⟨k + 1, _, by omega, by go_num, HO1.out, (HB.out.alloc HB.out.size _).grown HG1.out (by have := HB.out.size; simp; omega) (fun j hj => by cases hj; exact Nat.le_refl _), HX.out⟩, by simp [intOf]; omega⟩
    · obtain rfl : k = l.length := by omega
      have hkl2 : ¬ (l.length : Int) < (l.length : Int) := by omega
      clear hown hbel hpl hlt
      go_wp2_with fail
      go_ret
      exact ⟨D, _, rfl, Nat.le_refl _, HO.out, HB.out, HP.out⟩
end Go.Proofs.Ytmfpilacmafglaa
