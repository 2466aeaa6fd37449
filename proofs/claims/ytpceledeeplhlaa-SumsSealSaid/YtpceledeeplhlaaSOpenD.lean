/-
  Bytes that came in, and rows of bytes that came in. No condition.
-/
import Derived.Test.YtpceledeeplhlaaSWakes
import Derived.ProofKit
import Derived.OpenShut
import Derived.Deep.Slices
import Derived.Deep.Matrix
import Derived.Laws.BytesArg
namespace Go.Proofs.Ytpceledeeplhlaa
open Go.ChangeShapes Go.WideShapes Go.ChangeAt Go.RowKit
open Extern.Stop (cell)

theorem wf_u8 {n : Int} (h : (Lit.int .u8 n).wf = true) : 0 ≤ n ∧ n < 256 := by
  simp only [Lit.wf, Bool.and_eq_true, decide_eq_true_eq] at h
  have e1 : IntKind.u8.min = 0 := rfl
  have e2 : IntKind.u8.max = 255 := rfl
  omega
theorem wf_u32 {n : Int} (h : (Lit.int .u32 n).wf = true) : 0 ≤ n ∧ n < 4294967296 := by
  simp only [Lit.wf, Bool.and_eq_true, decide_eq_true_eq] at h
  have e1 : IntKind.u32.min = 0 := rfl
  have e2 : IntKind.u32.max = 4294967295 := rfl
  omega
theorem cell_num {n : Int} (h : (Lit.int .u8 n).wf = true) : cell (UInt8.ofNat n.toNat) = .int .u8 n := by
  have hb := wf_u8 h
  show Value.int .u8 ((UInt8.ofNat n.toNat).toNat : Int) = _
  rw [UInt8.toNat_ofNat']
  congr 1
  omega
/-- These numbers, as bytes. -/
theorem byAt_nums {w : World} {a : Addr} {len : Nat} {zs : List Int} (hc : ∀ i, i < zs.length → w.cell? (a.add i) = some (.int .u8 (zs.getD i 0))) (hw : ∀ n ∈ zs, (Lit.int .u8 n).wf = true) :
    ByAt w (some a) ((zs.take len).map fun n => UInt8.ofNat n.toNat) := by
  refine ⟨fun e => (by cases e), fun ad e j u hj => ?_⟩
  cases e
  rw [List.getElem?_map, Option.map_eq_some_iff] at hj
  obtain ⟨n, hn, rfl⟩ := hj
  rw [List.getElem?_take] at hn
  split at hn
  · have hj' : j < zs.length := (List.getElem?_eq_some_iff.1 hn).1
    rw [hc j hj', List.getD_eq_getElem?_getD, hn]
    exact congrArg some (cell_num (hw n (List.mem_of_getElem? hn))).symm
  · cases hn
section
variable {w : World} {base : Nat} {spare : Nat → Bool} {held : Bool} {H : Type} {enc : TypeId × Value → H}
/-- A slice of bytes that came in. -/
theorem open_bytes {fuel : Nat} {v : Value} {x : DataW H × List MemPlace} (h : DataW.trod enc Try.prog w base spare held fuel 22 [v] = some x) : ∃ (bs : List UInt8) (a : Option Addr) (cap : Nat), v = .slice a bs.length cap ∧ ByAt w a bs ∧ bs.length ≤ cap ∧ (cap : Int) ≤ 9223372036854775807 := by
  rcases open_ints Try.underlying22 Try.underlying5 (by kernel_rfl) h with ⟨hcs, _⟩ | ⟨a, len, cap, zs, hcs, _, hl, hm, hz, _, hcell, hwz⟩
  · simp only [List.cons.injEq, and_true] at hcs
    subst hcs
    exact ⟨[], none, 0, rfl, ByAt.nil _ _, Nat.le_refl _, by omega⟩
  · simp only [List.cons.injEq, and_true] at hcs
    subst hcs
    have hlz : len ≤ zs.length := by rw [hz]; split <;> omega
    exact ⟨(zs.take len).map fun n => UInt8.ofNat n.toNat, some a, cap, by simp [Nat.min_eq_left hlz], byAt_nums hcell hwz, by simp; omega, by unfold maxLen at hm; omega⟩
/-- Rows of bytes: a slice of slices. -/
def RowsAt (w : World) (a : Option Addr) (l : List (List UInt8)) : Prop := (a = none → l = []) ∧ ∀ ad, a = some ad → ∀ j bs, l[j]? = some bs → ∃ b c, w.cell? (ad.add j) = some (.slice b bs.length c) ∧ ByAt w b bs
theorem open_rows {fuel : Nat} {v : Value} {x : DataW H × List MemPlace} (h : DataW.trod enc Try.prog w base (fun _ => true) held fuel 32 [v] = some x) : ∃ (l : List (List UInt8)) (a : Option Addr) (cap : Nat), v = .slice a l.length cap ∧ RowsAt w a l ∧ (l.length : Int) ≤ 9223372036854775807 ∧ ∀ bs ∈ l, (bs.length : Int) ≤ 9223372036854775807 := by
  rcases Deep.open_int_rows Try.underlying32 Try.underlying22 Try.underlying5 (by kernel_rfl) (by kernel_rfl) h with ⟨hcs, _⟩ | ⟨a, len, cap, A, L, C, Z, hcs, _, hl, hm, _, hi⟩
  · simp only [List.cons.injEq, and_true] at hcs
    subst hcs
    exact ⟨[], none, 0, rfl, ⟨fun _ => rfl, fun _ e => by cases e⟩, by simp, fun bs hb => by cases hb⟩
  · simp only [List.cons.injEq, and_true] at hcs
    subst hcs
    have hlz : ∀ r, r < len → L r ≤ (Z r).length := fun r hr => by obtain ⟨_, h1, _, h3, _⟩ := hi r (by omega); omega
    refine ⟨(List.range len).map fun r => ((Z r).take (L r)).map fun n => UInt8.ofNat n.toNat, some a, cap, by simp, ⟨fun e => (by cases e), fun ad e j bs hj => ?_⟩, by simp; unfold maxLen at hm; omega, fun bs hb => ?_⟩
    · cases e
      rw [List.getElem?_map, Option.map_eq_some_iff] at hj
      obtain ⟨r, hr, rfl⟩ := hj
      obtain ⟨hlt, rfl⟩ := List.getElem?_eq_some_iff.1 hr
      simp only [List.length_range] at hlt
      simp only [List.getElem_range]
      obtain ⟨h1, h2, h3, h4, h5, h6, h7⟩ := hi j (by omega)
      refine ⟨A j, C j, by rw [h1]; simp [Nat.min_eq_left (hlz j hlt)], ?_⟩
      cases hA : A j with
      | none =>
        have := h6 hA
        have hL : L j = 0 := by omega
        rw [hL]; exact ByAt.nil _ _
      | some a' => exact byAt_nums (fun i hi => (h7 a' hA).2 i (by omega)) h5
    · simp only [List.mem_map, List.mem_range] at hb
      obtain ⟨r, hr, rfl⟩ := hb
      obtain ⟨_, h2, h3, h4, _⟩ := hi r (by omega)
      simp
      unfold maxLen at h3
      omega
end
end Go.Proofs.Ytpceledeeplhlaa
