/-
  Rows of ints that came in, and bytes with their room. No condition.
-/
import Derived.Test.YtljlijdgocfofaaDPair
import Derived.Test.YtljlijdgocfofaaCOpen
import Derived.ProofKit
import Derived.OpenShut
import Derived.Deep.Slices
import Derived.Laws.BytesArg
namespace Go.Proofs.Ytljlijdgocfofaa
open Go.ChangeShapes Go.WideShapes Go.ChangeAt Go.RowKit
open Extern.Stop (cell)

/-- These numbers, as bytes. -/
theorem byAt_numsC {w : World} {a : Addr} {len : Nat} {zs : List Int} (hc : ∀ i, i < zs.length → w.cell? (a.add i) = some (.int .u8 (zs.getD i 0))) (hw : ∀ n ∈ zs, (Lit.int .u8 n).wf = true) :
    ByAt w (some a) ((zs.take len).map fun n => UInt8.ofNat n.toNat) := by
  refine ⟨fun e => (by cases e), fun ad e j u hj => ?_⟩
  cases e
  rw [List.getElem?_map, Option.map_eq_some_iff] at hj
  obtain ⟨n, hn, rfl⟩ := hj
  rw [List.getElem?_take] at hn
  split at hn
  · have hj' : j < zs.length := (List.getElem?_eq_some_iff.1 hn).1
    rw [hc j hj', List.getD_eq_getElem?_getD, hn]
    exact congrArg some (cell_num (hw n (List.mem_of_getElem? hn))).symm
  · cases hn
/-- A row of ints that came in. -/
def IntsAt (w : World) (a : Option Addr) (l : List Int) : Prop :=
  0 < l.length → ∃ b off, a = some ⟨b, off, none⟩ ∧ b < w.heap.size ∧ ∀ k x, l[k]? = some x → w.cell? ⟨b, off + k, none⟩ = some (.int .i64 x)
section
variable {H : Type} {enc : TypeId × Value → H} {w : World} {base : Nat} {spare : Nat → Bool} {held : Bool}
theorem open_ints' {a : Option Addr} {len cap : Nat} {d : DataW H} {ps : List MemPlace} (h : DataW.Trod enc Try.prog w base spare held 35 (.slice a len cap) d ps) : ∃ l : List Int, l.length = len ∧ IntsAt w a l := by
  obtain ⟨fuel, hf⟩ := h
  rcases Deep.open_slice Try.underlying35 hf with ⟨hcs, _⟩ | ⟨ad, len', cap', m, n, D, Pl, hcs, _, hl, hm, hmm, _, hi⟩
  · simp [Value.cells] at hcs
    obtain ⟨rfl, rfl, rfl⟩ := hcs
    exact ⟨[], rfl, fun h => by simp at h⟩
  · simp [Value.cells] at hcs
    obtain ⟨rfl, rfl, rfl⟩ := hcs
    have hle : len ≤ m := by rw [hmm]; split <;> omega
    have each : ∀ i, i < len → ∃ x : Int, w.cell? (ad.add i) = some (.int .i64 x) := fun i hil => by
      obtain ⟨cs', hc, ht⟩ := hi i (by omega)
      have h3 : Try.prog.cellsOf 3 = 1 := by kernel_rfl
      rw [h3, Nat.mul_one] at hc
      obtain ⟨_, hcl, hat⟩ := World.cells?_some hc
      match cs', hcl with
      | [c0], _ =>
        obtain ⟨x0, e0, _, _⟩ := DataW.trod_int Try.underlying3 ht
        have a0 := hat 0 (by omega)
        rw [Deep.add_add] at a0
        simp only [List.cons.injEq, and_true] at e0
        subst e0
        exact ⟨x0, by simpa using a0⟩
    obtain ⟨f, hf⟩ := Deep.choose_lt each
    refine ⟨(List.range len).map f, by simp, fun h0 => ?_⟩
    have h0' : 0 < len := by simpa using h0
    obtain ⟨b, off, spot⟩ := ad
    have hsp := World.cell?_spot (hf 0 h0')
    have : spot = none := by simpa [Addr.add] using hsp
    subst this
    have hlt := World.block_lt_of_cell? w _ (hf 0 h0')
    rw [Addr.add_mid] at hlt
    refine ⟨b, off, rfl, hlt, fun i x hi => ?_⟩
    rw [List.getElem?_map, Option.map_eq_some_iff] at hi
    obtain ⟨j, hj, rfl⟩ := hi
    obtain ⟨hlt, rfl⟩ := List.getElem?_eq_some_iff.1 hj
    simp only [List.length_range] at hlt
    simp only [List.getElem_range]
    have h1 := hf i hlt
    rw [Addr.add_mid] at h1
    exact h1
/-- A slice of bytes that came in. -/
theorem open_bytesC {fuel : Nat} {v : Value} {x : DataW H × List MemPlace} (h : DataW.trod enc Try.prog w base spare held fuel 22 [v] = some x) : ∃ (bs : List UInt8) (a : Option Addr) (cap : Nat), v = .slice a bs.length cap ∧ ByAt w a bs ∧ bs.length ≤ cap ∧ (cap : Int) ≤ 9223372036854775807 := by
  rcases open_ints Try.underlying22 Try.underlying5 (by kernel_rfl) h with ⟨hcs, _⟩ | ⟨a, len, cap, zs, hcs, _, hl, hm, hz, _, hcell, hwz⟩
  · simp only [List.cons.injEq, and_true] at hcs
    subst hcs
    exact ⟨[], none, 0, rfl, ⟨fun _ => rfl, fun _ _ j u h => by simp at h⟩, Nat.le_refl _, by omega⟩
  · simp only [List.cons.injEq, and_true] at hcs
    subst hcs
    have hlz : len ≤ zs.length := by rw [hz]; split <;> omega
    exact ⟨(zs.take len).map fun n => UInt8.ofNat n.toNat, some a, cap, by simp [Nat.min_eq_left hlz], byAt_numsC hcell hwz, by simp; omega, by unfold maxLen at hm; omega⟩
end
end Go.Proofs.Ytljlijdgocfofaa
