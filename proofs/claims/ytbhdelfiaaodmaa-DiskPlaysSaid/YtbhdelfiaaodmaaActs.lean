/-
  A row of acts that came in, read out of memory; what is read of a disk, as a text; what 'great' answers of a row of acts. No condition.
-/
import Derived.Test.YtbhdelfiaaodmaaWakes
import Derived.ProofKit
import Derived.OpenShut
import Derived.Deep.Slices
import Derived.Deep.Strs
import Derived.Laws.BytesArg
namespace Go.Proofs.Ytbhdelfiaaodmaa
open Go.ChangeShapes Go.WideShapes Go.ChangeAt Go.RowKit
open Extern.Stop (cell)

/-- An act as it lies in memory. -/
structure Act where
  kind : Int
  n : Int
  v : Value
  bs : List UInt8

instance : Inhabited Act := ⟨⟨0, 0, .nilIface, []⟩⟩

def ActsAt (w : World) (B : Nat) (a : Option Addr) (l : List Act) : Prop :=
  (0 < l.length → ∃ b off, a = some ⟨b, off, none⟩ ∧ b < B ∧ ∀ (i : Nat) (x : Act), l[i]? = some x → w.cell? ⟨b, off + i * 3, none⟩ = some (.int .i64 x.kind) ∧ w.cell? ⟨b, off + i * 3 + 1, none⟩ = some (.int .i64 x.n) ∧ w.cell? ⟨b, off + i * 3 + 2, none⟩ = some x.v) ∧
  ∀ x ∈ l, BytesAt w B x.v x.bs
theorem bytes_below {w w' : World} {B : Nat} {v : Value} {bs : List UInt8} (hB : ∀ ad : Addr, ∀ c cap, v = .slice (some ad) c cap → 0 < bs.length → ad.block < B) (h : BytesAt w B v bs) (hb : Below B w w') : BytesAt w' B v bs := by
  obtain ⟨a, cap, e, hc⟩ := h
  refine ⟨a, cap, e, fun h0 => ?_⟩
  obtain ⟨ad, ea, _, hu⟩ := hc h0
  have hd := hB ad _ _ (by rw [e, ea]) h0
  exact ⟨ad, ea, Or.inl hd, fun j u hj => by rw [World.cell?_of_block (w := w) (by rw [add_block]; exact hb.block _ hd)]; exact hu j u hj⟩
theorem ActsAt.kept {w w' : World} {B : Nat} {a : Option Addr} {l : List Act} (h : ActsAt w B a l) (hb : Below B w w') (hs : Stays w w') : ActsAt w' B a l := by
  refine ⟨fun h0 => ?_, fun x hx => (h.2 x hx).kept hb hs⟩
  obtain ⟨b, off, e, hbB, hc⟩ := h.1 h0
  refine ⟨b, off, e, hbB, fun i x hi => ?_⟩
  obtain ⟨h1, h2, h3⟩ := hc i x hi
  exact ⟨(World.cell?_of_block (w := w) (hb.block b hbB)).trans h1, (World.cell?_of_block (w := w) (hb.block b hbB)).trans h2, (World.cell?_of_block (w := w) (hb.block b hbB)).trans h3⟩

theorem cell_num {n : Int} (h : (Lit.int .u8 n).wf = true) : cell (UInt8.ofNat n.toNat) = .int .u8 n := by
  have := bounds_u8 h
  simp only [cell]
  congr 1
  have e : (UInt8.ofNat n.toNat).toNat = n.toNat := by
    rw [UInt8.toNat_ofNat']
    exact Nat.mod_eq_of_lt (by omega)
  rw [e]
  exact Int.toNat_of_nonneg this.1

section
variable {H : Type} {enc : TypeId × Value → H} {w : World} {base : Nat} {spare : Nat → Bool} {held : Bool}

/-- A slice of bytes that came in. -/
theorem open_bytes {fuel : Nat} {v : Value} {x : DataW H × List MemPlace} (h : DataW.trod enc Try.prog w base spare held fuel 31 [v] = some x) : ∃ bs, BytesAt w w.heap.size v bs := by
  rcases open_ints Try.underlying31 Try.underlying5 (by kernel_rfl) h with ⟨hcs, _⟩ | ⟨a, len, cap, zs, hcs, _, hl, hm, hz, _, hcell, hwz⟩
  · simp only [List.cons.injEq, and_true] at hcs
    subst hcs
    exact ⟨[], BytesAt.none _ _⟩
  · simp only [List.cons.injEq, and_true] at hcs
    subst hcs
    have hlz : len ≤ zs.length := by rw [hz]; split <;> omega
    refine ⟨(zs.take len).map fun n => UInt8.ofNat n.toNat, some a, cap, by simp [Nat.min_eq_left hlz], fun h0 => ⟨a, rfl, ?_, ?_⟩⟩
    · have h0' : 0 < zs.length := by simp at h0; omega
      have := cell_lt (hcell 0 h0')
      rw [add_block] at this
      exact Or.inl this
    · intro j u hj
      simp only [List.map_map, List.getElem?_map, Option.map_eq_some_iff] at hj
      obtain ⟨n, hn, rfl⟩ := hj
      rw [List.getElem?_take] at hn
      split at hn
      · have hj' : j < zs.length := (List.getElem?_eq_some_iff.1 hn).1
        rw [hcell j hj', List.getD_eq_getElem?_getD, hn]
        simp only [Option.getD_some, Function.comp, Option.some.injEq]
        exact (cell_num (hwz n (List.mem_of_getElem? hn))).symm
      · cases hn

/-- A row of acts that came in. -/
theorem open_acts {a : Option Addr} {len cap : Nat} {d : DataW H} {ps : List MemPlace} (h : DataW.Trod enc Try.prog w base spare held 22 (.slice a len cap) d ps) : ∃ l : List Act, l.length = len ∧ ActsAt w w.heap.size a l := by
  obtain ⟨fuel, hf⟩ := h
  rcases Deep.open_slice Try.underlying22 hf with ⟨hcs, _⟩ | ⟨ad, len', cap', m, n, D, Pl, hcs, _, hl, hm, hmm, _, hi⟩
  · simp [Value.cells] at hcs
    obtain ⟨rfl, rfl, rfl⟩ := hcs
    exact ⟨[], rfl, ⟨fun h => by simp at h, fun x hx => by cases hx⟩⟩
  · simp [Value.cells] at hcs
    obtain ⟨rfl, rfl, rfl⟩ := hcs
    have hle : len ≤ m := by rw [hmm]; split <;> omega
    have each : ∀ i, i < len → ∃ x : Act, w.cell? (ad.add (i * 3)) = some (.int .i64 x.kind) ∧ w.cell? (ad.add (i * 3 + 1)) = some (.int .i64 x.n) ∧ w.cell? (ad.add (i * 3 + 2)) = some x.v ∧ BytesAt w w.heap.size x.v x.bs := fun i hil => by
      obtain ⟨cs', hc, ht⟩ := hi i (by omega)
      have h3 : Try.prog.cellsOf 33 = 3 := by kernel_rfl
      rw [h3] at hc
      obtain ⟨_, hcl, hat⟩ := World.cells?_some hc
      obtain ⟨y0, y1, y2, n', _, _, t0, t1, t2⟩ := Deep.trod_struct3 Try.underlying33 ht
      match cs', hcl with
      | [c0, c1, c2], _ =>
        have k1 : Try.prog.cellsOf 3 = 1 := by kernel_rfl
        have k2 : Try.prog.cellsOf 31 = 1 := by kernel_rfl
        simp only [k1, k2, List.drop_zero, List.take_succ_cons, List.take_zero, List.drop_succ_cons] at t0 t1 t2
        obtain ⟨x0, e0, _, _⟩ := DataW.trod_int Try.underlying3 t0
        obtain ⟨x1, e1, _, _⟩ := DataW.trod_int Try.underlying3 t1
        obtain ⟨bs, hbs⟩ := open_bytes t2
        have a0 := hat 0 (by omega)
        have a1 := hat 1 (by omega)
        have a2 := hat 2 (by omega)
        rw [Deep.add_add] at a0 a1 a2
        simp only [List.cons.injEq, and_true] at e0 e1
        subst e0; subst e1
        exact ⟨⟨x0, x1, c2, bs⟩, by simpa using a0, by simpa using a1, by simpa using a2, hbs⟩
    obtain ⟨f, hf⟩ := Deep.choose_lt each
    refine ⟨(List.range len).map f, by simp, fun h0 => ?_, fun x hx => ?_⟩
    · have h0' : 0 < len := by simpa using h0
      obtain ⟨b, off, spot⟩ := ad
      have hsp := World.cell?_spot (hf 0 h0').1
      have : spot = none := by simpa [Addr.add] using hsp
      subst this
      refine ⟨b, off, rfl, ?_, fun i x hi => ?_⟩
      · have := cell_lt (hf 0 h0').1
        rw [add_block] at this; exact this
      · rw [List.getElem?_map, Option.map_eq_some_iff] at hi
        obtain ⟨j, hj, rfl⟩ := hi
        obtain ⟨hlt, rfl⟩ := List.getElem?_eq_some_iff.1 hj
        simp only [List.length_range] at hlt
        simp only [List.getElem_range]
        obtain ⟨h1, h2, h3, _⟩ := hf i hlt
        rw [Addr.add_mid] at h1 h2 h3
        exact ⟨h1, by rw [Nat.add_assoc]; exact h2, by rw [Nat.add_assoc]; exact h3⟩
    · simp only [List.mem_map, List.mem_range] at hx
      obtain ⟨i, hi, rfl⟩ := hx
      exact (hf i hi).2.2.2
end

end Go.Proofs.Ytbhdelfiaaodmaa
