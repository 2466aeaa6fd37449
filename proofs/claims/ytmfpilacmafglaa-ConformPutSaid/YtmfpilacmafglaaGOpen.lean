/-
  Grammars and rows of ints that came in, read out of memory. No condition.
-/
import Derived.Test.YtmfpilacmafglaaGLawF
import Derived.ProofKit
import Derived.OpenShut
import Derived.Deep.Slices
import Derived.Deep.Strs
import Derived.Lib.SmallJoins
import Derived.Laws.BytesArg
namespace Go.Proofs.Ytmfpilacmafglaa
open Go.ChangeShapes Go.WideShapes Go.ChangeAt Go.RowKit

section
variable {H : Type} {enc : TypeId × Value → H} {w : World} {base : Nat} {spare : Nat → Bool} {held : Bool}

theorem add_block (a : Addr) (j : Nat) : (a.add j).block = a.block := by unfold Addr.add; split <;> rfl
set_option maxRecDepth 100000 in
theorem open_intsG {fuel : Nat} {v : Value} {x : DataW H × List MemPlace} (h : DataW.trod enc Try.prog w base spare held fuel 64 [v] = some x) :
    ∃ (l : List Int) (a : Option Addr) (cap : Nat), v = .slice a l.length cap ∧ IntsAt w a l ∧ (l.length : Int) ≤ 9223372036854775807 := by
  rcases Deep.open_slice Try.underlying64 h with ⟨hcs, _⟩ | ⟨ad, len, cap, m, n, D, Pl, hcs, _, hl, hm, hmm, _, hi⟩
  · simp only [List.cons.injEq, and_true] at hcs
    subst hcs
    exact ⟨[], none, 0, rfl, fun h => by simp at h, by simp⟩
  · simp only [List.cons.injEq, and_true] at hcs
    subst hcs
    have hle : len ≤ m := by rw [hmm]; split <;> omega
    have each : ∀ i, i < len → ∃ x : Int, w.cell? (ad.add i) = some (.int .i64 x) := fun i hil => by
      obtain ⟨cs', hc, ht⟩ := hi i (by omega)
      have h3 : Try.prog.cellsOf 3 = 1 := by kernel_rfl
      rw [h3, Nat.mul_one] at hc
      obtain ⟨_, hcl, hat⟩ := World.cells?_some hc
      match cs', hcl with
      | [c0], _ =>
        obtain ⟨x0, e0, _, _⟩ := DataW.trod_int Try.underlying3 ht
        have a0 := hat 0 (by omega)
        rw [Deep.add_add] at a0
        simp only [List.cons.injEq, and_true] at e0
        subst e0
        exact ⟨x0, by simpa using a0⟩
    obtain ⟨f, hf⟩ := Deep.choose_lt each
    refine ⟨(List.range len).map f, some ad, cap, by simp, fun h0 => ?_, by simp only [List.length_map, List.length_range]; unfold maxLen at hm; omega⟩
    have h0' : 0 < len := by simpa using h0
    obtain ⟨b, off, spot⟩ := ad
    have hsp := World.cell?_spot (hf 0 h0')
    have : spot = none := by simpa [Addr.add] using hsp
    subst this
    have hlt := World.block_lt_of_cell? w _ (hf 0 h0')
    rw [Addr.add_mid] at hlt
    refine ⟨b, off, rfl, hlt, fun i x hi => ?_⟩
    rw [List.getElem?_map, Option.map_eq_some_iff] at hi
    obtain ⟨j, hj, rfl⟩ := hi
    obtain ⟨hlt, rfl⟩ := List.getElem?_eq_some_iff.1 hj
    simp only [List.length_range] at hlt
    simp only [List.getElem_range]
    have h1 := hf i hlt
    rw [Addr.add_mid] at h1
    exact h1

set_option maxRecDepth 100000 in
theorem open_slot (fuel : Nat) (cs : List Value) (x : DataW H × List MemPlace) (h : DataW.trod enc Try.prog w base spare held fuel 87 cs = some x) :
    ∃ (s : Sl) (ka : Option Addr) (kc : Nat), cs = [.slice ka s.kinds.length kc, .int .i64 s.least, .int .i64 s.most] ∧ IntsAt w ka s.kinds ∧ s.fits := by
  obtain ⟨xs, n, _, _, hl, hlen, hf⟩ := DataW.trod_struct Try.underlying87 h
  have h3 : Try.prog.cellsOf 87 = 3 := by kernel_rfl
  rw [h3] at hl
  match cs, hl with
  | [c0, c1, c2], _ =>
    have k1 : Try.prog.cellsOf 3 = 1 := by kernel_rfl
    have k2 : Try.prog.cellsOf 64 = 1 := by kernel_rfl
    match xs, hlen with
    | [y0, y1, y2], _ =>
      have t0 : DataW.trod enc Try.prog w base spare held n 64 (([c0, c1, c2].drop 0).take (Try.prog.cellsOf 64)) = some y0 := hf 0 _ rfl
      have t1 : DataW.trod enc Try.prog w base spare held n 3 (([c0, c1, c2].drop 1).take (Try.prog.cellsOf 3)) = some y1 := hf 1 _ rfl
      have t2 : DataW.trod enc Try.prog w base spare held n 3 (([c0, c1, c2].drop 2).take (Try.prog.cellsOf 3)) = some y2 := hf 2 _ rfl
      simp only [k1, k2, List.drop_zero, List.take_succ_cons, List.take_zero, List.drop_succ_cons] at t0 t1 t2
      obtain ⟨l, ka, kc, rfl, hi, hle⟩ := open_intsG t0
      obtain ⟨lo, e1, _, _⟩ := DataW.trod_int Try.underlying3 t1
      obtain ⟨hi2, e2, _, _⟩ := DataW.trod_int Try.underlying3 t2
      simp only [List.cons.injEq, and_true] at e1 e2
      subst e1; subst e2
      exact ⟨⟨l, lo, hi2⟩, ka, kc, rfl, hi, hle⟩

theorem open_slotsG {fuel : Nat} {v : Value} {x : DataW H × List MemPlace} (h : DataW.trod enc Try.prog w base spare held fuel 83 [v] = some x) :
    ∃ (l : List Sl) (a : Option Addr) (cap : Nat), v = .slice a l.length cap ∧ SlotsAt w a l ∧ (l.length : Int) ≤ 9223372036854775807 ∧ ∀ s ∈ l, s.fits := by
  rcases Deep.open_slice Try.underlying83 h with ⟨hcs, _⟩ | ⟨ad, len, cap, m, n, D, Pl, hcs, _, hl, hm, hmm, _, hi⟩
  · simp only [List.cons.injEq, and_true] at hcs
    subst hcs
    exact ⟨[], none, 0, rfl, fun h => by simp at h, by simp, fun s hs => by cases hs⟩
  · simp only [List.cons.injEq, and_true] at hcs
    subst hcs
    have hle : len ≤ m := by rw [hmm]; split <;> omega
    have h3 : Try.prog.cellsOf 87 = 3 := by kernel_rfl
    rw [h3] at hi
    have each : ∀ i, i < len → ∃ (s : Sl), ∃ (ka : Option Addr) (kc : Nat), w.cell? (ad.add (i * 3)) = some (.slice ka s.kinds.length kc) ∧ w.cell? (ad.add (i * 3 + 1)) = some (.int .i64 s.least) ∧ w.cell? (ad.add (i * 3 + 2)) = some (.int .i64 s.most) ∧ IntsAt w ka s.kinds ∧ s.fits := fun i hil => by
      obtain ⟨cs', hc, ht⟩ := hi i (by omega)
      obtain ⟨_, _, hat⟩ := World.cells?_some hc
      obtain ⟨s, ka, kc, rfl, hia, hfi⟩ := open_slot n cs' _ ht
      have a0 := hat 0 (by omega)
      have a1 := hat 1 (by omega)
      have a2 := hat 2 (by omega)
      rw [Deep.add_add] at a0 a1 a2
      exact ⟨s, ka, kc, a0, a1, a2, hia, hfi⟩
    obtain ⟨f, hff⟩ := Deep.choose_lt each
    refine ⟨(List.range len).map f, some ad, cap, by simp, fun h0 => ?_, by simp only [List.length_map, List.length_range]; unfold maxLen at hm; omega, fun s hs => ?_⟩
    · have h0' : 0 < len := by simpa using h0
      obtain ⟨b, off, spot⟩ := ad
      obtain ⟨_, _, hz, _⟩ := hff 0 h0'
      have hsp : spot = none := by simpa [Addr.add] using World.cell?_spot hz
      subst hsp
      have hlt := World.block_lt_of_cell? w _ hz
      rw [add_block] at hlt
      refine ⟨b, off, rfl, hlt, fun i u hu => ?_⟩
      rw [List.getElem?_map, Option.map_eq_some_iff] at hu
      obtain ⟨j, hj, rfl⟩ := hu
      obtain ⟨hlt', rfl⟩ := List.getElem?_eq_some_iff.1 hj
      simp only [List.length_range] at hlt'
      simp only [List.getElem_range]
      obtain ⟨ka, kc, z0, z1, z2, hia, _⟩ := hff i hlt'
      simp only [Addr.add_mid, ← Nat.add_assoc] at z0 z1 z2
      exact ⟨ka, kc, z0, z1, z2, hia⟩
    · simp only [List.mem_map, List.mem_range] at hs
      obtain ⟨i, hil, rfl⟩ := hs
      obtain ⟨_, _, _, _, _, _, hft⟩ := hff i hil
      exact hft

set_option maxRecDepth 100000 in
theorem open_kind (fuel : Nat) (cs : List Value) (x : DataW H × List MemPlace) (h : DataW.trod enc Try.prog w base spare held fuel 85 cs = some x) :
    ∃ (k : Kd) (sa : Option Addr) (sc : Nat), cs = [.string k.name, .bool k.text, .slice sa k.slots.length sc] ∧ SlotsAt w sa k.slots ∧ k.fits := by
  obtain ⟨xs, n, _, _, hl, hlen, hf⟩ := DataW.trod_struct Try.underlying85 h
  have h3 : Try.prog.cellsOf 85 = 3 := by kernel_rfl
  rw [h3] at hl
  match cs, hl with
  | [c0, c1, c2], _ =>
    have k1 : Try.prog.cellsOf 9 = 1 := by kernel_rfl
    have k2 : Try.prog.cellsOf 4 = 1 := by kernel_rfl
    have k3 : Try.prog.cellsOf 83 = 1 := by kernel_rfl
    match xs, hlen with
    | [y0, y1, y2], _ =>
      have t0 : DataW.trod enc Try.prog w base spare held n 9 (([c0, c1, c2].drop 0).take (Try.prog.cellsOf 9)) = some y0 := hf 0 _ rfl
      have t1 : DataW.trod enc Try.prog w base spare held n 4 (([c0, c1, c2].drop 1).take (Try.prog.cellsOf 4)) = some y1 := hf 1 _ rfl
      have t2 : DataW.trod enc Try.prog w base spare held n 83 (([c0, c1, c2].drop 2).take (Try.prog.cellsOf 83)) = some y2 := hf 2 _ rfl
      simp only [k1, k2, k3, List.drop_zero, List.take_succ_cons, List.take_zero, List.drop_succ_cons] at t0 t1 t2
      obtain ⟨nm, e0, _, hns⟩ := DataW.trod_string Try.underlying9 t0
      obtain ⟨tx, e1, _⟩ := DataW.trod_bool Try.underlying4 t1
      obtain ⟨l, sa, sc, rfl, hs, hle, hfs⟩ := open_slotsG t2
      simp only [List.cons.injEq, and_true] at e0 e1
      subst e0; subst e1
      exact ⟨⟨nm, tx, l⟩, sa, sc, rfl, hs, by show (nm.size : Int) ≤ _; unfold maxLen at hns; omega, hle, hfs⟩

theorem open_kindsG {fuel : Nat} {v : Value} {x : DataW H × List MemPlace} (h : DataW.trod enc Try.prog w base spare held fuel 53 [v] = some x) :
    ∃ (l : List Kd) (a : Option Addr) (cap : Nat), v = .slice a l.length cap ∧ KindsAt w a l ∧ (l.length : Int) ≤ 9223372036854775807 ∧ ∀ s ∈ l, s.fits := by
  rcases Deep.open_slice Try.underlying53 h with ⟨hcs, _⟩ | ⟨ad, len, cap, m, n, D, Pl, hcs, _, hl, hm, hmm, _, hi⟩
  · simp only [List.cons.injEq, and_true] at hcs
    subst hcs
    exact ⟨[], none, 0, rfl, fun h => by simp at h, by simp, fun s hs => by cases hs⟩
  · simp only [List.cons.injEq, and_true] at hcs
    subst hcs
    have hle : len ≤ m := by rw [hmm]; split <;> omega
    have h3 : Try.prog.cellsOf 85 = 3 := by kernel_rfl
    rw [h3] at hi
    have each : ∀ i, i < len → ∃ (k : Kd), ∃ (sa : Option Addr) (sc : Nat), w.cell? (ad.add (i * 3)) = some (.string k.name) ∧ w.cell? (ad.add (i * 3 + 1)) = some (.bool k.text) ∧ w.cell? (ad.add (i * 3 + 2)) = some (.slice sa k.slots.length sc) ∧ SlotsAt w sa k.slots ∧ k.fits := fun i hil => by
      obtain ⟨cs', hc, ht⟩ := hi i (by omega)
      obtain ⟨_, _, hat⟩ := World.cells?_some hc
      obtain ⟨s, ka, kc, rfl, hia, hfi⟩ := open_kind n cs' _ ht
      have a0 := hat 0 (by omega)
      have a1 := hat 1 (by omega)
      have a2 := hat 2 (by omega)
      rw [Deep.add_add] at a0 a1 a2
      exact ⟨s, ka, kc, a0, a1, a2, hia, hfi⟩
    obtain ⟨f, hff⟩ := Deep.choose_lt each
    refine ⟨(List.range len).map f, some ad, cap, by simp, fun h0 => ?_, by simp only [List.length_map, List.length_range]; unfold maxLen at hm; omega, fun s hs => ?_⟩
    · have h0' : 0 < len := by simpa using h0
      obtain ⟨b, off, spot⟩ := ad
      obtain ⟨_, _, hz, _⟩ := hff 0 h0'
      have hsp : spot = none := by simpa [Addr.add] using World.cell?_spot hz
      subst hsp
      have hlt := World.block_lt_of_cell? w _ hz
      rw [add_block] at hlt
      refine ⟨b, off, rfl, hlt, fun i u hu => ?_⟩
      rw [List.getElem?_map, Option.map_eq_some_iff] at hu
      obtain ⟨j, hj, rfl⟩ := hu
      obtain ⟨hlt', rfl⟩ := List.getElem?_eq_some_iff.1 hj
      simp only [List.length_range] at hlt'
      simp only [List.getElem_range]
      obtain ⟨ka, kc, z0, z1, z2, hia, _⟩ := hff i hlt'
      simp only [Addr.add_mid, ← Nat.add_assoc] at z0 z1 z2
      exact ⟨ka, kc, z0, z1, z2, hia⟩
    · simp only [List.mem_map, List.mem_range] at hs
      obtain ⟨i, hil, rfl⟩ := hs
      obtain ⟨_, _, _, _, _, _, hft⟩ := hff i hil
      exact hft

set_option maxRecDepth 100000 in
/-- A grammar that came in. -/
theorem open_gr {fuel : Nat} {cs : List Value} {x : DataW H × List MemPlace} (h : DataW.trod enc Try.prog w base spare held fuel 55 cs = some x) :
    ∃ (g : Gr) (ka : Option Addr) (kc : Nat), cs = [.slice ka g.kinds.length kc, .int .i64 g.root] ∧ KindsAt w ka g.kinds ∧ g.fits := by
  obtain ⟨xs, n, _, _, hl, hlen, hf⟩ := DataW.trod_struct Try.underlying55 h
  have h3 : Try.prog.cellsOf 55 = 2 := by kernel_rfl
  rw [h3] at hl
  match cs, hl with
  | [c0, c1], _ =>
    have k1 : Try.prog.cellsOf 3 = 1 := by kernel_rfl
    have k2 : Try.prog.cellsOf 53 = 1 := by kernel_rfl
    match xs, hlen with
    | [y0, y1], _ =>
      have t0 : DataW.trod enc Try.prog w base spare held n 53 (([c0, c1].drop 0).take (Try.prog.cellsOf 53)) = some y0 := hf 0 _ rfl
      have t1 : DataW.trod enc Try.prog w base spare held n 3 (([c0, c1].drop 1).take (Try.prog.cellsOf 3)) = some y1 := hf 1 _ rfl
      simp only [k1, k2, List.drop_zero, List.take_succ_cons, List.take_zero, List.drop_succ_cons] at t0 t1
      obtain ⟨l, ka, kc, rfl, hk, hle, hfk⟩ := open_kindsG t0
      obtain ⟨r, e1, _, _⟩ := DataW.trod_int Try.underlying3 t1
      simp only [List.cons.injEq, and_true] at e1
      subst e1
      exact ⟨⟨l, r⟩, ka, kc, rfl, hk, hle, hfk⟩
set_option maxRecDepth 100000 in
theorem open_grV {v : Value} {d : DataW H} {ps : List MemPlace} {cs : Array Value} (hv : v = .agg cs) (h : DataW.Trod enc Try.prog w base spare held 55 v d ps) : ∃ g, GrV w v g ∧ g.fits := by
  subst hv
  obtain ⟨fuel, hf⟩ := h
  obtain ⟨g, ka, kc, e, hk, hfit⟩ := open_gr hf
  refine ⟨g, ⟨ka, kc, ?_, hk⟩, hfit⟩
  have e2 : cs.toList = [.slice ka g.kinds.length kc, .int .i64 g.root] := by simpa [Value.cells] using e
  rw [show cs = cs.toList.toArray by simp, e2]
end
end Go.Proofs.Ytmfpilacmafglaa
