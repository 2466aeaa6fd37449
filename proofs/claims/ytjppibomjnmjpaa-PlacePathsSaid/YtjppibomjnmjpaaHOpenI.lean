/-
  A row of numbers that came in. No condition.
-/
import Derived.Test.YtjppibomjnmjpaaHLawQ
namespace Go.Proofs.Ytjppibomjnmjpaa
open Go.ChangeShapes Go.WideShapes Go.ChangeAt Go.RowKit
open Extern.Stop (cell)

section
variable {H : Type} {enc : TypeId × Value → H} {w : World} {base : Nat} {spare : Nat → Bool} {held : Bool}
set_option maxRecDepth 100000 in
theorem open_intsL {fuel : Nat} {v : Value} {x : DataW H × List MemPlace} (h : DataW.trod enc Try.prog w base spare held fuel 29 [v] = some x) :
    ∃ (l : List Int) (a : Option Addr) (cap : Nat), v = .slice a l.length cap ∧ IntsL w (Old w) a cap l := by
  rcases Deep.open_slice Try.underlying29 h with ⟨hcs, _⟩ | ⟨ad, len, cap, m, n, D, Pl, hcs, _, hl, hm, hmm, _, hi⟩
  · simp only [List.cons.injEq, and_true] at hcs
    subst hcs
    exact ⟨[], none, 0, rfl, Nat.le_refl _, Or.inl rfl⟩
  · simp only [List.cons.injEq, and_true] at hcs
    subst hcs
    have hle : len ≤ m := by rw [hmm]; split <;> omega
    have each : ∀ i, i < len → ∃ x : Int, w.cell? (ad.add i) = some (.int .i64 x) := fun i hil => by
      obtain ⟨cs', hc, ht⟩ := hi i (by omega)
      have h3 : Try.prog.cellsOf 3 = 1 := by kernel_rfl
      rw [h3, Nat.mul_one] at hc
      obtain ⟨_, hcl, hat⟩ := World.cells?_some hc
      match cs', hcl with
      | [c0], _ =>
        obtain ⟨x0, e0, _, _⟩ := DataW.trod_int Try.underlying3 ht
        have a0 := hat 0 (by omega)
        rw [Deep.add_add] at a0
        simp only [List.cons.injEq, and_true] at e0
        subst e0
        exact ⟨x0, by simpa using a0⟩
    obtain ⟨f, hf⟩ := Deep.choose_lt each
    refine ⟨(List.range len).map f, some ad, cap, by simp, by simpa using hl, ?_⟩
    by_cases h0 : len = 0
    · subst h0; exact Or.inl rfl
    · right
      obtain ⟨b, off, spot⟩ := ad
      have hsp := World.cell?_spot (hf 0 (by omega))
      have : spot = none := by simpa [Addr.add] using hsp
      subst this
      have hlt := World.block_lt_of_cell? w _ (hf 0 (by omega))
      rw [Addr.add_mid] at hlt
      refine ⟨b, off, rfl, hlt, fun k x hx => ?_⟩
      rw [List.getElem?_map, Option.map_eq_some_iff] at hx
      obtain ⟨j, hj, rfl⟩ := hx
      obtain ⟨hlt', rfl⟩ := List.getElem?_eq_some_iff.1 hj
      simp only [List.length_range] at hlt'
      simp only [List.getElem_range]
      have := hf k hlt'
      rw [Addr.add_mid] at this
      exact this
end
theorem paths_fr (w : World) (nv : Value) (t : Tr) (a b : Int) (pa : Option Addr) (pc : Nat) (l : List Int) (ht : TrAt w (Old w) nv t) (hft : Fits t) (hp : IntsL w (Old w) pa pc l) : Calls Try.prog 4 #[nv, .int .i64 a, .int .i64 b, .slice pa l.length pc] w fun e w' => e = .returned (.bool true) ∧ Below w.heap.size w w' :=
  placePaths_any w (Old w) nv t a b pa l.length pc l (fun _ h => h) ht hft.1 hft.2 hp rfl
end Go.Proofs.Ytjppibomjnmjpaa
