/-
  A row of steps that came in, read out of memory, with the bounds of its numbers. No condition.
  NormalPairs and NormalAgain over arguments as they came in. No condition.
-/
import Derived.Test.YtpbjncljecfaeaaKOpenQa
import Derived.Test.YtpbjncljecfaeaaNRowsQa
import Derived.Deep.Cut
import Derived.Test.YtpbjncljecfaeaaNWakesQa
import Derived.Test.YtpbjncljecfaeaaNSameQa
import Derived.Test.YtpbjncljecfaeaaNLawAQa
namespace Go.Proofs.Ytpbjncljecfaeaa
open Go.ChangeShapes Go.WideShapes Go.ChangeAt Go.RowKit
open Extern.Stop (cell)
set_option linter.unusedVariables false


/-- What a host keeps of a step that came in. -/
def InG (s : Sf) : Prop := Fits s.sub ∧ ((Lit.int .i8 s.op).wf = true ∧ (Lit.int .i64 s.id).wf = true ∧ (Lit.int .i64 s.par).wf = true ∧ (Lit.int .i64 s.at_).wf = true) ∧ (s.tx.size : Int) ≤ 9223372036854775807
section
variable {H : Type} {enc : TypeId × Value → H} {w : World} {base : Nat} {spare : Nat → Bool} {held : Bool}
theorem open_stepsG (fuel : Nat) (v : Value) (x : DataW H × List MemPlace) (h : DataW.trod enc Try.prog w base spare held fuel 29 [v] = some x) :
    ∃ (vs : List SV) (a : Option Addr) (cap : Nat), v = .slice a vs.length cap ∧ RowG w a vs ∧ (∀ x ∈ vs, InG x.s) ∧ (a = none → cap = 0) ∧ vs.length ≤ cap := by
  rcases Deep.open_slice Try.underlying29 h with ⟨hcs, _⟩ | ⟨ad, len, cap, m, n, D, Pl, hcs, hq, hlc, hm, hmm, hq2, hi⟩
  · simp only [List.cons.injEq, and_true] at hcs
    subst hcs
    exact ⟨[], none, 0, rfl, ⟨fun k s hs => by simp at hs, fun x hx => by simp at hx, fun x hx => by simp at hx⟩, (fun x hx => by simp at hx), (fun _ => rfl), Nat.le_refl _⟩
  · simp only [List.cons.injEq, and_true] at hcs
    subst hcs
    have h9 : Try.prog.cellsOf 27 = 9 := by kernel_rfl
    have hle : len ≤ m := by rw [hmm]; split <;> omega
    rw [h9] at hi
    have each : ∀ i, i < len → ∃ (y : SV), (∀ j u, (stepC y.s y.a y.c)[j]? = some u → w.cell? (ad.add (i * 9 + j)) = some u) ∧ LiesI w y.s.sub.kids y.a y.c ∧ InG y.s := fun i hil => by
      obtain ⟨cs', hc, ht⟩ := hi i (by omega)
      obtain ⟨_, _, hat⟩ := World.cells?_some hc
      obtain ⟨op, id, par, at_, tx, u, ka, kcap, rfl, hcp, hfo, hft, hw, htx⟩ := open_step9 n cs' _ ht
      refine ⟨⟨⟨op, id, par, at_, tx, u⟩, ka, kcap⟩, fun j u hj => ?_, ⟨hcp, hfo.kept fun q hq => ⟨hq, rfl⟩⟩, ⟨hft, hw, htx⟩⟩
      have hj9 : j < 9 := (List.getElem?_eq_some_iff.1 hj).1
      have := hat j hj9
      rw [Deep.add_add] at this
      exact this.trans hj
    haveI : Inhabited SV := ⟨⟨⟨0, 0, 0, 0, ⟨#[]⟩, ⟨0, 0, ⟨#[]⟩, .nil⟩⟩, none, 0⟩⟩
    obtain ⟨f, hff⟩ := Deep.choose_lt each
    have hmem : ∀ x ∈ (List.range len).map f, LiesI w x.s.sub.kids x.a x.c ∧ InG x.s := fun x hx => by
      obtain ⟨j, hj, rfl⟩ := List.mem_map.1 hx
      obtain ⟨_, h1, h2⟩ := hff j (List.mem_range.1 hj)
      exact ⟨h1, h2⟩
    refine ⟨(List.range len).map f, some ad, cap, by simp, ⟨fun k s hs => ?_, fun x hx => (hmem x hx).1, fun x hx => ⟨(hmem x hx).2.1.1, (hmem x hx).2.1.2.1⟩⟩, (fun x hx => (hmem x hx).2), (fun h => by cases h), by simp only [List.length_map, List.length_range]; exact hlc⟩
    rw [List.getElem?_map, Option.map_eq_some_iff] at hs
    obtain ⟨j, hj, rfl⟩ := hs
    obtain ⟨hlt', rfl⟩ := List.getElem?_eq_some_iff.1 hj
    simp only [List.length_range] at hlt'
    simp only [List.getElem_range]
    obtain ⟨hz, h1, h2, _⟩ := hff k hlt'
    obtain ⟨b, off, spot⟩ := ad
    obtain ⟨hz', _, _⟩ := hff 0 (by omega)
    have hz0 := hz' 0 _ rfl
    have hsp : spot = none := by simpa [Addr.add] using World.cell?_spot hz0
    subst hsp
    have hlt := cell_lt hz0
    rw [add_blockK] at hlt
    clear hz0 hz'
    refine ⟨b, off, rfl, hlt, fun j u hj => ?_⟩
    have := hz j u hj
    rw [Addr.add_mid, ← Nat.add_assoc] at this
    exact this
end
end Go.Proofs.Ytpbjncljecfaeaa
namespace Go.Proofs.Ytpbjncljecfaeaa
open Go.RowKit Go.Shelf
set_option linter.unusedVariables false

theorem okFo_ids : ∀ {f : Fo}, okFo f → idsOk f
  | .nil, _ => True.intro
  | .node _ _ k l r, h => ⟨h.1.2, okFo_ids h.2.1, okFo_ids h.2.2⟩
theorem fits_wf {s : Sf} (hf : Fits s.sub) (hw : (Lit.int .i64 s.id).wf = true) : Wf64 s := ⟨⟨hf.2.2.1.2, okFo_ids hf.2.2.2, True.intro⟩, hw⟩
theorem normalAgain_fr (w : World) (vs : List SV) (la : Option Addr) (cm : Nat) (h : RowG w la vs ∧ (∀ x ∈ vs, InG x.s) ∧ (la = none → cm = 0) ∧ vs.length ≤ cm) :
    Calls Try.prog 5 #[.slice la vs.length cm] w (YesR w) :=
  normalAgain_any pairFn ofFn isFn w la _ cm vs rfl h.1 (fun x hx => fits_wf (h.2.1 x hx).1 (h.2.1 x hx).2.1.2.1) h.2.2.1 h.2.2.2
end Go.Proofs.Ytpbjncljecfaeaa
