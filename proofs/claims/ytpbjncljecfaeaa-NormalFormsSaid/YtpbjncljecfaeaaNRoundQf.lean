/-
  A region that draws, in a round of a range over a function: where it hands nothing out and defers nothing, it may be walked as anywhere else. What ranges leave to be taken when a call ends. Plain laws. No condition.
-/
import Derived.RangeFuncNested
import Derived.RangeFuncBound
import Derived.RangeFuncCalls
import Derived.RangeFuncLeaves
import Derived.RangeFuncWrites
import Derived.OrdersIn
import Derived.Deep.RegionHeld
import Derived.Test.YtpbjncljecfaeaaNCopySQf
namespace Go.Proofs.Ytpbjncljecfaeaa
open Go.RowKit Go.Shelf
set_option linter.unusedVariables false

section
variable {l n : Nat} {P : Program} {ops : Array Oper} {Q : Exit → Act → World → Prop} {md : Region.Mode}
theorem wpOpIn_of_wp {i : Nat} {K : Act → World → Prop} {a : Act} {w : World} (hlo : ¬ LetsOut Q) (hd : ∀ (j : Nat) (o : Oper) c, ops[j]? = some o → o.op ≠ .defer c) (h : wpOp P ops Q i K a w) : wpOpIn (Fence.wide.inRound l) n P ops Q i K a w := by
  unfold wpOp at h
  unfold wpOpIn
  cases ho : ops[i]? with
  | none => simpa only [ho] using h
  | some o =>
    simp only [ho] at h ⊢
    split
    · rename_i hw
      rw [if_pos hw] at h
      rcases h with h | ⟨_, h⟩
      · refine ⟨fun _ _ => trivial, ?_⟩
        rw [show (Fence.wide.inRound l).round = some l from rfl, Oper.semAt_some l _ o (fun c => hd i o c ho)]
        unfold Oper.wp at h
        generalize (execOp a.eval o).run P w = r at h ⊢
        cases r with
        | ok x w' =>
          cases x <;> simp only [Oper.upon, Oper.uponIn] at h ⊢
          all_goals first
            | exact h
            | exact ⟨fun h => (by cases h), CallsIn.inRound l (callsIn_wide.2 h)⟩
            | exact ⟨fun h => (by cases h), fun c cs _ => let ⟨v, w', r, s⟩ := h c cs; ⟨v, w', r, stepsIn_wide.2 s⟩⟩
        | halt x w' => cases x <;> simp only [Oper.upon, Oper.uponIn] at h ⊢ <;> exact h
      · exact absurd h hlo
    · rename_i hw
      rw [if_neg hw] at h
      exact ⟨fun _ _ => trivial, h⟩
theorem wpAnyIn_of_wp (hlo : ¬ LetsOut Q) (hd : ∀ (j : Nat) (o : Oper) c, ops[j]? = some o → o.op ≠ .defer c) : ∀ (fuel : Nat) (listed : Array Bool) (a : Act) (w : World), wpAny P md ops Q fuel listed a w → wpAnyIn (Fence.wide.inRound l) n P md ops Q fuel listed a w
  | 0, _, _, _, h => h
  | fuel + 1, _, _, _, h => ⟨h.1, fun i hi => wpOpIn_of_wp hlo hd (wpOp_mono (fun a' w' h' => wpAnyIn_of_wp hlo hd fuel _ a' w' h') (h.2 i hi))⟩
theorem noDefer {ops : Array Oper} (h : (ops.toList.all fun o => match o.op with | .defer _ => false | _ => true) = true) (j : Nat) (o : Oper) (c) (hj : ops[j]? = some o) : o.op ≠ .defer c := fun e => by
  have := List.all_eq_true.1 h o (List.mem_of_getElem? (l := ops.toList) (i := j) (by simpa using hj))
  rw [e] at this; cases this
/-- A region that draws, in a round. -/
theorem wpIn_region_held_round {S : World → Prop} {id : Nat} {a : Act} {w : World} (hm : P.follows .mixedOrders = true) (hlo : ¬ LetsOut Q) (hd : ∀ (j : Nat) (o : Oper) c, ops[j]? = some o → o.op ≠ .defer c) (hS : S w.drew)
    (h : S w.drew → wpAnyH P .any ops Q S ops.size (Array.replicate ops.size false) a w.drew) : (Code.region id ops true).wpIn (Fence.wide.inRound l) n P Q a w :=
  wpIn_region_any hm (wpAnyIn_of_wp hlo hd _ _ _ _ (wpAny_of_held _ _ _ _ (h hS)))
end
/-- What ranges have left to be taken at a call's end. -/
def marks (Ds : List Nat) : List Deferred := Ds.map fun D => { target := .collected D, args := #[] }
/-- All of them are taken. -/
def takenW (w : World) : List Nat → World
  | [] => w
  | D :: Ds => takenW (w.putObj D (.deferred none)) Ds
theorem takenW_size : ∀ (Ds : List Nat) (w : World), (takenW w Ds).heap.size = w.heap.size
  | [], _ => rfl
  | D :: Ds, w => by rw [takenW, takenW_size Ds]; simp [World.putObj]
theorem takenW_other : ∀ (Ds : List Nat) (w : World) {q : Nat}, q ∉ Ds → (takenW w Ds).heap[q]? = w.heap[q]?
  | [], _, _, _ => rfl
  | D :: Ds, w, q, h => by
    rw [takenW, takenW_other Ds _ (fun hq => h (List.mem_cons_of_mem _ hq))]
    exact World.putObj_heap_other (fun e => h (by rw [e]; exact List.mem_cons_self ..))
theorem takenW_below (Ds : List Nat) : ∀ (w : World) (B : Nat), (∀ D ∈ Ds, B ≤ D) → B ≤ w.heap.size → Below B w (takenW w Ds) := by
  induction Ds with
  | nil => exact fun w B _ _ => Below.refl _ _
  | cons D Ds ih =>
    intro w B h hB
    have h1 := ih (w.putObj D (.deferred none)) B (fun D' hD => h D' (List.mem_cons_of_mem _ hD)) (by simpa [World.putObj] using hB)
    have hD := h D (List.mem_cons_self ..)
    exact ⟨h1.os, h1.tape, h1.output, by have := h1.size; simpa [takenW, World.putObj] using this, fun q hq => (h1.block q hq).trans (World.putObj_heap_other (by omega))⟩
/-- At a call's end. -/
theorem leaves_marks {F : Fence} {n : Nat} {P : Program} {fn : Func} {tmps : Array Value} {R : Ending → World → Prop} {v : Value} : ∀ (Ds : List Nat) (w : World), Ds.Nodup → (∀ D ∈ Ds, w.heap[D]? = some (.deferred (some []))) → (∀ w', (results fn tmps).run P w' = .ok v w') → R (.returned v) (takenW w Ds) → LeavesInM F n P fn tmps R (marks Ds) .returning w
  | [], w, _, _, hr, h => ⟨v, hr w, h⟩
  | D :: Ds, w, hd, hall, hr, h => by
    obtain ⟨d1, d2⟩ := List.nodup_cons.1 hd
    refine ⟨by simp, Or.inl ⟨D, _, rfl, run_takeDeferred (hall D (List.mem_cons_self ..)), ?_⟩⟩
    exact leaves_marks Ds _ d2 (fun D' hD => (World.putObj_heap_other (fun e => d1 (by rw [← e]; exact hD))).trans (hall D' (List.mem_cons_of_mem _ hD))) hr h
end Go.Proofs.Ytpbjncljecfaeaa
