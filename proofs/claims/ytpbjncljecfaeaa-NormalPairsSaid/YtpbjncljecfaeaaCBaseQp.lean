/-
  What a reader of layer 3 is in memory: plain definitions and their small laws. No condition.
-/
import Derived.Test.YtpbjncljecfaeaaRows
import Derived.WalkKit
import Derived.WalkSpells
import Derived.WalkLawsBesides
import Derived.Deep.AppendLies
import Derived.Stop.BytesEq
import Derived.Lib.Hide
import Derived.Defers
import Derived.Recover
import Derived.BigQuiet
namespace Go.Proofs.Ytpbjncljecfaeaa
open Go.RowKit
open Extern.Stop (cell)

/-- From w to w' nothing of what was there turns, but in the blocks of S. -/
structure Touched (w w' : World) (S : Nat → Prop) : Prop where
  os : w'.os = w.os
  tape : w'.tape = w.tape
  output : w'.output = w.output
  size : w.heap.size ≤ w'.heap.size
  block : ∀ k, k < w.heap.size → ¬ S k → w'.heap[k]? = w.heap[k]?
theorem Touched.refl (w : World) (S : Nat → Prop) : Touched w w S := ⟨rfl, rfl, rfl, Nat.le_refl _, fun _ _ _ => rfl⟩
theorem Touched.trans {w w1 w2 : World} {S S' : Nat → Prop} (h : Touched w w1 S) (h2 : Touched w1 w2 S') (hS : ∀ k, S' k → S k ∨ w.heap.size ≤ k) : Touched w w2 S :=
  ⟨h2.os.trans h.os, h2.tape.trans h.tape, h2.output.trans h.output, Nat.le_trans h.size h2.size, fun k hk hn => by
    rw [h2.block k (Nat.lt_of_lt_of_le hk h.size) (fun hs => by
      rcases hS k hs with h' | h'
      · exact hn h'
      · omega), h.block k hk hn]⟩
theorem Touched.setCell {w : World} {S : Nat → Prop} {a : Addr} (ha : S a.block) (v : Value) : Touched w (w.setCell a v) S :=
  ⟨rfl, rfl, rfl, by simp [World.setCell], fun k _ hn => Below.heap_setCell _ _ _ _ (fun e => hn (e ▸ ha))⟩
theorem Touched.drew {w w' : World} {S : Nat → Prop} (h : Touched w w' S) : Touched w w'.drew S := ⟨h.os, h.tape, h.output, h.size, h.block⟩
theorem Touched.alloc {w w' : World} {S : Nat → Prop} (h : Touched w w' S) (o : Obj) : Touched w (w'.alloc o) S :=
  ⟨h.os, h.tape, h.output, by rw [World.size_alloc]; have := h.size; omega, fun k hk hn => by
    rw [Below.heap_alloc _ _ _ (Nat.lt_of_lt_of_le hk h.size)]; exact h.block k hk hn⟩
theorem lt_of_heap {w : World} {k : Nat} {o : Obj} (h : w.heap[k]? = some o) : k < w.heap.size := (Array.getElem?_eq_some_iff.1 h).1

end Go.Proofs.Ytpbjncljecfaeaa
