/-
  What a reader of layer 3 is in memory: plain definitions and their small laws. No condition.
-/
import Derived.Test.YtdlfkglihlnncaaRows
import Derived.WalkKit
import Derived.WalkSpells
import Derived.WalkLawsBesides
import Derived.Deep.AppendLies
import Derived.Stop.BytesEq
import Derived.Lib.Hide
import Derived.Defers
import Derived.Recover
import Derived.BigQuiet
namespace Go.Proofs.Ytdlfkglihlnncaa
open Go.RowKit
open Extern.Stop (cell)

/-- From w to w' nothing of what was there turns, but in the blocks of S. -/
structure Touched (w w' : World) (S : Nat → Prop) : Prop where
  os : w'.os = w.os
  tape : w'.tape = w.tape
  output : w'.output = w.output
  size : w.heap.size ≤ w'.heap.size
  block : ∀ k, k < w.heap.size → ¬ S k → w'.heap[k]? = w.heap[k]?
theorem Touched.refl (w : World) (S : Nat → Prop) : Touched w w S := ⟨rfl, rfl, rfl, Nat.le_refl _, fun _ _ _ => rfl⟩
theorem Touched.below {w w' : World} {S : Nat → Prop} {B : Nat} (h : Touched w w' S) (hB : B ≤ w.heap.size) (hS : ∀ k, S k → B ≤ k) : Below B w w' :=
  ⟨h.os, h.tape, h.output, h.size, fun k hk => h.block k (by omega) (fun hs => by have := hS k hs; omega)⟩
theorem Below.touched {w w' : World} (h : Below w.heap.size w w') (S : Nat → Prop) : Touched w w' S := ⟨h.os, h.tape, h.output, h.size, fun k hk _ => h.block k hk⟩
theorem Touched.trans {w w1 w2 : World} {S S' : Nat → Prop} (h : Touched w w1 S) (h2 : Touched w1 w2 S') (hS : ∀ k, S' k → S k ∨ w.heap.size ≤ k) : Touched w w2 S :=
  ⟨h2.os.trans h.os, h2.tape.trans h.tape, h2.output.trans h.output, Nat.le_trans h.size h2.size, fun k hk hn => by
    rw [h2.block k (Nat.lt_of_lt_of_le hk h.size) (fun hs => by
      rcases hS k hs with h' | h'
      · exact hn h'
      · omega), h.block k hk hn]⟩
theorem Touched.setCell {w : World} {S : Nat → Prop} {a : Addr} (ha : S a.block) (v : Value) : Touched w (w.setCell a v) S :=
  ⟨rfl, rfl, rfl, by simp [World.setCell], fun k _ hn => Below.heap_setCell _ _ _ _ (fun e => hn (e ▸ ha))⟩
theorem Touched.drew {w w' : World} {S : Nat → Prop} (h : Touched w w' S) : Touched w w'.drew S := ⟨h.os, h.tape, h.output, h.size, h.block⟩
theorem Touched.alloc {w w' : World} {S : Nat → Prop} (h : Touched w w' S) (o : Obj) : Touched w (w'.alloc o) S :=
  ⟨h.os, h.tape, h.output, by rw [World.size_alloc]; have := h.size; omega, fun k hk hn => by
    rw [Below.heap_alloc _ _ _ (Nat.lt_of_lt_of_le hk h.size)]; exact h.block k hk hn⟩
theorem lt_of_heap {w : World} {k : Nat} {o : Obj} (h : w.heap[k]? = some o) : k < w.heap.size := (Array.getElem?_eq_some_iff.1 h).1

theorem owns_keep {w w' : World} {B : Nat} {e : TypeId} {size : Nat} {v : Value} {n : Nat} {xs : List Value} (h : w.ownsRow B e size v n xs) (hk : ∀ g, v.ownBlock = some g → w'.heap[g]? = w.heap[g]?) : w'.ownsRow B e size v n xs := by
  obtain ⟨h1, h2⟩ := h
  refine ⟨h1, ?_⟩
  rcases h2 with h2 | ⟨g, cap, cur, hv, hg, hh, r⟩
  · exact Or.inl h2
  · exact Or.inr ⟨g, cap, cur, hv, hg, (hk g (by rw [hv]; rfl)).trans hh, r⟩
theorem owns_lt {w : World} {B : Nat} {e : TypeId} {size : Nat} {v : Value} {n : Nat} {xs : List Value} (h : w.ownsRow B e size v n xs) (g : Nat) (hg : v.ownBlock = some g) : g < w.heap.size := by
  rcases h.2 with ⟨h, _⟩ | ⟨g', cap', cur, hv, _, hh, _⟩
  · subst h; cases hg
  · subst hv; cases hg; exact lt_of_heap hh
theorem Touched.drewN {w w' : World} {S : Nat → Prop} (h : Touched w w' S) (k : Nat) : Touched w (w'.drewN k) S := ⟨h.os, h.tape, h.output, h.size, h.block⟩
end Go.Proofs.Ytdlfkglihlnncaa
