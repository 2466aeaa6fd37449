/-
  What a reader of layer 3 is in memory: plain definitions and their small laws. No condition.
-/
import Derived.Test.YtfdcopegkhofnaaRows
import Derived.WalkKit
import Derived.WalkSpells
import Derived.WalkLawsBesides
import Derived.Deep.AppendLies
import Derived.Stop.BytesEq
import Derived.Lib.Hide
import Derived.Defers
import Derived.Recover
import Derived.BigQuiet
namespace Go.Proofs.Ytfdcopegkhofnaa
open Go.RowKit
open Extern.Stop (cell)

/-- From w to w' nothing of what was there turns, but in the blocks of S. -/
structure Touched (w w' : World) (S : Nat → Prop) : Prop where
  os : w'.os = w.os
  tape : w'.tape = w.tape
  output : w'.output = w.output
  size : w.heap.size ≤ w'.heap.size
  block : ∀ k, k < w.heap.size → ¬ S k → w'.heap[k]? = w.heap[k]?
theorem Touched.refl (w : World) (S : Nat → Prop) : Touched w w S := ⟨rfl, rfl, rfl, Nat.le_refl _, fun _ _ _ => rfl⟩
theorem Touched.below {w w' : World} {S : Nat → Prop} {B : Nat} (h : Touched w w' S) (hB : B ≤ w.heap.size) (hS : ∀ k, S k → B ≤ k) : Below B w w' :=
  ⟨h.os, h.tape, h.output, h.size, fun k hk => h.block k (by omega) (fun hs => by have := hS k hs; omega)⟩
theorem Below.touched {w w' : World} (h : Below w.heap.size w w') (S : Nat → Prop) : Touched w w' S := ⟨h.os, h.tape, h.output, h.size, fun k hk _ => h.block k hk⟩
theorem Touched.trans {w w1 w2 : World} {S S' : Nat → Prop} (h : Touched w w1 S) (h2 : Touched w1 w2 S') (hS : ∀ k, S' k → S k ∨ w.heap.size ≤ k) : Touched w w2 S :=
  ⟨h2.os.trans h.os, h2.tape.trans h.tape, h2.output.trans h.output, Nat.le_trans h.size h2.size, fun k hk hn => by
    rw [h2.block k (Nat.lt_of_lt_of_le hk h.size) (fun hs => by
      rcases hS k hs with h' | h'
      · exact hn h'
      · omega), h.block k hk hn]⟩
theorem Touched.setCell {w : World} {S : Nat → Prop} {a : Addr} (ha : S a.block) (v : Value) : Touched w (w.setCell a v) S :=
  ⟨rfl, rfl, rfl, by simp [World.setCell], fun k _ hn => Below.heap_setCell _ _ _ _ (fun e => hn (e ▸ ha))⟩
theorem Touched.drew {w w' : World} {S : Nat → Prop} (h : Touched w w' S) : Touched w w'.drew S := ⟨h.os, h.tape, h.output, h.size, h.block⟩
theorem Touched.alloc {w w' : World} {S : Nat → Prop} (h : Touched w w' S) (o : Obj) : Touched w (w'.alloc o) S :=
  ⟨h.os, h.tape, h.output, by rw [World.size_alloc]; have := h.size; omega, fun k hk hn => by
    rw [Below.heap_alloc _ _ _ (Nat.lt_of_lt_of_le hk h.size)]; exact h.block k hk hn⟩
theorem lt_of_heap {w : World} {k : Nat} {o : Obj} (h : w.heap[k]? = some o) : k < w.heap.size := (Array.getElem?_eq_some_iff.1 h).1

/-- A reader: its bytes, the next one's number, whether it failed. -/
structure Rd where
  data : List UInt8
  pos : Nat
  bad : Bool

/-- Block b is the reader s, whose bytes lie in the slice dv. -/
structure RdAt (w : World) (b : Nat) (dv : Value) (s : Rd) : Prop where
  here : w.heap[b]? = some (.cells #[dv, .int .i64 (s.pos : Int), .bool s.bad] 94 (0, 0))
  owns : w.ownsRow 0 5 1 dv s.data.length (s.data.map cell)
  apart : dv.ownBlock ≠ some b
  fits : s.pos ≤ s.data.length
  few : s.data.length ≤ 100000000

theorem owns_keep {w w' : World} {B : Nat} {e : TypeId} {size : Nat} {v : Value} {n : Nat} {xs : List Value} (h : w.ownsRow B e size v n xs) (hk : ∀ g, v.ownBlock = some g → w'.heap[g]? = w.heap[g]?) : w'.ownsRow B e size v n xs := by
  obtain ⟨h1, h2⟩ := h
  refine ⟨h1, ?_⟩
  rcases h2 with h2 | ⟨g, cap, cur, hv, hg, hh, r⟩
  · exact Or.inl h2
  · exact Or.inr ⟨g, cap, cur, hv, hg, (hk g (by rw [hv]; rfl)).trans hh, r⟩
theorem owns_lt {w : World} {B : Nat} {e : TypeId} {size : Nat} {v : Value} {n : Nat} {xs : List Value} (h : w.ownsRow B e size v n xs) (g : Nat) (hg : v.ownBlock = some g) : g < w.heap.size := by
  rcases h.2 with ⟨h, _⟩ | ⟨g', cap', cur, hv, _, hh, _⟩
  · subst h; cases hg
  · subst hv; cases hg; exact lt_of_heap hh
theorem RdAt.kept {w w' : World} {b : Nat} {dv : Value} {s : Rd} (h : RdAt w b dv s) {S : Nat → Prop} (ht : Touched w w' S) (h1 : ¬ S b) (h2 : ∀ g, dv.ownBlock = some g → ¬ S g) : RdAt w' b dv s :=
  ⟨(ht.block b (lt_of_heap h.here) h1).trans h.here, owns_keep h.owns (fun g hg => ht.block g (owns_lt h.owns g hg) (h2 g hg)), h.apart, h.fits, h.few⟩
theorem RdAt.alloc {w : World} {b : Nat} {dv : Value} {s : Rd} (h : RdAt w b dv s) (o : Obj) : RdAt (w.alloc o) b dv s :=
  h.kept (S := fun _ => False) ((Touched.refl w _).alloc o) id (fun _ _ => id)
theorem RdAt.drew {w : World} {b : Nat} {dv : Value} {s : Rd} (h : RdAt w b dv s) : RdAt w.drew b dv s := ⟨h.here, h.owns, h.apart, h.fits, h.few⟩
/-- Another place. -/
theorem RdAt.move {w : World} {b : Nat} {dv : Value} {s : Rd} (h : RdAt w b dv s) (p : Nat) (hp : p ≤ s.data.length) : RdAt (w.setCell ⟨b, 1, none⟩ (.int .i64 (p : Int))) b dv { s with pos := p } :=
  ⟨by rw [heap_setCell_same w b 1 _ _ _ h.here]; rfl, owns_keep h.owns (fun g hg => Below.heap_setCell _ _ _ _ (fun e => h.apart (by rw [hg, e]))), h.apart, hp, h.few⟩
theorem RdAt.cells {w : World} {b : Nat} {dv : Value} {s : Rd} (h : RdAt w b dv s) : w.cell? ⟨b, 0, none⟩ = some dv ∧ w.cell? ⟨b, 1, none⟩ = some (.int .i64 (s.pos : Int)) ∧ w.cell? ⟨b, 2, none⟩ = some (.bool s.bad) ∧ ∀ j, w.frozen? ⟨b, j, none⟩ = false :=
  ⟨by rw [cell_of_row w _ 0 _ _ _ h.here]; rfl, by rw [cell_of_row w _ 1 _ _ _ h.here]; rfl, by rw [cell_of_row w _ 2 _ _ _ h.here]; rfl, fun j => frozen_of_row w b j _ _ h.here⟩
/-- What the slice looks like. -/
theorem RdAt.form {w : World} {b : Nat} {dv : Value} {s : Rd} (h : RdAt w b dv s) : (dv = .slice none 0 0 ∧ s.data = []) ∨ ∃ g cap, dv = .slice (some ⟨g, 0, none⟩) s.data.length cap ∧ s.data.length ≤ cap ∧ (cap : Int) ≤ 9223372036854775807 ∧ g ≠ b ∧ ∀ j u, s.data[j]? = some u → w.cell? ⟨g, j, none⟩ = some (cell u) := by
  obtain ⟨h1, h2⟩ := h.owns
  have ha := h.apart
  rcases h2 with ⟨rfl, h2⟩ | ⟨g, cap, cur, hv, hg, hh, h3, h4, h5, h6⟩
  · exact Or.inl ⟨rfl, List.eq_nil_of_length_eq_zero h2⟩
  · subst hv
    refine Or.inr ⟨g, cap, rfl, h3, by unfold maxLen at h4; omega, fun e => ha (by rw [e]; rfl), fun j u hj => ?_⟩
    have hjl := (List.getElem?_eq_some_iff.1 hj).1
    have e1 : (s.data.map cell)[j]? = some (cell u) := by simp [hj]
    rw [← h6, List.getElem?_take_of_lt (by omega)] at e1
    rw [cell_of_row w g j _ _ _ hh, ← Array.getElem?_toList]; exact e1

theorem RdAt.cell {w : World} {b : Nat} {g n cap : Nat} {s : Rd} (h : RdAt w b (.slice (some ⟨g, 0, none⟩) n cap) s) (j : Nat) (u : UInt8) (hj : s.data[j]? = some u) : w.cell? ⟨g, j, none⟩ = some (cell u) := by
  rcases h.form with ⟨e, _⟩ | ⟨g', cap', e, _, _, _, hc⟩
  · cases e
  · cases e; exact hc j u hj
theorem RdAt.drewN {w : World} {b : Nat} {dv : Value} {s : Rd} (h : RdAt w b dv s) (k : Nat) : RdAt (w.drewN k) b dv s :=
  h.kept (S := fun _ => False) ⟨rfl, rfl, rfl, Nat.le_refl _, fun _ _ _ => rfl⟩ id (fun _ _ => id)
theorem Touched.drewN {w w' : World} {S : Nat → Prop} (h : Touched w w' S) (k : Nat) : Touched w (w'.drewN k) S := ⟨h.os, h.tape, h.output, h.size, h.block⟩

end Go.Proofs.Ytfdcopegkhofnaa
