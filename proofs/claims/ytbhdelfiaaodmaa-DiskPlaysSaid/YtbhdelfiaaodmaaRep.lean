/-
  What a disk of layer 1 is in memory, and what a change of one may turn: plain definitions and their small laws. No condition.
-/
import Derived.Test.YtbhdelfiaaodmaaRows
import Derived.WalkKit
import Derived.WalkSpells
import Derived.WalkLawsBesides
import Derived.Maps.OwnSet
import Derived.Maps.OwnOps
import Derived.Stop.BytesEq
import Derived.Deep.AppendLies
import Derived.Deep.MidRow
import Derived.Deep.WholeRow
import Derived.Laws.CopyOwn
import Derived.Lib.Hide
namespace Go.Proofs.Ytbhdelfiaaodmaa
open Go.RowKit
open Extern.Stop (cell)

/-- One write: its sector, and what it is from then on. -/
structure Wr where
  n : Int
  d : List UInt8
/-- Its cells in memory. -/
def Wr.cells (x : Wr) : List Value := .int .i64 x.n :: x.d.map cell
def Wr.good (x : Wr) : Prop := x.d.length = 64 ∧ 0 ≤ x.n ∧ x.n < 2049
def rowOf (l : List Wr) : List Value := l.flatMap Wr.cells
def zeros : List UInt8 := List.replicate 64 0
/-- What a sector holds behind these writes. -/
def sect (l : List Wr) (n : Int) : List UInt8 := l.foldl (fun f x => if x.n = n then x.d else f) zeros
def secV (d : List UInt8) : Value := .agg (d.map cell).toArray

/-- A disk. -/
structure St where
  l : List Wr
  armed : Bool
  left : Int
  down : Bool
def St.fresh : St := ⟨[], false, 0, false⟩

def heldV (v : Value) : Option (DataW Value × List MemPlace) := some (.held v, [])

/-- The field 'sectors'. -/
def MapIs (w : World) (B : Nat) (mv : Value) (l : List Wr) : Prop :=
  (mv = .map none ∧ ∀ n, sect l n = zeros) ∨
  ∃ mb D, mv = .map (some mb) ∧ B ≤ mb ∧ w.ownsMap Try.prog 3 heldV mb l.length D ∧ ∀ n : Int, 0 ≤ n → n < 2049 → D.atKey (.int .i64 n) (.held (secV zeros)) = .held (secV (sect l n))

/-- Block db is a disk, all of which lies from block B on. -/
def DiskAt (w : World) (B db : Nat) (s : St) : Prop :=
  B ≤ db ∧ ∃ mv v, w.heap[db]? = some (.cells #[mv, v, .bool s.armed, .int .i64 s.left, .bool s.down] 49 (0, 0)) ∧
    w.ownsRow B 54 65 v s.l.length (rowOf s.l) ∧ (∀ x ∈ s.l, x.good) ∧ MapIs w B mv s.l

/-- What disks are made of. -/
def diskObj : Obj → Bool
  | .cells _ t _ => t == 49 || t == 54
  | .map _ _ => true
  | _ => false

/-- What is no part of a disk stays as it is. -/
def Stays (w w' : World) : Prop := ∀ (k : Nat) (o : Obj), w.heap[k]? = some o → diskObj o = false → w'.heap[k]? = some o

theorem Stays.refl (w : World) : Stays w w := fun _ _ h _ => h
theorem Stays.trans {a b c : World} (h : Stays a b) (k : Stays b c) : Stays a c := fun i o hi ho => k i o (h i o hi ho) ho
theorem lt_of_heap {w : World} {k : Nat} {o : Obj} (h : w.heap[k]? = some o) : k < w.heap.size := (Array.getElem?_eq_some_iff.1 h).1
theorem Stays.alloc {a w : World} (h : Stays a w) (o : Obj) : Stays a (w.alloc o) := fun i x hi ho => by
  have := h i x hi ho
  rw [Below.heap_alloc w o i (lt_of_heap this)]; exact this
theorem Stays.drew {a w : World} (h : Stays a w) : Stays a w.drew := h
theorem Stays.below {w w' : World} (h : Below w.heap.size w w') : Stays w w' := fun i x hi _ => by rw [h.block i (lt_of_heap hi)]; exact hi
theorem Stays.grown {a w w' : World} {row : Option Nat} (h : Stays a w) (hg : w.grownBy w' row) (hr : ∀ k, row = some k → ∃ o, w.heap[k]? = some o ∧ diskObj o = true) : Stays a w' := fun i x hi ho => by
  have h1 := h i x hi ho
  rw [hg.block i (lt_of_heap h1) (fun e => by obtain ⟨o, e1, e2⟩ := hr i e.symm; rw [h1] at e1; cases e1; rw [ho] at e2; cases e2)]; exact h1
theorem Stays.setCell {a w : World} (h : Stays a w) {p : Addr} (hp : ∃ o, w.heap[p.block]? = some o ∧ diskObj o = true) (u : Value) : Stays a (w.setCell p u) := fun i x hi ho => by
  have h1 := h i x hi ho
  rw [Below.heap_setCell _ _ _ _ (fun e => by subst e; obtain ⟨o, e1, e2⟩ := hp; rw [h1] at e1; cases e1; rw [ho] at e2; cases e2)]; exact h1

theorem MapIs.kept {w w' : World} {B : Nat} {mv : Value} {l : List Wr} (h : MapIs w B mv l) (hk : ∀ mb, mv = .map (some mb) → w'.heap[mb]? = w.heap[mb]?) : MapIs w' B mv l := by
  rcases h with h | ⟨mb, D, rfl, hB, ⟨es, clock, hb, F, hs, hD⟩, hat⟩
  · exact Or.inl h
  · exact Or.inr ⟨mb, D, rfl, hB, ⟨es, clock, (hk mb rfl).trans hb, F, hs, hD⟩, hat⟩
theorem MapIs.mono {w : World} {B B' : Nat} {mv : Value} {l : List Wr} (h : MapIs w B mv l) (hB : B' ≤ B) : MapIs w B' mv l := by
  rcases h with h | ⟨mb, D, rfl, hb, r⟩
  · exact Or.inl h
  · exact Or.inr ⟨mb, D, rfl, Nat.le_trans hB hb, r⟩
theorem MapIs.block {w : World} {B mb : Nat} {l : List Wr} (h : MapIs w B (.map (some mb)) l) : ∃ es c, w.heap[mb]? = some (.map es c) := by
  rcases h with ⟨h, _⟩ | ⟨mb', D, e, _, ⟨es, clock, hb, _⟩, _⟩
  · cases h
  · cases e; exact ⟨es, clock, hb⟩
theorem owns_block {w : World} {B g len cap : Nat} {e : TypeId} {size : Nat} {n : Nat} {xs : List Value} (h : w.ownsRow B e size (.slice (some ⟨g, 0, none⟩) len cap) n xs) : ∃ cur, w.heap[g]? = some (.cells cur e (0, 0)) := by
  rcases h.2 with ⟨h, _⟩ | ⟨g', cap', cur, hv, _, hh, _⟩
  · cases h
  · cases hv; exact ⟨cur, hh⟩
theorem owns_kept {w w' : World} {B : Nat} {e : TypeId} {size : Nat} {v : Value} {n : Nat} {xs : List Value} (h : w.ownsRow B e size v n xs) (hk : ∀ g cur, w.heap[g]? = some (.cells cur e (0, 0)) → v.ownBlock = some g → w'.heap[g]? = w.heap[g]?) : w'.ownsRow B e size v n xs := by
  obtain ⟨h1, h2⟩ := h
  refine ⟨h1, ?_⟩
  rcases h2 with h2 | ⟨g, cap, cur, hv, hg, hh, r⟩
  · exact Or.inl h2
  · exact Or.inr ⟨g, cap, cur, hv, hg, (hk g cur hh (by rw [hv]; rfl)).trans hh, r⟩
theorem owns_mono {w : World} {B B' : Nat} {e : TypeId} {size : Nat} {v : Value} {n : Nat} {xs : List Value} (h : w.ownsRow B e size v n xs) (hB : B' ≤ B) : w.ownsRow B' e size v n xs := by
  obtain ⟨h1, h2⟩ := h
  refine ⟨h1, ?_⟩
  rcases h2 with h2 | ⟨g, cap, cur, hv, hg, r⟩
  · exact Or.inl h2
  · exact Or.inr ⟨g, cap, cur, hv, Nat.le_trans hB hg, r⟩

theorem DiskAt.below {w w' : World} {B db : Nat} {s : St} (h : DiskAt w B db s) (hb : Below w.heap.size w w') : DiskAt w' B db s := by
  obtain ⟨h0, mv, v, h1, h2, h3, h4⟩ := h
  refine ⟨h0, mv, v, (hb.block db (lt_of_heap h1)).trans h1, owns_kept h2 (fun g cur hh _ => hb.block g (lt_of_heap hh)), h3, h4.kept (fun mb e => ?_)⟩
  subst e
  obtain ⟨es, c, hm⟩ := h4.block
  exact hb.block mb (lt_of_heap hm)
theorem DiskAt.mono {w : World} {B B' db : Nat} {s : St} (h : DiskAt w B db s) (hB : B' ≤ B) : DiskAt w B' db s := by
  obtain ⟨h0, mv, v, h1, h2, h3, h4⟩ := h
  exact ⟨Nat.le_trans hB h0, mv, v, h1, owns_mono h2 hB, h3, h4.mono hB⟩
theorem DiskAt.lt {w : World} {B db : Nat} {s : St} (h : DiskAt w B db s) : db < w.heap.size := by
  obtain ⟨h0, mv, v, h1, _⟩ := h
  exact lt_of_heap h1
theorem DiskAt.alloc {w : World} {B db : Nat} {s : St} (h : DiskAt w B db s) (o : Obj) : DiskAt (w.alloc o) B db s :=
  h.below ((Below.refl _ _).alloc (Nat.le_refl _) o)
theorem DiskAt.drew {w : World} {B db : Nat} {s : St} (h : DiskAt w B db s) : DiskAt w.drew B db s := h

/-- The five cells of a disk. -/
theorem DiskAt.cells {w : World} {B db : Nat} {s : St} (h : DiskAt w B db s) : ∃ mv v, MapIs w B mv s.l ∧ w.ownsRow B 54 65 v s.l.length (rowOf s.l) ∧
    w.cell? ⟨db, 0, none⟩ = some mv ∧ w.cell? ⟨db, 1, none⟩ = some v ∧ w.cell? ⟨db, 2, none⟩ = some (.bool s.armed) ∧ w.cell? ⟨db, 3, none⟩ = some (.int .i64 s.left) ∧ w.cell? ⟨db, 4, none⟩ = some (.bool s.down) ∧
    (∀ j, w.frozen? ⟨db, j, none⟩ = false) := by
  obtain ⟨h0, mv, v, h1, h2, h3, h4⟩ := h
  exact ⟨mv, v, h4, h2, by simp [cell_of_row w db _ _ _ _ h1], by simp [cell_of_row w db _ _ _ _ h1], by simp [cell_of_row w db _ _ _ _ h1], by simp [cell_of_row w db _ _ _ _ h1], by simp [cell_of_row w db _ _ _ _ h1], fun j => frozen_of_row w db j _ _ h1⟩

/-- From w to w' block b alone may have turned, into these cells. -/
structure Turned (w w' : World) (b : Nat) (cs : Array Value) (t : TypeId) : Prop where
  os : w'.os = w.os
  tape : w'.tape = w.tape
  output : w'.output = w.output
  size : w'.heap.size = w.heap.size
  here : w'.heap[b]? = some (.cells cs t (0, 0))
  other : ∀ k, k ≠ b → w'.heap[k]? = w.heap[k]?
theorem Turned.refl {w : World} {b : Nat} {cs : Array Value} {t : TypeId} (h : w.heap[b]? = some (.cells cs t (0, 0))) : Turned w w b cs t := ⟨rfl, rfl, rfl, rfl, h, fun _ _ => rfl⟩
theorem Turned.setCell {w w' : World} {b : Nat} {cs : Array Value} {t : TypeId} (h : Turned w w' b cs t) (i : Nat) (u : Value) : Turned w (w'.setCell ⟨b, i, none⟩ u) b (cs.setIfInBounds i u) t :=
  ⟨h.os, h.tape, h.output, by simp [World.setCell, h.size], by rw [heap_setCell_same w' b i cs t u h.here], fun k hk => by rw [Below.heap_setCell _ _ _ _ hk]; exact h.other k hk⟩
theorem Turned.drew {w w' : World} {b : Nat} {cs : Array Value} {t : TypeId} (h : Turned w w' b cs t) : Turned w w'.drew b cs t := ⟨h.os, h.tape, h.output, h.size, h.here, h.other⟩
theorem Turned.below {w w' : World} {b B : Nat} {cs : Array Value} {t : TypeId} (h : Turned w w' b cs t) (hB : B ≤ b) : Below B w w' := ⟨h.os, h.tape, h.output, Nat.le_of_eq h.size.symm, fun k hk => h.other k (by omega)⟩
theorem Turned.stays {w w' : World} {b : Nat} {cs : Array Value} {t : TypeId} (h : Turned w w' b cs t) (hb : ∃ o, w.heap[b]? = some o ∧ diskObj o = true) : Stays w w' := fun k o hk ho => by
  rw [h.other k (fun e => by subst e; obtain ⟨o', e1, e2⟩ := hb; rw [hk] at e1; cases e1; rw [ho] at e2; cases e2)]; exact hk

/-- A disk of which only its own five cells have turned, and of these neither the map nor the slice. -/
theorem DiskAt.turned {w w' : World} {B db : Nat} {s : St} (h : DiskAt w B db s) {mv v : Value} (c0 : w.cell? ⟨db, 0, none⟩ = some mv) (c1 : w.cell? ⟨db, 1, none⟩ = some v) {a d : Bool} {n : Int}
    (ht : Turned w w' db #[mv, v, .bool a, .int .i64 n, .bool d] 49) : DiskAt w' B db ⟨s.l, a, n, d⟩ ∧ Below B w w' ∧ Stays w w' := by
  have hh := h
  obtain ⟨h0, mv', v', h1, h2, h3, h4⟩ := h
  have e0 : mv' = mv := by simpa [cell_of_row w db _ _ _ _ h1] using c0
  have e1 : v' = v := by simpa [cell_of_row w db _ _ _ _ h1] using c1
  subst e0; subst e1
  refine ⟨⟨h0, mv', v', ht.here, owns_kept h2 (fun g cur hg _ => ht.other g (fun e => by subst e; rw [h1] at hg; cases hg)), h3, h4.kept (fun mb e => ht.other mb (fun e' => by subst e; subst e'; obtain ⟨es, c, hm⟩ := h4.block; rw [h1] at hm; cases hm))⟩, ht.below h0, ht.stays ⟨_, h1, rfl⟩⟩

/-- What a disk lets stay. -/
theorem DiskAt.cellsAt {w : World} {B db : Nat} {s : St} (h : DiskAt w B db s) {mv v : Value} (c0 : w.cell? ⟨db, 0, none⟩ = some mv) (c1 : w.cell? ⟨db, 1, none⟩ = some v) :
    w.heap[db]? = some (.cells #[mv, v, .bool s.armed, .int .i64 s.left, .bool s.down] 49 (0, 0)) := by
  obtain ⟨h0, mv', v', h1, h2, h3, h4⟩ := h
  have e0 : mv' = mv := by simpa [cell_of_row w db _ _ _ _ h1] using c0
  have e1 : v' = v := by simpa [cell_of_row w db _ _ _ _ h1] using c1
  subst e0; subst e1
  exact h1

end Go.Proofs.Ytbhdelfiaaodmaa
