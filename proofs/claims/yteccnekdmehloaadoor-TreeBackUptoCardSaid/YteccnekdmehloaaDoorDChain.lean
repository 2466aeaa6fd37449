/-
  The document's reader of layer 3 in memory, and its New, fails and Number. No condition.
  The document's Count. No condition but that the size is from 1.
  The document's Text, New and End. No condition.
  What stands ahead of a node's kids, read one behind the other: whether or not a reading fails. No condition.
-/
import Derived.Test.YteccnekdmehloaaDoorCBackR
import Derived.Laws.BitsAllLaws
import Derived.Deep.Slices
import Derived.Deep.RegionHeld3
namespace Go.Proofs.YteccnekdmehloaaDoor
open Go.RowKit
open Extern.Stop (cell)

/-- Block rb is a document's reader over the bytes of the slice at a; m: its field Nodes. -/
structure RfAt (w : World) (rb : Nat) (a : Option Addr) (cap : Nat) (s : Rd) (m : Int) : Prop where
  here : ∃ at_ : Int, w.heap[rb]? = some (.cells #[.slice a s.data.length cap, .int .i64 at_, .int .i64 (if s.bad then (s.pos : Int) else -1), .int .i64 m] 83 (0, 0)) ∧ (s.bad = false → at_ = s.pos)
  byt : ByAt w a s.data
  apart : 0 < s.data.length → ∀ ad, a = some ad → ad.block ≠ rb
  fits : s.pos ≤ s.data.length
  few : s.data.length ≤ 100000000
  room : s.data.length ≤ cap ∧ (cap : Int) ≤ 9223372036854775807
theorem ByAt.still {w w' : World} {a : Option Addr} {bs : List UInt8} (h : ByAt w a bs) (hk : ∀ ad, a = some ad → w'.heap[ad.block]? = w.heap[ad.block]?) : ByAt w' a bs :=
  ⟨h.1, fun ad e j u hj => (World.cell?_of_block (a := ad.add j) (by rw [add_blockC]; exact hk ad e)).trans (h.2 ad e j u hj)⟩
theorem ByAt.lt {w : World} {ad : Addr} {bs : List UInt8} (h : ByAt w (some ad) bs) (hb : 0 < bs.length) : ad.block < w.heap.size := by
  have := World.block_lt_of_cell? w _ (h.2 ad rfl 0 bs[0] (List.getElem?_eq_getElem hb))
  rw [add_blockC] at this
  exact this
theorem RfAt.kept {w w' : World} {rb : Nat} {a : Option Addr} {cap : Nat} {s : Rd} {m : Int} (h : RfAt w rb a cap s m) {S : Nat → Prop} (ht : Touched w w' S) (h1 : ¬ S rb) (h2 : 0 < s.data.length → ∀ ad, a = some ad → ad.block < w.heap.size → ¬ S ad.block) : RfAt w' rb a cap s m := by
  obtain ⟨at_, hh, he⟩ := h.here
  refine ⟨⟨at_, (ht.block rb (lt_of_heap hh) h1).trans hh, he⟩, ?_, h.apart, h.fits, h.few, h.room⟩
  by_cases h0 : 0 < s.data.length
  · exact h.byt.still fun ad e => by subst e; exact ht.block _ (h.byt.lt h0) (h2 h0 ad rfl (h.byt.lt h0))
  · have : s.data = [] := List.eq_nil_of_length_eq_zero (by omega)
    rw [this]
    exact ⟨fun _ => rfl, fun ad e j u hj => by simp at hj⟩
theorem RfAt.drewN {w : World} {rb : Nat} {a : Option Addr} {cap : Nat} {s : Rd} {m : Int} (h : RfAt w rb a cap s m) (k : Nat) : RfAt (w.drewN k) rb a cap s m :=
  h.kept (S := fun _ => False) ⟨rfl, rfl, rfl, Nat.le_refl _, fun _ _ _ => rfl⟩ id (fun _ _ _ _ => id)
theorem RfAt.alloc {w : World} {rb : Nat} {a : Option Addr} {cap : Nat} {s : Rd} {m : Int} (h : RfAt w rb a cap s m) (o : Obj) : RfAt (w.alloc o) rb a cap s m :=
  h.kept (S := fun _ => False) ((Touched.refl w _).alloc o) id (fun _ _ _ _ => id)
theorem RfAt.cells {w : World} {rb : Nat} {a : Option Addr} {cap : Nat} {s : Rd} {m : Int} (h : RfAt w rb a cap s m) : w.cell? ⟨rb, 0, none⟩ = some (.slice a s.data.length cap) ∧ w.cell? ⟨rb, 2, none⟩ = some (.int .i64 (if s.bad then (s.pos : Int) else -1)) ∧ w.cell? ⟨rb, 3, none⟩ = some (.int .i64 m) ∧ (∀ j, w.frozen? ⟨rb, j, none⟩ = false) ∧ ∃ at_ : Int, w.cell? ⟨rb, 1, none⟩ = some (.int .i64 at_) ∧ (s.bad = false → at_ = s.pos) := by
  obtain ⟨at_, hh, he⟩ := h.here
  exact ⟨by rw [cell_of_row w _ 0 _ _ _ hh]; rfl, by rw [cell_of_row w _ 2 _ _ _ hh]; rfl, by rw [cell_of_row w _ 3 _ _ _ hh]; rfl, fun j => frozen_of_row w rb j _ _ hh, at_, by rw [cell_of_row w _ 1 _ _ _ hh]; rfl, he⟩
/-- A reader that has not failed. -/
theorem RfAt.good {w : World} {rb : Nat} {a : Option Addr} {cap : Nat} {s : Rd} {m : Int} (h : RfAt w rb a cap s m) (hb : s.bad = false) : w.cell? ⟨rb, 0, none⟩ = some (.slice a s.data.length cap) ∧ w.cell? ⟨rb, 1, none⟩ = some (.int .i64 (s.pos : Int)) ∧ w.cell? ⟨rb, 2, none⟩ = some (.int .i64 (-1)) ∧ w.cell? ⟨rb, 3, none⟩ = some (.int .i64 m) ∧ ∀ j, w.frozen? ⟨rb, j, none⟩ = false := by
  obtain ⟨c0, c2, c3, f, at_, c1, he⟩ := h.cells
  rw [hb] at c2
  rw [he hb] at c1
  exact ⟨c0, c1, c2, c3, f⟩
/-- One that has. -/
theorem RfAt.failed {w : World} {rb : Nat} {a : Option Addr} {cap : Nat} {s : Rd} {m : Int} (h : RfAt w rb a cap s m) (hb : s.bad = true) : w.cell? ⟨rb, 2, none⟩ = some (.int .i64 (s.pos : Int)) := by
  obtain ⟨c0, c2, c3, f, at_, c1, he⟩ := h.cells
  rw [hb] at c2
  exact c2
theorem RfAt.cell {w : World} {rb : Nat} {ad : Addr} {cap : Nat} {s : Rd} {m : Int} (h : RfAt w rb (some ad) cap s m) (j : Nat) (u : UInt8) (hj : s.data[j]? = some u) : w.cell? (ad.add j) = some (.int .u8 (u.toNat : Int)) := h.byt.2 ad rfl j u hj
theorem RfAt.bytSet {w : World} {rb : Nat} {a : Option Addr} {cap : Nat} {s : Rd} {m : Int} (h : RfAt w rb a cap s m) (j : Nat) (v : Value) : ByAt (w.setCell ⟨rb, j, none⟩ v) a s.data := by
  by_cases h0 : 0 < s.data.length
  · exact h.byt.still fun ad e => Below.heap_setCell _ _ _ _ (h.apart h0 ad e)
  · have : s.data = [] := List.eq_nil_of_length_eq_zero (by omega)
    rw [this]
    exact ⟨fun _ => rfl, fun ad e j u hj => by simp at hj⟩
theorem RfAt.move {w : World} {rb : Nat} {a : Option Addr} {cap : Nat} {s : Rd} {m : Int} (h : RfAt w rb a cap s m) (hb : s.bad = false) (p : Nat) (hp : p ≤ s.data.length) : RfAt (w.setCell ⟨rb, 1, none⟩ (.int .i64 (p : Int))) rb a cap { s with pos := p } m := by
  obtain ⟨at_, hh, he⟩ := h.here
  rw [hb] at hh
  refine ⟨⟨p, ?_, fun _ => rfl⟩, h.bytSet _ _, h.apart, hp, h.few, h.room⟩
  rw [heap_setCell_same w rb 1 _ _ _ hh]
  show some (Obj.cells _ _ _) = some (Obj.cells #[_, _, .int .i64 (if s.bad = true then _ else _), _] _ _)
  rw [hb]; rfl
theorem RfAt.fall {w : World} {rb : Nat} {a : Option Addr} {cap : Nat} {s : Rd} {m : Int} (h : RfAt w rb a cap s m) (p : Nat) (hp : p ≤ s.data.length) : RfAt (w.setCell ⟨rb, 2, none⟩ (.int .i64 (p : Int))) rb a cap { s with pos := p, bad := true } m := by
  obtain ⟨at_, hh, he⟩ := h.here
  refine ⟨⟨at_, ?_, fun e => by cases e⟩, h.bytSet _ _, h.apart, hp, h.few, h.room⟩
  rw [heap_setCell_same w rb 2 _ _ _ hh]
  rfl
theorem RfAt.nodes {w : World} {rb : Nat} {a : Option Addr} {cap : Nat} {s : Rd} {m : Int} (h : RfAt w rb a cap s m) (m' : Int) : RfAt (w.setCell ⟨rb, 3, none⟩ (.int .i64 m')) rb a cap s m' := by
  obtain ⟨at_, hh, he⟩ := h.here
  refine ⟨⟨at_, ?_, he⟩, h.bytSet _ _, h.apart, h.fits, h.few, h.room⟩
  rw [heap_setCell_same w rb 3 _ _ _ hh]
  rfl
/-- What a call of a document's reader answers: v, and how the reader stands then. -/
def RefR {α : Type} (z : Value) (V : α → Value → World → Prop) (w : World) (rb : Nat) (a : Option Addr) (cap : Nat) (s : Rd) (m : Int) (o : Got α) (v : Value) (w' : World) : Prop :=
  Touched w w' (fun k => k = rb) ∧ if s.bad = true then v = z ∧ RfAt w' rb a cap s m else match o with
    | .ok (x, q) => V x v w' ∧ RfAt w' rb a cap { s with pos := q } m
    | .error p => v = z ∧ RfAt w' rb a cap { s with pos := p, bad := true } m
def RefCC {α : Type} (z : Value) (V : α → Value → World → Prop) (w : World) (rb : Nat) (a : Option Addr) (cap : Nat) (s : Rd) (m : Int) (o : Got α) (e : Ending) (w' : World) : Prop := ∃ v, e = .returned v ∧ RefR z V w rb a cap s m o v w'
section
variable {α : Type} {z : Value} {V : α → Value → World → Prop} {w w' : World} {rb : Nat} {a : Option Addr} {cap : Nat} {s : Rd} {m : Int} {o : Got α} {v : Value}
theorem RefR.wrong {p : Nat} (hb : s.bad = false) (ho : o = .error p) (ht : Touched w w' (fun k => k = rb)) (hv : v = z) (h : RfAt w' rb a cap { s with pos := p, bad := true } m) : RefR z V w rb a cap s m o v w' := ⟨ht, by rw [if_neg (by rw [hb]; decide), ho]; exact ⟨hv, h⟩⟩
theorem RefR.bad (h : RefR z V w rb a cap s m o v w') (hb : s.bad = true) : v = z ∧ RfAt w' rb a cap s m := by have := h.2; rw [if_pos hb] at this; exact this
theorem RefR.ok (h : RefR z V w rb a cap s m o v w') (hb : s.bad = false) {x : α} {q : Nat} (ho : o = .ok (x, q)) : V x v w' ∧ RfAt w' rb a cap { s with pos := q } m := by have := h.2; rw [if_neg (by rw [hb]; decide), ho] at this; exact this
theorem RefR.err (h : RefR z V w rb a cap s m o v w') (hb : s.bad = false) {p : Nat} (ho : o = .error p) : v = z ∧ RfAt w' rb a cap { s with pos := p, bad := true } m := by have := h.2; rw [if_neg (by rw [hb]; decide), ho] at this; exact this
end
end Go.Proofs.YteccnekdmehloaaDoor
namespace Go.Proofs.YteccnekdmehloaaDoor
open Go.RowKit
open Extern.Stop (cell)

/-- A reading fails, or had failed before. -/
def Fz {α : Type} (s : Rd) (o : Got α) : Prop := s.bad = true ∨ ∃ p, o = .error p
/-- How a reader stands then. -/
def aft {α : Type} (s : Rd) (o : Got α) : Rd := if s.bad then s else match o with
  | .ok (_, q) => { s with pos := q }
  | .error p => { s with pos := p, bad := true }
theorem aft_stuck {α : Type} {s : Rd} (o : Got α) (h : s.bad = true) : aft s o = s := if_pos h
theorem aft_data {α : Type} (s : Rd) (o : Got α) : (aft s o).data = s.data := by
  unfold aft
  split
  · rfl
  · split <;> rfl
theorem aft_err {α : Type} {s : Rd} {o : Got α} {p : Nat} (hb : s.bad = false) (ho : o = .error p) : aft s o = { s with pos := p, bad := true } := by
  unfold aft; rw [if_neg (by rw [hb]; decide), ho]
/-- What a call that fails does. -/
def FellR (z : Value) (w : World) (rb : Nat) (a : Option Addr) (cap : Nat) (s' : Rd) (m : Int) (e : Ending) (w' : World) : Prop := e = .returned z ∧ RfAt w' rb a cap s' m ∧ Touched w w' (fun k => k = rb)
theorem RefCC.fell {α : Type} {z : Value} {V : α → Value → World → Prop} {w : World} {rb : Nat} {a : Option Addr} {cap : Nat} {s : Rd} {m : Int} {o : Got α} {f : FuncId} {args : Array Value} (h : Calls Tryd.prog f args w (RefCC z V w rb a cap s m o)) (hf : Fz s o) : Calls Tryd.prog f args w (FellR z w rb a cap (aft s o) m) := by
  refine h.mono ?_
  rintro e w' ⟨v, rfl, hr⟩
  by_cases hb : s.bad = true
  · obtain ⟨rfl, h2⟩ := hr.bad hb
    exact ⟨rfl, by rw [aft_stuck o hb]; exact h2, hr.1⟩
  · have hb : s.bad = false := by simpa using hb
    rcases hf with hf | ⟨p, rfl⟩
    · rw [hb] at hf; cases hf
    · obtain ⟨rfl, h2⟩ := hr.err hb rfl
      exact ⟨rfl, by rw [aft_err hb rfl]; exact h2, hr.1⟩
/-- What a call that goes does. -/
def WentR {α : Type} (V : α → Value → World → Prop) (x : α) (w : World) (rb : Nat) (a : Option Addr) (cap : Nat) (s' : Rd) (m : Int) (e : Ending) (w' : World) : Prop := ∃ v, e = .returned v ∧ V x v w' ∧ RfAt w' rb a cap s' m ∧ Touched w w' (fun k => k = rb)
theorem RefCC.went {α : Type} {z : Value} {V : α → Value → World → Prop} {w : World} {rb : Nat} {a : Option Addr} {cap : Nat} {s : Rd} {m : Int} {o : Got α} {f : FuncId} {args : Array Value} {x : α} {q : Nat} (h : Calls Tryd.prog f args w (RefCC z V w rb a cap s m o)) (hb : s.bad = false) (ho : o = .ok (x, q)) : Calls Tryd.prog f args w (WentR V x w rb a cap { s with pos := q } m) := by
  refine h.mono ?_
  rintro e w' ⟨v, rfl, hr⟩
  obtain ⟨h1, h2⟩ := hr.ok hb ho
  exact ⟨v, rfl, h1, h2, hr.1⟩
end Go.Proofs.YteccnekdmehloaaDoor
namespace Go.Proofs.YteccnekdmehloaaDoor
open Go.RowKit
open Extern.Stop (cell)

theorem not_fz {α : Type} {s : Rd} {o : Got α} (h : ¬ Fz s o) : s.bad = false ∧ ∃ x q, o = .ok (x, q) := by
  refine ⟨by by_cases hb : s.bad = true; exact absurd (Or.inl hb) h; simpa using hb, ?_⟩
  cases o with
  | error p => exact absurd (Or.inr ⟨p, rfl⟩) h
  | ok x => exact ⟨x.1, x.2, rfl⟩
end Go.Proofs.YteccnekdmehloaaDoor
namespace Go.Proofs.YteccnekdmehloaaDoor
open Go.RowKit
open Extern.Stop (cell)

theorem aft_ok {α : Type} {s : Rd} {o : Got α} {x : α} {q : Nat} (hb : s.bad = false) (ho : o = .ok (x, q)) : aft s o = { s with pos := q } := by
  unfold aft; rw [if_neg (by rw [hb]; decide), ho]
def BothC {α : Type} (V : α → Value) (w : World) (rb : Nat) (a : Option Addr) (cap : Nat) (s : Rd) (m : Int) (o : Got α) (z : α) (e : Ending) (w' : World) : Prop := ∃ x : α, e = .returned (V x) ∧ RfAt w' rb a cap (aft s o) m ∧ Touched w w' (fun k => k = rb) ∧ (Fz s o → x = z) ∧ ∀ y q, s.bad = false → o = .ok (y, q) → x = y
theorem RefCC.both {α : Type} {V : α → Value} {w : World} {rb : Nat} {a : Option Addr} {cap : Nat} {s : Rd} {m : Int} {o : Got α} {z : α} {f : FuncId} {args : Array Value} (h : Calls Tryd.prog f args w (RefCC (V z) (fun x v _ => v = V x) w rb a cap s m o)) : Calls Tryd.prog f args w (BothC V w rb a cap s m o z) := by
  by_cases hf : Fz s o
  · refine (RefCC.fell h hf).mono ?_
    rintro e w' ⟨rfl, h1, h2⟩
    refine ⟨z, rfl, h1, h2, fun _ => rfl, fun y q hb ho => ?_⟩
    rcases hf with hf | ⟨p, hp⟩
    · rw [hb] at hf; cases hf
    · rw [hp] at ho; cases ho
  · obtain ⟨hb, x, q, ho⟩ := not_fz hf
    refine (RefCC.went h hb ho).mono ?_
    rintro e w' ⟨v, rfl, rfl, h1, h2⟩
    exact ⟨x, rfl, by rw [aft_ok hb ho]; exact h1, h2, fun k => absurd k hf, fun y q' _ hy => by rw [ho] at hy; cases hy; rfl⟩
section
variable {w : World} {rb : Nat} {a : Option Addr} {cap : Nat} {s : Rd} {m : Int}
end
end Go.Proofs.YteccnekdmehloaaDoor
