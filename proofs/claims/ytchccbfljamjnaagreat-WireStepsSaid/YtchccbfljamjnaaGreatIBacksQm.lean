/-
  .
-/
import Derived.Deep.Cut
import Derived.Test.YtchccbfljamjnaaGreatICopyPQm
import Derived.Deep.LoopGhost
import Derived.Laws.EntriesVeiled
import Derived.Deep.RegionLaw
import Derived.Laws.OwnMore
import Derived.IntWalk
import Derived.BigQuiet
import Derived.Deep.Quiet
import Derived.Test.YtchccbfljamjnaaGreatGRiseQm
import Derived.Test.YtchccbfljamjnaaGreatEHeldQm
import Derived.Test.YtchccbfljamjnaaGreatERangeQm
import Derived.Test.YtchccbfljamjnaaGreatELoneQm
import Derived.OwnWalk
import Derived.Deep.RegionHeld3
import Derived.StillTailTactics
import Derived.Test.YtchccbfljamjnaaGreatICopiedQm
set_option maxRecDepth 100000
set_option maxHeartbeats 40000000
namespace Go.Proofs.YtchccbfljamjnaaGreat
open Go.RowKit Go.Shelf
set_option linter.unusedVariables false
set_option linter.unusedSimpArgs false
def zbt (w : World) (S : Nat → Prop) (v : Value) (s : Sf) : Prop := ∃ ka kc, v = .agg #[.int .i8 s.op, .int .i64 s.id, .int .i64 s.par, .int .i64 s.at_, .string s.tx, .int .i64 s.sub.id, .int .i64 s.sub.kind, .string s.sub.text, .slice ka (foLen s.sub.kids) kc] ∧ foLen s.sub.kids ≤ kc ∧ zi w S s.sub.kids ka
def zU (w : World) (S : Nat → Prop) (s : Sf) (e : Ending) (w' : World) : Prop := ∃ v, e = .returned v ∧ zbt w' (fun y => (S y ∨ w.heap.size ≤ y) ∧ y < w'.heap.size) v s ∧ Below w.heap.size w w'
theorem one_set {V : World} {R1 i : Nat} {cs : Array Value} {T : TypeId} {u : Value} (h2 : V.heap[R1]? = some (.cells cs T (0, 0))) :
 ∃ V5, V5 = V.setCell ⟨R1, i, none⟩ u ∧ V5.heap[R1]? = some (.cells (cs.setIfInBounds i u) T (0, 0)) ∧ (∀ y, y ≠ R1 → V5.heap[y]? = V.heap[y]?) ∧ V5.os = V.os ∧ V5.tape = V.tape ∧ V5.output = V.output ∧ V5.heap.size = V.heap.size :=
 ⟨_, rfl, heap_setCell_same V R1 i _ _ u h2, fun y hy => Below.heap_setCell _ _ _ _ hy, rfl, rfl, rfl, by simp [World.setCell]⟩
theorem yE {V : World} {R1 : Nat} {c0 c1 c2 c3 c4 c5 c6 c7 c8 u0 u1 u2 u3 u4 u5 u6 u7 u8 : Value} (h2 : V.heap[R1]? = some (.cells #[c0, c1, c2, c3, c4, c5, c6, c7, c8] 41 (0, 0))) :
 ∃ V5, V5 = (((((((((V.setCell ⟨R1, 0, none⟩ u0).setCell ⟨R1, 1, none⟩ u1).setCell ⟨R1, 2, none⟩ u2).setCell ⟨R1, 3, none⟩ u3).setCell ⟨R1, 4, none⟩ u4).setCell ⟨R1, 5, none⟩ u5).setCell ⟨R1, 6, none⟩ u6).setCell ⟨R1, 7, none⟩ u7).setCell ⟨R1, 8, none⟩ u8) ∧ V5.heap[R1]? = some (.cells #[u0, u1, u2, u3, u4, u5, u6, u7, u8] 41 (0, 0)) ∧ (∀ y, y ≠ R1 → V5.heap[y]? = V.heap[y]?) ∧ V5.os = V.os ∧ V5.tape = V.tape ∧ V5.output = V.output ∧ V5.heap.size = V.heap.size := by
 obtain ⟨V1, e1, g1, o1, a1, t1, p1, s1⟩ := one_set (i := 0) (u := u0) h2
 obtain ⟨V2, e2, g2, o2, a2, t2, p2, s2⟩ := one_set (i := 1) (u := u1) g1
 obtain ⟨V3, e3, g3, o3, a3, t3, p3, s3⟩ := one_set (i := 2) (u := u2) g2
 obtain ⟨V4, e4, g4, o4, a4, t4, p4, s4⟩ := one_set (i := 3) (u := u3) g3
 obtain ⟨V5, e5, g5, o5, a5, t5, p5, s5⟩ := one_set (i := 4) (u := u4) g4
 obtain ⟨V6, e6, g6, o6, a6, t6, p6, s6⟩ := one_set (i := 5) (u := u5) g5
 obtain ⟨V7, e7, g7, o7, a7, t7, p7, s7⟩ := one_set (i := 6) (u := u6) g6
 obtain ⟨V8, e8, g8, o8, a8, t8, p8, s8⟩ := one_set (i := 7) (u := u7) g7
 obtain ⟨V9, e9, g9, o9, a9, t9, p9, s9⟩ := one_set (i := 8) (u := u8) g8
 refine ⟨V9, by rw [e9, e8, e7, e6, e5, e4, e3, e2, e1], by simpa using g9, fun y hy => by rw [o9 y hy, o8 y hy, o7 y hy, o6 y hy, o5 y hy, o4 y hy, o3 y hy, o2 y hy, o1 y hy], by rw [a9, a8, a7, a6, a5, a4, a3, a2, a1], by rw [t9, t8, t7, t6, t5, t4, t3, t2, t1], by rw [p9, p8, p7, p6, p5, p4, p3, p2, p1], by rw [s9, s8, s7, s6, s5, s4, s3, s2, s1]⟩
theorem yM {w : World} {b : Nat} {c0 c1 c2 c3 c4 c5 c6 c7 c8 : Value} {T : TypeId} (h : w.heap[b]? = some (.cells #[c0, c1, c2, c3, c4, c5, c6, c7, c8] T (0, 0))) : w.cell? ⟨b, 0, none⟩ = some c0 ∧ w.cell? ⟨b, 1, none⟩ = some c1 ∧ w.cell? ⟨b, 2, none⟩ = some c2 ∧ w.cell? ⟨b, 3, none⟩ = some c3 ∧ w.cell? ⟨b, 4, none⟩ = some c4 ∧ w.cell? ⟨b, 5, none⟩ = some c5 ∧ w.cell? ⟨b, 6, none⟩ = some c6 ∧ w.cell? ⟨b, 7, none⟩ = some c7 ∧ w.cell? ⟨b, 8, none⟩ = some c8 :=
 ⟨by rw [cell_of_row _ _ 0 _ _ _ h]; rfl, by rw [cell_of_row _ _ 1 _ _ _ h]; rfl, by rw [cell_of_row _ _ 2 _ _ _ h]; rfl, by rw [cell_of_row _ _ 3 _ _ _ h]; rfl, by rw [cell_of_row _ _ 4 _ _ _ h]; rfl, by rw [cell_of_row _ _ 5 _ _ _ h]; rfl, by rw [cell_of_row _ _ 6 _ _ _ h]; rfl, by rw [cell_of_row _ _ 7 _ _ _ h]; rfl, by rw [cell_of_row _ _ 8 _ _ _ h]; rfl⟩
end Go.Proofs.YtchccbfljamjnaaGreat
