/-
  Arrays of 201 truths, whole, out of and into blocks: single rules of the walk. No condition.
-/
import Derived.Test.YtfdcopegkhofnaaGIntsQb
import Derived.Deep.MidRow
import Derived.Deep.WholeRow
namespace Go.Proofs.Ytfdcopegkhofnaa
open Go.RowKit

/-- The cells of such an array. -/
def vec (f : Nat → Bool) : Array Value := ((List.range 201).map fun j => Value.bool (f j)).toArray
theorem vec_size (f : Nat → Bool) : (vec f).size = 201 := by simp [vec]
theorem vec_at (f : Nat → Bool) (j : Nat) (h : j < 201) : (vec f)[j]? = some (.bool (f j)) := by
  simp [vec, h]
theorem vec_set (f : Nat → Bool) (i : Nat) (b : Bool) : (vec f).setIfInBounds i (.bool b) = vec (fun j => if j = i then b else f j) := by
  apply Array.ext_getElem?
  intro j
  by_cases hj : j < 201
  · rw [vec_at _ j hj, Array.getElem?_setIfInBounds]
    by_cases e : i = j
    · subst e; rw [if_pos rfl, if_pos (by rw [vec_size]; exact hj), if_pos rfl]
    · rw [if_neg e, vec_at _ j hj, if_neg (fun h => e h.symm)]
  · rw [Array.getElem?_eq_none (by simp [vec_size]; omega), Array.getElem?_eq_none (by rw [vec_size]; omega)]
/-- Each is one cell. -/
def allOne (cs : Array Value) : Bool := cs.all (·.oneCell')
theorem vec_one (f : Nat → Bool) : allOne (vec f) = true := by
  refine Array.all_eq_true_iff_forall_mem.2 fun u hu => ?_
  simp only [vec, List.mem_toArray, List.mem_map] at hu
  obtain ⟨b, _, rfl⟩ := hu; rfl

/-- The cells of a block. -/
def blk (w : World) (b : Nat) : Array Value := match w.heap[b]? with
  | some (.cells cs _ _) => cs
  | _ => #[]
theorem blk_of {w : World} {b : Nat} {cs : Array Value} {t : TypeId} {fr : Nat × Nat} (h : w.heap[b]? = some (.cells cs t fr)) : blk w b = cs := by simp [blk, h]
theorem blk_alloc_new (w : World) (cs : Array Value) (t : TypeId) (n : Nat) (hn : n = w.heap.size) : blk (w.alloc (.cells cs t)) n = cs := by
  subst hn; exact blk_of (heap_alloc_new w _)
theorem blk_cell {w : World} {b : Nat} {v : Value} (j : Nat) (h : (blk w b)[j]? = some v) : w.cell? ⟨b, j, none⟩ = some v := by
  unfold blk at h
  split at h
  · rename_i cs t fr hb; rw [cell_of_row w b j cs t fr hb]; exact h
  · simp at h
theorem loadVar_blk0 {P : Program} (w : World) (b s : Nat) (ty : TypeId) (d : TypeDesc) (hu : P.underlying ty = some d) (hd : d.isRow = true) (hi : (P.info? ty).map (·.size) = some s) (h : (blk w b).size = s) :
    (loadVar ty ⟨b, 0, none⟩).run P w = .ok (.agg (blk w b)) w := by
  have := run_loadVar_mid (P := P) w b 0 ty (blk w b).toList d (fun j v hv => by
    refine blk_cell _ ?_
    rw [Nat.zero_add]; rw [Array.getElem?_toList] at hv; exact hv) hu hd (by rw [Array.length_toList, h]; exact hi)
  rw [Array.toArray_toList] at this
  exact this
theorem Try.sizeT : (Try.prog.info? 149).map (·.size) = some 201 := by kernel_rfl
/-- Where a pointer leads: its block; does it lead to the head of it? -/
def headB : Value → Nat
  | .pointer (some a) => a.block
  | _ => 0
def isHead : Value → Bool
  | .pointer (some a) => a.off == 0 && a.spot.isNone
  | _ => false
theorem headB_ptr (a : Addr) : headB (.pointer (some a)) = a.block := rfl
theorem isHead_ptr (b n : Nat) : isHead (.pointer (some ⟨b, n, none⟩)) = (n == 0) := by simp [isHead]
theorem isHead_inv {v : Value} (h : isHead v = true) : v = .pointer (some ⟨headB v, 0, none⟩) := by
  unfold isHead at h
  split at h
  · rename_i a
    obtain ⟨b, n, s⟩ := a
    simp at h
    obtain ⟨rfl, rfl⟩ := h
    rfl
  · cases h
def aggC : Value → Array Value
  | .agg cs => cs
  | _ => #[]
def isT : Value → Bool
  | .agg cs => cs.size == 201 && allOne cs
  | _ => false
theorem aggC_agg (cs : Array Value) : aggC (.agg cs) = cs := rfl
theorem isT_vec (f : Nat → Bool) : isT (.agg (vec f)) = true := by simp [isT, vec_size, vec_one]
theorem isT_inv {v : Value} (h : isT v = true) : v = .agg (aggC v) ∧ (aggC v).size = 201 ∧ allOne (aggC v) = true := by
  unfold isT at h
  split at h
  · simp at h; exact ⟨rfl, h.1, h.2⟩
  · cases h
/-- A block of 201 cells that may be written. -/
def freeRow (w : World) (b : Nat) : Bool := match w.heap[b]? with
  | some (.cells cs _ fr) => cs.size == 201 && fr == (0, 0)
  | _ => false
theorem freeRow_alloc (w : World) (c : Array Value) (t : TypeId) (n : Nat) (hn : n = w.heap.size) : freeRow (w.alloc (.cells c t)) n = (c.size == 201) := by
  subst hn
  unfold freeRow
  rw [heap_alloc_new]
  simp
theorem freeRow_inv {w : World} {b : Nat} (h : freeRow w b = true) : ∃ cs t, w.heap[b]? = some (.cells cs t (0, 0)) ∧ cs.size = 201 := by
  unfold freeRow at h
  split at h
  · rename_i cs t fr hb
    simp at h
    obtain ⟨h1, rfl⟩ := h
    exact ⟨cs, t, hb, h1⟩
  · cases h
theorem setRow_alloc_at (w : World) (c c' : Array Value) (t : TypeId) (n : Nat) (hn : n = w.heap.size) : (w.alloc (.cells c t)).setRow n c' = w.alloc (.cells c' t) := by
  subst hn; exact World.setRow_alloc_new w c c' t
def noF : Nat → Bool := fun _ => false
def onlyF : Nat → Bool := fun j => decide (j = 0)

section
variable (w : World) (ρ : Operand → Value) (a : Act) (dst : Option Tmp) (x y : Operand) (ty' : TypeId) (pos : String) (aft : Array Edge) (g : Option (Nat × Bool)) (K : Act → World → Prop) (Q : Exit → Act → World → Prop)
theorem loadT (h : isHead (ρ x) = true) (h2 : (blk w (headB (ρ x))).size = 201) : (execOp ρ ⟨dst, .load 149 x, ty', pos, aft, g⟩).run Try.prog w = .ok (.value (.agg (blk w (headB (ρ x))))) w := by
  have e := isHead_inv h
  simp only [execOp, Sem.run_bind]
  rw [e]
  simp only [Instr.loadAt, Instr.sureAddr, Sem.run_bind, Sem.run_pure, Result.andThen_ok, headB_ptr]
  rw [loadVar_blk0 (P := Try.prog) w (headB (ρ x)) 201 149 _ Try.underlying149 rfl Try.sizeT h2]
  rfl
theorem wpLoadT (h : isHead (a.eval x) = true) (h2 : (blk w (headB (a.eval x))).size = 201) : Oper.wp Try.prog ⟨dst, .load 149 x, ty', pos, aft, g⟩ a w K Q = K (a.put dst (.agg (blk w (headB (a.eval x))))) w := by
  unfold Oper.wp
  rw [loadT w a.eval dst x ty' pos aft g h h2]
  rfl
theorem storeT (h : isHead (ρ x) = true) (h2 : freeRow w (headB (ρ x)) = true) (h3 : isT (ρ y) = true) :
    (execOp ρ ⟨dst, .store 149 x y, ty', pos, aft, g⟩).run Try.prog w = .ok .skip (w.setRow (headB (ρ x)) (aggC (ρ y))) := by
  have e1 := isHead_inv h
  obtain ⟨e2, e3, e4⟩ := isT_inv h3
  obtain ⟨cs, t, hb, hs⟩ := freeRow_inv h2
  have hr := run_storeVar_row (P := Try.prog) w (headB (ρ x)) t 149 cs (aggC (ρ y)) hb (by rw [e3]; exact Try.sizeT) (by omega) e4
  simp only [execOp, Sem.run_bind]
  rw [e2, e1]
  simp only [Instr.storeAt, Instr.sureAddr, Sem.run_bind, Sem.run_pure, Result.andThen_ok, headB_ptr]
  rw [hr]
  rfl
theorem wpStoreT (h : isHead (a.eval x) = true) (h2 : freeRow w (headB (a.eval x)) = true) (h3 : isT (a.eval y) = true) :
    Oper.wp Try.prog ⟨dst, .store 149 x y, ty', pos, aft, g⟩ a w K Q = K (a.put dst undef) (w.setRow (headB (a.eval x)) (aggC (a.eval y))) := by
  unfold Oper.wp
  rw [storeT w a.eval dst x y ty' pos aft g h h2 h3]
  rfl
theorem allocT : (execOp ρ ⟨dst, .alloc 149, ty', pos, aft, g⟩).run Try.prog w = .ok (.value (.pointer (some ⟨w.heap.size, 0, none⟩))) (w.alloc (.cells (vec noF) 149)) := by kernel_rfl
theorem wpAllocT : Oper.wp Try.prog ⟨dst, .alloc 149, ty', pos, aft, g⟩ a w K Q = K (a.put dst (.pointer (some ⟨w.heap.size, 0, none⟩))) (w.alloc (.cells (vec noF) 149)) := by
  unfold Oper.wp
  rw [allocT w a.eval dst ty' pos aft g]
  rfl
theorem buildT' : (Instr.build 149 #[(0, .bool true)]).run Try.prog w = .ok (.agg (vec onlyF)) w := by kernel_rfl
theorem buildT (h : ρ x = .bool true) : (execOp ρ ⟨dst, .build 149 #[(0, x)], ty', pos, aft, g⟩).run Try.prog w = .ok (.value (.agg (vec onlyF))) w := by
  simp only [execOp, List.map_toArray, List.map_cons, List.map_nil, Sem.run_bind]
  rw [h, buildT']
  rfl
theorem wpBuildT (h : a.eval x = .bool true) : Oper.wp Try.prog ⟨dst, .build 149 #[(0, x)], ty', pos, aft, g⟩ a w K Q = K (a.put dst (.agg (vec onlyF))) w := by
  unfold Oper.wp
  rw [buildT w a.eval dst x ty' pos aft g h]
  rfl
end
end Go.Proofs.Ytfdcopegkhofnaa
