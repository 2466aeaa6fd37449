/-
  Messages of sixteen cells out of and into the middle of blocks, as single rules of the walk. No condition.
-/
import Derived.Test.YtklpafognbodhaaPMark
namespace Go.Proofs.Ytklpafognbodhaa
open Go.RowKit

/-- The cells of a block. -/
def blk (w : World) (b : Nat) : Array Value := match w.heap[b]? with
  | some (.cells cs _ _) => cs
  | _ => #[]
theorem blk_cell {w : World} {b : Nat} {v : Value} (j : Nat) (h : (blk w b)[j]? = some v) : w.cell? ⟨b, j, none⟩ = some v := by
  unfold blk at h
  split at h
  · rename_i cs t fr hb; rw [cell_of_row w b j cs t fr hb]; exact h
  · simp at h
/-- Sixteen cells lie behind that pointer. -/
def okAt (w : World) (v : Value) : Bool := match v with
  | .pointer (some ⟨b, o, none⟩) => decide (o + 16 ≤ (blk w b).size)
  | _ => false
def cellsAt (w : World) (v : Value) : Array Value := match v with
  | .pointer (some ⟨b, o, none⟩) => (blk w b).extract o (o + 16)
  | _ => #[]
/-- A block of sixteen cells begins there, and may be written. -/
def freeAt (w : World) (v : Value) : Bool := match v with
  | .pointer (some ⟨b, 0, none⟩) => match w.heap[b]? with
    | some (.cells cs _ fr) => cs.size == 16 && fr == (0, 0)
    | _ => false
  | _ => false
def isMsg : Value → Bool
  | .agg cs => cs.size == 16 && cs.all (·.oneCell')
  | _ => false
def putAt (w : World) (v u : Value) : World := match v, u with
  | .pointer (some a), .agg cs => w.setCells a.block 0 cs.toList
  | _, _ => w

theorem run_load_msg (w : World) (v : Value) (h : okAt w v = true) : (Instr.loadAt 40 v).run Try.prog w = .ok (.agg (cellsAt w v)) w := by
  unfold okAt at h
  split at h
  · rename_i b o
    simp only [decide_eq_true_eq] at h
    have hl : ((blk w b).extract o (o + 16)).toList.length = 16 := by simp; omega
    have := run_loadAt_mid (P := Try.prog) w b o 40 ((blk w b).extract o (o + 16)).toList _ (fun j v hv => by
      refine blk_cell _ ?_
      have e : ((blk w b).extract o (o + 16)).toList[j]? = ((blk w b).extract o (o + 16))[j]? := Array.getElem?_toList
      rw [e, Array.getElem?_extract] at hv
      split at hv
      · exact hv
      · cases hv) Try.underlying40 rfl (by rw [hl]; kernel_rfl)
    rw [Array.toArray_toList] at this
    exact this
  · cases h
theorem run_store_msg (w : World) (v u : Value) (h : freeAt w v = true) (hu : isMsg u = true) : (Instr.storeAt 40 v u).run Try.prog w = .ok () (putAt w v u) := by
  unfold freeAt at h
  split at h
  · rename_i b
    split at h
    · rename_i cs t fr hb
      simp at h
      obtain ⟨h1, rfl⟩ := h
      cases u <;> simp only [isMsg, Bool.and_eq_true, beq_iff_eq, Bool.false_eq_true] at hu
      rename_i us
      exact run_storeAt_mid (P := Try.prog) w b 0 40 us (fun j hj => ⟨by
        rw [cell_of_row w _ _ _ _ _ hb]
        have hj' : 0 + j < cs.size := by omega
        rw [Array.getElem?_eq_getElem hj']; rfl, frozen_of_row w _ _ _ _ hb⟩) (by rw [hu.1]; kernel_rfl) hu.2
    · cases h
  · cases h

section
variable (w : World) (ρ : Operand → Value) (a : Act) (dst : Option Tmp) (x y : Operand) (ty' : TypeId) (pos : String) (aft : Array Edge) (g : Option (Nat × Bool)) (K : Act → World → Prop) (Q : Exit → Act → World → Prop)
theorem loadM (h : okAt w (ρ x) = true) : (execOp ρ ⟨dst, .load 40 x, ty', pos, aft, g⟩).run Try.prog w = .ok (.value (.agg (cellsAt w (ρ x)))) w := by
  simp only [execOp, Sem.run_bind, run_load_msg w (ρ x) h, Result.andThen_ok, Sem.run_pure]
theorem wpLoadM (h : okAt w (a.eval x) = true) : Oper.wp Try.prog ⟨dst, .load 40 x, ty', pos, aft, g⟩ a w K Q = K (a.put dst (.agg (cellsAt w (a.eval x)))) w := by
  unfold Oper.wp
  rw [loadM w a.eval dst x ty' pos aft g h]
  rfl
theorem storeM (h : freeAt w (ρ x) = true) (hu : isMsg (ρ y) = true) : (execOp ρ ⟨dst, .store 40 x y, ty', pos, aft, g⟩).run Try.prog w = .ok .skip (putAt w (ρ x) (ρ y)) := by
  simp only [execOp, Sem.run_bind, run_store_msg w (ρ x) (ρ y) h hu, Result.andThen_ok, Sem.run_pure]
theorem wpStoreM (h : freeAt w (a.eval x) = true) (hu : isMsg (a.eval y) = true) : Oper.wp Try.prog ⟨dst, .store 40 x y, ty', pos, aft, g⟩ a w K Q = K (a.put dst undef) (putAt w (a.eval x) (a.eval y)) := by
  unfold Oper.wp
  rw [storeM w a.eval dst x y ty' pos aft g h hu]
  rfl
end
theorem putAt_ptr (w : World) (b : Nat) (cs : Array Value) : putAt w (.pointer (some ⟨b, 0, none⟩)) (.agg cs) = w.setCells b 0 cs.toList := rfl
theorem isMsg_agg {cs : List Value} (h : cs.length = 16) (h1 : ∀ v ∈ cs, v.oneCell' = true) : isMsg (.agg cs.toArray) = true := by
  show (cs.toArray.size == 16 && cs.toArray.all (·.oneCell')) = true
  rw [all_oneCell_toArray h1, List.size_toArray, h]; rfl
theorem blk_of {w : World} {b : Nat} {cs : Array Value} {t : TypeId} {fr : Nat × Nat} (h : w.heap[b]? = some (.cells cs t fr)) : blk w b = cs := by simp [blk, h]
theorem blk_same {w w' : World} {b : Nat} (h : w'.heap[b]? = w.heap[b]?) : blk w' b = blk w b := by simp [blk, h]
theorem freeAt_of {w : World} {b : Nat} {cs : Array Value} {t : TypeId} (h : w.heap[b]? = some (.cells cs t (0, 0))) (hs : cs.size = 16) : freeAt w (.pointer (some ⟨b, 0, none⟩)) = true := by simp [freeAt, h, hs]
/-- A message that lies in the midst of a block. -/
def MsgThere (w : World) (b o : Nat) (cs : List Value) : Prop := okAt w (.pointer (some ⟨b, o, none⟩)) = true ∧ cellsAt w (.pointer (some ⟨b, o, none⟩)) = cs.toArray
theorem MsgThere.same {w w' : World} {b o : Nat} {cs : List Value} (h : MsgThere w b o cs) (hb : w'.heap[b]? = w.heap[b]?) : MsgThere w' b o cs := by
  have e := blk_same hb
  exact ⟨by have := h.1; simp only [okAt, e] at this ⊢; exact this, by have := h.2; simp only [cellsAt, e] at this ⊢; exact this⟩
theorem there_msg {w : World} {b o : Nat} {C : Array Value} {t : TypeId} {fr : Nat × Nat} {cs : List Value} (hb : w.heap[b]? = some (.cells C t fr)) (hl : cs.length = 16) (hc : ∀ j u, cs[j]? = some u → C[o + j]? = some u) : MsgThere w b o cs := by
  have hsz : o + 16 ≤ C.size := by
    have h15 : cs[15]? = some (cs[15]'(by omega)) := List.getElem?_eq_getElem _
    have := (Array.getElem?_eq_some_iff.1 (hc 15 _ h15)).1
    omega
  refine ⟨by simp only [okAt, blk_of hb, decide_eq_true_eq]; exact hsz, ?_⟩
  simp only [cellsAt, blk_of hb]
  have e : C.extract o (o + 16) = cs.toArray := by
    apply Array.ext_getElem?
    intro j
    have e2 : cs.toArray[j]? = cs[j]? := by simp
    rw [Array.getElem?_extract, e2]
    by_cases hj : j < 16
    · have h1 := hc j _ (List.getElem?_eq_getElem (by omega : j < cs.length))
      rw [if_pos (by omega), h1, List.getElem?_eq_getElem (by omega : j < cs.length)]
    · rw [if_neg (by omega), List.getElem?_eq_none (by omega)]
  exact e

end Go.Proofs.Ytklpafognbodhaa
