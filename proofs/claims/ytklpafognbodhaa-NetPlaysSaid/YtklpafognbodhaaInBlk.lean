/-
  Items of seventeen cells out of and into the middle of blocks, as single rules of the walk. No condition.
  Messages and items out of and into memory, as single rules of the fenced walk. No condition.
-/
import Derived.Test.YtklpafognbodhaaMBlk
import Derived.RangeFuncNested
import Derived.RangeFuncBound
import Derived.RangeFuncCalls
import Derived.RangeFuncLeaves
import Derived.Shelf.Abstract
import Derived.Shelf.RegionOpen
import Derived.WalkKit
import Derived.OwnWalkIn
import Derived.TacticsInMore
import Derived.LoopNIn
import Derived.LoopIn
namespace Go.Proofs.Ytklpafognbodhaa
open Go.RowKit

/-- Sixteen cells lie behind that pointer. -/
def okAtK (w : World) (v : Value) : Bool := match v with
  | .pointer (some ⟨b, o, none⟩) => decide (o + 17 ≤ (blk w b).size)
  | _ => false
def cellsAtK (w : World) (v : Value) : Array Value := match v with
  | .pointer (some ⟨b, o, none⟩) => (blk w b).extract o (o + 17)
  | _ => #[]
/-- A block of sixteen cells begins there, and may be written. -/
def freeAtK (w : World) (v : Value) : Bool := match v with
  | .pointer (some ⟨b, 0, none⟩) => match w.heap[b]? with
    | some (.cells cs _ fr) => cs.size == 17 && fr == (0, 0)
    | _ => false
  | _ => false
def isK : Value → Bool
  | .agg cs => cs.size == 17 && cs.all (·.oneCell')
  | _ => false

theorem run_load_K (w : World) (v : Value) (h : okAtK w v = true) : (Instr.loadAt 85 v).run Try.prog w = .ok (.agg (cellsAtK w v)) w := by
  unfold okAtK at h
  split at h
  · rename_i b o
    simp only [decide_eq_true_eq] at h
    have hl : ((blk w b).extract o (o + 17)).toList.length = 17 := by simp; omega
    have := run_loadAt_mid (P := Try.prog) w b o 85 ((blk w b).extract o (o + 17)).toList _ (fun j v hv => by
      refine blk_cell _ ?_
      have e : ((blk w b).extract o (o + 17)).toList[j]? = ((blk w b).extract o (o + 17))[j]? := Array.getElem?_toList
      rw [e, Array.getElem?_extract] at hv
      split at hv
      · exact hv
      · cases hv) Try.underlying85 rfl (by rw [hl]; kernel_rfl)
    rw [Array.toArray_toList] at this
    exact this
  · cases h
theorem run_store_K (w : World) (v u : Value) (h : freeAtK w v = true) (hu : isK u = true) : (Instr.storeAt 85 v u).run Try.prog w = .ok () (putAt w v u) := by
  unfold freeAtK at h
  split at h
  · rename_i b
    split at h
    · rename_i cs t fr hb
      simp at h
      obtain ⟨h1, rfl⟩ := h
      cases u <;> simp only [isK, Bool.and_eq_true, beq_iff_eq, Bool.false_eq_true] at hu
      rename_i us
      exact run_storeAt_mid (P := Try.prog) w b 0 85 us (fun j hj => ⟨by
        rw [cell_of_row w _ _ _ _ _ hb]
        have hj' : 0 + j < cs.size := by omega
        rw [Array.getElem?_eq_getElem hj']; rfl, frozen_of_row w _ _ _ _ hb⟩) (by rw [hu.1]; kernel_rfl) hu.2
    · cases h
  · cases h

section
variable (w : World) (ρ : Operand → Value) (a : Act) (dst : Option Tmp) (x y : Operand) (ty' : TypeId) (pos : String) (aft : Array Edge) (g : Option (Nat × Bool)) (K : Act → World → Prop) (Q : Exit → Act → World → Prop)
theorem loadK (h : okAtK w (ρ x) = true) : (execOp ρ ⟨dst, .load 85 x, ty', pos, aft, g⟩).run Try.prog w = .ok (.value (.agg (cellsAtK w (ρ x)))) w := by
  simp only [execOp, Sem.run_bind, run_load_K w (ρ x) h, Result.andThen_ok, Sem.run_pure]
theorem wpLoadK (h : okAtK w (a.eval x) = true) : Oper.wp Try.prog ⟨dst, .load 85 x, ty', pos, aft, g⟩ a w K Q = K (a.put dst (.agg (cellsAtK w (a.eval x)))) w := by
  unfold Oper.wp
  rw [loadK w a.eval dst x ty' pos aft g h]
  rfl
theorem storeK (h : freeAtK w (ρ x) = true) (hu : isK (ρ y) = true) : (execOp ρ ⟨dst, .store 85 x y, ty', pos, aft, g⟩).run Try.prog w = .ok .skip (putAt w (ρ x) (ρ y)) := by
  simp only [execOp, Sem.run_bind, run_store_K w (ρ x) (ρ y) h hu, Result.andThen_ok, Sem.run_pure]
theorem wpStoreK (h : freeAtK w (a.eval x) = true) (hu : isK (a.eval y) = true) : Oper.wp Try.prog ⟨dst, .store 85 x y, ty', pos, aft, g⟩ a w K Q = K (a.put dst undef) (putAt w (a.eval x) (a.eval y)) := by
  unfold Oper.wp
  rw [storeK w a.eval dst x y ty' pos aft g h hu]
  rfl
end
theorem isK_agg {cs : List Value} (h : cs.length = 17) (h1 : ∀ v ∈ cs, v.oneCell' = true) : isK (.agg cs.toArray) = true := by
  show (cs.toArray.size == 17 && cs.toArray.all (·.oneCell')) = true
  rw [all_oneCell_toArray h1, List.size_toArray, h]; rfl
theorem freeAtK_of {w : World} {b : Nat} {cs : Array Value} {t : TypeId} (h : w.heap[b]? = some (.cells cs t (0, 0))) (hs : cs.size = 17) : freeAtK w (.pointer (some ⟨b, 0, none⟩)) = true := by simp [freeAtK, h, hs]
/-- A message that lies in the midst of a block. -/
def KThere (w : World) (b o : Nat) (cs : List Value) : Prop := okAtK w (.pointer (some ⟨b, o, none⟩)) = true ∧ cellsAtK w (.pointer (some ⟨b, o, none⟩)) = cs.toArray
theorem KThere.same {w w' : World} {b o : Nat} {cs : List Value} (h : KThere w b o cs) (hb : w'.heap[b]? = w.heap[b]?) : KThere w' b o cs := by
  have e := blk_same hb
  exact ⟨by have := h.1; simp only [okAtK, e] at this ⊢; exact this, by have := h.2; simp only [cellsAtK, e] at this ⊢; exact this⟩
theorem there_K {w : World} {b o : Nat} {C : Array Value} {t : TypeId} {fr : Nat × Nat} {cs : List Value} (hb : w.heap[b]? = some (.cells C t fr)) (hl : cs.length = 17) (hc : ∀ j u, cs[j]? = some u → C[o + j]? = some u) : KThere w b o cs := by
  have hsz : o + 17 ≤ C.size := by
    have h16 : cs[16]? = some (cs[16]'(by omega)) := List.getElem?_eq_getElem _
    have := (Array.getElem?_eq_some_iff.1 (hc 16 _ h16)).1
    omega
  refine ⟨by simp only [okAtK, blk_of hb, decide_eq_true_eq]; exact hsz, ?_⟩
  simp only [cellsAtK, blk_of hb]
  have e : C.extract o (o + 17) = cs.toArray := by
    apply Array.ext_getElem?
    intro j
    have e2 : cs.toArray[j]? = cs[j]? := by simp
    rw [Array.getElem?_extract, e2]
    by_cases hj : j < 17
    · have h1 := hc j _ (List.getElem?_eq_getElem (by omega : j < cs.length))
      rw [if_pos (by omega), h1, List.getElem?_eq_getElem (by omega : j < cs.length)]
    · rw [if_neg (by omega), List.getElem?_eq_none (by omega)]
  exact e

end Go.Proofs.Ytklpafognbodhaa
namespace Go.Proofs.Ytklpafognbodhaa
open Go.RowKit

section
variable (F : Fence) (n : Nat) (w : World) (a : Act) (dst : Option Tmp) (x y : Operand) (ty' : TypeId) (pos : String) (aft : Array Edge) (g : Option (Nat × Bool)) (K : Act → World → Prop) (Q : Exit → Act → World → Prop)
theorem inLoadM (h : okAt w (a.eval x) = true) : Oper.wpIn F n Try.prog ⟨dst, .load 40 x, ty', pos, aft, g⟩ a w K Q = K (a.put dst (.agg (cellsAt w (a.eval x)))) w := by
  unfold Oper.wpIn
  have e : (Oper.semAt F.round a.eval ⟨dst, .load 40 x, ty', pos, aft, g⟩).run Try.prog w = (execOp a.eval ⟨dst, .load 40 x, ty', pos, aft, g⟩).run Try.prog w := by cases F.round <;> rfl
  rw [e, loadM w a.eval dst x ty' pos aft g h]
  exact propext ⟨fun h => h.2, fun h => ⟨fun f e => (by cases e), h⟩⟩
theorem inStoreM (h : freeAt w (a.eval x) = true) (hu : isMsg (a.eval y) = true) : Oper.wpIn F n Try.prog ⟨dst, .store 40 x y, ty', pos, aft, g⟩ a w K Q = K (a.put dst undef) (putAt w (a.eval x) (a.eval y)) := by
  unfold Oper.wpIn
  have e : (Oper.semAt F.round a.eval ⟨dst, .store 40 x y, ty', pos, aft, g⟩).run Try.prog w = (execOp a.eval ⟨dst, .store 40 x y, ty', pos, aft, g⟩).run Try.prog w := by cases F.round <;> rfl
  rw [e, storeM w a.eval dst x y ty' pos aft g h hu]
  exact propext ⟨fun h => h.2, fun h => ⟨fun f e => (by cases e), h⟩⟩
theorem inLoadK (h : okAtK w (a.eval x) = true) : Oper.wpIn F n Try.prog ⟨dst, .load 85 x, ty', pos, aft, g⟩ a w K Q = K (a.put dst (.agg (cellsAtK w (a.eval x)))) w := by
  unfold Oper.wpIn
  have e : (Oper.semAt F.round a.eval ⟨dst, .load 85 x, ty', pos, aft, g⟩).run Try.prog w = (execOp a.eval ⟨dst, .load 85 x, ty', pos, aft, g⟩).run Try.prog w := by cases F.round <;> rfl
  rw [e, loadK w a.eval dst x ty' pos aft g h]
  exact propext ⟨fun h => h.2, fun h => ⟨fun f e => (by cases e), h⟩⟩
theorem inStoreK (h : freeAtK w (a.eval x) = true) (hu : isK (a.eval y) = true) : Oper.wpIn F n Try.prog ⟨dst, .store 85 x y, ty', pos, aft, g⟩ a w K Q = K (a.put dst undef) (putAt w (a.eval x) (a.eval y)) := by
  unfold Oper.wpIn
  have e : (Oper.semAt F.round a.eval ⟨dst, .store 85 x y, ty', pos, aft, g⟩).run Try.prog w = (execOp a.eval ⟨dst, .store 85 x y, ty', pos, aft, g⟩).run Try.prog w := by cases F.round <;> rfl
  rw [e, storeK w a.eval dst x y ty' pos aft g h hu]
  exact propext ⟨fun h => h.2, fun h => ⟨fun f e => (by cases e), h⟩⟩
theorem semLoadM (ro : Option Nat) (ρ : Operand → Value) (h : okAt w (ρ x) = true) : (Oper.semAt ro ρ ⟨dst, .load 40 x, ty', pos, aft, g⟩).run Try.prog w = .ok (.value (.agg (cellsAt w (ρ x)))) w := by
  have e : (Oper.semAt ro ρ ⟨dst, .load 40 x, ty', pos, aft, g⟩).run Try.prog w = (execOp ρ ⟨dst, .load 40 x, ty', pos, aft, g⟩).run Try.prog w := by cases ro <;> rfl
  rw [e, loadM w ρ dst x ty' pos aft g h]
theorem semLoadK (ro : Option Nat) (ρ : Operand → Value) (h : okAtK w (ρ x) = true) : (Oper.semAt ro ρ ⟨dst, .load 85 x, ty', pos, aft, g⟩).run Try.prog w = .ok (.value (.agg (cellsAtK w (ρ x)))) w := by
  have e : (Oper.semAt ro ρ ⟨dst, .load 85 x, ty', pos, aft, g⟩).run Try.prog w = (execOp ρ ⟨dst, .load 85 x, ty', pos, aft, g⟩).run Try.prog w := by cases ro <;> rfl
  rw [e, loadK w ρ dst x ty' pos aft g h]
end
end Go.Proofs.Ytklpafognbodhaa
