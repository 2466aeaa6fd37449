/-
  What the document's walk over a tree tells, where it is not cut off: its nodes and their depths. No condition but that there are not too many nodes.
  What a walk over a tree tells, as a row of spots: plain definitions and their laws. No condition.
  The program's 'stretched'. No condition but that the row and the slot lie where they are said to lie, and the slot may be.
  atFault: whether a node may not be at a depth, behind nodes of those ids. No condition but the bounds of texts and ids that a host keeps.
  fault: which node is at fault first. No condition but the bounds of texts and ids that a host keeps, and that there are not too many nodes.
  The document's own Ids of a tree. No condition but that there are not too many nodes.
-/
import Derived.Test.YtfdcopegkhofnaaRSameQb
import Derived.Test.YtfdcopegkhofnaaRWalkQb
import Derived.Test.YtfdcopegkhofnaaHPureQb
import Derived.Deep.AppendLies
import Derived.Test.YtfdcopegkhofnaaTreeQb
import Derived.Test.YtfdcopegkhofnaaCBaseQb
import Derived.Test.YtfdcopegkhofnaaGStrPQb
import Derived.Laws.CopyOwn
import Derived.Deep.LoopGhost
import Derived.WalkMore
import Derived.Test.YtfdcopegkhofnaaERangeQb
import Derived.RangeFuncNested
import Derived.RangeFuncBound
import Derived.RangeFuncCalls
import Derived.RangeFuncLeaves
import Derived.RangeFuncWrites
import Derived.Shelf.RegionOpen
import Derived.OwnWalkIn
import Derived.TacticsInMore
import Derived.LoopNIn
import Derived.LoopIn
import Derived.OrdersIn
import Derived.Test.YtfdcopegkhofnaaGAtQb
import Derived.Test.YtfdcopegkhofnaaEHeldQb
import Derived.Maps.OwnIn
import Derived.OwnWalk
namespace Go.Proofs.Ytfdcopegkhofnaa
open Go.RowKit
set_option linter.unusedVariables false

theorem spF_snoc (d : Nat) : ∀ (f : Fo) (b o : Nat) (k : Int × Int × ByteArray) (l : Fo), spF d (foSnoc f b o k l) = spF d f ++ ((d, k, l) :: spF (d + 1) l)
  | .nil, _, _, _, _ => by simp [foSnoc, spF]
  | .node _ _ _ l' r, b, o, k, l => by simp [foSnoc, spF, spF_snoc d r b o k l, List.append_assoc]
def spT (d : Nat) (t : Tr) : List Sp := (d, (t.id, t.kind, t.text), t.kids) :: spF (d + 1) t.kids
theorem spT_root (t : Tr) : spT 1 t = spF 1 (rootF t) := by simp [spT, rootF, spF]
def SpotAt (w : World) (S : Nat → Prop) (xs : List Value) (i : Nat) (x : Sp) : Prop :=
  xs[i * 5]? = some (.int .i64 x.2.1.1) ∧ xs[i * 5 + 1]? = some (.int .i64 x.2.1.2.1) ∧ xs[i * 5 + 2]? = some (.string x.2.1.2.2) ∧ (∃ ka cap, xs[i * 5 + 3]? = some (.slice ka (foLen x.2.2) cap) ∧ foLen x.2.2 ≤ cap ∧ FoAt w S x.2.2 ka) ∧ xs[i * 5 + 4]? = some (.int .i64 (x.1 : Int))
/-- A row of spots. -/
def SpotsN (S : Nat → Prop) (w : World) (B : Nat) (rv : Value) (n : Nat) (T : List Sp) : Prop := T.length = n ∧ ∃ xs, w.ownsRow B 51 5 rv n xs ∧ ∀ i x, T[i]? = some x → SpotAt w S xs i x
theorem SpotAt.kept {w w' : World} {S : Nat → Prop} {xs : List Value} {i : Nat} {x : Sp} (h : SpotAt w S xs i x) (hk : ∀ k, S k → w'.heap[k]? = w.heap[k]?) : SpotAt w' S xs i x := by
  obtain ⟨a, b, c, ⟨ka, cap, e, f, g⟩, z⟩ := h
  exact ⟨a, b, c, ⟨ka, cap, e, f, g.kept fun k hs => ⟨hs, hk k hs⟩⟩, z⟩
theorem SpotsN.bounds {S : Nat → Prop} {w : World} {B : Nat} {rv : Value} {n : Nat} {T : List Sp} (h : SpotsN S w B rv n T) {g : Nat} (hg : rv.ownBlock = some g) : B ≤ g ∧ g < w.heap.size := by
  obtain ⟨_, xs, ho, _⟩ := h
  exact owns_bounds ho hg
theorem Grew.lowN {S : Nat → Prop} {w wr : World} {B n : Nat} {rv l : Value} {T : List Sp} (h : Grew w wr rv l) (hs : SpotsN S w B rv n T) (hB : B ≤ w.heap.size) : ∀ k, k < B → wr.heap[k]? = w.heap[k]? := fun k hk =>
  h.1.block k (by omega) (fun e => by have := (hs.bounds e.symm).1; omega)
theorem spotsN_snoc {w w' : World} {S : Nat → Prop} {xs : List Value} {n : Nat} {T : List Sp} {x : Sp} {ka : Option Addr} {cap : Nat} (hl : xs.length = n * 5) (hT : T.length = n) (hx : ∀ i y, T[i]? = some y → SpotAt w S xs i y) (hk : ∀ k, S k → w'.heap[k]? = w.heap[k]?) (hc : foLen x.2.2 ≤ cap) (hf : FoAt w' S x.2.2 ka) :
    ∀ i y, (T ++ [x])[i]? = some y → SpotAt w' S (xs ++ [.int .i64 x.2.1.1, .int .i64 x.2.1.2.1, .string x.2.1.2.2, .slice ka (foLen x.2.2) cap, .int .i64 (x.1 : Int)]) i y := fun i y hi => by
  by_cases h : i < n
  · rw [List.getElem?_append_left (by omega)] at hi
    obtain ⟨a, b, c, ⟨kb, cb, e, f, g⟩, z⟩ := (hx i y hi).kept hk
    exact ⟨by rw [List.getElem?_append_left (by omega)]; exact a, by rw [List.getElem?_append_left (by omega)]; exact b, by rw [List.getElem?_append_left (by omega)]; exact c, ⟨kb, cb, by rw [List.getElem?_append_left (by omega)]; exact e, f, g⟩, by rw [List.getElem?_append_left (by omega)]; exact z⟩
  · have hil := (List.getElem?_eq_some_iff.1 hi).1
    have : i = n := by simp at hil; omega
    subst this
    rw [List.getElem?_append_right (by omega), hT, Nat.sub_self] at hi
    simp at hi
    subst hi
    refine ⟨?_, ?_, ?_, ⟨ka, cap, ?_, hc, hf⟩, ?_⟩ <;> (rw [List.getElem?_append_right (by omega), hl]; simp)
end Go.Proofs.Ytfdcopegkhofnaa
namespace Go.Proofs.Ytfdcopegkhofnaa
open Go.RowKit
set_option linter.unusedVariables false

theorem info_wideV {P : Program} {e : TypeId} {size bytes : Nat} (h : (P.info? e).map (fun i => (i.size, i.bytes, i.zero.map (fun z => z.cells.size))) = some (size, bytes, some size)) :
    ∃ i z, P.info? e = some i ∧ i.zero = some z ∧ i.size = size ∧ i.bytes = bytes ∧ z.cells.size = size := by
  rw [Option.map_eq_some_iff] at h
  obtain ⟨i, hi, he⟩ := h
  simp only [Prod.mk.injEq, Option.map_eq_some_iff] at he
  obtain ⟨h1, h2, z, hz, h3⟩ := he
  exact ⟨i, z, hi, hz, h1, h2, h3⟩
theorem takeM_more {α : Type} (M : Nat) (A B : List α) : ((A.take M) ++ B).take M = (A ++ B).take M := by
  rw [List.take_append, List.take_append, List.take_take, Nat.min_self, List.length_take]
  congr 2
  omega
theorem spF_mem_size : ∀ (d : Nat) (f : Fo) (x : Sp), x ∈ spF d f → foSize x.2.2 + 1 ≤ foSize f ∧ d ≤ x.1 ∧ x.1 + foSize x.2.2 < d + foSize f
  | _, .nil, x, h => by simp [spF] at h
  | d, .node _ _ k l r, x, h => by
    simp only [spF, List.mem_cons, List.mem_append] at h
    simp only [foSize]
    rcases h with rfl | h | h
    · simp only; omega
    · have := spF_mem_size (d + 1) l x h; omega
    · have := spF_mem_size d r x h; omega
def trOf (x : Sp) : Tr := ⟨x.2.1.1, x.2.1.2.1, x.2.1.2.2, x.2.2⟩
end Go.Proofs.Ytfdcopegkhofnaa
namespace Go.Proofs.Ytfdcopegkhofnaa
open Go.RowKit

attribute [local go_sem ↓] loadT wpLoadT storeT wpStoreT allocT wpAllocT buildT wpBuildT
attribute [local go_sem] headB_ptr isHead_ptr aggC_agg isT_vec vec_size freeRow_alloc setRow_alloc_at blk_alloc_new

/-- The blocks that the call keeps: its slot, where stretches may begin, its result, what fits; and where they end. -/
structure StrB (w : World) (O : Nat) (c : Array Value) (T own f : Nat → Bool) (wr : World) : Prop where
  slot : wr.heap[w.heap.size]? = some (.cells c 106 (0, 0))
  from_ : wr.heap[w.heap.size + 1]? = some (.cells (vec T) 149 (0, 0))
  res : wr.heap[w.heap.size + 2]? = some (.cells (vec noF) 149 (0, 0))
  own : wr.heap[O]? = some (.cells (vec own) 149 (0, 0))
  ends : wr.heap[O + 1]? = some (.cells (vec f) 149 (0, 0))
  lt : w.heap.size + 2 < O
  below : Below w.heap.size w wr
theorem StrB.set {w wr : World} {O : Nat} {c : Array Value} {T own f : Nat → Bool} (h : StrB w O c T own f wr) (i : Nat) : StrB w O c T own (fun j => if j = i then true else f j) (wr.setCell ⟨O + 1, i, none⟩ (.bool true)) := by
  have hlt := h.lt
  exact ⟨by rw [Below.heap_setCell _ _ _ _ (by show w.heap.size ≠ O + 1; omega)]; exact h.slot, by rw [Below.heap_setCell _ _ _ _ (by show w.heap.size + 1 ≠ O + 1; omega)]; exact h.from_,
    by rw [Below.heap_setCell _ _ _ _ (by show w.heap.size + 2 ≠ O + 1; omega)]; exact h.res, by rw [Below.heap_setCell _ _ _ _ (by show O ≠ O + 1; omega)]; exact h.own,
    by rw [heap_setCell_same _ (O + 1) i _ _ _ h.ends, vec_set], hlt, h.below.setCell (by show w.heap.size ≤ O + 1; omega) _⟩
end Go.Proofs.Ytfdcopegkhofnaa
namespace Go.Proofs.Ytfdcopegkhofnaa
open Go.RowKit Go.Shelf
open Go.Maps
attribute [local go_sem] Oper.semAt_some
set_option linter.unusedVariables false
set_option linter.unusedSimpArgs false

/-- A set of ids. -/
def OwnsS (w : World) (b n : Nat) (ids : List Int) : Prop := w.ownsMap Try.prog 3 (unitElem (H := Value)) b n (setOf (.agg []) (ids.map (Lit.int .i64 ·)))
theorem OwnsS.at {w w' : World} {b n : Nat} {ids : List Int} (h : OwnsS w b n ids) (e : w'.heap[b]? = w.heap[b]?) : OwnsS w' b n ids := by
  obtain ⟨es, clock, hb, h⟩ := h
  exact ⟨es, clock, e.trans hb, h⟩
theorem law7 : Keyed Try.prog 3 := int_keyed Try.underlying3
end Go.Proofs.Ytfdcopegkhofnaa
namespace Go.Proofs.Ytfdcopegkhofnaa
open Go.RowKit Go.Shelf
open Go.Maps
attribute [local go_sem] Oper.semAt_some
set_option linter.unusedVariables false
set_option linter.unusedSimpArgs false

/-- What a host keeps of a tree's numbers and texts. -/
def okF (l : List Sp) : Prop := ∀ x ∈ l, (x.2.1.2.2.size : Int) ≤ 9223372036854775807 ∧ (Lit.int .i64 x.2.1.1).wf = true
section
variable {P : Program} {H : Type} {n : Nat}
end
end Go.Proofs.Ytfdcopegkhofnaa
namespace Go.Proofs.Ytfdcopegkhofnaa
open Go.RowKit
set_option linter.unusedVariables false
set_option linter.unusedSimpArgs false

theorem Try.infoInt : (Try.prog.info? 3).map (fun i => (i.zero, i.size, i.bytes)) = some (some (.int .i64 0), 1, 8) := by kernel_rfl
def intV (n : Int) : Value := .int .i64 n
end Go.Proofs.Ytfdcopegkhofnaa
