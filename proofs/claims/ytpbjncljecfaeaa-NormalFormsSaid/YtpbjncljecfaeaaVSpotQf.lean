/-
  What the document's walk over a tree tells, where it is not cut off: its nodes and their depths. No condition but that there are not too many nodes.
  What a walk over a tree tells, as a row of spots: plain definitions and their laws. No condition.
-/
import Derived.Test.YtpbjncljecfaeaaRSameQf
import Derived.Test.YtpbjncljecfaeaaRWalkQf
import Derived.Test.YtpbjncljecfaeaaHPureQf
import Derived.Deep.AppendLies
import Derived.Test.YtpbjncljecfaeaaTreeQf
import Derived.Test.YtpbjncljecfaeaaEDefQf
namespace Go.Proofs.Ytpbjncljecfaeaa
open Go.RowKit
set_option linter.unusedVariables false

theorem spF_snoc (d : Nat) : ∀ (f : Fo) (b o : Nat) (k : Int × Int × ByteArray) (l : Fo), spF d (foSnoc f b o k l) = spF d f ++ ((d, k, l) :: spF (d + 1) l)
  | .nil, _, _, _, _ => by simp [foSnoc, spF]
  | .node _ _ _ l' r, b, o, k, l => by simp [foSnoc, spF, spF_snoc d r b o k l, List.append_assoc]
def spT (d : Nat) (t : Tr) : List Sp := (d, (t.id, t.kind, t.text), t.kids) :: spF (d + 1) t.kids
theorem spT_root (t : Tr) : spT 1 t = spF 1 (rootF t) := by simp [spT, rootF, spF]
def SpotAt (w : World) (S : Nat → Prop) (xs : List Value) (i : Nat) (x : Sp) : Prop :=
  xs[i * 5]? = some (.int .i64 x.2.1.1) ∧ xs[i * 5 + 1]? = some (.int .i64 x.2.1.2.1) ∧ xs[i * 5 + 2]? = some (.string x.2.1.2.2) ∧ (∃ ka cap, xs[i * 5 + 3]? = some (.slice ka (foLen x.2.2) cap) ∧ foLen x.2.2 ≤ cap ∧ FoAt w S x.2.2 ka) ∧ xs[i * 5 + 4]? = some (.int .i64 (x.1 : Int))
/-- A row of spots. -/
def SpotsN (S : Nat → Prop) (w : World) (B : Nat) (rv : Value) (n : Nat) (T : List Sp) : Prop := T.length = n ∧ ∃ xs, w.ownsRow B 79 5 rv n xs ∧ ∀ i x, T[i]? = some x → SpotAt w S xs i x
theorem SpotAt.kept {w w' : World} {S : Nat → Prop} {xs : List Value} {i : Nat} {x : Sp} (h : SpotAt w S xs i x) (hk : ∀ k, S k → w'.heap[k]? = w.heap[k]?) : SpotAt w' S xs i x := by
  obtain ⟨a, b, c, ⟨ka, cap, e, f, g⟩, z⟩ := h
  exact ⟨a, b, c, ⟨ka, cap, e, f, g.kept fun k hs => ⟨hs, hk k hs⟩⟩, z⟩
theorem SpotsN.bounds {S : Nat → Prop} {w : World} {B : Nat} {rv : Value} {n : Nat} {T : List Sp} (h : SpotsN S w B rv n T) {g : Nat} (hg : rv.ownBlock = some g) : B ≤ g ∧ g < w.heap.size := by
  obtain ⟨_, xs, ho, _⟩ := h
  exact owns_bounds ho hg
theorem Grew.lowN {S : Nat → Prop} {w wr : World} {B n : Nat} {rv l : Value} {T : List Sp} (h : Grew w wr rv l) (hs : SpotsN S w B rv n T) (hB : B ≤ w.heap.size) : ∀ k, k < B → wr.heap[k]? = w.heap[k]? := fun k hk =>
  h.1.block k (by omega) (fun e => by have := (hs.bounds e.symm).1; omega)
theorem spotsN_snoc {w w' : World} {S : Nat → Prop} {xs : List Value} {n : Nat} {T : List Sp} {x : Sp} {ka : Option Addr} {cap : Nat} (hl : xs.length = n * 5) (hT : T.length = n) (hx : ∀ i y, T[i]? = some y → SpotAt w S xs i y) (hk : ∀ k, S k → w'.heap[k]? = w.heap[k]?) (hc : foLen x.2.2 ≤ cap) (hf : FoAt w' S x.2.2 ka) :
    ∀ i y, (T ++ [x])[i]? = some y → SpotAt w' S (xs ++ [.int .i64 x.2.1.1, .int .i64 x.2.1.2.1, .string x.2.1.2.2, .slice ka (foLen x.2.2) cap, .int .i64 (x.1 : Int)]) i y := fun i y hi => by
  by_cases h : i < n
  · rw [List.getElem?_append_left (by omega)] at hi
    obtain ⟨a, b, c, ⟨kb, cb, e, f, g⟩, z⟩ := (hx i y hi).kept hk
    exact ⟨by rw [List.getElem?_append_left (by omega)]; exact a, by rw [List.getElem?_append_left (by omega)]; exact b, by rw [List.getElem?_append_left (by omega)]; exact c, ⟨kb, cb, by rw [List.getElem?_append_left (by omega)]; exact e, f, g⟩, by rw [List.getElem?_append_left (by omega)]; exact z⟩
  · have hil := (List.getElem?_eq_some_iff.1 hi).1
    have : i = n := by simp at hil; omega
    subst this
    rw [List.getElem?_append_right (by omega), hT, Nat.sub_self] at hi
    simp at hi
    subst hi
    refine ⟨?_, ?_, ?_, ⟨ka, cap, ?_, hc, hf⟩, ?_⟩ <;> (rw [List.getElem?_append_right (by omega), hl]; simp)
end Go.Proofs.Ytpbjncljecfaeaa
namespace Go.Proofs.Ytpbjncljecfaeaa
open Go.RowKit
set_option linter.unusedVariables false

theorem info_wideV {P : Program} {e : TypeId} {size bytes : Nat} (h : (P.info? e).map (fun i => (i.size, i.bytes, i.zero.map (fun z => z.cells.size))) = some (size, bytes, some size)) :
    ∃ i z, P.info? e = some i ∧ i.zero = some z ∧ i.size = size ∧ i.bytes = bytes ∧ z.cells.size = size := by
  rw [Option.map_eq_some_iff] at h
  obtain ⟨i, hi, he⟩ := h
  simp only [Prod.mk.injEq, Option.map_eq_some_iff] at he
  obtain ⟨h1, h2, z, hz, h3⟩ := he
  exact ⟨i, z, hi, hz, h1, h2, h3⟩
theorem takeM_more {α : Type} (M : Nat) (A B : List α) : ((A.take M) ++ B).take M = (A ++ B).take M := by
  rw [List.take_append, List.take_append, List.take_take, Nat.min_self, List.length_take]
  congr 2
  omega
end Go.Proofs.Ytpbjncljecfaeaa
