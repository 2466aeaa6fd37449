/-
  Trees and steps as bytes, plainly. No condition.
-/
import Derived.Test.YtljlijdgocfofaaTree
import Derived.Test.YtljlijdgocfofaaCClone
namespace Go.Proofs.Ytljlijdgocfofaa
open Go.RowKit
open Extern.Stop (cell)

/-- One node without its kids: n, how many these are. -/
def encK (k : Int × Int × ByteArray) (n : Nat) : List UInt8 := num8 k.1 ++ num8 k.2.1 ++ (num8 (k.2.2.size : Int) ++ k.2.2.data.toList) ++ num8 (n : Int)
def encF : Fo → List UInt8
  | .nil => []
  | .node _ _ k l r => encK k (foLen l) ++ (encF l ++ encF r)
def encT (t : Tr) : List UInt8 := encK (t.id, t.kind, t.text) (foLen t.kids) ++ encF t.kids
/-- How many bytes of text. -/
def foText : Fo → Nat
  | .nil => 0
  | .node _ _ k l r => k.2.2.size + foText l + foText r
def trText (t : Tr) : Nat := t.text.size + foText t.kids
theorem encK_length (k : Int × Int × ByteArray) (n : Nat) : (encK k n).length = 32 + k.2.2.size := by
  have : k.2.2.data.toList.length = k.2.2.size := by simp
  simp [encK, num8_length, this]; omega
theorem encF_length : ∀ f : Fo, (encF f).length = 32 * foSize f + foText f
  | .nil => rfl
  | .node _ _ k l r => by
    simp only [encF, List.length_append, encK_length, encF_length l, encF_length r, foSize, foText]; omega
theorem encT_length (t : Tr) : (encT t).length = 32 * (foSize t.kids + 1) + trText t := by
  simp only [encT, List.length_append, encK_length, encF_length, trText]; omega

/-- A row of nodes that waits. -/
structure Wait where
  a : Option Addr
  cap : Nat
  f : Fo
def Wait.v (r : Wait) : Value := .slice r.a (foLen r.f) r.cap
/-- The bytes that are still to come: the last row's first. -/
def encR (rows : List Wait) : List UInt8 := rows.foldl (fun acc r => encF r.f ++ acc) []
theorem encR_snoc (rows : List Wait) (r : Wait) : encR (rows ++ [r]) = encF r.f ++ encR rows := by simp [encR, List.foldl_append]
def waitN (rows : List Wait) : Nat := rows.foldl (fun acc r => (2 * foSize r.f + 1) + acc) 0
theorem waitN_snoc (rows : List Wait) (r : Wait) : waitN (rows ++ [r]) = (2 * foSize r.f + 1) + waitN rows := by simp [waitN, List.foldl_append]
theorem waitN_acc : ∀ (rows : List Wait) (acc : Nat), rows.length + acc ≤ rows.foldl (fun acc r => (2 * foSize r.f + 1) + acc) acc
  | [], acc => by simp
  | r :: rows, acc => by
    have := waitN_acc rows ((2 * foSize r.f + 1) + acc)
    simp only [List.foldl_cons, List.length_cons]; omega
theorem waitN_len (rows : List Wait) : rows.length ≤ waitN rows := by have := waitN_acc rows 0; simpa [waitN] using this
theorem nil_or_snoc {α : Type} (l : List α) : l = [] ∨ ∃ rs x, l = rs ++ [x] := by
  rcases List.eq_nil_or_concat l with h | ⟨rs, x, h⟩
  · exact Or.inl h
  · exact Or.inr ⟨rs, x, by rw [h]; simp⟩
end Go.Proofs.Ytljlijdgocfofaa
