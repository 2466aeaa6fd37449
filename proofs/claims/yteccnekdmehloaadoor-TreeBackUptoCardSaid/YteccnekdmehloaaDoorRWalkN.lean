/-
  The program's Bytes and the document's: a tree as bytes. No condition but that they are not too many.
  Bytes that a call made, read as a text, now and later. No condition.
  What 'Great' answers of a tree that lies in memory: where it answers false the tree has at most 2000 nodes. No condition but that no row of kids is longer than a slice may be.
  The document's own Count and Depth of a tree. No condition but that there are not too many nodes.
  What 'SameNode' answers of two trees that lie in memory. No condition but that no row of kids is longer than a slice may be.
  What TreeReads answers: true. Its condition: the tables that a program starts with, and that the tree's bytes are not too many.
  What the document's walk over a tree tells, where it is not cut off: its nodes and their depths. No condition but that there are not too many nodes.
-/
import Derived.Test.YteccnekdmehloaaDoorTRead
import Derived.Test.YteccnekdmehloaaDoorCPutNode
import Derived.Test.YteccnekdmehloaaDoorEWalk
import Derived.Deep.AppendLies
import Derived.Test.YteccnekdmehloaaDoorECount
import Derived.Deep.RegionHeld3
import Derived.StillTailTactics
import Derived.Test.YteccnekdmehloaaDoorEWakes
namespace Go.Proofs.YteccnekdmehloaaDoor
open Go.RowKit
set_option linter.unusedVariables false
set_option linter.unusedSimpArgs false

set_option maxRecDepth 100000 in
theorem tbytes_any (w : World) (S : Nat → Prop) (nv : Value) (t : Tr) (hS : ∀ k, S k → k < w.heap.size) (hv : TrAt w S nv t) (hl : (encT t).length ≤ 100000000000) :
    Calls Tryd.prog 10 #[nv] w (NewB w (encT t)) := by
  obtain ⟨ka, cap, rfl, hcp, hk⟩ := hv
  have hb : Below w.heap.size w (w.alloc (.cells #[.int .i64 t.id, .int .i64 t.kind, .string t.text, .slice ka (foLen t.kids) cap] 25)) := (Below.refl _ _).alloc (Nat.le_refl _) _
  have hc := pnode (w.alloc (.cells #[.int .i64 t.id, .int .i64 t.kind, .string t.text, .slice ka (foLen t.kids) cap] 25)) S _ t none 0 0 [] (fun k hk => Nat.lt_of_lt_of_le (hS k hk) hb.size) ⟨ka, cap, rfl, hcp, hk.below hb hS⟩ rfl ⟨fun _ => rfl, fun _ e => by cases e⟩ (by simp only [List.length_nil]; omega)
  obtain ⟨len, hlen⟩ : ∃ len, len = foLen t.kids := ⟨_, rfl⟩
  rw [← hlen] at hb hc ⊢
  rw [List.nil_append] at hc
  have HC := Lib.hid (And.intro hc hb)
  clear hc hb hk hcp hlen hS hl
  go_enter Tryd.func10, Tryd.ntmps10
  go_wp2_with fail
  refine HC.out.1.mono ?_
  rintro e w2 ⟨a, n, c, rfl, h1, h2, h3⟩
  have H := Lib.hid (And.intro h1 (And.intro h2 (HC.out.2.trans (h3.mono HC.out.2.size))))
  clear h1 h2 h3
  go_wp2_with fail
  go_ret
  exact ⟨a, n, c, rfl, H.out.1, H.out.2.1, H.out.2.2⟩
end Go.Proofs.YteccnekdmehloaaDoor
namespace Go.Proofs.YteccnekdmehloaaDoor
open Go.RowKit
open Extern.Stop (cell)
set_option linter.unusedVariables false

theorem ByAt.conv {w : World} {a : Option Addr} {n cap : Nat} {bs : List UInt8} (h : ByAt w a bs) (hn : n = bs.length) : (convert 22 9 (.slice a n cap)).run Tryd.prog w = .ok (.string ⟨bs.toArray⟩) w := by
  subst hn
  cases a with
  | none =>
    have hb := h.1 rfl
    subst hb
    rw [run_convert_bytes_string w _ _ _ none _ cap Tryd.underlying22 Tryd.underlying5 Tryd.underlying9]
    simp [Conv.bytesToString]
    rfl
  | some ad =>
    exact run_convert_bytes_back w _ _ _ ad cap bs Tryd.underlying22 Tryd.underlying5 Tryd.underlying9 (fun j hj => h.2 ad rfl j _ (List.getElem?_eq_getElem hj))
end Go.Proofs.YteccnekdmehloaaDoor
namespace Go.Proofs.YteccnekdmehloaaDoor
open Go.RowKit

theorem Tryd.infoSp : (Tryd.prog.info? 40).map (fun i => (i.size, i.bytes, i.zero.map (fun z => z.cells.size))) = some (5, 64, some 5) := by kernel_rfl

/-- A row of spots of length n. -/
def Spots (w : World) (B : Nat) (rv : Value) (n : Nat) : Prop := ∃ xs, w.ownsRow B 40 5 rv n xs ∧ ∀ i, i < n → ∃ d, xs[i * 5 + 4]? = some (.int .i64 d)
/-- From w to w' the row alone may have been written, and grown into new memory. -/
def Grew (w w' : World) (rv rv' : Value) : Prop := w.grownBy w' rv.ownBlock ∧ (rv'.ownBlock = rv.ownBlock ∨ ∀ g, rv'.ownBlock = some g → w.heap.size < g)
theorem Spots.bounds {w : World} {B : Nat} {rv : Value} {n : Nat} (h : Spots w B rv n) {g : Nat} (hg : rv.ownBlock = some g) : B ≤ g ∧ g < w.heap.size := by
  obtain ⟨xs, ho, _⟩ := h
  exact owns_bounds ho hg
theorem Grew.refl (w : World) (rv : Value) : Grew w w rv rv := ⟨⟨rfl, rfl, rfl, Nat.le_refl _, fun _ _ _ => rfl⟩, Or.inl rfl⟩

theorem Grew.low {w wr : World} {B n : Nat} {rv l : Value} (h : Grew w wr rv l) (hs : Spots w B rv n) (hB : B ≤ w.heap.size) : ∀ k, k < B → wr.heap[k]? = w.heap[k]? := fun k hk =>
  h.1.block k (by omega) (fun e => by have := (hs.bounds e.symm).1; omega)
theorem Grew.trans {w wr w2 : World} {rv l l2 : Value} (h : Grew w wr rv l) (h2 : Grew wr w2 l l2) : Grew w w2 rv l2 := by
  have hs := h.1.size
  refine ⟨⟨h2.1.os.trans h.1.os, h2.1.tape.trans h.1.tape, h2.1.output.trans h.1.output, Nat.le_trans hs h2.1.size, fun k hk hn => ?_⟩, ?_⟩
  · rw [h2.1.block k (by omega) (fun e => ?_), h.1.block k hk hn]
    rcases h.2 with h' | h'
    · exact hn (e.trans h')
    · have := h' k e.symm; omega
  · rcases h2.2 with h' | h'
    · rw [h']; exact h.2
    · exact Or.inr fun g hg => by have := h' g hg; omega
theorem Grew.box {w : World} {o : Obj} (rv : Value) : Grew w (w.alloc o) rv rv := ⟨⟨rfl, rfl, rfl, by simp, fun k hk _ => Below.heap_alloc w o k hk⟩, Or.inl rfl⟩
theorem Grew.first {w w1 : World} {o1 o2 : Obj} {rv : Value} {gg len cap : Nat} (h : ((w.alloc o1).alloc o2).grownBy w1 rv.ownBlock) (hat : rv.ownBlock = some gg ∨ gg = w.heap.size + 1 + 1) : Grew w w1 rv (.slice (some ⟨gg, 0, none⟩) len cap) :=
  ⟨⟨h.os, h.tape, h.output, by have := h.size; simp at this; omega, fun k hk hn => by rw [h.block k (by simp; omega) hn, Below.heap_alloc _ _ _ (by simp; omega), Below.heap_alloc _ _ _ hk]⟩,
   hat.elim (fun e => Or.inl (by rw [e]; rfl)) (fun e => Or.inr fun g hg => by simp only [Value.ownBlock, Option.some.injEq] at hg; omega)⟩
theorem Spots.box {w : World} {B : Nat} {rv : Value} {n : Nat} (h : Spots w B rv n) (o : Obj) : Spots (w.alloc o) B rv n := by
  obtain ⟨xs, ho, hx⟩ := h
  exact ⟨xs, ho.alloc o, hx⟩
end Go.Proofs.YteccnekdmehloaaDoor
namespace Go.Proofs.YteccnekdmehloaaDoor
open Go.RowKit
set_option linter.unusedVariables false
set_option linter.unusedSimpArgs false

theorem lenI_root (t : Tr) : lenI (spF 1 (rootF t)) = (foSize t.kids : Int) + 1 := by
  rw [lenI, spF_length, rootF_size]; omega

end Go.Proofs.YteccnekdmehloaaDoor
namespace Go.Proofs.YteccnekdmehloaaDoor
open Go.RowKit

def SameC (t u : Tr) (w : World) (e : Ending) (w' : World) : Prop := e = .returned (.bool (sameT t u)) ∧ Below w.heap.size w w'
theorem SameC.mk {t u : Tr} {w w' : World} {b : Bool} (h : sameT t u = b) (hb : Below w.heap.size w w') : SameC t u w (.returned (.bool b)) w' := ⟨by rw [h], hb⟩
theorem two_boxes (w : World) (o o' : Obj) : Below w.heap.size w ((w.alloc o).alloc o') := ((Below.refl _ _).alloc (Nat.le_refl _) _).alloc (by simp) _

end Go.Proofs.YteccnekdmehloaaDoor
namespace Go.Proofs.YteccnekdmehloaaDoor
open Go.RowKit Go.Shelf
set_option linter.unusedVariables false
set_option linter.unusedSimpArgs false

theorem box4 {w : World} {b : Nat} {c0 c1 c2 c3 : Value} {T : TypeId} (h : w.heap[b]? = some (.cells #[c0, c1, c2, c3] T (0, 0))) : w.cell? ⟨b, 0, none⟩ = some c0 ∧ w.cell? ⟨b, 1, none⟩ = some c1 ∧ w.cell? ⟨b, 2, none⟩ = some c2 ∧ w.cell? ⟨b, 3, none⟩ = some c3 := four_cell h
theorem bx_below (w : World) (o : Obj) : Below w.heap.size w (w.alloc o) := (Below.refl _ _).alloc (Nat.le_refl _) _
def YesR (w : World) (e : Ending) (w' : World) : Prop := e = .returned (.bool true) ∧ Below w.heap.size w w'
theorem readT_fit (bs : List UInt8) (hb : bs.length ≤ 100000000 ∨ 65536 < bs.length) : foLen (readT bs).1.kids ≤ 9223372036854775807 ∧ foFit (readT bs).1.kids := by
  by_cases hl : bs.length ≤ 65536
  · have h := fits_vl (s := ⟨bs, 0, false⟩) (by simp only; omega)
    rw [read_eq bs hl]
    split
    · exact ⟨Nat.zero_le _, True.intro⟩
    · exact h
  · unfold readT
    rw [if_pos (by omega)]
    exact ⟨Nat.zero_le _, True.intro⟩
end Go.Proofs.YteccnekdmehloaaDoor
namespace Go.Proofs.YteccnekdmehloaaDoor
open Go.RowKit
set_option linter.unusedVariables false

theorem spF_snoc (d : Nat) : ∀ (f : Fo) (b o : Nat) (k : Int × Int × ByteArray) (l : Fo), spF d (foSnoc f b o k l) = spF d f ++ ((d, k, l) :: spF (d + 1) l)
  | .nil, _, _, _, _ => by simp [foSnoc, spF]
  | .node _ _ _ l' r, b, o, k, l => by simp [foSnoc, spF, spF_snoc d r b o k l, List.append_assoc]
def spT (d : Nat) (t : Tr) : List Sp := (d, (t.id, t.kind, t.text), t.kids) :: spF (d + 1) t.kids
theorem spT_root (t : Tr) : spT 1 t = spF 1 (rootF t) := by simp [spT, rootF, spF]
def SpotAt (w : World) (S : Nat → Prop) (xs : List Value) (i : Nat) (x : Sp) : Prop :=
  xs[i * 5]? = some (.int .i64 x.2.1.1) ∧ xs[i * 5 + 1]? = some (.int .i64 x.2.1.2.1) ∧ xs[i * 5 + 2]? = some (.string x.2.1.2.2) ∧ (∃ ka cap, xs[i * 5 + 3]? = some (.slice ka (foLen x.2.2) cap) ∧ foLen x.2.2 ≤ cap ∧ FoAt w S x.2.2 ka) ∧ xs[i * 5 + 4]? = some (.int .i64 (x.1 : Int))
/-- A row of spots. -/
def SpotsN (S : Nat → Prop) (w : World) (B : Nat) (rv : Value) (n : Nat) (T : List Sp) : Prop := T.length = n ∧ ∃ xs, w.ownsRow B 40 5 rv n xs ∧ ∀ i x, T[i]? = some x → SpotAt w S xs i x
theorem SpotAt.kept {w w' : World} {S : Nat → Prop} {xs : List Value} {i : Nat} {x : Sp} (h : SpotAt w S xs i x) (hk : ∀ k, S k → w'.heap[k]? = w.heap[k]?) : SpotAt w' S xs i x := by
  obtain ⟨a, b, c, ⟨ka, cap, e, f, g⟩, z⟩ := h
  exact ⟨a, b, c, ⟨ka, cap, e, f, g.kept fun k hs => ⟨hs, hk k hs⟩⟩, z⟩
theorem SpotsN.bounds {S : Nat → Prop} {w : World} {B : Nat} {rv : Value} {n : Nat} {T : List Sp} (h : SpotsN S w B rv n T) {g : Nat} (hg : rv.ownBlock = some g) : B ≤ g ∧ g < w.heap.size := by
  obtain ⟨_, xs, ho, _⟩ := h
  exact owns_bounds ho hg
theorem Grew.lowN {S : Nat → Prop} {w wr : World} {B n : Nat} {rv l : Value} {T : List Sp} (h : Grew w wr rv l) (hs : SpotsN S w B rv n T) (hB : B ≤ w.heap.size) : ∀ k, k < B → wr.heap[k]? = w.heap[k]? := fun k hk =>
  h.1.block k (by omega) (fun e => by have := (hs.bounds e.symm).1; omega)
theorem spotsN_snoc {w w' : World} {S : Nat → Prop} {xs : List Value} {n : Nat} {T : List Sp} {x : Sp} {ka : Option Addr} {cap : Nat} (hl : xs.length = n * 5) (hT : T.length = n) (hx : ∀ i y, T[i]? = some y → SpotAt w S xs i y) (hk : ∀ k, S k → w'.heap[k]? = w.heap[k]?) (hc : foLen x.2.2 ≤ cap) (hf : FoAt w' S x.2.2 ka) :
    ∀ i y, (T ++ [x])[i]? = some y → SpotAt w' S (xs ++ [.int .i64 x.2.1.1, .int .i64 x.2.1.2.1, .string x.2.1.2.2, .slice ka (foLen x.2.2) cap, .int .i64 (x.1 : Int)]) i y := fun i y hi => by
  by_cases h : i < n
  · rw [List.getElem?_append_left (by omega)] at hi
    obtain ⟨a, b, c, ⟨kb, cb, e, f, g⟩, z⟩ := (hx i y hi).kept hk
    exact ⟨by rw [List.getElem?_append_left (by omega)]; exact a, by rw [List.getElem?_append_left (by omega)]; exact b, by rw [List.getElem?_append_left (by omega)]; exact c, ⟨kb, cb, by rw [List.getElem?_append_left (by omega)]; exact e, f, g⟩, by rw [List.getElem?_append_left (by omega)]; exact z⟩
  · have hil := (List.getElem?_eq_some_iff.1 hi).1
    have : i = n := by simp at hil; omega
    subst this
    rw [List.getElem?_append_right (by omega), hT, Nat.sub_self] at hi
    simp at hi
    subst hi
    refine ⟨?_, ?_, ?_, ⟨ka, cap, ?_, hc, hf⟩, ?_⟩ <;> (rw [List.getElem?_append_right (by omega), hl]; simp)
end Go.Proofs.YteccnekdmehloaaDoor
