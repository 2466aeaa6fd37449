/-
  What a walk over a tree tells, as a row of spots: plain definitions and their laws. No condition.
-/
import Derived.Deep.AppendLies
import Derived.Test.YtmfpilacmafglaaTree
import Derived.Test.YtmfpilacmafglaaCBase
namespace Go.Proofs.Ytmfpilacmafglaa
open Go.RowKit
set_option linter.unusedVariables false

theorem info_wide {P : Program} {e : TypeId} {size bytes : Nat} (h : (P.info? e).map (fun i => (i.size, i.bytes, i.zero.map (fun z => z.cells.size))) = some (size, bytes, some size)) :
    ∃ i z, P.info? e = some i ∧ i.zero = some z ∧ i.size = size ∧ i.bytes = bytes ∧ z.cells.size = size := by
  rw [Option.map_eq_some_iff] at h
  obtain ⟨i, hi, he⟩ := h
  simp only [Prod.mk.injEq, Option.map_eq_some_iff] at he
  obtain ⟨h1, h2, z, hz, h3⟩ := he
  exact ⟨i, z, hi, hz, h1, h2, h3⟩
theorem Try.infoSp : (Try.prog.info? 51).map (fun i => (i.size, i.bytes, i.zero.map (fun z => z.cells.size))) = some (5, 64, some 5) := by kernel_rfl

/-- A node of a walk: how deep, what it bears, what is below it. -/
abbrev Sp := Nat × (Int × Int × ByteArray) × Fo
def spF : Nat → Fo → List Sp
  | _, .nil => []
  | d, .node _ _ k l r => (d, k, l) :: (spF (d + 1) l ++ spF d r)
theorem spF_length : ∀ (d : Nat) (f : Fo), (spF d f).length = foSize f
  | _, .nil => rfl
  | d, .node _ _ k l r => by simp [spF, foSize, spF_length (d + 1) l, spF_length d r]
/-- A root as a row of its own. -/
def rootF (t : Tr) : Fo := .node 0 0 (t.id, t.kind, t.text) t.kids .nil
theorem rootF_size (t : Tr) : foSize (rootF t) = foSize t.kids + 1 := by simp [rootF, foSize]
/-- From w to w' the row alone may have been written, and grown into new memory. -/
def Grew (w w' : World) (rv rv' : Value) : Prop := w.grownBy w' rv.ownBlock ∧ (rv'.ownBlock = rv.ownBlock ∨ ∀ g, rv'.ownBlock = some g → w.heap.size < g)
theorem Grew.refl (w : World) (rv : Value) : Grew w w rv rv := ⟨⟨rfl, rfl, rfl, Nat.le_refl _, fun _ _ _ => rfl⟩, Or.inl rfl⟩

theorem Grew.trans {w wr w2 : World} {rv l l2 : Value} (h : Grew w wr rv l) (h2 : Grew wr w2 l l2) : Grew w w2 rv l2 := by
  have hs := h.1.size
  refine ⟨⟨h2.1.os.trans h.1.os, h2.1.tape.trans h.1.tape, h2.1.output.trans h.1.output, Nat.le_trans hs h2.1.size, fun k hk hn => ?_⟩, ?_⟩
  · rw [h2.1.block k (by omega) (fun e => ?_), h.1.block k hk hn]
    rcases h.2 with h' | h'
    · exact hn (e.trans h')
    · have := h' k e.symm; omega
  · rcases h2.2 with h' | h'
    · rw [h']; exact h.2
    · exact Or.inr fun g hg => by have := h' g hg; omega
theorem Grew.box {w : World} {o : Obj} (rv : Value) : Grew w (w.alloc o) rv rv := ⟨⟨rfl, rfl, rfl, by simp, fun k hk _ => Below.heap_alloc w o k hk⟩, Or.inl rfl⟩
theorem Grew.first {w w1 : World} {o1 o2 : Obj} {rv : Value} {gg len cap : Nat} (h : ((w.alloc o1).alloc o2).grownBy w1 rv.ownBlock) (hat : rv.ownBlock = some gg ∨ gg = w.heap.size + 1 + 1) : Grew w w1 rv (.slice (some ⟨gg, 0, none⟩) len cap) :=
  ⟨⟨h.os, h.tape, h.output, by have := h.size; simp at this; omega, fun k hk hn => by rw [h.block k (by simp; omega) hn, Below.heap_alloc _ _ _ (by simp; omega), Below.heap_alloc _ _ _ hk]⟩,
   hat.elim (fun e => Or.inl (by rw [e]; rfl)) (fun e => Or.inr fun g hg => by simp only [Value.ownBlock, Option.some.injEq] at hg; omega)⟩
theorem spF_snoc (d : Nat) : ∀ (f : Fo) (b o : Nat) (k : Int × Int × ByteArray) (l : Fo), spF d (foSnoc f b o k l) = spF d f ++ ((d, k, l) :: spF (d + 1) l)
  | .nil, _, _, _, _ => by simp [foSnoc, spF]
  | .node _ _ _ l' r, b, o, k, l => by simp [foSnoc, spF, spF_snoc d r b o k l, List.append_assoc]
def spT (d : Nat) (t : Tr) : List Sp := (d, (t.id, t.kind, t.text), t.kids) :: spF (d + 1) t.kids
theorem spT_root (t : Tr) : spT 1 t = spF 1 (rootF t) := by simp [spT, rootF, spF]
theorem spT_length (d : Nat) (t : Tr) : (spT d t).length = foSize t.kids + 1 := by simp [spT, spF_length]
def SpotAt (w : World) (S : Nat → Prop) (xs : List Value) (i : Nat) (x : Sp) : Prop :=
  xs[i * 5]? = some (.int .i64 x.2.1.1) ∧ xs[i * 5 + 1]? = some (.int .i64 x.2.1.2.1) ∧ xs[i * 5 + 2]? = some (.string x.2.1.2.2) ∧ (∃ ka cap, xs[i * 5 + 3]? = some (.slice ka (foLen x.2.2) cap) ∧ foLen x.2.2 ≤ cap ∧ FoAt w S x.2.2 ka) ∧ xs[i * 5 + 4]? = some (.int .i64 (x.1 : Int))
/-- A row of spots. -/
def SpotsN (S : Nat → Prop) (w : World) (B : Nat) (rv : Value) (n : Nat) (T : List Sp) : Prop := T.length = n ∧ ∃ xs, w.ownsRow B 51 5 rv n xs ∧ ∀ i x, T[i]? = some x → SpotAt w S xs i x
theorem SpotAt.kept {w w' : World} {S : Nat → Prop} {xs : List Value} {i : Nat} {x : Sp} (h : SpotAt w S xs i x) (hk : ∀ k, S k → w'.heap[k]? = w.heap[k]?) : SpotAt w' S xs i x := by
  obtain ⟨a, b, c, ⟨ka, cap, e, f, g⟩, z⟩ := h
  exact ⟨a, b, c, ⟨ka, cap, e, f, g.kept fun k hs => ⟨hs, hk k hs⟩⟩, z⟩
theorem SpotsN.bounds {S : Nat → Prop} {w : World} {B : Nat} {rv : Value} {n : Nat} {T : List Sp} (h : SpotsN S w B rv n T) {g : Nat} (hg : rv.ownBlock = some g) : B ≤ g ∧ g < w.heap.size := by
  obtain ⟨_, xs, ho, _⟩ := h
  exact owns_bounds ho hg
theorem Grew.lowN {S : Nat → Prop} {w wr : World} {B n : Nat} {rv l : Value} {T : List Sp} (h : Grew w wr rv l) (hs : SpotsN S w B rv n T) (hB : B ≤ w.heap.size) : ∀ k, k < B → wr.heap[k]? = w.heap[k]? := fun k hk =>
  h.1.block k (by omega) (fun e => by have := (hs.bounds e.symm).1; omega)
theorem spotsN_snoc {w w' : World} {S : Nat → Prop} {xs : List Value} {n : Nat} {T : List Sp} {x : Sp} {ka : Option Addr} {cap : Nat} (hl : xs.length = n * 5) (hT : T.length = n) (hx : ∀ i y, T[i]? = some y → SpotAt w S xs i y) (hk : ∀ k, S k → w'.heap[k]? = w.heap[k]?) (hc : foLen x.2.2 ≤ cap) (hf : FoAt w' S x.2.2 ka) :
    ∀ i y, (T ++ [x])[i]? = some y → SpotAt w' S (xs ++ [.int .i64 x.2.1.1, .int .i64 x.2.1.2.1, .string x.2.1.2.2, .slice ka (foLen x.2.2) cap, .int .i64 (x.1 : Int)]) i y := fun i y hi => by
  by_cases h : i < n
  · rw [List.getElem?_append_left (by omega)] at hi
    obtain ⟨a, b, c, ⟨kb, cb, e, f, g⟩, z⟩ := (hx i y hi).kept hk
    exact ⟨by rw [List.getElem?_append_left (by omega)]; exact a, by rw [List.getElem?_append_left (by omega)]; exact b, by rw [List.getElem?_append_left (by omega)]; exact c, ⟨kb, cb, by rw [List.getElem?_append_left (by omega)]; exact e, f, g⟩, by rw [List.getElem?_append_left (by omega)]; exact z⟩
  · have hil := (List.getElem?_eq_some_iff.1 hi).1
    have : i = n := by simp at hil; omega
    subst this
    rw [List.getElem?_append_right (by omega), hT, Nat.sub_self] at hi
    simp at hi
    subst hi
    refine ⟨?_, ?_, ?_, ⟨ka, cap, ?_, hc, hf⟩, ?_⟩ <;> (rw [List.getElem?_append_right (by omega), hl]; simp)
theorem takeM_more {α : Type} (M : Nat) (A B : List α) : ((A.take M) ++ B).take M = (A ++ B).take M := by
  rw [List.take_append, List.take_append, List.take_take, Nat.min_self, List.length_take]
  congr 2
  omega
theorem spF_mem_size : ∀ (d : Nat) (f : Fo) (x : Sp), x ∈ spF d f → foSize x.2.2 + 1 ≤ foSize f ∧ d ≤ x.1 ∧ x.1 + foSize x.2.2 < d + foSize f
  | _, .nil, x, h => by simp [spF] at h
  | d, .node _ _ k l r, x, h => by
    simp only [spF, List.mem_cons, List.mem_append] at h
    simp only [foSize]
    rcases h with rfl | h | h
    · simp only; omega
    · have := spF_mem_size (d + 1) l x h; omega
    · have := spF_mem_size d r x h; omega
theorem spF_mem_fit : ∀ (d : Nat) (f : Fo), foFit f → ∀ x ∈ spF d f, foLen x.2.2 ≤ 9223372036854775807 ∧ foFit x.2.2
  | _, .nil, _, x, h => by simp [spF] at h
  | d, .node _ _ k l r, hf, x, h => by
    simp only [spF, List.mem_cons, List.mem_append] at h
    rcases h with rfl | h | h
    · exact ⟨hf.1, hf.2.1⟩
    · exact spF_mem_fit (d + 1) l hf.2.1 x h
    · exact spF_mem_fit d r hf.2.2 x h
def trOf (x : Sp) : Tr := ⟨x.2.1.1, x.2.1.2.1, x.2.1.2.2, x.2.2⟩
end Go.Proofs.Ytmfpilacmafglaa
