/-
  Blocks made one behind the other. No condition.
  What 'Great' answers of a tree that lies in memory: where it answers false the tree has at most 2000 nodes. No condition but that no row of kids is longer than a slice may be.
-/
import Derived.Test.YtpbjncljecfaeaaECopyWQa
import Derived.Deep.AppendLies
namespace Go.Proofs.Ytpbjncljecfaeaa
open Go.RowKit

def allocs (w : World) (os : List Obj) : World := os.foldl (fun w o => w.alloc o) w
theorem allocs_size : ∀ (os : List Obj) (w : World), (allocs w os).heap.size = w.heap.size + os.length
  | [], _ => rfl
  | o :: os, w => by
    show (allocs (w.alloc o) os).heap.size = _
    rw [allocs_size os, World.size_alloc, List.length_cons]; omega
theorem allocs_below : ∀ (os : List Obj) (w : World), Below w.heap.size w (allocs w os)
  | [], w => Below.refl _ _
  | o :: os, w => ((Below.refl _ w).alloc (Nat.le_refl _) o).trans ((allocs_below os (w.alloc o)).mono (by simp))
theorem allocs_at : ∀ (os : List Obj) (w : World) (i : Nat) (o : Obj), os[i]? = some o → (allocs w os).heap[w.heap.size + i]? = some o
  | [], _, _, _, h => by simp at h
  | o :: os, w, 0, o', h => by
    simp at h; subst h
    show (allocs (w.alloc o) os).heap[w.heap.size]? = _
    rw [(allocs_below os (w.alloc o)).block _ (by simp)]; exact World.alloc_heap_new w o
  | o :: os, w, i + 1, o', h => by
    have := allocs_at os (w.alloc o) i o' (by simpa using h)
    rw [World.size_alloc] at this
    show (allocs (w.alloc o) os).heap[w.heap.size + (i + 1)]? = _
    rw [show w.heap.size + (i + 1) = w.heap.size + 1 + i by omega]; exact this
end Go.Proofs.Ytpbjncljecfaeaa
namespace Go.Proofs.Ytpbjncljecfaeaa
open Go.RowKit

theorem Try.infoSp : (Try.prog.info? 79).map (fun i => (i.size, i.bytes, i.zero.map (fun z => z.cells.size))) = some (5, 64, some 5) := by kernel_rfl

/-- From w to w' the row alone may have been written, and grown into new memory. -/
def Grew (w w' : World) (rv rv' : Value) : Prop := w.grownBy w' rv.ownBlock ∧ (rv'.ownBlock = rv.ownBlock ∨ ∀ g, rv'.ownBlock = some g → w.heap.size < g)
theorem Grew.trans {w wr w2 : World} {rv l l2 : Value} (h : Grew w wr rv l) (h2 : Grew wr w2 l l2) : Grew w w2 rv l2 := by
  have hs := h.1.size
  refine ⟨⟨h2.1.os.trans h.1.os, h2.1.tape.trans h.1.tape, h2.1.output.trans h.1.output, Nat.le_trans hs h2.1.size, fun k hk hn => ?_⟩, ?_⟩
  · rw [h2.1.block k (by omega) (fun e => ?_), h.1.block k hk hn]
    rcases h.2 with h' | h'
    · exact hn (e.trans h')
    · have := h' k e.symm; omega
  · rcases h2.2 with h' | h'
    · rw [h']; exact h.2
    · exact Or.inr fun g hg => by have := h' g hg; omega
theorem Grew.box {w : World} {o : Obj} (rv : Value) : Grew w (w.alloc o) rv rv := ⟨⟨rfl, rfl, rfl, by simp, fun k hk _ => Below.heap_alloc w o k hk⟩, Or.inl rfl⟩
theorem Grew.first {w w1 : World} {o1 o2 : Obj} {rv : Value} {gg len cap : Nat} (h : ((w.alloc o1).alloc o2).grownBy w1 rv.ownBlock) (hat : rv.ownBlock = some gg ∨ gg = w.heap.size + 1 + 1) : Grew w w1 rv (.slice (some ⟨gg, 0, none⟩) len cap) :=
  ⟨⟨h.os, h.tape, h.output, by have := h.size; simp at this; omega, fun k hk hn => by rw [h.block k (by simp; omega) hn, Below.heap_alloc _ _ _ (by simp; omega), Below.heap_alloc _ _ _ hk]⟩,
   hat.elim (fun e => Or.inl (by rw [e]; rfl)) (fun e => Or.inr fun g hg => by simp only [Value.ownBlock, Option.some.injEq] at hg; omega)⟩
end Go.Proofs.Ytpbjncljecfaeaa
