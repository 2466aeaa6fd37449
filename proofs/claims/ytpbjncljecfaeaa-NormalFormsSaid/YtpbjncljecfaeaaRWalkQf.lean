/-
  Copy: its walk. No condition but that there are not too many nodes.
  Blocks made one behind the other. No condition.
  What 'Great' answers of a tree that lies in memory: where it answers false the tree has at most 2000 nodes. No condition but that no row of kids is longer than a slice may be.
-/
import Derived.Test.YtpbjncljecfaeaaECopyQf
import Derived.Deep.AppendLies
namespace Go.Proofs.Ytpbjncljecfaeaa
open Go.RowKit Go.Shelf
attribute [local go_sem] Oper.semAt_some
set_option linter.unusedVariables false

/-- The copy lies where the tree lies, or in new blocks. -/
def CopyC (w : World) (S : Nat → Prop) (t : Tr) (e : Ending) (w' : World) : Prop := ∃ v, e = .returned v ∧ TrAt w' (fun x => CellsB w' x ∧ (S x ∨ w.heap.size ≤ x)) v t ∧ Below w.heap.size w w'
def exc (w : World) (S : Nat → Prop) : Nat → Prop := fun x => x = w.heap.size + 1 ∨ (x < w.heap.size ∧ ¬ S x)
theorem wc_facts (w : World) (cs zs : Array Value) (v : Value) :
    ((((w.alloc (.cells cs 25)).alloc (.cells zs 25)).alloc (.cells cs 25)).alloc (.cells #[v] 23)).heap.size = w.heap.size + 4 ∧
    Below w.heap.size w ((((w.alloc (.cells cs 25)).alloc (.cells zs 25)).alloc (.cells cs 25)).alloc (.cells #[v] 23)) ∧
    ((((w.alloc (.cells cs 25)).alloc (.cells zs 25)).alloc (.cells cs 25)).alloc (.cells #[v] 23)).heap[w.heap.size + 1]? = some (.cells zs 25 (0, 0)) ∧
    ((((w.alloc (.cells cs 25)).alloc (.cells zs 25)).alloc (.cells cs 25)).alloc (.cells #[v] 23)).heap[w.heap.size + 1 + 1]? = some (.cells cs 25 (0, 0)) ∧
    ((((w.alloc (.cells cs 25)).alloc (.cells zs 25)).alloc (.cells cs 25)).alloc (.cells #[v] 23)).heap[w.heap.size + 1 + 1 + 1]? = some (.cells #[v] 23 (0, 0)) := by
  refine ⟨by simp, ?_, ?_, ?_, ?_⟩
  · exact ((((Below.refl _ w).alloc (Nat.le_refl _) _).alloc (by simp only [World.size_alloc]; omega) _).alloc (by simp only [World.size_alloc]; omega) _).alloc (by simp only [World.size_alloc]; omega) _
  · rw [Below.heap_alloc _ _ _ (by simp only [World.size_alloc]; omega), Below.heap_alloc _ _ _ (by simp only [World.size_alloc]; omega)]
    have := heap_alloc_new (w.alloc (.cells cs 25)) (.cells zs 25)
    rw [World.size_alloc] at this; exact this
  · rw [Below.heap_alloc _ _ _ (by simp only [World.size_alloc]; omega)]
    have := heap_alloc_new ((w.alloc (.cells cs 25)).alloc (.cells zs 25)) (.cells cs 25)
    rw [World.size_alloc, World.size_alloc] at this; exact this
  · have := heap_alloc_new (((w.alloc (.cells cs 25)).alloc (.cells zs 25)).alloc (.cells cs 25)) (.cells #[v] 23)
    rw [World.size_alloc, World.size_alloc, World.size_alloc] at this; exact this
theorem results_cellW {P : Program} {fn : Func} {p : Tmp} {ty : TypeId} (h : fn.results = #[.cell p ty]) (tmps : Array Value) (w : World) (g : Nat) (t : TypeId) (cs : Array Value) (fr : Nat × Nat) (d : TypeDesc)
    (hp : tmps.getD p undef = .pointer (some ⟨g, 0, none⟩)) (hg : w.heap[g]? = some (.cells cs t fr)) (hu : P.underlying ty = some d) (hd : (match d with | .struct _ | .array _ _ => true | _ => false) = true) (hi : (P.info? ty).map (·.size) = some cs.size) :
    (results fn tmps).run P w = .ok (.agg cs) w := by
  have hp' : tmps[p]?.getD undef = .pointer (some ⟨g, 0, none⟩) := by simpa using hp
  simp [results, h, hp', asAddr, run_loadVar_row w g t ty cs fr d hg hu hd hi]
/-- Behind the loop: the root is laid into the result. -/
theorem copy_end {w V : World} {S : Nat → Prop} {t : Tr} {B RB D : Nat} {T : Nat → Prop} {ra : Option Addr} {rc : Nat} (h : CopyI w B RB (exc w S) t T [] V) (hk : FoAt V (XT (ex T (exc w S)) V) t.kids ra) (hc : foLen t.kids ≤ rc)
    (hz : V.heap[w.heap.size + 1]? = some (.cells #[.int .i64 0, .int .i64 0, .string ⟨#[]⟩, .slice none 0 0] 25 (0, 0))) (hK : V.heap[D]? = some (.deferred (some []))) (hD : w.heap.size + 1 < D) :
    ((((V.setCell ⟨w.heap.size + 1, 0, none⟩ (.int .i64 t.id)).setCell ⟨w.heap.size + 1, 1, none⟩ (.int .i64 t.kind)).setCell ⟨w.heap.size + 1, 2, none⟩ (.string t.text)).setCell ⟨w.heap.size + 1, 3, none⟩ (.slice ra (foLen t.kids) rc)).heap[D]? = some (.deferred (some [])) ∧
    (((((V.setCell ⟨w.heap.size + 1, 0, none⟩ (.int .i64 t.id)).setCell ⟨w.heap.size + 1, 1, none⟩ (.int .i64 t.kind)).setCell ⟨w.heap.size + 1, 2, none⟩ (.string t.text)).setCell ⟨w.heap.size + 1, 3, none⟩ (.slice ra (foLen t.kids) rc)).putObj D (.deferred none)).heap[w.heap.size + 1]? = some (.cells #[.int .i64 t.id, .int .i64 t.kind, .string t.text, .slice ra (foLen t.kids) rc] 25 (0, 0)) ∧
    CopyC w S t (.returned (.agg #[.int .i64 t.id, .int .i64 t.kind, .string t.text, .slice ra (foLen t.kids) rc])) ((((((V.setCell ⟨w.heap.size + 1, 0, none⟩ (.int .i64 t.id)).setCell ⟨w.heap.size + 1, 1, none⟩ (.int .i64 t.kind)).setCell ⟨w.heap.size + 1, 2, none⟩ (.string t.text)).setCell ⟨w.heap.size + 1, 3, none⟩ (.slice ra (foLen t.kids) rc)).putObj D (.deferred none))) := by
  have h1 := heap_setCell_same V (w.heap.size + 1) 0 _ _ (.int .i64 t.id) hz
  have h2 := heap_setCell_same _ (w.heap.size + 1) 1 _ _ (.int .i64 t.kind) h1
  have h3 := heap_setCell_same _ (w.heap.size + 1) 2 _ _ (.string t.text) h2
  have h4 := heap_setCell_same _ (w.heap.size + 1) 3 _ _ (.slice ra (foLen t.kids) rc) h3
  have hb : ∀ x, x ≠ w.heap.size + 1 → ((((V.setCell ⟨w.heap.size + 1, 0, none⟩ (.int .i64 t.id)).setCell ⟨w.heap.size + 1, 1, none⟩ (.int .i64 t.kind)).setCell ⟨w.heap.size + 1, 2, none⟩ (.string t.text)).setCell ⟨w.heap.size + 1, 3, none⟩ (.slice ra (foLen t.kids) rc)).heap[x]? = V.heap[x]? := fun x hx => by
    rw [Below.heap_setCell _ _ _ _ hx, Below.heap_setCell _ _ _ _ hx, Below.heap_setCell _ _ _ _ hx, Below.heap_setCell _ _ _ _ hx]
  have hk1 := (hb D (by omega)).trans hK
  have hall : ∀ x, x ≠ w.heap.size + 1 → x ≠ D → (((((V.setCell ⟨w.heap.size + 1, 0, none⟩ (.int .i64 t.id)).setCell ⟨w.heap.size + 1, 1, none⟩ (.int .i64 t.kind)).setCell ⟨w.heap.size + 1, 2, none⟩ (.string t.text)).setCell ⟨w.heap.size + 1, 3, none⟩ (.slice ra (foLen t.kids) rc)).putObj D (.deferred none)).heap[x]? = V.heap[x]? := fun x hx hd => (World.putObj_heap_other hd).trans (hb x hx)
  refine ⟨hk1, ?_, _, rfl, ⟨ra, rc, rfl, hc, hk.kept fun x hx => ?_⟩, ?_⟩
  · rw [World.putObj_heap_other (by omega), h4]; simp
  · obtain ⟨⟨cs, ty, fr, hcx⟩, hn⟩ := hx
    have hxe : x ≠ w.heap.size + 1 := fun e => hn (Or.inr (Or.inl e))
    have hxD : x ≠ D := fun e => by rw [e, hK] at hcx; cases hcx
    refine ⟨⟨⟨cs, ty, fr, (hall x hxe hxD).trans hcx⟩, ?_⟩, hall x hxe hxD⟩
    by_cases hxw : x < w.heap.size
    · by_cases hs : S x
      · exact Or.inl hs
      · exact absurd (Or.inr (Or.inr ⟨hxw, hs⟩)) hn
    · exact Or.inr (by omega)
  · have hh := (((h.below.setCell (p := ⟨w.heap.size + 1, 0, none⟩) (by simp) (.int .i64 t.id)).setCell (p := ⟨w.heap.size + 1, 1, none⟩) (by simp) (.int .i64 t.kind)).setCell (p := ⟨w.heap.size + 1, 2, none⟩) (by simp) (.string t.text)).setCell (p := ⟨w.heap.size + 1, 3, none⟩) (by simp) (.slice ra (foLen t.kids) rc)
    revert hh hk1
    generalize ((((V.setCell ⟨w.heap.size + 1, 0, none⟩ (.int .i64 t.id)).setCell ⟨w.heap.size + 1, 1, none⟩ (.int .i64 t.kind)).setCell ⟨w.heap.size + 1, 2, none⟩ (.string t.text)).setCell ⟨w.heap.size + 1, 3, none⟩ (.slice ra (foLen t.kids) rc)) = V4
    intro hk1 hh
    exact ⟨hh.os, hh.tape, hh.output, by have := hh.size; simp [World.putObj]; exact this, fun x hx => (World.putObj_heap_other (by omega)).trans (hh.block x hx)⟩
end Go.Proofs.Ytpbjncljecfaeaa
namespace Go.Proofs.Ytpbjncljecfaeaa
open Go.RowKit

def allocs (w : World) (os : List Obj) : World := os.foldl (fun w o => w.alloc o) w
theorem allocs_size : ∀ (os : List Obj) (w : World), (allocs w os).heap.size = w.heap.size + os.length
  | [], _ => rfl
  | o :: os, w => by
    show (allocs (w.alloc o) os).heap.size = _
    rw [allocs_size os, World.size_alloc, List.length_cons]; omega
theorem allocs_below : ∀ (os : List Obj) (w : World), Below w.heap.size w (allocs w os)
  | [], w => Below.refl _ _
  | o :: os, w => ((Below.refl _ w).alloc (Nat.le_refl _) o).trans ((allocs_below os (w.alloc o)).mono (by simp))
theorem allocs_at : ∀ (os : List Obj) (w : World) (i : Nat) (o : Obj), os[i]? = some o → (allocs w os).heap[w.heap.size + i]? = some o
  | [], _, _, _, h => by simp at h
  | o :: os, w, 0, o', h => by
    simp at h; subst h
    show (allocs (w.alloc o) os).heap[w.heap.size]? = _
    rw [(allocs_below os (w.alloc o)).block _ (by simp)]; exact World.alloc_heap_new w o
  | o :: os, w, i + 1, o', h => by
    have := allocs_at os (w.alloc o) i o' (by simpa using h)
    rw [World.size_alloc] at this
    show (allocs (w.alloc o) os).heap[w.heap.size + (i + 1)]? = _
    rw [show w.heap.size + (i + 1) = w.heap.size + 1 + i by omega]; exact this
end Go.Proofs.Ytpbjncljecfaeaa
namespace Go.Proofs.Ytpbjncljecfaeaa
open Go.RowKit

theorem Try.infoSp : (Try.prog.info? 79).map (fun i => (i.size, i.bytes, i.zero.map (fun z => z.cells.size))) = some (5, 64, some 5) := by kernel_rfl

/-- From w to w' the row alone may have been written, and grown into new memory. -/
def Grew (w w' : World) (rv rv' : Value) : Prop := w.grownBy w' rv.ownBlock ∧ (rv'.ownBlock = rv.ownBlock ∨ ∀ g, rv'.ownBlock = some g → w.heap.size < g)
theorem Grew.trans {w wr w2 : World} {rv l l2 : Value} (h : Grew w wr rv l) (h2 : Grew wr w2 l l2) : Grew w w2 rv l2 := by
  have hs := h.1.size
  refine ⟨⟨h2.1.os.trans h.1.os, h2.1.tape.trans h.1.tape, h2.1.output.trans h.1.output, Nat.le_trans hs h2.1.size, fun k hk hn => ?_⟩, ?_⟩
  · rw [h2.1.block k (by omega) (fun e => ?_), h.1.block k hk hn]
    rcases h.2 with h' | h'
    · exact hn (e.trans h')
    · have := h' k e.symm; omega
  · rcases h2.2 with h' | h'
    · rw [h']; exact h.2
    · exact Or.inr fun g hg => by have := h' g hg; omega
theorem Grew.box {w : World} {o : Obj} (rv : Value) : Grew w (w.alloc o) rv rv := ⟨⟨rfl, rfl, rfl, by simp, fun k hk _ => Below.heap_alloc w o k hk⟩, Or.inl rfl⟩
theorem Grew.first {w w1 : World} {o1 o2 : Obj} {rv : Value} {gg len cap : Nat} (h : ((w.alloc o1).alloc o2).grownBy w1 rv.ownBlock) (hat : rv.ownBlock = some gg ∨ gg = w.heap.size + 1 + 1) : Grew w w1 rv (.slice (some ⟨gg, 0, none⟩) len cap) :=
  ⟨⟨h.os, h.tape, h.output, by have := h.size; simp at this; omega, fun k hk hn => by rw [h.block k (by simp; omega) hn, Below.heap_alloc _ _ _ (by simp; omega), Below.heap_alloc _ _ _ hk]⟩,
   hat.elim (fun e => Or.inl (by rw [e]; rfl)) (fun e => Or.inr fun g hg => by simp only [Value.ownBlock, Option.some.injEq] at hg; omega)⟩
end Go.Proofs.Ytpbjncljecfaeaa
