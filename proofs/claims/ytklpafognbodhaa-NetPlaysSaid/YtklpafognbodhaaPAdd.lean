/-
  The program's row of messages: its call add. No condition but that it lies where it is said to lie.
-/
import Derived.Test.YtklpafognbodhaaPMark
namespace Go.Proofs.Ytklpafognbodhaa
open Go.RowKit

theorem padd_end {w W0 w1 : World} {S : Nat → Prop} {nb : Nat} {l : List PI} {p : PI} {v : Value} {gg cap : Nat}
    (h0 : ∀ x, S x → x < w.heap.size) (h1 : S nb) (hg : Good (l ++ [p])) (h2 : w.heap[nb]? = some (.cells #[v] 59 (0, 0))) (h3 : w.ownsRow 0 85 17 v l.length (pcells l)) (h4 : ∀ g, v.ownBlock = some g → S g)
    (hb : Below w.heap.size w W0) (hown : w1.ownsRow 0 85 17 (.slice (some ⟨gg, 0, none⟩) (l.length + 1) cap) (l.length + 1) (pcells l ++ p.cells)) (hgrow : W0.grownBy w1 v.ownBlock) (hat : v.ownBlock = some gg ∨ gg = W0.heap.size) :
    PC w S nb (l ++ [p]) (.tuple #[]) (.returned (.tuple #[])) (w1.setCell ⟨nb, 0, none⟩ (.slice (some ⟨gg, 0, none⟩) (l.length + 1) cap)) := by
  have hnb := h0 nb h1
  have hs := hb.size
  have hob : ∀ g, v.ownBlock = some g → g < w.heap.size := fun g hg => (owns_bounds h3 hg).2
  have old1 : ∀ x, x < w.heap.size → v.ownBlock ≠ some x → w1.heap[x]? = w.heap[x]? := fun x hx hn => by
    rw [hgrow.block x (by omega) (fun e => hn e.symm), hb.block x hx]
  have hsz1 : W0.heap.size ≤ w1.heap.size := hgrow.size
  have hvr : v.ownBlock ≠ some nb := owned_ne h3 h2 (by decide)
  have hgr : gg ≠ nb := fun e => by
    rcases hat with hat | hat
    · exact hvr (by rw [hat, e])
    · omega
  have hrow := (old1 nb hnb hvr).trans h2
  have hszW : (w1.setCell ⟨nb, 0, none⟩ (.slice (some ⟨gg, 0, none⟩) (l.length + 1) cap)).heap.size = w1.heap.size := by simp [World.setCell]
  have hgb := (owns_bounds hown (g := gg) rfl).2
  refine ⟨rfl, fun x => S x ∨ (w.heap.size ≤ x ∧ x < w1.heap.size), ⟨fun x hx => ?_, Or.inl h1, hg, .slice (some ⟨gg, 0, none⟩) (l.length + 1) cap, ?_, ?_, fun g hg => ?_⟩, ⟨hgrow.os.trans hb.os, hgrow.tape.trans hb.tape, hgrow.output.trans hb.output, by rw [hszW]; omega, fun x hx hn => ?_⟩, fun x hx => hx.imp id (fun h => h.1)⟩
  · rw [hszW]
    rcases hx with hx | hx
    · have := h0 x hx; omega
    · exact hx.2
  · rw [heap_setCell_same w1 nb 0 _ _ _ hrow]; rfl
  · rw [pcells_append, show pcells [p] = p.cells by simp [pcells], show (l ++ [p]).length = l.length + 1 by simp]
    exact owns_kept hown (fun g cur hg hgo => Below.heap_setCell _ _ _ _ (fun e => hgr (by cases hgo; exact e)))
  · simp only [Value.ownBlock, Option.some.injEq] at hg
    subst hg
    rcases hat with hat | hat
    · exact Or.inl (h4 _ hat)
    · exact Or.inr ⟨by omega, hgb⟩
  · rw [Below.heap_setCell _ _ _ _ (fun e => hn (by rw [e]; exact h1))]
    exact old1 x hx (fun e => hn (h4 x e))

set_option maxRecDepth 100000 in
set_option maxHeartbeats 2000000 in
theorem padd_any (w : World) (S : Nat → Prop) (nb : Nat) (l : List PI) (c0 c1 c2 c3 c4 c5 c6 c7 c8 c9 c10 c11 c12 c13 c14 c15 : Value) (h : PRowAt w S nb l) (hlen : l.length < 1000000) (hone : ∀ u ∈ ([c0, c1, c2, c3, c4, c5, c6, c7, c8, c9, c10, c11, c12, c13, c14, c15] : List Value), u.oneCell' = true) :
    Calls Try.prog 32 #[.pointer (some ⟨nb, 0, none⟩), .agg #[c0, c1, c2, c3, c4, c5, c6, c7, c8, c9, c10, c11, c12, c13, c14, c15]] w (PC w S nb (l ++ [([c0, c1, c2, c3, c4, c5, c6, c7, c8, c9, c10, c11, c12, c13, c14, c15], false)]) (.tuple #[])) := by
  obtain ⟨h0, h1, hg, v, h2, h3, h4⟩ := h
  obtain ⟨la, lc, rfl⟩ := owns_slice h3
  have hgood : Good (l ++ [([c0, c1, c2, c3, c4, c5, c6, c7, c8, c9, c10, c11, c12, c13, c14, c15], false)]) := hg.append fun q hq => by
    simp only [List.mem_singleton] at hq
    subst hq
    exact ⟨rfl, hone⟩
  have hbW : Below w.heap.size w ((w.alloc (.cells #[c0, c1, c2, c3, c4, c5, c6, c7, c8, c9, c10, c11, c12, c13, c14, c15] 40)).drew.alloc (.cells #[c0, c1, c2, c3, c4, c5, c6, c7, c8, c9, c10, c11, c12, c13, c14, c15, .bool false] 85)) := (below_drewN ((Below.refl _ _).alloc (Nat.le_refl _) _) 1).alloc (by show w.heap.size ≤ (w.alloc _).heap.size; simp) _
  have hszW : ((w.alloc (.cells #[c0, c1, c2, c3, c4, c5, c6, c7, c8, c9, c10, c11, c12, c13, c14, c15] 40)).drew.alloc (.cells #[c0, c1, c2, c3, c4, c5, c6, c7, c8, c9, c10, c11, c12, c13, c14, c15, .bool false] 85)).heap.size = w.heap.size + 2 := by show ((w.alloc _).alloc _).heap.size = _; simp
  have hlt : nb < w.heap.size := lt_of_some h2
  have hend := fun (w1 : World) (gg cap : Nat) hown hgrow hat => padd_end (w1 := w1) (gg := gg) (cap := cap) h0 h1 hgood h2 h3 h4 hbW hown hgrow hat
  have HEND := Lib.hid hend
  have c0w : w.cell? ⟨nb, 0, none⟩ = some (.slice la l.length lc) := by rw [cell_of_row w _ 0 _ _ _ h2]; rfl
  have h2W := (hbW.block nb hlt).trans h2
  have hnew : ((w.alloc (.cells #[c0, c1, c2, c3, c4, c5, c6, c7, c8, c9, c10, c11, c12, c13, c14, c15] 40)).drew.alloc (.cells #[c0, c1, c2, c3, c4, c5, c6, c7, c8, c9, c10, c11, c12, c13, c14, c15, .bool false] 85)).heap[w.heap.size + 1]? = some (.cells #[c0, c1, c2, c3, c4, c5, c6, c7, c8, c9, c10, c11, c12, c13, c14, c15, .bool false] 85 (0, 0)) := by
    have := heap_alloc_new (w.alloc (.cells #[c0, c1, c2, c3, c4, c5, c6, c7, c8, c9, c10, c11, c12, c13, c14, c15] 40)).drew (.cells #[c0, c1, c2, c3, c4, c5, c6, c7, c8, c9, c10, c11, c12, c13, c14, c15, .bool false] 85)
    have e : (w.alloc (.cells #[c0, c1, c2, c3, c4, c5, c6, c7, c8, c9, c10, c11, c12, c13, c14, c15] 40)).drew.heap.size = w.heap.size + 1 := by show (w.alloc _).heap.size = _; simp
    rw [e] at this
    exact this
  have h17 : ∀ u ∈ ([c0, c1, c2, c3, c4, c5, c6, c7, c8, c9, c10, c11, c12, c13, c14, c15, .bool false] : List Value), u.oneCell' = true := fun u hu => by
    have e : ([c0, c1, c2, c3, c4, c5, c6, c7, c8, c9, c10, c11, c12, c13, c14, c15, .bool false] : List Value) = [c0, c1, c2, c3, c4, c5, c6, c7, c8, c9, c10, c11, c12, c13, c14, c15] ++ [.bool false] := rfl
    rw [e] at hu
    rcases List.mem_append.1 hu with hu | hu
    · exact hone u hu
    · simp only [List.mem_singleton] at hu; subst hu; rfl
  have HP := Lib.hid (And.intro (owns_kept h3 (fun g cur hg _ => hbW.block g (lt_of_some hg))) (And.intro hnew (And.intro (by rw [hszW]; omega : nb < ((w.alloc (.cells #[c0, c1, c2, c3, c4, c5, c6, c7, c8, c9, c10, c11, c12, c13, c14, c15] 40)).drew.alloc (.cells #[c0, c1, c2, c3, c4, c5, c6, c7, c8, c9, c10, c11, c12, c13, c14, c15, .bool false] 85)).heap.size) (And.intro (by rw [cell_of_row _ _ 0 _ _ _ h2W]; rfl : ((w.alloc (.cells #[c0, c1, c2, c3, c4, c5, c6, c7, c8, c9, c10, c11, c12, c13, c14, c15] 40)).drew.alloc (.cells #[c0, c1, c2, c3, c4, c5, c6, c7, c8, c9, c10, c11, c12, c13, c14, c15, .bool false] 85)).cell? ⟨nb, 0, none⟩ = some (.slice la l.length lc)) (And.intro (frozen_of_row _ _ 0 _ _ h2W) (And.intro (owned_ne h3 h2 (by decide) : (Value.slice la l.length lc).ownBlock ≠ some nb) h17))))))
  obtain ⟨len, hl⟩ : ∃ len, len = l.length := ⟨_, rfl⟩
  rw [← hl] at c0w hlen HP HEND
  have HSZ := Lib.hid hszW
  clear h0 h1 h2 h3 h4 hg hgood hbW hszW hend h2W hnew h17 hl hone
  go_enter Try.func32, Try.ntmps32
  go_wp2_with fail
  obtain ⟨i0, z0, hi0, hz0, hz1, hz2, hz3⟩ := info_wide Try.infoK
  go_region_law (first
    | (refine step_append_lies _ (by rfl) _ _ _ (by rfl) 0 85 i0 z0 17 176 Try.underlying55 hi0 hz0 hz1 hz2 hz3 (by omega) (.slice la len lc) len (pcells l) (by rfl) HP.out.1 ⟨w.heap.size + 1, 0, none⟩ 1 1 [c0, c1, c2, c3, c4, c5, c6, c7, c8, c9, c10, c11, c12, c13, c14, c15, .bool false] (by rfl) (by rfl) (World.news_of_block (cs := #[c0, c1, c2, c3, c4, c5, c6, c7, c8, c9, c10, c11, c12, c13, c14, c15, .bool false]) (t := 85) (fr := (0, 0)) HP.out.2.1) HP.out.2.2.2.2.2.2 (by omega) (by unfold maxLen; omega) (by omega) (by omega) (w.heap.size + 2) (by simp) ?_; intro gg cap' w1 hown1 hgrow hat hlt1; have c1w := (hgrow.cell_far (a := ⟨nb, 0, none⟩) HP.out.2.2.1 (Ne.symm HP.out.2.2.2.2.2.1)).trans HP.out.2.2.2.1; have f1w := (hgrow.frozen_far (a := ⟨nb, 0, none⟩) HP.out.2.2.1 (Ne.symm HP.out.2.2.2.2.2.1)).trans HP.out.2.2.2.2.1))
  all_goals (
    have hfin := HEND.out w1 gg cap' hown1 hgrow (by rw [HSZ.out]; exact hat)
    go_wp2_with fail
    go_end0
    exact hfin)

end Go.Proofs.Ytklpafognbodhaa
