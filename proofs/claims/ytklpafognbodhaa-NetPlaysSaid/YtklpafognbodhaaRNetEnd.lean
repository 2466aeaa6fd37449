/-
  The document's own net: what its call Send leaves. No condition but that it lies where it is said to lie.
-/
import Derived.Test.YtklpafognbodhaaRNetSend
namespace Go.Proofs.Ytklpafognbodhaa
open Go.RowKit

/-- The blocks of the net, and what was made since. -/
def Wider (S : Nat → Prop) (w W : World) : Nat → Prop := fun x => S x ∨ (w.heap.size ≤ x ∧ x < W.heap.size)
/-- The message is in; its mark is not yet. -/
def SendMid (w W : World) (S : Nat → Prop) (rb : Nat) (l : List Item) (m : Msg) (lv hv : Value) : Prop :=
  (∀ x, S x → x < w.heap.size) ∧ w.heap.size ≤ W.heap.size ∧ S rb ∧ Touched w W S ∧ W.heap[rb]? = some (.cells #[lv, hv] 31 (0, 0)) ∧ (∀ g, hv.ownBlock = some g → S g) ∧ (∀ g, lv.ownBlock = some g → Wider S w W g) ∧
  W.ownsRow 0 4 1 hv l.length (marks l) ∧ ∃ xs, W.ownsRow 0 40 16 lv (l.length + 1) xs ∧ MsgRow W (Inner (Wider S w W) rb lv hv) (l.map (·.1) ++ [m]) xs

theorem send_mid {w w2 w1 : World} {S : Nat → Prop} {rb : Nat} {l : List Item} {m : Msg} {lv hv : Value} {xs : List Value} {o o' : Obj} {sa ka : Option Addr} {sc kc gg cap : Nat}
    (h0 : ∀ x, S x → x < w.heap.size) (h1 : S rb) (h2 : w.heap[rb]? = some (.cells #[lv, hv] 31 (0, 0))) (h3 : w.ownsRow 0 40 16 lv l.length xs) (h4 : w.ownsRow 0 4 1 hv l.length (marks l))
    (h5 : ∀ g, lv.ownBlock = some g → S g) (h6 : ∀ g, hv.ownBlock = some g → S g) (h7 : MsgRow w (Inner S rb lv hv) (l.map (·.1)) xs)
    (hb2 : Below (w.alloc o).drew.heap.size (w.alloc o).drew w2) (hs2 : StepsAt w2 (Fresh (w.alloc o).drew w2) sa m.steps) (hf2 : FoAt w2 (Fresh (w.alloc o).drew w2) m.tree.kids ka)
    (hown : w1.ownsRow 0 40 16 (.slice (some ⟨gg, 0, none⟩) (l.length + 1) cap) (l.length + 1) (xs ++ msgCells m sa sc ka kc)) (hgrow : (w2.alloc o').grownBy w1 lv.ownBlock) (hat : lv.ownBlock = some gg ∨ gg = w2.heap.size + 1) :
    SendMid w (w1.setCell ⟨rb, 0, none⟩ (.slice (some ⟨gg, 0, none⟩) (l.length + 1) cap)) S rb l m (.slice (some ⟨gg, 0, none⟩) (l.length + 1) cap) hv := by
  have e0 : (w.alloc o).drew.heap.size = w.heap.size + 1 := by show (w.alloc o).heap.size = _; simp
  have hs := hb2.size
  rw [e0] at hs
  have hrb := h0 rb h1
  have hob : ∀ g, lv.ownBlock = some g → g < w.heap.size := fun g hg => (owns_bounds h3 hg).2
  have hhb : ∀ g, hv.ownBlock = some g → g < w.heap.size := fun g hg => (owns_bounds h4 hg).2
  have old2 : ∀ x, x < w.heap.size → w2.heap[x]? = w.heap[x]? := fun x hx => (hb2.block x (by omega)).trans (Below.heap_alloc w o x hx)
  have old1 : ∀ x, x < w2.heap.size → lv.ownBlock ≠ some x → w1.heap[x]? = w2.heap[x]? := fun x hx hn => by
    rw [hgrow.block x (by simp; omega) (fun e => hn e.symm), Below.heap_alloc _ _ _ hx]
  have hsz1 : w2.heap.size + 1 ≤ w1.heap.size := by have := hgrow.size; simpa using this
  have hlr : lv.ownBlock ≠ some rb := owned_ne h3 h2 (by decide)
  have hhr : hv.ownBlock ≠ some rb := owned_ne h4 h2 (by decide)
  have hgr : gg ≠ rb := fun e => by
    rcases hat with hat | hat
    · exact hlr (by rw [hat, e])
    · omega
  have hrow : w1.heap[rb]? = some (.cells #[lv, hv] 31 (0, 0)) := (old1 rb (by omega) hlr).trans ((old2 rb hrb).trans h2)
  have keep : ∀ x, x < w2.heap.size → lv.ownBlock ≠ some x → x ≠ rb → (w1.setCell ⟨rb, 0, none⟩ (.slice (some ⟨gg, 0, none⟩) (l.length + 1) cap)).heap[x]? = w2.heap[x]? := fun x hx hn hr => by
    rw [Below.heap_setCell _ _ _ _ hr]; exact old1 x hx hn
  have hszW : (w1.setCell ⟨rb, 0, none⟩ (.slice (some ⟨gg, 0, none⟩) (l.length + 1) cap)).heap.size = w1.heap.size := by simp [World.setCell]
  have hlh : ∀ g, hv.ownBlock = some g → lv.ownBlock ≠ some g := fun g hg hl => owned_apart h3 h4 (by decide) hl hg
  have hgh : ∀ g, hv.ownBlock = some g → gg ≠ g := fun g hg e => by
    rcases hat with hat | hat
    · exact hlh g hg (by rw [hat, e])
    · have := hhb g hg; omega
  have hin : ∀ x, x < w2.heap.size → Wider S w w2 x → x ≠ rb → lv.ownBlock ≠ some x → hv.ownBlock ≠ some x → Inner (Wider S w (w1.setCell ⟨rb, 0, none⟩ (.slice (some ⟨gg, 0, none⟩) (l.length + 1) cap))) rb (.slice (some ⟨gg, 0, none⟩) (l.length + 1) cap) hv x := fun x hx hw hr hl hh => by
    refine ⟨?_, hr, fun e => ?_, hh⟩
    · rcases hw with hw | hw
      · exact Or.inl hw
      · exact Or.inr ⟨hw.1, by rw [hszW]; omega⟩
    · simp only [Value.ownBlock, Option.some.injEq] at e
      rcases hat with hat | hat
      · exact hl (by rw [hat, e])
      · omega
  refine ⟨h0, by rw [hszW]; omega, h1, ?_, ?_, h6, ?_, ?_, xs ++ msgCells m sa sc ka kc, ?_, ?_⟩
  · refine ⟨hgrow.os.trans hb2.os, hgrow.tape.trans hb2.tape, hgrow.output.trans hb2.output, by rw [hszW]; omega, fun x hx hn => ?_⟩
    rw [keep x (by omega) (fun e => hn (h5 x e)) (fun e => hn (by rw [e]; exact h1)), old2 x hx]
  · rw [heap_setCell_same w1 rb 0 _ _ _ hrow]; rfl
  · intro g hg
    simp only [Value.ownBlock, Option.some.injEq] at hg
    subst hg
    rcases hat with hat | hat
    · exact Or.inl (h5 _ hat)
    · have hgb := (owns_bounds hown (g := gg) rfl).2; exact Or.inr ⟨by omega, by rw [hszW]; omega⟩
  · exact owns_kept h4 (fun g cur hg hgo => (keep g (by have := hhb g hgo; omega) (hlh g hgo) (fun e => hhr (by rw [← e]; exact hgo))).trans (old2 g (hhb g hgo)))
  · exact owns_kept hown (fun g cur hg hgo => Below.heap_setCell _ _ _ _ (fun e => hgr (by cases hgo; exact e)))
  · refine MsgRow.snoc (⟨hs2.kept fun x hx => ?_, hf2.kept fun x hx => ?_⟩) sc kc (h7.kept fun x hx => ?_)
    · have hx1 := hx.1
      rw [e0] at hx1
      have hl : lv.ownBlock ≠ some x := fun e => by have := hob x e; omega
      exact ⟨hin x hx.2 (Or.inr ⟨by omega, hx.2⟩) (by omega) hl (fun e => by have := hhb x e; omega), keep x hx.2 hl (by omega)⟩
    · have hx1 := hx.1
      rw [e0] at hx1
      have hl : lv.ownBlock ≠ some x := fun e => by have := hob x e; omega
      exact ⟨hin x hx.2 (Or.inr ⟨by omega, hx.2⟩) (by omega) hl (fun e => by have := hhb x e; omega), keep x hx.2 hl (by omega)⟩
    · have hx0 := h0 x hx.1
      exact ⟨hin x (by omega) (Or.inl hx.1) hx.2.1 hx.2.2.1 hx.2.2.2, (keep x (by omega) hx.2.2.1 hx.2.1).trans (old2 x hx0)⟩

theorem send_end {w W w3 : World} {S : Nat → Prop} {rb : Nat} {l : List Item} {m : Msg} {lv hv : Value} {o : Obj} {g3 c3 : Nat} (h : SendMid w W S rb l m lv hv)
    (hown : w3.ownsRow 0 4 1 (.slice (some ⟨g3, 0, none⟩) (l.length + 1) c3) (l.length + 1) (marks l ++ [.bool false])) (hgrow : (W.alloc o).grownBy w3 hv.ownBlock) (hat : hv.ownBlock = some g3 ∨ g3 = W.heap.size + 1) :
    NetC w S rb (l ++ [(m, false)]) (.int .i64 0) (.returned (.int .i64 0)) (w3.setCell ⟨rb, 1, none⟩ (.slice (some ⟨g3, 0, none⟩) (l.length + 1) c3)) := by
  obtain ⟨h0, hsz, h1, ht, h2, h6, h5, h4, xs, h3, h7⟩ := h
  have hrb := h0 rb h1
  have hrbW := lt_of_some h2
  have hlb : ∀ g, lv.ownBlock = some g → g < W.heap.size := fun g hg => (owns_bounds h3 hg).2
  have hhb : ∀ g, hv.ownBlock = some g → g < W.heap.size := fun g hg => (owns_bounds h4 hg).2
  have hhr : hv.ownBlock ≠ some rb := owned_ne h4 h2 (by decide)
  have hlr : lv.ownBlock ≠ some rb := owned_ne h3 h2 (by decide)
  have hlh : ∀ g, lv.ownBlock = some g → hv.ownBlock ≠ some g := fun g hg => owned_apart h3 h4 (by decide) hg
  have hsz3 : W.heap.size + 1 ≤ w3.heap.size := by have := hgrow.size; simpa using this
  have old : ∀ x, x < W.heap.size → hv.ownBlock ≠ some x → w3.heap[x]? = W.heap[x]? := fun x hx hn => by
    rw [hgrow.block x (by simp; omega) (fun e => hn e.symm), Below.heap_alloc _ _ _ hx]
  have hgr : g3 ≠ rb := fun e => by
    rcases hat with hat | hat
    · exact hhr (by rw [hat, e])
    · omega
  have hgl : ∀ g, lv.ownBlock = some g → g3 ≠ g := fun g hg e => by
    rcases hat with hat | hat
    · exact hlh g hg (by rw [hat, e])
    · have := hlb g hg; omega
  have hrow : w3.heap[rb]? = some (.cells #[lv, hv] 31 (0, 0)) := (old rb hrbW hhr).trans h2
  have keep : ∀ x, x < W.heap.size → hv.ownBlock ≠ some x → x ≠ rb → (w3.setCell ⟨rb, 1, none⟩ (.slice (some ⟨g3, 0, none⟩) (l.length + 1) c3)).heap[x]? = W.heap[x]? := fun x hx hn hr => by
    rw [Below.heap_setCell _ _ _ _ hr]; exact old x hx hn
  have hszW : (w3.setCell ⟨rb, 1, none⟩ (.slice (some ⟨g3, 0, none⟩) (l.length + 1) c3)).heap.size = w3.heap.size := by simp [World.setCell]
  have hlen : (l ++ [(m, false)]).length = l.length + 1 := by simp
  refine ⟨rfl, Wider S w (w3.setCell ⟨rb, 1, none⟩ (.slice (some ⟨g3, 0, none⟩) (l.length + 1) c3)), ⟨fun x hx => ?_, Or.inl h1, lv, .slice (some ⟨g3, 0, none⟩) (l.length + 1) c3, xs, ?_, ?_, ?_, fun g hg => ?_, fun g hg => ?_, ?_⟩, ?_, fun x hx => hx.imp id (fun h => h.1)⟩
  · rcases hx with hx | hx
    · have := h0 x hx; rw [hszW]; omega
    · exact hx.2
  · rw [heap_setCell_same w3 rb 1 _ _ _ hrow]; rfl
  · rw [hlen]
    exact owns_kept h3 (fun g cur hg hgo => keep g (hlb g hgo) (hlh g hgo) (fun e => hlr (by rw [← e]; exact hgo)))
  · rw [hlen]
    have e : marks (l ++ [(m, false)]) = marks l ++ [.bool false] := by simp [marks]
    rw [e]
    exact owns_kept hown (fun g cur hg hgo => Below.heap_setCell _ _ _ _ (fun e => hgr (by cases hgo; exact e)))
  · rcases h5 g hg with h | h
    · exact Or.inl h
    · exact Or.inr ⟨h.1, by rw [hszW]; omega⟩
  · simp only [Value.ownBlock, Option.some.injEq] at hg
    subst hg
    rcases hat with hat | hat
    · exact Or.inl (h6 _ hat)
    · have hgb := (owns_bounds hown (g := g3) rfl).2; exact Or.inr ⟨by omega, by rw [hszW]; omega⟩
  · rw [List.map_append]
    refine h7.kept fun x hx => ?_
    have hxW : x < W.heap.size := by
      rcases hx.1 with h | h
      · have := h0 x h; omega
      · exact h.2
    refine ⟨⟨?_, hx.2.1, hx.2.2.1, fun e => ?_⟩, keep x hxW hx.2.2.2 hx.2.1⟩
    · rcases hx.1 with h | h
      · exact Or.inl h
      · exact Or.inr ⟨h.1, by rw [hszW]; omega⟩
    · simp only [Value.ownBlock, Option.some.injEq] at e
      rcases hat with hat | hat
      · exact hx.2.2.2 (by rw [hat, e])
      · omega
  · refine ⟨hgrow.os.trans ht.os, hgrow.tape.trans ht.tape, hgrow.output.trans ht.output, by rw [hszW]; omega, fun x hx hn => ?_⟩
    rw [keep x (by omega) (fun e => hn (h6 x e)) (fun e => hn (by rw [e]; exact h1)), ht.block x hx hn]

end Go.Proofs.Ytklpafognbodhaa
