/-
  The program's net and the document's, one beside the other, since some world: what an act leaves of them. Plain laws. No condition.
-/
import Derived.Test.YtklpafognbodhaaHalf2
namespace Go.Proofs.Ytklpafognbodhaa
open Go.RowKit

/-- Since W: what lay in T is as it was. -/
def Gone (w0 W : World) (T : Nat → Prop) (nb rb : Nat) (l lm : List Item) (w' : World) : Prop := ∃ T', (∀ x, T x → T' x ∧ w'.heap[x]? = W.heap[x]?) ∧ Half w0 w' T' nb rb l lm
theorem Gone.still {w0 W w1 w2 : World} {T : Nat → Prop} {nb rb : Nat} {l lm : List Item} (h : Gone w0 W T nb rb l lm w1) (hb : Below w1.heap.size w1 w2) : Gone w0 W T nb rb l lm w2 := by
  obtain ⟨T', h1, h2⟩ := h
  exact ⟨T', fun x hx => ⟨(h1 x hx).1, (hb.block x (h2.tl x (h1 x hx).1)).trans (h1 x hx).2⟩, h2.still hb⟩
theorem Gone.cell {w0 W w1 : World} {T : Nat → Prop} {nb rb : Nat} {l lm : List Item} (h : Gone w0 W T nb rb l lm w1) {b o : Nat} {v : Value} (hb : T b) (hc : W.cell? ⟨b, o, none⟩ = some v) : w1.cell? ⟨b, o, none⟩ = some v := by
  obtain ⟨T', h1, _⟩ := h
  exact (World.cell?_of_block (h1 b hb).2).trans hc
theorem Gone.there {w0 W w1 : World} {T : Nat → Prop} {nb rb : Nat} {l lm : List Item} (h : Gone w0 W T nb rb l lm w1) {b o : Nat} {cs : List Value} (hb : T b) (hc : MsgThere W b o cs) : MsgThere w1 b o cs := by
  obtain ⟨T', h1, _⟩ := h
  exact hc.same (h1 b hb).2
/-- With a block more that stays, made just now. -/
theorem Half.box {w0 w : World} {T : Nat → Prop} {nb rb : Nat} {l lm : List Item} (h : Half w0 w T nb rb l lm) (o : Obj) : Half w0 (w.alloc o) (fun x => T x ∨ x = w.heap.size) nb rb l lm := by
  obtain ⟨SP, SR, pl, h⟩ := h
  have hb : Below w.heap.size w (w.alloc o) := (Below.refl _ _).alloc (Nat.le_refl _) _
  exact ⟨SP, SR, pl, h.prog (h.prow.below hb) (Below.touched hb SP) (fun _ hx => Or.inl hx) (fun _ hx => Or.inl hx) (fun x hx => hx.imp id fun e => ⟨by omega, by rw [e]; simp, fun hs => by have := h.prow.1 x hs; omega⟩) (h.like.kept fun x hx => ⟨Or.inl hx, hb.block x (h.tl x hx)⟩) h.goodm⟩
theorem Half.gone {w0 w : World} {T : Nat → Prop} {nb rb : Nat} {l lm : List Item} (h : Half w0 w T nb rb l lm) : Gone w0 w T nb rb l lm w := ⟨T, fun _ hx => ⟨hx, rfl⟩, h⟩
theorem HalfC.gone {w0 W w1 w2 : World} {T T' : Nat → Prop} {nb rb : Nat} {l lm : List Item} {E : Value} {e : Ending} (h1 : ∀ x, T x → T' x ∧ w1.heap[x]? = W.heap[x]?) (h : HalfC w0 T' nb rb l lm E w1 e w2) : e = .returned E ∧ Gone w0 W T nb rb l lm w2 :=
  ⟨h.1, T', fun x hx => ⟨(h1 x hx).1, (h.2.2 x (h1 x hx).1).trans (h1 x hx).2⟩, h.2.1⟩
theorem HalfS.gone {w0 W w1 w2 : World} {T T' : Nat → Prop} {nb rb : Nat} {l lm : List Item} {E : Value} {e : Ending} (h1 : ∀ x, T x → T' x ∧ w1.heap[x]? = W.heap[x]?) (h : HalfS w0 T' nb rb l lm E w1 e w2) : e = .returned E ∧ Gone w0 W T nb rb l lm w2 := by
  obtain ⟨he, T2, h2, h3⟩ := h
  exact ⟨he, T2, fun x hx => ⟨(h3 x (h1 x hx).1).1, (h3 x (h1 x hx).1).2.trans (h1 x hx).2⟩, h2⟩

/-- A call of either net that answers E, and makes l and lm of them. -/
def PairC (w0 W : World) (T : Nat → Prop) (nb rb : Nat) (l lm : List Item) (E : Value) (e : Ending) (w' : World) : Prop := e = .returned E ∧ Gone w0 W T nb rb l lm w'

variable {w0 W w : World} {T : Nat → Prop} {nb rb : Nat} {l lm : List Item}
theorem gone_hold_p (k : Int) (h : Gone w0 W T nb rb l l w) : Calls Try.prog 12 #[.pointer (some ⟨nb, 0, none⟩), .int .i64 k] w (PairC w0 W T nb rb l (holdL l k) (.int .i64 (lacksE l.length k))) := by
  obtain ⟨T', h1, h2⟩ := h
  exact (half_hold_p k h2).mono fun e w' hc => hc.gone h1
theorem gone_hold_r (k : Int) (h : Gone w0 W T nb rb l lm w) : Calls Try.prog 21 #[.pointer (some ⟨rb, 0, none⟩), .int .i64 k] w (PairC w0 W T nb rb (holdL l k) lm (.int .i64 (lacksE l.length k))) := by
  obtain ⟨T', h1, h2⟩ := h
  exact (half_hold_r k h2).mono fun e w' hc => hc.gone h1
theorem gone_double_p (k : Int) (h : Gone w0 W T nb rb l l w) : Calls Try.prog 19 #[.pointer (some ⟨nb, 0, none⟩), .int .i64 k] w (PairC w0 W T nb rb l (doubleL l k) (.int .i64 (doubleE l k))) := by
  obtain ⟨T', h1, h2⟩ := h
  exact (half_double_p k h2).mono fun e w' hc => hc.gone h1
theorem gone_double_r (k : Int) (h : Gone w0 W T nb rb l lm w) : Calls Try.prog 20 #[.pointer (some ⟨rb, 0, none⟩), .int .i64 k] w (PairC w0 W T nb rb (doubleL l k) lm (.int .i64 (doubleE l k))) := by
  obtain ⟨T', h1, h2⟩ := h
  exact (half_double_r k h2).mono fun e w' hc => hc.gone h1
theorem gone_clear_p (k : Int) (h : Gone w0 W T nb rb l l w) : Calls Try.prog 15 #[.pointer (some ⟨nb, 0, none⟩), .int .i64 k] w (PairC w0 W T nb rb l (rstays k l) (.int .i64 ((l.length : Int) - (rstays k l).length))) := by
  obtain ⟨T', h1, h2⟩ := h
  exact (half_clear_p k h2).mono fun e w' hc => hc.gone h1
theorem gone_clear_r (k : Int) (h : Gone w0 W T nb rb l lm w) : Calls Try.prog 27 #[.pointer (some ⟨rb, 0, none⟩), .int .i64 k] w (PairC w0 W T nb rb (rstays k l) lm (.int .i64 ((l.length : Int) - (rstays k l).length))) := by
  obtain ⟨T', h1, h2⟩ := h
  exact (half_clear_r k h2).mono fun e w' hc => hc.gone h1
theorem gone_free_p (h : Gone w0 W T nb rb l l w) : Calls Try.prog 24 #[.pointer (some ⟨nb, 0, none⟩)] w (PairC w0 W T nb rb l (freeL l) (.int .i64 (count l))) := by
  obtain ⟨T', h1, h2⟩ := h
  exact (half_free_p h2).mono fun e w' hc => hc.gone h1
theorem gone_free_r (h : Gone w0 W T nb rb l lm w) : Calls Try.prog 25 #[.pointer (some ⟨rb, 0, none⟩)] w (PairC w0 W T nb rb (freeL l) lm (.int .i64 (count l))) := by
  obtain ⟨T', h1, h2⟩ := h
  exact (half_free_r h2).mono fun e w' hc => hc.gone h1
theorem gone_first_p (h : Gone w0 W T nb rb l l w) : Calls Try.prog 13 #[.pointer (some ⟨nb, 0, none⟩)] w (PairC w0 W T nb rb l l (firstV (firstFree l 0))) := by
  obtain ⟨T', h1, h2⟩ := h
  exact (half_first_p h2).mono fun e w' hc => hc.gone h1
theorem gone_first_r (h : Gone w0 W T nb rb l lm w) : Calls Try.prog 26 #[.pointer (some ⟨rb, 0, none⟩)] w (PairC w0 W T nb rb l lm (firstV (firstFree l 0))) := by
  obtain ⟨T', h1, h2⟩ := h
  exact (half_first_r h2).mono fun e w' hc => hc.gone h1
theorem gone_send_p (v : Value) (m : Msg) (h : Gone w0 W T nb rb l l w) (hv : MsgAt W T v m) (hm : m.small) (hs : m.sum ≤ 1000000) : Calls Try.prog 11 #[.pointer (some ⟨nb, 0, none⟩), v] w (PairC w0 W T nb rb l (sendL l m) (.int .i64 (sendE l m))) := by
  obtain ⟨T', h1, h2⟩ := h
  exact (half_send_p v m h2 (hv.kept h1) hm hs).mono fun e w' hc => hc.gone h1
theorem gone_send_r (v : Value) (m : Msg) (h : Gone w0 W T nb rb l lm w) (hv : MsgAt W T v m) (hm : m.small) (hs : m.sum ≤ 1000000) : Calls Try.prog 16 #[.pointer (some ⟨rb, 0, none⟩), v] w (PairC w0 W T nb rb (sendL l m) lm (.int .i64 (sendE l m))) := by
  obtain ⟨T', h1, h2⟩ := h
  exact (half_send_r v m h2 (hv.kept h1) hm hs).mono fun e w' hc => hc.gone h1

/-- What an act answers, and leaves. -/
def StepC (w0 : World) (T : Nat → Prop) (nb rb : Nat) (w : World) (e : Ending) (w' : World) : Prop := e = .returned (.bool true) ∧ ∃ l', Gone w0 w T nb rb l' l' w'
/-- .. where the act was boxed first. -/
theorem Gone.unbox {w' : World} {o : Obj} {l' : List Item} (ht : ∀ x, T x → x < w.heap.size) (h : Gone w0 (w.alloc o).drew (fun x => T x ∨ x = w.heap.size) nb rb l' l' w') : StepC w0 T nb rb w (.returned (.bool true)) w' := by
  obtain ⟨T', h1, h2⟩ := h
  exact ⟨rfl, l', T', fun x hx => ⟨(h1 x (Or.inl hx)).1, (h1 x (Or.inl hx)).2.trans (Below.heap_alloc w o x (ht x hx))⟩, h2⟩
theorem Gone.unbox0 {w' : World} {o : Obj} {l' : List Item} (ht : ∀ x, T x → x < w.heap.size) (h : Gone w0 (w.alloc o) (fun x => T x ∨ x = w.heap.size) nb rb l' l' w') : StepC w0 T nb rb w (.returned (.bool true)) w' := by
  obtain ⟨T', h1, h2⟩ := h
  exact ⟨rfl, l', T', fun x hx => ⟨(h1 x (Or.inl hx)).1, (h1 x (Or.inl hx)).2.trans (Below.heap_alloc w o x (ht x hx))⟩, h2⟩

end Go.Proofs.Ytklpafognbodhaa
