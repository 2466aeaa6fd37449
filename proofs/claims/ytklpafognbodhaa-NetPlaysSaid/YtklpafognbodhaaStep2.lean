/-
  What 'step' answers of two nets that hold the same, act by act: Send, Double, Hold, Free, First, Clear. No condition.
  What 'step' answers of two nets that hold the same, act by act: Send, Look, Take. No condition but that the message is no greater than the law asks.
-/
import Derived.Test.YtklpafognbodhaaGone
import Derived.Deep.RegionHeld3
namespace Go.Proofs.Ytklpafognbodhaa
open Go.RowKit

set_option maxRecDepth 100000 in
set_option maxHeartbeats 2000000 in
theorem step_hold (w0 w : World) (T : Nat → Prop) (nb rb : Nat) (l : List Item) (k : Int) (c0 c1 c2 c3 c4 c5 c6 c7 c8 c9 c10 c11 c12 c13 c14 c15 : Value) (h : Half w0 w T nb rb l l) :
    Calls Try.prog 7 #[.pointer (some ⟨nb, 0, none⟩), .pointer (some ⟨rb, 0, none⟩), .agg #[.int .i64 3, .int .i64 k, c0, c1, c2, c3, c4, c5, c6, c7, c8, c9, c10, c11, c12, c13, c14, c15]] w (StepC w0 T nb rb w) := by
  obtain ⟨l2, hl2⟩ : ∃ l2, l2 = holdL l k := ⟨_, rfl⟩
  obtain ⟨E, hE⟩ : ∃ E : Int, E = lacksE l.length k := ⟨_, rfl⟩
  have hd : Below (w.alloc (.cells #[.int .i64 3, .int .i64 k, c0, c1, c2, c3, c4, c5, c6, c7, c8, c9, c10, c11, c12, c13, c14, c15] 42)).heap.size (w.alloc (.cells #[.int .i64 3, .int .i64 k, c0, c1, c2, c3, c4, c5, c6, c7, c8, c9, c10, c11, c12, c13, c14, c15] 42)) (w.alloc (.cells #[.int .i64 3, .int .i64 k, c0, c1, c2, c3, c4, c5, c6, c7, c8, c9, c10, c11, c12, c13, c14, c15] 42)).drew := below_drewN (Below.refl _ _) 1
  have g0 := ((h.box (.cells #[.int .i64 3, .int .i64 k, c0, c1, c2, c3, c4, c5, c6, c7, c8, c9, c10, c11, c12, c13, c14, c15] 42)).still hd).gone
  have q1 : (w.alloc (.cells #[.int .i64 3, .int .i64 k, c0, c1, c2, c3, c4, c5, c6, c7, c8, c9, c10, c11, c12, c13, c14, c15] 42)).drew.cell? ⟨w.heap.size, 1, none⟩ = some (.int .i64 k) := (World.cell?_of_block (hd.block w.heap.size (by simp))).trans (by rw [cell_of_row _ _ 1 _ _ _ (heap_alloc_new w _)]; rfl)
  have hp := gone_hold_p k g0
  have hr := fun w2 (h2 : Gone w0 (w.alloc (.cells #[.int .i64 3, .int .i64 k, c0, c1, c2, c3, c4, c5, c6, c7, c8, c9, c10, c11, c12, c13, c14, c15] 42)).drew (fun x => T x ∨ x = w.heap.size) nb rb l l2 w2) => gone_hold_r k h2
  rw [← hE, ← hl2] at hp hr
  have ht := h.tl
  have HX := Lib.hid (And.intro hp (And.intro hr (And.intro ht q1)))
  clear h hl2 hE hp hr ht g0 q1 hd
  go_enter Try.func7, Try.ntmps7
  go_wp2_with fail
  go_region_held3 (fun V => V.cell? ⟨w.heap.size, 1, none⟩ = some (.int .i64 k))
    (first | exact HX.out.2.2.2 | exact hg1.cell (Or.inr rfl) HX.out.2.2.2 | exact hg2.cell (Or.inr rfl) HX.out.2.2.2 | (go_keep; done))
    (first
      | (go_at_call 12; refine HX.out.1.mono ?_; rintro e w2 ⟨rfl, hg1⟩)
      | (go_at_call 21; refine (HX.out.2.1 _ hg1).mono ?_; rintro e w3 ⟨rfl, hg2⟩))
  all_goals (
    have HG := Lib.hid (hg2.unbox HX.out.2.2.1)
    clear hg1 hg2
    go_wp2_with fail
    go_ret
    exact HG.out)

set_option maxRecDepth 100000 in
set_option maxHeartbeats 2000000 in
theorem step_double (w0 w : World) (T : Nat → Prop) (nb rb : Nat) (l : List Item) (k : Int) (c0 c1 c2 c3 c4 c5 c6 c7 c8 c9 c10 c11 c12 c13 c14 c15 : Value) (h : Half w0 w T nb rb l l) :
    Calls Try.prog 7 #[.pointer (some ⟨nb, 0, none⟩), .pointer (some ⟨rb, 0, none⟩), .agg #[.int .i64 2, .int .i64 k, c0, c1, c2, c3, c4, c5, c6, c7, c8, c9, c10, c11, c12, c13, c14, c15]] w (StepC w0 T nb rb w) := by
  obtain ⟨l2, hl2⟩ : ∃ l2, l2 = doubleL l k := ⟨_, rfl⟩
  obtain ⟨E, hE⟩ : ∃ E : Int, E = doubleE l k := ⟨_, rfl⟩
  have hd : Below (w.alloc (.cells #[.int .i64 2, .int .i64 k, c0, c1, c2, c3, c4, c5, c6, c7, c8, c9, c10, c11, c12, c13, c14, c15] 42)).heap.size (w.alloc (.cells #[.int .i64 2, .int .i64 k, c0, c1, c2, c3, c4, c5, c6, c7, c8, c9, c10, c11, c12, c13, c14, c15] 42)) (w.alloc (.cells #[.int .i64 2, .int .i64 k, c0, c1, c2, c3, c4, c5, c6, c7, c8, c9, c10, c11, c12, c13, c14, c15] 42)).drew := below_drewN (Below.refl _ _) 1
  have g0 := ((h.box (.cells #[.int .i64 2, .int .i64 k, c0, c1, c2, c3, c4, c5, c6, c7, c8, c9, c10, c11, c12, c13, c14, c15] 42)).still hd).gone
  have q1 : (w.alloc (.cells #[.int .i64 2, .int .i64 k, c0, c1, c2, c3, c4, c5, c6, c7, c8, c9, c10, c11, c12, c13, c14, c15] 42)).drew.cell? ⟨w.heap.size, 1, none⟩ = some (.int .i64 k) := (World.cell?_of_block (hd.block w.heap.size (by simp))).trans (by rw [cell_of_row _ _ 1 _ _ _ (heap_alloc_new w _)]; rfl)
  have hp := gone_double_p k g0
  have hr := fun w2 (h2 : Gone w0 (w.alloc (.cells #[.int .i64 2, .int .i64 k, c0, c1, c2, c3, c4, c5, c6, c7, c8, c9, c10, c11, c12, c13, c14, c15] 42)).drew (fun x => T x ∨ x = w.heap.size) nb rb l l2 w2) => gone_double_r k h2
  rw [← hE, ← hl2] at hp hr
  have ht := h.tl
  have HX := Lib.hid (And.intro hp (And.intro hr (And.intro ht q1)))
  clear h hl2 hE hp hr ht g0 q1 hd
  go_enter Try.func7, Try.ntmps7
  go_wp2_with fail
  go_region_held3 (fun V => V.cell? ⟨w.heap.size, 1, none⟩ = some (.int .i64 k))
    (first | exact HX.out.2.2.2 | exact hg1.cell (Or.inr rfl) HX.out.2.2.2 | exact hg2.cell (Or.inr rfl) HX.out.2.2.2 | (go_keep; done))
    (first
      | (go_at_call 19; refine HX.out.1.mono ?_; rintro e w2 ⟨rfl, hg1⟩)
      | (go_at_call 20; refine (HX.out.2.1 _ hg1).mono ?_; rintro e w3 ⟨rfl, hg2⟩))
  all_goals (
    have HG := Lib.hid (hg2.unbox HX.out.2.2.1)
    clear hg1 hg2
    go_wp2_with fail
    go_ret
    exact HG.out)

set_option maxRecDepth 100000 in
set_option maxHeartbeats 2000000 in
theorem step_clear (w0 w : World) (T : Nat → Prop) (nb rb : Nat) (l : List Item) (k : Int) (c0 c1 c2 c3 c4 c5 c6 c7 c8 c9 c10 c11 c12 c13 c14 c15 : Value) (h : Half w0 w T nb rb l l) :
    Calls Try.prog 7 #[.pointer (some ⟨nb, 0, none⟩), .pointer (some ⟨rb, 0, none⟩), .agg #[.int .i64 7, .int .i64 k, c0, c1, c2, c3, c4, c5, c6, c7, c8, c9, c10, c11, c12, c13, c14, c15]] w (StepC w0 T nb rb w) := by
  obtain ⟨l2, hl2⟩ : ∃ l2, l2 = rstays k l := ⟨_, rfl⟩
  obtain ⟨E, hE⟩ : ∃ E : Int, E = (l.length : Int) - (rstays k l).length := ⟨_, rfl⟩
  have hd : Below (w.alloc (.cells #[.int .i64 7, .int .i64 k, c0, c1, c2, c3, c4, c5, c6, c7, c8, c9, c10, c11, c12, c13, c14, c15] 42)).heap.size (w.alloc (.cells #[.int .i64 7, .int .i64 k, c0, c1, c2, c3, c4, c5, c6, c7, c8, c9, c10, c11, c12, c13, c14, c15] 42)) (w.alloc (.cells #[.int .i64 7, .int .i64 k, c0, c1, c2, c3, c4, c5, c6, c7, c8, c9, c10, c11, c12, c13, c14, c15] 42)).drew := below_drewN (Below.refl _ _) 1
  have g0 := ((h.box (.cells #[.int .i64 7, .int .i64 k, c0, c1, c2, c3, c4, c5, c6, c7, c8, c9, c10, c11, c12, c13, c14, c15] 42)).still hd).gone
  have q1 : (w.alloc (.cells #[.int .i64 7, .int .i64 k, c0, c1, c2, c3, c4, c5, c6, c7, c8, c9, c10, c11, c12, c13, c14, c15] 42)).drew.cell? ⟨w.heap.size, 1, none⟩ = some (.int .i64 k) := (World.cell?_of_block (hd.block w.heap.size (by simp))).trans (by rw [cell_of_row _ _ 1 _ _ _ (heap_alloc_new w _)]; rfl)
  have hp := gone_clear_p k g0
  have hr := fun w2 (h2 : Gone w0 (w.alloc (.cells #[.int .i64 7, .int .i64 k, c0, c1, c2, c3, c4, c5, c6, c7, c8, c9, c10, c11, c12, c13, c14, c15] 42)).drew (fun x => T x ∨ x = w.heap.size) nb rb l l2 w2) => gone_clear_r k h2
  rw [← hE, ← hl2] at hp hr
  have ht := h.tl
  have HX := Lib.hid (And.intro hp (And.intro hr (And.intro ht q1)))
  clear h hl2 hE hp hr ht g0 q1 hd
  go_enter Try.func7, Try.ntmps7
  go_wp2_with fail
  go_region_held3 (fun V => V.cell? ⟨w.heap.size, 1, none⟩ = some (.int .i64 k))
    (first | exact HX.out.2.2.2 | exact hg1.cell (Or.inr rfl) HX.out.2.2.2 | exact hg2.cell (Or.inr rfl) HX.out.2.2.2 | (go_keep; done))
    (first
      | (go_at_call 15; refine HX.out.1.mono ?_; rintro e w2 ⟨rfl, hg1⟩)
      | (go_at_call 27; refine (HX.out.2.1 _ hg1).mono ?_; rintro e w3 ⟨rfl, hg2⟩))
  all_goals (
    have HG := Lib.hid (hg2.unbox HX.out.2.2.1)
    clear hg1 hg2
    go_wp2_with fail
    go_ret
    exact HG.out)

set_option maxRecDepth 100000 in
set_option maxHeartbeats 2000000 in
theorem step_free (w0 w : World) (T : Nat → Prop) (nb rb : Nat) (l : List Item) (k : Int) (c0 c1 c2 c3 c4 c5 c6 c7 c8 c9 c10 c11 c12 c13 c14 c15 : Value) (h : Half w0 w T nb rb l l) :
    Calls Try.prog 7 #[.pointer (some ⟨nb, 0, none⟩), .pointer (some ⟨rb, 0, none⟩), .agg #[.int .i64 5, .int .i64 k, c0, c1, c2, c3, c4, c5, c6, c7, c8, c9, c10, c11, c12, c13, c14, c15]] w (StepC w0 T nb rb w) := by
  obtain ⟨l2, hl2⟩ : ∃ l2, l2 = freeL l := ⟨_, rfl⟩
  obtain ⟨E, hE⟩ : ∃ E : Nat, E = count l := ⟨_, rfl⟩
  have g0 := (h.box (.cells #[.int .i64 5, .int .i64 k, c0, c1, c2, c3, c4, c5, c6, c7, c8, c9, c10, c11, c12, c13, c14, c15] 42)).gone
  have hp := gone_free_p g0
  have hr := fun w2 (h2 : Gone w0 (w.alloc (.cells #[.int .i64 5, .int .i64 k, c0, c1, c2, c3, c4, c5, c6, c7, c8, c9, c10, c11, c12, c13, c14, c15] 42)) (fun x => T x ∨ x = w.heap.size) nb rb l l2 w2) => gone_free_r h2
  rw [← hE, ← hl2] at hp hr
  have ht := h.tl
  have HX := Lib.hid (And.intro hp (And.intro hr ht))
  clear h hl2 hE hp hr ht g0
  go_enter Try.func7, Try.ntmps7
  go_wp2_with (first
      | (go_at_call 24; refine HX.out.1.mono ?_; rintro e w2 ⟨rfl, hg1⟩)
      | (go_at_call 25; refine (HX.out.2.1 _ hg1).mono ?_; rintro e w3 ⟨rfl, hg2⟩))
  have HG := Lib.hid (hg2.unbox0 HX.out.2.2)
  clear hg1 hg2
  go_ret
  exact HG.out

set_option maxRecDepth 100000 in
set_option maxHeartbeats 2000000 in
theorem step_first (w0 w : World) (T : Nat → Prop) (nb rb : Nat) (l : List Item) (k : Int) (c0 c1 c2 c3 c4 c5 c6 c7 c8 c9 c10 c11 c12 c13 c14 c15 : Value) (h : Half w0 w T nb rb l l) :
    Calls Try.prog 7 #[.pointer (some ⟨nb, 0, none⟩), .pointer (some ⟨rb, 0, none⟩), .agg #[.int .i64 6, .int .i64 k, c0, c1, c2, c3, c4, c5, c6, c7, c8, c9, c10, c11, c12, c13, c14, c15]] w (StepC w0 T nb rb w) := by
  have hE : ∃ (n : Nat) (b : Bool), firstV (firstFree l 0) = .tuple #[.int .i64 n, .bool b] := by
    cases firstFree l 0 with
    | none => exact ⟨0, false, rfl⟩
    | some n => exact ⟨n, true, rfl⟩
  obtain ⟨n, b, hE⟩ := hE
  have g0 := (h.box (.cells #[.int .i64 6, .int .i64 k, c0, c1, c2, c3, c4, c5, c6, c7, c8, c9, c10, c11, c12, c13, c14, c15] 42)).gone
  have hp := gone_first_p g0
  have hr := fun w2 (h2 : Gone w0 (w.alloc (.cells #[.int .i64 6, .int .i64 k, c0, c1, c2, c3, c4, c5, c6, c7, c8, c9, c10, c11, c12, c13, c14, c15] 42)) (fun x => T x ∨ x = w.heap.size) nb rb l l w2) => gone_first_r h2
  rw [hE] at hp hr
  have ht := h.tl
  have HX := Lib.hid (And.intro hp (And.intro hr ht))
  clear h hE hp hr ht g0
  go_enter Try.func7, Try.ntmps7
  go_wp2_with (first
      | (go_at_call 13; refine HX.out.1.mono ?_; rintro e w2 ⟨rfl, hg1⟩)
      | (go_at_call 26; refine (HX.out.2.1 _ hg1).mono ?_; rintro e w3 ⟨rfl, hg2⟩))
  have HG := Lib.hid (hg2.unbox0 HX.out.2.2)
  clear hg1 hg2
  go_ret
  exact HG.out

end Go.Proofs.Ytklpafognbodhaa
namespace Go.Proofs.Ytklpafognbodhaa
open Go.RowKit

/-- Since W, and a message out of the program's net lies in a cell of its own. -/
def GoneL (w0 W : World) (T : Nat → Prop) (nb rb : Nat) (l lm : List Item) (cs : List Value) (m : Msg) (B : Nat) (w' : World) : Prop :=
  ∃ T', (∀ x, T x → T' x ∧ w'.heap[x]? = W.heap[x]?) ∧ T' B ∧ MsgThere w' B 0 cs ∧ (∃ sa sc ka cap, cs = msgCells m sa sc ka cap ∧ MsgIn w' T' m sa ka) ∧ Half w0 w' T' nb rb l lm
theorem GoneL.cell {w0 W w1 : World} {T : Nat → Prop} {nb rb : Nat} {l lm : List Item} {cs : List Value} {m : Msg} {B : Nat} (h : GoneL w0 W T nb rb l lm cs m B w1) {b o : Nat} {v : Value} (hb : T b) (hc : W.cell? ⟨b, o, none⟩ = some v) : w1.cell? ⟨b, o, none⟩ = some v := by
  obtain ⟨T', h1, _⟩ := h
  exact (World.cell?_of_block (h1 b hb).2).trans hc
/-- What the program's net hands out, and what it is laid into. -/
def HandP (w0 W : World) (T : Nat → Prop) (nb rb : Nat) (l lm : List Item) (m : Msg) (F : Value → Value) (e : Ending) (w1 : World) : Prop :=
  ∃ cs : List Value, e = .returned (F (.agg cs.toArray)) ∧ freeAt (w1.alloc (.cells #[.int .i8 0, .int .i64 0, .int .i64 0, .int .i64 0, .int .i64 0, .int .i64 0, .int .i64 0, .int .i64 0, .int .i64 0, .int .i64 0, .int .i64 0, .slice none 0 0, .int .i64 0, .int .i64 0, .string ⟨#[]⟩, .slice none 0 0] 40)) (.pointer (some ⟨w1.heap.size, 0, none⟩)) = true ∧ isMsg (.agg cs.toArray) = true ∧ GoneL w0 W T nb rb l lm cs m w1.heap.size ((w1.alloc (.cells #[.int .i8 0, .int .i64 0, .int .i64 0, .int .i64 0, .int .i64 0, .int .i64 0, .int .i64 0, .int .i64 0, .int .i64 0, .int .i64 0, .int .i64 0, .slice none 0 0, .int .i64 0, .int .i64 0, .string ⟨#[]⟩, .slice none 0 0] 40)).setCells w1.heap.size 0 cs)
theorem HalfM.hand {w0 W w w1 : World} {T T' : Nat → Prop} {nb rb : Nat} {l lm : List Item} {m : Msg} {F : Value → Value} {e : Ending} (h1 : ∀ x, T x → T' x ∧ w.heap[x]? = W.heap[x]?) (h : HalfM w0 T' nb rb l lm m F w e w1) : HandP w0 W T nb rb l lm m F e w1 := by
  obtain ⟨T2, sa, sc, ka, cap, he, hin, hh, h2⟩ := h
  have h16 : (msgCells m sa sc ka cap).length = 16 := rfl
  have hnew := heap_alloc_new w1 (.cells #[.int .i8 0, .int .i64 0, .int .i64 0, .int .i64 0, .int .i64 0, .int .i64 0, .int .i64 0, .int .i64 0, .int .i64 0, .int .i64 0, .int .i64 0, .slice none 0 0, .int .i64 0, .int .i64 0, .string ⟨#[]⟩, .slice none 0 0] 40)
  have hst := store_msg hnew rfl h16
  have hb : Below w1.heap.size w1 ((w1.alloc (.cells #[.int .i8 0, .int .i64 0, .int .i64 0, .int .i64 0, .int .i64 0, .int .i64 0, .int .i64 0, .int .i64 0, .int .i64 0, .int .i64 0, .int .i64 0, .slice none 0 0, .int .i64 0, .int .i64 0, .string ⟨#[]⟩, .slice none 0 0] 40)).setCells w1.heap.size 0 (msgCells m sa sc ka cap)) := ((Below.refl _ _).alloc (Nat.le_refl _) _).trans (hst.2.2.2 _ (Nat.le_refl _))
  have hsz : ((w1.alloc (.cells #[.int .i8 0, .int .i64 0, .int .i64 0, .int .i64 0, .int .i64 0, .int .i64 0, .int .i64 0, .int .i64 0, .int .i64 0, .int .i64 0, .int .i64 0, .slice none 0 0, .int .i64 0, .int .i64 0, .string ⟨#[]⟩, .slice none 0 0] 40)).setCells w1.heap.size 0 (msgCells m sa sc ka cap)).heap.size = w1.heap.size + 1 := by rw [hst.2.1]; simp
  refine ⟨msgCells m sa sc ka cap, he, freeAt_of hnew rfl, isMsg_agg h16 (msgCells_one m sa sc ka cap), fun x => T2 x ∨ x = w1.heap.size, fun x hx => ⟨Or.inl (h2 x (h1 x hx).1).1, ?_⟩, Or.inr rfl, msg_there hst.1 h16, ⟨sa, sc, ka, cap, rfl, hin.kept fun x hx => ⟨Or.inl hx, hb.block x (hh.tl x hx)⟩⟩, ?_⟩
  · rw [hb.block x (hh.tl x (h2 x (h1 x hx).1).1), (h2 x (h1 x hx).1).2, (h1 x hx).2]
  · obtain ⟨SP, SR, pl, hh⟩ := hh
    exact ⟨SP, SR, pl, hh.prog (hh.prow.below hb) (Below.touched hb SP) (fun _ hx => Or.inl hx) (fun _ hx => Or.inl hx) (fun x hx => hx.imp id fun e => ⟨by omega, by omega, fun hs => by have := hh.prow.1 x hs; omega⟩) (hh.like.kept fun x hx => ⟨Or.inl hx, hb.block x (hh.tl x hx)⟩) hh.goodm⟩
/-- What the document's net hands out, where the program's lies in block B: the two are the same. -/
def HandR (w0 W : World) (T : Nat → Prop) (nb rb : Nat) (l lm : List Item) (cs : List Value) (B : Nat) (F : Value → Value) (e : Ending) (w3 : World) : Prop :=
  ∃ ds : List Value, e = .returned (F (.agg ds.toArray)) ∧ freeAt (w3.alloc (.cells #[.int .i8 0, .int .i64 0, .int .i64 0, .int .i64 0, .int .i64 0, .int .i64 0, .int .i64 0, .int .i64 0, .int .i64 0, .int .i64 0, .int .i64 0, .slice none 0 0, .int .i64 0, .int .i64 0, .string ⟨#[]⟩, .slice none 0 0] 40)) (.pointer (some ⟨w3.heap.size, 0, none⟩)) = true ∧ isMsg (.agg ds.toArray) = true ∧ (okAt ((w3.alloc (.cells #[.int .i8 0, .int .i64 0, .int .i64 0, .int .i64 0, .int .i64 0, .int .i64 0, .int .i64 0, .int .i64 0, .int .i64 0, .int .i64 0, .int .i64 0, .slice none 0 0, .int .i64 0, .int .i64 0, .string ⟨#[]⟩, .slice none 0 0] 40)).setCells w3.heap.size 0 ds) (.pointer (some ⟨B, 0, none⟩)) = true ∧ cellsAt ((w3.alloc (.cells #[.int .i8 0, .int .i64 0, .int .i64 0, .int .i64 0, .int .i64 0, .int .i64 0, .int .i64 0, .int .i64 0, .int .i64 0, .int .i64 0, .int .i64 0, .slice none 0 0, .int .i64 0, .int .i64 0, .string ⟨#[]⟩, .slice none 0 0] 40)).setCells w3.heap.size 0 ds) (.pointer (some ⟨B, 0, none⟩)) = cs.toArray) ∧
    (okAt ((w3.alloc (.cells #[.int .i8 0, .int .i64 0, .int .i64 0, .int .i64 0, .int .i64 0, .int .i64 0, .int .i64 0, .int .i64 0, .int .i64 0, .int .i64 0, .int .i64 0, .slice none 0 0, .int .i64 0, .int .i64 0, .string ⟨#[]⟩, .slice none 0 0] 40)).setCells w3.heap.size 0 ds) (.pointer (some ⟨w3.heap.size, 0, none⟩)) = true ∧ cellsAt ((w3.alloc (.cells #[.int .i8 0, .int .i64 0, .int .i64 0, .int .i64 0, .int .i64 0, .int .i64 0, .int .i64 0, .int .i64 0, .int .i64 0, .int .i64 0, .int .i64 0, .slice none 0 0, .int .i64 0, .int .i64 0, .string ⟨#[]⟩, .slice none 0 0] 40)).setCells w3.heap.size 0 ds) (.pointer (some ⟨w3.heap.size, 0, none⟩)) = ds.toArray) ∧
    Calls Try.prog 18 #[.agg cs.toArray, .agg ds.toArray] ((w3.alloc (.cells #[.int .i8 0, .int .i64 0, .int .i64 0, .int .i64 0, .int .i64 0, .int .i64 0, .int .i64 0, .int .i64 0, .int .i64 0, .int .i64 0, .int .i64 0, .slice none 0 0, .int .i64 0, .int .i64 0, .string ⟨#[]⟩, .slice none 0 0] 40)).setCells w3.heap.size 0 ds) fun e w4 => e = .returned (.bool true) ∧ Gone w0 W T nb rb l lm w4
theorem HalfR.hand {w0 W w1 w3 : World} {T T' : Nat → Prop} {nb rb : Nat} {l lm : List Item} {cs : List Value} {m : Msg} {B : Nat} {F : Value → Value} {e : Ending} (hm : m.small) (h1 : ∀ x, T x → T' x ∧ w1.heap[x]? = W.heap[x]?) (hB : T' B) (hmt : MsgThere w1 B 0 cs)
    (hcs : ∃ sa sc ka cap, cs = msgCells m sa sc ka cap ∧ MsgIn w1 T' m sa ka) (h : HalfR w0 T' nb rb l lm m F w1 e w3) : HandR w0 W T nb rb l lm cs B F e w3 := by
  obtain ⟨sb, sd, kb, cbp, he, hin, hh, h2⟩ := h
  obtain ⟨sa, sc, ka, cap, rfl, hin1⟩ := hcs
  have h16 : (msgCells m sb sd kb cbp).length = 16 := rfl
  have hnew := heap_alloc_new w3 (.cells #[.int .i8 0, .int .i64 0, .int .i64 0, .int .i64 0, .int .i64 0, .int .i64 0, .int .i64 0, .int .i64 0, .int .i64 0, .int .i64 0, .int .i64 0, .slice none 0 0, .int .i64 0, .int .i64 0, .string ⟨#[]⟩, .slice none 0 0] 40)
  have hst := store_msg hnew rfl h16
  have hb : Below w3.heap.size w3 ((w3.alloc (.cells #[.int .i8 0, .int .i64 0, .int .i64 0, .int .i64 0, .int .i64 0, .int .i64 0, .int .i64 0, .int .i64 0, .int .i64 0, .int .i64 0, .int .i64 0, .slice none 0 0, .int .i64 0, .int .i64 0, .string ⟨#[]⟩, .slice none 0 0] 40)).setCells w3.heap.size 0 (msgCells m sb sd kb cbp)) := ((Below.refl _ _).alloc (Nat.le_refl _) _).trans (hst.2.2.2 _ (Nat.le_refl _))
  have hmB := hmt.same ((hb.block B (hh.tl B hB)).trans (h2 B hB))
  refine ⟨msgCells m sb sd kb cbp, he, freeAt_of hnew rfl, isMsg_agg h16 (msgCells_one m sb sd kb cbp), hmB, msg_there hst.1 h16, ?_⟩
  refine (same_msg _ T' (fun x => x < w3.heap.size) _ _ m hm (fun x hx => Nat.lt_of_lt_of_le (hh.tl x hx) hb.size) (fun x hx => Nat.lt_of_lt_of_le hx hb.size) ((hin1.kept fun x hx => ⟨hx, (hb.block x (hh.tl x hx)).trans (h2 x hx)⟩).at sc cap) ((hin.kept fun x hx => ⟨hx, hb.block x hx⟩).at sd cbp)).mono fun e w4 ⟨he, hb4⟩ => ?_
  have hb34 : Below w3.heap.size w3 w4 := hb.trans (hb4.mono hb.size)
  exact ⟨he, T', fun x hx => ⟨(h1 x hx).1, (hb34.block x (hh.tl x (h1 x hx).1)).trans ((h2 x (h1 x hx).1).trans (h1 x hx).2)⟩, hh.still hb34⟩
variable {w0 W w : World} {T : Nat → Prop} {nb rb : Nat} {l lm : List Item}
theorem gone_look_p (k : Int) (h : Gone w0 W T nb rb l l w) : Calls Try.prog 22 #[.pointer (some ⟨nb, 0, none⟩), .int .i64 k] w (HandP w0 W T nb rb l l (lookAt l k).1 (fun v => .tuple #[v, .bool (lookAt l k).2, .int .i64 (lacksE l.length k)])) := by
  obtain ⟨T', h1, h2⟩ := h
  exact (half_look_p k h2).mono fun e w' hc => hc.hand h1
theorem gone_look_r (k : Int) {cs : List Value} {B : Nat} (h : GoneL w0 W T nb rb l lm cs (lookAt l k).1 B w) : Calls Try.prog 23 #[.pointer (some ⟨rb, 0, none⟩), .int .i64 k] w (HandR w0 W T nb rb l lm cs B (fun v => .tuple #[v, .bool (lookAt l k).2, .int .i64 (lacksE l.length k)])) := by
  obtain ⟨T', h1, hB, hm, hcs, h2⟩ := h
  have hg : GoodL l := by obtain ⟨SP, SR, pl, h⟩ := h2; exact h.goodl
  exact (half_look_r k h2).mono fun e w' hc => hc.hand (lookAt_small k hg) h1 hB hm hcs
theorem gone_take_p (k : Int) (h : Gone w0 W T nb rb l l w) : Calls Try.prog 14 #[.pointer (some ⟨nb, 0, none⟩), .int .i64 k] w (HandP w0 W T nb rb l (takeL l k) (lookAt l k).1 (fun v => .tuple #[v, .int .i64 (lacksE l.length k)])) := by
  obtain ⟨T', h1, h2⟩ := h
  exact (half_take_p k h2).mono fun e w' hc => hc.hand h1
theorem gone_take_r (k : Int) {cs : List Value} {B : Nat} (h : GoneL w0 W T nb rb l lm cs (lookAt l k).1 B w) : Calls Try.prog 17 #[.pointer (some ⟨rb, 0, none⟩), .int .i64 k] w (HandR w0 W T nb rb (takeL l k) lm cs B (fun v => .tuple #[v, .int .i64 (lacksE l.length k)])) := by
  obtain ⟨T', h1, hB, hm, hcs, h2⟩ := h
  have hg : GoodL l := by obtain ⟨SP, SR, pl, h⟩ := h2; exact h.goodl
  exact (half_take_r k h2).mono fun e w' hc => hc.hand (lookAt_small k hg) h1 hB hm hcs

attribute [local go_sem ↓] loadM wpLoadM storeM wpStoreM
attribute [local go_sem] putAt_ptr

set_option maxRecDepth 100000 in
set_option maxHeartbeats 2000000 in
theorem step_look (w0 w : World) (T : Nat → Prop) (nb rb : Nat) (l : List Item) (k : Int) (c0 c1 c2 c3 c4 c5 c6 c7 c8 c9 c10 c11 c12 c13 c14 c15 : Value) (h : Half w0 w T nb rb l l) :
    Calls Try.prog 7 #[.pointer (some ⟨nb, 0, none⟩), .pointer (some ⟨rb, 0, none⟩), .agg #[.int .i64 4, .int .i64 k, c0, c1, c2, c3, c4, c5, c6, c7, c8, c9, c10, c11, c12, c13, c14, c15]] w (StepC w0 T nb rb w) := by
  obtain ⟨l2, hl2⟩ : ∃ l2, l2 = l := ⟨_, rfl⟩
  obtain ⟨E, hE⟩ : ∃ E : Int, E = lacksE l.length k := ⟨_, rfl⟩
  obtain ⟨q, hq⟩ : ∃ q, q = lookAt l k := ⟨_, rfl⟩
  have g0 := (h.box (.cells #[.int .i64 4, .int .i64 k, c0, c1, c2, c3, c4, c5, c6, c7, c8, c9, c10, c11, c12, c13, c14, c15] 42)).gone
  have q1 : (w.alloc (.cells #[.int .i64 4, .int .i64 k, c0, c1, c2, c3, c4, c5, c6, c7, c8, c9, c10, c11, c12, c13, c14, c15] 42)).cell? ⟨w.heap.size, 1, none⟩ = some (.int .i64 k) := by rw [cell_of_row _ _ 1 _ _ _ (heap_alloc_new w _)]; rfl
  have hp := gone_look_p k g0
  have hr := fun (w2 : World) (cs : List Value) (B : Nat) (h2 : GoneL w0 (w.alloc (.cells #[.int .i64 4, .int .i64 k, c0, c1, c2, c3, c4, c5, c6, c7, c8, c9, c10, c11, c12, c13, c14, c15] 42)) (fun x => T x ∨ x = w.heap.size) nb rb l l2 cs (lookAt l k).1 B w2) => gone_look_r k h2
  rw [← hE, ← hq] at hp hr
  have hp2 : Calls Try.prog 22 #[.pointer (some ⟨nb, 0, none⟩), .int .i64 k] (w.alloc (.cells #[.int .i64 4, .int .i64 k, c0, c1, c2, c3, c4, c5, c6, c7, c8, c9, c10, c11, c12, c13, c14, c15] 42)) (HandP w0 (w.alloc (.cells #[.int .i64 4, .int .i64 k, c0, c1, c2, c3, c4, c5, c6, c7, c8, c9, c10, c11, c12, c13, c14, c15] 42)) (fun x => T x ∨ x = w.heap.size) nb rb l l2 q.1 (fun v => .tuple #[v, .bool q.2, .int .i64 E])) := by rw [hl2]; exact hp
  have hr2 : ∀ (w2 : World) (cs : List Value) (B : Nat), GoneL w0 (w.alloc (.cells #[.int .i64 4, .int .i64 k, c0, c1, c2, c3, c4, c5, c6, c7, c8, c9, c10, c11, c12, c13, c14, c15] 42)) (fun x => T x ∨ x = w.heap.size) nb rb l l2 cs q.1 B w2 → Calls Try.prog 23 #[.pointer (some ⟨rb, 0, none⟩), .int .i64 k] w2 (HandR w0 (w.alloc (.cells #[.int .i64 4, .int .i64 k, c0, c1, c2, c3, c4, c5, c6, c7, c8, c9, c10, c11, c12, c13, c14, c15] 42)) (fun x => T x ∨ x = w.heap.size) nb rb l2 l2 cs B (fun v => .tuple #[v, .bool q.2, .int .i64 E])) := fun w2 cs B h2 => by
    have := hr w2 cs B h2
    rwa [← hl2] at this
  have ht := h.tl
  have HX := Lib.hid (And.intro hp2 (And.intro hr2 (And.intro ht q1)))
  clear h hl2 hE hp hr ht g0 q1 hp2 hr2 hq
  obtain ⟨qm, qk⟩ := q
  go_enter Try.func7, Try.ntmps7
  go_wp2_with (first
    | (go_at_call 22; refine HX.out.1.mono ?_; rintro e w1 ⟨cs, rfl, f1, f2, hg⟩; have q2 := hg.cell (Or.inr rfl) HX.out.2.2.2; have HG := Lib.hid (HX.out.2.1 _ _ _ hg); clear hg)
    | (go_at_call 23; refine HG.out.mono ?_; rintro e w3 ⟨ds, rfl, f3, f4, ⟨f5, f6⟩, ⟨f7, f8⟩, hs⟩; have HS := Lib.hid hs; clear hs)
    | (go_at_call 18; refine HS.out.mono ?_; rintro e w4 ⟨rfl, hg⟩; have HL := Lib.hid (hg.unbox0 HX.out.2.2.1); clear hg))
  go_ret
  exact HL.out

set_option maxRecDepth 100000 in
set_option maxHeartbeats 2000000 in
theorem step_take (w0 w : World) (T : Nat → Prop) (nb rb : Nat) (l : List Item) (k : Int) (c0 c1 c2 c3 c4 c5 c6 c7 c8 c9 c10 c11 c12 c13 c14 c15 : Value) (h : Half w0 w T nb rb l l) :
    Calls Try.prog 7 #[.pointer (some ⟨nb, 0, none⟩), .pointer (some ⟨rb, 0, none⟩), .agg #[.int .i64 1, .int .i64 k, c0, c1, c2, c3, c4, c5, c6, c7, c8, c9, c10, c11, c12, c13, c14, c15]] w (StepC w0 T nb rb w) := by
  obtain ⟨l2, hl2⟩ : ∃ l2, l2 = takeL l k := ⟨_, rfl⟩
  obtain ⟨E, hE⟩ : ∃ E : Int, E = lacksE l.length k := ⟨_, rfl⟩
  obtain ⟨q, hq⟩ : ∃ q, q = lookAt l k := ⟨_, rfl⟩
  have g0 := (h.box (.cells #[.int .i64 1, .int .i64 k, c0, c1, c2, c3, c4, c5, c6, c7, c8, c9, c10, c11, c12, c13, c14, c15] 42)).gone
  have q1 : (w.alloc (.cells #[.int .i64 1, .int .i64 k, c0, c1, c2, c3, c4, c5, c6, c7, c8, c9, c10, c11, c12, c13, c14, c15] 42)).cell? ⟨w.heap.size, 1, none⟩ = some (.int .i64 k) := by rw [cell_of_row _ _ 1 _ _ _ (heap_alloc_new w _)]; rfl
  have hp := gone_take_p k g0
  have hr := fun (w2 : World) (cs : List Value) (B : Nat) (h2 : GoneL w0 (w.alloc (.cells #[.int .i64 1, .int .i64 k, c0, c1, c2, c3, c4, c5, c6, c7, c8, c9, c10, c11, c12, c13, c14, c15] 42)) (fun x => T x ∨ x = w.heap.size) nb rb l l2 cs (lookAt l k).1 B w2) => gone_take_r k h2
  rw [← hE, ← hq] at hp hr
  have hp2 : Calls Try.prog 14 #[.pointer (some ⟨nb, 0, none⟩), .int .i64 k] (w.alloc (.cells #[.int .i64 1, .int .i64 k, c0, c1, c2, c3, c4, c5, c6, c7, c8, c9, c10, c11, c12, c13, c14, c15] 42)) (HandP w0 (w.alloc (.cells #[.int .i64 1, .int .i64 k, c0, c1, c2, c3, c4, c5, c6, c7, c8, c9, c10, c11, c12, c13, c14, c15] 42)) (fun x => T x ∨ x = w.heap.size) nb rb l l2 q.1 (fun v => .tuple #[v, .int .i64 E])) := by rw [hl2]; exact hp
  have hr2 : ∀ (w2 : World) (cs : List Value) (B : Nat), GoneL w0 (w.alloc (.cells #[.int .i64 1, .int .i64 k, c0, c1, c2, c3, c4, c5, c6, c7, c8, c9, c10, c11, c12, c13, c14, c15] 42)) (fun x => T x ∨ x = w.heap.size) nb rb l l2 cs q.1 B w2 → Calls Try.prog 17 #[.pointer (some ⟨rb, 0, none⟩), .int .i64 k] w2 (HandR w0 (w.alloc (.cells #[.int .i64 1, .int .i64 k, c0, c1, c2, c3, c4, c5, c6, c7, c8, c9, c10, c11, c12, c13, c14, c15] 42)) (fun x => T x ∨ x = w.heap.size) nb rb l2 l2 cs B (fun v => .tuple #[v, .int .i64 E])) := fun w2 cs B h2 => by
    have := hr w2 cs B h2
    rwa [← hl2] at this
  have ht := h.tl
  have HX := Lib.hid (And.intro hp2 (And.intro hr2 (And.intro ht q1)))
  clear h hl2 hE hp hr ht g0 q1 hp2 hr2 hq
  obtain ⟨qm, qk⟩ := q
  go_enter Try.func7, Try.ntmps7
  go_wp2_with (first
    | (go_at_call 14; refine HX.out.1.mono ?_; rintro e w1 ⟨cs, rfl, f1, f2, hg⟩; have q2 := hg.cell (Or.inr rfl) HX.out.2.2.2; have HG := Lib.hid (HX.out.2.1 _ _ _ hg); clear hg)
    | (go_at_call 17; refine HG.out.mono ?_; rintro e w3 ⟨ds, rfl, f3, f4, ⟨f5, f6⟩, ⟨f7, f8⟩, hs⟩; have HS := Lib.hid hs; clear hs)
    | (go_at_call 18; refine HS.out.mono ?_; rintro e w4 ⟨rfl, hg⟩; have HL := Lib.hid (hg.unbox0 HX.out.2.2.1); clear hg))
  go_ret
  exact HL.out

set_option maxRecDepth 100000 in
set_option maxHeartbeats 2000000 in
theorem step_send (w0 w : World) (T : Nat → Prop) (nb rb : Nat) (l : List Item) (k : Int) (c0 c1 c2 c3 c4 c5 c6 c7 c8 c9 c10 c11 c12 c13 c14 c15 : Value) (m : Msg) (sa ka : Option Addr) (sc cap : Nat) (hc : msgCells m sa sc ka cap = [c0, c1, c2, c3, c4, c5, c6, c7, c8, c9, c10, c11, c12, c13, c14, c15]) (hin : MsgIn w T m sa ka) (hm : m.small) (hs : m.sum ≤ 1000000) (h : Half w0 w T nb rb l l) :
    Calls Try.prog 7 #[.pointer (some ⟨nb, 0, none⟩), .pointer (some ⟨rb, 0, none⟩), .agg #[.int .i64 0, .int .i64 k, c0, c1, c2, c3, c4, c5, c6, c7, c8, c9, c10, c11, c12, c13, c14, c15]] w (StepC w0 T nb rb w) := by
  obtain ⟨l2, hl2⟩ : ∃ l2, l2 = sendL l m := ⟨_, rfl⟩
  obtain ⟨E, hE⟩ : ∃ E : Int, E = sendE l m := ⟨_, rfl⟩
  have hd : Below (w.alloc (.cells #[.int .i64 0, .int .i64 k, c0, c1, c2, c3, c4, c5, c6, c7, c8, c9, c10, c11, c12, c13, c14, c15] 42)).heap.size (w.alloc (.cells #[.int .i64 0, .int .i64 k, c0, c1, c2, c3, c4, c5, c6, c7, c8, c9, c10, c11, c12, c13, c14, c15] 42)) (w.alloc (.cells #[.int .i64 0, .int .i64 k, c0, c1, c2, c3, c4, c5, c6, c7, c8, c9, c10, c11, c12, c13, c14, c15] 42)).drew := below_drewN (Below.refl _ _) 1
  have hbw : Below w.heap.size w (w.alloc (.cells #[.int .i64 0, .int .i64 k, c0, c1, c2, c3, c4, c5, c6, c7, c8, c9, c10, c11, c12, c13, c14, c15] 42)).drew := below_drewN ((Below.refl _ _).alloc (Nat.le_refl _) _) 1
  have g0 := ((h.box (.cells #[.int .i64 0, .int .i64 k, c0, c1, c2, c3, c4, c5, c6, c7, c8, c9, c10, c11, c12, c13, c14, c15] 42)).still hd).gone
  have hnew : (w.alloc (.cells #[.int .i64 0, .int .i64 k, c0, c1, c2, c3, c4, c5, c6, c7, c8, c9, c10, c11, c12, c13, c14, c15] 42)).drew.heap[w.heap.size]? = some (.cells #[.int .i64 0, .int .i64 k, c0, c1, c2, c3, c4, c5, c6, c7, c8, c9, c10, c11, c12, c13, c14, c15] 42 (0, 0)) := (hd.block w.heap.size (by simp)).trans (heap_alloc_new w _)
  have q1 : MsgThere (w.alloc (.cells #[.int .i64 0, .int .i64 k, c0, c1, c2, c3, c4, c5, c6, c7, c8, c9, c10, c11, c12, c13, c14, c15] 42)).drew w.heap.size 2 [c0, c1, c2, c3, c4, c5, c6, c7, c8, c9, c10, c11, c12, c13, c14, c15] := there_msg hnew rfl fun j u hj => by
    have : (#[.int .i64 0, .int .i64 k, c0, c1, c2, c3, c4, c5, c6, c7, c8, c9, c10, c11, c12, c13, c14, c15] : Array Value)[2 + j]? = ([.int .i64 0, .int .i64 k] ++ [c0, c1, c2, c3, c4, c5, c6, c7, c8, c9, c10, c11, c12, c13, c14, c15] : List Value)[2 + j]? := by simp
    rw [this, List.getElem?_append_right (by simp)]
    simpa using hj
  have hv : MsgAt (w.alloc (.cells #[.int .i64 0, .int .i64 k, c0, c1, c2, c3, c4, c5, c6, c7, c8, c9, c10, c11, c12, c13, c14, c15] 42)).drew (fun x => T x ∨ x = w.heap.size) (.agg #[c0, c1, c2, c3, c4, c5, c6, c7, c8, c9, c10, c11, c12, c13, c14, c15]) m := by
    have := (hin.kept (w' := (w.alloc (.cells #[.int .i64 0, .int .i64 k, c0, c1, c2, c3, c4, c5, c6, c7, c8, c9, c10, c11, c12, c13, c14, c15] 42)).drew) (S' := (fun x => T x ∨ x = w.heap.size)) fun x hx => ⟨Or.inl hx, hbw.block x (h.tl x hx)⟩).at sc cap
    rw [hc] at this
    exact this
  have hp := gone_send_p _ m g0 hv hm hs
  have hr := fun w2 (h2 : Gone w0 (w.alloc (.cells #[.int .i64 0, .int .i64 k, c0, c1, c2, c3, c4, c5, c6, c7, c8, c9, c10, c11, c12, c13, c14, c15] 42)).drew (fun x => T x ∨ x = w.heap.size) nb rb l l2 w2) => gone_send_r _ m h2 hv hm hs
  rw [← hE, ← hl2] at hp hr
  have ht := h.tl
  have HX := Lib.hid (And.intro hp (And.intro hr (And.intro ht q1)))
  clear h hl2 hE hp hr ht g0 q1 hd hbw hnew hv hin hm hs hc
  go_enter Try.func7, Try.ntmps7
  go_wp2_with fail
  go_region_held3 (fun V => okAt V (.pointer (some ⟨w.heap.size, 2, none⟩)) = true ∧ cellsAt V (.pointer (some ⟨w.heap.size, 2, none⟩)) = #[c0, c1, c2, c3, c4, c5, c6, c7, c8, c9, c10, c11, c12, c13, c14, c15])
    (first | exact HX.out.2.2.2 | exact hg1.there (Or.inr rfl) HX.out.2.2.2 | exact hg2.there (Or.inr rfl) HX.out.2.2.2 | (go_keep; done))
    (first
      | (go_at_call 11; refine HX.out.1.mono ?_; rintro e w2 ⟨rfl, hg1⟩)
      | (go_at_call 16; refine (HX.out.2.1 _ hg1).mono ?_; rintro e w3 ⟨rfl, hg2⟩))
  all_goals (
    have HG := Lib.hid (hg2.unbox HX.out.2.2.1)
    clear hg1 hg2
    go_wp2_with fail
    go_ret
    exact HG.out)

end Go.Proofs.Ytklpafognbodhaa
