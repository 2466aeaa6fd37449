/-
  The program's net: its calls Take, Look and Double, over whatever 'copied' is good for. No condition but that it lies where it is said to lie.
-/
import Derived.Test.YtklpafognbodhaaPSend
namespace Go.Proofs.Ytklpafognbodhaa
open Go.RowKit

theorem store_msg {W : World} {B : Nat} {zs : Array Value} {cs : List Value} (hW : W.heap[B]? = some (.cells zs 40 (0, 0))) (hz : zs.size = 16) (h16 : cs.length = 16) :
    (W.setCells B 0 cs).heap[B]? = some (.cells cs.toArray 40 (0, 0)) ∧ (W.setCells B 0 cs).heap.size = W.heap.size ∧ (∀ x, x ≠ B → (W.setCells B 0 cs).heap[x]? = W.heap[x]?) ∧ ∀ b, b ≤ B → Below b W (W.setCells B 0 cs) := by
  have hst := setCells_block cs [] zs.toList W (t := 40) (b := B) (by simpa using hW) (by simp; omega)
  have hfr := setCells_frame (b := B) cs 0 W
  exact ⟨by simpa using hst, hfr.1, hfr.2.2, hfr.2.1⟩
theorem msg_there {W : World} {B : Nat} {cs : List Value} (hW : W.heap[B]? = some (.cells cs.toArray 40 (0, 0))) (h16 : cs.length = 16) : okAt W (.pointer (some ⟨B, 0, none⟩)) = true ∧ cellsAt W (.pointer (some ⟨B, 0, none⟩)) = cs.toArray :=
  there_msg hW (o := 0) h16 (fun j u hj => by rw [Nat.zero_add]; simpa using hj)
theorem Touched.free {w w' : World} {S : Nat → Prop} (h : Touched w w' S) {B : Nat} (hB : B < w.heap.size) (hs : ¬ S B) : w'.heap[B]? = w.heap[B]? := h.block B hB hs

def TakeC (R : World → World → List Value → Prop) (w : World) (S : Nat → Prop) (nb : Nat) (l : List PI) (e : Ending) (w' : World) : Prop :=
  ∃ cs : List Value, e = .returned (.tuple #[.agg cs.toArray, .int .i64 0]) ∧ cs.length = 16 ∧ ∃ W1 W2 S', Touched w W1 S ∧ w.heap.size < W1.heap.size ∧ R W1 W2 cs ∧ Below W1.heap.size W1 W2 ∧ PRowAt w' S' nb l ∧ (∀ x, S' x → S x ∨ w.heap.size < x ∧ x < W1.heap.size) ∧ Touched w w' S ∧ w'.heap.size = W2.heap.size ∧ ∀ x, x ≠ w.heap.size → w'.heap[x]? = W2.heap[x]?
theorem take_end {R : World → World → List Value → Prop} {w W0 W1 W2 : World} {S : Nat → Prop} {nb : Nat} {l : List PI} {E : Value} {e : Ending} {cs : List Value} (hS : ∀ x, S x → x < w.heap.size) (hb0 : Below w.heap.size w W0) (hs0 : W0.heap.size = w.heap.size + 1) (hz : W0.heap[w.heap.size]? = some (.cells #[.int .i8 0, .int .i64 0, .int .i64 0, .int .i64 0, .int .i64 0, .int .i64 0, .int .i64 0, .int .i64 0, .int .i64 0, .int .i64 0, .int .i64 0, .slice none 0 0, .int .i64 0, .int .i64 0, .string ⟨#[]⟩, .slice none 0 0] 40 (0, 0)))
    (hp : PC W0 S nb l E e W1) (h16 : cs.length = 16) (hr : R W1 W2 cs) (hb2 : Below W1.heap.size W1 W2) :
    freeAt W2 (.pointer (some ⟨w.heap.size, 0, none⟩)) = true ∧ (W2.setCells w.heap.size 0 cs).heap[w.heap.size]? = some (.cells cs.toArray 40 (0, 0)) ∧ TakeC R w S nb l (.returned (.tuple #[.agg cs.toArray, .int .i64 0])) (W2.setCells w.heap.size 0 cs) := by
  obtain ⟨_, S', p1, p2, p3⟩ := hp
  have hnS : ¬ S w.heap.size := fun h => by have := hS _ h; omega
  have h1 : W1.heap[w.heap.size]? = some (.cells #[.int .i8 0, .int .i64 0, .int .i64 0, .int .i64 0, .int .i64 0, .int .i64 0, .int .i64 0, .int .i64 0, .int .i64 0, .int .i64 0, .int .i64 0, .slice none 0 0, .int .i64 0, .int .i64 0, .string ⟨#[]⟩, .slice none 0 0] 40 (0, 0)) := (p2.block _ (by omega) hnS).trans hz
  have hlt := lt_of_some h1
  have h2 : W2.heap[w.heap.size]? = some (.cells #[.int .i8 0, .int .i64 0, .int .i64 0, .int .i64 0, .int .i64 0, .int .i64 0, .int .i64 0, .int .i64 0, .int .i64 0, .int .i64 0, .int .i64 0, .slice none 0 0, .int .i64 0, .int .i64 0, .string ⟨#[]⟩, .slice none 0 0] 40 (0, 0)) := (hb2.block _ hlt).trans h1
  have hst := store_msg h2 rfl h16
  have hs2 := hb2.size
  have ht1 : Touched w W1 S := (Below.touched hb0 S).trans p2 (fun k hk => Or.inl hk)
  have hnS' : ∀ x, S' x → x ≠ w.heap.size := fun x hx e => by
    rcases p3 x hx with h | h
    · exact hnS (by rw [← e]; exact h)
    · omega
  refine ⟨freeAt_of h2 rfl, hst.1, cs, rfl, h16, W1, W2, S', ht1, hlt, hr, hb2, p1.kept (by rw [hst.2.1]; exact hs2) (fun x hx => (hst.2.2.1 x (hnS' x hx)).trans (hb2.block x (p1.1 x hx))), fun x hx => ?_, ?_, hst.2.1, hst.2.2.1⟩
  · rcases p3 x hx with h | h
    · exact Or.inl h
    · exact Or.inr ⟨by omega, p1.1 x hx⟩
  · have hbs := hst.2.2.2 w.heap.size (Nat.le_refl _)
    refine ⟨hbs.os.trans (hb2.os.trans ht1.os), hbs.tape.trans (hb2.tape.trans ht1.tape), hbs.output.trans (hb2.output.trans ht1.output), by rw [hst.2.1]; omega, fun x hx hn => ?_⟩
    rw [hst.2.2.1 x (by omega), hb2.block x (by omega), ht1.block x hx hn]

attribute [local go_sem ↓] loadM wpLoadM storeM wpStoreM
attribute [local go_sem] putAt_ptr
set_option maxRecDepth 100000 in
set_option maxHeartbeats 1000000 in
theorem ntake_no (w : World) (S : Nat → Prop) (nb : Nat) (l : List PI) (k : Int) (h : PRowAt w S nb l) (hk : k < 0 ∨ (l.length : Int) ≤ k) :
    Calls Try.prog 14 #[.pointer (some ⟨nb, 0, none⟩), .int .i64 k] w fun e w' => e = .returned (.tuple #[.agg #[.int .i8 0, .int .i64 0, .int .i64 0, .int .i64 0, .int .i64 0, .int .i64 0, .int .i64 0, .int .i64 0, .int .i64 0, .int .i64 0, .int .i64 0, .slice none 0 0, .int .i64 0, .int .i64 0, .string ⟨#[]⟩, .slice none 0 0], .int .i64 4]) ∧ Below w.heap.size w w' := by
  have hl := fun W (hb : Below w.heap.size w W) => lacks_any W S nb l k (h.below hb)
  have e : lacksE l.length k = 4 := by unfold lacksE; rw [if_neg (by omega)]
  rw [e] at hl
  have HS := Lib.hid hl
  have hb0 : Below w.heap.size w (w.alloc (.cells #[.int .i8 0, .int .i64 0, .int .i64 0, .int .i64 0, .int .i64 0, .int .i64 0, .int .i64 0, .int .i64 0, .int .i64 0, .int .i64 0, .int .i64 0, .slice none 0 0, .int .i64 0, .int .i64 0, .string ⟨#[]⟩, .slice none 0 0] 40)) := (Below.refl _ _).alloc (Nat.le_refl _) _
  have hst := store_msg (cs := (#[.int .i8 0, .int .i64 0, .int .i64 0, .int .i64 0, .int .i64 0, .int .i64 0, .int .i64 0, .int .i64 0, .int .i64 0, .int .i64 0, .int .i64 0, .slice none 0 0, .int .i64 0, .int .i64 0, .string ⟨#[]⟩, .slice none 0 0] : Array Value).toList) (heap_alloc_new w (.cells #[.int .i8 0, .int .i64 0, .int .i64 0, .int .i64 0, .int .i64 0, .int .i64 0, .int .i64 0, .int .i64 0, .int .i64 0, .int .i64 0, .int .i64 0, .slice none 0 0, .int .i64 0, .int .i64 0, .string ⟨#[]⟩, .slice none 0 0] 40)) rfl rfl
  have HE := Lib.hid (And.intro hst.1 (hb0.trans (hst.2.2.2 _ (Nat.le_refl _))))
  have f1 : freeAt (w.alloc (.cells #[.int .i8 0, .int .i64 0, .int .i64 0, .int .i64 0, .int .i64 0, .int .i64 0, .int .i64 0, .int .i64 0, .int .i64 0, .int .i64 0, .int .i64 0, .slice none 0 0, .int .i64 0, .int .i64 0, .string ⟨#[]⟩, .slice none 0 0] 40)) (.pointer (some ⟨w.heap.size, 0, none⟩)) = true := freeAt_of (heap_alloc_new w _) rfl
  have f2 : isMsg (.agg #[.int .i8 0, .int .i64 0, .int .i64 0, .int .i64 0, .int .i64 0, .int .i64 0, .int .i64 0, .int .i64 0, .int .i64 0, .int .i64 0, .int .i64 0, .slice none 0 0, .int .i64 0, .int .i64 0, .string ⟨#[]⟩, .slice none 0 0]) = true := isMsg_agg (cs := (#[.int .i8 0, .int .i64 0, .int .i64 0, .int .i64 0, .int .i64 0, .int .i64 0, .int .i64 0, .int .i64 0, .int .i64 0, .int .i64 0, .int .i64 0, .slice none 0 0, .int .i64 0, .int .i64 0, .string ⟨#[]⟩, .slice none 0 0] : Array Value).toList) rfl (by simp [Value.oneCell'])
  have HB0 := Lib.hid hb0
  clear h hk hl e hst hb0
  go_enter Try.func14, Try.ntmps14
  go_wp2_with (go_at_call 34; refine (HS.out _ HB0.out).mono ?_; rintro e w' ⟨rfl, rfl⟩)
  have hE := HE.out
  generalize World.setCells _ _ _ _ = W5 at hE ⊢
  refine bodyPost_ret (results_cell_row2 rfl _ _ w.heap.size 40 _ (0, 0) _ rfl hE.1 Try.underlying40 rfl (by kernel_rfl)) rfl ?_
  exact ⟨rfl, hE.2⟩

set_option maxRecDepth 100000 in
set_option maxHeartbeats 1000000 in
theorem ntake_yes (R : World → World → List Value → Prop) (w : World) (S : Nat → Prop) (nb : Nat) (a r : List PI) (x : PI) (k : Nat) (h : PRowAt w S nb (a ++ x :: r)) (hk : k = a.length) (hlen : (a ++ x :: r).length ≤ 1000000)
    (hcopy : ∀ W, Touched w W S → w.heap.size ≤ W.heap.size → Calls Try.prog 33 #[.agg x.1.toArray] W (CopiedC R W)) :
    Calls Try.prog 14 #[.pointer (some ⟨nb, 0, none⟩), .int .i64 k] w (TakeC R w S nb (a ++ r)) := by
  have hl := fun W (hb : Below w.heap.size w W) => lacks_any W S nb (a ++ x :: r) k (h.below hb)
  have e : lacksE (a ++ x :: r).length k = 0 := by unfold lacksE; rw [if_pos]; rw [List.length_append, List.length_cons]; omega
  rw [e] at hl
  have HS := Lib.hid hl
  have hb0 : Below w.heap.size w (w.alloc (.cells #[.int .i8 0, .int .i64 0, .int .i64 0, .int .i64 0, .int .i64 0, .int .i64 0, .int .i64 0, .int .i64 0, .int .i64 0, .int .i64 0, .int .i64 0, .slice none 0 0, .int .i64 0, .int .i64 0, .string ⟨#[]⟩, .slice none 0 0] 40)) := (Below.refl _ _).alloc (Nat.le_refl _) _
  have htk := ptake_any (w.alloc (.cells #[.int .i8 0, .int .i64 0, .int .i64 0, .int .i64 0, .int .i64 0, .int .i64 0, .int .i64 0, .int .i64 0, .int .i64 0, .int .i64 0, .int .i64 0, .slice none 0 0, .int .i64 0, .int .i64 0, .string ⟨#[]⟩, .slice none 0 0] 40)) S nb a r x k (h.below hb0) hk hlen
  have hmid := fun W1 (e : Ending) (hp : PC (w.alloc (.cells #[.int .i8 0, .int .i64 0, .int .i64 0, .int .i64 0, .int .i64 0, .int .i64 0, .int .i64 0, .int .i64 0, .int .i64 0, .int .i64 0, .int .i64 0, .slice none 0 0, .int .i64 0, .int .i64 0, .string ⟨#[]⟩, .slice none 0 0] 40)) S nb (a ++ r) (.agg x.1.toArray) e W1) => hcopy W1 ((Below.touched hb0 S).trans hp.2.choose_spec.2.1 (fun k hk => Or.inl hk)) (by have h1 := hp.2.choose_spec.2.1.size; have h2 := hb0.size; omega)
  have hend := fun W1 W2 (e : Ending) (cs : List Value) (hp : PC (w.alloc (.cells #[.int .i8 0, .int .i64 0, .int .i64 0, .int .i64 0, .int .i64 0, .int .i64 0, .int .i64 0, .int .i64 0, .int .i64 0, .int .i64 0, .int .i64 0, .slice none 0 0, .int .i64 0, .int .i64 0, .string ⟨#[]⟩, .slice none 0 0] 40)) S nb (a ++ r) (.agg x.1.toArray) e W1) (h16 : cs.length = 16) hr hb2 => take_end (R := R) (w := w) (W2 := W2) h.1 hb0 (by simp) (heap_alloc_new w _) hp h16 hr hb2
  have HX := Lib.hid (And.intro htk (And.intro hmid hend))
  have HB0 := Lib.hid hb0
  clear h hk hl e hb0 htk hmid hend hlen hcopy
  go_enter Try.func14, Try.ntmps14
  go_wp2_with (first
    | (go_at_call 34; refine (HS.out _ HB0.out).mono ?_; rintro e w' ⟨rfl, rfl⟩)
    | (go_at_call 37; refine HX.out.1.mono ?_; rintro e W1 hp; obtain rfl := (hp.1))
    | (go_at_call 33; refine (HX.out.2.1 _ _ hp).mono ?_; rintro e W2 ⟨cs, rfl, h16, hone, hr, hb2⟩; obtain ⟨f1, z1, z2⟩ := HX.out.2.2 _ _ _ cs hp h16 hr hb2; have f2 := isMsg_agg h16 hone; have HZ := Lib.hid (And.intro z1 z2); clear z1 z2))
  have hE := HZ.out
  generalize World.setCells _ _ _ _ = W5 at hE ⊢
  refine bodyPost_ret (results_cell_row2 rfl _ _ w.heap.size 40 _ (0, 0) _ rfl hE.1 Try.underlying40 rfl (by rw [List.size_toArray, h16]; kernel_rfl)) rfl ?_
  exact hE.2

def LookC (R : World → World → List Value → Prop) (w : World) (p : PI) (e : Ending) (w' : World) : Prop :=
  ∃ cs : List Value, e = .returned (.tuple #[.agg cs.toArray, .bool p.2, .int .i64 0]) ∧ cs.length = 16 ∧ ∃ W1 W2, Below w.heap.size w W1 ∧ w.heap.size < W1.heap.size ∧ R W1 W2 cs ∧ Below W1.heap.size W1 W2 ∧ Below w.heap.size w w' ∧ w'.heap.size = W2.heap.size ∧ ∀ x, x ≠ w.heap.size → w'.heap[x]? = W2.heap[x]?
set_option maxRecDepth 100000 in
set_option maxHeartbeats 1000000 in
theorem nlook_no (w : World) (S : Nat → Prop) (nb : Nat) (l : List PI) (k : Int) (h : PRowAt w S nb l) (hk : k < 0 ∨ (l.length : Int) ≤ k) :
    Calls Try.prog 22 #[.pointer (some ⟨nb, 0, none⟩), .int .i64 k] w fun e w' => e = .returned (.tuple #[.agg #[.int .i8 0, .int .i64 0, .int .i64 0, .int .i64 0, .int .i64 0, .int .i64 0, .int .i64 0, .int .i64 0, .int .i64 0, .int .i64 0, .int .i64 0, .slice none 0 0, .int .i64 0, .int .i64 0, .string ⟨#[]⟩, .slice none 0 0], .bool false, .int .i64 4]) ∧ Below w.heap.size w w' := by
  have hl := fun W (hb : Below w.heap.size w W) => lacks_any W S nb l k (h.below hb)
  have e : lacksE l.length k = 4 := by unfold lacksE; rw [if_neg (by omega)]
  rw [e] at hl
  have HS := Lib.hid hl
  have hb0 : Below w.heap.size w (w.alloc (.cells #[.int .i8 0, .int .i64 0, .int .i64 0, .int .i64 0, .int .i64 0, .int .i64 0, .int .i64 0, .int .i64 0, .int .i64 0, .int .i64 0, .int .i64 0, .slice none 0 0, .int .i64 0, .int .i64 0, .string ⟨#[]⟩, .slice none 0 0] 40)) := (Below.refl _ _).alloc (Nat.le_refl _) _
  have hst := store_msg (cs := (#[.int .i8 0, .int .i64 0, .int .i64 0, .int .i64 0, .int .i64 0, .int .i64 0, .int .i64 0, .int .i64 0, .int .i64 0, .int .i64 0, .int .i64 0, .slice none 0 0, .int .i64 0, .int .i64 0, .string ⟨#[]⟩, .slice none 0 0] : Array Value).toList) (heap_alloc_new w (.cells #[.int .i8 0, .int .i64 0, .int .i64 0, .int .i64 0, .int .i64 0, .int .i64 0, .int .i64 0, .int .i64 0, .int .i64 0, .int .i64 0, .int .i64 0, .slice none 0 0, .int .i64 0, .int .i64 0, .string ⟨#[]⟩, .slice none 0 0] 40)) rfl rfl
  have HE := Lib.hid (And.intro hst.1 (hb0.trans (hst.2.2.2 _ (Nat.le_refl _))))
  have f1 : freeAt (w.alloc (.cells #[.int .i8 0, .int .i64 0, .int .i64 0, .int .i64 0, .int .i64 0, .int .i64 0, .int .i64 0, .int .i64 0, .int .i64 0, .int .i64 0, .int .i64 0, .slice none 0 0, .int .i64 0, .int .i64 0, .string ⟨#[]⟩, .slice none 0 0] 40)) (.pointer (some ⟨w.heap.size, 0, none⟩)) = true := freeAt_of (heap_alloc_new w _) rfl
  have f2 : isMsg (.agg #[.int .i8 0, .int .i64 0, .int .i64 0, .int .i64 0, .int .i64 0, .int .i64 0, .int .i64 0, .int .i64 0, .int .i64 0, .int .i64 0, .int .i64 0, .slice none 0 0, .int .i64 0, .int .i64 0, .string ⟨#[]⟩, .slice none 0 0]) = true := isMsg_agg (cs := (#[.int .i8 0, .int .i64 0, .int .i64 0, .int .i64 0, .int .i64 0, .int .i64 0, .int .i64 0, .int .i64 0, .int .i64 0, .int .i64 0, .int .i64 0, .slice none 0 0, .int .i64 0, .int .i64 0, .string ⟨#[]⟩, .slice none 0 0] : Array Value).toList) rfl (by simp [Value.oneCell'])
  have HB0 := Lib.hid hb0
  clear h hk hl e hst hb0
  go_enter Try.func22, Try.ntmps22
  go_wp2_with (go_at_call 34; refine (HS.out _ HB0.out).mono ?_; rintro e w' ⟨rfl, rfl⟩)
  have hE := HE.out
  generalize World.setCells _ _ _ _ = W5 at hE ⊢
  refine bodyPost_ret (results_cell_row3 rfl _ _ w.heap.size 40 _ (0, 0) _ rfl hE.1 Try.underlying40 rfl (by kernel_rfl)) rfl ?_
  exact ⟨rfl, hE.2⟩

theorem look_mid {w W0 w2 : World} {cs : List Value} (hb0 : Below w.heap.size w W0) (hs0 : W0.heap.size = w.heap.size + 1) (hz : W0.heap[w.heap.size]? = some (.cells #[.int .i8 0, .int .i64 0, .int .i64 0, .int .i64 0, .int .i64 0, .int .i64 0, .int .i64 0, .int .i64 0, .int .i64 0, .int .i64 0, .int .i64 0, .slice none 0 0, .int .i64 0, .int .i64 0, .string ⟨#[]⟩, .slice none 0 0] 40 (0, 0))) (hb2 : Below W0.heap.size W0 w2) (h16 : cs.length = 16) :
    freeAt w2 (.pointer (some ⟨w.heap.size, 0, none⟩)) = true ∧ (okAt (w2.setCells w.heap.size 0 cs) (.pointer (some ⟨w.heap.size, 0, none⟩)) = true ∧ cellsAt (w2.setCells w.heap.size 0 cs) (.pointer (some ⟨w.heap.size, 0, none⟩)) = cs.toArray) ∧
      (w2.setCells w.heap.size 0 cs).heap[w.heap.size]? = some (.cells cs.toArray 40 (0, 0)) ∧ Below w.heap.size w (w2.setCells w.heap.size 0 cs) := by
  have h2 : w2.heap[w.heap.size]? = some (.cells #[.int .i8 0, .int .i64 0, .int .i64 0, .int .i64 0, .int .i64 0, .int .i64 0, .int .i64 0, .int .i64 0, .int .i64 0, .int .i64 0, .int .i64 0, .slice none 0 0, .int .i64 0, .int .i64 0, .string ⟨#[]⟩, .slice none 0 0] 40 (0, 0)) := (hb2.block _ (by omega)).trans hz
  have hst := store_msg h2 rfl h16
  exact ⟨freeAt_of h2 rfl, msg_there hst.1 h16, hst.1, (hb0.trans (hb2.mono (by omega))).trans (hst.2.2.2 _ (Nat.le_refl _))⟩
theorem look_end {R : World → World → List Value → Prop} {w W1 W2 : World} {p : PI} {ds cs : List Value} (hb1 : Below w.heap.size w W1) (hz : W1.heap[w.heap.size]? = some (.cells ds.toArray 40 (0, 0))) (hd : ds.length = 16) (h16 : cs.length = 16) (hr : R W1 W2 cs) (hb2 : Below W1.heap.size W1 W2) :
    freeAt W2 (.pointer (some ⟨w.heap.size, 0, none⟩)) = true ∧ (W2.setCells w.heap.size 0 cs).heap[w.heap.size]? = some (.cells cs.toArray 40 (0, 0)) ∧ LookC R w p (.returned (.tuple #[.agg cs.toArray, .bool p.2, .int .i64 0])) (W2.setCells w.heap.size 0 cs) := by
  have hlt := lt_of_some hz
  have h2 : W2.heap[w.heap.size]? = some (.cells ds.toArray 40 (0, 0)) := (hb2.block _ hlt).trans hz
  have hst := store_msg h2 (by simpa using hd) h16
  exact ⟨freeAt_of h2 (by simpa using hd), hst.1, cs, rfl, h16, W1, W2, hb1, hlt, hr, hb2, (hb1.trans (hb2.mono hb1.size)).trans (hst.2.2.2 _ (Nat.le_refl _)), hst.2.1, hst.2.2.1⟩

set_option maxRecDepth 100000 in
set_option maxHeartbeats 1000000 in
theorem nlook_yes (R : World → World → List Value → Prop) (w : World) (S : Nat → Prop) (nb : Nat) (l : List PI) (k : Nat) (p : PI) (h : PRowAt w S nb l) (hk : l[k]? = some p) (hlen : l.length ≤ 1000000)
    (hcopy : ∀ W, Below w.heap.size w W → Calls Try.prog 33 #[.agg p.1.toArray] W (CopiedC R W)) :
    Calls Try.prog 22 #[.pointer (some ⟨nb, 0, none⟩), .int .i64 k] w (LookC R w p) := by
  have hl := fun W (hb : Below w.heap.size w W) => lacks_any W S nb l k (h.below hb)
  have hkl := (List.getElem?_eq_some_iff.1 hk).1
  have e : lacksE l.length k = 0 := by unfold lacksE; rw [if_pos]; omega
  rw [e] at hl
  have HS := Lib.hid hl
  have h16 := (h.2.2.1 p (List.mem_of_getElem? hk)).1
  have hone := (h.2.2.1 p (List.mem_of_getElem? hk)).2
  have f2 : isMsg (.agg p.1.toArray) = true := isMsg_agg h16 hone
  have hb0 : Below w.heap.size w (w.alloc (.cells #[.int .i8 0, .int .i64 0, .int .i64 0, .int .i64 0, .int .i64 0, .int .i64 0, .int .i64 0, .int .i64 0, .int .i64 0, .int .i64 0, .int .i64 0, .slice none 0 0, .int .i64 0, .int .i64 0, .string ⟨#[]⟩, .slice none 0 0] 40)) := (Below.refl _ _).alloc (Nat.le_refl _) _
  have hat := pat_any (w.alloc (.cells #[.int .i8 0, .int .i64 0, .int .i64 0, .int .i64 0, .int .i64 0, .int .i64 0, .int .i64 0, .int .i64 0, .int .i64 0, .int .i64 0, .int .i64 0, .slice none 0 0, .int .i64 0, .int .i64 0, .string ⟨#[]⟩, .slice none 0 0] 40)) S nb l k p (h.below hb0) hk hlen
  have hmid := fun w2 (hb2 : Below (w.alloc (.cells #[.int .i8 0, .int .i64 0, .int .i64 0, .int .i64 0, .int .i64 0, .int .i64 0, .int .i64 0, .int .i64 0, .int .i64 0, .int .i64 0, .int .i64 0, .slice none 0 0, .int .i64 0, .int .i64 0, .string ⟨#[]⟩, .slice none 0 0] 40)).heap.size (w.alloc (.cells #[.int .i8 0, .int .i64 0, .int .i64 0, .int .i64 0, .int .i64 0, .int .i64 0, .int .i64 0, .int .i64 0, .int .i64 0, .int .i64 0, .int .i64 0, .slice none 0 0, .int .i64 0, .int .i64 0, .string ⟨#[]⟩, .slice none 0 0] 40)) w2) => look_mid (cs := p.1) hb0 (by simp) (heap_alloc_new w _) hb2 h16
  have hend := fun W1 W2 (cs : List Value) hb1 hz h16' hr hb2 => look_end (R := R) (w := w) (W1 := W1) (W2 := W2) (p := p) (ds := p.1) (cs := cs) hb1 hz h16 h16' hr hb2
  have HX := Lib.hid (And.intro hat (And.intro hmid (And.intro hend hcopy)))
  have HB0 := Lib.hid hb0
  obtain ⟨pc, pm⟩ := p
  clear h hk hl e hb0 hat hmid hend hlen hcopy hkl h16 hone
  go_enter Try.func22, Try.ntmps22
  go_wp2_with (first
    | (go_at_call 34; refine (HS.out _ HB0.out).mono ?_; rintro e w' ⟨rfl, rfl⟩)
    | (go_at_call 44; refine HX.out.1.mono ?_; rintro e w2 ⟨rfl, hb2⟩; obtain ⟨f1, ⟨m1, m2⟩, z1, z2⟩ := HX.out.2.1 _ hb2; have HZ := Lib.hid (And.intro z1 z2); clear z1 z2 hb2; simp only [atV])
    | (go_at_call 33; refine (HX.out.2.2.2 _ HZ.out.2).mono ?_; rintro e W2 ⟨cs, rfl, h16, hone, hr, hb2⟩; obtain ⟨f3, y1, y2⟩ := HX.out.2.2.1 _ _ cs HZ.out.2 HZ.out.1 h16 hr hb2; have f4 := isMsg_agg h16 hone; have HY := Lib.hid (And.intro y1 y2); clear y1 y2 m1 m2 f1 f2))
  have hE := HY.out
  generalize World.setCells _ _ _ _ = W5 at hE ⊢
  refine bodyPost_ret (results_cell_row3 rfl _ _ w.heap.size 40 _ (0, 0) _ rfl hE.1 Try.underlying40 rfl (by rw [List.size_toArray, h16]; kernel_rfl)) rfl ?_
  exact hE.2

end Go.Proofs.Ytklpafognbodhaa
