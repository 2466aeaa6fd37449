/-
  The program's net: its call Send, over whatever 'copied' is good for. No condition but that it lies where it is said to lie.
-/
import Derived.Test.YtklpafognbodhaaPAdd
import Derived.Test.YtklpafognbodhaaPTake
import Derived.Test.YtklpafognbodhaaPNet1
namespace Go.Proofs.Ytklpafognbodhaa
open Go.RowKit

/-- A copy was answered, of which R holds. -/
def CopiedC (R : World → World → List Value → Prop) (W : World) (e : Ending) (w' : World) : Prop := ∃ cs : List Value, e = .returned (.agg cs.toArray) ∧ cs.length = 16 ∧ (∀ u ∈ cs, u.oneCell' = true) ∧ R W w' cs ∧ Below W.heap.size W w'
def SendC (R : World → World → List Value → Prop) (w : World) (S : Nat → Prop) (nb : Nat) (l : List PI) (e : Ending) (w' : World) : Prop :=
  e = .returned (.int .i64 0) ∧ ∃ W1 W2 cs S', Below w.heap.size w W1 ∧ R W1 W2 cs ∧ Below W1.heap.size W1 W2 ∧ PRowAt w' S' nb (l ++ [(cs, false)]) ∧ Touched W2 w' S ∧ ∀ x, S' x → S x ∨ W2.heap.size ≤ x
theorem padd_list (w : World) (S : Nat → Prop) (nb : Nat) (l : List PI) (cs : List Value) (h16 : cs.length = 16) (h : PRowAt w S nb l) (hlen : l.length < 1000000) (hone : ∀ u ∈ cs, u.oneCell' = true) :
    Calls Try.prog 32 #[.pointer (some ⟨nb, 0, none⟩), .agg cs.toArray] w (PC w S nb (l ++ [(cs, false)]) (.tuple #[])) := by
  match cs, h16 with
  | [c0, c1, c2, c3, c4, c5, c6, c7, c8, c9, c10, c11, c12, c13, c14, c15], _ => exact padd_any w S nb l c0 c1 c2 c3 c4 c5 c6 c7 c8 c9 c10 c11 c12 c13 c14 c15 h hlen hone

def addrOk (n : Int) : Bool := decide (0 ≤ n ∧ n ≤ 8)
set_option maxRecDepth 100000 in
set_option maxHeartbeats 1000000 in
theorem psend_no (w : World) (S : Nat → Prop) (nb : Nat) (l : List PI) (f t : Int) (c0 c3 c4 c5 c6 c7 c8 c9 c10 c11 c12 c13 c14 c15 : Value) (h : PRowAt w S nb l) (hno : (addrOk f && addrOk t) = false ∨ 1024 ≤ l.length) (hlen : l.length ≤ 1000000) :
    Calls Try.prog 11 #[.pointer (some ⟨nb, 0, none⟩), .agg #[c0, .int .i64 f, .int .i64 t, c3, c4, c5, c6, c7, c8, c9, c10, c11, c12, c13, c14, c15]] w fun e w' => e = .returned (.int .i64 (if addrOk f && addrOk t then 20 else 2)) ∧ Below w.heap.size w w' := by
  have hb : Below w.heap.size w (w.alloc (.cells #[c0, .int .i64 f, .int .i64 t, c3, c4, c5, c6, c7, c8, c9, c10, c11, c12, c13, c14, c15] 40)) := (Below.refl _ _).alloc (Nat.le_refl _) _
  have hsz := fun W (hbW : Below w.heap.size w W) => psize_any W S nb l (h.below hbW)
  obtain ⟨len, hl⟩ : ∃ len, len = l.length := ⟨_, rfl⟩
  rw [← hl] at hno hlen hsz
  have a1 := fun W => isAddress_any W f _ rfl
  have a2 := fun W => isAddress_any W t _ rfl
  obtain ⟨b1, hb1⟩ : ∃ b, b = addrOk f := ⟨_, rfl⟩
  obtain ⟨b2, hb2⟩ : ∃ b, b = addrOk t := ⟨_, rfl⟩
  have e1 : decide (0 ≤ f ∧ f ≤ 8) = b1 := hb1.symm
  have e2 : decide (0 ≤ t ∧ t ≤ 8) = b2 := hb2.symm
  rw [e1] at a1
  rw [e2] at a2
  rw [← hb1, ← hb2] at hno
  rw [← hb1, ← hb2]
  have A1 := Lib.hid a1
  have A2 := Lib.hid a2
  have HB := Lib.hid hb
  have HS := Lib.hid hsz
  clear h hb hsz hl a1 a2 hb1 hb2 e1 e2
  cases b1
  · clear hno
    go_enter Try.func11, Try.ntmps11
    go_wp2_with (go_at_call 31; refine (A1.out _).mono ?_; rintro e w' ⟨rfl, rfl⟩)
    go_ret
    exact ⟨rfl, HB.out⟩
  · cases b2
    · clear hno
      go_enter Try.func11, Try.ntmps11
      go_wp2_with (first | (go_at_call 31; refine (A1.out _).mono ?_; clear A1; rintro e w' ⟨rfl, rfl⟩) | (go_at_call 31; refine (A2.out _).mono ?_; rintro e w' ⟨rfl, rfl⟩))
      go_ret
      exact ⟨rfl, HB.out⟩
    · have hfull : 1024 ≤ len := by simpa using hno
      have hfull2 : (1024 : Int) ≤ (len : Int) := by omega
      clear hno
      go_enter Try.func11, Try.ntmps11
      go_wp2_with (first | (go_at_call 31; refine (A1.out _).mono ?_; clear A1; rintro e w' ⟨rfl, rfl⟩) | (go_at_call 31; refine (A2.out _).mono ?_; clear A2; rintro e w' ⟨rfl, rfl⟩) | (go_at_call 28; refine (HS.out _ HB.out).mono ?_; rintro e w' ⟨rfl, rfl⟩))
      go_ret
      exact ⟨rfl, HB.out⟩

attribute [local go_sem ↓] loadM wpLoadM storeM wpStoreM
attribute [local go_sem] putAt_ptr
set_option maxRecDepth 100000 in
set_option maxHeartbeats 2000000 in
theorem psend_yes (R : World → World → List Value → Prop) (w : World) (S : Nat → Prop) (nb : Nat) (l : List PI) (f t : Int) (c0 c3 c4 c5 c6 c7 c8 c9 c10 c11 c12 c13 c14 c15 : Value) (h : PRowAt w S nb l) (hf : addrOk f = true) (ht : addrOk t = true) (hlen : l.length < 1024)
    (hcopy : ∀ W, Below w.heap.size w W → Calls Try.prog 33 #[.agg #[c0, .int .i64 f, .int .i64 t, c3, c4, c5, c6, c7, c8, c9, c10, c11, c12, c13, c14, c15]] W (CopiedC R W)) :
    Calls Try.prog 11 #[.pointer (some ⟨nb, 0, none⟩), .agg #[c0, .int .i64 f, .int .i64 t, c3, c4, c5, c6, c7, c8, c9, c10, c11, c12, c13, c14, c15]] w (SendC R w S nb l) := by
  obtain ⟨W, hW⟩ : ∃ W, W = w.alloc (.cells #[c0, .int .i64 f, .int .i64 t, c3, c4, c5, c6, c7, c8, c9, c10, c11, c12, c13, c14, c15] 40) := ⟨_, rfl⟩
  have hb : Below w.heap.size w W := by rw [hW]; exact (Below.refl _ _).alloc (Nat.le_refl _) _
  have hnW : W.heap[w.heap.size]? = some (.cells #[c0, .int .i64 f, .int .i64 t, c3, c4, c5, c6, c7, c8, c9, c10, c11, c12, c13, c14, c15] 40 (0, 0)) := by rw [hW]; exact heap_alloc_new w _
  have hlt := lt_of_some hnW
  have hmt := there_msg hnW (o := 0) (cs := [c0, .int .i64 f, .int .i64 t, c3, c4, c5, c6, c7, c8, c9, c10, c11, c12, c13, c14, c15]) rfl (fun j u hj => by rw [Nat.zero_add]; simpa using hj)
  have hS := h.1
  have hsz := psize_any W S nb l (h.below hb)
  have hadd := fun W2 (hb2 : Below w.heap.size w W2) cs h16 hone => padd_list W2 S nb l cs h16 (h.below hb2) (by omega) hone
  obtain ⟨len, hl⟩ : ∃ len, len = l.length := ⟨_, rfl⟩
  rw [← hl] at hlen hsz
  have A1 := Lib.hid (fun W => isAddress_any W f true hf)
  have A2 := Lib.hid (fun W => isAddress_any W t true ht)
  obtain ⟨B, hB⟩ : ∃ B, B = w.heap.size := ⟨_, rfl⟩
  have hbd : Below w.heap.size w W.drew := below_drewN hb 1
  rw [← hB] at hmt hlt
  have HM : Hid (okAt W (.pointer (some ⟨B, 0, none⟩)) = true ∧ cellsAt W (.pointer (some ⟨B, 0, none⟩)) = #[c0, .int .i64 f, .int .i64 t, c3, c4, c5, c6, c7, c8, c9, c10, c11, c12, c13, c14, c15]) := Lib.hid ⟨hmt.1, hmt.2⟩
  have hM2 : ∀ W2 : World, Below W.heap.size W.drew W2 → okAt W2 (.pointer (some ⟨B, 0, none⟩)) = true ∧ cellsAt W2 (.pointer (some ⟨B, 0, none⟩)) = #[c0, .int .i64 f, .int .i64 t, c3, c4, c5, c6, c7, c8, c9, c10, c11, c12, c13, c14, c15] := fun W2 hb2 => by
    have := hmt.same (w' := W2) (hb2.block B hlt)
    exact ⟨this.1, this.2⟩
  have hM3 : ∀ W2 W3 : World, Below W.heap.size W.drew W2 → Touched W2 W3 S → okAt W3 (.pointer (some ⟨B, 0, none⟩)) = true ∧ cellsAt W3 (.pointer (some ⟨B, 0, none⟩)) = #[c0, .int .i64 f, .int .i64 t, c3, c4, c5, c6, c7, c8, c9, c10, c11, c12, c13, c14, c15] := fun W2 W3 hb2 ht3 => by
    have hs2 : W.drew.heap.size ≤ W2.heap.size := hb2.size
    have e2 : W.drew.heap.size = W.heap.size := rfl
    have := hmt.same (w' := W3) ((ht3.block B (by omega) (fun hs => by have := hS B hs; omega)).trans (hb2.block B hlt))
    exact ⟨this.1, this.2⟩
  have hend : ∀ W2 W3 cs, R W.drew W2 cs → Below W.heap.size W.drew W2 → PC W2 S nb (l ++ [(cs, false)]) (.tuple #[]) (.returned (.tuple #[])) W3 → SendC R w S nb l (.returned (.int .i64 0)) W3 := fun W2 W3 cs hr hb2 ⟨_, S', p1, p2, p3⟩ => ⟨rfl, W.drew, W2, cs, S', hbd, hr, hb2, p1, p2, p3⟩
  have hbt : ∀ W2 : World, Below W.heap.size W.drew W2 → Below w.heap.size w W2 := fun W2 hb2 => hbd.trans (hb2.mono hb.size)
  have HC := Lib.hid (hcopy W.drew hbd)
  have HX := Lib.hid (And.intro hsz (And.intro hadd (And.intro hM2 (And.intro hM3 (And.intro hend hbt)))))
  have HW := Lib.hid hW
  have HB := Lib.hid hB
  have hfull2 : ¬ (1024 : Int) ≤ (len : Int) := by omega
  clear h hb hnW hlt hmt hS hsz hadd hl hf ht hbd hM2 hM3 hend hbt hcopy hW hB
  go_enter Try.func11, Try.ntmps11
  go_wp2_with (first | (go_at_call 31; refine (A1.out _).mono ?_; clear A1; rintro e w' ⟨rfl, rfl⟩) | (go_at_call 31; refine (A2.out _).mono ?_; clear A2; rintro e w' ⟨rfl, rfl⟩) | (rw [← HW.out]; go_at_call 28; refine HX.out.1.mono ?_; rintro e w' ⟨rfl, rfl⟩))
  rw [← HB.out]
  go_region_held3 (fun w' => okAt w' (.pointer (some ⟨B, 0, none⟩)) = true ∧ cellsAt w' (.pointer (some ⟨B, 0, none⟩)) = #[c0, .int .i64 f, .int .i64 t, c3, c4, c5, c6, c7, c8, c9, c10, c11, c12, c13, c14, c15]) (first | exact HM.out | exact HX.out.2.2.1 _ hb2 | exact HX.out.2.2.2.1 _ _ hb2 hp.2.choose_spec.2.1) (first
    | (go_at_call 33; refine HC.out.mono ?_; rintro e W2 ⟨cs, rfl, h16, hone, hr, hb2⟩)
    | (go_at_call 32; refine (HX.out.2.1 _ (HX.out.2.2.2.2.2 _ hb2) cs h16 hone).mono ?_; rintro e W3 hp; obtain rfl := hp.1))
  go_wp2_with fail
  go_ret
  exact HX.out.2.2.2.2.1 _ _ cs hr hb2 hp

end Go.Proofs.Ytklpafognbodhaa
