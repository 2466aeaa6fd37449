/-
  The program's net: its call Double. No condition but that it lies where it is said to lie.
-/
import Derived.Test.YtklpafognbodhaaPTakeN
namespace Go.Proofs.Ytklpafognbodhaa
open Go.RowKit

set_option maxRecDepth 100000 in
set_option maxHeartbeats 1000000 in
theorem ndouble_none (w : World) (S : Nat → Prop) (nb : Nat) (l : List PI) (k : Int) (h : PRowAt w S nb l) (hk : k < 0 ∨ (l.length : Int) ≤ k) :
    Calls Try.prog 19 #[.pointer (some ⟨nb, 0, none⟩), .int .i64 k] w fun e w' => e = .returned (.int .i64 4) ∧ w = w' := by
  have hl := lacks_any w S nb l k h
  have e : lacksE l.length k = 4 := by unfold lacksE; rw [if_neg (by omega)]
  rw [e] at hl
  have HS := Lib.hid hl
  clear h hk hl e
  go_enter Try.func19, Try.ntmps19
  go_wp2_with (go_at_call 34; refine HS.out.mono ?_; rintro e w' ⟨rfl, rfl⟩)
  go_ret
  exact ⟨rfl, rfl⟩
set_option maxRecDepth 100000 in
set_option maxHeartbeats 1000000 in
theorem ndouble_full (w : World) (S : Nat → Prop) (nb : Nat) (l : List PI) (k : Nat) (h : PRowAt w S nb l) (hk : k < l.length) (hf : 1024 ≤ l.length) (hlen : l.length ≤ 1000000) :
    Calls Try.prog 19 #[.pointer (some ⟨nb, 0, none⟩), .int .i64 k] w fun e w' => e = .returned (.int .i64 20) ∧ w = w' := by
  have hl := lacks_any w S nb l k h
  have e : lacksE l.length k = 0 := by unfold lacksE; rw [if_pos (by omega)]
  rw [e] at hl
  have hz := psize_any w S nb l h
  obtain ⟨len, hln⟩ : ∃ len, len = l.length := ⟨_, rfl⟩
  rw [← hln] at hz hf hlen
  have HS := Lib.hid hl
  have HZ := Lib.hid hz
  have hf2 : (1024 : Int) ≤ (len : Int) := by omega
  clear h hk hl e hz hln hf
  go_enter Try.func19, Try.ntmps19
  go_wp2_with (first
    | (go_at_call 34; refine HS.out.mono ?_; rintro e w' ⟨rfl, rfl⟩)
    | (go_at_call 28; refine HZ.out.mono ?_; rintro e w' ⟨rfl, rfl⟩))
  go_ret
  exact ⟨rfl, rfl⟩

theorem dbl_mid {w w2 : World} {cs : List Value} (hb2 : Below w.heap.size w w2) (h16 : cs.length = 16) :
    freeAt (w2.alloc (.cells #[.int .i8 0, .int .i64 0, .int .i64 0, .int .i64 0, .int .i64 0, .int .i64 0, .int .i64 0, .int .i64 0, .int .i64 0, .int .i64 0, .int .i64 0, .slice none 0 0, .int .i64 0, .int .i64 0, .string ⟨#[]⟩, .slice none 0 0] 40)) (.pointer (some ⟨w2.heap.size, 0, none⟩)) = true ∧ (okAt ((w2.alloc (.cells #[.int .i8 0, .int .i64 0, .int .i64 0, .int .i64 0, .int .i64 0, .int .i64 0, .int .i64 0, .int .i64 0, .int .i64 0, .int .i64 0, .int .i64 0, .slice none 0 0, .int .i64 0, .int .i64 0, .string ⟨#[]⟩, .slice none 0 0] 40)).setCells w2.heap.size 0 cs) (.pointer (some ⟨w2.heap.size, 0, none⟩)) = true ∧ cellsAt ((w2.alloc (.cells #[.int .i8 0, .int .i64 0, .int .i64 0, .int .i64 0, .int .i64 0, .int .i64 0, .int .i64 0, .int .i64 0, .int .i64 0, .int .i64 0, .int .i64 0, .slice none 0 0, .int .i64 0, .int .i64 0, .string ⟨#[]⟩, .slice none 0 0] 40)).setCells w2.heap.size 0 cs) (.pointer (some ⟨w2.heap.size, 0, none⟩)) = cs.toArray) ∧
      Below w.heap.size w ((w2.alloc (.cells #[.int .i8 0, .int .i64 0, .int .i64 0, .int .i64 0, .int .i64 0, .int .i64 0, .int .i64 0, .int .i64 0, .int .i64 0, .int .i64 0, .int .i64 0, .slice none 0 0, .int .i64 0, .int .i64 0, .string ⟨#[]⟩, .slice none 0 0] 40)).setCells w2.heap.size 0 cs) := by
  have h2 := heap_alloc_new w2 (.cells #[.int .i8 0, .int .i64 0, .int .i64 0, .int .i64 0, .int .i64 0, .int .i64 0, .int .i64 0, .int .i64 0, .int .i64 0, .int .i64 0, .int .i64 0, .slice none 0 0, .int .i64 0, .int .i64 0, .string ⟨#[]⟩, .slice none 0 0] 40)
  have hst := store_msg h2 rfl h16
  exact ⟨freeAt_of h2 rfl, msg_there hst.1 h16, (hb2.alloc hb2.size _).trans (hst.2.2.2 _ hb2.size)⟩

attribute [local go_sem ↓] loadM wpLoadM storeM wpStoreM
attribute [local go_sem] putAt_ptr
set_option maxRecDepth 100000 in
set_option maxHeartbeats 2000000 in
theorem ndouble_yes (w : World) (S : Nat → Prop) (nb : Nat) (l : List PI) (k : Nat) (p : PI) (h : PRowAt w S nb l) (hk : l[k]? = some p) (hlen : l.length < 1024) :
    Calls Try.prog 19 #[.pointer (some ⟨nb, 0, none⟩), .int .i64 k] w (PC w S nb (l ++ [(p.1, false)]) (.int .i64 0)) := by
  have hl := lacks_any w S nb l k h
  have hkl := (List.getElem?_eq_some_iff.1 hk).1
  have e : lacksE l.length k = 0 := by unfold lacksE; rw [if_pos (by omega)]
  rw [e] at hl
  have hz := psize_any w S nb l h
  have h16 := (h.2.2.1 p (List.mem_of_getElem? hk)).1
  have hone := (h.2.2.1 p (List.mem_of_getElem? hk)).2
  have f2 : isMsg (.agg p.1.toArray) = true := isMsg_agg h16 hone
  have hat := pat_any w S nb l k p h hk (by omega)
  have hmid := fun w2 (hb2 : Below w.heap.size w w2) => dbl_mid (cs := p.1) hb2 h16
  have hadd := fun W3 (hb3 : Below w.heap.size w W3) => padd_list W3.drew S nb l p.1 h16 (h.below (below_drewN hb3 1)) (by omega) hone
  have hend : ∀ W3 W4, Below w.heap.size w W3 → PC W3.drew S nb (l ++ [(p.1, false)]) (.tuple #[]) (.returned (.tuple #[])) W4 → PC w S nb (l ++ [(p.1, false)]) (.int .i64 0) (.returned (.int .i64 0)) W4 := fun W3 W4 hb3 ⟨_, S', p1, p2, p3⟩ =>
    ⟨rfl, S', p1, (Below.touched (below_drewN hb3 1) S).trans p2 (fun x hx => Or.inl hx), fun x hx => (p3 x hx).imp id fun h => Nat.le_trans (below_drewN hb3 1).size h⟩
  have hS := h.1
  have hkeep : ∀ (W3 W4 : World) (B : Nat) (cs : List Value), Below w.heap.size w W3 → w.heap.size ≤ B → B < W3.heap.size → PC W3.drew S nb (l ++ [(p.1, false)]) (.tuple #[]) (.returned (.tuple #[])) W4 →
      (okAt W3 (.pointer (some ⟨B, 0, none⟩)) = true ∧ cellsAt W3 (.pointer (some ⟨B, 0, none⟩)) = cs.toArray) → okAt W4 (.pointer (some ⟨B, 0, none⟩)) = true ∧ cellsAt W4 (.pointer (some ⟨B, 0, none⟩)) = cs.toArray := fun W3 W4 B cs hb3 h1 h2 ⟨_, S', _, p2, _⟩ hm => by
    have := MsgThere.same (w' := W4) hm ((p2.block B h2 (fun hs => by have := hS B hs; omega)))
    exact ⟨this.1, this.2⟩
  obtain ⟨len, hln⟩ : ∃ len, len = l.length := ⟨_, rfl⟩
  rw [← hln] at hz hlen
  have HS := Lib.hid hl
  have HZ := Lib.hid hz
  have HX := Lib.hid (And.intro hat (And.intro hmid (And.intro hadd (And.intro hend hkeep))))
  have hf2 : ¬ (1024 : Int) ≤ (len : Int) := by omega
  obtain ⟨pc, pm⟩ := p
  clear h hk hl e hz hln hkl hat hmid hadd hend hkeep h16 hone hS
  go_enter Try.func19, Try.ntmps19
  go_wp2_with (first
    | (go_at_call 34; refine HS.out.mono ?_; rintro e w' ⟨rfl, rfl⟩)
    | (go_at_call 28; refine HZ.out.mono ?_; rintro e w' ⟨rfl, rfl⟩)
    | (go_at_call 44; refine HX.out.1.mono ?_; rintro e w2 ⟨rfl, hb2⟩; obtain ⟨f1, m, z2⟩ := HX.out.2.1 _ hb2; have HM := Lib.hid m; have HY := Lib.hid z2; have hw2 := Lib.hid hb2.size; clear z2 m hb2; simp only [atV]))
  obtain ⟨B, hB⟩ : ∃ B, B = w2.heap.size := ⟨_, rfl⟩
  have hsz : ((w2.alloc (.cells #[.int .i8 0, .int .i64 0, .int .i64 0, .int .i64 0, .int .i64 0, .int .i64 0, .int .i64 0, .int .i64 0, .int .i64 0, .int .i64 0, .int .i64 0, .slice none 0 0, .int .i64 0, .int .i64 0, .string ⟨#[]⟩, .slice none 0 0] 40)).setCells w2.heap.size 0 pc).heap.size = w2.heap.size + 1 := by rw [(setCells_frame (b := w2.heap.size) pc 0 _).1]; simp
  rw [← hB] at HM HY hsz hw2 ⊢
  clear f1 hB
  generalize World.setCells _ _ _ _ = W3 at HM HY hsz ⊢
  have HSZ := Lib.hid hsz
  clear hsz
  have m1 := HM.out.1
  have m2 := HM.out.2
  go_region_held3 (fun w' => okAt w' (.pointer (some ⟨B, 0, none⟩)) = true ∧ cellsAt w' (.pointer (some ⟨B, 0, none⟩)) = pc.toArray) (first | exact HM.out | exact HX.out.2.2.2.2 _ _ B pc HY.out hw2.out (by rw [HSZ.out]; omega) hp HM.out) (first
    | (go_at_call 32; refine (HX.out.2.2.1 _ HY.out).mono ?_; rintro e W4 hp; obtain rfl := (hp.1)))
  go_wp2_with fail
  go_ret
  exact HX.out.2.2.2.1 _ _ HY.out hp

end Go.Proofs.Ytklpafognbodhaa
