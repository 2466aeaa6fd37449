/-
  What slices.Clone answers of bytes, and what is put behind a clone: numbers and texts. A reader of bytes is one of their clone. No condition but that there are not too many of them.
-/
import Derived.Test.YtljlijdgocfofaaCPut
namespace Go.Proofs.Ytljlijdgocfofaa
open Go.RowKit
open Extern.Stop (cell)

/-- The bytes that a slice tells. -/
def ByAt (w : World) (a : Option Addr) (bs : List UInt8) : Prop := (a = none → bs = []) ∧ ∀ ad, a = some ad → ∀ j u, bs[j]? = some u → w.cell? (ad.add j) = some (cell u)
def CloneB (w : World) (bs : List UInt8) (e : Ending) (w' : World) : Prop := ∃ v', e = .returned v' ∧ Below w.heap.size w w' ∧ w'.ownsRow w.heap.size 5 1 v' bs.length (bs.map cell)

theorem Try.noneBytes (w : World) (a : Option Addr) (n c : Nat) : (binOp .eql 22 (.slice a n c) (.slice none 0 0)).run Try.prog w = .ok (.bool a.isNone) w := Lib.run_eql_slice_nil w _ _ a n c 0 0 Try.underlying22
set_option maxRecDepth 100000 in
set_option maxHeartbeats 1000000 in
theorem clone_bytes (w : World) (a : Option Addr) (cap : Nat) (bs : List UInt8) (h : ByAt w a bs) (hn : bs.length ≤ 1000000000000) :
    Calls Try.prog 37 #[.slice a bs.length cap] w (CloneB w bs) := by
  have hq := Try.noneBytes
  cases a with
  | none =>
    have hb := h.1 rfl
    subst hb
    clear h hn
    go_enter Try.func37, Try.ntmps37
    go_wp2_with fail
    go_ret
    exact ⟨_, rfl, Below.refl _ _, World.ownsRow_nil _ _ _ _⟩
  | some ad =>
    have hc1 : ∀ (j : Nat) (u : Value), (bs.map cell)[j]? = some u → (w.alloc (.cells #[] 5)).cell? (ad.add j) = some u := fun j u hj => by
      rw [List.getElem?_map, Option.map_eq_some_iff] at hj
      obtain ⟨x, hx, rfl⟩ := hj
      exact Lib.cell?_alloc_some _ (h.2 ad rfl j x hx)
    have hc2 : ∀ u ∈ bs.map cell, u.oneCell' = true := fun u hu => by
      obtain ⟨x, _, rfl⟩ := List.mem_map.1 hu
      rfl
    have HC := Lib.hid (And.intro hc1 hc2)
    clear hc1 hc2
    obtain ⟨i0, hi, hz, hs, hby⟩ := info_u Try.infoU
    have HI := Lib.hid (And.intro hi (And.intro hz (And.intro hs hby)))
    obtain ⟨n, hnn⟩ : ∃ n, n = bs.length := ⟨_, rfl⟩
    have HN := Lib.hid (And.intro hnn hn)
    rw [← hnn]
    clear h hn hi hz hs hby hnn
    go_enter Try.func37, Try.ntmps37
    go_wp2_with (at_builtin; refine wpList_append_own_at _ rfl (.tmp 5) (.tmp 6) _ rfl w.heap.size 5 i0 (.int .u8 0) 1 1 Try.underlying22 HI.out.1 HI.out.2.1 HI.out.2.2.1 HI.out.2.2.2 rfl (by omega) (.slice (some ⟨w.heap.size, 0, none⟩) 0 0) 0 [] rfl (World.ownsRow_made w #[] 0 (Nat.le_refl _) (by unfold maxLen; omega) rfl) ad n cap (bs.map cell) rfl (by rw [HN.out.1]; simp) HC.out.1 HC.out.2 (by have := HN.out; unfold maxLen; omega) (by have := HN.out; omega) (by simp) ?_; intro v' w1 hown hgrow _ hat)
    go_ret
    have hs := hgrow.size
    rw [World.size_alloc] at hs
    refine ⟨_, rfl, ⟨hgrow.os, hgrow.tape, hgrow.output, by omega, fun x hx => by
      rw [hgrow.block x (by rw [World.size_alloc]; omega) (by simp [Value.ownBlock]; omega), Below.heap_alloc _ _ _ hx]⟩, ?_⟩
    rw [Nat.zero_add, List.nil_append] at hown
    rw [← HN.out.1]; exact hown

theorem OwnB.of {w w' : World} {v : Value} {bs : List UInt8} (hb : Below w.heap.size w w') (h : w'.ownsRow w.heap.size 5 1 v bs.length (bs.map cell)) : OwnB w.heap.size v bs w w' := ⟨⟨World.ownsRowF_of h, hb, hb.size⟩, StaysU.below hb⟩

set_option maxRecDepth 100000 in
theorem putText_any (w : World) (a : Option Addr) (cap : Nat) (bs : List UInt8) (h : ByAt w a bs) (hn : bs.length ≤ 1000000000000) (s : ByteArray) (hs : s.size ≤ 1000000000000) :
    Calls Try.prog 11 #[.slice a bs.length cap, .string s] w (PutC w.heap.size (bs ++ (num8 (s.size : Int) ++ s.data.toList)) w) := by
  have HC := Lib.hid (clone_bytes w a cap bs h hn)
  have HT := Lib.hid (fun w1 v (h1 : OwnB w.heap.size v bs w w1) => addText_any w1 w w.heap.size v bs s h1 hn hs)
  clear h hn hs
  go_enter Try.func11, Try.ntmps11
  go_wp2_with (first
    | (go_at_call 37; refine HC.out.mono ?_; clear HC; rintro e w1 ⟨v1, rfl, h1, h2⟩; have H1 := Lib.hid (HT.out _ _ (OwnB.of h1 h2)); clear h1 h2)
    | (go_at_call 38; refine H1.out.mono ?_; clear H1; rintro e w2 ⟨v2, rfl, h1⟩; have H2 := Lib.hid h1; clear h1))
  go_ret
  exact ⟨_, rfl, H2.out⟩
set_option maxRecDepth 100000 in
theorem putNumber_any (w : World) (a : Option Addr) (cap : Nat) (bs : List UInt8) (h : ByAt w a bs) (hn : bs.length ≤ 1000000000000) (n : Int) :
    Calls Try.prog 9 #[.slice a bs.length cap, .int .i64 n] w (PutC w.heap.size (bs ++ num8 n) w) := by
  have HC := Lib.hid (clone_bytes w a cap bs h hn)
  have HT := Lib.hid (fun w1 v (h1 : OwnB w.heap.size v bs w w1) => addNumber_any w1 w w.heap.size v bs n h1 hn)
  clear h hn
  go_enter Try.func9, Try.ntmps9
  go_wp2_with (first
    | (go_at_call 37; refine HC.out.mono ?_; clear HC; rintro e w1 ⟨v1, rfl, h1, h2⟩; have H1 := Lib.hid (HT.out _ _ (OwnB.of h1 h2)); clear h1 h2)
    | (go_at_call 36; refine H1.out.mono ?_; clear H1; rintro e w2 ⟨v2, rfl, h1⟩; have H2 := Lib.hid h1; clear h1))
  go_ret
  exact ⟨_, rfl, H2.out⟩

theorem owns_sl {w : World} {B : Nat} {e : TypeId} {size : Nat} {v : Value} {n : Nat} {xs : List Value} (h : w.ownsRow B e size v n xs) : ∃ a c, v = .slice a n c := by
  rcases h.2 with ⟨h, h'⟩ | ⟨g', cap', cur, hv, _, hh, _⟩
  · exact ⟨none, 0, by rw [h, h']⟩
  · exact ⟨_, _, hv⟩
/-- A new reader. -/
def NewC (w : World) (bs : List UInt8) (e : Ending) (w' : World) : Prop := ∃ b dv, e = .returned (.pointer (some ⟨b, 0, none⟩)) ∧ w.heap.size ≤ b ∧ (∀ g, dv.ownBlock = some g → w.heap.size ≤ g) ∧ RdAt w' b dv ⟨bs, 0, false⟩ ∧ Below w.heap.size w w'
theorem owns_base {w : World} {B B' : Nat} {e : TypeId} {size : Nat} {v : Value} {n : Nat} {xs : List Value} (h : w.ownsRow B e size v n xs) (hB : B' ≤ B) : w.ownsRow B' e size v n xs := by
  obtain ⟨h1, h2⟩ := h
  refine ⟨h1, ?_⟩
  rcases h2 with h2 | ⟨g, cap, cur, hv, hg, r⟩
  · exact Or.inl h2
  · exact Or.inr ⟨g, cap, cur, hv, Nat.le_trans hB hg, r⟩
theorem newRd_any (w : World) (a : Option Addr) (cap : Nat) (bs : List UInt8) (h : ByAt w a bs) (hn : bs.length ≤ 100000000) :
    Calls Try.prog 17 #[.slice a bs.length cap] w (NewC w bs) := by
  have HC := Lib.hid (clone_bytes w a cap bs h (by omega))
  have HN := Lib.hid hn
  clear h hn
  go_enter Try.func17, Try.ntmps17
  go_wp2_with (go_at_call 37; refine HC.out.mono ?_; clear HC; rintro e w1 ⟨v1, rfl, h1, h2⟩; obtain ⟨a1, c1, rfl⟩ := owns_sl h2; have H1 := Lib.hid (And.intro h1 h2); clear h1 h2)
  go_ret
  have hb := H1.out.1
  have ho := H1.out.2
  have hs := hb.size
  refine ⟨w1.heap.size, _, rfl, hs, fun g hg => ?_, ⟨heap_alloc_new _ _, ?_, fun e => ?_, Nat.zero_le _, HN.out⟩, hb.alloc hs _⟩
  · rcases ho.2 with ⟨h, _⟩ | ⟨g', cap', cur, hv, h3, _⟩
    · rw [h] at hg; cases hg
    · rw [hv] at hg; cases hg; exact h3
  · exact owns_base (owns_keep ho (fun g hg => Below.heap_alloc _ _ _ (owns_lt ho g hg))) (Nat.zero_le _)
  · exact absurd (owns_lt ho _ e) (Nat.lt_irrefl _)
end Go.Proofs.Ytljlijdgocfofaa
