/-
  slices.Clone of a row of nodes: the same cells in new memory. No condition.
-/
import Derived.Test.YtpbjncljecfaeaaERangeQa
import Derived.Lib.SliceRun
namespace Go.Proofs.Ytpbjncljecfaeaa
open Go.RowKit
set_option linter.unusedVariables false

theorem Try.infoN : (Try.prog.info? 25).map (fun i => (i.size, i.bytes, i.zero.map (fun z => z.cells.size))) = some (4, 56, some 4) := by kernel_rfl
def CloneC (w : World) (t : TypeId) (size n : Nat) (xs : List Value) (e : Ending) (w' : World) : Prop := ∃ v', e = .returned v' ∧ Below w.heap.size w w' ∧ w'.ownsRow w.heap.size t size v' n xs
theorem Try.noneNodes (w : World) (a : Option Addr) (n c : Nat) : (binOp .eql 23 (.slice a n c) (.slice none 0 0)).run Try.prog w = .ok (.bool a.isNone) w := Lib.run_eql_slice_nil w _ _ a n c 0 0 Try.underlying23
set_option maxRecDepth 100000 in
set_option maxHeartbeats 1000000 in
theorem clone_Nodes (w : World) (a : Option Addr) (n cap : Nat) (xs : List Value) (hl : xs.length = n * 4) (h1 : ∀ u ∈ xs, u.oneCell' = true) (hn : n ≤ 1000000) (hc : ∀ ad, a = some ad → ∀ j u, xs[j]? = some u → w.cell? (ad.add j) = some u) (h0 : a = none → n = 0) :
    Calls Try.prog 45 #[.slice a n cap] w (CloneC w 25 4 n xs) := by
  have hq := Try.noneNodes
  cases a with
  | none =>
    have hn0 := h0 rfl
    subst hn0
    have hx : xs = [] := List.eq_nil_of_length_eq_zero (by simpa using hl)
    subst hx
    clear hl h1 hn hc h0
    go_enter Try.func45, Try.ntmps45
    go_wp2_with fail
    go_ret
    exact ⟨_, rfl, Below.refl _ _, World.ownsRow_nil _ _ _ _⟩
  | some ad =>
    have HC := Lib.hid (And.intro hl (And.intro h1 (hc ad rfl)))
    obtain ⟨i0, z0, hi0, hz0, hz1, hz2, hz3⟩ := info_wide Try.infoN
    have HI := Lib.hid (And.intro hi0 (And.intro hz0 (And.intro hz1 (And.intro hz2 hz3))))
    clear hl h1 hc h0 hi0 hz0 hz1 hz2 hz3
    go_enter Try.func45, Try.ntmps45
    go_wp2_with (at_builtin; refine wpList_append_own_at _ rfl (.tmp 5) (.tmp 6) _ rfl w.heap.size 25 i0 z0 4 56 Try.underlying23 HI.out.1 HI.out.2.1 HI.out.2.2.1 HI.out.2.2.2.1 HI.out.2.2.2.2 (by omega) (.slice (some ⟨w.heap.size, 0, none⟩) 0 0) 0 [] rfl (World.ownsRow_made w #[] 0 (Nat.le_refl _) (by unfold maxLen; omega) rfl) ad n cap xs rfl HC.out.1 (fun j u hj => Lib.cell?_alloc_some _ (HC.out.2.2 j u hj)) HC.out.2.1 (by unfold maxLen; omega) (by omega) (by simp) ?_; intro v' w1 hown hgrow _ hat)
    go_ret
    have hs := hgrow.size
    rw [World.size_alloc] at hs
    exact ⟨_, rfl, ⟨hgrow.os, hgrow.tape, hgrow.output, by omega, fun x hx => by
      rw [hgrow.block x (by rw [World.size_alloc]; omega) (by simp [Value.ownBlock]; omega), Below.heap_alloc _ _ _ hx]⟩, by rw [Nat.zero_add, List.nil_append] at hown; exact hown⟩

end Go.Proofs.Ytpbjncljecfaeaa
