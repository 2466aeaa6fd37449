/-
  What All answers: a function that bears a copy of the row, as it is now. No condition but that the net lies where it is said to lie.
-/
import Derived.Test.YtklpafognbodhaaClone
import Derived.Test.YtklpafognbodhaaPClear
namespace Go.Proofs.Ytklpafognbodhaa
open Go.RowKit

theorem clone_row (w : World) (S : Nat → Prop) (nb : Nat) (l : List PI) (h : PRowAt w S nb l) (hlen : l.length ≤ 1000000) : ∃ a cap, w.cell? ⟨nb, 0, none⟩ = some (.slice a l.length cap) ∧ Calls Try.prog 59 #[.slice a l.length cap] w (CloneC w 85 17 l.length (pcells l)) := by
  obtain ⟨h0, h1, hg, v, h2, h3, h4⟩ := h
  obtain ⟨a, cap, rfl⟩ := owns_slice h3
  refine ⟨a, cap, by rw [cell_of_row w _ 0 _ _ _ h2]; rfl, clone_Marked w a l.length cap (pcells l) (pcells_length hg) (pcells_one hg) hlen (fun ad e j u hj => ?_) (fun e => ?_)⟩
  · subst e
    rcases h3.2 with ⟨hv, _⟩ | ⟨g', cap', cur, hv, _, hh, _⟩
    · cases hv
    · simp only [Value.slice.injEq, Option.some.injEq] at hv
      obtain ⟨rfl, _, _⟩ := hv
      have := owns_cell h3 rfl j u hj
      by_cases hj0 : j = 0
      · subst hj0; simpa [Addr.add] using this
      · simpa [Addr.add, hj0] using this
  · subst e
    rcases h3.2 with ⟨hv, hn⟩ | ⟨g', cap', cur, hv, _, hh, _⟩
    · simp only [Value.slice.injEq] at hv; exact hv.2.1
    · cases hv

/-- In cell C lies a copy of the row. -/
def RowCell (n₀ : Nat) (w : World) (C : Nat) (l : List PI) : Prop := n₀ ≤ C ∧ ∃ v, w.cell? ⟨C, 0, none⟩ = some v ∧ w.ownsRow n₀ 85 17 v l.length (pcells l)
def RowAllC (w : World) (l : List PI) (e : Ending) (w' : World) : Prop := ∃ C, e = .returned (.func (.func 60) #[] #[.pointer (some ⟨C, 0, none⟩)]) ∧ RowCell w.heap.size w' C l ∧ Below w.heap.size w w'
set_option maxRecDepth 100000 in
set_option maxHeartbeats 1000000 in
theorem rowall_any (w : World) (S : Nat → Prop) (nb : Nat) (l : List PI) (h : PRowAt w S nb l) (hlen : l.length ≤ 1000000) : Calls Try.prog 47 #[.pointer (some ⟨nb, 0, none⟩)] w (RowAllC w l) := by
  obtain ⟨a, cap, c0, hcl⟩ := clone_row w S nb l h hlen
  have hmf : ∀ (fn : Fn) (first cap : Array Value) (w : World), (Instr.makeFunc fn first cap).run Try.prog w = .ok (.func fn first cap) w := fun _ _ _ _ => rfl
  obtain ⟨xs, hxs⟩ : ∃ xs, xs = pcells l := ⟨_, rfl⟩
  have hend : ∀ (w1 : World) (v : Value) (t : TypeId), Below w.heap.size w w1 → w1.ownsRow w.heap.size 85 17 v l.length xs → RowAllC w l (.returned (.func (.func 60) #[] #[.pointer (some ⟨w1.heap.size, 0, none⟩)])) (w1.alloc (.cells #[v] t)) := fun w1 v t hb ho => by
    rw [hxs] at ho
    exact ⟨_, rfl, ⟨hb.size, v, by rw [cell_of_row _ _ 0 _ _ _ (heap_alloc_new w1 _)]; rfl, ho.alloc _⟩, hb.alloc hb.size _⟩
  obtain ⟨n, hn⟩ : ∃ n, n = l.length := ⟨_, rfl⟩
  rw [← hn] at c0 hend
  rw [← hn, ← hxs] at hcl
  have HX := Lib.hid (And.intro hcl hend)
  clear h hlen hcl hxs hend hn
  go_enter Try.func47, Try.ntmps47
  go_wp2_with (go_at_call 59; refine HX.out.1.mono ?_; rintro e w1 ⟨v, rfl, hb, ho⟩; obtain ⟨a1, c1, rfl⟩ := owns_slice ho; have HB := Lib.hid (And.intro hb ho); clear hb ho)
  go_ret
  exact HX.out.2 _ _ _ HB.out.1 HB.out.2

/-- A function that tells the row. -/
def AllC (w : World) (l : List PI) (e : Ending) (w' : World) : Prop := ∃ D C, e = .returned (.func (.func 48) #[] #[.pointer (some ⟨D, 0, none⟩)]) ∧ w.heap.size ≤ D ∧ w'.cell? ⟨D, 0, none⟩ = some (.func (.func 60) #[] #[.pointer (some ⟨C, 0, none⟩)]) ∧ RowCell w.heap.size w' C l ∧ Below w.heap.size w w'
set_option maxRecDepth 100000 in
set_option maxHeartbeats 1000000 in
theorem nall_any (w : World) (S : Nat → Prop) (nb : Nat) (l : List PI) (h : PRowAt w S nb l) (hlen : l.length ≤ 1000000) : Calls Try.prog 29 #[.pointer (some ⟨nb, 0, none⟩)] w (AllC w l) := by
  have hra := rowall_any w S nb l h hlen
  have hmf : ∀ (fn : Fn) (first cap : Array Value) (w : World), (Instr.makeFunc fn first cap).run Try.prog w = .ok (.func fn first cap) w := fun _ _ _ _ => rfl
  have hend : ∀ (w1 : World) (C : Nat) (t : TypeId), Below w.heap.size w w1 → RowCell w.heap.size w1 C l → AllC w l (.returned (.func (.func 48) #[] #[.pointer (some ⟨w1.heap.size, 0, none⟩)])) (w1.alloc (.cells #[.func (.func 60) #[] #[.pointer (some ⟨C, 0, none⟩)]] t)) := fun w1 C t hb hc => by
    obtain ⟨h1, v, h2, h3⟩ := hc
    have hC : C < w1.heap.size := World.block_lt_of_cell? _ _ h2
    exact ⟨_, C, rfl, hb.size, by rw [cell_of_row _ _ 0 _ _ _ (heap_alloc_new w1 _)]; rfl, ⟨h1, v, (World.cell?_of_block (Below.heap_alloc w1 _ C hC)).trans h2, h3.alloc _⟩, hb.alloc hb.size _⟩
  have HX := Lib.hid (And.intro hra hend)
  clear h hlen hra hend
  go_enter Try.func29, Try.ntmps29
  go_wp2_with (go_at_call 47; refine HX.out.1.mono ?_; rintro e w1 ⟨C, rfl, hc, hb⟩; have HB := Lib.hid (And.intro hb hc); clear hb hc)
  go_ret
  exact HX.out.2 _ _ _ HB.out.1 HB.out.2

end Go.Proofs.Ytklpafognbodhaa
