/-
  Count of any reader. No condition but that the size is at least 1.
-/
import Derived.Test.YtljlijdgocfofaaCMeth2
namespace Go.Proofs.Ytljlijdgocfofaa
open Go.RowKit
open Extern.Stop (cell)

theorem count1_any (W : World) (b x y z : Nat) (dv : Value) (s : Rd) (h : RdAt W b dv s) (size most : Int) (hs : 1 ≤ size) (hs2 : size ≤ 9223372036854775807)
    (hx : W.cell? ⟨x, 0, none⟩ = some (.pointer (some ⟨b, 0, none⟩))) (hy : W.cell? ⟨y, 0, none⟩ = some (.int .i64 size)) (hz : W.cell? ⟨z, 0, none⟩ = some (.int .i64 most)) :
    Calls Try.prog 56 #[.pointer (some ⟨x, 0, none⟩), .pointer (some ⟨y, 0, none⟩), .pointer (some ⟨z, 0, none⟩)] W (OutC NatV W b dv s (pCount s.data size most s.pos)) := by
  have hc := count_any W b dv s h size most hs hs2
  have hmax : (if size < 1 then (1 : Int) else size) = size := if_neg (by omega)
  have hmax2 : max size 1 = size := by omega
  cases hp : pCount s.data size most s.pos with
  | error p =>
    rw [hp] at hc
    have HC := Lib.hid hc
    clear hc h hp
    go_enter Try.func56, Try.ntmps56
    go_wp2_with (go_at_call 57; refine HC.out.mono ?_; clear HC; rintro e w1 ⟨rfl, h1, h2⟩)
    exact ⟨rfl, rfl, h1, h2⟩
  | ok nq =>
    obtain ⟨n, q⟩ := nq
    rw [hp] at hc
    have HC := Lib.hid hc
    clear hc h hp
    go_enter Try.func56, Try.ntmps56
    go_wp2_with (go_at_call 57; refine HC.out.mono ?_; clear HC; rintro e w1 ⟨v, rfl, rfl, h1, h2⟩; have H1 := Lib.hid (And.intro h1 h2); clear h1 h2)
    go_ret
    exact ⟨_, rfl, rfl, H1.out.1, H1.out.2⟩

/-- The three boxes that Count lays. -/
abbrev W3 (w : World) (b : Nat) (size most : Int) : World := ((w.alloc (boxOf b)).alloc (.cells #[.int .i64 size] 3)).alloc (.cells #[.int .i64 most] 3)
theorem W3_heap (w : World) (b : Nat) (size most : Int) : (W3 w b size most).heap[w.heap.size]? = some (boxOf b) ∧ (W3 w b size most).heap[w.heap.size + 1]? = some (.cells #[.int .i64 size] 3 (0, 0)) ∧ (W3 w b size most).heap[w.heap.size + 1 + 1]? = some (.cells #[.int .i64 most] 3 (0, 0)) := by
  refine ⟨?_, ?_, ?_⟩
  · rw [Below.heap_alloc _ _ _ (by rw [World.size_alloc, World.size_alloc]; omega)]; exact heap_alloc2_old w _ _
  · rw [Below.heap_alloc _ _ _ (by rw [World.size_alloc, World.size_alloc]; omega)]; exact heap_alloc2_new w _ _
  · have := heap_alloc_new ((w.alloc (boxOf b)).alloc (.cells #[.int .i64 size] 3)) (.cells #[.int .i64 most] 3)
    rw [World.size_alloc, World.size_alloc] at this; exact this
set_option maxHeartbeats 1000000 in
theorem Count_any (w : World) (b : Nat) (dv : Value) (s : Rd) (h : RdAt w b dv s) (size most : Int) (hs : 1 ≤ size) (hs2 : size ≤ 9223372036854775807) :
    Calls Try.prog 31 #[.pointer (some ⟨b, 0, none⟩), .int .i64 size, .int .i64 most] w (RetC (MethR (.int .i64 0) NatV w b dv s (pCount s.data size most s.pos))) := by
  have hmf : ∀ (fn : Fn) (first cap : Array Value) (w : World), (Instr.makeFunc fn first cap).run Try.prog w = .ok (.func fn first cap) w := fun _ _ _ _ => rfl
  obtain ⟨a1, a2, a3⟩ := W3_heap w b size most
  have h3 : RdAt (W3 w b size most) b dv s := ((h.alloc _).alloc _).alloc _
  have hcell : ∀ k o, (W3 w b size most).heap[k]? = some o → ((W3 w b size most).alloc (boxOf b)).heap[k]? = some o := fun k o hk => by rw [Below.heap_alloc _ _ _ (lt_of_heap hk)]; exact hk
  have hc1 := count1_any ((W3 w b size most).alloc (boxOf b)) b w.heap.size (w.heap.size + 1) (w.heap.size + 1 + 1) dv s (h3.alloc _) size most hs hs2 (by rw [cell_of_row _ _ 0 _ _ _ (hcell _ _ a1)]; rfl) (by rw [cell_of_row _ _ 0 _ _ _ (hcell _ _ a2)]; rfl) (by rw [cell_of_row _ _ 0 _ _ _ (hcell _ _ a3)]; rfl)
  have ht : Calls Try.prog 42 #[.pointer (some ⟨b, 0, none⟩), .func (.func 56) #[] #[.pointer (some ⟨w.heap.size, 0, none⟩), .pointer (some ⟨w.heap.size + 1, 0, none⟩), .pointer (some ⟨w.heap.size + 1 + 1, 0, none⟩)]] (W3 w b size most) (RetC (MethR (.int .i64 0) NatV (W3 w b size most) b dv s (pCount s.data size most s.pos))) :=
    meth_of (fun hb => told_int_bad _ b dv s h3 hb _)
      (fun n q ho hb => told_count_ok _ b dv s { s with pos := q } h3 hb hb (fun v _ => v = .int .i64 (n : Int)) _ _ _ (by rw [ho] at hc1; exact hc1))
      (fun p ho hb => told_count_fell _ b dv s h3 hb p _ _ _ (by rw [ho] at hc1; exact hc1))
  have HT := Lib.hid ht
  have r0 : (W3 w b size most).cell? ⟨w.heap.size, 0, none⟩ = some (.pointer (some ⟨b, 0, none⟩)) := by rw [cell_of_row _ _ 0 _ _ _ a1]; rfl
  have HB := Lib.hid ((((Touched.refl w (fun k => k = b)).alloc (boxOf b)).alloc (.cells #[.int .i64 size] 3)).alloc (.cells #[.int .i64 most] 3))
  clear ht hc1 hcell h3 a1 a2 a3 h hs hs2
  go_enter Try.func31, Try.ntmps31
  go_wp2_with (go_at_call 42; refine HT.out.mono ?_; clear HT; rintro e w1 ⟨v, rfl, hm⟩; have H1 := Lib.hid hm; clear hm)
  go_ret
  refine ⟨_, rfl, ?_⟩
  have g2 := H1.out
  have tt : ∀ {W : World}, Touched (W3 w b size most) W (fun k => k = b) → Touched w W (fun k => k = b) := fun h1 => HB.out.trans h1 (fun k hk => Or.inl hk)
  unfold MethR at g2 ⊢
  split
  · rename_i hbad
    rw [if_pos hbad] at g2
    exact ⟨g2.1, g2.2.1, tt g2.2.2⟩
  · rename_i hbad
    rw [if_neg hbad] at g2
    cases hp : pCount s.data size most s.pos with
    | error p => rw [hp] at g2; exact ⟨g2.1, g2.2.1, tt g2.2.2⟩
    | ok x => rw [hp] at g2; exact ⟨g2.1, g2.2.1, tt g2.2.2⟩
end Go.Proofs.Ytljlijdgocfofaa
