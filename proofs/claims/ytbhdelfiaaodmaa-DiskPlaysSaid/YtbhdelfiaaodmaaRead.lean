/-
  What Read does: to no disk, and to a disk that lies where it is said to lie.
-/
import Derived.Test.YtbhdelfiaaodmaaWrite
namespace Go.Proofs.Ytbhdelfiaaodmaa
open Go.RowKit
open Extern.Stop (cell)

attribute [local go_sem ↓] loadW loadS loadWS wpLoadW wpLoadS wpLoadWS allocS wpAllocS storeS wpStoreS
attribute [local go_sem] headB_ptr isAt_ptr aggC_agg isAggOf_agg freeRow_alloc setRow_alloc_at blk_alloc_new

set_option maxHeartbeats 400000 in
theorem read_nil (w : World) (n : Int) : Calls Try.prog 12 #[.pointer none, .int .i64 n] w fun e w' => e = .returned (.tuple #[.slice none 0 0, .int .i64 1]) ∧ w = w' := by
  go_enter Try.func12, Try.ntmps12
  go_wp2_with (go_at_call 22; refine (ready_nil _).mono ?_; rintro e w' ⟨rfl, rfl⟩)
  go_ret2
  exact ⟨rfl, rfl⟩

set_option maxHeartbeats 400000 in
theorem read_down (w : World) (db : Nat) (n : Int) (c4 : w.cell? ⟨db, 4, none⟩ = some (.bool true)) : Calls Try.prog 12 #[.pointer (some ⟨db, 0, none⟩), .int .i64 n] w fun e w' => e = .returned (.tuple #[.slice none 0 0, .int .i64 5]) ∧ w = w' := by
  go_enter Try.func12, Try.ntmps12
  go_wp2_with (go_at_call 22; refine (ready_down _ _ c4).mono ?_; rintro e w' ⟨rfl, rfl⟩)
  go_ret2
  exact ⟨rfl, rfl⟩

set_option maxHeartbeats 400000 in
theorem read_nowhere (w : World) (db : Nat) (n : Int) (hn : n < 0 ∨ 2049 ≤ n) (c4 : w.cell? ⟨db, 4, none⟩ = some (.bool false)) : Calls Try.prog 12 #[.pointer (some ⟨db, 0, none⟩), .int .i64 n] w fun e w' => e = .returned (.tuple #[.slice none 0 0, .int .i64 2]) ∧ w = w' := by
  have HN := Lib.hid hn; clear hn
  go_enter Try.func12, Try.ntmps12
  go_wp2_with (first | (go_at_call 22; refine (ready_up _ _ c4).mono ?_; rintro e w' ⟨rfl, rfl⟩) | (go_at_call 23; refine (isSector_no _ _ HN.out).mono ?_; rintro e w' ⟨rfl, rfl⟩))
  go_ret2
  exact ⟨rfl, rfl⟩

theorem secs_one (d : List UInt8) : allOne (d.map cell).toArray = true := by
  refine Array.all_eq_true_iff_forall_mem.2 fun u hu => ?_
  simp only [List.mem_toArray, List.mem_map] at hu
  obtain ⟨b, _, rfl⟩ := hu; rfl
theorem zeroS_size : (aggC (secV zeros)).size = 64 := by simp [aggC, secV, zeros]

set_option maxRecDepth 100000 in
set_option maxHeartbeats 400000 in
theorem read_cells (w : World) (db : Nat) (n : Int) (h0 : 0 ≤ n) (h1 : n < 2049) (mv : Value) (LA : Array Value) (hs : LA.size = 64) (h1L : allOne LA = true) (c0 : w.cell? ⟨db, 0, none⟩ = some mv) (c4 : w.cell? ⟨db, 4, none⟩ = some (.bool false))
    (hlk : (Instr.lookup 46 mv (.int .i64 n) false).run Try.prog w = .ok (.agg LA) w) :
    Calls Try.prog 12 #[.pointer (some ⟨db, 0, none⟩), .int .i64 n] w fun e w' => e = .returned (.tuple #[.slice (some ⟨w.heap.size, 0, none⟩) 64 64, .int .i64 0]) ∧ w' = w.alloc (.cells LA 52) := by
  have hz := zeroS_size
  go_enter Try.func12, Try.ntmps12
  go_wp2_with (first | (go_at_call 22; refine (ready_up _ _ c4).mono ?_; rintro e w' ⟨rfl, rfl⟩) | (go_at_call 23; refine (isSector_yes _ _ h0 h1).mono ?_; rintro e w' ⟨rfl, rfl⟩))
  go_ret2
  exact ⟨rfl, rfl⟩

def readE (s : St) (n : Int) : Int := if s.down then 5 else if n < 0 ∨ 2049 ≤ n then 2 else 0
def readB (s : St) (n : Int) : List UInt8 := if s.down then [] else if n < 0 ∨ 2049 ≤ n then [] else sect s.l n

/-- The bytes of a slice that the call has made. -/
theorem BytesAt.made (w : World) (B : Nat) (bs : List UInt8) (cap : Nat) (t : TypeId) (ht : diskObj (.cells (bs.map cell).toArray t) = false) : BytesAt (w.alloc (.cells (bs.map cell).toArray t)) B (.slice (some ⟨w.heap.size, 0, none⟩) bs.length cap) bs :=
  ⟨some ⟨w.heap.size, 0, none⟩, cap, rfl, fun _ => ⟨_, rfl, Or.inr ⟨_, heap_alloc_new w _, ht⟩, fun j u hj => by
    have hadd : (⟨w.heap.size, 0, none⟩ : Addr).add j = ⟨w.heap.size, j, none⟩ := by unfold Addr.add; split <;> simp_all
    rw [hadd, cell_of_row _ _ j _ _ _ (heap_alloc_new w _)]; simpa using hj⟩⟩
theorem BytesAt.none (w : World) (B : Nat) : BytesAt w B (.slice none 0 0) [] := ⟨Option.none, 0, rfl, fun h => by simp at h⟩

theorem sect_length (l : List Wr) (hl : ∀ x ∈ l, x.good) (n : Int) : (sect l n).length = 64 := by
  unfold sect
  have : ∀ (l : List Wr) (z : List UInt8), z.length = 64 → (∀ x ∈ l, x.good) → (l.foldl (fun f x => if x.n = n then x.d else f) z).length = 64 := by
    intro l
    induction l with
    | nil => intro z hz _; exact hz
    | cons x l ih =>
      intro z hz hl
      rw [List.foldl_cons]
      refine ih _ ?_ (fun y hy => hl y (List.mem_cons_of_mem _ hy))
      split
      · exact (hl x (List.mem_cons_self ..)).1
      · exact hz
  exact this l zeros (by simp [zeros]) hl

theorem read_any (w : World) (B db : Nat) (s : St) (n : Int) (h : DiskAt w B db s) :
    Calls Try.prog 12 #[.pointer (some ⟨db, 0, none⟩), .int .i64 n] w fun e w' => ∃ v, e = .returned (.tuple #[v, .int .i64 (readE s n)]) ∧ BytesAt w' B v (readB s n) ∧ Below w.heap.size w w' ∧ (v = .slice Option.none 0 0 ∧ w = w' ∨ ∃ g, v = .slice (some ⟨g, 0, Option.none⟩) 64 64 ∧ w'.heap[g]? = some (.cells ((readB s n).map cell).toArray 52 (0, 0)) ∧ w.heap.size ≤ g) := by
  obtain ⟨mv, v, hmap, ho, c0, c1, c2, c3, c4, hf⟩ := h.cells
  have hgood : ∀ y ∈ s.l, y.good := by obtain ⟨_, _, _, _, _, hg, _⟩ := h; exact hg
  cases hd : s.down
  · rw [hd] at c4
    by_cases hn : n < 0 ∨ 2049 ≤ n
    · refine (read_nowhere w db n hn c4).mono fun e w' ⟨he, hw⟩ => ?_
      subst hw
      simp only [readE, readB, hd, hn, if_true, Bool.false_eq_true, if_false]
      exact ⟨_, he, BytesAt.none _ _, Below.refl _ _, Or.inl (by simp)⟩
    · have hlen := sect_length s.l hgood n
      have hzero : ∀ W, (zeroValue 52).run Try.prog W = .ok (secV zeros) W := fun W => by kernel_rfl
      have hlk : (Instr.lookup 46 mv (.int .i64 n) false).run Try.prog w = .ok (.agg ((sect s.l n).map cell).toArray) w := by
        rcases hmap with ⟨rfl, hz⟩ | ⟨mb, D, rfl, _, hD, hat⟩
        · have := Maps.look_nil (w := w) false keyedI Try.underlying46 (hzero w) (keyI n (by omega) (by omega))
          rw [hz n]
          exact this
        · obtain ⟨v0, ps, hr, hv⟩ := hD.lookup keyedI Try.underlying46 (hzero w) (zd := .held (secV zeros)) (zp := []) rfl (keyI n (by omega) (by omega))
          rw [hat n (by omega) (by omega)] at hv
          have e : v0 = secV (sect s.l n) := by simp only [heldV, Option.some.injEq, Prod.mk.injEq, DataW.held.injEq] at hv; exact hv.1
          rw [e] at hr
          exact hr
      refine (read_cells w db n (by omega) (by omega) mv _ (by simpa using hlen) (secs_one _) c0 c4 hlk).mono fun e w' ⟨he, hw⟩ => ?_
      subst hw
      simp only [readE, readB, hd, hn, Bool.false_eq_true, if_false]
      refine ⟨_, he, ?_, (Below.refl _ _).alloc (Nat.le_refl _) _, Or.inr ⟨_, rfl, heap_alloc_new w _, Nat.le_refl _⟩⟩
      have := BytesAt.made w B (sect s.l n) 64 52 rfl
      rw [hlen] at this
      exact this
  · rw [hd] at c4
    refine (read_down w db n c4).mono fun e w' ⟨he, hw⟩ => ?_
    subst hw
    simp only [readE, readB, hd, if_true]
    exact ⟨_, he, BytesAt.none _ _, Below.refl _ _, Or.inl (by simp)⟩

end Go.Proofs.Ytbhdelfiaaodmaa
