/-
  The closure that reads a node: what holds between its reads. No condition.
  The closure that reads a node: what it answers at every depth. No condition.
-/
import Derived.Test.YteccnekdmehloaaDoorCListW
import Derived.StillTailTactics
namespace Go.Proofs.YteccnekdmehloaaDoor
open Go.RowKit
open Extern.Stop (cell)

theorem NodeSt.apart {w : World} {nb rb fb b : Nat} {dv : Value} {s : Rd} {m : Nat} (h : NodeSt w nb rb fb b dv s m) : (nb ≠ b ∧ rb ≠ b ∧ fb ≠ b) ∧ (rb ≠ nb ∧ fb ≠ nb) ∧ dv.ownBlock ≠ some nb := by
  have hb := h.rd.here
  have hn := h.n
  have hr := h.r
  have hf := h.f
  refine ⟨⟨fun e => ?_, fun e => ?_, fun e => ?_⟩, ⟨fun e => ?_, fun e => ?_⟩, fun e => ?_⟩
  · rw [e, hb] at hn; cases hn
  · rw [e, hb] at hr; cases hr
  · rw [e, hb] at hf; cases hf
  · rw [e, hn] at hr; cases hr
  · rw [e, hn] at hf; cases hf
  · rcases h.rd.owns.2 with ⟨h1, _⟩ | ⟨g, cap, cur, hv, _, hh, _⟩
    · rw [h1] at e; cases e
    · rw [hv] at e; cases e
      rw [hn] at hh; cases hh
/-- One node more. -/
theorem NodeSt.count {w : World} {nb rb fb b : Nat} {dv : Value} {s : Rd} {m : Nat} (h : NodeSt w nb rb fb b dv s m) (i : Int) (m' : Nat) (hi : i = (m' : Int)) : NodeSt (w.setCell ⟨nb, 0, none⟩ (.int .i64 i)) nb rb fb b dv s m' := by
  subst hi
  obtain ⟨⟨a1, a2, a3⟩, ⟨a4, a5⟩, a6⟩ := h.apart
  have ht : Touched w (w.setCell ⟨nb, 0, none⟩ (.int .i64 (m' : Int))) (fun k => k = nb) := Touched.setCell (S := fun k => k = nb) (a := ⟨nb, 0, none⟩) rfl _
  exact ⟨h.rd.kept ht (fun e => a1 e.symm) (fun g hg e => a6 (by rw [hg, e])), by rw [heap_setCell_same w nb 0 _ _ _ h.n]; rfl, (ht.block _ (lt_of_heap h.r) a4).trans h.r, (ht.block _ (lt_of_heap h.f) a5).trans h.f⟩
/-- The reader has read. -/
theorem NodeSt.read {w w' : World} {nb rb fb b : Nat} {dv : Value} {s s' : Rd} {m : Nat} (h : NodeSt w nb rb fb b dv s m) (hr : RdAt w' b dv s') (ht : Touched w w' (fun k => k = b)) : NodeSt w' nb rb fb b dv s' m := by
  obtain ⟨⟨a1, a2, a3⟩, _, _⟩ := h.apart
  exact ⟨hr, (ht.block _ (lt_of_heap h.n) a1).trans h.n, (ht.block _ (lt_of_heap h.r) a2).trans h.r, (ht.block _ (lt_of_heap h.f) a3).trans h.f⟩

abbrev zeroN : Array Value := #[.int .i64 0, .int .i64 0, .string ⟨#[]⟩, .slice none 0 0]
/-- Between the reads: the node so far lies in block w.heap.size + 2. -/
structure NSt (w : World) (nb rb fb b : Nat) (dv : Value) (depth : Nat) (xc : Array Value) (s : Rd) (m : Nat) (wr : World) : Prop where
  st : NodeSt wr nb rb fb b dv s m
  db : wr.heap[w.heap.size]? = some (.cells #[.int .i64 (depth : Int)] 3 (0, 0))
  rs : wr.heap[w.heap.size + 1]? = some (.cells zeroN 25 (0, 0))
  x : wr.heap[w.heap.size + 1 + 1]? = some (.cells xc 25 (0, 0))
  tch : Touched w wr (NbR b nb)
theorem NSt.move {w wr w' : World} {nb rb fb b : Nat} {dv : Value} {depth : Nat} {xc : Array Value} {s s' : Rd} {m m' : Nat} (h : NSt w nb rb fb b dv depth xc s m wr) (hl : LowSt w.heap.size nb rb fb b dv) (hs : NodeSt w' nb rb fb b dv s' m') (ht : Touched wr w' (NbR b nb)) : NSt w nb rb fb b dv depth xc s' m' w' := by
  have hb := hl.1
  have hn := hl.2.1
  have key : ∀ k o, w.heap.size ≤ k → wr.heap[k]? = some o → w'.heap[k]? = some o := fun k o hk ho => by
    rw [ht.block k (lt_of_heap ho) (fun e => by rcases e with e | e <;> omega)]; exact ho
  exact ⟨hs, key _ _ (by omega) h.db, key _ _ (by omega) h.rs, key _ _ (by omega) h.x, h.tch.trans ht (fun k hk => Or.inl hk)⟩
theorem NSt.read {w wr w' : World} {nb rb fb b : Nat} {dv : Value} {depth : Nat} {xc : Array Value} {s s' : Rd} {m : Nat} (h : NSt w nb rb fb b dv depth xc s m wr) (hl : LowSt w.heap.size nb rb fb b dv) (hr : RdAt w' b dv s') (ht : Touched wr w' (fun k => k = b)) : NSt w nb rb fb b dv depth xc s' m w' :=
  h.move hl (h.st.read hr ht) ⟨ht.os, ht.tape, ht.output, ht.size, fun k hk hn => ht.block k hk (fun e => hn (Or.inl e))⟩
theorem NSt.set {w wr : World} {nb rb fb b : Nat} {dv : Value} {depth : Nat} {xc : Array Value} {s : Rd} {m : Nat} (h : NSt w nb rb fb b dv depth xc s m wr) (hl : LowSt w.heap.size nb rb fb b dv) (i : Nat) (v : Value) : NSt w nb rb fb b dv depth (xc.setIfInBounds i v) s m (wr.setCell ⟨w.heap.size + 1 + 1, i, none⟩ v) := by
  have ht : Touched wr (wr.setCell ⟨w.heap.size + 1 + 1, i, none⟩ v) (fun k => k = w.heap.size + 1 + 1) := Touched.setCell (S := fun k => k = w.heap.size + 1 + 1) (a := ⟨w.heap.size + 1 + 1, i, none⟩) rfl _
  exact ⟨h.st.one hl (by omega) ht, (ht.block _ (lt_of_heap h.db) (by omega)).trans h.db, (ht.block _ (lt_of_heap h.rs) (by omega)).trans h.rs, by rw [heap_setCell_same wr _ i _ _ _ h.x], h.tch.trans ht (fun k hk => Or.inr (by omega))⟩
theorem NSt.facts {w wr : World} {nb rb fb b : Nat} {dv : Value} {depth : Nat} {x0 x1 x2 x3 : Value} {s : Rd} {m : Nat} (h : NSt w nb rb fb b dv depth #[x0, x1, x2, x3] s m wr) : wr.cell? ⟨rb, 0, none⟩ = some (.pointer (some ⟨b, 0, none⟩)) ∧ (wr.cell? ⟨w.heap.size + 1 + 1, 0, none⟩ = some x0 ∧ wr.cell? ⟨w.heap.size + 1 + 1, 1, none⟩ = some x1 ∧ wr.cell? ⟨w.heap.size + 1 + 1, 2, none⟩ = some x2 ∧ wr.cell? ⟨w.heap.size + 1 + 1, 3, none⟩ = some x3) ∧ (∀ j, wr.frozen? ⟨w.heap.size + 1 + 1, j, none⟩ = false) :=
  ⟨by rw [cell_of_row _ _ 0 _ _ _ h.st.r]; rfl, ⟨by rw [cell_of_row _ _ 0 _ _ _ h.x]; rfl, by rw [cell_of_row _ _ 1 _ _ _ h.x]; rfl, by rw [cell_of_row _ _ 2 _ _ _ h.x]; rfl, by rw [cell_of_row _ _ 3 _ _ _ h.x]; rfl⟩, fun j => frozen_of_row wr _ j _ _ h.x⟩
theorem NSt.start {w : World} {nb rb fb b : Nat} {dv : Value} {depth : Nat} {s : Rd} {m : Nat} (h : NodeSt w nb rb fb b dv s m) (i : Int) (m' : Nat) (hi : i = (m' : Int)) :
    NSt w nb rb fb b dv depth zeroN s m' ((((w.setCell ⟨nb, 0, none⟩ (.int .i64 i)).alloc (.cells #[.int .i64 (depth : Int)] 3)).alloc (.cells zeroN 25)).alloc (.cells zeroN 25)) := by
  have hn := lt_of_heap h.n
  have hsz : (w.setCell ⟨nb, 0, none⟩ (.int .i64 i)).heap.size = w.heap.size := by simp [World.setCell]
  refine ⟨(((h.count i m' hi).alloc _).alloc _).alloc _, ?_, ?_, ?_, ?_⟩
  · rw [Below.heap_alloc _ _ _ (by rw [World.size_alloc, World.size_alloc, hsz]; omega)]
    have := heap_alloc2_old (w.setCell ⟨nb, 0, none⟩ (.int .i64 i)) (.cells #[.int .i64 (depth : Int)] 3) (.cells zeroN 25)
    rw [hsz] at this; exact this
  · rw [Below.heap_alloc _ _ _ (by rw [World.size_alloc, World.size_alloc, hsz]; omega)]
    have := heap_alloc2_new (w.setCell ⟨nb, 0, none⟩ (.int .i64 i)) (.cells #[.int .i64 (depth : Int)] 3) (.cells zeroN 25)
    rw [hsz] at this; exact this
  · have := heap_alloc_new (((w.setCell ⟨nb, 0, none⟩ (.int .i64 i)).alloc (.cells #[.int .i64 (depth : Int)] 3)).alloc (.cells zeroN 25)) (.cells zeroN 25)
    rw [World.size_alloc, World.size_alloc, hsz] at this; exact this
  · exact (((Touched.setCell (w := w) (S := NbR b nb) (a := ⟨nb, 0, none⟩) (Or.inr rfl) _).alloc _).alloc _).alloc _
end Go.Proofs.YteccnekdmehloaaDoor
namespace Go.Proofs.YteccnekdmehloaaDoor
open Go.RowKit
open Extern.Stop (cell)

/-- It fails at once. -/
def FailsAt (w : World) (nb b : Nat) (dv : Value) (s : Rd) (e : Ending) (w' : World) : Prop := e = .panicked fell ∧ RdAt w' b dv { s with pos := s.pos, bad := true } ∧ Touched w w' (NbR b nb)
set_option maxRecDepth 100000 in
set_option maxHeartbeats 4000000 in
theorem below_fails (nb rb fb b : Nat) (dv : Value) (depth : Nat) (w : World) (s : Rd) (m : Nat) (h : NodeSt w nb rb fb b dv s m) (hm : m ≤ 200) (hd2 : depth ≤ 1000) (hbad : 40 < depth ∨ 200 < m + 1) :
    Calls Tryd.prog 58 #[.int .i64 (depth : Int), .pointer (some ⟨nb, 0, none⟩), .pointer (some ⟨rb, 0, none⟩), .pointer (some ⟨fb, 0, none⟩)] w (FailsAt w nb b dv s) := by
  have cn : w.cell? ⟨nb, 0, none⟩ = some (.int .i64 (m : Int)) := by rw [cell_of_row _ _ 0 _ _ _ h.n]; rfl
  have fn : w.frozen? ⟨nb, 0, none⟩ = false := frozen_of_row _ _ _ _ _ h.n
  have hnl := lt_of_heap h.n
  have hfit := h.rd.fits
  have hfew := h.rd.few
  have hst : ∀ o o' : Obj, NodeSt (((w.setCell ⟨nb, 0, none⟩ (.int .i64 ((m : Int) + 1))).alloc o).alloc o') nb rb fb b dv s (m + 1) := fun o o' => ((h.count ((m : Int) + 1) (m + 1) (by omega)).alloc o).alloc o'
  have ht0 : ∀ o o' : Obj, Touched w (((w.setCell ⟨nb, 0, none⟩ (.int .i64 ((m : Int) + 1))).alloc o).alloc o') (NbR b nb) := fun o o' => ((Touched.setCell (w := w) (S := NbR b nb) (a := ⟨nb, 0, none⟩) (Or.inr rfl) _).alloc o).alloc o'
  have hr : ∀ o o' : Obj, (((w.setCell ⟨nb, 0, none⟩ (.int .i64 ((m : Int) + 1))).alloc o).alloc o').cell? ⟨rb, 0, none⟩ = some (.pointer (some ⟨b, 0, none⟩)) := fun o o' => by rw [cell_of_row _ _ 0 _ _ _ (hst o o').r]; rfl
  have hp : ∀ o o' : Obj, (((w.setCell ⟨nb, 0, none⟩ (.int .i64 ((m : Int) + 1))).alloc o).alloc o').cell? ⟨b, 1, none⟩ = some (.int .i64 (s.pos : Int)) := fun o o' => (hst o o').rd.cells.2.1
  have r0 := hr (.cells #[.int .i64 (depth : Int)] 3) (.cells zeroN 25)
  have q0 := hp (.cells #[.int .i64 (depth : Int)] 3) (.cells zeroN 25)
  have hst0 := hst (.cells #[.int .i64 (depth : Int)] 3) (.cells zeroN 25)
  have ht00 := ht0 (.cells #[.int .i64 (depth : Int)] 3) (.cells zeroN 25)
  obtain ⟨W, hW⟩ : ∃ W, W = (((w.setCell ⟨nb, 0, none⟩ (.int .i64 ((m : Int) + 1))).alloc (.cells #[.int .i64 (depth : Int)] 3)).alloc (.cells zeroN 25)).drew := ⟨_, rfl⟩
  have HW := Lib.hid hW
  have HF : Hid (Calls Tryd.prog 59 #[.pointer (some ⟨b, 0, none⟩), .int .i64 (s.pos : Int)] W (FellC W b dv s s.pos)) := Lib.hid (fail_any _ b dv s (by rw [hW]; exact hst0.rd.drew) s.pos hfit)
  have HT : Hid (Touched w W (NbR b nb)) := Lib.hid (by rw [hW]; exact ht00.drew)
  have r1 : W.cell? ⟨rb, 0, none⟩ = some (.pointer (some ⟨b, 0, none⟩)) := by rw [hW]; exact r0
  have q1 : W.cell? ⟨b, 1, none⟩ = some (.int .i64 (s.pos : Int)) := by rw [hW]; exact q0
  clear h hst ht0 hr hp hfit hfew hst0 ht00 hW r0 q0
  by_cases h40 : 40 < depth
  · have h40' : (40 : Int) < (depth : Int) := by omega
    clear hbad h40
    go_enter Tryd.func58, Tryd.ntmps58
    go_wp2_with fail
    refine wp_region_still_tail 5 (by kernel_rfl) (by kernel_rfl) ?_
    simp only [List.take_succ_cons, List.take_zero, List.drop_succ_cons, List.drop_zero]
    rw [show ({ (((w.setCell ⟨nb, 0, none⟩ (.int .i64 ((m : Int) + 1))).alloc (.cells #[.int .i64 (depth : Int)] 3)).alloc (.cells zeroN 25)) with drawn := (((w.setCell ⟨nb, 0, none⟩ (.int .i64 ((m : Int) + 1))).alloc (.cells #[.int .i64 (depth : Int)] 3)).alloc (.cells zeroN 25)).drawn + 1 } : World) = W from HW.out.symm]
    repeat still_step
    try refine wpStill_nil ?_
    go_wp2_with (go_at_call 59; refine HF.out.mono ?_; rintro e w4 ⟨rfl, h1, h2⟩)
    exact ⟨rfl, rfl, h1, HT.out.trans h2 (fun k hk => Or.inl (Or.inl hk))⟩
  · have h40' : ¬ (40 : Int) < (depth : Int) := by omega
    have h200 : (200 : Int) < (m : Int) + 1 := by omega
    clear hbad h40
    go_enter Tryd.func58, Tryd.ntmps58
    go_wp2_with fail
    refine wp_region_still_tail 5 (by kernel_rfl) (by kernel_rfl) ?_
    simp only [List.take_succ_cons, List.take_zero, List.drop_succ_cons, List.drop_zero]
    rw [show ({ (((w.setCell ⟨nb, 0, none⟩ (.int .i64 ((m : Int) + 1))).alloc (.cells #[.int .i64 (depth : Int)] 3)).alloc (.cells zeroN 25)) with drawn := (((w.setCell ⟨nb, 0, none⟩ (.int .i64 ((m : Int) + 1))).alloc (.cells #[.int .i64 (depth : Int)] 3)).alloc (.cells zeroN 25)).drawn + 1 } : World) = W from HW.out.symm]
    repeat still_step
    try refine wpStill_nil ?_
    go_wp2_with (go_at_call 59; refine HF.out.mono ?_; rintro e w4 ⟨rfl, h1, h2⟩)
    exact ⟨rfl, rfl, h1, HT.out.trans h2 (fun k hk => Or.inl (Or.inl hk))⟩
end Go.Proofs.YteccnekdmehloaaDoor
