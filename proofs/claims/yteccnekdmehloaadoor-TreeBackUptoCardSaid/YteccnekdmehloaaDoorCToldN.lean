/-
  told over nodes: of a reader that failed, of one that reads, of one that fails. No condition.
-/
import Derived.Test.YteccnekdmehloaaDoorCInv
namespace Go.Proofs.YteccnekdmehloaaDoor
open Go.RowKit
open Extern.Stop (cell)

abbrev WB (w : World) (b : Nat) : World := (w.alloc (boxOf b)).alloc (.cells zeroN 25)
abbrev zeroNV : Value := .agg #[.int .i64 0, .int .i64 0, .string ⟨#[]⟩, .slice none 0 0]
theorem WB_heap (w : World) (b : Nat) : (WB w b).heap[w.heap.size]? = some (boxOf b) ∧ (WB w b).heap[w.heap.size + 1]? = some (.cells zeroN 25 (0, 0)) := ⟨heap_alloc2_old w _ _, heap_alloc2_new w _ _⟩

set_option maxHeartbeats 1000000 in
theorem told_node_fell (w : World) (b : Nat) (dv : Value) (s : Rd) (h : RdAt w b dv s) (hs : s.bad = false) (p : Nat)
    (hk : Calls Tryd.prog 45 #[.pointer (some ⟨b, 0, none⟩)] (WB w b) (FellC (WB w b) b dv s p)) :
    Calls Tryd.prog 44 #[.pointer (some ⟨b, 0, none⟩), .func (.func 45) #[.pointer (some ⟨b, 0, none⟩)] #[]] w (ZeroC zeroNV w b dv { s with pos := p, bad := true }) := by
  have hmf : ∀ (fn : Fn) (first cap : Array Value) (w : World), (Instr.makeFunc fn first cap).run Tryd.prog w = .ok (.func fn first cap) w := fun _ _ _ _ => rfl
  obtain ⟨c0, c1, c2, f⟩ := ((h.alloc (boxOf b)).alloc (.cells zeroN 25)).cells
  rw [hs] at c2
  have x0 : (WB w b).cell? ⟨w.heap.size, 0, none⟩ = some (.pointer (some ⟨b, 0, none⟩)) := by rw [cell_of_row _ _ 0 _ _ _ (WB_heap w b).1]; rfl
  have hlt := lt_of_heap h.here
  have HK := Lib.hid hk
  clear h hs hk
  go_enter_defers Tryd.func44, Tryd.ntmps44
  go_wp2_with (go_at_call 45; refine HK.out.mono ?_; rintro e w1 ⟨rfl, h2, h3⟩; have H1 := Lib.hid (And.intro h2 h3); clear h2 h3)
  have hbx : w1.heap[w.heap.size]? = some (boxOf b) := (H1.out.2.block _ (by simp; omega) (by omega)).trans (WB_heap w b).1
  refine leaves_cons (f := 57) (args := #[.pointer (some ⟨w.heap.size, 0, none⟩)]) (by simp) (by simp [go_sem]) ?_
  refine (catch_fell_node _ w.heap.size b (by rw [cell_of_row _ _ 0 _ _ _ hbx]; rfl) H1.out.1.cells.2.2.1 _ []).mono ?_
  rintro e u' w'' ⟨rfl, rfl, rfl⟩
  have hg : w''.heap[w.heap.size + 1]? = some (.cells zeroN 25 (0, 0)) := (H1.out.2.block _ (by simp) (by omega)).trans (WB_heap w b).2
  show Leaves _ _ _ _ [] .returning _
  exact ⟨_, results_cell_row rfl _ _ (w.heap.size + 1) 25 _ (0, 0) _ rfl hg Tryd.underlying25 rfl (by kernel_rfl), rfl, H1.out.1, (((Touched.refl w _).alloc _).alloc _).trans H1.out.2 (fun k hk => Or.inl hk)⟩
set_option maxHeartbeats 1000000 in
theorem told_node_bad (w : World) (b : Nat) (dv : Value) (s : Rd) (h : RdAt w b dv s) (hs : s.bad = true) (fv : Value) :
    Calls Tryd.prog 44 #[.pointer (some ⟨b, 0, none⟩), fv] w (ZeroC zeroNV w b dv s) := by
  have hmf : ∀ (fn : Fn) (first cap : Array Value) (w : World), (Instr.makeFunc fn first cap).run Tryd.prog w = .ok (.func fn first cap) w := fun _ _ _ _ => rfl
  obtain ⟨c0, c1, c2, f⟩ := ((h.alloc (boxOf b)).alloc (.cells zeroN 25)).cells
  rw [hs] at c2
  have x0 : (WB w b).cell? ⟨w.heap.size, 0, none⟩ = some (.pointer (some ⟨b, 0, none⟩)) := by rw [cell_of_row _ _ 0 _ _ _ (WB_heap w b).1]; rfl
  have H := Lib.hid h
  clear h hs
  go_enter_defers Tryd.func44, Tryd.ntmps44
  go_wp2_with fail
  show Leaves _ _ _ _ [] .returning _
  exact ⟨_, results_cell_row rfl _ _ (w.heap.size + 1) 25 _ (0, 0) _ rfl (WB_heap w b).2 Tryd.underlying25 rfl (by kernel_rfl), rfl, (H.out.alloc _).alloc _, ((Touched.refl w _).alloc _).alloc _⟩
set_option maxHeartbeats 1000000 in
theorem told_node_ok (w : World) (b : Nat) (dv : Value) (s s' : Rd) (t : Tr) (h : RdAt w b dv s) (hs : s.bad = false) (hs' : s'.bad = false)
    (hk : Calls Tryd.prog 45 #[.pointer (some ⟨b, 0, none⟩)] (WB w b) (ReadC (fun v w' => TrAt w' (Fresh (WB w b) w') v t) (WB w b) b dv s')) :
    Calls Tryd.prog 44 #[.pointer (some ⟨b, 0, none⟩), .func (.func 45) #[.pointer (some ⟨b, 0, none⟩)] #[]] w (ReadC (fun v w' => TrAt w' (Fresh w w') v t) w b dv s') := by
  have hmf : ∀ (fn : Fn) (first cap : Array Value) (w : World), (Instr.makeFunc fn first cap).run Tryd.prog w = .ok (.func fn first cap) w := fun _ _ _ _ => rfl
  obtain ⟨c0, c1, c2, f⟩ := ((h.alloc (boxOf b)).alloc (.cells zeroN 25)).cells
  rw [hs] at c2
  have x0 : (WB w b).cell? ⟨w.heap.size, 0, none⟩ = some (.pointer (some ⟨b, 0, none⟩)) := by rw [cell_of_row _ _ 0 _ _ _ (WB_heap w b).1]; rfl
  have hlt := lt_of_heap h.here
  have hdl := owns_lt h.owns
  have HK := Lib.hid (And.intro hk (And.intro hlt hdl))
  clear h hs hk hlt hdl
  go_enter_defers Tryd.func44, Tryd.ntmps44
  go_wp2_with (go_at_call 45; refine HK.out.1.mono ?_; rintro e w1 ⟨v, rfl, ⟨ka, kcap, rfl, hcp, hk⟩, h2, h3⟩; have hg : w1.heap[w.heap.size + 1]? = some (.cells zeroN 25 (0, 0)) := (h3.block _ (by simp) (by have := HK.out.2.1; omega)).trans (WB_heap w b).2; have d0 : w1.cell? ⟨w.heap.size + 1, 0, none⟩ = some (.int .i64 0) := (by rw [cell_of_row w1 _ 0 _ _ _ hg]; rfl); have d1 : w1.cell? ⟨w.heap.size + 1, 1, none⟩ = some (.int .i64 0) := (by rw [cell_of_row w1 _ 1 _ _ _ hg]; rfl); have d2 : w1.cell? ⟨w.heap.size + 1, 2, none⟩ = some (.string ⟨#[]⟩) := (by rw [cell_of_row w1 _ 2 _ _ _ hg]; rfl); have d3 : w1.cell? ⟨w.heap.size + 1, 3, none⟩ = some (.slice none 0 0) := (by rw [cell_of_row w1 _ 3 _ _ _ hg]; rfl); have df : ∀ j, w1.frozen? ⟨w.heap.size + 1, j, none⟩ = false := (fun j => frozen_of_row w1 _ j _ _ hg); obtain ⟨len, hlen⟩ : ∃ len, len = foLen t.kids := ⟨_, rfl⟩; rw [← hlen]; have H1 := Lib.hid (And.intro hg (And.intro hcp (And.intro hk (And.intro hlen (And.intro h2 h3))))); clear hg hcp hk hlen h2 h3)
  obtain ⟨g1, g2, g3, g4, g5, g6⟩ := H1.out
  obtain ⟨s1, s2, s3⟩ := set4 g1 (.int .i64 t.id) (.int .i64 t.kind) (.string t.text) (.slice ka len kcap)
  have hb := HK.out.2.1
  have hsz := g6.size
  rw [World.size_alloc, World.size_alloc] at hsz
  have hrd := g5.kept s2 (by omega) (fun g hg e => by have := HK.out.2.2 g hg; omega)
  have hbx : w1.heap[w.heap.size]? = some (boxOf b) := (g6.block _ (by rw [World.size_alloc, World.size_alloc]; omega) (by omega)).trans (WB_heap w b).1
  refine leaves_cons (f := 57) (args := #[.pointer (some ⟨w.heap.size, 0, none⟩)]) (by simp) (by simp [go_sem]) ?_
  refine (catch_idle_node _ w.heap.size b (by rw [World.cell?_of_block (s2.block w.heap.size (lt_of_heap hbx) (by omega)), cell_of_row _ _ 0 _ _ _ hbx]; rfl) (by have := hrd.cells.2.2.1; rw [hs'] at this; exact this)).mono ?_
  rintro e u' w'' ⟨rfl, rfl, rfl⟩
  show Leaves _ _ _ _ [] .returning _
  refine ⟨_, results_cell_row rfl _ _ (w.heap.size + 1) 25 _ (0, 0) _ rfl s1 Tryd.underlying25 rfl (by kernel_rfl), _, rfl, ⟨ka, kcap, by rw [g4], g2, g3.kept fun x hx => ?_⟩, hrd, ((((Touched.refl w _).alloc _).alloc _).trans g6 (fun k hk => Or.inl hk)).trans s2 (fun k hk => Or.inr (by omega))⟩
  have hx1 := hx.1
  rw [World.size_alloc, World.size_alloc] at hx1
  exact ⟨⟨by omega, by rw [s3]; exact hx.2⟩, s2.block x hx.2 (by omega)⟩
end Go.Proofs.YteccnekdmehloaaDoor
