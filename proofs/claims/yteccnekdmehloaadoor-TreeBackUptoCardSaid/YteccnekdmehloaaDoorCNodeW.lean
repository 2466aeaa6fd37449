/-
  A reader of layer 3 reads a node with all below it. No condition.
-/
import Derived.Test.YteccnekdmehloaaDoorCBelowW
import Derived.Laws.EntriesVeiled
namespace Go.Proofs.YteccnekdmehloaaDoor
open Go.RowKit
open Extern.Stop (cell)

theorem below_any (nb rb fb b : Nat) (dv : Value) (d : List UInt8) : ∀ (f depth : Nat), 41 ≤ depth + f → depth + f ≤ 1000 → NodeC nb rb fb b dv d f depth
  | 0, depth, h1, h2 => fun w s m _ hst hm => below_fails nb rb fb b dv depth w s m hst hm (by omega) (Or.inl (by omega))
  | f + 1, depth, h1, h2 => by
    by_cases h : 40 < depth
    · intro w s m hs hst hm
      have e : pNode d (f + 1) depth m s.pos = .error s.pos := by simp only [pNode, if_pos (Or.inl h)]
      rw [e]
      exact below_fails nb rb fb b dv depth w s m hst hm (by omega) (Or.inl h)
    · exact below_step nb rb fb b dv d f depth (below_any nb rb fb b dv d f (depth + 1) (by omega) (by omega)) (by omega)

/-- The next tree. -/
def pTree (d : List UInt8) (p : Nat) : Got Tr := match pNode d 40 1 0 p with
  | .error e => .error e
  | .ok ((t, _), q) => .ok (t, q)
abbrev TreeV (w : World) : Tr → Value → World → Prop := fun t v w' => TrAt w' (Fresh w w') v t
/-- The memory that a reading of a node begins with. -/
def W4 (w : World) (b : Nat) : World := (((w.alloc (.cells #[.pointer (some ⟨b, 0, none⟩)] 47)).alloc (.cells zeroN 25)).alloc (.cells #[.int .i64 0] 3)).alloc (.cells #[.func (.func 58) #[] #[.pointer (some ⟨w.heap.size + 1 + 1, 0, none⟩), .pointer (some ⟨w.heap.size, 0, none⟩), .pointer (some ⟨w.heap.size + 1 + 1 + 1, 0, none⟩)]] 84)
theorem W4_heap (w : World) (b : Nat) : (W4 w b).heap[w.heap.size]? = some (.cells #[.pointer (some ⟨b, 0, none⟩)] 47 (0, 0)) ∧ (W4 w b).heap[w.heap.size + 1]? = some (.cells zeroN 25 (0, 0)) ∧ (W4 w b).heap[w.heap.size + 1 + 1]? = some (.cells #[.int .i64 0] 3 (0, 0)) ∧
    (W4 w b).heap[w.heap.size + 1 + 1 + 1]? = some (.cells #[.func (.func 58) #[] #[.pointer (some ⟨w.heap.size + 1 + 1, 0, none⟩), .pointer (some ⟨w.heap.size, 0, none⟩), .pointer (some ⟨w.heap.size + 1 + 1 + 1, 0, none⟩)]] 84 (0, 0)) := by
  unfold W4
  refine ⟨?_, ?_, ?_, ?_⟩
  · rw [Below.heap_alloc _ _ _ (by rw [World.size_alloc, World.size_alloc, World.size_alloc]; omega), Below.heap_alloc _ _ _ (by rw [World.size_alloc, World.size_alloc]; omega)]; exact heap_alloc2_old w _ _
  · rw [Below.heap_alloc _ _ _ (by rw [World.size_alloc, World.size_alloc, World.size_alloc]; omega), Below.heap_alloc _ _ _ (by rw [World.size_alloc, World.size_alloc]; omega)]; exact heap_alloc2_new w _ _
  · rw [Below.heap_alloc _ _ _ (by simp)]
    have := heap_alloc_new ((w.alloc (.cells #[.pointer (some ⟨b, 0, none⟩)] 47)).alloc (.cells zeroN 25)) (.cells #[.int .i64 0] 3)
    rw [World.size_alloc, World.size_alloc] at this; exact this
  · have := heap_alloc_new (((w.alloc (.cells #[.pointer (some ⟨b, 0, none⟩)] 47)).alloc (.cells zeroN 25)).alloc (.cells #[.int .i64 0] 3)) (.cells #[.func (.func 58) #[] #[.pointer (some ⟨w.heap.size + 1 + 1, 0, none⟩), .pointer (some ⟨w.heap.size, 0, none⟩), .pointer (some ⟨w.heap.size + 1 + 1 + 1, 0, none⟩)]] 84)
    rw [World.size_alloc, World.size_alloc, World.size_alloc] at this; exact this
theorem W4_touched (w : World) (b : Nat) (S : Nat → Prop) : Touched w (W4 w b) S := ((((Touched.refl w S).alloc _).alloc _).alloc _).alloc _
theorem W4_st {w : World} {b : Nat} {dv : Value} {s : Rd} (h : RdAt w b dv s) : NodeSt (W4 w b) (w.heap.size + 1 + 1) w.heap.size (w.heap.size + 1 + 1 + 1) b dv s 0 := by
  obtain ⟨a1, a2, a3, a4⟩ := W4_heap w b
  exact ⟨(((h.alloc _).alloc _).alloc _).alloc _, a3, a1, a4⟩

set_option maxRecDepth 100000 in
set_option maxHeartbeats 2000000 in
theorem node_any (w : World) (b : Nat) (dv : Value) (s : Rd) (h : RdAt w b dv s) : Calls Tryd.prog 45 #[.pointer (some ⟨b, 0, none⟩)] w (OutC (TreeV w) w b dv s (pTree s.data s.pos)) := by
  have hmf : ∀ (fn : Fn) (first cap : Array Value) (w : World), (Instr.makeFunc fn first cap).run Tryd.prog w = .ok (.func fn first cap) w := fun _ _ _ _ => rfl
  have hc : Calls Tryd.prog 58 #[.int .i64 1, .pointer (some ⟨w.heap.size + 1 + 1, 0, none⟩), .pointer (some ⟨w.heap.size, 0, none⟩), .pointer (some ⟨w.heap.size + 1 + 1 + 1, 0, none⟩)] (W4 w b) (NodeOut (W4 w b) (w.heap.size + 1 + 1) w.heap.size (w.heap.size + 1 + 1 + 1) b dv s (pNode s.data 40 1 0 s.pos)) :=
    below_any (w.heap.size + 1 + 1) w.heap.size (w.heap.size + 1 + 1 + 1) b dv s.data 40 1 (by omega) (by omega) (W4 w b) s 0 rfl (W4_st h) (by omega)
  have hbl := lt_of_heap h.here
  have hdl := owns_lt h.owns
  have hsz : (W4 w b).heap.size = w.heap.size + 1 + 1 + 1 + 1 := by unfold W4; simp
  have hbx : ∀ w5, Touched (W4 w b) w5 (NbR b (w.heap.size + 1 + 1)) → w5.heap[w.heap.size + 1]? = some (.cells zeroN 25 (0, 0)) := fun w5 ht => (ht.block _ (by rw [hsz]; omega) (fun e => by rcases e with e | e <;> omega)).trans (W4_heap w b).2.1
  unfold pTree
  cases hp : pNode s.data 40 1 0 s.pos with
  | error p =>
    rw [hp] at hc
    have HC := Lib.hid hc
    clear hc h hp hbx hbl hdl hsz
    go_enter Tryd.func45, Tryd.ntmps45
    go_wp2_with (go_at_call 58; refine HC.out.mono ?_; rintro e w5 ⟨rfl, h1, h2⟩)
    exact ⟨rfl, rfl, h1, ⟨h2.os, h2.tape, h2.output, by have := h2.size; have := (W4_touched w b (fun _ => False)).size; omega, fun k hk hn => by
      have h3 := (W4_touched w b (fun _ => False)).size
      rw [h2.block k (by omega) (fun e => by rcases e with e | e; exact hn e; omega), (W4_touched w b (fun _ => False)).block k hk id]⟩⟩
  | ok x =>
    obtain ⟨⟨t, m⟩, q⟩ := x
    rw [hp] at hc
    have HC := Lib.hid (And.intro hc (And.intro hbx (And.intro hbl (And.intro hdl hsz))))
    clear hc h hp hbx hbl hdl hsz
    go_enter Tryd.func45, Tryd.ntmps45
    go_wp2_with (go_at_call 58; refine HC.out.1.mono ?_; rintro e w5 ⟨v, rfl, ⟨ka, kcap, rfl, hcp, hk⟩, h1, h2⟩; have hg := HC.out.2.1 w5 h2; have d0 : w5.cell? ⟨w.heap.size + 1, 0, none⟩ = some (.int .i64 0) := (by rw [cell_of_row w5 _ 0 _ _ _ hg]; rfl); have d1 : w5.cell? ⟨w.heap.size + 1, 1, none⟩ = some (.int .i64 0) := (by rw [cell_of_row w5 _ 1 _ _ _ hg]; rfl); have d2 : w5.cell? ⟨w.heap.size + 1, 2, none⟩ = some (.string ⟨#[]⟩) := (by rw [cell_of_row w5 _ 2 _ _ _ hg]; rfl); have d3 : w5.cell? ⟨w.heap.size + 1, 3, none⟩ = some (.slice none 0 0) := (by rw [cell_of_row w5 _ 3 _ _ _ hg]; rfl); have df : ∀ j, w5.frozen? ⟨w.heap.size + 1, j, none⟩ = false := (fun j => frozen_of_row w5 _ j _ _ hg); obtain ⟨len, hlen⟩ : ∃ len, len = foLen t.kids := ⟨_, rfl⟩; rw [← hlen]; have H1 := Lib.hid (And.intro h1 (And.intro h2 (And.intro hg (And.intro hcp (And.intro hk hlen))))); clear h1 h2 hg hcp hk hlen)
    obtain ⟨g1, g2, g3, g4, g5, g6⟩ := H1.out
    obtain ⟨s1, s2, s3⟩ := set4 g3 (.int .i64 t.id) (.int .i64 t.kind) (.string t.text) (.slice ka len kcap)
    refine bodyPost_ret (results_cell_row rfl _ _ (w.heap.size + 1) 25 _ (0, 0) _ rfl s1 Tryd.underlying25 rfl (by kernel_rfl)) rfl ?_
    obtain ⟨_, _, hbl, hdl, hsz⟩ := HC.out
    have h3 := g2.size
    refine ⟨_, rfl, ⟨ka, kcap, by rw [g6], g4, g5.kept fun x hx => ?_⟩, g1.rd.kept s2 (by omega) (fun g hg e => by have := hdl g hg; omega), ⟨?_, ?_, ?_, by rw [s3]; omega, fun k hk hn => ?_⟩⟩
    · have hx1 := hx.1
      exact ⟨⟨by omega, by rw [s3]; exact hx.2⟩, s2.block x hx.2 (by omega)⟩
    · exact s2.os.trans g2.os
    · exact s2.tape.trans g2.tape
    · exact s2.output.trans g2.output
    · rw [s2.block k (by omega) (by omega), g2.block k (by omega) (fun e => by rcases e with e | e; exact hn e; omega), (W4_touched w b (fun _ => False)).block k hk id]
end Go.Proofs.YteccnekdmehloaaDoor
