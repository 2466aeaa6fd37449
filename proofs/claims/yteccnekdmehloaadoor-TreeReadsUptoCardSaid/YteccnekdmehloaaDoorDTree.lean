/-
  The document's Node. No condition.
-/
import Derived.Test.YteccnekdmehloaaDoorDNode
namespace Go.Proofs.YteccnekdmehloaaDoor
open Go.RowKit
open Extern.Stop (cell)

/-- What the document's node answers of any reader. -/
def NodeX (w : World) (rb : Nat) (a : Option Addr) (cap : Nat) (s : Rd) (o : Got Tr) (e : Ending) (w' : World) : Prop :=
  ∃ (id kd : Int) (tx : ByteArray) (ka : Option Addr) (kl kc : Nat) (m' : Int), e = .returned (.agg #[.int .i64 id, .int .i64 kd, .string tx, .slice ka kl kc]) ∧
    RfAt w' rb a cap (aft s o) m' ∧ Touched w w' (fun k => k = rb) ∧
    ∀ t q, s.bad = false → o = .ok (t, q) → TrAt w' (Fresh w w') (.agg #[.int .i64 id, .int .i64 kd, .string tx, .slice ka kl kc]) t
/-- What the document's Node answers. -/
def TreeC (w : World) (rb : Nat) (a : Option Addr) (cap : Nat) (s : Rd) (o : Got Tr) (e : Ending) (w' : World) : Prop :=
  ∃ (id kd : Int) (tx : ByteArray) (ka : Option Addr) (kl kc : Nat) (m' : Int), e = .returned (.agg #[.int .i64 id, .int .i64 kd, .string tx, .slice ka kl kc]) ∧
    RfAt w' rb a cap (aft s o) m' ∧ Touched w w' (fun k => k = rb) ∧
    (Fz s o → Value.agg #[.int .i64 id, .int .i64 kd, .string tx, .slice ka kl kc] = zeroNV) ∧
    ∀ t q, s.bad = false → o = .ok (t, q) → TrAt w' (Fresh w w') (.agg #[.int .i64 id, .int .i64 kd, .string tx, .slice ka kl kc]) t
theorem tree_aft {s : Rd} {d : List UInt8} {p : Nat} : aft s (pTree d p) = aft s (pNode d 40 1 0 p) := by
  unfold pTree aft
  cases pNode d 40 1 0 p with
  | error e => rfl
  | ok x => obtain ⟨⟨t, m⟩, q⟩ := x; rfl
set_option maxHeartbeats 1000000 in
theorem dNode_bad (w : World) (rb : Nat) (a : Option Addr) (cap : Nat) (s : Rd) (m : Int) (h : RfAt w rb a cap s m) (hb : s.bad = true) (o : Got Tr) :
    Calls Tryd.prog 46 #[.pointer (some ⟨rb, 0, none⟩), .int .i64 1] w (NodeX w rb a cap s o) := by
  obtain ⟨at_, hh, _⟩ := h.here
  have hlt := lt_of_heap hh
  obtain ⟨c0, c2, c3, cf, at2, c1, _⟩ := (h.alloc (.cells #[.int .i64 0, .int .i64 0, .string ⟨#[]⟩, .slice none 0 0] 25)).cells
  obtain ⟨p, hp0, c2'⟩ := (h.alloc (.cells #[.int .i64 0, .int .i64 0, .string ⟨#[]⟩, .slice none 0 0] 25)).failedP hb
  have hn : decide (0 ≤ p) = true := by simp only [decide_eq_true_eq]; omega
  have H := Lib.hid (And.intro h (And.intro hb hlt))
  clear h hh hb c2 hlt
  go_enter Tryd.func46, Tryd.ntmps46
  go_wp2_with fail
  refine bodyPost_ret (results_cell_row rfl _ _ w.heap.size 25 _ (0, 0) _ rfl (heap_alloc_new w _) Tryd.underlying25 rfl (by kernel_rfl)) rfl ?_
  have hlt := H.out.2.2
  refine ⟨0, 0, ⟨#[]⟩, none, 0, 0, m, rfl, ?_, (Touched.refl w _).alloc _, fun t q e => by rw [H.out.2.1] at e; cases e⟩
  rw [aft_stuck _ H.out.2.1]
  exact H.out.1.alloc _
theorem dNode_x (w : World) (rb : Nat) (a : Option Addr) (cap : Nat) (s : Rd) (h : RfAt w rb a cap s 0) :
    Calls Tryd.prog 46 #[.pointer (some ⟨rb, 0, none⟩), .int .i64 1] w (NodeX w rb a cap s (pTree s.data s.pos)) := by
  by_cases hb : s.bad = true
  · exact dNode_bad w rb a cap s 0 h hb _
  · have hb : s.bad = false := by simpa using hb
    refine (dn_any 40 1 (by omega) (by omega) w rb a cap s 0 h hb (by omega)).mono ?_
    rintro e w' ⟨id, kd, tx, ka, kl, kc, m', he, h1, h2, h3⟩
    refine ⟨id, kd, tx, ka, kl, kc, m', he, by rw [tree_aft]; exact h1, h2, fun t q _ ho => ?_⟩
    unfold pTree at ho
    cases hp : pNode s.data 40 1 0 s.pos with
    | error e => rw [hp] at ho; cases ho
    | ok x =>
      obtain ⟨⟨t', mm⟩, q'⟩ := x
      rw [hp] at ho
      cases ho
      exact (h3 t mm q hp).2

set_option maxHeartbeats 1000000 in
theorem dTree (w : World) (rb : Nat) (a : Option Addr) (cap : Nat) (s : Rd) (m : Int) (h : RfAt w rb a cap s m) :
    Calls Tryd.prog 24 #[.pointer (some ⟨rb, 0, none⟩)] w (TreeC w rb a cap s (pTree s.data s.pos)) := by
  obtain ⟨at_, hh, _⟩ := h.here
  have hlt := lt_of_heap hh
  obtain ⟨c0, c2, c3, cf, at2, c1, _⟩ := (h.alloc (.cells #[.int .i64 0, .int .i64 0, .string ⟨#[]⟩, .slice none 0 0] 25)).cells
  have h1 := (h.alloc (.cells #[.int .i64 0, .int .i64 0, .string ⟨#[]⟩, .slice none 0 0] 25)).nodes 0
  have ht := ((Touched.refl w (fun k => k = rb)).alloc (.cells #[.int .i64 0, .int .i64 0, .string ⟨#[]⟩, .slice none 0 0] 25)).trans (Touched.setCell (S := fun k => k = rb) (a := ⟨rb, 3, none⟩) rfl (.int .i64 0)) (fun k hk => Or.inl hk)
  have hr : ((w.alloc (.cells #[.int .i64 0, .int .i64 0, .string ⟨#[]⟩, .slice none 0 0] 25)).setCell ⟨rb, 3, none⟩ (.int .i64 0)).heap[w.heap.size]? = some (.cells zeroN 25 (0, 0)) := (Below.heap_setCell _ _ _ _ (by show w.heap.size ≠ rb; omega)).trans (heap_alloc_new w _)
  have hsz : ((w.alloc (.cells #[.int .i64 0, .int .i64 0, .string ⟨#[]⟩, .slice none 0 0] 25)).setCell ⟨rb, 3, none⟩ (.int .i64 0)).heap.size = w.heap.size + 1 := by simp [World.setCell]
  have hc := dNode_x _ rb a cap s h1
  obtain ⟨out, hout⟩ : ∃ out, out = pTree s.data s.pos := ⟨_, rfl⟩
  rw [← hout] at hc ⊢
  have HC := Lib.hid (And.intro hc (And.intro ht (And.intro hr (And.intro hlt (And.intro h.low hsz)))))
  clear hc ht hr h h1 hh hout hsz hlt
  by_cases hz : (aft s out).bad = true
  · have HZ := Lib.hid hz
    clear hz
    go_enter Tryd.func24, Tryd.ntmps24
    go_wp2_with (go_at_call 46; refine HC.out.1.mono ?_; rintro e w2 ⟨yi, yk, yt, ya, yl, yc, m', rfl, h1, h2, h3⟩; obtain ⟨p, hp0, q2⟩ := (h1.alloc (.cells #[.int .i64 yi, .int .i64 yk, .string yt, .slice ya yl yc] 25)).failedP HZ.out; have hn : decide (0 ≤ p) = true := (by simp only [decide_eq_true_eq]; omega); have hg0 : w2.heap[w.heap.size]? = some (.cells zeroN 25 (0, 0)) := (h2.block _ (by rw [HC.out.2.2.2.2.2]; omega) (by have := HC.out.2.2.2.1; omega)).trans HC.out.2.2.1; have hg : (w2.alloc (.cells #[.int .i64 yi, .int .i64 yk, .string yt, .slice ya yl yc] 25)).heap[w.heap.size]? = some (.cells zeroN 25 (0, 0)) := (Below.heap_alloc _ _ _ (lt_of_heap hg0)).trans hg0; have d0 : (w2.alloc (.cells #[.int .i64 yi, .int .i64 yk, .string yt, .slice ya yl yc] 25)).cell? ⟨w.heap.size, 0, none⟩ = some (.int .i64 0) := (by rw [cell_of_row _ _ 0 _ _ _ hg]; rfl); have d1 : (w2.alloc (.cells #[.int .i64 yi, .int .i64 yk, .string yt, .slice ya yl yc] 25)).cell? ⟨w.heap.size, 1, none⟩ = some (.int .i64 0) := (by rw [cell_of_row _ _ 1 _ _ _ hg]; rfl); have d2 : (w2.alloc (.cells #[.int .i64 yi, .int .i64 yk, .string yt, .slice ya yl yc] 25)).cell? ⟨w.heap.size, 2, none⟩ = some (.string ⟨#[]⟩) := (by rw [cell_of_row _ _ 2 _ _ _ hg]; rfl); have d3 : (w2.alloc (.cells #[.int .i64 yi, .int .i64 yk, .string yt, .slice ya yl yc] 25)).cell? ⟨w.heap.size, 3, none⟩ = some (.slice none 0 0) := (by rw [cell_of_row _ _ 3 _ _ _ hg]; rfl); have df : ∀ j, (w2.alloc (.cells #[.int .i64 yi, .int .i64 yk, .string yt, .slice ya yl yc] 25)).frozen? ⟨w.heap.size, j, none⟩ = false := (fun j => frozen_of_row _ _ j _ _ hg); have H1 := Lib.hid (And.intro h1 (And.intro h2 hg)); clear h1 h2 h3 hg hg0)
    obtain ⟨g1, g2, g3⟩ := H1.out
    obtain ⟨_, ht, hr, hlt, hlow, hsz⟩ := HC.out
    obtain ⟨s1, s2, s3⟩ := set4 g3 (.int .i64 0) (.int .i64 0) (.string ⟨#[]⟩) (.slice none 0 0)
    refine bodyPost_ret (results_cell_row rfl _ _ w.heap.size 25 _ (0, 0) _ rfl s1 Tryd.underlying25 rfl (by kernel_rfl)) rfl ?_
    refine ⟨0, 0, ⟨#[]⟩, none, 0, 0, m', rfl, ?_, ((ht.trans g2 (fun k hk => Or.inl hk)).alloc _).trans s2 (fun k hk => Or.inr (by omega)), fun _ => rfl, fun t q hb ho => ?_⟩
    · exact (g1.alloc _).kept s2 (by omega) (fun h0 ad ea hl e => by rw [aft_data] at h0; have := hlow h0 ad ea; omega)
    · have := HZ.out
      rw [aft_ok hb ho] at this
      rw [hb] at this; cases this
  · have hz : (aft s out).bad = false := by simpa using hz
    have HZ := Lib.hid hz
    clear hz
    go_enter Tryd.func24, Tryd.ntmps24
    go_wp2_with (go_at_call 46; refine HC.out.1.mono ?_; rintro e w2 ⟨yi, yk, yt, ya, yl, yc, m', rfl, h1, h2, h3⟩; obtain ⟨q0, q1, q2, q3, qf⟩ := (h1.alloc (.cells #[.int .i64 yi, .int .i64 yk, .string yt, .slice ya yl yc] 25)).good HZ.out; have hg0 : w2.heap[w.heap.size]? = some (.cells zeroN 25 (0, 0)) := (h2.block _ (by rw [HC.out.2.2.2.2.2]; omega) (by have := HC.out.2.2.2.1; omega)).trans HC.out.2.2.1; have hg : (w2.alloc (.cells #[.int .i64 yi, .int .i64 yk, .string yt, .slice ya yl yc] 25)).heap[w.heap.size]? = some (.cells zeroN 25 (0, 0)) := (Below.heap_alloc _ _ _ (lt_of_heap hg0)).trans hg0; have d0 : (w2.alloc (.cells #[.int .i64 yi, .int .i64 yk, .string yt, .slice ya yl yc] 25)).cell? ⟨w.heap.size, 0, none⟩ = some (.int .i64 0) := (by rw [cell_of_row _ _ 0 _ _ _ hg]; rfl); have d1 : (w2.alloc (.cells #[.int .i64 yi, .int .i64 yk, .string yt, .slice ya yl yc] 25)).cell? ⟨w.heap.size, 1, none⟩ = some (.int .i64 0) := (by rw [cell_of_row _ _ 1 _ _ _ hg]; rfl); have d2 : (w2.alloc (.cells #[.int .i64 yi, .int .i64 yk, .string yt, .slice ya yl yc] 25)).cell? ⟨w.heap.size, 2, none⟩ = some (.string ⟨#[]⟩) := (by rw [cell_of_row _ _ 2 _ _ _ hg]; rfl); have d3 : (w2.alloc (.cells #[.int .i64 yi, .int .i64 yk, .string yt, .slice ya yl yc] 25)).cell? ⟨w.heap.size, 3, none⟩ = some (.slice none 0 0) := (by rw [cell_of_row _ _ 3 _ _ _ hg]; rfl); have df : ∀ j, (w2.alloc (.cells #[.int .i64 yi, .int .i64 yk, .string yt, .slice ya yl yc] 25)).frozen? ⟨w.heap.size, j, none⟩ = false := (fun j => frozen_of_row _ _ j _ _ hg); have H1 := Lib.hid (And.intro h1 (And.intro h2 (And.intro hg h3))); clear h1 h2 h3 hg hg0)
    obtain ⟨g1, g2, g3, g4⟩ := H1.out
    obtain ⟨_, ht, hr, hlt, hlow, hsz⟩ := HC.out
    obtain ⟨s1, s2, s3⟩ := set4 g3 (.int .i64 yi) (.int .i64 yk) (.string yt) (.slice ya yl yc)
    refine bodyPost_ret (results_cell_row rfl _ _ w.heap.size 25 _ (0, 0) _ rfl s1 Tryd.underlying25 rfl (by kernel_rfl)) rfl ?_
    refine ⟨yi, yk, yt, ya, yl, yc, m', rfl, ?_, ((ht.trans g2 (fun k hk => Or.inl hk)).alloc _).trans s2 (fun k hk => Or.inr (by omega)), fun hf => ?_, fun t q hb ho => ?_⟩
    · exact (g1.alloc _).kept s2 (by omega) (fun h0 ad ea hl e => by rw [aft_data] at h0; have := hlow h0 ad ea; omega)
    · have := aft_bad hf
      rw [HZ.out] at this; cases this
    · obtain ⟨ka, kcap, u1, u2, u3⟩ := g4 t q hb ho
      refine ⟨ka, kcap, u1, u2, u3.kept fun x hx => ?_⟩
      have hx1 := hx.1
      have hx2 := hx.2
      rw [hsz] at hx1
      exact ⟨⟨by omega, by rw [s3, World.size_alloc]; omega⟩, (s2.block x (by rw [World.size_alloc]; omega) (by omega)).trans (Below.heap_alloc _ _ _ hx2)⟩
end Go.Proofs.YteccnekdmehloaaDoor
