/-
  The calls of a reader of layer 3: what Small, Text, Node, Steps and Count tell of any reader. No condition but that a size is at least 1.
-/
import Derived.Test.YtljlijdgocfofaaCToldN
namespace Go.Proofs.Ytljlijdgocfofaa
open Go.RowKit
open Extern.Stop (cell)

/-- What a call tells: z, the zero thing, if the reader failed before or fails now. -/
def MethR {α : Type} (z : Value) (V : α → Value → World → Prop) (w : World) (b : Nat) (dv : Value) (s : Rd) (o : Got α) (v : Value) (w' : World) : Prop :=
  if s.bad then v = z ∧ RdAt w' b dv s ∧ Touched w w' (fun k => k = b) else
  match o with
  | .ok (x, q) => V x v w' ∧ RdAt w' b dv { s with pos := q } ∧ Touched w w' (fun k => k = b)
  | .error p => v = z ∧ RdAt w' b dv { s with pos := p, bad := true } ∧ Touched w w' (fun k => k = b)
theorem meth_of {α : Type} {f : FuncId} {args : Array Value} {z : Value} {V : α → Value → World → Prop} {w : World} {b : Nat} {dv : Value} {s : Rd} {o : Got α}
    (hbad : s.bad = true → Calls Try.prog f args w (ZeroC z w b dv s))
    (hok : ∀ x q, o = .ok (x, q) → s.bad = false → Calls Try.prog f args w (ReadC (fun v w' => V x v w') w b dv { s with pos := q }))
    (herr : ∀ p, o = .error p → s.bad = false → Calls Try.prog f args w (ZeroC z w b dv { s with pos := p, bad := true })) :
    Calls Try.prog f args w (RetC (MethR z V w b dv s o)) := by
  cases hb : s.bad with
  | true => exact (hbad hb).mono fun e w' ⟨h1, h2, h3⟩ => ⟨z, h1, by unfold MethR; rw [if_pos hb]; exact ⟨rfl, h2, h3⟩⟩
  | false =>
    have hne : ¬ s.bad = true := by rw [hb]; decide
    cases o with
    | error p => exact (herr p rfl hb).mono fun e w' ⟨h1, h2, h3⟩ => ⟨z, h1, by unfold MethR; rw [if_neg hne]; exact ⟨rfl, h2, h3⟩⟩
    | ok x => exact (hok x.1 x.2 rfl hb).mono fun e w' ⟨v, h1, h2, h3, h4⟩ => ⟨v, h1, by unfold MethR; rw [if_neg hne]; exact ⟨h2, h3, h4⟩⟩

theorem Small_any (w : World) (b : Nat) (dv : Value) (s : Rd) (h : RdAt w b dv s) : Calls Try.prog 21 #[.pointer (some ⟨b, 0, none⟩)] w (RetC (MethR (.int .i8 0) (fun n v _ => v = .int .i8 n) w b dv s (pSmall s.data s.pos))) :=
  Small_call w _ _ (meth_of (fun hb => told_small_bad w b dv s h hb _)
    (fun x q ho hb => told_small_ok w b dv s { s with pos := q } h hb hb (fun v _ => v = .int .i8 x) (by have := small_any _ b dv s (h.alloc (boxOf b)); rw [ho] at this; exact this))
    (fun p ho hb => told_small_fell w b dv s h hb p (by have := small_any _ b dv s (h.alloc (boxOf b)); rw [ho] at this; exact this)))
theorem Text_any (w : World) (b : Nat) (dv : Value) (s : Rd) (h : RdAt w b dv s) : Calls Try.prog 23 #[.pointer (some ⟨b, 0, none⟩)] w (RetC (MethR (.string ⟨#[]⟩) TextV w b dv s (pText s.data s.pos))) :=
  Text_call w _ _ (meth_of (fun hb => told_text_bad w b dv s h hb _)
    (fun x q ho hb => told_text_ok w b dv s { s with pos := q } h hb hb (fun v _ => v = .string x) (by have := text_any _ b dv s (h.alloc (boxOf b)); rw [ho] at this; exact this))
    (fun p ho hb => told_text_fell w b dv s h hb p (by have := text_any _ b dv s (h.alloc (boxOf b)); rw [ho] at this; exact this)))
theorem NumberM_any (w : World) (b : Nat) (dv : Value) (s : Rd) (h : RdAt w b dv s) : Calls Try.prog 19 #[.pointer (some ⟨b, 0, none⟩)] w (RetC (MethR (.int .i64 0) IntV w b dv s (pNum s.data s.pos))) :=
  Number_call w _ _ (meth_of (fun hb => told_int_bad w b dv s h hb _)
    (fun x q ho hb => told_int_ok w b dv s { s with pos := q } h hb hb (fun v _ => v = .int .i64 x) (by have := number_any _ b dv s (h.alloc (boxOf b)); rw [ho] at this; exact this))
    (fun p ho hb => told_int_fell w b dv s h hb p (by have := number_any _ b dv s (h.alloc (boxOf b)); rw [ho] at this; exact this)))
theorem stepsV_box {w : World} {b : Nat} {l : List Stp} {v : Value} {w' : World} (h : StepsV (w.alloc (boxOf b)) l v w') : StepsV w l v w' := by
  obtain ⟨a, n, cap, h1, h2, h3, h4⟩ := h
  exact ⟨a, n, cap, h1, h2, h3, h4.kept fun x hx => ⟨⟨by have := hx.1; rw [World.size_alloc] at this; omega, hx.2⟩, rfl⟩⟩
theorem Steps_any (w : World) (b : Nat) (dv : Value) (s : Rd) (h : RdAt w b dv s) : Calls Try.prog 28 #[.pointer (some ⟨b, 0, none⟩)] w (RetC (MethR (.slice none 0 0) (StepsV w) w b dv s (pSteps s.data s.pos))) :=
  Steps_call w _ _ (meth_of (fun hb => told_steps_bad w b dv s h hb _)
    (fun x q ho hb => told_steps_ok w b dv s { s with pos := q } h hb hb (StepsV w x) (by
      have := steps_any _ b dv s (h.alloc (boxOf b)); rw [ho] at this
      exact this.mono fun e w' ⟨v, h1, h2, h3, h4⟩ => ⟨v, h1, stepsV_box h2, h3, h4⟩))
    (fun p ho hb => told_steps_fell w b dv s h hb p (by have := steps_any _ b dv s (h.alloc (boxOf b)); rw [ho] at this; exact this)))

/-- A node's four cells. -/
def FourR (R : Value → World → Prop) : Value → World → Prop := fun v w' => ∃ c0 c1 c2 c3, v = .agg #[c0, c1, c2, c3] ∧ (c0.oneCell' = true ∧ c1.oneCell' = true ∧ c2.oneCell' = true ∧ c3.oneCell' = true) ∧ R v w'
set_option maxHeartbeats 1000000 in
theorem Node_any (w : World) (b : Nat) (dv : Value) (s : Rd) (h : RdAt w b dv s) : Calls Try.prog 25 #[.pointer (some ⟨b, 0, none⟩)] w (RetC (MethR zeroNV (TreeV w) w b dv s (pTree s.data s.pos))) := by
  have hmf : ∀ (fn : Fn) (first cap : Array Value) (w : World), (Instr.makeFunc fn first cap).run Try.prog w = .ok (.func fn first cap) w := fun _ _ _ _ => rfl
  have hlt := lt_of_heap h.here
  have hdl := owns_lt h.owns
  have ht : Calls Try.prog 49 #[.pointer (some ⟨b, 0, none⟩), .func (.func 50) #[.pointer (some ⟨b, 0, none⟩)] #[]] (w.alloc (.cells zeroN 25)) (RetC (MethR zeroNV (TreeV (w.alloc (.cells zeroN 25))) (w.alloc (.cells zeroN 25)) b dv s (pTree s.data s.pos))) :=
    meth_of (fun hb => told_node_bad _ b dv s (h.alloc _) hb _)
      (fun x q ho hb => told_node_ok _ b dv s { s with pos := q } x (h.alloc _) hb hb (by have := node_any (WB (w.alloc (.cells zeroN 25)) b) b dv s (((h.alloc _).alloc _).alloc _); rw [ho] at this; exact this))
      (fun p ho hb => told_node_fell _ b dv s (h.alloc _) hb p (by have := node_any (WB (w.alloc (.cells zeroN 25)) b) b dv s (((h.alloc _).alloc _).alloc _); rw [ho] at this; exact this))
  have hform : ∀ v w', MethR zeroNV (TreeV (w.alloc (.cells zeroN 25))) (w.alloc (.cells zeroN 25)) b dv s (pTree s.data s.pos) v w' → (∃ i k t a n c, v = .agg #[.int .i64 i, .int .i64 k, .string t, .slice a n c]) ∧ Touched (w.alloc (.cells zeroN 25)) w' (fun k => k = b) := by
    intro v w' hm
    unfold MethR at hm
    split at hm
    · exact ⟨⟨0, 0, ⟨#[]⟩, none, 0, 0, hm.1⟩, hm.2.2⟩
    · split at hm
      · obtain ⟨⟨ka, kcap, hv, _⟩, _, h3⟩ := hm
        exact ⟨⟨_, _, _, _, _, _, hv⟩, h3⟩
      · exact ⟨⟨0, 0, ⟨#[]⟩, none, 0, 0, hm.1⟩, hm.2.2⟩
  have HT := Lib.hid (And.intro ht (And.intro hform (And.intro hlt hdl)))
  clear ht hform hlt hdl h
  go_enter Try.func25, Try.ntmps25
  go_wp2_with (go_at_call 49; refine HT.out.1.mono ?_; rintro e w1 ⟨v, rfl, hm⟩; obtain ⟨⟨i, k, t, a, n, c, rfl⟩, h3⟩ := HT.out.2.1 _ _ hm; have hg : w1.heap[w.heap.size]? = some (.cells zeroN 25 (0, 0)) := (h3.block _ (by simp) (by have := HT.out.2.2.1; omega)).trans (heap_alloc_new w _); have d0 : w1.cell? ⟨w.heap.size, 0, none⟩ = some (.int .i64 0) := (by rw [cell_of_row w1 _ 0 _ _ _ hg]; rfl); have d1 : w1.cell? ⟨w.heap.size, 1, none⟩ = some (.int .i64 0) := (by rw [cell_of_row w1 _ 1 _ _ _ hg]; rfl); have d2 : w1.cell? ⟨w.heap.size, 2, none⟩ = some (.string ⟨#[]⟩) := (by rw [cell_of_row w1 _ 2 _ _ _ hg]; rfl); have d3 : w1.cell? ⟨w.heap.size, 3, none⟩ = some (.slice none 0 0) := (by rw [cell_of_row w1 _ 3 _ _ _ hg]; rfl); have df : ∀ j, w1.frozen? ⟨w.heap.size, j, none⟩ = false := (fun j => frozen_of_row w1 _ j _ _ hg); have H1 := Lib.hid (And.intro hg (And.intro hm h3)); clear hg hm h3)
  obtain ⟨g1, g2, g3⟩ := H1.out
  obtain ⟨s1, s2, s3⟩ := set4 g1 (.int .i64 i) (.int .i64 k) (.string t) (.slice a n c)
  refine bodyPost_ret (results_cell_row rfl _ _ w.heap.size 25 _ (0, 0) _ rfl s1 Try.underlying25 rfl (by kernel_rfl)) rfl ?_
  have hb := HT.out.2.2.1
  have hd := HT.out.2.2.2
  have tt : ∀ {W : World}, Touched (w.alloc (.cells zeroN 25)) w1 (fun k => k = b) → Touched w1 W (fun k => k = w.heap.size) → Touched w W (fun k => k = b) := fun h1 h2 => (((Touched.refl w _).alloc _).trans h1 (fun k hk => Or.inl hk)).trans h2 (fun k hk => Or.inr (by omega))
  refine ⟨_, rfl, ?_⟩
  unfold MethR at g2 ⊢
  split
  · rename_i hbad
    rw [if_pos hbad] at g2
    exact ⟨g2.1, g2.2.1.kept s2 (by omega) (fun g hg e => by have := hd g hg; omega), tt g3 s2⟩
  · rename_i hbad
    rw [if_neg hbad] at g2
    cases hp : pTree s.data s.pos with
    | error p =>
      rw [hp] at g2
      exact ⟨g2.1, g2.2.1.kept s2 (by omega) (fun g hg e => by have := hd g hg; omega), tt g3 s2⟩
    | ok x =>
      rw [hp] at g2
      obtain ⟨⟨ka, kcap, hv, hcp, hk⟩, g4, _⟩ := g2
      refine ⟨⟨ka, kcap, hv, hcp, hk.kept fun y hy => ?_⟩, g4.kept s2 (by omega) (fun g hg e => by have := hd g hg; omega), tt g3 s2⟩
      have hy1 := hy.1
      rw [World.size_alloc] at hy1
      exact ⟨⟨by omega, by rw [s3]; exact hy.2⟩, s2.block y hy.2 (by omega)⟩
end Go.Proofs.Ytljlijdgocfofaa
