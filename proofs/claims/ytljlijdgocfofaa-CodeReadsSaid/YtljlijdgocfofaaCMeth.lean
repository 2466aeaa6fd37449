/-
  The calls of a reader of layer 3: what Number and End answer; what each answers of no reader. No condition.
-/
import Derived.Test.YtljlijdgocfofaaCTold
import Derived.Test.YtljlijdgocfofaaCClone
namespace Go.Proofs.Ytljlijdgocfofaa
open Go.RowKit
open Extern.Stop (cell)

def RetC (R : Value → World → Prop) (e : Ending) (w' : World) : Prop := ∃ v, e = .returned v ∧ R v w'

theorem Number_call (w : World) (r : Value) (R : Value → World → Prop) (h : Calls Try.prog 42 #[r, .func (.func 43) #[r] #[]] w (RetC R)) : Calls Try.prog 19 #[r] w (RetC R) := by
  have hmf : ∀ (fn : Fn) (first cap : Array Value) (w : World), (Instr.makeFunc fn first cap).run Try.prog w = .ok (.func fn first cap) w := fun _ _ _ _ => rfl
  have H := Lib.hid h
  clear h
  go_enter Try.func19, Try.ntmps19
  go_wp2_with (go_at_call 42; refine H.out.mono ?_; clear H; rintro e w1 ⟨v, rfl, h1⟩; have H1 := Lib.hid h1; clear h1)
  go_ret
  exact ⟨_, rfl, H1.out⟩
theorem Small_call (w : World) (r : Value) (R : Value → World → Prop) (h : Calls Try.prog 45 #[r, .func (.func 46) #[r] #[]] w (RetC R)) : Calls Try.prog 21 #[r] w (RetC R) := by
  have hmf : ∀ (fn : Fn) (first cap : Array Value) (w : World), (Instr.makeFunc fn first cap).run Try.prog w = .ok (.func fn first cap) w := fun _ _ _ _ => rfl
  have H := Lib.hid h
  clear h
  go_enter Try.func21, Try.ntmps21
  go_wp2_with (go_at_call 45; refine H.out.mono ?_; clear H; rintro e w1 ⟨v, rfl, h1⟩; have H1 := Lib.hid h1; clear h1)
  go_ret
  exact ⟨_, rfl, H1.out⟩
theorem Text_call (w : World) (r : Value) (R : Value → World → Prop) (h : Calls Try.prog 47 #[r, .func (.func 48) #[r] #[]] w (RetC R)) : Calls Try.prog 23 #[r] w (RetC R) := by
  have hmf : ∀ (fn : Fn) (first cap : Array Value) (w : World), (Instr.makeFunc fn first cap).run Try.prog w = .ok (.func fn first cap) w := fun _ _ _ _ => rfl
  have H := Lib.hid h
  clear h
  go_enter Try.func23, Try.ntmps23
  go_wp2_with (go_at_call 47; refine H.out.mono ?_; clear H; rintro e w1 ⟨v, rfl, h1⟩; have H1 := Lib.hid h1; clear h1)
  go_ret
  exact ⟨_, rfl, H1.out⟩
theorem Steps_call (w : World) (r : Value) (R : Value → World → Prop) (h : Calls Try.prog 52 #[r, .func (.func 53) #[r] #[]] w (RetC R)) : Calls Try.prog 28 #[r] w (RetC R) := by
  have hmf : ∀ (fn : Fn) (first cap : Array Value) (w : World), (Instr.makeFunc fn first cap).run Try.prog w = .ok (.func fn first cap) w := fun _ _ _ _ => rfl
  have H := Lib.hid h
  clear h
  go_enter Try.func28, Try.ntmps28
  go_wp2_with (go_at_call 52; refine H.out.mono ?_; clear H; rintro e w1 ⟨v, rfl, h1⟩; have H1 := Lib.hid h1; clear h1)
  go_ret
  exact ⟨_, rfl, H1.out⟩

def NilC (z : Value) (w : World) : Value → World → Prop := fun v w' => v = z ∧ Below w.heap.size w w'
theorem nil_of {f : FuncId} {args : Array Value} {w : World} {z : Value} (h : Calls Try.prog f args w fun e w' => e = .returned z ∧ Below w.heap.size w w') : Calls Try.prog f args w (RetC (NilC z w)) := h.mono fun _ _ ⟨h1, h2⟩ => ⟨z, h1, rfl, h2⟩
theorem Number_nil (w : World) : Calls Try.prog 19 #[.pointer none] w (RetC (NilC (.int .i64 0) w)) := Number_call w _ _ (nil_of (told_int_nil w _))
theorem Small_nil (w : World) : Calls Try.prog 21 #[.pointer none] w (RetC (NilC (.int .i8 0) w)) := Small_call w _ _ (nil_of (told_small_nil w _))
theorem Text_nil (w : World) : Calls Try.prog 23 #[.pointer none] w (RetC (NilC (.string ⟨#[]⟩) w)) := Text_call w _ _ (nil_of (told_text_nil w _))
theorem Steps_nil (w : World) : Calls Try.prog 28 #[.pointer none] w (RetC (NilC (.slice none 0 0) w)) := Steps_call w _ _ (nil_of (told_steps_nil w _))

set_option maxHeartbeats 1000000 in
theorem Node_nil (w : World) : Calls Try.prog 25 #[.pointer none] w (RetC (NilC (.agg #[.int .i64 0, .int .i64 0, .string ⟨#[]⟩, .slice none 0 0]) w)) := by
  have hmf : ∀ (fn : Fn) (first cap : Array Value) (w : World), (Instr.makeFunc fn first cap).run Try.prog w = .ok (.func fn first cap) w := fun _ _ _ _ => rfl
  have H := Lib.hid (fun w fv => told_node_nil w fv)
  go_enter Try.func25, Try.ntmps25
  go_wp2_with (go_at_call 49; refine (H.out _ _).mono ?_; clear H; rintro e w1 ⟨rfl, h1⟩; have hg := (h1.block w.heap.size (by rw [World.size_alloc]; omega)).trans (heap_alloc_new w _); have d0 : w1.cell? ⟨w.heap.size, 0, none⟩ = some (.int .i64 0) := by { rw [cell_of_row w1 _ 0 _ _ _ hg]; rfl }; have d1 : w1.cell? ⟨w.heap.size, 1, none⟩ = some (.int .i64 0) := by { rw [cell_of_row w1 _ 1 _ _ _ hg]; rfl }; have d2 : w1.cell? ⟨w.heap.size, 2, none⟩ = some (.string ⟨#[]⟩) := by { rw [cell_of_row w1 _ 2 _ _ _ hg]; rfl }; have d3 : w1.cell? ⟨w.heap.size, 3, none⟩ = some (.slice none 0 0) := by { rw [cell_of_row w1 _ 3 _ _ _ hg]; rfl }; have df : ∀ j, w1.frozen? ⟨w.heap.size, j, none⟩ = false := fun j => frozen_of_row w1 _ j _ _ hg; have H1 := Lib.hid (And.intro h1 hg); clear h1 hg)
  have h1 := H1.out.2
  have h2 := heap_setCell_same w1 w.heap.size 0 _ _ (.int .i64 0) h1
  have h3 := heap_setCell_same _ w.heap.size 1 _ _ (.int .i64 0) h2
  have h4 := heap_setCell_same _ w.heap.size 2 _ _ (.string ⟨#[]⟩) h3
  have h5 := heap_setCell_same _ w.heap.size 3 _ _ (.slice none 0 0) h4
  refine bodyPost_ret (results_cell_row rfl _ _ w.heap.size 25 _ (0, 0) _ rfl h5 Try.underlying25 rfl (by kernel_rfl)) rfl ?_
  refine ⟨_, rfl, rfl, ?_⟩
  have hb : Below w.heap.size w w1 := ((Below.refl w.heap.size w).alloc (Nat.le_refl _) _).trans (H1.out.1.mono (by rw [World.size_alloc]; omega))
  exact (((hb.setCell (p := ⟨w.heap.size, 0, none⟩) (Nat.le_refl _) _).setCell (p := ⟨w.heap.size, 1, none⟩) (Nat.le_refl _) _).setCell (p := ⟨w.heap.size, 2, none⟩) (Nat.le_refl _) _).setCell (p := ⟨w.heap.size, 3, none⟩) (Nat.le_refl _) _

set_option maxHeartbeats 1000000 in
theorem Count_nil (w : World) (size most : Int) : Calls Try.prog 31 #[.pointer none, .int .i64 size, .int .i64 most] w (RetC (NilC (.int .i64 0) w)) := by
  have hmf : ∀ (fn : Fn) (first cap : Array Value) (w : World), (Instr.makeFunc fn first cap).run Try.prog w = .ok (.func fn first cap) w := fun _ _ _ _ => rfl
  have H := Lib.hid (fun w fv => told_int_nil w fv)
  go_enter Try.func31, Try.ntmps31
  go_wp2_with (go_at_call 42; refine (H.out _ _).mono ?_; clear H; rintro e w1 ⟨rfl, h1⟩; have H1 := Lib.hid h1; clear h1)
  go_ret
  refine ⟨_, rfl, rfl, ?_⟩
  have h0 : w.heap.size ≤ (w.alloc (Obj.cells #[Value.pointer none] 36)).heap.size := by rw [World.size_alloc]; omega
  have h2 : w.heap.size ≤ ((w.alloc (Obj.cells #[Value.pointer none] 36)).alloc (Obj.cells #[Value.int IntKind.i64 size] 3)).heap.size := by rw [World.size_alloc]; omega
  exact ((((Below.refl w.heap.size w).alloc (Nat.le_refl _) _).alloc h0 _).alloc h2 _).trans (H1.out.mono (by rw [World.size_alloc]; omega))

theorem End_nil (w : World) : Calls Try.prog 33 #[.pointer none] w (RetC fun v w' => v = .tuple #[.int .i64 0, .int .i64 1] ∧ w = w') := by
  go_enter Try.func33, Try.ntmps33
  go_wp2_with fail
  go_ret2
  exact ⟨_, rfl, rfl, rfl⟩

/-- The next number, and the reader behind it. -/
def Rd.number (s : Rd) : Int × Rd :=
  if s.bad then (0, s) else if s.pos + 8 ≤ s.data.length then (s.num, { s with pos := s.pos + 8 }) else (0, { s with pos := s.data.length, bad := true })
theorem zero_ret {f : FuncId} {args : Array Value} {w : World} {z : Value} {b : Nat} {dv : Value} {s : Rd} (h : Calls Try.prog f args w (ZeroC z w b dv s)) : Calls Try.prog f args w (RetC fun v w' => v = z ∧ RdAt w' b dv s ∧ Touched w w' (fun k => k = b)) := h.mono fun _ _ ⟨h1, h2⟩ => ⟨z, h1, rfl, h2⟩
theorem Number_any (w : World) (b : Nat) (dv : Value) (s : Rd) (h : RdAt w b dv s) : Calls Try.prog 19 #[.pointer (some ⟨b, 0, none⟩)] w (RetC fun v w' => v = .int .i64 s.number.1 ∧ RdAt w' b dv s.number.2 ∧ Touched w w' (fun k => k = b)) := by
  apply Number_call
  cases hb : s.bad with
  | true =>
    have e : s.number = (0, s) := by simp [Rd.number, hb]
    rw [e]
    exact zero_ret (told_int_bad w b dv s h hb _)
  | false =>
    by_cases hp : s.pos + 8 ≤ s.data.length
    · have e : s.number = (s.num, { s with pos := s.pos + 8 }) := by simp [Rd.number, hb, hp]
      rw [e]
      exact told_int_ok w b dv s { s with pos := s.pos + 8 } h hb hb (fun v _ => v = .int .i64 s.num) ((number_ok _ b dv s (h.alloc _) hp).mono fun _ _ ⟨h1, h2, h3⟩ => ⟨_, h1, rfl, h2, h3⟩)
    · have e : s.number = (0, { s with pos := s.data.length, bad := true }) := by simp [Rd.number, hb, hp]
      rw [e]
      exact zero_ret (told_int_fell w b dv s h hb s.data.length (number_bad _ b dv s (h.alloc _) (by omega)))

/-- What End tells. -/
def Rd.endV (s : Rd) : Value := if s.bad ∨ s.pos < s.data.length then .tuple #[.int .i64 s.pos, .int .i64 30] else .tuple #[.int .i64 0, .int .i64 0]
theorem End_any (w : World) (b : Nat) (dv : Value) (s : Rd) (h : RdAt w b dv s) : Calls Try.prog 33 #[.pointer (some ⟨b, 0, none⟩)] w (RetC fun v w' => v = s.endV ∧ RdAt w' b dv s ∧ Touched w w' (fun _ => False)) := by
  obtain ⟨c0, c1, c2, f⟩ := h.cells
  obtain ⟨a, cap, hdv⟩ : ∃ a cap, dv = .slice a s.data.length cap := owns_sl h.owns
  have hfit := h.fits
  have hfew := h.few
  have H := Lib.hid h
  subst hdv
  clear h
  cases hb : s.bad with
  | true =>
    have e : s.endV = .tuple #[.int .i64 s.pos, .int .i64 30] := by simp [Rd.endV, hb]
    rw [e]
    rw [hb] at c2
    clear e hb
    go_enter Try.func33, Try.ntmps33
    go_wp2_with (go_quiet (fail))
    go_ret2
    exact ⟨_, rfl, rfl, H.out.drewN _, (Touched.refl _ _).drewN _⟩
  | false =>
    rw [hb] at c2
    by_cases hp : s.pos < s.data.length
    · have e : s.endV = .tuple #[.int .i64 s.pos, .int .i64 30] := by simp [Rd.endV, hp]
      rw [e]
      have hd : decide ((s.pos : Int) < (s.data.length : Int)) = true := by simp; omega
      clear e hb
      go_enter Try.func33, Try.ntmps33
      go_wp2_with (go_quiet (fail))
      go_ret2
      exact ⟨_, rfl, rfl, H.out.drewN _, (Touched.refl _ _).drewN _⟩
    · have e : s.endV = .tuple #[.int .i64 0, .int .i64 0] := by simp [Rd.endV, hp, hb]
      rw [e]
      have hd : decide ((s.pos : Int) < (s.data.length : Int)) = false := by simp; omega
      clear e hb
      go_enter Try.func33, Try.ntmps33
      go_wp2_with (go_quiet (fail))
      go_ret2
      exact ⟨_, rfl, rfl, H.out.drewN _, (Touched.refl _ _).drewN _⟩
end Go.Proofs.Ytljlijdgocfofaa
