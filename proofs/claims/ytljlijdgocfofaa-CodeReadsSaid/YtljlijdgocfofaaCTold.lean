/-
  told, over each kind of thing: what it answers of no reader, of one that failed, of one that reads, of one that fails. No condition.
-/
import Derived.Test.YtljlijdgocfofaaCNum
namespace Go.Proofs.Ytljlijdgocfofaa
open Go.RowKit
open Extern.Stop (cell)

abbrev boxOf (b : Nat) : Obj := .cells #[.pointer (some ⟨b, 0, none⟩)] 36
/-- What a function of a reader that is told answers, where it does not fail. -/
def ReadC (K : Value → World → Prop) (w : World) (b : Nat) (dv : Value) (s' : Rd) (e : Ending) (w' : World) : Prop := ∃ v, e = .returned v ∧ K v w' ∧ RdAt w' b dv s' ∧ Touched w w' (fun k => k = b)
/-- .. and where it fails: z, the zero thing. -/
def ZeroC (z : Value) (w : World) (b : Nat) (dv : Value) (s' : Rd) (e : Ending) (w' : World) : Prop := e = .returned z ∧ RdAt w' b dv s' ∧ Touched w w' (fun k => k = b)
theorem box_cell (w : World) (b : Nat) : (w.alloc (boxOf b)).cell? ⟨w.heap.size, 0, none⟩ = some (.pointer (some ⟨b, 0, none⟩)) := by
  rw [cell_of_row _ _ 0 _ _ _ (heap_alloc_new w _)]; rfl
theorem box_kept {w w' : World} {b : Nat} (h : Touched (w.alloc (boxOf b)) w' (fun k => k = b)) (hb : b < w.heap.size) : w'.cell? ⟨w.heap.size, 0, none⟩ = some (.pointer (some ⟨b, 0, none⟩)) := by
  rw [World.cell?_of_block (h.block w.heap.size (by rw [World.size_alloc]; omega) (by omega))]; exact box_cell w b
theorem touched_box {w w' : World} {b : Nat} {S : Nat → Prop} (h : Touched (w.alloc (boxOf b)) w' S) : Touched w w' S :=
  ((Touched.refl w S).alloc (boxOf b)).trans h (fun _ hk => Or.inl hk)

theorem catch_fell_int (w : World) (x b : Nat) (hx : w.cell? ⟨x, 0, none⟩ = some (.pointer (some ⟨b, 0, none⟩))) (hb : w.cell? ⟨b, 2, none⟩ = some (.bool true)) (pv : Value) (older : List PanicEntry) :
    CallsD Try.prog 59 #[.pointer (some ⟨x, 0, none⟩)] (.panicking ({ v := pv, recovered := false } :: older)) w fun e u' w' =>
      e = .returned (.tuple #[]) ∧ u' = .panicking ({ v := pv, recovered := true } :: older) ∧ w' = w := by
  refine callsD_of_wpS Try.func59 rfl fun c₀ cs hu => ?_
  apply wpS_seq
  apply wpS_region
  simp [wpOpsS, go_sem, hx, hb, Try.ntmps59, Exit.thenS]
  refine wpS_cond (t := true) (by simp [Act.eval]) ?_
  simp only [if_true]
  apply wpS_region
  simp [wpOpsS, go_sem, recoverD, hu, bodyPostS, results, Try.results59]
theorem catch_idle_int (w : World) (x b : Nat) (hx : w.cell? ⟨x, 0, none⟩ = some (.pointer (some ⟨b, 0, none⟩))) (hb : w.cell? ⟨b, 2, none⟩ = some (.bool false)) :
    CallsD Try.prog 59 #[.pointer (some ⟨x, 0, none⟩)] .returning w fun e u' w' =>
      e = .returned (.tuple #[]) ∧ u' = .returning ∧ w' = w := by
  refine callsD_of_wpS Try.func59 rfl fun c₀ cs hu => ?_
  apply wpS_seq
  apply wpS_region
  simp [wpOpsS, go_sem, hx, hb, Try.ntmps59, Exit.thenS]
  refine wpS_cond (t := false) (by simp [Act.eval]) ?_
  simp only [Bool.false_eq_true, if_false]
  refine wpS_of_wp (wp_skip ?_)
  cases c₀
  simp_all [bodyPostS, results, Try.results59]

theorem told_int_nil (w : World) (fv : Value) : Calls Try.prog 42 #[.pointer none, fv] w fun e w' => e = .returned (.int .i64 0) ∧ Below w.heap.size w w' := by
  have hmf : ∀ (fn : Fn) (first cap : Array Value) (w : World), (Instr.makeFunc fn first cap).run Try.prog w = .ok (.func fn first cap) w := fun _ _ _ _ => rfl
  go_enter_defers Try.func42, Try.ntmps42
  go_wp2_with fail
  simp [bodyPostD, Leaves, results, Try.results42, go_sem]
  exact (Below.refl _ _).alloc (Nat.le_refl _) _

theorem told_int_bad (w : World) (b : Nat) (dv : Value) (s : Rd) (h : RdAt w b dv s) (hs : s.bad = true) (fv : Value) : Calls Try.prog 42 #[.pointer (some ⟨b, 0, none⟩), fv] w (ZeroC (.int .i64 0) w b dv s) := by
  have hmf : ∀ (fn : Fn) (first cap : Array Value) (w : World), (Instr.makeFunc fn first cap).run Try.prog w = .ok (.func fn first cap) w := fun _ _ _ _ => rfl
  obtain ⟨c0, c1, c2, f⟩ := (h.alloc (boxOf b)).cells
  rw [hs] at c2
  have x0 := box_cell w b
  have H := Lib.hid (h.alloc (boxOf b))
  clear h hs
  go_enter_defers Try.func42, Try.ntmps42
  go_wp2_with fail
  simp [bodyPostD, Leaves, results, Try.results42, go_sem]
  exact ⟨rfl, H.out, (Touched.refl w _).alloc _⟩

theorem catch_fell_small (w : World) (x b : Nat) (hx : w.cell? ⟨x, 0, none⟩ = some (.pointer (some ⟨b, 0, none⟩))) (hb : w.cell? ⟨b, 2, none⟩ = some (.bool true)) (pv : Value) (older : List PanicEntry) :
    CallsD Try.prog 61 #[.pointer (some ⟨x, 0, none⟩)] (.panicking ({ v := pv, recovered := false } :: older)) w fun e u' w' =>
      e = .returned (.tuple #[]) ∧ u' = .panicking ({ v := pv, recovered := true } :: older) ∧ w' = w := by
  refine callsD_of_wpS Try.func61 rfl fun c₀ cs hu => ?_
  apply wpS_seq
  apply wpS_region
  simp [wpOpsS, go_sem, hx, hb, Try.ntmps61, Exit.thenS]
  refine wpS_cond (t := true) (by simp [Act.eval]) ?_
  simp only [if_true]
  apply wpS_region
  simp [wpOpsS, go_sem, recoverD, hu, bodyPostS, results, Try.results61]
theorem catch_idle_small (w : World) (x b : Nat) (hx : w.cell? ⟨x, 0, none⟩ = some (.pointer (some ⟨b, 0, none⟩))) (hb : w.cell? ⟨b, 2, none⟩ = some (.bool false)) :
    CallsD Try.prog 61 #[.pointer (some ⟨x, 0, none⟩)] .returning w fun e u' w' =>
      e = .returned (.tuple #[]) ∧ u' = .returning ∧ w' = w := by
  refine callsD_of_wpS Try.func61 rfl fun c₀ cs hu => ?_
  apply wpS_seq
  apply wpS_region
  simp [wpOpsS, go_sem, hx, hb, Try.ntmps61, Exit.thenS]
  refine wpS_cond (t := false) (by simp [Act.eval]) ?_
  simp only [Bool.false_eq_true, if_false]
  refine wpS_of_wp (wp_skip ?_)
  cases c₀
  simp_all [bodyPostS, results, Try.results61]

theorem told_small_nil (w : World) (fv : Value) : Calls Try.prog 45 #[.pointer none, fv] w fun e w' => e = .returned (.int .i8 0) ∧ Below w.heap.size w w' := by
  have hmf : ∀ (fn : Fn) (first cap : Array Value) (w : World), (Instr.makeFunc fn first cap).run Try.prog w = .ok (.func fn first cap) w := fun _ _ _ _ => rfl
  go_enter_defers Try.func45, Try.ntmps45
  go_wp2_with fail
  simp [bodyPostD, Leaves, results, Try.results45, go_sem]
  exact (Below.refl _ _).alloc (Nat.le_refl _) _

theorem told_small_bad (w : World) (b : Nat) (dv : Value) (s : Rd) (h : RdAt w b dv s) (hs : s.bad = true) (fv : Value) : Calls Try.prog 45 #[.pointer (some ⟨b, 0, none⟩), fv] w (ZeroC (.int .i8 0) w b dv s) := by
  have hmf : ∀ (fn : Fn) (first cap : Array Value) (w : World), (Instr.makeFunc fn first cap).run Try.prog w = .ok (.func fn first cap) w := fun _ _ _ _ => rfl
  obtain ⟨c0, c1, c2, f⟩ := (h.alloc (boxOf b)).cells
  rw [hs] at c2
  have x0 := box_cell w b
  have H := Lib.hid (h.alloc (boxOf b))
  clear h hs
  go_enter_defers Try.func45, Try.ntmps45
  go_wp2_with fail
  simp [bodyPostD, Leaves, results, Try.results45, go_sem]
  exact ⟨rfl, H.out, (Touched.refl w _).alloc _⟩

theorem catch_fell_text (w : World) (x b : Nat) (hx : w.cell? ⟨x, 0, none⟩ = some (.pointer (some ⟨b, 0, none⟩))) (hb : w.cell? ⟨b, 2, none⟩ = some (.bool true)) (pv : Value) (older : List PanicEntry) :
    CallsD Try.prog 62 #[.pointer (some ⟨x, 0, none⟩)] (.panicking ({ v := pv, recovered := false } :: older)) w fun e u' w' =>
      e = .returned (.tuple #[]) ∧ u' = .panicking ({ v := pv, recovered := true } :: older) ∧ w' = w := by
  refine callsD_of_wpS Try.func62 rfl fun c₀ cs hu => ?_
  apply wpS_seq
  apply wpS_region
  simp [wpOpsS, go_sem, hx, hb, Try.ntmps62, Exit.thenS]
  refine wpS_cond (t := true) (by simp [Act.eval]) ?_
  simp only [if_true]
  apply wpS_region
  simp [wpOpsS, go_sem, recoverD, hu, bodyPostS, results, Try.results62]
theorem catch_idle_text (w : World) (x b : Nat) (hx : w.cell? ⟨x, 0, none⟩ = some (.pointer (some ⟨b, 0, none⟩))) (hb : w.cell? ⟨b, 2, none⟩ = some (.bool false)) :
    CallsD Try.prog 62 #[.pointer (some ⟨x, 0, none⟩)] .returning w fun e u' w' =>
      e = .returned (.tuple #[]) ∧ u' = .returning ∧ w' = w := by
  refine callsD_of_wpS Try.func62 rfl fun c₀ cs hu => ?_
  apply wpS_seq
  apply wpS_region
  simp [wpOpsS, go_sem, hx, hb, Try.ntmps62, Exit.thenS]
  refine wpS_cond (t := false) (by simp [Act.eval]) ?_
  simp only [Bool.false_eq_true, if_false]
  refine wpS_of_wp (wp_skip ?_)
  cases c₀
  simp_all [bodyPostS, results, Try.results62]

theorem told_text_nil (w : World) (fv : Value) : Calls Try.prog 47 #[.pointer none, fv] w fun e w' => e = .returned (.string ⟨#[]⟩) ∧ Below w.heap.size w w' := by
  have hmf : ∀ (fn : Fn) (first cap : Array Value) (w : World), (Instr.makeFunc fn first cap).run Try.prog w = .ok (.func fn first cap) w := fun _ _ _ _ => rfl
  go_enter_defers Try.func47, Try.ntmps47
  go_wp2_with fail
  simp [bodyPostD, Leaves, results, Try.results47, go_sem]
  exact (Below.refl _ _).alloc (Nat.le_refl _) _

theorem told_text_bad (w : World) (b : Nat) (dv : Value) (s : Rd) (h : RdAt w b dv s) (hs : s.bad = true) (fv : Value) : Calls Try.prog 47 #[.pointer (some ⟨b, 0, none⟩), fv] w (ZeroC (.string ⟨#[]⟩) w b dv s) := by
  have hmf : ∀ (fn : Fn) (first cap : Array Value) (w : World), (Instr.makeFunc fn first cap).run Try.prog w = .ok (.func fn first cap) w := fun _ _ _ _ => rfl
  obtain ⟨c0, c1, c2, f⟩ := (h.alloc (boxOf b)).cells
  rw [hs] at c2
  have x0 := box_cell w b
  have H := Lib.hid (h.alloc (boxOf b))
  clear h hs
  go_enter_defers Try.func47, Try.ntmps47
  go_wp2_with fail
  simp [bodyPostD, Leaves, results, Try.results47, go_sem]
  exact ⟨rfl, H.out, (Touched.refl w _).alloc _⟩

theorem catch_fell_node (w : World) (x b : Nat) (hx : w.cell? ⟨x, 0, none⟩ = some (.pointer (some ⟨b, 0, none⟩))) (hb : w.cell? ⟨b, 2, none⟩ = some (.bool true)) (pv : Value) (older : List PanicEntry) :
    CallsD Try.prog 63 #[.pointer (some ⟨x, 0, none⟩)] (.panicking ({ v := pv, recovered := false } :: older)) w fun e u' w' =>
      e = .returned (.tuple #[]) ∧ u' = .panicking ({ v := pv, recovered := true } :: older) ∧ w' = w := by
  refine callsD_of_wpS Try.func63 rfl fun c₀ cs hu => ?_
  apply wpS_seq
  apply wpS_region
  simp [wpOpsS, go_sem, hx, hb, Try.ntmps63, Exit.thenS]
  refine wpS_cond (t := true) (by simp [Act.eval]) ?_
  simp only [if_true]
  apply wpS_region
  simp [wpOpsS, go_sem, recoverD, hu, bodyPostS, results, Try.results63]
theorem catch_idle_node (w : World) (x b : Nat) (hx : w.cell? ⟨x, 0, none⟩ = some (.pointer (some ⟨b, 0, none⟩))) (hb : w.cell? ⟨b, 2, none⟩ = some (.bool false)) :
    CallsD Try.prog 63 #[.pointer (some ⟨x, 0, none⟩)] .returning w fun e u' w' =>
      e = .returned (.tuple #[]) ∧ u' = .returning ∧ w' = w := by
  refine callsD_of_wpS Try.func63 rfl fun c₀ cs hu => ?_
  apply wpS_seq
  apply wpS_region
  simp [wpOpsS, go_sem, hx, hb, Try.ntmps63, Exit.thenS]
  refine wpS_cond (t := false) (by simp [Act.eval]) ?_
  simp only [Bool.false_eq_true, if_false]
  refine wpS_of_wp (wp_skip ?_)
  cases c₀
  simp_all [bodyPostS, results, Try.results63]

theorem told_node_nil (w : World) (fv : Value) : Calls Try.prog 49 #[.pointer none, fv] w fun e w' => e = .returned (.agg #[.int .i64 0, .int .i64 0, .string ⟨#[]⟩, .slice none 0 0]) ∧ Below w.heap.size w w' := by
  have hmf : ∀ (fn : Fn) (first cap : Array Value) (w : World), (Instr.makeFunc fn first cap).run Try.prog w = .ok (.func fn first cap) w := fun _ _ _ _ => rfl
  go_enter_defers Try.func49, Try.ntmps49
  go_wp2_with fail
  simp [bodyPostD, Leaves, results, Try.results49, go_sem]
  exact ((Below.refl _ _).alloc (Nat.le_refl _) _).alloc (by rw [World.size_alloc]; omega) _


theorem catch_fell_steps (w : World) (x b : Nat) (hx : w.cell? ⟨x, 0, none⟩ = some (.pointer (some ⟨b, 0, none⟩))) (hb : w.cell? ⟨b, 2, none⟩ = some (.bool true)) (pv : Value) (older : List PanicEntry) :
    CallsD Try.prog 68 #[.pointer (some ⟨x, 0, none⟩)] (.panicking ({ v := pv, recovered := false } :: older)) w fun e u' w' =>
      e = .returned (.tuple #[]) ∧ u' = .panicking ({ v := pv, recovered := true } :: older) ∧ w' = w := by
  refine callsD_of_wpS Try.func68 rfl fun c₀ cs hu => ?_
  apply wpS_seq
  apply wpS_region
  simp [wpOpsS, go_sem, hx, hb, Try.ntmps68, Exit.thenS]
  refine wpS_cond (t := true) (by simp [Act.eval]) ?_
  simp only [if_true]
  apply wpS_region
  simp [wpOpsS, go_sem, recoverD, hu, bodyPostS, results, Try.results68]
theorem catch_idle_steps (w : World) (x b : Nat) (hx : w.cell? ⟨x, 0, none⟩ = some (.pointer (some ⟨b, 0, none⟩))) (hb : w.cell? ⟨b, 2, none⟩ = some (.bool false)) :
    CallsD Try.prog 68 #[.pointer (some ⟨x, 0, none⟩)] .returning w fun e u' w' =>
      e = .returned (.tuple #[]) ∧ u' = .returning ∧ w' = w := by
  refine callsD_of_wpS Try.func68 rfl fun c₀ cs hu => ?_
  apply wpS_seq
  apply wpS_region
  simp [wpOpsS, go_sem, hx, hb, Try.ntmps68, Exit.thenS]
  refine wpS_cond (t := false) (by simp [Act.eval]) ?_
  simp only [Bool.false_eq_true, if_false]
  refine wpS_of_wp (wp_skip ?_)
  cases c₀
  simp_all [bodyPostS, results, Try.results68]

theorem told_steps_nil (w : World) (fv : Value) : Calls Try.prog 52 #[.pointer none, fv] w fun e w' => e = .returned (.slice none 0 0) ∧ Below w.heap.size w w' := by
  have hmf : ∀ (fn : Fn) (first cap : Array Value) (w : World), (Instr.makeFunc fn first cap).run Try.prog w = .ok (.func fn first cap) w := fun _ _ _ _ => rfl
  go_enter_defers Try.func52, Try.ntmps52
  go_wp2_with fail
  simp [bodyPostD, Leaves, results, Try.results52, go_sem]
  exact (Below.refl _ _).alloc (Nat.le_refl _) _

theorem told_steps_bad (w : World) (b : Nat) (dv : Value) (s : Rd) (h : RdAt w b dv s) (hs : s.bad = true) (fv : Value) : Calls Try.prog 52 #[.pointer (some ⟨b, 0, none⟩), fv] w (ZeroC (.slice none 0 0) w b dv s) := by
  have hmf : ∀ (fn : Fn) (first cap : Array Value) (w : World), (Instr.makeFunc fn first cap).run Try.prog w = .ok (.func fn first cap) w := fun _ _ _ _ => rfl
  obtain ⟨c0, c1, c2, f⟩ := (h.alloc (boxOf b)).cells
  rw [hs] at c2
  have x0 := box_cell w b
  have H := Lib.hid (h.alloc (boxOf b))
  clear h hs
  go_enter_defers Try.func52, Try.ntmps52
  go_wp2_with fail
  simp [bodyPostD, Leaves, results, Try.results52, go_sem]
  exact ⟨rfl, H.out, (Touched.refl w _).alloc _⟩

theorem told_int_ok (w : World) (b : Nat) (dv : Value) (s s' : Rd) (h : RdAt w b dv s) (hs : s.bad = false) (hs' : s'.bad = false) (K : Value → World → Prop)
    (hk : Calls Try.prog 43 #[.pointer (some ⟨b, 0, none⟩)] (w.alloc (boxOf b)) (ReadC K (w.alloc (boxOf b)) b dv s')) :
    Calls Try.prog 42 #[.pointer (some ⟨b, 0, none⟩), .func (.func 43) #[.pointer (some ⟨b, 0, none⟩)] #[]] w (ReadC K w b dv s') := by
  have hmf : ∀ (fn : Fn) (first cap : Array Value) (w : World), (Instr.makeFunc fn first cap).run Try.prog w = .ok (.func fn first cap) w := fun _ _ _ _ => rfl
  obtain ⟨c0, c1, c2, f⟩ := (h.alloc (boxOf b)).cells
  rw [hs] at c2
  have x0 := box_cell w b
  have hlt := lt_of_heap h.here
  have HK := Lib.hid hk
  clear h hs hk
  go_enter_defers Try.func42, Try.ntmps42
  go_wp2_with (go_at_call 43; refine HK.out.mono ?_; rintro e w1 ⟨v, rfl, h1, h2, h3⟩; have H1 := Lib.hid (And.intro h1 (And.intro h2 h3)); clear h1 h2 h3)
  refine leaves_cons (f := 59) (args := #[.pointer (some ⟨w.heap.size, 0, none⟩)]) (by simp) (by simp [go_sem]) ?_
  refine (catch_idle_int _ w.heap.size b (box_kept H1.out.2.2 hlt) (by have := H1.out.2.1.cells.2.2.1; rw [hs'] at this; exact this)).mono ?_
  rintro e u' w'' ⟨rfl, rfl, rfl⟩
  simp [Leaves, settle, results, Try.results42, go_sem]
  exact ⟨_, rfl, H1.out.1, H1.out.2.1, touched_box H1.out.2.2⟩

theorem told_int_fell (w : World) (b : Nat) (dv : Value) (s : Rd) (h : RdAt w b dv s) (hs : s.bad = false) (p : Nat)
    (hk : Calls Try.prog 43 #[.pointer (some ⟨b, 0, none⟩)] (w.alloc (boxOf b)) (FellC (w.alloc (boxOf b)) b dv s p)) :
    Calls Try.prog 42 #[.pointer (some ⟨b, 0, none⟩), .func (.func 43) #[.pointer (some ⟨b, 0, none⟩)] #[]] w (ZeroC (.int .i64 0) w b dv { s with pos := p, bad := true }) := by
  have hmf : ∀ (fn : Fn) (first cap : Array Value) (w : World), (Instr.makeFunc fn first cap).run Try.prog w = .ok (.func fn first cap) w := fun _ _ _ _ => rfl
  obtain ⟨c0, c1, c2, f⟩ := (h.alloc (boxOf b)).cells
  rw [hs] at c2
  have x0 := box_cell w b
  have hlt := lt_of_heap h.here
  have HK := Lib.hid hk
  clear h hs hk
  go_enter_defers Try.func42, Try.ntmps42
  go_wp2_with (go_at_call 43; refine HK.out.mono ?_; rintro e w1 ⟨rfl, h2, h3⟩; have H1 := Lib.hid (And.intro h2 h3); clear h2 h3)
  refine leaves_cons (f := 59) (args := #[.pointer (some ⟨w.heap.size, 0, none⟩)]) (by simp) (by simp [go_sem]) ?_
  refine (catch_fell_int _ w.heap.size b (box_kept H1.out.2 hlt) H1.out.1.cells.2.2.1 _ []).mono ?_
  rintro e u' w'' ⟨rfl, rfl, rfl⟩
  simp [Leaves, settle, results, Try.results42, go_sem]
  exact ⟨rfl, H1.out.1, touched_box H1.out.2⟩

theorem told_count_ok (w : World) (b : Nat) (dv : Value) (s s' : Rd) (h : RdAt w b dv s) (hs : s.bad = false) (hs' : s'.bad = false) (K : Value → World → Prop) (x y z : Nat)
    (hk : Calls Try.prog 56 #[.pointer (some ⟨x, 0, none⟩), .pointer (some ⟨y, 0, none⟩), .pointer (some ⟨z, 0, none⟩)] (w.alloc (boxOf b)) (ReadC K (w.alloc (boxOf b)) b dv s')) :
    Calls Try.prog 42 #[.pointer (some ⟨b, 0, none⟩), .func (.func 56) #[] #[.pointer (some ⟨x, 0, none⟩), .pointer (some ⟨y, 0, none⟩), .pointer (some ⟨z, 0, none⟩)]] w (ReadC K w b dv s') := by
  have hmf : ∀ (fn : Fn) (first cap : Array Value) (w : World), (Instr.makeFunc fn first cap).run Try.prog w = .ok (.func fn first cap) w := fun _ _ _ _ => rfl
  obtain ⟨c0, c1, c2, f⟩ := (h.alloc (boxOf b)).cells
  rw [hs] at c2
  have x0 := box_cell w b
  have hlt := lt_of_heap h.here
  have HK := Lib.hid hk
  clear h hs hk
  go_enter_defers Try.func42, Try.ntmps42
  go_wp2_with (go_at_call 56; refine HK.out.mono ?_; rintro e w1 ⟨v, rfl, h1, h2, h3⟩; have H1 := Lib.hid (And.intro h1 (And.intro h2 h3)); clear h1 h2 h3)
  refine leaves_cons (f := 59) (args := #[.pointer (some ⟨w.heap.size, 0, none⟩)]) (by simp) (by simp [go_sem]) ?_
  refine (catch_idle_int _ w.heap.size b (box_kept H1.out.2.2 hlt) (by have := H1.out.2.1.cells.2.2.1; rw [hs'] at this; exact this)).mono ?_
  rintro e u' w'' ⟨rfl, rfl, rfl⟩
  simp [Leaves, settle, results, Try.results42, go_sem]
  exact ⟨_, rfl, H1.out.1, H1.out.2.1, touched_box H1.out.2.2⟩

theorem told_count_fell (w : World) (b : Nat) (dv : Value) (s : Rd) (h : RdAt w b dv s) (hs : s.bad = false) (p : Nat) (x y z : Nat)
    (hk : Calls Try.prog 56 #[.pointer (some ⟨x, 0, none⟩), .pointer (some ⟨y, 0, none⟩), .pointer (some ⟨z, 0, none⟩)] (w.alloc (boxOf b)) (FellC (w.alloc (boxOf b)) b dv s p)) :
    Calls Try.prog 42 #[.pointer (some ⟨b, 0, none⟩), .func (.func 56) #[] #[.pointer (some ⟨x, 0, none⟩), .pointer (some ⟨y, 0, none⟩), .pointer (some ⟨z, 0, none⟩)]] w (ZeroC (.int .i64 0) w b dv { s with pos := p, bad := true }) := by
  have hmf : ∀ (fn : Fn) (first cap : Array Value) (w : World), (Instr.makeFunc fn first cap).run Try.prog w = .ok (.func fn first cap) w := fun _ _ _ _ => rfl
  obtain ⟨c0, c1, c2, f⟩ := (h.alloc (boxOf b)).cells
  rw [hs] at c2
  have x0 := box_cell w b
  have hlt := lt_of_heap h.here
  have HK := Lib.hid hk
  clear h hs hk
  go_enter_defers Try.func42, Try.ntmps42
  go_wp2_with (go_at_call 56; refine HK.out.mono ?_; rintro e w1 ⟨rfl, h2, h3⟩; have H1 := Lib.hid (And.intro h2 h3); clear h2 h3)
  refine leaves_cons (f := 59) (args := #[.pointer (some ⟨w.heap.size, 0, none⟩)]) (by simp) (by simp [go_sem]) ?_
  refine (catch_fell_int _ w.heap.size b (box_kept H1.out.2 hlt) H1.out.1.cells.2.2.1 _ []).mono ?_
  rintro e u' w'' ⟨rfl, rfl, rfl⟩
  simp [Leaves, settle, results, Try.results42, go_sem]
  exact ⟨rfl, H1.out.1, touched_box H1.out.2⟩

theorem told_small_ok (w : World) (b : Nat) (dv : Value) (s s' : Rd) (h : RdAt w b dv s) (hs : s.bad = false) (hs' : s'.bad = false) (K : Value → World → Prop)
    (hk : Calls Try.prog 46 #[.pointer (some ⟨b, 0, none⟩)] (w.alloc (boxOf b)) (ReadC K (w.alloc (boxOf b)) b dv s')) :
    Calls Try.prog 45 #[.pointer (some ⟨b, 0, none⟩), .func (.func 46) #[.pointer (some ⟨b, 0, none⟩)] #[]] w (ReadC K w b dv s') := by
  have hmf : ∀ (fn : Fn) (first cap : Array Value) (w : World), (Instr.makeFunc fn first cap).run Try.prog w = .ok (.func fn first cap) w := fun _ _ _ _ => rfl
  obtain ⟨c0, c1, c2, f⟩ := (h.alloc (boxOf b)).cells
  rw [hs] at c2
  have x0 := box_cell w b
  have hlt := lt_of_heap h.here
  have HK := Lib.hid hk
  clear h hs hk
  go_enter_defers Try.func45, Try.ntmps45
  go_wp2_with (go_at_call 46; refine HK.out.mono ?_; rintro e w1 ⟨v, rfl, h1, h2, h3⟩; have H1 := Lib.hid (And.intro h1 (And.intro h2 h3)); clear h1 h2 h3)
  refine leaves_cons (f := 61) (args := #[.pointer (some ⟨w.heap.size, 0, none⟩)]) (by simp) (by simp [go_sem]) ?_
  refine (catch_idle_small _ w.heap.size b (box_kept H1.out.2.2 hlt) (by have := H1.out.2.1.cells.2.2.1; rw [hs'] at this; exact this)).mono ?_
  rintro e u' w'' ⟨rfl, rfl, rfl⟩
  simp [Leaves, settle, results, Try.results45, go_sem]
  exact ⟨_, rfl, H1.out.1, H1.out.2.1, touched_box H1.out.2.2⟩

theorem told_small_fell (w : World) (b : Nat) (dv : Value) (s : Rd) (h : RdAt w b dv s) (hs : s.bad = false) (p : Nat)
    (hk : Calls Try.prog 46 #[.pointer (some ⟨b, 0, none⟩)] (w.alloc (boxOf b)) (FellC (w.alloc (boxOf b)) b dv s p)) :
    Calls Try.prog 45 #[.pointer (some ⟨b, 0, none⟩), .func (.func 46) #[.pointer (some ⟨b, 0, none⟩)] #[]] w (ZeroC (.int .i8 0) w b dv { s with pos := p, bad := true }) := by
  have hmf : ∀ (fn : Fn) (first cap : Array Value) (w : World), (Instr.makeFunc fn first cap).run Try.prog w = .ok (.func fn first cap) w := fun _ _ _ _ => rfl
  obtain ⟨c0, c1, c2, f⟩ := (h.alloc (boxOf b)).cells
  rw [hs] at c2
  have x0 := box_cell w b
  have hlt := lt_of_heap h.here
  have HK := Lib.hid hk
  clear h hs hk
  go_enter_defers Try.func45, Try.ntmps45
  go_wp2_with (go_at_call 46; refine HK.out.mono ?_; rintro e w1 ⟨rfl, h2, h3⟩; have H1 := Lib.hid (And.intro h2 h3); clear h2 h3)
  refine leaves_cons (f := 61) (args := #[.pointer (some ⟨w.heap.size, 0, none⟩)]) (by simp) (by simp [go_sem]) ?_
  refine (catch_fell_small _ w.heap.size b (box_kept H1.out.2 hlt) H1.out.1.cells.2.2.1 _ []).mono ?_
  rintro e u' w'' ⟨rfl, rfl, rfl⟩
  simp [Leaves, settle, results, Try.results45, go_sem]
  exact ⟨rfl, H1.out.1, touched_box H1.out.2⟩

theorem told_text_ok (w : World) (b : Nat) (dv : Value) (s s' : Rd) (h : RdAt w b dv s) (hs : s.bad = false) (hs' : s'.bad = false) (K : Value → World → Prop)
    (hk : Calls Try.prog 48 #[.pointer (some ⟨b, 0, none⟩)] (w.alloc (boxOf b)) (ReadC K (w.alloc (boxOf b)) b dv s')) :
    Calls Try.prog 47 #[.pointer (some ⟨b, 0, none⟩), .func (.func 48) #[.pointer (some ⟨b, 0, none⟩)] #[]] w (ReadC K w b dv s') := by
  have hmf : ∀ (fn : Fn) (first cap : Array Value) (w : World), (Instr.makeFunc fn first cap).run Try.prog w = .ok (.func fn first cap) w := fun _ _ _ _ => rfl
  obtain ⟨c0, c1, c2, f⟩ := (h.alloc (boxOf b)).cells
  rw [hs] at c2
  have x0 := box_cell w b
  have hlt := lt_of_heap h.here
  have HK := Lib.hid hk
  clear h hs hk
  go_enter_defers Try.func47, Try.ntmps47
  go_wp2_with (go_at_call 48; refine HK.out.mono ?_; rintro e w1 ⟨v, rfl, h1, h2, h3⟩; have H1 := Lib.hid (And.intro h1 (And.intro h2 h3)); clear h1 h2 h3)
  refine leaves_cons (f := 62) (args := #[.pointer (some ⟨w.heap.size, 0, none⟩)]) (by simp) (by simp [go_sem]) ?_
  refine (catch_idle_text _ w.heap.size b (box_kept H1.out.2.2 hlt) (by have := H1.out.2.1.cells.2.2.1; rw [hs'] at this; exact this)).mono ?_
  rintro e u' w'' ⟨rfl, rfl, rfl⟩
  simp [Leaves, settle, results, Try.results47, go_sem]
  exact ⟨_, rfl, H1.out.1, H1.out.2.1, touched_box H1.out.2.2⟩

theorem told_text_fell (w : World) (b : Nat) (dv : Value) (s : Rd) (h : RdAt w b dv s) (hs : s.bad = false) (p : Nat)
    (hk : Calls Try.prog 48 #[.pointer (some ⟨b, 0, none⟩)] (w.alloc (boxOf b)) (FellC (w.alloc (boxOf b)) b dv s p)) :
    Calls Try.prog 47 #[.pointer (some ⟨b, 0, none⟩), .func (.func 48) #[.pointer (some ⟨b, 0, none⟩)] #[]] w (ZeroC (.string ⟨#[]⟩) w b dv { s with pos := p, bad := true }) := by
  have hmf : ∀ (fn : Fn) (first cap : Array Value) (w : World), (Instr.makeFunc fn first cap).run Try.prog w = .ok (.func fn first cap) w := fun _ _ _ _ => rfl
  obtain ⟨c0, c1, c2, f⟩ := (h.alloc (boxOf b)).cells
  rw [hs] at c2
  have x0 := box_cell w b
  have hlt := lt_of_heap h.here
  have HK := Lib.hid hk
  clear h hs hk
  go_enter_defers Try.func47, Try.ntmps47
  go_wp2_with (go_at_call 48; refine HK.out.mono ?_; rintro e w1 ⟨rfl, h2, h3⟩; have H1 := Lib.hid (And.intro h2 h3); clear h2 h3)
  refine leaves_cons (f := 62) (args := #[.pointer (some ⟨w.heap.size, 0, none⟩)]) (by simp) (by simp [go_sem]) ?_
  refine (catch_fell_text _ w.heap.size b (box_kept H1.out.2 hlt) H1.out.1.cells.2.2.1 _ []).mono ?_
  rintro e u' w'' ⟨rfl, rfl, rfl⟩
  simp [Leaves, settle, results, Try.results47, go_sem]
  exact ⟨rfl, H1.out.1, touched_box H1.out.2⟩

theorem told_steps_ok (w : World) (b : Nat) (dv : Value) (s s' : Rd) (h : RdAt w b dv s) (hs : s.bad = false) (hs' : s'.bad = false) (K : Value → World → Prop)
    (hk : Calls Try.prog 53 #[.pointer (some ⟨b, 0, none⟩)] (w.alloc (boxOf b)) (ReadC K (w.alloc (boxOf b)) b dv s')) :
    Calls Try.prog 52 #[.pointer (some ⟨b, 0, none⟩), .func (.func 53) #[.pointer (some ⟨b, 0, none⟩)] #[]] w (ReadC K w b dv s') := by
  have hmf : ∀ (fn : Fn) (first cap : Array Value) (w : World), (Instr.makeFunc fn first cap).run Try.prog w = .ok (.func fn first cap) w := fun _ _ _ _ => rfl
  obtain ⟨c0, c1, c2, f⟩ := (h.alloc (boxOf b)).cells
  rw [hs] at c2
  have x0 := box_cell w b
  have hlt := lt_of_heap h.here
  have HK := Lib.hid hk
  clear h hs hk
  go_enter_defers Try.func52, Try.ntmps52
  go_wp2_with (go_at_call 53; refine HK.out.mono ?_; rintro e w1 ⟨v, rfl, h1, h2, h3⟩; have H1 := Lib.hid (And.intro h1 (And.intro h2 h3)); clear h1 h2 h3)
  refine leaves_cons (f := 68) (args := #[.pointer (some ⟨w.heap.size, 0, none⟩)]) (by simp) (by simp [go_sem]) ?_
  refine (catch_idle_steps _ w.heap.size b (box_kept H1.out.2.2 hlt) (by have := H1.out.2.1.cells.2.2.1; rw [hs'] at this; exact this)).mono ?_
  rintro e u' w'' ⟨rfl, rfl, rfl⟩
  simp [Leaves, settle, results, Try.results52, go_sem]
  exact ⟨_, rfl, H1.out.1, H1.out.2.1, touched_box H1.out.2.2⟩

theorem told_steps_fell (w : World) (b : Nat) (dv : Value) (s : Rd) (h : RdAt w b dv s) (hs : s.bad = false) (p : Nat)
    (hk : Calls Try.prog 53 #[.pointer (some ⟨b, 0, none⟩)] (w.alloc (boxOf b)) (FellC (w.alloc (boxOf b)) b dv s p)) :
    Calls Try.prog 52 #[.pointer (some ⟨b, 0, none⟩), .func (.func 53) #[.pointer (some ⟨b, 0, none⟩)] #[]] w (ZeroC (.slice none 0 0) w b dv { s with pos := p, bad := true }) := by
  have hmf : ∀ (fn : Fn) (first cap : Array Value) (w : World), (Instr.makeFunc fn first cap).run Try.prog w = .ok (.func fn first cap) w := fun _ _ _ _ => rfl
  obtain ⟨c0, c1, c2, f⟩ := (h.alloc (boxOf b)).cells
  rw [hs] at c2
  have x0 := box_cell w b
  have hlt := lt_of_heap h.here
  have HK := Lib.hid hk
  clear h hs hk
  go_enter_defers Try.func52, Try.ntmps52
  go_wp2_with (go_at_call 53; refine HK.out.mono ?_; rintro e w1 ⟨rfl, h2, h3⟩; have H1 := Lib.hid (And.intro h2 h3); clear h2 h3)
  refine leaves_cons (f := 68) (args := #[.pointer (some ⟨w.heap.size, 0, none⟩)]) (by simp) (by simp [go_sem]) ?_
  refine (catch_fell_steps _ w.heap.size b (box_kept H1.out.2 hlt) H1.out.1.cells.2.2.1 _ []).mono ?_
  rintro e u' w'' ⟨rfl, rfl, rfl⟩
  simp [Leaves, settle, results, Try.results52, go_sem]
  exact ⟨rfl, H1.out.1, touched_box H1.out.2⟩

end Go.Proofs.Ytljlijdgocfofaa
