/-
  .
-/
import Derived.Test.YtchccbfljamjnaaGreatCNumQm
import Derived.Test.YtchccbfljamjnaaGreatJPgQm
set_option maxRecDepth 100000
set_option maxHeartbeats 40000000
namespace Go.Proofs.YtchccbfljamjnaaGreat
open Go.RowKit
open Extern.Stop (cell)
abbrev yo (b : Nat) : Obj := .cells #[.pointer (some ⟨b, 0, none⟩)] 110
def Zx (K : Value → World → Prop) (w : World) (b : Nat) (dv : Value) (s' : Rd) (e : Ending) (w' : World) : Prop := ∃ v, e = .returned v ∧ K v w' ∧ zH w' b dv s' ∧ za w w' (fun k => k = b)
def jF (z : Value) (w : World) (b : Nat) (dv : Value) (s' : Rd) (e : Ending) (w' : World) : Prop := e = .returned z ∧ zH w' b dv s' ∧ za w w' (fun k => k = b)
theorem yX (w : World) (b : Nat) : (w.alloc (yo b)).cell? ⟨w.heap.size, 0, none⟩ = some (.pointer (some ⟨b, 0, none⟩)) := by
 rw [cell_of_row _ _ 0 _ _ _ (heap_alloc_new w _)]; rfl
theorem vL {w w' : World} {b : Nat} (h : za (w.alloc (yo b)) w' (fun k => k = b)) (hb : b < w.heap.size) : w'.cell? ⟨w.heap.size, 0, none⟩ = some (.pointer (some ⟨b, 0, none⟩)) := by
 rw [World.cell?_of_block (h.block w.heap.size (by rw [World.size_alloc]; omega) (by omega))]; exact yX w b
theorem qi {w w' : World} {b : Nat} {S : Nat → Prop} (h : za (w.alloc (yo b)) w' S) : za w w' S :=
 ((za.refl w S).alloc (yo b)).trans h (fun _ hk => Or.inl hk)
theorem jI (w : World) (x b : Nat) (hx : w.cell? ⟨x, 0, none⟩ = some (.pointer (some ⟨b, 0, none⟩))) (hb : w.cell? ⟨b, 2, none⟩ = some (.bool true)) (pv : Value) (older : List PanicEntry) :
 CallsD Tryz.prog 277 #[.pointer (some ⟨x, 0, none⟩)] (.panicking ({ v := pv, recovered := false } :: older)) w fun e u' w' =>
  e = .returned (.tuple #[]) ∧ u' = .panicking ({ v := pv, recovered := true } :: older) ∧ w' = w := by
 refine callsD_of_wpS Tryz.func277 rfl fun c₀ cs hu => ?_
 apply wpS_seq
 apply wpS_region
 simp [wpOpsS, go_sem, hx, hb, Tryz.ntmps277, Exit.thenS]
 refine wpS_cond (t := true) (by simp [Act.eval]) ?_
 simp only [if_true]
 apply wpS_region
 simp [wpOpsS, go_sem, recoverD, hu, bodyPostS, results, Tryz.results277]
theorem jJ (w : World) (x b : Nat) (hx : w.cell? ⟨x, 0, none⟩ = some (.pointer (some ⟨b, 0, none⟩))) (hb : w.cell? ⟨b, 2, none⟩ = some (.bool false)) :
 CallsD Tryz.prog 277 #[.pointer (some ⟨x, 0, none⟩)] .returning w fun e u' w' =>
  e = .returned (.tuple #[]) ∧ u' = .returning ∧ w' = w := by
 refine callsD_of_wpS Tryz.func277 rfl fun c₀ cs hu => ?_
 apply wpS_seq
 apply wpS_region
 simp [wpOpsS, go_sem, hx, hb, Tryz.ntmps277, Exit.thenS]
 refine wpS_cond (t := false) (by simp [Act.eval]) ?_
 simp only [Bool.false_eq_true, if_false]
 refine wpS_of_wp (wp_skip ?_)
 cases c₀
 simp_all [bodyPostS, results, Tryz.results277]
theorem Zr (w : World) (b : Nat) (dv : Value) (s : Rd) (h : zH w b dv s) (hs : s.bad = true) (fv : Value) : Calls Tryz.prog 273 #[.pointer (some ⟨b, 0, none⟩), fv] w (jF (.int .i64 0) w b dv s) := by
 have hmf : ∀ (fn : Fn) (first cap : Array Value) (w : World), (Instr.makeFunc fn first cap).run Tryz.prog w = .ok (.func fn first cap) w := fun _ _ _ _ => rfl
 obtain ⟨c0, c1, c2, f⟩ := (h.alloc (yo b)).cells
 rw [hs] at c2
 have x0 := yX w b
 have H := hH (h.alloc (yo b))
 clear h hs
 go_enter_defers Tryz.func273, Tryz.ntmps273
 go_wp2_with fail
 simp [bodyPostD, Leaves, results, Tryz.results273, go_sem]
 exact ⟨rfl, H.out, (za.refl w _).alloc _⟩
theorem vT (w : World) (x b : Nat) (hx : w.cell? ⟨x, 0, none⟩ = some (.pointer (some ⟨b, 0, none⟩))) (hb : w.cell? ⟨b, 2, none⟩ = some (.bool true)) (pv : Value) (older : List PanicEntry) :
 CallsD Tryz.prog 156 #[.pointer (some ⟨x, 0, none⟩)] (.panicking ({ v := pv, recovered := false } :: older)) w fun e u' w' =>
  e = .returned (.tuple #[]) ∧ u' = .panicking ({ v := pv, recovered := true } :: older) ∧ w' = w := by
 refine callsD_of_wpS Tryz.func156 rfl fun c₀ cs hu => ?_
 apply wpS_seq
 apply wpS_region
 simp [wpOpsS, go_sem, hx, hb, Tryz.ntmps156, Exit.thenS]
 refine wpS_cond (t := true) (by simp [Act.eval]) ?_
 simp only [if_true]
 apply wpS_region
 simp [wpOpsS, go_sem, recoverD, hu, bodyPostS, results, Tryz.results156]
theorem vU (w : World) (x b : Nat) (hx : w.cell? ⟨x, 0, none⟩ = some (.pointer (some ⟨b, 0, none⟩))) (hb : w.cell? ⟨b, 2, none⟩ = some (.bool false)) :
 CallsD Tryz.prog 156 #[.pointer (some ⟨x, 0, none⟩)] .returning w fun e u' w' =>
  e = .returned (.tuple #[]) ∧ u' = .returning ∧ w' = w := by
 refine callsD_of_wpS Tryz.func156 rfl fun c₀ cs hu => ?_
 apply wpS_seq
 apply wpS_region
 simp [wpOpsS, go_sem, hx, hb, Tryz.ntmps156, Exit.thenS]
 refine wpS_cond (t := false) (by simp [Act.eval]) ?_
 simp only [Bool.false_eq_true, if_false]
 refine wpS_of_wp (wp_skip ?_)
 cases c₀
 simp_all [bodyPostS, results, Tryz.results156]
theorem kg (w : World) (b : Nat) (dv : Value) (s : Rd) (h : zH w b dv s) (hs : s.bad = true) (fv : Value) : Calls Tryz.prog 121 #[.pointer (some ⟨b, 0, none⟩), fv] w (jF (.int .i8 0) w b dv s) := by
 have hmf : ∀ (fn : Fn) (first cap : Array Value) (w : World), (Instr.makeFunc fn first cap).run Tryz.prog w = .ok (.func fn first cap) w := fun _ _ _ _ => rfl
 obtain ⟨c0, c1, c2, f⟩ := (h.alloc (yo b)).cells
 rw [hs] at c2
 have x0 := yX w b
 have H := hH (h.alloc (yo b))
 clear h hs
 go_enter_defers Tryz.func121, Tryz.ntmps121
 go_wp2_with fail
 simp [bodyPostD, Leaves, results, Tryz.results121, go_sem]
 exact ⟨rfl, H.out, (za.refl w _).alloc _⟩
theorem Yi (w : World) (b : Nat) (dv : Value) (s s' : Rd) (h : zH w b dv s) (hs : s.bad = false) (hs' : s'.bad = false) (K : Value → World → Prop)
 (hk : Calls Tryz.prog 274 #[.pointer (some ⟨b, 0, none⟩)] (w.alloc (yo b)) (Zx K (w.alloc (yo b)) b dv s')) :
 Calls Tryz.prog 273 #[.pointer (some ⟨b, 0, none⟩), .func (.func 274) #[.pointer (some ⟨b, 0, none⟩)] #[]] w (Zx K w b dv s') := by
 have hmf : ∀ (fn : Fn) (first cap : Array Value) (w : World), (Instr.makeFunc fn first cap).run Tryz.prog w = .ok (.func fn first cap) w := fun _ _ _ _ => rfl
 obtain ⟨c0, c1, c2, f⟩ := (h.alloc (yo b)).cells
 rw [hs] at c2
 have x0 := yX w b
 have hlt := lt_of_heap h.here
 have HK := hH hk
 clear h hs hk
 go_enter_defers Tryz.func273, Tryz.ntmps273
 go_wp2_with (go_at_call 274; refine HK.out.mono ?_; rintro e w1 ⟨v, rfl, h1, h2, h3⟩; have H1 := hH (aN h1 (aN h2 h3)); clear h1 h2 h3)
 refine leaves_cons (f := 277) (args := #[.pointer (some ⟨w.heap.size, 0, none⟩)]) (by simp) (by simp [go_sem]) ?_
 refine (jJ _ w.heap.size b (vL H1.out.2.2 hlt) (by have := H1.out.2.1.cells.2.2.1; rw [hs'] at this; exact this)).mono ?_
 rintro e u' w'' ⟨rfl, rfl, rfl⟩
 simp [Leaves, settle, results, Tryz.results273, go_sem]
 exact ⟨_, rfl, H1.out.1, H1.out.2.1, qi H1.out.2.2⟩
theorem kH (w : World) (b : Nat) (dv : Value) (s : Rd) (h : zH w b dv s) (hs : s.bad = false) (p : Nat)
 (hk : Calls Tryz.prog 274 #[.pointer (some ⟨b, 0, none⟩)] (w.alloc (yo b)) (jA (w.alloc (yo b)) b dv s p)) :
 Calls Tryz.prog 273 #[.pointer (some ⟨b, 0, none⟩), .func (.func 274) #[.pointer (some ⟨b, 0, none⟩)] #[]] w (jF (.int .i64 0) w b dv { s with pos := p, bad := true }) := by
 have hmf : ∀ (fn : Fn) (first cap : Array Value) (w : World), (Instr.makeFunc fn first cap).run Tryz.prog w = .ok (.func fn first cap) w := fun _ _ _ _ => rfl
 obtain ⟨c0, c1, c2, f⟩ := (h.alloc (yo b)).cells
 rw [hs] at c2
 have x0 := yX w b
 have hlt := lt_of_heap h.here
 have HK := hH hk
 clear h hs hk
 go_enter_defers Tryz.func273, Tryz.ntmps273
 go_wp2_with (go_at_call 274; refine HK.out.mono ?_; rintro e w1 ⟨rfl, h2, h3⟩; have H1 := hH (aN h2 h3); clear h2 h3)
 refine leaves_cons (f := 277) (args := #[.pointer (some ⟨w.heap.size, 0, none⟩)]) (by simp) (by simp [go_sem]) ?_
 refine (jI _ w.heap.size b (vL H1.out.2 hlt) H1.out.1.cells.2.2.1 _ []).mono ?_
 rintro e u' w'' ⟨rfl, rfl, rfl⟩
 simp [Leaves, settle, results, Tryz.results273, go_sem]
 exact ⟨rfl, H1.out.1, qi H1.out.2⟩
theorem kI (w : World) (b : Nat) (dv : Value) (s s' : Rd) (h : zH w b dv s) (hs : s.bad = false) (hs' : s'.bad = false) (K : Value → World → Prop)
 (hk : Calls Tryz.prog 122 #[.pointer (some ⟨b, 0, none⟩)] (w.alloc (yo b)) (Zx K (w.alloc (yo b)) b dv s')) :
 Calls Tryz.prog 121 #[.pointer (some ⟨b, 0, none⟩), .func (.func 122) #[.pointer (some ⟨b, 0, none⟩)] #[]] w (Zx K w b dv s') := by
 have hmf : ∀ (fn : Fn) (first cap : Array Value) (w : World), (Instr.makeFunc fn first cap).run Tryz.prog w = .ok (.func fn first cap) w := fun _ _ _ _ => rfl
 obtain ⟨c0, c1, c2, f⟩ := (h.alloc (yo b)).cells
 rw [hs] at c2
 have x0 := yX w b
 have hlt := lt_of_heap h.here
 have HK := hH hk
 clear h hs hk
 go_enter_defers Tryz.func121, Tryz.ntmps121
 go_wp2_with (go_at_call 122; refine HK.out.mono ?_; rintro e w1 ⟨v, rfl, h1, h2, h3⟩; have H1 := hH (aN h1 (aN h2 h3)); clear h1 h2 h3)
 refine leaves_cons (f := 156) (args := #[.pointer (some ⟨w.heap.size, 0, none⟩)]) (by simp) (by simp [go_sem]) ?_
 refine (vU _ w.heap.size b (vL H1.out.2.2 hlt) (by have := H1.out.2.1.cells.2.2.1; rw [hs'] at this; exact this)).mono ?_
 rintro e u' w'' ⟨rfl, rfl, rfl⟩
 simp [Leaves, settle, results, Tryz.results121, go_sem]
 exact ⟨_, rfl, H1.out.1, H1.out.2.1, qi H1.out.2.2⟩
theorem jv (w : World) (b : Nat) (dv : Value) (s : Rd) (h : zH w b dv s) (hs : s.bad = false) (p : Nat)
 (hk : Calls Tryz.prog 122 #[.pointer (some ⟨b, 0, none⟩)] (w.alloc (yo b)) (jA (w.alloc (yo b)) b dv s p)) :
 Calls Tryz.prog 121 #[.pointer (some ⟨b, 0, none⟩), .func (.func 122) #[.pointer (some ⟨b, 0, none⟩)] #[]] w (jF (.int .i8 0) w b dv { s with pos := p, bad := true }) := by
 have hmf : ∀ (fn : Fn) (first cap : Array Value) (w : World), (Instr.makeFunc fn first cap).run Tryz.prog w = .ok (.func fn first cap) w := fun _ _ _ _ => rfl
 obtain ⟨c0, c1, c2, f⟩ := (h.alloc (yo b)).cells
 rw [hs] at c2
 have x0 := yX w b
 have hlt := lt_of_heap h.here
 have HK := hH hk
 clear h hs hk
 go_enter_defers Tryz.func121, Tryz.ntmps121
 go_wp2_with (go_at_call 122; refine HK.out.mono ?_; rintro e w1 ⟨rfl, h2, h3⟩; have H1 := hH (aN h2 h3); clear h2 h3)
 refine leaves_cons (f := 156) (args := #[.pointer (some ⟨w.heap.size, 0, none⟩)]) (by simp) (by simp [go_sem]) ?_
 refine (vT _ w.heap.size b (vL H1.out.2 hlt) H1.out.1.cells.2.2.1 _ []).mono ?_
 rintro e u' w'' ⟨rfl, rfl, rfl⟩
 simp [Leaves, settle, results, Tryz.results121, go_sem]
 exact ⟨rfl, H1.out.1, qi H1.out.2⟩
end Go.Proofs.YtchccbfljamjnaaGreat
