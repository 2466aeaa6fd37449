/-
  A reader of layer 3 reads a node: plainly, and what the closure's closure answers. No condition.
-/
import Derived.Test.YteccnekdmehloaaDoorCRead
import Derived.Test.YteccnekdmehloaaDoorCPutNode
namespace Go.Proofs.YteccnekdmehloaaDoor
open Go.RowKit
open Extern.Stop (cell)

/-- n things, one behind the other; a number goes along with them. -/
def pList {α : Type} (one : Nat → Nat → Got (α × Nat)) : Nat → Nat → Nat → Got (List α × Nat)
  | 0, m, p => .ok (([], m), p)
  | k + 1, m, p => match pList one k m p with
    | .error e => .error e
    | .ok ((l, m1), q) => match one m1 q with
      | .error e => .error e
      | .ok ((x, m2), q2) => .ok ((l ++ [x], m2), q2)
/-- A node of a depth, with all below it; m: how many nodes there are so far. -/
def pNode (d : List UInt8) : Nat → Nat → Nat → Nat → Got (Tr × Nat)
  | 0, _, _, p => .error p
  | f + 1, depth, m, p =>
    if 40 < depth ∨ 200 < m + 1 then .error p else
    match pNum d p with
    | .error e => .error e
    | .ok (id, q1) => match pNum d q1 with
      | .error e => .error e
      | .ok (kd, q2) => match pText d q2 with
        | .error e => .error e
        | .ok (tx, q3) => match pCount d 32 9223372036854775807 q3 with
          | .error e => .error e
          | .ok (n, q4) => match pList (fun m' q => pNode d f (depth + 1) m' q) n (m + 1) q4 with
            | .error e => .error e
            | .ok ((l, m2), q5) => .ok ((⟨id, kd, tx, foOfC l⟩, m2), q5)

/-- What was made since w. -/
def Fresh (w w' : World) : Nat → Prop := fun x => w.heap.size ≤ x ∧ x < w'.heap.size
theorem set4 {w : World} {b : Nat} {t : TypeId} {c0 c1 c2 c3 : Value} (h : w.heap[b]? = some (.cells #[c0, c1, c2, c3] t (0, 0))) (u0 u1 u2 u3 : Value) :
    ((((w.setCell ⟨b, 0, none⟩ u0).setCell ⟨b, 1, none⟩ u1).setCell ⟨b, 2, none⟩ u2).setCell ⟨b, 3, none⟩ u3).heap[b]? = some (.cells #[u0, u1, u2, u3] t (0, 0)) ∧
    Touched w ((((w.setCell ⟨b, 0, none⟩ u0).setCell ⟨b, 1, none⟩ u1).setCell ⟨b, 2, none⟩ u2).setCell ⟨b, 3, none⟩ u3) (fun k => k = b) ∧
    ((((w.setCell ⟨b, 0, none⟩ u0).setCell ⟨b, 1, none⟩ u1).setCell ⟨b, 2, none⟩ u2).setCell ⟨b, 3, none⟩ u3).heap.size = w.heap.size := by
  have h0 := heap_setCell_same w b 0 _ _ u0 h
  have h1 := heap_setCell_same _ b 1 _ _ u1 h0
  have h2 := heap_setCell_same _ b 2 _ _ u2 h1
  have h3 := heap_setCell_same _ b 3 _ _ u3 h2
  refine ⟨h3, ?_, by simp [World.setCell]⟩
  exact (((Touched.setCell (w := w) (S := fun k => k = b) (a := ⟨b, 0, none⟩) rfl u0).trans (Touched.setCell (S := fun k => k = b) (a := ⟨b, 1, none⟩) rfl u1) (fun k hk => Or.inl hk)).trans (Touched.setCell (S := fun k => k = b) (a := ⟨b, 2, none⟩) rfl u2) (fun k hk => Or.inl hk)).trans (Touched.setCell (S := fun k => k = b) (a := ⟨b, 3, none⟩) rfl u3) (fun k hk => Or.inl hk)

/-- The closure's own memory: the number of nodes, the reader, the closure itself. -/
structure NodeSt (w : World) (nb rb fb b : Nat) (dv : Value) (s : Rd) (m : Nat) : Prop where
  rd : RdAt w b dv s
  n : w.heap[nb]? = some (.cells #[.int .i64 (m : Int)] 3 (0, 0))
  r : w.heap[rb]? = some (.cells #[.pointer (some ⟨b, 0, none⟩)] 47 (0, 0))
  f : w.heap[fb]? = some (.cells #[.func (.func 58) #[] #[.pointer (some ⟨nb, 0, none⟩), .pointer (some ⟨rb, 0, none⟩), .pointer (some ⟨fb, 0, none⟩)]] 84 (0, 0))
theorem NodeSt.kept {w w' : World} {nb rb fb b : Nat} {dv : Value} {s : Rd} {m : Nat} (h : NodeSt w nb rb fb b dv s m) {S : Nat → Prop} (ht : Touched w w' S) (hS : ∀ k, S k → w.heap.size ≤ k) : NodeSt w' nb rb fb b dv s m := by
  have hk : ∀ {k o}, w.heap[k]? = some o → w'.heap[k]? = some o := fun {k o} hh => by
    have := lt_of_heap hh
    rw [ht.block k this (fun e => by have := hS k e; omega)]; exact hh
  exact ⟨h.rd.kept (S := fun k => S k ∧ w.heap.size ≤ k) ⟨ht.os, ht.tape, ht.output, ht.size, fun k hk hn => ht.block k hk (fun e => hn ⟨e, hS k e⟩)⟩ (fun e => by have := lt_of_heap h.rd.here; omega) (fun g hg e => by have := owns_lt h.rd.owns g hg; omega), hk h.n, hk h.r, hk h.f⟩
theorem NodeSt.keep {w w' : World} {nb rb fb b : Nat} {dv : Value} {s : Rd} {m : Nat} (h : NodeSt w nb rb fb b dv s m) {S : Nat → Prop} (ht : Touched w w' S) (h1 : ¬ S b) (h2 : ∀ g, dv.ownBlock = some g → ¬ S g) (h3 : ¬ S nb) (h4 : ¬ S rb) (h5 : ¬ S fb) : NodeSt w' nb rb fb b dv s m :=
  ⟨h.rd.kept ht h1 h2, (ht.block _ (lt_of_heap h.n) h3).trans h.n, (ht.block _ (lt_of_heap h.r) h4).trans h.r, (ht.block _ (lt_of_heap h.f) h5).trans h.f⟩
/-- All of it lies below B. -/
def LowSt (B nb rb fb b : Nat) (dv : Value) : Prop := b < B ∧ nb < B ∧ rb < B ∧ fb < B ∧ ∀ g, dv.ownBlock = some g → g < B
theorem NodeSt.low {w : World} {nb rb fb b : Nat} {dv : Value} {s : Rd} {m : Nat} (h : NodeSt w nb rb fb b dv s m) : LowSt w.heap.size nb rb fb b dv := ⟨lt_of_heap h.rd.here, lt_of_heap h.n, lt_of_heap h.r, lt_of_heap h.f, owns_lt h.rd.owns⟩
theorem NodeSt.one {w w' : World} {nb rb fb b : Nat} {dv : Value} {s : Rd} {m B x : Nat} (h : NodeSt w nb rb fb b dv s m) (hl : LowSt B nb rb fb b dv) (hx : B ≤ x) (ht : Touched w w' (fun k => k = x)) : NodeSt w' nb rb fb b dv s m :=
  h.keep ht (fun e => by have := hl.1; omega) (fun g hg e => by have := hl.2.2.2.2 g hg; omega) (fun e => by have := hl.2.1; omega) (fun e => by have := hl.2.2.1; omega) (fun e => by have := hl.2.2.2.1; omega)
theorem NodeSt.alloc {w : World} {nb rb fb b : Nat} {dv : Value} {s : Rd} {m : Nat} (h : NodeSt w nb rb fb b dv s m) (o : Obj) : NodeSt (w.alloc o) nb rb fb b dv s m := h.kept (S := fun _ => False) ((Touched.refl w _).alloc o) (fun _ => False.elim)
def NbR (b nb : Nat) : Nat → Prop := fun k => k = b ∨ k = nb
def NodeOut (w : World) (nb rb fb b : Nat) (dv : Value) (s : Rd) : Got (Tr × Nat) → Ending → World → Prop
  | .ok ((t, m), q), e, w' => ∃ v, e = .returned v ∧ TrAt w' (Fresh w w') v t ∧ NodeSt w' nb rb fb b dv { s with pos := q } m ∧ Touched w w' (NbR b nb)
  | .error p, e, w' => e = .panicked fell ∧ RdAt w' b dv { s with pos := p, bad := true } ∧ Touched w w' (NbR b nb)
/-- What the closure answers at a depth. -/
def NodeC (nb rb fb b : Nat) (dv : Value) (d : List UInt8) (f depth : Nat) : Prop := ∀ (w : World) (s : Rd) (m : Nat), s.data = d → NodeSt w nb rb fb b dv s m → m ≤ 200 →
  Calls Tryd.prog 58 #[.int .i64 (depth : Int), .pointer (some ⟨nb, 0, none⟩), .pointer (some ⟨rb, 0, none⟩), .pointer (some ⟨fb, 0, none⟩)] w (NodeOut w nb rb fb b dv s (pNode d f depth m s.pos))

set_option maxHeartbeats 1000000 in
theorem sub_any (nb rb fb b : Nat) (dv : Value) (d : List UInt8) (f depth db : Nat) (hn : NodeC nb rb fb b dv d f (depth + 1)) (hd40 : depth ≤ 1000) (w : World) (s : Rd) (m : Nat) (hs : s.data = d) (h : NodeSt w nb rb fb b dv s m) (hm : m ≤ 200) (hdb : w.heap[db]? = some (.cells #[.int .i64 (depth : Int)] 3 (0, 0))) :
    Calls Tryd.prog 64 #[.pointer (some ⟨fb, 0, none⟩), .pointer (some ⟨db, 0, none⟩)] w (NodeOut w nb rb fb b dv s (pNode d f (depth + 1) m s.pos)) := by
  have hc := hn (w.alloc (.cells #[.int .i64 0, .int .i64 0, .string ⟨#[]⟩, .slice none 0 0] 25)) s m hs (h.alloc _) hm
  have ht0 := (Touched.refl w (NbR b nb)).alloc (.cells #[.int .i64 0, .int .i64 0, .string ⟨#[]⟩, .slice none 0 0] 25)
  have p0 : (w.alloc (.cells #[.int .i64 0, .int .i64 0, .string ⟨#[]⟩, .slice none 0 0] 25)).cell? ⟨fb, 0, none⟩ = some (.func (.func 58) #[] #[.pointer (some ⟨nb, 0, none⟩), .pointer (some ⟨rb, 0, none⟩), .pointer (some ⟨fb, 0, none⟩)]) := by rw [cell_of_row _ _ 0 _ _ _ (h.alloc _).f]; rfl
  have p1 : (w.alloc (.cells #[.int .i64 0, .int .i64 0, .string ⟨#[]⟩, .slice none 0 0] 25)).cell? ⟨db, 0, none⟩ = some (.int .i64 (depth : Int)) := by rw [cell_of_row _ _ 0 _ _ _ ((Below.heap_alloc w _ db (lt_of_heap hdb)).trans hdb)]; rfl
  have hlow := h.low
  cases hp : pNode d f (depth + 1) m s.pos with
  | error p =>
    rw [hp] at hc
    have HC := Lib.hid (And.intro hc ht0)
    clear hc hn h hp hdb ht0 hs hm hlow
    go_enter Tryd.func64, Tryd.ntmps64
    go_wp2_with (go_at_call 58; refine HC.out.1.mono ?_; rintro e w1 ⟨rfl, h1, h2⟩)
    exact ⟨rfl, rfl, h1, HC.out.2.trans h2 (fun k hk => Or.inl hk)⟩
  | ok x =>
    obtain ⟨⟨t, m2⟩, q⟩ := x
    rw [hp] at hc
    have HC := Lib.hid (And.intro hc ht0)
    have HB := Lib.hid hlow
    clear hc hn h hp hdb ht0 hs hm hlow
    go_enter Tryd.func64, Tryd.ntmps64
    go_wp2_with (go_at_call 58; refine HC.out.1.mono ?_; rintro e w1 ⟨v, rfl, ⟨ka, kcap, rfl, hcp, hk⟩, h1, h2⟩; have hg : w1.heap[w.heap.size]? = some (.cells #[.int .i64 0, .int .i64 0, .string ⟨#[]⟩, .slice none 0 0] 25 (0, 0)) := (h2.block _ (by rw [World.size_alloc]; omega) (fun e => by have := HB.out.1; have := HB.out.2.1; rcases e with e | e <;> omega)).trans (heap_alloc_new w _); have d0 : w1.cell? ⟨w.heap.size, 0, none⟩ = some (.int .i64 0) := (by rw [cell_of_row w1 _ 0 _ _ _ hg]; rfl); have d1 : w1.cell? ⟨w.heap.size, 1, none⟩ = some (.int .i64 0) := (by rw [cell_of_row w1 _ 1 _ _ _ hg]; rfl); have d2 : w1.cell? ⟨w.heap.size, 2, none⟩ = some (.string ⟨#[]⟩) := (by rw [cell_of_row w1 _ 2 _ _ _ hg]; rfl); have d3 : w1.cell? ⟨w.heap.size, 3, none⟩ = some (.slice none 0 0) := (by rw [cell_of_row w1 _ 3 _ _ _ hg]; rfl); have df : ∀ j, w1.frozen? ⟨w.heap.size, j, none⟩ = false := (fun j => frozen_of_row w1 _ j _ _ hg); obtain ⟨len, hlen⟩ : ∃ len, len = foLen t.kids := ⟨_, rfl⟩; rw [← hlen]; have H1 := Lib.hid (And.intro h1 (And.intro h2 (And.intro hg (And.intro hcp (And.intro hk hlen))))); clear h1 h2 hg hcp hk hlen)
    obtain ⟨g1, g2, g3, g4, g5, g6⟩ := H1.out
    obtain ⟨s1, s2, s3⟩ := set4 g3 (.int .i64 t.id) (.int .i64 t.kind) (.string t.text) (.slice ka len kcap)
    refine bodyPost_ret (results_cell_row rfl _ _ w.heap.size 25 _ (0, 0) _ rfl s1 Tryd.underlying25 rfl (by kernel_rfl)) rfl ?_
    refine ⟨_, rfl, ⟨ka, kcap, by rw [g6], g4, g5.kept fun x hx => ?_⟩, g1.one HB.out (Nat.le_refl _) s2, (HC.out.2.trans g2 (fun k hk => Or.inl hk)).trans s2 (fun k hk => Or.inr (by omega))⟩
    have hx1 := hx.1
    rw [World.size_alloc] at hx1
    exact ⟨⟨by omega, by rw [s3]; exact hx.2⟩, s2.block x hx.2 (by omega)⟩
end Go.Proofs.YteccnekdmehloaaDoor
