/-
  A reader of layer 3 reads a step. No condition.
-/
import Derived.Test.YtljlijdgocfofaaCNodeW
import Derived.Deep.MidRow
import Derived.Laws.Rows
namespace Go.Proofs.Ytljlijdgocfofaa
open Go.RowKit
open Extern.Stop (cell)

def pStep (d : List UInt8) (p : Nat) : Got Stp :=
  match pSmall d p with
  | .error e => .error e
  | .ok (op, q1) => match pNum d q1 with
    | .error e => .error e
    | .ok (id, q2) => match pNum d q2 with
      | .error e => .error e
      | .ok (pa, q3) => match pNum d q3 with
        | .error e => .error e
        | .ok (pl, q4) => match pText d q4 with
          | .error e => .error e
          | .ok (tx, q5) => match pTree d q5 with
            | .error e => .error e
            | .ok (t, q6) => .ok (⟨op, id, pa, pl, tx, t⟩, q6)
abbrev zeroS : Array Value := #[.int .i8 0, .int .i64 0, .int .i64 0, .int .i64 0, .string ⟨#[]⟩, .int .i64 0, .int .i64 0, .string ⟨#[]⟩, .slice none 0 0]
/-- Between the reads: the step so far lies in block w.heap.size + 1. -/
structure SSt (w : World) (b : Nat) (dv : Value) (xc : Array Value) (s : Rd) (wr : World) : Prop where
  rd : RdAt wr b dv s
  low : b < w.heap.size ∧ ∀ g, dv.ownBlock = some g → g < w.heap.size
  rs : wr.heap[w.heap.size]? = some (.cells zeroS 54 (0, 0))
  x : wr.heap[w.heap.size + 1]? = some (.cells xc 54 (0, 0))
  tch : Touched w wr (fun k => k = b)
theorem SSt.read {w wr w' : World} {b : Nat} {dv : Value} {xc : Array Value} {s s' : Rd} (h : SSt w b dv xc s wr) (hr : RdAt w' b dv s') (ht : Touched wr w' (fun k => k = b)) : SSt w b dv xc s' w' := by
  have hb := h.low.1
  exact ⟨hr, h.low, (ht.block _ (lt_of_heap h.rs) (by omega)).trans h.rs, (ht.block _ (lt_of_heap h.x) (by omega)).trans h.x, h.tch.trans ht (fun k hk => Or.inl hk)⟩
theorem SSt.set {w wr : World} {b : Nat} {dv : Value} {xc : Array Value} {s : Rd} (h : SSt w b dv xc s wr) (i : Nat) (v : Value) : SSt w b dv (xc.setIfInBounds i v) s (wr.setCell ⟨w.heap.size + 1, i, none⟩ v) := by
  have hb := h.low.1
  have ht : Touched wr (wr.setCell ⟨w.heap.size + 1, i, none⟩ v) (fun k => k = w.heap.size + 1) := Touched.setCell (S := fun k => k = w.heap.size + 1) (a := ⟨w.heap.size + 1, i, none⟩) rfl _
  exact ⟨h.rd.kept ht (by omega) (fun g hg e => by have := h.low.2 g hg; omega), h.low, (ht.block _ (lt_of_heap h.rs) (by omega)).trans h.rs, by rw [heap_setCell_same wr _ i _ _ _ h.x], h.tch.trans ht (fun k hk => Or.inr (by omega))⟩
theorem SSt.start {w : World} {b : Nat} {dv : Value} {s : Rd} (h : RdAt w b dv s) : SSt w b dv zeroS s ((w.alloc (.cells zeroS 54)).alloc (.cells zeroS 54)) :=
  ⟨(h.alloc _).alloc _, ⟨lt_of_heap h.here, owns_lt h.owns⟩, heap_alloc2_old w _ _, heap_alloc2_new w _ _, ((Touched.refl w _).alloc _).alloc _⟩
theorem nine {w : World} {k : Nat} {x0 x1 x2 x3 x4 x5 x6 x7 x8 : Value} (h : w.heap[k]? = some (.cells #[x0, x1, x2, x3, x4, x5, x6, x7, x8] 54 (0, 0))) : (w.cell? ⟨k, 0, none⟩ = some x0 ∧ w.cell? ⟨k, 1, none⟩ = some x1 ∧ w.cell? ⟨k, 2, none⟩ = some x2 ∧ w.cell? ⟨k, 3, none⟩ = some x3 ∧ w.cell? ⟨k, 4, none⟩ = some x4) ∧ (w.cell? ⟨k, 5, none⟩ = some x5 ∧ w.cell? ⟨k, 6, none⟩ = some x6 ∧ w.cell? ⟨k, 7, none⟩ = some x7 ∧ w.cell? ⟨k, 8, none⟩ = some x8) ∧ ∀ j, w.frozen? ⟨k, j, none⟩ = false :=
  ⟨⟨by rw [cell_of_row _ _ 0 _ _ _ h]; rfl, by rw [cell_of_row _ _ 1 _ _ _ h]; rfl, by rw [cell_of_row _ _ 2 _ _ _ h]; rfl, by rw [cell_of_row _ _ 3 _ _ _ h]; rfl, by rw [cell_of_row _ _ 4 _ _ _ h]; rfl⟩, ⟨by rw [cell_of_row _ _ 5 _ _ _ h]; rfl, by rw [cell_of_row _ _ 6 _ _ _ h]; rfl, by rw [cell_of_row _ _ 7 _ _ _ h]; rfl, by rw [cell_of_row _ _ 8 _ _ _ h]; rfl⟩, fun j => frozen_of_row w k j _ _ h⟩
theorem set9 {w : World} {k : Nat} {t : TypeId} {c0 c1 c2 c3 c4 c5 c6 c7 c8 : Value} (h : w.heap[k]? = some (.cells #[c0, c1, c2, c3, c4, c5, c6, c7, c8] t (0, 0))) (u0 u1 u2 u3 u4 u5 u6 u7 u8 : Value) (W : World)
    (hW : W = (((((((((w.setCell ⟨k, 0, none⟩ u0).setCell ⟨k, 1, none⟩ u1).setCell ⟨k, 2, none⟩ u2).setCell ⟨k, 3, none⟩ u3).setCell ⟨k, 4, none⟩ u4).setCell ⟨k, 5, none⟩ u5).setCell ⟨k, 6, none⟩ u6).setCell ⟨k, 7, none⟩ u7).setCell ⟨k, 8, none⟩ u8)) :
    W.heap[k]? = some (.cells #[u0, u1, u2, u3, u4, u5, u6, u7, u8] t (0, 0)) ∧ Touched w W (fun x => x = k) ∧ W.heap.size = w.heap.size := by
  have st : ∀ (v : World) (i : Nat) (u : Value), Touched v (v.setCell ⟨k, i, none⟩ u) (fun x => x = k) := fun v i u => Touched.setCell (S := fun x => x = k) (a := ⟨k, i, none⟩) rfl u
  have tr : ∀ {x y z : World}, Touched x y (fun x => x = k) → Touched y z (fun x => x = k) → Touched x z (fun x => x = k) := fun h1 h2 => h1.trans h2 (fun _ hk => Or.inl hk)
  have h0 : (w.setCell ⟨k, 0, none⟩ u0).heap[k]? = some (.cells #[u0, c1, c2, c3, c4, c5, c6, c7, c8] t (0, 0)) := heap_setCell_same _ k 0 _ _ u0 h
  have h1 : ((w.setCell ⟨k, 0, none⟩ u0).setCell ⟨k, 1, none⟩ u1).heap[k]? = some (.cells #[u0, u1, c2, c3, c4, c5, c6, c7, c8] t (0, 0)) := heap_setCell_same _ k 1 _ _ u1 h0
  have h2 : (((w.setCell ⟨k, 0, none⟩ u0).setCell ⟨k, 1, none⟩ u1).setCell ⟨k, 2, none⟩ u2).heap[k]? = some (.cells #[u0, u1, u2, c3, c4, c5, c6, c7, c8] t (0, 0)) := heap_setCell_same _ k 2 _ _ u2 h1
  have h3 : ((((w.setCell ⟨k, 0, none⟩ u0).setCell ⟨k, 1, none⟩ u1).setCell ⟨k, 2, none⟩ u2).setCell ⟨k, 3, none⟩ u3).heap[k]? = some (.cells #[u0, u1, u2, u3, c4, c5, c6, c7, c8] t (0, 0)) := heap_setCell_same _ k 3 _ _ u3 h2
  have h4 : (((((w.setCell ⟨k, 0, none⟩ u0).setCell ⟨k, 1, none⟩ u1).setCell ⟨k, 2, none⟩ u2).setCell ⟨k, 3, none⟩ u3).setCell ⟨k, 4, none⟩ u4).heap[k]? = some (.cells #[u0, u1, u2, u3, u4, c5, c6, c7, c8] t (0, 0)) := heap_setCell_same _ k 4 _ _ u4 h3
  have h5 : ((((((w.setCell ⟨k, 0, none⟩ u0).setCell ⟨k, 1, none⟩ u1).setCell ⟨k, 2, none⟩ u2).setCell ⟨k, 3, none⟩ u3).setCell ⟨k, 4, none⟩ u4).setCell ⟨k, 5, none⟩ u5).heap[k]? = some (.cells #[u0, u1, u2, u3, u4, u5, c6, c7, c8] t (0, 0)) := heap_setCell_same _ k 5 _ _ u5 h4
  have h6 : (((((((w.setCell ⟨k, 0, none⟩ u0).setCell ⟨k, 1, none⟩ u1).setCell ⟨k, 2, none⟩ u2).setCell ⟨k, 3, none⟩ u3).setCell ⟨k, 4, none⟩ u4).setCell ⟨k, 5, none⟩ u5).setCell ⟨k, 6, none⟩ u6).heap[k]? = some (.cells #[u0, u1, u2, u3, u4, u5, u6, c7, c8] t (0, 0)) := heap_setCell_same _ k 6 _ _ u6 h5
  have h7 : ((((((((w.setCell ⟨k, 0, none⟩ u0).setCell ⟨k, 1, none⟩ u1).setCell ⟨k, 2, none⟩ u2).setCell ⟨k, 3, none⟩ u3).setCell ⟨k, 4, none⟩ u4).setCell ⟨k, 5, none⟩ u5).setCell ⟨k, 6, none⟩ u6).setCell ⟨k, 7, none⟩ u7).heap[k]? = some (.cells #[u0, u1, u2, u3, u4, u5, u6, u7, c8] t (0, 0)) := heap_setCell_same _ k 7 _ _ u7 h6
  have h8 : (((((((((w.setCell ⟨k, 0, none⟩ u0).setCell ⟨k, 1, none⟩ u1).setCell ⟨k, 2, none⟩ u2).setCell ⟨k, 3, none⟩ u3).setCell ⟨k, 4, none⟩ u4).setCell ⟨k, 5, none⟩ u5).setCell ⟨k, 6, none⟩ u6).setCell ⟨k, 7, none⟩ u7).setCell ⟨k, 8, none⟩ u8).heap[k]? = some (.cells #[u0, u1, u2, u3, u4, u5, u6, u7, u8] t (0, 0)) := heap_setCell_same _ k 8 _ _ u8 h7
  have hs : ∀ (v : World) (i : Nat) (u : Value), (v.setCell ⟨k, i, none⟩ u).heap.size = v.heap.size := fun v i u => by simp [World.setCell]
  have a0 := st w 0 u0
  have a1 := tr a0 (st _ 1 u1)
  have a2 := tr a1 (st _ 2 u2)
  have a3 := tr a2 (st _ 3 u3)
  have a4 := tr a3 (st _ 4 u4)
  have a5 := tr a4 (st _ 5 u5)
  have a6 := tr a5 (st _ 6 u6)
  have a7 := tr a6 (st _ 7 u7)
  have a8 := tr a7 (st _ 8 u8)
  rw [← hW] at h8 a8
  exact ⟨h8, a8, by rw [hW, hs, hs, hs, hs, hs, hs, hs, hs, hs]⟩
abbrev StpV (w : World) : Stp → Value → World → Prop := fun x v w' => StAt w' (Fresh w w') v x

set_option maxRecDepth 100000 in
set_option maxHeartbeats 4000000 in
theorem step_any (w : World) (b : Nat) (dv : Value) (s : Rd) (h : RdAt w b dv s) : Calls Try.prog 70 #[.pointer (some ⟨b, 0, none⟩)] w (OutC (StpV w) w b dv s (pStep s.data s.pos)) := by
  obtain ⟨out, hout⟩ : ∃ out, out = pStep s.data s.pos := ⟨_, rfl⟩
  rw [← hout]
  have HO := Lib.hid hout
  have hst := SSt.start h
  have H0 := Lib.hid hst
  have hc0 := small_any _ b dv s hst.rd
  have HC0 := Lib.hid hc0
  obtain ⟨⟨x0, x1, x2, x3, x4⟩, ⟨x5, x6, x7, x8⟩, xf⟩ := nine hst.x
  clear hst hout h hc0
  go_enter Try.func70, Try.ntmps70
  go_wp2_with fail
  cases hp1 : pSmall s.data s.pos with
  | error e1 =>
    have ho : out = .error e1 := by
      rw [HO.out]; simp only [pStep, hp1]
    subst ho
    have hc := HC0.out
    rw [hp1] at hc
    refine hc.mono ?_
    rintro e w4 ⟨rfl, h1, h2⟩
    clear hc hp1 HO
    go_wp2_with fail
    exact ⟨rfl, rfl, h1, (H0.out.read h1 h2).tch⟩
  | ok y1 =>
    obtain ⟨op, q1⟩ := y1
    have hc := HC0.out
    rw [hp1] at hc
    refine hc.mono ?_
    rintro e w1 ⟨v4, rfl, rfl, h1, h2⟩
    have HP1 := Lib.hid hp1
    have hs4 : SSt w b dv #[.int .i8 0, .int .i64 0, .int .i64 0, .int .i64 0, .string ⟨#[]⟩, .int .i64 0, .int .i64 0, .string ⟨#[]⟩, .slice none 0 0] { s with pos := q1 } w1 := H0.out.read h1 h2
    obtain ⟨⟨z0, z1, z2, z3, z4⟩, ⟨z5, z6, z7, z8⟩, zf⟩ := nine hs4.x
    have hs5 : SSt w b dv #[.int .i8 op, .int .i64 0, .int .i64 0, .int .i64 0, .string ⟨#[]⟩, .int .i64 0, .int .i64 0, .string ⟨#[]⟩, .slice none 0 0] { s with pos := q1 } (w1.setCell ⟨w.heap.size + 1, 0, none⟩ (.int .i8 op)) := hs4.set 0 (.int .i8 op)
    have hcn := number_any _ b dv { s with pos := q1 } hs5.rd
    have HC1 := Lib.hid hcn
    have HS1 := Lib.hid hs5
    clear hc hp1 h1 h2 hs4 hs5 hcn x0 x1 x2 x3 x4 x5 x6 x7 x8 xf HC0
    have x0 := z0
    have x1 := z1
    have x2 := z2
    have x3 := z3
    have x4 := z4
    have x5 := z5
    have x6 := z6
    have x7 := z7
    have x8 := z8
    have xf := zf
    clear z0 z1 z2 z3 z4 z5 z6 z7 z8 zf
    go_wp2_with fail
    cases hp2 : pNum s.data q1 with
    | error e1 =>
      have ho : out = .error e1 := by
        have hp1 := HP1.out; rw [HO.out]; simp only [pStep, hp1, hp2]
      subst ho
      have hc := HC1.out
      rw [hp2] at hc
      refine hc.mono ?_
      rintro e w4 ⟨rfl, h1, h2⟩
      clear hc hp2 HO
      go_wp2_with fail
      exact ⟨rfl, rfl, h1, (HS1.out.read h1 h2).tch⟩
    | ok y1 =>
      obtain ⟨id, q2⟩ := y1
      have hc := HC1.out
      rw [hp2] at hc
      refine hc.mono ?_
      rintro e w2 ⟨v4, rfl, rfl, h1, h2⟩
      have HP2 := Lib.hid hp2
      have hs4 : SSt w b dv #[.int .i8 op, .int .i64 0, .int .i64 0, .int .i64 0, .string ⟨#[]⟩, .int .i64 0, .int .i64 0, .string ⟨#[]⟩, .slice none 0 0] { s with pos := q2 } w2 := HS1.out.read h1 h2
      obtain ⟨⟨z0, z1, z2, z3, z4⟩, ⟨z5, z6, z7, z8⟩, zf⟩ := nine hs4.x
      have hs5 : SSt w b dv #[.int .i8 op, .int .i64 id, .int .i64 0, .int .i64 0, .string ⟨#[]⟩, .int .i64 0, .int .i64 0, .string ⟨#[]⟩, .slice none 0 0] { s with pos := q2 } (w2.setCell ⟨w.heap.size + 1, 1, none⟩ (.int .i64 id)) := hs4.set 1 (.int .i64 id)
      have hcn := number_any _ b dv { s with pos := q2 } hs5.rd
      have HC2 := Lib.hid hcn
      have HS2 := Lib.hid hs5
      clear hc hp2 h1 h2 hs4 hs5 hcn x0 x1 x2 x3 x4 x5 x6 x7 x8 xf HC1
      have x0 := z0
      have x1 := z1
      have x2 := z2
      have x3 := z3
      have x4 := z4
      have x5 := z5
      have x6 := z6
      have x7 := z7
      have x8 := z8
      have xf := zf
      clear z0 z1 z2 z3 z4 z5 z6 z7 z8 zf
      go_wp2_with fail
      cases hp3 : pNum s.data q2 with
      | error e1 =>
        have ho : out = .error e1 := by
          have hp1 := HP1.out; have hp2 := HP2.out; rw [HO.out]; simp only [pStep, hp1, hp2, hp3]
        subst ho
        have hc := HC2.out
        rw [hp3] at hc
        refine hc.mono ?_
        rintro e w4 ⟨rfl, h1, h2⟩
        clear hc hp3 HO
        go_wp2_with fail
        exact ⟨rfl, rfl, h1, (HS2.out.read h1 h2).tch⟩
      | ok y1 =>
        obtain ⟨pa, q3⟩ := y1
        have hc := HC2.out
        rw [hp3] at hc
        refine hc.mono ?_
        rintro e w3 ⟨v4, rfl, rfl, h1, h2⟩
        have HP3 := Lib.hid hp3
        have hs4 : SSt w b dv #[.int .i8 op, .int .i64 id, .int .i64 0, .int .i64 0, .string ⟨#[]⟩, .int .i64 0, .int .i64 0, .string ⟨#[]⟩, .slice none 0 0] { s with pos := q3 } w3 := HS2.out.read h1 h2
        obtain ⟨⟨z0, z1, z2, z3, z4⟩, ⟨z5, z6, z7, z8⟩, zf⟩ := nine hs4.x
        have hs5 : SSt w b dv #[.int .i8 op, .int .i64 id, .int .i64 pa, .int .i64 0, .string ⟨#[]⟩, .int .i64 0, .int .i64 0, .string ⟨#[]⟩, .slice none 0 0] { s with pos := q3 } (w3.setCell ⟨w.heap.size + 1, 2, none⟩ (.int .i64 pa)) := hs4.set 2 (.int .i64 pa)
        have hcn := number_any _ b dv { s with pos := q3 } hs5.rd
        have HC3 := Lib.hid hcn
        have HS3 := Lib.hid hs5
        clear hc hp3 h1 h2 hs4 hs5 hcn x0 x1 x2 x3 x4 x5 x6 x7 x8 xf HC2
        have x0 := z0
        have x1 := z1
        have x2 := z2
        have x3 := z3
        have x4 := z4
        have x5 := z5
        have x6 := z6
        have x7 := z7
        have x8 := z8
        have xf := zf
        clear z0 z1 z2 z3 z4 z5 z6 z7 z8 zf
        go_wp2_with fail
        cases hp4 : pNum s.data q3 with
        | error e1 =>
          have ho : out = .error e1 := by
            have hp1 := HP1.out; have hp2 := HP2.out; have hp3 := HP3.out; rw [HO.out]; simp only [pStep, hp1, hp2, hp3, hp4]
          subst ho
          have hc := HC3.out
          rw [hp4] at hc
          refine hc.mono ?_
          rintro e w4 ⟨rfl, h1, h2⟩
          clear hc hp4 HO
          go_wp2_with fail
          exact ⟨rfl, rfl, h1, (HS3.out.read h1 h2).tch⟩
        | ok y1 =>
          obtain ⟨pl, q4⟩ := y1
          have hc := HC3.out
          rw [hp4] at hc
          refine hc.mono ?_
          rintro e w4 ⟨v4, rfl, rfl, h1, h2⟩
          have HP4 := Lib.hid hp4
          have hs4 : SSt w b dv #[.int .i8 op, .int .i64 id, .int .i64 pa, .int .i64 0, .string ⟨#[]⟩, .int .i64 0, .int .i64 0, .string ⟨#[]⟩, .slice none 0 0] { s with pos := q4 } w4 := HS3.out.read h1 h2
          obtain ⟨⟨z0, z1, z2, z3, z4⟩, ⟨z5, z6, z7, z8⟩, zf⟩ := nine hs4.x
          have hs5 : SSt w b dv #[.int .i8 op, .int .i64 id, .int .i64 pa, .int .i64 pl, .string ⟨#[]⟩, .int .i64 0, .int .i64 0, .string ⟨#[]⟩, .slice none 0 0] { s with pos := q4 } (w4.setCell ⟨w.heap.size + 1, 3, none⟩ (.int .i64 pl)) := hs4.set 3 (.int .i64 pl)
          have hcn := text_any _ b dv { s with pos := q4 } hs5.rd
          have HC4 := Lib.hid hcn
          have HS4 := Lib.hid hs5
          clear hc hp4 h1 h2 hs4 hs5 hcn x0 x1 x2 x3 x4 x5 x6 x7 x8 xf HC3
          have x0 := z0
          have x1 := z1
          have x2 := z2
          have x3 := z3
          have x4 := z4
          have x5 := z5
          have x6 := z6
          have x7 := z7
          have x8 := z8
          have xf := zf
          clear z0 z1 z2 z3 z4 z5 z6 z7 z8 zf
          go_wp2_with fail
          cases hp5 : pText s.data q4 with
          | error e1 =>
            have ho : out = .error e1 := by
              have hp1 := HP1.out; have hp2 := HP2.out; have hp3 := HP3.out; have hp4 := HP4.out; rw [HO.out]; simp only [pStep, hp1, hp2, hp3, hp4, hp5]
            subst ho
            have hc := HC4.out
            rw [hp5] at hc
            refine hc.mono ?_
            rintro e w4 ⟨rfl, h1, h2⟩
            clear hc hp5 HO
            go_wp2_with fail
            exact ⟨rfl, rfl, h1, (HS4.out.read h1 h2).tch⟩
          | ok y1 =>
            obtain ⟨tx, q5⟩ := y1
            have hc := HC4.out
            rw [hp5] at hc
            refine hc.mono ?_
            rintro e w5 ⟨v4, rfl, rfl, h1, h2⟩
            have HP5 := Lib.hid hp5
            have hs4 : SSt w b dv #[.int .i8 op, .int .i64 id, .int .i64 pa, .int .i64 pl, .string ⟨#[]⟩, .int .i64 0, .int .i64 0, .string ⟨#[]⟩, .slice none 0 0] { s with pos := q5 } w5 := HS4.out.read h1 h2
            obtain ⟨⟨z0, z1, z2, z3, z4⟩, ⟨z5, z6, z7, z8⟩, zf⟩ := nine hs4.x
            have hs5 : SSt w b dv #[.int .i8 op, .int .i64 id, .int .i64 pa, .int .i64 pl, .string tx, .int .i64 0, .int .i64 0, .string ⟨#[]⟩, .slice none 0 0] { s with pos := q5 } (w5.setCell ⟨w.heap.size + 1, 4, none⟩ (.string tx)) := hs4.set 4 (.string tx)
            have hcn := node_any _ b dv { s with pos := q5 } hs5.rd
            have HC5 := Lib.hid hcn
            have HS5 := Lib.hid hs5
            clear hc hp5 h1 h2 hs4 hs5 hcn x0 x1 x2 x3 x4 x5 x6 x7 x8 xf HC4
            have x0 := z0
            have x1 := z1
            have x2 := z2
            have x3 := z3
            have x4 := z4
            have x5 := z5
            have x6 := z6
            have x7 := z7
            have x8 := z8
            have xf := zf
            clear z0 z1 z2 z3 z4 z5 z6 z7 z8 zf
            go_wp2_with fail
            cases hp6 : pTree s.data q5 with
            | error e1 =>
              have ho : out = .error e1 := by
                have hp1 := HP1.out; have hp2 := HP2.out; have hp3 := HP3.out; have hp4 := HP4.out; have hp5 := HP5.out; rw [HO.out]; simp only [pStep, hp1, hp2, hp3, hp4, hp5, hp6]
              subst ho
              have hc := HC5.out
              rw [hp6] at hc
              refine hc.mono ?_
              rintro e w6 ⟨rfl, h1, h2⟩
              clear hc hp6 HO
              go_wp2_with fail
              exact ⟨rfl, rfl, h1, (HS5.out.read h1 h2).tch⟩
            | ok y1 =>
              obtain ⟨t, q6⟩ := y1
              have ho : out = .ok (⟨op, id, pa, pl, tx, t⟩, q6) := by
                have hp1 := HP1.out; have hp2 := HP2.out; have hp3 := HP3.out; have hp4 := HP4.out; have hp5 := HP5.out; rw [HO.out]; simp only [pStep, hp1, hp2, hp3, hp4, hp5, hp6]
              subst ho
              have hc := HC5.out
              rw [hp6] at hc
              refine hc.mono ?_
              rintro e w6 ⟨v4, rfl, ⟨ka, kcap, rfl, hcp, hk⟩, h1, h2⟩
              obtain ⟨len, hlen⟩ : ∃ len, len = foLen t.kids := ⟨_, rfl⟩
              rw [← hlen]
              have hs6 := HS5.out.read h1 h2
              obtain ⟨⟨z0, z1, z2, z3, z4⟩, ⟨z5, z6, z7, z8⟩, zf⟩ := nine hs6.x
              have hs7 : SSt w b dv #[.int .i8 op, .int .i64 id, .int .i64 pa, .int .i64 pl, .string tx, .int .i64 t.id, .int .i64 t.kind, .string t.text, .slice ka len kcap] { s with pos := q6 } ((((w6.setCell ⟨w.heap.size + 1, 5, none⟩ (.int .i64 t.id)).setCell ⟨w.heap.size + 1, 6, none⟩ (.int .i64 t.kind)).setCell ⟨w.heap.size + 1, 7, none⟩ (.string t.text)).setCell ⟨w.heap.size + 1, 8, none⟩ (.slice ka len kcap)) := (((hs6.set 5 (.int .i64 t.id)).set 6 (.int .i64 t.kind)).set 7 (.string t.text)).set 8 (.slice ka len kcap)
              obtain ⟨⟨k0, k1, k2, k3, k4⟩, ⟨k5, k6, k7, k8⟩, kf⟩ := nine hs7.x
              obtain ⟨⟨r0, r1, r2, r3, r4⟩, ⟨r5, r6, r7, r8⟩, rf⟩ := nine hs7.rs
              have HE := Lib.hid (And.intro hs7 (And.intro h2 (And.intro hcp (And.intro hk hlen))))
              clear hc hp6 HO h1 h2 hs6 hs7 hcp hk hlen x0 x1 x2 x3 x4 x5 x6 x7 x8 xf HC5
              go_wp2_with fail
              obtain ⟨g1, g2, g3, g4, g5⟩ := HE.out
              obtain ⟨f1, f2, f3⟩ := set9 g1.rs (.int .i8 op) (.int .i64 id) (.int .i64 pa) (.int .i64 pl) (.string tx) (.int .i64 t.id) (.int .i64 t.kind) (.string t.text) (.slice ka len kcap) _ rfl
              refine bodyPost_ret (results_cell_row rfl _ _ w.heap.size 54 _ (0, 0) _ rfl f1 Try.underlying54 rfl (by kernel_rfl)) rfl ?_
              have hb := g1.low.1
              have hx5 := lt_of_heap HS5.out.x
              have h5s := g2.size
              have t4 : Touched w6 ((((w6.setCell ⟨w.heap.size + 1, 5, none⟩ (.int .i64 t.id)).setCell ⟨w.heap.size + 1, 6, none⟩ (.int .i64 t.kind)).setCell ⟨w.heap.size + 1, 7, none⟩ (.string t.text)).setCell ⟨w.heap.size + 1, 8, none⟩ (.slice ka len kcap)) (fun x => x = w.heap.size + 1) := (((Touched.setCell (w := w6) (S := fun x => x = w.heap.size + 1) (a := ⟨w.heap.size + 1, 5, none⟩) rfl _).trans (Touched.setCell (S := fun x => x = w.heap.size + 1) (a := ⟨w.heap.size + 1, 6, none⟩) rfl _) (fun k hk => Or.inl hk)).trans (Touched.setCell (S := fun x => x = w.heap.size + 1) (a := ⟨w.heap.size + 1, 7, none⟩) rfl _) (fun k hk => Or.inl hk)).trans (Touched.setCell (S := fun x => x = w.heap.size + 1) (a := ⟨w.heap.size + 1, 8, none⟩) rfl _) (fun k hk => Or.inl hk)
              have hsz4 : ((((w6.setCell ⟨w.heap.size + 1, 5, none⟩ (.int .i64 t.id)).setCell ⟨w.heap.size + 1, 6, none⟩ (.int .i64 t.kind)).setCell ⟨w.heap.size + 1, 7, none⟩ (.string t.text)).setCell ⟨w.heap.size + 1, 8, none⟩ (.slice ka len kcap)).heap.size = w6.heap.size := by simp [World.setCell]
              have hsz5 : (w5.setCell ⟨w.heap.size + 1, 4, none⟩ (.string tx)).heap.size = w5.heap.size := by simp [World.setCell]
              refine ⟨_, rfl, ⟨ka, kcap, by rw [g5], g3, g4.kept fun x hx => ?_⟩, g1.rd.kept f2 (by omega) (fun g hg e => by have := g1.low.2 g hg; omega), g1.tch.trans f2 (fun k hk => Or.inr (by omega))⟩
              have hx1 := hx.1
              have hx2 := hx.2
              exact ⟨⟨by omega, by omega⟩, (f2.block x (by omega) (by omega)).trans (t4.block x hx2 (by omega))⟩
end Go.Proofs.Ytljlijdgocfofaa
