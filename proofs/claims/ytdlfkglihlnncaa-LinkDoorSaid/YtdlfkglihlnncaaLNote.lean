/-
  Which boots a door notes. No condition.
-/
import Derived.Deep.Cut
import Derived.Deep.RegionHeld
import Derived.Test.YtdlfkglihlnncaaLDoor
namespace Go.Proofs.Ytdlfkglihlnncaa
open Go.RowKit
open Go.Maps
set_option linter.unusedVariables false
set_option linter.unusedSimpArgs false

/-- A call that turns nothing but a door, its map, and what is new. -/
structure DoorC (w : World) (db : Nat) (mo : Option Nat) (n : Nat) (boot : Int) (g : Int → Int) (w' : World) : Prop where
  door : ∃ mo', DoorAt w' db mo' n boot g ∧ (mo' = mo ∨ ∃ q, mo' = some q ∧ w.heap.size ≤ q)
  kept : Touched w w' (fun q => q = db ∨ mo = some q)
theorem MapV.at {w w' : World} {mo : Option Nat} {n : Nat} {g : Int → Int} (h : MapV w mo n g) (e : ∀ q, mo = some q → w'.heap[q]? = w.heap[q]?) : MapV w' mo n g := by
  cases mo with
  | none => exact h
  | some b => exact MapIs.at h (e b rfl)
theorem MapV.mono {w : World} {mo : Option Nat} {n n' : Nat} {g : Int → Int} (h : MapV w mo n g) (hn : n ≤ n') : MapV w mo n' g := by
  cases mo with
  | none => exact h
  | some b => exact MapIs.mono h hn
theorem MapV.lt {w : World} {mo : Option Nat} {n : Nat} {g : Int → Int} (h : MapV w mo n g) (q : Nat) (e : mo = some q) : q < w.heap.size := by
  subst e
  exact MapIs.lt h
theorem DoorAt.on {w w' : World} {db n : Nat} {mo : Option Nat} {boot : Int} {g : Int → Int} (h : DoorAt w db mo n boot g) (hb : Below w.heap.size w w') : DoorAt w' db mo n boot g :=
  ⟨(hb.block _ (lt_of_heap h.row)).trans h.row, MapV.at h.tells fun q e => hb.block q (MapV.lt h.tells q e), h.apart⟩
theorem DoorAt.mono {w : World} {db n n' : Nat} {mo : Option Nat} {boot : Int} {g : Int → Int} (h : DoorAt w db mo n boot g) (hn : n ≤ n') : DoorAt w db mo n' boot g :=
  ⟨h.row, MapV.mono h.tells hn, h.apart⟩
theorem DoorC.same {w w' : World} {db n : Nat} {mo : Option Nat} {boot : Int} {g : Int → Int} (h : DoorAt w db mo n boot g) (hb : Below w.heap.size w w') : DoorC w db mo (n + 1) boot g w' :=
  ⟨⟨mo, (h.on hb).mono (Nat.le_succ n), Or.inl rfl⟩, Below.touched hb _⟩
theorem eqMap_nil (w : World) : (binOp .eql 46 (.map none) (.map none)).run Try.prog w = .ok (.bool true) w := by kernel_rfl
theorem eqMap_some (w : World) (m : Nat) : (binOp .eql 46 (.map (some m)) (.map none)).run Try.prog w = .ok (.bool false) w := by kernel_rfl
theorem makeMap_run (w : World) : (Instr.makeMap 46 none).run Try.prog w = .ok (.map (some w.heap.size)) (w.alloc (.map #[] 0)) := by kernel_rfl
theorem wp_calmL {c : Code} {P : Program} {Q : Exit → Act → World → Prop} {a : Act} {w : World} (h : c.wp P (fun e a w => e = .normal ∧ Q .normal a w) a w) : c.wp P Q a w := wp_mono h (fun e a w h => by obtain ⟨rfl, h⟩ := h; exact h)
def noted (g : Int → Int) (f b : Int) : Int → Int := if g f < b then updI g f b else g
set_option maxRecDepth 100000 in
set_option maxHeartbeats 4000000 in
theorem notes_any (w : World) (db n : Nat) (mo : Option Nat) (boot f b : Int) (g : Int → Int) (h : DoorAt w db mo n boot g) (hn : n < maxLen) (hf : (Lit.int .i64 f).wf = true) (hb : (Lit.int .i64 b).wf = true) :
    Calls Try.prog 17 #[.pointer (some ⟨db, 0, none⟩), .int .i64 f, .int .i64 b] w (fun e w' => e = .returned (.bool (decide (g f ≤ b))) ∧ DoorC w db mo (n + 1) boot (noted g f b) w') := by
  obtain ⟨B, hB⟩ : ∃ B, B = w.alloc (.cells #[.int .i64 (g f)] 3) := ⟨_, rfl⟩
  have bB : Below w.heap.size w B := by rw [hB]; exact (Below.refl _ _).alloc (Nat.le_refl _) _
  have eB : B.heap[w.heap.size]? = some (.cells #[.int .i64 (g f)] 3 (0, 0)) := by rw [hB]; exact heap_alloc_new _ _
  obtain ⟨c0, c1⟩ := row2 h.row
  have hl := (MapV.look h.tells hf).1
  have HC := Lib.hid (raise_any B w.heap.size (g f) b eB)
  have H := Lib.hid (And.intro h (And.intro hn (And.intro hf (And.intro hb (And.intro bB (And.intro eB hB))))))
  clear h hn hf hb bB eB hB
  go_enter Try.func17, Try.ntmps17
  go_upto_region 2 with fail
  change Code.wp _ _ _ _ (w.alloc (.cells #[.int .i64 (g f)] 3))
  rw [← H.out.2.2.2.2.2.2]
  go_wp2_with fail
  refine HC.out.mono ?_
  rintro e w1 ⟨rfl, rfl⟩
  clear HC
  by_cases hlt : g f < b
  rotate_left
  · have hd : decide (g f < b) = false := decide_eq_false hlt
    rw [hd, if_neg hlt]
    have k0 : B.cell? ⟨w.heap.size, 0, none⟩ = some (.int .i64 (g f)) := by rw [cell_of_row _ _ 0 _ _ _ H.out.2.2.2.2.2.1]; rfl
    have HE : Hid (DoorC w db mo (n + 1) boot (noted g f b) B) := Lib.hid (by
      unfold noted; rw [if_neg hlt]; exact DoorC.same H.out.1 H.out.2.2.2.2.1)
    have hq : (b == g f) = decide (g f ≤ b) := by
      by_cases e : b = g f
      · rw [e]; simp
      · have h1 : ¬ g f ≤ b := by omega
        simp [e, h1]
    have HQ := Lib.hid hq
    clear hlt hd hq c0 c1 hl
    go_wp2_with fail
    go_ret
    exact ⟨by rw [← HQ.out]; rfl, HE.out⟩
  · have hd : decide (g f < b) = true := decide_eq_true hlt
    rw [hd, if_pos hlt]
    have HLT := Lib.hid hlt
    clear hd hlt
    have e1 : (B.setCell ⟨w.heap.size, 0, none⟩ (.int .i64 b)).heap[w.heap.size]? = some (.cells #[.int .i64 b] 3 (0, 0)) := heap_setCell_same _ _ 0 _ _ _ H.out.2.2.2.2.2.1
    obtain ⟨V, hV⟩ : ∃ V, V = B.setCell ⟨w.heap.size, 0, none⟩ (.int .i64 b) := ⟨_, rfl⟩
    rw [← hV] at e1 ⊢
    have bV : Below w.heap.size w V := by rw [hV]; exact H.out.2.2.2.2.1.setCell (Nat.le_refl _) _
    have hdV : DoorAt V db mo n boot g := H.out.1.on bV
    have hsz : V.heap.size = w.heap.size + 1 := by rw [hV, H.out.2.2.2.2.2.2]; simp [World.setCell]
    have HV := Lib.hid (And.intro bV (And.intro hdV (And.intro e1 hsz)))
    clear bV hdV e1 hsz hV c0 c1 hl
    obtain ⟨c0, c1⟩ := row2 HV.out.2.1.row
    cases mo with
    | some m =>
      have hqm := eqMap_some V m
      have HD := Lib.hid (And.intro HV.out.2.1 (And.intro HV.out.2.2.1 (show m ≠ w.heap.size from fun e => by have := MapIs.lt H.out.1.tells; omega)))
      go_upto_region 5 with fail
      skip
      obtain ⟨V3, hmu, hM3, hgr⟩ := MapIs.put (w := V.drew) (b := m) (n := n) (g := g) (k := f) (z := b) (HD.out.1.tells) H.out.2.1 H.out.2.2.1 H.out.2.2.2.1
      have HM3 := Lib.hid (And.intro hM3 hgr)
      have d1 : V.drew.cell? ⟨db, 1, none⟩ = some (.map (some m)) := by show V.cell? ⟨db, 1, none⟩ = _; exact (row2 HD.out.1.row).2
      have g1 : V.drew.cell? ⟨w.heap.size, 0, none⟩ = some (.int .i64 b) := by show V.cell? ⟨w.heap.size, 0, none⟩ = _; rw [cell_of_row _ _ 0 _ _ _ HD.out.2.1]; rfl
      obtain ⟨SW, hSW⟩ : ∃ SW : World → Prop, SW = fun Z => Z.cell? ⟨db, 1, none⟩ = some (.map (some m)) ∧ Z.cell? ⟨w.heap.size, 0, none⟩ = some (.int .i64 b) := ⟨_, rfl⟩
      have HSW := Lib.hid (fun (Z : World) (h : SW Z) => (show Z.cell? ⟨db, 1, none⟩ = some (.map (some m)) ∧ Z.cell? ⟨w.heap.size, 0, none⟩ = some (.int .i64 b) by rw [hSW] at h; exact h))
      have hS0 : SW V.drew := by rw [hSW]; exact ⟨d1, g1⟩
      have h3 : ∀ q, q < V.heap.size → q ≠ m → V3.heap[q]? = V.heap[q]? := fun q h1 h2 => hgr.block q h1 (fun e => h2 (Option.some.inj e))
      have hS3 : SW V3 := by
        rw [hSW]
        exact ⟨(World.cell?_of_block (a := ⟨db, 1, none⟩) (h3 db (lt_of_heap HD.out.1.row) (fun e => HD.out.1.apart (by rw [e])))).trans d1, (World.cell?_of_block (a := ⟨w.heap.size, 0, none⟩) (h3 w.heap.size (lt_of_heap HD.out.2.1) (fun e => HD.out.2.2 e.symm))).trans g1⟩
      have HS3 := Lib.hid (And.intro hS3 h3)
      clear hSW hM3 hgr h3 hS3 d1 g1
      refine wp_calmL ?_
      refine wp_region_held_drew (S := SW) (by kernel_rfl) hS0 (fun hHeld => ?_)
      clear hS0
      refine wpAnyH_take (i := 0) (oi := _) (v := .pointer (some ⟨db, 0, none⟩)) rfl (by kernel_rfl) (by kernel_rfl) (by kernel_rfl) (fun _ _ _ h => by cases h.1) (Or.inl ⟨by rfl, ?_⟩) (by assumption) ?_
      · clear hHeld; intro X hSw; obtain ⟨q1, q2⟩ := HSW.out X hSw; clear hSw; go_simp
      simp only [Act.put, List.getElem_toArray, List.getElem_cons_zero, List.getElem_cons_succ, List.setIfInBounds_toArray, List.set_cons_zero, List.set_cons_succ]
      refine wpAnyH_take (i := 1) (oi := _) (v := .pointer (some ⟨db, 0, none⟩)) rfl (by kernel_rfl) (by kernel_rfl) (by kernel_rfl) (fun _ _ _ h => by cases h.1) (Or.inl ⟨by rfl, ?_⟩) (by assumption) ?_
      · clear hHeld; intro X hSw; obtain ⟨q1, q2⟩ := HSW.out X hSw; clear hSw; go_simp
      simp only [Act.put, List.getElem_toArray, List.getElem_cons_zero, List.getElem_cons_succ, List.setIfInBounds_toArray, List.set_cons_zero, List.set_cons_succ]
      refine wpAnyH_take (i := 2) (oi := _) (v := .pointer (some ⟨db, 1, none⟩)) rfl (by kernel_rfl) (by kernel_rfl) (by kernel_rfl) (fun _ _ _ h => by cases h.1) (Or.inl ⟨by rfl, ?_⟩) (by assumption) ?_
      · clear hHeld; intro X hSw; obtain ⟨q1, q2⟩ := HSW.out X hSw; clear hSw; go_simp
      simp only [Act.put, List.getElem_toArray, List.getElem_cons_zero, List.getElem_cons_succ, List.setIfInBounds_toArray, List.set_cons_zero, List.set_cons_succ]
      refine wpAnyH_take (i := 3) (oi := _) (v := .map (some m)) rfl (by kernel_rfl) (by kernel_rfl) (by kernel_rfl) (fun _ _ _ h => by cases h.1) (Or.inl ⟨by rfl, ?_⟩) (by assumption) ?_
      · clear hHeld; intro X hSw; obtain ⟨q1, q2⟩ := HSW.out X hSw; clear hSw; go_simp
      simp only [Act.put, List.getElem_toArray, List.getElem_cons_zero, List.getElem_cons_succ, List.setIfInBounds_toArray, List.set_cons_zero, List.set_cons_succ]
      refine wpAnyH_take (i := 4) (oi := _) (v := .int .i64 f) rfl (by kernel_rfl) (by kernel_rfl) (by kernel_rfl) (fun _ _ _ h => by cases h.1) (Or.inl ⟨by rfl, ?_⟩) (by assumption) ?_
      · clear hHeld; intro X hSw; obtain ⟨q1, q2⟩ := HSW.out X hSw; clear hSw; go_simp
      simp only [Act.put, List.getElem_toArray, List.getElem_cons_zero, List.getElem_cons_succ, List.setIfInBounds_toArray, List.set_cons_zero, List.set_cons_succ]
      refine wpAnyH_take (i := 5) (oi := _) (v := .int .i64 b) rfl (by kernel_rfl) (by kernel_rfl) (by kernel_rfl) (fun _ _ _ h => by cases h.1) (Or.inl ⟨by rfl, ?_⟩) (by assumption) ?_
      · clear hHeld; intro X hSw; obtain ⟨q1, q2⟩ := HSW.out X hSw; clear hSw; go_simp
      simp only [Act.put, List.getElem_toArray, List.getElem_cons_zero, List.getElem_cons_succ, List.setIfInBounds_toArray, List.set_cons_zero, List.set_cons_succ]
      refine wpAnyH_ready (rs := [6]) (by kernel_rfl) (by simp) ?_
      refine AllReadyH.cons (o := _) rfl (fun K hK => ?_) (AllReadyH.nil)
      rw [if_pos (by rfl)]
      simp only [List.getElem_toArray, List.getElem_cons_zero, List.getElem_cons_succ]
      have HK := Lib.hid hK
      clear hK hHeld
      go_wp2_with fail
      refine HK.out _ _ HS3.out.1 (fun hHeld => ?_)
      clear HK
      refine wpAnyH_done (by kernel_rfl) ?_ _
      have z1 := (HSW.out V3 HS3.out.1).2
      have HE : Hid (DoorC w db (some m) (n + 1) boot (noted g f b) V3) := Lib.hid (by
        unfold noted
        rw [if_pos HLT.out]
        exact ⟨⟨some m, ⟨(HS3.out.2 db (lt_of_heap HD.out.1.row) (fun e => HD.out.1.apart (by rw [e]))).trans HD.out.1.row, HM3.out.1, HD.out.1.apart⟩, Or.inl rfl⟩, ⟨HM3.out.2.os.trans HV.out.1.os, HM3.out.2.tape.trans HV.out.1.tape, HM3.out.2.output.trans HV.out.1.output, Nat.le_trans HV.out.1.size HM3.out.2.size, fun q h1 h2 => (HS3.out.2 q (by have := HV.out.1.size; omega) (fun e => h2 (Or.inr (by rw [e])))).trans (HV.out.1.block q h1)⟩⟩)
      clear HSW hmu hHeld
      refine ⟨rfl, ?_⟩
      go_wp2_with fail
      go_ret
      exact ⟨by simp [show g f ≤ b by have := HLT.out; omega], HE.out⟩
    | none =>
      have hqm := eqMap_nil V
      have hmk := makeMap_run V
      have hg0 : g = fun _ => 0 := H.out.1.tells
      have hdb := lt_of_heap HV.out.2.1.row
      have hdw := lt_of_heap H.out.1.row
      obtain ⟨X, hX⟩ : ∃ X, X = (V.alloc (.map #[] 0)).setCell ⟨db, 1, none⟩ (.map (some V.heap.size)) := ⟨_, rfl⟩
      have hXd : X.heap[db]? = some (.cells #[.int .i64 boot, .map (some V.heap.size)] 48 (0, 0)) := by
        rw [hX]; exact heap_setCell_same _ _ 1 _ _ _ ((Below.heap_alloc _ _ _ hdb).trans HV.out.2.1.row)
      have hXq : ∀ q, q ≠ db → q < V.heap.size → X.heap[q]? = V.heap[q]? := fun q h1 h2 => by
        rw [hX, Below.heap_setCell _ _ _ _ h1, Below.heap_alloc _ _ _ h2]
      have hXm : MapIs X V.heap.size n g := by
        rw [hg0]
        refine MapIs.mono (MapIs.at (MapIs.made V) ?_) (Nat.zero_le n)
        rw [hX, Below.heap_setCell _ _ _ _ (by show V.heap.size ≠ db; omega)]
      have hXs : X.heap.size = V.heap.size + 1 := by rw [hX]; simp [World.setCell]
      have hXt : Touched w X (fun q => q = db) := by
        refine ⟨?_, ?_, ?_, by have := HV.out.1.size; omega, fun q h1 h2 => (hXq q h2 (by have := HV.out.1.size; omega)).trans (HV.out.1.block q h1)⟩
        · rw [hX]; exact HV.out.1.os
        · rw [hX]; exact HV.out.1.tape
        · rw [hX]; exact HV.out.1.output
      have HX := Lib.hid (And.intro hXt hX)
      have HD := Lib.hid (And.intro (DoorAt.mk hXd hXm (fun e => by have := Option.some.inj e; omega) : DoorAt X db (some V.heap.size) n boot g) (And.intro ((hXq w.heap.size (by omega) (by have := HV.out.2.2.2; omega)).trans HV.out.2.2.1) (show V.heap.size ≠ w.heap.size by have := HV.out.2.2.2; omega)))
      have f1 : (V.alloc (.map #[] 0)).frozen? ⟨db, 1, none⟩ = false := frozen_of_row _ _ 1 _ _ ((Below.heap_alloc _ _ _ hdb).trans HV.out.2.1.row)
      have f2 : (V.alloc (.map #[] 0)).cell? ⟨db, 1, none⟩ = some (.map none) := by rw [cell_of_row _ _ 1 _ _ _ ((Below.heap_alloc _ _ _ hdb).trans HV.out.2.1.row)]; rfl
      clear hXd hXq hXm hXs hXt hX hg0 hdb hdw
      go_upto_region 5 with fail
      rw [← HX.out.2]
      obtain ⟨V3, hmu, hM3, hgr⟩ := MapIs.put (w := X.drew) (b := V.heap.size) (n := n) (g := g) (k := f) (z := b) (HD.out.1.tells) H.out.2.1 H.out.2.2.1 H.out.2.2.2.1
      have HM3 := Lib.hid (And.intro hM3 hgr)
      have d1 : X.drew.cell? ⟨db, 1, none⟩ = some (.map (some V.heap.size)) := by show X.cell? ⟨db, 1, none⟩ = _; exact (row2 HD.out.1.row).2
      have g1 : X.drew.cell? ⟨w.heap.size, 0, none⟩ = some (.int .i64 b) := by show X.cell? ⟨w.heap.size, 0, none⟩ = _; rw [cell_of_row _ _ 0 _ _ _ HD.out.2.1]; rfl
      obtain ⟨SW, hSW⟩ : ∃ SW : World → Prop, SW = fun Z => Z.cell? ⟨db, 1, none⟩ = some (.map (some V.heap.size)) ∧ Z.cell? ⟨w.heap.size, 0, none⟩ = some (.int .i64 b) := ⟨_, rfl⟩
      have HSW := Lib.hid (fun (Z : World) (h : SW Z) => (show Z.cell? ⟨db, 1, none⟩ = some (.map (some V.heap.size)) ∧ Z.cell? ⟨w.heap.size, 0, none⟩ = some (.int .i64 b) by rw [hSW] at h; exact h))
      have hS0 : SW X.drew := by rw [hSW]; exact ⟨d1, g1⟩
      have h3 : ∀ q, q < X.heap.size → q ≠ V.heap.size → V3.heap[q]? = X.heap[q]? := fun q h1 h2 => hgr.block q h1 (fun e => h2 (Option.some.inj e))
      have hS3 : SW V3 := by
        rw [hSW]
        exact ⟨(World.cell?_of_block (a := ⟨db, 1, none⟩) (h3 db (lt_of_heap HD.out.1.row) (fun e => HD.out.1.apart (by rw [e])))).trans d1, (World.cell?_of_block (a := ⟨w.heap.size, 0, none⟩) (h3 w.heap.size (lt_of_heap HD.out.2.1) (fun e => HD.out.2.2 e.symm))).trans g1⟩
      have HS3 := Lib.hid (And.intro hS3 h3)
      clear hSW hM3 hgr h3 hS3 d1 g1
      refine wp_calmL ?_
      refine wp_region_held_drew (S := SW) (by kernel_rfl) hS0 (fun hHeld => ?_)
      clear hS0
      refine wpAnyH_take (i := 0) (oi := _) (v := .pointer (some ⟨db, 0, none⟩)) rfl (by kernel_rfl) (by kernel_rfl) (by kernel_rfl) (fun _ _ _ h => by cases h.1) (Or.inl ⟨by rfl, ?_⟩) (by assumption) ?_
      · clear hHeld; intro X hSw; obtain ⟨q1, q2⟩ := HSW.out X hSw; clear hSw; go_simp
      simp only [Act.put, List.getElem_toArray, List.getElem_cons_zero, List.getElem_cons_succ, List.setIfInBounds_toArray, List.set_cons_zero, List.set_cons_succ]
      refine wpAnyH_take (i := 1) (oi := _) (v := .pointer (some ⟨db, 0, none⟩)) rfl (by kernel_rfl) (by kernel_rfl) (by kernel_rfl) (fun _ _ _ h => by cases h.1) (Or.inl ⟨by rfl, ?_⟩) (by assumption) ?_
      · clear hHeld; intro X hSw; obtain ⟨q1, q2⟩ := HSW.out X hSw; clear hSw; go_simp
      simp only [Act.put, List.getElem_toArray, List.getElem_cons_zero, List.getElem_cons_succ, List.setIfInBounds_toArray, List.set_cons_zero, List.set_cons_succ]
      refine wpAnyH_take (i := 2) (oi := _) (v := .pointer (some ⟨db, 1, none⟩)) rfl (by kernel_rfl) (by kernel_rfl) (by kernel_rfl) (fun _ _ _ h => by cases h.1) (Or.inl ⟨by rfl, ?_⟩) (by assumption) ?_
      · clear hHeld; intro X hSw; obtain ⟨q1, q2⟩ := HSW.out X hSw; clear hSw; go_simp
      simp only [Act.put, List.getElem_toArray, List.getElem_cons_zero, List.getElem_cons_succ, List.setIfInBounds_toArray, List.set_cons_zero, List.set_cons_succ]
      refine wpAnyH_take (i := 3) (oi := _) (v := .map (some V.heap.size)) rfl (by kernel_rfl) (by kernel_rfl) (by kernel_rfl) (fun _ _ _ h => by cases h.1) (Or.inl ⟨by rfl, ?_⟩) (by assumption) ?_
      · clear hHeld; intro X hSw; obtain ⟨q1, q2⟩ := HSW.out X hSw; clear hSw; go_simp
      simp only [Act.put, List.getElem_toArray, List.getElem_cons_zero, List.getElem_cons_succ, List.setIfInBounds_toArray, List.set_cons_zero, List.set_cons_succ]
      refine wpAnyH_take (i := 4) (oi := _) (v := .int .i64 f) rfl (by kernel_rfl) (by kernel_rfl) (by kernel_rfl) (fun _ _ _ h => by cases h.1) (Or.inl ⟨by rfl, ?_⟩) (by assumption) ?_
      · clear hHeld; intro X hSw; obtain ⟨q1, q2⟩ := HSW.out X hSw; clear hSw; go_simp
      simp only [Act.put, List.getElem_toArray, List.getElem_cons_zero, List.getElem_cons_succ, List.setIfInBounds_toArray, List.set_cons_zero, List.set_cons_succ]
      refine wpAnyH_take (i := 5) (oi := _) (v := .int .i64 b) rfl (by kernel_rfl) (by kernel_rfl) (by kernel_rfl) (fun _ _ _ h => by cases h.1) (Or.inl ⟨by rfl, ?_⟩) (by assumption) ?_
      · clear hHeld; intro X hSw; obtain ⟨q1, q2⟩ := HSW.out X hSw; clear hSw; go_simp
      simp only [Act.put, List.getElem_toArray, List.getElem_cons_zero, List.getElem_cons_succ, List.setIfInBounds_toArray, List.set_cons_zero, List.set_cons_succ]
      refine wpAnyH_ready (rs := [6]) (by kernel_rfl) (by simp) ?_
      refine AllReadyH.cons (o := _) rfl (fun K hK => ?_) (AllReadyH.nil)
      rw [if_pos (by rfl)]
      simp only [List.getElem_toArray, List.getElem_cons_zero, List.getElem_cons_succ]
      have HK := Lib.hid hK
      clear hK hHeld
      go_wp2_with fail
      refine HK.out _ _ HS3.out.1 (fun hHeld => ?_)
      clear HK
      refine wpAnyH_done (by kernel_rfl) ?_ _
      have z1 := (HSW.out V3 HS3.out.1).2
      have HE : Hid (DoorC w db none (n + 1) boot (noted g f b) V3) := Lib.hid (by
        unfold noted
        rw [if_pos HLT.out]
        exact ⟨⟨some V.heap.size, ⟨(HS3.out.2 db (lt_of_heap HD.out.1.row) (fun e => HD.out.1.apart (by rw [e]))).trans HD.out.1.row, HM3.out.1, HD.out.1.apart⟩, Or.inr ⟨_, rfl, by have := HV.out.2.2.2; omega⟩⟩, ⟨HM3.out.2.os.trans HX.out.1.os, HM3.out.2.tape.trans HX.out.1.tape, HM3.out.2.output.trans HX.out.1.output, Nat.le_trans HX.out.1.size HM3.out.2.size, fun q h1 h2 => (HS3.out.2 q (by have := HX.out.1.size; omega) (by have := HV.out.2.2.2; omega)).trans (HX.out.1.block q h1 (fun e => h2 (Or.inl e)))⟩⟩)
      clear HSW hmu hHeld
      refine ⟨rfl, ?_⟩
      go_wp2_with fail
      go_ret
      exact ⟨by simp [show g f ≤ b by have := HLT.out; omega], HE.out⟩
end Go.Proofs.Ytdlfkglihlnncaa
