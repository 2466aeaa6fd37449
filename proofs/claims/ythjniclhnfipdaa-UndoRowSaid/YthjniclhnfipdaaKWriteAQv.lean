/-
  A node's text is put otherwise: what the change of StText does. No condition.
  write: a node has another text. No condition but that there are not too many nodes.
-/
import Derived.Test.YthjniclhnfipdaaKAlong1Qv
import Derived.Deep.Cut
import Derived.Test.YthjniclhnfipdaaKMoveQv
namespace Go.Proofs.Ythjniclhnfipdaa
open Go.RowKit Go.Shelf
set_option linter.unusedVariables false
set_option linter.unusedSimpArgs false

set_option maxRecDepth 100000 in
set_option maxHeartbeats 2000000 in
theorem chg_write (w : World) (S : Nat → Prop) (hS : ∀ y, S y → y < w.heap.size) (u : Tr) (sb : Nat) (tx : ByteArray) (hsl : sb < w.heap.size) (hc : w.cell? ⟨sb, 4, none⟩ = some (.string tx)) : ∀ W, Below w.heap.size w W → W.heap.size = w.heap.size + 4 → Chg1 Try.prog W w.heap.size (fun _ => False) S S u 170 (.pointer (some ⟨sb, 0, none⟩)) ⟨u.id, u.kind, tx, u.kids⟩ (fun _ => True) := fun W hb hs => by
  refine ⟨fun _ _ => rfl, fun X X1 b off sv xs hH k hlt hbl => ?_⟩
  obtain ⟨a, c, rfl⟩ := owns_slice k.own
  have hst : X1.cell? ⟨sb, 4, none⟩ = some (.string tx) := (World.cell?_of_block (a := ⟨sb, 4, none⟩) ((k.h.kept sb (by omega) (by omega) (fun h => h)).trans (hb.block sb hsl))).trans hc
  have c2 := k.c2
  have fz := k.fz
  have HK := Lib.hid (And.intro k (And.intro hH (And.intro hlt hbl)))
  clear k hH hlt hbl hc hsl hb
  go_enter Try.func170, Try.ntmps170
  go_wp2_with fail
  go_end0
  obtain ⟨k, hH, hlt, hbl⟩ := HK.out
  obtain ⟨X', hX'⟩ : ∃ X', X' = X1.setCell ⟨b, off + 2, none⟩ (.string tx) := ⟨_, rfl⟩
  rw [← hX']
  have hco : ∀ i, i ≠ off + 2 → X'.cell? ⟨b, i, none⟩ = X1.cell? ⟨b, i, none⟩ := fun i hi => by
    rw [hX', World.cell?_setCell_other X1 ⟨b, off + 2, none⟩ ⟨b, i, none⟩ _ (by intro e; cases e; exact hi rfl)]
  have hblk : ∀ y, y ≠ b → X'.heap[y]? = X1.heap[y]? := fun y hy => by rw [hX']; exact Below.heap_setCell _ _ _ _ hy
  have hSz := hH.size
  obtain ⟨hl, hlc⟩ := own_lies (S' := fun y => y ≠ b ∧ (S y ∨ (y = w.heap.size ∨ W.heap.size ≤ y))) k.own k.row rfl (fun y hy => ⟨by have := hS y hy; rcases hbl with h | h <;> omega, Or.inl hy⟩) (fun y hy => ⟨by omega, Or.inr (Or.inr (by omega))⟩)
  refine ⟨rfl, by rw [hX']; rfl, by rw [hX']; rfl, by rw [hX']; rfl, by rw [hX']; simp [World.setCell], fun y _ hn _ => hblk y hn, fun j hj => hco j (by omega), ⟨Or.inr hbl, ?_, ?_, ?_, a, c, ?_, hlc, hl.kept fun y hy => ⟨hy.2, hblk y hy.1⟩⟩, trivial⟩
  · rw [hco _ (by omega)]; exact k.c0
  · rw [hco _ (by omega)]; exact k.c1
  · rw [hX']; exact World.cell?_setCell_same' X1 _ _ (by rw [k.c2]; rfl)
  · rw [hco _ (by omega)]; exact k.c3
end Go.Proofs.Ythjniclhnfipdaa
namespace Go.Proofs.Ythjniclhnfipdaa
open Go.RowKit Go.Shelf
set_option linter.unusedVariables false
set_option linter.unusedSimpArgs false

def writeK (id : Int) (tx : ByteArray) (t : Tr) : Tr × Int := match pathT id t with
  | none => (zeroK, 4)
  | some p => match atT t p with
    | none => (zeroK, 4)
    | some u => (putP t p ⟨u.id, u.kind, tx, u.kids⟩, 0)
theorem writeK_none {id : Int} {tx : ByteArray} {t : Tr} (h : pathT id t = none) : writeK id tx t = (zeroK, 4) := by unfold writeK; rw [h]
theorem writeK_go {id : Int} {tx : ByteArray} {t u : Tr} {p : List Nat} (h : pathT id t = some p) (hu : atT t p = some u) : writeK id tx t = (putP t p ⟨u.id, u.kind, tx, u.kids⟩, 0) := by
  unfold writeK; rw [h]; simp only; rw [hu]
set_option maxRecDepth 100000 in
set_option maxHeartbeats 8000000 in
theorem write_any (w : World) (S : Nat → Prop) (nv : Value) (t : Tr) (op id par at_ s1 s2 : Int) (tx s3 : ByteArray) (sa : Option Addr) (sn sc : Nat) (hS : ∀ y, S y → y < w.heap.size) (ht : TrAt w S nv t) (hsz : foSize t.kids ≤ 100000) :
    Calls Try.prog 148 #[nv, .agg #[.int .i8 op, .int .i64 id, .int .i64 par, .int .i64 at_, .string tx, .int .i64 s1, .int .i64 s2, .string s3, .slice sa sn sc]] w (StepC w S (writeK id tx t)) := by
  obtain ⟨ka, tc, rfl, hcap, hk⟩ := ht
  obtain ⟨nk, hnk⟩ : ∃ nk, nk = foLen t.kids := ⟨_, rfl⟩
  rw [← hnk]
  obtain ⟨B, hB⟩ : ∃ B, B = allocs w [.cells #[.int .i64 t.id, .int .i64 t.kind, .string t.text, .slice ka nk tc] 24, .cells #[.int .i8 op, .int .i64 id, .int .i64 par, .int .i64 at_, .string tx, .int .i64 s1, .int .i64 s2, .string s3, .slice sa sn sc] 47, .cells #[.int .i64 0, .int .i64 0, .string ⟨#[]⟩, .slice none 0 0] 24] := ⟨_, rfl⟩
  have hb : Below w.heap.size w B := by rw [hB]; exact allocs_below _ _
  have hs : B.heap.size = w.heap.size + 3 := by rw [hB]; exact allocs_size _ _
  have ht0 : B.heap[w.heap.size]? = some (.cells #[.int .i64 t.id, .int .i64 t.kind, .string t.text, .slice ka nk tc] 24 (0, 0)) := by rw [hB]; exact allocs_at _ _ 0 _ rfl
  have hs0 : B.heap[w.heap.size + 1]? = some (.cells #[.int .i8 op, .int .i64 id, .int .i64 par, .int .i64 at_, .string tx, .int .i64 s1, .int .i64 s2, .string s3, .slice sa sn sc] 47 (0, 0)) := by rw [hB]; exact allocs_at _ _ 1 _ rfl
  have hr0 : B.heap[w.heap.size + 1 + 1]? = some (.cells #[.int .i64 0, .int .i64 0, .string ⟨#[]⟩, .slice none 0 0] 24 (0, 0)) := by rw [hB]; exact allocs_at _ _ 2 _ rfl
  have htr : ∀ X, Below B.heap.size B X → TrAt X S (.agg #[.int .i64 t.id, .int .i64 t.kind, .string t.text, .slice ka nk tc]) t := fun X hX => ⟨ka, tc, by rw [hnk], by rw [hnk] at *; exact hcap, hk.below (hb.trans (hX.mono hb.size)) hS⟩
  have hSX : ∀ X, Below B.heap.size B X → ∀ y, S y → y < X.heap.size := fun X hX y hy => Nat.lt_of_lt_of_le (hS y hy) (Nat.le_trans hb.size hX.size)
  have hpath : ∀ (i : Int) (X : World), Below B.heap.size B X → Calls Try.prog 65 #[.agg #[.int .i64 t.id, .int .i64 t.kind, .string t.text, .slice ka nk tc], .int .i64 i] X (PathC X (pathT i t)) := fun i X hX => path_any X S _ t i (hSX X hX) (htr X hX) (by omega)
  have hcell : ∀ X, Below B.heap.size B X → (X.cell? ⟨w.heap.size, 0, none⟩ = some (.int .i64 t.id) ∧ X.cell? ⟨w.heap.size, 1, none⟩ = some (.int .i64 t.kind) ∧ X.cell? ⟨w.heap.size, 2, none⟩ = some (.string t.text) ∧ X.cell? ⟨w.heap.size, 3, none⟩ = some (.slice ka nk tc)) ∧ X.cell? ⟨w.heap.size + 1, 1, none⟩ = some (.int .i64 id) ∧ X.cell? ⟨w.heap.size + 1, 4, none⟩ = some (.string tx) := fun X hX => by
    have e0 := (hX.block _ (lt_of_heap ht0)).trans ht0
    have e1 := (hX.block _ (lt_of_heap hs0)).trans hs0
    exact ⟨box4 e0, by rw [cell_of_row _ _ 1 _ _ _ e1]; rfl, by rw [cell_of_row _ _ 4 _ _ _ e1]; rfl⟩
  obtain ⟨pr, hpr⟩ : ∃ pr, pr = writeK id tx t := ⟨_, rfl⟩
  rw [← hpr]
  have HP := Lib.hid hpath
  have HCE := Lib.hid hcell
  have HTR := Lib.hid (And.intro htr hSX)
  have HB := Lib.hid (And.intro hb (And.intro hs hr0))
  have HSZ := Lib.hid hsz
  have HBE := Lib.hid hB
  have HSW := Lib.hid hS
  have HPR := Lib.hid hpr
  clear hpath hcell htr hSX hb hs ht0 hs0 hr0 hS hk hcap hsz hnk hB hpr
  go_enter Try.func148, Try.ntmps148
  go_wp2_with fail
  change Calls _ _ _ (allocs w [.cells #[.int .i64 t.id, .int .i64 t.kind, .string t.text, .slice ka nk tc] 24, .cells #[.int .i8 op, .int .i64 id, .int .i64 par, .int .i64 at_, .string tx, .int .i64 s1, .int .i64 s2, .string s3, .slice sa sn sc] 47, .cells #[.int .i64 0, .int .i64 0, .string ⟨#[]⟩, .slice none 0 0] 24]) _
  rw [← HBE.out]
  refine (HP.out id B (Below.refl _ _)).mono ?_
  rintro e W2 ⟨pv, rfl, hown, hb2⟩
  cases hpi : pathT id t with
  | none =>
    clear hown
    simp only [Option.isSome_none]
    have hE : pr = (zeroK, 4) := by rw [HPR.out, writeK_none hpi]
    have hr3 := (hb2.block _ (lt_of_heap HB.out.2.2)).trans HB.out.2.2
    have hbz : Below w.heap.size w W2 := HB.out.1.trans (hb2.mono HB.out.1.size)
    obtain ⟨z0, z1, z2, z3⟩ := box4 hr3
    have zf : ∀ j, W2.frozen? ⟨w.heap.size + 1 + 1, j, none⟩ = false := fun j => frozen_of_row _ _ j _ _ hr3
    obtain ⟨V, hV, r1, r2, r3, r4, r5, r6⟩ := four_set (u0 := .int .i64 0) (u1 := .int .i64 0) (u2 := .string ⟨#[]⟩) (u3 := .slice none 0 0) hr3
    have HE := Lib.hid (And.intro hE (And.intro hbz (And.intro hr3 (And.intro hV (And.intro r1 (And.intro r2 (And.intro r3 (And.intro r4 (And.intro r5 r6)))))))))
    clear hE hbz hr3 hV r1 r2 r3 r4 r5 r6
    go_wp2_with fail
    rw [← HE.out.2.2.2.1]
    obtain ⟨hE, hbz, hr3, hV, r1, r2, r3, r4, r5, r6⟩ := HE.out
    exact step_end (p := 4) (u := 5) rfl rfl (g := w.heap.size + 1 + 1) (y := zeroK) (m := 0) (kb := none) (kc := 0) ⟨r3.trans hbz.os, r4.trans hbz.tape, r5.trans hbz.output, by rw [r6]; exact hbz.size, fun k hk => (r2 k (by omega)).trans (hbz.block k hk)⟩ (by omega) ⟨_, _, r1, rfl⟩ rfl (Nat.le_refl _) True.intro (by rw [hE]) rfl (by rw [hE]; rfl)
  | some p =>
    rw [hpi] at hown
    simp only [Option.getD_some] at hown
    obtain ⟨pa, pc, rfl⟩ := owns_slice hown
    obtain ⟨m, hm⟩ : ∃ m, m = (natI p).length := ⟨_, rfl⟩
    rw [← hm] at hown ⊢
    have hpl : m = p.length := by rw [hm, natI_length]
    simp only [Option.isSome_some]
    obtain ⟨u, hu, huid⟩ := pathT_at id t _ hpi
    have hE := writeK_go (tx := tx) hpi hu
    rw [← HPR.out] at hE
    have hus := atT_size p t u hu
    have hsz := HSZ.out
    obtain ⟨⟨n0, n1, n2, n3⟩, m1, m4⟩ := HCE.out W2 hb2
    have hB2 := hb2.size
    have hBs := HB.out.2.1
    have hal := along1 W2 (E := fun _ => False) (S := S) (SS := S) (RR := fun _ => True) (.agg #[.int .i64 t.id, .int .i64 t.kind, .string t.text, .slice ka nk tc]) t u ⟨u.id, u.kind, tx, u.kids⟩ p pa m pc (fun y hy => ⟨HTR.out.2 W2 hb2 y hy, fun h => h⟩) (fun y hy => ⟨HTR.out.2 W2 hb2 y hy, fun h => h⟩) (fun _ h => h) (fun _ h => h.elim) hpl (by omega) (HTR.out.1 W2 hb2) (by omega) ((intsL_own (l := natI p) hown).1.kept fun y hy => ⟨⟨hy.2, fun h => h⟩, rfl⟩) hu
      (chg_write W2 S (HTR.out.2 W2 hb2) u (w.heap.size + 1) tx (by omega) m4) (fun _ _ _ h => h)
    obtain ⟨y, hy⟩ : ∃ y, y = putP t p ⟨u.id, u.kind, tx, u.kids⟩ := ⟨_, rfl⟩
    rw [← hy] at hal hE
    have HAL := Lib.hid hal
    have HG := Lib.hid (And.intro hE hb2)
    have hmf : ∀ (fn : Fn) (first cap : Array Value) (w : World), (Instr.makeFunc fn first cap).run Try.prog w = .ok (.func fn first cap) w := fun _ _ _ _ => rfl
    clear hal hown hm hpl hpi hu huid hE hus hsz hb2 hB2 hBs hy
    go_wp2_with fail
    refine HAL.out.mono ?_
    rintro e X ⟨_, rfl, ⟨kb, kc, rfl, hkc, hkk⟩, k1, k2, k3, k4, k5, _⟩
    obtain ⟨yn, hyn⟩ : ∃ yn, yn = foLen y.kids := ⟨_, rfl⟩
    rw [← hyn] at hkc ⊢
    have hbx : Below W2.heap.size W2 X := ⟨k1, k2, k3, k4, fun z hz => k5 z hz (fun h => h)⟩
    have hbX : Below B.heap.size B X := HG.out.2.trans (hbx.mono HG.out.2.size)
    have hr3 := (hbX.block _ (lt_of_heap HB.out.2.2)).trans HB.out.2.2
    have hbz : Below w.heap.size w X := HB.out.1.trans (hbX.mono HB.out.1.size)
    obtain ⟨z0, z1, z2, z3⟩ := box4 hr3
    have zf : ∀ j, X.frozen? ⟨w.heap.size + 1 + 1, j, none⟩ = false := fun j => frozen_of_row _ _ j _ _ hr3
    obtain ⟨V, hV, r1, r2, r3, r4, r5, r6⟩ := four_set (u0 := .int .i64 y.id) (u1 := .int .i64 y.kind) (u2 := .string y.text) (u3 := .slice kb yn kc) hr3
    have hBw := HB.out.2.1
    have hWB := HG.out.2.size
    have hok : FoAt V (fun z => S z ∨ w.heap.size ≤ z ∧ z < V.heap.size) y.kids kb := hkk.kept fun z hz => by
      have hSz := HTR.out.2 B (Below.refl _ _)
      have hz2 : (S z ∨ w.heap.size ≤ z ∧ z < V.heap.size) ∧ z ≠ w.heap.size + 1 + 1 := by
        rcases hz with hz | hz
        · have h1 := HSW.out z hz
          exact ⟨Or.inl hz, by omega⟩
        · exact ⟨Or.inr ⟨by omega, by omega⟩, by omega⟩
      exact ⟨hz2.1, r2 z hz2.2⟩
    have HE := Lib.hid (And.intro hbz (And.intro hV (And.intro r1 (And.intro r2 (And.intro r3 (And.intro r4 (And.intro r5 (And.intro r6 (And.intro hok (And.intro hkc hyn))))))))))
    clear hmf hbX hr3 hbz hV r1 r2 r3 r4 r5 r6 hBw hWB hok hkk hkc hyn hbx k1 k2 k3 k4 k5 n0 n1 n2 n3 m1 m4
    go_wp2_with fail
    rw [← HE.out.2.1]
    obtain ⟨hbz, hV, r1, r2, r3, r4, r5, r6, hok, hkc, hyn⟩ := HE.out
    exact step_end (p := 4) (u := 5) rfl rfl (g := w.heap.size + 1 + 1) (y := y) (m := yn) (kb := kb) (kc := kc) ⟨r3.trans hbz.os, r4.trans hbz.tape, r5.trans hbz.output, by rw [r6]; exact hbz.size, fun k hk => (r2 k (by omega)).trans (hbz.block k hk)⟩ (by omega) ⟨_, _, r1, rfl⟩ hyn (by rw [← hyn]; exact hkc) hok (by rw [HG.out.1]) rfl (by rw [HG.out.1]; rfl)
end Go.Proofs.Ythjniclhnfipdaa
