/-
  The rules: which neighbours fit one, and which of them stays. No condition but that what is held is not too great.
  The rules' table. No condition.
-/
import Derived.BigQuiet
import Derived.WalkSpells
import Derived.Test.YtpbjncljecfaeaaNHoldWQf
import Derived.Deep.MidRow
import Derived.Laws.Rows
namespace Go.Proofs.Ytpbjncljecfaeaa
open Go.RowKit Go.Shelf
attribute [local go_sem] Oper.semAt_some
set_option linter.unusedVariables false
set_option linter.unusedSimpArgs false

/-- The cells of what is held. -/
theorem HeldAt.box {w0 V : World} {hb : Nat} {h : HV} (hh : HeldAt w0 V hb h) : V.cell? ⟨hb, 0, none⟩ = some (.int .i8 h.x.s.op) ∧ V.cell? ⟨hb, 1, none⟩ = some (.int .i64 h.x.s.id) ∧ V.cell? ⟨hb, 2, none⟩ = some (.int .i64 h.x.s.par) ∧ V.cell? ⟨hb, 3, none⟩ = some (.int .i64 h.x.s.at_) ∧ V.cell? ⟨hb, 4, none⟩ = some (.string h.x.s.tx) ∧ V.cell? ⟨hb, 5, none⟩ = some (.int .i64 h.x.s.sub.id) ∧ V.cell? ⟨hb, 6, none⟩ = some (.int .i64 h.x.s.sub.kind) ∧ V.cell? ⟨hb, 7, none⟩ = some (.string h.x.s.sub.text) ∧ V.cell? ⟨hb, 8, none⟩ = some (.slice h.x.a (foLen h.x.s.sub.kids) h.x.c) ∧ V.cell? ⟨hb, 9, none⟩ = some (.map h.m) ∧ V.cell? ⟨hb, 10, none⟩ = some (.slice h.ta h.ts.length h.tc) := by
  refine ⟨?_, ?_, ?_, ?_, ?_, ?_, ?_, ?_, ?_, ?_, ?_⟩ <;> (rw [cell_of_row _ _ _ _ _ _ hh.cells]; rfl)
theorem drewN_below (V : World) (k : Nat) : Below V.heap.size V (V.drewN k) := ⟨rfl, rfl, rfl, Nat.le_refl _, fun _ _ => rfl⟩
theorem beq_decide (a b : Int) : (a == b) = decide (a = b) := by by_cases h : a = b <;> simp [h]
/-- A call that answers a bool and turns nothing. -/
def SaysB (b : Bool) (w : World) (e : Ending) (w' : World) : Prop := e = .returned (.bool b) ∧ Below w.heap.size w w'
set_option maxRecDepth 100000 in
theorem sameId_any {w0 V : World} {A B : Nat} {ha hb : HV} (h1 : HeldAt w0 V A ha) (h2 : HeldAt w0 V B hb) : Calls Try.prog 38 #[hptr A, hptr B] V (SaysB (decide (ha.x.s.id = hb.x.s.id)) V) := by
  obtain ⟨_, a1, _⟩ := h1.box
  obtain ⟨_, b1, _⟩ := h2.box
  simp only [hptr]
  clear h1 h2
  go_enter Try.func38, Try.ntmps38
  go_wp2_with (go_quiet (fail))
  go_ret
  exact ⟨by rw [← beq_decide]; rfl, drewN_below _ _⟩
set_option maxRecDepth 100000 in
theorem root_any {w0 V : World} {A B : Nat} {ha hb : HV} (h1 : HeldAt w0 V A ha) (h2 : HeldAt w0 V B hb) : Calls Try.prog 40 #[hptr A, hptr B] V (SaysB (decide (ha.x.s.sub.id = hb.x.s.id)) V) := by
  obtain ⟨_, _, _, _, _, a5, _⟩ := h1.box
  obtain ⟨_, b1, _⟩ := h2.box
  simp only [hptr]
  clear h1 h2
  go_enter Try.func40, Try.ntmps40
  go_wp2_with (go_quiet (fail))
  go_ret
  exact ⟨by rw [← beq_decide]; rfl, drewN_below _ _⟩
set_option maxRecDepth 100000 in
theorem second_any (V : World) (A B : Nat) : Calls Try.prog 39 #[hptr A, hptr B] V (fun e w' => e = .returned (hptr B) ∧ w' = V) := by
  simp only [hptr]
  go_enter Try.func39, Try.ntmps39
  go_wp2_with fail
  go_ret
  exact ⟨rfl, rfl⟩
set_option maxRecDepth 100000 in
theorem none_any (V : World) (A B : Nat) : Calls Try.prog 41 #[hptr A, hptr B] V (fun e w' => e = .returned (.pointer none) ∧ w' = V) := by
  simp only [hptr]
  go_enter Try.func41, Try.ntmps41
  go_wp2_with fail
  go_ret
  exact ⟨rfl, rfl⟩
/-- What a call makes of a held step: it is held as ha', and nothing but its own blocks has turned. -/
structure Turn (w0 : World) (A : Nat) (ha ha' : HV) (w w' : World) : Prop where
  held : HeldAt w0 w' A ha'
  x : ha'.x = ha.x
  turned : Touched w w' (ha.own A)
  own : ∀ q, ha'.own A q → ha.own A q ∨ w.heap.size ≤ q
theorem Turn.still {w0 V V' : World} {A : Nat} {ha : HV} (h : HeldAt w0 V A ha) (hb : Below V.heap.size V V') : Turn w0 A ha ha V V' :=
  ⟨h.kept fun q hq => hb.block q (h.lt q hq).2, rfl, ⟨hb.os, hb.tape, hb.output, hb.size, fun q hq _ => hb.block q hq⟩, fun q hq => Or.inl hq⟩
theorem Turn.trans {w0 V V' V'' : World} {A : Nat} {ha hb hc : HV} (h : Turn w0 A ha hb V V') (k : Turn w0 A hb hc V' V'') : Turn w0 A ha hc V V'' where
  held := k.held
  x := k.x.trans h.x
  turned := ⟨k.turned.os.trans h.turned.os, k.turned.tape.trans h.turned.tape, k.turned.output.trans h.turned.output, Nat.le_trans h.turned.size k.turned.size, fun q hq hn => (k.turned.block q (Nat.lt_of_lt_of_le hq h.turned.size) (fun e => by
    rcases h.own q e with h1 | h1
    · exact hn h1
    · omega)).trans (h.turned.block q hq hn)⟩
  own := fun q hq => by
    rcases k.own q hq with h1 | h1
    · exact h.own q h1
    · exact Or.inr (Nat.le_trans h.turned.size h1)
def HV.withM (h : HV) (m : Option Nat) : HV := ⟨h.x, h.ts, h.ta, h.tc, m⟩
def NamedC (w0 : World) (A : Nat) (ha : HV) (w : World) (e : Ending) (w' : World) : Prop := ∃ m, e = .returned (.map (some m)) ∧ Turn w0 A ha (ha.withM (some m)) w w'
set_option maxRecDepth 100000 in
set_option maxHeartbeats 4000000 in
theorem named_any {w0 V : World} {A : Nat} {ha : HV} (h1 : HeldAt w0 V A ha) (hB : Below w0.heap.size w0 V) (hok : HeldOk ha) : Calls Try.prog 47 #[hptr A] V (NamedC w0 A ha V) := by
  obtain ⟨a0, a1, a2, a3, a4, a5, a6, a7, a8, a9, a10⟩ := h1.box
  obtain ⟨mo, hmo⟩ : ∃ mo, mo = ha.m := ⟨_, rfl⟩
  rw [← hmo] at a9
  simp only [hptr]
  have hq : ∀ (w : World) (r : Option Nat), (binOp .eql 46 (.map r) (.map none)).run Try.prog w = .ok (.bool r.isNone) w := fun w r => run_eql_map_nil w _ _ _ r Try.underlying46
  cases mo with
  | some mb =>
    have HE : Hid (NamedC w0 A ha V (.returned (.map (some mb))) V) := Lib.hid ⟨mb, rfl, by
      have : ha.withM (some mb) = ha := by rw [hmo]; cases ha; rfl
      rw [this]
      exact Turn.still h1 (Below.refl _ _)⟩
    clear h1 hmo hok hB a0 a1 a2 a3 a4 a5 a6 a7 a8 a10
    go_enter Try.func47, Try.ntmps47
    go_wp2_with fail
    go_ret
    exact HE.out
  | none =>
    have hfs := firsts_any V (fun q => q < V.heap.size) ⟨A, 5, (ha.x.s.sub.id, ha.x.s.sub.kind, ha.x.s.sub.text), ha.x.s.sub.kids⟩ (fun q hq => hq) ⟨A, 5, ha.x.a, ha.x.c, rfl, lt_of_heap h1.cells, a5, a6, a7, a8, h1.lies.1, h1.lies.2.kept fun q hq => ⟨Nat.lt_of_lt_of_le hq hB.size, hB.block q hq⟩, True.intro⟩ hok.ids hok.small
    have HF := Lib.hid hfs
    have H1 := Lib.hid (And.intro h1 hmo)
    clear hfs h1 hmo hok a0 a1 a2 a3 a4 a5 a6 a7 a8 a10
    go_enter Try.func47, Try.ntmps47
    go_wp2_with fail
    refine HF.out.mono ?_
    rintro e V1 ⟨m, n, rfl, hm, hfm, hb1⟩
    have hc1 := (hb1.block _ (lt_of_heap H1.out.1.cells)).trans H1.out.1.cells
    obtain ⟨V2, e2, g2, o2, a2, t2, p2, s2⟩ := one_setN (i := 9) (u := .map (some m)) hc1
    have b9 : V1.cell? ⟨A, 9, none⟩ = some (.map ha.m) := by rw [cell_of_row _ _ _ _ _ _ hc1]; rfl
    rw [← H1.out.2] at b9
    have bf : V1.frozen? ⟨A, 9, none⟩ = false := frozen_of_row _ _ _ _ _ hc1
    have hA := lt_of_heap H1.out.1.cells
    have HE : Hid (NamedC w0 A ha V (.returned (.map (some m))) V2) := Lib.hid ⟨m, rfl, ⟨⟨by simpa [HV.withM] using g2, H1.out.1.lies, owns_kept H1.out.1.texts (fun g cur hg hgo => (o2 g (fun e => by
        subst e
        exact ne_of_type hg H1.out.1.cells (by decide) rfl)).trans (hb1.block g (lt_of_heap hg))), ⟨n, _, hfm.at (o2 m (by omega)), fun i => ?_⟩, H1.out.1.base, fun m' h' => by cases h'; have := hB.size; omega⟩, rfl, ⟨a2.trans hb1.os, t2.trans hb1.tape, p2.trans hb1.output, by rw [s2]; exact hb1.size, fun q hq hn => (o2 q (fun e => hn (Or.inl e))).trans (hb1.block q hq)⟩, fun q hq => by
        rcases hq with hq | hq | hq
        · exact Or.inl (Or.inl hq)
        · exact Or.inl (Or.inr (Or.inl hq))
        · cases hq; exact Or.inr hm⟩⟩
    · have HV2 := Lib.hid (And.intro e2 g2)
      clear e2 g2 o2 a2 t2 p2 s2 hfm hb1 hc1 HF a9
      go_wp2_with fail
      rw [← HV2.out.1]
      have c9 : V2.cell? ⟨A, 9, none⟩ = some (.map (some m)) := by rw [cell_of_row _ _ _ _ _ _ HV2.out.2]; rfl
      clear HV2
      go_wp2_with fail
      go_ret
      exact HE.out
    · rw [← wiF_first i ⟨#[]⟩]
      exact (wiT_root i ⟨#[]⟩ ha.x.s.sub).2.symm
end Go.Proofs.Ytpbjncljecfaeaa
namespace Go.Proofs.Ytpbjncljecfaeaa
open Go.RowKit Go.Shelf
set_option linter.unusedVariables false
set_option linter.unusedSimpArgs false

def ruleC : Array Value := #[.int .i8 4, .int .i8 4, .func (.func 38) #[] #[], .func (.func 39) #[] #[], .int .i8 1, .int .i8 2, .func (.func 40) #[] #[], .func (.func 41) #[] #[], .int .i8 3, .int .i8 3, .func (.func 38) #[] #[], .func (.func 39) #[] #[], .int .i8 1, .int .i8 4, .func (.func 42) #[] #[], .func (.func 43) #[] #[]]
set_option maxRecDepth 100000 in
set_option maxHeartbeats 4000000 in
theorem rules_any (w : World) : Calls Try.prog 30 #[] w (fun e w' => e = .returned (.agg ruleC) ∧ Below w.heap.size w w') := by
  go_enter Try.func30, Try.ntmps30
  go_wp2_with fail
  exact bodyPost_ret (results_cell_row rfl _ _ w.heap.size 69 ruleC (0, 0) _ rfl (heap_alloc_new _ _) Try.underlying69 rfl (by kernel_rfl)) rfl ⟨rfl, (Below.refl _ _).alloc (Nat.le_refl _) _⟩
end Go.Proofs.Ytpbjncljecfaeaa
