/-
  put: which of two neighbours stays, if they fit a rule. No condition but that what is held is not too great.
-/
import Derived.Test.YtpbjncljecfaeaaNRulesQf
import Derived.Test.YtpbjncljecfaeaaNStayQf
namespace Go.Proofs.Ytpbjncljecfaeaa
open Go.RowKit Go.Shelf
attribute [local go_sem] Oper.semAt_some
set_option linter.unusedVariables false
set_option linter.unusedSimpArgs false

theorem wiT_id (i : Int) (a : ByteArray) (t : Tr) : (wiT i a t).1.id = t.id := by
  unfold wiT
  split
  · rfl
  · split <;> rfl
theorem subT_id : ∀ (ts : List SV) (u : Tr), (subT u ts).id = u.id
  | [], _ => rfl
  | t :: ts, u => by
    show (subT (wiT t.s.id t.s.tx u).1 ts).id = _
    rw [subT_id ts, wiT_id]
/-- Rule j fits. -/
def fitsK (j : Nat) (ha hb : HV) : Prop := match j with
  | 0 => ha.x.s.op = 4 ∧ hb.x.s.op = 4 ∧ ha.x.s.id = hb.x.s.id
  | 1 => ha.x.s.op = 1 ∧ hb.x.s.op = 2 ∧ ha.x.s.sub.id = hb.x.s.id
  | 2 => ha.x.s.op = 3 ∧ hb.x.s.op = 3 ∧ ha.x.s.id = hb.x.s.id
  | 3 => ha.x.s.op = 1 ∧ hb.x.s.op = 4 ∧ (wiT hb.x.s.id ⟨#[]⟩ ha.x.s.sub).2 = true
  | _ => False
theorem wiT_tx (i : Int) (a b : ByteArray) (t : Tr) : (wiT i a t).2 = (wiT i b t).2 := by rw [(wiT_root i a t).2, (wiT_root i b t).2]; exact wiF_tx i a b _
theorem pair_none {ha hb : HV} (h : ∀ j, j < 4 → ¬ fitsK j ha hb) : (pairK ha.sf hb.sf).2 = false := by
  have h0 := h 0 (by omega)
  have h1 := h 1 (by omega)
  have h2 := h 2 (by omega)
  have h3 := h 3 (by omega)
  simp only [fitsK] at h0 h1 h2 h3
  have n1 : ¬ (ha.x.s.op = hb.x.s.op ∧ (ha.x.s.op = 4 ∨ ha.x.s.op = 3) ∧ ha.x.s.id = hb.x.s.id) := by
    rintro ⟨e1, e2 | e2, e3⟩
    · exact h0 ⟨e2, by rw [← e1]; exact e2, e3⟩
    · exact h2 ⟨e2, by rw [← e1]; exact e2, e3⟩
  have n2 : ¬ (ha.x.s.op = 1 ∧ hb.x.s.op = 2 ∧ (subT ha.x.s.sub ha.ts).id = hb.x.s.id) := by rw [subT_id]; exact h1
  have n3 : ¬ (ha.x.s.op = 1 ∧ hb.x.s.op = 4 ∧ (wiT hb.x.s.id hb.x.s.tx (subT ha.x.s.sub ha.ts)).2 = true) := by
    rintro ⟨e1, e2, e3⟩
    rw [subT_has] at e3
    exact h3 ⟨e1, e2, by rw [wiT_tx _ _ hb.x.s.tx]; exact e3⟩
  unfold pairK
  rw [if_neg (show ¬ (ha.sf.op = hb.sf.op ∧ (ha.sf.op = 4 ∨ ha.sf.op = 3) ∧ ha.sf.id = hb.sf.id) from n1), if_neg (show ¬ (ha.sf.op = 1 ∧ hb.sf.op = 2 ∧ ha.sf.sub.id = hb.sf.id) from n2), if_neg (show ¬ (ha.sf.op = 1 ∧ hb.sf.op = 4 ∧ (wiT hb.sf.id hb.sf.tx ha.sf.sub).2 = true) from n3)]
theorem pair_two {ha hb : HV} (h : fitsK 0 ha hb ∨ fitsK 2 ha hb) : pairK ha.sf hb.sf = ([hb.sf], true) := by
  unfold pairK
  rw [if_pos]
  rcases h with ⟨h1, h2, h3⟩ | ⟨h1, h2, h3⟩
  · exact ⟨h1.trans h2.symm, Or.inl h1, h3⟩
  · exact ⟨h1.trans h2.symm, Or.inr h1, h3⟩
theorem pair_one {ha hb : HV} (h : fitsK 1 ha hb) : pairK ha.sf hb.sf = ([], true) := by
  obtain ⟨h1, h2, h3⟩ := h
  have n1 : ¬ (ha.x.s.op = hb.x.s.op ∧ (ha.x.s.op = 4 ∨ ha.x.s.op = 3) ∧ ha.x.s.id = hb.x.s.id) := by rw [h1, h2]; rintro ⟨e, _⟩; cases e
  have n2 : ha.x.s.op = 1 ∧ hb.x.s.op = 2 ∧ (subT ha.x.s.sub ha.ts).id = hb.x.s.id := ⟨h1, h2, by rw [subT_id]; exact h3⟩
  unfold pairK
  rw [if_neg (show ¬ (ha.sf.op = hb.sf.op ∧ (ha.sf.op = 4 ∨ ha.sf.op = 3) ∧ ha.sf.id = hb.sf.id) from n1), if_pos (show (ha.sf.op = 1 ∧ hb.sf.op = 2 ∧ ha.sf.sub.id = hb.sf.id) from n2)]
theorem pair_three {ha hb : HV} (h : fitsK 3 ha hb) (m : Option Nat) (ta : Option Addr) (tc : Nat) : pairK ha.sf hb.sf = ([((ha.withM m).withT hb.x ta tc).sf], true) := by
  obtain ⟨h1, h2, h3⟩ := h
  have h4 : (wiT hb.x.s.id hb.x.s.tx (subT ha.x.s.sub ha.ts)).2 = true := by rw [subT_has, ← wiT_tx _ ⟨#[]⟩]; exact h3
  have n1 : ¬ (ha.x.s.op = hb.x.s.op ∧ (ha.x.s.op = 4 ∨ ha.x.s.op = 3) ∧ ha.x.s.id = hb.x.s.id) := by rw [h1, h2]; rintro ⟨e, _⟩; cases e
  have n2 : ¬ (ha.x.s.op = 1 ∧ hb.x.s.op = 2 ∧ (subT ha.x.s.sub ha.ts).id = hb.x.s.id) := by rw [h2]; rintro ⟨_, e, _⟩; cases e
  have n3 : ha.x.s.op = 1 ∧ hb.x.s.op = 4 ∧ (wiT hb.x.s.id hb.x.s.tx (subT ha.x.s.sub ha.ts)).2 = true := ⟨h1, h2, h4⟩
  unfold pairK
  rw [if_neg (show ¬ (ha.sf.op = hb.sf.op ∧ (ha.sf.op = 4 ∨ ha.sf.op = 3) ∧ ha.sf.id = hb.sf.id) from n1), if_neg (show ¬ (ha.sf.op = 1 ∧ hb.sf.op = 2 ∧ ha.sf.sub.id = hb.sf.id) from n2), if_pos (show (ha.sf.op = 1 ∧ hb.sf.op = 4 ∧ (wiT hb.sf.id hb.sf.tx ha.sf.sub).2 = true) from n3)]
  simp only [HV.sf, HV.withM, HV.withT, subT_snoc]
theorem HeldAt.self {w0 V : World} {A : Nat} {ha : HV} (h : HeldAt w0 V A ha) : ha.tv.ownBlock ≠ some A ∧ ha.m ≠ some A := by
  refine ⟨fun e => ?_, fun e => ?_⟩
  · obtain ⟨cur, hc⟩ := own_typed h.texts e
    exact ne_of_type hc h.cells (by decide) rfl
  · have h1 := h.nodes
    unfold NodesOk at h1
    rw [e] at h1
    obtain ⟨n, L, ⟨M, ⟨es, clock, hb9, _⟩, _⟩, _⟩ := h1
    rw [h.cells] at hb9; cases hb9
theorem withM_self (h : HV) : h.withM h.m = h := by cases h; rfl
def PutC (w0 : World) (A B : Nat) (ha hb : HV) (V : World) (e : Ending) (w' : World) : Prop := ∃ ha', Turn w0 A ha ha' V w' ∧
   ((∃ m, ha' = ha.withM m ∧ e = .returned (.tuple #[.pointer none, .bool false]) ∧ (pairK ha.sf hb.sf).2 = false) ∨
    (∃ m, ha' = ha.withM m ∧ e = .returned (.tuple #[.pointer none, .bool true]) ∧ pairK ha.sf hb.sf = ([], true)) ∨
    (∃ m, ha' = ha.withM m ∧ e = .returned (.tuple #[hptr B, .bool true]) ∧ pairK ha.sf hb.sf = ([hb.sf], true)) ∨
    (∃ m ta tc, ha' = (ha.withM m).withT hb.x ta tc ∧ e = .returned (.tuple #[hptr A, .bool true]) ∧ pairK ha.sf hb.sf = ([ha'.sf], true) ∧ (wiT hb.x.s.id ⟨#[]⟩ ha.x.s.sub).2 = true))
/-- What the loop's round wants of rule k. -/
structure RuleOk (w0 V : World) (A B : Nat) (ha hb : HV) (k : Nat) (ah be : Int) (ff sf : FuncId) : Prop where
  enter : ∀ (args : Array Value) (w : World), (callFunc ff args).run Try.prog w = .ok (.enter ff args) w
  enter2 : ∀ (args : Array Value) (w : World), (callFunc sf args).run Try.prog w = .ok (.enter sf args) w
  fit : ∀ (W : World) (m : Option Nat), Turn w0 A ha (ha.withM m) V W → Calls Try.prog ff #[hptr A, hptr B] W (fun e w' => ∃ b m', e = .returned (.bool b) ∧ Turn w0 A ha (ha.withM m') V w' ∧ (b = true → ha.x.s.op = ah → hb.x.s.op = be → fitsK k ha hb) ∧ (b = false → ¬ fitsK k ha hb) ∧ Turn w0 A (ha.withM m) (ha.withM m') W w')
  no : ¬ (ha.x.s.op = ah ∧ hb.x.s.op = be) → ¬ fitsK k ha hb
  stay : ∀ (W : World) (m : Option Nat), Turn w0 A ha (ha.withM m) V W → fitsK k ha hb → Calls Try.prog sf #[hptr A, hptr B] W (fun e w' => ∃ v, e = .returned v ∧ PutC w0 A B ha hb V (.returned (.tuple #[v, .bool true])) w')
theorem Turn.other {w0 V W : World} {A B : Nat} {ha ha' hb : HV} (h : Turn w0 A ha ha' V W) (h2 : HeldAt w0 V B hb) (hap : ∀ q, ha.own A q → ¬ hb.own B q) : HeldAt w0 W B hb := h2.kept fun q hq => h.turned.block q (h2.lt q hq).2 (fun e => hap q e hq)
theorem Turn.more {w0 V W W' : World} {A : Nat} {ha ha' : HV} (h : Turn w0 A ha ha' V W) (hb : Below W.heap.size W W') : Turn w0 A ha ha' V W' := h.trans (Turn.still h.held hb)
/-- Two held steps that lie apart. -/
structure PutH (w0 V : World) (A B : Nat) (ha hb : HV) : Prop where
  h1 : HeldAt w0 V A ha
  h2 : HeldAt w0 V B hb
  hB : Below w0.heap.size w0 V
  hok : HeldOk ha
  hwf : (Lit.int .i64 hb.x.s.id).wf = true
  hap : ∀ q, ha.own A q → ¬ hb.own B q
section
variable {w0 V : World} {A B : Nat} {ha hb : HV}
theorem below_turn (H : PutH w0 V A B ha hb) {W : World} {m : Option Nat} (ht : Turn w0 A ha (ha.withM m) V W) : Below w0.heap.size w0 W := ⟨ht.turned.os.trans H.hB.os, ht.turned.tape.trans H.hB.tape, ht.turned.output.trans H.hB.output, Nat.le_trans H.hB.size ht.turned.size, fun q hq => (ht.turned.block q (Nat.lt_of_lt_of_le hq H.hB.size) (fun e => by have := (H.h1.lt q e).1; omega)).trans (H.hB.block q hq)⟩
theorem apart_turn (H : PutH w0 V A B ha hb) {W : World} {m : Option Nat} (ht : Turn w0 A ha (ha.withM m) V W) : ¬ (ha.withM m).own A B := fun e => by
  rcases ht.own B e with h | h
  · exact H.hap B h (Or.inl rfl)
  · have := lt_of_heap H.h2.cells; omega
theorem ok_turn (h : HeldOk ha) (m : Option Nat) : HeldOk (ha.withM m) := ⟨h.small, h.ids, h.tsIn, h.few⟩
theorem rule_same (H : PutH w0 V A B ha hb) (k : Nat) (o : Int) (hk : k = 0 ∧ o = 4 ∨ k = 2 ∧ o = 3) : RuleOk w0 V A B ha hb k o o 38 39 := by
  have hd : fitsK k ha hb ↔ (ha.x.s.op = o ∧ hb.x.s.op = o ∧ ha.x.s.id = hb.x.s.id) := by
    rcases hk with ⟨rfl, rfl⟩ | ⟨rfl, rfl⟩ <;> rfl
  refine ⟨fun _ _ => rfl, fun _ _ => rfl, fun W m ht => ?_, fun hn hf => hn ⟨(hd.1 hf).1, (hd.1 hf).2.1⟩, fun W m ht hf => ?_⟩
  · refine (sameId_any ht.held (ht.other H.h2 H.hap)).mono ?_
    rintro e w' ⟨rfl, hb'⟩
    exact ⟨_, m, rfl, ht.more hb', fun h e1 e2 => hd.2 ⟨e1, e2, of_decide_eq_true h⟩, fun h hf => of_decide_eq_false h (hd.1 hf).2.2, Turn.still ht.held hb'⟩
  · refine (second_any W A B).mono ?_
    rintro e w' ⟨rfl, rfl⟩
    exact ⟨_, rfl, _, ht, Or.inr (Or.inr (Or.inl ⟨m, rfl, rfl, pair_two (by rcases hk with ⟨rfl, rfl⟩ | ⟨rfl, rfl⟩; exact Or.inl hf; exact Or.inr hf)⟩))⟩
theorem rule_root (H : PutH w0 V A B ha hb) : RuleOk w0 V A B ha hb 1 1 2 40 41 := by
  refine ⟨fun _ _ => rfl, fun _ _ => rfl, fun W m ht => ?_, fun hn hf => hn ⟨hf.1, hf.2.1⟩, fun W m ht hf => ?_⟩
  · refine (root_any ht.held (ht.other H.h2 H.hap)).mono ?_
    rintro e w' ⟨rfl, hb'⟩
    exact ⟨_, m, rfl, ht.more hb', fun h e1 e2 => ⟨e1, e2, of_decide_eq_true h⟩, fun h hf => of_decide_eq_false h hf.2.2, Turn.still ht.held hb'⟩
  · refine (none_any W A B).mono ?_
    rintro e w' ⟨rfl, rfl⟩
    exact ⟨_, rfl, _, ht, Or.inr (Or.inl ⟨m, rfl, rfl, pair_one hf⟩)⟩
theorem rule_text (H : PutH w0 V A B ha hb) : RuleOk w0 V A B ha hb 3 1 4 42 43 := by
  refine ⟨fun _ _ => rfl, fun _ _ => rfl, fun W m ht => ?_, fun hn hf => hn ⟨hf.1, hf.2.1⟩, fun W m ht hf => ?_⟩
  · refine (inserted_any ht.held (ht.other H.h2 H.hap) (below_turn H ht) (ok_turn H.hok m) H.hwf (apart_turn H ht)).mono ?_
    rintro e w' ⟨m', rfl, ht'⟩
    exact ⟨_, some m', rfl, ht.trans ht', fun h e1 e2 => ⟨e1, e2, h⟩, fun h hf => (by
      have h9 : (wiT hb.x.s.id ⟨#[]⟩ ha.x.s.sub).2 = false := h
      rw [hf.2.2] at h9; cases h9), ht'⟩
  · refine (texted_any ht.held (ht.other H.h2 H.hap) (below_turn H ht) H.hok.few (apart_turn H ht) ht.held.self).mono ?_
    rintro e w' ⟨ta, tc, rfl, ht'⟩
    exact ⟨_, rfl, _, ht.trans ht', Or.inr (Or.inr (Or.inr ⟨m, ta, tc, rfl, rfl, pair_three hf m ta tc, hf.2.2⟩))⟩
end
end Go.Proofs.Ytpbjncljecfaeaa
