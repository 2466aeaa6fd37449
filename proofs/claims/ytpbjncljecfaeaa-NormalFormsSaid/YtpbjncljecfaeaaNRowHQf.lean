/-
  The program's Pair: what two neighbours become. No condition but that they are not too great, and that ids are numbers of 64 bits.
  A row of held steps that lie apart from one another. No condition.
-/
import Derived.Test.YtpbjncljecfaeaaNPutWQf
namespace Go.Proofs.Ytpbjncljecfaeaa
open Go.RowKit Go.Shelf
attribute [local go_sem] Oper.semAt_some
set_option linter.unusedVariables false
set_option linter.unusedSimpArgs false

/-- A step's ids are numbers of 64 bits. -/
def Wf64 (s : Sf) : Prop := idsOk (rootF s.sub) ∧ (Lit.int .i64 s.id).wf = true
theorem ok_new {x : SV} (hz : foSize x.s.sub.kids + 1 ≤ 100000) (hw : Wf64 x.s) : HeldOk (HV.new x) := ⟨hz, hw.1, fun t h => (by cases h), by show ([] : List SV).length ≤ 10000; decide⟩
theorem ok_text {ha hb : HV} {m : Option Nat} {ta : Option Addr} {tc : Nat} (h : HeldOk ha) (hw : (Lit.int .i64 hb.x.s.id).wf = true) (hin : (wiT hb.x.s.id ⟨#[]⟩ ha.x.s.sub).2 = true) (hf : ha.ts.length + 1 ≤ 10000) : HeldOk ((ha.withM m).withT hb.x ta tc) :=
  ⟨h.small, h.ids, fun t ht => by
    rcases List.mem_append.1 ht with h1 | h1
    · exact h.tsIn t h1
    · rw [List.mem_singleton] at h1
      subst h1
      exact ⟨by rw [wiT_tx _ _ ⟨#[]⟩]; exact hin, hw⟩, by show (ha.ts ++ [hb.x]).length ≤ 10000; rw [List.length_append]; exact hf⟩
theorem new_sf (x : SV) : (HV.new x).sf = x.s := rfl
end Go.Proofs.Ytpbjncljecfaeaa
namespace Go.Proofs.Ytpbjncljecfaeaa
open Go.RowKit Go.Shelf
set_option linter.unusedVariables false
set_option linter.unusedSimpArgs false

/-- A held step, and where it lies. -/
abbrev HP := Nat × HV
def HP.apart (p q : HP) : Prop := ∀ x, p.2.own p.1 x → ¬ q.2.own q.1 x
structure HRow (w0 V : World) (L : List HP) : Prop where
  held : ∀ p ∈ L, HeldAt w0 V p.1 p.2
  apart : L.Pairwise HP.apart
  ok : ∀ p ∈ L, HeldOk p.2 ∧ (Lit.int .i64 p.2.x.s.id).wf = true
def sfs (L : List HP) : List Sf := L.map fun p => p.2.sf
theorem HRow.kept {w0 V V' : World} {L : List HP} (h : HRow w0 V L) (hk : ∀ p ∈ L, ∀ q, p.2.own p.1 q → V'.heap[q]? = V.heap[q]?) : HRow w0 V' L := ⟨fun p hp => (h.held p hp).kept (hk p hp), h.apart, h.ok⟩
theorem HRow.below {w0 V V' : World} {L : List HP} (h : HRow w0 V L) (hb : Below V.heap.size V V') : HRow w0 V' L := h.kept fun p hp q hq => hb.block q ((h.held p hp).lt q hq).2
theorem HRow.sub {w0 V : World} {L L' : List HP} (h : HRow w0 V L) (hs : L'.Sublist L) : HRow w0 V L' := ⟨fun p hp => h.held p (hs.subset hp), h.apart.sublist hs, fun p hp => h.ok p (hs.subset hp)⟩
theorem apart_symm {p q : HP} (h : HP.apart p q) : HP.apart q p := fun x h1 h2 => h x h2 h1
/-- One of them turns. -/
theorem HRow.turn {w0 V W : World} {P Q : List HP} {A : Nat} {ha ha' : HV} (h : HRow w0 V (P ++ (A, ha) :: Q)) (ht : Turn w0 A ha ha' V W) (hok : HeldOk ha') : HRow w0 W (P ++ (A, ha') :: Q) := by
  obtain ⟨a1, a2, a3⟩ := List.pairwise_append.1 h.apart
  obtain ⟨a4, a5⟩ := List.pairwise_cons.1 a2
  have hn : ∀ p, (p ∈ P ∨ p ∈ Q) → HP.apart p (A, ha) := fun p hp => by
    rcases hp with hp | hp
    · exact a3 p hp _ (List.mem_cons_self ..)
    · exact apart_symm (a4 p hp)
  have hmem : ∀ p, (p ∈ P ∨ p ∈ Q) → p ∈ P ++ (A, ha) :: Q := fun p hp => by
    rcases hp with hp | hp
    · exact List.mem_append_left _ hp
    · exact List.mem_append_right _ (List.mem_cons_of_mem _ hp)
  have hheld : ∀ p, (p ∈ P ∨ p ∈ Q) → HeldAt w0 W p.1 p.2 := fun p hp => (h.held p (hmem p hp)).kept fun q hq => ht.turned.block q ((h.held p (hmem p hp)).lt q hq).2 (fun e => hn p hp q hq e)
  have hn' : ∀ p, (p ∈ P ∨ p ∈ Q) → HP.apart p (A, ha') := fun p hp x h1 h2 => by
    rcases ht.own x h2 with h3 | h3
    · exact hn p hp x h1 h3
    · have := ((h.held p (hmem p hp)).lt x h1).2; omega
  refine ⟨fun p hp => ?_, ?_, fun p hp => ?_⟩
  · rcases List.mem_append.1 hp with hp | hp
    · exact hheld p (Or.inl hp)
    · rcases List.mem_cons.1 hp with rfl | hp
      · exact ht.held
      · exact hheld p (Or.inr hp)
  · refine List.pairwise_append.2 ⟨a1, List.pairwise_cons.2 ⟨fun q hq => apart_symm (hn' q (Or.inr hq)), a5⟩, fun p hp q hq => ?_⟩
    rcases List.mem_cons.1 hq with rfl | hq
    · exact hn' p (Or.inl hp)
    · exact a3 p hp q (List.mem_cons_of_mem _ hq)
  · rcases List.mem_append.1 hp with hp | hp
    · exact h.ok p (hmem p (Or.inl hp))
    · rcases List.mem_cons.1 hp with rfl | hp
      · refine ⟨hok, ?_⟩
        simp only
        rw [ht.x]
        exact (h.ok (A, ha) (List.mem_append_right _ (List.mem_cons_self ..))).2
      · exact h.ok p (hmem p (Or.inr hp))
/-- A row of pointers is no block of a held step's. -/
theorem HeldAt.ne_ptr {w0 V : World} {b : Nat} {h : HV} (hh : HeldAt w0 V b h) {G : Nat} {cs : Array Value} {T : TypeId} {fr : Nat × Nat} (hG : V.heap[G]? = some (.cells cs T fr)) (h1 : T ≠ 48) (h2 : T ≠ 27) : ¬ h.own b G := fun e => by
  rcases e with e | e | e
  · exact ne_of_type hG hh.cells h1 e
  · obtain ⟨cur, hc⟩ := own_typed hh.texts e
    exact ne_of_type hG hc h2 rfl
  · have h3 := hh.nodes
    unfold NodesOk at h3
    rw [e] at h3
    obtain ⟨n, L, ⟨M, ⟨es, clock, hb9, _⟩, _⟩, _⟩ := h3
    rw [hG] at hb9; cases hb9
def zipH : List Nat → List SV → List HP
  | b :: bs, x :: vs => (b, HV.new x) :: zipH bs vs
  | _, _ => []
theorem zipH_at : ∀ (bs : List Nat) (vs : List SV) (p : HP), p ∈ zipH bs vs → ∃ (i : Nat) (x : SV), bs[i]? = some p.1 ∧ vs[i]? = some x ∧ p.2 = HV.new x
  | [], _, p, h => by simp [zipH] at h
  | _ :: _, [], p, h => by simp [zipH] at h
  | b :: bs, x :: vs, p, h => by
    rw [zipH] at h
    rcases List.mem_cons.1 h with rfl | h
    · exact ⟨0, x, rfl, rfl, rfl⟩
    · obtain ⟨i, y, h1, h2, h3⟩ := zipH_at bs vs p h
      exact ⟨i + 1, y, h1, h2, h3⟩
theorem zipH_fst : ∀ (bs : List Nat) (vs : List SV), bs.length = vs.length → (zipH bs vs).map Prod.fst = bs
  | [], [], _ => rfl
  | [], _ :: _, h => by simp at h
  | _ :: _, [], h => by simp at h
  | b :: bs, x :: vs, h => by rw [zipH, List.map_cons, zipH_fst bs vs (by simpa using h)]
theorem zipH_sfs : ∀ (bs : List Nat) (vs : List SV), bs.length = vs.length → sfs (zipH bs vs) = steps vs
  | [], [], _ => rfl
  | [], _ :: _, h => by simp at h
  | _ :: _, [], h => by simp at h
  | b :: bs, x :: vs, h => by
    have := zipH_sfs bs vs (by simpa using h)
    show (HV.new x).sf :: sfs (zipH bs vs) = x.s :: steps vs
    rw [this, new_sf]
theorem zipH_apart : ∀ (bs : List Nat) (vs : List SV), bs.Nodup → (zipH bs vs).Pairwise HP.apart
  | [], _, _ => by simp [zipH]
  | _ :: _, [], _ => by simp [zipH]
  | b :: bs, x :: vs, h => by
    obtain ⟨h1, h2⟩ := List.nodup_cons.1 h
    rw [zipH]
    refine List.pairwise_cons.2 ⟨fun q hq y e1 e2 => ?_, zipH_apart bs vs h2⟩
    obtain ⟨i, z, g1, g2, g3⟩ := zipH_at bs vs q hq
    rw [g3] at e2
    rcases e1 with e1 | e1 | e1
    · rcases e2 with e2 | e2 | e2
      · have e3 : b = q.1 := e1.symm.trans e2
        exact h1 (by rw [e3]; exact List.mem_of_getElem? g1)
      · cases e2
      · cases e2
    · cases e1
    · cases e1
/-- What hold has made. -/
theorem hold_row {w w' : World} {vs : List SV} {hbs : List Nat} (hl : hbs.length = vs.length) (hh : ∀ (i b : Nat) (x : SV), hbs[i]? = some b → vs[i]? = some x → HeldAt w w' b (HV.new x)) (hn : hbs.Nodup) (hz : ∀ x ∈ vs, foSize x.s.sub.kids + 1 ≤ 100000) (hw : ∀ x ∈ vs, Wf64 x.s) : HRow w w' (zipH hbs vs) := by
  refine ⟨fun p hp => ?_, zipH_apart _ _ hn, fun p hp => ?_⟩
  · obtain ⟨i, x, h1, h2, h3⟩ := zipH_at _ _ p hp
    rw [h3]
    exact hh i _ x h1 h2
  · obtain ⟨i, x, h1, h2, h3⟩ := zipH_at _ _ p hp
    rw [h3]
    have hm := List.mem_of_getElem? h2
    exact ⟨ok_new (hz x hm) (hw x hm), (hw x hm).2⟩
theorem split_two {α : Type} : ∀ (l : List α) (i : Nat) (a b : α), l[i]? = some a → l[i + 1]? = some b → ∃ P Q, l = P ++ a :: b :: Q ∧ P.length = i
  | [], _, _, _, h, _ => by simp at h
  | [x], i, a, b, _, h => by simp at h
  | x :: y :: l, 0, a, b, h1, h2 => by simp at h1 h2; subst h1 h2; exact ⟨[], l, rfl, rfl⟩
  | x :: y :: l, i + 1, a, b, h1, h2 => by
    obtain ⟨P, Q, e, hl⟩ := split_two (y :: l) i a b (by simpa using h1) (by simpa using h2)
    exact ⟨x :: P, Q, by rw [e]; rfl, by simp [hl]⟩
end Go.Proofs.Ytpbjncljecfaeaa
