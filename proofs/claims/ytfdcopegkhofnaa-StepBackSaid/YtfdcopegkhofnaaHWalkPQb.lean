/-
  The rows of a walk in memory: plain definitions and their laws. No condition.
-/
import Derived.Deep.LoopGhost
import Derived.Laws.EntriesVeiled
import Derived.Test.YtfdcopegkhofnaaHNextQb
namespace Go.Proofs.Ytfdcopegkhofnaa
open Go.RowKit Go.Shelf
set_option linter.unusedVariables false

/-- The rows of a walk, at a node. -/
structure WFacts (w : World) (S : Nat → Prop) (t : Tr) (T : Nat → Prop) (rv : Value) (L : List Fr) : Prop where
  rows : RowsAt w rv L
  own : ∀ g, rv.ownBlock = some g → T g
  ok : ∀ y ∈ L, y.ok
  lies : ∀ y ∈ L, FoAt w S y.f y.a ∧ foLen y.f ≤ y.cap
  chain : ChainS (rootF t) L
  apart : ∀ y, T y → y < w.heap.size ∧ ¬ S y
  few : L.length + curLeft L ≤ foSize t.kids + 2
  sl : ∀ y, S y → y < w.heap.size
/-- The rows of a walk, ahead of the next node. -/
structure WPre (w : World) (S : Nat → Prop) (t : Tr) (T : Nat → Prop) (rv : Value) (L : List Fr) : Prop where
  rows : RowsAt w rv L
  own : ∀ g, rv.ownBlock = some g → T g
  p : ∀ y ∈ L, -1 ≤ y.p ∧ y.p ≤ (foLen y.f : Int)
  ok : ∀ y ∈ L.tail, y.ok
  lies : ∀ y ∈ L, FoAt w S y.f y.a ∧ foLen y.f ≤ y.cap
  chain : ChainS (rootF t) L
  apart : ∀ y, T y → y < w.heap.size ∧ ¬ S y
  few : L.length + leftS L ≤ foSize t.kids + 2
  sl : ∀ y, S y → y < w.heap.size
theorem chain_size {root : Fo} : ∀ (L : List Fr), ChainS root L → ∀ x ∈ L, foLen x.f ≤ foSize root
  | [], _, _, h => by cases h
  | [x], h, y, hy => by
    rw [List.mem_singleton] at hy; subst hy
    rw [ChainS] at h; rw [h]; exact foLen_le _
  | x :: z :: r, h, y, hy => by
    rcases List.mem_cons.1 hy with rfl | hy
    · obtain ⟨_, u, hu, he⟩ := h.1
      have h1 : ∀ (L : List Fr), ChainS root L → ∀ x ∈ L, foSize x.f ≤ foSize root := by
        intro L
        induction L with
        | nil => intro _ x hx; cases hx
        | cons a L ih =>
          intro hL x hx
          cases L with
          | nil => rw [List.mem_singleton] at hx; subst hx; rw [ChainS] at hL; rw [hL]; exact Nat.le_refl _
          | cons b L =>
            rcases List.mem_cons.1 hx with rfl | hx
            · obtain ⟨_, v, hv, hf⟩ := hL.1
              have h2 := ih hL.2 b (by simp)
              have h3 := foDrop_size hv
              have h4 : ∀ (j : Nat) (f : Fo), foSize (foDrop j f) ≤ foSize f := by
                intro j
                induction j with
                | zero => intro f; rw [foDrop_zero]; exact Nat.le_refl _
                | succ j ih => intro f; cases f with
                  | nil => exact Nat.le_refl _
                  | node b o a l r => have := ih r; simp only [foDrop, foSize]; omega
              have h5 := h4 b.p.toNat b.f
              rw [hf]; omega
            · exact ih hL.2 x hx
      have h2 := h1 (y :: z :: r) h y (by simp)
      have := foLen_le y.f
      omega
    · exact chain_size (z :: r) h.2 y hy
theorem WFacts.kept {w w' : World} {S T : Nat → Prop} {t : Tr} {rv : Value} {L : List Fr} (h : WFacts w S t T rv L) (hs : w.heap.size ≤ w'.heap.size) (hT : ∀ y, T y → w'.heap[y]? = w.heap[y]?) (hS : ∀ y, S y → w'.heap[y]? = w.heap[y]?) : WFacts w' S t T rv L :=
  ⟨h.rows.kept fun g hg => hT g (h.own g hg), h.own, h.ok, fun y hy => ⟨(h.lies y hy).1.kept fun k hk => ⟨hk, hS k hk⟩, (h.lies y hy).2⟩, h.chain, fun y hy => ⟨Nat.lt_of_lt_of_le (h.apart y hy).1 hs, (h.apart y hy).2⟩, h.few, fun y hy => Nat.lt_of_lt_of_le (h.sl y hy) hs⟩
/-- Behind 'next'. -/
theorem WPre.next {w w' : World} {S T : Nat → Prop} {t : Tr} {rv rv' : Value} {L : List Fr} (h : WPre w S t T rv L) (h1 : RowsAt w' rv' (nextS L)) (h2 : rv'.ownBlock = rv.ownBlock ∨ rv'.ownBlock = none) (h3 : Touched w w' (fun x => rv.ownBlock = some x)) : WFacts w' S t T rv' (nextS L) := by
  have hp : ∀ x ∈ L, -1 ≤ x.p := fun x hx => (h.p x hx).1
  refine ⟨h1, fun g hg => ?_, nextS_ok L hp h.ok, nextS_mem (fun a c f => FoAt w' S f a ∧ foLen f ≤ c) L (fun y hy => ⟨(h.lies y hy).1.kept fun k hk => ⟨hk, h3.block k (h.sl k hk) (fun e => (h.apart k (h.own k e)).2 hk)⟩, (h.lies y hy).2⟩), nextS_chain L h.chain, fun y hy => ⟨Nat.lt_of_lt_of_le (h.apart y hy).1 h3.size, (h.apart y hy).2⟩, ?_, fun y hy => Nat.lt_of_lt_of_le (h.sl y hy) h3.size⟩
  · rcases h2 with e | e
    · exact h.own g (e ▸ hg)
    · rw [e] at hg; cases hg
  · have := nextS_length L
    have := nextS_left L hp
    have := h.few
    omega
/-- The node at which the rows stand. -/
theorem WFacts.here {w : World} {S T : Nat → Prop} {t : Tr} {rv : Value} {x : Fr} {r : List Fr} (h : WFacts w S t T rv (x :: r)) : ∃ (g cap n p : Nat) (u : Tr) (b off : Nat) (ka : Option Addr) (kc : Nat), rv = .slice (some ⟨g, 0, none⟩) (n + 1) cap ∧ n = r.length ∧ n ≤ foSize t.kids + 1 ∧ (n : Int) + 1 ≤ cap ∧ T g ∧ w.cell? ⟨g, n * 2, none⟩ = some (.slice x.a (foLen x.f) x.cap) ∧ w.cell? ⟨g, n * 2 + 1, none⟩ = some (.int .i64 (p : Int)) ∧ x.p = (p : Int) ∧ p < foLen x.f ∧ foLen x.f ≤ foSize t.kids + 1 ∧
    kidF x.f x.p.toNat = some u ∧ x.a = some ⟨b, off, none⟩ ∧ S b ∧ w.cell? ⟨b, off + p * 4, none⟩ = some (.int .i64 u.id) ∧ w.cell? ⟨b, off + p * 4 + 3, none⟩ = some (.slice ka (foLen u.kids) kc) ∧ foLen u.kids ≤ kc ∧ FoAt w S u.kids ka := by
  have hok := h.ok x (by simp)
  obtain ⟨ra, rc, rfl⟩ := owns_slice h.rows
  obtain ⟨g, rfl, hn, c0, c1, _⟩ := RowsAt.at h.rows (k := r.length) (x := x) (by rw [List.reverse_cons, List.getElem?_append_right (by simp)]; simp)
  have hl := chain_size _ h.chain x (by simp)
  rw [rootF_size] at hl
  have hf := h.few
  have hcap : (r.length : Int) + 1 ≤ rc := by
    rcases h.rows.2 with ⟨hv, _⟩ | ⟨_, _, _, hv, _, _, h3, _⟩
    · cases hv
    · cases hv; simp only [List.length_cons] at h3; omega
  obtain ⟨b0, o0, key, l, q, hd, b, off, ka, kc, ha, hSb, d0, _, _, d3, hkc, hk⟩ := (h.lies x (by simp)).1.at x.p.toNat (by have := hok.1; have := hok.2; omega)
  have hp : x.p = (x.p.toNat : Int) := by have := hok.1; omega
  rw [hp] at c1
  refine ⟨g, rc, r.length, x.p.toNat, ⟨key.1, key.2.1, key.2.2, l⟩, b, off, ka, kc, by rw [List.length_cons], rfl, ?_, hcap, h.own g rfl, c0, c1, hp, by have := hok.2; omega, by omega, by rw [kidF, hd]; rfl, ha, hSb, d0, d3, hkc, hk⟩
  have h9 : 1 ≤ curLeft (x :: r) := by
    rw [curLeft, hd]; simp only [foSize]; omega
  simp only [List.length_cons] at hf; omega
/-- The row of the kids is put behind. -/
theorem WFacts.push {w w3 : World} {S T T3 : Nat → Prop} {t : Tr} {rv rv3 : Value} {x : Fr} {r : List Fr} {u : Tr} {ka : Option Addr} {kc : Nat} (h : WFacts w S t T rv (x :: r)) (hu : kidF x.f x.p.toNat = some u) (hk : FoAt w S u.kids ka) (hkc : foLen u.kids ≤ kc) (hs : w.heap.size ≤ w3.heap.size) (hS : ∀ y, S y → w3.heap[y]? = w.heap[y]?)
    (hr : w3.ownsRow 0 124 2 rv3 (r.length + 1 + 1) ((x :: r).reverse.flatMap Fr.cells ++ [.slice ka (foLen u.kids) kc, .int .i64 (-1)])) (ho : ∀ g, rv3.ownBlock = some g → T3 g) (hT : ∀ y, T3 y → y < w3.heap.size ∧ ¬ S y) : WPre w3 S t T3 rv3 (⟨ka, kc, u.kids, -1⟩ :: x :: r) := by
  have hok := h.ok x (by simp)
  refine ⟨?_, ho, fun y hy => ?_, h.ok, fun y hy => ?_, ⟨⟨hok.1, u, hu, rfl⟩, h.chain⟩, hT, ?_, fun y hy => Nat.lt_of_lt_of_le (h.sl y hy) hs⟩
  · unfold RowsAt
    rw [List.reverse_cons, List.flatMap_append]
    exact hr
  · rcases List.mem_cons.1 hy with rfl | hy
    · exact ⟨by simp, by simp only; omega⟩
    · have := h.ok y hy; exact ⟨by have := this.1; omega, by have := this.2; omega⟩
  · rcases List.mem_cons.1 hy with rfl | hy
    · exact ⟨hk.kept fun k hk => ⟨hk, hS k hk⟩, hkc⟩
    · exact ⟨(h.lies y hy).1.kept fun k hk => ⟨hk, hS k hk⟩, (h.lies y hy).2⟩
  · have h1 := leftS_push (a := ka) (c := kc) (r := r) hok hu
    have h2 := h.few
    simp only [List.length_cons] at h2 ⊢
    omega
end Go.Proofs.Ytfdcopegkhofnaa
