/-
  A reader of layer 3 reads the nodes below a node, one behind the other. No condition.
-/
import Derived.Test.YtljlijdgocfofaaCNode
namespace Go.Proofs.Ytljlijdgocfofaa
open Go.RowKit
open Extern.Stop (cell)

theorem pList_err {α : Type} {one : Nat → Nat → Got (α × Nat)} {m p k m1 q e : Nat} {l : List α} (h : pList one k m p = .ok ((l, m1), q)) (he : one m1 q = .error e) : ∀ n, k < n → pList one n m p = .error e
  | 0, h0 => by omega
  | n + 1, h0 => by
    by_cases hk : k = n
    · subst hk
      simp only [pList, h, he]
    · simp only [pList, pList_err h he n (by omega)]
theorem foOf_snoc : ∀ (l : List Tr) (t : Tr), foOf (l ++ [t]) = foSnoc (foOf l) 0 0 (t.id, t.kind, t.text) t.kids
  | [], _ => rfl
  | x :: l, t => by simp [foOf, foSnoc, foOf_snoc l t]

/-- Blocks since w, without the row's own. -/
def MidN (w wr : World) (rv : Value) : Nat → Prop := fun x => w.heap.size ≤ x ∧ x < wr.heap.size ∧ rv.ownBlock ≠ some x
def nodeCells (t : Tr) (ka : Option Addr) (cap : Nat) : List Value := [.int .i64 t.id, .int .i64 t.kind, .string t.text, .slice ka (foLen t.kids) cap]
structure LInv (w : World) (nb rb fb b db : Nat) (dv : Value) (s : Rd) (depth : Nat) (rv : Value) (k : Nat) (xs : List Value) (l : List Tr) (mk qk : Nat) (wr : World) : Prop where
  st : NodeSt wr nb rb fb b dv { s with pos := qk } mk
  box : wr.heap[db]? = some (.cells #[.int .i64 (depth : Int)] 3 (0, 0))
  tch : Touched w wr (NbR b nb)
  row : wr.ownsRow w.heap.size 25 4 rv k xs
  fo : FoRow wr (MidN w wr rv) (foOf l) xs
  len : l.length = k
theorem LInv.next {w wr w2 w3 : World} {nb rb fb b db : Nat} {dv : Value} {s : Rd} {depth : Nat} {rv : Value} {k : Nat} {xs : List Value} {l : List Tr} {mk qk m2 q2 gg cap' : Nat} {t : Tr} {ka : Option Addr} {kcap : Nat} {o : Obj} (h : LInv w nb rb fb b db dv s depth rv k xs l mk qk wr) (hl : LowSt w.heap.size nb rb fb b dv) (hdb : db < w.heap.size) (hdn : db ≠ b ∧ db ≠ nb)
    (hcp : foLen t.kids ≤ kcap) (hk : FoAt w2 (Fresh wr w2) t.kids ka) (hst : NodeSt w2 nb rb fb b dv { s with pos := q2 } m2) (ht : Touched wr w2 (NbR b nb))
    (hrow : w3.ownsRow w.heap.size 25 4 (.slice (some ⟨gg, 0, none⟩) (k + 1) cap') (k + 1) (xs ++ nodeCells t ka kcap)) (hg : (w2.alloc o).grownBy w3 rv.ownBlock) (hat : rv.ownBlock = some gg ∨ gg = w2.heap.size + 1) :
    LInv w nb rb fb b db dv s depth (.slice (some ⟨gg, 0, none⟩) (k + 1) cap') (k + 1) (xs ++ nodeCells t ka kcap) (l ++ [t]) m2 q2 w3 := by
  have hrv : ∀ g, rv.ownBlock = some g → w.heap.size ≤ g ∧ g < wr.heap.size := fun g hg => owns_bounds h.row hg
  have hnr : ∀ x, w.heap.size ≤ x → ¬ NbR b nb x := fun x hx e => by
    have h1 := hl.1
    have h2 := hl.2.1
    rcases e with e | e <;> omega
  have hs1 := h.tch.size
  have hs2 := ht.size
  have hs3 := hg.size
  rw [World.size_alloc] at hs3
  have t3 : Touched w2 w3 (fun x => rv.ownBlock = some x) := ((Touched.refl w2 _).alloc o).trans (S' := fun x => rv.ownBlock = some x) ⟨hg.os, hg.tape, hg.output, hg.size, fun x hx hn => hg.block x hx (fun e => hn e.symm)⟩ (fun x hx => Or.inl hx)
  have tch3 : Touched w w3 (NbR b nb) := (h.tch.trans ht (fun x hx => Or.inl hx)).trans t3 (fun x hx => Or.inr (hrv x hx).1)
  refine ⟨hst.keep t3 (fun e => by have := hrv _ e; have := hl.1; omega) (fun g hg' e => by have := hrv _ e; have := hl.2.2.2.2 g hg'; omega) (fun e => by have := hrv _ e; have := hl.2.1; omega) (fun e => by have := hrv _ e; have := hl.2.2.1; omega) (fun e => by have := hrv _ e; have := hl.2.2.2.1; omega), ?_, tch3, hrow, ?_, by simp [h.len]⟩
  · rw [t3.block db (by omega) (fun e => by have := hrv _ e; omega), ht.block db (by omega) (fun e => by rcases e with e | e; exact hdn.1 e; exact hdn.2 e)]
    exact h.box
  · rw [foOf_snoc]
    have f1 : FoRow w3 (MidN w w3 (.slice (some ⟨gg, 0, none⟩) (k + 1) cap')) (foOf l) xs := h.fo.kept fun x hx => by
      have hx3 : rv.ownBlock ≠ some x := hx.2.2
      have hxw := hx.1
      have hxr := hx.2.1
      refine ⟨⟨hx.1, by omega, fun e => ?_⟩, ?_⟩
      · simp only [Value.ownBlock, Option.some.injEq] at e
        rcases hat with h' | h'
        · exact hx3 (by rw [h', e])
        · omega
      · rw [t3.block x (by omega) hx3, ht.block x hxr (hnr x hxw)]
    have f2 : FoAt w3 (MidN w w3 (.slice (some ⟨gg, 0, none⟩) (k + 1) cap')) t.kids ka := hk.kept fun x hx => by
      have hx1 := hx.1
      have hx2 := hx.2
      have hne : rv.ownBlock ≠ some x := fun e => by have := hrv x e; omega
      refine ⟨⟨by omega, by omega, fun e => ?_⟩, t3.block x hx2 hne⟩
      simp only [Value.ownBlock, Option.some.injEq] at e
      rcases hat with h' | h'
      · exact hne (by rw [h', e])
      · omega
    exact f1.snoc f2 kcap hcp

def ListOut (w : World) (nb rb fb b : Nat) (dv : Value) (s : Rd) : Got (List Tr × Nat) → Ending → World → Prop
  | .ok ((l, m), q), e, w' => ∃ a n cap, e = .returned (.slice a n cap) ∧ n = l.length ∧ n ≤ cap ∧ FoAt w' (Fresh w w') (foOf l) a ∧ NodeSt w' nb rb fb b dv { s with pos := q } m ∧ Touched w w' (NbR b nb)
  | .error p, e, w' => e = .panicked fell ∧ RdAt w' b dv { s with pos := p, bad := true } ∧ Touched w w' (NbR b nb)
theorem pNode_le (d : List UInt8) : ∀ (f depth m p : Nat) (t : Tr) (m' q : Nat), pNode d f depth m p = .ok ((t, m'), q) → m' ≤ 200
  | 0, _, _, _, _, _, _, h => by simp [pNode] at h
  | f + 1, depth, m, p, t, m', q, h => by
    unfold pNode at h
    split at h
    · cases h
    · rename_i hc
      have hl : ∀ n mm pp l mm' qq, mm ≤ 200 → pList (fun m' q => pNode d f (depth + 1) m' q) n mm pp = .ok ((l, mm'), qq) → mm' ≤ 200 := by
        intro n
        induction n with
        | zero => intro mm pp l mm' qq h0 h1; simp only [pList] at h1; cases h1; exact h0
        | succ n ih =>
          intro mm pp l mm' qq h0 h1
          simp only [pList] at h1
          cases hp : pList (fun m' q => pNode d f (depth + 1) m' q) n mm pp with
          | error e => rw [hp] at h1; cases h1
          | ok x =>
            obtain ⟨⟨l1, m1⟩, q1⟩ := x
            rw [hp] at h1
            simp only at h1
            cases hq : pNode d f (depth + 1) m1 q1 with
            | error e => rw [hq] at h1; cases h1
            | ok y =>
              obtain ⟨⟨t1, m2⟩, q2⟩ := y
              rw [hq] at h1
              cases h1
              exact pNode_le d f (depth + 1) m1 q1 t1 _ _ hq
      split at h
      · cases h
      · split at h
        · cases h
        · split at h
          · cases h
          · split at h
            · cases h
            · split at h
              · cases h
              · rename_i hll
                cases h
                exact hl _ _ _ _ _ _ (by omega) hll
end Go.Proofs.Ytljlijdgocfofaa
