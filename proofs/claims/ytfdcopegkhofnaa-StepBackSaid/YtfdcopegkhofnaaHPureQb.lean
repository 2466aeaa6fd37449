/-
  A range over the nodes of a tree, where the body only reads the tree: one law. No condition but that there are not too many nodes.
  Count, Depth and told: numbers of a walk. No condition but that there are not too many nodes.
  Paths in trees, plainly: what leads to the first node of an id, what stands there, and the rows of a walk. No condition.
-/
import Derived.Test.YtfdcopegkhofnaaERangeQb
namespace Go.Proofs.Ytfdcopegkhofnaa
open Go.RowKit
set_option linter.unusedVariables false

/-- A node of a walk: how deep, what it bears, what is below it. -/
abbrev Sp := Nat × (Int × Int × ByteArray) × Fo
def spF : Nat → Fo → List Sp
  | _, .nil => []
  | d, .node _ _ k l r => (d, k, l) :: (spF (d + 1) l ++ spF d r)
theorem spF_length : ∀ (d : Nat) (f : Fo), (spF d f).length = foSize f
  | _, .nil => rfl
  | d, .node _ _ k l r => by simp [spF, foSize, spF_length (d + 1) l, spF_length d r]
end Go.Proofs.Ytfdcopegkhofnaa
namespace Go.Proofs.Ytfdcopegkhofnaa
open Go.RowKit Go.Shelf
attribute [local go_sem] Oper.semAt_some
set_option linter.unusedVariables false
/-- A root as a row of its own. -/
def rootF (t : Tr) : Fo := .node 0 0 (t.id, t.kind, t.text) t.kids .nil
theorem rootF_size (t : Tr) : foSize (rootF t) = foSize t.kids + 1 := by simp [rootF, foSize]
theorem root_lies {w W : World} {S : Nat → Prop} {nb cap : Nat} {ka : Option Addr} {t : Tr} (hS : ∀ x, S x → W.heap[x]? = w.heap[x]?) (hc : foLen t.kids ≤ cap) (hk : FoAt w S t.kids ka) (hb : W.heap[nb]? = some (.cells #[.int .i64 t.id, .int .i64 t.kind, .string t.text, .slice ka (foLen t.kids) cap] 24 (0, 0))) : FoAt W (fun x => S x ∨ x = nb) (rootF t) (some ⟨nb, 0, none⟩) :=
  ⟨nb, 0, ka, cap, rfl, Or.inr rfl, by rw [cell_of_row _ _ 0 _ _ _ hb]; rfl, by rw [cell_of_row _ _ 1 _ _ _ hb]; rfl, by rw [cell_of_row _ _ 2 _ _ _ hb]; rfl, by rw [cell_of_row _ _ 3 _ _ _ hb]; rfl, hc, hk.kept fun x hx => ⟨Or.inl hx, hS x hx⟩, True.intro⟩
end Go.Proofs.Ytfdcopegkhofnaa
namespace Go.Proofs.Ytfdcopegkhofnaa
open Go.RowKit
set_option linter.unusedVariables false

/-- The path to the first node of that id in a row, its places told from i on. -/
def fpi (id : Int) : Nat → Fo → Option (List Nat)
  | _, .nil => none
  | i, .node _ _ k l r => if k.1 = id then some [i] else match fpi id 0 l with
    | some p => some (i :: p)
    | none => fpi id (i + 1) r
def pathT (id : Int) (t : Tr) : Option (List Nat) := if t.id = id then some [] else fpi id 0 t.kids
def headT : Fo → Option Tr
  | .nil => none
  | .node _ _ k l _ => some ⟨k.1, k.2.1, k.2.2, l⟩
/-- The j-th node of a row. -/
def kidF (f : Fo) (j : Nat) : Option Tr := headT (foDrop j f)
def atT : Tr → List Nat → Option Tr
  | t, [] => some t
  | t, i :: p => match kidF t.kids i with
    | none => none
    | some u => atT u p

theorem kidF_lt {f : Fo} {j : Nat} (h : j < foLen f) : ∃ b o k l r, foDrop j f = .node b o k l r ∧ kidF f j = some ⟨k.1, k.2.1, k.2.2, l⟩ ∧ foDrop (j + 1) f = r := by
  obtain ⟨b, o, k, l, r, h1, h2, _⟩ := foDrop_node j f h
  exact ⟨b, o, k, l, r, h1, by rw [kidF, h1]; rfl, h2⟩
theorem kidF_ge {f : Fo} {j : Nat} (h : foLen f ≤ j) : kidF f j = none := by rw [kidF, foDrop_nil j f h]; rfl
theorem kidF_some {f : Fo} {j : Nat} {u : Tr} (h : kidF f j = some u) : j < foLen f := by
  rcases Nat.lt_or_ge j (foLen f) with h1 | h1
  · exact h1
  · rw [kidF_ge h1] at h; cases h
theorem fpi_drop {id : Int} {f : Fo} {j : Nat} (h : j < foLen f) : ∀ {u : Tr}, kidF f j = some u → fpi id j (foDrop j f) = if u.id = id then some [j] else match fpi id 0 u.kids with
    | some p => some (j :: p)
    | none => fpi id (j + 1) (foDrop (j + 1) f) := by
  intro u hu
  obtain ⟨b, o, k, l, r, h1, h2, h3⟩ := kidF_lt h
  rw [h2] at hu; cases hu
  rw [h1, h3]; rfl
theorem foDrop_zero (f : Fo) : foDrop 0 f = f := by cases f <;> rfl

/-- A row of nodes in which a walk stands: where it lies, the place. -/
structure Fr where
  a : Option Addr
  cap : Nat
  f : Fo
  p : Int
def Fr.cells (x : Fr) : List Value := [.slice x.a (foLen x.f) x.cap, .int .i64 x.p]
def Fr.nx (x : Fr) : Nat := (x.p + 1).toNat
def places (L : List Fr) : List Nat := L.reverse.map fun x => x.p.toNat
/-- One place on: the last row first. -/
def nextS : List Fr → List Fr
  | [] => []
  | x :: r => if x.p + 1 < (foLen x.f : Int) then ⟨x.a, x.cap, x.f, x.p + 1⟩ :: r else nextS r
/-- Where the first node of that id is among those behind the places. -/
def seekS (id : Int) : List Fr → Option (List Nat)
  | [] => none
  | x :: r => match fpi id x.nx (foDrop x.nx x.f) with
    | some q => some (places r ++ q)
    | none => seekS id r
/-- Likewise, the last row's place too. -/
def curS (id : Int) : List Fr → Option (List Nat)
  | [] => none
  | x :: r => match fpi id x.p.toNat (foDrop x.p.toNat x.f) with
    | some q => some (places r ++ q)
    | none => seekS id r
def leftS : List Fr → Nat
  | [] => 0
  | x :: r => foSize (foDrop x.nx x.f) + leftS r
/-- Each row is that of the kids of the node ahead. -/
def ChainS (root : Fo) : List Fr → Prop
  | [] => True
  | [x] => x.f = root
  | x :: y :: r => (0 ≤ y.p ∧ ∃ u, kidF y.f y.p.toNat = some u ∧ x.f = u.kids) ∧ ChainS root (y :: r)
/-- Its place is one of the row. -/
def Fr.ok (x : Fr) : Prop := 0 ≤ x.p ∧ x.p < (foLen x.f : Int)
theorem ChainS.tail {root : Fo} {x : Fr} {r : List Fr} (h : ChainS root (x :: r)) : ChainS root r := by
  cases r with
  | nil => trivial
  | cons y r => exact h.2
theorem nextS_cur (id : Int) : ∀ L : List Fr, (∀ x ∈ L, -1 ≤ x.p) → curS id (nextS L) = seekS id L
  | [], _ => rfl
  | x :: r, h => by
    have hx := h x (by simp)
    by_cases hl : x.p + 1 < (foLen x.f : Int)
    · rw [nextS, if_pos hl]; rfl
    · rw [nextS, if_neg hl, nextS_cur id r (fun y hy => h y (by simp [hy])), seekS]
      rw [foDrop_nil x.nx x.f (by unfold Fr.nx; omega)]; rfl
theorem nextS_chain {root : Fo} : ∀ L : List Fr, ChainS root L → ChainS root (nextS L)
  | [], _ => trivial
  | x :: r, h => by
    by_cases hl : x.p + 1 < (foLen x.f : Int)
    · rw [nextS, if_pos hl]
      cases r with
      | nil => exact h
      | cons y r => exact h
    · rw [nextS, if_neg hl]; exact nextS_chain r h.tail
theorem nextS_ok : ∀ L : List Fr, (∀ x ∈ L, -1 ≤ x.p) → (∀ x ∈ L.tail, x.ok) → ∀ x ∈ nextS L, x.ok
  | [], _, _, _, h => by cases h
  | x :: r, h1, h2, y, hy => by
    by_cases hl : x.p + 1 < (foLen x.f : Int)
    · rw [nextS, if_pos hl] at hy
      rcases List.mem_cons.1 hy with rfl | hy
      · exact ⟨by have := h1 x (by simp); simp only; omega, hl⟩
      · exact h2 y hy
    · rw [nextS, if_neg hl] at hy
      exact nextS_ok r (fun z hz => h1 z (by simp [hz])) (fun z hz => h2 z (List.mem_of_mem_tail hz)) y hy
theorem nextS_mem (P : Option Addr → Nat → Fo → Prop) : ∀ L : List Fr, (∀ x ∈ L, P x.a x.cap x.f) → ∀ x ∈ nextS L, P x.a x.cap x.f
  | [], _, _, h => by cases h
  | x :: r, h, y, hy => by
    by_cases hl : x.p + 1 < (foLen x.f : Int)
    · rw [nextS, if_pos hl] at hy
      rcases List.mem_cons.1 hy with rfl | hy
      · exact h x (by simp)
      · exact h y (by simp [hy])
    · rw [nextS, if_neg hl] at hy
      exact nextS_mem P r (fun z hz => h z (by simp [hz])) y hy
theorem nextS_length : ∀ L : List Fr, (nextS L).length ≤ L.length
  | [] => Nat.le_refl _
  | x :: r => by
    by_cases hl : x.p + 1 < (foLen x.f : Int)
    · rw [nextS, if_pos hl]; simp
    · rw [nextS, if_neg hl]; have := nextS_length r; simp; omega
theorem foDrop_size {f : Fo} {j : Nat} {u : Tr} (h : kidF f j = some u) : foSize (foDrop j f) = foSize u.kids + foSize (foDrop (j + 1) f) + 1 := by
  obtain ⟨b, o, k, l, r, h1, h2, h3⟩ := kidF_lt (kidF_some h)
  rw [h2] at h; cases h
  rw [h1, h3]; simp [foSize]
/-- So many are left, the last row's place too. -/
def curLeft : List Fr → Nat
  | [] => 0
  | x :: r => foSize (foDrop x.p.toNat x.f) + leftS r
theorem nextS_left : ∀ L : List Fr, (∀ x ∈ L, -1 ≤ x.p) → curLeft (nextS L) ≤ leftS L
  | [], _ => Nat.le_refl _
  | x :: r, h => by
    have hx := h x (by simp)
    by_cases hl : x.p + 1 < (foLen x.f : Int)
    · rw [nextS, if_pos hl]
      simp only [curLeft, leftS, Fr.nx]
      exact Nat.le_refl _
    · rw [nextS, if_neg hl]
      have h1 := nextS_left r (fun z hz => h z (by simp [hz]))
      rw [leftS]; omega
theorem leftS_push {x : Fr} {r : List Fr} {u : Tr} {a : Option Addr} {c : Nat} (hx : x.ok) (hu : kidF x.f x.p.toNat = some u) : leftS (⟨a, c, u.kids, -1⟩ :: x :: r) + 1 = curLeft (x :: r) := by
  have h1 := foDrop_size hu
  have h2 : x.nx = x.p.toNat + 1 := by unfold Fr.nx; have := hx.1; omega
  have h3 : (Fr.mk a c u.kids (-1)).nx = 0 := by unfold Fr.nx; simp
  simp only [curLeft, leftS, h2, h3, foDrop_zero]; omega
theorem cur_here {id : Int} {x : Fr} {r : List Fr} {u : Tr} (hx : x.ok) (hu : kidF x.f x.p.toNat = some u) (hid : u.id = id) : curS id (x :: r) = some (places (x :: r)) := by
  rw [curS, fpi_drop (kidF_some hu) hu, if_pos hid]
  simp [places]
theorem cur_on {id : Int} {x : Fr} {r : List Fr} {u : Tr} {a : Option Addr} {c : Nat} (hx : x.ok) (hu : kidF x.f x.p.toNat = some u) (hid : ¬ u.id = id) : curS id (x :: r) = seekS id (⟨a, c, u.kids, -1⟩ :: x :: r) := by
  rw [curS, fpi_drop (kidF_some hu) hu, if_neg hid]
  have h2 : x.nx = x.p.toNat + 1 := by unfold Fr.nx; have := hx.1; omega
  have h3 : (Fr.mk a c u.kids (-1)).nx = 0 := by unfold Fr.nx; simp
  simp only [seekS, h2, h3, foDrop_zero]
  cases h : fpi id 0 u.kids with
  | none => rfl
  | some p => simp [places]
/-- The rows' nodes are those of the path. -/
theorem chain_at {t : Tr} {b o : Nat} : ∀ (L : List Fr), ChainS (.node b o (t.id, t.kind, t.text) t.kids .nil) L → (∀ x ∈ L, x.ok) → ∀ x r, L = x :: r → ∃ p u, places L = 0 :: p ∧ atT t p = some u ∧ kidF x.f x.p.toNat = some u
  | [x], h, hok, _, _, rfl => by
    simp only [ChainS] at h
    have h1 := hok x (by simp)
    rw [Fr.ok, h] at h1
    simp only [foLen] at h1
    have h2 : x.p = 0 := by omega
    exact ⟨[], t, by simp [places, h2], rfl, by rw [h, h2]; rfl⟩
  | x :: y :: r, h, hok, _, _, rfl => by
    obtain ⟨p, u, h1, h2, h3⟩ := chain_at (y :: r) h.2 (fun z hz => hok z (by simp [hz])) y r rfl
    obtain ⟨v, h4, h5⟩ := h.1.2
    rw [h3] at h4; cases h4
    have h6 := hok x (by simp)
    obtain ⟨b', o', k, l, q, h7, h8, _⟩ := kidF_lt (f := x.f) (j := x.p.toNat) (by have := h6.1; have := h6.2; omega)
    refine ⟨p ++ [x.p.toNat], _, ?_, ?_, h8⟩
    · rw [places, List.reverse_cons, List.map_append]
      have h9 := h1
      rw [places] at h9
      rw [h9]; rfl
    · have e : ∀ (p : List Nat) (t : Tr) (u : Tr) (j : Nat), atT t p = some u → atT t (p ++ [j]) = kidF u.kids j := by
        intro p
        induction p with
        | nil => intro t u j h; cases h; simp [atT]; cases kidF t.kids j <;> rfl
        | cons i p ih =>
          intro t u j h
          simp only [List.cons_append, atT] at h ⊢
          cases hk : kidF t.kids i with
          | none => rw [hk] at h; cases h
          | some v => rw [hk] at h; simp only at h ⊢; exact ih v u j h
      rw [e p t u _ h2, ← h5]; exact h8
end Go.Proofs.Ytfdcopegkhofnaa
