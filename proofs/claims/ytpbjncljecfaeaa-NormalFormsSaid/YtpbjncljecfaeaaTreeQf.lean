/-
  Trees of nodes in memory: plain definitions and their small laws. No condition.
-/
import Derived.Test.YtpbjncljecfaeaaRows
import Derived.WalkKit
import Derived.WalkSpells
import Derived.WalkLawsBesides
import Derived.Deep.Trees
import Derived.Deep.AppendLies
import Derived.Lib.Hide
namespace Go.Proofs.Ytpbjncljecfaeaa
open Go.RowKit

/-- A row of nodes, each with its id, kind and text: on the left its kids, on the right those behind it. -/
abbrev Fo := Deep.BT (Int × Int × ByteArray)
def foLen : Fo → Nat
  | .nil => 0
  | .node _ _ _ _ r => foLen r + 1
def foSize : Fo → Nat
  | .nil => 0
  | .node _ _ _ l r => foSize l + foSize r + 1
def foDrop : Nat → Fo → Fo
  | 0, f => f
  | _ + 1, .nil => .nil
  | k + 1, .node _ _ _ _ r => foDrop k r
def foSnoc : Fo → Nat → Nat → (Int × Int × ByteArray) → Fo → Fo
  | .nil, b, o, a, l => .node b o a l .nil
  | .node b' o' a' l' r, b, o, a, l => .node b' o' a' l' (foSnoc r b o a l)
def foTake : Nat → Fo → Fo
  | 0, _ => .nil
  | _ + 1, .nil => .nil
  | k + 1, .node b o a l r => .node b o a l (foTake k r)
def sameK (a b : Int × Int × ByteArray) : Bool := decide (a.1 = b.1 ∧ a.2.1 = b.2.1 ∧ a.2.2.toList = b.2.2.toList)
/-- The same nodes? -/
def sameF : Fo → Fo → Bool
  | .nil, .nil => true
  | .node _ _ a l r, .node _ _ a' l' r' => sameK a a' && (decide (foLen l = foLen l') && sameF l l') && sameF r r'
  | _, _ => false

/-- A tree: its root, and its kids. -/
structure Tr where
  id : Int
  kind : Int
  text : ByteArray
  kids : Fo
instance : Inhabited Tr := ⟨⟨0, 0, ⟨#[]⟩, .nil⟩⟩
def sameT (t u : Tr) : Bool := sameK (t.id, t.kind, t.text) (u.id, u.kind, u.text) && (decide (foLen t.kids = foLen u.kids) && sameF t.kids u.kids)
theorem sameF_refl : ∀ f : Fo, sameF f f = true
  | .nil => rfl
  | .node _ _ a l r => by simp [sameF, sameK, sameF_refl l, sameF_refl r]
theorem sameT_refl (t : Tr) : sameT t t = true := by simp [sameT, sameK, sameF_refl]

theorem foDrop_nil : ∀ (k : Nat) (f : Fo), foLen f ≤ k → foDrop k f = .nil
  | 0, .nil, _ => rfl
  | 0, .node _ _ _ _ _, h => by simp [foLen] at h
  | _ + 1, .nil, _ => rfl
  | k + 1, .node _ _ _ _ r, h => foDrop_nil k r (by simp [foLen] at h; omega)
theorem foDrop_node : ∀ (k : Nat) (f : Fo), k < foLen f → ∃ b o a l r, foDrop k f = .node b o a l r ∧ foDrop (k + 1) f = r ∧ foSize l < foSize f ∧ foTake (k + 1) f = foSnoc (foTake k f) b o a l
  | _, .nil, h => by simp [foLen] at h
  | 0, .node b o a l r, _ => ⟨b, o, a, l, r, rfl, by simp [foDrop], by simp [foSize]; omega, by simp [foTake, foSnoc]⟩
  | k + 1, .node b0 o0 a0 l0 r0, h => by
    obtain ⟨b, o, a, l, r, h1, h2, h3, h4⟩ := foDrop_node k r0 (by simp [foLen] at h; omega)
    exact ⟨b, o, a, l, r, h1, h2, by simp [foSize]; omega, by rw [foTake, h4]; simp [foTake, foSnoc]⟩
theorem foTake_all : ∀ (k : Nat) (f : Fo), foLen f ≤ k → foTake k f = f
  | 0, .nil, _ => rfl
  | 0, .node _ _ _ _ _, h => by simp [foLen] at h
  | _ + 1, .nil, _ => rfl
  | k + 1, .node _ _ _ _ r, h => by rw [foTake, foTake_all k r (by simp [foLen] at h; omega)]
/-- No row of kids is longer than a slice may be. -/
def foFit : Fo → Prop
  | .nil => True
  | .node _ _ _ l r => foLen l ≤ 9223372036854775807 ∧ foFit l ∧ foFit r
theorem foFit_drop : ∀ (k : Nat) {f : Fo} {b o : Nat} {a : Int × Int × ByteArray} {l r : Fo}, foFit f → foDrop k f = .node b o a l r → foLen l ≤ 9223372036854775807 ∧ foFit l
  | 0, .node _ _ _ _ _, _, _, _, _, _, h, e => by simp only [foDrop] at e; cases e; exact ⟨h.1, h.2.1⟩
  | k + 1, .node _ _ _ _ _, _, _, _, _, _, h, e => foFit_drop k h.2.2 e
theorem foLen_le : ∀ f : Fo, foLen f ≤ foSize f
  | .nil => Nat.le_refl _
  | .node _ _ _ _ r => by have := foLen_le r; simp [foLen, foSize]; omega

/-- The nodes lie in a row from address a on, all in blocks of S. -/
def FoAt (w : World) (S : Nat → Prop) : Fo → Option Addr → Prop
  | .nil, _ => True
  | .node _ _ k l r, a => ∃ b off ka cap, a = some ⟨b, off, none⟩ ∧ S b ∧ w.cell? ⟨b, off, none⟩ = some (.int .i64 k.1) ∧ w.cell? ⟨b, off + 1, none⟩ = some (.int .i64 k.2.1) ∧
      w.cell? ⟨b, off + 2, none⟩ = some (.string k.2.2) ∧ w.cell? ⟨b, off + 3, none⟩ = some (.slice ka (foLen l) cap) ∧ foLen l ≤ cap ∧ FoAt w S l ka ∧ FoAt w S r (some ⟨b, off + 4, none⟩)
def TrAt (w : World) (S : Nat → Prop) (v : Value) (t : Tr) : Prop :=
  ∃ ka cap, v = .agg #[.int .i64 t.id, .int .i64 t.kind, .string t.text, .slice ka (foLen t.kids) cap] ∧ foLen t.kids ≤ cap ∧ FoAt w S t.kids ka

theorem FoAt.kept {w w' : World} {S S' : Nat → Prop} (hS : ∀ k, S k → S' k ∧ w'.heap[k]? = w.heap[k]?) : ∀ {f : Fo} {a : Option Addr}, FoAt w S f a → FoAt w' S' f a
  | .nil, _, _ => True.intro
  | .node _ _ k l r, a, h => by
    obtain ⟨b, off, ka, cap, e, hb, h0, h1, h2, h3, hc, hl, hr⟩ := h
    have hh := (hS b hb).2
    exact ⟨b, off, ka, cap, e, (hS b hb).1, (World.cell?_of_block hh).trans h0, (World.cell?_of_block hh).trans h1, (World.cell?_of_block hh).trans h2, (World.cell?_of_block hh).trans h3, hc, hl.kept hS, hr.kept hS⟩
theorem FoAt.below {w w' : World} {S : Nat → Prop} {B : Nat} {f : Fo} {a : Option Addr} (h : FoAt w S f a) (hb : Below B w w') (hS : ∀ k, S k → k < B) : FoAt w' S f a := h.kept fun k hk => ⟨hk, hb.block k (hS k hk)⟩
/-- The k-th node of a row. -/
theorem FoAt.at {w : World} {S : Nat → Prop} : ∀ {f : Fo} {a : Option Addr} (k : Nat), FoAt w S f a → k < foLen f →
    ∃ b0 o0 key l r, foDrop k f = .node b0 o0 key l r ∧ ∃ b off ka cap, a = some ⟨b, off, none⟩ ∧ S b ∧ w.cell? ⟨b, off + k * 4, none⟩ = some (.int .i64 key.1) ∧ w.cell? ⟨b, off + k * 4 + 1, none⟩ = some (.int .i64 key.2.1) ∧
      w.cell? ⟨b, off + k * 4 + 2, none⟩ = some (.string key.2.2) ∧ w.cell? ⟨b, off + k * 4 + 3, none⟩ = some (.slice ka (foLen l) cap) ∧ foLen l ≤ cap ∧ FoAt w S l ka
  | .nil, _, _, _, h => by simp [foLen] at h
  | .node b0 o0 key l r, _, 0, h, _ => by
    obtain ⟨b, off, ka, cap, e, hb, h0, h1, h2, h3, hc, hl, _⟩ := h
    exact ⟨b0, o0, key, l, r, rfl, b, off, ka, cap, e, hb, by simpa using h0, by simpa using h1, by simpa using h2, by simpa using h3, hc, hl⟩
  | .node _ _ _ _ r, _, k + 1, h, hk => by
    obtain ⟨b, off, _, _, e, hb, _, _, _, _, _, _, hr⟩ := h
    obtain ⟨b0, o0, key, l, r', hd, b', off', ka, cap, e', hb', h0, h1, h2, h3, hc, hl⟩ := hr.at k (by simp [foLen] at hk; omega)
    cases e'
    have hs : off + 4 + k * 4 = off + (k + 1) * 4 := by omega
    rw [hs] at h0 h1 h2 h3
    exact ⟨b0, o0, key, l, r', hd, b, off, ka, cap, e, hb, h0, h1, h2, h3, hc, hl⟩

theorem lt_of_some {w : World} {k : Nat} {o : Obj} (h : w.heap[k]? = some o) : k < w.heap.size := (Array.getElem?_eq_some_iff.1 h).1
theorem owns_kept {w w' : World} {B : Nat} {e : TypeId} {size : Nat} {v : Value} {n : Nat} {xs : List Value} (h : w.ownsRow B e size v n xs) (hk : ∀ g cur, w.heap[g]? = some (.cells cur e (0, 0)) → v.ownBlock = some g → w'.heap[g]? = w.heap[g]?) : w'.ownsRow B e size v n xs := by
  obtain ⟨h1, h2⟩ := h
  refine ⟨h1, ?_⟩
  rcases h2 with h2 | ⟨g, cap, cur, hv, hg, hh, r⟩
  · exact Or.inl h2
  · exact Or.inr ⟨g, cap, cur, hv, hg, (hk g cur hh (by rw [hv]; rfl)).trans hh, r⟩
theorem owns_bounds {w : World} {B : Nat} {e : TypeId} {size : Nat} {v : Value} {n : Nat} {xs : List Value} (h : w.ownsRow B e size v n xs) {g : Nat} (hg : v.ownBlock = some g) : B ≤ g ∧ g < w.heap.size := by
  rcases h.2 with ⟨hv, _⟩ | ⟨g', cap, cur, hv, hB, hh, _⟩
  · rw [hv] at hg; cases hg
  · rw [hv] at hg; cases hg; exact ⟨hB, lt_of_some hh⟩
theorem owns_slice {w : World} {B : Nat} {e : TypeId} {size : Nat} {v : Value} {n : Nat} {xs : List Value} (h : w.ownsRow B e size v n xs) : ∃ a cap, v = .slice a n cap := by
  rcases h.2 with ⟨hv, h0⟩ | ⟨g', cap, cur, hv, _⟩
  · exact ⟨none, 0, by rw [hv, h0]⟩
  · exact ⟨_, _, hv⟩
/-- The cells of an owned row. -/
theorem owns_cell {w : World} {B : Nat} {e : TypeId} {size : Nat} {v : Value} {n : Nat} {xs : List Value} (h : w.ownsRow B e size v n xs) {g : Nat} (hg : v.ownBlock = some g) (j : Nat) (u : Value) (hj : xs[j]? = some u) : w.cell? ⟨g, j, none⟩ = some u := by
  rcases h.2 with ⟨hv, _⟩ | ⟨g', cap, cur, hv, hB, hh, _, _, _, ht⟩
  · rw [hv] at hg; cases hg
  · rw [hv] at hg; cases hg
    rw [cell_of_row w g' j _ _ _ hh]
    rw [← ht, List.getElem?_take] at hj
    split at hj
    · simpa using hj
    · cases hj

/-- The cells of a row of nodes. -/
def FoRow (w : World) (S : Nat → Prop) : Fo → List Value → Prop
  | .nil, xs => xs = []
  | .node _ _ k l r, xs => ∃ ka cap ys, xs = [.int .i64 k.1, .int .i64 k.2.1, .string k.2.2, .slice ka (foLen l) cap] ++ ys ∧ foLen l ≤ cap ∧ FoAt w S l ka ∧ FoRow w S r ys
theorem FoRow.kept {w w' : World} {S S' : Nat → Prop} (hS : ∀ k, S k → S' k ∧ w'.heap[k]? = w.heap[k]?) : ∀ {f : Fo} {xs : List Value}, FoRow w S f xs → FoRow w' S' f xs
  | .nil, _, h => h
  | .node _ _ k l r, xs, h => by
    obtain ⟨ka, cap, ys, e, hc, hl, hr⟩ := h
    exact ⟨ka, cap, ys, e, hc, hl.kept hS, hr.kept hS⟩
theorem FoRow.snoc {w : World} {S : Nat → Prop} {b o : Nat} {k : Int × Int × ByteArray} {l : Fo} {ka : Option Addr} (hl : FoAt w S l ka) (cap : Nat) (hc : foLen l ≤ cap) : ∀ {f : Fo} {xs : List Value}, FoRow w S f xs →
    FoRow w S (foSnoc f b o k l) (xs ++ [.int .i64 k.1, .int .i64 k.2.1, .string k.2.2, .slice ka (foLen l) cap])
  | .nil, xs, h => by subst h; exact ⟨ka, cap, [], by simp, hc, hl, rfl⟩
  | .node _ _ _ _ _, xs, h => by
    obtain ⟨ka', cap', ys, e, hc', hl', hr⟩ := h
    exact ⟨ka', cap', _, by rw [e, List.append_assoc], hc', hl', FoRow.snoc hl cap hc hr⟩
theorem FoRow.lies {w : World} {S : Nat → Prop} {g : Nat} (hg : S g) : ∀ {f : Fo} {xs : List Value} (off : Nat), FoRow w S f xs → (∀ j u, xs[j]? = some u → w.cell? ⟨g, off + j, none⟩ = some u) → FoAt w S f (some ⟨g, off, none⟩)
  | .nil, _, _, _, _ => True.intro
  | .node _ _ k l r, xs, off, h, hc => by
    obtain ⟨ka, cap, ys, e, hcp, hl, hr⟩ := h
    subst e
    refine ⟨g, off, ka, cap, rfl, hg, hc 0 _ rfl, hc 1 _ rfl, hc 2 _ rfl, hc 3 _ rfl, hcp, hl, FoRow.lies hg (off + 4) hr fun j u hu => ?_⟩
    have := hc (j + 4) u (by rw [List.getElem?_append_right (by simp)]; simpa using hu)
    rw [show off + 4 + j = off + (j + 4) by omega]; exact this

end Go.Proofs.Ytpbjncljecfaeaa
