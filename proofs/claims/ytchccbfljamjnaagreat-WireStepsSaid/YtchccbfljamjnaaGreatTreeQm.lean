/-
  .
-/
import Derived.Test.YtchccbfljamjnaaGreatRows
import Derived.WalkKit
import Derived.WalkSpells
import Derived.WalkLawsBesides
import Derived.Deep.Trees
import Derived.Deep.AppendLies
import Derived.Lib.Hide
set_option maxRecDepth 100000
set_option maxHeartbeats 40000000
namespace Go.Proofs.YtchccbfljamjnaaGreat
open Go.RowKit
abbrev Fo := Deep.BT (Int × Int × ByteArray)
def foLen : Fo → Nat
 | .nil => 0
 | .node _ _ _ _ r => foLen r + 1
def zb : Fo → Nat
 | .nil => 0
 | .node _ _ _ l r => zb l + zb r + 1
def zn : Nat → Fo → Fo
 | 0, f => f
 | _ + 1, .nil => .nil
 | k + 1, .node _ _ _ _ r => zn k r
def yY : Fo → Nat → Nat → (Int × Int × ByteArray) → Fo → Fo
 | .nil, b, o, a, l => .node b o a l .nil
 | .node b' o' a' l' r, b, o, a, l => .node b' o' a' l' (yY r b o a l)
def zJ : Nat → Fo → Fo
 | 0, _ => .nil
 | _ + 1, .nil => .nil
 | k + 1, .node b o a l r => .node b o a l (zJ k r)
def j6 (a b : Int × Int × ByteArray) : Bool := decide (a.1 = b.1 ∧ a.2.1 = b.2.1 ∧ a.2.2.toList = b.2.2.toList)
def yR : Fo → Fo → Bool
 | .nil, .nil => true
 | .node _ _ a l r, .node _ _ a' l' r' => j6 a a' && (decide (foLen l = foLen l') && yR l l') && yR r r'
 | _, _ => false
structure Tr where
 id : Int
 kind : Int
 text : ByteArray
 kids : Fo
instance : Inhabited Tr := ⟨⟨0, 0, ⟨#[]⟩, .nil⟩⟩
def yF (t u : Tr) : Bool := j6 (t.id, t.kind, t.text) (u.id, u.kind, u.text) && (decide (foLen t.kids = foLen u.kids) && yR t.kids u.kids)
theorem vz : ∀ f : Fo, yR f f = true
 | .nil => rfl
 | .node _ _ a l r => by simp [yR, j6, vz l, vz r]
theorem YX (t : Tr) : yF t t = true := by simp [yF, j6, vz]
theorem yl : ∀ (k : Nat) (f : Fo), foLen f ≤ k → zn k f = .nil
 | 0, .nil, _ => rfl
 | 0, .node _ _ _ _ _, h => by simp [foLen] at h
 | _ + 1, .nil, _ => rfl
 | k + 1, .node _ _ _ _ r, h => yl k r (by simp [foLen] at h; omega)
theorem zR : ∀ (k : Nat) (f : Fo), k < foLen f → ∃ b o a l r, zn k f = .node b o a l r ∧ zn (k + 1) f = r ∧ zb l < zb f ∧ zJ (k + 1) f = yY (zJ k f) b o a l
 | _, .nil, h => by simp [foLen] at h
 | 0, .node b o a l r, _ => ⟨b, o, a, l, r, rfl, by simp [zn], by simp [zb]; omega, by simp [zJ, yY]⟩
 | k + 1, .node b0 o0 a0 l0 r0, h => by
   obtain ⟨b, o, a, l, r, h1, h2, h3, h4⟩ := zR k r0 (by simp [foLen] at h; omega)
   exact ⟨b, o, a, l, r, h1, h2, by simp [zb]; omega, by rw [zJ, h4]; simp [zJ, yY]⟩
theorem YJ : ∀ (f : Fo) (b o : Nat) (a : Int × Int × ByteArray) (l : Fo), foLen (yY f b o a l) = foLen f + 1
 | .nil, _, _, _, _ => rfl
 | .node _ _ _ _ r, b, o, a, l => by simp [yY, foLen, YJ r b o a l]
theorem qx : ∀ (k : Nat) (f : Fo), foLen f ≤ k → zJ k f = f
 | 0, .nil, _ => rfl
 | 0, .node _ _ _ _ _, h => by simp [foLen] at h
 | _ + 1, .nil, _ => rfl
 | k + 1, .node _ _ _ _ r, h => by rw [zJ, qx k r (by simp [foLen] at h; omega)]
theorem jf : ∀ (f : Fo) (b o : Nat) (a : Int × Int × ByteArray) (l : Fo), zb (yY f b o a l) = zb f + zb l + 1
 | .nil, _, _, _, _ => by simp [yY, zb]
 | .node _ _ _ _ r, b, o, a, l => by simp [yY, zb, jf r b o a l]; omega
def qf : Fo → Prop
 | .nil => True
 | .node _ _ _ l r => foLen l ≤ 9223372036854775807 ∧ qf l ∧ qf r
theorem vk : ∀ (k : Nat) {f : Fo} {b o : Nat} {a : Int × Int × ByteArray} {l r : Fo}, qf f → zn k f = .node b o a l r → foLen l ≤ 9223372036854775807 ∧ qf l
 | 0, .node _ _ _ _ _, _, _, _, _, _, h, e => by simp only [zn] at e; cases e; exact ⟨h.1, h.2.1⟩
 | k + 1, .node _ _ _ _ _, _, _, _, _, _, h, e => vk k h.2.2 e
theorem yN : ∀ f : Fo, foLen f ≤ zb f
 | .nil => Nat.le_refl _
 | .node _ _ _ _ r => by have := yN r; simp [foLen, zb]; omega
def zi (w : World) (S : Nat → Prop) : Fo → Option Addr → Prop
 | .nil, _ => True
 | .node _ _ k l r, a => ∃ b off ka cap, a = some ⟨b, off, none⟩ ∧ S b ∧ w.cell? ⟨b, off, none⟩ = some (.int .i64 k.1) ∧ w.cell? ⟨b, off + 1, none⟩ = some (.int .i64 k.2.1) ∧
    w.cell? ⟨b, off + 2, none⟩ = some (.string k.2.2) ∧ w.cell? ⟨b, off + 3, none⟩ = some (.slice ka (foLen l) cap) ∧ foLen l ≤ cap ∧ zi w S l ka ∧ zi w S r (some ⟨b, off + 4, none⟩)
def qj (w : World) (S : Nat → Prop) (v : Value) (t : Tr) : Prop :=
 ∃ ka cap, v = .agg #[.int .i64 t.id, .int .i64 t.kind, .string t.text, .slice ka (foLen t.kids) cap] ∧ foLen t.kids ≤ cap ∧ zi w S t.kids ka
theorem zi.kept {w w' : World} {S S' : Nat → Prop} (hS : ∀ k, S k → S' k ∧ w'.heap[k]? = w.heap[k]?) : ∀ {f : Fo} {a : Option Addr}, zi w S f a → zi w' S' f a
 | .nil, _, _ => True.intro
 | .node _ _ k l r, a, h => by
   obtain ⟨b, off, ka, cap, e, hb, h0, h1, h2, h3, hc, hl, hr⟩ := h
   have hh := (hS b hb).2
   exact ⟨b, off, ka, cap, e, (hS b hb).1, (World.cell?_of_block hh).trans h0, (World.cell?_of_block hh).trans h1, (World.cell?_of_block hh).trans h2, (World.cell?_of_block hh).trans h3, hc, hl.kept hS, hr.kept hS⟩
theorem qj.kept {w w' : World} {S S' : Nat → Prop} {v : Value} {t : Tr} (h : qj w S v t) (hS : ∀ k, S k → S' k ∧ w'.heap[k]? = w.heap[k]?) : qj w' S' v t := by
 obtain ⟨ka, cap, e, hc, hk⟩ := h
 exact ⟨ka, cap, e, hc, hk.kept hS⟩
theorem zi.below {w w' : World} {S : Nat → Prop} {B : Nat} {f : Fo} {a : Option Addr} (h : zi w S f a) (hb : Below B w w') (hS : ∀ k, S k → k < B) : zi w' S f a := h.kept fun k hk => ⟨hk, hb.block k (hS k hk)⟩
theorem zi.at {w : World} {S : Nat → Prop} : ∀ {f : Fo} {a : Option Addr} (k : Nat), zi w S f a → k < foLen f →
 ∃ b0 o0 key l r, zn k f = .node b0 o0 key l r ∧ ∃ b off ka cap, a = some ⟨b, off, none⟩ ∧ S b ∧ w.cell? ⟨b, off + k * 4, none⟩ = some (.int .i64 key.1) ∧ w.cell? ⟨b, off + k * 4 + 1, none⟩ = some (.int .i64 key.2.1) ∧
  w.cell? ⟨b, off + k * 4 + 2, none⟩ = some (.string key.2.2) ∧ w.cell? ⟨b, off + k * 4 + 3, none⟩ = some (.slice ka (foLen l) cap) ∧ foLen l ≤ cap ∧ zi w S l ka
 | .nil, _, _, _, h => by simp [foLen] at h
 | .node b0 o0 key l r, _, 0, h, _ => by
   obtain ⟨b, off, ka, cap, e, hb, h0, h1, h2, h3, hc, hl, _⟩ := h
   exact ⟨b0, o0, key, l, r, rfl, b, off, ka, cap, e, hb, by simpa using h0, by simpa using h1, by simpa using h2, by simpa using h3, hc, hl⟩
 | .node _ _ _ _ r, _, k + 1, h, hk => by
   obtain ⟨b, off, _, _, e, hb, _, _, _, _, _, _, hr⟩ := h
   obtain ⟨b0, o0, key, l, r', hd, b', off', ka, cap, e', hb', h0, h1, h2, h3, hc, hl⟩ := hr.at k (by simp [foLen] at hk; omega)
   cases e'
   have hs : off + 4 + k * 4 = off + (k + 1) * 4 := by omega
   rw [hs] at h0 h1 h2 h3
   exact ⟨b0, o0, key, l, r', hd, b, off, ka, cap, e, hb, h0, h1, h2, h3, hc, hl⟩
theorem lt_of_some {w : World} {k : Nat} {o : Obj} (h : w.heap[k]? = some o) : k < w.heap.size := (Array.getElem?_eq_some_iff.1 h).1
theorem zw {w w' : World} {B : Nat} {e : TypeId} {size : Nat} {v : Value} {n : Nat} {xs : List Value} (h : w.ownsRow B e size v n xs) (hk : ∀ g cur, w.heap[g]? = some (.cells cur e (0, 0)) → v.ownBlock = some g → w'.heap[g]? = w.heap[g]?) : w'.ownsRow B e size v n xs := by
 obtain ⟨h1, h2⟩ := h
 refine ⟨h1, ?_⟩
 rcases h2 with h2 | ⟨g, cap, cur, hv, hg, hh, r⟩
 · exact Or.inl h2
 · exact Or.inr ⟨g, cap, cur, hv, hg, (hk g cur hh (by rw [hv]; rfl)).trans hh, r⟩
theorem zA {w : World} {B : Nat} {e : TypeId} {size : Nat} {v : Value} {n : Nat} {xs : List Value} (h : w.ownsRow B e size v n xs) {g : Nat} (hg : v.ownBlock = some g) : B ≤ g ∧ g < w.heap.size := by
 rcases h.2 with ⟨hv, _⟩ | ⟨g', cap, cur, hv, hB, hh, _⟩
 · rw [hv] at hg; cases hg
 · rw [hv] at hg; cases hg; exact ⟨hB, lt_of_some hh⟩
theorem zO {w : World} {B : Nat} {e : TypeId} {size : Nat} {v : Value} {n : Nat} {xs : List Value} (h : w.ownsRow B e size v n xs) : ∃ a cap, v = .slice a n cap := by
 rcases h.2 with ⟨hv, h0⟩ | ⟨g', cap, cur, hv, _⟩
 · exact ⟨none, 0, by rw [hv, h0]⟩
 · exact ⟨_, _, hv⟩
theorem zK {w : World} {B : Nat} {e : TypeId} {size : Nat} {v : Value} {n : Nat} {xs : List Value} (h : w.ownsRow B e size v n xs) {g : Nat} (hg : v.ownBlock = some g) (j : Nat) (u : Value) (hj : xs[j]? = some u) : w.cell? ⟨g, j, none⟩ = some u := by
 rcases h.2 with ⟨hv, _⟩ | ⟨g', cap, cur, hv, hB, hh, _, _, _, ht⟩
 · rw [hv] at hg; cases hg
 · rw [hv] at hg; cases hg
   rw [cell_of_row w g' j _ _ _ hh]
   rw [← ht, List.getElem?_take] at hj
   split at hj
   · simpa using hj
   · cases hj
def yG (w : World) (S : Nat → Prop) : Fo → List Value → Prop
 | .nil, xs => xs = []
 | .node _ _ k l r, xs => ∃ ka cap ys, xs = [.int .i64 k.1, .int .i64 k.2.1, .string k.2.2, .slice ka (foLen l) cap] ++ ys ∧ foLen l ≤ cap ∧ zi w S l ka ∧ yG w S r ys
theorem yG.kept {w w' : World} {S S' : Nat → Prop} (hS : ∀ k, S k → S' k ∧ w'.heap[k]? = w.heap[k]?) : ∀ {f : Fo} {xs : List Value}, yG w S f xs → yG w' S' f xs
 | .nil, _, h => h
 | .node _ _ k l r, xs, h => by
   obtain ⟨ka, cap, ys, e, hc, hl, hr⟩ := h
   exact ⟨ka, cap, ys, e, hc, hl.kept hS, hr.kept hS⟩
theorem yG.snoc {w : World} {S : Nat → Prop} {b o : Nat} {k : Int × Int × ByteArray} {l : Fo} {ka : Option Addr} (hl : zi w S l ka) (cap : Nat) (hc : foLen l ≤ cap) : ∀ {f : Fo} {xs : List Value}, yG w S f xs →
 yG w S (yY f b o k l) (xs ++ [.int .i64 k.1, .int .i64 k.2.1, .string k.2.2, .slice ka (foLen l) cap])
 | .nil, xs, h => by subst h; exact ⟨ka, cap, [], by simp, hc, hl, rfl⟩
 | .node _ _ _ _ _, xs, h => by
   obtain ⟨ka', cap', ys, e, hc', hl', hr⟩ := h
   exact ⟨ka', cap', _, by rw [e, List.append_assoc], hc', hl', yG.snoc hl cap hc hr⟩
theorem yG.lies {w : World} {S : Nat → Prop} {g : Nat} (hg : S g) : ∀ {f : Fo} {xs : List Value} (off : Nat), yG w S f xs → (∀ j u, xs[j]? = some u → w.cell? ⟨g, off + j, none⟩ = some u) → zi w S f (some ⟨g, off, none⟩)
 | .nil, _, _, _, _ => True.intro
 | .node _ _ k l r, xs, off, h, hc => by
   obtain ⟨ka, cap, ys, e, hcp, hl, hr⟩ := h
   subst e
   refine ⟨g, off, ka, cap, rfl, hg, hc 0 _ rfl, hc 1 _ rfl, hc 2 _ rfl, hc 3 _ rfl, hcp, hl, yG.lies hg (off + 4) hr fun j u hu => ?_⟩
   have := hc (j + 4) u (by rw [List.getElem?_append_right (by simp)]; simpa using hu)
   rw [show off + 4 + j = off + (j + 4) by omega]; exact this
end Go.Proofs.YtchccbfljamjnaaGreat
