/-
  .
-/
import Derived.Test.YtchccbfljamjnaaGreatRows
import Derived.WalkKit
import Derived.WalkSpells
import Derived.WalkLawsBesides
import Derived.Deep.Trees
import Derived.Deep.AppendLies
import Derived.Lib.Hide
import Derived.RangeFuncNested
import Derived.RangeFuncBound
import Derived.RangeFuncCalls
import Derived.RangeFuncLeaves
import Derived.RangeFuncWrites
import Derived.Shelf.Abstract
import Derived.Shelf.RegionOpen
import Derived.OwnWalkIn
import Derived.TacticsInMore
import Derived.LoopNIn
import Derived.LoopIn
import Derived.OrdersIn
import Derived.Deep.RegionHeld
import Derived.Test.YtchccbfljamjnaaGreatWAskQn
import Derived.Deep.RegionLaw
import Derived.Laws.OwnMore
import Derived.IntWalk
import Derived.Test.YtchccbfljamjnaaGreatJPgQn
set_option maxRecDepth 100000
set_option maxHeartbeats 40000000
set_option linter.unusedVariables false
namespace Go.Proofs.YtchccbfljamjnaaGreat
open Go.RowKit
abbrev Fo := Deep.BT (Int × Int × ByteArray)
def foLen : Fo → Nat
 | .nil => 0
 | .node _ _ _ _ r => foLen r + 1
def ze : Fo → Nat
 | .nil => 0
 | .node _ _ _ l r => ze l + ze r + 1
def zH : Nat → Fo → Fo
 | 0, f => f
 | _ + 1, .nil => .nil
 | k + 1, .node _ _ _ _ r => zH k r
def qG : Fo → Nat → Nat → (Int × Int × ByteArray) → Fo → Fo
 | .nil, b, o, a, l => .node b o a l .nil
 | .node b' o' a' l' r, b, o, a, l => .node b' o' a' l' (qG r b o a l)
def zC : Nat → Fo → Fo
 | 0, _ => .nil
 | _ + 1, .nil => .nil
 | k + 1, .node b o a l r => .node b o a l (zC k r)
def Zq (a b : Int × Int × ByteArray) : Bool := decide (a.1 = b.1 ∧ a.2.1 = b.2.1 ∧ a.2.2.toList = b.2.2.toList)
def qJ : Fo → Fo → Bool
 | .nil, .nil => true
 | .node _ _ a l r, .node _ _ a' l' r' => Zq a a' && (decide (foLen l = foLen l') && qJ l l') && qJ r r'
 | _, _ => false
structure Tr where
 id : Int
 kind : Int
 text : ByteArray
 kids : Fo
instance : Inhabited Tr := ⟨⟨0, 0, ⟨#[]⟩, .nil⟩⟩
def zD (t u : Tr) : Bool := Zq (t.id, t.kind, t.text) (u.id, u.kind, u.text) && (decide (foLen t.kids = foLen u.kids) && qJ t.kids u.kids)
theorem kg : ∀ f : Fo, qJ f f = true
 | .nil => rfl
 | .node _ _ a l r => by simp [qJ, Zq, kg l, kg r]
theorem jm (t : Tr) : zD t t = true := by simp [zD, Zq, kg]
theorem yX : ∀ (k : Nat) (f : Fo), foLen f ≤ k → zH k f = .nil
 | 0, .nil, _ => rfl
 | 0, .node _ _ _ _ _, h => by simp [foLen] at h
 | _ + 1, .nil, _ => rfl
 | k + 1, .node _ _ _ _ r, h => yX k r (by simp [foLen] at h; omega)
theorem yw : ∀ (k : Nat) (f : Fo), k < foLen f → ∃ b o a l r, zH k f = .node b o a l r ∧ zH (k + 1) f = r ∧ ze l < ze f ∧ zC (k + 1) f = qG (zC k f) b o a l
 | _, .nil, h => by simp [foLen] at h
 | 0, .node b o a l r, _ => ⟨b, o, a, l, r, rfl, by simp [zH], by simp [ze]; omega, by simp [zC, qG]⟩
 | k + 1, .node b0 o0 a0 l0 r0, h => by
   obtain ⟨b, o, a, l, r, h1, h2, h3, h4⟩ := yw k r0 (by simp [foLen] at h; omega)
   exact ⟨b, o, a, l, r, h1, h2, by simp [ze]; omega, by rw [zC, h4]; simp [zC, qG]⟩
theorem zar : ∀ (f : Fo) (b o : Nat) (a : Int × Int × ByteArray) (l : Fo), foLen (qG f b o a l) = foLen f + 1
 | .nil, _, _, _, _ => rfl
 | .node _ _ _ _ r, b, o, a, l => by simp [qG, foLen, zar r b o a l]
theorem qp : ∀ (k : Nat) (f : Fo), foLen f ≤ k → zC k f = f
 | 0, .nil, _ => rfl
 | 0, .node _ _ _ _ _, h => by simp [foLen] at h
 | _ + 1, .nil, _ => rfl
 | k + 1, .node _ _ _ _ r, h => by rw [zC, qp k r (by simp [foLen] at h; omega)]
theorem Zj : ∀ (f : Fo) (b o : Nat) (a : Int × Int × ByteArray) (l : Fo), ze (qG f b o a l) = ze f + ze l + 1
 | .nil, _, _, _, _ => by simp [qG, ze]
 | .node _ _ _ _ r, b, o, a, l => by simp [qG, ze, Zj r b o a l]; omega
def qQ : Fo → Prop
 | .nil => True
 | .node _ _ _ l r => foLen l ≤ 9223372036854775807 ∧ qQ l ∧ qQ r
theorem jh : ∀ (k : Nat) {f : Fo} {b o : Nat} {a : Int × Int × ByteArray} {l r : Fo}, qQ f → zH k f = .node b o a l r → foLen l ≤ 9223372036854775807 ∧ qQ l
 | 0, .node _ _ _ _ _, _, _, _, _, _, h, e => by simp only [zH] at e; cases e; exact ⟨h.1, h.2.1⟩
 | k + 1, .node _ _ _ _ _, _, _, _, _, _, h, e => jh k h.2.2 e
theorem yG : ∀ f : Fo, foLen f ≤ ze f
 | .nil => Nat.le_refl _
 | .node _ _ _ _ r => by have := yG r; simp [foLen, ze]; omega
def zB (w : World) (S : Nat → Prop) : Fo → Option Addr → Prop
 | .nil, _ => True
 | .node _ _ k l r, a => ∃ b off ka cap, a = some ⟨b, off, none⟩ ∧ S b ∧ w.cell? ⟨b, off, none⟩ = some (.int .i64 k.1) ∧ w.cell? ⟨b, off + 1, none⟩ = some (.int .i64 k.2.1) ∧
    w.cell? ⟨b, off + 2, none⟩ = some (.string k.2.2) ∧ w.cell? ⟨b, off + 3, none⟩ = some (.slice ka (foLen l) cap) ∧ foLen l ≤ cap ∧ zB w S l ka ∧ zB w S r (some ⟨b, off + 4, none⟩)
def qP (w : World) (S : Nat → Prop) (v : Value) (t : Tr) : Prop :=
 ∃ ka cap, v = .agg #[.int .i64 t.id, .int .i64 t.kind, .string t.text, .slice ka (foLen t.kids) cap] ∧ foLen t.kids ≤ cap ∧ zB w S t.kids ka
theorem zB.kept {w w' : World} {S S' : Nat → Prop} (hS : ∀ k, S k → S' k ∧ w'.heap[k]? = w.heap[k]?) : ∀ {f : Fo} {a : Option Addr}, zB w S f a → zB w' S' f a
 | .nil, _, _ => True.intro
 | .node _ _ k l r, a, h => by
   obtain ⟨b, off, ka, cap, e, hb, h0, h1, h2, h3, hc, hl, hr⟩ := h
   have hh := (hS b hb).2
   exact ⟨b, off, ka, cap, e, (hS b hb).1, (World.cell?_of_block hh).trans h0, (World.cell?_of_block hh).trans h1, (World.cell?_of_block hh).trans h2, (World.cell?_of_block hh).trans h3, hc, hl.kept hS, hr.kept hS⟩
theorem qP.kept {w w' : World} {S S' : Nat → Prop} {v : Value} {t : Tr} (h : qP w S v t) (hS : ∀ k, S k → S' k ∧ w'.heap[k]? = w.heap[k]?) : qP w' S' v t := by
 obtain ⟨ka, cap, e, hc, hk⟩ := h
 exact ⟨ka, cap, e, hc, hk.kept hS⟩
theorem zB.below {w w' : World} {S : Nat → Prop} {B : Nat} {f : Fo} {a : Option Addr} (h : zB w S f a) (hb : Below B w w') (hS : ∀ k, S k → k < B) : zB w' S f a := h.kept fun k hk => ⟨hk, hb.block k (hS k hk)⟩
theorem zB.at {w : World} {S : Nat → Prop} : ∀ {f : Fo} {a : Option Addr} (k : Nat), zB w S f a → k < foLen f →
 ∃ b0 o0 key l r, zH k f = .node b0 o0 key l r ∧ ∃ b off ka cap, a = some ⟨b, off, none⟩ ∧ S b ∧ w.cell? ⟨b, off + k * 4, none⟩ = some (.int .i64 key.1) ∧ w.cell? ⟨b, off + k * 4 + 1, none⟩ = some (.int .i64 key.2.1) ∧
  w.cell? ⟨b, off + k * 4 + 2, none⟩ = some (.string key.2.2) ∧ w.cell? ⟨b, off + k * 4 + 3, none⟩ = some (.slice ka (foLen l) cap) ∧ foLen l ≤ cap ∧ zB w S l ka
 | .nil, _, _, _, h => by simp [foLen] at h
 | .node b0 o0 key l r, _, 0, h, _ => by
   obtain ⟨b, off, ka, cap, e, hb, h0, h1, h2, h3, hc, hl, _⟩ := h
   exact ⟨b0, o0, key, l, r, rfl, b, off, ka, cap, e, hb, by simpa using h0, by simpa using h1, by simpa using h2, by simpa using h3, hc, hl⟩
 | .node _ _ _ _ r, _, k + 1, h, hk => by
   obtain ⟨b, off, _, _, e, hb, _, _, _, _, _, _, hr⟩ := h
   obtain ⟨b0, o0, key, l, r', hd, b', off', ka, cap, e', hb', h0, h1, h2, h3, hc, hl⟩ := hr.at k (by simp [foLen] at hk; omega)
   cases e'
   have hs : off + 4 + k * 4 = off + (k + 1) * 4 := by omega
   rw [hs] at h0 h1 h2 h3
   exact ⟨b0, o0, key, l, r', hd, b, off, ka, cap, e, hb, h0, h1, h2, h3, hc, hl⟩
theorem lt_of_some {w : World} {k : Nat} {o : Obj} (h : w.heap[k]? = some o) : k < w.heap.size := (Array.getElem?_eq_some_iff.1 h).1
theorem zI {w w' : World} {B : Nat} {e : TypeId} {size : Nat} {v : Value} {n : Nat} {xs : List Value} (h : w.ownsRow B e size v n xs) (hk : ∀ g cur, w.heap[g]? = some (.cells cur e (0, 0)) → v.ownBlock = some g → w'.heap[g]? = w.heap[g]?) : w'.ownsRow B e size v n xs := by
 obtain ⟨h1, h2⟩ := h
 refine ⟨h1, ?_⟩
 rcases h2 with h2 | ⟨g, cap, cur, hv, hg, hh, r⟩
 · exact Or.inl h2
 · exact Or.inr ⟨g, cap, cur, hv, hg, (hk g cur hh (by rw [hv]; rfl)).trans hh, r⟩
theorem zF {w : World} {B : Nat} {e : TypeId} {size : Nat} {v : Value} {n : Nat} {xs : List Value} (h : w.ownsRow B e size v n xs) {g : Nat} (hg : v.ownBlock = some g) : B ≤ g ∧ g < w.heap.size := by
 rcases h.2 with ⟨hv, _⟩ | ⟨g', cap, cur, hv, hB, hh, _⟩
 · rw [hv] at hg; cases hg
 · rw [hv] at hg; cases hg; exact ⟨hB, lt_of_some hh⟩
theorem zO {w : World} {B : Nat} {e : TypeId} {size : Nat} {v : Value} {n : Nat} {xs : List Value} (h : w.ownsRow B e size v n xs) : ∃ a cap, v = .slice a n cap := by
 rcases h.2 with ⟨hv, h0⟩ | ⟨g', cap, cur, hv, _⟩
 · exact ⟨none, 0, by rw [hv, h0]⟩
 · exact ⟨_, _, hv⟩
theorem zW {w : World} {B : Nat} {e : TypeId} {size : Nat} {v : Value} {n : Nat} {xs : List Value} (h : w.ownsRow B e size v n xs) {g : Nat} (hg : v.ownBlock = some g) (j : Nat) (u : Value) (hj : xs[j]? = some u) : w.cell? ⟨g, j, none⟩ = some u := by
 rcases h.2 with ⟨hv, _⟩ | ⟨g', cap, cur, hv, hB, hh, _, _, _, ht⟩
 · rw [hv] at hg; cases hg
 · rw [hv] at hg; cases hg
   rw [cell_of_row w g' j _ _ _ hh]
   rw [← ht, List.getElem?_take] at hj
   split at hj
   · simpa using hj
   · cases hj
def qI (w : World) (S : Nat → Prop) : Fo → List Value → Prop
 | .nil, xs => xs = []
 | .node _ _ k l r, xs => ∃ ka cap ys, xs = [.int .i64 k.1, .int .i64 k.2.1, .string k.2.2, .slice ka (foLen l) cap] ++ ys ∧ foLen l ≤ cap ∧ zB w S l ka ∧ qI w S r ys
theorem qI.kept {w w' : World} {S S' : Nat → Prop} (hS : ∀ k, S k → S' k ∧ w'.heap[k]? = w.heap[k]?) : ∀ {f : Fo} {xs : List Value}, qI w S f xs → qI w' S' f xs
 | .nil, _, h => h
 | .node _ _ k l r, xs, h => by
   obtain ⟨ka, cap, ys, e, hc, hl, hr⟩ := h
   exact ⟨ka, cap, ys, e, hc, hl.kept hS, hr.kept hS⟩
theorem qI.snoc {w : World} {S : Nat → Prop} {b o : Nat} {k : Int × Int × ByteArray} {l : Fo} {ka : Option Addr} (hl : zB w S l ka) (cap : Nat) (hc : foLen l ≤ cap) : ∀ {f : Fo} {xs : List Value}, qI w S f xs →
 qI w S (qG f b o k l) (xs ++ [.int .i64 k.1, .int .i64 k.2.1, .string k.2.2, .slice ka (foLen l) cap])
 | .nil, xs, h => by subst h; exact ⟨ka, cap, [], by simp, hc, hl, rfl⟩
 | .node _ _ _ _ _, xs, h => by
   obtain ⟨ka', cap', ys, e, hc', hl', hr⟩ := h
   exact ⟨ka', cap', _, by rw [e, List.append_assoc], hc', hl', qI.snoc hl cap hc hr⟩
theorem qI.lies {w : World} {S : Nat → Prop} {g : Nat} (hg : S g) : ∀ {f : Fo} {xs : List Value} (off : Nat), qI w S f xs → (∀ j u, xs[j]? = some u → w.cell? ⟨g, off + j, none⟩ = some u) → zB w S f (some ⟨g, off, none⟩)
 | .nil, _, _, _, _ => True.intro
 | .node _ _ k l r, xs, off, h, hc => by
   obtain ⟨ka, cap, ys, e, hcp, hl, hr⟩ := h
   subst e
   refine ⟨g, off, ka, cap, rfl, hg, hc 0 _ rfl, hc 1 _ rfl, hc 2 _ rfl, hc 3 _ rfl, hcp, hl, qI.lies hg (off + 4) hr fun j u hu => ?_⟩
   have := hc (j + 4) u (by rw [List.getElem?_append_right (by simp)]; simpa using hu)
   rw [show off + 4 + j = off + (j + 4) by omega]; exact this
structure Seg where
 d : Nat
 a : Option Addr
 cap : Nat
 f : Fo
def Seg.v (s : Seg) : Value := .slice s.a (foLen s.f) s.cap
def Seg.cells (s : Seg) : List Value := [.int .i64 (s.d : Int), s.v]
def zY (A : List Seg) : Nat := (A.map fun s => ze s.f).sum
theorem qo : zY [] = 0 := rfl
theorem yF (s : Seg) (A : List Seg) : zY (s :: A) = ze s.f + zY A := by simp [zY]
theorem yQ (A B : List Seg) : zY (A ++ B) = zY A + zY B := by simp [zY]
theorem ZP (A : List Seg) : zY A.reverse = zY A := by
 induction A with
 | nil => rfl
 | cons s A ih => rw [List.reverse_cons, yQ, ih, yF, yF, qo]; omega
structure kF (M : Nat) (s : Seg) : Prop where
 deep : s.d + ze s.f ≤ M
 cap : foLen s.f ≤ s.cap
theorem ZY : ∀ {f : Fo}, f ≠ .nil → 1 ≤ ze f
 | .nil, h => absurd rfl h
 | .node _ _ _ _ _, _ => by simp [ze]
theorem YM : ∀ (A : List Seg), (∀ s ∈ A, s.f ≠ .nil) → A.length ≤ zY A
 | [], _ => Nat.le_refl _
 | s :: A, h => by
   have h1 := YM A (fun x hx => h x (List.mem_cons_of_mem _ hx))
   have h2 := ZY (h s (by simp))
   rw [yF, List.length_cons]; omega
def Kept (T : Nat → Prop) (w w' : World) : Prop := w.heap.size ≤ w'.heap.size ∧ ∀ x, T x → w'.heap[x]? = w.heap[x]?
theorem Kept.trans {T : Nat → Prop} {a b c : World} (h : Kept T a b) (k : Kept T b c) : Kept T a c := ⟨Nat.le_trans h.1 k.1, fun x hx => (k.2 x hx).trans (h.2 x hx)⟩
def kG (T T' : Nat → Prop) (w w' : World) : Prop := ∀ x, T' x → T x ∨ (w.heap.size ≤ x ∧ x < w'.heap.size)
structure Body (P : Program) (m l : Nat) (J : (Nat → Prop) → List Seg → World → Prop) (Jx : (Nat → Prop) → World → Prop) : Prop where
 turn : ∀ {T T' : Nat → Prop} {A : List Seg} {w w' : World}, J T A w → za w w' T → kG T T' w w' → J T' A w'
 zbk : ∀ {T T' : Nat → Prop} {w w' : World}, Jx T w → za w w' T → kG T T' w w' → Jx T' w'
 empty : ∀ {T : Nat → Prop} {A B : List Seg} {d c : Nat} {a : Option Addr} {w : World}, J T (A ++ ⟨d, a, c, .nil⟩ :: B) w → J T (A ++ B) w
 yield : ∀ {T : Nat → Prop} {d c bo oo : Nat} {a : Option Addr} {key : Int × Int × ByteArray} {k r : Fo} {A : List Seg} {w : World}, (∀ x, T x → x < w.heap.size) → J T (⟨d, a, c, .node bo oo key k r⟩ :: A) w →
  ∃ b off, a = some ⟨b, off, none⟩ ∧ YieldAt Fence.wide m P l #[.int .i64 (d : Int), .pointer (some ⟨b, off, none⟩)] w fun e w' => Kept T w w' ∧
   ((e = .returned (.bool true) ∧ ∃ ka kc, w'.cell? ⟨b, off + 3, none⟩ = some (.slice ka (foLen k) kc) ∧ foLen k ≤ kc ∧ J T (⟨d + 1, ka, kc, k⟩ :: ⟨d, some ⟨b, off + 4, none⟩, c - 1, r⟩ :: A) w') ∨ (e = .returned (.bool false) ∧ Jx T w'))
structure Its (T : Nat → Prop) (w : World) (l LB YB FB DB : Nat) (lv : Value) (L : List Seg) (lf : Bool) : Prop where
 later : w.heap[LB]? = some (.cells #[lv] 176 (0, 0))
 row : w.ownsRow 0 175 2 lv L.length (L.flatMap Seg.cells)
 yld : w.heap[YB]? = some (.cells #[.func (.yield l) #[] #[]] 173 (0, 0))
 flag : w.heap[FB]? = some (.cells #[.bool lf] 4 (0, 0))
 down : w.heap[DB]? = some (.cells #[.func (.func 132) #[] #[.pointer (some ⟨LB, 0, none⟩), .pointer (some ⟨YB, 0, none⟩), .pointer (some ⟨FB, 0, none⟩), .pointer (some ⟨DB, 0, none⟩)]] 177 (0, 0))
 hl : T LB
 hy : T YB
 hf : T FB
 hd : T DB
 hr : ∀ g, lv.ownBlock = some g → T g
 sub : ∀ x, T x → x < w.heap.size
theorem zbC (L : List Seg) : (L.flatMap Seg.cells).length = L.length * 2 := by
 induction L with
 | nil => rfl
 | cons s L ih => rw [List.flatMap_cons, List.length_append, ih, List.length_cons]; simp [Seg.cells]; omega
theorem zM {w : World} {x y : Nat} {cs cs' : Array Value} {t t' : TypeId} {fr fr' : Nat × Nat} (h : w.heap[x]? = some (.cells cs t fr)) (h' : w.heap[y]? = some (.cells cs' t' fr')) (ht : t ≠ t') : x ≠ y := fun e => by
 subst e; rw [h] at h'; cases h'; exact ht rfl
theorem YY {w : World} {B : Nat} {e : TypeId} {size : Nat} {v : Value} {n : Nat} {xs : List Value} (h : w.ownsRow B e size v n xs) {g : Nat} (hg : v.ownBlock = some g) : ∃ cur, w.heap[g]? = some (.cells cur e (0, 0)) := by
 rcases h.2 with ⟨hv, _⟩ | ⟨g', cap, cur, hv, hB, hh, _⟩
 · rw [hv] at hg; cases hg
 · rw [hv] at hg; cases hg; exact ⟨cur, hh⟩
theorem Its.zaz {T : Nat → Prop} {w : World} {l LB YB FB DB : Nat} {lv : Value} {L : List Seg} {lf : Bool} (h : Its T w l LB YB FB DB lv L lf) : LB ≠ YB ∧ LB ≠ FB ∧ LB ≠ DB ∧ YB ≠ FB ∧ YB ≠ DB ∧ FB ≠ DB ∧ ∀ g, lv.ownBlock = some g → g ≠ LB ∧ g ≠ YB ∧ g ≠ FB ∧ g ≠ DB :=
 ⟨zM h.later h.yld (by decide), zM h.later h.flag (by decide), zM h.later h.down (by decide), zM h.yld h.flag (by decide), zM h.yld h.down (by decide), zM h.flag h.down (by decide), fun g hg => by
  obtain ⟨cur, hc⟩ := YY h.row hg
  exact ⟨zM hc h.later (by decide), zM hc h.yld (by decide), zM hc h.flag (by decide), zM hc h.down (by decide)⟩⟩
theorem Its.kept {T T' : Nat → Prop} {w w' : World} {l LB YB FB DB : Nat} {lv : Value} {L : List Seg} {lf : Bool} (h : Its T w l LB YB FB DB lv L lf) (hk : ∀ x, T x → w'.heap[x]? = w.heap[x]?) (hT : ∀ x, T x → T' x) (hs : ∀ x, T' x → x < w'.heap.size) : Its T' w' l LB YB FB DB lv L lf :=
 ⟨(hk _ h.hl).trans h.later, zI h.row (fun g _ _ hgo => hk g (h.hr g hgo)), (hk _ h.hy).trans h.yld, (hk _ h.hf).trans h.flag, (hk _ h.hd).trans h.down, hT _ h.hl, hT _ h.hy, hT _ h.hf, hT _ h.hd, fun g hg => hT g (h.hr g hg), hs⟩
theorem Its.za5 {T T' : Nat → Prop} {w w' : World} {l LB YB FB DB : Nat} {lv : Value} {L : List Seg} {lf b : Bool} (h : Its T w l LB YB FB DB lv L lf) (hk : ∀ x, T x → x ≠ FB → w'.heap[x]? = w.heap[x]?) (hf : w'.heap[FB]? = some (.cells #[.bool b] 4 (0, 0))) (hT : ∀ x, T x → T' x) (hs : ∀ x, T' x → x < w'.heap.size) : Its T' w' l LB YB FB DB lv L b := by
 obtain ⟨n1, n2, n3, n4, n5, n6, n7⟩ := h.zaz
 exact ⟨(hk _ h.hl n2).trans h.later, zI h.row (fun g _ _ hgo => hk g (h.hr g hgo) (n7 g hgo).2.2.1), (hk _ h.hy n4).trans h.yld, hf, (hk _ h.hd n6.symm).trans h.down, hT _ h.hl, hT _ h.hy, hT _ h.hf, hT _ h.hd, fun g hg => hT g (h.hr g hg), hs⟩
theorem Its.zdh {T T' : Nat → Prop} {w w' : World} {l LB YB FB DB : Nat} {lv lv' : Value} {L L' : List Seg} {lf : Bool} (h : Its T w l LB YB FB DB lv L lf) (hk : ∀ x, T x → x ≠ LB → lv.ownBlock ≠ some x → w'.heap[x]? = w.heap[x]?) (hl : w'.heap[LB]? = some (.cells #[lv'] 176 (0, 0))) (ho : w'.ownsRow 0 175 2 lv' L'.length (L'.flatMap Seg.cells))
 (hr : ∀ g, lv'.ownBlock = some g → T' g) (hT : ∀ x, T x → T' x) (hs : ∀ x, T' x → x < w'.heap.size) : Its T' w' l LB YB FB DB lv' L' lf := by
 obtain ⟨n1, n2, n3, n4, n5, n6, n7⟩ := h.zaz
 exact ⟨hl, ho, (hk _ h.hy n1.symm (fun e => (n7 _ e).2.1 rfl)).trans h.yld, (hk _ h.hf n2.symm (fun e => (n7 _ e).2.2.1 rfl)).trans h.flag, (hk _ h.hd n3.symm (fun e => (n7 _ e).2.2.2 rfl)).trans h.down, hT _ h.hl, hT _ h.hy, hT _ h.hf, hT _ h.hd, hr, hs⟩
structure vI (T T' : Nat → Prop) (w w' : World) (LB FB : Nat) (lv lv' : Value) : Prop where
 wide : ∀ x, T x → T' x
 new : ∀ x, T' x → T x ∨ w.heap.size ≤ x
 size : w.heap.size ≤ w'.heap.size
 same : ∀ x, T x → x ≠ LB → x ≠ FB → lv.ownBlock ≠ some x → w'.heap[x]? = w.heap[x]?
 row : lv'.ownBlock = lv.ownBlock ∨ ∀ g, lv'.ownBlock = some g → w.heap.size ≤ g
theorem vI.trans {T T1 T2 : Nat → Prop} {w w1 w2 : World} {LB FB : Nat} {lv lv1 lv2 : Value} (h : vI T T1 w w1 LB FB lv lv1) (k : vI T1 T2 w1 w2 LB FB lv1 lv2) (hs : ∀ x, T x → x < w.heap.size) : vI T T2 w w2 LB FB lv lv2 where
 wide := fun x hx => k.wide x (h.wide x hx)
 new := fun x hx => by
  have := h.size
  rcases k.new x hx with h1 | h1
  · exact h.new x h1
  · exact Or.inr (by omega)
 size := Nat.le_trans h.size k.size
 same := fun x hx h1 h2 h3 => (k.same x (h.wide x hx) h1 h2 (fun e => by
  rcases h.row with hr | hr
  · rw [hr] at e; exact h3 e
  · have := hr x e; have := hs x hx; omega)).trans (h.same x hx h1 h2 h3)
 row := by
  have := h.size
  rcases k.row with h1 | h1
  · rw [h1]; exact h.row
  · exact Or.inr fun g hg => by have := h1 g hg; omega
def kD (J : (Nat → Prop) → List Seg → World → Prop) (Jx : (Nat → Prop) → World → Prop) (M k : Nat) (s : Seg) (A A' : List Seg) (T : Nat → Prop) (bl lf : Bool) (w : World) : Prop :=
 (bl = true ∧ lf = false ∧ A' = [] ∧ J T A w) ∨ (bl = false ∧ A'.length ≤ ze s.f ∧ ((lf = false ∧ J T (A' ++ A) w ∧ (∀ x ∈ A', kF M x ∧ x.f ≠ .nil) ∧ zY A' ≤ ze s.f ∧ (0 < k → zY A' < ze s.f)) ∨ (lf = true ∧ Jx T w)))
def YJ (J : (Nat → Prop) → List Seg → World → Prop) (Jx : (Nat → Prop) → World → Prop) (M k l LB YB FB DB : Nat) (T : Nat → Prop) (s : Seg) (A L : List Seg) (lv : Value) (w : World) (e : Ending) (w' : World) : Prop :=
 ∃ (bl lf : Bool) (T' : Nat → Prop) (lv' : Value) (A' : List Seg), e = .returned (.bool bl) ∧ vI T T' w w' LB FB lv lv' ∧ Its T' w' l LB YB FB DB lv' (L ++ A') lf ∧ kD J Jx M k s A A' T' bl lf w'
def J4 (J : (Nat → Prop) → List Seg → World → Prop) (Jx : (Nat → Prop) → World → Prop) (M l LB YB FB DB k : Nat) : Prop :=
 ∀ (T : Nat → Prop) (w : World) (s : Seg) (A L : List Seg) (lv : Value), Its T w l LB YB FB DB lv L false → J T (s :: A) w → kF M s → L.length + ze s.f ≤ 1000000 →
  Calls Tryz.prog 132 #[.agg #[.int .i64 (s.d : Int), s.v], .int .i64 (k : Int), .pointer (some ⟨LB, 0, none⟩), .pointer (some ⟨YB, 0, none⟩), .pointer (some ⟨FB, 0, none⟩), .pointer (some ⟨DB, 0, none⟩)] w (YJ J Jx M k l LB YB FB DB T s A L lv w)
theorem YieldAt.YN {m : Nat} (m' : Nat) {P : Program} {l : Nat} {args : Array Value} {W : World} {R : Ending → World → Prop} (h : YieldAt Fence.wide m P l args W R) : YieldAt Fence.wide m' P l args W R := by
 obtain ⟨fn, tmps, assign, body, hy, hr⟩ := h
 exact ⟨fn, tmps, assign, body, hy, hr.1, fun c cs _ => hr.2 c cs (room_wide _)⟩
end Go.Proofs.YtchccbfljamjnaaGreat
namespace Go.Proofs.YtchccbfljamjnaaGreat
open Go.RowKit
theorem kI : ∀ (M : List Seg) (k : Nat) (s : Seg), M[k]? = some s → (M.flatMap Seg.cells)[k * 2]? = some (.int .i64 (s.d : Int)) ∧ (M.flatMap Seg.cells)[k * 2 + 1]? = some s.v
 | [], _, _, h => by simp at h
 | x :: M, 0, s, h => by
   simp at h; subst h
   simp [Seg.cells]
 | x :: M, k + 1, s, h => by
   have := kI M k s (by simpa using h)
   rw [List.flatMap_cons]
   have e1 : (k + 1) * 2 = k * 2 + 1 + 1 := by omega
   rw [e1]
   simpa [Seg.cells] using this
theorem kS : ∀ (M : List Seg) (k : Nat) (s : Seg), k < M.length → (M.set k s).flatMap Seg.cells = ((M.flatMap Seg.cells).set (k * 2) (.int .i64 (s.d : Int))).set (k * 2 + 1) s.v
 | [], _, _, h => by simp at h
 | x :: M, 0, s, h => by simp [Seg.cells]
 | x :: M, k + 1, s, h => by
   have := kS M k s (by simpa using h)
   rw [pgF, List.flatMap_cons, List.flatMap_cons, this]
   have e1 : (k + 1) * 2 = k * 2 + 1 + 1 := by omega
   rw [e1]
   simp [Seg.cells]
def Turned (L M : List Seg) (i : Nat) : Prop := M.length = L.length ∧ ∀ k, k < L.length → M[k]? = if k < i ∨ L.length - i ≤ k then L[L.length - 1 - k]? else L[k]?
theorem Turned.start (L : List Seg) : Turned L L 0 := ⟨rfl, fun k hk => by rw [if_neg (by omega)]⟩
theorem Turned.step {L M : List Seg} {i : Nat} (h : Turned L M i) (hi : i + 1 + i < L.length) (s t : Seg) (hs : M[i]? = some s) (ht : M[L.length - 1 - i]? = some t) : Turned L ((M.set i t).set (L.length - 1 - i) s) (i + 1) := by
 refine ⟨by simp [h.1], fun k hk => ?_⟩
 have hM := h.2 k hk
 have h1 := h.2 i (by omega)
 have h2 := h.2 (L.length - 1 - i) (by omega)
 rw [if_neg (by omega)] at h1 h2
 rw [List.getElem?_set, List.getElem?_set]
 by_cases hk1 : k = L.length - 1 - i
 · subst hk1
   rw [if_pos rfl, if_pos (by simp [h.1]; omega), if_pos (by omega), ← hs, h1]
   congr 1; omega
 · rw [if_neg (Ne.symm hk1)]
   by_cases hk2 : k = i
   · subst hk2
     rw [if_pos rfl, if_pos (by rw [h.1]; omega), if_pos (by omega), ← ht, h2]
   · rw [if_neg (Ne.symm hk2), hM]
     by_cases hc : k < i ∨ L.length - i ≤ k
     · rw [if_pos hc, if_pos (by omega)]
     · rw [if_neg hc, if_neg (by omega)]
theorem Turned.done {L M : List Seg} {i : Nat} (h : Turned L M i) (hi : L.length ≤ i + 1 + i) : M = L.reverse := by
 apply List.ext_getElem?
 intro k
 by_cases hk : k < L.length
 · rw [List.getElem?_reverse hk, h.2 k hk]
   split
   · rfl
   · congr 1; omega
 · rw [List.getElem?_eq_none (by rw [h.1]; omega), List.getElem?_eq_none (by rw [List.length_reverse]; omega)]
def zey (lv : Value) (L : List Seg) (w : World) (e : Ending) (w' : World) : Prop := e = .returned (.tuple #[]) ∧ w'.ownsRow 0 175 2 lv L.length (L.reverse.flatMap Seg.cells) ∧ za w w' (fun x => lv.ownBlock = some x)
def ZJ (la : Option Addr) (n lc : Nat) (L : List Seg) (w : World) (i : Nat) (wr : World) : Prop := ∃ M, Turned L M i ∧ wr.ownsRow 0 175 2 (.slice la n lc) n (M.flatMap Seg.cells) ∧ za w wr (fun x => (Value.slice la n lc).ownBlock = some x)
theorem ZJ.drew {la : Option Addr} {n lc i : Nat} {L : List Seg} {w wr : World} (h : ZJ la n lc L w i wr) : ZJ la n lc L w i wr.drew := by
 obtain ⟨M, h1, h2, h3⟩ := h
 exact ⟨M, h1, h2, h3.drew⟩
theorem ZJ.end {la : Option Addr} {n lc i : Nat} {L : List Seg} {w wr : World} (h : ZJ la n lc L w i wr) (hn : n = L.length) (hi : n ≤ i + 1 + i) : zey (.slice la n lc) L w (.returned (.tuple #[])) wr := by
 obtain ⟨M, h1, h2, h3⟩ := h
 rw [h1.done (by omega)] at h2
 subst hn
 exact ⟨rfl, h2, h3⟩
theorem ZJ.at {la : Option Addr} {n lc i : Nat} {L : List Seg} {w wr : World} (h : ZJ la n lc L w i wr) (hn : n = L.length) (hi : i + 1 + i < n) : ∃ (g : Nat) (s t : Seg), la = some ⟨g, 0, none⟩ ∧ (∀ j, wr.frozen? ⟨g, j, none⟩ = false) ∧
 wr.cell? ⟨g, i * 2, none⟩ = some (.int .i64 (s.d : Int)) ∧ wr.cell? ⟨g, i * 2 + 1, none⟩ = some (.slice s.a (foLen s.f) s.cap) ∧ wr.cell? ⟨g, (n - 1 - i) * 2, none⟩ = some (.int .i64 (t.d : Int)) ∧ wr.cell? ⟨g, (n - 1 - i) * 2 + 1, none⟩ = some (.slice t.a (foLen t.f) t.cap) ∧
 ZJ (some ⟨g, 0, none⟩) n lc L w (i + 1) ((((wr.setCell ⟨g, i * 2, none⟩ (.int .i64 (t.d : Int))).setCell ⟨g, i * 2 + 1, none⟩ (.slice t.a (foLen t.f) t.cap)).setCell ⟨g, (n - 1 - i) * 2, none⟩ (.int .i64 (s.d : Int))).setCell ⟨g, (n - 1 - i) * 2 + 1, none⟩ (.slice s.a (foLen s.f) s.cap)) := by
 obtain ⟨M, h1, h2, h3⟩ := h
 obtain ⟨g, cap, e, _⟩ := h2.form (by omega)
 cases e
 obtain ⟨s, hs⟩ : ∃ s, M[i]? = some s := ⟨M[i]'(by have := h1.1; omega), List.getElem?_eq_getElem _⟩
 obtain ⟨t, ht⟩ : ∃ t, M[n - 1 - i]? = some t := ⟨M[n - 1 - i]'(by have := h1.1; omega), List.getElem?_eq_getElem _⟩
 have cs := kI M i s hs
 have ct := kI M _ t ht
 refine ⟨g, s, t, rfl, fun j => h2.frozenAt j, zW h2 rfl _ _ cs.1, zW h2 rfl _ _ cs.2, zW h2 rfl _ _ ct.1, zW h2 rfl _ _ ct.2, ?_⟩
 have k1 := (h2.stored (i * 2) (.int .i64 (t.d : Int))).1
 have k2 := (k1.stored (i * 2 + 1) (.slice t.a (foLen t.f) t.cap)).1
 have k3 := (k2.stored ((n - 1 - i) * 2) (.int .i64 (s.d : Int))).1
 have k4 := (k3.stored ((n - 1 - i) * 2 + 1) (.slice s.a (foLen s.f) s.cap)).1
 have ht' := ht
 rw [hn] at ht'
 refine ⟨(M.set i t).set (n - 1 - i) s, by rw [hn]; exact h1.step (by omega) s t hs ht', ?_, ?_⟩
 · rw [kS (M.set i t) _ s (by rw [List.length_set]; have := h1.1; omega), kS M i t (by have := h1.1; omega)]
   exact k4
 · have hb : (fun x => (Value.slice (some ⟨g, 0, none⟩) n lc).ownBlock = some x) = fun x => x = g := by
    funext x; simp [Value.ownBlock]; exact eq_comm
   rw [hb] at h3 ⊢
   have tr : ∀ {A B : World}, za w A (fun x => x = g) → za A B (fun x => x = g) → za w B (fun x => x = g) := fun p q => p.trans q (fun k hk => Or.inl hk)
   exact tr (tr (tr (tr h3 (za.setCell (S := fun x => x = g) (a := ⟨g, _, none⟩) rfl _)) (za.setCell (S := fun x => x = g) (a := ⟨g, _, none⟩) rfl _)) (za.setCell (S := fun x => x = g) (a := ⟨g, _, none⟩) rfl _)) (za.setCell (S := fun x => x = g) (a := ⟨g, _, none⟩) rfl _)
theorem Jr (w : World) (la : Option Addr) (n lc : Nat) (L : List Seg) (hn : n = L.length) (hl : n ≤ 2000000) (ho : w.ownsRow 0 175 2 (.slice la n lc) n (L.flatMap Seg.cells)) : Calls Tryz.prog 133 #[.slice la n lc] w (zey (.slice la n lc) L w) := by
 have HS : Hid (ZJ la n lc L w 0 w) := hH ⟨L, Turned.start L, ho, za.refl _ _⟩
 have HN := hH hn
 clear ho hn
 go_enter Tryz.func133, Tryz.ntmps133
 go_wp2_with fail
 go_loopw [2, 3] (fun vi vj wr => ∃ i : Nat, i ≤ n ∧ vi = .int .i64 i ∧ vj = .int .i64 ((n : Int) - 1 - i) ∧ Hid (ZJ la n lc L w i wr)) (fun vi _ _ => n - (intOf vi).toNat)
 case atStart => exact ⟨0, Nat.zero_le _, rfl, by simp, HS⟩
 case round =>
  obtain ⟨i, hi, rfl, rfl, hh⟩ := hrel
  by_cases hlt : i + 1 + i < n
  · obtain ⟨g, s, t, rfl, fz, c0, c1, c2, c3, hnx⟩ := hh.out.at HN.out hlt
    obtain ⟨p, hp⟩ : ∃ p, p = n - 1 - i := ⟨_, rfl⟩
    have hpi : (n : Int) - 1 - (i : Int) = (p : Int) := by omega
    rw [← hp] at c2 c3 hnx
    rw [hpi]
    have hip : (i : Int) < (p : Int) := by omega
    have hpn : (p : Int) < (n : Int) := by omega
    have hin : (i : Int) < (n : Int) := by omega
    have hi0 : (0 : Int) ≤ (i : Int) := by omega
    have hp0 : (0 : Int) ≤ (p : Int) := by omega
    have HX := hH (aN hnx (aN hp hpi))
    clear hnx hp hpi hh
    go_wp2_with fail
    go_region_law (fail)
    all_goals
     have HY : Hid (ZJ (some ⟨g, 0, none⟩) n lc L w (i + 1) ((((wr.setCell ⟨g, i * 2, none⟩ (.int .i64 (t.d : Int))).setCell ⟨g, i * 2 + 1, none⟩ (.slice t.a (foLen t.f) t.cap)).setCell ⟨g, p * 2, none⟩ (.int .i64 (s.d : Int))).setCell ⟨g, p * 2 + 1, none⟩ (.slice s.a (foLen s.f) s.cap)).drew) := hH HX.out.1.drew
     have hpe : (p : Int) - 1 = (n : Int) - 1 - ((i + 1 : Nat) : Int) := by have := HX.out.2.2; omega
     have HPE := hH hpe
     clear hpe c0 c1 c2 c3 fz
     go_wp2_with fail
     go_roundw
     case rel => exact ⟨i + 1, by omega, by go_num, by rw [HPE.out], HY⟩
     case measure => simp [intOf]; omega
  · have hji : ¬ (i : Int) < (n : Int) - 1 - i := by omega
    have HE := hH (hh.out.end HN.out (by omega))
    clear hh HS
    go_wp2_with fail
    go_end0
    exact HE.out
end Go.Proofs.YtchccbfljamjnaaGreat
