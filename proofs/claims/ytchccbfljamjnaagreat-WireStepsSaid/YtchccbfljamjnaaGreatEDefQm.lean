/-
  .
-/
import Derived.RangeFuncNested
import Derived.RangeFuncBound
import Derived.RangeFuncCalls
import Derived.RangeFuncLeaves
import Derived.RangeFuncWrites
import Derived.Shelf.Abstract
import Derived.Shelf.RegionOpen
import Derived.WalkKit
import Derived.OwnWalkIn
import Derived.TacticsInMore
import Derived.LoopNIn
import Derived.LoopIn
import Derived.OrdersIn
import Derived.Deep.RegionHeld
import Derived.Test.YtchccbfljamjnaaGreatTreeQm
import Derived.Test.YtchccbfljamjnaaGreatCNumQm
set_option maxRecDepth 100000
set_option maxHeartbeats 40000000
namespace Go.Proofs.YtchccbfljamjnaaGreat
open Go.RowKit
structure Seg where
 d : Nat
 a : Option Addr
 cap : Nat
 f : Fo
def Seg.v (s : Seg) : Value := .slice s.a (foLen s.f) s.cap
def Seg.cells (s : Seg) : List Value := [.int .i64 (s.d : Int), s.v]
def zG (A : List Seg) : Nat := (A.map fun s => zb s.f).sum
theorem yw : zG [] = 0 := rfl
theorem zQ (s : Seg) (A : List Seg) : zG (s :: A) = zb s.f + zG A := by simp [zG]
theorem zY (A B : List Seg) : zG (A ++ B) = zG A + zG B := by simp [zG]
theorem jG (A : List Seg) : zG A.reverse = zG A := by
 induction A with
 | nil => rfl
 | cons s A ih => rw [List.reverse_cons, zY, ih, zQ, zQ, yw]; omega
structure vJ (M : Nat) (s : Seg) : Prop where
 deep : s.d + zb s.f ≤ M
 cap : foLen s.f ≤ s.cap
theorem jM : ∀ {f : Fo}, f ≠ .nil → 1 ≤ zb f
 | .nil, h => absurd rfl h
 | .node _ _ _ _ _, _ => by simp [zb]
theorem kN : ∀ (A : List Seg), (∀ s ∈ A, s.f ≠ .nil) → A.length ≤ zG A
 | [], _ => Nat.le_refl _
 | s :: A, h => by
   have h1 := kN A (fun x hx => h x (List.mem_cons_of_mem _ hx))
   have h2 := jM (h s (by simp))
   rw [zQ, List.length_cons]; omega
def Kept (T : Nat → Prop) (w w' : World) : Prop := w.heap.size ≤ w'.heap.size ∧ ∀ x, T x → w'.heap[x]? = w.heap[x]?
theorem Kept.trans {T : Nat → Prop} {a b c : World} (h : Kept T a b) (k : Kept T b c) : Kept T a c := ⟨Nat.le_trans h.1 k.1, fun x hx => (k.2 x hx).trans (h.2 x hx)⟩
def vK (T T' : Nat → Prop) (w w' : World) : Prop := ∀ x, T' x → T x ∨ (w.heap.size ≤ x ∧ x < w'.heap.size)
structure Body (P : Program) (m l : Nat) (J : (Nat → Prop) → List Seg → World → Prop) (Jx : (Nat → Prop) → World → Prop) : Prop where
 turn : ∀ {T T' : Nat → Prop} {A : List Seg} {w w' : World}, J T A w → za w w' T → vK T T' w w' → J T' A w'
 Qm : ∀ {T T' : Nat → Prop} {w w' : World}, Jx T w → za w w' T → vK T T' w w' → Jx T' w'
 empty : ∀ {T : Nat → Prop} {A B : List Seg} {d c : Nat} {a : Option Addr} {w : World}, J T (A ++ ⟨d, a, c, .nil⟩ :: B) w → J T (A ++ B) w
 yield : ∀ {T : Nat → Prop} {d c bo oo : Nat} {a : Option Addr} {key : Int × Int × ByteArray} {k r : Fo} {A : List Seg} {w : World}, (∀ x, T x → x < w.heap.size) → J T (⟨d, a, c, .node bo oo key k r⟩ :: A) w →
  ∃ b off, a = some ⟨b, off, none⟩ ∧ YieldAt Fence.wide m P l #[.int .i64 (d : Int), .pointer (some ⟨b, off, none⟩)] w fun e w' => Kept T w w' ∧
   ((e = .returned (.bool true) ∧ ∃ ka kc, w'.cell? ⟨b, off + 3, none⟩ = some (.slice ka (foLen k) kc) ∧ foLen k ≤ kc ∧ J T (⟨d + 1, ka, kc, k⟩ :: ⟨d, some ⟨b, off + 4, none⟩, c - 1, r⟩ :: A) w') ∨ (e = .returned (.bool false) ∧ Jx T w'))
structure Its (T : Nat → Prop) (w : World) (l LB YB FB DB : Nat) (lv : Value) (L : List Seg) (lf : Bool) : Prop where
 later : w.heap[LB]? = some (.cells #[lv] 176 (0, 0))
 row : w.ownsRow 0 175 2 lv L.length (L.flatMap Seg.cells)
 yld : w.heap[YB]? = some (.cells #[.func (.yield l) #[] #[]] 173 (0, 0))
 flag : w.heap[FB]? = some (.cells #[.bool lf] 4 (0, 0))
 down : w.heap[DB]? = some (.cells #[.func (.func 132) #[] #[.pointer (some ⟨LB, 0, none⟩), .pointer (some ⟨YB, 0, none⟩), .pointer (some ⟨FB, 0, none⟩), .pointer (some ⟨DB, 0, none⟩)]] 177 (0, 0))
 hl : T LB
 hy : T YB
 hf : T FB
 hd : T DB
 hr : ∀ g, lv.ownBlock = some g → T g
 sub : ∀ x, T x → x < w.heap.size
theorem QB (L : List Seg) : (L.flatMap Seg.cells).length = L.length * 2 := by
 induction L with
 | nil => rfl
 | cons s L ih => rw [List.flatMap_cons, List.length_append, ih, List.length_cons]; simp [Seg.cells]; omega
theorem zz {w : World} {x y : Nat} {cs cs' : Array Value} {t t' : TypeId} {fr fr' : Nat × Nat} (h : w.heap[x]? = some (.cells cs t fr)) (h' : w.heap[y]? = some (.cells cs' t' fr')) (ht : t ≠ t') : x ≠ y := fun e => by
 subst e; rw [h] at h'; cases h'; exact ht rfl
theorem kV {w : World} {B : Nat} {e : TypeId} {size : Nat} {v : Value} {n : Nat} {xs : List Value} (h : w.ownsRow B e size v n xs) {g : Nat} (hg : v.ownBlock = some g) : ∃ cur, w.heap[g]? = some (.cells cur e (0, 0)) := by
 rcases h.2 with ⟨hv, _⟩ | ⟨g', cap, cur, hv, hB, hh, _⟩
 · rw [hv] at hg; cases hg
 · rw [hv] at hg; cases hg; exact ⟨cur, hh⟩
theorem Its.YP {T : Nat → Prop} {w : World} {l LB YB FB DB : Nat} {lv : Value} {L : List Seg} {lf : Bool} (h : Its T w l LB YB FB DB lv L lf) : LB ≠ YB ∧ LB ≠ FB ∧ LB ≠ DB ∧ YB ≠ FB ∧ YB ≠ DB ∧ FB ≠ DB ∧ ∀ g, lv.ownBlock = some g → g ≠ LB ∧ g ≠ YB ∧ g ≠ FB ∧ g ≠ DB :=
 ⟨zz h.later h.yld (by decide), zz h.later h.flag (by decide), zz h.later h.down (by decide), zz h.yld h.flag (by decide), zz h.yld h.down (by decide), zz h.flag h.down (by decide), fun g hg => by
  obtain ⟨cur, hc⟩ := kV h.row hg
  exact ⟨zz hc h.later (by decide), zz hc h.yld (by decide), zz hc h.flag (by decide), zz hc h.down (by decide)⟩⟩
theorem Its.kept {T T' : Nat → Prop} {w w' : World} {l LB YB FB DB : Nat} {lv : Value} {L : List Seg} {lf : Bool} (h : Its T w l LB YB FB DB lv L lf) (hk : ∀ x, T x → w'.heap[x]? = w.heap[x]?) (hT : ∀ x, T x → T' x) (hs : ∀ x, T' x → x < w'.heap.size) : Its T' w' l LB YB FB DB lv L lf :=
 ⟨(hk _ h.hl).trans h.later, zw h.row (fun g _ _ hgo => hk g (h.hr g hgo)), (hk _ h.hy).trans h.yld, (hk _ h.hf).trans h.flag, (hk _ h.hd).trans h.down, hT _ h.hl, hT _ h.hy, hT _ h.hf, hT _ h.hd, fun g hg => hT g (h.hr g hg), hs⟩
theorem Its.Qa {T T' : Nat → Prop} {w w' : World} {l LB YB FB DB : Nat} {lv : Value} {L : List Seg} {lf b : Bool} (h : Its T w l LB YB FB DB lv L lf) (hk : ∀ x, T x → x ≠ FB → w'.heap[x]? = w.heap[x]?) (hf : w'.heap[FB]? = some (.cells #[.bool b] 4 (0, 0))) (hT : ∀ x, T x → T' x) (hs : ∀ x, T' x → x < w'.heap.size) : Its T' w' l LB YB FB DB lv L b := by
 obtain ⟨n1, n2, n3, n4, n5, n6, n7⟩ := h.YP
 exact ⟨(hk _ h.hl n2).trans h.later, zw h.row (fun g _ _ hgo => hk g (h.hr g hgo) (n7 g hgo).2.2.1), (hk _ h.hy n4).trans h.yld, hf, (hk _ h.hd n6.symm).trans h.down, hT _ h.hl, hT _ h.hy, hT _ h.hf, hT _ h.hd, fun g hg => hT g (h.hr g hg), hs⟩
theorem Its.JV {T T' : Nat → Prop} {w w' : World} {l LB YB FB DB : Nat} {lv lv' : Value} {L L' : List Seg} {lf : Bool} (h : Its T w l LB YB FB DB lv L lf) (hk : ∀ x, T x → x ≠ LB → lv.ownBlock ≠ some x → w'.heap[x]? = w.heap[x]?) (hl : w'.heap[LB]? = some (.cells #[lv'] 176 (0, 0))) (ho : w'.ownsRow 0 175 2 lv' L'.length (L'.flatMap Seg.cells))
 (hr : ∀ g, lv'.ownBlock = some g → T' g) (hT : ∀ x, T x → T' x) (hs : ∀ x, T' x → x < w'.heap.size) : Its T' w' l LB YB FB DB lv' L' lf := by
 obtain ⟨n1, n2, n3, n4, n5, n6, n7⟩ := h.YP
 exact ⟨hl, ho, (hk _ h.hy n1.symm (fun e => (n7 _ e).2.1 rfl)).trans h.yld, (hk _ h.hf n2.symm (fun e => (n7 _ e).2.2.1 rfl)).trans h.flag, (hk _ h.hd n3.symm (fun e => (n7 _ e).2.2.2 rfl)).trans h.down, hT _ h.hl, hT _ h.hy, hT _ h.hf, hT _ h.hd, hr, hs⟩
structure y9 (T T' : Nat → Prop) (w w' : World) (LB FB : Nat) (lv lv' : Value) : Prop where
 wide : ∀ x, T x → T' x
 new : ∀ x, T' x → T x ∨ w.heap.size ≤ x
 size : w.heap.size ≤ w'.heap.size
 same : ∀ x, T x → x ≠ LB → x ≠ FB → lv.ownBlock ≠ some x → w'.heap[x]? = w.heap[x]?
 row : lv'.ownBlock = lv.ownBlock ∨ ∀ g, lv'.ownBlock = some g → w.heap.size ≤ g
theorem y9.trans {T T1 T2 : Nat → Prop} {w w1 w2 : World} {LB FB : Nat} {lv lv1 lv2 : Value} (h : y9 T T1 w w1 LB FB lv lv1) (k : y9 T1 T2 w1 w2 LB FB lv1 lv2) (hs : ∀ x, T x → x < w.heap.size) : y9 T T2 w w2 LB FB lv lv2 where
 wide := fun x hx => k.wide x (h.wide x hx)
 new := fun x hx => by
  have := h.size
  rcases k.new x hx with h1 | h1
  · exact h.new x h1
  · exact Or.inr (by omega)
 size := Nat.le_trans h.size k.size
 same := fun x hx h1 h2 h3 => (k.same x (h.wide x hx) h1 h2 (fun e => by
  rcases h.row with hr | hr
  · rw [hr] at e; exact h3 e
  · have := hr x e; have := hs x hx; omega)).trans (h.same x hx h1 h2 h3)
 row := by
  have := h.size
  rcases k.row with h1 | h1
  · rw [h1]; exact h.row
  · exact Or.inr fun g hg => by have := h1 g hg; omega
def vH (J : (Nat → Prop) → List Seg → World → Prop) (Jx : (Nat → Prop) → World → Prop) (M k : Nat) (s : Seg) (A A' : List Seg) (T : Nat → Prop) (bl lf : Bool) (w : World) : Prop :=
 (bl = true ∧ lf = false ∧ A' = [] ∧ J T A w) ∨ (bl = false ∧ A'.length ≤ zb s.f ∧ ((lf = false ∧ J T (A' ++ A) w ∧ (∀ x ∈ A', vJ M x ∧ x.f ≠ .nil) ∧ zG A' ≤ zb s.f ∧ (0 < k → zG A' < zb s.f)) ∨ (lf = true ∧ Jx T w)))
def kL (J : (Nat → Prop) → List Seg → World → Prop) (Jx : (Nat → Prop) → World → Prop) (M k l LB YB FB DB : Nat) (T : Nat → Prop) (s : Seg) (A L : List Seg) (lv : Value) (w : World) (e : Ending) (w' : World) : Prop :=
 ∃ (bl lf : Bool) (T' : Nat → Prop) (lv' : Value) (A' : List Seg), e = .returned (.bool bl) ∧ y9 T T' w w' LB FB lv lv' ∧ Its T' w' l LB YB FB DB lv' (L ++ A') lf ∧ vH J Jx M k s A A' T' bl lf w'
def Yp (J : (Nat → Prop) → List Seg → World → Prop) (Jx : (Nat → Prop) → World → Prop) (M l LB YB FB DB k : Nat) : Prop :=
 ∀ (T : Nat → Prop) (w : World) (s : Seg) (A L : List Seg) (lv : Value), Its T w l LB YB FB DB lv L false → J T (s :: A) w → vJ M s → L.length + zb s.f ≤ 1000000 →
  Calls Tryz.prog 132 #[.agg #[.int .i64 (s.d : Int), s.v], .int .i64 (k : Int), .pointer (some ⟨LB, 0, none⟩), .pointer (some ⟨YB, 0, none⟩), .pointer (some ⟨FB, 0, none⟩), .pointer (some ⟨DB, 0, none⟩)] w (kL J Jx M k l LB YB FB DB T s A L lv w)
theorem YieldAt.Qv {m : Nat} (m' : Nat) {P : Program} {l : Nat} {args : Array Value} {W : World} {R : Ending → World → Prop} (h : YieldAt Fence.wide m P l args W R) : YieldAt Fence.wide m' P l args W R := by
 obtain ⟨fn, tmps, assign, body, hy, hr⟩ := h
 exact ⟨fn, tmps, assign, body, hy, hr.1, fun c cs _ => hr.2 c cs (room_wide _)⟩
end Go.Proofs.YtchccbfljamjnaaGreat
