/-
  What a reader of layer 3 is in memory: plain definitions and their small laws. No condition.
  A walk over rows of nodes that wait: plain definitions and their laws. No condition.
-/
import Derived.Test.YtpbjncljecfaeaaRows
import Derived.WalkKit
import Derived.WalkSpells
import Derived.WalkLawsBesides
import Derived.Deep.AppendLies
import Derived.Stop.BytesEq
import Derived.Lib.Hide
import Derived.Defers
import Derived.Recover
import Derived.BigQuiet
import Derived.RangeFuncNested
import Derived.RangeFuncBound
import Derived.RangeFuncCalls
import Derived.RangeFuncLeaves
import Derived.RangeFuncWrites
import Derived.Shelf.Abstract
import Derived.Shelf.RegionOpen
import Derived.OwnWalkIn
import Derived.TacticsInMore
import Derived.LoopNIn
import Derived.LoopIn
import Derived.OrdersIn
import Derived.Deep.RegionHeld
import Derived.Test.YtpbjncljecfaeaaTreeQf
namespace Go.Proofs.Ytpbjncljecfaeaa
open Go.RowKit
open Extern.Stop (cell)

/-- From w to w' nothing of what was there turns, but in the blocks of S. -/
structure Touched (w w' : World) (S : Nat → Prop) : Prop where
  os : w'.os = w.os
  tape : w'.tape = w.tape
  output : w'.output = w.output
  size : w.heap.size ≤ w'.heap.size
  block : ∀ k, k < w.heap.size → ¬ S k → w'.heap[k]? = w.heap[k]?
theorem Touched.refl (w : World) (S : Nat → Prop) : Touched w w S := ⟨rfl, rfl, rfl, Nat.le_refl _, fun _ _ _ => rfl⟩
theorem Touched.trans {w w1 w2 : World} {S S' : Nat → Prop} (h : Touched w w1 S) (h2 : Touched w1 w2 S') (hS : ∀ k, S' k → S k ∨ w.heap.size ≤ k) : Touched w w2 S :=
  ⟨h2.os.trans h.os, h2.tape.trans h.tape, h2.output.trans h.output, Nat.le_trans h.size h2.size, fun k hk hn => by
    rw [h2.block k (Nat.lt_of_lt_of_le hk h.size) (fun hs => by
      rcases hS k hs with h' | h'
      · exact hn h'
      · omega), h.block k hk hn]⟩
theorem Touched.setCell {w : World} {S : Nat → Prop} {a : Addr} (ha : S a.block) (v : Value) : Touched w (w.setCell a v) S :=
  ⟨rfl, rfl, rfl, by simp [World.setCell], fun k _ hn => Below.heap_setCell _ _ _ _ (fun e => hn (e ▸ ha))⟩
theorem Touched.drew {w w' : World} {S : Nat → Prop} (h : Touched w w' S) : Touched w w'.drew S := ⟨h.os, h.tape, h.output, h.size, h.block⟩
theorem Touched.alloc {w w' : World} {S : Nat → Prop} (h : Touched w w' S) (o : Obj) : Touched w (w'.alloc o) S :=
  ⟨h.os, h.tape, h.output, by rw [World.size_alloc]; have := h.size; omega, fun k hk hn => by
    rw [Below.heap_alloc _ _ _ (Nat.lt_of_lt_of_le hk h.size)]; exact h.block k hk hn⟩
theorem lt_of_heap {w : World} {k : Nat} {o : Obj} (h : w.heap[k]? = some o) : k < w.heap.size := (Array.getElem?_eq_some_iff.1 h).1

end Go.Proofs.Ytpbjncljecfaeaa
namespace Go.Proofs.Ytpbjncljecfaeaa
open Go.RowKit

/-- A row of nodes that waits: how deep it is, where it lies. -/
structure Seg where
  d : Nat
  a : Option Addr
  cap : Nat
  f : Fo
def Seg.v (s : Seg) : Value := .slice s.a (foLen s.f) s.cap
def Seg.cells (s : Seg) : List Value := [.int .i64 (s.d : Int), s.v]
def agSize (A : List Seg) : Nat := (A.map fun s => foSize s.f).sum
theorem agSize_nil : agSize [] = 0 := rfl
theorem agSize_cons (s : Seg) (A : List Seg) : agSize (s :: A) = foSize s.f + agSize A := by simp [agSize]
theorem agSize_append (A B : List Seg) : agSize (A ++ B) = agSize A + agSize B := by simp [agSize]
theorem agSize_reverse (A : List Seg) : agSize A.reverse = agSize A := by
  induction A with
  | nil => rfl
  | cons s A ih => rw [List.reverse_cons, agSize_append, ih, agSize_cons, agSize_cons, agSize_nil]; omega
structure SegOk (M : Nat) (s : Seg) : Prop where
  deep : s.d + foSize s.f ≤ M
  cap : foLen s.f ≤ s.cap
theorem fo_pos : ∀ {f : Fo}, f ≠ .nil → 1 ≤ foSize f
  | .nil, h => absurd rfl h
  | .node _ _ _ _ _, _ => by simp [foSize]
theorem fo_len_pos : ∀ {f : Fo}, f ≠ .nil → 1 ≤ foLen f
  | .nil, h => absurd rfl h
  | .node _ _ _ _ _, _ => by simp [foLen]
theorem ag_length : ∀ (A : List Seg), (∀ s ∈ A, s.f ≠ .nil) → A.length ≤ agSize A
  | [], _ => Nat.le_refl _
  | s :: A, h => by
    have h1 := ag_length A (fun x hx => h x (List.mem_cons_of_mem _ hx))
    have h2 := fo_pos (h s (by simp))
    rw [agSize_cons, List.length_cons]; omega

/-- What T's blocks hold is as it was. -/
def Kept (T : Nat → Prop) (w w' : World) : Prop := w.heap.size ≤ w'.heap.size ∧ ∀ x, T x → w'.heap[x]? = w.heap[x]?
theorem Kept.trans {T : Nat → Prop} {a b c : World} (h : Kept T a b) (k : Kept T b c) : Kept T a c := ⟨Nat.le_trans h.1 k.1, fun x hx => (k.2 x hx).trans (h.2 x hx)⟩
/-- T with blocks that came since. -/
def Wider (T T' : Nat → Prop) (w w' : World) : Prop := ∀ x, T' x → T x ∨ (w.heap.size ≤ x ∧ x < w'.heap.size)

/-- What a body of a loop over such a walk bears: J: T's blocks are the walk's own, the rows of A wait. -/
structure Body (P : Program) (m l : Nat) (J : (Nat → Prop) → List Seg → World → Prop) (Jx : (Nat → Prop) → World → Prop) : Prop where
  turn : ∀ {T T' : Nat → Prop} {A : List Seg} {w w' : World}, J T A w → Touched w w' T → Wider T T' w w' → J T' A w'
  turnx : ∀ {T T' : Nat → Prop} {w w' : World}, Jx T w → Touched w w' T → Wider T T' w w' → Jx T' w'
  empty : ∀ {T : Nat → Prop} {A B : List Seg} {d c : Nat} {a : Option Addr} {w : World}, J T (A ++ ⟨d, a, c, .nil⟩ :: B) w → J T (A ++ B) w
  yield : ∀ {T : Nat → Prop} {d c bo oo : Nat} {a : Option Addr} {key : Int × Int × ByteArray} {k r : Fo} {A : List Seg} {w : World}, (∀ x, T x → x < w.heap.size) → J T (⟨d, a, c, .node bo oo key k r⟩ :: A) w →
    ∃ b off, a = some ⟨b, off, none⟩ ∧ YieldAt Fence.wide m P l #[.int .i64 (d : Int), .pointer (some ⟨b, off, none⟩)] w fun e w' => Kept T w w' ∧
      ((e = .returned (.bool true) ∧ ∃ ka kc, w'.cell? ⟨b, off + 3, none⟩ = some (.slice ka (foLen k) kc) ∧ foLen k ≤ kc ∧ J T (⟨d + 1, ka, kc, k⟩ :: ⟨d, some ⟨b, off + 4, none⟩, c - 1, r⟩ :: A) w') ∨ (e = .returned (.bool false) ∧ Jx T w'))

/-- The walk's own variables. -/
structure Its (T : Nat → Prop) (w : World) (l LB YB FB DB : Nat) (lv : Value) (L : List Seg) (lf : Bool) : Prop where
  later : w.heap[LB]? = some (.cells #[lv] 93 (0, 0))
  row : w.ownsRow 0 92 2 lv L.length (L.flatMap Seg.cells)
  yld : w.heap[YB]? = some (.cells #[.func (.yield l) #[] #[]] 90 (0, 0))
  flag : w.heap[FB]? = some (.cells #[.bool lf] 4 (0, 0))
  down : w.heap[DB]? = some (.cells #[.func (.func 49) #[] #[.pointer (some ⟨LB, 0, none⟩), .pointer (some ⟨YB, 0, none⟩), .pointer (some ⟨FB, 0, none⟩), .pointer (some ⟨DB, 0, none⟩)]] 94 (0, 0))
  hl : T LB
  hy : T YB
  hf : T FB
  hd : T DB
  hr : ∀ g, lv.ownBlock = some g → T g
  sub : ∀ x, T x → x < w.heap.size
theorem cells_len (L : List Seg) : (L.flatMap Seg.cells).length = L.length * 2 := by
  induction L with
  | nil => rfl
  | cons s L ih => rw [List.flatMap_cons, List.length_append, ih, List.length_cons]; simp [Seg.cells]; omega
theorem ne_of_type {w : World} {x y : Nat} {cs cs' : Array Value} {t t' : TypeId} {fr fr' : Nat × Nat} (h : w.heap[x]? = some (.cells cs t fr)) (h' : w.heap[y]? = some (.cells cs' t' fr')) (ht : t ≠ t') : x ≠ y := fun e => by
  subst e; rw [h] at h'; cases h'; exact ht rfl
theorem own_typed {w : World} {B : Nat} {e : TypeId} {size : Nat} {v : Value} {n : Nat} {xs : List Value} (h : w.ownsRow B e size v n xs) {g : Nat} (hg : v.ownBlock = some g) : ∃ cur, w.heap[g]? = some (.cells cur e (0, 0)) := by
  rcases h.2 with ⟨hv, _⟩ | ⟨g', cap, cur, hv, hB, hh, _⟩
  · rw [hv] at hg; cases hg
  · rw [hv] at hg; cases hg; exact ⟨cur, hh⟩
theorem Its.nelF {T : Nat → Prop} {w : World} {l LB YB FB DB : Nat} {lv : Value} {L : List Seg} {lf : Bool} (h : Its T w l LB YB FB DB lv L lf) : LB ≠ YB ∧ LB ≠ FB ∧ LB ≠ DB ∧ YB ≠ FB ∧ YB ≠ DB ∧ FB ≠ DB ∧ ∀ g, lv.ownBlock = some g → g ≠ LB ∧ g ≠ YB ∧ g ≠ FB ∧ g ≠ DB :=
  ⟨ne_of_type h.later h.yld (by decide), ne_of_type h.later h.flag (by decide), ne_of_type h.later h.down (by decide), ne_of_type h.yld h.flag (by decide), ne_of_type h.yld h.down (by decide), ne_of_type h.flag h.down (by decide), fun g hg => by
    obtain ⟨cur, hc⟩ := own_typed h.row hg
    exact ⟨ne_of_type hc h.later (by decide), ne_of_type hc h.yld (by decide), ne_of_type hc h.flag (by decide), ne_of_type hc h.down (by decide)⟩⟩
/-- Where all of them are as they were. -/
theorem Its.kept {T T' : Nat → Prop} {w w' : World} {l LB YB FB DB : Nat} {lv : Value} {L : List Seg} {lf : Bool} (h : Its T w l LB YB FB DB lv L lf) (hk : ∀ x, T x → w'.heap[x]? = w.heap[x]?) (hT : ∀ x, T x → T' x) (hs : ∀ x, T' x → x < w'.heap.size) : Its T' w' l LB YB FB DB lv L lf :=
  ⟨(hk _ h.hl).trans h.later, owns_kept h.row (fun g _ _ hgo => hk g (h.hr g hgo)), (hk _ h.hy).trans h.yld, (hk _ h.hf).trans h.flag, (hk _ h.hd).trans h.down, hT _ h.hl, hT _ h.hy, hT _ h.hf, hT _ h.hd, fun g hg => hT g (h.hr g hg), hs⟩
/-- The flag is laid. -/
theorem Its.flagged {T T' : Nat → Prop} {w w' : World} {l LB YB FB DB : Nat} {lv : Value} {L : List Seg} {lf b : Bool} (h : Its T w l LB YB FB DB lv L lf) (hk : ∀ x, T x → x ≠ FB → w'.heap[x]? = w.heap[x]?) (hf : w'.heap[FB]? = some (.cells #[.bool b] 4 (0, 0))) (hT : ∀ x, T x → T' x) (hs : ∀ x, T' x → x < w'.heap.size) : Its T' w' l LB YB FB DB lv L b := by
  obtain ⟨n1, n2, n3, n4, n5, n6, n7⟩ := h.nelF
  exact ⟨(hk _ h.hl n2).trans h.later, owns_kept h.row (fun g _ _ hgo => hk g (h.hr g hgo) (n7 g hgo).2.2.1), (hk _ h.hy n4).trans h.yld, hf, (hk _ h.hd n6.symm).trans h.down, hT _ h.hl, hT _ h.hy, hT _ h.hf, hT _ h.hd, fun g hg => hT g (h.hr g hg), hs⟩
/-- Another row of those that are put off. -/
theorem Its.rowed {T T' : Nat → Prop} {w w' : World} {l LB YB FB DB : Nat} {lv lv' : Value} {L L' : List Seg} {lf : Bool} (h : Its T w l LB YB FB DB lv L lf) (hk : ∀ x, T x → x ≠ LB → lv.ownBlock ≠ some x → w'.heap[x]? = w.heap[x]?) (hl : w'.heap[LB]? = some (.cells #[lv'] 93 (0, 0))) (ho : w'.ownsRow 0 92 2 lv' L'.length (L'.flatMap Seg.cells))
    (hr : ∀ g, lv'.ownBlock = some g → T' g) (hT : ∀ x, T x → T' x) (hs : ∀ x, T' x → x < w'.heap.size) : Its T' w' l LB YB FB DB lv' L' lf := by
  obtain ⟨n1, n2, n3, n4, n5, n6, n7⟩ := h.nelF
  exact ⟨hl, ho, (hk _ h.hy n1.symm (fun e => (n7 _ e).2.1 rfl)).trans h.yld, (hk _ h.hf n2.symm (fun e => (n7 _ e).2.2.1 rfl)).trans h.flag, (hk _ h.hd n3.symm (fun e => (n7 _ e).2.2.2 rfl)).trans h.down, hT _ h.hl, hT _ h.hy, hT _ h.hf, hT _ h.hd, hr, hs⟩

/-- What becomes of the own blocks in a call of 'down'. -/
structure Went (T T' : Nat → Prop) (w w' : World) (LB FB : Nat) (lv lv' : Value) : Prop where
  wide : ∀ x, T x → T' x
  new : ∀ x, T' x → T x ∨ w.heap.size ≤ x
  size : w.heap.size ≤ w'.heap.size
  same : ∀ x, T x → x ≠ LB → x ≠ FB → lv.ownBlock ≠ some x → w'.heap[x]? = w.heap[x]?
  row : lv'.ownBlock = lv.ownBlock ∨ ∀ g, lv'.ownBlock = some g → w.heap.size ≤ g
theorem Went.trans {T T1 T2 : Nat → Prop} {w w1 w2 : World} {LB FB : Nat} {lv lv1 lv2 : Value} (h : Went T T1 w w1 LB FB lv lv1) (k : Went T1 T2 w1 w2 LB FB lv1 lv2) (hs : ∀ x, T x → x < w.heap.size) : Went T T2 w w2 LB FB lv lv2 where
  wide := fun x hx => k.wide x (h.wide x hx)
  new := fun x hx => by
    have := h.size
    rcases k.new x hx with h1 | h1
    · exact h.new x h1
    · exact Or.inr (by omega)
  size := Nat.le_trans h.size k.size
  same := fun x hx h1 h2 h3 => (k.same x (h.wide x hx) h1 h2 (fun e => by
    rcases h.row with hr | hr
    · rw [hr] at e; exact h3 e
    · have := hr x e; have := hs x hx; omega)).trans (h.same x hx h1 h2 h3)
  row := by
    have := h.size
    rcases k.row with h1 | h1
    · rw [h1]; exact h.row
    · exact Or.inr fun g hg => by have := h1 g hg; omega

/-- What a call of 'down' with the row s, the rows A behind it, comes to. -/
def DownOut (J : (Nat → Prop) → List Seg → World → Prop) (Jx : (Nat → Prop) → World → Prop) (M k : Nat) (s : Seg) (A A' : List Seg) (T : Nat → Prop) (bl lf : Bool) (w : World) : Prop :=
  (bl = true ∧ lf = false ∧ A' = [] ∧ J T A w) ∨ (bl = false ∧ A'.length ≤ foSize s.f ∧ ((lf = false ∧ J T (A' ++ A) w ∧ (∀ x ∈ A', SegOk M x ∧ x.f ≠ .nil) ∧ agSize A' ≤ foSize s.f ∧ (0 < k → agSize A' < foSize s.f)) ∨ (lf = true ∧ Jx T w)))
def DownC (J : (Nat → Prop) → List Seg → World → Prop) (Jx : (Nat → Prop) → World → Prop) (M k l LB YB FB DB : Nat) (T : Nat → Prop) (s : Seg) (A L : List Seg) (lv : Value) (w : World) (e : Ending) (w' : World) : Prop :=
  ∃ (bl lf : Bool) (T' : Nat → Prop) (lv' : Value) (A' : List Seg), e = .returned (.bool bl) ∧ Went T T' w w' LB FB lv lv' ∧ Its T' w' l LB YB FB DB lv' (L ++ A') lf ∧ DownOut J Jx M k s A A' T' bl lf w'
def DownAt (J : (Nat → Prop) → List Seg → World → Prop) (Jx : (Nat → Prop) → World → Prop) (M l LB YB FB DB k : Nat) : Prop :=
  ∀ (T : Nat → Prop) (w : World) (s : Seg) (A L : List Seg) (lv : Value), Its T w l LB YB FB DB lv L false → J T (s :: A) w → SegOk M s → L.length + foSize s.f ≤ 1000000 →
    Calls Try.prog 49 #[.agg #[.int .i64 (s.d : Int), s.v], .int .i64 (k : Int), .pointer (some ⟨LB, 0, none⟩), .pointer (some ⟨YB, 0, none⟩), .pointer (some ⟨FB, 0, none⟩), .pointer (some ⟨DB, 0, none⟩)] w (DownC J Jx M k l LB YB FB DB T s A L lv w)
/-- Where the depth is free, a round may be wanted from whatever depth. -/
theorem YieldAt.anyDepthW {m : Nat} (m' : Nat) {P : Program} {l : Nat} {args : Array Value} {W : World} {R : Ending → World → Prop} (h : YieldAt Fence.wide m P l args W R) : YieldAt Fence.wide m' P l args W R := by
  obtain ⟨fn, tmps, assign, body, hy, hr⟩ := h
  exact ⟨fn, tmps, assign, body, hy, hr.1, fun c cs _ => hr.2 c cs (room_wide _)⟩
end Go.Proofs.Ytpbjncljecfaeaa
