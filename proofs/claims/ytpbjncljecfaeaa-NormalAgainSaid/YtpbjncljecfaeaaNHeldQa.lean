/-
  A step that is held: as it came, and the texts that wait beside it. No condition.
-/
import Derived.Test.YtpbjncljecfaeaaNMapQa
import Derived.Test.YtpbjncljecfaeaaNRowsQa
import Derived.Test.YtpbjncljecfaeaaNOfQa
namespace Go.Proofs.Ytpbjncljecfaeaa
open Go.RowKit Go.Shelf
set_option linter.unusedVariables false
set_option linter.unusedSimpArgs false

theorem wiF_tx (i : Int) (a b : ByteArray) (f : Fo) : (wiF i a f).2 = (wiF i b f).2 := by
  have V : World := default
  rw [wiF_first (V := V) i a f 0 0, wiF_first (V := V) i b f 0 0]
theorem wiF_sameIds (i j : Int) (a b : ByteArray) : ∀ f : Fo, (wiF i a (wiF j b f).1).2 = (wiF i a f).2
  | .nil => rfl
  | .node x y k l r => by
    rw [wiF]
    by_cases h : k.1 = j
    · rw [if_pos h, wiF, wiF]
      by_cases h2 : k.1 = i
      · rw [if_pos h2, if_pos h2]
      · rw [if_neg h2, if_neg h2]
        by_cases h3 : (wiF i a l).2 = true
        · rw [if_pos h3, if_pos h3]
        · rw [if_neg h3, if_neg h3]
    · rw [if_neg h]
      have e1 := wiF_sameIds i j a b l
      have e2 := wiF_sameIds i j a b r
      by_cases h1 : (wiF j b l).2 = true
      · rw [if_pos h1, wiF, wiF]
        by_cases h2 : k.1 = i
        · rw [if_pos h2, if_pos h2]
        · rw [if_neg h2, if_neg h2]
          by_cases h3 : (wiF i a l).2 = true
          · rw [if_pos h3, if_pos (by rw [e1]; exact h3)]
          · rw [if_neg h3, if_neg (by rw [e1]; exact h3)]
      · rw [if_neg h1, wiF, wiF]
        by_cases h2 : k.1 = i
        · rw [if_pos h2, if_pos h2]
        · rw [if_neg h2, if_neg h2]
          by_cases h3 : (wiF i a l).2 = true
          · rw [if_pos h3, if_pos h3]
          · rw [if_neg h3, if_neg h3]; exact e2
theorem wiF_ok (i : Int) (a : ByteArray) : ∀ f : Fo, idsOk f → idsOk (wiF i a f).1
  | .nil, h => h
  | .node x y k l r, ⟨h1, h2, h3⟩ => by
    rw [wiF]
    split
    · exact ⟨h1, h2, h3⟩
    · split
      · exact ⟨h1, wiF_ok i a l h2, h3⟩
      · exact ⟨h1, h2, wiF_ok i a r h3⟩
theorem wiT_root (i : Int) (a : ByteArray) (t : Tr) : rootF (wiT i a t).1 = (wiF i a (rootF t)).1 ∧ (wiT i a t).2 = (wiF i a (rootF t)).2 := by rw [wiF_root]; exact ⟨rfl, rfl⟩
/-- A tree behind texts. -/
def subT (u : Tr) (ts : List SV) : Tr := ts.foldl (fun u t => (wiT t.s.id t.s.tx u).1) u
theorem subT_snoc (u : Tr) (ts : List SV) (t : SV) : subT u (ts ++ [t]) = (wiT t.s.id t.s.tx (subT u ts)).1 := by simp [subT, List.foldl_append]
theorem subT_size : ∀ (ts : List SV) (u : Tr), foSize (subT u ts).kids = foSize u.kids
  | [], _ => rfl
  | t :: ts, u => by
    show foSize (subT (wiT t.s.id t.s.tx u).1 ts).kids = _
    rw [subT_size ts, wiT_size]
theorem subT_has (i : Int) (a : ByteArray) : ∀ (ts : List SV) (u : Tr), (wiT i a (subT u ts)).2 = (wiT i a u).2
  | [], _ => rfl
  | t :: ts, u => by
    show (wiT i a (subT (wiT t.s.id t.s.tx u).1 ts)).2 = _
    rw [subT_has i a ts, (wiT_root i a _).2, (wiT_root _ _ _).1, wiF_sameIds, ← (wiT_root i a u).2]
structure HV where
  x : SV
  ts : List SV
  ta : Option Addr
  tc : Nat
  m : Option Nat
/-- The step as it came to be. -/
def HV.sf (h : HV) : Sf := ⟨h.x.s.op, h.x.s.id, h.x.s.par, h.x.s.at_, h.x.s.tx, subT h.x.s.sub h.ts⟩
def HV.tv (h : HV) : Value := .slice h.ta h.ts.length h.tc
def NodesOk (V : World) (m : Option Nat) (u : Tr) : Prop := match m with
  | none => True
  | some mb => ∃ n L, FirstsAt V mb n L ∧ ∀ i, (firstA i L).isSome = (wiT i ⟨#[]⟩ u).2
/-- Where a step's texts go to: what is held. -/
structure HeldOk (h : HV) : Prop where
  small : foSize h.x.s.sub.kids + 1 ≤ 100000
  ids : idsOk (rootF h.x.s.sub)
  tsIn : ∀ t ∈ h.ts, (wiT t.s.id t.s.tx h.x.s.sub).2 = true ∧ (Lit.int .i64 t.s.id).wf = true
  few : h.ts.length ≤ 10000
structure HeldAt (w0 V : World) (hb : Nat) (h : HV) : Prop where
  cells : V.heap[hb]? = some (.cells #[.int .i8 h.x.s.op, .int .i64 h.x.s.id, .int .i64 h.x.s.par, .int .i64 h.x.s.at_, .string h.x.s.tx, .int .i64 h.x.s.sub.id, .int .i64 h.x.s.sub.kind, .string h.x.s.sub.text, .slice h.x.a (foLen h.x.s.sub.kids) h.x.c, .map h.m, .slice h.ta h.ts.length h.tc] 48 (0, 0))
  lies : LiesI w0 h.x.s.sub.kids h.x.a h.x.c
  texts : V.ownsRow w0.heap.size 27 9 (.slice h.ta h.ts.length h.tc) h.ts.length (cells9 h.ts)
  nodes : NodesOk V h.m h.x.s.sub
  base : w0.heap.size ≤ hb
  mbase : ∀ m, h.m = some m → w0.heap.size ≤ m
/-- The blocks that are the held step's own. -/
def HV.own (h : HV) (hb : Nat) (q : Nat) : Prop := q = hb ∨ h.tv.ownBlock = some q ∨ h.m = some q
theorem HeldAt.kept {w0 V V' : World} {hb : Nat} {h : HV} (hh : HeldAt w0 V hb h) (hk : ∀ q, h.own hb q → V'.heap[q]? = V.heap[q]?) : HeldAt w0 V' hb h where
  cells := (hk hb (Or.inl rfl)).trans hh.cells
  lies := hh.lies
  texts := owns_kept hh.texts (fun g cur _ hg => hk g (Or.inr (Or.inl hg)))
  nodes := by
    have h1 := hh.nodes
    unfold NodesOk at h1 ⊢
    cases hm : h.m with
    | none => trivial
    | some mb =>
      rw [hm] at h1
      obtain ⟨n, L, h2, h3⟩ := h1
      exact ⟨n, L, h2.at (hk mb (Or.inr (Or.inr hm))), h3⟩
  base := hh.base
  mbase := hh.mbase
theorem HeldAt.lt {w0 V : World} {hb : Nat} {h : HV} (hh : HeldAt w0 V hb h) : ∀ q, h.own hb q → w0.heap.size ≤ q ∧ q < V.heap.size := fun q hq => by
  rcases hq with rfl | hq | hq
  · exact ⟨hh.base, lt_of_heap hh.cells⟩
  · exact owns_bounds hh.texts hq
  · have h1 := hh.nodes
    unfold NodesOk at h1
    rw [hq] at h1
    obtain ⟨n, L, h2, _⟩ := h1
    exact ⟨hh.mbase q hq, h2.lt⟩
theorem fo_cb {w : World} {S : Nat → Prop} : ∀ {f : Fo} {a : Option Addr}, FoAt w S f a → FoAt w (fun q => S q ∧ CellsB w q) f a
  | .nil, _, _ => True.intro
  | .node _ _ k l r, a, h => by
    obtain ⟨b, off, ka, cap, e, hb, h0, h1, h2, h3, hc, hl, hr⟩ := h
    exact ⟨b, off, ka, cap, e, ⟨hb, cellsB h0⟩, h0, h1, h2, h3, hc, fo_cb hl, fo_cb hr⟩
theorem preA_text {V : World} {X : Nat → Prop} : ∀ {f : Fo} {b o : Nat} {p : Int × (Nat × Nat)}, FoAt V X f (some ⟨b, o, none⟩) → p ∈ preA V f b o → ∃ tx, V.cell? ⟨p.2.1, p.2.2 + 2, none⟩ = some (.string tx)
  | .nil, _, _, _, _, h => by simp [preA] at h
  | .node _ _ k l r, b, o, p, hf, h => by
    obtain ⟨b1, o1, ka, cap, e, hb, _, _, c2, h3, _, hl, hr⟩ := hf
    cases e
    rw [preA, kidsA_of h3] at h
    rcases List.mem_cons.1 h with rfl | h
    · exact ⟨_, c2⟩
    · rcases List.mem_append.1 h with h | h
      · cases l with
        | nil => simp [preA] at h
        | node x y k2 l2 r2 =>
          obtain ⟨g, go, e, hg⟩ := fo_blk hl (by simp)
          subst e
          exact preA_text hl h
      · exact preA_text hr h
end Go.Proofs.Ytpbjncljecfaeaa
