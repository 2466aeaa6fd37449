/-
  A map from ids to pointers: what it holds, how it is looked up. No condition.
  A step that is held: as it came, and the texts that wait beside it. No condition.
-/
import Derived.Carry
import Derived.Maps.OwnSet
import Derived.Maps.OwnOps
import Derived.Maps.AppendAt
import Derived.Test.YtpbjncljecfaeaaNPreQf
import Derived.Test.YtpbjncljecfaeaaNRowsQf
import Derived.Test.YtpbjncljecfaeaaNCopiedQf
namespace Go.Proofs.Ytpbjncljecfaeaa
open Go.RowKit Go.Shelf
open Go.Maps
set_option linter.unusedVariables false
set_option linter.unusedSimpArgs false

/-- A pointer, as an element that reads as itself. -/
def ptrE (v : Value) : Option (DataW Value × List MemPlace) := match v with
  | .pointer _ => some (.held v, [])
  | _ => none
theorem ptrE_inv {v : Value} {z : DataW Value × List MemPlace} (h : ptrE v = some z) : z = (.held v, []) := by
  unfold ptrE at h
  split at h
  · cases h; rfl
  · cases h
def mapN (L : List (Int × Value)) : DataW Value := L.foldl (fun D p => D.put (.int .i64 p.1) (.held p.2)) (.map [])
theorem mapN_snoc (L : List (Int × Value)) (p : Int × Value) : mapN (L ++ [p]) = (mapN L).put (.int .i64 p.1) (.held p.2) := by simp [mapN, List.foldl_append]
theorem tidy_put (p : Int × Value) {D : DataW Value} (h : Tidy D) : Tidy (D.put (.int .i64 p.1) (.held p.2)) := h.put (show WideAt.IsKeyLit (Lit.int .i64 p.1) by trivial) _
theorem mapN_tidy (L : List (Int × Value)) : Tidy (mapN L) := by
  have key : ∀ (L : List (Int × Value)) (D : DataW Value), Tidy D → Tidy (L.foldl (fun D p => D.put (.int .i64 p.1) (.held p.2)) D) := by
    intro L
    induction L with
    | nil => intro D h; exact h
    | cons p L ih => intro D h; exact ih _ (tidy_put p h)
  exact key L _ tidy_empty
/-- The last value of an id in a row. -/
def lastV (i : Int) : List (Int × Value) → Option Value
  | [] => none
  | p :: r => match lastV i r with
    | some v => some v
    | none => if p.1 = i then some p.2 else none
theorem lastV_snoc (i : Int) : ∀ (L : List (Int × Value)) (p : Int × Value), lastV i (L ++ [p]) = if p.1 = i then some p.2 else lastV i L
  | [], p => by simp only [List.nil_append, lastV]
  | q :: L, p => by
    rw [List.cons_append, lastV, lastV_snoc i L p]
    by_cases h : p.1 = i
    · rw [if_pos h, if_pos h]
    · rw [if_neg h, if_neg h, lastV]
theorem key_ne {a b : Int} (h : a ≠ b) : (Lit.int .i64 a) ≠ (Lit.int .i64 b) := fun e => by cases e; exact h rfl
theorem mapN_at (i : Int) (z : DataW Value) (L : List (Int × Value)) : (mapN L).atKey (.int .i64 i) z = match lastV i L with | some v => .held v | none => z := by
  have key : ∀ (n : Nat) (L : List (Int × Value)), L.length = n → (mapN L).atKey (.int .i64 i) z = match lastV i L with | some v => .held v | none => z := by
    intro n
    induction n with
    | zero =>
      intro L h
      rw [List.length_eq_zero_iff.1 h]
      rfl
    | succ n ih =>
      intro L h
      have hne : L ≠ [] := fun e => by rw [e] at h; cases h
      obtain ⟨L', p, rfl⟩ : ∃ L' p, L = L' ++ [p] := ⟨L.dropLast, L.getLast hne, (List.dropLast_concat_getLast hne).symm⟩
      rw [mapN_snoc, lastV_snoc]
      by_cases hp : p.1 = i
      · rw [if_pos hp, hp, atKey_put_same (mapN_tidy L').isMap (show WideAt.IsKeyLit (Lit.int .i64 i) by trivial)]
      · rw [if_neg hp, atKey_put_other (key_ne (fun e => hp e.symm)), ih L' (by simp at h; exact h)]
  exact key _ L rfl
theorem mapN_has (i : Int) (L : List (Int × Value)) : Maps.has (mapN L) (.int .i64 i) = (lastV i L).isSome := by
  have key : ∀ (n : Nat) (L : List (Int × Value)), L.length = n → Maps.has (mapN L) (.int .i64 i) = (lastV i L).isSome := by
    intro n
    induction n with
    | zero =>
      intro L h
      rw [List.length_eq_zero_iff.1 h]
      rfl
    | succ n ih =>
      intro L h
      have hne : L ≠ [] := fun e => by rw [e] at h; cases h
      obtain ⟨L', p, rfl⟩ : ∃ L' p, L = L' ++ [p] := ⟨L.dropLast, L.getLast hne, (List.dropLast_concat_getLast hne).symm⟩
      rw [mapN_snoc, lastV_snoc]
      by_cases hp : p.1 = i
      · rw [if_pos hp, hp, has_put_same (mapN_tidy L').isMap (show WideAt.IsKeyLit (Lit.int .i64 i) by trivial)]; rfl
      · rw [if_neg hp, has_put_other (key_ne (fun e => hp e.symm)), ih L' (by simp at h; exact h)]
  exact key _ L rfl
def OwnsQ (w : World) (b n : Nat) (L : List (Int × Value)) : Prop := w.ownsMap Try.prog 3 ptrE b n (mapN L)
theorem OwnsQ.at {w w' : World} {b n : Nat} {L : List (Int × Value)} (h : OwnsQ w b n L) (e : w'.heap[b]? = w.heap[b]?) : OwnsQ w' b n L := by
  obtain ⟨es, clock, hb, h⟩ := h
  exact ⟨es, clock, e.trans hb, h⟩
def ptrO (o : Option (Nat × Nat)) : Value := .pointer (o.map fun a => ⟨a.1, a.2, none⟩)
/-- The map holds the first node of each id in a row. -/
def FirstsAt (w : World) (m n : Nat) (L : List (Int × (Nat × Nat))) : Prop := ∃ M, OwnsQ w m n M ∧ ∀ i, lastV i M = (firstA i L).map fun a => Value.pointer (some ⟨a.1, a.2, none⟩)
theorem FirstsAt.at {w w' : World} {m n : Nat} {L : List (Int × (Nat × Nat))} (h : FirstsAt w m n L) (e : w'.heap[m]? = w.heap[m]?) : FirstsAt w' m n L := by
  obtain ⟨M, h1, h2⟩ := h
  exact ⟨M, h1.at e, h2⟩
theorem FirstsAt.lt {w : World} {m n : Nat} {L : List (Int × (Nat × Nat))} (h : FirstsAt w m n L) : m < w.heap.size := by
  obtain ⟨M, h1, h2⟩ := h
  exact World.ownsMap.lt h1
theorem law7 : Keyed Try.prog 3 := int_keyed Try.underlying3
theorem zeroP_run (w : World) : (zeroValue 73).run Try.prog w = .ok (.pointer none) w := by kernel_rfl
theorem held_inj {a b : Value} (h : (DataW.held a : DataW Value) = .held b) : a = b := by injection h
theorem look_ok {w : World} {m n : Nat} {L : List (Int × (Nat × Nat))} {i : Int} (h : FirstsAt w m n L) (hi : (Lit.int .i64 i).wf = true) : (Instr.lookup 46 (.map (some m)) (.int .i64 i) true).run Try.prog w = .ok (.tuple #[ptrO (firstA i L), .bool (firstA i L).isSome]) w := by
  obtain ⟨M, h1, h2⟩ := h
  obtain ⟨u, ps, hrun, hu⟩ := World.ownsMap.look_ok h1 law7 Try.underlying46 (zeroP_run w) (show ptrE (.pointer none) = some (.held (.pointer none), []) from rfl) (keyOf_int_mk (P := Try.prog) Try.underlying3 hi)
  have e := congrArg Prod.fst (ptrE_inv hu)
  rw [hrun, mapN_has, h2 i]
  rw [mapN_at, h2 i] at e
  cases hf : firstA i L with
  | none => rw [hf] at e; rw [← held_inj e]; rfl
  | some a => rw [hf] at e; rw [← held_inj e]; rfl
theorem look_it {w : World} {m n : Nat} {L : List (Int × (Nat × Nat))} {i : Int} (h : FirstsAt w m n L) (hi : (Lit.int .i64 i).wf = true) : (Instr.lookup 46 (.map (some m)) (.int .i64 i) false).run Try.prog w = .ok (ptrO (firstA i L)) w := by
  obtain ⟨M, h1, h2⟩ := h
  obtain ⟨u, ps, hrun, hu⟩ := World.ownsMap.lookup h1 law7 Try.underlying46 (zeroP_run w) (show ptrE (.pointer none) = some (.held (.pointer none), []) from rfl) (keyOf_int_mk (P := Try.prog) Try.underlying3 hi)
  have e := congrArg Prod.fst (ptrE_inv hu)
  rw [hrun]
  rw [mapN_at, h2 i] at e
  cases hf : firstA i L with
  | none => rw [hf] at e; rw [← held_inj e]; rfl
  | some a => rw [hf] at e; rw [← held_inj e]; rfl
theorem FirstsAt.made (w : World) : FirstsAt (w.alloc (.map #[] 0)) w.heap.size 0 [] := ⟨[], World.ownsMap_made w Try.prog 3 ptrE, fun i => rfl⟩
/-- A node of an id that was there already. -/
theorem FirstsAt.skip {w : World} {m n : Nat} {L : List (Int × (Nat × Nat))} (h : FirstsAt w m n L) {p : Int × (Nat × Nat)} (hp : (firstA p.1 L).isSome = true) : FirstsAt w m (n + 1) (L ++ [p]) := by
  obtain ⟨M, h1, h2⟩ := h
  refine ⟨M, World.ownsMap.mono h1 (by omega), fun i => ?_⟩
  rw [h2, firstA_append]
  cases hf : firstA i L with
  | some a => rfl
  | none =>
    rw [Option.none_or, firstA, firstA]
    by_cases hi : p.1 = i
    · rw [hi, hf] at hp; cases hp
    · rw [if_neg hi]
theorem FirstsAt.put {w' : World} {m n : Nat} {L : List (Int × (Nat × Nat))} {M : List (Int × Value)} {p : Int × (Nat × Nat)} (h2 : ∀ i, lastV i M = (firstA i L).map fun a => Value.pointer (some ⟨a.1, a.2, none⟩)) (hp : firstA p.1 L = none) (hn : OwnsQ w' m (n + 1) (M ++ [(p.1, .pointer (some ⟨p.2.1, p.2.2, none⟩))])) : FirstsAt w' m (n + 1) (L ++ [p]) := by
  refine ⟨_, hn, fun i => ?_⟩
  rw [lastV_snoc, firstA_append, firstA, firstA]
  by_cases hi : p.1 = i
  · rw [if_pos hi, if_pos hi, ← hi, hp]; rfl
  · rw [if_neg hi, if_neg hi, h2 i, Option.or_none]
end Go.Proofs.Ytpbjncljecfaeaa
namespace Go.Proofs.Ytpbjncljecfaeaa
open Go.RowKit Go.Shelf
set_option linter.unusedVariables false
set_option linter.unusedSimpArgs false

theorem wiF_tx (i : Int) (a b : ByteArray) (f : Fo) : (wiF i a f).2 = (wiF i b f).2 := by
  have V : World := default
  rw [wiF_first (V := V) i a f 0 0, wiF_first (V := V) i b f 0 0]
theorem wiF_sameIds (i j : Int) (a b : ByteArray) : ∀ f : Fo, (wiF i a (wiF j b f).1).2 = (wiF i a f).2
  | .nil => rfl
  | .node x y k l r => by
    rw [wiF]
    by_cases h : k.1 = j
    · rw [if_pos h, wiF, wiF]
      by_cases h2 : k.1 = i
      · rw [if_pos h2, if_pos h2]
      · rw [if_neg h2, if_neg h2]
        by_cases h3 : (wiF i a l).2 = true
        · rw [if_pos h3, if_pos h3]
        · rw [if_neg h3, if_neg h3]
    · rw [if_neg h]
      have e1 := wiF_sameIds i j a b l
      have e2 := wiF_sameIds i j a b r
      by_cases h1 : (wiF j b l).2 = true
      · rw [if_pos h1, wiF, wiF]
        by_cases h2 : k.1 = i
        · rw [if_pos h2, if_pos h2]
        · rw [if_neg h2, if_neg h2]
          by_cases h3 : (wiF i a l).2 = true
          · rw [if_pos h3, if_pos (by rw [e1]; exact h3)]
          · rw [if_neg h3, if_neg (by rw [e1]; exact h3)]
      · rw [if_neg h1, wiF, wiF]
        by_cases h2 : k.1 = i
        · rw [if_pos h2, if_pos h2]
        · rw [if_neg h2, if_neg h2]
          by_cases h3 : (wiF i a l).2 = true
          · rw [if_pos h3, if_pos h3]
          · rw [if_neg h3, if_neg h3]; exact e2
theorem wiT_root (i : Int) (a : ByteArray) (t : Tr) : rootF (wiT i a t).1 = (wiF i a (rootF t)).1 ∧ (wiT i a t).2 = (wiF i a (rootF t)).2 := by rw [wiF_root]; exact ⟨rfl, rfl⟩
/-- A tree behind texts. -/
def subT (u : Tr) (ts : List SV) : Tr := ts.foldl (fun u t => (wiT t.s.id t.s.tx u).1) u
theorem subT_snoc (u : Tr) (ts : List SV) (t : SV) : subT u (ts ++ [t]) = (wiT t.s.id t.s.tx (subT u ts)).1 := by simp [subT, List.foldl_append]
theorem subT_size : ∀ (ts : List SV) (u : Tr), foSize (subT u ts).kids = foSize u.kids
  | [], _ => rfl
  | t :: ts, u => by
    show foSize (subT (wiT t.s.id t.s.tx u).1 ts).kids = _
    rw [subT_size ts, wiT_size]
theorem subT_has (i : Int) (a : ByteArray) : ∀ (ts : List SV) (u : Tr), (wiT i a (subT u ts)).2 = (wiT i a u).2
  | [], _ => rfl
  | t :: ts, u => by
    show (wiT i a (subT (wiT t.s.id t.s.tx u).1 ts)).2 = _
    rw [subT_has i a ts, (wiT_root i a _).2, (wiT_root _ _ _).1, wiF_sameIds, ← (wiT_root i a u).2]
structure HV where
  x : SV
  ts : List SV
  ta : Option Addr
  tc : Nat
  m : Option Nat
/-- The step as it came to be. -/
def HV.sf (h : HV) : Sf := ⟨h.x.s.op, h.x.s.id, h.x.s.par, h.x.s.at_, h.x.s.tx, subT h.x.s.sub h.ts⟩
def HV.tv (h : HV) : Value := .slice h.ta h.ts.length h.tc
def NodesOk (V : World) (m : Option Nat) (u : Tr) : Prop := match m with
  | none => True
  | some mb => ∃ n L, FirstsAt V mb n L ∧ ∀ i, (firstA i L).isSome = (wiT i ⟨#[]⟩ u).2
/-- Where a step's texts go to: what is held. -/
structure HeldOk (h : HV) : Prop where
  small : foSize h.x.s.sub.kids + 1 ≤ 100000
  ids : idsOk (rootF h.x.s.sub)
  tsIn : ∀ t ∈ h.ts, (wiT t.s.id t.s.tx h.x.s.sub).2 = true ∧ (Lit.int .i64 t.s.id).wf = true
  few : h.ts.length ≤ 10000
structure HeldAt (w0 V : World) (hb : Nat) (h : HV) : Prop where
  cells : V.heap[hb]? = some (.cells #[.int .i8 h.x.s.op, .int .i64 h.x.s.id, .int .i64 h.x.s.par, .int .i64 h.x.s.at_, .string h.x.s.tx, .int .i64 h.x.s.sub.id, .int .i64 h.x.s.sub.kind, .string h.x.s.sub.text, .slice h.x.a (foLen h.x.s.sub.kids) h.x.c, .map h.m, .slice h.ta h.ts.length h.tc] 48 (0, 0))
  lies : LiesI w0 h.x.s.sub.kids h.x.a h.x.c
  texts : V.ownsRow w0.heap.size 27 9 (.slice h.ta h.ts.length h.tc) h.ts.length (cells9 h.ts)
  nodes : NodesOk V h.m h.x.s.sub
  base : w0.heap.size ≤ hb
  mbase : ∀ m, h.m = some m → w0.heap.size ≤ m
/-- The blocks that are the held step's own. -/
def HV.own (h : HV) (hb : Nat) (q : Nat) : Prop := q = hb ∨ h.tv.ownBlock = some q ∨ h.m = some q
theorem HeldAt.kept {w0 V V' : World} {hb : Nat} {h : HV} (hh : HeldAt w0 V hb h) (hk : ∀ q, h.own hb q → V'.heap[q]? = V.heap[q]?) : HeldAt w0 V' hb h where
  cells := (hk hb (Or.inl rfl)).trans hh.cells
  lies := hh.lies
  texts := owns_kept hh.texts (fun g cur _ hg => hk g (Or.inr (Or.inl hg)))
  nodes := by
    have h1 := hh.nodes
    unfold NodesOk at h1 ⊢
    cases hm : h.m with
    | none => trivial
    | some mb =>
      rw [hm] at h1
      obtain ⟨n, L, h2, h3⟩ := h1
      exact ⟨n, L, h2.at (hk mb (Or.inr (Or.inr hm))), h3⟩
  base := hh.base
  mbase := hh.mbase
theorem HeldAt.lt {w0 V : World} {hb : Nat} {h : HV} (hh : HeldAt w0 V hb h) : ∀ q, h.own hb q → w0.heap.size ≤ q ∧ q < V.heap.size := fun q hq => by
  rcases hq with rfl | hq | hq
  · exact ⟨hh.base, lt_of_heap hh.cells⟩
  · exact owns_bounds hh.texts hq
  · have h1 := hh.nodes
    unfold NodesOk at h1
    rw [hq] at h1
    obtain ⟨n, L, h2, _⟩ := h1
    exact ⟨hh.mbase q hq, h2.lt⟩
theorem fo_cb {w : World} {S : Nat → Prop} : ∀ {f : Fo} {a : Option Addr}, FoAt w S f a → FoAt w (fun q => S q ∧ CellsB w q) f a
  | .nil, _, _ => True.intro
  | .node _ _ k l r, a, h => by
    obtain ⟨b, off, ka, cap, e, hb, h0, h1, h2, h3, hc, hl, hr⟩ := h
    exact ⟨b, off, ka, cap, e, ⟨hb, cellsB h0⟩, h0, h1, h2, h3, hc, fo_cb hl, fo_cb hr⟩
theorem preA_text {V : World} {X : Nat → Prop} : ∀ {f : Fo} {b o : Nat} {p : Int × (Nat × Nat)}, FoAt V X f (some ⟨b, o, none⟩) → p ∈ preA V f b o → ∃ tx, V.cell? ⟨p.2.1, p.2.2 + 2, none⟩ = some (.string tx)
  | .nil, _, _, _, _, h => by simp [preA] at h
  | .node _ _ k l r, b, o, p, hf, h => by
    obtain ⟨b1, o1, ka, cap, e, hb, _, _, c2, h3, _, hl, hr⟩ := hf
    cases e
    rw [preA, kidsA_of h3] at h
    rcases List.mem_cons.1 h with rfl | h
    · exact ⟨_, c2⟩
    · rcases List.mem_append.1 h with h | h
      · cases l with
        | nil => simp [preA] at h
        | node x y k2 l2 r2 =>
          obtain ⟨g, go, e, hg⟩ := fo_blk hl (by simp)
          subst e
          exact preA_text hl h
      · exact preA_text hr h
end Go.Proofs.Ytpbjncljecfaeaa
