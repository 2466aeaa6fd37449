/-
  A map from ids to pointers: what it holds, how it is looked up. No condition.
-/
import Derived.Carry
import Derived.Maps.OwnSet
import Derived.Maps.OwnOps
import Derived.Maps.AppendAt
import Derived.Test.YtpbjncljecfaeaaNPreQa
namespace Go.Proofs.Ytpbjncljecfaeaa
open Go.RowKit Go.Shelf
open Go.Maps
set_option linter.unusedVariables false
set_option linter.unusedSimpArgs false

/-- A pointer, as an element that reads as itself. -/
def ptrE (v : Value) : Option (DataW Value × List MemPlace) := match v with
  | .pointer _ => some (.held v, [])
  | _ => none
theorem ptrE_inv {v : Value} {z : DataW Value × List MemPlace} (h : ptrE v = some z) : z = (.held v, []) := by
  unfold ptrE at h
  split at h
  · cases h; rfl
  · cases h
def mapN (L : List (Int × Value)) : DataW Value := L.foldl (fun D p => D.put (.int .i64 p.1) (.held p.2)) (.map [])
theorem mapN_snoc (L : List (Int × Value)) (p : Int × Value) : mapN (L ++ [p]) = (mapN L).put (.int .i64 p.1) (.held p.2) := by simp [mapN, List.foldl_append]
theorem tidy_put (p : Int × Value) {D : DataW Value} (h : Tidy D) : Tidy (D.put (.int .i64 p.1) (.held p.2)) := h.put (show WideAt.IsKeyLit (Lit.int .i64 p.1) by trivial) _
theorem mapN_tidy (L : List (Int × Value)) : Tidy (mapN L) := by
  have key : ∀ (L : List (Int × Value)) (D : DataW Value), Tidy D → Tidy (L.foldl (fun D p => D.put (.int .i64 p.1) (.held p.2)) D) := by
    intro L
    induction L with
    | nil => intro D h; exact h
    | cons p L ih => intro D h; exact ih _ (tidy_put p h)
  exact key L _ tidy_empty
/-- The last value of an id in a row. -/
def lastV (i : Int) : List (Int × Value) → Option Value
  | [] => none
  | p :: r => match lastV i r with
    | some v => some v
    | none => if p.1 = i then some p.2 else none
theorem lastV_snoc (i : Int) : ∀ (L : List (Int × Value)) (p : Int × Value), lastV i (L ++ [p]) = if p.1 = i then some p.2 else lastV i L
  | [], p => by simp only [List.nil_append, lastV]
  | q :: L, p => by
    rw [List.cons_append, lastV, lastV_snoc i L p]
    by_cases h : p.1 = i
    · rw [if_pos h, if_pos h]
    · rw [if_neg h, if_neg h, lastV]
theorem key_ne {a b : Int} (h : a ≠ b) : (Lit.int .i64 a) ≠ (Lit.int .i64 b) := fun e => by cases e; exact h rfl
theorem mapN_at (i : Int) (z : DataW Value) (L : List (Int × Value)) : (mapN L).atKey (.int .i64 i) z = match lastV i L with | some v => .held v | none => z := by
  have key : ∀ (n : Nat) (L : List (Int × Value)), L.length = n → (mapN L).atKey (.int .i64 i) z = match lastV i L with | some v => .held v | none => z := by
    intro n
    induction n with
    | zero =>
      intro L h
      rw [List.length_eq_zero_iff.1 h]
      rfl
    | succ n ih =>
      intro L h
      have hne : L ≠ [] := fun e => by rw [e] at h; cases h
      obtain ⟨L', p, rfl⟩ : ∃ L' p, L = L' ++ [p] := ⟨L.dropLast, L.getLast hne, (List.dropLast_concat_getLast hne).symm⟩
      rw [mapN_snoc, lastV_snoc]
      by_cases hp : p.1 = i
      · rw [if_pos hp, hp, atKey_put_same (mapN_tidy L').isMap (show WideAt.IsKeyLit (Lit.int .i64 i) by trivial)]
      · rw [if_neg hp, atKey_put_other (key_ne (fun e => hp e.symm)), ih L' (by simp at h; exact h)]
  exact key _ L rfl
theorem mapN_has (i : Int) (L : List (Int × Value)) : Maps.has (mapN L) (.int .i64 i) = (lastV i L).isSome := by
  have key : ∀ (n : Nat) (L : List (Int × Value)), L.length = n → Maps.has (mapN L) (.int .i64 i) = (lastV i L).isSome := by
    intro n
    induction n with
    | zero =>
      intro L h
      rw [List.length_eq_zero_iff.1 h]
      rfl
    | succ n ih =>
      intro L h
      have hne : L ≠ [] := fun e => by rw [e] at h; cases h
      obtain ⟨L', p, rfl⟩ : ∃ L' p, L = L' ++ [p] := ⟨L.dropLast, L.getLast hne, (List.dropLast_concat_getLast hne).symm⟩
      rw [mapN_snoc, lastV_snoc]
      by_cases hp : p.1 = i
      · rw [if_pos hp, hp, has_put_same (mapN_tidy L').isMap (show WideAt.IsKeyLit (Lit.int .i64 i) by trivial)]; rfl
      · rw [if_neg hp, has_put_other (key_ne (fun e => hp e.symm)), ih L' (by simp at h; exact h)]
  exact key _ L rfl
def OwnsQ (w : World) (b n : Nat) (L : List (Int × Value)) : Prop := w.ownsMap Try.prog 3 ptrE b n (mapN L)
theorem OwnsQ.at {w w' : World} {b n : Nat} {L : List (Int × Value)} (h : OwnsQ w b n L) (e : w'.heap[b]? = w.heap[b]?) : OwnsQ w' b n L := by
  obtain ⟨es, clock, hb, h⟩ := h
  exact ⟨es, clock, e.trans hb, h⟩
def ptrO (o : Option (Nat × Nat)) : Value := .pointer (o.map fun a => ⟨a.1, a.2, none⟩)
/-- The map holds the first node of each id in a row. -/
def FirstsAt (w : World) (m n : Nat) (L : List (Int × (Nat × Nat))) : Prop := ∃ M, OwnsQ w m n M ∧ ∀ i, lastV i M = (firstA i L).map fun a => Value.pointer (some ⟨a.1, a.2, none⟩)
theorem FirstsAt.at {w w' : World} {m n : Nat} {L : List (Int × (Nat × Nat))} (h : FirstsAt w m n L) (e : w'.heap[m]? = w.heap[m]?) : FirstsAt w' m n L := by
  obtain ⟨M, h1, h2⟩ := h
  exact ⟨M, h1.at e, h2⟩
theorem FirstsAt.lt {w : World} {m n : Nat} {L : List (Int × (Nat × Nat))} (h : FirstsAt w m n L) : m < w.heap.size := by
  obtain ⟨M, h1, h2⟩ := h
  exact World.ownsMap.lt h1
theorem law7 : Keyed Try.prog 3 := int_keyed Try.underlying3
theorem zeroP_run (w : World) : (zeroValue 73).run Try.prog w = .ok (.pointer none) w := by kernel_rfl
theorem held_inj {a b : Value} (h : (DataW.held a : DataW Value) = .held b) : a = b := by injection h
theorem look_ok {w : World} {m n : Nat} {L : List (Int × (Nat × Nat))} {i : Int} (h : FirstsAt w m n L) (hi : (Lit.int .i64 i).wf = true) : (Instr.lookup 46 (.map (some m)) (.int .i64 i) true).run Try.prog w = .ok (.tuple #[ptrO (firstA i L), .bool (firstA i L).isSome]) w := by
  obtain ⟨M, h1, h2⟩ := h
  obtain ⟨u, ps, hrun, hu⟩ := World.ownsMap.look_ok h1 law7 Try.underlying46 (zeroP_run w) (show ptrE (.pointer none) = some (.held (.pointer none), []) from rfl) (keyOf_int_mk (P := Try.prog) Try.underlying3 hi)
  have e := congrArg Prod.fst (ptrE_inv hu)
  rw [hrun, mapN_has, h2 i]
  rw [mapN_at, h2 i] at e
  cases hf : firstA i L with
  | none => rw [hf] at e; rw [← held_inj e]; rfl
  | some a => rw [hf] at e; rw [← held_inj e]; rfl
theorem look_it {w : World} {m n : Nat} {L : List (Int × (Nat × Nat))} {i : Int} (h : FirstsAt w m n L) (hi : (Lit.int .i64 i).wf = true) : (Instr.lookup 46 (.map (some m)) (.int .i64 i) false).run Try.prog w = .ok (ptrO (firstA i L)) w := by
  obtain ⟨M, h1, h2⟩ := h
  obtain ⟨u, ps, hrun, hu⟩ := World.ownsMap.lookup h1 law7 Try.underlying46 (zeroP_run w) (show ptrE (.pointer none) = some (.held (.pointer none), []) from rfl) (keyOf_int_mk (P := Try.prog) Try.underlying3 hi)
  have e := congrArg Prod.fst (ptrE_inv hu)
  rw [hrun]
  rw [mapN_at, h2 i] at e
  cases hf : firstA i L with
  | none => rw [hf] at e; rw [← held_inj e]; rfl
  | some a => rw [hf] at e; rw [← held_inj e]; rfl
theorem FirstsAt.made (w : World) : FirstsAt (w.alloc (.map #[] 0)) w.heap.size 0 [] := ⟨[], World.ownsMap_made w Try.prog 3 ptrE, fun i => rfl⟩
/-- A node of an id that was there already. -/
theorem FirstsAt.skip {w : World} {m n : Nat} {L : List (Int × (Nat × Nat))} (h : FirstsAt w m n L) {p : Int × (Nat × Nat)} (hp : (firstA p.1 L).isSome = true) : FirstsAt w m (n + 1) (L ++ [p]) := by
  obtain ⟨M, h1, h2⟩ := h
  refine ⟨M, World.ownsMap.mono h1 (by omega), fun i => ?_⟩
  rw [h2, firstA_append]
  cases hf : firstA i L with
  | some a => rfl
  | none =>
    rw [Option.none_or, firstA, firstA]
    by_cases hi : p.1 = i
    · rw [hi, hf] at hp; cases hp
    · rw [if_neg hi]
theorem FirstsAt.put {w' : World} {m n : Nat} {L : List (Int × (Nat × Nat))} {M : List (Int × Value)} {p : Int × (Nat × Nat)} (h2 : ∀ i, lastV i M = (firstA i L).map fun a => Value.pointer (some ⟨a.1, a.2, none⟩)) (hp : firstA p.1 L = none) (hn : OwnsQ w' m (n + 1) (M ++ [(p.1, .pointer (some ⟨p.2.1, p.2.2, none⟩))])) : FirstsAt w' m (n + 1) (L ++ [p]) := by
  refine ⟨_, hn, fun i => ?_⟩
  rw [lastV_snoc, firstA_append, firstA, firstA]
  by_cases hi : p.1 = i
  · rw [if_pos hi, if_pos hi, ← hi, hp]; rfl
  · rw [if_neg hi, if_neg hi, h2 i, Option.or_none]
end Go.Proofs.Ytpbjncljecfaeaa
