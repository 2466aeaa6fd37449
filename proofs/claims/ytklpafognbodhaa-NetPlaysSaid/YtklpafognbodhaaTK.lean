/-
  What becomes of trees in memory while rows of nodes are cloned and nodes wait for their turn: plain laws. No condition.
-/
import Derived.Test.YtklpafognbodhaaPBare
import Derived.Maps.AppendAt
namespace Go.Proofs.Ytklpafognbodhaa
open Go.RowKit

def plainV : Value → Prop
  | .int _ _ => True
  | .string _ => True
  | _ => False
/-- All blocks, but that of the row wv. -/
def Nn (w : World) (wv : Value) : Nat → Prop := fun x => x < w.heap.size ∧ wv.ownBlock ≠ some x
/-- .. and of those that R allows. -/
def Xn (R : Nat → Prop) (w : World) (wv : Value) : Nat → Prop := fun x => Nn w wv x ∧ R x
/-- At offset o of block b there is a slice of nodes: the row f. -/
def KidsAt (w : World) (X : Nat → Prop) (b o : Nat) (f : Fo) : Prop := ∃ ka cap, w.cell? ⟨b, o, none⟩ = some (.slice ka (foLen f) cap) ∧ FoAt w X f ka
/-- Every tree that was there is there. -/
structure TK (R : Nat → Prop) (w : World) (wv : Value) (w' : World) (wv' : Value) : Prop where
  sub : ∀ x, Nn w wv x → Nn w' wv' x
  plain : ∀ b o v, Nn w wv b → plainV v → w.cell? ⟨b, o, none⟩ = some v → w'.cell? ⟨b, o, none⟩ = some v
  kids : ∀ b o f, Nn w wv b → 3 ≤ o → KidsAt w (Xn R w wv) b o f → KidsAt w' (Xn R w' wv') b o f
theorem TK.refl (R : Nat → Prop) (w : World) (wv : Value) : TK R w wv w wv := ⟨fun _ h => h, fun _ _ _ _ _ h => h, fun _ _ _ _ _ h => h⟩
theorem TK.trans {R : Nat → Prop} {w w1 w2 : World} {v v1 v2 : Value} (h : TK R w v w1 v1) (h' : TK R w1 v1 w2 v2) : TK R w v w2 v2 :=
  ⟨fun x hx => h'.sub x (h.sub x hx), fun b o u hb hu hc => h'.plain b o u (h.sub b hb) hu (h.plain b o u hb hu hc), fun b o f hb ho hk => h'.kids b o f (h.sub b hb) ho (h.kids b o f hb ho hk)⟩
theorem TK.fo {R : Nat → Prop} {w w' : World} {wv wv' : Value} (h : TK R w wv w' wv') : ∀ {f : Fo} {a : Option Addr}, FoAt w (Xn R w wv) f a → FoAt w' (Xn R w' wv') f a
  | .nil, _, _ => True.intro
  | .node _ _ k l r, a, hf => by
    obtain ⟨b, off, ka, cap, e, hb, h0, h1, h2, h3, hl, hr⟩ := hf
    obtain ⟨ka', cap', h3', hl'⟩ := h.kids b (off + 3) l hb.1 (by omega) ⟨ka, cap, h3, hl⟩
    exact ⟨b, off, ka', cap', e, ⟨h.sub b hb.1, hb.2⟩, h.plain _ _ _ hb.1 True.intro h0, h.plain _ _ _ hb.1 True.intro h1, h.plain _ _ _ hb.1 True.intro h2, h3', hl', h.fo hr⟩
/-- Where cells alone turn that bear no tree. -/
theorem TK.of {R : Nat → Prop} {w w' : World} {wv wv' : Value} (hsub : ∀ x, Nn w wv x → Nn w' wv' x) (hp : ∀ b o v, Nn w wv b → plainV v → w.cell? ⟨b, o, none⟩ = some v → w'.cell? ⟨b, o, none⟩ = some v)
    (hc : ∀ b o ka n cap, Nn w wv b → 3 ≤ o → w.cell? ⟨b, o, none⟩ = some (.slice ka n cap) → w'.cell? ⟨b, o, none⟩ = some (.slice ka n cap)) : TK R w wv w' wv' := by
  have fo : ∀ (f : Fo) (a : Option Addr), FoAt w (Xn R w wv) f a → FoAt w' (Xn R w' wv') f a := by
    intro f
    induction f with
    | nil => intro a _; exact True.intro
    | node _ _ k l r ihl ihr =>
      intro a hf
      obtain ⟨b, off, ka, cap, e, hb, h0, h1, h2, h3, hl, hr⟩ := hf
      exact ⟨b, off, ka, cap, e, ⟨hsub b hb.1, hb.2⟩, hp _ _ _ hb.1 True.intro h0, hp _ _ _ hb.1 True.intro h1, hp _ _ _ hb.1 True.intro h2, hc _ _ _ _ _ hb.1 (by omega) h3, ihl _ hl, ihr _ hr⟩
  exact ⟨hsub, hp, fun b o f hb ho ⟨ka, cap, h1, h2⟩ => ⟨ka, cap, hc b o _ _ _ hb ho h1, fo f ka h2⟩⟩
theorem TK.same {R : Nat → Prop} {w w' : World} {wv wv' : Value} (hsub : ∀ x, Nn w wv x → Nn w' wv' x) (hb : ∀ x, Nn w wv x → w'.heap[x]? = w.heap[x]?) : TK R w wv w' wv' :=
  TK.of hsub (fun b _ _ h _ hc => (World.cell?_of_block (hb b h)).trans hc) (fun b _ _ _ _ h _ hc => (World.cell?_of_block (hb b h)).trans hc)
theorem TK.below {R : Nat → Prop} {w w' : World} {wv : Value} (hb : Below w.heap.size w w') : TK R w wv w' wv :=
  TK.same (fun _ hx => ⟨Nat.lt_of_lt_of_le hx.1 hb.size, hx.2⟩) (fun x hx => hb.block x hx.1)
/-- The slice in cell (cb, co) is laid anew, over a clone of its row. -/
theorem TK.clone {R : Nat → Prop} {w w' : World} {wv : Value} {cb co n cap cap' rb : Nat} {ka ka' : Option Addr} (hs : w.heap.size ≤ w'.heap.size) (hsame : ∀ b o, Nn w wv b → ¬ (b = cb ∧ o = co) → w'.cell? ⟨b, o, none⟩ = w.cell? ⟨b, o, none⟩)
    (hold : w.cell? ⟨cb, co, none⟩ = some (.slice ka n cap)) (hnew : w'.cell? ⟨cb, co, none⟩ = some (.slice ka' n cap'))
    (hrow : 0 < n → ka' = some ⟨rb, 0, none⟩ ∧ Xn R w' wv rb ∧ ∀ b0 off, ka = some ⟨b0, off, none⟩ → ∀ j v, j < n * 4 → w.cell? ⟨b0, off + j, none⟩ = some v → w'.cell? ⟨rb, j, none⟩ = some v) : TK R w wv w' wv := by
  have hsub : ∀ x, Nn w wv x → Nn w' wv x := fun x hx => ⟨Nat.lt_of_lt_of_le hx.1 hs, hx.2⟩
  have hp : ∀ b o v, Nn w wv b → plainV v → w.cell? ⟨b, o, none⟩ = some v → w'.cell? ⟨b, o, none⟩ = some v := fun b o v hb hv hc => by
    rw [hsame b o hb (fun ⟨e1, e2⟩ => by subst e1; subst e2; rw [hold] at hc; cases hc; exact hv)]; exact hc
  have fo : ∀ (f : Fo), (∀ a, FoAt w (Xn R w wv) f a → FoAt w' (Xn R w' wv) f a) ∧ (∀ b0 off rb' o', FoAt w (Xn R w wv) f (some ⟨b0, off, none⟩) → Xn R w' wv rb' → (∀ j v, j < foLen f * 4 → w.cell? ⟨b0, off + j, none⟩ = some v → w'.cell? ⟨rb', o' + j, none⟩ = some v) → FoAt w' (Xn R w' wv) f (some ⟨rb', o', none⟩)) := by
    intro f
    induction f with
    | nil => exact ⟨fun _ _ => True.intro, fun _ _ _ _ _ _ _ => True.intro⟩
    | node _ _ k l r ihl ihr =>
      have kid : ∀ b off ka1 cap1, Xn R w wv b → w.cell? ⟨b, off + 3, none⟩ = some (.slice ka1 (foLen l) cap1) → FoAt w (Xn R w wv) l ka1 → ∃ ka2 cap2, w'.cell? ⟨b, off + 3, none⟩ = some (.slice ka2 (foLen l) cap2) ∧ FoAt w' (Xn R w' wv) l ka2 := fun b off ka1 cap1 hb h3 hl => by
        by_cases hc : b = cb ∧ off + 3 = co
        · obtain ⟨rfl, rfl⟩ := hc
          rw [hold] at h3
          cases h3
          refine ⟨ka', cap', hnew, ?_⟩
          cases l with
          | nil => exact True.intro
          | node b1 o1 k1 l1 r1 =>
            obtain ⟨g1, g2, g3⟩ := hrow (by simp [foLen])
            obtain ⟨b2, off2, _, _, e, _⟩ := id hl
            subst e
            rw [g1]
            exact ihl.2 b2 off2 rb 0 hl g2 (fun j v hj hv => by rw [Nat.zero_add]; exact g3 b2 off2 rfl j v hj hv)
        · exact ⟨ka1, cap1, (hsame b _ hb.1 hc).trans h3, ihl.1 _ hl⟩
      refine ⟨fun a hf => ?_, fun b0 off rb' o' hf hrb hcp => ?_⟩
      · obtain ⟨b, off, ka1, cap1, e, hb, h0, h1, h2, h3, hl, hr⟩ := hf
        obtain ⟨ka2, cap2, h3', hl'⟩ := kid b off ka1 cap1 hb h3 hl
        exact ⟨b, off, ka2, cap2, e, ⟨hsub b hb.1, hb.2⟩, hp _ _ _ hb.1 True.intro h0, hp _ _ _ hb.1 True.intro h1, hp _ _ _ hb.1 True.intro h2, h3', hl', ihr.1 _ hr⟩
      · obtain ⟨b, off', ka1, cap1, e, hb, h0, h1, h2, h3, hl, hr⟩ := hf
        cases e
        simp only [foLen] at hcp
        refine ⟨rb', o', ka1, cap1, rfl, hrb, hcp 0 _ (by omega) h0, hcp 1 _ (by omega) h1, hcp 2 _ (by omega) h2, hcp 3 _ (by omega) h3, ihl.1 _ hl, ihr.2 _ _ rb' (o' + 4) hr hrb (fun j v hj hv => ?_)⟩
        have := hcp (4 + j) v (by omega) (by rw [← Nat.add_assoc]; exact hv)
        rw [← Nat.add_assoc] at this; exact this
  refine ⟨hsub, hp, fun b o f hb ho ⟨ka1, cap1, h1, h2⟩ => ?_⟩
  by_cases hc : b = cb ∧ o = co
  · obtain ⟨rfl, rfl⟩ := hc
    rw [hold] at h1
    cases h1
    refine ⟨ka', cap', hnew, ?_⟩
    cases f with
    | nil => exact True.intro
    | node b1 o1 k1 l1 r1 =>
      obtain ⟨g1, g2, g3⟩ := hrow (by simp [foLen])
      obtain ⟨b2, off2, _, _, e, _⟩ := id h2
      subst e
      rw [g1]
      exact (fo _).2 b2 off2 rb 0 h2 g2 (fun j v hj hv => by rw [Nat.zero_add]; exact g3 b2 off2 rfl j v hj hv)
  · exact ⟨ka1, cap1, (hsame b _ hb hc).trans h1, (fo f).1 _ h2⟩

/-- The cells of a row of nodes can be read. -/
theorem fo_cells {w : World} {X : Nat → Prop} : ∀ {f : Fo} {b off : Nat}, FoAt w X f (some ⟨b, off, none⟩) → ∃ xs : List Value, xs.length = foLen f * 4 ∧ (∀ u ∈ xs, u.oneCell' = true) ∧ ∀ j u, xs[j]? = some u → w.cell? ⟨b, off + j, none⟩ = some u
  | .nil, _, _, _ => ⟨[], rfl, fun _ h => by simp at h, fun _ _ h => by simp at h⟩
  | .node _ _ k l r, b, off, h => by
    obtain ⟨b1, off1, ka, cap, e, hb, h0, h1, h2, h3, hl, hr⟩ := h
    cases e
    obtain ⟨xs, x1, x2, x3⟩ := fo_cells hr
    refine ⟨[.int .i64 k.1, .int .i64 k.2.1, .string k.2.2, .slice ka (foLen l) cap] ++ xs, by simp [foLen, x1]; omega, fun u hu => ?_, fun j u hj => ?_⟩
    · rcases List.mem_append.1 hu with hu | hu
      · simp only [List.mem_cons, List.not_mem_nil, or_false] at hu
        rcases hu with rfl | rfl | rfl | rfl <;> rfl
      · exact x2 u hu
    · match j, hj with
      | 0, hj => simp only [List.cons_append, List.getElem?_cons_zero, Option.some.injEq] at hj; subst hj; exact h0
      | 1, hj => simp only [List.cons_append, List.getElem?_cons_succ, List.getElem?_cons_zero, Option.some.injEq] at hj; subst hj; exact h1
      | 2, hj => simp only [List.cons_append, List.getElem?_cons_succ, List.getElem?_cons_zero, Option.some.injEq] at hj; subst hj; exact h2
      | 3, hj => simp only [List.cons_append, List.getElem?_cons_succ, List.getElem?_cons_zero, Option.some.injEq] at hj; subst hj; exact h3
      | j + 4, hj =>
        have := x3 j u (by simpa using hj)
        rw [show off + (j + 4) = off + 4 + j by omega]; exact this

end Go.Proofs.Ytklpafognbodhaa
