/-
  The nodes of a row and of all rows below it, in the walk: where they lie; the first one of an id gets a text. No condition.
-/
import Derived.Test.YtpbjncljecfaeaaNPlainQf
import Derived.Test.YtpbjncljecfaeaaNCopySQf
namespace Go.Proofs.Ytpbjncljecfaeaa
open Go.RowKit Go.Shelf
set_option linter.unusedVariables false
set_option linter.unusedSimpArgs false

def preA (V : World) : Fo → Nat → Nat → List (Int × (Nat × Nat))
  | .nil, _, _ => []
  | .node _ _ k l r, b, o => (k.1, (b, o)) :: (preA V l (adB (kidsA V b o)) (adO (kidsA V b o)) ++ preA V r b (o + 4))
def firstA (i : Int) : List (Int × (Nat × Nat)) → Option (Nat × Nat)
  | [] => none
  | p :: L => if p.1 = i then some p.2 else firstA i L
theorem firstA_append (i : Int) : ∀ (L M : List (Int × (Nat × Nat))), firstA i (L ++ M) = (firstA i L).or (firstA i M)
  | [], M => by simp [firstA]
  | p :: L, M => by
    rw [List.cons_append, firstA, firstA, firstA_append i L M]
    split <;> simp
theorem firstA_mem (i : Int) : ∀ (L : List (Int × (Nat × Nat))) (a : Nat × Nat), firstA i L = some a → (i, a) ∈ L
  | [], a, h => by cases h
  | p :: L, a, h => by
    rw [firstA] at h
    split at h
    · rename_i hp; cases h; subst hp; exact List.mem_cons_self ..
    · exact List.mem_cons_of_mem _ (firstA_mem i L a h)
/-- All ids are numbers of 64 bits. -/
def idsOk : Fo → Prop
  | .nil => True
  | .node _ _ k l r => (Lit.int .i64 k.1).wf = true ∧ idsOk l ∧ idsOk r
theorem preA_len {V : World} : ∀ (f : Fo) (b o : Nat), (preA V f b o).length = foSize f
  | .nil, _, _ => rfl
  | .node _ _ k l r, b, o => by rw [preA, List.length_cons, List.length_append, preA_len l, preA_len r]; simp [foSize]
/-- Does the first node of an id get the text? -/
theorem wiF_first {V : World} (id : Int) (tx : ByteArray) : ∀ (f : Fo) (b o : Nat), (wiF id tx f).2 = (firstA id (preA V f b o)).isSome
  | .nil, _, _ => rfl
  | .node _ _ k l r, b, o => by
    rw [wiF, preA, firstA]
    by_cases h : k.1 = id
    · rw [if_pos h, if_pos h]; rfl
    · rw [if_neg h, if_neg h, firstA_append]
      have hl := wiF_first (V := V) id tx l (adB (kidsA V b o)) (adO (kidsA V b o))
      by_cases h2 : (wiF id tx l).2 = true
      · rw [if_pos h2]
        rw [h2] at hl
        cases hf : firstA id (preA V l (adB (kidsA V b o)) (adO (kidsA V b o))) with
        | none => rw [hf] at hl; cases hl
        | some a => rfl
      · rw [if_neg h2]
        simp only [Bool.not_eq_true] at h2
        rw [h2] at hl
        cases hf : firstA id (preA V l (adB (kidsA V b o)) (adO (kidsA V b o))) with
        | none => rw [Option.none_or]; exact wiF_first id tx r b (o + 4)
        | some a => rw [hf] at hl; cases hl
theorem hdB_self {f : Fo} {V : World} {X : Nat → Prop} {g go : Nat} (h : f ≠ .nil) : g ∈ hdB 0 f (some ⟨g, go, none⟩) := by
  cases f with
  | nil => exact absurd rfl h
  | node _ _ _ _ _ => simp [hdB, adB]
theorem preA_in {V : World} {X : Nat → Prop} : ∀ {f : Fo} {b o : Nat} {p : Int × (Nat × Nat)}, FoAt V X f (some ⟨b, o, none⟩) → p ∈ preA V f b o → (p.2.1 = b ∧ o ≤ p.2.2) ∨ p.2.1 ∈ rowsB V 0 f b o
  | .nil, _, _, _, _, h => by simp [preA] at h
  | .node _ _ k l r, b, o, p, hf, h => by
    obtain ⟨b1, o1, ka, cap, e, hb, _, _, _, h3, _, hl, hr⟩ := hf
    cases e
    rw [preA, kidsA_of h3] at h
    rw [rowsB, kidsA_of h3]
    rcases List.mem_cons.1 h with rfl | h
    · exact Or.inl ⟨rfl, Nat.le_refl _⟩
    · rcases List.mem_append.1 h with h | h
      · cases l with
        | nil => simp [preA] at h
        | node x y k2 l2 r2 =>
          obtain ⟨g, go, e, hg⟩ := fo_blk hl (by simp)
          subst e
          rcases preA_in hl h with h1 | h1
          · exact Or.inr (List.mem_append_left _ (by rw [h1.1]; exact hdB_self (V := V) (X := X) (by simp)))
          · exact Or.inr (List.mem_append_right _ (List.mem_append_left _ h1))
      · rcases preA_in hr h with h1 | h1
        · exact Or.inl ⟨h1.1, by omega⟩
        · exact Or.inr (List.mem_append_right _ (List.mem_append_right _ h1))
/-- A row of which no cell has turned. -/
theorem fo_still {V V' : World} {X : Nat → Prop} : ∀ (f : Fo) (b o : Nat), FoAt V X f (some ⟨b, o, none⟩) → (∀ j, o ≤ j → V'.cell? ⟨b, j, none⟩ = V.cell? ⟨b, j, none⟩) → (∀ q ∈ rowsB V 0 f b o, ∀ j, V'.cell? ⟨q, j, none⟩ = V.cell? ⟨q, j, none⟩) →
    FoAt V' X f (some ⟨b, o, none⟩) ∧ preA V' f b o = preA V f b o ∧ rowsB V' 0 f b o = rowsB V 0 f b o
  | .nil, _, _, _, _, _ => ⟨True.intro, rfl, rfl⟩
  | .node _ _ k l r, b, o, hf, h1, h2 => by
    obtain ⟨b1, o1, ka, cap, e, hb, c0, c1, c2, c3, c4, hl, hr⟩ := hf
    cases e
    rw [rowsB, kidsA_of c3] at h2
    have c3' := (h1 (o + 3) (by omega)).trans c3
    obtain ⟨r1, r2, r3⟩ := fo_still r b (o + 4) hr (fun j hj => h1 j (by omega)) (fun q hq => h2 q (by simp [hq]))
    have hL : FoAt V' X l ka ∧ preA V' l (adB ka) (adO ka) = preA V l (adB ka) (adO ka) ∧ rowsB V' 0 l (adB ka) (adO ka) = rowsB V 0 l (adB ka) (adO ka) := by
      cases l with
      | nil => exact ⟨True.intro, rfl, rfl⟩
      | node x y k2 l2 r2 =>
        obtain ⟨g, go, e, hg⟩ := fo_blk hl (by simp)
        subst e
        exact fo_still _ g go hl (fun j _ => h2 g (List.mem_append_left _ (hdB_self (V := V) (X := X) (by simp))) j) (fun q hq => h2 q (List.mem_append_right _ (List.mem_append_left _ hq)))
    obtain ⟨l1, l2, l3⟩ := hL
    exact ⟨⟨b, o, ka, cap, rfl, hb, (h1 _ (by omega)).trans c0, (h1 _ (by omega)).trans c1, (h1 _ (by omega)).trans c2, c3', c4, l1, r1⟩, by rw [preA, preA, kidsA_of c3, kidsA_of c3', l2, r2], by rw [rowsB, rowsB, kidsA_of c3, kidsA_of c3', l3, r3]⟩
theorem wiF_len (id : Int) (tx : ByteArray) : ∀ f : Fo, foLen (wiF id tx f).1 = foLen f
  | .nil => rfl
  | .node _ _ k l r => by
    rw [wiF]
    split
    · rfl
    · split
      · rfl
      · simp only [foLen, wiF_len id tx r]
theorem hdB_len {n0 : Nat} {f g : Fo} {a : Option Addr} (h : foLen f = foLen g) : hdB n0 f a = hdB n0 g a := by
  cases f with
  | nil => cases g with
    | nil => rfl
    | node _ _ _ _ _ => simp [foLen] at h
  | node _ _ _ _ _ => cases g with
    | nil => simp [foLen] at h
    | node _ _ _ _ _ => rfl
/-- The first node of an id gets a text. -/
theorem set_first {V V' : World} {X : Nat → Prop} {id : Int} {tx : ByteArray} {pb po : Nat} (hset : V'.cell? ⟨pb, po + 2, none⟩ = some (.string tx)) (hoth : ∀ q j, ¬ (q = pb ∧ j = po + 2) → V'.cell? ⟨q, j, none⟩ = V.cell? ⟨q, j, none⟩) :
    ∀ (f : Fo) (b o : Nat), FoAt V X f (some ⟨b, o, none⟩) → (b :: rowsB V 0 f b o).Nodup → firstA id (preA V f b o) = some (pb, po) →
      FoAt V' X (wiF id tx f).1 (some ⟨b, o, none⟩) ∧ preA V' (wiF id tx f).1 b o = preA V f b o ∧ rowsB V' 0 (wiF id tx f).1 b o = rowsB V 0 f b o
  | .nil, _, _, _, _, h => by cases h
  | .node x y k l r, b, o, hf, hd, h => by
    have hin := fun p (hp : p ∈ preA V (.node x y k l r) b o) => preA_in hf hp
    obtain ⟨b1, o1, ka, cap, e, hb, c0, c1, c2, c3, c4, hl, hr⟩ := hf
    cases e
    rw [rowsB, kidsA_of c3] at hd
    rw [preA, kidsA_of c3, firstA] at h
    obtain ⟨d1, d2⟩ := List.nodup_cons.1 hd
    obtain ⟨d3, d4, d5⟩ := List.nodup_append.1 d2
    obtain ⟨d6, d7, d8⟩ := List.nodup_append.1 d4
    have hout : ∀ q, q ≠ pb → ∀ j, V'.cell? ⟨q, j, none⟩ = V.cell? ⟨q, j, none⟩ := fun q hq j => hoth q j (fun e => hq e.1)
    rw [wiF]
    by_cases hk : k.1 = id
    · rw [if_pos hk] at h
      have hpb : b = pb ∧ o = po := ⟨congrArg Prod.fst (Option.some.inj h), congrArg Prod.snd (Option.some.inj h)⟩
      obtain ⟨rfl, rfl⟩ := hpb
      rw [if_pos hk]
      have hR := fo_still (V' := V') r b (o + 4) hr (fun j hj => hoth b j (fun e => by have := e.2; omega)) (fun q hq => hout q (fun e => by subst e; exact d1 (by simp [hq])))
      have hL : FoAt V' X l ka ∧ preA V' l (adB ka) (adO ka) = preA V l (adB ka) (adO ka) ∧ rowsB V' 0 l (adB ka) (adO ka) = rowsB V 0 l (adB ka) (adO ka) := by
        cases l with
        | nil => exact ⟨True.intro, rfl, rfl⟩
        | node x2 y2 k2 l2 r2 =>
          obtain ⟨g, go, e, hg⟩ := fo_blk hl (by simp)
          subst e
          exact fo_still _ g go hl (fun j _ => hout g (fun e => d1 (by rw [← e]; exact List.mem_append_left _ (hdB_self (V := V) (X := X) (by simp)))) j) (fun q hq => hout q (fun e => d1 (by rw [← e]; exact List.mem_append_right _ (List.mem_append_left _ hq))))
      obtain ⟨l1, l2, l3⟩ := hL
      obtain ⟨r1, r2, r3⟩ := hR
      have c3' := (hoth b (o + 3) (fun e => by have := e.2; omega)).trans c3
      exact ⟨⟨b, o, ka, cap, rfl, hb, (hoth b _ (fun e => by have := e.2; omega)).trans c0, (hoth b _ (fun e => by have := e.2; omega)).trans c1, hset, c3', c4, l1, r1⟩, by rw [preA, preA, kidsA_of c3, kidsA_of c3', l2, r2], by rw [rowsB, rowsB, kidsA_of c3, kidsA_of c3', l3, r3]⟩
    · rw [if_neg hk, firstA_append] at h
      rw [if_neg hk]
      have hw := wiF_first (V := V) id tx l (adB ka) (adO ka)
      cases hfl : firstA id (preA V l (adB ka) (adO ka)) with
      | some p =>
        rw [hfl] at h hw
        rw [Option.some_or] at h
        cases h
        have hw2 : (wiF id tx l).2 = true := by rw [hw]; rfl
        rw [if_pos hw2]
        cases l with
        | nil => cases hfl
        | node x2 y2 k2 l2 r2 =>
          obtain ⟨g, go, e, hg⟩ := fo_blk hl (by simp)
          subst e
          have hgh := hdB_self (V := V) (X := X) (f := .node x2 y2 k2 l2 r2) (g := g) (go := go) (by simp)
          have hpin := preA_in hl (firstA_mem id _ _ hfl)
          simp only at hpin
          have hp : pb = g ∨ pb ∈ rowsB V 0 (.node x2 y2 k2 l2 r2) g go := hpin.imp (fun h => h.1) (fun h => h)
          have hpb : b ≠ pb := fun e => by
            rcases hp with h | h
            · exact d1 (by rw [e, h]; exact List.mem_append_left _ hgh)
            · exact d1 (by rw [e]; exact List.mem_append_right _ (List.mem_append_left _ h))
          have hR := fo_still (V' := V') r b (o + 4) hr (fun j _ => hout b hpb j) (fun q hq => hout q (fun e => by
            subst e
            rcases hp with h | h
            · exact d5 q (by rw [h]; exact hgh) q (List.mem_append_right _ hq) rfl
            · exact d8 q h q hq rfl))
          obtain ⟨l1, l2', l3⟩ := set_first hset hoth _ g go hl (List.nodup_cons.2 ⟨fun h => d5 g hgh g (List.mem_append_left _ h) rfl, d6⟩) hfl
          obtain ⟨r1, r2', r3⟩ := hR
          have c3' := (hout b hpb (o + 3)).trans c3
          have hlen := wiF_len id tx (.node x2 y2 k2 l2 r2)
          refine ⟨⟨b, o, some ⟨g, go, none⟩, cap, rfl, hb, (hout b hpb _).trans c0, (hout b hpb _).trans c1, (hout b hpb _).trans c2, by rw [hlen]; exact c3', by rw [hlen]; exact c4, l1, r1⟩, ?_, ?_⟩
          · rw [preA, preA, kidsA_of c3, kidsA_of c3', r2']
            rw [show adB (some ⟨g, go, none⟩) = g from rfl, show adO (some ⟨g, go, none⟩) = go from rfl, l2']
          · rw [rowsB, rowsB, kidsA_of c3, kidsA_of c3', r3, hdB_len hlen]
            rw [show adB (some ⟨g, go, none⟩) = g from rfl, show adO (some ⟨g, go, none⟩) = go from rfl, l3]
      | none =>
        rw [hfl] at h hw
        rw [Option.none_or] at h
        have hw2 : ¬ (wiF id tx l).2 = true := by rw [hw]; decide
        rw [if_neg hw2]
        have hpin := preA_in hr (firstA_mem id _ _ h)
        simp only at hpin
        have hL : FoAt V' X l ka ∧ preA V' l (adB ka) (adO ka) = preA V l (adB ka) (adO ka) ∧ rowsB V' 0 l (adB ka) (adO ka) = rowsB V 0 l (adB ka) (adO ka) := by
          cases l with
          | nil => exact ⟨True.intro, rfl, rfl⟩
          | node x2 y2 k2 l2 r2 =>
            obtain ⟨g, go, e, hg⟩ := fo_blk hl (by simp)
            subst e
            have hgh := hdB_self (V := V) (X := X) (f := .node x2 y2 k2 l2 r2) (g := g) (go := go) (by simp)
            refine fo_still _ g go hl (fun j _ => hout g (fun e => ?_) j) (fun q hq => hout q (fun e => ?_))
            · rcases hpin with h | h
              · exact d1 (by rw [← h.1, ← e]; exact List.mem_append_left _ hgh)
              · exact d5 g hgh g (List.mem_append_right _ (by rw [e]; exact h)) rfl
            · rcases hpin with h | h
              · exact d1 (by rw [← h.1, ← e]; exact List.mem_append_right _ (List.mem_append_left _ hq))
              · exact d8 q hq q (by rw [e]; exact h) rfl
        obtain ⟨l1, l2', l3⟩ := hL
        obtain ⟨r1, r2', r3⟩ := set_first hset hoth r b (o + 4) hr (List.nodup_cons.2 ⟨fun h => d1 (by simp [h]), d7⟩) h
        have hown : ∀ j, j < o + 4 → V'.cell? ⟨b, j, none⟩ = V.cell? ⟨b, j, none⟩ := fun j hj => hoth b j (fun e => by
          rcases hpin with h | h
          · have := h.2; have := e.2; omega
          · have h9 := h; rw [← e.1] at h9; exact d1 (by simp [h9]))
        have c3' := (hown (o + 3) (by omega)).trans c3
        exact ⟨⟨b, o, ka, cap, rfl, hb, (hown _ (by omega)).trans c0, (hown _ (by omega)).trans c1, (hown _ (by omega)).trans c2, c3', c4, l1, r1⟩, by rw [preA, preA, kidsA_of c3, kidsA_of c3', l2', r2'], by rw [rowsB, rowsB, kidsA_of c3, kidsA_of c3', l3, r3]⟩
/-- A tree's root and all below it. -/
theorem wiF_root (id : Int) (tx : ByteArray) (t : Tr) : wiF id tx (rootF t) = (rootF (wiT id tx t).1, (wiT id tx t).2) := by
  rw [rootF, wiF, wiT]
  simp only
  split
  · rfl
  · split
    · rfl
    · rfl
end Go.Proofs.Ytpbjncljecfaeaa
