/-
  Rows of trees and of steps that grow, as cells; a chain of trees that steps take back, plainly. No condition.
  What the rows of UndoRow hold, round by round; Apply and Invert beside them. No condition but that there are not too many nodes.
-/
import Derived.Test.YthjniclhnfipdaaILaterQv
namespace Go.Proofs.Ythjniclhnfipdaa
open Go.RowKit Go.Shelf
set_option linter.unusedVariables false
set_option linter.unusedSimpArgs false

/-- The blocks of the two rows that grow. -/
def EB (ta ba : Option Addr) (q : Nat) : Prop := (∃ a, ta = some a ∧ a.block = q) ∨ (∃ a, ba = some a ∧ a.block = q)
theorem own_blk {ta : Option Addr} {n c q : Nat} : some q = (Value.slice ta n c).ownBlock ↔ ∃ a, ta = some a ∧ a.block = q := by
  cases ta with
  | none => simp [Value.ownBlock]
  | some a => simp [Value.ownBlock, eq_comm]
/-- A forest lies in memory, in none of those blocks. -/
def LiesN (X : World) (E : Nat → Prop) (f : Fo) (a : Option Addr) (c : Nat) : Prop := foLen f ≤ c ∧ FoAt X (fun q => q < X.heap.size ∧ ¬ E q) f a
theorem LiesN.on {X Y : World} {E : Nat → Prop} {f : Fo} {a : Option Addr} {c : Nat} (h : LiesN X E f a c) (hb : Below X.heap.size X Y) : LiesN Y E f a c := ⟨h.1, h.2.kept fun q hq => ⟨⟨Nat.lt_of_lt_of_le hq.1 hb.size, hq.2⟩, hb.block q hq.1⟩⟩
theorem LiesN.i {X : World} {E : Nat → Prop} {f : Fo} {a : Option Addr} {c : Nat} (h : LiesN X E f a c) : LiesI X f a c := ⟨h.1, h.2.kept fun q hq => ⟨hq.1, rfl⟩⟩
theorem LiesI.n {w X : World} {E : Nat → Prop} {f : Fo} {a : Option Addr} {c : Nat} (h : LiesI w f a c) (hb : Below w.heap.size w X) (hE : ∀ q, E q → w.heap.size ≤ q) : LiesN X E f a c := ⟨h.1, h.2.kept fun q hq => ⟨⟨Nat.lt_of_lt_of_le hq hb.size, fun he => by have := hE q he; omega⟩, hb.block q hq⟩⟩
/-- One of the rows has grown. -/
theorem LiesN.grown {X Y : World} {ta ba : Option Addr} {n cc g : Nat} {o : Obj} {f : Fo} {a : Option Addr} {c : Nat} (h : LiesN X (EB ta ba) f a c) (hg : (X.alloc o).grownBy Y (Value.slice ta n cc).ownBlock) (hat : (Value.slice ta n cc).ownBlock = some g ∨ g = X.heap.size + 1) : LiesN Y (EB (some ⟨g, 0, none⟩) ba) f a c := by
  refine ⟨h.1, h.2.kept fun q hq => ?_⟩
  have h1 : some q ≠ (Value.slice ta n cc).ownBlock := fun e => hq.2 (Or.inl (own_blk.1 e))
  have hs := hg.size
  rw [World.size_alloc] at hs
  refine ⟨⟨by omega, ?_⟩, (hg.block q (by rw [World.size_alloc]; omega) h1).trans (Below.heap_alloc _ _ _ hq.1)⟩
  rintro (⟨b, e, hb⟩ | he)
  · cases e
    simp only at hb
    rcases hat with hat | hat
    · exact h1 (by rw [hat, hb])
    · omega
  · exact hq.2 (Or.inr he)
theorem EB.comm {ta ba : Option Addr} {q : Nat} : EB ta ba q ↔ EB ba ta q := or_comm
theorem LiesN.swap {X : World} {ta ba : Option Addr} {f : Fo} {a : Option Addr} {c : Nat} (h : LiesN X (EB ta ba) f a c) : LiesN X (EB ba ta) f a c := ⟨h.1, h.2.kept fun q hq => ⟨⟨hq.1, fun he => hq.2 (EB.comm.1 he)⟩, rfl⟩⟩
def treeC (t : Tr) (a : Option Addr) (c : Nat) : List Value := [.int .i64 t.id, .int .i64 t.kind, .string t.text, .slice a (foLen t.kids) c]
def stepC (s : Sf) (a : Option Addr) (c : Nat) : List Value := [.int .i8 s.op, .int .i64 s.id, .int .i64 s.par, .int .i64 s.at_, .string s.tx, .int .i64 s.sub.id, .int .i64 s.sub.kind, .string s.sub.text, .slice a (foLen s.sub.kids) c]
/-- The cells of a row of trees. -/
def TRow (X : World) (E : Nat → Prop) : List Tr → List Value → Prop
  | [], xs => xs = []
  | t :: l, xs => ∃ a c ys, xs = treeC t a c ++ ys ∧ LiesN X E t.kids a c ∧ TRow X E l ys
def BRow (X : World) (E : Nat → Prop) : List Sf → List Value → Prop
  | [], xs => xs = []
  | t :: l, xs => ∃ a c ys, xs = stepC t a c ++ ys ∧ LiesN X E t.sub.kids a c ∧ BRow X E l ys
theorem TRow.kept {X Y : World} {E F : Nat → Prop} (h : ∀ f a c, LiesN X E f a c → LiesN Y F f a c) : ∀ {l : List Tr} {xs : List Value}, TRow X E l xs → TRow Y F l xs
  | [], _, k => k
  | _ :: _, _, k => by
    obtain ⟨a, c, ys, e, h1, h2⟩ := k
    exact ⟨a, c, ys, e, h _ _ _ h1, h2.kept h⟩
theorem BRow.kept {X Y : World} {E F : Nat → Prop} (h : ∀ f a c, LiesN X E f a c → LiesN Y F f a c) : ∀ {l : List Sf} {xs : List Value}, BRow X E l xs → BRow Y F l xs
  | [], _, k => k
  | _ :: _, _, k => by
    obtain ⟨a, c, ys, e, h1, h2⟩ := k
    exact ⟨a, c, ys, e, h _ _ _ h1, h2.kept h⟩
theorem TRow.snoc {X : World} {E : Nat → Prop} {t : Tr} {a : Option Addr} {c : Nat} (h : LiesN X E t.kids a c) : ∀ {l : List Tr} {xs : List Value}, TRow X E l xs → TRow X E (l ++ [t]) (xs ++ treeC t a c)
  | [], xs, k => by subst k; exact ⟨a, c, [], by simp, h, rfl⟩
  | _ :: _, xs, k => by
    obtain ⟨a', c', ys, e, h1, h2⟩ := k
    exact ⟨a', c', _, by rw [e, List.append_assoc], h1, TRow.snoc h h2⟩
theorem BRow.snoc {X : World} {E : Nat → Prop} {t : Sf} {a : Option Addr} {c : Nat} (h : LiesN X E t.sub.kids a c) : ∀ {l : List Sf} {xs : List Value}, BRow X E l xs → BRow X E (l ++ [t]) (xs ++ stepC t a c)
  | [], xs, k => by subst k; exact ⟨a, c, [], by simp, h, rfl⟩
  | _ :: _, xs, k => by
    obtain ⟨a', c', ys, e, h1, h2⟩ := k
    exact ⟨a', c', _, by rw [e, List.append_assoc], h1, BRow.snoc h h2⟩
theorem TRow.nth {X : World} {E : Nat → Prop} : ∀ {l : List Tr} {xs : List Value} (k : Nat) (t : Tr), TRow X E l xs → l[k]? = some t → ∃ a c, (∀ j u, (treeC t a c)[j]? = some u → xs[k * 4 + j]? = some u) ∧ LiesN X E t.kids a c
  | [], _, k, t, _, hk => by simp at hk
  | _ :: _, xs, 0, t, h, hk => by
    obtain ⟨a, c, ys, e, h1, h2⟩ := h
    simp only [List.getElem?_cons_zero, Option.some.injEq] at hk
    subst hk
    refine ⟨a, c, fun j u hj => ?_, h1⟩
    rw [e, Nat.zero_mul, Nat.zero_add, List.getElem?_append_left (List.getElem?_eq_some_iff.1 hj).1]; exact hj
  | x :: _, xs, k + 1, t, h, hk => by
    obtain ⟨a, c, ys, e, h1, h2⟩ := h
    obtain ⟨a', c', k1, k2⟩ := TRow.nth k t h2 (by simpa using hk)
    refine ⟨a', c', fun j u hj => ?_, k2⟩
    have hl : (treeC x a c).length = 4 := rfl
    rw [e, List.getElem?_append_right (by omega), hl, show (k + 1) * 4 + j - 4 = k * 4 + j by omega]
    exact k1 j u hj
theorem BRow.nth {X : World} {E : Nat → Prop} : ∀ {l : List Sf} {xs : List Value} (k : Nat) (t : Sf), BRow X E l xs → l[k]? = some t → ∃ a c, (∀ j u, (stepC t a c)[j]? = some u → xs[k * 9 + j]? = some u) ∧ LiesN X E t.sub.kids a c
  | [], _, k, t, _, hk => by simp at hk
  | _ :: _, xs, 0, t, h, hk => by
    obtain ⟨a, c, ys, e, h1, h2⟩ := h
    simp only [List.getElem?_cons_zero, Option.some.injEq] at hk
    subst hk
    refine ⟨a, c, fun j u hj => ?_, h1⟩
    rw [e, Nat.zero_mul, Nat.zero_add, List.getElem?_append_left (List.getElem?_eq_some_iff.1 hj).1]; exact hj
  | x :: _, xs, k + 1, t, h, hk => by
    obtain ⟨a, c, ys, e, h1, h2⟩ := h
    obtain ⟨a', c', k1, k2⟩ := BRow.nth k t h2 (by simpa using hk)
    refine ⟨a', c', fun j u hj => ?_, k2⟩
    have hl : (stepC x a c).length = 9 := rfl
    rw [e, List.getElem?_append_right (by omega), hl, show (k + 1) * 9 + j - 9 = k * 9 + j by omega]
    exact k1 j u hj
/-- Trees, and the steps that take each back to the one ahead of it. -/
structure ChainI (ts : List Tr) (bs : List Sf) : Prop where
  len : ts.length = bs.length + 1
  good : ∀ k t, ts[k]? = some t → DistT t ∧ RngT t ∧ foSize t.kids + 1 ≤ 200 + 51 * k
  back : ∀ k b t y, bs[k]? = some b → ts[k]? = some t → ts[k + 1]? = some y → SfOk b ∧ ∃ z, b.on y = (z, 0) ∧ sameT z t = true
theorem goesI {s : Sf} {t y : Tr} (hd : DistT t) (hr : RngT t) (hsz : foSize t.kids + 1 ≤ 2000) (h : s.on t = (y, 0)) : SfOk (s.inv t) ∧ (∀ i ∈ idT t, (Lit.int .i64 i).wf = true) ∧ foSize y.kids ≤ foSize t.kids + foSize s.sub.kids + 1 ∧ (DistT y ∧ RngT y) ∧ ∃ z, (s.inv t).on y = (z, 0) ∧ sameT z t = true := by
  obtain ⟨k1, k2, k3⟩ := step_keeps hd hr h
  obtain ⟨b1, b2⟩ := sf_back hd hr h
  obtain ⟨o1, o2⟩ := sf_ok hr hsz h
  exact ⟨o1, o2, k3, ⟨k1, k2⟩, b1⟩
theorem ChainI.one {t : Tr} (h : ApartT t) : ChainI [t] [] := by
  refine ⟨rfl, fun k u hk => ?_, fun k b t y hb => by simp at hb⟩
  cases k with
  | zero => simp at hk; subst hk; exact ⟨h.1, h.2.1, by have := h.2.2; omega⟩
  | succ k => simp at hk
theorem ChainI.snoc {ts : List Tr} {bs : List Sf} {s : Sf} {x y : Tr} (h : ChainI ts bs) (hx : ts[bs.length]? = some x) (hon : s.on x = (y, 0)) (hs : foSize s.sub.kids + 1 ≤ 50) (hb : bs.length < 30) : ChainI (ts ++ [y]) (bs ++ [s.inv x]) ∧ (∀ i ∈ idT x, (Lit.int .i64 i).wf = true) ∧ foSize x.kids + 1 ≤ 2000 := by
  obtain ⟨g1, g2, g3⟩ := h.good _ x hx
  have hG := goesI g1 g2 (by omega) hon
  refine ⟨⟨by simp [h.len], fun k u hk => ?_, fun k b t z hb1 ht1 hz1 => ?_⟩, hG.2.1, by omega⟩
  · rcases Nat.lt_or_ge k ts.length with h1 | h1
    · rw [List.getElem?_append_left h1] at hk; exact h.good k u hk
    · rw [List.getElem?_append_right h1] at hk
      have hk0 : k = ts.length := by
        rcases Nat.lt_or_ge (k - ts.length) 1 with h2 | h2
        · omega
        · rw [List.getElem?_eq_none (by simpa using h2)] at hk; cases hk
      subst hk0
      simp at hk
      subst hk
      have := hG.2.2.1
      have := h.len
      exact ⟨hG.2.2.2.1.1, hG.2.2.2.1.2, by omega⟩
  · have hl := h.len
    rcases Nat.lt_or_ge k bs.length with h1 | h1
    · rw [List.getElem?_append_left h1] at hb1
      rw [List.getElem?_append_left (by omega)] at ht1 hz1
      exact h.back k b t z hb1 ht1 hz1
    · rw [List.getElem?_append_right h1] at hb1
      have hk0 : k = bs.length := by
        rcases Nat.lt_or_ge (k - bs.length) 1 with h2 | h2
        · omega
        · rw [List.getElem?_eq_none (by simpa using h2)] at hb1; cases hb1
      subst hk0
      simp at hb1
      rw [List.getElem?_append_left (by omega), hx] at ht1
      cases ht1
      rw [List.getElem?_append_right (by omega), show bs.length + 1 - ts.length = 0 by omega] at hz1
      simp at hz1
      subst hz1
      subst hb1
      exact ⟨hG.1, hG.2.2.2.2⟩
end Go.Proofs.Ythjniclhnfipdaa
namespace Go.Proofs.Ythjniclhnfipdaa
open Go.RowKit Go.Shelf
set_option linter.unusedVariables false
set_option linter.unusedSimpArgs false

structure RowI (w X : World) (ta : Option Addr) (tc : Nat) (ba : Option Addr) (bc : Nat) (ts : List Tr) (bs : List Sf) : Prop where
  below : Below w.heap.size w X
  trow : ∃ xs, X.ownsRow w.heap.size 24 4 (.slice ta (bs.length + 1) tc) (bs.length + 1) xs ∧ TRow X (EB ta ba) ts xs
  brow : ∃ ys, X.ownsRow w.heap.size 47 9 (.slice ba bs.length bc) bs.length ys ∧ BRow X (EB ta ba) bs ys
  chain : ChainI ts bs
theorem RowI.low {w X : World} {ta ba : Option Addr} {tc bc : Nat} {ts : List Tr} {bs : List Sf} (h : RowI w X ta tc ba bc ts bs) {q : Nat} (hq : EB ta ba q) : w.heap.size ≤ q ∧ q < X.heap.size := by
  obtain ⟨xs, h1, _⟩ := h.trow
  obtain ⟨ys, h2, _⟩ := h.brow
  rcases hq with hq | hq
  · exact owns_bounds h1 (own_blk.2 hq).symm
  · exact owns_bounds h2 (own_blk.2 hq).symm
theorem RowI.on {w X Y : World} {ta ba : Option Addr} {tc bc : Nat} {ts : List Tr} {bs : List Sf} (h : RowI w X ta tc ba bc ts bs) (hb : Below X.heap.size X Y) : RowI w Y ta tc ba bc ts bs := by
  obtain ⟨xs, h1, h2⟩ := h.trow
  obtain ⟨ys, h3, h4⟩ := h.brow
  exact ⟨h.below.trans (hb.mono h.below.size), ⟨xs, owns_kept h1 (fun g cur hc hg => hb.block g (lt_of_some hc)), h2.kept fun f a c k => k.on hb⟩, ⟨ys, owns_kept h3 (fun g cur hc hg => hb.block g (lt_of_some hc)), h4.kept fun f a c k => k.on hb⟩, h.chain⟩
theorem ty_ne {w : World} {y : Nat} {cs cs' : Array Value} {t t' : TypeId} {fr fr' : Nat × Nat} (h : w.heap[y]? = some (.cells cs t fr)) (h' : w.heap[y]? = some (.cells cs' t' fr')) : t = t' := by rw [h] at h'; cases h'; rfl
/-- One tree and one step more. -/
theorem RowI.push {w X X1 X2 : World} {ta ba : Option Addr} {tc bc g1 c1 g2 c2 : Nat} {ts : List Tr} {bs : List Sf} {xs ys : List Value} {o1 o2 : Obj} {y : Tr} {b : Sf} {ya sa : Option Addr} {yc sc : Nat} (h : RowI w X ta tc ba bc ts bs)
    (hT : X.ownsRow w.heap.size 24 4 (.slice ta (bs.length + 1) tc) (bs.length + 1) xs) (hTr : TRow X (EB ta ba) ts xs) (hB : X.ownsRow w.heap.size 47 9 (.slice ba bs.length bc) bs.length ys) (hBr : BRow X (EB ta ba) bs ys)
    (hy : LiesN X (EB ta ba) y.kids ya yc) (hb : LiesN X (EB ta ba) b.sub.kids sa sc) (hch : ChainI (ts ++ [y]) (bs ++ [b]))
    (k1 : X1.ownsRow w.heap.size 24 4 (.slice (some ⟨g1, 0, none⟩) (bs.length + 1 + 1) c1) (bs.length + 1 + 1) (xs ++ treeC y ya yc)) (k2 : (X.alloc o1).grownBy X1 (Value.slice ta (bs.length + 1) tc).ownBlock) (k3 : (Value.slice ta (bs.length + 1) tc).ownBlock = some g1 ∨ g1 = X.heap.size + 1)
    (m1 : X2.ownsRow w.heap.size 47 9 (.slice (some ⟨g2, 0, none⟩) (bs.length + 1) c2) (bs.length + 1) (ys ++ stepC b sa sc)) (m2 : (X1.alloc o2).grownBy X2 (Value.slice ba bs.length bc).ownBlock) (m3 : (Value.slice ba bs.length bc).ownBlock = some g2 ∨ g2 = X1.heap.size + 1) :
    RowI w X2 (some ⟨g1, 0, none⟩) c1 (some ⟨g2, 0, none⟩) c2 (ts ++ [y]) (bs ++ [b]) := by
  have hs1 := k2.size
  have hs2 := m2.size
  rw [World.size_alloc] at hs1 hs2
  have hw := h.below.size
  have hall : ∀ f a c, LiesN X (EB ta ba) f a c → LiesN X2 (EB (some ⟨g1, 0, none⟩) (some ⟨g2, 0, none⟩)) f a c := fun f a c hl => ((hl.grown k2 k3).swap.grown m2 m3).swap
  have hne1 : ∀ q, some q = (Value.slice ba bs.length bc).ownBlock → some q ≠ (Value.slice ta (bs.length + 1) tc).ownBlock := fun q e1 e2 => by
    obtain ⟨c, hc⟩ := owns_type hB e1.symm
    obtain ⟨d, hd⟩ := owns_type hT e2.symm
    exact absurd (ty_ne hc hd) (by decide)
  have hB1 : X1.ownsRow w.heap.size 47 9 (.slice ba bs.length bc) bs.length ys := owns_kept hB fun g cur hc hg => by
    have hlt := lt_of_some hc
    exact (k2.block g (by rw [World.size_alloc]; omega) (hne1 g hg.symm)).trans (Below.heap_alloc _ _ _ hlt)
  have hT2 : X2.ownsRow w.heap.size 24 4 (.slice (some ⟨g1, 0, none⟩) (bs.length + 1 + 1) c1) (bs.length + 1 + 1) (xs ++ treeC y ya yc) := owns_kept k1 fun g cur hc hg => by
    have hlt := lt_of_some hc
    refine (m2.block g (by rw [World.size_alloc]; omega) (fun e => ?_)).trans (Below.heap_alloc _ _ _ hlt)
    obtain ⟨d, hd⟩ := owns_type hB1 e.symm
    exact absurd (ty_ne hc hd) (by decide)
  have hlow : ∀ q, some q = (Value.slice ta (bs.length + 1) tc).ownBlock → w.heap.size ≤ q := fun q e => (owns_bounds hT e.symm).1
  have hlow2 : ∀ q, some q = (Value.slice ba bs.length bc).ownBlock → w.heap.size ≤ q := fun q e => (owns_bounds hB e.symm).1
  refine ⟨⟨?_, ?_, ?_, by omega, fun q hq => ?_⟩, ⟨_, by rw [List.length_append, List.length_singleton]; exact hT2, (TRow.snoc hy hTr).kept hall⟩, ⟨_, by rw [List.length_append, List.length_singleton]; exact m1, (BRow.snoc hb hBr).kept hall⟩, hch⟩
  · exact (m2.os.trans k2.os).trans h.below.os
  · exact (m2.tape.trans k2.tape).trans h.below.tape
  · exact (m2.output.trans k2.output).trans h.below.output
  · rw [m2.block q (by rw [World.size_alloc]; omega) (fun e => by have := hlow2 q e; omega), Below.heap_alloc _ _ _ (by omega), k2.block q (by rw [World.size_alloc]; omega) (fun e => by have := hlow q e; omega), Below.heap_alloc _ _ _ (by omega)]
    exact h.below.block q hq
def TreeN (E : Nat → Prop) (y : Tr) (n : Int) (X : World) (e : Ending) (W : World) : Prop := ∃ va vc, e = .returned (.tuple #[.agg #[.int .i64 y.id, .int .i64 y.kind, .string y.text, .slice va (foLen y.kids) vc], .int .i64 n]) ∧ LiesN W E y.kids va vc ∧ Below X.heap.size X W
def StepN (E : Nat → Prop) (s : Sf) (n : Int) (X : World) (e : Ending) (W : World) : Prop := ∃ va vc, e = .returned (.tuple #[.agg #[.int .i8 s.op, .int .i64 s.id, .int .i64 s.par, .int .i64 s.at_, .string s.tx, .int .i64 s.sub.id, .int .i64 s.sub.kind, .string s.sub.text, .slice va (foLen s.sub.kids) vc], .int .i64 n]) ∧ LiesN W E s.sub.kids va vc ∧ Below X.heap.size X W
theorem LiesN.at {E : Nat → Prop} {W X : World} {t : Tr} {a : Option Addr} {c : Nat} (h : LiesN W E t.kids a c) (hb : Below W.heap.size W X) : TrAt X (fun q => q < W.heap.size ∧ ¬ E q) (.agg #[.int .i64 t.id, .int .i64 t.kind, .string t.text, .slice a (foLen t.kids) c]) t := ⟨a, c, rfl, h.1, h.2.kept fun q hq => ⟨hq, hb.block q hq.1⟩⟩
theorem applyN {E : Nat → Prop} {X0 X1 X : World} {t : Tr} {s : Sf} {ta sa : Option Addr} {tc sc : Nat} (hE : ∀ q, E q → q < X.heap.size) (h0 : LiesN X0 E t.kids ta tc) (h1 : LiesN X1 E s.sub.kids sa sc) (b0 : Below X0.heap.size X0 X) (b1 : Below X1.heap.size X1 X) (hz : foSize t.kids + 1 ≤ 2000) (hok : ∀ i ∈ idT t, (Lit.int .i64 i).wf = true) (ho : SfOk s) :
    Calls Try.prog 75 #[.agg #[.int .i64 t.id, .int .i64 t.kind, .string t.text, .slice ta (foLen t.kids) tc], .agg #[.int .i8 s.op, .int .i64 s.id, .int .i64 s.par, .int .i64 s.at_, .string s.tx, .int .i64 s.sub.id, .int .i64 s.sub.kind, .string s.sub.text, .slice sa (foLen s.sub.kids) sc]] X (TreeN E (applyR (s.on t)) (s.on t).2 X) := by
  refine (applyS_any X _ _ _ _ t s (fun y hy => Nat.lt_of_lt_of_le hy.1 b0.size) (fun y hy => Nat.lt_of_lt_of_le hy.1 b1.size) (h0.at b0) ⟨sa, sc, rfl, h1.1, h1.2.kept fun q hq => ⟨hq, b1.block q hq.1⟩⟩ hz hok ho).mono ?_
  rintro e W ⟨v, rfl, ⟨va, vc, rfl, hc, hf⟩, hb⟩
  refine ⟨va, vc, rfl, ⟨hc, hf.kept fun q hq => ⟨⟨hq.1.lt, fun he => ?_⟩, rfl⟩⟩, hb⟩
  rcases hq.2 with (h | h) | h
  · exact h.2 he
  · exact h.2 he
  · have := hE q he; omega
theorem invertN {E : Nat → Prop} {X0 X1 X : World} {t : Tr} {s : Sf} {ta sa : Option Addr} {tc sc : Nat} (hE : ∀ q, E q → q < X.heap.size) (h0 : LiesN X0 E t.kids ta tc) (h1 : LiesN X1 E s.sub.kids sa sc) (b0 : Below X0.heap.size X0 X) (b1 : Below X1.heap.size X1 X) (hz : foSize t.kids + 1 ≤ 2000) (hok : ∀ i ∈ idT t, (Lit.int .i64 i).wf = true) (ho : SfOk s) :
    Calls Try.prog 78 #[.agg #[.int .i64 t.id, .int .i64 t.kind, .string t.text, .slice ta (foLen t.kids) tc], .agg #[.int .i8 s.op, .int .i64 s.id, .int .i64 s.par, .int .i64 s.at_, .string s.tx, .int .i64 s.sub.id, .int .i64 s.sub.kind, .string s.sub.text, .slice sa (foLen s.sub.kids) sc]] X (StepN E (s.inv t) (s.on t).2 X) := by
  refine (invertS_any X _ _ _ _ t s (fun y hy => Nat.lt_of_lt_of_le hy.1 b0.size) (fun y hy => Nat.lt_of_lt_of_le hy.1 b1.size) (h0.at b0) ⟨sa, sc, rfl, h1.1, h1.2.kept fun q hq => ⟨hq, b1.block q hq.1⟩⟩ hz hok ho).mono ?_
  rintro e W ⟨v, rfl, ⟨va, vc, rfl, hc, hf⟩, hb⟩
  refine ⟨va, vc, rfl, ⟨hc, hf.kept fun q hq => ⟨⟨hq.2, fun he => ?_⟩, rfl⟩⟩, hb⟩
  rcases hq.1 with (h | h) | h
  · exact h.2 he
  · exact h.2 he
  · have := hE q he; omega
theorem LiesN.weak {X : World} {E F : Nat → Prop} {f : Fo} {a : Option Addr} {c : Nat} (h : LiesN X F f a c) (hE : ∀ q, E q → F q) : LiesN X E f a c := ⟨h.1, h.2.kept fun q hq => ⟨⟨hq.1, fun he => hq.2 (hE q he)⟩, rfl⟩⟩
theorem LiesN.more {X : World} {E F : Nat → Prop} {f : Fo} {a : Option Addr} {c : Nat} (h : LiesN X E f a c) (hF : ∀ q, q < X.heap.size → ¬ F q) : LiesN X (fun q => E q ∨ F q) f a c := ⟨h.1, h.2.kept fun q hq => ⟨⟨hq.1, fun he => he.elim hq.2 (hF q hq.1)⟩, rfl⟩⟩
/-- A new block has been written. -/
theorem LiesN.set {X Y V : World} {E : Nat → Prop} {R : Nat} {f : Fo} {a : Option Addr} {c : Nat} (h : LiesN X E f a c) (hb : Below X.heap.size X Y) (hs : ∀ q, q ≠ R → V.heap[q]? = Y.heap[q]?) (hz : V.heap.size = Y.heap.size) (hR : X.heap.size ≤ R) : LiesN V E f a c := ⟨h.1, h.2.kept fun q hq => ⟨⟨by rw [hz]; exact Nat.lt_of_lt_of_le hq.1 hb.size, hq.2⟩, (hs q (by have := hq.1; omega)).trans (hb.block q hq.1)⟩⟩
/-- A block in which nothing of it lies has been written. -/
theorem LiesN.setB {X V : World} {E : Nat → Prop} {R : Nat} {f : Fo} {a : Option Addr} {c : Nat} (h : LiesN X (fun q => E q ∨ q = R) f a c) (hs : ∀ q, q ≠ R → V.heap[q]? = X.heap[q]?) (hz : V.heap.size = X.heap.size) : LiesN V E f a c := ⟨h.1, h.2.kept fun q hq => ⟨⟨by rw [hz]; exact hq.1, fun he => hq.2 (Or.inl he)⟩, hs q (fun e => hq.2 (Or.inr e))⟩⟩
/-- A row of steps that came in. -/
def InI (w : World) (la : Option Addr) (ls : List Sf) : Prop := ∀ k s, ls[k]? = some s → ∃ b off va vc, la = some ⟨b, off, none⟩ ∧ b < w.heap.size ∧ (∀ j u, (stepC s va vc)[j]? = some u → w.cell? ⟨b, off + k * 9 + j, none⟩ = some u) ∧ LiesI w s.sub.kids va vc ∧ foLen s.sub.kids ≤ 9223372036854775807 ∧ foFit s.sub.kids ∧ (Lit.int .i8 s.op).wf = true ∧ ∀ i ∈ idT s.sub, (Lit.int .i64 i).wf = true
end Go.Proofs.Ythjniclhnfipdaa
