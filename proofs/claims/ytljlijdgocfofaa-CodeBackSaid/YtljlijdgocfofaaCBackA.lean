/-
  append([]api.Step{{Sub: t}}, l...): a row of steps in new memory. No condition but that there are not too many of them.
-/
import Derived.Test.YtljlijdgocfofaaCBackC
import Derived.Laws.AppendOwnNone
namespace Go.Proofs.Ytljlijdgocfofaa
open Go.RowKit
open Extern.Stop (cell)

/-- The cells of steps that lie one behind the other. -/
theorem st_cells {w : World} {S : Nat → Prop} {b : Nat} : ∀ (l : List Stp) (off : Nat), (∀ k x, l[k]? = some x → ∃ ka cap, (∀ j u, (stepCells x ka cap)[j]? = some u → w.cell? ⟨b, off + k * 9 + j, none⟩ = some u) ∧ foLen x.sub.kids ≤ cap ∧ FoAt w S x.sub.kids ka) →
    ∃ xs, StRow w S l xs ∧ xs.length = l.length * 9 ∧ (∀ j u, xs[j]? = some u → w.cell? ⟨b, off + j, none⟩ = some u) ∧ ∀ u ∈ xs, u.oneCell' = true
  | [], _, _ => ⟨[], rfl, rfl, fun j u h => by simp at h, fun u h => by cases h⟩
  | x :: l, off, h => by
    obtain ⟨ka, cap, h1, h2, h3⟩ := h 0 x rfl
    obtain ⟨ys, r1, r2, r3, r4⟩ := st_cells l (off + 9) fun k y hy => by
      obtain ⟨ka', cap', k1, k2⟩ := h (k + 1) y (by simpa using hy)
      exact ⟨ka', cap', fun j u hj => by have := k1 j u hj; rw [show off + 9 + k * 9 + j = off + (k + 1) * 9 + j by omega]; exact this, k2⟩
    have h9 : (stepCells x ka cap).length = 9 := rfl
    refine ⟨stepCells x ka cap ++ ys, ⟨ka, cap, ys, rfl, h2, h3, r1⟩, by rw [List.length_append, h9, r2, List.length_cons]; omega, fun j u hj => ?_, fun u hu => ?_⟩
    · by_cases hj9 : j < 9
      · rw [List.getElem?_append_left (by omega)] at hj
        have := h1 j u hj
        rw [Nat.zero_mul, Nat.add_zero] at this
        exact this
      · rw [List.getElem?_append_right (by omega), h9] at hj
        have := r3 _ u hj
        rw [show off + 9 + (j - 9) = off + j by omega] at this
        exact this
    · rcases List.mem_append.1 hu with hu | hu
      · simp only [stepCells, List.mem_cons, List.not_mem_nil, or_false] at hu
        rcases hu with rfl | rfl | rfl | rfl | rfl | rfl | rfl | rfl | rfl <;> rfl
      · exact r4 u hu
theorem StepsAt.cells9 {w : World} {S : Nat → Prop} {b off : Nat} {l : List Stp} (h : ∀ k x, l[k]? = some x → ∃ ka cap, w.cell? ⟨b, off + k * 9, none⟩ = some (.int .i8 x.op) ∧ w.cell? ⟨b, off + k * 9 + 1, none⟩ = some (.int .i64 x.id) ∧ w.cell? ⟨b, off + k * 9 + 2, none⟩ = some (.int .i64 x.parent) ∧
    w.cell? ⟨b, off + k * 9 + 3, none⟩ = some (.int .i64 x.place) ∧ w.cell? ⟨b, off + k * 9 + 4, none⟩ = some (.string x.text) ∧ w.cell? ⟨b, off + k * 9 + 5, none⟩ = some (.int .i64 x.sub.id) ∧ w.cell? ⟨b, off + k * 9 + 6, none⟩ = some (.int .i64 x.sub.kind) ∧
    w.cell? ⟨b, off + k * 9 + 7, none⟩ = some (.string x.sub.text) ∧ w.cell? ⟨b, off + k * 9 + 8, none⟩ = some (.slice ka (foLen x.sub.kids) cap) ∧ foLen x.sub.kids ≤ cap ∧ FoAt w S x.sub.kids ka) :
    ∀ k x, l[k]? = some x → ∃ ka cap, (∀ j u, (stepCells x ka cap)[j]? = some u → w.cell? ⟨b, off + k * 9 + j, none⟩ = some u) ∧ foLen x.sub.kids ≤ cap ∧ FoAt w S x.sub.kids ka := fun k x hx => by
  obtain ⟨ka, cap, c0, c1, c2, c3, c4, c5, c6, c7, c8, hp, hf⟩ := h k x hx
  refine ⟨ka, cap, fun j u hj => ?_, hp, hf⟩
  have hj9 : j < 9 := (List.getElem?_eq_some_iff.1 hj).1
  have : j = 0 ∨ j = 1 ∨ j = 2 ∨ j = 3 ∨ j = 4 ∨ j = 5 ∨ j = 6 ∨ j = 7 ∨ j = 8 := by omega
  rcases this with rfl | rfl | rfl | rfl | rfl | rfl | rfl | rfl | rfl <;> (cases hj; assumption)

theorem run_append_none {P : Program} (w : World) (base : Nat) (t ty e : TypeId) (i : TypeInfo) (size : Nat) (ht : P.underlying t = some (.slice e)) (hi : P.info? e = some i)
    (v : Value) (n : Nat) (xs : List Value) (hown : w.ownsRow base e size v n xs) (c : Nat) :
    (Builtin.append_ #[t, t] ty #[v, .slice none 0 c]).run P w = .ok v w := by
  rcases hown.2 with ⟨rfl, rfl⟩ | ⟨g, cap, cur, rfl, _, _, hnc, _⟩
  · simp [Builtin.append_, run_underlying ht, sizeOf, typeInfo, hi, Builtin.lenOf, Builtin.firstCells]
  · simp [Builtin.append_, run_underlying ht, sizeOf, typeInfo, hi, Builtin.lenOf, Builtin.firstCells, hnc, storeCells]

/-- A row of steps that was made since w. -/
def RowAt (w : World) (S : Nat → Prop) (g : Nat) (l : List Stp) (w' : World) : Prop := Below w.heap.size w w' ∧ g < w'.heap.size ∧ w.heap.size ≤ g ∧ StepsAt w' (fun k => S k ∨ k = g) (some ⟨g, 0, none⟩) l
theorem row_done {w w' : World} {S : Nat → Prop} {v : Value} {m : Nat} {xs : List Value} {l : List Stp} (hS : ∀ k, S k → k < w.heap.size) (hm : 0 < m) (ho : w'.ownsRow w.heap.size 54 9 v m xs) (hb : Below w.heap.size w w') (hr : StRow w S l xs) : ∃ g c, v = .slice (some ⟨g, 0, none⟩) m c ∧ RowAt w S g l w' := by
  rcases ho.2 with ⟨_, h0⟩ | ⟨g, c, cur, hv, hB, hh, _⟩
  · omega
  · refine ⟨g, c, hv, hb, lt_of_heap hh, hB, (hr.kept (S' := fun k => S k ∨ k = g) fun k hk => ⟨Or.inl hk, hb.block k (hS k hk)⟩).at (Or.inr rfl) fun j u hj => ?_⟩
    exact owns_cell ho (by rw [hv]; rfl) j u hj
def oneT (t : Tr) : Stp := ⟨0, 0, 0, 0, ⟨#[]⟩, t⟩
theorem wpList_row {ops : Array Oper} {rest : List Oper} {o : Oper} {a : Act} {Q : Exit → Act → World → Prop} (w : World) (hgd : o.guard = none) (sl x : Operand)
    (ho : o.op = .call { callee := .builtin .append, args := #[sl, x], argTypes := #[26, 26] })
    (S : Nat → Prop) (hS : ∀ k, S k → k < w.heap.size) (t : Tr) (ka : Option Addr) (len kcap : Nat) (hlen : len = foLen t.kids) (hkc : foLen t.kids ≤ kcap) (hk : FoAt w S t.kids ka)
    (hs : a.eval sl = .slice (some ⟨w.heap.size, 0, none⟩) 1 1) (sa : Option Addr) (ll scap : Nat) (l : List Stp) (hll : ll = l.length) (hl70 : l.length ≤ 70) (hx : a.eval x = .slice sa ll scap) (hst : StepsAt w S sa l)
    (h : ∀ g c w', RowAt w S g (oneT t :: l) w' → wpList Try.prog ops Q rest (a.put o.dst (.slice (some ⟨g, 0, none⟩) (1 + ll) c)) w') :
    wpList Try.prog ops Q (o :: rest) a (w.alloc (.cells #[.int .i8 0, .int .i64 0, .int .i64 0, .int .i64 0, .string ⟨#[]⟩, .int .i64 t.id, .int .i64 t.kind, .string t.text, .slice ka len kcap] 54)) := by
  subst hlen
  obtain ⟨i0, z0, hi0, hz0, hz1, hz2, hz3⟩ := info_wide Try.infoSt
  have hmade : (w.alloc (.cells (stepCells (oneT t) ka kcap).toArray 54)).ownsRow w.heap.size 54 9 (.slice (some ⟨w.heap.size, 0, none⟩) 1 1) 1 (stepCells (oneT t) ka kcap) :=
    World.ownsRow_lit w _ 1 (Nat.le_refl _) (by unfold maxLen; omega) rfl
  have hbel : Below w.heap.size w (w.alloc (.cells (stepCells (oneT t) ka kcap).toArray 54)) := (Below.refl _ _).alloc (Nat.le_refl _) _
  have hk1 : StRow w S [oneT t] (stepCells (oneT t) ka kcap) := ⟨ka, kcap, [], by simp, hkc, hk, rfl⟩
  show wpList Try.prog ops Q (o :: rest) a (w.alloc (.cells (stepCells (oneT t) ka kcap).toArray 54))
  by_cases h0 : 0 < l.length
  · obtain ⟨b, off, rfl, hSb, hc⟩ := hst h0
    obtain ⟨xs, r1, r2, r3, r4⟩ := st_cells l off (StepsAt.cells9 hc)
    refine wpList_append_own _ hgd sl x _ ho w.heap.size 54 i0 z0 9 104 Try.underlying26 hi0 hz0 hz1 hz2 hz3 (by omega) _ 1 (stepCells (oneT t) ka kcap) hs hmade ⟨b, off, none⟩ ll scap xs hx (by rw [r2, hll])
      (fun j u hj => ?_) r4 (by unfold maxLen; omega) (by omega) hbel.size fun v' w' ho' hg _ => ?_
    · have hadd : (⟨b, off, none⟩ : Addr).add j = ⟨b, off + j, none⟩ := by unfold Addr.add; simp
      rw [hadd]
      exact (World.cell?_of_block (hbel.block b (hS b hSb))).trans (r3 j u hj)
    · have hb2 : Below w.heap.size w w' := ⟨hg.os.trans hbel.os, hg.tape.trans hbel.tape, hg.output.trans hbel.output, Nat.le_trans hbel.size hg.size, fun k hk => (hg.block k (Nat.lt_of_lt_of_le hk hbel.size) (by simp [Value.ownBlock]; omega)).trans (hbel.block k hk)⟩
      obtain ⟨g, c, rfl, hrow⟩ := row_done hS (by omega) ho' hb2 (l := oneT t :: l) ⟨ka, kcap, xs, rfl, hkc, hk, r1⟩
      exact h g c w' hrow
  · have hl0 : l = [] := List.eq_nil_of_length_eq_zero (by omega)
    subst hl0
    simp only [List.length_nil] at hll
    subst hll
    have hdone := fun (hb2 : Below w.heap.size w (w.alloc (.cells (stepCells (oneT t) ka kcap).toArray 54))) => row_done hS (by omega) hmade hb2 hk1
    cases sa with
    | none =>
      refine wpList_plain hgd fun K hK => ?_
      have hrun := run_append_none (P := Try.prog) _ w.heap.size 26 o.type 54 i0 9 Try.underlying26 hi0 _ 1 _ hmade scap
      unfold Oper.wp
      simp [execOp, ho, resolve, invoke, builtin, hs, hx, hrun, Result.andThen]
      obtain ⟨g, c, e, hrow⟩ := hdone hbel
      cases e
      exact hK _ _ (h _ _ _ hrow)
    | some ad =>
      refine wpList_append_own _ hgd sl x _ ho w.heap.size 54 i0 z0 9 104 Try.underlying26 hi0 hz0 hz1 hz2 hz3 (by omega) _ 1 (stepCells (oneT t) ka kcap) hs hmade ad 0 scap [] hx rfl
        (fun j u hj => by simp at hj) (fun u hu => by cases hu) (by unfold maxLen; omega) (by omega) hbel.size fun v' w' ho' hg _ => ?_
      have hb2 : Below w.heap.size w w' := ⟨hg.os.trans hbel.os, hg.tape.trans hbel.tape, hg.output.trans hbel.output, Nat.le_trans hbel.size hg.size, fun k hk => (hg.block k (Nat.lt_of_lt_of_le hk hbel.size) (by simp [Value.ownBlock]; omega)).trans (hbel.block k hk)⟩
      rw [List.append_nil] at ho'
      obtain ⟨g, c, rfl, hrow⟩ := row_done hS (by omega) ho' hb2 hk1
      exact h g c w' hrow
section
variable {w W : World} {S : Nat → Prop} {n : Int} {s : ByteArray} {t : Tr} {ka : Option Addr} {len kcap : Nat} {sa : Option Addr} {ll : Nat} {l : List Stp} {ba : Option Addr} {bl : Nat} {bs : List UInt8}
theorem BackB.kids (B : BackB w W S n s t ka len kcap sa ll l ba bl bs) : ∀ X, Below W.heap.size W X → len = foLen t.kids ∧ foLen t.kids ≤ kcap ∧ FoAt X S t.kids ka := fun X hX => by
  obtain ⟨ka', kcap', e, h1, h2⟩ := B.tr X hX
  injection e with e
  simp at e
  obtain ⟨rfl, rfl, rfl⟩ := e
  exact ⟨rfl, h1, h2⟩
end
/-- What lies ahead of a round over the steps: small is no more than that all of them so far are good. -/
def RoundB (w : World) (L : List Stp) (n60 : Prop) (v i : Value) (wr : World) : Prop := ∃ (k : Nat) (sm : Bool), k ≤ L.length ∧ v = .bool sm ∧ i = .int .i64 (k : Int) ∧ Below w.heap.size w wr ∧ (sm = true → n60 ∧ ∀ j y, j < k → L[j]? = some y → y.sub.good)
theorem RoundB.start {w : World} {L : List Stp} {ll : Nat} : RoundB w L (ll ≤ 60) (.bool (decide ((ll : Int) ≤ 60))) (.int .i64 0) w := ⟨0, _, Nat.zero_le _, rfl, rfl, Below.refl _ _, fun h => ⟨by have := of_decide_eq_true h; omega, fun j y hj => by omega⟩⟩
/-- What lies ahead of a round over the spots of one. -/
def RoundS (T : List (ByteArray × Int)) (sm : Bool) (v i : Value) (w wr : World) : Prop := ∃ (j : Nat) (sn : Bool), j ≤ T.length ∧ v = .bool sn ∧ i = .int .i64 (j : Int) ∧ w = wr ∧ (sn = true → sm = true ∧ ∀ i p, i < j → T[i]? = some p → p.2 ≤ 40 ∧ i < 200)
theorem RoundS.next {T : List (ByteArray × Int)} {sm sn : Bool} {w : World} {j : Nat} {p : ByteArray × Int} (hj : T[j]? = some p) (h : sn = true → sm = true ∧ ∀ i p, i < j → T[i]? = some p → p.2 ≤ 40 ∧ i < 200) {b : Bool} (hb : b = true → sn = true ∧ p.2 ≤ 40 ∧ j < 200) : RoundS T sm (.bool b) (.int .i64 ((j : Int) + 1)) w w :=
  ⟨j + 1, b, by have := (List.getElem?_eq_some_iff.1 hj).1; omega, rfl, by congr 1, rfl, fun e => by
    obtain ⟨h1, h2, h3⟩ := hb e
    obtain ⟨h4, h5⟩ := h h1
    refine ⟨h4, fun i q hi hq => ?_⟩
    by_cases he : i = j
    · subst he
      rw [hj] at hq
      cases hq
      exact ⟨h2, h3⟩
    · exact h5 i q (by omega) hq⟩
theorem RoundS.good {T : List (ByteArray × Int)} {sm sn : Bool} {t : Tr} (hT : 251 ≤ T.length ∨ T = spT 1 t) (h : sn = true → sm = true ∧ ∀ i p, i < T.length → T[i]? = some p → p.2 ≤ 40 ∧ i < 200) (hs : sn = true) : sm = true ∧ t.good := by
  obtain ⟨h1, h2⟩ := h hs
  refine ⟨h1, ?_⟩
  rcases hT with hT | rfl
  · have := (h2 200 _ (by omega) (List.getElem?_eq_getElem (by omega))).2
    omega
  · exact (good_spots t).2 fun i p hp => h2 i p (List.getElem?_eq_some_iff.1 hp).1 hp
theorem RoundB.next {w wr : World} {L : List Stp} {n60 : Prop} {sm sn : Bool} {k : Nat} {y : Stp} (hy : L[k]? = some y) (hb : Below w.heap.size w wr) (h : sm = true → n60 ∧ ∀ j y, j < k → L[j]? = some y → y.sub.good) (hs : sn = true → sm = true ∧ y.sub.good) : RoundB w L n60 (.bool sn) (.int .i64 ((k : Int) + 1)) wr :=
  ⟨k + 1, sn, by have := (List.getElem?_eq_some_iff.1 hy).1; omega, rfl, by congr 1, hb, fun e => by
    obtain ⟨h1, h2⟩ := hs e
    obtain ⟨h3, h4⟩ := h h1
    refine ⟨h3, fun j z hj hz => ?_⟩
    by_cases he : j = k
    · subst he
      rw [hy] at hz
      cases hz
      exact h2
    · exact h4 j z (by omega) hz⟩
theorem all_good {t : Tr} {l : List Stp} {ll k : Nat} {sm : Bool} (hll : ll = l.length) (hk : k = (oneT t :: l).length) (h : sm = true → ll ≤ 60 ∧ ∀ j y, j < k → (oneT t :: l)[j]? = some y → y.sub.good) (hs : sm = true) : good4 t l := by
  obtain ⟨h1, h2⟩ := h hs
  refine ⟨h2 0 (oneT t) (by rw [hk]; simp) rfl, by omega, fun x hx => ?_⟩
  obtain ⟨i, hi⟩ := List.getElem?_of_mem hx
  have hil := (List.getElem?_eq_some_iff.1 hi).1
  exact h2 (i + 1) x (by rw [hk, List.length_cons]; omega) (by simpa using hi)
theorem row_cells {w w' X : World} {S : Nat → Prop} {g k : Nat} {L : List Stp} {y : Stp} (h : RowAt w S g L w') (hS : ∀ k, S k → k < w.heap.size) (hX : Below w'.heap.size w' X) (hy : L[k]? = some y) :
    ∃ ka cap, X.cell? ⟨g, k * 9, none⟩ = some (.int .i8 y.op) ∧ X.cell? ⟨g, k * 9 + 1, none⟩ = some (.int .i64 y.id) ∧ X.cell? ⟨g, k * 9 + 2, none⟩ = some (.int .i64 y.parent) ∧
    X.cell? ⟨g, k * 9 + 3, none⟩ = some (.int .i64 y.place) ∧ X.cell? ⟨g, k * 9 + 4, none⟩ = some (.string y.text) ∧ X.cell? ⟨g, k * 9 + 5, none⟩ = some (.int .i64 y.sub.id) ∧ X.cell? ⟨g, k * 9 + 6, none⟩ = some (.int .i64 y.sub.kind) ∧
    X.cell? ⟨g, k * 9 + 7, none⟩ = some (.string y.sub.text) ∧ X.cell? ⟨g, k * 9 + 8, none⟩ = some (.slice ka (foLen y.sub.kids) cap) ∧ foLen y.sub.kids ≤ cap ∧ FoAt X (fun k => S k ∨ k = g) y.sub.kids ka := by
  have hlt : ∀ k, (S k ∨ k = g) → k < w'.heap.size := fun k hk => by
    rcases hk with hk | rfl
    · exact Nat.lt_of_lt_of_le (hS k hk) h.1.size
    · exact h.2.1
  obtain ⟨b, off, e, _, hc⟩ := (h.2.2.2.kept (w' := X) (S' := fun k => S k ∨ k = g) fun k hk => ⟨hk, hX.block k (hlt k hk)⟩) (by have := (List.getElem?_eq_some_iff.1 hy).1; omega)
  cases e
  obtain ⟨ka, cap, hh⟩ := hc k y hy
  simp only [Nat.zero_add] at hh
  exact ⟨ka, cap, hh⟩
theorem row_low {w w' X : World} {S : Nat → Prop} {g : Nat} {L : List Stp} (h : RowAt w S g L w') (hS : ∀ k, S k → k < w.heap.size) (hX : Below w'.heap.size w' X) : ∀ k, (S k ∨ k = g) → k < X.heap.size := fun k hk => by
  have h1 := h.1.size
  have h2 := hX.size
  rcases hk with hk | rfl
  · have := hS k hk; omega
  · have := h.2.1; omega
theorem fits_row {t : Tr} {l : List Stp} (ht : Fits t) (hl : ∀ x ∈ l, Fits x.sub) {k : Nat} {y : Stp} (hy : (oneT t :: l)[k]? = some y) : foLen y.sub.kids ≤ 9223372036854775807 ∧ foFit y.sub.kids := by
  rcases List.mem_cons.1 (List.mem_of_getElem? hy) with rfl | h
  · exact ht
  · exact hl y h
abbrev boxS (y : Stp) (ka : Option Addr) (ln cap : Nat) : Obj := .cells #[.int .i8 y.op, .int .i64 y.id, .int .i64 y.parent, .int .i64 y.place, .string y.text, .int .i64 y.sub.id, .int .i64 y.sub.kind, .string y.sub.text, .slice ka ln cap] 54
theorem below_box {w17 wr w18 : World} {o : Obj} (h : Below w17.heap.size w17 wr) (h2 : Below (wr.alloc o).heap.size (wr.alloc o) w18) : Below w17.heap.size w17 w18 := (h.alloc h.size o).trans (h2.mono (by rw [World.size_alloc]; have := h.size; omega))
theorem walk_row {w w' X : World} {S : Nat → Prop} {g k : Nat} {t : Tr} {l : List Stp} {y : Stp} {ka : Option Addr} {ln cap : Nat} (h : RowAt w S g (oneT t :: l) w') (hS : ∀ k, S k → k < w.heap.size) (hX : Below w'.heap.size w' X) (ht : Fits t) (hl : ∀ x ∈ l, Fits x.sub) (hy : (oneT t :: l)[k]? = some y) (hln : ln = foLen y.sub.kids) (hp : foLen y.sub.kids ≤ cap) (hf : FoAt X (fun k => S k ∨ k = g) y.sub.kids ka) :
    Calls Try.prog 35 #[.agg #[.int .i64 y.sub.id, .int .i64 y.sub.kind, .string y.sub.text, .slice ka ln cap], .int .i64 251] (X.alloc (boxS y ka ln cap)) (WalkAll (X.alloc (boxS y ka ln cap)) y.sub) := by
  have hF := fits_row ht hl hy
  have hlow := row_low h hS hX
  subst hln
  have hal : Below X.heap.size X (X.alloc (boxS y ka (foLen y.sub.kids) cap)) := (Below.refl _ _).alloc (Nat.le_refl _) _
  exact walk_all _ (fun k => S k ∨ k = g) _ y.sub hF.1 hF.2 (fun k hk => Nat.lt_of_lt_of_le (hlow k hk) hal.size) ⟨ka, cap, rfl, hp, hf.kept fun k hk => ⟨hk, hal.block k (hlow k hk)⟩⟩
theorem spot_cell {w : World} {B : Nat} {a : Option Addr} {n cap j : Nat} {xs : List Value} {d : Int} (h : w.ownsRow B 58 5 (.slice a n cap) n xs) (hn : 0 < n) (hx : xs[j * 5 + 4]? = some (.int .i64 d)) : ∃ g, a = some ⟨g, 0, none⟩ ∧ w.cell? ⟨g, j * 5 + 4, none⟩ = some (.int .i64 d) := by
  have hgg : ∃ g, a = some ⟨g, 0, none⟩ := by
    rcases h.2 with ⟨hv, h0⟩ | ⟨g, cap2, cur, hv, _⟩
    · omega
    · cases hv; exact ⟨g, rfl⟩
  obtain ⟨g, rfl⟩ := hgg
  exact ⟨g, rfl, owns_cell h rfl _ _ hx⟩
theorem back_bel {W w16 w17 wr : World} (h1 : Below W.heap.size W w16) (h2 : Below w16.heap.size w16 w17) (h3 : Below w17.heap.size w17 wr) : Below W.heap.size W wr :=
  (h1.trans (h2.mono h1.size)).trans (h3.mono (Nat.le_trans h1.size h2.size))
theorem through_drew {X Y : World} (h : Below X.drew.heap.size X.drew Y) : Below X.heap.size X Y := (drew_below X).trans h
theorem yes_end {w W X Y : World} (h1 : Below w.heap.size w W) (h2 : Below W.heap.size W X) (h3 : Below X.heap.size X Y) : YesB w (.returned (.bool true)) Y :=
  ⟨rfl, h1.trans ((h2.trans (h3.mono h2.size)).mono h1.size)⟩
end Go.Proofs.Ytljlijdgocfofaa
