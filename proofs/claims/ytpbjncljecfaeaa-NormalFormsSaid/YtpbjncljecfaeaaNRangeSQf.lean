/-
  A range over what the program's Steps hands back: one law for its callers. No condition but that the row is not too great, and that ids are numbers of 64 bits.
-/
import Derived.Test.YtpbjncljecfaeaaNSteps1Qf
namespace Go.Proofs.Ytpbjncljecfaeaa
open Go.RowKit Go.Shelf
attribute [local go_sem] Oper.semAt_some
set_option linter.unusedVariables false
set_option linter.unusedSimpArgs false

/-- How a round is left. -/
def LeftS (B : Nat) (I : Nat → World → Prop) (Ix : Code → World → Prop) (k : Nat) (W : World) (e : Exit) (_ : Act) (V : World) : Prop :=
  TouchS (B + 2) W V ∧ V.heap[B]? = W.heap[B]? ∧ V.heap[B + 1]? = W.heap[B + 1]? ∧ ((e = .normal ∧ I (k + 1) V) ∨ (e = .ret ∧ Ix .ret V) ∨ ∃ id, e = .exit id ∧ Ix (.exit id) V)
set_option maxRecDepth 100000 in
theorem range_steps {n : Nat} {g : Operand} {ps : Array Tmp} {assign body : Code} {Q : Exit → Act → World → Prop} {a : Act} {w : World} (h1 : 1 ≤ n) {NB : Nat} (hg : a.eval g = .func (.func 37) #[] #[.pointer (some ⟨NB, 0, none⟩)])
    (la : Option Addr) (ln lc : Nat) (vs : List SV) (hN : w.cell? ⟨NB, 0, none⟩ = some (.slice la ln lc)) (hr : RowS w la ln lc vs) (hn6 : ln ≤ 10000) (hz : ∀ x ∈ vs, foSize x.s.sub.kids + 1 ≤ 100000) (hw : ∀ x ∈ vs, Wf64 x.s) (hps : ps.size = 1)
    (I : Nat → World → Prop) (Ix : Code → World → Prop)
    (hI : ∀ {k : Nat} {V V' : World}, I k V → SameLow w.heap.size V V' → I k V')
    (hIx : ∀ {c : Code} {V V' : World}, Ix c V → SameLow w.heap.size V V' → Ix c V')
    (h0 : I 0 w)
    (hround : ∀ (l : Nat), l = w.heap.size + 1 → ∀ (k : Nat) (ra : Option Addr) (rn rc : Nat) (js : List SV) (V : World), w.heap.size + 2 ≤ V.heap.size → live k (steps vs) → RowS V ra rn rc js → steps js = seqK k (steps vs) → I k V →
      ∀ (K : Act → World → Prop), (∀ a₁ V0, TouchS (w.heap.size + 2) V V0 → V0.heap[w.heap.size]? = V.heap[w.heap.size]? → V0.heap[w.heap.size + 1]? = V.heap[w.heap.size + 1]? → (∀ V', (∃ o', V' = V0.putObj l o' ∧ ∃ o, V0.heap[l]? = some o ∧ o.isCells = false) → body.wpIn (Fence.wide.inRound l) (n - 1 - 1) Try.prog (LeftS w.heap.size I Ix k V') a₁ V') → K a₁ V0) →
        assign.wpIn (Fence.wide.inRound l) (n - 1 - 1) Try.prog (Exit.then K (fun _ _ _ => False)) { tmps := (ps.zip #[.slice ra rn rc]).foldl (fun t (p, v) => t.setIfInBounds p v) a.tmps, defers := [] } V)
    (hdone : ∀ (D k : Nat) (V : World), D = w.heap.size → live k (steps vs) → (onceK (seqK k (steps vs))).2 = false → I (k + 1) V → V.heap[D]? = some (.deferred (some [])) → Q .normal { a with defers := { target := .collected D, args := #[] } :: a.defers } V)
    (hstop : ∀ (D : Nat) (c : Code) (V : World), D = w.heap.size → Ix c V → V.heap[D]? = some (.deferred (some [])) → c.wpIn Fence.wide n Try.prog Q { a with defers := { target := .collected D, args := #[] } :: a.defers } V) :
    (Code.rangeFunc g ps assign body).wpIn Fence.wide n Try.prog Q a w := by
  obtain ⟨B, hB⟩ : ∃ B, w.heap.size = B := ⟨_, rfl⟩
  simp only [hB] at hI hIx hround hdone hstop h0
  refine wpIn_rangeFunc fun fn hfn => ?_
  obtain ⟨rec, hrec⟩ : ∃ rec : LoopState → Option Code → Loop, rec = fun st pe => { state := st, pending := pe, fn, tmps := a.tmps, params := ps, assign, body, defers := B } := ⟨_, rfl⟩
  obtain ⟨W1, hW1⟩ : ∃ W1, W1 = (w.alloc (.deferred (some []))).alloc (.loop (rec .ready none)) := ⟨_, rfl⟩
  have hsz1 : W1.heap.size = B + 2 := by rw [hW1]; simp [hB]
  have hblk : ∀ x, x < B → W1.heap[x]? = w.heap[x]? := fun x hx => by rw [hW1, Below.heap_alloc _ _ _ (by simp; omega), Below.heap_alloc _ _ _ (by omega)]
  have hbk : Book B (rec .ready none) W1 := by
    rw [hW1, ← hB]
    refine ⟨?_, (Below.heap_alloc _ _ _ (by simp)).trans (World.alloc_heap_new w _)⟩
    have := World.alloc_heap_new (w.alloc (.deferred (some []))) (.loop (rec .ready none))
    rwa [World.size_alloc] at this
  have hb1 : Below w.heap.size w W1 := by rw [hW1]; exact ((Below.refl _ _).alloc (Nat.le_refl _) _).alloc (by simp) _
  have hlow1 : SameLow B w W1 := ⟨hb1.os, hb1.tape, hb1.output, hblk⟩
  have hNl := World.block_lt_of_cell? _ _ hN
  have hN1 : W1.cell? ⟨NB, 0, none⟩ = some (.slice la ln lc) := (World.cell?_of_block (hblk NB (by rw [← hB]; exact hNl))).trans hN
  refine ⟨B + 1, [{ target := .collected B, args := #[] }], W1, { target := .fn (.func 37) #[.pointer (some ⟨NB, 0, none⟩)], args := #[.func (.yield (B + 1)) #[] #[]] }, W1, 37, #[.func (.yield (B + 1)) #[] #[]] ++ #[.pointer (some ⟨NB, 0, none⟩)], W1, ?_, ?_, ?_, ?_, fun _ => h1, ?_⟩
  · rw [hW1, hrec, ← hB]; exact run_enterLoop_outer _ _ _ _ _
  · simp only [resolve, hg]
    simp [go_sem]
  · intro f' hf'; simp [Target.leads] at hf'; subst hf'; exact trivial
  · simp [invoke, go_sem]
  · obtain ⟨J, hJ⟩ : ∃ J : Nat → World → Prop, J = fun k V => I k V ∧ Book B (rec .ready none) V := ⟨_, rfl⟩
    obtain ⟨Jx, hJx⟩ : ∃ Jx : World → Prop, Jx = fun V => ∃ c, Ix c V ∧ Book B (rec .done (some c)) V := ⟨_, rfl⟩
    have hbody : BodyS Try.prog (n - 1 - 1) (B + 1) W1.heap.size (steps vs) J Jx := by
      subst hJ hJx
      rw [hsz1]
      rintro k ra rn rc js V hV hlv hrs hjs ⟨j1, j2⟩
      have hr := hround (B + 1) rfl k ra rn rc js V hV hlv hrs hjs j1
      have hy := run_yield (P := Try.prog) (args := #[.slice ra rn rc]) j2.1 (by rw [hrec]; exact hps.symm)
      rw [hrec] at hy
      refine ⟨fn, _, assign, body, hy, roundIn_of_wpIn hfn (hr _ fun a₁ V0 ht hB0 hB1 hb => ?_)⟩
      have j3 : Book B (rec .ready none) V0 := ⟨hB1.trans j2.1, hB0.trans j2.2⟩
      refine ⟨_, run_beginRound j3.1 (by rw [hrec]), ?_⟩
      have hb2 : Book B { rec .ready none with state := .busy } (V0.putObj (B + 1) (.loop { rec .ready none with state := .busy })) := j3.put
      refine wpIn_mono (hb _ ⟨_, rfl, _, j3.1, rfl⟩) ?_
      rintro e3 a3 U ⟨htU, hUB, hUB1, hp⟩
      have hb3 : Book B { rec .ready none with state := .busy } U := ⟨hUB1.trans hb2.1, hUB.trans hb2.2⟩
      have fin := fun jump => run_endRound (P := Try.prog) jump hb3.1
      have htt : TouchS (B + 2) V U := (ht.trans (touchS_put (by omega) j3.1 rfl)).trans htU
      have hfin : ∀ o', TouchS (B + 2) V (U.putObj (B + 1) o') := fun o' => htt.trans (touchS_put (by omega) hb3.1 rfl)
      have hlow : ∀ o', SameLow B U (U.putObj (B + 1) o') := fun o' => SameLow.put (by omega)
      rw [hrec] at fin hb3
      rcases hp with ⟨rfl, hi3⟩ | ⟨rfl, hi3⟩ | ⟨id, rfl, hi3⟩
      · refine ⟨_, _, fin none, hfin _, .inl ⟨rfl, hI hi3 (hlow _), ?_⟩⟩
        rw [hrec]; exact hb3.put
      · refine ⟨_, _, fin (some .ret), hfin _, .inr ⟨rfl, .ret, hIx hi3 (hlow _), ?_⟩⟩
        rw [hrec]; exact hb3.put
      · refine ⟨_, _, fin (some (.exit id)), hfin _, .inr ⟨rfl, .exit id, hIx hi3 (hlow _), ?_⟩⟩
        rw [hrec]; exact hb3.put
    have hstart : J 0 W1 := by rw [hJ]; exact ⟨hI h0 hlow1, hbk⟩
    refine (callsIn_wide.2 (steps1_any W1 NB la ln lc hN1 (hr.on hb1) hn6 hz hw hbody (fun {k V V1} j hb => by
      rw [hJ] at j ⊢
      rw [hsz1] at hb
      exact ⟨hI j.1 (hb.mono (by omega)), (hb.block _ (by omega)).trans j.2.1, (hb.block _ (by omega)).trans j.2.2⟩) (fun {V V1} j hb => by
      rw [hJx] at j ⊢
      rw [hsz1] at hb
      obtain ⟨c, j1, j2⟩ := j
      exact ⟨c, hIx j1 (hb.mono (by omega)), (hb.block _ (by omega)).trans j2.1, (hb.block _ (by omega)).trans j2.2⟩) hstart)).mono ?_
    rintro e W2 ⟨⟨v, rfl⟩, hj | hj⟩
    · obtain ⟨k, hlv, hno, hj⟩ := hj
      rw [hJ] at hj
      obtain ⟨hi, hb⟩ := hj
      have := run_endLoop (P := Try.prog) hb.1 (by rw [hrec]; simp)
      rw [hrec] at this
      exact ⟨none, _, this, hdone B k _ rfl hlv hno (hI hi (SameLow.put (by omega))) ((World.putObj_heap_other (by omega)).trans hb.2)⟩
    · rw [hJx] at hj
      obtain ⟨c, hi, hb⟩ := hj
      have := run_endLoop (P := Try.prog) hb.1 (by rw [hrec]; simp)
      rw [hrec] at this
      exact ⟨some c, _, this, hstop B c _ rfl (hIx hi (SameLow.put (by omega))) ((World.putObj_heap_other (by omega)).trans hb.2)⟩
end Go.Proofs.Ytpbjncljecfaeaa
