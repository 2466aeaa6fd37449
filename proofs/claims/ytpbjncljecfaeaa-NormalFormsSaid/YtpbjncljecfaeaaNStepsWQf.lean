/-
  A range over the rows on the way: one law for its callers. No condition but that the row is not too great, and that ids are numbers of 64 bits.
  The program's Steps: what it hands back. No condition but that the row is not too great, and that ids are numbers of 64 bits.
-/
import Derived.Test.YtpbjncljecfaeaaNRowsIQf
namespace Go.Proofs.Ytpbjncljecfaeaa
open Go.RowKit Go.Shelf
attribute [local go_sem] Oper.semAt_some
set_option linter.unusedVariables false
set_option linter.unusedSimpArgs false

theorem SameLow.mono {B B' : Nat} {V V' : World} (h : SameLow B V V') (hB : B' ≤ B) : SameLow B' V V' := ⟨h.os, h.tape, h.output, fun q hq => h.block q (by omega)⟩
theorem SameLow.put {B b : Nat} {V : World} {o : Obj} (hb : B ≤ b) : SameLow B V (V.putObj b o) := ⟨rfl, rfl, rfl, fun q hq => World.putObj_heap_other (by omega)⟩
theorem touchS_put {B0 b : Nat} {V : World} {o o' : Obj} (hb : b < B0) (ho : V.heap[b]? = some o) (hoc : o.isCells = false) : TouchS B0 V (V.putObj b o') := ⟨rfl, rfl, rfl, by simp [World.putObj], fun q hq => by
  by_cases e : q = b
  · refine Or.inr ⟨by omega, fun cs T fr hc => ?_⟩
    rw [e, ho] at hc
    cases hc
    cases hoc
  · exact Or.inl (World.putObj_heap_other e)⟩
/-- How a round is left. -/
def LeftR (B : Nat) (I : Nat → Nat → World → Prop) (Ix : Code → World → Prop) (k R : Nat) (W : World) (e : Exit) (_ : Act) (V : World) : Prop :=
  TouchS (B + 2) W V ∧ V.heap[B]? = W.heap[B]? ∧ V.heap[B + 1]? = W.heap[B + 1]? ∧ ((e = .normal ∧ I (k + 1) R V) ∨ (e = .ret ∧ Ix .ret V) ∨ ∃ id, e = .exit id ∧ Ix (.exit id) V)
set_option maxRecDepth 100000 in
theorem range_rows {n : Nat} {g : Operand} {ps : Array Tmp} {assign body : Code} {Q : Exit → Act → World → Prop} {a : Act} {w : World} (h1 : 1 ≤ n) {NB : Nat} (hg : a.eval g = .func (.func 35) #[] #[.pointer (some ⟨NB, 0, none⟩)])
    (la : Option Addr) (ln lc : Nat) (vs : List SV) (hN : w.cell? ⟨NB, 0, none⟩ = some (.slice la ln lc)) (hr : RowS w la ln lc vs) (hn6 : ln ≤ 10000) (hz : ∀ x ∈ vs, foSize x.s.sub.kids + 1 ≤ 100000) (hw : ∀ x ∈ vs, Wf64 x.s) (hps : ps.size = 1)
    (I : Nat → Nat → World → Prop) (Ix : Code → World → Prop)
    (hI : ∀ {k R : Nat} {V V' : World}, I k R V → SameLow w.heap.size V V' → I k R V')
    (hIx : ∀ {c : Code} {V V' : World}, Ix c V → SameLow w.heap.size V V' → Ix c V')
    (h0 : ∀ R, w.heap.size ≤ R → I 0 R w)
    (hround : ∀ (l : Nat), l = w.heap.size + 1 → ∀ (k R : Nat) (w0 V : World), w0.heap.size = w.heap.size + 2 → live k (steps vs) → RowSt w0 R (seqK k (steps vs)) V → I k R V →
      ∀ (K : Act → World → Prop), (∀ a₁ V0, TouchS (w.heap.size + 2) V V0 → V0.heap[w.heap.size]? = V.heap[w.heap.size]? → V0.heap[w.heap.size + 1]? = V.heap[w.heap.size + 1]? → (∀ V', (∃ o', V' = V0.putObj l o' ∧ ∃ o, V0.heap[l]? = some o ∧ o.isCells = false) → body.wpIn (Fence.wide.inRound l) (n - 1 - 1) Try.prog (LeftR w.heap.size I Ix k R V') a₁ V') → K a₁ V0) →
        assign.wpIn (Fence.wide.inRound l) (n - 1 - 1) Try.prog (Exit.then K (fun _ _ _ => False)) { tmps := (ps.zip #[.pointer (some ⟨R, 0, none⟩)]).foldl (fun t (p, v) => t.setIfInBounds p v) a.tmps, defers := [] } V)
    (hdone : ∀ (D k R : Nat) (w0 V : World), D = w.heap.size → w0.heap.size = w.heap.size + 2 → live k (steps vs) → (onceK (seqK k (steps vs))).2 = false → RowSt w0 R (seqK k (steps vs)) V → I (k + 1) R V → V.heap[D]? = some (.deferred (some [])) → Q .normal { a with defers := { target := .collected D, args := #[] } :: a.defers } V)
    (hstop : ∀ (D : Nat) (c : Code) (V : World), D = w.heap.size → Ix c V → V.heap[D]? = some (.deferred (some [])) → c.wpIn Fence.wide n Try.prog Q { a with defers := { target := .collected D, args := #[] } :: a.defers } V) :
    (Code.rangeFunc g ps assign body).wpIn Fence.wide n Try.prog Q a w := by
  obtain ⟨B, hB⟩ : ∃ B, w.heap.size = B := ⟨_, rfl⟩
  simp only [hB] at hI hIx hround hdone hstop h0
  refine wpIn_rangeFunc fun fn hfn => ?_
  obtain ⟨rec, hrec⟩ : ∃ rec : LoopState → Option Code → Loop, rec = fun st pe => { state := st, pending := pe, fn, tmps := a.tmps, params := ps, assign, body, defers := B } := ⟨_, rfl⟩
  obtain ⟨W1, hW1⟩ : ∃ W1, W1 = (w.alloc (.deferred (some []))).alloc (.loop (rec .ready none)) := ⟨_, rfl⟩
  have hsz1 : W1.heap.size = B + 2 := by rw [hW1]; simp [hB]
  have hblk : ∀ x, x < B → W1.heap[x]? = w.heap[x]? := fun x hx => by rw [hW1, Below.heap_alloc _ _ _ (by simp; omega), Below.heap_alloc _ _ _ (by omega)]
  have hbk : Book B (rec .ready none) W1 := by
    rw [hW1, ← hB]
    refine ⟨?_, (Below.heap_alloc _ _ _ (by simp)).trans (World.alloc_heap_new w _)⟩
    have := World.alloc_heap_new (w.alloc (.deferred (some []))) (.loop (rec .ready none))
    rwa [World.size_alloc] at this
  have hb1 : Below w.heap.size w W1 := by rw [hW1]; exact ((Below.refl _ _).alloc (Nat.le_refl _) _).alloc (by simp) _
  have hlow1 : SameLow B w W1 := ⟨hb1.os, hb1.tape, hb1.output, hblk⟩
  have hNl := World.block_lt_of_cell? _ _ hN
  have hN1 : W1.cell? ⟨NB, 0, none⟩ = some (.slice la ln lc) := (World.cell?_of_block (hblk NB (by rw [← hB]; exact hNl))).trans hN
  refine ⟨B + 1, [{ target := .collected B, args := #[] }], W1, { target := .fn (.func 35) #[.pointer (some ⟨NB, 0, none⟩)], args := #[.func (.yield (B + 1)) #[] #[]] }, W1, 35, #[.func (.yield (B + 1)) #[] #[]] ++ #[.pointer (some ⟨NB, 0, none⟩)], W1, ?_, ?_, ?_, ?_, fun _ => h1, ?_⟩
  · rw [hW1, hrec, ← hB]; exact run_enterLoop_outer _ _ _ _ _
  · simp only [resolve, hg]
    simp [go_sem]
  · intro f' hf'; simp [Target.leads] at hf'; subst hf'; exact trivial
  · simp [invoke, go_sem]
  · obtain ⟨J, hJ⟩ : ∃ J : Nat → Nat → World → Prop, J = fun k R V => I k R V ∧ Book B (rec .ready none) V := ⟨_, rfl⟩
    obtain ⟨Jx, hJx⟩ : ∃ Jx : World → Prop, Jx = fun V => ∃ c, Ix c V ∧ Book B (rec .done (some c)) V := ⟨_, rfl⟩
    have hbody : BodyR Try.prog (n - 1 - 1) (B + 1) W1.heap.size (steps vs) J Jx := by
      subst hJ hJx
      rw [hsz1]
      rintro k R w0 V hw0 hlv hst ⟨j1, j2⟩
      have hr := hround (B + 1) rfl k R w0 V hw0 hlv hst j1
      have hy := run_yield (P := Try.prog) (args := #[.pointer (some ⟨R, 0, none⟩)]) j2.1 (by rw [hrec]; exact hps.symm)
      rw [hrec] at hy
      refine ⟨fn, _, assign, body, hy, roundIn_of_wpIn hfn (hr _ fun a₁ V0 ht hB0 hB1 hb => ?_)⟩
      have j3 : Book B (rec .ready none) V0 := ⟨hB1.trans j2.1, hB0.trans j2.2⟩
      refine ⟨_, run_beginRound j3.1 (by rw [hrec]), ?_⟩
      have hb2 : Book B { rec .ready none with state := .busy } (V0.putObj (B + 1) (.loop { rec .ready none with state := .busy })) := j3.put
      refine wpIn_mono (hb _ ⟨_, rfl, _, j3.1, rfl⟩) ?_
      rintro e3 a3 U ⟨htU, hUB, hUB1, hp⟩
      have hb3 : Book B { rec .ready none with state := .busy } U := ⟨hUB1.trans hb2.1, hUB.trans hb2.2⟩
      have fin := fun jump => run_endRound (P := Try.prog) jump hb3.1
      have htt : TouchS (B + 2) V U := (ht.trans (touchS_put (by omega) j3.1 rfl)).trans htU
      have hfin : ∀ o', TouchS (B + 2) V (U.putObj (B + 1) o') := fun o' => htt.trans (touchS_put (by omega) hb3.1 rfl)
      have hlow : ∀ o', SameLow B U (U.putObj (B + 1) o') := fun o' => SameLow.put (by omega)
      rw [hrec] at fin hb3
      rcases hp with ⟨rfl, hi3⟩ | ⟨rfl, hi3⟩ | ⟨id, rfl, hi3⟩
      · refine ⟨_, _, fin none, hfin _, .inl ⟨rfl, hI hi3 (hlow _), ?_⟩⟩
        rw [hrec]; exact hb3.put
      · refine ⟨_, _, fin (some .ret), hfin _, .inr ⟨rfl, .ret, hIx hi3 (hlow _), ?_⟩⟩
        rw [hrec]; exact hb3.put
      · refine ⟨_, _, fin (some (.exit id)), hfin _, .inr ⟨rfl, .exit id, hIx hi3 (hlow _), ?_⟩⟩
        rw [hrec]; exact hb3.put
    have hstart : ∀ R, W1.heap.size ≤ R → J 0 R W1 := fun R hR => by rw [hJ]; exact ⟨hI (h0 R (by omega)) hlow1, hbk⟩
    refine (callsIn_wide.2 (rows1_any W1 NB la ln lc hN1 (hr.on hb1) hn6 hz hw hbody (fun {k R V V1} j hb => by
      rw [hJ] at j ⊢
      rw [hsz1] at hb
      exact ⟨hI j.1 (hb.mono (by omega)), (hb.block _ (by omega)).trans j.2.1, (hb.block _ (by omega)).trans j.2.2⟩) hstart)).mono ?_
    rintro e W2 ⟨⟨v, rfl⟩, hj | hj⟩
    · obtain ⟨k, R, w0, hw0, hlv, hno, hst, hj⟩ := hj
      rw [hJ] at hj
      obtain ⟨hi, hb⟩ := hj
      have := run_endLoop (P := Try.prog) hb.1 (by rw [hrec]; simp)
      rw [hrec] at this
      rw [hsz1] at hw0
      obtain ⟨w0', hz', hst'⟩ := hst.rebase (V' := W2.putObj (B + 1) (.loop { rec .ready none with state := .exhausted })) (by rw [hw0]; exact touchS_put (by omega) hb.1 rfl)
      rw [hrec] at hst'
      exact ⟨none, _, this, hdone B k R w0' _ rfl (hz'.trans hw0) hlv hno hst' (hI hi (SameLow.put (by omega))) ((World.putObj_heap_other (by omega)).trans hb.2)⟩
    · rw [hJx] at hj
      obtain ⟨c, hi, hb⟩ := hj
      have := run_endLoop (P := Try.prog) hb.1 (by rw [hrec]; simp)
      rw [hrec] at this
      exact ⟨some c, _, this, hstop B c _ rfl (hIx hi (SameLow.put (by omega))) ((World.putObj_heap_other (by omega)).trans hb.2)⟩
set_option maxRecDepth 100000 in
theorem rows_fn (w : World) (a : Option Addr) (n c : Nat) : Calls Try.prog 24 #[.slice a n c] w fun e w' => e = .returned (.func (.func 35) #[] #[.pointer (some ⟨w.heap.size, 0, none⟩)]) ∧ w.alloc (.cells #[.slice a n c] 29) = w' := by
  have hmf : ∀ W : World, (Instr.makeFunc (.func 35) #[] #[.pointer (some ⟨w.heap.size, 0, none⟩)]).run Try.prog W = .ok (.func (.func 35) #[] #[.pointer (some ⟨w.heap.size, 0, none⟩)]) W := fun _ => rfl
  go_enter Try.func24, Try.ntmps24
  go_wp2_with fail
  go_ret
  exact ⟨rfl, rfl⟩
end Go.Proofs.Ytpbjncljecfaeaa
namespace Go.Proofs.Ytpbjncljecfaeaa
open Go.RowKit Go.Shelf
attribute [local go_sem] Oper.semAt_some
set_option linter.unusedVariables false
set_option linter.unusedSimpArgs false

def StepsFnC (l : List Sf) (w : World) (e : Ending) (w' : World) : Prop := ∃ NB a n c js, e = .returned (.func (.func 37) #[] #[.pointer (some ⟨NB, 0, none⟩)]) ∧ w'.cell? ⟨NB, 0, none⟩ = some (.slice a n c) ∧ RowS w' a n c js ∧ steps js = l ∧ Below w.heap.size w w'
set_option maxRecDepth 100000 in
set_option maxHeartbeats 8000000 in
theorem stepsW_any (w : World) (la : Option Addr) (n c : Nat) (vs : List SV) (hr : RowS w la n c vs) (hn6 : n ≤ 10000) (hz : ∀ x ∈ vs, foSize x.s.sub.kids + 1 ≤ 100000) (hw : ∀ x ∈ vs, Wf64 x.s) :
    Calls Try.prog 28 #[.slice la n c] w (StepsFnC (steps vs) w) := by
  have hmf : ∀ (fn : Fn) (first cap : Array Value) (w : World), (Instr.makeFunc fn first cap).run Try.prog w = .ok (.func fn first cap) w := fun _ _ _ _ => rfl
  have hho := hold_any w la n c vs hr.len hr.row hn6
  have hln : vs.length ≤ 10000 := by rw [← hr.len]; exact hn6
  have HHO := Lib.hid (And.intro hho (And.intro hln (And.intro hz hw)))
  clear hho hr hz hw hln hn6
  go_enter Try.func28, Try.ntmps28
  go_wp2_with fail
  refine HHO.out.1.mono ?_
  rintro e V ⟨hbs, rfl, hbl, hrow, hheld, hnd, _, hb⟩
  obtain ⟨W2, hW2⟩ : ∃ W2, W2 = V.alloc (.cells #[.slice none 0 0, .slice (some ⟨w.heap.size, 0, none⟩) hbs.length hbs.length] 77) := ⟨_, rfl⟩
  have hst : RowSt w V.heap.size (steps vs) W2 := row_begin hbl hrow hheld hnd HHO.out.2.2.1 HHO.out.2.2.2 hb HHO.out.2.1 hW2
  have hbW : Below w.heap.size w W2 := by rw [hW2]; exact hb.alloc hb.size _
  obtain ⟨R, hR⟩ : ∃ R, R = V.heap.size := ⟨_, rfl⟩
  rw [← hR] at hst
  have HT := Lib.hid (And.intro (rtold_any hst) hbW)
  have HW2 := Lib.hid hW2
  have HRE := Lib.hid hR
  obtain ⟨hn, hhn⟩ : ∃ hn, hn = hbs.length := ⟨_, rfl⟩
  rw [← hhn] at hW2 HW2 ⊢
  clear hst hbl hrow hheld hnd hb hhn hR hW2 hbW
  go_wp2_with fail
  rw [← HW2.out, ← HRE.out]
  clear HW2 HRE
  refine HT.out.1.mono ?_
  rintro e V2 ⟨ra, rn, rc, js, rfl, hrs, hjs, hb2⟩
  have HE := Lib.hid (And.intro hrs (And.intro hjs (HT.out.2.trans (hb2.mono HT.out.2.size))))
  clear hrs hjs hb2 HT HHO
  go_wp2_with fail
  go_ret
  have hbA : Below V2.heap.size V2 (V2.alloc (.cells #[.slice ra rn rc] 29)) := (Below.refl _ _).alloc (Nat.le_refl _) _
  exact ⟨V2.heap.size, ra, rn, rc, js, rfl, by rw [cell_of_row _ _ _ _ _ _ (heap_alloc_new V2 _)]; rfl, HE.out.1.on hbA, HE.out.2.1, HE.out.2.2.trans (hbA.mono HE.out.2.2.size)⟩
end Go.Proofs.Ytpbjncljecfaeaa
