/-
  A range over what 'walk' hands back: one law for its callers. No condition but that there are not too many nodes.
-/
import Derived.Test.YtfdcopegkhofnaaHWalkQb
import Derived.Test.YtfdcopegkhofnaaERangeQb
namespace Go.Proofs.Ytfdcopegkhofnaa
open Go.RowKit Go.Shelf
set_option linter.unusedVariables false

/-- How a round is left. -/
def LeftS (B : Nat) (T S : Nat → Prop) (I : (Nat → Prop) → List Fr → World → Prop) (Ix : Code → (Nat → Prop) → World → Prop) (x : Fr) (r : List Fr) (u : Tr) (W : World) (e : Exit) (_ : Act) (V : World) : Prop :=
  KeepsFrom B W V ∧ Kept T W V ∧ (∀ y, S y → V.heap[y]? = W.heap[y]?) ∧ ((e = .normal ∧ ∀ a c, I T (nextS (⟨a, c, u.kids, -1⟩ :: x :: r)) V) ∨ (e = .ret ∧ Ix .ret T V) ∨ ∃ id, e = .exit id ∧ Ix (.exit id) T V)
set_option maxRecDepth 100000 in
theorem range_walk {n : Nat} {g : Operand} {ps : Array Tmp} {assign body : Code} {Q : Exit → Act → World → Prop} {a : Act} {w : World} (h1 : 1 ≤ n) {NB : Nat} (hg : a.eval g = .func (.func 147) #[] #[.pointer (some ⟨NB, 0, none⟩)])
    (t : Tr) (ka : Option Addr) (cap : Nat) (S : Nat → Prop) (hS : ∀ y, S y → y < w.heap.size) (hk : FoAt w S t.kids ka) (hc : foLen t.kids ≤ cap) (hsz : foSize t.kids ≤ 400000) (hNB : w.heap[NB]? = some (.cells #[.int .i64 t.id, .int .i64 t.kind, .string t.text, .slice ka (foLen t.kids) cap] 24 (0, 0))) (hps : ps.size = 1)
    (I : (Nat → Prop) → List Fr → World → Prop) (Ix : Code → (Nat → Prop) → World → Prop)
    (hI : ∀ {T T' : Nat → Prop} {L : List Fr} {V V' : World}, I T L V → Touched V V' (fun x => T x ∨ (w.heap.size ≤ x ∧ NonCells V x)) → Wider T T' V V' → I T' L V')
    (hIx : ∀ {c : Code} {T : Nat → Prop} {V : World} (o o' : Loop), Ix c T V → (∀ x, T x → w.heap.size + 2 ≤ x) → V.heap[w.heap.size + 1]? = some (.loop o) → Ix c T (V.putObj (w.heap.size + 1) (.loop o')))
    (h0 : I (fun _ => False) (nextS [⟨some ⟨w.heap.size + 2, 0, none⟩, 1, rootF t, -1⟩]) w)
    (hround : ∀ (l : Nat), l = w.heap.size + 1 → ∀ (T : Nat → Prop) (rv : Value) (x : Fr) (r : List Fr) (u : Tr) (V : World), (∀ y, T y → w.heap.size + 2 ≤ y) → w.heap.size + 2 ≤ V.heap.size → WFacts V (fun y => S y ∨ y = w.heap.size + 2) t T rv (x :: r) → kidF x.f x.p.toNat = some u → I T (x :: r) V →
      ∀ (K : Act → World → Prop), (∀ a₁, (∀ V', (∃ o', V' = V.putObj l o' ∧ ∃ o, V.heap[l]? = some o ∧ o.isCells = false) → body.wpIn (Fence.wide.inRound l) (n - 1 - 1) Try.prog (LeftS w.heap.size T (fun y => S y ∨ y = w.heap.size + 2) I Ix x r u V') a₁ V') → K a₁ V) →
        assign.wpIn (Fence.wide.inRound l) (n - 1 - 1) Try.prog (Exit.then K (fun _ _ _ => False)) { tmps := (ps.zip #[rv]).foldl (fun t (p, v) => t.setIfInBounds p v) a.tmps, defers := [] } V)
    (hdone : ∀ (D : Nat) (T : Nat → Prop) (V : World), w.heap.size ≤ D → I T [] V → V.heap[D]? = some (.deferred (some [])) → Q .normal { a with defers := { target := .collected D, args := #[] } :: a.defers } V)
    (hstop : ∀ (D : Nat) (c : Code) (T : Nat → Prop) (V : World), D = w.heap.size → (∀ x, T x → w.heap.size + 2 ≤ x) → Ix c T V → V.heap[D]? = some (.deferred (some [])) → c.wpIn Fence.wide n Try.prog Q { a with defers := { target := .collected D, args := #[] } :: a.defers } V) :
    (Code.rangeFunc g ps assign body).wpIn Fence.wide n Try.prog Q a w := by
  obtain ⟨B, hB⟩ : ∃ B, w.heap.size = B := ⟨_, rfl⟩
  simp only [hB] at hI hIx hround hdone hstop h0
  refine wpIn_rangeFunc fun fn hfn => ?_
  obtain ⟨rec, hrec⟩ : ∃ rec : LoopState → Option Code → Loop, rec = fun st pe => { state := st, pending := pe, fn, tmps := a.tmps, params := ps, assign, body, defers := B } := ⟨_, rfl⟩
  obtain ⟨W1, hW1⟩ : ∃ W1, W1 = (w.alloc (.deferred (some []))).alloc (.loop (rec .ready none)) := ⟨_, rfl⟩
  have hsz1 : W1.heap.size = B + 2 := by rw [hW1]; simp [hB]
  have hblk : ∀ x, x < B → W1.heap[x]? = w.heap[x]? := fun x hx => by rw [hW1, Below.heap_alloc _ _ _ (by simp; omega), Below.heap_alloc _ _ _ (by omega)]
  have hbk : Book B (rec .ready none) W1 := by
    rw [hW1, ← hB]
    refine ⟨?_, (Below.heap_alloc _ _ _ (by simp)).trans (World.alloc_heap_new w _)⟩
    have := World.alloc_heap_new (w.alloc (.deferred (some []))) (.loop (rec .ready none))
    rwa [World.size_alloc] at this
  have hb1 : Touched w W1 (fun _ => False) := by rw [hW1]; exact ((Touched.refl w _).alloc _).alloc _
  have hI1 : I (fun _ => False) (nextS [⟨some ⟨B + 2, 0, none⟩, 1, rootF t, -1⟩]) W1 := hI h0 (hb1.mono (fun _ h => h.elim)) (fun x hx => Or.inl hx)
  have hNBl := lt_of_heap hNB
  have hNB1 := (hblk NB (by omega)).trans hNB
  refine ⟨B + 1, [{ target := .collected B, args := #[] }], W1, { target := .fn (.func 147) #[.pointer (some ⟨NB, 0, none⟩)], args := #[.func (.yield (B + 1)) #[] #[]] }, W1, 147, #[.func (.yield (B + 1)) #[] #[]] ++ #[.pointer (some ⟨NB, 0, none⟩)], W1, ?_, ?_, ?_, ?_, fun _ => h1, ?_⟩
  · rw [hW1, hrec, ← hB]; exact run_enterLoop_outer _ _ _ _ _
  · simp only [resolve, hg]
    simp [go_sem]
  · intro f' hf'; simp [Target.leads] at hf'; subst hf'; exact trivial
  · simp [invoke, go_sem]
  · obtain ⟨J, hJ⟩ : ∃ J : (Nat → Prop) → List Fr → World → Prop, J = fun T L V => I T L V ∧ Book B (rec .ready none) V ∧ ∀ x, T x → B + 2 ≤ x := ⟨_, rfl⟩
    obtain ⟨Jx, hJx⟩ : ∃ Jx : (Nat → Prop) → World → Prop, Jx = fun T V => ∃ c, Ix c T V ∧ Book B (rec .done (some c)) V ∧ ∀ x, T x → B + 2 ≤ x := ⟨_, rfl⟩
    have hS1 : ∀ y, S y → y < W1.heap.size := fun y hy => by have := hS y hy; omega
    have hbody : BodyS Try.prog (n - 1 - 1) (B + 1) t (fun y => S y ∨ y = W1.heap.size) J Jx := by
      rw [hsz1]
      subst hJ hJx
      refine ⟨?_, ?_⟩
      · rintro T T' L V V' ⟨j1, j2, j3⟩ ht hw
        have hs := lt_of_heap j2.1
        exact ⟨hI j1 (ht.mono (fun x hx => Or.inl hx)) hw, j2.touched ht j3, fun x hx => (hw x hx).elim (j3 x) (fun h => by omega)⟩
      · rintro T rv x r u V hf hu ⟨j1, j2, j3⟩
        have hr := hround (B + 1) rfl T rv x r u V j3 (by have := lt_of_heap j2.1; omega) hf hu j1
        have hTl : ¬ T (B + 1) := fun h => by have := j3 _ h; omega
        have hSl : ¬ (S (B + 1) ∨ B + 1 = B + 2) := fun h => by
          rcases h with h | h
          · have := hS _ h; omega
          · omega
        have hy := run_yield (P := Try.prog) (args := #[rv]) j2.1 (by rw [hrec]; exact hps.symm)
        rw [hrec] at hy
        refine ⟨fn, _, assign, body, hy, roundIn_of_wpIn hfn (hr _ fun a₁ hb => ?_)⟩
        refine ⟨_, run_beginRound j2.1 (by rw [hrec]), ?_⟩
        have hb2 : Book B { rec .ready none with state := .busy } (V.putObj (B + 1) (.loop { rec .ready none with state := .busy })) := j2.put
        refine wpIn_mono (hb _ ⟨_, rfl, _, j2.1, rfl⟩) ?_
        rintro e3 a3 U ⟨hkU, hkT, hkS, hp⟩
        have hb3 := hb2.kept hkU
        have fin := fun jump => run_endRound (P := Try.prog) jump hb3.1
        rw [hrec] at fin hb3
        have hall : ∀ o', Kept T V (U.putObj (B + 1) o') := fun o' => ((kept_put _ hTl).trans hkT).trans (kept_put _ hTl)
        have hallS : ∀ o' y, (S y ∨ y = B + 2) → (U.putObj (B + 1) o').heap[y]? = V.heap[y]? := fun o' y hy => by
          have hne : y ≠ B + 1 := fun e => hSl (e ▸ hy)
          rw [World.putObj_heap_other hne, hkS y hy, World.putObj_heap_other hne]
        have htp : ∀ o', Touched U (U.putObj (B + 1) o') (fun x => T x ∨ (B ≤ x ∧ NonCells U x)) := fun o' => (touched_put o' hb3.1).mono (fun x hx => Or.inr ⟨by omega, by rw [hx]; exact ⟨_, hb3.1, rfl⟩⟩)
        rcases hp with ⟨rfl, hi3⟩ | ⟨rfl, hi3⟩ | ⟨id, rfl, hi3⟩
        · refine ⟨_, _, fin none, hall _, hallS _, .inl ⟨rfl, fun a c => ⟨hI (hi3 a c) (htp _) (fun x hx => Or.inl hx), ?_, j3⟩⟩⟩
          rw [hrec]; exact hb3.put
        · refine ⟨_, _, fin (some .ret), hall _, hallS _, .inr ⟨rfl, .ret, hIx _ _ hi3 j3 hb3.1, ?_, j3⟩⟩
          rw [hrec]; exact hb3.put
        · refine ⟨_, _, fin (some (.exit id)), hall _, hallS _, .inr ⟨rfl, .exit id, hIx _ _ hi3 j3 hb3.1, ?_, j3⟩⟩
          rw [hrec]; exact hb3.put
    have hstart : J (fun _ => False) (nextS [⟨some ⟨W1.heap.size, 0, none⟩, 1, rootF t, -1⟩]) W1 := by rw [hJ, hsz1]; exact ⟨hI1, hbk, fun _ h => h.elim⟩
    refine (callsIn_wide.2 (walk1_any W1 hbody NB ka cap hS1 (hk.kept fun y hy => ⟨hy, hblk y (by have := hS y hy; omega)⟩) hc hsz hNB1 hstart)).mono ?_
    rintro e W2 ⟨⟨v, rfl⟩, (⟨T, hj⟩ | ⟨T, hj⟩)⟩
    · rw [hJ] at hj
      obtain ⟨hi, hb, hT⟩ := hj
      have := run_endLoop (P := Try.prog) hb.1 (by rw [hrec]; simp)
      rw [hrec] at this
      refine ⟨none, _, this, hdone B T _ (Nat.le_refl _) (hI hi ((touched_put _ hb.1).mono (fun x hx => Or.inr ⟨by omega, by rw [hx]; exact ⟨_, hb.1, rfl⟩⟩)) (fun x hx => Or.inl hx)) ((World.putObj_heap_other (by omega)).trans hb.2)⟩
    · rw [hJx] at hj
      obtain ⟨c, hi, hb, hT⟩ := hj
      have := run_endLoop (P := Try.prog) hb.1 (by rw [hrec]; simp)
      rw [hrec] at this
      exact ⟨some c, _, this, hstop B c T _ rfl hT (hIx _ _ hi hT hb.1) ((World.putObj_heap_other (by omega)).trans hb.2)⟩
set_option maxRecDepth 100000 in
set_option maxHeartbeats 1000000 in
/-- walk: the function that goes over a tree. -/
theorem walk_fn (w : World) (id kd : Int) (tx : ByteArray) (ka : Option Addr) (n c : Nat) : Calls Try.prog 131 #[.agg #[.int .i64 id, .int .i64 kd, .string tx, .slice ka n c]] w fun e w' => e = .returned (.func (.func 147) #[] #[.pointer (some ⟨w.heap.size, 0, none⟩)]) ∧ w' = w.alloc (.cells #[.int .i64 id, .int .i64 kd, .string tx, .slice ka n c] 24) := by
  have hmf : ∀ (fn : Fn) (first cap : Array Value) (w : World), (Instr.makeFunc fn first cap).run Try.prog w = .ok (.func fn first cap) w := fun _ _ _ _ => rfl
  go_enter Try.func131, Try.ntmps131
  go_wp2_with fail
  go_ret
  exact ⟨rfl, rfl⟩
end Go.Proofs.Ytfdcopegkhofnaa
