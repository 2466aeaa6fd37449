/-
  A range over the program's own walk: one law for its callers. No condition but that there are not too many nodes.
-/
import Derived.Test.YtmfpilacmafglaaVBelow
namespace Go.Proofs.Ytmfpilacmafglaa
open Go.RowKit Go.Shelf
attribute [local go_sem] Oper.semAt_some
set_option linter.unusedVariables false
set_option linter.unusedSimpArgs false

def Book (B : Nat) (r : Loop) (W : World) : Prop := W.heap[B + 1]? = some (.loop r) ∧ W.heap[B]? = some (.deferred (some []))
theorem Book.put {B : Nat} {r r' : Loop} {W : World} (h : Book B r W) : Book B r' (W.putObj (B + 1) (.loop r')) :=
  ⟨World.putObj_heap_same (Array.getElem?_eq_some_iff.1 h.1).1, (World.putObj_heap_other (by omega)).trans h.2⟩
/-- A root in a block of its own. -/
def NodeAt (w : World) (S : Nat → Prop) (t : Tr) (TB : Nat) : Prop := ∃ ka kc, S TB ∧ w.heap[TB]? = some (.cells #[.int .i64 t.id, .int .i64 t.kind, .string t.text, .slice ka (foLen t.kids) kc] 24 (0, 0)) ∧ foLen t.kids ≤ kc ∧ FoAt w S t.kids ka
set_option maxRecDepth 100000 in
theorem walk1_any {m l : Nat} {SS : Nat → Prop} {t : Tr} {J : List Sp → World → Prop} {Jx : World → Prop} (w : World) (hB : PBody Try.prog m l w.heap.size SS (spF 1 (rootF t)) J Jx) (TB : Nat) (hw : NodeAt w SS t TB) (hsz : foSize t.kids + 1 ≤ 500000) (h0 : J [] w) :
    Calls Try.prog 99 #[.func (.yield l) #[] #[], .pointer (some ⟨TB, 0, none⟩)] w fun e V => (∃ v, e = .returned v) ∧ (J (spF 1 (rootF t)) V ∨ Jx V) := by
  obtain ⟨ka, kc, hS, hb, hc, hk⟩ := hw
  have hcall := below_any hB 500001 1 (t.id, t.kind, t.text) t.kids [] [] w TB 0 kc ka (by omega) (by omega) (by omega) (by simp [rootF, spF]) h0 (Nat.le_refl _) hS (by rw [cell_of_row _ _ 0 _ _ _ hb]; rfl) (by rw [cell_of_row _ _ 1 _ _ _ hb]; rfl) (by rw [cell_of_row _ _ 2 _ _ _ hb]; rfl) (by rw [cell_of_row _ _ 3 _ _ _ hb]; rfl) hc hk
  have HC := Lib.hid hcall
  clear hcall hS hb hc hk h0 hB
  go_enter Try.func99, Try.ntmps99
  go_wp2_with fail
  refine HC.out.mono ?_
  rintro e w2 ⟨bl, rfl, _, _, hJ2, hx2⟩
  have HE := Lib.hid (And.intro hJ2 hx2)
  clear hJ2 hx2
  go_wp2_with fail
  cases bl
  · exact bodyPost_end (results_none rfl _ _ _) rfl ⟨⟨_, rfl⟩, .inr (HE.out.2 rfl)⟩
  · refine bodyPost_end (results_none rfl _ _ _) rfl ⟨⟨_, rfl⟩, .inl ?_⟩
    have h := HE.out.1 rfl
    simpa [rootF, spF] using h
def LeftP (B : Nat) (SS : Nat → Prop) (I : List Sp → World → Prop) (Ix : Code → World → Prop) (pre : List Sp) (W : World) (e : Exit) (_ : Act) (V : World) : Prop :=
  (W.heap.size ≤ V.heap.size ∧ ∀ y, (B ≤ y ∨ SS y) → y < W.heap.size → V.heap[y]? = W.heap[y]?) ∧ ((e = .normal ∧ I pre V) ∨ (e = .ret ∧ Ix .ret V) ∨ ∃ id, e = .exit id ∧ Ix (.exit id) V)

theorem range_p {n : Nat} {g : Operand} {ps : Array Tmp} {assign body : Code} {Q : Exit → Act → World → Prop} {a : Act} {w : World} (h1 : 1 ≤ n) {TB : Nat} (hg : a.eval g = .func (.func 99) #[] #[.pointer (some ⟨TB, 0, none⟩)])
    (SS : Nat → Prop) (t : Tr) (hwa : NodeAt w SS t TB) (hSS : ∀ x, SS x → x < w.heap.size) (hsz : foSize t.kids + 1 ≤ 500000) (hps : ps.size = 2)
    (I : List Sp → World → Prop) (Ix : Code → World → Prop) (hI : ∀ {pre : List Sp} {V V' : World}, I pre V → Below w.heap.size V V' → I pre V') (hIx : ∀ {c : Code} {V V' : World}, Ix c V → Below w.heap.size V V' → Ix c V')
    (h0 : I [] w)
    (hround : ∀ (l : Nat), l = w.heap.size + 1 → ∀ (pre rest : List Sp) (d : Nat) (key : Int × Int × ByteArray) (k : Fo) (V : World) (b off kc : Nat) (ka : Option Addr), spF 1 (rootF t) = pre ++ (d, key, k) :: rest → w.heap.size + 2 ≤ V.heap.size → I pre V → SS b →
      V.cell? ⟨b, off, none⟩ = some (.int .i64 key.1) → V.cell? ⟨b, off + 1, none⟩ = some (.int .i64 key.2.1) → V.cell? ⟨b, off + 2, none⟩ = some (.string key.2.2) → V.cell? ⟨b, off + 3, none⟩ = some (.slice ka (foLen k) kc) → foLen k ≤ kc → FoAt V SS k ka →
      ∀ (K : Act → World → Prop), (∀ a₁ V0, Below V.heap.size V V0 → (∀ V', (∃ o', V' = V0.putObj l o' ∧ ∃ o, V0.heap[l]? = some o ∧ o.isCells = false) → body.wpIn (Fence.wide.inRound l) (n - 1 - 1) Try.prog (LeftP w.heap.size SS I Ix (pre ++ [(d, key, k)]) V') a₁ V') → K a₁ V0) →
        assign.wpIn (Fence.wide.inRound l) (n - 1 - 1) Try.prog (Exit.then K (fun _ _ _ => False)) { tmps := (ps.zip #[.int .i64 (d : Int), .pointer (some ⟨b, off, none⟩)]).foldl (fun t (p, v) => t.setIfInBounds p v) a.tmps, defers := [] } V)
    (hdone : ∀ (D : Nat) (V : World), w.heap.size ≤ D → I (spF 1 (rootF t)) V → V.heap[D]? = some (.deferred (some [])) → Q .normal { a with defers := { target := .collected D, args := #[] } :: a.defers } V)
    (hstop : ∀ (D : Nat) (c : Code) (V : World), w.heap.size ≤ D → Ix c V → V.heap[D]? = some (.deferred (some [])) → c.wpIn Fence.wide n Try.prog Q { a with defers := { target := .collected D, args := #[] } :: a.defers } V) :
    (Code.rangeFunc g ps assign body).wpIn Fence.wide n Try.prog Q a w := by
  obtain ⟨B, hB⟩ : ∃ B, w.heap.size = B := ⟨_, rfl⟩
  simp only [hB] at hI hIx hround hdone hstop
  refine wpIn_rangeFunc fun fn hfn => ?_
  obtain ⟨rec, hrec⟩ : ∃ rec : LoopState → Option Code → Loop, rec = fun st pe => { state := st, pending := pe, fn, tmps := a.tmps, params := ps, assign, body, defers := B } := ⟨_, rfl⟩
  obtain ⟨W1, hW1⟩ : ∃ W1, W1 = (w.alloc (.deferred (some []))).alloc (.loop (rec .ready none)) := ⟨_, rfl⟩
  have hsz1 : W1.heap.size = B + 2 := by rw [hW1]; simp [hB]
  have hblk : ∀ x, x < B → W1.heap[x]? = w.heap[x]? := fun x hx => by rw [hW1, Below.heap_alloc _ _ _ (by simp; omega), Below.heap_alloc _ _ _ (by omega)]
  have hbk : Book B (rec .ready none) W1 := by
    rw [hW1, ← hB]
    refine ⟨?_, (Below.heap_alloc _ _ _ (by simp)).trans (World.alloc_heap_new w _)⟩
    have := World.alloc_heap_new (w.alloc (.deferred (some []))) (.loop (rec .ready none))
    rwa [World.size_alloc] at this
  have hI1 : I [] W1 := hI h0 (by rw [hW1, ← hB]; exact ((Below.refl _ w).alloc (Nat.le_refl _) _).alloc (by simp) _)
  have hSl : ∀ x, SS x → x < B := fun x hx => by have := hSS x hx; omega
  have hwa1 : NodeAt W1 SS t TB := by
    obtain ⟨ka, kc, c0, c1, c2, c3⟩ := hwa
    exact ⟨ka, kc, c0, (hblk _ (hSl _ c0)).trans c1, c2, c3.kept fun x hx => ⟨hx, hblk x (hSl x hx)⟩⟩
  refine ⟨B + 1, [{ target := .collected B, args := #[] }], W1, { target := .fn (.func 99) #[.pointer (some ⟨TB, 0, none⟩)], args := #[.func (.yield (B + 1)) #[] #[]] }, W1, 99, #[.func (.yield (B + 1)) #[] #[]] ++ #[.pointer (some ⟨TB, 0, none⟩)], W1, ?_, ?_, ?_, ?_, fun _ => h1, ?_⟩
  · rw [hW1, hrec, ← hB]; exact run_enterLoop_outer _ _ _ _ _
  · simp only [resolve, hg]
    simp [go_sem]
  · intro f' hf'; simp [Target.leads] at hf'; subst hf'; exact trivial
  · simp [invoke, go_sem]
  · obtain ⟨J, hJ⟩ : ∃ J : List Sp → World → Prop, J = fun pre V => I pre V ∧ Book B (rec .ready none) V := ⟨_, rfl⟩
    obtain ⟨Jx, hJx⟩ : ∃ Jx : World → Prop, Jx = fun V => ∃ c, Ix c V ∧ Book B (rec .done (some c)) V := ⟨_, rfl⟩
    have hbody : PBody Try.prog (n - 1 - 1) (B + 1) W1.heap.size SS (spF 1 (rootF t)) J Jx := by
      subst hJ hJx
      refine ⟨?_, ?_, ?_⟩
      · rintro pre V V' ⟨j1, j2⟩ hb
        rw [hsz1] at hb
        exact ⟨hI j1 (hb.mono (by omega)), (hb.block _ (by omega)).trans j2.1, (hb.block _ (by omega)).trans j2.2⟩
      · rintro V V' ⟨c, j1, j2⟩ hb
        rw [hsz1] at hb
        exact ⟨c, hIx j1 (hb.mono (by omega)), (hb.block _ (by omega)).trans j2.1, (hb.block _ (by omega)).trans j2.2⟩
      · rintro pre rest d key k V b off kc ka htot ⟨j1, j2⟩ hV hSb e0 e1 e2 e3 ec hk
        rw [hsz1] at hV
        have hr := hround (B + 1) rfl pre rest d key k V b off kc ka htot hV j1 hSb e0 e1 e2 e3 ec hk
        have hy := run_yield (P := Try.prog) (args := #[.int .i64 (d : Int), .pointer (some ⟨b, off, none⟩)]) j2.1 (by rw [hrec]; exact hps.symm)
        rw [hrec] at hy
        refine ⟨fn, _, assign, body, hy, roundIn_of_wpIn hfn (hr _ fun a₁ V0 hb0 hb => ?_)⟩
        have j20 : Book B (rec .ready none) V0 := ⟨(hb0.block _ (lt_of_heap j2.1)).trans j2.1, (hb0.block _ (lt_of_heap j2.2)).trans j2.2⟩
        refine ⟨_, run_beginRound j20.1 (by rw [hrec]), ?_⟩
        have hb2 : Book B { rec .ready none with state := .busy } (V0.putObj (B + 1) (.loop { rec .ready none with state := .busy })) := j20.put
        refine wpIn_mono (hb _ ⟨_, rfl, _, j20.1, rfl⟩) ?_
        rintro e3 a3 U ⟨⟨hk1, hk2⟩, hp⟩
        have hb3 : Book B { rec .ready none with state := .busy } U := ⟨(hk2 _ (Or.inl (by omega)) (lt_of_heap hb2.1)).trans hb2.1, (hk2 _ (Or.inl (Nat.le_refl _)) (lt_of_heap hb2.2)).trans hb2.2⟩
        have fin := fun jump => run_endRound (P := Try.prog) jump hb3.1
        rw [hrec] at fin hb3
        have hs0 := hb0.size
        have hsU : V0.heap.size ≤ U.heap.size := by simpa [World.putObj] using hk1
        have hall : ∀ o', V.heap.size ≤ (U.putObj (B + 1) o').heap.size ∧ ∀ y, SS y → (U.putObj (B + 1) o').heap[y]? = V.heap[y]? := fun o' => ⟨by simp [World.putObj]; omega, fun y hy => by
          have hyl := hSl y hy
          have hyB : y ≠ B + 1 := by omega
          rw [World.putObj_heap_other hyB, hk2 y (Or.inr hy) (by simp [World.putObj]; omega), World.putObj_heap_other hyB, hb0.block y (by omega)]⟩
        have hpb : ∀ o', Below B U (U.putObj (B + 1) o') := fun o' => ⟨rfl, rfl, rfl, by simp [World.putObj], fun y hy => World.putObj_heap_other (by omega)⟩
        rcases hp with ⟨rfl, hi3⟩ | ⟨rfl, hi3⟩ | ⟨id, rfl, hi3⟩
        · refine ⟨_, _, fin none, hall _, .inl ⟨rfl, hI hi3 (hpb _), ?_⟩⟩
          rw [hrec]; exact hb3.put
        · refine ⟨_, _, fin (some .ret), hall _, .inr ⟨rfl, .ret, hIx hi3 (hpb _), ?_⟩⟩
          rw [hrec]; exact hb3.put
        · refine ⟨_, _, fin (some (.exit id)), hall _, .inr ⟨rfl, .exit id, hIx hi3 (hpb _), ?_⟩⟩
          rw [hrec]; exact hb3.put
    have hstart : J [] W1 := by rw [hJ]; exact ⟨hI1, hbk⟩
    refine (callsIn_wide.2 (walk1_any W1 hbody TB hwa1 hsz hstart)).mono ?_
    rintro e W2 ⟨⟨v, rfl⟩, (hj | hj)⟩
    · rw [hJ] at hj
      obtain ⟨hi, hb⟩ := hj
      have := run_endLoop (P := Try.prog) hb.1 (by rw [hrec]; simp)
      rw [hrec] at this
      exact ⟨none, _, this, hdone B _ (Nat.le_refl _) (hI hi ⟨rfl, rfl, rfl, by simp [World.putObj], fun y hy => World.putObj_heap_other (by omega)⟩) ((World.putObj_heap_other (by omega)).trans hb.2)⟩
    · rw [hJx] at hj
      obtain ⟨c, hi, hb⟩ := hj
      have := run_endLoop (P := Try.prog) hb.1 (by rw [hrec]; simp)
      rw [hrec] at this
      exact ⟨some c, _, this, hstop B c _ (Nat.le_refl _) (hIx hi ⟨rfl, rfl, rfl, by simp [World.putObj], fun y hy => World.putObj_heap_other (by omega)⟩) ((World.putObj_heap_other (by omega)).trans hb.2)⟩
end Go.Proofs.Ytmfpilacmafglaa
