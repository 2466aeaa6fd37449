/-
  A range over what 'each' hands back: one law for its callers. No condition but that there are not too many nodes.
  slices.Clone of a row of nodes: the same cells in new memory. No condition.
-/
import Derived.Test.YtpbjncljecfaeaaEEachQf
import Derived.Lib.SliceRun
namespace Go.Proofs.Ytpbjncljecfaeaa
open Go.RowKit
set_option linter.unusedVariables false

/-- The loop's own two blocks: the record, and the row of what is deferred. -/
def Book (B : Nat) (r : Loop) (W : World) : Prop := W.heap[B + 1]? = some (.loop r) ∧ W.heap[B]? = some (.deferred (some []))
theorem Book.put {B : Nat} {r r' : Loop} {W : World} (h : Book B r W) : Book B r' (W.putObj (B + 1) (.loop r')) :=
  ⟨World.putObj_heap_same (Array.getElem?_eq_some_iff.1 h.1).1, (World.putObj_heap_other (by omega)).trans h.2⟩
theorem Book.kept {B : Nat} {r : Loop} {W V : World} (h : Book B r W) (hk : KeepsFrom B W V) : Book B r V := ⟨hk.same _ _ (by omega) h.1 rfl, hk.same _ _ (Nat.le_refl _) h.2 rfl⟩
theorem Book.touched {B : Nat} {r : Loop} {W V : World} {T : Nat → Prop} (h : Book B r W) (ht : Touched W V T) (hT : ∀ x, T x → B + 2 ≤ x) : Book B r V :=
  ⟨(ht.block _ (lt_of_heap h.1) (fun e => by have := hT _ e; omega)).trans h.1, (ht.block _ (lt_of_heap h.2) (fun e => by have := hT _ e; omega)).trans h.2⟩
def NonCells (V : World) (x : Nat) : Prop := ∃ o, V.heap[x]? = some o ∧ o.isCells = false
/-- How a round is left. -/
def LeftE (B : Nat) (T : Nat → Prop) (I : (Nat → Prop) → List Seg → World → Prop) (Ix : Code → (Nat → Prop) → World → Prop) (d c b off : Nat) (k r : Fo) (A : List Seg) (W : World) (e : Exit) (_ : Act) (V : World) : Prop :=
  KeepsFrom B W V ∧ Kept T W V ∧ ((e = .normal ∧ ∃ ka kc, V.cell? ⟨b, off + 3, none⟩ = some (.slice ka (foLen k) kc) ∧ foLen k ≤ kc ∧ I T (⟨d + 1, ka, kc, k⟩ :: ⟨d, some ⟨b, off + 4, none⟩, c - 1, r⟩ :: A) V) ∨ (e = .ret ∧ Ix .ret T V) ∨ ∃ id, e = .exit id ∧ Ix (.exit id) T V)
theorem touched_put {V : World} {l : Nat} {o : Obj} (o' : Obj) (hl : V.heap[l]? = some o) : Touched V (V.putObj l o') (fun x => x = l) :=
  ⟨rfl, rfl, rfl, by simp [World.putObj], fun x _ hn => World.putObj_heap_other hn⟩
theorem Touched.mono {w w' : World} {S S' : Nat → Prop} (h : Touched w w' S) (hS : ∀ x, S x → S' x) : Touched w w' S' := ⟨h.os, h.tape, h.output, h.size, fun x hx hn => h.block x hx (fun hs => hn (hS x hs))⟩
theorem kept_put {T : Nat → Prop} {V : World} {l : Nat} (o' : Obj) (hT : ¬ T l) : Kept T V (V.putObj l o') := ⟨by simp [World.putObj], fun x hx => World.putObj_heap_other (fun e => hT (e ▸ hx))⟩

theorem range_each {n : Nat} {g : Operand} {ps : Array Tmp} {assign body : Code} {Q : Exit → Act → World → Prop} {a : Act} {w : World} (h1 : 1 ≤ n) {NB : Nat} (hg : a.eval g = .func (.func 48) #[] #[.pointer (some ⟨NB, 0, none⟩)])
    (s : Seg) (hd : s.d = 1) (hne : s.f ≠ .nil) (hcap : foLen s.f ≤ s.cap) (hsz : foSize s.f ≤ 500000) (hNB : w.cell? ⟨NB, 0, none⟩ = some s.v) (hps : ps.size = 2)
    (I : (Nat → Prop) → List Seg → World → Prop) (Ix : Code → (Nat → Prop) → World → Prop)
    (hI : ∀ {T T' : Nat → Prop} {A : List Seg} {V V' : World}, I T A V → Touched V V' (fun x => T x ∨ (w.heap.size ≤ x ∧ NonCells V x)) → Wider T T' V V' → I T' A V')
    (hIx : ∀ {c : Code} {T T' : Nat → Prop} {V V' : World}, Ix c T V → Touched V V' (fun x => T x ∨ (w.heap.size ≤ x ∧ NonCells V x)) → Wider T T' V V' → Ix c T' V')
    (hIe : ∀ {T : Nat → Prop} {A B : List Seg} {d c : Nat} {a : Option Addr} {V : World}, I T (A ++ ⟨d, a, c, .nil⟩ :: B) V → I T (A ++ B) V)
    (h0 : I (fun _ => False) [s] w)
    (hround : ∀ (l : Nat), l = w.heap.size + 1 → ∀ (T : Nat → Prop) (d c bo oo : Nat) (ad : Option Addr) (key : Int × Int × ByteArray) (k r : Fo) (A : List Seg) (V : World), (∀ x, T x → x < V.heap.size ∧ w.heap.size + 2 ≤ x) → w.heap.size + 2 ≤ V.heap.size → I T (⟨d, ad, c, .node bo oo key k r⟩ :: A) V →
      ∃ b off, ad = some ⟨b, off, none⟩ ∧ ∀ (K : Act → World → Prop), (∀ a₁, (∀ V', (∃ o', V' = V.putObj l o' ∧ ∃ o, V.heap[l]? = some o ∧ o.isCells = false) → body.wpIn (Fence.wide.inRound l) (n - 1 - 1) Try.prog (LeftE w.heap.size T I Ix d c b off k r A V') a₁ V') → K a₁ V) →
        assign.wpIn (Fence.wide.inRound l) (n - 1 - 1) Try.prog (Exit.then K (fun _ _ _ => False)) { tmps := (ps.zip #[.int .i64 (d : Int), .pointer (some ⟨b, off, none⟩)]).foldl (fun t (p, v) => t.setIfInBounds p v) a.tmps, defers := [] } V)
    (hdone : ∀ (D : Nat) (T : Nat → Prop) (V : World), w.heap.size ≤ D → I T [] V → V.heap[D]? = some (.deferred (some [])) → Q .normal { a with defers := { target := .collected D, args := #[] } :: a.defers } V)
    (hstop : ∀ (D : Nat) (c : Code) (T : Nat → Prop) (V : World), w.heap.size ≤ D → Ix c T V → V.heap[D]? = some (.deferred (some [])) → c.wpIn Fence.wide n Try.prog Q { a with defers := { target := .collected D, args := #[] } :: a.defers } V) :
    (Code.rangeFunc g ps assign body).wpIn Fence.wide n Try.prog Q a w := by
  obtain ⟨B, hB⟩ : ∃ B, w.heap.size = B := ⟨_, rfl⟩
  simp only [hB] at hI hIx hround hdone hstop
  refine wpIn_rangeFunc fun fn hfn => ?_
  obtain ⟨rec, hrec⟩ : ∃ rec : LoopState → Option Code → Loop, rec = fun st pe => { state := st, pending := pe, fn, tmps := a.tmps, params := ps, assign, body, defers := B } := ⟨_, rfl⟩
  obtain ⟨W1, hW1⟩ : ∃ W1, W1 = (w.alloc (.deferred (some []))).alloc (.loop (rec .ready none)) := ⟨_, rfl⟩
  have hsz1 : W1.heap.size = B + 2 := by rw [hW1]; simp [hB]
  have hblk : ∀ x, x < B → W1.heap[x]? = w.heap[x]? := fun x hx => by rw [hW1, Below.heap_alloc _ _ _ (by simp; omega), Below.heap_alloc _ _ _ (by omega)]
  have hbk : Book B (rec .ready none) W1 := by
    rw [hW1, ← hB]
    refine ⟨?_, (Below.heap_alloc _ _ _ (by simp)).trans (World.alloc_heap_new w _)⟩
    have := World.alloc_heap_new (w.alloc (.deferred (some []))) (.loop (rec .ready none))
    rwa [World.size_alloc] at this
  have hb1 : Touched w W1 (fun _ => False) := by rw [hW1]; exact ((Touched.refl w _).alloc _).alloc _
  have hI1 : I (fun _ => False) [s] W1 := hI h0 (hb1.mono (fun _ h => h.elim)) (fun x hx => Or.inl hx)
  have hNBl := World.block_lt_of_cell? _ _ hNB
  have hNB1 : W1.cell? ⟨NB, 0, none⟩ = some s.v := (World.cell?_of_block (hblk NB (by simp only at hNBl; omega))).trans hNB
  refine ⟨B + 1, [{ target := .collected B, args := #[] }], W1, { target := .fn (.func 48) #[.pointer (some ⟨NB, 0, none⟩)], args := #[.func (.yield (B + 1)) #[] #[]] }, W1, 48, #[.func (.yield (B + 1)) #[] #[]] ++ #[.pointer (some ⟨NB, 0, none⟩)], W1, ?_, ?_, ?_, ?_, fun _ => h1, ?_⟩
  · rw [hW1, hrec, ← hB]; exact run_enterLoop_outer _ _ _ _ _
  · simp only [resolve, hg]
    simp [go_sem]
  · intro f' hf'; simp [Target.leads] at hf'; subst hf'; exact trivial
  · simp [invoke, go_sem]
  · obtain ⟨J, hJ⟩ : ∃ J : (Nat → Prop) → List Seg → World → Prop, J = fun T A V => I T A V ∧ Book B (rec .ready none) V ∧ ∀ x, T x → B + 2 ≤ x := ⟨_, rfl⟩
    obtain ⟨Jx, hJx⟩ : ∃ Jx : (Nat → Prop) → World → Prop, Jx = fun T V => ∃ c, Ix c T V ∧ Book B (rec .done (some c)) V ∧ ∀ x, T x → B + 2 ≤ x := ⟨_, rfl⟩
    have hbody : Body Try.prog (n - 1 - 1) (B + 1) J Jx := by
      subst hJ hJx
      refine ⟨?_, ?_, ?_, ?_⟩
      · rintro T T' A V V' ⟨j1, j2, j3⟩ ht hw
        have hs := lt_of_heap j2.1
        exact ⟨hI j1 (ht.mono (fun x hx => Or.inl hx)) hw, j2.touched ht j3, fun x hx => (hw x hx).elim (j3 x) (fun h => by omega)⟩
      · rintro T T' V V' ⟨c, j1, j2, j3⟩ ht hw
        have hs := lt_of_heap j2.1
        exact ⟨c, hIx j1 (ht.mono (fun x hx => Or.inl hx)) hw, j2.touched ht j3, fun x hx => (hw x hx).elim (j3 x) (fun h => by omega)⟩
      · rintro T A A' d c ad V ⟨j1, j2⟩
        exact ⟨hIe j1, j2⟩
      · rintro T d c bo oo ad key k r A V hT ⟨j1, j2, j3⟩
        obtain ⟨b, off, e, hr⟩ := hround (B + 1) rfl T d c bo oo ad key k r A V (fun x hx => ⟨hT x hx, j3 x hx⟩) (by have := lt_of_heap j2.1; omega) j1
        refine ⟨b, off, e, ?_⟩
        have hTl : ¬ T (B + 1) := fun h => by have := j3 _ h; omega
        have hy := run_yield (P := Try.prog) (args := #[.int .i64 (d : Int), .pointer (some ⟨b, off, none⟩)]) j2.1 (by rw [hrec]; exact hps.symm)
        rw [hrec] at hy
        refine ⟨fn, _, assign, body, hy, roundIn_of_wpIn hfn (hr _ fun a₁ hb => ?_)⟩
        refine ⟨_, run_beginRound j2.1 (by rw [hrec]), ?_⟩
        have hb2 : Book B { rec .ready none with state := .busy } (V.putObj (B + 1) (.loop { rec .ready none with state := .busy })) := j2.put
        refine wpIn_mono (hb _ ⟨_, rfl, _, j2.1, rfl⟩) ?_
        rintro e3 a3 U ⟨hkU, hkT, hp⟩
        have hb3 := hb2.kept hkU
        have fin := fun jump => run_endRound (P := Try.prog) jump hb3.1
        rw [hrec] at fin hb3
        have hall : ∀ o', Kept T V (U.putObj (B + 1) o') := fun o' => ((kept_put _ hTl).trans hkT).trans (kept_put _ hTl)
        have htp : ∀ o', Touched U (U.putObj (B + 1) o') (fun x => T x ∨ (B ≤ x ∧ NonCells U x)) := fun o' => (touched_put o' hb3.1).mono (fun x hx => Or.inr ⟨by omega, by rw [hx]; exact ⟨_, hb3.1, rfl⟩⟩)
        rcases hp with ⟨rfl, ka, kc, c1, c2, hi3⟩ | ⟨rfl, hi3⟩ | ⟨id, rfl, hi3⟩
        · refine ⟨_, _, fin none, hall _, .inl ⟨rfl, ka, kc, ?_, c2, hI hi3 (htp _) (fun x hx => Or.inl hx), ?_, j3⟩⟩
          · refine (World.cell?_of_block (World.putObj_heap_other fun e4 => ?_)).trans c1
            have h5 : U.cell? ⟨B + 1, off + 3, none⟩ = none := by simp [World.cell?, hb3.1]
            simp only at e4
            rw [e4, h5] at c1; cases c1
          · rw [hrec]; exact hb3.put
        · refine ⟨_, _, fin (some .ret), hall _, .inr ⟨rfl, .ret, hIx hi3 (htp _) (fun x hx => Or.inl hx), ?_, j3⟩⟩
          rw [hrec]; exact hb3.put
        · refine ⟨_, _, fin (some (.exit id)), hall _, .inr ⟨rfl, .exit id, hIx hi3 (htp _) (fun x hx => Or.inl hx), ?_, j3⟩⟩
          rw [hrec]; exact hb3.put
    have hstart : J (fun _ => False) [s] W1 := by rw [hJ]; exact ⟨hI1, hbk, fun _ h => h.elim⟩
    refine (callsIn_wide.2 (each_any hbody W1 NB s hd hne hcap hsz hNB1 hstart)).mono ?_
    rintro e W2 ⟨⟨v, rfl⟩, (⟨T, hj⟩ | ⟨T, hj⟩)⟩
    · rw [hJ] at hj
      obtain ⟨hi, hb, hT⟩ := hj
      have := run_endLoop (P := Try.prog) hb.1 (by rw [hrec]; simp)
      rw [hrec] at this
      refine ⟨none, _, this, hdone B T _ (Nat.le_refl _) (hI hi ((touched_put _ hb.1).mono (fun x hx => Or.inr ⟨by omega, by rw [hx]; exact ⟨_, hb.1, rfl⟩⟩)) (fun x hx => Or.inl hx)) ((World.putObj_heap_other (by omega)).trans hb.2)⟩
    · rw [hJx] at hj
      obtain ⟨c, hi, hb, hT⟩ := hj
      have := run_endLoop (P := Try.prog) hb.1 (by rw [hrec]; simp)
      rw [hrec] at this
      exact ⟨some c, _, this, hstop B c T _ (Nat.le_refl _) (hIx hi ((touched_put _ hb.1).mono (fun x hx => Or.inr ⟨by omega, by rw [hx]; exact ⟨_, hb.1, rfl⟩⟩)) (fun x hx => Or.inl hx)) ((World.putObj_heap_other (by omega)).trans hb.2)⟩
set_option maxRecDepth 100000 in
set_option maxHeartbeats 1000000 in
/-- each: the function that goes over a row. -/
theorem each_fn (w : World) (a : Option Addr) (n c : Nat) : Calls Try.prog 44 #[.slice a n c] w fun e w' => e = .returned (.func (.func 48) #[] #[.pointer (some ⟨w.heap.size, 0, none⟩)]) ∧ w' = w.alloc (.cells #[.slice a n c] 23) := by
  have hmf : ∀ (fn : Fn) (first cap : Array Value) (w : World), (Instr.makeFunc fn first cap).run Try.prog w = .ok (.func fn first cap) w := fun _ _ _ _ => rfl
  go_enter Try.func44, Try.ntmps44
  go_wp2_with fail
  go_ret
  exact ⟨rfl, rfl⟩
end Go.Proofs.Ytpbjncljecfaeaa
namespace Go.Proofs.Ytpbjncljecfaeaa
open Go.RowKit
set_option linter.unusedVariables false

theorem Try.infoN : (Try.prog.info? 25).map (fun i => (i.size, i.bytes, i.zero.map (fun z => z.cells.size))) = some (4, 56, some 4) := by kernel_rfl
def CloneC (w : World) (t : TypeId) (size n : Nat) (xs : List Value) (e : Ending) (w' : World) : Prop := ∃ v', e = .returned v' ∧ Below w.heap.size w w' ∧ w'.ownsRow w.heap.size t size v' n xs
theorem Try.noneNodes (w : World) (a : Option Addr) (n c : Nat) : (binOp .eql 23 (.slice a n c) (.slice none 0 0)).run Try.prog w = .ok (.bool a.isNone) w := Lib.run_eql_slice_nil w _ _ a n c 0 0 Try.underlying23
set_option maxRecDepth 100000 in
set_option maxHeartbeats 1000000 in
theorem clone_Nodes (w : World) (a : Option Addr) (n cap : Nat) (xs : List Value) (hl : xs.length = n * 4) (h1 : ∀ u ∈ xs, u.oneCell' = true) (hn : n ≤ 1000000) (hc : ∀ ad, a = some ad → ∀ j u, xs[j]? = some u → w.cell? (ad.add j) = some u) (h0 : a = none → n = 0) :
    Calls Try.prog 45 #[.slice a n cap] w (CloneC w 25 4 n xs) := by
  have hq := Try.noneNodes
  cases a with
  | none =>
    have hn0 := h0 rfl
    subst hn0
    have hx : xs = [] := List.eq_nil_of_length_eq_zero (by simpa using hl)
    subst hx
    clear hl h1 hn hc h0
    go_enter Try.func45, Try.ntmps45
    go_wp2_with fail
    go_ret
    exact ⟨_, rfl, Below.refl _ _, World.ownsRow_nil _ _ _ _⟩
  | some ad =>
    have HC := Lib.hid (And.intro hl (And.intro h1 (hc ad rfl)))
    obtain ⟨i0, z0, hi0, hz0, hz1, hz2, hz3⟩ := info_wide Try.infoN
    have HI := Lib.hid (And.intro hi0 (And.intro hz0 (And.intro hz1 (And.intro hz2 hz3))))
    clear hl h1 hc h0 hi0 hz0 hz1 hz2 hz3
    go_enter Try.func45, Try.ntmps45
    go_wp2_with (at_builtin; refine wpList_append_own_at _ rfl (.tmp 5) (.tmp 6) _ rfl w.heap.size 25 i0 z0 4 56 Try.underlying23 HI.out.1 HI.out.2.1 HI.out.2.2.1 HI.out.2.2.2.1 HI.out.2.2.2.2 (by omega) (.slice (some ⟨w.heap.size, 0, none⟩) 0 0) 0 [] rfl (World.ownsRow_made w #[] 0 (Nat.le_refl _) (by unfold maxLen; omega) rfl) ad n cap xs rfl HC.out.1 (fun j u hj => Lib.cell?_alloc_some _ (HC.out.2.2 j u hj)) HC.out.2.1 (by unfold maxLen; omega) (by omega) (by simp) ?_; intro v' w1 hown hgrow _ hat)
    go_ret
    have hs := hgrow.size
    rw [World.size_alloc] at hs
    exact ⟨_, rfl, ⟨hgrow.os, hgrow.tape, hgrow.output, by omega, fun x hx => by
      rw [hgrow.block x (by rw [World.size_alloc]; omega) (by simp [Value.ownBlock]; omega), Below.heap_alloc _ _ _ hx]⟩, by rw [Nat.zero_add, List.nil_append] at hown; exact hown⟩

end Go.Proofs.Ytpbjncljecfaeaa
