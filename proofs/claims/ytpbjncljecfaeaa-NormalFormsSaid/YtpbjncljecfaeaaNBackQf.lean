/-
  A range over a row of nodes from its end (slices.Backward): the iterator's contract, and one law for its callers. No condition but that the row is not too long.
-/
import Derived.Test.YtpbjncljecfaeaaECloneQf
import Derived.Test.YtpbjncljecfaeaaNRowsQf
import Derived.Test.YtpbjncljecfaeaaNPlainQf
namespace Go.Proofs.Ytpbjncljecfaeaa
open Go.RowKit Go.Shelf
attribute [local go_sem] Oper.semAt_some
set_option linter.unusedVariables false
set_option linter.unusedSimpArgs false

/-- A row of nodes that an iterator goes over: its own cell, the row. -/
def RowBk (w : World) (NB : Nat) (a : Option Addr) (c : Nat) (f : Fo) (S : Nat → Prop) : Prop := w.heap[NB]? = some (.cells #[.slice a (foLen f) c] 23 (0, 0)) ∧ S NB ∧ (∀ y, S y → y < w.heap.size) ∧ FoAt w S f a ∧ foLen f ≤ c
theorem RowBk.kept {w w' : World} {NB c : Nat} {a : Option Addr} {f : Fo} {S : Nat → Prop} (h : RowBk w NB a c f S) (hs : w.heap.size ≤ w'.heap.size) (hk : ∀ y, S y → w'.heap[y]? = w.heap[y]?) : RowBk w' NB a c f S := by
  obtain ⟨h1, h2, h3, h4, h5⟩ := h
  exact ⟨(hk NB h2).trans h1, h2, fun y hy => Nat.lt_of_lt_of_le (h3 y hy) hs, h4.kept fun y hy => ⟨hy, hk y hy⟩, h5⟩
/-- What a body of such a loop bears. -/
def BodyBk (P : Program) (m l : Nat) (S : Nat → Prop) (n : Nat) (J : Nat → World → Prop) (Jx : World → Prop) : Prop :=
  ∀ (k j : Nat) (v : Value) (w : World), j + k + 1 = n → (∀ y, S y → y < w.heap.size) → J k w → YieldAt Fence.wide m P l #[.int .i64 (j : Int), v] w fun e w' => w.heap.size ≤ w'.heap.size ∧ (∀ y, S y → w'.heap[y]? = w.heap[y]?) ∧ ((e = .returned (.bool true) ∧ J (k + 1) w') ∨ (e = .returned (.bool false) ∧ Jx w'))
def SEndBk (n : Nat) (J : Nat → World → Prop) (Jx : World → Prop) (e : Ending) (V : World) : Prop := (∃ v, e = .returned v) ∧ (J n V ∨ Jx V)
def SInvBk (NB : Nat) (a : Option Addr) (c : Nat) (f : Fo) (S : Nat → Prop) (J : Nat → World → Prop) (k : Nat) (wr : World) : Prop := RowBk wr NB a c f S ∧ J k wr
theorem SEndBk.mk0 {n : Nat} {J : Nat → World → Prop} {Jx : World → Prop} {V : World} {k : Nat} {v : Value} (h : J k V) (hk : k = n) : SEndBk n J Jx (.returned v) V := ⟨⟨v, rfl⟩, Or.inl (hk ▸ h)⟩
theorem SEndBk.mkx {n : Nat} {J : Nat → World → Prop} {Jx : World → Prop} {V : World} {v : Value} (h : Jx V) : SEndBk n J Jx (.returned v) V := ⟨⟨v, rfl⟩, Or.inr h⟩
set_option maxRecDepth 100000 in
set_option maxHeartbeats 8000000 in
theorem back1_any {m l : Nat} {S : Nat → Prop} {f : Fo} {J : Nat → World → Prop} {Jx : World → Prop} (hB : BodyBk Try.prog m l S (foLen f) J Jx) (W : World) (NB c : Nat) (a : Option Addr) (hI : RowBk W NB a c f S) (hn : foLen f ≤ 1000000) (h0 : J 0 W) :
    Calls Try.prog 51 #[.func (.yield l) #[] #[], .pointer (some ⟨NB, 0, none⟩)] W (SEndBk (foLen f) J Jx) := by
  have HST : Hid (SInvBk NB a c f S J 0 W) := Lib.hid ⟨hI, h0⟩
  obtain ⟨n, hn'⟩ : ∃ n, n = foLen f := ⟨_, rfl⟩
  have h1 := hI.1
  rw [← hn'] at hn h1 hB ⊢
  have c0 : W.cell? ⟨NB, 0, none⟩ = some (.slice a n c) := by rw [cell_of_row _ _ 0 _ _ _ h1]; rfl
  have HN := Lib.hid hn'
  have hcn : n ≤ c := by rw [hn']; exact hI.2.2.2.2
  clear h0 h1 hn' hI
  refine (callsIn_wide (n := 6)).1 ?_
  refine callsIn_of_wp Try.func51 rfl trivial ?_ rfl
  simp only [Try.ntmps51, List.size_toArray, List.length_cons, List.length_nil, Nat.reduceAdd, Nat.reduceSub, Array.replicate_succ, Array.replicate_zero, List.push_toArray, List.append_toArray, List.nil_append, List.cons_append]
  have hw0 : IntKind.i64.wrap ((n : Int) - 1) = (n : Int) - 1 := IntWalk.i64_in _ (by omega)
  gi_wp2
  clear hw0
  gi_loopw [3] (fun i wr => ∃ k : Nat, i = .int .i64 ((n : Int) - 1 - (k : Int)) ∧ k ≤ n ∧ Hid (SInvBk NB a c f S J k wr)) (fun i _ => (intOf i + 1).toNat)
  case atStart => exact ⟨0, by simp, Nat.zero_le _, HST⟩
  case round =>
    obtain ⟨k, rfl, hkn, hh⟩ := hrel
    clear HST c0
    by_cases hlt : k < n
    · obtain ⟨j, hj⟩ : ∃ j : Nat, j + k + 1 = n := ⟨n - 1 - k, by omega⟩
      have hji : (n : Int) - 1 - (k : Int) = (j : Int) := by omega
      have hj0 : (0 : Int) ≤ (j : Int) := by omega
      have hjl : (j : Int) < (n : Int) := by omega
      have HJK := Lib.hid (And.intro hj hji)
      rw [hji]
      obtain ⟨b0, o0, key, kl, kr, hd, b, off, ka, kc, ea, hSb, d0, d1, d2, d3, hkc, hkl⟩ := hh.out.1.2.2.2.1.at j (by rw [← HN.out]; omega)
      subst ea
      have c0 : wr.cell? ⟨NB, 0, none⟩ = some (.slice (some ⟨b, off, none⟩) n c) := by rw [cell_of_row _ _ 0 _ _ _ hh.out.1.1, HN.out]; rfl
      obtain ⟨sn, hsn⟩ : ∃ sn, sn = foLen kl := ⟨_, rfl⟩
      rw [← hsn] at d3
      obtain ⟨fn, tmps, assign, body, hy, hR⟩ := YieldAt.anyDepthW 5 (hB k j (.agg #[.int .i64 key.1, .int .i64 key.2.1, .string key.2.2, .slice ka sn kc]) _ hj hh.out.1.2.2.1 hh.out.2)
      have HVI := hh
      have HRR := Lib.hid hR
      have hjw : IntKind.i64.wrap ((j : Int) - 1) = (j : Int) - 1 := IntWalk.i64_in _ (by omega)
      clear hd hkl hkc hSb hsn hR hh hj hji hkn hlt
      gi_wp2
      refine HRR.out.mono ?_
      clear HRR hy d0 d1 d2 d3 c0
      rintro e w2 ⟨hs2, hk2, (⟨rfl, hJ4⟩ | ⟨rfl, hJ4⟩)⟩
      · have HNX : Hid (SInvBk NB (some ⟨b, off, none⟩) c f S J (k + 1) w2) := Lib.hid ⟨HVI.out.1.kept hs2 hk2, hJ4⟩
        clear hs2 hk2 hJ4 HVI
        gi_wp2
        refine ⟨⟨k + 1, by have := HJK.out.2; congr 1; push_cast; omega, by have := HJK.out.1; omega, HNX⟩, by have := HJK.out.2; simp [intOf]⟩
      · have HE := Lib.hid (SEndBk.mkx (n := n) (J := J) (v := .tuple #[]) hJ4)
        clear hs2 hk2 hJ4 HVI
        gi_wp2
        go_end0
        exact HE.out
    · have hkl : ¬ (0 : Int) ≤ (n : Int) - 1 - (k : Int) := by omega
      have HE := Lib.hid (SEndBk.mk0 (n := n) (Jx := Jx) (v := .tuple #[]) hh.out.2 (by omega))
      clear hh hkn hlt
      gi_wp2
      go_end0
      exact HE.out
/-- How a round is left. -/
def LeftBk (B : Nat) (S : Nat → Prop) (I : Nat → World → Prop) (Ix : Code → World → Prop) (k : Nat) (W : World) (e : Exit) (_ : Act) (V : World) : Prop :=
  W.heap.size ≤ V.heap.size ∧ (∀ y, (y = B ∨ y = B + 1 ∨ S y) → V.heap[y]? = W.heap[y]?) ∧ ((e = .normal ∧ I (k + 1) V) ∨ (e = .ret ∧ Ix .ret V) ∨ ∃ id, e = .exit id ∧ Ix (.exit id) V)
set_option maxRecDepth 100000 in
theorem range_back {n : Nat} {g : Operand} {ps : Array Tmp} {assign body : Code} {Q : Exit → Act → World → Prop} {a : Act} {w : World} (h1 : 1 ≤ n) {NB : Nat} (hg : a.eval g = .func (.func 51) #[] #[.pointer (some ⟨NB, 0, none⟩)])
    (ra : Option Addr) (rc : Nat) (f : Fo) (S : Nat → Prop) (hids : RowBk w NB ra rc f S) (hn : foLen f ≤ 1000000) (hps : ps.size = 2)
    (I : Nat → World → Prop) (Ix : Code → World → Prop)
    (hI : ∀ {k : Nat} {V V' : World}, I k V → Touched V V' (fun x => x = w.heap.size + 1) → I k V')
    (hIx : ∀ {c : Code} {V V' : World}, Ix c V → Touched V V' (fun x => x = w.heap.size + 1) → Ix c V')
    (h0 : I 0 w)
    (hround : ∀ (l : Nat), l = w.heap.size + 1 → ∀ (k j : Nat) (v : Value) (V : World), w.heap.size + 2 ≤ V.heap.size → j + k + 1 = foLen f → I k V →
      ∀ (K : Act → World → Prop), (∀ a₁ V0, Touched V V0 (fun _ => False) → (∀ V', (∃ o', V' = V0.putObj l o' ∧ ∃ o, V0.heap[l]? = some o ∧ o.isCells = false) → body.wpIn (Fence.wide.inRound l) (n - 1 - 1) Try.prog (LeftBk w.heap.size S I Ix k V') a₁ V') → K a₁ V0) →
        assign.wpIn (Fence.wide.inRound l) (n - 1 - 1) Try.prog (Exit.then K (fun _ _ _ => False)) { tmps := (ps.zip #[.int .i64 (j : Int), v]).foldl (fun t (p, v) => t.setIfInBounds p v) a.tmps, defers := [] } V)
    (hdone : ∀ (D : Nat) (V : World), D = w.heap.size → I (foLen f) V → V.heap[D]? = some (.deferred (some [])) → Q .normal { a with defers := { target := .collected D, args := #[] } :: a.defers } V)
    (hstop : ∀ (D : Nat) (c : Code) (V : World), D = w.heap.size → Ix c V → V.heap[D]? = some (.deferred (some [])) → c.wpIn Fence.wide n Try.prog Q { a with defers := { target := .collected D, args := #[] } :: a.defers } V) :
    (Code.rangeFunc g ps assign body).wpIn Fence.wide n Try.prog Q a w := by
  obtain ⟨B, hB⟩ : ∃ B, w.heap.size = B := ⟨_, rfl⟩
  have hSB : ∀ y, S y → y < B := fun y hy => by have := hids.2.2.1 y hy; omega
  simp only [hB] at hI hIx hround hdone hstop h0
  refine wpIn_rangeFunc fun fn hfn => ?_
  obtain ⟨rec, hrec⟩ : ∃ rec : LoopState → Option Code → Loop, rec = fun st pe => { state := st, pending := pe, fn, tmps := a.tmps, params := ps, assign, body, defers := B } := ⟨_, rfl⟩
  obtain ⟨W1, hW1⟩ : ∃ W1, W1 = (w.alloc (.deferred (some []))).alloc (.loop (rec .ready none)) := ⟨_, rfl⟩
  have hsz1 : W1.heap.size = B + 2 := by rw [hW1]; simp [hB]
  have hblk : ∀ x, x < B → W1.heap[x]? = w.heap[x]? := fun x hx => by rw [hW1, Below.heap_alloc _ _ _ (by simp; omega), Below.heap_alloc _ _ _ (by omega)]
  have hbk : Book B (rec .ready none) W1 := by
    rw [hW1, ← hB]
    refine ⟨?_, (Below.heap_alloc _ _ _ (by simp)).trans (World.alloc_heap_new w _)⟩
    have := World.alloc_heap_new (w.alloc (.deferred (some []))) (.loop (rec .ready none))
    rwa [World.size_alloc] at this
  have hb1 : Touched w W1 (fun _ => False) := by rw [hW1]; exact ((Touched.refl w _).alloc _).alloc _
  have hI1 : I 0 W1 := hI h0 (hb1.mono (fun _ h => h.elim))
  refine ⟨B + 1, [{ target := .collected B, args := #[] }], W1, { target := .fn (.func 51) #[.pointer (some ⟨NB, 0, none⟩)], args := #[.func (.yield (B + 1)) #[] #[]] }, W1, 51, #[.func (.yield (B + 1)) #[] #[]] ++ #[.pointer (some ⟨NB, 0, none⟩)], W1, ?_, ?_, ?_, ?_, fun _ => h1, ?_⟩
  · rw [hW1, hrec, ← hB]; exact run_enterLoop_outer _ _ _ _ _
  · simp only [resolve, hg]
    simp [go_sem]
  · intro f' hf'; simp [Target.leads] at hf'; subst hf'; exact trivial
  · simp [invoke, go_sem]
  · obtain ⟨J, hJ⟩ : ∃ J : Nat → World → Prop, J = fun k V => I k V ∧ Book B (rec .ready none) V := ⟨_, rfl⟩
    obtain ⟨Jx, hJx⟩ : ∃ Jx : World → Prop, Jx = fun V => ∃ c, Ix c V ∧ Book B (rec .done (some c)) V := ⟨_, rfl⟩
    have hbody : BodyBk Try.prog (n - 1 - 1) (B + 1) S (foLen f) J Jx := by
      subst hJ hJx
      rintro k j v V hx hS ⟨j1, j2⟩
      have hr := hround (B + 1) rfl k j v V (by have := lt_of_heap j2.1; omega) hx j1
      have hSl : ∀ y, S y → y ≠ B + 1 := fun y hy => by have := hSB y hy; omega
      have hy := run_yield (P := Try.prog) (args := #[.int .i64 (j : Int), v]) j2.1 (by rw [hrec]; exact hps.symm)
      rw [hrec] at hy
      refine ⟨fn, _, assign, body, hy, roundIn_of_wpIn hfn (hr _ fun a₁ V0 h0 hb => ?_)⟩
      have j3 : Book B (rec .ready none) V0 := ⟨(h0.block _ (lt_of_heap j2.1) (fun h => h)).trans j2.1, (h0.block _ (lt_of_heap j2.2) (fun h => h)).trans j2.2⟩
      refine ⟨_, run_beginRound j3.1 (by rw [hrec]), ?_⟩
      have hb2 : Book B { rec .ready none with state := .busy } (V0.putObj (B + 1) (.loop { rec .ready none with state := .busy })) := j3.put
      refine wpIn_mono (hb _ ⟨_, rfl, _, j3.1, rfl⟩) ?_
      rintro e3 a3 U ⟨hkU, hkS, hp⟩
      have hb3 : Book B { rec .ready none with state := .busy } U := ⟨(hkS _ (Or.inr (Or.inl rfl))).trans hb2.1, (hkS _ (Or.inl rfl)).trans hb2.2⟩
      have fin := fun jump => run_endRound (P := Try.prog) jump hb3.1
      rw [hrec] at fin hb3
      have hUs : V.heap.size ≤ U.heap.size := by have := hkU; have := h0.size; simp [World.putObj] at *; omega
      have hsz : ∀ o', V.heap.size ≤ (U.putObj (B + 1) o').heap.size := fun o' => by simp [World.putObj]; exact hUs
      have hallS : ∀ o' y, S y → (U.putObj (B + 1) o').heap[y]? = V.heap[y]? := fun o' y hy => by
        rw [World.putObj_heap_other (hSl y hy), hkS y (Or.inr (Or.inr hy)), World.putObj_heap_other (hSl y hy), h0.block y (hS y hy) (fun h => h)]
      have htp : ∀ o', Touched U (U.putObj (B + 1) o') (fun x => x = B + 1) := fun o' => touched_put o' hb3.1
      rcases hp with ⟨rfl, hi3⟩ | ⟨rfl, hi3⟩ | ⟨id, rfl, hi3⟩
      · refine ⟨_, _, fin none, hsz _, hallS _, .inl ⟨rfl, hI hi3 (htp _), ?_⟩⟩
        rw [hrec]; exact hb3.put
      · refine ⟨_, _, fin (some .ret), hsz _, hallS _, .inr ⟨rfl, .ret, hIx hi3 (htp _), ?_⟩⟩
        rw [hrec]; exact hb3.put
      · refine ⟨_, _, fin (some (.exit id)), hsz _, hallS _, .inr ⟨rfl, .exit id, hIx hi3 (htp _), ?_⟩⟩
        rw [hrec]; exact hb3.put
    have hstart : J 0 W1 := by rw [hJ]; exact ⟨hI1, hbk⟩
    refine (callsIn_wide.2 (back1_any hbody W1 NB rc ra (hids.kept hb1.size (fun y hy => hblk y (hSB y hy))) hn hstart)).mono ?_
    rintro e W2 ⟨⟨v, rfl⟩, hj | hj⟩
    · rw [hJ] at hj
      obtain ⟨hi, hb⟩ := hj
      have := run_endLoop (P := Try.prog) hb.1 (by rw [hrec]; simp)
      rw [hrec] at this
      refine ⟨none, _, this, hdone B _ rfl (hI hi (touched_put _ hb.1)) ((World.putObj_heap_other (by omega)).trans hb.2)⟩
    · rw [hJx] at hj
      obtain ⟨c, hi, hb⟩ := hj
      have := run_endLoop (P := Try.prog) hb.1 (by rw [hrec]; simp)
      rw [hrec] at this
      exact ⟨some c, _, this, hstop B c _ rfl (hIx hi (touched_put _ hb.1)) ((World.putObj_heap_other (by omega)).trans hb.2)⟩
set_option maxRecDepth 100000 in
theorem back_fn (w : World) (a : Option Addr) (n c : Nat) : Calls Try.prog 46 #[.slice a n c] w fun e w' => e = .returned (.func (.func 51) #[] #[.pointer (some ⟨w.heap.size, 0, none⟩)]) ∧ w.alloc (.cells #[.slice a n c] 23) = w' := by
  have hmf : ∀ W : World, (Instr.makeFunc (.func 51) #[] #[.pointer (some ⟨w.heap.size, 0, none⟩)]).run Try.prog W = .ok (.func (.func 51) #[] #[.pointer (some ⟨w.heap.size, 0, none⟩)]) W := fun _ => rfl
  go_enter Try.func46, Try.ntmps46
  go_wp2_with fail
  go_ret
  exact ⟨rfl, rfl⟩
end Go.Proofs.Ytpbjncljecfaeaa
