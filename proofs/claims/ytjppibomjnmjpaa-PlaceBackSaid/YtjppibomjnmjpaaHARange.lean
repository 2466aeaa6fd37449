/-
  A range over what 'Above' hands back: one law for its callers. No condition but that there are not too many ids.
-/
import Derived.Test.YtjppibomjnmjpaaHAbove
namespace Go.Proofs.Ytjppibomjnmjpaa
open Go.RowKit Go.Shelf
attribute [local go_sem] Oper.semAt_some
set_option linter.unusedVariables false
set_option linter.unusedSimpArgs false

/-- The ids that are told, in their order. -/
def toldI (ids : List Int) : List Int := (ids.take (ids.length - 1)).reverse
theorem toldI_length (ids : List Int) : (toldI ids).length = ids.length - 1 := by simp [toldI]
theorem toldI_at {ids : List Int} {k : Nat} {x : Int} (h : (toldI ids)[k]? = some x) : ids[ids.length - 2 - k]? = some x ∧ k + 1 < ids.length := by
  have hk := (List.getElem?_eq_some_iff.1 h).1
  rw [toldI_length] at hk
  rw [toldI, List.getElem?_reverse (by rw [List.length_take]; omega), List.length_take, List.getElem?_take_of_lt (by omega)] at h
  refine ⟨?_, by omega⟩
  rw [← h]; congr 1; omega
/-- The ids lie in a row of somebody's, and their cell too. -/
def IdsAt (w : World) (b : Nat) (ids : List Int) (S : Nat → Prop) : Prop := ∃ a cap, w.heap[b]? = some (.cells #[.slice a ids.length cap] 29 (0, 0)) ∧ w.ownsRow 0 3 1 (.slice a ids.length cap) ids.length (ids.map intV) ∧ S b ∧ (∀ g, (Value.slice a ids.length cap).ownBlock = some g → S g) ∧ ∀ y, S y → y < w.heap.size
theorem IdsAt.kept {w w' : World} {b : Nat} {ids : List Int} {S : Nat → Prop} (h : IdsAt w b ids S) (hs : w.heap.size ≤ w'.heap.size) (hk : ∀ y, S y → w'.heap[y]? = w.heap[y]?) : IdsAt w' b ids S := by
  obtain ⟨a, cap, h1, h2, h3, h4, h5⟩ := h
  exact ⟨a, cap, (hk b h3).trans h1, owns_kept h2 (fun g cur hc hg => hk g (h4 g hg)), h3, h4, fun y hy => Nat.lt_of_lt_of_le (h5 y hy) hs⟩
/-- What a body of such a loop bears. -/
def BodyI (P : Program) (m l : Nat) (S : Nat → Prop) (tl : List Int) (J : Nat → World → Prop) (Jx : World → Prop) : Prop :=
  ∀ (k : Nat) (x : Int) (w : World), tl[k]? = some x → (∀ y, S y → y < w.heap.size) → J k w → YieldAt Fence.wide m P l #[.int .i64 x] w fun e w' => w.heap.size ≤ w'.heap.size ∧ (∀ y, S y → w'.heap[y]? = w.heap[y]?) ∧ ((e = .returned (.bool true) ∧ J (k + 1) w') ∨ (e = .returned (.bool false) ∧ Jx w'))
def AEnd (tl : List Int) (J : Nat → World → Prop) (Jx : World → Prop) (e : Ending) (V : World) : Prop := (∃ v, e = .returned v) ∧ (J tl.length V ∨ Jx V)
def AInv (b : Nat) (ids : List Int) (S : Nat → Prop) (J : Nat → World → Prop) (k : Nat) (wr : World) : Prop := IdsAt wr b ids S ∧ J k wr
theorem AEnd.mk0 {tl : List Int} {J : Nat → World → Prop} {Jx : World → Prop} {V : World} {k : Nat} {v : Value} (h : J k V) (hk : k = tl.length) : AEnd tl J Jx (.returned v) V := ⟨⟨v, rfl⟩, Or.inl (hk ▸ h)⟩
theorem AEnd.mkx {tl : List Int} {J : Nat → World → Prop} {Jx : World → Prop} {V : World} {v : Value} (h : Jx V) : AEnd tl J Jx (.returned v) V := ⟨⟨v, rfl⟩, Or.inr h⟩
set_option maxRecDepth 100000 in
set_option maxHeartbeats 4000000 in
theorem above1_any {m l : Nat} {S : Nat → Prop} {ids : List Int} {J : Nat → World → Prop} {Jx : World → Prop} (hB : BodyI Try.prog m l S (toldI ids) J Jx) (W : World) (b : Nat) (hI : IdsAt W b ids S) (hn : ids.length ≤ 1000000) (hJ : J 0 W) :
    Calls Try.prog 43 #[.func (.yield l) #[] #[], .pointer (some ⟨b, 0, none⟩)] W (AEnd (toldI ids) J Jx) := by
  have HST : Hid (AInv b ids S J 0 W) := Lib.hid ⟨hI, hJ⟩
  obtain ⟨a, cap, h1, _⟩ := hI
  obtain ⟨n, hn'⟩ : ∃ n, n = ids.length := ⟨_, rfl⟩
  rw [← hn'] at hn h1
  have c0 : W.cell? ⟨b, 0, none⟩ = some (.slice a n cap) := by rw [cell_of_row _ _ 0 _ _ _ h1]; rfl
  have HN := Lib.hid hn'
  have hnw : IntKind.i64.wrap ((n : Int) - 2) = (n : Int) - 2 := IntWalk.i64_in _ (by omega)
  clear hJ h1 hn'
  refine (callsIn_wide (n := 6)).1 ?_
  refine callsIn_of_wp Try.func43 rfl trivial ?_ rfl
  simp only [Try.ntmps43, List.size_toArray, List.length_cons, List.length_nil, Nat.reduceAdd, Nat.reduceSub, Array.replicate_succ, Array.replicate_zero, List.push_toArray, List.append_toArray, List.nil_append, List.cons_append]
  gi_wp2
  gi_loopw [3] (fun i wr => ∃ k : Nat, i = .int .i64 ((n : Int) - 2 - (k : Int)) ∧ (k : Int) ≤ max 0 ((n : Int) - 1) ∧ Hid (AInv b ids S J k wr)) (fun i _ => (intOf i + 2).toNat)
  case atStart => exact ⟨0, by simp, by omega, HST⟩
  case round =>
    obtain ⟨k, rfl, hkn, hh⟩ := hrel
    clear HST c0
    by_cases hlt : k + 1 < n
    · obtain ⟨j, hj⟩ : ∃ j : Nat, (n : Int) - 2 - (k : Int) = (j : Int) := ⟨n - 2 - k, by omega⟩
      rw [hj]
      obtain ⟨x, hx⟩ : ∃ x, (toldI ids)[k]? = some x := ⟨_, List.getElem?_eq_getElem (by rw [toldI_length]; have := HN.out; omega)⟩
      obtain ⟨hx1, hx2⟩ := toldI_at hx
      obtain ⟨⟨a', cap', h1, h2, h3, h4, h5⟩, hJ⟩ := hh.out
      obtain ⟨g, rfl, c1⟩ := intRow_cell h2 hx1
      rw [← HN.out] at h1
      have hjk : ids.length - 2 - k = j := by have := HN.out; omega
      rw [hjk] at c1
      have c0 : wr.cell? ⟨b, 0, none⟩ = some (.slice (some ⟨g, 0, none⟩) n cap') := by rw [cell_of_row _ _ 0 _ _ _ h1]; rfl
      obtain ⟨fn, tmps, assign, body, hy, hR⟩ := YieldAt.anyDepthW 5 (hB k x wr hx h5 hJ)
      have HR := Lib.hid hR
      have HF := Lib.hid (And.intro hh.out (And.intro hlt hj))
      have hj0 : (0 : Int) ≤ (j : Int) := by omega
      have hjn : (j : Int) < (n : Int) := by omega
      have hjw : IntKind.i64.wrap ((j : Int) - 1) = (j : Int) - 1 := IntWalk.i64_in _ (by omega)
      clear hx hx1 hx2 h1 h2 h3 h4 h5 hJ hh hR hlt hkn hj hjk
      gi_wp2
      refine HR.out.mono ?_
      clear HR hy c0 c1
      rintro e w2 ⟨hs2, hk2, (⟨rfl, hJ4⟩ | ⟨rfl, hJ4⟩)⟩
      · have HNX : Hid (AInv b ids S J (k + 1) w2) := Lib.hid ⟨HF.out.1.1.kept hs2 hk2, hJ4⟩
        clear hs2 hk2 hJ4
        gi_wp2
        refine ⟨⟨k + 1, by have := HF.out.2.2; congr 1; omega, by have := HF.out.2.1; omega, HNX⟩, by have := HF.out.2.2; simp [intOf]; omega⟩
      · have HE := Lib.hid (AEnd.mkx (tl := toldI ids) (J := J) (v := .tuple #[]) hJ4)
        clear hs2 hk2 hJ4 HF
        gi_wp2
        go_end0
        exact HE.out
    · have hneg : ¬ (0 : Int) ≤ (n : Int) - 2 - (k : Int) := by omega
      have HE := Lib.hid (AEnd.mk0 (tl := toldI ids) (Jx := Jx) (v := .tuple #[]) hh.out.2 (by rw [toldI_length]; have := HN.out; omega))
      obtain ⟨z, hz⟩ : ∃ z, z = (n : Int) - 2 - (k : Int) := ⟨_, rfl⟩
      rw [← hz] at hneg ⊢
      clear hh hkn hlt hz
      gi_wp2
      go_end0
      exact HE.out
/-- How a round is left. -/
def LeftA (B : Nat) (S : Nat → Prop) (I : Nat → World → Prop) (Ix : Code → World → Prop) (k : Nat) (W : World) (e : Exit) (_ : Act) (V : World) : Prop :=
  KeepsFrom B W V ∧ (∀ y, S y → V.heap[y]? = W.heap[y]?) ∧ ((e = .normal ∧ I (k + 1) V) ∨ (e = .ret ∧ Ix .ret V) ∨ ∃ id, e = .exit id ∧ Ix (.exit id) V)
set_option maxRecDepth 100000 in
theorem range_above {n : Nat} {g : Operand} {ps : Array Tmp} {assign body : Code} {Q : Exit → Act → World → Prop} {a : Act} {w : World} (h1 : 1 ≤ n) {NB : Nat} (hg : a.eval g = .func (.func 43) #[] #[.pointer (some ⟨NB, 0, none⟩)])
    (ids : List Int) (S : Nat → Prop) (hids : IdsAt w NB ids S) (hn : ids.length ≤ 1000000) (hps : ps.size = 1)
    (I : Nat → World → Prop) (Ix : Code → World → Prop)
    (hI : ∀ {k : Nat} {V V' : World}, I k V → Touched V V' (fun x => w.heap.size ≤ x ∧ NonCells V x) → I k V')
    (hIx : ∀ {c : Code} {V V' : World}, Ix c V → Touched V V' (fun x => w.heap.size ≤ x ∧ NonCells V x) → Ix c V')
    (h0 : I 0 w)
    (hround : ∀ (l : Nat), l = w.heap.size + 1 → ∀ (k : Nat) (x : Int) (V : World), w.heap.size + 2 ≤ V.heap.size → (toldI ids)[k]? = some x → I k V →
      ∀ (K : Act → World → Prop), (∀ a₁, (∀ V', (∃ o', V' = V.putObj l o' ∧ ∃ o, V.heap[l]? = some o ∧ o.isCells = false) → body.wpIn (Fence.wide.inRound l) (n - 1 - 1) Try.prog (LeftA w.heap.size S I Ix k V') a₁ V') → K a₁ V) →
        assign.wpIn (Fence.wide.inRound l) (n - 1 - 1) Try.prog (Exit.then K (fun _ _ _ => False)) { tmps := (ps.zip #[.int .i64 x]).foldl (fun t (p, v) => t.setIfInBounds p v) a.tmps, defers := [] } V)
    (hdone : ∀ (D : Nat) (V : World), D = w.heap.size → I (toldI ids).length V → V.heap[D]? = some (.deferred (some [])) → Q .normal { a with defers := { target := .collected D, args := #[] } :: a.defers } V)
    (hstop : ∀ (D : Nat) (c : Code) (V : World), D = w.heap.size → Ix c V → V.heap[D]? = some (.deferred (some [])) → c.wpIn Fence.wide n Try.prog Q { a with defers := { target := .collected D, args := #[] } :: a.defers } V) :
    (Code.rangeFunc g ps assign body).wpIn Fence.wide n Try.prog Q a w := by
  obtain ⟨B, hB⟩ : ∃ B, w.heap.size = B := ⟨_, rfl⟩
  have hSB : ∀ y, S y → y < B := fun y hy => by obtain ⟨_, _, _, _, _, _, h⟩ := hids; have := h y hy; omega
  simp only [hB] at hI hIx hround hdone hstop h0
  refine wpIn_rangeFunc fun fn hfn => ?_
  obtain ⟨rec, hrec⟩ : ∃ rec : LoopState → Option Code → Loop, rec = fun st pe => { state := st, pending := pe, fn, tmps := a.tmps, params := ps, assign, body, defers := B } := ⟨_, rfl⟩
  obtain ⟨W1, hW1⟩ : ∃ W1, W1 = (w.alloc (.deferred (some []))).alloc (.loop (rec .ready none)) := ⟨_, rfl⟩
  have hsz1 : W1.heap.size = B + 2 := by rw [hW1]; simp [hB]
  have hblk : ∀ x, x < B → W1.heap[x]? = w.heap[x]? := fun x hx => by rw [hW1, Below.heap_alloc _ _ _ (by simp; omega), Below.heap_alloc _ _ _ (by omega)]
  have hbk : Book B (rec .ready none) W1 := by
    rw [hW1, ← hB]
    refine ⟨?_, (Below.heap_alloc _ _ _ (by simp)).trans (World.alloc_heap_new w _)⟩
    have := World.alloc_heap_new (w.alloc (.deferred (some []))) (.loop (rec .ready none))
    rwa [World.size_alloc] at this
  have hb1 : Touched w W1 (fun _ => False) := by rw [hW1]; exact ((Touched.refl w _).alloc _).alloc _
  have hI1 : I 0 W1 := hI h0 (hb1.mono (fun _ h => h.elim))
  refine ⟨B + 1, [{ target := .collected B, args := #[] }], W1, { target := .fn (.func 43) #[.pointer (some ⟨NB, 0, none⟩)], args := #[.func (.yield (B + 1)) #[] #[]] }, W1, 43, #[.func (.yield (B + 1)) #[] #[]] ++ #[.pointer (some ⟨NB, 0, none⟩)], W1, ?_, ?_, ?_, ?_, fun _ => h1, ?_⟩
  · rw [hW1, hrec, ← hB]; exact run_enterLoop_outer _ _ _ _ _
  · simp only [resolve, hg]
    simp [go_sem]
  · intro f' hf'; simp [Target.leads] at hf'; subst hf'; exact trivial
  · simp [invoke, go_sem]
  · obtain ⟨J, hJ⟩ : ∃ J : Nat → World → Prop, J = fun k V => I k V ∧ Book B (rec .ready none) V := ⟨_, rfl⟩
    obtain ⟨Jx, hJx⟩ : ∃ Jx : World → Prop, Jx = fun V => ∃ c, Ix c V ∧ Book B (rec .done (some c)) V := ⟨_, rfl⟩
    have hbody : BodyI Try.prog (n - 1 - 1) (B + 1) S (toldI ids) J Jx := by
      subst hJ hJx
      rintro k x V hx hS ⟨j1, j2⟩
      have hr := hround (B + 1) rfl k x V (by have := lt_of_heap j2.1; omega) hx j1
      have hSl : ∀ y, S y → y ≠ B + 1 := fun y hy => by have := hSB y hy; omega
      have hy := run_yield (P := Try.prog) (args := #[.int .i64 x]) j2.1 (by rw [hrec]; exact hps.symm)
      rw [hrec] at hy
      refine ⟨fn, _, assign, body, hy, roundIn_of_wpIn hfn (hr _ fun a₁ hb => ?_)⟩
      refine ⟨_, run_beginRound j2.1 (by rw [hrec]), ?_⟩
      have hb2 : Book B { rec .ready none with state := .busy } (V.putObj (B + 1) (.loop { rec .ready none with state := .busy })) := j2.put
      refine wpIn_mono (hb _ ⟨_, rfl, _, j2.1, rfl⟩) ?_
      rintro e3 a3 U ⟨hkU, hkS, hp⟩
      have hb3 := hb2.kept hkU
      have fin := fun jump => run_endRound (P := Try.prog) jump hb3.1
      rw [hrec] at fin hb3
      have hUs : V.heap.size ≤ U.heap.size := by have := hkU.size; simp [World.putObj] at this; exact this
      have hsz : ∀ o', V.heap.size ≤ (U.putObj (B + 1) o').heap.size := fun o' => by simp [World.putObj]; exact hUs
      have hallS : ∀ o' y, S y → (U.putObj (B + 1) o').heap[y]? = V.heap[y]? := fun o' y hy => by
        rw [World.putObj_heap_other (hSl y hy), hkS y hy, World.putObj_heap_other (hSl y hy)]
      have htp : ∀ o', Touched U (U.putObj (B + 1) o') (fun x => B ≤ x ∧ NonCells U x) := fun o' => (touched_put o' hb3.1).mono (fun x hx => ⟨by omega, by rw [hx]; exact ⟨_, hb3.1, rfl⟩⟩)
      rcases hp with ⟨rfl, hi3⟩ | ⟨rfl, hi3⟩ | ⟨id, rfl, hi3⟩
      · refine ⟨_, _, fin none, hsz _, hallS _, .inl ⟨rfl, hI hi3 (htp _), ?_⟩⟩
        rw [hrec]; exact hb3.put
      · refine ⟨_, _, fin (some .ret), hsz _, hallS _, .inr ⟨rfl, .ret, hIx hi3 (htp _), ?_⟩⟩
        rw [hrec]; exact hb3.put
      · refine ⟨_, _, fin (some (.exit id)), hsz _, hallS _, .inr ⟨rfl, .exit id, hIx hi3 (htp _), ?_⟩⟩
        rw [hrec]; exact hb3.put
    have hstart : J 0 W1 := by rw [hJ]; exact ⟨hI1, hbk⟩
    refine (callsIn_wide.2 (above1_any hbody W1 NB (hids.kept hb1.size (fun y hy => hblk y (hSB y hy))) hn hstart)).mono ?_
    rintro e W2 ⟨⟨v, rfl⟩, hj | hj⟩
    · rw [hJ] at hj
      obtain ⟨hi, hb⟩ := hj
      have := run_endLoop (P := Try.prog) hb.1 (by rw [hrec]; simp)
      rw [hrec] at this
      refine ⟨none, _, this, hdone B _ rfl (hI hi ((touched_put _ hb.1).mono (fun x hx => ⟨by omega, by rw [hx]; exact ⟨_, hb.1, rfl⟩⟩))) ((World.putObj_heap_other (by omega)).trans hb.2)⟩
    · rw [hJx] at hj
      obtain ⟨c, hi, hb⟩ := hj
      have := run_endLoop (P := Try.prog) hb.1 (by rw [hrec]; simp)
      rw [hrec] at this
      exact ⟨some c, _, this, hstop B c _ rfl (hIx hi ((touched_put _ hb.1).mono (fun x hx => ⟨by omega, by rw [hx]; exact ⟨_, hb.1, rfl⟩⟩))) ((World.putObj_heap_other (by omega)).trans hb.2)⟩
end Go.Proofs.Ytjppibomjnmjpaa
