/-
  .
-/
import Derived.Test.YtgkmmnihaiopaaaEEachQa
import Derived.Lib.SliceRun
import Derived.Shelf.Spec.SlicesInsertGrow
import Derived.Test.YtgkmmnihaiopaaaJPgQa
set_option maxRecDepth 100000
set_option maxHeartbeats 40000000
set_option linter.unusedVariables false
set_option linter.unusedSimpArgs false
namespace Go.Proofs.Ytgkmmnihaiopaaa
open Go.RowKit
def Book (B : Nat) (r : Loop) (W : World) : Prop := W.heap[B + 1]? = some (.loop r) ∧ W.heap[B]? = some (.deferred (some []))
theorem Book.put {B : Nat} {r r' : Loop} {W : World} (h : Book B r W) : Book B r' (W.putObj (B + 1) (.loop r')) :=
 ⟨World.putObj_heap_same (Array.getElem?_eq_some_iff.1 h.1).1, (World.putObj_heap_other (by omega)).trans h.2⟩
theorem Book.kept {B : Nat} {r : Loop} {W V : World} (h : Book B r W) (hk : KeepsFrom B W V) : Book B r V := ⟨hk.same _ _ (by omega) h.1 rfl, hk.same _ _ (Nat.le_refl _) h.2 rfl⟩
theorem Book.touched {B : Nat} {r : Loop} {W V : World} {T : Nat → Prop} (h : Book B r W) (ht : zk W V T) (hT : ∀ x, T x → B + 2 ≤ x) : Book B r V :=
 ⟨(ht.block _ (lt_of_heap h.1) (fun e => by have := hT _ e; omega)).trans h.1, (ht.block _ (lt_of_heap h.2) (fun e => by have := hT _ e; omega)).trans h.2⟩
def zS (V : World) (x : Nat) : Prop := ∃ o, V.heap[x]? = some o ∧ o.isCells = false
def zgS (B : Nat) (T : Nat → Prop) (I : (Nat → Prop) → List Seg → World → Prop) (Ix : Code → (Nat → Prop) → World → Prop) (d c b off : Nat) (k r : Fo) (A : List Seg) (W : World) (e : Exit) (_ : Act) (V : World) : Prop :=
 KeepsFrom B W V ∧ Kept T W V ∧ ((e = .normal ∧ ∃ ka kc, V.cell? ⟨b, off + 3, none⟩ = some (.slice ka (foLen k) kc) ∧ foLen k ≤ kc ∧ I T (⟨d + 1, ka, kc, k⟩ :: ⟨d, some ⟨b, off + 4, none⟩, c - 1, r⟩ :: A) V) ∨ (e = .ret ∧ Ix .ret T V) ∨ ∃ id, e = .exit id ∧ Ix (.exit id) T V)
theorem zZ {V : World} {l : Nat} {o : Obj} (o' : Obj) (hl : V.heap[l]? = some o) : zk V (V.putObj l o') (fun x => x = l) :=
 ⟨rfl, rfl, rfl, by simp [World.putObj], fun x _ hn => World.putObj_heap_other hn⟩
theorem zk.mono {w w' : World} {S S' : Nat → Prop} (h : zk w w' S) (hS : ∀ x, S x → S' x) : zk w w' S' := ⟨h.os, h.tape, h.output, h.size, fun x hx hn => h.block x hx (fun hs => hn (hS x hs))⟩
theorem ZX {T : Nat → Prop} {V : World} {l : Nat} (o' : Obj) (hT : ¬ T l) : Kept T V (V.putObj l o') := ⟨by simp [World.putObj], fun x hx => World.putObj_heap_other (fun e => hT (e ▸ hx))⟩
theorem QX {n : Nat} {g : Operand} {ps : Array Tmp} {assign body : Code} {Q : Exit → Act → World → Prop} {a : Act} {w : World} (h1 : 1 ≤ n) {NB : Nat} (hg : a.eval g = .func (.func 73) #[] #[.pointer (some ⟨NB, 0, none⟩)])
 (s : Seg) (hd : s.d = 1) (hne : s.f ≠ .nil) (hcap : foLen s.f ≤ s.cap) (hsz : zg s.f ≤ 500000) (hNB : w.cell? ⟨NB, 0, none⟩ = some s.v) (hps : ps.size = 2)
 (I : (Nat → Prop) → List Seg → World → Prop) (Ix : Code → (Nat → Prop) → World → Prop)
 (hI : ∀ {T T' : Nat → Prop} {A : List Seg} {V V' : World}, I T A V → zk V V' (fun x => T x ∨ (w.heap.size ≤ x ∧ zS V x)) → ve T T' V V' → I T' A V')
 (hIx : ∀ {c : Code} {T T' : Nat → Prop} {V V' : World}, Ix c T V → zk V V' (fun x => T x ∨ (w.heap.size ≤ x ∧ zS V x)) → ve T T' V V' → Ix c T' V')
 (hIe : ∀ {T : Nat → Prop} {A B : List Seg} {d c : Nat} {a : Option Addr} {V : World}, I T (A ++ ⟨d, a, c, .nil⟩ :: B) V → I T (A ++ B) V)
 (h0 : I (fun _ => False) [s] w)
 (hround : ∀ (l : Nat), l = w.heap.size + 1 → ∀ (T : Nat → Prop) (d c bo oo : Nat) (ad : Option Addr) (key : Int × Int × ByteArray) (k r : Fo) (A : List Seg) (V : World), (∀ x, T x → x < V.heap.size ∧ w.heap.size + 2 ≤ x) → w.heap.size + 2 ≤ V.heap.size → I T (⟨d, ad, c, .node bo oo key k r⟩ :: A) V →
   ∃ b off, ad = some ⟨b, off, none⟩ ∧ ∀ (K : Act → World → Prop), (∀ a₁, (∀ V', (∃ o', V' = V.putObj l o' ∧ ∃ o, V.heap[l]? = some o ∧ o.isCells = false) → body.wpIn (Fence.wide.inRound l) (n - 1 - 1) Try.prog (zgS w.heap.size T I Ix d c b off k r A V') a₁ V') → K a₁ V) →
    assign.wpIn (Fence.wide.inRound l) (n - 1 - 1) Try.prog (Exit.then K (fun _ _ _ => False)) { tmps := (ps.zip #[.int .i64 (d : Int), .pointer (some ⟨b, off, none⟩)]).foldl (fun t (p, v) => t.setIfInBounds p v) a.tmps, defers := [] } V)
 (hdone : ∀ (D : Nat) (T : Nat → Prop) (V : World), w.heap.size ≤ D → I T [] V → V.heap[D]? = some (.deferred (some [])) → Q .normal { a with defers := { target := .collected D, args := #[] } :: a.defers } V)
 (hstop : ∀ (D : Nat) (c : Code) (T : Nat → Prop) (V : World), w.heap.size ≤ D → Ix c T V → V.heap[D]? = some (.deferred (some [])) → c.wpIn Fence.wide n Try.prog Q { a with defers := { target := .collected D, args := #[] } :: a.defers } V) :
 (Code.rangeFunc g ps assign body).wpIn Fence.wide n Try.prog Q a w := by
 obtain ⟨B, hB⟩ : ∃ B, w.heap.size = B := ⟨_, rfl⟩
 simp only [hB] at hI hIx hround hdone hstop
 refine wpIn_rangeFunc fun fn hfn => ?_
 obtain ⟨rec, hrec⟩ : ∃ rec : LoopState → Option Code → Loop, rec = fun st pe => { state := st, pending := pe, fn, tmps := a.tmps, params := ps, assign, body, defers := B } := ⟨_, rfl⟩
 obtain ⟨W1, hW1⟩ : ∃ W1, W1 = (w.alloc (.deferred (some []))).alloc (.loop (rec .ready none)) := ⟨_, rfl⟩
 have hsz1 : W1.heap.size = B + 2 := by rw [hW1]; simp [hB]
 have hblk : ∀ x, x < B → W1.heap[x]? = w.heap[x]? := fun x hx => by rw [hW1, Below.heap_alloc _ _ _ (by simp; omega), Below.heap_alloc _ _ _ (by omega)]
 have hbk : Book B (rec .ready none) W1 := by
  rw [hW1, ← hB]
  refine ⟨?_, (Below.heap_alloc _ _ _ (by simp)).trans (World.alloc_heap_new w _)⟩
  have := World.alloc_heap_new (w.alloc (.deferred (some []))) (.loop (rec .ready none))
  rwa [World.size_alloc] at this
 have hb1 : zk w W1 (fun _ => False) := by rw [hW1]; exact ((zk.refl w _).alloc _).alloc _
 have hI1 : I (fun _ => False) [s] W1 := hI h0 (hb1.mono (fun _ h => h.elim)) (fun x hx => Or.inl hx)
 have hNBl := World.block_lt_of_cell? _ _ hNB
 have hNB1 : W1.cell? ⟨NB, 0, none⟩ = some s.v := (World.cell?_of_block (hblk NB (by simp only at hNBl; omega))).trans hNB
 refine ⟨B + 1, [{ target := .collected B, args := #[] }], W1, { target := .fn (.func 73) #[.pointer (some ⟨NB, 0, none⟩)], args := #[.func (.yield (B + 1)) #[] #[]] }, W1, 73, #[.func (.yield (B + 1)) #[] #[]] ++ #[.pointer (some ⟨NB, 0, none⟩)], W1, ?_, ?_, ?_, ?_, fun _ => h1, ?_⟩
 · rw [hW1, hrec, ← hB]; exact run_enterLoop_outer _ _ _ _ _
 · simp only [resolve, hg]
   simp [go_sem]
 · intro f' hf'; simp [Target.leads] at hf'; subst hf'; exact trivial
 · simp [invoke, go_sem]
 · obtain ⟨J, hJ⟩ : ∃ J : (Nat → Prop) → List Seg → World → Prop, J = fun T A V => I T A V ∧ Book B (rec .ready none) V ∧ ∀ x, T x → B + 2 ≤ x := ⟨_, rfl⟩
   obtain ⟨Jx, hJx⟩ : ∃ Jx : (Nat → Prop) → World → Prop, Jx = fun T V => ∃ c, Ix c T V ∧ Book B (rec .done (some c)) V ∧ ∀ x, T x → B + 2 ≤ x := ⟨_, rfl⟩
   have hbody : Body Try.prog (n - 1 - 1) (B + 1) J Jx := by
    subst hJ hJx
    refine ⟨?_, ?_, ?_, ?_⟩
    · rintro T T' A V V' ⟨j1, j2, j3⟩ ht hw
      have hs := lt_of_heap j2.1
      exact ⟨hI j1 (ht.mono (fun x hx => Or.inl hx)) hw, j2.touched ht j3, fun x hx => (hw x hx).elim (j3 x) (fun h => by omega)⟩
    · rintro T T' V V' ⟨c, j1, j2, j3⟩ ht hw
      have hs := lt_of_heap j2.1
      exact ⟨c, hIx j1 (ht.mono (fun x hx => Or.inl hx)) hw, j2.touched ht j3, fun x hx => (hw x hx).elim (j3 x) (fun h => by omega)⟩
    · rintro T A A' d c ad V ⟨j1, j2⟩
      exact ⟨hIe j1, j2⟩
    · rintro T d c bo oo ad key k r A V hT ⟨j1, j2, j3⟩
      obtain ⟨b, off, e, hr⟩ := hround (B + 1) rfl T d c bo oo ad key k r A V (fun x hx => ⟨hT x hx, j3 x hx⟩) (by have := lt_of_heap j2.1; omega) j1
      refine ⟨b, off, e, ?_⟩
      have hTl : ¬ T (B + 1) := fun h => by have := j3 _ h; omega
      have hy := run_yield (P := Try.prog) (args := #[.int .i64 (d : Int), .pointer (some ⟨b, off, none⟩)]) j2.1 (by rw [hrec]; exact hps.symm)
      rw [hrec] at hy
      refine ⟨fn, _, assign, body, hy, roundIn_of_wpIn hfn (hr _ fun a₁ hb => ?_)⟩
      refine ⟨_, run_beginRound j2.1 (by rw [hrec]), ?_⟩
      have hb2 : Book B { rec .ready none with state := .busy } (V.putObj (B + 1) (.loop { rec .ready none with state := .busy })) := j2.put
      refine wpIn_mono (hb _ ⟨_, rfl, _, j2.1, rfl⟩) ?_
      rintro e3 a3 U ⟨hkU, hkT, hp⟩
      have hb3 := hb2.kept hkU
      have fin := fun jump => run_endRound (P := Try.prog) jump hb3.1
      rw [hrec] at fin hb3
      have hall : ∀ o', Kept T V (U.putObj (B + 1) o') := fun o' => ((ZX _ hTl).trans hkT).trans (ZX _ hTl)
      have htp : ∀ o', zk U (U.putObj (B + 1) o') (fun x => T x ∨ (B ≤ x ∧ zS U x)) := fun o' => (zZ o' hb3.1).mono (fun x hx => Or.inr ⟨by omega, by rw [hx]; exact ⟨_, hb3.1, rfl⟩⟩)
      rcases hp with ⟨rfl, ka, kc, c1, c2, hi3⟩ | ⟨rfl, hi3⟩ | ⟨id, rfl, hi3⟩
      · refine ⟨_, _, fin none, hall _, .inl ⟨rfl, ka, kc, ?_, c2, hI hi3 (htp _) (fun x hx => Or.inl hx), ?_, j3⟩⟩
        · refine (World.cell?_of_block (World.putObj_heap_other fun e4 => ?_)).trans c1
          have h5 : U.cell? ⟨B + 1, off + 3, none⟩ = none := by simp [World.cell?, hb3.1]
          simp only at e4
          rw [e4, h5] at c1; cases c1
        · rw [hrec]; exact hb3.put
      · refine ⟨_, _, fin (some .ret), hall _, .inr ⟨rfl, .ret, hIx hi3 (htp _) (fun x hx => Or.inl hx), ?_, j3⟩⟩
        rw [hrec]; exact hb3.put
      · refine ⟨_, _, fin (some (.exit id)), hall _, .inr ⟨rfl, .exit id, hIx hi3 (htp _) (fun x hx => Or.inl hx), ?_, j3⟩⟩
        rw [hrec]; exact hb3.put
   have hstart : J (fun _ => False) [s] W1 := by rw [hJ]; exact ⟨hI1, hbk, fun _ h => h.elim⟩
   refine (callsIn_wide.2 (zeW hbody W1 NB s hd hne hcap hsz hNB1 hstart)).mono ?_
   rintro e W2 ⟨⟨v, rfl⟩, (⟨T, hj⟩ | ⟨T, hj⟩)⟩
   · rw [hJ] at hj
     obtain ⟨hi, hb, hT⟩ := hj
     have := run_endLoop (P := Try.prog) hb.1 (by rw [hrec]; simp)
     rw [hrec] at this
     refine ⟨none, _, this, hdone B T _ (Nat.le_refl _) (hI hi ((zZ _ hb.1).mono (fun x hx => Or.inr ⟨by omega, by rw [hx]; exact ⟨_, hb.1, rfl⟩⟩)) (fun x hx => Or.inl hx)) ((World.putObj_heap_other (by omega)).trans hb.2)⟩
   · rw [hJx] at hj
     obtain ⟨c, hi, hb, hT⟩ := hj
     have := run_endLoop (P := Try.prog) hb.1 (by rw [hrec]; simp)
     rw [hrec] at this
     exact ⟨some c, _, this, hstop B c T _ (Nat.le_refl _) (hIx hi ((zZ _ hb.1).mono (fun x hx => Or.inr ⟨by omega, by rw [hx]; exact ⟨_, hb.1, rfl⟩⟩)) (fun x hx => Or.inl hx)) ((World.putObj_heap_other (by omega)).trans hb.2)⟩
theorem Y4 (w : World) (a : Option Addr) (n c : Nat) : Calls Try.prog 48 #[.slice a n c] w fun e w' => e = .returned (.func (.func 73) #[] #[.pointer (some ⟨w.heap.size, 0, none⟩)]) ∧ w' = w.alloc (.cells #[.slice a n c] 25) := by
 have hmf : ∀ (fn : Fn) (first cap : Array Value) (w : World), (Instr.makeFunc fn first cap).run Try.prog w = .ok (.func fn first cap) w := fun _ _ _ _ => rfl
 go_enter Try.func48, Try.ntmps48
 go_wp2_with fail
 go_ret
 exact ⟨rfl, rfl⟩
theorem Try.za2 : (Try.prog.info? 27).map (fun i => (i.size, i.bytes, i.zero.map (fun z => z.cells.size))) = some (4, 56, some 4) := by kernel_rfl
def zgk (w : World) (t : TypeId) (size n : Nat) (xs : List Value) (e : Ending) (w' : World) : Prop := ∃ v', e = .returned v' ∧ Below w.heap.size w w' ∧ w'.ownsRow w.heap.size t size v' n xs
theorem Try.zdO (w : World) (a : Option Addr) (n c : Nat) : (binOp .eql 25 (.slice a n c) (.slice none 0 0)).run Try.prog w = .ok (.bool a.isNone) w := Lib.run_eql_slice_nil w _ _ a n c 0 0 Try.underlying25
theorem kD (w : World) (a : Option Addr) (n cap : Nat) (xs : List Value) (hl : xs.length = n * 4) (h1 : ∀ u ∈ xs, u.oneCell' = true) (hn : n ≤ 1000000) (hc : ∀ ad, a = some ad → ∀ j u, xs[j]? = some u → w.cell? (ad.add j) = some u) (h0 : a = none → n = 0) :
 Calls Try.prog 57 #[.slice a n cap] w (zgk w 27 4 n xs) := by
 have hq := Try.zdO
 cases a with
 | none =>
   have hn0 := h0 rfl
   subst hn0
   have hx : xs = [] := List.eq_nil_of_length_eq_zero (by simpa using hl)
   subst hx
   clear hl h1 hn hc h0
   go_enter Try.func57, Try.ntmps57
   go_wp2_with fail
   go_ret
   exact ⟨_, rfl, Below.refl _ _, World.ownsRow_nil _ _ _ _⟩
 | some ad =>
   have HC := hH (aN hl (aN h1 (hc ad rfl)))
   obtain ⟨i0, z0, hi0, hz0, hz1, hz2, hz3⟩ := yT Try.za2
   have HI := hH (aN hi0 (aN hz0 (aN hz1 (aN hz2 hz3))))
   clear hl h1 hc h0 hi0 hz0 hz1 hz2 hz3
   go_enter Try.func57, Try.ntmps57
   go_wp2_with (at_builtin; refine wpList_append_own_at _ rfl (.tmp 5) (.tmp 6) _ rfl w.heap.size 27 i0 z0 4 56 Try.underlying25 HI.out.1 HI.out.2.1 HI.out.2.2.1 HI.out.2.2.2.1 HI.out.2.2.2.2 (by omega) (.slice (some ⟨w.heap.size, 0, none⟩) 0 0) 0 [] rfl (World.ownsRow_made w #[] 0 (Nat.le_refl _) (by unfold maxLen; omega) rfl) ad n cap xs rfl HC.out.1 (fun j u hj => Lib.cell?_alloc_some _ (HC.out.2.2 j u hj)) HC.out.2.1 (by unfold maxLen; omega) (by omega) (by simp) ?_; intro v' w1 hown hgrow _ hat)
   go_ret
   have hs := hgrow.size
   rw [World.size_alloc] at hs
   exact ⟨_, rfl, ⟨hgrow.os, hgrow.tape, hgrow.output, by omega, fun x hx => by
    rw [hgrow.block x (by rw [World.size_alloc]; omega) (by simp [Value.ownBlock]; omega), Below.heap_alloc _ _ _ hx]⟩, by rw [Nat.zero_add, List.nil_append] at hown; exact hown⟩
end Go.Proofs.Ytgkmmnihaiopaaa
namespace Go.Proofs.Ytgkmmnihaiopaaa
open Go.RowKit Go.Lib
theorem yG {b : Nat} {t : TypeId} : ∀ (vs pre mid post : List Value) (w : World), w.heap[b]? = some (.cells (pre ++ (mid ++ post)).toArray t (0, 0)) → mid.length = vs.length →
 (w.setCells b pre.length vs).heap[b]? = some (.cells (pre ++ (vs ++ post)).toArray t (0, 0))
 | [], pre, mid, post, w, h, hl => by
   have : mid = [] := List.eq_nil_of_length_eq_zero (by simpa using hl)
   subst this
   exact h
 | v :: r, pre, [], post, w, h, hl => by simp at hl
 | v :: r, pre, p :: ps, post, w, h, hl => by
   have h1 := heap_setCell_same w b pre.length _ _ v h
   have e : ((pre ++ (p :: ps ++ post)).toArray.setIfInBounds pre.length v) = ((pre ++ [v]) ++ (ps ++ post)).toArray := by simp
   rw [e] at h1
   have := yG r (pre ++ [v]) ps post (w.setCell ⟨b, pre.length, none⟩ v) h1 (by simpa using hl)
   rw [List.length_append, List.append_assoc] at this
   exact this
theorem yH {b : Nat} : ∀ (vs : List Value) (o : Nat) (w : World), (w.setCells b o vs).heap.size = w.heap.size ∧ (w.setCells b o vs).os = w.os ∧ (w.setCells b o vs).tape = w.tape ∧ (w.setCells b o vs).output = w.output ∧ ∀ y, y ≠ b → (w.setCells b o vs).heap[y]? = w.heap[y]?
 | [], o, w => ⟨rfl, rfl, rfl, rfl, fun _ _ => rfl⟩
 | v :: r, o, w => by
   obtain ⟨h1, h2, h3, h4, h5⟩ := yH r (o + 1) (w.setCell ⟨b, o, none⟩ v)
   exact ⟨h1.trans (by simp [World.setCell]), h2, h3, h4, fun y hy => (h5 y hy).trans (Below.heap_setCell _ _ _ _ hy)⟩
theorem qi {w : World} {g : Nat} {cs : List Value} {t : TypeId} (hg : w.heap[g]? = some (.cells cs.toArray t (0, 0))) {j : Nat} (h : j < cs.length) : (w.cell? ⟨g, j, none⟩).isSome = true ∧ w.frozen? ⟨g, j, none⟩ = false := ⟨by
 rw [cell_of_row w _ _ _ _ _ hg, List.getElem?_toArray, List.getElem?_eq_getElem h]; rfl, frozen_of_row w _ _ _ _ hg⟩
theorem vN {w : World} {g : Nat} {cs : List Value} {t : TypeId} (hg : w.heap[g]? = some (.cells cs.toArray t (0, 0))) (j : Nat) : w.cell? ⟨g, j, none⟩ = cs[j]? := by
 rw [cell_of_row w _ _ _ _ _ hg, List.getElem?_toArray]
theorem qY {P : Program} (w : World) (dT sT ty elem : TypeId) (sz b o dLen dCap : Nat) (a : Addr) (sLen sCap m : Nat) (cs : List Value)
 (hu : P.underlying dT = some (.slice elem)) (hs : (P.info? elem).map (·.size) = some sz) (hn : m = Nat.min sLen dLen) (hm : cs.length = m * sz)
 (hsrc : ∀ j v, cs[j]? = some v → w.cell? (a.add j) = some v) (hc : ∀ j, j < cs.length → (w.cell? ⟨b, o + j, none⟩).isSome = true) (hf : ∀ j, j < cs.length → w.frozen? ⟨b, o + j, none⟩ = false) (h1 : ∀ v ∈ cs, v.oneCell' = true) :
 (Builtin.copy_ #[dT, sT] ty #[.slice (some ⟨b, o, none⟩) dLen dCap, .slice (some a) sLen sCap]).run P w = .ok (goInt m) (w.setCells b o cs) := by
 have hl := run_loadCells_list (P := P) w a cs hsrc
 have hst := run_storeCells_cells (P := P) b o cs 0 w (by simpa using hc) (by simpa using hf) h1
 cases hq : P.info? elem with
 | none => simp [hq] at hs
 | some i =>
   have hi : i.size = sz := by simpa [hq] using hs
   simp [Builtin.copy_, run_underlying hu, Builtin.lenOf, Builtin.firstCells, sizeOf, typeInfo, hq, hi, ← hn, ← hm, hl, hst]
theorem Zx {w : World} {B g n cap : Nat} {xs : List Value} (h : w.ownsRow B 27 4 (.slice (some ⟨g, 0, none⟩) n cap) n xs) :
 ∃ sp, w.heap[g]? = some (.cells (xs ++ sp).toArray 27 (0, 0)) ∧ n ≤ cap ∧ cap ≤ maxLen ∧ (xs ++ sp).length = cap * 4 ∧ B ≤ g := by
 rcases h.2 with ⟨h', _⟩ | ⟨g', cap', cur, h', hb, hg, hnc, hcm, hcs, htake⟩
 · simp at h'
 · simp only [Value.slice.injEq, Option.some.injEq, Addr.mk.injEq, and_true, true_and] at h'
   obtain ⟨rfl, rfl⟩ := h'
   have e : xs ++ cur.toList.drop (n * 4) = cur.toList := by rw [← htake, List.take_append_drop]
   refine ⟨cur.toList.drop (n * 4), ?_, hnc, hcm, ?_, hb⟩
   · rw [e]; simpa using hg
   · rw [e]; simpa using hcs
theorem Yt {w : World} {B g n cap : Nat} {xs sp : List Value} (hx : xs.length = n * 4) (hg : w.heap[g]? = some (.cells (xs ++ sp).toArray 27 (0, 0))) (hn : n ≤ cap) (hm : cap ≤ maxLen) (hs : (xs ++ sp).length = cap * 4) (hB : B ≤ g) :
 w.ownsRow B 27 4 (.slice (some ⟨g, 0, none⟩) n cap) n xs :=
 ⟨hx, .inr ⟨g, cap, _, rfl, hB, hg, hn, hm, by simpa using hs, by rw [← hx]; simp⟩⟩
def zbS (w : World) (B : Nat) (ob : Option Nat) (n : Nat) (ys : List Value) (e : Ending) (w' : World) : Prop := ∃ v', e = .returned v' ∧ w'.ownsRow B 27 4 v' n ys ∧ w.grownBy w' ob
theorem jZ (z : Array Value) (n : Nat) : (Builtin.zeroCells z n).toList.length = n * z.size := by simp [Builtin.zeroCells]
theorem zfT (w : World) (B n vb : Nat) (sv : Value) (xs vs : List Value) (h : w.ownsRow B 27 4 sv n xs) (hB : B ≤ w.heap.size) (hn : n ≤ 1000000) (hv : w.heap[vb]? = some (.cells vs.toArray 27 (0, 0))) (hvl : vs.length = 4) (h1v : ∀ v ∈ vs, v.oneCell' = true) :
 Calls Try.prog 108 #[sv, .int .i64 n, .slice (some ⟨vb, 0, none⟩) 1 1] w (zbS w B sv.ownBlock (n + 1) (xs ++ vs)) := by
 obtain ⟨a, cap, rfl⟩ := zu h
 obtain ⟨i0, z0, hi0, hz0, hz1, hz2, hz3⟩ := yT Try.za2
 have hcap : n ≤ cap ∧ cap ≤ 9223372036854775807 := by
  rcases h.2 with ⟨h', h0⟩ | ⟨g', cap', cur, h', hb, hg, hnc, hcm, hcs, htake⟩
  · simp only [Value.slice.injEq] at h'; omega
  · simp only [Value.slice.injEq] at h'; unfold maxLen at hcm; omega
 have hcap1 := hcap.1
 have mixed : Try.prog.follows .mixedOrders = true := by kernel_rfl
 obtain ⟨ob, hob⟩ : ∃ ob, ob = (Value.slice a n cap).ownBlock := ⟨_, rfl⟩
 rw [← hob]
 have HOB := hH hob
 have HI := hH (aN hi0 (aN hz0 (aN hz1 (aN hz2 hz3))))
 have HO := hH (aN h hB)
 have HV := hH (aN hvl (aN (fun j u (hj : vs[j]? = some u) => (show w.cell? ((⟨vb, 0, none⟩ : Addr).add j) = some u by rw [Addr.add_mid, Nat.zero_add, vN hv]; exact hj)) h1v))
 clear h hB hi0 hz0 hz1 hz2 hz3 hcap hv hvl h1v hob
 go_enter Try.func108, Try.ntmps108
 go_wp2_with (at_builtin; refine wpList_append_own_at _ rfl (.tmp 23) (.tmp 24) _ rfl B 27 i0 z0 4 56 Try.underlying25 HI.out.1 HI.out.2.1 HI.out.2.2.1 HI.out.2.2.2.1 HI.out.2.2.2.2 (by omega) (.slice a n cap) n xs rfl HO.out.1 ⟨vb, 0, none⟩ 1 1 vs rfl (by rw [HV.out.1]) HV.out.2.1 HV.out.2.2 (by unfold maxLen; omega) (by omega) HO.out.2 ?_; intro v' w1 hown hgrow hnil hat)
 all_goals (go_ret; rw [← HOB.out] at hgrow; exact ⟨_, rfl, hown, hgrow⟩)
theorem zdD (w : World) (B g n cap i vb : Nat) (xs vs : List Value) (h : w.ownsRow B 27 4 (.slice (some ⟨g, 0, none⟩) n cap) n xs) (hi : i < n) (hroom : n + 1 ≤ cap) (hv : w.heap[vb]? = some (.cells vs.toArray 27 (0, 0))) (hvl : vs.length = 4) (h1v : ∀ v ∈ vs, v.oneCell' = true) (h1x : ∀ v ∈ xs, v.oneCell' = true) (hvg : vb ≠ g) :
 Calls Try.prog 108 #[.slice (some ⟨g, 0, none⟩) n cap, .int .i64 i, .slice (some ⟨vb, 0, none⟩) 1 1] w (zbS w B (some g) (n + 1) (xs.take (i * 4) ++ vs ++ xs.drop (i * 4))) := by
 obtain ⟨sp, s1, s2, s3, s4, s5⟩ := Zx h
 have hxl := h.1
 obtain ⟨i0, z0, hi0, hz0, hzs, hz2, hz3⟩ := yT Try.za2
 have hsz : (Try.prog.info? 27).map (·.size) = some 4 := by rw [hi0]; simp [hzs]
 have hc63 : cap ≤ 9223372036854775807 := by unfold maxLen at s3; omega
 obtain ⟨A, hA⟩ : ∃ A, A = xs.take (i * 4) := ⟨_, rfl⟩
 obtain ⟨D, hD⟩ : ∃ D, D = xs.drop (i * 4) := ⟨_, rfl⟩
 have hAl : A.length = i * 4 := by rw [hA, List.length_take]; omega
 have hDl : D.length = (n - i) * 4 := by rw [hD, List.length_drop]; omega
 have hxAD : xs = A ++ D := by rw [hA, hD, List.take_append_drop]
 have h1D : ∀ v ∈ D, v.oneCell' = true := fun v hv => h1x v (by rw [hxAD]; exact List.mem_append_right _ hv)
 rw [← hA, ← hD]
 rw [hxAD] at s1 s4
 have hDsl : (D ++ sp).length = (cap - i) * 4 := by simp only [List.length_append] at s4 ⊢; omega
 obtain ⟨W1, hW1⟩ : ∃ W1, W1 = w.drew.setCells g ((i + 1) * 4) D := ⟨_, rfl⟩
 have hb1 : W1.heap[g]? = some (.cells (A ++ ((D ++ sp).take 4 ++ (D ++ ((D ++ sp).drop 4).drop D.length))).toArray 27 (0, 0)) := by
  have := yG D (A ++ (D ++ sp).take 4) (((D ++ sp).drop 4).take D.length) (((D ++ sp).drop 4).drop D.length) w.drew (b := g) (t := 27) (by rw [List.take_append_drop, List.append_assoc, List.take_append_drop, ← List.append_assoc]; exact s1) (by rw [List.length_take, List.length_drop, hDsl, hDl]; omega)
  rw [hW1, show (i + 1) * 4 = (A ++ (D ++ sp).take 4).length by rw [List.length_append, hAl, List.length_take, hDsl]; omega]
  rw [List.append_assoc] at this
  exact this
 obtain ⟨R, hR⟩ : ∃ R, R = ((D ++ sp).drop 4).drop D.length := ⟨_, rfl⟩
 rw [← hR] at hb1
 have hRl : R.length = (cap - n - 1) * 4 := by rw [hR, List.length_drop, List.length_drop, hDsl, hDl]; omega
 obtain ⟨W2, hW2⟩ : ∃ W2, W2 = W1.setCells g (i * 4) vs := ⟨_, rfl⟩
 have hb2 : W2.heap[g]? = some (.cells ((A ++ vs ++ D) ++ R).toArray 27 (0, 0)) := by
  have := yG vs A ((D ++ sp).take 4) (D ++ R) W1 (b := g) (t := 27) hb1 (by rw [List.length_take, hDsl, hvl]; omega)
  rw [hW2, ← hAl, List.append_assoc, List.append_assoc]
  exact this
 have hf1 := yH (b := g) D ((i + 1) * 4) w.drew
 have hf2 := yH (b := g) vs (i * 4) W1
 rw [← hW1] at hf1
 rw [← hW2] at hf2
 have hlt : g < w.heap.size := lt_of_heap s1
 have HEND : Hid (zbS w B (some g) (n + 1) (A ++ vs ++ D) (.returned (.slice (some ⟨g, 0, none⟩) (n + 1) cap)) W2) := hH
  ⟨_, rfl, Yt (by simp only [List.length_append, hAl, hvl, hDl]; omega) hb2 hroom s3 (by simp only [List.length_append, hAl, hvl, hDl, hRl]; omega) s5,
   { os := hf2.2.1.trans hf1.2.1, tape := hf2.2.2.1.trans hf1.2.2.1, output := hf2.2.2.2.1.trans hf1.2.2.2.1, size := by rw [hf2.1, hf1.1]; exact Nat.le_refl _, block := fun y hy hn => by
      have hyg : y ≠ g := fun e => hn (by rw [e])
      rw [hf2.2.2.2.2 y hyg, hf1.2.2.2.2 y hyg]; rfl }⟩
 have hz2 : ¬ ((i : Int) = (n : Int)) := by omega
 have hv4 : vs.length = 4 := hvl
 have hov : ∀ lb cb, (callFunc 120 #[.slice (some ⟨vb, 0, none⟩) 1 1, .slice (some ⟨g, (i + 1) * 4, none⟩) lb cb]).run Try.prog w = .ok (.value (.bool false)) w := fun lb cb => by
  rw [run_callFunc_extern Try.func120 (by kernel_rfl) (by kernel_rfl) (by kernel_rfl) (e := Extern.SlicesOverlaps.overlaps #[25, 25] #[4]) (by kernel_rfl),
   Lib.run_overlaps_apart w 25 4 27 Try.underlying25 4 (fun w => by simp [sizeOf, typeInfo, hi0, hzs]) ⟨vb, 0, none⟩ ⟨g, (i + 1) * 4, none⟩ 1 1 lb cb hvg 27 27 vs.length (A ++ D ++ sp).length (by unfold World.shape?; rw [hv]; simp) (by unfold World.shape?; rw [s1]; simp) (by rw [s4]; omega) (frozen_of_row w _ _ _ _ hv) (frozen_of_row w _ _ _ _ hv)]
  rfl
 have hcp1 : ∀ ty dc sc, (Builtin.copy_ #[25, 25] ty #[.slice (some ⟨g, (i + 1) * 4, none⟩) (n - i) dc, .slice (some ⟨g, i * 4, none⟩) (n + 1 - i) sc]).run Try.prog w.drew = .ok (goInt ((n - i : Nat) : Int)) W1 := fun ty dc sc => by
  rw [hW1]
  exact qY w.drew 25 25 ty 27 4 g ((i + 1) * 4) (n - i) dc ⟨g, i * 4, none⟩ (n + 1 - i) sc (n - i) D Try.underlying25 hsz (by simp only [Nat.min_def]; split <;> omega) hDl
   (fun j v hj => by
     rw [Addr.add_mid]
     show w.cell? _ = _
     rw [vN s1, List.append_assoc, List.getElem?_append_right (by omega), hAl, show i * 4 + j - i * 4 = j by omega, List.getElem?_append_left (List.getElem?_eq_some_iff.1 hj).1]
     exact hj)
   (fun j hj => (qi (w := w.drew) s1 (by rw [s4]; rw [hDl] at hj; omega)).1) (fun j hj => (qi (w := w.drew) s1 (j := (i + 1) * 4 + j) (by rw [s4]; rw [hDl] at hj; omega)).2) h1D
 have hvW : W1.heap[vb]? = some (.cells vs.toArray 27 (0, 0)) := (hf1.2.2.2.2 vb hvg).trans hv
 have hcp2 : ∀ ty dc, (Builtin.copy_ #[25, 25] ty #[.slice (some ⟨g, i * 4, none⟩) (n + 1 - i) dc, .slice (some ⟨vb, 0, none⟩) 1 1]).run Try.prog W1 = .ok (goInt 1) W2 := fun ty dc => by
  rw [hW2]
  exact qY W1 25 25 ty 27 4 g (i * 4) (n + 1 - i) dc ⟨vb, 0, none⟩ 1 1 1 vs Try.underlying25 hsz (by simp only [Nat.min_def]; split <;> omega) (by omega)
   (fun j v hj => by rw [Addr.add_mid, Nat.zero_add, vN hvW]; exact hj)
   (fun j hj => (qi hb1 (by simp only [List.length_append, hAl, List.length_take, hDsl, hDl, hRl]; omega)).1) (fun j hj => (qi hb1 (j := i * 4 + j) (by simp only [List.length_append, hAl, List.length_take, hDsl, hDl, hRl]; omega)).2) h1v
 have hw1 : IntKind.i64.wrap ((i : Int) + 1) = (i : Int) + 1 := by rw [IntKind.wrap_i64]; omega
 have hb1' : (0 : Int) ≤ (i : Int) + 1 := by omega
 have hin : i ≤ n := by omega
 have htn : ((i : Int) + 1).toNat = i + 1 := by omega
 have hb2' : ¬ (cap = i + 1) := by omega
 have hb3 : (i : Int) ≤ (n : Int) + 1 := by omega
 have hb4 : ¬ (cap = i) := by omega
 have HCP := hH (aN hcp1 hcp2)
 have mixed : Try.prog.follows .mixedOrders = true := by kernel_rfl
 clear h s1 s2 s3 s4 s5 hxl hA hD hAl hDl hxAD h1D hDsl hW1 hb1 hR hRl hW2 hb2 hf1 hf2 hlt hvW hcp1 hcp2 hv hvl h1v h1x hvg hv4 hi0 hz0 hzs hz2 hz3 hsz
 have hz2 : ¬ ((i : Int) = (n : Int)) := by omega
 go_enter Try.func108, Try.ntmps108
 go_wp2_with (simp only [hov])
 go_region_law_o (refine step_copy_runI rfl _ _ 25 25 rfl (.slice (some ⟨g, (i + 1) * 4, none⟩) (n - i) (cap - (i + 1))) (.slice (some ⟨g, i * 4, none⟩) (n + 1 - i) (cap - i)) (by simp [Act.eval, Act.put]) (by simp [Act.eval, Act.put]) (HCP.out.1 3 (cap - (i + 1)) (cap - i)) ?_)
 have hc2 := HCP.out.2 3 (cap - i)
 go_wp2_with fail
 go_ret
 exact HEND.out
theorem zfe (w : World) (B g n cap i vb : Nat) (xs vs : List Value) (h : w.ownsRow B 27 4 (.slice (some ⟨g, 0, none⟩) n cap) n xs) (hB : B ≤ w.heap.size) (hi : i < n) (hn6 : n ≤ 1000000) (hroom : cap < n + 1) (hv : w.heap[vb]? = some (.cells vs.toArray 27 (0, 0))) (hvl : vs.length = 4) (h1v : ∀ v ∈ vs, v.oneCell' = true) (h1x : ∀ v ∈ xs, v.oneCell' = true) :
 Calls Try.prog 108 #[.slice (some ⟨g, 0, none⟩) n cap, .int .i64 i, .slice (some ⟨vb, 0, none⟩) 1 1] w (zbS w B (some g) (n + 1) (xs.take (i * 4) ++ vs ++ xs.drop (i * 4))) := by
 obtain ⟨sp, s1, s2, s3, s4, s5⟩ := Zx h
 have hxl := h.1
 obtain ⟨i0, z0, hi0, hz0, hzs, hzb, hz3⟩ := yT Try.za2
 have hsz : (Try.prog.info? 27).map (·.size) = some 4 := by rw [hi0]; simp [hzs]
 obtain ⟨A, hA⟩ : ∃ A, A = xs.take (i * 4) := ⟨_, rfl⟩
 obtain ⟨D, hD⟩ : ∃ D, D = xs.drop (i * 4) := ⟨_, rfl⟩
 have hAl : A.length = i * 4 := by rw [hA, List.length_take]; omega
 have hDl : D.length = (n - i) * 4 := by rw [hD, List.length_drop]; omega
 have hxAD : xs = A ++ D := by rw [hA, hD, List.take_append_drop]
 have h1D : ∀ v ∈ D, v.oneCell' = true := fun v hv => h1x v (by rw [hxAD]; exact List.mem_append_right _ hv)
 rw [← hA, ← hD]
 rw [hxAD] at s1 s4
 have hglt : g < w.heap.size := lt_of_heap s1
 have hvlt : vb < w.heap.size := lt_of_heap hv
 have hik : i + (n + 1 - i) = n + 1 := by omega
 have hkk : (n : Int) + 1 - (i : Int) = ((n + 1 - i : Nat) : Int) := by omega
 have hold : (Builtin.firstCells i0.size i (.slice (some ⟨g, 0, none⟩) i cap)).run Try.prog w.drew = .ok A.toArray w.drew := by
  rw [hzs]
  exact run_firstCells_some w.drew 4 i ⟨g, 0, none⟩ i cap A (by rw [hAl]) (fun j v hj => by
   rw [Addr.add_mid, Nat.zero_add]
   show w.cell? _ = _
   rw [vN s1, List.append_assoc, List.getElem?_append_left (List.getElem?_eq_some_iff.1 hj).1]
   exact hj)
 obtain ⟨G, hG⟩ : ∃ G, G = grownCap w (n + 1) cap 27 := ⟨_, rfl⟩
 obtain ⟨Z1, hZ1⟩ : ∃ Z, Z = (Builtin.zeroCells z0.cells (n + 1 - i)).toList := ⟨_, rfl⟩
 obtain ⟨Z2, hZ2⟩ : ∃ Z, Z = (Builtin.zeroCells z0.cells (G - (n + 1))).toList := ⟨_, rfl⟩
 have hGn : n + 1 ≤ G := by rw [hG]; exact grownCap_ge w _ _ _
 have hG63 : G ≤ maxLen := by rw [hG]; exact grownCap_le_maxLen w (n + 1) cap 27 (by unfold maxLen; omega)
 have hZ1l : Z1.length = (n + 1 - i) * 4 := by rw [hZ1, jZ, hz3]
 have hZ2l : Z2.length = (G - (n + 1)) * 4 := by rw [hZ2, jZ, hz3]
 have hrow : A.toArray ++ Builtin.zeroCells z0.cells (n + 1 - i) ++ Builtin.zeroCells z0.cells (G - (n + 1)) = (A ++ (Z1 ++ Z2)).toArray := by
  apply Array.ext'
  rw [hZ1, hZ2]
  simp
 obtain ⟨W1, hW1⟩ : ∃ W1, W1 = w.drew.alloc (.cells (A ++ (Z1 ++ Z2)).toArray 27) := ⟨_, rfl⟩
 have hrz : ∀ ty, (Builtin.append_ #[25, 3] ty #[.slice (some ⟨g, 0, none⟩) i cap, .int .i64 ((n : Int) + 1 - (i : Int))]).run Try.prog w = .ok (.slice (some ⟨w.heap.size, 0, none⟩) (n + 1) G) W1 := fun ty => by
  have h := Lib.run_append_grow_zeros w 25 3 ty 27 i0 _ .i64 .i64 Try.underlying25 Try.underlying3 hi0 hz0 (some ⟨g, 0, none⟩) i cap A hold (n + 1 - i) (by omega) (by omega) (by omega) (by omega) (by rw [hzb]; omega) (by rw [hzb, hik]; exact growslice_fits hroom (by omega))
  rw [hik] at h
  rw [hkk, hW1, ← hrow, hG]
  exact h
 have hN : W1.heap[w.heap.size]? = some (.cells (A ++ (Z1 ++ Z2)).toArray 27 (0, 0)) := by rw [hW1]; exact heap_alloc_new w.drew _
 have hbW : Below w.heap.size w W1 := by
  rw [hW1]
  have h := (Below.refl w.drew.heap.size w.drew).alloc (Nat.le_refl _) (.cells (A ++ (Z1 ++ Z2)).toArray 27)
  exact ⟨h.os, h.tape, h.output, h.size, h.block⟩
 have hgN : g ≠ w.heap.size := by omega
 have hvN : vb ≠ w.heap.size := by omega
 obtain ⟨W2, hW2⟩ : ∃ W2, W2 = W1.setCells w.heap.size (i * 4) vs := ⟨_, rfl⟩
 have hb2 : W2.heap[w.heap.size]? = some (.cells ((A ++ vs) ++ ((Z1 ++ Z2).drop 4)).toArray 27 (0, 0)) := by
  have := yG vs A ((Z1 ++ Z2).take 4) ((Z1 ++ Z2).drop 4) W1 (b := w.heap.size) (t := 27) (by rw [List.take_append_drop]; exact hN) (by rw [List.length_take, List.length_append, hZ1l, hvl]; omega)
  rw [hW2, ← hAl, List.append_assoc]
  exact this
 have hZl : ((Z1 ++ Z2).drop 4).length = (G - i) * 4 - 4 := by rw [List.length_drop, List.length_append, hZ1l, hZ2l]; omega
 obtain ⟨W3, hW3⟩ : ∃ W3, W3 = W2.drew.setCells w.heap.size ((i + 1) * 4) D := ⟨_, rfl⟩
 have hb3 : W3.heap[w.heap.size]? = some (.cells ((A ++ vs ++ D) ++ (((Z1 ++ Z2).drop 4).drop D.length)).toArray 27 (0, 0)) := by
  have := yG D (A ++ vs) (((Z1 ++ Z2).drop 4).take D.length) (((Z1 ++ Z2).drop 4).drop D.length) W2.drew (b := w.heap.size) (t := 27) (by rw [List.take_append_drop]; exact hb2) (by rw [List.length_take, hZl, hDl]; omega)
  rw [hW3, show (i + 1) * 4 = (A ++ vs).length by rw [List.length_append, hAl, hvl]; omega]
  rw [← List.append_assoc] at this
  exact this
 have hf2 := yH (b := w.heap.size) vs (i * 4) W1
 have hf3 := yH (b := w.heap.size) D ((i + 1) * 4) W2.drew
 rw [← hW2] at hf2
 rw [← hW3] at hf3
 have HEND : Hid (zbS w B (some g) (n + 1) (A ++ vs ++ D) (.returned (.slice (some ⟨w.heap.size, 0, none⟩) (n + 1) G)) W3) := hH
  ⟨_, rfl, Yt (by simp only [List.length_append, hAl, hvl, hDl]; omega) hb3 hGn hG63 (by simp only [List.length_append, hAl, hvl, hDl, List.length_drop, hZ1l, hZ2l]; omega) hB,
   { os := hf3.2.1.trans (hf2.2.1.trans hbW.os), tape := hf3.2.2.1.trans (hf2.2.2.1.trans hbW.tape), output := hf3.2.2.2.1.trans (hf2.2.2.2.1.trans hbW.output), size := by rw [hf3.1]; show w.heap.size ≤ W2.heap.size; rw [hf2.1]; exact hbW.size, block := fun y hy hn => by
      rw [hf3.2.2.2.2 y (by omega)]
      show W2.heap[y]? = _
      rw [hf2.2.2.2.2 y (by omega)]
      exact hbW.block y hy }⟩
 have hcpA : ∀ ty dc, (Builtin.copy_ #[25, 25] ty #[.slice (some ⟨w.heap.size, i * 4, none⟩) (n + 1 - i) dc, .slice (some ⟨vb, 0, none⟩) 1 1]).run Try.prog W1 = .ok (goInt 1) W2 := fun ty dc => by
  rw [hW2]
  exact qY W1 25 25 ty 27 4 w.heap.size (i * 4) (n + 1 - i) dc ⟨vb, 0, none⟩ 1 1 1 vs Try.underlying25 hsz (by simp only [Nat.min_def]; split <;> omega) (by omega)
   (fun j v hj => by rw [Addr.add_mid, Nat.zero_add, vN ((hbW.block vb hvlt).trans hv)]; exact hj)
   (fun j hj => (qi hN (by simp only [List.length_append, hAl, hZ1l, hZ2l]; omega)).1) (fun j hj => (qi hN (j := i * 4 + j) (by simp only [List.length_append, hAl, hZ1l, hZ2l]; omega)).2) h1v
 have hcpB : ∀ ty dc sc, (Builtin.copy_ #[25, 25] ty #[.slice (some ⟨w.heap.size, (i + 1) * 4, none⟩) (n - i) dc, .slice (some ⟨g, i * 4, none⟩) (n - i) sc]).run Try.prog W2.drew = .ok (goInt ((n - i : Nat) : Int)) W3 := fun ty dc sc => by
  rw [hW3]
  exact qY W2.drew 25 25 ty 27 4 w.heap.size ((i + 1) * 4) (n - i) dc ⟨g, i * 4, none⟩ (n - i) sc (n - i) D Try.underlying25 hsz (by simp only [Nat.min_def]; split <;> omega) hDl
   (fun j v hj => by
     have hgW : W2.drew.heap[g]? = some (.cells (A ++ D ++ sp).toArray 27 (0, 0)) := (hf2.2.2.2.2 g hgN).trans ((hbW.block g hglt).trans s1)
     rw [Addr.add_mid, vN hgW, List.append_assoc, List.getElem?_append_right (by omega), hAl, show i * 4 + j - i * 4 = j by omega, List.getElem?_append_left (List.getElem?_eq_some_iff.1 hj).1]
     exact hj)
   (fun j hj => (qi (w := W2.drew) hb2 (by simp only [List.length_append, hAl, hvl, hZl]; rw [hDl] at hj; omega)).1) (fun j hj => (qi (w := W2.drew) hb2 (j := (i + 1) * 4 + j) (by simp only [List.length_append, hAl, hvl, hZl]; rw [hDl] at hj; omega)).2) h1D
 have hz2 : ¬ ((i : Int) = (n : Int)) := by omega
 have hz3' : (cap : Int) < (n : Int) + 1 := by omega
 have hGi : ¬ (G = i) := by omega
 have hGim : ¬ (G = i + 1) := by omega
 have hci : ¬ (cap = i) := by omega
 have hw1 : IntKind.i64.wrap ((i : Int) + 1) = (i : Int) + 1 := by rw [IntKind.wrap_i64]; omega
 have hb1' : (0 : Int) ≤ (i : Int) + 1 := by omega
 have hin : i ≤ n := by omega
 have htn : ((i : Int) + 1).toNat = i + 1 := by omega
 have hb3' : (i : Int) ≤ (n : Int) := by omega
 have hnc : n ≤ cap := s2
 have hcc : cap ≤ 9223372036854775807 := by unfold maxLen at s3; omega
 have hGG : G ≤ 9223372036854775807 := by unfold maxLen at hG63; omega
 have HCP := hH (aN hrz (aN hcpA hcpB))
 have mixed : Try.prog.follows .mixedOrders = true := by kernel_rfl
 clear h s1 s2 s3 s4 s5 hxl hA hD hAl hDl hxAD h1D hW1 hW2 hb2 hf2 hv hvl h1v h1x hi0 hz0 hzs hzb hz3 hsz hglt hvlt hik hkk hold hG hZ1 hZ2 hZ1l hZ2l hrow hrz hN hbW hgN hvN hZl hW3 hb3 hf3 hcpA hcpB hB hG63
 go_enter Try.func108, Try.ntmps108
 have hcA := HCP.out.2.1 3 (G - i)
 go_wp2_with (at_builtin; refine Lib.wpList_append_run _ rfl _ _ _ _ rfl _ _ rfl rfl _ _ (HCP.out.1 _) ?_)
 go_region_law_o (refine step_copy_runI rfl _ _ 25 25 rfl (.slice (some ⟨w.heap.size, (i + 1) * 4, none⟩) (n - i) (G - (i + 1))) (.slice (some ⟨g, i * 4, none⟩) (n - i) (cap - i)) (by simp [Act.eval, Act.put]) (by simp [Act.eval, Act.put]) (HCP.out.2.2 3 (G - (i + 1)) (cap - i)) ?_)
 go_wp2_with fail
 go_ret
 exact HEND.out
theorem zfR (w : World) (B n i vb : Nat) (sv : Value) (xs vs : List Value) (h : w.ownsRow B 27 4 sv n xs) (hB : B ≤ w.heap.size) (hi : i ≤ n) (hn : n ≤ 1000000) (hv : w.heap[vb]? = some (.cells vs.toArray 27 (0, 0))) (hvl : vs.length = 4) (h1v : ∀ v ∈ vs, v.oneCell' = true) (h1x : ∀ v ∈ xs, v.oneCell' = true) (hvg : sv.ownBlock ≠ some vb) :
 Calls Try.prog 108 #[sv, .int .i64 i, .slice (some ⟨vb, 0, none⟩) 1 1] w (zbS w B sv.ownBlock (n + 1) (xs.take (i * 4) ++ vs ++ xs.drop (i * 4))) := by
 by_cases he : i = n
 · subst he
   have hx := h.1
   rw [List.take_of_length_le (by omega), List.drop_eq_nil_of_le (by omega), List.append_nil]
   exact zfT w B i vb sv xs vs h hB hn hv hvl h1v
 · obtain ⟨g, cap, rfl, _⟩ := World.ownsRow.form h (by omega)
   have hvg' : vb ≠ g := fun e => hvg (by rw [e]; rfl)
   by_cases hc : n + 1 ≤ cap
   · exact zdD w B g n cap i vb xs vs h (by omega) hc hv hvl h1v h1x hvg'
   · exact zfe w B g n cap i vb xs vs h hB (by omega) hn (by omega) hv hvl h1v h1x
end Go.Proofs.Ytgkmmnihaiopaaa
