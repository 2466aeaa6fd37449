/-
  .
-/
import Derived.Test.YtonapijgfalpaaaGreatEEachQw
import Derived.Lib.SliceRun
import Derived.Shelf.Spec.SlicesInsertGrow
import Derived.Deep.RegionLaw
import Derived.Test.YtonapijgfalpaaaGreatJPgQw
set_option maxRecDepth 100000
set_option maxHeartbeats 40000000
set_option linter.unusedVariables false
set_option linter.unusedSimpArgs false
namespace Go.Proofs.YtonapijgfalpaaaGreat
open Go.RowKit
def Book (B : Nat) (r : Loop) (W : World) : Prop := W.heap[B + 1]? = some (.loop r) ∧ W.heap[B]? = some (.deferred (some []))
theorem Book.put {B : Nat} {r r' : Loop} {W : World} (h : Book B r W) : Book B r' (W.putObj (B + 1) (.loop r')) :=
 ⟨World.putObj_heap_same (Array.getElem?_eq_some_iff.1 h.1).1, (World.putObj_heap_other (by omega)).trans h.2⟩
theorem Book.kept {B : Nat} {r : Loop} {W V : World} (h : Book B r W) (hk : KeepsFrom B W V) : Book B r V := ⟨hk.same _ _ (by omega) h.1 rfl, hk.same _ _ (Nat.le_refl _) h.2 rfl⟩
theorem Book.touched {B : Nat} {r : Loop} {W V : World} {T : Nat → Prop} (h : Book B r W) (ht : zi W V T) (hT : ∀ x, T x → B + 2 ≤ x) : Book B r V :=
 ⟨(ht.block _ (lt_of_heap h.1) (fun e => by have := hT _ e; omega)).trans h.1, (ht.block _ (lt_of_heap h.2) (fun e => by have := hT _ e; omega)).trans h.2⟩
def yF (V : World) (x : Nat) : Prop := ∃ o, V.heap[x]? = some o ∧ o.isCells = false
def zgy (B : Nat) (T : Nat → Prop) (I : (Nat → Prop) → List Seg → World → Prop) (Ix : Code → (Nat → Prop) → World → Prop) (d c b off : Nat) (k r : Fo) (A : List Seg) (W : World) (e : Exit) (_ : Act) (V : World) : Prop :=
 KeepsFrom B W V ∧ Kept T W V ∧ ((e = .normal ∧ ∃ ka kc, V.cell? ⟨b, off + 3, none⟩ = some (.slice ka (zb k) kc) ∧ zb k ≤ kc ∧ I T (⟨d + 1, ka, kc, k⟩ :: ⟨d, some ⟨b, off + 4, none⟩, c - 1, r⟩ :: A) V) ∨ (e = .ret ∧ Ix .ret T V) ∨ ∃ id, e = .exit id ∧ Ix (.exit id) T V)
theorem yu {V : World} {l : Nat} {o : Obj} (o' : Obj) (hl : V.heap[l]? = some o) : zi V (V.putObj l o') (fun x => x = l) :=
 ⟨rfl, rfl, rfl, by simp [World.putObj], fun x _ hn => World.putObj_heap_other hn⟩
theorem zi.mono {w w' : World} {S S' : Nat → Prop} (h : zi w w' S) (hS : ∀ x, S x → S' x) : zi w w' S' := ⟨h.os, h.tape, h.output, h.size, fun x hx hn => h.block x hx (fun hs => hn (hS x hs))⟩
theorem Zt {T : Nat → Prop} {V : World} {l : Nat} (o' : Obj) (hT : ¬ T l) : Kept T V (V.putObj l o') := ⟨by simp [World.putObj], fun x hx => World.putObj_heap_other (fun e => hT (e ▸ hx))⟩
theorem YJ {n : Nat} {g : Operand} {ps : Array Tmp} {assign body : Code} {Q : Exit → Act → World → Prop} {a : Act} {w : World} (h1 : 1 ≤ n) {NB : Nat} (hg : a.eval g = .func (.func 71) #[] #[.pointer (some ⟨NB, 0, none⟩)])
 (s : Seg) (hd : s.d = 1) (hne : s.f ≠ .nil) (hcap : zb s.f ≤ s.cap) (hsz : ze s.f ≤ 500000) (hNB : w.cell? ⟨NB, 0, none⟩ = some s.v) (hps : ps.size = 2)
 (I : (Nat → Prop) → List Seg → World → Prop) (Ix : Code → (Nat → Prop) → World → Prop)
 (hI : ∀ {T T' : Nat → Prop} {A : List Seg} {V V' : World}, I T A V → zi V V' (fun x => T x ∨ (w.heap.size ≤ x ∧ yF V x)) → vB T T' V V' → I T' A V')
 (hIx : ∀ {c : Code} {T T' : Nat → Prop} {V V' : World}, Ix c T V → zi V V' (fun x => T x ∨ (w.heap.size ≤ x ∧ yF V x)) → vB T T' V V' → Ix c T' V')
 (hIe : ∀ {T : Nat → Prop} {A B : List Seg} {d c : Nat} {a : Option Addr} {V : World}, I T (A ++ ⟨d, a, c, .nil⟩ :: B) V → I T (A ++ B) V)
 (h0 : I (fun _ => False) [s] w)
 (hround : ∀ (l : Nat), l = w.heap.size + 1 → ∀ (T : Nat → Prop) (d c bo oo : Nat) (ad : Option Addr) (key : Int × Int × ByteArray) (k r : Fo) (A : List Seg) (V : World), (∀ x, T x → x < V.heap.size ∧ w.heap.size + 2 ≤ x) → w.heap.size + 2 ≤ V.heap.size → I T (⟨d, ad, c, .node bo oo key k r⟩ :: A) V →
   ∃ b off, ad = some ⟨b, off, none⟩ ∧ ∀ (K : Act → World → Prop), (∀ a₁, (∀ V', (∃ o', V' = V.putObj l o' ∧ ∃ o, V.heap[l]? = some o ∧ o.isCells = false) → body.wpIn (Fence.wide.inRound l) (n - 1 - 1) Tryz.prog (zgy w.heap.size T I Ix d c b off k r A V') a₁ V') → K a₁ V) →
    assign.wpIn (Fence.wide.inRound l) (n - 1 - 1) Tryz.prog (Exit.then K (fun _ _ _ => False)) { tmps := (ps.zip #[.int .i64 (d : Int), .pointer (some ⟨b, off, none⟩)]).foldl (fun t (p, v) => t.setIfInBounds p v) a.tmps, defers := [] } V)
 (hdone : ∀ (D : Nat) (T : Nat → Prop) (V : World), w.heap.size ≤ D → I T [] V → V.heap[D]? = some (.deferred (some [])) → Q .normal { a with defers := { target := .collected D, args := #[] } :: a.defers } V)
 (hstop : ∀ (D : Nat) (c : Code) (T : Nat → Prop) (V : World), w.heap.size ≤ D → Ix c T V → V.heap[D]? = some (.deferred (some [])) → c.wpIn Fence.wide n Tryz.prog Q { a with defers := { target := .collected D, args := #[] } :: a.defers } V) :
 (Code.rangeFunc g ps assign body).wpIn Fence.wide n Tryz.prog Q a w := by
 obtain ⟨B, hB⟩ : ∃ B, w.heap.size = B := ⟨_, rfl⟩
 simp only [hB] at hI hIx hround hdone hstop
 refine wpIn_rangeFunc fun fn hfn => ?_
 obtain ⟨rec, hrec⟩ : ∃ rec : LoopState → Option Code → Loop, rec = fun st pe => { state := st, pending := pe, fn, tmps := a.tmps, params := ps, assign, body, defers := B } := ⟨_, rfl⟩
 obtain ⟨W1, hW1⟩ : ∃ W1, W1 = (w.alloc (.deferred (some []))).alloc (.loop (rec .ready none)) := ⟨_, rfl⟩
 have hsz1 : W1.heap.size = B + 2 := by rw [hW1]; simp [hB]
 have hblk : ∀ x, x < B → W1.heap[x]? = w.heap[x]? := fun x hx => by rw [hW1, Below.heap_alloc _ _ _ (by simp; omega), Below.heap_alloc _ _ _ (by omega)]
 have hbk : Book B (rec .ready none) W1 := by
  rw [hW1, ← hB]
  refine ⟨?_, (Below.heap_alloc _ _ _ (by simp)).trans (World.alloc_heap_new w _)⟩
  have := World.alloc_heap_new (w.alloc (.deferred (some []))) (.loop (rec .ready none))
  rwa [World.size_alloc] at this
 have hb1 : zi w W1 (fun _ => False) := by rw [hW1]; exact ((zi.refl w _).alloc _).alloc _
 have hI1 : I (fun _ => False) [s] W1 := hI h0 (hb1.mono (fun _ h => h.elim)) (fun x hx => Or.inl hx)
 have hNBl := World.block_lt_of_cell? _ _ hNB
 have hNB1 : W1.cell? ⟨NB, 0, none⟩ = some s.v := (World.cell?_of_block (hblk NB (by simp only at hNBl; omega))).trans hNB
 refine ⟨B + 1, [{ target := .collected B, args := #[] }], W1, { target := .fn (.func 71) #[.pointer (some ⟨NB, 0, none⟩)], args := #[.func (.yield (B + 1)) #[] #[]] }, W1, 71, #[.func (.yield (B + 1)) #[] #[]] ++ #[.pointer (some ⟨NB, 0, none⟩)], W1, ?_, ?_, ?_, ?_, fun _ => h1, ?_⟩
 · rw [hW1, hrec, ← hB]; exact run_enterLoop_outer _ _ _ _ _
 · simp only [resolve, hg]
   simp [go_sem]
 · intro f' hf'; simp [Target.leads] at hf'; subst hf'; exact trivial
 · simp [invoke, go_sem]
 · obtain ⟨J, hJ⟩ : ∃ J : (Nat → Prop) → List Seg → World → Prop, J = fun T A V => I T A V ∧ Book B (rec .ready none) V ∧ ∀ x, T x → B + 2 ≤ x := ⟨_, rfl⟩
   obtain ⟨Jx, hJx⟩ : ∃ Jx : (Nat → Prop) → World → Prop, Jx = fun T V => ∃ c, Ix c T V ∧ Book B (rec .done (some c)) V ∧ ∀ x, T x → B + 2 ≤ x := ⟨_, rfl⟩
   have hbody : Body Tryz.prog (n - 1 - 1) (B + 1) J Jx := by
    subst hJ hJx
    refine ⟨?_, ?_, ?_, ?_⟩
    · rintro T T' A V V' ⟨j1, j2, j3⟩ ht hw
      have hs := lt_of_heap j2.1
      exact ⟨hI j1 (ht.mono (fun x hx => Or.inl hx)) hw, j2.touched ht j3, fun x hx => (hw x hx).elim (j3 x) (fun h => by omega)⟩
    · rintro T T' V V' ⟨c, j1, j2, j3⟩ ht hw
      have hs := lt_of_heap j2.1
      exact ⟨c, hIx j1 (ht.mono (fun x hx => Or.inl hx)) hw, j2.touched ht j3, fun x hx => (hw x hx).elim (j3 x) (fun h => by omega)⟩
    · rintro T A A' d c ad V ⟨j1, j2⟩
      exact ⟨hIe j1, j2⟩
    · rintro T d c bo oo ad key k r A V hT ⟨j1, j2, j3⟩
      obtain ⟨b, off, e, hr⟩ := hround (B + 1) rfl T d c bo oo ad key k r A V (fun x hx => ⟨hT x hx, j3 x hx⟩) (by have := lt_of_heap j2.1; omega) j1
      refine ⟨b, off, e, ?_⟩
      have hTl : ¬ T (B + 1) := fun h => by have := j3 _ h; omega
      have hy := run_yield (P := Tryz.prog) (args := #[.int .i64 (d : Int), .pointer (some ⟨b, off, none⟩)]) j2.1 (by rw [hrec]; exact hps.symm)
      rw [hrec] at hy
      refine ⟨fn, _, assign, body, hy, roundIn_of_wpIn hfn (hr _ fun a₁ hb => ?_)⟩
      refine ⟨_, run_beginRound j2.1 (by rw [hrec]), ?_⟩
      have hb2 : Book B { rec .ready none with state := .busy } (V.putObj (B + 1) (.loop { rec .ready none with state := .busy })) := j2.put
      refine wpIn_mono (hb _ ⟨_, rfl, _, j2.1, rfl⟩) ?_
      rintro e3 a3 U ⟨hkU, hkT, hp⟩
      have hb3 := hb2.kept hkU
      have fin := fun jump => run_endRound (P := Tryz.prog) jump hb3.1
      rw [hrec] at fin hb3
      have hall : ∀ o', Kept T V (U.putObj (B + 1) o') := fun o' => ((Zt _ hTl).trans hkT).trans (Zt _ hTl)
      have htp : ∀ o', zi U (U.putObj (B + 1) o') (fun x => T x ∨ (B ≤ x ∧ yF U x)) := fun o' => (yu o' hb3.1).mono (fun x hx => Or.inr ⟨by omega, by rw [hx]; exact ⟨_, hb3.1, rfl⟩⟩)
      rcases hp with ⟨rfl, ka, kc, c1, c2, hi3⟩ | ⟨rfl, hi3⟩ | ⟨id, rfl, hi3⟩
      · refine ⟨_, _, fin none, hall _, .inl ⟨rfl, ka, kc, ?_, c2, hI hi3 (htp _) (fun x hx => Or.inl hx), ?_, j3⟩⟩
        · refine (World.cell?_of_block (World.putObj_heap_other fun e4 => ?_)).trans c1
          have h5 : U.cell? ⟨B + 1, off + 3, none⟩ = none := by simp [World.cell?, hb3.1]
          simp only at e4
          rw [e4, h5] at c1; cases c1
        · rw [hrec]; exact hb3.put
      · refine ⟨_, _, fin (some .ret), hall _, .inr ⟨rfl, .ret, hIx hi3 (htp _) (fun x hx => Or.inl hx), ?_, j3⟩⟩
        rw [hrec]; exact hb3.put
      · refine ⟨_, _, fin (some (.exit id)), hall _, .inr ⟨rfl, .exit id, hIx hi3 (htp _) (fun x hx => Or.inl hx), ?_, j3⟩⟩
        rw [hrec]; exact hb3.put
   have hstart : J (fun _ => False) [s] W1 := by rw [hJ]; exact ⟨hI1, hbk, fun _ h => h.elim⟩
   refine (callsIn_wide.2 (zef hbody W1 NB s hd hne hcap hsz hNB1 hstart)).mono ?_
   rintro e W2 ⟨⟨v, rfl⟩, (⟨T, hj⟩ | ⟨T, hj⟩)⟩
   · rw [hJ] at hj
     obtain ⟨hi, hb, hT⟩ := hj
     have := run_endLoop (P := Tryz.prog) hb.1 (by rw [hrec]; simp)
     rw [hrec] at this
     refine ⟨none, _, this, hdone B T _ (Nat.le_refl _) (hI hi ((yu _ hb.1).mono (fun x hx => Or.inr ⟨by omega, by rw [hx]; exact ⟨_, hb.1, rfl⟩⟩)) (fun x hx => Or.inl hx)) ((World.putObj_heap_other (by omega)).trans hb.2)⟩
   · rw [hJx] at hj
     obtain ⟨c, hi, hb, hT⟩ := hj
     have := run_endLoop (P := Tryz.prog) hb.1 (by rw [hrec]; simp)
     rw [hrec] at this
     exact ⟨some c, _, this, hstop B c T _ (Nat.le_refl _) (hIx hi ((yu _ hb.1).mono (fun x hx => Or.inr ⟨by omega, by rw [hx]; exact ⟨_, hb.1, rfl⟩⟩)) (fun x hx => Or.inl hx)) ((World.putObj_heap_other (by omega)).trans hb.2)⟩
theorem J6 (w : World) (a : Option Addr) (n c : Nat) : Calls Tryz.prog 54 #[.slice a n c] w fun e w' => e = .returned (.func (.func 71) #[] #[.pointer (some ⟨w.heap.size, 0, none⟩)]) ∧ w' = w.alloc (.cells #[.slice a n c] 35) := by
 have hmf : ∀ (fn : Fn) (first cap : Array Value) (w : World), (Instr.makeFunc fn first cap).run Tryz.prog w = .ok (.func fn first cap) w := fun _ _ _ _ => rfl
 go_enter Tryz.func54, Tryz.ntmps54
 go_wp2_with fail
 go_ret
 exact ⟨rfl, rfl⟩
theorem Tryz.zfF : (Tryz.prog.info? 37).map (fun i => (i.size, i.bytes, i.zero.map (fun z => z.cells.size))) = some (4, 56, some 4) := by kernel_rfl
def zga (w : World) (t : TypeId) (size n : Nat) (xs : List Value) (e : Ending) (w' : World) : Prop := ∃ v', e = .returned v' ∧ Below w.heap.size w w' ∧ w'.ownsRow w.heap.size t size v' n xs
theorem Tryz.zcN (w : World) (a : Option Addr) (n c : Nat) : (binOp .eql 35 (.slice a n c) (.slice none 0 0)).run Tryz.prog w = .ok (.bool a.isNone) w := Lib.run_eql_slice_nil w _ _ a n c 0 0 Tryz.underlying35
theorem jW (w : World) (a : Option Addr) (n cap : Nat) (xs : List Value) (hl : xs.length = n * 4) (h1 : ∀ u ∈ xs, u.oneCell' = true) (hn : n ≤ 1000000) (hc : ∀ ad, a = some ad → ∀ j u, xs[j]? = some u → w.cell? (ad.add j) = some u) (h0 : a = none → n = 0) :
 Calls Tryz.prog 55 #[.slice a n cap] w (zga w 37 4 n xs) := by
 have hq := Tryz.zcN
 cases a with
 | none =>
   have hn0 := h0 rfl
   subst hn0
   have hx : xs = [] := List.eq_nil_of_length_eq_zero (by simpa using hl)
   subst hx
   clear hl h1 hn hc h0
   go_enter Tryz.func55, Tryz.ntmps55
   go_wp2_with fail
   go_ret
   exact ⟨_, rfl, Below.refl _ _, World.ownsRow_nil _ _ _ _⟩
 | some ad =>
   have HC := hH (aN hl (aN h1 (hc ad rfl)))
   obtain ⟨i0, z0, hi0, hz0, hz1, hz2, hz3⟩ := yC Tryz.zfF
   have HI := hH (aN hi0 (aN hz0 (aN hz1 (aN hz2 hz3))))
   clear hl h1 hc h0 hi0 hz0 hz1 hz2 hz3
   go_enter Tryz.func55, Tryz.ntmps55
   go_wp2_with (at_builtin; refine wpList_append_own_at _ rfl (.tmp 5) (.tmp 6) _ rfl w.heap.size 37 i0 z0 4 56 Tryz.underlying35 HI.out.1 HI.out.2.1 HI.out.2.2.1 HI.out.2.2.2.1 HI.out.2.2.2.2 (by omega) (.slice (some ⟨w.heap.size, 0, none⟩) 0 0) 0 [] rfl (World.ownsRow_made w #[] 0 (Nat.le_refl _) (by unfold maxLen; omega) rfl) ad n cap xs rfl HC.out.1 (fun j u hj => Lib.cell?_alloc_some _ (HC.out.2.2 j u hj)) HC.out.2.1 (by unfold maxLen; omega) (by omega) (by simp) ?_; intro v' w1 hown hgrow _ hat)
   go_ret
   have hs := hgrow.size
   rw [World.size_alloc] at hs
   exact ⟨_, rfl, ⟨hgrow.os, hgrow.tape, hgrow.output, by omega, fun x hx => by
    rw [hgrow.block x (by rw [World.size_alloc]; omega) (by simp [Value.ownBlock]; omega), Below.heap_alloc _ _ _ hx]⟩, by rw [Nat.zero_add, List.nil_append] at hown; exact hown⟩
end Go.Proofs.YtonapijgfalpaaaGreat
namespace Go.Proofs.YtonapijgfalpaaaGreat
open Go.RowKit Go.Lib
theorem jb {b : Nat} {t : TypeId} : ∀ (vs pre mid post : List Value) (w : World), w.heap[b]? = some (.cells (pre ++ (mid ++ post)).toArray t (0, 0)) → mid.length = vs.length →
 (w.setCells b pre.length vs).heap[b]? = some (.cells (pre ++ (vs ++ post)).toArray t (0, 0))
 | [], pre, mid, post, w, h, hl => by
   have : mid = [] := List.eq_nil_of_length_eq_zero (by simpa using hl)
   subst this
   exact h
 | v :: r, pre, [], post, w, h, hl => by simp at hl
 | v :: r, pre, p :: ps, post, w, h, hl => by
   have h1 := heap_setCell_same w b pre.length _ _ v h
   have e : ((pre ++ (p :: ps ++ post)).toArray.setIfInBounds pre.length v) = ((pre ++ [v]) ++ (ps ++ post)).toArray := by simp
   rw [e] at h1
   have := jb r (pre ++ [v]) ps post (w.setCell ⟨b, pre.length, none⟩ v) h1 (by simpa using hl)
   rw [List.length_append, List.append_assoc] at this
   exact this
theorem jf {b : Nat} : ∀ (vs : List Value) (o : Nat) (w : World), (w.setCells b o vs).heap.size = w.heap.size ∧ (w.setCells b o vs).os = w.os ∧ (w.setCells b o vs).tape = w.tape ∧ (w.setCells b o vs).output = w.output ∧ ∀ y, y ≠ b → (w.setCells b o vs).heap[y]? = w.heap[y]?
 | [], o, w => ⟨rfl, rfl, rfl, rfl, fun _ _ => rfl⟩
 | v :: r, o, w => by
   obtain ⟨h1, h2, h3, h4, h5⟩ := jf r (o + 1) (w.setCell ⟨b, o, none⟩ v)
   exact ⟨h1.trans (by simp [World.setCell]), h2, h3, h4, fun y hy => (h5 y hy).trans (Below.heap_setCell _ _ _ _ hy)⟩
theorem zcG {w : World} {g : Nat} {cs : List Value} {t : TypeId} (hg : w.heap[g]? = some (.cells cs.toArray t (0, 0))) {j : Nat} (h : j < cs.length) : (w.cell? ⟨g, j, none⟩).isSome = true ∧ w.frozen? ⟨g, j, none⟩ = false := ⟨by
 rw [cell_of_row w _ _ _ _ _ hg, List.getElem?_toArray, List.getElem?_eq_getElem h]; rfl, frozen_of_row w _ _ _ _ hg⟩
theorem zdx {w : World} {g : Nat} {cs : List Value} {t : TypeId} (hg : w.heap[g]? = some (.cells cs.toArray t (0, 0))) (j : Nat) : w.cell? ⟨g, j, none⟩ = cs[j]? := by
 rw [cell_of_row w _ _ _ _ _ hg, List.getElem?_toArray]
theorem zb2 {w : World} {B g n cap : Nat} {xs : List Value} (h : w.ownsRow B 37 4 (.slice (some ⟨g, 0, none⟩) n cap) n xs) :
 ∃ sp, w.heap[g]? = some (.cells (xs ++ sp).toArray 37 (0, 0)) ∧ n ≤ cap ∧ cap ≤ maxLen ∧ (xs ++ sp).length = cap * 4 ∧ B ≤ g := by
 rcases h.2 with ⟨h', _⟩ | ⟨g', cap', cur, h', hb, hg, hnc, hcm, hcs, htake⟩
 · simp at h'
 · simp only [Value.slice.injEq, Option.some.injEq, Addr.mk.injEq, and_true, true_and] at h'
   obtain ⟨rfl, rfl⟩ := h'
   have e : xs ++ cur.toList.drop (n * 4) = cur.toList := by rw [← htake, List.take_append_drop]
   refine ⟨cur.toList.drop (n * 4), ?_, hnc, hcm, ?_, hb⟩
   · rw [e]; simpa using hg
   · rw [e]; simpa using hcs
theorem zcZ {w : World} {B g n cap : Nat} {xs sp : List Value} (hx : xs.length = n * 4) (hg : w.heap[g]? = some (.cells (xs ++ sp).toArray 37 (0, 0))) (hn : n ≤ cap) (hm : cap ≤ maxLen) (hs : (xs ++ sp).length = cap * 4) (hB : B ≤ g) :
 w.ownsRow B 37 4 (.slice (some ⟨g, 0, none⟩) n cap) n xs :=
 ⟨hx, .inr ⟨g, cap, _, rfl, hB, hg, hn, hm, by simpa using hs, by rw [← hx]; simp⟩⟩
theorem Jz (z : Array Value) (n : Nat) : (Builtin.zeroCells z n).toList.length = n * z.size := by simp [Builtin.zeroCells]
theorem Qf {P : Program} (w : World) (t e ty : TypeId) (z : Value) (ht : P.underlying t = some (.slice e)) (hv : ∀ w, (zeroValue e).run P w = .ok z w) (b o n c : Nat) (hn : 0 < n) (vs : List Value) (hvs : (Builtin.zeroCells z.cells n).toList = vs) (h1 : ∀ v ∈ vs, v.oneCell' = true)
 (hth : w.there b o vs.length) : (Builtin.clear_ #[t] ty #[.slice (some ⟨b, o, none⟩) n c]).run P w = .ok (.tuple #[]) (w.setCells b o vs) := by
 have hst := run_storeCells_cells (P := P) b o vs 0 w (fun j hj => (hth j hj).1) (fun j hj => (hth j hj).2) h1
 simp only [Nat.add_zero] at hst
 obtain ⟨m, rfl⟩ : ∃ m, n = m + 1 := ⟨n - 1, by omega⟩
 simp [Builtin.clear_, run_underlying ht, hv, hvs, hst]
theorem zdf (z : Array Value) (n : Nat) (h : ∀ v ∈ z, v.oneCell' = true) : ∀ v ∈ (Builtin.zeroCells z n).toList, v.oneCell' = true := fun v hv => by
 simp only [Builtin.zeroCells, Array.toList_map, List.mem_map] at hv
 obtain ⟨i, hi, rfl⟩ := hv
 have hi' : i < n * z.size := by simpa using hi
 have hz : 0 < z.size := by
  rcases Nat.eq_zero_or_pos z.size with h0 | h0
  · rw [h0] at hi'; simp at hi'
  · exact h0
 have hlt : i % z.size < z.size := Nat.mod_lt _ hz
 rw [getElem!_pos z (i % z.size) hlt]
 exact h _ (Array.getElem_mem hlt)
theorem zdC {P : Program} {t : TypeId} {i : TypeInfo} {z : Value} (hi : P.info? t = some i) (hz : i.zero = some z) : ∀ w, (zeroValue t).run P w = .ok z w := fun w => by simp [zeroValue, typeInfo, hi, hz]
theorem Tryz.zdO : (Tryz.prog.info? 37).map (fun i => i.zero.map (fun z => z.cells.all (·.oneCell'))) = some (some true) := by kernel_rfl
theorem zdJ {w : World} {g : Nat} {cs : List Value} {t : TypeId} (hg : w.heap[g]? = some (.cells cs.toArray t (0, 0))) {o n : Nat} (h : o + n ≤ cs.length) : w.there g o n := fun j hj => zcG hg (by omega)
def zgx (w : World) (B g n cap : Nat) (xs : List Value) (e : Ending) (w' : World) : Prop :=
 e = .returned (.slice (some ⟨g, 0, none⟩) n cap) ∧ w'.ownsRow B 37 4 (.slice (some ⟨g, 0, none⟩) n cap) n xs ∧ w.grownBy w' (some g)
theorem ze8 (w : World) (B g n cap k j : Nat) (xs : List Value) (hkn : k < n) (hj : j = k + 1) (hlen : n ≤ 1000000) (h1x : ∀ v ∈ xs, v.oneCell' = true)
 (h : w.ownsRow B 37 4 (.slice (some ⟨g, 0, none⟩) n cap) n xs) :
 Calls Tryz.prog 140 #[.slice (some ⟨g, 0, none⟩) n cap, .int .i64 k, .int .i64 j] w (zgx w B g (n - 1) cap (xs.take (k * 4) ++ xs.drop (k * 4 + 4))) := by
 obtain ⟨sp, s1, s2, s3, s4, s5⟩ := zb2 h
 have hxl := h.1
 obtain ⟨PA, hPA⟩ : ∃ PA, PA = xs.take (k * 4) := ⟨_, rfl⟩
 obtain ⟨PX, hPX⟩ : ∃ PX, PX = (xs.drop (k * 4)).take 4 := ⟨_, rfl⟩
 obtain ⟨news, hnews⟩ : ∃ news, news = xs.drop (k * 4 + 4) := ⟨_, rfl⟩
 have la : PA.length = k * 4 := by rw [hPA, List.length_take]; omega
 have hgx : PX.length = 4 := by rw [hPX, List.length_take, List.length_drop]; omega
 have lr : news.length = (n - j) * 4 := by rw [hnews, List.length_drop]; omega
 have e0 : xs = PA ++ (PX ++ news) := by rw [hPA, hPX, hnews, ← List.drop_drop, List.take_append_drop, List.take_append_drop]
 have h1n : ∀ v ∈ news, v.oneCell' = true := fun v hv => h1x v (by rw [e0]; exact List.mem_append_right _ (List.mem_append_right _ hv))
 rw [← hPA, ← hnews]
 rw [e0] at s1 s4
 obtain ⟨i0, z0, hi0, hz0, hz1, hz2, hz3⟩ := yC Tryz.zfF
 have hkj : k < j := by omega
 have hjn : j ≤ n := by omega
 have hic : k ≤ cap := by omega
 have hjc : j ≤ cap := by omega
 have hcm : cap ≤ 9223372036854775807 := by have := s3; unfold maxLen at this; omega
 have hnl : news.length = (n - j) * 4 := lr
 have hlc : (PX ++ news ++ sp).length = (cap - k) * 4 := by simp only [List.length_append] at s4 ⊢; omega
 have s1' : w.heap[g]? = some (.cells (PA ++ (PX ++ news ++ sp)).toArray 37 (0, 0)) := by rw [← List.append_assoc]; exact s1
 obtain ⟨A, hA, hsrc⟩ : ∃ A : Addr, (if cap = j then some (⟨g, 0, none⟩ : Addr) else some ⟨g, j * 4, none⟩) = some A ∧ Hid (∀ t u, news[t]? = some u → w.drew.cell? (A.add t) = some u) := by
  by_cases h : cap = j
  · refine ⟨⟨g, 0, none⟩, by simp [h], hH fun t u hu => ?_⟩
    have h0 : news.length = 0 := by rw [hnl]; omega
    rw [List.length_eq_zero_iff.1 h0] at hu
    simp at hu
  · refine ⟨⟨g, j * 4, none⟩, by simp [h], hH fun t u hu => ?_⟩
    rw [Addr.add_mid]
    show w.cell? _ = _
    rw [zdx s1', List.getElem?_append_right (by omega), List.append_assoc, List.getElem?_append_right (by omega), hgx, la, List.getElem?_append_left (by have := (List.getElem?_eq_some_iff.1 hu).1; omega), show j * 4 + t - k * 4 - 4 = t by omega]
    exact hu
 have q1 : Hid (news.length = (n - j) * 4) := hH hnl
 have q2 : Hid (∀ u ∈ news, u.oneCell' = true) := hH h1n
 have q3 : Hid (∀ t, t < news.length → (w.drew.cell? ⟨g, 0 + k * 4 + t, none⟩).isSome = true ∧ w.drew.frozen? ⟨g, 0 + k * 4 + t, none⟩ = false) := hH fun t ht => zdJ (w := w.drew) (o := 0 + k * 4) (n := news.length) s1' (by rw [List.length_append, hlc, la, hnl]; omega) t ht
 obtain ⟨W1, hW1⟩ : ∃ W1, W1 = w.drew.setCells g (0 + k * 4) news := ⟨_, rfl⟩
 have hb1 : W1.heap[g]? = some (.cells (PA ++ (news ++ (PX ++ news ++ sp).drop news.length)).toArray 37 (0, 0)) := by
  have := jb news PA ((PX ++ news ++ sp).take news.length) ((PX ++ news ++ sp).drop news.length) w.drew (b := g) (t := 37) (by rw [List.take_append_drop]; exact s1') (by rw [List.length_take, hlc, hnl]; omega)
  rw [hW1, Nat.zero_add, ← la]
  exact this
 have hf1 := jf (b := g) news (0 + k * 4) w.drew
 rw [← hW1] at hf1
 obtain ⟨P, hP⟩ : ∃ P, P = (PX ++ news ++ sp).drop news.length := ⟨_, rfl⟩
 have hPl : P.length = (cap - (n - 1)) * 4 := by rw [hP, List.length_drop, hlc, hnl]; omega
 rw [← hP] at hb1
 obtain ⟨zs, hzs⟩ : ∃ zs, (Builtin.zeroCells z0.cells (n - (k + (n - j)))).toList = zs := ⟨_, rfl⟩
 have hzl : zs.length = 4 := by rw [← hzs, Jz, hz3]; omega
 have hz1c : ∀ v ∈ zs, v.oneCell' = true := by
  rw [← hzs]
  refine zdf _ _ fun v hv => ?_
  have h1 := Tryz.zdO
  rw [hi0] at h1
  simp only [Option.map_some, hz0, Option.some.injEq] at h1
  exact (Array.all_eq_true_iff_forall_mem.1 h1) v hv
 have hcl : ∀ ty, (Builtin.clear_ #[35] ty #[.slice (some ⟨g, (k + (n - j)) * 4, none⟩) (n - (k + (n - j))) (cap - (k + (n - j)))]).run Tryz.prog W1 = .ok (.tuple #[]) (W1.setCells g ((k + (n - j)) * 4) zs) :=
  fun ty => Qf W1 _ _ ty z0 Tryz.underlying35 (zdC hi0 hz0) g ((k + (n - j)) * 4) _ _ (by omega) zs hzs hz1c (zdJ hb1 (by simp only [List.length_append, la, hnl, hPl, hzl]; omega))
 obtain ⟨W2, hW2⟩ : ∃ W2, W2 = W1.setCells g ((k + (n - j)) * 4) zs := ⟨_, rfl⟩
 rw [← hW2] at hcl
 have hb2 : W2.heap[g]? = some (.cells ((PA ++ news) ++ (zs ++ P.drop 4)).toArray 37 (0, 0)) := by
  have := jb zs (PA ++ news) (P.take 4) (P.drop 4) W1 (b := g) (t := 37) (by rw [List.take_append_drop, List.append_assoc]; exact hb1) (by rw [List.length_take, hPl, hzl]; omega)
  rw [hW2, show (k + (n - j)) * 4 = (PA ++ news).length by rw [List.length_append, la, hnl]; omega]
  exact this
 have hf2 := jf (b := g) zs ((k + (n - j)) * 4) W1
 rw [← hW2] at hf2
 have HEND : Hid (zgx w B g (n - 1) cap (PA ++ news) (.returned (.slice (some ⟨g, 0, none⟩) (n - 1) cap)) W2) := hH
  ⟨rfl, zcZ (by rw [List.length_append, la, hnl]; omega) hb2 (by omega) s3 (by simp only [List.length_append, la, hnl, hzl, List.length_drop, hPl]; omega) s5,
   { os := hf2.2.1.trans hf1.2.1, tape := hf2.2.2.1.trans hf1.2.2.1, output := hf2.2.2.2.1.trans hf1.2.2.2.1, size := by rw [hf2.1, hf1.1]; exact Nat.le_refl _, block := fun y hy hn => by
      have hyg : y ≠ g := fun e => hn (by rw [e])
      rw [hf2.2.2.2.2 y hyg, hf1.2.2.2.2 y hyg]; rfl }⟩
 have hW : Hid (W1 = w.drew.setCells g (0 + k * 4) news) := hH hW1
 have HN : Hid (n - 1 = k + (n - j)) := hH (by omega)
 have mixed : Tryz.prog.follows .mixedOrders = true := by kernel_rfl
 clear s1 s4 e0 la lr hgx h hkn hj s3 s5 s1' hlc hnl hnews hf1 hf2 hb1 hb2 hW1 hW2 hP hPl hzs hzl hz1c hPA hPX hxl h1x h1n
 go_enter Tryz.func140, Tryz.ntmps140
 go_wp2_with fail
 go_region_law (refine step_append_room rfl (.tmp 22) (.tmp 25) 35 rfl 37 i0 4 Tryz.underlying35 hi0 hz1 g 0 k cap (by simp [Act.eval, Act.put]) A (n - j) (cap - j) news (by simp [Act.eval, Act.put]) q1.out hsrc.out q2.out (by omega) q3.out ?_; rw [← hW.out])
 go_wp2_with fail
 go_ret
 rw [← HN.out]
 exact HEND.out
end Go.Proofs.YtonapijgfalpaaaGreat
