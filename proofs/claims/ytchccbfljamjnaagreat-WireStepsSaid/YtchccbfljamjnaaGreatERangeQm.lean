/-
  .
-/
import Derived.Test.YtchccbfljamjnaaGreatEEachQm
set_option maxRecDepth 100000
set_option maxHeartbeats 40000000
namespace Go.Proofs.YtchccbfljamjnaaGreat
open Go.RowKit
set_option linter.unusedVariables false
def Book (B : Nat) (r : Loop) (W : World) : Prop := W.heap[B + 1]? = some (.loop r) ∧ W.heap[B]? = some (.deferred (some []))
theorem Book.put {B : Nat} {r r' : Loop} {W : World} (h : Book B r W) : Book B r' (W.putObj (B + 1) (.loop r')) :=
 ⟨World.putObj_heap_same (Array.getElem?_eq_some_iff.1 h.1).1, (World.putObj_heap_other (by omega)).trans h.2⟩
theorem Book.kept {B : Nat} {r : Loop} {W V : World} (h : Book B r W) (hk : KeepsFrom B W V) : Book B r V := ⟨hk.same _ _ (by omega) h.1 rfl, hk.same _ _ (Nat.le_refl _) h.2 rfl⟩
theorem Book.touched {B : Nat} {r : Loop} {W V : World} {T : Nat → Prop} (h : Book B r W) (ht : za W V T) (hT : ∀ x, T x → B + 2 ≤ x) : Book B r V :=
 ⟨(ht.block _ (lt_of_heap h.1) (fun e => by have := hT _ e; omega)).trans h.1, (ht.block _ (lt_of_heap h.2) (fun e => by have := hT _ e; omega)).trans h.2⟩
def yT (V : World) (x : Nat) : Prop := ∃ o, V.heap[x]? = some o ∧ o.isCells = false
def zba (B : Nat) (T : Nat → Prop) (I : (Nat → Prop) → List Seg → World → Prop) (Ix : Code → (Nat → Prop) → World → Prop) (d c b off : Nat) (k r : Fo) (A : List Seg) (W : World) (e : Exit) (_ : Act) (V : World) : Prop :=
 KeepsFrom B W V ∧ Kept T W V ∧ ((e = .normal ∧ ∃ ka kc, V.cell? ⟨b, off + 3, none⟩ = some (.slice ka (foLen k) kc) ∧ foLen k ≤ kc ∧ I T (⟨d + 1, ka, kc, k⟩ :: ⟨d, some ⟨b, off + 4, none⟩, c - 1, r⟩ :: A) V) ∨ (e = .ret ∧ Ix .ret T V) ∨ ∃ id, e = .exit id ∧ Ix (.exit id) T V)
theorem qM {V : World} {l : Nat} {o : Obj} (o' : Obj) (hl : V.heap[l]? = some o) : za V (V.putObj l o') (fun x => x = l) :=
 ⟨rfl, rfl, rfl, by simp [World.putObj], fun x _ hn => World.putObj_heap_other hn⟩
theorem za.mono {w w' : World} {S S' : Nat → Prop} (h : za w w' S) (hS : ∀ x, S x → S' x) : za w w' S' := ⟨h.os, h.tape, h.output, h.size, fun x hx hn => h.block x hx (fun hs => hn (hS x hs))⟩
theorem ZV {T : Nat → Prop} {V : World} {l : Nat} (o' : Obj) (hT : ¬ T l) : Kept T V (V.putObj l o') := ⟨by simp [World.putObj], fun x hx => World.putObj_heap_other (fun e => hT (e ▸ hx))⟩
theorem YT {n : Nat} {g : Operand} {ps : Array Tmp} {assign body : Code} {Q : Exit → Act → World → Prop} {a : Act} {w : World} (h1 : 1 ≤ n) {NB : Nat} (hg : a.eval g = .func (.func 131) #[] #[.pointer (some ⟨NB, 0, none⟩)])
 (s : Seg) (hd : s.d = 1) (hne : s.f ≠ .nil) (hcap : foLen s.f ≤ s.cap) (hsz : zb s.f ≤ 500000) (hNB : w.cell? ⟨NB, 0, none⟩ = some s.v) (hps : ps.size = 2)
 (I : (Nat → Prop) → List Seg → World → Prop) (Ix : Code → (Nat → Prop) → World → Prop)
 (hI : ∀ {T T' : Nat → Prop} {A : List Seg} {V V' : World}, I T A V → za V V' (fun x => T x ∨ (w.heap.size ≤ x ∧ yT V x)) → vK T T' V V' → I T' A V')
 (hIx : ∀ {c : Code} {T T' : Nat → Prop} {V V' : World}, Ix c T V → za V V' (fun x => T x ∨ (w.heap.size ≤ x ∧ yT V x)) → vK T T' V V' → Ix c T' V')
 (hIe : ∀ {T : Nat → Prop} {A B : List Seg} {d c : Nat} {a : Option Addr} {V : World}, I T (A ++ ⟨d, a, c, .nil⟩ :: B) V → I T (A ++ B) V)
 (h0 : I (fun _ => False) [s] w)
 (hround : ∀ (l : Nat), l = w.heap.size + 1 → ∀ (T : Nat → Prop) (d c bo oo : Nat) (ad : Option Addr) (key : Int × Int × ByteArray) (k r : Fo) (A : List Seg) (V : World), (∀ x, T x → x < V.heap.size ∧ w.heap.size + 2 ≤ x) → w.heap.size + 2 ≤ V.heap.size → I T (⟨d, ad, c, .node bo oo key k r⟩ :: A) V →
   ∃ b off, ad = some ⟨b, off, none⟩ ∧ ∀ (K : Act → World → Prop), (∀ a₁, (∀ V', (∃ o', V' = V.putObj l o' ∧ ∃ o, V.heap[l]? = some o ∧ o.isCells = false) → body.wpIn (Fence.wide.inRound l) (n - 1 - 1) Tryz.prog (zba w.heap.size T I Ix d c b off k r A V') a₁ V') → K a₁ V) →
    assign.wpIn (Fence.wide.inRound l) (n - 1 - 1) Tryz.prog (Exit.then K (fun _ _ _ => False)) { tmps := (ps.zip #[.int .i64 (d : Int), .pointer (some ⟨b, off, none⟩)]).foldl (fun t (p, v) => t.setIfInBounds p v) a.tmps, defers := [] } V)
 (hdone : ∀ (D : Nat) (T : Nat → Prop) (V : World), w.heap.size ≤ D → I T [] V → V.heap[D]? = some (.deferred (some [])) → Q .normal { a with defers := { target := .collected D, args := #[] } :: a.defers } V)
 (hstop : ∀ (D : Nat) (c : Code) (T : Nat → Prop) (V : World), w.heap.size ≤ D → Ix c T V → V.heap[D]? = some (.deferred (some [])) → c.wpIn Fence.wide n Tryz.prog Q { a with defers := { target := .collected D, args := #[] } :: a.defers } V) :
 (Code.rangeFunc g ps assign body).wpIn Fence.wide n Tryz.prog Q a w := by
 obtain ⟨B, hB⟩ : ∃ B, w.heap.size = B := ⟨_, rfl⟩
 simp only [hB] at hI hIx hround hdone hstop
 refine wpIn_rangeFunc fun fn hfn => ?_
 obtain ⟨rec, hrec⟩ : ∃ rec : LoopState → Option Code → Loop, rec = fun st pe => { state := st, pending := pe, fn, tmps := a.tmps, params := ps, assign, body, defers := B } := ⟨_, rfl⟩
 obtain ⟨W1, hW1⟩ : ∃ W1, W1 = (w.alloc (.deferred (some []))).alloc (.loop (rec .ready none)) := ⟨_, rfl⟩
 have hsz1 : W1.heap.size = B + 2 := by rw [hW1]; simp [hB]
 have hblk : ∀ x, x < B → W1.heap[x]? = w.heap[x]? := fun x hx => by rw [hW1, Below.heap_alloc _ _ _ (by simp; omega), Below.heap_alloc _ _ _ (by omega)]
 have hbk : Book B (rec .ready none) W1 := by
  rw [hW1, ← hB]
  refine ⟨?_, (Below.heap_alloc _ _ _ (by simp)).trans (World.alloc_heap_new w _)⟩
  have := World.alloc_heap_new (w.alloc (.deferred (some []))) (.loop (rec .ready none))
  rwa [World.size_alloc] at this
 have hb1 : za w W1 (fun _ => False) := by rw [hW1]; exact ((za.refl w _).alloc _).alloc _
 have hI1 : I (fun _ => False) [s] W1 := hI h0 (hb1.mono (fun _ h => h.elim)) (fun x hx => Or.inl hx)
 have hNBl := World.block_lt_of_cell? _ _ hNB
 have hNB1 : W1.cell? ⟨NB, 0, none⟩ = some s.v := (World.cell?_of_block (hblk NB (by simp only at hNBl; omega))).trans hNB
 refine ⟨B + 1, [{ target := .collected B, args := #[] }], W1, { target := .fn (.func 131) #[.pointer (some ⟨NB, 0, none⟩)], args := #[.func (.yield (B + 1)) #[] #[]] }, W1, 131, #[.func (.yield (B + 1)) #[] #[]] ++ #[.pointer (some ⟨NB, 0, none⟩)], W1, ?_, ?_, ?_, ?_, fun _ => h1, ?_⟩
 · rw [hW1, hrec, ← hB]; exact run_enterLoop_outer _ _ _ _ _
 · simp only [resolve, hg]
   simp [go_sem]
 · intro f' hf'; simp [Target.leads] at hf'; subst hf'; exact trivial
 · simp [invoke, go_sem]
 · obtain ⟨J, hJ⟩ : ∃ J : (Nat → Prop) → List Seg → World → Prop, J = fun T A V => I T A V ∧ Book B (rec .ready none) V ∧ ∀ x, T x → B + 2 ≤ x := ⟨_, rfl⟩
   obtain ⟨Jx, hJx⟩ : ∃ Jx : (Nat → Prop) → World → Prop, Jx = fun T V => ∃ c, Ix c T V ∧ Book B (rec .done (some c)) V ∧ ∀ x, T x → B + 2 ≤ x := ⟨_, rfl⟩
   have hbody : Body Tryz.prog (n - 1 - 1) (B + 1) J Jx := by
    subst hJ hJx
    refine ⟨?_, ?_, ?_, ?_⟩
    · rintro T T' A V V' ⟨j1, j2, j3⟩ ht hw
      have hs := lt_of_heap j2.1
      exact ⟨hI j1 (ht.mono (fun x hx => Or.inl hx)) hw, j2.touched ht j3, fun x hx => (hw x hx).elim (j3 x) (fun h => by omega)⟩
    · rintro T T' V V' ⟨c, j1, j2, j3⟩ ht hw
      have hs := lt_of_heap j2.1
      exact ⟨c, hIx j1 (ht.mono (fun x hx => Or.inl hx)) hw, j2.touched ht j3, fun x hx => (hw x hx).elim (j3 x) (fun h => by omega)⟩
    · rintro T A A' d c ad V ⟨j1, j2⟩
      exact ⟨hIe j1, j2⟩
    · rintro T d c bo oo ad key k r A V hT ⟨j1, j2, j3⟩
      obtain ⟨b, off, e, hr⟩ := hround (B + 1) rfl T d c bo oo ad key k r A V (fun x hx => ⟨hT x hx, j3 x hx⟩) (by have := lt_of_heap j2.1; omega) j1
      refine ⟨b, off, e, ?_⟩
      have hTl : ¬ T (B + 1) := fun h => by have := j3 _ h; omega
      have hy := run_yield (P := Tryz.prog) (args := #[.int .i64 (d : Int), .pointer (some ⟨b, off, none⟩)]) j2.1 (by rw [hrec]; exact hps.symm)
      rw [hrec] at hy
      refine ⟨fn, _, assign, body, hy, roundIn_of_wpIn hfn (hr _ fun a₁ hb => ?_)⟩
      refine ⟨_, run_beginRound j2.1 (by rw [hrec]), ?_⟩
      have hb2 : Book B { rec .ready none with state := .busy } (V.putObj (B + 1) (.loop { rec .ready none with state := .busy })) := j2.put
      refine wpIn_mono (hb _ ⟨_, rfl, _, j2.1, rfl⟩) ?_
      rintro e3 a3 U ⟨hkU, hkT, hp⟩
      have hb3 := hb2.kept hkU
      have fin := fun jump => run_endRound (P := Tryz.prog) jump hb3.1
      rw [hrec] at fin hb3
      have hall : ∀ o', Kept T V (U.putObj (B + 1) o') := fun o' => ((ZV _ hTl).trans hkT).trans (ZV _ hTl)
      have htp : ∀ o', za U (U.putObj (B + 1) o') (fun x => T x ∨ (B ≤ x ∧ yT U x)) := fun o' => (qM o' hb3.1).mono (fun x hx => Or.inr ⟨by omega, by rw [hx]; exact ⟨_, hb3.1, rfl⟩⟩)
      rcases hp with ⟨rfl, ka, kc, c1, c2, hi3⟩ | ⟨rfl, hi3⟩ | ⟨id, rfl, hi3⟩
      · refine ⟨_, _, fin none, hall _, .inl ⟨rfl, ka, kc, ?_, c2, hI hi3 (htp _) (fun x hx => Or.inl hx), ?_, j3⟩⟩
        · refine (World.cell?_of_block (World.putObj_heap_other fun e4 => ?_)).trans c1
          have h5 : U.cell? ⟨B + 1, off + 3, none⟩ = none := by simp [World.cell?, hb3.1]
          simp only at e4
          rw [e4, h5] at c1; cases c1
        · rw [hrec]; exact hb3.put
      · refine ⟨_, _, fin (some .ret), hall _, .inr ⟨rfl, .ret, hIx hi3 (htp _) (fun x hx => Or.inl hx), ?_, j3⟩⟩
        rw [hrec]; exact hb3.put
      · refine ⟨_, _, fin (some (.exit id)), hall _, .inr ⟨rfl, .exit id, hIx hi3 (htp _) (fun x hx => Or.inl hx), ?_, j3⟩⟩
        rw [hrec]; exact hb3.put
   have hstart : J (fun _ => False) [s] W1 := by rw [hJ]; exact ⟨hI1, hbk, fun _ h => h.elim⟩
   refine (callsIn_wide.2 (JC hbody W1 NB s hd hne hcap hsz hNB1 hstart)).mono ?_
   rintro e W2 ⟨⟨v, rfl⟩, (⟨T, hj⟩ | ⟨T, hj⟩)⟩
   · rw [hJ] at hj
     obtain ⟨hi, hb, hT⟩ := hj
     have := run_endLoop (P := Tryz.prog) hb.1 (by rw [hrec]; simp)
     rw [hrec] at this
     refine ⟨none, _, this, hdone B T _ (Nat.le_refl _) (hI hi ((qM _ hb.1).mono (fun x hx => Or.inr ⟨by omega, by rw [hx]; exact ⟨_, hb.1, rfl⟩⟩)) (fun x hx => Or.inl hx)) ((World.putObj_heap_other (by omega)).trans hb.2)⟩
   · rw [hJx] at hj
     obtain ⟨c, hi, hb, hT⟩ := hj
     have := run_endLoop (P := Tryz.prog) hb.1 (by rw [hrec]; simp)
     rw [hrec] at this
     exact ⟨some c, _, this, hstop B c T _ (Nat.le_refl _) (hIx hi ((qM _ hb.1).mono (fun x hx => Or.inr ⟨by omega, by rw [hx]; exact ⟨_, hb.1, rfl⟩⟩)) (fun x hx => Or.inl hx)) ((World.putObj_heap_other (by omega)).trans hb.2)⟩
theorem Y9 (w : World) (a : Option Addr) (n c : Nat) : Calls Tryz.prog 97 #[.slice a n c] w fun e w' => e = .returned (.func (.func 131) #[] #[.pointer (some ⟨w.heap.size, 0, none⟩)]) ∧ w' = w.alloc (.cells #[.slice a n c] 33) := by
 have hmf : ∀ (fn : Fn) (first cap : Array Value) (w : World), (Instr.makeFunc fn first cap).run Tryz.prog w = .ok (.func fn first cap) w := fun _ _ _ _ => rfl
 go_enter Tryz.func97, Tryz.ntmps97
 go_wp2_with fail
 go_ret
 exact ⟨rfl, rfl⟩
end Go.Proofs.YtchccbfljamjnaaGreat
