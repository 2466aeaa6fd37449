/-
  .
-/
import Derived.Test.YtonapijgfalpaaaEEachQw
import Derived.Lib.SliceRun
set_option linter.unusedVariables false
namespace Go.Proofs.Ytonapijgfalpaaa
open Go.RowKit
def Book (B : Nat) (r : Loop) (W : World) : Prop := W.heap[B + 1]? = some (.loop r) ∧ W.heap[B]? = some (.deferred (some []))
theorem Book.put {B : Nat} {r r' : Loop} {W : World} (h : Book B r W) : Book B r' (W.putObj (B + 1) (.loop r')) :=
 ⟨World.putObj_heap_same (Array.getElem?_eq_some_iff.1 h.1).1, (World.putObj_heap_other (by omega)).trans h.2⟩
theorem Book.kept {B : Nat} {r : Loop} {W V : World} (h : Book B r W) (hk : KeepsFrom B W V) : Book B r V := ⟨hk.same _ _ (by omega) h.1 rfl, hk.same _ _ (Nat.le_refl _) h.2 rfl⟩
theorem Book.touched {B : Nat} {r : Loop} {W V : World} {T : Nat → Prop} (h : Book B r W) (ht : Touched W V T) (hT : ∀ x, T x → B + 2 ≤ x) : Book B r V :=
 ⟨(ht.block _ (lt_of_heap h.1) (fun e => by have := hT _ e; omega)).trans h.1, (ht.block _ (lt_of_heap h.2) (fun e => by have := hT _ e; omega)).trans h.2⟩
def NonCells (V : World) (x : Nat) : Prop := ∃ o, V.heap[x]? = some o ∧ o.isCells = false
def LeftE (B : Nat) (T : Nat → Prop) (I : (Nat → Prop) → List Seg → World → Prop) (Ix : Code → (Nat → Prop) → World → Prop) (d c b off : Nat) (k r : Fo) (A : List Seg) (W : World) (e : Exit) (_ : Act) (V : World) : Prop :=
 KeepsFrom B W V ∧ Kept T W V ∧ ((e = .normal ∧ ∃ ka kc, V.cell? ⟨b, off + 3, none⟩ = some (.slice ka (foLen k) kc) ∧ foLen k ≤ kc ∧ I T (⟨d + 1, ka, kc, k⟩ :: ⟨d, some ⟨b, off + 4, none⟩, c - 1, r⟩ :: A) V) ∨ (e = .ret ∧ Ix .ret T V) ∨ ∃ id, e = .exit id ∧ Ix (.exit id) T V)
theorem touched_put {V : World} {l : Nat} {o : Obj} (o' : Obj) (hl : V.heap[l]? = some o) : Touched V (V.putObj l o') (fun x => x = l) :=
 ⟨rfl, rfl, rfl, by simp [World.putObj], fun x _ hn => World.putObj_heap_other hn⟩
theorem Touched.mono {w w' : World} {S S' : Nat → Prop} (h : Touched w w' S) (hS : ∀ x, S x → S' x) : Touched w w' S' := ⟨h.os, h.tape, h.output, h.size, fun x hx hn => h.block x hx (fun hs => hn (hS x hs))⟩
theorem kept_put {T : Nat → Prop} {V : World} {l : Nat} (o' : Obj) (hT : ¬ T l) : Kept T V (V.putObj l o') := ⟨by simp [World.putObj], fun x hx => World.putObj_heap_other (fun e => hT (e ▸ hx))⟩
theorem range_each {n : Nat} {g : Operand} {ps : Array Tmp} {assign body : Code} {Q : Exit → Act → World → Prop} {a : Act} {w : World} (h1 : 1 ≤ n) {NB : Nat} (hg : a.eval g = .func (.func 181) #[] #[.pointer (some ⟨NB, 0, none⟩)])
 (s : Seg) (hd : s.d = 1) (hne : s.f ≠ .nil) (hcap : foLen s.f ≤ s.cap) (hsz : foSize s.f ≤ 500000) (hNB : w.cell? ⟨NB, 0, none⟩ = some s.v) (hps : ps.size = 2)
 (I : (Nat → Prop) → List Seg → World → Prop) (Ix : Code → (Nat → Prop) → World → Prop)
 (hI : ∀ {T T' : Nat → Prop} {A : List Seg} {V V' : World}, I T A V → Touched V V' (fun x => T x ∨ (w.heap.size ≤ x ∧ NonCells V x)) → Wider T T' V V' → I T' A V')
 (hIx : ∀ {c : Code} {T T' : Nat → Prop} {V V' : World}, Ix c T V → Touched V V' (fun x => T x ∨ (w.heap.size ≤ x ∧ NonCells V x)) → Wider T T' V V' → Ix c T' V')
 (hIe : ∀ {T : Nat → Prop} {A B : List Seg} {d c : Nat} {a : Option Addr} {V : World}, I T (A ++ ⟨d, a, c, .nil⟩ :: B) V → I T (A ++ B) V)
 (h0 : I (fun _ => False) [s] w)
 (hround : ∀ (l : Nat), l = w.heap.size + 1 → ∀ (T : Nat → Prop) (d c bo oo : Nat) (ad : Option Addr) (key : Int × Int × ByteArray) (k r : Fo) (A : List Seg) (V : World), (∀ x, T x → x < V.heap.size ∧ w.heap.size + 2 ≤ x) → w.heap.size + 2 ≤ V.heap.size → I T (⟨d, ad, c, .node bo oo key k r⟩ :: A) V →
   ∃ b off, ad = some ⟨b, off, none⟩ ∧ ∀ (K : Act → World → Prop), (∀ a₁, (∀ V', (∃ o', V' = V.putObj l o' ∧ ∃ o, V.heap[l]? = some o ∧ o.isCells = false) → body.wpIn (Fence.wide.inRound l) (n - 1 - 1) Try.prog (LeftE w.heap.size T I Ix d c b off k r A V') a₁ V') → K a₁ V) →
    assign.wpIn (Fence.wide.inRound l) (n - 1 - 1) Try.prog (Exit.then K (fun _ _ _ => False)) { tmps := (ps.zip #[.int .i64 (d : Int), .pointer (some ⟨b, off, none⟩)]).foldl (fun t (p, v) => t.setIfInBounds p v) a.tmps, defers := [] } V)
 (hdone : ∀ (D : Nat) (T : Nat → Prop) (V : World), w.heap.size ≤ D → I T [] V → V.heap[D]? = some (.deferred (some [])) → Q .normal { a with defers := { target := .collected D, args := #[] } :: a.defers } V)
 (hstop : ∀ (D : Nat) (c : Code) (T : Nat → Prop) (V : World), w.heap.size ≤ D → Ix c T V → V.heap[D]? = some (.deferred (some [])) → c.wpIn Fence.wide n Try.prog Q { a with defers := { target := .collected D, args := #[] } :: a.defers } V) :
 (Code.rangeFunc g ps assign body).wpIn Fence.wide n Try.prog Q a w := by
 obtain ⟨B, hB⟩ : ∃ B, w.heap.size = B := ⟨_, rfl⟩
 simp only [hB] at hI hIx hround hdone hstop
 refine wpIn_rangeFunc fun fn hfn => ?_
 obtain ⟨rec, hrec⟩ : ∃ rec : LoopState → Option Code → Loop, rec = fun st pe => { state := st, pending := pe, fn, tmps := a.tmps, params := ps, assign, body, defers := B } := ⟨_, rfl⟩
 obtain ⟨W1, hW1⟩ : ∃ W1, W1 = (w.alloc (.deferred (some []))).alloc (.loop (rec .ready none)) := ⟨_, rfl⟩
 have hsz1 : W1.heap.size = B + 2 := by rw [hW1]; simp [hB]
 have hblk : ∀ x, x < B → W1.heap[x]? = w.heap[x]? := fun x hx => by rw [hW1, Below.heap_alloc _ _ _ (by simp; omega), Below.heap_alloc _ _ _ (by omega)]
 have hbk : Book B (rec .ready none) W1 := by
  rw [hW1, ← hB]
  refine ⟨?_, (Below.heap_alloc _ _ _ (by simp)).trans (World.alloc_heap_new w _)⟩
  have := World.alloc_heap_new (w.alloc (.deferred (some []))) (.loop (rec .ready none))
  rwa [World.size_alloc] at this
 have hb1 : Touched w W1 (fun _ => False) := by rw [hW1]; exact ((Touched.refl w _).alloc _).alloc _
 have hI1 : I (fun _ => False) [s] W1 := hI h0 (hb1.mono (fun _ h => h.elim)) (fun x hx => Or.inl hx)
 have hNBl := World.block_lt_of_cell? _ _ hNB
 have hNB1 : W1.cell? ⟨NB, 0, none⟩ = some s.v := (World.cell?_of_block (hblk NB (by simp only at hNBl; omega))).trans hNB
 refine ⟨B + 1, [{ target := .collected B, args := #[] }], W1, { target := .fn (.func 181) #[.pointer (some ⟨NB, 0, none⟩)], args := #[.func (.yield (B + 1)) #[] #[]] }, W1, 181, #[.func (.yield (B + 1)) #[] #[]] ++ #[.pointer (some ⟨NB, 0, none⟩)], W1, ?_, ?_, ?_, ?_, fun _ => h1, ?_⟩
 · rw [hW1, hrec, ← hB]; exact run_enterLoop_outer _ _ _ _ _
 · simp only [resolve, hg]
   simp [go_sem]
 · intro f' hf'; simp [Target.leads] at hf'; subst hf'; exact trivial
 · simp [invoke, go_sem]
 · obtain ⟨J, hJ⟩ : ∃ J : (Nat → Prop) → List Seg → World → Prop, J = fun T A V => I T A V ∧ Book B (rec .ready none) V ∧ ∀ x, T x → B + 2 ≤ x := ⟨_, rfl⟩
   obtain ⟨Jx, hJx⟩ : ∃ Jx : (Nat → Prop) → World → Prop, Jx = fun T V => ∃ c, Ix c T V ∧ Book B (rec .done (some c)) V ∧ ∀ x, T x → B + 2 ≤ x := ⟨_, rfl⟩
   have hbody : Body Try.prog (n - 1 - 1) (B + 1) J Jx := by
    subst hJ hJx
    refine ⟨?_, ?_, ?_, ?_⟩
    · rintro T T' A V V' ⟨j1, j2, j3⟩ ht hw
      have hs := lt_of_heap j2.1
      exact ⟨hI j1 (ht.mono (fun x hx => Or.inl hx)) hw, j2.touched ht j3, fun x hx => (hw x hx).elim (j3 x) (fun h => by omega)⟩
    · rintro T T' V V' ⟨c, j1, j2, j3⟩ ht hw
      have hs := lt_of_heap j2.1
      exact ⟨c, hIx j1 (ht.mono (fun x hx => Or.inl hx)) hw, j2.touched ht j3, fun x hx => (hw x hx).elim (j3 x) (fun h => by omega)⟩
    · rintro T A A' d c ad V ⟨j1, j2⟩
      exact ⟨hIe j1, j2⟩
    · rintro T d c bo oo ad key k r A V hT ⟨j1, j2, j3⟩
      obtain ⟨b, off, e, hr⟩ := hround (B + 1) rfl T d c bo oo ad key k r A V (fun x hx => ⟨hT x hx, j3 x hx⟩) (by have := lt_of_heap j2.1; omega) j1
      refine ⟨b, off, e, ?_⟩
      have hTl : ¬ T (B + 1) := fun h => by have := j3 _ h; omega
      have hy := run_yield (P := Try.prog) (args := #[.int .i64 (d : Int), .pointer (some ⟨b, off, none⟩)]) j2.1 (by rw [hrec]; exact hps.symm)
      rw [hrec] at hy
      refine ⟨fn, _, assign, body, hy, roundIn_of_wpIn hfn (hr _ fun a₁ hb => ?_)⟩
      refine ⟨_, run_beginRound j2.1 (by rw [hrec]), ?_⟩
      have hb2 : Book B { rec .ready none with state := .busy } (V.putObj (B + 1) (.loop { rec .ready none with state := .busy })) := j2.put
      refine wpIn_mono (hb _ ⟨_, rfl, _, j2.1, rfl⟩) ?_
      rintro e3 a3 U ⟨hkU, hkT, hp⟩
      have hb3 := hb2.kept hkU
      have fin := fun jump => run_endRound (P := Try.prog) jump hb3.1
      rw [hrec] at fin hb3
      have hall : ∀ o', Kept T V (U.putObj (B + 1) o') := fun o' => ((kept_put _ hTl).trans hkT).trans (kept_put _ hTl)
      have htp : ∀ o', Touched U (U.putObj (B + 1) o') (fun x => T x ∨ (B ≤ x ∧ NonCells U x)) := fun o' => (touched_put o' hb3.1).mono (fun x hx => Or.inr ⟨by omega, by rw [hx]; exact ⟨_, hb3.1, rfl⟩⟩)
      rcases hp with ⟨rfl, ka, kc, c1, c2, hi3⟩ | ⟨rfl, hi3⟩ | ⟨id, rfl, hi3⟩
      · refine ⟨_, _, fin none, hall _, .inl ⟨rfl, ka, kc, ?_, c2, hI hi3 (htp _) (fun x hx => Or.inl hx), ?_, j3⟩⟩
        · refine (World.cell?_of_block (World.putObj_heap_other fun e4 => ?_)).trans c1
          have h5 : U.cell? ⟨B + 1, off + 3, none⟩ = none := by simp [World.cell?, hb3.1]
          simp only at e4
          rw [e4, h5] at c1; cases c1
        · rw [hrec]; exact hb3.put
      · refine ⟨_, _, fin (some .ret), hall _, .inr ⟨rfl, .ret, hIx hi3 (htp _) (fun x hx => Or.inl hx), ?_, j3⟩⟩
        rw [hrec]; exact hb3.put
      · refine ⟨_, _, fin (some (.exit id)), hall _, .inr ⟨rfl, .exit id, hIx hi3 (htp _) (fun x hx => Or.inl hx), ?_, j3⟩⟩
        rw [hrec]; exact hb3.put
   have hstart : J (fun _ => False) [s] W1 := by rw [hJ]; exact ⟨hI1, hbk, fun _ h => h.elim⟩
   refine (callsIn_wide.2 (each_any hbody W1 NB s hd hne hcap hsz hNB1 hstart)).mono ?_
   rintro e W2 ⟨⟨v, rfl⟩, (⟨T, hj⟩ | ⟨T, hj⟩)⟩
   · rw [hJ] at hj
     obtain ⟨hi, hb, hT⟩ := hj
     have := run_endLoop (P := Try.prog) hb.1 (by rw [hrec]; simp)
     rw [hrec] at this
     refine ⟨none, _, this, hdone B T _ (Nat.le_refl _) (hI hi ((touched_put _ hb.1).mono (fun x hx => Or.inr ⟨by omega, by rw [hx]; exact ⟨_, hb.1, rfl⟩⟩)) (fun x hx => Or.inl hx)) ((World.putObj_heap_other (by omega)).trans hb.2)⟩
   · rw [hJx] at hj
     obtain ⟨c, hi, hb, hT⟩ := hj
     have := run_endLoop (P := Try.prog) hb.1 (by rw [hrec]; simp)
     rw [hrec] at this
     exact ⟨some c, _, this, hstop B c T _ (Nat.le_refl _) (hIx hi ((touched_put _ hb.1).mono (fun x hx => Or.inr ⟨by omega, by rw [hx]; exact ⟨_, hb.1, rfl⟩⟩)) (fun x hx => Or.inl hx)) ((World.putObj_heap_other (by omega)).trans hb.2)⟩
set_option maxRecDepth 100000 in
set_option maxHeartbeats 1000000 in
theorem each_fn (w : World) (a : Option Addr) (n c : Nat) : Calls Try.prog 156 #[.slice a n c] w fun e w' => e = .returned (.func (.func 181) #[] #[.pointer (some ⟨w.heap.size, 0, none⟩)]) ∧ w' = w.alloc (.cells #[.slice a n c] 22) := by
 have hmf : ∀ (fn : Fn) (first cap : Array Value) (w : World), (Instr.makeFunc fn first cap).run Try.prog w = .ok (.func fn first cap) w := fun _ _ _ _ => rfl
 go_enter Try.func156, Try.ntmps156
 go_wp2_with fail
 go_ret
 exact ⟨rfl, rfl⟩
abbrev Sp := Nat × (Int × Int × ByteArray) × Fo
def spF : Nat → Fo → List Sp
 | _, .nil => []
 | d, .node _ _ k l r => (d, k, l) :: (spF (d + 1) l ++ spF d r)
theorem spF_length : ∀ (d : Nat) (f : Fo), (spF d f).length = foSize f
 | _, .nil => rfl
 | d, .node _ _ k l r => by simp [spF, foSize, spF_length (d + 1) l, spF_length d r]
end Go.Proofs.Ytonapijgfalpaaa
namespace Go.Proofs.Ytonapijgfalpaaa
open Go.RowKit Go.Shelf
attribute [local go_sem] Oper.semAt_some
def rootF (t : Tr) : Fo := .node 0 0 (t.id, t.kind, t.text) t.kids .nil
theorem rootF_size (t : Tr) : foSize (rootF t) = foSize t.kids + 1 := by simp [rootF, foSize]
theorem root_lies {w W : World} {S : Nat → Prop} {nb cap : Nat} {ka : Option Addr} {t : Tr} (hS : ∀ x, S x → W.heap[x]? = w.heap[x]?) (hc : foLen t.kids ≤ cap) (hk : FoAt w S t.kids ka) (hb : W.heap[nb]? = some (.cells #[.int .i64 t.id, .int .i64 t.kind, .string t.text, .slice ka (foLen t.kids) cap] 24 (0, 0))) : FoAt W (fun x => S x ∨ x = nb) (rootF t) (some ⟨nb, 0, none⟩) :=
 ⟨nb, 0, ka, cap, rfl, Or.inr rfl, by rw [cell_of_row _ _ 0 _ _ _ hb]; rfl, by rw [cell_of_row _ _ 1 _ _ _ hb]; rfl, by rw [cell_of_row _ _ 2 _ _ _ hb]; rfl, by rw [cell_of_row _ _ 3 _ _ _ hb]; rfl, hc, hk.kept fun x hx => ⟨Or.inl hx, hS x hx⟩, True.intro⟩
end Go.Proofs.Ytonapijgfalpaaa
namespace Go.Proofs.Ytonapijgfalpaaa
open Go.RowKit
def fpi (id : Int) : Nat → Fo → Option (List Nat)
 | _, .nil => none
 | i, .node _ _ k l r => if k.1 = id then some [i] else match fpi id 0 l with
   | some p => some (i :: p)
   | none => fpi id (i + 1) r
def pathT (id : Int) (t : Tr) : Option (List Nat) := if t.id = id then some [] else fpi id 0 t.kids
def headT : Fo → Option Tr
 | .nil => none
 | .node _ _ k l _ => some ⟨k.1, k.2.1, k.2.2, l⟩
def kidF (f : Fo) (j : Nat) : Option Tr := headT (foDrop j f)
def atT : Tr → List Nat → Option Tr
 | t, [] => some t
 | t, i :: p => match kidF t.kids i with
   | none => none
   | some u => atT u p
theorem kidF_lt {f : Fo} {j : Nat} (h : j < foLen f) : ∃ b o k l r, foDrop j f = .node b o k l r ∧ kidF f j = some ⟨k.1, k.2.1, k.2.2, l⟩ ∧ foDrop (j + 1) f = r := by
 obtain ⟨b, o, k, l, r, h1, h2, _⟩ := foDrop_node j f h
 exact ⟨b, o, k, l, r, h1, by rw [kidF, h1]; rfl, h2⟩
theorem kidF_ge {f : Fo} {j : Nat} (h : foLen f ≤ j) : kidF f j = none := by rw [kidF, foDrop_nil j f h]; rfl
theorem kidF_some {f : Fo} {j : Nat} {u : Tr} (h : kidF f j = some u) : j < foLen f := by
 rcases Nat.lt_or_ge j (foLen f) with h1 | h1
 · exact h1
 · rw [kidF_ge h1] at h; cases h
theorem fpi_drop {id : Int} {f : Fo} {j : Nat} (h : j < foLen f) : ∀ {u : Tr}, kidF f j = some u → fpi id j (foDrop j f) = if u.id = id then some [j] else match fpi id 0 u.kids with
 | some p => some (j :: p)
 | none => fpi id (j + 1) (foDrop (j + 1) f) := by
 intro u hu
 obtain ⟨b, o, k, l, r, h1, h2, h3⟩ := kidF_lt h
 rw [h2] at hu; cases hu
 rw [h1, h3]; rfl
theorem foDrop_zero (f : Fo) : foDrop 0 f = f := by cases f <;> rfl
structure Fr where
 a : Option Addr
 cap : Nat
 f : Fo
 p : Int
def Fr.cells (x : Fr) : List Value := [.slice x.a (foLen x.f) x.cap, .int .i64 x.p]
def Fr.nx (x : Fr) : Nat := (x.p + 1).toNat
def places (L : List Fr) : List Nat := L.reverse.map fun x => x.p.toNat
def nextS : List Fr → List Fr
 | [] => []
 | x :: r => if x.p + 1 < (foLen x.f : Int) then ⟨x.a, x.cap, x.f, x.p + 1⟩ :: r else nextS r
def seekS (id : Int) : List Fr → Option (List Nat)
 | [] => none
 | x :: r => match fpi id x.nx (foDrop x.nx x.f) with
   | some q => some (places r ++ q)
   | none => seekS id r
def curS (id : Int) : List Fr → Option (List Nat)
 | [] => none
 | x :: r => match fpi id x.p.toNat (foDrop x.p.toNat x.f) with
   | some q => some (places r ++ q)
   | none => seekS id r
def leftS : List Fr → Nat
 | [] => 0
 | x :: r => foSize (foDrop x.nx x.f) + leftS r
def ChainS (root : Fo) : List Fr → Prop
 | [] => True
 | [x] => x.f = root
 | x :: y :: r => (0 ≤ y.p ∧ ∃ u, kidF y.f y.p.toNat = some u ∧ x.f = u.kids) ∧ ChainS root (y :: r)
def Fr.ok (x : Fr) : Prop := 0 ≤ x.p ∧ x.p < (foLen x.f : Int)
theorem ChainS.tail {root : Fo} {x : Fr} {r : List Fr} (h : ChainS root (x :: r)) : ChainS root r := by
 cases r with
 | nil => trivial
 | cons y r => exact h.2
theorem nextS_cur (id : Int) : ∀ L : List Fr, (∀ x ∈ L, -1 ≤ x.p) → curS id (nextS L) = seekS id L
 | [], _ => rfl
 | x :: r, h => by
   have hx := h x (by simp)
   by_cases hl : x.p + 1 < (foLen x.f : Int)
   · rw [nextS, if_pos hl]; rfl
   · rw [nextS, if_neg hl, nextS_cur id r (fun y hy => h y (by simp [hy])), seekS]
     rw [foDrop_nil x.nx x.f (by unfold Fr.nx; omega)]; rfl
theorem nextS_chain {root : Fo} : ∀ L : List Fr, ChainS root L → ChainS root (nextS L)
 | [], _ => trivial
 | x :: r, h => by
   by_cases hl : x.p + 1 < (foLen x.f : Int)
   · rw [nextS, if_pos hl]
     cases r with
     | nil => exact h
     | cons y r => exact h
   · rw [nextS, if_neg hl]; exact nextS_chain r h.tail
theorem nextS_ok : ∀ L : List Fr, (∀ x ∈ L, -1 ≤ x.p) → (∀ x ∈ L.tail, x.ok) → ∀ x ∈ nextS L, x.ok
 | [], _, _, _, h => by cases h
 | x :: r, h1, h2, y, hy => by
   by_cases hl : x.p + 1 < (foLen x.f : Int)
   · rw [nextS, if_pos hl] at hy
     rcases List.mem_cons.1 hy with rfl | hy
     · exact ⟨by have := h1 x (by simp); simp only; omega, hl⟩
     · exact h2 y hy
   · rw [nextS, if_neg hl] at hy
     exact nextS_ok r (fun z hz => h1 z (by simp [hz])) (fun z hz => h2 z (List.mem_of_mem_tail hz)) y hy
theorem nextS_mem (P : Option Addr → Nat → Fo → Prop) : ∀ L : List Fr, (∀ x ∈ L, P x.a x.cap x.f) → ∀ x ∈ nextS L, P x.a x.cap x.f
 | [], _, _, h => by cases h
 | x :: r, h, y, hy => by
   by_cases hl : x.p + 1 < (foLen x.f : Int)
   · rw [nextS, if_pos hl] at hy
     rcases List.mem_cons.1 hy with rfl | hy
     · exact h x (by simp)
     · exact h y (by simp [hy])
   · rw [nextS, if_neg hl] at hy
     exact nextS_mem P r (fun z hz => h z (by simp [hz])) y hy
theorem nextS_length : ∀ L : List Fr, (nextS L).length ≤ L.length
 | [] => Nat.le_refl _
 | x :: r => by
   by_cases hl : x.p + 1 < (foLen x.f : Int)
   · rw [nextS, if_pos hl]; simp
   · rw [nextS, if_neg hl]; have := nextS_length r; simp; omega
theorem foDrop_size {f : Fo} {j : Nat} {u : Tr} (h : kidF f j = some u) : foSize (foDrop j f) = foSize u.kids + foSize (foDrop (j + 1) f) + 1 := by
 obtain ⟨b, o, k, l, r, h1, h2, h3⟩ := kidF_lt (kidF_some h)
 rw [h2] at h; cases h
 rw [h1, h3]; simp [foSize]
def curLeft : List Fr → Nat
 | [] => 0
 | x :: r => foSize (foDrop x.p.toNat x.f) + leftS r
theorem nextS_left : ∀ L : List Fr, (∀ x ∈ L, -1 ≤ x.p) → curLeft (nextS L) ≤ leftS L
 | [], _ => Nat.le_refl _
 | x :: r, h => by
   have hx := h x (by simp)
   by_cases hl : x.p + 1 < (foLen x.f : Int)
   · rw [nextS, if_pos hl]
     simp only [curLeft, leftS, Fr.nx]
     exact Nat.le_refl _
   · rw [nextS, if_neg hl]
     have h1 := nextS_left r (fun z hz => h z (by simp [hz]))
     rw [leftS]; omega
theorem leftS_push {x : Fr} {r : List Fr} {u : Tr} {a : Option Addr} {c : Nat} (hx : x.ok) (hu : kidF x.f x.p.toNat = some u) : leftS (⟨a, c, u.kids, -1⟩ :: x :: r) + 1 = curLeft (x :: r) := by
 have h1 := foDrop_size hu
 have h2 : x.nx = x.p.toNat + 1 := by unfold Fr.nx; have := hx.1; omega
 have h3 : (Fr.mk a c u.kids (-1)).nx = 0 := by unfold Fr.nx; simp
 simp only [curLeft, leftS, h2, h3, foDrop_zero]; omega
theorem cur_here {id : Int} {x : Fr} {r : List Fr} {u : Tr} (hx : x.ok) (hu : kidF x.f x.p.toNat = some u) (hid : u.id = id) : curS id (x :: r) = some (places (x :: r)) := by
 rw [curS, fpi_drop (kidF_some hu) hu, if_pos hid]
 simp [places]
theorem cur_on {id : Int} {x : Fr} {r : List Fr} {u : Tr} {a : Option Addr} {c : Nat} (hx : x.ok) (hu : kidF x.f x.p.toNat = some u) (hid : ¬ u.id = id) : curS id (x :: r) = seekS id (⟨a, c, u.kids, -1⟩ :: x :: r) := by
 rw [curS, fpi_drop (kidF_some hu) hu, if_neg hid]
 have h2 : x.nx = x.p.toNat + 1 := by unfold Fr.nx; have := hx.1; omega
 have h3 : (Fr.mk a c u.kids (-1)).nx = 0 := by unfold Fr.nx; simp
 simp only [seekS, h2, h3, foDrop_zero]
 cases h : fpi id 0 u.kids with
 | none => rfl
 | some p => simp [places]
theorem chain_at {t : Tr} {b o : Nat} : ∀ (L : List Fr), ChainS (.node b o (t.id, t.kind, t.text) t.kids .nil) L → (∀ x ∈ L, x.ok) → ∀ x r, L = x :: r → ∃ p u, places L = 0 :: p ∧ atT t p = some u ∧ kidF x.f x.p.toNat = some u
 | [x], h, hok, _, _, rfl => by
   simp only [ChainS] at h
   have h1 := hok x (by simp)
   rw [Fr.ok, h] at h1
   simp only [foLen] at h1
   have h2 : x.p = 0 := by omega
   exact ⟨[], t, by simp [places, h2], rfl, by rw [h, h2]; rfl⟩
 | x :: y :: r, h, hok, _, _, rfl => by
   obtain ⟨p, u, h1, h2, h3⟩ := chain_at (y :: r) h.2 (fun z hz => hok z (by simp [hz])) y r rfl
   obtain ⟨v, h4, h5⟩ := h.1.2
   rw [h3] at h4; cases h4
   have h6 := hok x (by simp)
   obtain ⟨b', o', k, l, q, h7, h8, _⟩ := kidF_lt (f := x.f) (j := x.p.toNat) (by have := h6.1; have := h6.2; omega)
   refine ⟨p ++ [x.p.toNat], _, ?_, ?_, h8⟩
   · rw [places, List.reverse_cons, List.map_append]
     have h9 := h1
     rw [places] at h9
     rw [h9]; rfl
   · have e : ∀ (p : List Nat) (t : Tr) (u : Tr) (j : Nat), atT t p = some u → atT t (p ++ [j]) = kidF u.kids j := by
      intro p
      induction p with
      | nil => intro t u j h; cases h; simp [atT]; cases kidF t.kids j <;> rfl
      | cons i p ih =>
        intro t u j h
        simp only [List.cons_append, atT] at h ⊢
        cases hk : kidF t.kids i with
        | none => rw [hk] at h; cases h
        | some v => rw [hk] at h; simp only at h ⊢; exact ih v u j h
     rw [e p t u _ h2, ← h5]; exact h8
theorem Try.infoN : (Try.prog.info? 24).map (fun i => (i.size, i.bytes, i.zero.map (fun z => z.cells.size))) = some (4, 56, some 4) := by kernel_rfl
def CloneC (w : World) (t : TypeId) (size n : Nat) (xs : List Value) (e : Ending) (w' : World) : Prop := ∃ v', e = .returned v' ∧ Below w.heap.size w w' ∧ w'.ownsRow w.heap.size t size v' n xs
theorem Try.noneNodes (w : World) (a : Option Addr) (n c : Nat) : (binOp .eql 22 (.slice a n c) (.slice none 0 0)).run Try.prog w = .ok (.bool a.isNone) w := Lib.run_eql_slice_nil w _ _ a n c 0 0 Try.underlying22
set_option maxRecDepth 100000 in
set_option maxHeartbeats 1000000 in
theorem clone_Nodes (w : World) (a : Option Addr) (n cap : Nat) (xs : List Value) (hl : xs.length = n * 4) (h1 : ∀ u ∈ xs, u.oneCell' = true) (hn : n ≤ 1000000) (hc : ∀ ad, a = some ad → ∀ j u, xs[j]? = some u → w.cell? (ad.add j) = some u) (h0 : a = none → n = 0) :
 Calls Try.prog 157 #[.slice a n cap] w (CloneC w 24 4 n xs) := by
 have hq := Try.noneNodes
 cases a with
 | none =>
   have hn0 := h0 rfl
   subst hn0
   have hx : xs = [] := List.eq_nil_of_length_eq_zero (by simpa using hl)
   subst hx
   clear hl h1 hn hc h0
   go_enter Try.func157, Try.ntmps157
   go_wp2_with fail
   go_ret
   exact ⟨_, rfl, Below.refl _ _, World.ownsRow_nil _ _ _ _⟩
 | some ad =>
   have HC := Lib.hid (And.intro hl (And.intro h1 (hc ad rfl)))
   obtain ⟨i0, z0, hi0, hz0, hz1, hz2, hz3⟩ := info_wide Try.infoN
   have HI := Lib.hid (And.intro hi0 (And.intro hz0 (And.intro hz1 (And.intro hz2 hz3))))
   clear hl h1 hc h0 hi0 hz0 hz1 hz2 hz3
   go_enter Try.func157, Try.ntmps157
   go_wp2_with (at_builtin; refine wpList_append_own_at _ rfl (.tmp 5) (.tmp 6) _ rfl w.heap.size 24 i0 z0 4 56 Try.underlying22 HI.out.1 HI.out.2.1 HI.out.2.2.1 HI.out.2.2.2.1 HI.out.2.2.2.2 (by omega) (.slice (some ⟨w.heap.size, 0, none⟩) 0 0) 0 [] rfl (World.ownsRow_made w #[] 0 (Nat.le_refl _) (by unfold maxLen; omega) rfl) ad n cap xs rfl HC.out.1 (fun j u hj => Lib.cell?_alloc_some _ (HC.out.2.2 j u hj)) HC.out.2.1 (by unfold maxLen; omega) (by omega) (by simp) ?_; intro v' w1 hown hgrow _ hat)
   go_ret
   have hs := hgrow.size
   rw [World.size_alloc] at hs
   exact ⟨_, rfl, ⟨hgrow.os, hgrow.tape, hgrow.output, by omega, fun x hx => by
    rw [hgrow.block x (by rw [World.size_alloc]; omega) (by simp [Value.ownBlock]; omega), Below.heap_alloc _ _ _ hx]⟩, by rw [Nat.zero_add, List.nil_append] at hown; exact hown⟩
end Go.Proofs.Ytonapijgfalpaaa
namespace Go.Proofs.Ytonapijgfalpaaa
open Go.RowKit Go.Shelf
attribute [local go_sem] Oper.semAt_some
def CellsB (w : World) (b : Nat) : Prop := ∃ cs t fr, w.heap[b]? = some (.cells cs t fr)
theorem CellsB.lt {w : World} {b : Nat} (h : CellsB w b) : b < w.heap.size := by obtain ⟨_, _, _, h⟩ := h; exact lt_of_heap h
theorem cellsB {w : World} {b o : Nat} {v : Value} (h : w.cell? ⟨b, o, none⟩ = some v) : CellsB w b := by
 unfold World.cell? at h
 split at h
 · rename_i cs t fr hh; exact ⟨_, _, _, hh⟩
 · cases h
def XT (T : Nat → Prop) (V : World) : Nat → Prop := fun x => CellsB V x ∧ ¬ T x
theorem fo_clone {w w' : World} {X X' : Nat → Prop} {cb co n cap cap' rb : Nat} {ka ka' : Option Addr} (hX : ∀ x, X x → X' x) (hsame : ∀ b o, X b → ¬ (b = cb ∧ o = co) → w'.cell? ⟨b, o, none⟩ = w.cell? ⟨b, o, none⟩)
 (hold : w.cell? ⟨cb, co, none⟩ = some (.slice ka n cap)) (hnew : w'.cell? ⟨cb, co, none⟩ = some (.slice ka' n cap')) (hcap : n ≤ cap')
 (hrow : 0 < n → ka' = some ⟨rb, 0, none⟩ ∧ X' rb ∧ ∀ b0 off, ka = some ⟨b0, off, none⟩ → ∀ j v, j < n * 4 → w.cell? ⟨b0, off + j, none⟩ = some v → w'.cell? ⟨rb, j, none⟩ = some v) :
 ∀ (f : Fo), (∀ a, FoAt w X f a → FoAt w' X' f a) ∧ (∀ b0 off rb' o', FoAt w X f (some ⟨b0, off, none⟩) → X' rb' → (∀ j v, j < foLen f * 4 → w.cell? ⟨b0, off + j, none⟩ = some v → w'.cell? ⟨rb', o' + j, none⟩ = some v) → FoAt w' X' f (some ⟨rb', o', none⟩)) := by
 have hp : ∀ b o v, X b → (∀ a n c, v ≠ .slice a n c) → w.cell? ⟨b, o, none⟩ = some v → w'.cell? ⟨b, o, none⟩ = some v := fun b o v hb hv hc => by
  rw [hsame b o hb (fun ⟨e1, e2⟩ => by subst e1; subst e2; rw [hold] at hc; cases hc; exact hv _ _ _ rfl)]; exact hc
 intro f
 induction f with
 | nil => exact ⟨fun _ _ => True.intro, fun _ _ _ _ _ _ _ => True.intro⟩
 | node _ _ k l r ihl ihr =>
   have kid : ∀ b off ka1 cap1, X b → w.cell? ⟨b, off + 3, none⟩ = some (.slice ka1 (foLen l) cap1) → foLen l ≤ cap1 → FoAt w X l ka1 → ∃ ka2 cap2, w'.cell? ⟨b, off + 3, none⟩ = some (.slice ka2 (foLen l) cap2) ∧ foLen l ≤ cap2 ∧ FoAt w' X' l ka2 := fun b off ka1 cap1 hb h3 hc3 hl => by
    by_cases hc : b = cb ∧ off + 3 = co
    · obtain ⟨rfl, rfl⟩ := hc
      rw [hold] at h3
      cases h3
      refine ⟨ka', cap', hnew, hcap, ?_⟩
      cases l with
      | nil => exact True.intro
      | node b1 o1 k1 l1 r1 =>
        obtain ⟨g1, g2, g3⟩ := hrow (by simp [foLen])
        obtain ⟨b2, off2, _, _, e, _⟩ := id hl
        subst e
        rw [g1]
        exact ihl.2 b2 off2 rb 0 hl g2 (fun j v hj hv => by rw [Nat.zero_add]; exact g3 b2 off2 rfl j v hj hv)
    · exact ⟨ka1, cap1, (hsame b _ hb hc).trans h3, hc3, ihl.1 _ hl⟩
   refine ⟨fun a hf => ?_, fun b0 off rb' o' hf hrb hcp => ?_⟩
   · obtain ⟨b, off, ka1, cap1, e, hb, h0, h1, h2, h3, hc3, hl, hr⟩ := hf
     obtain ⟨ka2, cap2, h3', hc3', hl'⟩ := kid b off ka1 cap1 hb h3 hc3 hl
     exact ⟨b, off, ka2, cap2, e, hX b hb, hp _ _ _ hb (fun _ _ _ h => by cases h) h0, hp _ _ _ hb (fun _ _ _ h => by cases h) h1, hp _ _ _ hb (fun _ _ _ h => by cases h) h2, h3', hc3', hl', ihr.1 _ hr⟩
   · obtain ⟨b, off', ka1, cap1, e, hb, h0, h1, h2, h3, hc3, hl, hr⟩ := hf
     cases e
     simp only [foLen] at hcp
     refine ⟨rb', o', ka1, cap1, rfl, hrb, hcp 0 _ (by omega) h0, hcp 1 _ (by omega) h1, hcp 2 _ (by omega) h2, hcp 3 _ (by omega) h3, hc3, ihl.1 _ hl, ihr.2 _ _ rb' (o' + 4) hr hrb (fun j v hj hv => ?_)⟩
     have := hcp (4 + j) v (by omega) (by rw [← Nat.add_assoc]; exact hv)
     rw [← Nat.add_assoc] at this; exact this
theorem fo_cells {w : World} {X : Nat → Prop} : ∀ {f : Fo} {b off : Nat}, FoAt w X f (some ⟨b, off, none⟩) → ∃ xs : List Value, xs.length = foLen f * 4 ∧ (∀ u ∈ xs, u.oneCell' = true) ∧ ∀ j u, xs[j]? = some u → w.cell? ⟨b, off + j, none⟩ = some u
 | .nil, _, _, _ => ⟨[], rfl, fun _ h => by simp at h, fun _ _ h => by simp at h⟩
 | .node _ _ k l r, b, off, h => by
   obtain ⟨b1, off1, ka, cap, e, hb, h0, h1, h2, h3, _, hl, hr⟩ := h
   cases e
   obtain ⟨xs, x1, x2, x3⟩ := fo_cells hr
   refine ⟨[.int .i64 k.1, .int .i64 k.2.1, .string k.2.2, .slice ka (foLen l) cap] ++ xs, by simp [foLen, x1]; omega, fun u hu => ?_, fun j u hj => ?_⟩
   · rcases List.mem_append.1 hu with hu | hu
     · simp only [List.mem_cons, List.not_mem_nil, or_false] at hu
       rcases hu with rfl | rfl | rfl | rfl <;> rfl
     · exact x2 u hu
   · match j, hj with
     | 0, hj => simp only [List.cons_append, List.getElem?_cons_zero, Option.some.injEq] at hj; subst hj; exact h0
     | 1, hj => simp only [List.cons_append, List.getElem?_cons_succ, List.getElem?_cons_zero, Option.some.injEq] at hj; subst hj; exact h1
     | 2, hj => simp only [List.cons_append, List.getElem?_cons_succ, List.getElem?_cons_zero, Option.some.injEq] at hj; subst hj; exact h2
     | 3, hj => simp only [List.cons_append, List.getElem?_cons_succ, List.getElem?_cons_zero, Option.some.injEq] at hj; subst hj; exact h3
     | j + 4, hj =>
       have := x3 j u (by simpa using hj)
       rw [show off + (j + 4) = off + 4 + j by omega]; exact this
theorem fo_read {w : World} {X : Nat → Prop} {f : Fo} {ka : Option Addr} (h : FoAt w X f ka) : ∃ xs : List Value, xs.length = foLen f * 4 ∧ (∀ u ∈ xs, u.oneCell' = true) ∧ (∀ ad, ka = some ad → ∀ j u, xs[j]? = some u → w.cell? (ad.add j) = some u) ∧ (ka = none → foLen f = 0) := by
 cases f with
 | nil => exact ⟨[], rfl, fun _ h => by simp at h, fun _ _ _ _ h => by simp at h, fun _ => rfl⟩
 | node b0 o0 k l r =>
   obtain ⟨b, off, _, _, e, _⟩ := id h
   subst e
   obtain ⟨xs, h1, h2, h3⟩ := fo_cells h
   refine ⟨xs, h1, h2, fun ad he j u hj => ?_, fun e => by cases e⟩
   cases he
   have hadd : (⟨b, off, none⟩ : Addr).add j = ⟨b, off + j, none⟩ := by unfold Addr.add; split <;> simp_all
   rw [hadd]
   exact h3 j u hj
def FreeB (w : World) (b : Nat) : Prop := ∃ cs t, w.heap[b]? = some (.cells cs t (0, 0))
def ex (T EB : Nat → Prop) : Nat → Prop := fun x => T x ∨ EB x
def RowOk (n0 : Nat) (EB T : Nat → Prop) (V : World) (s : Seg) : Prop := FoAt V (XT (ex T EB) V) s.f s.a ∧ (s.f ≠ .nil → ∃ b off, s.a = some ⟨b, off, none⟩ ∧ n0 ≤ b ∧ FreeB V b)
structure CopyI (w : World) (B RB : Nat) (EB : Nat → Prop) (t : Tr) (T : Nat → Prop) (A : List Seg) (V : World) : Prop where
 below : Below w.heap.size w V
 hT : ∀ x, T x → B ≤ x
 big : B ≤ V.heap.size
 exl : ∀ x, EB x → x < B
 root : FoAt V (XT (ex T EB) V) (rootF t) (some ⟨RB, 0, none⟩)
 rows : ∀ s ∈ A, RowOk w.heap.size EB T V s
section
variable {w : World} {B RB : Nat} {EB : Nat → Prop} {t : Tr} {T T' : Nat → Prop} {A : List Seg} {V V' : World}
theorem xt_turn (ht : Touched V V' (fun x => T x ∨ (B ≤ x ∧ NonCells V x))) (hw : Wider T T' V V') (x : Nat) (hx : XT T V x) : XT T' V' x ∧ V'.heap[x]? = V.heap[x]? := by
 obtain ⟨⟨cs, ty, fr, hc⟩, hn⟩ := hx
 have hs := lt_of_heap hc
 have he := ht.block x hs (fun h => by
  rcases h with h | ⟨_, o, ho, hoc⟩
  · exact hn h
  · rw [hc] at ho; cases ho; cases hoc)
 exact ⟨⟨⟨cs, ty, fr, he.trans hc⟩, fun h => (hw x h).elim hn (fun h => by omega)⟩, he⟩
theorem xt_turn2 (ht : Touched V V' (fun x => T x ∨ (B ≤ x ∧ NonCells V x))) (hw : Wider T T' V V') (x : Nat) (hx : XT (ex T EB) V x) : XT (ex T' EB) V' x ∧ V'.heap[x]? = V.heap[x]? :=
 xt_turn (T := ex T EB) (T' := ex T' EB) (ht.mono (fun y hy => hy.imp (fun h => Or.inl h) id)) (fun y hy => hy.elim (fun h => (hw y h).imp (fun h => Or.inl h) id) (fun h => Or.inl (Or.inr h))) x hx
theorem CopyI.turn (hB : w.heap.size ≤ B) (h : CopyI w B RB EB t T A V) (ht : Touched V V' (fun x => T x ∨ (B ≤ x ∧ NonCells V x))) (hw : Wider T T' V V') : CopyI w B RB EB t T' A V' where
 below := ⟨ht.os.trans h.below.os, ht.tape.trans h.below.tape, ht.output.trans h.below.output, Nat.le_trans h.below.size ht.size, fun x hx => (ht.block x (by have := h.big; omega) (fun hh => by
  rcases hh with hh | hh
  · have := h.hT x hh; omega
  · omega)).trans (h.below.block x hx)⟩
 hT := fun x hx => (hw x hx).elim (h.hT x) (fun hh => by have := h.big; omega)
 big := Nat.le_trans h.big ht.size
 exl := h.exl
 root := h.root.kept (xt_turn2 ht hw)
 rows := fun s hs => ⟨(h.rows s hs).1.kept (xt_turn2 ht hw), fun hne => by
  obtain ⟨b, off, e, hb, cs, ty, hc⟩ := (h.rows s hs).2 hne
  have hf := (h.rows s hs).1
  have hx : XT (ex T EB) V b := by
   obtain ⟨sd, sa, sc, sf⟩ := s
   simp only at e hne hf
   cases sf with
   | nil => exact absurd rfl hne
   | node _ _ k l r =>
     obtain ⟨b1, off1, _, _, e1, hb1, _⟩ := hf
     rw [e] at e1; cases e1; exact hb1
  exact ⟨b, off, e, hb, cs, ty, (xt_turn2 ht hw b hx).2.trans hc⟩⟩
theorem CopyI.next {d c bo oo b off n cap : Nat} {ad ka : Option Addr} {key : Int × Int × ByteArray} {k r : Fo} {xs : List Value} {w1 : World} {rv : Value} (hB : w.heap.size ≤ B) (hTs : ∀ x, T x → x < V.heap.size) (h : CopyI w B RB EB t T (⟨d, ad, c, .node bo oo key k r⟩ :: A) V) (hn : n = foLen k) (hcell : V.cell? ⟨b, off + 3, none⟩ = some (.slice ka n cap)) (had : ad = some ⟨b, off, none⟩)
 (hxl : xs.length = n * 4) (hxc : ∀ ad, ka = some ad → ∀ j u, xs[j]? = some u → V.cell? (ad.add j) = some u) (hb1 : Below V.heap.size V w1) (hown : w1.ownsRow V.heap.size 24 4 rv n xs) :
 ∃ ra rc, rv = .slice ra n rc ∧ n ≤ rc ∧ w1.cell? ⟨b, off + 3, none⟩ = some (.slice ka n cap) ∧ w1.frozen? ⟨b, off + 3, none⟩ = false ∧ (w1.setCell ⟨b, off + 3, none⟩ (.slice ra n rc)).cell? ⟨b, off + 3, none⟩ = some (.slice ra n rc) ∧
  CopyI w B RB EB t T (⟨d + 1, ra, rc, k⟩ :: ⟨d, some ⟨b, off + 4, none⟩, c - 1, r⟩ :: A) (w1.setCell ⟨b, off + 3, none⟩ (.slice ra n rc)) ∧ Kept T V (w1.setCell ⟨b, off + 3, none⟩ (.slice ra n rc)) ∧ KeepsFrom B V (w1.setCell ⟨b, off + 3, none⟩ (.slice ra n rc)) := by
 subst had
 obtain ⟨hf, hfree⟩ := h.rows _ (List.mem_cons_self ..)
 simp only at hf hfree
 obtain ⟨b1, off1, e1, hb0, cs, ty, hF⟩ := hfree (by simp)
 cases e1
 have hf0 := hf
 obtain ⟨b1, off1, ka1, cap1, e1, hbX, c0, c1, c2, c3, c4, hk, hr⟩ := hf
 cases e1
 rw [← hn, hcell] at c3
 cases c3
 have hbT : ¬ T b := fun hh => hbX.2 (Or.inl hh)
 have hpb := lt_of_heap hF
 have hF1 := (hb1.block _ hpb).trans hF
 obtain ⟨ra, rc, hrv⟩ := owns_slice hown
 subst hrv
 have hrc : n ≤ rc := by
  rcases hown.2 with ⟨hv, h0⟩ | ⟨_, _, _, hv, _, _, h3, _⟩
  · omega
  · cases hv; exact h3
 have hc1 : w1.cell? ⟨b, off + 3, none⟩ = some (.slice ka n cap) := (World.cell?_of_block (hb1.block _ hpb)).trans hcell
 have hS := heap_setCell_same w1 b (off + 3) _ _ (.slice ra n rc) hF1
 have hsz : (w1.setCell ⟨b, off + 3, none⟩ (.slice ra n rc)).heap.size = w1.heap.size := by simp [World.setCell]
 have hs1 := hb1.size
 have hnew : (w1.setCell ⟨b, off + 3, none⟩ (.slice ra n rc)).cell? ⟨b, off + 3, none⟩ = some (.slice ra n rc) := World.cell?_setCell_same' _ _ _ (by rw [hc1]; rfl)
 have hoth : ∀ b' o, ¬ (b' = b ∧ o = off + 3) → (w1.setCell ⟨b, off + 3, none⟩ (.slice ra n rc)).cell? ⟨b', o, none⟩ = w1.cell? ⟨b', o, none⟩ := fun b' o h => World.cell?_setCell_other _ _ _ _ (fun e => h (by cases e; exact ⟨rfl, rfl⟩))
 have hblk : ∀ x, x ≠ b → (w1.setCell ⟨b, off + 3, none⟩ (.slice ra n rc)).heap[x]? = w1.heap[x]? := fun x hx => Below.heap_setCell _ _ _ _ hx
 have hX : ∀ x, XT (ex T EB) V x → XT (ex T EB) (w1.setCell ⟨b, off + 3, none⟩ (.slice ra n rc)) x := fun x hx => by
  refine ⟨?_, hx.2⟩
  by_cases hxb : x = b
  · rw [hxb]; exact ⟨_, _, _, hS⟩
  · obtain ⟨cs', t', fr', hc'⟩ := hx.1
    exact ⟨cs', t', fr', (hblk x hxb).trans ((hb1.block x (lt_of_heap hc')).trans hc')⟩
 have hfo := fo_clone (w := V) (w' := w1.setCell ⟨b, off + 3, none⟩ (.slice ra n rc)) (cb := b) (co := off + 3) (rb := ((Value.slice ra n rc).ownBlock).getD 0) hX (fun b' o hb' hne => (hoth b' o hne).trans (World.cell?_of_block (hb1.block _ hb'.1.lt))) hcell hnew hrc (fun h0 => by
  obtain ⟨g, cap2, e, hg, hgl⟩ := hown.form h0
  cases e
  have hgr : w1.heap[g]? ≠ none := by rw [Array.getElem?_eq_getElem hgl]; simp
  obtain ⟨cur, hcur⟩ := own_typed hown (g := g) rfl
  refine ⟨rfl, ⟨⟨cur, _, _, (hblk g (by omega)).trans hcur⟩, fun hh => by
   have h1 := h.exl
   have h2 := h.big
   have hh' : T g ∨ EB g := hh
   rcases hh' with hh | hh
   · have := hTs g hh; omega
   · have := h1 g hh; omega⟩, fun b0 off0 hka j v hj hv => ?_⟩
  obtain ⟨u, hu⟩ : ∃ u, xs[j]? = some u := ⟨xs[j]'(by omega), List.getElem?_eq_getElem _⟩
  have h2 := hxc _ hka j u hu
  have hadd : (⟨b0, off0, none⟩ : Addr).add j = ⟨b0, off0 + j, none⟩ := by unfold Addr.add; split <;> simp_all
  rw [hadd, hv] at h2
  cases h2
  exact (hoth g j (fun h => by have := h.1; omega)).trans (owns_cell hown rfl j _ hu))
 have hfreeK : ∀ x, FreeB V x → FreeB (w1.setCell ⟨b, off + 3, none⟩ (.slice ra n rc)) x := fun x ⟨cs', t', hc'⟩ => by
  by_cases hxb : x = b
  · rw [hxb]; exact ⟨_, _, hS⟩
  · exact ⟨cs', t', (hblk x hxb).trans ((hb1.block x (lt_of_heap hc')).trans hc')⟩
 refine ⟨ra, rc, rfl, hrc, hc1, frozen_of_row _ _ _ _ _ hF1, hnew, ⟨?_, h.hT, by rw [hsz]; have := h.big; omega, h.exl, (hfo _).1 _ h.root, fun s hs => ?_⟩, ⟨by rw [hsz]; exact hs1, fun x hx => ?_⟩, ⟨by rw [hsz]; exact hs1, fun x o hx ho hno => ?_⟩⟩
 · exact (h.below.trans (hb1.mono h.below.size)).setCell (p := ⟨b, off + 3, none⟩) hb0 _
 · rcases List.mem_cons.1 hs with rfl | hs
   · simp only [RowOk]
     have hkk := (hfo (.node bo oo key k .nil)).1 (some ⟨b, off, none⟩) ⟨b, off, ka, cap, rfl, hbX, c0, c1, c2, by rw [← hn]; exact hcell, c4, hk, True.intro⟩
     obtain ⟨b2, off2, ka2, cap2, e2, _, _, _, _, q3, q4, q5, _⟩ := hkk
     cases e2
     rw [hnew] at q3
     cases q3
     refine ⟨q5, fun hne => ?_⟩
     obtain ⟨g, cap3, e3, hg, hgl⟩ := hown.form (by rw [hn]; exact fo_len_pos hne)
     cases e3
     obtain ⟨cur, hcur⟩ := own_typed hown (g := g) rfl
     exact ⟨g, 0, rfl, by have := h.below.size; omega, cur, _, (hblk g (by omega)).trans hcur⟩
   · rcases List.mem_cons.1 hs with rfl | hs
     · simp only [RowOk]
       exact ⟨(hfo r).1 _ hr, fun _ => ⟨b, off + 4, rfl, hb0, hfreeK b ⟨cs, ty, hF⟩⟩⟩
     · have h9 := h.rows s (List.mem_cons_of_mem _ hs)
       exact ⟨(hfo s.f).1 _ h9.1, fun hne => by
        obtain ⟨b', off', e', hb', hfr'⟩ := h9.2 hne
        exact ⟨b', off', e', hb', hfreeK b' hfr'⟩⟩
 · rw [hblk x (fun e => hbT (e ▸ hx))]; exact hb1.block x (hTs x hx)
 · have hxl2 := lt_of_heap ho
   rw [hblk x (fun e => by rw [e, hF] at ho; cases ho; cases hno), hb1.block x hxl2]; exact ho
end
end Go.Proofs.Ytonapijgfalpaaa
