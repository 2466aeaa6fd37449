/-
  A range over what Walk hands back: one law for its callers. No condition but that there are at most 5000 nodes.
  A tree of three nodes, and what is said of it. No condition.
-/
import Derived.Test.YteccnekdmehloaaDoorEWalk1
import Derived.Test.YteccnekdmehloaaDoorEShow
namespace Go.Proofs.YteccnekdmehloaaDoor
open Go.RowKit
set_option linter.unusedVariables false

def LeftW (B : Nat) (SS : Nat → Prop) (I : List Sp → World → Prop) (Ix : Code → World → Prop) (pre : List Sp) (W : World) (e : Exit) (_ : Act) (V : World) : Prop :=
  (W.heap.size ≤ V.heap.size ∧ ∀ y, (B ≤ y ∨ SS y) → y < W.heap.size → V.heap[y]? = W.heap[y]?) ∧ ((e = .normal ∧ I pre V) ∨ (e = .ret ∧ Ix .ret V) ∨ ∃ id, e = .exit id ∧ Ix (.exit id) V)

theorem range_walk {n : Nat} {g : Operand} {ps : Array Tmp} {assign body : Code} {Q : Exit → Act → World → Prop} {a : Act} {w : World} (h1 : 1 ≤ n) {HB BB : Nat} (hg : a.eval g = .func (.func 41) #[] #[.pointer (some ⟨HB, 0, none⟩), .pointer (some ⟨BB, 0, none⟩)])
    (SS : Nat → Prop) (t : Tr) (hwa : WalkAt w SS t HB BB) (hSS : ∀ x, SS x → CellsB w x) (hsz : foSize t.kids + 1 ≤ 5000) (hps : ps.size = 2)
    (I : List Sp → World → Prop) (Ix : Code → World → Prop) (hI : ∀ {pre : List Sp} {V V' : World}, I pre V → Below w.heap.size V V' → I pre V') (hIx : ∀ {c : Code} {V V' : World}, Ix c V → Below w.heap.size V V' → Ix c V')
    (h0 : I [] w)
    (hround : ∀ (l : Nat), l = w.heap.size + 1 → ∀ (pre rest : List Sp) (x : Sp) (V : World) (v : Value), spF 1 (rootF t) = pre ++ x :: rest → w.heap.size + 2 ≤ V.heap.size → I pre V → TrAt V (fun y => CellsB V y ∧ (SS y ∨ w.heap.size + 2 ≤ y)) v (trOf x) →
      ∀ (K : Act → World → Prop), (∀ a₁ V0, Below V.heap.size V V0 → (∀ V', (∃ o', V' = V0.putObj l o' ∧ ∃ o, V0.heap[l]? = some o ∧ o.isCells = false) → body.wpIn (Fence.wide.inRound l) (n - 1 - 1) Tryd.prog (LeftW w.heap.size SS I Ix (pre ++ [x]) V') a₁ V') → K a₁ V0) →
        assign.wpIn (Fence.wide.inRound l) (n - 1 - 1) Tryd.prog (Exit.then K (fun _ _ _ => False)) { tmps := (ps.zip #[.int .i64 (x.1 : Int), v]).foldl (fun t (p, v) => t.setIfInBounds p v) a.tmps, defers := [] } V)
    (hdone : ∀ (D : Nat) (V : World), w.heap.size ≤ D → I (spF 1 (rootF t)) V → V.heap[D]? = some (.deferred (some [])) → Q .normal { a with defers := { target := .collected D, args := #[] } :: a.defers } V)
    (hstop : ∀ (D : Nat) (c : Code) (V : World), w.heap.size ≤ D → Ix c V → V.heap[D]? = some (.deferred (some [])) → c.wpIn Fence.wide n Tryd.prog Q { a with defers := { target := .collected D, args := #[] } :: a.defers } V) :
    (Code.rangeFunc g ps assign body).wpIn Fence.wide n Tryd.prog Q a w := by
  obtain ⟨B, hB⟩ : ∃ B, w.heap.size = B := ⟨_, rfl⟩
  simp only [hB] at hI hIx hround hdone hstop
  refine wpIn_rangeFunc fun fn hfn => ?_
  obtain ⟨rec, hrec⟩ : ∃ rec : LoopState → Option Code → Loop, rec = fun st pe => { state := st, pending := pe, fn, tmps := a.tmps, params := ps, assign, body, defers := B } := ⟨_, rfl⟩
  obtain ⟨W1, hW1⟩ : ∃ W1, W1 = (w.alloc (.deferred (some []))).alloc (.loop (rec .ready none)) := ⟨_, rfl⟩
  have hsz1 : W1.heap.size = B + 2 := by rw [hW1]; simp [hB]
  have hblk : ∀ x, x < B → W1.heap[x]? = w.heap[x]? := fun x hx => by rw [hW1, Below.heap_alloc _ _ _ (by simp; omega), Below.heap_alloc _ _ _ (by omega)]
  have hbk : Book B (rec .ready none) W1 := by
    rw [hW1, ← hB]
    refine ⟨?_, (Below.heap_alloc _ _ _ (by simp)).trans (World.alloc_heap_new w _)⟩
    have := World.alloc_heap_new (w.alloc (.deferred (some []))) (.loop (rec .ready none))
    rwa [World.size_alloc] at this
  have hI1 : I [] W1 := hI h0 (by rw [hW1, ← hB]; exact ((Below.refl _ w).alloc (Nat.le_refl _) _).alloc (by simp) _)
  have hSl : ∀ x, SS x → x < B := fun x hx => by have := (hSS x hx).lt; omega
  have hwa1 : WalkAt W1 SS t HB BB := by
    obtain ⟨b0, ka, kc, c0, c1, c2⟩ := hwa
    exact ⟨(hblk _ (by have := lt_of_heap b0; omega)).trans b0, ka, kc, (hblk _ (by have := lt_of_heap c0; omega)).trans c0, c1, c2.kept fun x hx => ⟨hx, hblk x (hSl x hx)⟩⟩
  have hSS1 : ∀ x, SS x → CellsB W1 x := fun x hx => by
    obtain ⟨cs, ty, fr, hc⟩ := hSS x hx
    exact ⟨cs, ty, fr, (hblk x (hSl x hx)).trans hc⟩
  refine ⟨B + 1, [{ target := .collected B, args := #[] }], W1, { target := .fn (.func 41) #[.pointer (some ⟨HB, 0, none⟩), .pointer (some ⟨BB, 0, none⟩)], args := #[.func (.yield (B + 1)) #[] #[]] }, W1, 41, #[.func (.yield (B + 1)) #[] #[]] ++ #[.pointer (some ⟨HB, 0, none⟩), .pointer (some ⟨BB, 0, none⟩)], W1, ?_, ?_, ?_, ?_, fun _ => h1, ?_⟩
  · rw [hW1, hrec, ← hB]; exact run_enterLoop_outer _ _ _ _ _
  · simp only [resolve, hg]
    simp [go_sem]
  · intro f' hf'; simp [Target.leads] at hf'; subst hf'; exact trivial
  · simp [invoke, go_sem]
  · obtain ⟨J, hJ⟩ : ∃ J : List Sp → World → Prop, J = fun pre V => I pre V ∧ Book B (rec .ready none) V := ⟨_, rfl⟩
    obtain ⟨Jx, hJx⟩ : ∃ Jx : World → Prop, Jx = fun V => ∃ c, Ix c V ∧ Book B (rec .done (some c)) V := ⟨_, rfl⟩
    have hbody : WBody Tryd.prog (n - 1 - 1) (B + 1) W1.heap.size SS (spF 1 (rootF t)) J Jx := by
      subst hJ hJx
      refine ⟨?_, ?_, ?_⟩
      · rintro pre V V' ⟨j1, j2⟩ hb
        rw [hsz1] at hb
        exact ⟨hI j1 (hb.mono (by omega)), (hb.block _ (by omega)).trans j2.1, (hb.block _ (by omega)).trans j2.2⟩
      · rintro V V' ⟨c, j1, j2⟩ hb
        rw [hsz1] at hb
        exact ⟨c, hIx j1 (hb.mono (by omega)), (hb.block _ (by omega)).trans j2.1, (hb.block _ (by omega)).trans j2.2⟩
      · rintro pre rest x V v htot ⟨j1, j2⟩ hV hv
        rw [hsz1] at hV hv
        have hr := hround (B + 1) rfl pre rest x V v htot hV j1 hv
        have hy := run_yield (P := Tryd.prog) (args := #[.int .i64 (x.1 : Int), v]) j2.1 (by rw [hrec]; exact hps.symm)
        rw [hrec] at hy
        refine ⟨fn, _, assign, body, hy, roundIn_of_wpIn hfn (hr _ fun a₁ V0 hb0 hb => ?_)⟩
        have j20 : Book B (rec .ready none) V0 := ⟨(hb0.block _ (lt_of_heap j2.1)).trans j2.1, (hb0.block _ (lt_of_heap j2.2)).trans j2.2⟩
        refine ⟨_, run_beginRound j20.1 (by rw [hrec]), ?_⟩
        have hb2 : Book B { rec .ready none with state := .busy } (V0.putObj (B + 1) (.loop { rec .ready none with state := .busy })) := j20.put
        refine wpIn_mono (hb _ ⟨_, rfl, _, j20.1, rfl⟩) ?_
        rintro e3 a3 U ⟨⟨hk1, hk2⟩, hp⟩
        have hb3 : Book B { rec .ready none with state := .busy } U := ⟨(hk2 _ (Or.inl (by omega)) (lt_of_heap hb2.1)).trans hb2.1, (hk2 _ (Or.inl (Nat.le_refl _)) (lt_of_heap hb2.2)).trans hb2.2⟩
        have fin := fun jump => run_endRound (P := Tryd.prog) jump hb3.1
        rw [hrec] at fin hb3
        have hs0 := hb0.size
        have hsU : V0.heap.size ≤ U.heap.size := by simpa [World.putObj] using hk1
        have hall : ∀ o', V.heap.size ≤ (U.putObj (B + 1) o').heap.size ∧ ∀ y, (W1.heap.size ≤ y ∨ SS y) → y < V.heap.size → (U.putObj (B + 1) o').heap[y]? = V.heap[y]? := fun o' => ⟨by simp [World.putObj]; omega, fun y hy hl => by
          have hyB : y ≠ B + 1 := by
            rcases hy with hy | hy
            · omega
            · have := hSl y hy; omega
          rw [World.putObj_heap_other hyB, hk2 y (hy.imp (fun h => by omega) id) (by simp [World.putObj]; omega), World.putObj_heap_other hyB, hb0.block y hl]⟩
        have hpb : ∀ o', Below B U (U.putObj (B + 1) o') := fun o' => ⟨rfl, rfl, rfl, by simp [World.putObj], fun y hy => World.putObj_heap_other (by omega)⟩
        rcases hp with ⟨rfl, hi3⟩ | ⟨rfl, hi3⟩ | ⟨id, rfl, hi3⟩
        · refine ⟨_, _, fin none, hall _, .inl ⟨rfl, hI hi3 (hpb _), ?_⟩⟩
          rw [hrec]; exact hb3.put
        · refine ⟨_, _, fin (some .ret), hall _, .inr ⟨rfl, .ret, hIx hi3 (hpb _), ?_⟩⟩
          rw [hrec]; exact hb3.put
        · refine ⟨_, _, fin (some (.exit id)), hall _, .inr ⟨rfl, .exit id, hIx hi3 (hpb _), ?_⟩⟩
          rw [hrec]; exact hb3.put
    have hstart : J [] W1 := by rw [hJ]; exact ⟨hI1, hbk⟩
    refine (callsIn_wide.2 (walk1_any W1 hbody HB BB hwa1 hSS1 hsz hstart)).mono ?_
    rintro e W2 ⟨⟨v, rfl⟩, (hj | hj)⟩
    · rw [hJ] at hj
      obtain ⟨hi, hb⟩ := hj
      have := run_endLoop (P := Tryd.prog) hb.1 (by rw [hrec]; simp)
      rw [hrec] at this
      exact ⟨none, _, this, hdone B _ (Nat.le_refl _) (hI hi ⟨rfl, rfl, rfl, by simp [World.putObj], fun y hy => World.putObj_heap_other (by omega)⟩) ((World.putObj_heap_other (by omega)).trans hb.2)⟩
    · rw [hJx] at hj
      obtain ⟨c, hi, hb⟩ := hj
      have := run_endLoop (P := Tryd.prog) hb.1 (by rw [hrec]; simp)
      rw [hrec] at this
      exact ⟨some c, _, this, hstop B c _ (Nat.le_refl _) (hIx hi ⟨rfl, rfl, rfl, by simp [World.putObj], fun y hy => World.putObj_heap_other (by omega)⟩) ((World.putObj_heap_other (by omega)).trans hb.2)⟩
end Go.Proofs.YteccnekdmehloaaDoor
namespace Go.Proofs.YteccnekdmehloaaDoor
open Go.RowKit Go.Shelf
attribute [local go_sem] Oper.semAt_some
set_option linter.unusedVariables false
set_option linter.unusedSimpArgs false

theorem run_equalIn_func_nil {P : Program} {w : World} (d : Nat) (t : TypeId) {ps rs : Array TypeId} {vd : Bool} (fn : Fn) (a b : Array Value) (h : P.underlying t = some (.func ps rs vd)) : (Op.equalIn (d + 1) t (.func fn a b) .nilFunc).run P w = .ok false w := by
  simp [Op.equalIn, run_underlying h]
theorem seq_nil (fn : Fn) (a b : Array Value) (W : World) : (binOp BinOp.eql 45 (Value.func fn a b) Value.nilFunc).run Tryd.prog W = .ok (.bool false) W := by
  have h : (Op.equal 45 (.func fn a b) .nilFunc).run Tryd.prog W = .ok false W := run_equalIn_func_nil 9999 _ fn a b Tryd.underlying45
  simp [binOp, h, go_sem]
def someT : Tr := ⟨1, 0, ⟨#[]⟩, .node 0 0 (2, 1, ⟨#[97]⟩) .nil (.node 0 0 (3, 2, ⟨#[]⟩) .nil .nil)⟩
def SomeAt (B : Nat) (X : World) (v : Value) : Prop := ∃ S : Nat → Prop, (∀ x, S x → CellsB X x ∧ B ≤ x) ∧ TrAt X S v someT
theorem someAt_of {X : World} {g : Nat} (h : X.heap[g]? = some (.cells #[.int .i64 2, .int .i64 1, .string ⟨#[97]⟩, .slice none 0 0, .int .i64 3, .int .i64 2, .string ⟨#[]⟩, .slice none 0 0] 25 (0, 0))) : SomeAt g X (.agg #[.int .i64 1, .int .i64 0, .string ⟨#[]⟩, .slice (some ⟨g, 0, none⟩) 2 2]) := by
  refine ⟨fun x => x = g, fun x hx => by rw [hx]; exact ⟨⟨_, _, _, h⟩, Nat.le_refl _⟩, some ⟨g, 0, none⟩, 2, rfl, Nat.le_refl _, g, 0, none, 0, rfl, rfl, ?_, ?_, ?_, ?_, Nat.le_refl _, True.intro, g, 4, none, 0, rfl, rfl, ?_, ?_, ?_, ?_, Nat.le_refl _, True.intro, True.intro⟩
  · rw [cell_of_row _ _ 0 _ _ _ h]; rfl
  · rw [cell_of_row _ _ 1 _ _ _ h]; rfl
  · rw [cell_of_row _ _ 2 _ _ _ h]; rfl
  · rw [cell_of_row _ _ 3 _ _ _ h]; rfl
  · rw [cell_of_row _ _ 4 _ _ _ h]; rfl
  · rw [cell_of_row _ _ 5 _ _ _ h]; rfl
  · rw [cell_of_row _ _ 6 _ _ _ h]; rfl
  · rw [cell_of_row _ _ 7 _ _ _ h]; rfl
theorem some_sp : spF 1 (rootF someT) = [(1, (1, 0, ⟨#[]⟩), someT.kids), (2, (2, 1, ⟨#[97]⟩), .nil), (2, (3, 2, ⟨#[]⟩), .nil)] := rfl
theorem SomeAt.find2 {B : Nat} {w : World} {v : Value} (h : SomeAt B w v) : Calls Tryd.prog 16 #[v, .int .i64 2] w fun e w' => (∃ ka kc, e = .returned (.tuple #[.agg #[.int .i64 2, .int .i64 1, .string ⟨#[97]⟩, .slice ka 0 kc], .bool true])) ∧ Below w.heap.size w w' := by
  obtain ⟨S, hS, ht⟩ := h
  refine (find_any w S v someT 2 (fun x hx => (hS x hx).1) ht (by decide)).mono ?_
  rintro e w' ⟨v', rfl, ht', hb⟩
  have hf : findS 2 (spF 1 (rootF someT)) = some (2, (2, 1, ⟨#[97]⟩), .nil) := by rw [some_sp]; simp [findS]
  rw [hf] at ht' ⊢
  obtain ⟨ka, kc, rfl, _⟩ := ht'
  exact ⟨⟨ka, kc, rfl⟩, hb⟩
theorem SomeAt.find9 {B : Nat} {w : World} {v : Value} (h : SomeAt B w v) : Calls Tryd.prog 16 #[v, .int .i64 9] w fun e w' => (∃ ka kc, e = .returned (.tuple #[.agg #[.int .i64 0, .int .i64 0, .string ⟨#[]⟩, .slice ka 0 kc], .bool false])) ∧ Below w.heap.size w w' := by
  obtain ⟨S, hS, ht⟩ := h
  refine (find_any w S v someT 9 (fun x hx => (hS x hx).1) ht (by decide)).mono ?_
  rintro e w' ⟨v', rfl, ht', hb⟩
  have hf : findS 9 (spF 1 (rootF someT)) = none := by rw [some_sp]; simp [findS]
  rw [hf] at ht' ⊢
  obtain ⟨ka, kc, rfl, _⟩ := ht'
  exact ⟨⟨ka, kc, rfl⟩, hb⟩
theorem SomeAt.count {B : Nat} {w : World} {v : Value} (h : SomeAt B w v) : Calls Tryd.prog 19 #[v] w fun e w' => e = .returned (.int .i64 3) ∧ Below w.heap.size w w' := by
  obtain ⟨S, hS, ht⟩ := h
  exact count_any w S v someT (fun x hx => (hS x hx).1.lt) ht (by decide)
theorem SomeAt.depth {B : Nat} {w : World} {v : Value} (h : SomeAt B w v) : Calls Tryd.prog 13 #[v] w fun e w' => e = .returned (.int .i64 2) ∧ Below w.heap.size w w' := by
  obtain ⟨S, hS, ht⟩ := h
  exact depth_any w S v someT (fun x hx => (hS x hx).1.lt) ht (by decide)
theorem dec1 (n : Nat) (h : n < 10) : Lib.decDigits n = [UInt8.ofNat (48 + n)] := by rw [Lib.decDigits, dif_pos h]
theorem some_show : showT someT = [49, 58, 48, 40, 50, 58, 49, 34, 97, 34, 44, 51, 58, 50, 41] := by
  have i0 : Lib.itoa 0 = [48] := by rw [Lib.itoa, if_neg (by decide)]; exact dec1 0 (by decide)
  have i1 : Lib.itoa 1 = [49] := by rw [Lib.itoa, if_neg (by decide)]; exact dec1 1 (by decide)
  have i2 : Lib.itoa 2 = [50] := by rw [Lib.itoa, if_neg (by decide)]; exact dec1 2 (by decide)
  have i3 : Lib.itoa 3 = [51] := by rw [Lib.itoa, if_neg (by decide)]; exact dec1 3 (by decide)
  have t0 : textL ⟨#[]⟩ = [] := by simp [textL]
  have t1 : textL ⟨#[97]⟩ = [34, 97, 34] := by
    have : (⟨#[97]⟩ : ByteArray) ≠ ⟨#[]⟩ := fun e => by cases e
    rw [textL, if_neg this]; rfl
  rw [showT, some_sp]
  simp only [showL, pieceL, headL, i0, i1, i2, i3, t0, t1, lastD]
  rfl
theorem SomeAt.shown {B : Nat} {w : World} {v : Value} (h : SomeAt B w v) (ht : Tab w) : Calls Tryd.prog 15 #[v] w fun e w' => e = .returned (.string ⟨#[49, 58, 48, 40, 50, 58, 49, 34, 97, 34, 44, 51, 58, 50, 41]⟩) ∧ Below w.heap.size w w' := by
  obtain ⟨S, hS, htr⟩ := h
  refine (show_any w S v someT (fun x hx => (hS x hx).1.lt) htr (by decide) ht (fun x hx => ?_) (by rw [some_show]; decide)).mono ?_
  · rw [some_sp] at hx
    simp only [List.mem_cons, List.not_mem_nil, or_false] at hx
    rcases hx with rfl | rfl | rfl <;> exact ⟨⟨by decide, by decide⟩, by decide, by decide⟩
  · rintro e w' ⟨rfl, hb⟩
    rw [some_show]
    exact ⟨rfl, hb⟩
theorem SomeAt.walk {B : Nat} {w : World} {v : Value} (h : SomeAt B w v) (hB : B ≤ w.heap.size) : Calls Tryd.prog 18 #[v] w fun e w' => ∃ HB BB, e = .returned (.func (.func 41) #[] #[.pointer (some ⟨HB, 0, none⟩), .pointer (some ⟨BB, 0, none⟩)]) ∧ Below w.heap.size w w' ∧ ∃ SS : Nat → Prop, (∀ x, SS x → CellsB w' x ∧ B ≤ x) ∧ WalkAt w' SS someT HB BB := by
  obtain ⟨S, hS, htr⟩ := h
  refine (walk_any w S v someT (fun x hx => (hS x hx).1) htr (by decide)).mono ?_
  rintro e w' ⟨HB, BB, rfl, hb, _, _, hw⟩
  exact ⟨HB, BB, rfl, hb, _, fun x hx => ⟨hx.1, by rcases hx.2 with h | h; exact (hS x h).2; omega⟩, hw⟩
set_option maxRecDepth 100000 in
theorem some_any (w : World) : Calls Tryd.prog 17 #[] w fun e w' => ∃ v, e = .returned v ∧ SomeAt w.heap.size w' v ∧ Below w.heap.size w w' := by
  go_enter Tryd.func17, Tryd.ntmps17
  go_wp2_with fail
  obtain ⟨o1, ho1⟩ : ∃ o1, o1 = Obj.cells #[.int .i64 1, .int .i64 0, .string ⟨#[]⟩, .slice (some ⟨w.heap.size + 1, 0, none⟩) 2 2] 25 (0, 0) := ⟨_, rfl⟩
  obtain ⟨o2, ho2⟩ : ∃ o2, o2 = Obj.cells #[.int .i64 2, .int .i64 1, .string ⟨#[97]⟩, .slice none 0 0, .int .i64 3, .int .i64 2, .string ⟨#[]⟩, .slice none 0 0] 25 (0, 0) := ⟨_, rfl⟩
  have h1 : ((w.alloc o1).alloc o2).heap[w.heap.size]? = some o1 := by rw [Below.heap_alloc _ _ _ (by simp)]; exact heap_alloc_new w o1
  have h2 : ((w.alloc o1).alloc o2).heap[w.heap.size + 1]? = some o2 := by have := heap_alloc_new (w.alloc o1) o2; rw [World.size_alloc] at this; exact this
  have hb : Below w.heap.size w ((w.alloc o1).alloc o2) := ((Below.refl _ w).alloc (Nat.le_refl _) _).alloc (by simp) _
  rw [← ho1, ← ho2]
  refine bodyPost_ret (results_cellW rfl _ _ w.heap.size 25 _ _ _ rfl (h1.trans (congrArg some ho1)) Tryd.underlying25 rfl (by kernel_rfl)) rfl ?_
  obtain ⟨S, hS, hT⟩ := someAt_of (h2.trans (congrArg some ho2))
  exact ⟨_, rfl, ⟨S, fun x hx => ⟨(hS x hx).1, by have := (hS x hx).2; omega⟩, hT⟩, hb⟩
end Go.Proofs.YteccnekdmehloaaDoor
