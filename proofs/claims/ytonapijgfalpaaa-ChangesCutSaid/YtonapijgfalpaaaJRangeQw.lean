/-
  .
-/
import Derived.Test.YtonapijgfalpaaaJEachQw
namespace Go.Proofs.Ytonapijgfalpaaa
open Go.RowKit Go.Shelf
attribute [local go_sem] Oper.semAt_some
set_option linter.unusedVariables false
set_option linter.unusedSimpArgs false
def TreesJ (w : World) (BB : Nat) (ba : Option Addr) (bc : Nat) (ts : List Tr) (S : Nat → Prop) : Prop := w.heap[BB]? = some (.cells #[.slice ba ts.length bc] 22 (0, 0)) ∧ S BB ∧ (∀ y, S y → y < w.heap.size) ∧ ∀ (k : Nat) (y : Tr), ts[k]? = some y → ∃ b a c, ba = some ⟨b, 0, none⟩ ∧ S b ∧ (∀ (j : Nat) (u : Value), (treeC y a c)[j]? = some u → w.cell? ⟨b, k * 4 + j, none⟩ = some u) ∧ foLen y.kids ≤ c ∧ FoAt w S y.kids a
theorem TreesJ.kept {w w' : World} {BB : Nat} {ba : Option Addr} {bc : Nat} {ts : List Tr} {S : Nat → Prop} (h : TreesJ w BB ba bc ts S) (hs : w.heap.size ≤ w'.heap.size) (hk : ∀ y, S y → w'.heap[y]? = w.heap[y]?) : TreesJ w' BB ba bc ts S := by
 obtain ⟨h1, h2, h3, h4⟩ := h
 refine ⟨(hk BB h2).trans h1, h2, fun y hy => Nat.lt_of_lt_of_le (h3 y hy) hs, fun k y hy => ?_⟩
 obtain ⟨b, a, c, e, hb, hc, hl, hf⟩ := h4 k y hy
 exact ⟨b, a, c, e, hb, fun j u hj => (World.cell?_of_block (a := ⟨b, k * 4 + j, none⟩) (hk b hb)).trans (hc j u hj), hl, hf.kept fun q hq => ⟨hq, hk q hq⟩⟩
theorem TreesAt.jS {w : World} {F S : Nat → Prop} {base BB : Nat} {ba : Option Addr} {bc : Nat} {ts : List Tr} {ys : List Value} (h : TreesAt w F base BB ba bc ts ys) (hS : ∀ q, S q → q < w.heap.size) (hF : ∀ q, q < w.heap.size → (q = BB ∨ blkA ba q ∨ ¬ Ex F ba q) → S q) : TreesJ w BB ba bc ts S := by
 refine ⟨h.box, hF _ (lt_of_heap h.box) (Or.inl rfl), hS, fun k y hy => ?_⟩
 obtain ⟨a, c, hc, hl⟩ := TRow.nth k y h.lies hy
 have hk := (List.getElem?_eq_some_iff.1 hy).1
 rcases h.row.2 with ⟨_, h0⟩ | ⟨g, cap, cur, hv, _⟩
 · omega
 · have hba : ba = some ⟨g, 0, none⟩ := by
    cases hv; rfl
   subst hba
   exact ⟨g, a, c, rfl, hF _ (owns_bounds h.row rfl).2 (Or.inr (Or.inl ⟨_, rfl, rfl⟩)), fun j u hj => owns_cell h.row rfl _ _ (hc j u hj), hl.1, hl.2.kept fun q hq => ⟨hF q hq.1 (Or.inr (Or.inr hq.2)), rfl⟩⟩
def BodyE (P : Program) (m l : Nat) (S E0 : Nat → Prop) (ts : List Tr) (J : Nat → World → Prop) (Jx : World → Prop) : Prop :=
 ∀ (k : Nat) (x : Tr) (va : Option Addr) (vc : Nat) (w : World), ts[k]? = some x → (∀ y, S y → y < w.heap.size) → LiesN w E0 x.kids va vc → J k w → YieldAt Fence.wide m P l #[.int .i64 (k : Int), .agg #[.int .i64 x.id, .int .i64 x.kind, .string x.text, .slice va (foLen x.kids) vc]] w fun e w' => w.heap.size ≤ w'.heap.size ∧ (∀ y, S y → w'.heap[y]? = w.heap[y]?) ∧ ((e = .returned (.bool true) ∧ J (k + 1) w') ∨ (e = .returned (.bool false) ∧ Jx w'))
def SEndE (ts : List Tr) (J : Nat → World → Prop) (Jx : World → Prop) (e : Ending) (V : World) : Prop := (∃ v, e = .returned v) ∧ (J ts.length V ∨ Jx V)
def SInvE (BB : Nat) (ba : Option Addr) (bc : Nat) (ts : List Tr) (S : Nat → Prop) (J : Nat → World → Prop) (k : Nat) (wr : World) : Prop := TreesJ wr BB ba bc ts S ∧ J k wr
set_option maxRecDepth 100000 in
set_option maxHeartbeats 8000000 in
theorem each2_any {m l : Nat} {S E0 : Nat → Prop} {ts : List Tr} {J : Nat → World → Prop} {Jx : World → Prop} (hB : BodyE Try.prog m l S E0 ts J Jx) (hJ : ∀ {k : Nat} {V V' : World}, J k V → Touched V V' (fun _ => False) → J k V') (W : World) (BB : Nat) (ba : Option Addr) (bc : Nat) (hI : TreesJ W BB ba bc ts S) (hn : ts.length ≤ 1000000) (hm : ∀ y ∈ ts, foSize y.kids + 1 ≤ 2000) (hE0 : ∀ q, E0 q → q < W.heap.size ∧ ¬ S q) (h0 : J 0 W) :
 Calls Try.prog 134 #[.func (.yield l) #[] #[], .pointer (some ⟨BB, 0, none⟩)] W (SEndE ts J Jx) := by
 have HST : Hid (SInvE BB ba bc ts S (fun k V => W.heap.size ≤ V.heap.size ∧ J k V) 0 W) := Lib.hid ⟨hI, Nat.le_refl _, h0⟩
 have HE0 := Lib.hid hE0
 obtain ⟨n, hn'⟩ : ∃ n, n = ts.length := ⟨_, rfl⟩
 have h1 := hI.1
 rw [← hn'] at hn h1
 have c0 : W.cell? ⟨BB, 0, none⟩ = some (.slice ba n bc) := by rw [cell_of_row _ _ 0 _ _ _ h1]; rfl
 have HN := Lib.hid hn'
 have HM := Lib.hid hm
 have HJ : Hid (∀ {k : Nat} {V V' : World}, J k V → Touched V V' (fun _ => False) → J k V') := Lib.hid hJ
 clear h0 h1 hn' hm hI hJ hE0
 refine (callsIn_wide (n := 6)).1 ?_
 refine callsIn_of_wp Try.func134 rfl trivial ?_ rfl
 simp only [Try.ntmps134, List.size_toArray, List.length_cons, List.length_nil, Nat.reduceAdd, Nat.reduceSub, Array.replicate_succ, Array.replicate_zero, List.push_toArray, List.append_toArray, List.nil_append, List.cons_append]
 gi_wp2
 gi_loopw [7] (fun i wr => ∃ k : Nat, i = .int .i64 (k : Int) ∧ k ≤ n ∧ Hid (SInvE BB ba bc ts S (fun k V => W.heap.size ≤ V.heap.size ∧ J k V) k wr)) (fun i _ => n - (intOf i).toNat)
 case atStart => exact ⟨0, rfl, Nat.zero_le _, HST⟩
 case round =>
  obtain ⟨k, rfl, hkn, hh⟩ := hrel
  clear HST c0
  by_cases hlt : k < n
  · obtain ⟨x, hx⟩ : ∃ x, ts[k]? = some x := ⟨_, List.getElem?_eq_getElem (by rw [← HN.out]; exact hlt)⟩
    have hki : (k : Int) < (n : Int) := by omega
    obtain ⟨b, xa, xc, ea, hSb, hcs, hlx, hfx⟩ := hh.out.1.2.2.2 k x hx
    subst ea
    obtain ⟨xn, hxn⟩ : ∃ xn, xn = foLen x.kids := ⟨_, rfl⟩
    have d0 : wr.cell? ⟨b, k * 4, none⟩ = some (.int .i64 x.id) := hcs 0 _ rfl
    have d1 : wr.cell? ⟨b, k * 4 + 1, none⟩ = some (.int .i64 x.kind) := hcs 1 _ rfl
    have d2 : wr.cell? ⟨b, k * 4 + 2, none⟩ = some (.string x.text) := hcs 2 _ rfl
    have d3 : wr.cell? ⟨b, k * 4 + 3, none⟩ = some (.slice xa xn xc) := by rw [hxn]; exact hcs 3 _ rfl
    have hVI : SInvE BB (some ⟨b, 0, none⟩) bc ts S (fun k V => W.heap.size ≤ V.heap.size ∧ J k V) k (wr.alloc (.cells #[.int .i64 x.id, .int .i64 x.kind, .string x.text, .slice xa xn xc] 24)) :=
     ⟨hh.out.1.kept (by simp) (fun y hy => Below.heap_alloc _ _ _ (hh.out.1.2.2.1 y hy)), ⟨Nat.le_trans hh.out.2.1 (touched_new _ _).size, HJ.out hh.out.2.2 (touched_new _ _)⟩⟩
    have hcp := copyN (X := wr.alloc (.cells #[.int .i64 x.id, .int .i64 x.kind, .string x.text, .slice xa xn xc] 24)) (E := E0) (t := x) (ta := xa) (tn := xn) (tc := xc) (fun q hq => by have := (HE0.out q hq).1; have := hh.out.2.1; simp; omega) ⟨hlx, hfx.kept fun q hq => ⟨⟨by have := hh.out.1.2.2.1 q hq; simp; omega, fun h => (HE0.out q h).2 hq⟩, Below.heap_alloc _ _ _ (hh.out.1.2.2.1 q hq)⟩⟩ hxn (by have := HM.out x (List.mem_of_getElem? hx); omega)
    obtain ⟨e0, e1, e2, e3⟩ := box4 (heap_alloc_new wr (.cells #[.int .i64 x.id, .int .i64 x.kind, .string x.text, .slice xa xn xc] 24))
    have HVI := Lib.hid hVI
    have HCP := Lib.hid hcp
    have HX := Lib.hid (And.intro hx hxn)
    have HKN := Lib.hid (And.intro hkn hlt)
    have hkw : IntKind.i64.wrap ((k : Int) + 1) = (k : Int) + 1 := IntWalk.i64_in _ (by omega)
    clear hh hx hSb hcs hlx hfx hxn hVI hcp hkn
    gi_wp2
    refine ⟨trivial, ?_⟩
    refine (callsIn_wide.2 HCP.out).mono ?_
    clear HCP d0 d1 d2 d3 e0 e1 e2 e3
    rintro e w2 ⟨va, vc, rfl, hl2, hb2⟩
    have hV2 : SInvE BB (some ⟨b, 0, none⟩) bc ts S (fun k V => W.heap.size ≤ V.heap.size ∧ J k V) k w2 := ⟨HVI.out.1.kept hb2.size (fun y hy => hb2.block y (HVI.out.1.2.2.1 y hy)), Nat.le_trans HVI.out.2.1 hb2.size, HJ.out HVI.out.2.2 ⟨hb2.os, hb2.tape, hb2.output, hb2.size, fun q h1 _ => hb2.block q h1⟩⟩
    obtain ⟨fn, tmps, assign, body, hy, hR⟩ := YieldAt.anyDepthW 5 (hB k x va vc w2 HX.out.1 hV2.1.2.2.1 hl2 hV2.2.2)
    rw [← HX.out.2] at hy
    have HV2 := Lib.hid hV2
    have HRR := Lib.hid hR
    clear hl2 hb2 hV2 HVI hR
    gi_wp2
    refine HRR.out.mono ?_
    clear HRR hy
    rintro e w3 ⟨hs3, hk3, (⟨rfl, hJ4⟩ | ⟨rfl, hJ4⟩)⟩
    · have HNX : Hid (SInvE BB (some ⟨b, 0, none⟩) bc ts S (fun k V => W.heap.size ≤ V.heap.size ∧ J k V) (k + 1) w3) := Lib.hid ⟨HV2.out.1.kept hs3 hk3, Nat.le_trans HV2.out.2.1 hs3, hJ4⟩
      clear hs3 hk3 hJ4 HV2
      gi_wp2
      refine ⟨⟨k + 1, by push_cast; rfl, by have := HKN.out; omega, HNX⟩, by have := HKN.out; simp [intOf]; omega⟩
    · have HE := Lib.hid (show SEndE ts J Jx (.returned (.tuple #[])) w3 from ⟨⟨_, rfl⟩, Or.inr hJ4⟩)
      clear hs3 hk3 hJ4 HV2
      gi_wp2
      go_end0
      exact HE.out
  · have hkl : ¬ (k : Int) < (n : Int) := by omega
    have HE := Lib.hid (show SEndE ts J Jx (.returned (.tuple #[])) wr from ⟨⟨_, rfl⟩, Or.inl (by rw [← HN.out, show n = k by omega]; exact hh.out.2.2)⟩)
    clear hh hkn hlt
    gi_wp2
    go_end0
    exact HE.out
def LeftQ (B : Nat) (S : Nat → Prop) (I : Nat → World → Prop) (Ix : Code → World → Prop) (k : Nat) (W : World) (e : Exit) (_ : Act) (V : World) : Prop :=
 W.heap.size ≤ V.heap.size ∧ (∀ y, (y = B ∨ y = B + 1 ∨ S y) → V.heap[y]? = W.heap[y]?) ∧ ((e = .normal ∧ I (k + 1) V) ∨ (e = .ret ∧ Ix .ret V) ∨ ∃ id, e = .exit id ∧ Ix (.exit id) V)
set_option maxRecDepth 100000 in
theorem range_trees {n : Nat} {g : Operand} {ps : Array Tmp} {assign body : Code} {Q : Exit → Act → World → Prop} {a : Act} {w : World} (h1 : 1 ≤ n) {BB : Nat} (hg : a.eval g = .func (.func 134) #[] #[.pointer (some ⟨BB, 0, none⟩)])
 (ba : Option Addr) (bc : Nat) (ts : List Tr) (S : Nat → Prop) (hids : TreesJ w BB ba bc ts S) (hn : ts.length ≤ 1000000) (hm : ∀ y ∈ ts, foSize y.kids + 1 ≤ 2000) (E0 : Nat → Prop) (hE0 : ∀ q, E0 q → q < w.heap.size + 2 ∧ ¬ S q) (hps : ps.size = 2)
 (I : Nat → World → Prop) (Ix : Code → World → Prop)
 (hI : ∀ {k : Nat} {V V' : World}, I k V → Touched V V' (fun x => x = w.heap.size + 1) → I k V')
 (hIx : ∀ {c : Code} {V V' : World}, Ix c V → Touched V V' (fun x => x = w.heap.size + 1) → Ix c V')
 (h0 : I 0 w)
 (hround : ∀ (l : Nat), l = w.heap.size + 1 → ∀ (k : Nat) (x : Tr) (va : Option Addr) (vc : Nat) (V : World), w.heap.size + 2 ≤ V.heap.size → ts[k]? = some x → LiesN V E0 x.kids va vc → I k V →
   ∀ (K : Act → World → Prop), (∀ a₁ V0, Touched V V0 (fun _ => False) → (∀ V', (∃ o', V' = V0.putObj l o' ∧ ∃ o, V0.heap[l]? = some o ∧ o.isCells = false) → body.wpIn (Fence.wide.inRound l) (n - 1 - 1) Try.prog (LeftQ w.heap.size S I Ix k V') a₁ V') → K a₁ V0) →
    assign.wpIn (Fence.wide.inRound l) (n - 1 - 1) Try.prog (Exit.then K (fun _ _ _ => False)) { tmps := (ps.zip #[.int .i64 (k : Int), .agg #[.int .i64 x.id, .int .i64 x.kind, .string x.text, .slice va (foLen x.kids) vc]]).foldl (fun t (p, v) => t.setIfInBounds p v) a.tmps, defers := [] } V)
 (hdone : ∀ (D : Nat) (V : World), D = w.heap.size → I ts.length V → V.heap[D]? = some (.deferred (some [])) → Q .normal { a with defers := { target := .collected D, args := #[] } :: a.defers } V)
 (hstop : ∀ (D : Nat) (c : Code) (V : World), D = w.heap.size → Ix c V → V.heap[D]? = some (.deferred (some [])) → c.wpIn Fence.wide n Try.prog Q { a with defers := { target := .collected D, args := #[] } :: a.defers } V) :
 (Code.rangeFunc g ps assign body).wpIn Fence.wide n Try.prog Q a w := by
 obtain ⟨B, hB⟩ : ∃ B, w.heap.size = B := ⟨_, rfl⟩
 have hSB : ∀ y, S y → y < B := fun y hy => by have := hids.2.2.1 y hy; omega
 simp only [hB] at hI hIx hround hdone hstop h0
 refine wpIn_rangeFunc fun fn hfn => ?_
 obtain ⟨rec, hrec⟩ : ∃ rec : LoopState → Option Code → Loop, rec = fun st pe => { state := st, pending := pe, fn, tmps := a.tmps, params := ps, assign, body, defers := B } := ⟨_, rfl⟩
 obtain ⟨W1, hW1⟩ : ∃ W1, W1 = (w.alloc (.deferred (some []))).alloc (.loop (rec .ready none)) := ⟨_, rfl⟩
 have hsz1 : W1.heap.size = B + 2 := by rw [hW1]; simp [hB]
 have hblk : ∀ x, x < B → W1.heap[x]? = w.heap[x]? := fun x hx => by rw [hW1, Below.heap_alloc _ _ _ (by simp; omega), Below.heap_alloc _ _ _ (by omega)]
 have hbk : Book B (rec .ready none) W1 := by
  rw [hW1, ← hB]
  refine ⟨?_, (Below.heap_alloc _ _ _ (by simp)).trans (World.alloc_heap_new w _)⟩
  have := World.alloc_heap_new (w.alloc (.deferred (some []))) (.loop (rec .ready none))
  rwa [World.size_alloc] at this
 have hb1 : Touched w W1 (fun _ => False) := by rw [hW1]; exact ((Touched.refl w _).alloc _).alloc _
 have hI1 : I 0 W1 := hI h0 (hb1.mono (fun _ h => h.elim))
 refine ⟨B + 1, [{ target := .collected B, args := #[] }], W1, { target := .fn (.func 134) #[.pointer (some ⟨BB, 0, none⟩)], args := #[.func (.yield (B + 1)) #[] #[]] }, W1, 134, #[.func (.yield (B + 1)) #[] #[]] ++ #[.pointer (some ⟨BB, 0, none⟩)], W1, ?_, ?_, ?_, ?_, fun _ => h1, ?_⟩
 · rw [hW1, hrec, ← hB]; exact run_enterLoop_outer _ _ _ _ _
 · simp only [resolve, hg]
   simp [go_sem]
 · intro f' hf'; simp [Target.leads] at hf'; subst hf'; exact trivial
 · simp [invoke, go_sem]
 · obtain ⟨J, hJ⟩ : ∃ J : Nat → World → Prop, J = fun k V => I k V ∧ Book B (rec .ready none) V := ⟨_, rfl⟩
   obtain ⟨Jx, hJx⟩ : ∃ Jx : World → Prop, Jx = fun V => ∃ c, Ix c V ∧ Book B (rec .done (some c)) V := ⟨_, rfl⟩
   have hbody : BodyE Try.prog (n - 1 - 1) (B + 1) S E0 ts J Jx := by
    subst hJ hJx
    rintro k x va vc V hx hS hlx ⟨j1, j2⟩
    have hr := hround (B + 1) rfl k x va vc V (by have := lt_of_heap j2.1; omega) hx hlx j1
    have hSl : ∀ y, S y → y ≠ B + 1 := fun y hy => by have := hSB y hy; omega
    have hy := run_yield (P := Try.prog) (args := #[.int .i64 (k : Int), .agg #[.int .i64 x.id, .int .i64 x.kind, .string x.text, .slice va (foLen x.kids) vc]]) j2.1 (by rw [hrec]; exact hps.symm)
    rw [hrec] at hy
    refine ⟨fn, _, assign, body, hy, roundIn_of_wpIn hfn (hr _ fun a₁ V0 h0 hb => ?_)⟩
    have j3 : Book B (rec .ready none) V0 := ⟨(h0.block _ (lt_of_heap j2.1) (fun h => h)).trans j2.1, (h0.block _ (lt_of_heap j2.2) (fun h => h)).trans j2.2⟩
    refine ⟨_, run_beginRound j3.1 (by rw [hrec]), ?_⟩
    have hb2 : Book B { rec .ready none with state := .busy } (V0.putObj (B + 1) (.loop { rec .ready none with state := .busy })) := j3.put
    refine wpIn_mono (hb _ ⟨_, rfl, _, j3.1, rfl⟩) ?_
    rintro e3 a3 U ⟨hkU, hkS, hp⟩
    have hb3 : Book B { rec .ready none with state := .busy } U := ⟨(hkS _ (Or.inr (Or.inl rfl))).trans hb2.1, (hkS _ (Or.inl rfl)).trans hb2.2⟩
    have fin := fun jump => run_endRound (P := Try.prog) jump hb3.1
    rw [hrec] at fin hb3
    have hUs : V.heap.size ≤ U.heap.size := by have := hkU; have := h0.size; simp [World.putObj] at *; omega
    have hsz : ∀ o', V.heap.size ≤ (U.putObj (B + 1) o').heap.size := fun o' => by simp [World.putObj]; exact hUs
    have hallS : ∀ o' y, S y → (U.putObj (B + 1) o').heap[y]? = V.heap[y]? := fun o' y hy => by
     rw [World.putObj_heap_other (hSl y hy), hkS y (Or.inr (Or.inr hy)), World.putObj_heap_other (hSl y hy), h0.block y (hS y hy) (fun h => h)]
    have htp : ∀ o', Touched U (U.putObj (B + 1) o') (fun x => x = B + 1) := fun o' => touched_put o' hb3.1
    rcases hp with ⟨rfl, hi3⟩ | ⟨rfl, hi3⟩ | ⟨id, rfl, hi3⟩
    · refine ⟨_, _, fin none, hsz _, hallS _, .inl ⟨rfl, hI hi3 (htp _), ?_⟩⟩
      rw [hrec]; exact hb3.put
    · refine ⟨_, _, fin (some .ret), hsz _, hallS _, .inr ⟨rfl, .ret, hIx hi3 (htp _), ?_⟩⟩
      rw [hrec]; exact hb3.put
    · refine ⟨_, _, fin (some (.exit id)), hsz _, hallS _, .inr ⟨rfl, .exit id, hIx hi3 (htp _), ?_⟩⟩
      rw [hrec]; exact hb3.put
   have hstart : J 0 W1 := by rw [hJ]; exact ⟨hI1, hbk⟩
   refine (callsIn_wide.2 (each2_any hbody (fun {k V V1} j hb => by rw [hJ] at j ⊢; exact ⟨hI j.1 (hb.mono (fun _ h => h.elim)), (hb.block _ (lt_of_heap j.2.1) (fun h => h)).trans j.2.1, (hb.block _ (lt_of_heap j.2.2) (fun h => h)).trans j.2.2⟩) W1 BB ba bc (hids.kept hb1.size (fun y hy => hblk y (hSB y hy))) hn hm (fun q hq => ⟨by have := (hE0 q hq).1; omega, (hE0 q hq).2⟩) hstart)).mono ?_
   rintro e W2 ⟨⟨v, rfl⟩, hj | hj⟩
   · rw [hJ] at hj
     obtain ⟨hi, hb⟩ := hj
     have := run_endLoop (P := Try.prog) hb.1 (by rw [hrec]; simp)
     rw [hrec] at this
     refine ⟨none, _, this, hdone B _ rfl (hI hi (touched_put _ hb.1)) ((World.putObj_heap_other (by omega)).trans hb.2)⟩
   · rw [hJx] at hj
     obtain ⟨c, hi, hb⟩ := hj
     have := run_endLoop (P := Try.prog) hb.1 (by rw [hrec]; simp)
     rw [hrec] at this
     exact ⟨some c, _, this, hstop B c _ rfl (hIx hi (touched_put _ hb.1)) ((World.putObj_heap_other (by omega)).trans hb.2)⟩
end Go.Proofs.Ytonapijgfalpaaa
