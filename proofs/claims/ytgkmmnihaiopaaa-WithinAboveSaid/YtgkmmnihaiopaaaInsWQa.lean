/-
  .
-/
import Derived.Test.YtgkmmnihaiopaaaTouWQa
import Derived.Test.YtgkmmnihaiopaaaJIdsQa
import Derived.Test.YtgkmmnihaiopaaaKDoQa
import Derived.WalkMore
import Derived.Test.YtgkmmnihaiopaaaSubWQa
import Derived.Test.YtgkmmnihaiopaaaJPgQa
set_option maxRecDepth 100000
set_option maxHeartbeats 40000000
set_option linter.unusedVariables false
set_option linter.unusedSimpArgs false
namespace Go.Proofs.Ytgkmmnihaiopaaa
open Go.RowKit Go.Shelf
attribute [local go_sem] Oper.semAt_some
def yz (op id par : Int) : List Int := if op = 1 then [par] else if op = 2 then [id] else if op = 3 then [id, par] else if op = 4 then [id] else []
theorem Jk.kept {w w' : World} {ob pb ib : Nat} {op id par : Int} {S : Nat → Prop} (h : Jk w ob pb ib op id par S) (hs : w.heap.size ≤ w'.heap.size) (hk : ∀ y, S y → w'.heap[y]? = w.heap[y]?) : Jk w' ob pb ib op id par S :=
 ⟨(hk _ h.so).trans h.o, (hk _ h.sp).trans h.p, (hk _ h.si).trans h.i, h.so, h.sp, h.si, fun y hy => nL (h.lt y hy) hs⟩
theorem zal {m l : Nat} {S : Nat → Prop} {op id par : Int} {J : Nat → World → Prop} {Jx : World → Prop} (hB : zf9 Try.prog m l S (yz op id par) J Jx) (W : World) (ob pb ib : Nat) (hI : Jk W ob pb ib op id par S) (hJ : J 0 W) :
 Calls Try.prog 97 #[.func (.yield l) #[] #[], .pointer (some ⟨ob, 0, none⟩), .pointer (some ⟨pb, 0, none⟩), .pointer (some ⟨ib, 0, none⟩)] W (Zf (yz op id par) J Jx) := by
 obtain ⟨c0, c1, c2⟩ : W.cell? ⟨ob, 0, none⟩ = some (.int .i8 op) ∧ W.cell? ⟨pb, 0, none⟩ = some (.int .i64 par) ∧ W.cell? ⟨ib, 0, none⟩ = some (.int .i64 id) := ⟨by rw [cell_of_row _ _ 0 _ _ _ hI.o]; rfl, by rw [cell_of_row _ _ 0 _ _ _ hI.p]; rfl, by rw [cell_of_row _ _ 0 _ _ _ hI.i]; rfl⟩
 have HI := hH (aN hI hJ)
 have HBB := hH hB
 clear hI hJ hB
 refine (callsIn_wide (n := 6)).1 ?_
 refine callsIn_of_wp Try.func97 rfl trivial ?_ rfl
 simp only [Try.ntmps97, List.size_toArray, List.length_cons, List.length_nil, Nat.reduceAdd, Nat.reduceSub, Array.replicate_succ, Array.replicate_zero, List.push_toArray, List.append_toArray, List.nil_append, List.cons_append]
 by_cases ho : op = 1
 · have HK : Hid (yz op id par = [par]) := hH (by rw [ho]; rfl)
   have hb1 : (op == 1) = true := by rw [ho]; decide
   have hb2 : (op == 2) = false := by rw [ho]; decide
   have hb4 : (op == 4) = false := by rw [ho]; decide
   have hb3 : (op == 3) = false := by rw [ho]; decide
   clear ho
   obtain ⟨fn, tmps, assign, body, hy, hR⟩ := YieldAt.qA 5 (HBB.out 0 par W (by rw [HK.out]; rfl) HI.out.1.lt HI.out.2)
   have HR := hH hR
   clear hR
   gi_wp2
   refine HR.out.mono ?_
   clear HR hy
   rintro e w2 ⟨hs2, hk2, (⟨rfl, hJ4⟩ | ⟨rfl, hJ4⟩)⟩
   · have HE := hH (Zf.mk0 (tl := yz op id par) (Jx := Jx) (v := .tuple #[]) hJ4 (by rw [HK.out]; rfl))
     clear hs2 hk2 hJ4
     gi_wp2
     go_end0
     exact HE.out
   · have HE := hH (Zf.mkx (tl := yz op id par) (J := J) (v := .tuple #[]) hJ4)
     clear hs2 hk2 hJ4
     gi_wp2
     go_end0
     exact HE.out
 · have hn1 := ho
   clear ho
   · by_cases ho : op = 2
     · have HK : Hid (yz op id par = [id]) := hH (by rw [ho]; rfl)
       have hb1 : (op == 1) = false := by rw [ho]; decide
       have hb2 : (op == 2) = true := by rw [ho]; decide
       have hb4 : (op == 4) = false := by rw [ho]; decide
       have hb3 : (op == 3) = false := by rw [ho]; decide
       clear ho
       obtain ⟨fn, tmps, assign, body, hy, hR⟩ := YieldAt.qA 5 (HBB.out 0 id W (by rw [HK.out]; rfl) HI.out.1.lt HI.out.2)
       have HR := hH hR
       clear hR
       gi_wp2
       refine HR.out.mono ?_
       clear HR hy
       rintro e w2 ⟨hs2, hk2, (⟨rfl, hJ4⟩ | ⟨rfl, hJ4⟩)⟩
       · have HE := hH (Zf.mk0 (tl := yz op id par) (Jx := Jx) (v := .tuple #[]) hJ4 (by rw [HK.out]; rfl))
         clear hs2 hk2 hJ4
         gi_wp2
         go_end0
         exact HE.out
       · have HE := hH (Zf.mkx (tl := yz op id par) (J := J) (v := .tuple #[]) hJ4)
         clear hs2 hk2 hJ4
         gi_wp2
         go_end0
         exact HE.out
     · have hn2 := ho
       clear ho
       · by_cases ho : op = 3
         · have HK : Hid (yz op id par = [id, par]) := hH (by rw [ho]; rfl)
           have hb1 : (op == 1) = false := by rw [ho]; decide
           have hb2 : (op == 2) = false := by rw [ho]; decide
           have hb4 : (op == 4) = false := by rw [ho]; decide
           have hb3 : (op == 3) = true := by rw [ho]; decide
           clear ho
           obtain ⟨fn, tmps, assign, body, hy, hR⟩ := YieldAt.qA 5 (HBB.out 0 id W (by rw [HK.out]; rfl) HI.out.1.lt HI.out.2)
           have HR := hH hR
           clear hR
           gi_wp2
           refine HR.out.mono ?_
           clear HR hy
           rintro e w2 ⟨hs2, hk2, (⟨rfl, hJ4⟩ | ⟨rfl, hJ4⟩)⟩
           · have HI2 := hH (aN (HI.out.1.kept hs2 hk2) hJ4)
             have c1 : w2.cell? ⟨pb, 0, none⟩ = some (.int .i64 par) := by rw [cell_of_row _ _ 0 _ _ _ HI2.out.1.p]; rfl
             clear hs2 hk2 hJ4 c0 c2
             obtain ⟨fn, tmps, assign, body, hy, hR⟩ := YieldAt.qA 5 (HBB.out 1 par w2 (by rw [HK.out]; rfl) HI2.out.1.lt HI2.out.2)
             have HR := hH hR
             clear hR
             gi_wp2
             refine HR.out.mono ?_
             clear HR hy
             rintro e w3 ⟨hs2, hk2, (⟨rfl, hJ4⟩ | ⟨rfl, hJ4⟩)⟩
             · have HE := hH (Zf.mk0 (tl := yz op id par) (Jx := Jx) (v := .tuple #[]) hJ4 (by rw [HK.out]; rfl))
               clear hs2 hk2 hJ4
               gi_wp2
               go_end0
               exact HE.out
             · have HE := hH (Zf.mkx (tl := yz op id par) (J := J) (v := .tuple #[]) hJ4)
               clear hs2 hk2 hJ4
               gi_wp2
               go_end0
               exact HE.out
           · have HE := hH (Zf.mkx (tl := yz op id par) (J := J) (v := .tuple #[]) hJ4)
             clear hs2 hk2 hJ4
             gi_wp2
             go_end0
             exact HE.out
         · have hn3 := ho
           clear ho
           · by_cases ho : op = 4
             · have HK : Hid (yz op id par = [id]) := hH (by rw [ho]; rfl)
               have hb1 : (op == 1) = false := by rw [ho]; decide
               have hb2 : (op == 2) = false := by rw [ho]; decide
               have hb4 : (op == 4) = true := by rw [ho]; decide
               have hb3 : (op == 3) = false := by rw [ho]; decide
               clear ho
               obtain ⟨fn, tmps, assign, body, hy, hR⟩ := YieldAt.qA 5 (HBB.out 0 id W (by rw [HK.out]; rfl) HI.out.1.lt HI.out.2)
               have HR := hH hR
               clear hR
               gi_wp2
               refine HR.out.mono ?_
               clear HR hy
               rintro e w2 ⟨hs2, hk2, (⟨rfl, hJ4⟩ | ⟨rfl, hJ4⟩)⟩
               · have HE := hH (Zf.mk0 (tl := yz op id par) (Jx := Jx) (v := .tuple #[]) hJ4 (by rw [HK.out]; rfl))
                 clear hs2 hk2 hJ4
                 gi_wp2
                 go_end0
                 exact HE.out
               · have HE := hH (Zf.mkx (tl := yz op id par) (J := J) (v := .tuple #[]) hJ4)
                 clear hs2 hk2 hJ4
                 gi_wp2
                 go_end0
                 exact HE.out
             · have hn4 := ho
               clear ho
               have HK : Hid (yz op id par = []) := hH (by unfold yz; rw [if_neg hn1, if_neg hn2, if_neg hn3, if_neg hn4])
               have hb1 : (op == 1) = false := by simpa using hn1
               have hb2 : (op == 2) = false := by simpa using hn2
               have hb4 : (op == 4) = false := by simpa using hn4
               have hb3 : (op == 3) = false := by simpa using hn3
               have HE := hH (Zf.mk0 (tl := yz op id par) (Jx := Jx) (v := .tuple #[]) HI.out.2 (by rw [HK.out]; rfl))
               clear hn1 hn2 hn3 hn4
               gi_wp2
               go_end0
               exact HE.out
theorem zbp {n : Nat} {g : Operand} {ps : Array Tmp} {assign body : Code} {Q : Exit → Act → World → Prop} {a : Act} {w : World} (h1 : 1 ≤ n) {ob pb ib : Nat} (hg : a.eval g = .func (.func 97) #[] #[.pointer (some ⟨ob, 0, none⟩), .pointer (some ⟨pb, 0, none⟩), .pointer (some ⟨ib, 0, none⟩)])
 (op id par : Int) (S : Nat → Prop) (hids : Jk w ob pb ib op id par S) (hps : ps.size = 1)
 (I : Nat → World → Prop) (Ix : Code → World → Prop)
 (hI : ∀ {k : Nat} {V V' : World}, I k V → zk V V' (fun x => w.heap.size ≤ x ∧ zS V x) → I k V')
 (hIx : ∀ {c : Code} {V V' : World}, Ix c V → zk V V' (fun x => w.heap.size ≤ x ∧ zS V x) → Ix c V')
 (h0 : I 0 w)
 (hround : ∀ (l : Nat), l = w.heap.size + 1 → ∀ (k : Nat) (x : Int) (V : World), w.heap.size + 2 ≤ V.heap.size → (yz op id par)[k]? = some x → I k V →
   ∀ (K : Act → World → Prop), (∀ a₁, (∀ V', (∃ o', V' = V.putObj l o' ∧ ∃ o, V.heap[l]? = some o ∧ o.isCells = false) → body.wpIn (Fence.wide.inRound l) (n - 1 - 1) Try.prog (zeq w.heap.size S I Ix k V') a₁ V') → K a₁ V) →
    assign.wpIn (Fence.wide.inRound l) (n - 1 - 1) Try.prog (Exit.then K (fun _ _ _ => False)) { tmps := (ps.zip #[.int .i64 x]).foldl (fun t (p, v) => t.setIfInBounds p v) a.tmps, defers := [] } V)
 (hdone : ∀ (D : Nat) (V : World), D = w.heap.size → I (yz op id par).length V → V.heap[D]? = some (.deferred (some [])) → Q .normal { a with defers := { target := .collected D, args := #[] } :: a.defers } V)
 (hstop : ∀ (D : Nat) (c : Code) (V : World), D = w.heap.size → Ix c V → V.heap[D]? = some (.deferred (some [])) → c.wpIn Fence.wide n Try.prog Q { a with defers := { target := .collected D, args := #[] } :: a.defers } V) :
 (Code.rangeFunc g ps assign body).wpIn Fence.wide n Try.prog Q a w := by
 obtain ⟨B, hB⟩ : ∃ B, w.heap.size = B := ⟨_, rfl⟩
 have hSB : ∀ y, S y → y < B := fun y hy => by have := hids.lt y hy; omega
 simp only [hB] at hI hIx hround hdone hstop h0
 refine wpIn_rangeFunc fun fn hfn => ?_
 obtain ⟨rec, hrec⟩ : ∃ rec : LoopState → Option Code → Loop, rec = fun st pe => { state := st, pending := pe, fn, tmps := a.tmps, params := ps, assign, body, defers := B } := ⟨_, rfl⟩
 obtain ⟨W1, hW1⟩ : ∃ W1, W1 = (w.alloc (.deferred (some []))).alloc (.loop (rec .ready none)) := ⟨_, rfl⟩
 have hsz1 : W1.heap.size = B + 2 := by rw [hW1]; simp [hB]
 have hblk : ∀ x, x < B → W1.heap[x]? = w.heap[x]? := fun x hx => by rw [hW1, Below.heap_alloc _ _ _ (by simp; omega), Below.heap_alloc _ _ _ (by omega)]
 have hbk : Book B (rec .ready none) W1 := by
  rw [hW1, ← hB]
  refine ⟨?_, (Below.heap_alloc _ _ _ (by simp)).trans (World.alloc_heap_new w _)⟩
  have := World.alloc_heap_new (w.alloc (.deferred (some []))) (.loop (rec .ready none))
  rwa [World.size_alloc] at this
 have hb1 : zk w W1 (fun _ => False) := by rw [hW1]; exact ((zk.refl w _).alloc _).alloc _
 have hI1 : I 0 W1 := hI h0 (hb1.mono (fun _ h => h.elim))
 refine ⟨B + 1, [{ target := .collected B, args := #[] }], W1, { target := .fn (.func 97) #[.pointer (some ⟨ob, 0, none⟩), .pointer (some ⟨pb, 0, none⟩), .pointer (some ⟨ib, 0, none⟩)], args := #[.func (.yield (B + 1)) #[] #[]] }, W1, 97, #[.func (.yield (B + 1)) #[] #[]] ++ #[.pointer (some ⟨ob, 0, none⟩), .pointer (some ⟨pb, 0, none⟩), .pointer (some ⟨ib, 0, none⟩)], W1, ?_, ?_, ?_, ?_, fun _ => h1, ?_⟩
 · rw [hW1, hrec, ← hB]; exact run_enterLoop_outer _ _ _ _ _
 · simp only [resolve, hg]
   simp [go_sem]
 · intro f' hf'; simp [Target.leads] at hf'; subst hf'; exact trivial
 · simp [invoke, go_sem]
 · obtain ⟨J, hJ⟩ : ∃ J : Nat → World → Prop, J = fun k V => I k V ∧ Book B (rec .ready none) V := ⟨_, rfl⟩
   obtain ⟨Jx, hJx⟩ : ∃ Jx : World → Prop, Jx = fun V => ∃ c, Ix c V ∧ Book B (rec .done (some c)) V := ⟨_, rfl⟩
   have hbody : zf9 Try.prog (n - 1 - 1) (B + 1) S (yz op id par) J Jx := by
    subst hJ hJx
    rintro k x V hx hS ⟨j1, j2⟩
    have hr := hround (B + 1) rfl k x V (by have := lt_of_heap j2.1; omega) hx j1
    have hSl : ∀ y, S y → y ≠ B + 1 := fun y hy => by have := hSB y hy; omega
    have hy := run_yield (P := Try.prog) (args := #[.int .i64 x]) j2.1 (by rw [hrec]; exact hps.symm)
    rw [hrec] at hy
    refine ⟨fn, _, assign, body, hy, roundIn_of_wpIn hfn (hr _ fun a₁ hb => ?_)⟩
    refine ⟨_, run_beginRound j2.1 (by rw [hrec]), ?_⟩
    have hb2 : Book B { rec .ready none with state := .busy } (V.putObj (B + 1) (.loop { rec .ready none with state := .busy })) := j2.put
    refine wpIn_mono (hb _ ⟨_, rfl, _, j2.1, rfl⟩) ?_
    rintro e3 a3 U ⟨hkU, hkS, hp⟩
    have hb3 := hb2.kept hkU
    have fin := fun jump => run_endRound (P := Try.prog) jump hb3.1
    rw [hrec] at fin hb3
    have hUs : V.heap.size ≤ U.heap.size := by have := hkU.size; simp [World.putObj] at this; exact this
    have hsz : ∀ o', V.heap.size ≤ (U.putObj (B + 1) o').heap.size := fun o' => by simp [World.putObj]; exact hUs
    have hallS : ∀ o' y, S y → (U.putObj (B + 1) o').heap[y]? = V.heap[y]? := fun o' y hy => by
     rw [World.putObj_heap_other (hSl y hy), hkS y hy, World.putObj_heap_other (hSl y hy)]
    have htp : ∀ o', zk U (U.putObj (B + 1) o') (fun x => B ≤ x ∧ zS U x) := fun o' => (zZ o' hb3.1).mono (fun x hx => ⟨by omega, by rw [hx]; exact ⟨_, hb3.1, rfl⟩⟩)
    rcases hp with ⟨rfl, hi3⟩ | ⟨rfl, hi3⟩ | ⟨id, rfl, hi3⟩
    · refine ⟨_, _, fin none, hsz _, hallS _, .inl ⟨rfl, hI hi3 (htp _), ?_⟩⟩
      rw [hrec]; exact hb3.put
    · refine ⟨_, _, fin (some .ret), hsz _, hallS _, .inr ⟨rfl, .ret, hIx hi3 (htp _), ?_⟩⟩
      rw [hrec]; exact hb3.put
    · refine ⟨_, _, fin (some (.exit id)), hsz _, hallS _, .inr ⟨rfl, .exit id, hIx hi3 (htp _), ?_⟩⟩
      rw [hrec]; exact hb3.put
   have hstart : J 0 W1 := by rw [hJ]; exact ⟨hI1, hbk⟩
   refine (callsIn_wide.2 (zal hbody W1 ob pb ib (hids.kept hb1.size (fun y hy => hblk y (hSB y hy))) hstart)).mono ?_
   rintro e W2 ⟨⟨v, rfl⟩, hj | hj⟩
   · rw [hJ] at hj
     obtain ⟨hi, hb⟩ := hj
     have := run_endLoop (P := Try.prog) hb.1 (by rw [hrec]; simp)
     rw [hrec] at this
     refine ⟨none, _, this, hdone B _ rfl (hI hi ((zZ _ hb.1).mono (fun x hx => ⟨by omega, by rw [hx]; exact ⟨_, hb.1, rfl⟩⟩))) ((World.putObj_heap_other (by omega)).trans hb.2)⟩
   · rw [hJx] at hj
     obtain ⟨c, hi, hb⟩ := hj
     have := run_endLoop (P := Try.prog) hb.1 (by rw [hrec]; simp)
     rw [hrec] at this
     exact ⟨some c, _, this, hstop B c _ rfl (hIx hi ((zZ _ hb.1).mono (fun x hx => ⟨by omega, by rw [hx]; exact ⟨_, hb.1, rfl⟩⟩))) ((World.putObj_heap_other (by omega)).trans hb.2)⟩
end Go.Proofs.Ytgkmmnihaiopaaa
namespace Go.Proofs.Ytgkmmnihaiopaaa
open Go.RowKit Go.Shelf
attribute [local go_sem] Oper.semAt_some
structure NV where
 i : Int
 k : Int
 tx : ByteArray
 a : Option Addr
 n : Nat
 c : Nat
def NV.v (v : NV) : Value := .agg #[.int .i64 v.i, .int .i64 v.k, .string v.tx, .slice v.a v.n v.c]
def zgt (N0 : Nat) (lf : FuncId) (caps : Array Value) (v : NV) (k : Int) (n : Int) (V : World) : Prop := V.heap[N0 + 1]? = some (.cells #[.func (.func lf) #[] caps] 60 (0, 0)) ∧ V.heap[N0 + 2]? = some (.cells #[.int .i64 v.i, .int .i64 v.k, .string v.tx, .slice v.a v.n v.c] 27 (0, 0)) ∧ V.heap[N0 + 3]? = some (.cells #[.int .i64 k] 3 (0, 0)) ∧ V.heap[N0 + 4]? = some (.cells #[.int .i64 n] 41 (0, 0)) ∧ N0 + 5 ≤ V.heap.size
theorem zgt.kept {N0 : Nat} {lf : FuncId} {caps : Array Value} {v : NV} {k n : Int} {V V' : World} (h : zgt N0 lf caps v k n V) (hs : V.heap.size ≤ V'.heap.size) (hk : ∀ q, N0 ≤ q → q < N0 + 5 → V'.heap[q]? = V.heap[q]?) : zgt N0 lf caps v k n V' := by
 obtain ⟨h1, h2, h3, h4, h5⟩ := h
 exact ⟨(hk _ (by omega) (by omega)).trans h1, (hk _ (by omega) (by omega)).trans h2, (hk _ (by omega) (by omega)).trans h3, (hk _ (by omega) (by omega)).trans h4, by omega⟩
theorem Ze {P : Program} {fn : Func} {p q r : Tmp} {tp tq tr : TypeId} (h : fn.results = #[.cell p tp, .cell q tq, .cell r tr]) (tmps : Array Value) (w : World) (g g1 g2 : Nat) (t : TypeId) (cs : Array Value) (fr : Nat × Nat) (d : TypeDesc) (a b : Int) (hp : tmps.getD p undef = .pointer (some ⟨g, 0, none⟩)) (hq : tmps.getD q undef = .pointer (some ⟨g1, 0, none⟩)) (hr : tmps.getD r undef = .pointer (some ⟨g2, 0, none⟩))
 (hg : w.heap[g]? = some (.cells cs t fr)) (hu : P.underlying tp = some d) (hd : (match d with | .struct _ | .array _ _ => true | _ => false) = true) (hi : (P.info? tp).map (·.size) = some cs.size)
 (hc1 : w.cell? ⟨g1, 0, none⟩ = some (.int .i64 a)) (hc2 : w.cell? ⟨g2, 0, none⟩ = some (.int .i64 b)) (hb : ∀ w, (isAgg tq).run P w = .ok false w) (hb2 : ∀ w, (isAgg tr).run P w = .ok false w) : (results fn tmps).run P w = .ok (.tuple #[.agg cs, .int .i64 a, .int .i64 b]) w := by
 have hp' : tmps[p]?.getD undef = .pointer (some ⟨g, 0, none⟩) := by simpa using hp
 have hq' : tmps[q]?.getD undef = .pointer (some ⟨g1, 0, none⟩) := by simpa using hq
 have hr' : tmps[r]?.getD undef = .pointer (some ⟨g2, 0, none⟩) := by simpa using hr
 have hl0 := run_loadVar_row w g t tp cs fr d hg hu hd hi
 have hl : (loadVar tq ⟨g1, 0, none⟩).run P w = .ok (.int .i64 a) w := by simp [go_sem, hc1, hb, Result.andThen]
 have hl2 : (loadVar tr ⟨g2, 0, none⟩).run P w = .ok (.int .i64 b) w := by simp [go_sem, hc2, hb2, Result.andThen]
 simp [results, h, hp', hq', hr', asAddr, hl0, hl, hl2]
theorem zc5 {c : Code} {P : Program} {Q : Exit → Act → World → Prop} {a : Act} {w : World} (h : c.wp P (fun e a w => e = .normal ∧ Q .normal a w) a w) : c.wp P Q a w := wp_mono h (fun e a w h => by obtain ⟨rfl, h⟩ := h; exact h)
end Go.Proofs.Ytgkmmnihaiopaaa
namespace Go.Proofs.Ytgkmmnihaiopaaa
open Go.RowKit Go.Shelf
open Go.Maps
attribute [local go_sem] Oper.semAt_some
def jW (op id x : Int) : Bool := (id == x) && ((op == 2) || (op == 3))
theorem zd5 (w : World) (op id par at_ xi xk x : Int) (tx xt : ByteArray) (sa : Option Addr) (sn sc : Nat) :
 Calls Try.prog 64 #[.agg #[.int .i8 op, .int .i64 id, .int .i64 par, .int .i64 at_, .string tx, .int .i64 xi, .int .i64 xk, .string xt, .slice sa sn sc], .int .i64 x] w (Says (jW op id x) w) := by
 have hb := zh w (.cells #[.int .i8 op, .int .i64 id, .int .i64 par, .int .i64 at_, .string tx, .int .i64 xi, .int .i64 xk, .string xt, .slice sa sn sc] 49)
 have HB := hH hb
 clear hb
 obtain ⟨r, hr⟩ : ∃ r, r = jW op id x := ⟨_, rfl⟩
 rw [← hr]
 unfold jW at hr
 cases h1 : (id == x) with
 | false =>
   have HR := hH (show r = false by rw [hr, h1]; rfl)
   clear hr
   go_enter Try.func64, Try.ntmps64
   go_wp2
   go_ret
   exact ⟨by rw [HR.out]; rfl, HB.out⟩
 | true =>
   cases h2 : (op == 2) with
   | true =>
     have HR := hH (show r = true by rw [hr, h1, h2]; rfl)
     clear hr
     go_enter Try.func64, Try.ntmps64
     go_wp2
     go_ret
     exact ⟨by rw [HR.out]; rfl, HB.out⟩
   | false =>
     cases h3 : (op == 3) with
     | true =>
       have HR := hH (show r = true by rw [hr, h1, h2, h3]; rfl)
       clear hr
       go_enter Try.func64, Try.ntmps64
       go_wp2
       go_ret
       exact ⟨by rw [HR.out]; rfl, HB.out⟩
     | false =>
       have HR := hH (show r = false by rw [hr, h1, h2, h3]; rfl)
       clear hr
       go_enter Try.func64, Try.ntmps64
       go_wp2
       go_ret
       exact ⟨by rw [HR.out]; rfl, HB.out⟩
def vg (ids : List Int) (root op id x : Int) : Bool := ids.any (· == x) && !((x == root) && jW op id x)
def qH (ids : List Int) (root op id par : Int) : Bool := !(yz op id par).isEmpty && (yz op id par).all (vg ids root op id)
theorem zdH {w W V V' : World} (hw : w.heap.size ≤ W.heap.size) (h : Below w.heap.size w V) (ht : zk V V' (fun x => W.heap.size ≤ x ∧ zS V x)) : Below w.heap.size w V' :=
 ⟨ht.os.trans h.os, ht.tape.trans h.tape, ht.output.trans h.output, Nat.le_trans h.size ht.size, fun x hx => (ht.block x (by have := h.size; omega) (fun hn => by have := hn.1; omega)).trans (h.block x hx)⟩
theorem jf {W V V' : World} (ht : zk V V' (fun x => W.heap.size ≤ x ∧ zS V x)) (x : Nat) (o : Obj) (ho : V.heap[x]? = some o) (hc : o.isCells = true) : V'.heap[x]? = some o :=
 (ht.block x (lt_of_heap ho) (fun hn => by
   obtain ⟨_, o', ho', hc'⟩ := hn
   rw [ho] at ho'; cases ho'; rw [hc] at hc'; cases hc')).trans ho
structure jK (w : World) (mb : Nat) (root : Int) (sv : Array Value) (b : Bool) (V : World) : Prop where
 below : Below w.heap.size w V
 m : V.heap[w.heap.size]? = some (.cells #[.map (some mb)] 85 (0, 0))
 r : V.heap[w.heap.size + 1]? = some (.cells #[.int .i64 root] 3 (0, 0))
 s : V.heap[w.heap.size + 1 + 1]? = some (.cells sv 49 (0, 0))
 i : V.heap[w.heap.size + 1 + 1 + 1]? = some (.cells #[.bool b] 4 (0, 0))
theorem jK.same {w W V V' : World} {mb : Nat} {root : Int} {sv : Array Value} {b : Bool} (h : jK w mb root sv b V) (hw : w.heap.size ≤ W.heap.size) (ht : zk V V' (fun x => W.heap.size ≤ x ∧ zS V x)) : jK w mb root sv b V' :=
 ⟨zdH hw h.below ht, jf ht _ _ h.m rfl, jf ht _ _ h.r rfl, jf ht _ _ h.s rfl, jf ht _ _ h.i rfl⟩
theorem jK.on {w V V' : World} {mb : Nat} {root : Int} {sv : Array Value} {b : Bool} (h : jK w mb root sv b V) (k : Below V.heap.size V V') : jK w mb root sv b V' :=
 ⟨h.below.trans (k.mono h.below.size), (k.block _ (lt_of_heap h.m)).trans h.m, (k.block _ (lt_of_heap h.r)).trans h.r, (k.block _ (lt_of_heap h.s)).trans h.s, (k.block _ (lt_of_heap h.i)).trans h.i⟩
theorem jK.set {w V : World} {mb : Nat} {root : Int} {sv : Array Value} {b : Bool} (h : jK w mb root sv b V) (c : Bool) : jK w mb root sv c (V.setCell ⟨w.heap.size + 1 + 1 + 1, 0, none⟩ (.bool c)) :=
 ⟨h.below.setCell (by simp only; omega) _, (Below.heap_setCell _ _ _ _ (by simp only; omega)).trans h.m, (Below.heap_setCell _ _ _ _ (by simp only; omega)).trans h.r, (Below.heap_setCell _ _ _ _ (by simp only; omega)).trans h.s, by rw [heap_setCell_same _ (w.heap.size + 1 + 1 + 1) 0 _ _ _ h.i]; rfl⟩
theorem jK.put {w V : World} {mb : Nat} {root : Int} {sv : Array Value} {b : Bool} {D : Nat} {o : Obj} (h : jK w mb root sv b V) (hD : w.heap.size + 4 ≤ D) : jK w mb root sv b (V.putObj D o) :=
 ⟨⟨h.below.os, h.below.tape, h.below.output, by have := h.below.size; simp [World.putObj]; exact this, fun q hq => (World.putObj_heap_other (by omega)).trans (h.below.block q hq)⟩, (World.putObj_heap_other (by omega)).trans h.m, (World.putObj_heap_other (by omega)).trans h.r, (World.putObj_heap_other (by omega)).trans h.s, (World.putObj_heap_other (by omega)).trans h.i⟩
def zen (w W1 : World) (mb : Nat) (root : Int) (sv : Array Value) (tl : List Int) (good : Int → Bool) (k : Nat) (V : World) : Prop := jK w mb root sv (decide (0 < k)) V ∧ W1.heap.size ≤ V.heap.size ∧ ∀ j x, j < k → tl[j]? = some x → good x = true
def zeo (w W1 : World) (mb : Nat) (root : Int) (sv : Array Value) (tl : List Int) (good : Int → Bool) (c : Code) (V : World) : Prop := c = .exit 0 ∧ jK w mb root sv false V ∧ W1.heap.size ≤ V.heap.size ∧ ∃ x ∈ tl, good x = false
theorem zch (w : World) (mb n : Nat) (ids : List Int) (root op id par at_ xi xk : Int) (tx xt : ByteArray) (sa : Option Addr) (sn sc : Nat) (hm : yQ w mb n ids) (hw1 : (Lit.int .i64 id).wf = true) (hw2 : (Lit.int .i64 par).wf = true) :
 Calls Try.prog 42 #[.map (some mb), .int .i64 root, .agg #[.int .i8 op, .int .i64 id, .int .i64 par, .int .i64 at_, .string tx, .int .i64 xi, .int .i64 xk, .string xt, .slice sa sn sc]] w (Says (qH ids root op id par) w) := by
 obtain ⟨W, hW⟩ : ∃ W, W = zq w [.cells #[.map (some mb)] 85, .cells #[.int .i64 root] 3, .cells #[.int .i8 op, .int .i64 id, .int .i64 par, .int .i64 at_, .string tx, .int .i64 xi, .int .i64 xk, .string xt, .slice sa sn sc] 49, .cells #[.bool false] 4] := ⟨_, rfl⟩
 have hb : Below w.heap.size w W := by rw [hW]; exact zm _ _
 have hs : W.heap.size = w.heap.size + 4 := by rw [hW]; exact zx _ _
 have hown : jK w mb root #[.int .i8 op, .int .i64 id, .int .i64 par, .int .i64 at_, .string tx, .int .i64 xi, .int .i64 xk, .string xt, .slice sa sn sc] false W := ⟨hb, by rw [hW]; exact zi _ _ 0 _ rfl, by rw [hW]; exact zi _ _ 1 _ rfl, by rw [hW]; exact zi _ _ 2 _ rfl, by rw [hW]; exact zi _ _ 3 _ rfl⟩
 have hmw : mb < w.heap.size := by unfold yQ at hm; exact World.ownsMap.lt hm
 have hMX : ∀ X, Below w.heap.size w X → yQ X mb n ids := fun X hX => hm.at (hX.block _ hmw)
 have htc := zbI W op id par at_ xi xk tx xt sa sn sc
 obtain ⟨s0, s1, s2, s3, s4, s5, s6, s7, s8⟩ := Qp hown.s
 have hwf : ∀ x ∈ yz op id par, (Lit.int .i64 x).wf = true := fun x hx => by
  unfold yz at hx
  split at hx
  · simp at hx; rw [hx]; exact hw2
  · split at hx
    · simp at hx; rw [hx]; exact hw1
    · split at hx
      · simp at hx; rcases hx with rfl | rfl; exact hw1; exact hw2
      · split at hx
        · simp at hx; rw [hx]; exact hw1
        · cases hx
 have HWF := hH hwf
 have HT := hH htc
 have H := hH (aN hown (aN hs hMX))
 have HW := hH hW
 clear hb hs hown hm hmw hMX htc hW hwf hw1 hw2
 refine (callsIn_wide (n := 8)).1 ?_
 refine callsIn_of_wp_marks Try.func42 rfl trivial ?_ rfl
 simp only [Try.ntmps42, List.size_toArray, List.length_cons, List.length_nil, Nat.reduceAdd, Nat.reduceSub, Array.replicate_succ, Array.replicate_zero, List.push_toArray, List.append_toArray, List.nil_append, List.cons_append]
 gi_wp2
 refine wpIn_wide.2 (wp_scope_straight (wpIn_wide (n := 8).1 ?_))
 refine wpIn_seq_k ?_
 intro K hK
 gi_wp2
 change Code.wpIn _ _ _ _ _ _ (zq w [.cells #[.map (some mb)] 85, .cells #[.int .i64 root] 3, .cells #[.int .i8 op, .int .i64 id, .int .i64 par, .int .i64 at_, .string tx, .int .i64 xi, .int .i64 xk, .string xt, .slice sa sn sc] 49, .cells #[.bool false] 4])
 rw [← HW.out]
 clear HW
 refine wpIn_label ?_
 gi_wp2
 refine ⟨trivial, ?_⟩
 refine (callsIn_wide.2 HT.out).mono ?_
 rintro e W1 ⟨ob, pb, ib, rfl, hTA, hb1⟩
 gi_wp2
 clear s0 s1 s2 s3 s4 s5 s6 s7 s8 HT
 have h1 : jK w mb root #[.int .i8 op, .int .i64 id, .int .i64 par, .int .i64 at_, .string tx, .int .i64 xi, .int .i64 xk, .string xt, .slice sa sn sc] false W1 := H.out.1.on hb1
 have hs1 : W.heap.size ≤ W1.heap.size := hb1.size
 have hs0 := H.out.2.1
 have hwW : w.heap.size ≤ W1.heap.size := by omega
 refine zbp (by omega) rfl op id par (fun y => W.heap.size ≤ y ∧ y < W1.heap.size) hTA rfl
  (zen w W1 mb root #[.int .i8 op, .int .i64 id, .int .i64 par, .int .i64 at_, .string tx, .int .i64 xi, .int .i64 xk, .string xt, .slice sa sn sc] (yz op id par) (vg ids root op id)) (zeo w W1 mb root #[.int .i8 op, .int .i64 id, .int .i64 par, .int .i64 at_, .string tx, .int .i64 xi, .int .i64 xk, .string xt, .slice sa sn sc] (yz op id par) (vg ids root op id))
  (fun h ht => ⟨h.1.same hwW ht, Nat.le_trans h.2.1 ht.size, h.2.2⟩) (fun h ht => ⟨h.1, h.2.1.same hwW ht, Nat.le_trans h.2.2.1 ht.size, h.2.2.2⟩)
  ⟨h1, Nat.le_refl _, fun j x hj => by omega⟩ ?round ?done ?stop
 case done =>
  rintro D V hD ⟨hO, hsV, hg⟩ hK
  have c0 : V.cell? ⟨w.heap.size + 1 + 1 + 1, 0, none⟩ = some (.bool (decide (0 < (yz op id par).length))) := by rw [cell_of_row _ _ 0 _ _ _ hO.i]; rfl
  have hr : qH ids root op id par = decide (0 < (yz op id par).length) := by
   unfold qH
   have ha : (yz op id par).all (vg ids root op id) = true := List.all_eq_true.2 fun x hx => by
    obtain ⟨j, hj⟩ := List.mem_iff_getElem?.1 hx
    exact hg j x (List.getElem?_eq_some_iff.1 hj).1 hj
   rw [ha, Bool.and_true]
   cases yz op id par <;> simp
  obtain ⟨b, hb⟩ : ∃ b, b = decide (0 < (yz op id par).length) := ⟨_, rfl⟩
  rw [← hb] at c0 hr
  have HE := hH (aN hr (aN hO (aN hK (show w.heap.size + 4 ≤ D by omega))))
  clear hr hO hK hD hsV hg hb h1 hTA hb1
  gi_wp2
  obtain ⟨hr, hO, hK, hD⟩ := HE.out
  refine ⟨by simp, .inl ⟨_, _, rfl, run_takeDeferred hK, ?_⟩⟩
  refine ⟨_, results_tmp rfl _ _ _, by rw [hr]; rfl, (hO.put hD).below⟩
 case stop =>
  rintro D c V hD ⟨rfl, hO, hsV, x, hx, hg⟩ hK
  have c0 : V.cell? ⟨w.heap.size + 1 + 1 + 1, 0, none⟩ = some (.bool false) := by rw [cell_of_row _ _ 0 _ _ _ hO.i]; rfl
  have hr : qH ids root op id par = false := by
   unfold qH
   have ha : (yz op id par).all (vg ids root op id) = false := List.all_eq_false.2 ⟨x, hx, by rw [hg]; simp⟩
   rw [ha, Bool.and_false]
  have HE := hH (aN hr (aN hO (aN hK (show w.heap.size + 4 ≤ D by omega))))
  clear hr hO hK hD hsV hg hx h1 hTA hb1
  gi_wp2
  obtain ⟨hr, hO, hK, hD⟩ := HE.out
  refine ⟨by simp, .inl ⟨_, _, rfl, run_takeDeferred hK, ?_⟩⟩
  refine ⟨_, results_tmp rfl _ _ _, by rw [hr]; rfl, (hO.put hD).below⟩
 case round =>
  rintro l hl k x V hV hx ⟨hO, hsV, hg⟩ K hK
  have HK := hH hK
  have HR := hH (aN hO (aN hx (aN hl (aN hV (aN hsV (aN hg (aN hs0 hs1)))))))
  clear hK hO hx hl hV hsV hg hs0 hs1 h1 hTA hb1 hwW
  gi_wp2
  refine HK.out _ fun V1 hV1 => ?_
  clear HK
  obtain ⟨o', ev, o, ho, hoc⟩ := hV1
  obtain ⟨hO, hx, hl, hV, hsV, hg, hs0, hs1⟩ := HR.out
  have hO1 : jK w mb root #[.int .i8 op, .int .i64 id, .int .i64 par, .int .i64 at_, .string tx, .int .i64 xi, .int .i64 xk, .string xt, .slice sa sn sc] (decide (0 < k)) V1 := by rw [ev]; exact hO.put (by omega)
  have hV1s : V1.heap.size = V.heap.size := by rw [ev]; simp [World.putObj]
  have c0 : V1.cell? ⟨w.heap.size, 0, none⟩ = some (.map (some mb)) := by rw [cell_of_row _ _ 0 _ _ _ hO1.m]; rfl
  have c3 : V1.cell? ⟨w.heap.size + 1 + 1 + 1, 0, none⟩ = some (.bool (decide (0 < k))) := by rw [cell_of_row _ _ 0 _ _ _ hO1.i]; rfl
  have f3 : V1.frozen? ⟨w.heap.size + 1 + 1 + 1, 0, none⟩ = false := frozen_of_row _ _ 0 _ _ hO1.i
  have hm1 := H.out.2.2 V1 hO1.below
  unfold yQ at hm1
  obtain ⟨v, ps, hlook, hv⟩ := hm1.look_ok ZY Try.underlying85 (YU V1) unitElem_mk (keyOf_int_mk (P := Try.prog) Try.underlying3 (HWF.out x (List.mem_of_getElem? hx)))
  rw [vD] at hlook
  have hvk : v = .agg #[] := (unitElem_inv hv).1
  subst hvk
  clear hm1 hv
  have hxt : x ∈ yz op id par := List.mem_of_getElem? hx
  have hend : ∀ (V' : World) (aa : Act), jK w mb root #[.int .i8 op, .int .i64 id, .int .i64 par, .int .i64 at_, .string tx, .int .i64 xi, .int .i64 xk, .string xt, .slice sa sn sc] false V' → V1.heap.size ≤ V'.heap.size → (∀ y, y ≠ w.heap.size + 1 + 1 + 1 → y < V1.heap.size → V'.heap[y]? = V1.heap[y]?) → vg ids root op id x = false → zeq W1.heap.size (fun y => W.heap.size ≤ y ∧ y < W1.heap.size) (zen w W1 mb root #[.int .i8 op, .int .i64 id, .int .i64 par, .int .i64 at_, .string tx, .int .i64 xi, .int .i64 xk, .string xt, .slice sa sn sc] (yz op id par) (vg ids root op id)) (zeo w W1 mb root #[.int .i8 op, .int .i64 id, .int .i64 par, .int .i64 at_, .string tx, .int .i64 xi, .int .i64 xk, .string xt, .slice sa sn sc] (yz op id par) (vg ids root op id)) k V1 (.exit 0) aa V' := fun V' aa h1 h2 h3 h4 =>
   ⟨⟨h2, fun y o hy ho' _ => (h3 y (by omega) (lt_of_heap ho')).trans ho'⟩, fun y hy => h3 y (by omega) (by omega), .inr (.inr ⟨0, rfl, rfl, h1, by omega, x, hxt, h4⟩)⟩
  have hgo : ∀ (V' : World) (aa : Act), jK w mb root #[.int .i8 op, .int .i64 id, .int .i64 par, .int .i64 at_, .string tx, .int .i64 xi, .int .i64 xk, .string xt, .slice sa sn sc] true V' → V1.heap.size ≤ V'.heap.size → (∀ y, y ≠ w.heap.size + 1 + 1 + 1 → y < V1.heap.size → V'.heap[y]? = V1.heap[y]?) → vg ids root op id x = true → zeq W1.heap.size (fun y => W.heap.size ≤ y ∧ y < W1.heap.size) (zen w W1 mb root #[.int .i8 op, .int .i64 id, .int .i64 par, .int .i64 at_, .string tx, .int .i64 xi, .int .i64 xk, .string xt, .slice sa sn sc] (yz op id par) (vg ids root op id)) (zeo w W1 mb root #[.int .i8 op, .int .i64 id, .int .i64 par, .int .i64 at_, .string tx, .int .i64 xi, .int .i64 xk, .string xt, .slice sa sn sc] (yz op id par) (vg ids root op id)) k V1 .normal aa V' := fun V' aa h1 h2 h3 h4 =>
   ⟨⟨h2, fun y o hy ho' _ => (h3 y (by omega) (lt_of_heap ho')).trans ho'⟩, fun y hy => h3 y (by omega) (by omega), .inl ⟨rfl, by rw [decide_eq_true (by omega)]; exact h1, by omega, fun j z hj hz => by
     by_cases e : j = k
     · subst e; rw [hx] at hz; cases hz; exact h4
     · exact hg j z (by omega) hz⟩⟩
  obtain ⟨bi, hbi⟩ : ∃ bi, bi = ids.any (· == x) := ⟨_, rfl⟩
  rw [← hbi] at hlook
  have hset : ∀ (b : Bool) y, y ≠ w.heap.size + 1 + 1 + 1 → (V1.setCell ⟨w.heap.size + 1 + 1 + 1, 0, none⟩ (.bool b)).heap[y]? = V1.heap[y]? := fun b y hy => Below.heap_setCell _ _ _ _ hy
  have hsz : ∀ b : Bool, (V1.setCell ⟨w.heap.size + 1 + 1 + 1, 0, none⟩ (.bool b)).heap.size = V1.heap.size := fun b => by simp [World.setCell]
  have HE := hH (aN hend (aN hgo (aN hbi (aN hset (aN hsz hO1)))))
  clear hend hgo hbi hset hsz ev ho hoc hO hx hl hV hsV hg hs0 hs1 hV1s hxt hO1
  cases bi with
  | false =>
    gi_wp2
    exact HE.out.1 _ _ (HE.out.2.2.2.2.2.set false) (Nat.le_of_eq (HE.out.2.2.2.2.1 false).symm) (fun y h1 _ => HE.out.2.2.2.1 false y h1) (by unfold vg; rw [← HE.out.2.2.1]; rfl)
  | true =>
    have hO1 := HE.out.2.2.2.2.2
    have d1 : V1.cell? ⟨w.heap.size + 1, 0, none⟩ = some (.int .i64 root) := by rw [cell_of_row _ _ 0 _ _ _ hO1.r]; rfl
    obtain ⟨s0, s1, s2, s3, s4, s5, s6, s7, s8⟩ := Qp hO1.s
    clear hO1
    by_cases hr : x = root
    · have hrb : (x == root) = true := by simpa using hr
      have HR2 := hH hr
      have HTK := hH (zd5 (V1.setCell ⟨w.heap.size + 1 + 1 + 1, 0, none⟩ (.bool true)) op id par at_ xi xk x tx xt sa sn sc)
      clear hr
      gi_wp2
      refine ⟨trivial, ?_⟩
      refine (CallsIn.inRound l (callsIn_wide.2 HTK.out)).mono ?_
      rintro e V3 ⟨rfl, hb3⟩
      clear c0 c3 f3 hlook d1 s0 s1 s2 s3 s4 s5 s6 s7 s8 HTK
      obtain ⟨tk, htk⟩ : ∃ tk, tk = jW op id x := ⟨_, rfl⟩
      rw [← htk]
      have hO3 := (HE.out.2.2.2.2.2.set true).on hb3
      have c3 : V3.cell? ⟨w.heap.size + 1 + 1 + 1, 0, none⟩ = some (.bool true) := by rw [cell_of_row _ _ 0 _ _ _ hO3.i]; rfl
      have f3 : V3.frozen? ⟨w.heap.size + 1 + 1 + 1, 0, none⟩ = false := frozen_of_row _ _ 0 _ _ hO3.i
      have hs3 : V1.heap.size ≤ V3.heap.size := by rw [← HE.out.2.2.2.2.1 true]; exact hb3.size
      have hk3 : ∀ y, y ≠ w.heap.size + 1 + 1 + 1 → y < V1.heap.size → V3.heap[y]? = V1.heap[y]? := fun y h1 h2 => (hb3.block y (by rw [HE.out.2.2.2.2.1 true]; exact h2)).trans (HE.out.2.2.2.1 true y h1)
      have H3 := hH (aN hO3 (aN hs3 (aN hk3 htk)))
      clear hO3 hs3 hk3 htk hb3
      cases tk with
      | true =>
        gi_wp2
        exact HE.out.1 _ _ (H3.out.1.set false) (by simp [World.setCell]; exact H3.out.2.1) (fun y h1 h2 => (Below.heap_setCell _ _ _ _ h1).trans (H3.out.2.2.1 y h1 h2)) (by unfold vg; rw [← HE.out.2.2.1, ← H3.out.2.2.2, HR2.out]; simp)
      | false =>
        gi_wp2
        exact HE.out.2.1 _ _ H3.out.1 H3.out.2.1 H3.out.2.2.1 (by unfold vg; rw [← HE.out.2.2.1, ← H3.out.2.2.2]; simp)
    · have hrb : (x == root) = false := by simpa using hr
      have HR2 := hH hrb
      clear hr
      gi_wp2
      refine ⟨trivial, ?_⟩
      rename_i K2 hK2
      refine hK2 _ _ ?_
      clear hK2
      gi_wp2
      exact HE.out.2.1 _ _ (HE.out.2.2.2.2.2.set true) (Nat.le_of_eq (HE.out.2.2.2.2.1 true).symm) (fun y h1 _ => HE.out.2.2.2.1 true y h1) (by unfold vg; rw [← HE.out.2.2.1, HR2.out]; rfl)
end Go.Proofs.Ytgkmmnihaiopaaa
