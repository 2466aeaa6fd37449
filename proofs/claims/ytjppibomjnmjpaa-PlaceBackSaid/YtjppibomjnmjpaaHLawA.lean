/-
  The law's own 'above' and 'first': the ids above a node gathered, and the first of them. No condition but that there are not too many nodes.
-/
import Derived.Test.YtjppibomjnmjpaaHARange
namespace Go.Proofs.Ytjppibomjnmjpaa
open Go.RowKit Go.Shelf
attribute [local go_sem] Oper.semAt_some
set_option linter.unusedVariables false
set_option linter.unusedSimpArgs false

theorem run_equalIn_func_nil {P : Program} {w : World} (d : Nat) (t : TypeId) {ps rs : Array TypeId} {vd : Bool} (fn : Fn) (a b : Array Value) (h : P.underlying t = some (.func ps rs vd)) : (Op.equalIn (d + 1) t (.func fn a b) .nilFunc).run P w = .ok false w := by
  simp [Op.equalIn, run_underlying h]
theorem Try.seqNil (W : World) (fn : Fn) (a b : Array Value) : (binOp .eql 60 (.func fn a b) .nilFunc).run Try.prog W = .ok (.bool false) W := by
  have h : (Op.equal 60 (.func fn a b) .nilFunc).run Try.prog W = .ok false W := run_equalIn_func_nil 9999 _ fn a b Try.underlying60
  simp [binOp, h, Result.andThen]
theorem told_above (id : Int) (t : Tr) : toldI (idsOf id t) = aboveT id t := by
  simp only [idsOf, aboveT]
  cases pathT id t with
  | none => rfl
  | some p => simp [toldI, wayIds]
theorem idsOf_length (id : Int) (t : Tr) (p : List Nat) (h : pathT id t = some p) : (idsOf id t).length = p.length + 1 := by simp [idsOf, h, wayIds]
theorem pathT_len : ∀ (f : Fo) (id : Int) (i : Nat) (p : List Nat), fpi id i f = some p → p.length ≤ foSize f
  | .nil, _, _, _, h => by simp [fpi] at h
  | .node b o k l r, id, i, p, h => by
    simp only [fpi] at h
    simp only [foSize]
    split at h
    · cases h; simp
    · split at h
      · rename_i q hq
        cases h
        have := pathT_len l id 0 q hq
        simp only [List.length_cons]; omega
      · have := pathT_len r id (i + 1) p h; omega
theorem idsOf_le (id : Int) (t : Tr) : (idsOf id t).length ≤ foSize t.kids + 1 := by
  cases h : pathT id t with
  | none => simp [idsOf, h]
  | some p =>
    rw [idsOf_length id t p h]
    have : p.length ≤ foSize t.kids := by
      rw [pathT] at h
      split at h
      · cases h; simp
      · exact pathT_len _ _ _ _ h
    omega
theorem aboveT_le (id : Int) (t : Tr) : (aboveT id t).length ≤ foSize t.kids + 1 := by
  rw [← told_above, toldI_length]; have := idsOf_le id t; omega
theorem AboveC.idsAt {w w' : World} {ids : List Int} {b : Nat} {v : Value} (h1 : w'.heap[b]? = some (.cells #[v] 29 (0, 0))) (h2 : w'.ownsRow w.heap.size 3 1 v ids.length (ids.map intV)) (h3 : w.heap.size ≤ b) : IdsAt w' b ids (fun y => w.heap.size ≤ y ∧ y < w'.heap.size) := by
  obtain ⟨a, cap, rfl⟩ := owns_slice h2
  exact ⟨a, cap, h1, owns_mono h2 (Nat.zero_le _), ⟨h3, lt_of_heap h1⟩, fun g hg => owns_bounds h2 hg, fun y hy => hy.2⟩
/-- Ahead of the next id. -/
structure GatI (w W : World) (OB : Nat) (tl : List Int) (k : Nat) (V : World) : Prop where
  row : ∃ rv, V.heap[OB]? = some (.cells #[rv] 29 (0, 0)) ∧ V.ownsRow W.heap.size 3 1 rv k ((tl.take k).map intV)
  below : Below w.heap.size w V
  size : W.heap.size ≤ V.heap.size
theorem GatI.turn {w W V V' : World} {OB : Nat} {tl : List Int} {k : Nat} (hw : w.heap.size ≤ W.heap.size) (hO : OB < W.heap.size) (h : GatI w W OB tl k V) (ht : Touched V V' (fun x => W.heap.size ≤ x ∧ NonCells V x)) : GatI w W OB tl k V' := by
  obtain ⟨⟨rv, h1, h2⟩, h3, h4⟩ := h
  have hk : ∀ (x : Nat) (o : Obj), V.heap[x]? = some o → o.isCells = true → V'.heap[x]? = V.heap[x]? := fun x o ho hc => ht.block x (lt_of_heap ho) (fun hn => by
    obtain ⟨_, o', ho', hc'⟩ := hn
    rw [ho] at ho'; cases ho'; rw [hc] at hc'; cases hc')
  refine ⟨⟨rv, (hk _ _ h1 rfl).trans h1, owns_kept h2 (fun g cur hc _ => hk g _ hc rfl)⟩, ⟨ht.os.trans h3.os, ht.tape.trans h3.tape, ht.output.trans h3.output, Nat.le_trans h3.size ht.size, fun x hx => (ht.block x (by have := h3.size; omega) (fun hn => by have := hn.1; omega)).trans (h3.block x hx)⟩, Nat.le_trans h4 ht.size⟩
theorem gat_end {w W V1 w4 : World} {OB : Nat} {tl : List Int} {k : Nat} {x : Int} {S : Nat → Prop} {rv v' : Value} {o : Obj} {aa : Act} (hw : w.heap.size ≤ OB) (hO : OB < W.heap.size) (hG : GatI w W OB tl k V1) (hx : tl[k]? = some x) (hS : ∀ y, S y → y < W.heap.size ∧ y ≠ OB)
    (h1 : V1.heap[OB]? = some (.cells #[rv] 29 (0, 0))) (hrv : V1.ownsRow W.heap.size 3 1 rv k ((tl.take k).map intV)) (hown : w4.ownsRow W.heap.size 3 1 v' (k + 1) ((tl.take k).map intV ++ [.int .i64 x])) (hgr : (V1.alloc o).grownBy w4 rv.ownBlock) :
    LeftA W.heap.size S (GatI w W OB tl) (fun _ _ => False) k V1 .normal aa (w4.setCell ⟨OB, 0, none⟩ v') := by
  have hs4 := hgr.size
  rw [World.size_alloc] at hs4
  have hne : ∀ y, y < V1.heap.size → rv.ownBlock ≠ some y → w4.heap[y]? = V1.heap[y]? := fun y hy hn => by
    rw [hgr.block y (by rw [World.size_alloc]; omega) (fun e => hn e.symm), Below.heap_alloc _ _ _ hy]
  have hlow : ∀ y, y < W.heap.size → rv.ownBlock ≠ some y := fun y hy e => by have := (owns_bounds hrv e).1; omega
  have hset : ∀ y, y ≠ OB → (w4.setCell ⟨OB, 0, none⟩ v').heap[y]? = w4.heap[y]? := fun y hy => Below.heap_setCell _ _ _ _ hy
  have hO4 : w4.heap[OB]? = some (.cells #[rv] 29 (0, 0)) := (hne OB (lt_of_heap h1) (hlow OB hO)).trans h1
  have hVs := hG.size
  refine ⟨⟨by simp [World.setCell]; omega, fun y o' hy ho hc => ?_⟩, fun y hy => (hset y (hS y hy).2).trans (hne y (by have := (hS y hy).1; omega) (hlow y (hS y hy).1)), .inl ⟨rfl, ⟨v', ?_, ?_⟩, ⟨hgr.os.trans hG.below.os, hgr.tape.trans hG.below.tape, hgr.output.trans hG.below.output, by have := hG.below.size; simp [World.setCell]; omega, fun y hy => (hset y (by omega)).trans ((hne y (by have := hG.below.size; omega) (hlow y (by omega))).trans (hG.below.block y hy))⟩, by simp [World.setCell]; omega⟩⟩
  · rw [hset y (by omega), hne y (lt_of_heap ho) (fun e => ?_)]
    · exact ho
    · obtain ⟨cur, hcur⟩ := own_typed hrv e
      rw [ho] at hcur; cases hcur; cases hc
  · rw [heap_setCell_same _ OB 0 _ _ _ hO4]; simp
  · rw [List.take_add_one, hx]
    simp only [Option.toList_some, List.map_append, List.map_cons, List.map_nil]
    exact owns_kept hown (fun g cur hc hg => hset g (fun e => by have := (owns_bounds hown hg).1; omega))
set_option maxRecDepth 100000 in
set_option maxHeartbeats 4000000 in
theorem gather_any (w : World) (S : Nat → Prop) (nv : Value) (t : Tr) (id : Int) (hS : ∀ x, S x → x < w.heap.size) (ht : TrAt w S nv t) (hsz : foSize t.kids ≤ 400000) : Calls Try.prog 14 #[nv, .int .i64 id] w (IntsC w (aboveT id t)) := by
  obtain ⟨ka, tc, rfl, hcap, hk⟩ := ht
  obtain ⟨w1, hw1⟩ : ∃ w1, w1 = (w.alloc (.cells #[.int .i64 t.id, .int .i64 t.kind, .string t.text, .slice ka (foLen t.kids) tc] 24)).alloc (.cells #[.slice none 0 0] 29) := ⟨_, rfl⟩
  have hb1 : Below w.heap.size w w1 := by rw [hw1]; exact two_boxes _ _ _
  have hs1 : w1.heap.size = w.heap.size + 2 := by rw [hw1]; simp
  have h11 : w1.heap[w.heap.size + 1]? = some (.cells #[.slice none 0 0] 29 (0, 0)) := by rw [hw1]; exact heap_alloc2_new w _ _
  have hab := above_any w1 S _ t id (fun x hx => Nat.lt_of_lt_of_le (hS x hx) hb1.size) ⟨ka, tc, rfl, hcap, hk.below hb1 hS⟩ hsz
  obtain ⟨n, hn⟩ : ∃ n, n = foLen t.kids := ⟨_, rfl⟩
  rw [← hn] at hab hw1 ⊢
  have HC := Lib.hid (And.intro hab (And.intro hb1 (And.intro hs1 (And.intro h11 hw1))))
  have hnil := Try.seqNil
  obtain ⟨i0, hi, hz0, hz1, hz2⟩ := info_parts Try.infoInt
  have HI := Lib.hid (And.intro hi (And.intro hz0 (And.intro hz1 hz2)))
  have HSZ := Lib.hid hsz
  clear hi hz0 hz1 hz2 hab hb1 hs1 h11 hw1 hn hk hcap hS hsz
  refine (callsIn_wide (n := 8)).1 ?_
  refine callsIn_of_wp_marks Try.func14 rfl trivial ?_ rfl
  simp only [Try.ntmps14, List.size_toArray, List.length_cons, List.length_nil, Nat.reduceAdd, Nat.reduceSub, Array.replicate_succ, Array.replicate_zero, List.push_toArray, List.append_toArray, List.nil_append, List.cons_append]
  gi_wp2
  refine ⟨trivial, ?_⟩
  rw [← HC.out.2.2.2.2]
  refine (callsIn_wide.2 HC.out.1).mono ?_
  rintro e W ⟨b, v, rfl, hbc, hbo, hbb, hbW⟩
  gi_wp2
  obtain ⟨_, hB1, hs1, h11, _⟩ := HC.out
  have hIA := AboveC.idsAt hbc hbo hbb
  have hsW := hbW.size
  have hOW := (hbW.block _ (lt_of_heap h11)).trans h11
  refine range_above (by omega) rfl (idsOf id t) (fun y => w1.heap.size ≤ y ∧ y < W.heap.size) hIA (by have := idsOf_le id t; have := HSZ.out; omega) rfl
    (GatI w W (w.heap.size + 1) (toldI (idsOf id t))) (fun _ _ => False) (fun h ht => h.turn (by omega) (by omega) ht) (fun h _ => h)
    ⟨⟨_, hOW, World.ownsRow_nil _ _ _ _⟩, hB1.trans (hbW.mono hB1.size), Nat.le_refl _⟩ ?round ?done (fun _ _ _ _ h _ => h.elim)
  case done =>
    rintro D V hD hI hK
    obtain ⟨⟨rv, h1, h2⟩, h3, h4⟩ := hI
    have c0 : V.cell? ⟨w.heap.size + 1, 0, none⟩ = some rv := by rw [cell_of_row _ _ 0 _ _ _ h1]; rfl
    have hend : (V.putObj D (.deferred none)).ownsRow w.heap.size 3 1 rv (aboveT id t).length ((aboveT id t).map intV) ∧ Below w.heap.size w (V.putObj D (.deferred none)) := by
      refine ⟨?_, h3.os, h3.tape, h3.output, by have := h3.size; simp [World.putObj]; exact this, fun y hy => by rw [World.putObj_heap_other (by omega)]; exact h3.block y hy⟩
      rw [List.take_length, told_above] at h2
      exact owns_mono (owns_kept h2 (fun g cur hc hg => World.putObj_heap_other (fun e => by rw [e, hK] at hc; cases hc))) (by omega)
    have HE := Lib.hid hend
    clear hend h1 h2 h3 h4 hIA hsW hOW hbc hbo hbb hbW hB1 hs1 h11 HC
    gi_wp2
    refine ⟨by simp, .inl ⟨_, _, rfl, run_takeDeferred hK, ?_⟩⟩
    exact ⟨_, results_tmp rfl _ _ _, rv, rfl, HE.out⟩
  case round =>
    rintro l hl k x V hV hx hI K hK
    have HK := Lib.hid hK
    have HR := Lib.hid (And.intro hI (And.intro hx (And.intro hl (And.intro hs1 (And.intro hsW hV)))))
    clear hK hI hx hl hV hIA hOW hbc hbo hbb hbW hB1 hs1 h11 HC hsW
    gi_wp2
    refine HK.out _ fun V1 hV1 => ?_
    clear HK
    obtain ⟨o', ev, o, ho, hoc⟩ := hV1
    have hl := HR.out.2.2.1
    have hw1W : w.heap.size + 2 ≤ W.heap.size := by have := HR.out.2.2.2.1; have := HR.out.2.2.2.2.1; omega
    have hG : GatI w W (w.heap.size + 1) (toldI (idsOf id t)) k V1 := HR.out.1.turn (by omega) (by omega) (by rw [ev]; exact (touched_put o' ho).mono (fun y hy => ⟨by omega, by rw [hy]; exact ⟨_, ho, hoc⟩⟩))
    obtain ⟨rv, h1, h2⟩ := hG.row
    obtain ⟨ra, rc, rfl⟩ := owns_slice h2
    have c0 : V1.cell? ⟨w.heap.size + 1, 0, none⟩ = some (.slice ra k rc) := by rw [cell_of_row _ _ 0 _ _ _ h1]; rfl
    have hk6 : k ≤ 1000000 := by
      have h9 := (List.getElem?_eq_some_iff.1 HR.out.2.1).1
      rw [told_above] at h9
      have := aboveT_le id t; have := HSZ.out; omega
    have hO : w.heap.size + 1 < V1.heap.size := lt_of_heap h1
    have hOn : (Value.slice ra k rc).ownBlock ≠ some (w.heap.size + 1) := fun e => by have := (owns_bounds h2 e).1; omega
    have cf : V1.frozen? ⟨w.heap.size + 1, 0, none⟩ = false := frozen_of_row _ _ 0 _ _ h1
    have HG := Lib.hid (And.intro hG (And.intro h1 (And.intro h2 (And.intro hw1W (And.intro hO hOn)))))
    have hWV : W.heap.size ≤ V1.heap.size := hG.size
    clear hG h1 h2 ev ho hoc hl hw1W
    gi_wp2_with (gi_at_builtin; refine wpListIn_append_at _ rfl (.tmp 15) (.tmp 17) _ rfl W.heap.size 3 i0 (.int .i64 0) 1 8 Try.underlying29 HI.out.1 HI.out.2.1 HI.out.2.2.1 HI.out.2.2.2 rfl (by omega) (.slice ra k rc) k _ rfl (HG.out.2.2.1.alloc _) ⟨V1.heap.size, 0, none⟩ 1 1 [.int .i64 x] rfl rfl (World.news_of_block (heap_alloc_new V1 _)) (by simp [Value.oneCell']) (by unfold maxLen; omega) (by omega) (by simp; omega) ?_; intro v' w4 hown4 hgr4 hat4; obtain ⟨gg, cap4, rfl⟩ := ownsRow_succ hown4; have c4 := (hgr4.cell_far (a := ⟨w.heap.size + 1, 0, none⟩) (by have := HG.out.2.2.2.2.1; simp; omega) (Ne.symm HG.out.2.2.2.2.2)).trans ((World.cell?_of_block (Below.heap_alloc V1 _ (w.heap.size + 1) HG.out.2.2.2.2.1)).trans c0); have f4 := (hgr4.frozen_far (a := ⟨w.heap.size + 1, 0, none⟩) (by have := HG.out.2.2.2.2.1; simp; omega) (Ne.symm HG.out.2.2.2.2.2)).trans ((World.frozen?_of_block (Below.heap_alloc V1 _ (w.heap.size + 1) HG.out.2.2.2.2.1)).trans cf); have HW4 := Lib.hid (And.intro hown4 hgr4); clear hown4 hgr4 hat4)
    exact gat_end (by omega) (by have := HG.out.2.2.2.1; omega) HG.out.1 HR.out.2.1 (fun y hy => ⟨hy.2, by have := hy.1; have := HR.out.2.2.2.1; omega⟩) HG.out.2.1 HG.out.2.2.1 HW4.out.1 HW4.out.2
end Go.Proofs.Ytjppibomjnmjpaa
