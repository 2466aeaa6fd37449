/-
  tooMany: has a tree more than 200 nodes? No condition but that there are not too many of them for the machine.
-/
import Derived.Test.YtmfpilacmafglaaVRange
import Derived.Test.YtmfpilacmafglaaGAt
namespace Go.Proofs.Ytmfpilacmafglaa
open Go.RowKit Go.Shelf
attribute [local go_sem] Oper.semAt_some
set_option linter.unusedVariables false
set_option linter.unusedSimpArgs false

def allocs (w : World) (os : List Obj) : World := os.foldl (fun w o => w.alloc o) w
theorem allocs_size : ∀ (os : List Obj) (w : World), (allocs w os).heap.size = w.heap.size + os.length
  | [], _ => rfl
  | o :: os, w => by
    show (allocs (w.alloc o) os).heap.size = _
    rw [allocs_size os, World.size_alloc, List.length_cons]; omega
theorem allocs_below : ∀ (os : List Obj) (w : World), Below w.heap.size w (allocs w os)
  | [], w => Below.refl _ _
  | o :: os, w => ((Below.refl _ w).alloc (Nat.le_refl _) o).trans ((allocs_below os (w.alloc o)).mono (by simp))
theorem allocs_at : ∀ (os : List Obj) (w : World) (i : Nat) (o : Obj), os[i]? = some o → (allocs w os).heap[w.heap.size + i]? = some o
  | [], _, _, _, h => by simp at h
  | o :: os, w, 0, o', h => by
    simp at h; subst h
    show (allocs (w.alloc o) os).heap[w.heap.size]? = _
    rw [(allocs_below os (w.alloc o)).block _ (by simp)]; exact World.alloc_heap_new w o
  | o :: os, w, i + 1, o', h => by
    have := allocs_at os (w.alloc o) i o' (by simpa using h)
    rw [World.size_alloc] at this
    show (allocs (w.alloc o) os).heap[w.heap.size + (i + 1)]? = _
    rw [show w.heap.size + (i + 1) = w.heap.size + 1 + i by omega]; exact this
theorem results_cellB {P : Program} {fn : Func} {p : Tmp} {tb : TypeId} (h : fn.results = #[.cell p tb]) (tmps : Array Value) (w : World) (g : Nat) (b : Bool) (hp : tmps.getD p undef = .pointer (some ⟨g, 0, none⟩)) (hc : w.cell? ⟨g, 0, none⟩ = some (.bool b)) (hb : ∀ w, (isAgg tb).run P w = .ok false w) :
    (results fn tmps).run P w = .ok (.bool b) w := by
  have hp' : tmps[p]?.getD undef = .pointer (some ⟨g, 0, none⟩) := by simpa using hp
  have hl : (loadVar tb ⟨g, 0, none⟩).run P w = .ok (.bool b) w := by simp [go_sem, hc, hb, Result.andThen]
  simp [results, h, hp', asAddr, hl]
theorem boxN {w : World} {b : Nat} {c0 c1 c2 c3 : Value} (h : w.heap[b]? = some (.cells #[c0, c1, c2, c3] 24 (0, 0))) : w.cell? ⟨b, 0, none⟩ = some c0 ∧ w.cell? ⟨b, 1, none⟩ = some c1 ∧ w.cell? ⟨b, 2, none⟩ = some c2 ∧ w.cell? ⟨b, 3, none⟩ = some c3 :=
  ⟨by rw [cell_of_row _ _ 0 _ _ _ h]; rfl, by rw [cell_of_row _ _ 1 _ _ _ h]; rfl, by rw [cell_of_row _ _ 2 _ _ _ h]; rfl, by rw [cell_of_row _ _ 3 _ _ _ h]; rfl⟩
set_option maxRecDepth 100000 in
theorem walk_fn (w : World) (c0 c1 : Int) (c2 : ByteArray) (ka : Option Addr) (n c : Nat) : Calls Try.prog 93 #[.agg #[.int .i64 c0, .int .i64 c1, .string c2, .slice ka n c]] w fun e w' => e = .returned (.func (.func 99) #[] #[.pointer (some ⟨w.heap.size, 0, none⟩)]) ∧ w.alloc (.cells #[.int .i64 c0, .int .i64 c1, .string c2, .slice ka n c] 24) = w' := by
  have hmf : ∀ W : World, (Instr.makeFunc (.func 99) #[] #[.pointer (some ⟨w.heap.size, 0, none⟩)]).run Try.prog W = .ok (.func (.func 99) #[] #[.pointer (some ⟨w.heap.size, 0, none⟩)]) W := fun _ => rfl
  go_enter Try.func93, Try.ntmps93
  go_wp2_with fail
  go_ret
  exact ⟨rfl, rfl⟩
def ManyI (W : World) (nb : Nat) (pre : List Sp) (V : World) : Prop := Touched W V (fun y => y = nb + 2) ∧ V.heap[nb + 2]? = some (.cells #[.int .i64 (pre.length : Int)] 3 (0, 0)) ∧ pre.length ≤ 200
def ManyX (W : World) (nb : Nat) (tot : List Sp) (c : Code) (V : World) : Prop := c = .ret ∧ Touched W V (fun y => y = nb + 1 ∨ y = nb + 2) ∧ V.heap[nb + 1]? = some (.cells #[.bool true] 4 (0, 0)) ∧ 200 < tot.length
theorem touched_more {W V V' : World} {S : Nat → Prop} (h : Touched W V S) (hb : Below W.heap.size V V') : Touched W V' S :=
  ⟨hb.os.trans h.os, hb.tape.trans h.tape, hb.output.trans h.output, Nat.le_trans h.size hb.size, fun k hk hn => (hb.block k hk).trans (h.block k hk hn)⟩
theorem many_end {w W V : World} {nb D : Nat} (h0 : Below w.heap.size w W) (h2 : Touched W V (fun y => y = nb + 1 ∨ y = nb + 2)) (k3 : ∃ x, V.heap[nb + 1]? = some (.cells #[.bool x] 4 (0, 0))) (hn : nb = w.heap.size) (hK : V.heap[D]? = some (.deferred (some []))) (hD : nb + 3 ≤ D) (b : Bool) :
    (V.setCell ⟨nb + 1, 0, none⟩ (.bool b)).heap[D]? = some (.deferred (some [])) ∧ ((V.setCell ⟨nb + 1, 0, none⟩ (.bool b)).putObj D (.deferred none)).cell? ⟨nb + 1, 0, none⟩ = some (.bool b) ∧ Below w.heap.size w ((V.setCell ⟨nb + 1, 0, none⟩ (.bool b)).putObj D (.deferred none)) := by
  obtain ⟨x, k3⟩ := k3
  have hs0 := h0.size
  have hs2 := h2.size
  have hk : ∀ y, y ≠ nb + 1 → (V.setCell ⟨nb + 1, 0, none⟩ (.bool b)).heap[y]? = V.heap[y]? := fun y hy => Below.heap_setCell _ _ _ _ hy
  refine ⟨(hk D (by omega)).trans hK, ?_, h2.os.trans h0.os, h2.tape.trans h0.tape, h2.output.trans h0.output, by simp [World.putObj, World.setCell]; omega, fun y hy => ?_⟩
  · have e : ((V.setCell ⟨nb + 1, 0, none⟩ (.bool b)).putObj D (.deferred none)).heap[nb + 1]? = some (.cells #[.bool b] 4 (0, 0)) := by
      rw [World.putObj_heap_other (by omega), heap_setCell_same V (nb + 1) 0 _ _ _ k3]; simp
    rw [cell_of_row _ _ 0 _ _ _ e]; rfl
  · rw [World.putObj_heap_other (by omega), hk y (by omega), h2.block y (by omega) (by omega), h0.block y hy]
theorem many_stop {w W V : World} {nb D : Nat} (h0 : Below w.heap.size w W) (h2 : Touched W V (fun y => y = nb + 1 ∨ y = nb + 2)) (k3 : V.heap[nb + 1]? = some (.cells #[.bool true] 4 (0, 0))) (hn : nb = w.heap.size) (hD : nb + 3 ≤ D) :
    (V.putObj D (.deferred none)).cell? ⟨nb + 1, 0, none⟩ = some (.bool true) ∧ Below w.heap.size w (V.putObj D (.deferred none)) := by
  have hs0 := h0.size
  have hs2 := h2.size
  refine ⟨?_, h2.os.trans h0.os, h2.tape.trans h0.tape, h2.output.trans h0.output, by simp [World.putObj]; omega, fun y hy => ?_⟩
  · have e : (V.putObj D (.deferred none)).heap[nb + 1]? = some (.cells #[.bool true] 4 (0, 0)) := (World.putObj_heap_other (by omega)).trans k3
    rw [cell_of_row _ _ 0 _ _ _ e]; rfl
  · rw [World.putObj_heap_other (by omega), h2.block y (by omega) (by omega), h0.block y hy]
set_option maxRecDepth 100000 in
set_option maxHeartbeats 2000000 in
theorem tooMany_any (w : World) (S : Nat → Prop) (nv : Value) (t : Tr) (hS : ∀ x, S x → x < w.heap.size) (ht : TrAt w S nv t) (hsz : foSize t.kids + 1 ≤ 500000) : Calls Try.prog 75 #[nv] w (Says (decide (200 < foSize t.kids + 1)) w) := by
  obtain ⟨ka, cap, rfl, hcap, hk⟩ := ht
  obtain ⟨n, hn⟩ : ∃ n, n = foLen t.kids := ⟨_, rfl⟩
  rw [← hn]
  obtain ⟨nb, hnb⟩ : ∃ nb, nb = w.heap.size := ⟨_, rfl⟩
  have hal := allocs_at [.cells #[.int .i64 t.id, .int .i64 t.kind, .string t.text, .slice ka n cap] 24, .cells #[.bool false] 4, .cells #[.int .i64 0] 3, .cells #[.int .i64 t.id, .int .i64 t.kind, .string t.text, .slice ka n cap] 24] w
  have hab := allocs_below [.cells #[.int .i64 t.id, .int .i64 t.kind, .string t.text, .slice ka n cap] 24, .cells #[.bool false] 4, .cells #[.int .i64 0] 3, .cells #[.int .i64 t.id, .int .i64 t.kind, .string t.text, .slice ka n cap] 24] w
  have has := allocs_size [.cells #[.int .i64 t.id, .int .i64 t.kind, .string t.text, .slice ka n cap] 24, .cells #[.bool false] 4, .cells #[.int .i64 0] 3, .cells #[.int .i64 t.id, .int .i64 t.kind, .string t.text, .slice ka n cap] 24] w
  have HA := Lib.hid (And.intro hab (And.intro (hal 1 _ rfl) (And.intro (hal 2 _ rfl) (And.intro (hal 3 _ rfl) has))))
  have H := Lib.hid (And.intro hS (And.intro hcap (And.intro hk (And.intro hsz (And.intro hn hnb)))))
  clear hS hcap hk hsz hn hnb hal hab has
  refine (callsIn_wide (n := 8)).1 ?_
  refine callsIn_of_wp_marks Try.func75 rfl trivial ?_ rfl
  simp only [Try.ntmps75, List.size_toArray, List.length_cons, List.length_nil, Nat.reduceAdd, Nat.reduceSub, Array.replicate_succ, Array.replicate_zero, List.push_toArray, List.append_toArray, List.nil_append, List.cons_append]
  gi_wp2_with (refine ⟨trivial, ?_⟩; gi_at_call 93; refine (callsIn_wide.2 (walk_fn _ _ _ _ _ _ _)).mono ?_; rintro e w' ⟨rfl, rfl⟩)
  change Code.wpIn _ _ _ _ _ _ (allocs w [.cells #[.int .i64 t.id, .int .i64 t.kind, .string t.text, .slice ka n cap] 24, .cells #[.bool false] 4, .cells #[.int .i64 0] 3, .cells #[.int .i64 t.id, .int .i64 t.kind, .string t.text, .slice ka n cap] 24])
  generalize hW : allocs w _ = W at HA ⊢
  clear hW
  rw [← H.out.2.2.2.2.2]
  obtain ⟨k0, k1, k2, k3, k4⟩ := HA.out
  rw [← H.out.2.2.2.2.2] at k1 k2 k3 k4
  have k4' : W.heap.size = nb + 4 := k4
  have hwn := H.out.2.2.2.2.2
  have hnode : NodeAt W (fun x => S x ∨ x = nb + 3) t (nb + 3) := ⟨ka, cap, Or.inr rfl, by rw [k3, H.out.2.2.2.2.1], H.out.2.1, H.out.2.2.1.kept fun x hx => ⟨Or.inl hx, k0.block x (H.out.1 x hx)⟩⟩
  refine range_p (by omega) rfl (fun x => S x ∨ x = nb + 3) t hnode (fun x hx => by rcases hx with hx | hx; have := H.out.1 x hx; omega; omega) H.out.2.2.2.1 rfl (ManyI W nb) (ManyX W nb (spF 1 (rootF t))) (fun h hb => ⟨touched_more h.1 hb, (hb.block _ (by omega)).trans h.2.1, h.2.2⟩) (fun h hb => ⟨h.1, touched_more h.2.1 hb, (hb.block _ (by omega)).trans h.2.2.1, h.2.2.2⟩) ⟨Touched.refl _ _, k2, by simp⟩ ?round ?done ?stop
  case done =>
    rintro D V hD ⟨h1, h2, h3⟩ hK
    have e1 : V.heap[nb + 1]? = some (.cells #[.bool false] 4 (0, 0)) := (h1.block _ (by omega) (by omega)).trans k1
    have b0 : V.cell? ⟨nb + 1, 0, none⟩ = some (.bool false) := by rw [cell_of_row _ _ 0 _ _ _ e1]; rfl
    have f0 : V.frozen? ⟨nb + 1, 0, none⟩ = false := frozen_of_row _ _ 0 _ _ e1
    have HE := Lib.hid (many_end k0 ⟨h1.os, h1.tape, h1.output, h1.size, fun k hk hn => h1.block k hk (fun e => hn (Or.inr e))⟩ ⟨_, e1⟩ hwn hK (by omega) false)
    have HB := Lib.hid (show decide (200 < foSize t.kids + 1) = false by rw [spF_length, rootF_size] at h3; exact decide_eq_false (by omega))
    clear h1 h2 h3 e1 hD k0 k1 k2 k3 k4 k4' hwn hnode HA H
    gi_wp2
    obtain ⟨q1, q2, q3⟩ := HE.out
    refine ⟨by simp, .inl ⟨_, _, rfl, run_takeDeferred q1, ?_⟩⟩
    exact ⟨_, results_cellB rfl _ _ _ false rfl q2 (fun _ => by kernel_rfl), by rw [HB.out], q3⟩
  case stop =>
    rintro D c V hD ⟨rfl, h1, h2, h3⟩ hK
    have HE := Lib.hid (many_stop k0 h1 h2 hwn (D := D) (by omega))
    have HB := Lib.hid (show decide (200 < foSize t.kids + 1) = true by rw [spF_length, rootF_size] at h3; exact decide_eq_true (by omega))
    clear h1 h2 h3 hD k0 k1 k2 k3 k4 k4' hwn hnode HA H
    gi_wp2
    obtain ⟨q2, q3⟩ := HE.out
    refine ⟨by simp, .inl ⟨_, _, rfl, run_takeDeferred hK, ?_⟩⟩
    exact ⟨_, results_cellB rfl _ _ _ true rfl q2 (fun _ => by kernel_rfl), by rw [HB.out], q3⟩
  case round =>
    rintro l hl pre rest d key k V b off kc ka2 htot hV ⟨h1, h2, h3⟩ hSb d0 d1 d2 d3 dc dk K hK
    obtain ⟨np, hnp⟩ : ∃ np, np = pre.length := ⟨_, rfl⟩
    rw [← hnp] at h2 h3
    have hlt : np + 1 ≤ (spF 1 (rootF t)).length := by rw [htot, hnp]; simp
    have hn1 : V.heap[nb + 1]? = some (.cells #[.bool false] 4 (0, 0)) := (h1.block _ (by omega) (by omega)).trans k1
    have HR := Lib.hid (And.intro h1 (And.intro h2 (And.intro hlt (And.intro hV (And.intro hl (And.intro hnp hn1))))))
    have HK := Lib.hid hK
    have HZ := Lib.hid (And.intro k4' hwn)
    clear h1 h2 hlt hV hl hnp hn1 hK htot hSb d0 d1 d2 d3 dc dk k0 k1 k2 k3 k4 k4' hwn hnode
    gi_wp2
    refine HK.out _ V (Below.refl _ _) fun V1 hV1 => ?_
    clear HK
    obtain ⟨o', ev, o, ho, hoc⟩ := hV1
    have hk1 : ∀ y, y ≠ l → V1.heap[y]? = V.heap[y]? := fun y hy => by rw [ev]; exact World.putObj_heap_other hy
    have hs1 : V1.heap.size = V.heap.size := by rw [ev]; simp [World.putObj]
    have hlW : l = nb + 5 := by have := HR.out.2.2.2.2.1; have := HZ.out.1; omega
    have hc2 : V1.heap[nb + 2]? = some (.cells #[.int .i64 (np : Int)] 3 (0, 0)) := (hk1 _ (by omega)).trans HR.out.2.1
    have hc1 : V1.heap[nb + 1]? = some (.cells #[.bool false] 4 (0, 0)) := (hk1 _ (by omega)).trans HR.out.2.2.2.2.2.2
    have c2 : V1.cell? ⟨nb + 1 + 1, 0, none⟩ = some (.int .i64 (np : Int)) := by rw [cell_of_row _ _ 0 _ _ _ hc2]; rfl
    have f2 : V1.frozen? ⟨nb + 1 + 1, 0, none⟩ = false := frozen_of_row _ _ 0 _ _ hc2
    obtain ⟨V2, hV2⟩ : ∃ V2, V2 = V1.setCell ⟨nb + 1 + 1, 0, none⟩ (.int .i64 ((np : Int) + 1)) := ⟨_, rfl⟩
    have hk2 : ∀ y, y ≠ nb + 2 → V2.heap[y]? = V1.heap[y]? := fun y hy => by rw [hV2]; exact Below.heap_setCell _ _ _ _ hy
    have hc22 : V2.heap[nb + 2]? = some (.cells #[.int .i64 ((np : Int) + 1)] 3 (0, 0)) := by rw [hV2, heap_setCell_same V1 (nb + 1 + 1) 0 _ _ _ hc2]; simp
    have hc12 : V2.heap[nb + 1]? = some (.cells #[.bool false] 4 (0, 0)) := (hk2 _ (by omega)).trans hc1
    have hs2 : V2.heap.size = V1.heap.size := by rw [hV2]; simp [World.setCell]
    have ht2 : Touched W V2 (fun y => y = nb + 2) := by
      have h1 := HR.out.1
      refine ⟨by rw [hV2, ev]; exact h1.os, by rw [hV2, ev]; exact h1.tape, by rw [hV2, ev]; exact h1.output, by have := h1.size; omega, fun y hy hn => ?_⟩
      rw [hk2 y hn, hk1 y (by have := HZ.out.1; omega), h1.block y hy hn]
    have hS2 : ∀ y, (W.heap.size ≤ y ∨ (S y ∨ y = nb + 3)) → V2.heap[y]? = V1.heap[y]? := fun y hy => hk2 y (by
      rcases hy with hy | hy | hy
      · have := HZ.out.1; omega
      · have := H.out.1 y hy; have := HZ.out.2; omega
      · omega)
    by_cases hbig : 200 < np + 1
    · have hbi : (200 : Int) < (np : Int) + 1 := by omega
      have b1 : (V1.setCell ⟨nb + 1 + 1, 0, none⟩ (.int .i64 ((np : Int) + 1))).cell? ⟨nb + 1, 0, none⟩ = some (.bool false) := by rw [← hV2, cell_of_row _ _ 0 _ _ _ hc12]; rfl
      have g1 : (V1.setCell ⟨nb + 1 + 1, 0, none⟩ (.int .i64 ((np : Int) + 1))).frozen? ⟨nb + 1, 0, none⟩ = false := by rw [← hV2]; exact frozen_of_row _ _ 0 _ _ hc12
      have hend : ∀ aa : Act, LeftP W.heap.size (fun x => S x ∨ x = nb + 3) (ManyI W nb) (ManyX W nb (spF 1 (rootF t))) (pre ++ [(d, key, k)]) V1 .ret aa ((V1.setCell ⟨nb + 1 + 1, 0, none⟩ (.int .i64 ((np : Int) + 1))).setCell ⟨nb + 1, 0, none⟩ (.bool true)) := fun aa => by
        rw [← hV2]
        have hk3 : ∀ y, y ≠ nb + 1 → (V2.setCell ⟨nb + 1, 0, none⟩ (.bool true)).heap[y]? = V2.heap[y]? := fun y hy => Below.heap_setCell _ _ _ _ hy
        refine ⟨⟨by simp [World.setCell, hs2], fun y hy hyl => ?_⟩, .inr (.inl ⟨rfl, rfl, ⟨ht2.os, ht2.tape, ht2.output, by simp [World.setCell]; exact ht2.size, fun y hy hn => ?_⟩, ?_, by have := HR.out.2.2.1; omega⟩)⟩
        · rw [hk3 y (by
            rcases hy with hy | hy | hy
            · have := HZ.out.1; omega
            · have := H.out.1 y hy; have := HZ.out.2; omega
            · omega), hS2 y hy]
        · rw [hk3 y (fun e => hn (Or.inl e)), ht2.block y hy (fun e => hn (Or.inr e))]
        · rw [heap_setCell_same V2 (nb + 1) 0 _ _ _ hc12]; simp
      have HE := Lib.hid hend
      clear hend hk1 hs1 hc2 hc1 hV2 hk2 hc22 hc12 hs2 ht2 hS2 ev ho hoc hlW hbig
      gi_wp2
      exact HE.out _
    · have hbi : ¬ (200 : Int) < (np : Int) + 1 := by omega
      have hend : ∀ aa : Act, LeftP W.heap.size (fun x => S x ∨ x = nb + 3) (ManyI W nb) (ManyX W nb (spF 1 (rootF t))) (pre ++ [(d, key, k)]) V1 .normal aa (V1.setCell ⟨nb + 1 + 1, 0, none⟩ (.int .i64 ((np : Int) + 1))) := fun aa => by
        rw [← hV2]
        refine ⟨⟨by omega, fun y hy hyl => hS2 y hy⟩, .inl ⟨rfl, ht2, ?_, ?_⟩⟩
        · rw [hc22, List.length_append, ← HR.out.2.2.2.2.2.1]; rfl
        · rw [List.length_append, ← HR.out.2.2.2.2.2.1]; simp only [List.length_cons, List.length_nil]; omega
      have HE := Lib.hid hend
      clear hend hk1 hs1 hc2 hc1 hV2 hk2 hc22 hc12 hs2 ht2 hS2 ev ho hoc hlW hbig
      gi_wp2
      exact HE.out _
end Go.Proofs.Ytmfpilacmafglaa
