/-
  Count, Depth and told: numbers of a walk. No condition but that there are not too many nodes.
-/
import Derived.Test.YteccnekdmehloaaDoorETree
namespace Go.Proofs.YteccnekdmehloaaDoor
open Go.RowKit Go.Shelf
attribute [local go_sem] Oper.semAt_some
set_option linter.unusedVariables false

/-- One number of the caller's own, and nothing else that was there turned. -/
def Num1 (w : World) (CB : Nat) (f : List Sp → Int) (pre : List Sp) (_ : Nat → Prop) (V : World) : Prop := V.heap[CB]? = some (.cells #[.int .i64 (f pre)] 3 (0, 0)) ∧ Below w.heap.size w V
theorem Num1.turn {w w1 V V' : World} {CB : Nat} {f : List Sp → Int} {pre : List Sp} {T T' : Nat → Prop} (hw : w.heap.size ≤ w1.heap.size) (hC : CB < w1.heap.size) (h : Num1 w CB f pre T V) (hT : ∀ x, T x → w1.heap.size ≤ x) (ht : Touched V V' (fun x => T x ∨ (w1.heap.size ≤ x ∧ NonCells V x))) : Num1 w CB f pre T' V' := by
  have hk : ∀ x, x < w1.heap.size → x < V.heap.size → V'.heap[x]? = V.heap[x]? := fun x hx hv => ht.block x hv (fun h => by
    rcases h with h | h
    · have := hT x h; omega
    · omega)
  refine ⟨(hk CB hC (lt_of_heap h.1)).trans h.1, ht.os.trans h.2.os, ht.tape.trans h.2.tape, ht.output.trans h.2.output, Nat.le_trans h.2.size ht.size, fun x hx => ?_⟩
  rw [hk x (by omega) (by have := h.2.size; omega)]; exact h.2.block x hx
/-- A root as a row of its own. -/
def rootF (t : Tr) : Fo := .node 0 0 (t.id, t.kind, t.text) t.kids .nil
theorem rootF_size (t : Tr) : foSize (rootF t) = foSize t.kids + 1 := by simp [rootF, foSize]
theorem root_lies {w W : World} {S : Nat → Prop} {nb cap : Nat} {ka : Option Addr} {t : Tr} (hS : ∀ x, S x → W.heap[x]? = w.heap[x]?) (hc : foLen t.kids ≤ cap) (hk : FoAt w S t.kids ka) (hb : W.heap[nb]? = some (.cells #[.int .i64 t.id, .int .i64 t.kind, .string t.text, .slice ka (foLen t.kids) cap] 25 (0, 0))) : FoAt W (fun x => S x ∨ x = nb) (rootF t) (some ⟨nb, 0, none⟩) :=
  ⟨nb, 0, ka, cap, rfl, Or.inr rfl, by rw [cell_of_row _ _ 0 _ _ _ hb]; rfl, by rw [cell_of_row _ _ 1 _ _ _ hb]; rfl, by rw [cell_of_row _ _ 2 _ _ _ hb]; rfl, by rw [cell_of_row _ _ 3 _ _ _ hb]; rfl, hc, hk.kept fun x hx => ⟨Or.inl hx, hS x hx⟩, True.intro⟩
def IntC (w : World) (n : Int) (e : Ending) (w' : World) : Prop := e = .returned (.int .i64 n) ∧ Below w.heap.size w w'

theorem w4_facts (w : World) (cs : Array Value) (v : Value) (x : Value) :
    ((((w.alloc (.cells cs 25)).alloc (.cells #[x] 3)).alloc (.cells cs 25)).alloc (.cells #[v] 23)).heap.size = w.heap.size + 4 ∧
    Below w.heap.size w ((((w.alloc (.cells cs 25)).alloc (.cells #[x] 3)).alloc (.cells cs 25)).alloc (.cells #[v] 23)) ∧
    ((((w.alloc (.cells cs 25)).alloc (.cells #[x] 3)).alloc (.cells cs 25)).alloc (.cells #[v] 23)).heap[w.heap.size + 1]? = some (.cells #[x] 3 (0, 0)) ∧
    ((((w.alloc (.cells cs 25)).alloc (.cells #[x] 3)).alloc (.cells cs 25)).alloc (.cells #[v] 23)).heap[w.heap.size + 1 + 1]? = some (.cells cs 25 (0, 0)) ∧
    ((((w.alloc (.cells cs 25)).alloc (.cells #[x] 3)).alloc (.cells cs 25)).alloc (.cells #[v] 23)).heap[w.heap.size + 1 + 1 + 1]? = some (.cells #[v] 23 (0, 0)) := by
  refine ⟨by simp, ?_, ?_, ?_, ?_⟩
  · exact ((((Below.refl _ w).alloc (Nat.le_refl _) _).alloc (by simp only [World.size_alloc]; omega) _).alloc (by simp only [World.size_alloc]; omega) _).alloc (by simp only [World.size_alloc]; omega) _
  · rw [Below.heap_alloc _ _ _ (by simp only [World.size_alloc]; omega), Below.heap_alloc _ _ _ (by simp only [World.size_alloc]; omega)]
    have := heap_alloc_new (w.alloc (.cells cs 25)) (.cells #[x] 3)
    rw [World.size_alloc] at this; exact this
  · rw [Below.heap_alloc _ _ _ (by simp only [World.size_alloc]; omega)]
    have := heap_alloc_new ((w.alloc (.cells cs 25)).alloc (.cells #[x] 3)) (.cells cs 25)
    rw [World.size_alloc, World.size_alloc] at this; exact this
  · have := heap_alloc_new (((w.alloc (.cells cs 25)).alloc (.cells #[x] 3)).alloc (.cells cs 25)) (.cells #[v] 23)
    rw [World.size_alloc, World.size_alloc, World.size_alloc] at this; exact this
/-- Behind the loop: the number is told. -/
theorem num_end {w w1 V : World} {CB D : Nat} {f : List Sp → Int} {pre : List Sp} {T : Nat → Prop} (h : Num1 w CB f pre T V) (hD : w1.heap.size ≤ D) (hw : w.heap.size ≤ w1.heap.size) (o : Obj) (hK : V.heap[D]? = some o) : Below w.heap.size w (V.putObj D (.deferred none)) :=
  ⟨h.2.os, h.2.tape, h.2.output, by have := h.2.size; simp [World.putObj]; exact this, fun x hx => by rw [World.putObj_heap_other (by omega)]; exact h.2.block x hx⟩
def lenI (l : List Sp) : Int := (l.length : Int)
set_option maxRecDepth 100000 in
set_option maxHeartbeats 2000000 in
theorem count_any (w : World) (S : Nat → Prop) (nv : Value) (t : Tr) (hS : ∀ x, S x → x < w.heap.size) (ht : TrAt w S nv t) (hsz : foSize t.kids + 1 ≤ 500000) : Calls Tryd.prog 19 #[nv] w (IntC w (lenI (spF 1 (rootF t)))) := by
  obtain ⟨ka, cap, rfl, hcap, hk⟩ := ht
  obtain ⟨n, hn⟩ : ∃ n, n = foLen t.kids := ⟨_, rfl⟩
  rw [← hn]
  obtain ⟨k1, k2, k3, k4, k5⟩ := w4_facts w #[.int .i64 t.id, .int .i64 t.kind, .string t.text, .slice ka n cap] (.slice (some ⟨w.heap.size + 1 + 1, 0, none⟩) 1 1) (.int .i64 0)
  have HW := Lib.hid (And.intro k1 (And.intro k2 (And.intro k3 (And.intro k4 k5))))
  have H := Lib.hid (And.intro hS (And.intro hcap (And.intro hk (And.intro hsz hn))))
  clear hS hcap hk hsz hn k1 k2 k3 k4 k5
  refine (callsIn_wide (n := 6)).1 ?_
  refine callsIn_of_wp_marks Tryd.func19 rfl trivial ?_ rfl
  simp only [Tryd.ntmps19, List.size_toArray, List.length_cons, List.length_nil, Nat.reduceAdd, Nat.reduceSub, Array.replicate_succ, Array.replicate_zero, List.push_toArray, List.append_toArray, List.nil_append, List.cons_append]
  gi_wp2_with (refine ⟨trivial, ?_⟩; gi_at_call 29; refine (callsIn_wide.2 (each_fn _ _ _ _)).mono ?_; rintro e w' ⟨rfl, rfl⟩)
  generalize hW : World.alloc _ _ = W at HW ⊢
  clear hW
  obtain ⟨k1, k2, k3, k4, k5⟩ := HW.out
  have hSW : ∀ x, S x → W.heap[x]? = w.heap[x]? := fun x hx => k2.block x (H.out.1 x hx)
  have hroot := root_lies hSW H.out.2.1 H.out.2.2.1 (by rw [← H.out.2.2.2.2]; exact k4)
  refine range_tree (by omega) rfl ⟨1, some ⟨w.heap.size + 1 + 1, 0, none⟩, 1, rootF t⟩ rfl (by simp [rootF]) (by simp [rootF, foLen]) (by rw [rootF_size]; exact H.out.2.2.2.1) (by rw [cell_of_row _ _ 0 _ _ _ k5]; rfl) rfl (fun x => S x ∨ x = w.heap.size + 1 + 1) (fun x hx => by rcases hx with hx | hx; have := H.out.1 x hx; omega; omega) hroot
    (Num1 w (w.heap.size + 1) lenI) (fun _ _ _ => False) (fun h hT ht _ => h.turn (by omega) (by omega) hT ht) (fun h _ _ _ => h.elim) ⟨k3, k2⟩ ?round ?done ?stop
  case done =>
    rintro D T V hD hI hK
    have c0 : V.cell? ⟨w.heap.size + 1, 0, none⟩ = some (.int .i64 (lenI (spF 1 (rootF t)))) := by rw [cell_of_row _ _ 0 _ _ _ hI.1]; rfl
    have HE := Lib.hid (num_end hI hD (by omega) _ hK)
    clear hI HW H k1 k2 k3 k4 k5 hSW hroot
    gi_wp2
    refine ⟨by simp, .inl ⟨_, _, rfl, run_takeDeferred hK, ?_⟩⟩
    exact ⟨_, results_tmp rfl _ _ _, rfl, HE.out⟩
  case stop => exact fun _ _ _ _ _ h _ => h.elim
  case round =>
    rintro l hl T pre rest d key k V b off kc ka2 hT hV htot hb d0 d1 d2 d3 d4 dk hR K hK
    have hpl : pre.length ≤ 500000 := by
      have := congrArg List.length htot
      rw [spF_length, rootF_size, List.length_append] at this; have := H.out.2.2.2.1; omega
    have hb0 : 0 ≤ lenI pre := by unfold lenI; omega
    have hb1 : lenI pre ≤ 500000 := by unfold lenI; omega
    have HK := Lib.hid hK
    have HR := Lib.hid (And.intro hR (And.intro hT hV))
    have HZ := Lib.hid (And.intro k1 (And.intro hl hb))
    clear hR hK hT hV k1 k2 k3 k4 k5 hSW hroot HW htot d0 d1 d2 d3 d4 dk hl hb
    gi_wp2
    refine HK.out _ fun V1 hV1 => ?_
    obtain ⟨o', ev, o, ho, hoc⟩ := hV1
    have hC1 : V1.heap[w.heap.size + 1]? = some (.cells #[.int .i64 (lenI pre)] 3 (0, 0)) := by
      rw [ev, World.putObj_heap_other (by have := HZ.out.2.1; have := HZ.out.1; omega)]; exact HR.out.1.1
    have hs1 : V1.heap.size = V.heap.size := by rw [ev]; simp [World.putObj]
    have hB1 : Below w.heap.size w V1 := by
      have h2 := HR.out.1.2
      rw [ev]
      exact ⟨h2.os, h2.tape, h2.output, by have := h2.size; simp [World.putObj]; exact this, fun x hx => by rw [World.putObj_heap_other (by have := HZ.out.2.1; have := HZ.out.1; omega)]; exact h2.block x hx⟩
    have hend : ∀ aa : Act, LeftT W.heap.size T (fun x => S x ∨ x = w.heap.size + 1 + 1) (Num1 w (w.heap.size + 1) lenI) (fun _ _ _ => False) (pre ++ [(d, key, k)]) V1 .normal aa (V1.setCell ⟨w.heap.size + 1, 0, none⟩ (.int .i64 (lenI pre + 1))) := by
      intro aa
      have hbk : ∀ x, x ≠ w.heap.size + 1 → (V1.setCell ⟨w.heap.size + 1, 0, none⟩ (.int .i64 (lenI pre + 1))).heap[x]? = V1.heap[x]? := fun x hx => Below.heap_setCell _ _ _ _ hx
      have hk1 := HZ.out.1
      refine ⟨⟨by simp [World.setCell], fun x o hx ho _ => ?_⟩, ⟨by simp [World.setCell], fun x hx => hbk x (by have := (HR.out.2.1 x hx).2; omega)⟩, fun x hx => hbk x ?_, .inl ⟨rfl, ?_, hB1.setCell (p := ⟨w.heap.size + 1, 0, none⟩) (by simp) _⟩⟩
      · rw [hbk x (by omega)]; exact ho
      · rcases hx with hx | hx
        · have := H.out.1 x hx; omega
        · omega
      · rw [heap_setCell_same V1 (w.heap.size + 1) 0 _ _ _ hC1]
        simp [lenI]
    have c0 : V1.cell? ⟨w.heap.size + 1, 0, none⟩ = some (.int .i64 (lenI pre)) := by rw [cell_of_row _ _ 0 _ _ _ hC1]; rfl
    have f0 : V1.frozen? ⟨w.heap.size + 1, 0, none⟩ = false := frozen_of_row _ _ 0 _ _ hC1
    have HE := Lib.hid hend
    clear hend hC1 hB1 hs1 ev ho hoc
    gi_wp2
    all_goals first
      | exact HE.out _
      | (have h := HE.out; rw [Int.max_eq_right (by omega)] at h; exact h _)
      | (have h := HE.out; rw [Int.max_eq_left (by omega)] at h; exact h _)
theorem spF_depth : ∀ (d : Nat) (f : Fo) (x : Sp), x ∈ spF d f → d ≤ x.1 ∧ x.1 < d + foSize f
  | _, .nil, x, h => by simp [spF] at h
  | d, .node _ _ k l r, x, h => by
    simp only [spF, List.mem_cons, List.mem_append] at h
    simp only [foSize]
    rcases h with rfl | h | h
    · exact ⟨Nat.le_refl _, by simp only; omega⟩
    · have := spF_depth (d + 1) l x h; omega
    · have := spF_depth d r x h; omega
def sumI (l : List Sp) : Int := ((l.map (·.1)).sum : Nat)
theorem sumI_le : ∀ (l : List Sp) (M : Nat), (∀ x ∈ l, x.1 ≤ M) → (l.map (·.1)).sum ≤ M * l.length
  | [], _, _ => by simp
  | x :: l, M, h => by
    have h1 := sumI_le l M (fun y hy => h y (List.mem_cons_of_mem _ hy))
    have h2 := h x (by simp)
    simp only [List.map_cons, List.sum_cons, List.length_cons, Nat.mul_add]; omega
def maxI (l : List Sp) : Int := l.foldl (fun m x => max m (x.1 : Int)) 0
theorem maxI_le (M : Int) : ∀ (l : List Sp) (m : Int), 0 ≤ m → m ≤ M → (∀ x ∈ l, (x.1 : Int) ≤ M) → 0 ≤ l.foldl (fun m x => max m (x.1 : Int)) m ∧ l.foldl (fun m x => max m (x.1 : Int)) m ≤ M
  | [], m, h0, h1, _ => ⟨h0, h1⟩
  | x :: l, m, h0, h1, h => maxI_le M l (max m (x.1 : Int)) (by omega) (by have := h x (by simp); omega) (fun y hy => h y (List.mem_cons_of_mem _ hy))
set_option maxRecDepth 100000 in
set_option maxHeartbeats 2000000 in
theorem told_any (w : World) (S : Nat → Prop) (nv : Value) (t : Tr) (hS : ∀ x, S x → x < w.heap.size) (ht : TrAt w S nv t) (hsz : foSize t.kids + 1 ≤ 500000) : Calls Tryd.prog 40 #[nv] w (IntC w (sumI (spF 1 (rootF t)))) := by
  obtain ⟨ka, cap, rfl, hcap, hk⟩ := ht
  obtain ⟨n, hn⟩ : ∃ n, n = foLen t.kids := ⟨_, rfl⟩
  rw [← hn]
  obtain ⟨k1, k2, k3, k4, k5⟩ := w4_facts w #[.int .i64 t.id, .int .i64 t.kind, .string t.text, .slice ka n cap] (.slice (some ⟨w.heap.size + 1 + 1, 0, none⟩) 1 1) (.int .i64 0)
  have HW := Lib.hid (And.intro k1 (And.intro k2 (And.intro k3 (And.intro k4 k5))))
  have H := Lib.hid (And.intro hS (And.intro hcap (And.intro hk (And.intro hsz hn))))
  clear hS hcap hk hsz hn k1 k2 k3 k4 k5
  refine (callsIn_wide (n := 6)).1 ?_
  refine callsIn_of_wp_marks Tryd.func40 rfl trivial ?_ rfl
  simp only [Tryd.ntmps40, List.size_toArray, List.length_cons, List.length_nil, Nat.reduceAdd, Nat.reduceSub, Array.replicate_succ, Array.replicate_zero, List.push_toArray, List.append_toArray, List.nil_append, List.cons_append]
  gi_wp2_with (refine ⟨trivial, ?_⟩; gi_at_call 29; refine (callsIn_wide.2 (each_fn _ _ _ _)).mono ?_; rintro e w' ⟨rfl, rfl⟩)
  generalize hW : World.alloc _ _ = W at HW ⊢
  clear hW
  obtain ⟨k1, k2, k3, k4, k5⟩ := HW.out
  have hSW : ∀ x, S x → W.heap[x]? = w.heap[x]? := fun x hx => k2.block x (H.out.1 x hx)
  have hroot := root_lies hSW H.out.2.1 H.out.2.2.1 (by rw [← H.out.2.2.2.2]; exact k4)
  refine range_tree (by omega) rfl ⟨1, some ⟨w.heap.size + 1 + 1, 0, none⟩, 1, rootF t⟩ rfl (by simp [rootF]) (by simp [rootF, foLen]) (by rw [rootF_size]; exact H.out.2.2.2.1) (by rw [cell_of_row _ _ 0 _ _ _ k5]; rfl) rfl (fun x => S x ∨ x = w.heap.size + 1 + 1) (fun x hx => by rcases hx with hx | hx; have := H.out.1 x hx; omega; omega) hroot
    (Num1 w (w.heap.size + 1) sumI) (fun _ _ _ => False) (fun h hT ht _ => h.turn (by omega) (by omega) hT ht) (fun h _ _ _ => h.elim) ⟨k3, k2⟩ ?round ?done ?stop
  case done =>
    rintro D T V hD hI hK
    have c0 : V.cell? ⟨w.heap.size + 1, 0, none⟩ = some (.int .i64 (sumI (spF 1 (rootF t)))) := by rw [cell_of_row _ _ 0 _ _ _ hI.1]; rfl
    have HE := Lib.hid (num_end hI hD (by omega) _ hK)
    clear hI HW H k1 k2 k3 k4 k5 hSW hroot
    gi_wp2
    refine ⟨by simp, .inl ⟨_, _, rfl, run_takeDeferred hK, ?_⟩⟩
    exact ⟨_, results_tmp rfl _ _ _, rfl, HE.out⟩
  case stop => exact fun _ _ _ _ _ h _ => h.elim
  case round =>
    rintro l hl T pre rest d key k V b off kc ka2 hT hV htot hb d0 d1 d2 d3 d4 dk hR K hK
    have hpl : pre.length ≤ 500000 := by
      have := congrArg List.length htot
      rw [spF_length, rootF_size, List.length_append] at this; have := H.out.2.2.2.1; omega
    have hdd : ∀ x ∈ pre ++ [(d, key, k)], x.1 ≤ 500000 := fun x hx => by
      have := spF_depth 1 (rootF t) x (by rw [htot]; rcases List.mem_append.1 hx with hx | hx; exact List.mem_append_left _ hx; rw [List.mem_singleton] at hx; subst hx; exact List.mem_append_right _ (by simp))
      rw [rootF_size] at this; have := H.out.2.2.2.1; omega
    have hd5 : (d : Int) ≤ 500000 := by have := hdd (d, key, k) (by simp); simp only at this; omega
    have hd00 : (0 : Int) ≤ (d : Int) := by omega
    have hb0 : 0 ≤ sumI pre := by unfold sumI; omega
    have hb1 : sumI pre ≤ 250000000000 := by
      have h1 := sumI_le pre 500000 (fun x hx => hdd x (List.mem_append_left _ hx))
      have h2 : 500000 * pre.length ≤ 500000 * 500000 := Nat.mul_le_mul (Nat.le_refl _) hpl
      unfold sumI; omega
    clear hdd
    have HK := Lib.hid hK
    have HR := Lib.hid (And.intro hR (And.intro hT hV))
    have HZ := Lib.hid (And.intro k1 (And.intro hl hb))
    clear hR hK hT hV k1 k2 k3 k4 k5 hSW hroot HW htot d0 d1 d2 d3 d4 dk hl hb
    gi_wp2
    refine HK.out _ fun V1 hV1 => ?_
    obtain ⟨o', ev, o, ho, hoc⟩ := hV1
    have hC1 : V1.heap[w.heap.size + 1]? = some (.cells #[.int .i64 (sumI pre)] 3 (0, 0)) := by
      rw [ev, World.putObj_heap_other (by have := HZ.out.2.1; have := HZ.out.1; omega)]; exact HR.out.1.1
    have hs1 : V1.heap.size = V.heap.size := by rw [ev]; simp [World.putObj]
    have hB1 : Below w.heap.size w V1 := by
      have h2 := HR.out.1.2
      rw [ev]
      exact ⟨h2.os, h2.tape, h2.output, by have := h2.size; simp [World.putObj]; exact this, fun x hx => by rw [World.putObj_heap_other (by have := HZ.out.2.1; have := HZ.out.1; omega)]; exact h2.block x hx⟩
    have hend : ∀ aa : Act, LeftT W.heap.size T (fun x => S x ∨ x = w.heap.size + 1 + 1) (Num1 w (w.heap.size + 1) sumI) (fun _ _ _ => False) (pre ++ [(d, key, k)]) V1 .normal aa (V1.setCell ⟨w.heap.size + 1, 0, none⟩ (.int .i64 (sumI pre + d))) := by
      intro aa
      have hbk : ∀ x, x ≠ w.heap.size + 1 → (V1.setCell ⟨w.heap.size + 1, 0, none⟩ (.int .i64 (sumI pre + d))).heap[x]? = V1.heap[x]? := fun x hx => Below.heap_setCell _ _ _ _ hx
      have hk1 := HZ.out.1
      refine ⟨⟨by simp [World.setCell], fun x o hx ho _ => ?_⟩, ⟨by simp [World.setCell], fun x hx => hbk x (by have := (HR.out.2.1 x hx).2; omega)⟩, fun x hx => hbk x ?_, .inl ⟨rfl, ?_, hB1.setCell (p := ⟨w.heap.size + 1, 0, none⟩) (by simp) _⟩⟩
      · rw [hbk x (by omega)]; exact ho
      · rcases hx with hx | hx
        · have := H.out.1 x hx; omega
        · omega
      · rw [heap_setCell_same V1 (w.heap.size + 1) 0 _ _ _ hC1]
        simp [sumI]
    have c0 : V1.cell? ⟨w.heap.size + 1, 0, none⟩ = some (.int .i64 (sumI pre)) := by rw [cell_of_row _ _ 0 _ _ _ hC1]; rfl
    have f0 : V1.frozen? ⟨w.heap.size + 1, 0, none⟩ = false := frozen_of_row _ _ 0 _ _ hC1
    have HE := Lib.hid hend
    clear hend hC1 hB1 hs1 ev ho hoc
    gi_wp2
    all_goals first
      | exact HE.out _
      | (have h := HE.out; rw [Int.max_eq_right (by omega)] at h; exact h _)
      | (have h := HE.out; rw [Int.max_eq_left (by omega)] at h; exact h _)
set_option maxRecDepth 100000 in
set_option maxHeartbeats 2000000 in
theorem depth_any (w : World) (S : Nat → Prop) (nv : Value) (t : Tr) (hS : ∀ x, S x → x < w.heap.size) (ht : TrAt w S nv t) (hsz : foSize t.kids + 1 ≤ 500000) : Calls Tryd.prog 13 #[nv] w (IntC w (maxI (spF 1 (rootF t)))) := by
  obtain ⟨ka, cap, rfl, hcap, hk⟩ := ht
  obtain ⟨n, hn⟩ : ∃ n, n = foLen t.kids := ⟨_, rfl⟩
  rw [← hn]
  obtain ⟨k1, k2, k3, k4, k5⟩ := w4_facts w #[.int .i64 t.id, .int .i64 t.kind, .string t.text, .slice ka n cap] (.slice (some ⟨w.heap.size + 1 + 1, 0, none⟩) 1 1) (.int .i64 0)
  have HW := Lib.hid (And.intro k1 (And.intro k2 (And.intro k3 (And.intro k4 k5))))
  have H := Lib.hid (And.intro hS (And.intro hcap (And.intro hk (And.intro hsz hn))))
  clear hS hcap hk hsz hn k1 k2 k3 k4 k5
  refine (callsIn_wide (n := 6)).1 ?_
  refine callsIn_of_wp_marks Tryd.func13 rfl trivial ?_ rfl
  simp only [Tryd.ntmps13, List.size_toArray, List.length_cons, List.length_nil, Nat.reduceAdd, Nat.reduceSub, Array.replicate_succ, Array.replicate_zero, List.push_toArray, List.append_toArray, List.nil_append, List.cons_append]
  gi_wp2_with (refine ⟨trivial, ?_⟩; gi_at_call 29; refine (callsIn_wide.2 (each_fn _ _ _ _)).mono ?_; rintro e w' ⟨rfl, rfl⟩)
  generalize hW : World.alloc _ _ = W at HW ⊢
  clear hW
  obtain ⟨k1, k2, k3, k4, k5⟩ := HW.out
  have hSW : ∀ x, S x → W.heap[x]? = w.heap[x]? := fun x hx => k2.block x (H.out.1 x hx)
  have hroot := root_lies hSW H.out.2.1 H.out.2.2.1 (by rw [← H.out.2.2.2.2]; exact k4)
  refine range_tree (by omega) rfl ⟨1, some ⟨w.heap.size + 1 + 1, 0, none⟩, 1, rootF t⟩ rfl (by simp [rootF]) (by simp [rootF, foLen]) (by rw [rootF_size]; exact H.out.2.2.2.1) (by rw [cell_of_row _ _ 0 _ _ _ k5]; rfl) rfl (fun x => S x ∨ x = w.heap.size + 1 + 1) (fun x hx => by rcases hx with hx | hx; have := H.out.1 x hx; omega; omega) hroot
    (Num1 w (w.heap.size + 1) maxI) (fun _ _ _ => False) (fun h hT ht _ => h.turn (by omega) (by omega) hT ht) (fun h _ _ _ => h.elim) ⟨k3, k2⟩ ?round ?done ?stop
  case done =>
    rintro D T V hD hI hK
    have c0 : V.cell? ⟨w.heap.size + 1, 0, none⟩ = some (.int .i64 (maxI (spF 1 (rootF t)))) := by rw [cell_of_row _ _ 0 _ _ _ hI.1]; rfl
    have HE := Lib.hid (num_end hI hD (by omega) _ hK)
    clear hI HW H k1 k2 k3 k4 k5 hSW hroot
    gi_wp2
    refine ⟨by simp, .inl ⟨_, _, rfl, run_takeDeferred hK, ?_⟩⟩
    exact ⟨_, results_tmp rfl _ _ _, rfl, HE.out⟩
  case stop => exact fun _ _ _ _ _ h _ => h.elim
  case round =>
    rintro l hl T pre rest d key k V b off kc ka2 hT hV htot hb d0 d1 d2 d3 d4 dk hR K hK
    have hpl : pre.length ≤ 500000 := by
      have := congrArg List.length htot
      rw [spF_length, rootF_size, List.length_append] at this; have := H.out.2.2.2.1; omega
    have hdd : ∀ x ∈ pre ++ [(d, key, k)], x.1 ≤ 500000 := fun x hx => by
      have := spF_depth 1 (rootF t) x (by rw [htot]; rcases List.mem_append.1 hx with hx | hx; exact List.mem_append_left _ hx; rw [List.mem_singleton] at hx; subst hx; exact List.mem_append_right _ (by simp))
      rw [rootF_size] at this; have := H.out.2.2.2.1; omega
    have hd5 : (d : Int) ≤ 500000 := by have := hdd (d, key, k) (by simp); simp only at this; omega
    have hd00 : (0 : Int) ≤ (d : Int) := by omega
    have hb0 := (maxI_le 500000 pre 0 (by omega) (by omega) (fun x hx => by have := hdd x (List.mem_append_left _ hx); omega)).1
    clear hdd
    have HK := Lib.hid hK
    have HR := Lib.hid (And.intro hR (And.intro hT hV))
    have HZ := Lib.hid (And.intro k1 (And.intro hl hb))
    clear hR hK hT hV k1 k2 k3 k4 k5 hSW hroot HW htot d0 d1 d2 d3 d4 dk hl hb
    gi_wp2
    refine HK.out _ fun V1 hV1 => ?_
    obtain ⟨o', ev, o, ho, hoc⟩ := hV1
    have hC1 : V1.heap[w.heap.size + 1]? = some (.cells #[.int .i64 (maxI pre)] 3 (0, 0)) := by
      rw [ev, World.putObj_heap_other (by have := HZ.out.2.1; have := HZ.out.1; omega)]; exact HR.out.1.1
    have hs1 : V1.heap.size = V.heap.size := by rw [ev]; simp [World.putObj]
    have hB1 : Below w.heap.size w V1 := by
      have h2 := HR.out.1.2
      rw [ev]
      exact ⟨h2.os, h2.tape, h2.output, by have := h2.size; simp [World.putObj]; exact this, fun x hx => by rw [World.putObj_heap_other (by have := HZ.out.2.1; have := HZ.out.1; omega)]; exact h2.block x hx⟩
    have hend : ∀ aa : Act, LeftT W.heap.size T (fun x => S x ∨ x = w.heap.size + 1 + 1) (Num1 w (w.heap.size + 1) maxI) (fun _ _ _ => False) (pre ++ [(d, key, k)]) V1 .normal aa (V1.setCell ⟨w.heap.size + 1, 0, none⟩ (.int .i64 (max (maxI pre) d))) := by
      intro aa
      have hbk : ∀ x, x ≠ w.heap.size + 1 → (V1.setCell ⟨w.heap.size + 1, 0, none⟩ (.int .i64 (max (maxI pre) d))).heap[x]? = V1.heap[x]? := fun x hx => Below.heap_setCell _ _ _ _ hx
      have hk1 := HZ.out.1
      refine ⟨⟨by simp [World.setCell], fun x o hx ho _ => ?_⟩, ⟨by simp [World.setCell], fun x hx => hbk x (by have := (HR.out.2.1 x hx).2; omega)⟩, fun x hx => hbk x ?_, .inl ⟨rfl, ?_, hB1.setCell (p := ⟨w.heap.size + 1, 0, none⟩) (by simp) _⟩⟩
      · rw [hbk x (by omega)]; exact ho
      · rcases hx with hx | hx
        · have := H.out.1 x hx; omega
        · omega
      · rw [heap_setCell_same V1 (w.heap.size + 1) 0 _ _ _ hC1]
        simp [maxI]
    have c0 : V1.cell? ⟨w.heap.size + 1, 0, none⟩ = some (.int .i64 (maxI pre)) := by rw [cell_of_row _ _ 0 _ _ _ hC1]; rfl
    have f0 : V1.frozen? ⟨w.heap.size + 1, 0, none⟩ = false := frozen_of_row _ _ 0 _ _ hC1
    have HE := Lib.hid hend
    clear hend hC1 hB1 hs1 ev ho hoc
    gi_wp2
    all_goals first
      | exact HE.out _
      | (have h := HE.out; rw [Int.max_eq_right (by omega)] at h; exact h _)
      | (have h := HE.out; rw [Int.max_eq_left (by omega)] at h; exact h _)
end Go.Proofs.YteccnekdmehloaaDoor
