/-
  What Walk hands back: it tells a copy of each node, in the walk. No condition but that there are at most 5000 nodes.
-/
import Derived.Test.YteccnekdmehloaaDoorEWalk
import Derived.Test.YteccnekdmehloaaDoorEHeld
namespace Go.Proofs.YteccnekdmehloaaDoor
open Go.RowKit Go.Shelf
attribute [local go_sem] Oper.semAt_some
set_option linter.unusedVariables false
set_option linter.unusedSimpArgs false

def trOf (x : Sp) : Tr := ⟨x.2.1.1, x.2.1.2.1, x.2.1.2.2, x.2.2⟩
/-- What a body of a loop over Walk bears: it speaks of what lay below n₀ alone. -/
structure WBody (P : Program) (m l n₀ : Nat) (SS : Nat → Prop) (tot : List Sp) (J : List Sp → World → Prop) (Jx : World → Prop) : Prop where
  turn : ∀ {pre : List Sp} {V V' : World}, J pre V → Below n₀ V V' → J pre V'
  turnx : ∀ {V V' : World}, Jx V → Below n₀ V V' → Jx V'
  yield : ∀ {pre rest : List Sp} {x : Sp} {V : World} {v : Value}, tot = pre ++ x :: rest → J pre V → n₀ ≤ V.heap.size → TrAt V (fun y => CellsB V y ∧ (SS y ∨ n₀ ≤ y)) v (trOf x) →
    YieldAt Fence.wide m P l #[.int .i64 (x.1 : Int), v] V fun e V' => (V.heap.size ≤ V'.heap.size ∧ (∀ y, (n₀ ≤ y ∨ SS y) → y < V.heap.size → V'.heap[y]? = V.heap[y]?)) ∧ ((e = .returned (.bool true) ∧ J (pre ++ [x]) V') ∨ (e = .returned (.bool false) ∧ Jx V'))
theorem w5_facts (w : World) (cs : Array Value) (y f v : Value) :
    (((((w.alloc (.cells #[y] 77)).alloc (.cells cs 25)).alloc (.cells #[f] 76)).alloc (.cells cs 25)).alloc (.cells #[v] 23)).heap.size = w.heap.size + 5 ∧
    Below w.heap.size w (((((w.alloc (.cells #[y] 77)).alloc (.cells cs 25)).alloc (.cells #[f] 76)).alloc (.cells cs 25)).alloc (.cells #[v] 23)) ∧
    (((((w.alloc (.cells #[y] 77)).alloc (.cells cs 25)).alloc (.cells #[f] 76)).alloc (.cells cs 25)).alloc (.cells #[v] 23)).heap[w.heap.size]? = some (.cells #[y] 77 (0, 0)) ∧
    (((((w.alloc (.cells #[y] 77)).alloc (.cells cs 25)).alloc (.cells #[f] 76)).alloc (.cells cs 25)).alloc (.cells #[v] 23)).heap[w.heap.size + 1 + 1]? = some (.cells #[f] 76 (0, 0)) ∧
    (((((w.alloc (.cells #[y] 77)).alloc (.cells cs 25)).alloc (.cells #[f] 76)).alloc (.cells cs 25)).alloc (.cells #[v] 23)).heap[w.heap.size + 1 + 1 + 1]? = some (.cells cs 25 (0, 0)) ∧
    (((((w.alloc (.cells #[y] 77)).alloc (.cells cs 25)).alloc (.cells #[f] 76)).alloc (.cells cs 25)).alloc (.cells #[v] 23)).heap[w.heap.size + 1 + 1 + 1 + 1]? = some (.cells #[v] 23 (0, 0)) := by
  obtain ⟨A1, hA1⟩ : ∃ A1, A1 = w.alloc (.cells #[y] 77) := ⟨_, rfl⟩
  obtain ⟨A2, hA2⟩ : ∃ A2, A2 = A1.alloc (.cells cs 25) := ⟨_, rfl⟩
  obtain ⟨A3, hA3⟩ : ∃ A3, A3 = A2.alloc (.cells #[f] 76) := ⟨_, rfl⟩
  obtain ⟨A4, hA4⟩ : ∃ A4, A4 = A3.alloc (.cells cs 25) := ⟨_, rfl⟩
  rw [← hA1, ← hA2, ← hA3, ← hA4]
  have s1 : A1.heap.size = w.heap.size + 1 := by rw [hA1, World.size_alloc]
  have s2 : A2.heap.size = w.heap.size + 1 + 1 := by rw [hA2, World.size_alloc, s1]
  have s3 : A3.heap.size = w.heap.size + 1 + 1 + 1 := by rw [hA3, World.size_alloc, s2]
  have s4 : A4.heap.size = w.heap.size + 1 + 1 + 1 + 1 := by rw [hA4, World.size_alloc, s3]
  have k5 : ∀ x, x < A4.heap.size → (A4.alloc (.cells #[v] 23)).heap[x]? = A4.heap[x]? := fun x hx => Below.heap_alloc _ _ _ hx
  have k4 : ∀ x, x < A3.heap.size → A4.heap[x]? = A3.heap[x]? := fun x hx => by rw [hA4]; exact Below.heap_alloc _ _ _ hx
  have k3 : ∀ x, x < A2.heap.size → A3.heap[x]? = A2.heap[x]? := fun x hx => by rw [hA3]; exact Below.heap_alloc _ _ _ hx
  have k2 : ∀ x, x < A1.heap.size → A2.heap[x]? = A1.heap[x]? := fun x hx => by rw [hA2]; exact Below.heap_alloc _ _ _ hx
  have k1 : ∀ x, x < w.heap.size → A1.heap[x]? = w.heap[x]? := fun x hx => by rw [hA1]; exact Below.heap_alloc _ _ _ hx
  refine ⟨by rw [World.size_alloc, s4], ⟨?_, ?_, ?_, by rw [World.size_alloc]; omega, fun x hx => by rw [k5 _ (by omega), k4 _ (by omega), k3 _ (by omega), k2 _ (by omega), k1 _ hx]⟩, ?_, ?_, ?_, ?_⟩
  · rw [hA4, hA3, hA2, hA1]; rfl
  · rw [hA4, hA3, hA2, hA1]; rfl
  · rw [hA4, hA3, hA2, hA1]; rfl
  · rw [k5 _ (by omega), k4 _ (by omega), k3 _ (by omega), k2 _ (by omega), hA1]; exact heap_alloc_new w _
  · rw [k5 _ (by omega), k4 _ (by omega), hA3, ← s2]; exact heap_alloc_new A2 _
  · rw [k5 _ (by omega), hA4, ← s3]; exact heap_alloc_new A3 _
  · rw [← s4]; exact heap_alloc_new A4 _
/-- Between two rounds of Walk's own loop. -/
def W1R (w W : World) (SS : Nat → Prop) (J : List Sp → World → Prop) (pre : List Sp) (_ : Nat → Prop) (V : World) : Prop :=
  J pre V ∧ W.heap.size ≤ V.heap.size ∧ (∀ x, w.heap.size ≤ x → x < W.heap.size → V.heap[x]? = W.heap[x]?) ∧ ∀ x, SS x → V.heap[x]? = w.heap[x]?
theorem W1R.turn {P : Program} {m l : Nat} {w W V V' : World} {SS T T' : Nat → Prop} {tot pre : List Sp} {J : List Sp → World → Prop} {Jx : World → Prop} (hB : WBody P m l w.heap.size SS tot J Jx) (hw : w.heap.size ≤ W.heap.size) (hSS : ∀ x, SS x → x < w.heap.size) (h : W1R w W SS J pre T V) (hT : ∀ x, T x → W.heap.size ≤ x) (ht : Touched V V' (fun x => T x ∨ (W.heap.size ≤ x ∧ NonCells V x))) : W1R w W SS J pre T' V' := by
  obtain ⟨h1, h2, h3, h4⟩ := h
  have hk : ∀ x, x < W.heap.size → V'.heap[x]? = V.heap[x]? := fun x hx => ht.block x (by omega) (fun h => by
    rcases h with h | h
    · have := hT x h; omega
    · omega)
  exact ⟨hB.turn h1 ⟨ht.os, ht.tape, ht.output, ht.size, fun x hx => hk x (by omega)⟩, Nat.le_trans h2 ht.size, fun x a b => (hk x b).trans (h3 x a b), fun x hx => (hk x (by have := hSS x hx; omega)).trans (h4 x hx)⟩
theorem spF_size : ∀ (d : Nat) (f : Fo) (x : Sp), x ∈ spF d f → foSize x.2.2 + 1 ≤ foSize f
  | _, .nil, x, h => by simp [spF] at h
  | d, .node _ _ k l r, x, h => by
    simp only [spF, List.mem_cons, List.mem_append] at h
    simp only [foSize]
    rcases h with rfl | h | h
    · simp only; omega
    · have := spF_size (d + 1) l x h; omega
    · have := spF_size d r x h; omega
theorem cellsOfs {V : World} {b off : Nat} {u0 u1 u2 u3 : Value} (h0 : V.cell? ⟨b, off, none⟩ = some u0) (h1 : V.cell? ⟨b, off + 1, none⟩ = some u1) (h2 : V.cell? ⟨b, off + 2, none⟩ = some u2) (h3 : V.cell? ⟨b, off + 3, none⟩ = some u3) {V' : World} (hb : V'.heap[b]? = V.heap[b]?) :
    V'.cell? ⟨b, off, none⟩ = some u0 ∧ V'.cell? ⟨b, off + 1, none⟩ = some u1 ∧ V'.cell? ⟨b, off + 2, none⟩ = some u2 ∧ V'.cell? ⟨b, off + 3, none⟩ = some u3 :=
  ⟨(World.cell?_of_block hb).trans h0, (World.cell?_of_block hb).trans h1, (World.cell?_of_block hb).trans h2, (World.cell?_of_block hb).trans h3⟩
set_option maxRecDepth 100000 in
set_option maxHeartbeats 2000000 in
theorem walk1_any {m l : Nat} {SS : Nat → Prop} {t : Tr} {J : List Sp → World → Prop} {Jx : World → Prop} (w : World) (hB : WBody Tryd.prog m l w.heap.size SS (spF 1 (rootF t)) J Jx) (HB BB : Nat) (hw : WalkAt w SS t HB BB) (hSS : ∀ x, SS x → CellsB w x) (hsz : foSize t.kids + 1 ≤ 5000) (h0 : J [] w) :
    Calls Tryd.prog 41 #[.func (.yield l) #[] #[], .pointer (some ⟨HB, 0, none⟩), .pointer (some ⟨BB, 0, none⟩)] w fun e V => (∃ v, e = .returned v) ∧ (J (spF 1 (rootF t)) V ∨ Jx V) := by
  obtain ⟨hb0, ka, kc, hh0, hkc, hk⟩ := hw
  obtain ⟨n, hn⟩ : ∃ n, n = foLen t.kids := ⟨_, rfl⟩
  rw [← hn] at hh0
  have b0 : w.cell? ⟨BB, 0, none⟩ = some (.bool false) := by rw [cell_of_row _ _ 0 _ _ _ hb0]; rfl
  have c0 : w.cell? ⟨HB, 0, none⟩ = some (.int .i64 t.id) := by rw [cell_of_row _ _ 0 _ _ _ hh0]; rfl
  have c1 : w.cell? ⟨HB, 1, none⟩ = some (.int .i64 t.kind) := by rw [cell_of_row _ _ 1 _ _ _ hh0]; rfl
  have c2 : w.cell? ⟨HB, 2, none⟩ = some (.string t.text) := by rw [cell_of_row _ _ 2 _ _ _ hh0]; rfl
  have c3 : w.cell? ⟨HB, 3, none⟩ = some (.slice ka n kc) := by rw [cell_of_row _ _ 3 _ _ _ hh0]; rfl
  have hBl := lt_of_heap hb0
  have hHl := lt_of_heap hh0
  have b1 : (((w.alloc (.cells #[.func (.yield l) #[] #[]] 77)).alloc (.cells #[.int .i64 t.id, .int .i64 t.kind, .string t.text, .slice ka n kc] 25)).alloc (.cells #[.func (.func 39) #[] #[]] 76)).cell? ⟨BB, 0, none⟩ = some (.bool false) := by
    refine (World.cell?_of_block ?_).trans b0
    rw [Below.heap_alloc _ _ _ (by simp only [World.size_alloc]; omega), Below.heap_alloc _ _ _ (by simp only [World.size_alloc]; omega), Below.heap_alloc _ _ _ hBl]
  have H := Lib.hid (And.intro hkc (And.intro hk (And.intro hn (And.intro hSS (And.intro hsz h0)))))
  clear hb0 hh0 hkc hk hn hSS hsz h0
  refine (callsIn_wide (n := 9)).1 ?_
  refine callsIn_of_wp_marks Tryd.func41 rfl trivial ?_ rfl
  simp only [Tryd.ntmps41, List.size_toArray, List.length_cons, List.length_nil, Nat.reduceAdd, Nat.reduceSub, Array.replicate_succ, Array.replicate_zero, List.push_toArray, List.append_toArray, List.nil_append, List.cons_append]
  gi_wp2_with (refine ⟨trivial, ?_⟩; gi_at_call 29; refine (callsIn_wide.2 (each_fn _ _ _ _)).mono ?_; rintro e w' ⟨rfl, rfl⟩)
  have hfw := w5_facts w #[.int .i64 t.id, .int .i64 t.kind, .string t.text, .slice ka n kc] (.func (.yield l) #[] #[]) (.func (.func 39) #[] #[]) (.slice (some ⟨w.heap.size + 1 + 1 + 1, 0, none⟩) 1 1)
  revert hfw
  generalize World.alloc _ _ = W
  rintro ⟨k1, k2, k3, k4, k5, k6⟩
  clear b0 b1 c0 c1 c2 c3
  have hlt : ∀ x, SS x → x < w.heap.size := fun x hx => (H.out.2.2.2.1 x hx).lt
  have hroot := root_lies (fun x hx => k2.block x (hlt x hx)) H.out.1 H.out.2.1 (by rw [← H.out.2.2.1]; exact k5)
  refine range_tree (by omega) rfl ⟨1, some ⟨w.heap.size + 1 + 1 + 1, 0, none⟩, 1, rootF t⟩ rfl (by simp [rootF]) (by simp [rootF, foLen]) (by rw [rootF_size]; have := H.out.2.2.2.2.1; omega) (by rw [cell_of_row _ _ 0 _ _ _ k6]; rfl) rfl (fun x => SS x ∨ x = w.heap.size + 1 + 1 + 1) (fun x hx => by rcases hx with hx | hx; have := hlt x hx; omega; omega) hroot
    (W1R w W SS J) (fun c _ V => c = .ret ∧ Jx V ∧ W.heap.size ≤ V.heap.size) (fun h hT ht _ => h.turn hB (by omega) hlt hT ht) (fun {c T T' V V'} h hT ht _ => ⟨h.1, hB.turnx h.2.1 ⟨ht.os, ht.tape, ht.output, ht.size, fun x hx => ht.block x (by have := h.2.2; omega) (fun hh => by rcases hh with hh | hh; have := hT x hh; omega; omega)⟩, Nat.le_trans h.2.2 ht.size⟩) ⟨hB.turn H.out.2.2.2.2.2 k2, Nat.le_refl _, fun _ _ _ => rfl, fun x hx => k2.block x (hlt x hx)⟩ ?round ?done ?stop
  case done =>
    rintro D T V hD hI hK
    have HE : Hid (J (spF 1 (rootF t)) (V.putObj D (.deferred none))) := Lib.hid (hB.turn hI.1 ⟨rfl, rfl, rfl, by simp [World.putObj], fun x hx => World.putObj_heap_other (by omega)⟩)
    clear hI k1 k2 k3 k4 k5 k6 H hlt hroot hBl hHl hB hD
    gi_wp2
    refine ⟨by simp, .inl ⟨_, _, rfl, run_takeDeferred hK, ?_⟩⟩
    exact ⟨_, results_none rfl _ _ _, ⟨_, rfl⟩, .inl HE.out⟩
  case stop =>
    rintro D c T V hD ⟨rfl, hx, hs⟩ hK
    have HE : Hid (Jx (V.putObj D (.deferred none))) := Lib.hid (hB.turnx hx ⟨rfl, rfl, rfl, by simp [World.putObj], fun x hx => World.putObj_heap_other (by omega)⟩)
    clear hx k1 k2 k3 k4 k5 k6 H hlt hroot hBl hHl hB hD
    gi_wp2
    refine ⟨by simp, .inl ⟨_, _, rfl, run_takeDeferred hK, ?_⟩⟩
    exact ⟨_, results_none rfl _ _ _, ⟨_, rfl⟩, .inr HE.out⟩
  case round =>
    rintro l2 hl2 T pre rest d key k V b off kcc ka2 hT hV htot hb d0 d1 d2 d3 d4 dk hR K hK
    obtain ⟨n2, hn2⟩ : ∃ n2, n2 = foLen k := ⟨_, rfl⟩
    rw [← hn2] at d3 d4
    have hks : foSize k + 1 ≤ 5000 := by
      have h1 := congrArg List.length htot
      have h2 := spF_length 1 (rootF t)
      have h3 := H.out.2.2.2.2.1
      have h4 : (d, key, k) ∈ spF 1 (rootF t) := by rw [htot]; simp
      have h5 := spF_size 1 (rootF t) _ h4
      rw [rootF_size] at h5; simp only at h5; omega
    have HR := Lib.hid (And.intro hR (And.intro hT (And.intro hV (And.intro htot (And.intro hb (And.intro dk (And.intro hn2 (And.intro hks (And.intro hl2 d4)))))))))
    have HK := Lib.hid hK
    have HC := Lib.hid (fun (V' : World) (hh : V'.heap[b]? = V.heap[b]?) => cellsOfs d0 d1 d2 d3 hh)
    have HW := Lib.hid (And.intro k1 (And.intro k2 (And.intro k3 (And.intro k4 k5))))
    clear hR hT hV htot hb dk hn2 hks hl2 d4 hK d0 d1 d2 d3 k1 k2 k3 k4 k5 k6 hroot hBl hHl
    gi_wp2
    refine HK.out _ fun V1 hV1 => ?_
    clear HK
    obtain ⟨o', ev, o, ho, hoc⟩ := hV1
    have hS1 := HW.out.1
    have hV1s : ∀ x, x < W.heap.size → V1.heap[x]? = V.heap[x]? := fun x hx => by rw [ev]; exact World.putObj_heap_other (by have := HR.out.2.2.2.2.2.2.2.2.1; omega)
    have hsz1 : V1.heap.size = V.heap.size := by rw [ev]; simp [World.putObj]
    have hSl : ∀ x, (SS x ∨ x = w.heap.size + 1 + 1 + 1) → x < W.heap.size := fun x hx => by rcases hx with hx | hx; have := hlt x hx; omega; omega
    have hJ1 : J pre V1 := by rw [ev]; exact hB.turn HR.out.1.1 ⟨rfl, rfl, rfl, by simp [World.putObj], fun x hx => World.putObj_heap_other (by have := HR.out.2.2.2.2.2.2.2.2.1; omega)⟩
    have hSc : ∀ x, (SS x ∨ x = w.heap.size + 1 + 1 + 1) → CellsB V1.drew x := fun x hx => by
      rcases hx with hx | hx
      · obtain ⟨cs, ty, fr, hc⟩ := H.out.2.2.2.1 x hx
        exact ⟨cs, ty, fr, (hV1s x (hSl x (Or.inl hx))).trans ((HR.out.1.2.2.2 x hx).trans hc)⟩
      · rw [hx]; exact ⟨_, _, _, (hV1s _ (hSl _ (Or.inr rfl))).trans ((HR.out.1.2.2.1 _ (by omega) (by omega)).trans HW.out.2.2.2.2)⟩
    have y0 : V1.cell? ⟨w.heap.size, 0, none⟩ = some (.func (.yield l) #[] #[]) := by rw [cell_of_row _ _ 0 _ _ _ ((hV1s _ (by omega)).trans ((HR.out.1.2.2.1 _ (by omega) (by omega)).trans HW.out.2.2.1))]; rfl
    have y1 : V1.cell? ⟨w.heap.size + 1 + 1, 0, none⟩ = some (.func (.func 39) #[] #[]) := by rw [cell_of_row _ _ 0 _ _ _ ((hV1s _ (by omega)).trans ((HR.out.1.2.2.1 _ (by omega) (by omega)).trans HW.out.2.2.2.1))]; rfl
    obtain ⟨e0, e1, e2, e3⟩ := HC.out V1 (hV1s b (hSl b HR.out.2.2.2.2.1))
    have hcp := copy_any V1.drew (fun x => SS x ∨ x = w.heap.size + 1 + 1 + 1) (.agg #[.int .i64 key.1, .int .i64 key.2.1, .string key.2.2, .slice ka2 n2 kcc]) (trOf (d, key, k)) hSc ⟨ka2, kcc, by simp only [trOf]; rw [HR.out.2.2.2.2.2.2.1], by have := HR.out.2.2.2.2.2.2.2.2.2; have h7 := HR.out.2.2.2.2.2.2.1; simp only [trOf]; omega, HR.out.2.2.2.2.2.1.kept (w' := V1.drew) fun x hx => ⟨hx, show V1.heap[x]? = V.heap[x]? from hV1s x (hSl x hx)⟩⟩ (by have := HR.out.2.2.2.2.2.2.2.1; simp only [trOf]; omega)
    have hnext : ∀ (V3 : World) (v : Value), TrAt V3 (fun x => CellsB V3 x ∧ ((SS x ∨ x = w.heap.size + 1 + 1 + 1) ∨ V1.drew.heap.size ≤ x)) v (trOf (d, key, k)) → Below V1.drew.heap.size V1.drew V3 → YieldAt Fence.wide 6 Tryd.prog l #[.int .i64 (d : Int), v] V3 fun e V4 =>
        ∃ bb, e = .returned (.bool bb) ∧ (V3.heap.size ≤ V4.heap.size ∧ (∀ y, (w.heap.size ≤ y ∨ SS y) → y < V3.heap.size → V4.heap[y]? = V3.heap[y]?)) ∧ (bb = true → J (pre ++ [(d, key, k)]) V4) ∧ (bb = false → Jx V4) := fun V3 v hv hb3 => by
      have hs3 : V1.heap.size ≤ V3.heap.size := hb3.size
      have hJ3 := hB.turn hJ1 (V' := V3) ⟨hb3.os, hb3.tape, hb3.output, hb3.size, fun x hx => hb3.block x (by show x < V1.heap.size; have := HR.out.2.2.1; omega)⟩
      refine YieldAt.mono (YieldAt.anyDepthW 6 (hB.yield (x := (d, key, k)) HR.out.2.2.2.1 hJ3 (by have := HR.out.2.2.1; omega) (hv.kept fun x hx => ⟨⟨hx.1, ?_⟩, rfl⟩))) fun e V4 h => ?_
      · rcases hx.2 with (h | h) | h
        · exact Or.inl h
        · exact Or.inr (by omega)
        · have h8 : V1.heap.size ≤ x := h
          exact Or.inr (by have := HR.out.2.2.1; omega)
      · rcases h with ⟨hk, ⟨he, hj⟩ | ⟨he, hj⟩⟩
        · exact ⟨true, he, hk, fun _ => hj, fun e => by cases e⟩
        · exact ⟨false, he, hk, fun e => (by cases e), fun _ => hj⟩
    have hend : ∀ V3 V4 : World, Below V1.drew.heap.size V1.drew V3 → (V3.heap.size ≤ V4.heap.size ∧ (∀ y, (w.heap.size ≤ y ∨ SS y) → y < V3.heap.size → V4.heap[y]? = V3.heap[y]?)) →
        KeepsFrom W.heap.size V1 V4 ∧ Kept T V1 V4 ∧ (∀ x, (SS x ∨ x = w.heap.size + 1 + 1 + 1) → V4.heap[x]? = V1.heap[x]?) ∧ (J (pre ++ [(d, key, k)]) V4 → W1R w W SS J (pre ++ [(d, key, k)]) T V4) ∧ W.heap.size ≤ V4.heap.size := fun V3 V4 hb3 ⟨hs4, hk4⟩ => by
      have hs3 : V1.heap.size ≤ V3.heap.size := hb3.size
      have hVs := HR.out.2.2.1
      have hkk : ∀ y, (w.heap.size ≤ y ∨ SS y) → y < V1.heap.size → V4.heap[y]? = V1.heap[y]? := fun y hy hl => (hk4 y hy (by omega)).trans (hb3.block y hl)
      refine ⟨⟨by omega, fun x o hx ho _ => by have hl := lt_of_heap ho; rw [hkk x (Or.inl (by omega)) hl]; exact ho⟩, ⟨by omega, fun x hx => hkk x (Or.inl (by have := (HR.out.2.1 x hx).2; omega)) (by have := (HR.out.2.1 x hx).1; omega)⟩, fun x hx => hkk x (by rcases hx with hx | hx; exact Or.inr hx; exact Or.inl (by omega)) (by have := hSl x hx; omega), fun hj => ⟨hj, by omega, fun x a1 a2 => ?_, fun x hx => ?_⟩, by omega⟩
      · rw [hkk x (Or.inl a1) (by omega), hV1s x a2]; exact HR.out.1.2.2.1 x a1 a2
      · have h9 := hlt x hx
        rw [hkk x (Or.inr hx) (by omega), hV1s x (by omega)]; exact HR.out.1.2.2.2 x hx
    have HCP := Lib.hid hcp
    have HN := Lib.hid (And.intro hnext hend)
    clear hcp hnext hend hJ1 hSc hV1s hsz1 hSl ev ho hoc hS1 H hlt HC
    obtain ⟨SX, hSX⟩ : ∃ SX : World → Prop, SX = fun X => X.cell? ⟨w.heap.size, 0, none⟩ = some (.func (.yield l) #[] #[]) ∧ X.cell? ⟨w.heap.size + 1 + 1, 0, none⟩ = some (.func (.func 39) #[] #[]) ∧ X.cell? ⟨b, off, none⟩ = some (.int .i64 key.1) ∧ X.cell? ⟨b, off + 1, none⟩ = some (.int .i64 key.2.1) ∧ X.cell? ⟨b, off + 2, none⟩ = some (.string key.2.2) ∧ X.cell? ⟨b, off + 3, none⟩ = some (.slice ka2 n2 kcc) := ⟨_, rfl⟩
    have HSx : ∀ X, SX X → X.cell? ⟨w.heap.size, 0, none⟩ = some (.func (.yield l) #[] #[]) ∧ X.cell? ⟨w.heap.size + 1 + 1, 0, none⟩ = some (.func (.func 39) #[] #[]) ∧ X.cell? ⟨b, off, none⟩ = some (.int .i64 key.1) ∧ X.cell? ⟨b, off + 1, none⟩ = some (.int .i64 key.2.1) ∧ X.cell? ⟨b, off + 2, none⟩ = some (.string key.2.2) ∧ X.cell? ⟨b, off + 3, none⟩ = some (.slice ka2 n2 kcc) := fun X h => by rw [hSX] at h; exact h
    have hS0 : SX V1.drew := by rw [hSX]; exact ⟨y0, y1, e0, e1, e2, e3⟩
    have hSB : ∀ V3, Below V1.drew.heap.size V1.drew V3 → SX V3 := fun V3 hb3 => by
      have hb : b < V1.heap.size := World.block_lt_of_cell? _ _ e0
      have h0 : w.heap.size < V1.heap.size := World.block_lt_of_cell? _ _ y0
      have h1 : w.heap.size + 1 + 1 < V1.heap.size := World.block_lt_of_cell? _ _ y1
      rw [hSX]
      exact ⟨(World.cell?_of_block (hb3.block _ h0)).trans y0, (World.cell?_of_block (hb3.block _ h1)).trans y1, (World.cell?_of_block (hb3.block _ hb)).trans e0, (World.cell?_of_block (hb3.block _ hb)).trans e1, (World.cell?_of_block (hb3.block _ hb)).trans e2, (World.cell?_of_block (hb3.block _ hb)).trans e3⟩
    have hSY : ∀ V3 V4 : World, SX V3 → (∀ y, (w.heap.size ≤ y ∨ SS y) → y < V3.heap.size → V4.heap[y]? = V3.heap[y]?) → SX V4 := fun V3 V4 h3 hk => by
      have h3' := HSx V3 h3
      obtain ⟨q0, q1, q2, q3, q4, q5⟩ := h3'
      have hbb : w.heap.size ≤ b ∨ SS b := by
        rcases HR.out.2.2.2.2.1 with h | h
        · exact Or.inr h
        · exact Or.inl (by omega)
      have kb := hk b hbb (World.block_lt_of_cell? _ _ q2)
      rw [hSX]
      exact ⟨(World.cell?_of_block (hk _ (Or.inl (Nat.le_refl _)) (World.block_lt_of_cell? _ _ q0))).trans q0, (World.cell?_of_block (hk (w.heap.size + 1 + 1) (Or.inl (by omega)) (World.block_lt_of_cell? _ _ q1))).trans q1, (World.cell?_of_block kb).trans q2, (World.cell?_of_block kb).trans q3, (World.cell?_of_block kb).trans q4, (World.cell?_of_block kb).trans q5⟩
    have HSQ := Lib.hid (And.intro hSB hSY)
    clear hSB hSY hSX y0 y1 e0 e1 e2 e3
    gi_wp2
    refine region_round (S := SX) (by kernel_rfl) (noDefer (by kernel_rfl)) ?_
    have hHeld := hS0
    clear hS0
    refine anyIn_take (i := 0) (oi := _) (v := .func (.yield l) #[] #[]) rfl (by kernel_rfl) (by kernel_rfl) (by kernel_rfl) (fun _ _ _ h => h) (Or.inl ⟨by rfl, ?_⟩) hHeld ?_
    · clear hHeld; intro X hSw; obtain ⟨s0, s1, s2, s3, s4, s5⟩ := HSx X hSw; clear hSw; go_simp
    simp only [Act.put, List.getElem_toArray, List.getElem_cons_zero, List.getElem_cons_succ, List.setIfInBounds_toArray, List.set_cons_zero, List.set_cons_succ]
    refine anyIn_take (i := 1) (oi := _) (v := .int .i64 (d : Int)) rfl (by kernel_rfl) (by kernel_rfl) (by kernel_rfl) (fun _ _ _ h => h) (Or.inl ⟨by rfl, ?_⟩) hHeld ?_
    · clear hHeld; intro X hSw; obtain ⟨s0, s1, s2, s3, s4, s5⟩ := HSx X hSw; clear hSw; go_simp
    simp only [Act.put, List.getElem_toArray, List.getElem_cons_zero, List.getElem_cons_succ, List.setIfInBounds_toArray, List.set_cons_zero, List.set_cons_succ]
    refine anyIn_take (i := 2) (oi := _) (v := .func (.func 39) #[] #[]) rfl (by kernel_rfl) (by kernel_rfl) (by kernel_rfl) (fun _ _ _ h => h) (Or.inl ⟨by rfl, ?_⟩) hHeld ?_
    · clear hHeld; intro X hSw; obtain ⟨s0, s1, s2, s3, s4, s5⟩ := HSx X hSw; clear hSw; go_simp
    simp only [Act.put, List.getElem_toArray, List.getElem_cons_zero, List.getElem_cons_succ, List.setIfInBounds_toArray, List.set_cons_zero, List.set_cons_succ]
    refine anyIn_take (i := 3) (oi := _) (v := .pointer (some ⟨b, off, none⟩)) rfl (by kernel_rfl) (by kernel_rfl) (by kernel_rfl) (fun _ _ _ h => h) (Or.inl ⟨by rfl, ?_⟩) hHeld ?_
    · clear hHeld; intro X hSw; obtain ⟨s0, s1, s2, s3, s4, s5⟩ := HSx X hSw; clear hSw; go_simp
    simp only [Act.put, List.getElem_toArray, List.getElem_cons_zero, List.getElem_cons_succ, List.setIfInBounds_toArray, List.set_cons_zero, List.set_cons_succ]
    refine anyIn_take (i := 4) (oi := _) (v := .pointer (some ⟨b, off, none⟩)) rfl (by kernel_rfl) (by kernel_rfl) (by kernel_rfl) (fun _ _ _ h => h) (Or.inl ⟨by rfl, ?_⟩) hHeld ?_
    · clear hHeld; intro X hSw; obtain ⟨s0, s1, s2, s3, s4, s5⟩ := HSx X hSw; clear hSw; go_simp
    simp only [Act.put, List.getElem_toArray, List.getElem_cons_zero, List.getElem_cons_succ, List.setIfInBounds_toArray, List.set_cons_zero, List.set_cons_succ]
    refine anyIn_take (i := 5) (oi := _) (v := .agg #[.int .i64 key.1, .int .i64 key.2.1, .string key.2.2, .slice ka2 n2 kcc]) rfl (by kernel_rfl) (by kernel_rfl) (by kernel_rfl) (fun _ _ _ h => h) (Or.inl ⟨by rfl, ?_⟩) hHeld ?_
    · clear hHeld; intro X hSw; obtain ⟨s0, s1, s2, s3, s4, s5⟩ := HSx X hSw; clear hSw; go_simp
    simp only [Act.put, List.getElem_toArray, List.getElem_cons_zero, List.getElem_cons_succ, List.setIfInBounds_toArray, List.set_cons_zero, List.set_cons_succ]
    refine anyIn_one (i := 6) (o := _) (by kernel_rfl) rfl fun K6 hK6 => ?_
    rw [if_pos (by rfl)]
    simp only [List.getElem_toArray, List.getElem_cons_zero, List.getElem_cons_succ]
    have HK6 := Lib.hid hK6
    clear hK6 hHeld
    gi_wp2_with (refine ⟨trivial, ?_⟩; gi_at_call 39; refine (callsIn_wide.2 HCP.out).mono ?_; rintro e V3 ⟨v, rfl, hv, hb3⟩; have HV3 := Lib.hid (And.intro hv hb3); clear hv hb3)
    have hS3 := HSQ.out.1 V3 HV3.out.2
    refine HK6.out _ _ hS3 ?_
    clear HK6
    obtain ⟨fn, tmps, asg, bdy, hy, hRd⟩ := HN.out.1 V3 v HV3.out.1 HV3.out.2
    have HRD := Lib.hid hRd
    clear hRd
    refine anyIn_one (i := 7) (o := _) (by kernel_rfl) rfl fun K7 hK7 => ?_
    rw [if_pos (by rfl)]
    simp only [List.getElem_toArray, List.getElem_cons_zero, List.getElem_cons_succ]
    have HK7 := Lib.hid hK7
    have HS3 := Lib.hid hS3
    clear hK7 hS3
    gi_wp2
    refine HRD.out.mono ?_
    rintro e V4 ⟨bb, rfl, hk4, ht4, hf4⟩
    have hHeld := HSQ.out.2 V3 V4 HS3.out hk4.2
    refine HK7.out _ _ hHeld ?_
    clear HK7 HRD hy
    refine anyIn_take (i := 8) (oi := _) (v := .bool (!bb)) rfl (by kernel_rfl) (by kernel_rfl) (by kernel_rfl) (fun _ _ _ h => h) (Or.inl ⟨by rfl, ?_⟩) hHeld ?_
    · clear hHeld; intro X hSw; clear hSw; go_simp
    simp only [Act.put, List.getElem_toArray, List.getElem_cons_zero, List.getElem_cons_succ, List.setIfInBounds_toArray, List.set_cons_zero, List.set_cons_succ]
    refine anyIn_done (by kernel_rfl) ?_ _
    clear hHeld
    have HE := Lib.hid (HN.out.2 V3 V4 HV3.out.2 hk4)
    have HK4 := Lib.hid (And.intro ht4 hf4)
    clear hk4 ht4 hf4
    cases bb
    · gi_wp2
      exact ⟨HE.out.1, HE.out.2.1, HE.out.2.2.1, .inr (.inl ⟨rfl, rfl, HK4.out.2 (by trivial), HE.out.2.2.2.2⟩)⟩
    · gi_wp2
      exact ⟨HE.out.1, HE.out.2.1, HE.out.2.2.1, .inl ⟨rfl, HE.out.2.2.2.1 (HK4.out.1 (by trivial))⟩⟩
end Go.Proofs.YteccnekdmehloaaDoor
