/-
  .
-/
import Derived.Test.YtchccbfljamjnaaGreatGRiseQm
import Derived.Test.YtchccbfljamjnaaGreatJPgQm
set_option maxRecDepth 100000
set_option maxHeartbeats 40000000
namespace Go.Proofs.YtchccbfljamjnaaGreat
open Go.RowKit Go.Shelf
attribute [local go_sem] Oper.semAt_some
set_option linter.unusedVariables false
def Qp (w : World) (CB : Nat) (f : List Sp → Int) (pre : List Sp) (_ : Nat → Prop) (V : World) : Prop := V.heap[CB]? = some (.cells #[.int .i64 (f pre)] 3 (0, 0)) ∧ Below w.heap.size w V
theorem Qp.turn {w w1 V V' : World} {CB : Nat} {f : List Sp → Int} {pre : List Sp} {T T' : Nat → Prop} (hw : w.heap.size ≤ w1.heap.size) (hC : CB < w1.heap.size) (h : Qp w CB f pre T V) (hT : ∀ x, T x → w1.heap.size ≤ x) (ht : za V V' (fun x => T x ∨ (w1.heap.size ≤ x ∧ yT V x))) : Qp w CB f pre T' V' := by
 have hk : ∀ x, x < w1.heap.size → x < V.heap.size → V'.heap[x]? = V.heap[x]? := fun x hx hv => ht.block x hv (fun h => by
  rcases h with h | h
  · have := hT x h; omega
  · omega)
 refine ⟨(hk CB hC (lt_of_heap h.1)).trans h.1, ht.os.trans h.2.os, ht.tape.trans h.2.tape, ht.output.trans h.2.output, Nat.le_trans h.2.size ht.size, fun x hx => ?_⟩
 rw [hk x (by omega) (by have := h.2.size; omega)]; exact h.2.block x hx
theorem J4 (w : World) (cs : Array Value) (v : Value) (x : Value) :
 ((((w.alloc (.cells cs 35)).alloc (.cells #[x] 3)).alloc (.cells cs 35)).alloc (.cells #[v] 33)).heap.size = w.heap.size + 4 ∧
 Below w.heap.size w ((((w.alloc (.cells cs 35)).alloc (.cells #[x] 3)).alloc (.cells cs 35)).alloc (.cells #[v] 33)) ∧
 ((((w.alloc (.cells cs 35)).alloc (.cells #[x] 3)).alloc (.cells cs 35)).alloc (.cells #[v] 33)).heap[w.heap.size + 1]? = some (.cells #[x] 3 (0, 0)) ∧
 ((((w.alloc (.cells cs 35)).alloc (.cells #[x] 3)).alloc (.cells cs 35)).alloc (.cells #[v] 33)).heap[w.heap.size + 1 + 1]? = some (.cells cs 35 (0, 0)) ∧
 ((((w.alloc (.cells cs 35)).alloc (.cells #[x] 3)).alloc (.cells cs 35)).alloc (.cells #[v] 33)).heap[w.heap.size + 1 + 1 + 1]? = some (.cells #[v] 33 (0, 0)) := by
 refine ⟨by simp, ?_, ?_, ?_, ?_⟩
 · exact ((((Below.refl _ w).alloc (Nat.le_refl _) _).alloc (by simp only [World.size_alloc]; omega) _).alloc (by simp only [World.size_alloc]; omega) _).alloc (by simp only [World.size_alloc]; omega) _
 · rw [Below.heap_alloc _ _ _ (by simp only [World.size_alloc]; omega), Below.heap_alloc _ _ _ (by simp only [World.size_alloc]; omega)]
   have := heap_alloc_new (w.alloc (.cells cs 35)) (.cells #[x] 3)
   rw [World.size_alloc] at this; exact this
 · rw [Below.heap_alloc _ _ _ (by simp only [World.size_alloc]; omega)]
   have := heap_alloc_new ((w.alloc (.cells cs 35)).alloc (.cells #[x] 3)) (.cells cs 35)
   rw [World.size_alloc, World.size_alloc] at this; exact this
 · have := heap_alloc_new (((w.alloc (.cells cs 35)).alloc (.cells #[x] 3)).alloc (.cells cs 35)) (.cells #[v] 33)
   rw [World.size_alloc, World.size_alloc, World.size_alloc] at this; exact this
theorem zas {w w1 V : World} {CB D : Nat} {f : List Sp → Int} {pre : List Sp} {T : Nat → Prop} (h : Qp w CB f pre T V) (hD : w1.heap.size ≤ D) (hw : w.heap.size ≤ w1.heap.size) (o : Obj) (hK : V.heap[D]? = some o) : Below w.heap.size w (V.putObj D (.deferred none)) :=
 ⟨h.2.os, h.2.tape, h.2.output, by have := h.2.size; simp [World.putObj]; exact this, fun x hx => by rw [World.putObj_heap_other (by omega)]; exact h.2.block x hx⟩
theorem QC (w : World) (S : Nat → Prop) (nv : Value) (t : Tr) (hS : ∀ x, S x → x < w.heap.size) (ht : qj w S nv t) (hsz : zb t.kids + 1 ≤ 500000) : Calls Tryz.prog 164 #[nv] w (zbn w (vw (spF 1 (zX t)))) := by
 obtain ⟨ka, cap, rfl, hcap, hk⟩ := ht
 obtain ⟨n, hn⟩ : ∃ n, n = foLen t.kids := ⟨_, rfl⟩
 rw [← hn]
 obtain ⟨k1, k2, k3, k4, k5⟩ := J4 w #[.int .i64 t.id, .int .i64 t.kind, .string t.text, .slice ka n cap] (.slice (some ⟨w.heap.size + 1 + 1, 0, none⟩) 1 1) (.int .i64 0)
 have HW := hH (aN k1 (aN k2 (aN k3 (aN k4 k5))))
 have H := hH (aN hS (aN hcap (aN hk (aN hsz hn))))
 clear hS hcap hk hsz hn k1 k2 k3 k4 k5
 refine (callsIn_wide (n := 6)).1 ?_
 refine callsIn_of_wp_marks Tryz.func164 rfl trivial ?_ rfl
 simp only [Tryz.ntmps164, List.size_toArray, List.length_cons, List.length_nil, Nat.reduceAdd, Nat.reduceSub, Array.replicate_succ, Array.replicate_zero, List.push_toArray, List.append_toArray, List.nil_append, List.cons_append]
 gi_wp2_with (refine ⟨trivial, ?_⟩; gi_at_call 97; refine (callsIn_wide.2 (Y9 _ _ _ _)).mono ?_; rintro e w' ⟨rfl, rfl⟩)
 generalize hW : World.alloc _ _ = W at HW ⊢
 clear hW
 obtain ⟨k1, k2, k3, k4, k5⟩ := HW.out
 have hSW : ∀ x, S x → W.heap[x]? = w.heap[x]? := fun x hx => k2.block x (H.out.1 x hx)
 have hroot := kW hSW H.out.2.1 H.out.2.2.1 (by rw [← H.out.2.2.2.2]; exact k4)
 refine jY (by omega) rfl ⟨1, some ⟨w.heap.size + 1 + 1, 0, none⟩, 1, zX t⟩ rfl (by simp [zX]) (by simp [zX, foLen]) (by rw [yx]; exact H.out.2.2.2.1) (by rw [cell_of_row _ _ 0 _ _ _ k5]; rfl) rfl (fun x => S x ∨ x = w.heap.size + 1 + 1) (fun x hx => by rcases hx with hx | hx; have := H.out.1 x hx; omega; omega) hroot
  (Qp w (w.heap.size + 1) vw) (fun _ _ _ => False) (fun h hT ht _ => h.turn (by omega) (by omega) hT ht) (fun h _ _ _ => h.elim) ⟨k3, k2⟩ ?round ?done ?stop
 case done =>
  rintro D T V hD hI hK
  have c0 : V.cell? ⟨w.heap.size + 1, 0, none⟩ = some (.int .i64 (vw (spF 1 (zX t)))) := by rw [cell_of_row _ _ 0 _ _ _ hI.1]; rfl
  have HE := hH (zas hI hD (by omega) _ hK)
  clear hI HW H k1 k2 k3 k4 k5 hSW hroot
  gi_wp2
  refine ⟨by simp, .inl ⟨_, _, rfl, run_takeDeferred hK, ?_⟩⟩
  exact ⟨_, results_tmp rfl _ _ _, rfl, HE.out⟩
 case stop => exact fun _ _ _ _ _ h _ => h.elim
 case round =>
  rintro l hl T pre rest d key k V b off kc ka2 hT hV htot hb d0 d1 d2 d3 d4 dk hR K hK
  have hpl : pre.length ≤ 500000 := by
   have := congrArg List.length htot
   rw [yz, yx, List.length_append] at this; have := H.out.2.2.2.1; omega
  have hb0 : 0 ≤ vw pre := by unfold vw; omega
  have hb1 : vw pre ≤ 500000 := by unfold vw; omega
  have HK := hH hK
  have HR := hH (aN hR (aN hT hV))
  have HZ := hH (aN k1 (aN hl hb))
  clear hR hK hT hV k1 k2 k3 k4 k5 hSW hroot HW htot d0 d1 d2 d3 d4 dk hl hb
  gi_wp2
  refine HK.out _ fun V1 hV1 => ?_
  obtain ⟨o', ev, o, ho, hoc⟩ := hV1
  have hC1 : V1.heap[w.heap.size + 1]? = some (.cells #[.int .i64 (vw pre)] 3 (0, 0)) := by
   rw [ev, World.putObj_heap_other (by have := HZ.out.2.1; have := HZ.out.1; omega)]; exact HR.out.1.1
  have hs1 : V1.heap.size = V.heap.size := by rw [ev]; simp [World.putObj]
  have hB1 : Below w.heap.size w V1 := by
   have h2 := HR.out.1.2
   rw [ev]
   exact ⟨h2.os, h2.tape, h2.output, by have := h2.size; simp [World.putObj]; exact this, fun x hx => by rw [World.putObj_heap_other (by have := HZ.out.2.1; have := HZ.out.1; omega)]; exact h2.block x hx⟩
  have hend : ∀ aa : Act, Zv W.heap.size T (fun x => S x ∨ x = w.heap.size + 1 + 1) (Qp w (w.heap.size + 1) vw) (fun _ _ _ => False) (pre ++ [(d, key, k)]) V1 .normal aa (V1.setCell ⟨w.heap.size + 1, 0, none⟩ (.int .i64 (vw pre + 1))) := by
   intro aa
   have hbk : ∀ x, x ≠ w.heap.size + 1 → (V1.setCell ⟨w.heap.size + 1, 0, none⟩ (.int .i64 (vw pre + 1))).heap[x]? = V1.heap[x]? := fun x hx => Below.heap_setCell _ _ _ _ hx
   have hk1 := HZ.out.1
   refine ⟨⟨by simp [World.setCell], fun x o hx ho _ => ?_⟩, ⟨by simp [World.setCell], fun x hx => hbk x (by have := (HR.out.2.1 x hx).2; omega)⟩, fun x hx => hbk x ?_, .inl ⟨rfl, ?_, hB1.setCell (p := ⟨w.heap.size + 1, 0, none⟩) (by simp) _⟩⟩
   · rw [hbk x (by omega)]; exact ho
   · rcases hx with hx | hx
     · have := H.out.1 x hx; omega
     · omega
   · rw [heap_setCell_same V1 (w.heap.size + 1) 0 _ _ _ hC1]
     simp [vw]
  have c0 : V1.cell? ⟨w.heap.size + 1, 0, none⟩ = some (.int .i64 (vw pre)) := by rw [cell_of_row _ _ 0 _ _ _ hC1]; rfl
  have f0 : V1.frozen? ⟨w.heap.size + 1, 0, none⟩ = false := frozen_of_row _ _ 0 _ _ hC1
  have HE := hH hend
  clear hend hC1 hB1 hs1 ev ho hoc
  gi_wp2
  all_goals first
   | exact HE.out _
   | (have h := HE.out; rw [Int.max_eq_right (by omega)] at h; exact h _)
   | (have h := HE.out; rw [Int.max_eq_left (by omega)] at h; exact h _)
end Go.Proofs.YtchccbfljamjnaaGreat
