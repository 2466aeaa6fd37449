/-
  The program's row of messages: its call take. No condition but that it lies where it is said to lie.
-/
import Derived.Test.YtklpafognbodhaaPAt
import Derived.Test.YtklpafognbodhaaPDel
namespace Go.Proofs.Ytklpafognbodhaa
open Go.RowKit

theorem sub_mid (a r : List PI) (x : PI) : ∀ p ∈ a ++ r, p ∈ a ++ x :: r := fun p hp => by
  rcases List.mem_append.1 hp with h | h
  · exact List.mem_append.2 (Or.inl h)
  · exact List.mem_append.2 (Or.inr (List.mem_cons_of_mem _ h))
theorem ptake_mid {w W2 w3 : World} {S : Nat → Prop} {nb : Nat} {a r : List PI} {x : PI} {g n cap : Nat} {e : Ending} (h0 : ∀ y, S y → y < w.heap.size) (h1 : S nb) (hg : Good (a ++ x :: r)) (h2 : w.heap[nb]? = some (.cells #[.slice (some ⟨g, 0, none⟩) n cap] 59 (0, 0))) (h4 : S g) (hng : nb ≠ g) (hn : n = a.length + 1 + r.length)
    (hb : Below w.heap.size w W2) (hB1 : W2.heap[w.heap.size]? = some (.cells #[.int .i8 0, .int .i64 0, .int .i64 0, .int .i64 0, .int .i64 0, .int .i64 0, .int .i64 0, .int .i64 0, .int .i64 0, .int .i64 0, .int .i64 0, .slice none 0 0, .int .i64 0, .int .i64 0, .string ⟨#[]⟩, .slice none 0 0] 40 (0, 0))) (hB2 : W2.heap[w.heap.size + 1]? = some (.cells x.cells.toArray 85 (0, 0))) (hd : DelC W2 g (n - 1) cap (pcells (a ++ r)) e w3) :
    e = .returned (.slice (some ⟨g, 0, none⟩) (n - 1) cap) ∧ w3.cell? ⟨nb, 0, none⟩ = some (.slice (some ⟨g, 0, none⟩) n cap) ∧ w3.frozen? ⟨nb, 0, none⟩ = false ∧
      MsgThere (w3.setCell ⟨nb, 0, none⟩ (.slice (some ⟨g, 0, none⟩) (n - 1) cap)) (w.heap.size + 1) 0 x.1 ∧ freeAt (w3.setCell ⟨nb, 0, none⟩ (.slice (some ⟨g, 0, none⟩) (n - 1) cap)) (.pointer (some ⟨w.heap.size, 0, none⟩)) = true ∧
      ((w3.setCell ⟨nb, 0, none⟩ (.slice (some ⟨g, 0, none⟩) (n - 1) cap)).setCells w.heap.size 0 x.1).heap[w.heap.size]? = some (.cells x.1.toArray 40 (0, 0)) ∧
      PC w S nb (a ++ r) (.agg x.1.toArray) (.returned (.agg x.1.toArray)) ((w3.setCell ⟨nb, 0, none⟩ (.slice (some ⟨g, 0, none⟩) (n - 1) cap)).setCells w.heap.size 0 x.1) := by
  obtain ⟨rfl, hown, hsz, ht⟩ := hd
  have hnb := h0 nb h1
  have hgb := h0 g h4
  have hs := hb.size
  have h16 := (hg x (by simp)).1
  have r2 : w3.heap[nb]? = some (.cells #[.slice (some ⟨g, 0, none⟩) n cap] 59 (0, 0)) := (ht.block nb (by omega) hng).trans ((hb.block nb hnb).trans h2)
  have r3 := heap_setCell_same w3 nb 0 _ _ (.slice (some ⟨g, 0, none⟩) (n - 1) cap) r2
  obtain ⟨W4, hW4⟩ : ∃ W4, W4 = w3.setCell ⟨nb, 0, none⟩ (.slice (some ⟨g, 0, none⟩) (n - 1) cap) := ⟨_, rfl⟩
  have k4 : ∀ y, y ≠ nb → W4.heap[y]? = w3.heap[y]? := fun y hy => by rw [hW4]; exact Below.heap_setCell _ _ _ _ hy
  have s4 : W4.heap.size = w3.heap.size := by rw [hW4]; simp [World.setCell]
  have hlt1 := lt_of_some hB1
  have hlt2 := lt_of_some hB2
  have b1 : W4.heap[w.heap.size]? = some (.cells #[.int .i8 0, .int .i64 0, .int .i64 0, .int .i64 0, .int .i64 0, .int .i64 0, .int .i64 0, .int .i64 0, .int .i64 0, .int .i64 0, .int .i64 0, .slice none 0 0, .int .i64 0, .int .i64 0, .string ⟨#[]⟩, .slice none 0 0] 40 (0, 0)) := (k4 _ (by omega)).trans ((ht.block _ hlt1 (by omega)).trans hB1)
  have b2 : W4.heap[w.heap.size + 1]? = some (.cells x.cells.toArray 85 (0, 0)) := (k4 _ (by omega)).trans ((ht.block _ hlt2 (by omega)).trans hB2)
  rw [← hW4] at r3
  rw [← hW4]
  have hst := setCells_block x.1 [] (#[.int .i8 0, .int .i64 0, .int .i64 0, .int .i64 0, .int .i64 0, .int .i64 0, .int .i64 0, .int .i64 0, .int .i64 0, .int .i64 0, .int .i64 0, .slice none 0 0, .int .i64 0, .int .i64 0, .string ⟨#[]⟩, .slice none 0 0] : Array Value).toList W4 (t := 40) (b := w.heap.size) (by simpa using b1) (by rw [h16]; rfl)
  have hfr := setCells_frame (b := w.heap.size) x.1 0 W4
  refine ⟨rfl, by rw [cell_of_row _ _ 0 _ _ _ r2]; rfl, frozen_of_row _ _ _ _ _ r2, there_msg b2 h16 (fun j u hj => ?_), freeAt_of b1 rfl, by simpa using hst, rfl, S, ⟨fun y hy => ?_, h1, hg.sub (sub_mid a r x), .slice (some ⟨g, 0, none⟩) (n - 1) cap, ?_, ?_, fun y hy => ?_⟩, ⟨?_, ?_, ?_, ?_, fun y hy hn => ?_⟩, fun _ hy => Or.inl hy⟩
  · have e : x.cells.toArray[0 + j]? = x.cells[j]? := by simp
    rw [e, PI.cells, List.getElem?_append_left (List.getElem?_eq_some_iff.1 hj).1]; exact hj
  · have := h0 y hy; rw [hfr.1]; omega
  · rw [hfr.2.2 nb (by omega), r3]; rfl
  · rw [show (a ++ r).length = n - 1 by rw [List.length_append]; omega]
    exact owns_kept hown (fun y cur hy hgo => by
      cases hgo
      rw [hfr.2.2 g (by omega), k4 g (Ne.symm hng)])
  · cases hy; exact h4
  · exact (hfr.2.1 0 (Nat.zero_le _)).os.trans (by rw [hW4]; exact ht.os.trans hb.os)
  · exact (hfr.2.1 0 (Nat.zero_le _)).tape.trans (by rw [hW4]; exact ht.tape.trans hb.tape)
  · exact (hfr.2.1 0 (Nat.zero_le _)).output.trans (by rw [hW4]; exact ht.output.trans hb.output)
  · rw [hfr.1]; omega
  · rw [hfr.2.2 y (by omega), k4 y (fun e => hn (by rw [e]; exact h1)), ht.block y (by omega) (fun e => hn (by rw [e]; exact h4)), hb.block y hy]

theorem box_stored' (w : World) (zs : Array Value) (t : TypeId) (vs : List Value) (h : zs.size = vs.length) (B : Nat) (hB : w.heap.size = B) :
    (w.alloc (.cells zs t)).there B 0 vs.toArray.size ∧ ((w.alloc (.cells zs t)).setCells B 0 vs).heap[B]? = some (.cells vs.toArray t (0, 0)) ∧
      ((w.alloc (.cells zs t)).setCells B 0 vs).heap.size = B + 1 ∧ Below B w ((w.alloc (.cells zs t)).setCells B 0 vs) ∧
      ∀ x, x < B → ((w.alloc (.cells zs t)).setCells B 0 vs).heap[x]? = w.heap[x]? := by
  subst hB; exact box_stored w zs t vs h

attribute [local go_sem ↓] loadM wpLoadM storeM wpStoreM
attribute [local go_sem] putAt_ptr
set_option maxRecDepth 100000 in
set_option maxHeartbeats 2000000 in
theorem ptake_any (w : World) (S : Nat → Prop) (nb : Nat) (a r : List PI) (x : PI) (k : Nat) (h : PRowAt w S nb (a ++ x :: r)) (hk : k = a.length) (hlen : (a ++ x :: r).length ≤ 1000000) :
    Calls Try.prog 37 #[.pointer (some ⟨nb, 0, none⟩), .int .i64 k] w (PC w S nb (a ++ r) (.agg x.1.toArray)) := by
  obtain ⟨h0, h1, hg, v, h2, h3, h4⟩ := h
  obtain ⟨n, hnl⟩ : ∃ n, n = (a ++ x :: r).length := ⟨_, rfl⟩
  rw [← hnl] at h3 hlen
  have hn : n = a.length + 1 + r.length := by rw [hnl, List.length_append, List.length_cons]; omega
  obtain ⟨g, cap, rfl, _⟩ := h3.form (by omega)
  have h4g := h4 g rfl
  have hng : nb ≠ g := fun e => owned_ne h3 h2 (by decide) (by rw [e]; rfl)
  have hx : (a ++ x :: r)[k]? = some x := by rw [hk]; simp
  have h3' := h3
  rw [hnl] at h3'
  obtain ⟨r1, r2, r3, r4, r5⟩ := PRowAt.range hg h3' hx
  have h16 := (hg x (by simp)).1
  have hxone := (hg x (by simp)).2
  obtain ⟨W0, hW0⟩ : ∃ W0, W0 = w.alloc (.cells #[.int .i8 0, .int .i64 0, .int .i64 0, .int .i64 0, .int .i64 0, .int .i64 0, .int .i64 0, .int .i64 0, .int .i64 0, .int .i64 0, .int .i64 0, .slice none 0 0, .int .i64 0, .int .i64 0, .string ⟨#[]⟩, .slice none 0 0] 40) := ⟨_, rfl⟩
  have e0 : W0.heap.size = w.heap.size + 1 := by rw [hW0]; simp
  have hbW : Below w.heap.size w W0 := by rw [hW0]; exact (Below.refl _ _).alloc (Nat.le_refl _) _
  have hnW : W0.heap[w.heap.size]? = some (.cells #[.int .i8 0, .int .i64 0, .int .i64 0, .int .i64 0, .int .i64 0, .int .i64 0, .int .i64 0, .int .i64 0, .int .i64 0, .int .i64 0, .int .i64 0, .slice none 0 0, .int .i64 0, .int .i64 0, .string ⟨#[]⟩, .slice none 0 0] 40 (0, 0)) := by rw [hW0]; exact heap_alloc_new w _
  have hlt := h0 nb h1
  have c0 : W0.cell? ⟨nb, 0, none⟩ = some (.slice (some ⟨g, 0, none⟩) n cap) := (hbW.cell (p := ⟨nb, 0, none⟩) hlt).trans (by rw [cell_of_row w _ 0 _ _ _ h2]; rfl)
  have hrng : W0.rangeAt g (k * 17) x.cells := fun j u hj => (hbW.cell (p := ⟨g, k * 17 + j, none⟩) r1).trans (r3 j u hj)
  have hone : x.cells.toArray.all (·.oneCell') = true := all_oneCell_toArray fun u hu => pcells_one hg u (List.mem_flatMap.2 ⟨x, by simp, hu⟩)
  have hbox := box_stored' W0 #[.int .i8 0, .int .i64 0, .int .i64 0, .int .i64 0, .int .i64 0, .int .i64 0, .int .i64 0, .int .i64 0, .int .i64 0, .int .i64 0, .int .i64 0, .slice none 0 0, .int .i64 0, .int .i64 0, .string ⟨#[]⟩, .slice none 0 0, .bool false] 85 x.cells (by rw [r2]; rfl) (w.heap.size + 1) e0
  have hb2 := hbW.trans (hbox.2.2.2.1.mono (by omega))
  have hB1 : ((W0.alloc (.cells #[.int .i8 0, .int .i64 0, .int .i64 0, .int .i64 0, .int .i64 0, .int .i64 0, .int .i64 0, .int .i64 0, .int .i64 0, .int .i64 0, .int .i64 0, .slice none 0 0, .int .i64 0, .int .i64 0, .string ⟨#[]⟩, .slice none 0 0, .bool false] 85)).setCells (w.heap.size + 1) 0 x.cells).heap[w.heap.size]? = some (.cells #[.int .i8 0, .int .i64 0, .int .i64 0, .int .i64 0, .int .i64 0, .int .i64 0, .int .i64 0, .int .i64 0, .int .i64 0, .int .i64 0, .int .i64 0, .slice none 0 0, .int .i64 0, .int .i64 0, .string ⟨#[]⟩, .slice none 0 0] 40 (0, 0)) := (hbox.2.2.2.2 _ (by omega)).trans hnW
  have hB2 : ((W0.alloc (.cells #[.int .i8 0, .int .i64 0, .int .i64 0, .int .i64 0, .int .i64 0, .int .i64 0, .int .i64 0, .int .i64 0, .int .i64 0, .int .i64 0, .int .i64 0, .slice none 0 0, .int .i64 0, .int .i64 0, .string ⟨#[]⟩, .slice none 0 0, .bool false] 85)).setCells (w.heap.size + 1) 0 x.cells).heap[w.heap.size + 1]? = some (.cells x.cells.toArray 85 (0, 0)) := hbox.2.1
  have c2 : ((W0.alloc (.cells #[.int .i8 0, .int .i64 0, .int .i64 0, .int .i64 0, .int .i64 0, .int .i64 0, .int .i64 0, .int .i64 0, .int .i64 0, .int .i64 0, .int .i64 0, .slice none 0 0, .int .i64 0, .int .i64 0, .string ⟨#[]⟩, .slice none 0 0, .bool false] 85)).setCells (w.heap.size + 1) 0 x.cells).cell? ⟨nb, 0, none⟩ = some (.slice (some ⟨g, 0, none⟩) n cap) := (World.cell?_of_block (hbox.2.2.2.2 nb (by omega))).trans c0
  have hown2 := owns_kept h3 (w' := (W0.alloc (.cells #[.int .i8 0, .int .i64 0, .int .i64 0, .int .i64 0, .int .i64 0, .int .i64 0, .int .i64 0, .int .i64 0, .int .i64 0, .int .i64 0, .int .i64 0, .slice none 0 0, .int .i64 0, .int .i64 0, .string ⟨#[]⟩, .slice none 0 0, .bool false] 85)).setCells (w.heap.size + 1) 0 x.cells) (fun y cur hy hgo => hb2.block y (lt_of_some hy))
  have hdel := pdel_any _ a r x g cap n k (k + 1) hg hn hk rfl hlen hown2
  have hmid := fun (w3 : World) (e : Ending) hd => ptake_mid (w3 := w3) (e := e) h0 h1 hg h2 h4g hng hn hb2 hB1 hB2 hd
  have HX := Lib.hid (And.intro hrng (And.intro hone (And.intro hbox.1 (And.intro r2 (And.intro hdel (And.intro hmid c2))))))
  have hmsg : isMsg (.agg x.1.toArray) = true := isMsg_agg h16 hxone
  have hi := Lib.hid (show (Try.prog.info? 40).map (·.size) = some x.1.toArray.size by rw [List.size_toArray, h16]; kernel_rfl)
  have hk0 : (0 : Int) ≤ (k : Int) := by omega
  have hki : (k : Int) < (n : Int) := by omega
  have hk1 : (k : Int) + 1 ≤ 9223372036854775807 := by omega
  clear h0 h1 hg h2 h3 h3' h4 h4g hng hx r1 r2 r3 r4 r5 h16 hxone e0 hbW hnW hlt hrng hone hbox hb2 hB1 hB2 c2 hown2 hdel hmid hnl hn hk
  subst hW0
  go_enter Try.func37, Try.ntmps37
  go_wp2_with (first
    | (with_reducible refine wpList_load_mid rfl 85 (.tmp 11) rfl g (k * 17) rfl x.cells _ HX.out.1 Try.underlying85 rfl (by rw [HX.out.2.2.2.1]; kernel_rfl) ?_)
    | ((with_reducible refine wpList_store_mid rfl 85 (.tmp 5) (.tmp 12) rfl (w.heap.size + 1) 0 x.cells.toArray rfl rfl HX.out.2.2.1 (by rw [List.size_toArray, HX.out.2.2.2.1]; kernel_rfl) HX.out.2.1 ?_); have hmid := Lib.hid HX.out.2.2.2.2.2.1; have hdel := Lib.hid HX.out.2.2.2.2.1; have c2 := HX.out.2.2.2.2.2.2; clear HX c0; generalize hW2 : World.setCells _ _ _ _ = W2 at hmid hdel c2 ⊢; clear hW2)
    | (go_at_call 53; refine hdel.out.mono ?_; rintro e w3 hd; obtain ⟨rfl, c3, f3, m3, v3, z3, p3⟩ := hmid.out w3 e hd; have HZ := Lib.hid (And.intro z3 p3); have m31 := m3.1; have m32 := m3.2; clear z3 p3 hd hdel hmid c2))
  have hz := HZ.out
  generalize World.setCells _ _ _ _ = W5 at hz ⊢
  refine bodyPost_ret (results_cell_row rfl _ _ w.heap.size 40 _ (0, 0) _ rfl hz.1 Try.underlying40 rfl hi.out) rfl ?_
  exact hz.2

end Go.Proofs.Ytklpafognbodhaa
