/-
  .
-/
import Derived.Deep.Cut
import Derived.StillTailTactics
import Derived.Test.YtchccbfljamjnaaGreatWStepQn
import Derived.Test.YtchccbfljamjnaaGreatJPgQn
set_option maxRecDepth 100000
set_option maxHeartbeats 40000000
namespace Go.Proofs.YtchccbfljamjnaaGreat
open Go.RowKit Go.Shelf
set_option linter.unusedVariables false
set_option linter.unusedSimpArgs false
structure yB {σ : Type} (G : σ → Prop) (R : σ → World → Prop) (O : Nat → Prop) (num : σ → Int → Int → Int → Option (Int × σ)) (b : Nat) (T : TypeId) (v rv : Value) (fn : FuncId) : Prop where
 jk : ∀ w, (method 397 T v "allotment/wire.number").run Tryz.prog w = .ok (fn, rv) w
 enter : ∀ (args : Array Value) (w : World), (callFunc fn args).run Tryz.prog w = .ok (.enter fn args) w
 does : ∀ (s : σ) (X : World) (n lo hi : Int), R s X → Calls Tryz.prog fn #[rv, .int .i64 n, .int .i64 lo, .int .i64 hi] X (fun e X' => match num s n lo hi with
  | some (m, s') => e = .returned (.int .i64 m) ∧ (G s' → R s' X') ∧ za X X' O
  | none => e = .panicked vR ∧ za X X' O)
 keep : ∀ (s : σ) (X X' : World), R s X → (∀ q, q < X.heap.size → q ≠ b → X'.heap[q]? = X.heap[q]?) → X.heap.size ≤ X'.heap.size → R s X'
 apart : ¬ O b
 inn : ∀ (s : σ) (X : World) (q : Nat), R s X → O q → q < X.heap.size
def zA {σ : Type} (G : σ → Prop) (R : σ → World → Prop) (O : Nat → Prop) (o : Option (Int × σ)) (b : Nat) (cs : Array Value) (i : Nat) (X : World) (e : Ending) (X' : World) : Prop := match o with
 | some (m, s') => e = .returned (.tuple #[]) ∧ (G s' → R s' X') ∧ X'.heap[b]? = some (.cells (cs.setIfInBounds i (.int .i64 m)) 37 (0, 0)) ∧ za X X' (fun q => O q ∨ q = b)
 | none => e = .panicked vR ∧ za X X' (fun q => O q ∨ q = b)
theorem zq {w w' : World} {S S' : Nat → Prop} (h : za w w' S) (hs : ∀ q, S q → S' q) : za w w' S' := ⟨h.os, h.tape, h.output, h.size, fun k h1 h2 => h.block k h1 (fun h3 => h2 (hs k h3))⟩
theorem zt {w : World} {b i : Nat} {u : Value} : za w (w.setCell ⟨b, i, none⟩ u) (fun q => q = b) := ⟨rfl, rfl, rfl, by simp [World.setCell], fun k _ h => Below.heap_setCell _ _ _ _ h⟩
theorem jS {w X : World} {S : Nat → Prop} (h : za w X S) (n : Nat) : za w { X with drawn := X.drawn + n } S := ⟨h.os, h.tape, h.output, h.size, h.block⟩
theorem zan {σ : Type} {G : σ → Prop} {R : σ → World → Prop} {O : Nat → Prop} {num : σ → Int → Int → Int → Option (Int × σ)} {b : Nat} {T : TypeId} {v rv : Value} {fn : FuncId} (H : yB G R O num b T v rv fn) (s : σ) (X : World) (cs : Array Value) (n : Int) (hR : R s X) (hX : X.heap[b]? = some (.cells cs 37 (0, 0))) (hn : cs[3]? = some (.int .i64 n)) :
 Calls Tryz.prog 144 #[.agg #[.pointer (some ⟨b, 0, none⟩), .iface T v]] X (zA G R O (num s n 1 1125899906842624) b cs 3 X) := by
 obtain ⟨B, hB⟩ : ∃ B, B = X.alloc (.cells #[.pointer (some ⟨b, 0, none⟩), .iface T v] 146) := ⟨_, rfl⟩
 have hb : Below X.heap.size X B := by rw [hB]; exact (Below.refl _ _).alloc (Nat.le_refl _) _
 have eB : B.heap[X.heap.size]? = some (.cells #[.pointer (some ⟨b, 0, none⟩), .iface T v] 146 (0, 0)) := by rw [hB]; exact heap_alloc_new _ _
 have hXb : b < X.heap.size := lt_of_heap hX
 have hBX := (hb.block _ hXb).trans hX
 have hRB := H.keep s X B hR (fun q hq _ => hb.block q hq) hb.size
 obtain ⟨SW, hSW⟩ : ∃ SW : World → Prop, SW = fun Y => Y.heap[X.heap.size]? = some (.cells #[.pointer (some ⟨b, 0, none⟩), .iface T v] 146 (0, 0)) := ⟨_, rfl⟩
 have HP := hH (fun (Y : World) (h : SW Y) => (show Y.cell? ⟨X.heap.size, 0, none⟩ = some (.pointer (some ⟨b, 0, none⟩)) ∧ Y.cell? ⟨X.heap.size, 1, none⟩ = some (.iface T v) by
  rw [hSW] at h
  exact ⟨by rw [cell_of_row _ _ 0 _ _ _ h]; rfl, by rw [cell_of_row _ _ 1 _ _ _ h]; rfl⟩))
 have hS0 : SW B.drew := by rw [hSW]; exact eB
 have HSM := hH (fun (Y : World) (h : Y.heap[X.heap.size]? = B.heap[X.heap.size]?) => (show SW Y by rw [hSW]; exact h.trans eB))
 have HB := hH (aN hb (aN hB (aN hBX (aN hXb (show X.heap.size < B.heap.size from lt_of_heap eB)))))
 have HH := hH H
 have HR := hH hRB
 have hcell : B.drew.cell? ⟨b, 3, none⟩ = some (.int .i64 n) := by show B.cell? _ = _; rw [cell_of_row _ _ 3 _ _ _ hBX]; exact hn
 have HI := hH (fun q (h : O q) => H.inn s X q hR h)
 have HN := hH hn
 have hm := H.jk
 have he := H.enter
 clear hb hB eB hXb hBX hRB hSW hR hX hn H
 go_enter Tryz.func144, Tryz.ntmps144
 go_upto_region 1 with fail
 change Code.wp _ _ _ _ (X.alloc (.cells #[.pointer (some ⟨b, 0, none⟩), .iface T v] 146))
 rw [← HB.out.2.1]
 refine wp_region_held_drew (S := SW) (by kernel_rfl) hS0 (fun hHeld => ?_)
 clear hS0
 refine tkH (i := 0) (.pointer (some ⟨X.heap.size, 0, none⟩)) rfl (Or.inl ⟨by rfl, ?_⟩) (by assumption) ?_
 · clear hHeld; intro Y hSw; clear hSw; go_simp
 simp only [Act.put, pg]
 refine tkH (i := 1) (.pointer (some ⟨b, 0, none⟩)) rfl (Or.inl ⟨by rfl, ?_⟩) (by assumption) ?_
 · clear hHeld; intro Y hSw; obtain ⟨p0, p1⟩ := HP.out Y hSw; clear hSw; go_simp
 simp only [Act.put, pg]
 refine tkH (i := 2) (.pointer (some ⟨X.heap.size, 1, none⟩)) rfl (Or.inl ⟨by rfl, ?_⟩) (by assumption) ?_
 · clear hHeld; intro Y hSw; clear hSw; go_simp
 simp only [Act.put, pg]
 refine tkH (i := 3) (.iface T v) rfl (Or.inl ⟨by rfl, ?_⟩) (by assumption) ?_
 · clear hHeld; intro Y hSw; obtain ⟨p0, p1⟩ := HP.out Y hSw; clear hSw; go_simp
 simp only [Act.put, pg]
 refine tkH (i := 4) (.pointer (some ⟨X.heap.size, 0, none⟩)) rfl (Or.inl ⟨by rfl, ?_⟩) (by assumption) ?_
 · clear hHeld; intro Y hSw; clear hSw; go_simp
 simp only [Act.put, pg]
 refine tkH (i := 5) (.pointer (some ⟨b, 0, none⟩)) rfl (Or.inl ⟨by rfl, ?_⟩) (by assumption) ?_
 · clear hHeld; intro Y hSw; obtain ⟨p0, p1⟩ := HP.out Y hSw; clear hSw; go_simp
 simp only [Act.put, pg]
 refine tkH (i := 6) (.pointer (some ⟨b, 0, none⟩)) rfl (Or.inl ⟨by rfl, ?_⟩) (by assumption) ?_
 · clear hHeld; intro Y hSw; clear hSw; go_simp
 simp only [Act.put, pg]
 refine tkH (i := 7) (.pointer (some ⟨b, 3, none⟩)) rfl (Or.inl ⟨by rfl, ?_⟩) (by assumption) ?_
 · clear hHeld; intro Y hSw; clear hSw; go_simp
 simp only [Act.put, pg]
 refine tkH (i := 9) (.iface T v) rfl (Or.inl ⟨by rfl, ?_⟩) (by assumption) ?_
 · clear hHeld; intro Y hSw; clear hSw; go_simp
 simp only [Act.put, pg]
 refine tkH (i := 10) (.iface T v) rfl (Or.inl ⟨by rfl, ?_⟩) (by assumption) ?_
 · clear hHeld; intro Y hSw; clear hSw; go_simp
 simp only [Act.put, pg]
 have hH0 := hHeld
 refine wpAnyH_ready (rs := [8]) (by kernel_rfl) (by simp) ?_
 refine AllReadyH.cons (o := _) rfl (fun K hK => ?_) AllReadyH.nil
 rw [if_pos (by rfl)]
 simp only [pg3]
 have HK := hH hK
 have HS := hH hHeld
 clear hK hHeld
 go_wp2_with fail
 refine HK.out _ _ hH0 (fun hHeld => ?_)
 clear HK HS hcell hH0
 refine wpAnyH_ready (rs := [11]) (by kernel_rfl) (by simp) ?_
 refine AllReadyH.cons (o := _) rfl (fun K hK => ?_) AllReadyH.nil
 rw [if_pos (by rfl)]
 simp only [pg3]
 have HK := hH hK
 have HS := hH hHeld
 clear hK hHeld
 go_wp2_with fail
 refine (HH.out.does s B.drew n 1 1125899906842624 (HH.out.keep s B B.drew HR.out (fun _ _ _ => rfl) (Nat.le_refl _))).mono ?_
 intro e W' hq
 cases ho : num s n 1 1125899906842624 with
 | none =>
   rw [ho] at hq
   obtain ⟨rfl, ht⟩ := hq
   refine ⟨rfl, ?_⟩
   show zA G R O none b cs 3 X _ _
   have ht2 := zq ht (S' := fun q => O q ∨ q = b) (fun q h => Or.inl h)
   exact ⟨rfl, ht2.os.trans HB.out.1.os, ht2.tape.trans HB.out.1.tape, ht2.output.trans HB.out.1.output, Nat.le_trans HB.out.1.size ht2.size, fun k h1 h2 => (ht2.block k (nL h1 HB.out.1.size) h2).trans (HB.out.1.block k h1)⟩
 | some ms =>
   obtain ⟨m, s'⟩ := ms
   rw [ho] at hq
   obtain ⟨rfl, hr, ht⟩ := hq
   have hbW : W'.heap[b]? = some (.cells cs 37 (0, 0)) := (ht.block b (nL HB.out.2.2.2.1 HB.out.1.size) HH.out.apart).trans HB.out.2.2.1
   have hpW : W'.heap[X.heap.size]? = B.heap[X.heap.size]? := ht.block _ HB.out.2.2.2.2 (fun h => by have := HI.out _ h; omega)
   have c0 : W'.cell? ⟨b, 3, none⟩ = some (.int .i64 n) := by rw [cell_of_row _ _ 3 _ _ _ hbW]; exact HN.out
   have cf : ∀ j, W'.frozen? ⟨b, j, none⟩ = false := fun j => frozen_of_row _ _ j _ _ hbW
   have HW := hH (aN hbW (aN hpW (aN hr ht)))
   obtain ⟨Z, hZ⟩ : ∃ Z, Z = W'.setCell ⟨b, 3, none⟩ (.int .i64 m) := ⟨_, rfl⟩
   have hZs : za W' Z (fun q => q = b) := by rw [hZ]; exact zt
   have hZb : Z.heap[b]? = some (.cells (cs.setIfInBounds 3 (.int .i64 m)) 37 (0, 0)) := by rw [hZ]; exact heap_setCell_same _ _ _ _ _ _ hbW
   have hE : zA G R O (some (m, s')) b cs 3 X (.returned (.tuple #[])) Z := by
    refine ⟨rfl, fun g => HH.out.keep s' W' Z (hr g) (fun q h1 h2 => hZs.block q h1 h2) hZs.size, hZb, ?_⟩
    exact ⟨hZs.os.trans (ht.os.trans HB.out.1.os), hZs.tape.trans (ht.tape.trans HB.out.1.tape), hZs.output.trans (ht.output.trans HB.out.1.output), Nat.le_trans HB.out.1.size (Nat.le_trans ht.size hZs.size), fun k h1 h2 => (hZs.block k (nL h1 (Nat.le_trans HB.out.1.size ht.size)) (fun h => h2 (Or.inr h))).trans ((ht.block k (nL h1 HB.out.1.size) (fun h => h2 (Or.inl h))).trans (HB.out.1.block k h1))⟩
   have HE := hH (aN hE (aN hZ (show Z.heap[X.heap.size]? = B.heap[X.heap.size]? from (hZs.block _ (nL HB.out.2.2.2.2 ht.size) (by have := HB.out.2.2.2.1; omega)).trans hpW)))
   clear hbW hpW hr ht hZ hZs hZb hE
   go_wp2_with fail
   refine HK.out _ _ (HSM.out _ HW.out.2.1) (fun hHeld => ?_)
   clear HK HS
   refine tkH (i := 12) (.pointer (some ⟨b, 0, none⟩)) rfl (Or.inl ⟨by rfl, ?_⟩) (by assumption) ?_
   · clear hHeld; intro Y hSw; clear hSw; go_simp
   simp only [Act.put, pg]
   refine tkH (i := 13) (.pointer (some ⟨b, 3, none⟩)) rfl (Or.inl ⟨by rfl, ?_⟩) (by assumption) ?_
   · clear hHeld; intro Y hSw; clear hSw; go_simp
   simp only [Act.put, pg]
   refine wpAnyH_ready (rs := [14]) (by kernel_rfl) (by simp) ?_
   refine AllReadyH.cons (o := _) rfl (fun K hK => ?_) AllReadyH.nil
   rw [if_pos (by rfl)]
   simp only [pg3]
   have HK := hH hK
   have HS := hH hHeld
   clear hK hHeld
   go_wp2_with fail
   rw [← HE.out.2.1]
   refine HK.out _ _ (HSM.out _ HE.out.2.2) (fun hHeld => ?_)
   clear HK HS c0 cf
   refine wpAnyH_done (by kernel_rfl) ?_ _
   clear hHeld
   go_wp2_with fail
   go_end0
   rw [ho]
   exact HE.out.1
theorem Qk {σ : Type} {G : σ → Prop} {R : σ → World → Prop} {O : Nat → Prop} {num : σ → Int → Int → Int → Option (Int × σ)} {b : Nat} {T : TypeId} {v rv : Value} {fn : FuncId} (H : yB G R O num b T v rv fn) (s : σ) (X : World) (cs : Array Value) (n : Int) (hR : R s X) (hX : X.heap[b]? = some (.cells cs 37 (0, 0))) (hn : cs[5]? = some (.int .i64 n)) :
 Calls Tryz.prog 145 #[.agg #[.pointer (some ⟨b, 0, none⟩), .iface T v]] X (zA G R O (num s n 1 1125899906842624) b cs 5 X) := by
 obtain ⟨B, hB⟩ : ∃ B, B = X.alloc (.cells #[.pointer (some ⟨b, 0, none⟩), .iface T v] 146) := ⟨_, rfl⟩
 have hb : Below X.heap.size X B := by rw [hB]; exact (Below.refl _ _).alloc (Nat.le_refl _) _
 have eB : B.heap[X.heap.size]? = some (.cells #[.pointer (some ⟨b, 0, none⟩), .iface T v] 146 (0, 0)) := by rw [hB]; exact heap_alloc_new _ _
 have hXb : b < X.heap.size := lt_of_heap hX
 have hBX := (hb.block _ hXb).trans hX
 have hRB := H.keep s X B hR (fun q hq _ => hb.block q hq) hb.size
 obtain ⟨SW, hSW⟩ : ∃ SW : World → Prop, SW = fun Y => Y.heap[X.heap.size]? = some (.cells #[.pointer (some ⟨b, 0, none⟩), .iface T v] 146 (0, 0)) := ⟨_, rfl⟩
 have HP := hH (fun (Y : World) (h : SW Y) => (show Y.cell? ⟨X.heap.size, 0, none⟩ = some (.pointer (some ⟨b, 0, none⟩)) ∧ Y.cell? ⟨X.heap.size, 1, none⟩ = some (.iface T v) by
  rw [hSW] at h
  exact ⟨by rw [cell_of_row _ _ 0 _ _ _ h]; rfl, by rw [cell_of_row _ _ 1 _ _ _ h]; rfl⟩))
 have hS0 : SW B.drew := by rw [hSW]; exact eB
 have HSM := hH (fun (Y : World) (h : Y.heap[X.heap.size]? = B.heap[X.heap.size]?) => (show SW Y by rw [hSW]; exact h.trans eB))
 have HB := hH (aN hb (aN hB (aN hBX (aN hXb (show X.heap.size < B.heap.size from lt_of_heap eB)))))
 have HH := hH H
 have HR := hH hRB
 have hcell : B.drew.cell? ⟨b, 5, none⟩ = some (.int .i64 n) := by show B.cell? _ = _; rw [cell_of_row _ _ 5 _ _ _ hBX]; exact hn
 have HI := hH (fun q (h : O q) => H.inn s X q hR h)
 have HN := hH hn
 have hm := H.jk
 have he := H.enter
 clear hb hB eB hXb hBX hRB hSW hR hX hn H
 go_enter Tryz.func145, Tryz.ntmps145
 go_upto_region 1 with fail
 change Code.wp _ _ _ _ (X.alloc (.cells #[.pointer (some ⟨b, 0, none⟩), .iface T v] 146))
 rw [← HB.out.2.1]
 refine wp_region_held_drew (S := SW) (by kernel_rfl) hS0 (fun hHeld => ?_)
 clear hS0
 refine tkH (i := 0) (.pointer (some ⟨X.heap.size, 0, none⟩)) rfl (Or.inl ⟨by rfl, ?_⟩) (by assumption) ?_
 · clear hHeld; intro Y hSw; clear hSw; go_simp
 simp only [Act.put, pg]
 refine tkH (i := 1) (.pointer (some ⟨b, 0, none⟩)) rfl (Or.inl ⟨by rfl, ?_⟩) (by assumption) ?_
 · clear hHeld; intro Y hSw; obtain ⟨p0, p1⟩ := HP.out Y hSw; clear hSw; go_simp
 simp only [Act.put, pg]
 refine tkH (i := 2) (.pointer (some ⟨X.heap.size, 1, none⟩)) rfl (Or.inl ⟨by rfl, ?_⟩) (by assumption) ?_
 · clear hHeld; intro Y hSw; clear hSw; go_simp
 simp only [Act.put, pg]
 refine tkH (i := 3) (.iface T v) rfl (Or.inl ⟨by rfl, ?_⟩) (by assumption) ?_
 · clear hHeld; intro Y hSw; obtain ⟨p0, p1⟩ := HP.out Y hSw; clear hSw; go_simp
 simp only [Act.put, pg]
 refine tkH (i := 4) (.pointer (some ⟨X.heap.size, 0, none⟩)) rfl (Or.inl ⟨by rfl, ?_⟩) (by assumption) ?_
 · clear hHeld; intro Y hSw; clear hSw; go_simp
 simp only [Act.put, pg]
 refine tkH (i := 5) (.pointer (some ⟨b, 0, none⟩)) rfl (Or.inl ⟨by rfl, ?_⟩) (by assumption) ?_
 · clear hHeld; intro Y hSw; obtain ⟨p0, p1⟩ := HP.out Y hSw; clear hSw; go_simp
 simp only [Act.put, pg]
 refine tkH (i := 6) (.pointer (some ⟨b, 0, none⟩)) rfl (Or.inl ⟨by rfl, ?_⟩) (by assumption) ?_
 · clear hHeld; intro Y hSw; clear hSw; go_simp
 simp only [Act.put, pg]
 refine tkH (i := 7) (.pointer (some ⟨b, 5, none⟩)) rfl (Or.inl ⟨by rfl, ?_⟩) (by assumption) ?_
 · clear hHeld; intro Y hSw; clear hSw; go_simp
 simp only [Act.put, pg]
 refine tkH (i := 9) (.iface T v) rfl (Or.inl ⟨by rfl, ?_⟩) (by assumption) ?_
 · clear hHeld; intro Y hSw; clear hSw; go_simp
 simp only [Act.put, pg]
 refine tkH (i := 10) (.iface T v) rfl (Or.inl ⟨by rfl, ?_⟩) (by assumption) ?_
 · clear hHeld; intro Y hSw; clear hSw; go_simp
 simp only [Act.put, pg]
 have hH0 := hHeld
 refine wpAnyH_ready (rs := [8]) (by kernel_rfl) (by simp) ?_
 refine AllReadyH.cons (o := _) rfl (fun K hK => ?_) AllReadyH.nil
 rw [if_pos (by rfl)]
 simp only [pg3]
 have HK := hH hK
 have HS := hH hHeld
 clear hK hHeld
 go_wp2_with fail
 refine HK.out _ _ hH0 (fun hHeld => ?_)
 clear HK HS hcell hH0
 refine wpAnyH_ready (rs := [11]) (by kernel_rfl) (by simp) ?_
 refine AllReadyH.cons (o := _) rfl (fun K hK => ?_) AllReadyH.nil
 rw [if_pos (by rfl)]
 simp only [pg3]
 have HK := hH hK
 have HS := hH hHeld
 clear hK hHeld
 go_wp2_with fail
 refine (HH.out.does s B.drew n 1 1125899906842624 (HH.out.keep s B B.drew HR.out (fun _ _ _ => rfl) (Nat.le_refl _))).mono ?_
 intro e W' hq
 cases ho : num s n 1 1125899906842624 with
 | none =>
   rw [ho] at hq
   obtain ⟨rfl, ht⟩ := hq
   refine ⟨rfl, ?_⟩
   show zA G R O none b cs 5 X _ _
   have ht2 := zq ht (S' := fun q => O q ∨ q = b) (fun q h => Or.inl h)
   exact ⟨rfl, ht2.os.trans HB.out.1.os, ht2.tape.trans HB.out.1.tape, ht2.output.trans HB.out.1.output, Nat.le_trans HB.out.1.size ht2.size, fun k h1 h2 => (ht2.block k (nL h1 HB.out.1.size) h2).trans (HB.out.1.block k h1)⟩
 | some ms =>
   obtain ⟨m, s'⟩ := ms
   rw [ho] at hq
   obtain ⟨rfl, hr, ht⟩ := hq
   have hbW : W'.heap[b]? = some (.cells cs 37 (0, 0)) := (ht.block b (nL HB.out.2.2.2.1 HB.out.1.size) HH.out.apart).trans HB.out.2.2.1
   have hpW : W'.heap[X.heap.size]? = B.heap[X.heap.size]? := ht.block _ HB.out.2.2.2.2 (fun h => by have := HI.out _ h; omega)
   have c0 : W'.cell? ⟨b, 5, none⟩ = some (.int .i64 n) := by rw [cell_of_row _ _ 5 _ _ _ hbW]; exact HN.out
   have cf : ∀ j, W'.frozen? ⟨b, j, none⟩ = false := fun j => frozen_of_row _ _ j _ _ hbW
   have HW := hH (aN hbW (aN hpW (aN hr ht)))
   obtain ⟨Z, hZ⟩ : ∃ Z, Z = W'.setCell ⟨b, 5, none⟩ (.int .i64 m) := ⟨_, rfl⟩
   have hZs : za W' Z (fun q => q = b) := by rw [hZ]; exact zt
   have hZb : Z.heap[b]? = some (.cells (cs.setIfInBounds 5 (.int .i64 m)) 37 (0, 0)) := by rw [hZ]; exact heap_setCell_same _ _ _ _ _ _ hbW
   have hE : zA G R O (some (m, s')) b cs 5 X (.returned (.tuple #[])) Z := by
    refine ⟨rfl, fun g => HH.out.keep s' W' Z (hr g) (fun q h1 h2 => hZs.block q h1 h2) hZs.size, hZb, ?_⟩
    exact ⟨hZs.os.trans (ht.os.trans HB.out.1.os), hZs.tape.trans (ht.tape.trans HB.out.1.tape), hZs.output.trans (ht.output.trans HB.out.1.output), Nat.le_trans HB.out.1.size (Nat.le_trans ht.size hZs.size), fun k h1 h2 => (hZs.block k (nL h1 (Nat.le_trans HB.out.1.size ht.size)) (fun h => h2 (Or.inr h))).trans ((ht.block k (nL h1 HB.out.1.size) (fun h => h2 (Or.inl h))).trans (HB.out.1.block k h1))⟩
   have HE := hH (aN hE (aN hZ (show Z.heap[X.heap.size]? = B.heap[X.heap.size]? from (hZs.block _ (nL HB.out.2.2.2.2 ht.size) (by have := HB.out.2.2.2.1; omega)).trans hpW)))
   clear hbW hpW hr ht hZ hZs hZb hE
   go_wp2_with fail
   refine HK.out _ _ (HSM.out _ HW.out.2.1) (fun hHeld => ?_)
   clear HK HS
   refine tkH (i := 12) (.pointer (some ⟨b, 0, none⟩)) rfl (Or.inl ⟨by rfl, ?_⟩) (by assumption) ?_
   · clear hHeld; intro Y hSw; clear hSw; go_simp
   simp only [Act.put, pg]
   refine tkH (i := 13) (.pointer (some ⟨b, 5, none⟩)) rfl (Or.inl ⟨by rfl, ?_⟩) (by assumption) ?_
   · clear hHeld; intro Y hSw; clear hSw; go_simp
   simp only [Act.put, pg]
   refine wpAnyH_ready (rs := [14]) (by kernel_rfl) (by simp) ?_
   refine AllReadyH.cons (o := _) rfl (fun K hK => ?_) AllReadyH.nil
   rw [if_pos (by rfl)]
   simp only [pg3]
   have HK := hH hK
   have HS := hH hHeld
   clear hK hHeld
   go_wp2_with fail
   rw [← HE.out.2.1]
   refine HK.out _ _ (HSM.out _ HE.out.2.2) (fun hHeld => ?_)
   clear HK HS c0 cf
   refine wpAnyH_done (by kernel_rfl) ?_ _
   clear hHeld
   go_wp2_with fail
   go_end0
   rw [ho]
   exact HE.out.1
theorem zao {σ : Type} {G : σ → Prop} {R : σ → World → Prop} {O : Nat → Prop} {num : σ → Int → Int → Int → Option (Int × σ)} {b : Nat} {T : TypeId} {v rv : Value} {fn : FuncId} (H : yB G R O num b T v rv fn) (s : σ) (X : World) (cs : Array Value) (n : Int) (hR : R s X) (hX : X.heap[b]? = some (.cells cs 37 (0, 0))) (hn : cs[6]? = some (.int .i64 n)) :
 Calls Tryz.prog 146 #[.agg #[.pointer (some ⟨b, 0, none⟩), .iface T v]] X (zA G R O (num s n 1 1125899906842624) b cs 6 X) := by
 obtain ⟨B, hB⟩ : ∃ B, B = X.alloc (.cells #[.pointer (some ⟨b, 0, none⟩), .iface T v] 146) := ⟨_, rfl⟩
 have hb : Below X.heap.size X B := by rw [hB]; exact (Below.refl _ _).alloc (Nat.le_refl _) _
 have eB : B.heap[X.heap.size]? = some (.cells #[.pointer (some ⟨b, 0, none⟩), .iface T v] 146 (0, 0)) := by rw [hB]; exact heap_alloc_new _ _
 have hXb : b < X.heap.size := lt_of_heap hX
 have hBX := (hb.block _ hXb).trans hX
 have hRB := H.keep s X B hR (fun q hq _ => hb.block q hq) hb.size
 obtain ⟨SW, hSW⟩ : ∃ SW : World → Prop, SW = fun Y => Y.heap[X.heap.size]? = some (.cells #[.pointer (some ⟨b, 0, none⟩), .iface T v] 146 (0, 0)) := ⟨_, rfl⟩
 have HP := hH (fun (Y : World) (h : SW Y) => (show Y.cell? ⟨X.heap.size, 0, none⟩ = some (.pointer (some ⟨b, 0, none⟩)) ∧ Y.cell? ⟨X.heap.size, 1, none⟩ = some (.iface T v) by
  rw [hSW] at h
  exact ⟨by rw [cell_of_row _ _ 0 _ _ _ h]; rfl, by rw [cell_of_row _ _ 1 _ _ _ h]; rfl⟩))
 have hS0 : SW B.drew := by rw [hSW]; exact eB
 have HSM := hH (fun (Y : World) (h : Y.heap[X.heap.size]? = B.heap[X.heap.size]?) => (show SW Y by rw [hSW]; exact h.trans eB))
 have HB := hH (aN hb (aN hB (aN hBX (aN hXb (show X.heap.size < B.heap.size from lt_of_heap eB)))))
 have HH := hH H
 have HR := hH hRB
 have hcell : B.drew.cell? ⟨b, 6, none⟩ = some (.int .i64 n) := by show B.cell? _ = _; rw [cell_of_row _ _ 6 _ _ _ hBX]; exact hn
 have HI := hH (fun q (h : O q) => H.inn s X q hR h)
 have HN := hH hn
 have hm := H.jk
 have he := H.enter
 clear hb hB eB hXb hBX hRB hSW hR hX hn H
 go_enter Tryz.func146, Tryz.ntmps146
 go_upto_region 1 with fail
 change Code.wp _ _ _ _ (X.alloc (.cells #[.pointer (some ⟨b, 0, none⟩), .iface T v] 146))
 rw [← HB.out.2.1]
 refine wp_region_held_drew (S := SW) (by kernel_rfl) hS0 (fun hHeld => ?_)
 clear hS0
 refine tkH (i := 0) (.pointer (some ⟨X.heap.size, 0, none⟩)) rfl (Or.inl ⟨by rfl, ?_⟩) (by assumption) ?_
 · clear hHeld; intro Y hSw; clear hSw; go_simp
 simp only [Act.put, pg]
 refine tkH (i := 1) (.pointer (some ⟨b, 0, none⟩)) rfl (Or.inl ⟨by rfl, ?_⟩) (by assumption) ?_
 · clear hHeld; intro Y hSw; obtain ⟨p0, p1⟩ := HP.out Y hSw; clear hSw; go_simp
 simp only [Act.put, pg]
 refine tkH (i := 2) (.pointer (some ⟨X.heap.size, 1, none⟩)) rfl (Or.inl ⟨by rfl, ?_⟩) (by assumption) ?_
 · clear hHeld; intro Y hSw; clear hSw; go_simp
 simp only [Act.put, pg]
 refine tkH (i := 3) (.iface T v) rfl (Or.inl ⟨by rfl, ?_⟩) (by assumption) ?_
 · clear hHeld; intro Y hSw; obtain ⟨p0, p1⟩ := HP.out Y hSw; clear hSw; go_simp
 simp only [Act.put, pg]
 refine tkH (i := 4) (.pointer (some ⟨X.heap.size, 0, none⟩)) rfl (Or.inl ⟨by rfl, ?_⟩) (by assumption) ?_
 · clear hHeld; intro Y hSw; clear hSw; go_simp
 simp only [Act.put, pg]
 refine tkH (i := 5) (.pointer (some ⟨b, 0, none⟩)) rfl (Or.inl ⟨by rfl, ?_⟩) (by assumption) ?_
 · clear hHeld; intro Y hSw; obtain ⟨p0, p1⟩ := HP.out Y hSw; clear hSw; go_simp
 simp only [Act.put, pg]
 refine tkH (i := 6) (.pointer (some ⟨b, 0, none⟩)) rfl (Or.inl ⟨by rfl, ?_⟩) (by assumption) ?_
 · clear hHeld; intro Y hSw; clear hSw; go_simp
 simp only [Act.put, pg]
 refine tkH (i := 7) (.pointer (some ⟨b, 6, none⟩)) rfl (Or.inl ⟨by rfl, ?_⟩) (by assumption) ?_
 · clear hHeld; intro Y hSw; clear hSw; go_simp
 simp only [Act.put, pg]
 refine tkH (i := 9) (.iface T v) rfl (Or.inl ⟨by rfl, ?_⟩) (by assumption) ?_
 · clear hHeld; intro Y hSw; clear hSw; go_simp
 simp only [Act.put, pg]
 refine tkH (i := 10) (.iface T v) rfl (Or.inl ⟨by rfl, ?_⟩) (by assumption) ?_
 · clear hHeld; intro Y hSw; clear hSw; go_simp
 simp only [Act.put, pg]
 have hH0 := hHeld
 refine wpAnyH_ready (rs := [8]) (by kernel_rfl) (by simp) ?_
 refine AllReadyH.cons (o := _) rfl (fun K hK => ?_) AllReadyH.nil
 rw [if_pos (by rfl)]
 simp only [pg3]
 have HK := hH hK
 have HS := hH hHeld
 clear hK hHeld
 go_wp2_with fail
 refine HK.out _ _ hH0 (fun hHeld => ?_)
 clear HK HS hcell hH0
 refine wpAnyH_ready (rs := [11]) (by kernel_rfl) (by simp) ?_
 refine AllReadyH.cons (o := _) rfl (fun K hK => ?_) AllReadyH.nil
 rw [if_pos (by rfl)]
 simp only [pg3]
 have HK := hH hK
 have HS := hH hHeld
 clear hK hHeld
 go_wp2_with fail
 refine (HH.out.does s B.drew n 1 1125899906842624 (HH.out.keep s B B.drew HR.out (fun _ _ _ => rfl) (Nat.le_refl _))).mono ?_
 intro e W' hq
 cases ho : num s n 1 1125899906842624 with
 | none =>
   rw [ho] at hq
   obtain ⟨rfl, ht⟩ := hq
   refine ⟨rfl, ?_⟩
   show zA G R O none b cs 6 X _ _
   have ht2 := zq ht (S' := fun q => O q ∨ q = b) (fun q h => Or.inl h)
   exact ⟨rfl, ht2.os.trans HB.out.1.os, ht2.tape.trans HB.out.1.tape, ht2.output.trans HB.out.1.output, Nat.le_trans HB.out.1.size ht2.size, fun k h1 h2 => (ht2.block k (nL h1 HB.out.1.size) h2).trans (HB.out.1.block k h1)⟩
 | some ms =>
   obtain ⟨m, s'⟩ := ms
   rw [ho] at hq
   obtain ⟨rfl, hr, ht⟩ := hq
   have hbW : W'.heap[b]? = some (.cells cs 37 (0, 0)) := (ht.block b (nL HB.out.2.2.2.1 HB.out.1.size) HH.out.apart).trans HB.out.2.2.1
   have hpW : W'.heap[X.heap.size]? = B.heap[X.heap.size]? := ht.block _ HB.out.2.2.2.2 (fun h => by have := HI.out _ h; omega)
   have c0 : W'.cell? ⟨b, 6, none⟩ = some (.int .i64 n) := by rw [cell_of_row _ _ 6 _ _ _ hbW]; exact HN.out
   have cf : ∀ j, W'.frozen? ⟨b, j, none⟩ = false := fun j => frozen_of_row _ _ j _ _ hbW
   have HW := hH (aN hbW (aN hpW (aN hr ht)))
   obtain ⟨Z, hZ⟩ : ∃ Z, Z = W'.setCell ⟨b, 6, none⟩ (.int .i64 m) := ⟨_, rfl⟩
   have hZs : za W' Z (fun q => q = b) := by rw [hZ]; exact zt
   have hZb : Z.heap[b]? = some (.cells (cs.setIfInBounds 6 (.int .i64 m)) 37 (0, 0)) := by rw [hZ]; exact heap_setCell_same _ _ _ _ _ _ hbW
   have hE : zA G R O (some (m, s')) b cs 6 X (.returned (.tuple #[])) Z := by
    refine ⟨rfl, fun g => HH.out.keep s' W' Z (hr g) (fun q h1 h2 => hZs.block q h1 h2) hZs.size, hZb, ?_⟩
    exact ⟨hZs.os.trans (ht.os.trans HB.out.1.os), hZs.tape.trans (ht.tape.trans HB.out.1.tape), hZs.output.trans (ht.output.trans HB.out.1.output), Nat.le_trans HB.out.1.size (Nat.le_trans ht.size hZs.size), fun k h1 h2 => (hZs.block k (nL h1 (Nat.le_trans HB.out.1.size ht.size)) (fun h => h2 (Or.inr h))).trans ((ht.block k (nL h1 HB.out.1.size) (fun h => h2 (Or.inl h))).trans (HB.out.1.block k h1))⟩
   have HE := hH (aN hE (aN hZ (show Z.heap[X.heap.size]? = B.heap[X.heap.size]? from (hZs.block _ (nL HB.out.2.2.2.2 ht.size) (by have := HB.out.2.2.2.1; omega)).trans hpW)))
   clear hbW hpW hr ht hZ hZs hZb hE
   go_wp2_with fail
   refine HK.out _ _ (HSM.out _ HW.out.2.1) (fun hHeld => ?_)
   clear HK HS
   refine tkH (i := 12) (.pointer (some ⟨b, 0, none⟩)) rfl (Or.inl ⟨by rfl, ?_⟩) (by assumption) ?_
   · clear hHeld; intro Y hSw; clear hSw; go_simp
   simp only [Act.put, pg]
   refine tkH (i := 13) (.pointer (some ⟨b, 6, none⟩)) rfl (Or.inl ⟨by rfl, ?_⟩) (by assumption) ?_
   · clear hHeld; intro Y hSw; clear hSw; go_simp
   simp only [Act.put, pg]
   refine wpAnyH_ready (rs := [14]) (by kernel_rfl) (by simp) ?_
   refine AllReadyH.cons (o := _) rfl (fun K hK => ?_) AllReadyH.nil
   rw [if_pos (by rfl)]
   simp only [pg3]
   have HK := hH hK
   have HS := hH hHeld
   clear hK hHeld
   go_wp2_with fail
   rw [← HE.out.2.1]
   refine HK.out _ _ (HSM.out _ HE.out.2.2) (fun hHeld => ?_)
   clear HK HS c0 cf
   refine wpAnyH_done (by kernel_rfl) ?_ _
   clear hHeld
   go_wp2_with fail
   go_end0
   rw [ho]
   exact HE.out.1
theorem QY {σ : Type} {G : σ → Prop} {R : σ → World → Prop} {O : Nat → Prop} {num : σ → Int → Int → Int → Option (Int × σ)} {b : Nat} {T : TypeId} {v rv : Value} {fn : FuncId} (H : yB G R O num b T v rv fn) (s : σ) (X : World) (cs : Array Value) (n : Int) (hR : R s X) (hX : X.heap[b]? = some (.cells cs 37 (0, 0))) (hn : cs[7]? = some (.int .i64 n)) :
 Calls Tryz.prog 147 #[.agg #[.pointer (some ⟨b, 0, none⟩), .iface T v]] X (zA G R O (num s n 1 1125899906842624) b cs 7 X) := by
 obtain ⟨B, hB⟩ : ∃ B, B = X.alloc (.cells #[.pointer (some ⟨b, 0, none⟩), .iface T v] 146) := ⟨_, rfl⟩
 have hb : Below X.heap.size X B := by rw [hB]; exact (Below.refl _ _).alloc (Nat.le_refl _) _
 have eB : B.heap[X.heap.size]? = some (.cells #[.pointer (some ⟨b, 0, none⟩), .iface T v] 146 (0, 0)) := by rw [hB]; exact heap_alloc_new _ _
 have hXb : b < X.heap.size := lt_of_heap hX
 have hBX := (hb.block _ hXb).trans hX
 have hRB := H.keep s X B hR (fun q hq _ => hb.block q hq) hb.size
 obtain ⟨SW, hSW⟩ : ∃ SW : World → Prop, SW = fun Y => Y.heap[X.heap.size]? = some (.cells #[.pointer (some ⟨b, 0, none⟩), .iface T v] 146 (0, 0)) := ⟨_, rfl⟩
 have HP := hH (fun (Y : World) (h : SW Y) => (show Y.cell? ⟨X.heap.size, 0, none⟩ = some (.pointer (some ⟨b, 0, none⟩)) ∧ Y.cell? ⟨X.heap.size, 1, none⟩ = some (.iface T v) by
  rw [hSW] at h
  exact ⟨by rw [cell_of_row _ _ 0 _ _ _ h]; rfl, by rw [cell_of_row _ _ 1 _ _ _ h]; rfl⟩))
 have hS0 : SW B.drew := by rw [hSW]; exact eB
 have HSM := hH (fun (Y : World) (h : Y.heap[X.heap.size]? = B.heap[X.heap.size]?) => (show SW Y by rw [hSW]; exact h.trans eB))
 have HB := hH (aN hb (aN hB (aN hBX (aN hXb (show X.heap.size < B.heap.size from lt_of_heap eB)))))
 have HH := hH H
 have HR := hH hRB
 have hcell : B.drew.cell? ⟨b, 7, none⟩ = some (.int .i64 n) := by show B.cell? _ = _; rw [cell_of_row _ _ 7 _ _ _ hBX]; exact hn
 have HI := hH (fun q (h : O q) => H.inn s X q hR h)
 have HN := hH hn
 have hm := H.jk
 have he := H.enter
 clear hb hB eB hXb hBX hRB hSW hR hX hn H
 go_enter Tryz.func147, Tryz.ntmps147
 go_upto_region 1 with fail
 change Code.wp _ _ _ _ (X.alloc (.cells #[.pointer (some ⟨b, 0, none⟩), .iface T v] 146))
 rw [← HB.out.2.1]
 refine wp_region_held_drew (S := SW) (by kernel_rfl) hS0 (fun hHeld => ?_)
 clear hS0
 refine tkH (i := 0) (.pointer (some ⟨X.heap.size, 0, none⟩)) rfl (Or.inl ⟨by rfl, ?_⟩) (by assumption) ?_
 · clear hHeld; intro Y hSw; clear hSw; go_simp
 simp only [Act.put, pg]
 refine tkH (i := 1) (.pointer (some ⟨b, 0, none⟩)) rfl (Or.inl ⟨by rfl, ?_⟩) (by assumption) ?_
 · clear hHeld; intro Y hSw; obtain ⟨p0, p1⟩ := HP.out Y hSw; clear hSw; go_simp
 simp only [Act.put, pg]
 refine tkH (i := 2) (.pointer (some ⟨X.heap.size, 1, none⟩)) rfl (Or.inl ⟨by rfl, ?_⟩) (by assumption) ?_
 · clear hHeld; intro Y hSw; clear hSw; go_simp
 simp only [Act.put, pg]
 refine tkH (i := 3) (.iface T v) rfl (Or.inl ⟨by rfl, ?_⟩) (by assumption) ?_
 · clear hHeld; intro Y hSw; obtain ⟨p0, p1⟩ := HP.out Y hSw; clear hSw; go_simp
 simp only [Act.put, pg]
 refine tkH (i := 4) (.pointer (some ⟨X.heap.size, 0, none⟩)) rfl (Or.inl ⟨by rfl, ?_⟩) (by assumption) ?_
 · clear hHeld; intro Y hSw; clear hSw; go_simp
 simp only [Act.put, pg]
 refine tkH (i := 5) (.pointer (some ⟨b, 0, none⟩)) rfl (Or.inl ⟨by rfl, ?_⟩) (by assumption) ?_
 · clear hHeld; intro Y hSw; obtain ⟨p0, p1⟩ := HP.out Y hSw; clear hSw; go_simp
 simp only [Act.put, pg]
 refine tkH (i := 6) (.pointer (some ⟨b, 0, none⟩)) rfl (Or.inl ⟨by rfl, ?_⟩) (by assumption) ?_
 · clear hHeld; intro Y hSw; clear hSw; go_simp
 simp only [Act.put, pg]
 refine tkH (i := 7) (.pointer (some ⟨b, 7, none⟩)) rfl (Or.inl ⟨by rfl, ?_⟩) (by assumption) ?_
 · clear hHeld; intro Y hSw; clear hSw; go_simp
 simp only [Act.put, pg]
 refine tkH (i := 9) (.iface T v) rfl (Or.inl ⟨by rfl, ?_⟩) (by assumption) ?_
 · clear hHeld; intro Y hSw; clear hSw; go_simp
 simp only [Act.put, pg]
 refine tkH (i := 10) (.iface T v) rfl (Or.inl ⟨by rfl, ?_⟩) (by assumption) ?_
 · clear hHeld; intro Y hSw; clear hSw; go_simp
 simp only [Act.put, pg]
 have hH0 := hHeld
 refine wpAnyH_ready (rs := [8]) (by kernel_rfl) (by simp) ?_
 refine AllReadyH.cons (o := _) rfl (fun K hK => ?_) AllReadyH.nil
 rw [if_pos (by rfl)]
 simp only [pg3]
 have HK := hH hK
 have HS := hH hHeld
 clear hK hHeld
 go_wp2_with fail
 refine HK.out _ _ hH0 (fun hHeld => ?_)
 clear HK HS hcell hH0
 refine wpAnyH_ready (rs := [11]) (by kernel_rfl) (by simp) ?_
 refine AllReadyH.cons (o := _) rfl (fun K hK => ?_) AllReadyH.nil
 rw [if_pos (by rfl)]
 simp only [pg3]
 have HK := hH hK
 have HS := hH hHeld
 clear hK hHeld
 go_wp2_with fail
 refine (HH.out.does s B.drew n 1 1125899906842624 (HH.out.keep s B B.drew HR.out (fun _ _ _ => rfl) (Nat.le_refl _))).mono ?_
 intro e W' hq
 cases ho : num s n 1 1125899906842624 with
 | none =>
   rw [ho] at hq
   obtain ⟨rfl, ht⟩ := hq
   refine ⟨rfl, ?_⟩
   show zA G R O none b cs 7 X _ _
   have ht2 := zq ht (S' := fun q => O q ∨ q = b) (fun q h => Or.inl h)
   exact ⟨rfl, ht2.os.trans HB.out.1.os, ht2.tape.trans HB.out.1.tape, ht2.output.trans HB.out.1.output, Nat.le_trans HB.out.1.size ht2.size, fun k h1 h2 => (ht2.block k (nL h1 HB.out.1.size) h2).trans (HB.out.1.block k h1)⟩
 | some ms =>
   obtain ⟨m, s'⟩ := ms
   rw [ho] at hq
   obtain ⟨rfl, hr, ht⟩ := hq
   have hbW : W'.heap[b]? = some (.cells cs 37 (0, 0)) := (ht.block b (nL HB.out.2.2.2.1 HB.out.1.size) HH.out.apart).trans HB.out.2.2.1
   have hpW : W'.heap[X.heap.size]? = B.heap[X.heap.size]? := ht.block _ HB.out.2.2.2.2 (fun h => by have := HI.out _ h; omega)
   have c0 : W'.cell? ⟨b, 7, none⟩ = some (.int .i64 n) := by rw [cell_of_row _ _ 7 _ _ _ hbW]; exact HN.out
   have cf : ∀ j, W'.frozen? ⟨b, j, none⟩ = false := fun j => frozen_of_row _ _ j _ _ hbW
   have HW := hH (aN hbW (aN hpW (aN hr ht)))
   obtain ⟨Z, hZ⟩ : ∃ Z, Z = W'.setCell ⟨b, 7, none⟩ (.int .i64 m) := ⟨_, rfl⟩
   have hZs : za W' Z (fun q => q = b) := by rw [hZ]; exact zt
   have hZb : Z.heap[b]? = some (.cells (cs.setIfInBounds 7 (.int .i64 m)) 37 (0, 0)) := by rw [hZ]; exact heap_setCell_same _ _ _ _ _ _ hbW
   have hE : zA G R O (some (m, s')) b cs 7 X (.returned (.tuple #[])) Z := by
    refine ⟨rfl, fun g => HH.out.keep s' W' Z (hr g) (fun q h1 h2 => hZs.block q h1 h2) hZs.size, hZb, ?_⟩
    exact ⟨hZs.os.trans (ht.os.trans HB.out.1.os), hZs.tape.trans (ht.tape.trans HB.out.1.tape), hZs.output.trans (ht.output.trans HB.out.1.output), Nat.le_trans HB.out.1.size (Nat.le_trans ht.size hZs.size), fun k h1 h2 => (hZs.block k (nL h1 (Nat.le_trans HB.out.1.size ht.size)) (fun h => h2 (Or.inr h))).trans ((ht.block k (nL h1 HB.out.1.size) (fun h => h2 (Or.inl h))).trans (HB.out.1.block k h1))⟩
   have HE := hH (aN hE (aN hZ (show Z.heap[X.heap.size]? = B.heap[X.heap.size]? from (hZs.block _ (nL HB.out.2.2.2.2 ht.size) (by have := HB.out.2.2.2.1; omega)).trans hpW)))
   clear hbW hpW hr ht hZ hZs hZb hE
   go_wp2_with fail
   refine HK.out _ _ (HSM.out _ HW.out.2.1) (fun hHeld => ?_)
   clear HK HS
   refine tkH (i := 12) (.pointer (some ⟨b, 0, none⟩)) rfl (Or.inl ⟨by rfl, ?_⟩) (by assumption) ?_
   · clear hHeld; intro Y hSw; clear hSw; go_simp
   simp only [Act.put, pg]
   refine tkH (i := 13) (.pointer (some ⟨b, 7, none⟩)) rfl (Or.inl ⟨by rfl, ?_⟩) (by assumption) ?_
   · clear hHeld; intro Y hSw; clear hSw; go_simp
   simp only [Act.put, pg]
   refine wpAnyH_ready (rs := [14]) (by kernel_rfl) (by simp) ?_
   refine AllReadyH.cons (o := _) rfl (fun K hK => ?_) AllReadyH.nil
   rw [if_pos (by rfl)]
   simp only [pg3]
   have HK := hH hK
   have HS := hH hHeld
   clear hK hHeld
   go_wp2_with fail
   rw [← HE.out.2.1]
   refine HK.out _ _ (HSM.out _ HE.out.2.2) (fun hHeld => ?_)
   clear HK HS c0 cf
   refine wpAnyH_done (by kernel_rfl) ?_ _
   clear hHeld
   go_wp2_with fail
   go_end0
   rw [ho]
   exact HE.out.1
theorem QX {σ : Type} {G : σ → Prop} {R : σ → World → Prop} {O : Nat → Prop} {num : σ → Int → Int → Int → Option (Int × σ)} {b : Nat} {T : TypeId} {v rv : Value} {fn : FuncId} (H : yB G R O num b T v rv fn) (s : σ) (X : World) (cs : Array Value) (n : Int) (hR : R s X) (hX : X.heap[b]? = some (.cells cs 37 (0, 0))) (hn : cs[8]? = some (.int .i64 n)) :
 Calls Tryz.prog 148 #[.agg #[.pointer (some ⟨b, 0, none⟩), .iface T v]] X (zA G R O (num s n 1 1125899906842624) b cs 8 X) := by
 obtain ⟨B, hB⟩ : ∃ B, B = X.alloc (.cells #[.pointer (some ⟨b, 0, none⟩), .iface T v] 146) := ⟨_, rfl⟩
 have hb : Below X.heap.size X B := by rw [hB]; exact (Below.refl _ _).alloc (Nat.le_refl _) _
 have eB : B.heap[X.heap.size]? = some (.cells #[.pointer (some ⟨b, 0, none⟩), .iface T v] 146 (0, 0)) := by rw [hB]; exact heap_alloc_new _ _
 have hXb : b < X.heap.size := lt_of_heap hX
 have hBX := (hb.block _ hXb).trans hX
 have hRB := H.keep s X B hR (fun q hq _ => hb.block q hq) hb.size
 obtain ⟨SW, hSW⟩ : ∃ SW : World → Prop, SW = fun Y => Y.heap[X.heap.size]? = some (.cells #[.pointer (some ⟨b, 0, none⟩), .iface T v] 146 (0, 0)) := ⟨_, rfl⟩
 have HP := hH (fun (Y : World) (h : SW Y) => (show Y.cell? ⟨X.heap.size, 0, none⟩ = some (.pointer (some ⟨b, 0, none⟩)) ∧ Y.cell? ⟨X.heap.size, 1, none⟩ = some (.iface T v) by
  rw [hSW] at h
  exact ⟨by rw [cell_of_row _ _ 0 _ _ _ h]; rfl, by rw [cell_of_row _ _ 1 _ _ _ h]; rfl⟩))
 have hS0 : SW B.drew := by rw [hSW]; exact eB
 have HSM := hH (fun (Y : World) (h : Y.heap[X.heap.size]? = B.heap[X.heap.size]?) => (show SW Y by rw [hSW]; exact h.trans eB))
 have HB := hH (aN hb (aN hB (aN hBX (aN hXb (show X.heap.size < B.heap.size from lt_of_heap eB)))))
 have HH := hH H
 have HR := hH hRB
 have hcell : B.drew.cell? ⟨b, 8, none⟩ = some (.int .i64 n) := by show B.cell? _ = _; rw [cell_of_row _ _ 8 _ _ _ hBX]; exact hn
 have HI := hH (fun q (h : O q) => H.inn s X q hR h)
 have HN := hH hn
 have hm := H.jk
 have he := H.enter
 clear hb hB eB hXb hBX hRB hSW hR hX hn H
 go_enter Tryz.func148, Tryz.ntmps148
 go_upto_region 1 with fail
 change Code.wp _ _ _ _ (X.alloc (.cells #[.pointer (some ⟨b, 0, none⟩), .iface T v] 146))
 rw [← HB.out.2.1]
 refine wp_region_held_drew (S := SW) (by kernel_rfl) hS0 (fun hHeld => ?_)
 clear hS0
 refine tkH (i := 0) (.pointer (some ⟨X.heap.size, 0, none⟩)) rfl (Or.inl ⟨by rfl, ?_⟩) (by assumption) ?_
 · clear hHeld; intro Y hSw; clear hSw; go_simp
 simp only [Act.put, pg]
 refine tkH (i := 1) (.pointer (some ⟨b, 0, none⟩)) rfl (Or.inl ⟨by rfl, ?_⟩) (by assumption) ?_
 · clear hHeld; intro Y hSw; obtain ⟨p0, p1⟩ := HP.out Y hSw; clear hSw; go_simp
 simp only [Act.put, pg]
 refine tkH (i := 2) (.pointer (some ⟨X.heap.size, 1, none⟩)) rfl (Or.inl ⟨by rfl, ?_⟩) (by assumption) ?_
 · clear hHeld; intro Y hSw; clear hSw; go_simp
 simp only [Act.put, pg]
 refine tkH (i := 3) (.iface T v) rfl (Or.inl ⟨by rfl, ?_⟩) (by assumption) ?_
 · clear hHeld; intro Y hSw; obtain ⟨p0, p1⟩ := HP.out Y hSw; clear hSw; go_simp
 simp only [Act.put, pg]
 refine tkH (i := 4) (.pointer (some ⟨X.heap.size, 0, none⟩)) rfl (Or.inl ⟨by rfl, ?_⟩) (by assumption) ?_
 · clear hHeld; intro Y hSw; clear hSw; go_simp
 simp only [Act.put, pg]
 refine tkH (i := 5) (.pointer (some ⟨b, 0, none⟩)) rfl (Or.inl ⟨by rfl, ?_⟩) (by assumption) ?_
 · clear hHeld; intro Y hSw; obtain ⟨p0, p1⟩ := HP.out Y hSw; clear hSw; go_simp
 simp only [Act.put, pg]
 refine tkH (i := 6) (.pointer (some ⟨b, 0, none⟩)) rfl (Or.inl ⟨by rfl, ?_⟩) (by assumption) ?_
 · clear hHeld; intro Y hSw; clear hSw; go_simp
 simp only [Act.put, pg]
 refine tkH (i := 7) (.pointer (some ⟨b, 8, none⟩)) rfl (Or.inl ⟨by rfl, ?_⟩) (by assumption) ?_
 · clear hHeld; intro Y hSw; clear hSw; go_simp
 simp only [Act.put, pg]
 refine tkH (i := 9) (.iface T v) rfl (Or.inl ⟨by rfl, ?_⟩) (by assumption) ?_
 · clear hHeld; intro Y hSw; clear hSw; go_simp
 simp only [Act.put, pg]
 refine tkH (i := 10) (.iface T v) rfl (Or.inl ⟨by rfl, ?_⟩) (by assumption) ?_
 · clear hHeld; intro Y hSw; clear hSw; go_simp
 simp only [Act.put, pg]
 have hH0 := hHeld
 refine wpAnyH_ready (rs := [8]) (by kernel_rfl) (by simp) ?_
 refine AllReadyH.cons (o := _) rfl (fun K hK => ?_) AllReadyH.nil
 rw [if_pos (by rfl)]
 simp only [pg3]
 have HK := hH hK
 have HS := hH hHeld
 clear hK hHeld
 go_wp2_with fail
 refine HK.out _ _ hH0 (fun hHeld => ?_)
 clear HK HS hcell hH0
 refine wpAnyH_ready (rs := [11]) (by kernel_rfl) (by simp) ?_
 refine AllReadyH.cons (o := _) rfl (fun K hK => ?_) AllReadyH.nil
 rw [if_pos (by rfl)]
 simp only [pg3]
 have HK := hH hK
 have HS := hH hHeld
 clear hK hHeld
 go_wp2_with fail
 refine (HH.out.does s B.drew n 1 1125899906842624 (HH.out.keep s B B.drew HR.out (fun _ _ _ => rfl) (Nat.le_refl _))).mono ?_
 intro e W' hq
 cases ho : num s n 1 1125899906842624 with
 | none =>
   rw [ho] at hq
   obtain ⟨rfl, ht⟩ := hq
   refine ⟨rfl, ?_⟩
   show zA G R O none b cs 8 X _ _
   have ht2 := zq ht (S' := fun q => O q ∨ q = b) (fun q h => Or.inl h)
   exact ⟨rfl, ht2.os.trans HB.out.1.os, ht2.tape.trans HB.out.1.tape, ht2.output.trans HB.out.1.output, Nat.le_trans HB.out.1.size ht2.size, fun k h1 h2 => (ht2.block k (nL h1 HB.out.1.size) h2).trans (HB.out.1.block k h1)⟩
 | some ms =>
   obtain ⟨m, s'⟩ := ms
   rw [ho] at hq
   obtain ⟨rfl, hr, ht⟩ := hq
   have hbW : W'.heap[b]? = some (.cells cs 37 (0, 0)) := (ht.block b (nL HB.out.2.2.2.1 HB.out.1.size) HH.out.apart).trans HB.out.2.2.1
   have hpW : W'.heap[X.heap.size]? = B.heap[X.heap.size]? := ht.block _ HB.out.2.2.2.2 (fun h => by have := HI.out _ h; omega)
   have c0 : W'.cell? ⟨b, 8, none⟩ = some (.int .i64 n) := by rw [cell_of_row _ _ 8 _ _ _ hbW]; exact HN.out
   have cf : ∀ j, W'.frozen? ⟨b, j, none⟩ = false := fun j => frozen_of_row _ _ j _ _ hbW
   have HW := hH (aN hbW (aN hpW (aN hr ht)))
   obtain ⟨Z, hZ⟩ : ∃ Z, Z = W'.setCell ⟨b, 8, none⟩ (.int .i64 m) := ⟨_, rfl⟩
   have hZs : za W' Z (fun q => q = b) := by rw [hZ]; exact zt
   have hZb : Z.heap[b]? = some (.cells (cs.setIfInBounds 8 (.int .i64 m)) 37 (0, 0)) := by rw [hZ]; exact heap_setCell_same _ _ _ _ _ _ hbW
   have hE : zA G R O (some (m, s')) b cs 8 X (.returned (.tuple #[])) Z := by
    refine ⟨rfl, fun g => HH.out.keep s' W' Z (hr g) (fun q h1 h2 => hZs.block q h1 h2) hZs.size, hZb, ?_⟩
    exact ⟨hZs.os.trans (ht.os.trans HB.out.1.os), hZs.tape.trans (ht.tape.trans HB.out.1.tape), hZs.output.trans (ht.output.trans HB.out.1.output), Nat.le_trans HB.out.1.size (Nat.le_trans ht.size hZs.size), fun k h1 h2 => (hZs.block k (nL h1 (Nat.le_trans HB.out.1.size ht.size)) (fun h => h2 (Or.inr h))).trans ((ht.block k (nL h1 HB.out.1.size) (fun h => h2 (Or.inl h))).trans (HB.out.1.block k h1))⟩
   have HE := hH (aN hE (aN hZ (show Z.heap[X.heap.size]? = B.heap[X.heap.size]? from (hZs.block _ (nL HB.out.2.2.2.2 ht.size) (by have := HB.out.2.2.2.1; omega)).trans hpW)))
   clear hbW hpW hr ht hZ hZs hZb hE
   go_wp2_with fail
   refine HK.out _ _ (HSM.out _ HW.out.2.1) (fun hHeld => ?_)
   clear HK HS
   refine tkH (i := 12) (.pointer (some ⟨b, 0, none⟩)) rfl (Or.inl ⟨by rfl, ?_⟩) (by assumption) ?_
   · clear hHeld; intro Y hSw; clear hSw; go_simp
   simp only [Act.put, pg]
   refine tkH (i := 13) (.pointer (some ⟨b, 8, none⟩)) rfl (Or.inl ⟨by rfl, ?_⟩) (by assumption) ?_
   · clear hHeld; intro Y hSw; clear hSw; go_simp
   simp only [Act.put, pg]
   refine wpAnyH_ready (rs := [14]) (by kernel_rfl) (by simp) ?_
   refine AllReadyH.cons (o := _) rfl (fun K hK => ?_) AllReadyH.nil
   rw [if_pos (by rfl)]
   simp only [pg3]
   have HK := hH hK
   have HS := hH hHeld
   clear hK hHeld
   go_wp2_with fail
   rw [← HE.out.2.1]
   refine HK.out _ _ (HSM.out _ HE.out.2.2) (fun hHeld => ?_)
   clear HK HS c0 cf
   refine wpAnyH_done (by kernel_rfl) ?_ _
   clear hHeld
   go_wp2_with fail
   go_end0
   rw [ho]
   exact HE.out.1
theorem Yz {σ : Type} {G : σ → Prop} {R : σ → World → Prop} {O : Nat → Prop} {num : σ → Int → Int → Int → Option (Int × σ)} {b : Nat} {T : TypeId} {v rv : Value} {fn : FuncId} (H : yB G R O num b T v rv fn) (s : σ) (X : World) (cs : Array Value) (n : Int) (hR : R s X) (hX : X.heap[b]? = some (.cells cs 37 (0, 0))) (hn : cs[9]? = some (.int .i64 n)) :
 Calls Tryz.prog 149 #[.agg #[.pointer (some ⟨b, 0, none⟩), .iface T v]] X (zA G R O (num s n 0 1125899906842624) b cs 9 X) := by
 obtain ⟨B, hB⟩ : ∃ B, B = X.alloc (.cells #[.pointer (some ⟨b, 0, none⟩), .iface T v] 146) := ⟨_, rfl⟩
 have hb : Below X.heap.size X B := by rw [hB]; exact (Below.refl _ _).alloc (Nat.le_refl _) _
 have eB : B.heap[X.heap.size]? = some (.cells #[.pointer (some ⟨b, 0, none⟩), .iface T v] 146 (0, 0)) := by rw [hB]; exact heap_alloc_new _ _
 have hXb : b < X.heap.size := lt_of_heap hX
 have hBX := (hb.block _ hXb).trans hX
 have hRB := H.keep s X B hR (fun q hq _ => hb.block q hq) hb.size
 obtain ⟨SW, hSW⟩ : ∃ SW : World → Prop, SW = fun Y => Y.heap[X.heap.size]? = some (.cells #[.pointer (some ⟨b, 0, none⟩), .iface T v] 146 (0, 0)) := ⟨_, rfl⟩
 have HP := hH (fun (Y : World) (h : SW Y) => (show Y.cell? ⟨X.heap.size, 0, none⟩ = some (.pointer (some ⟨b, 0, none⟩)) ∧ Y.cell? ⟨X.heap.size, 1, none⟩ = some (.iface T v) by
  rw [hSW] at h
  exact ⟨by rw [cell_of_row _ _ 0 _ _ _ h]; rfl, by rw [cell_of_row _ _ 1 _ _ _ h]; rfl⟩))
 have hS0 : SW B.drew := by rw [hSW]; exact eB
 have HSM := hH (fun (Y : World) (h : Y.heap[X.heap.size]? = B.heap[X.heap.size]?) => (show SW Y by rw [hSW]; exact h.trans eB))
 have HB := hH (aN hb (aN hB (aN hBX (aN hXb (show X.heap.size < B.heap.size from lt_of_heap eB)))))
 have HH := hH H
 have HR := hH hRB
 have hcell : B.drew.cell? ⟨b, 9, none⟩ = some (.int .i64 n) := by show B.cell? _ = _; rw [cell_of_row _ _ 9 _ _ _ hBX]; exact hn
 have HI := hH (fun q (h : O q) => H.inn s X q hR h)
 have HN := hH hn
 have hm := H.jk
 have he := H.enter
 clear hb hB eB hXb hBX hRB hSW hR hX hn H
 go_enter Tryz.func149, Tryz.ntmps149
 go_upto_region 1 with fail
 change Code.wp _ _ _ _ (X.alloc (.cells #[.pointer (some ⟨b, 0, none⟩), .iface T v] 146))
 rw [← HB.out.2.1]
 refine wp_region_held_drew (S := SW) (by kernel_rfl) hS0 (fun hHeld => ?_)
 clear hS0
 refine tkH (i := 0) (.pointer (some ⟨X.heap.size, 0, none⟩)) rfl (Or.inl ⟨by rfl, ?_⟩) (by assumption) ?_
 · clear hHeld; intro Y hSw; clear hSw; go_simp
 simp only [Act.put, pg]
 refine tkH (i := 1) (.pointer (some ⟨b, 0, none⟩)) rfl (Or.inl ⟨by rfl, ?_⟩) (by assumption) ?_
 · clear hHeld; intro Y hSw; obtain ⟨p0, p1⟩ := HP.out Y hSw; clear hSw; go_simp
 simp only [Act.put, pg]
 refine tkH (i := 2) (.pointer (some ⟨X.heap.size, 1, none⟩)) rfl (Or.inl ⟨by rfl, ?_⟩) (by assumption) ?_
 · clear hHeld; intro Y hSw; clear hSw; go_simp
 simp only [Act.put, pg]
 refine tkH (i := 3) (.iface T v) rfl (Or.inl ⟨by rfl, ?_⟩) (by assumption) ?_
 · clear hHeld; intro Y hSw; obtain ⟨p0, p1⟩ := HP.out Y hSw; clear hSw; go_simp
 simp only [Act.put, pg]
 refine tkH (i := 4) (.pointer (some ⟨X.heap.size, 0, none⟩)) rfl (Or.inl ⟨by rfl, ?_⟩) (by assumption) ?_
 · clear hHeld; intro Y hSw; clear hSw; go_simp
 simp only [Act.put, pg]
 refine tkH (i := 5) (.pointer (some ⟨b, 0, none⟩)) rfl (Or.inl ⟨by rfl, ?_⟩) (by assumption) ?_
 · clear hHeld; intro Y hSw; obtain ⟨p0, p1⟩ := HP.out Y hSw; clear hSw; go_simp
 simp only [Act.put, pg]
 refine tkH (i := 6) (.pointer (some ⟨b, 0, none⟩)) rfl (Or.inl ⟨by rfl, ?_⟩) (by assumption) ?_
 · clear hHeld; intro Y hSw; clear hSw; go_simp
 simp only [Act.put, pg]
 refine tkH (i := 7) (.pointer (some ⟨b, 9, none⟩)) rfl (Or.inl ⟨by rfl, ?_⟩) (by assumption) ?_
 · clear hHeld; intro Y hSw; clear hSw; go_simp
 simp only [Act.put, pg]
 refine tkH (i := 9) (.iface T v) rfl (Or.inl ⟨by rfl, ?_⟩) (by assumption) ?_
 · clear hHeld; intro Y hSw; clear hSw; go_simp
 simp only [Act.put, pg]
 refine tkH (i := 10) (.iface T v) rfl (Or.inl ⟨by rfl, ?_⟩) (by assumption) ?_
 · clear hHeld; intro Y hSw; clear hSw; go_simp
 simp only [Act.put, pg]
 have hH0 := hHeld
 refine wpAnyH_ready (rs := [8]) (by kernel_rfl) (by simp) ?_
 refine AllReadyH.cons (o := _) rfl (fun K hK => ?_) AllReadyH.nil
 rw [if_pos (by rfl)]
 simp only [pg3]
 have HK := hH hK
 have HS := hH hHeld
 clear hK hHeld
 go_wp2_with fail
 refine HK.out _ _ hH0 (fun hHeld => ?_)
 clear HK HS hcell hH0
 refine wpAnyH_ready (rs := [11]) (by kernel_rfl) (by simp) ?_
 refine AllReadyH.cons (o := _) rfl (fun K hK => ?_) AllReadyH.nil
 rw [if_pos (by rfl)]
 simp only [pg3]
 have HK := hH hK
 have HS := hH hHeld
 clear hK hHeld
 go_wp2_with fail
 refine (HH.out.does s B.drew n 0 1125899906842624 (HH.out.keep s B B.drew HR.out (fun _ _ _ => rfl) (Nat.le_refl _))).mono ?_
 intro e W' hq
 cases ho : num s n 0 1125899906842624 with
 | none =>
   rw [ho] at hq
   obtain ⟨rfl, ht⟩ := hq
   refine ⟨rfl, ?_⟩
   show zA G R O none b cs 9 X _ _
   have ht2 := zq ht (S' := fun q => O q ∨ q = b) (fun q h => Or.inl h)
   exact ⟨rfl, ht2.os.trans HB.out.1.os, ht2.tape.trans HB.out.1.tape, ht2.output.trans HB.out.1.output, Nat.le_trans HB.out.1.size ht2.size, fun k h1 h2 => (ht2.block k (nL h1 HB.out.1.size) h2).trans (HB.out.1.block k h1)⟩
 | some ms =>
   obtain ⟨m, s'⟩ := ms
   rw [ho] at hq
   obtain ⟨rfl, hr, ht⟩ := hq
   have hbW : W'.heap[b]? = some (.cells cs 37 (0, 0)) := (ht.block b (nL HB.out.2.2.2.1 HB.out.1.size) HH.out.apart).trans HB.out.2.2.1
   have hpW : W'.heap[X.heap.size]? = B.heap[X.heap.size]? := ht.block _ HB.out.2.2.2.2 (fun h => by have := HI.out _ h; omega)
   have c0 : W'.cell? ⟨b, 9, none⟩ = some (.int .i64 n) := by rw [cell_of_row _ _ 9 _ _ _ hbW]; exact HN.out
   have cf : ∀ j, W'.frozen? ⟨b, j, none⟩ = false := fun j => frozen_of_row _ _ j _ _ hbW
   have HW := hH (aN hbW (aN hpW (aN hr ht)))
   obtain ⟨Z, hZ⟩ : ∃ Z, Z = W'.setCell ⟨b, 9, none⟩ (.int .i64 m) := ⟨_, rfl⟩
   have hZs : za W' Z (fun q => q = b) := by rw [hZ]; exact zt
   have hZb : Z.heap[b]? = some (.cells (cs.setIfInBounds 9 (.int .i64 m)) 37 (0, 0)) := by rw [hZ]; exact heap_setCell_same _ _ _ _ _ _ hbW
   have hE : zA G R O (some (m, s')) b cs 9 X (.returned (.tuple #[])) Z := by
    refine ⟨rfl, fun g => HH.out.keep s' W' Z (hr g) (fun q h1 h2 => hZs.block q h1 h2) hZs.size, hZb, ?_⟩
    exact ⟨hZs.os.trans (ht.os.trans HB.out.1.os), hZs.tape.trans (ht.tape.trans HB.out.1.tape), hZs.output.trans (ht.output.trans HB.out.1.output), Nat.le_trans HB.out.1.size (Nat.le_trans ht.size hZs.size), fun k h1 h2 => (hZs.block k (nL h1 (Nat.le_trans HB.out.1.size ht.size)) (fun h => h2 (Or.inr h))).trans ((ht.block k (nL h1 HB.out.1.size) (fun h => h2 (Or.inl h))).trans (HB.out.1.block k h1))⟩
   have HE := hH (aN hE (aN hZ (show Z.heap[X.heap.size]? = B.heap[X.heap.size]? from (hZs.block _ (nL HB.out.2.2.2.2 ht.size) (by have := HB.out.2.2.2.1; omega)).trans hpW)))
   clear hbW hpW hr ht hZ hZs hZb hE
   go_wp2_with fail
   refine HK.out _ _ (HSM.out _ HW.out.2.1) (fun hHeld => ?_)
   clear HK HS
   refine tkH (i := 12) (.pointer (some ⟨b, 0, none⟩)) rfl (Or.inl ⟨by rfl, ?_⟩) (by assumption) ?_
   · clear hHeld; intro Y hSw; clear hSw; go_simp
   simp only [Act.put, pg]
   refine tkH (i := 13) (.pointer (some ⟨b, 9, none⟩)) rfl (Or.inl ⟨by rfl, ?_⟩) (by assumption) ?_
   · clear hHeld; intro Y hSw; clear hSw; go_simp
   simp only [Act.put, pg]
   refine wpAnyH_ready (rs := [14]) (by kernel_rfl) (by simp) ?_
   refine AllReadyH.cons (o := _) rfl (fun K hK => ?_) AllReadyH.nil
   rw [if_pos (by rfl)]
   simp only [pg3]
   have HK := hH hK
   have HS := hH hHeld
   clear hK hHeld
   go_wp2_with fail
   rw [← HE.out.2.1]
   refine HK.out _ _ (HSM.out _ HE.out.2.2) (fun hHeld => ?_)
   clear HK HS c0 cf
   refine wpAnyH_done (by kernel_rfl) ?_ _
   clear hHeld
   go_wp2_with fail
   go_end0
   rw [ho]
   exact HE.out.1
theorem zdD {σ : Type} {G : σ → Prop} {R : σ → World → Prop} {O : Nat → Prop} {num : σ → Int → Int → Int → Option (Int × σ)} {b : Nat} {T : TypeId} {v rv : Value} {fn : FuncId} (H : yB G R O num b T v rv fn) (s : σ) (X : World) (cs : Array Value) (n : Int) (hR : R s X) (hX : X.heap[b]? = some (.cells cs 37 (0, 0))) (hn : cs[10]? = some (.int .i64 n)) :
 Calls Tryz.prog 151 #[.agg #[.pointer (some ⟨b, 0, none⟩), .iface T v]] X (zA G R O (num s n 1 999) b cs 10 X) := by
 obtain ⟨B, hB⟩ : ∃ B, B = X.alloc (.cells #[.pointer (some ⟨b, 0, none⟩), .iface T v] 146) := ⟨_, rfl⟩
 have hb : Below X.heap.size X B := by rw [hB]; exact (Below.refl _ _).alloc (Nat.le_refl _) _
 have eB : B.heap[X.heap.size]? = some (.cells #[.pointer (some ⟨b, 0, none⟩), .iface T v] 146 (0, 0)) := by rw [hB]; exact heap_alloc_new _ _
 have hXb : b < X.heap.size := lt_of_heap hX
 have hBX := (hb.block _ hXb).trans hX
 have hRB := H.keep s X B hR (fun q hq _ => hb.block q hq) hb.size
 obtain ⟨SW, hSW⟩ : ∃ SW : World → Prop, SW = fun Y => Y.heap[X.heap.size]? = some (.cells #[.pointer (some ⟨b, 0, none⟩), .iface T v] 146 (0, 0)) := ⟨_, rfl⟩
 have HP := hH (fun (Y : World) (h : SW Y) => (show Y.cell? ⟨X.heap.size, 0, none⟩ = some (.pointer (some ⟨b, 0, none⟩)) ∧ Y.cell? ⟨X.heap.size, 1, none⟩ = some (.iface T v) by
  rw [hSW] at h
  exact ⟨by rw [cell_of_row _ _ 0 _ _ _ h]; rfl, by rw [cell_of_row _ _ 1 _ _ _ h]; rfl⟩))
 have hS0 : SW B.drew := by rw [hSW]; exact eB
 have HSM := hH (fun (Y : World) (h : Y.heap[X.heap.size]? = B.heap[X.heap.size]?) => (show SW Y by rw [hSW]; exact h.trans eB))
 have HB := hH (aN hb (aN hB (aN hBX (aN hXb (show X.heap.size < B.heap.size from lt_of_heap eB)))))
 have HH := hH H
 have HR := hH hRB
 have hcell : B.drew.cell? ⟨b, 10, none⟩ = some (.int .i64 n) := by show B.cell? _ = _; rw [cell_of_row _ _ 10 _ _ _ hBX]; exact hn
 have HI := hH (fun q (h : O q) => H.inn s X q hR h)
 have HN := hH hn
 have hm := H.jk
 have he := H.enter
 clear hb hB eB hXb hBX hRB hSW hR hX hn H
 go_enter Tryz.func151, Tryz.ntmps151
 go_upto_region 1 with fail
 change Code.wp _ _ _ _ (X.alloc (.cells #[.pointer (some ⟨b, 0, none⟩), .iface T v] 146))
 rw [← HB.out.2.1]
 refine wp_region_held_drew (S := SW) (by kernel_rfl) hS0 (fun hHeld => ?_)
 clear hS0
 refine tkH (i := 0) (.pointer (some ⟨X.heap.size, 0, none⟩)) rfl (Or.inl ⟨by rfl, ?_⟩) (by assumption) ?_
 · clear hHeld; intro Y hSw; clear hSw; go_simp
 simp only [Act.put, pg]
 refine tkH (i := 1) (.pointer (some ⟨b, 0, none⟩)) rfl (Or.inl ⟨by rfl, ?_⟩) (by assumption) ?_
 · clear hHeld; intro Y hSw; obtain ⟨p0, p1⟩ := HP.out Y hSw; clear hSw; go_simp
 simp only [Act.put, pg]
 refine tkH (i := 2) (.pointer (some ⟨X.heap.size, 1, none⟩)) rfl (Or.inl ⟨by rfl, ?_⟩) (by assumption) ?_
 · clear hHeld; intro Y hSw; clear hSw; go_simp
 simp only [Act.put, pg]
 refine tkH (i := 3) (.iface T v) rfl (Or.inl ⟨by rfl, ?_⟩) (by assumption) ?_
 · clear hHeld; intro Y hSw; obtain ⟨p0, p1⟩ := HP.out Y hSw; clear hSw; go_simp
 simp only [Act.put, pg]
 refine tkH (i := 4) (.pointer (some ⟨X.heap.size, 0, none⟩)) rfl (Or.inl ⟨by rfl, ?_⟩) (by assumption) ?_
 · clear hHeld; intro Y hSw; clear hSw; go_simp
 simp only [Act.put, pg]
 refine tkH (i := 5) (.pointer (some ⟨b, 0, none⟩)) rfl (Or.inl ⟨by rfl, ?_⟩) (by assumption) ?_
 · clear hHeld; intro Y hSw; obtain ⟨p0, p1⟩ := HP.out Y hSw; clear hSw; go_simp
 simp only [Act.put, pg]
 refine tkH (i := 6) (.pointer (some ⟨b, 0, none⟩)) rfl (Or.inl ⟨by rfl, ?_⟩) (by assumption) ?_
 · clear hHeld; intro Y hSw; clear hSw; go_simp
 simp only [Act.put, pg]
 refine tkH (i := 7) (.pointer (some ⟨b, 10, none⟩)) rfl (Or.inl ⟨by rfl, ?_⟩) (by assumption) ?_
 · clear hHeld; intro Y hSw; clear hSw; go_simp
 simp only [Act.put, pg]
 refine tkH (i := 9) (.iface T v) rfl (Or.inl ⟨by rfl, ?_⟩) (by assumption) ?_
 · clear hHeld; intro Y hSw; clear hSw; go_simp
 simp only [Act.put, pg]
 refine tkH (i := 10) (.iface T v) rfl (Or.inl ⟨by rfl, ?_⟩) (by assumption) ?_
 · clear hHeld; intro Y hSw; clear hSw; go_simp
 simp only [Act.put, pg]
 have hH0 := hHeld
 refine wpAnyH_ready (rs := [8]) (by kernel_rfl) (by simp) ?_
 refine AllReadyH.cons (o := _) rfl (fun K hK => ?_) AllReadyH.nil
 rw [if_pos (by rfl)]
 simp only [pg3]
 have HK := hH hK
 have HS := hH hHeld
 clear hK hHeld
 go_wp2_with fail
 refine HK.out _ _ hH0 (fun hHeld => ?_)
 clear HK HS hcell hH0
 refine wpAnyH_ready (rs := [11]) (by kernel_rfl) (by simp) ?_
 refine AllReadyH.cons (o := _) rfl (fun K hK => ?_) AllReadyH.nil
 rw [if_pos (by rfl)]
 simp only [pg3]
 have HK := hH hK
 have HS := hH hHeld
 clear hK hHeld
 go_wp2_with fail
 refine (HH.out.does s B.drew n 1 999 (HH.out.keep s B B.drew HR.out (fun _ _ _ => rfl) (Nat.le_refl _))).mono ?_
 intro e W' hq
 cases ho : num s n 1 999 with
 | none =>
   rw [ho] at hq
   obtain ⟨rfl, ht⟩ := hq
   refine ⟨rfl, ?_⟩
   show zA G R O none b cs 10 X _ _
   have ht2 := zq ht (S' := fun q => O q ∨ q = b) (fun q h => Or.inl h)
   exact ⟨rfl, ht2.os.trans HB.out.1.os, ht2.tape.trans HB.out.1.tape, ht2.output.trans HB.out.1.output, Nat.le_trans HB.out.1.size ht2.size, fun k h1 h2 => (ht2.block k (nL h1 HB.out.1.size) h2).trans (HB.out.1.block k h1)⟩
 | some ms =>
   obtain ⟨m, s'⟩ := ms
   rw [ho] at hq
   obtain ⟨rfl, hr, ht⟩ := hq
   have hbW : W'.heap[b]? = some (.cells cs 37 (0, 0)) := (ht.block b (nL HB.out.2.2.2.1 HB.out.1.size) HH.out.apart).trans HB.out.2.2.1
   have hpW : W'.heap[X.heap.size]? = B.heap[X.heap.size]? := ht.block _ HB.out.2.2.2.2 (fun h => by have := HI.out _ h; omega)
   have c0 : W'.cell? ⟨b, 10, none⟩ = some (.int .i64 n) := by rw [cell_of_row _ _ 10 _ _ _ hbW]; exact HN.out
   have cf : ∀ j, W'.frozen? ⟨b, j, none⟩ = false := fun j => frozen_of_row _ _ j _ _ hbW
   have HW := hH (aN hbW (aN hpW (aN hr ht)))
   obtain ⟨Z, hZ⟩ : ∃ Z, Z = W'.setCell ⟨b, 10, none⟩ (.int .i64 m) := ⟨_, rfl⟩
   have hZs : za W' Z (fun q => q = b) := by rw [hZ]; exact zt
   have hZb : Z.heap[b]? = some (.cells (cs.setIfInBounds 10 (.int .i64 m)) 37 (0, 0)) := by rw [hZ]; exact heap_setCell_same _ _ _ _ _ _ hbW
   have hE : zA G R O (some (m, s')) b cs 10 X (.returned (.tuple #[])) Z := by
    refine ⟨rfl, fun g => HH.out.keep s' W' Z (hr g) (fun q h1 h2 => hZs.block q h1 h2) hZs.size, hZb, ?_⟩
    exact ⟨hZs.os.trans (ht.os.trans HB.out.1.os), hZs.tape.trans (ht.tape.trans HB.out.1.tape), hZs.output.trans (ht.output.trans HB.out.1.output), Nat.le_trans HB.out.1.size (Nat.le_trans ht.size hZs.size), fun k h1 h2 => (hZs.block k (nL h1 (Nat.le_trans HB.out.1.size ht.size)) (fun h => h2 (Or.inr h))).trans ((ht.block k (nL h1 HB.out.1.size) (fun h => h2 (Or.inl h))).trans (HB.out.1.block k h1))⟩
   have HE := hH (aN hE (aN hZ (show Z.heap[X.heap.size]? = B.heap[X.heap.size]? from (hZs.block _ (nL HB.out.2.2.2.2 ht.size) (by have := HB.out.2.2.2.1; omega)).trans hpW)))
   clear hbW hpW hr ht hZ hZs hZb hE
   go_wp2_with fail
   refine HK.out _ _ (HSM.out _ HW.out.2.1) (fun hHeld => ?_)
   clear HK HS
   refine tkH (i := 12) (.pointer (some ⟨b, 0, none⟩)) rfl (Or.inl ⟨by rfl, ?_⟩) (by assumption) ?_
   · clear hHeld; intro Y hSw; clear hSw; go_simp
   simp only [Act.put, pg]
   refine tkH (i := 13) (.pointer (some ⟨b, 10, none⟩)) rfl (Or.inl ⟨by rfl, ?_⟩) (by assumption) ?_
   · clear hHeld; intro Y hSw; clear hSw; go_simp
   simp only [Act.put, pg]
   refine wpAnyH_ready (rs := [14]) (by kernel_rfl) (by simp) ?_
   refine AllReadyH.cons (o := _) rfl (fun K hK => ?_) AllReadyH.nil
   rw [if_pos (by rfl)]
   simp only [pg3]
   have HK := hH hK
   have HS := hH hHeld
   clear hK hHeld
   go_wp2_with fail
   rw [← HE.out.2.1]
   refine HK.out _ _ (HSM.out _ HE.out.2.2) (fun hHeld => ?_)
   clear HK HS c0 cf
   refine wpAnyH_done (by kernel_rfl) ?_ _
   clear hHeld
   go_wp2_with fail
   go_end0
   rw [ho]
   exact HE.out.1
end Go.Proofs.YtchccbfljamjnaaGreat
