/-
  .
-/
import Derived.Deep.Cut
import Derived.StillTailTactics
import Derived.Test.YtchccbfljamjnaaGreatWHandQn
import Derived.Test.YtchccbfljamjnaaGreatJPgQn
set_option maxRecDepth 100000
set_option maxHeartbeats 40000000
namespace Go.Proofs.YtchccbfljamjnaaGreat
open Go.RowKit Go.Shelf
set_option linter.unusedVariables false
set_option linter.unusedSimpArgs false
def qF {σ : Type} (G : σ → Prop) (R : σ → World → Prop) (O : Nat → Prop) (o : Option (Int × σ)) (X : World) (e : Ending) (X' : World) : Prop := match o with
 | some (m, s') => e = .returned (.int .i64 m) ∧ (G s' → R s' X') ∧ za X X' O
 | none => e = .panicked vR ∧ za X X' O
theorem Yh {σ : Type} {G : σ → Prop} {R : σ → World → Prop} {O : Nat → Prop} {num : σ → Int → Int → Int → Option (Int × σ)} {b : Nat} {T : TypeId} {v rv : Value} {fn : FuncId} (H : yB G R O num b T v rv fn) (s : σ) (X : World) (n : Int) (hR : R s X) (hXb : b < X.heap.size) :
 Calls Tryz.prog 141 #[.agg #[.pointer (some ⟨b, 0, none⟩), .iface T v], .int .i64 n, .bool true] X (qF G R O (num s n 1 8) X) := by
 obtain ⟨B, hB⟩ : ∃ B, B = X.alloc (.cells #[.pointer (some ⟨b, 0, none⟩), .iface T v] 146) := ⟨_, rfl⟩
 have hb : Below X.heap.size X B := by rw [hB]; exact (Below.refl _ _).alloc (Nat.le_refl _) _
 have eB : B.heap[X.heap.size]? = some (.cells #[.pointer (some ⟨b, 0, none⟩), .iface T v] 146 (0, 0)) := by rw [hB]; exact heap_alloc_new _ _
 have k0 : B.cell? ⟨X.heap.size, 0, none⟩ = some (.pointer (some ⟨b, 0, none⟩)) := by rw [cell_of_row _ _ 0 _ _ _ eB]; rfl
 have k1 : B.cell? ⟨X.heap.size, 1, none⟩ = some (.iface T v) := by rw [cell_of_row _ _ 1 _ _ _ eB]; rfl
 have hd := H.does s B n 1 8 (H.keep s X B hR (fun q hq _ => hb.block q hq) hb.size)
 have hm := H.jk
 have he := H.enter
 have HB := hH (aN hb hB)
 have HD := hH hd
 clear hb hB eB hd hR H hXb
 go_enter Tryz.func141, Tryz.ntmps141
 go_upto_region 2 with fail
 change Code.wp _ _ _ _ (X.alloc (.cells #[.pointer (some ⟨b, 0, none⟩), .iface T v] 146))
 rw [← HB.out.2]
 go_wp2_with fail
 refine HD.out.mono ?_
 intro e W' hq
 cases ho : num s n 1 8 with
 | none =>
   rw [ho] at hq
   obtain ⟨rfl, ht⟩ := hq
   exact ⟨rfl, rfl, ht.os.trans HB.out.1.os, ht.tape.trans HB.out.1.tape, ht.output.trans HB.out.1.output, Nat.le_trans HB.out.1.size ht.size, fun k h1 h2 => (ht.block k (nL h1 HB.out.1.size) h2).trans (HB.out.1.block k h1)⟩
 | some ms =>
   obtain ⟨m, s'⟩ := ms
   rw [ho] at hq
   obtain ⟨rfl, hr, ht⟩ := hq
   have HW := hH (aN hr (show za X W' O from ⟨ht.os.trans HB.out.1.os, ht.tape.trans HB.out.1.tape, ht.output.trans HB.out.1.output, Nat.le_trans HB.out.1.size ht.size, fun k h1 h2 => (ht.block k (nL h1 HB.out.1.size) h2).trans (HB.out.1.block k h1)⟩))
   clear hr ht
   go_wp2_with fail
   go_ret
   rw [ho]
   exact ⟨rfl, HW.out.1, HW.out.2⟩
theorem Zn {σ : Type} {G : σ → Prop} {R : σ → World → Prop} {O : Nat → Prop} {num : σ → Int → Int → Int → Option (Int × σ)} {b : Nat} {T : TypeId} {v rv : Value} {fn : FuncId} (H : yB G R O num b T v rv fn) (s : σ) (X : World) (n : Int) (hR : R s X) (hXb : b < X.heap.size) :
 Calls Tryz.prog 141 #[.agg #[.pointer (some ⟨b, 0, none⟩), .iface T v], .int .i64 n, .bool false] X (qF G R O (num s n 0 0) X) := by
 obtain ⟨B, hB⟩ : ∃ B, B = X.alloc (.cells #[.pointer (some ⟨b, 0, none⟩), .iface T v] 146) := ⟨_, rfl⟩
 have hb : Below X.heap.size X B := by rw [hB]; exact (Below.refl _ _).alloc (Nat.le_refl _) _
 have eB : B.heap[X.heap.size]? = some (.cells #[.pointer (some ⟨b, 0, none⟩), .iface T v] 146 (0, 0)) := by rw [hB]; exact heap_alloc_new _ _
 have k0 : B.cell? ⟨X.heap.size, 0, none⟩ = some (.pointer (some ⟨b, 0, none⟩)) := by rw [cell_of_row _ _ 0 _ _ _ eB]; rfl
 have k1 : B.cell? ⟨X.heap.size, 1, none⟩ = some (.iface T v) := by rw [cell_of_row _ _ 1 _ _ _ eB]; rfl
 have hd := H.does s B n 0 0 (H.keep s X B hR (fun q hq _ => hb.block q hq) hb.size)
 have hm := H.jk
 have he := H.enter
 have HB := hH (aN hb hB)
 have HD := hH hd
 clear hb hB eB hd hR H hXb
 go_enter Tryz.func141, Tryz.ntmps141
 go_upto_region 3 with fail
 change Code.wp _ _ _ _ (X.alloc (.cells #[.pointer (some ⟨b, 0, none⟩), .iface T v] 146))
 rw [← HB.out.2]
 go_wp2_with fail
 refine HD.out.mono ?_
 intro e W' hq
 cases ho : num s n 0 0 with
 | none =>
   rw [ho] at hq
   obtain ⟨rfl, ht⟩ := hq
   exact ⟨rfl, rfl, ht.os.trans HB.out.1.os, ht.tape.trans HB.out.1.tape, ht.output.trans HB.out.1.output, Nat.le_trans HB.out.1.size ht.size, fun k h1 h2 => (ht.block k (nL h1 HB.out.1.size) h2).trans (HB.out.1.block k h1)⟩
 | some ms =>
   obtain ⟨m, s'⟩ := ms
   rw [ho] at hq
   obtain ⟨rfl, hr, ht⟩ := hq
   have HW := hH (aN hr (show za X W' O from ⟨ht.os.trans HB.out.1.os, ht.tape.trans HB.out.1.tape, ht.output.trans HB.out.1.output, Nat.le_trans HB.out.1.size ht.size, fun k h1 h2 => (ht.block k (nL h1 HB.out.1.size) h2).trans (HB.out.1.block k h1)⟩))
   clear hr ht
   go_wp2_with fail
   go_ret
   rw [ho]
   exact ⟨rfl, HW.out.1, HW.out.2⟩
theorem JL {σ : Type} {G : σ → Prop} {R : σ → World → Prop} {O : Nat → Prop} {num : σ → Int → Int → Int → Option (Int × σ)} {b : Nat} {T : TypeId} {v rv : Value} {fn : FuncId} (H : yB G R O num b T v rv fn) (s : σ) (X : World) (cs : Array Value) (n kd : Int) (hR : R s X) (hX : X.heap[b]? = some (.cells cs 37 (0, 0))) (hn : cs[4]? = some (.int .i64 n)) (hk : cs[0]? = some (.int .i8 kd)) (hc : decide (kd = 2 ∨ kd = 5 ∨ kd = 9) = true) :
 Calls Tryz.prog 143 #[.agg #[.pointer (some ⟨b, 0, none⟩), .iface T v]] X (zA G R O (num s n 0 1125899906842624) b cs 4 X) := by
 obtain ⟨B, hB⟩ : ∃ B, B = X.alloc (.cells #[.pointer (some ⟨b, 0, none⟩), .iface T v] 146) := ⟨_, rfl⟩
 have hb : Below X.heap.size X B := by rw [hB]; exact (Below.refl _ _).alloc (Nat.le_refl _) _
 have eB : B.heap[X.heap.size]? = some (.cells #[.pointer (some ⟨b, 0, none⟩), .iface T v] 146 (0, 0)) := by rw [hB]; exact heap_alloc_new _ _
 have hXb : b < X.heap.size := lt_of_heap hX
 have hBX := (hb.block _ hXb).trans hX
 have hRB := H.keep s X B hR (fun q hq _ => hb.block q hq) hb.size
 obtain ⟨SW, hSW⟩ : ∃ SW : World → Prop, SW = fun Y => Y.heap[X.heap.size]? = some (.cells #[.pointer (some ⟨b, 0, none⟩), .iface T v] 146 (0, 0)) := ⟨_, rfl⟩
 have HP := hH (fun (Y : World) (h : SW Y) => (show Y.cell? ⟨X.heap.size, 0, none⟩ = some (.pointer (some ⟨b, 0, none⟩)) ∧ Y.cell? ⟨X.heap.size, 1, none⟩ = some (.iface T v) by
  rw [hSW] at h
  exact ⟨by rw [cell_of_row _ _ 0 _ _ _ h]; rfl, by rw [cell_of_row _ _ 1 _ _ _ h]; rfl⟩))
 have hS0 : SW B.drew := by rw [hSW]; exact eB
 have HSM := hH (fun (Y : World) (h : Y.heap[X.heap.size]? = B.heap[X.heap.size]?) => (show SW Y by rw [hSW]; exact h.trans eB))
 have HB := hH (aN hb (aN hB (aN hBX (aN hXb (show X.heap.size < B.heap.size from lt_of_heap eB)))))
 have HH := hH H
 have HR := hH hRB
 have hcell : B.drew.cell? ⟨b, 4, none⟩ = some (.int .i64 n) := by show B.cell? _ = _; rw [cell_of_row _ _ 4 _ _ _ hBX]; exact hn
 have hk0 : B.cell? ⟨b, 0, none⟩ = some (.int .i8 kd) := by rw [cell_of_row _ _ 0 _ _ _ hBX]; exact hk
 have k0 : B.cell? ⟨X.heap.size, 0, none⟩ = some (.pointer (some ⟨b, 0, none⟩)) := by rw [cell_of_row _ _ 0 _ _ _ eB]; rfl
 have HCL := hH (qD B kd)
 rw [hc] at HCL
 have HI := hH (fun q (h : O q) => H.inn s X q hR h)
 have HN := hH hn
 have hm := H.jk
 have he := H.enter
 have HS00 := hH hS0
 clear hb hB eB hXb hBX hRB hSW hR hX hn H hS0 hk hc
 go_enter Tryz.func143, Tryz.ntmps143
 go_upto_region 1 with fail
 change Code.wp _ _ _ _ (X.alloc (.cells #[.pointer (some ⟨b, 0, none⟩), .iface T v] 146))
 rw [← HB.out.2.1]
 go_wp2_with fail
 refine HCL.out.mono ?_
 rintro e W0 ⟨rfl, hw0⟩
 rw [hw0]
 clear hw0 k0 hk0
 go_upto_region 4 with fail
 refine wp_region_held_drew (S := SW) (by kernel_rfl) HS00.out (fun hHeld => ?_)
 refine tkH (i := 0) (.pointer (some ⟨X.heap.size, 0, none⟩)) rfl (Or.inl ⟨by rfl, ?_⟩) (by assumption) ?_
 · clear hHeld; intro Y hSw; clear hSw; go_simp
 simp only [Act.put, pg]
 refine tkH (i := 1) (.pointer (some ⟨b, 0, none⟩)) rfl (Or.inl ⟨by rfl, ?_⟩) (by assumption) ?_
 · clear hHeld; intro Y hSw; obtain ⟨p0, p1⟩ := HP.out Y hSw; clear hSw; go_simp
 simp only [Act.put, pg]
 refine tkH (i := 2) (.pointer (some ⟨X.heap.size, 1, none⟩)) rfl (Or.inl ⟨by rfl, ?_⟩) (by assumption) ?_
 · clear hHeld; intro Y hSw; clear hSw; go_simp
 simp only [Act.put, pg]
 refine tkH (i := 3) (.iface T v) rfl (Or.inl ⟨by rfl, ?_⟩) (by assumption) ?_
 · clear hHeld; intro Y hSw; obtain ⟨p0, p1⟩ := HP.out Y hSw; clear hSw; go_simp
 simp only [Act.put, pg]
 refine tkH (i := 4) (.pointer (some ⟨X.heap.size, 0, none⟩)) rfl (Or.inl ⟨by rfl, ?_⟩) (by assumption) ?_
 · clear hHeld; intro Y hSw; clear hSw; go_simp
 simp only [Act.put, pg]
 refine tkH (i := 5) (.pointer (some ⟨b, 0, none⟩)) rfl (Or.inl ⟨by rfl, ?_⟩) (by assumption) ?_
 · clear hHeld; intro Y hSw; obtain ⟨p0, p1⟩ := HP.out Y hSw; clear hSw; go_simp
 simp only [Act.put, pg]
 refine tkH (i := 6) (.pointer (some ⟨b, 0, none⟩)) rfl (Or.inl ⟨by rfl, ?_⟩) (by assumption) ?_
 · clear hHeld; intro Y hSw; clear hSw; go_simp
 simp only [Act.put, pg]
 refine tkH (i := 7) (.pointer (some ⟨b, 4, none⟩)) rfl (Or.inl ⟨by rfl, ?_⟩) (by assumption) ?_
 · clear hHeld; intro Y hSw; clear hSw; go_simp
 simp only [Act.put, pg]
 refine tkH (i := 9) (.int .i64 0) rfl (Or.inl ⟨by rfl, ?_⟩) (by assumption) ?_
 · clear hHeld; intro Y hSw; clear hSw; go_simp
 simp only [Act.put, pg]
 refine tkH (i := 10) (.iface T v) rfl (Or.inl ⟨by rfl, ?_⟩) (by assumption) ?_
 · clear hHeld; intro Y hSw; clear hSw; go_simp
 simp only [Act.put, pg]
 refine tkH (i := 11) (.iface T v) rfl (Or.inl ⟨by rfl, ?_⟩) (by assumption) ?_
 · clear hHeld; intro Y hSw; clear hSw; go_simp
 simp only [Act.put, pg]
 have hH0 := hHeld
 refine wpAnyH_ready (rs := [8]) (by kernel_rfl) (by simp) ?_
 refine AllReadyH.cons (o := _) rfl (fun K hK => ?_) AllReadyH.nil
 rw [if_pos (by rfl)]
 simp only [pg3]
 have HK := hH hK
 have HS := hH hHeld
 clear hK hHeld
 go_wp2_with fail
 refine HK.out _ _ hH0 (fun hHeld => ?_)
 clear HK HS hcell hH0
 refine wpAnyH_ready (rs := [12]) (by kernel_rfl) (by simp) ?_
 refine AllReadyH.cons (o := _) rfl (fun K hK => ?_) AllReadyH.nil
 rw [if_pos (by rfl)]
 simp only [pg3]
 have HK := hH hK
 have HS := hH hHeld
 clear hK hHeld
 go_wp2_with fail
 refine (HH.out.does s B.drew n 0 1125899906842624 (HH.out.keep s B B.drew HR.out (fun _ _ _ => rfl) (Nat.le_refl _))).mono ?_
 intro e W' hq
 cases ho : num s n 0 1125899906842624 with
 | none =>
   rw [ho] at hq
   obtain ⟨rfl, ht⟩ := hq
   refine ⟨rfl, ?_⟩
   show zA G R O none b cs 4 X _ _
   have ht2 := zq ht (S' := fun q => O q ∨ q = b) (fun q h => Or.inl h)
   exact ⟨rfl, ht2.os.trans HB.out.1.os, ht2.tape.trans HB.out.1.tape, ht2.output.trans HB.out.1.output, Nat.le_trans HB.out.1.size ht2.size, fun k h1 h2 => (ht2.block k (nL h1 HB.out.1.size) h2).trans (HB.out.1.block k h1)⟩
 | some ms =>
   obtain ⟨m, s'⟩ := ms
   rw [ho] at hq
   obtain ⟨rfl, hr, ht⟩ := hq
   have hbW : W'.heap[b]? = some (.cells cs 37 (0, 0)) := (ht.block b (nL HB.out.2.2.2.1 HB.out.1.size) HH.out.apart).trans HB.out.2.2.1
   have hpW : W'.heap[X.heap.size]? = B.heap[X.heap.size]? := ht.block _ HB.out.2.2.2.2 (fun h => by have := HI.out _ h; omega)
   have c0 : W'.cell? ⟨b, 4, none⟩ = some (.int .i64 n) := by rw [cell_of_row _ _ 4 _ _ _ hbW]; exact HN.out
   have cf : ∀ j, W'.frozen? ⟨b, j, none⟩ = false := fun j => frozen_of_row _ _ j _ _ hbW
   have HW := hH (aN hbW (aN hpW (aN hr ht)))
   obtain ⟨Z, hZ⟩ : ∃ Z, Z = W'.setCell ⟨b, 4, none⟩ (.int .i64 m) := ⟨_, rfl⟩
   have hZs : za W' Z (fun q => q = b) := by rw [hZ]; exact zt
   have hZb : Z.heap[b]? = some (.cells (cs.setIfInBounds 4 (.int .i64 m)) 37 (0, 0)) := by rw [hZ]; exact heap_setCell_same _ _ _ _ _ _ hbW
   have hE : zA G R O (some (m, s')) b cs 4 X (.returned (.tuple #[])) Z := by
    refine ⟨rfl, fun g => HH.out.keep s' W' Z (hr g) (fun q h1 h2 => hZs.block q h1 h2) hZs.size, hZb, ?_⟩
    exact ⟨hZs.os.trans (ht.os.trans HB.out.1.os), hZs.tape.trans (ht.tape.trans HB.out.1.tape), hZs.output.trans (ht.output.trans HB.out.1.output), Nat.le_trans HB.out.1.size (Nat.le_trans ht.size hZs.size), fun k h1 h2 => (hZs.block k (nL h1 (Nat.le_trans HB.out.1.size ht.size)) (fun h => h2 (Or.inr h))).trans ((ht.block k (nL h1 HB.out.1.size) (fun h => h2 (Or.inl h))).trans (HB.out.1.block k h1))⟩
   have HE := hH (aN hE (aN hZ (show Z.heap[X.heap.size]? = B.heap[X.heap.size]? from (hZs.block _ (nL HB.out.2.2.2.2 ht.size) (by have := HB.out.2.2.2.1; omega)).trans hpW)))
   clear hbW hpW hr ht hZ hZs hZb hE
   go_wp2_with fail
   refine HK.out _ _ (HSM.out _ HW.out.2.1) (fun hHeld => ?_)
   clear HK HS
   refine tkH (i := 13) (.pointer (some ⟨b, 0, none⟩)) rfl (Or.inl ⟨by rfl, ?_⟩) (by assumption) ?_
   · clear hHeld; intro Y hSw; clear hSw; go_simp
   simp only [Act.put, pg]
   refine tkH (i := 14) (.pointer (some ⟨b, 4, none⟩)) rfl (Or.inl ⟨by rfl, ?_⟩) (by assumption) ?_
   · clear hHeld; intro Y hSw; clear hSw; go_simp
   simp only [Act.put, pg]
   refine wpAnyH_ready (rs := [15]) (by kernel_rfl) (by simp) ?_
   refine AllReadyH.cons (o := _) rfl (fun K hK => ?_) AllReadyH.nil
   rw [if_pos (by rfl)]
   simp only [pg3]
   have HK := hH hK
   have HS := hH hHeld
   clear hK hHeld
   go_wp2_with fail
   rw [← HE.out.2.1]
   refine HK.out _ _ (HSM.out _ HE.out.2.2) (fun hHeld => ?_)
   clear HK HS c0 cf
   refine wpAnyH_done (by kernel_rfl) ?_ _
   clear hHeld
   go_wp2_with fail
   go_end0
   rw [ho]
   exact HE.out.1
theorem QA {σ : Type} {G : σ → Prop} {R : σ → World → Prop} {O : Nat → Prop} {num : σ → Int → Int → Int → Option (Int × σ)} {b : Nat} {T : TypeId} {v rv : Value} {fn : FuncId} (H : yB G R O num b T v rv fn) (s : σ) (X : World) (cs : Array Value) (n kd : Int) (hR : R s X) (hX : X.heap[b]? = some (.cells cs 37 (0, 0))) (hn : cs[4]? = some (.int .i64 n)) (hk : cs[0]? = some (.int .i8 kd)) (hc : decide (kd = 2 ∨ kd = 5 ∨ kd = 9) = false) :
 Calls Tryz.prog 143 #[.agg #[.pointer (some ⟨b, 0, none⟩), .iface T v]] X (zA G R O (num s n 1 1125899906842624) b cs 4 X) := by
 obtain ⟨B, hB⟩ : ∃ B, B = X.alloc (.cells #[.pointer (some ⟨b, 0, none⟩), .iface T v] 146) := ⟨_, rfl⟩
 have hb : Below X.heap.size X B := by rw [hB]; exact (Below.refl _ _).alloc (Nat.le_refl _) _
 have eB : B.heap[X.heap.size]? = some (.cells #[.pointer (some ⟨b, 0, none⟩), .iface T v] 146 (0, 0)) := by rw [hB]; exact heap_alloc_new _ _
 have hXb : b < X.heap.size := lt_of_heap hX
 have hBX := (hb.block _ hXb).trans hX
 have hRB := H.keep s X B hR (fun q hq _ => hb.block q hq) hb.size
 obtain ⟨SW, hSW⟩ : ∃ SW : World → Prop, SW = fun Y => Y.heap[X.heap.size]? = some (.cells #[.pointer (some ⟨b, 0, none⟩), .iface T v] 146 (0, 0)) := ⟨_, rfl⟩
 have HP := hH (fun (Y : World) (h : SW Y) => (show Y.cell? ⟨X.heap.size, 0, none⟩ = some (.pointer (some ⟨b, 0, none⟩)) ∧ Y.cell? ⟨X.heap.size, 1, none⟩ = some (.iface T v) by
  rw [hSW] at h
  exact ⟨by rw [cell_of_row _ _ 0 _ _ _ h]; rfl, by rw [cell_of_row _ _ 1 _ _ _ h]; rfl⟩))
 have hS0 : SW B.drew := by rw [hSW]; exact eB
 have HSM := hH (fun (Y : World) (h : Y.heap[X.heap.size]? = B.heap[X.heap.size]?) => (show SW Y by rw [hSW]; exact h.trans eB))
 have HB := hH (aN hb (aN hB (aN hBX (aN hXb (show X.heap.size < B.heap.size from lt_of_heap eB)))))
 have HH := hH H
 have HR := hH hRB
 have hcell : B.drew.cell? ⟨b, 4, none⟩ = some (.int .i64 n) := by show B.cell? _ = _; rw [cell_of_row _ _ 4 _ _ _ hBX]; exact hn
 have hk0 : B.cell? ⟨b, 0, none⟩ = some (.int .i8 kd) := by rw [cell_of_row _ _ 0 _ _ _ hBX]; exact hk
 have k0 : B.cell? ⟨X.heap.size, 0, none⟩ = some (.pointer (some ⟨b, 0, none⟩)) := by rw [cell_of_row _ _ 0 _ _ _ eB]; rfl
 have HCL := hH (qD B kd)
 rw [hc] at HCL
 have HI := hH (fun q (h : O q) => H.inn s X q hR h)
 have HN := hH hn
 have hm := H.jk
 have he := H.enter
 have HS00 := hH hS0
 clear hb hB eB hXb hBX hRB hSW hR hX hn H hS0 hk hc
 go_enter Tryz.func143, Tryz.ntmps143
 go_upto_region 1 with fail
 change Code.wp _ _ _ _ (X.alloc (.cells #[.pointer (some ⟨b, 0, none⟩), .iface T v] 146))
 rw [← HB.out.2.1]
 go_wp2_with fail
 refine HCL.out.mono ?_
 rintro e W0 ⟨rfl, hw0⟩
 rw [hw0]
 clear hw0 k0 hk0
 go_upto_region 4 with fail
 refine wp_region_held_drew (S := SW) (by kernel_rfl) HS00.out (fun hHeld => ?_)
 refine tkH (i := 0) (.pointer (some ⟨X.heap.size, 0, none⟩)) rfl (Or.inl ⟨by rfl, ?_⟩) (by assumption) ?_
 · clear hHeld; intro Y hSw; clear hSw; go_simp
 simp only [Act.put, pg]
 refine tkH (i := 1) (.pointer (some ⟨b, 0, none⟩)) rfl (Or.inl ⟨by rfl, ?_⟩) (by assumption) ?_
 · clear hHeld; intro Y hSw; obtain ⟨p0, p1⟩ := HP.out Y hSw; clear hSw; go_simp
 simp only [Act.put, pg]
 refine tkH (i := 2) (.pointer (some ⟨X.heap.size, 1, none⟩)) rfl (Or.inl ⟨by rfl, ?_⟩) (by assumption) ?_
 · clear hHeld; intro Y hSw; clear hSw; go_simp
 simp only [Act.put, pg]
 refine tkH (i := 3) (.iface T v) rfl (Or.inl ⟨by rfl, ?_⟩) (by assumption) ?_
 · clear hHeld; intro Y hSw; obtain ⟨p0, p1⟩ := HP.out Y hSw; clear hSw; go_simp
 simp only [Act.put, pg]
 refine tkH (i := 4) (.pointer (some ⟨X.heap.size, 0, none⟩)) rfl (Or.inl ⟨by rfl, ?_⟩) (by assumption) ?_
 · clear hHeld; intro Y hSw; clear hSw; go_simp
 simp only [Act.put, pg]
 refine tkH (i := 5) (.pointer (some ⟨b, 0, none⟩)) rfl (Or.inl ⟨by rfl, ?_⟩) (by assumption) ?_
 · clear hHeld; intro Y hSw; obtain ⟨p0, p1⟩ := HP.out Y hSw; clear hSw; go_simp
 simp only [Act.put, pg]
 refine tkH (i := 6) (.pointer (some ⟨b, 0, none⟩)) rfl (Or.inl ⟨by rfl, ?_⟩) (by assumption) ?_
 · clear hHeld; intro Y hSw; clear hSw; go_simp
 simp only [Act.put, pg]
 refine tkH (i := 7) (.pointer (some ⟨b, 4, none⟩)) rfl (Or.inl ⟨by rfl, ?_⟩) (by assumption) ?_
 · clear hHeld; intro Y hSw; clear hSw; go_simp
 simp only [Act.put, pg]
 refine tkH (i := 9) (.int .i64 1) rfl (Or.inl ⟨by rfl, ?_⟩) (by assumption) ?_
 · clear hHeld; intro Y hSw; clear hSw; go_simp
 simp only [Act.put, pg]
 refine tkH (i := 10) (.iface T v) rfl (Or.inl ⟨by rfl, ?_⟩) (by assumption) ?_
 · clear hHeld; intro Y hSw; clear hSw; go_simp
 simp only [Act.put, pg]
 refine tkH (i := 11) (.iface T v) rfl (Or.inl ⟨by rfl, ?_⟩) (by assumption) ?_
 · clear hHeld; intro Y hSw; clear hSw; go_simp
 simp only [Act.put, pg]
 have hH0 := hHeld
 refine wpAnyH_ready (rs := [8]) (by kernel_rfl) (by simp) ?_
 refine AllReadyH.cons (o := _) rfl (fun K hK => ?_) AllReadyH.nil
 rw [if_pos (by rfl)]
 simp only [pg3]
 have HK := hH hK
 have HS := hH hHeld
 clear hK hHeld
 go_wp2_with fail
 refine HK.out _ _ hH0 (fun hHeld => ?_)
 clear HK HS hcell hH0
 refine wpAnyH_ready (rs := [12]) (by kernel_rfl) (by simp) ?_
 refine AllReadyH.cons (o := _) rfl (fun K hK => ?_) AllReadyH.nil
 rw [if_pos (by rfl)]
 simp only [pg3]
 have HK := hH hK
 have HS := hH hHeld
 clear hK hHeld
 go_wp2_with fail
 refine (HH.out.does s B.drew n 1 1125899906842624 (HH.out.keep s B B.drew HR.out (fun _ _ _ => rfl) (Nat.le_refl _))).mono ?_
 intro e W' hq
 cases ho : num s n 1 1125899906842624 with
 | none =>
   rw [ho] at hq
   obtain ⟨rfl, ht⟩ := hq
   refine ⟨rfl, ?_⟩
   show zA G R O none b cs 4 X _ _
   have ht2 := zq ht (S' := fun q => O q ∨ q = b) (fun q h => Or.inl h)
   exact ⟨rfl, ht2.os.trans HB.out.1.os, ht2.tape.trans HB.out.1.tape, ht2.output.trans HB.out.1.output, Nat.le_trans HB.out.1.size ht2.size, fun k h1 h2 => (ht2.block k (nL h1 HB.out.1.size) h2).trans (HB.out.1.block k h1)⟩
 | some ms =>
   obtain ⟨m, s'⟩ := ms
   rw [ho] at hq
   obtain ⟨rfl, hr, ht⟩ := hq
   have hbW : W'.heap[b]? = some (.cells cs 37 (0, 0)) := (ht.block b (nL HB.out.2.2.2.1 HB.out.1.size) HH.out.apart).trans HB.out.2.2.1
   have hpW : W'.heap[X.heap.size]? = B.heap[X.heap.size]? := ht.block _ HB.out.2.2.2.2 (fun h => by have := HI.out _ h; omega)
   have c0 : W'.cell? ⟨b, 4, none⟩ = some (.int .i64 n) := by rw [cell_of_row _ _ 4 _ _ _ hbW]; exact HN.out
   have cf : ∀ j, W'.frozen? ⟨b, j, none⟩ = false := fun j => frozen_of_row _ _ j _ _ hbW
   have HW := hH (aN hbW (aN hpW (aN hr ht)))
   obtain ⟨Z, hZ⟩ : ∃ Z, Z = W'.setCell ⟨b, 4, none⟩ (.int .i64 m) := ⟨_, rfl⟩
   have hZs : za W' Z (fun q => q = b) := by rw [hZ]; exact zt
   have hZb : Z.heap[b]? = some (.cells (cs.setIfInBounds 4 (.int .i64 m)) 37 (0, 0)) := by rw [hZ]; exact heap_setCell_same _ _ _ _ _ _ hbW
   have hE : zA G R O (some (m, s')) b cs 4 X (.returned (.tuple #[])) Z := by
    refine ⟨rfl, fun g => HH.out.keep s' W' Z (hr g) (fun q h1 h2 => hZs.block q h1 h2) hZs.size, hZb, ?_⟩
    exact ⟨hZs.os.trans (ht.os.trans HB.out.1.os), hZs.tape.trans (ht.tape.trans HB.out.1.tape), hZs.output.trans (ht.output.trans HB.out.1.output), Nat.le_trans HB.out.1.size (Nat.le_trans ht.size hZs.size), fun k h1 h2 => (hZs.block k (nL h1 (Nat.le_trans HB.out.1.size ht.size)) (fun h => h2 (Or.inr h))).trans ((ht.block k (nL h1 HB.out.1.size) (fun h => h2 (Or.inl h))).trans (HB.out.1.block k h1))⟩
   have HE := hH (aN hE (aN hZ (show Z.heap[X.heap.size]? = B.heap[X.heap.size]? from (hZs.block _ (nL HB.out.2.2.2.2 ht.size) (by have := HB.out.2.2.2.1; omega)).trans hpW)))
   clear hbW hpW hr ht hZ hZs hZb hE
   go_wp2_with fail
   refine HK.out _ _ (HSM.out _ HW.out.2.1) (fun hHeld => ?_)
   clear HK HS
   refine tkH (i := 13) (.pointer (some ⟨b, 0, none⟩)) rfl (Or.inl ⟨by rfl, ?_⟩) (by assumption) ?_
   · clear hHeld; intro Y hSw; clear hSw; go_simp
   simp only [Act.put, pg]
   refine tkH (i := 14) (.pointer (some ⟨b, 4, none⟩)) rfl (Or.inl ⟨by rfl, ?_⟩) (by assumption) ?_
   · clear hHeld; intro Y hSw; clear hSw; go_simp
   simp only [Act.put, pg]
   refine wpAnyH_ready (rs := [15]) (by kernel_rfl) (by simp) ?_
   refine AllReadyH.cons (o := _) rfl (fun K hK => ?_) AllReadyH.nil
   rw [if_pos (by rfl)]
   simp only [pg3]
   have HK := hH hK
   have HS := hH hHeld
   clear hK hHeld
   go_wp2_with fail
   rw [← HE.out.2.1]
   refine HK.out _ _ (HSM.out _ HE.out.2.2) (fun hHeld => ?_)
   clear HK HS c0 cf
   refine wpAnyH_done (by kernel_rfl) ?_ _
   clear hHeld
   go_wp2_with fail
   go_end0
   rw [ho]
   exact HE.out.1
theorem zbL {σ : Type} {G : σ → Prop} {R : σ → World → Prop} {O : Nat → Prop} {num : σ → Int → Int → Int → Option (Int × σ)} {b : Nat} {T : TypeId} {v rv : Value} {fn : FuncId} (H : yB G R O num b T v rv fn) (s : σ) (X : World) (cs : Array Value) (n kd : Int) (hR : R s X) (hX : X.heap[b]? = some (.cells cs 37 (0, 0))) (hn : cs[1]? = some (.int .i64 n)) (hk : cs[0]? = some (.int .i8 kd)) (hc : decide (kd = 2 ∨ kd = 5 ∨ kd = 9) = true) :
 Calls Tryz.prog 105 #[.agg #[.pointer (some ⟨b, 0, none⟩), .iface T v]] X (zA G R O (num s n 1 8) b cs 1 X) := by
 obtain ⟨B, hB⟩ : ∃ B, B = X.alloc (.cells #[.pointer (some ⟨b, 0, none⟩), .iface T v] 146) := ⟨_, rfl⟩
 have hb : Below X.heap.size X B := by rw [hB]; exact (Below.refl _ _).alloc (Nat.le_refl _) _
 have eB : B.heap[X.heap.size]? = some (.cells #[.pointer (some ⟨b, 0, none⟩), .iface T v] 146 (0, 0)) := by rw [hB]; exact heap_alloc_new _ _
 have hXb : b < X.heap.size := lt_of_heap hX
 have hBX := (hb.block _ hXb).trans hX
 have hRB := H.keep s X B hR (fun q hq _ => hb.block q hq) hb.size
 obtain ⟨SW, hSW⟩ : ∃ SW : World → Prop, SW = fun Y => Y.heap[X.heap.size]? = some (.cells #[.pointer (some ⟨b, 0, none⟩), .iface T v] 146 (0, 0)) := ⟨_, rfl⟩
 have HP := hH (fun (Y : World) (h : SW Y) => (show Y.cell? ⟨X.heap.size, 0, none⟩ = some (.pointer (some ⟨b, 0, none⟩)) ∧ Y.cell? ⟨X.heap.size, 1, none⟩ = some (.iface T v) by
  rw [hSW] at h
  exact ⟨by rw [cell_of_row _ _ 0 _ _ _ h]; rfl, by rw [cell_of_row _ _ 1 _ _ _ h]; rfl⟩))
 have hS0 : SW B.drew := by rw [hSW]; exact eB
 have HSM := hH (fun (Y : World) (h : Y.heap[X.heap.size]? = B.heap[X.heap.size]?) => (show SW Y by rw [hSW]; exact h.trans eB))
 have HB := hH (aN hb (aN hB (aN hBX (aN hXb (show X.heap.size < B.heap.size from lt_of_heap eB)))))
 have HH := hH H
 have HR := hH hRB
 have hcell : B.drew.cell? ⟨b, 1, none⟩ = some (.int .i64 n) := by show B.cell? _ = _; rw [cell_of_row _ _ 1 _ _ _ hBX]; exact hn
 have hk0 : B.drew.cell? ⟨b, 0, none⟩ = some (.int .i8 kd) := by show B.cell? _ = _; rw [cell_of_row _ _ 0 _ _ _ hBX]; exact hk
 have HCL := hH (qD B.drew kd)
 rw [hc] at HCL
 have HPA := hH (Yh H s B.drew n (H.keep s B B.drew hRB (fun _ _ _ => rfl) (Nat.le_refl _)) (nL hXb hb.size))
 have HI := hH (fun q (h : O q) => H.inn s X q hR h)
 have HN := hH hn
 clear hb hB eB hXb hBX hRB hSW hR hX hn H hk hc
 go_enter Tryz.func105, Tryz.ntmps105
 go_upto_region 1 with fail
 change Code.wp _ _ _ _ (X.alloc (.cells #[.pointer (some ⟨b, 0, none⟩), .iface T v] 146))
 rw [← HB.out.2.1]
 refine wp_region_held_drew (S := SW) (by kernel_rfl) hS0 (fun hHeld => ?_)
 clear hS0
 refine tkH (i := 0) (.pointer (some ⟨X.heap.size, 0, none⟩)) rfl (Or.inl ⟨by rfl, ?_⟩) (by assumption) ?_
 · clear hHeld; intro Y hSw; clear hSw; go_simp
 simp only [Act.put, pg]
 refine tkH (i := 1) (.pointer (some ⟨b, 0, none⟩)) rfl (Or.inl ⟨by rfl, ?_⟩) (by assumption) ?_
 · clear hHeld; intro Y hSw; obtain ⟨p0, p1⟩ := HP.out Y hSw; clear hSw; go_simp
 simp only [Act.put, pg]
 refine tkH (i := 2) (.agg #[.pointer (some ⟨b, 0, none⟩), .iface T v]) rfl (Or.inl ⟨by rfl, ?_⟩) (by assumption) ?_
 · clear hHeld; intro Y hSw; obtain ⟨p0, p1⟩ := HP.out Y hSw; clear hSw; go_simp
 simp only [Act.put, pg]
 refine tkH (i := 3) (.pointer (some ⟨X.heap.size, 0, none⟩)) rfl (Or.inl ⟨by rfl, ?_⟩) (by assumption) ?_
 · clear hHeld; intro Y hSw; clear hSw; go_simp
 simp only [Act.put, pg]
 refine tkH (i := 4) (.pointer (some ⟨b, 0, none⟩)) rfl (Or.inl ⟨by rfl, ?_⟩) (by assumption) ?_
 · clear hHeld; intro Y hSw; obtain ⟨p0, p1⟩ := HP.out Y hSw; clear hSw; go_simp
 simp only [Act.put, pg]
 refine tkH (i := 5) (.pointer (some ⟨b, 0, none⟩)) rfl (Or.inl ⟨by rfl, ?_⟩) (by assumption) ?_
 · clear hHeld; intro Y hSw; clear hSw; go_simp
 simp only [Act.put, pg]
 refine tkH (i := 6) (.pointer (some ⟨b, 1, none⟩)) rfl (Or.inl ⟨by rfl, ?_⟩) (by assumption) ?_
 · clear hHeld; intro Y hSw; clear hSw; go_simp
 simp only [Act.put, pg]
 refine tkH (i := 8) (.pointer (some ⟨X.heap.size, 0, none⟩)) rfl (Or.inl ⟨by rfl, ?_⟩) (by assumption) ?_
 · clear hHeld; intro Y hSw; clear hSw; go_simp
 simp only [Act.put, pg]
 refine tkH (i := 9) (.pointer (some ⟨b, 0, none⟩)) rfl (Or.inl ⟨by rfl, ?_⟩) (by assumption) ?_
 · clear hHeld; intro Y hSw; obtain ⟨p0, p1⟩ := HP.out Y hSw; clear hSw; go_simp
 simp only [Act.put, pg]
 refine tkH (i := 10) (.pointer (some ⟨b, 0, none⟩)) rfl (Or.inl ⟨by rfl, ?_⟩) (by assumption) ?_
 · clear hHeld; intro Y hSw; clear hSw; go_simp
 simp only [Act.put, pg]
 refine tkH (i := 11) (.pointer (some ⟨b, 0, none⟩)) rfl (Or.inl ⟨by rfl, ?_⟩) (by assumption) ?_
 · clear hHeld; intro Y hSw; clear hSw; go_simp
 simp only [Act.put, pg]
 have hH0 := hHeld
 refine wpAnyH_ready (rs := [7, 12]) (by kernel_rfl) (by simp) ?_
 refine AllReadyH.cons (o := _) rfl (fun K hK => ?_) (AllReadyH.cons (o := _) rfl (fun K hK => ?_) AllReadyH.nil)
 · rw [if_pos (by rfl)]
   simp only [pg3]
   have HK := hH hK
   have HS := hH hHeld
   clear hK hHeld
   go_wp2_with fail
   refine HK.out _ _ hH0 (fun hHeld => ?_)
   clear HK HS
   refine wpAnyH_ready (rs := [12]) (by kernel_rfl) (by simp) ?_
   refine AllReadyH.cons (o := _) rfl (fun K hK => ?_) AllReadyH.nil
   rw [if_pos (by rfl)]
   simp only [pg3]
   have HK := hH hK
   have HS := hH hHeld
   clear hK hHeld
   go_wp2_with fail
   refine HK.out _ _ hH0 (fun hHeld => ?_)
   clear HK HS
   clear hcell hk0
   refine wpAnyH_ready (rs := [13]) (by kernel_rfl) (by simp) ?_
   refine AllReadyH.cons (o := _) rfl (fun K hK => ?_) AllReadyH.nil
   rw [if_pos (by rfl)]
   simp only [pg3]
   have HK := hH hK
   have HS := hH hHeld
   clear hK hHeld
   go_wp2_with fail
   refine HCL.out.mono ?_
   rintro e W0 ⟨rfl, hw0⟩
   rw [hw0]
   clear hw0
   go_wp2_with fail
   refine HK.out _ _ hH0 (fun hHeld => ?_)
   clear HK HS
   refine wpAnyH_ready (rs := [14]) (by kernel_rfl) (by simp) ?_
   refine AllReadyH.cons (o := _) rfl (fun K hK => ?_) AllReadyH.nil
   rw [if_pos (by rfl)]
   simp only [pg3]
   have HK := hH hK
   have HS := hH hHeld
   clear hK hHeld
   go_wp2_with fail
   refine HPA.out.mono ?_
   intro e W' hq
   unfold qF at hq
   cases ho : num s n 1 8 with
   | none =>
     rw [ho] at hq
     obtain ⟨rfl, ht⟩ := hq
     refine ⟨rfl, ?_⟩
     show zA G R O none b cs 1 X _ _
     have ht2 := zq ht (S' := fun q => O q ∨ q = b) (fun q h => Or.inl h)
     exact ⟨rfl, ht2.os.trans HB.out.1.os, ht2.tape.trans HB.out.1.tape, ht2.output.trans HB.out.1.output, Nat.le_trans HB.out.1.size ht2.size, fun k h1 h2 => (ht2.block k (nL h1 HB.out.1.size) h2).trans (HB.out.1.block k h1)⟩
   | some ms =>
     obtain ⟨m, s'⟩ := ms
     rw [ho] at hq
     obtain ⟨rfl, hr, ht⟩ := hq
     have hbW : W'.heap[b]? = some (.cells cs 37 (0, 0)) := (ht.block b (nL HB.out.2.2.2.1 HB.out.1.size) HH.out.apart).trans HB.out.2.2.1
     have hpW : W'.heap[X.heap.size]? = B.heap[X.heap.size]? := ht.block _ HB.out.2.2.2.2 (fun h => by have := HI.out _ h; omega)
     have c0 : W'.cell? ⟨b, 1, none⟩ = some (.int .i64 n) := by rw [cell_of_row _ _ 1 _ _ _ hbW]; exact HN.out
     have cf : ∀ j, W'.frozen? ⟨b, j, none⟩ = false := fun j => frozen_of_row _ _ j _ _ hbW
     have HW := hH (aN hbW (aN hpW (aN hr ht)))
     obtain ⟨Z, hZ⟩ : ∃ Z, Z = W'.setCell ⟨b, 1, none⟩ (.int .i64 m) := ⟨_, rfl⟩
     have hZs : za W' Z (fun q => q = b) := by rw [hZ]; exact zt
     have hZb : Z.heap[b]? = some (.cells (cs.setIfInBounds 1 (.int .i64 m)) 37 (0, 0)) := by rw [hZ]; exact heap_setCell_same _ _ _ _ _ _ hbW
     have hE : zA G R O (some (m, s')) b cs 1 X (.returned (.tuple #[])) Z := by
      refine ⟨rfl, fun g => HH.out.keep s' W' Z (hr g) (fun q h1 h2 => hZs.block q h1 h2) hZs.size, hZb, ?_⟩
      exact ⟨hZs.os.trans (ht.os.trans HB.out.1.os), hZs.tape.trans (ht.tape.trans HB.out.1.tape), hZs.output.trans (ht.output.trans HB.out.1.output), Nat.le_trans HB.out.1.size (Nat.le_trans ht.size hZs.size), fun k h1 h2 => (hZs.block k (nL h1 (Nat.le_trans HB.out.1.size ht.size)) (fun h => h2 (Or.inr h))).trans ((ht.block k (nL h1 HB.out.1.size) (fun h => h2 (Or.inl h))).trans (HB.out.1.block k h1))⟩
     have HE := hH (aN hE (aN hZ (show Z.heap[X.heap.size]? = B.heap[X.heap.size]? from (hZs.block _ (nL HB.out.2.2.2.2 ht.size) (by have := HB.out.2.2.2.1; omega)).trans hpW)))
     clear hbW hpW hr ht hZ hZs hZb hE
     go_wp2_with fail
     refine HK.out _ _ (HSM.out _ HW.out.2.1) (fun hHeld => ?_)
     clear HK HS
     refine tkH (i := 15) (.pointer (some ⟨b, 0, none⟩)) rfl (Or.inl ⟨by rfl, ?_⟩) (by assumption) ?_
     · clear hHeld; intro Y hSw; clear hSw; go_simp
     simp only [Act.put, pg]
     refine tkH (i := 16) (.pointer (some ⟨b, 1, none⟩)) rfl (Or.inl ⟨by rfl, ?_⟩) (by assumption) ?_
     · clear hHeld; intro Y hSw; clear hSw; go_simp
     simp only [Act.put, pg]
     refine wpAnyH_ready (rs := [17]) (by kernel_rfl) (by simp) ?_
     refine AllReadyH.cons (o := _) rfl (fun K hK => ?_) AllReadyH.nil
     rw [if_pos (by rfl)]
     simp only [pg3]
     have HK := hH hK
     have HS := hH hHeld
     clear hK hHeld
     go_wp2_with fail
     rw [← HE.out.2.1]
     refine HK.out _ _ (HSM.out _ HE.out.2.2) (fun hHeld => ?_)
     clear HK HS c0 cf
     refine wpAnyH_done (by kernel_rfl) ?_ _
     clear hHeld
     go_wp2_with fail
     go_end0
     rw [ho]
     exact HE.out.1
 · rw [if_pos (by rfl)]
   simp only [pg3]
   have HK := hH hK
   have HS := hH hHeld
   clear hK hHeld
   go_wp2_with fail
   refine HK.out _ _ hH0 (fun hHeld => ?_)
   clear HK HS
   have hH1 := hHeld
   refine wpAnyH_ready (rs := [7, 13]) (by kernel_rfl) (by simp) ?_
   refine AllReadyH.cons (o := _) rfl (fun K hK => ?_) (AllReadyH.cons (o := _) rfl (fun K hK => ?_) AllReadyH.nil)
   · rw [if_pos (by rfl)]
     simp only [pg3]
     have HK := hH hK
     have HS := hH hHeld
     clear hK hHeld
     go_wp2_with fail
     refine HK.out _ _ hH0 (fun hHeld => ?_)
     clear HK HS
     clear hcell hk0
     refine wpAnyH_ready (rs := [13]) (by kernel_rfl) (by simp) ?_
     refine AllReadyH.cons (o := _) rfl (fun K hK => ?_) AllReadyH.nil
     rw [if_pos (by rfl)]
     simp only [pg3]
     have HK := hH hK
     have HS := hH hHeld
     clear hK hHeld
     go_wp2_with fail
     refine HCL.out.mono ?_
     rintro e W0 ⟨rfl, hw0⟩
     rw [hw0]
     clear hw0
     go_wp2_with fail
     refine HK.out _ _ hH0 (fun hHeld => ?_)
     clear HK HS
     refine wpAnyH_ready (rs := [14]) (by kernel_rfl) (by simp) ?_
     refine AllReadyH.cons (o := _) rfl (fun K hK => ?_) AllReadyH.nil
     rw [if_pos (by rfl)]
     simp only [pg3]
     have HK := hH hK
     have HS := hH hHeld
     clear hK hHeld
     go_wp2_with fail
     refine HPA.out.mono ?_
     intro e W' hq
     unfold qF at hq
     cases ho : num s n 1 8 with
     | none =>
       rw [ho] at hq
       obtain ⟨rfl, ht⟩ := hq
       refine ⟨rfl, ?_⟩
       show zA G R O none b cs 1 X _ _
       have ht2 := zq ht (S' := fun q => O q ∨ q = b) (fun q h => Or.inl h)
       exact ⟨rfl, ht2.os.trans HB.out.1.os, ht2.tape.trans HB.out.1.tape, ht2.output.trans HB.out.1.output, Nat.le_trans HB.out.1.size ht2.size, fun k h1 h2 => (ht2.block k (nL h1 HB.out.1.size) h2).trans (HB.out.1.block k h1)⟩
     | some ms =>
       obtain ⟨m, s'⟩ := ms
       rw [ho] at hq
       obtain ⟨rfl, hr, ht⟩ := hq
       have hbW : W'.heap[b]? = some (.cells cs 37 (0, 0)) := (ht.block b (nL HB.out.2.2.2.1 HB.out.1.size) HH.out.apart).trans HB.out.2.2.1
       have hpW : W'.heap[X.heap.size]? = B.heap[X.heap.size]? := ht.block _ HB.out.2.2.2.2 (fun h => by have := HI.out _ h; omega)
       have c0 : W'.cell? ⟨b, 1, none⟩ = some (.int .i64 n) := by rw [cell_of_row _ _ 1 _ _ _ hbW]; exact HN.out
       have cf : ∀ j, W'.frozen? ⟨b, j, none⟩ = false := fun j => frozen_of_row _ _ j _ _ hbW
       have HW := hH (aN hbW (aN hpW (aN hr ht)))
       obtain ⟨Z, hZ⟩ : ∃ Z, Z = W'.setCell ⟨b, 1, none⟩ (.int .i64 m) := ⟨_, rfl⟩
       have hZs : za W' Z (fun q => q = b) := by rw [hZ]; exact zt
       have hZb : Z.heap[b]? = some (.cells (cs.setIfInBounds 1 (.int .i64 m)) 37 (0, 0)) := by rw [hZ]; exact heap_setCell_same _ _ _ _ _ _ hbW
       have hE : zA G R O (some (m, s')) b cs 1 X (.returned (.tuple #[])) Z := by
        refine ⟨rfl, fun g => HH.out.keep s' W' Z (hr g) (fun q h1 h2 => hZs.block q h1 h2) hZs.size, hZb, ?_⟩
        exact ⟨hZs.os.trans (ht.os.trans HB.out.1.os), hZs.tape.trans (ht.tape.trans HB.out.1.tape), hZs.output.trans (ht.output.trans HB.out.1.output), Nat.le_trans HB.out.1.size (Nat.le_trans ht.size hZs.size), fun k h1 h2 => (hZs.block k (nL h1 (Nat.le_trans HB.out.1.size ht.size)) (fun h => h2 (Or.inr h))).trans ((ht.block k (nL h1 HB.out.1.size) (fun h => h2 (Or.inl h))).trans (HB.out.1.block k h1))⟩
       have HE := hH (aN hE (aN hZ (show Z.heap[X.heap.size]? = B.heap[X.heap.size]? from (hZs.block _ (nL HB.out.2.2.2.2 ht.size) (by have := HB.out.2.2.2.1; omega)).trans hpW)))
       clear hbW hpW hr ht hZ hZs hZb hE
       go_wp2_with fail
       refine HK.out _ _ (HSM.out _ HW.out.2.1) (fun hHeld => ?_)
       clear HK HS
       refine tkH (i := 15) (.pointer (some ⟨b, 0, none⟩)) rfl (Or.inl ⟨by rfl, ?_⟩) (by assumption) ?_
       · clear hHeld; intro Y hSw; clear hSw; go_simp
       simp only [Act.put, pg]
       refine tkH (i := 16) (.pointer (some ⟨b, 1, none⟩)) rfl (Or.inl ⟨by rfl, ?_⟩) (by assumption) ?_
       · clear hHeld; intro Y hSw; clear hSw; go_simp
       simp only [Act.put, pg]
       refine wpAnyH_ready (rs := [17]) (by kernel_rfl) (by simp) ?_
       refine AllReadyH.cons (o := _) rfl (fun K hK => ?_) AllReadyH.nil
       rw [if_pos (by rfl)]
       simp only [pg3]
       have HK := hH hK
       have HS := hH hHeld
       clear hK hHeld
       go_wp2_with fail
       rw [← HE.out.2.1]
       refine HK.out _ _ (HSM.out _ HE.out.2.2) (fun hHeld => ?_)
       clear HK HS c0 cf
       refine wpAnyH_done (by kernel_rfl) ?_ _
       clear hHeld
       go_wp2_with fail
       go_end0
       rw [ho]
       exact HE.out.1
   · rw [if_pos (by rfl)]
     simp only [pg3]
     have HK := hH hK
     have HS := hH hHeld
     clear hK hHeld
     go_wp2_with fail
     refine HCL.out.mono ?_
     rintro e W0 ⟨rfl, hw0⟩
     rw [hw0]
     clear hw0
     go_wp2_with fail
     refine HK.out _ _ hH0 (fun hHeld => ?_)
     clear HK HS
     refine wpAnyH_ready (rs := [7]) (by kernel_rfl) (by simp) ?_
     refine AllReadyH.cons (o := _) rfl (fun K hK => ?_) AllReadyH.nil
     rw [if_pos (by rfl)]
     simp only [pg3]
     have HK := hH hK
     have HS := hH hHeld
     clear hK hHeld
     go_wp2_with fail
     refine HK.out _ _ hH0 (fun hHeld => ?_)
     clear HK HS hcell hk0
     refine wpAnyH_ready (rs := [14]) (by kernel_rfl) (by simp) ?_
     refine AllReadyH.cons (o := _) rfl (fun K hK => ?_) AllReadyH.nil
     rw [if_pos (by rfl)]
     simp only [pg3]
     have HK := hH hK
     have HS := hH hHeld
     clear hK hHeld
     go_wp2_with fail
     refine HPA.out.mono ?_
     intro e W' hq
     unfold qF at hq
     cases ho : num s n 1 8 with
     | none =>
       rw [ho] at hq
       obtain ⟨rfl, ht⟩ := hq
       refine ⟨rfl, ?_⟩
       show zA G R O none b cs 1 X _ _
       have ht2 := zq ht (S' := fun q => O q ∨ q = b) (fun q h => Or.inl h)
       exact ⟨rfl, ht2.os.trans HB.out.1.os, ht2.tape.trans HB.out.1.tape, ht2.output.trans HB.out.1.output, Nat.le_trans HB.out.1.size ht2.size, fun k h1 h2 => (ht2.block k (nL h1 HB.out.1.size) h2).trans (HB.out.1.block k h1)⟩
     | some ms =>
       obtain ⟨m, s'⟩ := ms
       rw [ho] at hq
       obtain ⟨rfl, hr, ht⟩ := hq
       have hbW : W'.heap[b]? = some (.cells cs 37 (0, 0)) := (ht.block b (nL HB.out.2.2.2.1 HB.out.1.size) HH.out.apart).trans HB.out.2.2.1
       have hpW : W'.heap[X.heap.size]? = B.heap[X.heap.size]? := ht.block _ HB.out.2.2.2.2 (fun h => by have := HI.out _ h; omega)
       have c0 : W'.cell? ⟨b, 1, none⟩ = some (.int .i64 n) := by rw [cell_of_row _ _ 1 _ _ _ hbW]; exact HN.out
       have cf : ∀ j, W'.frozen? ⟨b, j, none⟩ = false := fun j => frozen_of_row _ _ j _ _ hbW
       have HW := hH (aN hbW (aN hpW (aN hr ht)))
       obtain ⟨Z, hZ⟩ : ∃ Z, Z = W'.setCell ⟨b, 1, none⟩ (.int .i64 m) := ⟨_, rfl⟩
       have hZs : za W' Z (fun q => q = b) := by rw [hZ]; exact zt
       have hZb : Z.heap[b]? = some (.cells (cs.setIfInBounds 1 (.int .i64 m)) 37 (0, 0)) := by rw [hZ]; exact heap_setCell_same _ _ _ _ _ _ hbW
       have hE : zA G R O (some (m, s')) b cs 1 X (.returned (.tuple #[])) Z := by
        refine ⟨rfl, fun g => HH.out.keep s' W' Z (hr g) (fun q h1 h2 => hZs.block q h1 h2) hZs.size, hZb, ?_⟩
        exact ⟨hZs.os.trans (ht.os.trans HB.out.1.os), hZs.tape.trans (ht.tape.trans HB.out.1.tape), hZs.output.trans (ht.output.trans HB.out.1.output), Nat.le_trans HB.out.1.size (Nat.le_trans ht.size hZs.size), fun k h1 h2 => (hZs.block k (nL h1 (Nat.le_trans HB.out.1.size ht.size)) (fun h => h2 (Or.inr h))).trans ((ht.block k (nL h1 HB.out.1.size) (fun h => h2 (Or.inl h))).trans (HB.out.1.block k h1))⟩
       have HE := hH (aN hE (aN hZ (show Z.heap[X.heap.size]? = B.heap[X.heap.size]? from (hZs.block _ (nL HB.out.2.2.2.2 ht.size) (by have := HB.out.2.2.2.1; omega)).trans hpW)))
       clear hbW hpW hr ht hZ hZs hZb hE
       go_wp2_with fail
       refine HK.out _ _ (HSM.out _ HW.out.2.1) (fun hHeld => ?_)
       clear HK HS
       refine tkH (i := 15) (.pointer (some ⟨b, 0, none⟩)) rfl (Or.inl ⟨by rfl, ?_⟩) (by assumption) ?_
       · clear hHeld; intro Y hSw; clear hSw; go_simp
       simp only [Act.put, pg]
       refine tkH (i := 16) (.pointer (some ⟨b, 1, none⟩)) rfl (Or.inl ⟨by rfl, ?_⟩) (by assumption) ?_
       · clear hHeld; intro Y hSw; clear hSw; go_simp
       simp only [Act.put, pg]
       refine wpAnyH_ready (rs := [17]) (by kernel_rfl) (by simp) ?_
       refine AllReadyH.cons (o := _) rfl (fun K hK => ?_) AllReadyH.nil
       rw [if_pos (by rfl)]
       simp only [pg3]
       have HK := hH hK
       have HS := hH hHeld
       clear hK hHeld
       go_wp2_with fail
       rw [← HE.out.2.1]
       refine HK.out _ _ (HSM.out _ HE.out.2.2) (fun hHeld => ?_)
       clear HK HS c0 cf
       refine wpAnyH_done (by kernel_rfl) ?_ _
       clear hHeld
       go_wp2_with fail
       go_end0
       rw [ho]
       exact HE.out.1
theorem zas {σ : Type} {G : σ → Prop} {R : σ → World → Prop} {O : Nat → Prop} {num : σ → Int → Int → Int → Option (Int × σ)} {b : Nat} {T : TypeId} {v rv : Value} {fn : FuncId} (H : yB G R O num b T v rv fn) (s : σ) (X : World) (cs : Array Value) (n kd : Int) (hR : R s X) (hX : X.heap[b]? = some (.cells cs 37 (0, 0))) (hn : cs[1]? = some (.int .i64 n)) (hk : cs[0]? = some (.int .i8 kd)) (hc : decide (kd = 2 ∨ kd = 5 ∨ kd = 9) = false) :
 Calls Tryz.prog 105 #[.agg #[.pointer (some ⟨b, 0, none⟩), .iface T v]] X (zA G R O (num s n 0 0) b cs 1 X) := by
 obtain ⟨B, hB⟩ : ∃ B, B = X.alloc (.cells #[.pointer (some ⟨b, 0, none⟩), .iface T v] 146) := ⟨_, rfl⟩
 have hb : Below X.heap.size X B := by rw [hB]; exact (Below.refl _ _).alloc (Nat.le_refl _) _
 have eB : B.heap[X.heap.size]? = some (.cells #[.pointer (some ⟨b, 0, none⟩), .iface T v] 146 (0, 0)) := by rw [hB]; exact heap_alloc_new _ _
 have hXb : b < X.heap.size := lt_of_heap hX
 have hBX := (hb.block _ hXb).trans hX
 have hRB := H.keep s X B hR (fun q hq _ => hb.block q hq) hb.size
 obtain ⟨SW, hSW⟩ : ∃ SW : World → Prop, SW = fun Y => Y.heap[X.heap.size]? = some (.cells #[.pointer (some ⟨b, 0, none⟩), .iface T v] 146 (0, 0)) := ⟨_, rfl⟩
 have HP := hH (fun (Y : World) (h : SW Y) => (show Y.cell? ⟨X.heap.size, 0, none⟩ = some (.pointer (some ⟨b, 0, none⟩)) ∧ Y.cell? ⟨X.heap.size, 1, none⟩ = some (.iface T v) by
  rw [hSW] at h
  exact ⟨by rw [cell_of_row _ _ 0 _ _ _ h]; rfl, by rw [cell_of_row _ _ 1 _ _ _ h]; rfl⟩))
 have hS0 : SW B.drew := by rw [hSW]; exact eB
 have HSM := hH (fun (Y : World) (h : Y.heap[X.heap.size]? = B.heap[X.heap.size]?) => (show SW Y by rw [hSW]; exact h.trans eB))
 have HB := hH (aN hb (aN hB (aN hBX (aN hXb (show X.heap.size < B.heap.size from lt_of_heap eB)))))
 have HH := hH H
 have HR := hH hRB
 have hcell : B.drew.cell? ⟨b, 1, none⟩ = some (.int .i64 n) := by show B.cell? _ = _; rw [cell_of_row _ _ 1 _ _ _ hBX]; exact hn
 have hk0 : B.drew.cell? ⟨b, 0, none⟩ = some (.int .i8 kd) := by show B.cell? _ = _; rw [cell_of_row _ _ 0 _ _ _ hBX]; exact hk
 have HCL := hH (qD B.drew kd)
 rw [hc] at HCL
 have HPA := hH (Zn H s B.drew n (H.keep s B B.drew hRB (fun _ _ _ => rfl) (Nat.le_refl _)) (nL hXb hb.size))
 have HI := hH (fun q (h : O q) => H.inn s X q hR h)
 have HN := hH hn
 clear hb hB eB hXb hBX hRB hSW hR hX hn H hk hc
 go_enter Tryz.func105, Tryz.ntmps105
 go_upto_region 1 with fail
 change Code.wp _ _ _ _ (X.alloc (.cells #[.pointer (some ⟨b, 0, none⟩), .iface T v] 146))
 rw [← HB.out.2.1]
 refine wp_region_held_drew (S := SW) (by kernel_rfl) hS0 (fun hHeld => ?_)
 clear hS0
 refine tkH (i := 0) (.pointer (some ⟨X.heap.size, 0, none⟩)) rfl (Or.inl ⟨by rfl, ?_⟩) (by assumption) ?_
 · clear hHeld; intro Y hSw; clear hSw; go_simp
 simp only [Act.put, pg]
 refine tkH (i := 1) (.pointer (some ⟨b, 0, none⟩)) rfl (Or.inl ⟨by rfl, ?_⟩) (by assumption) ?_
 · clear hHeld; intro Y hSw; obtain ⟨p0, p1⟩ := HP.out Y hSw; clear hSw; go_simp
 simp only [Act.put, pg]
 refine tkH (i := 2) (.agg #[.pointer (some ⟨b, 0, none⟩), .iface T v]) rfl (Or.inl ⟨by rfl, ?_⟩) (by assumption) ?_
 · clear hHeld; intro Y hSw; obtain ⟨p0, p1⟩ := HP.out Y hSw; clear hSw; go_simp
 simp only [Act.put, pg]
 refine tkH (i := 3) (.pointer (some ⟨X.heap.size, 0, none⟩)) rfl (Or.inl ⟨by rfl, ?_⟩) (by assumption) ?_
 · clear hHeld; intro Y hSw; clear hSw; go_simp
 simp only [Act.put, pg]
 refine tkH (i := 4) (.pointer (some ⟨b, 0, none⟩)) rfl (Or.inl ⟨by rfl, ?_⟩) (by assumption) ?_
 · clear hHeld; intro Y hSw; obtain ⟨p0, p1⟩ := HP.out Y hSw; clear hSw; go_simp
 simp only [Act.put, pg]
 refine tkH (i := 5) (.pointer (some ⟨b, 0, none⟩)) rfl (Or.inl ⟨by rfl, ?_⟩) (by assumption) ?_
 · clear hHeld; intro Y hSw; clear hSw; go_simp
 simp only [Act.put, pg]
 refine tkH (i := 6) (.pointer (some ⟨b, 1, none⟩)) rfl (Or.inl ⟨by rfl, ?_⟩) (by assumption) ?_
 · clear hHeld; intro Y hSw; clear hSw; go_simp
 simp only [Act.put, pg]
 refine tkH (i := 8) (.pointer (some ⟨X.heap.size, 0, none⟩)) rfl (Or.inl ⟨by rfl, ?_⟩) (by assumption) ?_
 · clear hHeld; intro Y hSw; clear hSw; go_simp
 simp only [Act.put, pg]
 refine tkH (i := 9) (.pointer (some ⟨b, 0, none⟩)) rfl (Or.inl ⟨by rfl, ?_⟩) (by assumption) ?_
 · clear hHeld; intro Y hSw; obtain ⟨p0, p1⟩ := HP.out Y hSw; clear hSw; go_simp
 simp only [Act.put, pg]
 refine tkH (i := 10) (.pointer (some ⟨b, 0, none⟩)) rfl (Or.inl ⟨by rfl, ?_⟩) (by assumption) ?_
 · clear hHeld; intro Y hSw; clear hSw; go_simp
 simp only [Act.put, pg]
 refine tkH (i := 11) (.pointer (some ⟨b, 0, none⟩)) rfl (Or.inl ⟨by rfl, ?_⟩) (by assumption) ?_
 · clear hHeld; intro Y hSw; clear hSw; go_simp
 simp only [Act.put, pg]
 have hH0 := hHeld
 refine wpAnyH_ready (rs := [7, 12]) (by kernel_rfl) (by simp) ?_
 refine AllReadyH.cons (o := _) rfl (fun K hK => ?_) (AllReadyH.cons (o := _) rfl (fun K hK => ?_) AllReadyH.nil)
 · rw [if_pos (by rfl)]
   simp only [pg3]
   have HK := hH hK
   have HS := hH hHeld
   clear hK hHeld
   go_wp2_with fail
   refine HK.out _ _ hH0 (fun hHeld => ?_)
   clear HK HS
   refine wpAnyH_ready (rs := [12]) (by kernel_rfl) (by simp) ?_
   refine AllReadyH.cons (o := _) rfl (fun K hK => ?_) AllReadyH.nil
   rw [if_pos (by rfl)]
   simp only [pg3]
   have HK := hH hK
   have HS := hH hHeld
   clear hK hHeld
   go_wp2_with fail
   refine HK.out _ _ hH0 (fun hHeld => ?_)
   clear HK HS
   clear hcell hk0
   refine wpAnyH_ready (rs := [13]) (by kernel_rfl) (by simp) ?_
   refine AllReadyH.cons (o := _) rfl (fun K hK => ?_) AllReadyH.nil
   rw [if_pos (by rfl)]
   simp only [pg3]
   have HK := hH hK
   have HS := hH hHeld
   clear hK hHeld
   go_wp2_with fail
   refine HCL.out.mono ?_
   rintro e W0 ⟨rfl, hw0⟩
   rw [hw0]
   clear hw0
   go_wp2_with fail
   refine HK.out _ _ hH0 (fun hHeld => ?_)
   clear HK HS
   refine wpAnyH_ready (rs := [14]) (by kernel_rfl) (by simp) ?_
   refine AllReadyH.cons (o := _) rfl (fun K hK => ?_) AllReadyH.nil
   rw [if_pos (by rfl)]
   simp only [pg3]
   have HK := hH hK
   have HS := hH hHeld
   clear hK hHeld
   go_wp2_with fail
   refine HPA.out.mono ?_
   intro e W' hq
   unfold qF at hq
   cases ho : num s n 0 0 with
   | none =>
     rw [ho] at hq
     obtain ⟨rfl, ht⟩ := hq
     refine ⟨rfl, ?_⟩
     show zA G R O none b cs 1 X _ _
     have ht2 := zq ht (S' := fun q => O q ∨ q = b) (fun q h => Or.inl h)
     exact ⟨rfl, ht2.os.trans HB.out.1.os, ht2.tape.trans HB.out.1.tape, ht2.output.trans HB.out.1.output, Nat.le_trans HB.out.1.size ht2.size, fun k h1 h2 => (ht2.block k (nL h1 HB.out.1.size) h2).trans (HB.out.1.block k h1)⟩
   | some ms =>
     obtain ⟨m, s'⟩ := ms
     rw [ho] at hq
     obtain ⟨rfl, hr, ht⟩ := hq
     have hbW : W'.heap[b]? = some (.cells cs 37 (0, 0)) := (ht.block b (nL HB.out.2.2.2.1 HB.out.1.size) HH.out.apart).trans HB.out.2.2.1
     have hpW : W'.heap[X.heap.size]? = B.heap[X.heap.size]? := ht.block _ HB.out.2.2.2.2 (fun h => by have := HI.out _ h; omega)
     have c0 : W'.cell? ⟨b, 1, none⟩ = some (.int .i64 n) := by rw [cell_of_row _ _ 1 _ _ _ hbW]; exact HN.out
     have cf : ∀ j, W'.frozen? ⟨b, j, none⟩ = false := fun j => frozen_of_row _ _ j _ _ hbW
     have HW := hH (aN hbW (aN hpW (aN hr ht)))
     obtain ⟨Z, hZ⟩ : ∃ Z, Z = W'.setCell ⟨b, 1, none⟩ (.int .i64 m) := ⟨_, rfl⟩
     have hZs : za W' Z (fun q => q = b) := by rw [hZ]; exact zt
     have hZb : Z.heap[b]? = some (.cells (cs.setIfInBounds 1 (.int .i64 m)) 37 (0, 0)) := by rw [hZ]; exact heap_setCell_same _ _ _ _ _ _ hbW
     have hE : zA G R O (some (m, s')) b cs 1 X (.returned (.tuple #[])) Z := by
      refine ⟨rfl, fun g => HH.out.keep s' W' Z (hr g) (fun q h1 h2 => hZs.block q h1 h2) hZs.size, hZb, ?_⟩
      exact ⟨hZs.os.trans (ht.os.trans HB.out.1.os), hZs.tape.trans (ht.tape.trans HB.out.1.tape), hZs.output.trans (ht.output.trans HB.out.1.output), Nat.le_trans HB.out.1.size (Nat.le_trans ht.size hZs.size), fun k h1 h2 => (hZs.block k (nL h1 (Nat.le_trans HB.out.1.size ht.size)) (fun h => h2 (Or.inr h))).trans ((ht.block k (nL h1 HB.out.1.size) (fun h => h2 (Or.inl h))).trans (HB.out.1.block k h1))⟩
     have HE := hH (aN hE (aN hZ (show Z.heap[X.heap.size]? = B.heap[X.heap.size]? from (hZs.block _ (nL HB.out.2.2.2.2 ht.size) (by have := HB.out.2.2.2.1; omega)).trans hpW)))
     clear hbW hpW hr ht hZ hZs hZb hE
     go_wp2_with fail
     refine HK.out _ _ (HSM.out _ HW.out.2.1) (fun hHeld => ?_)
     clear HK HS
     refine tkH (i := 15) (.pointer (some ⟨b, 0, none⟩)) rfl (Or.inl ⟨by rfl, ?_⟩) (by assumption) ?_
     · clear hHeld; intro Y hSw; clear hSw; go_simp
     simp only [Act.put, pg]
     refine tkH (i := 16) (.pointer (some ⟨b, 1, none⟩)) rfl (Or.inl ⟨by rfl, ?_⟩) (by assumption) ?_
     · clear hHeld; intro Y hSw; clear hSw; go_simp
     simp only [Act.put, pg]
     refine wpAnyH_ready (rs := [17]) (by kernel_rfl) (by simp) ?_
     refine AllReadyH.cons (o := _) rfl (fun K hK => ?_) AllReadyH.nil
     rw [if_pos (by rfl)]
     simp only [pg3]
     have HK := hH hK
     have HS := hH hHeld
     clear hK hHeld
     go_wp2_with fail
     rw [← HE.out.2.1]
     refine HK.out _ _ (HSM.out _ HE.out.2.2) (fun hHeld => ?_)
     clear HK HS c0 cf
     refine wpAnyH_done (by kernel_rfl) ?_ _
     clear hHeld
     go_wp2_with fail
     go_end0
     rw [ho]
     exact HE.out.1
 · rw [if_pos (by rfl)]
   simp only [pg3]
   have HK := hH hK
   have HS := hH hHeld
   clear hK hHeld
   go_wp2_with fail
   refine HK.out _ _ hH0 (fun hHeld => ?_)
   clear HK HS
   have hH1 := hHeld
   refine wpAnyH_ready (rs := [7, 13]) (by kernel_rfl) (by simp) ?_
   refine AllReadyH.cons (o := _) rfl (fun K hK => ?_) (AllReadyH.cons (o := _) rfl (fun K hK => ?_) AllReadyH.nil)
   · rw [if_pos (by rfl)]
     simp only [pg3]
     have HK := hH hK
     have HS := hH hHeld
     clear hK hHeld
     go_wp2_with fail
     refine HK.out _ _ hH0 (fun hHeld => ?_)
     clear HK HS
     clear hcell hk0
     refine wpAnyH_ready (rs := [13]) (by kernel_rfl) (by simp) ?_
     refine AllReadyH.cons (o := _) rfl (fun K hK => ?_) AllReadyH.nil
     rw [if_pos (by rfl)]
     simp only [pg3]
     have HK := hH hK
     have HS := hH hHeld
     clear hK hHeld
     go_wp2_with fail
     refine HCL.out.mono ?_
     rintro e W0 ⟨rfl, hw0⟩
     rw [hw0]
     clear hw0
     go_wp2_with fail
     refine HK.out _ _ hH0 (fun hHeld => ?_)
     clear HK HS
     refine wpAnyH_ready (rs := [14]) (by kernel_rfl) (by simp) ?_
     refine AllReadyH.cons (o := _) rfl (fun K hK => ?_) AllReadyH.nil
     rw [if_pos (by rfl)]
     simp only [pg3]
     have HK := hH hK
     have HS := hH hHeld
     clear hK hHeld
     go_wp2_with fail
     refine HPA.out.mono ?_
     intro e W' hq
     unfold qF at hq
     cases ho : num s n 0 0 with
     | none =>
       rw [ho] at hq
       obtain ⟨rfl, ht⟩ := hq
       refine ⟨rfl, ?_⟩
       show zA G R O none b cs 1 X _ _
       have ht2 := zq ht (S' := fun q => O q ∨ q = b) (fun q h => Or.inl h)
       exact ⟨rfl, ht2.os.trans HB.out.1.os, ht2.tape.trans HB.out.1.tape, ht2.output.trans HB.out.1.output, Nat.le_trans HB.out.1.size ht2.size, fun k h1 h2 => (ht2.block k (nL h1 HB.out.1.size) h2).trans (HB.out.1.block k h1)⟩
     | some ms =>
       obtain ⟨m, s'⟩ := ms
       rw [ho] at hq
       obtain ⟨rfl, hr, ht⟩ := hq
       have hbW : W'.heap[b]? = some (.cells cs 37 (0, 0)) := (ht.block b (nL HB.out.2.2.2.1 HB.out.1.size) HH.out.apart).trans HB.out.2.2.1
       have hpW : W'.heap[X.heap.size]? = B.heap[X.heap.size]? := ht.block _ HB.out.2.2.2.2 (fun h => by have := HI.out _ h; omega)
       have c0 : W'.cell? ⟨b, 1, none⟩ = some (.int .i64 n) := by rw [cell_of_row _ _ 1 _ _ _ hbW]; exact HN.out
       have cf : ∀ j, W'.frozen? ⟨b, j, none⟩ = false := fun j => frozen_of_row _ _ j _ _ hbW
       have HW := hH (aN hbW (aN hpW (aN hr ht)))
       obtain ⟨Z, hZ⟩ : ∃ Z, Z = W'.setCell ⟨b, 1, none⟩ (.int .i64 m) := ⟨_, rfl⟩
       have hZs : za W' Z (fun q => q = b) := by rw [hZ]; exact zt
       have hZb : Z.heap[b]? = some (.cells (cs.setIfInBounds 1 (.int .i64 m)) 37 (0, 0)) := by rw [hZ]; exact heap_setCell_same _ _ _ _ _ _ hbW
       have hE : zA G R O (some (m, s')) b cs 1 X (.returned (.tuple #[])) Z := by
        refine ⟨rfl, fun g => HH.out.keep s' W' Z (hr g) (fun q h1 h2 => hZs.block q h1 h2) hZs.size, hZb, ?_⟩
        exact ⟨hZs.os.trans (ht.os.trans HB.out.1.os), hZs.tape.trans (ht.tape.trans HB.out.1.tape), hZs.output.trans (ht.output.trans HB.out.1.output), Nat.le_trans HB.out.1.size (Nat.le_trans ht.size hZs.size), fun k h1 h2 => (hZs.block k (nL h1 (Nat.le_trans HB.out.1.size ht.size)) (fun h => h2 (Or.inr h))).trans ((ht.block k (nL h1 HB.out.1.size) (fun h => h2 (Or.inl h))).trans (HB.out.1.block k h1))⟩
       have HE := hH (aN hE (aN hZ (show Z.heap[X.heap.size]? = B.heap[X.heap.size]? from (hZs.block _ (nL HB.out.2.2.2.2 ht.size) (by have := HB.out.2.2.2.1; omega)).trans hpW)))
       clear hbW hpW hr ht hZ hZs hZb hE
       go_wp2_with fail
       refine HK.out _ _ (HSM.out _ HW.out.2.1) (fun hHeld => ?_)
       clear HK HS
       refine tkH (i := 15) (.pointer (some ⟨b, 0, none⟩)) rfl (Or.inl ⟨by rfl, ?_⟩) (by assumption) ?_
       · clear hHeld; intro Y hSw; clear hSw; go_simp
       simp only [Act.put, pg]
       refine tkH (i := 16) (.pointer (some ⟨b, 1, none⟩)) rfl (Or.inl ⟨by rfl, ?_⟩) (by assumption) ?_
       · clear hHeld; intro Y hSw; clear hSw; go_simp
       simp only [Act.put, pg]
       refine wpAnyH_ready (rs := [17]) (by kernel_rfl) (by simp) ?_
       refine AllReadyH.cons (o := _) rfl (fun K hK => ?_) AllReadyH.nil
       rw [if_pos (by rfl)]
       simp only [pg3]
       have HK := hH hK
       have HS := hH hHeld
       clear hK hHeld
       go_wp2_with fail
       rw [← HE.out.2.1]
       refine HK.out _ _ (HSM.out _ HE.out.2.2) (fun hHeld => ?_)
       clear HK HS c0 cf
       refine wpAnyH_done (by kernel_rfl) ?_ _
       clear hHeld
       go_wp2_with fail
       go_end0
       rw [ho]
       exact HE.out.1
   · rw [if_pos (by rfl)]
     simp only [pg3]
     have HK := hH hK
     have HS := hH hHeld
     clear hK hHeld
     go_wp2_with fail
     refine HCL.out.mono ?_
     rintro e W0 ⟨rfl, hw0⟩
     rw [hw0]
     clear hw0
     go_wp2_with fail
     refine HK.out _ _ hH0 (fun hHeld => ?_)
     clear HK HS
     refine wpAnyH_ready (rs := [7]) (by kernel_rfl) (by simp) ?_
     refine AllReadyH.cons (o := _) rfl (fun K hK => ?_) AllReadyH.nil
     rw [if_pos (by rfl)]
     simp only [pg3]
     have HK := hH hK
     have HS := hH hHeld
     clear hK hHeld
     go_wp2_with fail
     refine HK.out _ _ hH0 (fun hHeld => ?_)
     clear HK HS hcell hk0
     refine wpAnyH_ready (rs := [14]) (by kernel_rfl) (by simp) ?_
     refine AllReadyH.cons (o := _) rfl (fun K hK => ?_) AllReadyH.nil
     rw [if_pos (by rfl)]
     simp only [pg3]
     have HK := hH hK
     have HS := hH hHeld
     clear hK hHeld
     go_wp2_with fail
     refine HPA.out.mono ?_
     intro e W' hq
     unfold qF at hq
     cases ho : num s n 0 0 with
     | none =>
       rw [ho] at hq
       obtain ⟨rfl, ht⟩ := hq
       refine ⟨rfl, ?_⟩
       show zA G R O none b cs 1 X _ _
       have ht2 := zq ht (S' := fun q => O q ∨ q = b) (fun q h => Or.inl h)
       exact ⟨rfl, ht2.os.trans HB.out.1.os, ht2.tape.trans HB.out.1.tape, ht2.output.trans HB.out.1.output, Nat.le_trans HB.out.1.size ht2.size, fun k h1 h2 => (ht2.block k (nL h1 HB.out.1.size) h2).trans (HB.out.1.block k h1)⟩
     | some ms =>
       obtain ⟨m, s'⟩ := ms
       rw [ho] at hq
       obtain ⟨rfl, hr, ht⟩ := hq
       have hbW : W'.heap[b]? = some (.cells cs 37 (0, 0)) := (ht.block b (nL HB.out.2.2.2.1 HB.out.1.size) HH.out.apart).trans HB.out.2.2.1
       have hpW : W'.heap[X.heap.size]? = B.heap[X.heap.size]? := ht.block _ HB.out.2.2.2.2 (fun h => by have := HI.out _ h; omega)
       have c0 : W'.cell? ⟨b, 1, none⟩ = some (.int .i64 n) := by rw [cell_of_row _ _ 1 _ _ _ hbW]; exact HN.out
       have cf : ∀ j, W'.frozen? ⟨b, j, none⟩ = false := fun j => frozen_of_row _ _ j _ _ hbW
       have HW := hH (aN hbW (aN hpW (aN hr ht)))
       obtain ⟨Z, hZ⟩ : ∃ Z, Z = W'.setCell ⟨b, 1, none⟩ (.int .i64 m) := ⟨_, rfl⟩
       have hZs : za W' Z (fun q => q = b) := by rw [hZ]; exact zt
       have hZb : Z.heap[b]? = some (.cells (cs.setIfInBounds 1 (.int .i64 m)) 37 (0, 0)) := by rw [hZ]; exact heap_setCell_same _ _ _ _ _ _ hbW
       have hE : zA G R O (some (m, s')) b cs 1 X (.returned (.tuple #[])) Z := by
        refine ⟨rfl, fun g => HH.out.keep s' W' Z (hr g) (fun q h1 h2 => hZs.block q h1 h2) hZs.size, hZb, ?_⟩
        exact ⟨hZs.os.trans (ht.os.trans HB.out.1.os), hZs.tape.trans (ht.tape.trans HB.out.1.tape), hZs.output.trans (ht.output.trans HB.out.1.output), Nat.le_trans HB.out.1.size (Nat.le_trans ht.size hZs.size), fun k h1 h2 => (hZs.block k (nL h1 (Nat.le_trans HB.out.1.size ht.size)) (fun h => h2 (Or.inr h))).trans ((ht.block k (nL h1 HB.out.1.size) (fun h => h2 (Or.inl h))).trans (HB.out.1.block k h1))⟩
       have HE := hH (aN hE (aN hZ (show Z.heap[X.heap.size]? = B.heap[X.heap.size]? from (hZs.block _ (nL HB.out.2.2.2.2 ht.size) (by have := HB.out.2.2.2.1; omega)).trans hpW)))
       clear hbW hpW hr ht hZ hZs hZb hE
       go_wp2_with fail
       refine HK.out _ _ (HSM.out _ HW.out.2.1) (fun hHeld => ?_)
       clear HK HS
       refine tkH (i := 15) (.pointer (some ⟨b, 0, none⟩)) rfl (Or.inl ⟨by rfl, ?_⟩) (by assumption) ?_
       · clear hHeld; intro Y hSw; clear hSw; go_simp
       simp only [Act.put, pg]
       refine tkH (i := 16) (.pointer (some ⟨b, 1, none⟩)) rfl (Or.inl ⟨by rfl, ?_⟩) (by assumption) ?_
       · clear hHeld; intro Y hSw; clear hSw; go_simp
       simp only [Act.put, pg]
       refine wpAnyH_ready (rs := [17]) (by kernel_rfl) (by simp) ?_
       refine AllReadyH.cons (o := _) rfl (fun K hK => ?_) AllReadyH.nil
       rw [if_pos (by rfl)]
       simp only [pg3]
       have HK := hH hK
       have HS := hH hHeld
       clear hK hHeld
       go_wp2_with fail
       rw [← HE.out.2.1]
       refine HK.out _ _ (HSM.out _ HE.out.2.2) (fun hHeld => ?_)
       clear HK HS c0 cf
       refine wpAnyH_done (by kernel_rfl) ?_ _
       clear hHeld
       go_wp2_with fail
       go_end0
       rw [ho]
       exact HE.out.1
theorem zd0 {σ : Type} {G : σ → Prop} {R : σ → World → Prop} {O : Nat → Prop} {num : σ → Int → Int → Int → Option (Int × σ)} {b : Nat} {T : TypeId} {v rv : Value} {fn : FuncId} (H : yB G R O num b T v rv fn) (s : σ) (X : World) (cs : Array Value) (n kd : Int) (hR : R s X) (hX : X.heap[b]? = some (.cells cs 37 (0, 0))) (hn : cs[2]? = some (.int .i64 n)) (hk : cs[0]? = some (.int .i8 kd)) (hc : decide (kd = 2 ∨ kd = 5 ∨ kd = 9) = true) :
 Calls Tryz.prog 106 #[.agg #[.pointer (some ⟨b, 0, none⟩), .iface T v]] X (zA G R O (num s n 0 0) b cs 2 X) := by
 obtain ⟨B, hB⟩ : ∃ B, B = X.alloc (.cells #[.pointer (some ⟨b, 0, none⟩), .iface T v] 146) := ⟨_, rfl⟩
 have hb : Below X.heap.size X B := by rw [hB]; exact (Below.refl _ _).alloc (Nat.le_refl _) _
 have eB : B.heap[X.heap.size]? = some (.cells #[.pointer (some ⟨b, 0, none⟩), .iface T v] 146 (0, 0)) := by rw [hB]; exact heap_alloc_new _ _
 have hXb : b < X.heap.size := lt_of_heap hX
 have hBX := (hb.block _ hXb).trans hX
 have hRB := H.keep s X B hR (fun q hq _ => hb.block q hq) hb.size
 obtain ⟨SW, hSW⟩ : ∃ SW : World → Prop, SW = fun Y => Y.heap[X.heap.size]? = some (.cells #[.pointer (some ⟨b, 0, none⟩), .iface T v] 146 (0, 0)) := ⟨_, rfl⟩
 have HP := hH (fun (Y : World) (h : SW Y) => (show Y.cell? ⟨X.heap.size, 0, none⟩ = some (.pointer (some ⟨b, 0, none⟩)) ∧ Y.cell? ⟨X.heap.size, 1, none⟩ = some (.iface T v) by
  rw [hSW] at h
  exact ⟨by rw [cell_of_row _ _ 0 _ _ _ h]; rfl, by rw [cell_of_row _ _ 1 _ _ _ h]; rfl⟩))
 have hS0 : SW B.drew := by rw [hSW]; exact eB
 have HSM := hH (fun (Y : World) (h : Y.heap[X.heap.size]? = B.heap[X.heap.size]?) => (show SW Y by rw [hSW]; exact h.trans eB))
 have HB := hH (aN hb (aN hB (aN hBX (aN hXb (show X.heap.size < B.heap.size from lt_of_heap eB)))))
 have HH := hH H
 have HR := hH hRB
 have hcell : B.drew.cell? ⟨b, 2, none⟩ = some (.int .i64 n) := by show B.cell? _ = _; rw [cell_of_row _ _ 2 _ _ _ hBX]; exact hn
 have hk0 : B.drew.cell? ⟨b, 0, none⟩ = some (.int .i8 kd) := by show B.cell? _ = _; rw [cell_of_row _ _ 0 _ _ _ hBX]; exact hk
 have HCL := hH (qD B.drew kd)
 rw [hc] at HCL
 have HPA := hH (Zn H s B.drew n (H.keep s B B.drew hRB (fun _ _ _ => rfl) (Nat.le_refl _)) (nL hXb hb.size))
 have HI := hH (fun q (h : O q) => H.inn s X q hR h)
 have HN := hH hn
 clear hb hB eB hXb hBX hRB hSW hR hX hn H hk hc
 go_enter Tryz.func106, Tryz.ntmps106
 go_upto_region 1 with fail
 change Code.wp _ _ _ _ (X.alloc (.cells #[.pointer (some ⟨b, 0, none⟩), .iface T v] 146))
 rw [← HB.out.2.1]
 refine wp_region_held_drew (S := SW) (by kernel_rfl) hS0 (fun hHeld => ?_)
 clear hS0
 refine tkH (i := 0) (.pointer (some ⟨X.heap.size, 0, none⟩)) rfl (Or.inl ⟨by rfl, ?_⟩) (by assumption) ?_
 · clear hHeld; intro Y hSw; clear hSw; go_simp
 simp only [Act.put, pg]
 refine tkH (i := 1) (.pointer (some ⟨b, 0, none⟩)) rfl (Or.inl ⟨by rfl, ?_⟩) (by assumption) ?_
 · clear hHeld; intro Y hSw; obtain ⟨p0, p1⟩ := HP.out Y hSw; clear hSw; go_simp
 simp only [Act.put, pg]
 refine tkH (i := 2) (.agg #[.pointer (some ⟨b, 0, none⟩), .iface T v]) rfl (Or.inl ⟨by rfl, ?_⟩) (by assumption) ?_
 · clear hHeld; intro Y hSw; obtain ⟨p0, p1⟩ := HP.out Y hSw; clear hSw; go_simp
 simp only [Act.put, pg]
 refine tkH (i := 3) (.pointer (some ⟨X.heap.size, 0, none⟩)) rfl (Or.inl ⟨by rfl, ?_⟩) (by assumption) ?_
 · clear hHeld; intro Y hSw; clear hSw; go_simp
 simp only [Act.put, pg]
 refine tkH (i := 4) (.pointer (some ⟨b, 0, none⟩)) rfl (Or.inl ⟨by rfl, ?_⟩) (by assumption) ?_
 · clear hHeld; intro Y hSw; obtain ⟨p0, p1⟩ := HP.out Y hSw; clear hSw; go_simp
 simp only [Act.put, pg]
 refine tkH (i := 5) (.pointer (some ⟨b, 0, none⟩)) rfl (Or.inl ⟨by rfl, ?_⟩) (by assumption) ?_
 · clear hHeld; intro Y hSw; clear hSw; go_simp
 simp only [Act.put, pg]
 refine tkH (i := 6) (.pointer (some ⟨b, 2, none⟩)) rfl (Or.inl ⟨by rfl, ?_⟩) (by assumption) ?_
 · clear hHeld; intro Y hSw; clear hSw; go_simp
 simp only [Act.put, pg]
 refine tkH (i := 8) (.pointer (some ⟨X.heap.size, 0, none⟩)) rfl (Or.inl ⟨by rfl, ?_⟩) (by assumption) ?_
 · clear hHeld; intro Y hSw; clear hSw; go_simp
 simp only [Act.put, pg]
 refine tkH (i := 9) (.pointer (some ⟨b, 0, none⟩)) rfl (Or.inl ⟨by rfl, ?_⟩) (by assumption) ?_
 · clear hHeld; intro Y hSw; obtain ⟨p0, p1⟩ := HP.out Y hSw; clear hSw; go_simp
 simp only [Act.put, pg]
 refine tkH (i := 10) (.pointer (some ⟨b, 0, none⟩)) rfl (Or.inl ⟨by rfl, ?_⟩) (by assumption) ?_
 · clear hHeld; intro Y hSw; clear hSw; go_simp
 simp only [Act.put, pg]
 refine tkH (i := 11) (.pointer (some ⟨b, 0, none⟩)) rfl (Or.inl ⟨by rfl, ?_⟩) (by assumption) ?_
 · clear hHeld; intro Y hSw; clear hSw; go_simp
 simp only [Act.put, pg]
 have hH0 := hHeld
 refine wpAnyH_ready (rs := [7, 12]) (by kernel_rfl) (by simp) ?_
 refine AllReadyH.cons (o := _) rfl (fun K hK => ?_) (AllReadyH.cons (o := _) rfl (fun K hK => ?_) AllReadyH.nil)
 · rw [if_pos (by rfl)]
   simp only [pg3]
   have HK := hH hK
   have HS := hH hHeld
   clear hK hHeld
   go_wp2_with fail
   refine HK.out _ _ hH0 (fun hHeld => ?_)
   clear HK HS
   refine wpAnyH_ready (rs := [12]) (by kernel_rfl) (by simp) ?_
   refine AllReadyH.cons (o := _) rfl (fun K hK => ?_) AllReadyH.nil
   rw [if_pos (by rfl)]
   simp only [pg3]
   have HK := hH hK
   have HS := hH hHeld
   clear hK hHeld
   go_wp2_with fail
   refine HK.out _ _ hH0 (fun hHeld => ?_)
   clear HK HS
   clear hcell hk0
   refine wpAnyH_ready (rs := [13]) (by kernel_rfl) (by simp) ?_
   refine AllReadyH.cons (o := _) rfl (fun K hK => ?_) AllReadyH.nil
   rw [if_pos (by rfl)]
   simp only [pg3]
   have HK := hH hK
   have HS := hH hHeld
   clear hK hHeld
   go_wp2_with fail
   refine HCL.out.mono ?_
   rintro e W0 ⟨rfl, hw0⟩
   rw [hw0]
   clear hw0
   go_wp2_with fail
   refine HK.out _ _ hH0 (fun hHeld => ?_)
   clear HK HS
   refine tkH (i := 14) (.bool false) rfl (Or.inl ⟨by rfl, ?_⟩) (by assumption) ?_
   · clear hHeld; intro Y hSw; clear hSw; go_simp
   simp only [Act.put, pg]
   refine wpAnyH_ready (rs := [15]) (by kernel_rfl) (by simp) ?_
   refine AllReadyH.cons (o := _) rfl (fun K hK => ?_) AllReadyH.nil
   rw [if_pos (by rfl)]
   simp only [pg3]
   have HK := hH hK
   have HS := hH hHeld
   clear hK hHeld
   go_wp2_with fail
   refine HPA.out.mono ?_
   intro e W' hq
   unfold qF at hq
   cases ho : num s n 0 0 with
   | none =>
     rw [ho] at hq
     obtain ⟨rfl, ht⟩ := hq
     refine ⟨rfl, ?_⟩
     show zA G R O none b cs 2 X _ _
     have ht2 := zq ht (S' := fun q => O q ∨ q = b) (fun q h => Or.inl h)
     exact ⟨rfl, ht2.os.trans HB.out.1.os, ht2.tape.trans HB.out.1.tape, ht2.output.trans HB.out.1.output, Nat.le_trans HB.out.1.size ht2.size, fun k h1 h2 => (ht2.block k (nL h1 HB.out.1.size) h2).trans (HB.out.1.block k h1)⟩
   | some ms =>
     obtain ⟨m, s'⟩ := ms
     rw [ho] at hq
     obtain ⟨rfl, hr, ht⟩ := hq
     have hbW : W'.heap[b]? = some (.cells cs 37 (0, 0)) := (ht.block b (nL HB.out.2.2.2.1 HB.out.1.size) HH.out.apart).trans HB.out.2.2.1
     have hpW : W'.heap[X.heap.size]? = B.heap[X.heap.size]? := ht.block _ HB.out.2.2.2.2 (fun h => by have := HI.out _ h; omega)
     have c0 : W'.cell? ⟨b, 2, none⟩ = some (.int .i64 n) := by rw [cell_of_row _ _ 2 _ _ _ hbW]; exact HN.out
     have cf : ∀ j, W'.frozen? ⟨b, j, none⟩ = false := fun j => frozen_of_row _ _ j _ _ hbW
     have HW := hH (aN hbW (aN hpW (aN hr ht)))
     obtain ⟨Z, hZ⟩ : ∃ Z, Z = W'.setCell ⟨b, 2, none⟩ (.int .i64 m) := ⟨_, rfl⟩
     have hZs : za W' Z (fun q => q = b) := by rw [hZ]; exact zt
     have hZb : Z.heap[b]? = some (.cells (cs.setIfInBounds 2 (.int .i64 m)) 37 (0, 0)) := by rw [hZ]; exact heap_setCell_same _ _ _ _ _ _ hbW
     have hE : zA G R O (some (m, s')) b cs 2 X (.returned (.tuple #[])) Z := by
      refine ⟨rfl, fun g => HH.out.keep s' W' Z (hr g) (fun q h1 h2 => hZs.block q h1 h2) hZs.size, hZb, ?_⟩
      exact ⟨hZs.os.trans (ht.os.trans HB.out.1.os), hZs.tape.trans (ht.tape.trans HB.out.1.tape), hZs.output.trans (ht.output.trans HB.out.1.output), Nat.le_trans HB.out.1.size (Nat.le_trans ht.size hZs.size), fun k h1 h2 => (hZs.block k (nL h1 (Nat.le_trans HB.out.1.size ht.size)) (fun h => h2 (Or.inr h))).trans ((ht.block k (nL h1 HB.out.1.size) (fun h => h2 (Or.inl h))).trans (HB.out.1.block k h1))⟩
     have HE := hH (aN hE (aN hZ (show Z.heap[X.heap.size]? = B.heap[X.heap.size]? from (hZs.block _ (nL HB.out.2.2.2.2 ht.size) (by have := HB.out.2.2.2.1; omega)).trans hpW)))
     clear hbW hpW hr ht hZ hZs hZb hE
     go_wp2_with fail
     refine HK.out _ _ (HSM.out _ HW.out.2.1) (fun hHeld => ?_)
     clear HK HS
     refine tkH (i := 16) (.pointer (some ⟨b, 0, none⟩)) rfl (Or.inl ⟨by rfl, ?_⟩) (by assumption) ?_
     · clear hHeld; intro Y hSw; clear hSw; go_simp
     simp only [Act.put, pg]
     refine tkH (i := 17) (.pointer (some ⟨b, 2, none⟩)) rfl (Or.inl ⟨by rfl, ?_⟩) (by assumption) ?_
     · clear hHeld; intro Y hSw; clear hSw; go_simp
     simp only [Act.put, pg]
     refine wpAnyH_ready (rs := [18]) (by kernel_rfl) (by simp) ?_
     refine AllReadyH.cons (o := _) rfl (fun K hK => ?_) AllReadyH.nil
     rw [if_pos (by rfl)]
     simp only [pg3]
     have HK := hH hK
     have HS := hH hHeld
     clear hK hHeld
     go_wp2_with fail
     rw [← HE.out.2.1]
     refine HK.out _ _ (HSM.out _ HE.out.2.2) (fun hHeld => ?_)
     clear HK HS c0 cf
     refine wpAnyH_done (by kernel_rfl) ?_ _
     clear hHeld
     go_wp2_with fail
     go_end0
     rw [ho]
     exact HE.out.1
 · rw [if_pos (by rfl)]
   simp only [pg3]
   have HK := hH hK
   have HS := hH hHeld
   clear hK hHeld
   go_wp2_with fail
   refine HK.out _ _ hH0 (fun hHeld => ?_)
   clear HK HS
   have hH1 := hHeld
   refine wpAnyH_ready (rs := [7, 13]) (by kernel_rfl) (by simp) ?_
   refine AllReadyH.cons (o := _) rfl (fun K hK => ?_) (AllReadyH.cons (o := _) rfl (fun K hK => ?_) AllReadyH.nil)
   · rw [if_pos (by rfl)]
     simp only [pg3]
     have HK := hH hK
     have HS := hH hHeld
     clear hK hHeld
     go_wp2_with fail
     refine HK.out _ _ hH0 (fun hHeld => ?_)
     clear HK HS
     clear hcell hk0
     refine wpAnyH_ready (rs := [13]) (by kernel_rfl) (by simp) ?_
     refine AllReadyH.cons (o := _) rfl (fun K hK => ?_) AllReadyH.nil
     rw [if_pos (by rfl)]
     simp only [pg3]
     have HK := hH hK
     have HS := hH hHeld
     clear hK hHeld
     go_wp2_with fail
     refine HCL.out.mono ?_
     rintro e W0 ⟨rfl, hw0⟩
     rw [hw0]
     clear hw0
     go_wp2_with fail
     refine HK.out _ _ hH0 (fun hHeld => ?_)
     clear HK HS
     refine tkH (i := 14) (.bool false) rfl (Or.inl ⟨by rfl, ?_⟩) (by assumption) ?_
     · clear hHeld; intro Y hSw; clear hSw; go_simp
     simp only [Act.put, pg]
     refine wpAnyH_ready (rs := [15]) (by kernel_rfl) (by simp) ?_
     refine AllReadyH.cons (o := _) rfl (fun K hK => ?_) AllReadyH.nil
     rw [if_pos (by rfl)]
     simp only [pg3]
     have HK := hH hK
     have HS := hH hHeld
     clear hK hHeld
     go_wp2_with fail
     refine HPA.out.mono ?_
     intro e W' hq
     unfold qF at hq
     cases ho : num s n 0 0 with
     | none =>
       rw [ho] at hq
       obtain ⟨rfl, ht⟩ := hq
       refine ⟨rfl, ?_⟩
       show zA G R O none b cs 2 X _ _
       have ht2 := zq ht (S' := fun q => O q ∨ q = b) (fun q h => Or.inl h)
       exact ⟨rfl, ht2.os.trans HB.out.1.os, ht2.tape.trans HB.out.1.tape, ht2.output.trans HB.out.1.output, Nat.le_trans HB.out.1.size ht2.size, fun k h1 h2 => (ht2.block k (nL h1 HB.out.1.size) h2).trans (HB.out.1.block k h1)⟩
     | some ms =>
       obtain ⟨m, s'⟩ := ms
       rw [ho] at hq
       obtain ⟨rfl, hr, ht⟩ := hq
       have hbW : W'.heap[b]? = some (.cells cs 37 (0, 0)) := (ht.block b (nL HB.out.2.2.2.1 HB.out.1.size) HH.out.apart).trans HB.out.2.2.1
       have hpW : W'.heap[X.heap.size]? = B.heap[X.heap.size]? := ht.block _ HB.out.2.2.2.2 (fun h => by have := HI.out _ h; omega)
       have c0 : W'.cell? ⟨b, 2, none⟩ = some (.int .i64 n) := by rw [cell_of_row _ _ 2 _ _ _ hbW]; exact HN.out
       have cf : ∀ j, W'.frozen? ⟨b, j, none⟩ = false := fun j => frozen_of_row _ _ j _ _ hbW
       have HW := hH (aN hbW (aN hpW (aN hr ht)))
       obtain ⟨Z, hZ⟩ : ∃ Z, Z = W'.setCell ⟨b, 2, none⟩ (.int .i64 m) := ⟨_, rfl⟩
       have hZs : za W' Z (fun q => q = b) := by rw [hZ]; exact zt
       have hZb : Z.heap[b]? = some (.cells (cs.setIfInBounds 2 (.int .i64 m)) 37 (0, 0)) := by rw [hZ]; exact heap_setCell_same _ _ _ _ _ _ hbW
       have hE : zA G R O (some (m, s')) b cs 2 X (.returned (.tuple #[])) Z := by
        refine ⟨rfl, fun g => HH.out.keep s' W' Z (hr g) (fun q h1 h2 => hZs.block q h1 h2) hZs.size, hZb, ?_⟩
        exact ⟨hZs.os.trans (ht.os.trans HB.out.1.os), hZs.tape.trans (ht.tape.trans HB.out.1.tape), hZs.output.trans (ht.output.trans HB.out.1.output), Nat.le_trans HB.out.1.size (Nat.le_trans ht.size hZs.size), fun k h1 h2 => (hZs.block k (nL h1 (Nat.le_trans HB.out.1.size ht.size)) (fun h => h2 (Or.inr h))).trans ((ht.block k (nL h1 HB.out.1.size) (fun h => h2 (Or.inl h))).trans (HB.out.1.block k h1))⟩
       have HE := hH (aN hE (aN hZ (show Z.heap[X.heap.size]? = B.heap[X.heap.size]? from (hZs.block _ (nL HB.out.2.2.2.2 ht.size) (by have := HB.out.2.2.2.1; omega)).trans hpW)))
       clear hbW hpW hr ht hZ hZs hZb hE
       go_wp2_with fail
       refine HK.out _ _ (HSM.out _ HW.out.2.1) (fun hHeld => ?_)
       clear HK HS
       refine tkH (i := 16) (.pointer (some ⟨b, 0, none⟩)) rfl (Or.inl ⟨by rfl, ?_⟩) (by assumption) ?_
       · clear hHeld; intro Y hSw; clear hSw; go_simp
       simp only [Act.put, pg]
       refine tkH (i := 17) (.pointer (some ⟨b, 2, none⟩)) rfl (Or.inl ⟨by rfl, ?_⟩) (by assumption) ?_
       · clear hHeld; intro Y hSw; clear hSw; go_simp
       simp only [Act.put, pg]
       refine wpAnyH_ready (rs := [18]) (by kernel_rfl) (by simp) ?_
       refine AllReadyH.cons (o := _) rfl (fun K hK => ?_) AllReadyH.nil
       rw [if_pos (by rfl)]
       simp only [pg3]
       have HK := hH hK
       have HS := hH hHeld
       clear hK hHeld
       go_wp2_with fail
       rw [← HE.out.2.1]
       refine HK.out _ _ (HSM.out _ HE.out.2.2) (fun hHeld => ?_)
       clear HK HS c0 cf
       refine wpAnyH_done (by kernel_rfl) ?_ _
       clear hHeld
       go_wp2_with fail
       go_end0
       rw [ho]
       exact HE.out.1
   · rw [if_pos (by rfl)]
     simp only [pg3]
     have HK := hH hK
     have HS := hH hHeld
     clear hK hHeld
     go_wp2_with fail
     refine HCL.out.mono ?_
     rintro e W0 ⟨rfl, hw0⟩
     rw [hw0]
     clear hw0
     go_wp2_with fail
     refine HK.out _ _ hH0 (fun hHeld => ?_)
     clear HK HS
     refine tkH (i := 14) (.bool false) rfl (Or.inl ⟨by rfl, ?_⟩) (by assumption) ?_
     · clear hHeld; intro Y hSw; clear hSw; go_simp
     simp only [Act.put, pg]
     have hH0 := hHeld
     refine wpAnyH_ready (rs := [7]) (by kernel_rfl) (by simp) ?_
     refine AllReadyH.cons (o := _) rfl (fun K hK => ?_) AllReadyH.nil
     rw [if_pos (by rfl)]
     simp only [pg3]
     have HK := hH hK
     have HS := hH hHeld
     clear hK hHeld
     go_wp2_with fail
     refine HK.out _ _ hH0 (fun hHeld => ?_)
     clear HK HS hcell hk0
     refine wpAnyH_ready (rs := [15]) (by kernel_rfl) (by simp) ?_
     refine AllReadyH.cons (o := _) rfl (fun K hK => ?_) AllReadyH.nil
     rw [if_pos (by rfl)]
     simp only [pg3]
     have HK := hH hK
     have HS := hH hHeld
     clear hK hHeld
     go_wp2_with fail
     refine HPA.out.mono ?_
     intro e W' hq
     unfold qF at hq
     cases ho : num s n 0 0 with
     | none =>
       rw [ho] at hq
       obtain ⟨rfl, ht⟩ := hq
       refine ⟨rfl, ?_⟩
       show zA G R O none b cs 2 X _ _
       have ht2 := zq ht (S' := fun q => O q ∨ q = b) (fun q h => Or.inl h)
       exact ⟨rfl, ht2.os.trans HB.out.1.os, ht2.tape.trans HB.out.1.tape, ht2.output.trans HB.out.1.output, Nat.le_trans HB.out.1.size ht2.size, fun k h1 h2 => (ht2.block k (nL h1 HB.out.1.size) h2).trans (HB.out.1.block k h1)⟩
     | some ms =>
       obtain ⟨m, s'⟩ := ms
       rw [ho] at hq
       obtain ⟨rfl, hr, ht⟩ := hq
       have hbW : W'.heap[b]? = some (.cells cs 37 (0, 0)) := (ht.block b (nL HB.out.2.2.2.1 HB.out.1.size) HH.out.apart).trans HB.out.2.2.1
       have hpW : W'.heap[X.heap.size]? = B.heap[X.heap.size]? := ht.block _ HB.out.2.2.2.2 (fun h => by have := HI.out _ h; omega)
       have c0 : W'.cell? ⟨b, 2, none⟩ = some (.int .i64 n) := by rw [cell_of_row _ _ 2 _ _ _ hbW]; exact HN.out
       have cf : ∀ j, W'.frozen? ⟨b, j, none⟩ = false := fun j => frozen_of_row _ _ j _ _ hbW
       have HW := hH (aN hbW (aN hpW (aN hr ht)))
       obtain ⟨Z, hZ⟩ : ∃ Z, Z = W'.setCell ⟨b, 2, none⟩ (.int .i64 m) := ⟨_, rfl⟩
       have hZs : za W' Z (fun q => q = b) := by rw [hZ]; exact zt
       have hZb : Z.heap[b]? = some (.cells (cs.setIfInBounds 2 (.int .i64 m)) 37 (0, 0)) := by rw [hZ]; exact heap_setCell_same _ _ _ _ _ _ hbW
       have hE : zA G R O (some (m, s')) b cs 2 X (.returned (.tuple #[])) Z := by
        refine ⟨rfl, fun g => HH.out.keep s' W' Z (hr g) (fun q h1 h2 => hZs.block q h1 h2) hZs.size, hZb, ?_⟩
        exact ⟨hZs.os.trans (ht.os.trans HB.out.1.os), hZs.tape.trans (ht.tape.trans HB.out.1.tape), hZs.output.trans (ht.output.trans HB.out.1.output), Nat.le_trans HB.out.1.size (Nat.le_trans ht.size hZs.size), fun k h1 h2 => (hZs.block k (nL h1 (Nat.le_trans HB.out.1.size ht.size)) (fun h => h2 (Or.inr h))).trans ((ht.block k (nL h1 HB.out.1.size) (fun h => h2 (Or.inl h))).trans (HB.out.1.block k h1))⟩
       have HE := hH (aN hE (aN hZ (show Z.heap[X.heap.size]? = B.heap[X.heap.size]? from (hZs.block _ (nL HB.out.2.2.2.2 ht.size) (by have := HB.out.2.2.2.1; omega)).trans hpW)))
       clear hbW hpW hr ht hZ hZs hZb hE
       go_wp2_with fail
       refine HK.out _ _ (HSM.out _ HW.out.2.1) (fun hHeld => ?_)
       clear HK HS
       refine tkH (i := 16) (.pointer (some ⟨b, 0, none⟩)) rfl (Or.inl ⟨by rfl, ?_⟩) (by assumption) ?_
       · clear hHeld; intro Y hSw; clear hSw; go_simp
       simp only [Act.put, pg]
       refine tkH (i := 17) (.pointer (some ⟨b, 2, none⟩)) rfl (Or.inl ⟨by rfl, ?_⟩) (by assumption) ?_
       · clear hHeld; intro Y hSw; clear hSw; go_simp
       simp only [Act.put, pg]
       refine wpAnyH_ready (rs := [18]) (by kernel_rfl) (by simp) ?_
       refine AllReadyH.cons (o := _) rfl (fun K hK => ?_) AllReadyH.nil
       rw [if_pos (by rfl)]
       simp only [pg3]
       have HK := hH hK
       have HS := hH hHeld
       clear hK hHeld
       go_wp2_with fail
       rw [← HE.out.2.1]
       refine HK.out _ _ (HSM.out _ HE.out.2.2) (fun hHeld => ?_)
       clear HK HS c0 cf
       refine wpAnyH_done (by kernel_rfl) ?_ _
       clear hHeld
       go_wp2_with fail
       go_end0
       rw [ho]
       exact HE.out.1
theorem zdm {σ : Type} {G : σ → Prop} {R : σ → World → Prop} {O : Nat → Prop} {num : σ → Int → Int → Int → Option (Int × σ)} {b : Nat} {T : TypeId} {v rv : Value} {fn : FuncId} (H : yB G R O num b T v rv fn) (s : σ) (X : World) (cs : Array Value) (n kd : Int) (hR : R s X) (hX : X.heap[b]? = some (.cells cs 37 (0, 0))) (hn : cs[2]? = some (.int .i64 n)) (hk : cs[0]? = some (.int .i8 kd)) (hc : decide (kd = 2 ∨ kd = 5 ∨ kd = 9) = false) :
 Calls Tryz.prog 106 #[.agg #[.pointer (some ⟨b, 0, none⟩), .iface T v]] X (zA G R O (num s n 1 8) b cs 2 X) := by
 obtain ⟨B, hB⟩ : ∃ B, B = X.alloc (.cells #[.pointer (some ⟨b, 0, none⟩), .iface T v] 146) := ⟨_, rfl⟩
 have hb : Below X.heap.size X B := by rw [hB]; exact (Below.refl _ _).alloc (Nat.le_refl _) _
 have eB : B.heap[X.heap.size]? = some (.cells #[.pointer (some ⟨b, 0, none⟩), .iface T v] 146 (0, 0)) := by rw [hB]; exact heap_alloc_new _ _
 have hXb : b < X.heap.size := lt_of_heap hX
 have hBX := (hb.block _ hXb).trans hX
 have hRB := H.keep s X B hR (fun q hq _ => hb.block q hq) hb.size
 obtain ⟨SW, hSW⟩ : ∃ SW : World → Prop, SW = fun Y => Y.heap[X.heap.size]? = some (.cells #[.pointer (some ⟨b, 0, none⟩), .iface T v] 146 (0, 0)) := ⟨_, rfl⟩
 have HP := hH (fun (Y : World) (h : SW Y) => (show Y.cell? ⟨X.heap.size, 0, none⟩ = some (.pointer (some ⟨b, 0, none⟩)) ∧ Y.cell? ⟨X.heap.size, 1, none⟩ = some (.iface T v) by
  rw [hSW] at h
  exact ⟨by rw [cell_of_row _ _ 0 _ _ _ h]; rfl, by rw [cell_of_row _ _ 1 _ _ _ h]; rfl⟩))
 have hS0 : SW B.drew := by rw [hSW]; exact eB
 have HSM := hH (fun (Y : World) (h : Y.heap[X.heap.size]? = B.heap[X.heap.size]?) => (show SW Y by rw [hSW]; exact h.trans eB))
 have HB := hH (aN hb (aN hB (aN hBX (aN hXb (show X.heap.size < B.heap.size from lt_of_heap eB)))))
 have HH := hH H
 have HR := hH hRB
 have hcell : B.drew.cell? ⟨b, 2, none⟩ = some (.int .i64 n) := by show B.cell? _ = _; rw [cell_of_row _ _ 2 _ _ _ hBX]; exact hn
 have hk0 : B.drew.cell? ⟨b, 0, none⟩ = some (.int .i8 kd) := by show B.cell? _ = _; rw [cell_of_row _ _ 0 _ _ _ hBX]; exact hk
 have HCL := hH (qD B.drew kd)
 rw [hc] at HCL
 have HPA := hH (Yh H s B.drew n (H.keep s B B.drew hRB (fun _ _ _ => rfl) (Nat.le_refl _)) (nL hXb hb.size))
 have HI := hH (fun q (h : O q) => H.inn s X q hR h)
 have HN := hH hn
 clear hb hB eB hXb hBX hRB hSW hR hX hn H hk hc
 go_enter Tryz.func106, Tryz.ntmps106
 go_upto_region 1 with fail
 change Code.wp _ _ _ _ (X.alloc (.cells #[.pointer (some ⟨b, 0, none⟩), .iface T v] 146))
 rw [← HB.out.2.1]
 refine wp_region_held_drew (S := SW) (by kernel_rfl) hS0 (fun hHeld => ?_)
 clear hS0
 refine tkH (i := 0) (.pointer (some ⟨X.heap.size, 0, none⟩)) rfl (Or.inl ⟨by rfl, ?_⟩) (by assumption) ?_
 · clear hHeld; intro Y hSw; clear hSw; go_simp
 simp only [Act.put, pg]
 refine tkH (i := 1) (.pointer (some ⟨b, 0, none⟩)) rfl (Or.inl ⟨by rfl, ?_⟩) (by assumption) ?_
 · clear hHeld; intro Y hSw; obtain ⟨p0, p1⟩ := HP.out Y hSw; clear hSw; go_simp
 simp only [Act.put, pg]
 refine tkH (i := 2) (.agg #[.pointer (some ⟨b, 0, none⟩), .iface T v]) rfl (Or.inl ⟨by rfl, ?_⟩) (by assumption) ?_
 · clear hHeld; intro Y hSw; obtain ⟨p0, p1⟩ := HP.out Y hSw; clear hSw; go_simp
 simp only [Act.put, pg]
 refine tkH (i := 3) (.pointer (some ⟨X.heap.size, 0, none⟩)) rfl (Or.inl ⟨by rfl, ?_⟩) (by assumption) ?_
 · clear hHeld; intro Y hSw; clear hSw; go_simp
 simp only [Act.put, pg]
 refine tkH (i := 4) (.pointer (some ⟨b, 0, none⟩)) rfl (Or.inl ⟨by rfl, ?_⟩) (by assumption) ?_
 · clear hHeld; intro Y hSw; obtain ⟨p0, p1⟩ := HP.out Y hSw; clear hSw; go_simp
 simp only [Act.put, pg]
 refine tkH (i := 5) (.pointer (some ⟨b, 0, none⟩)) rfl (Or.inl ⟨by rfl, ?_⟩) (by assumption) ?_
 · clear hHeld; intro Y hSw; clear hSw; go_simp
 simp only [Act.put, pg]
 refine tkH (i := 6) (.pointer (some ⟨b, 2, none⟩)) rfl (Or.inl ⟨by rfl, ?_⟩) (by assumption) ?_
 · clear hHeld; intro Y hSw; clear hSw; go_simp
 simp only [Act.put, pg]
 refine tkH (i := 8) (.pointer (some ⟨X.heap.size, 0, none⟩)) rfl (Or.inl ⟨by rfl, ?_⟩) (by assumption) ?_
 · clear hHeld; intro Y hSw; clear hSw; go_simp
 simp only [Act.put, pg]
 refine tkH (i := 9) (.pointer (some ⟨b, 0, none⟩)) rfl (Or.inl ⟨by rfl, ?_⟩) (by assumption) ?_
 · clear hHeld; intro Y hSw; obtain ⟨p0, p1⟩ := HP.out Y hSw; clear hSw; go_simp
 simp only [Act.put, pg]
 refine tkH (i := 10) (.pointer (some ⟨b, 0, none⟩)) rfl (Or.inl ⟨by rfl, ?_⟩) (by assumption) ?_
 · clear hHeld; intro Y hSw; clear hSw; go_simp
 simp only [Act.put, pg]
 refine tkH (i := 11) (.pointer (some ⟨b, 0, none⟩)) rfl (Or.inl ⟨by rfl, ?_⟩) (by assumption) ?_
 · clear hHeld; intro Y hSw; clear hSw; go_simp
 simp only [Act.put, pg]
 have hH0 := hHeld
 refine wpAnyH_ready (rs := [7, 12]) (by kernel_rfl) (by simp) ?_
 refine AllReadyH.cons (o := _) rfl (fun K hK => ?_) (AllReadyH.cons (o := _) rfl (fun K hK => ?_) AllReadyH.nil)
 · rw [if_pos (by rfl)]
   simp only [pg3]
   have HK := hH hK
   have HS := hH hHeld
   clear hK hHeld
   go_wp2_with fail
   refine HK.out _ _ hH0 (fun hHeld => ?_)
   clear HK HS
   refine wpAnyH_ready (rs := [12]) (by kernel_rfl) (by simp) ?_
   refine AllReadyH.cons (o := _) rfl (fun K hK => ?_) AllReadyH.nil
   rw [if_pos (by rfl)]
   simp only [pg3]
   have HK := hH hK
   have HS := hH hHeld
   clear hK hHeld
   go_wp2_with fail
   refine HK.out _ _ hH0 (fun hHeld => ?_)
   clear HK HS
   clear hcell hk0
   refine wpAnyH_ready (rs := [13]) (by kernel_rfl) (by simp) ?_
   refine AllReadyH.cons (o := _) rfl (fun K hK => ?_) AllReadyH.nil
   rw [if_pos (by rfl)]
   simp only [pg3]
   have HK := hH hK
   have HS := hH hHeld
   clear hK hHeld
   go_wp2_with fail
   refine HCL.out.mono ?_
   rintro e W0 ⟨rfl, hw0⟩
   rw [hw0]
   clear hw0
   go_wp2_with fail
   refine HK.out _ _ hH0 (fun hHeld => ?_)
   clear HK HS
   refine tkH (i := 14) (.bool true) rfl (Or.inl ⟨by rfl, ?_⟩) (by assumption) ?_
   · clear hHeld; intro Y hSw; clear hSw; go_simp
   simp only [Act.put, pg]
   refine wpAnyH_ready (rs := [15]) (by kernel_rfl) (by simp) ?_
   refine AllReadyH.cons (o := _) rfl (fun K hK => ?_) AllReadyH.nil
   rw [if_pos (by rfl)]
   simp only [pg3]
   have HK := hH hK
   have HS := hH hHeld
   clear hK hHeld
   go_wp2_with fail
   refine HPA.out.mono ?_
   intro e W' hq
   unfold qF at hq
   cases ho : num s n 1 8 with
   | none =>
     rw [ho] at hq
     obtain ⟨rfl, ht⟩ := hq
     refine ⟨rfl, ?_⟩
     show zA G R O none b cs 2 X _ _
     have ht2 := zq ht (S' := fun q => O q ∨ q = b) (fun q h => Or.inl h)
     exact ⟨rfl, ht2.os.trans HB.out.1.os, ht2.tape.trans HB.out.1.tape, ht2.output.trans HB.out.1.output, Nat.le_trans HB.out.1.size ht2.size, fun k h1 h2 => (ht2.block k (nL h1 HB.out.1.size) h2).trans (HB.out.1.block k h1)⟩
   | some ms =>
     obtain ⟨m, s'⟩ := ms
     rw [ho] at hq
     obtain ⟨rfl, hr, ht⟩ := hq
     have hbW : W'.heap[b]? = some (.cells cs 37 (0, 0)) := (ht.block b (nL HB.out.2.2.2.1 HB.out.1.size) HH.out.apart).trans HB.out.2.2.1
     have hpW : W'.heap[X.heap.size]? = B.heap[X.heap.size]? := ht.block _ HB.out.2.2.2.2 (fun h => by have := HI.out _ h; omega)
     have c0 : W'.cell? ⟨b, 2, none⟩ = some (.int .i64 n) := by rw [cell_of_row _ _ 2 _ _ _ hbW]; exact HN.out
     have cf : ∀ j, W'.frozen? ⟨b, j, none⟩ = false := fun j => frozen_of_row _ _ j _ _ hbW
     have HW := hH (aN hbW (aN hpW (aN hr ht)))
     obtain ⟨Z, hZ⟩ : ∃ Z, Z = W'.setCell ⟨b, 2, none⟩ (.int .i64 m) := ⟨_, rfl⟩
     have hZs : za W' Z (fun q => q = b) := by rw [hZ]; exact zt
     have hZb : Z.heap[b]? = some (.cells (cs.setIfInBounds 2 (.int .i64 m)) 37 (0, 0)) := by rw [hZ]; exact heap_setCell_same _ _ _ _ _ _ hbW
     have hE : zA G R O (some (m, s')) b cs 2 X (.returned (.tuple #[])) Z := by
      refine ⟨rfl, fun g => HH.out.keep s' W' Z (hr g) (fun q h1 h2 => hZs.block q h1 h2) hZs.size, hZb, ?_⟩
      exact ⟨hZs.os.trans (ht.os.trans HB.out.1.os), hZs.tape.trans (ht.tape.trans HB.out.1.tape), hZs.output.trans (ht.output.trans HB.out.1.output), Nat.le_trans HB.out.1.size (Nat.le_trans ht.size hZs.size), fun k h1 h2 => (hZs.block k (nL h1 (Nat.le_trans HB.out.1.size ht.size)) (fun h => h2 (Or.inr h))).trans ((ht.block k (nL h1 HB.out.1.size) (fun h => h2 (Or.inl h))).trans (HB.out.1.block k h1))⟩
     have HE := hH (aN hE (aN hZ (show Z.heap[X.heap.size]? = B.heap[X.heap.size]? from (hZs.block _ (nL HB.out.2.2.2.2 ht.size) (by have := HB.out.2.2.2.1; omega)).trans hpW)))
     clear hbW hpW hr ht hZ hZs hZb hE
     go_wp2_with fail
     refine HK.out _ _ (HSM.out _ HW.out.2.1) (fun hHeld => ?_)
     clear HK HS
     refine tkH (i := 16) (.pointer (some ⟨b, 0, none⟩)) rfl (Or.inl ⟨by rfl, ?_⟩) (by assumption) ?_
     · clear hHeld; intro Y hSw; clear hSw; go_simp
     simp only [Act.put, pg]
     refine tkH (i := 17) (.pointer (some ⟨b, 2, none⟩)) rfl (Or.inl ⟨by rfl, ?_⟩) (by assumption) ?_
     · clear hHeld; intro Y hSw; clear hSw; go_simp
     simp only [Act.put, pg]
     refine wpAnyH_ready (rs := [18]) (by kernel_rfl) (by simp) ?_
     refine AllReadyH.cons (o := _) rfl (fun K hK => ?_) AllReadyH.nil
     rw [if_pos (by rfl)]
     simp only [pg3]
     have HK := hH hK
     have HS := hH hHeld
     clear hK hHeld
     go_wp2_with fail
     rw [← HE.out.2.1]
     refine HK.out _ _ (HSM.out _ HE.out.2.2) (fun hHeld => ?_)
     clear HK HS c0 cf
     refine wpAnyH_done (by kernel_rfl) ?_ _
     clear hHeld
     go_wp2_with fail
     go_end0
     rw [ho]
     exact HE.out.1
 · rw [if_pos (by rfl)]
   simp only [pg3]
   have HK := hH hK
   have HS := hH hHeld
   clear hK hHeld
   go_wp2_with fail
   refine HK.out _ _ hH0 (fun hHeld => ?_)
   clear HK HS
   have hH1 := hHeld
   refine wpAnyH_ready (rs := [7, 13]) (by kernel_rfl) (by simp) ?_
   refine AllReadyH.cons (o := _) rfl (fun K hK => ?_) (AllReadyH.cons (o := _) rfl (fun K hK => ?_) AllReadyH.nil)
   · rw [if_pos (by rfl)]
     simp only [pg3]
     have HK := hH hK
     have HS := hH hHeld
     clear hK hHeld
     go_wp2_with fail
     refine HK.out _ _ hH0 (fun hHeld => ?_)
     clear HK HS
     clear hcell hk0
     refine wpAnyH_ready (rs := [13]) (by kernel_rfl) (by simp) ?_
     refine AllReadyH.cons (o := _) rfl (fun K hK => ?_) AllReadyH.nil
     rw [if_pos (by rfl)]
     simp only [pg3]
     have HK := hH hK
     have HS := hH hHeld
     clear hK hHeld
     go_wp2_with fail
     refine HCL.out.mono ?_
     rintro e W0 ⟨rfl, hw0⟩
     rw [hw0]
     clear hw0
     go_wp2_with fail
     refine HK.out _ _ hH0 (fun hHeld => ?_)
     clear HK HS
     refine tkH (i := 14) (.bool true) rfl (Or.inl ⟨by rfl, ?_⟩) (by assumption) ?_
     · clear hHeld; intro Y hSw; clear hSw; go_simp
     simp only [Act.put, pg]
     refine wpAnyH_ready (rs := [15]) (by kernel_rfl) (by simp) ?_
     refine AllReadyH.cons (o := _) rfl (fun K hK => ?_) AllReadyH.nil
     rw [if_pos (by rfl)]
     simp only [pg3]
     have HK := hH hK
     have HS := hH hHeld
     clear hK hHeld
     go_wp2_with fail
     refine HPA.out.mono ?_
     intro e W' hq
     unfold qF at hq
     cases ho : num s n 1 8 with
     | none =>
       rw [ho] at hq
       obtain ⟨rfl, ht⟩ := hq
       refine ⟨rfl, ?_⟩
       show zA G R O none b cs 2 X _ _
       have ht2 := zq ht (S' := fun q => O q ∨ q = b) (fun q h => Or.inl h)
       exact ⟨rfl, ht2.os.trans HB.out.1.os, ht2.tape.trans HB.out.1.tape, ht2.output.trans HB.out.1.output, Nat.le_trans HB.out.1.size ht2.size, fun k h1 h2 => (ht2.block k (nL h1 HB.out.1.size) h2).trans (HB.out.1.block k h1)⟩
     | some ms =>
       obtain ⟨m, s'⟩ := ms
       rw [ho] at hq
       obtain ⟨rfl, hr, ht⟩ := hq
       have hbW : W'.heap[b]? = some (.cells cs 37 (0, 0)) := (ht.block b (nL HB.out.2.2.2.1 HB.out.1.size) HH.out.apart).trans HB.out.2.2.1
       have hpW : W'.heap[X.heap.size]? = B.heap[X.heap.size]? := ht.block _ HB.out.2.2.2.2 (fun h => by have := HI.out _ h; omega)
       have c0 : W'.cell? ⟨b, 2, none⟩ = some (.int .i64 n) := by rw [cell_of_row _ _ 2 _ _ _ hbW]; exact HN.out
       have cf : ∀ j, W'.frozen? ⟨b, j, none⟩ = false := fun j => frozen_of_row _ _ j _ _ hbW
       have HW := hH (aN hbW (aN hpW (aN hr ht)))
       obtain ⟨Z, hZ⟩ : ∃ Z, Z = W'.setCell ⟨b, 2, none⟩ (.int .i64 m) := ⟨_, rfl⟩
       have hZs : za W' Z (fun q => q = b) := by rw [hZ]; exact zt
       have hZb : Z.heap[b]? = some (.cells (cs.setIfInBounds 2 (.int .i64 m)) 37 (0, 0)) := by rw [hZ]; exact heap_setCell_same _ _ _ _ _ _ hbW
       have hE : zA G R O (some (m, s')) b cs 2 X (.returned (.tuple #[])) Z := by
        refine ⟨rfl, fun g => HH.out.keep s' W' Z (hr g) (fun q h1 h2 => hZs.block q h1 h2) hZs.size, hZb, ?_⟩
        exact ⟨hZs.os.trans (ht.os.trans HB.out.1.os), hZs.tape.trans (ht.tape.trans HB.out.1.tape), hZs.output.trans (ht.output.trans HB.out.1.output), Nat.le_trans HB.out.1.size (Nat.le_trans ht.size hZs.size), fun k h1 h2 => (hZs.block k (nL h1 (Nat.le_trans HB.out.1.size ht.size)) (fun h => h2 (Or.inr h))).trans ((ht.block k (nL h1 HB.out.1.size) (fun h => h2 (Or.inl h))).trans (HB.out.1.block k h1))⟩
       have HE := hH (aN hE (aN hZ (show Z.heap[X.heap.size]? = B.heap[X.heap.size]? from (hZs.block _ (nL HB.out.2.2.2.2 ht.size) (by have := HB.out.2.2.2.1; omega)).trans hpW)))
       clear hbW hpW hr ht hZ hZs hZb hE
       go_wp2_with fail
       refine HK.out _ _ (HSM.out _ HW.out.2.1) (fun hHeld => ?_)
       clear HK HS
       refine tkH (i := 16) (.pointer (some ⟨b, 0, none⟩)) rfl (Or.inl ⟨by rfl, ?_⟩) (by assumption) ?_
       · clear hHeld; intro Y hSw; clear hSw; go_simp
       simp only [Act.put, pg]
       refine tkH (i := 17) (.pointer (some ⟨b, 2, none⟩)) rfl (Or.inl ⟨by rfl, ?_⟩) (by assumption) ?_
       · clear hHeld; intro Y hSw; clear hSw; go_simp
       simp only [Act.put, pg]
       refine wpAnyH_ready (rs := [18]) (by kernel_rfl) (by simp) ?_
       refine AllReadyH.cons (o := _) rfl (fun K hK => ?_) AllReadyH.nil
       rw [if_pos (by rfl)]
       simp only [pg3]
       have HK := hH hK
       have HS := hH hHeld
       clear hK hHeld
       go_wp2_with fail
       rw [← HE.out.2.1]
       refine HK.out _ _ (HSM.out _ HE.out.2.2) (fun hHeld => ?_)
       clear HK HS c0 cf
       refine wpAnyH_done (by kernel_rfl) ?_ _
       clear hHeld
       go_wp2_with fail
       go_end0
       rw [ho]
       exact HE.out.1
   · rw [if_pos (by rfl)]
     simp only [pg3]
     have HK := hH hK
     have HS := hH hHeld
     clear hK hHeld
     go_wp2_with fail
     refine HCL.out.mono ?_
     rintro e W0 ⟨rfl, hw0⟩
     rw [hw0]
     clear hw0
     go_wp2_with fail
     refine HK.out _ _ hH0 (fun hHeld => ?_)
     clear HK HS
     refine tkH (i := 14) (.bool true) rfl (Or.inl ⟨by rfl, ?_⟩) (by assumption) ?_
     · clear hHeld; intro Y hSw; clear hSw; go_simp
     simp only [Act.put, pg]
     have hH0 := hHeld
     refine wpAnyH_ready (rs := [7]) (by kernel_rfl) (by simp) ?_
     refine AllReadyH.cons (o := _) rfl (fun K hK => ?_) AllReadyH.nil
     rw [if_pos (by rfl)]
     simp only [pg3]
     have HK := hH hK
     have HS := hH hHeld
     clear hK hHeld
     go_wp2_with fail
     refine HK.out _ _ hH0 (fun hHeld => ?_)
     clear HK HS hcell hk0
     refine wpAnyH_ready (rs := [15]) (by kernel_rfl) (by simp) ?_
     refine AllReadyH.cons (o := _) rfl (fun K hK => ?_) AllReadyH.nil
     rw [if_pos (by rfl)]
     simp only [pg3]
     have HK := hH hK
     have HS := hH hHeld
     clear hK hHeld
     go_wp2_with fail
     refine HPA.out.mono ?_
     intro e W' hq
     unfold qF at hq
     cases ho : num s n 1 8 with
     | none =>
       rw [ho] at hq
       obtain ⟨rfl, ht⟩ := hq
       refine ⟨rfl, ?_⟩
       show zA G R O none b cs 2 X _ _
       have ht2 := zq ht (S' := fun q => O q ∨ q = b) (fun q h => Or.inl h)
       exact ⟨rfl, ht2.os.trans HB.out.1.os, ht2.tape.trans HB.out.1.tape, ht2.output.trans HB.out.1.output, Nat.le_trans HB.out.1.size ht2.size, fun k h1 h2 => (ht2.block k (nL h1 HB.out.1.size) h2).trans (HB.out.1.block k h1)⟩
     | some ms =>
       obtain ⟨m, s'⟩ := ms
       rw [ho] at hq
       obtain ⟨rfl, hr, ht⟩ := hq
       have hbW : W'.heap[b]? = some (.cells cs 37 (0, 0)) := (ht.block b (nL HB.out.2.2.2.1 HB.out.1.size) HH.out.apart).trans HB.out.2.2.1
       have hpW : W'.heap[X.heap.size]? = B.heap[X.heap.size]? := ht.block _ HB.out.2.2.2.2 (fun h => by have := HI.out _ h; omega)
       have c0 : W'.cell? ⟨b, 2, none⟩ = some (.int .i64 n) := by rw [cell_of_row _ _ 2 _ _ _ hbW]; exact HN.out
       have cf : ∀ j, W'.frozen? ⟨b, j, none⟩ = false := fun j => frozen_of_row _ _ j _ _ hbW
       have HW := hH (aN hbW (aN hpW (aN hr ht)))
       obtain ⟨Z, hZ⟩ : ∃ Z, Z = W'.setCell ⟨b, 2, none⟩ (.int .i64 m) := ⟨_, rfl⟩
       have hZs : za W' Z (fun q => q = b) := by rw [hZ]; exact zt
       have hZb : Z.heap[b]? = some (.cells (cs.setIfInBounds 2 (.int .i64 m)) 37 (0, 0)) := by rw [hZ]; exact heap_setCell_same _ _ _ _ _ _ hbW
       have hE : zA G R O (some (m, s')) b cs 2 X (.returned (.tuple #[])) Z := by
        refine ⟨rfl, fun g => HH.out.keep s' W' Z (hr g) (fun q h1 h2 => hZs.block q h1 h2) hZs.size, hZb, ?_⟩
        exact ⟨hZs.os.trans (ht.os.trans HB.out.1.os), hZs.tape.trans (ht.tape.trans HB.out.1.tape), hZs.output.trans (ht.output.trans HB.out.1.output), Nat.le_trans HB.out.1.size (Nat.le_trans ht.size hZs.size), fun k h1 h2 => (hZs.block k (nL h1 (Nat.le_trans HB.out.1.size ht.size)) (fun h => h2 (Or.inr h))).trans ((ht.block k (nL h1 HB.out.1.size) (fun h => h2 (Or.inl h))).trans (HB.out.1.block k h1))⟩
       have HE := hH (aN hE (aN hZ (show Z.heap[X.heap.size]? = B.heap[X.heap.size]? from (hZs.block _ (nL HB.out.2.2.2.2 ht.size) (by have := HB.out.2.2.2.1; omega)).trans hpW)))
       clear hbW hpW hr ht hZ hZs hZb hE
       go_wp2_with fail
       refine HK.out _ _ (HSM.out _ HW.out.2.1) (fun hHeld => ?_)
       clear HK HS
       refine tkH (i := 16) (.pointer (some ⟨b, 0, none⟩)) rfl (Or.inl ⟨by rfl, ?_⟩) (by assumption) ?_
       · clear hHeld; intro Y hSw; clear hSw; go_simp
       simp only [Act.put, pg]
       refine tkH (i := 17) (.pointer (some ⟨b, 2, none⟩)) rfl (Or.inl ⟨by rfl, ?_⟩) (by assumption) ?_
       · clear hHeld; intro Y hSw; clear hSw; go_simp
       simp only [Act.put, pg]
       refine wpAnyH_ready (rs := [18]) (by kernel_rfl) (by simp) ?_
       refine AllReadyH.cons (o := _) rfl (fun K hK => ?_) AllReadyH.nil
       rw [if_pos (by rfl)]
       simp only [pg3]
       have HK := hH hK
       have HS := hH hHeld
       clear hK hHeld
       go_wp2_with fail
       rw [← HE.out.2.1]
       refine HK.out _ _ (HSM.out _ HE.out.2.2) (fun hHeld => ?_)
       clear HK HS c0 cf
       refine wpAnyH_done (by kernel_rfl) ?_ _
       clear hHeld
       go_wp2_with fail
       go_end0
       rw [ho]
       exact HE.out.1
end Go.Proofs.YtchccbfljamjnaaGreat
