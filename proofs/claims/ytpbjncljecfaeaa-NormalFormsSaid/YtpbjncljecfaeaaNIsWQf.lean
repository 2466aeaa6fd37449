/-
  The program's Is: does no pair of neighbours fit a rule? No condition but that the row is not too great, and that ids are numbers of 64 bits.
-/
import Derived.Test.YtpbjncljecfaeaaNRowHQf
import Derived.Test.YtpbjncljecfaeaaNIsQf
namespace Go.Proofs.Ytpbjncljecfaeaa
open Go.RowKit Go.Shelf
attribute [local go_sem] Oper.semAt_some
set_option linter.unusedVariables false
set_option linter.unusedSimpArgs false

structure IsI (w : World) (hbs : List Nat) (l : List Sf) (k : Nat) (V : World) : Prop where
  row : V.heap[w.heap.size]? = some (.cells (hbs.map hptr).toArray 43 (0, 0))
  held : ∃ L, HRow w V L ∧ L.map Prod.fst = hbs ∧ sfs L = l
  below : Below w.heap.size w V
  no : ∀ j x y, j < k → l[j]? = some x → l[j + 1]? = some y → (pairK x y).2 = false
set_option maxRecDepth 100000 in
set_option maxHeartbeats 8000000 in
theorem isW_any (w : World) (la : Option Addr) (n c : Nat) (vs : List SV) (hr : RowS w la n c vs) (hn6 : n ≤ 10000) (hz : ∀ x ∈ vs, foSize x.s.sub.kids + 1 ≤ 100000) (hw : ∀ x ∈ vs, Wf64 x.s) :
    Calls Try.prog 13 #[.slice la n c] w (IsC (steps vs) w) := by
  have hho := hold_any w la n c vs hr.len hr.row hn6
  have HHO := Lib.hid (And.intro hho (And.intro hr.len (And.intro hz hw)))
  clear hho hr hz hw
  go_enter Try.func13, Try.ntmps13
  go_wp2_with fail
  refine HHO.out.1.mono ?_
  rintro e V ⟨hbs, rfl, hl, hrow, hheld, hnd, _, hb⟩
  have hI0 : IsI w hbs (steps vs) 0 V := ⟨hrow, ⟨_, hold_row hl hheld hnd HHO.out.2.2.1 HHO.out.2.2.2, zipH_fst _ _ hl, zipH_sfs _ _ hl⟩, hb, fun j x y h => by omega⟩
  obtain ⟨m, hm⟩ : ∃ m, m = hbs.length := ⟨_, rfl⟩
  have hmn : m = n := by rw [hm, hl, HHO.out.2.1]
  have hls : (steps vs).length = m := by rw [steps_len, hm, hl]
  have HI0 := Lib.hid hI0
  have HM := Lib.hid (And.intro hm hls)
  rw [← hm]
  have hmw : IntKind.i64.wrap ((m : Int) - 1) = (m : Int) - 1 := IntWalk.i64_in _ (by omega)
  have hm6 : m ≤ 10000 := by omega
  clear hI0 hl hrow hheld hnd hb hm hls hmn hn6
  go_wp2_with fail
  go_loopw [12] (fun i wr => ∃ k : Nat, i = .int .i64 (k : Int) ∧ (k = 0 ∨ k + 1 ≤ m) ∧ Hid (IsI w hbs (steps vs) k wr)) (fun i _ => m + 1 - (intOf i).toNat)
  case atStart => exact ⟨0, rfl, Or.inl rfl, HI0⟩
  case round =>
    obtain ⟨k, rfl, hkm, hh⟩ := hrel
    clear HI0
    obtain ⟨wo, hwo⟩ : ∃ wo, wo = wr := ⟨_, rfl⟩
    subst hwo
    by_cases hlt : k + 1 < m
    · have hki : (k : Int) < (m : Int) - 1 := by omega
      obtain ⟨L, hL, hLf, hLs⟩ := hh.out.held
      have hLl : L.length = m := by rw [HM.out.1, ← hLf, List.length_map]
      obtain ⟨p, hp⟩ : ∃ p, L[k]? = some p := ⟨_, List.getElem?_eq_getElem (by omega)⟩
      obtain ⟨q, hq⟩ : ∃ q, L[k + 1]? = some q := ⟨_, List.getElem?_eq_getElem (by omega)⟩
      obtain ⟨P, Q, hPQ, hPl⟩ := split_two L k p q hp hq
      obtain ⟨A, ha⟩ := p
      obtain ⟨B, hbv⟩ := q
      have hgA : wo.cell? ⟨w.heap.size, k, none⟩ = some (.pointer (some ⟨A, 0, none⟩)) := by
        rw [cell_of_row _ _ _ _ _ _ hh.out.row, ← hLf]
        simp [hp, hptr]
      have hgB : wo.cell? ⟨w.heap.size, k + 1, none⟩ = some (.pointer (some ⟨B, 0, none⟩)) := by
        rw [cell_of_row _ _ _ _ _ _ hh.out.row, ← hLf]
        simp [hq, hptr]
      have hpm : ((A, ha) : HP) ∈ L := List.mem_of_getElem? hp
      have hqm : ((B, hbv) : HP) ∈ L := List.mem_of_getElem? hq
      have hap : HP.apart (A, ha) (B, hbv) := by
        have h1 := hL.apart
        rw [hPQ] at h1
        exact (List.pairwise_cons.1 (List.pairwise_append.1 h1).2.1).1 _ (List.mem_cons_self ..)
      have hbd : Below w.heap.size w wo.drew := ⟨hh.out.below.os, hh.out.below.tape, hh.out.below.output, hh.out.below.size, hh.out.below.block⟩
      have hput := put_any (w0 := w) (V := wo.drew) (A := A) (B := B) (ha := ha) (hb := hbv) ⟨(hL.held _ hpm).kept fun _ _ => rfl, (hL.held _ hqm).kept fun _ _ => rfl, hbd, (hL.ok _ hpm).1, (hL.ok _ hqm).2, hap⟩
      have hx : (steps vs)[k]? = some ha.sf := by rw [← hLs, sfs, List.getElem?_map, hp]; rfl
      have hy : (steps vs)[k + 1]? = some hbv.sf := by rw [← hLs, sfs, List.getElem?_map, hq]; rfl
      obtain ⟨SW, hSW⟩ : ∃ SW : World → Prop, SW = fun Z => Z.cell? ⟨w.heap.size, k, none⟩ = some (.pointer (some ⟨A, 0, none⟩)) ∧ Z.cell? ⟨w.heap.size, k + 1, none⟩ = some (.pointer (some ⟨B, 0, none⟩)) := ⟨_, rfl⟩
      have HSW := Lib.hid (fun (Z : World) (h : SW Z) => (show Z.cell? ⟨w.heap.size, k, none⟩ = some (.pointer (some ⟨A, 0, none⟩)) ∧ Z.cell? ⟨w.heap.size, k + 1, none⟩ = some (.pointer (some ⟨B, 0, none⟩)) by rw [hSW] at h; exact h))
      have hS0 : SW wo.drew := by rw [hSW]; exact ⟨hgA, hgB⟩
      have hnG : ¬ ha.own A w.heap.size := (hL.held _ hpm).ne_ptr hh.out.row (by decide) (by decide)
      have hSt : ∀ Z ha', Turn w A ha ha' wo.drew Z → SW Z ∧ Z.heap[w.heap.size]? = wo.heap[w.heap.size]? := fun Z ha' ht => by
        have he : Z.heap[w.heap.size]? = wo.heap[w.heap.size]? := ht.turned.block _ (lt_of_heap hh.out.row) hnG
        rw [hSW]
        exact ⟨⟨(World.cell?_of_block (a := ⟨w.heap.size, k, none⟩) he).trans hgA, (World.cell?_of_block (a := ⟨w.heap.size, k + 1, none⟩) he).trans hgB⟩, he⟩
      have HG := Lib.hid (And.intro hL (And.intro hLf (And.intro hLs (And.intro hPQ (And.intro hPl (And.intro hx (And.intro hy (And.intro hSt hbd))))))))
      have HPUT := Lib.hid hput
      have HKM := Lib.hid (And.intro hkm hlt)
      have hkw : IntKind.i64.wrap ((k : Int) + 1) = (k : Int) + 1 := IntWalk.i64_in _ (by omega)
      have hk1 : (k : Int) + 1 < (m : Int) := by omega
      have hk0 : (k : Int) < (m : Int) := by omega
      have hk2 : ¬ (k : Int) + 1 < 0 := by omega
      simp only [hptr] at HPUT
      clear hL hLf hLs hLl hp hq hPQ hPl hgA hgB hpm hqm hap hput hx hy hSW hSt hnG hkm hlt hbd
      go_upto_region 5 with fail
      refine wp_calm ?_
      refine wp_region_held_drew (S := SW) (by kernel_rfl) hS0 (fun hHeld => ?_)
      clear hS0
      refine wpAnyH_take (i := 0) (oi := _) (v := .slice (some ⟨w.heap.size, 0, none⟩) m m) rfl (by kernel_rfl) (by kernel_rfl) (by kernel_rfl) (fun _ _ _ h => by cases h.1) (Or.inl ⟨by rfl, ?_⟩) (by assumption) ?_
      · clear hHeld; intro X hSw; obtain ⟨q0, q1⟩ := HSW.out X hSw; clear hSw; go_simp
      simp only [Act.put, List.getElem_toArray, List.getElem_cons_zero, List.getElem_cons_succ, List.setIfInBounds_toArray, List.set_cons_zero, List.set_cons_succ]
      refine wpAnyH_take (i := 1) (oi := _) (v := .int .i64 (k : Int)) rfl (by kernel_rfl) (by kernel_rfl) (by kernel_rfl) (fun _ _ _ h => by cases h.1) (Or.inl ⟨by rfl, ?_⟩) (by assumption) ?_
      · clear hHeld; intro X hSw; obtain ⟨q0, q1⟩ := HSW.out X hSw; clear hSw; go_simp
      simp only [Act.put, List.getElem_toArray, List.getElem_cons_zero, List.getElem_cons_succ, List.setIfInBounds_toArray, List.set_cons_zero, List.set_cons_succ]
      refine wpAnyH_take (i := 2) (oi := _) (v := .pointer (some ⟨w.heap.size, k, none⟩)) rfl (by kernel_rfl) (by kernel_rfl) (by kernel_rfl) (fun _ _ _ h => by cases h.1) (Or.inl ⟨by rfl, ?_⟩) (by assumption) ?_
      · clear hHeld; intro X hSw; obtain ⟨q0, q1⟩ := HSW.out X hSw; clear hSw; go_simp
      simp only [Act.put, List.getElem_toArray, List.getElem_cons_zero, List.getElem_cons_succ, List.setIfInBounds_toArray, List.set_cons_zero, List.set_cons_succ]
      refine wpAnyH_take (i := 3) (oi := _) (v := .pointer (some ⟨A, 0, none⟩)) rfl (by kernel_rfl) (by kernel_rfl) (by kernel_rfl) (fun _ _ _ h => by cases h.1) (Or.inl ⟨by rfl, ?_⟩) (by assumption) ?_
      · clear hHeld; intro X hSw; obtain ⟨q0, q1⟩ := HSW.out X hSw; clear hSw; go_simp
      simp only [Act.put, List.getElem_toArray, List.getElem_cons_zero, List.getElem_cons_succ, List.setIfInBounds_toArray, List.set_cons_zero, List.set_cons_succ]
      refine wpAnyH_take (i := 4) (oi := _) (v := .slice (some ⟨w.heap.size, 0, none⟩) m m) rfl (by kernel_rfl) (by kernel_rfl) (by kernel_rfl) (fun _ _ _ h => by cases h.1) (Or.inl ⟨by rfl, ?_⟩) (by assumption) ?_
      · clear hHeld; intro X hSw; obtain ⟨q0, q1⟩ := HSW.out X hSw; clear hSw; go_simp
      simp only [Act.put, List.getElem_toArray, List.getElem_cons_zero, List.getElem_cons_succ, List.setIfInBounds_toArray, List.set_cons_zero, List.set_cons_succ]
      refine wpAnyH_take (i := 5) (oi := _) (v := .int .i64 (k : Int)) rfl (by kernel_rfl) (by kernel_rfl) (by kernel_rfl) (fun _ _ _ h => by cases h.1) (Or.inl ⟨by rfl, ?_⟩) (by assumption) ?_
      · clear hHeld; intro X hSw; obtain ⟨q0, q1⟩ := HSW.out X hSw; clear hSw; go_simp
      simp only [Act.put, List.getElem_toArray, List.getElem_cons_zero, List.getElem_cons_succ, List.setIfInBounds_toArray, List.set_cons_zero, List.set_cons_succ]
      refine wpAnyH_take (i := 6) (oi := _) (v := .int .i64 ((k : Int) + 1)) rfl (by kernel_rfl) (by kernel_rfl) (by kernel_rfl) (fun _ _ _ h => by cases h.1) (Or.inl ⟨by rfl, ?_⟩) (by assumption) ?_
      · clear hHeld; intro X hSw; obtain ⟨q0, q1⟩ := HSW.out X hSw; clear hSw; go_simp
      simp only [Act.put, List.getElem_toArray, List.getElem_cons_zero, List.getElem_cons_succ, List.setIfInBounds_toArray, List.set_cons_zero, List.set_cons_succ]
      refine wpAnyH_take (i := 7) (oi := _) (v := .pointer (some ⟨w.heap.size, k + 1, none⟩)) rfl (by kernel_rfl) (by kernel_rfl) (by kernel_rfl) (fun _ _ _ h => by cases h.1) (Or.inl ⟨by rfl, ?_⟩) (by assumption) ?_
      · clear hHeld; intro X hSw; obtain ⟨q0, q1⟩ := HSW.out X hSw; clear hSw; go_simp
      simp only [Act.put, List.getElem_toArray, List.getElem_cons_zero, List.getElem_cons_succ, List.setIfInBounds_toArray, List.set_cons_zero, List.set_cons_succ]
      refine wpAnyH_take (i := 8) (oi := _) (v := .pointer (some ⟨B, 0, none⟩)) rfl (by kernel_rfl) (by kernel_rfl) (by kernel_rfl) (fun _ _ _ h => by cases h.1) (Or.inl ⟨by rfl, ?_⟩) (by assumption) ?_
      · clear hHeld; intro X hSw; obtain ⟨q0, q1⟩ := HSW.out X hSw; clear hSw; go_simp
      simp only [Act.put, List.getElem_toArray, List.getElem_cons_zero, List.getElem_cons_succ, List.setIfInBounds_toArray, List.set_cons_zero, List.set_cons_succ]
      refine wpAnyH_ready (rs := [9]) (by kernel_rfl) (by simp) ?_
      refine AllReadyH.cons (o := _) rfl (fun K hK => ?_) (AllReadyH.nil)
      rw [if_pos (by rfl)]
      simp only [List.getElem_toArray, List.getElem_cons_zero, List.getElem_cons_succ]
      have HK := Lib.hid hK
      clear hK hHeld
      go_wp2_with fail
      refine HPUT.out.mono ?_
      rintro e Z ⟨ha', ht, hcase⟩
      obtain ⟨hSZ, hGZ⟩ := HG.out.2.2.2.2.2.2.2.1 Z ha' ht
      have hcs : ∃ v, e = .returned (.tuple #[v, .bool (pairK ha.sf hbv.sf).2]) ∧ ((pairK ha.sf hbv.sf).2 = false → ∃ mm, ha' = ha.withM mm) := by
        rcases hcase with ⟨mm, h1, h2, h3⟩ | ⟨mm, h1, h2, h3⟩ | ⟨mm, h1, h2, h3⟩ | ⟨mm, ta, tc, h1, h2, h3, _⟩
        · exact ⟨_, by rw [h2, h3], fun _ => ⟨mm, h1⟩⟩
        · exact ⟨_, by rw [h2, h3], fun h => by rw [h3] at h; cases h⟩
        · exact ⟨_, by rw [h2, h3], fun h => by rw [h3] at h; cases h⟩
        · exact ⟨_, by rw [h2, h3], fun h => by rw [h3] at h; cases h⟩
      obtain ⟨v, rfl, hwm⟩ := hcs
      obtain ⟨b, hb⟩ : ∃ b, b = (pairK ha.sf hbv.sf).2 := ⟨_, rfl⟩
      rw [← hb]
      have hbZ : Below w.heap.size w Z := ⟨ht.turned.os.trans HG.out.2.2.2.2.2.2.2.2.os, ht.turned.tape.trans HG.out.2.2.2.2.2.2.2.2.tape, ht.turned.output.trans HG.out.2.2.2.2.2.2.2.2.output, Nat.le_trans HG.out.2.2.2.2.2.2.2.2.size ht.turned.size, fun x hx => (ht.turned.block x (by have := HG.out.2.2.2.2.2.2.2.2.size; omega) (fun e => by
        have h9 := HG.out.1
        rw [HG.out.2.2.2.1] at h9
        have := ((h9.held (A, ha) (List.mem_append_right _ (List.mem_cons_self ..))).lt x e).1
        omega)).trans (HG.out.2.2.2.2.2.2.2.2.block x hx)⟩
      have HZ := Lib.hid (And.intro ht (And.intro hwm (And.intro hb (And.intro hGZ hbZ))))
      clear ht hwm hcase hb hGZ hbZ
      refine HK.out _ _ hSZ (fun hHeld => ?_)
      clear HK hSZ
      refine wpAnyH_take (i := 10) (oi := _) (v := .tuple #[v, .bool b]) rfl (by kernel_rfl) (by kernel_rfl) (by kernel_rfl) (fun _ _ _ h => by cases h.1) (Or.inl ⟨by rfl, ?_⟩) (by assumption) ?_
      · clear hHeld; intro X hSw; clear hSw; go_simp
      simp only [Act.put, List.getElem_toArray, List.getElem_cons_zero, List.getElem_cons_succ, List.setIfInBounds_toArray, List.set_cons_zero, List.set_cons_succ]
      refine wpAnyH_take (i := 11) (oi := _) (v := v) rfl (by kernel_rfl) (by kernel_rfl) (by kernel_rfl) (fun _ _ _ h => by cases h.1) (Or.inl ⟨by rfl, ?_⟩) (by assumption) ?_
      · clear hHeld; intro X hSw; clear hSw; go_simp
      simp only [Act.put, List.getElem_toArray, List.getElem_cons_zero, List.getElem_cons_succ, List.setIfInBounds_toArray, List.set_cons_zero, List.set_cons_succ]
      refine wpAnyH_take (i := 12) (oi := _) (v := .bool b) rfl (by kernel_rfl) (by kernel_rfl) (by kernel_rfl) (fun _ _ _ h => by cases h.1) (Or.inl ⟨by rfl, ?_⟩) (by assumption) ?_
      · clear hHeld; intro X hSw; clear hSw; go_simp
      simp only [Act.put, List.getElem_toArray, List.getElem_cons_zero, List.getElem_cons_succ, List.setIfInBounds_toArray, List.set_cons_zero, List.set_cons_succ]
      refine wpAnyH_take (i := 13) (oi := _) (v := v) rfl (by kernel_rfl) (by kernel_rfl) (by kernel_rfl) (fun _ _ _ h => by cases h.1) (Or.inl ⟨by rfl, ?_⟩) (by assumption) ?_
      · clear hHeld; intro X hSw; clear hSw; go_simp
      simp only [Act.put, List.getElem_toArray, List.getElem_cons_zero, List.getElem_cons_succ, List.setIfInBounds_toArray, List.set_cons_zero, List.set_cons_succ]
      refine wpAnyH_take (i := 14) (oi := _) (v := .bool b) rfl (by kernel_rfl) (by kernel_rfl) (by kernel_rfl) (fun _ _ _ h => by cases h.1) (Or.inl ⟨by rfl, ?_⟩) (by assumption) ?_
      · clear hHeld; intro X hSw; clear hSw; go_simp
      simp only [Act.put, List.getElem_toArray, List.getElem_cons_zero, List.getElem_cons_succ, List.setIfInBounds_toArray, List.set_cons_zero, List.set_cons_succ]
      refine wpAnyH_done (by kernel_rfl) ?_ _
      refine ⟨rfl, ?_⟩
      clear hHeld
      obtain ⟨ht, hwm, hb, hGZ, hbZ⟩ := HZ.out
      cases b with
      | true =>
        have HE : Hid (IsC (steps vs) w (.returned (.bool false)) Z) := Lib.hid ⟨by
          rw [onceK_at (steps vs) k ha.sf hbv.sf HG.out.2.2.2.2.2.1 HG.out.2.2.2.2.2.2.1 (fun j x y hj => hh.out.no j x y hj) hb.symm]; rfl, hbZ⟩
        clear ht hwm hb hGZ hbZ HZ hh
        go_wp2_with fail
        go_ret
        exact HE.out
      | false =>
        obtain ⟨mm, rfl⟩ := hwm hb.symm
        have hnx : Hid (IsI w hbs (steps vs) (k + 1) Z) := Lib.hid (by
          have h9 := HG.out.1
          have e9 := HG.out.2.2.2.1
          rw [e9] at h9
          have h9d : HRow w wo.drew (P ++ (A, ha) :: (B, hbv) :: Q) := h9.kept fun _ _ _ _ => rfl
          refine ⟨hGZ.trans hh.out.row, ⟨P ++ (A, ha.withM mm) :: (B, hbv) :: Q, h9d.turn ht (ok_turn (h9.ok (A, ha) (List.mem_append_right _ (List.mem_cons_self ..))).1 mm), ?_, ?_⟩, hbZ, fun j x y hj hx hy => ?_⟩
          · rw [← HG.out.2.1, e9]; simp
          · rw [← HG.out.2.2.1, e9]; simp [sfs]; rfl
          · by_cases hjk : j = k
            · subst hjk
              rw [HG.out.2.2.2.2.2.1] at hx
              rw [HG.out.2.2.2.2.2.2.1] at hy
              cases hx; cases hy
              exact hb.symm
            · exact hh.out.no j x y (by omega) hx hy)
        clear ht hwm hb hGZ hbZ HZ hh
        go_wp2_with fail
        exact ⟨⟨k + 1, by go_num, Or.inr (by have := HKM.out.2; omega), hnx⟩, by have := HKM.out.2; simp [intOf]; omega⟩
    · have hki : ¬ (k : Int) < (m : Int) - 1 := by omega
      have HE : Hid (IsC (steps vs) w (.returned (.bool true)) wo) := Lib.hid ⟨by
        rw [onceK_none (steps vs) (fun j x y hx hy => hh.out.no j x y (by
          have h1 := (List.getElem?_eq_some_iff.1 hy).1
          rw [HM.out.2] at h1
          omega) hx hy)]; rfl, hh.out.below⟩
      clear hh hkm hlt
      go_wp2_with fail
      go_ret
      exact HE.out
end Go.Proofs.Ytpbjncljecfaeaa
