/-
  What the document says of a tree of three nodes. No condition but the table of powers of ten.
-/
import Derived.Test.YteccnekdmehloaaDoorESome
namespace Go.Proofs.YteccnekdmehloaaDoor
open Go.RowKit Go.Shelf
attribute [local go_sem] Oper.semAt_some
set_option linter.unusedVariables false
set_option linter.unusedSimpArgs false

def numN (pre : List Sp) : Int := pre.foldl (fun n x => n * 100 + (x.1 : Int) * 10 + x.2.1.1) 0
attribute [local go_sem] seq_nil
set_option maxRecDepth 100000 in
set_option maxHeartbeats 4000000 in
theorem wakes_any (w : World) (ht : Tab w) : Calls Tryd.prog 6 #[] w fun e w' => e = .returned (.bool true) ∧ Below w.heap.size w w' := by
  have HT := Lib.hid ht
  clear ht
  refine (callsIn_wide (n := 12)).1 ?_
  refine callsIn_of_wp_marks Tryd.func6 rfl trivial ?_ rfl
  simp only [Tryd.ntmps6, List.size_toArray, List.length_cons, List.length_nil, Nat.reduceAdd, Nat.reduceSub, Array.replicate_succ, Array.replicate_zero, List.push_toArray, List.append_toArray, List.nil_append, List.cons_append]
  gi_wp2_with fail
  refine ⟨trivial, ?_⟩
  gi_at_call 17
  refine (callsIn_wide.2 (some_any w)).mono ?_
  rintro e w1 ⟨v1, rfl, hs1, hb1⟩
  gi_wp2_with fail
  refine ⟨trivial, ?_⟩
  gi_at_call 16
  refine (callsIn_wide.2 hs1.find2).mono ?_
  rintro e w2 ⟨⟨ka, kc, rfl⟩, hb2⟩
  have hb := hb1.trans (hb2.mono hb1.size)
  have HB2 := Lib.hid (And.intro (hb.trans (((Below.refl _ w2).alloc (Nat.le_refl _) (.cells #[.int .i64 2, .int .i64 1, .string ⟨#[97]⟩, .slice ka 0 kc] 25)).mono hb.size)) (heap_alloc_new w2 (.cells #[.int .i64 2, .int .i64 1, .string ⟨#[97]⟩, .slice ka 0 kc] 25)))
  clear hs1 hb1 hb2 hb
  gi_wp2_with fail
  generalize hX : World.alloc _ _ = X2 at HB2 ⊢
  generalize hxb : w2.heap.size = xb at HB2 ⊢
  clear hX hxb
  refine ⟨trivial, ?_⟩
  gi_at_call 17
  refine (callsIn_wide.2 (some_any X2)).mono ?_
  rintro e w3 ⟨v3, rfl, hs3, hb3⟩
  gi_wp2_with fail
  refine ⟨trivial, ?_⟩
  gi_at_call 16
  refine (callsIn_wide.2 hs3.find9).mono ?_
  rintro e w4 ⟨⟨kd, ke, rfl⟩, hb4⟩
  have hbb := hb3.trans (hb4.mono hb3.size)
  have hal := allocs_at [.cells #[.int .i64 0, .int .i64 0, .string ⟨#[]⟩, .slice kd 0 ke] 25, .cells #[.int .i64 0] 3] w4 1 _ rfl
  have hab := allocs_below [.cells #[.int .i64 0, .int .i64 0, .string ⟨#[]⟩, .slice kd 0 ke] 25, .cells #[.int .i64 0] 3] w4
  have hx4 := (hbb.block xb (lt_of_heap HB2.out.2)).trans HB2.out.2
  have hwn : w.heap.size ≤ w4.heap.size ∧ xb < w4.heap.size := ⟨Nat.le_trans HB2.out.1.size hbb.size, lt_of_heap hx4⟩
  have HB4 := Lib.hid (And.intro (HB2.out.1.trans ((hbb.trans (hab.mono hbb.size)).mono HB2.out.1.size)) (And.intro ((hab.block xb (lt_of_heap hx4)).trans hx4) (And.intro hal hwn)))
  clear hs3 hb3 hb4 hbb hal hab hx4 HB2 hwn
  gi_wp2_with fail
  change Fence.wide.fn _ ∧ CallsIn Fence.wide _ _ _ _ (allocs w4 [.cells #[.int .i64 0, .int .i64 0, .string ⟨#[]⟩, .slice kd 0 ke] 25, .cells #[.int .i64 0] 3]) _
  generalize hX : allocs w4 _ = X4 at HB4 ⊢
  generalize hnb : w4.heap.size = nb at HB4 ⊢
  clear hX hnb
  refine ⟨trivial, ?_⟩
  gi_at_call 17
  refine (callsIn_wide.2 (some_any X4)).mono ?_
  rintro e w5 ⟨v5, rfl, hs5, hb5⟩
  gi_wp2_with fail
  refine ⟨trivial, ?_⟩
  gi_at_call 18
  refine (callsIn_wide.2 (hs5.walk hb5.size)).mono ?_
  rintro e W ⟨HBk, BBk, rfl, hb6, SS, hSS, hwa⟩
  have hbb := hb5.trans (hb6.mono hb5.size)
  have HB6 := Lib.hid (And.intro (HB4.out.1.trans (hbb.mono HB4.out.1.size)) (And.intro ((hbb.block xb (lt_of_heap HB4.out.2.1)).trans HB4.out.2.1) (And.intro ((hbb.block (nb + 1) (lt_of_heap HB4.out.2.2.1)).trans HB4.out.2.2.1) (And.intro HB4.out.2.2.2.1 (And.intro HB4.out.2.2.2.2 (lt_of_heap HB4.out.2.2.1))))))
  have HWA := Lib.hid (And.intro hSS hwa)
  clear hs5 hb5 hb6 hbb HB4 hSS hwa
  gi_wp2_with fail
  refine range_walk (by omega) rfl SS someT HWA.out.2 (fun x hx => (HWA.out.1 x hx).1) (by decide) rfl (fun pre V => Touched W V (fun y => y = nb + 1) ∧ V.heap[nb + 1]? = some (.cells #[.int .i64 (numN pre)] 3 (0, 0))) (fun _ _ => False) ?hI (fun h _ => h.elim) ⟨Touched.refl _ _, HB6.out.2.2.1⟩ ?round ?done ?stop
  case hI =>
    rintro pre V V' ⟨h1, h2⟩ hb
    have hs := HB6.out.2.2.2.2.2
    exact ⟨⟨hb.os.trans h1.os, hb.tape.trans h1.tape, hb.output.trans h1.output, Nat.le_trans h1.size hb.size, fun k hk hn => (hb.block k hk).trans (h1.block k hk hn)⟩, (hb.block _ (lt_of_heap HB6.out.2.2.1)).trans h2⟩
  case stop => exact fun _ _ _ _ h _ => h.elim
  case done =>
    rintro D V hD ⟨h1, h2⟩ hK
    have hB : Below w.heap.size w V := by
      have hb := HB6.out.1
      exact ⟨h1.os.trans hb.os, h1.tape.trans hb.tape, h1.output.trans hb.output, Nat.le_trans hb.size h1.size, fun k hk => (h1.block k (by have := hb.size; omega) (by have := HB6.out.2.2.2.1; omega)).trans (hb.block k hk)⟩
    have hx := (h1.block xb (lt_of_heap HB6.out.2.1) (by have := HB6.out.2.2.2.2.1; omega)).trans HB6.out.2.1
    have hwD : w.heap.size ≤ D := by have := HB6.out.1.size; omega
    have hn : numN (spF 1 (rootF someT)) = 112223 := by rw [some_sp]; rfl
    rw [hn] at h2
    have HV := Lib.hid (And.intro hB (And.intro hx (And.intro h2 hK)))
    clear h1 h2 hK hB hx hn HB6 HWA
    gi_wp2_with fail
    refine ⟨trivial, ?_⟩
    gi_at_call 17
    refine (callsIn_wide.2 (some_any V)).mono ?_
    rintro e w8 ⟨v8, rfl, hs8, hb8⟩
    gi_wp2_with fail
    refine ⟨trivial, ?_⟩
    gi_at_call 15
    refine (callsIn_wide.2 (hs8.shown (HT.out.below (HV.out.1.trans (hb8.mono HV.out.1.size))))).mono ?_
    rintro e w9 ⟨rfl, hb9⟩
    have hbb := hb8.trans (hb9.mono hb8.size)
    have hx9 := (hbb.block xb (lt_of_heap HV.out.2.1)).trans HV.out.2.1
    have hn9 := (hbb.block (nb + 1) (lt_of_heap HV.out.2.2.1)).trans HV.out.2.2.1
    have hK9 := (hbb.block D (lt_of_heap HV.out.2.2.2)).trans HV.out.2.2.2
    have x9 : w9.cell? ⟨xb, 2, none⟩ = some (.string ⟨#[97]⟩) := by rw [cell_of_row _ _ 2 _ _ _ hx9]; rfl
    have n9 : w9.cell? ⟨nb + 1, 0, none⟩ = some (.int .i64 112223) := by rw [cell_of_row _ _ 0 _ _ _ hn9]; rfl
    have HV9 := Lib.hid (And.intro (HV.out.1.trans (hbb.mono HV.out.1.size)) hK9)
    clear hbb hx9 hn9 hK9 hb8 hb9 hs8 HV
    gi_wp2_with fail
    refine ⟨trivial, ?_⟩
    gi_at_call 17
    refine (callsIn_wide.2 (some_any w9)).mono ?_
    rintro e w10 ⟨v10, rfl, hs10, hb10⟩
    clear x9 n9
    gi_wp2_with fail
    refine ⟨trivial, ?_⟩
    gi_at_call 19
    refine (callsIn_wide.2 hs10.count).mono ?_
    rintro e w11 ⟨rfl, hb11⟩
    have hbb := hb10.trans (hb11.mono hb10.size)
    have HV11 := Lib.hid (And.intro (HV9.out.1.trans (hbb.mono HV9.out.1.size)) ((hbb.block D (lt_of_heap HV9.out.2)).trans HV9.out.2))
    clear hbb hb10 hb11 hs10 HV9
    gi_wp2_with fail
    refine ⟨trivial, ?_⟩
    gi_at_call 17
    refine (callsIn_wide.2 (some_any w11)).mono ?_
    rintro e w12 ⟨v12, rfl, hs12, hb12⟩
    gi_wp2_with fail
    refine ⟨trivial, ?_⟩
    gi_at_call 13
    refine (callsIn_wide.2 hs12.depth).mono ?_
    rintro e w13 ⟨rfl, hb13⟩
    have hbb := hb12.trans (hb13.mono hb12.size)
    have hk13 := (hbb.block D (lt_of_heap HV11.out.2)).trans HV11.out.2
    have hb13' := HV11.out.1.trans (hbb.mono HV11.out.1.size)
    have hfin : Below w.heap.size w (w13.putObj D (.deferred none)) := ⟨hb13'.os, hb13'.tape, hb13'.output, by have := hb13'.size; simp [World.putObj]; exact this, fun y hy => by rw [World.putObj_heap_other (by omega)]; exact hb13'.block y hy⟩
    have HE := Lib.hid (And.intro hk13 hfin)
    clear hbb hb12 hb13 hs12 HV11 hk13 hb13' hfin
    gi_wp2
    refine ⟨by simp, .inl ⟨_, _, rfl, run_takeDeferred HE.out.1, ?_⟩⟩
    exact ⟨_, results_tmp rfl _ _ _, rfl, HE.out.2⟩
  case round =>
    rintro l hl pre rest x V v htot hV ⟨h1, h2⟩ hv K hK
    obtain ⟨ya, yc, rfl, _, _⟩ := hv
    have hnx : ∃ n0 : Int, numN pre = n0 ∧ n0 * 100 + (x.1 : Int) * 10 + x.2.1.1 = numN (pre ++ [x]) ∧ 0 ≤ n0 ∧ n0 ≤ 2000 ∧ x.1 ≤ 2 ∧ 0 ≤ x.2.1.1 ∧ x.2.1.1 ≤ 3 := by
      rw [some_sp] at htot
      rcases pre with _ | ⟨p1, pre⟩
      · simp only [List.nil_append, List.cons.injEq] at htot
        obtain ⟨rfl, _⟩ := htot
        exact ⟨0, rfl, rfl, by decide, by decide, by decide, by decide, by decide⟩
      · simp only [List.cons_append, List.cons.injEq] at htot
        obtain ⟨rfl, htot⟩ := htot
        rcases pre with _ | ⟨p2, pre⟩
        · simp only [List.nil_append, List.cons.injEq] at htot
          obtain ⟨rfl, _⟩ := htot
          exact ⟨11, rfl, rfl, by decide, by decide, by decide, by decide, by decide⟩
        · simp only [List.cons_append, List.cons.injEq] at htot
          obtain ⟨rfl, htot⟩ := htot
          rcases pre with _ | ⟨p3, pre⟩
          · simp only [List.nil_append, List.cons.injEq] at htot
            obtain ⟨rfl, _⟩ := htot
            exact ⟨1122, rfl, rfl, by decide, by decide, by decide, by decide, by decide⟩
          · simp only [List.cons_append, List.cons.injEq] at htot
            obtain ⟨_, htot⟩ := htot
            cases pre <;> cases htot
    obtain ⟨n0, hn0, hn1, g1, g2, g3, g4, g5⟩ := hnx
    rw [hn0] at h2
    obtain ⟨id, hid0⟩ : ∃ id, id = x.2.1.1 := ⟨_, rfl⟩
    obtain ⟨d, hd0⟩ : ∃ d, d = x.1 := ⟨_, rfl⟩
    simp only [trOf]
    rw [← hid0, ← hd0] at hn1 ⊢
    rw [← hid0] at g4 g5
    rw [← hd0] at g3
    have HR := Lib.hid (And.intro h1 (And.intro h2 (And.intro hn1 (And.intro hV hl))))
    have HK := Lib.hid hK
    have HX := Lib.hid (And.intro hid0 hd0)
    clear h1 h2 hn1 hV hl hK htot hn0 hid0 hd0
    gi_wp2
    generalize hV0 : World.alloc V _ = V0
    have hb0 : Below V.heap.size V V0 := by rw [← hV0]; exact (Below.refl _ V).alloc (Nat.le_refl _) _
    have hy0 : V0.cell? ⟨V.heap.size, 0, none⟩ = some (.int .i64 id) := by rw [← hV0, cell_of_row _ _ 0 _ _ _ (heap_alloc_new V _)]; rfl
    clear hV0
    refine HK.out _ _ hb0 fun V1 hV1 => ?_
    clear HK
    obtain ⟨o', ev, o, ho, hoc⟩ := hV1
    have hnX := HB6.out.2.2.2.2.2
    have hnW := lt_of_heap HB6.out.2.2.1
    have hk1 : ∀ y, y ≠ l → V1.heap[y]? = V0.heap[y]? := fun y hy => by rw [ev]; exact World.putObj_heap_other hy
    have hs1 : V1.heap.size = V0.heap.size := by rw [ev]; simp [World.putObj]
    have hs0 := hb0.size
    have hWV := HR.out.2.2.2.1
    have hlW := HR.out.2.2.2.2
    have hcn : V1.heap[nb + 1]? = some (.cells #[.int .i64 n0] 3 (0, 0)) := (hk1 _ (by omega)).trans ((hb0.block _ (by omega)).trans HR.out.2.1)
    have hlow : ∀ y, y < W.heap.size → V1.heap[y]? = V.heap[y]? := fun y hy => (hk1 _ (by omega)).trans (hb0.block _ (by omega))
    have c0 : V1.cell? ⟨nb + 1, 0, none⟩ = some (.int .i64 n0) := by rw [cell_of_row _ _ 0 _ _ _ hcn]; rfl
    have f0 : V1.frozen? ⟨nb + 1, 0, none⟩ = false := frozen_of_row _ _ 0 _ _ hcn
    have y0 : V1.cell? ⟨V.heap.size, 0, none⟩ = some (.int .i64 id) := (World.cell?_of_block (hk1 _ (by show V.heap.size ≠ l; omega))).trans hy0
    have hend : ∀ aa : Act, LeftW W.heap.size SS (fun pre V => Touched W V (fun y => y = nb + 1) ∧ V.heap[nb + 1]? = some (.cells #[.int .i64 (numN pre)] 3 (0, 0))) (fun _ _ => False) (pre ++ [x]) V1 .normal aa (V1.setCell ⟨nb + 1, 0, none⟩ (.int .i64 (n0 * 100 + (d : Int) * 10 + id))) := fun aa => by
      have hbk : ∀ y, y ≠ nb + 1 → (V1.setCell ⟨nb + 1, 0, none⟩ (.int .i64 (n0 * 100 + (d : Int) * 10 + id))).heap[y]? = V1.heap[y]? := fun y hy => Below.heap_setCell _ _ _ _ hy
      have ht := HR.out.1
      refine ⟨⟨by simp [World.setCell], fun y hy hl => hbk y (fun e => ?_)⟩, .inl ⟨rfl, ⟨?_, ?_, ?_, ?_, fun k hk hn => (hbk k hn).trans ((hlow k hk).trans (ht.block k hk hn))⟩, ?_⟩⟩
      · rcases hy with hy | hy
        · omega
        · have := (HWA.out.1 y hy).2; omega
      · rw [ev]; exact hb0.os.trans ht.os
      · rw [ev]; exact hb0.tape.trans ht.tape
      · rw [ev]; exact hb0.output.trans ht.output
      · simp [World.setCell]; omega
      · rw [heap_setCell_same V1 (nb + 1) 0 _ _ _ hcn, HR.out.2.2.1]
        simp
    have hd2 : (d : Int) ≤ 2 := by omega
    have HE := Lib.hid hend
    clear hnX hend hcn hlow ev ho hoc hk1 hs1 hs0 hWV hlW hnW hy0 hb0 HX
    gi_wp2
    exact HE.out _
end Go.Proofs.YteccnekdmehloaaDoor
