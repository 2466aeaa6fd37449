/-
  What TreeCounts answers: true. No condition but that its argument lies in memory as it came in.
-/
import Derived.Test.YtbbiemnjidfglaaDoorEWakes
import Derived.Test.YtbbiemnjidfglaaDoorRCount
import Derived.Test.YtbbiemnjidfglaaDoorEHeld
namespace Go.Proofs.YtbbiemnjidfglaaDoor
open Go.RowKit Go.Shelf
attribute [local go_sem] Oper.semAt_some
attribute [local go_sem] seq_nil
set_option linter.unusedVariables false
set_option linter.unusedSimpArgs false

theorem region_plain {n : Nat} {P : Program} {ops : Array Oper} {Q : Exit → Act → World → Prop} {S : World → Prop} {id : Nat} {a : Act} {w : World} (hm : P.follows .mixedOrders = true) (h : AnyIn n P .any ops Q S ops.size (Array.replicate ops.size false) a w.drew) : (Code.region id ops true).wpIn Fence.wide n P Q a w :=
  wpIn_region_any hm (anyIn_plain _ _ _ _ h)
/-- .. where nothing panics. -/
theorem region_calm {n : Nat} {P : Program} {ops : Array Oper} {Q : Exit → Act → World → Prop} {S : World → Prop} {id : Nat} {a : Act} {w : World} (hm : P.follows .mixedOrders = true) (h : AnyIn n P .any ops (fun e a w => e = .normal ∧ Q .normal a w) S ops.size (Array.replicate ops.size false) a w.drew) : (Code.region id ops true).wpIn Fence.wide n P Q a w :=
  wpIn_mono (region_plain hm h) (fun e a w h => by obtain ⟨rfl, h⟩ := h; exact h)
def YesB (w : World) (e : Ending) (w' : World) : Prop := e = .returned (.bool true) ∧ Below w.heap.size w w'
set_option maxRecDepth 100000 in
set_option maxHeartbeats 4000000 in
theorem counts_any (w : World) (S : Nat → Prop) (nv : Value) (t : Tr) (hS : ∀ x, S x → CellsB w x) (ht : TrAt w S nv t) (htab : Tab w) (hlen : foLen t.kids ≤ 9223372036854775807) (hfit : foFit t.kids) :
    Calls Tryd.prog 4 #[nv] w (YesB w) := by
  have ht0 := ht
  obtain ⟨ka, cap, rfl, hcap, hk⟩ := ht
  obtain ⟨n, hn⟩ : ∃ n, n = foLen t.kids := ⟨_, rfl⟩
  rw [← hn] at ht0 ⊢
  obtain ⟨ob, hob⟩ : ∃ ob, ob = Obj.cells #[.int .i64 t.id, .int .i64 t.kind, .string t.text, .slice ka n cap] 24 (0, 0) := ⟨_, rfl⟩
  have hb1 : Below w.heap.size w (w.alloc ob) := (Below.refl _ _).alloc (Nat.le_refl _) _
  have hgr := great_tree (w.alloc ob) S _ t hlen hfit (fun x hx => by have := (hS x hx).lt; rw [World.size_alloc]; omega) (ht0.kept fun x hx => ⟨hx, hb1.block x (hS x hx).lt⟩)
  rw [hob] at hgr hb1
  have hbx := heap_alloc_new w (.cells #[.int .i64 t.id, .int .i64 t.kind, .string t.text, .slice ka n cap] 24)
  have HG := Lib.hid (And.intro hgr (And.intro hb1 hbx))
  have H := Lib.hid (And.intro hS (And.intro ht0 (And.intro htab hn)))
  clear hn hgr hb1 hbx hS ht0 htab hlen hfit hcap hk hob ob
  refine (callsIn_wide (n := 12)).1 ?_
  refine callsIn_of_wp_marks Tryd.func4 rfl trivial ?_ rfl
  simp only [Tryd.ntmps4, List.size_toArray, List.length_cons, List.length_nil, Nat.reduceAdd, Nat.reduceSub, Array.replicate_succ, Array.replicate_zero, List.push_toArray, List.append_toArray, List.nil_append, List.cons_append]
  gi_wp2_with fail
  refine ⟨trivial, ?_⟩
  gi_at_call 6
  refine (callsIn_wide.2 HG.out.1).mono ?_
  rintro e w2 ⟨b, rfl, hsz, hb2⟩
  have HB2 := Lib.hid (And.intro (show Below w.heap.size w w2 from HG.out.2.1.trans (hb2.mono HG.out.2.1.size)) ((hb2.block w.heap.size (lt_of_heap HG.out.2.2)).trans HG.out.2.2))
  have HSZ := Lib.hid hsz
  clear hb2 hsz HG
  cases b
  · have hsz5 := HSZ.out rfl
    have hb1 := HB2.out.1
    have hcl : ∀ x, S x → CellsB w2 x := fun x hx => by
      obtain ⟨cs, ty, fr, hc⟩ := H.out.1 x hx
      exact ⟨cs, ty, fr, (hb1.block x (lt_of_heap hc)).trans hc⟩
    have htr : TrAt w2 S (.agg #[.int .i64 t.id, .int .i64 t.kind, .string t.text, .slice ka n cap]) t := H.out.2.1.kept fun x hx => ⟨hx, hb1.block x (H.out.1 x hx).lt⟩
    have hal := allocs_at [.cells #[.int .i64 0] 3, .cells #[.int .i64 0] 3] w2
    have hab := allocs_below [.cells #[.int .i64 0] 3, .cells #[.int .i64 0] 3] w2
    have has := allocs_size [.cells #[.int .i64 0] 3, .cells #[.int .i64 0] 3] w2
    have HA := Lib.hid (And.intro hab (And.intro (hal 0 _ rfl) (And.intro (hal 1 _ rfl) (And.intro has (And.intro hcl (And.intro htr hsz5))))))
    have bc0 : w2.cell? ⟨w.heap.size, 0, none⟩ = some (.int .i64 t.id) := by rw [cell_of_row _ _ 0 _ _ _ HB2.out.2]; rfl
    have bc1 : w2.cell? ⟨w.heap.size, 1, none⟩ = some (.int .i64 t.kind) := by rw [cell_of_row _ _ 1 _ _ _ HB2.out.2]; rfl
    have bc2 : w2.cell? ⟨w.heap.size, 2, none⟩ = some (.string t.text) := by rw [cell_of_row _ _ 2 _ _ _ HB2.out.2]; rfl
    have bc3 : w2.cell? ⟨w.heap.size, 3, none⟩ = some (.slice ka n cap) := by rw [cell_of_row _ _ 3 _ _ _ HB2.out.2]; rfl
    have hwl : w.heap.size < w2.heap.size := lt_of_heap HB2.out.2
    clear hsz5 hb1 hcl htr hal hab has HSZ
    gi_wp2_with fail
    change Fence.wide.fn _ ∧ CallsIn Fence.wide _ _ _ _ (allocs w2 [.cells #[.int .i64 0] 3, .cells #[.int .i64 0] 3]) _
    generalize hX : allocs w2 _ = X2 at HA ⊢
    generalize hnb : w2.heap.size = nb at HA hwl ⊢
    have hbx := HB2.out.2
    have hb12 := HB2.out.1
    have hsn : w2.heap.size = nb := hnb
    have HX2 := Lib.hid (show Below w.heap.size w X2 ∧ X2.heap[w.heap.size]? = some (.cells #[.int .i64 t.id, .int .i64 t.kind, .string t.text, .slice ka n cap] 24 (0, 0)) ∧ (∀ x, S x → CellsB X2 x ∧ x < w.heap.size) ∧ TrAt X2 S (.agg #[.int .i64 t.id, .int .i64 t.kind, .string t.text, .slice ka n cap]) t ∧ foSize t.kids + 1 ≤ 2000 ∧ X2.heap[nb]? = some (.cells #[.int .i64 0] 3 (0, 0)) ∧ X2.heap[nb + 1]? = some (.cells #[.int .i64 0] 3 (0, 0)) ∧ w.heap.size < nb from by
      obtain ⟨a1, a2, a3, a4, a5, a6, a7⟩ := HA.out
      have hk : ∀ x, x < w2.heap.size → X2.heap[x]? = w2.heap[x]? := fun x hx => by subst hnb; exact a1.block x hx
      refine ⟨hb12.trans ⟨a1.os, a1.tape, a1.output, by have := a1.size; have := hb12.size; omega, fun x hx => hk x (by have := hb12.size; omega)⟩, (hk _ (by omega)).trans hbx, fun x hx => ?_, a6.kept fun x hx => ⟨hx, hk x (a5 x hx).lt⟩, a7, a2, a3, hwl⟩
      obtain ⟨cs, ty, fr, hc⟩ := a5 x hx
      exact ⟨⟨cs, ty, fr, (hk x (lt_of_heap hc)).trans hc⟩, (H.out.1 x hx).lt⟩)
    clear hX hnb hbx hb12 hsn HA HB2 bc0 bc1 bc2 bc3 hwl
    refine ⟨trivial, ?_⟩
    gi_at_call 16
    refine (callsIn_wide.2 (walk_any X2 S _ t (fun x hx => (HX2.out.2.2.1 x hx).1) HX2.out.2.2.2.1 (by have := HX2.out.2.2.2.2.1; omega))).mono ?_
    rintro e W ⟨HBk, BBk, rfl, hb3, _, _, hwa⟩
    have HWA := Lib.hid hwa
    have HW := Lib.hid hb3
    clear hwa hb3
    gi_wp2_with fail
    refine range_walk (by omega) rfl _ t HWA.out (fun x hx => hx.1) (by have := HX2.out.2.2.2.2.1; omega) rfl (fun pre V => Touched W V (fun y => y = nb ∨ y = nb + 1) ∧ V.heap[nb]? = some (.cells #[.int .i64 (lenI pre)] 3 (0, 0)) ∧ V.heap[nb + 1]? = some (.cells #[.int .i64 (maxI pre)] 3 (0, 0))) (fun _ _ => False) ?hI (fun h _ => h.elim) ⟨Touched.refl _ _, (HW.out.block nb (lt_of_heap HX2.out.2.2.2.2.2.1)).trans HX2.out.2.2.2.2.2.1, (HW.out.block (nb + 1) (lt_of_heap HX2.out.2.2.2.2.2.2.1)).trans HX2.out.2.2.2.2.2.2.1⟩ ?round ?done ?stop
    case hI =>
      rintro pre V V' ⟨h1, h2, h3⟩ hb
      have hs := HW.out.size
      have hn1 := lt_of_heap HX2.out.2.2.2.2.2.2.1
      exact ⟨⟨hb.os.trans h1.os, hb.tape.trans h1.tape, hb.output.trans h1.output, Nat.le_trans h1.size hb.size, fun k hk hn => (hb.block k hk).trans (h1.block k hk hn)⟩, (hb.block _ (by omega)).trans h2, (hb.block _ (by omega)).trans h3⟩
    case stop => exact fun _ _ _ _ h _ => h.elim
    case done =>
      rintro D V hD ⟨h1, h2, h3⟩ hK
      have hs := HW.out.size
      have hn1 := lt_of_heap HX2.out.2.2.2.2.2.2.1
      have hwn := HX2.out.2.2.2.2.2.2.2
      have hlow : ∀ x, x < nb → V.heap[x]? = X2.heap[x]? := fun x hx => (h1.block x (by omega) (by omega)).trans (HW.out.block x (by omega))
      have hB : Below w.heap.size w V := by
        have hb := HX2.out.1.trans (HW.out.mono HX2.out.1.size)
        exact ⟨h1.os.trans hb.os, h1.tape.trans hb.tape, h1.output.trans hb.output, Nat.le_trans hb.size h1.size, fun k hk => (h1.block k (by omega) (by omega)).trans (hb.block k hk)⟩
      have hbx := (hlow _ hwn).trans HX2.out.2.1
      have htr : TrAt V S (.agg #[.int .i64 t.id, .int .i64 t.kind, .string t.text, .slice ka n cap]) t := HX2.out.2.2.2.1.kept fun x hx => ⟨hx, hlow x (by have := (HX2.out.2.2.1 x hx).2; omega)⟩
      have hSV : ∀ x, S x → x < V.heap.size := fun x hx => by have := (HX2.out.2.2.1 x hx).2; have := h1.size; omega
      rw [lenI_root] at h2
      rw [maxI_root] at h3
      obtain ⟨q, hq⟩ : ∃ q : Int, q = (foSize t.kids : Int) + 1 := ⟨_, rfl⟩
      obtain ⟨dd, hdd⟩ : ∃ dd : Int, dd = (depN t.kids : Int) + 1 := ⟨_, rfl⟩
      rw [← hq] at h2
      rw [← hdd] at h3
      have hsz := HX2.out.2.2.2.2.1
      obtain ⟨SX, hSX⟩ : ∃ SX : World → Prop, SX = fun X => Below V.heap.size V X := ⟨_, rfl⟩
      have HSx : ∀ X, SX X → X.cell? ⟨w.heap.size, 0, none⟩ = some (.int .i64 t.id) ∧ X.cell? ⟨w.heap.size, 1, none⟩ = some (.int .i64 t.kind) ∧ X.cell? ⟨w.heap.size, 2, none⟩ = some (.string t.text) ∧ X.cell? ⟨w.heap.size, 3, none⟩ = some (.slice ka n cap) ∧ X.cell? ⟨nb, 0, none⟩ = some (.int .i64 q) ∧ X.cell? ⟨nb + 1, 0, none⟩ = some (.int .i64 dd) := fun X h => by
        rw [hSX] at h
        have e1 := (h.block _ (lt_of_heap hbx)).trans hbx
        have e2 := (h.block _ (lt_of_heap h2)).trans h2
        have e3 := (h.block _ (lt_of_heap h3)).trans h3
        exact ⟨by rw [cell_of_row _ _ 0 _ _ _ e1]; rfl, by rw [cell_of_row _ _ 1 _ _ _ e1]; rfl, by rw [cell_of_row _ _ 2 _ _ _ e1]; rfl, by rw [cell_of_row _ _ 3 _ _ _ e1]; rfl, by rw [cell_of_row _ _ 0 _ _ _ e2]; rfl, by rw [cell_of_row _ _ 0 _ _ _ e3]; rfl⟩
      have hS0 : SX V.drew := by rw [hSX]; exact ⟨rfl, rfl, rfl, Nat.le_refl _, fun _ _ => rfl⟩
      have HSB := Lib.hid (fun (X Y : World) (h : SX X) (hb : Below X.heap.size X Y) => (show SX Y by rw [hSX] at h ⊢; exact h.trans (hb.mono h.size)))
      have htX : ∀ X, SX X → TrAt X S (.agg #[.int .i64 t.id, .int .i64 t.kind, .string t.text, .slice ka n cap]) t ∧ ∀ x, S x → x < X.heap.size := fun X h => by
        rw [hSX] at h
        exact ⟨htr.kept fun x hx => ⟨hx, h.block x (hSV x hx)⟩, fun x hx => Nat.lt_of_lt_of_le (hSV x hx) h.size⟩
      have HCN : Hid (∀ X, SX X → Calls Tryd.prog 17 #[.agg #[.int .i64 t.id, .int .i64 t.kind, .string t.text, .slice ka n cap]] X (IntC X q)) := Lib.hid fun X h => by
        have := count_any X S _ t (htX X h).2 (htX X h).1 (by omega)
        rw [lenI_root, ← hq] at this; exact this
      have HDP : Hid (∀ X, SX X → Calls Tryd.prog 19 #[.agg #[.int .i64 t.id, .int .i64 t.kind, .string t.text, .slice ka n cap]] X (IntC X dd)) := Lib.hid fun X h => by
        have := depth_any X S _ t (htX X h).2 (htX X h).1 (by omega)
        rw [maxI_root, ← hdd] at this; exact this
      have HRC : Hid (∀ X, SX X → Calls Tryd.prog 18 #[.agg #[.int .i64 t.id, .int .i64 t.kind, .string t.text, .slice ka n cap]] X (IntC X q)) := Lib.hid fun X h => by
        have := rcount_any 5000 X S _ t (by omega) (by omega) (htX X h).2 (htX X h).1
        rw [← hq] at this; exact this
      have HRD : Hid (∀ X, SX X → Calls Tryd.prog 20 #[.agg #[.int .i64 t.id, .int .i64 t.kind, .string t.text, .slice ka n cap]] X (IntC X dd)) := Lib.hid fun X h => by
        have := rdepth_any 5000 X S _ t (by omega) (by omega) (htX X h).2 (htX X h).1
        rw [← hdd] at this; exact this
      have HWK : Hid (∀ X, SX X → Calls Tryd.prog 7 #[] X fun e w' => e = .returned (.bool true) ∧ Below X.heap.size X w') := Lib.hid fun X h => wakes_any X (H.out.2.2.1.below (by rw [hSX] at h; exact hB.trans (h.mono hB.size)))
      have HFIN : Hid (∀ X, SX X → X.heap[D]? = some (.deferred (some [])) ∧ Below w.heap.size w (X.putObj D (.deferred none))) := Lib.hid fun X h => by
        rw [hSX] at h
        have hb := hB.trans (h.mono hB.size)
        exact ⟨(h.block D (lt_of_heap hK)).trans hK, hb.os, hb.tape, hb.output, by have := hb.size; simp [World.putObj]; exact this, fun x hx => by rw [World.putObj_heap_other (by omega)]; exact hb.block x hx⟩
      clear hSX htX htr hSV h1 h2 h3 hK hs hn1 hwn hlow hB hbx hq hdd hsz hD HX2 HW HWA H
      gi_wp2_with fail
      refine region_calm (S := SX) (by kernel_rfl) ?_
      have hHeld := hS0
      clear hS0
      refine anyIn_take (i := 0) (oi := _) (v := (.agg #[.int .i64 t.id, .int .i64 t.kind, .string t.text, .slice ka n cap])) rfl (by kernel_rfl) (by kernel_rfl) (by kernel_rfl) (fun _ _ _ h => by cases h.1) (Or.inl ⟨by rfl, ?_⟩) hHeld ?_
      · clear hHeld; intro X hSw; obtain ⟨s0, s1, s2, s3, s4, s5⟩ := HSx X hSw; clear hSw; go_simp
      simp only [Act.put, List.getElem_toArray, List.getElem_cons_zero, List.getElem_cons_succ, List.setIfInBounds_toArray, List.set_cons_zero, List.set_cons_succ]
      refine anyIn_take (i := 2) (oi := _) (v := (.agg #[.int .i64 t.id, .int .i64 t.kind, .string t.text, .slice ka n cap])) rfl (by kernel_rfl) (by kernel_rfl) (by kernel_rfl) (fun _ _ _ h => by cases h.1) (Or.inl ⟨by rfl, ?_⟩) hHeld ?_
      · clear hHeld; intro X hSw; obtain ⟨s0, s1, s2, s3, s4, s5⟩ := HSx X hSw; clear hSw; go_simp
      simp only [Act.put, List.getElem_toArray, List.getElem_cons_zero, List.getElem_cons_succ, List.setIfInBounds_toArray, List.set_cons_zero, List.set_cons_succ]
      refine anyIn_one (i := 1) (o := _) (by kernel_rfl) rfl fun K1 hK1 => ?_
      rw [if_pos (by rfl)]
      simp only [List.getElem_toArray, List.getElem_cons_zero, List.getElem_cons_succ]
      have HK1 := Lib.hid hK1
      have HH1 := Lib.hid hHeld
      clear hK1 hHeld
      gi_wp2_with (refine ⟨trivial, ?_⟩; gi_at_call 17; refine (callsIn_wide.2 (HCN.out _ HH1.out)).mono ?_; rintro e X1 ⟨rfl, hb⟩; have HX1 := Lib.hid hb; clear hb)
      have hHeld := HSB.out _ X1 HH1.out HX1.out
      refine HK1.out _ _ hHeld ?_
      clear HK1
      refine anyIn_one (i := 3) (o := _) (by kernel_rfl) rfl fun K3 hK3 => ?_
      rw [if_pos (by rfl)]
      simp only [List.getElem_toArray, List.getElem_cons_zero, List.getElem_cons_succ]
      have HK3 := Lib.hid hK3
      have HH3 := Lib.hid hHeld
      clear hK3 hHeld
      gi_wp2_with (refine ⟨trivial, ?_⟩; gi_at_call 18; refine (callsIn_wide.2 (HRC.out _ HH3.out)).mono ?_; rintro e X3 ⟨rfl, hb⟩; have HX3 := Lib.hid hb; clear hb)
      have hHeld := HSB.out _ X3 HH3.out HX3.out
      refine HK3.out _ _ hHeld ?_
      clear HK3
      refine anyIn_take (i := 4) (oi := _) (v := (.bool true)) rfl (by kernel_rfl) (by kernel_rfl) (by kernel_rfl) (fun _ _ _ h => by cases h.1) (Or.inl ⟨by rfl, ?_⟩) hHeld ?_
      · clear hHeld; intro X hSw; clear hSw; go_simp
      simp only [Act.put, List.getElem_toArray, List.getElem_cons_zero, List.getElem_cons_succ, List.setIfInBounds_toArray, List.set_cons_zero, List.set_cons_succ]
      refine anyIn_take (i := 5) (oi := _) (v := (.bool true)) rfl (by kernel_rfl) (by kernel_rfl) (by kernel_rfl) (fun _ _ _ h => by cases h.1) (Or.inl ⟨by rfl, ?_⟩) hHeld ?_
      · clear hHeld; intro X hSw; clear hSw; go_simp
      simp only [Act.put, List.getElem_toArray, List.getElem_cons_zero, List.getElem_cons_succ, List.setIfInBounds_toArray, List.set_cons_zero, List.set_cons_succ]
      refine anyIn_take (i := 6) (oi := _) (v := (.agg #[.int .i64 t.id, .int .i64 t.kind, .string t.text, .slice ka n cap])) rfl (by kernel_rfl) (by kernel_rfl) (by kernel_rfl) (fun _ _ _ h => by cases h.1) (Or.inl ⟨by rfl, ?_⟩) hHeld ?_
      · clear hHeld; intro X hSw; obtain ⟨s0, s1, s2, s3, s4, s5⟩ := HSx X hSw; clear hSw; go_simp
      simp only [Act.put, List.getElem_toArray, List.getElem_cons_zero, List.getElem_cons_succ, List.setIfInBounds_toArray, List.set_cons_zero, List.set_cons_succ]
      refine anyIn_take (i := 8) (oi := _) (v := (.agg #[.int .i64 t.id, .int .i64 t.kind, .string t.text, .slice ka n cap])) rfl (by kernel_rfl) (by kernel_rfl) (by kernel_rfl) (fun _ _ _ h => by cases h.1) (Or.inl ⟨by rfl, ?_⟩) hHeld ?_
      · clear hHeld; intro X hSw; obtain ⟨s0, s1, s2, s3, s4, s5⟩ := HSx X hSw; clear hSw; go_simp
      simp only [Act.put, List.getElem_toArray, List.getElem_cons_zero, List.getElem_cons_succ, List.setIfInBounds_toArray, List.set_cons_zero, List.set_cons_succ]
      refine anyIn_one (i := 7) (o := _) (by kernel_rfl) rfl fun K7 hK7 => ?_
      rw [if_pos (by rfl)]
      simp only [List.getElem_toArray, List.getElem_cons_zero, List.getElem_cons_succ]
      have HK7 := Lib.hid hK7
      have HH7 := Lib.hid hHeld
      clear hK7 hHeld
      gi_wp2_with (refine ⟨trivial, ?_⟩; gi_at_call 19; refine (callsIn_wide.2 (HDP.out _ HH7.out)).mono ?_; rintro e X7 ⟨rfl, hb⟩; have HX7 := Lib.hid hb; clear hb)
      have hHeld := HSB.out _ X7 HH7.out HX7.out
      refine HK7.out _ _ hHeld ?_
      clear HK7
      refine anyIn_one (i := 9) (o := _) (by kernel_rfl) rfl fun K9 hK9 => ?_
      rw [if_pos (by rfl)]
      simp only [List.getElem_toArray, List.getElem_cons_zero, List.getElem_cons_succ]
      have HK9 := Lib.hid hK9
      have HH9 := Lib.hid hHeld
      clear hK9 hHeld
      gi_wp2_with (refine ⟨trivial, ?_⟩; gi_at_call 20; refine (callsIn_wide.2 (HRD.out _ HH9.out)).mono ?_; rintro e X9 ⟨rfl, hb⟩; have HX9 := Lib.hid hb; clear hb)
      have hHeld := HSB.out _ X9 HH9.out HX9.out
      refine HK9.out _ _ hHeld ?_
      clear HK9
      refine anyIn_take (i := 10) (oi := _) (v := (.bool true)) rfl (by kernel_rfl) (by kernel_rfl) (by kernel_rfl) (fun _ _ _ h => by cases h.1) (Or.inl ⟨by rfl, ?_⟩) hHeld ?_
      · clear hHeld; intro X hSw; clear hSw; go_simp
      simp only [Act.put, List.getElem_toArray, List.getElem_cons_zero, List.getElem_cons_succ, List.setIfInBounds_toArray, List.set_cons_zero, List.set_cons_succ]
      refine anyIn_take (i := 11) (oi := _) (v := (.bool true)) rfl (by kernel_rfl) (by kernel_rfl) (by kernel_rfl) (fun _ _ _ h => by cases h.1) (Or.inl ⟨by rfl, ?_⟩) hHeld ?_
      · clear hHeld; intro X hSw; clear hSw; go_simp
      simp only [Act.put, List.getElem_toArray, List.getElem_cons_zero, List.getElem_cons_succ, List.setIfInBounds_toArray, List.set_cons_zero, List.set_cons_succ]
      refine anyIn_take (i := 12) (oi := _) (v := (.bool true)) rfl (by kernel_rfl) (by kernel_rfl) (by kernel_rfl) (fun _ _ _ h => by cases h.1) (Or.inl ⟨by rfl, ?_⟩) hHeld ?_
      · clear hHeld; intro X hSw; clear hSw; go_simp
      simp only [Act.put, List.getElem_toArray, List.getElem_cons_zero, List.getElem_cons_succ, List.setIfInBounds_toArray, List.set_cons_zero, List.set_cons_succ]
      refine anyIn_take (i := 13) (oi := _) (v := (.int .i64 q)) rfl (by kernel_rfl) (by kernel_rfl) (by kernel_rfl) (fun _ _ _ h => by cases h.1) (Or.inl ⟨by rfl, ?_⟩) hHeld ?_
      · clear hHeld; intro X hSw; obtain ⟨s0, s1, s2, s3, s4, s5⟩ := HSx X hSw; clear hSw; go_simp
      simp only [Act.put, List.getElem_toArray, List.getElem_cons_zero, List.getElem_cons_succ, List.setIfInBounds_toArray, List.set_cons_zero, List.set_cons_succ]
      refine anyIn_take (i := 14) (oi := _) (v := (.agg #[.int .i64 t.id, .int .i64 t.kind, .string t.text, .slice ka n cap])) rfl (by kernel_rfl) (by kernel_rfl) (by kernel_rfl) (fun _ _ _ h => by cases h.1) (Or.inl ⟨by rfl, ?_⟩) hHeld ?_
      · clear hHeld; intro X hSw; obtain ⟨s0, s1, s2, s3, s4, s5⟩ := HSx X hSw; clear hSw; go_simp
      simp only [Act.put, List.getElem_toArray, List.getElem_cons_zero, List.getElem_cons_succ, List.setIfInBounds_toArray, List.set_cons_zero, List.set_cons_succ]
      refine anyIn_one (i := 15) (o := _) (by kernel_rfl) rfl fun K15 hK15 => ?_
      rw [if_pos (by rfl)]
      simp only [List.getElem_toArray, List.getElem_cons_zero, List.getElem_cons_succ]
      have HK15 := Lib.hid hK15
      have HH15 := Lib.hid hHeld
      clear hK15 hHeld
      gi_wp2_with (refine ⟨trivial, ?_⟩; gi_at_call 17; refine (callsIn_wide.2 (HCN.out _ HH15.out)).mono ?_; rintro e X15 ⟨rfl, hb⟩; have HX15 := Lib.hid hb; clear hb)
      have hHeld := HSB.out _ X15 HH15.out HX15.out
      refine HK15.out _ _ hHeld ?_
      clear HK15
      refine anyIn_take (i := 16) (oi := _) (v := (.bool true)) rfl (by kernel_rfl) (by kernel_rfl) (by kernel_rfl) (fun _ _ _ h => by cases h.1) (Or.inl ⟨by rfl, ?_⟩) hHeld ?_
      · clear hHeld; intro X hSw; clear hSw; go_simp
      simp only [Act.put, List.getElem_toArray, List.getElem_cons_zero, List.getElem_cons_succ, List.setIfInBounds_toArray, List.set_cons_zero, List.set_cons_succ]
      refine anyIn_take (i := 17) (oi := _) (v := (.bool true)) rfl (by kernel_rfl) (by kernel_rfl) (by kernel_rfl) (fun _ _ _ h => by cases h.1) (Or.inl ⟨by rfl, ?_⟩) hHeld ?_
      · clear hHeld; intro X hSw; clear hSw; go_simp
      simp only [Act.put, List.getElem_toArray, List.getElem_cons_zero, List.getElem_cons_succ, List.setIfInBounds_toArray, List.set_cons_zero, List.set_cons_succ]
      refine anyIn_take (i := 18) (oi := _) (v := (.bool true)) rfl (by kernel_rfl) (by kernel_rfl) (by kernel_rfl) (fun _ _ _ h => by cases h.1) (Or.inl ⟨by rfl, ?_⟩) hHeld ?_
      · clear hHeld; intro X hSw; clear hSw; go_simp
      simp only [Act.put, List.getElem_toArray, List.getElem_cons_zero, List.getElem_cons_succ, List.setIfInBounds_toArray, List.set_cons_zero, List.set_cons_succ]
      refine anyIn_take (i := 19) (oi := _) (v := (.int .i64 dd)) rfl (by kernel_rfl) (by kernel_rfl) (by kernel_rfl) (fun _ _ _ h => by cases h.1) (Or.inl ⟨by rfl, ?_⟩) hHeld ?_
      · clear hHeld; intro X hSw; obtain ⟨s0, s1, s2, s3, s4, s5⟩ := HSx X hSw; clear hSw; go_simp
      simp only [Act.put, List.getElem_toArray, List.getElem_cons_zero, List.getElem_cons_succ, List.setIfInBounds_toArray, List.set_cons_zero, List.set_cons_succ]
      refine anyIn_take (i := 20) (oi := _) (v := (.agg #[.int .i64 t.id, .int .i64 t.kind, .string t.text, .slice ka n cap])) rfl (by kernel_rfl) (by kernel_rfl) (by kernel_rfl) (fun _ _ _ h => by cases h.1) (Or.inl ⟨by rfl, ?_⟩) hHeld ?_
      · clear hHeld; intro X hSw; obtain ⟨s0, s1, s2, s3, s4, s5⟩ := HSx X hSw; clear hSw; go_simp
      simp only [Act.put, List.getElem_toArray, List.getElem_cons_zero, List.getElem_cons_succ, List.setIfInBounds_toArray, List.set_cons_zero, List.set_cons_succ]
      refine anyIn_one (i := 21) (o := _) (by kernel_rfl) rfl fun K21 hK21 => ?_
      rw [if_pos (by rfl)]
      simp only [List.getElem_toArray, List.getElem_cons_zero, List.getElem_cons_succ]
      have HK21 := Lib.hid hK21
      have HH21 := Lib.hid hHeld
      clear hK21 hHeld
      gi_wp2_with (refine ⟨trivial, ?_⟩; gi_at_call 19; refine (callsIn_wide.2 (HDP.out _ HH21.out)).mono ?_; rintro e X21 ⟨rfl, hb⟩; have HX21 := Lib.hid hb; clear hb)
      have hHeld := HSB.out _ X21 HH21.out HX21.out
      refine HK21.out _ _ hHeld ?_
      clear HK21
      refine anyIn_take (i := 22) (oi := _) (v := (.bool true)) rfl (by kernel_rfl) (by kernel_rfl) (by kernel_rfl) (fun _ _ _ h => by cases h.1) (Or.inl ⟨by rfl, ?_⟩) hHeld ?_
      · clear hHeld; intro X hSw; clear hSw; go_simp
      simp only [Act.put, List.getElem_toArray, List.getElem_cons_zero, List.getElem_cons_succ, List.setIfInBounds_toArray, List.set_cons_zero, List.set_cons_succ]
      refine anyIn_take (i := 23) (oi := _) (v := (.bool true)) rfl (by kernel_rfl) (by kernel_rfl) (by kernel_rfl) (fun _ _ _ h => by cases h.1) (Or.inl ⟨by rfl, ?_⟩) hHeld ?_
      · clear hHeld; intro X hSw; clear hSw; go_simp
      simp only [Act.put, List.getElem_toArray, List.getElem_cons_zero, List.getElem_cons_succ, List.setIfInBounds_toArray, List.set_cons_zero, List.set_cons_succ]
      refine anyIn_take (i := 24) (oi := _) (v := (.bool true)) rfl (by kernel_rfl) (by kernel_rfl) (by kernel_rfl) (fun _ _ _ h => by cases h.1) (Or.inl ⟨by rfl, ?_⟩) hHeld ?_
      · clear hHeld; intro X hSw; clear hSw; go_simp
      simp only [Act.put, List.getElem_toArray, List.getElem_cons_zero, List.getElem_cons_succ, List.setIfInBounds_toArray, List.set_cons_zero, List.set_cons_succ]
      refine anyIn_one (i := 25) (o := _) (by kernel_rfl) rfl fun K25 hK25 => ?_
      rw [if_pos (by rfl)]
      simp only [List.getElem_toArray, List.getElem_cons_zero, List.getElem_cons_succ]
      have HK25 := Lib.hid hK25
      have HH25 := Lib.hid hHeld
      clear hK25 hHeld
      gi_wp2_with (refine ⟨trivial, ?_⟩; gi_at_call 7; refine (callsIn_wide.2 (HWK.out _ HH25.out)).mono ?_; rintro e X25 ⟨rfl, hb⟩; have HX25 := Lib.hid hb; clear hb)
      have hHeld := HSB.out _ X25 HH25.out HX25.out
      refine HK25.out _ _ hHeld ?_
      clear HK25
      refine anyIn_take (i := 26) (oi := _) (v := (.bool true)) rfl (by kernel_rfl) (by kernel_rfl) (by kernel_rfl) (fun _ _ _ h => by cases h.1) (Or.inl ⟨by rfl, ?_⟩) hHeld ?_
      · clear hHeld; intro X hSw; clear hSw; go_simp
      simp only [Act.put, List.getElem_toArray, List.getElem_cons_zero, List.getElem_cons_succ, List.setIfInBounds_toArray, List.set_cons_zero, List.set_cons_succ]
      refine anyIn_take (i := 27) (oi := _) (v := (.bool true)) rfl (by kernel_rfl) (by kernel_rfl) (by kernel_rfl) (fun _ _ _ h => by cases h.1) (Or.inl ⟨by rfl, ?_⟩) hHeld ?_
      · clear hHeld; intro X hSw; clear hSw; go_simp
      simp only [Act.put, List.getElem_toArray, List.getElem_cons_zero, List.getElem_cons_succ, List.setIfInBounds_toArray, List.set_cons_zero, List.set_cons_succ]
      refine anyIn_done (by kernel_rfl) ⟨rfl, ?_⟩ _
      have HE := Lib.hid (HFIN.out _ hHeld)
      clear hHeld HSx
      gi_wp2
      refine ⟨by simp, .inl ⟨_, _, rfl, run_takeDeferred HE.out.1, ?_⟩⟩
      exact ⟨_, results_tmp rfl _ _ _, rfl, HE.out.2⟩
    case round =>
      rintro l hl pre rest x V v htot hV ⟨h1, h2, h3⟩ hv K hK
      obtain ⟨ya, yc, rfl, _, _⟩ := hv
      have hpl : pre.length ≤ 5000 := by
        have := congrArg List.length htot
        rw [spF_length, rootF_size, List.length_append] at this; have := HX2.out.2.2.2.2.1; omega
      have hdd : ∀ y ∈ pre ++ [x], y.1 ≤ 5000 := fun y hy => by
        have := spF_depth 1 (rootF t) y (by rw [htot]; rcases List.mem_append.1 hy with hy | hy; exact List.mem_append_left _ hy; rw [List.mem_singleton] at hy; subst hy; exact List.mem_append_right _ (by simp))
        rw [rootF_size] at this; have := HX2.out.2.2.2.2.1; omega
      obtain ⟨d, hd0⟩ : ∃ d, d = x.1 := ⟨_, rfl⟩
      have hd5 : (d : Int) ≤ 5000 := by have := hdd x (by simp); omega
      have hm := maxI_le 5000 pre 0 (by omega) (by omega) (fun y hy => by have := hdd y (List.mem_append_left _ hy); omega)
      obtain ⟨m0, hm0⟩ : ∃ m0, m0 = maxI pre := ⟨_, rfl⟩
      obtain ⟨n0, hn0⟩ : ∃ n0, n0 = lenI pre := ⟨_, rfl⟩
      have g1 : 0 ≤ m0 := by rw [hm0]; exact hm.1
      have g2 : m0 ≤ 5000 := by rw [hm0]; exact hm.2
      have g3 : 0 ≤ n0 := by rw [hn0]; unfold lenI; omega
      have g4 : n0 ≤ 5000 := by rw [hn0]; unfold lenI; omega
      have e1 : lenI (pre ++ [x]) = n0 + 1 := by rw [hn0]; simp [lenI]
      have e2 : maxI (pre ++ [x]) = max m0 (d : Int) := by rw [hm0, hd0]; simp [maxI]
      rw [← hn0] at h2
      rw [← hm0] at h3
      simp only [trOf]
      rw [← hd0]
      have hs := HW.out.size
      have hn1 := lt_of_heap HX2.out.2.2.2.2.2.2.1
      have HR := Lib.hid (And.intro h1 (And.intro h2 (And.intro h3 (And.intro hV (And.intro hl (And.intro e1 (And.intro e2 (show nb + 1 < W.heap.size by omega))))))))
      have HKK := Lib.hid hK
      clear h1 h2 h3 hV hl hK htot hdd hd0 hm hm0 hn0 e1 e2 hpl hs hn1
      gi_wp2
      refine HKK.out _ V (Below.refl _ _) fun V1 hV1 => ?_
      clear HKK
      obtain ⟨o', ev, o, ho, hoc⟩ := hV1
      have hk1 : ∀ y, y ≠ l → V1.heap[y]? = V.heap[y]? := fun y hy => by rw [ev]; exact World.putObj_heap_other hy
      have hs1 : V1.heap.size = V.heap.size := by rw [ev]; simp [World.putObj]
      have hnW := HR.out.2.2.2.2.2.2.2
      have hWV := HR.out.2.2.2.1
      have hlW := HR.out.2.2.2.2.1
      have hcn : V1.heap[nb]? = some (.cells #[.int .i64 n0] 3 (0, 0)) := (hk1 _ (by omega)).trans HR.out.2.1
      have hcd : V1.heap[nb + 1]? = some (.cells #[.int .i64 m0] 3 (0, 0)) := (hk1 _ (by omega)).trans HR.out.2.2.1
      have c0 : V1.cell? ⟨nb, 0, none⟩ = some (.int .i64 n0) := by rw [cell_of_row _ _ 0 _ _ _ hcn]; rfl
      have f0 : V1.frozen? ⟨nb, 0, none⟩ = false := frozen_of_row _ _ 0 _ _ hcn
      obtain ⟨V2, hV2⟩ : ∃ V2, V2 = V1.setCell ⟨nb, 0, none⟩ (.int .i64 (n0 + 1)) := ⟨_, rfl⟩
      have hk2 : ∀ y, y ≠ nb → V2.heap[y]? = V1.heap[y]? := fun y hy => by rw [hV2]; exact Below.heap_setCell _ _ _ _ hy
      have hcd2 : V2.heap[nb + 1]? = some (.cells #[.int .i64 m0] 3 (0, 0)) := (hk2 _ (by omega)).trans hcd
      have hcn2 : V2.heap[nb]? = some (.cells #[.int .i64 (n0 + 1)] 3 (0, 0)) := by rw [hV2, heap_setCell_same V1 nb 0 _ _ _ hcn]; simp
      have c1 : (V1.setCell ⟨nb, 0, none⟩ (.int .i64 (n0 + 1))).cell? ⟨nb + 1, 0, none⟩ = some (.int .i64 m0) := by rw [← hV2, cell_of_row _ _ 0 _ _ _ hcd2]; rfl
      have f1 : (V1.setCell ⟨nb, 0, none⟩ (.int .i64 (n0 + 1))).frozen? ⟨nb + 1, 0, none⟩ = false := by rw [← hV2]; exact frozen_of_row _ _ 0 _ _ hcd2
      have hend : ∀ aa : Act, LeftW W.heap.size (fun x => CellsB W x ∧ (S x ∨ X2.heap.size ≤ x)) (fun pre V => Touched W V (fun y => y = nb ∨ y = nb + 1) ∧ V.heap[nb]? = some (.cells #[.int .i64 (lenI pre)] 3 (0, 0)) ∧ V.heap[nb + 1]? = some (.cells #[.int .i64 (maxI pre)] 3 (0, 0))) (fun _ _ => False) (pre ++ [x]) V1 .normal aa ((V1.setCell ⟨nb, 0, none⟩ (.int .i64 (n0 + 1))).setCell ⟨nb + 1, 0, none⟩ (.int .i64 (max m0 (d : Int)))) := fun aa => by
        rw [← hV2]
        have hbk : ∀ y, y ≠ nb + 1 → (V2.setCell ⟨nb + 1, 0, none⟩ (.int .i64 (max m0 (d : Int)))).heap[y]? = V2.heap[y]? := fun y hy => Below.heap_setCell _ _ _ _ hy
        have ht := HR.out.1
        have hnX := lt_of_heap HX2.out.2.2.2.2.2.2.1
        have hwn := HX2.out.2.2.2.2.2.2.2
        have hs2 : V2.heap.size = V1.heap.size := by rw [hV2]; simp [World.setCell]
        refine ⟨⟨by simp [World.setCell, hs2], fun y hy hl => (hbk y (fun e => ?_)).trans (hk2 y (fun e => ?_))⟩, .inl ⟨rfl, ⟨?_, ?_, ?_, ?_, fun k hk hn => (hbk k (fun e => hn (Or.inr e))).trans ((hk2 k (fun e => hn (Or.inl e))).trans ((hk1 k (by omega)).trans (ht.block k hk hn)))⟩, ?_, ?_⟩⟩
        · rcases hy with hy | ⟨_, hy | hy⟩
          · omega
          · have := (HX2.out.2.2.1 y hy).2; omega
          · omega
        · rcases hy with hy | ⟨_, hy | hy⟩
          · omega
          · have := (HX2.out.2.2.1 y hy).2; omega
          · omega
        · rw [hV2, ev]; exact ht.os
        · rw [hV2, ev]; exact ht.tape
        · rw [hV2, ev]; exact ht.output
        · simp [World.setCell, hs2, hs1]; omega
        · rw [hbk _ (by omega), hcn2, HR.out.2.2.2.2.2.1]
        · rw [heap_setCell_same V2 (nb + 1) 0 _ _ _ hcd2, HR.out.2.2.2.2.2.2.1]
          simp
      have HE := Lib.hid hend
      clear hend hcn hcd hcn2 hcd2 hk1 hk2 hV2 hs1 hnW hWV hlW ev ho hoc
      gi_wp2
      all_goals first
        | exact HE.out _
        | (have h := HE.out; rw [Int.max_eq_right (by omega)] at h; exact h _)
        | (have h := HE.out; rw [Int.max_eq_left (by omega)] at h; exact h _)
  · gi_wp2_with fail
    refine ⟨trivial, ?_⟩
    gi_at_call 7
    refine (callsIn_wide.2 (wakes_any w2 (H.out.2.2.1.below HB2.out.1))).mono ?_
    rintro e w3 ⟨rfl, hb3⟩
    have HB3 := Lib.hid (HB2.out.1.trans (hb3.mono HB2.out.1.size))
    clear hb3
    gi_wp2
    exact ⟨_, results_tmp rfl _ _ _, rfl, HB3.out⟩
end Go.Proofs.YtbbiemnjidfglaaDoor
