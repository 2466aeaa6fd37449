/-
  The program's mayBe, Check and kindAt. No condition but that the grammar lies where it is said to lie.
-/
import Derived.Test.YtmfpilacmafglaaGPlaces
namespace Go.Proofs.Ytmfpilacmafglaa
open Go.RowKit Go.Maps

def MayBeR (w : World) (c : Array Value) (n : Int) (l : List Kd) (i : Value) (wr : World) : Prop :=
  ∃ (k : Nat), k ≤ l.length ∧ i = .int .i64 k ∧ wr.heap[w.heap.size]? = some (.cells c 55 (0, 0)) ∧ Below w.heap.size w wr ∧ l.all (kindOk n) = (l.drop k).all (kindOk n)
theorem grOk_no {g : Gr} (h : ¬ (g.kinds.length ≤ 32 ∧ 0 ≤ g.root ∧ g.root < (g.kinds.length : Int))) : grOk g = false := by
  cases h2 : grOk g
  · rfl
  · simp [grOk, grRest] at h2
    omega
theorem grOk_rest {g : Gr} (h1 : g.kinds.length ≤ 32) (h2 : 0 ≤ g.root) (h3 : g.root < (g.kinds.length : Int)) : grOk g = (g.kinds.all (kindOk g.kinds.length) && apart g.kinds) := by
  simp only [grOk, grRest]; rw [decide_eq_true h1, decide_eq_true h2, decide_eq_true h3]; rfl

set_option maxRecDepth 100000 in
set_option maxHeartbeats 1000000 in
theorem mayBe_any (w : World) (v : Value) (g : Gr) (hv : GrV w v g) (hf : g.few) : Calls Try.prog 65 #[v] w (Says (grOk g) w) := by
  obtain ⟨ka, kc, rfl, hk⟩ := hv
  obtain ⟨l, root⟩ := g
  simp only at hk ⊢
  have hfl : l.length ≤ 1000000 := hf.1
  have HF := Lib.hid hf.2
  have HK := Lib.hid hk
  clear hf hk
  have HN := Lib.hid (fun (h : ¬ (l.length ≤ 32 ∧ 0 ≤ root ∧ root < (l.length : Int))) => grOk_no (g := ⟨l, root⟩) h)
  by_cases h1 : 32 < l.length
  · have h1' : (32 : Int) < (l.length : Int) := by omega
    go_enter Try.func65, Try.ntmps65
    go_wp2_with fail
    go_ret
    exact Says.mk (HN.out (by omega)) (box_below _ _)
  · have h1' : ¬ (32 : Int) < (l.length : Int) := by omega
    by_cases h2 : root < 0
    · go_enter Try.func65, Try.ntmps65
      go_wp2_with fail
      go_ret
      exact Says.mk (HN.out (by omega)) (box_below _ _)
    · by_cases h3 : (l.length : Int) ≤ root
      · go_enter Try.func65, Try.ntmps65
        go_wp2_with fail
        go_ret
        exact Says.mk (HN.out (by omega)) (box_below _ _)
      · have HY := Lib.hid (grOk_rest (g := ⟨l, root⟩) (by simp only; omega) (by simp only; omega) (by simp only; omega))
        clear HN
        go_enter Try.func65, Try.ntmps65
        go_wp2_with fail
        go_loopw [25] (fun i wr => MayBeR w #[.slice ka l.length kc, .int .i64 root] l.length l i wr) (fun i _ => l.length - (intOf i).toNat)
        case atStart => exact ⟨0, Nat.zero_le _, rfl, heap_alloc_new w _, box_below _ _, rfl⟩
        case round =>
          obtain ⟨k, hkl, rfl, hb, hbel, hany⟩ := hrel
          have HB := Lib.hid (And.intro hb hbel)
          have HA := Lib.hid hany
          by_cases hlt : k < l.length
          · obtain ⟨x, hx⟩ : ∃ x, l[k]? = some x := ⟨l[k], List.getElem?_eq_getElem hlt⟩
            have hfs := HF.out x (List.mem_of_getElem? hx)
            obtain ⟨b, off, rfl, hblt, hc⟩ := (HK.out.below hbel) (by omega)
            obtain ⟨sa, sc, d0, d1, d2, hi⟩ := hc k x hx
            have HI := Lib.hid (And.intro hi hfs)
            obtain ⟨bb, hbb⟩ : ∃ bb, kindOk (l.length : Int) x = bb := ⟨_, rfl⟩
            have HX := Lib.hid ((all_step HA.out hx).trans (by rw [hbb]))
            have HBB := Lib.hid hbb
            have hkl2 : (k : Int) < (l.length : Int) := by omega
            clear hx hc hi hfs hbb hb hbel hany
            cases bb
            · go_wp2_with (go_at_call 89; ((with_reducible refine (kind_any _ _ x _ (kindV (HI.out.1.below (box_below _ _))) HI.out.2).mono ?_); rintro e w2 ⟨rfl, h2⟩; rw [HBB.out]; have H2 := Lib.hid ((box_below wr _).trans (h2.mono (box_below wr _).size)); clear h2))
              go_ret
              exact Says.mk (by rw [HY.out, HX.out]; rfl) (HB.out.2.trans (H2.out.mono HB.out.2.size))
            · go_wp2_with (go_at_call 89; ((with_reducible refine (kind_any _ _ x _ (kindV (HI.out.1.below (box_below _ _))) HI.out.2).mono ?_); rintro e w2 ⟨rfl, h2⟩; rw [HBB.out]; have H2 := Lib.hid ((box_below wr _).trans (h2.mono (box_below wr _).size)); clear h2))
              exact ⟨⟨k + 1, by omega, by go_num, (H2.out.block _ (lt_of_some' HB.out.1)).trans HB.out.1, HB.out.2.trans (H2.out.mono HB.out.2.size), by rw [HX.out]; rfl⟩, by simp [intOf]; omega⟩
          · have HE := Lib.hid (all_end HA.out (by omega))
            have p0 : wr.cell? ⟨w.heap.size, 0, none⟩ = some (.slice ka l.length kc) := by rw [cell_of_row wr _ 0 _ _ _ hb]; rfl
            have hkl2 : ¬ (k : Int) < (l.length : Int) := by omega
            have HKW := Lib.hid (HK.out.below hbel)
            clear hb hbel hany
            go_wp2_with (first
              | (go_at_call 66; ((with_reducible refine (places_any _ _ _ l HKW.out hfl HF.out).mono ?_); rintro e w2 ⟨D, mb, rfl, hmb, hown, h2, hpl⟩; have H2 := Lib.hid h2; have HP := Lib.hid hpl; have HO := Lib.hid hown; clear h2 hpl hown))
              | (at_len; (refine wpList_len_own _ rfl _ 89 rfl 9 3 Try.underlying89 _ mb _ D rfl HO.out ?_); obtain ⟨sz, hsz⟩ : ∃ sz, sz = Maps.size D := ⟨_, rfl⟩; rw [← hsz]; have HZ := Lib.hid hsz; clear hsz))
            go_ret
            refine Says.mk ?_ (HB.out.2.trans (H2.out.mono HB.out.2.size))
            have hall := HP.out.size
            rw [List.take_of_length_le (Nat.le_refl _), ← HZ.out] at hall
            rw [HY.out, HE.out]
            cases hap : apart l
            · have : ¬ sz = l.length := fun h => by rw [hall.1 h] at hap; cases hap
              simp; omega
            · have := hall.2 hap
              simp; omega
end Go.Proofs.Ytmfpilacmafglaa
