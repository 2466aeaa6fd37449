/-
  The program's canBeCut and Fits. No condition but that the grammar and the row lie where they are said to lie.
-/
import Derived.Test.YtmfpilacmafglaaGStretched
namespace Go.Proofs.Ytmfpilacmafglaa
open Go.RowKit

attribute [local go_sem ↓] loadT wpLoadT storeT wpStoreT allocT wpAllocT buildT wpBuildT
attribute [local go_sem] headB_ptr isHead_ptr aggC_agg isT_vec vec_size freeRow_alloc setRow_alloc_at blk_alloc_new
theorem vec_ne (f : Nat → Bool) : (vec f = #[]) = False := by
  simp only [eq_iff_iff, iff_false]; intro h
  have := congrArg Array.size h
  rw [vec_size] at this; simp at this
theorem vec_first : (vec noF).setIfInBounds 0 (.bool true) = vec onlyF := by rw [vec_set]; exact vec_ext fun j _ => by by_cases e : j = 0 <;> simp [onlyF, noF, e]
attribute [local go_sem] vec_ne vec_first

/-- Slots that may be. -/
def Slots3 (l : List Sl) : Prop := ∀ s ∈ l, s.few ∧ 0 ≤ s.least ∧ s.least ≤ s.most ∧ s.most ≤ 1000
theorem ok_slots {g : Gr} {n : Int} {k : Kd} (h : kindOf g n = some k) (hf : g.few) : Slots3 k.slots := by
  obtain ⟨hg, j, _, _, hx⟩ := kindOf_some h
  simp only [grOk, Bool.and_eq_true, List.all_eq_true] at hg
  have h1 := hg.1.2 k (List.mem_of_getElem? hx)
  simp only [kindOk, Bool.and_eq_true, List.all_eq_true] at h1
  intro s hs
  have h2 := h1.2 s hs
  simp only [slotOk, slotRest, Bool.and_eq_true, decide_eq_true_eq] at h2
  exact ⟨(hf.2 k (List.mem_of_getElem? hx)).2.2 s hs, by omega, by omega, by omega⟩
def CutR (w : World) (kids : List Int) (l : List Sl) (i : Value) (wr : World) : Prop :=
  ∃ (k : Nat), k ≤ l.length ∧ i = .int .i64 k ∧ wr.heap[w.heap.size]? = some (.cells (vec (endsT kids (l.take k))) 114 (0, 0)) ∧ Below w.heap.size w wr

set_option maxRecDepth 100000 in
set_option maxHeartbeats 1000000 in
theorem canBeCut_any (w : World) (a : Option Addr) (cap : Nat) (kids : List Int) (a2 : Option Addr) (cap2 : Nat) (l : List Sl) (h : IntsAt w a kids) (hl : kids.length ≤ 200) (h2 : SlotsAt w a2 l) (hl2 : l.length ≤ 1000000) (h3 : Slots3 l) :
    Calls Try.prog 73 #[.slice a kids.length cap, .slice a2 l.length cap2] w (Says (endsT kids l kids.length) w) := by
  have HA := Lib.hid h
  have HK := Lib.hid h2
  have H3 := Lib.hid h3
  clear h h2 h3
  have hbd : ∀ W, (zeroValue 114).run Try.prog W = .ok (.agg (vec noF)) W := fun W => by kernel_rfl
  go_enter Try.func73, Try.ntmps73
  go_wp2_with fail
  clear hbd
  go_loopw [11] (fun i wr => CutR w kids l i wr) (fun i _ => l.length - (intOf i).toNat)
  case atStart => exact ⟨0, Nat.zero_le _, rfl, heap_alloc_new w _, box_below _ _⟩
  case round =>
    obtain ⟨k, hkl, rfl, hb, hbel⟩ := hrel
    have HB := Lib.hid (And.intro hb hbel)
    by_cases hlt : k < l.length
    · obtain ⟨s, hx⟩ : ∃ s, l[k]? = some s := ⟨l[k], List.getElem?_eq_getElem hlt⟩
      obtain ⟨hs0, hs1, hs2, hs3⟩ := H3.out s (List.mem_of_getElem? hx)
      obtain ⟨b, off, rfl, hblt, hc⟩ := (HK.out.below hbel) (by omega)
      obtain ⟨ka2, kc2, d0, d1, d2, hi⟩ := hc k s hx
      have HI := Lib.hid hi
      have HFEW := Lib.hid hs0
      have HX := Lib.hid (ends_step (kids := kids) hx)
      obtain ⟨T, hT⟩ : ∃ T, T = endsT kids (l.take k) := ⟨_, rfl⟩
      rw [← hT] at hb HX
      have HAW := Lib.hid (HA.out.below hbel)
      have hbk : blk (wr.alloc (.cells #[.slice ka2 s.kinds.length kc2, .int .i64 s.least, .int .i64 s.most] 87)) w.heap.size = vec T := blk_of ((Below.heap_alloc _ _ _ (lt_of_some' hb)).trans hb)
      have hkl2 : (k : Int) < (l.length : Int) := by omega
      have HHB := Lib.hid hb
      have HBEL := Lib.hid hbel
      clear hx hc hi hb hbel hs0 HB hT
      go_wp2_with (go_at_call 92; ((with_reducible refine (stretched_any _ _ _ kids _ s T (HAW.out.below (box_below _ _)) hl (slotV (HI.out.below (box_below _ _))) HFEW.out hs1 hs2 hs3).mono ?_); rintro e w2 ⟨rfl, h2⟩; have H2 := Lib.hid ((box_below wr _).trans (h2.mono (box_below wr _).size)); have HF2 := Lib.hid ((H2.out.block _ (lt_of_some' HHB.out)).trans HHB.out); have hfr := freeRow_of HF2.out (vec_size _); clear h2))
      refine ⟨⟨k + 1, by omega, by go_num, ?_, ?_⟩, by simp [intOf]; omega⟩
      · rw [setRow_heap _ _ _ _ _ _ HF2.out, HX.out]
      · exact below_setRow (HBEL.out.trans (H2.out.mono HBEL.out.size)) (Nat.le_refl _) _
    · obtain rfl : k = l.length := by omega
      rw [List.take_of_length_le (Nat.le_refl _)] at hb
      have c0 := cell0 hb kids.length (vec_at _ _ (by omega))
      obtain ⟨bb, hbb⟩ : ∃ bb, bb = endsT kids l kids.length := ⟨_, rfl⟩
      rw [← hbb] at c0
      have HBB := Lib.hid hbb
      have hk2 : (kids.length : Int) < 201 := by omega
      have hkl2 : ¬ (l.length : Int) < (l.length : Int) := by omega
      have HBEL := Lib.hid hbel
      clear hb hbel hlt HB hbb
      go_wp2_with fail
      go_ret
      exact Says.mk HBB.out.symm HBEL.out

set_option maxRecDepth 100000 in
set_option maxHeartbeats 1000000 in
theorem fits_any (w : World) (v : Value) (g : Gr) (n : Int) (a : Option Addr) (cap : Nat) (kids : List Int) (hv : GrV w v g) (hf : g.few) (h : IntsAt w a kids) (hl : kids.length ≤ 1000000) :
    Calls Try.prog 37 #[v, .int .i64 n, .slice a kids.length cap] w (Says (fitsV (kindOf g n) kids) w) := by
  obtain ⟨ka, kc, rfl, hk⟩ := hv
  obtain ⟨l, root⟩ := g
  simp only at hk
  have HF := Lib.hid hf
  have HK := Lib.hid hk
  have HA := Lib.hid h
  cases ho : kindOf ⟨l, root⟩ n with
  | none =>
    have HO := Lib.hid ho
    clear ho hf hk h
    go_enter Try.func37, Try.ntmps37
    go_wp2_with (go_at_call 68; ((with_reducible refine (kindAt_no _ _ _ n (grV (HK.out.below (box_below _ _))) HF.out HO.out).mono ?_); rintro e w2 ⟨rfl, h2⟩; have H2 := Lib.hid ((box_below w _).trans (h2.mono (box_below w _).size)); clear h2))
    go_ret
    exact Says.mk rfl (H2.out.alloc H2.out.size _)
  | some k =>
    have HO := Lib.hid ho
    have HS := Lib.hid (ok_slots ho hf)
    have HS8 := Lib.hid (ok_least ho).1
    clear ho hf hk h
    by_cases h200 : kids.length ≤ 200
    · have h200' : (kids.length : Int) ≤ 200 := by omega
      have HV := Lib.hid (show fitsV (some k) kids = endsT kids k.slots kids.length by rw [fitsV, decide_eq_true h200]; rfl)
      go_enter Try.func37, Try.ntmps37
      go_wp2_with (first
        | (go_at_call 68; ((with_reducible refine (kindAt_yes _ _ _ n _ (grV (HK.out.below (box_below _ _))) HF.out HO.out).mono ?_); rintro e w2 ⟨sa, sc, rfl, h2, hs⟩; have H2 := Lib.hid ((box_below w _).trans (h2.mono (box_below w _).size)); have HSA := Lib.hid hs; clear h2 hs))
        | (go_at_call 73; ((with_reducible refine (canBeCut_any _ _ _ kids _ _ _ ((HA.out.below H2.out).below (box_below _ _)) h200 (HSA.out.below (box_below _ _)) (Nat.le_trans HS8.out (by decide)) HS.out).mono ?_); rintro e w3 ⟨rfl, h3⟩; have H3 := Lib.hid h3; clear h3)))
      go_ret
      exact Says.mk HV.out ((H2.out.alloc H2.out.size _).trans (H3.out.mono (by have := H2.out.size; simp; omega)))
    · have h200' : ¬ (kids.length : Int) ≤ 200 := by omega
      have HV := Lib.hid (show fitsV (some k) kids = false by rw [fitsV, decide_eq_false h200]; rfl)
      go_enter Try.func37, Try.ntmps37
      go_wp2_with (go_at_call 68; ((with_reducible refine (kindAt_yes _ _ _ n _ (grV (HK.out.below (box_below _ _))) HF.out HO.out).mono ?_); rintro e w2 ⟨sa, sc, rfl, h2, hs⟩; have H2 := Lib.hid ((box_below w _).trans (h2.mono (box_below w _).size)); clear h2 hs))
      go_ret
      exact Says.mk HV.out (H2.out.alloc H2.out.size _)
end Go.Proofs.Ytmfpilacmafglaa
