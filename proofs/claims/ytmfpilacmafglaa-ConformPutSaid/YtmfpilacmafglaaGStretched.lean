/-
  The program's 'stretched'. No condition but that the row and the slot lie where they are said to lie, and the slot may be.
-/
import Derived.Test.YtmfpilacmafglaaGFitting
import Derived.Test.YtmfpilacmafglaaGStrP
import Derived.Deep.LoopGhost
import Derived.WalkMore
namespace Go.Proofs.Ytmfpilacmafglaa
open Go.RowKit

attribute [local go_sem ↓] loadT wpLoadT storeT wpStoreT allocT wpAllocT buildT wpBuildT
attribute [local go_sem] headB_ptr isHead_ptr aggC_agg isT_vec vec_size freeRow_alloc setRow_alloc_at blk_alloc_new

theorem slice_tr (W : World) (b k : Nat) (h : k ≤ 200) : (Instr.sliceAt 114 (.pointer (some ⟨b, 0, none⟩)) none (some (.int .i64 ((k : Int) + 1))) none).run Try.prog W = .ok (.slice (some ⟨b, 0, none⟩) (k + 1) 201) W := by
  have ha : Try.prog.arrayLen 114 = 201 := by kernel_rfl
  have hs : ∀ W, (sizeOf (Try.prog.elem 114)).run Try.prog W = .ok 1 W := fun W => by kernel_rfl
  rw [run_sliceAt_array_h (P := Try.prog) W 114 ⟨b, 0, none⟩ (by kernel_rfl) .i64 ((k : Int) + 1) (by omega) (by rw [ha]; omega), hs, ha]
  show Result.ok _ _ = _
  have e : ((k : Int) + 1).toNat = k + 1 := by omega
  simp only [slicedAt, e]
  congr 2
/-- The blocks that the call keeps: its slot, where stretches may begin, its result, what fits; and where they end. -/
structure StrB (w : World) (O : Nat) (c : Array Value) (T own f : Nat → Bool) (wr : World) : Prop where
  slot : wr.heap[w.heap.size]? = some (.cells c 87 (0, 0))
  from_ : wr.heap[w.heap.size + 1]? = some (.cells (vec T) 114 (0, 0))
  res : wr.heap[w.heap.size + 2]? = some (.cells (vec noF) 114 (0, 0))
  own : wr.heap[O]? = some (.cells (vec own) 114 (0, 0))
  ends : wr.heap[O + 1]? = some (.cells (vec f) 114 (0, 0))
  lt : w.heap.size + 2 < O
  below : Below w.heap.size w wr
theorem StrB.set {w wr : World} {O : Nat} {c : Array Value} {T own f : Nat → Bool} (h : StrB w O c T own f wr) (i : Nat) : StrB w O c T own (fun j => if j = i then true else f j) (wr.setCell ⟨O + 1, i, none⟩ (.bool true)) := by
  have hlt := h.lt
  exact ⟨by rw [Below.heap_setCell _ _ _ _ (by show w.heap.size ≠ O + 1; omega)]; exact h.slot, by rw [Below.heap_setCell _ _ _ _ (by show w.heap.size + 1 ≠ O + 1; omega)]; exact h.from_,
    by rw [Below.heap_setCell _ _ _ _ (by show w.heap.size + 2 ≠ O + 1; omega)]; exact h.res, by rw [Below.heap_setCell _ _ _ _ (by show O ≠ O + 1; omega)]; exact h.own,
    by rw [heap_setCell_same _ (O + 1) i _ _ _ h.ends, vec_set], hlt, h.below.setCell (by show w.heap.size ≤ O + 1; omega) _⟩
def StrR (w : World) (O : Nat) (c : Array Value) (kids : List Int) (s : Sl) (T : Nat → Bool) (g : Nat) (i : Value) (wr : World) : Prop :=
  ∃ (k : Nat) (f : Nat → Bool), k + g = kids.length + 1 ∧ i = .int .i64 k ∧ StrB w O c T (ownF kids s.kinds) f wr ∧ FP kids s T k f
def StrR2 (w : World) (O : Nat) (c : Array Value) (kids : List Int) (s : Sl) (T : Nat → Bool) (k : Nat) (g : Nat) (i : Value) (wr : World) : Prop :=
  ∃ (n : Nat) (f : Nat → Bool), (n : Int) + (g : Int) = s.most + 1 ∧ i = .int .i64 n ∧ k + n ≤ kids.length ∧ StrB w O c T (ownF kids s.kinds) f wr ∧ FI kids s T k n f ∧ OwnTo kids s k n

set_option maxRecDepth 100000 in
set_option maxHeartbeats 1000000 in
theorem stretched_any (w : World) (a : Option Addr) (cap : Nat) (kids : List Int) (v : Value) (s : Sl) (T : Nat → Bool) (h : IntsAt w a kids) (hl : kids.length ≤ 200) (hv : SlotV w v s) (hf : s.few) (h0 : 0 ≤ s.least) (h1 : s.least ≤ s.most) (h2 : s.most ≤ 1000) :
    Calls Try.prog 92 #[.slice a kids.length cap, v, .agg (vec T)] w (ArrC (nextT kids s T) w) := by
  obtain ⟨ka, kc, rfl, hk⟩ := hv
  obtain ⟨l, lo, hi⟩ := s
  simp only at hk h0 h1 h2
  have HK := Lib.hid hk
  have HA := Lib.hid h
  have HFEW := Lib.hid hf
  clear hf hk h
  have hsl := fun W => slice_tr W (w.heap.size + 1) kids.length hl
  go_enter Try.func92, Try.ntmps92
  go_wp2_with fail
  go_step3
  go_wp2_with (go_at_call 98; ((with_reducible refine (fitting_any _ _ _ kids _ ⟨l, lo, hi⟩ (HA.out.below (three_below _ _ _ _)) hl (slotV (s := ⟨l, lo, hi⟩) (HK.out.below (three_below _ _ _ _))) HFEW.out).mono ?_); rintro e w2 ⟨rfl, h2⟩; have H2 := Lib.hid h2; clear h2))
  go_step3
  go_wp2_with fail
  have HSTART := Lib.hid (show StrB w w2.heap.size #[.slice ka l.length kc, .int .i64 lo, .int .i64 hi] T (ownF kids l) noF ((w2.alloc (.cells (vec (ownF kids l)) 114)).alloc (.cells (vec noF) 114)) from by
    have h3 := three_heap w (.cells #[.slice ka l.length kc, .int .i64 lo, .int .i64 hi] 87) (.cells (vec T) 114) (.cells (vec noF) 114)
    have hz := H2.out.size
    have hbb := two_boxes_alloc (Below.refl w2.heap.size w2) (.cells (vec (ownF kids l)) 114) (.cells (vec noF) 114)
    have hbo := fun k hk => (hbb.block k (Nat.lt_of_lt_of_le hk hz)).trans (H2.out.block k hk)
    simp only [World.size_alloc] at hbo hz
    exact ⟨(hbo _ (by omega)).trans h3.1, (hbo _ (by omega)).trans h3.2.1, (hbo _ (by omega)).trans h3.2.2, (two_heap w2 _ _).1, (two_heap w2 _ _).2, by omega, (three_below w _ _ _).trans ((H2.out.trans (hbb.mono H2.out.size)).mono (three_below w _ _ _).size)⟩)
  obtain ⟨O, hO⟩ : ∃ O, O = w2.heap.size := ⟨_, rfl⟩
  rw [← hO] at HSTART
  rw [← hO]
  clear hO hsl
  go_loopg [20] (kids.length + 1) (fun g i wr => StrR w O #[.slice ka l.length kc, .int .i64 lo, .int .i64 hi] kids ⟨l, lo, hi⟩ T g i wr)
  case atStart => exact ⟨0, noF, by omega, rfl, HSTART.out, FP.start _ _ _⟩
  case round =>
    obtain ⟨k, f, hkg, rfl, hB, hFP⟩ := hrel
    have HB := Lib.hid hB
    have HFP := Lib.hid hFP
    cases gk with
    | zero =>
      obtain rfl : k = kids.length + 1 := by omega
      have hfe := hFP.all
      rw [hfe] at hB
      have e1 := blk_of hB.ends
      have e2 := freeRow_of hB.res (vec_size _)
      have HR := Lib.hid (And.intro hB.res (And.intro hB.below hB.lt))
      clear hB hFP hfe HB HFP
      go_wp2_with fail
      try rw [Exit.noGoto_ret]
      have hr := results_arr (setRow_heap wr (w.heap.size + 2) _ (vec (nextT kids ⟨l, lo, hi⟩ T)) _ _ HR.out.1)
      refine bodyPost_ret (v := .agg (vec (nextT kids ⟨l, lo, hi⟩ T))) (results_cell rfl _ _ ⟨w.heap.size + 2, 0, none⟩ _ rfl hr) rfl ⟨rfl, ?_⟩
      exact below_setRow HR.out.2.1 (by omega) _
    | succ g =>
      have hk1 : k ≤ kids.length := by omega
      have hk2 : (k : Int) < (kids.length : Int) + 1 := by omega
      have c0 : wr.cell? ⟨w.heap.size + 1, k, none⟩ = some (.bool (T k)) := cell0 hB.from_ k (vec_at T k (by omega))
      have c1 : wr.cell? ⟨w.heap.size, 2, none⟩ = some (.int .i64 hi) := cell0 hB.slot 2 rfl
      obtain ⟨bb, hbb⟩ : ∃ bb, bb = T k := ⟨_, rfl⟩
      rw [← hbb] at c0
      have HBB := Lib.hid hbb
      clear hB hFP hbb
      cases bb
      · go_wp2_with fail
        go_roundg g
        case measure => omega
        case rel => exact ⟨k + 1, f, by omega, by go_num, HB.out, HFP.out.skip HBB.out.symm⟩
      · go_wp2_with fail
        clear c0 c1
        obtain ⟨w3, rfl⟩ : ∃ w3, w3 = wr := ⟨_, rfl⟩
        go_loopg [30] (hi + 1).toNat (fun g2 i wr => StrR2 w O #[.slice ka l.length kc, .int .i64 lo, .int .i64 hi] kids ⟨l, lo, hi⟩ T k g2 i wr)
        case atStart => exact ⟨0, f, by simp only; omega, rfl, by omega, HB.out, FI.start HFP.out, fun i h1 h2 => by omega⟩
        case round =>
          obtain ⟨n, f2, hng, rfl, hkn, hB2, hFI, hown⟩ := hrel
          simp only at hng
          have HB2 := Lib.hid hB2
          have HFI := Lib.hid hFI
          have HOWN := Lib.hid hown
          have c1 : wr.cell? ⟨w.heap.size, 1, none⟩ = some (.int .i64 lo) := cell0 hB2.slot 1 rfl
          cases gk with
          | zero =>
            have hn1 : ¬ (n : Int) < hi + 1 := by omega
            have HD := Lib.hid (HFI.out.done (N := n) (by omega) HBB.out.symm (fun i h3 h4 => HOWN.out i h3 (by omega)) (by simp only; omega) (Or.inl (by simp only; omega)))
            clear hB2 hFI hown c1
            go_wp2_with fail
            go_roundg g
            case measure => omega
            case rel => exact ⟨k + 1, f2, by omega, by go_num, HB2.out, HD.out⟩
          | succ g2 =>
            have hn1 : (n : Int) < hi + 1 := by omega
            have hkn2 : k + n < 201 := by omega
            have hkn3 : (k : Int) + (n : Int) < 201 := by omega
            have d0 : wr.cell? ⟨O, k + n, none⟩ = some (.bool (ownF kids l (k + n))) := cell0 hB2.own (k + n) (vec_at _ _ hkn2)
            have d1 : wr.cell? ⟨O + 1, k + n, none⟩ = some (.bool (f2 (k + n))) := cell0 hB2.ends (k + n) (vec_at _ _ hkn2)
            have d2 : wr.frozen? ⟨O + 1, k + n, none⟩ = false := frozen_of_row wr _ _ _ _ hB2.ends
            obtain ⟨ob, hob⟩ : ∃ ob, ob = ownF kids l (k + n) := ⟨_, rfl⟩
            rw [← hob] at d0
            have HOB := Lib.hid hob
            clear hB2 hFI hown hob
            by_cases hlo : lo ≤ (n : Int)
            · cases ob
              · have HD := Lib.hid ((HFI.out.put (n := n) hlo).done (N := n + 1) (by omega) HBB.out.symm (fun i h3 h4 => HOWN.out i h3 (by omega)) (by simp only; omega) (Or.inr ⟨by omega, HOB.out.symm⟩))
                go_wp2_with fail
                go_roundg g
                case measure => omega
                case rel => exact ⟨k + 1, _, by omega, by go_num, HB2.out.set (k + n), HD.out⟩
              · have HO2 := Lib.hid (own_lt HOB.out.symm).1
                go_wp2_with fail
                go_roundg g2
                case measure => omega
                case rel => exact ⟨n + 1, _, by simp only; omega, by go_num, by have := HO2.out; omega, HB2.out.set (k + n), HFI.out.put (n := n) hlo, fun i h3 h4 => by by_cases e : i = k + n; exact e ▸ HOB.out.symm; exact HOWN.out i h3 (by omega)⟩
            · cases ob
              · have HD := Lib.hid ((HFI.out.skip (n := n) (by simp only; omega)).done (N := n + 1) (by omega) HBB.out.symm (fun i h3 h4 => HOWN.out i h3 (by omega)) (by simp only; omega) (Or.inr ⟨by omega, HOB.out.symm⟩))
                go_wp2_with fail
                go_roundg g
                case measure => omega
                case rel => exact ⟨k + 1, _, by omega, by go_num, HB2.out, HD.out⟩
              · have HO2 := Lib.hid (own_lt HOB.out.symm).1
                go_wp2_with fail
                go_roundg g2
                case measure => omega
                case rel => exact ⟨n + 1, _, by simp only; omega, by go_num, by have := HO2.out; omega, HB2.out, HFI.out.skip (n := n) (by simp only; omega), fun i h3 h4 => by by_cases e : i = k + n; exact e ▸ HOB.out.symm; exact HOWN.out i h3 (by omega)⟩
end Go.Proofs.Ytmfpilacmafglaa
