/-
  The program's 'fitting'. No condition but that the row and the slot lie where they are said to lie.
-/
import Derived.Test.YtmfpilacmafglaaGFitP
import Derived.Laws.CopyOwn
namespace Go.Proofs.Ytmfpilacmafglaa
open Go.RowKit

attribute [local go_sem ↓] loadT wpLoadT storeT wpStoreT allocT wpAllocT buildT wpBuildT
attribute [local go_sem] headB_ptr isHead_ptr aggC_agg isT_vec vec_size freeRow_alloc setRow_alloc_at blk_alloc_new

def ArrC (f : Nat → Bool) (w : World) (e : Ending) (w' : World) : Prop := e = .returned (.agg (vec f)) ∧ Below w.heap.size w w'
/-- A result that is such an array, in a block of its own. -/
theorem results_arr {w : World} {b : Nat} {f : Nat → Bool} {t : TypeId} (h : w.heap[b]? = some (.cells (vec f) t (0, 0))) : (loadVar 114 ⟨b, 0, none⟩).run Try.prog w = .ok (.agg (vec f)) w := by
  have := loadVar_blk0 (P := Try.prog) w b 201 114 _ Try.underlying114 rfl Try.sizeT (by rw [blk_of h, vec_size])
  rwa [blk_of h] at this

theorem results_cell {P : Program} {fn : Func} {p : Tmp} {ty : TypeId} (h : fn.results = #[.cell p ty]) (tmps : Array Value) (w : World) (a : Addr) (v : Value) (hp : tmps.getD p undef = .pointer (some a)) (hv : (loadVar ty a).run P w = .ok v w) :
    (results fn tmps).run P w = .ok v w := by
  have hp' : tmps[p]?.getD undef = .pointer (some a) := by simpa using hp
  simp [results, h, hp', asAddr, hv]

def FittingR (w : World) (c : Array Value) (kids kinds : List Int) (i : Value) (wr : World) : Prop :=
  ∃ (k : Nat) (f : Nat → Bool), k ≤ kids.length ∧ i = .int .i64 k ∧ wr.heap[w.heap.size]? = some (.cells c 87 (0, 0)) ∧ wr.heap[w.heap.size + 1]? = some (.cells (vec noF) 114 (0, 0)) ∧ wr.heap[w.heap.size + 2]? = some (.cells (vec f) 114 (0, 0)) ∧
    Below w.heap.size w wr ∧ ∀ j, f j = (decide (j < k) && ownF kids kinds j)
theorem three_heap (w : World) (o o' o'' : Obj) : (((w.alloc o).alloc o').alloc o'').heap[w.heap.size]? = some o ∧ (((w.alloc o).alloc o').alloc o'').heap[w.heap.size + 1]? = some o' ∧ (((w.alloc o).alloc o').alloc o'').heap[w.heap.size + 2]? = some o'' := by
  have h1 := heap_alloc_new (w.alloc o) o'
  have h2 := heap_alloc_new ((w.alloc o).alloc o') o''
  simp only [World.size_alloc] at h1 h2
  exact ⟨by rw [Below.heap_alloc _ _ _ (by simp; omega), Below.heap_alloc _ _ _ (by simp)]; exact heap_alloc_new w o, by rw [Below.heap_alloc _ _ _ (by simp)]; exact h1, h2⟩
theorem three_below (w : World) (o o' o'' : Obj) : Below w.heap.size w (((w.alloc o).alloc o').alloc o'') := (((Below.refl _ _).alloc (Nat.le_refl _) _).alloc (by simp) _).alloc (by simp; omega) _

set_option maxRecDepth 100000 in
set_option maxHeartbeats 1000000 in
theorem fitting_any (w : World) (a : Option Addr) (cap : Nat) (kids : List Int) (v : Value) (s : Sl) (h : IntsAt w a kids) (hl : kids.length ≤ 200) (hv : SlotV w v s) (hf : s.few) :
    Calls Try.prog 98 #[.slice a kids.length cap, v] w (ArrC (ownF kids s.kinds) w) := by
  obtain ⟨ka, kc, rfl, hk⟩ := hv
  obtain ⟨l, lo, hi⟩ := s
  simp only at hk ⊢
  have hfl : l.length ≤ 1000000 := hf
  have HK := Lib.hid hk
  have HA := Lib.hid h
  clear hf hk h
  go_enter Try.func98, Try.ntmps98
  go_wp2_with fail
  go_loopw [10] (fun i wr => FittingR w #[.slice ka l.length kc, .int .i64 lo, .int .i64 hi] kids l i wr) (fun i _ => kids.length - (intOf i).toNat)
  case atStart => exact ⟨0, noF, Nat.zero_le _, rfl, (three_heap w _ _ _).1, (three_heap w _ _ _).2.1, (three_heap w _ _ _).2.2, three_below _ _ _ _, fun j => by simp [noF]⟩
  case round =>
    obtain ⟨k, f, hkl, rfl, hb0, hb1, hb2, hbel, hff⟩ := hrel
    have HB := Lib.hid (And.intro hb0 (And.intro hb1 (And.intro hb2 hbel)))
    have HF := Lib.hid hff
    by_cases hlt : k < kids.length
    · obtain ⟨x, hx⟩ : ∃ x, kids[k]? = some x := ⟨kids[k], List.getElem?_eq_getElem hlt⟩
      obtain ⟨b, off, rfl, hblt, hc⟩ := (HA.out.below hbel) (by omega)
      have c0 := hc k x hx
      have p0 := cell0 hb0 0 rfl
      have q0 : wr.cell? ⟨w.heap.size + 2, k, none⟩ = some (.bool (f k)) := cell0 hb2 k (vec_at f k (by omega))
      have q1 : ∀ j, wr.frozen? ⟨w.heap.size + 2, j, none⟩ = false := fun j => frozen_of_row wr _ j _ _ hb2
      have q2 := q1 k
      have HC := Lib.hid (contains_any wr ka kc l x (HK.out.below hbel) hfl)
      have HX := Lib.hid hx
      have hk2 : (k : Int) < (kids.length : Int) := by omega
      have hk3 : (k : Int) < 201 := by omega
      clear hx hc hb0 hb1 hb2 hbel hff q1
      obtain ⟨bb, hbb⟩ : ∃ bb, bb = hasInt l x := ⟨_, rfl⟩
      rw [← hbb] at HC
      have HBB := Lib.hid hbb
      clear hbb
      go_wp2_with (go_at_call 101; ((with_reducible refine HC.out.mono ?_); rintro e w2 ⟨rfl, rfl⟩))
      refine ⟨⟨k + 1, fun j => if j = k then bb else f j, by omega, by go_num, ?_, ?_, ?_, ?_, ?_⟩, by simp [intOf]; omega⟩
      · rw [Below.heap_setCell _ _ _ _ (by show w.heap.size ≠ w.heap.size + 2; omega)]; exact HB.out.1
      · rw [Below.heap_setCell _ _ _ _ (by show w.heap.size + 1 ≠ w.heap.size + 2; omega)]; exact HB.out.2.1
      · rw [heap_setCell_same _ _ k _ _ _ HB.out.2.2.1, vec_set]
      · exact HB.out.2.2.2.setCell (by show w.heap.size ≤ w.heap.size + 2; omega) _
      · intro j
        by_cases e : j = k
        · subst e; show (if j = j then bb else f j) = _; rw [if_pos rfl, ownF_some HX.out, HBB.out, decide_eq_true (by omega)]; rfl
        · show (if j = k then bb else f j) = _
          rw [if_neg e, HF.out]
          congr 1
          exact decide_eq_decide.2 (by omega)
    · obtain rfl : k = kids.length := by omega
      have hfe : vec f = vec (ownF kids l) := vec_ext fun j _ => by
        rw [hff]
        by_cases e : j < kids.length
        · rw [decide_eq_true e]; rfl
        · rw [decide_eq_false e, ownF_none (by omega)]; rfl
      rw [hfe] at hb2
      have e1 := blk_of hb2
      have e2 := freeRow_of hb1 (vec_size _)
      have hk2 : ¬ (kids.length : Int) < (kids.length : Int) := by omega
      clear hlt hfe hff HF HB
      have HB1 := Lib.hid hb1
      have HB2 := Lib.hid hbel
      clear hb0 hb1 hb2 hbel
      go_wp2_with fail
      have hr := results_arr (setRow_heap wr (w.heap.size + 1) _ (vec (ownF kids l)) _ _ HB1.out)
      refine bodyPost_ret (v := .agg (vec (ownF kids l))) (results_cell rfl _ _ ⟨w.heap.size + 1, 0, none⟩ _ rfl hr) rfl ⟨rfl, ?_⟩
      exact below_setRow HB2.out (by omega) _
end Go.Proofs.Ytmfpilacmafglaa
