/-
  Rows of ints: Index, Contains, Equal of the library, and the document's 'may'. No condition but that the rows lie where they are said to lie.
-/
import Derived.Test.YtmfpilacmafglaaGRise
namespace Go.Proofs.Ytmfpilacmafglaa
open Go.RowKit

def hasInt (l : List Int) (x : Int) : Bool := l.any fun y => decide (y = x)
def IdxR (w : World) (l : List Int) (x : Int) (i : Value) (wr : World) : Prop := ∃ k : Nat, k ≤ l.length ∧ i = .int .i64 k ∧ w = wr ∧ hasInt l x = hasInt (l.drop k) x
def IdxC (b : Bool) (w : World) (e : Ending) (w' : World) : Prop := ∃ n : Int, e = .returned (.int .i64 n) ∧ (b = true → 0 ≤ n) ∧ (b = false → n < 0) ∧ w = w'
theorem IdxC.yes {b : Bool} {w : World} {k : Nat} (h : b = true) : IdxC b w (.returned (.int .i64 (k : Int))) w := ⟨k, rfl, (fun _ => by omega), (fun e => by rw [h] at e; cases e), rfl⟩
theorem IdxC.no {b : Bool} {w : World} (h : b = false) : IdxC b w (.returned (.int .i64 (-1))) w := ⟨-1, rfl, (fun e => by rw [h] at e; cases e), (fun _ => by omega), rfl⟩
theorem has_step {l : List Int} {x y : Int} {k : Nat} {r : Bool} (hr : r = hasInt (l.drop k) x) (h : l[k]? = some y) : r = (decide (y = x) || hasInt (l.drop (k + 1)) x) := any_step hr h

set_option maxRecDepth 100000 in
set_option maxHeartbeats 1000000 in
theorem index_any (w : World) (a : Option Addr) (cap : Nat) (l : List Int) (x : Int) (h : IntsAt w a l) (hf : l.length ≤ 1000000) : Calls Try.prog 102 #[.slice a l.length cap, .int .i64 x] w (IdxC (hasInt l x) w) := by
  have HK := Lib.hid h
  clear h
  go_enter Try.func102, Try.ntmps102
  go_wp2_with fail
  go_loopw [8] (fun i wr => IdxR w l x i wr) (fun i _ => l.length - (intOf i).toNat)
  case atStart => exact ⟨0, Nat.zero_le _, rfl, rfl, rfl⟩
  case round =>
    obtain ⟨k, hkl, rfl, rfl, hany⟩ := hrel
    have HA := Lib.hid hany
    clear hany
    by_cases hlt : k < l.length
    · obtain ⟨y, hy⟩ : ∃ y, l[k]? = some y := ⟨l[k], List.getElem?_eq_getElem hlt⟩
      obtain ⟨b, off, rfl, hblt, hc⟩ := HK.out (by omega)
      have c0 := hc k y hy
      have HX := Lib.hid (has_step HA.out hy)
      have hkl2 : (k : Int) < (l.length : Int) := by omega
      clear hy hc
      by_cases he : x = y
      · have HE := Lib.hid he.symm
        subst he
        go_wp2_with fail
        go_ret
        exact IdxC.yes (by rw [HX.out]; simp)
      · have HE := Lib.hid he
        go_wp2_with fail
        exact ⟨⟨k + 1, by omega, by go_num, rfl, by rw [HX.out, decide_eq_false (fun e => HE.out e.symm)]; rfl⟩, by simp [intOf]; omega⟩
    · have HE := Lib.hid (show hasInt l x = false from any_end HA.out (by omega))
      have hkl2 : ¬ (k : Int) < (l.length : Int) := by omega
      go_wp2_with fail
      go_ret
      exact IdxC.no HE.out

set_option maxRecDepth 100000 in
set_option maxHeartbeats 1000000 in
theorem contains_any (w : World) (a : Option Addr) (cap : Nat) (l : List Int) (x : Int) (h : IntsAt w a l) (hf : l.length ≤ 1000000) : Calls Try.prog 101 #[.slice a l.length cap, .int .i64 x] w fun e w' => e = .returned (.bool (hasInt l x)) ∧ w = w' := by
  have HK := Lib.hid (index_any w a cap l x h hf)
  clear h
  obtain ⟨bb, hbb⟩ : ∃ bb, hasInt l x = bb := ⟨_, rfl⟩
  rw [hbb]
  rw [hbb] at HK
  clear hbb
  go_enter Try.func101, Try.ntmps101
  cases bb
  · go_wp2_with (go_at_call 102; ((with_reducible refine HK.out.mono ?_); rintro e w2 ⟨n, rfl, _, h2, rfl⟩; have h3 := Lib.hid (h2 rfl); clear h2))
    go_ret
    exact ⟨by show Ending.returned (.bool (decide (0 ≤ n))) = _; rw [decide_eq_false (by have := h3.out; omega)], rfl⟩
  · go_wp2_with (go_at_call 102; ((with_reducible refine HK.out.mono ?_); rintro e w2 ⟨n, rfl, h2, _, rfl⟩; have h3 := h2 rfl; clear h2))
    go_ret
    exact ⟨rfl, rfl⟩

def MayR (w : World) (c : Array Value) (l : List Int) (x : Int) (i : Value) (wr : World) : Prop := ∃ k : Nat, k ≤ l.length ∧ i = .int .i64 k ∧ wr.heap[w.heap.size]? = some (.cells c 87 (0, 0)) ∧ Below w.heap.size w wr ∧ hasInt l x = hasInt (l.drop k) x
set_option maxRecDepth 100000 in
set_option maxHeartbeats 1000000 in
theorem may_any (w : World) (v : Value) (s : Sl) (x : Int) (hv : SlotV w v s) (hf : s.few) : Calls Try.prog 74 #[v, .int .i64 x] w (Says (hasInt s.kinds x) w) := by
  obtain ⟨ka, kc, rfl, hk⟩ := hv
  obtain ⟨l, lo, hi⟩ := s
  simp only at hk ⊢
  have hfl : l.length ≤ 1000000 := hf
  have HK := Lib.hid hk
  clear hf hk
  go_enter Try.func74, Try.ntmps74
  go_wp2_with fail
  go_loopw [5] (fun i wr => MayR w #[.slice ka l.length kc, .int .i64 lo, .int .i64 hi] l x i wr) (fun i _ => l.length - (intOf i).toNat)
  case atStart => exact ⟨0, Nat.zero_le _, rfl, heap_alloc_new w _, box_below _ _, rfl⟩
  case round =>
    obtain ⟨k, hkl, rfl, hb, hbel, hany⟩ := hrel
    have p0 : wr.cell? ⟨w.heap.size, 0, none⟩ = some (.slice ka l.length kc) := by rw [cell_of_row wr _ 0 _ _ _ hb]; rfl
    have HB := Lib.hid (And.intro hb hbel)
    have HA := Lib.hid hany
    by_cases hlt : k < l.length
    · obtain ⟨y, hy⟩ : ∃ y, l[k]? = some y := ⟨l[k], List.getElem?_eq_getElem hlt⟩
      obtain ⟨b, off, rfl, hblt, hc⟩ := (HK.out.below hbel) (by omega)
      have c0 := hc k y hy
      have HX := Lib.hid (has_step HA.out hy)
      have hkl2 : (k : Int) < (l.length : Int) := by omega
      clear hy hc hb hbel hany
      by_cases he : y = x
      · subst he
        go_wp2_with fail
        go_ret
        exact Says.mk (by rw [HX.out]; simp) HB.out.2
      · have HE := Lib.hid he
        go_wp2_with fail
        exact ⟨⟨k + 1, by omega, by go_num, HB.out.1, HB.out.2, by rw [HX.out, decide_eq_false HE.out]; rfl⟩, by simp [intOf]; omega⟩
    · have HE := Lib.hid (show hasInt l x = false from any_end HA.out (by omega))
      have hkl2 : ¬ (k : Int) < (l.length : Int) := by omega
      clear hb hbel hany
      go_wp2_with fail
      go_ret
      exact Says.mk HE.out HB.out.2

/-- The same ints. -/
def sameI (a b : List Int) : Bool := decide (a = b)
def EqR (w : World) (l m : List Int) (i : Value) (wr : World) : Prop := ∃ k : Nat, k ≤ l.length ∧ i = .int .i64 k ∧ Below w.heap.size w wr ∧ l.take k = m.take k
theorem sameI_no {l m : List Int} {k : Nat} {x y : Int} (hx : l[k]? = some x) (hy : m[k]? = some y) (h : x ≠ y) : sameI l m = false := by
  rw [sameI, decide_eq_false]
  rintro rfl
  rw [hx] at hy; cases hy; exact h rfl
theorem take_more {l m : List Int} {k : Nat} {x : Int} (h : l.take k = m.take k) (hx : l[k]? = some x) (hy : m[k]? = some x) : l.take (k + 1) = m.take (k + 1) := by rw [take_snoc hx, take_snoc hy, h]
set_option maxRecDepth 100000 in
set_option maxHeartbeats 1000000 in
theorem equal_any (w : World) (a : Option Addr) (cap : Nat) (l : List Int) (a2 : Option Addr) (cap2 : Nat) (m : List Int) (h : IntsAt w a l) (hf : l.length ≤ 1000000) (h2 : IntsAt w a2 m) (hf2 : m.length ≤ 1000000) :
    Calls Try.prog 97 #[.slice a l.length cap, .slice a2 m.length cap2] w (Says (sameI l m) w) := by
  have HK := Lib.hid h
  have HK2 := Lib.hid h2
  clear h h2
  by_cases hd : l.length = m.length
  · rw [← hd]
    have HD := Lib.hid hd
    clear hd hf2
    go_enter Try.func97, Try.ntmps97
    go_wp2_with fail
    go_loopw [13] (fun i wr => EqR w l m i wr) (fun i _ => l.length - (intOf i).toNat)
    case atStart => exact ⟨0, Nat.zero_le _, rfl, Below.refl _ _, rfl⟩
    case round =>
      obtain ⟨k, hkl, rfl, hbel, hany⟩ := hrel
      have HB := Lib.hid hbel
      have HA := Lib.hid hany
      by_cases hlt : k < l.length
      · obtain ⟨x, hx⟩ : ∃ x, l[k]? = some x := ⟨l[k], List.getElem?_eq_getElem hlt⟩
        obtain ⟨y, hy⟩ : ∃ y, m[k]? = some y := ⟨m[k]'(by have := HD.out; omega), List.getElem?_eq_getElem _⟩
        obtain ⟨b, off, rfl, hblt, hc⟩ := (HK.out.below hbel) (by omega)
        obtain ⟨b2, off2, rfl, hblt2, hc2⟩ := (HK2.out.below hbel) (by have := HD.out; omega)
        have c0 := hc k x hx
        have d0 := hc2 k y hy
        have HX := Lib.hid (And.intro hx hy)
        have hkl2 : (k : Int) < (l.length : Int) := by omega
        clear hx hy hc hc2 hbel hany
        by_cases he : x = y
        · subst he
          go_wp2_with fail
          go_quiet (fail)
          go_wp2_with fail
          exact ⟨⟨k + 1, by omega, by go_num, below_drewN HB.out _, take_more HA.out HX.out.1 HX.out.2⟩, by simp [intOf]; omega⟩
        · have HE := Lib.hid he
          go_wp2_with fail
          go_quiet (fail)
          go_wp2_with fail
          go_ret
          exact Says.mk (sameI_no HX.out.1 HX.out.2 HE.out) (below_drewN HB.out _)
      · have HE := Lib.hid (show sameI l m = true by
          have e := hany
          rw [List.take_of_length_le (by omega), List.take_of_length_le (by have := HD.out; omega)] at e
          rw [sameI, decide_eq_true e])
        have hkl2 : ¬ (k : Int) < (l.length : Int) := by omega
        clear hbel hany
        go_wp2_with fail
        go_ret
        exact Says.mk HE.out HB.out
  · have HE := Lib.hid (show sameI l m = false by rw [sameI, decide_eq_false]; rintro rfl; exact hd rfl)
    have hd' : ¬ (l.length : Int) = (m.length : Int) := by omega
    go_enter Try.func97, Try.ntmps97
    go_wp2_with fail
    go_ret
    exact Says.mk HE.out (Below.refl _ _)
end Go.Proofs.Ytmfpilacmafglaa
