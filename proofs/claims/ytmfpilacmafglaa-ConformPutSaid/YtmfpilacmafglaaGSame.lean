/-
  The program's Same. No condition but that the grammars lie where they are said to lie.
-/
import Derived.Test.YtmfpilacmafglaaGInts
import Derived.Test.YtmfpilacmafglaaGKind
namespace Go.Proofs.Ytmfpilacmafglaa
open Go.RowKit

def sameSl (a b : Sl) : Bool := decide (a.least = b.least) && decide (a.most = b.most) && sameI a.kinds b.kinds
def allTwo {α : Type} (f : α → α → Bool) : List α → List α → Bool
  | x :: l, y :: m => f x y && allTwo f l m
  | _, _ => true
def sameRow {α : Type} (f : α → α → Bool) (l m : List α) : Bool := decide (l.length = m.length) && allTwo f l m
def sameKd (a b : Kd) : Bool := decide (a.name.toList = b.name.toList) && (a.text == b.text) && sameRow sameSl a.slots b.slots
def sameGr (a b : Gr) : Bool := decide (a.root = b.root) && sameRow sameKd a.kinds b.kinds
theorem two_step {α : Type} {f : α → α → Bool} {l m : List α} {k : Nat} {x y : α} {r : Bool} (hr : r = allTwo f (l.drop k) (m.drop k)) (h : l[k]? = some x) (h2 : m[k]? = some y) : r = (f x y && allTwo f (l.drop (k + 1)) (m.drop (k + 1))) := by rw [hr, drop_cons h, drop_cons h2]; rfl
theorem two_end {α : Type} {f : α → α → Bool} {l m : List α} {k : Nat} {r : Bool} (hr : r = allTwo f (l.drop k) (m.drop k)) (h : l.length ≤ k) : r = true := by rw [hr, List.drop_eq_nil_of_le h]; rfl
theorem sameRow_len {α : Type} {f : α → α → Bool} {l m : List α} (h : l.length = m.length) : sameRow f l m = allTwo f l m := by simp [sameRow, h]
theorem sameRow_no {α : Type} {f : α → α → Bool} {l m : List α} (h : ¬ l.length = m.length) : sameRow f l m = false := by simp [sameRow, h]
theorem sameI_refl (l : List Int) : sameI l l = true := by simp [sameI]
theorem allTwo_refl {α : Type} {f : α → α → Bool} (h : ∀ x, f x x = true) : ∀ l : List α, allTwo f l l = true
  | [] => rfl
  | x :: l => by rw [allTwo, h, allTwo_refl h l]; rfl
theorem sameRow_refl {α : Type} {f : α → α → Bool} (h : ∀ x, f x x = true) (l : List α) : sameRow f l l = true := by rw [sameRow_len rfl, allTwo_refl h]
theorem sameSl_refl (s : Sl) : sameSl s s = true := by simp [sameSl, sameI_refl]
theorem sameKd_refl (s : Kd) : sameKd s s = true := by simp [sameKd, sameRow_refl sameSl_refl]
theorem sameGr_refl (g : Gr) : sameGr g g = true := by simp [sameGr, sameRow_refl sameKd_refl]
theorem two_boxes_alloc {w wr : World} (h : Below w.heap.size w wr) (o o' : Obj) : Below w.heap.size w ((wr.alloc o).alloc o') := (h.alloc h.size _).alloc (by have := h.size; simp; omega) _

set_option maxRecDepth 100000 in
set_option maxHeartbeats 1000000 in
theorem sameSlot_any (w : World) (v v2 : Value) (s s2 : Sl) (hv : SlotV w v s) (hv2 : SlotV w v2 s2) (hf : s.few) (hf2 : s2.few) : Calls Try.prog 91 #[v, v2] w (Says (sameSl s s2) w) := by
  obtain ⟨ka, kc, rfl, hk⟩ := hv
  obtain ⟨ka2, kc2, rfl, hk2⟩ := hv2
  obtain ⟨l, lo, hi⟩ := s
  obtain ⟨l2, lo2, hi2⟩ := s2
  simp only at hk hk2
  have HK := Lib.hid (And.intro hk hk2)
  have HF := Lib.hid (show l.length ≤ 1000000 from hf)
  have HF2 := Lib.hid (show l2.length ≤ 1000000 from hf2)
  clear hk hk2 hf hf2
  by_cases h1 : lo = lo2
  · subst h1
    by_cases h2 : hi = hi2
    · subst h2
      have HS := Lib.hid (show sameSl ⟨l, lo, hi⟩ ⟨l2, lo, hi⟩ = sameI l l2 by simp [sameSl])
      go_enter Try.func91, Try.ntmps91
      go_wp2_with (go_at_call 97; ((with_reducible refine (equal_any _ _ _ l _ _ l2 (HK.out.1.below (two_boxes_alloc (Below.refl w.heap.size w) _ _)) HF.out (HK.out.2.below (two_boxes_alloc (Below.refl w.heap.size w) _ _)) HF2.out).mono ?_); rintro e w2 ⟨rfl, h2⟩; have H2 := Lib.hid ((two_boxes_alloc (Below.refl w.heap.size w) _ _).trans (h2.mono (two_boxes_alloc (Below.refl w.heap.size w) _ _).size)); clear h2))
      go_ret
      exact Says.mk HS.out H2.out
    · have HS := Lib.hid (show sameSl ⟨l, lo, hi⟩ ⟨l2, lo, hi2⟩ = false by simp [sameSl, h2])
      go_enter Try.func91, Try.ntmps91
      go_wp2_with fail
      go_ret
      exact Says.mk HS.out (two_boxes_alloc (Below.refl w.heap.size w) _ _)
  · have HS := Lib.hid (show sameSl ⟨l, lo, hi⟩ ⟨l2, lo2, hi2⟩ = false by simp [sameSl, h1])
    go_enter Try.func91, Try.ntmps91
    go_wp2_with fail
    go_ret
    exact Says.mk HS.out (two_boxes_alloc (Below.refl w.heap.size w) _ _)

def EqSlotsR (w : World) (l m : List Sl) (i : Value) (wr : World) : Prop :=
  ∃ (k : Nat), k ≤ l.length ∧ i = .int .i64 k ∧ Below w.heap.size w wr ∧ allTwo sameSl l m = allTwo sameSl (l.drop k) (m.drop k)
set_option maxRecDepth 100000 in
set_option maxHeartbeats 1000000 in
theorem eqSlots_any (w : World) (a : Option Addr) (cap : Nat) (l : List Sl) (a2 : Option Addr) (cap2 : Nat) (m : List Sl) (h : SlotsAt w a l) (h2 : SlotsAt w a2 m) (hl : l.length ≤ 1000000) (hf : ∀ x ∈ l, x.few) (hf2 : ∀ x ∈ m, x.few) :
    Calls Try.prog 90 #[.slice a l.length cap, .slice a2 m.length cap2, .func (.func 91) #[] #[]] w (Says (sameRow sameSl l m) w) := by
  have HK := Lib.hid h
  have HK2 := Lib.hid h2
  have HF := Lib.hid hf
  have HF2 := Lib.hid hf2
  clear h h2 hf hf2
  by_cases hd : l.length = m.length
  · have HR := Lib.hid (sameRow_len (f := sameSl) hd)
    rw [← hd]
    have HD := Lib.hid hd
    clear hd
    go_enter Try.func90, Try.ntmps90
    go_wp2_with fail
    go_loopw [17] (fun i wr => EqSlotsR w l m i wr) (fun i _ => l.length - (intOf i).toNat)
    case atStart => exact ⟨0, Nat.zero_le _, rfl, Below.refl _ _, rfl⟩
    case round =>
      obtain ⟨k, hkl, rfl, hbel, hany⟩ := hrel
      have HB := Lib.hid hbel
      have HA := Lib.hid hany
      by_cases hlt : k < l.length
      · obtain ⟨x, hx⟩ : ∃ x, l[k]? = some x := ⟨l[k], List.getElem?_eq_getElem hlt⟩
        obtain ⟨y, hy⟩ : ∃ y, m[k]? = some y := ⟨m[k]'(by have := HD.out; omega), List.getElem?_eq_getElem _⟩
        have HFX := Lib.hid (And.intro (HF.out x (List.mem_of_getElem? hx)) (HF2.out y (List.mem_of_getElem? hy)))
        obtain ⟨b, off, rfl, hblt, hc⟩ := (HK.out.below hbel) (by omega)
        obtain ⟨b2, off2, rfl, hblt2, hc2⟩ := (HK2.out.below hbel) (by have := HD.out; omega)
        obtain ⟨p, q, c0, c1, c2, hi⟩ := hc k x hx
        obtain ⟨p2, q2, d0, d1, d2, hi2⟩ := hc2 k y hy
        have HI := Lib.hid (And.intro hi hi2)
        obtain ⟨bb, hbb⟩ : ∃ bb, sameSl x y = bb := ⟨_, rfl⟩
        have HX := Lib.hid ((two_step HA.out hx hy).trans (by rw [hbb]))
        have HBB := Lib.hid hbb
        have hkl2 : (k : Int) < (l.length : Int) := by omega
        clear hx hy hc hc2 hi hi2 hbb hbel hany
        cases bb
        · go_wp2_with (go_at_call 91; ((with_reducible refine (sameSlot_any _ _ _ x y (slotV (HI.out.1.below (two_boxes_alloc (Below.refl wr.heap.size wr) _ _))) (slotV (HI.out.2.below (two_boxes_alloc (Below.refl wr.heap.size wr) _ _))) HFX.out.1 HFX.out.2).mono ?_); rintro e w2 ⟨rfl, h2⟩; rw [HBB.out]; have H2 := Lib.hid ((two_boxes_alloc (Below.refl wr.heap.size wr) _ _).trans (h2.mono (two_boxes_alloc (Below.refl wr.heap.size wr) _ _).size)); clear h2))
          go_ret
          exact Says.mk (by rw [HR.out, HX.out]; rfl) (HB.out.trans (H2.out.mono HB.out.size))
        · go_wp2_with (go_at_call 91; ((with_reducible refine (sameSlot_any _ _ _ x y (slotV (HI.out.1.below (two_boxes_alloc (Below.refl wr.heap.size wr) _ _))) (slotV (HI.out.2.below (two_boxes_alloc (Below.refl wr.heap.size wr) _ _))) HFX.out.1 HFX.out.2).mono ?_); rintro e w2 ⟨rfl, h2⟩; rw [HBB.out]; have H2 := Lib.hid ((two_boxes_alloc (Below.refl wr.heap.size wr) _ _).trans (h2.mono (two_boxes_alloc (Below.refl wr.heap.size wr) _ _).size)); clear h2))
          exact ⟨⟨k + 1, by omega, by go_num, HB.out.trans (H2.out.mono HB.out.size), by rw [HX.out]; rfl⟩, by simp [intOf]; omega⟩
      · have HE := Lib.hid (two_end HA.out (by omega))
        have hkl2 : ¬ (k : Int) < (l.length : Int) := by omega
        clear hbel hany
        go_wp2_with fail
        go_ret
        exact Says.mk (HR.out.trans HE.out) HB.out
  · have HE := Lib.hid (sameRow_no (f := sameSl) hd)
    have hd' : ¬ (l.length : Int) = (m.length : Int) := by omega
    go_enter Try.func90, Try.ntmps90
    go_wp2_with fail
    go_ret
    exact Says.mk HE.out (Below.refl _ _)

set_option maxRecDepth 100000 in
set_option maxHeartbeats 1000000 in
theorem sameKind_any (w : World) (v v2 : Value) (s s2 : Kd) (hv : KindV w v s) (hv2 : KindV w v2 s2) (hf : s.few) (hf2 : s2.few) : Calls Try.prog 72 #[v, v2] w (Says (sameKd s s2) w) := by
  obtain ⟨ka, kc, rfl, hk⟩ := hv
  obtain ⟨ka2, kc2, rfl, hk2⟩ := hv2
  obtain ⟨nm, tx, l⟩ := s
  obtain ⟨nm2, tx2, l2⟩ := s2
  simp only at hk hk2
  have HK := Lib.hid (And.intro hk hk2)
  have HF := Lib.hid (show l.length ≤ 1000000 ∧ ∀ s ∈ l, s.few from hf.2)
  have HF2 := Lib.hid (show l2.length ≤ 1000000 ∧ ∀ s ∈ l2, s.few from hf2.2)
  clear hk hk2 hf hf2
  by_cases h1 : nm.toList = nm2.toList
  · by_cases h2 : tx = tx2
    · have HS := Lib.hid (show sameKd ⟨nm, tx, l⟩ ⟨nm2, tx2, l2⟩ = sameRow sameSl l l2 by simp [sameKd, h1, h2])
      subst h2
      go_enter Try.func72, Try.ntmps72
      go_wp2_with (go_at_call 90; ((with_reducible refine (eqSlots_any _ _ _ l _ _ l2 (HK.out.1.below (two_boxes_alloc (Below.refl w.heap.size w) _ _)) (HK.out.2.below (two_boxes_alloc (Below.refl w.heap.size w) _ _)) HF.out.1 HF.out.2 HF2.out.2).mono ?_); rintro e w2 ⟨rfl, h2⟩; have H2 := Lib.hid ((two_boxes_alloc (Below.refl w.heap.size w) _ _).trans (h2.mono (two_boxes_alloc (Below.refl w.heap.size w) _ _).size)); clear h2))
      go_ret
      exact Says.mk HS.out H2.out
    · have HS := Lib.hid (show sameKd ⟨nm, tx, l⟩ ⟨nm2, tx2, l2⟩ = false by simp [sameKd, h2])
      go_enter Try.func72, Try.ntmps72
      go_wp2_with fail
      go_ret
      exact Says.mk HS.out (two_boxes_alloc (Below.refl w.heap.size w) _ _)
  · have HS := Lib.hid (show sameKd ⟨nm, tx, l⟩ ⟨nm2, tx2, l2⟩ = false by simp [sameKd, h1])
    go_enter Try.func72, Try.ntmps72
    go_wp2_with fail
    go_ret
    exact Says.mk HS.out (two_boxes_alloc (Below.refl w.heap.size w) _ _)

def EqKindsR (w : World) (l m : List Kd) (i : Value) (wr : World) : Prop :=
  ∃ (k : Nat), k ≤ l.length ∧ i = .int .i64 k ∧ Below w.heap.size w wr ∧ allTwo sameKd l m = allTwo sameKd (l.drop k) (m.drop k)
set_option maxRecDepth 100000 in
set_option maxHeartbeats 1000000 in
theorem eqKinds_any (w : World) (a : Option Addr) (cap : Nat) (l : List Kd) (a2 : Option Addr) (cap2 : Nat) (m : List Kd) (h : KindsAt w a l) (h2 : KindsAt w a2 m) (hl : l.length ≤ 1000000) (hf : ∀ x ∈ l, x.few) (hf2 : ∀ x ∈ m, x.few) :
    Calls Try.prog 71 #[.slice a l.length cap, .slice a2 m.length cap2, .func (.func 72) #[] #[]] w (Says (sameRow sameKd l m) w) := by
  have HK := Lib.hid h
  have HK2 := Lib.hid h2
  have HF := Lib.hid hf
  have HF2 := Lib.hid hf2
  clear h h2 hf hf2
  by_cases hd : l.length = m.length
  · have HR := Lib.hid (sameRow_len (f := sameKd) hd)
    rw [← hd]
    have HD := Lib.hid hd
    clear hd
    go_enter Try.func71, Try.ntmps71
    go_wp2_with fail
    go_loopw [17] (fun i wr => EqKindsR w l m i wr) (fun i _ => l.length - (intOf i).toNat)
    case atStart => exact ⟨0, Nat.zero_le _, rfl, Below.refl _ _, rfl⟩
    case round =>
      obtain ⟨k, hkl, rfl, hbel, hany⟩ := hrel
      have HB := Lib.hid hbel
      have HA := Lib.hid hany
      by_cases hlt : k < l.length
      · obtain ⟨x, hx⟩ : ∃ x, l[k]? = some x := ⟨l[k], List.getElem?_eq_getElem hlt⟩
        obtain ⟨y, hy⟩ : ∃ y, m[k]? = some y := ⟨m[k]'(by have := HD.out; omega), List.getElem?_eq_getElem _⟩
        have HFX := Lib.hid (And.intro (HF.out x (List.mem_of_getElem? hx)) (HF2.out y (List.mem_of_getElem? hy)))
        obtain ⟨b, off, rfl, hblt, hc⟩ := (HK.out.below hbel) (by omega)
        obtain ⟨b2, off2, rfl, hblt2, hc2⟩ := (HK2.out.below hbel) (by have := HD.out; omega)
        obtain ⟨p, q, c0, c1, c2, hi⟩ := hc k x hx
        obtain ⟨p2, q2, d0, d1, d2, hi2⟩ := hc2 k y hy
        have HI := Lib.hid (And.intro hi hi2)
        obtain ⟨bb, hbb⟩ : ∃ bb, sameKd x y = bb := ⟨_, rfl⟩
        have HX := Lib.hid ((two_step HA.out hx hy).trans (by rw [hbb]))
        have HBB := Lib.hid hbb
        have hkl2 : (k : Int) < (l.length : Int) := by omega
        clear hx hy hc hc2 hi hi2 hbb hbel hany
        cases bb
        · go_wp2_with (go_at_call 72; ((with_reducible refine (sameKind_any _ _ _ x y (kindV (HI.out.1.below (two_boxes_alloc (Below.refl wr.heap.size wr) _ _))) (kindV (HI.out.2.below (two_boxes_alloc (Below.refl wr.heap.size wr) _ _))) HFX.out.1 HFX.out.2).mono ?_); rintro e w2 ⟨rfl, h2⟩; rw [HBB.out]; have H2 := Lib.hid ((two_boxes_alloc (Below.refl wr.heap.size wr) _ _).trans (h2.mono (two_boxes_alloc (Below.refl wr.heap.size wr) _ _).size)); clear h2))
          go_ret
          exact Says.mk (by rw [HR.out, HX.out]; rfl) (HB.out.trans (H2.out.mono HB.out.size))
        · go_wp2_with (go_at_call 72; ((with_reducible refine (sameKind_any _ _ _ x y (kindV (HI.out.1.below (two_boxes_alloc (Below.refl wr.heap.size wr) _ _))) (kindV (HI.out.2.below (two_boxes_alloc (Below.refl wr.heap.size wr) _ _))) HFX.out.1 HFX.out.2).mono ?_); rintro e w2 ⟨rfl, h2⟩; rw [HBB.out]; have H2 := Lib.hid ((two_boxes_alloc (Below.refl wr.heap.size wr) _ _).trans (h2.mono (two_boxes_alloc (Below.refl wr.heap.size wr) _ _).size)); clear h2))
          exact ⟨⟨k + 1, by omega, by go_num, HB.out.trans (H2.out.mono HB.out.size), by rw [HX.out]; rfl⟩, by simp [intOf]; omega⟩
      · have HE := Lib.hid (two_end HA.out (by omega))
        have hkl2 : ¬ (k : Int) < (l.length : Int) := by omega
        clear hbel hany
        go_wp2_with fail
        go_ret
        exact Says.mk (HR.out.trans HE.out) HB.out
  · have HE := Lib.hid (sameRow_no (f := sameKd) hd)
    have hd' : ¬ (l.length : Int) = (m.length : Int) := by omega
    go_enter Try.func71, Try.ntmps71
    go_wp2_with fail
    go_ret
    exact Says.mk HE.out (Below.refl _ _)

set_option maxRecDepth 100000 in
set_option maxHeartbeats 1000000 in
theorem sameP_any (w : World) (v v2 : Value) (g g2 : Gr) (hv : GrV w v g) (hv2 : GrV w v2 g2) (hf : g.few) (hf2 : g2.few) : Calls Try.prog 35 #[v, v2] w (Says (sameGr g g2) w) := by
  obtain ⟨ka, kc, rfl, hk⟩ := hv
  obtain ⟨ka2, kc2, rfl, hk2⟩ := hv2
  obtain ⟨l, lo⟩ := g
  obtain ⟨l2, lo2⟩ := g2
  simp only at hk hk2
  have HK := Lib.hid (And.intro hk hk2)
  have HF := Lib.hid (show l.length ≤ 1000000 ∧ ∀ s ∈ l, s.few from hf)
  have HF2 := Lib.hid (show l2.length ≤ 1000000 ∧ ∀ s ∈ l2, s.few from hf2)
  clear hk hk2 hf hf2
  by_cases h1 : lo = lo2
  · subst h1
    have HS := Lib.hid (show sameGr ⟨l, lo⟩ ⟨l2, lo⟩ = sameRow sameKd l l2 by simp [sameGr])
    go_enter Try.func35, Try.ntmps35
    go_wp2_with (go_at_call 71; ((with_reducible refine (eqKinds_any _ _ _ l _ _ l2 (HK.out.1.below (two_boxes_alloc (Below.refl w.heap.size w) _ _)) (HK.out.2.below (two_boxes_alloc (Below.refl w.heap.size w) _ _)) HF.out.1 HF.out.2 HF2.out.2).mono ?_); rintro e w2 ⟨rfl, h2⟩; have H2 := Lib.hid ((two_boxes_alloc (Below.refl w.heap.size w) _ _).trans (h2.mono (two_boxes_alloc (Below.refl w.heap.size w) _ _).size)); clear h2))
    go_ret
    exact Says.mk HS.out H2.out
  · have HS := Lib.hid (show sameGr ⟨l, lo⟩ ⟨l2, lo2⟩ = false by simp [sameGr, h1])
    go_enter Try.func35, Try.ntmps35
    go_wp2_with fail
    go_ret
    exact Says.mk HS.out (two_boxes_alloc (Below.refl w.heap.size w) _ _)
end Go.Proofs.Ytmfpilacmafglaa
