/-
  The program's Text and Least. No condition but that the grammar lies where it is said to lie.
-/
import Derived.Test.YtmfpilacmafglaaGTell
namespace Go.Proofs.Ytmfpilacmafglaa
open Go.RowKit Go.Maps

def textV (o : Option Kd) (s : ByteArray) : Bool := match o with
  | none => false
  | some k => s.toList.isEmpty || (k.text && decide (s.size ≤ 40))
def sumLeast : List Sl → Int
  | [] => 0
  | s :: r => s.least + sumLeast r
def leastV (o : Option Kd) : Int := match o with
  | none => 0
  | some k => sumLeast k.slots
def Least3 (l : List Sl) : Prop := l.length ≤ 8 ∧ ∀ s ∈ l, 0 ≤ s.least ∧ s.least ≤ 1000
theorem ok_least {g : Gr} {n : Int} {k : Kd} (h : kindOf g n = some k) : Least3 k.slots := by
  obtain ⟨hg, j, _, _, hx⟩ := kindOf_some h
  simp only [grOk, Bool.and_eq_true, List.all_eq_true] at hg
  have h1 := hg.1.2 k (List.mem_of_getElem? hx)
  simp only [kindOk, kindRest, Bool.and_eq_true, decide_eq_true_eq, List.all_eq_true] at h1
  refine ⟨h1.1.2, fun s hs => ?_⟩
  have h2 := h1.2 s hs
  simp only [slotOk, slotRest, Bool.and_eq_true, decide_eq_true_eq] at h2
  omega

set_option maxRecDepth 100000 in
set_option maxHeartbeats 1000000 in
theorem text_any (w : World) (v : Value) (g : Gr) (n : Int) (s : ByteArray) (hv : GrV w v g) (hf : g.few) (hs : (s.size : Int) ≤ 9223372036854775807) : Calls Try.prog 31 #[v, .int .i64 n, .string s] w (Says (textV (kindOf g n) s) w) := by
  obtain ⟨ka, kc, rfl, hk⟩ := hv
  obtain ⟨l, root⟩ := g
  simp only at hk
  have HF := Lib.hid hf
  have HK := Lib.hid hk
  clear hf hk
  cases ho : kindOf ⟨l, root⟩ n with
  | none =>
    have HO := Lib.hid ho
    clear ho
    go_enter Try.func31, Try.ntmps31
    go_wp2_with (go_at_call 68; ((with_reducible refine (kindAt_no _ _ _ n (grV (HK.out.below (box_below _ _))) HF.out HO.out).mono ?_); rintro e w2 ⟨rfl, h2⟩; have H2 := Lib.hid h2; clear h2))
    go_ret
    exact ⟨rfl, ((box_below w _).trans (H2.out.mono (box_below w _).size)).alloc ((box_below w _).trans (H2.out.mono (box_below w _).size)).size _⟩
  | some k =>
    have HO := Lib.hid ho
    clear ho
    obtain ⟨nm, tx, sl⟩ := k
    by_cases he : s.toList.isEmpty = true
    · have he2 : s.toList = [] := by simpa using he
      have HV := Lib.hid (show textV (some ⟨nm, tx, sl⟩) s = true by simp [textV, he2])
      go_enter Try.func31, Try.ntmps31
      go_wp2_with (go_at_call 68; ((with_reducible refine (kindAt_yes _ _ _ n _ (grV (HK.out.below (box_below _ _))) HF.out HO.out).mono ?_); rintro e w2 ⟨sa, sc, rfl, h2, _⟩; have H2 := Lib.hid ((box_below w _).trans (h2.mono (box_below w _).size)); clear h2))
      go_ret
      exact Says.mk HV.out (H2.out.alloc H2.out.size _)
    · have he1 : s.toList.isEmpty = false := by simpa using he
      have he2 : ¬ s.toList = [] := by simpa using he
      have HV := Lib.hid (show textV (some ⟨nm, tx, sl⟩) s = (tx && decide (s.size ≤ 40)) by rw [textV, he1]; rfl)
      clear he
      cases tx
      · go_enter Try.func31, Try.ntmps31
        go_wp2_with (go_at_call 68; ((with_reducible refine (kindAt_yes _ _ _ n _ (grV (HK.out.below (box_below _ _))) HF.out HO.out).mono ?_); rintro e w2 ⟨sa, sc, rfl, h2, _⟩; have H2 := Lib.hid ((box_below w _).trans (h2.mono (box_below w _).size)); clear h2))
        go_ret
        exact Says.mk HV.out (H2.out.alloc H2.out.size _)
      · by_cases h4 : s.size ≤ 40
        · have h4' : (s.size : Int) ≤ 40 := by omega
          go_enter Try.func31, Try.ntmps31
          go_wp2_with (go_at_call 68; ((with_reducible refine (kindAt_yes _ _ _ n _ (grV (HK.out.below (box_below _ _))) HF.out HO.out).mono ?_); rintro e w2 ⟨sa, sc, rfl, h2, _⟩; have H2 := Lib.hid ((box_below w _).trans (h2.mono (box_below w _).size)); clear h2))
          go_ret
          exact Says.mk (by rw [HV.out, decide_eq_true h4]; rfl) (H2.out.alloc H2.out.size _)
        · have h4' : ¬ (s.size : Int) ≤ 40 := by omega
          go_enter Try.func31, Try.ntmps31
          go_wp2_with (go_at_call 68; ((with_reducible refine (kindAt_yes _ _ _ n _ (grV (HK.out.below (box_below _ _))) HF.out HO.out).mono ?_); rintro e w2 ⟨sa, sc, rfl, h2, _⟩; have H2 := Lib.hid ((box_below w _).trans (h2.mono (box_below w _).size)); clear h2))
          go_ret
          exact Says.mk (by rw [HV.out, decide_eq_false h4]; first | rfl | (rw [decide_eq_false (by omega)]; rfl)) (H2.out.alloc H2.out.size _)

set_option maxRecDepth 100000 in
set_option maxHeartbeats 1000000 in
theorem oneLeast_any (w : World) (v : Value) (s : Sl) (hv : SlotV w v s) : Calls Try.prog 70 #[v] w (Counts s.least w) := by
  obtain ⟨ka, kc, rfl, hk⟩ := hv
  go_enter Try.func70, Try.ntmps70
  go_wp2_with fail
  go_ret
  exact ⟨rfl, box_below _ _⟩
def SumR (w : World) (l : List Sl) (n i : Value) (wr : World) : Prop := ∃ (k : Nat) (m : Int), k ≤ l.length ∧ i = .int .i64 k ∧ n = .int .i64 m ∧ 0 ≤ m ∧ m ≤ 1000 * k ∧ Below w.heap.size w wr ∧ sumLeast l = m + sumLeast (l.drop k)
theorem sum_step {l : List Sl} {m : Int} {k : Nat} {x : Sl} {r : Int} (hr : r = m + sumLeast (l.drop k)) (h : l[k]? = some x) : r = (m + x.least) + sumLeast (l.drop (k + 1)) := by rw [hr, drop_cons h, sumLeast]; omega
theorem sum_end {l : List Sl} {m : Int} {k : Nat} {r : Int} (hr : r = m + sumLeast (l.drop k)) (h : l.length ≤ k) : r = m := by rw [hr, List.drop_eq_nil_of_le h, sumLeast]; omega

set_option maxRecDepth 100000 in
set_option maxHeartbeats 1000000 in
theorem sum_any (w : World) (a : Option Addr) (cap : Nat) (l : List Sl) (h : SlotsAt w a l) (hl : Least3 l) : Calls Try.prog 69 #[.slice a l.length cap, .func (.func 70) #[] #[]] w (Counts (sumLeast l) w) := by
  have HK := Lib.hid h
  have h8 := hl.1
  have HL := Lib.hid hl.2
  clear h hl
  go_enter Try.func69, Try.ntmps69
  go_wp2_with fail
  go_loopw [5, 10] (fun n i wr => SumR w l n i wr) (fun _ i _ => l.length - (intOf i).toNat)
  case atStart => exact ⟨0, 0, Nat.zero_le _, rfl, rfl, by omega, by omega, Below.refl _ _, by simp⟩
  case round =>
    obtain ⟨k, m, hkl, rfl, rfl, hm0, hm1, hbel, hsum⟩ := hrel
    have HB := Lib.hid hbel
    have HA := Lib.hid hsum
    by_cases hlt : k < l.length
    · obtain ⟨x, hx⟩ : ∃ x, l[k]? = some x := ⟨l[k], List.getElem?_eq_getElem hlt⟩
      obtain ⟨hx0, hx1⟩ := HL.out x (List.mem_of_getElem? hx)
      obtain ⟨b, off, rfl, hblt, hc⟩ := (HK.out.below hbel) (by omega)
      obtain ⟨ka, kc, d0, d1, d2, hi⟩ := hc k x hx
      have HI := Lib.hid hi
      have HX := Lib.hid (sum_step HA.out hx)
      have hkl2 : (k : Int) < (l.length : Int) := by omega
      clear hx hc hi hbel hsum
      go_wp2_with (go_at_call 70; ((with_reducible refine (oneLeast_any _ _ x (slotV (HI.out.below (box_below _ _)))).mono ?_); rintro e w2 ⟨rfl, h2⟩; have H2 := Lib.hid ((box_below wr _).trans (h2.mono (box_below wr _).size)); clear h2))
      exact ⟨⟨k + 1, m + x.least, by omega, by go_num, rfl, by omega, by omega, HB.out.trans (H2.out.mono HB.out.size), HX.out⟩, by simp [intOf]; omega⟩
    · have HE := Lib.hid (sum_end HA.out (by omega))
      have hkl2 : ¬ (k : Int) < (l.length : Int) := by omega
      clear hbel hsum
      go_wp2_with fail
      go_ret
      exact Counts.mk HE.out HB.out

set_option maxRecDepth 100000 in
set_option maxHeartbeats 1000000 in
theorem least_any (w : World) (v : Value) (g : Gr) (n : Int) (hv : GrV w v g) (hf : g.few) : Calls Try.prog 33 #[v, .int .i64 n] w (Counts (leastV (kindOf g n)) w) := by
  obtain ⟨ka, kc, rfl, hk⟩ := hv
  obtain ⟨l, root⟩ := g
  simp only at hk
  have HF := Lib.hid hf
  have HK := Lib.hid hk
  clear hf hk
  cases ho : kindOf ⟨l, root⟩ n with
  | none =>
    have HO := Lib.hid ho
    clear ho
    go_enter Try.func33, Try.ntmps33
    go_wp2_with (first
      | (go_at_call 68; ((with_reducible refine (kindAt_no _ _ _ n (grV (HK.out.below (box_below _ _))) HF.out HO.out).mono ?_); rintro e w2 ⟨rfl, h2⟩; have H2 := Lib.hid ((box_below w _).trans (h2.mono (box_below w _).size)); clear h2))
      | (go_at_call 69; ((refine (sum_any _ none 0 [] (fun h => absurd h (by decide)) ⟨by decide, fun s hs => by cases hs⟩).mono ?_); rintro e w3 ⟨rfl, h3⟩; have H3 := Lib.hid h3; clear h3)))
    go_ret
    exact Counts.mk rfl ((H2.out.alloc H2.out.size _).trans (H3.out.mono (by have := H2.out.size; simp; omega)))
  | some k =>
    have HO := Lib.hid ho
    have HL := Lib.hid (ok_least ho)
    clear ho
    go_enter Try.func33, Try.ntmps33
    go_wp2_with (first
      | (go_at_call 68; ((with_reducible refine (kindAt_yes _ _ _ n _ (grV (HK.out.below (box_below _ _))) HF.out HO.out).mono ?_); rintro e w2 ⟨sa, sc, rfl, h2, hs⟩; have H2 := Lib.hid ((box_below w _).trans (h2.mono (box_below w _).size)); have HS := Lib.hid hs; clear h2 hs))
      | (go_at_call 69; ((with_reducible refine (sum_any _ _ _ _ (HS.out.below (box_below _ _)) HL.out).mono ?_); rintro e w3 ⟨rfl, h3⟩; have H3 := Lib.hid h3; clear h3)))
    go_ret
    exact Counts.mk rfl ((H2.out.alloc H2.out.size _).trans (H3.out.mono (by have := H2.out.size; simp; omega)))
end Go.Proofs.Ytmfpilacmafglaa
