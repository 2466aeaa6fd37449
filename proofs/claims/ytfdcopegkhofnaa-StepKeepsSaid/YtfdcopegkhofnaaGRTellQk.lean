/-
  The program's Text and Least. No condition but that the grammar lies where it is said to lie.
  The program's Same. No condition but that the grammars lie where they are said to lie.
  The document's Same. No condition but that the grammars lie where they are said to lie.
  Which rows fit: plainly. No condition.
  Stretches, found step by step: plainly. No condition.
  The document's Find, Text and Least. No condition but that the grammar lies where it is said to lie.
-/
import Derived.Test.YtfdcopegkhofnaaGTellQk
import Derived.Test.YtfdcopegkhofnaaGWideQk
import Derived.Test.YtfdcopegkhofnaaGPlacesQk
import Derived.Test.YtfdcopegkhofnaaGRCheckQk
namespace Go.Proofs.Ytfdcopegkhofnaa
open Go.RowKit Go.Maps

def textV (o : Option Kd) (s : ByteArray) : Bool := match o with
  | none => false
  | some k => s.toList.isEmpty || (k.text && decide (s.size ≤ 40))
def Least3 (l : List Sl) : Prop := l.length ≤ 8 ∧ ∀ s ∈ l, 0 ≤ s.least ∧ s.least ≤ 1000
theorem ok_least {g : Gr} {n : Int} {k : Kd} (h : kindOf g n = some k) : Least3 k.slots := by
  obtain ⟨hg, j, _, _, hx⟩ := kindOf_some h
  simp only [grOk, Bool.and_eq_true, List.all_eq_true] at hg
  have h1 := hg.1.2 k (List.mem_of_getElem? hx)
  simp only [kindOk, kindRest, Bool.and_eq_true, decide_eq_true_eq, List.all_eq_true] at h1
  refine ⟨h1.1.2, fun s hs => ?_⟩
  have h2 := h1.2 s hs
  simp only [slotOk, slotRest, Bool.and_eq_true, decide_eq_true_eq] at h2
  omega

set_option maxRecDepth 100000 in
set_option maxHeartbeats 1000000 in
theorem text_any (w : World) (v : Value) (g : Gr) (n : Int) (s : ByteArray) (hv : GrV w v g) (hf : g.few) (hs : (s.size : Int) ≤ 9223372036854775807) : Calls Try.prog 35 #[v, .int .i64 n, .string s] w (Says (textV (kindOf g n) s) w) := by
  obtain ⟨ka, kc, rfl, hk⟩ := hv
  obtain ⟨l, root⟩ := g
  simp only at hk
  have HF := Lib.hid hf
  have HK := Lib.hid hk
  clear hf hk
  cases ho : kindOf ⟨l, root⟩ n with
  | none =>
    have HO := Lib.hid ho
    clear ho
    go_enter Try.func35, Try.ntmps35
    go_wp2_with (go_at_call 93; ((with_reducible refine (kindAt_no _ _ _ n (grV (HK.out.below (box_below _ _))) HF.out HO.out).mono ?_); rintro e w2 ⟨rfl, h2⟩; have H2 := Lib.hid h2; clear h2))
    go_ret
    exact ⟨rfl, ((box_below w _).trans (H2.out.mono (box_below w _).size)).alloc ((box_below w _).trans (H2.out.mono (box_below w _).size)).size _⟩
  | some k =>
    have HO := Lib.hid ho
    clear ho
    obtain ⟨nm, tx, sl⟩ := k
    by_cases he : s.toList.isEmpty = true
    · have he2 : s.toList = [] := by simpa using he
      have HV := Lib.hid (show textV (some ⟨nm, tx, sl⟩) s = true by simp [textV, he2])
      go_enter Try.func35, Try.ntmps35
      go_wp2_with (go_at_call 93; ((with_reducible refine (kindAt_yes _ _ _ n _ (grV (HK.out.below (box_below _ _))) HF.out HO.out).mono ?_); rintro e w2 ⟨sa, sc, rfl, h2, _⟩; have H2 := Lib.hid ((box_below w _).trans (h2.mono (box_below w _).size)); clear h2))
      go_ret
      exact Says.mk HV.out (H2.out.alloc H2.out.size _)
    · have he1 : s.toList.isEmpty = false := by simpa using he
      have he2 : ¬ s.toList = [] := by simpa using he
      have HV := Lib.hid (show textV (some ⟨nm, tx, sl⟩) s = (tx && decide (s.size ≤ 40)) by rw [textV, he1]; rfl)
      clear he
      cases tx
      · go_enter Try.func35, Try.ntmps35
        go_wp2_with (go_at_call 93; ((with_reducible refine (kindAt_yes _ _ _ n _ (grV (HK.out.below (box_below _ _))) HF.out HO.out).mono ?_); rintro e w2 ⟨sa, sc, rfl, h2, _⟩; have H2 := Lib.hid ((box_below w _).trans (h2.mono (box_below w _).size)); clear h2))
        go_ret
        exact Says.mk HV.out (H2.out.alloc H2.out.size _)
      · by_cases h4 : s.size ≤ 40
        · have h4' : (s.size : Int) ≤ 40 := by omega
          go_enter Try.func35, Try.ntmps35
          go_wp2_with (go_at_call 93; ((with_reducible refine (kindAt_yes _ _ _ n _ (grV (HK.out.below (box_below _ _))) HF.out HO.out).mono ?_); rintro e w2 ⟨sa, sc, rfl, h2, _⟩; have H2 := Lib.hid ((box_below w _).trans (h2.mono (box_below w _).size)); clear h2))
          go_ret
          exact Says.mk (by rw [HV.out, decide_eq_true h4]; rfl) (H2.out.alloc H2.out.size _)
        · have h4' : ¬ (s.size : Int) ≤ 40 := by omega
          go_enter Try.func35, Try.ntmps35
          go_wp2_with (go_at_call 93; ((with_reducible refine (kindAt_yes _ _ _ n _ (grV (HK.out.below (box_below _ _))) HF.out HO.out).mono ?_); rintro e w2 ⟨sa, sc, rfl, h2, _⟩; have H2 := Lib.hid ((box_below w _).trans (h2.mono (box_below w _).size)); clear h2))
          go_ret
          exact Says.mk (by rw [HV.out, decide_eq_false h4]; first | rfl | (rw [decide_eq_false (by omega)]; rfl)) (H2.out.alloc H2.out.size _)

end Go.Proofs.Ytfdcopegkhofnaa
namespace Go.Proofs.Ytfdcopegkhofnaa
open Go.RowKit

theorem two_boxes_alloc {w wr : World} (h : Below w.heap.size w wr) (o o' : Obj) : Below w.heap.size w ((wr.alloc o).alloc o') := (h.alloc h.size _).alloc (by have := h.size; simp; omega) _

end Go.Proofs.Ytfdcopegkhofnaa
namespace Go.Proofs.Ytfdcopegkhofnaa
open Go.RowKit

theorem two_heap (w : World) (o o' : Obj) : ((w.alloc o).alloc o').heap[w.heap.size]? = some o ∧ ((w.alloc o).alloc o').heap[w.heap.size + 1]? = some o' := by
  refine ⟨by rw [Below.heap_alloc _ _ _ (by simp)]; exact heap_alloc_new w o, ?_⟩
  have := heap_alloc_new (w.alloc o) o'
  simpa using this
theorem cell0 {w : World} {b : Nat} {cs : Array Value} {t : TypeId} (h : w.heap[b]? = some (.cells cs t (0, 0))) (j : Nat) {v : Value} (hv : cs[j]? = some v) : w.cell? ⟨b, j, none⟩ = some v := by
  rw [cell_of_row w b j _ _ _ h]; exact hv
end Go.Proofs.Ytfdcopegkhofnaa
namespace Go.Proofs.Ytfdcopegkhofnaa

/-- A stretch of slot s from b to j. -/
structure Stretch (kids : List Int) (s : Sl) (b j : Nat) : Prop where
  le : b ≤ j
  ends : j ≤ kids.length
  least : s.least ≤ ((j - b : Nat) : Int)
  most : ((j - b : Nat) : Int) ≤ s.most
  all : ∀ i x, b ≤ i → i < j → kids[i]? = some x → hasInt s.kinds x = true
def stretchB (kids : List Int) (s : Sl) (b j : Nat) : Bool :=
  decide (b ≤ j) && decide (j ≤ kids.length) && decide (s.least ≤ ((j - b : Nat) : Int)) && decide (((j - b : Nat) : Int) ≤ s.most) && ((kids.drop b).take (j - b)).all (hasInt s.kinds)
theorem stretchB_iff {kids : List Int} {s : Sl} {b j : Nat} : stretchB kids s b j = true ↔ Stretch kids s b j := by
  simp only [stretchB, Bool.and_eq_true, decide_eq_true_eq, List.all_eq_true]
  constructor
  · rintro ⟨⟨⟨⟨h1, h2⟩, h3⟩, h4⟩, h5⟩
    refine ⟨h1, h2, h3, h4, fun i x hi hj hx => h5 x ?_⟩
    rw [List.mem_iff_getElem?]
    exact ⟨i - b, by rw [List.getElem?_take, if_pos (by omega), List.getElem?_drop, show b + (i - b) = i by omega]; exact hx⟩
  · rintro ⟨h1, h2, h3, h4, h5⟩
    refine ⟨⟨⟨⟨h1, h2⟩, h3⟩, h4⟩, fun x hx => ?_⟩
    obtain ⟨i, hi⟩ := List.mem_iff_getElem?.1 hx
    rw [List.getElem?_take] at hi
    split at hi
    · rw [List.getElem?_drop] at hi
      exact h5 (b + i) x (by omega) (by omega) hi
    · cases hi

/-- Where a stretch may end, if it may begin where T is true. -/
def nextT (kids : List Int) (s : Sl) (T : Nat → Bool) : Nat → Bool := fun j => (List.range (j + 1)).any fun b => T b && stretchB kids s b j
theorem nextT_iff {kids : List Int} {s : Sl} {T : Nat → Bool} {j : Nat} : nextT kids s T j = true ↔ ∃ b, T b = true ∧ Stretch kids s b j := by
  simp only [nextT, List.any_eq_true, List.mem_range, Bool.and_eq_true, stretchB_iff]
  exact ⟨fun ⟨b, _, h⟩ => ⟨b, h⟩, fun ⟨b, h⟩ => ⟨b, by have := h.2.le; omega, h⟩⟩
def endsT (kids : List Int) (slots : List Sl) : Nat → Bool := slots.foldl (fun T s => nextT kids s T) onlyF
def fitsV (o : Option Kd) (kids : List Int) : Bool := match o with
  | none => false
  | some k => decide (kids.length ≤ 200) && endsT kids k.slots kids.length
theorem ends_step {kids : List Int} {slots : List Sl} {k : Nat} {s : Sl} (hs : slots[k]? = some s) : endsT kids (slots.take (k + 1)) = nextT kids s (endsT kids (slots.take k)) := by
  rw [take_snoc hs, endsT, List.foldl_append]; rfl

/-- Which kids are of the slot's kinds. -/
def ownF (kids : List Int) (kinds : List Int) : Nat → Bool := fun i => match kids[i]? with
  | some x => hasInt kinds x
  | none => false
theorem ownF_some {kids kinds : List Int} {i : Nat} {x : Int} (h : kids[i]? = some x) : ownF kids kinds i = hasInt kinds x := by simp [ownF, h]
theorem ownF_none {kids kinds : List Int} {i : Nat} (h : kids.length ≤ i) : ownF kids kinds i = false := by simp [ownF, List.getElem?_eq_none h]
end Go.Proofs.Ytfdcopegkhofnaa
namespace Go.Proofs.Ytfdcopegkhofnaa

/-- f tells where stretches end that begin ahead of c. -/
def FP (kids : List Int) (s : Sl) (T : Nat → Bool) (c : Nat) (f : Nat → Bool) : Prop := ∀ j, f j = true ↔ ∃ b, b < c ∧ T b = true ∧ Stretch kids s b j
/-- .. and those that begin at c and are shorter than n. -/
def FI (kids : List Int) (s : Sl) (T : Nat → Bool) (c n : Nat) (f : Nat → Bool) : Prop := ∀ j, f j = true ↔ (∃ b, b < c ∧ T b = true ∧ Stretch kids s b j) ∨ ∃ m : Nat, m < n ∧ s.least ≤ (m : Int) ∧ j = c + m
def OwnTo (kids : List Int) (s : Sl) (c n : Nat) : Prop := ∀ i, c ≤ i → i < c + n → ownF kids s.kinds i = true
theorem FP.start (kids : List Int) (s : Sl) (T : Nat → Bool) : FP kids s T 0 noF := fun j => ⟨fun h => by simp [noF] at h, fun ⟨b, h, _⟩ => by omega⟩
theorem FP.skip {kids : List Int} {s : Sl} {T : Nat → Bool} {c : Nat} {f : Nat → Bool} (h : FP kids s T c f) (hT : T c = false) : FP kids s T (c + 1) f := fun j => by
  rw [h j]
  constructor
  · rintro ⟨b, h1, h2⟩; exact ⟨b, by omega, h2⟩
  · rintro ⟨b, h1, h2, h3⟩
    refine ⟨b, ?_, h2, h3⟩
    by_cases e : b = c
    · subst e; rw [hT] at h2; cases h2
    · omega
theorem FP.all {kids : List Int} {s : Sl} {T : Nat → Bool} {f : Nat → Bool} (h : FP kids s T (kids.length + 1) f) : f = nextT kids s T := by
  funext j
  rw [Bool.eq_iff_iff, h j, nextT_iff]
  constructor
  · rintro ⟨b, _, h⟩; exact ⟨b, h⟩
  · rintro ⟨b, h1, h2⟩; exact ⟨b, by have := h2.le; have := h2.ends; omega, h1, h2⟩
theorem FI.start {kids : List Int} {s : Sl} {T : Nat → Bool} {c : Nat} {f : Nat → Bool} (h : FP kids s T c f) : FI kids s T c 0 f := fun j => by
  rw [h j]
  exact ⟨Or.inl, fun h => h.elim id fun ⟨m, h, _⟩ => by omega⟩
theorem FI.skip {kids : List Int} {s : Sl} {T : Nat → Bool} {c n : Nat} {f : Nat → Bool} (h : FI kids s T c n f) (hn : (n : Int) < s.least) : FI kids s T c (n + 1) f := fun j => by
  rw [h j]
  constructor
  · rintro (h | ⟨m, h1, h2⟩)
    · exact Or.inl h
    · exact Or.inr ⟨m, by omega, h2⟩
  · rintro (h | ⟨m, h1, h2, h3⟩)
    · exact Or.inl h
    · exact Or.inr ⟨m, by omega, h2, h3⟩
theorem FI.put {kids : List Int} {s : Sl} {T : Nat → Bool} {c n : Nat} {f : Nat → Bool} (h : FI kids s T c n f) (hn : s.least ≤ (n : Int)) : FI kids s T c (n + 1) (fun j => if j = c + n then true else f j) := fun j => by
  show (if j = c + n then true else f j) = true ↔ _
  by_cases e : j = c + n
  · rw [if_pos e]
    exact ⟨fun _ => Or.inr ⟨n, by omega, hn, e⟩, fun _ => rfl⟩
  · rw [if_neg e, h j]
    constructor
    · rintro (h | ⟨m, h1, h2⟩)
      · exact Or.inl h
      · exact Or.inr ⟨m, by omega, h2⟩
    · rintro (h | ⟨m, h1, h2, h3⟩)
      · exact Or.inl h
      · exact Or.inr ⟨m, by omega, h2, h3⟩
theorem own_lt {kids : List Int} {kinds : List Int} {i : Nat} (h : ownF kids kinds i = true) : i < kids.length ∧ ∀ x, kids[i]? = some x → hasInt kinds x = true := by
  by_cases hi : i < kids.length
  · refine ⟨hi, fun x hx => ?_⟩
    rw [ownF_some hx] at h; exact h
  · rw [ownF_none (by omega)] at h; cases h
/-- All lengths of one beginning are through. -/
theorem FI.done {kids : List Int} {s : Sl} {T : Nat → Bool} {c N : Nat} {f : Nat → Bool} (h : FI kids s T c N f) (hc : c ≤ kids.length) (hT : T c = true) (ho : ∀ i, c ≤ i → i + 1 < c + N → ownF kids s.kinds i = true)
    (hN : (N : Int) ≤ s.most + 1) (hend : (N : Int) = s.most + 1 ∨ 1 ≤ N ∧ ownF kids s.kinds (c + N - 1) = false) : FP kids s T (c + 1) f := fun j => by
  rw [h j]
  constructor
  · rintro (⟨b, h1, h2⟩ | ⟨m, h1, h2, h3⟩)
    · exact ⟨b, by omega, h2⟩
    · refine ⟨c, by omega, hT, by omega, ?_, ?_, ?_, fun i x hi hj hx => (own_lt (ho i hi (by omega))).2 x hx⟩
      · by_cases e : m = 0
        · omega
        · have := (own_lt (ho (c + m - 1) (by omega) (by omega))).1; omega
      · rw [show j - c = m by omega]; exact h2
      · rw [show j - c = m by omega]; omega
  · rintro ⟨b, h1, h2, h3⟩
    by_cases e : b = c
    · subst e
      refine Or.inr ⟨j - b, ?_, h3.least, by have := h3.le; omega⟩
      rcases hend with hend | ⟨h1N, hend⟩
      · have := h3.most; omega
      · by_cases hlt : j - b < N
        · exact hlt
        · exfalso
          have hj := h3.ends
          have hle := h3.le
          have hi : b + N - 1 < kids.length := by omega
          have hx := List.getElem?_eq_getElem hi
          have := h3.all (b + N - 1) _ (by omega) (by omega) hx
          rw [ownF_some hx, this] at hend
          cases hend
    · exact Or.inl ⟨b, by omega, h2, h3⟩
end Go.Proofs.Ytfdcopegkhofnaa
namespace Go.Proofs.Ytfdcopegkhofnaa
open Go.RowKit

theorem findN_is {l : List Kd} {s : List UInt8} {i : Nat} {x : Kd} (hf : fresh (l.take i) s = true) (hx : l[i]? = some x) (h : x.name.data.toList = s) : findN l s = some i := by
  obtain ⟨hi, rfl⟩ := List.getElem?_eq_some_iff.1 hx
  refine List.findIdx?_eq_some_iff_getElem.2 ⟨hi, by simpa using h, fun j hj => ?_⟩
  have := fresh_at (k := j) hf (by rw [List.getElem?_take, if_pos hj]; exact List.getElem?_eq_getElem (by omega))
  simpa using this
theorem findN_not {l : List Kd} {s : List UInt8} (hf : fresh l s = true) : findN l s = none := by
  rw [findN, List.findIdx?_eq_none_iff]
  intro x hx
  have := List.all_eq_true.1 hf x hx
  simpa using this

def RFindR (w : World) (c : Array Value) (l : List Kd) (s : List UInt8) (i : Value) (wr : World) : Prop :=
  ∃ (k : Nat), k ≤ l.length ∧ i = .int .i64 k ∧ wr.heap[w.heap.size]? = some (.cells c 55 (0, 0)) ∧ Below w.heap.size w wr ∧ fresh (l.take k) s = true

set_option maxRecDepth 100000 in
set_option maxHeartbeats 1000000 in
theorem rfind_any (w : World) (v : Value) (g : Gr) (s : ByteArray) (hv : GrV w v g) (hf : g.few) : Calls Try.prog 32 #[v, .string s] w (Pair (findV g s.data.toList).1 (findV g s.data.toList).2 w) := by
  obtain ⟨ka, kc, rfl, hk⟩ := hv
  obtain ⟨l, root⟩ := g
  simp only at hk
  have hfl : l.length ≤ 1000000 := hf.1
  have HF := Lib.hid hf
  have HK := Lib.hid hk
  obtain ⟨bb, hbb⟩ : ∃ bb, grOk ⟨l, root⟩ = bb := ⟨_, rfl⟩
  have HBB := Lib.hid hbb
  clear hf hk hbb
  cases bb
  · go_enter Try.func32, Try.ntmps32
    go_wp2_with (go_at_call 34; ((with_reducible refine (rcheck_any _ _ _ (grV (HK.out.below (box_below _ _))) HF.out).mono ?_); rintro e w2 ⟨rfl, h2⟩; rw [errN_no HBB.out]; have H2 := Lib.hid ((box_below w _).trans (h2.mono (box_below w _).size)); clear h2))
    go_ret2
    exact Pair.mk (by rw [findV, if_neg (by rw [HBB.out]; decide)]) (by rw [findV, if_neg (by rw [HBB.out]; decide)]) H2.out
  · have HV := Lib.hid (show findV ⟨l, root⟩ s.data.toList = match findN l s.data.toList with | some i => ((i : Int), true) | none => (0, false) by rw [findV, if_pos HBB.out]; rfl)
    go_enter Try.func32, Try.ntmps32
    go_wp2_with (go_at_call 34; ((with_reducible refine (rcheck_any _ _ _ (grV (HK.out.below (box_below _ _))) HF.out).mono ?_); rintro e w2 ⟨rfl, h2⟩; rw [errN_yes HBB.out]; have H2 := Lib.hid h2; have HB2 := Lib.hid ((box_below w _).trans (h2.mono (box_below w _).size)); clear h2))
    go_loopw [6] (fun i wr => RFindR w #[.slice ka l.length kc, .int .i64 root] l s.data.toList i wr) (fun i _ => l.length - (intOf i).toNat)
    case atStart => exact ⟨0, Nat.zero_le _, rfl, (H2.out.block _ (by simp)).trans (heap_alloc_new w _), HB2.out, rfl⟩
    case round =>
      obtain ⟨k, hkl, rfl, hb, hbel, hfr⟩ := hrel
      have HB := Lib.hid (And.intro hb hbel)
      have HFR := Lib.hid hfr
      have p0 : wr.cell? ⟨w.heap.size, 0, none⟩ = some (.slice ka l.length kc) := by rw [cell_of_row wr _ 0 _ _ _ hb]; rfl
      by_cases hlt : k < l.length
      · obtain ⟨x, hx⟩ : ∃ x, l[k]? = some x := ⟨l[k], List.getElem?_eq_getElem hlt⟩
        obtain ⟨b, off, rfl, hblt, hc⟩ := (HK.out.below hbel) (by omega)
        obtain ⟨sa, sc, c0, _, _, _⟩ := hc k x hx
        have HX := Lib.hid hx
        have hkl2 : (k : Int) < (l.length : Int) := by omega
        clear hx hc hb hbel hfr
        by_cases hn : x.name.toList = s.toList
        · have HN := Lib.hid (show x.name.data.toList = s.data.toList by rw [← ByteArray.toList_eq, ← ByteArray.toList_eq, hn])
          have hn1 : (x.name.toList == s.toList) = true := by simpa using hn
          go_wp2_with fail
          go_ret2
          exact Pair.mk (by rw [HV.out, findN_is HFR.out HX.out HN.out]) (by rw [HV.out, findN_is HFR.out HX.out HN.out]) HB.out.2
        · have HN := Lib.hid (show x.name.data.toList ≠ s.data.toList by rw [← ByteArray.toList_eq, ← ByteArray.toList_eq]; exact hn)
          have hn1 : (x.name.toList == s.toList) = false := by simpa using hn
          go_wp2_with fail
          exact ⟨⟨k + 1, by omega, by go_num, HB.out.1, HB.out.2, by rw [fresh_take HX.out, HFR.out, decide_eq_true HN.out]; rfl⟩, by simp [intOf]; omega⟩
      · have HFF := Lib.hid (show fresh l s.data.toList = true by rw [List.take_of_length_le (by omega)] at hfr; exact hfr)
        have hkl2 : ¬ (k : Int) < (l.length : Int) := by omega
        clear hb hbel hfr HFR
        go_wp2_with fail
        go_ret2
        exact Pair.mk (by rw [HV.out, findN_not HFF.out]) (by rw [HV.out, findN_not HFF.out]) HB.out.2

theorem kindOf_bad {g : Gr} {n : Int} (h : grOk g = false) : kindOf g n = none := by rw [kindOf, if_neg (by rw [h]; simp)]
theorem kindOf_neg {g : Gr} {n : Int} (h : n < 0) : kindOf g n = none := by rw [kindOf, if_neg (by omega)]
theorem kindOf_over {g : Gr} {n : Int} (h : (g.kinds.length : Int) ≤ n) : kindOf g n = none := by
  unfold kindOf; split
  · exact List.getElem?_eq_none (by omega)
  · rfl
theorem kindOf_in {g : Gr} {j : Nat} {k : Kd} (h : grOk g = true) (hk : g.kinds[j]? = some k) : kindOf g (j : Int) = some k := by
  rw [kindOf, if_pos ⟨h, by omega⟩]; simpa using hk

set_option maxRecDepth 100000 in
set_option maxHeartbeats 1000000 in
theorem rtext_any (w : World) (v : Value) (g : Gr) (n : Int) (s : ByteArray) (hv : GrV w v g) (hf : g.few) (hs : (s.size : Int) ≤ 9223372036854775807) : Calls Try.prog 36 #[v, .int .i64 n, .string s] w (Says (textV (kindOf g n) s) w) := by
  obtain ⟨ka, kc, rfl, hk⟩ := hv
  obtain ⟨l, root⟩ := g
  simp only at hk
  have hfl : l.length ≤ 1000000 := hf.1
  have HF := Lib.hid hf
  have HK := Lib.hid hk
  obtain ⟨bb, hbb⟩ : ∃ bb, grOk ⟨l, root⟩ = bb := ⟨_, rfl⟩
  have HBB := Lib.hid hbb
  clear hf hk hbb
  cases bb
  · go_enter Try.func36, Try.ntmps36
    go_wp2_with (go_at_call 34; ((with_reducible refine (rcheck_any _ _ _ (grV (HK.out.below (box_below _ _))) HF.out).mono ?_); rintro e w2 ⟨rfl, h2⟩; rw [errN_no HBB.out]; have H2 := Lib.hid ((box_below w _).trans (h2.mono (box_below w _).size)); clear h2))
    go_ret
    exact Says.mk (by rw [kindOf_bad HBB.out]; rfl) H2.out
  · by_cases h1 : n < 0
    · go_enter Try.func36, Try.ntmps36
      go_wp2_with (go_at_call 34; ((with_reducible refine (rcheck_any _ _ _ (grV (HK.out.below (box_below _ _))) HF.out).mono ?_); rintro e w2 ⟨rfl, h2⟩; rw [errN_yes HBB.out]; have H2 := Lib.hid ((box_below w _).trans (h2.mono (box_below w _).size)); clear h2))
      go_ret
      exact Says.mk (by rw [kindOf_neg h1]; rfl) H2.out
    by_cases h2 : (l.length : Int) ≤ n
    · go_enter Try.func36, Try.ntmps36
      go_wp2_with (go_at_call 34; ((with_reducible refine (rcheck_any _ _ _ (grV (HK.out.below (box_below _ _))) HF.out).mono ?_); rintro e w2 ⟨rfl, h2⟩; rw [errN_yes HBB.out]; have H2 := Lib.hid ((box_below w _).trans (h2.mono (box_below w _).size)); have p0 := boxed_cell h2 0 _ rfl; clear h2))
      go_ret
      exact Says.mk (by rw [kindOf_over h2]; rfl) H2.out
    obtain ⟨j, rfl⟩ : ∃ j : Nat, n = (j : Int) := ⟨n.toNat, by omega⟩
    obtain ⟨k, hx⟩ : ∃ x, l[j]? = some x := ⟨l[j]'(by omega), List.getElem?_eq_getElem _⟩
    have HO := Lib.hid (kindOf_in (g := ⟨l, root⟩) HBB.out hx)
    obtain ⟨b, off, rfl, hblt, hc⟩ := HK.out (by omega)
    obtain ⟨sa, sc, _, c1, _, _⟩ := hc j k hx
    have HC := Lib.hid c1
    have hj2 : (j : Int) < (l.length : Int) := by omega
    clear hx hc c1 h1 h2
    obtain ⟨nm, tx, sl⟩ := k
    by_cases he : s.toList.isEmpty = true
    · have he2 : s.toList = [] := by simpa using he
      have HV := Lib.hid (show textV (kindOf ⟨l, root⟩ (j : Int)) s = true by rw [HO.out]; simp [textV, he2])
      go_enter Try.func36, Try.ntmps36
      go_wp2_with (go_at_call 34; ((with_reducible refine (rcheck_any _ _ _ (grV (HK.out.below (box_below _ _))) HF.out).mono ?_); rintro e w2 ⟨rfl, h2⟩; rw [errN_yes HBB.out]; have H2 := Lib.hid ((box_below w _).trans (h2.mono (box_below w _).size)); have p0 := boxed_cell h2 0 _ rfl; clear h2))
      go_ret
      exact Says.mk HV.out H2.out
    · have he1 : s.toList.isEmpty = false := by simpa using he
      have he2 : ¬ s.toList = [] := by simpa using he
      have HV := Lib.hid (show textV (kindOf ⟨l, root⟩ (j : Int)) s = (tx && decide (s.size ≤ 40)) by rw [HO.out, textV, he1]; rfl)
      clear he
      cases tx
      · go_enter Try.func36, Try.ntmps36
        go_wp2_with (go_at_call 34; ((with_reducible refine (rcheck_any _ _ _ (grV (HK.out.below (box_below _ _))) HF.out).mono ?_); rintro e w2 ⟨rfl, h2⟩; rw [errN_yes HBB.out]; have H2 := Lib.hid ((box_below w _).trans (h2.mono (box_below w _).size)); have p0 := boxed_cell h2 0 _ rfl; have d1 := (H2.out.cell hblt).trans HC.out; clear h2))
        go_ret
        exact Says.mk HV.out H2.out
      · by_cases h4 : s.size ≤ 40
        · have h4' : (s.size : Int) ≤ 40 := by omega
          go_enter Try.func36, Try.ntmps36
          go_wp2_with (go_at_call 34; ((with_reducible refine (rcheck_any _ _ _ (grV (HK.out.below (box_below _ _))) HF.out).mono ?_); rintro e w2 ⟨rfl, h2⟩; rw [errN_yes HBB.out]; have H2 := Lib.hid ((box_below w _).trans (h2.mono (box_below w _).size)); have p0 := boxed_cell h2 0 _ rfl; have d1 := (H2.out.cell hblt).trans HC.out; clear h2))
          go_ret
          exact Says.mk (by rw [HV.out, decide_eq_true h4]; rfl) H2.out
        · have h4' : ¬ (s.size : Int) ≤ 40 := by omega
          go_enter Try.func36, Try.ntmps36
          go_wp2_with (go_at_call 34; ((with_reducible refine (rcheck_any _ _ _ (grV (HK.out.below (box_below _ _))) HF.out).mono ?_); rintro e w2 ⟨rfl, h2⟩; rw [errN_yes HBB.out]; have H2 := Lib.hid ((box_below w _).trans (h2.mono (box_below w _).size)); have p0 := boxed_cell h2 0 _ rfl; have d1 := (H2.out.cell hblt).trans HC.out; clear h2))
          go_ret
          exact Says.mk (by rw [HV.out, decide_eq_false h4]; first | rfl | (rw [decide_eq_false (by omega)]; rfl)) H2.out
end Go.Proofs.Ytfdcopegkhofnaa
