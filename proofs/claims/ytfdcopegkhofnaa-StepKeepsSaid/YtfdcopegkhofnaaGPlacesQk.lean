/-
  Which grammars may be, which rows fit: plain definitions and laws. No condition.
  What the program says of a slot, and the document's 'rising'. No condition but that the slot lies where it is said to lie.
  What the program says of a kind. No condition but that the kind lies where it is said to lie.
  The program's map of names. No condition but that the kinds lie where they are said to lie.
-/
import Derived.Test.YtfdcopegkhofnaaGGreatQk
import Derived.Maps.OwnSet
import Derived.Maps.OwnOps
namespace Go.Proofs.Ytfdcopegkhofnaa

/-- Rising from above a, all below n. -/
def rise (n : Int) : Int → List Int → Bool
  | _, [] => true
  | a, x :: r => decide (a < x) && decide (x < n) && rise n x r
theorem rise_len (n : Int) : ∀ (l : List Int) (a : Int), rise n a l = true → l = [] ∨ (l.length : Int) + a < n
  | [], _, _ => Or.inl rfl
  | x :: r, a, h => by
    simp only [rise, Bool.and_eq_true, decide_eq_true_eq] at h
    right
    rcases rise_len n r x h.2 with h1 | h1
    · subst h1; simp; omega
    · simp only [List.length_cons]; omega
theorem rise_step {n a : Int} {l : List Int} {k : Nat} {x : Int} {r : Bool} (hr : r = rise n a (l.drop k)) (h : l[k]? = some x) : r = (decide (a < x) && decide (x < n) && rise n x (l.drop (k + 1))) := by rw [hr, drop_cons h]; rfl
theorem rise_end {n a : Int} {l : List Int} {k : Nat} {r : Bool} (hr : r = rise n a (l.drop k)) (h : l.length ≤ k) : r = true := by rw [hr, List.drop_eq_nil_of_le h]; rfl

def slotRest (s : Sl) : Bool := decide (0 < s.kinds.length) && decide (0 ≤ s.least) && decide (s.least ≤ s.most) && decide (s.most ≤ 1000)
def slotOk (n : Int) (s : Sl) : Bool := rise n (-1) s.kinds && slotRest s
def kindRest (k : Kd) : Bool := decide (1 ≤ k.name.size) && decide (k.name.size ≤ 40) && decide (k.slots.length ≤ 8)
def kindOk (n : Int) (k : Kd) : Bool := kindRest k && k.slots.all (slotOk n)
/-- No two have one name. -/
def fresh (l : List Kd) (s : List UInt8) : Bool := l.all fun k => decide (k.name.data.toList ≠ s)
def apart : List Kd → Bool
  | [] => true
  | k :: r => fresh r k.name.data.toList && apart r
def grRest (g : Gr) : Bool := decide (g.kinds.length ≤ 32) && decide (0 ≤ g.root) && decide (g.root < (g.kinds.length : Int))
def grOk (g : Gr) : Bool := grRest g && g.kinds.all (kindOk g.kinds.length) && apart g.kinds

theorem all_step {α : Type} {f : α → Bool} {l : List α} {k : Nat} {x : α} {r : Bool} (hr : r = (l.drop k).all f) (h : l[k]? = some x) : r = (f x && (l.drop (k + 1)).all f) := by rw [hr, drop_cons h]; rfl
theorem all_end {α : Type} {f : α → Bool} {l : List α} {k : Nat} {r : Bool} (hr : r = (l.drop k).all f) (h : l.length ≤ k) : r = true := by rw [hr, List.drop_eq_nil_of_le h]; rfl
theorem fresh_snoc (l : List Kd) (k : Kd) (s : List UInt8) : fresh (l ++ [k]) s = (fresh l s && decide (k.name.data.toList ≠ s)) := by simp [fresh]
theorem apart_snoc : ∀ (l : List Kd) (k : Kd), apart (l ++ [k]) = (apart l && fresh l k.name.data.toList)
  | [], k => by simp [apart, fresh]
  | x :: r, k => by
    rw [List.cons_append, apart, apart, apart_snoc r k, fresh_snoc]
    have e : decide (k.name.data.toList ≠ x.name.data.toList) = decide (x.name.data.toList ≠ k.name.data.toList) := by
      congr 1; simp only [ne_eq, eq_iff_iff]; exact ⟨fun h e => h e.symm, fun h e => h e.symm⟩
    rw [e]
    simp only [fresh, List.all_cons]
    cases List.all r _ <;> cases apart r <;> cases decide (x.name.data.toList ≠ k.name.data.toList) <;> simp
theorem take_snoc {α : Type} {l : List α} {k : Nat} {x : α} (h : l[k]? = some x) : l.take (k + 1) = l.take k ++ [x] := by
  rw [List.take_add_one, h]; rfl
theorem fresh_at {l : List Kd} {s : List UInt8} {k : Nat} {x : Kd} (h : fresh l s = true) (hx : l[k]? = some x) : x.name.data.toList ≠ s := by
  have := List.all_eq_true.1 h x (List.mem_of_getElem? hx)
  simpa using this
theorem fresh_take {l : List Kd} {s : List UInt8} {k : Nat} {x : Kd} (hx : l[k]? = some x) : fresh (l.take (k + 1)) s = (fresh (l.take k) s && decide (x.name.data.toList ≠ s)) := by rw [take_snoc hx, fresh_snoc]
theorem apart_take {l : List Kd} {k : Nat} {x : Kd} (hx : l[k]? = some x) : apart (l.take (k + 1)) = (apart (l.take k) && fresh (l.take k) x.name.data.toList) := by rw [take_snoc hx, apart_snoc]

/-- Where that name stands. -/
def findN (l : List Kd) (s : List UInt8) : Option Nat := l.findIdx? fun k => decide (k.name.data.toList = s)
end Go.Proofs.Ytfdcopegkhofnaa
namespace Go.Proofs.Ytfdcopegkhofnaa
open Go.RowKit

theorem slotRest_no {s : Sl} (h : ¬ (0 < s.kinds.length ∧ 0 ≤ s.least ∧ s.least ≤ s.most ∧ s.most ≤ 1000)) : slotRest s = false := by
  cases h2 : slotRest s
  · rfl
  · simp [slotRest] at h2
    exact absurd ⟨List.length_pos_iff.2 (by first | exact h2.1.1.1 | exact List.length_pos_iff.1 h2.1.1.1), h2.1.1.2, h2.1.2, h2.2⟩ h
def SlotR (w : World) (c : Array Value) (n : Int) (l : List Int) (a i : Value) (wr : World) : Prop :=
  ∃ (k : Nat) (x : Int), k ≤ l.length ∧ i = .int .i64 k ∧ a = .int .i64 x ∧ wr.heap[w.heap.size]? = some (.cells c 106 (0, 0)) ∧ Below w.heap.size w wr ∧ rise n (-1) l = rise n x (l.drop k)

set_option maxRecDepth 100000 in
set_option maxHeartbeats 1000000 in
theorem slot_any (w : World) (v : Value) (s : Sl) (n : Int) (hv : SlotV w v s) (hf : s.few) : Calls Try.prog 142 #[v, .int .i64 n] w (Says (slotOk n s) w) := by
  obtain ⟨ka, kc, rfl, hk⟩ := hv
  obtain ⟨l, lo, hi⟩ := s
  simp only at hk
  have hfl : l.length ≤ 1000000 := hf
  have HK := Lib.hid hk
  clear hf hk
  go_enter Try.func142, Try.ntmps142
  go_wp2_with fail
  go_loopw [5, 11] (fun a i wr => SlotR w #[.slice ka l.length kc, .int .i64 lo, .int .i64 hi] n l a i wr) (fun _ i _ => l.length - (intOf i).toNat)
  case atStart => exact ⟨0, -1, Nat.zero_le _, rfl, rfl, heap_alloc_new w _, box_below _ _, rfl⟩
  case round =>
    obtain ⟨k, a, hkl, rfl, rfl, hb, hbel, hany⟩ := hrel
    have HB := Lib.hid (And.intro hb hbel)
    have HA := Lib.hid hany
    by_cases hlt : k < l.length
    · obtain ⟨x, hx⟩ : ∃ x, l[k]? = some x := ⟨l[k], List.getElem?_eq_getElem hlt⟩
      obtain ⟨b, off, rfl, hblt, hc⟩ := (HK.out.below hbel) (by omega)
      have c0 := hc k x hx
      have HX := Lib.hid (rise_step HA.out hx)
      have hkl2 : (k : Int) < (l.length : Int) := by omega
      clear hx hc hb hbel hany
      by_cases h1 : x ≤ a
      · go_wp2_with fail
        go_ret
        exact Says.mk (by rw [slotOk, HX.out]; simp; intro h; omega) HB.out.2
      · by_cases h2 : n ≤ x
        · go_wp2_with fail
          go_ret
          exact Says.mk (by rw [slotOk, HX.out]; simp; intro _ h; omega) HB.out.2
        · go_wp2_with fail
          exact ⟨⟨k + 1, x, by omega, by go_num, rfl, HB.out.1, HB.out.2, by rw [HX.out]; simp; omega⟩, by simp [intOf]; omega⟩
    · have p0 : wr.cell? ⟨w.heap.size, 0, none⟩ = some (.slice ka l.length kc) := by rw [cell_of_row wr _ 0 _ _ _ hb]; rfl
      have p1 : wr.cell? ⟨w.heap.size, 1, none⟩ = some (.int .i64 lo) := by rw [cell_of_row wr _ 1 _ _ _ hb]; rfl
      have p2 : wr.cell? ⟨w.heap.size, 2, none⟩ = some (.int .i64 hi) := by rw [cell_of_row wr _ 2 _ _ _ hb]; rfl
      have HE := Lib.hid (show slotOk n ⟨l, lo, hi⟩ = slotRest ⟨l, lo, hi⟩ by rw [slotOk, rise_end HA.out (by omega)]; rfl)
      have hkl2 : ¬ (k : Int) < (l.length : Int) := by omega
      have HN : ¬ (0 < l.length ∧ 0 ≤ lo ∧ lo ≤ hi ∧ hi ≤ 1000) → slotOk n ⟨l, lo, hi⟩ = false := fun h => HE.out.trans (slotRest_no (s := ⟨l, lo, hi⟩) h)
      have HNN := Lib.hid HN
      clear HN hb hbel hany
      by_cases h1 : 0 < l.length
      · have h1' : (0 : Int) < (l.length : Int) := by omega
        by_cases h2 : 0 ≤ lo
        · by_cases h3 : lo ≤ hi
          · by_cases h4 : hi ≤ 1000
            · go_wp2_with fail
              go_ret
              exact Says.mk (by rw [HE.out]; simp [slotRest, h2, h3, h4]; omega) HB.out.2
            · go_wp2_with fail
              go_ret
              exact Says.mk (HNN.out (by omega)) HB.out.2
          · go_wp2_with fail
            go_ret
            exact Says.mk (HNN.out (by omega)) HB.out.2
        · go_wp2_with fail
          go_ret
          exact Says.mk (HNN.out (by omega)) HB.out.2
      · have h1' : ¬ (0 : Int) < (l.length : Int) := by omega
        go_wp2_with fail
        go_ret
        exact Says.mk (HNN.out (by omega)) HB.out.2
end Go.Proofs.Ytfdcopegkhofnaa
namespace Go.Proofs.Ytfdcopegkhofnaa
open Go.RowKit

def KindR (w : World) (n : Int) (l : List Sl) (i : Value) (wr : World) : Prop :=
  ∃ (k : Nat), k ≤ l.length ∧ i = .int .i64 k ∧ Below w.heap.size w wr ∧ l.all (slotOk n) = (l.drop k).all (slotOk n)

set_option maxRecDepth 100000 in
set_option maxHeartbeats 1000000 in
theorem kind_any (w : World) (v : Value) (x : Kd) (n : Int) (hv : KindV w v x) (hf : x.few) : Calls Try.prog 125 #[v, .int .i64 n] w (Says (kindOk n x) w) := by
  obtain ⟨sa, sc, rfl, hk⟩ := hv
  obtain ⟨nm, tx, l⟩ := x
  simp only at hk
  obtain ⟨hf1, hf2, hf3⟩ := hf
  simp only at hf1 hf2 hf3
  have HK := Lib.hid hk
  have HF := Lib.hid hf3
  clear hf3 hk
  have HN : ¬ (1 ≤ nm.size ∧ nm.size ≤ 40 ∧ l.length ≤ 8) → kindOk n ⟨nm, tx, l⟩ = false := fun h => by
    cases h2 : kindOk n ⟨nm, tx, l⟩
    · rfl
    · simp [kindOk, kindRest] at h2
      omega
  have HNN := Lib.hid HN
  clear HN
  by_cases h1 : nm.size < 1
  · have h1' : (nm.size : Int) < 1 := by omega
    go_enter Try.func125, Try.ntmps125
    go_wp2_with fail
    go_ret
    exact Says.mk (HNN.out (by omega)) (box_below _ _)
  · have h1' : ¬ (nm.size : Int) < 1 := by omega
    by_cases h2 : 40 < nm.size
    · have h2' : (40 : Int) < (nm.size : Int) := by omega
      go_enter Try.func125, Try.ntmps125
      go_wp2_with fail
      go_ret
      exact Says.mk (HNN.out (by omega)) (box_below _ _)
    · have h2' : ¬ (40 : Int) < (nm.size : Int) := by omega
      by_cases h3 : 8 < l.length
      · have h3' : (8 : Int) < (l.length : Int) := by omega
        go_enter Try.func125, Try.ntmps125
        go_wp2_with fail
        go_ret
        exact Says.mk (HNN.out (by omega)) (box_below _ _)
      · have h3' : ¬ (8 : Int) < (l.length : Int) := by omega
        have HY := Lib.hid (show kindOk n ⟨nm, tx, l⟩ = l.all (slotOk n) by simp only [kindOk, kindRest]; rw [decide_eq_true (by omega : 1 ≤ nm.size), decide_eq_true (by omega : nm.size ≤ 40), decide_eq_true (by omega : l.length ≤ 8)]; rfl)
        clear HNN
        go_enter Try.func125, Try.ntmps125
        go_wp2_with fail
        go_loopw [26] (fun i wr => KindR w n l i wr) (fun i _ => l.length - (intOf i).toNat)
        case atStart => exact ⟨0, Nat.zero_le _, rfl, box_below _ _, rfl⟩
        case round =>
          obtain ⟨k, hkl, rfl, hbel, hany⟩ := hrel
          have HB := Lib.hid hbel
          have HA := Lib.hid hany
          by_cases hlt : k < l.length
          · obtain ⟨s, hx⟩ : ∃ s, l[k]? = some s := ⟨l[k], List.getElem?_eq_getElem hlt⟩
            have hfs := HF.out s (List.mem_of_getElem? hx)
            obtain ⟨b, off, rfl, hblt, hc⟩ := (HK.out.below hbel) (by omega)
            obtain ⟨ka2, kc2, d0, d1, d2, hi⟩ := hc k s hx
            have HI := Lib.hid (And.intro hi hfs)
            obtain ⟨bb, hbb⟩ : ∃ bb, slotOk n s = bb := ⟨_, rfl⟩
            have HX := Lib.hid ((all_step HA.out hx).trans (by rw [hbb]))
            have HBB := Lib.hid hbb
            have hkl2 : (k : Int) < (l.length : Int) := by omega
            clear hx hc hi hfs hbb hbel hany
            cases bb
            · go_wp2_with (go_at_call 142; ((with_reducible refine (slot_any _ _ s n (slotV (HI.out.1.below (box_below _ _))) HI.out.2).mono ?_); rintro e w2 ⟨rfl, h2⟩; rw [HBB.out]; have H2 := Lib.hid ((box_below wr _).trans (h2.mono (box_below wr _).size)); clear h2))
              go_ret
              exact Says.mk (by rw [HY.out, HX.out]; rfl) (HB.out.trans (H2.out.mono HB.out.size))
            · go_wp2_with (go_at_call 142; ((with_reducible refine (slot_any _ _ s n (slotV (HI.out.1.below (box_below _ _))) HI.out.2).mono ?_); rintro e w2 ⟨rfl, h2⟩; rw [HBB.out]; have H2 := Lib.hid ((box_below wr _).trans (h2.mono (box_below wr _).size)); clear h2))
              exact ⟨⟨k + 1, by omega, by go_num, HB.out.trans (H2.out.mono HB.out.size), by rw [HX.out]; rfl⟩, by simp [intOf]; omega⟩
          · have HE := Lib.hid (all_end HA.out (by omega))
            have hkl2 : ¬ (k : Int) < (l.length : Int) := by omega
            clear hbel hany
            go_wp2_with fail
            go_ret
            exact Says.mk (HY.out.trans HE.out) HB.out
end Go.Proofs.Ytfdcopegkhofnaa
namespace Go.Proofs.Ytfdcopegkhofnaa
open Go.RowKit Go.Maps

theorem lawS : Keyed Try.prog 9 := string_keyed Try.underlying9
theorem make_hint (q : IntKind) (n : Int) (w : World) : (Instr.makeMap 108 (some (.int q n))).run Try.prog w = .ok (.map (some w.heap.size)) (w.alloc (.map #[] 0)) := by
  simp [Instr.makeMap, run_underlying Try.underlying108, asInt, asIntOf, Result.andThen]
theorem wf_nat {k : Nat} (h : k ≤ 1000000) : (Lit.int .i64 (k : Int)).wf = true := by
  simp only [Lit.wf, Bool.and_eq_true, decide_eq_true_eq]
  have e1 : IntKind.i64.min = -9223372036854775808 := rfl
  have e2 : IntKind.i64.max = 9223372036854775807 := rfl
  omega

theorem strKey (s : List UInt8) : WideAt.IsKeyLit (.string s) := True.intro
/-- What the map holds behind so many kinds. -/
structure PlOk (l : List Kd) (k : Nat) (D : DataW Value) : Prop where
  tidy : Tidy D
  le : Maps.size D ≤ k
  size : Maps.size D = k ↔ apart (l.take k) = true
  has : ∀ s, Maps.has D (.string s) = !fresh (l.take k) s
  find : apart (l.take k) = true → ∀ j x, j < k → l[j]? = some x → D.atKey (.string x.name.data.toList) (.lit (.int .i64 0)) = .lit (.int .i64 (j : Int))
theorem PlOk.start (l : List Kd) : PlOk l 0 (.map []) := ⟨tidy_empty, Nat.le_refl _, ⟨fun _ => rfl, fun _ => rfl⟩, fun _ => rfl, fun _ j _ h => by omega⟩
theorem PlOk.next {l : List Kd} {k : Nat} {D : DataW Value} {x : Kd} (h : PlOk l k D) (hx : l[k]? = some x) : PlOk l (k + 1) (D.put (.string x.name.data.toList) (.lit (.int .i64 (k : Int)))) := by
  have hs := size_put (k := .string x.name.data.toList) h.tidy (.lit (.int .i64 (k : Int)))
  have hh := h.has x.name.data.toList
  refine ⟨h.tidy.put (strKey _) _, ?_, ?_, fun s => ?_, fun ha j y hj hy => ?_⟩
  · rw [hs]; have := h.le; split <;> omega
  · rw [hs, apart_take hx, hh, Bool.and_eq_true, ← h.size]
    have := h.le
    cases fresh (l.take k) x.name.data.toList
    · simp; omega
    · simp
  · by_cases e : s = x.name.data.toList
    · subst e
      rw [has_put_same h.tidy.isMap (strKey _), fresh_take hx]
      simp
    · rw [has_put_other (by simpa using e), h.has, fresh_take hx]
      have : decide (x.name.data.toList ≠ s) = true := by simpa using fun h => e h.symm
      rw [this, Bool.and_true]
  · rw [apart_take hx, Bool.and_eq_true] at ha
    by_cases e : j = k
    · subst e
      rw [hx] at hy; cases hy
      exact atKey_put_same h.tidy.isMap (strKey _) _ _
    · have hjk : j < k := by omega
      have hne := fresh_at (k := j) ha.2 (by rw [List.getElem?_take, if_pos hjk]; exact hy)
      rw [atKey_put_other (by simpa using hne)]
      exact h.find ha.1 j y hjk hy

def OwnsP (w : World) (b n : Nat) (D : DataW Value) : Prop := w.ownsMap Try.prog 9 (plainElem Try.prog 3) b n D
def PlacesC (l : List Kd) (w : World) (e : Ending) (w' : World) : Prop := ∃ D b, e = .returned (.map (some b)) ∧ w.heap.size ≤ b ∧ OwnsP w' b l.length D ∧ Below w.heap.size w w' ∧ PlOk l l.length D
def PlacesR (w : World) (b : Nat) (l : List Kd) (i : Value) (wr : World) : Prop := ∃ (k : Nat) (D : DataW Value), k ≤ l.length ∧ i = .int .i64 k ∧ OwnsP wr b k D ∧ Below w.heap.size w wr ∧ PlOk l k D

set_option maxRecDepth 100000 in
set_option maxHeartbeats 1000000 in
theorem places_any (w : World) (a : Option Addr) (cap : Nat) (l : List Kd) (h : KindsAt w a l) (hl : l.length ≤ 1000000) (hf : ∀ k ∈ l, k.few) : Calls Try.prog 91 #[.slice a l.length cap] w (PlacesC l w) := by
  have hmm := make_hint
  have HK := Lib.hid h
  have HF := Lib.hid hf
  clear h hf
  go_enter Try.func91, Try.ntmps91
  go_wp2_with fail
  clear hmm
  go_loopw [11] (fun i wr => PlacesR w w.heap.size l i wr) (fun i _ => l.length - (intOf i).toNat)
  case atStart => exact ⟨0, .map [], Nat.zero_le _, rfl, World.ownsMap_made _ _ _ _, box_below _ _, PlOk.start l⟩
  case round =>
    obtain ⟨k, D, hkl, rfl, hown, hbel, hpl⟩ := hrel
    have HB := Lib.hid hbel
    have HP := Lib.hid hpl
    have HO := Lib.hid hown
    by_cases hlt : k < l.length
    · obtain ⟨x, hx⟩ : ∃ x, l[k]? = some x := ⟨l[k], List.getElem?_eq_getElem hlt⟩
      have hfx := (HF.out x (List.mem_of_getElem? hx)).1
      obtain ⟨b, off, rfl, hblt, hc⟩ := (HK.out.below hbel) (by omega)
      obtain ⟨sa, sc, c0, c1, c2, hs⟩ := hc k x hx
      have HX := Lib.hid (hpl.next hx)
      have HKEY := Lib.hid (WideMaps.keyOf_string_mk (P := Try.prog) Try.underlying9 (s := x.name) (by unfold maxLen; omega))
      have HW := Lib.hid (plainElem_int (H := Value) Try.underlying3 (wf_nat (k := k) (by omega)))
      have hkl2 : (k : Int) < (l.length : Int) := by omega
      clear hx hc hs hfx hown hbel hpl
      go_wp2_with (at_mapUpdate; refine wpList_mapUpdate_own _ rfl _ _ _ 108 rfl 9 3 lawS Try.underlying108 _ w.heap.size k _ rfl (World.ownsMap.alloc HO.out _) (by unfold maxLen; omega) _ _ _ rfl rfl HKEY.out _ [] HW.out ?_; intro w1 hown1 hgrow1; have HO1 := Lib.hid hown1; have HG1 := Lib.hid hgrow1; clear hown1 hgrow1)
      exact ⟨⟨k + 1, _, by omega, by go_num, HO1.out, (HB.out.alloc HB.out.size _).grown HG1.out (by have := HB.out.size; simp; omega) (fun j hj => by cases hj; exact Nat.le_refl _), HX.out⟩, by simp [intOf]; omega⟩
    · obtain rfl : k = l.length := by omega
      have hkl2 : ¬ (l.length : Int) < (l.length : Int) := by omega
      clear hown hbel hpl hlt
      go_wp2_with fail
      go_ret
      exact ⟨D, _, rfl, Nat.le_refl _, HO.out, HB.out, HP.out⟩
end Go.Proofs.Ytfdcopegkhofnaa
