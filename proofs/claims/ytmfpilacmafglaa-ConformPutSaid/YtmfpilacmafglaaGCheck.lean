/-
  The program's Check, Find and kindAt. No condition but that the grammar lies where it is said to lie.
-/
import Derived.Test.YtmfpilacmafglaaGMayBe
namespace Go.Proofs.Ytmfpilacmafglaa
open Go.RowKit Go.Maps

def errN (b : Bool) : Int := if b then 0 else 50
/-- What was boxed stays. -/
theorem boxed_cell {w w2 : World} {cs : Array Value} {t : TypeId} (h : Below (w.alloc (.cells cs t)).heap.size (w.alloc (.cells cs t)) w2) (j : Nat) (v : Value) (hv : cs[j]? = some v) : w2.cell? ⟨w.heap.size, j, none⟩ = some v := by
  rw [World.cell?_of_block (h.block w.heap.size (by simp)), cell_of_row _ _ j _ _ _ (heap_alloc_new w _)]; exact hv
def Pair (n : Int) (b : Bool) (w : World) (e : Ending) (w' : World) : Prop := e = .returned (.tuple #[.int .i64 n, .bool b]) ∧ Below w.heap.size w w'

theorem Pair.mk {n n' : Int} {b b' : Bool} {w w' : World} (h : n = n') (h2 : b = b') (hb : Below w.heap.size w w') : Pair n b w (.returned (.tuple #[.int .i64 n', .bool b'])) w' := ⟨by rw [h, h2], hb⟩

set_option maxRecDepth 100000 in
set_option maxHeartbeats 1000000 in
theorem check_any (w : World) (v : Value) (g : Gr) (hv : GrV w v g) (hf : g.few) : Calls Try.prog 29 #[v] w (Counts (errN (grOk g)) w) := by
  obtain ⟨ka, kc, rfl, hk⟩ := hv
  obtain ⟨l, root⟩ := g
  simp only at hk
  have HF := Lib.hid hf
  have HK := Lib.hid hk
  obtain ⟨bb, hbb⟩ : ∃ bb, grOk ⟨l, root⟩ = bb := ⟨_, rfl⟩
  rw [hbb]
  have HBB := Lib.hid hbb
  clear hf hk hbb
  go_enter Try.func29, Try.ntmps29
  cases bb
  · go_wp2_with (go_at_call 65; ((with_reducible refine (mayBe_any _ _ _ (grV (HK.out.below (box_below _ _))) HF.out).mono ?_); rintro e w2 ⟨rfl, h2⟩; rw [HBB.out]; have H2 := Lib.hid ((box_below w _).trans (h2.mono (box_below w _).size)); clear h2))
    go_ret
    exact ⟨rfl, H2.out⟩
  · go_wp2_with (go_at_call 65; ((with_reducible refine (mayBe_any _ _ _ (grV (HK.out.below (box_below _ _))) HF.out).mono ?_); rintro e w2 ⟨rfl, h2⟩; rw [HBB.out]; have H2 := Lib.hid ((box_below w _).trans (h2.mono (box_below w _).size)); clear h2))
    go_ret
    exact ⟨rfl, H2.out⟩

/-- What Find tells. -/
def findV (g : Gr) (s : List UInt8) : Int × Bool := if grOk g then match findN g.kinds s with
  | some i => ((i : Int), true)
  | none => (0, false) else (0, false)
theorem findN_some {l : List Kd} {s : List UInt8} {i : Nat} (h : findN l s = some i) : ∃ x, l[i]? = some x ∧ x.name.data.toList = s ∧ i < l.length := by
  obtain ⟨hi, h1, _⟩ := List.findIdx?_eq_some_iff_getElem.1 h
  exact ⟨l[i], List.getElem?_eq_getElem hi, by simpa using h1, hi⟩
theorem findN_none {l : List Kd} {s : List UInt8} (h : findN l s = none) : fresh l s = true := by
  rw [findN, List.findIdx?_eq_none_iff] at h
  rw [fresh, List.all_eq_true]
  intro x hx
  simpa using h x hx
theorem fresh_not {l : List Kd} {s : List UInt8} {i : Nat} {x : Kd} (hx : l[i]? = some x) (h : x.name.data.toList = s) : fresh l s = false := by
  cases hf : fresh l s
  · rfl
  · exact absurd h (fresh_at hf hx)
theorem find_is {g : Gr} {s : List UInt8} {D : DataW Value} (hg : grOk g = true) (h : PlOk g.kinds g.kinds.length D) {c : Int} (hc : D.atKey (.string s) (.lit (.int .i64 0)) = .lit (.int .i64 c)) : (c, Maps.has D (.string s)) = findV g s := by
  have hap : apart g.kinds = true := by simp [grOk] at hg; exact hg.2
  have hh := h.has s
  rw [List.take_of_length_le (Nat.le_refl _)] at hh
  rw [findV, if_pos hg]
  cases hf : findN g.kinds s with
  | none =>
    rw [findN_none hf] at hh
    rw [atKey_of_not_has hh] at hc
    cases hc
    rw [hh]; rfl
  | some i =>
    obtain ⟨x, hx, hn, hi⟩ := findN_some hf
    have ha := h.find (by rw [List.take_of_length_le (Nat.le_refl _)]; exact hap) i x hi hx
    rw [hn, hc] at ha
    cases ha
    rw [hh, fresh_not hx hn]; rfl

set_option maxRecDepth 100000 in
set_option maxHeartbeats 1000000 in
theorem find_any (w : World) (v : Value) (g : Gr) (s : ByteArray) (hv : GrV w v g) (hf : g.few) (hs : s.size ≤ 1000000) : Calls Try.prog 27 #[v, .string s] w (Pair (findV g s.data.toList).1 (findV g s.data.toList).2 w) := by
  obtain ⟨ka, kc, rfl, hk⟩ := hv
  obtain ⟨l, root⟩ := g
  simp only at hk
  have hfl : l.length ≤ 1000000 := hf.1
  have HF := Lib.hid hf
  have HF2 := Lib.hid (show ∀ k ∈ l, k.few from hf.2)
  have HK := Lib.hid hk
  obtain ⟨bb, hbb⟩ : ∃ bb, grOk ⟨l, root⟩ = bb := ⟨_, rfl⟩
  have HBB := Lib.hid hbb
  obtain ⟨fn, hfn⟩ : ∃ fn, findV ⟨l, root⟩ s.data.toList = fn := ⟨_, rfl⟩
  rw [hfn]
  have HFN := Lib.hid hfn
  have HKEY := Lib.hid (WideMaps.keyOf_string_mk (P := Try.prog) Try.underlying9 (s := s) (by unfold maxLen; omega))
  clear hf hk hbb hfn
  go_enter Try.func27, Try.ntmps27
  cases bb
  · go_wp2_with (go_at_call 65; ((with_reducible refine (mayBe_any _ _ _ (grV (HK.out.below (box_below _ _))) HF.out).mono ?_); rintro e w2 ⟨rfl, h2⟩; rw [HBB.out]; have H2 := Lib.hid ((box_below w _).trans (h2.mono (box_below w _).size)); clear h2))
    go_ret2
    exact Pair.mk (by rw [← HFN.out, findV, if_neg (by rw [HBB.out]; decide)]) (by rw [← HFN.out, findV, if_neg (by rw [HBB.out]; decide)]) H2.out
  · go_wp2_with (first
      | (go_at_call 65; ((with_reducible refine (mayBe_any _ _ _ (grV (HK.out.below (box_below _ _))) HF.out).mono ?_); rintro e w2 ⟨rfl, h2⟩; rw [HBB.out]; have H2 := Lib.hid h2; have HB := Lib.hid ((box_below w _).trans (h2.mono (box_below w _).size)); have HKW := Lib.hid (HK.out.below HB.out); have p0 := boxed_cell h2 0 _ rfl; clear h2))
      | (go_at_call 66; ((with_reducible refine (places_any _ _ _ l HKW.out hfl HF2.out).mono ?_); rintro e w3 ⟨D, mb, rfl, hmb, hown, h3, hpl⟩; have H3 := Lib.hid h3; have HP := Lib.hid hpl; have HO := Lib.hid hown; clear h3 hpl hown))
      | (at_lookup; (refine wpList_lookup_own_ok_int _ rfl _ _ 89 rfl 9 3 .i64 lawS Try.underlying89 Try.underlying3 (zeroI _) mb _ D rfl HO.out _ _ rfl HKEY.out ?_); intro c hat hwc; have HAT := Lib.hid hat; obtain ⟨hb, hhb⟩ : ∃ hb, hb = Maps.has D (.string s.data.toList) := ⟨_, rfl⟩; rw [← hhb]; have HHB := Lib.hid hhb; clear hat hwc hhb))
    go_ret2
    have hfi := find_is HBB.out HP.out HAT.out
    rw [← HHB.out, HFN.out] at hfi
    exact Pair.mk (by rw [← hfi]) (by rw [← hfi]) (HB.out.trans (H3.out.mono HB.out.size))

/-- That kind, if there is one, and the grammar may be. -/
def kindOf (g : Gr) (n : Int) : Option Kd := if grOk g = true ∧ 0 ≤ n then g.kinds[n.toNat]? else none
def NoKind (w : World) (e : Ending) (w' : World) : Prop := e = .returned (.tuple #[.agg #[.string ⟨#[]⟩, .bool false, .slice none 0 0], .bool false]) ∧ Below w.heap.size w w'
def AKind (k : Kd) (w : World) (e : Ending) (w' : World) : Prop := ∃ sa sc, e = .returned (.tuple #[.agg #[.string k.name, .bool k.text, .slice sa k.slots.length sc], .bool true]) ∧ Below w.heap.size w w' ∧ SlotsAt w' sa k.slots
theorem two_boxes (w : World) (o o' : Obj) : Below w.heap.size w ((w.alloc o).alloc o') := ((Below.refl _ _).alloc (Nat.le_refl _) _).alloc (by simp) _
/-- Of two boxes the second stays. -/
theorem boxed2 {w w2 : World} {o : Obj} {cs : Array Value} {t : TypeId} (h : Below ((w.alloc o).alloc (.cells cs t)).heap.size ((w.alloc o).alloc (.cells cs t)) w2) (j : Nat) (v : Value) (hv : cs[j]? = some v) : w2.cell? ⟨w.heap.size + 1, j, none⟩ = some v := by
  have := boxed_cell h j v hv
  simpa using this
theorem boxed2_free {w w2 : World} {o : Obj} {cs : Array Value} {t : TypeId} (h : Below ((w.alloc o).alloc (.cells cs t)).heap.size ((w.alloc o).alloc (.cells cs t)) w2) (j : Nat) : w2.frozen? ⟨w.heap.size + 1, j, none⟩ = false := by
  have hb : w2.heap[(w.alloc o).heap.size]? = some (.cells cs t (0, 0)) := (h.block _ (by simp)).trans (heap_alloc_new _ _)
  rw [World.size_alloc] at hb
  exact frozen_of_row w2 _ j _ _ hb
theorem boxed2_heap {w w2 : World} {o : Obj} {cs : Array Value} {t : TypeId} (h : Below ((w.alloc o).alloc (.cells cs t)).heap.size ((w.alloc o).alloc (.cells cs t)) w2) : w2.heap[w.heap.size + 1]? = some (.cells cs t (0, 0)) := by
  have hb : w2.heap[(w.alloc o).heap.size]? = some (.cells cs t (0, 0)) := (h.block _ (by simp)).trans (heap_alloc_new _ _)
  rwa [World.size_alloc] at hb
theorem boxed2_lt {w w2 : World} {o o' : Obj} (h : Below ((w.alloc o).alloc o').heap.size ((w.alloc o).alloc o') w2) : w.heap.size + 1 < w2.heap.size := by
  have := h.size
  simp at this
  omega
theorem boxed1 {w w2 : World} {o : Obj} {cs : Array Value} {t : TypeId} (h : Below ((w.alloc (.cells cs t)).alloc o).heap.size ((w.alloc (.cells cs t)).alloc o) w2) (j : Nat) (v : Value) (hv : cs[j]? = some v) : w2.cell? ⟨w.heap.size, j, none⟩ = some v := by
  rw [World.cell?_of_block (h.block w.heap.size (by simp; omega)), World.cell?_of_block (Below.heap_alloc _ _ _ (by simp)), cell_of_row _ _ j _ _ _ (heap_alloc_new w _)]; exact hv
end Go.Proofs.Ytmfpilacmafglaa
