/-
  The program's mayBe, Check and kindAt. No condition but that the grammar lies where it is said to lie.
  The program's Check, Find and kindAt. No condition but that the grammar lies where it is said to lie.
  The program's kindAt, Text and Least. No condition but that the grammar lies where it is said to lie.
-/
import Derived.Test.YtfdcopegkhofnaaGPlacesQk
import Derived.Test.YtfdcopegkhofnaaVWalkQk
namespace Go.Proofs.Ytfdcopegkhofnaa
open Go.RowKit Go.Maps

def MayBeR (w : World) (c : Array Value) (n : Int) (l : List Kd) (i : Value) (wr : World) : Prop :=
  ∃ (k : Nat), k ≤ l.length ∧ i = .int .i64 k ∧ wr.heap[w.heap.size]? = some (.cells c 55 (0, 0)) ∧ Below w.heap.size w wr ∧ l.all (kindOk n) = (l.drop k).all (kindOk n)
theorem grOk_no {g : Gr} (h : ¬ (g.kinds.length ≤ 32 ∧ 0 ≤ g.root ∧ g.root < (g.kinds.length : Int))) : grOk g = false := by
  cases h2 : grOk g
  · rfl
  · simp [grOk, grRest] at h2
    omega
theorem grOk_rest {g : Gr} (h1 : g.kinds.length ≤ 32) (h2 : 0 ≤ g.root) (h3 : g.root < (g.kinds.length : Int)) : grOk g = (g.kinds.all (kindOk g.kinds.length) && apart g.kinds) := by
  simp only [grOk, grRest]; rw [decide_eq_true h1, decide_eq_true h2, decide_eq_true h3]; rfl

set_option maxRecDepth 100000 in
set_option maxHeartbeats 1000000 in
theorem mayBe_any (w : World) (v : Value) (g : Gr) (hv : GrV w v g) (hf : g.few) : Calls Try.prog 90 #[v] w (Says (grOk g) w) := by
  obtain ⟨ka, kc, rfl, hk⟩ := hv
  obtain ⟨l, root⟩ := g
  simp only at hk ⊢
  have hfl : l.length ≤ 1000000 := hf.1
  have HF := Lib.hid hf.2
  have HK := Lib.hid hk
  clear hf hk
  have HN := Lib.hid (fun (h : ¬ (l.length ≤ 32 ∧ 0 ≤ root ∧ root < (l.length : Int))) => grOk_no (g := ⟨l, root⟩) h)
  by_cases h1 : 32 < l.length
  · have h1' : (32 : Int) < (l.length : Int) := by omega
    go_enter Try.func90, Try.ntmps90
    go_wp2_with fail
    go_ret
    exact Says.mk (HN.out (by omega)) (box_below _ _)
  · have h1' : ¬ (32 : Int) < (l.length : Int) := by omega
    by_cases h2 : root < 0
    · go_enter Try.func90, Try.ntmps90
      go_wp2_with fail
      go_ret
      exact Says.mk (HN.out (by omega)) (box_below _ _)
    · by_cases h3 : (l.length : Int) ≤ root
      · go_enter Try.func90, Try.ntmps90
        go_wp2_with fail
        go_ret
        exact Says.mk (HN.out (by omega)) (box_below _ _)
      · have HY := Lib.hid (grOk_rest (g := ⟨l, root⟩) (by simp only; omega) (by simp only; omega) (by simp only; omega))
        clear HN
        go_enter Try.func90, Try.ntmps90
        go_wp2_with fail
        go_loopw [25] (fun i wr => MayBeR w #[.slice ka l.length kc, .int .i64 root] l.length l i wr) (fun i _ => l.length - (intOf i).toNat)
        case atStart => exact ⟨0, Nat.zero_le _, rfl, heap_alloc_new w _, box_below _ _, rfl⟩
        case round =>
          obtain ⟨k, hkl, rfl, hb, hbel, hany⟩ := hrel
          have HB := Lib.hid (And.intro hb hbel)
          have HA := Lib.hid hany
          by_cases hlt : k < l.length
          · obtain ⟨x, hx⟩ : ∃ x, l[k]? = some x := ⟨l[k], List.getElem?_eq_getElem hlt⟩
            have hfs := HF.out x (List.mem_of_getElem? hx)
            obtain ⟨b, off, rfl, hblt, hc⟩ := (HK.out.below hbel) (by omega)
            obtain ⟨sa, sc, d0, d1, d2, hi⟩ := hc k x hx
            have HI := Lib.hid (And.intro hi hfs)
            obtain ⟨bb, hbb⟩ : ∃ bb, kindOk (l.length : Int) x = bb := ⟨_, rfl⟩
            have HX := Lib.hid ((all_step HA.out hx).trans (by rw [hbb]))
            have HBB := Lib.hid hbb
            have hkl2 : (k : Int) < (l.length : Int) := by omega
            clear hx hc hi hfs hbb hb hbel hany
            cases bb
            · go_wp2_with (go_at_call 125; ((with_reducible refine (kind_any _ _ x _ (kindV (HI.out.1.below (box_below _ _))) HI.out.2).mono ?_); rintro e w2 ⟨rfl, h2⟩; rw [HBB.out]; have H2 := Lib.hid ((box_below wr _).trans (h2.mono (box_below wr _).size)); clear h2))
              go_ret
              exact Says.mk (by rw [HY.out, HX.out]; rfl) (HB.out.2.trans (H2.out.mono HB.out.2.size))
            · go_wp2_with (go_at_call 125; ((with_reducible refine (kind_any _ _ x _ (kindV (HI.out.1.below (box_below _ _))) HI.out.2).mono ?_); rintro e w2 ⟨rfl, h2⟩; rw [HBB.out]; have H2 := Lib.hid ((box_below wr _).trans (h2.mono (box_below wr _).size)); clear h2))
              exact ⟨⟨k + 1, by omega, by go_num, (H2.out.block _ (lt_of_some' HB.out.1)).trans HB.out.1, HB.out.2.trans (H2.out.mono HB.out.2.size), by rw [HX.out]; rfl⟩, by simp [intOf]; omega⟩
          · have HE := Lib.hid (all_end HA.out (by omega))
            have p0 : wr.cell? ⟨w.heap.size, 0, none⟩ = some (.slice ka l.length kc) := by rw [cell_of_row wr _ 0 _ _ _ hb]; rfl
            have hkl2 : ¬ (k : Int) < (l.length : Int) := by omega
            have HKW := Lib.hid (HK.out.below hbel)
            clear hb hbel hany
            go_wp2_with (first
              | (go_at_call 91; ((with_reducible refine (places_any _ _ _ l HKW.out hfl HF.out).mono ?_); rintro e w2 ⟨D, mb, rfl, hmb, hown, h2, hpl⟩; have H2 := Lib.hid h2; have HP := Lib.hid hpl; have HO := Lib.hid hown; clear h2 hpl hown))
              | (at_len; (refine wpList_len_own _ rfl _ 108 rfl 9 3 Try.underlying108 _ mb _ D rfl HO.out ?_); obtain ⟨sz, hsz⟩ : ∃ sz, sz = Maps.size D := ⟨_, rfl⟩; rw [← hsz]; have HZ := Lib.hid hsz; clear hsz))
            go_ret
            refine Says.mk ?_ (HB.out.2.trans (H2.out.mono HB.out.2.size))
            have hall := HP.out.size
            rw [List.take_of_length_le (Nat.le_refl _), ← HZ.out] at hall
            rw [HY.out, HE.out]
            cases hap : apart l
            · have : ¬ sz = l.length := fun h => by rw [hall.1 h] at hap; cases hap
              simp; omega
            · have := hall.2 hap
              simp; omega
end Go.Proofs.Ytfdcopegkhofnaa
namespace Go.Proofs.Ytfdcopegkhofnaa
open Go.RowKit Go.Maps

def errN (b : Bool) : Int := if b then 0 else 50
/-- What was boxed stays. -/
theorem boxed_cell {w w2 : World} {cs : Array Value} {t : TypeId} (h : Below (w.alloc (.cells cs t)).heap.size (w.alloc (.cells cs t)) w2) (j : Nat) (v : Value) (hv : cs[j]? = some v) : w2.cell? ⟨w.heap.size, j, none⟩ = some v := by
  rw [World.cell?_of_block (h.block w.heap.size (by simp)), cell_of_row _ _ j _ _ _ (heap_alloc_new w _)]; exact hv
def Pair (n : Int) (b : Bool) (w : World) (e : Ending) (w' : World) : Prop := e = .returned (.tuple #[.int .i64 n, .bool b]) ∧ Below w.heap.size w w'

theorem Pair.mk {n n' : Int} {b b' : Bool} {w w' : World} (h : n = n') (h2 : b = b') (hb : Below w.heap.size w w') : Pair n b w (.returned (.tuple #[.int .i64 n', .bool b'])) w' := ⟨by rw [h, h2], hb⟩

set_option maxRecDepth 100000 in
set_option maxHeartbeats 1000000 in
theorem check_any (w : World) (v : Value) (g : Gr) (hv : GrV w v g) (hf : g.few) : Calls Try.prog 33 #[v] w (Counts (errN (grOk g)) w) := by
  obtain ⟨ka, kc, rfl, hk⟩ := hv
  obtain ⟨l, root⟩ := g
  simp only at hk
  have HF := Lib.hid hf
  have HK := Lib.hid hk
  obtain ⟨bb, hbb⟩ : ∃ bb, grOk ⟨l, root⟩ = bb := ⟨_, rfl⟩
  rw [hbb]
  have HBB := Lib.hid hbb
  clear hf hk hbb
  go_enter Try.func33, Try.ntmps33
  cases bb
  · go_wp2_with (go_at_call 90; ((with_reducible refine (mayBe_any _ _ _ (grV (HK.out.below (box_below _ _))) HF.out).mono ?_); rintro e w2 ⟨rfl, h2⟩; rw [HBB.out]; have H2 := Lib.hid ((box_below w _).trans (h2.mono (box_below w _).size)); clear h2))
    go_ret
    exact ⟨rfl, H2.out⟩
  · go_wp2_with (go_at_call 90; ((with_reducible refine (mayBe_any _ _ _ (grV (HK.out.below (box_below _ _))) HF.out).mono ?_); rintro e w2 ⟨rfl, h2⟩; rw [HBB.out]; have H2 := Lib.hid ((box_below w _).trans (h2.mono (box_below w _).size)); clear h2))
    go_ret
    exact ⟨rfl, H2.out⟩

/-- What Find tells. -/
def findV (g : Gr) (s : List UInt8) : Int × Bool := if grOk g then match findN g.kinds s with
  | some i => ((i : Int), true)
  | none => (0, false) else (0, false)
/-- That kind, if there is one, and the grammar may be. -/
def kindOf (g : Gr) (n : Int) : Option Kd := if grOk g = true ∧ 0 ≤ n then g.kinds[n.toNat]? else none
def NoKind (w : World) (e : Ending) (w' : World) : Prop := e = .returned (.tuple #[.agg #[.string ⟨#[]⟩, .bool false, .slice none 0 0], .bool false]) ∧ Below w.heap.size w w'
def AKind (k : Kd) (w : World) (e : Ending) (w' : World) : Prop := ∃ sa sc, e = .returned (.tuple #[.agg #[.string k.name, .bool k.text, .slice sa k.slots.length sc], .bool true]) ∧ Below w.heap.size w w' ∧ SlotsAt w' sa k.slots
/-- Of two boxes the second stays. -/
theorem boxed2 {w w2 : World} {o : Obj} {cs : Array Value} {t : TypeId} (h : Below ((w.alloc o).alloc (.cells cs t)).heap.size ((w.alloc o).alloc (.cells cs t)) w2) (j : Nat) (v : Value) (hv : cs[j]? = some v) : w2.cell? ⟨w.heap.size + 1, j, none⟩ = some v := by
  have := boxed_cell h j v hv
  simpa using this
theorem boxed2_free {w w2 : World} {o : Obj} {cs : Array Value} {t : TypeId} (h : Below ((w.alloc o).alloc (.cells cs t)).heap.size ((w.alloc o).alloc (.cells cs t)) w2) (j : Nat) : w2.frozen? ⟨w.heap.size + 1, j, none⟩ = false := by
  have hb : w2.heap[(w.alloc o).heap.size]? = some (.cells cs t (0, 0)) := (h.block _ (by simp)).trans (heap_alloc_new _ _)
  rw [World.size_alloc] at hb
  exact frozen_of_row w2 _ j _ _ hb
theorem boxed2_heap {w w2 : World} {o : Obj} {cs : Array Value} {t : TypeId} (h : Below ((w.alloc o).alloc (.cells cs t)).heap.size ((w.alloc o).alloc (.cells cs t)) w2) : w2.heap[w.heap.size + 1]? = some (.cells cs t (0, 0)) := by
  have hb : w2.heap[(w.alloc o).heap.size]? = some (.cells cs t (0, 0)) := (h.block _ (by simp)).trans (heap_alloc_new _ _)
  rwa [World.size_alloc] at hb
theorem boxed2_lt {w w2 : World} {o o' : Obj} (h : Below ((w.alloc o).alloc o').heap.size ((w.alloc o).alloc o') w2) : w.heap.size + 1 < w2.heap.size := by
  have := h.size
  simp at this
  omega
theorem boxed1 {w w2 : World} {o : Obj} {cs : Array Value} {t : TypeId} (h : Below ((w.alloc (.cells cs t)).alloc o).heap.size ((w.alloc (.cells cs t)).alloc o) w2) (j : Nat) (v : Value) (hv : cs[j]? = some v) : w2.cell? ⟨w.heap.size, j, none⟩ = some v := by
  rw [World.cell?_of_block (h.block w.heap.size (by simp; omega)), World.cell?_of_block (Below.heap_alloc _ _ _ (by simp)), cell_of_row _ _ j _ _ _ (heap_alloc_new w _)]; exact hv
end Go.Proofs.Ytfdcopegkhofnaa
namespace Go.Proofs.Ytfdcopegkhofnaa
open Go.RowKit Go.Maps

theorem NoKind.mk {w w' : World} (h : Below w.heap.size w w') : NoKind w (.returned (.tuple #[.agg #[.string ⟨#[]⟩, .bool false, .slice none 0 0], .bool false])) w' := ⟨rfl, h⟩
theorem kindOf_none {g : Gr} {n : Int} (h : kindOf g n = none) (hg : grOk g = true) : ¬ (0 ≤ n ∧ n < (g.kinds.length : Int)) := fun ⟨h1, h2⟩ => by
  rw [kindOf, if_pos ⟨hg, h1⟩, List.getElem?_eq_none_iff] at h
  omega
theorem kindOf_some {g : Gr} {n : Int} {k : Kd} (h : kindOf g n = some k) : grOk g = true ∧ ∃ j : Nat, n = (j : Int) ∧ j < g.kinds.length ∧ g.kinds[j]? = some k := by
  unfold kindOf at h
  split at h
  · rename_i h1
    have := (List.getElem?_eq_some_iff.1 h).1
    exact ⟨h1.1, n.toNat, by omega, this, h⟩
  · cases h
/-- A block of three cells, all three of which are written. -/
theorem set3 {w : World} {b : Nat} {x0 x1 x2 : Value} {t : TypeId} (h : w.heap[b]? = some (.cells #[x0, x1, x2] t (0, 0))) (y0 y1 y2 : Value) :
    ∃ W, W = ((w.setCell ⟨b, 0, none⟩ y0).setCell ⟨b, 1, none⟩ y1).setCell ⟨b, 2, none⟩ y2 ∧ W.heap[b]? = some (.cells #[y0, y1, y2] t (0, 0)) ∧ Below b w W := by
  have b0 : Below b w (w.setCell ⟨b, 0, none⟩ y0) := (Below.refl b w).setCell (p := ⟨b, 0, none⟩) (Nat.le_refl b) y0
  have b1 : Below b w ((w.setCell ⟨b, 0, none⟩ y0).setCell ⟨b, 1, none⟩ y1) := b0.setCell (p := ⟨b, 1, none⟩) (Nat.le_refl b) y1
  refine ⟨_, rfl, ?_, b1.setCell (p := ⟨b, 2, none⟩) (Nat.le_refl b) y2⟩
  rw [heap_setCell_same _ b 2 _ _ y2 (heap_setCell_same _ b 1 _ _ y1 (heap_setCell_same w b 0 _ _ y0 h))]
  rfl
theorem row3 {w : World} {b : Nat} {x0 x1 x2 : Value} {t : TypeId} (h : w.heap[b]? = some (.cells #[x0, x1, x2] t (0, 0))) : w.cell? ⟨b, 0, none⟩ = some x0 ∧ w.cell? ⟨b, 1, none⟩ = some x1 ∧ w.cell? ⟨b, 2, none⟩ = some x2 :=
  ⟨by rw [cell_of_row w b 0 _ _ _ h]; rfl, by rw [cell_of_row w b 1 _ _ _ h]; rfl, by rw [cell_of_row w b 2 _ _ _ h]; rfl⟩

set_option maxRecDepth 100000 in
set_option maxHeartbeats 1000000 in
theorem kindAt_no (w : World) (v : Value) (g : Gr) (n : Int) (hv : GrV w v g) (hf : g.few) (hn : kindOf g n = none) : Calls Try.prog 93 #[v, .int .i64 n] w (NoKind w) := by
  obtain ⟨ka, kc, rfl, hk⟩ := hv
  obtain ⟨l, root⟩ := g
  simp only at hk
  have hfl : l.length ≤ 1000000 := hf.1
  have HF := Lib.hid hf
  have HK := Lib.hid hk
  have HN := Lib.hid (kindOf_none hn)
  clear hf hk hn
  by_cases h1 : n < 0
  · go_enter Try.func93, Try.ntmps93
    go_wp2_with fail
    exact bodyPost_ret (v := .tuple #[.agg #[.string ⟨#[]⟩, .bool false, .slice none 0 0], .bool false]) (by simp [results, Try.results93, go_sem]) rfl (NoKind.mk (two_boxes _ _ _))
  · by_cases h2 : (l.length : Int) ≤ n
    · go_enter Try.func93, Try.ntmps93
      go_wp2_with fail
      exact bodyPost_ret (v := .tuple #[.agg #[.string ⟨#[]⟩, .bool false, .slice none 0 0], .bool false]) (by simp [results, Try.results93, go_sem]) rfl (NoKind.mk (two_boxes _ _ _))
    · have HG := Lib.hid (show grOk ⟨l, root⟩ = false by
        cases h : grOk ⟨l, root⟩
        · rfl
        · exact absurd ⟨by omega, by show n < (l.length : Int); omega⟩ (HN.out h))
      go_enter Try.func93, Try.ntmps93
      go_wp2_with (go_at_call 90; ((with_reducible refine (mayBe_any _ _ _ (grV (HK.out.below (two_boxes _ _ _))) HF.out).mono ?_); rintro e w2 ⟨rfl, h2⟩; rw [HG.out]; have H2 := Lib.hid h2; have p0 := boxed2 h2 0 _ rfl; have p1 := boxed2 h2 1 _ rfl; have p2 := boxed2 h2 2 _ rfl; have q0 := boxed2_free h2; have hz : w.heap.size + 1 < w2.heap.size := boxed2_lt h2; clear h2))
      obtain ⟨W, hW, hWb, hWB⟩ := set3 (boxed2_heap H2.out) (.string { data := #[] }) (.bool false) (.slice none 0 0)
      rw [← hW]
      obtain ⟨e0, e1, e2⟩ := row3 hWb
      refine bodyPost_ret (v := .tuple #[.agg #[.string ⟨#[]⟩, .bool false, .slice none 0 0], .bool false]) (by simp [results, Try.results93, go_sem, e0, e1, e2]) rfl (NoKind.mk ?_)
      exact ((two_boxes w _ _).trans (H2.out.mono (two_boxes w _ _).size)).trans (hWB.mono (Nat.le_succ _))

set_option maxRecDepth 100000 in
set_option maxHeartbeats 1000000 in
theorem kindAt_yes (w : World) (v : Value) (g : Gr) (n : Int) (k : Kd) (hv : GrV w v g) (hf : g.few) (hn : kindOf g n = some k) : Calls Try.prog 93 #[v, .int .i64 n] w (AKind k w) := by
  obtain ⟨ka, kc, rfl, hk⟩ := hv
  obtain ⟨l, root⟩ := g
  simp only at hk
  have hfl : l.length ≤ 1000000 := hf.1
  obtain ⟨hg, j, rfl, hj, hx⟩ := kindOf_some hn
  simp only at hj hx
  obtain ⟨b, off, rfl, hblt, hc⟩ := hk (by omega)
  obtain ⟨sa, sc, c0, c1, c2, hs⟩ := hc j k hx
  have HF := Lib.hid hf
  have HK := Lib.hid hk
  have HG := Lib.hid hg
  have HS := Lib.hid hs
  have HC := Lib.hid (And.intro c0 (And.intro c1 c2))
  have hj2 : (j : Int) < (l.length : Int) := by omega
  clear hf hk hn hg hx hc hs c0 c1 c2
  go_enter Try.func93, Try.ntmps93
  go_wp2_with (go_at_call 90; ((with_reducible refine (mayBe_any _ _ _ (grV (HK.out.below (two_boxes _ _ _))) HF.out).mono ?_); rintro e w2 ⟨rfl, h2⟩; rw [HG.out]; have H2 := Lib.hid h2; have HB := Lib.hid ((two_boxes w _ _).trans (h2.mono (two_boxes w _ _).size)); have p0 := boxed1 h2 0 _ rfl; have q0 := boxed2 h2 0 _ rfl; have q1 := boxed2 h2 1 _ rfl; have q2 := boxed2 h2 2 _ rfl; have q3 := boxed2_free h2; have hz : w.heap.size + 1 < w2.heap.size := boxed2_lt h2; have d0 := (HB.out.cell hblt).trans HC.out.1; have d1 := (HB.out.cell hblt).trans HC.out.2.1; have d2 := (HB.out.cell hblt).trans HC.out.2.2; clear h2))
  obtain ⟨W, hW, hWb, hWB⟩ := set3 (boxed2_heap H2.out) (.string k.name) (.bool k.text) (.slice sa k.slots.length sc)
  rw [← hW]
  obtain ⟨e0, e1, e2⟩ := row3 hWb
  have hBW := HB.out.trans (hWB.mono (Nat.le_succ _))
  exact bodyPost_ret (v := .tuple #[.agg #[.string k.name, .bool k.text, .slice sa k.slots.length sc], .bool true]) (by simp [results, Try.results93, go_sem, e0, e1, e2]) rfl ⟨sa, sc, rfl, hBW, HS.out.below hBW⟩
end Go.Proofs.Ytfdcopegkhofnaa
