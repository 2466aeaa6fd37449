/-
  hold: a row of steps, held one by one. No condition but that the row is not too long.
-/
import Derived.Deep.OwnRows
import Derived.Deep.LoopGhost
import Derived.Test.YtpbjncljecfaeaaNToldQf
namespace Go.Proofs.Ytpbjncljecfaeaa
open Go.RowKit Go.Shelf
set_option linter.unusedVariables false
set_option linter.unusedSimpArgs false

def hptr (b : Nat) : Value := .pointer (some ⟨b, 0, none⟩)
/-- A step as it came. -/
def HV.new (x : SV) : HV := ⟨x, [], none, 0, none⟩
theorem Try.infoH : (Try.prog.info? 43).map (fun i => (i.zero, i.size, i.bytes)) = some (some (.pointer none), 1, 8) := by kernel_rfl
theorem held_new {w V : World} {hb : Nat} {x : SV} (hl : LiesI w x.s.sub.kids x.a x.c) (hb0 : w.heap.size ≤ hb) (hw : w.heap.size ≤ V.heap.size) (hc : V.heap[hb]? = some (.cells #[.int .i8 x.s.op, .int .i64 x.s.id, .int .i64 x.s.par, .int .i64 x.s.at_, .string x.s.tx, .int .i64 x.s.sub.id, .int .i64 x.s.sub.kind, .string x.s.sub.text, .slice x.a (foLen x.s.sub.kids) x.c, .map none, .slice none 0 0] 48 (0, 0))) : HeldAt w V hb (HV.new x) :=
  ⟨hc, hl, World.ownsRow_nil _ _ _ _, True.intro, hb0, fun m h => by cases h⟩
/-- While steps are held. -/
structure HoI (w : World) (n : Nat) (vs : List SV) (k : Nat) (hbs : List Nat) (V : World) : Prop where
  row : ∃ cs : Array Value, V.heap[w.heap.size]? = some (.cells cs 43 (0, 0)) ∧ cs.size = n ∧ ∀ (i b : Nat), hbs[i]? = some b → cs[i]? = some (hptr b)
  len : hbs.length = k
  held : ∀ (i b : Nat) (x : SV), hbs[i]? = some b → vs[i]? = some x → HeldAt w V b (HV.new x)
  nodup : hbs.Nodup
  lo : ∀ b ∈ hbs, w.heap.size < b
  below : Below w.heap.size w V
def HoldC (vs : List SV) (w : World) (e : Ending) (w' : World) : Prop := ∃ hbs : List Nat, e = .returned (.slice (some ⟨w.heap.size, 0, none⟩) hbs.length hbs.length) ∧ hbs.length = vs.length ∧ w'.heap[w.heap.size]? = some (.cells (hbs.map hptr).toArray 43 (0, 0)) ∧ (∀ (i b : Nat) (x : SV), hbs[i]? = some b → vs[i]? = some x → HeldAt w w' b (HV.new x)) ∧ hbs.Nodup ∧ (∀ b ∈ hbs, w.heap.size < b) ∧ Below w.heap.size w w'
theorem HoI.end {w V : World} {n : Nat} {vs : List SV} {hbs : List Nat} (h : HoI w n vs n hbs V) (hn : n = vs.length) : HoldC vs w (.returned (.slice (some ⟨w.heap.size, 0, none⟩) n n)) V := by
  obtain ⟨cs, h1, h2, h3⟩ := h.row
  have hl := h.len
  refine ⟨hbs, by rw [hl], by rw [hl, hn], ?_, h.held, h.nodup, h.lo, h.below⟩
  have e : cs = (hbs.map hptr).toArray := by
    apply Array.ext
    · simp [h2, hl]
    · intro i hi1 hi2
      have hi : i < hbs.length := by rw [hl]; omega
      have h4 := h3 i hbs[i] (List.getElem?_eq_getElem hi)
      rw [Array.getElem?_eq_getElem hi1] at h4
      have := Option.some.inj h4
      rw [this]; simp
  rw [h1, e]
theorem HoI.next {w V V' : World} {n k : Nat} {vs : List SV} {hbs : List Nat} {x : SV} {so : Obj} (h : HoI w n vs k hbs V) (hx : vs[k]? = some x) (hk : k < n) (hl : LiesI w x.s.sub.kids x.a x.c) (hV' : V' = ((V.setCell ⟨w.heap.size, k, none⟩ (hptr (V.heap.size + 1))).alloc so).alloc (.cells #[.int .i8 x.s.op, .int .i64 x.s.id, .int .i64 x.s.par, .int .i64 x.s.at_, .string x.s.tx, .int .i64 x.s.sub.id, .int .i64 x.s.sub.kind, .string x.s.sub.text, .slice x.a (foLen x.s.sub.kids) x.c, .map none, .slice none 0 0] 48)) : HoI w n vs (k + 1) (hbs ++ [V.heap.size + 1]) V' := by
  obtain ⟨cs, h1, h2, h3⟩ := h.row
  have hl0 := h.len
  have hws := h.below.size
  have hwl := lt_of_heap h1
  obtain ⟨U, hU⟩ : ∃ U, U = V.setCell ⟨w.heap.size, k, none⟩ (hptr (V.heap.size + 1)) := ⟨_, rfl⟩
  rw [← hU] at hV'
  have hUs : U.heap.size = V.heap.size := by rw [hU]; simp [World.setCell]
  have hUk : ∀ q, q < V.heap.size → q ≠ w.heap.size → U.heap[q]? = V.heap[q]? := fun q hq hne => by rw [hU]; exact Below.heap_setCell _ _ _ _ hne
  have hk' : ∀ q, q < V.heap.size → V'.heap[q]? = U.heap[q]? := fun q hq => by rw [hV', Below.heap_alloc _ _ _ (by simp; omega), Below.heap_alloc _ _ _ (by omega)]
  have hUn : V'.heap[V.heap.size + 1]? = some (.cells #[.int .i8 x.s.op, .int .i64 x.s.id, .int .i64 x.s.par, .int .i64 x.s.at_, .string x.s.tx, .int .i64 x.s.sub.id, .int .i64 x.s.sub.kind, .string x.s.sub.text, .slice x.a (foLen x.s.sub.kids) x.c, .map none, .slice none 0 0] 48 (0, 0)) := by
    have := heap_alloc_new (U.alloc so) (.cells #[.int .i8 x.s.op, .int .i64 x.s.id, .int .i64 x.s.par, .int .i64 x.s.at_, .string x.s.tx, .int .i64 x.s.sub.id, .int .i64 x.s.sub.kind, .string x.s.sub.text, .slice x.a (foLen x.s.sub.kids) x.c, .map none, .slice none 0 0] 48)
    rw [World.size_alloc, hUs] at this
    rw [hV']; exact this
  have h1V : V'.heap[w.heap.size]? = some (.cells (cs.setIfInBounds k (hptr (V.heap.size + 1))) 43 (0, 0)) := (hk' _ hwl).trans (by rw [hU]; exact heap_setCell_same V w.heap.size k _ _ _ h1)
  have hb : ∀ q, q < V.heap.size → q ≠ w.heap.size → V'.heap[q]? = V.heap[q]? := fun q hq hne => (hk' q hq).trans (hUk q hq hne)
  have hs' : V'.heap.size = V.heap.size + 2 := by rw [hV']; simp; omega
  refine ⟨⟨cs.setIfInBounds k (hptr (V.heap.size + 1)), h1V, by simpa using h2, fun i b hi => ?_⟩, by simp [hl0], fun i b y hi hy => ?_, ?_, fun b hb2 => ?_, ⟨by rw [hV', hU]; exact h.below.os, by rw [hV', hU]; exact h.below.tape, by rw [hV', hU]; exact h.below.output, by omega, fun q hq => (hb q (by omega) (by omega)).trans (h.below.block q hq)⟩⟩
  · by_cases hik : i = k
    · subst hik
      rw [List.getElem?_append_right (by omega), hl0, Nat.sub_self] at hi
      simp at hi
      subst hi
      rw [Array.getElem?_setIfInBounds_self_of_lt (by omega)]
    · have hil : i < hbs.length := by
        have := (List.getElem?_eq_some_iff.1 hi).1
        simp at this; omega
      rw [List.getElem?_append_left hil] at hi
      rw [Array.getElem?_setIfInBounds_ne (by omega)]
      exact h3 i b hi
  · by_cases hik : i = k
    · subst hik
      rw [List.getElem?_append_right (by omega), hl0, Nat.sub_self] at hi
      simp at hi
      subst hi
      rw [hx] at hy
      cases hy
      exact held_new hl (by omega) (by omega) hUn
    · have hil : i < hbs.length := by
        have := (List.getElem?_eq_some_iff.1 hi).1
        simp at this; omega
      rw [List.getElem?_append_left hil] at hi
      have hh := h.held i b y hi hy
      have hbl := h.lo b (List.mem_of_getElem? hi)
      refine hh.kept fun q hq => ?_
      have hq2 := (hh.lt q hq).2
      rcases hq with rfl | hq | hq
      · exact hb q hq2 (by omega)
      · cases hq
      · cases hq
  · rw [List.nodup_append]
    refine ⟨h.nodup, by simp, fun a ha b hb2 e => ?_⟩
    simp at hb2
    subst e
    obtain ⟨i, hi⟩ := List.getElem?_of_mem ha
    have hiv : i < vs.length := by
      have h8 := (List.getElem?_eq_some_iff.1 hi).1
      have h9 := (List.getElem?_eq_some_iff.1 hx).1
      omega
    have := lt_of_heap (h.held i a _ hi (List.getElem?_eq_getElem hiv)).cells
    omega
  · rcases List.mem_append.1 hb2 with h4 | h4
    · exact h.lo b h4
    · simp at h4; omega
set_option maxRecDepth 100000 in
set_option maxHeartbeats 8000000 in
theorem hold_any (w : World) (la : Option Addr) (n c : Nat) (vs : List SV) (hn : n = vs.length) (hr : Row w la vs) (hn6 : n ≤ 10000) :
    Calls Try.prog 26 #[.slice la n c] w (HoldC vs w) := by
  have hmk := run_make_row' (P := Try.prog) 58 43 (.pointer none) 8 Try.underlying58 Try.infoH rfl .i64 .i64 n (by omega) (by omega)
  obtain ⟨W, hW⟩ : ∃ W, W = w.alloc (.cells (madeCells #[.pointer none] n) 43) := ⟨_, rfl⟩
  have hI0 : HoI w n vs 0 [] W := by
    rw [hW]
    exact ⟨⟨_, heap_alloc_new _ _, by simp [madeCells], fun i b h => by simp at h⟩, rfl, fun i b x h => by simp at h, by simp, fun b h => by simp at h, (Below.refl _ _).alloc (Nat.le_refl _) _⟩
  have HI0 := Lib.hid hI0
  have HW := Lib.hid hW
  have HR := Lib.hid (And.intro hn hr)
  clear hI0 hW hn hr
  go_enter Try.func26, Try.ntmps26
  go_wp2_with fail
  rw [← HW.out]
  clear HW hmk
  go_loopw [11] (fun i wr => ∃ k : Nat, k ≤ n ∧ i = .int .i64 (k : Int) ∧ ∃ hbs, Hid (HoI w n vs k hbs wr)) (fun i _ => n - (intOf i).toNat)
  case atStart => exact ⟨0, Nat.zero_le _, rfl, [], HI0⟩
  case round =>
    obtain ⟨k, hk, rfl, hbs, hh⟩ := hrel
    clear HI0
    obtain ⟨wo, hwo⟩ : ∃ wo, wo = wr := ⟨_, rfl⟩
    subst hwo
    by_cases hlt : k < n
    · have hki : (k : Int) < (n : Int) := by omega
      obtain ⟨x, hx⟩ : ∃ x, vs[k]? = some x := ⟨_, List.getElem?_eq_getElem (by rw [← HR.out.1]; exact hlt)⟩
      obtain ⟨b, off, rfl, d0, d1, d2, d3, d4, d5, d6, d7, d8⟩ := HR.out.2.at hh.out.below hx
      have hl := HR.out.2.lies x (List.mem_of_getElem? hx)
      obtain ⟨cs, r1, r2, _⟩ := hh.out.row
      have hnx := fun so V' hV' => hh.out.next (so := so) (V' := V') hx hlt hl hV'
      obtain ⟨⟨op, id, par, at_, tx, sub⟩, xa, xc⟩ := x
      obtain ⟨sn, hsn⟩ : ∃ sn, sn = foLen sub.kids := ⟨_, rfl⟩
      simp only at d0 d1 d2 d3 d4 d5 d6 d7 d8 hnx
      rw [← hsn] at d8 hnx
      have hGl := lt_of_heap r1
      obtain ⟨u, hu⟩ : ∃ u, cs[k]? = some u := ⟨_, Array.getElem?_eq_getElem (by omega)⟩
      have g0 : wo.cell? ⟨w.heap.size, k, none⟩ = some u := by rw [cell_of_row _ _ _ _ _ _ r1, hu]
      have gf : wo.frozen? ⟨w.heap.size, k, none⟩ = false := frozen_of_row _ _ _ _ _ r1
      have hkw : IntKind.i64.wrap ((k : Int) + 1) = (k : Int) + 1 := IntWalk.i64_in _ (by omega)
      have hkn : (k : Int) < (n : Int) := hki
      have HNX := Lib.hid hnx
      have HKN := Lib.hid (And.intro hk hlt)
      clear hnx hl hx r1 r2 hu hk hlt hsn
      go_wp2_with fail
      exact ⟨⟨k + 1, by have := HKN.out; omega, by go_num, _, Lib.hid (HNX.out _ _ rfl)⟩, by have := HKN.out; simp [intOf]; omega⟩
    · have hki : ¬ (k : Int) < (n : Int) := by omega
      have hkn : k = n := by omega
      have HE := hh.out
      rw [hkn] at HE
      have HEE := Lib.hid (HE.end HR.out.1)
      clear HE hh hkn hlt hk
      go_wp2_with fail
      go_ret
      exact HEE.out
end Go.Proofs.Ytpbjncljecfaeaa
