/-
  text: a step that sets a text. No condition.
  What the program's Pair, Of and Is are to answer of rows of few and small steps.
  A row of steps that came in, read out of memory, with the bounds of its numbers. No condition.
  What came in has ids of 64 bits. No condition.
-/
import Derived.Deep.Cut
import Derived.Test.YtpbjncljecfaeaaNCopiedQf
import Derived.Test.YtpbjncljecfaeaaNGreatQf
import Derived.Test.YtpbjncljecfaeaaNOfWQf
import Derived.Test.YtpbjncljecfaeaaNIsWQf
import Derived.Test.YtpbjncljecfaeaaNRowHQf
import Derived.Test.YtpbjncljecfaeaaKOpenQf
import Derived.Test.YtpbjncljecfaeaaNRowsQf
namespace Go.Proofs.Ytpbjncljecfaeaa
open Go.RowKit Go.Shelf
set_option linter.unusedVariables false
set_option linter.unusedSimpArgs false

def textS (id : Int) (tx : ByteArray) : Sf := ⟨4, id, 0, 0, tx, ⟨0, 0, ⟨#[]⟩, .nil⟩⟩
def TextC (w : World) (id : Int) (tx : ByteArray) (e : Ending) (w' : World) : Prop := e = .returned (.agg #[.int .i8 4, .int .i64 id, .int .i64 0, .int .i64 0, .string tx, .int .i64 0, .int .i64 0, .string ⟨#[]⟩, .slice none 0 0]) ∧ Below w.heap.size w w'
set_option maxRecDepth 100000 in
set_option maxHeartbeats 8000000 in
theorem text12_any (w : World) (id : Int) (tx : ByteArray) :
    Calls Try.prog 18 #[.int .i64 id, .string tx] w (TextC w id tx) := by
  obtain ⟨B, hB⟩ : ∃ B, B = allocs w [.cells #[.int .i8 0, .int .i64 0, .int .i64 0, .int .i64 0, .string ⟨#[]⟩, .int .i64 0, .int .i64 0, .string ⟨#[]⟩, .slice none 0 0] 27] := ⟨_, rfl⟩
  have hb : Below w.heap.size w B := by rw [hB]; exact allocs_below _ _
  have er : B.heap[w.heap.size]? = some (.cells #[.int .i8 0, .int .i64 0, .int .i64 0, .int .i64 0, .string ⟨#[]⟩, .int .i64 0, .int .i64 0, .string ⟨#[]⟩, .slice none 0 0] 27 (0, 0)) := by rw [hB]; exact allocs_at _ _ 0 _ rfl
  obtain ⟨z0, z1, z2, z3, z4, z5, z6, z7, z8⟩ := box9 er
  have zf : ∀ j, B.frozen? ⟨w.heap.size, j, none⟩ = false := fun j => frozen_of_row _ _ j _ _ er
  obtain ⟨V, hV, r1, r2, r3, r4, r5, r6⟩ := nine_setN (u0 := .int .i8 4) (u1 := .int .i64 id) (u2 := .int .i64 0) (u3 := .int .i64 0) (u4 := .string tx) (u5 := .int .i64 0) (u6 := .int .i64 0) (u7 := .string ⟨#[]⟩) (u8 := .slice none 0 0) er
  have HE := Lib.hid (And.intro hV r1)
  have HB := Lib.hid (show Below w.heap.size w V from ⟨r3.trans hb.os, r4.trans hb.tape, r5.trans hb.output, by rw [r6]; exact hb.size, fun y hy => (r2 y (by omega)).trans (hb.block y hy)⟩)
  have HBE := Lib.hid hB
  clear hV r1 r2 r3 r4 r5 r6 er hb hB
  go_enter Try.func18, Try.ntmps18
  go_upto_region 1 with fail
  change Code.wp _ _ _ _ (allocs w [.cells #[.int .i8 0, .int .i64 0, .int .i64 0, .int .i64 0, .string ⟨#[]⟩, .int .i64 0, .int .i64 0, .string ⟨#[]⟩, .slice none 0 0] 27])
  rw [← HBE.out]
  clear HBE
  go_wp2_with fail
  rw [← HE.out.1]
  exact bodyPost_ret (results_cell_row rfl _ _ w.heap.size 27 _ (0, 0) _ rfl HE.out.2 Try.underlying27 rfl (by kernel_rfl)) rfl ⟨rfl, HB.out⟩
end Go.Proofs.Ytpbjncljecfaeaa
namespace Go.Proofs.Ytpbjncljecfaeaa
open Go.RowKit Go.Shelf
set_option linter.unusedVariables false

def OfFn : Prop := ∀ (w : World) (la : Option Addr) (n c : Nat) (vs : List SV), RowS w la n c vs → SmallN vs → (∀ x ∈ vs, Wf64 x.s) → Calls Try.prog 11 #[.slice la n c] w (OfC (ofK n (steps vs)) w)
def IsFn : Prop := ∀ (w : World) (la : Option Addr) (n c : Nat) (vs : List SV), RowS w la n c vs → SmallN vs → (∀ x ∈ vs, Wf64 x.s) → Calls Try.prog 13 #[.slice la n c] w (IsC (steps vs) w)
theorem ofFn : OfFn := fun w la n c vs h hs hw => ofW_any w la n c vs h (by rw [h.len]; have := hs.1; omega) (fun x hx => by have := hs.2 x hx; omega) hw
theorem isFn : IsFn := fun w la n c vs h hs hw => isW_any w la n c vs h (by rw [h.len]; have := hs.1; omega) (fun x hx => by have := hs.2 x hx; omega) hw
/-- A row of steps without kids, laid in one block. -/
theorem lit_row {w : World} {l : List SV} {b : Nat} (hb : w.heap[b]? = some (.cells (cells9 l).toArray 27 (0, 0))) (hl : ∀ x ∈ l, x.s.sub.kids = .nil) (hn : l.length ≤ 60) : RowS w (some ⟨b, 0, none⟩) l.length l.length l ∧ SmallN l :=
  ⟨⟨⟨fun k x hx => ⟨b, 0, rfl, lt_of_heap hb, fun j u hj => by rw [cell_of_row _ _ _ _ _ _ hb, Nat.zero_add]; simpa using cells9_mk hx hj⟩, fun x hx => by unfold LiesI; rw [hl x hx]; exact ⟨Nat.zero_le _, True.intro⟩, fun x hx => by rw [hl x hx]; decide, by omega⟩, rfl, Nat.le_refl _, fun h => by cases h⟩, hn, fun x hx => by rw [hl x hx]; decide⟩
def txV (id : Int) (tx : ByteArray) : SV := ⟨textS id tx, none, 0⟩
def insV : SV := ⟨⟨1, 0, 1, 0, ⟨#[]⟩, ⟨5, 0, ⟨#[]⟩, .nil⟩⟩, none, 0⟩
def delV : SV := ⟨⟨2, 5, 0, 0, ⟨#[]⟩, ⟨0, 0, ⟨#[]⟩, .nil⟩⟩, none, 0⟩
theorem wk_of1 : ofK 3 (steps [txV 2 ⟨#[97]⟩, txV 2 ⟨#[98]⟩, txV 3 ⟨#[99]⟩]) = [textS 2 ⟨#[98]⟩, textS 3 ⟨#[99]⟩] := by kernel_rfl
theorem wk_of2 : ofK 4 (steps [insV, txV 5 ⟨#[97]⟩, txV 5 ⟨#[98]⟩, delV]) = [] := by kernel_rfl
theorem wk_is1 : (onceK [textS 2 ⟨#[98]⟩, textS 3 ⟨#[99]⟩]).2 = false := by kernel_rfl
theorem wk_is2 : (onceK (steps [txV 2 ⟨#[97]⟩, txV 2 ⟨#[98]⟩])).2 = true := by kernel_rfl
theorem two_of {vs : List SV} {s t : Sf} (h : steps vs = [s, t]) : ∃ x y, vs = [x, y] ∧ x.s = s ∧ y.s = t := by
  match vs, h with
  | [x, y], h =>
    simp [steps] at h
    exact ⟨x, y, rfl, h.1, h.2⟩
end Go.Proofs.Ytpbjncljecfaeaa
namespace Go.Proofs.Ytpbjncljecfaeaa
open Go.ChangeShapes Go.WideShapes Go.ChangeAt Go.RowKit
open Extern.Stop (cell)
set_option linter.unusedVariables false


/-- What a host keeps of a step that came in. -/
def InG (s : Sf) : Prop := Fits s.sub ∧ ((Lit.int .i8 s.op).wf = true ∧ (Lit.int .i64 s.id).wf = true ∧ (Lit.int .i64 s.par).wf = true ∧ (Lit.int .i64 s.at_).wf = true) ∧ (s.tx.size : Int) ≤ 9223372036854775807
section
variable {H : Type} {enc : TypeId × Value → H} {w : World} {base : Nat} {spare : Nat → Bool} {held : Bool}
theorem open_stepsG (fuel : Nat) (v : Value) (x : DataW H × List MemPlace) (h : DataW.trod enc Try.prog w base spare held fuel 29 [v] = some x) :
    ∃ (vs : List SV) (a : Option Addr) (cap : Nat), v = .slice a vs.length cap ∧ RowG w a vs ∧ (∀ x ∈ vs, InG x.s) ∧ (a = none → cap = 0) ∧ vs.length ≤ cap := by
  rcases Deep.open_slice Try.underlying29 h with ⟨hcs, _⟩ | ⟨ad, len, cap, m, n, D, Pl, hcs, hq, hlc, hm, hmm, hq2, hi⟩
  · simp only [List.cons.injEq, and_true] at hcs
    subst hcs
    exact ⟨[], none, 0, rfl, ⟨fun k s hs => by simp at hs, fun x hx => by simp at hx, fun x hx => by simp at hx⟩, (fun x hx => by simp at hx), (fun _ => rfl), Nat.le_refl _⟩
  · simp only [List.cons.injEq, and_true] at hcs
    subst hcs
    have h9 : Try.prog.cellsOf 27 = 9 := by kernel_rfl
    have hle : len ≤ m := by rw [hmm]; split <;> omega
    rw [h9] at hi
    have each : ∀ i, i < len → ∃ (y : SV), (∀ j u, (stepC y.s y.a y.c)[j]? = some u → w.cell? (ad.add (i * 9 + j)) = some u) ∧ LiesI w y.s.sub.kids y.a y.c ∧ InG y.s := fun i hil => by
      obtain ⟨cs', hc, ht⟩ := hi i (by omega)
      obtain ⟨_, _, hat⟩ := World.cells?_some hc
      obtain ⟨op, id, par, at_, tx, u, ka, kcap, rfl, hcp, hfo, hft, hw, htx⟩ := open_step9 n cs' _ ht
      refine ⟨⟨⟨op, id, par, at_, tx, u⟩, ka, kcap⟩, fun j u hj => ?_, ⟨hcp, hfo.kept fun q hq => ⟨hq, rfl⟩⟩, ⟨hft, hw, htx⟩⟩
      have hj9 : j < 9 := (List.getElem?_eq_some_iff.1 hj).1
      have := hat j hj9
      rw [Deep.add_add] at this
      exact this.trans hj
    haveI : Inhabited SV := ⟨⟨⟨0, 0, 0, 0, ⟨#[]⟩, ⟨0, 0, ⟨#[]⟩, .nil⟩⟩, none, 0⟩⟩
    obtain ⟨f, hff⟩ := Deep.choose_lt each
    have hmem : ∀ x ∈ (List.range len).map f, LiesI w x.s.sub.kids x.a x.c ∧ InG x.s := fun x hx => by
      obtain ⟨j, hj, rfl⟩ := List.mem_map.1 hx
      obtain ⟨_, h1, h2⟩ := hff j (List.mem_range.1 hj)
      exact ⟨h1, h2⟩
    refine ⟨(List.range len).map f, some ad, cap, by simp, ⟨fun k s hs => ?_, fun x hx => (hmem x hx).1, fun x hx => ⟨(hmem x hx).2.1.1, (hmem x hx).2.1.2.1⟩⟩, (fun x hx => (hmem x hx).2), (fun h => by cases h), by simp only [List.length_map, List.length_range]; exact hlc⟩
    rw [List.getElem?_map, Option.map_eq_some_iff] at hs
    obtain ⟨j, hj, rfl⟩ := hs
    obtain ⟨hlt', rfl⟩ := List.getElem?_eq_some_iff.1 hj
    simp only [List.length_range] at hlt'
    simp only [List.getElem_range]
    obtain ⟨hz, h1, h2, _⟩ := hff k hlt'
    obtain ⟨b, off, spot⟩ := ad
    obtain ⟨hz', _, _⟩ := hff 0 (by omega)
    have hz0 := hz' 0 _ rfl
    have hsp : spot = none := by simpa [Addr.add] using World.cell?_spot hz0
    subst hsp
    have hlt := cell_lt hz0
    rw [add_blockK] at hlt
    clear hz0 hz'
    refine ⟨b, off, rfl, hlt, fun j u hj => ?_⟩
    have := hz j u hj
    rw [Addr.add_mid, ← Nat.add_assoc] at this
    exact this
end
end Go.Proofs.Ytpbjncljecfaeaa
namespace Go.Proofs.Ytpbjncljecfaeaa
open Go.RowKit Go.Shelf
set_option linter.unusedVariables false

theorem okFo_ids : ∀ {f : Fo}, okFo f → idsOk f
  | .nil, _ => True.intro
  | .node _ _ k l r, h => ⟨h.1.2, okFo_ids h.2.1, okFo_ids h.2.2⟩
theorem fits_wf {s : Sf} (hf : Fits s.sub) (hw : (Lit.int .i64 s.id).wf = true) : Wf64 s := ⟨⟨hf.2.2.1.2, okFo_ids hf.2.2.2, True.intro⟩, hw⟩
end Go.Proofs.Ytpbjncljecfaeaa
