/-
  text: a step that sets a text. No condition.
  What the program's Pair, Of and Is are to answer of rows of few and small steps.
-/
import Derived.Deep.Cut
import Derived.Test.YtpbjncljecfaeaaNCopiedQp
import Derived.Test.YtpbjncljecfaeaaNGreatQp
import Derived.Test.YtpbjncljecfaeaaNOfWQp
import Derived.Test.YtpbjncljecfaeaaNIsWQp
import Derived.Test.YtpbjncljecfaeaaNPairWQp
namespace Go.Proofs.Ytpbjncljecfaeaa
open Go.RowKit Go.Shelf
set_option linter.unusedVariables false
set_option linter.unusedSimpArgs false

def textS (id : Int) (tx : ByteArray) : Sf := ⟨4, id, 0, 0, tx, ⟨0, 0, ⟨#[]⟩, .nil⟩⟩
def TextC (w : World) (id : Int) (tx : ByteArray) (e : Ending) (w' : World) : Prop := e = .returned (.agg #[.int .i8 4, .int .i64 id, .int .i64 0, .int .i64 0, .string tx, .int .i64 0, .int .i64 0, .string ⟨#[]⟩, .slice none 0 0]) ∧ Below w.heap.size w w'
set_option maxRecDepth 100000 in
set_option maxHeartbeats 8000000 in
theorem text12_any (w : World) (id : Int) (tx : ByteArray) :
    Calls Try.prog 18 #[.int .i64 id, .string tx] w (TextC w id tx) := by
  obtain ⟨B, hB⟩ : ∃ B, B = allocs w [.cells #[.int .i8 0, .int .i64 0, .int .i64 0, .int .i64 0, .string ⟨#[]⟩, .int .i64 0, .int .i64 0, .string ⟨#[]⟩, .slice none 0 0] 27] := ⟨_, rfl⟩
  have hb : Below w.heap.size w B := by rw [hB]; exact allocs_below _ _
  have er : B.heap[w.heap.size]? = some (.cells #[.int .i8 0, .int .i64 0, .int .i64 0, .int .i64 0, .string ⟨#[]⟩, .int .i64 0, .int .i64 0, .string ⟨#[]⟩, .slice none 0 0] 27 (0, 0)) := by rw [hB]; exact allocs_at _ _ 0 _ rfl
  obtain ⟨z0, z1, z2, z3, z4, z5, z6, z7, z8⟩ := box9 er
  have zf : ∀ j, B.frozen? ⟨w.heap.size, j, none⟩ = false := fun j => frozen_of_row _ _ j _ _ er
  obtain ⟨V, hV, r1, r2, r3, r4, r5, r6⟩ := nine_setN (u0 := .int .i8 4) (u1 := .int .i64 id) (u2 := .int .i64 0) (u3 := .int .i64 0) (u4 := .string tx) (u5 := .int .i64 0) (u6 := .int .i64 0) (u7 := .string ⟨#[]⟩) (u8 := .slice none 0 0) er
  have HE := Lib.hid (And.intro hV r1)
  have HB := Lib.hid (show Below w.heap.size w V from ⟨r3.trans hb.os, r4.trans hb.tape, r5.trans hb.output, by rw [r6]; exact hb.size, fun y hy => (r2 y (by omega)).trans (hb.block y hy)⟩)
  have HBE := Lib.hid hB
  clear hV r1 r2 r3 r4 r5 r6 er hb hB
  go_enter Try.func18, Try.ntmps18
  go_upto_region 1 with fail
  change Code.wp _ _ _ _ (allocs w [.cells #[.int .i8 0, .int .i64 0, .int .i64 0, .int .i64 0, .string ⟨#[]⟩, .int .i64 0, .int .i64 0, .string ⟨#[]⟩, .slice none 0 0] 27])
  rw [← HBE.out]
  clear HBE
  go_wp2_with fail
  rw [← HE.out.1]
  exact bodyPost_ret (results_cell_row rfl _ _ w.heap.size 27 _ (0, 0) _ rfl HE.out.2 Try.underlying27 rfl (by kernel_rfl)) rfl ⟨rfl, HB.out⟩
end Go.Proofs.Ytpbjncljecfaeaa
namespace Go.Proofs.Ytpbjncljecfaeaa
open Go.RowKit Go.Shelf
set_option linter.unusedVariables false

def OfFn : Prop := ∀ (w : World) (la : Option Addr) (n c : Nat) (vs : List SV), RowS w la n c vs → SmallN vs → (∀ x ∈ vs, Wf64 x.s) → Calls Try.prog 11 #[.slice la n c] w (OfC (ofK n (steps vs)) w)
def IsFn : Prop := ∀ (w : World) (la : Option Addr) (n c : Nat) (vs : List SV), RowS w la n c vs → SmallN vs → (∀ x ∈ vs, Wf64 x.s) → Calls Try.prog 13 #[.slice la n c] w (IsC (steps vs) w)
def PairFn : Prop := ∀ {X0 X1 w : World} (x y : Sf) (aa ba : Option Addr) (n ac m bc : Nat), LiesI X0 x.sub.kids aa ac → LiesI X1 y.sub.kids ba bc → Below X0.heap.size X0 w → Below X1.heap.size X1 w → foSize x.sub.kids + 1 ≤ 200 → foSize y.sub.kids + 1 ≤ 200 → Wf64 x → Wf64 y → n = foLen x.sub.kids → m = foLen y.sub.kids →
    Calls Try.prog 8 #[.agg #[.int .i8 x.op, .int .i64 x.id, .int .i64 x.par, .int .i64 x.at_, .string x.tx, .int .i64 x.sub.id, .int .i64 x.sub.kind, .string x.sub.text, .slice aa n ac], .agg #[.int .i8 y.op, .int .i64 y.id, .int .i64 y.par, .int .i64 y.at_, .string y.tx, .int .i64 y.sub.id, .int .i64 y.sub.kind, .string y.sub.text, .slice ba m bc]] w (PairP (pairK x y) w)
theorem ofFn : OfFn := fun w la n c vs h hs hw => ofW_any w la n c vs h (by rw [h.len]; have := hs.1; omega) (fun x hx => by have := hs.2 x hx; omega) hw
theorem isFn : IsFn := fun w la n c vs h hs hw => isW_any w la n c vs h (by rw [h.len]; have := hs.1; omega) (fun x hx => by have := hs.2 x hx; omega) hw
theorem pairFn : PairFn := fun x y aa ba n ac m bc h0 h1 b0 b1 hx hy wx wy hn hm => pairP_any x y aa ba n ac m bc h0 h1 b0 b1 (by omega) (by omega) wx wy hn hm
/-- A row of steps without kids, laid in one block. -/
theorem lit_row {w : World} {l : List SV} {b : Nat} (hb : w.heap[b]? = some (.cells (cells9 l).toArray 27 (0, 0))) (hl : ∀ x ∈ l, x.s.sub.kids = .nil) (hn : l.length ≤ 60) : RowS w (some ⟨b, 0, none⟩) l.length l.length l ∧ SmallN l :=
  ⟨⟨⟨fun k x hx => ⟨b, 0, rfl, lt_of_heap hb, fun j u hj => by rw [cell_of_row _ _ _ _ _ _ hb, Nat.zero_add]; simpa using cells9_mk hx hj⟩, fun x hx => by unfold LiesI; rw [hl x hx]; exact ⟨Nat.zero_le _, True.intro⟩, fun x hx => by rw [hl x hx]; decide, by omega⟩, rfl, Nat.le_refl _, fun h => by cases h⟩, hn, fun x hx => by rw [hl x hx]; decide⟩
def txV (id : Int) (tx : ByteArray) : SV := ⟨textS id tx, none, 0⟩
def insV : SV := ⟨⟨1, 0, 1, 0, ⟨#[]⟩, ⟨5, 0, ⟨#[]⟩, .nil⟩⟩, none, 0⟩
def delV : SV := ⟨⟨2, 5, 0, 0, ⟨#[]⟩, ⟨0, 0, ⟨#[]⟩, .nil⟩⟩, none, 0⟩
theorem wk_of1 : ofK 3 (steps [txV 2 ⟨#[97]⟩, txV 2 ⟨#[98]⟩, txV 3 ⟨#[99]⟩]) = [textS 2 ⟨#[98]⟩, textS 3 ⟨#[99]⟩] := by kernel_rfl
theorem wk_of2 : ofK 4 (steps [insV, txV 5 ⟨#[97]⟩, txV 5 ⟨#[98]⟩, delV]) = [] := by kernel_rfl
theorem wk_is1 : (onceK [textS 2 ⟨#[98]⟩, textS 3 ⟨#[99]⟩]).2 = false := by kernel_rfl
theorem wk_is2 : (onceK (steps [txV 2 ⟨#[97]⟩, txV 2 ⟨#[98]⟩])).2 = true := by kernel_rfl
theorem two_of {vs : List SV} {s t : Sf} (h : steps vs = [s, t]) : ∃ x y, vs = [x, y] ∧ x.s = s ∧ y.s = t := by
  match vs, h with
  | [x, y], h =>
    simp [steps] at h
    exact ⟨x, y, rfl, h.1, h.2⟩
end Go.Proofs.Ytpbjncljecfaeaa
