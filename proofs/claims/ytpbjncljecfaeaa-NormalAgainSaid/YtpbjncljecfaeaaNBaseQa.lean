/-
  Rows of steps that lie in memory; a row of the call's own out of such. No condition but that there are not too many nodes.
-/
import Derived.Deep.Cut
import Derived.Laws.AppendOwnNone
import Derived.Test.YtpbjncljecfaeaaRSameQa
import Derived.Test.YtpbjncljecfaeaaNBoxQa
import Derived.Test.YtpbjncljecfaeaaVWalkQa
namespace Go.Proofs.Ytpbjncljecfaeaa
open Go.RowKit
set_option linter.unusedVariables false
set_option linter.unusedSimpArgs false

/-- A step. -/
structure Sf where
  op : Int
  id : Int
  par : Int
  at_ : Int
  tx : ByteArray
  sub : Tr
/-- A step, and where its subtree's kids lie. -/
structure SV where
  s : Sf
  a : Option Addr
  c : Nat
def stepC (s : Sf) (a : Option Addr) (c : Nat) : List Value := [.int .i8 s.op, .int .i64 s.id, .int .i64 s.par, .int .i64 s.at_, .string s.tx, .int .i64 s.sub.id, .int .i64 s.sub.kind, .string s.sub.text, .slice a (foLen s.sub.kids) c]
def LiesI (W : World) (f : Fo) (a : Option Addr) (c : Nat) : Prop := foLen f ≤ c ∧ FoAt W (fun q => q < W.heap.size) f a
theorem LiesI.at {W X : World} {t : Tr} {a : Option Addr} {c : Nat} (h : LiesI W t.kids a c) (hb : Below W.heap.size W X) : TrAt X (fun q => q < W.heap.size) (.agg #[.int .i64 t.id, .int .i64 t.kind, .string t.text, .slice a (foLen t.kids) c]) t := ⟨a, c, rfl, h.1, h.2.kept fun q hq => ⟨hq, hb.block q hq⟩⟩
theorem LiesI.on {W X : World} {f : Fo} {a : Option Addr} {c : Nat} (h : LiesI W f a c) (hb : Below W.heap.size W X) : LiesI X f a c := ⟨h.1, h.2.kept fun q hq => ⟨Nat.lt_of_lt_of_le hq hb.size, hb.block q hq⟩⟩
def steps (vs : List SV) : List Sf := vs.map SV.s
theorem steps_at {vs : List SV} {k : Nat} {x : SV} (h : vs[k]? = some x) : (steps vs)[k]? = some x.s := by rw [steps, List.getElem?_map, h]; rfl
theorem steps_len (vs : List SV) : (steps vs).length = vs.length := by simp [steps]
/-- A row of steps that lies in memory. -/
structure Row (w : World) (a : Option Addr) (vs : List SV) : Prop where
  cells : ∀ (k : Nat) (x : SV), vs[k]? = some x → ∃ b off, a = some ⟨b, off, none⟩ ∧ b < w.heap.size ∧ ∀ (j : Nat) (u : Value), (stepC x.s x.a x.c)[j]? = some u → w.cell? ⟨b, off + k * 9 + j, none⟩ = some u
  lies : ∀ x ∈ vs, LiesI w x.s.sub.kids x.a x.c
  fit : ∀ x ∈ vs, foSize x.s.sub.kids + 1 ≤ 100000
  len : vs.length ≤ 1000000
theorem Row.on {w X : World} {a : Option Addr} {vs : List SV} (h : Row w a vs) (hb : Below w.heap.size w X) : Row X a vs :=
  ⟨fun k x hx => by
    obtain ⟨b, off, e, h1, h2⟩ := h.cells k x hx
    exact ⟨b, off, e, Nat.lt_of_lt_of_le h1 hb.size, fun j u hj => (World.cell?_of_block (a := ⟨b, off + k * 9 + j, none⟩) (hb.block b h1)).trans (h2 j u hj)⟩, fun x hx => (h.lies x hx).on hb, h.fit, h.len⟩
theorem Row.nil (w : World) (a : Option Addr) : Row w a [] := ⟨fun k x hx => by simp at hx, fun x hx => by simp at hx, fun x hx => by simp at hx, by simp⟩
/-- A step's cells out of its row. -/
theorem Row.at {w X : World} {a : Option Addr} {vs : List SV} (h : Row w a vs) (hb : Below w.heap.size w X) {k : Nat} {x : SV} (hx : vs[k]? = some x) : ∃ b off, a = some ⟨b, off, none⟩ ∧ X.cell? ⟨b, off + k * 9, none⟩ = some (.int .i8 x.s.op) ∧ X.cell? ⟨b, off + k * 9 + 1, none⟩ = some (.int .i64 x.s.id) ∧ X.cell? ⟨b, off + k * 9 + 2, none⟩ = some (.int .i64 x.s.par) ∧ X.cell? ⟨b, off + k * 9 + 3, none⟩ = some (.int .i64 x.s.at_) ∧ X.cell? ⟨b, off + k * 9 + 4, none⟩ = some (.string x.s.tx) ∧ X.cell? ⟨b, off + k * 9 + 5, none⟩ = some (.int .i64 x.s.sub.id) ∧ X.cell? ⟨b, off + k * 9 + 6, none⟩ = some (.int .i64 x.s.sub.kind) ∧ X.cell? ⟨b, off + k * 9 + 7, none⟩ = some (.string x.s.sub.text) ∧ X.cell? ⟨b, off + k * 9 + 8, none⟩ = some (.slice x.a (foLen x.s.sub.kids) x.c) := by
  obtain ⟨b, off, e, hbl, hc⟩ := h.cells k x hx
  have hg := fun j u hj => (World.cell?_of_block (a := ⟨b, off + k * 9 + j, none⟩) (hb.block b hbl)).trans (hc j u hj)
  exact ⟨b, off, e, hg 0 _ rfl, hg 1 _ rfl, hg 2 _ rfl, hg 3 _ rfl, hg 4 _ rfl, hg 5 _ rfl, hg 6 _ rfl, hg 7 _ rfl, hg 8 _ rfl⟩
theorem foFit_szN : ∀ f : Fo, foSize f ≤ 9223372036854775807 → foFit f
  | .nil, _ => True.intro
  | .node _ _ _ l r, h => by
    simp only [foSize] at h
    have h1 := foLen_le l
    exact ⟨by omega, foFit_szN l (by omega), foFit_szN r (by omega)⟩
def YesR (w : World) (e : Ending) (w' : World) : Prop := e = .returned (.bool true) ∧ Below w.heap.size w w'
end Go.Proofs.Ytpbjncljecfaeaa
