/-
  Grammars in memory: plain definitions and their small laws. No condition.
-/
import Derived.Test.YtfdcopegkhofnaaRows
import Derived.WalkKit
import Derived.WalkSpells
import Derived.WalkLawsBesides
import Derived.Lib.Hide
namespace Go.Proofs.Ytfdcopegkhofnaa
open Go.RowKit

/-- A slot, a kind, a grammar, plainly. -/
structure Sl where
  kinds : List Int
  least : Int
  most : Int
structure Kd where
  name : ByteArray
  text : Bool
  slots : List Sl
structure Gr where
  kinds : List Kd
  root : Int
instance : Inhabited Sl := ⟨⟨[], 0, 0⟩⟩
instance : Inhabited Kd := ⟨⟨⟨#[]⟩, false, []⟩⟩

/-- A row of ints, of slots, of kinds lies there. -/
def IntsAt (w : World) (a : Option Addr) (l : List Int) : Prop :=
  0 < l.length → ∃ b off, a = some ⟨b, off, none⟩ ∧ b < w.heap.size ∧ ∀ k x, l[k]? = some x → w.cell? ⟨b, off + k, none⟩ = some (.int .i64 x)
def SlotIn (w : World) (b o : Nat) (s : Sl) : Prop :=
  ∃ ka kc, w.cell? ⟨b, o, none⟩ = some (.slice ka s.kinds.length kc) ∧ w.cell? ⟨b, o + 1, none⟩ = some (.int .i64 s.least) ∧ w.cell? ⟨b, o + 2, none⟩ = some (.int .i64 s.most) ∧ IntsAt w ka s.kinds
def SlotsAt (w : World) (a : Option Addr) (l : List Sl) : Prop :=
  0 < l.length → ∃ b off, a = some ⟨b, off, none⟩ ∧ b < w.heap.size ∧ ∀ k s, l[k]? = some s → SlotIn w b (off + k * 3) s
def KindIn (w : World) (b o : Nat) (k : Kd) : Prop :=
  ∃ sa sc, w.cell? ⟨b, o, none⟩ = some (.string k.name) ∧ w.cell? ⟨b, o + 1, none⟩ = some (.bool k.text) ∧ w.cell? ⟨b, o + 2, none⟩ = some (.slice sa k.slots.length sc) ∧ SlotsAt w sa k.slots
def KindsAt (w : World) (a : Option Addr) (l : List Kd) : Prop :=
  0 < l.length → ∃ b off, a = some ⟨b, off, none⟩ ∧ b < w.heap.size ∧ ∀ k x, l[k]? = some x → KindIn w b (off + k * 3) x

theorem IntsAt.below {w w' : World} {a : Option Addr} {l : List Int} (h : IntsAt w a l) (hb : Below w.heap.size w w') : IntsAt w' a l := fun h0 => by
  obtain ⟨b, off, e, hlt, hc⟩ := h h0
  exact ⟨b, off, e, Nat.lt_of_lt_of_le hlt hb.size, fun k x hx => (World.cell?_of_block (hb.block _ hlt)).trans (hc k x hx)⟩
theorem SlotIn.below {w w' : World} {b o : Nat} {s : Sl} (h : SlotIn w b o s) (hlt : b < w.heap.size) (hb : Below w.heap.size w w') : SlotIn w' b o s := by
  obtain ⟨ka, kc, h0, h1, h2, h3⟩ := h
  have e : ∀ j, w'.cell? ⟨b, j, none⟩ = w.cell? ⟨b, j, none⟩ := fun j => World.cell?_of_block (hb.block _ hlt)
  exact ⟨ka, kc, (e _).trans h0, (e _).trans h1, (e _).trans h2, h3.below hb⟩
theorem SlotsAt.below {w w' : World} {a : Option Addr} {l : List Sl} (h : SlotsAt w a l) (hb : Below w.heap.size w w') : SlotsAt w' a l := fun h0 => by
  obtain ⟨b, off, e, hlt, hc⟩ := h h0
  exact ⟨b, off, e, Nat.lt_of_lt_of_le hlt hb.size, fun k x hx => (hc k x hx).below hlt hb⟩
theorem KindIn.below {w w' : World} {b o : Nat} {k : Kd} (h : KindIn w b o k) (hlt : b < w.heap.size) (hb : Below w.heap.size w w') : KindIn w' b o k := by
  obtain ⟨sa, sc, h0, h1, h2, h3⟩ := h
  have e : ∀ j, w'.cell? ⟨b, j, none⟩ = w.cell? ⟨b, j, none⟩ := fun j => World.cell?_of_block (hb.block _ hlt)
  exact ⟨sa, sc, (e _).trans h0, (e _).trans h1, (e _).trans h2, h3.below hb⟩
theorem KindsAt.below {w w' : World} {a : Option Addr} {l : List Kd} (h : KindsAt w a l) (hb : Below w.heap.size w w') : KindsAt w' a l := fun h0 => by
  obtain ⟨b, off, e, hlt, hc⟩ := h h0
  exact ⟨b, off, e, Nat.lt_of_lt_of_le hlt hb.size, fun k x hx => (hc k x hx).below hlt hb⟩

/-- The value of a slot, a kind, a grammar. -/
def SlotV (w : World) (v : Value) (s : Sl) : Prop := ∃ ka kc, v = .agg #[.slice ka s.kinds.length kc, .int .i64 s.least, .int .i64 s.most] ∧ IntsAt w ka s.kinds
def KindV (w : World) (v : Value) (k : Kd) : Prop := ∃ sa sc, v = .agg #[.string k.name, .bool k.text, .slice sa k.slots.length sc] ∧ SlotsAt w sa k.slots
def GrV (w : World) (v : Value) (g : Gr) : Prop := ∃ ka kc, v = .agg #[.slice ka g.kinds.length kc, .int .i64 g.root] ∧ KindsAt w ka g.kinds
theorem SlotV.below {w w' : World} {v : Value} {s : Sl} (h : SlotV w v s) (hb : Below w.heap.size w w') : SlotV w' v s := by obtain ⟨ka, kc, e, h1⟩ := h; exact ⟨ka, kc, e, h1.below hb⟩
theorem KindV.below {w w' : World} {v : Value} {k : Kd} (h : KindV w v k) (hb : Below w.heap.size w w') : KindV w' v k := by obtain ⟨ka, kc, e, h1⟩ := h; exact ⟨ka, kc, e, h1.below hb⟩
theorem GrV.below {w w' : World} {v : Value} {g : Gr} (h : GrV w v g) (hb : Below w.heap.size w w') : GrV w' v g := by obtain ⟨ka, kc, e, h1⟩ := h; exact ⟨ka, kc, e, h1.below hb⟩

/-- No row is longer than may be. -/
def Sl.fits (s : Sl) : Prop := (s.kinds.length : Int) ≤ 9223372036854775807
def Kd.fits (k : Kd) : Prop := (k.name.size : Int) ≤ 9223372036854775807 ∧ (k.slots.length : Int) ≤ 9223372036854775807 ∧ ∀ s ∈ k.slots, s.fits
def Gr.fits (g : Gr) : Prop := (g.kinds.length : Int) ≤ 9223372036854775807 ∧ ∀ k ∈ g.kinds, k.fits
/-- Far below what a machine's number holds. -/
def Sl.few (s : Sl) : Prop := s.kinds.length ≤ 1000000
def Kd.few (k : Kd) : Prop := k.name.size ≤ 1000000 ∧ k.slots.length ≤ 1000000 ∧ ∀ s ∈ k.slots, s.few
def Gr.few (g : Gr) : Prop := g.kinds.length ≤ 1000000 ∧ ∀ k ∈ g.kinds, k.few

/-- A yes or no, and nothing that was there has turned. -/
def Says (b : Bool) (w : World) (e : Ending) (w' : World) : Prop := e = .returned (.bool b) ∧ Below w.heap.size w w'
theorem Says.mk {b c : Bool} {w w' : World} (h : b = c) (hb : Below w.heap.size w w') : Says b w (.returned (.bool c)) w' := ⟨by rw [h], hb⟩
/-- A number likewise. -/
def Counts (n : Int) (w : World) (e : Ending) (w' : World) : Prop := e = .returned (.int .i64 n) ∧ Below w.heap.size w w'
theorem Counts.mk {b c : Int} {w w' : World} (h : b = c) (hb : Below w.heap.size w w') : Counts b w (.returned (.int .i64 c)) w' := ⟨by rw [h], hb⟩
end Go.Proofs.Ytfdcopegkhofnaa
