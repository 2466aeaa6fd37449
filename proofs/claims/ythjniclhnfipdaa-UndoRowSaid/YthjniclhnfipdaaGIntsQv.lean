/-
  What a way's rows tell: paths, ids, plainly. No condition.
  Parent: a node's parent, and its place there. No condition but that there are not too many nodes.
  Grammars in memory: plain definitions and their small laws. No condition.
  Which grammars may be, which rows fit: plain definitions and laws. No condition.
  The document's 'rising' and 'may'. No condition but that the row lies where it is said to lie.
  Rows of ints: Index, Contains, Equal of the library, and the document's 'may'. No condition but that the rows lie where they are said to lie.
-/
import Derived.Test.YthjniclhnfipdaaHWayQv
import Derived.Test.YthjniclhnfipdaaHSharedQv
import Derived.Test.YthjniclhnfipdaaRows
import Derived.WalkKit
import Derived.WalkSpells
import Derived.WalkLawsBesides
import Derived.Lib.Hide
import Derived.Deep.RegionHeld3
import Derived.StillTailTactics
import Derived.Deep.QuietTactic
import Derived.BigQuiet
namespace Go.Proofs.Ythjniclhnfipdaa
open Go.RowKit Go.Shelf
set_option linter.unusedVariables false

theorem fpi_root (id : Int) (t : Tr) : fpi id 0 (rootF t) = (pathT id t).map (fun p => 0 :: p) := by
  simp only [rootF, fpi, pathT]
  by_cases h : t.id = id
  · rw [if_pos h, if_pos h]; rfl
  · rw [if_neg h, if_neg h]
    cases fpi id 0 t.kids <;> rfl
theorem chain_drop {root : Fo} : ∀ (j : Nat) (L : List Fr), ChainS root L → ChainS root (L.drop j)
  | 0, _, h => h
  | j + 1, [], h => by simpa using h
  | j + 1, x :: L, h => chain_drop j L h.tail
theorem places_length (L : List Fr) : (places L).length = L.length := by simp [places]
theorem places_drop (L : List Fr) (k : Nat) (hk : k < L.length) : places (L.drop (L.length - 1 - k)) = (places L).take (k + 1) := by
  rw [places, places, ← List.map_take, List.take_reverse]
  congr 3; omega
/-- The k-th row of a way. -/
theorem WayAt.at {w' : World} {S : Nat → Prop} {t : Tr} {id : Int} {rv : Value} {L : List Fr} (h : WayAt w' S t id rv L) {k : Nat} (hk : k < L.length) : ∃ (g n cap b off q c pl : Nat) (u : Tr), rv = .slice (some ⟨g, 0, none⟩) n cap ∧ n = L.length ∧ n ≤ cap ∧ w'.cell? ⟨g, k * 2, none⟩ = some (.slice (some ⟨b, off, none⟩) q c) ∧ w'.cell? ⟨g, k * 2 + 1, none⟩ = some (.int .i64 (pl : Int)) ∧ pl < q ∧ q ≤ foSize t.kids + 1 ∧
    w'.cell? ⟨b, off + pl * 4, none⟩ = some (.int .i64 u.id) ∧ (places L)[k]? = some pl ∧ atT t (((places L).drop 1).take k) = some u := by
  obtain ⟨x, r, hxr⟩ : ∃ x r, L.drop (L.length - 1 - k) = x :: r := by
    cases hd : L.drop (L.length - 1 - k) with
    | nil => have := congrArg List.length hd; rw [List.length_drop, List.length_nil] at this; omega
    | cons x r => exact ⟨x, r, rfl⟩
  have hmem : ∀ y ∈ x :: r, y ∈ L := fun y hy => by rw [← hxr] at hy; exact List.mem_of_mem_drop hy
  have hxk : L.reverse[k]? = some x := by
    rw [List.getElem?_reverse hk]
    have h0 : (L.drop (L.length - 1 - k))[0]? = some x := by rw [hxr]; rfl
    rwa [List.getElem?_drop, Nat.add_zero] at h0
  obtain ⟨a, cap, rfl⟩ := owns_slice h.rows
  have hcap : L.length ≤ cap := by
    rcases h.rows.2 with ⟨hv, h0⟩ | ⟨_, _, _, hv, _, _, h3, _⟩
    · omega
    · cases hv; exact h3
  obtain ⟨g, rfl, hn, c0, c1, _⟩ := RowsAt.at h.rows hxk
  have hch := chain_drop (L.length - 1 - k) L h.chain
  rw [hxr] at hch
  obtain ⟨p, u, hp, hat, hu⟩ := chain_at (t := t) (x :: r) hch (fun y hy => h.ok y (hmem y hy)) x r rfl
  have hok := h.ok x (hmem x (by simp))
  obtain ⟨b0, o0, key, l, q, hd, b, off, ka, kc, ha, hSb, d0, _⟩ := (h.lies x (hmem x (by simp))).1.at x.p.toNat (by have := hok.1; have := hok.2; omega)
  have huk : u = ⟨key.1, key.2.1, key.2.2, l⟩ := by rw [kidF, hd] at hu; cases hu; rfl
  have hpx : x.p = (x.p.toNat : Int) := by have := hok.1; omega
  rw [hpx] at c1
  rw [ha] at c0
  have hl := chain_size _ h.chain x (hmem x (by simp))
  rw [rootF_size] at hl
  have hpl : places L = (places L).take (k + 1) ++ (places L).drop (k + 1) := (List.take_append_drop _ _).symm
  have hpk := places_drop L k hk
  rw [hxr, hp] at hpk
  refine ⟨g, L.length, cap, b, off, foLen x.f, x.cap, x.p.toNat, u, rfl, rfl, hcap, c0, c1, by have := hok.2; have := hok.1; omega, by omega, by rw [huk]; exact d0, ?_, ?_⟩
  · rw [places, List.getElem?_map, hxk]; rfl
  · have e : ((places L).drop 1).take k = p := by
      have h1 : (places L).drop 1 = ((places L).take (k + 1)).drop 1 ++ (places L).drop (k + 1) := by
        have h2 := List.drop_take (i := 1) (j := k + 1) (l := places L)
        rw [h2, Nat.add_sub_cancel]
        have h3 := List.take_append_drop k ((places L).drop 1)
        rw [List.drop_drop] at h3
        rw [Nat.add_comm k 1]
        exact h3.symm
      rw [h1, ← hpk]
      have hlen : p.length = k := by
        have := congrArg List.length hpk
        rw [List.length_take, places_length, List.length_cons] at this; omega
      simp [hlen]
    rw [e]; exact hat
/-- The path that a way tells. -/
theorem WayAt.path {w' : World} {S : Nat → Prop} {t : Tr} {id : Int} {rv : Value} {L : List Fr} (h : WayAt w' S t id rv L) : (L = [] ∧ pathT id t = none) ∨ (∃ p, pathT id t = some p ∧ places L = 0 :: p ∧ L.length = p.length + 1) := by
  have h1 := h.is
  rw [fpi_root] at h1
  rcases h1 with ⟨h1, h2⟩ | ⟨h1, h2⟩
  · left
    refine ⟨h1, ?_⟩
    cases hp : pathT id t with
    | none => rfl
    | some p => rw [hp] at h2; cases h2
  · right
    cases hp : pathT id t with
    | none => rw [hp] at h2; cases h2
    | some p =>
      rw [hp] at h2
      have h3 := Option.some.inj h2
      exact ⟨p, rfl, h3.symm, by rw [← places_length, ← h3]; rfl⟩
theorem WayAt.kept {w w' : World} {S : Nat → Prop} {t : Tr} {id : Int} {rv : Value} {L : List Fr} (h : WayAt w S t id rv L) (hb : Below w.heap.size w w') : WayAt w' S t id rv L :=
  ⟨h.rows.kept fun g hg => hb.block g (owns_bounds h.rows hg).2, h.ok, fun y hy => ⟨(h.lies y hy).1.kept fun k hk => ⟨hk, hb.block k (h.sl k hk)⟩, (h.lies y hy).2⟩, h.chain, h.is, h.few, fun y hy => Nat.lt_of_lt_of_le (h.sl y hy) hb.size⟩
def withinT (a b : Int) (t : Tr) : Bool := match pathT a t, pathT b t with
  | some p, some q => decide (lcp p q = p.length)
  | _, _ => false
end Go.Proofs.Ythjniclhnfipdaa
namespace Go.Proofs.Ythjniclhnfipdaa
open Go.RowKit Go.Shelf
set_option linter.unusedVariables false
set_option linter.unusedSimpArgs false

theorem box_below (w : World) (o : Obj) : Below w.heap.size w (w.alloc o) := (Below.refl _ _).alloc (Nat.le_refl _) _
end Go.Proofs.Ythjniclhnfipdaa
namespace Go.Proofs.Ythjniclhnfipdaa
open Go.RowKit

/-- A slot, a kind, a grammar, plainly. -/
structure Sl where
  kinds : List Int
  least : Int
  most : Int
structure Kd where
  name : ByteArray
  text : Bool
  slots : List Sl
structure Gr where
  kinds : List Kd
  root : Int
instance : Inhabited Sl := ⟨⟨[], 0, 0⟩⟩
instance : Inhabited Kd := ⟨⟨⟨#[]⟩, false, []⟩⟩

/-- A row of ints, of slots, of kinds lies there. -/
def IntsAt (w : World) (a : Option Addr) (l : List Int) : Prop :=
  0 < l.length → ∃ b off, a = some ⟨b, off, none⟩ ∧ b < w.heap.size ∧ ∀ k x, l[k]? = some x → w.cell? ⟨b, off + k, none⟩ = some (.int .i64 x)
def SlotIn (w : World) (b o : Nat) (s : Sl) : Prop :=
  ∃ ka kc, w.cell? ⟨b, o, none⟩ = some (.slice ka s.kinds.length kc) ∧ w.cell? ⟨b, o + 1, none⟩ = some (.int .i64 s.least) ∧ w.cell? ⟨b, o + 2, none⟩ = some (.int .i64 s.most) ∧ IntsAt w ka s.kinds
def SlotsAt (w : World) (a : Option Addr) (l : List Sl) : Prop :=
  0 < l.length → ∃ b off, a = some ⟨b, off, none⟩ ∧ b < w.heap.size ∧ ∀ k s, l[k]? = some s → SlotIn w b (off + k * 3) s
def KindIn (w : World) (b o : Nat) (k : Kd) : Prop :=
  ∃ sa sc, w.cell? ⟨b, o, none⟩ = some (.string k.name) ∧ w.cell? ⟨b, o + 1, none⟩ = some (.bool k.text) ∧ w.cell? ⟨b, o + 2, none⟩ = some (.slice sa k.slots.length sc) ∧ SlotsAt w sa k.slots
def KindsAt (w : World) (a : Option Addr) (l : List Kd) : Prop :=
  0 < l.length → ∃ b off, a = some ⟨b, off, none⟩ ∧ b < w.heap.size ∧ ∀ k x, l[k]? = some x → KindIn w b (off + k * 3) x

theorem IntsAt.below {w w' : World} {a : Option Addr} {l : List Int} (h : IntsAt w a l) (hb : Below w.heap.size w w') : IntsAt w' a l := fun h0 => by
  obtain ⟨b, off, e, hlt, hc⟩ := h h0
  exact ⟨b, off, e, Nat.lt_of_lt_of_le hlt hb.size, fun k x hx => (World.cell?_of_block (hb.block _ hlt)).trans (hc k x hx)⟩
theorem SlotIn.below {w w' : World} {b o : Nat} {s : Sl} (h : SlotIn w b o s) (hlt : b < w.heap.size) (hb : Below w.heap.size w w') : SlotIn w' b o s := by
  obtain ⟨ka, kc, h0, h1, h2, h3⟩ := h
  have e : ∀ j, w'.cell? ⟨b, j, none⟩ = w.cell? ⟨b, j, none⟩ := fun j => World.cell?_of_block (hb.block _ hlt)
  exact ⟨ka, kc, (e _).trans h0, (e _).trans h1, (e _).trans h2, h3.below hb⟩
theorem SlotsAt.below {w w' : World} {a : Option Addr} {l : List Sl} (h : SlotsAt w a l) (hb : Below w.heap.size w w') : SlotsAt w' a l := fun h0 => by
  obtain ⟨b, off, e, hlt, hc⟩ := h h0
  exact ⟨b, off, e, Nat.lt_of_lt_of_le hlt hb.size, fun k x hx => (hc k x hx).below hlt hb⟩
theorem KindIn.below {w w' : World} {b o : Nat} {k : Kd} (h : KindIn w b o k) (hlt : b < w.heap.size) (hb : Below w.heap.size w w') : KindIn w' b o k := by
  obtain ⟨sa, sc, h0, h1, h2, h3⟩ := h
  have e : ∀ j, w'.cell? ⟨b, j, none⟩ = w.cell? ⟨b, j, none⟩ := fun j => World.cell?_of_block (hb.block _ hlt)
  exact ⟨sa, sc, (e _).trans h0, (e _).trans h1, (e _).trans h2, h3.below hb⟩
theorem KindsAt.below {w w' : World} {a : Option Addr} {l : List Kd} (h : KindsAt w a l) (hb : Below w.heap.size w w') : KindsAt w' a l := fun h0 => by
  obtain ⟨b, off, e, hlt, hc⟩ := h h0
  exact ⟨b, off, e, Nat.lt_of_lt_of_le hlt hb.size, fun k x hx => (hc k x hx).below hlt hb⟩

/-- The value of a slot, a kind, a grammar. -/
def SlotV (w : World) (v : Value) (s : Sl) : Prop := ∃ ka kc, v = .agg #[.slice ka s.kinds.length kc, .int .i64 s.least, .int .i64 s.most] ∧ IntsAt w ka s.kinds
def KindV (w : World) (v : Value) (k : Kd) : Prop := ∃ sa sc, v = .agg #[.string k.name, .bool k.text, .slice sa k.slots.length sc] ∧ SlotsAt w sa k.slots
def GrV (w : World) (v : Value) (g : Gr) : Prop := ∃ ka kc, v = .agg #[.slice ka g.kinds.length kc, .int .i64 g.root] ∧ KindsAt w ka g.kinds
theorem SlotV.below {w w' : World} {v : Value} {s : Sl} (h : SlotV w v s) (hb : Below w.heap.size w w') : SlotV w' v s := by obtain ⟨ka, kc, e, h1⟩ := h; exact ⟨ka, kc, e, h1.below hb⟩
theorem KindV.below {w w' : World} {v : Value} {k : Kd} (h : KindV w v k) (hb : Below w.heap.size w w') : KindV w' v k := by obtain ⟨ka, kc, e, h1⟩ := h; exact ⟨ka, kc, e, h1.below hb⟩
theorem GrV.below {w w' : World} {v : Value} {g : Gr} (h : GrV w v g) (hb : Below w.heap.size w w') : GrV w' v g := by obtain ⟨ka, kc, e, h1⟩ := h; exact ⟨ka, kc, e, h1.below hb⟩

/-- No row is longer than may be. -/
def Sl.fits (s : Sl) : Prop := (s.kinds.length : Int) ≤ 9223372036854775807
def Kd.fits (k : Kd) : Prop := (k.name.size : Int) ≤ 9223372036854775807 ∧ (k.slots.length : Int) ≤ 9223372036854775807 ∧ ∀ s ∈ k.slots, s.fits
def Gr.fits (g : Gr) : Prop := (g.kinds.length : Int) ≤ 9223372036854775807 ∧ ∀ k ∈ g.kinds, k.fits
/-- Far below what a machine's number holds. -/
def Sl.few (s : Sl) : Prop := s.kinds.length ≤ 1000000
def Kd.few (k : Kd) : Prop := k.name.size ≤ 1000000 ∧ k.slots.length ≤ 1000000 ∧ ∀ s ∈ k.slots, s.few
def Gr.few (g : Gr) : Prop := g.kinds.length ≤ 1000000 ∧ ∀ k ∈ g.kinds, k.few

/-- A yes or no, and nothing that was there has turned. -/
def Says (b : Bool) (w : World) (e : Ending) (w' : World) : Prop := e = .returned (.bool b) ∧ Below w.heap.size w w'
theorem Says.mk {b c : Bool} {w w' : World} (h : b = c) (hb : Below w.heap.size w w') : Says b w (.returned (.bool c)) w' := ⟨by rw [h], hb⟩
/-- A number likewise. -/
def Counts (n : Int) (w : World) (e : Ending) (w' : World) : Prop := e = .returned (.int .i64 n) ∧ Below w.heap.size w w'
theorem Counts.mk {b c : Int} {w w' : World} (h : b = c) (hb : Below w.heap.size w w') : Counts b w (.returned (.int .i64 c)) w' := ⟨by rw [h], hb⟩
end Go.Proofs.Ythjniclhnfipdaa
namespace Go.Proofs.Ythjniclhnfipdaa

/-- No two have one name. -/
def fresh (l : List Kd) (s : List UInt8) : Bool := l.all fun k => decide (k.name.data.toList ≠ s)
def apart : List Kd → Bool
  | [] => true
  | k :: r => fresh r k.name.data.toList && apart r
theorem fresh_snoc (l : List Kd) (k : Kd) (s : List UInt8) : fresh (l ++ [k]) s = (fresh l s && decide (k.name.data.toList ≠ s)) := by simp [fresh]
theorem apart_snoc : ∀ (l : List Kd) (k : Kd), apart (l ++ [k]) = (apart l && fresh l k.name.data.toList)
  | [], k => by simp [apart, fresh]
  | x :: r, k => by
    rw [List.cons_append, apart, apart, apart_snoc r k, fresh_snoc]
    have e : decide (k.name.data.toList ≠ x.name.data.toList) = decide (x.name.data.toList ≠ k.name.data.toList) := by
      congr 1; simp only [ne_eq, eq_iff_iff]; exact ⟨fun h e => h e.symm, fun h e => h e.symm⟩
    rw [e]
    simp only [fresh, List.all_cons]
    cases List.all r _ <;> cases apart r <;> cases decide (x.name.data.toList ≠ k.name.data.toList) <;> simp
theorem take_snoc {α : Type} {l : List α} {k : Nat} {x : α} (h : l[k]? = some x) : l.take (k + 1) = l.take k ++ [x] := by
  rw [List.take_add_one, h]; rfl
theorem fresh_at {l : List Kd} {s : List UInt8} {k : Nat} {x : Kd} (h : fresh l s = true) (hx : l[k]? = some x) : x.name.data.toList ≠ s := by
  have := List.all_eq_true.1 h x (List.mem_of_getElem? hx)
  simpa using this
theorem fresh_take {l : List Kd} {s : List UInt8} {k : Nat} {x : Kd} (hx : l[k]? = some x) : fresh (l.take (k + 1)) s = (fresh (l.take k) s && decide (x.name.data.toList ≠ s)) := by rw [take_snoc hx, fresh_snoc]
theorem apart_take {l : List Kd} {k : Nat} {x : Kd} (hx : l[k]? = some x) : apart (l.take (k + 1)) = (apart (l.take k) && fresh (l.take k) x.name.data.toList) := by rw [take_snoc hx, apart_snoc]

end Go.Proofs.Ythjniclhnfipdaa
namespace Go.Proofs.Ythjniclhnfipdaa
open Go.RowKit

def Ahead (l : List Int) (k : Nat) (a : Int) : Prop := (k = 0 → a = -1) ∧ ∀ m, k = m + 1 → l[m]? = some a
end Go.Proofs.Ythjniclhnfipdaa
namespace Go.Proofs.Ythjniclhnfipdaa
open Go.RowKit

def hasInt (l : List Int) (x : Int) : Bool := l.any fun y => decide (y = x)
def IdxC (b : Bool) (w : World) (e : Ending) (w' : World) : Prop := ∃ n : Int, e = .returned (.int .i64 n) ∧ (b = true → 0 ≤ n) ∧ (b = false → n < 0) ∧ w = w'
theorem IdxC.yes {b : Bool} {w : World} {k : Nat} (h : b = true) : IdxC b w (.returned (.int .i64 (k : Int))) w := ⟨k, rfl, (fun _ => by omega), (fun e => by rw [h] at e; cases e), rfl⟩
theorem IdxC.no {b : Bool} {w : World} (h : b = false) : IdxC b w (.returned (.int .i64 (-1))) w := ⟨-1, rfl, (fun e => by rw [h] at e; cases e), (fun _ => by omega), rfl⟩
end Go.Proofs.Ythjniclhnfipdaa
