/-
  What the document's walk over a tree tells, up to 251 nodes: their texts and depths. No condition but that no row of kids is longer than a slice may be.
  Steps behind bytes: the program's addStep, the document's own Step. No condition but that there are not too many bytes.
  What 'Great' and 'GreatSteps' of layer 3 answer: where they answer false trees have at most 250 nodes and 20,000 bytes of text, and steps are at most 70. No condition but that no row of kids is longer than a slice may be.
  Bytes, trees and steps that came in, read out of memory. No condition.
  What the program's Number, Text, Node and Steps answer: new bytes. No condition but that there are not too many of them.
-/
import Derived.Test.YteccnekdmehloaaDoorCAddNode
import Derived.Test.YteccnekdmehloaaDoorCWakes
import Derived.ProofKit
import Derived.OpenShut
import Derived.Deep.Slices
import Derived.Deep.Strs
import Derived.Lib.SmallJoins
import Derived.Laws.BytesArg
import Derived.Deep.RegionHeld3
namespace Go.Proofs.YteccnekdmehloaaDoor
open Go.RowKit

/-- The nodes of a tree, in the order of the walk: text and depth. -/
def spFC (d : Int) : Fo → List (ByteArray × Int)
  | .nil => []
  | .node _ _ k l r => (k.2.2, d) :: (spFC (d + 1) l ++ spFC d r)
def spTC (d : Int) (t : Tr) : List (ByteArray × Int) := (t.text, d) :: spFC (d + 1) t.kids
/-- A row of spots of length n. -/
def SpotsC (w : World) (B : Nat) (rv : Value) (n : Nat) (T : List (ByteArray × Int)) : Prop := T.length = n ∧ ∃ xs, w.ownsRow B 40 5 rv n xs ∧ ∀ i p, T[i]? = some p → xs[i * 5 + 2]? = some (.string p.1) ∧ xs[i * 5 + 4]? = some (.int .i64 p.2)
/-- From w to w' the row alone may have been written, and grown into new memory. -/
def GrewC (w w' : World) (rv rv' : Value) : Prop := w.grownBy w' rv.ownBlock ∧ (rv'.ownBlock = rv.ownBlock ∨ ∀ g, rv'.ownBlock = some g → w.heap.size < g)
theorem SpotsC.bounds {w : World} {B : Nat} {rv : Value} {n : Nat} {T : List (ByteArray × Int)} (h : SpotsC w B rv n T) {g : Nat} (hg : rv.ownBlock = some g) : B ≤ g ∧ g < w.heap.size := by
  obtain ⟨_, xs, ho, _⟩ := h
  exact owns_bounds ho hg
theorem GrewC.refl (w : World) (rv : Value) : GrewC w w rv rv := ⟨⟨rfl, rfl, rfl, Nat.le_refl _, fun _ _ _ => rfl⟩, Or.inl rfl⟩

theorem GrewC.low {w wr : World} {B n : Nat} {rv l : Value} {T : List (ByteArray × Int)} (h : GrewC w wr rv l) (hs : SpotsC w B rv n T) (hB : B ≤ w.heap.size) : ∀ k, k < B → wr.heap[k]? = w.heap[k]? := fun k hk =>
  h.1.block k (by omega) (fun e => by have := (hs.bounds e.symm).1; omega)
theorem GrewC.trans {w wr w2 : World} {rv l l2 : Value} (h : GrewC w wr rv l) (h2 : GrewC wr w2 l l2) : GrewC w w2 rv l2 := by
  have hs := h.1.size
  refine ⟨⟨h2.1.os.trans h.1.os, h2.1.tape.trans h.1.tape, h2.1.output.trans h.1.output, Nat.le_trans hs h2.1.size, fun k hk hn => ?_⟩, ?_⟩
  · rw [h2.1.block k (by omega) (fun e => ?_), h.1.block k hk hn]
    rcases h.2 with h' | h'
    · exact hn (e.trans h')
    · have := h' k e.symm; omega
  · rcases h2.2 with h' | h'
    · rw [h']; exact h.2
    · exact Or.inr fun g hg => by have := h' g hg; omega
theorem GrewC.box {w : World} {o : Obj} (rv : Value) : GrewC w (w.alloc o) rv rv := ⟨⟨rfl, rfl, rfl, by simp, fun k hk _ => Below.heap_alloc w o k hk⟩, Or.inl rfl⟩
theorem GrewC.first {w w1 : World} {o1 o2 : Obj} {rv : Value} {gg len cap : Nat} (h : ((w.alloc o1).alloc o2).grownBy w1 rv.ownBlock) (hat : rv.ownBlock = some gg ∨ gg = w.heap.size + 1 + 1) : GrewC w w1 rv (.slice (some ⟨gg, 0, none⟩) len cap) :=
  ⟨⟨h.os, h.tape, h.output, by have := h.size; simp at this; omega, fun k hk hn => by rw [h.block k (by simp; omega) hn, Below.heap_alloc _ _ _ (by simp; omega), Below.heap_alloc _ _ _ hk]⟩,
   hat.elim (fun e => Or.inl (by rw [e]; rfl)) (fun e => Or.inr fun g hg => by simp only [Value.ownBlock, Option.some.injEq] at hg; omega)⟩
theorem SpotsC.box {w : World} {B : Nat} {rv : Value} {n : Nat} {T : List (ByteArray × Int)} (h : SpotsC w B rv n T) (o : Obj) : SpotsC (w.alloc o) B rv n T := by
  obtain ⟨hT, xs, ho, hx⟩ := h
  exact ⟨hT, xs, ho.alloc o, hx⟩
end Go.Proofs.YteccnekdmehloaaDoor
namespace Go.Proofs.YteccnekdmehloaaDoor
open Go.RowKit
open Extern.Stop (cell)

structure Stp where
  op : Int
  id : Int
  parent : Int
  place : Int
  text : ByteArray
  sub : Tr
def StepsAt (w : World) (S : Nat → Prop) (a : Option Addr) (l : List Stp) : Prop :=
  0 < l.length → ∃ b off, a = some ⟨b, off, none⟩ ∧ S b ∧ ∀ k x, l[k]? = some x → ∃ ka cap, w.cell? ⟨b, off + k * 9, none⟩ = some (.int .i8 x.op) ∧ w.cell? ⟨b, off + k * 9 + 1, none⟩ = some (.int .i64 x.id) ∧ w.cell? ⟨b, off + k * 9 + 2, none⟩ = some (.int .i64 x.parent) ∧
    w.cell? ⟨b, off + k * 9 + 3, none⟩ = some (.int .i64 x.place) ∧ w.cell? ⟨b, off + k * 9 + 4, none⟩ = some (.string x.text) ∧ w.cell? ⟨b, off + k * 9 + 5, none⟩ = some (.int .i64 x.sub.id) ∧ w.cell? ⟨b, off + k * 9 + 6, none⟩ = some (.int .i64 x.sub.kind) ∧
    w.cell? ⟨b, off + k * 9 + 7, none⟩ = some (.string x.sub.text) ∧ w.cell? ⟨b, off + k * 9 + 8, none⟩ = some (.slice ka (foLen x.sub.kids) cap) ∧ foLen x.sub.kids ≤ cap ∧ FoAt w S x.sub.kids ka
theorem StepsAt.kept {w w' : World} {S S' : Nat → Prop} {a : Option Addr} {l : List Stp} (h : StepsAt w S a l) (hS : ∀ k, S k → S' k ∧ w'.heap[k]? = w.heap[k]?) : StepsAt w' S' a l := fun h0 => by
  obtain ⟨b, off, e, hb, hc⟩ := h h0
  refine ⟨b, off, e, (hS b hb).1, fun k x hx => ?_⟩
  obtain ⟨ka, cap, c0, c1, c2, c3, c4, c5, c6, c7, c8, hp, hf⟩ := hc k x hx
  have hh := (hS b hb).2
  exact ⟨ka, cap, (World.cell?_of_block hh).trans c0, (World.cell?_of_block hh).trans c1, (World.cell?_of_block hh).trans c2, (World.cell?_of_block hh).trans c3, (World.cell?_of_block hh).trans c4, (World.cell?_of_block hh).trans c5, (World.cell?_of_block hh).trans c6, (World.cell?_of_block hh).trans c7, (World.cell?_of_block hh).trans c8, hp, hf.kept hS⟩
def opByte (n : Int) : UInt8 := UInt8.ofNat (n % 256).toNat
theorem opByte_cell (n : Int) : cell (opByte n) = .int .u8 (n % 256) := by
  have h0 : 0 ≤ n % 256 := Int.emod_nonneg _ (by decide)
  have h1 : n % 256 < 256 := Int.emod_lt_of_pos _ (by decide)
  have e : (opByte n).toNat = (n % 256).toNat := by
    unfold opByte
    rw [UInt8.toNat_ofNat']; omega
  show Value.int .u8 ((opByte n).toNat : Int) = _
  rw [e, Int.toNat_of_nonneg h0]
theorem OwnB.more {B : Nat} {v : Value} {bs : List UInt8} {W0 w : World} {x : UInt8} {c : Int} (hc : cell x = .int .u8 c) (h : OwnS B v (bs.length + 1) (bs.map cell ++ [.int .u8 c]) W0 w) : OwnB B v (bs ++ [x]) W0 w := by
  show OwnS B v (bs ++ [x]).length ((bs ++ [x]).map cell) W0 w
  rw [List.length_append, List.map_append, List.map_singleton, hc]; exact h
end Go.Proofs.YteccnekdmehloaaDoor
namespace Go.Proofs.YteccnekdmehloaaDoor
open Go.RowKit

/-- A tree that is not too great. -/
def Tr.small (t : Tr) : Prop := foSize t.kids + 1 ≤ 250 ∧ trText t ≤ 20000
def Stp.small (s : Stp) : Prop := s.sub.small ∧ s.text.size ≤ 20000
def Stp.fits (s : Stp) : Prop := foLen s.sub.kids ≤ 9223372036854775807 ∧ foFit s.sub.kids
end Go.Proofs.YteccnekdmehloaaDoor
namespace Go.Proofs.YteccnekdmehloaaDoor
open Go.ChangeShapes Go.WideShapes Go.ChangeAt Go.RowKit
open Extern.Stop (cell)

theorem add_blockC (a : Addr) (j : Nat) : (a.add j).block = a.block := by unfold Addr.add; split <;> rfl

def foOfC : List Tr → Fo
  | [] => .nil
  | t :: l => .node 0 0 (t.id, t.kind, t.text) t.kids (foOfC l)
theorem foLen_ofC : ∀ l : List Tr, foLen (foOfC l) = l.length
  | [] => rfl
  | _ :: l => by simp [foOfC, foLen, foLen_ofC l]
def FitsC (t : Tr) : Prop := foLen t.kids ≤ 9223372036854775807 ∧ foFit t.kids

def stepCells (x : Stp) (ka : Option Addr) (cap : Nat) : List Value :=
  [.int .i8 x.op, .int .i64 x.id, .int .i64 x.parent, .int .i64 x.place, .string x.text, .int .i64 x.sub.id, .int .i64 x.sub.kind, .string x.sub.text, .slice ka (foLen x.sub.kids) cap]
instance : Inhabited Tr := ⟨⟨0, 0, ⟨#[]⟩, .nil⟩⟩
theorem cell_num {n : Int} (h : (Lit.int .u8 n).wf = true) : cell (UInt8.ofNat n.toNat) = .int .u8 n := by
  have hb := bounds_u8 h
  have e : n % 256 = n := by omega
  have h3 := opByte_cell n
  unfold opByte at h3
  rw [e] at h3
  exact h3

section
variable {H : Type} {enc : TypeId × Value → H} {w : World} {base : Nat} {spare : Nat → Bool} {held : Bool}

instance : Inhabited Stp := ⟨⟨0, 0, 0, 0, ⟨#[]⟩, default⟩⟩

end

end Go.Proofs.YteccnekdmehloaaDoor
namespace Go.Proofs.YteccnekdmehloaaDoor
open Go.RowKit
open Extern.Stop (cell)

theorem clone_n (w : World) (a : Option Addr) (n cap : Nat) (bs : List UInt8) (hn : n = bs.length) (h : ByAt w a bs) (hl : bs.length ≤ 1000000000000) : Calls Tryd.prog 43 #[.slice a n cap] w (PutC w.heap.size bs w) := by
  subst hn
  exact (clone_bytes w a cap bs h hl).mono fun _ _ ⟨v, h1, h2, h3⟩ => ⟨v, h1, OwnB.of h2 h3⟩
def BoxN (w : World) (id kd : Int) (tx : ByteArray) (ka : Option Addr) (len cap : Nat) (W : World) : Prop := W.cell? ⟨w.heap.size, 0, none⟩ = some (.int .i64 id) ∧ W.cell? ⟨w.heap.size, 1, none⟩ = some (.int .i64 kd) ∧ W.cell? ⟨w.heap.size, 2, none⟩ = some (.string tx) ∧ W.cell? ⟨w.heap.size, 3, none⟩ = some (.slice ka len cap)
theorem boxN_of {w W : World} {id kd : Int} {tx : ByteArray} {ka : Option Addr} {len cap : Nat} (h : W.heap[w.heap.size]? = some (.cells #[.int .i64 id, .int .i64 kd, .string tx, .slice ka len cap] 25 (0, 0))) : BoxN w id kd tx ka len cap W :=
  ⟨by rw [cell_of_row _ _ 0 _ _ _ h]; rfl, by rw [cell_of_row _ _ 1 _ _ _ h]; rfl, by rw [cell_of_row _ _ 2 _ _ _ h]; rfl, by rw [cell_of_row _ _ 3 _ _ _ h]; rfl⟩

set_option maxRecDepth 100000 in
set_option maxHeartbeats 1000000 in
theorem pnode (w : World) (S : Nat → Prop) (nv : Value) (t : Tr) (a : Option Addr) (n cap : Nat) (bs : List UInt8) (hS : ∀ k, S k → k < w.heap.size) (hv : TrAt w S nv t) (hn : n = bs.length) (hby : ByAt w a bs) (hl : bs.length + (encT t).length ≤ 1000000000000) :
    Calls Tryd.prog 26 #[.slice a n cap, nv] w (NewB w (bs ++ encT t)) := by
  obtain ⟨ka, kcap, rfl, hkc, hk⟩ := hv
  obtain ⟨len, hlen⟩ : ∃ len, len = foLen t.kids := ⟨_, rfl⟩
  rw [← hlen]
  have hb1 : Below w.heap.size w (w.alloc (.cells #[.int .i64 t.id, .int .i64 t.kind, .string t.text, .slice ka len kcap] 25)) := (Below.refl _ _).alloc (Nat.le_refl _) _
  have hby1 := hby.below hb1
  have HC := Lib.hid (clone_n (w.alloc (.cells #[.int .i64 t.id, .int .i64 t.kind, .string t.text, .slice ka len kcap] 25)).drew a n cap bs hn hby1 (by omega))
  have hbox := heap_alloc_new w (.cells #[.int .i64 t.id, .int .i64 t.kind, .string t.text, .slice ka len kcap] 25)
  obtain ⟨c0, c1, c2, c3⟩ := boxN_of hbox
  have H := Lib.hid hb1
  have HD : Hid (∀ w2 v1, OwnB (w.alloc (.cells #[.int .i64 t.id, .int .i64 t.kind, .string t.text, .slice ka len kcap] 25)).drew.heap.size v1 bs (w.alloc (.cells #[.int .i64 t.id, .int .i64 t.kind, .string t.text, .slice ka len kcap] 25)).drew w2 → Calls Tryd.prog 47 #[v1, .agg #[.int .i64 t.id, .int .i64 t.kind, .string t.text, .slice ka len kcap]] w2 (PutC (w.alloc (.cells #[.int .i64 t.id, .int .i64 t.kind, .string t.text, .slice ka len kcap] 25)).drew.heap.size (bs ++ encT t) w2)) := Lib.hid fun w2 v1 h1 =>
    addNode_any w2 _ v1 bs S _ t h1.here (fun x hx => Nat.lt_of_lt_of_le (hS x hx) hb1.size) ⟨ka, kcap, by rw [hlen], hkc, hk.kept fun x hx => ⟨hx, (h1.1.2.1.block x (Nat.lt_of_lt_of_le (hS x hx) hb1.size)).trans (hb1.block x (hS x hx))⟩⟩ hl
  have HB : Hid (∀ w2 v1 bs2, OwnB (w.alloc (.cells #[.int .i64 t.id, .int .i64 t.kind, .string t.text, .slice ka len kcap] 25)).drew.heap.size v1 bs2 (w.alloc (.cells #[.int .i64 t.id, .int .i64 t.kind, .string t.text, .slice ka len kcap] 25)).drew w2 → w2.cell? ⟨w.heap.size, 0, none⟩ = some (.int .i64 t.id) ∧ w2.cell? ⟨w.heap.size, 1, none⟩ = some (.int .i64 t.kind) ∧ w2.cell? ⟨w.heap.size, 2, none⟩ = some (.string t.text) ∧ w2.cell? ⟨w.heap.size, 3, none⟩ = some (.slice ka len kcap)) := Lib.hid fun w2 v1 bs2 h1 =>
    boxN_of ((h1.1.2.1.block _ (by show w.heap.size < (w.alloc _).heap.size; rw [World.size_alloc]; omega)).trans hbox)
  clear hS hk hkc hlen hl hbox hby hby1 hn hb1
  go_enter Tryd.func26, Tryd.ntmps26
  go_wp2_with fail
  go_region_held3 (fun W => W.cell? ⟨w.heap.size, 0, none⟩ = some (.int .i64 t.id) ∧ W.cell? ⟨w.heap.size, 1, none⟩ = some (.int .i64 t.kind) ∧ W.cell? ⟨w.heap.size, 2, none⟩ = some (.string t.text) ∧ W.cell? ⟨w.heap.size, 3, none⟩ = some (.slice ka len kcap))
    (first | (go_keep; done) | exact ⟨c0, c1, c2, c3⟩ | exact HB.out _ _ _ h1 | exact HB.out _ _ _ h2)
    (first
      | (go_at_call 43; refine HC.out.mono ?_; rintro e w2 ⟨v1, rfl, h1⟩)
      | (go_at_call 47; refine (HD.out _ _ h1).mono ?_; rintro e w3 ⟨v2, rfl, h2'⟩; have h2 := OwnS.since h1 h2'))
  have HF := Lib.hid h2
  rename_i hheld
  clear h1 h2 h2' hheld c0 c1 c2 c3
  go_wp2_with fail
  go_ret
  have h3 := HF.out
  obtain ⟨a', cap', rfl, h4⟩ := OwnB.byAt h3
  have hd : Below w.heap.size w (w.alloc (.cells #[.int .i64 t.id, .int .i64 t.kind, .string t.text, .slice ka len kcap] 25)).drew := ⟨H.out.os, H.out.tape, H.out.output, H.out.size, H.out.block⟩
  exact ⟨a', _, cap', rfl, rfl, h4, hd.trans (h3.1.2.1.mono H.out.size)⟩

end Go.Proofs.YteccnekdmehloaaDoor
