/-
  Steps and messages in memory; what 'SameStep', 'SameSteps' and 'Same' answer of two that are the same. No condition but that their trees have at most a million nodes each.
-/
import Derived.Test.YtklpafognbodhaaTreeWalk
namespace Go.Proofs.Ytklpafognbodhaa
open Go.RowKit

structure Stp where
  op : Int
  id : Int
  parent : Int
  place : Int
  text : ByteArray
  sub : Tr
structure Msg where
  kind : Int
  frm : Int
  to : Int
  boot : Int
  server : Int
  number : Int
  node : Int
  lease : Int
  epoch : Int
  version : Int
  e : Int
  steps : List Stp
  tree : Tr
def StAt (w : World) (S : Nat → Prop) (v : Value) (s : Stp) : Prop :=
  ∃ ka cap, v = .agg #[.int .i8 s.op, .int .i64 s.id, .int .i64 s.parent, .int .i64 s.place, .string s.text, .int .i64 s.sub.id, .int .i64 s.sub.kind, .string s.sub.text, .slice ka (foLen s.sub.kids) cap] ∧ FoAt w S s.sub.kids ka
def StepsAt (w : World) (S : Nat → Prop) (a : Option Addr) (l : List Stp) : Prop :=
  0 < l.length → ∃ b off, a = some ⟨b, off, none⟩ ∧ S b ∧ ∀ k x, l[k]? = some x → ∃ ka cap, w.cell? ⟨b, off + k * 9, none⟩ = some (.int .i8 x.op) ∧ w.cell? ⟨b, off + k * 9 + 1, none⟩ = some (.int .i64 x.id) ∧ w.cell? ⟨b, off + k * 9 + 2, none⟩ = some (.int .i64 x.parent) ∧
    w.cell? ⟨b, off + k * 9 + 3, none⟩ = some (.int .i64 x.place) ∧ w.cell? ⟨b, off + k * 9 + 4, none⟩ = some (.string x.text) ∧ w.cell? ⟨b, off + k * 9 + 5, none⟩ = some (.int .i64 x.sub.id) ∧ w.cell? ⟨b, off + k * 9 + 6, none⟩ = some (.int .i64 x.sub.kind) ∧
    w.cell? ⟨b, off + k * 9 + 7, none⟩ = some (.string x.sub.text) ∧ w.cell? ⟨b, off + k * 9 + 8, none⟩ = some (.slice ka (foLen x.sub.kids) cap) ∧ FoAt w S x.sub.kids ka
def MsgAt (w : World) (S : Nat → Prop) (v : Value) (m : Msg) : Prop :=
  ∃ sa sc ka cap, v = .agg #[.int .i8 m.kind, .int .i64 m.frm, .int .i64 m.to, .int .i64 m.boot, .int .i64 m.server, .int .i64 m.number, .int .i64 m.node, .int .i64 m.lease, .int .i64 m.epoch, .int .i64 m.version, .int .i64 m.e, .slice sa m.steps.length sc, .int .i64 m.tree.id, .int .i64 m.tree.kind, .string m.tree.text, .slice ka (foLen m.tree.kids) cap] ∧
    StepsAt w S sa m.steps ∧ FoAt w S m.tree.kids ka
/-- Trees of at most a million nodes; rows of at most a million steps. -/
def Msg.small (m : Msg) : Prop := m.steps.length ≤ 1000000 ∧ (∀ s ∈ m.steps, foSize s.sub.kids ≤ 1000000) ∧ foSize m.tree.kids ≤ 1000000
theorem StepsAt.kept {w w' : World} {S S' : Nat → Prop} {a : Option Addr} {l : List Stp} (h : StepsAt w S a l) (hS : ∀ k, S k → S' k ∧ w'.heap[k]? = w.heap[k]?) : StepsAt w' S' a l := fun h0 => by
  obtain ⟨b, off, e, hb, hc⟩ := h h0
  refine ⟨b, off, e, (hS b hb).1, fun k x hx => ?_⟩
  obtain ⟨ka, cap, c0, c1, c2, c3, c4, c5, c6, c7, c8, hf⟩ := hc k x hx
  have hh := (hS b hb).2
  exact ⟨ka, cap, (World.cell?_of_block hh).trans c0, (World.cell?_of_block hh).trans c1, (World.cell?_of_block hh).trans c2, (World.cell?_of_block hh).trans c3, (World.cell?_of_block hh).trans c4, (World.cell?_of_block hh).trans c5, (World.cell?_of_block hh).trans c6, (World.cell?_of_block hh).trans c7, (World.cell?_of_block hh).trans c8, hf.kept hS⟩
theorem MsgAt.kept {w w' : World} {S S' : Nat → Prop} {v : Value} {m : Msg} (h : MsgAt w S v m) (hS : ∀ k, S k → S' k ∧ w'.heap[k]? = w.heap[k]?) : MsgAt w' S' v m := by
  obtain ⟨sa, sc, ka, cap, e, h1, h2⟩ := h
  exact ⟨sa, sc, ka, cap, e, h1.kept hS, h2.kept hS⟩

def YesC (w : World) (e : Ending) (w' : World) : Prop := e = .returned (.bool true) ∧ Below w.heap.size w w'
theorem same_yes (w : World) (S1 S2 : Nat → Prop) (v1 v2 : Value) (t : Tr) (hm : foSize t.kids ≤ 1000000) (hS1 : ∀ k, S1 k → k < w.heap.size) (hS2 : ∀ k, S2 k → k < w.heap.size) (h1 : TrAt w S1 v1 t) (h2 : TrAt w S2 v2 t) :
    Calls Try.prog 43 #[v1, v2] w (YesC w) :=
  (same_any _ w S1 S2 v1 v2 t t (Nat.lt_succ_self _) hm hS1 hS2 h1 h2).mono fun _ _ h => ⟨by rw [h.1, sameT_refl], h.2⟩

set_option maxRecDepth 100000 in
set_option maxHeartbeats 1000000 in
theorem same_step (w : World) (S1 S2 : Nat → Prop) (v1 v2 : Value) (s : Stp) (hm : foSize s.sub.kids ≤ 1000000) (hS1 : ∀ k, S1 k → k < w.heap.size) (hS2 : ∀ k, S2 k → k < w.heap.size) (h1 : StAt w S1 v1 s) (h2 : StAt w S2 v2 s) :
    Calls Try.prog 58 #[v1, v2] w (YesC w) := by
  obtain ⟨a1, n1, rfl, ht1⟩ := h1
  obtain ⟨a2, n2, rfl, ht2⟩ := h2
  have hcall := fun w' (hb : Below w.heap.size w w') => same_yes w' S1 S2 (.agg #[.int .i64 s.sub.id, .int .i64 s.sub.kind, .string s.sub.text, .slice a1 (foLen s.sub.kids) n1]) (.agg #[.int .i64 s.sub.id, .int .i64 s.sub.kind, .string s.sub.text, .slice a2 (foLen s.sub.kids) n2]) s.sub hm (fun k hk => Nat.lt_of_lt_of_le (hS1 k hk) hb.size) (fun k hk => Nat.lt_of_lt_of_le (hS2 k hk) hb.size) ⟨a1, n1, rfl, ht1.below hb hS1⟩ ⟨a2, n2, rfl, ht2.below hb hS2⟩
  have HC := Lib.hid hcall
  clear ht1 ht2
  clear hcall hm hS1 hS2
  go_enter Try.func58, Try.ntmps58
  go_wp2_with fail
  refine (HC.out _ (two_boxes _ _ _)).mono ?_
  rintro e w2 ⟨rfl, hb⟩
  have HB := Lib.hid ((two_boxes _ _ _).trans (hb.mono (two_boxes _ _ _).size))
  clear hb
  go_wp2_with fail
  go_ret
  exact ⟨rfl, HB.out⟩

end Go.Proofs.Ytklpafognbodhaa
