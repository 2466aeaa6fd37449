/-
  What 'SameSteps' and 'Same' answer of two rows of steps, two messages, that are the same. No condition but that their trees have at most a million nodes each.
-/
import Derived.Test.YtklpafognbodhaaMsg
namespace Go.Proofs.Ytklpafognbodhaa
open Go.RowKit

set_option maxRecDepth 100000 in
set_option maxHeartbeats 1000000 in
theorem same_steps (w : World) (S1 S2 : Nat → Prop) (a1 a2 : Option Addr) (n1 n2 : Nat) (l : List Stp) (hl : l.length ≤ 1000000) (hm : ∀ s ∈ l, foSize s.sub.kids ≤ 1000000) (hS1 : ∀ k, S1 k → k < w.heap.size) (hS2 : ∀ k, S2 k → k < w.heap.size) (h1 : StepsAt w S1 a1 l) (h2 : StepsAt w S2 a2 l) :
    Calls Try.prog 42 #[.slice a1 l.length n1, .slice a2 l.length n2] w (YesC w) := by
  obtain ⟨len, hlen⟩ : ∃ len, len = l.length := ⟨_, rfl⟩
  rw [← hlen]
  rw [← hlen] at hl
  have HL := Lib.hid hlen
  have HM := Lib.hid hm
  have HSS := Lib.hid (And.intro hS1 hS2)
  have HH := Lib.hid (And.intro h1 h2)
  clear hlen hm hS1 hS2 h1 h2
  go_enter Try.func42, Try.ntmps42
  go_wp2_with fail
  go_loopw [5] (fun i wr => ∃ k : Nat, k ≤ len ∧ i = .int .i64 k ∧ Below w.heap.size w wr) (fun i _ => len - (intOf i).toNat)
  case atStart => exact ⟨0, Nat.zero_le _, rfl, Below.refl _ _⟩
  case round =>
    obtain ⟨k, hk, rfl, hbel⟩ := hrel
    have HB := Lib.hid hbel
    clear hbel
    by_cases hlt : k < len
    · obtain ⟨x, hx⟩ : ∃ x, l[k]? = some x := ⟨l[k]'(by have := HL.out; omega), List.getElem?_eq_getElem _⟩
      obtain ⟨W, hW⟩ : ∃ W, W = wr.drew := ⟨_, rfl⟩
      have hW0 : Below w.heap.size w W := by rw [hW]; exact below_drewN HB.out 1
      obtain ⟨b, off, rfl, hSb, hc⟩ := (HH.out.1.kept (w' := W) (S' := S1) fun x hx => ⟨hx, hW0.block x (HSS.out.1 x hx)⟩) (by have := HL.out; omega)
      obtain ⟨b', off', rfl, hSb', hd⟩ := (HH.out.2.kept (w' := W) (S' := S2) fun x hx => ⟨hx, hW0.block x (HSS.out.2 x hx)⟩) (by have := HL.out; omega)
      obtain ⟨ka, cap, c0, c1, c2, c3, c4, c5, c6, c7, c8, hf⟩ := hc k x hx
      obtain ⟨ka', cap', d0, d1, d2, d3, d4, d5, d6, d7, d8, hf'⟩ := hd k x hx
      have hsz := hW0.size
      have hcall := same_step W S1 S2 (.agg #[.int .i8 x.op, .int .i64 x.id, .int .i64 x.parent, .int .i64 x.place, .string x.text, .int .i64 x.sub.id, .int .i64 x.sub.kind, .string x.sub.text, .slice ka (foLen x.sub.kids) cap]) (.agg #[.int .i8 x.op, .int .i64 x.id, .int .i64 x.parent, .int .i64 x.place, .string x.text, .int .i64 x.sub.id, .int .i64 x.sub.kind, .string x.sub.text, .slice ka' (foLen x.sub.kids) cap']) x (HM.out x (List.mem_of_getElem? hx)) (fun y hy => Nat.lt_of_lt_of_le (HSS.out.1 y hy) hsz) (fun y hy => Nat.lt_of_lt_of_le (HSS.out.2 y hy) hsz) ⟨ka, cap, rfl, hf⟩ ⟨ka', cap', rfl, hf'⟩
      obtain ⟨m1, hm1⟩ : ∃ m, m = foLen x.sub.kids := ⟨_, rfl⟩
      rw [← hm1] at hcall c8 d8
      have HC := Lib.hid hcall
      have HW := Lib.hid hW
      have HW0 := Lib.hid hW0
      have hkl : (k : Int) < (len : Int) := by omega
      clear hc hd hf hf' hcall hm1 hW hW0 hsz hx hSb hSb'
      go_wp2_with fail
      have hdr : ({ heap := wr.heap, tape := wr.tape, drawn := wr.drawn + 1, os := wr.os, output := wr.output } : World) = W := HW.out.symm
      refine wp_region_still_tail 8 (by kernel_rfl) (by kernel_rfl) ?_
      simp only [List.take_succ_cons, List.take_zero, List.drop_succ_cons, List.drop_zero]
      rw [hdr]
      clear hdr
      repeat still_step
      try refine wpStill_nil ?_
      go_wp2_with (go_at_call 58; refine HC.out.mono ?_; rintro e w2 ⟨rfl, hb2⟩; have HB2 := Lib.hid hb2; clear hb2)
      exact ⟨⟨k + 1, by omega, by go_num, HW0.out.trans (HB2.out.mono HW0.out.size)⟩, by simp [intOf]; omega⟩
    · have hkl : ¬ (k : Int) < (len : Int) := by omega
      go_wp2_with fail
      go_ret
      exact ⟨rfl, HB.out⟩

set_option maxRecDepth 100000 in
set_option maxHeartbeats 1000000 in
theorem same_msg (w : World) (S1 S2 : Nat → Prop) (v1 v2 : Value) (m : Msg) (hm : m.small) (hS1 : ∀ k, S1 k → k < w.heap.size) (hS2 : ∀ k, S2 k → k < w.heap.size) (h1 : MsgAt w S1 v1 m) (h2 : MsgAt w S2 v2 m) :
    Calls Try.prog 18 #[v1, v2] w (YesC w) := by
  obtain ⟨s1, n1, a1, c1, rfl, hs1, ht1⟩ := h1
  obtain ⟨s2, n2, a2, c2, rfl, hs2, ht2⟩ := h2
  have hst := fun w' (hb : Below w.heap.size w w') => same_steps w' S1 S2 s1 s2 n1 n2 m.steps hm.1 hm.2.1 (fun k hk => Nat.lt_of_lt_of_le (hS1 k hk) hb.size) (fun k hk => Nat.lt_of_lt_of_le (hS2 k hk) hb.size) (hs1.kept fun x hx => ⟨hx, hb.block x (hS1 x hx)⟩) (hs2.kept fun x hx => ⟨hx, hb.block x (hS2 x hx)⟩)
  have htr := fun w' (hb : Below w.heap.size w w') => same_yes w' S1 S2 (.agg #[.int .i64 m.tree.id, .int .i64 m.tree.kind, .string m.tree.text, .slice a1 (foLen m.tree.kids) c1]) (.agg #[.int .i64 m.tree.id, .int .i64 m.tree.kind, .string m.tree.text, .slice a2 (foLen m.tree.kids) c2]) m.tree hm.2.2 (fun k hk => Nat.lt_of_lt_of_le (hS1 k hk) hb.size) (fun k hk => Nat.lt_of_lt_of_le (hS2 k hk) hb.size) ⟨a1, c1, rfl, ht1.below hb hS1⟩ ⟨a2, c2, rfl, ht2.below hb hS2⟩
  have HST := Lib.hid hst
  have HTR := Lib.hid htr
  clear hst htr hs1 hs2 ht1 ht2 hm hS1 hS2
  go_enter Try.func18, Try.ntmps18
  go_wp2_with fail
  refine (HST.out _ (two_boxes _ _ _)).mono ?_
  rintro e w2 ⟨rfl, hb⟩
  have hp : w2.heap[w.heap.size]? = some (.cells #[.int .i8 m.kind, .int .i64 m.frm, .int .i64 m.to, .int .i64 m.boot, .int .i64 m.server, .int .i64 m.number, .int .i64 m.node, .int .i64 m.lease, .int .i64 m.epoch, .int .i64 m.version, .int .i64 m.e, .slice s1 m.steps.length n1, .int .i64 m.tree.id, .int .i64 m.tree.kind, .string m.tree.text, .slice a1 (foLen m.tree.kids) c1] 40 (0, 0)) := (hb.block _ (by simp; omega)).trans (heap_alloc2_old w _ _)
  have p12 : w2.cell? ⟨w.heap.size, 12, none⟩ = some (.int .i64 m.tree.id) := by rw [cell_of_row w2 _ 12 _ _ _ hp]; rfl
  have p13 : w2.cell? ⟨w.heap.size, 13, none⟩ = some (.int .i64 m.tree.kind) := by rw [cell_of_row w2 _ 13 _ _ _ hp]; rfl
  have p14 : w2.cell? ⟨w.heap.size, 14, none⟩ = some (.string m.tree.text) := by rw [cell_of_row w2 _ 14 _ _ _ hp]; rfl
  have p15 : w2.cell? ⟨w.heap.size, 15, none⟩ = some (.slice a1 (foLen m.tree.kids) c1) := by rw [cell_of_row w2 _ 15 _ _ _ hp]; rfl
  have hq : w2.heap[w.heap.size + 1]? = some (.cells #[.int .i8 m.kind, .int .i64 m.frm, .int .i64 m.to, .int .i64 m.boot, .int .i64 m.server, .int .i64 m.number, .int .i64 m.node, .int .i64 m.lease, .int .i64 m.epoch, .int .i64 m.version, .int .i64 m.e, .slice s2 m.steps.length n2, .int .i64 m.tree.id, .int .i64 m.tree.kind, .string m.tree.text, .slice a2 (foLen m.tree.kids) c2] 40 (0, 0)) := (hb.block _ (by simp)).trans (heap_alloc2_new w _ _)
  have q12 : w2.cell? ⟨w.heap.size + 1, 12, none⟩ = some (.int .i64 m.tree.id) := by rw [cell_of_row w2 _ 12 _ _ _ hq]; rfl
  have q13 : w2.cell? ⟨w.heap.size + 1, 13, none⟩ = some (.int .i64 m.tree.kind) := by rw [cell_of_row w2 _ 13 _ _ _ hq]; rfl
  have q14 : w2.cell? ⟨w.heap.size + 1, 14, none⟩ = some (.string m.tree.text) := by rw [cell_of_row w2 _ 14 _ _ _ hq]; rfl
  have q15 : w2.cell? ⟨w.heap.size + 1, 15, none⟩ = some (.slice a2 (foLen m.tree.kids) c2) := by rw [cell_of_row w2 _ 15 _ _ _ hq]; rfl
  have HB := Lib.hid ((two_boxes w _ _).trans (hb.mono (two_boxes w _ _).size))
  clear hb hp hq
  go_wp2_with fail
  refine (HTR.out _ HB.out).mono ?_
  rintro e w3 ⟨rfl, hb⟩
  have HB3 := Lib.hid (HB.out.trans (hb.mono HB.out.size))
  clear hb
  go_wp2_with fail
  go_ret
  exact ⟨rfl, HB3.out⟩

end Go.Proofs.Ytklpafognbodhaa
