/-
  What 'Copy' answers of a message: the same, in new memory. No condition but that its trees have at most a million nodes each.
-/
import Derived.Test.YtklpafognbodhaaMsgCopy
import Derived.Deep.MidRow
namespace Go.Proofs.Ytklpafognbodhaa
open Go.RowKit

theorem set12 {w : World} {b : Nat} {t : TypeId} {c0 c1 c2 c3 c4 c5 c6 c7 c8 c9 c10 c11 c12 c13 c14 c15 : Value} (h : w.heap[b]? = some (.cells #[c0, c1, c2, c3, c4, c5, c6, c7, c8, c9, c10, c11, c12, c13, c14, c15] t (0, 0))) (u5 u6 u7 u8 : Value) :
    ((((w.setCell ⟨b, 12, none⟩ u5).setCell ⟨b, 13, none⟩ u6).setCell ⟨b, 14, none⟩ u7).setCell ⟨b, 15, none⟩ u8).heap[b]? = some (.cells #[c0, c1, c2, c3, c4, c5, c6, c7, c8, c9, c10, c11, u5, u6, u7, u8] t (0, 0)) ∧
    ((((w.setCell ⟨b, 12, none⟩ u5).setCell ⟨b, 13, none⟩ u6).setCell ⟨b, 14, none⟩ u7).setCell ⟨b, 15, none⟩ u8).heap.size = w.heap.size ∧
    (∀ B, B ≤ b → Below B w ((((w.setCell ⟨b, 12, none⟩ u5).setCell ⟨b, 13, none⟩ u6).setCell ⟨b, 14, none⟩ u7).setCell ⟨b, 15, none⟩ u8)) ∧
    ∀ x, x ≠ b → ((((w.setCell ⟨b, 12, none⟩ u5).setCell ⟨b, 13, none⟩ u6).setCell ⟨b, 14, none⟩ u7).setCell ⟨b, 15, none⟩ u8).heap[x]? = w.heap[x]? := by
  have h0 := heap_setCell_same w b 12 _ _ u5 h
  have h1 := heap_setCell_same _ b 13 _ _ u6 h0
  have h2 := heap_setCell_same _ b 14 _ _ u7 h1
  have h3 := heap_setCell_same _ b 15 _ _ u8 h2
  exact ⟨h3, by simp [World.setCell], fun B hB => ((((Below.refl _ _).setCell hB _).setCell hB _).setCell hB _).setCell hB _, fun x hx => by
    rw [Below.heap_setCell _ _ _ _ hx, Below.heap_setCell _ _ _ _ hx, Below.heap_setCell _ _ _ _ hx, Below.heap_setCell _ _ _ _ hx]⟩

theorem setCells_block {b : Nat} {t : TypeId} : ∀ (vs pre post : List Value) (w : World), w.heap[b]? = some (.cells (pre ++ post).toArray t (0, 0)) → post.length = vs.length →
    (w.setCells b pre.length vs).heap[b]? = some (.cells (pre ++ vs).toArray t (0, 0))
  | [], pre, post, w, h, hl => by
    have : post = [] := List.eq_nil_of_length_eq_zero (by simpa using hl)
    subst this
    exact h
  | v :: r, pre, [], w, h, hl => by simp at hl
  | v :: r, pre, p :: ps, w, h, hl => by
    have h1 := heap_setCell_same w b pre.length _ _ v h
    have e : ((pre ++ p :: ps).toArray.setIfInBounds pre.length v) = ((pre ++ [v]) ++ ps).toArray := by simp
    rw [e] at h1
    have := setCells_block r (pre ++ [v]) ps (w.setCell ⟨b, pre.length, none⟩ v) h1 (by simpa using hl)
    rw [List.length_append, List.append_assoc] at this
    exact this
theorem setCells_frame {b : Nat} : ∀ (vs : List Value) (o : Nat) (w : World), (w.setCells b o vs).heap.size = w.heap.size ∧ (∀ B, B ≤ b → Below B w (w.setCells b o vs)) ∧ ∀ x, x ≠ b → (w.setCells b o vs).heap[x]? = w.heap[x]?
  | [], _, w => ⟨rfl, fun B _ => Below.refl _ _, fun _ _ => rfl⟩
  | v :: r, o, w => by
    obtain ⟨h1, h2, h3⟩ := setCells_frame r (o + 1) (w.setCell ⟨b, o, none⟩ v)
    exact ⟨h1.trans (by simp [World.setCell]), fun B hB => ((Below.refl B w).setCell hB v).trans (h2 B hB), fun x hx => (h3 x hx).trans (Below.heap_setCell _ _ _ _ hx)⟩

def MsgC (w : World) (m : Msg) (e : Ending) (w' : World) : Prop := ∃ v, e = .returned v ∧ MsgAt w' (Fresh w w') v m ∧ Below w.heap.size w w'
set_option maxRecDepth 100000 in
set_option maxHeartbeats 1000000 in
theorem copy_msg (w : World) (S : Nat → Prop) (v : Value) (m : Msg) (hm : m.small) (hS : ∀ k, S k → k < w.heap.size) (h : MsgAt w S v m) :
    Calls Try.prog 41 #[v] w (MsgC w m) := by
  obtain ⟨sa, sc, ka, cap, rfl, hs, ht⟩ := h
  have hst := fun (W : World) (hb : Below w.heap.size w W) => copy_steps W S sa sc m.steps hm.1 hm.2.1 (fun k hk => Nat.lt_of_lt_of_le (hS k hk) hb.size) (hs.kept fun x hx => ⟨hx, hb.block x (hS x hx)⟩)
  have htr := fun (W : World) (hb : Below w.heap.size w W) => copy_any _ W S (.agg #[.int .i64 m.tree.id, .int .i64 m.tree.kind, .string m.tree.text, .slice ka (foLen m.tree.kids) cap]) m.tree (Nat.lt_succ_self _) hm.2.2 (fun k hk => Nat.lt_of_lt_of_le (hS k hk) hb.size) ⟨ka, cap, rfl, ht.below hb hS⟩
  obtain ⟨m1, hm1⟩ : ∃ x, x = foLen m.tree.kids := ⟨_, rfl⟩
  obtain ⟨m2, hm2⟩ : ∃ x, x = m.steps.length := ⟨_, rfl⟩
  rw [← hm1] at htr
  rw [← hm2] at hst
  rw [← hm1, ← hm2]
  have HST := Lib.hid hst
  have HTR := Lib.hid htr
  have HM := Lib.hid (And.intro hm1 hm2)
  clear hst htr hs ht hm hS hm1 hm2
  go_enter Try.func41, Try.ntmps41
  go_wp2_with fail
  have hb0 : Below w.heap.size w (((w.alloc (.cells #[.int .i8 m.kind, .int .i64 m.frm, .int .i64 m.to, .int .i64 m.boot, .int .i64 m.server, .int .i64 m.number, .int .i64 m.node, .int .i64 m.lease, .int .i64 m.epoch, .int .i64 m.version, .int .i64 m.e, .slice sa m2 sc, .int .i64 m.tree.id, .int .i64 m.tree.kind, .string m.tree.text, .slice ka m1 cap] 40)).alloc (.cells #[.int .i8 0, .int .i64 0, .int .i64 0, .int .i64 0, .int .i64 0, .int .i64 0, .int .i64 0, .int .i64 0, .int .i64 0, .int .i64 0, .int .i64 0, .slice none 0 0, .int .i64 0, .int .i64 0, .string ⟨#[]⟩, .slice none 0 0] 40)).alloc (.cells #[.int .i8 m.kind, .int .i64 m.frm, .int .i64 m.to, .int .i64 m.boot, .int .i64 m.server, .int .i64 m.number, .int .i64 m.node, .int .i64 m.lease, .int .i64 m.epoch, .int .i64 m.version, .int .i64 m.e, .slice sa m2 sc, .int .i64 m.tree.id, .int .i64 m.tree.kind, .string m.tree.text, .slice ka m1 cap] 40)) := (((Below.refl _ _).alloc (Nat.le_refl _) _).alloc (by simp) _).alloc (by simp; omega) _
  refine (HST.out _ hb0).mono ?_
  rintro e w2 ⟨sa2, sc2, rfl, hst2, hb2⟩
  rw [← HM.out.2]
  have hz0 : (((w.alloc (.cells #[.int .i8 m.kind, .int .i64 m.frm, .int .i64 m.to, .int .i64 m.boot, .int .i64 m.server, .int .i64 m.number, .int .i64 m.node, .int .i64 m.lease, .int .i64 m.epoch, .int .i64 m.version, .int .i64 m.e, .slice sa m2 sc, .int .i64 m.tree.id, .int .i64 m.tree.kind, .string m.tree.text, .slice ka m1 cap] 40)).alloc (.cells #[.int .i8 0, .int .i64 0, .int .i64 0, .int .i64 0, .int .i64 0, .int .i64 0, .int .i64 0, .int .i64 0, .int .i64 0, .int .i64 0, .int .i64 0, .slice none 0 0, .int .i64 0, .int .i64 0, .string ⟨#[]⟩, .slice none 0 0] 40)).alloc (.cells #[.int .i8 m.kind, .int .i64 m.frm, .int .i64 m.to, .int .i64 m.boot, .int .i64 m.server, .int .i64 m.number, .int .i64 m.node, .int .i64 m.lease, .int .i64 m.epoch, .int .i64 m.version, .int .i64 m.e, .slice sa m2 sc, .int .i64 m.tree.id, .int .i64 m.tree.kind, .string m.tree.text, .slice ka m1 cap] 40)).heap.size = w.heap.size + 3 := by simp
  have h0 : w2.heap[w.heap.size]? = some (.cells #[.int .i8 m.kind, .int .i64 m.frm, .int .i64 m.to, .int .i64 m.boot, .int .i64 m.server, .int .i64 m.number, .int .i64 m.node, .int .i64 m.lease, .int .i64 m.epoch, .int .i64 m.version, .int .i64 m.e, .slice sa m2 sc, .int .i64 m.tree.id, .int .i64 m.tree.kind, .string m.tree.text, .slice ka m1 cap] 40 (0, 0)) := (hb2.block _ (by omega)).trans ((Below.heap_alloc _ _ _ (by simp; omega)).trans (heap_alloc2_old w _ _))
  have h1 : w2.heap[w.heap.size + 1]? = some (.cells #[.int .i8 0, .int .i64 0, .int .i64 0, .int .i64 0, .int .i64 0, .int .i64 0, .int .i64 0, .int .i64 0, .int .i64 0, .int .i64 0, .int .i64 0, .slice none 0 0, .int .i64 0, .int .i64 0, .string ⟨#[]⟩, .slice none 0 0] 40 (0, 0)) := (hb2.block _ (by omega)).trans ((Below.heap_alloc _ _ _ (by simp)).trans (heap_alloc2_new w _ _))
  have h2 : w2.heap[w.heap.size + 1 + 1]? = some (.cells #[.int .i8 m.kind, .int .i64 m.frm, .int .i64 m.to, .int .i64 m.boot, .int .i64 m.server, .int .i64 m.number, .int .i64 m.node, .int .i64 m.lease, .int .i64 m.epoch, .int .i64 m.version, .int .i64 m.e, .slice sa m2 sc, .int .i64 m.tree.id, .int .i64 m.tree.kind, .string m.tree.text, .slice ka m1 cap] 40 (0, 0)) := (hb2.block _ (by omega)).trans (by have := heap_alloc_new ((w.alloc (.cells #[.int .i8 m.kind, .int .i64 m.frm, .int .i64 m.to, .int .i64 m.boot, .int .i64 m.server, .int .i64 m.number, .int .i64 m.node, .int .i64 m.lease, .int .i64 m.epoch, .int .i64 m.version, .int .i64 m.e, .slice sa m2 sc, .int .i64 m.tree.id, .int .i64 m.tree.kind, .string m.tree.text, .slice ka m1 cap] 40)).alloc (.cells #[.int .i8 0, .int .i64 0, .int .i64 0, .int .i64 0, .int .i64 0, .int .i64 0, .int .i64 0, .int .i64 0, .int .i64 0, .int .i64 0, .int .i64 0, .slice none 0 0, .int .i64 0, .int .i64 0, .string ⟨#[]⟩, .slice none 0 0] 40)) (.cells #[.int .i8 m.kind, .int .i64 m.frm, .int .i64 m.to, .int .i64 m.boot, .int .i64 m.server, .int .i64 m.number, .int .i64 m.node, .int .i64 m.lease, .int .i64 m.epoch, .int .i64 m.version, .int .i64 m.e, .slice sa m2 sc, .int .i64 m.tree.id, .int .i64 m.tree.kind, .string m.tree.text, .slice ka m1 cap] 40); simpa using this)
  have p12 : w2.cell? ⟨w.heap.size, 12, none⟩ = some (.int .i64 m.tree.id) := by rw [cell_of_row w2 _ 12 _ _ _ h0]; rfl
  have p13 : w2.cell? ⟨w.heap.size, 13, none⟩ = some (.int .i64 m.tree.kind) := by rw [cell_of_row w2 _ 13 _ _ _ h0]; rfl
  have p14 : w2.cell? ⟨w.heap.size, 14, none⟩ = some (.string m.tree.text) := by rw [cell_of_row w2 _ 14 _ _ _ h0]; rfl
  have p15 : w2.cell? ⟨w.heap.size, 15, none⟩ = some (.slice ka m1 cap) := by rw [cell_of_row w2 _ 15 _ _ _ h0]; rfl
  have q11 : w2.cell? ⟨w.heap.size + 1 + 1, 11, none⟩ = some (.slice sa m2 sc) := by rw [cell_of_row w2 _ 11 _ _ _ h2]; rfl
  have f11 : w2.frozen? ⟨w.heap.size + 1 + 1, 11, none⟩ = false := frozen_of_row w2 _ 11 _ _ h2
  have hs2 : w.heap.size + 1 + 1 < w2.heap.size := lt_of_some h2
  have k0 : (w2.setCell ⟨w.heap.size + 1 + 1, 11, none⟩ (.slice sa2 m2 sc2)).heap[w.heap.size + 1]? = some (.cells #[.int .i8 0, .int .i64 0, .int .i64 0, .int .i64 0, .int .i64 0, .int .i64 0, .int .i64 0, .int .i64 0, .int .i64 0, .int .i64 0, .int .i64 0, .slice none 0 0, .int .i64 0, .int .i64 0, .string ⟨#[]⟩, .slice none 0 0] 40 (0, 0)) := (Below.heap_setCell _ _ _ _ (by show w.heap.size + 1 ≠ w.heap.size + 1 + 1; omega)).trans h1
  have k2 : (w2.setCell ⟨w.heap.size + 1 + 1, 11, none⟩ (.slice sa2 m2 sc2)).heap[w.heap.size + 1 + 1]? = some (.cells #[.int .i8 m.kind, .int .i64 m.frm, .int .i64 m.to, .int .i64 m.boot, .int .i64 m.server, .int .i64 m.number, .int .i64 m.node, .int .i64 m.lease, .int .i64 m.epoch, .int .i64 m.version, .int .i64 m.e, .slice sa2 m2 sc2, .int .i64 m.tree.id, .int .i64 m.tree.kind, .string m.tree.text, .slice ka m1 cap] 40 (0, 0)) := heap_setCell_same w2 _ 11 _ _ _ h2
  have hbW : Below w.heap.size w (w2.setCell ⟨w.heap.size + 1 + 1, 11, none⟩ (.slice sa2 m2 sc2)) := (hb0.trans (hb2.mono (by omega))).setCell (show w.heap.size ≤ w.heap.size + 1 + 1 by omega) _
  have hszW : (w2.setCell ⟨w.heap.size + 1 + 1, 11, none⟩ (.slice sa2 m2 sc2)).heap.size = w2.heap.size := by simp [World.setCell]
  have hst3 : StepsAt (w2.setCell ⟨w.heap.size + 1 + 1, 11, none⟩ (.slice sa2 m2 sc2)) (fun x => w.heap.size + 3 ≤ x ∧ x < w2.heap.size) sa2 m.steps := hst2.kept fun x hx => ⟨⟨by have := hx.1; omega, hx.2⟩, Below.heap_setCell _ _ _ _ (by show x ≠ w.heap.size + 1 + 1; have := hx.1; omega)⟩
  have HW := Lib.hid (And.intro k0 (And.intro k2 (And.intro hbW (And.intro hszW hst3))))
  clear hb0 hst2 hb2 hz0 h0 h1 h2 k0 k2 hbW hszW hst3
  go_wp2_with fail
  refine (HTR.out _ HW.out.2.2.1).mono ?_
  rintro e w3 ⟨_, rfl, ⟨ka3, cap3, rfl, hf3⟩, hb3⟩
  rw [← HM.out.1]
  have hszW := HW.out.2.2.2.1
  have h1 : w3.heap[w.heap.size + 1]? = some (.cells #[.int .i8 0, .int .i64 0, .int .i64 0, .int .i64 0, .int .i64 0, .int .i64 0, .int .i64 0, .int .i64 0, .int .i64 0, .int .i64 0, .int .i64 0, .slice none 0 0, .int .i64 0, .int .i64 0, .string ⟨#[]⟩, .slice none 0 0] 40 (0, 0)) := (hb3.block _ (by omega)).trans HW.out.1
  have h2 : w3.heap[w.heap.size + 1 + 1]? = some (.cells #[.int .i8 m.kind, .int .i64 m.frm, .int .i64 m.to, .int .i64 m.boot, .int .i64 m.server, .int .i64 m.number, .int .i64 m.node, .int .i64 m.lease, .int .i64 m.epoch, .int .i64 m.version, .int .i64 m.e, .slice sa2 m2 sc2, .int .i64 m.tree.id, .int .i64 m.tree.kind, .string m.tree.text, .slice ka m1 cap] 40 (0, 0)) := (hb3.block _ (by omega)).trans HW.out.2.1
  have q12 : w3.cell? ⟨w.heap.size + 1 + 1, 12, none⟩ = some (.int .i64 m.tree.id) := by rw [cell_of_row w3 _ 12 _ _ _ h2]; rfl
  have f12 : w3.frozen? ⟨w.heap.size + 1 + 1, 12, none⟩ = false := frozen_of_row w3 _ 12 _ _ h2
  have q13 : w3.cell? ⟨w.heap.size + 1 + 1, 13, none⟩ = some (.int .i64 m.tree.kind) := by rw [cell_of_row w3 _ 13 _ _ _ h2]; rfl
  have f13 : w3.frozen? ⟨w.heap.size + 1 + 1, 13, none⟩ = false := frozen_of_row w3 _ 13 _ _ h2
  have q14 : w3.cell? ⟨w.heap.size + 1 + 1, 14, none⟩ = some (.string m.tree.text) := by rw [cell_of_row w3 _ 14 _ _ _ h2]; rfl
  have f14 : w3.frozen? ⟨w.heap.size + 1 + 1, 14, none⟩ = false := frozen_of_row w3 _ 14 _ _ h2
  have q15 : w3.cell? ⟨w.heap.size + 1 + 1, 15, none⟩ = some (.slice ka m1 cap) := by rw [cell_of_row w3 _ 15 _ _ _ h2]; rfl
  have f15 : w3.frozen? ⟨w.heap.size + 1 + 1, 15, none⟩ = false := frozen_of_row w3 _ 15 _ _ h2
  have hw := set12 h2 (.int .i64 m.tree.id) (.int .i64 m.tree.kind) (.string m.tree.text) (.slice ka3 m1 cap3)
  obtain ⟨W4, hW4⟩ : ∃ W4, W4 = (((w3.setCell ⟨w.heap.size + 1 + 1, 12, none⟩ (.int .i64 m.tree.id)).setCell ⟨w.heap.size + 1 + 1, 13, none⟩ (.int .i64 m.tree.kind)).setCell ⟨w.heap.size + 1 + 1, 14, none⟩ (.string m.tree.text)).setCell ⟨w.heap.size + 1 + 1, 15, none⟩ (.slice ka3 m1 cap3) := ⟨_, rfl⟩
  rw [← hW4] at hw
  have g1 : W4.heap[w.heap.size + 1]? = some (.cells #[.int .i8 0, .int .i64 0, .int .i64 0, .int .i64 0, .int .i64 0, .int .i64 0, .int .i64 0, .int .i64 0, .int .i64 0, .int .i64 0, .int .i64 0, .slice none 0 0, .int .i64 0, .int .i64 0, .string ⟨#[]⟩, .slice none 0 0] 40 (0, 0)) := (hw.2.2.2 _ (by omega)).trans h1
  have g2 : W4.heap[w.heap.size + 1 + 1]? = some (.cells #[.int .i8 m.kind, .int .i64 m.frm, .int .i64 m.to, .int .i64 m.boot, .int .i64 m.server, .int .i64 m.number, .int .i64 m.node, .int .i64 m.lease, .int .i64 m.epoch, .int .i64 m.version, .int .i64 m.e, .slice sa2 m2 sc2, .int .i64 m.tree.id, .int .i64 m.tree.kind, .string m.tree.text, .slice ka3 m1 cap3] 40 (0, 0)) := hw.1
  have hb4 : Below w.heap.size w W4 := (HW.out.2.2.1.trans (hb3.mono (by omega))).trans (hw.2.2.1 _ (by omega))
  have hs3 : w2.heap.size ≤ w3.heap.size := by have := hb3.size; omega
  have hst4 : StepsAt W4 (fun x => w.heap.size + 3 ≤ x ∧ x < W4.heap.size) sa2 m.steps := HW.out.2.2.2.2.kept fun x hx => ⟨⟨hx.1, by have := hw.2.1; have := hx.2; omega⟩, (hw.2.2.2 x (by have := hx.1; omega)).trans (hb3.block x (by have := hx.2; omega))⟩
  have hf4 : FoAt W4 (fun x => w.heap.size + 3 ≤ x ∧ x < W4.heap.size) m.tree.kids ka3 := hf3.kept fun x hx => ⟨⟨by have := hx.1; omega, by have := hw.2.1; have := hx.2; omega⟩, hw.2.2.2 x (by have := hx.1; omega)⟩
  have hth : W4.there (w.heap.size + 1) 0 (#[.int .i8 m.kind, .int .i64 m.frm, .int .i64 m.to, .int .i64 m.boot, .int .i64 m.server, .int .i64 m.number, .int .i64 m.node, .int .i64 m.lease, .int .i64 m.epoch, .int .i64 m.version, .int .i64 m.e, .slice sa2 m2 sc2, .int .i64 m.tree.id, .int .i64 m.tree.kind, .string m.tree.text, .slice ka3 m1 cap3] : Array Value).size := fun j hj => ⟨by rw [cell_of_row W4 _ _ _ _ _ g1]; simp only [Nat.zero_add]; have hj' : j < (#[.int .i8 0, .int .i64 0, .int .i64 0, .int .i64 0, .int .i64 0, .int .i64 0, .int .i64 0, .int .i64 0, .int .i64 0, .int .i64 0, .int .i64 0, .slice none 0 0, .int .i64 0, .int .i64 0, .string ⟨#[]⟩, .slice none 0 0] : Array Value).size := hj; rw [Array.getElem?_eq_getElem hj']; rfl, frozen_of_row W4 _ _ _ _ g1⟩
  have HE := Lib.hid (And.intro g1 (And.intro g2 (And.intro hb4 (And.intro hst4 (And.intro hf4 hth)))))
  rw [hW4] at HE
  clear hw hW4 g1 g2 hb4 hst4 hf4 hth h1 h2 hszW hs3 hf3 hb3
  go_wp2_with (first
    | (with_reducible refine wpList_load_row rfl 40 (.tmp 3) rfl (w.heap.size + 1 + 1) rfl 40 _ (0, 0) _ HE.out.2.1 Try.underlying40 rfl (by kernel_rfl) ?_)
    | (with_reducible refine wpList_store_mid rfl 40 (.tmp 2) (.tmp 13) rfl (w.heap.size + 1) 0 _ rfl rfl HE.out.2.2.2.2.2 (by kernel_rfl) (by simp [Value.oneCell']) ?_))
  have hE := HE.out
  generalize ((((w3.setCell ⟨w.heap.size + 1 + 1, 12, none⟩ (.int .i64 m.tree.id)).setCell ⟨w.heap.size + 1 + 1, 13, none⟩ (.int .i64 m.tree.kind)).setCell ⟨w.heap.size + 1 + 1, 14, none⟩ (.string m.tree.text)).setCell ⟨w.heap.size + 1 + 1, 15, none⟩ (.slice ka3 m1 cap3)) = W4 at hE ⊢
  obtain ⟨g1, g2, hb4, hst4, hf4, hth⟩ := hE
  have hfin := setCells_block [.int .i8 m.kind, .int .i64 m.frm, .int .i64 m.to, .int .i64 m.boot, .int .i64 m.server, .int .i64 m.number, .int .i64 m.node, .int .i64 m.lease, .int .i64 m.epoch, .int .i64 m.version, .int .i64 m.e, .slice sa2 m2 sc2, .int .i64 m.tree.id, .int .i64 m.tree.kind, .string m.tree.text, .slice ka3 m1 cap3] [] _ W4 g1 rfl
  have hfr := setCells_frame (b := w.heap.size + 1) [.int .i8 m.kind, .int .i64 m.frm, .int .i64 m.to, .int .i64 m.boot, .int .i64 m.server, .int .i64 m.number, .int .i64 m.node, .int .i64 m.lease, .int .i64 m.epoch, .int .i64 m.version, .int .i64 m.e, .slice sa2 m2 sc2, .int .i64 m.tree.id, .int .i64 m.tree.kind, .string m.tree.text, .slice ka3 m1 cap3] 0 W4
  refine bodyPost_ret (results_cell_row rfl _ _ (w.heap.size + 1) 40 _ (0, 0) _ rfl hfin Try.underlying40 rfl (by kernel_rfl)) rfl ?_
  have hS : ∀ x, (w.heap.size + 3 ≤ x ∧ x < W4.heap.size) → Fresh w (W4.setCells (w.heap.size + 1) 0 [.int .i8 m.kind, .int .i64 m.frm, .int .i64 m.to, .int .i64 m.boot, .int .i64 m.server, .int .i64 m.number, .int .i64 m.node, .int .i64 m.lease, .int .i64 m.epoch, .int .i64 m.version, .int .i64 m.e, .slice sa2 m2 sc2, .int .i64 m.tree.id, .int .i64 m.tree.kind, .string m.tree.text, .slice ka3 m1 cap3]) x ∧ (W4.setCells (w.heap.size + 1) 0 [.int .i8 m.kind, .int .i64 m.frm, .int .i64 m.to, .int .i64 m.boot, .int .i64 m.server, .int .i64 m.number, .int .i64 m.node, .int .i64 m.lease, .int .i64 m.epoch, .int .i64 m.version, .int .i64 m.e, .slice sa2 m2 sc2, .int .i64 m.tree.id, .int .i64 m.tree.kind, .string m.tree.text, .slice ka3 m1 cap3]).heap[x]? = W4.heap[x]? := fun x hx => ⟨⟨by have := hx.1; omega, by rw [hfr.1]; exact hx.2⟩, hfr.2.2 x (by have := hx.1; omega)⟩
  exact ⟨_, rfl, ⟨sa2, sc2, ka3, cap3, by rw [← HM.out.1, ← HM.out.2]; rfl, hst4.kept hS, hf4.kept hS⟩, hb4.trans (hfr.2.1 _ (by omega))⟩

end Go.Proofs.Ytklpafognbodhaa
