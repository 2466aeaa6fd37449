/-
  What 'CopySteps' and 'Copy' answer of steps and of a message: the same, in new memory. No condition but that their trees have at most a million nodes each.
-/
import Derived.Test.YtklpafognbodhaaMsgSame
namespace Go.Proofs.Ytklpafognbodhaa
open Go.RowKit

theorem Try.infoSt : (Try.prog.info? 47).map (fun i => (i.size, i.bytes, i.zero.map (fun z => z.cells.size))) = some (9, 104, some 9) := by kernel_rfl

def stepCells (x : Stp) (ka : Option Addr) (cap : Nat) : List Value :=
  [.int .i8 x.op, .int .i64 x.id, .int .i64 x.parent, .int .i64 x.place, .string x.text, .int .i64 x.sub.id, .int .i64 x.sub.kind, .string x.sub.text, .slice ka (foLen x.sub.kids) cap]
/-- The cells of a row of steps. -/
def StRow (w : World) (S : Nat → Prop) : List Stp → List Value → Prop
  | [], xs => xs = []
  | x :: l, xs => ∃ ka cap ys, xs = stepCells x ka cap ++ ys ∧ FoAt w S x.sub.kids ka ∧ StRow w S l ys
theorem StRow.kept {w w' : World} {S S' : Nat → Prop} (hS : ∀ k, S k → S' k ∧ w'.heap[k]? = w.heap[k]?) : ∀ {l : List Stp} {xs : List Value}, StRow w S l xs → StRow w' S' l xs
  | [], _, h => h
  | _ :: _, _, h => by
    obtain ⟨ka, cap, ys, e, hl, hr⟩ := h
    exact ⟨ka, cap, ys, e, hl.kept hS, hr.kept hS⟩
theorem StRow.snoc {w : World} {S : Nat → Prop} {x : Stp} {ka : Option Addr} (hl : FoAt w S x.sub.kids ka) (cap : Nat) : ∀ {l : List Stp} {xs : List Value}, StRow w S l xs → StRow w S (l ++ [x]) (xs ++ stepCells x ka cap)
  | [], xs, h => by subst h; exact ⟨ka, cap, [], by simp, hl, rfl⟩
  | _ :: _, xs, h => by
    obtain ⟨ka', cap', ys, e, hl', hr⟩ := h
    exact ⟨ka', cap', _, by rw [e, List.append_assoc], hl', StRow.snoc hl cap hr⟩
theorem StRow.lies {w : World} {S : Nat → Prop} {g : Nat} : ∀ {l : List Stp} {xs : List Value} (off : Nat), StRow w S l xs → (∀ j u, xs[j]? = some u → w.cell? ⟨g, off + j, none⟩ = some u) →
    ∀ k x, l[k]? = some x → ∃ ka cap, (∀ j u, (stepCells x ka cap)[j]? = some u → w.cell? ⟨g, off + k * 9 + j, none⟩ = some u) ∧ FoAt w S x.sub.kids ka
  | [], _, _, _, _, k, x, hx => by simp at hx
  | y :: l, xs, off, h, hc, k, x, hx => by
    obtain ⟨ka, cap, ys, e, hl, hr⟩ := h
    subst e
    cases k with
    | zero =>
      simp only [List.getElem?_cons_zero, Option.some.injEq] at hx
      subst hx
      refine ⟨ka, cap, fun j u hj => ?_, hl⟩
      rw [Nat.zero_mul, Nat.add_zero]
      exact hc j u (by rw [List.getElem?_append_left (List.getElem?_eq_some_iff.1 hj).1]; exact hj)
    | succ k =>
      have hlen : (stepCells y ka cap).length = 9 := rfl
      obtain ⟨ka', cap', h1, h2⟩ := StRow.lies (off + 9) hr (fun j u hj => by
        have := hc (j + 9) u (by rw [List.getElem?_append_right (by omega), hlen]; simpa using hj)
        rw [show off + 9 + j = off + (j + 9) by omega]; exact this) k x (by simpa using hx)
      refine ⟨ka', cap', fun j u hj => ?_, h2⟩
      rw [show off + (k + 1) * 9 + j = off + 9 + k * 9 + j by omega]
      exact h1 j u hj
theorem StRow.at {w : World} {S : Nat → Prop} {g : Nat} {l : List Stp} {xs : List Value} (h : StRow w S l xs) (hg : S g) (hc : ∀ j u, xs[j]? = some u → w.cell? ⟨g, j, none⟩ = some u) : StepsAt w S (some ⟨g, 0, none⟩) l := fun _ =>
  ⟨g, 0, rfl, hg, fun k x hx => by
    obtain ⟨ka, cap, h1, h2⟩ := StRow.lies 0 h (fun j u hj => by rw [Nat.zero_add]; exact hc j u hj) k x hx
    exact ⟨ka, cap, h1 0 _ rfl, h1 1 _ rfl, h1 2 _ rfl, h1 3 _ rfl, h1 4 _ rfl, h1 5 _ rfl, h1 6 _ rfl, h1 7 _ rfl, h1 8 _ rfl, h2⟩⟩

def MidS (w wr : World) (rv : Value) : Nat → Prop := fun x => w.heap.size ≤ x ∧ x < wr.heap.size ∧ rv.ownBlock ≠ some x
def StepsInv (w : World) (l : List Stp) (k : Nat) (rv : Value) (xs : List Value) (wr : World) : Prop :=
  Below w.heap.size w wr ∧ wr.ownsRow w.heap.size 47 9 rv k xs ∧ StRow wr (MidS w wr rv) (l.take k) xs
def StepsC (w : World) (l : List Stp) (e : Ending) (w' : World) : Prop := ∃ a cap, e = .returned (.slice a l.length cap) ∧ StepsAt w' (Fresh w w') a l ∧ Below w.heap.size w w'

theorem StepsInv.step {w wr W3 w1 : World} {l : List Stp} {k gg cap kc : Nat} {rv : Value} {xs : List Value} {x : Stp} {ka : Option Addr} {o : Obj} (h : StepsInv w l k rv xs wr) (hx : l[k]? = some x) (hb : Below wr.heap.size wr W3)
    (hf : FoAt W3 (fun y => wr.heap.size ≤ y ∧ y < W3.heap.size) x.sub.kids ka)
    (hown : w1.ownsRow w.heap.size 47 9 (.slice (some ⟨gg, 0, none⟩) (k + 1) cap) (k + 1) (xs ++ stepCells x ka kc)) (hgrow : (W3.alloc o).grownBy w1 rv.ownBlock) (hat : rv.ownBlock = some gg ∨ gg = W3.heap.size + 1) :
    StepsInv w l (k + 1) (.slice (some ⟨gg, 0, none⟩) (k + 1) cap) (xs ++ stepCells x ka kc) w1 := by
  obtain ⟨h3, h4, h5⟩ := h
  have hob : ∀ g, rv.ownBlock = some g → w.heap.size ≤ g ∧ g < wr.heap.size := fun g hg => owns_bounds h4 hg
  have hs := hb.size
  have hs0 := h3.size
  have hs1 : W3.heap.size ≤ w1.heap.size := by have := hgrow.size; simp at this; omega
  have old : ∀ y, y < W3.heap.size → rv.ownBlock ≠ some y → w1.heap[y]? = W3.heap[y]? := fun y hy hn => by
    rw [hgrow.block y (by simp; omega) (fun e => hn e.symm), Below.heap_alloc _ _ _ hy]
  have hmid : ∀ y, y < W3.heap.size → rv.ownBlock ≠ some y → w.heap.size ≤ y → MidS w w1 (.slice (some ⟨gg, 0, none⟩) (k + 1) cap) y := fun y hy hn hw => ⟨hw, by omega, fun e => by
    simp only [Value.ownBlock, Option.some.injEq] at e
    rcases hat with hat | hat
    · exact hn (by rw [hat, e])
    · omega⟩
  refine ⟨?_, hown, ?_⟩
  · have hB : Below w.heap.size w (W3.alloc o) := (h3.trans (hb.mono hs0)).alloc (by omega) _
    exact hB.grown hgrow (by simp; omega) (fun g hg => (hob g hg).1)
  · have e : l.take (k + 1) = l.take k ++ [x] := by
      obtain ⟨hk, rfl⟩ := List.getElem?_eq_some_iff.1 hx
      rw [List.take_add_one, List.getElem?_eq_getElem hk]; rfl
    rw [e]
    refine StRow.snoc (hf.kept fun y hy => ?_) kc (h5.kept fun y hy => ?_)
    · have hn : rv.ownBlock ≠ some y := fun e => by have := (hob y e).2; omega
      exact ⟨hmid y hy.2 hn (by omega), old y hy.2 hn⟩
    · exact ⟨hmid y (by have := hy.2.1; omega) hy.2.2 hy.1, (old y (by have := hy.2.1; omega) hy.2.2).trans (hb.block y hy.2.1)⟩

theorem set5 {w : World} {b : Nat} {t : TypeId} {c0 c1 c2 c3 c4 c5 c6 c7 c8 : Value} (h : w.heap[b]? = some (.cells #[c0, c1, c2, c3, c4, c5, c6, c7, c8] t (0, 0))) (u5 u6 u7 u8 : Value) :
    ((((w.setCell ⟨b, 5, none⟩ u5).setCell ⟨b, 6, none⟩ u6).setCell ⟨b, 7, none⟩ u7).setCell ⟨b, 8, none⟩ u8).heap[b]? = some (.cells #[c0, c1, c2, c3, c4, u5, u6, u7, u8] t (0, 0)) ∧
    ((((w.setCell ⟨b, 5, none⟩ u5).setCell ⟨b, 6, none⟩ u6).setCell ⟨b, 7, none⟩ u7).setCell ⟨b, 8, none⟩ u8).heap.size = w.heap.size ∧
    (∀ B, B ≤ b → Below B w ((((w.setCell ⟨b, 5, none⟩ u5).setCell ⟨b, 6, none⟩ u6).setCell ⟨b, 7, none⟩ u7).setCell ⟨b, 8, none⟩ u8)) ∧
    ∀ x, x ≠ b → ((((w.setCell ⟨b, 5, none⟩ u5).setCell ⟨b, 6, none⟩ u6).setCell ⟨b, 7, none⟩ u7).setCell ⟨b, 8, none⟩ u8).heap[x]? = w.heap[x]? := by
  have h0 := heap_setCell_same w b 5 _ _ u5 h
  have h1 := heap_setCell_same _ b 6 _ _ u6 h0
  have h2 := heap_setCell_same _ b 7 _ _ u7 h1
  have h3 := heap_setCell_same _ b 8 _ _ u8 h2
  exact ⟨h3, by simp [World.setCell], fun B hB => ((((Below.refl _ _).setCell hB _).setCell hB _).setCell hB _).setCell hB _, fun x hx => by
    rw [Below.heap_setCell _ _ _ _ hx, Below.heap_setCell _ _ _ _ hx, Below.heap_setCell _ _ _ _ hx, Below.heap_setCell _ _ _ _ hx]⟩

set_option maxRecDepth 100000 in
set_option maxHeartbeats 1000000 in
theorem copy_steps (w : World) (S : Nat → Prop) (a : Option Addr) (cap : Nat) (l : List Stp) (hl : l.length ≤ 1000000) (hm : ∀ s ∈ l, foSize s.sub.kids ≤ 1000000) (hS : ∀ k, S k → k < w.heap.size) (h : StepsAt w S a l) :
    Calls Try.prog 56 #[.slice a l.length cap] w (StepsC w l) := by
  obtain ⟨len, hlen⟩ : ∃ len, len = l.length := ⟨_, rfl⟩
  rw [← hlen]
  rw [← hlen] at hl
  have HL := Lib.hid hlen
  have HM := Lib.hid hm
  have HSS := Lib.hid hS
  have HH := Lib.hid h
  clear hlen hm hS h
  go_enter Try.func56, Try.ntmps56
  go_wp2_with fail
  go_loopw [3, 4] (fun rv i wr => ∃ k xs, k ≤ len ∧ i = .int .i64 k ∧ StepsInv w l k rv xs wr) (fun _ i _ => len - (intOf i).toNat)
  case atStart => exact ⟨0, [], Nat.zero_le _, rfl, Below.refl _ _, World.ownsRow_nil _ _ _ _, rfl⟩
  case round =>
    obtain ⟨k, xs, hk, rfl, hinv⟩ := hrel
    have HI := Lib.hid hinv
    clear hinv
    by_cases hlt : k < len
    · obtain ⟨x, hx⟩ : ∃ x, l[k]? = some x := ⟨l[k]'(by have := HL.out; omega), List.getElem?_eq_getElem _⟩
      obtain ⟨b, off, rfl, hSb, hc⟩ := (HH.out.kept (w' := wr) (S' := S) fun x hx => ⟨hx, HI.out.1.block x (HSS.out x hx)⟩) (by have := HL.out; omega)
      obtain ⟨ka, kcap, c0, c1, c2, c3, c4, c5, c6, c7, c8, hf⟩ := hc k x hx
      have hsz := HI.out.1.size
      have hcall := fun (W : World) (hb : Below wr.heap.size wr W) => copy_any _ W S (.agg #[.int .i64 x.sub.id, .int .i64 x.sub.kind, .string x.sub.text, .slice ka (foLen x.sub.kids) kcap]) x.sub (Nat.lt_succ_self _) (HM.out x (List.mem_of_getElem? hx)) (fun y hy => by have := HSS.out y hy; have := hb.size; omega) ⟨ka, kcap, rfl, hf.kept fun y hy => ⟨hy, hb.block y (by have := HSS.out y hy; omega)⟩⟩
      obtain ⟨m1, hm1⟩ : ∃ m, m = foLen x.sub.kids := ⟨_, rfl⟩
      rw [← hm1] at hcall c8
      have HC := Lib.hid hcall
      have HM1 := Lib.hid hm1
      have HX := Lib.hid hx
      have hkl : (k : Int) < (len : Int) := by omega
      clear hc hf hcall hm1 hsz hx hSb
      go_wp2_with fail
      refine (HC.out _ ((Below.refl _ _).alloc (Nat.le_refl _) _)).mono ?_
      rintro e w2 ⟨_, rfl, ⟨ka2, cap2, rfl, hf2⟩, hb2⟩
      rw [← HM1.out]
      have hp := (hb2.block wr.heap.size (by simp)).trans (heap_alloc_new wr _)
      have q0 : w2.cell? ⟨wr.heap.size, 0, none⟩ = some (.int .i8 x.op) := by rw [cell_of_row w2 _ 0 _ _ _ hp]; rfl
      have q1 : w2.cell? ⟨wr.heap.size, 1, none⟩ = some (.int .i64 x.id) := by rw [cell_of_row w2 _ 1 _ _ _ hp]; rfl
      have q2 : w2.cell? ⟨wr.heap.size, 2, none⟩ = some (.int .i64 x.parent) := by rw [cell_of_row w2 _ 2 _ _ _ hp]; rfl
      have q3 : w2.cell? ⟨wr.heap.size, 3, none⟩ = some (.int .i64 x.place) := by rw [cell_of_row w2 _ 3 _ _ _ hp]; rfl
      have q4 : w2.cell? ⟨wr.heap.size, 4, none⟩ = some (.string x.text) := by rw [cell_of_row w2 _ 4 _ _ _ hp]; rfl
      have q5 : w2.cell? ⟨wr.heap.size, 5, none⟩ = some (.int .i64 x.sub.id) := by rw [cell_of_row w2 _ 5 _ _ _ hp]; rfl
      have q6 : w2.cell? ⟨wr.heap.size, 6, none⟩ = some (.int .i64 x.sub.kind) := by rw [cell_of_row w2 _ 6 _ _ _ hp]; rfl
      have q7 : w2.cell? ⟨wr.heap.size, 7, none⟩ = some (.string x.sub.text) := by rw [cell_of_row w2 _ 7 _ _ _ hp]; rfl
      have q8 : w2.cell? ⟨wr.heap.size, 8, none⟩ = some (.slice ka m1 kcap) := by rw [cell_of_row w2 _ 8 _ _ _ hp]; rfl
      have f5 : w2.frozen? ⟨wr.heap.size, 5, none⟩ = false := frozen_of_row w2 _ 5 _ _ hp
      have f6 : w2.frozen? ⟨wr.heap.size, 6, none⟩ = false := frozen_of_row w2 _ 6 _ _ hp
      have f7 : w2.frozen? ⟨wr.heap.size, 7, none⟩ = false := frozen_of_row w2 _ 7 _ _ hp
      have f8 : w2.frozen? ⟨wr.heap.size, 8, none⟩ = false := frozen_of_row w2 _ 8 _ _ hp
      have hs2 : wr.heap.size < w2.heap.size := lt_of_some hp
      have hw := set5 hp (.int .i64 x.sub.id) (.int .i64 x.sub.kind) (.string x.sub.text) (.slice ka2 m1 cap2)
      obtain ⟨W3, hW3⟩ : ∃ W3, W3 = (((w2.setCell ⟨wr.heap.size, 5, none⟩ (.int .i64 x.sub.id)).setCell ⟨wr.heap.size, 6, none⟩ (.int .i64 x.sub.kind)).setCell ⟨wr.heap.size, 7, none⟩ (.string x.sub.text)).setCell ⟨wr.heap.size, 8, none⟩ (.slice ka2 m1 cap2) := ⟨_, rfl⟩
      rw [← hW3] at hw
      have hs3 : W3.heap.size = w2.heap.size := hw.2.1
      have hb3 : Below wr.heap.size wr W3 := (((Below.refl _ _).alloc (Nat.le_refl _) _).trans (hb2.mono (by simp))).trans (hw.2.2.1 _ (Nat.le_refl _))
      have hf3 : FoAt W3 (fun y => wr.heap.size ≤ y ∧ y < W3.heap.size) x.sub.kids ka2 := hf2.kept fun y hy => ⟨⟨by have := hy.1; simp at this; omega, by have := hy.2; omega⟩, hw.2.2.2 y (by have := hy.1; simp at this; omega)⟩
      have ho : W3.ownsRow w.heap.size 47 9 u3 k xs := owns_kept HI.out.2.1 fun g cur hg _ => hb3.block g (lt_of_some hg)
      have hstep := fun w1 gg cap' h1 h2 h3 => HI.out.step (w1 := w1) (gg := gg) (cap := cap') (kc := cap2) (o := (.cells #[.int .i8 x.op, .int .i64 x.id, .int .i64 x.parent, .int .i64 x.place, .string x.text, .int .i64 x.sub.id, .int .i64 x.sub.kind, .string x.sub.text, .slice ka2 m1 cap2] 47)) HX.out hb3 hf3 h1 h2 h3
      unfold stepCells at hstep
      rw [← HM1.out] at hstep
      have HST := Lib.hid hstep
      obtain ⟨i0, z0, hi0, hz0, hz1, hz2, hz3⟩ := info_wide Try.infoSt
      have hnew : (W3.alloc (.cells #[.int .i8 x.op, .int .i64 x.id, .int .i64 x.parent, .int .i64 x.place, .string x.text, .int .i64 x.sub.id, .int .i64 x.sub.kind, .string x.sub.text, .slice ka2 m1 cap2] 47)).heap[w2.heap.size]? = some (.cells #[.int .i8 x.op, .int .i64 x.id, .int .i64 x.parent, .int .i64 x.place, .string x.text, .int .i64 x.sub.id, .int .i64 x.sub.kind, .string x.sub.text, .slice ka2 m1 cap2] 47 (0, 0)) := by
        rw [← hs3]; exact heap_alloc_new W3 _
      have HNEW := Lib.hid hnew
      have hBw : w.heap.size ≤ W3.heap.size := Nat.le_trans HI.out.1.size hb3.size
      have hszz : (W3.alloc (.cells #[.int .i8 x.op, .int .i64 x.id, .int .i64 x.parent, .int .i64 x.place, .string x.text, .int .i64 x.sub.id, .int .i64 x.sub.kind, .string x.sub.text, .slice ka2 m1 cap2] 47)).heap.size = w2.heap.size + 1 := by simp [hs3]
      have HA := Lib.hid (And.intro ho (And.intro hBw (And.intro hszz hs3)))
      rw [hW3] at HA HNEW HST
      clear hp hw hW3 hb3 hf3 hf2 hb2 ho hstep hnew hBw hszz hs3
      go_wp2_with (at_builtin; refine wpList_append_lies _ rfl (.tmp 20) (.tmp 22) _ rfl w.heap.size 47 i0 z0 9 104 Try.underlying35 hi0 hz0 hz1 hz2 hz3 (by omega) u3 k xs rfl (HA.out.1.alloc _) ⟨w2.heap.size, 0, none⟩ 1 1 [.int .i8 x.op, .int .i64 x.id, .int .i64 x.parent, .int .i64 x.place, .string x.text, .int .i64 x.sub.id, .int .i64 x.sub.kind, .string x.sub.text, .slice ka2 m1 cap2] rfl rfl (World.news_of_block (cs := #[.int .i8 x.op, .int .i64 x.id, .int .i64 x.parent, .int .i64 x.place, .string x.text, .int .i64 x.sub.id, .int .i64 x.sub.kind, .string x.sub.text, .slice ka2 m1 cap2]) (t := 47) (fr := (0, 0)) HNEW.out) (by simp [Value.oneCell']) (by omega) (by unfold maxLen; omega) (by omega) (by have := HA.out.2.1; have := HA.out.2.2.1; have := HA.out.2.2.2; omega) (w2.heap.size + 1) HA.out.2.2.1 ?_; intro gg cap' w1 hown1 hgrow hat hlt1)
      exact ⟨⟨k + 1, _, by omega, by go_num, HST.out _ _ _ hown1 hgrow (by rw [HA.out.2.2.2]; exact hat)⟩, by simp [intOf]; omega⟩
    · have hkk : k = len := by omega
      have hinv := HI.out
      obtain ⟨ra, rcap, rfl⟩ := owns_slice hinv.2.1
      have hrow := hinv.2.2
      rw [hkk, HL.out, List.take_length] at hrow
      have hbel := hinv.1
      have ho := hinv.2.1
      have hst : StepsAt wr (Fresh w wr) ra l := by
        intro h0
        have hg : ∃ g, ra = some ⟨g, 0, none⟩ := by
          rcases ho.2 with ⟨hv, h00⟩ | ⟨g, cap2, cur, hv, _⟩
          · have := HL.out; omega
          · cases hv; exact ⟨g, rfl⟩
        obtain ⟨g, rfl⟩ := hg
        have hgb := owns_bounds ho (g := g) rfl
        exact ((hrow.kept (S' := Fresh w wr) fun y hy => ⟨⟨hy.1, hy.2.1⟩, rfl⟩).at ⟨hgb.1, hgb.2⟩ (fun j u hj => owns_cell ho rfl j u hj)) h0
      have HE := Lib.hid (And.intro hst (And.intro hbel (hkk.trans HL.out)))
      clear hst hbel ho hrow hinv hkk
      go_wp2_with fail
      go_ret
      exact ⟨ra, rcap, by rw [← HE.out.2.2]; rfl, HE.out.1, HE.out.2.1⟩

end Go.Proofs.Ytklpafognbodhaa
