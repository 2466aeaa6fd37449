/-
  What the document says of a tree of five nodes. No condition.
-/
import Derived.Test.YtjppibomjnmjpaaHFirst
import Derived.Test.YtjppibomjnmjpaaHWithin
import Derived.Test.YtjppibomjnmjpaaRInts
namespace Go.Proofs.Ytjppibomjnmjpaa
open Go.RowKit Go.Shelf
set_option linter.unusedVariables false
set_option linter.unusedSimpArgs false

def someT : Tr := ⟨1, 0, ⟨#[]⟩, .node 0 0 (2, 0, ⟨#[]⟩) .nil (.node 0 0 (3, 0, ⟨#[]⟩) (.node 0 0 (4, 0, ⟨#[]⟩) .nil (.node 0 0 (5, 0, ⟨#[]⟩) .nil .nil)) .nil)⟩
def SomeAt (X : World) (v : Value) : Prop := ∃ S : Nat → Prop, (∀ x, S x → x < X.heap.size) ∧ TrAt X S v someT
set_option maxRecDepth 100000 in
theorem some_any (w : World) : Calls Try.prog 30 #[] w fun e w' => ∃ v, e = .returned v ∧ SomeAt w' v ∧ Below w.heap.size w w' := by
  go_enter Try.func30, Try.ntmps30
  go_wp2_with fail
  obtain ⟨o1, ho1⟩ : ∃ o1, o1 = Obj.cells #[.int .i64 1, .int .i64 0, .string ⟨#[]⟩, .slice (some ⟨w.heap.size + 1 + 1, 0, none⟩) 2 2] 24 (0, 0) := ⟨_, rfl⟩
  obtain ⟨o2, ho2⟩ : ∃ o2, o2 = Obj.cells #[.int .i64 4, .int .i64 0, .string ⟨#[]⟩, .slice none 0 0, .int .i64 5, .int .i64 0, .string ⟨#[]⟩, .slice none 0 0] 24 (0, 0) := ⟨_, rfl⟩
  obtain ⟨o3, ho3⟩ : ∃ o3, o3 = Obj.cells #[.int .i64 2, .int .i64 0, .string ⟨#[]⟩, .slice none 0 0, .int .i64 3, .int .i64 0, .string ⟨#[]⟩, .slice (some ⟨w.heap.size + 1, 0, none⟩) 2 2] 24 (0, 0) := ⟨_, rfl⟩
  rw [← ho1, ← ho2, ← ho3]
  change bodyPost _ _ _ _ _ (allocs w [o1, o2, o3])
  have h1 := allocs_at [o1, o2, o3] w 0 _ rfl
  have h2 := allocs_at [o1, o2, o3] w 1 _ rfl
  have h3 := allocs_at [o1, o2, o3] w 2 _ rfl
  have hb := allocs_below [o1, o2, o3] w
  have hs := allocs_size [o1, o2, o3] w
  simp only [List.length_cons, List.length_nil] at hs
  have h1 := h1.trans (congrArg some ho1)
  have h2 := h2.trans (congrArg some ho2)
  have h3 := h3.trans (congrArg some ho3)
  clear ho1 ho2 ho3
  generalize allocs w [o1, o2, o3] = X at h1 h2 h3 hb hs ⊢
  simp only [Nat.add_zero] at h1
  refine bodyPost_ret (results_cellW rfl _ _ w.heap.size 24 _ _ _ rfl h1 Try.underlying24 rfl (by kernel_rfl)) rfl ?_
  refine ⟨_, rfl, ⟨fun x => x = w.heap.size + 1 ∨ x = w.heap.size + 2, fun x hx => by rcases hx with rfl | rfl <;> omega, some ⟨w.heap.size + 2, 0, none⟩, 2, rfl, Nat.le_refl _, ?_⟩, hb⟩
  have k : FoAt X (fun x => x = w.heap.size + 1 ∨ x = w.heap.size + 2) (.node 0 0 (4, 0, ⟨#[]⟩) .nil (.node 0 0 (5, 0, ⟨#[]⟩) .nil .nil)) (some ⟨w.heap.size + 1, 0, none⟩) := by
    refine ⟨_, 0, none, 0, rfl, Or.inl rfl, ?_, ?_, ?_, ?_, Nat.le_refl _, True.intro, _, 4, none, 0, rfl, Or.inl rfl, ?_, ?_, ?_, ?_, Nat.le_refl _, True.intro, True.intro⟩
    · rw [cell_of_row _ _ 0 _ _ _ h2]; rfl
    · rw [cell_of_row _ _ 1 _ _ _ h2]; rfl
    · rw [cell_of_row _ _ 2 _ _ _ h2]; rfl
    · rw [cell_of_row _ _ 3 _ _ _ h2]; rfl
    · rw [cell_of_row _ _ 4 _ _ _ h2]; rfl
    · rw [cell_of_row _ _ 5 _ _ _ h2]; rfl
    · rw [cell_of_row _ _ 6 _ _ _ h2]; rfl
    · rw [cell_of_row _ _ 7 _ _ _ h2]; rfl
  refine ⟨_, 0, none, 0, rfl, Or.inr rfl, ?_, ?_, ?_, ?_, Nat.le_refl _, True.intro, _, 4, some ⟨w.heap.size + 1, 0, none⟩, 2, rfl, Or.inr rfl, ?_, ?_, ?_, ?_, Nat.le_refl _, k, True.intro⟩
  · rw [cell_of_row _ _ 0 _ _ _ h3]; rfl
  · rw [cell_of_row _ _ 1 _ _ _ h3]; rfl
  · rw [cell_of_row _ _ 2 _ _ _ h3]; rfl
  · rw [cell_of_row _ _ 3 _ _ _ h3]; rfl
  · rw [cell_of_row _ _ 4 _ _ _ h3]; rfl
  · rw [cell_of_row _ _ 5 _ _ _ h3]; rfl
  · rw [cell_of_row _ _ 6 _ _ _ h3]; rfl
  · rw [cell_of_row _ _ 7 _ _ _ h3]; rfl
theorem some_small : foSize someT.kids ≤ 400000 := by decide
theorem SomeAt.parent {w : World} {v : Value} (h : SomeAt w v) : Calls Try.prog 10 #[v, .int .i64 5] w fun e w' => e = .returned (.tuple #[.int .i64 3, .int .i64 1, .bool true]) ∧ Below w.heap.size w w' := by
  obtain ⟨S, hS, ht⟩ := h
  have e : parentT 5 someT = (3, 1, true) := by decide
  have := parent_any w S v someT 5 hS ht some_small
  rw [e] at this; exact this
theorem SomeAt.path {w : World} {v : Value} (h : SomeAt w v) : Calls Try.prog 18 #[v, .int .i64 5] w (PathC w (some [1, 1])) := by
  obtain ⟨S, hS, ht⟩ := h
  have e : pathT 5 someT = some [1, 1] := by decide
  have := path_any w S v someT 5 hS ht some_small
  rw [e] at this; exact this
theorem SomeAt.common4 {w : World} {v : Value} (h : SomeAt w v) : Calls Try.prog 22 #[v, .int .i64 4, .int .i64 5] w fun e w' => e = .returned (.tuple #[.int .i64 3, .bool true]) ∧ Below w.heap.size w w' := by
  obtain ⟨S, hS, ht⟩ := h
  have e : commonT 4 5 someT = (3, true) := by decide
  have := common_any w S v someT 4 5 hS ht some_small
  rw [e] at this; exact this
theorem SomeAt.common2 {w : World} {v : Value} (h : SomeAt w v) : Calls Try.prog 22 #[v, .int .i64 2, .int .i64 5] w fun e w' => e = .returned (.tuple #[.int .i64 1, .bool true]) ∧ Below w.heap.size w w' := by
  obtain ⟨S, hS, ht⟩ := h
  have e : commonT 2 5 someT = (1, true) := by decide
  have := common_any w S v someT 2 5 hS ht some_small
  rw [e] at this; exact this
theorem SomeAt.above {w : World} {v : Value} (h : SomeAt w v) : Calls Try.prog 14 #[v, .int .i64 4] w (IntsC w [3, 1]) := by
  obtain ⟨S, hS, ht⟩ := h
  have e : aboveT 4 someT = [3, 1] := by decide
  have := gather_any w S v someT 4 hS ht some_small
  rw [e] at this; exact this
theorem SomeAt.within3 {w : World} {v : Value} (h : SomeAt w v) : Calls Try.prog 16 #[v, .int .i64 3, .int .i64 4] w fun e w' => e = .returned (.bool true) ∧ Below w.heap.size w w' := by
  obtain ⟨S, hS, ht⟩ := h
  have e : withinT 3 4 someT = true := by decide
  have := within_any w S v someT 3 4 hS ht some_small
  rw [e] at this; exact this
theorem SomeAt.within2 {w : World} {v : Value} (h : SomeAt w v) : Calls Try.prog 16 #[v, .int .i64 2, .int .i64 4] w fun e w' => e = .returned (.bool false) ∧ Below w.heap.size w w' := by
  obtain ⟨S, hS, ht⟩ := h
  have e : withinT 2 4 someT = false := by decide
  have := within_any w S v someT 2 4 hS ht some_small
  rw [e] at this; exact this
/-- Are the numbers in a row those of two? -/
theorem ints_two (w : World) (B : Nat) (v : Value) (x y : Int) (o : Obj) (ho : o = .cells #[.int .i64 x, .int .i64 y] 3 (0, 0)) (hv : w.ownsRow B 3 1 v 2 ([x, y].map intV)) :
    Calls Try.prog 13 #[v, .slice (some ⟨w.heap.size, 0, none⟩) 2 2] (w.alloc o) fun e w' => e = .returned (.bool true) ∧ Below w.heap.size w w' := by
  have h1 := hv.alloc o
  have h2 : (w.alloc o).ownsRow 0 3 1 (.slice (some ⟨w.heap.size, 0, none⟩) 2 2) 2 ([x, y].map intV) := ⟨rfl, Or.inr ⟨_, 2, _, rfl, Nat.zero_le _, by rw [ho]; exact heap_alloc_new w _, by simp, by unfold maxLen; omega, by simp, by simp [intV]⟩⟩
  refine (ints_any (w.alloc o) B 0 v _ [x, y] [x, y] h1 h2 (by simp) (by simp)).mono ?_
  rintro e w' ⟨rfl, hb⟩
  rw [decide_eq_true rfl]
  exact ⟨rfl, (box_below w o).trans (hb.mono (box_below w o).size)⟩
set_option maxRecDepth 100000 in
set_option maxHeartbeats 4000000 in
theorem wakes_any (w : World) : Calls Try.prog 9 #[] w fun e w' => e = .returned (.bool true) ∧ Below w.heap.size w w' := by
  have HB := Lib.hid (Below.refl w.heap.size w)
  go_enter Try.func9, Try.ntmps9
  go_wp2_with fail
  refine (some_any w).mono ?_
  rintro e x1 ⟨v1, rfl, hs, hb⟩
  have HB := Lib.hid (HB.out.trans (hb.mono HB.out.size))
  clear hb
  go_wp2_with fail
  refine hs.parent.mono ?_
  rintro e x2 ⟨rfl, hb⟩
  have HB := Lib.hid (HB.out.trans (hb.mono HB.out.size))
  clear hb hs
  go_wp2_with fail
  refine (some_any x2).mono ?_
  rintro e x3 ⟨v3, rfl, hs, hb⟩
  have HB := Lib.hid (HB.out.trans (hb.mono HB.out.size))
  clear hb
  go_wp2_with fail
  refine hs.path.mono ?_
  rintro e x4 ⟨pv, rfl, hpo, hb⟩
  have HB := Lib.hid (HB.out.trans (hb.mono HB.out.size))
  have HBP := Lib.hid (Below.refl x4.heap.size x4)
  have HPO := Lib.hid hpo
  clear hpo
  obtain ⟨pa, pc, rfl⟩ := owns_slice HPO.out
  simp only [Option.getD_some, natI, List.length_map, List.length_cons, List.length_nil, Nat.zero_add, Nat.reduceAdd, Option.isSome_some]
  clear hb hs
  go_wp2_with fail
  refine (some_any x4).mono ?_
  rintro e x5 ⟨v5, rfl, hs, hb⟩
  have HB := Lib.hid (HB.out.trans (hb.mono HB.out.size))
  have HBP := Lib.hid (HBP.out.trans (hb.mono HBP.out.size))
  clear hb
  go_wp2_with fail
  refine hs.common4.mono ?_
  rintro e x6 ⟨rfl, hb⟩
  have HB := Lib.hid (HB.out.trans (hb.mono HB.out.size))
  have HBP := Lib.hid (HBP.out.trans (hb.mono HBP.out.size))
  clear hb hs
  go_wp2_with fail
  refine (some_any x6).mono ?_
  rintro e x7 ⟨v7, rfl, hs, hb⟩
  have HB := Lib.hid (HB.out.trans (hb.mono HB.out.size))
  have HBP := Lib.hid (HBP.out.trans (hb.mono HBP.out.size))
  clear hb
  go_wp2_with fail
  refine hs.common2.mono ?_
  rintro e x8 ⟨rfl, hb⟩
  have HB := Lib.hid (HB.out.trans (hb.mono HB.out.size))
  have HBP := Lib.hid (HBP.out.trans (hb.mono HBP.out.size))
  clear hb hs
  have hpo := owns_kept HPO.out (w' := x8) (fun g cur hc _ => HBP.out.block g (lt_of_some hc))
  have hin := ints_two x8 _ _ 1 1 _ rfl hpo
  have HIN := Lib.hid hin
  clear hin hpo
  go_wp2_with fail
  refine HIN.out.mono ?_
  rintro e x9 ⟨rfl, hb⟩
  have HB := Lib.hid (HB.out.trans (hb.mono HB.out.size))
  clear hb
  go_wp2_with fail
  refine (some_any x9).mono ?_
  rintro e x10 ⟨v10, rfl, hs, hb⟩
  have HB := Lib.hid (HB.out.trans (hb.mono HB.out.size))
  clear hb
  go_wp2_with fail
  refine hs.above.mono ?_
  rintro e x11 ⟨av, rfl, hao, hb⟩
  have HB := Lib.hid (HB.out.trans (hb.mono HB.out.size))
  clear hb hs
  obtain ⟨aa, ac, rfl⟩ := owns_slice hao
  have hin := ints_two x11 _ _ 3 1 _ rfl hao
  have HIN := Lib.hid hin
  clear hin hao
  go_wp2_with fail
  refine HIN.out.mono ?_
  rintro e x12 ⟨rfl, hb⟩
  have HB := Lib.hid (HB.out.trans (hb.mono HB.out.size))
  clear hb
  go_wp2_with fail
  refine (some_any x12).mono ?_
  rintro e x13 ⟨v13, rfl, hs, hb⟩
  have HB := Lib.hid (HB.out.trans (hb.mono HB.out.size))
  clear hb
  go_wp2_with fail
  refine hs.within3.mono ?_
  rintro e x14 ⟨rfl, hb⟩
  have HB := Lib.hid (HB.out.trans (hb.mono HB.out.size))
  clear hb hs
  go_wp2_with fail
  refine (some_any x14).mono ?_
  rintro e x15 ⟨v15, rfl, hs, hb⟩
  have HB := Lib.hid (HB.out.trans (hb.mono HB.out.size))
  clear hb
  go_wp2_with fail
  refine hs.within2.mono ?_
  rintro e x16 ⟨rfl, hb⟩
  have HB := Lib.hid (HB.out.trans (hb.mono HB.out.size))
  clear hb hs
  go_wp2_with fail
  go_ret
  exact ⟨rfl, HB.out⟩
end Go.Proofs.Ytjppibomjnmjpaa
