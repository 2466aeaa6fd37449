/-
  A tree of three nodes, and what is said of it. No condition.
-/
import Derived.Test.YtbbiemnjidfglaaDoorEShow
import Derived.Test.YtbbiemnjidfglaaDoorEWRange
namespace Go.Proofs.YtbbiemnjidfglaaDoor
open Go.RowKit Go.Shelf
attribute [local go_sem] Oper.semAt_some
set_option linter.unusedVariables false
set_option linter.unusedSimpArgs false

theorem run_equalIn_func_nil {P : Program} {w : World} (d : Nat) (t : TypeId) {ps rs : Array TypeId} {vd : Bool} (fn : Fn) (a b : Array Value) (h : P.underlying t = some (.func ps rs vd)) : (Op.equalIn (d + 1) t (.func fn a b) .nilFunc).run P w = .ok false w := by
  simp [Op.equalIn, run_underlying h]
theorem seq_nil (fn : Fn) (a b : Array Value) (W : World) : (binOp BinOp.eql 38 (Value.func fn a b) Value.nilFunc).run Tryd.prog W = .ok (.bool false) W := by
  have h : (Op.equal 38 (.func fn a b) .nilFunc).run Tryd.prog W = .ok false W := run_equalIn_func_nil 9999 _ fn a b Tryd.underlying38
  simp [binOp, h, go_sem]
def someT : Tr := ⟨1, 0, ⟨#[]⟩, .node 0 0 (2, 1, ⟨#[97]⟩) .nil (.node 0 0 (3, 2, ⟨#[]⟩) .nil .nil)⟩
def SomeAt (B : Nat) (X : World) (v : Value) : Prop := ∃ S : Nat → Prop, (∀ x, S x → CellsB X x ∧ B ≤ x) ∧ TrAt X S v someT
theorem someAt_of {X : World} {g : Nat} (h : X.heap[g]? = some (.cells #[.int .i64 2, .int .i64 1, .string ⟨#[97]⟩, .slice none 0 0, .int .i64 3, .int .i64 2, .string ⟨#[]⟩, .slice none 0 0] 24 (0, 0))) : SomeAt g X (.agg #[.int .i64 1, .int .i64 0, .string ⟨#[]⟩, .slice (some ⟨g, 0, none⟩) 2 2]) := by
  refine ⟨fun x => x = g, fun x hx => by rw [hx]; exact ⟨⟨_, _, _, h⟩, Nat.le_refl _⟩, some ⟨g, 0, none⟩, 2, rfl, Nat.le_refl _, g, 0, none, 0, rfl, rfl, ?_, ?_, ?_, ?_, Nat.le_refl _, True.intro, g, 4, none, 0, rfl, rfl, ?_, ?_, ?_, ?_, Nat.le_refl _, True.intro, True.intro⟩
  · rw [cell_of_row _ _ 0 _ _ _ h]; rfl
  · rw [cell_of_row _ _ 1 _ _ _ h]; rfl
  · rw [cell_of_row _ _ 2 _ _ _ h]; rfl
  · rw [cell_of_row _ _ 3 _ _ _ h]; rfl
  · rw [cell_of_row _ _ 4 _ _ _ h]; rfl
  · rw [cell_of_row _ _ 5 _ _ _ h]; rfl
  · rw [cell_of_row _ _ 6 _ _ _ h]; rfl
  · rw [cell_of_row _ _ 7 _ _ _ h]; rfl
theorem some_sp : spF 1 (rootF someT) = [(1, (1, 0, ⟨#[]⟩), someT.kids), (2, (2, 1, ⟨#[97]⟩), .nil), (2, (3, 2, ⟨#[]⟩), .nil)] := rfl
theorem SomeAt.find2 {B : Nat} {w : World} {v : Value} (h : SomeAt B w v) : Calls Tryd.prog 8 #[v, .int .i64 2] w fun e w' => (∃ ka kc, e = .returned (.tuple #[.agg #[.int .i64 2, .int .i64 1, .string ⟨#[97]⟩, .slice ka 0 kc], .bool true])) ∧ Below w.heap.size w w' := by
  obtain ⟨S, hS, ht⟩ := h
  refine (find_any w S v someT 2 (fun x hx => (hS x hx).1) ht (by decide)).mono ?_
  rintro e w' ⟨v', rfl, ht', hb⟩
  have hf : findS 2 (spF 1 (rootF someT)) = some (2, (2, 1, ⟨#[97]⟩), .nil) := by rw [some_sp]; simp [findS]
  rw [hf] at ht' ⊢
  obtain ⟨ka, kc, rfl, _⟩ := ht'
  exact ⟨⟨ka, kc, rfl⟩, hb⟩
theorem SomeAt.find9 {B : Nat} {w : World} {v : Value} (h : SomeAt B w v) : Calls Tryd.prog 8 #[v, .int .i64 9] w fun e w' => (∃ ka kc, e = .returned (.tuple #[.agg #[.int .i64 0, .int .i64 0, .string ⟨#[]⟩, .slice ka 0 kc], .bool false])) ∧ Below w.heap.size w w' := by
  obtain ⟨S, hS, ht⟩ := h
  refine (find_any w S v someT 9 (fun x hx => (hS x hx).1) ht (by decide)).mono ?_
  rintro e w' ⟨v', rfl, ht', hb⟩
  have hf : findS 9 (spF 1 (rootF someT)) = none := by rw [some_sp]; simp [findS]
  rw [hf] at ht' ⊢
  obtain ⟨ka, kc, rfl, _⟩ := ht'
  exact ⟨⟨ka, kc, rfl⟩, hb⟩
theorem SomeAt.count {B : Nat} {w : World} {v : Value} (h : SomeAt B w v) : Calls Tryd.prog 17 #[v] w fun e w' => e = .returned (.int .i64 3) ∧ Below w.heap.size w w' := by
  obtain ⟨S, hS, ht⟩ := h
  exact count_any w S v someT (fun x hx => (hS x hx).1.lt) ht (by decide)
theorem SomeAt.depth {B : Nat} {w : World} {v : Value} (h : SomeAt B w v) : Calls Tryd.prog 19 #[v] w fun e w' => e = .returned (.int .i64 2) ∧ Below w.heap.size w w' := by
  obtain ⟨S, hS, ht⟩ := h
  exact depth_any w S v someT (fun x hx => (hS x hx).1.lt) ht (by decide)
theorem dec1 (n : Nat) (h : n < 10) : Lib.decDigits n = [UInt8.ofNat (48 + n)] := by rw [Lib.decDigits, dif_pos h]
theorem some_show : showT someT = [49, 58, 48, 40, 50, 58, 49, 34, 97, 34, 44, 51, 58, 50, 41] := by
  have i0 : Lib.itoa 0 = [48] := by rw [Lib.itoa, if_neg (by decide)]; exact dec1 0 (by decide)
  have i1 : Lib.itoa 1 = [49] := by rw [Lib.itoa, if_neg (by decide)]; exact dec1 1 (by decide)
  have i2 : Lib.itoa 2 = [50] := by rw [Lib.itoa, if_neg (by decide)]; exact dec1 2 (by decide)
  have i3 : Lib.itoa 3 = [51] := by rw [Lib.itoa, if_neg (by decide)]; exact dec1 3 (by decide)
  have t0 : textL ⟨#[]⟩ = [] := by simp [textL]
  have t1 : textL ⟨#[97]⟩ = [34, 97, 34] := by
    have : (⟨#[97]⟩ : ByteArray) ≠ ⟨#[]⟩ := fun e => by cases e
    rw [textL, if_neg this]; rfl
  rw [showT, some_sp]
  simp only [showL, pieceL, headL, i0, i1, i2, i3, t0, t1, lastD]
  rfl
theorem SomeAt.shown {B : Nat} {w : World} {v : Value} (h : SomeAt B w v) (ht : Tab w) : Calls Tryd.prog 22 #[v] w fun e w' => e = .returned (.string ⟨#[49, 58, 48, 40, 50, 58, 49, 34, 97, 34, 44, 51, 58, 50, 41]⟩) ∧ Below w.heap.size w w' := by
  obtain ⟨S, hS, htr⟩ := h
  refine (show_any w S v someT (fun x hx => (hS x hx).1.lt) htr (by decide) ht (fun x hx => ?_) (by rw [some_show]; decide)).mono ?_
  · rw [some_sp] at hx
    simp only [List.mem_cons, List.not_mem_nil, or_false] at hx
    rcases hx with rfl | rfl | rfl <;> exact ⟨⟨by decide, by decide⟩, by decide, by decide⟩
  · rintro e w' ⟨rfl, hb⟩
    rw [some_show]
    exact ⟨rfl, hb⟩
theorem SomeAt.walk {B : Nat} {w : World} {v : Value} (h : SomeAt B w v) (hB : B ≤ w.heap.size) : Calls Tryd.prog 16 #[v] w fun e w' => ∃ HB BB, e = .returned (.func (.func 31) #[] #[.pointer (some ⟨HB, 0, none⟩), .pointer (some ⟨BB, 0, none⟩)]) ∧ Below w.heap.size w w' ∧ ∃ SS : Nat → Prop, (∀ x, SS x → CellsB w' x ∧ B ≤ x) ∧ WalkAt w' SS someT HB BB := by
  obtain ⟨S, hS, htr⟩ := h
  refine (walk_any w S v someT (fun x hx => (hS x hx).1) htr (by decide)).mono ?_
  rintro e w' ⟨HB, BB, rfl, hb, _, _, hw⟩
  exact ⟨HB, BB, rfl, hb, _, fun x hx => ⟨hx.1, by rcases hx.2 with h | h; exact (hS x h).2; omega⟩, hw⟩
set_option maxRecDepth 100000 in
theorem some_any (w : World) : Calls Tryd.prog 25 #[] w fun e w' => ∃ v, e = .returned v ∧ SomeAt w.heap.size w' v ∧ Below w.heap.size w w' := by
  go_enter Tryd.func25, Tryd.ntmps25
  go_wp2_with fail
  obtain ⟨o1, ho1⟩ : ∃ o1, o1 = Obj.cells #[.int .i64 1, .int .i64 0, .string ⟨#[]⟩, .slice (some ⟨w.heap.size + 1, 0, none⟩) 2 2] 24 (0, 0) := ⟨_, rfl⟩
  obtain ⟨o2, ho2⟩ : ∃ o2, o2 = Obj.cells #[.int .i64 2, .int .i64 1, .string ⟨#[97]⟩, .slice none 0 0, .int .i64 3, .int .i64 2, .string ⟨#[]⟩, .slice none 0 0] 24 (0, 0) := ⟨_, rfl⟩
  have h1 : ((w.alloc o1).alloc o2).heap[w.heap.size]? = some o1 := by rw [Below.heap_alloc _ _ _ (by simp)]; exact heap_alloc_new w o1
  have h2 : ((w.alloc o1).alloc o2).heap[w.heap.size + 1]? = some o2 := by have := heap_alloc_new (w.alloc o1) o2; rw [World.size_alloc] at this; exact this
  have hb : Below w.heap.size w ((w.alloc o1).alloc o2) := ((Below.refl _ w).alloc (Nat.le_refl _) _).alloc (by simp) _
  rw [← ho1, ← ho2]
  refine bodyPost_ret (results_cellW rfl _ _ w.heap.size 24 _ _ _ rfl (h1.trans (congrArg some ho1)) Tryd.underlying24 rfl (by kernel_rfl)) rfl ?_
  obtain ⟨S, hS, hT⟩ := someAt_of (h2.trans (congrArg some ho2))
  exact ⟨_, rfl, ⟨S, fun x hx => ⟨(hS x hx).1, by have := (hS x hx).2; omega⟩, hT⟩, hb⟩
end Go.Proofs.YtbbiemnjidfglaaDoor
