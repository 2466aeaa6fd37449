/-
  Show: what it writes, plainly, and what a round of its walk keeps. No condition.
-/
import Derived.Test.YteccnekdmehloaaDoorEQuote
import Derived.Test.YteccnekdmehloaaDoorEFind
namespace Go.Proofs.YteccnekdmehloaaDoor
open Go.RowKit Go.Shelf
open Extern.Stop (cell)
set_option linter.unusedVariables false

def headL (k : Int × Int × ByteArray) : List UInt8 := Lib.itoa k.1 ++ [58] ++ Lib.itoa k.2.1
def textL (s : ByteArray) : List UInt8 := if s = ⟨#[]⟩ then [] else quoL s.data.toList
def pieceL (a : Nat) (x : Sp) : List UInt8 := betwL a x.1 ++ (headL x.2.1 ++ textL x.2.1.2.2)
def showL : Nat → List Sp → List UInt8
  | _, [] => []
  | a, x :: l => pieceL a x ++ showL x.1 l
def lastD : Nat → List Sp → Nat
  | a, [] => a
  | _, x :: l => lastD x.1 l
theorem lastD_snoc : ∀ (l : List Sp) (a : Nat) (x : Sp), lastD a (l ++ [x]) = x.1
  | [], _, _ => rfl
  | y :: l, _, x => lastD_snoc l y.1 x
theorem showL_append : ∀ (l m : List Sp) (a : Nat), showL a (l ++ m) = showL a l ++ showL (lastD a l) m
  | [], _, _ => rfl
  | x :: l, m, a => by simp [showL, lastD, showL_append l m x.1, List.append_assoc]
theorem showL_snoc (l : List Sp) (a : Nat) (x : Sp) : showL a (l ++ [x]) = showL a l ++ pieceL (lastD a l) x := by
  rw [showL_append]; simp [showL]
/-- What Show writes of a tree. -/
def showT (t : Tr) : List UInt8 := showL 0 (spF 1 (rootF t)) ++ closeL (lastD 0 (spF 1 (rootF t)) - 1)
theorem quoL_length (l : List UInt8) : l.length + 2 ≤ (quoL l).length := by
  have : ∀ m : List UInt8, m.length ≤ (m.flatMap escB).length := fun m => by
    induction m with
    | nil => simp
    | cons u m ih => have := (escB_length u).1; simp only [List.flatMap_cons, List.length_append, List.length_cons]; omega
  have := this l
  simp only [quoL, List.length_cons, List.length_append, List.length_nil]; omega
theorem textL_size (s : ByteArray) : s.size ≤ (textL s).length := by
  unfold textL
  split
  · rename_i h; rw [h]; simp; rfl
  · have := quoL_length s.data.toList
    have h2 : s.data.toList.length = s.size := Array.length_toList
    omega

def ShowR (w W : World) (ro : Obj) (pre : List Sp) (T : Nat → Prop) (V : World) : Prop :=
  Below w.heap.size w V ∧ W.heap.size ≤ V.heap.size ∧ V.heap[w.heap.size + 3]? = some ro ∧ V.heap[w.heap.size + 2]? = some (.cells #[.int .i64 (lastD 0 pre : Int)] 3 (0, 0)) ∧ Bld w.heap.size (w.heap.size + 1) T (showL 0 pre) V
theorem ShowR.turn {w W V V' : World} {ro : Obj} {pre : List Sp} {T T' : Nat → Prop} (hW : W.heap.size = w.heap.size + 5) (h : ShowR w W ro pre T V) (hT : ∀ x, T x → W.heap.size ≤ x) (ht : Touched V V' (fun x => T x ∨ (W.heap.size ≤ x ∧ NonCells V x))) (hw : Wider T T' V V') : ShowR w W ro pre T' V' := by
  obtain ⟨h1, h2, h3, h4, h5⟩ := h
  have hk := low_kept h2 hT ht
  refine ⟨⟨ht.os.trans h1.os, ht.tape.trans h1.tape, ht.output.trans h1.output, Nat.le_trans h1.size ht.size, fun x hx => (hk x (by omega)).trans (h1.block x hx)⟩, Nat.le_trans h2 ht.size, (hk _ (by omega)).trans h3, (hk _ (by omega)).trans h4, h5.kept ht.size (hk _ (by omega)) (fun g cur fr hg hTg => ht.block g (lt_of_heap hg) (fun e => ?_)) (fun x hx => (hw x hx).imp id (fun h => h.1))⟩
  rcases e with e | ⟨_, o, ho, hoc⟩
  · exact hTg e
  · rw [hg] at ho; cases ho; cases hoc

/-- What stands in a round. -/
structure InR (w V1 : World) (S T : Nat → Prop) (ro : Obj) (l : List UInt8) (a : Nat) (X : World) : Prop where
  below : Below w.heap.size w X
  size : V1.heap.size ≤ X.heap.size
  root : X.heap[w.heap.size + 3]? = some ro
  ahead : X.heap[w.heap.size + 2]? = some (.cells #[.int .i64 (a : Int)] 3 (0, 0))
  bld : Bld w.heap.size (w.heap.size + 1) T l X
  keep : ∀ x, x < V1.heap.size → (T x ∨ (S x ∨ x = w.heap.size + 3) ∨ NonCells V1 x) → X.heap[x]? = V1.heap[x]?
theorem InR.then {w V1 X Y : World} {S T : Nat → Prop} {ro : Obj} {l : List UInt8} {a : Nat} (h : InR w V1 S T ro l a X) (hb : Below X.heap.size X Y) : InR w V1 S T ro l a Y :=
  ⟨h.below.trans (hb.mono h.below.size), Nat.le_trans h.size hb.size, (hb.block _ (lt_of_heap h.root)).trans h.root, (hb.block _ (lt_of_heap h.ahead)).trans h.ahead,
    h.bld.kept hb.size (by obtain ⟨p, v, _, hx, _⟩ := h.bld.at_; exact hb.block _ (lt_of_heap hx)) (fun g cur fr hg _ => hb.block g (lt_of_heap hg)) (fun x hx => Or.inl hx),
    fun x hx hg => (hb.block x (by have := h.size; omega)).trans (h.keep x hx hg)⟩
theorem InR.wrote {w V1 X Y : World} {S T : Nat → Prop} {ro : Obj} {l l' : List UInt8} {a : Nat} (h : InR w V1 S T ro l a X) (hS : ∀ x, S x → x < w.heap.size) (hT : ∀ x, T x → w.heap.size + 5 ≤ x) (hro : ∃ cs, ro = .cells cs 25 (0, 0)) (hV : ∃ o, V1.heap[w.heap.size + 1]? = some o ∧ o.isCells = true)
    {g : Option Nat} (ht : Touched X Y (fun x => x = w.heap.size + 1 ∨ g = some x)) (hg : ∀ x, g = some x → ¬ T x ∧ w.heap.size ≤ x ∧ ∃ cur fr, X.heap[x]? = some (.cells cur 5 fr)) (hb : Bld w.heap.size (w.heap.size + 1) T l' Y) : InR w V1 S T ro l' a Y := by
  obtain ⟨cs, rfl⟩ := hro
  have hne : ∀ x, g = some x → x ≠ w.heap.size + 3 ∧ x ≠ w.heap.size + 2 := fun x hx => by
    obtain ⟨_, _, cur, fr, hc⟩ := hg x hx
    exact ⟨fun e => (by have := h.root; rw [← e, hc] at this; cases this), fun e => (by have := h.ahead; rw [← e, hc] at this; cases this)⟩
  have hB : Below w.heap.size X Y := ht.below h.below.size (fun k hk => by
    rcases hk with hk | hk
    · omega
    · exact (hg k hk).2.1)
  refine ⟨h.below.trans hB, Nat.le_trans h.size ht.size, (ht.block _ (lt_of_heap h.root) (fun e => ?_)).trans h.root, (ht.block _ (lt_of_heap h.ahead) (fun e => ?_)).trans h.ahead, hb, fun x hx hk => (ht.block x (by have := h.size; omega) (fun e => ?_)).trans (h.keep x hx hk)⟩
  · rcases e with e | e
    · omega
    · exact (hne _ e).1 rfl
  · rcases e with e | e
    · omega
    · exact (hne _ e).2 rfl
  · rcases e with e | e
    · subst e
      rcases hk with hk | (hk | hk) | ⟨o, ho, hoc⟩
      · have := hT _ hk; omega
      · have := hS _ hk; omega
      · omega
      · obtain ⟨o', ho', hoc'⟩ := hV
        rw [ho'] at ho; cases ho; rw [hoc'] at hoc; cases hoc
    · have hkx := h.keep x hx hk
      obtain ⟨n1, n2, cur, fr, hc⟩ := hg x e
      rcases hk with hk | (hk | hk) | ⟨o, ho, hoc⟩
      · exact n1 hk
      · have := hS _ hk; omega
      · exact (hne x e).1 hk
      · rw [hc, ho] at hkx; cases hkx; cases hoc
theorem InR.cell {w V1 X : World} {S T : Nat → Prop} {ro : Obj} {l : List UInt8} {a : Nat} (h : InR w V1 S T ro l a X) {b i : Nat} {v : Value} (hb : S b ∨ b = w.heap.size + 3) (hc : V1.cell? ⟨b, i, none⟩ = some v) : X.cell? ⟨b, i, none⟩ = some v :=
  (World.cell?_of_block (h.keep b (World.block_lt_of_cell? _ _ hc) (Or.inr (Or.inl hb)))).trans hc
theorem InR.last {w W V1 X : World} {S T : Nat → Prop} {ro : Obj} {l : List UInt8} {a : Nat} {pre : List Sp} {x : Sp} (hW : W.heap.size = w.heap.size + 5) (hVW : W.heap.size ≤ V1.heap.size) (h : InR w V1 S T ro l a X) (hS : ∀ x, S x → x < w.heap.size) (hT : ∀ x, T x → x < V1.heap.size ∧ w.heap.size + 5 ≤ x) (hl : l = showL 0 (pre ++ [x])) (aa : Act) : LeftT W.heap.size T (fun x => S x ∨ x = w.heap.size + 3) (ShowR w W ro) (fun _ _ _ => False) (pre ++ [x]) V1 .normal aa (X.setCell ⟨w.heap.size + 2, 0, none⟩ (.int .i64 (x.1 : Int))) := by
  have hbk : ∀ y, y ≠ w.heap.size + 2 → (X.setCell ⟨w.heap.size + 2, 0, none⟩ (.int .i64 (x.1 : Int))).heap[y]? = X.heap[y]? := fun y hy => Below.heap_setCell _ _ _ _ hy
  have hs : (X.setCell ⟨w.heap.size + 2, 0, none⟩ (.int .i64 (x.1 : Int))).heap.size = X.heap.size := by simp [World.setCell]
  have hsz := h.size
  have hah := h.ahead
  refine ⟨⟨by rw [hs]; exact hsz, fun y o hy ho hoc => ?_⟩, ⟨by rw [hs]; exact hsz, fun y hy => ?_⟩, fun y hy => ?_, .inl ⟨rfl, h.below.setCell (p := ⟨w.heap.size + 2, 0, none⟩) (by simp) _, by rw [hs]; omega, (hbk _ (by omega)).trans h.root, ?_, ?_⟩⟩
  · have hyl := lt_of_heap ho
    rw [hbk y (by omega), h.keep y hyl (Or.inr (Or.inr ⟨o, ho, hoc⟩))]; exact ho
  · have := hT y hy
    exact (hbk y (by omega)).trans (h.keep y this.1 (Or.inl hy))
  · have hyl : y < V1.heap.size := by rcases hy with hy | hy; have := hS y hy; omega; omega
    exact (hbk y (by rcases hy with hy | hy; have := hS y hy; omega; omega)).trans (h.keep y hyl (Or.inr (Or.inl hy)))
  · rw [heap_setCell_same X (w.heap.size + 2) 0 _ _ _ hah, lastD_snoc]
    simp
  · rw [← hl]
    exact h.bld.kept (by rw [hs]; exact Nat.le_refl _) (hbk _ (by omega)) (fun g cur fr hg hTg => hbk g (fun e => by rw [e, hah] at hg; cases hg)) (fun y hy => Or.inl hy)
theorem InR.start {w W V V1 : World} {S T : Nat → Prop} {ro : Obj} {pre : List Sp} (h : ShowR w W ro pre T V) (hW : W.heap.size = w.heap.size + 5) {lb : Nat} (hl : lb = W.heap.size + 1) (hT : ∀ x, T x → x < V.heap.size ∧ W.heap.size + 2 ≤ x) {o' o : Obj} (ev : V1 = V.putObj lb o') (ho : V.heap[lb]? = some o) (hoc : o.isCells = false) : InR w V1 S T ro (showL 0 pre) (lastD 0 pre) V1 := by
  obtain ⟨h1, h2, h3, h4, h5⟩ := h
  have hk : ∀ y, y ≠ lb → V1.heap[y]? = V.heap[y]? := fun y hy => by rw [ev]; exact World.putObj_heap_other hy
  have hs : V1.heap.size = V.heap.size := by rw [ev]; simp [World.putObj]
  refine ⟨?_, Nat.le_refl _, (hk _ (by omega)).trans h3, (hk _ (by omega)).trans h4, h5.kept (by omega) (hk _ (by omega)) (fun g cur fr hg _ => hk g (fun e => by rw [e, ho] at hg; cases hg; cases hoc)) (fun y hy => Or.inl hy), fun _ _ _ => rfl⟩
  rw [ev]
  exact ⟨h1.os, h1.tape, h1.output, by have := h1.size; simp [World.putObj]; exact this, fun x hx => by rw [World.putObj_heap_other (by omega)]; exact h1.block x hx⟩
theorem bytes_append (a b : List UInt8) : ((⟨a.toArray⟩ : ByteArray) ++ ⟨b.toArray⟩) = ⟨(a ++ b).toArray⟩ := by
  apply ByteArray.ext
  simp
theorem bytes_size (a : List UInt8) : (⟨a.toArray⟩ : ByteArray).size = a.length := by
  show a.toArray.size = _
  simp
/-- Something more is written in a round. -/
theorem InR.say {w V1 X : World} {S T : Nat → Prop} {ro : Obj} {l : List UInt8} {a : Nat} (h : InR w V1 S T ro l a X) (hS : ∀ x, S x → x < w.heap.size) (hT : ∀ x, T x → x < V1.heap.size ∧ w.heap.size + 5 ≤ x) (hro : ∃ cs, ro = .cells cs 25 (0, 0)) (hV : ∃ o, V1.heap[w.heap.size + 1]? = some o ∧ o.isCells = true) (s : List UInt8) (hlen : l.length + s.length ≤ 140737488355328) :
    Calls Tryd.prog 33 #[.pointer (some ⟨w.heap.size + 1, 0, none⟩), .string ⟨s.toArray⟩] X fun e Y => e = .returned (.tuple #[.int .i64 (s.length : Int), .nilIface]) ∧ InR w V1 S T ro (l ++ s) a Y := by
  refine (write_any w.heap.size (w.heap.size + 1) T l ⟨s.toArray⟩ X h.bld (fun x hx => by have := hT x hx; have := h.size; omega) (by rw [bytes_size]; exact hlen)).mono ?_
  rintro e Y ⟨rfl, hb, g, ht, hg⟩
  refine ⟨by rw [bytes_size], h.wrote hS (fun x hx => (hT x hx).2) hro hV ht hg ?_⟩
  simpa using hb
def Tab (w : World) : Prop := Lib.TabIs Tryd.prog w "internal/strconv.uint64pow10" .u64 Lib.pow10Tab
theorem tab_global : ∃ g, Tryd.prog.globalNamed "internal/strconv.uint64pow10" = some g := ⟨0, by kernel_rfl⟩
theorem Tab.below {w w' : World} (h : Tab w) (hb : Below w.heap.size w w') : Tab w' := by
  obtain ⟨g, hg⟩ := tab_global
  unfold Tab Lib.TabIs World.var? at h ⊢
  rw [hg] at h ⊢
  simp only [Option.bind_some] at h ⊢
  have hlt : g < w.heap.size := by
    rcases Nat.lt_or_ge g w.heap.size with h' | h'
    · exact h'
    · rw [Array.getElem?_eq_none h'] at h; cases h
  rw [hb.block g hlt]
  exact h
def I64 (n : Int) : Prop := -9223372036854775808 ≤ n ∧ n ≤ 9223372036854775807
theorem itoa_any (w : World) (n : Int) (hn : I64 n) (ht : Tab w) : Calls Tryd.prog 35 #[.int .i64 n] w (SayC w (Lib.itoa n)) := by
  refine (Tryd.strconv_Itoa n hn.1 hn.2 w ht).mono ?_
  rintro e w' ⟨rfl, k, os, rfl⟩
  exact ⟨rfl, rfl, rfl, rfl, by show w.heap.size ≤ (w.heap ++ os).size; rw [Array.size_append]; omega, fun x hx => by show (w.heap ++ os)[x]? = _; rw [Array.getElem?_append_left hx]⟩
theorem lastD_mem : ∀ (l : List Sp) (a : Nat), lastD a l = a ∨ ∃ x ∈ l, lastD a l = x.1
  | [], _ => Or.inl rfl
  | x :: l, a => by
    right
    rcases lastD_mem l x.1 with h | ⟨y, hy, h⟩
    · exact ⟨x, by simp, h⟩
    · exact ⟨y, by simp [hy], h⟩
end Go.Proofs.YteccnekdmehloaaDoor
