/-
  The document's own net in memory, and its calls Hold and First. No condition but that it lies where it is said to lie.
-/
import Derived.Test.YtklpafognbodhaaNetGreat
import Derived.Laws.OwnMore
namespace Go.Proofs.Ytklpafognbodhaa
open Go.RowKit

/-- From w to w' blocks of S alone may have turned; others may have been made. -/
structure Touched (w w' : World) (S : Nat → Prop) : Prop where
  os : w'.os = w.os
  tape : w'.tape = w.tape
  output : w'.output = w.output
  size : w.heap.size ≤ w'.heap.size
  block : ∀ k, k < w.heap.size → ¬ S k → w'.heap[k]? = w.heap[k]?
theorem Touched.refl (w : World) (S : Nat → Prop) : Touched w w S := ⟨rfl, rfl, rfl, Nat.le_refl _, fun _ _ _ => rfl⟩
theorem Touched.below {w w' : World} {S : Nat → Prop} {B : Nat} (h : Touched w w' S) (hB : B ≤ w.heap.size) (hS : ∀ k, S k → B ≤ k) : Below B w w' :=
  ⟨h.os, h.tape, h.output, h.size, fun k hk => h.block k (by omega) (fun hs => by have := hS k hs; omega)⟩
theorem Below.touched {w w' : World} (h : Below w.heap.size w w') (S : Nat → Prop) : Touched w w' S := ⟨h.os, h.tape, h.output, h.size, fun k hk _ => h.block k hk⟩
theorem Touched.trans {w w1 w2 : World} {S S' : Nat → Prop} (h : Touched w w1 S) (h2 : Touched w1 w2 S') (hS : ∀ k, S' k → S k ∨ w.heap.size ≤ k) : Touched w w2 S :=
  ⟨h2.os.trans h.os, h2.tape.trans h.tape, h2.output.trans h.output, Nat.le_trans h.size h2.size, fun k hk hn => by
    rw [h2.block k (Nat.lt_of_lt_of_le hk h.size) (fun hs => by rcases hS k hs with h' | h'
                                                                · exact hn h'
                                                                · omega), h.block k hk hn]⟩
theorem Touched.setCell {w : World} {S : Nat → Prop} {a : Addr} (ha : S a.block) (v : Value) : Touched w (w.setCell a v) S :=
  ⟨rfl, rfl, rfl, by simp [World.setCell], fun k _ hn => Below.heap_setCell _ _ _ _ (fun e => hn (by rw [e]; exact ha))⟩

/-- The cells of a row of messages. -/
def MsgRow (w : World) (S : Nat → Prop) : List Msg → List Value → Prop
  | [], xs => xs = []
  | m :: l, xs => ∃ sa sc ka cap ys, xs = msgCells m sa sc ka cap ++ ys ∧ MsgIn w S m sa ka ∧ MsgRow w S l ys
theorem MsgRow.kept {w w' : World} {S S' : Nat → Prop} (hS : ∀ k, S k → S' k ∧ w'.heap[k]? = w.heap[k]?) : ∀ {l : List Msg} {xs : List Value}, MsgRow w S l xs → MsgRow w' S' l xs
  | [], _, h => h
  | _ :: _, _, h => by
    obtain ⟨sa, sc, ka, cap, ys, e, hl, hr⟩ := h
    exact ⟨sa, sc, ka, cap, ys, e, hl.kept hS, hr.kept hS⟩
theorem MsgRow.snoc {w : World} {S : Nat → Prop} {m : Msg} {sa ka : Option Addr} (hl : MsgIn w S m sa ka) (sc cap : Nat) : ∀ {l : List Msg} {xs : List Value}, MsgRow w S l xs → MsgRow w S (l ++ [m]) (xs ++ msgCells m sa sc ka cap)
  | [], xs, h => by subst h; exact ⟨sa, sc, ka, cap, [], by simp, hl, rfl⟩
  | _ :: _, xs, h => by
    obtain ⟨sa', sc', ka', cap', ys, e, hl', hr⟩ := h
    exact ⟨sa', sc', ka', cap', _, by rw [e, List.append_assoc], hl', MsgRow.snoc hl sc cap hr⟩
theorem MsgRow.at {w : World} {S : Nat → Prop} : ∀ {l : List Msg} {xs : List Value} (k : Nat) (m : Msg), MsgRow w S l xs → l[k]? = some m → ∃ sa sc ka cap, (∀ j u, (msgCells m sa sc ka cap)[j]? = some u → xs[k * 16 + j]? = some u) ∧ MsgIn w S m sa ka
  | [], _, _, _, _, hx => by simp at hx
  | y :: l, xs, 0, m, h, hx => by
    obtain ⟨sa, sc, ka, cap, ys, e, hl, hr⟩ := h
    simp only [List.getElem?_cons_zero, Option.some.injEq] at hx
    subst hx; subst e
    refine ⟨sa, sc, ka, cap, fun j u hj => ?_, hl⟩
    rw [Nat.zero_mul, Nat.zero_add, List.getElem?_append_left (List.getElem?_eq_some_iff.1 hj).1]; exact hj
  | y :: l, xs, k + 1, m, h, hx => by
    obtain ⟨sa, sc, ka, cap, ys, e, hl, hr⟩ := h
    subst e
    obtain ⟨sa', sc', ka', cap', h1, h2⟩ := MsgRow.at k m hr (by simpa using hx)
    refine ⟨sa', sc', ka', cap', fun j u hj => ?_, h2⟩
    have hlen : (msgCells y sa sc ka cap).length = 16 := rfl
    rw [List.getElem?_append_right (by rw [hlen]; omega), hlen, show (k + 1) * 16 + j - 16 = k * 16 + j by omega]
    exact h1 j u hj

abbrev Item := Msg × Bool
def marks (l : List Item) : List Value := l.map fun p => .bool p.2
def Inner (S : Nat → Prop) (rb : Nat) (lv hv : Value) : Nat → Prop := fun x => S x ∧ x ≠ rb ∧ lv.ownBlock ≠ some x ∧ hv.ownBlock ≠ some x
/-- Block rb is the document's net; all of it lies in blocks of S. -/
def RNetAt (w : World) (S : Nat → Prop) (rb : Nat) (l : List Item) : Prop :=
  (∀ x, S x → x < w.heap.size) ∧ S rb ∧ ∃ lv hv xs, w.heap[rb]? = some (.cells #[lv, hv] 31 (0, 0)) ∧ w.ownsRow 0 40 16 lv l.length xs ∧ w.ownsRow 0 4 1 hv l.length (marks l) ∧
    (∀ g, lv.ownBlock = some g → S g) ∧ (∀ g, hv.ownBlock = some g → S g) ∧ MsgRow w (Inner S rb lv hv) (l.map (·.1)) xs
theorem RNetAt.kept {w w' : World} {S : Nat → Prop} {rb : Nat} {l : List Item} (h : RNetAt w S rb l) (hsz : w.heap.size ≤ w'.heap.size) (hk : ∀ x, S x → w'.heap[x]? = w.heap[x]?) : RNetAt w' S rb l := by
  obtain ⟨h0, h1, lv, hv, xs, h2, h3, h4, h5, h6, h7⟩ := h
  exact ⟨fun x hx => Nat.lt_of_lt_of_le (h0 x hx) hsz, h1, lv, hv, xs, (hk rb h1).trans h2, owns_kept h3 (fun g _ _ hg => hk g (h5 g hg)), owns_kept h4 (fun g _ _ hg => hk g (h6 g hg)), h5, h6, h7.kept fun x hx => ⟨hx, hk x hx.1⟩⟩

theorem owned_ne {w : World} {B b m size : Nat} {e t : TypeId} {v : Value} {xs : List Value} {cs : Array Value} (ho : w.ownsRow B e size v m xs) (hb : w.heap[b]? = some (.cells cs t (0, 0))) (hne : t ≠ e) : v.ownBlock ≠ some b := fun he => by
  rcases ho.2 with ⟨hv, _⟩ | ⟨g', cap', cur, hv, _, hh, _⟩
  · rw [hv] at he; cases he
  · rw [hv] at he; cases he
    rw [hb] at hh
    simp only [Option.some.injEq, Obj.cells.injEq] at hh
    exact hne hh.2.1
theorem owned_apart {w : World} {B B' m m' size size' : Nat} {e e' : TypeId} {v v' : Value} {xs xs' : List Value} (ho : w.ownsRow B e size v m xs) (ho' : w.ownsRow B' e' size' v' m' xs') (hne : e ≠ e') {g : Nat} (hg : v.ownBlock = some g) : v'.ownBlock ≠ some g := by
  rcases ho.2 with ⟨hv, _⟩ | ⟨g', cap', cur, hv, _, hh, _⟩
  · rw [hv] at hg; cases hg
  · rw [hv] at hg; cases hg
    exact owned_ne ho' hh hne

def hold (l : List Item) (k : Nat) : List Item := l.modify k fun p => (p.1, true)
theorem hold_marks (l : List Item) (k : Nat) : marks (hold l k) = (marks l).set k (.bool true) := by
  apply List.ext_getElem?
  intro j
  simp only [marks, hold, List.getElem?_map, List.getElem?_modify, List.getElem?_set]
  by_cases h : k = j
  · subst h
    by_cases hk : k < l.length
    · simp [hk]
    · simp [hk]
  · simp [h]
theorem hold_msgs (l : List Item) (k : Nat) : (hold l k).map (·.1) = l.map (·.1) := by
  apply List.ext_getElem?
  intro j
  simp only [hold, List.getElem?_map, List.getElem?_modify]
  by_cases h : k = j
  · subst h; cases l[k]? <;> simp
  · simp [h]
theorem hold_length (l : List Item) (k : Nat) : (hold l k).length = l.length := by simp [hold]

def HoldC (w : World) (S : Nat → Prop) (rb : Nat) (l : List Item) (E : Int) (e : Ending) (w' : World) : Prop := e = .returned (.int .i64 E) ∧ RNetAt w' S rb l ∧ Touched w w' S
set_option maxHeartbeats 400000 in
theorem rhold_no (w : World) (S : Nat → Prop) (rb : Nat) (l : List Item) (k : Int) (h : RNetAt w S rb l) (hk : k < 0 ∨ (l.length : Int) ≤ k) : Calls Try.prog 21 #[.pointer (some ⟨rb, 0, none⟩), .int .i64 k] w (HoldC w S rb l 4) := by
  have HR := Lib.hid h
  obtain ⟨_, _, lv, hv, xs, hb, ho, _⟩ := h
  obtain ⟨la, lc, rfl⟩ := owns_slice ho
  obtain ⟨len, hlen⟩ : ∃ len, len = l.length := ⟨_, rfl⟩
  rw [← hlen] at hb hk
  have c0 : w.cell? ⟨rb, 0, none⟩ = some (.slice la len lc) := by rw [cell_of_row w _ 0 _ _ _ hb]; rfl
  clear hb ho hlen
  by_cases h0 : k < 0
  · go_enter Try.func21, Try.ntmps21
    go_wp2_with fail
    go_ret
    exact ⟨rfl, HR.out, Touched.refl _ _⟩
  · have h1 : (len : Int) ≤ k := by omega
    clear hk
    go_enter Try.func21, Try.ntmps21
    go_wp2_with fail
    go_ret
    exact ⟨rfl, HR.out, Touched.refl _ _⟩

/-- Its marks alone have turned. -/
theorem RNetAt.marked {w w' : World} {S : Nat → Prop} {rb : Nat} {l l' : List Item} {lv : Value} {xs : List Value} {g hc : Nat} (h0 : ∀ x, S x → x < w.heap.size) (h1 : S rb) (h2 : w.heap[rb]? = some (.cells #[lv, .slice (some ⟨g, 0, none⟩) l.length hc] 31 (0, 0)))
    (h3 : w.ownsRow 0 40 16 lv l.length xs) (h4 : w.ownsRow 0 4 1 (.slice (some ⟨g, 0, none⟩) l.length hc) l.length (marks l)) (h5 : ∀ g, lv.ownBlock = some g → S g) (h6 : S g)
    (h7 : MsgRow w (Inner S rb lv (.slice (some ⟨g, 0, none⟩) l.length hc)) (l.map (·.1)) xs) (hsz : w'.heap.size = w.heap.size) (hk : ∀ x, x ≠ g → w'.heap[x]? = w.heap[x]?) (hlen : l'.length = l.length) (hm : l'.map (·.1) = l.map (·.1))
    (h8 : w'.ownsRow 0 4 1 (.slice (some ⟨g, 0, none⟩) l.length hc) l.length (marks l')) : RNetAt w' S rb l' := by
  have hrb : rb ≠ g := fun e => owned_ne h4 h2 (by decide) (by rw [e]; rfl)
  have hlg : ∀ x, lv.ownBlock = some x → x ≠ g := fun x hx e => owned_apart h3 h4 (by decide) hx (by rw [e]; rfl)
  refine ⟨fun x hx => by rw [hsz]; exact h0 x hx, h1, lv, .slice (some ⟨g, 0, none⟩) l.length hc, xs, (hk rb hrb).trans h2, ?_, ?_, h5, fun x hx => ?_, ?_⟩
  · rw [hlen]; exact owns_kept h3 (fun x _ _ hx => hk x (hlg x hx))
  · rw [hlen]; exact h8
  · cases hx; exact h6
  · rw [hm]
    exact h7.kept fun x hx => ⟨hx, hk x (fun e => hx.2.2.2 (by rw [e]; rfl))⟩

set_option maxHeartbeats 400000 in
theorem rhold_yes (w : World) (S : Nat → Prop) (rb : Nat) (l : List Item) (k : Nat) (h : RNetAt w S rb l) (hk : k < l.length) (hlen : l.length ≤ 1000000) : Calls Try.prog 21 #[.pointer (some ⟨rb, 0, none⟩), .int .i64 k] w (fun e w' => HoldC w S rb (hold l k) 0 e w') := by
  obtain ⟨h0, h1, lv, hv, xs, h2, h3, h4, h5, h6, h7⟩ := h
  obtain ⟨g, hc, rfl, _⟩ := h4.form (by omega)
  have hsg := h6 g rfl
  have hrow := h4.stored k (.bool true)
  have hend := fun w' hsz hx h8 => RNetAt.marked (w' := w') (l' := hold l k) h0 h1 h2 h3 h4 h5 hsg h7 hsz hx (hold_length l k) (hold_msgs l k) h8
  obtain ⟨p, hp⟩ : ∃ p, l[k]? = some p := ⟨l[k], List.getElem?_eq_getElem hk⟩
  have q0 : w.cell? ⟨g, k, none⟩ = some (.bool p.2) := by rw [h4.cellAt k (by omega)]; simp [marks, hp]
  have f0 : w.frozen? ⟨g, k, none⟩ = false := h4.frozenAt k
  obtain ⟨la, lc, rfl⟩ := owns_slice h3
  have c0 : w.cell? ⟨rb, 0, none⟩ = some (.slice la l.length lc) := by rw [cell_of_row w _ 0 _ _ _ h2]; rfl
  have c1 : w.cell? ⟨rb, 1, none⟩ = some (.slice (some ⟨g, 0, none⟩) l.length hc) := by rw [cell_of_row w _ 1 _ _ _ h2]; rfl
  rw [← hold_marks] at hrow
  have HE := Lib.hid (And.intro (hend _ (by simp [World.setCell]) (fun x hx => Below.heap_setCell _ _ _ _ hx) hrow.1) (Touched.setCell (w := w) (S := S) (a := ⟨g, k, none⟩) hsg (.bool true)))
  obtain ⟨len, hl⟩ : ∃ len, len = l.length := ⟨_, rfl⟩
  rw [← hl] at c0 c1 hk hlen
  have hk0 : (0 : Int) ≤ (k : Int) := by omega
  have hkl : (k : Int) < (len : Int) := by omega
  clear h0 h1 h2 h3 h4 h5 h6 h7 hend hrow hp hl hsg
  go_enter Try.func21, Try.ntmps21
  go_wp2_with fail
  go_ret
  exact ⟨rfl, HE.out.1, HE.out.2⟩

end Go.Proofs.Ytklpafognbodhaa
