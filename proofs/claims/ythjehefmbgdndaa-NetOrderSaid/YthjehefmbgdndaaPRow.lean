/-
  The program's row of messages in memory, and its calls that read it or turn marks. No condition but that it lies where it is said to lie.
-/
import Derived.Test.YthjehefmbgdndaaRNetFirst
import Derived.Deep.MidRow
import Derived.Deep.RegionLaw
import Derived.StillTailTactics
namespace Go.Proofs.Ythjehefmbgdndaa
open Go.RowKit

/-- A message's cells, and its mark. -/
abbrev PI := List Value × Bool
def PI.cells (p : PI) : List Value := p.1 ++ [.bool p.2]
def pcells (l : List PI) : List Value := l.flatMap PI.cells
def Good (l : List PI) : Prop := ∀ p ∈ l, p.1.length = 16 ∧ ∀ u ∈ p.1, u.oneCell' = true
theorem Good.tail {p : PI} {l : List PI} (h : Good (p :: l)) : Good l := fun q hq => h q (List.mem_cons_of_mem _ hq)
theorem Good.append {l r : List PI} (h : Good l) (h' : Good r) : Good (l ++ r) := fun q hq => (List.mem_append.1 hq).elim (h q) (h' q)
theorem Good.sub {l r : List PI} (h : Good l) (hs : ∀ p ∈ r, p ∈ l) : Good r := fun q hq => h q (hs q hq)
theorem pcells_append (l r : List PI) : pcells (l ++ r) = pcells l ++ pcells r := by simp [pcells]
theorem pcells_length : ∀ {l : List PI}, Good l → (pcells l).length = l.length * 17
  | [], _ => rfl
  | p :: l, h => by
    have h1 := pcells_length h.tail
    have h2 := (h p (by simp)).1
    simp only [pcells, List.flatMap_cons, List.length_append, PI.cells, List.length_cons, List.length_nil] at h1 ⊢
    omega
theorem pcells_at : ∀ {l : List PI} {k : Nat} {p : PI}, Good l → l[k]? = some p → ∀ j u, p.cells[j]? = some u → (pcells l)[k * 17 + j]? = some u
  | [], _, _, _, h, _, _, _ => by simp at h
  | q :: l, 0, p, hg, h, j, u, hj => by
    simp only [List.getElem?_cons_zero, Option.some.injEq] at h
    subst h
    simp only [pcells, List.flatMap_cons, Nat.zero_mul, Nat.zero_add]
    rw [List.getElem?_append_left (List.getElem?_eq_some_iff.1 hj).1]
    exact hj
  | q :: l, k + 1, p, hg, h, j, u, hj => by
    have h1 := pcells_at hg.tail (by simpa using h) j u hj
    have h2 : (PI.cells q).length = 17 := by simp [PI.cells, (hg q (by simp)).1]
    simp only [pcells, List.flatMap_cons] at h1 ⊢
    rw [List.getElem?_append_right (by omega), h2, show (k + 1) * 17 + j - 17 = k * 17 + j by omega]
    exact h1
theorem pcells_one {l : List PI} (h : Good l) : ∀ u ∈ pcells l, u.oneCell' = true := fun u hu => by
  simp only [pcells, List.mem_flatMap] at hu
  obtain ⟨p, hp, hu⟩ := hu
  rcases List.mem_append.1 hu with hu | hu
  · exact (h p hp).2 u hu
  · simp only [List.mem_singleton] at hu; subst hu; rfl
def setMark (l : List PI) (k : Nat) (b : Bool) : List PI := l.modify k fun p => (p.1, b)
theorem setMark_cons (p : PI) (l : List PI) (k : Nat) (b : Bool) : setMark (p :: l) (k + 1) b = p :: setMark l k b := by simp [setMark]
theorem setMark_length (l : List PI) (k : Nat) (b : Bool) : (setMark l k b).length = l.length := by simp [setMark]
theorem setMark_good : ∀ {l : List PI} (k : Nat) (b : Bool), Good l → Good (setMark l k b)
  | [], _, _, h => by simpa [setMark] using h
  | p :: l, 0, b, h => fun q hq => by
    simp only [setMark, List.modify_zero_cons, List.mem_cons] at hq
    rcases hq with rfl | hq
    · exact h p (by simp)
    · exact h q (List.mem_cons_of_mem _ hq)
  | p :: l, k + 1, b, h => fun q hq => by
    rw [setMark_cons] at hq
    rcases List.mem_cons.1 hq with rfl | hq
    · exact h q (by simp)
    · exact setMark_good k b h.tail q hq
theorem setMark_cells : ∀ {l : List PI} {k : Nat} (b : Bool), Good l → k < l.length → pcells (setMark l k b) = (pcells l).set (k * 17 + 16) (.bool b)
  | [], k, b, h, hk => by simp at hk
  | p :: l, 0, b, h, _ => by
    have h2 := (h p (by simp)).1
    simp only [setMark, List.modify_zero_cons, pcells, List.flatMap_cons, PI.cells, Nat.zero_mul, Nat.zero_add]
    rw [List.set_append_left _ _ (by simp [h2]), List.set_append_right _ _ (by omega), h2]
    rfl
  | p :: l, k + 1, b, h, hk => by
    have h1 := setMark_cells b h.tail (k := k) (by simpa using hk)
    have h2 : (PI.cells p).length = 17 := by simp [PI.cells, (h p (by simp)).1]
    rw [setMark_cons]
    simp only [pcells, List.flatMap_cons] at h1 ⊢
    rw [h1, List.set_append_right _ _ (by omega), h2, show (k + 1) * 17 + 16 - 17 = k * 17 + 16 by omega]

/-- Block nb is the program's net; it lies in blocks of S. -/
def PRowAt (w : World) (S : Nat → Prop) (nb : Nat) (l : List PI) : Prop :=
  (∀ x, S x → x < w.heap.size) ∧ S nb ∧ Good l ∧ ∃ v, w.heap[nb]? = some (.cells #[v] 64 (0, 0)) ∧ w.ownsRow 0 87 17 v l.length (pcells l) ∧ ∀ g, v.ownBlock = some g → S g
theorem PRowAt.kept {w w' : World} {S : Nat → Prop} {nb : Nat} {l : List PI} (h : PRowAt w S nb l) (hsz : w.heap.size ≤ w'.heap.size) (hk : ∀ x, S x → w'.heap[x]? = w.heap[x]?) : PRowAt w' S nb l := by
  obtain ⟨h0, h1, hg, v, h2, h3, h4⟩ := h
  exact ⟨fun x hx => Nat.lt_of_lt_of_le (h0 x hx) hsz, h1, hg, v, (hk nb h1).trans h2, owns_kept h3 (fun g _ _ hg => hk g (h4 g hg)), h4⟩
theorem PRowAt.below {w w' : World} {S : Nat → Prop} {nb : Nat} {l : List PI} (h : PRowAt w S nb l) (hb : Below w.heap.size w w') : PRowAt w' S nb l :=
  h.kept hb.size fun x hx => hb.block x (h.1 x hx)
/-- What a call leaves of the net: it may lie in more blocks, all of them new. -/
def PC (w : World) (S : Nat → Prop) (nb : Nat) (l : List PI) (E : Value) (e : Ending) (w' : World) : Prop := e = .returned E ∧ ∃ S', PRowAt w' S' nb l ∧ Touched w w' S ∧ ∀ x, S' x → S x ∨ w.heap.size ≤ x
theorem PC.same {w w' : World} {S : Nat → Prop} {nb : Nat} {l : List PI} {E : Value} (h : PRowAt w S nb l) (hb : Below w.heap.size w w') : PC w S nb l E (.returned E) w' :=
  ⟨rfl, S, h.below hb, Below.touched hb S, fun _ hx => Or.inl hx⟩

set_option maxHeartbeats 400000 in
theorem psize_any (w : World) (S : Nat → Prop) (nb : Nat) (l : List PI) (h : PRowAt w S nb l) : Calls Try.prog 30 #[.pointer (some ⟨nb, 0, none⟩)] w fun e w' => e = .returned (.int .i64 l.length) ∧ w = w' := by
  obtain ⟨_, _, _, v, h2, h3, _⟩ := h
  obtain ⟨a, c, rfl⟩ := owns_slice h3
  have c0 : w.cell? ⟨nb, 0, none⟩ = some (.slice a l.length c) := by rw [cell_of_row w _ 0 _ _ _ h2]; rfl
  obtain ⟨len, hl⟩ : ∃ len, len = l.length := ⟨_, rfl⟩
  rw [← hl] at c0 ⊢
  clear h2 h3 hl
  go_enter Try.func30, Try.ntmps30
  go_wp2_with fail
  go_ret
  exact ⟨rfl, rfl⟩

set_option maxHeartbeats 400000 in
theorem isAddress_any (w : World) (n : Int) (b : Bool) (hb : (decide (0 ≤ n ∧ n ≤ 8)) = b) : Calls Try.prog 32 #[.int .i64 n] w fun e w' => e = .returned (.bool b) ∧ w = w' := by
  by_cases h0 : 0 ≤ n
  · by_cases h1 : n ≤ 8
    · have hbb : b = true := by rw [← hb]; simp [h0, h1]
      subst hbb
      clear hb
      go_enter Try.func32, Try.ntmps32
      go_wp2_with fail
      go_ret
      exact ⟨rfl, rfl⟩
    · have hbb : b = false := by rw [← hb]; simp [h1]
      subst hbb
      clear hb
      go_enter Try.func32, Try.ntmps32
      go_wp2_with fail
      go_ret
      exact ⟨rfl, rfl⟩
  · have hbb : b = false := by rw [← hb]; simp [h0]
    subst hbb
    clear hb
    go_enter Try.func32, Try.ntmps32
    go_wp2_with fail
    go_ret
    exact ⟨rfl, rfl⟩

def lacksE (n : Nat) (k : Int) : Int := if 0 ≤ k ∧ k < n then 0 else 4
set_option maxHeartbeats 400000 in
theorem lacks_any (w : World) (S : Nat → Prop) (nb : Nat) (l : List PI) (k : Int) (h : PRowAt w S nb l) : Calls Try.prog 35 #[.pointer (some ⟨nb, 0, none⟩), .int .i64 k] w fun e w' => e = .returned (.int .i64 (lacksE l.length k)) ∧ w = w' := by
  have HS := Lib.hid (psize_any w S nb l h)
  obtain ⟨len, hl⟩ : ∃ len, len = l.length := ⟨_, rfl⟩
  rw [← hl] at HS ⊢
  clear hl h
  by_cases h0 : k < 0
  · have e : lacksE len k = 4 := by unfold lacksE; rw [if_neg (by omega)]
    rw [e]
    clear e
    go_enter Try.func35, Try.ntmps35
    go_wp2_with fail
    go_ret
    exact ⟨rfl, rfl⟩
  · by_cases h1 : k < len
    · have e : lacksE len k = 0 := by unfold lacksE; rw [if_pos (by omega)]
      rw [e]
      clear e
      go_enter Try.func35, Try.ntmps35
      go_wp2_with (go_at_call 30; refine HS.out.mono ?_; rintro e w' ⟨rfl, rfl⟩)
      go_ret
      exact ⟨rfl, rfl⟩
    · have e : lacksE len k = 4 := by unfold lacksE; rw [if_neg (by omega)]
      rw [e]
      clear e
      have h1' : (len : Int) ≤ k := by omega
      go_enter Try.func35, Try.ntmps35
      go_wp2_with (go_at_call 30; refine HS.out.mono ?_; rintro e w' ⟨rfl, rfl⟩)
      go_ret
      exact ⟨rfl, rfl⟩

end Go.Proofs.Ythjehefmbgdndaa
