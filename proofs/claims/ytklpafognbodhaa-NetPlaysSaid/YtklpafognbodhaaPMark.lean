/-
  The program's row of messages in memory, and its calls that read it or turn marks. No condition but that it lies where it is said to lie.
  The program's row of messages: its calls mark, unmark and first. No condition but that it lies where it is said to lie.
-/
import Derived.Test.YtklpafognbodhaaRNetFirst
import Derived.Deep.MidRow
import Derived.Deep.RegionLaw
import Derived.StillTailTactics
namespace Go.Proofs.Ytklpafognbodhaa
open Go.RowKit

/-- A message's cells, and its mark. -/
abbrev PI := List Value × Bool
def PI.cells (p : PI) : List Value := p.1 ++ [.bool p.2]
def pcells (l : List PI) : List Value := l.flatMap PI.cells
def Good (l : List PI) : Prop := ∀ p ∈ l, p.1.length = 16 ∧ ∀ u ∈ p.1, u.oneCell' = true
theorem Good.tail {p : PI} {l : List PI} (h : Good (p :: l)) : Good l := fun q hq => h q (List.mem_cons_of_mem _ hq)
theorem Good.append {l r : List PI} (h : Good l) (h' : Good r) : Good (l ++ r) := fun q hq => (List.mem_append.1 hq).elim (h q) (h' q)
theorem Good.sub {l r : List PI} (h : Good l) (hs : ∀ p ∈ r, p ∈ l) : Good r := fun q hq => h q (hs q hq)
theorem pcells_append (l r : List PI) : pcells (l ++ r) = pcells l ++ pcells r := by simp [pcells]
theorem pcells_length : ∀ {l : List PI}, Good l → (pcells l).length = l.length * 17
  | [], _ => rfl
  | p :: l, h => by
    have h1 := pcells_length h.tail
    have h2 := (h p (by simp)).1
    simp only [pcells, List.flatMap_cons, List.length_append, PI.cells, List.length_cons, List.length_nil] at h1 ⊢
    omega
theorem pcells_at : ∀ {l : List PI} {k : Nat} {p : PI}, Good l → l[k]? = some p → ∀ j u, p.cells[j]? = some u → (pcells l)[k * 17 + j]? = some u
  | [], _, _, _, h, _, _, _ => by simp at h
  | q :: l, 0, p, hg, h, j, u, hj => by
    simp only [List.getElem?_cons_zero, Option.some.injEq] at h
    subst h
    simp only [pcells, List.flatMap_cons, Nat.zero_mul, Nat.zero_add]
    rw [List.getElem?_append_left (List.getElem?_eq_some_iff.1 hj).1]
    exact hj
  | q :: l, k + 1, p, hg, h, j, u, hj => by
    have h1 := pcells_at hg.tail (by simpa using h) j u hj
    have h2 : (PI.cells q).length = 17 := by simp [PI.cells, (hg q (by simp)).1]
    simp only [pcells, List.flatMap_cons] at h1 ⊢
    rw [List.getElem?_append_right (by omega), h2, show (k + 1) * 17 + j - 17 = k * 17 + j by omega]
    exact h1
theorem pcells_one {l : List PI} (h : Good l) : ∀ u ∈ pcells l, u.oneCell' = true := fun u hu => by
  simp only [pcells, List.mem_flatMap] at hu
  obtain ⟨p, hp, hu⟩ := hu
  rcases List.mem_append.1 hu with hu | hu
  · exact (h p hp).2 u hu
  · simp only [List.mem_singleton] at hu; subst hu; rfl
def setMark (l : List PI) (k : Nat) (b : Bool) : List PI := l.modify k fun p => (p.1, b)
theorem setMark_cons (p : PI) (l : List PI) (k : Nat) (b : Bool) : setMark (p :: l) (k + 1) b = p :: setMark l k b := by simp [setMark]
theorem setMark_length (l : List PI) (k : Nat) (b : Bool) : (setMark l k b).length = l.length := by simp [setMark]
theorem setMark_good : ∀ {l : List PI} (k : Nat) (b : Bool), Good l → Good (setMark l k b)
  | [], _, _, h => by simpa [setMark] using h
  | p :: l, 0, b, h => fun q hq => by
    simp only [setMark, List.modify_zero_cons, List.mem_cons] at hq
    rcases hq with rfl | hq
    · exact h p (by simp)
    · exact h q (List.mem_cons_of_mem _ hq)
  | p :: l, k + 1, b, h => fun q hq => by
    rw [setMark_cons] at hq
    rcases List.mem_cons.1 hq with rfl | hq
    · exact h q (by simp)
    · exact setMark_good k b h.tail q hq
theorem setMark_cells : ∀ {l : List PI} {k : Nat} (b : Bool), Good l → k < l.length → pcells (setMark l k b) = (pcells l).set (k * 17 + 16) (.bool b)
  | [], k, b, h, hk => by simp at hk
  | p :: l, 0, b, h, _ => by
    have h2 := (h p (by simp)).1
    simp only [setMark, List.modify_zero_cons, pcells, List.flatMap_cons, PI.cells, Nat.zero_mul, Nat.zero_add]
    rw [List.set_append_left _ _ (by simp [h2]), List.set_append_right _ _ (by omega), h2]
    rfl
  | p :: l, k + 1, b, h, hk => by
    have h1 := setMark_cells b h.tail (k := k) (by simpa using hk)
    have h2 : (PI.cells p).length = 17 := by simp [PI.cells, (h p (by simp)).1]
    rw [setMark_cons]
    simp only [pcells, List.flatMap_cons] at h1 ⊢
    rw [h1, List.set_append_right _ _ (by omega), h2, show (k + 1) * 17 + 16 - 17 = k * 17 + 16 by omega]

/-- Block nb is the program's net; it lies in blocks of S. -/
def PRowAt (w : World) (S : Nat → Prop) (nb : Nat) (l : List PI) : Prop :=
  (∀ x, S x → x < w.heap.size) ∧ S nb ∧ Good l ∧ ∃ v, w.heap[nb]? = some (.cells #[v] 59 (0, 0)) ∧ w.ownsRow 0 85 17 v l.length (pcells l) ∧ ∀ g, v.ownBlock = some g → S g
theorem PRowAt.kept {w w' : World} {S : Nat → Prop} {nb : Nat} {l : List PI} (h : PRowAt w S nb l) (hsz : w.heap.size ≤ w'.heap.size) (hk : ∀ x, S x → w'.heap[x]? = w.heap[x]?) : PRowAt w' S nb l := by
  obtain ⟨h0, h1, hg, v, h2, h3, h4⟩ := h
  exact ⟨fun x hx => Nat.lt_of_lt_of_le (h0 x hx) hsz, h1, hg, v, (hk nb h1).trans h2, owns_kept h3 (fun g _ _ hg => hk g (h4 g hg)), h4⟩
theorem PRowAt.below {w w' : World} {S : Nat → Prop} {nb : Nat} {l : List PI} (h : PRowAt w S nb l) (hb : Below w.heap.size w w') : PRowAt w' S nb l :=
  h.kept hb.size fun x hx => hb.block x (h.1 x hx)
/-- What a call leaves of the net: it may lie in more blocks, all of them new. -/
def PC (w : World) (S : Nat → Prop) (nb : Nat) (l : List PI) (E : Value) (e : Ending) (w' : World) : Prop := e = .returned E ∧ ∃ S', PRowAt w' S' nb l ∧ Touched w w' S ∧ ∀ x, S' x → S x ∨ w.heap.size ≤ x
theorem PC.same {w w' : World} {S : Nat → Prop} {nb : Nat} {l : List PI} {E : Value} (h : PRowAt w S nb l) (hb : Below w.heap.size w w') : PC w S nb l E (.returned E) w' :=
  ⟨rfl, S, h.below hb, Below.touched hb S, fun _ hx => Or.inl hx⟩

set_option maxHeartbeats 400000 in
theorem psize_any (w : World) (S : Nat → Prop) (nb : Nat) (l : List PI) (h : PRowAt w S nb l) : Calls Try.prog 28 #[.pointer (some ⟨nb, 0, none⟩)] w fun e w' => e = .returned (.int .i64 l.length) ∧ w = w' := by
  obtain ⟨_, _, _, v, h2, h3, _⟩ := h
  obtain ⟨a, c, rfl⟩ := owns_slice h3
  have c0 : w.cell? ⟨nb, 0, none⟩ = some (.slice a l.length c) := by rw [cell_of_row w _ 0 _ _ _ h2]; rfl
  obtain ⟨len, hl⟩ : ∃ len, len = l.length := ⟨_, rfl⟩
  rw [← hl] at c0 ⊢
  clear h2 h3 hl
  go_enter Try.func28, Try.ntmps28
  go_wp2_with fail
  go_ret
  exact ⟨rfl, rfl⟩

set_option maxHeartbeats 400000 in
theorem isAddress_any (w : World) (n : Int) (b : Bool) (hb : (decide (0 ≤ n ∧ n ≤ 8)) = b) : Calls Try.prog 31 #[.int .i64 n] w fun e w' => e = .returned (.bool b) ∧ w = w' := by
  by_cases h0 : 0 ≤ n
  · by_cases h1 : n ≤ 8
    · have hbb : b = true := by rw [← hb]; simp [h0, h1]
      subst hbb
      clear hb
      go_enter Try.func31, Try.ntmps31
      go_wp2_with fail
      go_ret
      exact ⟨rfl, rfl⟩
    · have hbb : b = false := by rw [← hb]; simp [h1]
      subst hbb
      clear hb
      go_enter Try.func31, Try.ntmps31
      go_wp2_with fail
      go_ret
      exact ⟨rfl, rfl⟩
  · have hbb : b = false := by rw [← hb]; simp [h0]
    subst hbb
    clear hb
    go_enter Try.func31, Try.ntmps31
    go_wp2_with fail
    go_ret
    exact ⟨rfl, rfl⟩

def lacksE (n : Nat) (k : Int) : Int := if 0 ≤ k ∧ k < n then 0 else 4
set_option maxHeartbeats 400000 in
theorem lacks_any (w : World) (S : Nat → Prop) (nb : Nat) (l : List PI) (k : Int) (h : PRowAt w S nb l) : Calls Try.prog 34 #[.pointer (some ⟨nb, 0, none⟩), .int .i64 k] w fun e w' => e = .returned (.int .i64 (lacksE l.length k)) ∧ w = w' := by
  have HS := Lib.hid (psize_any w S nb l h)
  obtain ⟨len, hl⟩ : ∃ len, len = l.length := ⟨_, rfl⟩
  rw [← hl] at HS ⊢
  clear hl h
  by_cases h0 : k < 0
  · have e : lacksE len k = 4 := by unfold lacksE; rw [if_neg (by omega)]
    rw [e]
    clear e
    go_enter Try.func34, Try.ntmps34
    go_wp2_with fail
    go_ret
    exact ⟨rfl, rfl⟩
  · by_cases h1 : k < len
    · have e : lacksE len k = 0 := by unfold lacksE; rw [if_pos (by omega)]
      rw [e]
      clear e
      go_enter Try.func34, Try.ntmps34
      go_wp2_with (go_at_call 28; refine HS.out.mono ?_; rintro e w' ⟨rfl, rfl⟩)
      go_ret
      exact ⟨rfl, rfl⟩
    · have e : lacksE len k = 4 := by unfold lacksE; rw [if_neg (by omega)]
      rw [e]
      clear e
      have h1' : (len : Int) ≤ k := by omega
      go_enter Try.func34, Try.ntmps34
      go_wp2_with (go_at_call 28; refine HS.out.mono ?_; rintro e w' ⟨rfl, rfl⟩)
      go_ret
      exact ⟨rfl, rfl⟩

end Go.Proofs.Ytklpafognbodhaa
namespace Go.Proofs.Ytklpafognbodhaa
open Go.RowKit

/-- Its cells alone have turned, in place. -/
theorem PRowAt.turned {w w' : World} {S : Nat → Prop} {nb : Nat} {l l' : List PI} {v : Value} (h0 : ∀ x, S x → x < w.heap.size) (h1 : S nb) (hg : Good l') (h2 : w.heap[nb]? = some (.cells #[v] 59 (0, 0))) (h3 : w.ownsRow 0 85 17 v l.length (pcells l)) (h4 : ∀ g, v.ownBlock = some g → S g)
    (hsz : w'.heap.size = w.heap.size) (hk : ∀ x, v.ownBlock ≠ some x → w'.heap[x]? = w.heap[x]?) (hlen : l'.length = l.length) (h8 : w'.ownsRow 0 85 17 v l.length (pcells l')) : PRowAt w' S nb l' :=
  ⟨fun x hx => by rw [hsz]; exact h0 x hx, h1, hg, v, (hk nb (owned_ne h3 h2 (by decide))).trans h2, by rw [hlen]; exact h8, h4⟩

set_option maxHeartbeats 400000 in
theorem pmark_any (w : World) (S : Nat → Prop) (nb : Nat) (l : List PI) (k : Nat) (h : PRowAt w S nb l) (hk : k < l.length) (hlen : l.length ≤ 1000000) : Calls Try.prog 35 #[.pointer (some ⟨nb, 0, none⟩), .int .i64 k] w (PC w S nb (setMark l k true) (.tuple #[])) := by
  obtain ⟨h0, h1, hg, v, h2, h3, h4⟩ := h
  obtain ⟨g, hc, rfl, _⟩ := h3.form (by omega)
  have hsg := h4 g rfl
  have hpl := pcells_length hg
  have hrow := h3.stored (k * 17 + 16) (.bool true)
  rw [← setMark_cells true hg hk] at hrow
  have hend := PRowAt.turned (w' := w.setCell ⟨g, k * 17 + 16, none⟩ (.bool true)) (l' := setMark l k true) h0 h1 (setMark_good k true hg) h2 h3 h4 (by simp [World.setCell]) (fun x hx => Below.heap_setCell _ _ _ _ (fun e => hx (by rw [e]; rfl))) (setMark_length l k true) hrow.1
  have HE : Hid (PC w S nb (setMark l k true) (.tuple #[]) (.returned (.tuple #[])) (w.setCell ⟨g, k * 17 + 16, none⟩ (.bool true))) := show PC _ _ _ _ _ _ _ from ⟨rfl, S, hend, Touched.setCell (w := w) (S := S) (a := ⟨g, k * 17 + 16, none⟩) hsg (.bool true), fun _ hx => Or.inl hx⟩
  obtain ⟨p, hp⟩ : ∃ p, l[k]? = some p := ⟨l[k], List.getElem?_eq_getElem hk⟩
  have q0 : w.cell? ⟨g, k * 17 + 16, none⟩ = some (.bool p.2) := by rw [h3.cellAt (k * 17 + 16) (by omega)]; exact pcells_at hg hp 16 _ (by simp [PI.cells, (hg p (List.mem_of_getElem? hp)).1])
  have f0 : w.frozen? ⟨g, k * 17 + 16, none⟩ = false := h3.frozenAt _
  have c0 : w.cell? ⟨nb, 0, none⟩ = some (.slice (some ⟨g, 0, none⟩) l.length hc) := by rw [cell_of_row w _ 0 _ _ _ h2]; rfl
  obtain ⟨len, hl⟩ : ∃ len, len = l.length := ⟨_, rfl⟩
  rw [← hl] at c0 hk hlen
  have hk0 : (0 : Int) ≤ (k : Int) := by omega
  have hkl : (k : Int) < (len : Int) := by omega
  clear h0 h1 h2 h3 h4 hg hend hrow hp hl hsg hpl
  go_enter Try.func35, Try.ntmps35
  go_wp2_with fail
  go_end0
  exact HE.out

def ffree : List PI → Nat → Option Nat
  | [], _ => none
  | p :: l, i => if p.2 then ffree l (i + 1) else some i
theorem drop_pi {l : List PI} {k : Nat} {x : PI} (h : l[k]? = some x) : l.drop k = x :: l.drop (k + 1) := by
  obtain ⟨hk, rfl⟩ := List.getElem?_eq_some_iff.1 h
  exact List.drop_eq_getElem_cons hk

def pfreed (l : List PI) (k : Nat) : List PI := (l.take k).map (fun p => (p.1, false)) ++ l.drop k
def pcount (l : List PI) : Nat := l.countP (·.2)
theorem pfreed_length (l : List PI) (k : Nat) : (pfreed l k).length = l.length := by simp [pfreed]; omega
theorem pfreed_good {l : List PI} (k : Nat) (h : Good l) : Good (pfreed l k) := fun q hq => by
  rcases List.mem_append.1 hq with hq | hq
  · obtain ⟨p, hp, rfl⟩ := List.mem_map.1 hq
    exact h p (List.mem_of_mem_take hp)
  · exact h q (List.mem_of_mem_drop hq)
theorem pfreed_at {l : List PI} {k : Nat} {x : PI} (h : l[k]? = some x) : (pfreed l k)[k]? = some x := by
  obtain ⟨hk, rfl⟩ := List.getElem?_eq_some_iff.1 h
  unfold pfreed
  rw [List.getElem?_append_right (by simp; omega)]
  simp [List.length_take, Nat.min_eq_left (Nat.le_of_lt hk)]
theorem pfreed_get (l : List PI) (k j : Nat) : (pfreed l k)[j]? = if j < k then l[j]?.map (fun p => (p.1, false)) else l[j]? := by
  unfold pfreed
  rw [List.getElem?_append]
  simp only [List.length_map, List.length_take]
  by_cases h : j < k
  · rw [if_pos h]
    by_cases hl : j < l.length
    · rw [if_pos (by omega), List.getElem?_map, List.getElem?_take, if_pos h]
    · rw [if_neg (by omega), List.getElem?_drop, List.getElem?_eq_none (by omega), List.getElem?_eq_none (by omega)]; rfl
  · rw [if_neg h]
    by_cases hl : k ≤ l.length
    · rw [if_neg (by omega), List.getElem?_drop, Nat.min_eq_left hl, show k + (j - k) = j by omega]
    · rw [if_neg (by omega), List.getElem?_drop, List.getElem?_eq_none (by omega), List.getElem?_eq_none (by omega)]
theorem pfreed_step (l : List PI) (k : Nat) : pfreed l (k + 1) = setMark (pfreed l k) k false := by
  apply List.ext_getElem?
  intro j
  rw [setMark, List.getElem?_modify, pfreed_get, pfreed_get]
  by_cases h1 : j < k
  · rw [if_pos (by omega), if_pos h1]
    have : ¬ k = j := by omega
    cases l[j]? <;> simp [this]
  · by_cases h2 : k = j
    · subst h2
      rw [if_pos (by omega), if_neg h1]
      cases l[k]? <;> simp
    · rw [if_neg (by omega), if_neg h1]
      cases l[j]? <;> simp [h2]
theorem pfreed_none {l : List PI} {k : Nat} {x : PI} (h : l[k]? = some x) (hx : x.2 = false) : pfreed l (k + 1) = pfreed l k := by
  apply List.ext_getElem?
  intro j
  rw [pfreed_get, pfreed_get]
  by_cases h1 : j < k
  · rw [if_pos (by omega), if_pos h1]
  · by_cases h2 : k = j
    · subst h2
      rw [if_pos (by omega), if_neg h1, h]
      obtain ⟨c, b⟩ := x
      cases hx
      rfl
    · rw [if_neg (by omega), if_neg h1]
theorem pcount_le (l : List PI) : pcount l ≤ l.length := List.countP_le_length
theorem pcount_step {l : List PI} {k : Nat} {x : PI} (h : l[k]? = some x) : pcount (l.take (k + 1)) = pcount (l.take k) + (if x.2 then 1 else 0) := by
  obtain ⟨hk, rfl⟩ := List.getElem?_eq_some_iff.1 h
  have e : l.take (k + 1) = l.take k ++ [l[k]] := by rw [List.take_add_one, List.getElem?_eq_getElem hk]; rfl
  rw [e, pcount, List.countP_append, pcount, List.countP_singleton]

def PFreeRound (w : World) (S : Nat → Prop) (l : List PI) (v : Value) (len : Nat) (n i : Value) (wr : World) : Prop :=
  ∃ k : Nat, k ≤ len ∧ i = .int .i64 k ∧ n = .int .i64 (pcount (l.take k)) ∧ wr.heap.size = w.heap.size ∧ (∀ x, v.ownBlock ≠ some x → wr.heap[x]? = w.heap[x]?) ∧ wr.ownsRow 0 85 17 v len (pcells (pfreed l k)) ∧ Touched w wr S

set_option maxRecDepth 100000 in
set_option maxHeartbeats 1000000 in
theorem punmark_any (w : World) (S : Nat → Prop) (nb : Nat) (l : List PI) (h : PRowAt w S nb l) (hlen : l.length ≤ 1000000) : Calls Try.prog 45 #[.pointer (some ⟨nb, 0, none⟩)] w (PC w S nb (pfreed l l.length) (.int .i64 (pcount l))) := by
  obtain ⟨h0, h1, hg, v, h2, h3, h4⟩ := h
  have hend := fun w' hsz hx h8 => PRowAt.turned (w' := w') (l' := pfreed l l.length) h0 h1 (pfreed_good _ hg) h2 h3 h4 hsz hx (pfreed_length l _) h8
  obtain ⟨a, hc, rfl⟩ := owns_slice h3
  have hnb : (Value.slice a l.length hc).ownBlock ≠ some nb := owned_ne h3 h2 (by decide)
  have c0 : w.cell? ⟨nb, 0, none⟩ = some (.slice a l.length hc) := by rw [cell_of_row w _ 0 _ _ _ h2]; rfl
  obtain ⟨len, hl⟩ : ∃ len, len = l.length := ⟨_, rfl⟩
  rw [← hl] at c0 h2 h3 h4 hlen hend hnb
  have HS := Lib.hid (And.intro h2 (And.intro h4 hnb))
  have HG := Lib.hid hg
  have HO : Hid (w.ownsRow 0 85 17 (.slice a len hc) len (pcells (pfreed l 0))) := by
    have : pfreed l 0 = l := by simp [pfreed]
    rw [this]; exact h3
  have HE := Lib.hid hend
  have HL := Lib.hid hl
  clear h0 h1 h2 h3 h4 hend hl hnb hg
  go_enter Try.func45, Try.ntmps45
  go_wp2_with fail
  clear c0
  go_loopw [3, 10] (fun n i wr => PFreeRound w S l (.slice a len hc) len n i wr) (fun _ i _ => len - (intOf i).toNat)
  case atStart => exact ⟨0, Nat.zero_le _, rfl, by simp [pcount], rfl, fun _ _ => rfl, HO.out, Touched.refl _ _⟩
  case round =>
    obtain ⟨k, hk, rfl, rfl, hsz, hkx, ho, ht⟩ := hrel
    have c1 : wr.cell? ⟨nb, 0, none⟩ = some (.slice a len hc) := by rw [cell_of_row wr _ 0 _ _ _ ((hkx nb HS.out.2.2).trans HS.out.1)]; rfl
    have HR := Lib.hid (And.intro hsz (And.intro hkx (And.intro ho ht)))
    clear hsz hkx ho ht
    obtain ⟨n, hn⟩ : ∃ n, n = pcount (l.take k) := ⟨_, rfl⟩
    rw [← hn]
    have hn6 : n ≤ 1000000 := by have := pcount_le (l.take k); rw [List.length_take] at this; omega
    have HN := Lib.hid hn
    clear hn
    by_cases hlt : k < len
    · obtain ⟨x, hx⟩ : ∃ x, l[k]? = some x := ⟨l[k]'(by have := HL.out; omega), List.getElem?_eq_getElem _⟩
      have ho := HR.out.2.2.1
      obtain ⟨g, hc', e, _⟩ := ho.form (by omega)
      cases e
      have hsg : S g := HS.out.2.1 g rfl
      have hgf : Good (pfreed l k) := pfreed_good k HG.out
      have q0 : wr.cell? ⟨g, k * 17 + 16, none⟩ = some (.bool x.2) := by rw [ho.cellAt (k * 17 + 16) (by omega)]; exact pcells_at hgf (pfreed_at hx) 16 _ (by simp [PI.cells, (hgf x (List.mem_of_getElem? (pfreed_at hx))).1])
      have f0 : wr.frozen? ⟨g, k * 17 + 16, none⟩ = false := ho.frozenAt _
      have hst := ho.stored (k * 17 + 16) (.bool false)
      rw [← setMark_cells false hgf (by rw [pfreed_length]; exact (List.getElem?_eq_some_iff.1 hx).1), ← pfreed_step l k] at hst
      have hcs := pcount_step hx
      have hkl : (k : Int) < (len : Int) := by omega
      have hno : x.2 = false → pfreed l (k + 1) = pfreed l k := pfreed_none hx
      obtain ⟨b, hb⟩ : ∃ b, b = x.2 := ⟨_, rfl⟩
      rw [← hb] at q0 hcs hno
      have HST : Hid (PFreeRound w S l (.slice (some ⟨g, 0, none⟩) len hc) len (.int .i64 (pcount (l.take (k + 1)))) (.int .i64 ((k : Int) + 1)) (wr.setCell ⟨g, k * 17 + 16, none⟩ (.bool false))) :=
        show PFreeRound _ _ _ _ _ _ _ _ from ⟨k + 1, by omega, by go_num, rfl, (by simp [World.setCell]; exact HR.out.1), fun y hy => (Below.heap_setCell _ _ _ _ (fun e => hy (by rw [e]; rfl))).trans (HR.out.2.1 y hy), hst.1, HR.out.2.2.2.trans (Touched.setCell (S := S) hsg _) (fun y hy => Or.inl hy)⟩
      have HCS := Lib.hid hcs
      have HNO := Lib.hid hno
      clear ho hst hx hb hcs hsg hgf hno
      cases b
      · go_wp2_with fail
        refine ⟨?_, by simp [intOf]; omega⟩
        have h := HCS.out
        exact ⟨k + 1, by omega, by go_num, by rw [h, ← HN.out]; rfl, HR.out.1, HR.out.2.1, by rw [HNO.out rfl]; exact HR.out.2.2.1, HR.out.2.2.2⟩
      · go_wp2_with fail
        refine ⟨?_, by simp [intOf]; omega⟩
        have h := HST.out
        rw [HCS.out, ← HN.out] at h
        exact h
    · have hkl : ¬ (k : Int) < (len : Int) := by omega
      have hkk : k = len := by omega
      have HK := Lib.hid hkk
      clear hkk
      go_wp2_with fail
      go_ret
      have hn := HN.out
      have hr := HR.out
      rw [HK.out] at hn hr
      refine ⟨?_, S, by rw [← HL.out]; exact HE.out _ hr.1 hr.2.1 hr.2.2.1, hr.2.2.2, fun _ hx => Or.inl hx⟩
      rw [hn, HL.out, List.take_length]
      rfl

theorem Try.infoK : (Try.prog.info? 85).map (fun i => (i.size, i.bytes, i.zero.map (fun z => z.cells.size))) = some (17, 176, some 17) := by kernel_rfl

/-- A value boxed whole. -/
theorem box_stored (w : World) (zs : Array Value) (t : TypeId) (vs : List Value) (h : zs.size = vs.length) :
    (w.alloc (.cells zs t)).there w.heap.size 0 vs.toArray.size ∧ ((w.alloc (.cells zs t)).setCells w.heap.size 0 vs).heap[w.heap.size]? = some (.cells vs.toArray t (0, 0)) ∧
      ((w.alloc (.cells zs t)).setCells w.heap.size 0 vs).heap.size = w.heap.size + 1 ∧ Below w.heap.size w ((w.alloc (.cells zs t)).setCells w.heap.size 0 vs) ∧
      ∀ x, x < w.heap.size → ((w.alloc (.cells zs t)).setCells w.heap.size 0 vs).heap[x]? = w.heap[x]? := by
  have hn := heap_alloc_new w (.cells zs t)
  have hf := setCells_frame (b := w.heap.size) vs 0 (w.alloc (.cells zs t))
  refine ⟨fun j hj => ⟨?_, frozen_of_row _ _ _ _ _ hn⟩, ?_, by rw [hf.1]; simp, ((Below.refl _ _).alloc (Nat.le_refl _) _).trans (hf.2.1 _ (Nat.le_refl _)), fun x hx => (hf.2.2 x (by omega)).trans (Below.heap_alloc _ _ _ hx)⟩
  · rw [cell_of_row _ _ _ _ _ _ hn]
    have hj' : 0 + j < zs.size := by rw [h]; simpa using hj
    rw [Array.getElem?_eq_getElem hj']; rfl
  · have := setCells_block vs [] zs.toList (w.alloc (.cells zs t)) (t := t) (b := w.heap.size) (by simpa using hn) (by simpa using h)
    simpa using this

set_option maxRecDepth 100000 in
set_option maxHeartbeats 1000000 in
theorem pfirst_any (w : World) (S : Nat → Prop) (nb : Nat) (l : List PI) (h : PRowAt w S nb l) (hlen : l.length ≤ 1000000) : Calls Try.prog 36 #[.pointer (some ⟨nb, 0, none⟩)] w fun e w' => e = .returned (firstV (ffree l 0)) ∧ Below w.heap.size w w' := by
  obtain ⟨h0, h1, hg, v, h2, h3, h4⟩ := h
  obtain ⟨a, hc, rfl⟩ := owns_slice h3
  have c0 : w.cell? ⟨nb, 0, none⟩ = some (.slice a l.length hc) := by rw [cell_of_row w _ 0 _ _ _ h2]; rfl
  have HO := Lib.hid h3
  obtain ⟨o, ho⟩ : ∃ o, o = ffree l 0 := ⟨_, rfl⟩
  rw [← ho]
  have HF := Lib.hid ho
  obtain ⟨len, hl⟩ : ∃ len, len = l.length := ⟨_, rfl⟩
  rw [← hl] at c0 hlen HO
  have HL := Lib.hid hl
  have HG := Lib.hid hg
  clear h0 h1 h2 h3 h4 ho hl hg
  go_enter Try.func36, Try.ntmps36
  go_wp2_with fail
  clear c0
  go_loopw [11] (fun i wr => ∃ k : Nat, k ≤ len ∧ i = .int .i64 k ∧ Hid (o = ffree (l.drop k) k) ∧ Below w.heap.size w wr) (fun i _ => len - (intOf i).toNat)
  case atStart => exact ⟨0, Nat.zero_le _, rfl, Lib.hid (by simpa using HF.out), Below.refl _ _⟩
  case round =>
    obtain ⟨k, hk, rfl, hff, hbr⟩ := hrel
    have HB := Lib.hid hbr
    clear hbr
    by_cases hlt : k < len
    · obtain ⟨x, hx⟩ : ∃ x, l[k]? = some x := ⟨l[k]'(by have := HL.out; omega), List.getElem?_eq_getElem _⟩
      have hh := hff.out
      rw [drop_pi hx, ffree] at hh
      have ho := HO.out
      obtain ⟨g, hc', e, _⟩ := ho.form (by omega)
      cases e
      have hkl : (k : Int) < (len : Int) := by omega
      have hgl := (owns_bounds ho (g := g) rfl).2
      have hx17 : x.cells.length = 17 := by simp [PI.cells, (HG.out x (List.mem_of_getElem? hx)).1]
      have hrng : wr.rangeAt g (k * 17) x.cells := fun j u hj => by
        have h17 : j < 17 := by have := (List.getElem?_eq_some_iff.1 hj).1; omega
        rw [HB.out.cell (p := ⟨g, k * 17 + j, none⟩) hgl, ho.cellAt (k * 17 + j) (by have := HL.out; omega)]
        exact pcells_at HG.out hx j u hj
      have hone : x.cells.toArray.all (·.oneCell') = true := all_oneCell_toArray fun u hu => pcells_one HG.out u (List.mem_flatMap.2 ⟨x, List.mem_of_getElem? hx, hu⟩)
      have hbox := box_stored wr #[.int .i8 0, .int .i64 0, .int .i64 0, .int .i64 0, .int .i64 0, .int .i64 0, .int .i64 0, .int .i64 0, .int .i64 0, .int .i64 0, .int .i64 0, .slice none 0 0, .int .i64 0, .int .i64 0, .string ⟨#[]⟩, .slice none 0 0, .bool false] 85 x.cells (by rw [hx17]; rfl)
      have hlast : x.cells[16]? = some (.bool x.2) := by simp [PI.cells, (HG.out x (List.mem_of_getElem? hx)).1]
      have hc16 : ((wr.alloc (.cells #[.int .i8 0, .int .i64 0, .int .i64 0, .int .i64 0, .int .i64 0, .int .i64 0, .int .i64 0, .int .i64 0, .int .i64 0, .int .i64 0, .int .i64 0, .slice none 0 0, .int .i64 0, .int .i64 0, .string ⟨#[]⟩, .slice none 0 0, .bool false] 85)).setCells wr.heap.size 0 x.cells).cell? ⟨wr.heap.size, 16, none⟩ = some (.bool x.2) := by rw [cell_of_row _ _ 16 _ _ _ hbox.2.1]; simpa using hlast
      have hb2 := HB.out.trans (hbox.2.2.2.1.mono HB.out.size)
      have HX := Lib.hid (And.intro hrng (And.intro hone (And.intro hbox.1 (And.intro hx17 (And.intro hc16 hb2)))))
      obtain ⟨b, hb⟩ : ∃ b, b = x.2 := ⟨_, rfl⟩
      rw [← hb] at hh HX
      have HH := Lib.hid hh
      clear hff hh ho hx hgl hrng hone hbox hlast hb2 hc16 hb hx17
      cases b
      · go_wp2_with (first
          | (with_reducible refine wpList_load_mid rfl 85 (.tmp 14) rfl g (k * 17) rfl x.cells _ HX.out.1 Try.underlying85 rfl (by rw [HX.out.2.2.2.1]; kernel_rfl) ?_)
          | ((with_reducible refine wpList_store_mid rfl 85 (.tmp 5) (.tmp 15) rfl wr.heap.size 0 x.cells.toArray rfl rfl HX.out.2.2.1 (by rw [List.size_toArray, HX.out.2.2.2.1]; kernel_rfl) HX.out.2.1 ?_); generalize hW2 : World.setCells _ _ _ _ = W2; have hc2 : W2.cell? ⟨wr.heap.size, 16, none⟩ = some (.bool false) := (by subst hW2; exact HX.out.2.2.2.2.1); have hb2 : Hid (Below w.heap.size w W2) := (by subst hW2; exact HX.out.2.2.2.2.2); clear hW2))
        go_ret2
        exact ⟨by rw [HH.out]; rfl, hb2.out⟩
      · go_wp2_with (first
          | (with_reducible refine wpList_load_mid rfl 85 (.tmp 14) rfl g (k * 17) rfl x.cells _ HX.out.1 Try.underlying85 rfl (by rw [HX.out.2.2.2.1]; kernel_rfl) ?_)
          | ((with_reducible refine wpList_store_mid rfl 85 (.tmp 5) (.tmp 15) rfl wr.heap.size 0 x.cells.toArray rfl rfl HX.out.2.2.1 (by rw [List.size_toArray, HX.out.2.2.2.1]; kernel_rfl) HX.out.2.1 ?_); generalize hW2 : World.setCells _ _ _ _ = W2; have hc2 : W2.cell? ⟨wr.heap.size, 16, none⟩ = some (.bool true) := (by subst hW2; exact HX.out.2.2.2.2.1); have hb2 : Hid (Below w.heap.size w W2) := (by subst hW2; exact HX.out.2.2.2.2.2); clear hW2))
        exact ⟨⟨k + 1, by omega, by go_num, Lib.hid (by rw [HH.out]; rfl), hb2.out⟩, by simp [intOf]; omega⟩
    · have hkl : ¬ (k : Int) < (len : Int) := by omega
      have hh := hff.out
      rw [List.drop_of_length_le (by have := HL.out; omega)] at hh
      have HH := Lib.hid hh
      clear hff hh
      go_wp2_with fail
      go_ret2
      exact ⟨by rw [HH.out]; rfl, HB.out⟩

end Go.Proofs.Ytklpafognbodhaa
