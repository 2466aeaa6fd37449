/-
  The document's own net: its calls First and Free. No condition but that it lies where it is said to lie.
-/
import Derived.Test.YtklpafognbodhaaRNet
namespace Go.Proofs.Ytklpafognbodhaa
open Go.RowKit

/-- The first one that is free, of those from number i on. -/
def firstFree : List Item → Nat → Option Nat
  | [], _ => none
  | p :: l, i => if p.2 then firstFree l (i + 1) else some i
def firstV (o : Option Nat) : Value := match o with
  | some k => .tuple #[.int .i64 k, .bool true]
  | none => .tuple #[.int .i64 0, .bool false]
theorem drop_item {l : List Item} {k : Nat} {x : Item} (h : l[k]? = some x) : l.drop k = x :: l.drop (k + 1) := by
  obtain ⟨hk, rfl⟩ := List.getElem?_eq_some_iff.1 h
  exact List.drop_eq_getElem_cons hk

set_option maxRecDepth 100000 in
set_option maxHeartbeats 1000000 in
theorem rfirst_any (w : World) (S : Nat → Prop) (rb : Nat) (l : List Item) (h : RNetAt w S rb l) (hlen : l.length ≤ 1000000) : Calls Try.prog 26 #[.pointer (some ⟨rb, 0, none⟩)] w fun e w' => e = .returned (firstV (firstFree l 0)) ∧ w = w' := by
  obtain ⟨h0, h1, lv, hv, xs, h2, h3, h4, h5, h6, h7⟩ := h
  obtain ⟨a, hc, rfl⟩ := owns_slice h4
  have c1 : w.cell? ⟨rb, 1, none⟩ = some (.slice a l.length hc) := by rw [cell_of_row w _ 1 _ _ _ h2]; rfl
  have HO := Lib.hid h4
  obtain ⟨o, ho⟩ : ∃ o, o = firstFree l 0 := ⟨_, rfl⟩
  rw [← ho]
  have HF := Lib.hid ho
  obtain ⟨len, hl⟩ : ∃ len, len = l.length := ⟨_, rfl⟩
  rw [← hl] at c1 hlen HO
  have HL := Lib.hid hl
  clear h0 h1 h2 h3 h4 h5 h6 h7 ho hl
  go_enter Try.func26, Try.ntmps26
  go_wp2_with fail
  go_loop [4] (fun i => ∃ k : Nat, k ≤ len ∧ i = .int .i64 k ∧ Hid (o = firstFree (l.drop k) k)) (fun i => len - (intOf i).toNat)
  case atStart => exact ⟨0, Nat.zero_le _, rfl, Lib.hid (by simpa using HF.out)⟩
  case round =>
    obtain ⟨k, hk, rfl, hff⟩ := hrel
    by_cases hlt : k < len
    · obtain ⟨x, hx⟩ : ∃ x, l[k]? = some x := ⟨l[k]'(by have := HL.out; omega), List.getElem?_eq_getElem _⟩
      have hh := hff.out
      rw [drop_item hx, firstFree] at hh
      have ho := HO.out
      obtain ⟨g, hc', e, _⟩ := ho.form (by omega)
      cases e
      have q0 : w.cell? ⟨g, k, none⟩ = some (.bool x.2) := by rw [ho.cellAt k (by omega)]; simp [marks, hx]
      have hkl : (k : Int) < (len : Int) := by omega
      obtain ⟨b, hb⟩ : ∃ b, b = x.2 := ⟨_, rfl⟩
      rw [← hb] at q0 hh
      have HH := Lib.hid hh
      clear hff hh ho hx hb
      cases b
      · go_wp2_with fail
        go_ret2
        exact ⟨by rw [HH.out]; rfl, rfl⟩
      · go_wp2_with fail
        exact ⟨⟨k + 1, by omega, by go_num, Lib.hid (by rw [HH.out]; rfl)⟩, by simp [intOf]; omega⟩
    · have hkl : ¬ (k : Int) < (len : Int) := by omega
      have hh := hff.out
      rw [List.drop_of_length_le (by have := HL.out; omega)] at hh
      have HH := Lib.hid hh
      clear hff hh
      go_wp2_with fail
      go_ret2
      exact ⟨by rw [HH.out]; rfl, rfl⟩

def freed (l : List Item) (k : Nat) : List Item := (l.take k).map (fun p => (p.1, false)) ++ l.drop k
def count (l : List Item) : Nat := l.countP (·.2)
theorem freed_step {l : List Item} {k : Nat} {x : Item} (h : l[k]? = some x) : marks (freed l (k + 1)) = (marks (freed l k)).set k (.bool false) := by
  obtain ⟨hk, rfl⟩ := List.getElem?_eq_some_iff.1 h
  have e : l.take (k + 1) = l.take k ++ [l[k]] := by rw [List.take_add_one, List.getElem?_eq_getElem hk]; rfl
  have e2 : l.drop k = l[k] :: l.drop (k + 1) := List.drop_eq_getElem_cons hk
  unfold freed marks
  rw [e, e2]
  simp only [List.map_append, List.map_cons, List.map_nil, List.map_map]
  rw [List.set_append_right _ _ (by simp [Nat.min_le_left])]
  simp [List.length_take, Nat.min_eq_left (Nat.le_of_lt hk)]
theorem freed_msgs (l : List Item) (k : Nat) : (freed l k).map (·.1) = l.map (·.1) := by
  unfold freed
  rw [List.map_append, List.map_map]
  have : ((fun p : Item => p.1) ∘ fun p : Item => (p.1, false)) = fun p : Item => p.1 := rfl
  rw [this, ← List.map_append, List.take_append_drop]
theorem freed_length (l : List Item) (k : Nat) : (freed l k).length = l.length := by
  have := congrArg List.length (freed_msgs l k)
  simpa using this
theorem freed_at {l : List Item} {k : Nat} {x : Item} (h : l[k]? = some x) : (freed l k)[k]? = some x := by
  obtain ⟨hk, rfl⟩ := List.getElem?_eq_some_iff.1 h
  unfold freed
  rw [List.getElem?_append_right (by simp; omega)]
  simp [List.length_take, Nat.min_eq_left (Nat.le_of_lt hk)]

def FreeC (w : World) (S : Nat → Prop) (rb : Nat) (l : List Item) (e : Ending) (w' : World) : Prop := e = .returned (.int .i64 (count l)) ∧ RNetAt w' S rb (freed l l.length) ∧ Touched w w' S

theorem RNetAt.marks_turned {w w' : World} {S : Nat → Prop} {rb : Nat} {l l' : List Item} {lv hv : Value} {xs : List Value} (h0 : ∀ x, S x → x < w.heap.size) (h1 : S rb) (h2 : w.heap[rb]? = some (.cells #[lv, hv] 31 (0, 0)))
    (h3 : w.ownsRow 0 40 16 lv l.length xs) (h4 : w.ownsRow 0 4 1 hv l.length (marks l)) (h5 : ∀ g, lv.ownBlock = some g → S g) (h6 : ∀ g, hv.ownBlock = some g → S g)
    (h7 : MsgRow w (Inner S rb lv hv) (l.map (·.1)) xs) (hsz : w'.heap.size = w.heap.size) (hk : ∀ x, hv.ownBlock ≠ some x → w'.heap[x]? = w.heap[x]?) (hlen : l'.length = l.length) (hm : l'.map (·.1) = l.map (·.1))
    (h8 : w'.ownsRow 0 4 1 hv l.length (marks l')) : RNetAt w' S rb l' := by
  refine ⟨fun x hx => by rw [hsz]; exact h0 x hx, h1, lv, hv, xs, (hk rb (owned_ne h4 h2 (by decide))).trans h2, ?_, ?_, h5, h6, ?_⟩
  · rw [hlen]; exact owns_kept h3 (fun x _ _ hx => hk x (owned_apart h3 h4 (by decide) hx))
  · rw [hlen]; exact h8
  · rw [hm]
    exact h7.kept fun x hx => ⟨hx, hk x hx.2.2.2⟩

def FreeRound (w : World) (S : Nat → Prop) (l : List Item) (hv : Value) (len : Nat) (n i : Value) (wr : World) : Prop :=
  ∃ k : Nat, k ≤ len ∧ i = .int .i64 k ∧ n = .int .i64 (count (l.take k)) ∧ wr.heap.size = w.heap.size ∧ (∀ x, hv.ownBlock ≠ some x → wr.heap[x]? = w.heap[x]?) ∧ wr.ownsRow 0 4 1 hv len (marks (freed l k)) ∧ Touched w wr S
theorem count_le (l : List Item) : count l ≤ l.length := List.countP_le_length
theorem count_step {l : List Item} {k : Nat} {x : Item} (h : l[k]? = some x) : count (l.take (k + 1)) = count (l.take k) + (if x.2 then 1 else 0) := by
  obtain ⟨hk, rfl⟩ := List.getElem?_eq_some_iff.1 h
  have e : l.take (k + 1) = l.take k ++ [l[k]] := by rw [List.take_add_one, List.getElem?_eq_getElem hk]; rfl
  rw [e, count, List.countP_append, count, List.countP_singleton]

set_option maxRecDepth 100000 in
set_option maxHeartbeats 1000000 in
theorem rfree_any (w : World) (S : Nat → Prop) (rb : Nat) (l : List Item) (h : RNetAt w S rb l) (hlen : l.length ≤ 1000000) : Calls Try.prog 25 #[.pointer (some ⟨rb, 0, none⟩)] w (FreeC w S rb l) := by
  obtain ⟨h0, h1, lv, hv, xs, h2, h3, h4, h5, h6, h7⟩ := h
  have hend := fun w' hsz hx h8 => RNetAt.marks_turned (w' := w') (l' := freed l l.length) h0 h1 h2 h3 h4 h5 h6 h7 hsz hx (freed_length l _) (freed_msgs l _) h8
  obtain ⟨a, hc, rfl⟩ := owns_slice h4
  have hrb : (Value.slice a l.length hc).ownBlock ≠ some rb := owned_ne h4 h2 (by decide)
  obtain ⟨len, hl⟩ : ∃ len, len = l.length := ⟨_, rfl⟩
  rw [← hl] at h2 h4 h6 hlen hend hrb
  have HS := Lib.hid (And.intro h2 (And.intro h6 hrb))
  have HO : Hid (w.ownsRow 0 4 1 (.slice a len hc) len (marks (freed l 0))) := by
    have : freed l 0 = l := by simp [freed]
    rw [this]; exact h4
  have HE := Lib.hid hend
  have HL := Lib.hid hl
  clear h0 h1 h2 h3 h4 h5 h6 h7 hend hl hrb
  go_enter Try.func25, Try.ntmps25
  go_wp2_with fail
  go_loopw [3, 4] (fun n i wr => FreeRound w S l (.slice a len hc) len n i wr) (fun _ i _ => len - (intOf i).toNat)
  case atStart => exact ⟨0, Nat.zero_le _, rfl, by simp [count], rfl, fun _ _ => rfl, HO.out, Touched.refl _ _⟩
  case round =>
    obtain ⟨k, hk, rfl, rfl, hsz, hkx, ho, ht⟩ := hrel
    have c1 : wr.cell? ⟨rb, 1, none⟩ = some (.slice a len hc) := by rw [cell_of_row wr _ 1 _ _ _ ((hkx rb HS.out.2.2).trans HS.out.1)]; rfl
    have HR := Lib.hid (And.intro hsz (And.intro hkx (And.intro ho ht)))
    clear hsz hkx ho ht
    obtain ⟨n, hn⟩ : ∃ n, n = count (l.take k) := ⟨_, rfl⟩
    rw [← hn]
    have hn6 : n ≤ 1000000 := by have := count_le (l.take k); rw [List.length_take] at this; omega
    have HN := Lib.hid hn
    clear hn
    by_cases hlt : k < len
    · obtain ⟨x, hx⟩ : ∃ x, l[k]? = some x := ⟨l[k]'(by have := HL.out; omega), List.getElem?_eq_getElem _⟩
      have ho := HR.out.2.2.1
      obtain ⟨g, hc', e, _⟩ := ho.form (by omega)
      cases e
      have hsg : S g := HS.out.2.1 g rfl
      have q0 : wr.cell? ⟨g, k, none⟩ = some (.bool x.2) := by rw [ho.cellAt k (by omega)]; simp [marks, freed_at hx]
      have f0 : wr.frozen? ⟨g, k, none⟩ = false := ho.frozenAt k
      have hst := ho.stored k (.bool false)
      rw [← freed_step hx] at hst
      have hcs := count_step hx
      have hkl : (k : Int) < (len : Int) := by omega
      obtain ⟨b, hb⟩ : ∃ b, b = x.2 := ⟨_, rfl⟩
      rw [← hb] at q0 hcs
      have HST : Hid (FreeRound w S l (.slice (some ⟨g, 0, none⟩) len hc) len (.int .i64 (count (l.take (k + 1)))) (.int .i64 ((k : Int) + 1)) (wr.setCell ⟨g, k, none⟩ (.bool false))) :=
        show FreeRound _ _ _ _ _ _ _ _ from ⟨k + 1, by omega, by go_num, rfl, (by simp [World.setCell]; exact HR.out.1), fun y hy => (Below.heap_setCell _ _ _ _ (fun e => hy (by rw [e]; rfl))).trans (HR.out.2.1 y hy), hst.1, HR.out.2.2.2.trans (Touched.setCell (S := S) hsg _) (fun y hy => Or.inl hy)⟩
      have HCS := Lib.hid hcs
      clear ho hst hx hb hcs hsg
      cases b
      · go_wp2_with fail
        refine ⟨?_, by simp [intOf]; omega⟩
        have h := HST.out
        rw [HCS.out, ← HN.out] at h
        exact h
      · go_wp2_with fail
        refine ⟨?_, by simp [intOf]; omega⟩
        have h := HST.out
        rw [HCS.out, ← HN.out] at h
        exact h
    · have hkl : ¬ (k : Int) < (len : Int) := by omega
      have hkk : k = len := by omega
      have HK := Lib.hid hkk
      clear hkk
      go_wp2_with fail
      go_ret
      have hn := HN.out
      have hr := HR.out
      rw [HK.out] at hn hr
      refine ⟨?_, by rw [← HL.out]; exact HE.out _ hr.1 hr.2.1 hr.2.2.1, hr.2.2.2⟩
      rw [hn, HL.out, List.take_length]
      rfl

end Go.Proofs.Ytklpafognbodhaa
