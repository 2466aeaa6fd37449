/-
  The program's net and the document's, one beside the other: Send, Double, Look, Take, Len. Plain laws. No condition.
-/
import Derived.Test.YtklpafognbodhaaHalf
import Derived.Test.YtklpafognbodhaaPDouble
namespace Go.Proofs.Ytklpafognbodhaa
open Go.RowKit

def zeroM : Msg := { kind := 0, frm := 0, to := 0, boot := 0, server := 0, number := 0, node := 0, lease := 0, epoch := 0, version := 0, e := 0, steps := [], tree := { id := 0, kind := 0, text := ⟨#[]⟩, kids := .nil } }
theorem zeroM_cells : (msgCells zeroM none 0 none 0).toArray = #[.int .i8 0, .int .i64 0, .int .i64 0, .int .i64 0, .int .i64 0, .int .i64 0, .int .i64 0, .int .i64 0, .int .i64 0, .int .i64 0, .int .i64 0, .slice none 0 0, .int .i64 0, .int .i64 0, .string ⟨#[]⟩, .slice none 0 0] := rfl
theorem zeroM_in (w : World) (T : Nat → Prop) : MsgIn w T zeroM none none := ⟨fun h => absurd h (by simp [zeroM]), True.intro⟩
theorem zeroM_small : zeroM.small := ⟨by simp [zeroM], fun s hs => by simp [zeroM] at hs, by simp [zeroM, foSize]⟩
/-- The k-th message, or none. -/
def lookAt (l : List Item) (k : Int) : Item := if 0 ≤ k ∧ k < l.length then (l[k.toNat]?).getD (zeroM, false) else (zeroM, false)
theorem lookAt_in {l : List Item} {k : Nat} {q : Item} (h : l[k]? = some q) : lookAt l k = q := by
  have hk := (List.getElem?_eq_some_iff.1 h).1
  rw [lookAt, if_pos (by omega), Int.toNat_natCast, h]; rfl
theorem lookAt_out {l : List Item} {k : Int} (h : ¬ (0 ≤ k ∧ k < l.length)) : lookAt l k = (zeroM, false) := by rw [lookAt, if_neg h]
theorem lookAt_small {l : List Item} (k : Int) (h : GoodL l) : (lookAt l k).1.small := by
  by_cases hk : 0 ≤ k ∧ k < l.length
  · obtain ⟨n, rfl⟩ : ∃ n : Nat, k = n := ⟨k.toNat, by omega⟩
    have hn : n < l.length := by omega
    rw [lookAt_in (List.getElem?_eq_getElem hn)]
    exact (h.2 _ (List.getElem_mem hn)).1
  · rw [lookAt_out hk]; exact zeroM_small

theorem Half.len {w0 w : World} {T : Nat → Prop} {nb rb : Nat} {l lm : List Item} (h : Half w0 w T nb rb l lm) : Calls Try.prog 8 #[.pointer (some ⟨nb, 0, none⟩)] w fun e w' => e = .returned (.int .i64 lm.length) ∧ w = w' := by
  obtain ⟨SP, SR, pl, h⟩ := h
  have := nlen_any w SP nb pl h.prow
  rw [h.like.length] at this
  exact this
theorem Half.rlen {w0 w : World} {T : Nat → Prop} {nb rb : Nat} {l lm : List Item} (h : Half w0 w T nb rb l lm) : ∃ la lc, w.cell? ⟨rb, 0, none⟩ = some (.slice la l.length lc) := by
  obtain ⟨SP, SR, pl, h⟩ := h
  obtain ⟨_, _, lv, hv, xs, h2, h3, _⟩ := h.rnet
  obtain ⟨la, lc, rfl⟩ := owns_slice h3
  exact ⟨la, lc, by rw [cell_of_row w _ 0 _ _ _ h2]; rfl⟩
theorem Half.still {w0 w w1 : World} {T : Nat → Prop} {nb rb : Nat} {l lm : List Item} (h : Half w0 w T nb rb l lm) (hb : Below w.heap.size w w1) : Half w0 w1 T nb rb l lm := by
  obtain ⟨SP, SR, pl, h⟩ := h
  exact ⟨SP, SR, pl, h.still hb⟩
theorem Half.tl {w0 w : World} {T : Nat → Prop} {nb rb : Nat} {l lm : List Item} (h : Half w0 w T nb rb l lm) : ∀ x, T x → x < w.heap.size := by
  obtain ⟨SP, SR, pl, h⟩ := h
  exact h.tl
theorem Half.good {w0 w : World} {T : Nat → Prop} {nb rb : Nat} {l lm : List Item} (h : Half w0 w T nb rb l lm) : GoodL lm := by
  obtain ⟨SP, SR, pl, h⟩ := h
  exact h.goodm

/-- What a call of the program's net leaves that hands a message out: it lies in T', apart from both nets. -/
def HalfM (w0 : World) (T : Nat → Prop) (nb rb : Nat) (l lm : List Item) (m : Msg) (F : Value → Value) (w : World) (e : Ending) (w' : World) : Prop :=
  ∃ (T' : Nat → Prop) (sa : Option Addr) (sc : Nat) (ka : Option Addr) (cap : Nat), e = .returned (F (.agg (msgCells m sa sc ka cap).toArray)) ∧ MsgIn w' T' m sa ka ∧ Half w0 w' T' nb rb l lm ∧ ∀ x, T x → T' x ∧ w'.heap[x]? = w.heap[x]?
/-- .. of the document's. -/
def HalfR (w0 : World) (T : Nat → Prop) (nb rb : Nat) (l lm : List Item) (m : Msg) (F : Value → Value) (w : World) (e : Ending) (w' : World) : Prop :=
  ∃ (sa : Option Addr) (sc : Nat) (ka : Option Addr) (cap : Nat), e = .returned (F (.agg (msgCells m sa sc ka cap).toArray)) ∧ MsgIn w' (fun x => x < w'.heap.size) m sa ka ∧ Half w0 w' T nb rb l lm ∧ ∀ x, T x → w'.heap[x]? = w.heap[x]?
/-- A copy's parts, that lie in T or in what was made then. -/
def TFresh (T : Nat → Prop) (W1 W2 : World) : Nat → Prop := fun x => T x ∨ Fresh W1 W2 x

theorem half_look_p {w0 w : World} {T : Nat → Prop} {nb rb : Nat} {l : List Item} (k : Int) (h : Half w0 w T nb rb l l) :
    Calls Try.prog 22 #[.pointer (some ⟨nb, 0, none⟩), .int .i64 k] w (HalfM w0 T nb rb l l (lookAt l k).1 (fun v => .tuple #[v, .bool (lookAt l k).2, .int .i64 (lacksE l.length k)]) w) := by
  obtain ⟨SP, SR, pl, h⟩ := h
  have hl := h.like.length
  have h10 := h.goodm.1
  by_cases hk : 0 ≤ k ∧ k < l.length
  · obtain ⟨n, rfl⟩ : ∃ n : Nat, k = n := ⟨k.toNat, by omega⟩
    obtain ⟨q, hq⟩ : ∃ q, l[n]? = some q := ⟨l[n]'(by omega), List.getElem?_eq_getElem _⟩
    rw [lookAt_in hq, lacksE, if_pos hk]
    obtain ⟨p, hp, e2, sa, sc, ka, cap, e1, hin⟩ := h.like.at hq
    have hg := h.goodm.2 q (List.mem_of_getElem? hq)
    refine (nlook_yes (SameR T q.1) w SP nb pl n p h.prow hp (by omega) fun W hb => ?_).mono fun e w' hc => ?_
    · rw [e1]
      have hi := hin.kept (w' := W) (S' := T) fun x hx => ⟨hx, hb.block x (h.tl x hx)⟩
      exact copied_any W T q.1 sa sc ka cap (fun x hx => Nat.lt_of_lt_of_le (h.tl x hx) hb.size) hi.1 hi.2 hg.1.1 hg.2.1
    · obtain ⟨cs, he, h16, W1, W2, hb1, hlt, ⟨sa', sc', ka', cap', e3, hin'⟩, hb2, hb3, hsz, hsame⟩ := hc
      have hsz2 := hb2.size
      refine ⟨TFresh T W1 W2, sa', sc', ka', cap', by rw [he, e3, e2], ?_, ⟨SP, SR, pl, h.prog (h.prow.below hb3) (Below.touched hb3 SP) (fun _ hx => Or.inl hx) (fun _ hx => Or.inl hx) (fun x hx => hx.imp id fun hf => ⟨by have := hf.1; omega, by rw [hsz]; exact hf.2, fun hs => by have := h.prow.1 x hs; have := hf.1; omega⟩) (h.like.kept fun x hx => ⟨Or.inl hx, hb3.block x (h.tl x hx)⟩) h.goodm⟩, fun x hx => ⟨Or.inl hx, hb3.block x (h.tl x hx)⟩⟩
      refine hin'.kept fun x hx => ⟨hx, hsame x fun e => ?_⟩
      rcases hx with hx | hx
      · have := h.tl x hx; omega
      · have := hx.1; omega
  · rw [lookAt_out hk, lacksE, if_neg hk]
    refine (nlook_no w SP nb pl k h.prow (by omega)).mono fun e w' ⟨he, hb⟩ => ?_
    exact ⟨T, none, 0, none, 0, he, zeroM_in _ _, ⟨SP, SR, pl, h.still hb⟩, fun x hx => ⟨hx, hb.block x (h.tl x hx)⟩⟩
theorem half_look_r {w0 w : World} {T : Nat → Prop} {nb rb : Nat} {l lm : List Item} (k : Int) (h : Half w0 w T nb rb l lm) :
    Calls Try.prog 23 #[.pointer (some ⟨rb, 0, none⟩), .int .i64 k] w (HalfR w0 T nb rb l lm (lookAt l k).1 (fun v => .tuple #[v, .bool (lookAt l k).2, .int .i64 (lacksE l.length k)]) w) := by
  obtain ⟨SP, SR, pl, h⟩ := h
  have h10 := h.goodl.1
  by_cases hk : 0 ≤ k ∧ k < l.length
  · obtain ⟨n, rfl⟩ : ∃ n : Nat, k = n := ⟨k.toNat, by omega⟩
    obtain ⟨q, hq⟩ : ∃ q, l[n]? = some q := ⟨l[n]'(by omega), List.getElem?_eq_getElem _⟩
    rw [lookAt_in hq, lacksE, if_pos hk]
    refine (rlook_yes w SR rb l n q h.rnet hq (h.goodl.2 q (List.mem_of_getElem? hq)).1 (by omega)).mono fun e w' ⟨cs, he, _, ⟨sa, sc, ka, cap, e1, hin⟩, hb⟩ => ?_
    exact ⟨sa, sc, ka, cap, by rw [he, e1], hin.kept fun x hx => ⟨hx.2, rfl⟩, ⟨SP, SR, pl, h.still hb⟩, fun x hx => hb.block x (h.tl x hx)⟩
  · rw [lookAt_out hk, lacksE, if_neg hk]
    refine (rlook_no w SR rb l k h.rnet (by omega)).mono fun e w' ⟨he, hb⟩ => ?_
    exact ⟨none, 0, none, 0, he, zeroM_in _ _, ⟨SP, SR, pl, h.still hb⟩, fun x hx => hb.block x (h.tl x hx)⟩

def takeL (l : List Item) (k : Int) : List Item := if 0 ≤ k ∧ k < l.length then l.eraseIdx k.toNat else l
theorem half_take_p {w0 w : World} {T : Nat → Prop} {nb rb : Nat} {l : List Item} (k : Int) (h : Half w0 w T nb rb l l) :
    Calls Try.prog 14 #[.pointer (some ⟨nb, 0, none⟩), .int .i64 k] w (HalfM w0 T nb rb l (takeL l k) (lookAt l k).1 (fun v => .tuple #[v, .int .i64 (lacksE l.length k)]) w) := by
  obtain ⟨SP, SR, pl, h⟩ := h
  have hl := h.like.length
  have h10 := h.goodm.1
  by_cases hk : 0 ≤ k ∧ k < l.length
  · obtain ⟨n, rfl⟩ : ∃ n : Nat, k = n := ⟨k.toNat, by omega⟩
    obtain ⟨q, hq⟩ : ∃ q, l[n]? = some q := ⟨l[n]'(by omega), List.getElem?_eq_getElem _⟩
    rw [lookAt_in hq, lacksE, if_pos hk, takeL, if_pos hk, Int.toNat_natCast]
    obtain ⟨a, r, p, e0, ea, e2, ⟨sa, sc, ka, cap, e1, hin⟩, hrest⟩ := h.like.split hq
    have hg := h.goodm.2 q (List.mem_of_getElem? hq)
    have hprow := h.prow
    rw [e0] at hprow
    refine (ntake_yes (SameR T q.1) w SP nb a r p n hprow ea.symm (by rw [← e0]; omega) fun W ht hsz => ?_).mono fun e w' hc => ?_
    · rw [e1]
      have hi := hin.kept (w' := W) (S' := T) fun x hx => ⟨hx, ht.block x (h.tl x hx) (h.tp x hx)⟩
      exact copied_any W T q.1 sa sc ka cap (fun x hx => Nat.lt_of_lt_of_le (h.tl x hx) hsz) hi.1 hi.2 hg.1.1 hg.2.1
    · obtain ⟨cs, he, h16, W1, W2, S', ht1, hlt, ⟨sa', sc', ka', cap', e3, hin'⟩, hb2, hp', hs', ht, hsz, hsame⟩ := hc
      have hsz2 := hb2.size
      refine ⟨TFresh T W1 W2, sa', sc', ka', cap', by rw [he, e3], ?_, ⟨S', SR, a ++ r, h.prog hp' ht (fun x hx => (hs' x hx).imp id fun h' => by omega) (fun _ hx => Or.inl hx) (fun x hx => hx.imp id fun hf => ⟨by have := hf.1; omega, by rw [hsz]; exact hf.2, fun hs => by
        have h1 := hf.1
        rcases hs' x hs with h' | h'
        · have := h.prow.1 x h'; omega
        · omega⟩) (hrest.kept fun x hx => ⟨Or.inl hx, ht.block x (h.tl x hx) (h.tp x hx)⟩) (h.goodm.sub (List.eraseIdx_sublist l n))⟩, fun x hx => ⟨Or.inl hx, ht.block x (h.tl x hx) (h.tp x hx)⟩⟩
      refine hin'.kept fun x hx => ⟨hx, hsame x fun e => ?_⟩
      rcases hx with hx | hx
      · have := h.tl x hx; omega
      · have := hx.1; omega
  · rw [lookAt_out hk, lacksE, if_neg hk, takeL, if_neg hk]
    refine (ntake_no w SP nb pl k h.prow (by omega)).mono fun e w' ⟨he, hb⟩ => ?_
    exact ⟨T, none, 0, none, 0, he, zeroM_in _ _, ⟨SP, SR, pl, h.still hb⟩, fun x hx => ⟨hx, hb.block x (h.tl x hx)⟩⟩
theorem half_take_r {w0 w : World} {T : Nat → Prop} {nb rb : Nat} {l lm : List Item} (k : Int) (h : Half w0 w T nb rb l lm) :
    Calls Try.prog 17 #[.pointer (some ⟨rb, 0, none⟩), .int .i64 k] w (HalfR w0 T nb rb (takeL l k) lm (lookAt l k).1 (fun v => .tuple #[v, .int .i64 (lacksE l.length k)]) w) := by
  obtain ⟨SP, SR, pl, h⟩ := h
  have h10 := h.goodl.1
  by_cases hk : 0 ≤ k ∧ k < l.length
  · obtain ⟨n, rfl⟩ : ∃ n : Nat, k = n := ⟨k.toNat, by omega⟩
    obtain ⟨q, hq⟩ : ∃ q, l[n]? = some q := ⟨l[n]'(by omega), List.getElem?_eq_getElem _⟩
    rw [lookAt_in hq, lacksE, if_pos hk, takeL, if_pos hk, Int.toNat_natCast]
    refine (rtake_yes w SR rb l n q h.rnet hq (h.goodl.2 q (List.mem_of_getElem? hq)).1 (by omega)).mono fun e w' ⟨cs, he, _, ⟨sa, sc, ka, cap, e1, hin⟩, S', p1, p2, p3⟩ => ?_
    obtain ⟨g1, g2⟩ := h.ref p1 p2 p3 (h.goodl.sub (List.eraseIdx_sublist l n))
    exact ⟨sa, sc, ka, cap, by rw [he, e1], hin.kept fun x hx => ⟨hx.2, rfl⟩, ⟨SP, S', pl, g1⟩, g2⟩
  · rw [lookAt_out hk, lacksE, if_neg hk, takeL, if_neg hk]
    refine (rtake_no w SR rb l k h.rnet (by omega)).mono fun e w' ⟨he, hb⟩ => ?_
    exact ⟨none, 0, none, 0, he, zeroM_in _ _, ⟨SP, SR, pl, h.still hb⟩, fun x hx => hb.block x (h.tl x hx)⟩

/-- What a call of the program's net leaves that may take a message in. -/
def HalfS (w0 : World) (T : Nat → Prop) (nb rb : Nat) (l lm : List Item) (E : Value) (w : World) (e : Ending) (w' : World) : Prop := e = .returned E ∧ ∃ T', Half w0 w' T' nb rb l lm ∧ ∀ x, T x → T' x ∧ w'.heap[x]? = w.heap[x]?
theorem GoodL.snoc {l : List Item} {m : Msg} (h : GoodL l) (hl : l.length < 1024) (hm : m.small) (hs : m.sum ≤ 1000000) (h1 : isAddr m.frm = true) (h2 : isAddr m.to = true) : GoodL (l ++ [(m, false)]) :=
  ⟨by simp; omega, fun p hp => by
    rcases List.mem_append.1 hp with hp | hp
    · exact h.2 p hp
    · simp only [List.mem_singleton] at hp; subst hp; exact ⟨hm, hs, h1, h2⟩⟩
theorem half_send_p {w0 w : World} {T : Nat → Prop} {nb rb : Nat} {l : List Item} (v : Value) (m : Msg) (h : Half w0 w T nb rb l l) (hv : MsgAt w T v m) (hm : m.small) (hs : m.sum ≤ 1000000) :
    Calls Try.prog 11 #[.pointer (some ⟨nb, 0, none⟩), v] w (HalfS w0 T nb rb l (sendL l m) (.int .i64 (sendE l m)) w) := by
  obtain ⟨SP, SR, pl, h⟩ := h
  have hl := h.like.length
  have h10 := h.goodm.1
  obtain ⟨sa, sc, ka, cap, rfl, hs1, ht1⟩ := hv
  by_cases ha : (isAddr m.frm && isAddr m.to) = true
  · have ha2 := ha
    simp only [Bool.and_eq_true] at ha2
    by_cases hfull : 1024 ≤ l.length
    · rw [sendL, if_pos ha, if_pos hfull, sendE, if_pos ha, if_pos hfull]
      refine (psend_no w SP nb pl m.frm m.to _ _ _ _ _ _ _ _ _ _ _ _ _ _ h.prow (Or.inr (by omega)) (by omega)).mono fun e w' ⟨he, hb⟩ => ?_
      have ha3 : (addrOk m.frm && addrOk m.to) = true := ha
      rw [if_pos ha3] at he
      exact ⟨he, T, ⟨SP, SR, pl, h.still hb⟩, fun x hx => ⟨hx, hb.block x (h.tl x hx)⟩⟩
    · rw [sendL, if_pos ha, if_neg hfull, sendE, if_pos ha, if_neg hfull]
      refine (psend_yes (SameR T m) w SP nb pl m.frm m.to _ _ _ _ _ _ _ _ _ _ _ _ _ _ h.prow ha2.1 ha2.2 (by omega) fun W hb => ?_).mono fun e w' ⟨he, W1, W2, cs, S', hb1, ⟨sa', sc', ka', cap', e3, hin'⟩, hb2, hp', ht, hs'⟩ => ?_
      · exact copied_any W T m sa sc ka cap (fun x hx => Nat.lt_of_lt_of_le (h.tl x hx) hb.size) (hs1.kept fun x hx => ⟨hx, hb.block x (h.tl x hx)⟩) (ht1.kept fun x hx => ⟨hx, hb.block x (h.tl x hx)⟩) hm.1 hs
      · have hsz1 := hb1.size
        have hsz2 := hb2.size
        have hsz3 := ht.size
        have hbw2 : Below w.heap.size w W2 := hb1.trans (hb2.mono hsz1)
        have htw : Touched w w' SP := (Below.touched hbw2 SP).trans ht (fun x hx => Or.inl hx)
        have hk : ∀ x, T x → w'.heap[x]? = w.heap[x]? := fun x hx => htw.block x (h.tl x hx) (h.tp x hx)
        refine ⟨he, TFresh T W1 W2, ⟨S', SR, _, h.prog hp' htw (fun x hx => (hs' x hx).imp id fun h' => by omega) (fun _ hx => Or.inl hx) (fun x hx => hx.imp id fun hf => ⟨by have := hf.1; omega, by have := hf.2; omega, fun hs => by
          have h1 := hf.1
          have h2 := hf.2
          rcases hs' x hs with h' | h'
          · have := h.prow.1 x h'; omega
          · omega⟩) (PMatch.snoc rfl ⟨sa', sc', ka', cap', e3, hin'.kept fun x hx => ⟨hx, ?_⟩⟩ (h.like.kept fun x hx => ⟨Or.inl hx, hk x hx⟩)) (h.goodm.snoc (by omega) hm hs ha2.1 ha2.2)⟩, fun x hx => ⟨Or.inl hx, hk x hx⟩⟩
        refine ht.block x ?_ fun hs => ?_
        · rcases hx with hx | hx
          · have := h.tl x hx; omega
          · exact hx.2
        · rcases hx with hx | hx
          · exact h.tp x hx hs
          · have := hx.1; have := h.prow.1 x hs; omega
  · rw [sendL, if_neg ha, sendE, if_neg ha]
    have ha3 : ¬ (addrOk m.frm && addrOk m.to) = true := ha
    refine (psend_no w SP nb pl m.frm m.to _ _ _ _ _ _ _ _ _ _ _ _ _ _ h.prow (Or.inl (by simpa using ha3)) (by omega)).mono fun e w' ⟨he, hb⟩ => ?_
    rw [if_neg ha3] at he
    exact ⟨he, T, ⟨SP, SR, pl, h.still hb⟩, fun x hx => ⟨hx, hb.block x (h.tl x hx)⟩⟩
/-- The document's Send, on its net alone. -/
theorem rsend_all {w : World} {S U : Nat → Prop} {rb : Nat} {l : List Item} (v : Value) (m : Msg) (h : RNetAt w S rb l) (hU : ∀ k, U k → k < w.heap.size) (hv : MsgAt w U v m) (hm : m.small) (h10 : l.length ≤ 1024) :
    Calls Try.prog 16 #[.pointer (some ⟨rb, 0, none⟩), v] w (NetC w S rb (sendL l m) (.int .i64 (sendE l m))) := by
  by_cases ha : (isAddr m.frm && isAddr m.to) = true
  · have ha2 := ha
    simp only [Bool.and_eq_true] at ha2
    by_cases hfull : 1024 ≤ l.length
    · rw [sendL, if_pos ha, if_pos hfull, sendE, if_pos ha, if_pos hfull]
      have := rsend_no w S U rb l v m h hv (by omega) (Or.inr hfull)
      rwa [if_pos ha] at this
    · rw [sendL, if_pos ha, if_neg hfull, sendE, if_pos ha, if_neg hfull]
      exact rsend_yes w S U rb l v m h hU hv hm (by omega) ha2.1 ha2.2
  · rw [sendL, if_neg ha, sendE, if_neg ha]
    have := rsend_no w S U rb l v m h hv (by omega) (Or.inl (by simpa using ha))
    rwa [if_neg ha] at this
theorem half_send_r {w0 w : World} {T : Nat → Prop} {nb rb : Nat} {l lm : List Item} (v : Value) (m : Msg) (h : Half w0 w T nb rb l lm) (hv : MsgAt w T v m) (hm : m.small) (hs : m.sum ≤ 1000000) :
    Calls Try.prog 16 #[.pointer (some ⟨rb, 0, none⟩), v] w (HalfC w0 T nb rb (sendL l m) lm (.int .i64 (sendE l m)) w) := by
  obtain ⟨SP, SR, pl, h⟩ := h
  refine (rsend_all v m h.rnet h.tl hv hm h.goodl.1).mono fun e w1 ⟨he, S', p1, p2, p3⟩ => ?_
  have hg : GoodL (sendL l m) := by
    unfold sendL
    split
    · rename_i ha
      simp only [Bool.and_eq_true] at ha
      split
      · exact h.goodl
      · exact h.goodl.snoc (by omega) hm hs ha.1 ha.2
    · exact h.goodl
  obtain ⟨g1, g2⟩ := h.ref p1 p2 p3 hg
  exact ⟨he, ⟨SP, S', pl, g1⟩, g2⟩

def doubleE (l : List Item) (k : Int) : Int := if 0 ≤ k ∧ k < l.length then (if 1024 ≤ l.length then 20 else 0) else 4
def doubleL (l : List Item) (k : Int) : List Item := if 0 ≤ k ∧ k < l.length then (if 1024 ≤ l.length then l else l ++ [((lookAt l k).1, false)]) else l
theorem half_double_p {w0 w : World} {T : Nat → Prop} {nb rb : Nat} {l : List Item} (k : Int) (h : Half w0 w T nb rb l l) :
    Calls Try.prog 19 #[.pointer (some ⟨nb, 0, none⟩), .int .i64 k] w (HalfC w0 T nb rb l (doubleL l k) (.int .i64 (doubleE l k)) w) := by
  obtain ⟨SP, SR, pl, h⟩ := h
  have hl := h.like.length
  have h10 := h.goodm.1
  by_cases hk : 0 ≤ k ∧ k < l.length
  · obtain ⟨n, rfl⟩ : ∃ n : Nat, k = n := ⟨k.toNat, by omega⟩
    obtain ⟨q, hq⟩ : ∃ q, l[n]? = some q := ⟨l[n]'(by omega), List.getElem?_eq_getElem _⟩
    obtain ⟨p, hp, e2, hin⟩ := h.like.at hq
    have hg := h.goodm.2 q (List.mem_of_getElem? hq)
    rw [doubleE, if_pos hk, doubleL, if_pos hk, lookAt_in hq]
    by_cases hfull : 1024 ≤ l.length
    · rw [if_pos hfull, if_pos hfull]
      refine (ndouble_full w SP nb pl n h.prow (by omega) (by omega) (by omega)).mono fun e w1 ⟨he, hw⟩ => ?_
      subst hw
      exact ⟨he, ⟨SP, SR, pl, h⟩, fun _ _ => rfl⟩
    · rw [if_neg hfull, if_neg hfull]
      refine (ndouble_yes w SP nb pl n p h.prow hp (by omega)).mono fun e w1 ⟨he, S', p1, p2, p3⟩ => ?_
      exact ⟨he, ⟨S', SR, _, h.prog0 p1 p2 p3 (PMatch.snoc (p := (p.1, false)) (q := (q.1, false)) rfl hin h.like) (h.goodm.snoc (by omega) hg.1 hg.2.1 hg.2.2.1 hg.2.2.2)⟩, fun x hx => p2.block x (h.tl x hx) (h.tp x hx)⟩
  · rw [doubleE, if_neg hk, doubleL, if_neg hk]
    refine (ndouble_none w SP nb pl k h.prow (by omega)).mono fun e w1 ⟨he, hw⟩ => ?_
    subst hw
    exact ⟨he, ⟨SP, SR, pl, h⟩, fun _ _ => rfl⟩
theorem half_double_r {w0 w : World} {T : Nat → Prop} {nb rb : Nat} {l lm : List Item} (k : Int) (h : Half w0 w T nb rb l lm) :
    Calls Try.prog 20 #[.pointer (some ⟨rb, 0, none⟩), .int .i64 k] w (HalfC w0 T nb rb (doubleL l k) lm (.int .i64 (doubleE l k)) w) := by
  obtain ⟨SP, SR, pl, h⟩ := h
  have h10 := h.goodl.1
  by_cases hk : 0 ≤ k ∧ k < l.length
  · obtain ⟨n, rfl⟩ : ∃ n : Nat, k = n := ⟨k.toNat, by omega⟩
    obtain ⟨q, hq⟩ : ∃ q, l[n]? = some q := ⟨l[n]'(by omega), List.getElem?_eq_getElem _⟩
    have hg := h.goodl.2 q (List.mem_of_getElem? hq)
    have ha : (isAddr q.1.frm && isAddr q.1.to) = true := by rw [hg.2.2.1, hg.2.2.2]; rfl
    have e1 : doubleL l n = sendL l q.1 := by rw [doubleL, if_pos hk, sendL, if_pos ha, lookAt_in hq]
    have e2 : doubleE l n = sendE l q.1 := by rw [doubleE, if_pos hk, sendE, if_pos ha]
    rw [e1, e2]
    refine (rdouble_any w SR rb l (sendL l q.1) n q (sendE l q.1) h.rnet hq hg.1 (by omega) fun W U v hr hU hv => rsend_all v q.1 hr hU hv hg.1 h10).mono fun e w1 ⟨he, S', p1, p2, p3⟩ => ?_
    have hgl : GoodL (sendL l q.1) := by
      rw [sendL, if_pos ha]
      split
      · exact h.goodl
      · exact h.goodl.snoc (by omega) hg.1 hg.2.1 hg.2.2.1 hg.2.2.2
    obtain ⟨g1, g2⟩ := h.ref p1 p2 p3 hgl
    exact ⟨he, ⟨SP, S', pl, g1⟩, g2⟩
  · rw [doubleE, if_neg hk, doubleL, if_neg hk]
    refine (rdouble_no w SR rb l k h.rnet (by omega)).mono fun e w1 ⟨he, S', p1, p2, p3⟩ => ?_
    obtain ⟨g1, g2⟩ := h.ref p1 p2 p3 h.goodl
    exact ⟨he, ⟨SP, S', pl, g1⟩, g2⟩

end Go.Proofs.Ytklpafognbodhaa
