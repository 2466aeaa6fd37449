/-
  The program's net as the statements use it: a net in new memory, of messages that bear nothing. No condition but that they lie where they are said to lie.
-/
import Derived.Test.YtklpafognbodhaaPClear
import Derived.Test.YtklpafognbodhaaPDouble
import Derived.Test.YtklpafognbodhaaPBare
namespace Go.Proofs.Ytklpafognbodhaa
open Go.RowKit

/-- A message that bears nothing but whom it is from and for, and a number. -/
def bmsg (f t n : Int) : List Value := [.int .i8 0, .int .i64 f, .int .i64 t, .int .i64 0, .int .i64 0, .int .i64 n, .int .i64 0, .int .i64 0, .int .i64 0, .int .i64 0, .int .i64 0, .slice none 0 0, .int .i64 0, .int .i64 0, .string ⟨#[]⟩, .slice none 0 0]
theorem bmsg_one (f t n : Int) : ∀ u ∈ bmsg f t n, u.oneCell' = true := by simp [bmsg, Value.oneCell']
theorem bmsg_to (f t n : Int) (m : Bool) : toOf (bmsg f t n, m) = t := rfl
def AllB (l : List PI) : Prop := ∀ p ∈ l, ∃ f t n, p.1 = bmsg f t n
theorem AllB.hasTo {l : List PI} (h : AllB l) : HasTo l := fun p hp => by
  obtain ⟨f, t, n, e⟩ := h p hp
  obtain ⟨c, m⟩ := p
  cases e
  rfl
theorem copied_b (W : World) (f t n : Int) : Calls Try.prog 33 #[.agg (bmsg f t n).toArray] W (CopiedC (fun _ _ cs => cs = bmsg f t n) W) :=
  (copied_bare W _ _ _ _ _ _ _ _ _ _ _ _ _ _ (bmsg_one f t n)).mono fun _ _ ⟨he, hb⟩ => ⟨bmsg f t n, he, rfl, bmsg_one f t n, rfl, hb⟩

/-- The net lies in memory that was made since w0, apart from the blocks of Q. -/
def NetAt (w0 w : World) (Q : Nat → Prop) (nb : Nat) (l : List PI) : Prop := (∀ x, Q x → x < w.heap.size) ∧ ∃ S, PRowAt w S nb l ∧ (∀ x, S x → w0.heap.size ≤ x ∧ ¬ Q x) ∧ Below w0.heap.size w0 w
def NC (w0 w : World) (Q : Nat → Prop) (nb : Nat) (l : List PI) (E : Value) (e : Ending) (w' : World) : Prop := e = .returned E ∧ NetAt w0 w' Q nb l ∧ (∀ x, Q x → w'.heap[x]? = w.heap[x]?) ∧ w.heap.size ≤ w'.heap.size
theorem NC.of {w0 w w' : World} {Q S : Nat → Prop} {nb : Nat} {l : List PI} {E : Value} {e : Ending} (hQ : ∀ x, Q x → x < w.heap.size) (hS : ∀ x, S x → w0.heap.size ≤ x ∧ ¬ Q x) (hb : Below w0.heap.size w0 w) (h : PC w S nb l E e w') : NC w0 w Q nb l E e w' := by
  obtain ⟨he, S', p1, p2, p3⟩ := h
  refine ⟨he, ⟨fun x hx => Nat.lt_of_lt_of_le (hQ x hx) p2.size, S', p1, fun x hx => ?_, hb.trans ((p2.below hb.size (fun k hk => (hS k hk).1)))⟩, fun x hx => p2.block x (hQ x hx) (fun hs => (hS x hs).2 hx), p2.size⟩
  rcases p3 x hx with h | h
  · exact hS x h
  · exact ⟨Nat.le_trans hb.size h, fun hq => by have := hQ x hq; omega⟩
theorem NC.read {w0 w w' : World} {Q : Nat → Prop} {nb : Nat} {l : List PI} {E : Value} {e : Ending} (h : NetAt w0 w Q nb l) (he : e = .returned E) (hb : Below w.heap.size w w') : NC w0 w Q nb l E e w' := by
  obtain ⟨hQ, S, p1, p2, p3⟩ := h
  exact NC.of hQ p2 p3 ⟨he, S, p1.below hb, Below.touched hb S, fun _ hx => Or.inl hx⟩
theorem NetAt.below {w0 w w' : World} {Q : Nat → Prop} {nb : Nat} {l : List PI} (h : NetAt w0 w Q nb l) (hb : Below w.heap.size w w') : NetAt w0 w' Q nb l := (NC.read (E := undef) h rfl hb).2.1
/-- Something else is laid beside it. -/
theorem NetAt.more {w0 w w' : World} {Q Q' : Nat → Prop} {nb : Nat} {l : List PI} (h : NetAt w0 w Q nb l) (hb : Below w.heap.size w w') (hQ : ∀ x, Q' x → Q x ∨ w.heap.size ≤ x ∧ x < w'.heap.size) : NetAt w0 w' Q' nb l := by
  obtain ⟨h0, S, p1, p2, p3⟩ := h
  refine ⟨fun x hx => ?_, S, p1.below hb, fun x hx => ⟨(p2 x hx).1, fun hq => ?_⟩, p3.trans (hb.mono p3.size)⟩
  · rcases hQ x hx with h | h
    · exact Nat.lt_of_lt_of_le (h0 x h) hb.size
    · exact h.2
  · rcases hQ x hq with h | h
    · exact (p2 x hx).2 h
    · have := p1.1 x hx; omega
/-- What lies beside it turns. -/
theorem NetAt.beside {w0 w w' : World} {Q : Nat → Prop} {nb : Nat} {l : List PI} (h : NetAt w0 w Q nb l) (hsz : w.heap.size ≤ w'.heap.size) (hk : ∀ x, x < w.heap.size → ¬ Q x → w'.heap[x]? = w.heap[x]?) (hb : Below w0.heap.size w0 w') : NetAt w0 w' Q nb l := by
  obtain ⟨h0, S, p1, p2, p3⟩ := h
  exact ⟨fun x hx => Nat.lt_of_lt_of_le (h0 x hx) hsz, S, p1.kept hsz (fun x hx => hk x (p1.1 x hx) (p2 x hx).2), p2, hb⟩

set_option maxHeartbeats 400000 in
theorem new_any (w0 : World) (w : World) (hb : Below w0.heap.size w0 w) : Calls Try.prog 6 #[] w fun e w' => ∃ nb, e = .returned (.pointer (some ⟨nb, 0, none⟩)) ∧ NetAt w0 w' (fun _ => False) nb [] ∧ Below w.heap.size w w' := by
  have hn := heap_alloc_new w (.cells #[.slice none 0 0] 59)
  have hbw : Below w.heap.size w (w.alloc (.cells #[.slice none 0 0] 59)) := (Below.refl _ _).alloc (Nat.le_refl _) _
  have hs := hb.size
  have HN : Hid (NetAt w0 (w.alloc (.cells #[.slice none 0 0] 59)) (fun _ => False) w.heap.size [] ∧ Below w.heap.size w (w.alloc (.cells #[.slice none 0 0] 59))) := Lib.hid ⟨⟨fun _ h => h.elim, fun x => x = w.heap.size, ⟨fun x hx => by rw [hx]; simp, rfl, fun p hp => by simp at hp, _, hn, World.ownsRow_nil _ _ _ _, fun g hg => by cases hg⟩, fun x hx => ⟨by omega, id⟩, hb.trans (hbw.mono hs)⟩, hbw⟩
  clear hn hbw hb
  go_enter Try.func6, Try.ntmps6
  go_wp2_with fail
  go_ret
  exact ⟨_, rfl, HN.out⟩

section
variable (w0 w : World) (Q : Nat → Prop) (nb : Nat) (l : List PI) (h : NetAt w0 w Q nb l)
include h
theorem lsend (f t n : Int) (hf : addrOk f = true) (ht : addrOk t = true) (hl : l.length < 1024) : Calls Try.prog 11 #[.pointer (some ⟨nb, 0, none⟩), .agg #[.int .i8 0, .int .i64 f, .int .i64 t, .int .i64 0, .int .i64 0, .int .i64 n, .int .i64 0, .int .i64 0, .int .i64 0, .int .i64 0, .int .i64 0, .slice none 0 0, .int .i64 0, .int .i64 0, .string ⟨#[]⟩, .slice none 0 0]] w (NC w0 w Q nb (l ++ [(bmsg f t n, false)]) (.int .i64 0)) := by
  obtain ⟨hQ, S, p1, p2, p3⟩ := h
  refine (psend_yes (fun _ _ cs => cs = bmsg f t n) w S nb l f t _ _ _ _ _ _ _ _ _ _ _ _ _ _ p1 hf ht hl (fun W _ => copied_b W f t n)).mono ?_
  rintro e w' ⟨he, W1, W2, cs, S', q1, rfl, q3, q4, q5, q6⟩
  have hb2 : Below w.heap.size w W2 := q1.trans (q3.mono q1.size)
  exact NC.of hQ p2 p3 ⟨he, S', q4, (Below.touched hb2 S).trans q5 (fun x hx => Or.inl hx), fun x hx => (q6 x hx).imp id (fun h => Nat.le_trans hb2.size h)⟩
theorem lsend_full (f t n : Int) (hf : addrOk f = true) (ht : addrOk t = true) (hl : 1024 ≤ l.length) (hl2 : l.length ≤ 1000000) : Calls Try.prog 11 #[.pointer (some ⟨nb, 0, none⟩), .agg #[.int .i8 0, .int .i64 f, .int .i64 t, .int .i64 0, .int .i64 0, .int .i64 n, .int .i64 0, .int .i64 0, .int .i64 0, .int .i64 0, .int .i64 0, .slice none 0 0, .int .i64 0, .int .i64 0, .string ⟨#[]⟩, .slice none 0 0]] w (NC w0 w Q nb l (.int .i64 20)) := by
  obtain ⟨hQ, S, p1, p2, p3⟩ := id h
  refine (psend_no w S nb l f t _ _ _ _ _ _ _ _ _ _ _ _ _ _ p1 (Or.inr hl) hl2).mono ?_
  rintro e w' ⟨he, hb⟩
  rw [hf, ht] at he
  exact NC.read h he hb
theorem llen : Calls Try.prog 8 #[.pointer (some ⟨nb, 0, none⟩)] w fun e w' => e = .returned (.int .i64 l.length) ∧ w = w' := by
  obtain ⟨hQ, S, p1, p2, p3⟩ := h
  exact nlen_any w S nb l p1
theorem lhold (k : Nat) (hk : k < l.length) (hl : l.length ≤ 1000000) : Calls Try.prog 12 #[.pointer (some ⟨nb, 0, none⟩), .int .i64 k] w (NC w0 w Q nb (setMark l k true) (.int .i64 0)) := by
  obtain ⟨hQ, S, p1, p2, p3⟩ := h
  exact (nhold_yes w S nb l k p1 hk hl).mono fun e w' hp => NC.of hQ p2 p3 hp
theorem lfree (hl : l.length ≤ 1000000) : Calls Try.prog 24 #[.pointer (some ⟨nb, 0, none⟩)] w (NC w0 w Q nb (pfreed l l.length) (.int .i64 (pcount l))) := by
  obtain ⟨hQ, S, p1, p2, p3⟩ := h
  exact (nfree_any w S nb l p1 hl).mono fun e w' hp => NC.of hQ p2 p3 hp
theorem lfirst (hl : l.length ≤ 1000000) : Calls Try.prog 13 #[.pointer (some ⟨nb, 0, none⟩)] w (NC w0 w Q nb l (firstV (ffree l 0))) := by
  obtain ⟨hQ, S, p1, p2, p3⟩ := id h
  exact (nfirst_any w S nb l p1 hl).mono fun e w' hp => NC.read h hp.1 hp.2
theorem lclear (addr : Int) (ht : AllB l) (hl : l.length ≤ 1000000) : Calls Try.prog 15 #[.pointer (some ⟨nb, 0, none⟩), .int .i64 addr] w (NC w0 w Q nb (stays addr l) (.int .i64 ((l.length : Int) - (stays addr l).length))) := by
  obtain ⟨hQ, S, p1, p2, p3⟩ := h
  exact (nclear_any w S nb l addr p1 ht.hasTo hl).mono fun e w' hp => NC.of hQ p2 p3 hp
theorem ldouble_full (k : Nat) (hk : k < l.length) (hf : 1024 ≤ l.length) (hl : l.length ≤ 1000000) : Calls Try.prog 19 #[.pointer (some ⟨nb, 0, none⟩), .int .i64 k] w fun e w' => e = .returned (.int .i64 20) ∧ w = w' := by
  obtain ⟨hQ, S, p1, p2, p3⟩ := h
  exact ndouble_full w S nb l k p1 hk hf hl
theorem ldouble (k : Nat) (p : PI) (hk : l[k]? = some p) (hl : l.length < 1024) : Calls Try.prog 19 #[.pointer (some ⟨nb, 0, none⟩), .int .i64 k] w (NC w0 w Q nb (l ++ [(p.1, false)]) (.int .i64 0)) := by
  obtain ⟨hQ, S, p1, p2, p3⟩ := h
  exact (ndouble_yes w S nb l k p p1 hk hl).mono fun e w' hp => NC.of hQ p2 p3 hp
theorem llook (k : Nat) (f t n : Int) (m : Bool) (hk : l[k]? = some (bmsg f t n, m)) (hl : l.length ≤ 1000000) : Calls Try.prog 22 #[.pointer (some ⟨nb, 0, none⟩), .int .i64 k] w (NC w0 w Q nb l (.tuple #[.agg #[.int .i8 0, .int .i64 f, .int .i64 t, .int .i64 0, .int .i64 0, .int .i64 n, .int .i64 0, .int .i64 0, .int .i64 0, .int .i64 0, .int .i64 0, .slice none 0 0, .int .i64 0, .int .i64 0, .string ⟨#[]⟩, .slice none 0 0], .bool m, .int .i64 0])) := by
  obtain ⟨hQ, S, p1, p2, p3⟩ := id h
  refine (nlook_yes (fun _ _ cs => cs = bmsg f t n) w S nb l k _ p1 hk hl (fun W _ => copied_b W f t n)).mono ?_
  rintro e w' ⟨cs, he, _, W1, W2, q1, q2, rfl, q4, q5, _⟩
  exact NC.read h he q5
end
theorem ltake (w0 w : World) (Q : Nat → Prop) (nb : Nat) (a r : List PI) (k : Nat) (f t n : Int) (m : Bool) (h : NetAt w0 w Q nb (a ++ (bmsg f t n, m) :: r)) (hk : k = a.length) (hl : (a ++ (bmsg f t n, m) :: r).length ≤ 1000000) : Calls Try.prog 14 #[.pointer (some ⟨nb, 0, none⟩), .int .i64 k] w (NC w0 w Q nb (a ++ r) (.tuple #[.agg #[.int .i8 0, .int .i64 f, .int .i64 t, .int .i64 0, .int .i64 0, .int .i64 n, .int .i64 0, .int .i64 0, .int .i64 0, .int .i64 0, .int .i64 0, .slice none 0 0, .int .i64 0, .int .i64 0, .string ⟨#[]⟩, .slice none 0 0], .int .i64 0])) := by
  obtain ⟨hQ, S, p1, p2, p3⟩ := h
  refine (ntake_yes (fun _ _ cs => cs = bmsg f t n) w S nb a r _ k p1 hk hl (fun W _ _ => copied_b W f t n)).mono ?_
  rintro e w' ⟨cs, he, _, W1, W2, S', q1, q2, rfl, q4, q5, q6, q7, _⟩
  exact NC.of hQ p2 p3 ⟨he, S', q5, q7, fun x hx => (q6 x hx).imp id (fun h => Nat.le_of_lt h.1)⟩

end Go.Proofs.Ytklpafognbodhaa
