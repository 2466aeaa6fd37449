/-
  The program's net and the document's, one beside the other: what a call of one of them leaves of both. Plain laws. No condition.
-/
import Derived.Test.YtklpafognbodhaaRClear
import Derived.Test.YtklpafognbodhaaPClear
namespace Go.Proofs.Ytklpafognbodhaa
open Go.RowKit

/-- What the program's row holds is what the list says; the messages' parts lie in T. -/
def PMatch (w : World) (T : Nat → Prop) : List PI → List Item → Prop
  | [], [] => True
  | p :: pl, q :: l => p.2 = q.2 ∧ (∃ sa sc ka cap, p.1 = msgCells q.1 sa sc ka cap ∧ MsgIn w T q.1 sa ka) ∧ PMatch w T pl l
  | _, _ => False
theorem PMatch.kept {w w' : World} {T T' : Nat → Prop} (hk : ∀ x, T x → T' x ∧ w'.heap[x]? = w.heap[x]?) : ∀ {pl : List PI} {l : List Item}, PMatch w T pl l → PMatch w' T' pl l
  | [], [], _ => True.intro
  | _ :: _, _ :: _, ⟨h1, ⟨sa, sc, ka, cap, e, h2⟩, h3⟩ => ⟨h1, ⟨sa, sc, ka, cap, e, h2.kept hk⟩, h3.kept hk⟩
  | [], _ :: _, h => h.elim
  | _ :: _, [], h => h.elim
theorem PMatch.length {w : World} {T : Nat → Prop} : ∀ {pl : List PI} {l : List Item}, PMatch w T pl l → pl.length = l.length
  | [], [], _ => rfl
  | _ :: _, _ :: _, ⟨_, _, h3⟩ => by simp [h3.length]
  | [], _ :: _, h => h.elim
  | _ :: _, [], h => h.elim
theorem PMatch.at {w : World} {T : Nat → Prop} : ∀ {pl : List PI} {l : List Item} {k : Nat} {q : Item}, PMatch w T pl l → l[k]? = some q → ∃ p, pl[k]? = some p ∧ p.2 = q.2 ∧ ∃ sa sc ka cap, p.1 = msgCells q.1 sa sc ka cap ∧ MsgIn w T q.1 sa ka
  | p :: pl, q :: l, 0, _, ⟨h1, h2, _⟩, h => by
    simp only [List.getElem?_cons_zero, Option.some.injEq] at h
    subst h
    exact ⟨p, rfl, h1, h2⟩
  | p :: pl, q :: l, k + 1, _, ⟨_, _, h3⟩, h => by
    obtain ⟨p', e, h'⟩ := h3.at (k := k) (by simpa using h)
    exact ⟨p', by simpa using e, h'⟩
  | [], [], _, _, _, h => by simp at h
  | [], _ :: _, _, _, h, _ => h.elim
  | _ :: _, [], _, _, h, _ => h.elim
theorem PMatch.snoc {w : World} {T : Nat → Prop} {p : PI} {q : Item} (h1 : p.2 = q.2) (h2 : ∃ sa sc ka cap, p.1 = msgCells q.1 sa sc ka cap ∧ MsgIn w T q.1 sa ka) : ∀ {pl : List PI} {l : List Item}, PMatch w T pl l → PMatch w T (pl ++ [p]) (l ++ [q])
  | [], [], _ => ⟨h1, h2, True.intro⟩
  | _ :: _, _ :: _, ⟨g1, g2, g3⟩ => ⟨g1, g2, g3.snoc h1 h2⟩
  | [], _ :: _, h => h.elim
  | _ :: _, [], h => h.elim
theorem PMatch.hold {w : World} {T : Nat → Prop} : ∀ {pl : List PI} {l : List Item} (k : Nat), PMatch w T pl l → PMatch w T (setMark pl k true) (hold l k)
  | [], [], _, _ => by
    have : PMatch w T [] [] := True.intro
    simpa [setMark, Proofs.Ytklpafognbodhaa.hold] using this
  | p :: pl, q :: l, 0, ⟨_, g2, g3⟩ => by
    have : PMatch w T ((p.1, true) :: pl) ((q.1, true) :: l) := ⟨rfl, g2, g3⟩
    simpa [setMark, Proofs.Ytklpafognbodhaa.hold] using this
  | _ :: _, _ :: _, k + 1, ⟨g1, g2, g3⟩ => by
    have := PMatch.hold k g3
    simp only [setMark, Proofs.Ytklpafognbodhaa.hold, List.modify_succ_cons] at this ⊢
    exact ⟨g1, g2, this⟩
  | [], _ :: _, _, h => h.elim
  | _ :: _, [], _, h => h.elim
theorem pfreed_all (l : List PI) : pfreed l l.length = l.map fun p => (p.1, false) := by simp [pfreed]
theorem freed_all (l : List Item) : freed l l.length = l.map fun p => (p.1, false) := by simp [freed]
theorem PMatch.free {w : World} {T : Nat → Prop} : ∀ {pl : List PI} {l : List Item}, PMatch w T pl l → PMatch w T (pl.map fun p => (p.1, false)) (l.map fun p => (p.1, false))
  | [], [], _ => True.intro
  | _ :: _, _ :: _, ⟨_, g2, g3⟩ => ⟨rfl, g2, g3.free⟩
  | [], _ :: _, h => h.elim
  | _ :: _, [], h => h.elim
theorem PMatch.count {w : World} {T : Nat → Prop} : ∀ {pl : List PI} {l : List Item}, PMatch w T pl l → pcount pl = Proofs.Ytklpafognbodhaa.count l
  | [], [], _ => rfl
  | p :: pl, q :: l, ⟨g1, _, g3⟩ => by
    have := g3.count
    simp only [pcount, Proofs.Ytklpafognbodhaa.count, List.countP_cons, g1] at this ⊢
    rw [this]
  | [], _ :: _, h => h.elim
  | _ :: _, [], h => h.elim
theorem PMatch.first {w : World} {T : Nat → Prop} : ∀ {pl : List PI} {l : List Item} (i : Nat), PMatch w T pl l → ffree pl i = firstFree l i
  | [], [], _, _ => rfl
  | p :: pl, q :: l, i, ⟨g1, _, g3⟩ => by simp only [ffree, firstFree, g1, g3.first (i + 1)]
  | [], _ :: _, _, h => h.elim
  | _ :: _, [], _, h => h.elim
theorem PMatch.hasTo {w : World} {T : Nat → Prop} : ∀ {pl : List PI} {l : List Item}, PMatch w T pl l → HasTo pl
  | [], [], _ => fun p hp => by simp at hp
  | p :: pl, q :: l, ⟨_, ⟨sa, sc, ka, cap, e, _⟩, g3⟩ => fun x hx => by
    rcases List.mem_cons.1 hx with rfl | hx
    · simp [toOf, e, msgCells]
    · exact g3.hasTo x hx
  | [], _ :: _, h => h.elim
  | _ :: _, [], h => h.elim
theorem PMatch.stays {w : World} {T : Nat → Prop} (addr : Int) : ∀ {pl : List PI} {l : List Item}, PMatch w T pl l → PMatch w T (Proofs.Ytklpafognbodhaa.stays addr pl) (rstays addr l)
  | [], [], _ => True.intro
  | p :: pl, q :: l, ⟨g1, g2, g3⟩ => by
    have e : toOf p = q.1.to := by obtain ⟨sa, sc, ka, cap, e, _⟩ := g2; simp [toOf, e, msgCells]
    have := g3.stays addr
    by_cases h : q.1.to = addr
    · rw [rstays_hit h]
      have e2 : Proofs.Ytklpafognbodhaa.stays addr (p :: pl) = Proofs.Ytklpafognbodhaa.stays addr pl := by simp [Proofs.Ytklpafognbodhaa.stays, e, h]
      rw [e2]; exact this
    · rw [rstays_miss h]
      have e2 : Proofs.Ytklpafognbodhaa.stays addr (p :: pl) = p :: Proofs.Ytklpafognbodhaa.stays addr pl := by simp [Proofs.Ytklpafognbodhaa.stays, e, h]
      rw [e2]; exact ⟨g1, g2, this⟩
  | [], _ :: _, h => h.elim
  | _ :: _, [], h => h.elim
theorem PMatch.split {w : World} {T : Nat → Prop} : ∀ {pl : List PI} {l : List Item} {k : Nat} {q : Item}, PMatch w T pl l → l[k]? = some q → ∃ a r p, pl = a ++ p :: r ∧ a.length = k ∧ p.2 = q.2 ∧ (∃ sa sc ka cap, p.1 = msgCells q.1 sa sc ka cap ∧ MsgIn w T q.1 sa ka) ∧ PMatch w T (a ++ r) (l.eraseIdx k)
  | p :: pl, q :: l, 0, _, ⟨h1, h2, h3⟩, h => by
    simp only [List.getElem?_cons_zero, Option.some.injEq] at h
    subst h
    exact ⟨[], pl, p, rfl, rfl, h1, h2, h3⟩
  | p :: pl, q :: l, k + 1, _, ⟨h1, h2, h3⟩, h => by
    obtain ⟨a, r, p', e, e2, g1, g2, g3⟩ := h3.split (k := k) (by simpa using h)
    exact ⟨p :: a, r, p', by rw [e]; rfl, by simp [e2], g1, g2, ⟨h1, h2, g3⟩⟩
  | [], [], _, _, _, h => by simp at h
  | [], _ :: _, _, _, h, _ => h.elim
  | _ :: _, [], _, _, h, _ => h.elim

/-- Messages that a net takes, and that the law asks for. -/
def GoodL (l : List Item) : Prop := l.length ≤ 1024 ∧ ∀ p ∈ l, p.1.small ∧ p.1.sum ≤ 1000000 ∧ isAddr p.1.frm = true ∧ isAddr p.1.to = true
/-- The program's net holds lm, the document's holds l; neither reaches into the other, nor into what messages are made of. -/
structure BothAt (w0 w : World) (T SP SR : Nat → Prop) (nb rb : Nat) (pl : List PI) (l lm : List Item) : Prop where
  prow : PRowAt w SP nb pl
  rnet : RNetAt w SR rb l
  like : PMatch w T pl lm
  below : Below w0.heap.size w0 w
  tl : ∀ x, T x → x < w.heap.size
  tp : ∀ x, T x → ¬ SP x
  tr : ∀ x, T x → ¬ SR x
  apart : ∀ x, SP x → ¬ SR x
  pnew : ∀ x, SP x → w0.heap.size ≤ x
  rnew : ∀ x, SR x → w0.heap.size ≤ x
  old : ∀ x, x < w0.heap.size → T x
  goodl : GoodL l
  goodm : GoodL lm
/-- A call of the program's net. -/
theorem BothAt.prog {w0 w w1 : World} {T T' SP SP' SR : Nat → Prop} {nb rb : Nat} {pl pl' : List PI} {l lm lm' : List Item} (h : BothAt w0 w T SP SR nb rb pl l lm) (hp : PRowAt w1 SP' nb pl') (ht : Touched w w1 SP) (hs : ∀ x, SP' x → SP x ∨ w.heap.size ≤ x)
    (hT : ∀ x, T x → T' x) (hT2 : ∀ x, T' x → T x ∨ (w.heap.size ≤ x ∧ x < w1.heap.size ∧ ¬ SP' x)) (hm : PMatch w1 T' pl' lm') (hg : GoodL lm') : BothAt w0 w1 T' SP' SR nb rb pl' l lm' where
  prow := hp
  rnet := h.rnet.kept ht.size fun x hx => ht.block x (h.rnet.1 x hx) fun hs => h.apart x hs hx
  like := hm
  below := h.below.trans (ht.below h.below.size h.pnew)
  tl := fun x hx => (hT2 x hx).elim (fun hx => Nat.lt_of_lt_of_le (h.tl x hx) ht.size) fun hx => hx.2.1
  tp := fun x hx => (hT2 x hx).elim (fun hx hp' => (hs x hp').elim (h.tp x hx) fun h' => by have := h.tl x hx; omega) fun hx => hx.2.2
  tr := fun x hx => (hT2 x hx).elim (h.tr x) fun hx hr => by have := h.rnet.1 x hr; omega
  apart := fun x hx hr => (hs x hx).elim (fun hx => h.apart x hx hr) fun h' => by have := h.rnet.1 x hr; omega
  pnew := fun x hx => (hs x hx).elim (h.pnew x) fun h' => Nat.le_trans h.below.size h'
  rnew := h.rnew
  old := fun x hx => hT x (h.old x hx)
  goodl := h.goodl
  goodm := hg
/-- .. where no message is new. -/
theorem BothAt.prog0 {w0 w w1 : World} {T SP SP' SR : Nat → Prop} {nb rb : Nat} {pl pl' : List PI} {l lm lm' : List Item} (h : BothAt w0 w T SP SR nb rb pl l lm) (hp : PRowAt w1 SP' nb pl') (ht : Touched w w1 SP) (hs : ∀ x, SP' x → SP x ∨ w.heap.size ≤ x)
    (hm : PMatch w T pl' lm') (hg : GoodL lm') : BothAt w0 w1 T SP' SR nb rb pl' l lm' :=
  h.prog hp ht hs (fun _ h => h) (fun _ h => Or.inl h) (hm.kept fun x hx => ⟨hx, ht.block x (h.tl x hx) (h.tp x hx)⟩) hg
/-- A call of the document's net. -/
theorem BothAt.ref {w0 w w1 : World} {T SP SR SR' : Nat → Prop} {nb rb : Nat} {pl : List PI} {l l' lm : List Item} (h : BothAt w0 w T SP SR nb rb pl l lm) (hp : RNetAt w1 SR' rb l') (ht : Touched w w1 SR) (hs : ∀ x, SR' x → SR x ∨ w.heap.size ≤ x)
    (hg : GoodL l') : BothAt w0 w1 T SP SR' nb rb pl l' lm ∧ ∀ x, T x → w1.heap[x]? = w.heap[x]? :=
  have hk : ∀ x, T x → w1.heap[x]? = w.heap[x]? := fun x hx => ht.block x (h.tl x hx) (h.tr x hx)
  ⟨{ prow := h.prow.kept ht.size fun x hx => ht.block x (h.prow.1 x hx) (h.apart x hx)
     rnet := hp
     like := h.like.kept fun x hx => ⟨hx, hk x hx⟩
     below := h.below.trans (ht.below h.below.size h.rnew)
     tl := fun x hx => Nat.lt_of_lt_of_le (h.tl x hx) ht.size
     tp := h.tp
     tr := fun x hx hr => (hs x hr).elim (h.tr x hx) fun h' => by have := h.tl x hx; omega
     apart := fun x hx hr => (hs x hr).elim (h.apart x hx) fun h' => by have := h.prow.1 x hx; omega
     pnew := h.pnew
     rnew := fun x hx => (hs x hx).elim (h.rnew x) fun h' => Nat.le_trans h.below.size h'
     old := h.old
     goodl := hg
     goodm := h.goodm }, hk⟩
/-- Nothing that was there has turned. -/
theorem BothAt.still {w0 w w1 : World} {T SP SR : Nat → Prop} {nb rb : Nat} {pl : List PI} {l lm : List Item} (h : BothAt w0 w T SP SR nb rb pl l lm) (hb : Below w.heap.size w w1) : BothAt w0 w1 T SP SR nb rb pl l lm :=
  h.prog0 (h.prow.below hb) (Below.touched hb SP) (fun _ hx => Or.inl hx) h.like h.goodm

def Half (w0 w : World) (T : Nat → Prop) (nb rb : Nat) (l lm : List Item) : Prop := ∃ SP SR pl, BothAt w0 w T SP SR nb rb pl l lm
/-- What a call leaves that makes no message. -/
def HalfC (w0 : World) (T : Nat → Prop) (nb rb : Nat) (l lm : List Item) (E : Value) (w : World) (e : Ending) (w' : World) : Prop := e = .returned E ∧ Half w0 w' T nb rb l lm ∧ ∀ x, T x → w'.heap[x]? = w.heap[x]?

theorem GoodL.hold {l : List Item} (k : Nat) (h : GoodL l) : GoodL (Proofs.Ytklpafognbodhaa.hold l k) := by
  refine ⟨by rw [hold_length]; exact h.1, fun p hp => ?_⟩
  have : p.1 ∈ l.map (·.1) := by rw [← hold_msgs l k]; exact List.mem_map.2 ⟨p, hp, rfl⟩
  obtain ⟨q, hq, e⟩ := List.mem_map.1 this
  rw [← e]; exact h.2 q hq
theorem GoodL.free {l : List Item} (h : GoodL l) : GoodL (l.map fun p => (p.1, false)) := by
  refine ⟨by simpa using h.1, fun p hp => ?_⟩
  obtain ⟨q, hq, rfl⟩ := List.mem_map.1 hp
  exact h.2 q hq
theorem GoodL.sub {l l' : List Item} (h : GoodL l) (hs : l'.Sublist l) : GoodL l' := ⟨Nat.le_trans hs.length_le h.1, fun p hp => h.2 p (hs.subset hp)⟩

def holdL (l : List Item) (k : Int) : List Item := if 0 ≤ k ∧ k < l.length then hold l k.toNat else l
theorem half_hold_p {w0 w : World} {T : Nat → Prop} {nb rb : Nat} {l : List Item} (k : Int) (h : Half w0 w T nb rb l l) : Calls Try.prog 12 #[.pointer (some ⟨nb, 0, none⟩), .int .i64 k] w (HalfC w0 T nb rb l (holdL l k) (.int .i64 (lacksE l.length k)) w) := by
  obtain ⟨SP, SR, pl, h⟩ := h
  have hl := h.like.length
  have h10 := h.goodm.1
  by_cases hk : 0 ≤ k ∧ k < l.length
  · obtain ⟨n, rfl⟩ : ∃ n : Nat, k = n := ⟨k.toNat, by omega⟩
    rw [holdL, if_pos hk, lacksE, if_pos hk]
    refine (nhold_yes w SP nb pl n h.prow (by omega) (by omega)).mono fun e w1 ⟨he, S', p1, p2, p3⟩ => ⟨he, ⟨S', SR, _, h.prog0 p1 p2 p3 (h.like.hold n) (h.goodm.hold n)⟩, fun x hx => p2.block x (h.tl x hx) (h.tp x hx)⟩
  · rw [holdL, if_neg hk, lacksE, if_neg hk]
    refine (nhold_no w SP nb pl k h.prow (by omega)).mono fun e w1 ⟨he, hw⟩ => ?_
    subst hw
    exact ⟨he, ⟨SP, SR, pl, h⟩, fun _ _ => rfl⟩
theorem half_hold_r {w0 w : World} {T : Nat → Prop} {nb rb : Nat} {l lm : List Item} (k : Int) (h : Half w0 w T nb rb l lm) : Calls Try.prog 21 #[.pointer (some ⟨rb, 0, none⟩), .int .i64 k] w (HalfC w0 T nb rb (holdL l k) lm (.int .i64 (lacksE l.length k)) w) := by
  obtain ⟨SP, SR, pl, h⟩ := h
  have h10 := h.goodl.1
  by_cases hk : 0 ≤ k ∧ k < l.length
  · obtain ⟨n, rfl⟩ : ∃ n : Nat, k = n := ⟨k.toNat, by omega⟩
    rw [holdL, if_pos hk, lacksE, if_pos hk]
    refine (rhold_yes w SR rb l n h.rnet (by omega) (by omega)).mono fun e w1 ⟨he, p1, p2⟩ => ?_
    obtain ⟨g1, g2⟩ := h.ref p1 p2 (fun _ hx => Or.inl hx) (h.goodl.hold n)
    exact ⟨he, ⟨SP, SR, pl, g1⟩, g2⟩
  · rw [holdL, if_neg hk, lacksE, if_neg hk]
    refine (rhold_no w SR rb l k h.rnet (by omega)).mono fun e w1 ⟨he, p1, p2⟩ => ?_
    obtain ⟨g1, g2⟩ := h.ref p1 p2 (fun _ hx => Or.inl hx) h.goodl
    exact ⟨he, ⟨SP, SR, pl, g1⟩, g2⟩

def freeL (l : List Item) : List Item := l.map fun p => (p.1, false)
theorem half_free_p {w0 w : World} {T : Nat → Prop} {nb rb : Nat} {l : List Item} (h : Half w0 w T nb rb l l) : Calls Try.prog 24 #[.pointer (some ⟨nb, 0, none⟩)] w (HalfC w0 T nb rb l (freeL l) (.int .i64 (count l)) w) := by
  obtain ⟨SP, SR, pl, h⟩ := h
  have hl := h.like.length
  have h10 := h.goodm.1
  refine (nfree_any w SP nb pl h.prow (by omega)).mono fun e w1 ⟨he, S', p1, p2, p3⟩ => ?_
  rw [pfreed_all] at p1
  rw [h.like.count] at he
  exact ⟨he, ⟨S', SR, _, h.prog0 p1 p2 p3 h.like.free h.goodm.free⟩, fun x hx => p2.block x (h.tl x hx) (h.tp x hx)⟩
theorem half_free_r {w0 w : World} {T : Nat → Prop} {nb rb : Nat} {l lm : List Item} (h : Half w0 w T nb rb l lm) : Calls Try.prog 25 #[.pointer (some ⟨rb, 0, none⟩)] w (HalfC w0 T nb rb (freeL l) lm (.int .i64 (count l)) w) := by
  obtain ⟨SP, SR, pl, h⟩ := h
  have h10 := h.goodl.1
  refine (rfree_any w SR rb l h.rnet (by omega)).mono fun e w1 ⟨he, p1, p2⟩ => ?_
  rw [freed_all] at p1
  obtain ⟨g1, g2⟩ := h.ref p1 p2 (fun _ hx => Or.inl hx) h.goodl.free
  exact ⟨he, ⟨SP, SR, pl, g1⟩, g2⟩

theorem half_first_p {w0 w : World} {T : Nat → Prop} {nb rb : Nat} {l : List Item} (h : Half w0 w T nb rb l l) : Calls Try.prog 13 #[.pointer (some ⟨nb, 0, none⟩)] w (HalfC w0 T nb rb l l (firstV (firstFree l 0)) w) := by
  obtain ⟨SP, SR, pl, h⟩ := h
  have hl := h.like.length
  have h10 := h.goodm.1
  refine (nfirst_any w SP nb pl h.prow (by omega)).mono fun e w1 ⟨he, hb⟩ => ?_
  rw [h.like.first] at he
  exact ⟨he, ⟨SP, SR, pl, h.still hb⟩, fun x hx => hb.block x (h.tl x hx)⟩
theorem half_first_r {w0 w : World} {T : Nat → Prop} {nb rb : Nat} {l lm : List Item} (h : Half w0 w T nb rb l lm) : Calls Try.prog 26 #[.pointer (some ⟨rb, 0, none⟩)] w (HalfC w0 T nb rb l lm (firstV (firstFree l 0)) w) := by
  obtain ⟨SP, SR, pl, h⟩ := h
  have h10 := h.goodl.1
  refine (rfirst_any w SR rb l h.rnet (by omega)).mono fun e w1 ⟨he, hb⟩ => ?_
  subst hb
  exact ⟨he, ⟨SP, SR, pl, h⟩, fun _ _ => rfl⟩

theorem half_clear_p {w0 w : World} {T : Nat → Prop} {nb rb : Nat} {l : List Item} (k : Int) (h : Half w0 w T nb rb l l) : Calls Try.prog 15 #[.pointer (some ⟨nb, 0, none⟩), .int .i64 k] w (HalfC w0 T nb rb l (rstays k l) (.int .i64 ((l.length : Int) - (rstays k l).length)) w) := by
  obtain ⟨SP, SR, pl, h⟩ := h
  have hl := h.like.length
  have h10 := h.goodm.1
  refine (nclear_any w SP nb pl k h.prow h.like.hasTo (by omega)).mono fun e w1 ⟨he, S', p1, p2, p3⟩ => ?_
  rw [(h.like.stays k).length, hl] at he
  exact ⟨he, ⟨S', SR, _, h.prog0 p1 p2 p3 (h.like.stays k) (h.goodm.sub List.filter_sublist)⟩, fun x hx => p2.block x (h.tl x hx) (h.tp x hx)⟩
theorem half_clear_r {w0 w : World} {T : Nat → Prop} {nb rb : Nat} {l lm : List Item} (k : Int) (h : Half w0 w T nb rb l lm) : Calls Try.prog 27 #[.pointer (some ⟨rb, 0, none⟩), .int .i64 k] w (HalfC w0 T nb rb (rstays k l) lm (.int .i64 ((l.length : Int) - (rstays k l).length)) w) := by
  obtain ⟨SP, SR, pl, h⟩ := h
  have h10 := h.goodl.1
  refine (rclear_any w SR rb l k h.rnet (fun p hp => (h.goodl.2 p hp).1) (by omega)).mono fun e w1 ⟨he, S', p1, p2, p3⟩ => ?_
  obtain ⟨g1, g2⟩ := h.ref p1 p2 p3 (h.goodl.sub List.filter_sublist)
  exact ⟨he, ⟨SP, S', pl, g1⟩, g2⟩

end Go.Proofs.Ytklpafognbodhaa
