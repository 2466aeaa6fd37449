/-
  The document's own Copy, put and Put. No condition but that there are not too many nodes.
-/
import Derived.Test.YtjppibomjnmjpaaHPutA
import Derived.Test.YtjppibomjnmjpaaHRParent
namespace Go.Proofs.Ytjppibomjnmjpaa
open Go.RowKit Go.Shelf
set_option linter.unusedVariables false
set_option linter.unusedSimpArgs false

/-- What was made since w. -/
def Fresh (w w' : World) : Nat → Prop := fun x => w.heap.size ≤ x ∧ x < w'.heap.size
def RCopyC (t : Tr) (w : World) (e : Ending) (w' : World) : Prop := ∃ v, e = .returned v ∧ TrAt w' (Fresh w w') v t ∧ Below w.heap.size w w'
theorem rset4 {w : World} {b : Nat} {t : TypeId} {c0 c1 c2 c3 : Value} (h : w.heap[b]? = some (.cells #[c0, c1, c2, c3] t (0, 0))) (u0 u1 u2 u3 : Value) :
    ((((w.setCell ⟨b, 0, none⟩ u0).setCell ⟨b, 1, none⟩ u1).setCell ⟨b, 2, none⟩ u2).setCell ⟨b, 3, none⟩ u3).heap[b]? = some (.cells #[u0, u1, u2, u3] t (0, 0)) ∧
    (∀ B, B ≤ b → Below B w ((((w.setCell ⟨b, 0, none⟩ u0).setCell ⟨b, 1, none⟩ u1).setCell ⟨b, 2, none⟩ u2).setCell ⟨b, 3, none⟩ u3)) ∧
    ∀ x, x ≠ b → ((((w.setCell ⟨b, 0, none⟩ u0).setCell ⟨b, 1, none⟩ u1).setCell ⟨b, 2, none⟩ u2).setCell ⟨b, 3, none⟩ u3).heap[x]? = w.heap[x]? := by
  have h0 := heap_setCell_same w b 0 _ _ u0 h
  have h1 := heap_setCell_same _ b 1 _ _ u1 h0
  have h2 := heap_setCell_same _ b 2 _ _ u2 h1
  have h3 := heap_setCell_same _ b 3 _ _ u3 h2
  exact ⟨h3, fun B hB => ((((Below.refl _ _).setCell hB _).setCell hB _).setCell hB _).setCell hB _, fun x hx => by
    rw [Below.heap_setCell _ _ _ _ hx, Below.heap_setCell _ _ _ _ hx, Below.heap_setCell _ _ _ _ hx, Below.heap_setCell _ _ _ _ hx]⟩

theorem owns_slice_cap {w : World} {B : Nat} {e : TypeId} {size : Nat} {v : Value} {n : Nat} {xs : List Value} (h : w.ownsRow B e size v n xs) : ∃ a cap, v = .slice a n cap ∧ n ≤ cap := by
  rcases h.2 with ⟨hv, h0⟩ | ⟨g', cap, cur, hv, _, _, hc, _⟩
  · exact ⟨none, 0, by rw [hv, h0], by omega⟩
  · exact ⟨_, _, hv, hc⟩
/-- Where the kids' kids lie: in new memory, and not in the row itself. -/
def RMid (w wr : World) (rv : Value) : Nat → Prop := fun x => w.heap.size + 3 ≤ x ∧ x < wr.heap.size ∧ rv.ownBlock ≠ some x
def RCopyInv (w : World) (c1 : Array Value) (id kd : Int) (tx : ByteArray) (ks : Fo) (k : Nat) (rv : Value) (xs : List Value) (wr : World) : Prop :=
  wr.heap[w.heap.size]? = some (.cells c1 24 (0, 0)) ∧ wr.heap[w.heap.size + 1]? = some (.cells #[.int .i64 0, .int .i64 0, .string ⟨#[]⟩, .slice none 0 0] 24 (0, 0)) ∧
  wr.heap[w.heap.size + 1 + 1]? = some (.cells #[.int .i64 id, .int .i64 kd, .string tx, rv] 24 (0, 0)) ∧ Below w.heap.size w wr ∧
  wr.ownsRow (w.heap.size + 3) 24 4 rv k xs ∧ FoRow wr (RMid w wr rv) (foTake k ks) xs
def RCopyRound (w : World) (c1 : Array Value) (id kd : Int) (tx : ByteArray) (ks : Fo) (len : Nat) (i : Value) (wr : World) : Prop :=
  ∃ k rv xs, k ≤ len ∧ i = .int .i64 k ∧ RCopyInv w c1 id kd tx ks k rv xs wr

section
variable {w wr w2 : World} {c1 : Array Value} {id kd : Int} {tx : ByteArray} {ks : Fo} {k : Nat} {rv : Value} {xs : List Value}
theorem RCopyInv.start (w : World) (c1 : Array Value) (id kd : Int) (tx : ByteArray) (ks : Fo) : RCopyInv w c1 id kd tx ks 0 (.slice none 0 0) []
    (((w.alloc (.cells c1 24)).alloc (.cells #[.int .i64 0, .int .i64 0, .string ⟨#[]⟩, .slice none 0 0] 24)).alloc (.cells #[.int .i64 id, .int .i64 kd, .string tx, .slice none 0 0] 24)) := by
  refine ⟨?_, ?_, ?_, ?_, World.ownsRow_nil _ _ _ _, rfl⟩
  · rw [Below.heap_alloc _ _ _ (by simp; omega), Below.heap_alloc _ _ _ (by simp)]; exact heap_alloc_new w _
  · rw [Below.heap_alloc _ _ _ (by simp)]
    have := heap_alloc_new (w.alloc (.cells c1 24)) (.cells #[.int .i64 0, .int .i64 0, .string ⟨#[]⟩, .slice none 0 0] 24)
    simpa using this
  · have := heap_alloc_new ((w.alloc (.cells c1 24)).alloc (.cells #[.int .i64 0, .int .i64 0, .string ⟨#[]⟩, .slice none 0 0] 24)) (.cells #[.int .i64 id, .int .i64 kd, .string tx, .slice none 0 0] 24)
    simpa using this
  · exact (((Below.refl _ _).alloc (Nat.le_refl _) _).alloc (by simp) _).alloc (by simp; omega) _
theorem RCopyInv.size (h : RCopyInv w c1 id kd tx ks k rv xs wr) : w.heap.size + 1 + 1 < wr.heap.size := lt_of_some h.2.2.1
theorem RCopyInv.below (h : RCopyInv w c1 id kd tx ks k rv xs wr) (hb : Below wr.heap.size wr w2) : RCopyInv w c1 id kd tx ks k rv xs w2 := by
  have hs := h.size
  obtain ⟨h0, h1, h2, h3, h4, h5⟩ := h
  refine ⟨(hb.block _ (by omega)).trans h0, (hb.block _ (by omega)).trans h1, (hb.block _ (by omega)).trans h2, h3.trans (hb.mono (by omega)), owns_kept h4 (fun g cur hg _ => hb.block g (lt_of_some hg)), h5.kept fun x hx => ⟨⟨hx.1, Nat.lt_of_lt_of_le hx.2.1 hb.size, hx.2.2⟩, hb.block x hx.2.1⟩⟩
/-- A kid that was made since. -/
theorem RCopyInv.kid (h : RCopyInv w c1 id kd tx ks k rv xs wr) {l : Fo} {ka : Option Addr} (hf : FoAt w2 (Fresh wr w2) l ka) : FoAt w2 (RMid w w2 rv) l ka := hf.kept fun x hx => by
  have hs := h.size
  refine ⟨⟨by have := hx.1; omega, hx.2, fun e => ?_⟩, rfl⟩
  have := (owns_bounds h.2.2.2.2.1 e).2
  have := hx.1
  omega

theorem RCopyInv.step {w1 : World} {o1 o2 : Obj} {b o : Nat} {ki kk : Int} {kt : ByteArray} {l : Fo} {ka : Option Addr} {kc gg cap : Nat} (hkc : foLen l ≤ kc) (h : RCopyInv w c1 id kd tx ks k rv xs w2) (hl : FoAt w2 (RMid w w2 rv) l ka) (ht : foTake (k + 1) ks = foSnoc (foTake k ks) b o (ki, kk, kt) l)
    (hown : w1.ownsRow (w.heap.size + 3) 24 4 (.slice (some ⟨gg, 0, none⟩) (k + 1) cap) (k + 1) (xs ++ [.int .i64 ki, .int .i64 kk, .string kt, .slice ka (foLen l) kc]))
    (hgrow : ((w2.alloc o1).alloc o2).grownBy w1 rv.ownBlock) (hat : rv.ownBlock = some gg ∨ gg = w2.heap.size + 1 + 1) :
    RCopyInv w c1 id kd tx ks (k + 1) (.slice (some ⟨gg, 0, none⟩) (k + 1) cap) (xs ++ [.int .i64 ki, .int .i64 kk, .string kt, .slice ka (foLen l) kc]) (w1.setCell ⟨w.heap.size + 1 + 1, 3, none⟩ (.slice (some ⟨gg, 0, none⟩) (k + 1) cap)) := by
  have hs := h.size
  obtain ⟨h0, h1, h2, h3, h4, h5⟩ := h
  have hob : ∀ g, rv.ownBlock = some g → w.heap.size + 3 ≤ g ∧ g < w2.heap.size := fun g hg => owns_bounds h4 hg
  have old : ∀ x, x < w2.heap.size → rv.ownBlock ≠ some x → w1.heap[x]? = w2.heap[x]? := fun x hx hn => by
    rw [hgrow.block x (by simp; omega) (fun e => hn e.symm), Below.heap_alloc _ _ _ (by simp; omega), Below.heap_alloc _ _ _ hx]
  have nob : ∀ x, x < w.heap.size + 3 → rv.ownBlock ≠ some x := fun x hx e => by have := (hob x e).1; omega
  have hgs : w2.heap.size ≤ w1.heap.size := by have := hgrow.size; simp at this; omega
  have hgg : gg ≠ w.heap.size + 1 + 1 := fun e => by
    rcases hat with hat | hat
    · have := (hob gg hat).1; omega
    · omega
  have hout : w1.heap[w.heap.size + 1 + 1]? = some (.cells #[.int .i64 id, .int .i64 kd, .string tx, rv] 24 (0, 0)) := (old _ hs (nob _ (by omega))).trans h2
  have keep : ∀ x, x < w2.heap.size → rv.ownBlock ≠ some x → x ≠ w.heap.size + 1 + 1 → (w1.setCell ⟨w.heap.size + 1 + 1, 3, none⟩ (.slice (some ⟨gg, 0, none⟩) (k + 1) cap)).heap[x]? = w2.heap[x]? := fun x hx hn hne => by
    rw [Below.heap_setCell _ _ _ _ hne]; exact old x hx hn
  have hmid : ∀ x, RMid w w2 rv x → RMid w (w1.setCell ⟨w.heap.size + 1 + 1, 3, none⟩ (.slice (some ⟨gg, 0, none⟩) (k + 1) cap)) (.slice (some ⟨gg, 0, none⟩) (k + 1) cap) x ∧ (w1.setCell ⟨w.heap.size + 1 + 1, 3, none⟩ (.slice (some ⟨gg, 0, none⟩) (k + 1) cap)).heap[x]? = w2.heap[x]? := fun x hx => by
    refine ⟨⟨hx.1, by simp [World.setCell]; have := hx.2.1; omega, fun e => ?_⟩, keep x hx.2.1 hx.2.2 (by have := hx.1; omega)⟩
    simp only [Value.ownBlock, Option.some.injEq] at e
    rcases hat with hat | hat
    · exact hx.2.2 (by rw [hat, e])
    · have := hx.2.1; omega
  refine ⟨(keep _ (by omega) (nob _ (by omega)) (by omega)).trans h0, (keep _ (by omega) (nob _ (by omega)) (by omega)).trans h1, ?_, ?_, ?_, ?_⟩
  · rw [heap_setCell_same w1 _ 3 _ _ _ hout]; rfl
  · have hB : Below w.heap.size w ((w2.alloc o1).alloc o2) := (h3.alloc (by omega) _).alloc (by simp; omega) _
    exact (hB.grown hgrow (by simp; omega) (fun g hg => by have := (hob g hg).1; omega)).setCell (by simp; omega) _
  · exact owns_kept hown (fun g cur hg hgo => Below.heap_setCell _ _ _ _ (fun e => hgg (by cases hgo; exact e)))
  · rw [ht]
    exact (h5.kept hmid).snoc (hl.kept hmid) kc hkc

/-- At the end: the result's own cells are written. -/
theorem RCopyInv.done {w' : World} {ra : Option Addr} {rcap : Nat} (h : RCopyInv w c1 id kd tx ks k (.slice ra k rcap) xs wr) (hk : k = foLen ks) (hrc : k ≤ rcap) (hb : Below w.heap.size wr w') (ho : ∀ x, x ≠ w.heap.size + 1 → w'.heap[x]? = wr.heap[x]?) :
    RCopyC ⟨id, kd, tx, ks⟩ w (.returned (.agg #[.int .i64 id, .int .i64 kd, .string tx, .slice ra k rcap])) w' := by
  obtain ⟨_, _, _, h3, h4, h5⟩ := h
  refine ⟨_, rfl, ⟨ra, rcap, by rw [← hk], by simp only; rw [← hk]; exact hrc, ?_⟩, h3.trans hb⟩
  rw [foTake_all k ks (by omega)] at h5
  have h6 : FoRow w' (Fresh w w') ks xs := h5.kept fun x hx => ⟨⟨by have := hx.1; omega, Nat.lt_of_lt_of_le hx.2.1 hb.size⟩, ho x (by have := hx.1; omega)⟩
  cases hks : ks with
  | nil => exact True.intro
  | node b o a l r =>
    rw [← hks]
    have hg : ∃ g, ra = some ⟨g, 0, none⟩ := by
      rcases h4.2 with ⟨hv, h0⟩ | ⟨g, cap, cur, hv, _⟩
      · rw [hk, hks] at h0; simp [foLen] at h0
      · cases hv; exact ⟨g, rfl⟩
    obtain ⟨g, rfl⟩ := hg
    have hgb := owns_bounds h4 (g := g) rfl
    refine h6.lies ⟨by omega, Nat.lt_of_lt_of_le hgb.2 hb.size⟩ 0 fun j u hj => ?_
    rw [Nat.zero_add]
    exact (World.cell?_of_block (a := ⟨g, j, none⟩) (ho g (by omega))).trans (owns_cell h4 rfl j u hj)
end

set_option maxRecDepth 100000 in
set_option maxHeartbeats 1000000 in
theorem rcopy_any : ∀ (n : Nat) (w : World) (S : Nat → Prop) (v : Value) (t : Tr), foSize t.kids < n → foSize t.kids ≤ 1000000 → (∀ k, S k → k < w.heap.size) → TrAt w S v t →
    Calls Try.prog 46 #[v] w (RCopyC t w) := by
  intro n
  induction n with
  | zero => intro w S v t h; omega
  | succ n ih =>
    intro w S v t hn hm hS hv
    obtain ⟨ka, cap, rfl, hcp0, hk⟩ := hv
    obtain ⟨id, kd, tx, ks⟩ := t
    simp only at hk hn hm
    simp only
    obtain ⟨len, hlen⟩ : ∃ len, len = foLen ks := ⟨_, rfl⟩
    rw [← hlen]
    have hlen6 : len ≤ 1000000 := by rw [hlen]; exact Nat.le_trans (foLen_le ks) hm
    have HN := Lib.hid (And.intro hn hm)
    have HLEN := Lib.hid hlen
    have HK := Lib.hid hk
    clear hcp0
    have HSS := Lib.hid hS
    have HIH := Lib.hid ih
    clear hlen hk hn hm hS ih
    go_enter Try.func46, Try.ntmps46
    go_wp2_with fail
    go_loopw [4] (fun i wr => RCopyRound w #[.int .i64 id, .int .i64 kd, .string tx, .slice ka len cap] id kd tx ks len i wr) (fun i _ => len - (intOf i).toNat)
    case atStart => exact ⟨0, _, _, Nat.zero_le _, rfl, RCopyInv.start _ _ _ _ _ _⟩
    case round =>
      obtain ⟨k, rv, xs, hk, rfl, hinv⟩ := hrel
      have p1 : wr.cell? ⟨w.heap.size, 3, none⟩ = some (.slice ka len cap) := by rw [cell_of_row wr _ 3 _ _ _ hinv.1]; rfl
      have HI := Lib.hid hinv
      clear hinv
      by_cases hlt : k < len
      · have hk1 := HK.out.below HI.out.2.2.2.1 HSS.out
        obtain ⟨b0, o0, ⟨ki, kk, kt⟩, l, r, hd1, b, off, a1, n1, rfl, hSb, c0, c1, c2, c3, hcp1, hl1⟩ := hk1.at k (by rw [← HLEN.out]; exact hlt)
        obtain ⟨_, _, _, _, _, e1, e2, hsz1, htk⟩ := foDrop_node k ks (by rw [← HLEN.out]; exact hlt)
        rw [hd1] at e1; cases e1
        have hcall := HIH.out wr S (.agg #[.int .i64 ki, .int .i64 kk, .string kt, .slice a1 (foLen l) n1]) ⟨ki, kk, kt, l⟩ (by have := HN.out.1; simp only; omega) (by have := HN.out.2; simp only; omega) (fun x hx => Nat.lt_of_lt_of_le (HSS.out x hx) HI.out.2.2.2.1.size) ⟨a1, n1, rfl, hcp1, hl1⟩
        obtain ⟨m1, hm1⟩ : ∃ m, m = foLen l := ⟨_, rfl⟩
        rw [← hm1] at hcall c3
        simp only at c0 c1 c2
        have HC := Lib.hid hcall
        have HM1 := Lib.hid hm1
        have HTK := Lib.hid htk
        have hkl : (k : Int) < (len : Int) := by omega
        clear hk1 hd1 hcall hm1 htk hl1 hsz1 hSb e2 hcp1
        go_wp2_with fail
        refine HC.out.mono ?_
        rintro e w2 ⟨_, rfl, ⟨ka2, cap2, rfl, hcp2, hf2⟩, hb2⟩
        have hi2 := HI.out.below hb2
        have hkid := HI.out.kid hf2
        have hs2 := hi2.size
        have ho := hi2.2.2.2.2.1
        simp only
        rw [← HM1.out]
        have d3 : w2.cell? ⟨w.heap.size + 1 + 1, 3, none⟩ = some rv := by rw [cell_of_row w2 _ 3 _ _ _ hi2.2.2.1]; rfl
        have f3 : w2.frozen? ⟨w.heap.size + 1 + 1, 3, none⟩ = false := frozen_of_row w2 _ 3 _ _ hi2.2.2.1
        obtain ⟨i0, z0, hi0, hz0, hz1, hz2, hz3⟩ := info_wide Try.infoN
        have hnew : (((w2.alloc (.cells #[.int .i64 ki, .int .i64 kk, .string kt, .slice ka2 m1 cap2] 24)).alloc (.cells #[.int .i64 ki, .int .i64 kk, .string kt, .slice ka2 m1 cap2] 24)).heap[w2.heap.size + 1]? = some (.cells #[.int .i64 ki, .int .i64 kk, .string kt, .slice ka2 m1 cap2] 24 (0, 0))) := by
          have := heap_alloc_new (w2.alloc (.cells #[.int .i64 ki, .int .i64 kk, .string kt, .slice ka2 m1 cap2] 24)) (.cells #[.int .i64 ki, .int .i64 kk, .string kt, .slice ka2 m1 cap2] 24)
          simpa using this
        have HNEW := Lib.hid hnew
        clear hnew
        have hB : w.heap.size + 3 ≤ w2.heap.size := hs2
        have hstep := fun w1 gg cap' h1 h2 h3 => hi2.step (hkc := hcp2) (w1 := w1) (gg := gg) (cap := cap') (kc := cap2) (o1 := .cells #[.int .i64 ki, .int .i64 kk, .string kt, .slice ka2 m1 cap2] 24) (o2 := .cells #[.int .i64 ki, .int .i64 kk, .string kt, .slice ka2 m1 cap2] 24) hkid HTK.out h1 h2 h3
        rw [← HM1.out] at hstep
        have HST := Lib.hid hstep
        have hne : rv.ownBlock ≠ some (w.heap.size + 1 + 1) := fun e => by have := (owns_bounds ho e).1; omega
        have hlt2 : (⟨w.heap.size + 1 + 1, 3, none⟩ : Addr).block < ((w2.alloc (.cells #[.int .i64 ki, .int .i64 kk, .string kt, .slice ka2 m1 cap2] 24)).alloc (.cells #[.int .i64 ki, .int .i64 kk, .string kt, .slice ka2 m1 cap2] 24)).heap.size := by simp; omega
        have hheap : ((w2.alloc (.cells #[.int .i64 ki, .int .i64 kk, .string kt, .slice ka2 m1 cap2] 24)).alloc (.cells #[.int .i64 ki, .int .i64 kk, .string kt, .slice ka2 m1 cap2] 24)).heap[w.heap.size + 1 + 1]? = w2.heap[w.heap.size + 1 + 1]? := by rw [Below.heap_alloc _ _ _ (by simp; omega), Below.heap_alloc _ _ _ hs2]
        have HAUX := Lib.hid (And.intro hne (And.intro hlt2 (And.intro ((World.cell?_of_block (a := ⟨w.heap.size + 1 + 1, 3, none⟩) hheap).trans d3) ((World.frozen?_of_block (a := ⟨w.heap.size + 1 + 1, 3, none⟩) hheap).trans f3))))
        clear hi2 hkid hf2 hb2 hstep hne hlt2 hheap f3 hcp2
        go_wp2_with (at_builtin; refine wpList_append_lies _ rfl (.tmp 27) (.tmp 29) _ rfl (w.heap.size + 3) 24 i0 z0 4 56 Try.underlying22 hi0 hz0 hz1 hz2 hz3 (by omega) rv k xs rfl ((ho.alloc _).alloc _) ⟨w2.heap.size + 1, 0, none⟩ 1 1 [.int .i64 ki, .int .i64 kk, .string kt, .slice ka2 m1 cap2] rfl rfl (World.news_of_block (cs := #[.int .i64 ki, .int .i64 kk, .string kt, .slice ka2 m1 cap2]) (t := 24) (fr := (0, 0)) HNEW.out) (by simp [Value.oneCell']) (by omega) (by unfold maxLen; omega) (by omega) (by simp; omega) (w2.heap.size + 1 + 1) (by simp) ?_; intro gg cap' w1 hown1 hgrow hat hlt1; have c1w := (hgrow.cell_far _ HAUX.out.2.1 (Ne.symm HAUX.out.1)).trans HAUX.out.2.2.1; have f1w := (hgrow.frozen_far _ HAUX.out.2.1 (Ne.symm HAUX.out.1)).trans HAUX.out.2.2.2)
        exact ⟨⟨k + 1, _, _, by omega, by go_num, HST.out _ _ _ hown1 hgrow hat⟩, by simp [intOf]; omega⟩
      · have hkk : k = len := by omega
        have hi := HI.out
        obtain ⟨ra, rcap, rfl, hrc⟩ := owns_slice_cap hi.2.2.2.2.1
        have HRC := Lib.hid hrc
        clear hrc
        have q0 : wr.cell? ⟨w.heap.size + 1 + 1, 0, none⟩ = some (.int .i64 id) := by rw [cell_of_row wr _ 0 _ _ _ hi.2.2.1]; rfl
        have q1 : wr.cell? ⟨w.heap.size + 1 + 1, 1, none⟩ = some (.int .i64 kd) := by rw [cell_of_row wr _ 1 _ _ _ hi.2.2.1]; rfl
        have q2 : wr.cell? ⟨w.heap.size + 1 + 1, 2, none⟩ = some (.string tx) := by rw [cell_of_row wr _ 2 _ _ _ hi.2.2.1]; rfl
        have q3 : wr.cell? ⟨w.heap.size + 1 + 1, 3, none⟩ = some (.slice ra k rcap) := by rw [cell_of_row wr _ 3 _ _ _ hi.2.2.1]; rfl
        have z0 : wr.cell? ⟨w.heap.size + 1, 0, none⟩ = some (.int .i64 0) := by rw [cell_of_row wr _ 0 _ _ _ hi.2.1]; rfl
        have z1 : wr.cell? ⟨w.heap.size + 1, 1, none⟩ = some (.int .i64 0) := by rw [cell_of_row wr _ 1 _ _ _ hi.2.1]; rfl
        have z2 : wr.cell? ⟨w.heap.size + 1, 2, none⟩ = some (.string ⟨#[]⟩) := by rw [cell_of_row wr _ 2 _ _ _ hi.2.1]; rfl
        have z3 : wr.cell? ⟨w.heap.size + 1, 3, none⟩ = some (.slice none 0 0) := by rw [cell_of_row wr _ 3 _ _ _ hi.2.1]; rfl
        have g0 := frozen_of_row wr _ 0 _ _ hi.2.1
        have g1 := frozen_of_row wr _ 1 _ _ hi.2.1
        have g2 := frozen_of_row wr _ 2 _ _ hi.2.1
        have g3 := frozen_of_row wr _ 3 _ _ hi.2.1
        clear hi
        have HLK : Hid (k = foLen ks) := show k = foLen ks by rw [hkk, HLEN.out]
        clear hkk
        go_wp2_with fail
        have hz := rset4 HI.out.2.1 (.int .i64 id) (.int .i64 kd) (.string tx) (.slice ra k rcap)
        refine bodyPost_ret (results_cell_row rfl _ _ (w.heap.size + 1) 24 _ (0, 0) _ rfl hz.1 Try.underlying24 rfl (by kernel_rfl)) rfl ?_
        exact HI.out.done HLK.out HRC.out (hz.2.1 _ (by omega)) hz.2.2


theorem RCopyInv.step1 {w w1 w2 : World} {c1 : Array Value} {id kd : Int} {tx : ByteArray} {ks : Fo} {k : Nat} {rv : Value} {xs : List Value} {o2 : Obj} {b o : Nat} {ki kk : Int} {kt : ByteArray} {l : Fo} {ka : Option Addr} {kc gg cap : Nat} (hkc : foLen l ≤ kc) (h : RCopyInv w c1 id kd tx ks k rv xs w2) (hl : FoAt w2 (RMid w w2 rv) l ka) (ht : foTake (k + 1) ks = foSnoc (foTake k ks) b o (ki, kk, kt) l)
    (hown : w1.ownsRow (w.heap.size + 3) 24 4 (.slice (some ⟨gg, 0, none⟩) (k + 1) cap) (k + 1) (xs ++ [.int .i64 ki, .int .i64 kk, .string kt, .slice ka (foLen l) kc]))
    (hgrow : (w2.alloc o2).grownBy w1 rv.ownBlock) (hat : rv.ownBlock = some gg ∨ gg = w2.heap.size + 1) :
    RCopyInv w c1 id kd tx ks (k + 1) (.slice (some ⟨gg, 0, none⟩) (k + 1) cap) (xs ++ [.int .i64 ki, .int .i64 kk, .string kt, .slice ka (foLen l) kc]) (w1.setCell ⟨w.heap.size + 1 + 1, 3, none⟩ (.slice (some ⟨gg, 0, none⟩) (k + 1) cap)) := by
  have hs := h.size
  obtain ⟨h0, h1, h2, h3, h4, h5⟩ := h
  have hob : ∀ g, rv.ownBlock = some g → w.heap.size + 3 ≤ g ∧ g < w2.heap.size := fun g hg => owns_bounds h4 hg
  have old : ∀ x, x < w2.heap.size → rv.ownBlock ≠ some x → w1.heap[x]? = w2.heap[x]? := fun x hx hn => by
    rw [hgrow.block x (by simp; omega) (fun e => hn e.symm), Below.heap_alloc _ _ _ hx]
  have nob : ∀ x, x < w.heap.size + 3 → rv.ownBlock ≠ some x := fun x hx e => by have := (hob x e).1; omega
  have hgs : w2.heap.size ≤ w1.heap.size := by have := hgrow.size; simp at this; omega
  have hgg : gg ≠ w.heap.size + 1 + 1 := fun e => by
    rcases hat with hat | hat
    · have := (hob gg hat).1; omega
    · omega
  have hout : w1.heap[w.heap.size + 1 + 1]? = some (.cells #[.int .i64 id, .int .i64 kd, .string tx, rv] 24 (0, 0)) := (old _ hs (nob _ (by omega))).trans h2
  have keep : ∀ x, x < w2.heap.size → rv.ownBlock ≠ some x → x ≠ w.heap.size + 1 + 1 → (w1.setCell ⟨w.heap.size + 1 + 1, 3, none⟩ (.slice (some ⟨gg, 0, none⟩) (k + 1) cap)).heap[x]? = w2.heap[x]? := fun x hx hn hne => by
    rw [Below.heap_setCell _ _ _ _ hne]; exact old x hx hn
  have hmid : ∀ x, RMid w w2 rv x → RMid w (w1.setCell ⟨w.heap.size + 1 + 1, 3, none⟩ (.slice (some ⟨gg, 0, none⟩) (k + 1) cap)) (.slice (some ⟨gg, 0, none⟩) (k + 1) cap) x ∧ (w1.setCell ⟨w.heap.size + 1 + 1, 3, none⟩ (.slice (some ⟨gg, 0, none⟩) (k + 1) cap)).heap[x]? = w2.heap[x]? := fun x hx => by
    refine ⟨⟨hx.1, by simp [World.setCell]; have := hx.2.1; omega, fun e => ?_⟩, keep x hx.2.1 hx.2.2 (by have := hx.1; omega)⟩
    simp only [Value.ownBlock, Option.some.injEq] at e
    rcases hat with hat | hat
    · exact hx.2.2 (by rw [hat, e])
    · have := hx.2.1; omega
  refine ⟨(keep _ (by omega) (nob _ (by omega)) (by omega)).trans h0, (keep _ (by omega) (nob _ (by omega)) (by omega)).trans h1, ?_, ?_, ?_, ?_⟩
  · rw [heap_setCell_same w1 _ 3 _ _ _ hout]; rfl
  · have hB : Below w.heap.size w (w2.alloc o2) := h3.alloc (by omega) _
    exact (hB.grown hgrow (by simp; omega) (fun g hg => by have := (hob g hg).1; omega)).setCell (by simp; omega) _
  · exact owns_kept hown (fun g cur hg hgo => Below.heap_setCell _ _ _ _ (fun e => hgg (by cases hgo; exact e)))
  · rw [ht]
    exact (h5.kept hmid).snoc (hl.kept hmid) kc hkc


theorem kidF_set_other : ∀ (f : Fo) (i k : Nat) (u : Tr), k ≠ i → kidF (setF f i u) k = kidF f k
  | .nil, _, _, _, _ => rfl
  | .node _ _ _ _ _, 0, 0, _, h => absurd rfl h
  | .node _ _ _ _ r, 0, k + 1, _, _ => by simp [kidF, setF, foDrop]
  | .node _ _ _ _ r, i + 1, 0, _, _ => by simp [kidF, setF, foDrop, headT]
  | .node _ _ _ _ r, i + 1, k + 1, u, h => by
    have := kidF_set_other r i k u (by omega)
    simpa [kidF, setF, foDrop] using this
theorem take_kid {f : Fo} {k : Nat} {u : Tr} (h : kidF f k = some u) : ∃ b o, foTake (k + 1) f = foSnoc (foTake k f) b o (u.id, u.kind, u.text) u.kids := by
  have hk : k < foLen f := by
    rcases Nat.lt_or_ge k (foLen f) with h1 | h1
    · exact h1
    · rw [kidF_ge h1] at h; cases h
  obtain ⟨b, o, a, l, r, hd, _, _, ht⟩ := foDrop_node k f hk
  obtain ⟨ub, uo, uk, ul, ur, hd2, hkid, _⟩ := kidF_lt (f := f) (j := k) hk
  rw [hd] at hd2; cases hd2
  rw [hkid] at h; cases h
  exact ⟨b, o, ht⟩
/-- What was made by a call that began since. -/
theorem RCopyC.since {t : Tr} {w w0 : World} {e : Ending} {w' : World} (hb : Below w.heap.size w w0) (h : RCopyC t w0 e w') : RCopyC t w e w' := by
  obtain ⟨v, rfl, hv, h2⟩ := h
  exact ⟨v, rfl, hv.kept fun y hy => ⟨⟨Nat.le_trans hb.size hy.1, hy.2⟩, rfl⟩, hb.trans (h2.mono hb.size)⟩
set_option maxRecDepth 100000 in
set_option maxHeartbeats 8000000 in
theorem rput_any : ∀ (M : Nat) (w : World) (S Sx Sp : Nat → Prop) (v xv : Value) (t x u : Tr) (pa : Option Addr) (n pc : Nat) (p : List Nat), n < M → n = p.length → n ≤ 1000000 → foSize t.kids ≤ 1000000 → foSize x.kids ≤ 1000000 → (∀ k, S k → k < w.heap.size) → (∀ k, Sx k → k < w.heap.size) → (∀ k, Sp k → k < w.heap.size) → TrAt w S v t → TrAt w Sx xv x → IntsL w Sp pa pc (natI p) → atT t p = some u →
    Calls Try.prog 40 #[v, .slice pa n pc, xv] w (RCopyC (putP t p x) w) := by
  intro M
  induction M with
  | zero => intro w S Sx Sp v xv t x u pa n pc p h; omega
  | succ M ih =>
    intro w S Sx Sp v xv t x u pa n pc p hM hn hnb hsz hszx hS hSx hSp hv hxv hp hu
    obtain ⟨ka, cap, rfl, hcp, hk⟩ := hv
    obtain ⟨xa, xc, rfl, hxc, hxk⟩ := hxv
    obtain ⟨len, hlen⟩ : ∃ len, len = foLen t.kids := ⟨_, rfl⟩
    obtain ⟨xn, hxn⟩ : ∃ xn, xn = foLen x.kids := ⟨_, rfl⟩
    rw [← hlen, ← hxn]
    obtain ⟨W0, hW0⟩ : ∃ W0, W0 = w.alloc (.cells #[.int .i64 t.id, .int .i64 t.kind, .string t.text, .slice ka len cap] 24) := ⟨_, rfl⟩
    have hb0 : Below w.heap.size w W0 := by rw [hW0]; exact box_below _ _
    have hs0 : W0.heap.size = w.heap.size + 1 := by rw [hW0]; simp
    have ht0 : W0.heap[w.heap.size]? = some (.cells #[.int .i64 t.id, .int .i64 t.kind, .string t.text, .slice ka len cap] 24 (0, 0)) := by rw [hW0]; exact heap_alloc_new w _
    obtain ⟨W2, hW2⟩ : ∃ W2, W2 = (W0.alloc (.cells #[.int .i64 x.id, .int .i64 x.kind, .string x.text, .slice xa xn xc] 24)).alloc (.cells #[.int .i64 0, .int .i64 0, .string ⟨#[]⟩, .slice none 0 0] 24) := ⟨_, rfl⟩
    have hb2 : Below W0.heap.size W0 W2 := by rw [hW2]; exact two_boxes _ _ _
    have hs2 : W2.heap.size = w.heap.size + 3 := by rw [hW2]; simp; omega
    have hx2 : W2.heap[W0.heap.size]? = some (.cells #[.int .i64 x.id, .int .i64 x.kind, .string x.text, .slice xa xn xc] 24 (0, 0)) := by rw [hW2]; exact heap_alloc2_old _ _ _
    have hz2 : W2.heap[W0.heap.size + 1]? = some (.cells #[.int .i64 0, .int .i64 0, .string ⟨#[]⟩, .slice none 0 0] 24 (0, 0)) := by rw [hW2]; exact heap_alloc2_new _ _ _
    have HN := Lib.hid hn
    clear hn
    cases p with
    | nil =>
      have hb := hb0.trans (hb2.mono hb0.size)
      have hc := rcopy_any (foSize x.kids + 1) W2 Sx (.agg #[.int .i64 x.id, .int .i64 x.kind, .string x.text, .slice xa (foLen x.kids) xc]) x (by omega) hszx (fun y hy => by have := hSx y hy; omega) ⟨xa, xc, rfl, hxc, hxk.below hb hSx⟩
      rw [← hxn] at hc
      have HC := Lib.hid (And.intro hc (And.intro hb (And.intro hs0 (And.intro hs2 (And.intro hz2 (show putP t [] x = x from by simp [putP]))))))
      have HW := Lib.hid (And.intro hW0 hW2)
      have hn0 : n = 0 := HN.out
      clear HN
      rw [hs0] at hx2 hz2
      obtain ⟨x0, x1, x2, x3⟩ := box4 hx2
      have HXB := Lib.hid (And.intro x0 (And.intro x1 (And.intro x2 x3)))
      subst hn0
      clear hc hb hb0 hs0 ht0 hb2 hs2 hx2 hz2 ih hM hp hu hlen hxn hcp hk hxc hxk hsz hszx hS hSx hSp hnb x0 x1 x2 x3
      go_enter Try.func40, Try.ntmps40
      go_wp2_with fail
      change Calls _ _ _ (((w.alloc (.cells #[.int .i64 t.id, .int .i64 t.kind, .string t.text, .slice ka len cap] 24)).alloc (.cells #[.int .i64 x.id, .int .i64 x.kind, .string x.text, .slice xa xn xc] 24)).alloc (.cells #[.int .i64 0, .int .i64 0, .string ⟨#[]⟩, .slice none 0 0] 24)) _
      rw [← HW.out.1, ← HW.out.2]
      refine HC.out.1.mono ?_
      rintro e w2 ⟨v2, rfl, ⟨ya, yc, rfl, hyc, hyk⟩, hb9⟩
      have hz := (hb9.block _ (lt_of_heap HC.out.2.2.2.2.1)).trans HC.out.2.2.2.2.1
      rw [HC.out.2.2.1] at hz
      obtain ⟨z0, z1, z2, z3⟩ := box4 hz
      have zf : ∀ j, w2.frozen? ⟨w.heap.size + 1 + 1, j, none⟩ = false := fun j => frozen_of_row _ _ j _ _ hz
      have hB := HC.out.2.1.trans (hb9.mono HC.out.2.1.size)
      obtain ⟨m, hm⟩ : ∃ m, m = foLen x.kids := ⟨_, rfl⟩
      rw [← hm] at hyc ⊢
      have HE := Lib.hid (And.intro hB (And.intro hz (And.intro hm (And.intro hyc hyk))))
      clear hB hz hm hyc hyk hb9
      go_wp2_with fail
      obtain ⟨V5, e5, r1, r2, r3, r4, r5, r6⟩ := four_set (u0 := .int .i64 x.id) (u1 := .int .i64 x.kind) (u2 := .string x.text) (u3 := .slice ya m yc) HE.out.2.1
      rw [← e5]
      refine bodyPost_ret (results_cell_row rfl _ _ (w.heap.size + 1 + 1) 24 _ (0, 0) _ rfl r1 Try.underlying24 rfl (by kernel_rfl)) rfl ?_
      have hB := HE.out.1
      refine ⟨_, rfl, ?_, r3.trans hB.os, r4.trans hB.tape, r5.trans hB.output, by rw [r6]; exact hB.size, fun k hk => (r2 k (by omega)).trans (hB.block k hk)⟩
      rw [HC.out.2.2.2.2.2, HE.out.2.2.1]
      refine ⟨ya, yc, rfl, by rw [← HE.out.2.2.1]; exact HE.out.2.2.2.1, HE.out.2.2.2.2.kept fun z hz => ?_⟩
      have h1 := HC.out.2.2.2.1
      have h2 := hz.1
      exact ⟨⟨by omega, by rw [r6]; exact hz.2⟩, r2 z (by omega)⟩
    | cons i q =>
      obtain ⟨m, rfl⟩ : ∃ m, n = m + 1 := ⟨q.length, HN.out⟩
      have hmq : m = q.length := by have := HN.out; rw [List.length_cons] at this; omega
      clear HN
      simp only [atT] at hu
      obtain ⟨u1, hu1⟩ : ∃ u1, kidF t.kids i = some u1 := by
        cases h : kidF t.kids i with
        | none => rw [h] at hu; cases hu
        | some u1 => exact ⟨u1, rfl⟩
      rw [hu1] at hu
      simp only at hu
      have hil : i < len := by
        rcases Nat.lt_or_ge i (foLen t.kids) with h1 | h1
        · omega
        · rw [kidF_ge h1] at hu1; cases hu1
      obtain ⟨y, hy⟩ : ∃ y, y = putP u1 q x := ⟨_, rfl⟩
      have hput : putP t (i :: q) x = ⟨t.id, t.kind, t.text, setF t.kids i y⟩ := by rw [putP, hu1, hy]
      obtain ⟨ks, hks⟩ : ∃ ks, ks = setF t.kids i y := ⟨_, rfl⟩
      have hksl : len = foLen ks := by rw [hks, setF_len]; exact hlen
      have hkid : ∀ k, k < len → kidF ks k = if k = i then some y else kidF t.kids k := fun k hk => by
        rw [hks]
        by_cases h : k = i
        · rw [if_pos h, h]; exact kidF_set _ _ _ (by omega)
        · rw [if_neg h]; exact kidF_set_other _ _ _ _ h
      obtain ⟨pb, po, e1, hpb, hpc⟩ := hp.2.resolve_left (by simp [natI])
      subst e1
      have hp0 := hpc 0 (i : Int) rfl
      rw [Nat.add_zero] at hp0
      have hpd := hp.drop 1
      have hl6 : len ≤ 1000000 := by rw [hlen]; exact Nat.le_trans (foLen_le t.kids) hsz
      have HST := Lib.hid (RCopyInv.start W0 #[.int .i64 x.id, .int .i64 x.kind, .string x.text, .slice xa xn xc] t.id t.kind t.text ks)
      have HIH := Lib.hid ih
      have HM := Lib.hid (show m < M ∧ m ≤ 1000000 ∧ foSize t.kids ≤ 1000000 from ⟨by omega, by omega, hsz⟩)
      have HF := Lib.hid (And.intro hk (And.intro hcp (And.intro hS (And.intro hsz hlen))))
      have HX := Lib.hid (And.intro hxk (And.intro hxc (And.intro hSx (And.intro hszx hxn))))
      have HP := Lib.hid (And.intro hp0 (And.intro hpd (And.intro hpb (And.intro hSp hmq))))
      have HU := Lib.hid (And.intro hu (And.intro hu1 (And.intro hy (And.intro hput (And.intro hks (And.intro hksl hkid))))))
      have HB0 := Lib.hid (And.intro hb0 (And.intro hs0 ht0))
      have HW := Lib.hid hW0
      have hpc1 : m + 1 ≤ pc := by have := hp.1; rw [natI_length, List.length_cons, ← hmq] at this; exact this
      clear hk hcp hS hlen hxk hxc hSx hszx hxn hp0 hpd hSp hmq hu hu1 hy hput hks hksl hkid hb0 hs0 ht0 hW0 ih hpc hpb hp hW2 hb2 hs2 hx2 hz2 hM hnb hsz
      go_enter Try.func40, Try.ntmps40
      go_wp2_with fail
      go_loopw [8] (fun j wr => ∃ k rv xs, k ≤ len ∧ j = .int .i64 (k : Int) ∧ Hid (RCopyInv W0 #[.int .i64 x.id, .int .i64 x.kind, .string x.text, .slice xa xn xc] t.id t.kind t.text ks k rv xs wr)) (fun j _ => len - (intOf j).toNat)
      case atStart =>
        refine ⟨0, .slice none 0 0, [], Nat.zero_le _, rfl, ?_⟩
        have h := HST
        rw [HW.out] at h ⊢
        exact h
      case round =>
        obtain ⟨k, rv, xs, hk, rfl, HI⟩ := hrel
        clear HST
        have hlow := HI.out.2.2.2.1
        have htb := (hlow.block _ (lt_of_heap HB0.out.2.2)).trans HB0.out.2.2
        obtain ⟨_, _, _, p3⟩ := box4 htb
        by_cases hlt : k < len
        · have hkr := ((HF.out.1.below HB0.out.1 HF.out.2.2.1).below hlow (fun y hy => by have := HF.out.2.2.1 y hy; have := HB0.out.2.1; omega)).at k (by have := HF.out.2.2.2.2; omega)
          obtain ⟨b0, o0, ⟨ki, kk, kt⟩, l, r, hd1, kb, koff, a1, n1, rfl, hSb, c0, c1, c2, c3, hcp1, hl1⟩ := hkr
          obtain ⟨ub, uo, uk, ul, ur, hd2, hkd, hul⟩ := kidF_lt (f := t.kids) (j := k) (by have := HF.out.2.2.2.2; omega)
          rw [hd1] at hd2; cases hd2
          obtain ⟨_, _, _, _, _, e1, e2, hsz1, _⟩ := foDrop_node k t.kids (by have := HF.out.2.2.2.2; omega)
          rw [hd1] at e1; cases e1
          simp only at c0 c1 c2 hkd
          have hpx : wr.cell? ⟨pb, po, none⟩ = some (.int .i64 (i : Int)) := (hlow.cell (p := ⟨pb, po, none⟩) (by have := HP.out.2.2.2.1 pb HP.out.2.2.1; have := HB0.out.2.1; show pb < _; omega)).trans ((HB0.out.1.cell (p := ⟨pb, po, none⟩) (HP.out.2.2.2.1 pb HP.out.2.2.1)).trans HP.out.1)
          obtain ⟨m1, hm1⟩ : ∃ m, m = foLen l := ⟨_, rfl⟩
          rw [← hm1] at c3 hcp1
          have hkl : (k : Int) < (len : Int) := by omega
          have hxb := HI.out.1
          rw [HB0.out.2.1] at hxb
          have hsW := HI.out.size
          by_cases hki : k = i
          · subst hki
            have hq : ((k : Int) == (k : Int)) = true := by simp
            obtain ⟨x0, x1, x2, x3⟩ := box4 hxb
            have hkeep : ∀ X, Below wr.heap.size wr X → Below w.heap.size w X ∧ (∀ z, z < w.heap.size → X.heap[z]? = w.heap[z]?) := fun X hX => by
              have h1 := HB0.out.1.trans (hlow.mono HB0.out.1.size)
              have h2 := h1.trans (hX.mono h1.size)
              exact ⟨h2, fun z hz => h2.block z hz⟩
            have hu1e : u1 = ⟨ki, kk, kt, l⟩ := by have := HU.out.2.1; rw [hkd] at this; cases this; rfl
            obtain ⟨⟨uid, ukd, utx, uks⟩, hyy⟩ : ∃ z, z = y := ⟨_, rfl⟩
            obtain ⟨um, hum⟩ : ∃ um, um = foLen uks := ⟨_, rfl⟩
            obtain ⟨pq, hpq⟩ : ∃ pq : Option Addr, pq = if pc = 1 then some ⟨pb, po, none⟩ else some ⟨pb, po + 1, none⟩ := ⟨_, rfl⟩
            have hpd : IntsL w Sp pq (pc - 1) (natI q) := by
              rw [hpq]
              split
              · exact ⟨by rw [natI_length, ← HP.out.2.2.2.2]; omega, Or.inl (by
                  have h1 := HP.out.2.2.2.2
                  have h2 : q = [] := List.length_eq_zero_iff.1 (by omega)
                  rw [h2]; rfl)⟩
              · exact HP.out.2.1
            have HPQ := Lib.hid hpq
            have HPD := Lib.hid hpd
            have hcall : ∀ X, Below wr.heap.size wr X → Calls Try.prog 40 #[.agg #[.int .i64 ki, .int .i64 kk, .string kt, .slice a1 m1 n1], .slice pq m (pc - 1), .agg #[.int .i64 x.id, .int .i64 x.kind, .string x.text, .slice xa xn xc]] X fun e w' => ∃ ya yc, e = .returned (.agg #[.int .i64 uid, .int .i64 ukd, .string utx, .slice ya um yc]) ∧ um ≤ yc ∧ FoAt w' (Fresh X w') uks ya ∧ Below X.heap.size X w' := fun X hX => by
              have hX2 := hkeep X hX
              have hFX := hl1.below hX (fun y hy => by have := HF.out.2.2.1 y hy; have := HB0.out.2.1; omega)
              have h := HIH.out X S Sx Sp (.agg #[.int .i64 ki, .int .i64 kk, .string kt, .slice a1 m1 n1]) (.agg #[.int .i64 x.id, .int .i64 x.kind, .string x.text, .slice xa (foLen x.kids) xc]) ⟨ki, kk, kt, l⟩ x u pq m (pc - 1) q HM.out.1 HP.out.2.2.2.2 HM.out.2.1 (by have := HM.out.2.2; simp only; omega) HX.out.2.2.2.1 (fun z hz => Nat.lt_of_lt_of_le (HF.out.2.2.1 z hz) hX2.1.size) (fun z hz => Nat.lt_of_lt_of_le (HX.out.2.2.1 z hz) hX2.1.size) (fun z hz => Nat.lt_of_lt_of_le (HP.out.2.2.2.1 z hz) hX2.1.size) ⟨a1, n1, by rw [hm1], by rw [← hm1]; exact hcp1, hFX⟩ ⟨xa, xc, rfl, HX.out.2.1, HX.out.1.below hX2.1 HX.out.2.2.1⟩ (HPD.out.kept fun z hz => ⟨hz, hX2.2 z (HP.out.2.2.2.1 z hz)⟩) (by rw [← hu1e]; exact HU.out.1)
              rw [← HX.out.2.2.2.2, ← hu1e, ← HU.out.2.2.1, ← hyy] at h
              refine h.mono ?_
              rintro e w' ⟨v, rfl, ⟨ya, yc, rfl, hyc, hyk⟩, hb9⟩
              exact ⟨ya, yc, by rw [hum], by rw [hum]; exact hyc, hyk, hb9⟩
            have HCALL := Lib.hid hcall
            have HZ := Lib.hid (fun (X : World) (h : Below wr.heap.size wr X) => (show X.cell? ⟨w.heap.size, 3, none⟩ = some (.slice (some ⟨kb, koff, none⟩) len cap) ∧ (X.cell? ⟨kb, koff + k * 4, none⟩ = some (.int .i64 ki) ∧ X.cell? ⟨kb, koff + k * 4 + 1, none⟩ = some (.int .i64 kk) ∧ X.cell? ⟨kb, koff + k * 4 + 2, none⟩ = some (.string kt) ∧ X.cell? ⟨kb, koff + k * 4 + 3, none⟩ = some (.slice a1 m1 n1)) ∧ (X.cell? ⟨w.heap.size + 1, 0, none⟩ = some (.int .i64 x.id) ∧ X.cell? ⟨w.heap.size + 1, 1, none⟩ = some (.int .i64 x.kind) ∧ X.cell? ⟨w.heap.size + 1, 2, none⟩ = some (.string x.text) ∧ X.cell? ⟨w.heap.size + 1, 3, none⟩ = some (.slice xa xn xc)) from
              ⟨(h.cell (World.block_lt_of_cell? _ _ p3)).trans p3, ⟨(h.cell (World.block_lt_of_cell? _ _ c0)).trans c0, (h.cell (World.block_lt_of_cell? _ _ c1)).trans c1, (h.cell (World.block_lt_of_cell? _ _ c2)).trans c2, (h.cell (World.block_lt_of_cell? _ _ c3)).trans c3⟩, ⟨(h.cell (World.block_lt_of_cell? _ _ x0)).trans x0, (h.cell (World.block_lt_of_cell? _ _ x1)).trans x1, (h.cell (World.block_lt_of_cell? _ _ x2)).trans x2, (h.cell (World.block_lt_of_cell? _ _ x3)).trans x3⟩⟩))
            obtain ⟨bs, os, htk⟩ := take_kid (f := ks) (k := k) (u := ⟨uid, ukd, utx, uks⟩) (by rw [HU.out.2.2.2.2.2.2 k hlt, if_pos rfl, hyy])
            have HTK := Lib.hid (And.intro htk (And.intro hum (And.intro hlt hsW)))
            clear hpq hpd hkeep hu1e hyy hum hcall htk hd1 hSb c0 c1 c2 c3 hcp1 hl1 hkd hul hsz1 e2 hm1 hxb hlow htb x0 x1 x2 x3 hsW hlt hk
            go_wp2_with fail
            refine wp_region_held_drew (S := fun X => Below wr.heap.size wr X) (by kernel_rfl) (below_drewN (Below.refl _ wr) 1) (fun hHeld => ?_)
            refine wpAnyH_take (i := 0) (oi := _) (v := .pointer (some ⟨w.heap.size, 3, none⟩)) rfl (by kernel_rfl) (by kernel_rfl) (by kernel_rfl) (fun _ _ _ h => h) (Or.inl ⟨by rfl, ?_⟩) (by assumption) ?_
            · clear hHeld; intro X hSw; clear hSw; go_simp
            simp only [Act.put, List.getElem_toArray, List.getElem_cons_zero, List.getElem_cons_succ, List.setIfInBounds_toArray, List.set_cons_zero, List.set_cons_succ]
            refine wpAnyH_take (i := 1) (oi := _) (v := .slice (some ⟨kb, koff, none⟩) len cap) rfl (by kernel_rfl) (by kernel_rfl) (by kernel_rfl) (fun _ _ _ h => h) (Or.inl ⟨by rfl, ?_⟩) (by assumption) ?_
            · clear hHeld; intro X hSw; obtain ⟨s0, ⟨s1, s2, s3, s4⟩, ⟨s5, s6, s7, s8⟩⟩ := HZ.out X hSw; clear hSw; go_simp
            simp only [Act.put, List.getElem_toArray, List.getElem_cons_zero, List.getElem_cons_succ, List.setIfInBounds_toArray, List.set_cons_zero, List.set_cons_succ]
            refine wpAnyH_take (i := 2) (oi := _) (v := .int .i64 (k : Int)) rfl (by kernel_rfl) (by kernel_rfl) (by kernel_rfl) (fun _ _ _ h => h) (Or.inl ⟨by rfl, ?_⟩) (by assumption) ?_
            · clear hHeld; intro X hSw; clear hSw; go_simp
            simp only [Act.put, List.getElem_toArray, List.getElem_cons_zero, List.getElem_cons_succ, List.setIfInBounds_toArray, List.set_cons_zero, List.set_cons_succ]
            refine wpAnyH_take (i := 3) (oi := _) (v := .pointer (some ⟨kb, koff + k * 4, none⟩)) rfl (by kernel_rfl) (by kernel_rfl) (by kernel_rfl) (fun _ _ _ h => h) (Or.inl ⟨by rfl, ?_⟩) (by assumption) ?_
            · clear hHeld; intro X hSw; clear hSw; go_simp
            simp only [Act.put, List.getElem_toArray, List.getElem_cons_zero, List.getElem_cons_succ, List.setIfInBounds_toArray, List.set_cons_zero, List.set_cons_succ]
            refine wpAnyH_take (i := 4) (oi := _) (v := .agg #[.int .i64 ki, .int .i64 kk, .string kt, .slice a1 m1 n1]) rfl (by kernel_rfl) (by kernel_rfl) (by kernel_rfl) (fun _ _ _ h => h) (Or.inl ⟨by rfl, ?_⟩) (by assumption) ?_
            · clear hHeld; intro X hSw; obtain ⟨s0, ⟨s1, s2, s3, s4⟩, ⟨s5, s6, s7, s8⟩⟩ := HZ.out X hSw; clear hSw; go_simp
            simp only [Act.put, List.getElem_toArray, List.getElem_cons_zero, List.getElem_cons_succ, List.setIfInBounds_toArray, List.set_cons_zero, List.set_cons_succ]
            refine wpAnyH_take (i := 5) (oi := _) (v := .slice (some ⟨pb, po, none⟩) (m + 1) pc) rfl (by kernel_rfl) (by kernel_rfl) (by kernel_rfl) (fun _ _ _ h => h) (Or.inl ⟨by rfl, ?_⟩) (by assumption) ?_
            · clear hHeld; intro X hSw; clear hSw; go_simp
            simp only [Act.put, List.getElem_toArray, List.getElem_cons_zero, List.getElem_cons_succ, List.setIfInBounds_toArray, List.set_cons_zero, List.set_cons_succ]
            refine wpAnyH_take (i := 6) (oi := _) (v := .slice pq m (pc - 1)) rfl (by kernel_rfl) (by kernel_rfl) (by kernel_rfl) (fun _ _ _ h => h) (Or.inl ⟨by rfl, ?_⟩) (by assumption) ?_
            · clear hHeld; intro X hSw; clear hSw; have h1 : (1 : Int) ≤ (m : Int) + 1 := by omega
              go_simp; rw [HPQ.out]
            simp only [Act.put, List.getElem_toArray, List.getElem_cons_zero, List.getElem_cons_succ, List.setIfInBounds_toArray, List.set_cons_zero, List.set_cons_succ]
            refine wpAnyH_take (i := 7) (oi := _) (v := .agg #[.int .i64 x.id, .int .i64 x.kind, .string x.text, .slice xa xn xc]) rfl (by kernel_rfl) (by kernel_rfl) (by kernel_rfl) (fun _ _ _ h => h) (Or.inl ⟨by rfl, ?_⟩) (by assumption) ?_
            · clear hHeld; intro X hSw; obtain ⟨s0, ⟨s1, s2, s3, s4⟩, ⟨s5, s6, s7, s8⟩⟩ := HZ.out X hSw; clear hSw; go_simp
            simp only [Act.put, List.getElem_toArray, List.getElem_cons_zero, List.getElem_cons_succ, List.setIfInBounds_toArray, List.set_cons_zero, List.set_cons_succ]
            refine wpAnyH_ready (rs := [8, 9]) (by kernel_rfl) (by simp) ?_
            refine AllReadyH.cons (o := _) rfl (fun K hK => ?_) (AllReadyH.cons (o := _) rfl (fun K hK => ?_) AllReadyH.nil)
            · rw [if_pos (by rfl)]
              simp only [List.getElem_toArray, List.getElem_cons_zero, List.getElem_cons_succ]
              have HK := Lib.hid hK
              have HS := Lib.hid hHeld
              clear hK hHeld
              go_wp2_with (go_at_call 40; refine (HCALL.out _ HS.out).mono ?_; rintro e w4 ⟨ya, yc, rfl, hyc, hyl, hb4⟩; have H4 := Lib.hid (And.intro (HS.out.trans (hb4.mono HS.out.size)) (And.intro hyc (And.intro hyl hb4))); clear hb4 hyc hyl)
              refine HK.out _ _ H4.out.1 (fun hHeld => ?_)
              clear HK HS
              refine wpAnyH_ready (rs := [9]) (by kernel_rfl) (by simp) ?_
              refine AllReadyH.cons (o := _) rfl (fun K hK => ?_) AllReadyH.nil
              rw [if_pos (by rfl)]
              simp only [List.getElem_toArray, List.getElem_cons_zero, List.getElem_cons_succ]
              have HK := Lib.hid hK
              have HS := Lib.hid hHeld
              clear hK hHeld
              go_wp2_with fail
              obtain ⟨WA, hWA⟩ : ∃ WA, WA = (World.alloc w4 (.cells #[.int .i64 0, .int .i64 0, .string ⟨#[]⟩, .slice none 0 0] 24)) := ⟨_, rfl⟩
              rw [← hWA]
              have hza : WA.heap[w4.heap.size]? = some (.cells #[.int .i64 0, .int .i64 0, .string ⟨#[]⟩, .slice none 0 0] 24 (0, 0)) := by rw [hWA]; exact heap_alloc_new w4 _
              have hba : Below w4.heap.size w4 WA := by rw [hWA]; exact box_below _ _
              have hsa : WA.heap.size = w4.heap.size + 1 := by rw [hWA]; simp
              have HA := Lib.hid (And.intro hza (And.intro hba hsa))
              have hbw := H4.out.1.trans (hba.mono H4.out.1.size)
              refine HK.out _ _ hbw (fun hHeld => ?_)
              clear HK HS hza hba hsa hWA hbw
              refine wpAnyH_ready (rs := [10]) (by kernel_rfl) (by simp) ?_
              refine AllReadyH.cons (o := _) rfl (fun K hK => ?_) AllReadyH.nil
              rw [if_pos (by rfl)]
              simp only [List.getElem_toArray, List.getElem_cons_zero, List.getElem_cons_succ]
              have HK := Lib.hid hK
              have HS := Lib.hid hHeld
              clear hK hHeld
              have hz : WA.heap[w4.heap.size]? = some (.cells #[.int .i64 0, .int .i64 0, .string ⟨#[]⟩, .slice none 0 0] 24 (0, 0)) := HA.out.1
              obtain ⟨z0, z1, z2, z3⟩ := box4 hz
              have zf : ∀ j, WA.frozen? ⟨w4.heap.size, j, none⟩ = false := fun j => frozen_of_row _ _ j _ _ hz
              obtain ⟨V5, e5, r1, r2, r3, r4, r5, r6⟩ := four_set (u0 := .int .i64 uid) (u1 := .int .i64 ukd) (u2 := .string utx) (u3 := .slice ya um yc) hz
              have hb5 : Below wr.heap.size wr V5 := ⟨r3.trans HS.out.os, r4.trans HS.out.tape, r5.trans HS.out.output, by rw [r6]; exact HS.out.size, fun y hy => (r2 y (by have := H4.out.1.size; omega)).trans (HS.out.block y hy)⟩
              have hyl5 : FoAt V5 (fun z => wr.heap.size ≤ z ∧ z < V5.heap.size) uks ya := H4.out.2.2.1.kept fun z hz => by
                have q1 := hz.1
                have q2 := hz.2
                have q3 := HA.out.2.2
                have q6 : wr.heap.size ≤ z := hz.1
                have q4 := H4.out.1.size
                have q5 := H4.out.2.2.2.size
                exact ⟨⟨by omega, by omega⟩, (r2 z (by omega)).trans (HA.out.2.1.block z q2)⟩
              have H5 := Lib.hid (And.intro hb5 (And.intro r1 (And.intro H4.out.2.1 hyl5)))
              have HE5 := Lib.hid e5
              clear hz r1 r2 r3 r4 r5 r6 hb5 e5 hyl5
              go_wp2_with fail
              rw [← HE5.out]
              refine HK.out _ _ H5.out.1 (fun hHeld => ?_)
              clear HK HS z0 z1 z2 z3 zf
              refine wpAnyH_done (by kernel_rfl) ?_ _
              clear hHeld
              have hi2 := HI.out.below H5.out.1
              have hs2 := hi2.size
              have ho := hi2.2.2.2.2.1
              have hwV := H5.out.1.size
              have hkid : FoAt V5 (RMid W0 V5 rv) uks ya := H5.out.2.2.2.kept fun z hz => ⟨⟨by have := HTK.out.2.2.2; have := hz.1; omega, hz.2, fun e => by have := (owns_bounds HI.out.2.2.2.2.1 e).2; have := hz.1; omega⟩, rfl⟩
              have d3 : V5.cell? ⟨w.heap.size + 1 + 1 + 1, 3, none⟩ = some rv := by rw [← HB0.out.2.1, cell_of_row V5 _ 3 _ _ _ hi2.2.2.1]; rfl
              have f3 : V5.frozen? ⟨w.heap.size + 1 + 1 + 1, 3, none⟩ = false := by rw [← HB0.out.2.1]; exact frozen_of_row V5 _ 3 _ _ hi2.2.2.1
              obtain ⟨y0, y1, y2, y3⟩ := box4 H5.out.2.1
              obtain ⟨i0, z0, hi0, hz0, hz1, hz2, hz3⟩ := info_wide Try.infoN
              have hnew : (V5.alloc (.cells #[.int .i64 uid, .int .i64 ukd, .string utx, .slice ya um yc] 24)).heap[V5.heap.size]? = some (.cells #[.int .i64 uid, .int .i64 ukd, .string utx, .slice ya um yc] 24 (0, 0)) := heap_alloc_new V5 _
              have HNEW := Lib.hid hnew
              have hstep := fun w1 gg cap' h1 h2 h3 => hi2.step1 (hkc := (show foLen uks ≤ yc by rw [← HTK.out.2.1]; exact H5.out.2.2.1)) (w1 := w1) (gg := gg) (cap := cap') (kc := yc) (o2 := .cells #[.int .i64 uid, .int .i64 ukd, .string utx, .slice ya um yc] 24) hkid HTK.out.1 h1 h2 h3
              rw [← HTK.out.2.1, HB0.out.2.1] at hstep
              have HST := Lib.hid hstep
              have hB4 : W0.heap.size + 3 ≤ V5.heap.size := by omega
              rw [HB0.out.2.1] at ho hB4 hs2
              have hne : rv.ownBlock ≠ some (w.heap.size + 1 + 1 + 1) := fun e => by have := (owns_bounds ho e).1; omega
              have hlt2 : (⟨w.heap.size + 1 + 1 + 1, 3, none⟩ : Addr).block < (V5.alloc (.cells #[.int .i64 uid, .int .i64 ukd, .string utx, .slice ya um yc] 24)).heap.size := by simp; omega
              have hheap : (V5.alloc (.cells #[.int .i64 uid, .int .i64 ukd, .string utx, .slice ya um yc] 24)).heap[w.heap.size + 1 + 1 + 1]? = V5.heap[w.heap.size + 1 + 1 + 1]? := by rw [Below.heap_alloc _ _ _ (by omega)]
              have HAUX := Lib.hid (And.intro hne (And.intro hlt2 (And.intro ((World.cell?_of_block (a := ⟨w.heap.size + 1 + 1 + 1, 3, none⟩) hheap).trans d3) ((World.frozen?_of_block (a := ⟨w.heap.size + 1 + 1 + 1, 3, none⟩) hheap).trans f3))))
              have hkl6 : k + 1 ≤ 1000000 := by have := HTK.out.2.2.1; omega
              clear hi2 hkid hstep hne hlt2 hheap f3 hwV
              go_wp2_with (at_builtin; refine wpList_append_lies _ rfl (.tmp 45) (.tmp 47) _ rfl (w.heap.size + 1 + 3) 24 i0 z0 4 56 Try.underlying22 hi0 hz0 hz1 hz2 hz3 (by omega) rv k xs rfl (ho.alloc _) ⟨V5.heap.size, 0, none⟩ 1 1 [.int .i64 uid, .int .i64 ukd, .string utx, .slice ya um yc] rfl rfl (World.news_of_block (cs := #[.int .i64 uid, .int .i64 ukd, .string utx, .slice ya um yc]) (t := 24) (fr := (0, 0)) HNEW.out) (by simp [Value.oneCell']) (by omega) (by unfold maxLen; omega) (by omega) (by simp; omega) (V5.heap.size + 1) (by simp) ?_; intro gg cap' w1 hown1 hgrow hat hlt1; have c1w := (hgrow.cell_far _ HAUX.out.2.1 (Ne.symm HAUX.out.1)).trans HAUX.out.2.2.1; have f1w := (hgrow.frozen_far _ HAUX.out.2.1 (Ne.symm HAUX.out.1)).trans HAUX.out.2.2.2)
              exact ⟨⟨k + 1, by have := HTK.out.2.2.1; omega, by go_num, _, _, Lib.hid (HST.out _ _ _ hown1 hgrow hat)⟩, by have := HTK.out.2.2.1; simp [intOf]; omega⟩
            · rw [if_pos (by rfl)]
              simp only [List.getElem_toArray, List.getElem_cons_zero, List.getElem_cons_succ]
              have HK := Lib.hid hK
              have HS := Lib.hid hHeld
              clear hK hHeld
              go_wp2_with fail
              obtain ⟨WA, hWA⟩ : ∃ WA, WA = (World.alloc wr (.cells #[.int .i64 0, .int .i64 0, .string ⟨#[]⟩, .slice none 0 0] 24)).drew := ⟨_, rfl⟩
              rw [← hWA]
              have hza : WA.heap[wr.heap.size]? = some (.cells #[.int .i64 0, .int .i64 0, .string ⟨#[]⟩, .slice none 0 0] 24 (0, 0)) := by rw [hWA]; exact heap_alloc_new wr _
              have hba : Below wr.heap.size wr WA := by rw [hWA]; exact below_drewN (box_below _ _) 1
              have hsa : WA.heap.size = wr.heap.size + 1 := by rw [hWA]; simp
              have HA := Lib.hid (And.intro hza (And.intro hba hsa))
              refine HK.out _ _ hba (fun hHeld => ?_)
              clear HK HS hza hba hsa hWA
              refine wpAnyH_ready (rs := [8]) (by kernel_rfl) (by simp) ?_
              refine AllReadyH.cons (o := _) rfl (fun K hK => ?_) AllReadyH.nil
              rw [if_pos (by rfl)]
              simp only [List.getElem_toArray, List.getElem_cons_zero, List.getElem_cons_succ]
              have HK := Lib.hid hK
              have HS := Lib.hid hHeld
              clear hK hHeld
              go_wp2_with (go_at_call 40; refine (HCALL.out _ HS.out).mono ?_; rintro e w4 ⟨ya, yc, rfl, hyc, hyl, hb4⟩; have H4 := Lib.hid (And.intro (HS.out.trans (hb4.mono HS.out.size)) (And.intro hyc (And.intro hyl hb4))); have H4b := Lib.hid ((hb4.block _ (lt_of_heap HA.out.1)).trans HA.out.1); clear hb4 hyc hyl)
              refine HK.out _ _ H4.out.1 (fun hHeld => ?_)
              clear HK HS
              refine wpAnyH_ready (rs := [10]) (by kernel_rfl) (by simp) ?_
              refine AllReadyH.cons (o := _) rfl (fun K hK => ?_) AllReadyH.nil
              rw [if_pos (by rfl)]
              simp only [List.getElem_toArray, List.getElem_cons_zero, List.getElem_cons_succ]
              have HK := Lib.hid hK
              have HS := Lib.hid hHeld
              clear hK hHeld
              have hz : w4.heap[wr.heap.size]? = some (.cells #[.int .i64 0, .int .i64 0, .string ⟨#[]⟩, .slice none 0 0] 24 (0, 0)) := H4b.out
              obtain ⟨z0, z1, z2, z3⟩ := box4 hz
              have zf : ∀ j, w4.frozen? ⟨wr.heap.size, j, none⟩ = false := fun j => frozen_of_row _ _ j _ _ hz
              obtain ⟨V5, e5, r1, r2, r3, r4, r5, r6⟩ := four_set (u0 := .int .i64 uid) (u1 := .int .i64 ukd) (u2 := .string utx) (u3 := .slice ya um yc) hz
              have hb5 : Below wr.heap.size wr V5 := ⟨r3.trans HS.out.os, r4.trans HS.out.tape, r5.trans HS.out.output, by rw [r6]; exact HS.out.size, fun y hy => (r2 y (by omega)).trans (HS.out.block y hy)⟩
              have hyl5 : FoAt V5 (fun z => wr.heap.size ≤ z ∧ z < V5.heap.size) uks ya := H4.out.2.2.1.kept fun z hz => by
                have q1 := hz.1
                have q2 := hz.2
                have q3 := HA.out.2.2
                exact ⟨⟨by omega, by omega⟩, r2 z (by omega)⟩
              have H5 := Lib.hid (And.intro hb5 (And.intro r1 (And.intro H4.out.2.1 hyl5)))
              have HE5 := Lib.hid e5
              clear hz r1 r2 r3 r4 r5 r6 hb5 e5 hyl5
              go_wp2_with fail
              rw [← HE5.out]
              refine HK.out _ _ H5.out.1 (fun hHeld => ?_)
              clear HK HS z0 z1 z2 z3 zf
              refine wpAnyH_done (by kernel_rfl) ?_ _
              clear hHeld
              have hi2 := HI.out.below H5.out.1
              have hs2 := hi2.size
              have ho := hi2.2.2.2.2.1
              have hwV := H5.out.1.size
              have hkid : FoAt V5 (RMid W0 V5 rv) uks ya := H5.out.2.2.2.kept fun z hz => ⟨⟨by have := HTK.out.2.2.2; have := hz.1; omega, hz.2, fun e => by have := (owns_bounds HI.out.2.2.2.2.1 e).2; have := hz.1; omega⟩, rfl⟩
              have d3 : V5.cell? ⟨w.heap.size + 1 + 1 + 1, 3, none⟩ = some rv := by rw [← HB0.out.2.1, cell_of_row V5 _ 3 _ _ _ hi2.2.2.1]; rfl
              have f3 : V5.frozen? ⟨w.heap.size + 1 + 1 + 1, 3, none⟩ = false := by rw [← HB0.out.2.1]; exact frozen_of_row V5 _ 3 _ _ hi2.2.2.1
              obtain ⟨y0, y1, y2, y3⟩ := box4 H5.out.2.1
              obtain ⟨i0, z0, hi0, hz0, hz1, hz2, hz3⟩ := info_wide Try.infoN
              have hnew : (V5.alloc (.cells #[.int .i64 uid, .int .i64 ukd, .string utx, .slice ya um yc] 24)).heap[V5.heap.size]? = some (.cells #[.int .i64 uid, .int .i64 ukd, .string utx, .slice ya um yc] 24 (0, 0)) := heap_alloc_new V5 _
              have HNEW := Lib.hid hnew
              have hstep := fun w1 gg cap' h1 h2 h3 => hi2.step1 (hkc := (show foLen uks ≤ yc by rw [← HTK.out.2.1]; exact H5.out.2.2.1)) (w1 := w1) (gg := gg) (cap := cap') (kc := yc) (o2 := .cells #[.int .i64 uid, .int .i64 ukd, .string utx, .slice ya um yc] 24) hkid HTK.out.1 h1 h2 h3
              rw [← HTK.out.2.1, HB0.out.2.1] at hstep
              have HST := Lib.hid hstep
              have hB4 : W0.heap.size + 3 ≤ V5.heap.size := by omega
              rw [HB0.out.2.1] at ho hB4 hs2
              have hne : rv.ownBlock ≠ some (w.heap.size + 1 + 1 + 1) := fun e => by have := (owns_bounds ho e).1; omega
              have hlt2 : (⟨w.heap.size + 1 + 1 + 1, 3, none⟩ : Addr).block < (V5.alloc (.cells #[.int .i64 uid, .int .i64 ukd, .string utx, .slice ya um yc] 24)).heap.size := by simp; omega
              have hheap : (V5.alloc (.cells #[.int .i64 uid, .int .i64 ukd, .string utx, .slice ya um yc] 24)).heap[w.heap.size + 1 + 1 + 1]? = V5.heap[w.heap.size + 1 + 1 + 1]? := by rw [Below.heap_alloc _ _ _ (by omega)]
              have HAUX := Lib.hid (And.intro hne (And.intro hlt2 (And.intro ((World.cell?_of_block (a := ⟨w.heap.size + 1 + 1 + 1, 3, none⟩) hheap).trans d3) ((World.frozen?_of_block (a := ⟨w.heap.size + 1 + 1 + 1, 3, none⟩) hheap).trans f3))))
              have hkl6 : k + 1 ≤ 1000000 := by have := HTK.out.2.2.1; omega
              clear hi2 hkid hstep hne hlt2 hheap f3 hwV
              go_wp2_with (at_builtin; refine wpList_append_lies _ rfl (.tmp 45) (.tmp 47) _ rfl (w.heap.size + 1 + 3) 24 i0 z0 4 56 Try.underlying22 hi0 hz0 hz1 hz2 hz3 (by omega) rv k xs rfl (ho.alloc _) ⟨V5.heap.size, 0, none⟩ 1 1 [.int .i64 uid, .int .i64 ukd, .string utx, .slice ya um yc] rfl rfl (World.news_of_block (cs := #[.int .i64 uid, .int .i64 ukd, .string utx, .slice ya um yc]) (t := 24) (fr := (0, 0)) HNEW.out) (by simp [Value.oneCell']) (by omega) (by unfold maxLen; omega) (by omega) (by simp; omega) (V5.heap.size + 1) (by simp) ?_; intro gg cap' w1 hown1 hgrow hat hlt1; have c1w := (hgrow.cell_far _ HAUX.out.2.1 (Ne.symm HAUX.out.1)).trans HAUX.out.2.2.1; have f1w := (hgrow.frozen_far _ HAUX.out.2.1 (Ne.symm HAUX.out.1)).trans HAUX.out.2.2.2)
              exact ⟨⟨k + 1, by have := HTK.out.2.2.1; omega, by go_num, _, _, Lib.hid (HST.out _ _ _ hown1 hgrow hat)⟩, by have := HTK.out.2.2.1; simp [intOf]; omega⟩
          · have hq : ((k : Int) == (i : Int)) = false := by simp; omega
            have hcall := rcopy_any (foSize l + 1) wr S (.agg #[.int .i64 ki, .int .i64 kk, .string kt, .slice a1 (foLen l) n1]) ⟨ki, kk, kt, l⟩ (by simp only; omega) (by have := HF.out.2.2.2.1; simp only; omega) (fun y hy => by have := HF.out.2.2.1 y hy; have := HB0.out.2.1; omega) ⟨a1, n1, rfl, by rw [← hm1]; exact hcp1, hl1⟩
            rw [← hm1] at hcall
            have HC := Lib.hid hcall
            obtain ⟨bs, os, htk⟩ := take_kid (f := ks) (k := k) (u := ⟨ki, kk, kt, l⟩) (by rw [HU.out.2.2.2.2.2.2 k hlt, if_neg hki]; exact hkd)
            have HTK := Lib.hid (And.intro htk (And.intro hm1 (And.intro hlt hsW)))
            clear hcall htk hm1 hlt hsW hd1 hSb hcp1 hl1 hkd hul hsz1 e2 hxb hlow htb hk hki
            go_wp2_with fail
            refine HC.out.mono ?_
            rintro e V5 ⟨_, rfl, ⟨ka2, cap2, rfl, hcp2, hf2⟩, hb2⟩
            have H5 := Lib.hid hb2
            have hi2 := HI.out.below hb2
            have hkid := HI.out.kid hf2
            have hs2 := hi2.size
            have ho := hi2.2.2.2.2.1
            simp only at hcp2 hkid ⊢
            rw [← HTK.out.2.1] at hcp2 ⊢
            have d3 : V5.cell? ⟨w.heap.size + 1 + 1 + 1, 3, none⟩ = some rv := by rw [← HB0.out.2.1, cell_of_row V5 _ 3 _ _ _ hi2.2.2.1]; rfl
            have f3 : V5.frozen? ⟨w.heap.size + 1 + 1 + 1, 3, none⟩ = false := by rw [← HB0.out.2.1]; exact frozen_of_row V5 _ 3 _ _ hi2.2.2.1
            obtain ⟨i0, z0, hi0, hz0, hz1, hz2, hz3⟩ := info_wide Try.infoN
            have hnew : ((V5.alloc (.cells #[.int .i64 ki, .int .i64 kk, .string kt, .slice ka2 m1 cap2] 24)).alloc (.cells #[.int .i64 ki, .int .i64 kk, .string kt, .slice ka2 m1 cap2] 24)).heap[V5.heap.size + 1]? = some (.cells #[.int .i64 ki, .int .i64 kk, .string kt, .slice ka2 m1 cap2] 24 (0, 0)) := by
              have := heap_alloc_new (V5.alloc (.cells #[.int .i64 ki, .int .i64 kk, .string kt, .slice ka2 m1 cap2] 24)) (.cells #[.int .i64 ki, .int .i64 kk, .string kt, .slice ka2 m1 cap2] 24)
              simpa using this
            have HNEW := Lib.hid hnew
            have hstep := fun w1 gg cap' h1 h2 h3 => hi2.step (hkc := (show foLen l ≤ cap2 by rw [← HTK.out.2.1]; exact hcp2)) (w1 := w1) (gg := gg) (cap := cap') (kc := cap2) (o1 := .cells #[.int .i64 ki, .int .i64 kk, .string kt, .slice ka2 m1 cap2] 24) (o2 := .cells #[.int .i64 ki, .int .i64 kk, .string kt, .slice ka2 m1 cap2] 24) hkid HTK.out.1 h1 h2 h3
            rw [← HTK.out.2.1, HB0.out.2.1] at hstep
            have HST := Lib.hid hstep
            have hB4 : W0.heap.size + 3 ≤ V5.heap.size := by omega
            rw [HB0.out.2.1] at ho hB4 hs2
            have hne : rv.ownBlock ≠ some (w.heap.size + 1 + 1 + 1) := fun e => by have := (owns_bounds ho e).1; omega
            have hlt2 : (⟨w.heap.size + 1 + 1 + 1, 3, none⟩ : Addr).block < ((V5.alloc (.cells #[.int .i64 ki, .int .i64 kk, .string kt, .slice ka2 m1 cap2] 24)).alloc (.cells #[.int .i64 ki, .int .i64 kk, .string kt, .slice ka2 m1 cap2] 24)).heap.size := by simp; omega
            have hheap : ((V5.alloc (.cells #[.int .i64 ki, .int .i64 kk, .string kt, .slice ka2 m1 cap2] 24)).alloc (.cells #[.int .i64 ki, .int .i64 kk, .string kt, .slice ka2 m1 cap2] 24)).heap[w.heap.size + 1 + 1 + 1]? = V5.heap[w.heap.size + 1 + 1 + 1]? := by rw [Below.heap_alloc _ _ _ (by simp; omega), Below.heap_alloc _ _ _ (by omega)]
            have HAUX := Lib.hid (And.intro hne (And.intro hlt2 (And.intro ((World.cell?_of_block (a := ⟨w.heap.size + 1 + 1 + 1, 3, none⟩) hheap).trans d3) ((World.frozen?_of_block (a := ⟨w.heap.size + 1 + 1 + 1, 3, none⟩) hheap).trans f3))))
            have hkl6 : k + 1 ≤ 1000000 := by have := HTK.out.2.2.1; omega
            clear hi2 hkid hstep hne hlt2 hheap f3 hf2 hb2 hcp2 hnew
            go_wp2_with (at_builtin; refine wpList_append_lies _ rfl (.tmp 57) (.tmp 59) _ rfl (w.heap.size + 1 + 3) 24 i0 z0 4 56 Try.underlying22 hi0 hz0 hz1 hz2 hz3 (by omega) rv k xs rfl ((ho.alloc _).alloc _) ⟨V5.heap.size + 1, 0, none⟩ 1 1 [.int .i64 ki, .int .i64 kk, .string kt, .slice ka2 m1 cap2] rfl rfl (World.news_of_block (cs := #[.int .i64 ki, .int .i64 kk, .string kt, .slice ka2 m1 cap2]) (t := 24) (fr := (0, 0)) HNEW.out) (by simp [Value.oneCell']) (by omega) (by unfold maxLen; omega) (by omega) (by simp; omega) (V5.heap.size + 1 + 1) (by simp) ?_; intro gg cap' w1 hown1 hgrow hat hlt1; have c1w := (hgrow.cell_far _ HAUX.out.2.1 (Ne.symm HAUX.out.1)).trans HAUX.out.2.2.1; have f1w := (hgrow.frozen_far _ HAUX.out.2.1 (Ne.symm HAUX.out.1)).trans HAUX.out.2.2.2)
            exact ⟨⟨k + 1, by have := HTK.out.2.2.1; omega, by go_num, _, _, Lib.hid (HST.out _ _ _ hown1 hgrow hat)⟩, by have := HTK.out.2.2.1; simp [intOf]; omega⟩
        · have hkk : k = len := by omega
          have hi := HI.out
          obtain ⟨ra, rcap, rfl, hrc⟩ := owns_slice_cap hi.2.2.2.2.1
          have q0 : wr.cell? ⟨w.heap.size + 1 + 1 + 1, 0, none⟩ = some (.int .i64 t.id) := by rw [← HB0.out.2.1, cell_of_row wr _ 0 _ _ _ hi.2.2.1]; rfl
          have q1 : wr.cell? ⟨w.heap.size + 1 + 1 + 1, 1, none⟩ = some (.int .i64 t.kind) := by rw [← HB0.out.2.1, cell_of_row wr _ 1 _ _ _ hi.2.2.1]; rfl
          have q2 : wr.cell? ⟨w.heap.size + 1 + 1 + 1, 2, none⟩ = some (.string t.text) := by rw [← HB0.out.2.1, cell_of_row wr _ 2 _ _ _ hi.2.2.1]; rfl
          have q3 : wr.cell? ⟨w.heap.size + 1 + 1 + 1, 3, none⟩ = some (.slice ra k rcap) := by rw [← HB0.out.2.1, cell_of_row wr _ 3 _ _ _ hi.2.2.1]; rfl
          have hz := hi.2.1
          rw [HB0.out.2.1] at hz
          obtain ⟨z0, z1, z2, z3⟩ := box4 hz
          have zf : ∀ j, wr.frozen? ⟨w.heap.size + 1 + 1, j, none⟩ = false := fun j => frozen_of_row _ _ j _ _ hz
          have HLK : Hid (k = foLen ks) := show k = foLen ks by rw [hkk]; exact HU.out.2.2.2.2.2.1
          have HRC := Lib.hid (And.intro hrc hz)
          have hkl : ¬ (k : Int) < (len : Int) := by omega
          clear hkk hi hz hrc hlow htb hlt hk
          go_wp2_with fail
          have hz := rset4 HRC.out.2 (.int .i64 t.id) (.int .i64 t.kind) (.string t.text) (.slice ra k rcap)
          refine bodyPost_ret (results_cell_row rfl _ _ (w.heap.size + 1 + 1) 24 _ (0, 0) _ rfl hz.1 Try.underlying24 rfl (by kernel_rfl)) rfl ?_
          rw [HU.out.2.2.2.1, ← HU.out.2.2.2.2.1]
          have hs := HB0.out.2.1
          refine RCopyC.since HB0.out.1 (HI.out.done HLK.out HRC.out.1 (hz.2.1 _ (by omega)) (fun y hy => hz.2.2 y (by rw [hs] at hy; exact hy)))


set_option maxRecDepth 100000 in
set_option maxHeartbeats 8000000 in
theorem rputA_any (w : World) (S Sx : Nat → Prop) (nv xv : Value) (t x : Tr) (id : Int) (hS : ∀ y, S y → CellsB w y) (hSx : ∀ y, Sx y → CellsB w y) (ht : TrAt w S nv t) (hx : TrAt w Sx xv x) (hsz : foSize t.kids + foSize x.kids ≤ 400000) :
    Calls Try.prog 26 #[nv, .int .i64 id, xv] w (PutC w (putR id t x)) := by
  obtain ⟨ka, tc, rfl, hcap, hk⟩ := ht
  obtain ⟨xa, xc, rfl, hxc, hxk⟩ := hx
  obtain ⟨nk, hnk⟩ : ∃ nk, nk = foLen t.kids := ⟨_, rfl⟩
  obtain ⟨xn, hxn⟩ : ∃ xn, xn = foLen x.kids := ⟨_, rfl⟩
  rw [← hnk, ← hxn]
  obtain ⟨B, hB⟩ : ∃ B, B = allocs w [.cells #[.int .i64 t.id, .int .i64 t.kind, .string t.text, .slice ka nk tc] 24, .cells #[.int .i64 x.id, .int .i64 x.kind, .string x.text, .slice xa xn xc] 24, .cells #[.int .i64 0, .int .i64 0, .string ⟨#[]⟩, .slice none 0 0] 24] := ⟨_, rfl⟩
  have hb : Below w.heap.size w B := by rw [hB]; exact allocs_below _ _
  have hs : B.heap.size = w.heap.size + 3 := by rw [hB]; exact allocs_size _ _
  have ht0 : B.heap[w.heap.size]? = some (.cells #[.int .i64 t.id, .int .i64 t.kind, .string t.text, .slice ka nk tc] 24 (0, 0)) := by rw [hB]; exact allocs_at _ _ 0 _ rfl
  have hx0 : B.heap[w.heap.size + 1]? = some (.cells #[.int .i64 x.id, .int .i64 x.kind, .string x.text, .slice xa xn xc] 24 (0, 0)) := by rw [hB]; exact allocs_at _ _ 1 _ rfl
  have hr0 : B.heap[w.heap.size + 2]? = some (.cells #[.int .i64 0, .int .i64 0, .string ⟨#[]⟩, .slice none 0 0] 24 (0, 0)) := by rw [hB]; exact allocs_at _ _ 2 _ rfl
  have hSl : ∀ y, S y → y < w.heap.size := fun y hy => (hS y hy).lt
  have hSxl : ∀ y, Sx y → y < w.heap.size := fun y hy => (hSx y hy).lt
  have hpath := rpath_any 500000 B S (.agg #[.int .i64 t.id, .int .i64 t.kind, .string t.text, .slice ka (foLen t.kids) tc]) t id (by omega) (by omega) (fun y hy => by have := hSl y hy; omega) ⟨ka, tc, rfl, hcap, hk.below hb hSl⟩
  rw [← hnk] at hpath
  obtain ⟨pr, hpr⟩ : ∃ pr, pr = putR id t x := ⟨_, rfl⟩
  have HP := Lib.hid (And.intro hpath (And.intro hb (And.intro hs (And.intro ht0 (And.intro hx0 hr0)))))
  have HT := Lib.hid (And.intro hSl (And.intro hSxl (And.intro (hk) (And.intro hcap (And.intro hxk hxc)))))
  have HZ := Lib.hid (And.intro hsz (And.intro hnk hxn))
  have HBE := Lib.hid hB
  have HPR := Lib.hid hpr
  rw [← hpr]
  clear hpath hb hs ht0 hx0 hr0 hSl hSxl hk hcap hxk hxc hsz hnk hxn hB hpr hS hSx
  -- the end: what lies in the result's cell
  have hend : ∀ (y : Tr) (kb : Option Addr) (kc m : Nat) (wr : World), Below w.heap.size w wr → wr.heap[w.heap.size + 2]? = some (.cells #[.int .i64 0, .int .i64 0, .string ⟨#[]⟩, .slice none 0 0] 24 (0, 0)) → m = foLen y.kids → foLen y.kids ≤ kc → FoAt wr (fun z => z < wr.heap.size ∧ z ≠ w.heap.size + 2) y.kids kb → pr.1 = y → ∀ tmps : Array Value, tmps.getD 6 undef = .pointer (some ⟨w.heap.size + 2, 0, none⟩) → tmps.getD 7 undef = .int .i64 pr.2 →
      bodyPost Try.prog Try.f26 (PutC w pr) .ret { tmps, defers := [] } ((((wr.setCell ⟨w.heap.size + 2, 0, none⟩ (.int .i64 y.id)).setCell ⟨w.heap.size + 2, 1, none⟩ (.int .i64 y.kind)).setCell ⟨w.heap.size + 2, 2, none⟩ (.string y.text)).setCell ⟨w.heap.size + 2, 3, none⟩ (.slice kb m kc)) := by
    intro y kb kc m wr hB hwr hm hc hf hy tmps t4 t5
    subst hm
    obtain ⟨V5, e5, r1, r2, r3, r4, r5, r6⟩ := four_set (u0 := .int .i64 y.id) (u1 := .int .i64 y.kind) (u2 := .string y.text) (u3 := .slice kb (foLen y.kids) kc) hwr
    rw [← e5]
    refine bodyPost_ret (results_cellT rfl tmps V5 (w.heap.size + 2) 24 _ _ _ (.int .i64 pr.2) t4 r1 Try.underlying24 rfl (by kernel_rfl) t5) rfl ?_
    refine ⟨_, rfl, ?_, r3.trans hB.os, r4.trans hB.tape, r5.trans hB.output, by rw [r6]; exact hB.size, fun k hk => (r2 k (by omega)).trans (hB.block k hk)⟩
    rw [hy]
    exact ⟨kb, kc, rfl, hc, hf.kept fun z hz => ⟨by rw [r6]; exact hz.1, r2 z hz.2⟩⟩
  have HEND := Lib.hid hend
  clear hend
  go_enter Try.func26, Try.ntmps26
  go_wp2_with fail
  change Calls _ _ _ (allocs w [.cells #[.int .i64 t.id, .int .i64 t.kind, .string t.text, .slice ka nk tc] 24, .cells #[.int .i64 x.id, .int .i64 x.kind, .string x.text, .slice xa xn xc] 24, .cells #[.int .i64 0, .int .i64 0, .string ⟨#[]⟩, .slice none 0 0] 24]) _
  rw [← HBE.out]
  refine HP.out.1.mono ?_
  rintro e W ⟨pv, rfl, hown, hbW⟩
  have hbz : Below w.heap.size w W := HP.out.2.1.trans (hbW.mono HP.out.2.1.size)
  have hr3 := (hbW.block _ (lt_of_heap HP.out.2.2.2.2.2)).trans HP.out.2.2.2.2.2
  cases hpt : pathT id t with
  | none =>
    have hE : pr = (zeroT, 4) := by rw [HPR.out, putR, hpt]
    obtain ⟨z0, z1, z2, z3⟩ := box4 hr3
    have zf : ∀ j, W.frozen? ⟨w.heap.size + 2, j, none⟩ = false := fun j => frozen_of_row _ _ j _ _ hr3
    have HE := Lib.hid (And.intro hE (And.intro hbz hr3))
    clear hown hbW hbz hr3 hpt hE
    simp only [Option.isSome_none]
    go_wp2_with fail
    exact HEND.out zeroT none 0 0 W HE.out.2.1 HE.out.2.2 rfl (Nat.le_refl _) True.intro (by rw [HE.out.1]) _ rfl (by rw [HE.out.1]; rfl)
  | some p =>
    rw [hpt] at hown
    simp only [Option.getD_some] at hown
    obtain ⟨pa, pc, rfl⟩ := owns_slice hown
    obtain ⟨uu, huu, _⟩ := pathT_at id t p hpt
    have hE : pr = (putP t p x, 0) := by rw [HPR.out, putR, hpt]
    have hpl := path_le id t p hpt
    have hsB := HP.out.2.2.1
    have hWs := hbW.size
    have htW := (hbW.block _ (lt_of_heap HP.out.2.2.2.1)).trans HP.out.2.2.2.1
    have hxW := (hbW.block _ (lt_of_heap HP.out.2.2.2.2.1)).trans HP.out.2.2.2.2.1
    obtain ⟨hSl, hSxl, hk, hcap, hxk, hxc⟩ := HT.out
    have hil := (intsL_own (l := natI p) hown).1
    have hput := rput_any (p.length + 1) W S Sx _ (.agg #[.int .i64 t.id, .int .i64 t.kind, .string t.text, .slice ka (foLen t.kids) tc]) (.agg #[.int .i64 x.id, .int .i64 x.kind, .string x.text, .slice xa (foLen x.kids) xc]) t x uu pa p.length pc p (Nat.lt_succ_self _) rfl (by have := HZ.out.1; omega) (by have := HZ.out.1; omega) (by have := HZ.out.1; omega) (fun y hy => by have := hSl y hy; omega) (fun y hy => by have := hSxl y hy; omega) (fun y hy => hy.2) ⟨ka, tc, rfl, hcap, hk.below hbz hSl⟩ ⟨xa, xc, rfl, hxc, hxk.below hbz hSxl⟩ hil huu
    rw [← HZ.out.2.1, ← HZ.out.2.2] at hput
    obtain ⟨m, hm⟩ : ∃ m, m = (natI p).length := ⟨_, rfl⟩
    have hm2 : p.length = m := by rw [hm, natI_length]
    rw [hm2] at hput
    rw [← hm] 
    have HPUT := Lib.hid hput
    have HE := Lib.hid (And.intro hE (And.intro hbz (And.intro hr3 (And.intro hWs hsB))))
    obtain ⟨c0, c1, c2, c3⟩ := box4 htW
    obtain ⟨x0, x1, x2, x3⟩ := box4 hxW
    clear hown hbW hbz hr3 hpt hE huu hpl hsB hWs htW hxW hSl hSxl hk hcap hxk hxc hput hm hm2 hil
    simp only [Option.isSome_some]
    go_wp2_with fail
    refine HPUT.out.mono ?_
    rintro e w3 ⟨v, rfl, ⟨ya, yc, rfl, hyc, hyk⟩, hb3⟩
    obtain ⟨y, hy⟩ : ∃ y, y = putP t p x := ⟨_, rfl⟩
    rw [← hy] at hyc hyk ⊢
    obtain ⟨ym, hym⟩ : ∃ ym, ym = foLen y.kids := ⟨_, rfl⟩
    rw [← hym] at hyc ⊢
    have hr4 := (hb3.block _ (lt_of_heap HE.out.2.2.1)).trans HE.out.2.2.1
    obtain ⟨z0, z1, z2, z3⟩ := box4 hr4
    have zf : ∀ j, w3.frozen? ⟨w.heap.size + 2, j, none⟩ = false := fun j => frozen_of_row _ _ j _ _ hr4
    have HY := Lib.hid (And.intro hym (And.intro hyc (And.intro hyk (And.intro hr4 (And.intro (HE.out.2.1.trans (hb3.mono HE.out.2.1.size)) hy)))))
    clear hym hyc hyk hr4 hb3 hy c0 c1 c2 c3 x0 x1 x2 x3
    go_wp2_with fail
    refine HEND.out y ya yc ym w3 HY.out.2.2.2.2.1 HY.out.2.2.2.1 HY.out.1 (by rw [← HY.out.1]; exact HY.out.2.1) (HY.out.2.2.1.kept fun z hz => ⟨⟨hz.2, ?_⟩, rfl⟩) (by rw [HE.out.1]; exact HY.out.2.2.2.2.2.symm) _ rfl (by rw [HE.out.1]; rfl)
    have h1 := hz.1
    have h2 := HE.out.2.2.2.1
    have h3 := HE.out.2.2.2.2
    omega
end Go.Proofs.Ytjppibomjnmjpaa
