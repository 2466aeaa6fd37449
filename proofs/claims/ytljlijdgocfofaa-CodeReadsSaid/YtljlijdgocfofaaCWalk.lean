/-
  What the document's walk over a tree tells, up to 251 nodes: their texts and depths. No condition but that no row of kids is longer than a slice may be.
-/
import Derived.Test.YtljlijdgocfofaaCAddNode
namespace Go.Proofs.Ytljlijdgocfofaa
open Go.RowKit

theorem Try.infoSp : (Try.prog.info? 58).map (fun i => (i.size, i.bytes, i.zero.map (fun z => z.cells.size))) = some (5, 64, some 5) := by kernel_rfl

/-- The nodes of a tree, in the order of the walk: text and depth. -/
def spF (d : Int) : Fo → List (ByteArray × Int)
  | .nil => []
  | .node _ _ k l r => (k.2.2, d) :: (spF (d + 1) l ++ spF d r)
def spT (d : Int) (t : Tr) : List (ByteArray × Int) := (t.text, d) :: spF (d + 1) t.kids
theorem spF_snoc (d : Int) : ∀ (f : Fo) (b o : Nat) (k : Int × Int × ByteArray) (l : Fo), spF d (foSnoc f b o k l) = spF d f ++ ((k.2.2, d) :: spF (d + 1) l)
  | .nil, _, _, _, _ => by simp [foSnoc, spF]
  | .node _ _ _ l' r, b, o, k, l => by simp [foSnoc, spF, spF_snoc d r b o k l, List.append_assoc]
theorem spF_length : ∀ (f : Fo) (d : Int), (spF d f).length = foSize f
  | .nil, _ => rfl
  | .node _ _ _ l r, d => by simp [spF, foSize, spF_length l, spF_length r]
/-- A row of spots of length n. -/
def Spots (w : World) (B : Nat) (rv : Value) (n : Nat) (T : List (ByteArray × Int)) : Prop := T.length = n ∧ ∃ xs, w.ownsRow B 58 5 rv n xs ∧ ∀ i p, T[i]? = some p → xs[i * 5 + 2]? = some (.string p.1) ∧ xs[i * 5 + 4]? = some (.int .i64 p.2)
/-- From w to w' the row alone may have been written, and grown into new memory. -/
def Grew (w w' : World) (rv rv' : Value) : Prop := w.grownBy w' rv.ownBlock ∧ (rv'.ownBlock = rv.ownBlock ∨ ∀ g, rv'.ownBlock = some g → w.heap.size < g)
def WalkC (w : World) (B : Nat) (rv : Value) (n : Nat) (T : List (ByteArray × Int)) (d : Int) (t : Tr) (e : Ending) (w' : World) : Prop :=
  ∃ rv' n' T', e = .returned rv' ∧ Spots w' B rv' n' T' ∧ Grew w w' rv rv' ∧ (251 ≤ n' ∨ T' = T ++ spT d t) ∧ n' ≤ 251 ∧ n ≤ n'
theorem Spots.bounds {w : World} {B : Nat} {rv : Value} {n : Nat} {T : List (ByteArray × Int)} (h : Spots w B rv n T) {g : Nat} (hg : rv.ownBlock = some g) : B ≤ g ∧ g < w.heap.size := by
  obtain ⟨_, xs, ho, _⟩ := h
  exact owns_bounds ho hg
theorem Grew.refl (w : World) (rv : Value) : Grew w w rv rv := ⟨⟨rfl, rfl, rfl, Nat.le_refl _, fun _ _ _ => rfl⟩, Or.inl rfl⟩

theorem Grew.low {w wr : World} {B n : Nat} {rv l : Value} {T : List (ByteArray × Int)} (h : Grew w wr rv l) (hs : Spots w B rv n T) (hB : B ≤ w.heap.size) : ∀ k, k < B → wr.heap[k]? = w.heap[k]? := fun k hk =>
  h.1.block k (by omega) (fun e => by have := (hs.bounds e.symm).1; omega)
theorem Grew.trans {w wr w2 : World} {rv l l2 : Value} (h : Grew w wr rv l) (h2 : Grew wr w2 l l2) : Grew w w2 rv l2 := by
  have hs := h.1.size
  refine ⟨⟨h2.1.os.trans h.1.os, h2.1.tape.trans h.1.tape, h2.1.output.trans h.1.output, Nat.le_trans hs h2.1.size, fun k hk hn => ?_⟩, ?_⟩
  · rw [h2.1.block k (by omega) (fun e => ?_), h.1.block k hk hn]
    rcases h.2 with h' | h'
    · exact hn (e.trans h')
    · have := h' k e.symm; omega
  · rcases h2.2 with h' | h'
    · rw [h']; exact h.2
    · exact Or.inr fun g hg => by have := h' g hg; omega
theorem Grew.box {w : World} {o : Obj} (rv : Value) : Grew w (w.alloc o) rv rv := ⟨⟨rfl, rfl, rfl, by simp, fun k hk _ => Below.heap_alloc w o k hk⟩, Or.inl rfl⟩
theorem Grew.first {w w1 : World} {o1 o2 : Obj} {rv : Value} {gg len cap : Nat} (h : ((w.alloc o1).alloc o2).grownBy w1 rv.ownBlock) (hat : rv.ownBlock = some gg ∨ gg = w.heap.size + 1 + 1) : Grew w w1 rv (.slice (some ⟨gg, 0, none⟩) len cap) :=
  ⟨⟨h.os, h.tape, h.output, by have := h.size; simp at this; omega, fun k hk hn => by rw [h.block k (by simp; omega) hn, Below.heap_alloc _ _ _ (by simp; omega), Below.heap_alloc _ _ _ hk]⟩,
   hat.elim (fun e => Or.inl (by rw [e]; rfl)) (fun e => Or.inr fun g hg => by simp only [Value.ownBlock, Option.some.injEq] at hg; omega)⟩
theorem Spots.box {w : World} {B : Nat} {rv : Value} {n : Nat} {T : List (ByteArray × Int)} (h : Spots w B rv n T) (o : Obj) : Spots (w.alloc o) B rv n T := by
  obtain ⟨hT, xs, ho, hx⟩ := h
  exact ⟨hT, xs, ho.alloc o, hx⟩
theorem spots_snoc {xs : List Value} {n : Nat} {T : List (ByteArray × Int)} {a b e : Value} {tx : ByteArray} {d : Int} (hl : xs.length = n * 5) (hT : T.length = n) (hx : ∀ i p, T[i]? = some p → xs[i * 5 + 2]? = some (.string p.1) ∧ xs[i * 5 + 4]? = some (.int .i64 p.2)) : ∀ i p, (T ++ [(tx, d)])[i]? = some p → (xs ++ [a, b, .string tx, e, .int .i64 d])[i * 5 + 2]? = some (.string p.1) ∧ (xs ++ [a, b, .string tx, e, .int .i64 d])[i * 5 + 4]? = some (.int .i64 p.2) := fun i p hi => by
  by_cases h : i < n
  · rw [List.getElem?_append_left (by omega)] at hi
    have h' := hx i p hi
    rw [List.getElem?_append_left (by omega), List.getElem?_append_left (by omega)]; exact h'
  · have hil := (List.getElem?_eq_some_iff.1 hi).1
    have : i = n := by simp at hil; omega
    subst this
    rw [List.getElem?_append_right (by omega), hT, Nat.sub_self] at hi
    simp at hi
    subst hi
    rw [List.getElem?_append_right (by omega), List.getElem?_append_right (by omega), hl]; simp

/-- What holds at the head of each round. -/
def WalkRound (w : World) (B : Nat) (rv : Value) (n : Nat) (T : List (ByteArray × Int)) (tx : ByteArray) (d : Int) (c1 : Array Value) (ks : Fo) (len : Nat) (l i : Value) (wr : World) : Prop :=
  ∃ k nk Tk, k ≤ len ∧ i = .int .i64 k ∧ Spots wr B l nk Tk ∧ Grew w wr rv l ∧ (251 ≤ nk ∨ Tk = T ++ ((tx, d) :: spF (d + 1) (foTake k ks))) ∧ nk ≤ 251 ∧ n + 1 ≤ nk ∧ wr.heap[w.heap.size]? = some (.cells c1 25 (0, 0))

set_option maxRecDepth 100000 in
set_option maxHeartbeats 1000000 in
theorem walk_any : ∀ (m : Nat) (w : World) (S : Nat → Prop) (v : Value) (t : Tr) (B : Nat) (rv : Value) (n : Nat) (T : List (ByteArray × Int)) (d : Int), foSize t.kids < m → foLen t.kids ≤ 9223372036854775807 → foFit t.kids → (∀ k, S k → k < B) → B ≤ w.heap.size → TrAt w S v t →
    Spots w B rv n T → n ≤ 251 → 0 ≤ d → d ≤ (n : Int) + 1 →
    Calls Try.prog 58 #[rv, v, .int .i64 d, .int .i64 251] w (WalkC w B rv n T d t) := by
  intro m
  induction m with
  | zero => intro w S v t B rv n T d h; omega
  | succ m ih =>
    intro w S v t B rv n T d hm hlen2 hfit hS hB hv hrow hn hd0 hd1
    obtain ⟨ka, cap, rfl, _, hk⟩ := hv
    obtain ⟨id, kd, tx, ks⟩ := t
    simp only at hk hm hlen2 hfit
    simp only
    obtain ⟨hT, xs, ho, hxs⟩ := hrow
    obtain ⟨ra, rcap, rfl⟩ := owns_slice ho
    obtain ⟨len, hlen⟩ : ∃ len, len = foLen ks := ⟨_, rfl⟩
    rw [← hlen]
    rw [← hlen] at hlen2
    have HN := Lib.hid (And.intro hm hfit)
    have HLEN := Lib.hid hlen
    have HK := Lib.hid hk
    have HSS := Lib.hid (And.intro hS hB)
    have HIH := Lib.hid ih
    have HO := Lib.hid (And.intro ho hxs)
    have HT := Lib.hid hT
    clear hlen hk hm hfit hS hB ih ho hxs hT
    by_cases hfull : 251 ≤ n
    · have hn2 : n = 251 := by omega
      subst hn2
      go_enter Try.func58, Try.ntmps58
      go_wp2_with fail
      go_ret
      exact ⟨_, 251, T, rfl, (show Spots w B _ 251 T from ⟨HT.out, xs, HO.out⟩).box _, Grew.box _, Or.inl hfull, by omega, by omega⟩
    · have hnn : ¬ (251 : Int) ≤ (n : Int) := by omega
      go_enter Try.func58, Try.ntmps58
      obtain ⟨i0, z0, hi0, hz0, hz1, hz2, hz3⟩ := info_wide Try.infoSp
      have hnew : ((w.alloc (.cells #[.int .i64 id, .int .i64 kd, .string tx, .slice ka len cap] 25)).alloc (.cells #[.int .i64 id, .int .i64 kd, .string tx, .slice ka len cap, .int .i64 d] 58)).heap[w.heap.size + 1]? = some (.cells #[.int .i64 id, .int .i64 kd, .string tx, .slice ka len cap, .int .i64 d] 58 (0, 0)) := heap_alloc2_new w _ _
      have HNEW := Lib.hid hnew
      have hBw : B ≤ w.heap.size := HSS.out.2
      clear hnew
      go_wp2_with (at_builtin; refine wpList_append_lies _ rfl (.tmp 15) (.tmp 19) _ rfl B 58 i0 z0 5 64 Try.underlying55 hi0 hz0 hz1 hz2 hz3 (by omega) (.slice ra n rcap) n xs rfl ((HO.out.1.alloc _).alloc _) ⟨w.heap.size + 1, 0, none⟩ 1 1 [.int .i64 id, .int .i64 kd, .string tx, .slice ka len cap, .int .i64 d] rfl rfl (World.news_of_block (cs := #[.int .i64 id, .int .i64 kd, .string tx, .slice ka len cap, .int .i64 d]) (t := 58) (fr := (0, 0)) HNEW.out) (by simp [Value.oneCell']) (by omega) (by unfold maxLen; omega) (by omega) (by simp; omega) (w.heap.size + 1 + 1) (by simp) ?_; intro gg cap' w1 hown1 hgrow hat hlt1)
      have hg1 : Grew w w1 (.slice ra n rcap) (.slice (some ⟨gg, 0, none⟩) (n + 1) cap') := Grew.first hgrow hat
      have hsp1 : Spots w1 B (.slice (some ⟨gg, 0, none⟩) (n + 1) cap') (n + 1) (T ++ [(tx, d)]) := ⟨by rw [List.length_append, HT.out]; rfl, _, hown1, spots_snoc HO.out.1.1 HT.out HO.out.2⟩
      have hob : ∀ g, (Value.slice ra n rcap).ownBlock = some g → g < w.heap.size := fun g hg => (owns_bounds HO.out.1 hg).2
      have hbox : w1.heap[w.heap.size]? = some (.cells #[.int .i64 id, .int .i64 kd, .string tx, .slice ka len cap] 25 (0, 0)) := by
        rw [hgrow.block _ (by simp; omega) (fun e => by have := hob _ e.symm; omega)]; exact heap_alloc2_old w _ _
      have HG := Lib.hid (And.intro hg1 (And.intro hsp1 (And.intro hob hbox)))
      clear hg1 hsp1 hob hbox hgrow hown1 hat
      go_loopw [0, 9] (fun l i wr => WalkRound w B (.slice ra n rcap) n T tx d #[.int .i64 id, .int .i64 kd, .string tx, .slice ka len cap] ks len l i wr) (fun _ i _ => len - (intOf i).toNat)
      case atStart => exact ⟨0, n + 1, T ++ [(tx, d)], Nat.zero_le _, rfl, HG.out.2.1, HG.out.1, Or.inr (by simp [foTake, spF]), by omega, Nat.le_refl _, HG.out.2.2.2⟩
      case round =>
        obtain ⟨k, nk, Tk, hk, rfl, hsp, hgr, hnk, hnk2, hnk3, hbx⟩ := hrel
        have p1 : wr.cell? ⟨w.heap.size, 3, none⟩ = some (.slice ka len cap) := by rw [cell_of_row wr _ 3 _ _ _ hbx]; rfl
        have HR := Lib.hid (And.intro hsp (And.intro hgr (And.intro hnk hbx)))
        clear hsp hgr hnk hbx
        by_cases hlt : k < len
        · have hlow := HR.out.2.1.low ⟨HT.out, xs, HO.out⟩ hBw
          have hk1 : FoAt wr S ks ka := HK.out.kept fun x hx => ⟨hx, hlow x (HSS.out.1 x hx)⟩
          obtain ⟨b0, o0, ⟨ki, kk, kt⟩, l', r, hd1', b, off, a1, n1, rfl, hSb, c0, c1, c2, c3, hcp, hl1⟩ := hk1.at k (by rw [← HLEN.out]; exact hlt)
          obtain ⟨_, _, _, _, _, e1, e2, hsz1, htk⟩ := foDrop_node k ks (by rw [← HLEN.out]; exact hlt)
          rw [hd1'] at e1; cases e1
          have hft := foFit_drop k HN.out.2 hd1'
          have hcall := HIH.out wr S (.agg #[.int .i64 ki, .int .i64 kk, .string kt, .slice a1 (foLen l') n1]) ⟨ki, kk, kt, l'⟩ B u0 nk Tk (d + 1) (by have := HN.out.1; simp only; omega) hft.1 hft.2 HSS.out.1 (Nat.le_trans hBw HR.out.2.1.1.size) ⟨a1, n1, rfl, hcp, hl1⟩ HR.out.1 hnk2 (by omega) (by omega)
          obtain ⟨m1, hm1⟩ : ∃ m, m = foLen l' := ⟨_, rfl⟩
          rw [← hm1] at hcall c3
          simp only at c0 c1 c2
          have HC := Lib.hid hcall
          have htk2 : spF (d + 1) (foTake (k + 1) ks) = spF (d + 1) (foTake k ks) ++ ((kt, d + 1) :: spF (d + 1 + 1) l') := by rw [htk, spF_snoc]
          have HTK := Lib.hid htk2
          have hkl : (k : Int) < (len : Int) := by omega
          clear hk1 hlow hd1' hcall hm1 htk htk2 hl1 hsz1 hSb e2 hft hcp
          go_wp2_with fail
          refine HC.out.mono ?_
          rintro e w2 ⟨l2, n2, T2, rfl, hsp2, hg2, hn2, hn22, hn23⟩
          have HE := Lib.hid (And.intro hsp2 (And.intro hg2 hn2))
          clear hsp2 hg2 hn2
          go_wp2_with fail
          have hne : some w.heap.size ≠ u0.ownBlock := fun e => by
            rcases HR.out.2.1.2 with h | h
            · have := HG.out.2.2.1 _ (h.symm.trans e.symm); omega
            · have := h _ e.symm; omega
          exact ⟨⟨k + 1, n2, T2, by omega, by go_num, HE.out.1, HR.out.2.1.trans HE.out.2.1, by
            have h1 := HR.out.2.2.1
            have h2 : 251 ≤ n2 ∨ T2 = Tk ++ spT (d + 1) ⟨ki, kk, kt, l'⟩ := HE.out.2.2
            rcases h2 with h2 | h2
            · exact Or.inl h2
            · rcases h1 with h1 | h1
              · left; omega
              · right
                rw [h2, h1, HTK.out]; simp [spT, List.append_assoc], hn22, by omega, (HE.out.2.1.1.block _ (lt_of_some HR.out.2.2.2) hne).trans HR.out.2.2.2⟩, by simp [intOf]; omega⟩
        · have hkk : k = len := by omega
          have HKK := Lib.hid hkk
          clear hkk
          go_wp2_with fail
          go_ret
          exact ⟨_, nk, Tk, rfl, HR.out.1, HR.out.2.1, by
            rcases HR.out.2.2.1 with h | h
            · exact Or.inl h
            · right
              rw [foTake_all k ks (by rw [HKK.out, HLEN.out]; exact Nat.le_refl _)] at h
              exact h, hnk2, by omega⟩

end Go.Proofs.Ytljlijdgocfofaa
