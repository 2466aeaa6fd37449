/-
  Walk, and what it hands back: a copy of each node. No condition but that there are at most 5000 nodes.
  What 'Great' answers of a tree that lies in memory: where it answers false the tree has at most 2000 nodes. No condition but that no row of kids is longer than a slice may be.
-/
import Derived.Test.YteccnekdmehloaaDoorECopyW
import Derived.Deep.AppendLies
namespace Go.Proofs.YteccnekdmehloaaDoor
open Go.RowKit Go.Shelf
attribute [local go_sem] Oper.semAt_some
set_option linter.unusedVariables false

/-- Walk answers a function that bears a tree of its own. -/
def WalkAt (W : World) (SS : Nat → Prop) (t : Tr) (HB BB : Nat) : Prop := W.heap[BB]? = some (.cells #[.bool false] 4 (0, 0)) ∧ ∃ ka kc, W.heap[HB]? = some (.cells #[.int .i64 t.id, .int .i64 t.kind, .string t.text, .slice ka (foLen t.kids) kc] 25 (0, 0)) ∧ foLen t.kids ≤ kc ∧ FoAt W SS t.kids ka
def WalkC (w : World) (S : Nat → Prop) (t : Tr) (e : Ending) (w' : World) : Prop := ∃ HB BB, e = .returned (.func (.func 41) #[] #[.pointer (some ⟨HB, 0, none⟩), .pointer (some ⟨BB, 0, none⟩)]) ∧ Below w.heap.size w w' ∧ w.heap.size ≤ HB ∧ w.heap.size ≤ BB ∧ WalkAt w' (fun x => CellsB w' x ∧ (S x ∨ w.heap.size ≤ x)) t HB BB
theorem walk_end {w w0 w1 w2 : World} {S : Nat → Prop} {t : Tr} {kb : Option Addr} {kc m : Nat} (h0 : Below w.heap.size w w0) (h1 : Below w0.heap.size w0 w1) (h2 : Below (w1.alloc (.cells #[.int .i64 t.id, .int .i64 t.kind, .string t.text, .slice kb m kc] 25)).heap.size (w1.alloc (.cells #[.int .i64 t.id, .int .i64 t.kind, .string t.text, .slice kb m kc] 25)) w2)
    (hk : FoAt w1 (fun x => CellsB w1 x ∧ (S x ∨ w0.heap.size ≤ x)) t.kids kb) (hc : foLen t.kids ≤ kc) (hm : m = foLen t.kids) (hS : ∀ x, S x → CellsB w x) :
    WalkC w S t (.returned (.func (.func 41) #[] #[.pointer (some ⟨w1.heap.size, 0, none⟩), .pointer (some ⟨w2.heap.size, 0, none⟩)])) (w2.alloc (.cells #[.bool false] 4)) := by
  subst hm
  have s0 := h0.size
  have s1 := h1.size
  have s2 := h2.size
  rw [World.size_alloc] at s2
  have hb : ∀ x, x < w1.heap.size → (w2.alloc (.cells #[.bool false] 4)).heap[x]? = w1.heap[x]? := fun x hx => by
    rw [Below.heap_alloc _ _ _ (by omega), h2.block x (by simp; omega), Below.heap_alloc _ _ _ hx]
  refine ⟨w1.heap.size, w2.heap.size, rfl, (h0.trans (h1.mono s0)).trans ⟨h2.os, h2.tape, h2.output, by rw [World.size_alloc]; omega, fun x hx => hb x (by omega)⟩, by omega, by omega, heap_alloc_new w2 _, kb, kc, ?_, hc, hk.kept fun x hx => ?_⟩
  · rw [Below.heap_alloc _ _ _ (by omega), h2.block _ (by simp)]; exact heap_alloc_new w1 _
  · obtain ⟨⟨cs, ty, fr, hcx⟩, hs⟩ := hx
    have := lt_of_heap hcx
    exact ⟨⟨⟨cs, ty, fr, (hb x this).trans hcx⟩, hs.imp id (fun h => by omega)⟩, hb x this⟩
set_option maxRecDepth 100000 in
set_option maxHeartbeats 2000000 in
theorem walk_any (w : World) (S : Nat → Prop) (nv : Value) (t : Tr) (hS : ∀ x, S x → CellsB w x) (ht : TrAt w S nv t) (hsz : foSize t.kids + 1 ≤ 5000) : Calls Tryd.prog 18 #[nv] w (WalkC w S t) := by
  have ht0 := ht
  obtain ⟨ka, cap, rfl, hcap, hk⟩ := ht
  obtain ⟨n, hn⟩ : ∃ n, n = foLen t.kids := ⟨_, rfl⟩
  rw [← hn] at ht0 ⊢
  have hmf : ∀ (fn : Fn) (first cap : Array Value) (w : World), (Instr.makeFunc fn first cap).run Tryd.prog w = .ok (.func fn first cap) w := fun _ _ _ _ => rfl
  have hb1 : Below w.heap.size w (w.alloc (.cells #[.int .i64 t.id, .int .i64 t.kind, .string t.text, .slice ka n cap] 25)) := (Below.refl _ _).alloc (Nat.le_refl _) _
  have hc1 := copy_any (w.alloc (.cells #[.int .i64 t.id, .int .i64 t.kind, .string t.text, .slice ka n cap] 25)) S _ t (fun x hx => by
    obtain ⟨cs, ty, fr, hc⟩ := hS x hx
    exact ⟨cs, ty, fr, (hb1.block x (lt_of_heap hc)).trans hc⟩) (ht0.kept fun x hx => ⟨hx, hb1.block x (hS x hx).lt⟩) (by omega)
  have HC := Lib.hid (And.intro hc1 (And.intro hb1 (And.intro hsz hS)))
  clear hc1 hb1 ht0 hk hcap hn hS
  go_enter Tryd.func18, Tryd.ntmps18
  go_wp2_with fail
  refine HC.out.1.mono ?_
  rintro e w1 ⟨v, rfl, ⟨kb, kc, rfl, hkc, hkb⟩, hbw⟩
  obtain ⟨m, hm⟩ : ∃ m, m = foLen t.kids := ⟨_, rfl⟩
  rw [← hm]
  have hb2 : Below w1.heap.size w1 (w1.alloc (.cells #[.int .i64 t.id, .int .i64 t.kind, .string t.text, .slice kb m kc] 25)) := (Below.refl _ _).alloc (Nat.le_refl _) _
  have hlt : ∀ x, (CellsB w1 x ∧ (S x ∨ (w.alloc (.cells #[.int .i64 t.id, .int .i64 t.kind, .string t.text, .slice ka n cap] 25)).heap.size ≤ x)) → x < w1.heap.size := fun x hx => hx.1.lt
  have htold := told_any (w1.alloc (.cells #[.int .i64 t.id, .int .i64 t.kind, .string t.text, .slice kb m kc] 25)) (fun x => CellsB w1 x ∧ (S x ∨ (w.alloc (.cells #[.int .i64 t.id, .int .i64 t.kind, .string t.text, .slice ka n cap] 25)).heap.size ≤ x)) (.agg #[.int .i64 t.id, .int .i64 t.kind, .string t.text, .slice kb m kc]) t (fun x hx => by have := hlt x hx; simp; omega) ⟨kb, kc, by rw [hm], hkc, hkb.kept fun x hx => ⟨hx, hb2.block x (hlt x hx)⟩⟩ (by have := HC.out.2.2.1; omega)
  obtain ⟨sm, hsm⟩ : ∃ sm : Int, sm = sumI (spF 1 (rootF t)) := ⟨_, rfl⟩
  have hsmall : sm ≤ 38347922 := by
    rw [hsm]
    have h1 := sumI_le (spF 1 (rootF t)) 5000 (fun x hx => by
      have := spF_depth 1 (rootF t) x hx
      rw [rootF_size] at this; have := HC.out.2.2.1; omega)
    rw [spF_length, rootF_size] at h1
    have h2 : 5000 * (foSize t.kids + 1) ≤ 5000 * 5000 := Nat.mul_le_mul (Nat.le_refl _) HC.out.2.2.1
    unfold sumI; omega
  rw [← hsm] at htold
  have HT := Lib.hid htold
  have HB := Lib.hid (And.intro hkb (And.intro hkc (And.intro hbw (And.intro hb2 hm))))
  clear hkb hkc hbw hb2 htold hlt hm hsm
  go_wp2_with fail
  refine HT.out.mono ?_
  rintro e w2 ⟨rfl, hb3⟩
  have h0 := hb3
  have HB3 := Lib.hid hb3
  clear hb3 h0
  go_wp2_with fail
  have hdec : decide (38347922 < sm) = false := by simpa using hsmall
  rw [hdec]
  go_ret
  exact walk_end HC.out.2.1 HB.out.2.2.1 HB3.out HB.out.1 HB.out.2.1 HB.out.2.2.2.2 HC.out.2.2.2
end Go.Proofs.YteccnekdmehloaaDoor
namespace Go.Proofs.YteccnekdmehloaaDoor
open Go.RowKit

theorem Tryd.infoSp : (Tryd.prog.info? 40).map (fun i => (i.size, i.bytes, i.zero.map (fun z => z.cells.size))) = some (5, 64, some 5) := by kernel_rfl

/-- A row of spots of length n. -/
def Spots (w : World) (B : Nat) (rv : Value) (n : Nat) : Prop := ∃ xs, w.ownsRow B 40 5 rv n xs ∧ ∀ i, i < n → ∃ d, xs[i * 5 + 4]? = some (.int .i64 d)
/-- From w to w' the row alone may have been written, and grown into new memory. -/
def Grew (w w' : World) (rv rv' : Value) : Prop := w.grownBy w' rv.ownBlock ∧ (rv'.ownBlock = rv.ownBlock ∨ ∀ g, rv'.ownBlock = some g → w.heap.size < g)
def RefC (w : World) (B : Nat) (rv : Value) (n : Nat) (t : Tr) (e : Ending) (w' : World) : Prop :=
  ∃ rv' n', e = .returned rv' ∧ Spots w' B rv' n' ∧ Grew w w' rv rv' ∧ (2001 ≤ n' ∨ n' = n + foSize t.kids + 1) ∧ n' ≤ 2001 ∧ n ≤ n'
theorem Spots.bounds {w : World} {B : Nat} {rv : Value} {n : Nat} (h : Spots w B rv n) {g : Nat} (hg : rv.ownBlock = some g) : B ≤ g ∧ g < w.heap.size := by
  obtain ⟨xs, ho, _⟩ := h
  exact owns_bounds ho hg
theorem Grew.refl (w : World) (rv : Value) : Grew w w rv rv := ⟨⟨rfl, rfl, rfl, Nat.le_refl _, fun _ _ _ => rfl⟩, Or.inl rfl⟩

theorem Grew.low {w wr : World} {B n : Nat} {rv l : Value} (h : Grew w wr rv l) (hs : Spots w B rv n) (hB : B ≤ w.heap.size) : ∀ k, k < B → wr.heap[k]? = w.heap[k]? := fun k hk =>
  h.1.block k (by omega) (fun e => by have := (hs.bounds e.symm).1; omega)
theorem Grew.trans {w wr w2 : World} {rv l l2 : Value} (h : Grew w wr rv l) (h2 : Grew wr w2 l l2) : Grew w w2 rv l2 := by
  have hs := h.1.size
  refine ⟨⟨h2.1.os.trans h.1.os, h2.1.tape.trans h.1.tape, h2.1.output.trans h.1.output, Nat.le_trans hs h2.1.size, fun k hk hn => ?_⟩, ?_⟩
  · rw [h2.1.block k (by omega) (fun e => ?_), h.1.block k hk hn]
    rcases h.2 with h' | h'
    · exact hn (e.trans h')
    · have := h' k e.symm; omega
  · rcases h2.2 with h' | h'
    · rw [h']; exact h.2
    · exact Or.inr fun g hg => by have := h' g hg; omega
theorem Grew.box {w : World} {o : Obj} (rv : Value) : Grew w (w.alloc o) rv rv := ⟨⟨rfl, rfl, rfl, by simp, fun k hk _ => Below.heap_alloc w o k hk⟩, Or.inl rfl⟩
theorem Grew.first {w w1 : World} {o1 o2 : Obj} {rv : Value} {gg len cap : Nat} (h : ((w.alloc o1).alloc o2).grownBy w1 rv.ownBlock) (hat : rv.ownBlock = some gg ∨ gg = w.heap.size + 1 + 1) : Grew w w1 rv (.slice (some ⟨gg, 0, none⟩) len cap) :=
  ⟨⟨h.os, h.tape, h.output, by have := h.size; simp at this; omega, fun k hk hn => by rw [h.block k (by simp; omega) hn, Below.heap_alloc _ _ _ (by simp; omega), Below.heap_alloc _ _ _ hk]⟩,
   hat.elim (fun e => Or.inl (by rw [e]; rfl)) (fun e => Or.inr fun g hg => by simp only [Value.ownBlock, Option.some.injEq] at hg; omega)⟩
theorem Spots.box {w : World} {B : Nat} {rv : Value} {n : Nat} (h : Spots w B rv n) (o : Obj) : Spots (w.alloc o) B rv n := by
  obtain ⟨xs, ho, hx⟩ := h
  exact ⟨xs, ho.alloc o, hx⟩
theorem spots_snoc {xs : List Value} {n : Nat} {a b c e : Value} {d : Int} (hl : xs.length = n * 5) (hx : ∀ i, i < n → ∃ d, xs[i * 5 + 4]? = some (.int .i64 d)) : ∀ i, i < n + 1 → ∃ d', (xs ++ [a, b, c, e, .int .i64 d])[i * 5 + 4]? = some (.int .i64 d') := fun i hi => by
  by_cases h : i < n
  · obtain ⟨d', h'⟩ := hx i h
    exact ⟨d', by rw [List.getElem?_append_left (by omega)]; exact h'⟩
  · have : i = n := by omega
    subst this
    exact ⟨d, by rw [List.getElem?_append_right (by omega), hl]; simp⟩

/-- What holds at the head of each round. -/
def WalkRound (w : World) (B : Nat) (rv : Value) (n : Nat) (c1 : Array Value) (ks : Fo) (len : Nat) (l i : Value) (wr : World) : Prop :=
  ∃ k nk, k ≤ len ∧ i = .int .i64 k ∧ Spots wr B l nk ∧ Grew w wr rv l ∧ (2001 ≤ nk ∨ nk = n + 1 + foSize (foTake k ks)) ∧ nk ≤ 2001 ∧ n + 1 ≤ nk ∧ wr.heap[w.heap.size]? = some (.cells c1 25 (0, 0))

set_option maxRecDepth 100000 in
set_option maxHeartbeats 1000000 in
theorem rwalk_any : ∀ (m : Nat) (w : World) (S : Nat → Prop) (v : Value) (t : Tr) (B : Nat) (rv : Value) (n : Nat) (d : Int), foSize t.kids < m → foLen t.kids ≤ 9223372036854775807 → foFit t.kids → (∀ k, S k → k < B) → B ≤ w.heap.size → TrAt w S v t →
    Spots w B rv n → n ≤ 2001 → 0 ≤ d → d ≤ (n : Int) + 1 →
    Calls Tryd.prog 28 #[rv, v, .int .i64 d, .int .i64 2001] w (RefC w B rv n t) := by
  intro m
  induction m with
  | zero => intro w S v t B rv n d h; omega
  | succ m ih =>
    intro w S v t B rv n d hm hlen2 hfit hS hB hv hrow hn hd0 hd1
    obtain ⟨ka, cap, rfl, hcp, hk⟩ := hv
    obtain ⟨id, kd, tx, ks⟩ := t
    simp only at hk hm hlen2 hfit
    simp only
    obtain ⟨xs, ho, hxs⟩ := hrow
    obtain ⟨ra, rcap, rfl⟩ := owns_slice ho
    obtain ⟨len, hlen⟩ : ∃ len, len = foLen ks := ⟨_, rfl⟩
    rw [← hlen]
    rw [← hlen] at hlen2
    have HN := Lib.hid (And.intro hm hfit)
    have HLEN := Lib.hid hlen
    have HK := Lib.hid hk
    have HSS := Lib.hid (And.intro hS hB)
    have HIH := Lib.hid ih
    have HO := Lib.hid (And.intro ho hxs)
    clear hlen hk hm hfit hS hB ih ho hxs
    by_cases hfull : 2001 ≤ n
    · have hn2 : n = 2001 := by omega
      subst hn2
      go_enter Tryd.func28, Tryd.ntmps28
      go_wp2_with fail
      go_ret
      exact ⟨_, 2001, rfl, (show Spots w B _ 2001 from ⟨xs, HO.out⟩).box _, Grew.box _, Or.inl hfull, by omega, by omega⟩
    · have hnn : ¬ (2001 : Int) ≤ (n : Int) := by omega
      go_enter Tryd.func28, Tryd.ntmps28
      obtain ⟨i0, z0, hi0, hz0, hz1, hz2, hz3⟩ := info_wide Tryd.infoSp
      have hnew : ((w.alloc (.cells #[.int .i64 id, .int .i64 kd, .string tx, .slice ka len cap] 25)).alloc (.cells #[.int .i64 id, .int .i64 kd, .string tx, .slice ka len cap, .int .i64 d] 40)).heap[w.heap.size + 1]? = some (.cells #[.int .i64 id, .int .i64 kd, .string tx, .slice ka len cap, .int .i64 d] 40 (0, 0)) := heap_alloc2_new w _ _
      have HNEW := Lib.hid hnew
      have hBw : B ≤ w.heap.size := HSS.out.2
      clear hnew
      go_wp2_with (at_builtin; refine wpList_append_lies _ rfl (.tmp 15) (.tmp 19) _ rfl B 40 i0 z0 5 64 Tryd.underlying34 hi0 hz0 hz1 hz2 hz3 (by omega) (.slice ra n rcap) n xs rfl ((HO.out.1.alloc _).alloc _) ⟨w.heap.size + 1, 0, none⟩ 1 1 [.int .i64 id, .int .i64 kd, .string tx, .slice ka len cap, .int .i64 d] rfl rfl (World.news_of_block (cs := #[.int .i64 id, .int .i64 kd, .string tx, .slice ka len cap, .int .i64 d]) (t := 40) (fr := (0, 0)) HNEW.out) (by simp [Value.oneCell']) (by omega) (by unfold maxLen; omega) (by omega) (by simp; omega) (w.heap.size + 1 + 1) (by simp) ?_; intro gg cap' w1 hown1 hgrow hat hlt1)
      have hg1 : Grew w w1 (.slice ra n rcap) (.slice (some ⟨gg, 0, none⟩) (n + 1) cap') := Grew.first hgrow hat
      have hsp1 : Spots w1 B (.slice (some ⟨gg, 0, none⟩) (n + 1) cap') (n + 1) := ⟨_, hown1, spots_snoc HO.out.1.1 HO.out.2⟩
      have hob : ∀ g, (Value.slice ra n rcap).ownBlock = some g → g < w.heap.size := fun g hg => (owns_bounds HO.out.1 hg).2
      have hbox : w1.heap[w.heap.size]? = some (.cells #[.int .i64 id, .int .i64 kd, .string tx, .slice ka len cap] 25 (0, 0)) := by
        rw [hgrow.block _ (by simp; omega) (fun e => by have := hob _ e.symm; omega)]; exact heap_alloc2_old w _ _
      have HG := Lib.hid (And.intro hg1 (And.intro hsp1 (And.intro hob hbox)))
      clear hg1 hsp1 hob hbox hgrow hown1 hat
      go_loopw [0, 9] (fun l i wr => WalkRound w B (.slice ra n rcap) n #[.int .i64 id, .int .i64 kd, .string tx, .slice ka len cap] ks len l i wr) (fun _ i _ => len - (intOf i).toNat)
      case atStart => exact ⟨0, n + 1, Nat.zero_le _, rfl, HG.out.2.1, HG.out.1, Or.inr rfl, by omega, Nat.le_refl _, HG.out.2.2.2⟩
      case round =>
        obtain ⟨k, nk, hk, rfl, hsp, hgr, hnk, hnk2, hnk3, hbx⟩ := hrel
        have p1 : wr.cell? ⟨w.heap.size, 3, none⟩ = some (.slice ka len cap) := by rw [cell_of_row wr _ 3 _ _ _ hbx]; rfl
        have HR := Lib.hid (And.intro hsp (And.intro hgr (And.intro hnk hbx)))
        clear hsp hgr hnk hbx
        by_cases hlt : k < len
        · have hlow := HR.out.2.1.low ⟨xs, HO.out⟩ hBw
          have hk1 : FoAt wr S ks ka := HK.out.kept fun x hx => ⟨hx, hlow x (HSS.out.1 x hx)⟩
          obtain ⟨b0, o0, ⟨ki, kk, kt⟩, l', r, hd1', b, off, a1, n1, rfl, hSb, c0, c1, c2, c3, hc1, hl1⟩ := hk1.at k (by rw [← HLEN.out]; exact hlt)
          obtain ⟨_, _, _, _, _, e1, e2, hsz1, htk⟩ := foDrop_node k ks (by rw [← HLEN.out]; exact hlt)
          rw [hd1'] at e1; cases e1
          have hft := foFit_drop k HN.out.2 hd1'
          have hcall := HIH.out wr S (.agg #[.int .i64 ki, .int .i64 kk, .string kt, .slice a1 (foLen l') n1]) ⟨ki, kk, kt, l'⟩ B u0 nk (d + 1) (by have := HN.out.1; simp only; omega) hft.1 hft.2 HSS.out.1 (Nat.le_trans hBw HR.out.2.1.1.size) ⟨a1, n1, rfl, hc1, hl1⟩ HR.out.1 hnk2 (by omega) (by omega)
          obtain ⟨m1, hm1⟩ : ∃ m, m = foLen l' := ⟨_, rfl⟩
          rw [← hm1] at hcall c3
          simp only at c0 c1 c2
          have HC := Lib.hid hcall
          have htk2 : foSize (foTake (k + 1) ks) = foSize (foTake k ks) + foSize l' + 1 := by rw [htk, foSize_snoc]
          have HTK := Lib.hid htk2
          have hkl : (k : Int) < (len : Int) := by omega
          clear hk1 hlow hd1' hcall hm1 htk htk2 hl1 hc1 hsz1 hSb e2 hft
          go_wp2_with fail
          refine HC.out.mono ?_
          rintro e w2 ⟨l2, n2, rfl, hsp2, hg2, hn2, hn22, hn23⟩
          have HE := Lib.hid (And.intro hsp2 (And.intro hg2 hn2))
          clear hsp2 hg2 hn2
          go_wp2_with fail
          have hne : some w.heap.size ≠ u0.ownBlock := fun e => by
            rcases HR.out.2.1.2 with h | h
            · have := HG.out.2.2.1 _ (h.symm.trans e.symm); omega
            · have := h _ e.symm; omega
          exact ⟨⟨k + 1, n2, by omega, by go_num, HE.out.1, HR.out.2.1.trans HE.out.2.1, by
            have h1 := HR.out.2.2.1
            have h2 : 2001 ≤ n2 ∨ n2 = nk + foSize l' + 1 := HE.out.2.2
            have h3 := HTK.out
            omega, hn22, by omega, (HE.out.2.1.1.block _ (lt_of_some HR.out.2.2.2) hne).trans HR.out.2.2.2⟩, by simp [intOf]; omega⟩
        · have hkk : k = len := by omega
          have HKK := Lib.hid hkk
          clear hkk
          go_wp2_with fail
          go_ret
          exact ⟨_, nk, rfl, HR.out.1, HR.out.2.1, by
            rcases HR.out.2.2.1 with h | h
            · exact Or.inl h
            · right
              rw [foTake_all k ks (by rw [HKK.out, HLEN.out]; exact Nat.le_refl _)] at h
              show nk = n + foSize ks + 1; omega, hnk2, by omega⟩


end Go.Proofs.YteccnekdmehloaaDoor
