/-
  What the document's walk over a tree tells, where it is not cut off: its nodes and their depths. No condition but that there are not too many nodes.
-/
import Derived.Test.YtjppibomjnmjpaaRSame
namespace Go.Proofs.Ytjppibomjnmjpaa
open Go.RowKit
set_option linter.unusedVariables false

theorem spF_snoc (d : Nat) : ∀ (f : Fo) (b o : Nat) (k : Int × Int × ByteArray) (l : Fo), spF d (foSnoc f b o k l) = spF d f ++ ((d, k, l) :: spF (d + 1) l)
  | .nil, _, _, _, _ => by simp [foSnoc, spF]
  | .node _ _ _ l' r, b, o, k, l => by simp [foSnoc, spF, spF_snoc d r b o k l, List.append_assoc]
def spT (d : Nat) (t : Tr) : List Sp := (d, (t.id, t.kind, t.text), t.kids) :: spF (d + 1) t.kids
theorem spT_root (t : Tr) : spT 1 t = spF 1 (rootF t) := by simp [spT, rootF, spF]
theorem spT_length (d : Nat) (t : Tr) : (spT d t).length = foSize t.kids + 1 := by simp [spT, spF_length]
def SpotAt (w : World) (S : Nat → Prop) (xs : List Value) (i : Nat) (x : Sp) : Prop :=
  xs[i * 5]? = some (.int .i64 x.2.1.1) ∧ xs[i * 5 + 1]? = some (.int .i64 x.2.1.2.1) ∧ xs[i * 5 + 2]? = some (.string x.2.1.2.2) ∧ (∃ ka cap, xs[i * 5 + 3]? = some (.slice ka (foLen x.2.2) cap) ∧ foLen x.2.2 ≤ cap ∧ FoAt w S x.2.2 ka) ∧ xs[i * 5 + 4]? = some (.int .i64 (x.1 : Int))
/-- A row of spots. -/
def SpotsN (S : Nat → Prop) (w : World) (B : Nat) (rv : Value) (n : Nat) (T : List Sp) : Prop := T.length = n ∧ ∃ xs, w.ownsRow B 51 5 rv n xs ∧ ∀ i x, T[i]? = some x → SpotAt w S xs i x
theorem SpotAt.kept {w w' : World} {S : Nat → Prop} {xs : List Value} {i : Nat} {x : Sp} (h : SpotAt w S xs i x) (hk : ∀ k, S k → w'.heap[k]? = w.heap[k]?) : SpotAt w' S xs i x := by
  obtain ⟨a, b, c, ⟨ka, cap, e, f, g⟩, z⟩ := h
  exact ⟨a, b, c, ⟨ka, cap, e, f, g.kept fun k hs => ⟨hs, hk k hs⟩⟩, z⟩
theorem SpotsN.bounds {S : Nat → Prop} {w : World} {B : Nat} {rv : Value} {n : Nat} {T : List Sp} (h : SpotsN S w B rv n T) {g : Nat} (hg : rv.ownBlock = some g) : B ≤ g ∧ g < w.heap.size := by
  obtain ⟨_, xs, ho, _⟩ := h
  exact owns_bounds ho hg
theorem Grew.lowN {S : Nat → Prop} {w wr : World} {B n : Nat} {rv l : Value} {T : List Sp} (h : Grew w wr rv l) (hs : SpotsN S w B rv n T) (hB : B ≤ w.heap.size) : ∀ k, k < B → wr.heap[k]? = w.heap[k]? := fun k hk =>
  h.1.block k (by omega) (fun e => by have := (hs.bounds e.symm).1; omega)
theorem spotsN_snoc {w w' : World} {S : Nat → Prop} {xs : List Value} {n : Nat} {T : List Sp} {x : Sp} {ka : Option Addr} {cap : Nat} (hl : xs.length = n * 5) (hT : T.length = n) (hx : ∀ i y, T[i]? = some y → SpotAt w S xs i y) (hk : ∀ k, S k → w'.heap[k]? = w.heap[k]?) (hc : foLen x.2.2 ≤ cap) (hf : FoAt w' S x.2.2 ka) :
    ∀ i y, (T ++ [x])[i]? = some y → SpotAt w' S (xs ++ [.int .i64 x.2.1.1, .int .i64 x.2.1.2.1, .string x.2.1.2.2, .slice ka (foLen x.2.2) cap, .int .i64 (x.1 : Int)]) i y := fun i y hi => by
  by_cases h : i < n
  · rw [List.getElem?_append_left (by omega)] at hi
    obtain ⟨a, b, c, ⟨kb, cb, e, f, g⟩, z⟩ := (hx i y hi).kept hk
    exact ⟨by rw [List.getElem?_append_left (by omega)]; exact a, by rw [List.getElem?_append_left (by omega)]; exact b, by rw [List.getElem?_append_left (by omega)]; exact c, ⟨kb, cb, by rw [List.getElem?_append_left (by omega)]; exact e, f, g⟩, by rw [List.getElem?_append_left (by omega)]; exact z⟩
  · have hil := (List.getElem?_eq_some_iff.1 hi).1
    have : i = n := by simp at hil; omega
    subst this
    rw [List.getElem?_append_right (by omega), hT, Nat.sub_self] at hi
    simp at hi
    subst hi
    refine ⟨?_, ?_, ?_, ⟨ka, cap, ?_, hc, hf⟩, ?_⟩ <;> (rw [List.getElem?_append_right (by omega), hl]; simp)
def RefN (S : Nat → Prop) (w : World) (B : Nat) (rv : Value) (n : Nat) (T : List Sp) (d : Nat) (t : Tr) (e : Ending) (w' : World) : Prop :=
  ∃ rv', e = .returned rv' ∧ SpotsN S w' B rv' (n + (foSize t.kids + 1)) (T ++ spT d t) ∧ Grew w w' rv rv'
/-- What holds at the head of each round. -/
def RefRoundN (S : Nat → Prop) (w : World) (B : Nat) (rv : Value) (n : Nat) (T : List Sp) (x : Sp) (c1 : Array Value) (ks : Fo) (len : Nat) (l i : Value) (wr : World) : Prop :=
  ∃ k, k ≤ len ∧ i = .int .i64 (k : Nat) ∧ SpotsN S wr B l (n + 1 + foSize (foTake k ks)) (T ++ (x :: spF (x.1 + 1) (foTake k ks))) ∧ Grew w wr rv l ∧ wr.heap[w.heap.size]? = some (.cells c1 24 (0, 0))

set_option maxRecDepth 100000 in
set_option maxHeartbeats 1000000 in
theorem rwalkN_any (M : Nat) (hM : M ≤ 2000000) : ∀ (m : Nat) (w : World) (S : Nat → Prop) (v : Value) (t : Tr) (B : Nat) (rv : Value) (n : Nat) (T : List Sp) (d : Nat), foSize t.kids < m → m ≤ 1000000 → n + foSize t.kids + 1 ≤ M → (∀ k, S k → k < B) → B ≤ w.heap.size → TrAt w S v t →
    SpotsN S w B rv n T → d ≤ n + 1 →
    Calls Try.prog 41 #[rv, v, .int .i64 (d : Int), .int .i64 (M : Int)] w (RefN S w B rv n T d t) := by
  intro m
  induction m with
  | zero => intro w S v t B rv n T d h; omega
  | succ m ih =>
    intro w S v t B rv n T d hm hm5 hnM hS hB hv hrow hd1
    obtain ⟨ka, cap, rfl, hcpt, hk⟩ := hv
    obtain ⟨id, kd, tx, ks⟩ := t
    simp only at hk hm hnM hcpt
    simp only
    obtain ⟨hT, xs, ho, hxs⟩ := hrow
    obtain ⟨ra, rcap, rfl⟩ := owns_slice ho
    obtain ⟨len, hlen⟩ : ∃ len, len = foLen ks := ⟨_, rfl⟩
    have hlen2 : len ≤ 1000000 := by have := foLen_le ks; omega
    rw [← hlen] at hcpt ⊢
    have HN := Lib.hid (And.intro hm (And.intro hm5 hnM))
    have HLEN := Lib.hid (And.intro hlen hcpt)
    have HK := Lib.hid hk
    have HSS := Lib.hid (And.intro hS hB)
    have HIH := Lib.hid ih
    have HO := Lib.hid (And.intro ho hxs)
    have HT := Lib.hid hT
    have HD := Lib.hid hd1
    have hdM : (d : Int) ≤ 2000001 := by omega
    have hd0 : (0 : Int) ≤ (d : Int) := by omega
    have hnn : ¬ (M : Int) ≤ (n : Int) := by omega
    have hn5 : n ≤ 2000000 := by omega
    clear hlen hk hm hm5 hnM hS hB ih ho hxs hT hcpt hd1
    go_enter Try.func41, Try.ntmps41
    obtain ⟨i0, z0, hi0, hz0, hz1, hz2, hz3⟩ := info_wide Try.infoSp
    have hnew : ((w.alloc (.cells #[.int .i64 id, .int .i64 kd, .string tx, .slice ka len cap] 24)).alloc (.cells #[.int .i64 id, .int .i64 kd, .string tx, .slice ka len cap, .int .i64 (d : Int)] 51)).heap[w.heap.size + 1]? = some (.cells #[.int .i64 id, .int .i64 kd, .string tx, .slice ka len cap, .int .i64 (d : Int)] 51 (0, 0)) := heap_alloc2_new w _ _
    have HNEW := Lib.hid hnew
    have hBw : B ≤ w.heap.size := HSS.out.2
    clear hnew
    go_wp2_with (at_builtin; refine wpList_append_lies _ rfl (.tmp 15) (.tmp 19) _ rfl B 51 i0 z0 5 64 Try.underlying46 hi0 hz0 hz1 hz2 hz3 (by omega) (.slice ra n rcap) n xs rfl ((HO.out.1.alloc _).alloc _) ⟨w.heap.size + 1, 0, none⟩ 1 1 [.int .i64 id, .int .i64 kd, .string tx, .slice ka len cap, .int .i64 (d : Int)] rfl rfl (World.news_of_block (cs := #[.int .i64 id, .int .i64 kd, .string tx, .slice ka len cap, .int .i64 (d : Int)]) (t := 51) (fr := (0, 0)) HNEW.out) (by simp [Value.oneCell']) (by omega) (by unfold maxLen; omega) (by omega) (by simp; omega) (w.heap.size + 1 + 1) (by simp) ?_; intro gg cap' w1 hown1 hgrow hat hlt1)
    have hg1 : Grew w w1 (.slice ra n rcap) (.slice (some ⟨gg, 0, none⟩) (n + 1) cap') := Grew.first hgrow hat
    have hsp0 : SpotsN S w B (.slice ra n rcap) n T := ⟨HT.out, xs, HO.out⟩
    have hlow1 := hg1.lowN hsp0 hBw
    have hsp1 : SpotsN S w1 B (.slice (some ⟨gg, 0, none⟩) (n + 1) cap') (n + 1) (T ++ [(d, (id, kd, tx), ks)]) := ⟨by rw [List.length_append, HT.out]; rfl, _, hown1, by
      have := spotsN_snoc (x := (d, (id, kd, tx), ks)) (ka := ka) (cap := cap) HO.out.1.1 HT.out HO.out.2 (w' := w1) (fun k hk => hlow1 k (HSS.out.1 k hk)) (by show foLen ks ≤ cap; rw [← HLEN.out.1]; exact HLEN.out.2) (HK.out.kept fun x hx => ⟨hx, hlow1 x (HSS.out.1 x hx)⟩)
      simp only [← HLEN.out.1] at this
      exact this⟩
    have hob : ∀ g, (Value.slice ra n rcap).ownBlock = some g → g < w.heap.size := fun g hg => (owns_bounds HO.out.1 hg).2
    have hbox : w1.heap[w.heap.size]? = some (.cells #[.int .i64 id, .int .i64 kd, .string tx, .slice ka len cap] 24 (0, 0)) := by
      rw [hgrow.block _ (by simp; omega) (fun e => by have := hob _ e.symm; omega)]; exact heap_alloc2_old w _ _
    have HG := Lib.hid (And.intro hg1 (And.intro hsp1 (And.intro hob hbox)))
    clear hg1 hsp1 hob hbox hgrow hown1 hat hsp0 hlow1
    go_loopw [0, 9] (fun l i wr => RefRoundN S w B (.slice ra n rcap) n T (d, (id, kd, tx), ks) #[.int .i64 id, .int .i64 kd, .string tx, .slice ka len cap] ks len l i wr) (fun _ i _ => len - (intOf i).toNat)
    case atStart => exact ⟨0, Nat.zero_le _, rfl, by simpa [foTake, foSize, spF] using HG.out.2.1, HG.out.1, HG.out.2.2.2⟩
    case round =>
      obtain ⟨k, hk, rfl, hsp, hgr, hbx⟩ := hrel
      have p1 : wr.cell? ⟨w.heap.size, 3, none⟩ = some (.slice ka len cap) := by rw [cell_of_row wr _ 3 _ _ _ hbx]; rfl
      have HR := Lib.hid (And.intro hsp (And.intro hgr hbx))
      clear hsp hgr hbx
      by_cases hlt : k < len
      · have hlow := HR.out.2.1.lowN ⟨HT.out, xs, HO.out⟩ hBw
        have hk1 : FoAt wr S ks ka := HK.out.kept fun x hx => ⟨hx, hlow x (HSS.out.1 x hx)⟩
        obtain ⟨b0, o0, ⟨ki, kk, kt⟩, l', r, hd1', b, off, a1, n1, rfl, hSb, c0, c1, c2, c3, hcp, hl1⟩ := hk1.at k (by rw [← HLEN.out.1]; exact hlt)
        obtain ⟨_, _, _, _, _, e1, e2, hsz1, htk⟩ := foDrop_node k ks (by rw [← HLEN.out.1]; exact hlt)
        rw [hd1'] at e1; cases e1
        have hfs : foSize (foTake k ks) + foSize l' + 1 ≤ foSize ks := by have := foSize_take (k + 1) ks; rw [htk, foSize_snoc] at this; exact this
        have hcall := HIH.out wr S (.agg #[.int .i64 ki, .int .i64 kk, .string kt, .slice a1 (foLen l') n1]) ⟨ki, kk, kt, l'⟩ B u0 (n + 1 + foSize (foTake k ks)) (T ++ ((d, (id, kd, tx), ks) :: spF (d + 1) (foTake k ks))) (d + 1) (by have := HN.out.1; simp only; omega) (by have := HN.out.2.1; omega) (by have := HN.out.2.2; simp only; omega) HSS.out.1 (Nat.le_trans hBw HR.out.2.1.1.size) ⟨a1, n1, rfl, hcp, hl1⟩ HR.out.1 (by have := HD.out; omega)
        obtain ⟨m1, hm1⟩ : ∃ m, m = foLen l' := ⟨_, rfl⟩
        rw [← hm1] at hcall c3
        simp only at c0 c1 c2
        have hcast : (((d + 1 : Nat)) : Int) = (d : Int) + 1 := by omega
        rw [hcast] at hcall
        have HC := Lib.hid hcall
        have htk2 : spF (d + 1) (foTake (k + 1) ks) = spF (d + 1) (foTake k ks) ++ ((d + 1, (ki, kk, kt), l') :: spF (d + 1 + 1) l') := by rw [htk, spF_snoc]
        have htk3 : foSize (foTake (k + 1) ks) = foSize (foTake k ks) + foSize l' + 1 := by rw [htk, foSize_snoc]
        have HTK := Lib.hid (And.intro htk2 htk3)
        have hkl : (k : Int) < (len : Int) := by omega
        clear hk1 hlow hd1' hcall hm1 htk htk2 htk3 hl1 hsz1 hSb e2 hcp hcast hfs
        go_wp2_with fail
        refine HC.out.mono ?_
        rintro e w2 ⟨l2, rfl, hsp2, hg2⟩
        have HE := Lib.hid (And.intro hsp2 hg2)
        clear hsp2 hg2
        go_wp2_with fail
        have hne : some w.heap.size ≠ u0.ownBlock := fun e => by
          rcases HR.out.2.1.2 with h | h
          · have := HG.out.2.2.1 _ (h.symm.trans e.symm); omega
          · have := h _ e.symm; omega
        refine ⟨⟨k + 1, by omega, by go_num, ?_, HR.out.2.1.trans HE.out.2, (HE.out.2.1.block _ (lt_of_some HR.out.2.2) hne).trans HR.out.2.2⟩, by simp [intOf]; omega⟩
        have h1 := HE.out.1
        simp only at h1 ⊢
        rw [HTK.out.1, HTK.out.2]
        have e3 : T ++ ((d, (id, kd, tx), ks) :: spF (d + 1) (foTake k ks)) ++ spT (d + 1) ⟨ki, kk, kt, l'⟩ = T ++ ((d, (id, kd, tx), ks) :: (spF (d + 1) (foTake k ks) ++ ((d + 1, (ki, kk, kt), l') :: spF (d + 1 + 1) l'))) := by simp [spT, List.append_assoc]
        rw [e3] at h1
        rw [show n + 1 + (foSize (foTake k ks) + foSize l' + 1) = n + 1 + foSize (foTake k ks) + (foSize l' + 1) by omega]
        exact h1
      · have hkk : k = len := by omega
        have HKK := Lib.hid hkk
        have hkl : ¬ (k : Int) < (len : Int) := by omega
        clear hkk
        go_wp2_with fail
        go_ret
        refine ⟨_, rfl, ?_, HR.out.2.1⟩
        have h := HR.out.1
        rw [foTake_all k ks (by rw [HKK.out, HLEN.out.1]; exact Nat.le_refl _)] at h
        show SpotsN S _ B _ (n + (foSize ks + 1)) (T ++ spT d ⟨id, kd, tx, ks⟩)
        rw [show n + (foSize ks + 1) = n + 1 + foSize ks by omega]
        exact h
/-- The whole walk, where nothing is cut off. -/
def WalkN (w : World) (S : Nat → Prop) (t : Tr) (e : Ending) (w' : World) : Prop := ∃ a cap, e = .returned (.slice a (foSize t.kids + 1) cap) ∧ SpotsN S w' w.heap.size (.slice a (foSize t.kids + 1) cap) (foSize t.kids + 1) (spF 1 (rootF t)) ∧ Below w.heap.size w w'
set_option maxRecDepth 100000 in
set_option maxHeartbeats 1000000 in
theorem walkN_any (M : Nat) (hM : M ≤ 2000000) (w : World) (S : Nat → Prop) (v : Value) (t : Tr) (hsz : foSize t.kids + 1 ≤ M) (hsz5 : foSize t.kids + 1 ≤ 1000000) (hS : ∀ k, S k → k < w.heap.size) (hv : TrAt w S v t) :
    Calls Try.prog 27 #[v, .int .i64 (M : Int)] w (WalkN w S t) := by
  obtain ⟨ka, cap, rfl, hcp, hk⟩ := hv
  have hb : Below w.heap.size w (w.alloc (.cells #[.int .i64 t.id, .int .i64 t.kind, .string t.text, .slice ka (foLen t.kids) cap] 24)) := (Below.refl _ _).alloc (Nat.le_refl _) _
  have hc := rwalkN_any M hM _ (w.alloc (.cells #[.int .i64 t.id, .int .i64 t.kind, .string t.text, .slice ka (foLen t.kids) cap] 24)) S _ t w.heap.size (.slice none 0 0) 0 [] 1 (Nat.lt_succ_self _) hsz5 (by omega) hS hb.size ⟨ka, cap, rfl, hcp, hk.below hb hS⟩ ⟨rfl, [], World.ownsRow_nil _ _ _ _, fun i p hi => by simp at hi⟩ (by omega)
  have HC := Lib.hid (And.intro hc hb)
  clear hc hb hk hS hcp hsz hsz5
  obtain ⟨len, hl⟩ : ∃ len, len = foLen t.kids := ⟨_, rfl⟩
  rw [← hl] at HC
  rw [← hl]
  clear hl
  go_enter Try.func27, Try.ntmps27
  go_wp2_with fail
  refine HC.out.1.mono ?_
  rintro e w2 ⟨rv, rfl, hsp, hg⟩
  have hb2 : Below w.heap.size w w2 := HC.out.2.trans ⟨hg.1.os, hg.1.tape, hg.1.output, hg.1.size, fun k hk => hg.1.block k (by have := HC.out.2.size; omega) (by simp [Value.ownBlock])⟩
  have hsp' := hsp
  obtain ⟨hT, xs, ho, _⟩ := hsp
  obtain ⟨a, cap', rfl⟩ := owns_slice ho
  have HE := Lib.hid (And.intro hsp' hb2)
  clear hsp' ho hg hT
  go_wp2_with fail
  go_ret
  have h := HE.out.1
  rw [List.nil_append, spT_root, Nat.zero_add] at h
  exact ⟨_, _, rfl, h, HE.out.2⟩
end Go.Proofs.Ytjppibomjnmjpaa
