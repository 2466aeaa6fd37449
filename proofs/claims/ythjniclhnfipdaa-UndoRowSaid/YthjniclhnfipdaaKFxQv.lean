/-
  What the document's walk over a tree tells, cut off behind so many: its nodes and their depths. No condition but that no row of kids is longer than a slice may be.
  What 'Great' of layer 3 answers: where it answers false the tree has at most 250 nodes. No condition but that no row of kids is longer than a slice may be.
  A map from ids to nodes, plainly: what it holds, how many. No condition.
  What a step leaves of a tree's nodes, plainly: how often nodes of a kind stand there. No condition.
-/
import Derived.Test.YthjniclhnfipdaaHDistQv
import Derived.Test.YthjniclhnfipdaaKBackPQv
import Derived.Deep.Cut
import Derived.Carry
import Derived.Test.YthjniclhnfipdaaKInsertQv
import Derived.Test.YthjniclhnfipdaaKRemoveQv
import Derived.Test.YthjniclhnfipdaaKWriteAQv
namespace Go.Proofs.Ythjniclhnfipdaa
open Go.RowKit
set_option linter.unusedVariables false

def RefM (S : Nat → Prop) (w : World) (B : Nat) (rv : Value) (T : List Sp) (M d : Nat) (t : Tr) (e : Ending) (w' : World) : Prop :=
  ∃ rv', e = .returned rv' ∧ SpotsN S w' B rv' ((T ++ spT d t).take M).length ((T ++ spT d t).take M) ∧ Grew w w' rv rv'
/-- What holds at the head of each round. -/
def RefRoundM (S : Nat → Prop) (w : World) (B : Nat) (rv : Value) (T : List Sp) (M : Nat) (x : Sp) (c1 : Array Value) (ks : Fo) (len : Nat) (l i : Value) (wr : World) : Prop :=
  ∃ (k : Nat) (L : List Sp), k ≤ len ∧ i = .int .i64 (k : Nat) ∧ Hid (L = (T ++ (x :: spF (x.1 + 1) (foTake k ks))).take M) ∧ SpotsN S wr B l L.length L ∧ Grew w wr rv l ∧ wr.heap[w.heap.size]? = some (.cells c1 24 (0, 0)) ∧ T.length + 1 ≤ L.length ∧ L.length ≤ M

set_option maxRecDepth 100000 in
set_option maxHeartbeats 1000000 in
theorem rwalkM_any (M : Nat) (hM : M ≤ 2000000) : ∀ (m : Nat) (w : World) (S : Nat → Prop) (v : Value) (t : Tr) (B : Nat) (rv : Value) (n : Nat) (T : List Sp) (d : Nat), foSize t.kids < m → foLen t.kids ≤ 9223372036854775807 → foFit t.kids → (∀ k, S k → k < B) → B ≤ w.heap.size → TrAt w S v t →
    SpotsN S w B rv n T → n ≤ M → d ≤ n + 1 →
    Calls Try.prog 93 #[rv, v, .int .i64 (d : Int), .int .i64 (M : Int)] w (RefM S w B rv T M d t) := by
  intro m
  induction m with
  | zero => intro w S v t B rv n T d h; omega
  | succ m ih =>
    intro w S v t B rv n T d hm hm5 hfit hS hB hv hrow hnM hd1
    obtain ⟨ka, cap, rfl, hcpt, hk⟩ := hv
    obtain ⟨id, kd, tx, ks⟩ := t
    simp only at hk hm hcpt hm5 hfit
    simp only
    obtain ⟨hT, xs, ho, hxs⟩ := hrow
    obtain ⟨ra, rcap, rfl⟩ := owns_slice ho
    obtain ⟨len, hlen⟩ : ∃ len, len = foLen ks := ⟨_, rfl⟩
    have hlen2 : len ≤ 9223372036854775807 := by omega
    rw [← hlen] at hcpt ⊢
    have HN := Lib.hid (And.intro hm hfit)
    have HLEN := Lib.hid (And.intro hlen hcpt)
    have HK := Lib.hid hk
    have HSS := Lib.hid (And.intro hS hB)
    have HIH := Lib.hid ih
    have HO := Lib.hid (And.intro ho hxs)
    have HT := Lib.hid hT
    have HD := Lib.hid hd1
    have hdM : (d : Int) ≤ 2000001 := by omega
    have hd0 : (0 : Int) ≤ (d : Int) := by omega
    have hn5 : n ≤ 2000000 := by omega
    clear hlen hk hm hm5 hfit hS hB ih ho hxs hT hcpt hd1
    by_cases hful : M ≤ n
    · have hMn : (M : Int) ≤ (n : Int) := by omega
      have HF := Lib.hid (show (T ++ spT d ⟨id, kd, tx, ks⟩).take M = T by rw [List.take_append_of_le_length (by rw [HT.out]; exact hful), List.take_of_length_le (by rw [HT.out]; exact hnM)])
      clear hful
      go_enter Try.func93, Try.ntmps93
      go_wp2_with fail
      go_ret
      refine ⟨_, rfl, ?_, Grew.box _⟩
      rw [HF.out, HT.out]
      exact ⟨HT.out, xs, HO.out.1.alloc _, fun i x hi => (HO.out.2 i x hi).kept fun k hk => Below.heap_alloc _ _ _ (Nat.lt_of_lt_of_le (HSS.out.1 k hk) HSS.out.2)⟩
    have hnn : ¬ (M : Int) ≤ (n : Int) := by omega
    have hnM1 : n + 1 ≤ M := by omega
    have HFN := Lib.hid hful
    clear hful
    go_enter Try.func93, Try.ntmps93
    obtain ⟨i0, z0, hi0, hz0, hz1, hz2, hz3⟩ := info_wideV Try.infoSp
    have hnew : ((w.alloc (.cells #[.int .i64 id, .int .i64 kd, .string tx, .slice ka len cap] 24)).alloc (.cells #[.int .i64 id, .int .i64 kd, .string tx, .slice ka len cap, .int .i64 (d : Int)] 51)).heap[w.heap.size + 1]? = some (.cells #[.int .i64 id, .int .i64 kd, .string tx, .slice ka len cap, .int .i64 (d : Int)] 51 (0, 0)) := heap_alloc2_new w _ _
    have HNEW := Lib.hid hnew
    have hBw : B ≤ w.heap.size := HSS.out.2
    clear hnew
    go_wp2_with (at_builtin; refine wpList_append_lies _ rfl (.tmp 15) (.tmp 19) _ rfl B 51 i0 z0 5 64 Try.underlying48 hi0 hz0 hz1 hz2 hz3 (by omega) (.slice ra n rcap) n xs rfl ((HO.out.1.alloc _).alloc _) ⟨w.heap.size + 1, 0, none⟩ 1 1 [.int .i64 id, .int .i64 kd, .string tx, .slice ka len cap, .int .i64 (d : Int)] rfl rfl (World.news_of_block (cs := #[.int .i64 id, .int .i64 kd, .string tx, .slice ka len cap, .int .i64 (d : Int)]) (t := 51) (fr := (0, 0)) HNEW.out) (by simp [Value.oneCell']) (by omega) (by unfold maxLen; omega) (by omega) (by simp; omega) (w.heap.size + 1 + 1) (by simp) ?_; intro gg cap' w1 hown1 hgrow hat hlt1)
    have hg1 : Grew w w1 (.slice ra n rcap) (.slice (some ⟨gg, 0, none⟩) (n + 1) cap') := Grew.first hgrow hat
    have hsp0 : SpotsN S w B (.slice ra n rcap) n T := ⟨HT.out, xs, HO.out⟩
    have hlow1 := hg1.lowN hsp0 hBw
    have hsp1 : SpotsN S w1 B (.slice (some ⟨gg, 0, none⟩) (n + 1) cap') (n + 1) (T ++ [(d, (id, kd, tx), ks)]) := ⟨by rw [List.length_append, HT.out]; rfl, _, hown1, by
      have := spotsN_snoc (x := (d, (id, kd, tx), ks)) (ka := ka) (cap := cap) HO.out.1.1 HT.out HO.out.2 (w' := w1) (fun k hk => hlow1 k (HSS.out.1 k hk)) (by show foLen ks ≤ cap; rw [← HLEN.out.1]; exact HLEN.out.2) (HK.out.kept fun x hx => ⟨hx, hlow1 x (HSS.out.1 x hx)⟩)
      simp only [← HLEN.out.1] at this
      exact this⟩
    have hob : ∀ g, (Value.slice ra n rcap).ownBlock = some g → g < w.heap.size := fun g hg => (owns_bounds HO.out.1 hg).2
    have hbox : w1.heap[w.heap.size]? = some (.cells #[.int .i64 id, .int .i64 kd, .string tx, .slice ka len cap] 24 (0, 0)) := by
      rw [hgrow.block _ (by simp; omega) (fun e => by have := hob _ e.symm; omega)]; exact heap_alloc2_old w _ _
    have HG := Lib.hid (And.intro hg1 (And.intro hsp1 (And.intro hob hbox)))
    clear hg1 hsp1 hob hbox hgrow hown1 hat hsp0 hlow1
    go_loopw [0, 9] (fun l i wr => RefRoundM S w B (.slice ra n rcap) T M (d, (id, kd, tx), ks) #[.int .i64 id, .int .i64 kd, .string tx, .slice ka len cap] ks len l i wr) (fun _ i _ => len - (intOf i).toNat)
    case atStart => exact ⟨0, T ++ [(d, (id, kd, tx), ks)], Nat.zero_le _, rfl, Lib.hid (by simp only [foTake, spF]; rw [List.take_of_length_le (by rw [List.length_append, HT.out]; exact hnM1)]), by rw [List.length_append, HT.out]; exact HG.out.2.1, HG.out.1, HG.out.2.2.2, by simp, by rw [List.length_append, HT.out]; exact hnM1⟩
    case round =>
      obtain ⟨k, L, hk, rfl, HL, hsp, hgr, hbx, hTL, hLM⟩ := hrel
      have p1 : wr.cell? ⟨w.heap.size, 3, none⟩ = some (.slice ka len cap) := by rw [cell_of_row wr _ 3 _ _ _ hbx]; rfl
      have HR := Lib.hid (And.intro hsp (And.intro hgr (And.intro hbx hTL)))
      clear hsp hgr hbx hTL
      by_cases hlt : k < len
      · have hlow := HR.out.2.1.lowN ⟨HT.out, xs, HO.out⟩ hBw
        have hk1 : FoAt wr S ks ka := HK.out.kept fun x hx => ⟨hx, hlow x (HSS.out.1 x hx)⟩
        obtain ⟨b0, o0, ⟨ki, kk, kt⟩, l', r, hd1', b, off, a1, n1, rfl, hSb, c0, c1, c2, c3, hcp, hl1⟩ := hk1.at k (by rw [← HLEN.out.1]; exact hlt)
        obtain ⟨_, _, _, _, _, e1, e2, hsz1, htk⟩ := foDrop_node k ks (by rw [← HLEN.out.1]; exact hlt)
        rw [hd1'] at e1; cases e1
        have hft := foFit_drop k HN.out.2 hd1'
        have hcall := HIH.out wr S (.agg #[.int .i64 ki, .int .i64 kk, .string kt, .slice a1 (foLen l') n1]) ⟨ki, kk, kt, l'⟩ B u0 L.length L (d + 1) (by have := HN.out.1; simp only; omega) hft.1 hft.2 HSS.out.1 (Nat.le_trans hBw HR.out.2.1.1.size) ⟨a1, n1, rfl, hcp, hl1⟩ HR.out.1 hLM (by have := HD.out; have := HR.out.2.2.2; have := HT.out; omega)
        obtain ⟨m1, hm1⟩ : ∃ m, m = foLen l' := ⟨_, rfl⟩
        rw [← hm1] at hcall c3
        simp only at c0 c1 c2
        have hcast : (((d + 1 : Nat)) : Int) = (d : Int) + 1 := by omega
        rw [hcast] at hcall
        have HC := Lib.hid hcall
        have htk2 : spF (d + 1) (foTake (k + 1) ks) = spF (d + 1) (foTake k ks) ++ ((d + 1, (ki, kk, kt), l') :: spF (d + 1 + 1) l') := by rw [htk, spF_snoc]
        have HTK := Lib.hid htk2
        have hkl : (k : Int) < (len : Int) := by omega
        clear hk1 hlow hd1' hcall hm1 htk htk2 hl1 hsz1 hSb e2 hcp hcast hft
        go_wp2_with fail
        refine HC.out.mono ?_
        rintro e w2 ⟨l2, rfl, hsp2, hg2⟩
        have HE := Lib.hid (And.intro hsp2 hg2)
        clear hsp2 hg2
        go_wp2_with fail
        have hne : some w.heap.size ≠ u0.ownBlock := fun e => by
          rcases HR.out.2.1.2 with h | h
          · have := HG.out.2.2.1 _ (h.symm.trans e.symm); omega
          · have := h _ e.symm; omega
        have hLL : (L ++ spT (d + 1) ⟨ki, kk, kt, l'⟩).take M = (T ++ ((d, (id, kd, tx), ks) :: spF (d + 1) (foTake (k + 1) ks))).take M := by
          rw [HL.out, takeM_more, HTK.out]
          simp [spT, List.append_assoc]
        have hle : L.length ≤ ((L ++ spT (d + 1) ⟨ki, kk, kt, l'⟩).take M).length := by
          rw [List.length_take, List.length_append]; omega
        refine ⟨⟨k + 1, (L ++ spT (d + 1) ⟨ki, kk, kt, l'⟩).take M, by omega, by go_num, Lib.hid hLL, HE.out.1, HR.out.2.1.trans HE.out.2, (HE.out.2.1.block _ (lt_of_some HR.out.2.2.1) hne).trans HR.out.2.2.1, by have := HR.out.2.2.2; omega, by rw [List.length_take]; omega⟩, by simp [intOf]; omega⟩
      · have hkk : k = len := by omega
        have HKK := Lib.hid hkk
        have hkl : ¬ (k : Int) < (len : Int) := by omega
        clear hkk
        go_wp2_with fail
        go_ret
        refine ⟨_, rfl, ?_, HR.out.2.1⟩
        have h := HR.out.1
        have hL := HL.out
        rw [foTake_all k ks (by rw [HKK.out, HLEN.out.1]; exact Nat.le_refl _)] at hL
        show SpotsN S _ B _ ((T ++ spT d ⟨id, kd, tx, ks⟩).take M).length ((T ++ spT d ⟨id, kd, tx, ks⟩).take M)
        have e : (T ++ spT d ⟨id, kd, tx, ks⟩).take M = L := hL.symm
        rw [e]
        exact h
/-- The whole walk, cut off behind M. -/
def WalkM (w : World) (S : Nat → Prop) (t : Tr) (M : Nat) (e : Ending) (w' : World) : Prop := ∃ a cap, e = .returned (.slice a ((spF 1 (rootF t)).take M).length cap) ∧ SpotsN S w' w.heap.size (.slice a ((spF 1 (rootF t)).take M).length cap) ((spF 1 (rootF t)).take M).length ((spF 1 (rootF t)).take M) ∧ Below w.heap.size w w'
set_option maxRecDepth 100000 in
set_option maxHeartbeats 1000000 in
theorem walkM_any (M : Nat) (hM : M ≤ 2000000) (w : World) (S : Nat → Prop) (v : Value) (t : Tr) (hlen : foLen t.kids ≤ 9223372036854775807) (hfit : foFit t.kids) (hS : ∀ k, S k → k < w.heap.size) (hv : TrAt w S v t) :
    Calls Try.prog 30 #[v, .int .i64 (M : Int)] w (WalkM w S t M) := by
  obtain ⟨ka, cap, rfl, hcp, hk⟩ := hv
  have hb : Below w.heap.size w (w.alloc (.cells #[.int .i64 t.id, .int .i64 t.kind, .string t.text, .slice ka (foLen t.kids) cap] 24)) := (Below.refl _ _).alloc (Nat.le_refl _) _
  have hc := rwalkM_any M hM _ (w.alloc (.cells #[.int .i64 t.id, .int .i64 t.kind, .string t.text, .slice ka (foLen t.kids) cap] 24)) S _ t w.heap.size (.slice none 0 0) 0 [] 1 (Nat.lt_succ_self _) hlen hfit hS hb.size ⟨ka, cap, rfl, hcp, hk.below hb hS⟩ ⟨rfl, [], World.ownsRow_nil _ _ _ _, fun i p hi => by simp at hi⟩ (Nat.zero_le _) (by omega)
  have HC := Lib.hid (And.intro hc hb)
  clear hc hb hk hS hcp hlen hfit
  obtain ⟨len, hl⟩ : ∃ len, len = foLen t.kids := ⟨_, rfl⟩
  rw [← hl] at HC
  rw [← hl]
  clear hl
  go_enter Try.func30, Try.ntmps30
  go_wp2_with fail
  refine HC.out.1.mono ?_
  rintro e w2 ⟨rv, rfl, hsp, hg⟩
  have hb2 : Below w.heap.size w w2 := HC.out.2.trans ⟨hg.1.os, hg.1.tape, hg.1.output, hg.1.size, fun k hk => hg.1.block k (by have := HC.out.2.size; omega) (by simp [Value.ownBlock])⟩
  have hsp' := hsp
  obtain ⟨hT, xs, ho, _⟩ := hsp
  obtain ⟨a, cap', rfl⟩ := owns_slice ho
  have HE := Lib.hid (And.intro hsp' hb2)
  clear hsp' ho hg hT
  rw [List.nil_append, spT_root] at HE ⊢
  obtain ⟨q, hq⟩ : ∃ q, q = ((spF 1 (rootF t)).take M).length := ⟨_, rfl⟩
  rw [← hq] at HE ⊢
  have HQ := Lib.hid hq
  clear hq
  go_wp2_with fail
  go_ret
  exact ⟨_, _, by rw [← HQ.out]; rfl, by rw [← HQ.out]; exact HE.out.1, HE.out.2⟩
end Go.Proofs.Ythjniclhnfipdaa
namespace Go.Proofs.Ythjniclhnfipdaa
open Go.RowKit
set_option linter.unusedVariables false

theorem spots_ge {S : Nat → Prop} {w : World} {B n : Nat} {a : Option Addr} {cap : Nat} {T : List Sp} (h : SpotsN S w B (.slice a n cap) n T) {k : Nat} {x : Sp} (hx : T[k]? = some x) : ∃ g, a = some ⟨g, 0, none⟩ ∧ g < w.heap.size ∧ w.cell? ⟨g, k * 5, none⟩ = some (.int .i64 x.2.1.1) ∧ w.cell? ⟨g, k * 5 + 1, none⟩ = some (.int .i64 x.2.1.2.1) ∧ w.cell? ⟨g, k * 5 + 2, none⟩ = some (.string x.2.1.2.2) ∧ (∃ ka c, w.cell? ⟨g, k * 5 + 3, none⟩ = some (.slice ka (foLen x.2.2) c) ∧ foLen x.2.2 ≤ c ∧ FoAt w S x.2.2 ka) ∧ w.cell? ⟨g, k * 5 + 4, none⟩ = some (.int .i64 (x.1 : Int)) := by
  obtain ⟨hT, xs, ho, hxs⟩ := h
  have hk := (List.getElem?_eq_some_iff.1 hx).1
  have hgg : ∃ g, a = some ⟨g, 0, none⟩ := by
    rcases ho.2 with ⟨hv, h0⟩ | ⟨g, cap2, cur, hv, _⟩
    · omega
    · cases hv; exact ⟨g, rfl⟩
  obtain ⟨g, rfl⟩ := hgg
  obtain ⟨p0, p1, p2, ⟨ka, c, p3, q1, q2⟩, p4⟩ := hxs k x hx
  exact ⟨g, rfl, (owns_bounds ho rfl).2, owns_cell ho rfl _ _ p0, owns_cell ho rfl _ _ p1, owns_cell ho rfl _ _ p2, ⟨ka, c, owns_cell ho rfl _ _ p3, q1, q2⟩, owns_cell ho rfl _ _ p4⟩
end Go.Proofs.Ythjniclhnfipdaa
namespace Go.Proofs.Ythjniclhnfipdaa
open Go.RowKit Go.Shelf
open Go.Maps
set_option linter.unusedVariables false
set_option linter.unusedSimpArgs false

def isNode : List Value → Bool
  | [.int .i64 _, .int .i64 _, .string _, .slice _ _ _] => true
  | _ => false
def nodeE : Value → Bool
  | .agg cs => isNode cs.toList
  | _ => false
/-- A node, as an element that reads as itself. -/
def heldE (v : Value) : Option (DataW Value × List MemPlace) := if nodeE v = true then some (.held v, []) else none
def mapN (L : List (Int × Value)) : DataW Value := L.foldl (fun D p => D.put (.int .i64 p.1) (.held p.2)) (.map [])
/-- A map from ids to nodes. -/
def OwnsN (w : World) (b n : Nat) (L : List (Int × Value)) : Prop := w.ownsMap Try.prog 3 heldE b n (mapN L)
theorem OwnsN.at {w w' : World} {b n : Nat} {L : List (Int × Value)} (h : OwnsN w b n L) (e : w'.heap[b]? = w.heap[b]?) : OwnsN w' b n L := by
  obtain ⟨es, clock, hb, h⟩ := h
  exact ⟨es, clock, e.trans hb, h⟩
/-- The values of the nodes of a walk. -/
def ValsOf (w : World) (S : Nat → Prop) (T : List Sp) (L : List (Int × Value)) : Prop := L.length = T.length ∧ ∀ (k : Nat) (x : Sp) (p : Int × Value), T[k]? = some x → L[k]? = some p → p.1 = x.2.1.1 ∧ TrAt w S p.2 (trOf x)
theorem ValsOf.kept {w w' : World} {S S' : Nat → Prop} {T : List Sp} {L : List (Int × Value)} (h : ValsOf w S T L) (hS : ∀ y, S y → S' y ∧ w'.heap[y]? = w.heap[y]?) : ValsOf w' S' T L :=
  ⟨h.1, fun k x p hx hp => ⟨(h.2 k x p hx hp).1, (h.2 k x p hx hp).2.kept hS⟩⟩
theorem ValsOf.snoc {w : World} {S : Nat → Prop} {T : List Sp} {L : List (Int × Value)} {x : Sp} {p : Int × Value} (h : ValsOf w S T L) (h1 : p.1 = x.2.1.1) (h2 : TrAt w S p.2 (trOf x)) : ValsOf w S (T ++ [x]) (L ++ [p]) := by
  refine ⟨by rw [List.length_append, List.length_append, h.1]; rfl, fun k y q hy hq => ?_⟩
  by_cases hk : k < T.length
  · rw [List.getElem?_append_left hk] at hy
    rw [List.getElem?_append_left (by rw [h.1]; exact hk)] at hq
    exact h.2 k y q hy hq
  · rw [List.getElem?_append_right (by omega)] at hy
    rw [List.getElem?_append_right (by rw [h.1]; omega), h.1] at hq
    cases hj : k - T.length with
    | zero => rw [hj] at hy hq; simp at hy hq; subst hy; subst hq; exact ⟨h1, h2⟩
    | succ j => rw [hj] at hy; simp at hy
theorem ValsOf.ids {w : World} {S : Nat → Prop} {T : List Sp} {L : List (Int × Value)} (h : ValsOf w S T L) : L.map Prod.fst = T.map fun x => x.2.1.1 := by
  apply List.ext_getElem?
  intro k
  rw [List.getElem?_map, List.getElem?_map]
  rcases Nat.lt_or_ge k T.length with hk | hk
  · have hk2 : k < L.length := by rw [h.1]; exact hk
    rw [List.getElem?_eq_getElem hk, List.getElem?_eq_getElem hk2]
    have := (h.2 k _ _ (List.getElem?_eq_getElem hk) (List.getElem?_eq_getElem hk2)).1
    simp [this]
  · rw [List.getElem?_eq_none hk, List.getElem?_eq_none (by rw [h.1]; exact hk)]; rfl
end Go.Proofs.Ythjniclhnfipdaa
namespace Go.Proofs.Ythjniclhnfipdaa
open Go.RowKit Go.Shelf
set_option linter.unusedVariables false
set_option linter.unusedSimpArgs false

abbrev Key := Int × Int × ByteArray
def Tr.key (t : Tr) : Key := (t.id, t.kind, t.text)
def oneP (p : Key → Bool) (k : Key) : Nat := if p k = true then 1 else 0
/-- How many nodes are such. -/
def cntP (p : Key → Bool) : Fo → Nat
  | .nil => 0
  | .node _ _ k l r => oneP p k + cntP p l + cntP p r
def cntQ (p : Key → Bool) (t : Tr) : Nat := oneP p t.key + cntP p t.kids
theorem cntP_ins (p : Key → Bool) : ∀ (f : Fo) (i : Nat) (u : Tr), i ≤ foLen f → cntP p (insF f i u) = cntP p f + cntQ p u
  | f, 0, u, _ => by rw [insF_zero, cntP, cntQ]; simp only [Tr.key]; omega
  | .nil, i + 1, u, h => by simp [foLen] at h
  | .node b o k l r, i + 1, u, h => by
    have := cntP_ins p r i u (by simp [foLen] at h; omega)
    simp only [insF, cntP, this]; omega
theorem cntP_del (p : Key → Bool) : ∀ (f : Fo) (i : Nat) (u : Tr), kidF f i = some u → cntP p (delF f i) + cntQ p u = cntP p f
  | .nil, i, u, h => by cases i <;> simp [kidF, foDrop, headT] at h
  | .node b o k l r, 0, u, h => by
    simp only [kidF, foDrop, headT] at h
    cases h
    simp only [delF, cntP, cntQ, Tr.key]; rw [show (k.1, k.2.1, k.2.2) = k from rfl]; omega
  | .node b o k l r, i + 1, u, h => by
    have := cntP_del p r i u (by simpa [kidF, foDrop] using h)
    simp only [delF, cntP]; omega
theorem cntP_set (p : Key → Bool) : ∀ (f : Fo) (i : Nat) (u v : Tr), kidF f i = some u → cntP p (setF f i v) + cntQ p u = cntP p f + cntQ p v
  | .nil, i, _, _, h => by cases i <;> simp [kidF, foDrop, headT] at h
  | .node _ _ k l r, 0, u, v, h => by
    simp only [kidF, foDrop, headT] at h
    cases h
    simp only [setF, cntP, cntQ, Tr.key]; rw [show (k.1, k.2.1, k.2.2) = k from rfl]; omega
  | .node _ _ k l r, i + 1, u, v, h => by
    have := cntP_set p r i u v (by simpa [kidF, foDrop] using h)
    simp only [setF, cntP]; omega
theorem cntQ_put (p : Key → Bool) : ∀ (q : List Nat) (t u x : Tr), atT t q = some u → cntQ p (putP t q x) + cntQ p u = cntQ p t + cntQ p x
  | [], t, u, x, h => by cases h; simp only [putP]; omega
  | i :: q, t, u, x, h => by
    simp only [atT] at h
    simp only [putP]
    cases hk : kidF t.kids i with
    | none => rw [hk] at h; cases h
    | some v =>
      rw [hk] at h
      have h1 := cntQ_put p q v u x h
      have h2 := cntP_set p t.kids i v (putP v q x) hk
      simp only [cntQ, Tr.key] at h1 h2 ⊢
      omega
/-- Of that id. -/
def isId (a : Int) : Key → Bool := fun k => decide (k.1 = a)
theorem cnt_isId (a : Int) : ∀ f : Fo, cntP (isId a) f = cntF a f
  | .nil => rfl
  | .node b o k l r => by
    simp only [cntP, cntF, cnt_isId a l, cnt_isId a r, oneP, isId, decide_eq_true_eq]
theorem cntQ_id (a : Int) (t : Tr) : cntQ (isId a) t = cntT a t := by
  simp only [cntQ, cntT, cnt_isId, oneP, isId, Tr.key]
  by_cases h : t.id = a <;> simp [h]
theorem cnt_all : ∀ f : Fo, cntP (fun _ => true) f = foSize f
  | .nil => rfl
  | .node b o k l r => by simp only [cntP, foSize, cnt_all l, cnt_all r, oneP, if_pos]; omega
theorem cntQ_all (t : Tr) : cntQ (fun _ => true) t = foSize t.kids + 1 := by simp only [cntQ, cnt_all, oneP, if_pos]; omega
theorem put_id : ∀ (q : List Nat) (t u x : Tr), atT t q = some u → x.id = u.id → (putP t q x).id = t.id
  | [], t, u, x, h, hx => by cases h; exact hx
  | i :: q, t, u, x, h, hx => by
    simp only [putP]
    cases hk : kidF t.kids i with
    | none => rfl
    | some v => rfl
/-- What a step makes. -/
def stepK (op id par at_ : Int) (tx : ByteArray) (x t : Tr) : Tr × Int :=
  if op = 1 then insertK par at_ x t else if op = 2 then removeK id t else if op = 3 then moveK id par at_ t else if op = 4 then writeK id tx t else (zeroK, 2)
/-- What a step that goes leaves. -/
inductive Fx (op id : Int) (tx : ByteArray) (x t y : Tr) : Prop
  | ins (ho : op = 1) (h : ∀ p, cntQ p y = cntQ p t + cntQ p x)
  | del (ho : op = 2) (q : List Nat) (v : Tr) (hq : pathT id t = some q) (hv : atT t q = some v) (h : ∀ p, cntQ p y + cntQ p v = cntQ p t)
  | mov (ho : op = 3) (h : ∀ p, cntQ p y = cntQ p t)
  | wri (ho : op = 4) (q : List Nat) (u : Tr) (hq : pathT id t = some q) (hu : atT t q = some u) (h : ∀ p, cntQ p y + oneP p u.key = cntQ p t + oneP p (u.id, u.kind, tx))
theorem stepK_fx {op id par at_ : Int} {tx : ByteArray} {x t y : Tr} (h : stepK op id par at_ tx x t = (y, 0)) : Fx op id tx x t y ∧ y.id = t.id := by
  unfold stepK at h
  split at h
  · rename_i ho
    unfold insertK at h
    split at h
    · rename_i h0
      have hy : (putK par at_ t x).1 = y := (Prod.mk.inj h).1
      cases hp : pathT par t with
      | none => rw [putK_none hp] at h0; exact absurd h0 (by decide)
      | some q =>
        obtain ⟨u, hu, _⟩ := pathT_at _ _ _ hp
        rw [putK_some hp hu] at h0 hy
        split at h0
        · rename_i hc
          rw [if_pos hc] at hy
          simp only at hy
          subst hy
          refine ⟨.ins ho fun p => ?_, put_id q t u _ hu rfl⟩
          have h1 := cntQ_put p q t u ⟨u.id, u.kind, u.text, insF u.kids at_.toNat x⟩ hu
          have h2 := cntP_ins p u.kids at_.toNat x (by omega)
          have h3 : cntQ p u = oneP p u.key + cntP p u.kids := rfl
          have h4 : cntQ p ⟨u.id, u.kind, u.text, insF u.kids at_.toNat x⟩ = oneP p u.key + cntP p (insF u.kids at_.toNat x) := rfl
          omega
        · exact absurd (show (2 : Int) = 0 from h0) (by decide)
    · rename_i h0
      exact absurd (Prod.mk.inj h).2 h0
  · split at h
    · rename_i ho
      cases hp : pathT id t with
      | none => rw [removeK_none hp] at h; exact absurd (Prod.mk.inj h).2 (by decide)
      | some q0 =>
        by_cases h0 : q0 = []
        · subst h0; rw [removeK_root hp] at h; exact absurd (Prod.mk.inj h).2 (by decide)
        · obtain ⟨q, i, rfl⟩ : ∃ p i, q0 = p ++ [i] := ⟨q0.dropLast, q0.getLast h0, (List.dropLast_concat_getLast h0).symm⟩
          obtain ⟨v, hv0, hvid⟩ := pathT_at id t _ hp
          obtain ⟨u, hu, hv⟩ := atT_last q i t v hv0
          rw [removeK_go hp hu hv] at h
          have hy := (Prod.mk.inj h).1
          subst hy
          refine ⟨.del ho _ v hp hv0 fun p => ?_, put_id q t u _ hu rfl⟩
          have h1 := cntQ_put p q t u ⟨u.id, u.kind, u.text, delF u.kids i⟩ hu
          have h2 := cntP_del p u.kids i v hv
          have h3 : cntQ p u = oneP p u.key + cntP p u.kids := rfl
          have h4 : cntQ p ⟨u.id, u.kind, u.text, delF u.kids i⟩ = oneP p u.key + cntP p (delF u.kids i) := rfl
          omega
    · split at h
      · rename_i ho
        obtain ⟨q0, i, u, v, q, z, hi, hu, hv, hvid, hq, hz, ha, hb, hx⟩ := moveK_ok h
        obtain ⟨w, hw⟩ : ∃ w, w = putP t q0 ⟨u.id, u.kind, u.text, delF u.kids i⟩ := ⟨_, rfl⟩
        rw [← hw] at hz hx
        subst hx
        have e1 := put_id q w z ⟨z.id, z.kind, z.text, insF z.kids at_.toNat v⟩ hz rfl
        have e2 := put_id q0 t u ⟨u.id, u.kind, u.text, delF u.kids i⟩ hu rfl
        rw [← hw] at e2
        refine ⟨.mov ho fun p => ?_, e1.trans e2⟩
        have h1 := cntQ_put p q0 t u ⟨u.id, u.kind, u.text, delF u.kids i⟩ hu
        rw [← hw] at h1
        have h2 := cntP_del p u.kids i v hv
        have h3 : cntQ p u = oneP p u.key + cntP p u.kids := rfl
        have h4 : cntQ p ⟨u.id, u.kind, u.text, delF u.kids i⟩ = oneP p u.key + cntP p (delF u.kids i) := rfl
        have h5 := cntQ_put p q w z ⟨z.id, z.kind, z.text, insF z.kids at_.toNat v⟩ hz
        have h6 := cntP_ins p z.kids at_.toNat v (by omega)
        have h7 : cntQ p z = oneP p z.key + cntP p z.kids := rfl
        have h8 : cntQ p ⟨z.id, z.kind, z.text, insF z.kids at_.toNat v⟩ = oneP p z.key + cntP p (insF z.kids at_.toNat v) := rfl
        omega
      · split at h
        · rename_i ho
          cases hp : pathT id t with
          | none => rw [writeK_none hp] at h; exact absurd (Prod.mk.inj h).2 (by decide)
          | some q =>
            obtain ⟨u, hu, huid⟩ := pathT_at id t _ hp
            rw [writeK_go hp hu] at h
            have hy := (Prod.mk.inj h).1
            subst hy
            refine ⟨.wri ho q u hp hu fun p => ?_, put_id q t u _ hu rfl⟩
            have h1 := cntQ_put p q t u ⟨u.id, u.kind, tx, u.kids⟩ hu
            have h3 : cntQ p u = oneP p u.key + cntP p u.kids := rfl
            have h4 : cntQ p ⟨u.id, u.kind, tx, u.kids⟩ = oneP p (u.id, u.kind, tx) + cntP p u.kids := rfl
            omega
        · exact absurd (Prod.mk.inj h).2 (by decide)
/-- So many are such at the most, behind a step that goes. -/
theorem Fx.le {op id : Int} {tx : ByteArray} {x t y : Tr} (h : Fx op id tx x t y) (p : Key → Bool) : cntQ p y ≤ cntQ p t + cntQ p x + oneP p ((if op = 4 then ((pathT id t).bind (atT t)).getD zeroK else zeroK).id, (if op = 4 then ((pathT id t).bind (atT t)).getD zeroK else zeroK).kind, tx) := by
  cases h with
  | ins ho h => rw [h p]; omega
  | del ho q v hq hv h => have := h p; omega
  | mov ho h => rw [h p]; omega
  | wri ho q u hq hu h =>
    have h1 := h p
    rw [if_pos ho, hq]
    simp only [Option.bind_some, hu, Option.getD_some]
    omega
end Go.Proofs.Ythjniclhnfipdaa
