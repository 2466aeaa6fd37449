/-
  What the document's walk over a tree tells, cut off behind so many: its nodes and their depths. No condition but that no row of kids is longer than a slice may be.
-/
import Derived.Test.YtpbjncljecfaeaaVSpotQf
namespace Go.Proofs.Ytpbjncljecfaeaa
open Go.RowKit
set_option linter.unusedVariables false

def RefM (S : Nat → Prop) (w : World) (B : Nat) (rv : Value) (T : List Sp) (M d : Nat) (t : Tr) (e : Ending) (w' : World) : Prop :=
  ∃ rv', e = .returned rv' ∧ SpotsN S w' B rv' ((T ++ spT d t).take M).length ((T ++ spT d t).take M) ∧ Grew w w' rv rv'
/-- What holds at the head of each round. -/
def RefRoundM (S : Nat → Prop) (w : World) (B : Nat) (rv : Value) (T : List Sp) (M : Nat) (x : Sp) (c1 : Array Value) (ks : Fo) (len : Nat) (l i : Value) (wr : World) : Prop :=
  ∃ (k : Nat) (L : List Sp), k ≤ len ∧ i = .int .i64 (k : Nat) ∧ Hid (L = (T ++ (x :: spF (x.1 + 1) (foTake k ks))).take M) ∧ SpotsN S wr B l L.length L ∧ Grew w wr rv l ∧ wr.heap[w.heap.size]? = some (.cells c1 25 (0, 0)) ∧ T.length + 1 ≤ L.length ∧ L.length ≤ M

set_option maxRecDepth 100000 in
set_option maxHeartbeats 1000000 in
theorem rwalkM_any (M : Nat) (hM : M ≤ 2000000) : ∀ (m : Nat) (w : World) (S : Nat → Prop) (v : Value) (t : Tr) (B : Nat) (rv : Value) (n : Nat) (T : List Sp) (d : Nat), foSize t.kids < m → foLen t.kids ≤ 9223372036854775807 → foFit t.kids → (∀ k, S k → k < B) → B ≤ w.heap.size → TrAt w S v t →
    SpotsN S w B rv n T → n ≤ M → d ≤ n + 1 →
    Calls Try.prog 29 #[rv, v, .int .i64 (d : Int), .int .i64 (M : Int)] w (RefM S w B rv T M d t) := by
  intro m
  induction m with
  | zero => intro w S v t B rv n T d h; omega
  | succ m ih =>
    intro w S v t B rv n T d hm hm5 hfit hS hB hv hrow hnM hd1
    obtain ⟨ka, cap, rfl, hcpt, hk⟩ := hv
    obtain ⟨id, kd, tx, ks⟩ := t
    simp only at hk hm hcpt hm5 hfit
    simp only
    obtain ⟨hT, xs, ho, hxs⟩ := hrow
    obtain ⟨ra, rcap, rfl⟩ := owns_slice ho
    obtain ⟨len, hlen⟩ : ∃ len, len = foLen ks := ⟨_, rfl⟩
    have hlen2 : len ≤ 9223372036854775807 := by omega
    rw [← hlen] at hcpt ⊢
    have HN := Lib.hid (And.intro hm hfit)
    have HLEN := Lib.hid (And.intro hlen hcpt)
    have HK := Lib.hid hk
    have HSS := Lib.hid (And.intro hS hB)
    have HIH := Lib.hid ih
    have HO := Lib.hid (And.intro ho hxs)
    have HT := Lib.hid hT
    have HD := Lib.hid hd1
    have hdM : (d : Int) ≤ 2000001 := by omega
    have hd0 : (0 : Int) ≤ (d : Int) := by omega
    have hn5 : n ≤ 2000000 := by omega
    clear hlen hk hm hm5 hfit hS hB ih ho hxs hT hcpt hd1
    by_cases hful : M ≤ n
    · have hMn : (M : Int) ≤ (n : Int) := by omega
      have HF := Lib.hid (show (T ++ spT d ⟨id, kd, tx, ks⟩).take M = T by rw [List.take_append_of_le_length (by rw [HT.out]; exact hful), List.take_of_length_le (by rw [HT.out]; exact hnM)])
      clear hful
      go_enter Try.func29, Try.ntmps29
      go_wp2_with fail
      go_ret
      refine ⟨_, rfl, ?_, Grew.box _⟩
      rw [HF.out, HT.out]
      exact ⟨HT.out, xs, HO.out.1.alloc _, fun i x hi => (HO.out.2 i x hi).kept fun k hk => Below.heap_alloc _ _ _ (Nat.lt_of_lt_of_le (HSS.out.1 k hk) HSS.out.2)⟩
    have hnn : ¬ (M : Int) ≤ (n : Int) := by omega
    have hnM1 : n + 1 ≤ M := by omega
    have HFN := Lib.hid hful
    clear hful
    go_enter Try.func29, Try.ntmps29
    obtain ⟨i0, z0, hi0, hz0, hz1, hz2, hz3⟩ := info_wideV Try.infoSp
    have hnew : ((w.alloc (.cells #[.int .i64 id, .int .i64 kd, .string tx, .slice ka len cap] 25)).alloc (.cells #[.int .i64 id, .int .i64 kd, .string tx, .slice ka len cap, .int .i64 (d : Int)] 79)).heap[w.heap.size + 1]? = some (.cells #[.int .i64 id, .int .i64 kd, .string tx, .slice ka len cap, .int .i64 (d : Int)] 79 (0, 0)) := heap_alloc2_new w _ _
    have HNEW := Lib.hid hnew
    have hBw : B ≤ w.heap.size := HSS.out.2
    clear hnew
    go_wp2_with (at_builtin; refine wpList_append_lies _ rfl (.tmp 15) (.tmp 19) _ rfl B 79 i0 z0 5 64 Try.underlying40 hi0 hz0 hz1 hz2 hz3 (by omega) (.slice ra n rcap) n xs rfl ((HO.out.1.alloc _).alloc _) ⟨w.heap.size + 1, 0, none⟩ 1 1 [.int .i64 id, .int .i64 kd, .string tx, .slice ka len cap, .int .i64 (d : Int)] rfl rfl (World.news_of_block (cs := #[.int .i64 id, .int .i64 kd, .string tx, .slice ka len cap, .int .i64 (d : Int)]) (t := 79) (fr := (0, 0)) HNEW.out) (by simp [Value.oneCell']) (by omega) (by unfold maxLen; omega) (by omega) (by simp; omega) (w.heap.size + 1 + 1) (by simp) ?_; intro gg cap' w1 hown1 hgrow hat hlt1)
    have hg1 : Grew w w1 (.slice ra n rcap) (.slice (some ⟨gg, 0, none⟩) (n + 1) cap') := Grew.first hgrow hat
    have hsp0 : SpotsN S w B (.slice ra n rcap) n T := ⟨HT.out, xs, HO.out⟩
    have hlow1 := hg1.lowN hsp0 hBw
    have hsp1 : SpotsN S w1 B (.slice (some ⟨gg, 0, none⟩) (n + 1) cap') (n + 1) (T ++ [(d, (id, kd, tx), ks)]) := ⟨by rw [List.length_append, HT.out]; rfl, _, hown1, by
      have := spotsN_snoc (x := (d, (id, kd, tx), ks)) (ka := ka) (cap := cap) HO.out.1.1 HT.out HO.out.2 (w' := w1) (fun k hk => hlow1 k (HSS.out.1 k hk)) (by show foLen ks ≤ cap; rw [← HLEN.out.1]; exact HLEN.out.2) (HK.out.kept fun x hx => ⟨hx, hlow1 x (HSS.out.1 x hx)⟩)
      simp only [← HLEN.out.1] at this
      exact this⟩
    have hob : ∀ g, (Value.slice ra n rcap).ownBlock = some g → g < w.heap.size := fun g hg => (owns_bounds HO.out.1 hg).2
    have hbox : w1.heap[w.heap.size]? = some (.cells #[.int .i64 id, .int .i64 kd, .string tx, .slice ka len cap] 25 (0, 0)) := by
      rw [hgrow.block _ (by simp; omega) (fun e => by have := hob _ e.symm; omega)]; exact heap_alloc2_old w _ _
    have HG := Lib.hid (And.intro hg1 (And.intro hsp1 (And.intro hob hbox)))
    clear hg1 hsp1 hob hbox hgrow hown1 hat hsp0 hlow1
    go_loopw [0, 9] (fun l i wr => RefRoundM S w B (.slice ra n rcap) T M (d, (id, kd, tx), ks) #[.int .i64 id, .int .i64 kd, .string tx, .slice ka len cap] ks len l i wr) (fun _ i _ => len - (intOf i).toNat)
    case atStart => exact ⟨0, T ++ [(d, (id, kd, tx), ks)], Nat.zero_le _, rfl, Lib.hid (by simp only [foTake, spF]; rw [List.take_of_length_le (by rw [List.length_append, HT.out]; exact hnM1)]), by rw [List.length_append, HT.out]; exact HG.out.2.1, HG.out.1, HG.out.2.2.2, by simp, by rw [List.length_append, HT.out]; exact hnM1⟩
    case round =>
      obtain ⟨k, L, hk, rfl, HL, hsp, hgr, hbx, hTL, hLM⟩ := hrel
      have p1 : wr.cell? ⟨w.heap.size, 3, none⟩ = some (.slice ka len cap) := by rw [cell_of_row wr _ 3 _ _ _ hbx]; rfl
      have HR := Lib.hid (And.intro hsp (And.intro hgr (And.intro hbx hTL)))
      clear hsp hgr hbx hTL
      by_cases hlt : k < len
      · have hlow := HR.out.2.1.lowN ⟨HT.out, xs, HO.out⟩ hBw
        have hk1 : FoAt wr S ks ka := HK.out.kept fun x hx => ⟨hx, hlow x (HSS.out.1 x hx)⟩
        obtain ⟨b0, o0, ⟨ki, kk, kt⟩, l', r, hd1', b, off, a1, n1, rfl, hSb, c0, c1, c2, c3, hcp, hl1⟩ := hk1.at k (by rw [← HLEN.out.1]; exact hlt)
        obtain ⟨_, _, _, _, _, e1, e2, hsz1, htk⟩ := foDrop_node k ks (by rw [← HLEN.out.1]; exact hlt)
        rw [hd1'] at e1; cases e1
        have hft := foFit_drop k HN.out.2 hd1'
        have hcall := HIH.out wr S (.agg #[.int .i64 ki, .int .i64 kk, .string kt, .slice a1 (foLen l') n1]) ⟨ki, kk, kt, l'⟩ B u0 L.length L (d + 1) (by have := HN.out.1; simp only; omega) hft.1 hft.2 HSS.out.1 (Nat.le_trans hBw HR.out.2.1.1.size) ⟨a1, n1, rfl, hcp, hl1⟩ HR.out.1 hLM (by have := HD.out; have := HR.out.2.2.2; have := HT.out; omega)
        obtain ⟨m1, hm1⟩ : ∃ m, m = foLen l' := ⟨_, rfl⟩
        rw [← hm1] at hcall c3
        simp only at c0 c1 c2
        have hcast : (((d + 1 : Nat)) : Int) = (d : Int) + 1 := by omega
        rw [hcast] at hcall
        have HC := Lib.hid hcall
        have htk2 : spF (d + 1) (foTake (k + 1) ks) = spF (d + 1) (foTake k ks) ++ ((d + 1, (ki, kk, kt), l') :: spF (d + 1 + 1) l') := by rw [htk, spF_snoc]
        have HTK := Lib.hid htk2
        have hkl : (k : Int) < (len : Int) := by omega
        clear hk1 hlow hd1' hcall hm1 htk htk2 hl1 hsz1 hSb e2 hcp hcast hft
        go_wp2_with fail
        refine HC.out.mono ?_
        rintro e w2 ⟨l2, rfl, hsp2, hg2⟩
        have HE := Lib.hid (And.intro hsp2 hg2)
        clear hsp2 hg2
        go_wp2_with fail
        have hne : some w.heap.size ≠ u0.ownBlock := fun e => by
          rcases HR.out.2.1.2 with h | h
          · have := HG.out.2.2.1 _ (h.symm.trans e.symm); omega
          · have := h _ e.symm; omega
        have hLL : (L ++ spT (d + 1) ⟨ki, kk, kt, l'⟩).take M = (T ++ ((d, (id, kd, tx), ks) :: spF (d + 1) (foTake (k + 1) ks))).take M := by
          rw [HL.out, takeM_more, HTK.out]
          simp [spT, List.append_assoc]
        have hle : L.length ≤ ((L ++ spT (d + 1) ⟨ki, kk, kt, l'⟩).take M).length := by
          rw [List.length_take, List.length_append]; omega
        refine ⟨⟨k + 1, (L ++ spT (d + 1) ⟨ki, kk, kt, l'⟩).take M, by omega, by go_num, Lib.hid hLL, HE.out.1, HR.out.2.1.trans HE.out.2, (HE.out.2.1.block _ (lt_of_some HR.out.2.2.1) hne).trans HR.out.2.2.1, by have := HR.out.2.2.2; omega, by rw [List.length_take]; omega⟩, by simp [intOf]; omega⟩
      · have hkk : k = len := by omega
        have HKK := Lib.hid hkk
        have hkl : ¬ (k : Int) < (len : Int) := by omega
        clear hkk
        go_wp2_with fail
        go_ret
        refine ⟨_, rfl, ?_, HR.out.2.1⟩
        have h := HR.out.1
        have hL := HL.out
        rw [foTake_all k ks (by rw [HKK.out, HLEN.out.1]; exact Nat.le_refl _)] at hL
        show SpotsN S _ B _ ((T ++ spT d ⟨id, kd, tx, ks⟩).take M).length ((T ++ spT d ⟨id, kd, tx, ks⟩).take M)
        have e : (T ++ spT d ⟨id, kd, tx, ks⟩).take M = L := hL.symm
        rw [e]
        exact h
/-- The whole walk, cut off behind M. -/
def WalkM (w : World) (S : Nat → Prop) (t : Tr) (M : Nat) (e : Ending) (w' : World) : Prop := ∃ a cap, e = .returned (.slice a ((spF 1 (rootF t)).take M).length cap) ∧ SpotsN S w' w.heap.size (.slice a ((spF 1 (rootF t)).take M).length cap) ((spF 1 (rootF t)).take M).length ((spF 1 (rootF t)).take M) ∧ Below w.heap.size w w'
set_option maxRecDepth 100000 in
set_option maxHeartbeats 1000000 in
theorem walkM_any (M : Nat) (hM : M ≤ 2000000) (w : World) (S : Nat → Prop) (v : Value) (t : Tr) (hlen : foLen t.kids ≤ 9223372036854775807) (hfit : foFit t.kids) (hS : ∀ k, S k → k < w.heap.size) (hv : TrAt w S v t) :
    Calls Try.prog 17 #[v, .int .i64 (M : Int)] w (WalkM w S t M) := by
  obtain ⟨ka, cap, rfl, hcp, hk⟩ := hv
  have hb : Below w.heap.size w (w.alloc (.cells #[.int .i64 t.id, .int .i64 t.kind, .string t.text, .slice ka (foLen t.kids) cap] 25)) := (Below.refl _ _).alloc (Nat.le_refl _) _
  have hc := rwalkM_any M hM _ (w.alloc (.cells #[.int .i64 t.id, .int .i64 t.kind, .string t.text, .slice ka (foLen t.kids) cap] 25)) S _ t w.heap.size (.slice none 0 0) 0 [] 1 (Nat.lt_succ_self _) hlen hfit hS hb.size ⟨ka, cap, rfl, hcp, hk.below hb hS⟩ ⟨rfl, [], World.ownsRow_nil _ _ _ _, fun i p hi => by simp at hi⟩ (Nat.zero_le _) (by omega)
  have HC := Lib.hid (And.intro hc hb)
  clear hc hb hk hS hcp hlen hfit
  obtain ⟨len, hl⟩ : ∃ len, len = foLen t.kids := ⟨_, rfl⟩
  rw [← hl] at HC
  rw [← hl]
  clear hl
  go_enter Try.func17, Try.ntmps17
  go_wp2_with fail
  refine HC.out.1.mono ?_
  rintro e w2 ⟨rv, rfl, hsp, hg⟩
  have hb2 : Below w.heap.size w w2 := HC.out.2.trans ⟨hg.1.os, hg.1.tape, hg.1.output, hg.1.size, fun k hk => hg.1.block k (by have := HC.out.2.size; omega) (by simp [Value.ownBlock])⟩
  have hsp' := hsp
  obtain ⟨hT, xs, ho, _⟩ := hsp
  obtain ⟨a, cap', rfl⟩ := owns_slice ho
  have HE := Lib.hid (And.intro hsp' hb2)
  clear hsp' ho hg hT
  rw [List.nil_append, spT_root] at HE ⊢
  obtain ⟨q, hq⟩ : ∃ q, q = ((spF 1 (rootF t)).take M).length := ⟨_, rfl⟩
  rw [← hq] at HE ⊢
  have HQ := Lib.hid hq
  clear hq
  go_wp2_with fail
  go_ret
  exact ⟨_, _, by rw [← HQ.out]; rfl, by rw [← HQ.out]; exact HE.out.1, HE.out.2⟩
end Go.Proofs.Ytpbjncljecfaeaa
