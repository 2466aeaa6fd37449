/-
  The document's walk cut off; trees whose ids are all different; the law's own 'apart'. No condition but that no row of kids is longer than a slice may be.
-/
import Derived.Test.YtjppibomjnmjpaaRWalkN
import Derived.Test.YtjppibomjnmjpaaHWithin
import Derived.Test.YtjppibomjnmjpaaEFind
import Derived.Test.YtjppibomjnmjpaaHAbove
namespace Go.Proofs.Ytjppibomjnmjpaa
open Go.RowKit Go.Shelf
set_option linter.unusedVariables false
set_option linter.unusedSimpArgs false


theorem takeM_more {α : Type} (M : Nat) (A B : List α) : ((A.take M) ++ B).take M = (A ++ B).take M := by
  rw [List.take_append, List.take_append, List.take_take, Nat.min_self, List.length_take]
  congr 2
  omega
def RefM (S : Nat → Prop) (w : World) (B : Nat) (rv : Value) (T : List Sp) (M d : Nat) (t : Tr) (e : Ending) (w' : World) : Prop :=
  ∃ rv', e = .returned rv' ∧ SpotsN S w' B rv' ((T ++ spT d t).take M).length ((T ++ spT d t).take M) ∧ Grew w w' rv rv'
/-- What holds at the head of each round. -/
def RefRoundM (S : Nat → Prop) (w : World) (B : Nat) (rv : Value) (T : List Sp) (M : Nat) (x : Sp) (c1 : Array Value) (ks : Fo) (len : Nat) (l i : Value) (wr : World) : Prop :=
  ∃ (k : Nat) (L : List Sp), k ≤ len ∧ i = .int .i64 (k : Nat) ∧ Hid (L = (T ++ (x :: spF (x.1 + 1) (foTake k ks))).take M) ∧ SpotsN S wr B l L.length L ∧ Grew w wr rv l ∧ wr.heap[w.heap.size]? = some (.cells c1 24 (0, 0)) ∧ T.length + 1 ≤ L.length ∧ L.length ≤ M

set_option maxRecDepth 100000 in
set_option maxHeartbeats 1000000 in
theorem rwalkM_any (M : Nat) (hM : M ≤ 2000000) : ∀ (m : Nat) (w : World) (S : Nat → Prop) (v : Value) (t : Tr) (B : Nat) (rv : Value) (n : Nat) (T : List Sp) (d : Nat), foSize t.kids < m → foLen t.kids ≤ 9223372036854775807 → foFit t.kids → (∀ k, S k → k < B) → B ≤ w.heap.size → TrAt w S v t →
    SpotsN S w B rv n T → n ≤ M → d ≤ n + 1 →
    Calls Try.prog 41 #[rv, v, .int .i64 (d : Int), .int .i64 (M : Int)] w (RefM S w B rv T M d t) := by
  intro m
  induction m with
  | zero => intro w S v t B rv n T d h; omega
  | succ m ih =>
    intro w S v t B rv n T d hm hm5 hfit hS hB hv hrow hnM hd1
    obtain ⟨ka, cap, rfl, hcpt, hk⟩ := hv
    obtain ⟨id, kd, tx, ks⟩ := t
    simp only at hk hm hcpt hm5 hfit
    simp only
    obtain ⟨hT, xs, ho, hxs⟩ := hrow
    obtain ⟨ra, rcap, rfl⟩ := owns_slice ho
    obtain ⟨len, hlen⟩ : ∃ len, len = foLen ks := ⟨_, rfl⟩
    have hlen2 : len ≤ 9223372036854775807 := by omega
    rw [← hlen] at hcpt ⊢
    have HN := Lib.hid (And.intro hm hfit)
    have HLEN := Lib.hid (And.intro hlen hcpt)
    have HK := Lib.hid hk
    have HSS := Lib.hid (And.intro hS hB)
    have HIH := Lib.hid ih
    have HO := Lib.hid (And.intro ho hxs)
    have HT := Lib.hid hT
    have HD := Lib.hid hd1
    have hdM : (d : Int) ≤ 2000001 := by omega
    have hd0 : (0 : Int) ≤ (d : Int) := by omega
    have hn5 : n ≤ 2000000 := by omega
    clear hlen hk hm hm5 hfit hS hB ih ho hxs hT hcpt hd1
    by_cases hful : M ≤ n
    · have hMn : (M : Int) ≤ (n : Int) := by omega
      have HF := Lib.hid (show (T ++ spT d ⟨id, kd, tx, ks⟩).take M = T by rw [List.take_append_of_le_length (by rw [HT.out]; exact hful), List.take_of_length_le (by rw [HT.out]; exact hnM)])
      clear hful
      go_enter Try.func41, Try.ntmps41
      go_wp2_with fail
      go_ret
      refine ⟨_, rfl, ?_, Grew.box _⟩
      rw [HF.out, HT.out]
      exact ⟨HT.out, xs, HO.out.1.alloc _, fun i x hi => (HO.out.2 i x hi).kept fun k hk => Below.heap_alloc _ _ _ (Nat.lt_of_lt_of_le (HSS.out.1 k hk) HSS.out.2)⟩
    have hnn : ¬ (M : Int) ≤ (n : Int) := by omega
    have hnM1 : n + 1 ≤ M := by omega
    have HFN := Lib.hid hful
    clear hful
    go_enter Try.func41, Try.ntmps41
    obtain ⟨i0, z0, hi0, hz0, hz1, hz2, hz3⟩ := info_wide Try.infoSp
    have hnew : ((w.alloc (.cells #[.int .i64 id, .int .i64 kd, .string tx, .slice ka len cap] 24)).alloc (.cells #[.int .i64 id, .int .i64 kd, .string tx, .slice ka len cap, .int .i64 (d : Int)] 51)).heap[w.heap.size + 1]? = some (.cells #[.int .i64 id, .int .i64 kd, .string tx, .slice ka len cap, .int .i64 (d : Int)] 51 (0, 0)) := heap_alloc2_new w _ _
    have HNEW := Lib.hid hnew
    have hBw : B ≤ w.heap.size := HSS.out.2
    clear hnew
    go_wp2_with (at_builtin; refine wpList_append_lies _ rfl (.tmp 15) (.tmp 19) _ rfl B 51 i0 z0 5 64 Try.underlying46 hi0 hz0 hz1 hz2 hz3 (by omega) (.slice ra n rcap) n xs rfl ((HO.out.1.alloc _).alloc _) ⟨w.heap.size + 1, 0, none⟩ 1 1 [.int .i64 id, .int .i64 kd, .string tx, .slice ka len cap, .int .i64 (d : Int)] rfl rfl (World.news_of_block (cs := #[.int .i64 id, .int .i64 kd, .string tx, .slice ka len cap, .int .i64 (d : Int)]) (t := 51) (fr := (0, 0)) HNEW.out) (by simp [Value.oneCell']) (by omega) (by unfold maxLen; omega) (by omega) (by simp; omega) (w.heap.size + 1 + 1) (by simp) ?_; intro gg cap' w1 hown1 hgrow hat hlt1)
    have hg1 : Grew w w1 (.slice ra n rcap) (.slice (some ⟨gg, 0, none⟩) (n + 1) cap') := Grew.first hgrow hat
    have hsp0 : SpotsN S w B (.slice ra n rcap) n T := ⟨HT.out, xs, HO.out⟩
    have hlow1 := hg1.lowN hsp0 hBw
    have hsp1 : SpotsN S w1 B (.slice (some ⟨gg, 0, none⟩) (n + 1) cap') (n + 1) (T ++ [(d, (id, kd, tx), ks)]) := ⟨by rw [List.length_append, HT.out]; rfl, _, hown1, by
      have := spotsN_snoc (x := (d, (id, kd, tx), ks)) (ka := ka) (cap := cap) HO.out.1.1 HT.out HO.out.2 (w' := w1) (fun k hk => hlow1 k (HSS.out.1 k hk)) (by show foLen ks ≤ cap; rw [← HLEN.out.1]; exact HLEN.out.2) (HK.out.kept fun x hx => ⟨hx, hlow1 x (HSS.out.1 x hx)⟩)
      simp only [← HLEN.out.1] at this
      exact this⟩
    have hob : ∀ g, (Value.slice ra n rcap).ownBlock = some g → g < w.heap.size := fun g hg => (owns_bounds HO.out.1 hg).2
    have hbox : w1.heap[w.heap.size]? = some (.cells #[.int .i64 id, .int .i64 kd, .string tx, .slice ka len cap] 24 (0, 0)) := by
      rw [hgrow.block _ (by simp; omega) (fun e => by have := hob _ e.symm; omega)]; exact heap_alloc2_old w _ _
    have HG := Lib.hid (And.intro hg1 (And.intro hsp1 (And.intro hob hbox)))
    clear hg1 hsp1 hob hbox hgrow hown1 hat hsp0 hlow1
    go_loopw [0, 9] (fun l i wr => RefRoundM S w B (.slice ra n rcap) T M (d, (id, kd, tx), ks) #[.int .i64 id, .int .i64 kd, .string tx, .slice ka len cap] ks len l i wr) (fun _ i _ => len - (intOf i).toNat)
    case atStart => exact ⟨0, T ++ [(d, (id, kd, tx), ks)], Nat.zero_le _, rfl, Lib.hid (by simp only [foTake, spF]; rw [List.take_of_length_le (by rw [List.length_append, HT.out]; exact hnM1)]), by rw [List.length_append, HT.out]; exact HG.out.2.1, HG.out.1, HG.out.2.2.2, by simp, by rw [List.length_append, HT.out]; exact hnM1⟩
    case round =>
      obtain ⟨k, L, hk, rfl, HL, hsp, hgr, hbx, hTL, hLM⟩ := hrel
      have p1 : wr.cell? ⟨w.heap.size, 3, none⟩ = some (.slice ka len cap) := by rw [cell_of_row wr _ 3 _ _ _ hbx]; rfl
      have HR := Lib.hid (And.intro hsp (And.intro hgr (And.intro hbx hTL)))
      clear hsp hgr hbx hTL
      by_cases hlt : k < len
      · have hlow := HR.out.2.1.lowN ⟨HT.out, xs, HO.out⟩ hBw
        have hk1 : FoAt wr S ks ka := HK.out.kept fun x hx => ⟨hx, hlow x (HSS.out.1 x hx)⟩
        obtain ⟨b0, o0, ⟨ki, kk, kt⟩, l', r, hd1', b, off, a1, n1, rfl, hSb, c0, c1, c2, c3, hcp, hl1⟩ := hk1.at k (by rw [← HLEN.out.1]; exact hlt)
        obtain ⟨_, _, _, _, _, e1, e2, hsz1, htk⟩ := foDrop_node k ks (by rw [← HLEN.out.1]; exact hlt)
        rw [hd1'] at e1; cases e1
        have hft := foFit_drop k HN.out.2 hd1'
        have hcall := HIH.out wr S (.agg #[.int .i64 ki, .int .i64 kk, .string kt, .slice a1 (foLen l') n1]) ⟨ki, kk, kt, l'⟩ B u0 L.length L (d + 1) (by have := HN.out.1; simp only; omega) hft.1 hft.2 HSS.out.1 (Nat.le_trans hBw HR.out.2.1.1.size) ⟨a1, n1, rfl, hcp, hl1⟩ HR.out.1 hLM (by have := HD.out; have := HR.out.2.2.2; have := HT.out; omega)
        obtain ⟨m1, hm1⟩ : ∃ m, m = foLen l' := ⟨_, rfl⟩
        rw [← hm1] at hcall c3
        simp only at c0 c1 c2
        have hcast : (((d + 1 : Nat)) : Int) = (d : Int) + 1 := by omega
        rw [hcast] at hcall
        have HC := Lib.hid hcall
        have htk2 : spF (d + 1) (foTake (k + 1) ks) = spF (d + 1) (foTake k ks) ++ ((d + 1, (ki, kk, kt), l') :: spF (d + 1 + 1) l') := by rw [htk, spF_snoc]
        have HTK := Lib.hid htk2
        have hkl : (k : Int) < (len : Int) := by omega
        clear hk1 hlow hd1' hcall hm1 htk htk2 hl1 hsz1 hSb e2 hcp hcast hft
        go_wp2_with fail
        refine HC.out.mono ?_
        rintro e w2 ⟨l2, rfl, hsp2, hg2⟩
        have HE := Lib.hid (And.intro hsp2 hg2)
        clear hsp2 hg2
        go_wp2_with fail
        have hne : some w.heap.size ≠ u0.ownBlock := fun e => by
          rcases HR.out.2.1.2 with h | h
          · have := HG.out.2.2.1 _ (h.symm.trans e.symm); omega
          · have := h _ e.symm; omega
        have hLL : (L ++ spT (d + 1) ⟨ki, kk, kt, l'⟩).take M = (T ++ ((d, (id, kd, tx), ks) :: spF (d + 1) (foTake (k + 1) ks))).take M := by
          rw [HL.out, takeM_more, HTK.out]
          simp [spT, List.append_assoc]
        have hle : L.length ≤ ((L ++ spT (d + 1) ⟨ki, kk, kt, l'⟩).take M).length := by
          rw [List.length_take, List.length_append]; omega
        refine ⟨⟨k + 1, (L ++ spT (d + 1) ⟨ki, kk, kt, l'⟩).take M, by omega, by go_num, Lib.hid hLL, HE.out.1, HR.out.2.1.trans HE.out.2, (HE.out.2.1.block _ (lt_of_some HR.out.2.2.1) hne).trans HR.out.2.2.1, by have := HR.out.2.2.2; omega, by rw [List.length_take]; omega⟩, by simp [intOf]; omega⟩
      · have hkk : k = len := by omega
        have HKK := Lib.hid hkk
        have hkl : ¬ (k : Int) < (len : Int) := by omega
        clear hkk
        go_wp2_with fail
        go_ret
        refine ⟨_, rfl, ?_, HR.out.2.1⟩
        have h := HR.out.1
        have hL := HL.out
        rw [foTake_all k ks (by rw [HKK.out, HLEN.out.1]; exact Nat.le_refl _)] at hL
        show SpotsN S _ B _ ((T ++ spT d ⟨id, kd, tx, ks⟩).take M).length ((T ++ spT d ⟨id, kd, tx, ks⟩).take M)
        have e : (T ++ spT d ⟨id, kd, tx, ks⟩).take M = L := hL.symm
        rw [e]
        exact h
/-- The whole walk, cut off behind M. -/
def WalkM (w : World) (S : Nat → Prop) (t : Tr) (M : Nat) (e : Ending) (w' : World) : Prop := ∃ a cap, e = .returned (.slice a ((spF 1 (rootF t)).take M).length cap) ∧ SpotsN S w' w.heap.size (.slice a ((spF 1 (rootF t)).take M).length cap) ((spF 1 (rootF t)).take M).length ((spF 1 (rootF t)).take M) ∧ Below w.heap.size w w'
set_option maxRecDepth 100000 in
set_option maxHeartbeats 1000000 in
theorem walkM_any (M : Nat) (hM : M ≤ 2000000) (w : World) (S : Nat → Prop) (v : Value) (t : Tr) (hlen : foLen t.kids ≤ 9223372036854775807) (hfit : foFit t.kids) (hS : ∀ k, S k → k < w.heap.size) (hv : TrAt w S v t) :
    Calls Try.prog 27 #[v, .int .i64 (M : Int)] w (WalkM w S t M) := by
  obtain ⟨ka, cap, rfl, hcp, hk⟩ := hv
  have hb : Below w.heap.size w (w.alloc (.cells #[.int .i64 t.id, .int .i64 t.kind, .string t.text, .slice ka (foLen t.kids) cap] 24)) := (Below.refl _ _).alloc (Nat.le_refl _) _
  have hc := rwalkM_any M hM _ (w.alloc (.cells #[.int .i64 t.id, .int .i64 t.kind, .string t.text, .slice ka (foLen t.kids) cap] 24)) S _ t w.heap.size (.slice none 0 0) 0 [] 1 (Nat.lt_succ_self _) hlen hfit hS hb.size ⟨ka, cap, rfl, hcp, hk.below hb hS⟩ ⟨rfl, [], World.ownsRow_nil _ _ _ _, fun i p hi => by simp at hi⟩ (Nat.zero_le _) (by omega)
  have HC := Lib.hid (And.intro hc hb)
  clear hc hb hk hS hcp hlen hfit
  obtain ⟨len, hl⟩ : ∃ len, len = foLen t.kids := ⟨_, rfl⟩
  rw [← hl] at HC
  rw [← hl]
  clear hl
  go_enter Try.func27, Try.ntmps27
  go_wp2_with fail
  refine HC.out.1.mono ?_
  rintro e w2 ⟨rv, rfl, hsp, hg⟩
  have hb2 : Below w.heap.size w w2 := HC.out.2.trans ⟨hg.1.os, hg.1.tape, hg.1.output, hg.1.size, fun k hk => hg.1.block k (by have := HC.out.2.size; omega) (by simp [Value.ownBlock])⟩
  have hsp' := hsp
  obtain ⟨hT, xs, ho, _⟩ := hsp
  obtain ⟨a, cap', rfl⟩ := owns_slice ho
  have HE := Lib.hid (And.intro hsp' hb2)
  clear hsp' ho hg hT
  rw [List.nil_append, spT_root] at HE ⊢
  obtain ⟨q, hq⟩ : ∃ q, q = ((spF 1 (rootF t)).take M).length := ⟨_, rfl⟩
  rw [← hq] at HE ⊢
  have HQ := Lib.hid hq
  clear hq
  go_wp2_with fail
  go_ret
  exact ⟨_, _, by rw [← HQ.out]; rfl, by rw [← HQ.out]; exact HE.out.1, HE.out.2⟩
theorem spots_ge {S : Nat → Prop} {w : World} {B n : Nat} {a : Option Addr} {cap : Nat} {T : List Sp} (h : SpotsN S w B (.slice a n cap) n T) {k : Nat} {x : Sp} (hx : T[k]? = some x) : ∃ g, a = some ⟨g, 0, none⟩ ∧ g < w.heap.size ∧ w.cell? ⟨g, k * 5, none⟩ = some (.int .i64 x.2.1.1) ∧ w.cell? ⟨g, k * 5 + 1, none⟩ = some (.int .i64 x.2.1.2.1) ∧ w.cell? ⟨g, k * 5 + 2, none⟩ = some (.string x.2.1.2.2) ∧ (∃ ka c, w.cell? ⟨g, k * 5 + 3, none⟩ = some (.slice ka (foLen x.2.2) c) ∧ foLen x.2.2 ≤ c ∧ FoAt w S x.2.2 ka) ∧ w.cell? ⟨g, k * 5 + 4, none⟩ = some (.int .i64 (x.1 : Int)) := by
  obtain ⟨hT, xs, ho, hxs⟩ := h
  have hk := (List.getElem?_eq_some_iff.1 hx).1
  have hgg : ∃ g, a = some ⟨g, 0, none⟩ := by
    rcases ho.2 with ⟨hv, h0⟩ | ⟨g, cap2, cur, hv, _⟩
    · omega
    · cases hv; exact ⟨g, rfl⟩
  obtain ⟨g, rfl⟩ := hgg
  obtain ⟨p0, p1, p2, ⟨ka, c, p3, q1, q2⟩, p4⟩ := hxs k x hx
  exact ⟨g, rfl, (owns_bounds ho rfl).2, owns_cell ho rfl _ _ p0, owns_cell ho rfl _ _ p1, owns_cell ho rfl _ _ p2, ⟨ka, c, owns_cell ho rfl _ _ p3, q1, q2⟩, owns_cell ho rfl _ _ p4⟩


def idsF (f : Fo) : List Int := (spF 1 f).map fun x => x.2.1.1
theorem idsF_d : ∀ (d : Nat) (f : Fo), (spF d f).map (fun x => x.2.1.1) = idsF f
  | _, .nil => rfl
  | d, .node _ _ k l r => by
    simp only [idsF, spF, List.map_cons, List.map_append]
    rw [idsF_d (d + 1) l, idsF_d d r, idsF_d (1 + 1) l]
    rfl
theorem idsF_node (b o : Nat) (k : Int × Int × ByteArray) (l r : Fo) : idsF (.node b o k l r) = k.1 :: (idsF l ++ idsF r) := by
  simp only [idsF, spF, List.map_cons, List.map_append]
  rw [idsF_d (1 + 1) l]
  rfl
def DistT (t : Tr) : Prop := (idsF (rootF t)).Nodup
theorem distT_kids {t : Tr} (h : DistT t) : t.id ∉ idsF t.kids ∧ (idsF t.kids).Nodup := by
  rw [DistT, rootF, idsF_node] at h
  have e : idsF Deep.BT.nil = [] := rfl
  rw [e, List.append_nil] at h
  exact ⟨(List.nodup_cons.1 h).1, (List.nodup_cons.1 h).2⟩
theorem fpi_none_mem : ∀ (id : Int) (f : Fo) (j : Nat), id ∉ idsF f → fpi id j f = none
  | _, .nil, _, _ => rfl
  | id, .node b o k l r, j, h => by
    rw [idsF_node] at h
    simp only [List.mem_cons, List.mem_append, not_or] at h
    rw [fpi, if_neg (fun e => h.1 e.symm), fpi_none_mem id l 0 h.2.1]
    exact fpi_none_mem id r (j + 1) h.2.2
/-- What stands at a path of a row's node bears an id of the row. -/
theorem at_mem : ∀ (f : Fo) (k : Nat) (r : List Nat) (u v : Tr), kidF f k = some u → atT u r = some v → v.id ∈ idsF f
  | .nil, k, r, u, v, h, _ => by rw [kidF_ge (by simp [foLen])] at h; cases h
  | .node b o key l q, 0, r, u, v, h, hv => by
    rw [idsF_node]
    have hu : u = ⟨key.1, key.2.1, key.2.2, l⟩ := by simp only [kidF, foDrop, headT] at h; cases h; rfl
    subst hu
    cases r with
    | nil => cases hv; simp
    | cons i r =>
      simp only [atT] at hv
      cases hk : kidF l i with
      | none => rw [hk] at hv; cases hv
      | some w =>
        rw [hk] at hv
        have := at_mem l i r w v hk hv
        simp [this]
  | .node b o key l q, k + 1, r, u, v, h, hv => by
    rw [idsF_node]
    have h2 : kidF q k = some u := by simpa [kidF, foDrop] using h
    have := at_mem q k r u v h2 hv
    simp [this]
theorem fpi_uniq : ∀ (f : Fo) (j k : Nat) (r : List Nat) (u v : Tr), (idsF f).Nodup → kidF f k = some u → atT u r = some v → fpi v.id j f = some ((j + k) :: r)
  | .nil, _, k, r, u, v, _, h, _ => by rw [kidF_ge (by simp [foLen])] at h; cases h
  | .node b o key l q, j, 0, r, u, v, hd, h, hv => by
    rw [idsF_node, List.nodup_cons, List.nodup_append] at hd
    have hu : u = ⟨key.1, key.2.1, key.2.2, l⟩ := by simp only [kidF, foDrop, headT] at h; cases h; rfl
    subst hu
    cases r with
    | nil => cases hv; simp [fpi]
    | cons i r =>
      simp only [atT] at hv
      cases hk : kidF l i with
      | none => rw [hk] at hv; cases hv
      | some w =>
        rw [hk] at hv
        simp only at hv
        have hm := at_mem l i r w v hk hv
        have h1 := fpi_uniq l 0 i r w v hd.2.1 hk hv
        rw [fpi, if_neg (fun e => hd.1 (by rw [e]; simp [hm])), h1]
        simp
  | .node b o key l q, j, k + 1, r, u, v, hd, h, hv => by
    rw [idsF_node, List.nodup_cons, List.nodup_append] at hd
    have h2 : kidF q k = some u := by simpa [kidF, foDrop] using h
    have hm := at_mem q k r u v h2 hv
    have h1 := fpi_uniq q (j + 1) k r u v hd.2.2.1 h2 hv
    have hnl : v.id ∉ idsF l := fun e => hd.2.2.2 _ e _ hm rfl
    rw [fpi, if_neg (fun e => hd.1 (by rw [e]; simp [hm])), fpi_none_mem _ l 0 hnl, h1]
    rw [show j + 1 + k = j + (k + 1) by omega]
/-- The path of an id is the path of the node that bears it. -/
theorem pathT_uniq {t v : Tr} {r : List Nat} (hd : DistT t) (hv : atT t r = some v) : pathT v.id t = some r := by
  obtain ⟨h1, h2⟩ := distT_kids hd
  cases r with
  | nil => cases hv; simp [pathT]
  | cons i r =>
    simp only [atT] at hv
    cases hk : kidF t.kids i with
    | none => rw [hk] at hv; cases hv
    | some u =>
      rw [hk] at hv
      simp only at hv
      have hm := at_mem t.kids i r u v hk hv
      rw [pathT, if_neg (fun e => h1 (by rw [e]; exact hm)), fpi_uniq t.kids 0 i r u v h2 hk hv, Nat.zero_add]
theorem fpi_at : ∀ (id : Int) (f : Fo) (j : Nat) (p : List Nat), fpi id j f = some p → ∃ k r, p = k :: r ∧ j ≤ k ∧ ∃ u, kidF f (k - j) = some u ∧ ∃ v, atT u r = some v ∧ v.id = id
  | _, .nil, _, _, h => by cases h
  | id, .node b o key l q, j, p, h => by
    rw [fpi] at h
    by_cases hi : key.1 = id
    · rw [if_pos hi] at h
      cases h
      exact ⟨j, [], rfl, Nat.le_refl _, ⟨key.1, key.2.1, key.2.2, l⟩, by rw [Nat.sub_self]; rfl, _, rfl, hi⟩
    · rw [if_neg hi] at h
      cases hl : fpi id 0 l with
      | some p' =>
        rw [hl] at h
        cases h
        obtain ⟨k, r, rfl, _, u, hu, v, hv, hvi⟩ := fpi_at id l 0 p' hl
        rw [Nat.sub_zero] at hu
        refine ⟨j, k :: r, rfl, Nat.le_refl _, ⟨key.1, key.2.1, key.2.2, l⟩, by rw [Nat.sub_self]; rfl, v, ?_, hvi⟩
        simp only [atT]
        rw [hu]
        exact hv
      | none =>
        rw [hl] at h
        obtain ⟨k, r, rfl, hk, u, hu, hv⟩ := fpi_at id q (j + 1) p h
        refine ⟨k, r, rfl, by omega, u, ?_, hv⟩
        rw [show k - j = (k - (j + 1)) + 1 by omega]
        simpa [kidF, foDrop] using hu
/-- Finding in the walk, and by the path. -/
theorem find_fpi (id : Int) : ∀ (f : Fo) (d j : Nat), (findS id (spF d f)).map trOfS = (fpi id j f).bind fun p => match p with
    | [] => none
    | k :: r => (kidF f (k - j)).bind fun u => atT u r
  | .nil, _, _ => rfl
  | .node b o key l q, d, j => by
    by_cases h : key.1 = id
    · rw [fpi, if_pos h]
      have : findS id (spF d (.node b o key l q)) = some (d, key, l) := findS_some (pre := []) (rest := spF (d + 1) l ++ spF d q) (fun _ h => by cases h) h
      rw [this]
      simp [kidF, foDrop, headT, atT, trOfS]
    · rw [fpi, if_neg h]
      have e : findS id (spF d (.node b o key l q)) = (findS id (spF (d + 1) l)).or (findS id (spF d q)) := by
        simp only [findS, spF, List.find?_cons, List.find?_append]
        have hb : (key.1 == id) = false := by simpa using h
        rw [hb]
      rw [e]
      have i1 := find_fpi id l (d + 1) 0
      have i2 := find_fpi id q d (j + 1)
      cases hl : fpi id 0 l with
      | none =>
        rw [hl] at i1
        have : findS id (spF (d + 1) l) = none := by
          cases hx : findS id (spF (d + 1) l) with
          | none => rfl
          | some x => rw [hx] at i1; simp at i1
        rw [this, Option.none_or, i2]
        cases hq : fpi id (j + 1) q with
        | none => rfl
        | some p =>
          cases p with
          | nil => rfl
          | cons k r =>
            obtain ⟨k', r', e', hk, _⟩ := fpi_at id q (j + 1) _ hq
            cases e'
            simp only [Option.bind_some]
            have : k - j = (k - (j + 1)) + 1 := by omega
            rw [this]
            simp [kidF, foDrop]
      | some p =>
        rw [hl] at i1
        have : (findS id (spF (d + 1) l)).isSome := by
          cases hx : findS id (spF (d + 1) l) with
          | some x => rfl
          | none =>
            exfalso
            rw [hx] at i1
            obtain ⟨k, r, rfl, _, u, hu1, v, hv, _⟩ := fpi_at id l 0 p hl
            simp only [Option.map_none, Option.bind_some, hu1, hv] at i1
            cases i1
        obtain ⟨x, hx⟩ := Option.isSome_iff_exists.1 this
        rw [hx] at i1 ⊢
        simp only [Option.some_or, i1, Option.bind_some]
        obtain ⟨k, r, rfl, _⟩ := fpi_at id l 0 p hl
        rw [Nat.sub_self]
        show (kidF l k).bind (fun u => atT u r) = (some (⟨key.1, key.2.1, key.2.2, l⟩ : Tr)).bind fun u => atT u (k :: r)
        simp only [Option.bind_some, atT]
        cases kidF l k <;> rfl
/-- The same from the root. -/
theorem find_path (id : Int) (t : Tr) : (findS id (spF 1 (rootF t))).map trOfS = (pathT id t).bind fun p => atT t p := by
  rw [find_fpi id (rootF t) 1 0]
  simp only [rootF, fpi, pathT]
  by_cases h : t.id = id
  · rw [if_pos h, if_pos h]; simp [kidF, foDrop, headT, atT]
  · rw [if_neg h, if_neg h]
    cases hl : fpi id 0 t.kids with
    | none => rfl
    | some p => simp [kidF, foDrop, headT]
theorem find_some (id : Int) (t : Tr) : (findS id (spF 1 (rootF t))).isSome = (pathT id t).isSome := by
  have h := find_path id t
  cases hp : pathT id t with
  | none => rw [hp] at h; simp at h; rw [h]; rfl
  | some p =>
    obtain ⟨v, hv⟩ : ∃ v, atT t p = some v := by
      rw [pathT] at hp
      split at hp
      · cases hp; exact ⟨t, rfl⟩
      · obtain ⟨k, r, rfl, _, u, hu, v, hv, _⟩ := fpi_at _ _ _ _ hp
        rw [Nat.sub_zero] at hu
        exact ⟨v, by simp only [atT]; rw [hu]; exact hv⟩
    rw [hp] at h
    simp only [Option.bind_some, hv] at h
    cases hf : findS id (spF 1 (rootF t)) with
    | none => rw [hf] at h; cases h
    | some x => rfl
theorem path_ids (id : Int) (t : Tr) (p : List Nat) (hp : pathT id t = some p) : ∃ v, atT t p = some v ∧ v.id = id := by
  rw [pathT] at hp
  split at hp
  · next h => cases hp; exact ⟨t, rfl, h⟩
  · obtain ⟨k, r, rfl, _, u, hu, v, hv, hi⟩ := fpi_at _ _ _ _ hp
    rw [Nat.sub_zero] at hu
    exact ⟨v, by simp only [atT]; rw [hu]; exact hv, hi⟩
theorem lcp_pre {α : Type} [DecidableEq α] : ∀ (l m : List α), lcp l m = l.length ↔ l <+: m
  | [], m => by simp [lcp]
  | a :: l, [] => by simp [lcp]
  | a :: l, b :: m => by
    simp only [lcp, List.length_cons]
    by_cases h : a = b
    · subst h
      rw [if_pos rfl, List.cons_prefix_cons]
      simp [lcp_pre l m]
    · rw [if_neg h]
      simp [List.cons_prefix_cons, h]
theorem pre_lcp {α : Type} [DecidableEq α] : ∀ (x l m : List α), (x <+: l ∧ x <+: m) ↔ x <+: l.take (lcp l m)
  | [], l, m => by simp
  | x :: xs, [], m => by simp [lcp]
  | x :: xs, a :: l, [] => by simp [lcp]
  | x :: xs, a :: l, b :: m => by
    simp only [lcp, List.cons_prefix_cons]
    by_cases h : a = b
    · subst h
      rw [if_pos rfl, List.take_succ_cons, List.cons_prefix_cons, ← pre_lcp xs l m]
      constructor
      · rintro ⟨⟨h1, h2⟩, _, h3⟩; exact ⟨h1, h2, h3⟩
      · rintro ⟨h1, h2, h3⟩; exact ⟨⟨h1, h2⟩, h1, h3⟩
    · rw [if_neg h]
      constructor
      · rintro ⟨⟨h1, _⟩, h2, _⟩; exact absurd (h1.symm.trans h2) h
      · intro h1; simp at h1
theorem at_take : ∀ (p : List Nat) (t u : Tr) (k : Nat), atT t p = some u → ∃ v, atT t (p.take k) = some v
  | _, t, u, 0, _ => ⟨t, by simp [atT]⟩
  | [], t, u, k + 1, _ => ⟨t, rfl⟩
  | i :: p, t, u, k + 1, h => by
    simp only [atT, List.take_succ_cons] at h ⊢
    cases hk : kidF t.kids i with
    | none => rw [hk] at h; cases h
    | some w => rw [hk] at h; exact at_take p w u k h
/-- Where the lowest common one is, stands its path. -/
theorem common_path {t : Tr} {a b : Int} {p q : List Nat} (hd : DistT t) (ha : pathT a t = some p) (hb : pathT b t = some q) : pathT (commonT a b t).1 t = some (p.take (lcp p q)) := by
  obtain ⟨v, hv, _⟩ := path_ids a t p ha
  obtain ⟨u, hu⟩ := at_take p t v (lcp p q) hv
  have : (commonT a b t).1 = u.id := by rw [commonT, ha, hb]; simp [idAt, hu]
  rw [this]
  exact pathT_uniq hd hu
theorem within_pre {t : Tr} {a b : Int} {p q : List Nat} (ha : pathT a t = some p) (hb : pathT b t = some q) : withinT a b t = decide (p <+: q) := by
  rw [withinT, ha, hb]
  simp only [decide_eq_decide]
  exact lcp_pre p q
theorem within_none {t : Tr} {a b : Int} (h : pathT a t = none ∨ pathT b t = none) : withinT a b t = false := by
  rw [withinT]
  rcases h with h | h
  · rw [h]
  · rw [h]; cases pathT a t <;> rfl
/-- What is within both is within the lowest common one. -/
theorem common_within {t : Tr} {a b x : Int} {p q : List Nat} (hd : DistT t) (ha : pathT a t = some p) (hb : pathT b t = some q) : withinT x (commonT a b t).1 t = (withinT x a t && withinT x b t) := by
  have hc := common_path hd ha hb
  cases hx : pathT x t with
  | none => rw [within_none (Or.inl hx), within_none (Or.inl hx)]; rfl
  | some r =>
    rw [within_pre hx hc, within_pre hx ha, within_pre hx hb, ← Bool.decide_and, decide_eq_decide]
    exact (pre_lcp r p q).symm
theorem common_comm (a b : Int) (t : Tr) : commonT a b t = commonT b a t := by
  rw [commonT, commonT]
  cases ha : pathT a t with
  | none => cases pathT b t <;> rfl
  | some p =>
    cases hb : pathT b t with
    | none => rfl
    | some q => simp only; rw [lcp_take p q, lcp_comm p q]
theorem common_none {t : Tr} {a b : Int} (h : (commonT a b t).2 = false) : (commonT a b t).1 = 0 ∧ ∀ x, (withinT x a t && withinT x b t) = false := by
  rw [commonT] at h ⊢
  cases ha : pathT a t with
  | none => exact ⟨rfl, fun x => by rw [within_none (Or.inr ha)]; rfl⟩
  | some p =>
    cases hb : pathT b t with
    | none => exact ⟨rfl, fun x => by rw [within_none (a := x) (Or.inr hb)]; simp⟩
    | some q => rw [ha, hb] at h; cases h
/-- A node is within another just if it is that, or that is above it. -/
theorem within_above {t : Tr} {a b : Int} (hd : DistT t) {p : List Nat} (ha : pathT a t = some p) : withinT a b t = ((pathT b t).isSome && (decide (a = b) || decide (a ∈ aboveT b t))) := by
  cases hb : pathT b t with
  | none => rw [within_none (Or.inr hb)]; rfl
  | some q =>
    rw [within_pre ha hb]
    simp only [Option.isSome_some, Bool.true_and, ← Bool.decide_or, decide_eq_decide]
    obtain ⟨v, hv, hva⟩ := path_ids a t p ha
    obtain ⟨u, hu, hub⟩ := path_ids b t q hb
    rw [aboveT, hb]
    simp only [List.mem_reverse]
    have hmem : a ∈ (wayIds t q).take q.length ↔ ∃ k, k < q.length ∧ idAt t (q.take k) = a := by
      rw [wayIds, ← List.map_take, List.take_range, List.mem_map]
      constructor
      · rintro ⟨k, hk, e⟩; exact ⟨k, by have := List.mem_range.1 hk; omega, e⟩
      · rintro ⟨k, hk, e⟩; exact ⟨k, List.mem_range.2 (by omega), e⟩
    rw [hmem]
    constructor
    · intro hpre
      have hpt := List.prefix_iff_eq_take.1 hpre
      have hlen := hpre.length_le
      by_cases he : p.length = q.length
      · left
        rw [he, List.take_length] at hpt
        subst hpt
        rw [hv] at hu; cases hu
        rw [← hva, ← hub]
      · right
        refine ⟨p.length, by omega, ?_⟩
        rw [← hpt, idAt, hv]
        exact hva
    · rintro (he | ⟨k, hk, he⟩)
      · subst he
        rw [ha] at hb; cases hb
        exact List.prefix_refl _
      · obtain ⟨w, hw⟩ := at_take q t u k hu
        rw [idAt, hw] at he
        have h1 := pathT_uniq hd hw
        have he2 : w.id = a := he
        rw [he2, ha] at h1
        cases h1
        exact List.take_prefix _ _


def ApartC (w : World) (T : List Sp) (e : Ending) (w' : World) : Prop := ∃ b, e = .returned (.bool b) ∧ (b = true → (T.map fun x => x.2.1.1).Nodup) ∧ Below w.heap.size w w'
theorem nodup_more {T : List Sp} {k : Nat} {x : Sp} (h : ((T.take k).map fun x => x.2.1.1).Nodup) (hx : T[k]? = some x) (hn : ∀ m y, m < k → T[m]? = some y → y.2.1.1 ≠ x.2.1.1) : ((T.take (k + 1)).map fun x => x.2.1.1).Nodup := by
  rw [List.take_add_one, hx, List.map_append, List.nodup_append]
  refine ⟨h, by simp, fun a ha b hb => ?_⟩
  simp only [Option.toList_some, List.map_cons, List.map_nil, List.mem_singleton] at hb
  obtain ⟨y, hy, rfl⟩ := List.mem_map.1 ha
  obtain ⟨m, hm⟩ := List.mem_iff_getElem?.1 hy
  rw [List.getElem?_take] at hm
  split at hm
  · next hlt => rw [hb]; exact hn m y hlt hm
  · cases hm
set_option maxRecDepth 100000 in
set_option maxHeartbeats 4000000 in
theorem apart_any (w : World) (S : Nat → Prop) (B : Nat) (a : Option Addr) (n cap : Nat) (T : List Sp) (hT : SpotsN S w B (.slice a n cap) n T) (hn : n ≤ 100000) :
    Calls Try.prog 28 #[.slice a n cap] w (ApartC w T) := by
  have HT := Lib.hid hT
  clear hT
  go_enter Try.func28, Try.ntmps28
  go_wp2_with fail
  go_loopw [3] (fun i wr => ∃ k : Nat, k ≤ n ∧ i = .int .i64 (k : Int) ∧ Hid (Below w.heap.size w wr ∧ ((T.take k).map fun x => x.2.1.1).Nodup)) (fun i _ => n - (intOf i).toNat)
  case atStart => exact ⟨0, Nat.zero_le _, rfl, Lib.hid ⟨Below.refl _ _, by simp⟩⟩
  case round =>
    obtain ⟨k, hk, rfl, hh⟩ := hrel
    by_cases hlt : k < n
    · have hki : (k : Int) < (n : Int) := by omega
      obtain ⟨x, hx⟩ : ∃ x, T[k]? = some x := ⟨_, List.getElem?_eq_getElem (by rw [HT.out.1]; exact hlt)⟩
      have HXK := Lib.hid (And.intro hx hlt)
      have HOUT := hh
      clear hx hlt hk
      go_wp2_with fail
      go_loopw [4] (fun j wr => ∃ m : Nat, m ≤ k ∧ j = .int .i64 (m : Int) ∧ Hid (Below w.heap.size w wr ∧ ∀ c y, c < m → T[c]? = some y → y.2.1.1 ≠ x.2.1.1)) (fun j _ => k - (intOf j).toNat)
      case atStart => exact ⟨0, Nat.zero_le _, rfl, Lib.hid ⟨HOUT.out.1, fun c y h => by omega⟩⟩
      case round =>
        obtain ⟨m, hm, rfl, hi⟩ := hrel
        by_cases hlm : m < k
        · have hmi : (m : Int) < (k : Int) := by omega
          obtain ⟨y, hy⟩ : ∃ y, T[m]? = some y := ⟨_, List.getElem?_eq_getElem (by rw [HT.out.1]; have := HXK.out.2; omega)⟩
          obtain ⟨g, rfl, hg, c0, _⟩ := spots_ge HT.out HXK.out.1
          obtain ⟨g', e', _, d0, _⟩ := spots_ge HT.out hy
          cases e'
          have hcap : n ≤ cap := by
            obtain ⟨_, xs, ho, _⟩ := HT.out
            rcases ho.2 with ⟨hv, h0⟩ | ⟨_, _, _, hv, _, _, h3, _⟩
            · cases hv
            · cases hv; exact h3
          have p0 := (hi.out.1.cell (p := ⟨g, k * 5, none⟩) hg).trans c0
          have p1 := (hi.out.1.cell (p := ⟨g, m * 5, none⟩) hg).trans d0
          have HX := Lib.hid (fun (X : World) (h : Below wr.heap.size wr X) => (show X.cell? ⟨g, k * 5, none⟩ = some (.int .i64 x.2.1.1) ∧ X.cell? ⟨g, m * 5, none⟩ = some (.int .i64 y.2.1.1) from ⟨(h.cell (World.block_lt_of_cell? _ _ p0)).trans p0, (h.cell (World.block_lt_of_cell? _ _ p1)).trans p1⟩))
          have HM := Lib.hid (And.intro hy hlm)
          have hkn : k < n := HXK.out.2
          have hmn : (m : Int) < (n : Int) := by omega
          clear hy hlm hm c0 d0 hg p0 p1
          by_cases he : x.2.1.1 = y.2.1.1
          · have hb : (x.2.1.1 == y.2.1.1) = true := by simpa using he
            clear he
            go_wp2_with fail
            refine wp_region_quiet (C := fun X => Below wr.heap.size wr X) (by kernel_rfl) (by kernel_rfl) (below_drewN (Below.refl _ wr) 1) ?_
            refine quiet_open (fun QQ hQQ => ?_)
            have HQQ := Lib.hid hQQ
            clear hQQ
            with_reducible refine wpQuiet_step ?_
            intro K hK
            rw [if_pos (by rfl)]
            refine ⟨.slice (some ⟨g, 0, none⟩) n cap, fun X hX => ?_, hK _ ?_⟩
            · clear hK; go_simp
            clear hK K
            simp only [Act.put, List.setIfInBounds_toArray, List.set_cons_zero, List.set_cons_succ]
            with_reducible refine wpQuiet_step ?_
            intro K hK
            rw [if_pos (by rfl)]
            refine ⟨.int .i64 (k : Int), fun X hX => ?_, hK _ ?_⟩
            · clear hK; go_simp
            clear hK K
            simp only [Act.put, List.setIfInBounds_toArray, List.set_cons_zero, List.set_cons_succ]
            with_reducible refine wpQuiet_step ?_
            intro K hK
            rw [if_pos (by rfl)]
            refine ⟨.pointer (some ⟨g, k * 5, none⟩), fun X hX => ?_, hK _ ?_⟩
            · clear hK; go_simp
            clear hK K
            simp only [Act.put, List.setIfInBounds_toArray, List.set_cons_zero, List.set_cons_succ]
            with_reducible refine wpQuiet_step ?_
            intro K hK
            rw [if_pos (by rfl)]
            refine ⟨.pointer (some ⟨g, k * 5, none⟩), fun X hX => ?_, hK _ ?_⟩
            · clear hK; go_simp
            clear hK K
            simp only [Act.put, List.setIfInBounds_toArray, List.set_cons_zero, List.set_cons_succ]
            with_reducible refine wpQuiet_step ?_
            intro K hK
            rw [if_pos (by rfl)]
            refine ⟨.pointer (some ⟨g, k * 5, none⟩), fun X hX => ?_, hK _ ?_⟩
            · clear hK; go_simp
            clear hK K
            simp only [Act.put, List.setIfInBounds_toArray, List.set_cons_zero, List.set_cons_succ]
            with_reducible refine wpQuiet_step ?_
            intro K hK
            rw [if_pos (by rfl)]
            refine ⟨.int .i64 x.2.1.1, fun X hX => ?_, hK _ ?_⟩
            · clear hK; obtain ⟨s0, s1⟩ := HX.out X hX; go_simp
            clear hK K
            simp only [Act.put, List.setIfInBounds_toArray, List.set_cons_zero, List.set_cons_succ]
            with_reducible refine wpQuiet_step ?_
            intro K hK
            rw [if_pos (by rfl)]
            refine ⟨.slice (some ⟨g, 0, none⟩) n cap, fun X hX => ?_, hK _ ?_⟩
            · clear hK; go_simp
            clear hK K
            simp only [Act.put, List.setIfInBounds_toArray, List.set_cons_zero, List.set_cons_succ]
            with_reducible refine wpQuiet_step ?_
            intro K hK
            rw [if_pos (by rfl)]
            refine ⟨.int .i64 (m : Int), fun X hX => ?_, hK _ ?_⟩
            · clear hK; go_simp
            clear hK K
            simp only [Act.put, List.setIfInBounds_toArray, List.set_cons_zero, List.set_cons_succ]
            with_reducible refine wpQuiet_step ?_
            intro K hK
            rw [if_pos (by rfl)]
            refine ⟨.pointer (some ⟨g, m * 5, none⟩), fun X hX => ?_, hK _ ?_⟩
            · clear hK; go_simp
            clear hK K
            simp only [Act.put, List.setIfInBounds_toArray, List.set_cons_zero, List.set_cons_succ]
            with_reducible refine wpQuiet_step ?_
            intro K hK
            rw [if_pos (by rfl)]
            refine ⟨.pointer (some ⟨g, m * 5, none⟩), fun X hX => ?_, hK _ ?_⟩
            · clear hK; go_simp
            clear hK K
            simp only [Act.put, List.setIfInBounds_toArray, List.set_cons_zero, List.set_cons_succ]
            with_reducible refine wpQuiet_step ?_
            intro K hK
            rw [if_pos (by rfl)]
            refine ⟨.pointer (some ⟨g, m * 5, none⟩), fun X hX => ?_, hK _ ?_⟩
            · clear hK; go_simp
            clear hK K
            simp only [Act.put, List.setIfInBounds_toArray, List.set_cons_zero, List.set_cons_succ]
            with_reducible refine wpQuiet_step ?_
            intro K hK
            rw [if_pos (by rfl)]
            refine ⟨.int .i64 y.2.1.1, fun X hX => ?_, hK _ ?_⟩
            · clear hK; obtain ⟨s0, s1⟩ := HX.out X hX; go_simp
            clear hK K
            simp only [Act.put, List.setIfInBounds_toArray, List.set_cons_zero, List.set_cons_succ]
            with_reducible refine wpQuiet_step ?_
            intro K hK
            rw [if_pos (by rfl)]
            refine ⟨.bool true, fun X hX => ?_, hK _ ?_⟩
            · clear hK; go_simp
            clear hK K
            simp only [Act.put, List.setIfInBounds_toArray, List.set_cons_zero, List.set_cons_succ]
            refine wpQuiet_nil (HQQ.out _ ?_)
            clear HQQ
            intro V hV
            have HV := Lib.hid hV
            clear hV
            go_wp2_with fail
            go_ret
            exact ⟨false, rfl, (fun e => by cases e), hi.out.1.trans (HV.out.mono hi.out.1.size)⟩
          · have hb : (x.2.1.1 == y.2.1.1) = false := by simpa using he
            have HE := Lib.hid he
            clear he
            go_wp2_with fail
            refine wp_region_quiet (C := fun X => Below wr.heap.size wr X) (by kernel_rfl) (by kernel_rfl) (below_drewN (Below.refl _ wr) 1) ?_
            refine quiet_open (fun QQ hQQ => ?_)
            have HQQ := Lib.hid hQQ
            clear hQQ
            with_reducible refine wpQuiet_step ?_
            intro K hK
            rw [if_pos (by rfl)]
            refine ⟨.slice (some ⟨g, 0, none⟩) n cap, fun X hX => ?_, hK _ ?_⟩
            · clear hK; go_simp
            clear hK K
            simp only [Act.put, List.setIfInBounds_toArray, List.set_cons_zero, List.set_cons_succ]
            with_reducible refine wpQuiet_step ?_
            intro K hK
            rw [if_pos (by rfl)]
            refine ⟨.int .i64 (k : Int), fun X hX => ?_, hK _ ?_⟩
            · clear hK; go_simp
            clear hK K
            simp only [Act.put, List.setIfInBounds_toArray, List.set_cons_zero, List.set_cons_succ]
            with_reducible refine wpQuiet_step ?_
            intro K hK
            rw [if_pos (by rfl)]
            refine ⟨.pointer (some ⟨g, k * 5, none⟩), fun X hX => ?_, hK _ ?_⟩
            · clear hK; go_simp
            clear hK K
            simp only [Act.put, List.setIfInBounds_toArray, List.set_cons_zero, List.set_cons_succ]
            with_reducible refine wpQuiet_step ?_
            intro K hK
            rw [if_pos (by rfl)]
            refine ⟨.pointer (some ⟨g, k * 5, none⟩), fun X hX => ?_, hK _ ?_⟩
            · clear hK; go_simp
            clear hK K
            simp only [Act.put, List.setIfInBounds_toArray, List.set_cons_zero, List.set_cons_succ]
            with_reducible refine wpQuiet_step ?_
            intro K hK
            rw [if_pos (by rfl)]
            refine ⟨.pointer (some ⟨g, k * 5, none⟩), fun X hX => ?_, hK _ ?_⟩
            · clear hK; go_simp
            clear hK K
            simp only [Act.put, List.setIfInBounds_toArray, List.set_cons_zero, List.set_cons_succ]
            with_reducible refine wpQuiet_step ?_
            intro K hK
            rw [if_pos (by rfl)]
            refine ⟨.int .i64 x.2.1.1, fun X hX => ?_, hK _ ?_⟩
            · clear hK; obtain ⟨s0, s1⟩ := HX.out X hX; go_simp
            clear hK K
            simp only [Act.put, List.setIfInBounds_toArray, List.set_cons_zero, List.set_cons_succ]
            with_reducible refine wpQuiet_step ?_
            intro K hK
            rw [if_pos (by rfl)]
            refine ⟨.slice (some ⟨g, 0, none⟩) n cap, fun X hX => ?_, hK _ ?_⟩
            · clear hK; go_simp
            clear hK K
            simp only [Act.put, List.setIfInBounds_toArray, List.set_cons_zero, List.set_cons_succ]
            with_reducible refine wpQuiet_step ?_
            intro K hK
            rw [if_pos (by rfl)]
            refine ⟨.int .i64 (m : Int), fun X hX => ?_, hK _ ?_⟩
            · clear hK; go_simp
            clear hK K
            simp only [Act.put, List.setIfInBounds_toArray, List.set_cons_zero, List.set_cons_succ]
            with_reducible refine wpQuiet_step ?_
            intro K hK
            rw [if_pos (by rfl)]
            refine ⟨.pointer (some ⟨g, m * 5, none⟩), fun X hX => ?_, hK _ ?_⟩
            · clear hK; go_simp
            clear hK K
            simp only [Act.put, List.setIfInBounds_toArray, List.set_cons_zero, List.set_cons_succ]
            with_reducible refine wpQuiet_step ?_
            intro K hK
            rw [if_pos (by rfl)]
            refine ⟨.pointer (some ⟨g, m * 5, none⟩), fun X hX => ?_, hK _ ?_⟩
            · clear hK; go_simp
            clear hK K
            simp only [Act.put, List.setIfInBounds_toArray, List.set_cons_zero, List.set_cons_succ]
            with_reducible refine wpQuiet_step ?_
            intro K hK
            rw [if_pos (by rfl)]
            refine ⟨.pointer (some ⟨g, m * 5, none⟩), fun X hX => ?_, hK _ ?_⟩
            · clear hK; go_simp
            clear hK K
            simp only [Act.put, List.setIfInBounds_toArray, List.set_cons_zero, List.set_cons_succ]
            with_reducible refine wpQuiet_step ?_
            intro K hK
            rw [if_pos (by rfl)]
            refine ⟨.int .i64 y.2.1.1, fun X hX => ?_, hK _ ?_⟩
            · clear hK; obtain ⟨s0, s1⟩ := HX.out X hX; go_simp
            clear hK K
            simp only [Act.put, List.setIfInBounds_toArray, List.set_cons_zero, List.set_cons_succ]
            with_reducible refine wpQuiet_step ?_
            intro K hK
            rw [if_pos (by rfl)]
            refine ⟨.bool false, fun X hX => ?_, hK _ ?_⟩
            · clear hK; go_simp
            clear hK K
            simp only [Act.put, List.setIfInBounds_toArray, List.set_cons_zero, List.set_cons_succ]
            refine wpQuiet_nil (HQQ.out _ ?_)
            clear HQQ
            intro V hV
            have HV := Lib.hid hV
            clear hV
            go_wp2_with fail
            exact ⟨⟨m + 1, by have := HM.out.2; omega, by go_num, Lib.hid ⟨hi.out.1.trans (HV.out.mono hi.out.1.size), fun c z hc hz => by
              rcases Nat.lt_or_ge c m with h1 | h1
              · exact hi.out.2 c z h1 hz
              · have : c = m := by omega
                subst this
                rw [HM.out.1] at hz; cases hz
                exact fun e => HE.out e.symm⟩⟩, by have := HM.out.2; simp [intOf]; omega⟩
        · have hmk : m = k := by omega
          have hmi : ¬ (m : Int) < (k : Int) := by omega
          have HMK := Lib.hid hmk
          clear hmk hlm hm
          go_wp2_with fail
          exact ⟨⟨k + 1, by have := HXK.out.2; omega, by go_num, Lib.hid ⟨hi.out.1, nodup_more HOUT.out.2 HXK.out.1 (fun c y hc hy => hi.out.2 c y (by rw [HMK.out]; exact hc) hy)⟩⟩, by have := HXK.out.2; simp [intOf]; omega⟩
    · have hki : ¬ (k : Int) < (n : Int) := by omega
      have hkn : k = n := by omega
      have HK := Lib.hid hkn
      clear hkn hlt hk
      go_wp2_with fail
      go_ret
      refine ⟨true, rfl, fun _ => ?_, hh.out.1⟩
      have h := hh.out.2
      rw [List.take_of_length_le (by rw [HT.out.1, HK.out]; exact Nat.le_refl _)] at h
      exact h
end Go.Proofs.Ytjppibomjnmjpaa
