/-
  What StepBack answers: true. No condition but that its arguments lie in memory as they came in.
-/
import Derived.Deep.Cut
import Derived.Test.YtfdcopegkhofnaaKOpenQb
import Derived.Test.YtfdcopegkhofnaaKPlacePQb
import Derived.Test.YtfdcopegkhofnaaKWakesQb
import Derived.Test.YtfdcopegkhofnaaRSameQb
namespace Go.Proofs.Ytfdcopegkhofnaa
open Go.RowKit Go.Shelf
open Go.Maps
set_option linter.unusedVariables false
set_option linter.unusedSimpArgs false

theorem wpAnyH_more {P : Program} {md : Region.Mode} {ops : Array Oper} {Q : Exit → Act → World → Prop} {S S' : World → Prop} (hS : ∀ w, S' w → S w) : ∀ {fuel : Nat} {listed : Array Bool} {a : Act} {w : World}, wpAnyH P md ops Q S' fuel listed a w → wpAnyH P md ops Q S fuel listed a w
  | 0, _, _, _, h => h
  | _ + 1, _, _, _, h => ⟨h.1, fun i hi => wpOp_mono (fun _ _ h' => ⟨hS _ h'.1, wpAnyH_more hS h'.2⟩) (h.2 i hi)⟩
theorem foFit_szK : ∀ f : Fo, foSize f ≤ 9223372036854775807 → foFit f
  | .nil, _ => True.intro
  | .node _ _ _ l r, h => by
    have h1 := foLen_le l
    simp only [foSize] at h
    exact ⟨by omega, foFit_szK l (by omega), foFit_szK r (by omega)⟩
def YesK (w : World) (e : Ending) (w' : World) : Prop := e = .returned (.bool true) ∧ Below w.heap.size w w'
set_option maxRecDepth 100000 in
set_option maxHeartbeats 16000000 in
theorem stepBack_any (w : World) (S : Nat → Prop) (nv : Value) (t : Tr) (op id par at_ s1 s2 : Int) (tx s3 : ByteArray) (sa : Option Addr) (sn sc : Nat) (hS : ∀ y, S y → y < w.heap.size) (ht : TrAt w S nv t) (hlen : foLen t.kids ≤ 9223372036854775807) (hfit : foFit t.kids) (hok : okF (spF 1 (rootF t))) :
    Calls Try.prog 12 #[nv, .agg #[.int .i8 op, .int .i64 id, .int .i64 par, .int .i64 at_, .string tx, .int .i64 s1, .int .i64 s2, .string s3, .slice sa sn sc]] w (YesK w) := by
  obtain ⟨ka, tc, rfl, hcap, hk⟩ := ht
  obtain ⟨nk, hnk⟩ : ∃ nk, nk = foLen t.kids := ⟨_, rfl⟩
  rw [← hnk]
  obtain ⟨B, hB⟩ : ∃ B, B = allocs w [.cells #[.int .i64 t.id, .int .i64 t.kind, .string t.text, .slice ka nk tc] 24, .cells #[.int .i8 op, .int .i64 id, .int .i64 par, .int .i64 at_, .string tx, .int .i64 s1, .int .i64 s2, .string s3, .slice sa sn sc] 47] := ⟨_, rfl⟩
  have hb : Below w.heap.size w B := by rw [hB]; exact allocs_below _ _
  have ht0 : B.heap[w.heap.size]? = some (.cells #[.int .i64 t.id, .int .i64 t.kind, .string t.text, .slice ka nk tc] 24 (0, 0)) := by rw [hB]; exact allocs_at _ _ 0 _ rfl
  have hs0 : B.heap[w.heap.size + 1]? = some (.cells #[.int .i8 op, .int .i64 id, .int .i64 par, .int .i64 at_, .string tx, .int .i64 s1, .int .i64 s2, .string s3, .slice sa sn sc] 47 (0, 0)) := by rw [hB]; exact allocs_at _ _ 1 _ rfl
  have htr : ∀ X, Below B.heap.size B X → TrAt X S (.agg #[.int .i64 t.id, .int .i64 t.kind, .string t.text, .slice ka nk tc]) t := fun X hX => ⟨ka, tc, by rw [hnk], by rw [hnk] at *; exact hcap, hk.below (hb.trans (hX.mono hb.size)) hS⟩
  have hSX : ∀ X, Below B.heap.size B X → ∀ y, S y → y < X.heap.size := fun X hX y hy => Nat.lt_of_lt_of_le (hS y hy) (Nat.le_trans hb.size hX.size)
  have hgr : ∀ X, Below B.heap.size B X → Calls Try.prog 13 #[.agg #[.int .i64 t.id, .int .i64 t.kind, .string t.text, .slice ka nk tc]] X (GreatC3 X t) := fun X hX => great3_any X S _ t hlen hfit (hSX X hX) (htr X hX)
  have hid : ∀ X, Below B.heap.size B X → Calls Try.prog 71 #[.agg #[.int .i64 t.id, .int .i64 t.kind, .string t.text, .slice ka nk tc]] X (IdsN X S ((spF 1 (rootF t)).take 1000)) := fun X hX => idsN_any X S _ t hlen hfit (hSX X hX) (htr X hX) (fun x hx => (hok x hx).2)
  have hwk : ∀ X, Below B.heap.size B X → Calls Try.prog 28 #[.agg #[.int .i64 t.id, .int .i64 t.kind, .string t.text, .slice ka nk tc], .int .i64 251] X (WalkM X S t 251) := fun X hX => walkM_any 251 (by omega) X S _ t hlen hfit (hSX X hX) (htr X hX)
  have hcell : ∀ X, Below B.heap.size B X → (X.cell? ⟨w.heap.size, 0, none⟩ = some (.int .i64 t.id) ∧ X.cell? ⟨w.heap.size, 1, none⟩ = some (.int .i64 t.kind) ∧ X.cell? ⟨w.heap.size, 2, none⟩ = some (.string t.text) ∧ X.cell? ⟨w.heap.size, 3, none⟩ = some (.slice ka nk tc)) ∧ X.cell? ⟨w.heap.size + 1, 0, none⟩ = some (.int .i8 op) ∧ X.cell? ⟨w.heap.size + 1, 1, none⟩ = some (.int .i64 id) ∧ X.cell? ⟨w.heap.size + 1, 2, none⟩ = some (.int .i64 par) ∧ X.cell? ⟨w.heap.size + 1, 3, none⟩ = some (.int .i64 at_) := fun X hX => by
    have e0 := (hX.block _ (lt_of_heap ht0)).trans ht0
    have e1 := (hX.block _ (lt_of_heap hs0)).trans hs0
    exact ⟨box4 e0, by rw [cell_of_row _ _ 0 _ _ _ e1]; rfl, by rw [cell_of_row _ _ 1 _ _ _ e1]; rfl, by rw [cell_of_row _ _ 2 _ _ _ e1]; rfl, by rw [cell_of_row _ _ 3 _ _ _ e1]; rfl⟩
  have HF := Lib.hid (And.intro hlen hfit)
  have HT := Lib.hid (And.intro htr hS)
  have HSXX := Lib.hid hSX
  have HGR := Lib.hid hgr
  have HID := Lib.hid hid
  have HWK := Lib.hid hwk
  have HCE := Lib.hid hcell
  have HB := Lib.hid hb
  have HB0 := Lib.hid (Below.refl B.heap.size B)
  have HBB0 := Lib.hid (Below.refl B.heap.size B)
  have HBE := Lib.hid hB
  clear hgr hid hwk hcell htr hSX hb ht0 hs0 hS hk hcap hnk hB hlen hfit hok
  go_enter Try.func12, Try.ntmps12
  go_upto_region 1 with fail
  change Code.wp _ _ _ _ (allocs w [.cells #[.int .i64 t.id, .int .i64 t.kind, .string t.text, .slice ka nk tc] 24, .cells #[.int .i8 op, .int .i64 id, .int .i64 par, .int .i64 at_, .string tx, .int .i64 s1, .int .i64 s2, .string s3, .slice sa sn sc] 47])
  rw [← HBE.out]
  clear HBE
  refine wp_region_held_drew (S := fun X => Below B.heap.size B X) (by kernel_rfl) (below_drewN (Below.refl _ B) 1) (fun hHeld => ?_)
  refine wpAnyH_take (i := 0) (oi := _) (v := .agg #[.int .i64 t.id, .int .i64 t.kind, .string t.text, .slice ka nk tc]) rfl (by kernel_rfl) (by kernel_rfl) (by kernel_rfl) (fun _ _ _ h => h) (Or.inl ⟨by rfl, ?_⟩) (by assumption) ?_
  · clear hHeld; intro X hSw; obtain ⟨⟨n0, n1, n2, n3⟩, m0, m1, m2, m3⟩ := HCE.out X hSw; clear hSw; go_simp
  simp only [Act.put, List.getElem_toArray, List.getElem_cons_zero, List.getElem_cons_succ, List.setIfInBounds_toArray, List.set_cons_zero, List.set_cons_succ]
  refine wpAnyH_ready (rs := [1]) (by kernel_rfl) (by simp) ?_
  refine AllReadyH.cons (o := _) rfl (fun K hK => ?_) AllReadyH.nil
  rw [if_pos (by rfl)]
  simp only [List.getElem_toArray, List.getElem_cons_zero, List.getElem_cons_succ]
  have HK := Lib.hid hK
  have HS := Lib.hid hHeld
  clear hK hHeld
  go_wp2_with (go_at_call 13; refine (HGR.out _ HS.out).mono ?_; rintro e w4 ⟨bg, rfl, hbg, hb4⟩; have HS4 := Lib.hid (HS.out.trans (hb4.mono HS.out.size)); have HBG := Lib.hid hbg; clear hb4 hbg)
  refine HK.out _ _ HS4.out (fun hHeld => ?_)
  clear HK HS
  have HBw4 := Lib.hid HS4.out
  clear HS4
  cases bg
  · have hsz := HBG.out rfl
    refine wpAnyH_take (i := 2) (oi := _) (v := .bool false) rfl (by kernel_rfl) (by kernel_rfl) (by kernel_rfl) (fun _ _ _ h => h) (Or.inl ⟨by rfl, ?_⟩) (by assumption) ?_
    · clear hHeld; intro X hSw; clear hSw; go_simp
    simp only [Act.put, List.getElem_toArray, List.getElem_cons_zero, List.getElem_cons_succ, List.setIfInBounds_toArray, List.set_cons_zero, List.set_cons_succ]
    refine wpAnyH_take (i := 3) (oi := _) (v := .agg #[.int .i64 t.id, .int .i64 t.kind, .string t.text, .slice ka nk tc]) rfl (by kernel_rfl) (by kernel_rfl) (by kernel_rfl) (fun _ _ _ h => h) (Or.inl ⟨by rfl, ?_⟩) (by assumption) ?_
    · clear hHeld; intro X hSw; obtain ⟨⟨n0, n1, n2, n3⟩, m0, m1, m2, m3⟩ := HCE.out X hSw; clear hSw; go_simp
    simp only [Act.put, List.getElem_toArray, List.getElem_cons_zero, List.getElem_cons_succ, List.setIfInBounds_toArray, List.set_cons_zero, List.set_cons_succ]
    refine wpAnyH_take (i := 6) (oi := _) (v := .agg #[.int .i64 t.id, .int .i64 t.kind, .string t.text, .slice ka nk tc]) rfl (by kernel_rfl) (by kernel_rfl) (by kernel_rfl) (fun _ _ _ h => h) (Or.inl ⟨by rfl, ?_⟩) (by assumption) ?_
    · clear hHeld; intro X hSw; obtain ⟨⟨n0, n1, n2, n3⟩, m0, m1, m2, m3⟩ := HCE.out X hSw; clear hSw; go_simp
    simp only [Act.put, List.getElem_toArray, List.getElem_cons_zero, List.getElem_cons_succ, List.setIfInBounds_toArray, List.set_cons_zero, List.set_cons_succ]
    have hall : ∀ M, 250 ≤ M → (spF 1 (rootF t)).take M = spF 1 (rootF t) := fun M hM => List.take_of_length_le (by rw [spF_length, rootF_size]; omega)
    have HT1 := Lib.hid (hall 1000 (by omega))
    have HTK := Lib.hid (hall 251 (by omega))
    obtain ⟨n2, hn2⟩ : ∃ n2, n2 = (spF 1 (rootF t)).length := ⟨_, rfl⟩
    have HN2E := Lib.hid hn2.symm
    have HTL := Lib.hid (show ((spF 1 (rootF t)).take 251).length = n2 by rw [hall 251 (by omega), hn2])
    have hn2s : n2 ≤ 251 := by rw [hn2, spF_length, rootF_size]; omega
    have HSZ := Lib.hid (show foSize t.kids + 1 ≤ 250 from hsz)
    clear hall hn2 hsz HBG HGR
    refine wpAnyH_ready (rs := [4]) (by kernel_rfl) (by simp) ?_
    refine AllReadyH.cons (o := _) rfl (fun K hK => ?_) AllReadyH.nil
    rw [if_pos (by rfl)]
    simp only [List.getElem_toArray, List.getElem_cons_zero, List.getElem_cons_succ]
    have HK := Lib.hid hK
    have HS := Lib.hid hHeld
    clear hK hHeld
    go_wp2_with (go_at_call 71; refine (HID.out _ (HBB0.out.trans ((HS.out).mono HBB0.out.size))).mono ?_; rintro e w5 ⟨mb, L, rfl, hmb, hown, hvals, hb5⟩; have H5 := Lib.hid (And.intro hown hvals); have HS5 := Lib.hid (HS.out.trans (hb5.mono HS.out.size)); have HMB := Lib.hid hmb; clear hown hvals hb5 hmb)
    refine HK.out _ _ HS5.out (fun hHeld => ?_)
    clear HK HS
    have HBw5 := Lib.hid HS5.out
    have HMBw := Lib.hid (show OwnsN w5 mb ((spF 1 (rootF t)).take 1000).length L from H5.out.1)
    refine wpAnyH_more (S' := fun X => Below w5.heap.size w5 X) (fun X h => HBw5.out.trans (h.mono HBw5.out.size)) ?_
    have hHeld : Below w5.heap.size w5 w5 := Below.refl _ _
    obtain ⟨n1, hn1⟩ : ∃ n1, n1 = Maps.size (mapN L) := ⟨_, rfl⟩
    have HND : Hid (n1 = n2 → DistT t) := Lib.hid fun e => by
      have h1 := (mapN_size L).2
      have h2 := H5.out.2.ids
      rw [HT1.out] at h2
      have h3 : L.length = n2 := by rw [H5.out.2.1, HT1.out]; exact HN2E.out
      have h4 := h1.1 (by rw [← hn1, e, h3])
      rw [h2] at h4
      exact h4
    refine wpAnyH_take (i := 5) (oi := _) (v := .int .i64 (n1 : Int)) rfl (by kernel_rfl) (by kernel_rfl) (by kernel_rfl) (fun _ _ _ h => h) (Or.inl ⟨by rfl, ?_⟩) (by assumption) ?_
    · clear hHeld; intro X hSw; have hl := World.ownsMap.len (OwnsN.at HMBw.out (hSw.block _ (World.ownsMap.lt HMBw.out))) (e := 24) Try.underlying87 3; rw [← hn1] at hl; clear hSw; go_simp
    simp only [Act.put, List.getElem_toArray, List.getElem_cons_zero, List.getElem_cons_succ, List.setIfInBounds_toArray, List.set_cons_zero, List.set_cons_succ]
    clear hn1
    refine wpAnyH_ready (rs := [7]) (by kernel_rfl) (by simp) ?_
    refine AllReadyH.cons (o := _) rfl (fun K hK => ?_) AllReadyH.nil
    rw [if_pos (by rfl)]
    simp only [List.getElem_toArray, List.getElem_cons_zero, List.getElem_cons_succ]
    have HK := Lib.hid hK
    have HS := Lib.hid hHeld
    clear hK hHeld
    go_wp2_with (go_at_call 28; refine (HWK.out _ (HBw5.out.trans ((HS.out).mono HBw5.out.size))).mono ?_; rintro e w6 ⟨la, lc, rfl, hsp, hb6⟩; have HS6 := Lib.hid (HS.out.trans (hb6.mono HS.out.size)); have hn1 := hsp.1; have HN2 := Lib.hid (show ((spF 1 (rootF t)).take 251).length = ((spF 1 (rootF t)).take 251).length from rfl); clear hb6 hsp hn1; rw [HTL.out])
    refine HK.out _ _ HS6.out (fun hHeld => ?_)
    clear HK HS
    have HBw6 := Lib.hid (HBw5.out.trans (HS6.out.mono HBw5.out.size))
    refine wpAnyH_more (S' := fun X => Below w6.heap.size w6 X) (fun X h => HS6.out.trans (h.mono HS6.out.size)) ?_
    have hHeld : Below w6.heap.size w6 w6 := Below.refl _ _
    refine wpAnyH_take (i := 8) (oi := _) (v := .int .i64 (n2 : Int)) rfl (by kernel_rfl) (by kernel_rfl) (by kernel_rfl) (fun _ _ _ h => h) (Or.inl ⟨by rfl, ?_⟩) (by assumption) ?_
    · clear hHeld; intro X hSw; clear hSw; go_simp
    simp only [Act.put, List.getElem_toArray, List.getElem_cons_zero, List.getElem_cons_succ, List.setIfInBounds_toArray, List.set_cons_zero, List.set_cons_succ]
    by_cases hne : n1 = n2
    · have hnb : ((n1 : Int) != (n2 : Int)) = false := by simp [hne]
      have HNE := Lib.hid hne
      clear hne
      refine wpAnyH_take (i := 9) (oi := _) (v := .bool false) rfl (by kernel_rfl) (by kernel_rfl) (by kernel_rfl) (fun _ _ _ h => h) (Or.inl ⟨by rfl, ?_⟩) (by assumption) ?_
      · clear hHeld; intro X hSw; clear hSw; go_simp
      simp only [Act.put, List.getElem_toArray, List.getElem_cons_zero, List.getElem_cons_succ, List.setIfInBounds_toArray, List.set_cons_zero, List.set_cons_succ]
      refine wpAnyH_take (i := 10) (oi := _) (v := .bool false) rfl (by kernel_rfl) (by kernel_rfl) (by kernel_rfl) (fun _ _ _ h => h) (Or.inl ⟨by rfl, ?_⟩) (by assumption) ?_
      · clear hHeld; intro X hSw; clear hSw; go_simp
      simp only [Act.put, List.getElem_toArray, List.getElem_cons_zero, List.getElem_cons_succ, List.setIfInBounds_toArray, List.set_cons_zero, List.set_cons_succ]
      refine wpAnyH_take (i := 11) (oi := _) (v := .bool false) rfl (by kernel_rfl) (by kernel_rfl) (by kernel_rfl) (fun _ _ _ h => h) (Or.inl ⟨by rfl, ?_⟩) (by assumption) ?_
      · clear hHeld; intro X hSw; clear hSw; go_simp
      simp only [Act.put, List.getElem_toArray, List.getElem_cons_zero, List.getElem_cons_succ, List.setIfInBounds_toArray, List.set_cons_zero, List.set_cons_succ]
      refine wpAnyH_take (i := 12) (oi := _) (v := .pointer (some ⟨w.heap.size + 1, 0, none⟩)) rfl (by kernel_rfl) (by kernel_rfl) (by kernel_rfl) (fun _ _ _ h => h) (Or.inl ⟨by rfl, ?_⟩) (by assumption) ?_
      · clear hHeld; intro X hSw; clear hSw; go_simp
      simp only [Act.put, List.getElem_toArray, List.getElem_cons_zero, List.getElem_cons_succ, List.setIfInBounds_toArray, List.set_cons_zero, List.set_cons_succ]
      refine wpAnyH_take (i := 13) (oi := _) (v := .int .i8 op) rfl (by kernel_rfl) (by kernel_rfl) (by kernel_rfl) (fun _ _ _ h => h) (Or.inl ⟨by rfl, ?_⟩) (by assumption) ?_
      · clear hHeld; intro X hSw; obtain ⟨⟨n0, n1, n2, n3⟩, m0, m1, m2, m3⟩ := HCE.out X (HBw6.out.trans (hSw.mono HBw6.out.size)); clear hSw; go_simp
      simp only [Act.put, List.getElem_toArray, List.getElem_cons_zero, List.getElem_cons_succ, List.setIfInBounds_toArray, List.set_cons_zero, List.set_cons_succ]
      by_cases hop : op = 3
      · subst hop
        refine wpAnyH_take (i := 14) (oi := _) (v := .bool false) rfl (by kernel_rfl) (by kernel_rfl) (by kernel_rfl) (fun _ _ _ h => h) (Or.inl ⟨by rfl, ?_⟩) (by assumption) ?_
        · clear hHeld; intro X hSw; clear hSw; go_simp
        simp only [Act.put, List.getElem_toArray, List.getElem_cons_zero, List.getElem_cons_succ, List.setIfInBounds_toArray, List.set_cons_zero, List.set_cons_succ]
        refine wpAnyH_take (i := 15) (oi := _) (v := .bool false) rfl (by kernel_rfl) (by kernel_rfl) (by kernel_rfl) (fun _ _ _ h => h) (Or.inl ⟨by rfl, ?_⟩) (by assumption) ?_
        · clear hHeld; intro X hSw; clear hSw; go_simp
        simp only [Act.put, List.getElem_toArray, List.getElem_cons_zero, List.getElem_cons_succ, List.setIfInBounds_toArray, List.set_cons_zero, List.set_cons_succ]
        refine wpAnyH_done (by kernel_rfl) ?_ _
        clear hHeld
        have hdist := HND.out HNE.out
        have HD := Lib.hid (And.intro hdist HSZ.out)
        clear HND HNE hdist hnb
        have HPL : Hid (∀ X, Below B.heap.size B X → Calls Try.prog 72 #[.agg #[.int .i64 t.id, .int .i64 t.kind, .string t.text, .slice ka nk tc], .int .i64 id] X (PlaceC X ((spF 1 (rootF t)).take 251) id)) := Lib.hid fun X hX => place_any X S _ t id HF.out.1 HF.out.2 (HSXX.out X hX) (HT.out.1 X hX) (by have := HD.out.2; omega)
        have HAP : Hid (∀ X, Below B.heap.size B X → Calls Try.prog 73 #[.agg #[.int .i64 t.id, .int .i64 t.kind, .string t.text, .slice ka nk tc], .agg #[.int .i8 3, .int .i64 id, .int .i64 par, .int .i64 at_, .string ⟨#[]⟩, .int .i64 0, .int .i64 0, .string ⟨#[]⟩, .slice none 0 0]] X (ApplyC X S (moveK id par at_ t))) := Lib.hid fun X hX => applyM_any X S (fun _ => False) _ t zeroK id par at_ ⟨#[]⟩ none 0 0 (HSXX.out X hX) (fun _ h => h.elim) (HT.out.1 X hX) ⟨none, 0, rfl, Nat.le_refl _, True.intro⟩ (by have := HD.out.2; omega) (by decide)
        obtain ⟨⟨n0, n1, n2, n3⟩, m0, m1, m2, m3⟩ := HCE.out w6 HBw6.out
        go_wp2_with fail
        refine (HPL.out w6 HBw6.out).mono ?_
        rintro e w7 ⟨pp, pi, pb, rfl, hy, hn, hb7⟩
        have HBw7 := Lib.hid (HBw6.out.trans (hb7.mono HBw6.out.size))
        have HPY := Lib.hid (And.intro hy hn)
        clear hb7 hy hn n0 n1 n2 n3 m0 m1 m2 m3
        obtain ⟨⟨n0, n1, n2, n3⟩, m0, m1, m2, m3⟩ := HCE.out w7 HBw7.out
        obtain ⟨r, hr⟩ : ∃ r, r = moveK id par at_ t := ⟨_, rfl⟩
        have hap := HAP.out w7 HBw7.out
        rw [← hr] at hap
        have HA := Lib.hid hap
        have HR := Lib.hid hr
        clear hap hr
        go_wp2_with fail
        refine HA.out.mono ?_
        rintro e w8 ⟨_, rfl, ⟨xa, xc, rfl, hxc, hxk⟩, hb8⟩
        have HBw8 := Lib.hid (HBw7.out.trans (hb8.mono HBw7.out.size))
        obtain ⟨y, hy⟩ : ∃ y, y = applyR r := ⟨_, rfl⟩
        rw [← hy] at hxc hxk ⊢
        obtain ⟨yn, hyn⟩ : ∃ yn, yn = foLen y.kids := ⟨_, rfl⟩
        rw [← hyn] at hxc ⊢
        obtain ⟨ye, hye⟩ : ∃ ye, ye = r.2 := ⟨_, rfl⟩
        rw [← hye]
        obtain ⟨x8, hx8⟩ : ∃ x8, x8 = w8.alloc (.cells #[.int .i64 y.id, .int .i64 y.kind, .string y.text, .slice xa yn xc] 24) := ⟨_, rfl⟩
        have hbx : Below w8.heap.size w8 x8 := by rw [hx8]; exact box_below _ _
        have hq0 : x8.heap[w8.heap.size]? = some (.cells #[.int .i64 y.id, .int .i64 y.kind, .string y.text, .slice xa yn xc] 24 (0, 0)) := by rw [hx8]; exact heap_alloc_new _ _
        have HBx8 := Lib.hid (HBw8.out.trans (hbx.mono HBw8.out.size))
        have HX8 := Lib.hid hx8
        obtain ⟨xb, hxb⟩ : ∃ xb, xb = w8.heap.size := ⟨_, rfl⟩
        have HY := Lib.hid (And.intro hy (And.intro hyn (And.intro hye (And.intro hxc (And.intro hxk (And.intro hbx (And.intro hq0 hxb)))))))
        clear hb8 hxc hxk hx8 hbx hq0 hy hyn hye HA n0 n1 n2 n3 m0 m1 m2 m3
        go_upto_region 5 with fail
        change Code.wp _ _ _ _ (w8.alloc (.cells #[.int .i64 y.id, .int .i64 y.kind, .string y.text, .slice xa yn xc] 24))
        rw [← HX8.out, ← hxb]
        clear HX8 hxb
        by_cases hz : ye = 0
        · obtain ⟨hy, hyn, hye, hxc, hxk, hbx, hq0, hxb⟩ := HY.out
          have hr0 : moveK id par at_ t = (y, 0) := by rw [← HR.out, hy, applyR, if_pos (by rw [← hye]; exact hz)]; exact Prod.ext rfl (by rw [← hye]; exact hz)
          obtain ⟨p, i, u, hp, hu, he2, hs2⟩ := moveK_back HD.out.1 hr0
          obtain ⟨hpb, hpp, hpi⟩ := place_is HD.out.1 HTK.out hp hu HPY.out.1 HPY.out.2
          rw [← hpp, ← hpi] at he2 hs2
          have hysz : foSize y.kids + 1 ≤ 2000 := by
            have h1 := moveK_size id par at_ t
            rw [hr0] at h1
            have := HD.out.2; simp only at h1; omega
          rw [← hxb] at hq0
          obtain ⟨y0, y1, y2, y3⟩ := box4 hq0
          have hap2 := applyM_any x8 (fun z => z < w8.heap.size ∧ (CellsB w8 z ∧ (S z ∨ w7.heap.size ≤ z))) (fun _ => False) (.agg #[.int .i64 y.id, .int .i64 y.kind, .string y.text, .slice xa yn xc]) y zeroK id pp pi ⟨#[]⟩ none 0 0 (fun z hz => Nat.lt_of_lt_of_le hz.1 hbx.size) (fun _ h => h.elim) ⟨xa, xc, by rw [hyn], by rw [← hyn]; exact hxc, hxk.kept fun z hz => ⟨⟨hz.1.lt, hz⟩, hbx.block z hz.1.lt⟩⟩ ⟨none, 0, rfl, Nat.le_refl _, True.intro⟩ hysz (by decide)
          subst hz
          subst hpb
          obtain ⟨r2, hr2⟩ : ∃ r2, r2 = moveK id pp pi y := ⟨_, rfl⟩
          rw [← hr2] at hap2 he2 hs2
          obtain ⟨z, hz⟩ : ∃ z, z = applyR r2 := ⟨_, rfl⟩
          rw [show r2.1 = z by rw [hz, applyR, if_pos he2]] at hs2
          have hzsz : foSize z.kids ≤ 4000 := by
            have h1 := moveK_size id pp pi y
            rw [← hr2, show r2.1 = z by rw [hz, applyR, if_pos he2]] at h1
            omega
          have HAP2 := Lib.hid hap2
          have HZ := Lib.hid (And.intro hz (And.intro he2 (And.intro hs2 (And.intro hzsz hr2))))
          clear hap2 hz he2 hs2 hzsz hr2 hysz hr0 hp hu hpp hpi hy hyn hye hxc hxk hbx hq0 hxb HPY HY
          obtain ⟨⟨n0, n1, n2, n3⟩, m0, m1, m2, m3⟩ := HCE.out x8 HBx8.out
          go_wp2_with fail
          refine HAP2.out.mono ?_
          rintro e wA ⟨_, rfl, ⟨za, zc, rfl, hzc, hzk⟩, hbA⟩
          rw [← HZ.out.1] at hzc hzk ⊢
          rw [HZ.out.2.1]
          obtain ⟨zn, hzn⟩ : ∃ zn, zn = foLen z.kids := ⟨_, rfl⟩
          rw [← hzn] at hzc ⊢
          have hbBA := HBx8.out.trans (hbA.mono HBx8.out.size)
          obtain ⟨xA, hxA⟩ : ∃ xA, xA = wA.alloc (.cells #[.int .i64 z.id, .int .i64 z.kind, .string z.text, .slice za zn zc] 24) := ⟨_, rfl⟩
          have hbx : Below wA.heap.size wA xA := by rw [hxA]; exact box_below _ _
          have hq0 : xA.heap[wA.heap.size]? = some (.cells #[.int .i64 z.id, .int .i64 z.kind, .string z.text, .slice za zn zc] 24 (0, 0)) := by rw [hxA]; exact heap_alloc_new _ _
          have HBxA := Lib.hid (hbBA.trans (hbx.mono hbBA.size))
          have HXA := Lib.hid hxA
          have hzfit : foLen z.kids ≤ 9223372036854775807 ∧ foFit z.kids := ⟨by have := foLen_le z.kids; have := HZ.out.2.2.2.1; omega, foFit_szK z.kids (by have := HZ.out.2.2.2.1; omega)⟩
          have hsm := same_any (foSize z.kids + 1) xA (fun q => q < wA.heap.size ∧ (CellsB wA q ∧ ((q < w8.heap.size ∧ (CellsB w8 q ∧ (S q ∨ w7.heap.size ≤ q))) ∨ x8.heap.size ≤ q))) S (.agg #[.int .i64 z.id, .int .i64 z.kind, .string z.text, .slice za zn zc]) (.agg #[.int .i64 t.id, .int .i64 t.kind, .string t.text, .slice ka nk tc]) z t (Nat.lt_succ_self _) hzfit (fun q hq => Nat.lt_of_lt_of_le hq.1 hbx.size) (fun q hq => Nat.lt_of_lt_of_le (HT.out.2 q hq) (HB.out.trans (HBxA.out.mono HB.out.size)).size) ⟨za, zc, by rw [hzn], by rw [← hzn]; exact hzc, hzk.kept fun q hq => ⟨⟨hq.1.lt, hq⟩, hbx.block q hq.1.lt⟩⟩ (HT.out.1 xA HBxA.out)
          unfold SameC at hsm; rw [HZ.out.2.2.1] at hsm
          have HSM := Lib.hid hsm
          obtain ⟨zb, hzb⟩ : ∃ zb, zb = wA.heap.size := ⟨_, rfl⟩
          rw [← hzb] at hq0
          obtain ⟨z0, z1, z2, z3⟩ := box4 hq0
          clear hzc hzk hbA hbBA hxA hbx hq0 hzfit hsm hzn HAP2 y0 y1 y2 y3 n0 n1 n2 n3 m0 m1 m2 m3
          go_upto_region 10 with fail
          change Code.wp _ _ _ _ (wA.alloc (.cells #[.int .i64 z.id, .int .i64 z.kind, .string z.text, .slice za zn zc] 24))
          rw [← HXA.out, ← hzb]
          clear HXA hzb
          obtain ⟨⟨n0, n1, n2, n3⟩, m0, m1, m2, m3⟩ := HCE.out xA HBxA.out
          go_wp2_with fail
          refine HSM.out.mono ?_
          rintro e wC ⟨rfl, hbC⟩
          have HBwC := Lib.hid (HBxA.out.trans (hbC.mono HBxA.out.size))
          clear hbC z0 z1 z2 z3 n0 n1 n2 n3 m0 m1 m2 m3
          go_wp2_with fail
          refine (wakes_any wC).mono ?_
          rintro e wD ⟨rfl, hbD⟩
          have HBD := Lib.hid ((HB.out.trans (HBwC.out.mono HB.out.size)).trans (hbD.mono (HB.out.trans (HBwC.out.mono HB.out.size)).size))
          clear hbD
          go_wp2_with fail
          go_ret
          exact ⟨rfl, HBD.out⟩
        · have hzb : (ye != 0) = true := by simpa using hz
          clear hz HY HPY
          go_wp2_with fail
          refine (wakes_any x8).mono ?_
          rintro e w9 ⟨rfl, hb9⟩
          have HB9 := Lib.hid ((HB.out.trans (HBx8.out.mono HB.out.size)).trans (hb9.mono (HB.out.trans (HBx8.out.mono HB.out.size)).size))
          clear hb9
          go_wp2_with fail
          go_ret
          exact ⟨rfl, HB9.out⟩
      · have hopb : (op != 3) = true := by simpa using hop
        clear hop
        refine wpAnyH_take (i := 14) (oi := _) (v := .bool true) rfl (by kernel_rfl) (by kernel_rfl) (by kernel_rfl) (fun _ _ _ h => h) (Or.inl ⟨by rfl, ?_⟩) (by assumption) ?_
        · clear hHeld; intro X hSw; clear hSw; go_simp
        simp only [Act.put, List.getElem_toArray, List.getElem_cons_zero, List.getElem_cons_succ, List.setIfInBounds_toArray, List.set_cons_zero, List.set_cons_succ]
        refine wpAnyH_take (i := 15) (oi := _) (v := .bool true) rfl (by kernel_rfl) (by kernel_rfl) (by kernel_rfl) (fun _ _ _ h => h) (Or.inl ⟨by rfl, ?_⟩) (by assumption) ?_
        · clear hHeld; intro X hSw; clear hSw; go_simp
        simp only [Act.put, List.getElem_toArray, List.getElem_cons_zero, List.getElem_cons_succ, List.setIfInBounds_toArray, List.set_cons_zero, List.set_cons_succ]
        refine wpAnyH_done (by kernel_rfl) ?_ _
        clear hHeld
        clear HND HNE
        go_wp2_with fail
        refine (wakes_any w6).mono ?_
        rintro e w9 ⟨rfl, hb9⟩
        have HB9 := Lib.hid ((HB.out.trans (HBw6.out.mono HB.out.size)).trans (hb9.mono (HB.out.trans (HBw6.out.mono HB.out.size)).size))
        clear hb9
        go_wp2_with fail
        go_ret
        exact ⟨rfl, HB9.out⟩
    · have hnb : ((n1 : Int) != (n2 : Int)) = true := by simpa using (fun e => hne (by omega))
      clear hne
      refine wpAnyH_take (i := 9) (oi := _) (v := .bool true) rfl (by kernel_rfl) (by kernel_rfl) (by kernel_rfl) (fun _ _ _ h => h) (Or.inl ⟨by rfl, ?_⟩) (by assumption) ?_
      · clear hHeld; intro X hSw; clear hSw; go_simp
      simp only [Act.put, List.getElem_toArray, List.getElem_cons_zero, List.getElem_cons_succ, List.setIfInBounds_toArray, List.set_cons_zero, List.set_cons_succ]
      refine wpAnyH_take (i := 10) (oi := _) (v := .bool true) rfl (by kernel_rfl) (by kernel_rfl) (by kernel_rfl) (fun _ _ _ h => h) (Or.inl ⟨by rfl, ?_⟩) (by assumption) ?_
      · clear hHeld; intro X hSw; clear hSw; go_simp
      simp only [Act.put, List.getElem_toArray, List.getElem_cons_zero, List.getElem_cons_succ, List.setIfInBounds_toArray, List.set_cons_zero, List.set_cons_succ]
      refine wpAnyH_take (i := 11) (oi := _) (v := .bool true) rfl (by kernel_rfl) (by kernel_rfl) (by kernel_rfl) (fun _ _ _ h => h) (Or.inl ⟨by rfl, ?_⟩) (by assumption) ?_
      · clear hHeld; intro X hSw; clear hSw; go_simp
      simp only [Act.put, List.getElem_toArray, List.getElem_cons_zero, List.getElem_cons_succ, List.setIfInBounds_toArray, List.set_cons_zero, List.set_cons_succ]
      refine wpAnyH_take (i := 12) (oi := _) (v := undef) rfl (by kernel_rfl) (by kernel_rfl) (by kernel_rfl) (fun _ _ _ h => h) (Or.inr ⟨rfl, rfl⟩) (by assumption) ?_
      simp only [Act.put, List.getElem_toArray, List.getElem_cons_zero, List.getElem_cons_succ, List.setIfInBounds_toArray, List.set_cons_zero, List.set_cons_succ]
      refine wpAnyH_take (i := 13) (oi := _) (v := undef) rfl (by kernel_rfl) (by kernel_rfl) (by kernel_rfl) (fun _ _ _ h => h) (Or.inr ⟨rfl, rfl⟩) (by assumption) ?_
      simp only [Act.put, List.getElem_toArray, List.getElem_cons_zero, List.getElem_cons_succ, List.setIfInBounds_toArray, List.set_cons_zero, List.set_cons_succ]
      refine wpAnyH_take (i := 14) (oi := _) (v := undef) rfl (by kernel_rfl) (by kernel_rfl) (by kernel_rfl) (fun _ _ _ h => h) (Or.inr ⟨rfl, rfl⟩) (by assumption) ?_
      simp only [Act.put, List.getElem_toArray, List.getElem_cons_zero, List.getElem_cons_succ, List.setIfInBounds_toArray, List.set_cons_zero, List.set_cons_succ]
      refine wpAnyH_take (i := 15) (oi := _) (v := .bool true) rfl (by kernel_rfl) (by kernel_rfl) (by kernel_rfl) (fun _ _ _ h => h) (Or.inl ⟨by rfl, ?_⟩) (by assumption) ?_
      · clear hHeld; intro X hSw; clear hSw; go_simp
      simp only [Act.put, List.getElem_toArray, List.getElem_cons_zero, List.getElem_cons_succ, List.setIfInBounds_toArray, List.set_cons_zero, List.set_cons_succ]
      refine wpAnyH_done (by kernel_rfl) ?_ _
      clear hHeld
      clear HND
      go_wp2_with fail
      refine (wakes_any w6).mono ?_
      rintro e w9 ⟨rfl, hb9⟩
      have HB9 := Lib.hid ((HB.out.trans (HBw6.out.mono HB.out.size)).trans (hb9.mono (HB.out.trans (HBw6.out.mono HB.out.size)).size))
      clear hb9
      go_wp2_with fail
      go_ret
      exact ⟨rfl, HB9.out⟩
  · refine wpAnyH_take (i := 2) (oi := _) (v := .bool true) rfl (by kernel_rfl) (by kernel_rfl) (by kernel_rfl) (fun _ _ _ h => h) (Or.inl ⟨by rfl, ?_⟩) (by assumption) ?_
    · clear hHeld; intro X hSw; clear hSw; go_simp
    simp only [Act.put, List.getElem_toArray, List.getElem_cons_zero, List.getElem_cons_succ, List.setIfInBounds_toArray, List.set_cons_zero, List.set_cons_succ]
    refine wpAnyH_take (i := 3) (oi := _) (v := undef) rfl (by kernel_rfl) (by kernel_rfl) (by kernel_rfl) (fun _ _ _ h => h) (Or.inr ⟨rfl, rfl⟩) (by assumption) ?_
    simp only [Act.put, List.getElem_toArray, List.getElem_cons_zero, List.getElem_cons_succ, List.setIfInBounds_toArray, List.set_cons_zero, List.set_cons_succ]
    refine wpAnyH_take (i := 4) (oi := _) (v := undef) rfl (by kernel_rfl) (by kernel_rfl) (by kernel_rfl) (fun _ _ _ h => h) (Or.inr ⟨rfl, rfl⟩) (by assumption) ?_
    simp only [Act.put, List.getElem_toArray, List.getElem_cons_zero, List.getElem_cons_succ, List.setIfInBounds_toArray, List.set_cons_zero, List.set_cons_succ]
    refine wpAnyH_take (i := 5) (oi := _) (v := undef) rfl (by kernel_rfl) (by kernel_rfl) (by kernel_rfl) (fun _ _ _ h => h) (Or.inr ⟨rfl, rfl⟩) (by assumption) ?_
    simp only [Act.put, List.getElem_toArray, List.getElem_cons_zero, List.getElem_cons_succ, List.setIfInBounds_toArray, List.set_cons_zero, List.set_cons_succ]
    refine wpAnyH_take (i := 6) (oi := _) (v := undef) rfl (by kernel_rfl) (by kernel_rfl) (by kernel_rfl) (fun _ _ _ h => h) (Or.inr ⟨rfl, rfl⟩) (by assumption) ?_
    simp only [Act.put, List.getElem_toArray, List.getElem_cons_zero, List.getElem_cons_succ, List.setIfInBounds_toArray, List.set_cons_zero, List.set_cons_succ]
    refine wpAnyH_take (i := 7) (oi := _) (v := undef) rfl (by kernel_rfl) (by kernel_rfl) (by kernel_rfl) (fun _ _ _ h => h) (Or.inr ⟨rfl, rfl⟩) (by assumption) ?_
    simp only [Act.put, List.getElem_toArray, List.getElem_cons_zero, List.getElem_cons_succ, List.setIfInBounds_toArray, List.set_cons_zero, List.set_cons_succ]
    refine wpAnyH_take (i := 8) (oi := _) (v := undef) rfl (by kernel_rfl) (by kernel_rfl) (by kernel_rfl) (fun _ _ _ h => h) (Or.inr ⟨rfl, rfl⟩) (by assumption) ?_
    simp only [Act.put, List.getElem_toArray, List.getElem_cons_zero, List.getElem_cons_succ, List.setIfInBounds_toArray, List.set_cons_zero, List.set_cons_succ]
    refine wpAnyH_take (i := 9) (oi := _) (v := undef) rfl (by kernel_rfl) (by kernel_rfl) (by kernel_rfl) (fun _ _ _ h => h) (Or.inr ⟨rfl, rfl⟩) (by assumption) ?_
    simp only [Act.put, List.getElem_toArray, List.getElem_cons_zero, List.getElem_cons_succ, List.setIfInBounds_toArray, List.set_cons_zero, List.set_cons_succ]
    refine wpAnyH_take (i := 10) (oi := _) (v := .bool true) rfl (by kernel_rfl) (by kernel_rfl) (by kernel_rfl) (fun _ _ _ h => h) (Or.inl ⟨by rfl, ?_⟩) (by assumption) ?_
    · clear hHeld; intro X hSw; clear hSw; go_simp
    simp only [Act.put, List.getElem_toArray, List.getElem_cons_zero, List.getElem_cons_succ, List.setIfInBounds_toArray, List.set_cons_zero, List.set_cons_succ]
    refine wpAnyH_take (i := 11) (oi := _) (v := .bool true) rfl (by kernel_rfl) (by kernel_rfl) (by kernel_rfl) (fun _ _ _ h => h) (Or.inl ⟨by rfl, ?_⟩) (by assumption) ?_
    · clear hHeld; intro X hSw; clear hSw; go_simp
    simp only [Act.put, List.getElem_toArray, List.getElem_cons_zero, List.getElem_cons_succ, List.setIfInBounds_toArray, List.set_cons_zero, List.set_cons_succ]
    refine wpAnyH_take (i := 12) (oi := _) (v := undef) rfl (by kernel_rfl) (by kernel_rfl) (by kernel_rfl) (fun _ _ _ h => h) (Or.inr ⟨rfl, rfl⟩) (by assumption) ?_
    simp only [Act.put, List.getElem_toArray, List.getElem_cons_zero, List.getElem_cons_succ, List.setIfInBounds_toArray, List.set_cons_zero, List.set_cons_succ]
    refine wpAnyH_take (i := 13) (oi := _) (v := undef) rfl (by kernel_rfl) (by kernel_rfl) (by kernel_rfl) (fun _ _ _ h => h) (Or.inr ⟨rfl, rfl⟩) (by assumption) ?_
    simp only [Act.put, List.getElem_toArray, List.getElem_cons_zero, List.getElem_cons_succ, List.setIfInBounds_toArray, List.set_cons_zero, List.set_cons_succ]
    refine wpAnyH_take (i := 14) (oi := _) (v := undef) rfl (by kernel_rfl) (by kernel_rfl) (by kernel_rfl) (fun _ _ _ h => h) (Or.inr ⟨rfl, rfl⟩) (by assumption) ?_
    simp only [Act.put, List.getElem_toArray, List.getElem_cons_zero, List.getElem_cons_succ, List.setIfInBounds_toArray, List.set_cons_zero, List.set_cons_succ]
    refine wpAnyH_take (i := 15) (oi := _) (v := .bool true) rfl (by kernel_rfl) (by kernel_rfl) (by kernel_rfl) (fun _ _ _ h => h) (Or.inl ⟨by rfl, ?_⟩) (by assumption) ?_
    · clear hHeld; intro X hSw; clear hSw; go_simp
    simp only [Act.put, List.getElem_toArray, List.getElem_cons_zero, List.getElem_cons_succ, List.setIfInBounds_toArray, List.set_cons_zero, List.set_cons_succ]
    refine wpAnyH_done (by kernel_rfl) ?_ _
    clear hHeld
    clear HBG HGR
    go_wp2_with fail
    refine (wakes_any w4).mono ?_
    rintro e w9 ⟨rfl, hb9⟩
    have HB9 := Lib.hid ((HB.out.trans (HBw4.out.mono HB.out.size)).trans (hb9.mono (HB.out.trans (HBw4.out.mono HB.out.size)).size))
    clear hb9
    go_wp2_with fail
    go_ret
    exact ⟨rfl, HB9.out⟩
end Go.Proofs.Ytfdcopegkhofnaa
