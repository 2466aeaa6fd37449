/-
  Invert of the operation 4, where it goes. No condition but that there are not too many nodes, and the bounds of ids that a host keeps.
-/
import Derived.Deep.Cut
import Derived.Test.YthjniclhnfipdaaIInv1Qv
namespace Go.Proofs.Ythjniclhnfipdaa
open Go.RowKit Go.Shelf
set_option linter.unusedVariables false
set_option linter.unusedSimpArgs false

set_option maxRecDepth 100000 in
set_option maxHeartbeats 8000000 in
theorem invert_4 (w : World) (S Sx : Nat → Prop) (nv : Value) (t x : Tr) (id par at_ : Int) (tx : ByteArray) (sa : Option Addr) (sn sc : Nat) (hS : ∀ y, S y → y < w.heap.size) (hSx : ∀ y, Sx y → y < w.heap.size) (ht : TrAt w S nv t) (hx : TrAt w Sx (.agg #[.int .i64 x.id, .int .i64 x.kind, .string x.text, .slice sa sn sc]) x) (hsz : foSize t.kids + 1 ≤ 2000) (hxz : foSize x.kids + 1 ≤ 2000) (hok : ∀ i ∈ idT t, (Lit.int .i64 i).wf = true) (hxk : ∀ i ∈ idT x, (Lit.int .i64 i).wf = true) (h0 : (stepK 4 id par at_ tx x t).2 = 0) :
    Calls Try.prog 78 #[nv, .agg #[.int .i8 4, .int .i64 id, .int .i64 par, .int .i64 at_, .string tx, .int .i64 x.id, .int .i64 x.kind, .string x.text, .slice sa sn sc]] w (InvC w (fun y => S y ∨ Sx y) 0 (invK 4 id x t)) := by
  obtain ⟨ka, tc, rfl, hcap, hk⟩ := ht
  obtain ⟨nk, hnk⟩ : ∃ nk, nk = foLen t.kids := ⟨_, rfl⟩
  rw [← hnk]
  obtain ⟨B, hB⟩ : ∃ B, B = allocs w [.cells #[.int .i64 t.id, .int .i64 t.kind, .string t.text, .slice ka nk tc] 24, .cells #[.int .i8 4, .int .i64 id, .int .i64 par, .int .i64 at_, .string tx, .int .i64 x.id, .int .i64 x.kind, .string x.text, .slice sa sn sc] 47, .cells #[.int .i8 0, .int .i64 0, .int .i64 0, .int .i64 0, .string ⟨#[]⟩, .int .i64 0, .int .i64 0, .string ⟨#[]⟩, .slice none 0 0] 47] := ⟨_, rfl⟩
  have hb : Below w.heap.size w B := by rw [hB]; exact allocs_below _ _
  have hs : B.heap.size = w.heap.size + 3 := by rw [hB]; exact allocs_size _ _
  have ht0 : B.heap[w.heap.size]? = some (.cells #[.int .i64 t.id, .int .i64 t.kind, .string t.text, .slice ka nk tc] 24 (0, 0)) := by rw [hB]; exact allocs_at _ _ 0 _ rfl
  have hs0 : B.heap[w.heap.size + 1]? = some (.cells #[.int .i8 4, .int .i64 id, .int .i64 par, .int .i64 at_, .string tx, .int .i64 x.id, .int .i64 x.kind, .string x.text, .slice sa sn sc] 47 (0, 0)) := by rw [hB]; exact allocs_at _ _ 1 _ rfl
  have hr0 : B.heap[w.heap.size + 1 + 1]? = some (.cells #[.int .i8 0, .int .i64 0, .int .i64 0, .int .i64 0, .string ⟨#[]⟩, .int .i64 0, .int .i64 0, .string ⟨#[]⟩, .slice none 0 0] 47 (0, 0)) := by rw [hB]; exact allocs_at _ _ 2 _ rfl
  have htr : ∀ X, (∀ y, y < w.heap.size → X.heap[y]? = w.heap[y]?) → TrAt X S (.agg #[.int .i64 t.id, .int .i64 t.kind, .string t.text, .slice ka nk tc]) t := fun X hX => ⟨ka, tc, by rw [hnk], by rw [hnk] at *; exact hcap, hk.kept fun y hy => ⟨hy, hX y (hS y hy)⟩⟩
  have hap := apply_any B S Sx (.agg #[.int .i64 t.id, .int .i64 t.kind, .string t.text, .slice ka nk tc]) t x 4 id par at_ tx sa sn sc (fun y hy => Nat.lt_of_lt_of_le (hS y hy) hb.size) (fun y hy => Nat.lt_of_lt_of_le (hSx y hy) hb.size) (htr B hb.block) (hx.kept fun y hy => ⟨hy, hb.block y (hSx y hy)⟩) hsz hxz (by decide) hok hxk
  obtain ⟨y, hy⟩ : ∃ y, y = applyR (stepK 4 id par at_ tx x t) := ⟨_, rfl⟩
  unfold ApplyC at hap
  rw [h0, ← hy] at hap
  obtain ⟨s, hss⟩ : ∃ s, s = invK 4 id x t := ⟨_, rfl⟩
  rw [← hss]
  obtain ⟨wr, hwr⟩ : ∃ wr, wr = whenceK id t := ⟨_, rfl⟩
  have hwz := whence_size id t
  have hlit : s = ⟨4, id, 0, 0, wr.1.text, zeroK⟩ := by rw [hss, hwr]; unfold invK; rw [if_neg (by decide), if_neg (by decide), if_neg (by decide), if_pos rfl]
  have HLIT := Lib.hid hlit
  rw [← hwr] at hwz
  obtain ⟨u, pr, pl⟩ := wr
  simp only at hwz
  have HWZ := Lib.hid (show foSize u.kids ≤ 100000 by omega)
  clear hlit
  have hfn : ∀ X, w.heap.size ≤ X.heap.size → (∀ y, y < w.heap.size → X.heap[y]? = w.heap[y]?) → Calls Try.prog 153 #[.agg #[.int .i64 t.id, .int .i64 t.kind, .string t.text, .slice ka nk tc], .agg #[.int .i8 4, .int .i64 id, .int .i64 par, .int .i64 at_, .string tx, .int .i64 x.id, .int .i64 x.kind, .string x.text, .slice sa sn sc]] X (BackC X S ⟨4, id, 0, 0, u.text, zeroK⟩) := fun X hX1 hX => by
    have h := writeBack_any X S (.agg #[.int .i64 t.id, .int .i64 t.kind, .string t.text, .slice ka nk tc]) t 4 id par at_ x.id x.kind tx x.text sa sn sc (fun y hy => Nat.lt_of_lt_of_le (hS y hy) hX1) (htr X hX) (by omega)
    rw [← hwr] at h; exact h
  have HFN := Lib.hid hfn
  have HSW := Lib.hid hS
  obtain ⟨b0, b1, b2, b3⟩ := box4 ht0
  obtain ⟨m0, m1, m2, m3, m4, m5, m6, m7, m8⟩ := box9 hs0
  have HAP := Lib.hid hap
  have HB := Lib.hid (And.intro hb (And.intro hs (And.intro ht0 (And.intro hs0 hr0))))
  have HBE := Lib.hid hB
  clear hap hb hs ht0 hs0 hr0 hB hnk hcap hk hS hSx hsz hxz hok hxk hx htr hy hss hfn h0 hwr
  go_enter Try.func78, Try.ntmps78
  go_upto_region 1 with fail
  change Code.wp _ _ _ _ (allocs w [.cells #[.int .i64 t.id, .int .i64 t.kind, .string t.text, .slice ka nk tc] 24, .cells #[.int .i8 4, .int .i64 id, .int .i64 par, .int .i64 at_, .string tx, .int .i64 x.id, .int .i64 x.kind, .string x.text, .slice sa sn sc] 47, .cells #[.int .i8 0, .int .i64 0, .int .i64 0, .int .i64 0, .string ⟨#[]⟩, .int .i64 0, .int .i64 0, .string ⟨#[]⟩, .slice none 0 0] 47])
  rw [← HBE.out]
  clear HBE
  go_wp2_with fail
  refine HAP.out.mono ?_
  rintro e W ⟨_, rfl, ⟨yb, yc, rfl, _, _⟩, hbW⟩
  obtain ⟨yn, hyn⟩ : ∃ yn, yn = foLen y.kids := ⟨_, rfl⟩
  rw [← hyn]
  clear hyn
  obtain ⟨U, hU⟩ : ∃ U, U = W.alloc (.cells #[.int .i64 y.id, .int .i64 y.kind, .string y.text, .slice yb yn yc] 24) := ⟨_, rfl⟩
  have hbU : Below W.heap.size W U := by rw [hU]; exact box_below _ _
  have hbB : Below B.heap.size B U := hbW.trans (hbU.mono hbW.size)
  have ht1 := (hbB.block _ (lt_of_heap HB.out.2.2.1)).trans HB.out.2.2.1
  have hs1 := (hbB.block _ (lt_of_heap HB.out.2.2.2.1)).trans HB.out.2.2.2.1
  have hr1 := (hbB.block _ (lt_of_heap HB.out.2.2.2.2)).trans HB.out.2.2.2.2
  have hUs : w.heap.size + 3 ≤ U.heap.size := by have := HB.out.2.1; have := hbB.size; omega
  have hbw : Below w.heap.size w U := HB.out.1.trans (hbB.mono HB.out.1.size)
  have HU := Lib.hid hU
  have HT := Lib.hid (And.intro ht1 (And.intro hs1 (And.intro hr1 (And.intro hUs hbw))))
  clear hbW hU hbU hbB ht1 hs1 hr1 hUs hbw b0 b1 b2 b3 m0 m1 m2 m3 m4 m5 m6 m7 m8
  go_upto_region 2 with fail
  rw [← HU.out]
  go_upto_region 4 with fail
  refine wp_region_held_drew (S := fun X => Tc U X (w.heap.size + 1 + 1)) (by kernel_rfl) (Tc.of (below_drewN (Below.refl _ U) 1)) (fun hHeld => ?_)
  refine wpAnyH_take (i := 1) (oi := _) (v := .pointer (some ⟨w.heap.size + 1, 0, none⟩)) rfl (by kernel_rfl) (by kernel_rfl) (by kernel_rfl) (fun _ _ _ h => h) (Or.inl ⟨by rfl, ?_⟩) (by assumption) ?_
  · clear hHeld; intro X hSw; clear hSw; go_simp
  simp only [Act.put, List.getElem_toArray, List.getElem_cons_zero, List.getElem_cons_succ, List.setIfInBounds_toArray, List.set_cons_zero, List.set_cons_succ]
  refine wpAnyH_take (i := 2) (oi := _) (v := .int .i8 4) rfl (by kernel_rfl) (by kernel_rfl) (by kernel_rfl) (fun _ _ _ h => h) (Or.inl ⟨by rfl, ?_⟩) (by assumption) ?_
  · clear hHeld; intro X hSw; obtain ⟨m0, m1, m2, m3, m4, m5, m6, m7, m8⟩ := box9 ((hSw.block _ (lt_of_heap HT.out.2.1) (by omega)).trans HT.out.2.1); clear hSw; go_simp
  simp only [Act.put, List.getElem_toArray, List.getElem_cons_zero, List.getElem_cons_succ, List.setIfInBounds_toArray, List.set_cons_zero, List.set_cons_succ]
  refine wpAnyH_take (i := 4) (oi := _) (v := .agg #[.int .i64 t.id, .int .i64 t.kind, .string t.text, .slice ka nk tc]) rfl (by kernel_rfl) (by kernel_rfl) (by kernel_rfl) (fun _ _ _ h => h) (Or.inl ⟨by rfl, ?_⟩) (by assumption) ?_
  · clear hHeld; intro X hSw; obtain ⟨b0, b1, b2, b3⟩ := box4 ((hSw.block _ (lt_of_heap HT.out.1) (by omega)).trans HT.out.1); clear hSw; go_simp
  simp only [Act.put, List.getElem_toArray, List.getElem_cons_zero, List.getElem_cons_succ, List.setIfInBounds_toArray, List.set_cons_zero, List.set_cons_succ]
  refine wpAnyH_take (i := 5) (oi := _) (v := .agg #[.int .i8 4, .int .i64 id, .int .i64 par, .int .i64 at_, .string tx, .int .i64 x.id, .int .i64 x.kind, .string x.text, .slice sa sn sc]) rfl (by kernel_rfl) (by kernel_rfl) (by kernel_rfl) (fun _ _ _ h => h) (Or.inl ⟨by rfl, ?_⟩) (by assumption) ?_
  · clear hHeld; intro X hSw; obtain ⟨m0, m1, m2, m3, m4, m5, m6, m7, m8⟩ := box9 ((hSw.block _ (lt_of_heap HT.out.2.1) (by omega)).trans HT.out.2.1); clear hSw; go_simp
  simp only [Act.put, List.getElem_toArray, List.getElem_cons_zero, List.getElem_cons_succ, List.setIfInBounds_toArray, List.set_cons_zero, List.set_cons_succ]
  refine wpAnyH_ready (rs := [0]) (by kernel_rfl) (by simp) ?_
  refine AllReadyH.cons (o := _) rfl (fun K hK => ?_) AllReadyH.nil
  rw [if_pos (by rfl)]
  simp only [List.getElem_toArray, List.getElem_cons_zero, List.getElem_cons_succ]
  have HK := Lib.hid hK
  have HS := Lib.hid hHeld
  clear hK hHeld
  have HZ : Hid (U.drew.heap[w.heap.size + 1 + 1]? = some (.cells #[.int .i8 0, .int .i64 0, .int .i64 0, .int .i64 0, .string ⟨#[]⟩, .int .i64 0, .int .i64 0, .string ⟨#[]⟩, .slice none 0 0] 47 (0, 0))) := Lib.hid HT.out.2.2.1
  go_wp2_with (go_at_call 120; refine (inverses_any _).mono ?_; rintro e w5 ⟨rfl, hb5⟩; have HZ5 := Lib.hid ((hb5.block _ (lt_of_heap HZ.out)).trans HZ.out); have HS5 := Lib.hid (HS.out.then hb5); clear hb5; unfold invV)
  refine HK.out _ _ HS5.out (fun hHeld => ?_)
  clear HK HS HZ
  refine wpAnyH_take (i := 3) (oi := _) (v := .func (.func 153) #[] #[]) rfl (by kernel_rfl) (by kernel_rfl) (by kernel_rfl) (fun _ _ _ h => h) (Or.inl ⟨by rfl, ?_⟩) (by assumption) ?_
  · clear hHeld; intro X hSw; have hix := index_inv4 X; clear hSw; go_simp
  simp only [Act.put, List.getElem_toArray, List.getElem_cons_zero, List.getElem_cons_succ, List.setIfInBounds_toArray, List.set_cons_zero, List.set_cons_succ]
  refine wpAnyH_ready (rs := [6]) (by kernel_rfl) (by simp) ?_
  refine AllReadyH.cons (o := _) rfl (fun K hK => ?_) AllReadyH.nil
  rw [if_pos (by rfl)]
  simp only [List.getElem_toArray, List.getElem_cons_zero, List.getElem_cons_succ]
  have HK := Lib.hid hK
  have HS := Lib.hid hHeld
  clear hK hHeld
  go_wp2_with (go_at_call 153; refine (HFN.out _ (Nat.le_trans HT.out.2.2.2.2.size HS.out.size) (fun y hy => (HS.out.block y (by have := HT.out.2.2.2.1; omega) (by omega)).trans (HT.out.2.2.2.2.block y hy))).mono ?_; rintro e w6 ⟨_, rfl, ⟨ma, mc, rfl, hmc, hmk⟩, hb6⟩; have HZ6 := Lib.hid ((hb6.block _ (lt_of_heap HZ5.out)).trans HZ5.out); have HS6 := Lib.hid (HS.out.then hb6); have HM := Lib.hid (And.intro hmc (And.intro hmk (show w.heap.size + 3 ≤ w5.heap.size from Nat.le_trans HT.out.2.2.2.1 HS.out.size))); clear hmc hmk hb6)
  refine HK.out _ _ HS6.out (fun hHeld => ?_)
  clear HK HS HS5 HZ5
  refine wpAnyH_ready (rs := [7]) (by kernel_rfl) (by simp) ?_
  refine AllReadyH.cons (o := _) rfl (fun K hK => ?_) AllReadyH.nil
  rw [if_pos (by rfl)]
  simp only [List.getElem_toArray, List.getElem_cons_zero, List.getElem_cons_succ]
  have HK := Lib.hid hK
  have HS := Lib.hid hHeld
  clear hK hHeld
  have hpl : Calls Try.prog 119 #[.agg #[.int .i8 4, .int .i64 id, .int .i64 0, .int .i64 0, .string u.text, .int .i64 0, .int .i64 0, .string ⟨#[]⟩, .slice ma 0 mc]] w6 (BackC w6 (fun y => S y ∨ w.heap.size + 3 ≤ y) s) := by
    rw [HLIT.out]
    exact plain4 _ _ _ _ _ _ _ _ _ _ _ _
  have HPL := Lib.hid hpl
  clear hpl
  try simp only [zeroK, foLen]
  go_wp2_with (go_at_call 119; refine HPL.out.mono ?_; rintro e w7 ⟨_, rfl, ⟨qa, qc, rfl, hqc, hqk⟩, hb7⟩; have HZ7 := Lib.hid ((hb7.block _ (lt_of_heap HZ6.out)).trans HZ6.out); have HS7 := Lib.hid (HS.out.then hb7); have HQ := Lib.hid (And.intro hqc hqk); clear hqc hqk hb7)
  refine HK.out _ _ HS7.out (fun hHeld => ?_)
  have HW6 := Lib.hid (show w.heap.size + 3 ≤ w6.heap.size from Nat.le_trans HT.out.2.2.2.1 HS.out.size)
  clear HK HS HS6 HZ6 HPL
  obtain ⟨qn, hqn⟩ : ∃ qn, qn = foLen s.sub.kids := ⟨_, rfl⟩
  refine wpAnyH_ready (rs := [8]) (by kernel_rfl) (by simp) ?_
  refine AllReadyH.cons (o := _) rfl (fun K hK => ?_) AllReadyH.nil
  rw [if_pos (by rfl)]
  simp only [List.getElem_toArray, List.getElem_cons_zero, List.getElem_cons_succ]
  have HK := Lib.hid hK
  have HS := Lib.hid hHeld
  clear hK hHeld
  have hz := HZ7.out
  obtain ⟨z0, z1, z2, z3, z4, z5, z6, z7, z8⟩ := box9 hz
  have zf : ∀ j, w7.frozen? ⟨w.heap.size + 1 + 1, j, none⟩ = false := fun j => frozen_of_row _ _ j _ _ hz
  obtain ⟨V9, hV9, v1, v2, v3, v4, v5, v6⟩ := nine_set (u0 := .int .i8 s.op) (u1 := .int .i64 s.id) (u2 := .int .i64 s.par) (u3 := .int .i64 s.at_) (u4 := .string s.tx) (u5 := .int .i64 s.sub.id) (u6 := .int .i64 s.sub.kind) (u7 := .string s.sub.text) (u8 := .slice qa (foLen s.sub.kids) qc) hz
  have hT9 : Tc U V9 (w.heap.size + 1 + 1) := ⟨v3.trans HS7.out.os, v4.trans HS7.out.tape, v5.trans HS7.out.output, by rw [v6]; exact HS7.out.size, fun y hy hn => (v2 y hn).trans (HS7.out.block y hy hn)⟩
  have hE : InvC w (fun y => S y ∨ Sx y) 0 s (.returned (.tuple #[.agg #[.int .i8 s.op, .int .i64 s.id, .int .i64 s.par, .int .i64 s.at_, .string s.tx, .int .i64 s.sub.id, .int .i64 s.sub.kind, .string s.sub.text, .slice qa (foLen s.sub.kids) qc], .int .i64 0])) V9 := ⟨_, rfl, ⟨qa, qc, rfl, HQ.out.1, HQ.out.2.kept fun y hy => by
    have h1 : S y ∨ w.heap.size + 3 ≤ y := by
      rcases hy.1 with h | h
      · exact h
      · exact Or.inr (Nat.le_trans HW6.out h)
    have hne : y ≠ w.heap.size + 1 + 1 := by
      rcases h1 with h | h
      · have := HSW.out y h; omega
      · omega
    exact ⟨⟨h1.imp (fun h => Or.inl h) (fun h => by omega), by rw [v6]; exact hy.2⟩, v2 y hne⟩⟩, hT9.below HT.out.2.2.2.2 (by omega)⟩
  have HE := Lib.hid (And.intro hE (And.intro hV9 (And.intro v1 hT9)))
  clear hz hV9 v1 v2 v3 v4 v5 v6 hT9 hE hqn
  go_wp2_with fail
  rw [← HE.out.2.1]
  refine HK.out _ _ HE.out.2.2.2 (fun hHeld => ?_)
  clear HK HS z0 z1 z2 z3 z4 z5 z6 z7 z8 zf HQ HS7 HZ7
  refine wpAnyH_take (i := 9) (oi := _) (v := .int .i64 0) rfl (by kernel_rfl) (by kernel_rfl) (by kernel_rfl) (fun _ _ _ h => h) (Or.inl ⟨by rfl, ?_⟩) (by assumption) ?_
  · clear hHeld; intro X hSw; clear hSw; go_simp
  simp only [Act.put, List.getElem_toArray, List.getElem_cons_zero, List.getElem_cons_succ, List.setIfInBounds_toArray, List.set_cons_zero, List.set_cons_succ]
  refine wpAnyH_done (by kernel_rfl) ?_ _
  clear hHeld
  go_wp2_with fail
  refine bodyPost_ret (results_cellT rfl _ _ (w.heap.size + 1 + 1) 47 _ (0, 0) _ (.int .i64 0) rfl HE.out.2.2.1 Try.underlying47 rfl (by kernel_rfl) rfl) rfl ?_
  exact HE.out.1
end Go.Proofs.Ythjniclhnfipdaa
