/-
  .
-/
import Derived.Deep.Cut
import Derived.Test.YtonapijgfalpaaaIInvEQw
import Derived.Test.YtonapijgfalpaaaIWhenceQw
import Derived.Test.YtonapijgfalpaaaKPlacePQw
import Derived.Test.YtonapijgfalpaaaHWalkPQw
import Derived.BigQuiet
import Derived.Test.YtonapijgfalpaaaRSameQw
import Derived.Deep.CutRange
import Derived.Deep.LoopGhost
import Derived.Deep.AppendLies
import Derived.Test.YtonapijgfalpaaaJPgQw
set_option linter.unusedVariables false
set_option linter.unusedSimpArgs false
namespace Go.Proofs.Ytonapijgfalpaaa
open Go.RowKit Go.Shelf
set_option maxRecDepth 100000 in
set_option maxHeartbeats 8000000 in
theorem invert_4 (w : World) (S Sx : Nat → Prop) (nv : Value) (t x : Tr) (id par at_ : Int) (tx : ByteArray) (sa : Option Addr) (sn sc : Nat) (hS : ∀ y, S y → y < w.heap.size) (hSx : ∀ y, Sx y → y < w.heap.size) (ht : TrAt w S nv t) (hx : TrAt w Sx (.agg #[.int .i64 x.id, .int .i64 x.kind, .string x.text, .slice sa sn sc]) x) (hsz : foSize t.kids + 1 ≤ 2000) (hxz : foSize x.kids + 1 ≤ 2000) (hok : ∀ i ∈ idT t, (Lit.int .i64 i).wf = true) (hxk : ∀ i ∈ idT x, (Lit.int .i64 i).wf = true) (h0 : (stepK 4 id par at_ tx x t).2 = 0) :
 Calls Try.prog 80 #[nv, .agg #[.int .i8 4, .int .i64 id, .int .i64 par, .int .i64 at_, .string tx, .int .i64 x.id, .int .i64 x.kind, .string x.text, .slice sa sn sc]] w (InvC w (fun y => S y ∨ Sx y) 0 (invK 4 id x t)) := by
 obtain ⟨ka, tc, rfl, hcap, hk⟩ := ht
 obtain ⟨nk, hnk⟩ : ∃ nk, nk = foLen t.kids := ⟨_, rfl⟩
 rw [← hnk]
 obtain ⟨B, hB⟩ : ∃ B, B = allocs w [.cells #[.int .i64 t.id, .int .i64 t.kind, .string t.text, .slice ka nk tc] 24, .cells #[.int .i8 4, .int .i64 id, .int .i64 par, .int .i64 at_, .string tx, .int .i64 x.id, .int .i64 x.kind, .string x.text, .slice sa sn sc] 47, .cells #[.int .i8 0, .int .i64 0, .int .i64 0, .int .i64 0, .string ⟨#[]⟩, .int .i64 0, .int .i64 0, .string ⟨#[]⟩, .slice none 0 0] 47] := ⟨_, rfl⟩
 have hb : Below w.heap.size w B := by rw [hB]; exact allocs_below _ _
 have hs : B.heap.size = w.heap.size + 3 := by rw [hB]; exact allocs_size _ _
 have ht0 : B.heap[w.heap.size]? = some (.cells #[.int .i64 t.id, .int .i64 t.kind, .string t.text, .slice ka nk tc] 24 (0, 0)) := by rw [hB]; exact allocs_at _ _ 0 _ rfl
 have hs0 : B.heap[w.heap.size + 1]? = some (.cells #[.int .i8 4, .int .i64 id, .int .i64 par, .int .i64 at_, .string tx, .int .i64 x.id, .int .i64 x.kind, .string x.text, .slice sa sn sc] 47 (0, 0)) := by rw [hB]; exact allocs_at _ _ 1 _ rfl
 have hr0 : B.heap[w.heap.size + 1 + 1]? = some (.cells #[.int .i8 0, .int .i64 0, .int .i64 0, .int .i64 0, .string ⟨#[]⟩, .int .i64 0, .int .i64 0, .string ⟨#[]⟩, .slice none 0 0] 47 (0, 0)) := by rw [hB]; exact allocs_at _ _ 2 _ rfl
 have htr : ∀ X, (∀ y, y < w.heap.size → X.heap[y]? = w.heap[y]?) → TrAt X S (.agg #[.int .i64 t.id, .int .i64 t.kind, .string t.text, .slice ka nk tc]) t := fun X hX => ⟨ka, tc, by rw [hnk], by rw [hnk] at *; exact hcap, hk.kept fun y hy => ⟨hy, hX y (hS y hy)⟩⟩
 have hap := apply_any B S Sx (.agg #[.int .i64 t.id, .int .i64 t.kind, .string t.text, .slice ka nk tc]) t x 4 id par at_ tx sa sn sc (fun y hy => Nat.lt_of_lt_of_le (hS y hy) hb.size) (fun y hy => Nat.lt_of_lt_of_le (hSx y hy) hb.size) (htr B hb.block) (hx.kept fun y hy => ⟨hy, hb.block y (hSx y hy)⟩) hsz hxz (by decide) hok hxk
 obtain ⟨y, hy⟩ : ∃ y, y = applyR (stepK 4 id par at_ tx x t) := ⟨_, rfl⟩
 unfold ApplyC at hap
 rw [h0, ← hy] at hap
 obtain ⟨s, hss⟩ : ∃ s, s = invK 4 id x t := ⟨_, rfl⟩
 rw [← hss]
 obtain ⟨wr, hwr⟩ : ∃ wr, wr = whenceK id t := ⟨_, rfl⟩
 have hwz := whence_size id t
 have hlit : s = ⟨4, id, 0, 0, wr.1.text, zeroK⟩ := by rw [hss, hwr]; unfold invK; rw [if_neg (by decide), if_neg (by decide), if_neg (by decide), if_pos rfl]
 have HLIT := Lib.hid hlit
 rw [← hwr] at hwz
 obtain ⟨u, pr, pl⟩ := wr
 simp only at hwz
 have HWZ := Lib.hid (show foSize u.kids ≤ 100000 by omega)
 clear hlit
 have hfn : ∀ X, w.heap.size ≤ X.heap.size → (∀ y, y < w.heap.size → X.heap[y]? = w.heap[y]?) → Calls Try.prog 167 #[.agg #[.int .i64 t.id, .int .i64 t.kind, .string t.text, .slice ka nk tc], .agg #[.int .i8 4, .int .i64 id, .int .i64 par, .int .i64 at_, .string tx, .int .i64 x.id, .int .i64 x.kind, .string x.text, .slice sa sn sc]] X (BackC X S ⟨4, id, 0, 0, u.text, zeroK⟩) := fun X hX1 hX => by
  have h := writeBack_any X S (.agg #[.int .i64 t.id, .int .i64 t.kind, .string t.text, .slice ka nk tc]) t 4 id par at_ x.id x.kind tx x.text sa sn sc (fun y hy => Nat.lt_of_lt_of_le (hS y hy) hX1) (htr X hX) (by omega)
  rw [← hwr] at h; exact h
 have HFN := Lib.hid hfn
 have HSW := Lib.hid hS
 obtain ⟨b0, b1, b2, b3⟩ := box4 ht0
 obtain ⟨m0, m1, m2, m3, m4, m5, m6, m7, m8⟩ := box9 hs0
 have HAP := Lib.hid hap
 have HB := Lib.hid (And.intro hb (And.intro hs (And.intro ht0 (And.intro hs0 hr0))))
 have HBE := Lib.hid hB
 clear hap hb hs ht0 hs0 hr0 hB hnk hcap hk hS hSx hsz hxz hok hxk hx htr hy hss hfn h0 hwr
 go_enter Try.func80, Try.ntmps80
 go_upto_region 1 with fail
 change Code.wp _ _ _ _ (allocs w [.cells #[.int .i64 t.id, .int .i64 t.kind, .string t.text, .slice ka nk tc] 24, .cells #[.int .i8 4, .int .i64 id, .int .i64 par, .int .i64 at_, .string tx, .int .i64 x.id, .int .i64 x.kind, .string x.text, .slice sa sn sc] 47, .cells #[.int .i8 0, .int .i64 0, .int .i64 0, .int .i64 0, .string ⟨#[]⟩, .int .i64 0, .int .i64 0, .string ⟨#[]⟩, .slice none 0 0] 47])
 rw [← HBE.out]
 clear HBE
 go_wp2_with fail
 refine HAP.out.mono ?_
 rintro e W ⟨_, rfl, ⟨yb, yc, rfl, _, _⟩, hbW⟩
 obtain ⟨yn, hyn⟩ : ∃ yn, yn = foLen y.kids := ⟨_, rfl⟩
 rw [← hyn]
 clear hyn
 obtain ⟨U, hU⟩ : ∃ U, U = W.alloc (.cells #[.int .i64 y.id, .int .i64 y.kind, .string y.text, .slice yb yn yc] 24) := ⟨_, rfl⟩
 have hbU : Below W.heap.size W U := by rw [hU]; exact box_below _ _
 have hbB : Below B.heap.size B U := hbW.trans (hbU.mono hbW.size)
 have ht1 := (hbB.block _ (lt_of_heap HB.out.2.2.1)).trans HB.out.2.2.1
 have hs1 := (hbB.block _ (lt_of_heap HB.out.2.2.2.1)).trans HB.out.2.2.2.1
 have hr1 := (hbB.block _ (lt_of_heap HB.out.2.2.2.2)).trans HB.out.2.2.2.2
 have hUs : w.heap.size + 3 ≤ U.heap.size := by have := HB.out.2.1; have := hbB.size; omega
 have hbw : Below w.heap.size w U := HB.out.1.trans (hbB.mono HB.out.1.size)
 have HU := Lib.hid hU
 have HT := Lib.hid (And.intro ht1 (And.intro hs1 (And.intro hr1 (And.intro hUs hbw))))
 clear hbW hU hbU hbB ht1 hs1 hr1 hUs hbw b0 b1 b2 b3 m0 m1 m2 m3 m4 m5 m6 m7 m8
 go_upto_region 2 with fail
 rw [← HU.out]
 go_upto_region 4 with fail
 refine wp_region_held_drew (S := fun X => Tc U X (w.heap.size + 1 + 1)) (by kernel_rfl) (Tc.of (below_drewN (Below.refl _ U) 1)) (fun hHeld => ?_)
 refine tkH (i := 1) (.pointer (some ⟨w.heap.size + 1, 0, none⟩)) rfl (Or.inl ⟨by rfl, fun X _ => by clear hHeld; go_simp⟩) (by assumption) ?_
 simp only [Act.put, pg]
 refine tkH (i := 2) (.int .i8 4) rfl (Or.inl ⟨by rfl, ?_⟩) (by assumption) ?_
 · clear hHeld; intro X hSw; obtain ⟨m0, m1, m2, m3, m4, m5, m6, m7, m8⟩ := box9 ((hSw.block _ (lt_of_heap HT.out.2.1) (by omega)).trans HT.out.2.1); clear hSw; go_simp
 simp only [Act.put, pg]
 refine tkH (i := 4) (.agg #[.int .i64 t.id, .int .i64 t.kind, .string t.text, .slice ka nk tc]) rfl (Or.inl ⟨by rfl, ?_⟩) (by assumption) ?_
 · clear hHeld; intro X hSw; obtain ⟨b0, b1, b2, b3⟩ := box4 ((hSw.block _ (lt_of_heap HT.out.1) (by omega)).trans HT.out.1); clear hSw; go_simp
 simp only [Act.put, pg]
 refine tkH (i := 5) (.agg #[.int .i8 4, .int .i64 id, .int .i64 par, .int .i64 at_, .string tx, .int .i64 x.id, .int .i64 x.kind, .string x.text, .slice sa sn sc]) rfl (Or.inl ⟨by rfl, ?_⟩) (by assumption) ?_
 · clear hHeld; intro X hSw; obtain ⟨m0, m1, m2, m3, m4, m5, m6, m7, m8⟩ := box9 ((hSw.block _ (lt_of_heap HT.out.2.1) (by omega)).trans HT.out.2.1); clear hSw; go_simp
 simp only [Act.put, pg]
 refine wpAnyH_ready (rs := [0]) (by kernel_rfl) (by simp) ?_
 refine AllReadyH.cons (o := _) rfl (fun K hK => ?_) AllReadyH.nil
 rw [if_pos (by rfl)]
 simp only [pg3]
 have HK := Lib.hid hK
 have HS := Lib.hid hHeld
 clear hK hHeld
 have HZ : Hid (U.drew.heap[w.heap.size + 1 + 1]? = some (.cells #[.int .i8 0, .int .i64 0, .int .i64 0, .int .i64 0, .string ⟨#[]⟩, .int .i64 0, .int .i64 0, .string ⟨#[]⟩, .slice none 0 0] 47 (0, 0))) := Lib.hid HT.out.2.2.1
 go_wp2_with (go_at_call 126; refine (inverses_any _).mono ?_; rintro e w5 ⟨rfl, hb5⟩; have HZ5 := Lib.hid ((hb5.block _ (lt_of_heap HZ.out)).trans HZ.out); have HS5 := Lib.hid (HS.out.then hb5); clear hb5; unfold invV)
 refine HK.out _ _ HS5.out (fun hHeld => ?_)
 clear HK HS HZ
 refine tkH (i := 3) (.func (.func 167) #[] #[]) rfl (Or.inl ⟨by rfl, ?_⟩) (by assumption) ?_
 · clear hHeld; intro X hSw; have hix := index_inv4 X; clear hSw; go_simp
 simp only [Act.put, pg]
 refine wpAnyH_ready (rs := [6]) (by kernel_rfl) (by simp) ?_
 refine AllReadyH.cons (o := _) rfl (fun K hK => ?_) AllReadyH.nil
 rw [if_pos (by rfl)]
 simp only [pg3]
 have HK := Lib.hid hK
 have HS := Lib.hid hHeld
 clear hK hHeld
 go_wp2_with (go_at_call 167; refine (HFN.out _ (Nat.le_trans HT.out.2.2.2.2.size HS.out.size) (fun y hy => (HS.out.block y (by have := HT.out.2.2.2.1; omega) (by omega)).trans (HT.out.2.2.2.2.block y hy))).mono ?_; rintro e w6 ⟨_, rfl, ⟨ma, mc, rfl, hmc, hmk⟩, hb6⟩; have HZ6 := Lib.hid ((hb6.block _ (lt_of_heap HZ5.out)).trans HZ5.out); have HS6 := Lib.hid (HS.out.then hb6); have HM := Lib.hid (And.intro hmc (And.intro hmk (show w.heap.size + 3 ≤ w5.heap.size from Nat.le_trans HT.out.2.2.2.1 HS.out.size))); clear hmc hmk hb6)
 refine HK.out _ _ HS6.out (fun hHeld => ?_)
 clear HK HS HS5 HZ5
 refine wpAnyH_ready (rs := [7]) (by kernel_rfl) (by simp) ?_
 refine AllReadyH.cons (o := _) rfl (fun K hK => ?_) AllReadyH.nil
 rw [if_pos (by rfl)]
 simp only [pg3]
 have HK := Lib.hid hK
 have HS := Lib.hid hHeld
 clear hK hHeld
 have hpl : Calls Try.prog 125 #[.agg #[.int .i8 4, .int .i64 id, .int .i64 0, .int .i64 0, .string u.text, .int .i64 0, .int .i64 0, .string ⟨#[]⟩, .slice ma 0 mc]] w6 (BackC w6 (fun y => S y ∨ w.heap.size + 3 ≤ y) s) := by
  rw [HLIT.out]
  exact plain4 _ _ _ _ _ _ _ _ _ _ _ _
 have HPL := Lib.hid hpl
 clear hpl
 try simp only [zeroK, foLen]
 go_wp2_with (go_at_call 125; refine HPL.out.mono ?_; rintro e w7 ⟨_, rfl, ⟨qa, qc, rfl, hqc, hqk⟩, hb7⟩; have HZ7 := Lib.hid ((hb7.block _ (lt_of_heap HZ6.out)).trans HZ6.out); have HS7 := Lib.hid (HS.out.then hb7); have HQ := Lib.hid (And.intro hqc hqk); clear hqc hqk hb7)
 refine HK.out _ _ HS7.out (fun hHeld => ?_)
 have HW6 := Lib.hid (show w.heap.size + 3 ≤ w6.heap.size from Nat.le_trans HT.out.2.2.2.1 HS.out.size)
 clear HK HS HS6 HZ6 HPL
 obtain ⟨qn, hqn⟩ : ∃ qn, qn = foLen s.sub.kids := ⟨_, rfl⟩
 refine wpAnyH_ready (rs := [8]) (by kernel_rfl) (by simp) ?_
 refine AllReadyH.cons (o := _) rfl (fun K hK => ?_) AllReadyH.nil
 rw [if_pos (by rfl)]
 simp only [pg3]
 have HK := Lib.hid hK
 have HS := Lib.hid hHeld
 clear hK hHeld
 have hz := HZ7.out
 obtain ⟨z0, z1, z2, z3, z4, z5, z6, z7, z8⟩ := box9 hz
 have zf : ∀ j, w7.frozen? ⟨w.heap.size + 1 + 1, j, none⟩ = false := fun j => frozen_of_row _ _ j _ _ hz
 obtain ⟨V9, hV9, v1, v2, v3, v4, v5, v6⟩ := nine_set (u0 := .int .i8 s.op) (u1 := .int .i64 s.id) (u2 := .int .i64 s.par) (u3 := .int .i64 s.at_) (u4 := .string s.tx) (u5 := .int .i64 s.sub.id) (u6 := .int .i64 s.sub.kind) (u7 := .string s.sub.text) (u8 := .slice qa (foLen s.sub.kids) qc) hz
 have hT9 : Tc U V9 (w.heap.size + 1 + 1) := ⟨v3.trans HS7.out.os, v4.trans HS7.out.tape, v5.trans HS7.out.output, by rw [v6]; exact HS7.out.size, fun y hy hn => (v2 y hn).trans (HS7.out.block y hy hn)⟩
 have hE : InvC w (fun y => S y ∨ Sx y) 0 s (.returned (.tuple #[.agg #[.int .i8 s.op, .int .i64 s.id, .int .i64 s.par, .int .i64 s.at_, .string s.tx, .int .i64 s.sub.id, .int .i64 s.sub.kind, .string s.sub.text, .slice qa (foLen s.sub.kids) qc], .int .i64 0])) V9 := ⟨_, rfl, ⟨qa, qc, rfl, HQ.out.1, HQ.out.2.kept fun y hy => by
  have h1 : S y ∨ w.heap.size + 3 ≤ y := by
   rcases hy.1 with h | h
   · exact h
   · exact Or.inr (Nat.le_trans HW6.out h)
  have hne : y ≠ w.heap.size + 1 + 1 := by
   rcases h1 with h | h
   · have := HSW.out y h; omega
   · omega
  exact ⟨⟨h1.imp (fun h => Or.inl h) (fun h => by omega), by rw [v6]; exact hy.2⟩, v2 y hne⟩⟩, hT9.below HT.out.2.2.2.2 (by omega)⟩
 have HE := Lib.hid (And.intro hE (And.intro hV9 (And.intro v1 hT9)))
 clear hz hV9 v1 v2 v3 v4 v5 v6 hT9 hE hqn
 go_wp2_with fail
 rw [← HE.out.2.1]
 refine HK.out _ _ HE.out.2.2.2 (fun hHeld => ?_)
 clear HK HS z0 z1 z2 z3 z4 z5 z6 z7 z8 zf HQ HS7 HZ7
 refine tkH (i := 9) (.int .i64 0) rfl (Or.inl ⟨by rfl, fun X _ => by clear hHeld; go_simp⟩) (by assumption) ?_
 simp only [Act.put, pg]
 refine wpAnyH_done (by kernel_rfl) ?_ _
 clear hHeld
 go_wp2_with fail
 refine bodyPost_ret (results_cellT rfl _ _ (w.heap.size + 1 + 1) 47 _ (0, 0) _ (.int .i64 0) rfl HE.out.2.2.1 Try.underlying47 rfl (by kernel_rfl) rfl) rfl ?_
 exact HE.out.1
def Sf.inv (s : Sf) (t : Tr) : Sf := if (s.on t).2 = 0 then invK s.op s.id s.sub t else zeroS
structure SfOk (s : Sf) : Prop where
 op : (Lit.int .i8 s.op).wf = true
 ids : ∀ i ∈ idT s.sub, (Lit.int .i64 i).wf = true
 size : foSize s.sub.kids + 1 ≤ 2000
theorem applyS_any (w : World) (S Sx : Nat → Prop) (nv sv : Value) (t : Tr) (s : Sf) (hS : ∀ y, S y → y < w.heap.size) (hSx : ∀ y, Sx y → y < w.heap.size) (ht : TrAt w S nv t) (hs : SfAt w Sx sv s) (hsz : foSize t.kids + 1 ≤ 2000) (hok : ∀ i ∈ idT t, (Lit.int .i64 i).wf = true) (ho : SfOk s) :
 Calls Try.prog 77 #[nv, sv] w (ApplyC w (fun y => S y ∨ Sx y) (s.on t)) := by
 obtain ⟨ka, kc, rfl, h1, h2⟩ := hs
 exact apply_any w S Sx nv t s.sub s.op s.id s.par s.at_ s.tx ka (foLen s.sub.kids) kc hS hSx ht ⟨ka, kc, rfl, h1, h2⟩ hsz ho.size ho.op hok ho.ids
def LiesI (W : World) (f : Fo) (a : Option Addr) (c : Nat) : Prop := foLen f ≤ c ∧ FoAt W (fun q => q < W.heap.size) f a
theorem LiesI.at {W X : World} {t : Tr} {a : Option Addr} {c : Nat} (h : LiesI W t.kids a c) (hb : Below W.heap.size W X) : TrAt X (fun q => q < W.heap.size) (.agg #[.int .i64 t.id, .int .i64 t.kind, .string t.text, .slice a (foLen t.kids) c]) t := ⟨a, c, rfl, h.1, h.2.kept fun q hq => ⟨hq, hb.block q hq⟩⟩
theorem LiesI.on {W X : World} {f : Fo} {a : Option Addr} {c : Nat} (h : LiesI W f a c) (hb : Below W.heap.size W X) : LiesI X f a c := ⟨h.1, h.2.kept fun q hq => ⟨Nat.lt_of_lt_of_le hq hb.size, hb.block q hq⟩⟩
theorem foFit_szI : ∀ f : Fo, foSize f ≤ 9223372036854775807 → foFit f
 | .nil, _ => True.intro
 | .node _ _ _ l r, h => by
   have h1 := foLen_le l
   simp only [foSize] at h
   exact ⟨by omega, foFit_szI l (by omega), foFit_szI r (by omega)⟩
theorem sameL {X0 X1 X : World} {t u : Tr} {ta ua : Option Addr} {tc uc : Nat} (h0 : LiesI X0 t.kids ta tc) (h1 : LiesI X1 u.kids ua uc) (b0 : Below X0.heap.size X0 X) (b1 : Below X1.heap.size X1 X) (hz : foSize t.kids + 1 ≤ 100000) :
 Calls Try.prog 30 #[.agg #[.int .i64 t.id, .int .i64 t.kind, .string t.text, .slice ta (foLen t.kids) tc], .agg #[.int .i64 u.id, .int .i64 u.kind, .string u.text, .slice ua (foLen u.kids) uc]] X (SameC t u X) :=
 same_any _ X _ _ _ _ t u (Nat.lt_succ_self _) ⟨by have := foLen_le t.kids; omega, foFit_szI _ (by omega)⟩ (fun y hy => Nat.lt_of_lt_of_le hy b0.size) (fun y hy => Nat.lt_of_lt_of_le hy b1.size) (h0.at b0) (h1.at b1)
def EB (ta ba : Option Addr) (q : Nat) : Prop := (∃ a, ta = some a ∧ a.block = q) ∨ (∃ a, ba = some a ∧ a.block = q)
theorem own_blk {ta : Option Addr} {n c q : Nat} : some q = (Value.slice ta n c).ownBlock ↔ ∃ a, ta = some a ∧ a.block = q := by
 cases ta with
 | none => simp [Value.ownBlock]
 | some a => simp [Value.ownBlock, eq_comm]
def LiesN (X : World) (E : Nat → Prop) (f : Fo) (a : Option Addr) (c : Nat) : Prop := foLen f ≤ c ∧ FoAt X (fun q => q < X.heap.size ∧ ¬ E q) f a
theorem LiesN.on {X Y : World} {E : Nat → Prop} {f : Fo} {a : Option Addr} {c : Nat} (h : LiesN X E f a c) (hb : Below X.heap.size X Y) : LiesN Y E f a c := ⟨h.1, h.2.kept fun q hq => ⟨⟨Nat.lt_of_lt_of_le hq.1 hb.size, hq.2⟩, hb.block q hq.1⟩⟩
theorem LiesN.i {X : World} {E : Nat → Prop} {f : Fo} {a : Option Addr} {c : Nat} (h : LiesN X E f a c) : LiesI X f a c := ⟨h.1, h.2.kept fun q hq => ⟨hq.1, rfl⟩⟩
theorem LiesI.n {w X : World} {E : Nat → Prop} {f : Fo} {a : Option Addr} {c : Nat} (h : LiesI w f a c) (hb : Below w.heap.size w X) (hE : ∀ q, E q → w.heap.size ≤ q) : LiesN X E f a c := ⟨h.1, h.2.kept fun q hq => ⟨⟨Nat.lt_of_lt_of_le hq hb.size, fun he => by have := hE q he; omega⟩, hb.block q hq⟩⟩
def treeC (t : Tr) (a : Option Addr) (c : Nat) : List Value := [.int .i64 t.id, .int .i64 t.kind, .string t.text, .slice a (foLen t.kids) c]
def stepC (s : Sf) (a : Option Addr) (c : Nat) : List Value := [.int .i8 s.op, .int .i64 s.id, .int .i64 s.par, .int .i64 s.at_, .string s.tx, .int .i64 s.sub.id, .int .i64 s.sub.kind, .string s.sub.text, .slice a (foLen s.sub.kids) c]
def TRow (X : World) (E : Nat → Prop) : List Tr → List Value → Prop
 | [], xs => xs = []
 | t :: l, xs => ∃ a c ys, xs = treeC t a c ++ ys ∧ LiesN X E t.kids a c ∧ TRow X E l ys
def BRow (X : World) (E : Nat → Prop) : List Sf → List Value → Prop
 | [], xs => xs = []
 | t :: l, xs => ∃ a c ys, xs = stepC t a c ++ ys ∧ LiesN X E t.sub.kids a c ∧ BRow X E l ys
theorem TRow.kept {X Y : World} {E F : Nat → Prop} (h : ∀ f a c, LiesN X E f a c → LiesN Y F f a c) : ∀ {l : List Tr} {xs : List Value}, TRow X E l xs → TRow Y F l xs
 | [], _, k => k
 | _ :: _, _, k => by
   obtain ⟨a, c, ys, e, h1, h2⟩ := k
   exact ⟨a, c, ys, e, h _ _ _ h1, h2.kept h⟩
theorem BRow.kept {X Y : World} {E F : Nat → Prop} (h : ∀ f a c, LiesN X E f a c → LiesN Y F f a c) : ∀ {l : List Sf} {xs : List Value}, BRow X E l xs → BRow Y F l xs
 | [], _, k => k
 | _ :: _, _, k => by
   obtain ⟨a, c, ys, e, h1, h2⟩ := k
   exact ⟨a, c, ys, e, h _ _ _ h1, h2.kept h⟩
theorem TRow.snoc {X : World} {E : Nat → Prop} {t : Tr} {a : Option Addr} {c : Nat} (h : LiesN X E t.kids a c) : ∀ {l : List Tr} {xs : List Value}, TRow X E l xs → TRow X E (l ++ [t]) (xs ++ treeC t a c)
 | [], xs, k => by subst k; exact ⟨a, c, [], by simp, h, rfl⟩
 | _ :: _, xs, k => by
   obtain ⟨a', c', ys, e, h1, h2⟩ := k
   exact ⟨a', c', _, by rw [e, List.append_assoc], h1, TRow.snoc h h2⟩
theorem BRow.snoc {X : World} {E : Nat → Prop} {t : Sf} {a : Option Addr} {c : Nat} (h : LiesN X E t.sub.kids a c) : ∀ {l : List Sf} {xs : List Value}, BRow X E l xs → BRow X E (l ++ [t]) (xs ++ stepC t a c)
 | [], xs, k => by subst k; exact ⟨a, c, [], by simp, h, rfl⟩
 | _ :: _, xs, k => by
   obtain ⟨a', c', ys, e, h1, h2⟩ := k
   exact ⟨a', c', _, by rw [e, List.append_assoc], h1, BRow.snoc h h2⟩
theorem TRow.nth {X : World} {E : Nat → Prop} : ∀ {l : List Tr} {xs : List Value} (k : Nat) (t : Tr), TRow X E l xs → l[k]? = some t → ∃ a c, (∀ j u, (treeC t a c)[j]? = some u → xs[k * 4 + j]? = some u) ∧ LiesN X E t.kids a c
 | [], _, k, t, _, hk => by simp at hk
 | _ :: _, xs, 0, t, h, hk => by
   obtain ⟨a, c, ys, e, h1, h2⟩ := h
   simp only [List.getElem?_cons_zero, Option.some.injEq] at hk
   subst hk
   refine ⟨a, c, fun j u hj => ?_, h1⟩
   rw [e, Nat.zero_mul, Nat.zero_add, List.getElem?_append_left (List.getElem?_eq_some_iff.1 hj).1]; exact hj
 | x :: _, xs, k + 1, t, h, hk => by
   obtain ⟨a, c, ys, e, h1, h2⟩ := h
   obtain ⟨a', c', k1, k2⟩ := TRow.nth k t h2 (by simpa using hk)
   refine ⟨a', c', fun j u hj => ?_, k2⟩
   have hl : (treeC x a c).length = 4 := rfl
   rw [e, List.getElem?_append_right (by omega), hl, show (k + 1) * 4 + j - 4 = k * 4 + j by omega]
   exact k1 j u hj
theorem BRow.nth {X : World} {E : Nat → Prop} : ∀ {l : List Sf} {xs : List Value} (k : Nat) (t : Sf), BRow X E l xs → l[k]? = some t → ∃ a c, (∀ j u, (stepC t a c)[j]? = some u → xs[k * 9 + j]? = some u) ∧ LiesN X E t.sub.kids a c
 | [], _, k, t, _, hk => by simp at hk
 | _ :: _, xs, 0, t, h, hk => by
   obtain ⟨a, c, ys, e, h1, h2⟩ := h
   simp only [List.getElem?_cons_zero, Option.some.injEq] at hk
   subst hk
   refine ⟨a, c, fun j u hj => ?_, h1⟩
   rw [e, Nat.zero_mul, Nat.zero_add, List.getElem?_append_left (List.getElem?_eq_some_iff.1 hj).1]; exact hj
 | x :: _, xs, k + 1, t, h, hk => by
   obtain ⟨a, c, ys, e, h1, h2⟩ := h
   obtain ⟨a', c', k1, k2⟩ := BRow.nth k t h2 (by simpa using hk)
   refine ⟨a', c', fun j u hj => ?_, k2⟩
   have hl : (stepC x a c).length = 9 := rfl
   rw [e, List.getElem?_append_right (by omega), hl, show (k + 1) * 9 + j - 9 = k * 9 + j by omega]
   exact k1 j u hj
theorem ty_ne {w : World} {y : Nat} {cs cs' : Array Value} {t t' : TypeId} {fr fr' : Nat × Nat} (h : w.heap[y]? = some (.cells cs t fr)) (h' : w.heap[y]? = some (.cells cs' t' fr')) : t = t' := by rw [h] at h'; cases h'; rfl
def TreeN (E : Nat → Prop) (y : Tr) (n : Int) (X : World) (e : Ending) (W : World) : Prop := ∃ va vc, e = .returned (.tuple #[.agg #[.int .i64 y.id, .int .i64 y.kind, .string y.text, .slice va (foLen y.kids) vc], .int .i64 n]) ∧ LiesN W E y.kids va vc ∧ Below X.heap.size X W
def StepN (E : Nat → Prop) (s : Sf) (n : Int) (X : World) (e : Ending) (W : World) : Prop := ∃ va vc, e = .returned (.tuple #[.agg #[.int .i8 s.op, .int .i64 s.id, .int .i64 s.par, .int .i64 s.at_, .string s.tx, .int .i64 s.sub.id, .int .i64 s.sub.kind, .string s.sub.text, .slice va (foLen s.sub.kids) vc], .int .i64 n]) ∧ LiesN W E s.sub.kids va vc ∧ Below X.heap.size X W
theorem LiesN.at {E : Nat → Prop} {W X : World} {t : Tr} {a : Option Addr} {c : Nat} (h : LiesN W E t.kids a c) (hb : Below W.heap.size W X) : TrAt X (fun q => q < W.heap.size ∧ ¬ E q) (.agg #[.int .i64 t.id, .int .i64 t.kind, .string t.text, .slice a (foLen t.kids) c]) t := ⟨a, c, rfl, h.1, h.2.kept fun q hq => ⟨hq, hb.block q hq.1⟩⟩
theorem applyN {E : Nat → Prop} {X0 X1 X : World} {t : Tr} {s : Sf} {ta sa : Option Addr} {tc sc : Nat} (hE : ∀ q, E q → q < X.heap.size) (h0 : LiesN X0 E t.kids ta tc) (h1 : LiesN X1 E s.sub.kids sa sc) (b0 : Below X0.heap.size X0 X) (b1 : Below X1.heap.size X1 X) (hz : foSize t.kids + 1 ≤ 2000) (hok : ∀ i ∈ idT t, (Lit.int .i64 i).wf = true) (ho : SfOk s) :
 Calls Try.prog 77 #[.agg #[.int .i64 t.id, .int .i64 t.kind, .string t.text, .slice ta (foLen t.kids) tc], .agg #[.int .i8 s.op, .int .i64 s.id, .int .i64 s.par, .int .i64 s.at_, .string s.tx, .int .i64 s.sub.id, .int .i64 s.sub.kind, .string s.sub.text, .slice sa (foLen s.sub.kids) sc]] X (TreeN E (applyR (s.on t)) (s.on t).2 X) := by
 refine (applyS_any X _ _ _ _ t s (fun y hy => Nat.lt_of_lt_of_le hy.1 b0.size) (fun y hy => Nat.lt_of_lt_of_le hy.1 b1.size) (h0.at b0) ⟨sa, sc, rfl, h1.1, h1.2.kept fun q hq => ⟨hq, b1.block q hq.1⟩⟩ hz hok ho).mono ?_
 rintro e W ⟨v, rfl, ⟨va, vc, rfl, hc, hf⟩, hb⟩
 refine ⟨va, vc, rfl, ⟨hc, hf.kept fun q hq => ⟨⟨hq.1.lt, fun he => ?_⟩, rfl⟩⟩, hb⟩
 rcases hq.2 with (h | h) | h
 · exact h.2 he
 · exact h.2 he
 · have := hE q he; omega
theorem LiesN.weak {X : World} {E F : Nat → Prop} {f : Fo} {a : Option Addr} {c : Nat} (h : LiesN X F f a c) (hE : ∀ q, E q → F q) : LiesN X E f a c := ⟨h.1, h.2.kept fun q hq => ⟨⟨hq.1, fun he => hq.2 (hE q he)⟩, rfl⟩⟩
theorem Try.infoStI : (Try.prog.info? 47).map (fun i => (i.size, i.bytes, i.zero.map (fun z => z.cells.size))) = some (9, 104, some 9) := by kernel_rfl
def YesR (w : World) (e : Ending) (w' : World) : Prop := e = .returned (.bool true) ∧ Below w.heap.size w w'
end Go.Proofs.Ytonapijgfalpaaa
