/-
  Apply and Invert of any step that lies in memory. No condition but that there are not too many nodes, and the bounds of ids that a host keeps.
  What the document says of two inverses in a tree of four nodes. No condition.
  Apply, Invert and SameNode over trees and steps that lay in memory some while ago. No condition but that there are not too many nodes.
-/
import Derived.Test.YthjniclhnfipdaaIInv1Qv
import Derived.Test.YthjniclhnfipdaaIInv2Qv
import Derived.Test.YthjniclhnfipdaaIInv3Qv
import Derived.Test.YthjniclhnfipdaaIInv4Qv
import Derived.Deep.Cut
import Derived.Test.YthjniclhnfipdaaRSameQv
import Derived.Test.YthjniclhnfipdaaIApartQv
namespace Go.Proofs.Ythjniclhnfipdaa
open Go.RowKit Go.Shelf
set_option linter.unusedVariables false
set_option linter.unusedSimpArgs false

/-- The step that Invert tells. -/
def Sf.inv (s : Sf) (t : Tr) : Sf := if (s.on t).2 = 0 then invK s.op s.id s.sub t else zeroS
/-- What a host keeps of a step's numbers, and its size. -/
structure SfOk (s : Sf) : Prop where
  op : (Lit.int .i8 s.op).wf = true
  ids : ∀ i ∈ idT s.sub, (Lit.int .i64 i).wf = true
  size : foSize s.sub.kids + 1 ≤ 2000
theorem applyS_any (w : World) (S Sx : Nat → Prop) (nv sv : Value) (t : Tr) (s : Sf) (hS : ∀ y, S y → y < w.heap.size) (hSx : ∀ y, Sx y → y < w.heap.size) (ht : TrAt w S nv t) (hs : SfAt w Sx sv s) (hsz : foSize t.kids + 1 ≤ 2000) (hok : ∀ i ∈ idT t, (Lit.int .i64 i).wf = true) (ho : SfOk s) :
    Calls Try.prog 75 #[nv, sv] w (ApplyC w (fun y => S y ∨ Sx y) (s.on t)) := by
  obtain ⟨ka, kc, rfl, h1, h2⟩ := hs
  exact apply_any w S Sx nv t s.sub s.op s.id s.par s.at_ s.tx ka (foLen s.sub.kids) kc hS hSx ht ⟨ka, kc, rfl, h1, h2⟩ hsz ho.size ho.op hok ho.ids
theorem invertS_any (w : World) (S Sx : Nat → Prop) (nv sv : Value) (t : Tr) (s : Sf) (hS : ∀ y, S y → y < w.heap.size) (hSx : ∀ y, Sx y → y < w.heap.size) (ht : TrAt w S nv t) (hs : SfAt w Sx sv s) (hsz : foSize t.kids + 1 ≤ 2000) (hok : ∀ i ∈ idT t, (Lit.int .i64 i).wf = true) (ho : SfOk s) :
    Calls Try.prog 78 #[nv, sv] w (InvC w (fun y => S y ∨ Sx y) (s.on t).2 (s.inv t)) := by
  obtain ⟨ka, kc, rfl, h1, h2⟩ := hs
  have hx : TrAt w Sx (.agg #[.int .i64 s.sub.id, .int .i64 s.sub.kind, .string s.sub.text, .slice ka (foLen s.sub.kids) kc]) s.sub := ⟨ka, kc, rfl, h1, h2⟩
  have hid := ho.ids
  have hop := ho.op
  have hxz := ho.size
  unfold Sf.inv Sf.on
  obtain ⟨op, id, par, at_, tx, x⟩ := s
  simp only at *
  by_cases h0 : (stepK op id par at_ tx x t).2 = 0
  · rw [if_pos h0]
    have hop4 := stepK_op (y := (stepK op id par at_ tx x t).1) (Prod.ext rfl h0)
    rw [h0]
    rcases hop4 with rfl | rfl | rfl | rfl
    · exact invert_1 w S Sx nv t x id par at_ tx ka _ kc hS hSx ht hx hsz hxz hok hid h0
    · exact invert_2 w S Sx nv t x id par at_ tx ka _ kc hS hSx ht hx hsz hxz hok hid h0
    · exact invert_3 w S Sx nv t x id par at_ tx ka _ kc hS hSx ht hx hsz hxz hok hid h0
    · exact invert_4 w S Sx nv t x id par at_ tx ka _ kc hS hSx ht hx hsz hxz hok hid h0
  · rw [if_neg h0]
    exact invert_err w S Sx nv t x op id par at_ tx ka _ kc hS hSx ht hx hsz hxz hop hok hid h0
/-- There and back, of a step. -/
theorem sf_back {s : Sf} {t y : Tr} (hd : DistT t) (hr : RngT t) (h : s.on t = (y, 0)) : (∃ z, (s.inv t).on y = (z, 0) ∧ sameT z t = true) ∧ ((s.inv t).inv y).on t = (y, 0) := by
  have hb := inv_back hd hr h
  have e1 : s.inv t = invK s.op s.id s.sub t := by unfold Sf.inv; rw [h, if_pos rfl]
  obtain ⟨⟨z, hz, hs⟩, hc⟩ := hb
  rw [← e1] at hz hc
  refine ⟨⟨z, hz, hs⟩, ?_⟩
  have e2 : (s.inv t).inv y = invK (s.inv t).op (s.inv t).id (s.inv t).sub y := by
    conv => lhs; unfold Sf.inv
    rw [show ((if (s.on t).2 = 0 then invK s.op s.id s.sub t else zeroS).on y).2 = 0 from by
      have := congrArg Prod.snd hz
      unfold Sf.inv at this
      exact this, if_pos rfl]
    rfl
  rw [e2]; exact hc
/-- The inverse is one that a host keeps. -/
theorem sf_ok {s : Sf} {t y : Tr} (hr : RngT t) (hsz : foSize t.kids + 1 ≤ 2000) (h : s.on t = (y, 0)) : SfOk (s.inv t) ∧ ∀ i ∈ idT t, (Lit.int .i64 i).wf = true := by
  have e1 : s.inv t = invK s.op s.id s.sub t := by unfold Sf.inv; rw [h, if_pos rfl]
  obtain ⟨h1, h2, h3, h4⟩ := inv_sub hr h
  rw [e1]
  exact ⟨⟨h3, h2, by omega⟩, h4⟩
theorem rng_wf {t : Tr} (hr : RngT t) : ∀ i ∈ idT t, (Lit.int .i64 i).wf = true := fun i hi => by
  have h := hr i hi
  have e1 : IntKind.i64.min = -9223372036854775808 := by decide
  have e2 : IntKind.i64.max = 9223372036854775807 := by decide
  simp only [Lit.wf, decide_eq_true_eq, Bool.and_eq_true, e1, e2]; omega
end Go.Proofs.Ythjniclhnfipdaa
namespace Go.Proofs.Ythjniclhnfipdaa
open Go.RowKit Go.Shelf
set_option linter.unusedVariables false
set_option linter.unusedSimpArgs false

def fourI : Tr := ⟨1, 0, ⟨#[]⟩, .node 0 0 (2, 0, ⟨#[]⟩) .nil (.node 0 0 (3, 0, ⟨#[]⟩) (.node 0 0 (4, 0, ⟨#[]⟩) .nil .nil) .nil)⟩
def FourAt (X : World) (v : Value) : Prop := ∃ S : Nat → Prop, (∀ x, S x → x < X.heap.size) ∧ TrAt X S v fourI
set_option maxRecDepth 100000 in
theorem four_any (w : World) : Calls Try.prog 118 #[] w fun e w' => ∃ v, e = .returned v ∧ FourAt w' v ∧ Below w.heap.size w w' := by
  go_enter Try.func118, Try.ntmps118
  go_wp2_with fail
  obtain ⟨o1, ho1⟩ : ∃ o1, o1 = Obj.cells #[.int .i64 1, .int .i64 0, .string ⟨#[]⟩, .slice (some ⟨w.heap.size + 1 + 1, 0, none⟩) 2 2] 24 (0, 0) := ⟨_, rfl⟩
  obtain ⟨o2, ho2⟩ : ∃ o2, o2 = Obj.cells #[.int .i64 4, .int .i64 0, .string ⟨#[]⟩, .slice none 0 0] 24 (0, 0) := ⟨_, rfl⟩
  obtain ⟨o3, ho3⟩ : ∃ o3, o3 = Obj.cells #[.int .i64 2, .int .i64 0, .string ⟨#[]⟩, .slice none 0 0, .int .i64 3, .int .i64 0, .string ⟨#[]⟩, .slice (some ⟨w.heap.size + 1, 0, none⟩) 1 1] 24 (0, 0) := ⟨_, rfl⟩
  rw [← ho1, ← ho2, ← ho3]
  change bodyPost _ _ _ _ _ (allocs w [o1, o2, o3])
  have h1 := allocs_at [o1, o2, o3] w 0 _ rfl
  have h2 := allocs_at [o1, o2, o3] w 1 _ rfl
  have h3 := allocs_at [o1, o2, o3] w 2 _ rfl
  have hb := allocs_below [o1, o2, o3] w
  have hs := allocs_size [o1, o2, o3] w
  simp only [List.length_cons, List.length_nil] at hs
  have h1 := h1.trans (congrArg some ho1)
  have h2 := h2.trans (congrArg some ho2)
  have h3 := h3.trans (congrArg some ho3)
  clear ho1 ho2 ho3
  generalize allocs w [o1, o2, o3] = X at h1 h2 h3 hb hs ⊢
  simp only [Nat.add_zero] at h1
  refine bodyPost_ret (results_cellI rfl _ _ w.heap.size 24 _ _ _ rfl h1 Try.underlying24 rfl (by kernel_rfl)) rfl ?_
  refine ⟨_, rfl, ⟨fun x => x = w.heap.size + 1 ∨ x = w.heap.size + 2, fun x hx => by rcases hx with rfl | rfl <;> omega, some ⟨w.heap.size + 2, 0, none⟩, 2, rfl, Nat.le_refl _, ?_⟩, hb⟩
  have k : FoAt X (fun x => x = w.heap.size + 1 ∨ x = w.heap.size + 2) (.node 0 0 (4, 0, ⟨#[]⟩) .nil .nil) (some ⟨w.heap.size + 1, 0, none⟩) := by
    refine ⟨_, 0, none, 0, rfl, Or.inl rfl, ?_, ?_, ?_, ?_, Nat.le_refl _, True.intro, True.intro⟩
    · rw [cell_of_row _ _ 0 _ _ _ h2]; rfl
    · rw [cell_of_row _ _ 1 _ _ _ h2]; rfl
    · rw [cell_of_row _ _ 2 _ _ _ h2]; rfl
    · rw [cell_of_row _ _ 3 _ _ _ h2]; rfl
  refine ⟨_, 0, none, 0, rfl, Or.inr rfl, ?_, ?_, ?_, ?_, Nat.le_refl _, True.intro, _, 4, some ⟨w.heap.size + 1, 0, none⟩, 1, rfl, Or.inr rfl, ?_, ?_, ?_, ?_, Nat.le_refl _, k, True.intro⟩
  · rw [cell_of_row _ _ 0 _ _ _ h3]; rfl
  · rw [cell_of_row _ _ 1 _ _ _ h3]; rfl
  · rw [cell_of_row _ _ 2 _ _ _ h3]; rfl
  · rw [cell_of_row _ _ 3 _ _ _ h3]; rfl
  · rw [cell_of_row _ _ 4 _ _ _ h3]; rfl
  · rw [cell_of_row _ _ 5 _ _ _ h3]; rfl
  · rw [cell_of_row _ _ 6 _ _ _ h3]; rfl
  · rw [cell_of_row _ _ 7 _ _ _ h3]; rfl
theorem FourAt.inv {w : World} {v : Value} (h : FourAt w v) (op id par at_ : Int) {n : Int} {r : Sf} (e1 : ((⟨op, id, par, at_, ⟨#[]⟩, zeroK⟩ : Sf).on fourI).2 = n) (e2 : (⟨op, id, par, at_, ⟨#[]⟩, zeroK⟩ : Sf).inv fourI = r) (ho : (Lit.int .i8 op).wf = true) : Calls Try.prog 78 #[v, .agg #[.int .i8 op, .int .i64 id, .int .i64 par, .int .i64 at_, .string ⟨#[]⟩, .int .i64 0, .int .i64 0, .string ⟨#[]⟩, .slice none 0 0]] w fun e w' => ∃ (ka : Option Addr) (kc : Nat), e = .returned (.tuple #[.agg #[.int .i8 r.op, .int .i64 r.id, .int .i64 r.par, .int .i64 r.at_, .string r.tx, .int .i64 r.sub.id, .int .i64 r.sub.kind, .string r.sub.text, .slice ka (foLen r.sub.kids) kc], .int .i64 n]) ∧ Below w.heap.size w w' := by
  obtain ⟨S, hS, ht⟩ := h
  subst e1
  subst e2
  refine (invertS_any w S S v _ fourI ⟨op, id, par, at_, ⟨#[]⟩, zeroK⟩ hS hS ht ⟨none, 0, rfl, Nat.le_refl _, True.intro⟩ (by decide) (by decide) ⟨ho, (by decide : ∀ i ∈ idT zeroK, (Lit.int .i64 i).wf = true), (by decide : foSize zeroK.kids + 1 ≤ 2000)⟩).mono ?_
  rintro e w' ⟨v, rfl, ⟨ka, kc, rfl, _, _⟩, hb⟩
  exact ⟨ka, kc, rfl, hb⟩
theorem iv1_is : ((⟨2, 3, 0, 0, ⟨#[]⟩, zeroK⟩ : Sf).on fourI).2 = 0 := by kernel_rfl
theorem iv1_s : (⟨2, 3, 0, 0, ⟨#[]⟩, zeroK⟩ : Sf).inv fourI = ⟨1, 0, 1, 1, ⟨#[]⟩, ⟨3, 0, ⟨#[]⟩, .node 0 0 (4, 0, ⟨#[]⟩) .nil .nil⟩⟩ := by kernel_rfl
theorem iv2_is : ((⟨3, 2, 3, 1, ⟨#[]⟩, zeroK⟩ : Sf).on fourI).2 = 0 := by kernel_rfl
theorem iv2_s : (⟨3, 2, 3, 1, ⟨#[]⟩, zeroK⟩ : Sf).inv fourI = ⟨3, 2, 1, 0, ⟨#[]⟩, zeroK⟩ := by kernel_rfl
set_option maxRecDepth 100000 in
set_option maxHeartbeats 4000000 in
theorem wakes10_any (w : World) : Calls Try.prog 77 #[] w fun e w' => e = .returned (.bool true) ∧ Below w.heap.size w w' := by
  go_enter Try.func77, Try.ntmps77
  go_wp2_with fail
  refine (four_any w).mono ?_
  rintro e x1 ⟨v1, rfl, hs, hb1⟩
  go_wp2_with fail
  refine (hs.inv 2 3 0 0 iv1_is iv1_s (by decide)).mono ?_
  rintro e x2 ⟨ka, kc, rfl, hb2⟩
  simp only [foLen]
  have hb12 := hb1.trans (hb2.mono hb1.size)
  obtain ⟨y1, hy1⟩ : ∃ y1, y1 = x2.alloc (.cells #[.int .i8 1, .int .i64 0, .int .i64 1, .int .i64 1, .string ⟨#[]⟩, .int .i64 3, .int .i64 0, .string ⟨#[]⟩, .slice ka 1 kc] 47) := ⟨_, rfl⟩
  have hby : Below x2.heap.size x2 y1 := by rw [hy1]; exact box_below _ _
  have q0 : y1.heap[x2.heap.size]? = some (.cells #[.int .i8 1, .int .i64 0, .int .i64 1, .int .i64 1, .string ⟨#[]⟩, .int .i64 3, .int .i64 0, .string ⟨#[]⟩, .slice ka 1 kc] 47 (0, 0)) := by rw [hy1]; exact heap_alloc_new _ _
  have HB := Lib.hid (hb12.trans (hby.mono hb12.size))
  have HQ := Lib.hid q0
  have HY := Lib.hid hy1
  obtain ⟨A, hA⟩ : ∃ A, A = x2.heap.size := ⟨_, rfl⟩
  clear hs hb1 hb2 hb12 hby q0 hy1
  go_upto_region 2 with fail
  change Code.wp _ _ _ _ (x2.alloc (.cells #[.int .i8 1, .int .i64 0, .int .i64 1, .int .i64 1, .string ⟨#[]⟩, .int .i64 3, .int .i64 0, .string ⟨#[]⟩, .slice ka 1 kc] 47))
  rw [← HY.out, ← hA]
  rw [← hA] at HQ
  clear HY hA
  go_wp2_with fail
  refine (four_any y1).mono ?_
  rintro e x3 ⟨v3, rfl, hs, hb3⟩
  go_wp2_with fail
  refine (hs.inv 3 2 3 1 iv2_is iv2_s (by decide)).mono ?_
  rintro e x4 ⟨kb, kd, rfl, hb4⟩
  simp only [foLen, zeroK]
  obtain ⟨y2, hy2⟩ : ∃ y2, y2 = x4.alloc (.cells #[.int .i8 3, .int .i64 2, .int .i64 1, .int .i64 0, .string ⟨#[]⟩, .int .i64 0, .int .i64 0, .string ⟨#[]⟩, .slice kb 0 kd] 47) := ⟨_, rfl⟩
  have hby : Below x4.heap.size x4 y2 := by rw [hy2]; exact box_below _ _
  have q0 : y2.heap[x4.heap.size]? = some (.cells #[.int .i8 3, .int .i64 2, .int .i64 1, .int .i64 0, .string ⟨#[]⟩, .int .i64 0, .int .i64 0, .string ⟨#[]⟩, .slice kb 0 kd] 47 (0, 0)) := by rw [hy2]; exact heap_alloc_new _ _
  have hb34 := hb3.trans (hb4.mono hb3.size)
  have hb5 := hb34.trans (hby.mono hb34.size)
  have q1 := (hb5.block _ (lt_of_heap HQ.out)).trans HQ.out
  have HB := Lib.hid (HB.out.trans (hb5.mono HB.out.size))
  have HQ2 := Lib.hid q0
  have HQ1 := Lib.hid q1
  have HY := Lib.hid hy2
  obtain ⟨C, hC⟩ : ∃ C, C = x4.heap.size := ⟨_, rfl⟩
  clear hs hb3 hb4 hb34 hb5 hby q0 q1 hy2 HQ
  go_upto_region 3 with fail
  change Code.wp _ _ _ _ (x4.alloc (.cells #[.int .i8 3, .int .i64 2, .int .i64 1, .int .i64 0, .string ⟨#[]⟩, .int .i64 0, .int .i64 0, .string ⟨#[]⟩, .slice kb 0 kd] 47))
  rw [← HY.out, ← hC]
  rw [← hC] at HQ2
  clear HY hC
  obtain ⟨m0, m1, m2, m3, m4, m5, m6, m7, m8⟩ := box9 HQ1.out
  obtain ⟨n0, n1, n2, n3, n4, n5, n6, n7, n8⟩ := box9 HQ2.out
  go_wp2_with fail
  go_ret
  exact ⟨rfl, HB.out⟩
end Go.Proofs.Ythjniclhnfipdaa
namespace Go.Proofs.Ythjniclhnfipdaa
open Go.RowKit Go.Shelf
set_option linter.unusedVariables false
set_option linter.unusedSimpArgs false

/-- A row lies in memory as it was at that time. -/
def LiesI (W : World) (f : Fo) (a : Option Addr) (c : Nat) : Prop := foLen f ≤ c ∧ FoAt W (fun q => q < W.heap.size) f a
theorem LiesI.at {W X : World} {t : Tr} {a : Option Addr} {c : Nat} (h : LiesI W t.kids a c) (hb : Below W.heap.size W X) : TrAt X (fun q => q < W.heap.size) (.agg #[.int .i64 t.id, .int .i64 t.kind, .string t.text, .slice a (foLen t.kids) c]) t := ⟨a, c, rfl, h.1, h.2.kept fun q hq => ⟨hq, hb.block q hq⟩⟩
theorem LiesI.on {W X : World} {f : Fo} {a : Option Addr} {c : Nat} (h : LiesI W f a c) (hb : Below W.heap.size W X) : LiesI X f a c := ⟨h.1, h.2.kept fun q hq => ⟨Nat.lt_of_lt_of_le hq hb.size, hb.block q hq⟩⟩
theorem foFit_szI : ∀ f : Fo, foSize f ≤ 9223372036854775807 → foFit f
  | .nil, _ => True.intro
  | .node _ _ _ l r, h => by
    have h1 := foLen_le l
    simp only [foSize] at h
    exact ⟨by omega, foFit_szI l (by omega), foFit_szI r (by omega)⟩
theorem sameL {X0 X1 X : World} {t u : Tr} {ta ua : Option Addr} {tc uc : Nat} (h0 : LiesI X0 t.kids ta tc) (h1 : LiesI X1 u.kids ua uc) (b0 : Below X0.heap.size X0 X) (b1 : Below X1.heap.size X1 X) (hz : foSize t.kids + 1 ≤ 100000) :
    Calls Try.prog 28 #[.agg #[.int .i64 t.id, .int .i64 t.kind, .string t.text, .slice ta (foLen t.kids) tc], .agg #[.int .i64 u.id, .int .i64 u.kind, .string u.text, .slice ua (foLen u.kids) uc]] X (SameC t u X) :=
  same_any _ X _ _ _ _ t u (Nat.lt_succ_self _) ⟨by have := foLen_le t.kids; omega, foFit_szI _ (by omega)⟩ (fun y hy => Nat.lt_of_lt_of_le hy b0.size) (fun y hy => Nat.lt_of_lt_of_le hy b1.size) (h0.at b0) (h1.at b1)
theorem apartL {X0 X : World} {t : Tr} {ta : Option Addr} {tc : Nat} (hlen : foLen t.kids ≤ 9223372036854775807) (hfit : foFit t.kids) (h0 : LiesI X0 t.kids ta tc) (b0 : Below X0.heap.size X0 X) :
    Calls Try.prog 76 #[.agg #[.int .i64 t.id, .int .i64 t.kind, .string t.text, .slice ta (foLen t.kids) tc]] X (ApartI X t) :=
  apart10_any X _ _ t hlen hfit (fun y hy => Nat.lt_of_lt_of_le hy b0.size) (h0.at b0)
/-- How many nodes a walk cut off at M finds. -/
def LenI (M : Nat) (t : Tr) (X : World) (e : Ending) (W : World) : Prop := ∃ (a : Option Addr) (n c : Nat), e = .returned (.slice a n c) ∧ (n < M → foSize t.kids + 1 = n) ∧ n ≤ M ∧ Below X.heap.size X W
theorem lenL (M : Nat) (hM : M ≤ 1000) {X0 X : World} {t : Tr} {ta : Option Addr} {tc : Nat} (hlen : foLen t.kids ≤ 9223372036854775807) (hfit : foFit t.kids) (h0 : LiesI X0 t.kids ta tc) (b0 : Below X0.heap.size X0 X) :
    Calls Try.prog 30 #[.agg #[.int .i64 t.id, .int .i64 t.kind, .string t.text, .slice ta (foLen t.kids) tc], .int .i64 M] X (LenI M t X) := by
  refine (walkM_any M (by omega) X _ _ t hlen hfit (fun y hy => Nat.lt_of_lt_of_le hy b0.size) (h0.at b0)).mono ?_
  rintro e W ⟨a, c, rfl, _, hb⟩
  have hl : ((spF 1 (rootF t)).take M).length = min M (foSize t.kids + 1) := by rw [List.length_take, spF_length, rootF_size]
  refine ⟨a, _, c, rfl, fun h => by omega, by omega, hb⟩
end Go.Proofs.Ythjniclhnfipdaa
