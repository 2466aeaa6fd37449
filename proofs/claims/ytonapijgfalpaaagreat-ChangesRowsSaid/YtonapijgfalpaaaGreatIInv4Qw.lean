/-
  .
-/
import Derived.Deep.Cut
import Derived.Test.YtonapijgfalpaaaGreatIWhenceQw
import Derived.Test.YtonapijgfalpaaaGreatKOpenQw
import Derived.Test.YtonapijgfalpaaaGreatKApplyRQw
import Derived.Test.YtonapijgfalpaaaGreatKApplyWQw
import Derived.Test.YtonapijgfalpaaaGreatIBacksQw
import Derived.Test.YtonapijgfalpaaaGreatJPgQw
set_option maxRecDepth 100000
set_option maxHeartbeats 40000000
set_option linter.unusedVariables false
set_option linter.unusedSimpArgs false
namespace Go.Proofs.YtonapijgfalpaaaGreat
open Go.RowKit Go.Shelf
theorem qz.mono {w : World} {T T' : Nat → Prop} {r : Tr × Int} {e : Ending} {w' : World} (h : qz w T r e w') (hT : ∀ y, T y → T' y) : qz w T' r e w' := by
 obtain ⟨v, e1, h1, h2⟩ := h
 exact ⟨v, e1, h1.kept fun y hy => ⟨⟨hy.1, hy.2.imp (hT y) (fun h => h)⟩, rfl⟩, h2⟩
theorem JK (par at_ : Int) (x t : Tr) : ze (Yy par at_ x t).1.kids ≤ ze t.kids + ze x.kids + 1 := by
 unfold Yy
 split
 · exact Ji par at_ t x
 · simp [zA, ze]
theorem Zv (id : Int) (t : Tr) : ze (ql id t).1.kids ≤ ze t.kids := by
 unfold ql
 split
 · simp [zA, ze]
 · split
   · simp [zA, ze]
   · have := Qv t; exact Nat.le_trans (Nat.le_add_right _ _) (this _ _)
theorem Yp (id : Int) (tx : ByteArray) (t : Tr) : ze (jl id tx t).1.kids ≤ ze t.kids := by
 unfold jl
 split
 · simp [zA, ze]
 · split
   · simp [zA, ze]
   · rename_i p _ _ u hu
     have := vH p t u ⟨u.id, u.kind, tx, u.kids⟩ hu
     simp only at this ⊢; omega
theorem Jh {op : Int} (h : (Lit.int .i8 op).wf = true) : -128 ≤ op ∧ op ≤ 127 := by
 simp [Lit.wf] at h
 have e1 : IntKind.i8.min = -128 := by decide
 have e2 : IntKind.i8.max = 127 := by decide
 omega
def ZW (op : Int) : Prop := ∀ (w : World) (S Sx : Nat → Prop) (nv : Value) (t x : Tr) (id par at_ : Int) (tx : ByteArray) (sa : Option Addr) (sn sc : Nat) (hS : ∀ y, S y → y < w.heap.size) (hSx : ∀ y, Sx y → y < w.heap.size) (ht : zL w S nv t) (hx : zL w Sx (.agg #[.int .i64 x.id, .int .i64 x.kind, .string x.text, .slice sa sn sc]) x) (hsz : ze t.kids + 1 ≤ 2000) (hxz : ze x.kids + 1 ≤ 2000) (hop : (Lit.int .i8 op).wf = true) (hok : ∀ i ∈ idT t, (Lit.int .i64 i).wf = true) (hxk : ∀ i ∈ idT x, (Lit.int .i64 i).wf = true),
 Calls Tryz.prog 63 #[nv, .agg #[.int .i8 op, .int .i64 id, .int .i64 par, .int .i64 at_, .string tx, .int .i64 x.id, .int .i64 x.kind, .string x.text, .slice sa sn sc]] w (qz w (fun y => S y ∨ Sx y) (yS op id par at_ tx x t))
theorem kD (w : World) (S Sx : Nat → Prop) (nv : Value) (t x : Tr) (op id par at_ : Int) (tx : ByteArray) (sa : Option Addr) (sn sc : Nat) (hS : ∀ y, S y → y < w.heap.size) (hSx : ∀ y, Sx y → y < w.heap.size) (ht : zL w S nv t) (hx : zL w Sx (.agg #[.int .i64 x.id, .int .i64 x.kind, .string x.text, .slice sa sn sc]) x) (hsz : ze t.kids + 1 ≤ 2000) (hxz : ze x.kids + 1 ≤ 2000) (hop : (Lit.int .i8 op).wf = true) (hok : ∀ i ∈ idT t, (Lit.int .i64 i).wf = true) (hxk : ∀ i ∈ idT x, (Lit.int .i64 i).wf = true) (hO : ZW op) :
 Calls Tryz.prog 63 #[nv, .agg #[.int .i8 op, .int .i64 id, .int .i64 par, .int .i64 at_, .string tx, .int .i64 x.id, .int .i64 x.kind, .string x.text, .slice sa sn sc]] w (qz w (fun y => S y ∨ Sx y) (yS op id par at_ tx x t)) :=
 hO w S Sx nv t x id par at_ tx sa sn sc hS hSx ht hx hsz hxz hop hok hxk
theorem zgl : ZW 2 := fun w S Sx nv t x id par at_ tx sa sn sc hS hSx ht hx hsz hxz hop hok hxk => by
 have hX : ∀ X, Below w.heap.size w X → (∀ y, S y → y < X.heap.size) ∧ zL X S nv t := fun X h => ⟨fun y hy => nL (hS y hy) h.size, ht.kept fun y hy => ⟨hy, h.block y (hS y hy)⟩⟩
 show Calls _ _ _ _ (qz w _ (yS 2 id par at_ tx x t))
 rw [show yS 2 id par at_ tx x t = ql id t by unfold yS; rw [if_neg (by decide), if_pos rfl]]
 refine Calls.mono (J2 w S Sx S nv t x id par at_ tx sa sn sc _ hS hSx hS ht hx hsz hxz (by have := Zv id t; omega) fun X h => ?_) fun e w' h => h.mono fun y hy => Or.inl hy
 exact zbr X S nv t 2 id par at_ x.id x.kind tx x.text sa sn sc (hX X h).1 (hX X h).2 (by omega)
theorem Jv : ZW 4 := fun w S Sx nv t x id par at_ tx sa sn sc hS hSx ht hx hsz hxz hop hok hxk => by
 have hX : ∀ X, Below w.heap.size w X → (∀ y, S y → y < X.heap.size) ∧ zL X S nv t := fun X h => ⟨fun y hy => nL (hS y hy) h.size, ht.kept fun y hy => ⟨hy, h.block y (hS y hy)⟩⟩
 show Calls _ _ _ _ (qz w _ (yS 4 id par at_ tx x t))
 rw [show yS 4 id par at_ tx x t = jl id tx t by unfold yS; rw [if_neg (by decide), if_neg (by decide), if_neg (by decide), if_pos rfl]]
 refine Calls.mono (zaD w S Sx S nv t x id par at_ tx sa sn sc _ hS hSx hS ht hx hsz hxz (by have := Yp id tx t; omega) fun X h => ?_) fun e w' h => h.mono fun y hy => Or.inl hy
 exact zdg X S nv t 4 id par at_ x.id x.kind tx x.text sa sn sc (hX X h).1 (hX X h).2 (by omega)
theorem zg4 (w : World) (S : Nat → Prop) (id par at_ s1 s2 : Int) (tx s3 : ByteArray) (sa : Option Addr) (sn sc : Nat) :
 Calls Tryz.prog 88 #[.agg #[.int .i8 2, .int .i64 id, .int .i64 par, .int .i64 at_, .string tx, .int .i64 s1, .int .i64 s2, .string s3, .slice sa sn sc]] w (jK w S ⟨2, id, 0, 0, ⟨#[]⟩, zA⟩) := by
 obtain ⟨B, hB⟩ : ∃ B, B = zo w [.cells #[.int .i8 2, .int .i64 id, .int .i64 par, .int .i64 at_, .string tx, .int .i64 s1, .int .i64 s2, .string s3, .slice sa sn sc] 49, .cells #[.int .i8 0, .int .i64 0, .int .i64 0, .int .i64 0, .string ⟨#[]⟩, .int .i64 0, .int .i64 0, .string ⟨#[]⟩, .slice none 0 0] 49] := ⟨_, rfl⟩
 have hb : Below w.heap.size w B := by rw [hB]; exact zk _ _
 have hs0 : B.heap[w.heap.size]? = some (.cells #[.int .i8 2, .int .i64 id, .int .i64 par, .int .i64 at_, .string tx, .int .i64 s1, .int .i64 s2, .string s3, .slice sa sn sc] 49 (0, 0)) := by rw [hB]; exact zg _ _ 0 _ rfl
 have hr0 : B.heap[w.heap.size + 1]? = some (.cells #[.int .i8 0, .int .i64 0, .int .i64 0, .int .i64 0, .string ⟨#[]⟩, .int .i64 0, .int .i64 0, .string ⟨#[]⟩, .slice none 0 0] 49 (0, 0)) := by rw [hB]; exact zg _ _ 1 _ rfl
 obtain ⟨V9, hV9, v1, v2, v3, v4, v5, v6⟩ := vJ (u0 := .int .i8 2) (u1 := .int .i64 id) (u2 := .int .i64 0) (u3 := .int .i64 0) (u4 := .string ⟨#[]⟩) (u5 := .int .i64 0) (u6 := .int .i64 0) (u7 := .string ⟨#[]⟩) (u8 := .slice none 0 0) hr0
 obtain ⟨m0, m1, m2, m3, m4, m5, m6, m7, m8⟩ := yP hs0
 obtain ⟨z0, z1, z2, z3, z4, z5, z6, z7, z8⟩ := yP hr0
 have zf : ∀ j, B.frozen? ⟨w.heap.size + 1, j, none⟩ = false := fun j => frozen_of_row _ _ j _ _ hr0
 have HEND : Hid (jK w S ⟨2, id, 0, 0, ⟨#[]⟩, zA⟩ (.returned (.agg #[.int .i8 2, .int .i64 id, .int .i64 0, .int .i64 0, .string ⟨#[]⟩, .int .i64 0, .int .i64 0, .string ⟨#[]⟩, .slice none 0 0])) V9) := hH ⟨_, rfl, ⟨none, 0, rfl, Nat.le_refl _, True.intro⟩, ⟨v3.trans hb.os, v4.trans hb.tape, v5.trans hb.output, by rw [v6]; exact hb.size, fun y hy => (v2 y (by omega)).trans (hb.block y hy)⟩⟩
 have HV9 := hH (aN hV9 v1)
 have HBE := hH hB
 clear hb hs0 hr0 hB hV9 v1 v2 v3 v4 v5 v6
 go_enter Tryz.func88, Tryz.ntmps88
 go_upto_region 1 with fail
 change Code.wp _ _ _ _ (zo w [.cells #[.int .i8 2, .int .i64 id, .int .i64 par, .int .i64 at_, .string tx, .int .i64 s1, .int .i64 s2, .string s3, .slice sa sn sc] 49, .cells #[.int .i8 0, .int .i64 0, .int .i64 0, .int .i64 0, .string ⟨#[]⟩, .int .i64 0, .int .i64 0, .string ⟨#[]⟩, .slice none 0 0] 49])
 rw [← HBE.out]
 clear HBE
 go_wp2_with fail
 rw [← HV9.out.1]
 refine bodyPost_ret (qg rfl _ _ (w.heap.size + 1) 49 _ (0, 0) _ rfl HV9.out.2 Tryz.underlying49 rfl (by kernel_rfl)) rfl ?_
 exact HEND.out
theorem zfZ (w : World) (S : Nat → Prop) (id par at_ s1 s2 : Int) (tx s3 : ByteArray) (sa : Option Addr) (sn sc : Nat) :
 Calls Tryz.prog 88 #[.agg #[.int .i8 4, .int .i64 id, .int .i64 par, .int .i64 at_, .string tx, .int .i64 s1, .int .i64 s2, .string s3, .slice sa sn sc]] w (jK w S ⟨4, id, 0, 0, tx, zA⟩) := by
 obtain ⟨B, hB⟩ : ∃ B, B = zo w [.cells #[.int .i8 4, .int .i64 id, .int .i64 par, .int .i64 at_, .string tx, .int .i64 s1, .int .i64 s2, .string s3, .slice sa sn sc] 49, .cells #[.int .i8 0, .int .i64 0, .int .i64 0, .int .i64 0, .string ⟨#[]⟩, .int .i64 0, .int .i64 0, .string ⟨#[]⟩, .slice none 0 0] 49] := ⟨_, rfl⟩
 have hb : Below w.heap.size w B := by rw [hB]; exact zk _ _
 have hs0 : B.heap[w.heap.size]? = some (.cells #[.int .i8 4, .int .i64 id, .int .i64 par, .int .i64 at_, .string tx, .int .i64 s1, .int .i64 s2, .string s3, .slice sa sn sc] 49 (0, 0)) := by rw [hB]; exact zg _ _ 0 _ rfl
 have hr0 : B.heap[w.heap.size + 1]? = some (.cells #[.int .i8 0, .int .i64 0, .int .i64 0, .int .i64 0, .string ⟨#[]⟩, .int .i64 0, .int .i64 0, .string ⟨#[]⟩, .slice none 0 0] 49 (0, 0)) := by rw [hB]; exact zg _ _ 1 _ rfl
 obtain ⟨V9, hV9, v1, v2, v3, v4, v5, v6⟩ := vJ (u0 := .int .i8 4) (u1 := .int .i64 id) (u2 := .int .i64 0) (u3 := .int .i64 0) (u4 := .string tx) (u5 := .int .i64 0) (u6 := .int .i64 0) (u7 := .string ⟨#[]⟩) (u8 := .slice none 0 0) hr0
 obtain ⟨m0, m1, m2, m3, m4, m5, m6, m7, m8⟩ := yP hs0
 obtain ⟨z0, z1, z2, z3, z4, z5, z6, z7, z8⟩ := yP hr0
 have zf : ∀ j, B.frozen? ⟨w.heap.size + 1, j, none⟩ = false := fun j => frozen_of_row _ _ j _ _ hr0
 have HEND : Hid (jK w S ⟨4, id, 0, 0, tx, zA⟩ (.returned (.agg #[.int .i8 4, .int .i64 id, .int .i64 0, .int .i64 0, .string tx, .int .i64 0, .int .i64 0, .string ⟨#[]⟩, .slice none 0 0])) V9) := hH ⟨_, rfl, ⟨none, 0, rfl, Nat.le_refl _, True.intro⟩, ⟨v3.trans hb.os, v4.trans hb.tape, v5.trans hb.output, by rw [v6]; exact hb.size, fun y hy => (v2 y (by omega)).trans (hb.block y hy)⟩⟩
 have HV9 := hH (aN hV9 v1)
 have HBE := hH hB
 clear hb hs0 hr0 hB hV9 v1 v2 v3 v4 v5 v6
 go_enter Tryz.func88, Tryz.ntmps88
 go_upto_region 1 with fail
 change Code.wp _ _ _ _ (zo w [.cells #[.int .i8 4, .int .i64 id, .int .i64 par, .int .i64 at_, .string tx, .int .i64 s1, .int .i64 s2, .string s3, .slice sa sn sc] 49, .cells #[.int .i8 0, .int .i64 0, .int .i64 0, .int .i64 0, .string ⟨#[]⟩, .int .i64 0, .int .i64 0, .string ⟨#[]⟩, .slice none 0 0] 49])
 rw [← HBE.out]
 clear HBE
 go_wp2_with fail
 rw [← HV9.out.1]
 refine bodyPost_ret (qg rfl _ _ (w.heap.size + 1) 49 _ (0, 0) _ rfl HV9.out.2 Tryz.underlying49 rfl (by kernel_rfl)) rfl ?_
 exact HEND.out
def invV : Value := .agg #[.nilFunc, .func (.func 112) #[] #[], .func (.func 113) #[] #[], .func (.func 114) #[] #[], .func (.func 115) #[] #[]]
theorem JG (w : World) : Calls Tryz.prog 89 #[] w fun e w' => e = .returned invV ∧ Below w.heap.size w w' := by
 go_enter Tryz.func89, Tryz.ntmps89
 go_wp2_with fail
 exact bodyPost_ret (yO rfl _ _ w.heap.size 139 _ _ _ rfl (heap_alloc_new w _) Tryz.underlying139 rfl (by kernel_rfl)) rfl ⟨rfl, (Below.refl _ _).alloc (Nat.le_refl _) _⟩
theorem zbD (X : World) : (Instr.index 139 (.agg #[.nilFunc, .func (.func 112) #[] #[], .func (.func 113) #[] #[], .func (.func 114) #[] #[], .func (.func 115) #[] #[]]) (.int .i8 4)).run Tryz.prog X = .ok (.func (.func 115) #[] #[]) X := by
 simp [Instr.index, run_underlying Tryz.underlying139, asIntOf, go_sem]
def zeZ (w : World) (T : Nat → Prop) (n : Int) (s : Sf) (e : Ending) (w' : World) : Prop := ∃ v, e = .returned (.tuple #[v, .int .i64 n]) ∧ zfj w' (fun y => (T y ∨ w.heap.size ≤ y) ∧ y < w'.heap.size) v s ∧ Below w.heap.size w w'
theorem YS : ∀ (p : List Nat) (n : Tr) (a b : Int), ze (jO n a b p).1.kids ≤ ze n.kids
 | [], n, a, b => Nat.le_refl _
 | i :: p, n, a, b => by
   simp only [jO]
   cases hk : zH n.kids i with
   | none => exact Nat.le_refl _
   | some u =>
     have h1 := YS p u n.id (i : Int)
     have h2 := vF hk
     simp only at h1 ⊢; omega
theorem zaM (id : Int) (t : Tr) : ze (yB id t).1.kids ≤ ze t.kids := YS _ t 0 0
theorem zeF (w : World) (S Sx : Nat → Prop) (nv : Value) (t x : Tr) (id par at_ : Int) (tx : ByteArray) (sa : Option Addr) (sn sc : Nat) (hS : ∀ y, S y → y < w.heap.size) (hSx : ∀ y, Sx y → y < w.heap.size) (ht : zL w S nv t) (hx : zL w Sx (.agg #[.int .i64 x.id, .int .i64 x.kind, .string x.text, .slice sa sn sc]) x) (hsz : ze t.kids + 1 ≤ 2000) (hxz : ze x.kids + 1 ≤ 2000) (hok : ∀ i ∈ idT t, (Lit.int .i64 i).wf = true) (hxk : ∀ i ∈ idT x, (Lit.int .i64 i).wf = true) (h0 : (yS 4 id par at_ tx x t).2 = 0) :
 Calls Tryz.prog 66 #[nv, .agg #[.int .i8 4, .int .i64 id, .int .i64 par, .int .i64 at_, .string tx, .int .i64 x.id, .int .i64 x.kind, .string x.text, .slice sa sn sc]] w (zeZ w (fun y => S y ∨ Sx y) 0 (invK 4 id x t)) := by
 obtain ⟨ka, tc, rfl, hcap, hk⟩ := ht
 obtain ⟨nk, hnk⟩ : ∃ nk, nk = zb t.kids := ⟨_, rfl⟩
 rw [← hnk]
 obtain ⟨B, hB⟩ : ∃ B, B = zo w [.cells #[.int .i64 t.id, .int .i64 t.kind, .string t.text, .slice ka nk tc] 37, .cells #[.int .i8 4, .int .i64 id, .int .i64 par, .int .i64 at_, .string tx, .int .i64 x.id, .int .i64 x.kind, .string x.text, .slice sa sn sc] 49, .cells #[.int .i8 0, .int .i64 0, .int .i64 0, .int .i64 0, .string ⟨#[]⟩, .int .i64 0, .int .i64 0, .string ⟨#[]⟩, .slice none 0 0] 49] := ⟨_, rfl⟩
 have hb : Below w.heap.size w B := by rw [hB]; exact zk _ _
 have hs : B.heap.size = w.heap.size + 3 := by rw [hB]; exact zx _ _
 have ht0 : B.heap[w.heap.size]? = some (.cells #[.int .i64 t.id, .int .i64 t.kind, .string t.text, .slice ka nk tc] 37 (0, 0)) := by rw [hB]; exact zg _ _ 0 _ rfl
 have hs0 : B.heap[w.heap.size + 1]? = some (.cells #[.int .i8 4, .int .i64 id, .int .i64 par, .int .i64 at_, .string tx, .int .i64 x.id, .int .i64 x.kind, .string x.text, .slice sa sn sc] 49 (0, 0)) := by rw [hB]; exact zg _ _ 1 _ rfl
 have hr0 : B.heap[w.heap.size + 1 + 1]? = some (.cells #[.int .i8 0, .int .i64 0, .int .i64 0, .int .i64 0, .string ⟨#[]⟩, .int .i64 0, .int .i64 0, .string ⟨#[]⟩, .slice none 0 0] 49 (0, 0)) := by rw [hB]; exact zg _ _ 2 _ rfl
 have htr : ∀ X, (∀ y, y < w.heap.size → X.heap[y]? = w.heap[y]?) → zL X S (.agg #[.int .i64 t.id, .int .i64 t.kind, .string t.text, .slice ka nk tc]) t := fun X hX => ⟨ka, tc, by rw [hnk], by rw [hnk] at *; exact hcap, hk.kept fun y hy => ⟨hy, hX y (hS y hy)⟩⟩
 have hap := kD B S Sx (.agg #[.int .i64 t.id, .int .i64 t.kind, .string t.text, .slice ka nk tc]) t x 4 id par at_ tx sa sn sc (fun y hy => nL (hS y hy) hb.size) (fun y hy => nL (hSx y hy) hb.size) (htr B hb.block) (hx.kept fun y hy => ⟨hy, hb.block y (hSx y hy)⟩) hsz hxz (by decide) hok hxk Jv
 obtain ⟨y, hy⟩ : ∃ y, y = zY (yS 4 id par at_ tx x t) := ⟨_, rfl⟩
 unfold qz at hap
 rw [h0, ← hy] at hap
 obtain ⟨s, hss⟩ : ∃ s, s = invK 4 id x t := ⟨_, rfl⟩
 rw [← hss]
 obtain ⟨wr, hwr⟩ : ∃ wr, wr = yB id t := ⟨_, rfl⟩
 have hwz := zaM id t
 have hlit : s = ⟨4, id, 0, 0, wr.1.text, zA⟩ := by rw [hss, hwr]; unfold invK; rw [if_neg (by decide), if_neg (by decide), if_neg (by decide), if_pos rfl]
 have HLIT := hH hlit
 rw [← hwr] at hwz
 obtain ⟨u, pr, pl⟩ := wr
 simp only at hwz
 have HWZ := hH (show ze u.kids ≤ 100000 by omega)
 clear hlit
 have hfn : ∀ X, w.heap.size ≤ X.heap.size → (∀ y, y < w.heap.size → X.heap[y]? = w.heap[y]?) → Calls Tryz.prog 115 #[.agg #[.int .i64 t.id, .int .i64 t.kind, .string t.text, .slice ka nk tc], .agg #[.int .i8 4, .int .i64 id, .int .i64 par, .int .i64 at_, .string tx, .int .i64 x.id, .int .i64 x.kind, .string x.text, .slice sa sn sc]] X (jK X S ⟨4, id, 0, 0, u.text, zA⟩) := fun X hX1 hX => by
  have h := QK X S (.agg #[.int .i64 t.id, .int .i64 t.kind, .string t.text, .slice ka nk tc]) t 4 id par at_ x.id x.kind tx x.text sa sn sc (fun y hy => nL (hS y hy) hX1) (htr X hX) (by omega)
  rw [← hwr] at h; exact h
 have HFN := hH hfn
 have HSW := hH hS
 obtain ⟨b0, b1, b2, b3⟩ := zJ ht0
 obtain ⟨m0, m1, m2, m3, m4, m5, m6, m7, m8⟩ := yP hs0
 have HAP := hH hap
 have HB := hH (aN hb (aN hs (aN ht0 (aN hs0 hr0))))
 have HBE := hH hB
 clear hap hb hs ht0 hs0 hr0 hB hnk hcap hk hS hSx hsz hxz hok hxk hx htr hy hss hfn h0 hwr
 go_enter Tryz.func66, Tryz.ntmps66
 go_upto_region 1 with fail
 change Code.wp _ _ _ _ (zo w [.cells #[.int .i64 t.id, .int .i64 t.kind, .string t.text, .slice ka nk tc] 37, .cells #[.int .i8 4, .int .i64 id, .int .i64 par, .int .i64 at_, .string tx, .int .i64 x.id, .int .i64 x.kind, .string x.text, .slice sa sn sc] 49, .cells #[.int .i8 0, .int .i64 0, .int .i64 0, .int .i64 0, .string ⟨#[]⟩, .int .i64 0, .int .i64 0, .string ⟨#[]⟩, .slice none 0 0] 49])
 rw [← HBE.out]
 clear HBE
 go_wp2_with fail
 refine HAP.out.mono ?_
 rintro e W ⟨_, rfl, ⟨yb, yc, rfl, _, _⟩, hbW⟩
 obtain ⟨yn, hyn⟩ : ∃ yn, yn = zb y.kids := ⟨_, rfl⟩
 rw [← hyn]
 clear hyn
 obtain ⟨U, hU⟩ : ∃ U, U = W.alloc (.cells #[.int .i64 y.id, .int .i64 y.kind, .string y.text, .slice yb yn yc] 37) := ⟨_, rfl⟩
 have hbU : Below W.heap.size W U := by rw [hU]; exact zh _ _
 have hbB : Below B.heap.size B U := hbW.trans (hbU.mono hbW.size)
 have ht1 := (hbB.block _ (lt_of_heap HB.out.2.2.1)).trans HB.out.2.2.1
 have hs1 := (hbB.block _ (lt_of_heap HB.out.2.2.2.1)).trans HB.out.2.2.2.1
 have hr1 := (hbB.block _ (lt_of_heap HB.out.2.2.2.2)).trans HB.out.2.2.2.2
 have hUs : w.heap.size + 3 ≤ U.heap.size := by have := HB.out.2.1; have := hbB.size; omega
 have hbw : Below w.heap.size w U := HB.out.1.trans (hbB.mono HB.out.1.size)
 have HU := hH hU
 have HT := hH (aN ht1 (aN hs1 (aN hr1 (aN hUs hbw))))
 clear hbW hU hbU hbB ht1 hs1 hr1 hUs hbw b0 b1 b2 b3 m0 m1 m2 m3 m4 m5 m6 m7 m8
 go_upto_region 2 with fail
 rw [← HU.out]
 go_upto_region 4 with fail
 refine wp_region_held_drew (S := fun X => Tc U X (w.heap.size + 1 + 1)) (by kernel_rfl) (Tc.of (below_drewN (Below.refl _ U) 1)) (fun hHeld => ?_)
 refine tkH (i := 1) (.pointer (some ⟨w.heap.size + 1, 0, none⟩)) rfl (Or.inl ⟨by rfl, fun X _ => by clear hHeld; go_simp⟩) (by assumption) ?_
 simp only [Act.put, pg]
 refine tkH (i := 2) (.int .i8 4) rfl (Or.inl ⟨by rfl, ?_⟩) (by assumption) ?_
 · clear hHeld; intro X hSw; obtain ⟨m0, m1, m2, m3, m4, m5, m6, m7, m8⟩ := yP ((hSw.block _ (lt_of_heap HT.out.2.1) (by omega)).trans HT.out.2.1); clear hSw; go_simp
 simp only [Act.put, pg]
 refine tkH (i := 4) (.agg #[.int .i64 t.id, .int .i64 t.kind, .string t.text, .slice ka nk tc]) rfl (Or.inl ⟨by rfl, ?_⟩) (by assumption) ?_
 · clear hHeld; intro X hSw; obtain ⟨b0, b1, b2, b3⟩ := zJ ((hSw.block _ (lt_of_heap HT.out.1) (by omega)).trans HT.out.1); clear hSw; go_simp
 simp only [Act.put, pg]
 refine tkH (i := 5) (.agg #[.int .i8 4, .int .i64 id, .int .i64 par, .int .i64 at_, .string tx, .int .i64 x.id, .int .i64 x.kind, .string x.text, .slice sa sn sc]) rfl (Or.inl ⟨by rfl, ?_⟩) (by assumption) ?_
 · clear hHeld; intro X hSw; obtain ⟨m0, m1, m2, m3, m4, m5, m6, m7, m8⟩ := yP ((hSw.block _ (lt_of_heap HT.out.2.1) (by omega)).trans HT.out.2.1); clear hSw; go_simp
 simp only [Act.put, pg]
 refine wpAnyH_ready (rs := [0]) (by kernel_rfl) (by simp) ?_
 refine AllReadyH.cons (o := _) rfl (fun K hK => ?_) AllReadyH.nil
 rw [if_pos (by rfl)]
 simp only [pg3]
 have HK := hH hK
 have HS := hH hHeld
 clear hK hHeld
 have HZ : Hid (U.drew.heap[w.heap.size + 1 + 1]? = some (.cells #[.int .i8 0, .int .i64 0, .int .i64 0, .int .i64 0, .string ⟨#[]⟩, .int .i64 0, .int .i64 0, .string ⟨#[]⟩, .slice none 0 0] 49 (0, 0))) := hH HT.out.2.2.1
 go_wp2_with (go_at_call 89; refine (JG _).mono ?_; rintro e w5 ⟨rfl, hb5⟩; have HZ5 := hH ((hb5.block _ (lt_of_heap HZ.out)).trans HZ.out); have HS5 := hH (HS.out.then hb5); clear hb5; unfold invV)
 refine HK.out _ _ HS5.out (fun hHeld => ?_)
 clear HK HS HZ
 refine tkH (i := 3) (.func (.func 115) #[] #[]) rfl (Or.inl ⟨by rfl, ?_⟩) (by assumption) ?_
 · clear hHeld; intro X hSw; have hix := zbD X; clear hSw; go_simp
 simp only [Act.put, pg]
 refine wpAnyH_ready (rs := [6]) (by kernel_rfl) (by simp) ?_
 refine AllReadyH.cons (o := _) rfl (fun K hK => ?_) AllReadyH.nil
 rw [if_pos (by rfl)]
 simp only [pg3]
 have HK := hH hK
 have HS := hH hHeld
 clear hK hHeld
 go_wp2_with (go_at_call 115; refine (HFN.out _ (Nat.le_trans HT.out.2.2.2.2.size HS.out.size) (fun y hy => (HS.out.block y (by have := HT.out.2.2.2.1; omega) (by omega)).trans (HT.out.2.2.2.2.block y hy))).mono ?_; rintro e w6 ⟨_, rfl, ⟨ma, mc, rfl, hmc, hmk⟩, hb6⟩; have HZ6 := hH ((hb6.block _ (lt_of_heap HZ5.out)).trans HZ5.out); have HS6 := hH (HS.out.then hb6); have HM := hH (aN hmc (aN hmk (show w.heap.size + 3 ≤ w5.heap.size from Nat.le_trans HT.out.2.2.2.1 HS.out.size))); clear hmc hmk hb6)
 refine HK.out _ _ HS6.out (fun hHeld => ?_)
 clear HK HS HS5 HZ5
 refine wpAnyH_ready (rs := [7]) (by kernel_rfl) (by simp) ?_
 refine AllReadyH.cons (o := _) rfl (fun K hK => ?_) AllReadyH.nil
 rw [if_pos (by rfl)]
 simp only [pg3]
 have HK := hH hK
 have HS := hH hHeld
 clear hK hHeld
 have hpl : Calls Tryz.prog 88 #[.agg #[.int .i8 4, .int .i64 id, .int .i64 0, .int .i64 0, .string u.text, .int .i64 0, .int .i64 0, .string ⟨#[]⟩, .slice ma 0 mc]] w6 (jK w6 (fun y => S y ∨ w.heap.size + 3 ≤ y) s) := by
  rw [HLIT.out]
  exact zfZ _ _ _ _ _ _ _ _ _ _ _ _
 have HPL := hH hpl
 clear hpl
 try simp only [zA, zb]
 go_wp2_with (go_at_call 88; refine HPL.out.mono ?_; rintro e w7 ⟨_, rfl, ⟨qa, qc, rfl, hqc, hqk⟩, hb7⟩; have HZ7 := hH ((hb7.block _ (lt_of_heap HZ6.out)).trans HZ6.out); have HS7 := hH (HS.out.then hb7); have HQ := hH (aN hqc hqk); clear hqc hqk hb7)
 refine HK.out _ _ HS7.out (fun hHeld => ?_)
 have HW6 := hH (show w.heap.size + 3 ≤ w6.heap.size from Nat.le_trans HT.out.2.2.2.1 HS.out.size)
 clear HK HS HS6 HZ6 HPL
 obtain ⟨qn, hqn⟩ : ∃ qn, qn = zb s.sub.kids := ⟨_, rfl⟩
 refine wpAnyH_ready (rs := [8]) (by kernel_rfl) (by simp) ?_
 refine AllReadyH.cons (o := _) rfl (fun K hK => ?_) AllReadyH.nil
 rw [if_pos (by rfl)]
 simp only [pg3]
 have HK := hH hK
 have HS := hH hHeld
 clear hK hHeld
 have hz := HZ7.out
 obtain ⟨z0, z1, z2, z3, z4, z5, z6, z7, z8⟩ := yP hz
 have zf : ∀ j, w7.frozen? ⟨w.heap.size + 1 + 1, j, none⟩ = false := fun j => frozen_of_row _ _ j _ _ hz
 obtain ⟨V9, hV9, v1, v2, v3, v4, v5, v6⟩ := vJ (u0 := .int .i8 s.op) (u1 := .int .i64 s.id) (u2 := .int .i64 s.par) (u3 := .int .i64 s.at_) (u4 := .string s.tx) (u5 := .int .i64 s.sub.id) (u6 := .int .i64 s.sub.kind) (u7 := .string s.sub.text) (u8 := .slice qa (zb s.sub.kids) qc) hz
 have hT9 : Tc U V9 (w.heap.size + 1 + 1) := ⟨v3.trans HS7.out.os, v4.trans HS7.out.tape, v5.trans HS7.out.output, by rw [v6]; exact HS7.out.size, fun y hy hn => (v2 y hn).trans (HS7.out.block y hy hn)⟩
 have hE : zeZ w (fun y => S y ∨ Sx y) 0 s (.returned (.tuple #[.agg #[.int .i8 s.op, .int .i64 s.id, .int .i64 s.par, .int .i64 s.at_, .string s.tx, .int .i64 s.sub.id, .int .i64 s.sub.kind, .string s.sub.text, .slice qa (zb s.sub.kids) qc], .int .i64 0])) V9 := ⟨_, rfl, ⟨qa, qc, rfl, HQ.out.1, HQ.out.2.kept fun y hy => by
  have h1 : S y ∨ w.heap.size + 3 ≤ y := by
   rcases hy.1 with h | h
   · exact h
   · exact Or.inr (Nat.le_trans HW6.out h)
  have hne : y ≠ w.heap.size + 1 + 1 := by
   rcases h1 with h | h
   · have := HSW.out y h; omega
   · omega
  exact ⟨⟨h1.imp (fun h => Or.inl h) (fun h => by omega), by rw [v6]; exact hy.2⟩, v2 y hne⟩⟩, hT9.below HT.out.2.2.2.2 (by omega)⟩
 have HE := hH (aN hE (aN hV9 (aN v1 hT9)))
 clear hz hV9 v1 v2 v3 v4 v5 v6 hT9 hE hqn
 go_wp2_with fail
 rw [← HE.out.2.1]
 refine HK.out _ _ HE.out.2.2.2 (fun hHeld => ?_)
 clear HK HS z0 z1 z2 z3 z4 z5 z6 z7 z8 zf HQ HS7 HZ7
 refine tkH (i := 9) (.int .i64 0) rfl (Or.inl ⟨by rfl, fun X _ => by clear hHeld; go_simp⟩) (by assumption) ?_
 simp only [Act.put, pg]
 refine wpAnyH_done (by kernel_rfl) ?_ _
 clear hHeld
 go_wp2_with fail
 refine bodyPost_ret (yN rfl _ _ (w.heap.size + 1 + 1) 49 _ (0, 0) _ (.int .i64 0) rfl HE.out.2.2.1 Tryz.underlying49 rfl (by kernel_rfl) rfl) rfl ?_
 exact HE.out.1
end Go.Proofs.YtonapijgfalpaaaGreat
