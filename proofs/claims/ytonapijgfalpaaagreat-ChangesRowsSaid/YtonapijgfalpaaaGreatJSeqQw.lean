/-
  .
-/
import Derived.Deep.Cut
import Derived.Test.YtonapijgfalpaaaGreatIInv4Qw
import Derived.Test.YtonapijgfalpaaaGreatKOpsQw
import Derived.Test.YtonapijgfalpaaaGreatIWhenceQw
import Derived.Test.YtonapijgfalpaaaGreatVWalkQw
import Derived.Test.YtonapijgfalpaaaGreatKOpenQw
import Derived.Test.YtonapijgfalpaaaGreatHWalkPQw
import Derived.BigQuiet
import Derived.Test.YtonapijgfalpaaaGreatERowQw
import Derived.Test.YtonapijgfalpaaaGreatETSameQw
import Derived.Deep.RegionHeld
import Derived.Test.YtonapijgfalpaaaGreatKPathQw
import Derived.Deep.CutRange
import Derived.Deep.LoopGhost
import Derived.Deep.AppendLies
import Derived.Test.YtonapijgfalpaaaGreatJPgQw
set_option maxRecDepth 100000
set_option maxHeartbeats 40000000
set_option linter.unusedVariables false
set_option linter.unusedSimpArgs false
namespace Go.Proofs.YtonapijgfalpaaaGreat
open Go.RowKit Go.Shelf
theorem zbE (w : World) (S Sx : Nat → Prop) (nv : Value) (t x : Tr) (op id par at_ : Int) (tx : ByteArray) (sa : Option Addr) (sn sc : Nat) (hS : ∀ y, S y → y < w.heap.size) (hSx : ∀ y, Sx y → y < w.heap.size) (ht : zL w S nv t) (hx : zL w Sx (.agg #[.int .i64 x.id, .int .i64 x.kind, .string x.text, .slice sa sn sc]) x) (hsz : ze t.kids + 1 ≤ 2000) (hxz : ze x.kids + 1 ≤ 2000) (hop : (Lit.int .i8 op).wf = true) (hok : ∀ i ∈ idT t, (Lit.int .i64 i).wf = true) (hxk : ∀ i ∈ idT x, (Lit.int .i64 i).wf = true) (h0 : (yS op id par at_ tx x t).2 ≠ 0) (hO : ZW op) :
 Calls Tryz.prog 66 #[nv, .agg #[.int .i8 op, .int .i64 id, .int .i64 par, .int .i64 at_, .string tx, .int .i64 x.id, .int .i64 x.kind, .string x.text, .slice sa sn sc]] w (zeZ w (fun y => S y ∨ Sx y) (yS op id par at_ tx x t).2 zaV) := by
 obtain ⟨ka, tc, rfl, hcap, hk⟩ := ht
 obtain ⟨nk, hnk⟩ : ∃ nk, nk = zb t.kids := ⟨_, rfl⟩
 rw [← hnk]
 obtain ⟨B, hB⟩ : ∃ B, B = zo w [.cells #[.int .i64 t.id, .int .i64 t.kind, .string t.text, .slice ka nk tc] 37, .cells #[.int .i8 op, .int .i64 id, .int .i64 par, .int .i64 at_, .string tx, .int .i64 x.id, .int .i64 x.kind, .string x.text, .slice sa sn sc] 49, .cells #[.int .i8 0, .int .i64 0, .int .i64 0, .int .i64 0, .string ⟨#[]⟩, .int .i64 0, .int .i64 0, .string ⟨#[]⟩, .slice none 0 0] 49] := ⟨_, rfl⟩
 have hb : Below w.heap.size w B := by rw [hB]; exact zk _ _
 have hs : B.heap.size = w.heap.size + 3 := by rw [hB]; exact zx _ _
 have ht0 : B.heap[w.heap.size]? = some (.cells #[.int .i64 t.id, .int .i64 t.kind, .string t.text, .slice ka nk tc] 37 (0, 0)) := by rw [hB]; exact zg _ _ 0 _ rfl
 have hs0 : B.heap[w.heap.size + 1]? = some (.cells #[.int .i8 op, .int .i64 id, .int .i64 par, .int .i64 at_, .string tx, .int .i64 x.id, .int .i64 x.kind, .string x.text, .slice sa sn sc] 49 (0, 0)) := by rw [hB]; exact zg _ _ 1 _ rfl
 have hr0 : B.heap[w.heap.size + 1 + 1]? = some (.cells #[.int .i8 0, .int .i64 0, .int .i64 0, .int .i64 0, .string ⟨#[]⟩, .int .i64 0, .int .i64 0, .string ⟨#[]⟩, .slice none 0 0] 49 (0, 0)) := by rw [hB]; exact zg _ _ 2 _ rfl
 have htr : ∀ X, (∀ y, y < w.heap.size → X.heap[y]? = w.heap[y]?) → zL X S (.agg #[.int .i64 t.id, .int .i64 t.kind, .string t.text, .slice ka nk tc]) t := fun X hX => ⟨ka, tc, by rw [hnk], by rw [hnk] at *; exact hcap, hk.kept fun y hy => ⟨hy, hX y (hS y hy)⟩⟩
 have hap := kD B S Sx (.agg #[.int .i64 t.id, .int .i64 t.kind, .string t.text, .slice ka nk tc]) t x op id par at_ tx sa sn sc (fun y hy => nL (hS y hy) hb.size) (fun y hy => nL (hSx y hy) hb.size) (htr B hb.block) (hx.kept fun y hy => ⟨hy, hb.block y (hSx y hy)⟩) hsz hxz hop hok hxk hO
 obtain ⟨r, hr⟩ : ∃ r, r = yS op id par at_ tx x t := ⟨_, rfl⟩
 rw [← hr] at hap h0 ⊢
 obtain ⟨ye, hye⟩ : ∃ ye, ye = r.2 := ⟨_, rfl⟩
 obtain ⟨y, hy⟩ : ∃ y, y = zY r := ⟨_, rfl⟩
 unfold qz at hap
 rw [← hye] at hap h0 ⊢
 rw [← hy] at hap
 obtain ⟨b0, b1, b2, b3⟩ := zJ ht0
 obtain ⟨m0, m1, m2, m3, m4, m5, m6, m7, m8⟩ := yP hs0
 have HAP := hH hap
 have HB := hH (aN hb (aN hs (aN ht0 (aN hs0 hr0))))
 have HBE := hH hB
 clear hO hap hb hs ht0 hs0 hr0 hB hnk hcap hk hS hSx hsz hxz hok hxk hx htr hop hr hye hy
 go_enter Tryz.func66, Tryz.ntmps66
 go_upto_region 1 with fail
 change Code.wp _ _ _ _ (zo w [.cells #[.int .i64 t.id, .int .i64 t.kind, .string t.text, .slice ka nk tc] 37, .cells #[.int .i8 op, .int .i64 id, .int .i64 par, .int .i64 at_, .string tx, .int .i64 x.id, .int .i64 x.kind, .string x.text, .slice sa sn sc] 49, .cells #[.int .i8 0, .int .i64 0, .int .i64 0, .int .i64 0, .string ⟨#[]⟩, .int .i64 0, .int .i64 0, .string ⟨#[]⟩, .slice none 0 0] 49])
 rw [← HBE.out]
 clear HBE
 go_wp2_with fail
 refine HAP.out.mono ?_
 rintro e W ⟨_, rfl, ⟨yb, yc, rfl, _, _⟩, hbW⟩
 obtain ⟨yn, hyn⟩ : ∃ yn, yn = zb y.kids := ⟨_, rfl⟩
 rw [← hyn]
 clear hyn
 obtain ⟨U, hU⟩ : ∃ U, U = W.alloc (.cells #[.int .i64 y.id, .int .i64 y.kind, .string y.text, .slice yb yn yc] 37) := ⟨_, rfl⟩
 have hbU : Below W.heap.size W U := by rw [hU]; exact zh _ _
 have hbB : Below B.heap.size B U := hbW.trans (hbU.mono hbW.size)
 have ht1 := (hbB.block _ (lt_of_heap HB.out.2.2.1)).trans HB.out.2.2.1
 have hs1 := (hbB.block _ (lt_of_heap HB.out.2.2.2.1)).trans HB.out.2.2.2.1
 have hr1 := (hbB.block _ (lt_of_heap HB.out.2.2.2.2)).trans HB.out.2.2.2.2
 have hUs : w.heap.size + 3 ≤ U.heap.size := by have := HB.out.2.1; have := hbB.size; omega
 have hbw : Below w.heap.size w U := HB.out.1.trans (hbB.mono HB.out.1.size)
 have HU := hH hU
 have HT := hH (aN ht1 (aN hs1 (aN hr1 (aN hUs hbw))))
 clear hbW hU hbU hbB ht1 hs1 hr1 hUs hbw b0 b1 b2 b3 m0 m1 m2 m3 m4 m5 m6 m7 m8
 go_upto_region 2 with fail
 rw [← HU.out]
 obtain ⟨ht1, hs1, hr1, hUs, hbw⟩ := HT.out
 obtain ⟨z0, z1, z2, z3, z4, z5, z6, z7, z8⟩ := yP hr1
 have zf : ∀ j, U.frozen? ⟨w.heap.size + 1 + 1, j, none⟩ = false := fun j => frozen_of_row _ _ j _ _ hr1
 obtain ⟨V9, hV9, v1, v2, v3, v4, v5, v6⟩ := vJ (u0 := .int .i8 0) (u1 := .int .i64 0) (u2 := .int .i64 0) (u3 := .int .i64 0) (u4 := .string ⟨#[]⟩) (u5 := .int .i64 0) (u6 := .int .i64 0) (u7 := .string ⟨#[]⟩) (u8 := .slice none 0 0) hr1
 have HEND : Hid (zeZ w (fun y => S y ∨ Sx y) ye zaV (.returned (.tuple #[.agg #[.int .i8 0, .int .i64 0, .int .i64 0, .int .i64 0, .string ⟨#[]⟩, .int .i64 0, .int .i64 0, .string ⟨#[]⟩, .slice none 0 0], .int .i64 ye])) V9) := hH ⟨_, rfl, ⟨none, 0, rfl, Nat.le_refl _, True.intro⟩, ⟨v3.trans hbw.os, v4.trans hbw.tape, v5.trans hbw.output, by rw [v6]; exact hbw.size, fun y hy => (v2 y (by omega)).trans (hbw.block y hy)⟩⟩
 have HV9 := hH (aN hV9 v1)
 clear ht1 hs1 hr1 hUs hbw hV9 v1 v2 v3 v4 v5 v6
 go_wp2_with fail
 rw [← HV9.out.1]
 refine bodyPost_ret (yN rfl _ _ (w.heap.size + 1 + 1) 49 _ (0, 0) _ (.int .i64 ye) rfl HV9.out.2 Tryz.underlying49 rfl (by kernel_rfl) rfl) rfl ?_
 exact HEND.out
def Sf.inv (s : Sf) (t : Tr) : Sf := if (s.on t).2 = 0 then invK s.op s.id s.sub t else zaV
structure zdV (s : Sf) : Prop where
 op : (Lit.int .i8 s.op).wf = true
 ids : ∀ i ∈ idT s.sub, (Lit.int .i64 i).wf = true
 size : ze s.sub.kids + 1 ≤ 2000
theorem zbj (w : World) (S Sx : Nat → Prop) (nv sv : Value) (t : Tr) (s : Sf) (hS : ∀ y, S y → y < w.heap.size) (hSx : ∀ y, Sx y → y < w.heap.size) (ht : zL w S nv t) (hs : zfj w Sx sv s) (hsz : ze t.kids + 1 ≤ 2000) (hok : ∀ i ∈ idT t, (Lit.int .i64 i).wf = true) (ho : zdV s) (hO : ZW s.op) :
 Calls Tryz.prog 63 #[nv, sv] w (qz w (fun y => S y ∨ Sx y) (s.on t)) := by
 obtain ⟨ka, kc, rfl, h1, h2⟩ := hs
 exact kD w S Sx nv t s.sub s.op s.id s.par s.at_ s.tx ka (zb s.sub.kids) kc hS hSx ht ⟨ka, kc, rfl, h1, h2⟩ hsz ho.size ho.op hok ho.ids hO
def zU (W : World) (f : Fo) (a : Option Addr) (c : Nat) : Prop := zb f ≤ c ∧ zF W (fun q => q < W.heap.size) f a
theorem zU.at {W X : World} {t : Tr} {a : Option Addr} {c : Nat} (h : zU W t.kids a c) (hb : Below W.heap.size W X) : zL X (fun q => q < W.heap.size) (.agg #[.int .i64 t.id, .int .i64 t.kind, .string t.text, .slice a (zb t.kids) c]) t := ⟨a, c, rfl, h.1, h.2.kept fun q hq => ⟨hq, hb.block q hq⟩⟩
theorem zU.on {W X : World} {f : Fo} {a : Option Addr} {c : Nat} (h : zU W f a c) (hb : Below W.heap.size W X) : zU X f a c := ⟨h.1, h.2.kept fun q hq => ⟨nL hq hb.size, hb.block q hq⟩⟩
theorem jw : ∀ f : Fo, ze f ≤ 9223372036854775807 → jv f
 | .nil, _ => True.intro
 | .node _ _ _ l r, h => by
   have h1 := zX l
   simp only [ze] at h
   exact ⟨by omega, jw l (by omega), jw r (by omega)⟩
theorem zfB {X0 X1 X : World} {t u : Tr} {ta ua : Option Addr} {tc uc : Nat} (h0 : zU X0 t.kids ta tc) (h1 : zU X1 u.kids ua uc) (b0 : Below X0.heap.size X0 X) (b1 : Below X1.heap.size X1 X) (hz : ze t.kids + 1 ≤ 100000) :
 Calls Tryz.prog 21 #[.agg #[.int .i64 t.id, .int .i64 t.kind, .string t.text, .slice ta (zb t.kids) tc], .agg #[.int .i64 u.id, .int .i64 u.kind, .string u.text, .slice ua (zb u.kids) uc]] X (vO t u X) :=
 zeL _ X _ _ _ _ t u (Nat.lt_succ_self _) ⟨by have := zX t.kids; omega, jw _ (by omega)⟩ (fun y hy => nL hy b0.size) (fun y hy => nL hy b1.size) (h0.at b0) (h1.at b1)
def EB (ta ba : Option Addr) (q : Nat) : Prop := (∃ a, ta = some a ∧ a.block = q) ∨ (∃ a, ba = some a ∧ a.block = q)
theorem zfq {ta : Option Addr} {n c q : Nat} : some q = (Value.slice ta n c).ownBlock ↔ ∃ a, ta = some a ∧ a.block = q := by
 cases ta with
 | none => simp [Value.ownBlock]
 | some a => simp [Value.ownBlock, eq_comm]
def zK (X : World) (E : Nat → Prop) (f : Fo) (a : Option Addr) (c : Nat) : Prop := zb f ≤ c ∧ zF X (fun q => q < X.heap.size ∧ ¬ E q) f a
theorem zK.on {X Y : World} {E : Nat → Prop} {f : Fo} {a : Option Addr} {c : Nat} (h : zK X E f a c) (hb : Below X.heap.size X Y) : zK Y E f a c := ⟨h.1, h.2.kept fun q hq => ⟨⟨nL hq.1 hb.size, hq.2⟩, hb.block q hq.1⟩⟩
theorem zK.i {X : World} {E : Nat → Prop} {f : Fo} {a : Option Addr} {c : Nat} (h : zK X E f a c) : zU X f a c := ⟨h.1, h.2.kept fun q hq => ⟨hq.1, rfl⟩⟩
theorem zU.n {w X : World} {E : Nat → Prop} {f : Fo} {a : Option Addr} {c : Nat} (h : zU w f a c) (hb : Below w.heap.size w X) (hE : ∀ q, E q → w.heap.size ≤ q) : zK X E f a c := ⟨h.1, h.2.kept fun q hq => ⟨⟨nL hq hb.size, fun he => by have := hE q he; omega⟩, hb.block q hq⟩⟩
def yo (s : Sf) (a : Option Addr) (c : Nat) : List Value := [.int .i8 s.op, .int .i64 s.id, .int .i64 s.par, .int .i64 s.at_, .string s.tx, .int .i64 s.sub.id, .int .i64 s.sub.kind, .string s.sub.text, .slice a (zb s.sub.kids) c]
def jh (X : World) (E : Nat → Prop) : List Sf → List Value → Prop
 | [], xs => xs = []
 | t :: l, xs => ∃ a c ys, xs = yo t a c ++ ys ∧ zK X E t.sub.kids a c ∧ jh X E l ys
theorem jh.kept {X Y : World} {E F : Nat → Prop} (h : ∀ f a c, zK X E f a c → zK Y F f a c) : ∀ {l : List Sf} {xs : List Value}, jh X E l xs → jh Y F l xs
 | [], _, k => k
 | _ :: _, _, k => by
   obtain ⟨a, c, ys, e, h1, h2⟩ := k
   exact ⟨a, c, ys, e, h _ _ _ h1, h2.kept h⟩
theorem jh.snoc {X : World} {E : Nat → Prop} {t : Sf} {a : Option Addr} {c : Nat} (h : zK X E t.sub.kids a c) : ∀ {l : List Sf} {xs : List Value}, jh X E l xs → jh X E (l ++ [t]) (xs ++ yo t a c)
 | [], xs, k => by subst k; exact ⟨a, c, [], by simp, h, rfl⟩
 | _ :: _, xs, k => by
   obtain ⟨a', c', ys, e, h1, h2⟩ := k
   exact ⟨a', c', _, by rw [e, List.append_assoc], h1, jh.snoc h h2⟩
theorem jh.nth {X : World} {E : Nat → Prop} : ∀ {l : List Sf} {xs : List Value} (k : Nat) (t : Sf), jh X E l xs → l[k]? = some t → ∃ a c, (∀ j u, (yo t a c)[j]? = some u → xs[k * 9 + j]? = some u) ∧ zK X E t.sub.kids a c
 | [], _, k, t, _, hk => by simp at hk
 | _ :: _, xs, 0, t, h, hk => by
   obtain ⟨a, c, ys, e, h1, h2⟩ := h
   simp only [List.getElem?_cons_zero, Option.some.injEq] at hk
   subst hk
   refine ⟨a, c, fun j u hj => ?_, h1⟩
   rw [e, Nat.zero_mul, Nat.zero_add, List.getElem?_append_left (List.getElem?_eq_some_iff.1 hj).1]; exact hj
 | x :: _, xs, k + 1, t, h, hk => by
   obtain ⟨a, c, ys, e, h1, h2⟩ := h
   obtain ⟨a', c', k1, k2⟩ := jh.nth k t h2 (by simpa using hk)
   refine ⟨a', c', fun j u hj => ?_, k2⟩
   have hl : (yo x a c).length = 9 := rfl
   rw [e, List.getElem?_append_right (by omega), hl, show (k + 1) * 9 + j - 9 = k * 9 + j by omega]
   exact k1 j u hj
theorem zd2 {w : World} {y : Nat} {cs cs' : Array Value} {t t' : TypeId} {fr fr' : Nat × Nat} (h : w.heap[y]? = some (.cells cs t fr)) (h' : w.heap[y]? = some (.cells cs' t' fr')) : t = t' := by rw [h] at h'; cases h'; rfl
def zfN (E : Nat → Prop) (y : Tr) (n : Int) (X : World) (e : Ending) (W : World) : Prop := ∃ va vc, e = .returned (.tuple #[.agg #[.int .i64 y.id, .int .i64 y.kind, .string y.text, .slice va (zb y.kids) vc], .int .i64 n]) ∧ zK W E y.kids va vc ∧ Below X.heap.size X W
def zgE (E : Nat → Prop) (s : Sf) (n : Int) (X : World) (e : Ending) (W : World) : Prop := ∃ va vc, e = .returned (.tuple #[.agg #[.int .i8 s.op, .int .i64 s.id, .int .i64 s.par, .int .i64 s.at_, .string s.tx, .int .i64 s.sub.id, .int .i64 s.sub.kind, .string s.sub.text, .slice va (zb s.sub.kids) vc], .int .i64 n]) ∧ zK W E s.sub.kids va vc ∧ Below X.heap.size X W
theorem zK.at {E : Nat → Prop} {W X : World} {t : Tr} {a : Option Addr} {c : Nat} (h : zK W E t.kids a c) (hb : Below W.heap.size W X) : zL X (fun q => q < W.heap.size ∧ ¬ E q) (.agg #[.int .i64 t.id, .int .i64 t.kind, .string t.text, .slice a (zb t.kids) c]) t := ⟨a, c, rfl, h.1, h.2.kept fun q hq => ⟨hq, hb.block q hq.1⟩⟩
theorem zgh {E : Nat → Prop} {X0 X1 X : World} {t : Tr} {s : Sf} {ta sa : Option Addr} {tc sc : Nat} (hE : ∀ q, E q → q < X.heap.size) (h0 : zK X0 E t.kids ta tc) (h1 : zK X1 E s.sub.kids sa sc) (b0 : Below X0.heap.size X0 X) (b1 : Below X1.heap.size X1 X) (hz : ze t.kids + 1 ≤ 2000) (hok : ∀ i ∈ idT t, (Lit.int .i64 i).wf = true) (ho : zdV s) (hO : ZW s.op) :
 Calls Tryz.prog 63 #[.agg #[.int .i64 t.id, .int .i64 t.kind, .string t.text, .slice ta (zb t.kids) tc], .agg #[.int .i8 s.op, .int .i64 s.id, .int .i64 s.par, .int .i64 s.at_, .string s.tx, .int .i64 s.sub.id, .int .i64 s.sub.kind, .string s.sub.text, .slice sa (zb s.sub.kids) sc]] X (zfN E (zY (s.on t)) (s.on t).2 X) := by
 refine (zbj X _ _ _ _ t s (fun y hy => nL hy.1 b0.size) (fun y hy => nL hy.1 b1.size) (h0.at b0) ⟨sa, sc, rfl, h1.1, h1.2.kept fun q hq => ⟨hq, b1.block q hq.1⟩⟩ hz hok ho hO).mono ?_
 rintro e W ⟨v, rfl, ⟨va, vc, rfl, hc, hf⟩, hb⟩
 refine ⟨va, vc, rfl, ⟨hc, hf.kept fun q hq => ⟨⟨hq.1.lt, fun he => ?_⟩, rfl⟩⟩, hb⟩
 rcases hq.2 with (h | h) | h
 · exact h.2 he
 · exact h.2 he
 · have := hE q he; omega
theorem zK.weak {X : World} {E F : Nat → Prop} {f : Fo} {a : Option Addr} {c : Nat} (h : zK X F f a c) (hE : ∀ q, E q → F q) : zK X E f a c := ⟨h.1, h.2.kept fun q hq => ⟨⟨hq.1, fun he => hq.2 (hE q he)⟩, rfl⟩⟩
attribute [local go_sem] Oper.semAt_some
structure SV where
 s : Sf
 a : Option Addr
 c : Nat
def SV.v (x : SV) : Value := .agg #[.int .i8 x.s.op, .int .i64 x.s.id, .int .i64 x.s.par, .int .i64 x.s.at_, .string x.s.tx, .int .i64 x.s.sub.id, .int .i64 x.s.sub.kind, .string x.s.sub.text, .slice x.a (zb x.s.sub.kids) x.c]
def zc5 (w : World) (S : Nat → Prop) (a : Option Addr) (vs : List SV) : Prop := ∀ (k : Nat) (x : SV), vs[k]? = some x → ∃ b off, a = some ⟨b, off, none⟩ ∧ S b ∧ ∀ (j : Nat) (u : Value), (yo x.s x.a x.c)[j]? = some u → w.cell? ⟨b, off + k * 9 + j, none⟩ = some u
theorem zc5.kept {w w' : World} {S S' : Nat → Prop} {a : Option Addr} {vs : List SV} (h : zc5 w S a vs) (hS : ∀ y, S y → S' y ∧ w'.heap[y]? = w.heap[y]?) : zc5 w' S' a vs := fun k x hx => by
 obtain ⟨b, off, e, hb, hc⟩ := h k x hx
 exact ⟨b, off, e, (hS b hb).1, fun j u hj => (World.cell?_of_block (a := ⟨b, off + k * 9 + j, none⟩) (hS b hb).2).trans (hc j u hj)⟩
structure RH where
 a : Option Addr
 c : Nat
 vs : List SV
def RH.v (r : RH) : Value := .slice r.a r.vs.length r.c
def flat : List RH → List SV
 | [] => []
 | r :: l => r.vs ++ flat l
def jA : List RH → Nat → Nat
 | _, 0 => 0
 | [], _ + 1 => 0
 | r :: l, i + 1 => r.vs.length + jA l i
theorem QN : ∀ (l : List RH) (i : Nat) (r : RH), l[i]? = some r → jA l (i + 1) = jA l i + r.vs.length
 | [], _, _, h => by simp at h
 | r :: l, 0, r', h => by simp at h; subst h; cases l <;> simp [jA]
 | r :: l, i + 1, r', h => by
   have := QN l i r' (by simpa using h)
   simp only [jA, this]; omega
theorem zaF : ∀ l : List RH, jA l l.length = (flat l).length
 | [] => rfl
 | r :: l => by simp [jA, flat, zaF l]
theorem zcr : ∀ (l : List RH) (i j : Nat) (r : RH) (x : SV), l[i]? = some r → r.vs[j]? = some x → (flat l)[jA l i + j]? = some x
 | [], _, _, _, _, h, _ => by simp at h
 | r :: l, 0, j, r', x, h, hx => by
   simp at h; subst h
   rw [jA, Nat.zero_add, flat, List.getElem?_append_left (List.getElem?_eq_some_iff.1 hx).1]; exact hx
 | r :: l, i + 1, j, r', x, h, hx => by
   have := zcr l i j r' x (by simpa using h) hx
   rw [flat, jA, List.getElem?_append_right (by omega), show r.vs.length + jA l i + j - r.vs.length = jA l i + j by omega]; exact this
def jr (w : World) (NB R : Nat) (rs : List RH) (S : Nat → Prop) : Prop := w.heap[NB]? = some (.cells #[.slice (some ⟨R, 0, none⟩) rs.length rs.length] 91 (0, 0)) ∧ w.heap[R]? = some (.cells (rs.map RH.v).toArray 22 (0, 0)) ∧ S NB ∧ S R ∧ (∀ y, S y → y < w.heap.size) ∧ ∀ (i : Nat) (r : RH), rs[i]? = some r → zc5 w S r.a r.vs
theorem jr.kept {w w' : World} {NB R : Nat} {rs : List RH} {S : Nat → Prop} (h : jr w NB R rs S) (hs : w.heap.size ≤ w'.heap.size) (hk : ∀ y, S y → w'.heap[y]? = w.heap[y]?) : jr w' NB R rs S := by
 obtain ⟨h1, h2, h3, h4, h5, h6⟩ := h
 exact ⟨(hk NB h3).trans h1, (hk R h4).trans h2, h3, h4, fun y hy => nL (h5 y hy) hs, fun i r hr => (h6 i r hr).kept fun y hy => ⟨hy, hk y hy⟩⟩
def zfE (P : Program) (m l : Nat) (S : Nat → Prop) (tl : List SV) (J : Nat → World → Prop) (Jx : World → Prop) : Prop :=
 ∀ (k : Nat) (x : SV) (w : World), tl[k]? = some x → (∀ y, S y → y < w.heap.size) → J k w → YieldAt Fence.wide m P l #[x.v] w fun e w' => w.heap.size ≤ w'.heap.size ∧ (∀ y, S y → w'.heap[y]? = w.heap[y]?) ∧ ((e = .returned (.bool true) ∧ J (k + 1) w') ∨ (e = .returned (.bool false) ∧ Jx w'))
def YO (tl : List SV) (J : Nat → World → Prop) (Jx : World → Prop) (e : Ending) (V : World) : Prop := (∃ v, e = .returned v) ∧ (J tl.length V ∨ Jx V)
def Jf (NB R : Nat) (rs : List RH) (S : Nat → Prop) (J : Nat → World → Prop) (k : Nat) (wr : World) : Prop := jr wr NB R rs S ∧ J k wr
theorem YO.mk0 {tl : List SV} {J : Nat → World → Prop} {Jx : World → Prop} {V : World} {k : Nat} {v : Value} (h : J k V) (hk : k = tl.length) : YO tl J Jx (.returned v) V := ⟨⟨v, rfl⟩, Or.inl (hk ▸ h)⟩
theorem YO.mkx {tl : List SV} {J : Nat → World → Prop} {Jx : World → Prop} {V : World} {v : Value} (h : Jx V) : YO tl J Jx (.returned v) V := ⟨⟨v, rfl⟩, Or.inr h⟩
theorem vV (V : World) (o : Obj) : zi V (V.alloc o) (fun _ => False) := (zi.refl V _).alloc _
theorem zau {m l : Nat} {S : Nat → Prop} {rs : List RH} {J : Nat → World → Prop} {Jx : World → Prop} (hB : zfE Tryz.prog m l S (flat rs) J Jx) (hJ : ∀ {k : Nat} {V V' : World}, J k V → zi V V' (fun _ => False) → J k V') (W : World) (NB R : Nat) (hI : jr W NB R rs S) (hn : rs.length ≤ 1000000) (hm : ∀ r ∈ rs, r.vs.length ≤ 1000000) (h0 : J 0 W) :
 Calls Tryz.prog 53 #[.func (.yield l) #[] #[], .pointer (some ⟨NB, 0, none⟩)] W (YO (flat rs) J Jx) := by
 have HST : Hid (Jf NB R rs S J (jA rs 0) W) := hH ⟨hI, by simpa [jA] using h0⟩
 obtain ⟨n, hn'⟩ : ∃ n, n = rs.length := ⟨_, rfl⟩
 have h1 := hI.1
 rw [← hn'] at hn h1
 have c0 : W.cell? ⟨NB, 0, none⟩ = some (.slice (some ⟨R, 0, none⟩) n n) := by rw [cell_of_row _ _ 0 _ _ _ h1]; rfl
 have HN := hH hn'
 have HM := hH hm
 have HJ : Hid (∀ {k : Nat} {V V' : World}, J k V → zi V V' (fun _ => False) → J k V') := hH hJ
 clear h0 h1 hn' hm hI hJ
 refine (callsIn_wide (n := 6)).1 ?_
 refine callsIn_of_wp Tryz.func53 rfl trivial ?_ rfl
 simp only [Tryz.ntmps53, List.size_toArray, List.length_cons, List.length_nil, Nat.reduceAdd, Nat.reduceSub, Array.replicate_succ, Array.replicate_zero, List.push_toArray, List.append_toArray, List.nil_append, List.cons_append]
 gi_wp2
 gi_loopw [9] (fun i wr => ∃ k : Nat, i = .int .i64 (k : Int) ∧ k ≤ n ∧ Hid (Jf NB R rs S J (jA rs k) wr)) (fun i _ => n - (intOf i).toNat)
 case atStart => exact ⟨0, rfl, Nat.zero_le _, HST⟩
 case round =>
  obtain ⟨k, rfl, hkn, hh⟩ := hrel
  clear HST c0
  by_cases hlt : k < n
  · obtain ⟨r, hr⟩ : ∃ r, rs[k]? = some r := ⟨_, List.getElem?_eq_getElem (by rw [← HN.out]; exact hlt)⟩
    obtain ⟨mm, hmm⟩ : ∃ mm, mm = r.vs.length := ⟨_, rfl⟩
    have hm1 : mm ≤ 1000000 := by rw [hmm]; exact HM.out r (List.mem_of_getElem? hr)
    obtain ⟨ra, hra⟩ : ∃ ra, ra = r.a := ⟨_, rfl⟩
    obtain ⟨rc, hrc⟩ : ∃ rc, rc = r.c := ⟨_, rfl⟩
    have hki : (k : Int) < (n : Int) := by omega
    have d0 : wr.cell? ⟨R, k, none⟩ = some (.slice ra mm rc) := by
     rw [cell_of_row _ _ k _ _ _ hh.out.1.2.1, hra, hmm, hrc]
     simp [List.getElem?_map, hr, RH.v]
    have HR := hH (aN hr (aN hmm hra))
    have HH := hh
    obtain ⟨wo, hwo⟩ : ∃ wo, wo = wr := ⟨_, rfl⟩
    subst hwo
    clear hr hmm hra hrc hh
    gi_wp2
    clear d0
    gi_loopw [15] (fun i wr => ∃ j : Nat, i = .int .i64 (j : Int) ∧ j ≤ mm ∧ Hid (Jf NB R rs S J (jA rs k + j) wr)) (fun i _ => mm - (intOf i).toNat)
    case atStart => exact ⟨0, rfl, Nat.zero_le _, HH⟩
    case round =>
     obtain ⟨j, rfl, hjm, hh⟩ := hrel
     clear HH
     by_cases hjl : j < mm
     · have hji : (j : Int) < (mm : Int) := by omega
       obtain ⟨x, hx⟩ : ∃ x, r.vs[j]? = some x := ⟨_, List.getElem?_eq_getElem (by rw [← HR.out.2.1]; exact hjl)⟩
       obtain ⟨b, off, ea, hSb, hcs⟩ := hh.out.1.2.2.2.2.2 k r HR.out.1 j x hx
       have hra : ra = some ⟨b, off, none⟩ := HR.out.2.2.trans ea
       subst hra
       obtain ⟨sn, hsn⟩ : ∃ sn, sn = zb x.s.sub.kids := ⟨_, rfl⟩
       have HX : Hid (.agg #[.int .i8 x.s.op, .int .i64 x.s.id, .int .i64 x.s.par, .int .i64 x.s.at_, .string x.s.tx, .int .i64 x.s.sub.id, .int .i64 x.s.sub.kind, .string x.s.sub.text, .slice x.a sn x.c] = x.v) := hH (by rw [hsn]; rfl)
       have d0 : wr.cell? ⟨b, off + j * 9, none⟩ = some (.int .i8 x.s.op) := hcs 0 _ rfl
       have d1 : wr.cell? ⟨b, off + j * 9 + 1, none⟩ = some (.int .i64 x.s.id) := hcs 1 _ rfl
       have d2 : wr.cell? ⟨b, off + j * 9 + 2, none⟩ = some (.int .i64 x.s.par) := hcs 2 _ rfl
       have d3 : wr.cell? ⟨b, off + j * 9 + 3, none⟩ = some (.int .i64 x.s.at_) := hcs 3 _ rfl
       have d4 : wr.cell? ⟨b, off + j * 9 + 4, none⟩ = some (.string x.s.tx) := hcs 4 _ rfl
       have d5 : wr.cell? ⟨b, off + j * 9 + 5, none⟩ = some (.int .i64 x.s.sub.id) := hcs 5 _ rfl
       have d6 : wr.cell? ⟨b, off + j * 9 + 6, none⟩ = some (.int .i64 x.s.sub.kind) := hcs 6 _ rfl
       have d7 : wr.cell? ⟨b, off + j * 9 + 7, none⟩ = some (.string x.s.sub.text) := hcs 7 _ rfl
       have d8 : wr.cell? ⟨b, off + j * 9 + 8, none⟩ = some (.slice x.a sn x.c) := by rw [hsn]; exact hcs 8 _ rfl
       have hVI : Jf NB R rs S J (jA rs k + j) (wr.alloc (.cells #[.int .i8 x.s.op, .int .i64 x.s.id, .int .i64 x.s.par, .int .i64 x.s.at_, .string x.s.tx, .int .i64 x.s.sub.id, .int .i64 x.s.sub.kind, .string x.s.sub.text, .slice x.a sn x.c] 49)) :=
        ⟨hh.out.1.kept (by simp) (fun y hy => Below.heap_alloc _ _ _ (hh.out.1.2.2.2.2.1 y hy)), HJ.out hh.out.2 (vV _ _)⟩
       obtain ⟨fn, tmps, assign, body, hy, hR⟩ := YieldAt.ZK 5 (hB (jA rs k + j) x _ (zcr rs k j r x HR.out.1 hx) hVI.1.2.2.2.2.1 hVI.2)
       rw [← HX.out] at hy
       have hcell := yP (heap_alloc_new wr (.cells #[.int .i8 x.s.op, .int .i64 x.s.id, .int .i64 x.s.par, .int .i64 x.s.at_, .string x.s.tx, .int .i64 x.s.sub.id, .int .i64 x.s.sub.kind, .string x.s.sub.text, .slice x.a sn x.c] 49))
       obtain ⟨e0, e1, e2, e3, e4, e5, e6, e7, e8⟩ := hcell
       have HVI := hH hVI
       have HRR := hH hR
       have HJN := hH (aN hjm hjl)
       have hjw : IntKind.i64.wrap ((j : Int) + 1) = (j : Int) + 1 := IntWalk.i64_in _ (by omega)
       clear hx ea hSb hcs hsn hh hVI hR hjm
       gi_wp2
       refine HRR.out.mono ?_
       clear HRR hy d0 d1 d2 d3 d4 d5 d6 d7 d8 e0 e1 e2 e3 e4 e5 e6 e7 e8
       rintro e w2 ⟨hs2, hk2, (⟨rfl, hJ4⟩ | ⟨rfl, hJ4⟩)⟩
       · have HNX : Hid (Jf NB R rs S J (jA rs k + (j + 1)) w2) := hH ⟨HVI.out.1.kept hs2 hk2, hJ4⟩
         clear hs2 hk2 hJ4 HVI
         gi_wp2
         refine ⟨⟨j + 1, by push_cast; rfl, by have := HJN.out; omega, HNX⟩, by have := HJN.out; simp [intOf]; omega⟩
       · have HE := hH (YO.mkx (tl := flat rs) (J := J) (v := .tuple #[]) hJ4)
         clear hs2 hk2 hJ4 HVI
         gi_wp2
         go_end0
         exact HE.out
     · have hjn : ¬ (j : Int) < (mm : Int) := by omega
       have hjm2 : j = mm := by omega
       have HNX : Hid (Jf NB R rs S J (jA rs (k + 1)) wr) := hH (by rw [QN rs k r HR.out.1, ← HR.out.2.1, ← hjm2]; exact hh.out)
       have hkw : IntKind.i64.wrap ((k : Int) + 1) = (k : Int) + 1 := IntWalk.i64_in _ (by omega)
       have HKN := hH (aN hkn hlt)
       clear hh hjm hjm2 hjl hkn hlt
       gi_wp2
       refine ⟨⟨k + 1, by push_cast; rfl, by have := HKN.out; omega, HNX⟩, by have := HKN.out; simp [intOf]; omega⟩
  · have hkl : ¬ (k : Int) < (n : Int) := by omega
    have HE := hH (YO.mk0 (tl := flat rs) (Jx := Jx) (v := .tuple #[]) hh.out.2 (by rw [← zaF]; congr 1; have := HN.out; omega))
    clear hh hkn hlt
    gi_wp2
    go_end0
    exact HE.out
def zai (B : Nat) (S : Nat → Prop) (I : Nat → World → Prop) (Ix : Code → World → Prop) (k : Nat) (W : World) (e : Exit) (_ : Act) (V : World) : Prop :=
 W.heap.size ≤ V.heap.size ∧ (∀ y, (y = B ∨ y = B + 1 ∨ S y) → V.heap[y]? = W.heap[y]?) ∧ ((e = .normal ∧ I (k + 1) V) ∨ (e = .ret ∧ Ix .ret V) ∨ ∃ id, e = .exit id ∧ Ix (.exit id) V)
theorem jE {n : Nat} {g : Operand} {ps : Array Tmp} {assign body : Code} {Q : Exit → Act → World → Prop} {a : Act} {w : World} (h1 : 1 ≤ n) {NB : Nat} (hg : a.eval g = .func (.func 53) #[] #[.pointer (some ⟨NB, 0, none⟩)])
 (R : Nat) (rs : List RH) (S : Nat → Prop) (hids : jr w NB R rs S) (hn : rs.length ≤ 1000000) (hm : ∀ r ∈ rs, r.vs.length ≤ 1000000) (hps : ps.size = 1)
 (I : Nat → World → Prop) (Ix : Code → World → Prop)
 (hI : ∀ {k : Nat} {V V' : World}, I k V → zi V V' (fun x => x = w.heap.size + 1) → I k V')
 (hIx : ∀ {c : Code} {V V' : World}, Ix c V → zi V V' (fun x => x = w.heap.size + 1) → Ix c V')
 (h0 : I 0 w)
 (hround : ∀ (l : Nat), l = w.heap.size + 1 → ∀ (k : Nat) (x : SV) (V : World), w.heap.size + 2 ≤ V.heap.size → (flat rs)[k]? = some x → I k V →
   ∀ (K : Act → World → Prop), (∀ a₁ V0, zi V V0 (fun _ => False) → (∀ V', (∃ o', V' = V0.putObj l o' ∧ ∃ o, V0.heap[l]? = some o ∧ o.isCells = false) → body.wpIn (Fence.wide.inRound l) (n - 1 - 1) Tryz.prog (zai w.heap.size S I Ix k V') a₁ V') → K a₁ V0) →
    assign.wpIn (Fence.wide.inRound l) (n - 1 - 1) Tryz.prog (Exit.then K (fun _ _ _ => False)) { tmps := (ps.zip #[x.v]).foldl (fun t (p, v) => t.setIfInBounds p v) a.tmps, defers := [] } V)
 (hdone : ∀ (D : Nat) (V : World), D = w.heap.size → I (flat rs).length V → V.heap[D]? = some (.deferred (some [])) → Q .normal { a with defers := { target := .collected D, args := #[] } :: a.defers } V)
 (hstop : ∀ (D : Nat) (c : Code) (V : World), D = w.heap.size → Ix c V → V.heap[D]? = some (.deferred (some [])) → c.wpIn Fence.wide n Tryz.prog Q { a with defers := { target := .collected D, args := #[] } :: a.defers } V) :
 (Code.rangeFunc g ps assign body).wpIn Fence.wide n Tryz.prog Q a w := by
 obtain ⟨B, hB⟩ : ∃ B, w.heap.size = B := ⟨_, rfl⟩
 have hSB : ∀ y, S y → y < B := fun y hy => by have := hids.2.2.2.2.1 y hy; omega
 simp only [hB] at hI hIx hround hdone hstop h0
 refine wpIn_rangeFunc fun fn hfn => ?_
 obtain ⟨rec, hrec⟩ : ∃ rec : LoopState → Option Code → Loop, rec = fun st pe => { state := st, pending := pe, fn, tmps := a.tmps, params := ps, assign, body, defers := B } := ⟨_, rfl⟩
 obtain ⟨W1, hW1⟩ : ∃ W1, W1 = (w.alloc (.deferred (some []))).alloc (.loop (rec .ready none)) := ⟨_, rfl⟩
 have hsz1 : W1.heap.size = B + 2 := by rw [hW1]; simp [hB]
 have hblk : ∀ x, x < B → W1.heap[x]? = w.heap[x]? := fun x hx => by rw [hW1, Below.heap_alloc _ _ _ (by simp; omega), Below.heap_alloc _ _ _ (by omega)]
 have hbk : Book B (rec .ready none) W1 := by
  rw [hW1, ← hB]
  refine ⟨?_, (Below.heap_alloc _ _ _ (by simp)).trans (World.alloc_heap_new w _)⟩
  have := World.alloc_heap_new (w.alloc (.deferred (some []))) (.loop (rec .ready none))
  rwa [World.size_alloc] at this
 have hb1 : zi w W1 (fun _ => False) := by rw [hW1]; exact ((zi.refl w _).alloc _).alloc _
 have hI1 : I 0 W1 := hI h0 (hb1.mono (fun _ h => h.elim))
 refine ⟨B + 1, [{ target := .collected B, args := #[] }], W1, { target := .fn (.func 53) #[.pointer (some ⟨NB, 0, none⟩)], args := #[.func (.yield (B + 1)) #[] #[]] }, W1, 53, #[.func (.yield (B + 1)) #[] #[]] ++ #[.pointer (some ⟨NB, 0, none⟩)], W1, ?_, ?_, ?_, ?_, fun _ => h1, ?_⟩
 · rw [hW1, hrec, ← hB]; exact run_enterLoop_outer _ _ _ _ _
 · simp only [resolve, hg]
   simp [go_sem]
 · intro f' hf'; simp [Target.leads] at hf'; subst hf'; exact trivial
 · simp [invoke, go_sem]
 · obtain ⟨J, hJ⟩ : ∃ J : Nat → World → Prop, J = fun k V => I k V ∧ Book B (rec .ready none) V := ⟨_, rfl⟩
   obtain ⟨Jx, hJx⟩ : ∃ Jx : World → Prop, Jx = fun V => ∃ c, Ix c V ∧ Book B (rec .done (some c)) V := ⟨_, rfl⟩
   have hbody : zfE Tryz.prog (n - 1 - 1) (B + 1) S (flat rs) J Jx := by
    subst hJ hJx
    rintro k x V hx hS ⟨j1, j2⟩
    have hr := hround (B + 1) rfl k x V (by have := lt_of_heap j2.1; omega) hx j1
    have hSl : ∀ y, S y → y ≠ B + 1 := fun y hy => by have := hSB y hy; omega
    have hy := run_yield (P := Tryz.prog) (args := #[x.v]) j2.1 (by rw [hrec]; exact hps.symm)
    rw [hrec] at hy
    refine ⟨fn, _, assign, body, hy, roundIn_of_wpIn hfn (hr _ fun a₁ V0 h0 hb => ?_)⟩
    have j3 : Book B (rec .ready none) V0 := ⟨(h0.block _ (lt_of_heap j2.1) (fun h => h)).trans j2.1, (h0.block _ (lt_of_heap j2.2) (fun h => h)).trans j2.2⟩
    refine ⟨_, run_beginRound j3.1 (by rw [hrec]), ?_⟩
    have hb2 : Book B { rec .ready none with state := .busy } (V0.putObj (B + 1) (.loop { rec .ready none with state := .busy })) := j3.put
    refine wpIn_mono (hb _ ⟨_, rfl, _, j3.1, rfl⟩) ?_
    rintro e3 a3 U ⟨hkU, hkS, hp⟩
    have hb3 : Book B { rec .ready none with state := .busy } U := ⟨(hkS _ (Or.inr (Or.inl rfl))).trans hb2.1, (hkS _ (Or.inl rfl)).trans hb2.2⟩
    have fin := fun jump => run_endRound (P := Tryz.prog) jump hb3.1
    rw [hrec] at fin hb3
    have hUs : V.heap.size ≤ U.heap.size := by have := hkU; have := h0.size; simp [World.putObj] at *; omega
    have hsz : ∀ o', V.heap.size ≤ (U.putObj (B + 1) o').heap.size := fun o' => by simp [World.putObj]; exact hUs
    have hallS : ∀ o' y, S y → (U.putObj (B + 1) o').heap[y]? = V.heap[y]? := fun o' y hy => by
     rw [World.putObj_heap_other (hSl y hy), hkS y (Or.inr (Or.inr hy)), World.putObj_heap_other (hSl y hy), h0.block y (hS y hy) (fun h => h)]
    have htp : ∀ o', zi U (U.putObj (B + 1) o') (fun x => x = B + 1) := fun o' => yu o' hb3.1
    rcases hp with ⟨rfl, hi3⟩ | ⟨rfl, hi3⟩ | ⟨id, rfl, hi3⟩
    · refine ⟨_, _, fin none, hsz _, hallS _, .inl ⟨rfl, hI hi3 (htp _), ?_⟩⟩
      rw [hrec]; exact hb3.put
    · refine ⟨_, _, fin (some .ret), hsz _, hallS _, .inr ⟨rfl, .ret, hIx hi3 (htp _), ?_⟩⟩
      rw [hrec]; exact hb3.put
    · refine ⟨_, _, fin (some (.exit id)), hsz _, hallS _, .inr ⟨rfl, .exit id, hIx hi3 (htp _), ?_⟩⟩
      rw [hrec]; exact hb3.put
   have hstart : J 0 W1 := by rw [hJ]; exact ⟨hI1, hbk⟩
   refine (callsIn_wide.2 (zau hbody (fun {k V V1} j hb => by rw [hJ] at j ⊢; exact ⟨hI j.1 (hb.mono (fun _ h => h.elim)), (hb.block _ (lt_of_heap j.2.1) (fun h => h)).trans j.2.1, (hb.block _ (lt_of_heap j.2.2) (fun h => h)).trans j.2.2⟩) W1 NB R (hids.kept hb1.size (fun y hy => hblk y (hSB y hy))) hn hm hstart)).mono ?_
   rintro e W2 ⟨⟨v, rfl⟩, hj | hj⟩
   · rw [hJ] at hj
     obtain ⟨hi, hb⟩ := hj
     have := run_endLoop (P := Tryz.prog) hb.1 (by rw [hrec]; simp)
     rw [hrec] at this
     refine ⟨none, _, this, hdone B _ rfl (hI hi (yu _ hb.1)) ((World.putObj_heap_other (by omega)).trans hb.2)⟩
   · rw [hJx] at hj
     obtain ⟨c, hi, hb⟩ := hj
     have := run_endLoop (P := Tryz.prog) hb.1 (by rw [hrec]; simp)
     rw [hrec] at this
     exact ⟨some c, _, this, hstop B c _ rfl (hIx hi (yu _ hb.1)) ((World.putObj_heap_other (by omega)).trans hb.2)⟩
theorem qO (w : World) (R n c : Nat) : Calls Tryz.prog 24 #[.slice (some ⟨R, 0, none⟩) n c] w fun e w' => e = .returned (.func (.func 53) #[] #[.pointer (some ⟨w.heap.size, 0, none⟩)]) ∧ w.alloc (.cells #[.slice (some ⟨R, 0, none⟩) n c] 91) = w' := by
 have hmf : ∀ W : World, (Instr.makeFunc (.func 53) #[] #[.pointer (some ⟨w.heap.size, 0, none⟩)]).run Tryz.prog W = .ok (.func (.func 53) #[] #[.pointer (some ⟨w.heap.size, 0, none⟩)]) W := fun _ => rfl
 go_enter Tryz.func24, Tryz.ntmps24
 go_wp2_with fail
 go_ret
 exact ⟨rfl, rfl⟩
end Go.Proofs.YtonapijgfalpaaaGreat
namespace Go.Proofs.YtonapijgfalpaaaGreat
open Go.RowKit Go.Shelf
theorem Tryz.Yx : (Tryz.prog.info? 49).map (fun i => (i.size, i.bytes, i.zero.map (fun z => z.cells.size))) = some (9, 104, some 9) := by kernel_rfl
def ze5 (w : World) (e : Ending) (w' : World) : Prop := e = .returned (.bool true) ∧ Below w.heap.size w w'
end Go.Proofs.YtonapijgfalpaaaGreat
