/-
  .
-/
import Derived.Deep.Cut
import Derived.Deep.AppendLies
import Derived.Test.YtonapijgfalpaaaGreatJApplyQw
import Derived.Test.YtonapijgfalpaaaGreatJSeqQw
import Derived.Test.YtonapijgfalpaaaGreatJPgQw
set_option maxRecDepth 100000
set_option maxHeartbeats 40000000
set_option linter.unusedVariables false
set_option linter.unusedSimpArgs false
namespace Go.Proofs.YtonapijgfalpaaaGreat
open Go.RowKit Go.Shelf
def qG (a : Option Addr) (q : Nat) : Prop := ∃ d, a = some d ∧ d.block = q
theorem qL {a : Option Addr} {n c q : Nat} : some q = (Value.slice a n c).ownBlock ↔ qG a q := zfq
def Ex (F : Nat → Prop) (a : Option Addr) (q : Nat) : Prop := F q ∨ qG a q
structure zP (w : World) (F : Nat → Prop) (base BB : Nat) (ba : Option Addr) (bc : Nat) (bs : List Sf) (ys : List Value) : Prop where
 box : w.heap[BB]? = some (.cells #[.slice ba bs.length bc] 22 (0, 0))
 row : w.ownsRow base 49 9 (.slice ba bs.length bc) bs.length ys
 lies : jh w (Ex F ba) bs ys
 base : base ≤ w.heap.size
theorem zP.kept {w X : World} {F : Nat → Prop} {base BB : Nat} {ba : Option Addr} {bc : Nat} {bs : List Sf} {ys : List Value} (h : zP w F base BB ba bc bs ys) (hs : w.heap.size ≤ X.heap.size) (hk : ∀ q, q < w.heap.size → (q = BB ∨ qG ba q ∨ ¬ Ex F ba q) → X.heap[q]? = w.heap[q]?) : zP X F base BB ba bc bs ys :=
 ⟨(hk _ (lt_of_heap h.box) (Or.inl rfl)).trans h.box, zB h.row (fun g cur hc hg => hk g (lt_of_some hc) (Or.inr (Or.inl (qL.1 hg.symm)))), h.lies.kept fun f a c hl => ⟨hl.1, hl.2.kept fun q hq => ⟨⟨nL hq.1 hs, hq.2⟩, hk q hq.1 (Or.inr (Or.inr hq.2))⟩⟩, Nat.le_trans h.base hs⟩
theorem zP.on {w X : World} {F : Nat → Prop} {base BB : Nat} {ba : Option Addr} {bc : Nat} {bs : List Sf} {ys : List Value} (h : zP w F base BB ba bc bs ys) (hb : Below w.heap.size w X) : zP X F base BB ba bc bs ys := h.kept hb.size (fun q hq _ => hb.block q hq)
theorem zP.weak {w : World} {F F' : Nat → Prop} {base BB : Nat} {ba : Option Addr} {bc : Nat} {bs : List Sf} {ys : List Value} (h : zP w F' base BB ba bc bs ys) (hF : ∀ q, F q → F' q) : zP w F base BB ba bc bs ys :=
 ⟨h.box, h.row, h.lies.kept fun f a c hl => hl.weak fun q hq => hq.imp (hF q) (fun h => h), h.base⟩
theorem zK.Y7 {w : World} {F : Nat → Prop} {a : Option Addr} {R : Nat} {f : Fo} {b : Option Addr} {c : Nat} (h : zK w (Ex F a) f b c) (hR : w.heap.size ≤ R) : zK w (Ex (fun q => F q ∨ q = R) a) f b c :=
 ⟨h.1, h.2.kept fun q hq => ⟨⟨hq.1, fun he => by
  rcases he with (he | he) | he
  · exact hq.2 (Or.inl he)
  · have := hq.1; omega
  · exact hq.2 (Or.inr he)⟩, rfl⟩⟩
theorem zP.Y7 {w : World} {F : Nat → Prop} {base BB R : Nat} {ba : Option Addr} {bc : Nat} {bs : List Sf} {ys : List Value} (h : zP w F base BB ba bc bs ys) (hR : w.heap.size ≤ R) : zP w (fun q => F q ∨ q = R) base BB ba bc bs ys :=
 ⟨h.box, h.row, h.lies.kept fun f a c hl => hl.Y7 hR, h.base⟩
def QR (s : Sf) : Prop := ZW s.op ∧ ∀ (E : Nat → Prop) (X0 X1 X : World) (t : Tr) (ta sa : Option Addr) (tc sc : Nat), (∀ q, E q → q < X.heap.size) → zK X0 E t.kids ta tc → zK X1 E s.sub.kids sa sc → Below X0.heap.size X0 X → Below X1.heap.size X1 X → ze t.kids + 1 ≤ 2000 → (∀ i ∈ idT t, (Lit.int .i64 i).wf = true) →
 Calls Tryz.prog 66 #[.agg #[.int .i64 t.id, .int .i64 t.kind, .string t.text, .slice ta (zb t.kids) tc], .agg #[.int .i8 s.op, .int .i64 s.id, .int .i64 s.par, .int .i64 s.at_, .string s.tx, .int .i64 s.sub.id, .int .i64 s.sub.kind, .string s.sub.text, .slice sa (zb s.sub.kids) sc]] X (zgE E (s.inv t) (s.on t).2 X)
def zfP (w : World) (F : Nat → Prop) (base BB : Nat) (ba : Option Addr) (bs : List Sf) (s : Sf) (t : Tr) (e : Ending) (W : World) : Prop := ∃ (v : NV), e = .returned (.tuple #[v.v, .int .i64 (s.on t).2]) ∧ zi w W (fun q => q = BB ∨ qG ba q) ∧ ((s.on t).2 = 0 → ∃ ba' bc' ys', zP W F base BB ba' bc' (bs ++ [s.inv t]) ys' ∧ (∀ q, qG ba' q → qG ba q ∨ w.heap.size ≤ q) ∧ IsN W (Ex F ba') v (s.on t).1) ∧ ((s.on t).2 ≠ 0 → Below w.heap.size w W)
theorem zaZ {fn : Func} (h : fn.results = #[.cell 5 37, .tmp 6]) {w W : World} {F : Nat → Prop} {base BB : Nat} {ba : Option Addr} {bs : List Sf} {s : Sf} {t : Tr} {tmps : Array Value} {g : Nat} {i k : Int} {x : ByteArray} {a : Option Addr} {n c : Nat} (hz : W.heap[g]? = some (.cells #[.int .i64 i, .int .i64 k, .string x, .slice a n c] 37 (0, 0))) (ht : zi w W (fun q => q = BB ∨ qG ba q)) (hy : (s.on t).2 = 0 → ∃ ba' bc' ys', zP W F base BB ba' bc' (bs ++ [s.inv t]) ys' ∧ (∀ q, qG ba' q → qG ba q ∨ w.heap.size ≤ q) ∧ IsN W (Ex F ba') ⟨i, k, x, a, n, c⟩ (s.on t).1) (hno : (s.on t).2 ≠ 0 → Below w.heap.size w W)
 (h1 : tmps.getD 5 undef = .pointer (some ⟨g, 0, none⟩)) (h2 : tmps.getD 6 undef = .int .i64 (s.on t).2) : bodyPost Tryz.prog fn (zfP w F base BB ba bs s t) .ret { tmps, defers := [] } W := by
 refine bodyPost_ret (yN h tmps W g 37 _ _ _ (.int .i64 (s.on t).2) h1 hz Tryz.underlying37 rfl (by kernel_rfl) h2) rfl ?_
 exact ⟨⟨i, k, x, a, n, c⟩, rfl, ht, hy, hno⟩
theorem zdy (w X0 : World) (F : Nat → Prop) (base BB : Nat) (t : Tr) (x : SV) (ta ba : Option Addr) (tn tc bc : Nat) (bs : List Sf) (ys : List Value) (hF : ∀ q, F q → q < w.heap.size) (hFB : F BB) (hbk : zP w F base BB ba bc bs ys) (hlen : bs.length ≤ 1000) (htn : tn = zb t.kids) (hlt : zK w (Ex F ba) t.kids ta tc) (hlx : zK X0 (Ex F ba) x.s.sub.kids x.a x.c) (hb0 : Below X0.heap.size X0 w) (hz : ze t.kids + 1 ≤ 2000) (hok : ∀ i ∈ idT t, (Lit.int .i64 i).wf = true) (ho : zdV x.s) (hfn : QR x.s) :
 Calls Tryz.prog 65 #[.agg #[.int .i64 t.id, .int .i64 t.kind, .string t.text, .slice ta tn tc], x.v, .pointer (some ⟨BB, 0, none⟩)] w (zfP w F base BB ba bs x.s t) := by
 obtain ⟨sn, hsn⟩ : ∃ sn, sn = zb x.s.sub.kids := ⟨_, rfl⟩
 have hxv : x.v = .agg #[.int .i8 x.s.op, .int .i64 x.s.id, .int .i64 x.s.par, .int .i64 x.s.at_, .string x.s.tx, .int .i64 x.s.sub.id, .int .i64 x.s.sub.kind, .string x.s.sub.text, .slice x.a sn x.c] := by rw [hsn]; rfl
 rw [hxv]
 obtain ⟨B, hB⟩ : ∃ B, B = zo w [.cells #[.int .i64 t.id, .int .i64 t.kind, .string t.text, .slice ta tn tc] 37, .cells #[.int .i8 x.s.op, .int .i64 x.s.id, .int .i64 x.s.par, .int .i64 x.s.at_, .string x.s.tx, .int .i64 x.s.sub.id, .int .i64 x.s.sub.kind, .string x.s.sub.text, .slice x.a sn x.c] 49, .cells #[.int .i64 0, .int .i64 0, .string ⟨#[]⟩, .slice none 0 0] 37] := ⟨_, rfl⟩
 have hb : Below w.heap.size w B := by rw [hB]; exact zk _ _
 have hsz : B.heap.size = w.heap.size + 3 := by rw [hB]; exact zx _ _
 have e0 : B.heap[w.heap.size]? = some (.cells #[.int .i64 t.id, .int .i64 t.kind, .string t.text, .slice ta tn tc] 37 (0, 0)) := by rw [hB]; exact zg _ _ 0 _ rfl
 have e1 : B.heap[w.heap.size + 1]? = some (.cells #[.int .i8 x.s.op, .int .i64 x.s.id, .int .i64 x.s.par, .int .i64 x.s.at_, .string x.s.tx, .int .i64 x.s.sub.id, .int .i64 x.s.sub.kind, .string x.s.sub.text, .slice x.a sn x.c] 49 (0, 0)) := by rw [hB]; exact zg _ _ 1 _ rfl
 have e2 : B.heap[w.heap.size + 1 + 1]? = some (.cells #[.int .i64 0, .int .i64 0, .string ⟨#[]⟩, .slice none 0 0] 37 (0, 0)) := by rw [hB]; exact zg _ _ 2 _ rfl
 have hE : ∀ q, Ex F ba q → q < w.heap.size := fun q hq => by
  rcases hq with hq | hq
  · exact hF q hq
  · exact (zq hbk.row (qL.2 hq).symm).2
 obtain ⟨RB, hRB⟩ : ∃ RB, RB = w.heap.size + 1 + 1 := ⟨_, rfl⟩
 obtain ⟨F2, hF2d⟩ : ∃ F2 : Nat → Prop, F2 = fun q => F q ∨ q = RB := ⟨_, rfl⟩
 have hF2 : ∀ q, F2 q → q < B.heap.size := fun q hq => by
  rw [hF2d] at hq
  rcases hq with hq | hq
  · have := hF q hq; omega
  · omega
 have hFB2 : F2 BB := by rw [hF2d]; exact Or.inl hFB
 have hlt2 : zK B (Ex F2 ba) t.kids ta tc := by rw [hF2d]; exact (hlt.Y7 (by omega)).on hb
 have hlx2 : zK B (Ex F2 ba) x.s.sub.kids x.a x.c := by
  rw [hF2d]
  exact ((hlx.on hb0).Y7 (by omega)).on hb
 have hbk2 : zP B F2 base BB ba bc bs ys := by rw [hF2d]; exact (hbk.Y7 (by omega)).on hb
 have hiv := hfn.2 (Ex F2 ba) B B B t ta x.a tc x.c (fun q hq => by
  rcases hq with hq | hq
  · exact hF2 q hq
  · have := hE q (Or.inr hq); omega) hlt2 hlx2 (Below.refl _ _) (Below.refl _ _) hz hok
 have HOF := hH hfn.1
 clear hfn
 rw [← htn, ← hsn] at hiv
 obtain ⟨b, hbq⟩ : ∃ b, b = x.s.inv t := ⟨_, rfl⟩
 obtain ⟨y, hy⟩ : ∃ y, y = (x.s.on t).1 := ⟨_, rfl⟩
 obtain ⟨ye, hye⟩ : ∃ ye, ye = (x.s.on t).2 := ⟨_, rfl⟩
 rw [← hbq, ← hye] at hiv
 have HIV := hH hiv
 have HB := hH (aN hb (aN hsz (aN e0 (aN e1 e2))))
 have HBE := hH hB
 have HP := hH (aN hF2 (aN hFB2 (aN hE (aN htn (aN hlt2 (aN hlx2 (aN hb (aN hz (aN hok ho)))))))))
 have HFD := hH hF2d
 have HK := hH (aN hbk2 (aN hlen (lt_of_heap hbk.box)))
 have HY := hH (aN hbq (aN hy (aN hye hsn)))
 obtain ⟨n0, n1, n2, n3⟩ := zJ e0
 obtain ⟨m0, m1, m2, m3, m4, m5, m6, m7, m8⟩ := yP e1
 have HRB := hH hRB
 clear hF2 hFB2 hlt2 hlx2 hbk2 hF2d hF hFB hbk hlen htn hlt hlx hb0 hz hok ho hxv hb hsz e0 e1 e2 hE hiv hbq hy hye hsn hB
 go_enter Tryz.func65, Tryz.ntmps65
 go_upto_region 1 with fail
 change Code.wp _ _ _ _ (zo w [.cells #[.int .i64 t.id, .int .i64 t.kind, .string t.text, .slice ta tn tc] 37, .cells #[.int .i8 x.s.op, .int .i64 x.s.id, .int .i64 x.s.par, .int .i64 x.s.at_, .string x.s.tx, .int .i64 x.s.sub.id, .int .i64 x.s.sub.kind, .string x.s.sub.text, .slice x.a sn x.c] 49, .cells #[.int .i64 0, .int .i64 0, .string ⟨#[]⟩, .slice none 0 0] 37])
 rw [← HBE.out, ← hRB]
 clear hRB HBE
 go_wp2_with fail
 clear n0 n1 n2 n3 m0 m1 m2 m3 m4 m5 m6 m7 m8
 refine HIV.out.mono ?_
 rintro e w2 ⟨va, vc, rfl, hlb, hb2⟩
 obtain ⟨bn, hbn⟩ : ∃ bn, bn = zb b.sub.kids := ⟨_, rfl⟩
 rw [← hbn]
 obtain ⟨U, hU⟩ : ∃ U, U = w2.alloc (.cells #[.int .i8 b.op, .int .i64 b.id, .int .i64 b.par, .int .i64 b.at_, .string b.tx, .int .i64 b.sub.id, .int .i64 b.sub.kind, .string b.sub.text, .slice va bn vc] 49) := ⟨_, rfl⟩
 have hbU : Below w2.heap.size w2 U := by rw [hU]; exact zh _ _
 have hsU : U.heap.size = w2.heap.size + 1 := by rw [hU]; simp
 have hnU : U.heap[w2.heap.size]? = some (.cells #[.int .i8 b.op, .int .i64 b.id, .int .i64 b.par, .int .i64 b.at_, .string b.tx, .int .i64 b.sub.id, .int .i64 b.sub.kind, .string b.sub.text, .slice va bn vc] 49 (0, 0)) := by rw [hU]; exact heap_alloc_new _ _
 have HU := hH hU
 have hBU : Below B.heap.size B U := hb2.trans (hbU.mono hb2.size)
 have H2 := hH (aN hBU (aN (hlb.on hbU) (aN hsU (aN hnU hb2.size))))
 have HBN := hH hbn
 obtain ⟨sb, hsb⟩ : ∃ sb, sb = w2.heap.size := ⟨_, rfl⟩
 clear hU hbU hsU hnU hlb hb2 HIV hbn hBU
 go_upto_region 2 with fail
 change Code.wp _ _ _ _ (w2.alloc (.cells #[.int .i8 b.op, .int .i64 b.id, .int .i64 b.par, .int .i64 b.at_, .string b.tx, .int .i64 b.sub.id, .int .i64 b.sub.kind, .string b.sub.text, .slice va bn vc] 49))
 rw [← HU.out, ← hsb]
 rw [← hsb] at H2
 clear hsb HU
 have HWU := hH (HB.out.1.trans (H2.out.1.mono HB.out.1.size))
 by_cases hz : ye = 0
 · have hzb : (ye != 0) = false := by simpa using hz
   have HZ := hH (show (x.s.on t).2 = 0 by rw [← HY.out.2.2.1]; exact hz)
   clear hz
   have kU := HK.out.1.on H2.out.1
   obtain ⟨k, hk⟩ : ∃ k, k = bs.length := ⟨_, rfl⟩
   have hbx := kU.box
   have hrow := kU.row
   rw [← hk] at hbx hrow
   have hk1 : k ≤ 1000 := by rw [hk]; exact HK.out.2.1
   have c0 : U.cell? ⟨BB, 0, none⟩ = some (.slice ba k bc) := by rw [cell_of_row _ _ 0 _ _ _ hbx]; rfl
   obtain ⟨m0, m1, m2, m3, m4, m5, m6, m7, m8⟩ := yP H2.out.2.2.2.1
   obtain ⟨i1, z1, hi1, hy0, hy1, hy2, hy3⟩ := yC Tryz.Yx
   have HI1 := hH (aN hi1 (aN hy0 (aN hy1 (aN hy2 hy3))))
   have HRW := hH (aN hrow kU.base)
   have HKK := hH hk
   have HBX := hH hbx
   clear hi1 hy0 hy1 hy2 hy3 hrow kU hk hbx
   go_upto_region 4 with fail
   go_upto_region 5 with (at_builtin; refine wpList_append_lies _ rfl (.tmp 19) (.tmp 21) _ rfl base 49 i1 z1 9 104 Tryz.underlying22 HI1.out.1 HI1.out.2.1 HI1.out.2.2.1 HI1.out.2.2.2.1 HI1.out.2.2.2.2 (by omega) (.slice ba k bc) k ys rfl (HRW.out.1.alloc _) ⟨U.heap.size, 0, none⟩ 1 1 [.int .i8 b.op, .int .i64 b.id, .int .i64 b.par, .int .i64 b.at_, .string b.tx, .int .i64 b.sub.id, .int .i64 b.sub.kind, .string b.sub.text, .slice va bn vc] rfl rfl (World.news_of_block (cs := #[.int .i8 b.op, .int .i64 b.id, .int .i64 b.par, .int .i64 b.at_, .string b.tx, .int .i64 b.sub.id, .int .i64 b.sub.kind, .string b.sub.text, .slice va bn vc]) (t := 49) (fr := (0, 0)) (heap_alloc_new U _)) (by simp [Value.oneCell']) (by omega) (by unfold maxLen; omega) (by omega) (by have := HRW.out.2; simp; omega) (U.heap.size + 1) (by simp) ?_; intro g1 c1 W7 hown7 hgrow7 hat7 hlt7; have H7 := hH (aN hown7 (aN hgrow7 hat7)); clear hown7 hgrow7 hat7 hlt7; have hB7 : W7.heap[BB]? = some (.cells #[.slice ba k bc] 22 (0, 0)) := (H7.out.2.1.block BB (by rw [World.size_alloc]; have := lt_of_heap HBX.out; omega) (fun e => by obtain ⟨d, hd⟩ := ZO HRW.out.1 e.symm; exact absurd (zd2 HBX.out hd) (by decide))).trans ((Below.heap_alloc _ _ _ (lt_of_heap HBX.out)).trans HBX.out); have b7 : W7.cell? ⟨BB, 0, none⟩ = some (.slice ba k bc) := (by rw [cell_of_row _ _ 0 _ _ _ hB7]; rfl); have f7 : W7.frozen? ⟨BB, 0, none⟩ = false := frozen_of_row _ _ 0 _ _ hB7; have HB7 := hH hB7; clear hB7)
   have hold7 : ∀ q, q < U.heap.size → ¬ qG ba q → W7.heap[q]? = U.heap[q]? := fun q h1 h2 => (H7.out.2.1.block q (by rw [World.size_alloc]; omega) (fun e => h2 (qL.1 e))).trans (Below.heap_alloc _ _ _ h1)
   have hs7 := H7.out.2.1.size
   rw [World.size_alloc] at hs7
   obtain ⟨W8, hW8, r1, r2, r3, r4, r5, r6⟩ := one_set (i := 0) (u := .slice (some ⟨g1, 0, none⟩) (k + 1) c1) HB7.out
   have hold8 : ∀ q, q < U.heap.size → q ≠ BB → ¬ qG ba q → W8.heap[q]? = U.heap[q]? := fun q h1 h2 h3 => (r2 q h2).trans (hold7 q h1 h3)
   have hUB : w.heap.size + 3 ≤ U.heap.size := by have := H2.out.1.size; have := HB.out.2.1; omega
   have hBBw : BB < w.heap.size := HK.out.2.2
   have hbaw : ∀ q, qG ba q → q < w.heap.size := fun q hq => HP.out.2.2.1 q (Or.inr hq)
   have hg1 : ∀ q, qG (some ⟨g1, 0, none⟩) q → qG ba q ∨ q = U.heap.size + 1 := fun q hq => by
    obtain ⟨d, e, hd⟩ := hq
    cases e
    simp only at hd
    subst hd
    rcases H7.out.2.2 with h | h
    · exact Or.inl (qL.1 h.symm)
    · exact Or.inr h
   have hgz : ∀ q, qG (some ⟨g1, 0, none⟩) q → q < W7.heap.size := fun q hq => (zq H7.out.1 (qL.2 hq).symm).2
   have hEE : ∀ {f a c}, zK U (Ex F2 ba) f a c → zK W8 (Ex F2 (some ⟨g1, 0, none⟩)) f a c := fun {f a c} h => ⟨h.1, h.2.kept fun q hq => by
    have h1 : ¬ F2 q := fun h => hq.2 (Or.inl h)
    have h2 : ¬ qG ba q := fun h => hq.2 (Or.inr h)
    have h3 : q ≠ BB := fun e => h1 (e ▸ HP.out.2.1)
    refine ⟨⟨by rw [r6]; have := hq.1; omega, fun he => ?_⟩, hold8 q hq.1 h3 h2⟩
    rcases he with he | he
    · exact h1 he
    · rcases hg1 q he with h | h
      · exact h2 h
      · have := hq.1; omega⟩
   have hT8 : zi w W8 (fun q => q = BB ∨ qG ba q) := ⟨r3.trans (H7.out.2.1.os.trans HWU.out.os), r4.trans (H7.out.2.1.tape.trans HWU.out.tape), r5.trans (H7.out.2.1.output.trans HWU.out.output), by rw [r6]; have := HWU.out.size; omega, fun q h1 h2 => (hold8 q (by have := HWU.out.size; omega) (fun e => h2 (Or.inl e)) (fun e => h2 (Or.inr e))).trans (HWU.out.block q h1)⟩
   have hw8 : ∀ q, q < U.heap.size → w.heap.size ≤ q → W8.heap[q]? = U.heap[q]? := fun q h1 h2 => hold8 q h1 (by omega) (fun h => by have := hbaw q h; omega)
   have kU := HK.out.1.on H2.out.1
   have hK8 : ∃ ys', zP W8 F2 base BB (some ⟨g1, 0, none⟩) c1 (bs ++ [b]) ys' := by
    refine ⟨_, ⟨?_, ?_, (jh.snoc (E := Ex F2 (some ⟨g1, 0, none⟩)) (t := b) (a := va) (c := vc) (hEE H2.out.2.1) (kU.lies.kept fun f a c h => hEE h)), by rw [r6]; have := HRW.out.2; omega⟩⟩
    · rw [r1, List.length_append, List.length_singleton, ← HKK.out]; simp
    · rw [List.length_append, List.length_singleton, ← HKK.out]
      have h := H7.out.1
      rw [HBN.out] at h
      exact zB h (fun q cur hc hq => r2 q (fun e => by
       rw [e, HB7.out] at hc
       cases hc))
   have e0 : W8.heap[w.heap.size]? = some (.cells #[.int .i64 t.id, .int .i64 t.kind, .string t.text, .slice ta tn tc] 37 (0, 0)) := (hw8 _ (by omega) (by omega)).trans ((H2.out.1.block _ (by have := HB.out.2.1; omega)).trans HB.out.2.2.1)
   have e1 : W8.heap[w.heap.size + 1]? = some (.cells #[.int .i8 x.s.op, .int .i64 x.s.id, .int .i64 x.s.par, .int .i64 x.s.at_, .string x.s.tx, .int .i64 x.s.sub.id, .int .i64 x.s.sub.kind, .string x.s.sub.text, .slice x.a sn x.c] 49 (0, 0)) := (hw8 _ (by omega) (by omega)).trans ((H2.out.1.block _ (by have := HB.out.2.1; omega)).trans HB.out.2.2.2.1)
   have e2 : W8.heap[RB]? = some (.cells #[.int .i64 0, .int .i64 0, .string ⟨#[]⟩, .slice none 0 0] 37 (0, 0)) := by rw [HRB.out]; exact (hw8 _ (by omega) (by omega)).trans ((H2.out.1.block _ (by have := HB.out.2.1; omega)).trans HB.out.2.2.2.2)
   have hs8 : W8.heap.size ≥ U.heap.size + 1 := by rw [r6]; omega
   have hap := zgh (X := W8) (X0 := W8) (E := Ex F2 (some ⟨g1, 0, none⟩)) (fun q hq => by
    rcases hq with hq | hq
    · have := HP.out.1 q hq; have := H2.out.1.size; omega
    · have := hgz q hq; rw [r6]; exact this) (hEE (HP.out.2.2.2.2.1.on H2.out.1)) (X1 := W8) (hEE (HP.out.2.2.2.2.2.1.on H2.out.1)) (Below.refl _ _) (Below.refl _ _) HP.out.2.2.2.2.2.2.2.1 HP.out.2.2.2.2.2.2.2.2.1 HP.out.2.2.2.2.2.2.2.2.2 HOF.out
   rw [← HP.out.2.2.2.1, ← HY.out.2.2.2] at hap
   have hyr : zY (x.s.on t) = y := by rw [zY, if_pos HZ.out, ← HY.out.2.1]
   rw [hyr] at hap
   rw [HZ.out] at hap
   have HAP := hH hap
   have H8 := hH (aN hT8 (aN hK8 (aN e2 (aN hs8 (aN hg1 (aN hbaw (aN hUB hgz)))))))
   have hW8k : W7.setCell ⟨BB, 0, none⟩ (.slice (some ⟨g1, 0, none⟩) (k + 1) c1) = W8 := hW8.symm
   rw [hW8k]
   obtain ⟨n0, n1, n2, n3⟩ := zJ e0
   obtain ⟨q0, q1, q2, q3, q4, q5, q6, q7, q8⟩ := yP e1
   clear hap hT8 hK8 e0 e1 e2 hs8 hg1 hbaw hUB hgz hEE hw8 hBBw hold8 hold7 hs7 r1 r2 r3 r4 r5 hW8 hW8k kU c0 m0 m1 m2 m3 m4 m5 m6 m7 m8 hyr
   have HR6 := hH r6
   clear r6
   go_wp2_with fail
   refine HAP.out.mono ?_
   clear n0 n1 n2 n3 q0 q1 q2 q3 q4 q5 q6 q7 q8
   rintro e w9 ⟨ya, yc, rfl, hl9, hb9⟩
   obtain ⟨yn, hyn⟩ : ∃ yn, yn = zb y.kids := ⟨_, rfl⟩
   rw [← hyn]
   have e9 := (hb9.block _ (lt_of_heap H8.out.2.2.1)).trans H8.out.2.2.1
   obtain ⟨z0, z1, z2, z3⟩ := zJ e9
   have zf : ∀ j, w9.frozen? ⟨RB, j, none⟩ = false := fun j => frozen_of_row _ _ j _ _ e9
   obtain ⟨V, hV, s1, s2, s3, s4, s5, s6⟩ := zu (u0 := .int .i64 y.id) (u1 := .int .i64 y.kind) (u2 := .string y.text) (u3 := .slice ya yn yc) e9
   have HV := hH (aN hV (aN s1 (aN s2 (aN s3 (aN s4 (aN s5 (aN s6 (aN hl9 (aN hb9 hyn)))))))))
   clear hV s1 s2 s3 s4 s5 s6 hl9 hb9 hyn e9
   go_wp2_with fail
   rw [← HV.out.1]
   obtain ⟨hV, s1, s2, s3, s4, s5, s6, hl9, hb9, hyn⟩ := HV.out
   obtain ⟨hT8, ⟨ys', hK8⟩, e2, hs8, hg1, hbaw, hUB, hgz⟩ := H8.out
   have hRBn : ∀ q, qG (some ⟨g1, 0, none⟩) q → q ≠ RB := fun q hq e => by
    have := HRB.out
    rcases hg1 q hq with h | h
    · have := hbaw q h; omega
    · omega
   have hBRB : BB ≠ RB := by have := HRB.out; have := HK.out.2.2; omega
   have hF2R : F2 RB := by rw [HFD.out]; exact Or.inr rfl
   have hF2F : ∀ q, F q → F2 q := fun q hq => by rw [HFD.out]; exact Or.inl hq
   refine zaZ rfl (i := y.id) (k := y.kind) (x := y.text) (a := ya) (n := yn) (c := yc) (g := RB) s1 ⟨s3.trans (hb9.os.trans hT8.os), s4.trans (hb9.tape.trans hT8.tape), s5.trans (hb9.output.trans hT8.output), by rw [s6]; exact Nat.le_trans hT8.size hb9.size, fun q h1 h2 => (s2 q (by have := HRB.out; omega)).trans ((hb9.block q (nL h1 hT8.size)).trans (hT8.block q h1 h2))⟩ (fun _ => ⟨some ⟨g1, 0, none⟩, c1, ys', ?_, fun q hq => ?_, ?_⟩) (fun h => absurd HZ.out h) rfl (by rw [HZ.out]; rfl)
   · rw [← HY.out.1]
     refine ((hK8.on hb9).kept (by rw [s6]; exact Nat.le_refl _) (fun q h1 h2 => s2 q (fun e => ?_))).weak hF2F
     rcases h2 with h2 | h2 | h2
     · exact hBRB (h2.symm.trans e)
     · exact hRBn q h2 e
     · exact h2 (Or.inl (e ▸ hF2R))
   · rcases hg1 q hq with h | h
     · exact Or.inl h
     · exact Or.inr (by omega)
   · rw [← HY.out.2.1]
     exact ⟨rfl, rfl, rfl, hyn, hl9.1, hl9.2.kept fun q hq => ⟨⟨by rw [s6]; exact hq.1, fun he => hq.2 (he.imp (hF2F q) (fun h => h))⟩, s2 q (fun e => hq.2 (Or.inl (e ▸ hF2R)))⟩⟩
 · have hzb : (ye != 0) = true := by simpa using hz
   have HZ := hH (show ¬ (x.s.on t).2 = 0 by rw [← HY.out.2.2.1]; exact hz)
   clear hz
   have e2 := (H2.out.1.block _ (lt_of_heap HB.out.2.2.2.2)).trans HB.out.2.2.2.2
   rw [← HRB.out] at e2
   obtain ⟨z0, z1, z2, z3⟩ := zJ e2
   have zf : ∀ j, U.frozen? ⟨RB, j, none⟩ = false := fun j => frozen_of_row _ _ j _ _ e2
   obtain ⟨V, hV, s1, s2, s3, s4, s5, s6⟩ := zu (u0 := .int .i64 0) (u1 := .int .i64 0) (u2 := .string ⟨#[]⟩) (u3 := .slice none 0 0) e2
   have HV := hH (aN hV (aN s1 (aN s2 (aN s3 (aN s4 (aN s5 s6))))))
   clear hV s1 s2 s3 s4 s5 s6 e2
   go_wp2_with fail
   rw [← HV.out.1]
   obtain ⟨hV, s1, s2, s3, s4, s5, s6⟩ := HV.out
   exact zaZ rfl (i := 0) (k := 0) (x := ⟨#[]⟩) (a := none) (n := 0) (c := 0) (g := RB) s1 ⟨s3.trans HWU.out.os, s4.trans HWU.out.tape, s5.trans HWU.out.output, by rw [s6]; exact HWU.out.size, fun q h1 h2 => (s2 q (by have := HRB.out; omega)).trans (HWU.out.block q h1)⟩ (fun h => absurd h HZ.out) (fun _ => ⟨s3.trans HWU.out.os, s4.trans HWU.out.tape, s5.trans HWU.out.output, by rw [s6]; exact HWU.out.size, fun q h1 => (s2 q (by have := HRB.out; omega)).trans (HWU.out.block q h1)⟩) rfl (by rw [← HY.out.2.2.1]; rfl)
def goA (t : Tr) : List Sf → Option Tr
 | [] => some t
 | s :: l => if (s.on t).2 = 0 then goA (s.on t).1 l else none
def qy (t : Tr) : List Sf → List Sf
 | [] => []
 | s :: l => s.inv t :: qy (s.on t).1 l
theorem zbi : ∀ {l : List Sf} {t x : Tr} {s : Sf}, goA t l = some x → (s.on x).2 = 0 → goA t (l ++ [s]) = some (s.on x).1
 | [], t, x, s, h, hs => by cases h; simp [goA, hs]
 | r :: l, t, x, s, h, hs => by
   rw [goA] at h
   split at h
   · rename_i h0
     rw [List.cons_append, goA, if_pos h0]
     exact zbi h hs
   · cases h
theorem zas : ∀ {l : List Sf} {k : Nat} {t x : Tr} {s : Sf}, goA t (l.take k) = some x → l[k]? = some s → (s.on x).2 ≠ 0 → goA t l = none
 | [], k, t, x, s, _, hs, _ => by simp at hs
 | r :: l, 0, t, x, s, h, hs, hn => by
   simp at hs; subst hs
   rw [List.take_zero] at h; cases h
   rw [goA, if_neg hn]
 | r :: l, k + 1, t, x, s, h, hs, hn => by
   rw [List.take_succ_cons, goA] at h
   split at h
   · rename_i h0
     rw [goA, if_pos h0]
     exact zas h (by simpa using hs) hn
   · cases h
theorem Ya : ∀ {l : List Sf} {t x : Tr} (s : Sf), goA t l = some x → qy t (l ++ [s]) = qy t l ++ [s.inv x]
 | [], t, x, s, h => by cases h; rfl
 | r :: l, t, x, s, h => by
   rw [goA] at h
   split at h
   · rw [List.cons_append, qy, qy, List.cons_append, Ya s h]
   · cases h
theorem kT : ∀ (l : List Sf) (t : Tr), (qy t l).length = l.length
 | [], _ => rfl
 | s :: l, t => by simp [qy, kT l]
theorem zfg (s : Sf) (t : Tr) (h : (s.on t).2 = 0) : ze (s.on t).1.kids ≤ ze t.kids + q9 s := by
 have hx := (Zl (op := s.op) (id := s.id) (par := s.par) (at_ := s.at_) (tx := s.tx) (x := s.sub) (t := t) (y := (s.on t).1) (by unfold Sf.on at h ⊢; exact Prod.ext rfl h)).1
 unfold q9
 cases hx with
 | ins ho h => have := h (fun _ => true); rw [qj, qj, qj] at this; rw [if_pos ho]; omega
 | del ho q v hq hv h => have := h (fun _ => true); rw [qj, qj, qj] at this; omega
 | mov ho h => have := h (fun _ => true); rw [qj, qj] at this; omega
 | wri ho q u hq hu h =>
   have := h (fun _ => true)
   rw [qj, qj] at this
   simp only [vQ, if_true] at this
   omega
structure zf1 (n : Nat) (t : Tr) : Prop where
 size : ze t.kids + 1 ≤ 250 + n
 ok : okF (spF 1 (zm t))
theorem zfk {n : Nat} {t : Tr} {s : Sf} (hs : yA s) (h : zf1 n t) (h0 : (s.on t).2 = 0) : zf1 (n + q9 s) (s.on t).1 := by
 have hx := Zl (op := s.op) (id := s.id) (par := s.par) (at_ := s.at_) (tx := s.tx) (x := s.sub) (t := t) (y := (s.on t).1) (by unfold Sf.on at h0 ⊢; exact Prod.ext rfl h0)
 exact ⟨by have := zfg s t h0; have := h.size; omega, hx.1.ok h.ok hs.ok hs.tx⟩
theorem zcq {t : Tr} (h : okF (spF 1 (zm t))) : ∀ i ∈ idT t, (Lit.int .i64 i).wf = true := fun i hi => by
 have hz : yw (QJ i) t ≠ 0 := by
  rw [zci]
  intro h0
  have h1 := (Yv i (zm t)).1
  rw [zae] at h1
  have h2 : i ∈ kV (zm t) := by
   rw [zm, jD]
   rw [idT] at hi
   rcases List.mem_cons.1 hi with rfl | hi
   · exact List.mem_cons_self ..
   · have e : idF t.kids = kV t.kids := zb8 t.kids
     rw [e] at hi
     exact List.mem_cons_of_mem _ (List.mem_append_left _ hi)
  have := h1 h2
  omega
 obtain ⟨y, hy, hp⟩ := (YE (QJ i) t).2 (by omega)
 have h3 := (h y hy).2
 simp only [QJ, decide_eq_true_eq] at hp
 rw [← hp]; exact h3
theorem zeB {s : Sf} (h : yA s) : zdV s := ⟨h.op, zcq h.ok, by have := h.size; omega⟩
def FIb (Y0 X : World) (q : Nat) : Prop := Y0.heap.size ≤ q ∧ q < X.heap.size + 7
def ZY (Y0 X : World) (BB : Nat) (V : World) : Prop := Below Y0.heap.size Y0 V ∧ X.heap.size ≤ V.heap.size ∧ ∀ q, q < X.heap.size → q ≠ BB → V.heap[q]? = X.heap[q]?
def InJ (Y0 X : World) (BB : Nat) (t : Tr) (l : List Sf) (k : Nat) (v : NV) (V : World) : Prop := ZY Y0 X BB V ∧ ∃ x ba bc ys, goA t (l.take k) = some x ∧ zf1 (zV (l.take k)) x ∧ zP V (FIb Y0 X) Y0.heap.size BB ba bc (qy t (l.take k)) ys ∧ (∀ q, qG ba q → X.heap.size + 7 ≤ q) ∧ IsN V (Ex (FIb Y0 X) ba) v x
def InX (Y0 X : World) (BB : Nat) (t : Tr) (l : List Sf) (k : Nat) (v : NV) (n : Int) (V : World) : Prop := ZY Y0 X BB V ∧ goA t l = none ∧ ∃ ba m bc, V.heap[BB]? = some (.cells #[.slice ba m bc] 22 (0, 0))
theorem ZY.own {Y0 X : World} {BB : Nat} {V V' : World} (h : ZY Y0 X BB V) (hY : Y0.heap.size ≤ X.heap.size) (ht : zi V V' (fun x => X.heap.size ≤ x ∧ x < X.heap.size + 7)) : ZY Y0 X BB V' := by
 obtain ⟨h1, h2, h3⟩ := h
 exact ⟨⟨ht.os.trans h1.os, ht.tape.trans h1.tape, ht.output.trans h1.output, Nat.le_trans h1.size ht.size, fun q hq => (ht.block q (nL hq h1.size) (by omega)).trans (h1.block q hq)⟩, Nat.le_trans h2 ht.size, fun q hq hn => (ht.block q (by omega) (by omega)).trans (h3 q hq hn)⟩
theorem zfh {Y0 X : World} {BB : Nat} {t : Tr} {rs : List RH} (hY : Below Y0.heap.size Y0 X) (hB : Y0.heap.size ≤ BB ∧ BB < X.heap.size) (h : ∀ x ∈ flat rs, qE Y0 x ∧ yA x.s) (hI : ∀ x ∈ flat rs, QR x.s) (ho : qd (steps (flat rs)) = true) : DoN Tryz.prog 65 #[.pointer (some ⟨BB, 0, none⟩)] X.heap.size (fun q => q < X.heap.size ∧ q ≠ BB) (flat rs) (InJ Y0 X BB t (steps (flat rs))) (InX Y0 X BB t (steps (flat rs))) := by
 rw [qB] at ho
 refine ⟨enters_of Tryz.func65 (by kernel_rfl) rfl, ?_, ?_, ?_⟩
 · rintro k v V V' ⟨h1, x, ba, bc, ys, h2, h3, h4, h5, h6, h7, h8, h9, h10⟩ ht
   refine ⟨h1.own hY.size ht, x, ba, bc, ys, h2, h3, h4.kept ht.size (fun q hq hn => ht.block q hq ?_), h5, h6, h7, h8, h9, h10.1, h10.2.kept fun q hq => ⟨⟨nL hq.1 ht.size, hq.2⟩, ht.block q hq.1 (fun hn => hq.2 (Or.inl ⟨by have := hY.size; omega, hn.2⟩))⟩⟩
   rintro ⟨a1, a2⟩
   rcases hn with hn | hn | hn
   · omega
   · have := h5 q hn; omega
   · exact hn (Or.inl ⟨by have := hY.size; omega, a2⟩)
 · rintro k v n V V' ⟨h1, h2, ba, m, bc, h3⟩ ht
   exact ⟨h1.own hY.size ht, h2, ba, m, bc, (ht.block _ (lt_of_heap h3) (by omega)).trans h3⟩
 · rintro k x v W hx hW ⟨hk, y, ba, bc, ys, hy, hwy, hbk, hba, h4, h5, h6, h7, h8⟩
   obtain ⟨hl, hf⟩ := h x (List.mem_of_getElem? hx)
   have hxs := yD hx
   have hkl := (List.getElem?_eq_some_iff.1 hxs).1
   have hq := qR hxs
   have hq2 := jZ (steps (flat rs)) k
   have hcl := zdy W Y0 (FIb Y0 X) Y0.heap.size BB y x v.a ba v.n v.c bc _ ys (fun q hq => by have := hq.2; omega) ⟨hB.1, by omega⟩ hbk (by rw [kT, List.length_take]; omega) h7 h8 (zU.n hl (Below.refl _ _) (fun q hq => by
    rcases hq with hq | hq
    · exact hq.1
    · have := hba q hq; have := hY.size; omega)) hk.1 (by have := hwy.size; omega) (zcq hwy.ok) (zeB hf) (hI x (List.mem_of_getElem? hx))
   rw [show v.v = .agg #[.int .i64 y.id, .int .i64 y.kind, .string y.text, .slice v.a v.n v.c] by rw [NV.v, h4, h5, h6]]
   refine hcl.mono ?_
   rintro e W' ⟨v', rfl, hT, hyes, hno⟩
   have hkeep : ∀ q, ((q < X.heap.size ∧ q ≠ BB) ∨ (X.heap.size ≤ q ∧ q < X.heap.size + 7)) → W'.heap[q]? = W.heap[q]? := fun q hq => hT.block q (by omega) (fun hn => by
    rcases hn with hn | hn
    · omega
    · have := hba q hn; omega)
   have hKW : ZY Y0 X BB W' := ⟨⟨hT.os.trans hk.1.os, hT.tape.trans hk.1.tape, hT.output.trans hk.1.output, Nat.le_trans hk.1.size hT.size, fun q hq => (hkeep q (Or.inl (by have := hY.size; omega))).trans (hk.1.block q hq)⟩, Nat.le_trans hk.2.1 hT.size, fun q hq hn => (hkeep q (Or.inl ⟨hq, hn⟩)).trans (hk.2.2 q hq hn)⟩
   refine ⟨v', _, rfl, hT.size, hkeep, fun hm => ?_, fun hm => ?_⟩
   · obtain ⟨ba', bc', ys', k1, k2, k3⟩ := hyes hm
     refine ⟨hKW, _, ba', bc', ys', ?_, ?_, ?_, fun q hq => ?_, k3⟩
     · rw [List.take_add_one, hxs]; exact zbi hy hm
     · rw [hq]; exact zfk hf hwy hm
     · rw [List.take_add_one, hxs]
       show zP _ _ _ _ _ _ (qy t ((steps (flat rs)).take k ++ [x.s])) _
       rw [Ya _ hy]; exact k1
     · rcases k2 q hq with h | h
       · exact hba q h
       · omega
   · exact ⟨hKW, zas hy hxs hm, ba, _, bc, ((hno hm).block _ (lt_of_heap hbk.box)).trans hbk.box⟩
def J5 (Y0 : World) (G : Nat → Prop) (BB : Nat) (t : Tr) (l : List Sf) (n : Int) (W : World) : Prop := (n = 0 ∧ ∃ x ba bc ys, goA t l = some x ∧ zP W G Y0.heap.size BB ba bc (qy t l) ys) ∨ (n ≠ 0 ∧ goA t l = none ∧ ∃ ba m bc, W.heap[BB]? = some (.cells #[.slice ba m bc] 22 (0, 0)))
theorem YA {Y0 X : World} {BB NB R : Nat} {t : Tr} {ta la : Option Addr} {tn tc c : Nat} {vs : List SV} (hY : Below Y0.heap.size Y0 X) (hB : Y0.heap.size ≤ BB ∧ BB < X.heap.size) (hNB : BB ≠ NB) (hR : BB ≠ R) (hrow : Row Y0 la vs) (hI : ∀ x ∈ vs, QR x.s) (ho : qd (steps vs) = true) (h1 : X.heap[NB]? = some (.cells #[.slice (some ⟨R, 0, none⟩) 1 1] 91 (0, 0))) (h2 : X.heap[R]? = some (.cells #[.slice la vs.length c] 22 (0, 0))) (hbb : X.heap[BB]? = some (.cells #[.slice none 0 0] 22 (0, 0))) (htn : tn = zb t.kids) (hw : Way t) (hlt : zU Y0 t.kids ta tc) :
 Calls Tryz.prog 39 #[.agg #[.int .i64 t.id, .int .i64 t.kind, .string t.text, .slice ta tn tc], .func (.func 53) #[] #[.pointer (some ⟨NB, 0, none⟩)], .func (.func 65) #[] #[.pointer (some ⟨BB, 0, none⟩)]] X fun e W => ∃ (v : NV) (k : Nat) (n : Int), e = .returned (.tuple #[v.v, .int .i64 (k : Int), .int .i64 n]) ∧ ZY Y0 X BB W ∧ J5 Y0 (fun q => Y0.heap.size ≤ q ∧ q < X.heap.size) BB t (steps vs) n W := by
 have hD := zfh (t := t) (rs := [⟨la, c, vs⟩]) hY hB (fun x hx => by rw [qJ] at hx; exact ⟨hrow.lies x hx, hrow.fit x hx⟩) (fun x hx => by rw [qJ] at hx; exact hI x hx) (by rw [qJ]; exact ho)
 have hJ : jr X NB R [⟨la, c, vs⟩] (fun q => q < X.heap.size ∧ q ≠ BB) := ⟨h1, h2, ⟨lt_of_heap h1, fun e => hNB e.symm⟩, ⟨lt_of_heap h2, fun e => hR e.symm⟩, fun _ hy => hy.1, fun i r hr => by
  have : r = ⟨la, c, vs⟩ := by
   cases i with
   | zero => simp at hr; exact hr.symm
   | succ i => simp at hr
  subst this
  exact hrow.cells.kept fun y hy => ⟨⟨nL hy hY.size, by omega⟩, hY.block y hy⟩⟩
 have hf := Q5 X NB R ⟨t.id, t.kind, t.text, ta, tn, tc⟩ hD hJ (by simp) (fun r hr => by rw [List.mem_singleton] at hr; subst hr; exact hrow.len) (by rw [qJ]; have := hrow.len; omega) ⟨⟨hY, Nat.le_refl _, fun _ _ _ => rfl⟩, t, none, 0, [], rfl, ⟨by have := hw.size; simp [zV]; omega, hw.ok⟩, ⟨hbb, World.ownsRow_nil _ _ _ _, rfl, hY.size⟩, fun q hq => (by obtain ⟨d, e, _⟩ := hq; cases e), rfl, rfl, rfl, htn, zU.n hlt hY (fun q hq => by
  rcases hq with hq | hq
  · exact hq.1
  · obtain ⟨d, e, _⟩ := hq; cases e)⟩
 rw [qJ] at hf
 refine hf.mono ?_
 rintro e W ⟨k, v, n, rfl, hh⟩
 rcases hh with ⟨rfl, rfl, hk, x, ba, bc, ys, h3, h4, h5, h6, _⟩ | ⟨hn, hk, h3, h4, h5⟩
 · have e1 : (steps vs).take vs.length = steps vs := by rw [List.take_of_length_le (by rw [zD]; exact Nat.le_refl _)]
   rw [e1] at h3 h5
   exact ⟨v, _, 0, rfl, hk, .inl ⟨rfl, x, ba, bc, ys, h3, h5.weak fun q hq => ⟨hq.1, by have := hq.2; omega⟩⟩⟩
 · exact ⟨v, _, n, rfl, h3, .inr ⟨hn, h4, h5⟩⟩
end Go.Proofs.YtonapijgfalpaaaGreat
