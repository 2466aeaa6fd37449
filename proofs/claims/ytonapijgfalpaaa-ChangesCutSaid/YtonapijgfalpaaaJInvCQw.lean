/-
  .
-/
import Derived.Deep.Cut
import Derived.Deep.AppendLies
import Derived.Test.YtonapijgfalpaaaJApplyQw
import Derived.Test.YtonapijgfalpaaaILawRQw
namespace Go.Proofs.Ytonapijgfalpaaa
open Go.RowKit Go.Shelf
set_option linter.unusedVariables false
set_option linter.unusedSimpArgs false
def blkA (a : Option Addr) (q : Nat) : Prop := ∃ d, a = some d ∧ d.block = q
theorem blkA_own {a : Option Addr} {n c q : Nat} : some q = (Value.slice a n c).ownBlock ↔ blkA a q := own_blk
def Ex (F : Nat → Prop) (a : Option Addr) (q : Nat) : Prop := F q ∨ blkA a q
structure BacksAt (w : World) (F : Nat → Prop) (base BB : Nat) (ba : Option Addr) (bc : Nat) (bs : List Sf) (ys : List Value) : Prop where
 box : w.heap[BB]? = some (.cells #[.slice ba bs.length bc] 25 (0, 0))
 row : w.ownsRow base 47 9 (.slice ba bs.length bc) bs.length ys
 lies : BRow w (Ex F ba) bs ys
 base : base ≤ w.heap.size
theorem BacksAt.kept {w X : World} {F : Nat → Prop} {base BB : Nat} {ba : Option Addr} {bc : Nat} {bs : List Sf} {ys : List Value} (h : BacksAt w F base BB ba bc bs ys) (hs : w.heap.size ≤ X.heap.size) (hk : ∀ q, q < w.heap.size → (q = BB ∨ blkA ba q ∨ ¬ Ex F ba q) → X.heap[q]? = w.heap[q]?) : BacksAt X F base BB ba bc bs ys :=
 ⟨(hk _ (lt_of_heap h.box) (Or.inl rfl)).trans h.box, owns_kept h.row (fun g cur hc hg => hk g (lt_of_some hc) (Or.inr (Or.inl (blkA_own.1 hg.symm)))), h.lies.kept fun f a c hl => ⟨hl.1, hl.2.kept fun q hq => ⟨⟨Nat.lt_of_lt_of_le hq.1 hs, hq.2⟩, hk q hq.1 (Or.inr (Or.inr hq.2))⟩⟩, Nat.le_trans h.base hs⟩
theorem BacksAt.on {w X : World} {F : Nat → Prop} {base BB : Nat} {ba : Option Addr} {bc : Nat} {bs : List Sf} {ys : List Value} (h : BacksAt w F base BB ba bc bs ys) (hb : Below w.heap.size w X) : BacksAt X F base BB ba bc bs ys := h.kept hb.size (fun q hq _ => hb.block q hq)
theorem BacksAt.weak {w : World} {F F' : Nat → Prop} {base BB : Nat} {ba : Option Addr} {bc : Nat} {bs : List Sf} {ys : List Value} (h : BacksAt w F' base BB ba bc bs ys) (hF : ∀ q, F q → F' q) : BacksAt w F base BB ba bc bs ys :=
 ⟨h.box, h.row, h.lies.kept fun f a c hl => hl.weak fun q hq => hq.imp (hF q) (fun h => h), h.base⟩
theorem LiesN.moreF {w : World} {F : Nat → Prop} {a : Option Addr} {R : Nat} {f : Fo} {b : Option Addr} {c : Nat} (h : LiesN w (Ex F a) f b c) (hR : w.heap.size ≤ R) : LiesN w (Ex (fun q => F q ∨ q = R) a) f b c :=
 ⟨h.1, h.2.kept fun q hq => ⟨⟨hq.1, fun he => by
  rcases he with (he | he) | he
  · exact hq.2 (Or.inl he)
  · have := hq.1; omega
  · exact hq.2 (Or.inr he)⟩, rfl⟩⟩
theorem BacksAt.moreF {w : World} {F : Nat → Prop} {base BB R : Nat} {ba : Option Addr} {bc : Nat} {bs : List Sf} {ys : List Value} (h : BacksAt w F base BB ba bc bs ys) (hR : w.heap.size ≤ R) : BacksAt w (fun q => F q ∨ q = R) base BB ba bc bs ys :=
 ⟨h.box, h.row, h.lies.kept fun f a c hl => hl.moreF hR, h.base⟩
def InvFn (s : Sf) : Prop := ∀ (E : Nat → Prop) (X0 X1 X : World) (t : Tr) (ta sa : Option Addr) (tc sc : Nat), (∀ q, E q → q < X.heap.size) → LiesN X0 E t.kids ta tc → LiesN X1 E s.sub.kids sa sc → Below X0.heap.size X0 X → Below X1.heap.size X1 X → foSize t.kids + 1 ≤ 2000 → (∀ i ∈ idT t, (Lit.int .i64 i).wf = true) →
 Calls Try.prog 80 #[.agg #[.int .i64 t.id, .int .i64 t.kind, .string t.text, .slice ta (foLen t.kids) tc], .agg #[.int .i8 s.op, .int .i64 s.id, .int .i64 s.par, .int .i64 s.at_, .string s.tx, .int .i64 s.sub.id, .int .i64 s.sub.kind, .string s.sub.text, .slice sa (foLen s.sub.kids) sc]] X (StepN E (s.inv t) (s.on t).2 X)
def InvcC (w : World) (F : Nat → Prop) (base BB : Nat) (ba : Option Addr) (bs : List Sf) (s : Sf) (t : Tr) (e : Ending) (W : World) : Prop := ∃ (v : NV), e = .returned (.tuple #[v.v, .int .i64 (s.on t).2]) ∧ Touched w W (fun q => q = BB ∨ blkA ba q) ∧ ((s.on t).2 = 0 → ∃ ba' bc' ys', BacksAt W F base BB ba' bc' (bs ++ [s.inv t]) ys' ∧ (∀ q, blkA ba' q → blkA ba q ∨ w.heap.size ≤ q) ∧ IsN W (Ex F ba') v (s.on t).1) ∧ ((s.on t).2 ≠ 0 → Below w.heap.size w W)
theorem invc_end {fn : Func} (h : fn.results = #[.cell 5 24, .tmp 6]) {w W : World} {F : Nat → Prop} {base BB : Nat} {ba : Option Addr} {bs : List Sf} {s : Sf} {t : Tr} {tmps : Array Value} {g : Nat} {i k : Int} {x : ByteArray} {a : Option Addr} {n c : Nat} (hz : W.heap[g]? = some (.cells #[.int .i64 i, .int .i64 k, .string x, .slice a n c] 24 (0, 0))) (ht : Touched w W (fun q => q = BB ∨ blkA ba q)) (hy : (s.on t).2 = 0 → ∃ ba' bc' ys', BacksAt W F base BB ba' bc' (bs ++ [s.inv t]) ys' ∧ (∀ q, blkA ba' q → blkA ba q ∨ w.heap.size ≤ q) ∧ IsN W (Ex F ba') ⟨i, k, x, a, n, c⟩ (s.on t).1) (hno : (s.on t).2 ≠ 0 → Below w.heap.size w W)
 (h1 : tmps.getD 5 undef = .pointer (some ⟨g, 0, none⟩)) (h2 : tmps.getD 6 undef = .int .i64 (s.on t).2) : bodyPost Try.prog fn (InvcC w F base BB ba bs s t) .ret { tmps, defers := [] } W := by
 refine bodyPost_ret (results_cellT h tmps W g 24 _ _ _ (.int .i64 (s.on t).2) h1 hz Try.underlying24 rfl (by kernel_rfl) h2) rfl ?_
 exact ⟨⟨i, k, x, a, n, c⟩, rfl, ht, hy, hno⟩
set_option maxRecDepth 100000 in
set_option maxHeartbeats 8000000 in
theorem invc_any (w X0 : World) (F : Nat → Prop) (base BB : Nat) (t : Tr) (x : SV) (ta ba : Option Addr) (tn tc bc : Nat) (bs : List Sf) (ys : List Value) (hF : ∀ q, F q → q < w.heap.size) (hFB : F BB) (hbk : BacksAt w F base BB ba bc bs ys) (hlen : bs.length ≤ 1000) (htn : tn = foLen t.kids) (hlt : LiesN w (Ex F ba) t.kids ta tc) (hlx : LiesN X0 (Ex F ba) x.s.sub.kids x.a x.c) (hb0 : Below X0.heap.size X0 w) (hz : foSize t.kids + 1 ≤ 2000) (hok : ∀ i ∈ idT t, (Lit.int .i64 i).wf = true) (ho : SfOk x.s) (hfn : InvFn x.s) :
 Calls Try.prog 192 #[.agg #[.int .i64 t.id, .int .i64 t.kind, .string t.text, .slice ta tn tc], x.v, .pointer (some ⟨BB, 0, none⟩)] w (InvcC w F base BB ba bs x.s t) := by
 obtain ⟨sn, hsn⟩ : ∃ sn, sn = foLen x.s.sub.kids := ⟨_, rfl⟩
 have hxv : x.v = .agg #[.int .i8 x.s.op, .int .i64 x.s.id, .int .i64 x.s.par, .int .i64 x.s.at_, .string x.s.tx, .int .i64 x.s.sub.id, .int .i64 x.s.sub.kind, .string x.s.sub.text, .slice x.a sn x.c] := by rw [hsn]; rfl
 rw [hxv]
 obtain ⟨B, hB⟩ : ∃ B, B = allocs w [.cells #[.int .i64 t.id, .int .i64 t.kind, .string t.text, .slice ta tn tc] 24, .cells #[.int .i8 x.s.op, .int .i64 x.s.id, .int .i64 x.s.par, .int .i64 x.s.at_, .string x.s.tx, .int .i64 x.s.sub.id, .int .i64 x.s.sub.kind, .string x.s.sub.text, .slice x.a sn x.c] 47, .cells #[.int .i64 0, .int .i64 0, .string ⟨#[]⟩, .slice none 0 0] 24] := ⟨_, rfl⟩
 have hb : Below w.heap.size w B := by rw [hB]; exact allocs_below _ _
 have hsz : B.heap.size = w.heap.size + 3 := by rw [hB]; exact allocs_size _ _
 have e0 : B.heap[w.heap.size]? = some (.cells #[.int .i64 t.id, .int .i64 t.kind, .string t.text, .slice ta tn tc] 24 (0, 0)) := by rw [hB]; exact allocs_at _ _ 0 _ rfl
 have e1 : B.heap[w.heap.size + 1]? = some (.cells #[.int .i8 x.s.op, .int .i64 x.s.id, .int .i64 x.s.par, .int .i64 x.s.at_, .string x.s.tx, .int .i64 x.s.sub.id, .int .i64 x.s.sub.kind, .string x.s.sub.text, .slice x.a sn x.c] 47 (0, 0)) := by rw [hB]; exact allocs_at _ _ 1 _ rfl
 have e2 : B.heap[w.heap.size + 1 + 1]? = some (.cells #[.int .i64 0, .int .i64 0, .string ⟨#[]⟩, .slice none 0 0] 24 (0, 0)) := by rw [hB]; exact allocs_at _ _ 2 _ rfl
 have hE : ∀ q, Ex F ba q → q < w.heap.size := fun q hq => by
  rcases hq with hq | hq
  · exact hF q hq
  · exact (owns_bounds hbk.row (blkA_own.2 hq).symm).2
 obtain ⟨RB, hRB⟩ : ∃ RB, RB = w.heap.size + 1 + 1 := ⟨_, rfl⟩
 obtain ⟨F2, hF2d⟩ : ∃ F2 : Nat → Prop, F2 = fun q => F q ∨ q = RB := ⟨_, rfl⟩
 have hF2 : ∀ q, F2 q → q < B.heap.size := fun q hq => by
  rw [hF2d] at hq
  rcases hq with hq | hq
  · have := hF q hq; omega
  · omega
 have hFB2 : F2 BB := by rw [hF2d]; exact Or.inl hFB
 have hlt2 : LiesN B (Ex F2 ba) t.kids ta tc := by rw [hF2d]; exact (hlt.moreF (by omega)).on hb
 have hlx2 : LiesN B (Ex F2 ba) x.s.sub.kids x.a x.c := by
  rw [hF2d]
  exact ((hlx.on hb0).moreF (by omega)).on hb
 have hbk2 : BacksAt B F2 base BB ba bc bs ys := by rw [hF2d]; exact (hbk.moreF (by omega)).on hb
 have hiv := hfn (Ex F2 ba) B B B t ta x.a tc x.c (fun q hq => by
  rcases hq with hq | hq
  · exact hF2 q hq
  · have := hE q (Or.inr hq); omega) hlt2 hlx2 (Below.refl _ _) (Below.refl _ _) hz hok
 clear hfn
 rw [← htn, ← hsn] at hiv
 obtain ⟨b, hbq⟩ : ∃ b, b = x.s.inv t := ⟨_, rfl⟩
 obtain ⟨y, hy⟩ : ∃ y, y = (x.s.on t).1 := ⟨_, rfl⟩
 obtain ⟨ye, hye⟩ : ∃ ye, ye = (x.s.on t).2 := ⟨_, rfl⟩
 rw [← hbq, ← hye] at hiv
 have HIV := Lib.hid hiv
 have HB := Lib.hid (And.intro hb (And.intro hsz (And.intro e0 (And.intro e1 e2))))
 have HBE := Lib.hid hB
 have HP := Lib.hid (And.intro hF2 (And.intro hFB2 (And.intro hE (And.intro htn (And.intro hlt2 (And.intro hlx2 (And.intro hb (And.intro hz (And.intro hok ho)))))))))
 have HFD := Lib.hid hF2d
 have HK := Lib.hid (And.intro hbk2 (And.intro hlen (lt_of_heap hbk.box)))
 have HY := Lib.hid (And.intro hbq (And.intro hy (And.intro hye hsn)))
 obtain ⟨n0, n1, n2, n3⟩ := box4 e0
 obtain ⟨m0, m1, m2, m3, m4, m5, m6, m7, m8⟩ := box9 e1
 have HRB := Lib.hid hRB
 clear hF2 hFB2 hlt2 hlx2 hbk2 hF2d hF hFB hbk hlen htn hlt hlx hb0 hz hok ho hxv hb hsz e0 e1 e2 hE hiv hbq hy hye hsn hB
 go_enter Try.func192, Try.ntmps192
 go_upto_region 1 with fail
 change Code.wp _ _ _ _ (allocs w [.cells #[.int .i64 t.id, .int .i64 t.kind, .string t.text, .slice ta tn tc] 24, .cells #[.int .i8 x.s.op, .int .i64 x.s.id, .int .i64 x.s.par, .int .i64 x.s.at_, .string x.s.tx, .int .i64 x.s.sub.id, .int .i64 x.s.sub.kind, .string x.s.sub.text, .slice x.a sn x.c] 47, .cells #[.int .i64 0, .int .i64 0, .string ⟨#[]⟩, .slice none 0 0] 24])
 rw [← HBE.out, ← hRB]
 clear hRB HBE
 go_wp2_with fail
 clear n0 n1 n2 n3 m0 m1 m2 m3 m4 m5 m6 m7 m8
 refine HIV.out.mono ?_
 rintro e w2 ⟨va, vc, rfl, hlb, hb2⟩
 obtain ⟨bn, hbn⟩ : ∃ bn, bn = foLen b.sub.kids := ⟨_, rfl⟩
 rw [← hbn]
 obtain ⟨U, hU⟩ : ∃ U, U = w2.alloc (.cells #[.int .i8 b.op, .int .i64 b.id, .int .i64 b.par, .int .i64 b.at_, .string b.tx, .int .i64 b.sub.id, .int .i64 b.sub.kind, .string b.sub.text, .slice va bn vc] 47) := ⟨_, rfl⟩
 have hbU : Below w2.heap.size w2 U := by rw [hU]; exact box_below _ _
 have hsU : U.heap.size = w2.heap.size + 1 := by rw [hU]; simp
 have hnU : U.heap[w2.heap.size]? = some (.cells #[.int .i8 b.op, .int .i64 b.id, .int .i64 b.par, .int .i64 b.at_, .string b.tx, .int .i64 b.sub.id, .int .i64 b.sub.kind, .string b.sub.text, .slice va bn vc] 47 (0, 0)) := by rw [hU]; exact heap_alloc_new _ _
 have HU := Lib.hid hU
 have hBU : Below B.heap.size B U := hb2.trans (hbU.mono hb2.size)
 have H2 := Lib.hid (And.intro hBU (And.intro (hlb.on hbU) (And.intro hsU (And.intro hnU hb2.size))))
 have HBN := Lib.hid hbn
 obtain ⟨sb, hsb⟩ : ∃ sb, sb = w2.heap.size := ⟨_, rfl⟩
 clear hU hbU hsU hnU hlb hb2 HIV hbn hBU
 go_upto_region 2 with fail
 change Code.wp _ _ _ _ (w2.alloc (.cells #[.int .i8 b.op, .int .i64 b.id, .int .i64 b.par, .int .i64 b.at_, .string b.tx, .int .i64 b.sub.id, .int .i64 b.sub.kind, .string b.sub.text, .slice va bn vc] 47))
 rw [← HU.out, ← hsb]
 rw [← hsb] at H2
 clear hsb HU
 have HWU := Lib.hid (HB.out.1.trans (H2.out.1.mono HB.out.1.size))
 by_cases hz : ye = 0
 · have hzb : (ye != 0) = false := by simpa using hz
   have HZ := Lib.hid (show (x.s.on t).2 = 0 by rw [← HY.out.2.2.1]; exact hz)
   clear hz
   have kU := HK.out.1.on H2.out.1
   obtain ⟨k, hk⟩ : ∃ k, k = bs.length := ⟨_, rfl⟩
   have hbx := kU.box
   have hrow := kU.row
   rw [← hk] at hbx hrow
   have hk1 : k ≤ 1000 := by rw [hk]; exact HK.out.2.1
   have c0 : U.cell? ⟨BB, 0, none⟩ = some (.slice ba k bc) := by rw [cell_of_row _ _ 0 _ _ _ hbx]; rfl
   obtain ⟨m0, m1, m2, m3, m4, m5, m6, m7, m8⟩ := box9 H2.out.2.2.2.1
   obtain ⟨i1, z1, hi1, hy0, hy1, hy2, hy3⟩ := info_wide Try.infoStI
   have HI1 := Lib.hid (And.intro hi1 (And.intro hy0 (And.intro hy1 (And.intro hy2 hy3))))
   have HRW := Lib.hid (And.intro hrow kU.base)
   have HKK := Lib.hid hk
   have HBX := Lib.hid hbx
   clear hi1 hy0 hy1 hy2 hy3 hrow kU hk hbx
   go_upto_region 4 with fail
   go_upto_region 5 with (at_builtin; refine wpList_append_lies _ rfl (.tmp 19) (.tmp 21) _ rfl base 47 i1 z1 9 104 Try.underlying25 HI1.out.1 HI1.out.2.1 HI1.out.2.2.1 HI1.out.2.2.2.1 HI1.out.2.2.2.2 (by omega) (.slice ba k bc) k ys rfl (HRW.out.1.alloc _) ⟨U.heap.size, 0, none⟩ 1 1 [.int .i8 b.op, .int .i64 b.id, .int .i64 b.par, .int .i64 b.at_, .string b.tx, .int .i64 b.sub.id, .int .i64 b.sub.kind, .string b.sub.text, .slice va bn vc] rfl rfl (World.news_of_block (cs := #[.int .i8 b.op, .int .i64 b.id, .int .i64 b.par, .int .i64 b.at_, .string b.tx, .int .i64 b.sub.id, .int .i64 b.sub.kind, .string b.sub.text, .slice va bn vc]) (t := 47) (fr := (0, 0)) (heap_alloc_new U _)) (by simp [Value.oneCell']) (by omega) (by unfold maxLen; omega) (by omega) (by have := HRW.out.2; simp; omega) (U.heap.size + 1) (by simp) ?_; intro g1 c1 W7 hown7 hgrow7 hat7 hlt7; have H7 := Lib.hid (And.intro hown7 (And.intro hgrow7 hat7)); clear hown7 hgrow7 hat7 hlt7; have hB7 : W7.heap[BB]? = some (.cells #[.slice ba k bc] 25 (0, 0)) := (H7.out.2.1.block BB (by rw [World.size_alloc]; have := lt_of_heap HBX.out; omega) (fun e => by obtain ⟨d, hd⟩ := owns_type HRW.out.1 e.symm; exact absurd (ty_ne HBX.out hd) (by decide))).trans ((Below.heap_alloc _ _ _ (lt_of_heap HBX.out)).trans HBX.out); have b7 : W7.cell? ⟨BB, 0, none⟩ = some (.slice ba k bc) := (by rw [cell_of_row _ _ 0 _ _ _ hB7]; rfl); have f7 : W7.frozen? ⟨BB, 0, none⟩ = false := frozen_of_row _ _ 0 _ _ hB7; have HB7 := Lib.hid hB7; clear hB7)
   have hold7 : ∀ q, q < U.heap.size → ¬ blkA ba q → W7.heap[q]? = U.heap[q]? := fun q h1 h2 => (H7.out.2.1.block q (by rw [World.size_alloc]; omega) (fun e => h2 (blkA_own.1 e))).trans (Below.heap_alloc _ _ _ h1)
   have hs7 := H7.out.2.1.size
   rw [World.size_alloc] at hs7
   obtain ⟨W8, hW8, r1, r2, r3, r4, r5, r6⟩ := one_set (i := 0) (u := .slice (some ⟨g1, 0, none⟩) (k + 1) c1) HB7.out
   have hold8 : ∀ q, q < U.heap.size → q ≠ BB → ¬ blkA ba q → W8.heap[q]? = U.heap[q]? := fun q h1 h2 h3 => (r2 q h2).trans (hold7 q h1 h3)
   have hUB : w.heap.size + 3 ≤ U.heap.size := by have := H2.out.1.size; have := HB.out.2.1; omega
   have hBBw : BB < w.heap.size := HK.out.2.2
   have hbaw : ∀ q, blkA ba q → q < w.heap.size := fun q hq => HP.out.2.2.1 q (Or.inr hq)
   have hg1 : ∀ q, blkA (some ⟨g1, 0, none⟩) q → blkA ba q ∨ q = U.heap.size + 1 := fun q hq => by
    obtain ⟨d, e, hd⟩ := hq
    cases e
    simp only at hd
    subst hd
    rcases H7.out.2.2 with h | h
    · exact Or.inl (blkA_own.1 h.symm)
    · exact Or.inr h
   have hgz : ∀ q, blkA (some ⟨g1, 0, none⟩) q → q < W7.heap.size := fun q hq => (owns_bounds H7.out.1 (blkA_own.2 hq).symm).2
   have hEE : ∀ {f a c}, LiesN U (Ex F2 ba) f a c → LiesN W8 (Ex F2 (some ⟨g1, 0, none⟩)) f a c := fun {f a c} h => ⟨h.1, h.2.kept fun q hq => by
    have h1 : ¬ F2 q := fun h => hq.2 (Or.inl h)
    have h2 : ¬ blkA ba q := fun h => hq.2 (Or.inr h)
    have h3 : q ≠ BB := fun e => h1 (e ▸ HP.out.2.1)
    refine ⟨⟨by rw [r6]; have := hq.1; omega, fun he => ?_⟩, hold8 q hq.1 h3 h2⟩
    rcases he with he | he
    · exact h1 he
    · rcases hg1 q he with h | h
      · exact h2 h
      · have := hq.1; omega⟩
   have hT8 : Touched w W8 (fun q => q = BB ∨ blkA ba q) := ⟨r3.trans (H7.out.2.1.os.trans HWU.out.os), r4.trans (H7.out.2.1.tape.trans HWU.out.tape), r5.trans (H7.out.2.1.output.trans HWU.out.output), by rw [r6]; have := HWU.out.size; omega, fun q h1 h2 => (hold8 q (by have := HWU.out.size; omega) (fun e => h2 (Or.inl e)) (fun e => h2 (Or.inr e))).trans (HWU.out.block q h1)⟩
   have hw8 : ∀ q, q < U.heap.size → w.heap.size ≤ q → W8.heap[q]? = U.heap[q]? := fun q h1 h2 => hold8 q h1 (by omega) (fun h => by have := hbaw q h; omega)
   have kU := HK.out.1.on H2.out.1
   have hK8 : ∃ ys', BacksAt W8 F2 base BB (some ⟨g1, 0, none⟩) c1 (bs ++ [b]) ys' := by
    refine ⟨_, ⟨?_, ?_, (BRow.snoc (E := Ex F2 (some ⟨g1, 0, none⟩)) (t := b) (a := va) (c := vc) (hEE H2.out.2.1) (kU.lies.kept fun f a c h => hEE h)), by rw [r6]; have := HRW.out.2; omega⟩⟩
    · rw [r1, List.length_append, List.length_singleton, ← HKK.out]; simp
    · rw [List.length_append, List.length_singleton, ← HKK.out]
      have h := H7.out.1
      rw [HBN.out] at h
      exact owns_kept h (fun q cur hc hq => r2 q (fun e => by
       rw [e, HB7.out] at hc
       cases hc))
   have e0 : W8.heap[w.heap.size]? = some (.cells #[.int .i64 t.id, .int .i64 t.kind, .string t.text, .slice ta tn tc] 24 (0, 0)) := (hw8 _ (by omega) (by omega)).trans ((H2.out.1.block _ (by have := HB.out.2.1; omega)).trans HB.out.2.2.1)
   have e1 : W8.heap[w.heap.size + 1]? = some (.cells #[.int .i8 x.s.op, .int .i64 x.s.id, .int .i64 x.s.par, .int .i64 x.s.at_, .string x.s.tx, .int .i64 x.s.sub.id, .int .i64 x.s.sub.kind, .string x.s.sub.text, .slice x.a sn x.c] 47 (0, 0)) := (hw8 _ (by omega) (by omega)).trans ((H2.out.1.block _ (by have := HB.out.2.1; omega)).trans HB.out.2.2.2.1)
   have e2 : W8.heap[RB]? = some (.cells #[.int .i64 0, .int .i64 0, .string ⟨#[]⟩, .slice none 0 0] 24 (0, 0)) := by rw [HRB.out]; exact (hw8 _ (by omega) (by omega)).trans ((H2.out.1.block _ (by have := HB.out.2.1; omega)).trans HB.out.2.2.2.2)
   have hs8 : W8.heap.size ≥ U.heap.size + 1 := by rw [r6]; omega
   have hap := applyN (X := W8) (X0 := W8) (E := Ex F2 (some ⟨g1, 0, none⟩)) (fun q hq => by
    rcases hq with hq | hq
    · have := HP.out.1 q hq; have := H2.out.1.size; omega
    · have := hgz q hq; rw [r6]; exact this) (hEE (HP.out.2.2.2.2.1.on H2.out.1)) (X1 := W8) (hEE (HP.out.2.2.2.2.2.1.on H2.out.1)) (Below.refl _ _) (Below.refl _ _) HP.out.2.2.2.2.2.2.2.1 HP.out.2.2.2.2.2.2.2.2.1 HP.out.2.2.2.2.2.2.2.2.2
   rw [← HP.out.2.2.2.1, ← HY.out.2.2.2] at hap
   have hyr : applyR (x.s.on t) = y := by rw [applyR, if_pos HZ.out, ← HY.out.2.1]
   rw [hyr] at hap
   rw [HZ.out] at hap
   have HAP := Lib.hid hap
   have H8 := Lib.hid (And.intro hT8 (And.intro hK8 (And.intro e2 (And.intro hs8 (And.intro hg1 (And.intro hbaw (And.intro hUB hgz)))))))
   have hW8k : W7.setCell ⟨BB, 0, none⟩ (.slice (some ⟨g1, 0, none⟩) (k + 1) c1) = W8 := hW8.symm
   rw [hW8k]
   obtain ⟨n0, n1, n2, n3⟩ := box4 e0
   obtain ⟨q0, q1, q2, q3, q4, q5, q6, q7, q8⟩ := box9 e1
   clear hap hT8 hK8 e0 e1 e2 hs8 hg1 hbaw hUB hgz hEE hw8 hBBw hold8 hold7 hs7 r1 r2 r3 r4 r5 hW8 hW8k kU c0 m0 m1 m2 m3 m4 m5 m6 m7 m8 hyr
   have HR6 := Lib.hid r6
   clear r6
   go_wp2_with fail
   refine HAP.out.mono ?_
   clear n0 n1 n2 n3 q0 q1 q2 q3 q4 q5 q6 q7 q8
   rintro e w9 ⟨ya, yc, rfl, hl9, hb9⟩
   obtain ⟨yn, hyn⟩ : ∃ yn, yn = foLen y.kids := ⟨_, rfl⟩
   rw [← hyn]
   have e9 := (hb9.block _ (lt_of_heap H8.out.2.2.1)).trans H8.out.2.2.1
   obtain ⟨z0, z1, z2, z3⟩ := box4 e9
   have zf : ∀ j, w9.frozen? ⟨RB, j, none⟩ = false := fun j => frozen_of_row _ _ j _ _ e9
   obtain ⟨V, hV, s1, s2, s3, s4, s5, s6⟩ := four_set (u0 := .int .i64 y.id) (u1 := .int .i64 y.kind) (u2 := .string y.text) (u3 := .slice ya yn yc) e9
   have HV := Lib.hid (And.intro hV (And.intro s1 (And.intro s2 (And.intro s3 (And.intro s4 (And.intro s5 (And.intro s6 (And.intro hl9 (And.intro hb9 hyn)))))))))
   clear hV s1 s2 s3 s4 s5 s6 hl9 hb9 hyn e9
   go_wp2_with fail
   rw [← HV.out.1]
   obtain ⟨hV, s1, s2, s3, s4, s5, s6, hl9, hb9, hyn⟩ := HV.out
   obtain ⟨hT8, ⟨ys', hK8⟩, e2, hs8, hg1, hbaw, hUB, hgz⟩ := H8.out
   have hRBn : ∀ q, blkA (some ⟨g1, 0, none⟩) q → q ≠ RB := fun q hq e => by
    have := HRB.out
    rcases hg1 q hq with h | h
    · have := hbaw q h; omega
    · omega
   have hBRB : BB ≠ RB := by have := HRB.out; have := HK.out.2.2; omega
   have hF2R : F2 RB := by rw [HFD.out]; exact Or.inr rfl
   have hF2F : ∀ q, F q → F2 q := fun q hq => by rw [HFD.out]; exact Or.inl hq
   refine invc_end rfl (i := y.id) (k := y.kind) (x := y.text) (a := ya) (n := yn) (c := yc) (g := RB) s1 ⟨s3.trans (hb9.os.trans hT8.os), s4.trans (hb9.tape.trans hT8.tape), s5.trans (hb9.output.trans hT8.output), by rw [s6]; exact Nat.le_trans hT8.size hb9.size, fun q h1 h2 => (s2 q (by have := HRB.out; omega)).trans ((hb9.block q (Nat.lt_of_lt_of_le h1 hT8.size)).trans (hT8.block q h1 h2))⟩ (fun _ => ⟨some ⟨g1, 0, none⟩, c1, ys', ?_, fun q hq => ?_, ?_⟩) (fun h => absurd HZ.out h) rfl (by rw [HZ.out]; rfl)
   · rw [← HY.out.1]
     refine ((hK8.on hb9).kept (by rw [s6]; exact Nat.le_refl _) (fun q h1 h2 => s2 q (fun e => ?_))).weak hF2F
     rcases h2 with h2 | h2 | h2
     · exact hBRB (h2.symm.trans e)
     · exact hRBn q h2 e
     · exact h2 (Or.inl (e ▸ hF2R))
   · rcases hg1 q hq with h | h
     · exact Or.inl h
     · exact Or.inr (by omega)
   · rw [← HY.out.2.1]
     exact ⟨rfl, rfl, rfl, hyn, hl9.1, hl9.2.kept fun q hq => ⟨⟨by rw [s6]; exact hq.1, fun he => hq.2 (he.imp (hF2F q) (fun h => h))⟩, s2 q (fun e => hq.2 (Or.inl (e ▸ hF2R)))⟩⟩
 · have hzb : (ye != 0) = true := by simpa using hz
   have HZ := Lib.hid (show ¬ (x.s.on t).2 = 0 by rw [← HY.out.2.2.1]; exact hz)
   clear hz
   have e2 := (H2.out.1.block _ (lt_of_heap HB.out.2.2.2.2)).trans HB.out.2.2.2.2
   rw [← HRB.out] at e2
   obtain ⟨z0, z1, z2, z3⟩ := box4 e2
   have zf : ∀ j, U.frozen? ⟨RB, j, none⟩ = false := fun j => frozen_of_row _ _ j _ _ e2
   obtain ⟨V, hV, s1, s2, s3, s4, s5, s6⟩ := four_set (u0 := .int .i64 0) (u1 := .int .i64 0) (u2 := .string ⟨#[]⟩) (u3 := .slice none 0 0) e2
   have HV := Lib.hid (And.intro hV (And.intro s1 (And.intro s2 (And.intro s3 (And.intro s4 (And.intro s5 s6))))))
   clear hV s1 s2 s3 s4 s5 s6 e2
   go_wp2_with fail
   rw [← HV.out.1]
   obtain ⟨hV, s1, s2, s3, s4, s5, s6⟩ := HV.out
   exact invc_end rfl (i := 0) (k := 0) (x := ⟨#[]⟩) (a := none) (n := 0) (c := 0) (g := RB) s1 ⟨s3.trans HWU.out.os, s4.trans HWU.out.tape, s5.trans HWU.out.output, by rw [s6]; exact HWU.out.size, fun q h1 h2 => (s2 q (by have := HRB.out; omega)).trans (HWU.out.block q h1)⟩ (fun h => absurd h HZ.out) (fun _ => ⟨s3.trans HWU.out.os, s4.trans HWU.out.tape, s5.trans HWU.out.output, by rw [s6]; exact HWU.out.size, fun q h1 => (s2 q (by have := HRB.out; omega)).trans (HWU.out.block q h1)⟩) rfl (by rw [← HY.out.2.2.1]; rfl)
end Go.Proofs.Ytonapijgfalpaaa
