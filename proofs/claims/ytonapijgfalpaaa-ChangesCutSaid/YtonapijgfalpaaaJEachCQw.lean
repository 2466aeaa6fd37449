/-
  .
-/
import Derived.Deep.Cut
import Derived.Deep.RegionHeld
import Derived.Deep.AppendLies
import Derived.Test.YtonapijgfalpaaaJInvCQw
import Derived.Test.YtonapijgfalpaaaJPgQw
namespace Go.Proofs.Ytonapijgfalpaaa
open Go.RowKit Go.Shelf
set_option linter.unusedVariables false
set_option linter.unusedSimpArgs false
theorem Try.infoNdE : (Try.prog.info? 24).map (fun i => (i.size, i.bytes, i.zero.map (fun z => z.cells.size))) = some (4, 56, some 4) := by kernel_rfl
structure TreesAt (w : World) (F : Nat → Prop) (base BB : Nat) (ba : Option Addr) (bc : Nat) (bs : List Tr) (ys : List Value) : Prop where
 box : w.heap[BB]? = some (.cells #[.slice ba bs.length bc] 22 (0, 0))
 row : w.ownsRow base 24 4 (.slice ba bs.length bc) bs.length ys
 lies : TRow w (Ex F ba) bs ys
 base : base ≤ w.heap.size
theorem TreesAt.kept {w X : World} {F : Nat → Prop} {base BB : Nat} {ba : Option Addr} {bc : Nat} {bs : List Tr} {ys : List Value} (h : TreesAt w F base BB ba bc bs ys) (hs : w.heap.size ≤ X.heap.size) (hk : ∀ q, q < w.heap.size → (q = BB ∨ blkA ba q ∨ ¬ Ex F ba q) → X.heap[q]? = w.heap[q]?) : TreesAt X F base BB ba bc bs ys :=
 ⟨(hk _ (lt_of_heap h.box) (Or.inl rfl)).trans h.box, owns_kept h.row (fun g cur hc hg => hk g (lt_of_some hc) (Or.inr (Or.inl (blkA_own.1 hg.symm)))), h.lies.kept fun f a c hl => ⟨hl.1, hl.2.kept fun q hq => ⟨⟨Nat.lt_of_lt_of_le hq.1 hs, hq.2⟩, hk q hq.1 (Or.inr (Or.inr hq.2))⟩⟩, Nat.le_trans h.base hs⟩
theorem TreesAt.on {w X : World} {F : Nat → Prop} {base BB : Nat} {ba : Option Addr} {bc : Nat} {bs : List Tr} {ys : List Value} (h : TreesAt w F base BB ba bc bs ys) (hb : Below w.heap.size w X) : TreesAt X F base BB ba bc bs ys := h.kept hb.size (fun q hq _ => hb.block q hq)
theorem TreesAt.moreF {w : World} {F : Nat → Prop} {base BB R : Nat} {ba : Option Addr} {bc : Nat} {bs : List Tr} {ys : List Value} (h : TreesAt w F base BB ba bc bs ys) (hR : w.heap.size ≤ R) : TreesAt w (fun q => F q ∨ q = R) base BB ba bc bs ys :=
 ⟨h.box, h.row, h.lies.kept fun f a c hl => hl.moreF hR, h.base⟩
theorem row_put4 {cur : Array Value} {ys : List Value} {k : Nat} {z0 z1 z2 z3 u0 u1 u2 u3 : Value} (hl : ys.length = k * 4) (h : cur.toList.take ((k + 1) * 4) = ys ++ [z0, z1, z2, z3]) : ((((cur.setIfInBounds (k * 4) u0).setIfInBounds (k * 4 + 1) u1).setIfInBounds (k * 4 + 2) u2).setIfInBounds (k * 4 + 3) u3).toList.take ((k + 1) * 4) = ys ++ [u0, u1, u2, u3] := by
 simp only [Array.toList_setIfInBounds, List.take_set, h, ← hl]
 rw [List.set_append_right _ _ (by omega), List.set_append_right _ _ (by omega), List.set_append_right _ _ (by omega), List.set_append_right _ _ (by omega)]
 simp
theorem store4 {Y : World} {g a : Nat} {cs : Array Value} {t : TypeId} (u0 u1 u2 u3 : Value) (h : Y.heap[g]? = some (.cells cs t (0, 0))) (ha : a + 3 < cs.size) :
 ((∃ o, Y.cell? ⟨g, a, none⟩ = some o) ∧ Y.frozen? ⟨g, a, none⟩ = false ∧ (∃ o, (Y.setCell ⟨g, a, none⟩ u0).cell? ⟨g, a + 1, none⟩ = some o) ∧ (Y.setCell ⟨g, a, none⟩ u0).frozen? ⟨g, a + 1, none⟩ = false ∧
 (∃ o, ((Y.setCell ⟨g, a, none⟩ u0).setCell ⟨g, a + 1, none⟩ u1).cell? ⟨g, a + 2, none⟩ = some o) ∧ ((Y.setCell ⟨g, a, none⟩ u0).setCell ⟨g, a + 1, none⟩ u1).frozen? ⟨g, a + 2, none⟩ = false ∧
 (∃ o, (((Y.setCell ⟨g, a, none⟩ u0).setCell ⟨g, a + 1, none⟩ u1).setCell ⟨g, a + 2, none⟩ u2).cell? ⟨g, a + 3, none⟩ = some o) ∧ (((Y.setCell ⟨g, a, none⟩ u0).setCell ⟨g, a + 1, none⟩ u1).setCell ⟨g, a + 2, none⟩ u2).frozen? ⟨g, a + 3, none⟩ = false) ∧
 ∃ V, V = ((((Y.setCell ⟨g, a, none⟩ u0).setCell ⟨g, a + 1, none⟩ u1).setCell ⟨g, a + 2, none⟩ u2).setCell ⟨g, a + 3, none⟩ u3) ∧ V.heap[g]? = some (.cells ((((cs.setIfInBounds a u0).setIfInBounds (a + 1) u1).setIfInBounds (a + 2) u2).setIfInBounds (a + 3) u3) t (0, 0)) ∧
 (∀ k, k ≠ g → V.heap[k]? = Y.heap[k]?) ∧ V.os = Y.os ∧ V.tape = Y.tape ∧ V.output = Y.output ∧ V.heap.size = Y.heap.size := by
 have h1 := heap_setCell_same Y g a cs t u0 h
 have h2 := heap_setCell_same _ g (a + 1) _ t u1 h1
 have h3 := heap_setCell_same _ g (a + 2) _ t u2 h2
 have h4 := heap_setCell_same _ g (a + 3) _ t u3 h3
 have z : ∀ (W : World) (cs' : Array Value) (i : Nat), W.heap[g]? = some (.cells cs' t (0, 0)) → i < cs'.size → ∃ o, W.cell? ⟨g, i, none⟩ = some o := fun W cs' i hw hi => ⟨cs'[i], by rw [cell_of_row W g i _ _ _ hw]; exact Array.getElem?_eq_getElem hi⟩
 refine ⟨⟨z _ _ _ h (by omega), frozen_of_row _ _ _ _ _ h, z _ _ _ h1 (by simp; omega), frozen_of_row _ _ _ _ _ h1, z _ _ _ h2 (by simp; omega), frozen_of_row _ _ _ _ _ h2, z _ _ _ h3 (by simp; omega), frozen_of_row _ _ _ _ _ h3⟩, _, rfl, h4, fun k hk => ?_, rfl, rfl, rfl, ?_⟩
 · rw [Below.heap_setCell _ _ _ _ hk, Below.heap_setCell _ _ _ _ hk, Below.heap_setCell _ _ _ _ hk, Below.heap_setCell _ _ _ _ hk]
 · simp [World.setCell]
theorem doSN {E : Nat → Prop} {X0 X : World} {g : Gr} {t : Tr} {x : SV} {ga ta : Option Addr} {gn gc tn tc : Nat} (hgn : gn = g.kinds.length) (hg : GrV X (.agg #[.slice ga g.kinds.length gc, .int .i64 g.root]) g) (hf : g.few) (hE : ∀ q, E q → q < X.heap.size) (h0 : LiesN X E t.kids ta tc) (h1 : LiesN X0 E x.s.sub.kids x.a x.c) (b1 : Below X0.heap.size X0 X) (hw : Way t) (hs : StepFit x.s) (htn : tn = foLen t.kids) :
 Calls Try.prog 74 #[.agg #[.slice ga gn gc, .int .i64 g.root], .agg #[.int .i64 t.id, .int .i64 t.kind, .string t.text, .slice ta tn tc], x.v] X (TreeN E (applyR (doK g (x.s.on t))) (doK g (x.s.on t)).2 X) := by
 subst htn
 subst hgn
 refine (do_any X _ _ _ _ g t x.s.sub x.s.op x.s.id x.s.par x.s.at_ x.s.tx x.a (foLen x.s.sub.kids) x.c hg hf (fun y hy => hy.1) (fun y hy => Nat.lt_of_lt_of_le hy.1 b1.size) (h0.at (Below.refl _ _)) ⟨x.a, x.c, rfl, h1.1, h1.2.kept fun q hq => ⟨hq, b1.block q hq.1⟩⟩ (by have := hw.size; omega) (by have := hs.size; omega) hs.op hw.ok hs.ok hs.tx).mono ?_
 rintro e W ⟨v, rfl, ⟨va, vc, rfl, hc, hf⟩, hb⟩
 refine ⟨va, vc, rfl, ⟨hc, hf.kept fun q hq => ⟨⟨hq.1.lt, fun he => ?_⟩, rfl⟩⟩, hb⟩
 rcases hq.2 with (h | h) | h
 · exact h.2 he
 · exact h.2 he
 · have := hE q he; omega
def EachC (w : World) (F : Nat → Prop) (base BB : Nat) (ba : Option Addr) (bs : List Tr) (g : Gr) (s : Sf) (t : Tr) (e : Ending) (W : World) : Prop := ∃ (v : NV), e = .returned (.tuple #[v.v, .int .i64 (doK g (s.on t)).2]) ∧ Touched w W (fun q => q = BB ∨ blkA ba q) ∧ ((doK g (s.on t)).2 = 0 → ∃ ba' bc' ys', TreesAt W F base BB ba' bc' (bs ++ [(doK g (s.on t)).1]) ys' ∧ (∀ q, blkA ba' q → blkA ba q ∨ w.heap.size ≤ q) ∧ IsN W (Ex F ba') v (doK g (s.on t)).1) ∧ ((doK g (s.on t)).2 ≠ 0 → Below w.heap.size w W)
theorem each1_end {fn : Func} (h : fn.results = #[.cell 6 24, .tmp 7]) {w W : World} {F : Nat → Prop} {base BB : Nat} {ba : Option Addr} {bs : List Tr} {gr : Gr} {s : Sf} {t : Tr} {tmps : Array Value} {g : Nat} {i k : Int} {x : ByteArray} {a : Option Addr} {n c : Nat} (hz : W.heap[g]? = some (.cells #[.int .i64 i, .int .i64 k, .string x, .slice a n c] 24 (0, 0))) (ht : Touched w W (fun q => q = BB ∨ blkA ba q)) (hy : (doK gr (s.on t)).2 = 0 → ∃ ba' bc' ys', TreesAt W F base BB ba' bc' (bs ++ [(doK gr (s.on t)).1]) ys' ∧ (∀ q, blkA ba' q → blkA ba q ∨ w.heap.size ≤ q) ∧ IsN W (Ex F ba') ⟨i, k, x, a, n, c⟩ (doK gr (s.on t)).1) (hno : (doK gr (s.on t)).2 ≠ 0 → Below w.heap.size w W)
 (h1 : tmps.getD 6 undef = .pointer (some ⟨g, 0, none⟩)) (h2 : tmps.getD 7 undef = .int .i64 (doK gr (s.on t)).2) : bodyPost Try.prog fn (EachC w F base BB ba bs gr s t) .ret { tmps, defers := [] } W := by
 refine bodyPost_ret (results_cellT h tmps W g 24 _ _ _ (.int .i64 (doK gr (s.on t)).2) h1 hz Try.underlying24 rfl (by kernel_rfl) h2) rfl ?_
 exact ⟨⟨i, k, x, a, n, c⟩, rfl, ht, hy, hno⟩
structure EachV (U V : World) (base BB : Nat) (ba : Option Addr) (g1 k c1 : Nat) (xs : List Value) : Prop where
 old : ∀ q, q < U.heap.size → q ≠ BB → ¬ blkA ba q → V.heap[q]? = U.heap[q]?
 box : V.heap[BB]? = some (.cells #[.slice (some ⟨g1, 0, none⟩) (k + 1) c1] 22 (0, 0))
 row : V.ownsRow base 24 4 (.slice (some ⟨g1, 0, none⟩) (k + 1) c1) (k + 1) xs
 size : U.heap.size + 1 ≤ V.heap.size
 os : V.os = U.os
 tape : V.tape = U.tape
 output : V.output = U.output
set_option maxRecDepth 100000 in
set_option maxHeartbeats 8000000 in
theorem each1_any (w X0 : World) (F : Nat → Prop) (base BB GB : Nat) (g : Gr) (ga : Option Addr) (gc : Nat) (t : Tr) (x : SV) (ta ba : Option Addr) (tn tc bc : Nat) (bs : List Tr) (ys : List Value) (hF : ∀ q, F q → q < w.heap.size) (hFB : F BB) (hgr : GramAt w GB g ga gc) (hbk : TreesAt w F base BB ba bc bs ys) (hlen : bs.length ≤ 1000) (htn : tn = foLen t.kids) (hlt : LiesN w (Ex F ba) t.kids ta tc) (hlx : LiesN X0 (Ex F ba) x.s.sub.kids x.a x.c) (hb0 : Below X0.heap.size X0 w) (hw : Way t) (hfit : StepFit x.s) :
 Calls Try.prog 133 #[.agg #[.int .i64 t.id, .int .i64 t.kind, .string t.text, .slice ta tn tc], x.v, .pointer (some ⟨GB, 0, none⟩), .pointer (some ⟨BB, 0, none⟩)] w (EachC w F base BB ba bs g x.s t) := by
 obtain ⟨sn, hsn⟩ : ∃ sn, sn = foLen x.s.sub.kids := ⟨_, rfl⟩
 obtain ⟨gn, hgn⟩ : ∃ gn, gn = g.kinds.length := ⟨_, rfl⟩
 have hxv : x.v = .agg #[.int .i8 x.s.op, .int .i64 x.s.id, .int .i64 x.s.par, .int .i64 x.s.at_, .string x.s.tx, .int .i64 x.s.sub.id, .int .i64 x.s.sub.kind, .string x.s.sub.text, .slice x.a sn x.c] := by rw [hsn]; rfl
 rw [hxv]
 obtain ⟨B, hB⟩ : ∃ B, B = allocs w [.cells #[.int .i64 t.id, .int .i64 t.kind, .string t.text, .slice ta tn tc] 24, .cells #[.int .i8 x.s.op, .int .i64 x.s.id, .int .i64 x.s.par, .int .i64 x.s.at_, .string x.s.tx, .int .i64 x.s.sub.id, .int .i64 x.s.sub.kind, .string x.s.sub.text, .slice x.a sn x.c] 47, .cells #[.int .i64 0, .int .i64 0, .string ⟨#[]⟩, .slice none 0 0] 24] := ⟨_, rfl⟩
 have hb : Below w.heap.size w B := by rw [hB]; exact allocs_below _ _
 have hsz : B.heap.size = w.heap.size + 3 := by rw [hB]; exact allocs_size _ _
 have e0 : B.heap[w.heap.size]? = some (.cells #[.int .i64 t.id, .int .i64 t.kind, .string t.text, .slice ta tn tc] 24 (0, 0)) := by rw [hB]; exact allocs_at _ _ 0 _ rfl
 have e1 : B.heap[w.heap.size + 1]? = some (.cells #[.int .i8 x.s.op, .int .i64 x.s.id, .int .i64 x.s.par, .int .i64 x.s.at_, .string x.s.tx, .int .i64 x.s.sub.id, .int .i64 x.s.sub.kind, .string x.s.sub.text, .slice x.a sn x.c] 47 (0, 0)) := by rw [hB]; exact allocs_at _ _ 1 _ rfl
 have e2 : B.heap[w.heap.size + 1 + 1]? = some (.cells #[.int .i64 0, .int .i64 0, .string ⟨#[]⟩, .slice none 0 0] 24 (0, 0)) := by rw [hB]; exact allocs_at _ _ 2 _ rfl
 have hE : ∀ q, Ex F ba q → q < w.heap.size := fun q hq => by
  rcases hq with hq | hq
  · exact hF q hq
  · exact (owns_bounds hbk.row (blkA_own.2 hq).symm).2
 obtain ⟨RB, hRB⟩ : ∃ RB, RB = w.heap.size + 1 + 1 := ⟨_, rfl⟩
 obtain ⟨F2, hF2d⟩ : ∃ F2 : Nat → Prop, F2 = fun q => F q ∨ q = RB := ⟨_, rfl⟩
 have hF2 : ∀ q, F2 q → q < B.heap.size := fun q hq => by
  rw [hF2d] at hq
  rcases hq with hq | hq
  · have := hF q hq; omega
  · omega
 have hFB2 : F2 BB := by rw [hF2d]; exact Or.inl hFB
 have hlt2 : LiesN B (Ex F2 ba) t.kids ta tc := by rw [hF2d]; exact (hlt.moreF (by omega)).on hb
 have hlx2 : LiesN B (Ex F2 ba) x.s.sub.kids x.a x.c := by
  rw [hF2d]
  exact ((hlx.on hb0).moreF (by omega)).on hb
 have hbk2 : TreesAt B F2 base BB ba bc bs ys := by rw [hF2d]; exact (hbk.moreF (by omega)).on hb
 have hgB := hgr.on hb
 have hdo := doSN (E := Ex F2 ba) (tn := tn) hgn (hgB.all B (Below.refl _ _)) hgB.few (fun q hq => by
  rcases hq with hq | hq
  · exact hF2 q hq
  · have := hE q (Or.inr hq); omega) hlt2 hlx2 (Below.refl _ _) hw hfit htn
 rw [hxv] at hdo
 rw [applyR_doK] at hdo
 obtain ⟨y, hy⟩ : ∃ y, y = (doK g (x.s.on t)).1 := ⟨_, rfl⟩
 obtain ⟨ye, hye⟩ : ∃ ye, ye = (doK g (x.s.on t)).2 := ⟨_, rfl⟩
 rw [← hy, ← hye] at hdo
 have hgbox := hgB.box
 rw [← hgn] at hgbox
 obtain ⟨r0, r1⟩ : B.cell? ⟨GB, 0, none⟩ = some (.slice ga gn gc) ∧ B.cell? ⟨GB, 1, none⟩ = some (.int .i64 g.root) := ⟨by rw [cell_of_row _ _ 0 _ _ _ hgbox]; rfl, by rw [cell_of_row _ _ 1 _ _ _ hgbox]; rfl⟩
 have HDO := Lib.hid hdo
 have HB := Lib.hid (And.intro hb (And.intro hsz (And.intro e0 (And.intro e1 e2))))
 have HBE := Lib.hid hB
 have HP := Lib.hid (And.intro hF2 (And.intro hFB2 hE))
 have HFD := Lib.hid hF2d
 have HK0 := Lib.hid (And.intro hbk2 (And.intro hlen (lt_of_heap hbk.box)))
 have HY := Lib.hid (And.intro hy hye)
 obtain ⟨n0, n1, n2, n3⟩ := box4 e0
 obtain ⟨m0, m1, m2, m3, m4, m5, m6, m7, m8⟩ := box9 e1
 have HRBE := Lib.hid hRB
 clear hF2 hFB2 hlt2 hlx2 hbk2 hF2d hF hFB hbk hlen htn hlt hlx hb0 hw hfit hxv hb hsz e0 e1 e2 hE hdo hy hye hsn hB hgB hgbox hgr hgn
 go_enter Try.func133, Try.ntmps133
 go_upto_region 1 with fail
 change Code.wp _ _ _ _ (allocs w [.cells #[.int .i64 t.id, .int .i64 t.kind, .string t.text, .slice ta tn tc] 24, .cells #[.int .i8 x.s.op, .int .i64 x.s.id, .int .i64 x.s.par, .int .i64 x.s.at_, .string x.s.tx, .int .i64 x.s.sub.id, .int .i64 x.s.sub.kind, .string x.s.sub.text, .slice x.a sn x.c] 47, .cells #[.int .i64 0, .int .i64 0, .string ⟨#[]⟩, .slice none 0 0] 24])
 rw [← HBE.out, ← hRB]
 clear hRB HBE
 go_wp2_with fail
 clear n0 n1 n2 n3 m0 m1 m2 m3 m4 m5 m6 m7 m8 r0 r1
 refine HDO.out.mono ?_
 rintro e w2 ⟨va, vc, rfl, hlb, hb2⟩
 obtain ⟨yn, hyn⟩ : ∃ yn, yn = foLen y.kids := ⟨_, rfl⟩
 rw [← hyn]
 obtain ⟨U, hU⟩ : ∃ U, U = w2.alloc (.cells #[.int .i64 y.id, .int .i64 y.kind, .string y.text, .slice va yn vc] 24) := ⟨_, rfl⟩
 have hbU : Below w2.heap.size w2 U := by rw [hU]; exact box_below _ _
 have hsU : U.heap.size = w2.heap.size + 1 := by rw [hU]; simp
 have hnU : U.heap[w2.heap.size]? = some (.cells #[.int .i64 y.id, .int .i64 y.kind, .string y.text, .slice va yn vc] 24 (0, 0)) := by rw [hU]; exact heap_alloc_new _ _
 have HU := Lib.hid hU
 have hBU : Below B.heap.size B U := hb2.trans (hbU.mono hb2.size)
 have H2 := Lib.hid (And.intro hBU (And.intro (hlb.on hbU) (And.intro hsU (And.intro hnU hb2.size))))
 have HYN := Lib.hid hyn
 obtain ⟨sb, hsb⟩ : ∃ sb, sb = w2.heap.size := ⟨_, rfl⟩
 clear hU hbU hsU hnU hlb hb2 HDO hyn hBU
 go_upto_region 2 with fail
 change Code.wp _ _ _ _ (w2.alloc (.cells #[.int .i64 y.id, .int .i64 y.kind, .string y.text, .slice va yn vc] 24))
 rw [← HU.out, ← hsb]
 rw [← hsb] at H2
 clear hsb HU
 have HWU := Lib.hid (HB.out.1.trans (H2.out.1.mono HB.out.1.size))
 have e2 := (H2.out.1.block _ (lt_of_heap HB.out.2.2.2.2)).trans HB.out.2.2.2.2
 rw [← HRBE.out] at e2
 by_cases hz : ye = 0
 · have hzb : (ye == 0) = true := by simpa using hz
   have HZ := Lib.hid (show (doK g (x.s.on t)).2 = 0 by rw [← HY.out.2]; exact hz)
   have kU := HK0.out.1.on H2.out.1
   obtain ⟨k, hk⟩ : ∃ k, k = bs.length := ⟨_, rfl⟩
   have hbx := kU.box
   have hrow := kU.row
   have hkl := kU.lies
   rw [← hk] at hbx hrow
   have hk1 : k ≤ 1000 := by rw [hk]; exact HK0.out.2.1
   have hbase := kU.base
   obtain ⟨i1, zz, hi1, hy0, hy1, hy2, hy3⟩ := info_wide Try.infoNdE
   have hUB : w.heap.size + 3 ≤ U.heap.size := by have := H2.out.1.size; have := HB.out.2.1; omega
   have hBBw : BB < w.heap.size := HK0.out.2.2
   have hbaw : ∀ q, blkA ba q → q < w.heap.size := fun q hq => HP.out.2.2 q (Or.inr hq)
   have hbaB : ¬ blkA ba BB := fun h => by
    obtain ⟨d, hd⟩ := owns_type hrow (blkA_own.2 h).symm
    exact absurd (ty_ne hbx hd) (by decide)
   have hsbU : sb < U.heap.size := by have := H2.out.2.2.1; omega
   have hsbw : w.heap.size ≤ sb := by have := H2.out.2.2.1; have := H2.out.2.2.2.2; omega
   have hsbB : sb ≠ BB ∧ ¬ blkA ba sb := ⟨by omega, fun h => by have := hbaw _ h; omega⟩
   obtain ⟨Y1, hY1⟩ : ∃ Y1, Y1 = (U.alloc (.cells #[.int .i64 0, .int .i64 0, .string ⟨#[]⟩, .slice none 0 0] 24)).drew := ⟨_, rfl⟩
   have hbY : Below U.heap.size U Y1 := by rw [hY1]; exact below_drewN (box_below _ _) 1
   have hsY : Y1.heap.size = U.heap.size + 1 := by rw [hY1]; exact World.size_alloc _ _
   have hnY : Y1.heap[U.heap.size]? = some (.cells #[.int .i64 0, .int .i64 0, .string ⟨#[]⟩, .slice none 0 0] 24 (0, 0)) := by rw [hY1]; exact heap_alloc_new U _
   have hroY := owns_kept (w' := Y1) hrow (fun q cur hg _ => hbY.block q (lt_of_heap hg))
   obtain ⟨g1, c1, Z, hrun, hown, hgr, hat, hgl⟩ := run_append_lies (P := Try.prog) Y1 22 22 base 24 i1 zz 4 56 Try.underlying22 hi1 hy0 hy1 hy2 hy3 (by omega) (.slice ba k bc) k ys hroY ⟨U.heap.size, 0, none⟩ 1 1 [.int .i64 0, .int .i64 0, .string ⟨#[]⟩, .slice none 0 0] rfl (World.news_of_block (cs := #[.int .i64 0, .int .i64 0, .string ⟨#[]⟩, .slice none 0 0]) (t := 24) (fr := (0, 0)) hnY) (by simp [Value.oneCell']) (by omega) (by unfold maxLen; omega) (by omega) (by omega) (U.heap.size + 1) hsY
   have hgs := hgr.size
   have hg1 : blkA ba g1 ∨ g1 = U.heap.size + 1 := hat.imp (fun h => blkA_own.1 h.symm) (fun h => h)
   have hg1B : g1 ≠ BB := fun e => by
    rcases hg1 with h | h
    · exact hbaB (e ▸ h)
    · omega
   have hZo : ∀ q, q < U.heap.size → ¬ blkA ba q → Z.heap[q]? = U.heap[q]? := fun q h1 h2 => (hgr.block q (by omega) (fun e => h2 (blkA_own.1 e))).trans (hbY.block q h1)
   have hZB : Z.heap[BB]? = some (.cells #[.slice ba k bc] 22 (0, 0)) := (hZo BB (by omega) hbaB).trans hbx
   obtain ⟨hxl, hor⟩ := hown
   obtain ⟨g', cap, cur, hv, hbg, hcur, hkc, hcm, hcs, htk⟩ : ∃ g' cap cur, Value.slice (some ⟨g1, 0, none⟩) (k + 1) c1 = .slice (some ⟨g', 0, none⟩) (k + 1) cap ∧ base ≤ g' ∧ Z.heap[g']? = some (.cells cur 24 (0, 0)) ∧ k + 1 ≤ cap ∧ cap ≤ maxLen ∧ cur.size = cap * 4 ∧ cur.toList.take ((k + 1) * 4) = ys ++ [.int .i64 0, .int .i64 0, .string ⟨#[]⟩, .slice none 0 0] := by
    rcases hor with ⟨h, _⟩ | h
    · cases h
    · exact h
   cases hv
   have hyl : ys.length = k * 4 := hrow.1
   have hcz : k * 4 + 3 < cur.size := by omega
   obtain ⟨hst1, V1, hV1, p1, p2, p3, p4, p5, p6⟩ := store4 (.int .i64 y.id) (.int .i64 y.kind) (.string y.text) (.slice va yn vc) hcur hcz
   have hV1B := (p2 BB hg1B.symm).trans hZB
   obtain ⟨VA, hVA, a1, a2, a3, a4, a5, a6⟩ := one_set (i := 0) (u := .slice (some ⟨g1, 0, none⟩) (k + 1) c1) hV1B
   obtain ⟨V2, hV2, b1, b2, b3, b4, b5, b6⟩ := one_set (i := 0) (u := .slice (some ⟨g1, 0, none⟩) (k + 1) c1) hZB
   obtain ⟨hst2, VB, hVB, q1, q2, q3, q4, q5, q6⟩ := store4 (.int .i64 y.id) (.int .i64 y.kind) (.string y.text) (.slice va yn vc) ((b2 g1 hg1B).trans hcur) hcz
   have hout : Z.os = U.os ∧ Z.tape = U.tape ∧ Z.output = U.output := ⟨hgr.os.trans hbY.os, hgr.tape.trans hbY.tape, hgr.output.trans hbY.output⟩
   have hg1o : ∀ q, q < U.heap.size → ¬ blkA ba q → q ≠ g1 := fun q h1 h2 e => by
    rcases hg1 with h | h
    · exact h2 (e ▸ h)
    · omega
   have hrowV : ∀ V : World, V.heap[g1]? = some (.cells ((((cur.setIfInBounds (k * 4) (.int .i64 y.id)).setIfInBounds (k * 4 + 1) (.int .i64 y.kind)).setIfInBounds (k * 4 + 2) (.string y.text)).setIfInBounds (k * 4 + 3) (.slice va yn vc)) 24 (0, 0)) → V.ownsRow base 24 4 (.slice (some ⟨g1, 0, none⟩) (k + 1) c1) (k + 1) (ys ++ [.int .i64 y.id, .int .i64 y.kind, .string y.text, .slice va yn vc]) := fun V hV => ⟨by rw [List.length_append, hyl]; show k * 4 + 4 = _; omega, Or.inr ⟨g1, c1, _, rfl, hbg, hV, hkc, hcm, by simpa using hcs, row_put4 hyl htk⟩⟩
   have hGA : EachV U VA base BB ba g1 k c1 (ys ++ [.int .i64 y.id, .int .i64 y.kind, .string y.text, .slice va yn vc]) := ⟨fun q h1 h2 h3 => (a2 q h2).trans ((p2 q (hg1o q h1 h3)).trans (hZo q h1 h3)), by simpa using a1, hrowV VA ((a2 g1 hg1B).trans p1), by omega, a3.trans (p3.trans hout.1), a4.trans (p4.trans hout.2.1), a5.trans (p5.trans hout.2.2)⟩
   have hGB : EachV U VB base BB ba g1 k c1 (ys ++ [.int .i64 y.id, .int .i64 y.kind, .string y.text, .slice va yn vc]) := ⟨fun q h1 h2 h3 => (q2 q (hg1o q h1 h3)).trans ((b2 q h2).trans (hZo q h1 h3)), (q2 BB hg1B.symm).trans (by simpa using b1), hrowV VB q1, by omega, q3.trans (b3.trans hout.1), q4.trans (b4.trans hout.2.1), q5.trans (b5.trans hout.2.2)⟩
   obtain ⟨SW, hSW⟩ : ∃ SW : World → Prop, SW = fun X => X.heap[sb]? = U.heap[sb]? := ⟨_, rfl⟩
   have hsw : ∀ X, SW X → X.cell? ⟨sb, 0, none⟩ = some (.int .i64 y.id) ∧ X.cell? ⟨sb, 1, none⟩ = some (.int .i64 y.kind) ∧ X.cell? ⟨sb, 2, none⟩ = some (.string y.text) ∧ X.cell? ⟨sb, 3, none⟩ = some (.slice va yn vc) := fun X hX => by
    rw [hSW] at hX
    exact box4 (hX.trans H2.out.2.2.2.1)
   have hS0 : SW U.drew := by rw [hSW]; rfl
   have hsq : SW Y1 ∧ SW Z ∧ SW V1 ∧ SW VA ∧ SW V2 ∧ SW VB := by
    have hz1 := hZo sb hsbU hsbB.2
    have hne := hg1o sb hsbU hsbB.2
    rw [hSW]
    exact ⟨hbY.block sb hsbU, hz1, (p2 sb hne).trans hz1, (a2 sb hsbB.1).trans ((p2 sb hne).trans hz1), (b2 sb hsbB.1).trans hz1, (q2 sb hne).trans ((b2 sb hsbB.1).trans hz1)⟩
   have hend : ∀ (V W9 : World), EachV U V base BB ba g1 k c1 (ys ++ [.int .i64 y.id, .int .i64 y.kind, .string y.text, .slice va yn vc]) → (W9.heap[RB]? = some (.cells #[.int .i64 y.id, .int .i64 y.kind, .string y.text, .slice va yn vc] 24 (0, 0)) ∧ (∀ q, q ≠ RB → W9.heap[q]? = V.heap[q]?) ∧ W9.os = V.os ∧ W9.tape = V.tape ∧ W9.output = V.output ∧ W9.heap.size = V.heap.size) → Touched w W9 (fun q => q = BB ∨ blkA ba q) ∧ ∃ ba' bc' ys', TreesAt W9 F base BB ba' bc' (bs ++ [y]) ys' ∧ (∀ q, blkA ba' q → blkA ba q ∨ w.heap.size ≤ q) ∧ IsN W9 (Ex F ba') ⟨y.id, y.kind, y.text, va, yn, vc⟩ y := by
    rintro V W9 hV ⟨s1, s2, s3, s4, s5, s6⟩
    have hRw := HRBE.out
    have hF2R : F2 RB := by rw [HFD.out]; exact Or.inr rfl
    have hF2F : ∀ q, F q → F2 q := fun q hq => by rw [HFD.out]; exact Or.inl hq
    have hT : ∀ q, blkA (some ⟨g1, 0, none⟩) q → q = g1 := fun q hq => by obtain ⟨d, e, hd⟩ := hq; cases e; exact hd.symm
    have hLL : ∀ f a c, LiesN U (Ex F2 ba) f a c → LiesN W9 (Ex F (some ⟨g1, 0, none⟩)) f a c := fun f a c h => ⟨h.1, h.2.kept fun q hq => by
     have h1 : ¬ F2 q := fun h => hq.2 (Or.inl h)
     have h2 : ¬ blkA ba q := fun h => hq.2 (Or.inr h)
     refine ⟨⟨by have := hq.1; have := hV.size; omega, fun he => ?_⟩, (s2 q (fun e => h1 (e ▸ hF2R))).trans (hV.old q hq.1 (fun e => h1 (e ▸ HP.out.2.1)) h2)⟩
     rcases he with he | he
     · exact h1 (hF2F q he)
     · exact hg1o q hq.1 h2 (hT q he)⟩
    have hgR : g1 ≠ RB := by
     rcases hg1 with h | h
     · have := hbaw _ h; omega
     · omega
    refine ⟨⟨s3.trans (hV.os.trans HWU.out.os), s4.trans (hV.tape.trans HWU.out.tape), s5.trans (hV.output.trans HWU.out.output), by have := hV.size; have := HWU.out.size; omega, fun q h1 h2 => (s2 q (by omega)).trans ((hV.old q (by omega) (fun e => h2 (Or.inl e)) (fun e => h2 (Or.inr e))).trans (HWU.out.block q h1))⟩, some ⟨g1, 0, none⟩, c1, _, ⟨?_, ?_, TRow.snoc (E := Ex F (some ⟨g1, 0, none⟩)) (t := y) (a := va) (c := vc) (hLL _ _ _ H2.out.2.1) (hkl.kept hLL), by have := hV.size; omega⟩, fun q hq => ?_, rfl, rfl, rfl, HYN.out, hLL _ _ _ H2.out.2.1⟩
    · rw [List.length_append, List.length_singleton, ← hk]
      exact (s2 BB (by omega)).trans hV.box
    · rw [List.length_append, List.length_singleton, ← hk]
      have h := hV.row
      rw [HYN.out] at h
      exact owns_kept h (fun q cur hc hq => s2 q (fun e => hgR (by have h2 := hT q (blkA_own.1 hq.symm); omega)))
    · have := hT q hq
      rcases hg1 with h | h
      · exact Or.inl (by rw [this]; exact h)
      · exact Or.inr (by omega)
   have HEND := Lib.hid hend
   have HSW := Lib.hid hsw
   have HS0 := Lib.hid hS0
   have HSQ := Lib.hid hsq
   have HGVA := Lib.hid hGA
   have HGVB := Lib.hid hGB
   have HRB := Lib.hid (And.intro e2 (And.intro (show RB < U.heap.size by have := HRBE.out; omega) (And.intro (show RB ≠ BB by have := HRBE.out; omega) (show ¬ blkA ba RB from fun h => by have := hbaw _ h; have := HRBE.out; omega))))
   have HRUN := Lib.hid hrun
   have HL0 := Lib.hid (show U.cell? ⟨BB, 0, none⟩ = some (.slice ba k bc) by rw [cell_of_row _ _ 0 _ _ _ hbx]; rfl)
   have HL1 := Lib.hid (show Y1.cell? ⟨BB, 0, none⟩ = some (.slice ba k bc) by rw [cell_of_row _ _ 0 _ _ _ ((hbY.block BB (by omega)).trans hbx)]; rfl)
   have HZ0 := Lib.hid (And.intro (show Z.cell? ⟨BB, 0, none⟩ = some (.slice ba k bc) by rw [cell_of_row _ _ 0 _ _ _ hZB]; rfl) (show ∀ j, Z.frozen? ⟨BB, j, none⟩ = false from fun j => frozen_of_row _ _ j _ _ hZB))
   have HB7 := Lib.hid (And.intro (show V1.cell? ⟨BB, 0, none⟩ = some (.slice ba k bc) by rw [cell_of_row _ _ 0 _ _ _ hV1B]; rfl) (show ∀ j, V1.frozen? ⟨BB, j, none⟩ = false from fun j => frozen_of_row _ _ j _ _ hV1B))
   have HS1 := Lib.hid hst1
   have HS2 := Lib.hid hst2
   have HV1 := Lib.hid hV1
   have HVA := Lib.hid hVA
   have HV2 := Lib.hid hV2
   have HVB := Lib.hid hVB
   have HY1 := Lib.hid hY1
   have HKN := Lib.hid (And.intro hk1 (And.intro (show k < k + 1 by omega) (show ¬ ((k : Int) < 0) by omega)))
   clear hend hsw hS0 hsq hGA hGB hrun hbx hZB hV1B hst1 hst2 hV1 hVA hV2 hVB hY1 hrowV hg1o hout hZo hroY hnY hsY hbY hgr hgs hat hgl hg1 hg1B hxl hor hbg hcur hkc hcm hcs htk hyl hcz p1 p2 p3 p4 p5 p6 a1 a2 a3 a4 a5 a6 b1 b2 b3 b4 b5 b6 q1 q2 q3 q4 q5 q6 hSW kU hrow hkl hk hk1 hbase hi1 hy0 hy1 hy2 hy3 hUB hBBw hbaw hbaB hsbU hsbw hsbB e2 HK0
   subst hz
   go_upto_region 3 with fail
   refine wp_region_held_drew (S := SW) (by kernel_rfl) HS0.out (fun hHeld => ?_)
   refine tkH (i := 1) (.agg #[.int .i64 y.id, .int .i64 y.kind, .string y.text, .slice va yn vc]) rfl (Or.inl ⟨by rfl, ?_⟩) (by assumption) ?_
   · clear hHeld; intro X hSw; obtain ⟨n0, n1, n2, n3⟩ := HSW.out X hSw; clear hSw; go_simp
   simp only [Act.put, pg]
   refine wpAnyH_ready (rs := [0, 3]) (by kernel_rfl) (by simp) ?_
   refine AllReadyH.cons (o := _) rfl (fun K hK => ?_) (AllReadyH.cons (o := _) rfl (fun K hK => ?_) (AllReadyH.nil))
   · skip
     rw [if_pos (by rfl)]
     simp only [pg3]
     have HK := Lib.hid hK
     clear hK hHeld
     have l0 := HL0.out
     go_wp2_with fail
     refine HK.out _ _ HS0.out (fun hHeld => ?_)
     clear HK l0
     refine tkH (i := 2) (.int .i64 (k : Int)) rfl (Or.inl ⟨by rfl, fun X _ => by clear hHeld; go_simp⟩) (by assumption) ?_
     simp only [Act.put, pg]
     refine wpAnyH_ready (rs := [3]) (by kernel_rfl) (by simp) ?_
     refine AllReadyH.cons (o := _) rfl (fun K hK => ?_) (AllReadyH.nil)
     rw [if_pos (by rfl)]
     simp only [pg3]
     have HK := Lib.hid hK
     clear hK hHeld
     go_wp2_with fail
     rw [← HY1.out]
     refine HK.out _ _ HSQ.out.1 (fun hHeld => ?_)
     clear HK
     refine wpAnyH_ready (rs := [4]) (by kernel_rfl) (by simp) ?_
     refine AllReadyH.cons (o := _) rfl (fun K hK => ?_) (AllReadyH.nil)
     refine step_append_runI rfl (.tmp 19) (.tmp 22) 22 22 rfl (.slice ba k bc) (.slice (some ⟨U.heap.size, 0, none⟩) 1 1) (by simp [Act.eval, Act.put]) (by simp [Act.eval, Act.put]) HRUN.out (hK _ _ HSQ.out.2.1 (fun hHeld => ?_))
     clear hK
     refine tkH (i := 5) (.pointer (some ⟨g1, k * 4, none⟩)) rfl (Or.inl ⟨by rfl, ?_⟩) (by assumption) ?_
     · clear hHeld; intro X hSw; have q0 := HKN.out.1; have q1 := HKN.out.2.1; have q2 := HKN.out.2.2; clear hSw; go_simp; intro h; omega
     simp only [Act.put, pg]
     refine wpAnyH_ready (rs := [6, 7]) (by kernel_rfl) (by simp) ?_
     refine AllReadyH.cons (o := _) rfl (fun K hK => ?_) (AllReadyH.cons (o := _) rfl (fun K hK => ?_) (AllReadyH.nil))
     · skip
       rw [if_pos (by rfl)]
       simp only [pg3]
       have HK := Lib.hid hK
       clear hK hHeld
       obtain ⟨⟨o0, v0⟩, v1, ⟨o1, v2⟩, v3, ⟨o2, v4⟩, v5, ⟨o3, v6⟩, v7⟩ := HS1.out
       go_wp2_with fail
       rw [← HV1.out]
       refine HK.out _ _ HSQ.out.2.2.1 (fun hHeld => ?_)
       clear HK v0 v1 v2 v3 v4 v5 v6 v7
       refine wpAnyH_ready (rs := [7]) (by kernel_rfl) (by simp) ?_
       refine AllReadyH.cons (o := _) rfl (fun K hK => ?_) (AllReadyH.nil)
       rw [if_pos (by rfl)]
       simp only [pg3]
       have HK := Lib.hid hK
       clear hK hHeld
       obtain ⟨b7, f7⟩ := HB7.out
       go_wp2_with fail
       rw [← HVA.out]
       refine HK.out _ _ HSQ.out.2.2.2.1 (fun hHeld => ?_)
       clear HK b7 f7
       refine wpAnyH_done (by kernel_rfl) ?_ _
       clear hHeld
       obtain ⟨n0, n1, n2, n3⟩ := HSW.out VA (by first | exact HSQ.out.2.2.2.1 | exact HSQ.out.2.2.2.2.2)
       have e2 := (HGVA.out.old _ HRB.out.2.1 HRB.out.2.2.1 HRB.out.2.2.2).trans HRB.out.1
       obtain ⟨z0, z1, z2, z3⟩ := box4 e2
       have zf : ∀ j, VA.frozen? ⟨RB, j, none⟩ = false := fun j => frozen_of_row _ _ j _ _ e2
       obtain ⟨W9, hW9, s1, s2, s3, s4, s5, s6⟩ := four_set (u0 := .int .i64 y.id) (u1 := .int .i64 y.kind) (u2 := .string y.text) (u3 := .slice va yn vc) e2
       have H9 := Lib.hid (And.intro hW9 (And.intro s1 (And.intro s2 (And.intro s3 (And.intro s4 (And.intro s5 s6))))))
       clear hW9 s1 s2 s3 s4 s5 s6 e2
       go_wp2_with fail
       rw [← H9.out.1]
       obtain ⟨hT, hR⟩ := HEND.out VA W9 HGVA.out H9.out.2
       exact each1_end rfl H9.out.2.1 hT (fun _ => by rw [← HY.out.1]; exact hR) (fun h => absurd HZ.out h) rfl (by rw [HZ.out]; rfl)
     · skip
       rw [if_pos (by rfl)]
       simp only [pg3]
       have HK := Lib.hid hK
       clear hK hHeld
       obtain ⟨z0, zf⟩ := HZ0.out
       go_wp2_with fail
       rw [← HV2.out]
       refine HK.out _ _ HSQ.out.2.2.2.2.1 (fun hHeld => ?_)
       clear HK z0 zf
       refine wpAnyH_ready (rs := [6]) (by kernel_rfl) (by simp) ?_
       refine AllReadyH.cons (o := _) rfl (fun K hK => ?_) (AllReadyH.nil)
       rw [if_pos (by rfl)]
       simp only [pg3]
       have HK := Lib.hid hK
       clear hK hHeld
       obtain ⟨⟨o0, v0⟩, v1, ⟨o1, v2⟩, v3, ⟨o2, v4⟩, v5, ⟨o3, v6⟩, v7⟩ := HS2.out
       go_wp2_with fail
       rw [← HVB.out]
       refine HK.out _ _ HSQ.out.2.2.2.2.2 (fun hHeld => ?_)
       clear HK v0 v1 v2 v3 v4 v5 v6 v7
       refine wpAnyH_done (by kernel_rfl) ?_ _
       clear hHeld
       obtain ⟨n0, n1, n2, n3⟩ := HSW.out VB (by first | exact HSQ.out.2.2.2.1 | exact HSQ.out.2.2.2.2.2)
       have e2 := (HGVB.out.old _ HRB.out.2.1 HRB.out.2.2.1 HRB.out.2.2.2).trans HRB.out.1
       obtain ⟨z0, z1, z2, z3⟩ := box4 e2
       have zf : ∀ j, VB.frozen? ⟨RB, j, none⟩ = false := fun j => frozen_of_row _ _ j _ _ e2
       obtain ⟨W9, hW9, s1, s2, s3, s4, s5, s6⟩ := four_set (u0 := .int .i64 y.id) (u1 := .int .i64 y.kind) (u2 := .string y.text) (u3 := .slice va yn vc) e2
       have H9 := Lib.hid (And.intro hW9 (And.intro s1 (And.intro s2 (And.intro s3 (And.intro s4 (And.intro s5 s6))))))
       clear hW9 s1 s2 s3 s4 s5 s6 e2
       go_wp2_with fail
       rw [← H9.out.1]
       obtain ⟨hT, hR⟩ := HEND.out VB W9 HGVB.out H9.out.2
       exact each1_end rfl H9.out.2.1 hT (fun _ => by rw [← HY.out.1]; exact hR) (fun h => absurd HZ.out h) rfl (by rw [HZ.out]; rfl)
   · skip
     rw [if_pos (by rfl)]
     simp only [pg3]
     have HK := Lib.hid hK
     clear hK hHeld
     go_wp2_with fail
     rw [← HY1.out]
     refine HK.out _ _ HSQ.out.1 (fun hHeld => ?_)
     clear HK
     refine wpAnyH_ready (rs := [0]) (by kernel_rfl) (by simp) ?_
     refine AllReadyH.cons (o := _) rfl (fun K hK => ?_) (AllReadyH.nil)
     rw [if_pos (by rfl)]
     simp only [pg3]
     have HK := Lib.hid hK
     clear hK hHeld
     have l0 := HL1.out
     go_wp2_with fail
     refine HK.out _ _ HSQ.out.1 (fun hHeld => ?_)
     clear HK l0
     refine tkH (i := 2) (.int .i64 (k : Int)) rfl (Or.inl ⟨by rfl, fun X _ => by clear hHeld; go_simp⟩) (by assumption) ?_
     simp only [Act.put, pg]
     refine wpAnyH_ready (rs := [4]) (by kernel_rfl) (by simp) ?_
     refine AllReadyH.cons (o := _) rfl (fun K hK => ?_) (AllReadyH.nil)
     refine step_append_runI rfl (.tmp 19) (.tmp 22) 22 22 rfl (.slice ba k bc) (.slice (some ⟨U.heap.size, 0, none⟩) 1 1) (by simp [Act.eval, Act.put]) (by simp [Act.eval, Act.put]) HRUN.out (hK _ _ HSQ.out.2.1 (fun hHeld => ?_))
     clear hK
     refine tkH (i := 5) (.pointer (some ⟨g1, k * 4, none⟩)) rfl (Or.inl ⟨by rfl, ?_⟩) (by assumption) ?_
     · clear hHeld; intro X hSw; have q0 := HKN.out.1; have q1 := HKN.out.2.1; have q2 := HKN.out.2.2; clear hSw; go_simp; intro h; omega
     simp only [Act.put, pg]
     refine wpAnyH_ready (rs := [6, 7]) (by kernel_rfl) (by simp) ?_
     refine AllReadyH.cons (o := _) rfl (fun K hK => ?_) (AllReadyH.cons (o := _) rfl (fun K hK => ?_) (AllReadyH.nil))
     · skip
       rw [if_pos (by rfl)]
       simp only [pg3]
       have HK := Lib.hid hK
       clear hK hHeld
       obtain ⟨⟨o0, v0⟩, v1, ⟨o1, v2⟩, v3, ⟨o2, v4⟩, v5, ⟨o3, v6⟩, v7⟩ := HS1.out
       go_wp2_with fail
       rw [← HV1.out]
       refine HK.out _ _ HSQ.out.2.2.1 (fun hHeld => ?_)
       clear HK v0 v1 v2 v3 v4 v5 v6 v7
       refine wpAnyH_ready (rs := [7]) (by kernel_rfl) (by simp) ?_
       refine AllReadyH.cons (o := _) rfl (fun K hK => ?_) (AllReadyH.nil)
       rw [if_pos (by rfl)]
       simp only [pg3]
       have HK := Lib.hid hK
       clear hK hHeld
       obtain ⟨b7, f7⟩ := HB7.out
       go_wp2_with fail
       rw [← HVA.out]
       refine HK.out _ _ HSQ.out.2.2.2.1 (fun hHeld => ?_)
       clear HK b7 f7
       refine wpAnyH_done (by kernel_rfl) ?_ _
       clear hHeld
       obtain ⟨n0, n1, n2, n3⟩ := HSW.out VA (by first | exact HSQ.out.2.2.2.1 | exact HSQ.out.2.2.2.2.2)
       have e2 := (HGVA.out.old _ HRB.out.2.1 HRB.out.2.2.1 HRB.out.2.2.2).trans HRB.out.1
       obtain ⟨z0, z1, z2, z3⟩ := box4 e2
       have zf : ∀ j, VA.frozen? ⟨RB, j, none⟩ = false := fun j => frozen_of_row _ _ j _ _ e2
       obtain ⟨W9, hW9, s1, s2, s3, s4, s5, s6⟩ := four_set (u0 := .int .i64 y.id) (u1 := .int .i64 y.kind) (u2 := .string y.text) (u3 := .slice va yn vc) e2
       have H9 := Lib.hid (And.intro hW9 (And.intro s1 (And.intro s2 (And.intro s3 (And.intro s4 (And.intro s5 s6))))))
       clear hW9 s1 s2 s3 s4 s5 s6 e2
       go_wp2_with fail
       rw [← H9.out.1]
       obtain ⟨hT, hR⟩ := HEND.out VA W9 HGVA.out H9.out.2
       exact each1_end rfl H9.out.2.1 hT (fun _ => by rw [← HY.out.1]; exact hR) (fun h => absurd HZ.out h) rfl (by rw [HZ.out]; rfl)
     · skip
       rw [if_pos (by rfl)]
       simp only [pg3]
       have HK := Lib.hid hK
       clear hK hHeld
       obtain ⟨z0, zf⟩ := HZ0.out
       go_wp2_with fail
       rw [← HV2.out]
       refine HK.out _ _ HSQ.out.2.2.2.2.1 (fun hHeld => ?_)
       clear HK z0 zf
       refine wpAnyH_ready (rs := [6]) (by kernel_rfl) (by simp) ?_
       refine AllReadyH.cons (o := _) rfl (fun K hK => ?_) (AllReadyH.nil)
       rw [if_pos (by rfl)]
       simp only [pg3]
       have HK := Lib.hid hK
       clear hK hHeld
       obtain ⟨⟨o0, v0⟩, v1, ⟨o1, v2⟩, v3, ⟨o2, v4⟩, v5, ⟨o3, v6⟩, v7⟩ := HS2.out
       go_wp2_with fail
       rw [← HVB.out]
       refine HK.out _ _ HSQ.out.2.2.2.2.2 (fun hHeld => ?_)
       clear HK v0 v1 v2 v3 v4 v5 v6 v7
       refine wpAnyH_done (by kernel_rfl) ?_ _
       clear hHeld
       obtain ⟨n0, n1, n2, n3⟩ := HSW.out VB (by first | exact HSQ.out.2.2.2.1 | exact HSQ.out.2.2.2.2.2)
       have e2 := (HGVB.out.old _ HRB.out.2.1 HRB.out.2.2.1 HRB.out.2.2.2).trans HRB.out.1
       obtain ⟨z0, z1, z2, z3⟩ := box4 e2
       have zf : ∀ j, VB.frozen? ⟨RB, j, none⟩ = false := fun j => frozen_of_row _ _ j _ _ e2
       obtain ⟨W9, hW9, s1, s2, s3, s4, s5, s6⟩ := four_set (u0 := .int .i64 y.id) (u1 := .int .i64 y.kind) (u2 := .string y.text) (u3 := .slice va yn vc) e2
       have H9 := Lib.hid (And.intro hW9 (And.intro s1 (And.intro s2 (And.intro s3 (And.intro s4 (And.intro s5 s6))))))
       clear hW9 s1 s2 s3 s4 s5 s6 e2
       go_wp2_with fail
       rw [← H9.out.1]
       obtain ⟨hT, hR⟩ := HEND.out VB W9 HGVB.out H9.out.2
       exact each1_end rfl H9.out.2.1 hT (fun _ => by rw [← HY.out.1]; exact hR) (fun h => absurd HZ.out h) rfl (by rw [HZ.out]; rfl)
 · have hzb : (ye == 0) = false := by simpa using hz
   have HZ := Lib.hid (show ¬ (doK g (x.s.on t)).2 = 0 by rw [← HY.out.2]; exact hz)
   clear hz
   obtain ⟨n0, n1, n2, n3⟩ := box4 H2.out.2.2.2.1
   obtain ⟨z0, z1, z2, z3⟩ := box4 e2
   have zf : ∀ j, U.frozen? ⟨RB, j, none⟩ = false := fun j => frozen_of_row _ _ j _ _ e2
   obtain ⟨V, hV, s1, s2, s3, s4, s5, s6⟩ := four_set (u0 := .int .i64 y.id) (u1 := .int .i64 y.kind) (u2 := .string y.text) (u3 := .slice va yn vc) e2
   have HV := Lib.hid (And.intro hV (And.intro s1 (And.intro s2 (And.intro s3 (And.intro s4 (And.intro s5 s6))))))
   clear hV s1 s2 s3 s4 s5 s6 e2
   go_wp2_with fail
   rw [← HV.out.1]
   obtain ⟨hV, s1, s2, s3, s4, s5, s6⟩ := HV.out
   exact each1_end rfl (i := y.id) (k := y.kind) (x := y.text) (a := va) (n := yn) (c := vc) (g := RB) s1 ⟨s3.trans HWU.out.os, s4.trans HWU.out.tape, s5.trans HWU.out.output, by rw [s6]; exact HWU.out.size, fun q h1 h2 => (s2 q (by have := HRBE.out; omega)).trans (HWU.out.block q h1)⟩ (fun h => absurd h HZ.out) (fun _ => ⟨s3.trans HWU.out.os, s4.trans HWU.out.tape, s5.trans HWU.out.output, by rw [s6]; exact HWU.out.size, fun q h1 => (s2 q (by have := HRBE.out; omega)).trans (HWU.out.block q h1)⟩) rfl (by rw [← HY.out.2]; rfl)
end Go.Proofs.Ytonapijgfalpaaa
