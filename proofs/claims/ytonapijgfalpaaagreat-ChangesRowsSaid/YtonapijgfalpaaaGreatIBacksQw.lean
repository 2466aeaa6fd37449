/-
  .
-/
import Derived.Deep.Cut
import Derived.Test.YtonapijgfalpaaaGreatIWhenceQw
import Derived.Test.YtonapijgfalpaaaGreatICopiedQw
import Derived.Test.YtonapijgfalpaaaGreatJPgQw
set_option maxRecDepth 100000
set_option maxHeartbeats 40000000
namespace Go.Proofs.YtonapijgfalpaaaGreat
open Go.RowKit Go.Shelf
set_option linter.unusedVariables false
set_option linter.unusedSimpArgs false
def zfj (w : World) (S : Nat → Prop) (v : Value) (s : Sf) : Prop := ∃ ka kc, v = .agg #[.int .i8 s.op, .int .i64 s.id, .int .i64 s.par, .int .i64 s.at_, .string s.tx, .int .i64 s.sub.id, .int .i64 s.sub.kind, .string s.sub.text, .slice ka (zb s.sub.kids) kc] ∧ zb s.sub.kids ≤ kc ∧ zF w S s.sub.kids ka
def jK (w : World) (S : Nat → Prop) (s : Sf) (e : Ending) (w' : World) : Prop := ∃ v, e = .returned v ∧ zfj w' (fun y => (S y ∨ w.heap.size ≤ y) ∧ y < w'.heap.size) v s ∧ Below w.heap.size w w'
theorem one_set {V : World} {R1 i : Nat} {cs : Array Value} {T : TypeId} {u : Value} (h2 : V.heap[R1]? = some (.cells cs T (0, 0))) :
 ∃ V5, V5 = V.setCell ⟨R1, i, none⟩ u ∧ V5.heap[R1]? = some (.cells (cs.setIfInBounds i u) T (0, 0)) ∧ (∀ y, y ≠ R1 → V5.heap[y]? = V.heap[y]?) ∧ V5.os = V.os ∧ V5.tape = V.tape ∧ V5.output = V.output ∧ V5.heap.size = V.heap.size :=
 ⟨_, rfl, heap_setCell_same V R1 i _ _ u h2, fun y hy => Below.heap_setCell _ _ _ _ hy, rfl, rfl, rfl, by simp [World.setCell]⟩
theorem vJ {V : World} {R1 : Nat} {c0 c1 c2 c3 c4 c5 c6 c7 c8 u0 u1 u2 u3 u4 u5 u6 u7 u8 : Value} (h2 : V.heap[R1]? = some (.cells #[c0, c1, c2, c3, c4, c5, c6, c7, c8] 49 (0, 0))) :
 ∃ V5, V5 = (((((((((V.setCell ⟨R1, 0, none⟩ u0).setCell ⟨R1, 1, none⟩ u1).setCell ⟨R1, 2, none⟩ u2).setCell ⟨R1, 3, none⟩ u3).setCell ⟨R1, 4, none⟩ u4).setCell ⟨R1, 5, none⟩ u5).setCell ⟨R1, 6, none⟩ u6).setCell ⟨R1, 7, none⟩ u7).setCell ⟨R1, 8, none⟩ u8) ∧ V5.heap[R1]? = some (.cells #[u0, u1, u2, u3, u4, u5, u6, u7, u8] 49 (0, 0)) ∧ (∀ y, y ≠ R1 → V5.heap[y]? = V.heap[y]?) ∧ V5.os = V.os ∧ V5.tape = V.tape ∧ V5.output = V.output ∧ V5.heap.size = V.heap.size := by
 obtain ⟨V1, e1, g1, o1, a1, t1, p1, s1⟩ := one_set (i := 0) (u := u0) h2
 obtain ⟨V2, e2, g2, o2, a2, t2, p2, s2⟩ := one_set (i := 1) (u := u1) g1
 obtain ⟨V3, e3, g3, o3, a3, t3, p3, s3⟩ := one_set (i := 2) (u := u2) g2
 obtain ⟨V4, e4, g4, o4, a4, t4, p4, s4⟩ := one_set (i := 3) (u := u3) g3
 obtain ⟨V5, e5, g5, o5, a5, t5, p5, s5⟩ := one_set (i := 4) (u := u4) g4
 obtain ⟨V6, e6, g6, o6, a6, t6, p6, s6⟩ := one_set (i := 5) (u := u5) g5
 obtain ⟨V7, e7, g7, o7, a7, t7, p7, s7⟩ := one_set (i := 6) (u := u6) g6
 obtain ⟨V8, e8, g8, o8, a8, t8, p8, s8⟩ := one_set (i := 7) (u := u7) g7
 obtain ⟨V9, e9, g9, o9, a9, t9, p9, s9⟩ := one_set (i := 8) (u := u8) g8
 refine ⟨V9, by rw [e9, e8, e7, e6, e5, e4, e3, e2, e1], by simpa using g9, fun y hy => by rw [o9 y hy, o8 y hy, o7 y hy, o6 y hy, o5 y hy, o4 y hy, o3 y hy, o2 y hy, o1 y hy], by rw [a9, a8, a7, a6, a5, a4, a3, a2, a1], by rw [t9, t8, t7, t6, t5, t4, t3, t2, t1], by rw [p9, p8, p7, p6, p5, p4, p3, p2, p1], by rw [s9, s8, s7, s6, s5, s4, s3, s2, s1]⟩
theorem yP {w : World} {b : Nat} {c0 c1 c2 c3 c4 c5 c6 c7 c8 : Value} {T : TypeId} (h : w.heap[b]? = some (.cells #[c0, c1, c2, c3, c4, c5, c6, c7, c8] T (0, 0))) : w.cell? ⟨b, 0, none⟩ = some c0 ∧ w.cell? ⟨b, 1, none⟩ = some c1 ∧ w.cell? ⟨b, 2, none⟩ = some c2 ∧ w.cell? ⟨b, 3, none⟩ = some c3 ∧ w.cell? ⟨b, 4, none⟩ = some c4 ∧ w.cell? ⟨b, 5, none⟩ = some c5 ∧ w.cell? ⟨b, 6, none⟩ = some c6 ∧ w.cell? ⟨b, 7, none⟩ = some c7 ∧ w.cell? ⟨b, 8, none⟩ = some c8 :=
 ⟨by rw [cell_of_row _ _ 0 _ _ _ h]; rfl, by rw [cell_of_row _ _ 1 _ _ _ h]; rfl, by rw [cell_of_row _ _ 2 _ _ _ h]; rfl, by rw [cell_of_row _ _ 3 _ _ _ h]; rfl, by rw [cell_of_row _ _ 4 _ _ _ h]; rfl, by rw [cell_of_row _ _ 5 _ _ _ h]; rfl, by rw [cell_of_row _ _ 6 _ _ _ h]; rfl, by rw [cell_of_row _ _ 7 _ _ _ h]; rfl, by rw [cell_of_row _ _ 8 _ _ _ h]; rfl⟩
theorem zfG (w : World) (S : Nat → Prop) (nv : Value) (t : Tr) (op id par at_ s1 s2 : Int) (tx s3 : ByteArray) (sa : Option Addr) (sn sc : Nat) (hS : ∀ y, S y → y < w.heap.size) (ht : zL w S nv t) (hsz : ze t.kids ≤ 300000) :
 Calls Tryz.prog 112 #[nv, .agg #[.int .i8 op, .int .i64 id, .int .i64 par, .int .i64 at_, .string tx, .int .i64 s1, .int .i64 s2, .string s3, .slice sa sn sc]] w (jK w S ⟨2, s1, 0, 0, ⟨#[]⟩, zA⟩) := by
 obtain ⟨ka, tc, rfl, hcap, hk⟩ := ht
 obtain ⟨nk, hnk⟩ : ∃ nk, nk = zb t.kids := ⟨_, rfl⟩
 rw [← hnk]
 obtain ⟨B, hB⟩ : ∃ B, B = zo w [.cells #[.int .i64 t.id, .int .i64 t.kind, .string t.text, .slice ka nk tc] 37, .cells #[.int .i8 op, .int .i64 id, .int .i64 par, .int .i64 at_, .string tx, .int .i64 s1, .int .i64 s2, .string s3, .slice sa sn sc] 49, .cells #[.int .i8 0, .int .i64 0, .int .i64 0, .int .i64 0, .string ⟨#[]⟩, .int .i64 0, .int .i64 0, .string ⟨#[]⟩, .slice none 0 0] 49] := ⟨_, rfl⟩
 have hb : Below w.heap.size w B := by rw [hB]; exact zk _ _
 have hs : B.heap.size = w.heap.size + 3 := by rw [hB]; exact zx _ _
 have ht0 : B.heap[w.heap.size]? = some (.cells #[.int .i64 t.id, .int .i64 t.kind, .string t.text, .slice ka nk tc] 37 (0, 0)) := by rw [hB]; exact zg _ _ 0 _ rfl
 have hs0 : B.heap[w.heap.size + 1]? = some (.cells #[.int .i8 op, .int .i64 id, .int .i64 par, .int .i64 at_, .string tx, .int .i64 s1, .int .i64 s2, .string s3, .slice sa sn sc] 49 (0, 0)) := by rw [hB]; exact zg _ _ 1 _ rfl
 have hr0 : B.heap[w.heap.size + 1 + 1]? = some (.cells #[.int .i8 0, .int .i64 0, .int .i64 0, .int .i64 0, .string ⟨#[]⟩, .int .i64 0, .int .i64 0, .string ⟨#[]⟩, .slice none 0 0] 49 (0, 0)) := by rw [hB]; exact zg _ _ 2 _ rfl
 obtain ⟨V9, hV9, v1, v2, v3, v4, v5, v6⟩ := vJ (u0 := .int .i8 2) (u1 := .int .i64 s1) (u2 := .int .i64 0) (u3 := .int .i64 0) (u4 := .string ⟨#[]⟩) (u5 := .int .i64 0) (u6 := .int .i64 0) (u7 := .string ⟨#[]⟩) (u8 := .slice none 0 0) hr0
 obtain ⟨m0, m1, m2, m3, m4, m5, m6, m7, m8⟩ := yP hs0
 obtain ⟨z0, z1, z2, z3, z4, z5, z6, z7, z8⟩ := yP hr0
 have zf : ∀ j, B.frozen? ⟨w.heap.size + 1 + 1, j, none⟩ = false := fun j => frozen_of_row _ _ j _ _ hr0
 have HEND : Hid (jK w S ⟨2, s1, 0, 0, ⟨#[]⟩, zA⟩ (.returned (.agg #[.int .i8 2, .int .i64 s1, .int .i64 0, .int .i64 0, .string ⟨#[]⟩, .int .i64 0, .int .i64 0, .string ⟨#[]⟩, .slice none 0 0])) V9) := hH ⟨_, rfl, ⟨none, 0, rfl, Nat.le_refl _, True.intro⟩, ⟨v3.trans hb.os, v4.trans hb.tape, v5.trans hb.output, by rw [v6]; exact hb.size, fun y hy => (v2 y (by omega)).trans (hb.block y hy)⟩⟩
 have HV9 := hH (aN hV9 v1)
 have HBE := hH hB
 clear hb hs ht0 hs0 hr0 hB hnk hcap hk hS hsz hV9 v1 v2 v3 v4 v5 v6
 go_enter Tryz.func112, Tryz.ntmps112
 go_upto_region 1 with fail
 change Code.wp _ _ _ _ (zo w [.cells #[.int .i64 t.id, .int .i64 t.kind, .string t.text, .slice ka nk tc] 37, .cells #[.int .i8 op, .int .i64 id, .int .i64 par, .int .i64 at_, .string tx, .int .i64 s1, .int .i64 s2, .string s3, .slice sa sn sc] 49, .cells #[.int .i8 0, .int .i64 0, .int .i64 0, .int .i64 0, .string ⟨#[]⟩, .int .i64 0, .int .i64 0, .string ⟨#[]⟩, .slice none 0 0] 49])
 rw [← HBE.out]
 clear HBE
 go_wp2_with fail
 rw [← HV9.out.1]
 refine bodyPost_ret (qg rfl _ _ (w.heap.size + 1 + 1) 49 _ (0, 0) _ rfl HV9.out.2 Tryz.underlying49 rfl (by kernel_rfl)) rfl ?_
 exact HEND.out
theorem zfD (w : World) (S : Nat → Prop) (nv : Value) (t : Tr) (op id par at_ s1 s2 : Int) (tx s3 : ByteArray) (sa : Option Addr) (sn sc : Nat) (hS : ∀ y, S y → y < w.heap.size) (ht : zL w S nv t) (hsz : ze t.kids ≤ 300000) :
 Calls Tryz.prog 113 #[nv, .agg #[.int .i8 op, .int .i64 id, .int .i64 par, .int .i64 at_, .string tx, .int .i64 s1, .int .i64 s2, .string s3, .slice sa sn sc]] w (jK w S ⟨1, 0, (yB id t).2.1, (yB id t).2.2, ⟨#[]⟩, (yB id t).1⟩) := by
 obtain ⟨ka, tc, rfl, hcap, hk⟩ := ht
 obtain ⟨nk, hnk⟩ : ∃ nk, nk = zb t.kids := ⟨_, rfl⟩
 rw [← hnk]
 obtain ⟨B, hB⟩ : ∃ B, B = zo w [.cells #[.int .i64 t.id, .int .i64 t.kind, .string t.text, .slice ka nk tc] 37, .cells #[.int .i8 op, .int .i64 id, .int .i64 par, .int .i64 at_, .string tx, .int .i64 s1, .int .i64 s2, .string s3, .slice sa sn sc] 49, .cells #[.int .i8 0, .int .i64 0, .int .i64 0, .int .i64 0, .string ⟨#[]⟩, .int .i64 0, .int .i64 0, .string ⟨#[]⟩, .slice none 0 0] 49] := ⟨_, rfl⟩
 have hb : Below w.heap.size w B := by rw [hB]; exact zk _ _
 have hs : B.heap.size = w.heap.size + 3 := by rw [hB]; exact zx _ _
 have ht0 : B.heap[w.heap.size]? = some (.cells #[.int .i64 t.id, .int .i64 t.kind, .string t.text, .slice ka nk tc] 37 (0, 0)) := by rw [hB]; exact zg _ _ 0 _ rfl
 have hs0 : B.heap[w.heap.size + 1]? = some (.cells #[.int .i8 op, .int .i64 id, .int .i64 par, .int .i64 at_, .string tx, .int .i64 s1, .int .i64 s2, .string s3, .slice sa sn sc] 49 (0, 0)) := by rw [hB]; exact zg _ _ 1 _ rfl
 have hr0 : B.heap[w.heap.size + 1 + 1]? = some (.cells #[.int .i8 0, .int .i64 0, .int .i64 0, .int .i64 0, .string ⟨#[]⟩, .int .i64 0, .int .i64 0, .string ⟨#[]⟩, .slice none 0 0] 49 (0, 0)) := by rw [hB]; exact zg _ _ 2 _ rfl
 have hcall := Qg B S (.agg #[.int .i64 t.id, .int .i64 t.kind, .string t.text, .slice ka nk tc]) t id (fun y hy => nL (hS y hy) hb.size) ⟨ka, tc, by rw [hnk], hcap, hk.below hb hS⟩ hsz
 obtain ⟨r, hr⟩ : ∃ r, r = yB id t := ⟨_, rfl⟩
 rw [← hr] at hcall ⊢
 obtain ⟨u, pr, pl⟩ := r
 simp only at hcall ⊢
 obtain ⟨b0, b1, b2, b3⟩ := zJ ht0
 obtain ⟨m0, m1, m2, m3, m4, m5, m6, m7, m8⟩ := yP hs0
 have HC := hH hcall
 have HB := hH (aN hb (aN hs (aN hs0 (aN hr0 hS))))
 have HBE := hH hB
 clear hcall hb hs ht0 hs0 hr0 hB hnk hcap hk hS hsz hr
 go_enter Tryz.func113, Tryz.ntmps113
 go_upto_region 1 with fail
 change Code.wp _ _ _ _ (zo w [.cells #[.int .i64 t.id, .int .i64 t.kind, .string t.text, .slice ka nk tc] 37, .cells #[.int .i8 op, .int .i64 id, .int .i64 par, .int .i64 at_, .string tx, .int .i64 s1, .int .i64 s2, .string s3, .slice sa sn sc] 49, .cells #[.int .i8 0, .int .i64 0, .int .i64 0, .int .i64 0, .string ⟨#[]⟩, .int .i64 0, .int .i64 0, .string ⟨#[]⟩, .slice none 0 0] 49])
 rw [← HBE.out]
 clear HBE
 go_wp2_with fail
 refine HC.out.mono ?_
 rintro e W ⟨v, rfl, ⟨va, vc, rfl, hvc, hvf⟩, hbW⟩
 obtain ⟨un, hun⟩ : ∃ un, un = zb u.kids := ⟨_, rfl⟩
 simp only at hvc hvf ⊢
 rw [← hun] at hvc ⊢
 obtain ⟨hb, hs, hs0, hr0, hS⟩ := HB.out
 have hWz := hbW.size
 obtain ⟨V, hV⟩ : ∃ V, V = W.alloc (.cells #[.int .i64 u.id, .int .i64 u.kind, .string u.text, .slice va un vc] 37) := ⟨_, rfl⟩
 have r1 : V.heap[W.heap.size]? = some (.cells #[.int .i64 u.id, .int .i64 u.kind, .string u.text, .slice va un vc] 37 (0, 0)) := by rw [hV]; exact heap_alloc_new W _
 have hVs : V.heap.size = W.heap.size + 1 := by rw [hV]; simp
 have hold : ∀ y, y < W.heap.size → V.heap[y]? = W.heap[y]? := fun y hy => by rw [hV]; exact Below.heap_alloc _ _ _ hy
 have r3 : V.os = W.os := by rw [hV]; rfl
 have r4 : V.tape = W.tape := by rw [hV]; rfl
 have r5 : V.output = W.output := by rw [hV]; rfl
 have hs1 := (hold _ (by omega)).trans ((hbW.block _ (lt_of_heap hs0)).trans hs0)
 have hr1 := (hold _ (by omega)).trans ((hbW.block _ (lt_of_heap hr0)).trans hr0)
 obtain ⟨V9, hV9, v1, v2, v3, v4, v5, v6⟩ := vJ (u0 := .int .i8 1) (u1 := .int .i64 0) (u2 := .int .i64 pr) (u3 := .int .i64 pl) (u4 := .string ⟨#[]⟩) (u5 := .int .i64 u.id) (u6 := .int .i64 u.kind) (u7 := .string u.text) (u8 := .slice va un vc) hr1
 have hbV9 : Below w.heap.size w V9 := ⟨(v3.trans r3).trans (hbW.os.trans hb.os), (v4.trans r4).trans (hbW.tape.trans hb.tape), (v5.trans r5).trans (hbW.output.trans hb.output), by rw [v6, hVs]; omega, fun y hy => (v2 y (by omega)).trans ((hold y (by omega)).trans ((hbW.block y (by omega)).trans (hb.block y hy)))⟩
 have HEND : Hid (jK w S ⟨1, 0, pr, pl, ⟨#[]⟩, u⟩ (.returned (.agg #[.int .i8 1, .int .i64 0, .int .i64 pr, .int .i64 pl, .string ⟨#[]⟩, .int .i64 u.id, .int .i64 u.kind, .string u.text, .slice va un vc])) V9) := hH ⟨_, rfl, ⟨va, vc, by rw [hun], by rw [← hun]; exact hvc, hvf.kept fun y hy => ⟨⟨Or.inl hy, show y < V9.heap.size by rw [v6, hVs]; have := hS y hy; omega⟩, (v2 y (by have := hS y hy; omega)).trans (hold y (by have := hS y hy; omega))⟩⟩, hbV9⟩
 have HV9 := hH (aN hV9 v1)
 have HVE := hH hV
 have HV := hH (aN r1 (aN hs1 hr1))
 clear hvc hvf hbW hun hb hs hs0 hr0 hS hWz hV r1 r3 r4 r5 hVs hold hs1 hr1 hV9 v1 v2 v3 v4 v5 v6 hbV9 b0 b1 b2 b3 m0 m1 m2 m3 m4 m5 m6 m7 m8
 go_upto_region 2 with fail
 rw [← HVE.out]
 obtain ⟨r1, hs1, hr1⟩ := HV.out
 obtain ⟨b0, b1, b2, b3⟩ := zJ r1
 obtain ⟨m0, m1, m2, m3, m4, m5, m6, m7, m8⟩ := yP hs1
 obtain ⟨z0, z1, z2, z3, z4, z5, z6, z7, z8⟩ := yP hr1
 have zf : ∀ j, V.frozen? ⟨w.heap.size + 1 + 1, j, none⟩ = false := fun j => frozen_of_row _ _ j _ _ hr1
 clear r1 hs1 hr1
 go_wp2_with fail
 rw [← HV9.out.1]
 refine bodyPost_ret (qg rfl _ _ (w.heap.size + 1 + 1) 49 _ (0, 0) _ rfl HV9.out.2 Tryz.underlying49 rfl (by kernel_rfl)) rfl ?_
 exact HEND.out
theorem QK (w : World) (S : Nat → Prop) (nv : Value) (t : Tr) (op id par at_ s1 s2 : Int) (tx s3 : ByteArray) (sa : Option Addr) (sn sc : Nat) (hS : ∀ y, S y → y < w.heap.size) (ht : zL w S nv t) (hsz : ze t.kids ≤ 300000) :
 Calls Tryz.prog 115 #[nv, .agg #[.int .i8 op, .int .i64 id, .int .i64 par, .int .i64 at_, .string tx, .int .i64 s1, .int .i64 s2, .string s3, .slice sa sn sc]] w (jK w S ⟨4, id, 0, 0, (yB id t).1.text, zA⟩) := by
 obtain ⟨ka, tc, rfl, hcap, hk⟩ := ht
 obtain ⟨nk, hnk⟩ : ∃ nk, nk = zb t.kids := ⟨_, rfl⟩
 rw [← hnk]
 obtain ⟨B, hB⟩ : ∃ B, B = zo w [.cells #[.int .i64 t.id, .int .i64 t.kind, .string t.text, .slice ka nk tc] 37, .cells #[.int .i8 op, .int .i64 id, .int .i64 par, .int .i64 at_, .string tx, .int .i64 s1, .int .i64 s2, .string s3, .slice sa sn sc] 49, .cells #[.int .i8 0, .int .i64 0, .int .i64 0, .int .i64 0, .string ⟨#[]⟩, .int .i64 0, .int .i64 0, .string ⟨#[]⟩, .slice none 0 0] 49] := ⟨_, rfl⟩
 have hb : Below w.heap.size w B := by rw [hB]; exact zk _ _
 have hs : B.heap.size = w.heap.size + 3 := by rw [hB]; exact zx _ _
 have ht0 : B.heap[w.heap.size]? = some (.cells #[.int .i64 t.id, .int .i64 t.kind, .string t.text, .slice ka nk tc] 37 (0, 0)) := by rw [hB]; exact zg _ _ 0 _ rfl
 have hs0 : B.heap[w.heap.size + 1]? = some (.cells #[.int .i8 op, .int .i64 id, .int .i64 par, .int .i64 at_, .string tx, .int .i64 s1, .int .i64 s2, .string s3, .slice sa sn sc] 49 (0, 0)) := by rw [hB]; exact zg _ _ 1 _ rfl
 have hr0 : B.heap[w.heap.size + 1 + 1]? = some (.cells #[.int .i8 0, .int .i64 0, .int .i64 0, .int .i64 0, .string ⟨#[]⟩, .int .i64 0, .int .i64 0, .string ⟨#[]⟩, .slice none 0 0] 49 (0, 0)) := by rw [hB]; exact zg _ _ 2 _ rfl
 have hcall := Qg B S (.agg #[.int .i64 t.id, .int .i64 t.kind, .string t.text, .slice ka nk tc]) t id (fun y hy => nL (hS y hy) hb.size) ⟨ka, tc, by rw [hnk], hcap, hk.below hb hS⟩ hsz
 obtain ⟨r, hr⟩ : ∃ r, r = yB id t := ⟨_, rfl⟩
 rw [← hr] at hcall ⊢
 obtain ⟨u, pr, pl⟩ := r
 simp only at hcall ⊢
 obtain ⟨b0, b1, b2, b3⟩ := zJ ht0
 obtain ⟨m0, m1, m2, m3, m4, m5, m6, m7, m8⟩ := yP hs0
 have HC := hH hcall
 have HB := hH (aN hb (aN hs (aN hs0 (aN hr0 hS))))
 have HBE := hH hB
 clear hcall hb hs ht0 hs0 hr0 hB hnk hcap hk hS hsz hr
 go_enter Tryz.func115, Tryz.ntmps115
 go_upto_region 1 with fail
 change Code.wp _ _ _ _ (zo w [.cells #[.int .i64 t.id, .int .i64 t.kind, .string t.text, .slice ka nk tc] 37, .cells #[.int .i8 op, .int .i64 id, .int .i64 par, .int .i64 at_, .string tx, .int .i64 s1, .int .i64 s2, .string s3, .slice sa sn sc] 49, .cells #[.int .i8 0, .int .i64 0, .int .i64 0, .int .i64 0, .string ⟨#[]⟩, .int .i64 0, .int .i64 0, .string ⟨#[]⟩, .slice none 0 0] 49])
 rw [← HBE.out]
 clear HBE
 go_wp2_with fail
 refine HC.out.mono ?_
 rintro e W ⟨v, rfl, ⟨va, vc, rfl, hvc, hvf⟩, hbW⟩
 obtain ⟨un, hun⟩ : ∃ un, un = zb u.kids := ⟨_, rfl⟩
 simp only at hvc hvf ⊢
 rw [← hun] at hvc ⊢
 obtain ⟨hb, hs, hs0, hr0, hS⟩ := HB.out
 have hWz := hbW.size
 obtain ⟨V, hV⟩ : ∃ V, V = W.alloc (.cells #[.int .i64 u.id, .int .i64 u.kind, .string u.text, .slice va un vc] 37) := ⟨_, rfl⟩
 have r1 : V.heap[W.heap.size]? = some (.cells #[.int .i64 u.id, .int .i64 u.kind, .string u.text, .slice va un vc] 37 (0, 0)) := by rw [hV]; exact heap_alloc_new W _
 have hVs : V.heap.size = W.heap.size + 1 := by rw [hV]; simp
 have hold : ∀ y, y < W.heap.size → V.heap[y]? = W.heap[y]? := fun y hy => by rw [hV]; exact Below.heap_alloc _ _ _ hy
 have r3 : V.os = W.os := by rw [hV]; rfl
 have r4 : V.tape = W.tape := by rw [hV]; rfl
 have r5 : V.output = W.output := by rw [hV]; rfl
 have hs1 := (hold _ (by omega)).trans ((hbW.block _ (lt_of_heap hs0)).trans hs0)
 have hr1 := (hold _ (by omega)).trans ((hbW.block _ (lt_of_heap hr0)).trans hr0)
 obtain ⟨V9, hV9, v1, v2, v3, v4, v5, v6⟩ := vJ (u0 := .int .i8 4) (u1 := .int .i64 id) (u2 := .int .i64 0) (u3 := .int .i64 0) (u4 := .string u.text) (u5 := .int .i64 0) (u6 := .int .i64 0) (u7 := .string ⟨#[]⟩) (u8 := .slice none 0 0) hr1
 have hbV9 : Below w.heap.size w V9 := ⟨(v3.trans r3).trans (hbW.os.trans hb.os), (v4.trans r4).trans (hbW.tape.trans hb.tape), (v5.trans r5).trans (hbW.output.trans hb.output), by rw [v6, hVs]; omega, fun y hy => (v2 y (by omega)).trans ((hold y (by omega)).trans ((hbW.block y (by omega)).trans (hb.block y hy)))⟩
 have HEND : Hid (jK w S ⟨4, id, 0, 0, u.text, zA⟩ (.returned (.agg #[.int .i8 4, .int .i64 id, .int .i64 0, .int .i64 0, .string u.text, .int .i64 0, .int .i64 0, .string ⟨#[]⟩, .slice none 0 0])) V9) := hH ⟨_, rfl, ⟨none, 0, rfl, Nat.le_refl _, True.intro⟩, hbV9⟩
 have HV9 := hH (aN hV9 v1)
 have HVE := hH hV
 have HV := hH (aN r1 (aN hs1 hr1))
 clear hvc hvf hbW hun hb hs hs0 hr0 hS hWz hV r1 r3 r4 r5 hVs hold hs1 hr1 hV9 v1 v2 v3 v4 v5 v6 hbV9 b0 b1 b2 b3 m0 m1 m2 m3 m4 m5 m6 m7 m8
 go_upto_region 2 with fail
 rw [← HVE.out]
 obtain ⟨r1, hs1, hr1⟩ := HV.out
 obtain ⟨b0, b1, b2, b3⟩ := zJ r1
 obtain ⟨m0, m1, m2, m3, m4, m5, m6, m7, m8⟩ := yP hs1
 obtain ⟨z0, z1, z2, z3, z4, z5, z6, z7, z8⟩ := yP hr1
 have zf : ∀ j, V.frozen? ⟨w.heap.size + 1 + 1, j, none⟩ = false := fun j => frozen_of_row _ _ j _ _ hr1
 clear r1 hs1 hr1
 go_wp2_with fail
 rw [← HV9.out.1]
 refine bodyPost_ret (qg rfl _ _ (w.heap.size + 1 + 1) 49 _ (0, 0) _ rfl HV9.out.2 Tryz.underlying49 rfl (by kernel_rfl)) rfl ?_
 exact HEND.out
end Go.Proofs.YtonapijgfalpaaaGreat
