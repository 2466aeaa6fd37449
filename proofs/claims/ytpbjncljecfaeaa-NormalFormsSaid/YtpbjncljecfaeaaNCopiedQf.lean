/-
  The document's copied: a step in new memory. No condition but that there are not too many nodes.
-/
import Derived.Deep.Cut
import Derived.Test.YtpbjncljecfaeaaNGreatQf
import Derived.Test.YtpbjncljecfaeaaNRowsQf
namespace Go.Proofs.Ytpbjncljecfaeaa
open Go.RowKit Go.Shelf
set_option linter.unusedVariables false
set_option linter.unusedSimpArgs false

theorem one_setN {V : World} {R1 i : Nat} {cs : Array Value} {T : TypeId} {u : Value} (h2 : V.heap[R1]? = some (.cells cs T (0, 0))) :
    ∃ V5, V5 = V.setCell ⟨R1, i, none⟩ u ∧ V5.heap[R1]? = some (.cells (cs.setIfInBounds i u) T (0, 0)) ∧ (∀ y, y ≠ R1 → V5.heap[y]? = V.heap[y]?) ∧ V5.os = V.os ∧ V5.tape = V.tape ∧ V5.output = V.output ∧ V5.heap.size = V.heap.size :=
  ⟨_, rfl, heap_setCell_same V R1 i _ _ u h2, fun y hy => Below.heap_setCell _ _ _ _ hy, rfl, rfl, rfl, by simp [World.setCell]⟩
theorem nine_setN {V : World} {R1 : Nat} {T : TypeId} {c0 c1 c2 c3 c4 c5 c6 c7 c8 u0 u1 u2 u3 u4 u5 u6 u7 u8 : Value} (h2 : V.heap[R1]? = some (.cells #[c0, c1, c2, c3, c4, c5, c6, c7, c8] T (0, 0))) :
    ∃ V5, V5 = (((((((((V.setCell ⟨R1, 0, none⟩ u0).setCell ⟨R1, 1, none⟩ u1).setCell ⟨R1, 2, none⟩ u2).setCell ⟨R1, 3, none⟩ u3).setCell ⟨R1, 4, none⟩ u4).setCell ⟨R1, 5, none⟩ u5).setCell ⟨R1, 6, none⟩ u6).setCell ⟨R1, 7, none⟩ u7).setCell ⟨R1, 8, none⟩ u8) ∧ V5.heap[R1]? = some (.cells #[u0, u1, u2, u3, u4, u5, u6, u7, u8] T (0, 0)) ∧ (∀ y, y ≠ R1 → V5.heap[y]? = V.heap[y]?) ∧ V5.os = V.os ∧ V5.tape = V.tape ∧ V5.output = V.output ∧ V5.heap.size = V.heap.size := by
  obtain ⟨V1, e1, g1, o1, a1, t1, p1, s1⟩ := one_setN (i := 0) (u := u0) h2
  obtain ⟨V2, e2, g2, o2, a2, t2, p2, s2⟩ := one_setN (i := 1) (u := u1) g1
  obtain ⟨V3, e3, g3, o3, a3, t3, p3, s3⟩ := one_setN (i := 2) (u := u2) g2
  obtain ⟨V4, e4, g4, o4, a4, t4, p4, s4⟩ := one_setN (i := 3) (u := u3) g3
  obtain ⟨V5, e5, g5, o5, a5, t5, p5, s5⟩ := one_setN (i := 4) (u := u4) g4
  obtain ⟨V6, e6, g6, o6, a6, t6, p6, s6⟩ := one_setN (i := 5) (u := u5) g5
  obtain ⟨V7, e7, g7, o7, a7, t7, p7, s7⟩ := one_setN (i := 6) (u := u6) g6
  obtain ⟨V8, e8, g8, o8, a8, t8, p8, s8⟩ := one_setN (i := 7) (u := u7) g7
  obtain ⟨V9, e9, g9, o9, a9, t9, p9, s9⟩ := one_setN (i := 8) (u := u8) g8
  refine ⟨V9, by rw [e9, e8, e7, e6, e5, e4, e3, e2, e1], by simpa using g9, fun y hy => by rw [o9 y hy, o8 y hy, o7 y hy, o6 y hy, o5 y hy, o4 y hy, o3 y hy, o2 y hy, o1 y hy], by rw [a9, a8, a7, a6, a5, a4, a3, a2, a1], by rw [t9, t8, t7, t6, t5, t4, t3, t2, t1], by rw [p9, p8, p7, p6, p5, p4, p3, p2, p1], by rw [s9, s8, s7, s6, s5, s4, s3, s2, s1]⟩
def CopiedC (s : Sf) (w : World) (e : Ending) (w' : World) : Prop := ∃ va vc, e = .returned (.agg #[.int .i8 s.op, .int .i64 s.id, .int .i64 s.par, .int .i64 s.at_, .string s.tx, .int .i64 s.sub.id, .int .i64 s.sub.kind, .string s.sub.text, .slice va (foLen s.sub.kids) vc]) ∧ foLen s.sub.kids ≤ vc ∧ FoAt w' (Fresh w w') s.sub.kids va ∧ Below w.heap.size w w'
set_option maxRecDepth 100000 in
set_option maxHeartbeats 8000000 in
theorem rcopied_any {X0 w : World} (s : Sf) (a : Option Addr) (n c : Nat) (hl : LiesI X0 s.sub.kids a c) (b0 : Below X0.heap.size X0 w) (hz : foSize s.sub.kids + 1 ≤ 100000) (hn : n = foLen s.sub.kids) :
    Calls Try.prog 21 #[.agg #[.int .i8 s.op, .int .i64 s.id, .int .i64 s.par, .int .i64 s.at_, .string s.tx, .int .i64 s.sub.id, .int .i64 s.sub.kind, .string s.sub.text, .slice a n c]] w (CopiedC s w) := by
  obtain ⟨B, hB⟩ : ∃ B, B = allocs w [.cells #[.int .i8 s.op, .int .i64 s.id, .int .i64 s.par, .int .i64 s.at_, .string s.tx, .int .i64 s.sub.id, .int .i64 s.sub.kind, .string s.sub.text, .slice a n c] 27, .cells #[.int .i8 0, .int .i64 0, .int .i64 0, .int .i64 0, .string ⟨#[]⟩, .int .i64 0, .int .i64 0, .string ⟨#[]⟩, .slice none 0 0] 27] := ⟨_, rfl⟩
  have hb : Below w.heap.size w B := by rw [hB]; exact allocs_below _ _
  have hs : B.heap.size = w.heap.size + 2 := by rw [hB]; exact allocs_size _ _
  have e0 : B.heap[w.heap.size]? = some (.cells #[.int .i8 s.op, .int .i64 s.id, .int .i64 s.par, .int .i64 s.at_, .string s.tx, .int .i64 s.sub.id, .int .i64 s.sub.kind, .string s.sub.text, .slice a n c] 27 (0, 0)) := by rw [hB]; exact allocs_at _ _ 0 _ rfl
  have e1 : B.heap[w.heap.size + 1]? = some (.cells #[.int .i8 0, .int .i64 0, .int .i64 0, .int .i64 0, .string ⟨#[]⟩, .int .i64 0, .int .i64 0, .string ⟨#[]⟩, .slice none 0 0] 27 (0, 0)) := by rw [hB]; exact allocs_at _ _ 1 _ rfl
  have HCP : Hid (Calls Try.prog 33 #[.agg #[.int .i64 s.sub.id, .int .i64 s.sub.kind, .string s.sub.text, .slice a n c]] B (RCopyC s.sub B)) := Lib.hid (by rw [hn]; exact rcopy_any _ B _ _ s.sub (Nat.lt_succ_self _) (by omega) (fun q hq => Nat.lt_of_lt_of_le hq (b0.trans (hb.mono b0.size)).size) (hl.at (b0.trans (hb.mono b0.size))))
  have HB := Lib.hid (And.intro hb (And.intro hs (And.intro e0 e1)))
  have HBE := Lib.hid hB
  have HN := Lib.hid hn
  clear hl b0 hb hs e0 e1 hB hz hn
  go_enter Try.func21, Try.ntmps21
  go_upto_region 1 with fail
  change Code.wp _ _ _ _ (allocs w [.cells #[.int .i8 s.op, .int .i64 s.id, .int .i64 s.par, .int .i64 s.at_, .string s.tx, .int .i64 s.sub.id, .int .i64 s.sub.kind, .string s.sub.text, .slice a n c] 27, .cells #[.int .i8 0, .int .i64 0, .int .i64 0, .int .i64 0, .string ⟨#[]⟩, .int .i64 0, .int .i64 0, .string ⟨#[]⟩, .slice none 0 0] 27])
  rw [← HBE.out]
  clear HBE
  obtain ⟨n0, n1, n2, n3, n4, n5, n6, n7, n8⟩ := box9 HB.out.2.2.1
  go_wp2_with fail
  refine HCP.out.mono ?_
  rintro e W1 ⟨_, rfl, ⟨va, vc, rfl, hvc, hvf⟩, hb1⟩
  rw [← HN.out] at hvc ⊢
  have et := (hb1.block _ (lt_of_heap HB.out.2.2.1)).trans HB.out.2.2.1
  have HV := Lib.hid (And.intro hvc (And.intro hvf hb1))
  have yf : ∀ j, W1.frozen? ⟨w.heap.size, j, none⟩ = false := fun j => frozen_of_row _ _ j _ _ et
  obtain ⟨V5, e5, g5, o5, a5, t5, p5, z5⟩ := one_setN (i := 5) (u := .int .i64 s.sub.id) et
  obtain ⟨V6, e6, g6, o6, a6, t6, p6, z6⟩ := one_setN (i := 6) (u := .int .i64 s.sub.kind) g5
  obtain ⟨V7, e7, g7, o7, a7, t7, p7, z7⟩ := one_setN (i := 7) (u := .string s.sub.text) g6
  obtain ⟨V8, e8, g8, o8, a8, t8, p8, z8⟩ := one_setN (i := 8) (u := .slice va n vc) g7
  have hV8 : V8 = ((((W1.setCell ⟨w.heap.size, 5, none⟩ (.int .i64 s.sub.id)).setCell ⟨w.heap.size, 6, none⟩ (.int .i64 s.sub.kind)).setCell ⟨w.heap.size, 7, none⟩ (.string s.sub.text)).setCell ⟨w.heap.size, 8, none⟩ (.slice va n vc)) := by rw [e8, e7, e6, e5]
  have g8' : V8.heap[w.heap.size]? = some (.cells #[.int .i8 s.op, .int .i64 s.id, .int .i64 s.par, .int .i64 s.at_, .string s.tx, .int .i64 s.sub.id, .int .i64 s.sub.kind, .string s.sub.text, .slice va n vc] 27 (0, 0)) := by simpa using g8
  obtain ⟨m0, m1, m2, m3, m4, m5, m6, m7, m8⟩ := box9 et
  have HK := Lib.hid (And.intro g8' (And.intro (show ∀ y, y ≠ w.heap.size → V8.heap[y]? = W1.heap[y]? from fun y hy => by rw [o8 y hy, o7 y hy, o6 y hy, o5 y hy]) (And.intro (show V8.os = W1.os by rw [a8, a7, a6, a5]) (And.intro (show V8.tape = W1.tape by rw [t8, t7, t6, t5]) (And.intro (show V8.output = W1.output by rw [p8, p7, p6, p5]) (show V8.heap.size = W1.heap.size by rw [z8, z7, z6, z5]))))))
  have HV8 := Lib.hid hV8
  clear e5 g5 o5 a5 t5 p5 z5 e6 g6 o6 a6 t6 p6 z6 e7 g7 o7 a7 t7 p7 z7 e8 g8 o8 a8 t8 p8 z8 hV8 g8' hvc hvf hb1 et n0 n1 n2 n3 n4 n5 n6 n7 n8 V5 V6 V7
  go_upto_region 2 with fail
  rw [← HV8.out]
  clear HV8 yf m0 m1 m2 m3 m4 m5 m6 m7 m8
  obtain ⟨m0, m1, m2, m3, m4, m5, m6, m7, m8⟩ := box9 HK.out.1
  have er := (HK.out.2.1 (w.heap.size + 1) (by omega)).trans ((HV.out.2.2.block _ (lt_of_heap HB.out.2.2.2)).trans HB.out.2.2.2)
  obtain ⟨z0, z1, z2, z3, z4, z5, z6, z7, z8⟩ := box9 er
  have zf : ∀ j, V8.frozen? ⟨w.heap.size + 1, j, none⟩ = false := fun j => frozen_of_row _ _ j _ _ er
  obtain ⟨V, hV, r1, r2, r3, r4, r5, r6⟩ := nine_setN (u0 := .int .i8 s.op) (u1 := .int .i64 s.id) (u2 := .int .i64 s.par) (u3 := .int .i64 s.at_) (u4 := .string s.tx) (u5 := .int .i64 s.sub.id) (u6 := .int .i64 s.sub.kind) (u7 := .string s.sub.text) (u8 := .slice va n vc) er
  have HE := Lib.hid (And.intro hV (And.intro r1 (And.intro r2 (And.intro r3 (And.intro r4 (And.intro r5 r6))))))
  clear hV r1 r2 r3 r4 r5 r6 er
  go_wp2_with fail
  rw [← HE.out.1]
  obtain ⟨hV, r1, r2, r3, r4, r5, r6⟩ := HE.out
  obtain ⟨_, k1, k2, k3, k4, k5⟩ := HK.out
  have hBs := HB.out.2.1
  refine bodyPost_ret (results_cell_row rfl _ _ (w.heap.size + 1) 27 _ (0, 0) _ rfl r1 Try.underlying27 rfl (by kernel_rfl)) rfl ?_
  have hb1 := HV.out.2.2
  have hb1s := hb1.size
  exact ⟨va, vc, by rw [HN.out], by rw [← HN.out]; exact HV.out.1, HV.out.2.1.kept fun x hx => ⟨⟨by have := hx.1; omega, by rw [r6, k5]; exact hx.2⟩, (r2 x (by have := hx.1; omega)).trans (k1 x (by have := hx.1; omega))⟩, ⟨r3.trans (k2.trans (hb1.os.trans HB.out.1.os)), r4.trans (k3.trans (hb1.tape.trans HB.out.1.tape)), r5.trans (k4.trans (hb1.output.trans HB.out.1.output)), by rw [r6, k5]; omega, fun x hx => (r2 x (by omega)).trans ((k1 x (by omega)).trans ((hb1.block x (by omega)).trans (HB.out.1.block x hx)))⟩⟩
end Go.Proofs.Ytpbjncljecfaeaa
