/-
  The document's Step. No condition.
-/
import Derived.Test.YtljlijdgocfofaaDTree
namespace Go.Proofs.Ytljlijdgocfofaa
open Go.RowKit
open Extern.Stop (cell)

/-- What stands in a step, read one behind the other. -/
theorem chain_step {s s1 s2 s3 s4 s5 s6 : Rd} {op id pa pl : Int} {tx : ByteArray}
    (h1 : s1 = aft s (pSmall s.data s.pos)) (h2 : s2 = aft s1 (pNum s1.data s1.pos)) (h3 : s3 = aft s2 (pNum s2.data s2.pos)) (h4 : s4 = aft s3 (pNum s3.data s3.pos)) (h5 : s5 = aft s4 (pText s4.data s4.pos)) (h6 : s6 = aft s5 (pTree s5.data s5.pos))
    (v1 : ∀ y q, s.bad = false → pSmall s.data s.pos = .ok (y, q) → op = y) (v2 : ∀ y q, s1.bad = false → pNum s1.data s1.pos = .ok (y, q) → id = y) (v3 : ∀ y q, s2.bad = false → pNum s2.data s2.pos = .ok (y, q) → pa = y) (v4 : ∀ y q, s3.bad = false → pNum s3.data s3.pos = .ok (y, q) → pl = y) (v5 : ∀ y q, s4.bad = false → pText s4.data s4.pos = .ok (y, q) → tx = y) :
    s6 = aft s (pStep s.data s.pos) ∧ ∀ x q, s.bad = false → pStep s.data s.pos = .ok (x, q) → op = x.op ∧ id = x.id ∧ pa = x.parent ∧ pl = x.place ∧ tx = x.text ∧ s5.bad = false ∧ ∃ q', pTree s5.data s5.pos = .ok (x.sub, q') := by
  by_cases hb : s.bad = true
  · rw [aft_stuck _ hb] at h1; subst h1
    rw [aft_stuck _ hb] at h2; subst h2
    rw [aft_stuck _ hb] at h3; subst h3
    rw [aft_stuck _ hb] at h4; subst h4
    rw [aft_stuck _ hb] at h5; subst h5
    rw [aft_stuck _ hb] at h6; subst h6
    exact ⟨(aft_stuck _ hb).symm, fun x q h => by rw [hb] at h; cases h⟩
  have hb : s.bad = false := by simpa using hb
  cases e1 : pSmall s.data s.pos with
  | error p =>
    have a : s1 = { s with pos := p, bad := true } := by rw [h1, e1]; exact aft_err hb rfl
    have b : s1.bad = true := by rw [a]
    rw [aft_stuck _ b] at h2; subst h2
    rw [aft_stuck _ b] at h3; subst h3
    rw [aft_stuck _ b] at h4; subst h4
    rw [aft_stuck _ b] at h5; subst h5
    rw [aft_stuck _ b] at h6; subst h6
    have hp : pStep s.data s.pos = .error p := by simp only [pStep, e1]
    exact ⟨by rw [hp, aft_err hb rfl]; exact a, fun x q _ h => by rw [hp] at h; cases h⟩
  | ok x1 =>
    obtain ⟨y1, q1⟩ := x1
    have a : s1 = { s with pos := q1 } := by rw [h1, e1]; exact aft_ok hb rfl
    have i1 := v1 y1 q1 hb e1
    clear h1 v1
    subst a
    dsimp only at h2 v2
    cases e2 : pNum s.data q1 with
    | error p =>
      have a : s2 = { s with pos := p, bad := true } := by rw [h2, e2]; exact aft_err hb rfl
      have b : s2.bad = true := by rw [a]
      rw [aft_stuck _ b] at h3; subst h3
      rw [aft_stuck _ b] at h4; subst h4
      rw [aft_stuck _ b] at h5; subst h5
      rw [aft_stuck _ b] at h6; subst h6
      have hp : pStep s.data s.pos = .error p := by simp only [pStep, e1, e2]
      exact ⟨by rw [hp, aft_err hb rfl]; exact a, fun x q _ h => by rw [hp] at h; cases h⟩
    | ok x2 =>
      obtain ⟨y2, q2⟩ := x2
      have a : s2 = { s with pos := q2 } := by rw [h2, e2]; exact aft_ok hb rfl
      have i2 := v2 y2 q2 hb e2
      clear h2 v2
      subst a
      dsimp only at h3 v3
      cases e3 : pNum s.data q2 with
      | error p =>
        have a : s3 = { s with pos := p, bad := true } := by rw [h3, e3]; exact aft_err hb rfl
        have b : s3.bad = true := by rw [a]
        rw [aft_stuck _ b] at h4; subst h4
        rw [aft_stuck _ b] at h5; subst h5
        rw [aft_stuck _ b] at h6; subst h6
        have hp : pStep s.data s.pos = .error p := by simp only [pStep, e1, e2, e3]
        exact ⟨by rw [hp, aft_err hb rfl]; exact a, fun x q _ h => by rw [hp] at h; cases h⟩
      | ok x3 =>
        obtain ⟨y3, q3⟩ := x3
        have a : s3 = { s with pos := q3 } := by rw [h3, e3]; exact aft_ok hb rfl
        have i3 := v3 y3 q3 hb e3
        clear h3 v3
        subst a
        dsimp only at h4 v4
        cases e4 : pNum s.data q3 with
        | error p =>
          have a : s4 = { s with pos := p, bad := true } := by rw [h4, e4]; exact aft_err hb rfl
          have b : s4.bad = true := by rw [a]
          rw [aft_stuck _ b] at h5; subst h5
          rw [aft_stuck _ b] at h6; subst h6
          have hp : pStep s.data s.pos = .error p := by simp only [pStep, e1, e2, e3, e4]
          exact ⟨by rw [hp, aft_err hb rfl]; exact a, fun x q _ h => by rw [hp] at h; cases h⟩
        | ok x4 =>
          obtain ⟨y4, q4⟩ := x4
          have a : s4 = { s with pos := q4 } := by rw [h4, e4]; exact aft_ok hb rfl
          have i4 := v4 y4 q4 hb e4
          clear h4 v4
          subst a
          dsimp only at h5 v5
          cases e5 : pText s.data q4 with
          | error p =>
            have a : s5 = { s with pos := p, bad := true } := by rw [h5, e5]; exact aft_err hb rfl
            have b : s5.bad = true := by rw [a]
            rw [aft_stuck _ b] at h6; subst h6
            have hp : pStep s.data s.pos = .error p := by simp only [pStep, e1, e2, e3, e4, e5]
            exact ⟨by rw [hp, aft_err hb rfl]; exact a, fun x q _ h => by rw [hp] at h; cases h⟩
          | ok x5 =>
            obtain ⟨y5, q5⟩ := x5
            have a : s5 = { s with pos := q5 } := by rw [h5, e5]; exact aft_ok hb rfl
            have i5 := v5 y5 q5 hb e5
            clear h5 v5
            subst a
            dsimp only at h6
            cases e6 : pTree s.data q5 with
            | error p =>
              have a : s6 = { s with pos := p, bad := true } := by rw [h6, e6]; exact aft_err hb rfl
              have b : s6.bad = true := by rw [a]
              have hp : pStep s.data s.pos = .error p := by simp only [pStep, e1, e2, e3, e4, e5, e6]
              exact ⟨by rw [hp, aft_err hb rfl]; exact a, fun x q _ h => by rw [hp] at h; cases h⟩
            | ok x6 =>
              obtain ⟨y6, q6⟩ := x6
              have a : s6 = { s with pos := q6 } := by rw [h6, e6]; exact aft_ok hb rfl
              have hp : pStep s.data s.pos = .ok (⟨y1, y2, y3, y4, y5, y6⟩, q6) := by simp only [pStep, e1, e2, e3, e4, e5, e6]
              refine ⟨by rw [hp, aft_ok hb rfl]; exact a, fun x q _ h => ?_⟩
              rw [hp] at h
              cases h
              exact ⟨i1, i2, i3, i4, i5, hb, q6, rfl⟩
/-- What the document's Step answers. -/
def StpC (w : World) (rb : Nat) (a : Option Addr) (cap : Nat) (s : Rd) (o : Got Stp) (e : Ending) (w' : World) : Prop :=
  ∃ (op id pa pl : Int) (tx : ByteArray) (ti tk : Int) (tt : ByteArray) (ka : Option Addr) (kl kc : Nat) (m' : Int), e = .returned (.agg #[.int .i8 op, .int .i64 id, .int .i64 pa, .int .i64 pl, .string tx, .int .i64 ti, .int .i64 tk, .string tt, .slice ka kl kc]) ∧
    RfAt w' rb a cap (aft s o) m' ∧ Touched w w' (fun k => k = rb) ∧
    (Fz s o → Value.agg #[.int .i8 op, .int .i64 id, .int .i64 pa, .int .i64 pl, .string tx, .int .i64 ti, .int .i64 tk, .string tt, .slice ka kl kc] = .agg zeroS) ∧
    ∀ x q, s.bad = false → o = .ok (x, q) → StAt w' (Fresh w w') (.agg #[.int .i8 op, .int .i64 id, .int .i64 pa, .int .i64 pl, .string tx, .int .i64 ti, .int .i64 tk, .string tt, .slice ka kl kc]) x
set_option maxRecDepth 100000 in
set_option maxHeartbeats 4000000 in
theorem dStep (w : World) (rb : Nat) (a : Option Addr) (cap : Nat) (s : Rd) (m : Int) (h : RfAt w rb a cap s m) :
    Calls Try.prog 54 #[.pointer (some ⟨rb, 0, none⟩)] w (StpC w rb a cap s (pStep s.data s.pos)) := by
  obtain ⟨at_, hh, _⟩ := h.here
  have hlt := lt_of_heap hh
  have H0 := Lib.hid (And.intro (h.alloc (.cells #[.int .i8 0, .int .i64 0, .int .i64 0, .int .i64 0, .string ⟨#[]⟩, .int .i64 0, .int .i64 0, .string ⟨#[]⟩, .slice none 0 0] 54)) (And.intro hlt h.low))
  obtain ⟨out, hout⟩ : ∃ out, out = pStep s.data s.pos := ⟨_, rfl⟩
  rw [← hout]
  have HO := Lib.hid hout
  clear h hh hout hlt
  by_cases hz : (aft s out).bad = true
  · have HZ := Lib.hid hz
    clear hz
    go_enter Try.func54, Try.ntmps54
    go_wp2_with (first
      | (go_at_call 22; refine (bSmall H0.out.1).mono ?_; rintro e w1 ⟨x1, rfl, h1, t1, z1, v1⟩; have H1 := Lib.hid (And.intro h1 (And.intro t1 v1)); clear h1 t1 z1 v1)
      | (go_at_call 20; refine (bNum H1.out.1).mono ?_; rintro e w2 ⟨x2, rfl, h1, t1, z1, v1⟩; have H2 := Lib.hid (And.intro h1 (And.intro t1 v1)); clear h1 t1 z1 v1)
      | (go_at_call 20; refine (bNum H2.out.1).mono ?_; rintro e w3 ⟨x3, rfl, h1, t1, z1, v1⟩; have H3 := Lib.hid (And.intro h1 (And.intro t1 v1)); clear h1 t1 z1 v1)
      | (go_at_call 20; refine (bNum H3.out.1).mono ?_; rintro e w4 ⟨x4, rfl, h1, t1, z1, v1⟩; have H4 := Lib.hid (And.intro h1 (And.intro t1 v1)); clear h1 t1 z1 v1)
      | (go_at_call 24; refine (bText H4.out.1).mono ?_; rintro e w5 ⟨x5, rfl, h1, t1, z1, v1⟩; have H5 := Lib.hid (And.intro h1 (And.intro t1 v1)); clear h1 t1 z1 v1)
      | (go_at_call 26; refine (dTree _ _ _ _ _ _ H5.out.1).mono ?_; rintro e w6 ⟨yi, yk, yt, ya, yl, yc, m6, rfl, h1, t1, z1, v1⟩; have hch := chain_step rfl rfl rfl rfl rfl rfl H1.out.2.2 H2.out.2.2 H3.out.2.2 H4.out.2.2 H5.out.2.2; rw [hch.1, ← HO.out] at h1; obtain ⟨p, hp0, r2⟩ := (h1.alloc (.cells #[.int .i64 yi, .int .i64 yk, .string yt, .slice ya yl yc] 25)).failedP HZ.out; have hn : decide (0 ≤ p) = true := (by simp only [decide_eq_true_eq]; omega); have tt := (((((H1.out.2.1.trans H2.out.2.1 (fun k hk => Or.inl hk)).trans H3.out.2.1 (fun k hk => Or.inl hk)).trans H4.out.2.1 (fun k hk => Or.inl hk)).trans H5.out.2.1 (fun k hk => Or.inl hk)).trans t1 (fun k hk => Or.inl hk)); have hg0 : w6.heap[w.heap.size]? = some (.cells zeroS 54 (0, 0)) := (tt.block _ (by rw [World.size_alloc]; omega) (by have := H0.out.2.1; omega)).trans (heap_alloc_new w _); have hg : (w6.alloc (.cells #[.int .i64 yi, .int .i64 yk, .string yt, .slice ya yl yc] 25)).heap[w.heap.size]? = some (.cells zeroS 54 (0, 0)) := (Below.heap_alloc _ _ _ (lt_of_heap hg0)).trans hg0; obtain ⟨⟨d0, d1, d2, d3, d4⟩, ⟨d5, d6, d7, d8⟩, df⟩ := nine hg; have H6 := Lib.hid (And.intro h1 (And.intro tt (And.intro hg (And.intro v1 hch.2)))); clear h1 t1 z1 v1 hch tt hg hg0))
    obtain ⟨g1, g2, g3, g4, g5⟩ := H6.out
    obtain ⟨_, hlt, hlow⟩ := H0.out
    have hs6 := g2.size
    rw [World.size_alloc] at hs6
    obtain ⟨s1, s2, s3⟩ := set9 g3 (.int .i8 0) (.int .i64 0) (.int .i64 0) (.int .i64 0) (.string ⟨#[]⟩) (.int .i64 0) (.int .i64 0) (.string ⟨#[]⟩) (.slice none 0 0) _ rfl
    refine bodyPost_ret (results_cell_row rfl _ _ w.heap.size 54 _ (0, 0) _ rfl s1 Try.underlying54 rfl (by kernel_rfl)) rfl ?_
    have tA := (((Touched.refl w (fun k => k = rb)).alloc _).trans g2 (fun k hk => Or.inl hk)).alloc (.cells #[.int .i64 yi, .int .i64 yk, .string yt, .slice ya yl yc] 25)
    have hrd := (g1.alloc (.cells #[.int .i64 yi, .int .i64 yk, .string yt, .slice ya yl yc] 25)).kept s2 (by omega) (fun h0 ad ea hl e => by rw [aft_data] at h0; have := hlow h0 ad ea; omega)
    refine ⟨0, 0, 0, 0, ⟨#[]⟩, 0, 0, ⟨#[]⟩, none, 0, 0, m6, rfl, hrd, tA.trans s2 (fun k hk => Or.inr (by omega)), fun _ => rfl, fun x q hb ho => ?_⟩
    have := HZ.out
    rw [aft_ok hb ho] at this
    rw [hb] at this; cases this
  · have hz : (aft s out).bad = false := by simpa using hz
    have HZ := Lib.hid hz
    clear hz
    go_enter Try.func54, Try.ntmps54
    go_wp2_with (first
      | (go_at_call 22; refine (bSmall H0.out.1).mono ?_; rintro e w1 ⟨x1, rfl, h1, t1, z1, v1⟩; have H1 := Lib.hid (And.intro h1 (And.intro t1 v1)); clear h1 t1 z1 v1)
      | (go_at_call 20; refine (bNum H1.out.1).mono ?_; rintro e w2 ⟨x2, rfl, h1, t1, z1, v1⟩; have H2 := Lib.hid (And.intro h1 (And.intro t1 v1)); clear h1 t1 z1 v1)
      | (go_at_call 20; refine (bNum H2.out.1).mono ?_; rintro e w3 ⟨x3, rfl, h1, t1, z1, v1⟩; have H3 := Lib.hid (And.intro h1 (And.intro t1 v1)); clear h1 t1 z1 v1)
      | (go_at_call 20; refine (bNum H3.out.1).mono ?_; rintro e w4 ⟨x4, rfl, h1, t1, z1, v1⟩; have H4 := Lib.hid (And.intro h1 (And.intro t1 v1)); clear h1 t1 z1 v1)
      | (go_at_call 24; refine (bText H4.out.1).mono ?_; rintro e w5 ⟨x5, rfl, h1, t1, z1, v1⟩; have H5 := Lib.hid (And.intro h1 (And.intro t1 v1)); clear h1 t1 z1 v1)
      | (go_at_call 26; refine (dTree _ _ _ _ _ _ H5.out.1).mono ?_; rintro e w6 ⟨yi, yk, yt, ya, yl, yc, m6, rfl, h1, t1, z1, v1⟩; have hch := chain_step rfl rfl rfl rfl rfl rfl H1.out.2.2 H2.out.2.2 H3.out.2.2 H4.out.2.2 H5.out.2.2; rw [hch.1, ← HO.out] at h1; obtain ⟨r0, r1, r2, r3, rf⟩ := (h1.alloc (.cells #[.int .i64 yi, .int .i64 yk, .string yt, .slice ya yl yc] 25)).good HZ.out; have tt := (((((H1.out.2.1.trans H2.out.2.1 (fun k hk => Or.inl hk)).trans H3.out.2.1 (fun k hk => Or.inl hk)).trans H4.out.2.1 (fun k hk => Or.inl hk)).trans H5.out.2.1 (fun k hk => Or.inl hk)).trans t1 (fun k hk => Or.inl hk)); have hg0 : w6.heap[w.heap.size]? = some (.cells zeroS 54 (0, 0)) := (tt.block _ (by rw [World.size_alloc]; omega) (by have := H0.out.2.1; omega)).trans (heap_alloc_new w _); have hg : (w6.alloc (.cells #[.int .i64 yi, .int .i64 yk, .string yt, .slice ya yl yc] 25)).heap[w.heap.size]? = some (.cells zeroS 54 (0, 0)) := (Below.heap_alloc _ _ _ (lt_of_heap hg0)).trans hg0; obtain ⟨⟨d0, d1, d2, d3, d4⟩, ⟨d5, d6, d7, d8⟩, df⟩ := nine hg; have H6 := Lib.hid (And.intro h1 (And.intro tt (And.intro hg (And.intro v1 hch.2)))); clear h1 t1 z1 v1 hch tt hg hg0))
    obtain ⟨g1, g2, g3, g4, g5⟩ := H6.out
    obtain ⟨_, hlt, hlow⟩ := H0.out
    have hs6 := g2.size
    rw [World.size_alloc] at hs6
    obtain ⟨s1, s2, s3⟩ := set9 g3 (.int .i8 x1) (.int .i64 x2) (.int .i64 x3) (.int .i64 x4) (.string x5) (.int .i64 yi) (.int .i64 yk) (.string yt) (.slice ya yl yc) _ rfl
    refine bodyPost_ret (results_cell_row rfl _ _ w.heap.size 54 _ (0, 0) _ rfl s1 Try.underlying54 rfl (by kernel_rfl)) rfl ?_
    have tA := (((Touched.refl w (fun k => k = rb)).alloc _).trans g2 (fun k hk => Or.inl hk)).alloc (.cells #[.int .i64 yi, .int .i64 yk, .string yt, .slice ya yl yc] 25)
    have hrd := (g1.alloc (.cells #[.int .i64 yi, .int .i64 yk, .string yt, .slice ya yl yc] 25)).kept s2 (by omega) (fun h0 ad ea hl e => by rw [aft_data] at h0; have := hlow h0 ad ea; omega)
    refine ⟨x1, x2, x3, x4, x5, yi, yk, yt, ya, yl, yc, m6, rfl, hrd, tA.trans s2 (fun k hk => Or.inr (by omega)), fun hf => ?_, fun x q hb ho => ?_⟩
    · have := aft_bad hf
      rw [HZ.out] at this; cases this
    · obtain ⟨j1, j2, j3, j4, j5, j6, q', j7⟩ := g5 x q hb (by rw [← HO.out]; exact ho)
      obtain ⟨ka, kcap, u1, u2, u3⟩ := g4 x.sub q' j6 j7
      simp only [Value.agg.injEq, Array.mk.injEq, List.cons.injEq, Value.int.injEq, Value.string.injEq, Value.slice.injEq, and_true, true_and] at u1
      obtain ⟨rfl, rfl, rfl, rfl, rfl, rfl⟩ := u1
      subst j1 j2 j3 j4 j5
      refine ⟨ya, yc, rfl, u2, u3.kept fun y hy => ?_⟩
      have hy1 := hy.1
      have hy2 := hy.2
      have hs5 := ((((H1.out.2.1.trans H2.out.2.1 (fun k hk => Or.inl hk)).trans H3.out.2.1 (fun k hk => Or.inl hk)).trans H4.out.2.1 (fun k hk => Or.inl hk)).trans H5.out.2.1 (fun k hk => Or.inl hk)).size
      rw [World.size_alloc] at hs5
      exact ⟨⟨by omega, by rw [s3, World.size_alloc]; omega⟩, (s2.block y (by rw [World.size_alloc]; omega) (by omega)).trans (Below.heap_alloc _ _ _ hy2)⟩
end Go.Proofs.Ytljlijdgocfofaa
