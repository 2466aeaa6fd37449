/-
  .
-/
import Derived.Test.YtonapijgfalpaaaKDoQw
import Derived.Test.YtonapijgfalpaaaKPlacePQw
import Derived.Test.YtonapijgfalpaaaILawRQw
import Derived.Test.YtonapijgfalpaaaJFoldRQw
import Derived.Test.YtonapijgfalpaaaJIdsQw
import Derived.Deep.Cut
import Derived.Test.YtonapijgfalpaaaJPgQw
namespace Go.Proofs.Ytonapijgfalpaaa
open Go.RowKit Go.Shelf
set_option linter.unusedVariables false
set_option linter.unusedSimpArgs false

theorem bad_nodup {g : Gr} : ∀ (L : List Sp) (ids : List Int) (i : Nat), badAt g ids i L = none → (L.map fun x => x.2.1.1).Nodup ∧ ∀ x ∈ L, x.2.1.1 ∉ ids
  | [], ids, i, _ => ⟨List.nodup_nil, fun x h => by cases h⟩
  | x :: r, ids, i, h => by
    rw [badAt] at h
    split at h
    · cases h
    · rename_i ha
      obtain ⟨h1, h2⟩ := bad_nodup r _ _ h
      have hx : x.2.1.1 ∉ ids := fun hm => by
        apply ha
        have hany : ids.any (· == x.2.1.1) = true := List.any_eq_true.2 ⟨_, hm, by simp⟩
        unfold atB
        rw [show (trOf x).id = x.2.1.1 from rfl, hany]
        simp
      refine ⟨?_, fun y hy => ?_⟩
      · rw [List.map_cons, List.nodup_cons]
        refine ⟨fun hm => ?_, h1⟩
        obtain ⟨y, hy, e⟩ := List.mem_map.1 hm
        exact h2 y hy (by rw [e]; simp)
      · rcases List.mem_cons.1 hy with rfl | hy
        · exact hx
        · exact fun hm => h2 y hy (List.mem_append_left _ hm)
theorem tree_dist {g : Gr} {t : Tr} (h : (treeR g t).2 = 0) : DistT t ∧ foSize t.kids + 1 ≤ 200 := by
  unfold treeR at h
  split at h
  · exact absurd h (by decide)
  · unfold subR at h
    split at h
    · split at h
      · exact absurd h (by decide)
      · rename_i hs
        unfold faultR at h
        split at h
        · exact absurd (show (70 : Int) = 0 from h) (by decide)
        · rename_i hb
          exact ⟨(bad_nodup _ _ _ hb).1, by omega⟩
    · exact absurd h (by decide)
end Go.Proofs.Ytonapijgfalpaaa
namespace Go.Proofs.Ytonapijgfalpaaa
open Go.RowKit Go.Shelf
set_option linter.unusedVariables false
set_option linter.unusedSimpArgs false

def goT (g : Gr) (t : Tr) : List Sf → Option Tr
  | [] => some t
  | s :: l => if (doK g (s.on t)).2 = 0 then goT g (doK g (s.on t)).1 l else none
theorem goT_append (g : Gr) : ∀ (a b : List Sf) (t : Tr), goT g t (a ++ b) = (goT g t a).bind fun x => goT g x b
  | [], b, t => rfl
  | s :: a, b, t => by
    rw [List.cons_append, goT, goT]
    split
    · exact goT_append g a b _
    · rfl
theorem goT_snoc {g : Gr} {t x : Tr} {l : List Sf} {s : Sf} (h : goT g t l = some x) (hs : (doK g (s.on x)).2 = 0) : goT g t (l ++ [s]) = some (doK g (s.on x)).1 := by
  rw [goT_append, h]
  show goT g x [s] = _
  rw [goT, if_pos hs]; rfl
def foldK (g : Gr) : Tr → List Sf → Tr × Nat × Int
  | t, [] => (t, 0, 0)
  | t, s :: l => if (doK g (s.on t)).2 = 0 then ((foldK g (doK g (s.on t)).1 l).1, (foldK g (doK g (s.on t)).1 l).2.1 + 1, (foldK g (doK g (s.on t)).1 l).2.2) else (t, 0, (doK g (s.on t)).2)
theorem foldK_all {g : Gr} : ∀ {l : List Sf} {t x : Tr}, goT g t l = some x → foldK g t l = (x, l.length, 0)
  | [], t, x, h => by cases h; rfl
  | s :: l, t, x, h => by
    rw [goT] at h
    split at h
    · rename_i h0
      rw [foldK, if_pos h0, foldK_all h]; rfl
    · cases h
theorem foldK_stop {g : Gr} : ∀ {l : List Sf} {k : Nat} {t x : Tr} {s : Sf} {n : Int}, goT g t (l.take k) = some x → l[k]? = some s → (doK g (s.on x)).2 = n → n ≠ 0 → foldK g t l = (x, k, n)
  | [], k, t, x, s, n, _, hs, _, _ => by simp at hs
  | r :: l, 0, t, x, s, n, h, hs, hn, h0 => by
    simp at hs; subst hs
    rw [List.take_zero] at h; cases h
    rw [foldK, if_neg (by rw [hn]; exact h0), hn]
  | r :: l, k + 1, t, x, s, n, h, hs, hn, h0 => by
    rw [List.take_succ_cons, goT] at h
    split at h
    · rename_i hr
      rw [foldK, if_pos hr, foldK_stop h (by simpa using hs) hn h0]
    · cases h
theorem foldK_go {g : Gr} : ∀ {l : List Sf} {t : Tr}, (foldK g t l).2.2 = 0 → goT g t l = some (foldK g t l).1 ∧ (foldK g t l).2.1 = l.length
  | [], t, _ => ⟨rfl, rfl⟩
  | s :: l, t, h => by
    rw [foldK] at h ⊢
    rw [goT]
    split at h
    · rename_i h0
      rw [if_pos h0, if_pos h0]
      have := foldK_go (g := g) (l := l) h
      exact ⟨this.1, by simp [this.2]⟩
    · rename_i h0; exact absurd h h0
theorem foldK_append (g : Gr) : ∀ (a b : List Sf) (t : Tr), foldK g t (a ++ b) = if (foldK g t a).2.2 = 0 then ((foldK g (foldK g t a).1 b).1, a.length + (foldK g (foldK g t a).1 b).2.1, (foldK g (foldK g t a).1 b).2.2) else foldK g t a
  | [], b, t => by simp [foldK]
  | s :: a, b, t => by
    rw [List.cons_append, foldK, foldK]
    split
    · rename_i h0
      rw [foldK_append g a b _]
      by_cases h1 : (foldK g (doK g (s.on t)).1 a).2.2 = 0
      · rw [if_pos h1, if_pos h1]
        refine Prod.ext rfl (Prod.ext ?_ rfl)
        show a.length + (foldK g (foldK g (doK g (s.on t)).1 a).1 b).2.1 + 1 = a.length + 1 + (foldK g (foldK g (doK g (s.on t)).1 a).1 b).2.1
        omega
      · rw [if_neg h1, if_neg h1]
    · rename_i h0
      rfl
def insN (s : Sf) : Nat := if s.op = 1 then foSize s.sub.kids + 1 else 0
def insSum : List Sf → Nat
  | [] => 0
  | s :: l => insN s + insSum l
theorem insSum_append : ∀ a b : List Sf, insSum (a ++ b) = insSum a + insSum b
  | [], b => by simp [insSum]
  | s :: a, b => by rw [List.cons_append, insSum, insSum, insSum_append a b]; omega
def okSet (l : List Sf) : Bool := decide (l.length ≤ 60) && decide (insSum l ≤ 200)
theorem okSet_iff (l : List Sf) : okSet l = true ↔ l.length ≤ 60 ∧ insSum l ≤ 200 := by simp [okSet]
theorem okSet_left {a b : List Sf} (h : okSet (a ++ b) = true) : okSet a = true ∧ okSet b = true := by
  rw [okSet_iff] at h
  rw [okSet_iff, okSet_iff]
  rw [insSum_append, List.length_append] at h
  omega
def apK (g : Gr) (t : Tr) (l : List Sf) : Tr × Nat × Int := if okSet l = true then (if (foldK g t l).2.2 = 0 then (foldK g t l).1 else t, (foldK g t l).2.1, (foldK g t l).2.2) else (zeroK, 0, 3)
structure Way (t : Tr) : Prop where
  size : foSize t.kids + 1 ≤ 250
  ok : okF (spF 1 (rootF t))
structure StepFit (s : Sf) : Prop where
  op : (Lit.int .i8 s.op).wf = true
  size : foSize s.sub.kids + 1 ≤ 250
  ok : okF (spF 1 (rootF s.sub))
  tx : (s.tx.size : Int) ≤ 9223372036854775807
theorem way_do {g : Gr} {t : Tr} {s : Sf} (hs : StepFit s) (h : Way t) (h0 : (doK g (s.on t)).2 = 0) : Way (doK g (s.on t)).1 := by
  unfold doK at h0 ⊢
  split at h0
  · rename_i h1
    split at h0
    · rename_i h2
      rw [if_pos h1, if_pos h2]
      have hx := stepK_fx (op := s.op) (id := s.id) (par := s.par) (at_ := s.at_) (tx := s.tx) (x := s.sub) (t := t) (y := (s.on t).1) (by unfold Sf.on; exact Prod.ext rfl h1)
      exact ⟨by have := (tree_dist h2).2; show foSize (s.on t).1.kids + 1 ≤ 250; omega, hx.1.ok h.ok hs.ok hs.tx⟩
    · rename_i h2; exact absurd h0 h2
  · rename_i h1; exact absurd h0 h1
theorem way_go {g : Gr} : ∀ {l : List Sf} {t x : Tr}, (∀ s ∈ l, StepFit s) → Way t → goT g t l = some x → Way x
  | [], t, x, _, h, e => by cases e; exact h
  | s :: l, t, x, hl, h, e => by
    rw [goT] at e
    split at e
    · rename_i h0
      exact way_go (fun r hr => hl r (List.mem_cons_of_mem _ hr)) (way_do (hl s (List.mem_cons_self ..)) h h0) e
    · cases e
end Go.Proofs.Ytonapijgfalpaaa
namespace Go.Proofs.Ytonapijgfalpaaa
open Go.RowKit Go.Shelf
set_option linter.unusedVariables false
set_option linter.unusedSimpArgs false

def LiesS (w : World) (x : SV) : Prop := LiesI w x.s.sub.kids x.a x.c
theorem LiesS.at {w X : World} {x : SV} (h : LiesS w x) (hb : Below w.heap.size w X) : TrAt X (fun q => q < w.heap.size) (.agg #[.int .i64 x.s.sub.id, .int .i64 x.s.sub.kind, .string x.s.sub.text, .slice x.a (foLen x.s.sub.kids) x.c]) x.s.sub := LiesI.at h hb
set_option maxRecDepth 100000 in
set_option maxHeartbeats 4000000 in
theorem inserted_any (w X0 : World) (x : SV) (h : LiesS X0 x) (hb : Below X0.heap.size X0 w) (hs : StepFit x.s) :
    Calls Try.prog 171 #[x.v] w fun e w' => e = .returned (.int .i64 (insN x.s : Int)) ∧ Below w.heap.size w w' := by
  obtain ⟨sn, hsn⟩ : ∃ sn, sn = foLen x.s.sub.kids := ⟨_, rfl⟩
  obtain ⟨B, hB⟩ : ∃ B, B = w.alloc (.cells #[.int .i8 x.s.op, .int .i64 x.s.id, .int .i64 x.s.par, .int .i64 x.s.at_, .string x.s.tx, .int .i64 x.s.sub.id, .int .i64 x.s.sub.kind, .string x.s.sub.text, .slice x.a sn x.c] 47) := ⟨_, rfl⟩
  have hbw : Below w.heap.size w B := by rw [hB]; exact box_below _ _
  have hs0 : B.heap[w.heap.size]? = some (.cells #[.int .i8 x.s.op, .int .i64 x.s.id, .int .i64 x.s.par, .int .i64 x.s.at_, .string x.s.tx, .int .i64 x.s.sub.id, .int .i64 x.s.sub.kind, .string x.s.sub.text, .slice x.a sn x.c] 47 (0, 0)) := by rw [hB]; exact heap_alloc_new _ _
  have hb2 := hb.trans (hbw.mono hb.size)
  have hn := names_any B (fun q => q < X0.heap.size) x.s.sub x.s.op x.s.id x.s.par x.s.at_ x.s.tx x.a sn x.c (fun y hy => Nat.lt_of_lt_of_le hy hb2.size) (by rw [hsn]; exact h.at hb2) (by have := hs.size; omega) hs.op
  have hv : x.v = .agg #[.int .i8 x.s.op, .int .i64 x.s.id, .int .i64 x.s.par, .int .i64 x.s.at_, .string x.s.tx, .int .i64 x.s.sub.id, .int .i64 x.s.sub.kind, .string x.s.sub.text, .slice x.a sn x.c] := by rw [hsn]; rfl
  rw [hv]
  obtain ⟨m0, m1, m2, m3, m4, m5, m6, m7, m8⟩ := box9 hs0
  have HN := Lib.hid hn
  have HB := Lib.hid (And.intro hbw hB)
  have HS := Lib.hid hs
  have hob := i8_bounds hs.op
  clear hn hbw hB hs0 hb2 h hb hs hv hsn
  go_enter Try.func171, Try.ntmps171
  go_upto_region 1 with fail
  rw [← HB.out.2]
  by_cases h1 : x.s.op = 1
  · have hb1 : (x.s.op != 1) = false := by simpa using h1
    have HI := Lib.hid (show (namesK x.s.op x.s.id x.s.par x.s.sub).length = insN x.s + 1 ∧ insN x.s ≤ 250 by
      rw [namesK, if_pos h1, insN, if_pos h1, List.length_cons, idT_length]; exact ⟨rfl, HS.out.size⟩)
    clear h1 hob
    go_wp2_with fail
    refine HN.out.mono ?_
    rintro e w2 ⟨a, c, rfl, _, hb2⟩
    rw [HI.out.1]
    have HB2 := Lib.hid (HB.out.1.trans (hb2.mono HB.out.1.size))
    obtain ⟨n, hn⟩ : ∃ n, n = insN x.s := ⟨_, rfl⟩
    rw [← hn] at HI ⊢
    have HNN := Lib.hid hn
    have hnw : IntKind.i64.wrap (((n + 1 : Nat) : Int) - 1) = (n : Int) := by rw [IntWalk.i64_in _ (by have := HI.out.2; omega)]; omega
    obtain ⟨m, hm⟩ : ∃ m, m = n + 1 := ⟨_, rfl⟩
    rw [← hm] at hnw ⊢
    clear hb2 hn hm
    go_wp2_with fail
    go_ret
    rw [← HNN.out]
    exact ⟨rfl, HB2.out⟩
  · have hb1 : (x.s.op != 1) = true := by simpa using h1
    have HI := Lib.hid (show insN x.s = 0 by rw [insN, if_neg h1])
    clear h1 hob
    go_wp2_with fail
    go_ret
    rw [HI.out]
    exact ⟨rfl, HB.out.1⟩
def CheckC (w : World) (p q n : Int) (e : Ending) (w' : World) : Prop := ∃ (p' q' m : Int), e = .returned (.tuple #[.agg #[.int .i64 p', .int .i64 q'], .int .i64 m]) ∧ Below w.heap.size w w' ∧ ((m = 0 ∧ p' = p - 1 ∧ q' = q - n ∧ 0 ≤ p - 1 ∧ 0 ≤ q - n) ∨ (m = 3 ∧ (p - 1 < 0 ∨ q - n < 0)))
theorem check_end {fn : Func} (h : fn.results = #[.cell 4 190, .tmp 5]) {w W : World} {tmps : Array Value} {p q n p' q' m : Int} {g : Nat} (hb : Below w.heap.size w W) (hz : W.heap[g]? = some (.cells #[.int .i64 p', .int .i64 q'] 190 (0, 0))) (hc : (m = 0 ∧ p' = p - 1 ∧ q' = q - n ∧ 0 ≤ p - 1 ∧ 0 ≤ q - n) ∨ (m = 3 ∧ (p - 1 < 0 ∨ q - n < 0)))
    (h1 : tmps.getD 4 undef = .pointer (some ⟨g, 0, none⟩)) (h2 : tmps.getD 5 undef = .int .i64 m) : bodyPost Try.prog fn (CheckC w p q n) .ret { tmps, defers := [] } W := by
  refine bodyPost_ret (results_cellT h tmps W g 190 _ _ _ (.int .i64 m) h1 hz Try.underlying190 rfl (by kernel_rfl) h2) rfl ?_
  exact ⟨p', q', m, rfl, hb, hc⟩
set_option maxRecDepth 100000 in
set_option maxHeartbeats 8000000 in
theorem checkc_any (w X0 : World) (x : SV) (p q : Int) (h : LiesS X0 x) (hb : Below X0.heap.size X0 w) (hs : StepFit x.s) (hp : 0 ≤ p ∧ p ≤ 60) (hq : 0 ≤ q ∧ q ≤ 200) :
    Calls Try.prog 170 #[.agg #[.int .i64 p, .int .i64 q], x.v] w (CheckC w p q (insN x.s : Int)) := by
  obtain ⟨sn, hsn⟩ : ∃ sn, sn = foLen x.s.sub.kids := ⟨_, rfl⟩
  have hv : x.v = .agg #[.int .i8 x.s.op, .int .i64 x.s.id, .int .i64 x.s.par, .int .i64 x.s.at_, .string x.s.tx, .int .i64 x.s.sub.id, .int .i64 x.s.sub.kind, .string x.s.sub.text, .slice x.a sn x.c] := by rw [hsn]; rfl
  have hni : insN x.s ≤ 250 := by have := hs.size; unfold insN; split <;> omega
  obtain ⟨n, hn⟩ : ∃ n : Int, n = (insN x.s : Int) := ⟨_, rfl⟩
  have hn2 : 0 ≤ n ∧ n ≤ 250 := by omega
  obtain ⟨B, hB⟩ : ∃ B, B = allocs w [.cells #[.int .i64 p, .int .i64 q] 190, .cells #[.int .i8 x.s.op, .int .i64 x.s.id, .int .i64 x.s.par, .int .i64 x.s.at_, .string x.s.tx, .int .i64 x.s.sub.id, .int .i64 x.s.sub.kind, .string x.s.sub.text, .slice x.a sn x.c] 47, .cells #[.int .i64 0, .int .i64 0] 190] := ⟨_, rfl⟩
  have hbw : Below w.heap.size w B := by rw [hB]; exact allocs_below _ _
  have hsz : B.heap.size = w.heap.size + 3 := by rw [hB]; exact allocs_size _ _
  have e0 : B.heap[w.heap.size]? = some (.cells #[.int .i64 p, .int .i64 q] 190 (0, 0)) := by rw [hB]; exact allocs_at _ _ 0 _ rfl
  have e1 : B.heap[w.heap.size + 1]? = some (.cells #[.int .i8 x.s.op, .int .i64 x.s.id, .int .i64 x.s.par, .int .i64 x.s.at_, .string x.s.tx, .int .i64 x.s.sub.id, .int .i64 x.s.sub.kind, .string x.s.sub.text, .slice x.a sn x.c] 47 (0, 0)) := by rw [hB]; exact allocs_at _ _ 1 _ rfl
  have e2 : B.heap[w.heap.size + 1 + 1]? = some (.cells #[.int .i64 0, .int .i64 0] 190 (0, 0)) := by rw [hB]; exact allocs_at _ _ 2 _ rfl
  obtain ⟨p1, hp1⟩ : ∃ p1, p1 = p - 1 := ⟨_, rfl⟩
  obtain ⟨q1, hq1⟩ : ∃ q1, q1 = q - n := ⟨_, rfl⟩
  have hw1 : IntKind.i64.wrap (p - 1) = p1 := by rw [hp1]; exact IntWalk.i64_in _ (by omega)
  have hw2 : IntKind.i64.wrap (q - n) = q1 := by rw [hq1]; exact IntWalk.i64_in _ (by omega)
  obtain ⟨W1, hW1, r1, r2, r3, r4, r5, r6⟩ := one_set (i := 0) (u := .int .i64 p1) e0
  have r1' : W1.heap[w.heap.size]? = some (.cells #[.int .i64 p1, .int .i64 q] 190 (0, 0)) := by simpa using r1
  have hb1 : Below w.heap.size w W1 := ⟨r3.trans hbw.os, r4.trans hbw.tape, r5.trans hbw.output, by rw [r6]; exact hbw.size, fun y hy => (r2 y (by omega)).trans (hbw.block y hy)⟩
  have f1 : W1.heap[w.heap.size + 1]? = some (.cells #[.int .i8 x.s.op, .int .i64 x.s.id, .int .i64 x.s.par, .int .i64 x.s.at_, .string x.s.tx, .int .i64 x.s.sub.id, .int .i64 x.s.sub.kind, .string x.s.sub.text, .slice x.a sn x.c] 47 (0, 0)) := (r2 _ (by omega)).trans e1
  have f2 : W1.heap[w.heap.size + 1 + 1]? = some (.cells #[.int .i64 0, .int .i64 0] 190 (0, 0)) := (r2 _ (by omega)).trans e2
  have hc : ∀ X, Below W1.heap.size W1 X → X.cell? ⟨w.heap.size, 0, none⟩ = some (.int .i64 p1) ∧ X.cell? ⟨w.heap.size, 1, none⟩ = some (.int .i64 q) ∧ X.cell? ⟨w.heap.size + 1, 0, none⟩ = some (.int .i8 x.s.op) ∧ X.cell? ⟨w.heap.size + 1, 1, none⟩ = some (.int .i64 x.s.id) ∧ X.cell? ⟨w.heap.size + 1, 2, none⟩ = some (.int .i64 x.s.par) ∧ X.cell? ⟨w.heap.size + 1, 3, none⟩ = some (.int .i64 x.s.at_) ∧ X.cell? ⟨w.heap.size + 1, 4, none⟩ = some (.string x.s.tx) ∧ X.cell? ⟨w.heap.size + 1, 5, none⟩ = some (.int .i64 x.s.sub.id) ∧ X.cell? ⟨w.heap.size + 1, 6, none⟩ = some (.int .i64 x.s.sub.kind) ∧ X.cell? ⟨w.heap.size + 1, 7, none⟩ = some (.string x.s.sub.text) ∧ X.cell? ⟨w.heap.size + 1, 8, none⟩ = some (.slice x.a sn x.c) := fun X hX =>
    ⟨(box2 ((hX.block _ (lt_of_heap r1')).trans r1')).1, (box2 ((hX.block _ (lt_of_heap r1')).trans r1')).2, box9 ((hX.block _ (lt_of_heap f1)).trans f1)⟩
  have hi : ∀ X, Below W1.heap.size W1 X → Calls Try.prog 171 #[.agg #[.int .i8 x.s.op, .int .i64 x.s.id, .int .i64 x.s.par, .int .i64 x.s.at_, .string x.s.tx, .int .i64 x.s.sub.id, .int .i64 x.s.sub.kind, .string x.s.sub.text, .slice x.a sn x.c]] X fun e w' => e = .returned (.int .i64 n) ∧ Below X.heap.size X w' := fun X hX => by
    rw [← hv, hn]
    exact inserted_any X X0 x h ((hb.trans (hb1.mono hb.size)).trans (hX.mono (Nat.le_trans hb.size hb1.size))) hs
  rw [hv, ← hn]
  have HC := Lib.hid hc
  have HI := Lib.hid hi
  have HE := Lib.hid (And.intro hB (And.intro hW1 (And.intro hb1 (And.intro r1' f2))))
  have HP := Lib.hid (And.intro hp1 hq1)
  have HF := Lib.hid f1
  obtain ⟨z0, z1⟩ := box2 e0
  have zf : B.frozen? ⟨w.heap.size, 0, none⟩ = false := frozen_of_row _ _ 0 _ _ e0
  clear hc hi hB hW1 hb1 r1 r1' f1 f2 r2 r3 r4 r5 r6 hbw hsz e0 e1 e2 hp1 hq1 h hb hs hp hq hn2 hni hn hv hsn
  go_enter Try.func170, Try.ntmps170
  go_upto_region 1 with fail
  change Code.wp _ _ _ _ (allocs w [.cells #[.int .i64 p, .int .i64 q] 190, .cells #[.int .i8 x.s.op, .int .i64 x.s.id, .int .i64 x.s.par, .int .i64 x.s.at_, .string x.s.tx, .int .i64 x.s.sub.id, .int .i64 x.s.sub.kind, .string x.s.sub.text, .slice x.a sn x.c] 47, .cells #[.int .i64 0, .int .i64 0] 190])
  rw [← HE.out.1]
  go_upto_region 2 with fail
  rw [← HE.out.2.1]
  clear z0 z1 zf
  have hst : ∀ X, Touched W1 X (fun y => y = w.heap.size) → X.cell? ⟨w.heap.size + 1, 0, none⟩ = some (.int .i8 x.s.op) ∧ X.cell? ⟨w.heap.size + 1, 1, none⟩ = some (.int .i64 x.s.id) ∧ X.cell? ⟨w.heap.size + 1, 2, none⟩ = some (.int .i64 x.s.par) ∧ X.cell? ⟨w.heap.size + 1, 3, none⟩ = some (.int .i64 x.s.at_) ∧ X.cell? ⟨w.heap.size + 1, 4, none⟩ = some (.string x.s.tx) ∧ X.cell? ⟨w.heap.size + 1, 5, none⟩ = some (.int .i64 x.s.sub.id) ∧ X.cell? ⟨w.heap.size + 1, 6, none⟩ = some (.int .i64 x.s.sub.kind) ∧ X.cell? ⟨w.heap.size + 1, 7, none⟩ = some (.string x.s.sub.text) ∧ X.cell? ⟨w.heap.size + 1, 8, none⟩ = some (.slice x.a sn x.c) := fun X hX => box9 ((hX.block _ (lt_of_heap HF.out) (by omega)).trans HF.out)
  have HST := Lib.hid hst
  clear hst
  refine wp_region_held_drew (S := fun X => Touched W1 X (fun y => y = w.heap.size)) (by kernel_rfl) (Touched.refl _ _).drew (fun hHeld => ?_)
  refine wpAnyH_take (i := 0) (oi := _) (v := .pointer (some ⟨w.heap.size, 1, none⟩)) rfl (by kernel_rfl) (by kernel_rfl) (by kernel_rfl) (fun _ _ _ h => h) (Or.inl ⟨by rfl, ?_⟩) (by assumption) ?_
  · clear hHeld; intro X hSw; obtain ⟨m0, m1, m2, m3, m4, m5, m6, m7, m8⟩ := HST.out X hSw; clear hSw; go_simp
  simp only [Act.put, pgA, pgB, pgC, pgD, pgE, pgF]
  refine wpAnyH_take (i := 2) (oi := _) (v := .agg #[.int .i8 x.s.op, .int .i64 x.s.id, .int .i64 x.s.par, .int .i64 x.s.at_, .string x.s.tx, .int .i64 x.s.sub.id, .int .i64 x.s.sub.kind, .string x.s.sub.text, .slice x.a sn x.c]) rfl (by kernel_rfl) (by kernel_rfl) (by kernel_rfl) (fun _ _ _ h => h) (Or.inl ⟨by rfl, ?_⟩) (by assumption) ?_
  · clear hHeld; intro X hSw; obtain ⟨m0, m1, m2, m3, m4, m5, m6, m7, m8⟩ := HST.out X hSw; clear hSw; go_simp
  simp only [Act.put, pgA, pgB, pgC, pgD, pgE, pgF]
  refine wpAnyH_ready (rs := [1, 3]) (by kernel_rfl) (by simp) ?_
  refine AllReadyH.cons (o := _) rfl (fun K hK => ?_) (AllReadyH.cons (o := _) rfl (fun K hK => ?_) AllReadyH.nil)
  · skip
    rw [if_pos (by rfl)]
    simp only [pgA, pgB, pgC]
    have HK := Lib.hid hK
    have HS := Lib.hid hHeld
    clear hK hHeld
    obtain ⟨_, k1, _⟩ := HC.out W1 (Below.refl _ _)
    go_wp2_with fail
    refine HK.out _ _ HS.out (fun hHeld => ?_)
    clear HK HS k1
    refine wpAnyH_ready (rs := [3]) (by kernel_rfl) (by simp) ?_
    refine AllReadyH.cons (o := _) rfl (fun K hK => ?_) AllReadyH.nil
    rw [if_pos (by rfl)]
    simp only [pgA, pgB, pgC]
    have HK := Lib.hid hK
    have HS := Lib.hid hHeld
    clear hK hHeld
    go_wp2_with (go_at_call 171; refine (HI.out _ (below_drewN (Below.refl _ W1) 1)).mono ?_; rintro e w4 ⟨rfl, hib⟩; have HIB := Lib.hid ((below_drewN (Below.refl _ W1) 1).trans hib); clear hib)
    refine HK.out _ _ ⟨HIB.out.os, HIB.out.tape, HIB.out.output, HIB.out.size, fun y h1 _ => HIB.out.block y h1⟩ (fun hHeld => ?_)
    clear HK HS
    refine wpAnyH_take (i := 4) (oi := _) (v := .int .i64 q1) rfl (by kernel_rfl) (by kernel_rfl) (by kernel_rfl) (fun _ _ _ h => h) (Or.inl ⟨by rfl, ?_⟩) (by assumption) ?_
    · clear hHeld; intro X hSw; obtain ⟨m0, m1, m2, m3, m4, m5, m6, m7, m8⟩ := HST.out X hSw; clear hSw; go_simp
    simp only [Act.put, pgA, pgB, pgC, pgD, pgE, pgF]
    refine wpAnyH_take (i := 5) (oi := _) (v := .pointer (some ⟨w.heap.size, 1, none⟩)) rfl (by kernel_rfl) (by kernel_rfl) (by kernel_rfl) (fun _ _ _ h => h) (Or.inl ⟨by rfl, ?_⟩) (by assumption) ?_
    · clear hHeld; intro X hSw; obtain ⟨m0, m1, m2, m3, m4, m5, m6, m7, m8⟩ := HST.out X hSw; clear hSw; go_simp
    simp only [Act.put, pgA, pgB, pgC, pgD, pgE, pgF]
    refine wpAnyH_ready (rs := [6]) (by kernel_rfl) (by simp) ?_
    refine AllReadyH.cons (o := _) rfl (fun K hK => ?_) AllReadyH.nil
    rw [if_pos (by rfl)]
    simp only [pgA, pgB, pgC]
    have HK := Lib.hid hK
    have HS := Lib.hid hHeld
    clear hK hHeld
    obtain ⟨k0, k1, _⟩ := HC.out w4 HIB.out
    have e4 := (HIB.out.block _ (lt_of_heap HE.out.2.2.2.1)).trans HE.out.2.2.2.1
    have q1f : w4.frozen? ⟨w.heap.size, 1, none⟩ = false := frozen_of_row _ _ 1 _ _ e4
    obtain ⟨W5, hW5, r1, r2, r3, r4, r5, r6⟩ := one_set (i := 1) (u := .int .i64 q1) e4
    have r1' : W5.heap[w.heap.size]? = some (.cells #[.int .i64 p1, .int .i64 q1] 190 (0, 0)) := by simpa using r1
    have hbz := HE.out.2.2.1.trans (HIB.out.mono HE.out.2.2.1.size)
    have hb5 : Below w.heap.size w W5 := ⟨r3.trans hbz.os, r4.trans hbz.tape, r5.trans hbz.output, by rw [r6]; exact hbz.size, fun y hy => (r2 y (by omega)).trans (hbz.block y hy)⟩
    have f5 : W5.heap[w.heap.size + 1 + 1]? = some (.cells #[.int .i64 0, .int .i64 0] 190 (0, 0)) := (r2 _ (by omega)).trans ((HIB.out.block _ (lt_of_heap HE.out.2.2.2.2)).trans HE.out.2.2.2.2)
    have ht5 : Touched W1 W5 (fun y => y = w.heap.size) := ⟨r3.trans HIB.out.os, r4.trans HIB.out.tape, r5.trans HIB.out.output, by rw [r6]; exact HIB.out.size, fun y h1 h2 => (r2 y h2).trans (HIB.out.block y h1)⟩
    have H5 := Lib.hid (And.intro hW5 (And.intro r1' (And.intro hb5 (And.intro f5 ht5))))
    clear hW5 r1 r1' r2 r3 r4 r5 r6 hbz hb5 f5 e4 ht5
    go_wp2_with fail
    rw [← H5.out.1]
    refine HK.out _ _ H5.out.2.2.2.2 (fun hHeld => ?_)
    clear HK HS k0 k1 q1f
    refine wpAnyH_done (by kernel_rfl) ?_ _
    clear hHeld
    obtain ⟨k0, k1⟩ := box2 H5.out.2.1
    obtain ⟨y0, y1⟩ := box2 H5.out.2.2.2.1
    have yf : ∀ j, W5.frozen? ⟨w.heap.size + 1 + 1, j, none⟩ = false := fun j => frozen_of_row _ _ j _ _ H5.out.2.2.2.1
    by_cases hp0 : p1 < 0
    · obtain ⟨V, hV, r1, r2, r3, r4, r5, r6⟩ := two_set (u0 := .int .i64 0) (u1 := .int .i64 0) H5.out.2.2.2.1
      have HEE := Lib.hid (And.intro hV (And.intro r1 (And.intro r2 (And.intro r3 (And.intro r4 (And.intro r5 (And.intro r6 hp0)))))))
      clear hV r1 r2 r3 r4 r5 r6
      go_wp2_with fail
      rw [← HEE.out.1]
      obtain ⟨hV, r1, r2, r3, r4, r5, r6, hp0⟩ := HEE.out
      have hb5 := H5.out.2.2.1
      exact check_end rfl ⟨r3.trans hb5.os, r4.trans hb5.tape, r5.trans hb5.output, by rw [r6]; exact hb5.size, fun k hk => (r2 k (by omega)).trans (hb5.block k hk)⟩ r1 (Or.inr ⟨rfl, Or.inl (by rw [← HP.out.1]; exact hp0)⟩) rfl rfl
    · by_cases hq0 : q1 < 0
      · obtain ⟨V, hV, r1, r2, r3, r4, r5, r6⟩ := two_set (u0 := .int .i64 0) (u1 := .int .i64 0) H5.out.2.2.2.1
        have HEE := Lib.hid (And.intro hV (And.intro r1 (And.intro r2 (And.intro r3 (And.intro r4 (And.intro r5 (And.intro r6 hq0)))))))
        clear hV r1 r2 r3 r4 r5 r6
        go_wp2_with fail
        rw [← HEE.out.1]
        obtain ⟨hV, r1, r2, r3, r4, r5, r6, hp0⟩ := HEE.out
        have hb5 := H5.out.2.2.1
        exact check_end rfl ⟨r3.trans hb5.os, r4.trans hb5.tape, r5.trans hb5.output, by rw [r6]; exact hb5.size, fun k hk => (r2 k (by omega)).trans (hb5.block k hk)⟩ r1 (Or.inr ⟨rfl, Or.inr (by rw [← HP.out.2]; exact hp0)⟩) rfl rfl
      · obtain ⟨V, hV, r1, r2, r3, r4, r5, r6⟩ := two_set (u0 := .int .i64 p1) (u1 := .int .i64 q1) H5.out.2.2.2.1
        have HEE := Lib.hid (And.intro hV (And.intro r1 (And.intro r2 (And.intro r3 (And.intro r4 (And.intro r5 (And.intro r6 (And.intro hp0 hq0))))))))
        clear hV r1 r2 r3 r4 r5 r6
        go_wp2_with fail
        rw [← HEE.out.1]
        obtain ⟨hV, r1, r2, r3, r4, r5, r6, hp0, hq0⟩ := HEE.out
        have hb5 := H5.out.2.2.1
        exact check_end rfl ⟨r3.trans hb5.os, r4.trans hb5.tape, r5.trans hb5.output, by rw [r6]; exact hb5.size, fun k hk => (r2 k (by omega)).trans (hb5.block k hk)⟩ r1 (Or.inl ⟨rfl, HP.out.1, HP.out.2, by rw [← HP.out.1]; omega, by rw [← HP.out.2]; omega⟩) rfl rfl
  · skip
    rw [if_pos (by rfl)]
    simp only [pgA, pgB, pgC]
    have HK := Lib.hid hK
    have HS := Lib.hid hHeld
    clear hK hHeld
    go_wp2_with (go_at_call 171; refine (HI.out _ (below_drewN (Below.refl _ W1) 1)).mono ?_; rintro e w4 ⟨rfl, hib⟩; have HIB := Lib.hid ((below_drewN (Below.refl _ W1) 1).trans hib); clear hib)
    refine HK.out _ _ ⟨HIB.out.os, HIB.out.tape, HIB.out.output, HIB.out.size, fun y h1 _ => HIB.out.block y h1⟩ (fun hHeld => ?_)
    clear HK HS
    refine wpAnyH_ready (rs := [1]) (by kernel_rfl) (by simp) ?_
    refine AllReadyH.cons (o := _) rfl (fun K hK => ?_) AllReadyH.nil
    rw [if_pos (by rfl)]
    simp only [pgA, pgB, pgC]
    have HK := Lib.hid hK
    have HS := Lib.hid hHeld
    clear hK hHeld
    obtain ⟨_, k1, _⟩ := HC.out w4 HIB.out
    go_wp2_with fail
    refine HK.out _ _ HS.out (fun hHeld => ?_)
    clear HK HS k1
    refine wpAnyH_take (i := 4) (oi := _) (v := .int .i64 q1) rfl (by kernel_rfl) (by kernel_rfl) (by kernel_rfl) (fun _ _ _ h => h) (Or.inl ⟨by rfl, ?_⟩) (by assumption) ?_
    · clear hHeld; intro X hSw; obtain ⟨m0, m1, m2, m3, m4, m5, m6, m7, m8⟩ := HST.out X hSw; clear hSw; go_simp
    simp only [Act.put, pgA, pgB, pgC, pgD, pgE, pgF]
    refine wpAnyH_take (i := 5) (oi := _) (v := .pointer (some ⟨w.heap.size, 1, none⟩)) rfl (by kernel_rfl) (by kernel_rfl) (by kernel_rfl) (fun _ _ _ h => h) (Or.inl ⟨by rfl, ?_⟩) (by assumption) ?_
    · clear hHeld; intro X hSw; obtain ⟨m0, m1, m2, m3, m4, m5, m6, m7, m8⟩ := HST.out X hSw; clear hSw; go_simp
    simp only [Act.put, pgA, pgB, pgC, pgD, pgE, pgF]
    refine wpAnyH_ready (rs := [6]) (by kernel_rfl) (by simp) ?_
    refine AllReadyH.cons (o := _) rfl (fun K hK => ?_) AllReadyH.nil
    rw [if_pos (by rfl)]
    simp only [pgA, pgB, pgC]
    have HK := Lib.hid hK
    have HS := Lib.hid hHeld
    clear hK hHeld
    obtain ⟨k0, k1, _⟩ := HC.out w4 HIB.out
    have e4 := (HIB.out.block _ (lt_of_heap HE.out.2.2.2.1)).trans HE.out.2.2.2.1
    have q1f : w4.frozen? ⟨w.heap.size, 1, none⟩ = false := frozen_of_row _ _ 1 _ _ e4
    obtain ⟨W5, hW5, r1, r2, r3, r4, r5, r6⟩ := one_set (i := 1) (u := .int .i64 q1) e4
    have r1' : W5.heap[w.heap.size]? = some (.cells #[.int .i64 p1, .int .i64 q1] 190 (0, 0)) := by simpa using r1
    have hbz := HE.out.2.2.1.trans (HIB.out.mono HE.out.2.2.1.size)
    have hb5 : Below w.heap.size w W5 := ⟨r3.trans hbz.os, r4.trans hbz.tape, r5.trans hbz.output, by rw [r6]; exact hbz.size, fun y hy => (r2 y (by omega)).trans (hbz.block y hy)⟩
    have f5 : W5.heap[w.heap.size + 1 + 1]? = some (.cells #[.int .i64 0, .int .i64 0] 190 (0, 0)) := (r2 _ (by omega)).trans ((HIB.out.block _ (lt_of_heap HE.out.2.2.2.2)).trans HE.out.2.2.2.2)
    have ht5 : Touched W1 W5 (fun y => y = w.heap.size) := ⟨r3.trans HIB.out.os, r4.trans HIB.out.tape, r5.trans HIB.out.output, by rw [r6]; exact HIB.out.size, fun y h1 h2 => (r2 y h2).trans (HIB.out.block y h1)⟩
    have H5 := Lib.hid (And.intro hW5 (And.intro r1' (And.intro hb5 (And.intro f5 ht5))))
    clear hW5 r1 r1' r2 r3 r4 r5 r6 hbz hb5 f5 e4 ht5
    go_wp2_with fail
    rw [← H5.out.1]
    refine HK.out _ _ H5.out.2.2.2.2 (fun hHeld => ?_)
    clear HK HS k0 k1 q1f
    refine wpAnyH_done (by kernel_rfl) ?_ _
    clear hHeld
    obtain ⟨k0, k1⟩ := box2 H5.out.2.1
    obtain ⟨y0, y1⟩ := box2 H5.out.2.2.2.1
    have yf : ∀ j, W5.frozen? ⟨w.heap.size + 1 + 1, j, none⟩ = false := fun j => frozen_of_row _ _ j _ _ H5.out.2.2.2.1
    by_cases hp0 : p1 < 0
    · obtain ⟨V, hV, r1, r2, r3, r4, r5, r6⟩ := two_set (u0 := .int .i64 0) (u1 := .int .i64 0) H5.out.2.2.2.1
      have HEE := Lib.hid (And.intro hV (And.intro r1 (And.intro r2 (And.intro r3 (And.intro r4 (And.intro r5 (And.intro r6 hp0)))))))
      clear hV r1 r2 r3 r4 r5 r6
      go_wp2_with fail
      rw [← HEE.out.1]
      obtain ⟨hV, r1, r2, r3, r4, r5, r6, hp0⟩ := HEE.out
      have hb5 := H5.out.2.2.1
      exact check_end rfl ⟨r3.trans hb5.os, r4.trans hb5.tape, r5.trans hb5.output, by rw [r6]; exact hb5.size, fun k hk => (r2 k (by omega)).trans (hb5.block k hk)⟩ r1 (Or.inr ⟨rfl, Or.inl (by rw [← HP.out.1]; exact hp0)⟩) rfl rfl
    · by_cases hq0 : q1 < 0
      · obtain ⟨V, hV, r1, r2, r3, r4, r5, r6⟩ := two_set (u0 := .int .i64 0) (u1 := .int .i64 0) H5.out.2.2.2.1
        have HEE := Lib.hid (And.intro hV (And.intro r1 (And.intro r2 (And.intro r3 (And.intro r4 (And.intro r5 (And.intro r6 hq0)))))))
        clear hV r1 r2 r3 r4 r5 r6
        go_wp2_with fail
        rw [← HEE.out.1]
        obtain ⟨hV, r1, r2, r3, r4, r5, r6, hp0⟩ := HEE.out
        have hb5 := H5.out.2.2.1
        exact check_end rfl ⟨r3.trans hb5.os, r4.trans hb5.tape, r5.trans hb5.output, by rw [r6]; exact hb5.size, fun k hk => (r2 k (by omega)).trans (hb5.block k hk)⟩ r1 (Or.inr ⟨rfl, Or.inr (by rw [← HP.out.2]; exact hp0)⟩) rfl rfl
      · obtain ⟨V, hV, r1, r2, r3, r4, r5, r6⟩ := two_set (u0 := .int .i64 p1) (u1 := .int .i64 q1) H5.out.2.2.2.1
        have HEE := Lib.hid (And.intro hV (And.intro r1 (And.intro r2 (And.intro r3 (And.intro r4 (And.intro r5 (And.intro r6 (And.intro hp0 hq0))))))))
        clear hV r1 r2 r3 r4 r5 r6
        go_wp2_with fail
        rw [← HEE.out.1]
        obtain ⟨hV, r1, r2, r3, r4, r5, r6, hp0, hq0⟩ := HEE.out
        have hb5 := H5.out.2.2.1
        exact check_end rfl ⟨r3.trans hb5.os, r4.trans hb5.tape, r5.trans hb5.output, by rw [r6]; exact hb5.size, fun k hk => (r2 k (by omega)).trans (hb5.block k hk)⟩ r1 (Or.inl ⟨rfl, HP.out.1, HP.out.2, by rw [← HP.out.1]; omega, by rw [← HP.out.2]; omega⟩) rfl rfl
end Go.Proofs.Ytonapijgfalpaaa
namespace Go.Proofs.Ytonapijgfalpaaa
open Go.RowKit Go.Shelf
set_option linter.unusedVariables false
set_option linter.unusedSimpArgs false

set_option maxRecDepth 100000 in
set_option maxHeartbeats 8000000 in
theorem doc_any (w : World) (S Sx : Nat → Prop) (ga : Option Addr) (gc GB : Nat) (nv : Value) (g : Gr) (t x : Tr) (op id par at_ : Int) (tx : ByteArray) (sa : Option Addr) (sn sc : Nat) (hgb : w.heap[GB]? = some (.cells #[.slice ga g.kinds.length gc, .int .i64 g.root] 55 (0, 0))) (hg : ∀ X, Below w.heap.size w X → GrV X (.agg #[.slice ga g.kinds.length gc, .int .i64 g.root]) g) (hf : g.few) (hS : ∀ y, S y → y < w.heap.size) (hSx : ∀ y, Sx y → y < w.heap.size) (ht : TrAt w S nv t) (hx : TrAt w Sx (.agg #[.int .i64 x.id, .int .i64 x.kind, .string x.text, .slice sa sn sc]) x) (hsz : foSize t.kids + 1 ≤ 2000) (hxz : foSize x.kids + 1 ≤ 2000) (hop : (Lit.int .i8 op).wf = true) (hok : okF (spF 1 (rootF t))) (hxk : okF (spF 1 (rootF x))) (htx : (tx.size : Int) ≤ 9223372036854775807) :
    Calls Try.prog 132 #[nv, .agg #[.int .i8 op, .int .i64 id, .int .i64 par, .int .i64 at_, .string tx, .int .i64 x.id, .int .i64 x.kind, .string x.text, .slice sa sn sc], .pointer (some ⟨GB, 0, none⟩)] w (ApplyC w (fun y => S y ∨ Sx y) (doK g (stepK op id par at_ tx x t))) := by
  obtain ⟨gn, hgn⟩ : ∃ gn, gn = g.kinds.length := ⟨_, rfl⟩
  obtain ⟨ka, tc, rfl, hcap, hk⟩ := ht
  obtain ⟨nk, hnk⟩ : ∃ nk, nk = foLen t.kids := ⟨_, rfl⟩
  rw [← hnk]
  rw [← hgn] at hgb hg
  obtain ⟨B, hB⟩ : ∃ B, B = allocs w [.cells #[.int .i64 t.id, .int .i64 t.kind, .string t.text, .slice ka nk tc] 24, .cells #[.int .i8 op, .int .i64 id, .int .i64 par, .int .i64 at_, .string tx, .int .i64 x.id, .int .i64 x.kind, .string x.text, .slice sa sn sc] 47, .cells #[.int .i64 0, .int .i64 0, .string ⟨#[]⟩, .slice none 0 0] 24] := ⟨_, rfl⟩
  have hb : Below w.heap.size w B := by rw [hB]; exact allocs_below _ _
  have hs : B.heap.size = w.heap.size + 3 := by rw [hB]; exact allocs_size _ _
  have ht0 : B.heap[w.heap.size]? = some (.cells #[.int .i64 t.id, .int .i64 t.kind, .string t.text, .slice ka nk tc] 24 (0, 0)) := by rw [hB]; exact allocs_at _ _ 0 _ rfl
  have hs0 : B.heap[w.heap.size + 1]? = some (.cells #[.int .i8 op, .int .i64 id, .int .i64 par, .int .i64 at_, .string tx, .int .i64 x.id, .int .i64 x.kind, .string x.text, .slice sa sn sc] 47 (0, 0)) := by rw [hB]; exact allocs_at _ _ 1 _ rfl
  have hr0 : B.heap[w.heap.size + 1 + 1]? = some (.cells #[.int .i64 0, .int .i64 0, .string ⟨#[]⟩, .slice none 0 0] 24 (0, 0)) := by rw [hB]; exact allocs_at _ _ 2 _ rfl
  have hgB := (hb.block _ (lt_of_heap hgb)).trans hgb
  have hdo := do_any B S Sx (.agg #[.slice ga gn gc, .int .i64 g.root]) (.agg #[.int .i64 t.id, .int .i64 t.kind, .string t.text, .slice ka nk tc]) g t x op id par at_ tx sa sn sc (hg B hb) hf (fun y hy => Nat.lt_of_lt_of_le (hS y hy) hb.size) (fun y hy => Nat.lt_of_lt_of_le (hSx y hy) hb.size) ⟨ka, tc, by rw [hnk], hcap, hk.below hb hS⟩ (hx.kept fun y hy => ⟨hy, hb.block y (hSx y hy)⟩) hsz hxz hop hok hxk htx
  obtain ⟨r, hr⟩ : ∃ r, r = doK g (stepK op id par at_ tx x t) := ⟨_, rfl⟩
  rw [← hr] at hdo ⊢
  obtain ⟨y, hy⟩ : ∃ y, y = applyR r := ⟨_, rfl⟩
  obtain ⟨yn, hyn⟩ : ∃ yn, yn = foLen y.kids := ⟨_, rfl⟩
  obtain ⟨ye, hye⟩ : ∃ ye, ye = r.2 := ⟨_, rfl⟩
  have HDO := Lib.hid hdo
  have HY := Lib.hid (And.intro hy (And.intro hyn hye))
  have HB := Lib.hid (And.intro hb (And.intro hs hr0))
  have HBE := Lib.hid hB
  have HSS := Lib.hid (And.intro hS hSx)
  obtain ⟨g0, g1⟩ : B.cell? ⟨GB, 0, none⟩ = some (.slice ga gn gc) ∧ B.cell? ⟨GB, 1, none⟩ = some (.int .i64 g.root) := ⟨by rw [cell_of_row _ _ 0 _ _ _ hgB]; rfl, by rw [cell_of_row _ _ 1 _ _ _ hgB]; rfl⟩
  obtain ⟨n0, n1, n2, n3⟩ := box4 ht0
  obtain ⟨m0, m1, m2, m3, m4, m5, m6, m7, m8⟩ := box9 hs0
  clear hdo hb hs ht0 hs0 hr0 hB hS hSx hk hcap hgn hnk hsz hxz hop hok hxk htx hx hr hy hyn hye hgb hg hf hgB
  go_enter Try.func132, Try.ntmps132
  go_upto_region 1 with fail
  change Code.wp _ _ _ _ (allocs w [.cells #[.int .i64 t.id, .int .i64 t.kind, .string t.text, .slice ka nk tc] 24, .cells #[.int .i8 op, .int .i64 id, .int .i64 par, .int .i64 at_, .string tx, .int .i64 x.id, .int .i64 x.kind, .string x.text, .slice sa sn sc] 47, .cells #[.int .i64 0, .int .i64 0, .string ⟨#[]⟩, .slice none 0 0] 24])
  rw [← HBE.out]
  go_wp2_with fail
  clear g0 g1 n0 n1 n2 n3 m0 m1 m2 m3 m4 m5 m6 m7 m8
  refine HDO.out.mono ?_
  rintro e W5 ⟨_, rfl, ⟨yb, yc, rfl, hyc, hyk⟩, hb5⟩
  rw [← HY.out.1] at hyc hyk ⊢
  rw [← HY.out.2.1] at hyc ⊢
  rw [← HY.out.2.2]
  have hr5 := (hb5.block _ (lt_of_heap HB.out.2.2)).trans HB.out.2.2
  have hbz : Below w.heap.size w W5 := HB.out.1.trans (hb5.mono HB.out.1.size)
  obtain ⟨z0, z1, z2, z3⟩ := box4 hr5
  have zf : ∀ j, W5.frozen? ⟨w.heap.size + 1 + 1, j, none⟩ = false := fun j => frozen_of_row _ _ j _ _ hr5
  obtain ⟨V, hV, r1, r2, r3, r4, r5, r6⟩ := four_set (u0 := .int .i64 y.id) (u1 := .int .i64 y.kind) (u2 := .string y.text) (u3 := .slice yb yn yc) hr5
  have hokV : FoAt V (fun z => CellsB V z ∧ ((S z ∨ Sx z) ∨ w.heap.size ≤ z)) y.kids yb := hyk.kept fun z hz => by
    obtain ⟨⟨cs, ty, fr, hcz⟩, hz2⟩ := hz
    have h1 := HB.out.2.1
    have hlt := lt_of_heap hcz
    have hne : z ≠ w.heap.size + 1 + 1 := fun e => by
      rcases hz2 with (h | h) | h
      · have := HSS.out.1 z h; omega
      · have := HSS.out.2 z h; omega
      · omega
    have e1 : V.heap[z]? = W5.heap[z]? := r2 z hne
    exact ⟨⟨⟨cs, ty, fr, e1.trans hcz⟩, hz2.imp (fun h => h) (fun h => by omega)⟩, e1⟩
  have HE := Lib.hid (And.intro hbz (And.intro hV (And.intro r1 (And.intro r2 (And.intro r3 (And.intro r4 (And.intro r5 (And.intro r6 (And.intro hokV hyc)))))))))
  clear hbz hr5 hV r1 r2 r3 r4 r5 r6 hokV hyc hyk hb5
  go_wp2_with fail
  rw [← HE.out.2.1]
  obtain ⟨hbz, hV, r1, r2, r3, r4, r5, r6, hokV, hyc⟩ := HE.out
  exact apply_end (p := 5) (u := 6) rfl rfl (g := w.heap.size + 1 + 1) (y := y) ⟨r3.trans hbz.os, r4.trans hbz.tape, r5.trans hbz.output, by rw [r6]; exact hbz.size, fun k hk => (r2 k (by omega)).trans (hbz.block k hk)⟩ r1 HY.out.2.1 (by rw [← HY.out.2.1]; exact hyc) hokV HY.out.1.symm rfl (by rw [← HY.out.2.2]; rfl)
theorem doN {E : Nat → Prop} {X0 X : World} {g : Gr} {t : Tr} {x : SV} {ga ta : Option Addr} {gc GB tn tc : Nat} (hE : ∀ q, E q → q < X.heap.size) (hgb : X.heap[GB]? = some (.cells #[.slice ga g.kinds.length gc, .int .i64 g.root] 55 (0, 0))) (hg : ∀ Y, Below X.heap.size X Y → GrV Y (.agg #[.slice ga g.kinds.length gc, .int .i64 g.root]) g) (hf : g.few) (h0 : LiesN X E t.kids ta tc) (h1 : LiesN X0 E x.s.sub.kids x.a x.c) (b1 : Below X0.heap.size X0 X) (hw : Way t) (hs : StepFit x.s) (htn : tn = foLen t.kids) :
    Calls Try.prog 132 #[.agg #[.int .i64 t.id, .int .i64 t.kind, .string t.text, .slice ta tn tc], x.v, .pointer (some ⟨GB, 0, none⟩)] X (TreeN E (applyR (doK g (x.s.on t))) (doK g (x.s.on t)).2 X) := by
  subst htn
  refine (doc_any X _ _ ga gc GB _ g t x.s.sub x.s.op x.s.id x.s.par x.s.at_ x.s.tx x.a (foLen x.s.sub.kids) x.c hgb hg hf (fun y hy => hy.1) (fun y hy => Nat.lt_of_lt_of_le hy.1 b1.size) (h0.at (Below.refl _ _)) ⟨x.a, x.c, rfl, h1.1, h1.2.kept fun q hq => ⟨hq, b1.block q hq.1⟩⟩ (by have := hw.size; omega) (by have := hs.size; omega) hs.op hw.ok hs.ok hs.tx).mono ?_
  rintro e W ⟨v, rfl, ⟨va, vc, rfl, hc, hf⟩, hb⟩
  refine ⟨va, vc, rfl, ⟨hc, hf.kept fun q hq => ⟨⟨hq.1.lt, fun he => ?_⟩, rfl⟩⟩, hb⟩
  rcases hq.2 with (h | h) | h
  · exact h.2 he
  · exact h.2 he
  · have := hE q he; omega
end Go.Proofs.Ytonapijgfalpaaa
