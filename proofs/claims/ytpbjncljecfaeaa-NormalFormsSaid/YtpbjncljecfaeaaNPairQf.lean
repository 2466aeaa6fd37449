/-
  The document's Pair: what two neighbours become, if they fit a rule. No condition but that there are not too many nodes.
-/
import Derived.Deep.Cut
import Derived.Test.YtpbjncljecfaeaaNWithQf
import Derived.Test.YtpbjncljecfaeaaNCopiedQf
namespace Go.Proofs.Ytpbjncljecfaeaa
open Go.RowKit Go.Shelf
set_option linter.unusedVariables false
set_option linter.unusedSimpArgs false

/-- A row of steps that lies in blocks of a kind. -/
structure RowIn (S : Nat → Prop) (w : World) (a : Option Addr) (vs : List SV) : Prop where
  cells : ∀ (k : Nat) (x : SV), vs[k]? = some x → ∃ b off, a = some ⟨b, off, none⟩ ∧ S b ∧ ∀ (j : Nat) (u : Value), (stepC x.s x.a x.c)[j]? = some u → w.cell? ⟨b, off + k * 9 + j, none⟩ = some u
  lies : ∀ x ∈ vs, foLen x.s.sub.kids ≤ x.c ∧ FoAt w S x.s.sub.kids x.a
  fit : ∀ x ∈ vs, foSize x.s.sub.kids + 1 ≤ 100000
  len : vs.length ≤ 1000000
theorem RowIn.kept {S T : Nat → Prop} {w X : World} {a : Option Addr} {vs : List SV} (h : RowIn S w a vs) (hS : ∀ q, S q → T q ∧ X.heap[q]? = w.heap[q]?) : RowIn T X a vs :=
  ⟨fun k x hx => by
    obtain ⟨b, off, e, h1, h2⟩ := h.cells k x hx
    exact ⟨b, off, e, (hS b h1).1, fun j u hj => (World.cell?_of_block (a := ⟨b, off + k * 9 + j, none⟩) (hS b h1).2).trans (h2 j u hj)⟩, fun x hx => ⟨(h.lies x hx).1, (h.lies x hx).2.kept hS⟩, h.fit, h.len⟩
theorem RowIn.row {S : Nat → Prop} {w : World} {a : Option Addr} {vs : List SV} (h : RowIn S w a vs) (hS : ∀ q, S q → q < w.heap.size) : Row w a vs :=
  have h := h.kept (T := fun q => q < w.heap.size) fun q hq => ⟨hS q hq, rfl⟩
  ⟨h.cells, h.lies, h.fit, h.len⟩
theorem Row.inn {w : World} {a : Option Addr} {vs : List SV} (h : Row w a vs) : RowIn (fun q => q < w.heap.size) w a vs := ⟨h.cells, h.lies, h.fit, h.len⟩
theorem RowIn.nil (S : Nat → Prop) (w : World) (a : Option Addr) : RowIn S w a [] := ⟨fun k x hx => by simp at hx, fun x hx => by simp at hx, fun x hx => by simp at hx, by simp⟩
def PairC (r : List Sf × Bool) (w : World) (e : Ending) (w' : World) : Prop := ∃ pa pn pc, e = .returned (.tuple #[.slice pa pn pc, .bool r.2]) ∧ Below w.heap.size w w' ∧ (pa = none → pc = 0) ∧ ∃ js : List SV, pn = js.length ∧ RowIn (Fresh w w') w' pa js ∧ steps js = r.1
theorem PairC.none {r : List Sf × Bool} {w w' : World} {b : Bool} (h : r = ([], b)) (hb : Below w.heap.size w w') : PairC r w (.returned (.tuple #[.slice none 0 0, .bool b])) w' := by
  subst h
  exact ⟨_, 0, 0, rfl, hb, fun _ => rfl, [], rfl, RowIn.nil _ _ _, rfl⟩
theorem row_one {S : Nat → Prop} {X : World} {g : Nat} {s : Sf} {a : Option Addr} {c : Nat} (h : X.heap[g]? = some (.cells #[.int .i8 s.op, .int .i64 s.id, .int .i64 s.par, .int .i64 s.at_, .string s.tx, .int .i64 s.sub.id, .int .i64 s.sub.kind, .string s.sub.text, .slice a (foLen s.sub.kids) c] 27 (0, 0))) (hg : S g) (hl : foLen s.sub.kids ≤ c ∧ FoAt X S s.sub.kids a) (hz : foSize s.sub.kids + 1 ≤ 100000) : RowIn S X (some ⟨g, 0, Option.none⟩) [⟨s, a, c⟩] :=
  ⟨fun k x hx => by
    cases k with
    | zero =>
      simp at hx; subst hx
      refine ⟨g, 0, rfl, hg, fun j u hj => ?_⟩
      rw [cell_of_row _ _ _ _ _ _ h]
      simpa [stepC] using hj
    | succ k => simp at hx, fun x hx => by simp at hx; subst hx; exact hl, fun x hx => by simp at hx; subst hx; exact hz, by simp⟩
theorem PairC.one {r : List Sf × Bool} {w w' : World} {g : Nat} {s : Sf} {a : Option Addr} {c : Nat} (h : r = ([s], true)) (hb : Below w.heap.size w w') (hw : w.heap.size ≤ g) (hg : w'.heap[g]? = some (.cells #[.int .i8 s.op, .int .i64 s.id, .int .i64 s.par, .int .i64 s.at_, .string s.tx, .int .i64 s.sub.id, .int .i64 s.sub.kind, .string s.sub.text, .slice a (foLen s.sub.kids) c] 27 (0, 0))) (hl : foLen s.sub.kids ≤ c ∧ FoAt w' (Fresh w w') s.sub.kids a) (hz : foSize s.sub.kids + 1 ≤ 100000) : PairC r w (.returned (.tuple #[.slice (some ⟨g, 0, Option.none⟩) 1 1, .bool true])) w' := by
  subst h
  exact ⟨_, 1, 1, rfl, hb, (fun h => by cases h), [⟨s, a, c⟩], rfl, row_one hg ⟨hw, lt_of_heap hg⟩ hl hz, rfl⟩
set_option maxRecDepth 100000 in
set_option maxHeartbeats 8000000 in
theorem rpair1 {X0 X1 w : World} {op id par at_ op2 id2 par2 at2 : Int} {tx tx2 : ByteArray} {u v : Tr} {aa ba : Option Addr} {ac bc n m : Nat} (h0 : LiesI X0 u.kids aa ac) (h1 : LiesI X1 v.kids ba bc) (b0 : Below X0.heap.size X0 w) (b1 : Below X1.heap.size X1 w) (hz : foSize u.kids + 1 ≤ 100000) (hy : foSize v.kids + 1 ≤ 100000) (hn : n = foLen u.kids) (hm : m = foLen v.kids) :
    Calls Try.prog 9 #[.agg #[.int .i8 op, .int .i64 id, .int .i64 par, .int .i64 at_, .string tx, .int .i64 u.id, .int .i64 u.kind, .string u.text, .slice aa n ac], .agg #[.int .i8 op2, .int .i64 id2, .int .i64 par2, .int .i64 at2, .string tx2, .int .i64 v.id, .int .i64 v.kind, .string v.text, .slice ba m bc]] w (PairC (pairK ⟨op, id, par, at_, tx, u⟩ ⟨op2, id2, par2, at2, tx2, v⟩) w) := by
  obtain ⟨B, hB⟩ : ∃ B, B = allocs w [.cells #[.int .i8 op, .int .i64 id, .int .i64 par, .int .i64 at_, .string tx, .int .i64 u.id, .int .i64 u.kind, .string u.text, .slice aa n ac] 27, .cells #[.int .i8 op2, .int .i64 id2, .int .i64 par2, .int .i64 at2, .string tx2, .int .i64 v.id, .int .i64 v.kind, .string v.text, .slice ba m bc] 27] := ⟨_, rfl⟩
  have hb : Below w.heap.size w B := by rw [hB]; exact allocs_below _ _
  have hs : B.heap.size = w.heap.size + 2 := by rw [hB]; exact allocs_size _ _
  have e0 : B.heap[w.heap.size]? = some (.cells #[.int .i8 op, .int .i64 id, .int .i64 par, .int .i64 at_, .string tx, .int .i64 u.id, .int .i64 u.kind, .string u.text, .slice aa n ac] 27 (0, 0)) := by rw [hB]; exact allocs_at _ _ 0 _ rfl
  have e1 : B.heap[w.heap.size + 1]? = some (.cells #[.int .i8 op2, .int .i64 id2, .int .i64 par2, .int .i64 at2, .string tx2, .int .i64 v.id, .int .i64 v.kind, .string v.text, .slice ba m bc] 27 (0, 0)) := by rw [hB]; exact allocs_at _ _ 1 _ rfl
  have HB := Lib.hid (And.intro hb (And.intro hs (And.intro e0 e1)))
  have H0 := Lib.hid (And.intro h0 (And.intro b0 (And.intro hz hn)))
  have H1 := Lib.hid (And.intro h1 (And.intro b1 (And.intro hy hm)))
  have HBE := Lib.hid hB
  obtain ⟨n0, n1, n2, n3, n4, n5, n6, n7, n8⟩ := box9 e0
  obtain ⟨m0, m1, m2, m3, m4, m5, m6, m7, m8⟩ := box9 e1
  clear h0 h1 b0 b1 hz hy hn hm hb hs e0 e1 hB
  by_cases h1 : op = op2
  · by_cases h4 : op = 4
    · by_cases hi : id = id2
      · have q1 : (op == op2) = true := by simpa using h1
        have q2 : (op == 4) = true := by simpa using h4
        have q4 : (id == id2) = true := by simpa using hi
        have HV := Lib.hid (show pairK ⟨op, id, par, at_, tx, u⟩ ⟨op2, id2, par2, at2, tx2, v⟩ = ([⟨op2, id2, par2, at2, tx2, v⟩], true) by unfold pairK; rw [if_pos ⟨h1, Or.inl h4, hi⟩])
        clear h1 h4 hi
        go_enter Try.func9, Try.ntmps9
        go_upto_region 1 with fail
        change Code.wp _ _ _ _ (allocs w [.cells #[.int .i8 op, .int .i64 id, .int .i64 par, .int .i64 at_, .string tx, .int .i64 u.id, .int .i64 u.kind, .string u.text, .slice aa n ac] 27, .cells #[.int .i8 op2, .int .i64 id2, .int .i64 par2, .int .i64 at2, .string tx2, .int .i64 v.id, .int .i64 v.kind, .string v.text, .slice ba m bc] 27])
        rw [← HBE.out]
        clear HBE
        go_wp2_with fail
        refine (rcopied_any ⟨op2, id2, par2, at2, tx2, v⟩ ba m bc H1.out.1 (H1.out.2.1.trans (HB.out.1.mono H1.out.2.1.size)) H1.out.2.2.1 H1.out.2.2.2).mono ?_
        rintro e W1 ⟨va, vc, rfl, hvc, hvf, hb1⟩
        have HW := Lib.hid (And.intro hvc (And.intro hvf (And.intro hb1 (HB.out.1.trans (hb1.mono HB.out.1.size)))))
        clear hvc hvf hb1 n0 n1 n2 n3 n4 n5 n6 n7 n8 m0 m1 m2 m3 m4 m5 m6 m7 m8
        go_wp2_with fail
        go_ret2
        exact PairC.one (s := ⟨op2, id2, par2, at2, tx2, v⟩) HV.out (HW.out.2.2.2.alloc HW.out.2.2.2.size _) HW.out.2.2.2.size (heap_alloc_new _ _) ⟨HW.out.1, HW.out.2.1.kept fun x hx => ⟨by have := hx.1; have := hx.2; have := HB.out.2.1; exact ⟨by omega, by simp; omega⟩, Below.heap_alloc _ _ _ hx.2⟩⟩ H1.out.2.2.1
      · have q1 : (op == op2) = true := by simpa using h1
        have q2 : (op == 4) = true := by simpa using h4
        have q4 : (id == id2) = false := by simpa using hi
        have q5 : (op == 1) = false := by simp; omega
        have HV := Lib.hid (show pairK ⟨op, id, par, at_, tx, u⟩ ⟨op2, id2, par2, at2, tx2, v⟩ = ([], false) by unfold pairK; simp [h4, hi])
        clear h1 h4 hi
        go_enter Try.func9, Try.ntmps9
        go_upto_region 1 with fail
        change Code.wp _ _ _ _ (allocs w [.cells #[.int .i8 op, .int .i64 id, .int .i64 par, .int .i64 at_, .string tx, .int .i64 u.id, .int .i64 u.kind, .string u.text, .slice aa n ac] 27, .cells #[.int .i8 op2, .int .i64 id2, .int .i64 par2, .int .i64 at2, .string tx2, .int .i64 v.id, .int .i64 v.kind, .string v.text, .slice ba m bc] 27])
        rw [← HBE.out]
        clear HBE
        go_wp2_with fail
        go_ret2
        exact PairC.none HV.out HB.out.1
    · by_cases h3 : op = 3
      · by_cases hi : id = id2
        · have q1 : (op == op2) = true := by simpa using h1
          have q2 : (op == 4) = false := by simpa using h4
          have q3 : (op == 3) = true := by simpa using h3
          have q4 : (id == id2) = true := by simpa using hi
          have HV := Lib.hid (show pairK ⟨op, id, par, at_, tx, u⟩ ⟨op2, id2, par2, at2, tx2, v⟩ = ([⟨op2, id2, par2, at2, tx2, v⟩], true) by unfold pairK; rw [if_pos ⟨h1, Or.inr h3, hi⟩])
          clear h1 h4 h3 hi
          go_enter Try.func9, Try.ntmps9
          go_upto_region 1 with fail
          change Code.wp _ _ _ _ (allocs w [.cells #[.int .i8 op, .int .i64 id, .int .i64 par, .int .i64 at_, .string tx, .int .i64 u.id, .int .i64 u.kind, .string u.text, .slice aa n ac] 27, .cells #[.int .i8 op2, .int .i64 id2, .int .i64 par2, .int .i64 at2, .string tx2, .int .i64 v.id, .int .i64 v.kind, .string v.text, .slice ba m bc] 27])
          rw [← HBE.out]
          clear HBE
          go_wp2_with fail
          refine (rcopied_any ⟨op2, id2, par2, at2, tx2, v⟩ ba m bc H1.out.1 (H1.out.2.1.trans (HB.out.1.mono H1.out.2.1.size)) H1.out.2.2.1 H1.out.2.2.2).mono ?_
          rintro e W1 ⟨va, vc, rfl, hvc, hvf, hb1⟩
          have HW := Lib.hid (And.intro hvc (And.intro hvf (And.intro hb1 (HB.out.1.trans (hb1.mono HB.out.1.size)))))
          clear hvc hvf hb1 n0 n1 n2 n3 n4 n5 n6 n7 n8 m0 m1 m2 m3 m4 m5 m6 m7 m8
          go_wp2_with fail
          go_ret2
          exact PairC.one (s := ⟨op2, id2, par2, at2, tx2, v⟩) HV.out (HW.out.2.2.2.alloc HW.out.2.2.2.size _) HW.out.2.2.2.size (heap_alloc_new _ _) ⟨HW.out.1, HW.out.2.1.kept fun x hx => ⟨by have := hx.1; have := hx.2; have := HB.out.2.1; exact ⟨by omega, by simp; omega⟩, Below.heap_alloc _ _ _ hx.2⟩⟩ H1.out.2.2.1
        · have q1 : (op == op2) = true := by simpa using h1
          have q2 : (op == 4) = false := by simpa using h4
          have q3 : (op == 3) = true := by simpa using h3
          have q4 : (id == id2) = false := by simpa using hi
          have q5 : (op == 1) = false := by simp; omega
          have HV := Lib.hid (show pairK ⟨op, id, par, at_, tx, u⟩ ⟨op2, id2, par2, at2, tx2, v⟩ = ([], false) by unfold pairK; simp [h3, hi])
          clear h1 h4 h3 hi
          go_enter Try.func9, Try.ntmps9
          go_upto_region 1 with fail
          change Code.wp _ _ _ _ (allocs w [.cells #[.int .i8 op, .int .i64 id, .int .i64 par, .int .i64 at_, .string tx, .int .i64 u.id, .int .i64 u.kind, .string u.text, .slice aa n ac] 27, .cells #[.int .i8 op2, .int .i64 id2, .int .i64 par2, .int .i64 at2, .string tx2, .int .i64 v.id, .int .i64 v.kind, .string v.text, .slice ba m bc] 27])
          rw [← HBE.out]
          clear HBE
          go_wp2_with fail
          go_ret2
          exact PairC.none HV.out HB.out.1
      · by_cases h5 : op = 1
        · have q1 : (op == op2) = true := by simpa using h1
          have q2 : (op == 4) = false := by simpa using h4
          have q3 : (op == 3) = false := by simpa using h3
          have q5 : (op == 1) = true := by simpa using h5
          have q6 : (op2 == 2) = false := by simp; omega
          have q8 : (op2 == 4) = false := by simp; omega
          have HV := Lib.hid (show pairK ⟨op, id, par, at_, tx, u⟩ ⟨op2, id2, par2, at2, tx2, v⟩ = ([], false) by unfold pairK; simp [← h1, h5])
          clear h1 h4 h3 h5
          go_enter Try.func9, Try.ntmps9
          go_upto_region 1 with fail
          change Code.wp _ _ _ _ (allocs w [.cells #[.int .i8 op, .int .i64 id, .int .i64 par, .int .i64 at_, .string tx, .int .i64 u.id, .int .i64 u.kind, .string u.text, .slice aa n ac] 27, .cells #[.int .i8 op2, .int .i64 id2, .int .i64 par2, .int .i64 at2, .string tx2, .int .i64 v.id, .int .i64 v.kind, .string v.text, .slice ba m bc] 27])
          rw [← HBE.out]
          clear HBE
          go_wp2_with fail
          go_ret2
          exact PairC.none HV.out HB.out.1
        · have q1 : (op == op2) = true := by simpa using h1
          have q2 : (op == 4) = false := by simpa using h4
          have q3 : (op == 3) = false := by simpa using h3
          have q5 : (op == 1) = false := by simpa using h5
          have HV := Lib.hid (show pairK ⟨op, id, par, at_, tx, u⟩ ⟨op2, id2, par2, at2, tx2, v⟩ = ([], false) by unfold pairK; simp [h4, h3, h5])
          clear h1 h4 h3 h5
          go_enter Try.func9, Try.ntmps9
          go_upto_region 1 with fail
          change Code.wp _ _ _ _ (allocs w [.cells #[.int .i8 op, .int .i64 id, .int .i64 par, .int .i64 at_, .string tx, .int .i64 u.id, .int .i64 u.kind, .string u.text, .slice aa n ac] 27, .cells #[.int .i8 op2, .int .i64 id2, .int .i64 par2, .int .i64 at2, .string tx2, .int .i64 v.id, .int .i64 v.kind, .string v.text, .slice ba m bc] 27])
          rw [← HBE.out]
          clear HBE
          go_wp2_with fail
          go_ret2
          exact PairC.none HV.out HB.out.1
  · by_cases h5 : op = 1
    · by_cases h6 : op2 = 2
      · by_cases hu : u.id = id2
        · have q1 : (op == op2) = false := by simpa using h1
          have q5 : (op == 1) = true := by simpa using h5
          have q6 : (op2 == 2) = true := by simpa using h6
          have q7 : (u.id == id2) = true := by simpa using hu
          have HV := Lib.hid (show pairK ⟨op, id, par, at_, tx, u⟩ ⟨op2, id2, par2, at2, tx2, v⟩ = ([], true) by unfold pairK; simp [h5, h6, hu])
          clear h1 h5 h6 hu
          go_enter Try.func9, Try.ntmps9
          go_upto_region 1 with fail
          change Code.wp _ _ _ _ (allocs w [.cells #[.int .i8 op, .int .i64 id, .int .i64 par, .int .i64 at_, .string tx, .int .i64 u.id, .int .i64 u.kind, .string u.text, .slice aa n ac] 27, .cells #[.int .i8 op2, .int .i64 id2, .int .i64 par2, .int .i64 at2, .string tx2, .int .i64 v.id, .int .i64 v.kind, .string v.text, .slice ba m bc] 27])
          rw [← HBE.out]
          clear HBE
          go_wp2_with fail
          go_ret2
          exact PairC.none HV.out HB.out.1
        · have q1 : (op == op2) = false := by simpa using h1
          have q5 : (op == 1) = true := by simpa using h5
          have q6 : (op2 == 2) = true := by simpa using h6
          have q7 : (u.id == id2) = false := by simpa using hu
          have q8 : (op2 == 4) = false := by simp; omega
          have HV := Lib.hid (show pairK ⟨op, id, par, at_, tx, u⟩ ⟨op2, id2, par2, at2, tx2, v⟩ = ([], false) by unfold pairK; simp [h5, h6, hu])
          clear h1 h5 h6 hu
          go_enter Try.func9, Try.ntmps9
          go_upto_region 1 with fail
          change Code.wp _ _ _ _ (allocs w [.cells #[.int .i8 op, .int .i64 id, .int .i64 par, .int .i64 at_, .string tx, .int .i64 u.id, .int .i64 u.kind, .string u.text, .slice aa n ac] 27, .cells #[.int .i8 op2, .int .i64 id2, .int .i64 par2, .int .i64 at2, .string tx2, .int .i64 v.id, .int .i64 v.kind, .string v.text, .slice ba m bc] 27])
          rw [← HBE.out]
          clear HBE
          go_wp2_with fail
          go_ret2
          exact PairC.none HV.out HB.out.1
      · by_cases h8 : op2 = 4
        · have q1 : (op == op2) = false := by simpa using h1
          have q5 : (op == 1) = true := by simpa using h5
          have q6 : (op2 == 2) = false := by simpa using h6
          have q8 : (op2 == 4) = true := by simpa using h8
          have HVP := Lib.hid (show pairK ⟨op, id, par, at_, tx, u⟩ ⟨op2, id2, par2, at2, tx2, v⟩ = if (wiT id2 tx2 u).2 = true then ([⟨op, id, par, at_, tx, (wiT id2 tx2 u).1⟩], true) else ([], false) by unfold pairK; simp [h5, h8])
          clear h1 h5 h6 h8
          go_enter Try.func9, Try.ntmps9
          go_upto_region 1 with fail
          change Code.wp _ _ _ _ (allocs w [.cells #[.int .i8 op, .int .i64 id, .int .i64 par, .int .i64 at_, .string tx, .int .i64 u.id, .int .i64 u.kind, .string u.text, .slice aa n ac] 27, .cells #[.int .i8 op2, .int .i64 id2, .int .i64 par2, .int .i64 at2, .string tx2, .int .i64 v.id, .int .i64 v.kind, .string v.text, .slice ba m bc] 27])
          rw [← HBE.out]
          clear HBE
          go_wp2_with fail
          refine (with_any id2 tx2 _ B (fun q => q < X0.heap.size) _ u (Nat.lt_succ_self _) (by have := H0.out.2.2.1; omega) (fun k hk => Nat.lt_of_lt_of_le hk (H0.out.2.1.trans (HB.out.1.mono H0.out.2.1.size)).size) (by rw [H0.out.2.2.2]; exact H0.out.1.at (H0.out.2.1.trans (HB.out.1.mono H0.out.2.1.size)))).mono ?_
          rintro e W1 ⟨va, vc, rfl, hvc, hvf, hb1⟩
          obtain ⟨y, hy⟩ : ∃ y, y = (wiT id2 tx2 u).1 := ⟨_, rfl⟩
          obtain ⟨bb, hbb⟩ : ∃ bb, bb = (wiT id2 tx2 u).2 := ⟨_, rfl⟩
          have hys : foSize y.kids = foSize u.kids := by rw [hy]; exact wiT_size u
          rw [← hy] at hvc hvf ⊢
          rw [← hbb]
          obtain ⟨yn, hyn⟩ : ∃ yn, yn = foLen y.kids := ⟨_, rfl⟩
          rw [← hyn] at hvc ⊢
          obtain ⟨W2, hW2⟩ : ∃ W2, W2 = W1.alloc (.cells #[.int .i64 y.id, .int .i64 y.kind, .string y.text, .slice va yn vc] 25) := ⟨_, rfl⟩
          have hb2 : Below W1.heap.size W1 W2 := by rw [hW2]; exact box_below _ _
          have ex : W2.heap[W1.heap.size]? = some (.cells #[.int .i64 y.id, .int .i64 y.kind, .string y.text, .slice va yn vc] 25 (0, 0)) := by rw [hW2]; exact heap_alloc_new _ _
          have hbB2 : Below B.heap.size B W2 := hb1.trans (hb2.mono hb1.size)
          have HY := Lib.hid (And.intro hy (And.intro hbb (And.intro hys (And.intro hyn (And.intro hvc (And.intro hvf (And.intro hb1 (And.intro hb2 hbB2))))))))
          obtain ⟨XB, hXB⟩ : ∃ XB, XB = W1.heap.size := ⟨_, rfl⟩
          have HEX := Lib.hid (And.intro ex hXB)
          have HW2 := Lib.hid hW2
          have ea := (hbB2.block _ (lt_of_heap HB.out.2.2.1)).trans HB.out.2.2.1
          have HEA := Lib.hid ea
          clear hy hbb hys hyn hvc hvf hb1 hb2 ex hbB2 hW2 ea n0 n1 n2 n3 n4 n5 n6 n7 n8 m0 m1 m2 m3 m4 m5 m6 m7 m8
          go_upto_region 7 with fail
          change Code.wp _ _ _ _ (W1.alloc (.cells #[.int .i64 y.id, .int .i64 y.kind, .string y.text, .slice va yn vc] 25))
          rw [← HW2.out, ← hXB]
          clear HW2 hXB
          cases bb
          · have HV := Lib.hid (show pairK ⟨op, id, par, at_, tx, u⟩ ⟨op2, id2, par2, at2, tx2, v⟩ = ([], false) by rw [HVP.out, if_neg (by rw [← HY.out.2.1]; decide)])
            go_wp2_with fail
            go_ret2
            exact PairC.none HV.out (HB.out.1.trans (HY.out.2.2.2.2.2.2.2.2.mono HB.out.1.size))
          · have HV := Lib.hid (show pairK ⟨op, id, par, at_, tx, u⟩ ⟨op2, id2, par2, at2, tx2, v⟩ = ([⟨op, id, par, at_, tx, y⟩], true) by rw [HVP.out, if_pos HY.out.2.1.symm, HY.out.1])
            obtain ⟨n0, n1, n2, n3, n4, n5, n6, n7, n8⟩ := box9 HEA.out
            have hb02 := H0.out.2.1.trans ((HB.out.1.trans (HY.out.2.2.2.2.2.2.2.2.mono HB.out.1.size)).mono H0.out.2.1.size)
            have HCP := Lib.hid (rcopied_any (w := W2) ⟨op, id, par, at_, tx, u⟩ aa n ac H0.out.1 hb02 H0.out.2.2.1 H0.out.2.2.2)
            clear hb02
            go_wp2_with fail
            refine HCP.out.mono ?_
            rintro e W3 ⟨ca, cc, rfl, hcc, hcf, hb3⟩
            have e3 : foLen u.kids = n := H0.out.2.2.2.symm
            simp only [e3]
            clear HCP n0 n1 n2 n3 n4 n5 n6 n7 n8 hcc hcf
            obtain ⟨W4, hW4⟩ : ∃ W4, W4 = W3.alloc (.cells #[.int .i8 op, .int .i64 id, .int .i64 par, .int .i64 at_, .string tx, .int .i64 u.id, .int .i64 u.kind, .string u.text, .slice ca n cc] 27) := ⟨_, rfl⟩
            have hb4 : Below W3.heap.size W3 W4 := by rw [hW4]; exact box_below _ _
            have eo : W4.heap[W3.heap.size]? = some (.cells #[.int .i8 op, .int .i64 id, .int .i64 par, .int .i64 at_, .string tx, .int .i64 u.id, .int .i64 u.kind, .string u.text, .slice ca n cc] 27 (0, 0)) := by rw [hW4]; exact heap_alloc_new _ _
            have hs4 : W4.heap.size = W3.heap.size + 1 := by rw [hW4]; simp
            obtain ⟨OB, hOB⟩ : ∃ OB, OB = W3.heap.size := ⟨_, rfl⟩
            have hb24 := hb3.trans (hb4.mono hb3.size)
            have ex := (hb24.block _ (lt_of_heap HEX.out.1)).trans HEX.out.1
            rw [← HEX.out.2] at ex
            have H4 := Lib.hid (And.intro hb24 (And.intro hs4 (And.intro hb3.size hOB)))
            have HW4 := Lib.hid hW4
            have hOB2 := hOB
            clear hb3 hb4 hs4 hb24 hW4
            go_upto_region 9 with fail
            change Code.wp _ _ _ _ (W3.alloc (.cells #[.int .i8 op, .int .i64 id, .int .i64 par, .int .i64 at_, .string tx, .int .i64 u.id, .int .i64 u.kind, .string u.text, .slice ca n cc] 27))
            rw [← HW4.out, ← hOB2]
            rw [← hOB2] at eo
            clear HW4 hOB2 hOB e3
            obtain ⟨x0, x1, x2, x3⟩ := box4 ex
            have yf : ∀ j, W4.frozen? ⟨OB, j, none⟩ = false := fun j => frozen_of_row _ _ j _ _ eo
            obtain ⟨V5, e5, g5, o5, a5, t5, p5, z5⟩ := one_setN (i := 5) (u := .int .i64 y.id) eo
            obtain ⟨V6, e6, g6, o6, a6, t6, p6, z6⟩ := one_setN (i := 6) (u := .int .i64 y.kind) g5
            obtain ⟨V7, e7, g7, o7, a7, t7, p7, z7⟩ := one_setN (i := 7) (u := .string y.text) g6
            obtain ⟨V8, e8, g8, o8, a8, t8, p8, z8⟩ := one_setN (i := 8) (u := .slice va yn vc) g7
            have hV8 : V8 = ((((W4.setCell ⟨OB, 5, none⟩ (.int .i64 y.id)).setCell ⟨OB, 6, none⟩ (.int .i64 y.kind)).setCell ⟨OB, 7, none⟩ (.string y.text)).setCell ⟨OB, 8, none⟩ (.slice va yn vc)) := by rw [e8, e7, e6, e5]
            have g8' : V8.heap[OB]? = some (.cells #[.int .i8 op, .int .i64 id, .int .i64 par, .int .i64 at_, .string tx, .int .i64 y.id, .int .i64 y.kind, .string y.text, .slice va yn vc] 27 (0, 0)) := by simpa using g8
            obtain ⟨m0, m1, m2, m3, m4, m5, m6, m7, m8⟩ := box9 eo
            have HK := Lib.hid (And.intro g8' (And.intro (show ∀ z, z ≠ OB → V8.heap[z]? = W4.heap[z]? from fun z hz => by rw [o8 z hz, o7 z hz, o6 z hz, o5 z hz]) (And.intro (show V8.os = W4.os by rw [a8, a7, a6, a5]) (And.intro (show V8.tape = W4.tape by rw [t8, t7, t6, t5]) (And.intro (show V8.output = W4.output by rw [p8, p7, p6, p5]) (show V8.heap.size = W4.heap.size by rw [z8, z7, z6, z5]))))))
            have HV8 := Lib.hid hV8
            clear e5 g5 o5 a5 t5 p5 z5 e6 g6 o6 a6 t6 p6 z6 e7 g7 o7 a7 t7 p7 z7 e8 g8 o8 a8 t8 p8 z8 hV8 g8' ex eo V5 V6 V7
            go_upto_region 10 with fail
            rw [← HV8.out]
            clear HV8 yf m0 m1 m2 m3 m4 m5 m6 m7 m8 x0 x1 x2 x3
            obtain ⟨m0, m1, m2, m3, m4, m5, m6, m7, m8⟩ := box9 HK.out.1
            have hbw : Below w.heap.size w V8 := by
              obtain ⟨_, k1, k2, k3, k4, k5⟩ := HK.out
              have hbw4 := HB.out.1.trans ((HY.out.2.2.2.2.2.2.2.2.trans (H4.out.1.mono HY.out.2.2.2.2.2.2.2.2.size)).mono HB.out.1.size)
              have hOBw : w.heap.size < OB := by have := HB.out.2.1; have := HY.out.2.2.2.2.2.2.2.2.size; have := H4.out.2.2.1; rw [H4.out.2.2.2]; omega
              exact ⟨k2.trans hbw4.os, k3.trans hbw4.tape, k4.trans hbw4.output, by rw [k5]; exact hbw4.size, fun x hx => (k1 x (by omega)).trans (hbw4.block x hx)⟩
            have hly : FoAt V8 (fun q => w.heap.size ≤ q ∧ q < V8.heap.size) y.kids va := by
              obtain ⟨_, k1, k2, k3, k4, k5⟩ := HK.out
              refine HY.out.2.2.2.2.2.1.kept fun x hx => ?_
              have h2 := HY.out.2.2.2.2.2.2.2.1
              have h3 := H4.out.2.2.1
              have h4 := H4.out.1.size
              have h5 := h2.size
              have hx2 := hx.2
              exact ⟨by have := hx.1; have := HB.out.2.1; rw [k5]; omega, (k1 x (by rw [H4.out.2.2.2]; omega)).trans ((H4.out.1.block x (by omega)).trans (h2.block x hx2))⟩
            have HF := Lib.hid (And.intro hbw hly)
            clear hbw hly
            go_wp2_with fail
            go_ret2
            refine PairC.one (s := ⟨op, id, par, at_, tx, y⟩) HV.out (HF.out.1.alloc HF.out.1.size _) HF.out.1.size (by simp only; rw [← HY.out.2.2.2.1]; exact heap_alloc_new _ _) ⟨by simp only; rw [← HY.out.2.2.2.1]; exact HY.out.2.2.2.2.1, HF.out.2.kept fun x hx => ⟨⟨hx.1, by have := hx.2; simp; omega⟩, Below.heap_alloc _ _ _ hx.2⟩⟩ ?_
            simp only
            rw [HY.out.2.2.1]; exact H0.out.2.2.1
        · have q1 : (op == op2) = false := by simpa using h1
          have q5 : (op == 1) = true := by simpa using h5
          have q6 : (op2 == 2) = false := by simpa using h6
          have q8 : (op2 == 4) = false := by simpa using h8
          have HV := Lib.hid (show pairK ⟨op, id, par, at_, tx, u⟩ ⟨op2, id2, par2, at2, tx2, v⟩ = ([], false) by unfold pairK; simp [h5, h6, h8, h1])
          clear h1 h5 h6 h8
          go_enter Try.func9, Try.ntmps9
          go_upto_region 1 with fail
          change Code.wp _ _ _ _ (allocs w [.cells #[.int .i8 op, .int .i64 id, .int .i64 par, .int .i64 at_, .string tx, .int .i64 u.id, .int .i64 u.kind, .string u.text, .slice aa n ac] 27, .cells #[.int .i8 op2, .int .i64 id2, .int .i64 par2, .int .i64 at2, .string tx2, .int .i64 v.id, .int .i64 v.kind, .string v.text, .slice ba m bc] 27])
          rw [← HBE.out]
          clear HBE
          go_wp2_with fail
          go_ret2
          exact PairC.none HV.out HB.out.1
    · have q1 : (op == op2) = false := by simpa using h1
      have q5 : (op == 1) = false := by simpa using h5
      have HV := Lib.hid (show pairK ⟨op, id, par, at_, tx, u⟩ ⟨op2, id2, par2, at2, tx2, v⟩ = ([], false) by unfold pairK; simp [h1, h5])
      clear h1 h5
      go_enter Try.func9, Try.ntmps9
      go_upto_region 1 with fail
      change Code.wp _ _ _ _ (allocs w [.cells #[.int .i8 op, .int .i64 id, .int .i64 par, .int .i64 at_, .string tx, .int .i64 u.id, .int .i64 u.kind, .string u.text, .slice aa n ac] 27, .cells #[.int .i8 op2, .int .i64 id2, .int .i64 par2, .int .i64 at2, .string tx2, .int .i64 v.id, .int .i64 v.kind, .string v.text, .slice ba m bc] 27])
      rw [← HBE.out]
      clear HBE
      go_wp2_with fail
      go_ret2
      exact PairC.none HV.out HB.out.1
theorem rpair_any {X0 X1 w : World} (s r : Sf) (aa ba : Option Addr) (n ac m bc : Nat) (h0 : LiesI X0 s.sub.kids aa ac) (h1 : LiesI X1 r.sub.kids ba bc) (b0 : Below X0.heap.size X0 w) (b1 : Below X1.heap.size X1 w) (hz : foSize s.sub.kids + 1 ≤ 100000) (hy : foSize r.sub.kids + 1 ≤ 100000) (hn : n = foLen s.sub.kids) (hm : m = foLen r.sub.kids) :
    Calls Try.prog 9 #[.agg #[.int .i8 s.op, .int .i64 s.id, .int .i64 s.par, .int .i64 s.at_, .string s.tx, .int .i64 s.sub.id, .int .i64 s.sub.kind, .string s.sub.text, .slice aa n ac], .agg #[.int .i8 r.op, .int .i64 r.id, .int .i64 r.par, .int .i64 r.at_, .string r.tx, .int .i64 r.sub.id, .int .i64 r.sub.kind, .string r.sub.text, .slice ba m bc]] w (PairC (pairK s r) w) :=
  rpair1 h0 h1 b0 b1 hz hy hn hm
end Go.Proofs.Ytpbjncljecfaeaa
