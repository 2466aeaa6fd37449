/-
  The law's own rows: all rows on the way are told, up to leave of them. No condition but that the row is not too great, and that ids are numbers of 64 bits.
-/
import Derived.Test.YtpbjncljecfaeaaNRangeSQf
import Derived.Test.YtpbjncljecfaeaaNStepsWQf
import Derived.Test.YtpbjncljecfaeaaNWfQf
namespace Go.Proofs.Ytpbjncljecfaeaa
open Go.RowKit Go.Shelf
attribute [local go_sem] Oper.semAt_some
set_option linter.unusedVariables false
set_option linter.unusedSimpArgs false

theorem seqK_shift (l : List Sf) : ∀ k, seqK (k + 1) l = seqK k (onceK l).1
  | 0 => rfl
  | k + 1 => by rw [seqK, seqK_shift l k]; rfl
theorem live_shift {l : List Sf} {k : Nat} (h : live (k + 1) l) : live k (onceK l).1 := fun j hj => by rw [← seqK_shift]; exact h (j + 1) (by omega)
theorem wayK_at : ∀ (n k : Nat) (l : List Sf), k ≤ n → live k l → (wayK n l)[k]? = some (seqK k l)
  | 0, 0, l, _, _ => rfl
  | n + 1, 0, l, _, _ => by rw [wayK]; split <;> rfl
  | n + 1, k + 1, l, hk, h => by
    rw [wayK, if_pos (show (onceK l).2 = true from h 0 (by omega)), List.getElem?_cons_succ, seqK_shift]
    exact wayK_at n k _ (by omega) (live_shift h)
  | 0, k + 1, l, hk, _ => by omega
theorem wayK_fin : ∀ (n k : Nat) (l : List Sf), k ≤ n → live k l → (onceK (seqK k l)).2 = false → (wayK n l).length = k + 1
  | 0, 0, l, _, _, _ => rfl
  | n + 1, 0, l, _, _, h => by rw [wayK, if_neg (by rw [show seqK 0 l = l from rfl] at h; rw [h]; decide)]; rfl
  | n + 1, k + 1, l, hk, hl, h => by
    rw [wayK, if_pos (show (onceK l).2 = true from hl 0 (by omega)), List.length_cons, wayK_fin n k _ (by omega) (live_shift hl) (by rw [← seqK_shift]; exact h)]
  | 0, k + 1, l, hk, _, _ => by omega
theorem seq_under : ∃ a b c, Try.prog.underlying 62 = some (.func a b c) := ⟨_, _, _, rfl⟩
theorem equalIn_func_nil (W : World) (d : Nat) (f : Fn) (a b : Array Value) : (Op.equalIn (d + 1) 62 (.func f a b) .nilFunc).run Try.prog W = .ok false W := by
  obtain ⟨_, _, _, h⟩ := seq_under
  simp [Op.equalIn, run_underlying h]
theorem run_eql_func_nilW (W : World) (f : Fn) (a b : Array Value) : (binOp .eql 62 (.func f a b) .nilFunc).run Try.prog W = .ok (.bool false) W := by
  simp only [binOp]
  simp [Op.equal, Op.maxDepth, equalIn_func_nil W 9999 f a b]
/-- What the law's loop holds: n, and what lay below. -/
def LwI (w' : World) (q0 k : Nat) (V : World) : Prop := V.heap[q0]? = some (.cells #[.int .i64 (k : Int)] 3 (0, 0)) ∧ V.os = w'.os ∧ V.tape = w'.tape ∧ V.output = w'.output ∧ ∀ q, q < w'.heap.size → q ≠ q0 → V.heap[q]? = w'.heap[q]?
theorem LwI.low {w' V V' : World} {q0 k : Nat} (h : LwI w' q0 k V) (hq : q0 < w'.heap.size) (hl : SameLow w'.heap.size V V') : LwI w' q0 k V' := ⟨(hl.block _ hq).trans h.1, hl.os.trans h.2.1, hl.tape.trans h.2.2.1, hl.output.trans h.2.2.2.1, fun q h1 h2 => (hl.block q h1).trans (h.2.2.2.2 q h1 h2)⟩
theorem results_cell1N {P : Program} {fn : Func} {p : Tmp} {tb : TypeId} (h : fn.results = #[.cell p tb]) (tmps : Array Value) (w : World) (g : Nat) (v : Value) (hp : tmps.getD p undef = .pointer (some ⟨g, 0, none⟩)) (hc : w.cell? ⟨g, 0, none⟩ = some v) (hb : ∀ w, (isAgg tb).run P w = .ok false w) :
    (results fn tmps).run P w = .ok v w := by
  have hp' : tmps[p]?.getD undef = .pointer (some ⟨g, 0, none⟩) := by simpa using hp
  have hl : (loadVar tb ⟨g, 0, none⟩).run P w = .ok v w := by simp [go_sem, hc, hb, Result.andThen]
  simp [results, h, hp', asAddr, hl]
theorem rows_last {V : World} {B g m gc : Nat} {lv j : Int} (g0 : V.heap[B]? = some (.cells #[.slice (some ⟨g, 0, none⟩) m gc] 37 (0, 0))) (g1 : V.heap[B + 1]? = some (.cells #[.int .i64 lv] 3 (0, 0))) (g2 : V.heap[B + 2]? = some (.cells #[.bool false] 4 (0, 0))) (g3 : V.heap[B + 3]? = some (.cells #[.int .i64 j] 3 (0, 0))) (hj : j = (m : Int) ∨ j = lv) :
    (V.cell? ⟨B, 0, none⟩ = some (.slice (some ⟨g, 0, none⟩) m gc) ∧ V.cell? ⟨B + 1, 0, none⟩ = some (.int .i64 lv) ∧ V.cell? ⟨B + 1 + 1, 0, none⟩ = some (.bool false) ∧ V.cell? ⟨B + 1 + 1 + 1, 0, none⟩ = some (.int .i64 j) ∧ V.frozen? ⟨B + 1 + 1, 0, none⟩ = false) ∧
    (V.setCell ⟨B + 1 + 1, 0, none⟩ (.bool true)).heap[B + 1 + 1]? = some (.cells #[.bool true] 4 (0, 0)) := by
  refine ⟨⟨?_, ?_, ?_, ?_, ?_⟩, ?_⟩
  · rw [cell_of_row _ _ _ _ _ _ g0]; rfl
  · rw [cell_of_row _ _ _ _ _ _ g1]; rfl
  · rw [cell_of_row _ _ _ _ _ _ g2]; rfl
  · rw [cell_of_row _ _ _ _ _ _ g3]; rfl
  · exact frozen_of_row _ _ _ _ _ g2
  · exact heap_setCell_same V (B + 1 + 1) 0 _ _ (.bool true) g2
theorem rows_left {w V : World} {B D : Nat} (hs : (V.setCell ⟨B + 1 + 1, 0, none⟩ (.bool true)).heap[B + 1 + 1]? = some (.cells #[.bool true] 4 (0, 0))) (hD : B + 4 ≤ D) (hV : B + 4 ≤ V.heap.size) (ho : V.os = w.os ∧ V.tape = w.tape ∧ V.output = w.output) (hk : ∀ q, q < w.heap.size → V.heap[q]? = w.heap[q]?) (hK : V.heap[D]? = some (.deferred (some []))) (hBw : B = w.heap.size := by rfl) :
    (V.setCell ⟨B + 1 + 1, 0, none⟩ (.bool true)).heap[D]? = some (.deferred (some [])) ∧ ((V.setCell ⟨B + 1 + 1, 0, none⟩ (.bool true)).putObj D (.deferred none)).cell? ⟨B + 1 + 1, 0, none⟩ = some (.bool true) ∧ Below w.heap.size w ((V.setCell ⟨B + 1 + 1, 0, none⟩ (.bool true)).putObj D (.deferred none)) := by
  refine ⟨(Below.heap_setCell _ _ _ _ (by show D ≠ B + 1 + 1; omega)).trans hK, ?_, ⟨ho.1, ho.2.1, ho.2.2, by simp [World.putObj, World.setCell]; omega, fun q hq => ?_⟩⟩
  · rw [World.cell?_of_block (a := ⟨B + 1 + 1, 0, none⟩) (World.putObj_heap_other (by show B + 1 + 1 ≠ D; omega)), cell_of_row _ _ _ _ _ _ hs]; rfl
  · rw [World.putObj_heap_other (by omega), Below.heap_setCell _ _ _ _ (by show q ≠ B + 1 + 1; omega)]
    exact hk q hq
set_option maxRecDepth 100000 in
set_option maxHeartbeats 8000000 in
theorem lrows_any (w : World) (la : Option Addr) (n c : Nat) (vs : List SV) (hr : RowS w la n c vs) (hs : SmallN vs) (hw : ∀ x ∈ vs, Wf64 x.s) (g m gc : Nat) (rs : List SR) (hg : ∀ k r, rs[k]? = some r → w.cell? ⟨g, k, none⟩ = some r.hdr ∧ RowS w r.a r.n r.c r.vs) (hgl : g < w.heap.size) (hm : m = rs.length) (hW : (rs.map fun r => steps r.vs) = wayK n (steps vs)) (lv : Int) :
    Calls Try.prog 15 #[.slice la n c, .slice (some ⟨g, 0, none⟩) m gc, .int .i64 lv] w (YesR w) := by
  have hn60 : n ≤ 60 := by rw [hr.len]; exact hs.1
  have hm61 : m ≤ 61 := by
    have h1 := congrArg List.length hW
    have h2 := wayK_len n (steps vs)
    rw [List.length_map] at h1; omega
  obtain ⟨W4, hW4⟩ : ∃ W4, W4 = (((w.alloc (.cells #[.slice (some ⟨g, 0, none⟩) m gc] 37)).alloc (.cells #[.int .i64 lv] 3)).alloc (.cells #[.bool false] 4)).alloc (.cells #[.int .i64 0] 3) := ⟨_, rfl⟩
  have hA : W4 = allocs w [.cells #[.slice (some ⟨g, 0, none⟩) m gc] 37, .cells #[.int .i64 lv] 3, .cells #[.bool false] 4, .cells #[.int .i64 0] 3] := hW4
  have hb : Below w.heap.size w W4 := by rw [hA]; exact allocs_below _ _
  have hsz : W4.heap.size = w.heap.size + 4 := by rw [hW4]; simp
  have e0 : W4.heap[w.heap.size]? = some (.cells #[.slice (some ⟨g, 0, none⟩) m gc] 37 (0, 0)) := by rw [hA]; exact allocs_at _ _ 0 _ rfl
  have e1 : W4.heap[w.heap.size + 1]? = some (.cells #[.int .i64 lv] 3 (0, 0)) := by rw [hA]; exact allocs_at _ _ 1 _ rfl
  have e2 : W4.heap[w.heap.size + 2]? = some (.cells #[.bool false] 4 (0, 0)) := by rw [hA]; exact allocs_at _ _ 2 _ rfl
  have e3 : W4.heap[w.heap.size + 3]? = some (.cells #[.int .i64 0] 3 (0, 0)) := by rw [hA]; exact allocs_at _ _ 3 _ rfl
  have HST := Lib.hid (stepsW_any W4 la n c vs (hr.on hb) (by omega) (fun x hx => by have := hs.2 x hx; omega) hw)
  have HA := Lib.hid hW4
  have HH := Lib.hid (And.intro hr (And.intro hs (And.intro hw (And.intro hg (And.intro hgl (And.intro hm (And.intro hW hn60)))))))
  have HB := Lib.hid (And.intro hb (And.intro hsz (And.intro e0 (And.intro e1 (And.intro e2 e3)))))
  clear hr hs hw hg hgl hm hW hn60 hb hsz e0 e1 e2 e3 hA hW4
  have hnf := run_eql_func_nilW
  refine (callsIn_wide (n := 12)).1 ?_
  refine callsIn_of_wp_marks Try.func15 rfl trivial ?_ rfl
  simp only [Try.ntmps15, List.size_toArray, List.length_cons, List.length_nil, Nat.reduceAdd, Nat.reduceSub, Array.replicate_succ, Array.replicate_zero, List.push_toArray, List.append_toArray, List.nil_append, List.cons_append]
  gi_wp2
  rw [← HA.out]
  clear HA
  refine ⟨trivial, ?_⟩
  refine (callsIn_wide.2 HST.out).mono ?_
  rintro e w2 ⟨NB, ja, jn, jc, js, rfl, hN, hrs, hjs, hb2⟩
  have HS := Lib.hid (And.intro hN (And.intro hrs (And.intro hjs hb2)))
  clear HST hN hrs hjs hb2
  gi_wp2
  have hw4 := HS.out.2.2.2.size
  have hsz := HB.out.2.1
  have hjn : jn = n := by rw [HS.out.2.1.len, HH.out.1.len, ← steps_len js, HS.out.2.2.1, steps_len]
  have hk4 : ∀ q, q < w.heap.size + 4 → w2.heap[q]? = W4.heap[q]? := fun q hq => HS.out.2.2.2.block q (by omega)
  have hkw : ∀ q, q < w.heap.size → w2.heap[q]? = w.heap[q]? := fun q hq => (hk4 q (by omega)).trans (HB.out.1.block q hq)
  have f0 := (hk4 _ (by omega)).trans HB.out.2.2.1
  have f1 := (hk4 _ (by omega)).trans HB.out.2.2.2.1
  have f2 := (hk4 _ (by omega)).trans HB.out.2.2.2.2.1
  have f3 := (hk4 _ (by omega)).trans HB.out.2.2.2.2.2
  have hmem : ∀ x ∈ js, ∃ y ∈ vs, y.s = x.s := fun x hx => by
    have h1 : x.s ∈ steps vs := by rw [← HS.out.2.2.1]; exact List.mem_map_of_mem hx
    exact List.mem_map.1 h1
  have hos : w2.os = w.os ∧ w2.tape = w.tape ∧ w2.output = w.output := ⟨HS.out.2.2.2.os.trans HB.out.1.os, HS.out.2.2.2.tape.trans HB.out.1.tape, HS.out.2.2.2.output.trans HB.out.1.output⟩
  have HF := Lib.hid (And.intro f0 (And.intro f1 (And.intro f2 (And.intro hkw (And.intro hos (show w.heap.size + 4 ≤ w2.heap.size by omega))))))
  have hI0 : LwI w2 (w.heap.size + 3) 0 w2 := ⟨f3, rfl, rfl, rfl, fun _ _ _ => rfl⟩
  have hend : ∀ (k : Nat) (V : World), LwI w2 (w.heap.size + 3) k V → V.heap[w.heap.size]? = some (.cells #[.slice (some ⟨g, 0, none⟩) m gc] 37 (0, 0)) ∧ V.heap[w.heap.size + 1]? = some (.cells #[.int .i64 lv] 3 (0, 0)) ∧ V.heap[w.heap.size + 2]? = some (.cells #[.bool false] 4 (0, 0)) ∧ (∀ q, q < w.heap.size → V.heap[q]? = w.heap[q]?) := fun k V h =>
    ⟨(h.2.2.2.2 _ (by omega) (by omega)).trans f0, (h.2.2.2.2 _ (by omega) (by omega)).trans f1, (h.2.2.2.2 _ (by omega) (by omega)).trans f2, fun q hq => (h.2.2.2.2 q (by omega) (by omega)).trans (hkw q hq)⟩
  have HEND := Lib.hid hend
  clear hk4 hkw f0 f1 f2 f3 hos hend
  refine range_steps (by omega) rfl ja jn jc js HS.out.1 HS.out.2.1 (by have := HH.out.2.2.2.2.2.2.2; omega) (fun x hx => by obtain ⟨y, hy, e⟩ := hmem x hx; rw [← e]; have := HH.out.2.1.2 y hy; omega) (fun x hx => by obtain ⟨y, hy, e⟩ := hmem x hx; rw [← e]; exact HH.out.2.2.1 y hy) rfl (LwI w2 (w.heap.size + 3)) (fun c V => c = .exit 0 ∧ ∃ k : Nat, (k : Int) = lv ∧ LwI w2 (w.heap.size + 3) k V) ?hI ?hIx hI0 ?rnd ?done ?stop
  case hI => exact fun {k V V'} h hl => h.low (by omega) hl
  case hIx =>
    rintro c V V' ⟨hc, k, h1, h2⟩ hl
    exact ⟨hc, k, h1, h2.low (by omega) hl⟩
  case done =>
    rintro D k V hD hlv hno hI hK
    obtain ⟨g0, g1, g2, g3⟩ := HEND.out _ _ hI
    have hmk : m = k + 1 := by
      rw [HH.out.2.2.2.2.2.1, ← List.length_map (f := fun r : SR => steps r.vs), HH.out.2.2.2.2.2.2.1]
      rw [HS.out.2.2.1] at hlv hno
      exact wayK_fin n k _ (by have := live_len k hlv; rw [steps_len, ← HH.out.1.len] at this; omega) hlv hno
    rw [← hmk] at hI
    have HE := Lib.hid (And.intro hK (And.intro hD (And.intro hI g3)))
    have HL := Lib.hid (rows_last (lv := lv) g0 g1 g2 hI.1 (Or.inl rfl))
    clear hK hD hI hlv hno
    obtain ⟨c0, c1, c2, c3, c2f⟩ := HL.out.1
    have HF2 := Lib.hid (rows_left (B := w.heap.size) (w := w) (D := D) HL.out.2 (by have := HE.out.2.1; have := HF.out.2.2.2.2.2; omega) (by have := HE.out.2.1; have := HF.out.2.2.2.2.2; have := lt_of_heap HE.out.1; omega) (show V.os = w.os ∧ V.tape = w.tape ∧ V.output = w.output from ⟨HE.out.2.2.1.2.1.trans HF.out.2.2.2.2.1.1, HE.out.2.2.1.2.2.1.trans HF.out.2.2.2.2.1.2.1, HE.out.2.2.1.2.2.2.1.trans HF.out.2.2.2.2.1.2.2⟩) HE.out.2.2.2 HE.out.1)
    gi_wp2
    refine ⟨by simp, .inl ⟨_, _, rfl, run_takeDeferred HF2.out.1, ?_⟩⟩
    exact ⟨_, results_cell1N rfl _ _ (w.heap.size + 1 + 1) _ rfl HF2.out.2.1 (fun _ => by kernel_rfl), rfl, HF2.out.2.2⟩
  case stop =>
    rintro D c V hD ⟨rfl, k, hkl, hI⟩ hK
    obtain ⟨g0, g1, g2, g3⟩ := HEND.out _ _ hI
    have hq := hI.1
    rw [hkl] at hq
    have HE := Lib.hid (And.intro hK (And.intro hD (And.intro hI g3)))
    have HL := Lib.hid (rows_last (lv := lv) g0 g1 g2 hq (Or.inr rfl))
    clear hK hD hI g3 hq
    obtain ⟨c0, c1, c2, c3, c2f⟩ := HL.out.1
    have HF2 := Lib.hid (rows_left (B := w.heap.size) (w := w) (D := D) HL.out.2 (by have := HE.out.2.1; have := HF.out.2.2.2.2.2; omega) (by have := HE.out.2.1; have := HF.out.2.2.2.2.2; have := lt_of_heap HE.out.1; omega) (show V.os = w.os ∧ V.tape = w.tape ∧ V.output = w.output from ⟨HE.out.2.2.1.2.1.trans HF.out.2.2.2.2.1.1, HE.out.2.2.1.2.2.1.trans HF.out.2.2.2.2.1.2.1, HE.out.2.2.1.2.2.2.1.trans HF.out.2.2.2.2.1.2.2⟩) HE.out.2.2.2 HE.out.1)
    clear g0 g1 g2
    by_cases hlm : lv = (m : Int)
    · have hlb : (lv == (m : Int)) = true := by rw [hlm]; exact beq_self_eq_true _
      gi_wp2
      refine ⟨by simp, .inl ⟨_, _, rfl, run_takeDeferred HF2.out.1, ?_⟩⟩
      exact ⟨_, results_cell1N rfl _ _ (w.heap.size + 1 + 1) _ rfl HF2.out.2.1 (fun _ => by kernel_rfl), rfl, HF2.out.2.2⟩
    · have hlb : (lv == (m : Int)) = false := by simpa using hlm
      gi_wp2
      refine ⟨by simp, .inl ⟨_, _, rfl, run_takeDeferred HF2.out.1, ?_⟩⟩
      exact ⟨_, results_cell1N rfl _ _ (w.heap.size + 1 + 1) _ rfl HF2.out.2.1 (fun _ => by kernel_rfl), rfl, HF2.out.2.2⟩
  case rnd =>
    rintro l hl k ra rn rc us V hV hlv hrs hus hI K hK
    have hK0 := fun a₁ => hK a₁ V (TouchS.refl _ _) rfl rfl
    have HK := Lib.hid (And.intro hK0 (And.intro hV (And.intro hlv (And.intro hrs (And.intro hus (And.intro hI hl))))))
    clear hK hK0 hV hlv hrs hus hI hl
    gi_wp2
    refine HK.out.1 _ fun V1 hV1 => ?_
    obtain ⟨hK0, hV, hlv, hrs, hus, hI, hl⟩ := HK.out
    obtain ⟨o', ev, o, ho, hoc⟩ := hV1
    rw [HS.out.2.2.1] at hlv hus
    have hkn := live_len k hlv
    rw [steps_len, ← HH.out.1.len] at hkn
    have hway := wayK_at n k (steps vs) (by omega) hlv
    rw [← HH.out.2.2.2.2.2.2.1, List.getElem?_map, Option.map_eq_some_iff] at hway
    obtain ⟨r, hr, hrk⟩ := hway
    have hkm : k < m := by rw [HH.out.2.2.2.2.2.1]; exact (List.getElem?_eq_some_iff.1 hr).1
    have hwW := HF.out.2.2.2.2.2
    have hl1 : SameLow w2.heap.size V V1 := by rw [ev]; exact SameLow.put (by omega)
    have hI1 := hI.low (by omega) hl1
    obtain ⟨g0, g1, g2, g3⟩ := HEND.out _ _ hI1
    have hbw : Below w.heap.size w V1 := ⟨hI1.2.1.trans HF.out.2.2.2.2.1.1, hI1.2.2.1.trans HF.out.2.2.2.2.1.2.1, hI1.2.2.2.1.trans HF.out.2.2.2.2.1.2.2, by rw [ev]; simp [World.putObj]; omega, g3⟩
    obtain ⟨hr1, hr2⟩ := HH.out.2.2.2.1 k r hr
    have hu1 : RowS V1 ra rn rc us := by rw [ev]; exact rowS_putD hrs ho hoc
    have hEQ := eqr_any V1 ra r.a rn r.n rc r.c us r.vs hu1.len hr2.len hu1.row (hr2.on hbw).row
    have hyes : eqR (steps us) (steps r.vs) = true := by rw [hus, hrk]; exact eqR_refl _
    have ck : V1.cell? ⟨g, k, none⟩ = some (.slice r.a r.n r.c) := (World.cell?_of_block (g3 g HH.out.2.2.2.2.1)).trans hr1
    have c0 : V1.cell? ⟨w.heap.size, 0, none⟩ = some (.slice (some ⟨g, 0, none⟩) m gc) := by rw [cell_of_row _ _ _ _ _ _ g0]; rfl
    have c3 : V1.cell? ⟨w.heap.size + 1 + 1 + 1, 0, none⟩ = some (.int .i64 (k : Int)) := by
      show V1.cell? ⟨w.heap.size + 3, 0, none⟩ = _
      rw [cell_of_row _ _ _ _ _ _ hI1.1]; rfl
    have hki : ¬ ((m : Int) ≤ (k : Int)) := by omega
    have hkm' : (k : Int) < (m : Int) := by omega
    have hs1 : V1.heap.size = V.heap.size := by rw [ev]; simp [World.putObj]
    have HQ := Lib.hid (And.intro hEQ (And.intro hyes (And.intro hI1 (And.intro g1 (And.intro hV hs1)))))
    clear hK0 hV hlv hrs hus hI hl ev ho hoc hr hrk hl1 hI1 g0 g1 g2 g3 hbw hr1 hr2 hu1 hEQ hyes hs1 hwW
    gi_wp2
    refine ⟨trivial, (CallsIn.inRound _ (callsIn_wide.2 HQ.out.1)).mono ?_⟩
    rintro e V2 ⟨rfl, hb2⟩
    rw [HQ.out.2.1]
    obtain ⟨_, _, hI1, g1, hV, hs1⟩ := HQ.out
    have hwW := HF.out.2.2.2.2.2
    have hI2 : LwI w2 (w.heap.size + 3) k V2 := hI1.low (by omega) ⟨hb2.os, hb2.tape, hb2.output, fun q hq => hb2.block q (by omega)⟩
    have g1' := (hb2.block _ (by omega)).trans g1
    have d1 : V2.cell? ⟨w.heap.size + 1, 0, none⟩ = some (.int .i64 lv) := by rw [cell_of_row _ _ _ _ _ _ g1']; rfl
    have d3 : V2.cell? ⟨w.heap.size + 1 + 1 + 1, 0, none⟩ = some (.int .i64 (k : Int)) := by
      show V2.cell? ⟨w.heap.size + 3, 0, none⟩ = _
      rw [cell_of_row _ _ _ _ _ _ hI2.1]; rfl
    have d3f : V2.frozen? ⟨w.heap.size + 1 + 1 + 1, 0, none⟩ = false := frozen_of_row _ _ _ _ _ hI2.1
    have hkw : IntKind.i64.wrap ((k : Int) + 1) = (k : Int) + 1 := IntWalk.i64_in _ (by omega)
    have hne : ∀ q, q ≠ w.heap.size + 3 → (V2.setCell ⟨w.heap.size + 1 + 1 + 1, 0, none⟩ (.int .i64 ((k : Int) + 1))).heap[q]? = V2.heap[q]? := fun q hq => Below.heap_setCell _ _ _ _ hq
    have hset : (V2.setCell ⟨w.heap.size + 1 + 1 + 1, 0, none⟩ (.int .i64 ((k : Int) + 1))).heap[w.heap.size + 3]? = some (.cells #[.int .i64 ((k + 1 : Nat) : Int)] 3 (0, 0)) := heap_setCell_same V2 (w.heap.size + 3) 0 _ _ (.int .i64 ((k : Int) + 1)) hI2.1
    have hI3 : LwI w2 (w.heap.size + 3) (k + 1) (V2.setCell ⟨w.heap.size + 1 + 1 + 1, 0, none⟩ (.int .i64 ((k : Int) + 1))) := ⟨hset, hI2.2.1, hI2.2.2.1, hI2.2.2.2.1, fun q h1 h2 => (hne q h2).trans (hI2.2.2.2.2 q h1 h2)⟩
    have hk1 : ∀ q, q < V1.heap.size → q ≠ w.heap.size + 3 → (V2.setCell ⟨w.heap.size + 1 + 1 + 1, 0, none⟩ (.int .i64 ((k : Int) + 1))).heap[q]? = V1.heap[q]? := fun q h1 h2 => (hne q h2).trans (hb2.block q h1)
    have ht3 : TouchS (w2.heap.size + 2) V1 (V2.setCell ⟨w.heap.size + 1 + 1 + 1, 0, none⟩ (.int .i64 ((k : Int) + 1))) := ⟨hb2.os, hb2.tape, hb2.output, by simp [World.setCell]; exact hb2.size, fun q hq => by
      by_cases e : q = w.heap.size + 3
      · refine Or.inr ⟨by omega, fun cs T fr hc => ?_⟩
        rw [e, hI1.1] at hc
        cases hc
        simp
      · exact Or.inl (hk1 q hq e)⟩
    have HE := Lib.hid (And.intro ht3 (And.intro (hk1 w2.heap.size (by omega) (by omega)) (And.intro (hk1 (w2.heap.size + 1) (by omega) (by omega)) hI3)))
    clear hI1 g1 hV hs1 hwW hI2 g1' hne hset hI3 hk1 ht3 hb2 c0 c3 ck hki hkm' HQ HK
    by_cases hlv2 : (k : Int) + 1 = lv
    · have hlb : ((k : Int) + 1 == lv) = true := by rw [hlv2]; exact beq_self_eq_true _
      gi_wp2
      have HE2 := HE.out
      rw [hlv2] at HE2
      exact ⟨HE2.1, HE2.2.1, HE2.2.2.1, .inr (.inr ⟨_, rfl, rfl, k + 1, hlv2, HE2.2.2.2⟩)⟩
    · have hlb : ((k : Int) + 1 == lv) = false := by simpa using hlv2
      gi_wp2
      exact ⟨HE.out.1, HE.out.2.1, HE.out.2.2.1, .inl ⟨rfl, HE.out.2.2.2⟩⟩
end Go.Proofs.Ytpbjncljecfaeaa
