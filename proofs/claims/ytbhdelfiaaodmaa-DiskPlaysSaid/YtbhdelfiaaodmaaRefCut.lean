/-
  What the document's own Cut does. No condition but that its disk lies where it is said to lie.
-/
import Derived.Test.YtbhdelfiaaodmaaRefRead
namespace Go.Proofs.Ytbhdelfiaaodmaa
open Go.RowKit
open Extern.Stop (cell)

theorem step_append_run {P : Program} {w : World} {ops : Array Oper} {o : Oper} {a : Go.Act} {K : Go.Act → World → Prop} {Q : Exit → Go.Act → World → Prop} {E : Prop} (hgd : o.guard = none) (m x : Operand) (t : TypeId)
    (hop : o.op = Op.call { callee := Callee.builtin Builtin.append, args := #[m, x], argTypes := #[t, t] }) (mv key : Value) (hm : a.eval m = mv) (hx : a.eval x = key) (v : Value) (w' : World)
    (hr : (Builtin.append_ #[t, t] o.type #[mv, key]).run P w = .ok v w') (hK : K (a.put o.dst v) w') :
    if Region.wanted o (yielded ops a.tmps) = true then Oper.wp P o a w K Q else E := by
  have hw : Region.wanted o (yielded ops a.tmps) = true := by simp [Region.wanted, hgd]
  rw [if_pos hw]
  unfold Oper.wp
  simp [execOp, hop, resolve, invoke, builtin, hm, hx, hr, Result.andThen]
  exact hK

theorem append_nothing {P : Program} (w : World) (t ty e : TypeId) (i : TypeInfo) (ht : P.underlying t = some (.slice e)) (hi : P.info? e = some i) (a : Option Addr) (c : Nat) :
    (Builtin.append_ #[t, t] ty #[.slice none 0 0, .slice a 0 c]).run P w = .ok (.slice none 0 0) w := by
  cases a <;> simp [Builtin.append_, run_underlying ht, sizeOf, typeInfo, hi, Builtin.lenOf, Builtin.firstCells, loadCells, loadCellsFrom]

theorem owns_cap {w : World} {B size n cap : Nat} {e : TypeId} {a : Option Addr} {xs : List Value} (ho : w.ownsRow B e size (.slice a n cap) n xs) : n ≤ cap := by
  rcases ho.2 with ⟨hv, h0⟩ | ⟨g, cap', cur, hv, _, _, hc, _⟩
  · omega
  · cases hv; exact hc
theorem refRow_take : ∀ (ps : List (Wr × Nat)) (k : Nat), (refRow ps).take (k * 2) = refRow (ps.take k)
  | [], k => by simp [refRow]
  | p :: ps, 0 => by simp [refRow]
  | p :: ps, k + 1 => by
    have ih := refRow_take ps k
    have e1 : refRow (p :: ps) = putCells p ++ refRow ps := by simp [refRow]
    have e2 : refRow ((p :: ps).take (k + 1)) = putCells p ++ refRow (ps.take k) := by simp [refRow]
    rw [e1, e2, List.take_append, List.take_of_length_le (by simp [putCells]; omega)]
    congr 1
    rw [← ih]
    congr 1
    simp [putCells]; omega
theorem refRow_length (ps : List (Wr × Nat)) : (refRow ps).length = ps.length * 2 := by
  induction ps with
  | nil => rfl
  | cons p ps ih =>
    have e1 : refRow (p :: ps) = putCells p ++ refRow ps := by simp [refRow]
    rw [e1, List.length_append, ih]; simp [putCells]; omega
theorem refRow_one (ps : List (Wr × Nat)) : ∀ u ∈ refRow ps, u.oneCell' = true := by
  intro u hu
  simp only [refRow, List.mem_flatMap, putCells] at hu
  obtain ⟨p, _, hu⟩ := hu
  simp at hu
  rcases hu with rfl | rfl <;> rfl

def RefCutEnd (w : World) (l : List Wr) (e : Ending) (w' : World) : Prop := ∃ rb', e = .returned (.pointer (some ⟨rb', 0, none⟩)) ∧ RefAt w' w.heap.size rb' ⟨l, false, 0, false⟩ ∧ Below w.heap.size w w'

theorem refcut_end {w w1 : World} {l : List Wr} {ps : List (Wr × Nat)} {v : Value} (hps : ps.map (·.1) = l) (hg : ∀ p ∈ ps, p.1.good ∧ w.heap[p.2]? = some (.cells (p.1.d.map cell).toArray 5 (0, 0)))
    (hgrow : (w.alloc (.cells #[.slice none 0 0, .bool false, .bool false, .int .i64 0] 30)).grownBy w1 none) (hown : w1.ownsRow w.heap.size 57 2 v l.length (refRow ps)) :
    RefCutEnd w l (.returned (.pointer (some ⟨w.heap.size, 0, none⟩))) (w1.setCell ⟨w.heap.size, 0, none⟩ v) := by
  have hq : w1.heap[w.heap.size]? = some (.cells #[.slice none 0 0, .bool false, .bool false, .int .i64 0] 30 (0, 0)) := by
    rw [hgrow.block _ (by simp) (by simp)]; exact heap_alloc_new w _
  have hb1 : Below w.heap.size w w1 := ((Below.refl _ _).alloc (Nat.le_refl _) _).grown hgrow (by simp) (fun k e => by cases e)
  refine ⟨w.heap.size, rfl, ⟨Nat.le_refl _, v, ps, ?_, hps, ?_, fun p hp => ⟨(hg p hp).1, ?_⟩⟩, hb1.setCell (Nat.le_refl _) _⟩
  · rw [heap_setCell_same w1 _ 0 _ _ _ hq]; rfl
  · exact owns_kept hown (fun g cur hc _ => Below.heap_setCell _ _ _ _ (fun e => by rw [e, hq] at hc; simp at hc))
  · have := lt_of_heap (hg p hp).2
    rw [Below.heap_setCell _ _ _ _ (show p.2 ≠ w.heap.size by omega), hb1.block _ this]
    exact (hg p hp).2

set_option maxRecDepth 100000 in
set_option maxHeartbeats 8000000 in
theorem ref_cut (w : World) (B rb : Nat) (s : St) (n : Int) (h : RefAt w B rb s) (hm : s.l.length ≤ 100000) : Calls Try.prog 15 #[.pointer (some ⟨rb, 0, none⟩), .int .i64 n] w (RefCutEnd w (s.l.take (brought n s.l.length))) := by
  obtain ⟨v, ps, hps, ho, hgs, hb, c0, c1, c2, c3, hf⟩ := h.cells
  have lrb := h.lt
  obtain ⟨a, cap, rfl⟩ := slice_of_owns ho
  have hcap : s.l.length ≤ cap := owns_cap ho
  obtain ⟨len, hlen⟩ : ∃ len, len = s.l.length := ⟨_, rfl⟩
  have hk := brought_le n s.l.length
  obtain ⟨M, hM⟩ : ∃ M : Int, M = if n < 0 then 0 else n := ⟨_, rfl⟩
  have hMk : (if (len : Int) < M then (len : Int) else M) = (brought n s.l.length : Nat) := by
    rw [hM, hlen]; unfold brought
    split <;> split <;> omega
  have hM' : (if n < 0 then 0 else n) = M := hM.symm
  obtain ⟨k, hkk⟩ : ∃ k, k = brought n s.l.length := ⟨_, rfl⟩
  rw [← hkk] at hk hMk
  rw [← hkk]
  obtain ⟨i0, z0, hi0, hz0, hz1, hz2, hz3⟩ := info_wide Try.infoP
  have hps' : (ps.take k).map (·.1) = s.l.take k := by rw [← hps, List.map_take]
  have hgs' : ∀ p ∈ ps.take k, p.1.good ∧ w.heap[p.2]? = some (.cells (p.1.d.map cell).toArray 5 (0, 0)) := fun p hp => hgs p (List.mem_of_mem_take hp)
  have hlk : (s.l.take k).length = k := by rw [List.length_take]; omega
  have hpl : (ps.take k).length = k := by rw [← hlk, ← hps']; simp
  have HE := Lib.hid (fun w1 v hgrow hown => refcut_end (w1 := w1) (v := v) hps' hgs' hgrow hown)
  rw [hlk] at HE
  have htk : (refRow ps).take (k * 2) = refRow (ps.take k) := refRow_take ps k
  have hnl : (refRow (ps.take k)).length = k * 2 := by rw [refRow_length, hpl]
  have hn0 : (0 : Int) ≤ (k : Int) := by omega
  have hnl2 : (k : Int) ≤ (len : Int) := by omega
  have hnc : (k : Int) ≤ (cap : Int) := by omega
  rw [← hlen] at c0 hm ho hk
  have hkm : k ≤ 100000 := by omega
  rcases Nat.eq_zero_or_pos k with hz | hpos
  · subst hz
    have happ := append_nothing (P := Try.prog) (w.alloc (.cells #[.slice none 0 0, .bool false, .bool false, .int .i64 0] 30)).drew 28 28 57 i0 Try.underlying28 hi0 a cap
    have HAPP := Lib.hid happ
    have hown0 : (w.alloc (.cells #[.slice none 0 0, .bool false, .bool false, .int .i64 0] 30)).drew.ownsRow w.heap.size 57 2 (.slice none 0 0) 0 (refRow (ps.take 0)) := World.ownsRow_nil _ _ _ _
    have hend := HE.out (w.alloc (.cells #[.slice none 0 0, .bool false, .bool false, .int .i64 0] 30)).drew (.slice none 0 0) ⟨rfl, rfl, rfl, Nat.le_refl _, fun _ _ _ => rfl⟩ hown0
    have hset : (w.alloc (.cells #[.slice none 0 0, .bool false, .bool false, .int .i64 0] 30)).drew.setCell ⟨w.heap.size, 0, none⟩ (.slice none 0 0) = (w.alloc (.cells #[.slice none 0 0, .bool false, .bool false, .int .i64 0] 30)).drew := by
      rw [World.setCell_drew, World.setCell_alloc_at _ _ _ _ _ rfl]; rfl
    rw [hset] at hend
    have HEND := Lib.hid hend
    clear hM hkk hps' hgs' hlk hpl htk hnl hps ho hgs hb c1 c2 c3 hf h hk happ hown0 hcap hlen hkm hend hset
    go_enter Try.func15, Try.ntmps15
    go_wp2_with fail
    go_region_law ((refine step_append_run (by rfl) _ _ _ (by rfl) (.slice none 0 0) (.slice a 0 cap) (by rfl) (by rfl) (.slice none 0 0) _ HAPP.out ?_))
    all_goals go_wp2
    all_goals go_ret
    all_goals exact HEND.out
  · obtain ⟨g0, hg0⟩ : ∃ g, a = some ⟨g, 0, none⟩ := by
      rcases ho.2 with ⟨hv, h0⟩ | ⟨g, cap', cur, hv, _⟩
      · omega
      · cases hv; exact ⟨g, rfl⟩
    subst hg0
    have hnews : ∀ (j : Nat) (u : Value), (refRow (ps.take k))[j]? = some u → (w.alloc (.cells #[.slice none 0 0, .bool false, .bool false, .int .i64 0] 30)).drew.cell? ((⟨g0, 0, none⟩ : Addr).add j) = some u := fun j u hj => by
      rw [← htk, List.getElem?_take] at hj
      split at hj
      · have := ho.cells (g := g0) rfl j u hj
        rw [← this]
        exact World.cell?_of_block (w := w) (by rw [add_block]; have := cell_lt this; rw [add_block] at this; exact Below.heap_alloc w _ _ this)
      · cases hj
    have hone := refRow_one (ps.take k)
    have HN := Lib.hid (And.intro hnews (And.intro hone hnl))
    have hq := heap_alloc_new w (.cells #[.slice none 0 0, .bool false, .bool false, .int .i64 0] 30)
    have cqa : (w.alloc (.cells #[.slice none 0 0, .bool false, .bool false, .int .i64 0] 30)).drew.cell? ⟨w.heap.size, 0, none⟩ = some (.slice none 0 0) := by
      show (w.alloc _).cell? _ = _
      rw [cell_of_row _ _ 0 _ _ _ hq]; rfl
    have fqa : (w.alloc (.cells #[.slice none 0 0, .bool false, .bool false, .int .i64 0] 30)).drew.frozen? ⟨w.heap.size, 0, none⟩ = false := frozen_of_row _ _ 0 _ _ hq
    have hql : (⟨w.heap.size, 0, none⟩ : Addr).block < (w.alloc (.cells #[.slice none 0 0, .bool false, .bool false, .int .i64 0] 30)).drew.heap.size := by simp
    have HQ := Lib.hid (And.intro cqa (And.intro fqa hql))
    obtain ⟨news, hnw⟩ : ∃ l, l = refRow (ps.take k) := ⟨_, rfl⟩
    rw [← hnw] at HN HE
    have hsplit : ((len : Int) < n ∧ k = len) ∨ (¬ (len : Int) < n ∧ n = (k : Int)) := by
      rw [hM] at hMk
      by_cases hn : n < 0
      · rw [if_pos hn, if_neg (by omega)] at hMk; omega
      · rw [if_neg hn] at hMk
        by_cases hc : (len : Int) < n
        · rw [if_pos hc] at hMk; left; omega
        · rw [if_neg hc] at hMk; right; omega
    clear hM hkk hps' hgs' hlk hpl htk hnl hps ho hgs hb c1 c2 c3 hf h hk hnews hone hnw hcap hlen hq cqa fqa hql hM' hMk hn0 hnl2
    rcases hsplit with ⟨hc, rfl⟩ | ⟨hc, rfl⟩
    · have hnn : ¬ n < 0 := by omega
      go_enter Try.func15, Try.ntmps15
      go_wp2_with fail
      go_region_law ((refine step_append_lies _ (by rfl) _ _ _ (by rfl) w.heap.size 57 i0 z0 2 32 Try.underlying28 hi0 hz0 hz1 hz2 hz3 (by omega) (.slice none 0 0) 0 [] (by rfl) (World.ownsRow_nil _ _ _ _) ⟨g0, 0, none⟩ k cap news (by rfl) HN.out.2.2 HN.out.1 HN.out.2.1 hpos (by unfold maxLen; omega) (by omega) (by simp) (w.heap.size + 1) (by simp) ?_; intro gg cap' w1 hown1 hgrow hat hlt; have cq := (hgrow.cell_far _ HQ.out.2.2 (fun e => by cases e)).trans HQ.out.1; have fq := (hgrow.frozen_far _ HQ.out.2.2 (fun e => by cases e)).trans HQ.out.2.1))
      all_goals go_wp2
      all_goals go_ret
      all_goals exact HE.out _ _ ⟨hgrow.os, hgrow.tape, hgrow.output, hgrow.size, hgrow.block⟩ (by simpa using hown1)
    · have hkl : k ≤ len := by omega
      go_enter Try.func15, Try.ntmps15
      go_wp2_with fail
      go_region_law ((refine step_append_lies _ (by rfl) _ _ _ (by rfl) w.heap.size 57 i0 z0 2 32 Try.underlying28 hi0 hz0 hz1 hz2 hz3 (by omega) (.slice none 0 0) 0 [] (by rfl) (World.ownsRow_nil _ _ _ _) ⟨g0, 0, none⟩ k cap news (by rfl) HN.out.2.2 HN.out.1 HN.out.2.1 hpos (by unfold maxLen; omega) (by omega) (by simp) (w.heap.size + 1) (by simp) ?_; intro gg cap' w1 hown1 hgrow hat hlt; have cq := (hgrow.cell_far _ HQ.out.2.2 (fun e => by cases e)).trans HQ.out.1; have fq := (hgrow.frozen_far _ HQ.out.2.2 (fun e => by cases e)).trans HQ.out.2.1))
      all_goals go_wp2
      all_goals go_ret
      all_goals exact HE.out _ _ ⟨hgrow.os, hgrow.tape, hgrow.output, hgrow.size, hgrow.block⟩ (by simpa using hown1)

end Go.Proofs.Ytbhdelfiaaodmaa
