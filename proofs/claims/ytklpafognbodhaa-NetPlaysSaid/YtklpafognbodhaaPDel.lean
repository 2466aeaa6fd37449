/-
  slices.Delete over the program's row of messages. No condition but that the row lies where it is said to lie.
-/
import Derived.Test.YtklpafognbodhaaPMark
namespace Go.Proofs.Ytklpafognbodhaa
open Go.RowKit

theorem setCells_mid {b : Nat} {t : TypeId} : ∀ (vs pre mid post : List Value) (w : World), w.heap[b]? = some (.cells (pre ++ (mid ++ post)).toArray t (0, 0)) → mid.length = vs.length →
    (w.setCells b pre.length vs).heap[b]? = some (.cells (pre ++ (vs ++ post)).toArray t (0, 0))
  | [], pre, mid, post, w, h, hl => by
    have : mid = [] := List.eq_nil_of_length_eq_zero (by simpa using hl)
    subst this
    exact h
  | v :: r, pre, [], post, w, h, hl => by simp at hl
  | v :: r, pre, p :: ps, post, w, h, hl => by
    have h1 := heap_setCell_same w b pre.length _ _ v h
    have e : ((pre ++ (p :: ps ++ post)).toArray.setIfInBounds pre.length v) = ((pre ++ [v]) ++ (ps ++ post)).toArray := by simp
    rw [e] at h1
    have := setCells_mid r (pre ++ [v]) ps post (w.setCell ⟨b, pre.length, none⟩ v) h1 (by simpa using hl)
    rw [List.length_append, List.append_assoc] at this
    exact this

theorem run_clear_wide {P : Program} (w : World) (t e ty : TypeId) (z : Value) (ht : P.underlying t = some (.slice e)) (hv : ∀ w, (zeroValue e).run P w = .ok z w) (b o n c : Nat) (hn : 0 < n) (vs : List Value) (hvs : (Builtin.zeroCells z.cells n).toList = vs) (h1 : ∀ v ∈ vs, v.oneCell' = true)
    (hth : w.there b o vs.length) : (Builtin.clear_ #[t] ty #[.slice (some ⟨b, o, none⟩) n c]).run P w = .ok (.tuple #[]) (w.setCells b o vs) := by
  have hst := run_storeCells_cells (P := P) b o vs 0 w (fun j hj => (hth j hj).1) (fun j hj => (hth j hj).2) h1
  simp only [Nat.add_zero] at hst
  obtain ⟨m, rfl⟩ : ∃ m, n = m + 1 := ⟨n - 1, by omega⟩
  simp [Builtin.clear_, run_underlying ht, hv, hvs, hst]

theorem zeroCells_length (z : Array Value) (n : Nat) : (Builtin.zeroCells z n).toList.length = n * z.size := by simp [Builtin.zeroCells]
theorem zeroCells_one (z : Array Value) (n : Nat) (h : ∀ v ∈ z, v.oneCell' = true) : ∀ v ∈ (Builtin.zeroCells z n).toList, v.oneCell' = true := fun v hv => by
  simp only [Builtin.zeroCells, Array.toList_map, List.mem_map] at hv
  obtain ⟨i, hi, rfl⟩ := hv
  have hi' : i < n * z.size := by simpa using hi
  have hz : 0 < z.size := by
    rcases Nat.eq_zero_or_pos z.size with h0 | h0
    · rw [h0] at hi'; simp at hi'
    · exact h0
  have hlt : i % z.size < z.size := Nat.mod_lt _ hz
  rw [getElem!_pos z (i % z.size) hlt]
  exact h _ (Array.getElem_mem hlt)

theorem zero_run {P : Program} {t : TypeId} {i : TypeInfo} {z : Value} (hi : P.info? t = some i) (hz : i.zero = some z) : ∀ w, (zeroValue t).run P w = .ok z w := fun w => by simp [zeroValue, typeInfo, hi, hz]
theorem Try.zeroOne : (Try.prog.info? 85).map (fun i => i.zero.map (fun z => z.cells.all (·.oneCell'))) = some (some true) := by kernel_rfl

/-- The row behind a write in its midst. -/
theorem owns_split {w : World} {g n cap : Nat} {xs : List Value} (h : w.ownsRow 0 85 17 (.slice (some ⟨g, 0, none⟩) n cap) n xs) :
    ∃ sp, w.heap[g]? = some (.cells (xs ++ sp).toArray 85 (0, 0)) ∧ n ≤ cap ∧ cap ≤ maxLen ∧ (xs ++ sp).length = cap * 17 := by
  rcases h.2 with ⟨h', _⟩ | ⟨g', cap', cur, h', hb, hg, hnc, hcm, hcs, htake⟩
  · simp at h'
  · simp only [Value.slice.injEq, Option.some.injEq, Addr.mk.injEq, and_true, true_and] at h'
    obtain ⟨rfl, rfl⟩ := h'
    have e : xs ++ cur.toList.drop (n * 17) = cur.toList := by rw [← htake, List.take_append_drop]
    refine ⟨cur.toList.drop (n * 17), ?_, hnc, hcm, ?_⟩
    · rw [e]; simpa using hg
    · rw [e]; simpa using hcs
theorem owns_of {w : World} {g n cap : Nat} {xs sp : List Value} (hx : xs.length = n * 17) (hg : w.heap[g]? = some (.cells (xs ++ sp).toArray 85 (0, 0))) (hn : n ≤ cap) (hm : cap ≤ maxLen) (hs : (xs ++ sp).length = cap * 17) :
    w.ownsRow 0 85 17 (.slice (some ⟨g, 0, none⟩) n cap) n xs :=
  ⟨hx, .inr ⟨g, cap, _, rfl, Nat.zero_le _, hg, hn, hm, by simpa using hs, by rw [← hx]; simp⟩⟩
theorem there_of {w : World} {g : Nat} {cs : List Value} {t : TypeId} (hg : w.heap[g]? = some (.cells cs.toArray t (0, 0))) {o n : Nat} (h : o + n ≤ cs.length) : w.there g o n := fun j hj => ⟨by
  rw [cell_of_row w _ _ _ _ _ hg, List.getElem?_toArray, List.getElem?_eq_getElem (by omega)]; rfl, frozen_of_row w _ _ _ _ hg⟩

def DelC (w : World) (g n cap : Nat) (xs : List Value) (e : Ending) (w' : World) : Prop :=
  e = .returned (.slice (some ⟨g, 0, none⟩) n cap) ∧ w'.ownsRow 0 85 17 (.slice (some ⟨g, 0, none⟩) n cap) n xs ∧ w'.heap.size = w.heap.size ∧ Touched w w' (fun x => x = g)

set_option maxRecDepth 100000 in
set_option maxHeartbeats 4000000 in
theorem pdel_any (w : World) (a r : List PI) (x : PI) (g cap n k j : Nat) (hg : Good (a ++ x :: r)) (hn : n = a.length + 1 + r.length) (hk : k = a.length) (hj : j = k + 1) (hlen : n ≤ 1000000)
    (h : w.ownsRow 0 85 17 (.slice (some ⟨g, 0, none⟩) n cap) n (pcells (a ++ x :: r))) :
    Calls Try.prog 53 #[.slice (some ⟨g, 0, none⟩) n cap, .int .i64 k, .int .i64 j] w (DelC w g (n - 1) cap (pcells (a ++ r))) := by
  obtain ⟨sp, s1, s2, s3, s4⟩ := owns_split h
  have hga : Good a := hg.sub (by simp +contextual)
  have hgr : Good r := hg.sub (by simp +contextual)
  have hgx : x.cells.length = 17 := by simp [PI.cells, (hg x (by simp)).1]
  have la := pcells_length hga
  have lr := pcells_length hgr
  have e0 : pcells (a ++ x :: r) = pcells a ++ (x.cells ++ pcells r) := by simp [pcells]
  rw [e0] at s1 s4
  obtain ⟨news, hnews⟩ : ∃ news, news = pcells r := ⟨_, rfl⟩
  obtain ⟨i0, z0, hi0, hz0, hz1, hz2, hz3⟩ := info_wide Try.infoK
  have hkj : k < j := by omega
  have hjn : j ≤ n := by omega
  have hic : k ≤ cap := by omega
  have hjc : j ≤ cap := by omega
  have hcm : cap ≤ 9223372036854775807 := by have := s3; unfold maxLen at this; omega
  have hnl : news.length = (n - j) * 17 := by rw [hnews, lr]; congr 1; omega
  have hlc : (x.cells ++ pcells r ++ sp).length = (cap - k) * 17 := by simp only [List.length_append] at s4 ⊢; omega
  have s1' : w.heap[g]? = some (.cells (pcells a ++ (x.cells ++ pcells r ++ sp)).toArray 85 (0, 0)) := by rw [← List.append_assoc]; exact s1
  obtain ⟨A, hA, hsrc⟩ : ∃ A : Addr, (if cap = j then some (⟨g, 0, none⟩ : Addr) else some ⟨g, j * 17, none⟩) = some A ∧ Hid (∀ t u, news[t]? = some u → w.drew.cell? (A.add t) = some u) := by
    by_cases h : cap = j
    · refine ⟨⟨g, 0, none⟩, by simp [h], Lib.hid fun t u hu => ?_⟩
      have h0 : news.length = 0 := by rw [hnl]; omega
      rw [List.length_eq_zero_iff.1 h0] at hu
      simp at hu
    · refine ⟨⟨g, j * 17, none⟩, by simp [h], Lib.hid fun t u hu => ?_⟩
      rw [Addr.add_mid]
      show w.cell? _ = _
      rw [cell_of_row w _ _ _ _ _ s1', List.getElem?_toArray, List.getElem?_append_right (by omega), List.append_assoc, List.getElem?_append_right (by omega), hgx, la, ← hnews, List.getElem?_append_left (by have := (List.getElem?_eq_some_iff.1 hu).1; omega), show j * 17 + t - a.length * 17 - 17 = t by omega]
      exact hu
  have q1 : Hid (news.length = (n - j) * 17) := Lib.hid hnl
  have q2 : Hid (∀ u ∈ news, u.oneCell' = true) := Lib.hid (by rw [hnews]; exact pcells_one hgr)
  have q3 : Hid (∀ t, t < news.length → (w.drew.cell? ⟨g, 0 + k * 17 + t, none⟩).isSome = true ∧ w.drew.frozen? ⟨g, 0 + k * 17 + t, none⟩ = false) := Lib.hid fun t ht => there_of (w := w.drew) (o := 0 + k * 17) (n := news.length) s1' (by rw [List.length_append, hlc, la, hnl]; omega) t ht
  obtain ⟨W1, hW1⟩ : ∃ W1, W1 = w.drew.setCells g (0 + k * 17) news := ⟨_, rfl⟩
  have hb1 : W1.heap[g]? = some (.cells (pcells a ++ (news ++ (x.cells ++ pcells r ++ sp).drop news.length)).toArray 85 (0, 0)) := by
    have := setCells_mid news (pcells a) ((x.cells ++ pcells r ++ sp).take news.length) ((x.cells ++ pcells r ++ sp).drop news.length) w.drew (b := g) (t := 85) (by rw [List.take_append_drop]; exact s1') (by rw [List.length_take, hlc, hnl]; omega)
    rw [hW1, Nat.zero_add, hk, ← la]
    exact this
  have hf1 := setCells_frame (b := g) news (0 + k * 17) w.drew
  rw [← hW1] at hf1
  obtain ⟨P, hP⟩ : ∃ P, P = (x.cells ++ pcells r ++ sp).drop news.length := ⟨_, rfl⟩
  have hPl : P.length = (cap - (n - 1)) * 17 := by rw [hP, List.length_drop, hlc, hnl]; omega
  rw [← hP] at hb1
  obtain ⟨zs, hzs⟩ : ∃ zs, (Builtin.zeroCells z0.cells (n - (k + (n - j)))).toList = zs := ⟨_, rfl⟩
  have hzl : zs.length = 17 := by rw [← hzs, zeroCells_length, hz3]; omega
  have hz1c : ∀ v ∈ zs, v.oneCell' = true := by
    rw [← hzs]
    refine zeroCells_one _ _ fun v hv => ?_
    have h1 := Try.zeroOne
    rw [hi0] at h1
    simp only [Option.map_some, hz0, Option.some.injEq] at h1
    exact (Array.all_eq_true_iff_forall_mem.1 h1) v hv
  have hcl : ∀ ty, (Builtin.clear_ #[55] ty #[.slice (some ⟨g, (k + (n - j)) * 17, none⟩) (n - (k + (n - j))) (cap - (k + (n - j)))]).run Try.prog W1 = .ok (.tuple #[]) (W1.setCells g ((k + (n - j)) * 17) zs) :=
    fun ty => run_clear_wide W1 _ _ ty z0 Try.underlying55 (zero_run hi0 hz0) g ((k + (n - j)) * 17) _ _ (by omega) zs hzs hz1c (there_of hb1 (by simp only [List.length_append, la, hnl, hPl, hzl]; omega))
  obtain ⟨W2, hW2⟩ : ∃ W2, W2 = W1.setCells g ((k + (n - j)) * 17) zs := ⟨_, rfl⟩
  rw [← hW2] at hcl
  have hb2 : W2.heap[g]? = some (.cells ((pcells a ++ news) ++ (zs ++ P.drop 17)).toArray 85 (0, 0)) := by
    have := setCells_mid zs (pcells a ++ news) (P.take 17) (P.drop 17) W1 (b := g) (t := 85) (by rw [List.take_append_drop, List.append_assoc]; exact hb1) (by rw [List.length_take, hPl, hzl]; omega)
    rw [hW2, show (k + (n - j)) * 17 = (pcells a ++ news).length by rw [List.length_append, la, hnl]; omega]
    exact this
  have hf2 := setCells_frame (b := g) zs ((k + (n - j)) * 17) W1
  rw [← hW2] at hf2
  have hown : W2.ownsRow 0 85 17 (.slice (some ⟨g, 0, none⟩) (n - 1) cap) (n - 1) (pcells (a ++ r)) := by
    rw [pcells_append, ← hnews]
    exact owns_of (by rw [List.length_append, la, hnl]; omega) hb2 (by omega) s3 (by simp only [List.length_append, la, hnl, hzl, List.length_drop, hPl]; omega)
  have hlo : ∀ ww : World, Below g ww ww := fun ww => Below.refl _ _
  have HEND : Hid (DelC w g (n - 1) cap (pcells (a ++ r)) (.returned (.slice (some ⟨g, 0, none⟩) (n - 1) cap)) W2) := show DelC _ _ _ _ _ _ _ from
    ⟨rfl, hown, hf2.1.trans (hf1.1.trans rfl), by
      have b1 := hf1.2.1 g (Nat.le_refl _)
      have b2 := hf2.2.1 g (Nat.le_refl _)
      exact ⟨b2.os.trans b1.os, b2.tape.trans b1.tape, b2.output.trans b1.output, by rw [hf2.1, hf1.1]; exact Nat.le_refl _, fun y hy hn => (hf2.2.2 y hn).trans (hf1.2.2 y hn)⟩⟩
  have hW : Hid (W1 = w.drew.setCells g (0 + k * 17) news) := Lib.hid hW1
  have HN : Hid (n - 1 = k + (n - j)) := Lib.hid (by omega)
  clear s1 s4 e0 la lr hga hgr hgx hg h hn hk hj s3 s1' hlc hnl hnews hf1 hf2 hb1 hb2 hW1 hW2 hP hPl hzs hzl hz1c hown hlo
  go_enter Try.func53, Try.ntmps53
  go_wp2_with fail
  go_region_law (refine step_append_room rfl (.tmp 22) (.tmp 25) 55 rfl 85 i0 17 Try.underlying55 hi0 hz1 g 0 k cap (by simp [Act.eval, Act.put]) A (n - j) (cap - j) news (by simp [Act.eval, Act.put]) q1.out hsrc.out q2.out (by omega) q3.out ?_; rw [← hW.out])
  go_wp2_with fail
  go_ret
  rw [← HN.out]
  exact HEND.out

end Go.Proofs.Ytklpafognbodhaa
