/-
  slices.DeleteFunc over the program's row of messages, with the test that Clear makes. No condition but that they lie where they are said to lie.
-/
import Derived.Test.YtklpafognbodhaaPIdx
namespace Go.Proofs.Ytklpafognbodhaa
open Go.RowKit

def stays (addr : Int) (l : List PI) : List PI := l.filter fun p => !decide (toOf p = addr)
theorem stays_all {addr : Int} {l : List PI} (h : ∀ p ∈ l, toOf p ≠ addr) : stays addr l = l := List.filter_eq_self.2 fun p hp => by simpa using h p hp
theorem stays_snoc (addr : Int) (l : List PI) (p : PI) : stays addr (l ++ [p]) = stays addr l ++ (if toOf p = addr then [] else [p]) := by
  unfold stays
  rw [List.filter_append]
  by_cases h : toOf p = addr <;> simp [h]
theorem stays_length (addr : Int) (l : List PI) : (stays addr l).length ≤ l.length := List.length_filter_le _ _

theorem pcells_split (d : List PI) (i : Nat) (y : PI) (h : d[i]? = some y) : pcells d = pcells (d.take i) ++ (y.cells ++ pcells (d.drop (i + 1))) := by
  obtain ⟨hk, rfl⟩ := List.getElem?_eq_some_iff.1 h
  have e : d = d.take i ++ (d[i] :: d.drop (i + 1)) := by rw [← List.drop_eq_getElem_cons hk, List.take_append_drop]
  have e2 := congrArg pcells e
  rw [e2, pcells_append]
  simp only [pcells, List.flatMap_cons]
theorem good_set {d : List PI} {x : PI} (h : Good d) (hx : x.1.length = 16 ∧ ∀ u ∈ x.1, u.oneCell' = true) (i : Nat) : Good (d.set i x) := fun q hq => by
  rcases List.mem_or_eq_of_mem_set hq with h' | h'
  · exact h q h'
  · subst h'; exact hx
theorem row_set {w : World} {d : List PI} {x : PI} {g n cap i : Nat} (hg : Good d) (hx : x.1.length = 16) (hd : d.length = n) (hi : i < n) (h : w.ownsRow 0 85 17 (.slice (some ⟨g, 0, none⟩) n cap) n (pcells d)) :
    w.there g (i * 17) x.cells.toArray.size ∧ (w.setCells g (i * 17) x.cells).ownsRow 0 85 17 (.slice (some ⟨g, 0, none⟩) n cap) n (pcells (d.set i x)) := by
  obtain ⟨sp, s1, s2, s3, s4⟩ := owns_split h
  obtain ⟨y, hy⟩ : ∃ y, d[i]? = some y := ⟨d[i]'(by omega), List.getElem?_eq_getElem _⟩
  have e := pcells_split d i y hy
  have gt : Good (d.take i) := hg.sub fun p hp => List.mem_of_mem_take hp
  have gd : Good (d.drop (i + 1)) := hg.sub fun p hp => List.mem_of_mem_drop hp
  have l1 := pcells_length gt
  have l2 := pcells_length gd
  have ly : y.cells.length = 17 := by simp [PI.cells, (hg y (List.mem_of_getElem? hy)).1]
  have lx : x.cells.length = 17 := by simp [PI.cells, hx]
  rw [List.length_take, Nat.min_eq_left (by omega)] at l1
  rw [List.length_drop] at l2
  have e2 : pcells (d.set i x) = pcells (d.take i) ++ (x.cells ++ pcells (d.drop (i + 1))) := by
    rw [pcells_split (d.set i x) i x (by rw [List.getElem?_set_self (by omega)]), List.take_set, List.drop_set]
    rw [List.set_eq_of_length_le (by rw [List.length_take]; omega), if_pos (by omega)]
  rw [e] at s1 s4
  have hst := setCells_mid x.cells (pcells (d.take i)) y.cells (pcells (d.drop (i + 1)) ++ sp) w (b := g) (t := 85) (by simpa using s1) (by omega)
  rw [l1] at hst
  refine ⟨there_of s1 (by rw [List.size_toArray]; simp only [List.length_append] at s4 ⊢; omega), ?_⟩
  rw [e2]
  refine owns_of (sp := sp) ?_ (by simpa using hst) s2 s3 ?_
  · simp only [List.length_append]; omega
  · simp only [List.length_append] at s4 ⊢; omega
theorem row_cut {w : World} {d : List PI} {g n cap i : Nat} {zs : List Value} (hg : Good d) (hd : d.length = n) (hi : i ≤ n) (h : w.ownsRow 0 85 17 (.slice (some ⟨g, 0, none⟩) n cap) n (pcells d)) (hz : zs.length = (n - i) * 17) :
    w.there g (i * 17) zs.length ∧ (w.setCells g (i * 17) zs).ownsRow 0 85 17 (.slice (some ⟨g, 0, none⟩) i cap) i (pcells (d.take i)) := by
  obtain ⟨sp, s1, s2, s3, s4⟩ := owns_split h
  have gt : Good (d.take i) := hg.sub fun p hp => List.mem_of_mem_take hp
  have gd : Good (d.drop i) := hg.sub fun p hp => List.mem_of_mem_drop hp
  have l1 := pcells_length gt
  have l2 := pcells_length gd
  rw [List.length_take, Nat.min_eq_left (by omega)] at l1
  rw [List.length_drop] at l2
  have e : pcells d = pcells (d.take i) ++ pcells (d.drop i) := by rw [← pcells_append, List.take_append_drop]
  rw [e] at s1 s4
  have hdn : d.length - i = n - i := by omega
  rw [hdn] at l2
  have hst := setCells_mid zs (pcells (d.take i)) (pcells (d.drop i)) sp w (b := g) (t := 85) (by simpa using s1) (by omega)
  rw [l1] at hst
  have hni : (n - i) * 17 + i * 17 = n * 17 := by rw [← Nat.add_mul]; congr 1; omega
  refine ⟨there_of s1 (by simp only [List.length_append] at s4 ⊢; omega), ?_⟩
  refine owns_of (sp := zs ++ sp) l1 (by simpa using hst) (by omega) s3 ?_
  simp only [List.length_append] at s4 ⊢
  omega

def DfRound (w : World) (l : List PI) (g cap n : Nat) (addr : Int) (vi vj : Value) (wr : World) : Prop :=
  ∃ (i j : Nat) (d : List PI), i < j ∧ j ≤ n ∧ vi = .int .i64 i ∧ vj = .int .i64 j ∧ Hid (d.length = n ∧ Good d ∧ d.take i = stays addr (l.take j) ∧ d.drop j = l.drop j ∧ wr.ownsRow 0 85 17 (.slice (some ⟨g, 0, none⟩) n cap) n (pcells d) ∧ Touched w wr (fun x => x = g))
theorem df_del {w wr w' : World} {l : List PI} {g cap n : Nat} {addr : Int} {i j : Nat} {d : List PI} {x : PI} (hij : i < j) (hx : l[j]? = some x) (hj : j < n) (hdel : toOf x = addr) (h : d.length = n ∧ Good d ∧ d.take i = stays addr (l.take j) ∧ d.drop j = l.drop j ∧ wr.ownsRow 0 85 17 (.slice (some ⟨g, 0, none⟩) n cap) n (pcells d) ∧ Touched w wr (fun x => x = g))
    (hb : Below wr.heap.size wr w') : DfRound w l g cap n addr (.int .i64 i) (.int .i64 ((j : Int) + 1)) w' := by
  obtain ⟨h1, h2, h3, h4, h5, h6⟩ := h
  refine ⟨i, j + 1, d, by omega, by omega, rfl, by go_num, Lib.hid ⟨h1, h2, ?_, ?_, owns_kept h5 (fun y cur hy hgo => hb.block y (lt_of_some hy)), h6.trans (Below.touched hb _) (fun k hk => Or.inl hk)⟩⟩
  · rw [List.take_add_one, hx, Option.toList_some, stays_snoc, if_pos hdel, List.append_nil]; exact h3
  · have := congrArg (List.drop 1) h4
    simpa [List.drop_drop, Nat.add_comm] using this
theorem df_keep {w wr w3 : World} {l : List PI} {g cap n : Nat} {addr : Int} {i j : Nat} {d : List PI} {x : PI} (hij : i < j) (hx : l[j]? = some x) (hxg : x.1.length = 16 ∧ ∀ u ∈ x.1, u.oneCell' = true) (hj : j < n) (hdel : toOf x ≠ addr) (h : d.length = n ∧ Good d ∧ d.take i = stays addr (l.take j) ∧ d.drop j = l.drop j ∧ wr.ownsRow 0 85 17 (.slice (some ⟨g, 0, none⟩) n cap) n (pcells d) ∧ Touched w wr (fun x => x = g))
    (hb : Below wr.heap.size wr w3) : w3.there g (i * 17) x.cells.toArray.size ∧ DfRound w l g cap n addr (.int .i64 ((i : Int) + 1)) (.int .i64 ((j : Int) + 1)) (w3.setCells g (i * 17) x.cells) := by
  obtain ⟨h1, h2, h3, h4, h5, h6⟩ := h
  have h5' := owns_kept h5 (w' := w3) (fun y cur hy hgo => hb.block y (lt_of_some hy))
  have hr := row_set (i := i) h2 hxg.1 h1 (by omega) h5'
  have hf := setCells_frame (b := g) x.cells (i * 17) w3
  have hti : (d.set i x).take (i + 1) = d.take i ++ [x] := by
    rw [List.take_add_one, List.take_set, List.set_eq_of_length_le (by rw [List.length_take]; omega)]
    simp [List.getElem?_set, h1]
    omega
  refine ⟨hr.1, i + 1, j + 1, d.set i x, by omega, by omega, by go_num, by go_num, Lib.hid ⟨by simpa using h1, good_set h2 hxg i, ?_, ?_, hr.2, ?_⟩⟩
  · rw [hti, List.take_add_one, hx, Option.toList_some, stays_snoc, if_neg hdel, h3]
  · rw [List.drop_set, if_pos (by omega)]
    have := congrArg (List.drop 1) h4
    simpa [List.drop_drop, Nat.add_comm] using this
  · have t3 := h6.trans (Below.touched hb (fun x => x = g)) (fun k hk => Or.inl hk)
    have b3 := hf.2.1 0 (Nat.zero_le _)
    exact ⟨b3.os.trans t3.os, b3.tape.trans t3.tape, b3.output.trans t3.output, by rw [hf.1]; exact t3.size, fun y hy hn => (hf.2.2 y hn).trans (t3.block y hy hn)⟩

def DfC (w : World) (l : List PI) (v : Value) (addr : Int) (e : Ending) (w' : World) : Prop :=
  ∃ v', e = .returned v' ∧ w'.ownsRow 0 85 17 v' (stays addr l).length (pcells (stays addr l)) ∧ v'.ownBlock = v.ownBlock ∧ Touched w w' (fun x => v.ownBlock = some x) ∧ ∃ a' c', v' = .slice a' (stays addr l).length c'

set_option maxRecDepth 100000 in
set_option maxHeartbeats 2000000 in
/-- None goes. -/
theorem pdf_none (w : World) (l : List PI) (a : Option Addr) (cap n A Fb : Nat) (addr : Int) (hg : Good l) (ht : HasTo l) (hn : n = l.length) (hlen : n ≤ 1000000) (h : w.ownsRow 0 85 17 (.slice a n cap) n (pcells l)) (hc : Caps w A Fb addr) (hno : ∀ p ∈ l, toOf p ≠ addr) :
    Calls Try.prog 54 #[.slice a n cap, .func (.func 55) #[] #[.pointer (some ⟨Fb, 0, none⟩)]] w (DfC w l (.slice a n cap) addr) := by
  have hidx := pidx_any w l a cap n A Fb addr hg ht hn hlen h hc
  have hidx2 : Calls Try.prog 61 #[.slice a n cap, .func (.func 55) #[] #[.pointer (some ⟨Fb, 0, none⟩)]] w fun e w' => e = .returned (.int .i64 (-1)) ∧ Below w.heap.size w w' := hidx.mono fun e w' hh => by
    obtain ⟨hb, ⟨he, _⟩ | ⟨k, p, _, hp, hp2, _⟩⟩ := hh
    · exact ⟨he, hb⟩
    · exact absurd hp2 (hno p (List.mem_of_getElem? hp))
  have HI := Lib.hid hidx2
  have hend : ∀ w', Below w.heap.size w w' → DfC w l (.slice a n cap) addr (.returned (.slice a n cap)) w' := fun w' hb =>
    ⟨_, rfl, by rw [stays_all hno, ← hn]; exact owns_kept h (fun y cur hy _ => hb.block y (lt_of_some hy)), rfl, Below.touched hb _, a, cap, by rw [stays_all hno, ← hn]⟩
  have HE := Lib.hid hend
  clear hg ht hn hlen h hc hno hidx hidx2 hend
  go_enter Try.func54, Try.ntmps54
  go_wp2_with (go_at_call 61; refine HI.out.mono ?_; rintro e w2 ⟨rfl, hb2⟩)
  go_ret
  exact HE.out _ hb2

set_option maxRecDepth 100000 in
set_option maxHeartbeats 4000000 in
/-- The k-th is the first that goes. -/
theorem pdf_some (w : World) (l : List PI) (g cap n A Fb k : Nat) (addr : Int) (p : PI) (hg : Good l) (ht : HasTo l) (hn : n = l.length) (hlen : n ≤ 1000000) (h : w.ownsRow 0 85 17 (.slice (some ⟨g, 0, none⟩) n cap) n (pcells l)) (hc : Caps w A Fb addr) (hAg : A ≠ g) (hFg : Fb ≠ g)
    (hk : l[k]? = some p) (hp : toOf p = addr) (hno : ∀ q ∈ l.take k, toOf q ≠ addr) :
    Calls Try.prog 54 #[.slice (some ⟨g, 0, none⟩) n cap, .func (.func 55) #[] #[.pointer (some ⟨Fb, 0, none⟩)]] w (DfC w l (.slice (some ⟨g, 0, none⟩) n cap) addr) := by
  have hidx := pidx_any w l _ cap n A Fb addr hg ht hn hlen h hc
  have hkl : k < n := by have := (List.getElem?_eq_some_iff.1 hk).1; omega
  have hidx2 : Calls Try.prog 61 #[.slice (some ⟨g, 0, none⟩) n cap, .func (.func 55) #[] #[.pointer (some ⟨Fb, 0, none⟩)]] w fun e w' => e = .returned (.int .i64 k) ∧ Below w.heap.size w w' := hidx.mono fun e w' hh => by
    obtain ⟨hb, ⟨he, hall⟩ | ⟨k', p', he, hp1, hp2, hp3⟩⟩ := hh
    · exact absurd hp (hall p (List.mem_of_getElem? hk))
    · refine ⟨?_, hb⟩
      rcases Nat.lt_trichotomy k k' with h1 | h1 | h1
      · exact absurd hp (hp3 p (List.mem_of_getElem? (i := k) (by rw [List.getElem?_take, if_pos h1]; exact hk)))
      · rw [h1]; exact he
      · exact absurd hp2 (hno p' (List.mem_of_getElem? (i := k') (by rw [List.getElem?_take, if_pos h1]; exact hp1)))
  have HI := Lib.hid hidx2
  have hgw := (owns_bounds h (g := g) rfl).2
  have h0 : ∀ w', Below w.heap.size w w' → DfRound w l g cap n addr (.int .i64 k) (.int .i64 ((k : Int) + 1)) w' := fun w' hb => by
    refine ⟨k, k + 1, l, by omega, by omega, rfl, by go_num, Lib.hid ⟨hn.symm, hg, ?_, rfl, owns_kept h (fun y cur hy _ => hb.block y (lt_of_some hy)), Below.touched hb _⟩⟩
    rw [List.take_add_one, hk, Option.toList_some, stays_snoc, if_pos hp, List.append_nil, stays_all hno]
  obtain ⟨i0, z0, hi0, hz0, hz1, hz2, hz3⟩ := info_wide Try.infoK
  have hz1c : ∀ m, ∀ v ∈ (Builtin.zeroCells z0.cells m).toList, v.oneCell' = true := fun m => by
    refine zeroCells_one _ _ fun v hv => ?_
    have h1 := Try.zeroOne
    rw [hi0] at h1
    simp only [Option.map_some, hz0, Option.some.injEq] at h1
    exact (Array.all_eq_true_iff_forall_mem.1 h1) v hv
  have hcap : n ≤ cap ∧ cap ≤ maxLen := by obtain ⟨_, _, s2, s3, _⟩ := owns_split h; exact ⟨s2, s3⟩
  have hcm : cap ≤ 9223372036854775807 := by have := hcap.2; unfold maxLen at this; omega
  have hnc := hcap.1
  have hfin : ∀ (wr : World) (i : Nat) (d : List PI), i < n → (d.length = n ∧ Good d ∧ d.take i = stays addr (l.take n) ∧ d.drop n = l.drop n ∧ wr.ownsRow 0 85 17 (.slice (some ⟨g, 0, none⟩) n cap) n (pcells d) ∧ Touched w wr (fun x => x = g)) →
      ∃ zs : List Value, (∀ ty, (Builtin.clear_ #[55] ty #[.slice (some ⟨g, i * 17, none⟩) (n - i) (cap - i)]).run Try.prog wr = .ok (.tuple #[]) (wr.setCells g (i * 17) zs)) ∧
      DfC w l (.slice (some ⟨g, 0, none⟩) n cap) addr (.returned (.slice (some ⟨g, 0, none⟩) i cap)) (wr.setCells g (i * 17) zs) := fun wr i d hin ⟨h1, h2, h3, h4, h5, h6⟩ => by
    have hzl : (Builtin.zeroCells z0.cells (n - i)).toList.length = (n - i) * 17 := by rw [zeroCells_length, hz3]
    have hr := row_cut (i := i) (zs := (Builtin.zeroCells z0.cells (n - i)).toList) h2 h1 (by omega) h5 hzl
    refine ⟨(Builtin.zeroCells z0.cells (n - i)).toList, fun ty => run_clear_wide wr _ _ ty z0 Try.underlying55 (zero_run hi0 hz0) g (i * 17) _ _ (by omega) _ rfl (hz1c _) hr.1, ?_⟩
    have e : stays addr l = d.take i := by rw [h3, List.take_of_length_le (by omega)]
    have el : (stays addr l).length = i := by rw [e, List.length_take]; omega
    have hf := setCells_frame (b := g) (Builtin.zeroCells z0.cells (n - i)).toList (i * 17) wr
    have b3 := hf.2.1 0 (Nat.zero_le _)
    refine ⟨_, rfl, by rw [el, e]; exact hr.2, rfl, ⟨b3.os.trans h6.os, b3.tape.trans h6.tape, b3.output.trans h6.output, by rw [hf.1]; exact h6.size, fun y hy hn' => ?_⟩, _, _, by rw [el]⟩
    have hy' : y ≠ g := fun e => hn' (by rw [e]; rfl)
    exact (hf.2.2 y hy').trans (h6.block y hy hy')
  have HG := Lib.hid (And.intro hg (And.intro ht (And.intro hc (And.intro hn (And.intro hgw (And.intro h0 hfin))))))
  have hk0 : ¬ (k : Int) = -1 := by omega
  have hk1 : (k : Int) + 1 ≤ 1000000 := by omega
  obtain ⟨kk, hkk⟩ : ∃ kk : Int, kk = (k : Int) := ⟨_, rfl⟩
  rw [← hkk] at HI hk0 hk1 HG
  have hkp : (0 : Int) ≤ kk := by omega
  have hkb : (kk == -1) = false := by simpa using hk0
  clear hg ht hn h hc hk hp hno hidx hidx2 hgw hkk hkl h0 hfin hcap hz1c hi0 hz0 hz1 hz2 hz3
  go_enter Try.func54, Try.ntmps54
  go_wp2_with (go_at_call 61; refine HI.out.mono ?_; rintro e w2 ⟨rfl, hb2⟩; have HB2 := Lib.hid hb2; clear hb2)
  go_loopw [5, 6] (fun vi vj wr => DfRound w l g cap n addr vi vj wr) (fun _ vj _ => n - (intOf vj).toNat)
  case atStart => exact HG.out.2.2.2.2.2.1 _ HB2.out
  case round =>
    obtain ⟨i, j, d, hij, hjn, rfl, rfl, hh⟩ := hrel
    by_cases hlt : j < n
    · obtain ⟨x, hx⟩ : ∃ x, l[j]? = some x := ⟨l[j]'(by have := HG.out.2.2.2.1; omega), List.getElem?_eq_getElem _⟩
      obtain ⟨h1, h2, h3, h4, h5, h6⟩ := id hh.out
      have hdx : d[j]? = some x := by
        have := congrArg (fun y : List PI => y[0]?) h4
        simpa [List.getElem?_drop, hx] using this
      have h5' := h5
      rw [← h1] at h5'
      obtain ⟨r1, r2, r3, r4, r5⟩ := PRowAt.range h2 h5' hdx
      have hxg := HG.out.1 x (List.mem_of_getElem? hx)
      have hone : x.cells.toArray.all (·.oneCell') = true := all_oneCell_toArray fun u hu => pcells_one h2 u (List.mem_flatMap.2 ⟨x, List.mem_of_getElem? hdx, hu⟩)
      have hbox := box_stored' wr #[.int .i8 0, .int .i64 0, .int .i64 0, .int .i64 0, .int .i64 0, .int .i64 0, .int .i64 0, .int .i64 0, .int .i64 0, .int .i64 0, .int .i64 0, .slice none 0 0, .int .i64 0, .int .i64 0, .string ⟨#[]⟩, .slice none 0 0, .bool false] 85 x.cells (by rw [r2]; rfl) wr.heap.size rfl
      have hcw : Caps wr A Fb addr := HG.out.2.2.1.kept (h6.block A (World.block_lt_of_cell? w _ HG.out.2.2.1.1) hAg) (h6.block Fb (World.block_lt_of_cell? w _ HG.out.2.2.1.2) hFg)
      have hc2 := hcw.below hbox.2.2.2.1
      have hcall := goes_any _ A Fb addr x hxg.1 (HG.out.2.1 x (List.mem_of_getElem? hx)) hc2
      have hr2 : ((wr.alloc (.cells #[.int .i8 0, .int .i64 0, .int .i64 0, .int .i64 0, .int .i64 0, .int .i64 0, .int .i64 0, .int .i64 0, .int .i64 0, .int .i64 0, .int .i64 0, .slice none 0 0, .int .i64 0, .int .i64 0, .string ⟨#[]⟩, .slice none 0 0, .bool false] 85)).setCells wr.heap.size 0 x.cells).rangeAt wr.heap.size 0 x.cells := fun q u hq => by
        rw [cell_of_row _ _ _ _ _ _ hbox.2.1, Nat.zero_add]; simpa using hq
      have hcd := h1
      obtain ⟨b, hb⟩ : ∃ b, b = decide (toOf x = addr) := ⟨_, rfl⟩
      rw [← hb] at hcall
      have hkl : (j : Int) < (n : Int) := by omega
      cases b
      · have hne : toOf x ≠ addr := by simpa using hb.symm
        have hw3 := fun (w3 : World) (hb3 : Below ((wr.alloc (.cells #[.int .i8 0, .int .i64 0, .int .i64 0, .int .i64 0, .int .i64 0, .int .i64 0, .int .i64 0, .int .i64 0, .int .i64 0, .int .i64 0, .int .i64 0, .slice none 0 0, .int .i64 0, .int .i64 0, .string ⟨#[]⟩, .slice none 0 0, .bool false] 85)).setCells wr.heap.size 0 x.cells).heap.size ((wr.alloc (.cells #[.int .i8 0, .int .i64 0, .int .i64 0, .int .i64 0, .int .i64 0, .int .i64 0, .int .i64 0, .int .i64 0, .int .i64 0, .int .i64 0, .int .i64 0, .slice none 0 0, .int .i64 0, .int .i64 0, .string ⟨#[]⟩, .slice none 0 0, .bool false] 85)).setCells wr.heap.size 0 x.cells) w3) =>
          And.intro (show w3.rangeAt wr.heap.size 0 x.cells from fun q u hq => (hb3.cell (p := ⟨wr.heap.size, 0 + q, none⟩) (by rw [hbox.2.2.1]; exact Nat.lt_succ_self _)).trans (hr2 q u hq))
            (df_keep (w3 := w3) hij hx hxg hlt hne hh.out (hbox.2.2.2.1.trans (hb3.mono (by rw [hbox.2.2.1]; omega))))
        have HX := Lib.hid (And.intro r3 (And.intro r2 (And.intro hbox.1 (And.intro hone (And.intro hr2 (And.intro hcall hw3))))))
        have hil : (i : Int) < (n : Int) := by omega
        clear h1 h2 h3 h4 h5 h5' h6 hdx r1 r2 r3 r4 r5 hxg hone hbox hcw hc2 hcall hr2 hcd hb hw3 hx hh hne
        go_wp2_with (first
          | (with_reducible refine wpList_load_mid rfl 85 (.tmp 24) rfl g (j * 17) rfl x.cells _ HX.out.1 Try.underlying85 rfl (by rw [HX.out.2.1]; kernel_rfl) ?_)
          | ((with_reducible refine wpList_store_mid rfl 85 (.tmp 7) (.tmp 25) rfl wr.heap.size 0 x.cells.toArray rfl rfl HX.out.2.2.1 (by rw [List.size_toArray, HX.out.2.1]; kernel_rfl) HX.out.2.2.2.1 ?_); have hY := HX.out.2.2.2.2; generalize hW2 : World.setCells _ _ _ _ = W2 at hY ⊢; have HY := Lib.hid hY; clear hW2 hY)
          | (with_reducible refine wpList_load_mid rfl 85 (.tmp 7) rfl wr.heap.size 0 rfl x.cells _ HY.out.1 Try.underlying85 rfl (by rw [HX.out.2.1]; kernel_rfl) ?_)
          | (go_at_call 55; refine HY.out.2.1.mono ?_; rintro e w3 ⟨rfl, hb3⟩; have HE3 := Lib.hid (HY.out.2.2 w3 hb3); clear hb3)
          | (with_reducible refine wpList_load_mid rfl 85 (.tmp 7) rfl wr.heap.size 0 rfl x.cells _ HE3.out.1 Try.underlying85 rfl (by rw [HX.out.2.1]; kernel_rfl) ?_)
          | (with_reducible refine wpList_store_mid rfl 85 (.tmp 33) (.tmp 32) rfl g (i * 17) x.cells.toArray rfl rfl HE3.out.2.1 (by rw [List.size_toArray, HX.out.2.1]; kernel_rfl) HX.out.2.2.2.1 ?_))
        go_roundw
        case rel => exact HE3.out.2.2
        case measure => simp [intOf]; omega
      · have he : toOf x = addr := by simpa using hb.symm
        have hw3 := fun (w3 : World) (hb3 : Below ((wr.alloc (.cells #[.int .i8 0, .int .i64 0, .int .i64 0, .int .i64 0, .int .i64 0, .int .i64 0, .int .i64 0, .int .i64 0, .int .i64 0, .int .i64 0, .int .i64 0, .slice none 0 0, .int .i64 0, .int .i64 0, .string ⟨#[]⟩, .slice none 0 0, .bool false] 85)).setCells wr.heap.size 0 x.cells).heap.size ((wr.alloc (.cells #[.int .i8 0, .int .i64 0, .int .i64 0, .int .i64 0, .int .i64 0, .int .i64 0, .int .i64 0, .int .i64 0, .int .i64 0, .int .i64 0, .int .i64 0, .slice none 0 0, .int .i64 0, .int .i64 0, .string ⟨#[]⟩, .slice none 0 0, .bool false] 85)).setCells wr.heap.size 0 x.cells) w3) =>
          df_del (w' := w3) hij hx hlt he hh.out (hbox.2.2.2.1.trans (hb3.mono (by rw [hbox.2.2.1]; omega)))
        have HX := Lib.hid (And.intro r3 (And.intro r2 (And.intro hbox.1 (And.intro hone (And.intro hr2 (And.intro hcall hw3))))))
        clear h1 h2 h3 h4 h5 h5' h6 hdx r1 r2 r3 r4 r5 hxg hone hbox hcw hc2 hcall hr2 hcd hb hw3 hx hh he
        go_wp2_with (first
          | (with_reducible refine wpList_load_mid rfl 85 (.tmp 24) rfl g (j * 17) rfl x.cells _ HX.out.1 Try.underlying85 rfl (by rw [HX.out.2.1]; kernel_rfl) ?_)
          | ((with_reducible refine wpList_store_mid rfl 85 (.tmp 7) (.tmp 25) rfl wr.heap.size 0 x.cells.toArray rfl rfl HX.out.2.2.1 (by rw [List.size_toArray, HX.out.2.1]; kernel_rfl) HX.out.2.2.2.1 ?_); have hY := HX.out.2.2.2.2; generalize hW2 : World.setCells _ _ _ _ = W2 at hY ⊢; have HY := Lib.hid hY; clear hW2 hY)
          | (with_reducible refine wpList_load_mid rfl 85 (.tmp 7) rfl wr.heap.size 0 rfl x.cells _ HY.out.1 Try.underlying85 rfl (by rw [HX.out.2.1]; kernel_rfl) ?_)
          | (go_at_call 55; refine HY.out.2.1.mono ?_; rintro e w3 ⟨rfl, hb3⟩; have HE3 := Lib.hid (HY.out.2.2 w3 hb3); clear hb3))
        go_roundw
        case rel => exact HE3.out
        case measure => simp [intOf]; omega
    · have hkl : ¬ (j : Int) < (n : Int) := by omega
      have hjn' : j = n := by omega
      subst hjn'
      obtain ⟨zs, hcl, hend⟩ := HG.out.2.2.2.2.2.2 wr i d hij hh.out
      have HE := Lib.hid hend
      have hic : ¬ cap = i := by omega
      have hil : (i : Int) ≤ (j : Int) := by omega
      have hil2 : i ≤ j := by omega
      have hicap : i ≤ cap := by omega
      clear hend hh
      go_wp2_with fail
      go_ret
      exact HE.out

end Go.Proofs.Ytklpafognbodhaa
