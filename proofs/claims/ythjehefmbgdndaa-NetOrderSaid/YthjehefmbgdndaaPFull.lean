/-
  What 'NetFull' answers: true. No condition.
-/
import Derived.Test.YthjehefmbgdndaaPWakes
namespace Go.Proofs.Ythjehefmbgdndaa
open Go.RowKit

def rep (v : Int) (n : Nat) : List PI := List.replicate n (bmsg 1 0 v, false)
theorem rep_snoc (v : Int) (n : Nat) : rep v n ++ [(bmsg 1 0 v, false)] = rep v (n + 1) := by unfold rep; rw [List.replicate_succ']
theorem rep_cut (v : Int) (k n : Nat) : rep v k ++ (bmsg 1 0 v, false) :: rep v n = rep v (k + 1 + n) := by
  have : (bmsg 1 0 v, false) :: rep v n = rep v (n + 1) := by unfold rep; rw [List.replicate_succ]
  rw [this]; unfold rep; rw [List.replicate_append_replicate]; congr 1; omega
theorem rep_join (v : Int) (k n : Nat) : rep v k ++ rep v n = rep v (k + n) := by unfold rep; rw [List.replicate_append_replicate]
theorem rep_length (v : Int) (n : Nat) : (rep v n).length = n := by simp [rep]
theorem rep_all (v : Int) (n : Nat) : AllB (rep v n) := fun p hp => by rw [List.eq_of_mem_replicate hp]; exact ⟨1, 0, v, rfl⟩
theorem rep_stays (v : Int) (n : Nat) : stays 0 (rep v n) = [] := by
  unfold stays
  rw [List.filter_eq_nil_iff]
  intro p hp
  rw [List.eq_of_mem_replicate hp]
  simp [bmsg_to]

section
variable (w0 w : World) (Q : Nat → Prop) (nb : Nat) (v : Int) (n : Nat) (h : NetAt w0 w Q nb (rep v n))
include h
theorem fsend (hn : n < 1024) : Calls Try.prog 12 #[.pointer (some ⟨nb, 0, none⟩), .agg #[.int .i8 0, .int .i64 1, .int .i64 0, .int .i64 0, .int .i64 0, .int .i64 v, .int .i64 0, .int .i64 0, .int .i64 0, .int .i64 0, .int .i64 0, .slice none 0 0, .int .i64 0, .int .i64 0, .string ⟨#[]⟩, .slice none 0 0]] w (NC w0 w Q nb (rep v (n + 1)) (.int .i64 0)) := by
  have := lsend w0 w Q nb _ h 1 0 v rfl rfl (by rw [rep_length]; exact hn)
  rw [rep_snoc] at this
  exact this
theorem fsend_full (hn : n = 1024) : Calls Try.prog 12 #[.pointer (some ⟨nb, 0, none⟩), .agg #[.int .i8 0, .int .i64 1, .int .i64 0, .int .i64 0, .int .i64 0, .int .i64 v, .int .i64 0, .int .i64 0, .int .i64 0, .int .i64 0, .int .i64 0, .slice none 0 0, .int .i64 0, .int .i64 0, .string ⟨#[]⟩, .slice none 0 0]] w (NC w0 w Q nb (rep v n) (.int .i64 20)) :=
  lsend_full w0 w Q nb _ h 1 0 v rfl rfl (by rw [rep_length]; omega) (by rw [rep_length]; omega)
theorem flen : Calls Try.prog 10 #[.pointer (some ⟨nb, 0, none⟩)] w fun e w' => e = .returned (.int .i64 n) ∧ w = w' := by
  have := llen w0 w Q nb _ h
  rw [rep_length] at this
  exact this
theorem fclear (hn : n ≤ 1000000) : Calls Try.prog 15 #[.pointer (some ⟨nb, 0, none⟩), .int .i64 0] w (NC w0 w Q nb (rep v 0) (.int .i64 n)) := by
  have := lclear w0 w Q nb _ h 0 (rep_all v n) (by rw [rep_length]; exact hn)
  rw [rep_stays, rep_length] at this
  simpa [rep] using this
theorem fdouble (hn : n < 1024) (h0 : 0 < n) : Calls Try.prog 14 #[.pointer (some ⟨nb, 0, none⟩), .int .i64 0] w (NC w0 w Q nb (rep v (n + 1)) (.int .i64 0)) := by
  have := ldouble w0 w Q nb _ h 0 (bmsg 1 0 v, false) (by simp [rep, h0]) (by rw [rep_length]; exact hn)
  rw [rep_snoc] at this
  exact this
theorem fdouble_full (k : Nat) (hk : k < n) (hn : n = 1024) : Calls Try.prog 14 #[.pointer (some ⟨nb, 0, none⟩), .int .i64 k] w fun e w' => e = .returned (.int .i64 20) ∧ w = w' :=
  ldouble_full w0 w Q nb _ h k (by rw [rep_length]; exact hk) (by rw [rep_length]; omega) (by rw [rep_length]; omega)
theorem ftake (k : Nat) (hk : k < n) (hn : n ≤ 1000000) : Calls Try.prog 13 #[.pointer (some ⟨nb, 0, none⟩), .int .i64 k] w (NC w0 w Q nb (rep v (n - 1)) (.tuple #[.agg #[.int .i8 0, .int .i64 1, .int .i64 0, .int .i64 0, .int .i64 0, .int .i64 v, .int .i64 0, .int .i64 0, .int .i64 0, .int .i64 0, .int .i64 0, .slice none 0 0, .int .i64 0, .int .i64 0, .string ⟨#[]⟩, .slice none 0 0], .int .i64 0])) := by
  obtain ⟨m, rfl⟩ : ∃ m, n = k + 1 + m := ⟨n - (k + 1), by omega⟩
  rw [← rep_cut] at h
  have := ltake w0 w Q nb (rep v k) (rep v m) k 1 0 v false h (rep_length v k).symm (by rw [rep_cut, rep_length]; exact hn)
  rw [rep_join] at this
  rw [show k + 1 + m - 1 = k + m by omega]
  exact this
end

/-- The place that is taken. -/
theorem place_of (k : Int) (m : Nat) (hm : 0 < m) (hb : m ≤ 1000000) : ∃ K : Nat, K < m ∧ (wrap64 (k.tmod m + m)).tmod m = (K : Int) := by
  have hm0 : (m : Int) ≠ 0 := by omega
  have h1 : k.tmod m < m := Int.tmod_lt_of_pos k (by omega)
  have h2 : -(m : Int) < k.tmod m := by
    rcases Int.le_total 0 k with h | h
    · have := Int.tmod_nonneg (m : Int) h; omega
    · have e : k.tmod m = -((-k).tmod m) := by rw [Int.neg_tmod, Int.neg_neg]
      have := Int.tmod_lt_of_pos (-k) (b := (m : Int)) (by omega)
      omega
  have hw : wrap64 (k.tmod m + m) = k.tmod m + m := by unfold wrap64; omega
  rw [hw]
  have h3 : 0 ≤ (k.tmod m + m).tmod m := Int.tmod_nonneg _ (by omega)
  have h4 : (k.tmod m + m).tmod m < m := Int.tmod_lt_of_pos _ (by omega)
  exact ⟨((k.tmod m + m).tmod m).toNat, by omega, by omega⟩

def FullRound (w : World) (nb Mb : Nat) (v : Int) (vi : Value) (wr : World) : Prop :=
  ∃ j : Nat, j ≤ 1024 ∧ vi = .int .i64 j ∧ Hid (NetAt w wr (fun x => x = Mb) nb (rep v j) ∧ wr.heap[Mb]? = some (.cells #[.int .i8 0, .int .i64 1, .int .i64 0, .int .i64 0, .int .i64 0, .int .i64 v, .int .i64 0, .int .i64 0, .int .i64 0, .int .i64 0, .int .i64 0, .slice none 0 0, .int .i64 0, .int .i64 0, .string ⟨#[]⟩, .slice none 0 0] 40 (0, 0)))
theorem full_msg {wr : World} {Mb : Nat} {v : Int} (h : wr.heap[Mb]? = some (.cells #[.int .i8 0, .int .i64 1, .int .i64 0, .int .i64 0, .int .i64 0, .int .i64 v, .int .i64 0, .int .i64 0, .int .i64 0, .int .i64 0, .int .i64 0, .slice none 0 0, .int .i64 0, .int .i64 0, .string ⟨#[]⟩, .slice none 0 0] 40 (0, 0))) : okAt wr (.pointer (some ⟨Mb, 0, none⟩)) = true ∧ cellsAt wr (.pointer (some ⟨Mb, 0, none⟩)) = #[.int .i8 0, .int .i64 1, .int .i64 0, .int .i64 0, .int .i64 0, .int .i64 v, .int .i64 0, .int .i64 0, .int .i64 0, .int .i64 0, .int .i64 0, .slice none 0 0, .int .i64 0, .int .i64 0, .string ⟨#[]⟩, .slice none 0 0] := by
  have := there_msg h (o := 0) (cs := bmsg 1 0 v) rfl (fun j u hj => by rw [Nat.zero_add]; simpa [bmsg] using hj)
  exact ⟨this.1, this.2⟩

attribute [local go_sem ↓] loadM wpLoadM
set_option maxRecDepth 100000 in
set_option maxHeartbeats 2000000 in
theorem full_any (w : World) (v k : Int) : Calls Try.prog 4 #[.int .i64 v, .int .i64 k] w fun e w' => e = .returned (.bool true) ∧ Below w.heap.size w w' := by
  have H0 := Lib.hid (new_any w w (Below.refl _ _))
  go_enter Try.func4, Try.ntmps4
  go_wp2_with (go_at_call 8; refine H0.out.mono ?_; clear H0; rintro e w1 ⟨nb, rfl, p1, b1⟩; have P1 := Lib.hid p1; clear p1; have B1 := Lib.hid b1.size; clear b1)
  have hn1 := heap_alloc_new w1 (.cells #[.int .i8 0, .int .i64 1, .int .i64 0, .int .i64 0, .int .i64 0, .int .i64 v, .int .i64 0, .int .i64 0, .int .i64 0, .int .i64 0, .int .i64 0, .slice none 0 0, .int .i64 0, .int .i64 0, .string ⟨#[]⟩, .slice none 0 0] 40)
  have p2 : NetAt w (w1.alloc (.cells #[.int .i8 0, .int .i64 1, .int .i64 0, .int .i64 0, .int .i64 0, .int .i64 v, .int .i64 0, .int .i64 0, .int .i64 0, .int .i64 0, .int .i64 0, .slice none 0 0, .int .i64 0, .int .i64 0, .string ⟨#[]⟩, .slice none 0 0] 40)) (fun x => x = w1.heap.size) nb (rep v 0) := P1.out.more ((Below.refl _ _).alloc (Nat.le_refl _) _) (fun x hx => Or.inr ⟨by omega, by rw [hx]; simp⟩)
  obtain ⟨Mb, hMb⟩ : ∃ Mb, Mb = w1.heap.size := ⟨_, rfl⟩
  rw [← hMb] at hn1 p2 ⊢
  have P2 := Lib.hid (And.intro p2 hn1)
  clear hMb hn1 p2 P1
  go_loopw [7] (fun vi wr => FullRound w nb Mb v vi wr) (fun vi _ => 1024 - (intOf vi).toNat)
  case atStart => exact ⟨0, by omega, rfl, P2⟩
  case round =>
    obtain ⟨j, hj, rfl, hh⟩ := hrel
    by_cases hlt : j < 1024
    · have hji : (j : Int) < 1024 := by omega
      have hm := full_msg hh.out.2
      have m1 := hm.1
      have m2 := hm.2
      have H1 := Lib.hid (fsend w wr _ nb v j hh.out.1 hlt)
      clear hm
      go_wp2_with (go_at_call 12; refine H1.out.mono ?_; clear H1; rintro e w3 ⟨rfl, p3, q3, _⟩; have P3 := Lib.hid (And.intro p3 (q3 Mb rfl)); clear p3 q3)
      exact ⟨⟨j + 1, by omega, by go_num, Lib.hid ⟨P3.out.1, P3.out.2.trans hh.out.2⟩⟩, by simp [intOf]; omega⟩
    · have hji : ¬ (j : Int) < 1024 := by omega
      have hj2 : j = 1024 := by omega
      subst hj2
      obtain ⟨K, hK, hKe⟩ := place_of k 1024 (by omega) (by omega)
      have hKe' : (wrap64 (k.tmod 1024 + 1024)).tmod 1024 = (K : Int) := hKe
      clear hKe
      have hB1 := B1.out
      have H1 := Lib.hid (ftake w wr _ nb v 1024 hh.out.1 K hK (by omega))
      go_wp2_with (first
        | (go_at_call 13; refine H1.out.mono ?_; clear H1; rintro e w4 ⟨rfl, p4, q4, _⟩; have hlm := lt_of_some ((q4 Mb rfl).trans hh.out.2); have p5 : NetAt w (w4.alloc (.cells #[.int .i8 0, .int .i64 1, .int .i64 0, .int .i64 0, .int .i64 0, .int .i64 v, .int .i64 0, .int .i64 0, .int .i64 0, .int .i64 0, .int .i64 0, .slice none 0 0, .int .i64 0, .int .i64 0, .string ⟨#[]⟩, .slice none 0 0] 40)) (fun x => x = Mb) nb (rep v 1023) := p4.below ((Below.refl _ _).alloc (Nat.le_refl _) _); have q5 : (w4.alloc (.cells #[.int .i8 0, .int .i64 1, .int .i64 0, .int .i64 0, .int .i64 0, .int .i64 v, .int .i64 0, .int .i64 0, .int .i64 0, .int .i64 0, .int .i64 0, .slice none 0 0, .int .i64 0, .int .i64 0, .string ⟨#[]⟩, .slice none 0 0] 40)).heap[Mb]? = some (.cells #[.int .i8 0, .int .i64 1, .int .i64 0, .int .i64 0, .int .i64 0, .int .i64 v, .int .i64 0, .int .i64 0, .int .i64 0, .int .i64 0, .int .i64 0, .slice none 0 0, .int .i64 0, .int .i64 0, .string ⟨#[]⟩, .slice none 0 0] 40 (0, 0)) := (Below.heap_alloc _ _ _ hlm).trans ((q4 Mb rfl).trans hh.out.2); have H2 := Lib.hid (flen w _ _ nb v 1023 p5); have H3 := Lib.hid (fdouble w _ _ nb v 1023 p5 (by omega) (by omega)); have Q5 := Lib.hid q5; clear p4 q4 p5 q5 hlm)
        | (go_at_call 10; refine H2.out.mono ?_; clear H2; rintro e w' ⟨rfl, rfl⟩)
        | (go_at_call 14; refine H3.out.mono ?_; clear H3; rintro e w6 ⟨rfl, p6, q6, _⟩; have hm6 := full_msg ((q6 Mb rfl).trans Q5.out); have m61 := hm6.1; have m62 := hm6.2; have H4 := Lib.hid (fdouble_full w _ _ nb v 1024 p6 K hK rfl); have H5 := Lib.hid (fsend_full w _ _ nb v 1024 p6 rfl); clear p6 q6 hm6)
        | (go_at_call 14; refine H4.out.mono ?_; clear H4; rintro e w' ⟨rfl, rfl⟩)
        | (go_at_call 12; refine H5.out.mono ?_; clear H5; rintro e w7 ⟨rfl, p7, _⟩; have H6 := Lib.hid (fclear w _ _ nb v 1024 p7 (by omega)); clear p7)
        | (go_at_call 15; refine H6.out.mono ?_; clear H6; rintro e w8 ⟨rfl, p8, _⟩; have H7 := Lib.hid (flen w _ _ nb v 0 p8); have B8 := Lib.hid p8.2.choose_spec.2.2; clear p8)
        | (go_at_call 10; refine H7.out.mono ?_; clear H7; rintro e w' ⟨rfl, rfl⟩; have H8 := Lib.hid (wakes_any w8))
        | (go_at_call 7; refine H8.out.mono ?_; clear H8; rintro e w9 ⟨rfl, b9⟩; have B9 := Lib.hid (B8.out.trans (b9.mono B8.out.size)); clear b9))
      go_ret
      exact ⟨rfl, B9.out⟩

end Go.Proofs.Ythjehefmbgdndaa
