/-
  What 'NetOrder' answers: true. No condition.
-/
import Derived.Test.YthjehefmbgdndaaPOrd
import Derived.Deep.QuietTactic
import Derived.BigQuiet
namespace Go.Proofs.Ythjehefmbgdndaa
open Go.RowKit

/-- The net, and beside it the row v of its numbers. -/
def Ord (w : World) (nb : Nat) (v : Value) (its : List (Int × Bool)) (wr : World) : Prop :=
  NetAt w wr (fun x => v.ownBlock = some x) nb (nl its) ∧ wr.ownsRow w.heap.size 3 1 v its.length (iv its)
theorem Ord.net {w wr w' : World} {nb : Nat} {v E : Value} {its its' : List (Int × Bool)} {e : Ending} (h : Ord w nb v its wr) (hi : iv its' = iv its) (hc : NC w wr (fun x => v.ownBlock = some x) nb (nl its') E e w') : Ord w nb v its' w' := by
  obtain ⟨_, h1, h2, _⟩ := hc
  have hl : its'.length = its.length := by have := congrArg List.length hi; simpa [iv] using this
  exact ⟨h1, by rw [hl, hi]; exact owns_kept h.2 (fun g cur hg hgo => h2 g hgo)⟩
theorem Ord.below {w wr : World} {nb : Nat} {v : Value} {its : List (Int × Bool)} (h : Ord w nb v its wr) : Below w.heap.size w wr := h.1.2.choose_spec.2.2
/-- A number is put behind the row, whose message is in the net already. -/
theorem Ord.snoc {w wr w2 w1 : World} {nb : Nat} {v v' : Value} {its : List (Int × Bool)} {n : Int} {e : Ending} {E : Value} {o : Obj} (h : Ord w nb v its wr) (hc : NC w wr (fun x => v.ownBlock = some x) nb (nl (its ++ [(n, false)])) E e w2)
    (hown : w1.ownsRow w.heap.size 3 1 v' (its.length + 1) (iv its ++ [.int .i64 n])) (hgrow : (w2.alloc o).grownBy w1 v.ownBlock) (hat : v'.ownBlock = v.ownBlock ∨ v'.ownBlock = some (w2.alloc o).heap.size) : Ord w nb v' (its ++ [(n, false)]) w1 := by
  obtain ⟨_, h1, h2, _⟩ := hc
  refine ⟨?_, by rw [iv_append, List.length_append]; exact hown⟩
  have hv2 := owns_kept h.2 (w' := w2) (fun g cur hg hgo => h2 g hgo)
  have hn : NetAt w w2 (fun x => False ∨ v.ownBlock = some x) nb (nl (its ++ [(n, false)])) := h1.turn fun x hx => hx.elim (fun h => h.elim) id
  exact (hn.grown ((Below.refl _ _).alloc (Nat.le_refl _) _) hv2 hgrow hat (fun g hg => (hown.lt g hg).2)).turn fun x hx => Or.inr hx

theorem owns_cap {w : World} {base g n cap size : Nat} {e : TypeId} {xs : List Value} (h : w.ownsRow base e size (.slice (some ⟨g, 0, none⟩) n cap) n xs) : n ≤ cap := by
  rcases h.2 with ⟨h', _⟩ | ⟨g', cap', cur, h', hb, hg, hnc, _⟩
  · simp at h'
  · simp only [Value.slice.injEq, Option.some.injEq, Addr.mk.injEq, and_true, true_and] at h'
    obtain ⟨rfl, rfl⟩ := h'
    exact hnc
/-- A number is taken out of the row, whose message is out of the net already. -/
theorem ord_cut {w W6 w7 w8 : World} {nb g m vc K m' : Nat} {A R : List (Int × Bool)} {v1 v2 : Value} (hnet : NetAt w W6 (fun x => (Value.slice (some ⟨g, 0, none⟩) m vc).ownBlock = some x) nb (nl A ++ nl R)) (hl : (A ++ R).length = 0 + K + m')
    (ho1 : w7.ownsRow w.heap.size 3 1 v1 (0 + K) ([] ++ iv A)) (hg1 : W6.grownBy w7 (Value.slice none 0 0).ownBlock) (hat1 : v1.ownBlock = (Value.slice none 0 0).ownBlock ∨ v1.ownBlock = some W6.heap.size)
    (ho2 : w8.ownsRow w.heap.size 3 1 v2 (0 + K + m') ([] ++ iv A ++ iv R)) (hg2 : w7.grownBy w8 v1.ownBlock) (hat2 : v2.ownBlock = v1.ownBlock ∨ v2.ownBlock = some w7.heap.size) : Ord w nb v2 (A ++ R) w8 := by
  have h1 : NetAt w W6 (fun x => (Value.slice (some ⟨g, 0, none⟩) m vc).ownBlock = some x ∨ (Value.slice none 0 0).ownBlock = some x) nb (nl A ++ nl R) := hnet.turn fun x hx => hx.elim id (fun h => by cases h)
  have h2 := h1.grown (Below.refl _ _) (World.ownsRow_nil _ _ _ _) hg1 hat1 (fun y hy => (ho1.lt y hy).2)
  have h3 := h2.grown (Below.refl _ _) ho1 hg2 hat2 (fun y hy => (ho2.lt y hy).2)
  refine ⟨?_, by rw [hl, iv_append]; exact ho2⟩
  rw [nl_append]
  exact h3.turn fun x hx => Or.inr hx

set_option maxRecDepth 100000 in
set_option maxHeartbeats 8000000 in
theorem order_pos (w : World) (count : Int) (C : Nat) (hC0 : 0 < C) (hC : C < 60) (hCe : (wrap64 (count.tmod 60 + 60)).tmod 60 = (C : Int)) (a1 : Option Addr) (c1 : Nat) (l1 : List Int) (a2 : Option Addr) (c2 : Nat) (l2 : List Int) (hl1 : IntsAt w a1 l1) (hl2 : IntsAt w a2 l2) (hs1 : l1.length ≤ 60) (hs2 : l2.length ≤ 60) :
    Calls Try.prog 5 #[.int .i64 count, .slice a1 l1.length c1, .slice a2 l2.length c2] w fun e w' => e = .returned (.bool true) ∧ Below w.heap.size w w' := by
  have H0 := Lib.hid (new_any w w (Below.refl _ _))
  have A1 := Lib.hid hl1
  have A2 := Lib.hid hl2
  obtain ⟨n1, hn1⟩ : ∃ n, n = l1.length := ⟨_, rfl⟩
  obtain ⟨n2, hn2⟩ : ∃ n, n = l2.length := ⟨_, rfl⟩
  rw [← hn1] at hs1
  rw [← hn2] at hs2
  rw [← hn1, ← hn2]
  have HN1 := Lib.hid hn1
  have HN2 := Lib.hid hn2
  obtain ⟨i0, z0, hi0, hz0, hz1, hz2, hz3⟩ := info_wide Try.infoI
  have HI := Lib.hid (And.intro hi0 (And.intro hz0 (And.intro hz1 (And.intro hz2 hz3))))
  have hs1' : ¬ (60 : Int) < (n1 : Int) := by omega
  have hs2' : ¬ (60 : Int) < (n2 : Int) := by omega
  clear hl1 hl2 hn1 hn2 hi0 hz0 hz1 hz2 hz3
  go_enter Try.func5, Try.ntmps5
  go_wp2_with (go_at_call 8; refine H0.out.mono ?_; clear H0; rintro e w1 ⟨nb, rfl, p1, _⟩; have P1 := Lib.hid p1; clear p1)
  go_loopw [8, 9] (fun x vi wr => ∃ (j : Nat) (its : List (Int × Bool)) (v : Value), v = x ∧ j ≤ C ∧ vi = .int .i64 j ∧ Hid (its.length = j ∧ Ord w nb v its wr)) (fun _ vi _ => C - (intOf vi).toNat)
  case atStart => exact ⟨0, [], _, rfl, by omega, rfl, Lib.hid ⟨rfl, P1.out.turn (fun x hx => by cases hx), World.ownsRow_nil _ _ _ _⟩⟩
  case round =>
    obtain ⟨j, its, v, rfl, hj, rfl, hh⟩ := hrel
    by_cases hlt : j < C
    · have hji : (j : Int) < (C : Int) := by omega
      have hs := lsend w wr _ nb (nl its) hh.out.2.1 0 3 j rfl rfl (by rw [nl_length, hh.out.1]; omega)
      have hs2 : Calls Try.prog 12 #[.pointer (some ⟨nb, 0, none⟩), .agg #[.int .i8 0, .int .i64 0, .int .i64 3, .int .i64 0, .int .i64 0, .int .i64 j, .int .i64 0, .int .i64 0, .int .i64 0, .int .i64 0, .int .i64 0, .slice none 0 0, .int .i64 0, .int .i64 0, .string ⟨#[]⟩, .slice none 0 0]] wr (NC w wr (fun x => v.ownBlock = some x) nb (nl (its ++ [((j : Int), false)])) (.int .i64 0)) := by rw [nl_append]; exact hs
      have H1 := Lib.hid hs2
      clear hs hs2
      go_wp2_with (first
        | (go_at_call 12; refine H1.out.mono ?_; clear H1; rintro e w3 hc; obtain rfl := (hc.1); have C3 := Lib.hid hc; clear hc)
        | (at_builtin; refine wpList_append_own_at _ rfl (.tmp 46) (.tmp 48) _ rfl w.heap.size 3 i0 z0 1 8 Try.underlying51 HI.out.1 HI.out.2.1 HI.out.2.2.1 HI.out.2.2.2.1 HI.out.2.2.2.2 (by omega) v its.length (iv its) rfl ((owns_kept hh.out.2.2 (fun g cur hg hgo => C3.out.2.2.1 g hgo)).alloc _) ⟨w3.heap.size, 0, none⟩ 1 1 [.int .i64 j] rfl rfl (cell_one_new _ _ _) (by simp [Value.oneCell']) (by have := hh.out.1; unfold maxLen; omega) (by have := hh.out.1; omega) (by have h1 := hh.out.2.below.size; have h2 := C3.out.2.2.2; simp; omega) ?_; intro v' w4 hown hgrow _ hat; have F4 := Lib.hid (hh.out.2.snoc C3.out hown hgrow hat); clear hown hgrow hat))
      exact ⟨⟨j + 1, its ++ [((j : Int), false)], v', rfl, by omega, by go_num, Lib.hid ⟨by rw [List.length_append, hh.out.1]; rfl, F4.out⟩⟩, by simp [intOf]; omega⟩
    · have hji : ¬ (j : Int) < (C : Int) := by omega
      have hjC : j = C := by omega
      subst hjC
      have HH := Lib.hid hh.out
      clear hh
      obtain ⟨wo, rfl⟩ : ∃ wo, wo = wr := ⟨_, rfl⟩
      go_wp2_with fail
      go_loopw [10] (fun vi wr => ∃ (k : Nat) (its : List (Int × Bool)), k ≤ n1 ∧ vi = .int .i64 k ∧ Hid (its.length = j ∧ Ord w nb v its wr)) (fun vi _ => n1 - (intOf vi).toNat)
      case atStart => exact ⟨0, its, by omega, rfl, HH⟩
      case round =>
        clear HH
        obtain ⟨k, its, hk, rfl, hh⟩ := hrel
        have hj0 := hC0
        by_cases hk1 : k < n1
        · have hki : (k : Int) < (n1 : Int) := by omega
          have hji0 : (0 : Int) < (j : Int) := by omega
          have hjn0 : ¬ (j : Int) = 0 := by omega
          obtain ⟨x, hx⟩ : ∃ x, l1[k]? = some x := ⟨l1[k]'(by have := HN1.out; omega), List.getElem?_eq_getElem _⟩
          obtain ⟨b, off, e, hbl, hcell⟩ := A1.out (by have := HN1.out; omega)
          subst e
          have q0 : wr.cell? ⟨b, off + k, none⟩ = some (.int .i64 x) := (hh.out.2.below.cell (p := ⟨b, off + k, none⟩) hbl).trans (hcell k x hx)
          obtain ⟨K, hK, hKe⟩ := place_of x j hj0 (by omega)
          have hm := lhold w wr _ nb (nl its) hh.out.2.1 K (by rw [nl_length, hh.out.1]; exact hK) (by rw [nl_length, hh.out.1]; omega)
          rw [← itsMark_nl] at hm
          have H1 := Lib.hid hm
          clear hx hbl hcell hm
          go_wp2_with (go_at_call 16; refine H1.out.mono ?_; clear H1; rintro e w3 hc; obtain rfl := (hc.1); have C3 := Lib.hid hc; clear hc)
          exact ⟨⟨k + 1, itsMark its K, by omega, by go_num, Lib.hid ⟨by rw [itsMark_length]; exact hh.out.1, hh.out.2.net (itsMark_iv its K) C3.out⟩⟩, by simp [intOf]; omega⟩
        · have hki : ¬ (k : Int) < (n1 : Int) := by omega
          have HH := Lib.hid hh.out
          clear hh hk1
          obtain ⟨wp, rfl⟩ : ∃ wp, wp = wr := ⟨_, rfl⟩
          go_wp2_with fail
          go_loopw [8, 11] (fun x vi wr => ∃ (q : Nat) (its : List (Int × Bool)) (v : Value), v = x ∧ q ≤ n2 ∧ vi = .int .i64 q ∧ Hid (its.length ≤ 60 ∧ Ord w nb v its wr)) (fun _ vi _ => n2 - (intOf vi).toNat)
          case atStart => exact ⟨0, its, v, rfl, by omega, rfl, Lib.hid ⟨by rw [HH.out.1]; omega, HH.out.2⟩⟩
          case round =>
            clear HH
            obtain ⟨q, its, v2, rfl, hq, rfl, hh⟩ := hrel
            obtain ⟨va, vc, rfl⟩ := owns_slice hh.out.2.2
            obtain ⟨m, hm⟩ : ∃ m, m = its.length := ⟨_, rfl⟩
            rw [← hm] at hh ⊢
            have HM := Lib.hid hm
            have hm60 := hh.out.1
            clear hm
            by_cases hgo : q < n2 ∧ 0 < m
            · obtain ⟨hq1, hm0⟩ := hgo
              have hqi : (q : Int) < (n2 : Int) := by omega
              have hmi0 : (0 : Int) < (m : Int) := by omega
              have hmn0 : ¬ (m : Int) = 0 := by omega
              obtain ⟨x, hx⟩ : ∃ x, l2[q]? = some x := ⟨l2[q]'(by have := HN2.out; omega), List.getElem?_eq_getElem _⟩
              obtain ⟨b, off, e, hbl, hcell⟩ := A2.out (by have := HN2.out; omega)
              subst e
              have q0 : wr.cell? ⟨b, off + q, none⟩ = some (.int .i64 x) := (hh.out.2.below.cell (p := ⟨b, off + q, none⟩) hbl).trans (hcell q x hx)
              obtain ⟨K, hK, hKe⟩ := place_of x m hm0 (by omega)
              have ho : wr.ownsRow w.heap.size 3 1 (.slice va m vc) m (iv its) := by have := hh.out.2.2; rwa [← HM.out] at this
              obtain ⟨g, cap, e, _⟩ := ho.form hm0
              cases e
              obtain ⟨y, hy⟩ : ∃ y, its[K]? = some y := ⟨its[K]'(by have := HM.out; omega), List.getElem?_eq_getElem _⟩
              have e1 : nl its = nl (its.take K) ++ (bmsg 0 3 y.1, y.2) :: nl (its.drop (K + 1)) := by
                conv => lhs; rw [its_split hy]
                simp [nl]
              have hnet := hh.out.2.1
              rw [e1] at hnet
              have htk := ltake w wr _ nb _ _ K 0 3 y.1 y.2 hnet (by rw [nl_length, List.length_take]; have := HM.out; omega) (by rw [← e1, nl_length]; have := HM.out; omega)
              have hW5 : ∀ w3 e, NC w wr (fun x => (Value.slice (some ⟨g, 0, none⟩) m vc).ownBlock = some x) nb (nl (its.take K) ++ nl (its.drop (K + 1))) (.tuple #[.agg #[.int .i8 0, .int .i64 0, .int .i64 3, .int .i64 0, .int .i64 0, .int .i64 y.1, .int .i64 0, .int .i64 0, .int .i64 0, .int .i64 0, .int .i64 0, .slice none 0 0, .int .i64 0, .int .i64 0, .string ⟨#[]⟩, .slice none 0 0], .int .i64 0]) e w3 → (w3.alloc (.cells #[.int .i8 0, .int .i64 0, .int .i64 3, .int .i64 0, .int .i64 0, .int .i64 y.1, .int .i64 0, .int .i64 0, .int .i64 0, .int .i64 0, .int .i64 0, .slice none 0 0, .int .i64 0, .int .i64 0, .string ⟨#[]⟩, .slice none 0 0] 40)).ownsRow w.heap.size 3 1 (.slice (some ⟨g, 0, none⟩) m vc) m (iv its) ∧ (w3.alloc (.cells #[.int .i8 0, .int .i64 0, .int .i64 3, .int .i64 0, .int .i64 0, .int .i64 y.1, .int .i64 0, .int .i64 0, .int .i64 0, .int .i64 0, .int .i64 0, .slice none 0 0, .int .i64 0, .int .i64 0, .string ⟨#[]⟩, .slice none 0 0] 40)).cell? ⟨g, K, none⟩ = some (.int .i64 y.1) := fun w3 e hc => by
                have h1 := (owns_kept ho (w' := w3) (fun g cur hg hgo => hc.2.2.1 g hgo)).alloc (.cells #[.int .i8 0, .int .i64 0, .int .i64 3, .int .i64 0, .int .i64 0, .int .i64 y.1, .int .i64 0, .int .i64 0, .int .i64 0, .int .i64 0, .int .i64 0, .slice none 0 0, .int .i64 0, .int .i64 0, .string ⟨#[]⟩, .slice none 0 0] 40)
                exact ⟨h1, by rw [h1.cellAt K (by omega)]; exact iv_at hy⟩
              have H1 := Lib.hid htk
              have HW5 := Lib.hid hW5
              have HO := Lib.hid ho
              have HY := Lib.hid hy
              have hKi : (K : Int) < (m : Int) := by omega
              clear hx hbl hcell hnet htk hW5 e1 ho hy
              obtain ⟨wo, rfl⟩ : ∃ wo, wo = wr := ⟨_, rfl⟩
              go_wp2_with (go_at_call 13; refine H1.out.mono ?_; clear H1; rintro e w3 hc; obtain rfl := (hc.1); obtain ⟨o5, c5⟩ := HW5.out w3 _ hc; have C3 := Lib.hid hc; have O5 := Lib.hid o5; clear hc o5)
              go_quiet (fail)
              have hb6 : Below (w3.alloc (.cells #[.int .i8 0, .int .i64 0, .int .i64 3, .int .i64 0, .int .i64 0, .int .i64 y.1, .int .i64 0, .int .i64 0, .int .i64 0, .int .i64 0, .int .i64 0, .slice none 0 0, .int .i64 0, .int .i64 0, .string ⟨#[]⟩, .slice none 0 0] 40)).heap.size (w3.alloc (.cells #[.int .i8 0, .int .i64 0, .int .i64 3, .int .i64 0, .int .i64 0, .int .i64 y.1, .int .i64 0, .int .i64 0, .int .i64 0, .int .i64 0, .int .i64 0, .slice none 0 0, .int .i64 0, .int .i64 0, .string ⟨#[]⟩, .slice none 0 0] 40)) ((w3.alloc (.cells #[.int .i8 0, .int .i64 0, .int .i64 3, .int .i64 0, .int .i64 0, .int .i64 y.1, .int .i64 0, .int .i64 0, .int .i64 0, .int .i64 0, .int .i64 0, .slice none 0 0, .int .i64 0, .int .i64 0, .string ⟨#[]⟩, .slice none 0 0] 40)).drewN nq) := below_drewN (Below.refl _ _) nq
              have h6 : NetAt w ((w3.alloc (.cells #[.int .i8 0, .int .i64 0, .int .i64 3, .int .i64 0, .int .i64 0, .int .i64 y.1, .int .i64 0, .int .i64 0, .int .i64 0, .int .i64 0, .int .i64 0, .slice none 0 0, .int .i64 0, .int .i64 0, .string ⟨#[]⟩, .slice none 0 0] 40)).drewN nq) (fun x => (Value.slice (some ⟨g, 0, none⟩) m vc).ownBlock = some x) nb (nl (its.take K) ++ nl (its.drop (K + 1))) := (C3.out.2.1.below ((Below.refl _ _).alloc (Nat.le_refl _) _)).below hb6
              have o6 := owns_kept O5.out (w' := (w3.alloc (.cells #[.int .i8 0, .int .i64 0, .int .i64 3, .int .i64 0, .int .i64 0, .int .i64 y.1, .int .i64 0, .int .i64 0, .int .i64 0, .int .i64 0, .int .i64 0, .slice none 0 0, .int .i64 0, .int .i64 0, .string ⟨#[]⟩, .slice none 0 0] 40)).drewN nq) (fun y cur hy hgo => hb6.block y (lt_of_some hy))
              have HZ := Lib.hid (And.intro h6 o6)
              clear h6 o6 hb6 c5 C3 O5
              generalize World.drewN _ nq = W6 at HZ ⊢
              have hmv : m ≤ vc := owns_cap HO.out
              have hKc : K ≤ vc := by omega
              have hK1 : K + 1 ≤ vc := by omega
              have hKm : K + 1 ≤ m := by omega
              obtain ⟨A, hA, hsrc⟩ : ∃ A : Addr, (if vc = K + 1 then some (⟨g, 0, none⟩ : Addr) else some ⟨g, K + 1, none⟩) = some A ∧ Hid (∀ W : World, W.ownsRow w.heap.size 3 1 (.slice (some ⟨g, 0, none⟩) m vc) m (iv its) → ∀ t u, (iv (its.drop (K + 1)))[t]? = some u → W.cell? (A.add t) = some u) := by
                by_cases h : vc = K + 1
                · refine ⟨⟨g, 0, none⟩, by simp [h], Lib.hid fun W _ t u hu => ?_⟩
                  have := (List.getElem?_eq_some_iff.1 hu).1
                  rw [iv_length, List.length_drop] at this
                  have := HM.out
                  omega
                · refine ⟨⟨g, K + 1, none⟩, by simp [h], Lib.hid fun W hW t u hu => ?_⟩
                  have hu2 : (iv its)[K + 1 + t]? = some u := by rw [iv, List.map_drop, List.getElem?_drop] at hu; exact hu
                  have hlt := (List.getElem?_eq_some_iff.1 hu2).1
                  rw [iv_length] at hlt
                  rw [Addr.add_mid, hW.cellAt (K + 1 + t) (by have := HM.out; omega)]
                  exact hu2
              have hrd : Hid (∀ t u, (iv (its.take K))[t]? = some u → W6.cell? ((⟨g, 0, none⟩ : Addr).add t) = some u) := Lib.hid fun t u hu => by
                refine HZ.out.2.cells (g := g) rfl t u ?_
                rw [iv, List.map_take, List.getElem?_take] at hu
                split at hu
                · exact hu
                · cases hu
              go_wp2_with (first
                | (at_builtin; refine wpList_append_own_at _ rfl (.tmp 114) (.tmp 117) _ rfl w.heap.size 3 i0 z0 1 8 Try.underlying51 HI.out.1 HI.out.2.1 HI.out.2.2.1 HI.out.2.2.2.1 HI.out.2.2.2.2 (by omega) (.slice none 0 0) 0 [] rfl (World.ownsRow_nil _ _ _ _) ⟨g, 0, none⟩ K vc (iv (its.take K)) rfl (by rw [iv_length, List.length_take]; have := HM.out; omega) hrd.out (iv_one _) (by unfold maxLen; omega) (by omega) HZ.out.1.2.choose_spec.2.2.size ?_; intro v1 w7 ho1 hg1 _ hat1; have ho7 := Lib.hid (owns_kept HZ.out.2 (w' := w7) (fun y cur hy hgo => hg1.block y (lt_of_some hy) (by intro e; cases e))); have HA1 := Lib.hid (And.intro ho1 (And.intro hg1 hat1)); have hs7 := Lib.hid (Nat.le_trans HZ.out.1.2.choose_spec.2.2.size hg1.size); clear ho1 hg1 hat1)
                | (at_builtin; refine wpList_append_own_at _ rfl (.tmp 119) (.tmp 123) _ rfl w.heap.size 3 i0 z0 1 8 Try.underlying51 HI.out.1 HI.out.2.1 HI.out.2.2.1 HI.out.2.2.2.1 HI.out.2.2.2.2 (by omega) v1 (0 + K) ([] ++ iv (its.take K)) rfl HA1.out.1 A (m - (K + 1)) (vc - (K + 1)) (iv (its.drop (K + 1))) rfl (by rw [iv_length, List.length_drop]; have := HM.out; omega) (hsrc.out w7 ho7.out) (iv_one _) (by unfold maxLen; omega) (by omega) hs7.out ?_; intro v2 w8 ho2 hg2 _ hat2; have HF := Lib.hid (ord_cut HZ.out.1 (by rw [List.length_append, List.length_take, List.length_drop]; have := HM.out; omega) HA1.out.1 HA1.out.2.1 HA1.out.2.2 ho2 hg2 hat2); clear ho2 hg2 hat2))
              exact ⟨⟨q + 1, its.take K ++ its.drop (K + 1), v2, rfl, by omega, by go_num, Lib.hid ⟨by rw [List.length_append, List.length_take, List.length_drop]; have := HM.out; omega, HF.out⟩⟩, by simp [intOf]; omega⟩
            · have HH : Hid (its.length ≤ 60 ∧ Ord w nb (.slice va m vc) its wr) := Lib.hid ⟨by rw [← HM.out]; exact hh.out.1, hh.out.2⟩
              clear hh
              obtain ⟨wp, rfl⟩ : ∃ wp, wp = wr := ⟨_, rfl⟩
              by_cases hq1 : q < n2
              · have hmz : m = 0 := by
                  rcases Nat.eq_zero_or_pos m with h0 | h0
                  · exact h0
                  · exact absurd ⟨hq1, h0⟩ hgo
                have hqi : (q : Int) < (n2 : Int) := by omega
                have hmi0 : ¬ (0 : Int) < (m : Int) := by omega
                clear hgo
                go_wp2_with fail
                go_loopw [16] (fun vi wr => ∃ (t : Nat), t ≤ m ∧ vi = .int .i64 t ∧ Hid (Ord w nb (.slice va m vc) its wr)) (fun vi _ => m - (intOf vi).toNat)
                case atStart => exact ⟨0, by omega, rfl, Lib.hid HH.out.2⟩
                case round =>
                  have hm6 := HH.out.1
                  clear HH
                  obtain ⟨t, ht, rfl, hh⟩ := hrel
                  have HM' := HM.out
                  by_cases htm : t < m
                  · exact absurd htm (by omega)
                  · have hti : ¬ (t : Int) < (m : Int) := by omega
                    have htm2 : t = m := by omega
                    have HF := Lib.hid (lfree w wr _ nb (nl its) hh.out.1 (by rw [nl_length]; omega))
                    have hln : Hid ((pfreed (nl its) (nl its).length).length = m) := Lib.hid (by rw [pfreed_length, nl_length]; omega)
                    have hm60 : its.length ≤ 60 := hm6
                    clear htm hh HM' hm6
                    subst htm2
                    by_cases hm0 : t = 0
                    · have hfv : Hid (firstV (ffree (pfreed (nl its) (nl its).length) 0) = .tuple #[.int .i64 0, .bool false]) := Lib.hid (by rw [pfreed_ffree, nl_length, if_pos (by have := HM.out; omega)]; rfl)
                      subst hm0
                      go_wp2_with (first
                        | (go_at_call 18; refine HF.out.mono ?_; clear HF; rintro e w3 hc; obtain rfl := (hc.1); have H2 := Lib.hid (lfirst w w3 _ nb _ hc.2.1 (by rw [pfreed_length, nl_length]; omega)); have H3 := Lib.hid (llen w w3 _ nb _ hc.2.1); clear hc)
                        | (go_at_call 19; refine H2.out.mono ?_; clear H2; rintro e w4 hc; obtain rfl := (hc.1); have H3 := Lib.hid (llen w w4 _ nb _ hc.2.1); have B4 := Lib.hid hc.2.1.2.choose_spec.2.2; clear hc; rw [hfv.out])
                        | (go_at_call 10; refine H3.out.mono ?_; clear H3; rintro e w' ⟨rfl, rfl⟩; rw [hln.out]; have H4 := Lib.hid (wakes_any w4))
                        | (go_at_call 7; refine H4.out.mono ?_; clear H4; rintro e w5 ⟨rfl, b5⟩; have B5 := Lib.hid (B4.out.trans (b5.mono B4.out.size)); clear b5))
                      go_ret
                      exact ⟨rfl, B5.out⟩
                    · exact absurd (show t = 0 by omega) hm0
              · have hqi : ¬ (q : Int) < (n2 : Int) := by omega
                clear hgo
                go_wp2_with fail
                go_loopw [16] (fun vi wr => ∃ (t : Nat), t ≤ m ∧ vi = .int .i64 t ∧ Hid (Ord w nb (.slice va m vc) its wr)) (fun vi _ => m - (intOf vi).toNat)
                case atStart => exact ⟨0, by omega, rfl, Lib.hid HH.out.2⟩
                case round =>
                  have hm6 := HH.out.1
                  clear HH
                  obtain ⟨t, ht, rfl, hh⟩ := hrel
                  have HM' := HM.out
                  by_cases htm : t < m
                  · have hti : (t : Int) < (m : Int) := by omega
                    obtain ⟨y, hy⟩ : ∃ y, its[t]? = some y := ⟨its[t]'(by omega), List.getElem?_eq_getElem _⟩
                    have ho : wr.ownsRow w.heap.size 3 1 (.slice va m vc) m (iv its) := by have := hh.out.2; rwa [← HM'] at this
                    obtain ⟨g, cap, e, _⟩ := ho.form (by omega)
                    cases e
                    have hlk := llook w wr _ nb (nl its) hh.out.1 t 0 3 y.1 y.2 (nl_at hy) (by rw [nl_length]; omega)
                    have hW5 : ∀ w3 e, NC w wr (fun x => (Value.slice (some ⟨g, 0, none⟩) m vc).ownBlock = some x) nb (nl its) (.tuple #[.agg #[.int .i8 0, .int .i64 0, .int .i64 3, .int .i64 0, .int .i64 0, .int .i64 y.1, .int .i64 0, .int .i64 0, .int .i64 0, .int .i64 0, .int .i64 0, .slice none 0 0, .int .i64 0, .int .i64 0, .string ⟨#[]⟩, .slice none 0 0], .bool y.2, .int .i64 0]) e w3 → (w3.alloc (.cells #[.int .i8 0, .int .i64 0, .int .i64 3, .int .i64 0, .int .i64 0, .int .i64 y.1, .int .i64 0, .int .i64 0, .int .i64 0, .int .i64 0, .int .i64 0, .slice none 0 0, .int .i64 0, .int .i64 0, .string ⟨#[]⟩, .slice none 0 0] 40)).ownsRow w.heap.size 3 1 (.slice (some ⟨g, 0, none⟩) m vc) m (iv its) ∧ (w3.alloc (.cells #[.int .i8 0, .int .i64 0, .int .i64 3, .int .i64 0, .int .i64 0, .int .i64 y.1, .int .i64 0, .int .i64 0, .int .i64 0, .int .i64 0, .int .i64 0, .slice none 0 0, .int .i64 0, .int .i64 0, .string ⟨#[]⟩, .slice none 0 0] 40)).cell? ⟨g, t, none⟩ = some (.int .i64 y.1) := fun w3 e hc => by
                      have h1 := (owns_kept ho (w' := w3) (fun g cur hg hgo => hc.2.2.1 g hgo)).alloc (.cells #[.int .i8 0, .int .i64 0, .int .i64 3, .int .i64 0, .int .i64 0, .int .i64 y.1, .int .i64 0, .int .i64 0, .int .i64 0, .int .i64 0, .int .i64 0, .slice none 0 0, .int .i64 0, .int .i64 0, .string ⟨#[]⟩, .slice none 0 0] 40)
                      exact ⟨h1, by rw [h1.cellAt t (by omega)]; exact iv_at hy⟩
                    have H1 := Lib.hid hlk
                    have HW5 := Lib.hid hW5
                    clear hlk hW5 ho hy hh HM'
                    obtain ⟨wo, rfl⟩ : ∃ wo, wo = wr := ⟨_, rfl⟩
                    go_wp2_with (go_at_call 17; refine H1.out.mono ?_; clear H1; rintro e w3 hc; obtain rfl := (hc.1); obtain ⟨o5, c5⟩ := HW5.out w3 _ hc; have C3 := Lib.hid hc; have O5 := Lib.hid o5; clear hc o5)
                    go_quiet (fail)
                    have hb6 : Below (w3.alloc (.cells #[.int .i8 0, .int .i64 0, .int .i64 3, .int .i64 0, .int .i64 0, .int .i64 y.1, .int .i64 0, .int .i64 0, .int .i64 0, .int .i64 0, .int .i64 0, .slice none 0 0, .int .i64 0, .int .i64 0, .string ⟨#[]⟩, .slice none 0 0] 40)).heap.size (w3.alloc (.cells #[.int .i8 0, .int .i64 0, .int .i64 3, .int .i64 0, .int .i64 0, .int .i64 y.1, .int .i64 0, .int .i64 0, .int .i64 0, .int .i64 0, .int .i64 0, .slice none 0 0, .int .i64 0, .int .i64 0, .string ⟨#[]⟩, .slice none 0 0] 40)) ((w3.alloc (.cells #[.int .i8 0, .int .i64 0, .int .i64 3, .int .i64 0, .int .i64 0, .int .i64 y.1, .int .i64 0, .int .i64 0, .int .i64 0, .int .i64 0, .int .i64 0, .slice none 0 0, .int .i64 0, .int .i64 0, .string ⟨#[]⟩, .slice none 0 0] 40)).drewN nq) := below_drewN (Below.refl _ _) nq
                    have h6 : NetAt w ((w3.alloc (.cells #[.int .i8 0, .int .i64 0, .int .i64 3, .int .i64 0, .int .i64 0, .int .i64 y.1, .int .i64 0, .int .i64 0, .int .i64 0, .int .i64 0, .int .i64 0, .slice none 0 0, .int .i64 0, .int .i64 0, .string ⟨#[]⟩, .slice none 0 0] 40)).drewN nq) (fun x => (Value.slice (some ⟨g, 0, none⟩) m vc).ownBlock = some x) nb (nl its) := (C3.out.2.1.below ((Below.refl _ _).alloc (Nat.le_refl _) _)).below hb6
                    have o6 := owns_kept O5.out (w' := (w3.alloc (.cells #[.int .i8 0, .int .i64 0, .int .i64 3, .int .i64 0, .int .i64 0, .int .i64 y.1, .int .i64 0, .int .i64 0, .int .i64 0, .int .i64 0, .int .i64 0, .slice none 0 0, .int .i64 0, .int .i64 0, .string ⟨#[]⟩, .slice none 0 0] 40)).drewN nq) (fun y cur hy hgo => hb6.block y (lt_of_some hy))
                    have HZ : Hid (Ord w nb (.slice (some ⟨g, 0, none⟩) m vc) its ((w3.alloc (.cells #[.int .i8 0, .int .i64 0, .int .i64 3, .int .i64 0, .int .i64 0, .int .i64 y.1, .int .i64 0, .int .i64 0, .int .i64 0, .int .i64 0, .int .i64 0, .slice none 0 0, .int .i64 0, .int .i64 0, .string ⟨#[]⟩, .slice none 0 0] 40)).drewN nq)) := Lib.hid ⟨h6, by rw [← HM.out]; exact o6⟩
                    clear h6 o6 hb6 c5 C3 O5
                    generalize World.drewN _ nq = W6 at HZ ⊢
                    go_wp2_with fail
                    exact ⟨⟨t + 1, by omega, by go_num, HZ⟩, by simp [intOf]; omega⟩
                  · have hti : ¬ (t : Int) < (m : Int) := by omega
                    have htm2 : t = m := by omega
                    have HF := Lib.hid (lfree w wr _ nb (nl its) hh.out.1 (by rw [nl_length]; omega))
                    have hln : Hid ((pfreed (nl its) (nl its).length).length = m) := Lib.hid (by rw [pfreed_length, nl_length]; omega)
                    have hm60 : its.length ≤ 60 := hm6
                    clear htm hh HM' hm6
                    subst htm2
                    by_cases hm0 : t = 0
                    · have hfv : Hid (firstV (ffree (pfreed (nl its) (nl its).length) 0) = .tuple #[.int .i64 0, .bool false]) := Lib.hid (by rw [pfreed_ffree, nl_length, if_pos (by have := HM.out; omega)]; rfl)
                      subst hm0
                      go_wp2_with (first
                        | (go_at_call 18; refine HF.out.mono ?_; clear HF; rintro e w3 hc; obtain rfl := (hc.1); have H2 := Lib.hid (lfirst w w3 _ nb _ hc.2.1 (by rw [pfreed_length, nl_length]; omega)); have H3 := Lib.hid (llen w w3 _ nb _ hc.2.1); clear hc)
                        | (go_at_call 19; refine H2.out.mono ?_; clear H2; rintro e w4 hc; obtain rfl := (hc.1); have H3 := Lib.hid (llen w w4 _ nb _ hc.2.1); have B4 := Lib.hid hc.2.1.2.choose_spec.2.2; clear hc; rw [hfv.out])
                        | (go_at_call 10; refine H3.out.mono ?_; clear H3; rintro e w' ⟨rfl, rfl⟩; rw [hln.out]; have H4 := Lib.hid (wakes_any w4))
                        | (go_at_call 7; refine H4.out.mono ?_; clear H4; rintro e w5 ⟨rfl, b5⟩; have B5 := Lib.hid (B4.out.trans (b5.mono B4.out.size)); clear b5))
                      go_ret
                      exact ⟨rfl, B5.out⟩
                    · have hfv : Hid (firstV (ffree (pfreed (nl its) (nl its).length) 0) = .tuple #[.int .i64 0, .bool true]) := Lib.hid (by rw [pfreed_ffree, nl_length, if_neg (by have := HM.out; omega)]; rfl)
                      have hpos : (0 : Int) < (t : Int) := by omega
                      go_wp2_with (first
                        | (go_at_call 18; refine HF.out.mono ?_; clear HF; rintro e w3 hc; obtain rfl := (hc.1); have H2 := Lib.hid (lfirst w w3 _ nb _ hc.2.1 (by rw [pfreed_length, nl_length]; omega)); have H3 := Lib.hid (llen w w3 _ nb _ hc.2.1); clear hc)
                        | (go_at_call 19; refine H2.out.mono ?_; clear H2; rintro e w4 hc; obtain rfl := (hc.1); have H3 := Lib.hid (llen w w4 _ nb _ hc.2.1); have B4 := Lib.hid hc.2.1.2.choose_spec.2.2; clear hc; rw [hfv.out])
                        | (go_at_call 10; refine H3.out.mono ?_; clear H3; rintro e w' ⟨rfl, rfl⟩; rw [hln.out]; have H4 := Lib.hid (wakes_any w4))
                        | (go_at_call 7; refine H4.out.mono ?_; clear H4; rintro e w5 ⟨rfl, b5⟩; have B5 := Lib.hid (B4.out.trans (b5.mono B4.out.size)); clear b5))
                      go_ret
                      exact ⟨rfl, B5.out⟩

end Go.Proofs.Ythjehefmbgdndaa
