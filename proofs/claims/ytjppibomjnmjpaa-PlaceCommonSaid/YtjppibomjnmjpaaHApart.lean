/-
  The law's own 'apart': are a walk's ids all different? No condition but that there are not too many nodes.
-/
import Derived.Test.YtjppibomjnmjpaaHWalkM
import Derived.Test.YtjppibomjnmjpaaHDist
namespace Go.Proofs.Ytjppibomjnmjpaa
open Go.RowKit Go.Shelf
set_option linter.unusedVariables false
set_option linter.unusedSimpArgs false

def ApartC (w : World) (T : List Sp) (e : Ending) (w' : World) : Prop := ∃ b, e = .returned (.bool b) ∧ (b = true → (T.map fun x => x.2.1.1).Nodup) ∧ Below w.heap.size w w'
theorem nodup_more {T : List Sp} {k : Nat} {x : Sp} (h : ((T.take k).map fun x => x.2.1.1).Nodup) (hx : T[k]? = some x) (hn : ∀ m y, m < k → T[m]? = some y → y.2.1.1 ≠ x.2.1.1) : ((T.take (k + 1)).map fun x => x.2.1.1).Nodup := by
  rw [List.take_add_one, hx, List.map_append, List.nodup_append]
  refine ⟨h, by simp, fun a ha b hb => ?_⟩
  simp only [Option.toList_some, List.map_cons, List.map_nil, List.mem_singleton] at hb
  obtain ⟨y, hy, rfl⟩ := List.mem_map.1 ha
  obtain ⟨m, hm⟩ := List.mem_iff_getElem?.1 hy
  rw [List.getElem?_take] at hm
  split at hm
  · next hlt => rw [hb]; exact hn m y hlt hm
  · cases hm
set_option maxRecDepth 100000 in
set_option maxHeartbeats 4000000 in
theorem apart_any (w : World) (S : Nat → Prop) (B : Nat) (a : Option Addr) (n cap : Nat) (T : List Sp) (hT : SpotsN S w B (.slice a n cap) n T) (hn : n ≤ 100000) :
    Calls Try.prog 28 #[.slice a n cap] w (ApartC w T) := by
  have HT := Lib.hid hT
  clear hT
  go_enter Try.func28, Try.ntmps28
  go_wp2_with fail
  go_loopw [3] (fun i wr => ∃ k : Nat, k ≤ n ∧ i = .int .i64 (k : Int) ∧ Hid (Below w.heap.size w wr ∧ ((T.take k).map fun x => x.2.1.1).Nodup)) (fun i _ => n - (intOf i).toNat)
  case atStart => exact ⟨0, Nat.zero_le _, rfl, Lib.hid ⟨Below.refl _ _, by simp⟩⟩
  case round =>
    obtain ⟨k, hk, rfl, hh⟩ := hrel
    by_cases hlt : k < n
    · have hki : (k : Int) < (n : Int) := by omega
      obtain ⟨x, hx⟩ : ∃ x, T[k]? = some x := ⟨_, List.getElem?_eq_getElem (by rw [HT.out.1]; exact hlt)⟩
      have HXK := Lib.hid (And.intro hx hlt)
      have HOUT := hh
      clear hx hlt hk
      go_wp2_with fail
      go_loopw [4] (fun j wr => ∃ m : Nat, m ≤ k ∧ j = .int .i64 (m : Int) ∧ Hid (Below w.heap.size w wr ∧ ∀ c y, c < m → T[c]? = some y → y.2.1.1 ≠ x.2.1.1)) (fun j _ => k - (intOf j).toNat)
      case atStart => exact ⟨0, Nat.zero_le _, rfl, Lib.hid ⟨HOUT.out.1, fun c y h => by omega⟩⟩
      case round =>
        obtain ⟨m, hm, rfl, hi⟩ := hrel
        by_cases hlm : m < k
        · have hmi : (m : Int) < (k : Int) := by omega
          obtain ⟨y, hy⟩ : ∃ y, T[m]? = some y := ⟨_, List.getElem?_eq_getElem (by rw [HT.out.1]; have := HXK.out.2; omega)⟩
          obtain ⟨g, rfl, hg, c0, _⟩ := spots_ge HT.out HXK.out.1
          obtain ⟨g', e', _, d0, _⟩ := spots_ge HT.out hy
          cases e'
          have hcap : n ≤ cap := by
            obtain ⟨_, xs, ho, _⟩ := HT.out
            rcases ho.2 with ⟨hv, h0⟩ | ⟨_, _, _, hv, _, _, h3, _⟩
            · cases hv
            · cases hv; exact h3
          have p0 := (hi.out.1.cell (p := ⟨g, k * 5, none⟩) hg).trans c0
          have p1 := (hi.out.1.cell (p := ⟨g, m * 5, none⟩) hg).trans d0
          have HX := Lib.hid (fun (X : World) (h : Below wr.heap.size wr X) => (show X.cell? ⟨g, k * 5, none⟩ = some (.int .i64 x.2.1.1) ∧ X.cell? ⟨g, m * 5, none⟩ = some (.int .i64 y.2.1.1) from ⟨(h.cell (World.block_lt_of_cell? _ _ p0)).trans p0, (h.cell (World.block_lt_of_cell? _ _ p1)).trans p1⟩))
          have HM := Lib.hid (And.intro hy hlm)
          have hkn : k < n := HXK.out.2
          have hmn : (m : Int) < (n : Int) := by omega
          clear hy hlm hm c0 d0 hg p0 p1
          by_cases he : x.2.1.1 = y.2.1.1
          · have hb : (x.2.1.1 == y.2.1.1) = true := by simpa using he
            clear he
            go_wp2_with fail
            refine wp_region_quiet (C := fun X => Below wr.heap.size wr X) (by kernel_rfl) (by kernel_rfl) (below_drewN (Below.refl _ wr) 1) ?_
            refine quiet_open (fun QQ hQQ => ?_)
            have HQQ := Lib.hid hQQ
            clear hQQ
            with_reducible refine wpQuiet_step ?_
            intro K hK
            rw [if_pos (by rfl)]
            refine ⟨.slice (some ⟨g, 0, none⟩) n cap, fun X hX => ?_, hK _ ?_⟩
            · clear hK; go_simp
            clear hK K
            simp only [Act.put, List.setIfInBounds_toArray, List.set_cons_zero, List.set_cons_succ]
            with_reducible refine wpQuiet_step ?_
            intro K hK
            rw [if_pos (by rfl)]
            refine ⟨.int .i64 (k : Int), fun X hX => ?_, hK _ ?_⟩
            · clear hK; go_simp
            clear hK K
            simp only [Act.put, List.setIfInBounds_toArray, List.set_cons_zero, List.set_cons_succ]
            with_reducible refine wpQuiet_step ?_
            intro K hK
            rw [if_pos (by rfl)]
            refine ⟨.pointer (some ⟨g, k * 5, none⟩), fun X hX => ?_, hK _ ?_⟩
            · clear hK; go_simp
            clear hK K
            simp only [Act.put, List.setIfInBounds_toArray, List.set_cons_zero, List.set_cons_succ]
            with_reducible refine wpQuiet_step ?_
            intro K hK
            rw [if_pos (by rfl)]
            refine ⟨.pointer (some ⟨g, k * 5, none⟩), fun X hX => ?_, hK _ ?_⟩
            · clear hK; go_simp
            clear hK K
            simp only [Act.put, List.setIfInBounds_toArray, List.set_cons_zero, List.set_cons_succ]
            with_reducible refine wpQuiet_step ?_
            intro K hK
            rw [if_pos (by rfl)]
            refine ⟨.pointer (some ⟨g, k * 5, none⟩), fun X hX => ?_, hK _ ?_⟩
            · clear hK; go_simp
            clear hK K
            simp only [Act.put, List.setIfInBounds_toArray, List.set_cons_zero, List.set_cons_succ]
            with_reducible refine wpQuiet_step ?_
            intro K hK
            rw [if_pos (by rfl)]
            refine ⟨.int .i64 x.2.1.1, fun X hX => ?_, hK _ ?_⟩
            · clear hK; obtain ⟨s0, s1⟩ := HX.out X hX; go_simp
            clear hK K
            simp only [Act.put, List.setIfInBounds_toArray, List.set_cons_zero, List.set_cons_succ]
            with_reducible refine wpQuiet_step ?_
            intro K hK
            rw [if_pos (by rfl)]
            refine ⟨.slice (some ⟨g, 0, none⟩) n cap, fun X hX => ?_, hK _ ?_⟩
            · clear hK; go_simp
            clear hK K
            simp only [Act.put, List.setIfInBounds_toArray, List.set_cons_zero, List.set_cons_succ]
            with_reducible refine wpQuiet_step ?_
            intro K hK
            rw [if_pos (by rfl)]
            refine ⟨.int .i64 (m : Int), fun X hX => ?_, hK _ ?_⟩
            · clear hK; go_simp
            clear hK K
            simp only [Act.put, List.setIfInBounds_toArray, List.set_cons_zero, List.set_cons_succ]
            with_reducible refine wpQuiet_step ?_
            intro K hK
            rw [if_pos (by rfl)]
            refine ⟨.pointer (some ⟨g, m * 5, none⟩), fun X hX => ?_, hK _ ?_⟩
            · clear hK; go_simp
            clear hK K
            simp only [Act.put, List.setIfInBounds_toArray, List.set_cons_zero, List.set_cons_succ]
            with_reducible refine wpQuiet_step ?_
            intro K hK
            rw [if_pos (by rfl)]
            refine ⟨.pointer (some ⟨g, m * 5, none⟩), fun X hX => ?_, hK _ ?_⟩
            · clear hK; go_simp
            clear hK K
            simp only [Act.put, List.setIfInBounds_toArray, List.set_cons_zero, List.set_cons_succ]
            with_reducible refine wpQuiet_step ?_
            intro K hK
            rw [if_pos (by rfl)]
            refine ⟨.pointer (some ⟨g, m * 5, none⟩), fun X hX => ?_, hK _ ?_⟩
            · clear hK; go_simp
            clear hK K
            simp only [Act.put, List.setIfInBounds_toArray, List.set_cons_zero, List.set_cons_succ]
            with_reducible refine wpQuiet_step ?_
            intro K hK
            rw [if_pos (by rfl)]
            refine ⟨.int .i64 y.2.1.1, fun X hX => ?_, hK _ ?_⟩
            · clear hK; obtain ⟨s0, s1⟩ := HX.out X hX; go_simp
            clear hK K
            simp only [Act.put, List.setIfInBounds_toArray, List.set_cons_zero, List.set_cons_succ]
            with_reducible refine wpQuiet_step ?_
            intro K hK
            rw [if_pos (by rfl)]
            refine ⟨.bool true, fun X hX => ?_, hK _ ?_⟩
            · clear hK; go_simp
            clear hK K
            simp only [Act.put, List.setIfInBounds_toArray, List.set_cons_zero, List.set_cons_succ]
            refine wpQuiet_nil (HQQ.out _ ?_)
            clear HQQ
            intro V hV
            have HV := Lib.hid hV
            clear hV
            go_wp2_with fail
            go_ret
            exact ⟨false, rfl, (fun e => by cases e), hi.out.1.trans (HV.out.mono hi.out.1.size)⟩
          · have hb : (x.2.1.1 == y.2.1.1) = false := by simpa using he
            have HE := Lib.hid he
            clear he
            go_wp2_with fail
            refine wp_region_quiet (C := fun X => Below wr.heap.size wr X) (by kernel_rfl) (by kernel_rfl) (below_drewN (Below.refl _ wr) 1) ?_
            refine quiet_open (fun QQ hQQ => ?_)
            have HQQ := Lib.hid hQQ
            clear hQQ
            with_reducible refine wpQuiet_step ?_
            intro K hK
            rw [if_pos (by rfl)]
            refine ⟨.slice (some ⟨g, 0, none⟩) n cap, fun X hX => ?_, hK _ ?_⟩
            · clear hK; go_simp
            clear hK K
            simp only [Act.put, List.setIfInBounds_toArray, List.set_cons_zero, List.set_cons_succ]
            with_reducible refine wpQuiet_step ?_
            intro K hK
            rw [if_pos (by rfl)]
            refine ⟨.int .i64 (k : Int), fun X hX => ?_, hK _ ?_⟩
            · clear hK; go_simp
            clear hK K
            simp only [Act.put, List.setIfInBounds_toArray, List.set_cons_zero, List.set_cons_succ]
            with_reducible refine wpQuiet_step ?_
            intro K hK
            rw [if_pos (by rfl)]
            refine ⟨.pointer (some ⟨g, k * 5, none⟩), fun X hX => ?_, hK _ ?_⟩
            · clear hK; go_simp
            clear hK K
            simp only [Act.put, List.setIfInBounds_toArray, List.set_cons_zero, List.set_cons_succ]
            with_reducible refine wpQuiet_step ?_
            intro K hK
            rw [if_pos (by rfl)]
            refine ⟨.pointer (some ⟨g, k * 5, none⟩), fun X hX => ?_, hK _ ?_⟩
            · clear hK; go_simp
            clear hK K
            simp only [Act.put, List.setIfInBounds_toArray, List.set_cons_zero, List.set_cons_succ]
            with_reducible refine wpQuiet_step ?_
            intro K hK
            rw [if_pos (by rfl)]
            refine ⟨.pointer (some ⟨g, k * 5, none⟩), fun X hX => ?_, hK _ ?_⟩
            · clear hK; go_simp
            clear hK K
            simp only [Act.put, List.setIfInBounds_toArray, List.set_cons_zero, List.set_cons_succ]
            with_reducible refine wpQuiet_step ?_
            intro K hK
            rw [if_pos (by rfl)]
            refine ⟨.int .i64 x.2.1.1, fun X hX => ?_, hK _ ?_⟩
            · clear hK; obtain ⟨s0, s1⟩ := HX.out X hX; go_simp
            clear hK K
            simp only [Act.put, List.setIfInBounds_toArray, List.set_cons_zero, List.set_cons_succ]
            with_reducible refine wpQuiet_step ?_
            intro K hK
            rw [if_pos (by rfl)]
            refine ⟨.slice (some ⟨g, 0, none⟩) n cap, fun X hX => ?_, hK _ ?_⟩
            · clear hK; go_simp
            clear hK K
            simp only [Act.put, List.setIfInBounds_toArray, List.set_cons_zero, List.set_cons_succ]
            with_reducible refine wpQuiet_step ?_
            intro K hK
            rw [if_pos (by rfl)]
            refine ⟨.int .i64 (m : Int), fun X hX => ?_, hK _ ?_⟩
            · clear hK; go_simp
            clear hK K
            simp only [Act.put, List.setIfInBounds_toArray, List.set_cons_zero, List.set_cons_succ]
            with_reducible refine wpQuiet_step ?_
            intro K hK
            rw [if_pos (by rfl)]
            refine ⟨.pointer (some ⟨g, m * 5, none⟩), fun X hX => ?_, hK _ ?_⟩
            · clear hK; go_simp
            clear hK K
            simp only [Act.put, List.setIfInBounds_toArray, List.set_cons_zero, List.set_cons_succ]
            with_reducible refine wpQuiet_step ?_
            intro K hK
            rw [if_pos (by rfl)]
            refine ⟨.pointer (some ⟨g, m * 5, none⟩), fun X hX => ?_, hK _ ?_⟩
            · clear hK; go_simp
            clear hK K
            simp only [Act.put, List.setIfInBounds_toArray, List.set_cons_zero, List.set_cons_succ]
            with_reducible refine wpQuiet_step ?_
            intro K hK
            rw [if_pos (by rfl)]
            refine ⟨.pointer (some ⟨g, m * 5, none⟩), fun X hX => ?_, hK _ ?_⟩
            · clear hK; go_simp
            clear hK K
            simp only [Act.put, List.setIfInBounds_toArray, List.set_cons_zero, List.set_cons_succ]
            with_reducible refine wpQuiet_step ?_
            intro K hK
            rw [if_pos (by rfl)]
            refine ⟨.int .i64 y.2.1.1, fun X hX => ?_, hK _ ?_⟩
            · clear hK; obtain ⟨s0, s1⟩ := HX.out X hX; go_simp
            clear hK K
            simp only [Act.put, List.setIfInBounds_toArray, List.set_cons_zero, List.set_cons_succ]
            with_reducible refine wpQuiet_step ?_
            intro K hK
            rw [if_pos (by rfl)]
            refine ⟨.bool false, fun X hX => ?_, hK _ ?_⟩
            · clear hK; go_simp
            clear hK K
            simp only [Act.put, List.setIfInBounds_toArray, List.set_cons_zero, List.set_cons_succ]
            refine wpQuiet_nil (HQQ.out _ ?_)
            clear HQQ
            intro V hV
            have HV := Lib.hid hV
            clear hV
            go_wp2_with fail
            exact ⟨⟨m + 1, by have := HM.out.2; omega, by go_num, Lib.hid ⟨hi.out.1.trans (HV.out.mono hi.out.1.size), fun c z hc hz => by
              rcases Nat.lt_or_ge c m with h1 | h1
              · exact hi.out.2 c z h1 hz
              · have : c = m := by omega
                subst this
                rw [HM.out.1] at hz; cases hz
                exact fun e => HE.out e.symm⟩⟩, by have := HM.out.2; simp [intOf]; omega⟩
        · have hmk : m = k := by omega
          have hmi : ¬ (m : Int) < (k : Int) := by omega
          have HMK := Lib.hid hmk
          clear hmk hlm hm
          go_wp2_with fail
          exact ⟨⟨k + 1, by have := HXK.out.2; omega, by go_num, Lib.hid ⟨hi.out.1, nodup_more HOUT.out.2 HXK.out.1 (fun c y hc hy => hi.out.2 c y (by rw [HMK.out]; exact hc) hy)⟩⟩, by have := HXK.out.2; simp [intOf]; omega⟩
    · have hki : ¬ (k : Int) < (n : Int) := by omega
      have hkn : k = n := by omega
      have HK := Lib.hid hkn
      clear hkn hlt hk
      go_wp2_with fail
      go_ret
      refine ⟨true, rfl, fun _ => ?_, hh.out.1⟩
      have h := hh.out.2
      rw [List.take_of_length_le (by rw [HT.out.1, HK.out]; exact Nat.le_refl _)] at h
      exact h
end Go.Proofs.Ytjppibomjnmjpaa
