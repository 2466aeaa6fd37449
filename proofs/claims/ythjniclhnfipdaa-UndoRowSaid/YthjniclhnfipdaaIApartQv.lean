/-
  The law's own 'apart': are a tree's ids all different, from 1 to the greatest? No condition but that it lies in memory.
-/
import Derived.Test.YthjniclhnfipdaaIPureQv
import Derived.Test.YthjniclhnfipdaaKFxQv
import Derived.Test.YthjniclhnfipdaaHWalkPQv
import Derived.BigQuiet
namespace Go.Proofs.Ythjniclhnfipdaa
open Go.RowKit Go.Shelf
set_option linter.unusedVariables false
set_option linter.unusedSimpArgs false

def okI (x : Sp) : Prop := 1 ≤ x.2.1.1 ∧ x.2.1.1 ≤ 1125899906842624
theorem nodup_moreI {T : List Sp} {k : Nat} {x : Sp} (h : ((T.take k).map fun x => x.2.1.1).Nodup) (hx : T[k]? = some x) (hn : ∀ m y, m < k → T[m]? = some y → y.2.1.1 ≠ x.2.1.1) : ((T.take (k + 1)).map fun x => x.2.1.1).Nodup := by
  rw [List.take_add_one, hx, List.map_append, List.nodup_append]
  refine ⟨h, by simp, fun a ha b hb => ?_⟩
  simp only [Option.toList_some, List.map_cons, List.map_nil, List.mem_singleton] at hb
  obtain ⟨y, hy, rfl⟩ := List.mem_map.1 ha
  obtain ⟨m, hm⟩ := List.mem_iff_getElem?.1 hy
  rw [List.getElem?_take] at hm
  split at hm
  · next hlt => rw [hb]; exact hn m y hlt hm
  · cases hm
def ApartT (t : Tr) : Prop := DistT t ∧ RngT t ∧ foSize t.kids + 1 ≤ 200
def ApartI (w : World) (t : Tr) (e : Ending) (w' : World) : Prop := ∃ b, e = .returned (.bool b) ∧ (b = true → ApartT t) ∧ Below w.heap.size w w'
theorem apart_t {t : Tr} {T : List Sp} (hT : T = (spF 1 (rootF t)).take 201) (hn : T.length ≤ 200) (h1 : (T.map fun x => x.2.1.1).Nodup) (h2 : ∀ x ∈ T, okI x) : ApartT t := by
  have hl : (spF 1 (rootF t)).length = foSize t.kids + 1 := by rw [spF_length, rootF_size]
  have hlt : T.length = min 201 (foSize t.kids + 1) := by rw [hT, List.length_take, hl]
  have hall : T = spF 1 (rootF t) := by rw [hT]; exact List.take_of_length_le (by omega)
  rw [hall] at h1 h2
  refine ⟨h1, fun i hi => ?_, by omega⟩
  rw [idT_eq, idsF] at hi
  obtain ⟨x, hx, rfl⟩ := List.mem_map.1 hi
  exact h2 x hx
set_option maxRecDepth 100000 in
set_option maxHeartbeats 8000000 in
theorem apart10_any (w : World) (S : Nat → Prop) (nv : Value) (t : Tr) (hlen : foLen t.kids ≤ 9223372036854775807) (hfit : foFit t.kids) (hS : ∀ y, S y → y < w.heap.size) (ht : TrAt w S nv t) :
    Calls Try.prog 76 #[nv] w (ApartI w t) := by
  obtain ⟨ka, tc, rfl, hcap, hk⟩ := ht
  obtain ⟨nk, hnk⟩ : ∃ nk, nk = foLen t.kids := ⟨_, rfl⟩
  rw [← hnk]
  obtain ⟨B, hB⟩ : ∃ B, B = w.alloc (.cells #[.int .i64 t.id, .int .i64 t.kind, .string t.text, .slice ka nk tc] 24) := ⟨_, rfl⟩
  have hb : Below w.heap.size w B := by rw [hB]; exact box_below _ _
  have ht0 : B.heap[w.heap.size]? = some (.cells #[.int .i64 t.id, .int .i64 t.kind, .string t.text, .slice ka nk tc] 24 (0, 0)) := by rw [hB]; exact heap_alloc_new _ _
  have hwk := walkM_any 201 (by omega) B S (.agg #[.int .i64 t.id, .int .i64 t.kind, .string t.text, .slice ka nk tc]) t hlen hfit (fun y hy => Nat.lt_of_lt_of_le (hS y hy) hb.size) ⟨ka, tc, by rw [hnk], hcap, hk.below hb hS⟩
  obtain ⟨T, hT⟩ : ∃ T, T = (spF 1 (rootF t)).take 201 := ⟨_, rfl⟩
  unfold WalkM at hwk
  rw [← hT] at hwk
  obtain ⟨n, hn⟩ : ∃ n, n = T.length := ⟨_, rfl⟩
  rw [← hn] at hwk
  have hn201 : n ≤ 201 := by rw [hn, hT, List.length_take]; omega
  obtain ⟨b0, b1, b2, b3⟩ := box4 ht0
  have HWK := Lib.hid hwk
  have HB := Lib.hid hb
  have HT0 := Lib.hid (And.intro hT hn)
  have HBE := Lib.hid hB
  clear hwk hb ht0 hB hnk hcap hk hS hlen hfit hT hn
  go_enter Try.func76, Try.ntmps76
  go_upto_region 1 with fail
  rw [← HBE.out]
  clear HBE
  go_wp2_with fail
  refine HWK.out.mono ?_
  rintro e W ⟨a, cap, rfl, hsp, hbW⟩
  have HT := Lib.hid hsp
  have HBW := Lib.hid (show Below w.heap.size w W from HB.out.trans (hbW.mono HB.out.size))
  clear hsp hbW HWK b0 b1 b2 b3
  go_wp2_with fail
  go_loopw [4] (fun i wr => ∃ k : Nat, k ≤ n ∧ i = .int .i64 (k : Int) ∧ Hid (Below W.heap.size W wr ∧ ((T.take k).map fun x => x.2.1.1).Nodup ∧ ∀ x ∈ T.take k, okI x)) (fun i _ => n - (intOf i).toNat)
  case atStart => exact ⟨0, Nat.zero_le _, rfl, Lib.hid ⟨Below.refl _ _, by simp, by simp⟩⟩
  case round =>
    obtain ⟨k, hk, rfl, hh⟩ := hrel
    by_cases hlt : k < n
    · have hki : (k : Int) < (n : Int) := by omega
      obtain ⟨x, hx⟩ : ∃ x, T[k]? = some x := ⟨_, List.getElem?_eq_getElem (by rw [HT.out.1]; exact hlt)⟩
      obtain ⟨g, rfl, hg, c0, _⟩ := spots_ge HT.out hx
      have p0 := (hh.out.1.cell (p := ⟨g, k * 5, none⟩) hg).trans c0
      have HXK := Lib.hid (And.intro hx hlt)
      have HOUT := hh
      have HP0 := Lib.hid c0
      have HG := Lib.hid hg
      clear hx hlt hk c0 hg
      by_cases hlo : x.2.1.1 < 1
      · go_wp2_with fail
        go_ret
        exact ⟨false, rfl, (fun e => by cases e), HBW.out.trans (hh.out.1.mono HBW.out.size)⟩
      by_cases hhi : 1125899906842624 < x.2.1.1
      · go_wp2_with fail
        go_ret
        exact ⟨false, rfl, (fun e => by cases e), HBW.out.trans (hh.out.1.mono HBW.out.size)⟩
      have HOK := Lib.hid (show okI x from ⟨by omega, by omega⟩)
      go_wp2_with fail
      clear hlo hhi p0
      go_loopw [5] (fun j wr => ∃ m : Nat, m ≤ k ∧ j = .int .i64 (m : Int) ∧ Hid (Below W.heap.size W wr ∧ ∀ c y, c < m → T[c]? = some y → y.2.1.1 ≠ x.2.1.1)) (fun j _ => k - (intOf j).toNat)
      case atStart => exact ⟨0, Nat.zero_le _, rfl, Lib.hid ⟨HOUT.out.1, fun c y h => by omega⟩⟩
      case round =>
        obtain ⟨m, hm, rfl, hi⟩ := hrel
        by_cases hlm : m < k
        · have hmi : (m : Int) < (k : Int) := by omega
          obtain ⟨y, hy⟩ : ∃ y, T[m]? = some y := ⟨_, List.getElem?_eq_getElem (by rw [HT.out.1]; have := HXK.out.2; omega)⟩
          obtain ⟨g', e', _, d0, _⟩ := spots_ge HT.out hy
          cases e'
          have hcap : n ≤ cap := by
            obtain ⟨_, xs, ho, _⟩ := HT.out
            rcases ho.2 with ⟨hv, h0⟩ | ⟨_, _, _, hv, _, _, h3, _⟩
            · cases hv
            · cases hv; exact h3
          have p0 := (hi.out.1.cell (p := ⟨g, k * 5, none⟩) HG.out).trans HP0.out
          have p1 := (hi.out.1.cell (p := ⟨g, m * 5, none⟩) HG.out).trans d0
          have HX := Lib.hid (fun (X : World) (h : Below wr.heap.size wr X) => (show X.cell? ⟨g, k * 5, none⟩ = some (.int .i64 x.2.1.1) ∧ X.cell? ⟨g, m * 5, none⟩ = some (.int .i64 y.2.1.1) from ⟨(h.cell (World.block_lt_of_cell? _ _ p0)).trans p0, (h.cell (World.block_lt_of_cell? _ _ p1)).trans p1⟩))
          have HM := Lib.hid (And.intro hy hlm)
          have hkn : k < n := HXK.out.2
          have hmn : (m : Int) < (n : Int) := by omega
          clear hy hlm hm d0 p0 p1
          by_cases he : x.2.1.1 = y.2.1.1
          · have hb : (x.2.1.1 == y.2.1.1) = true := by simpa using he
            clear he
            go_wp2_with fail
            refine wp_region_quiet (C := fun X => Below wr.heap.size wr X) (by kernel_rfl) (by kernel_rfl) (below_drewN (Below.refl _ wr) 1) ?_
            refine quiet_open (fun QQ hQQ => ?_)
            have HQQ := Lib.hid hQQ
            clear hQQ
            with_reducible refine wpQuiet_step ?_
            intro K hK
            rw [if_pos (by rfl)]
            refine ⟨.slice (some ⟨g, 0, none⟩) n cap, fun X hX => ?_, hK _ ?_⟩
            · clear hK; go_simp
            clear hK K
            simp only [Act.put, List.setIfInBounds_toArray, List.set_cons_zero, List.set_cons_succ]
            with_reducible refine wpQuiet_step ?_
            intro K hK
            rw [if_pos (by rfl)]
            refine ⟨.int .i64 (k : Int), fun X hX => ?_, hK _ ?_⟩
            · clear hK; go_simp
            clear hK K
            simp only [Act.put, List.setIfInBounds_toArray, List.set_cons_zero, List.set_cons_succ]
            with_reducible refine wpQuiet_step ?_
            intro K hK
            rw [if_pos (by rfl)]
            refine ⟨.pointer (some ⟨g, k * 5, none⟩), fun X hX => ?_, hK _ ?_⟩
            · clear hK; go_simp
            clear hK K
            simp only [Act.put, List.setIfInBounds_toArray, List.set_cons_zero, List.set_cons_succ]
            with_reducible refine wpQuiet_step ?_
            intro K hK
            rw [if_pos (by rfl)]
            refine ⟨.pointer (some ⟨g, k * 5, none⟩), fun X hX => ?_, hK _ ?_⟩
            · clear hK; go_simp
            clear hK K
            simp only [Act.put, List.setIfInBounds_toArray, List.set_cons_zero, List.set_cons_succ]
            with_reducible refine wpQuiet_step ?_
            intro K hK
            rw [if_pos (by rfl)]
            refine ⟨.pointer (some ⟨g, k * 5, none⟩), fun X hX => ?_, hK _ ?_⟩
            · clear hK; go_simp
            clear hK K
            simp only [Act.put, List.setIfInBounds_toArray, List.set_cons_zero, List.set_cons_succ]
            with_reducible refine wpQuiet_step ?_
            intro K hK
            rw [if_pos (by rfl)]
            refine ⟨.int .i64 x.2.1.1, fun X hX => ?_, hK _ ?_⟩
            · clear hK; obtain ⟨s0, s1⟩ := HX.out X hX; go_simp
            clear hK K
            simp only [Act.put, List.setIfInBounds_toArray, List.set_cons_zero, List.set_cons_succ]
            with_reducible refine wpQuiet_step ?_
            intro K hK
            rw [if_pos (by rfl)]
            refine ⟨.slice (some ⟨g, 0, none⟩) n cap, fun X hX => ?_, hK _ ?_⟩
            · clear hK; go_simp
            clear hK K
            simp only [Act.put, List.setIfInBounds_toArray, List.set_cons_zero, List.set_cons_succ]
            with_reducible refine wpQuiet_step ?_
            intro K hK
            rw [if_pos (by rfl)]
            refine ⟨.int .i64 (m : Int), fun X hX => ?_, hK _ ?_⟩
            · clear hK; go_simp
            clear hK K
            simp only [Act.put, List.setIfInBounds_toArray, List.set_cons_zero, List.set_cons_succ]
            with_reducible refine wpQuiet_step ?_
            intro K hK
            rw [if_pos (by rfl)]
            refine ⟨.pointer (some ⟨g, m * 5, none⟩), fun X hX => ?_, hK _ ?_⟩
            · clear hK; go_simp
            clear hK K
            simp only [Act.put, List.setIfInBounds_toArray, List.set_cons_zero, List.set_cons_succ]
            with_reducible refine wpQuiet_step ?_
            intro K hK
            rw [if_pos (by rfl)]
            refine ⟨.pointer (some ⟨g, m * 5, none⟩), fun X hX => ?_, hK _ ?_⟩
            · clear hK; go_simp
            clear hK K
            simp only [Act.put, List.setIfInBounds_toArray, List.set_cons_zero, List.set_cons_succ]
            with_reducible refine wpQuiet_step ?_
            intro K hK
            rw [if_pos (by rfl)]
            refine ⟨.pointer (some ⟨g, m * 5, none⟩), fun X hX => ?_, hK _ ?_⟩
            · clear hK; go_simp
            clear hK K
            simp only [Act.put, List.setIfInBounds_toArray, List.set_cons_zero, List.set_cons_succ]
            with_reducible refine wpQuiet_step ?_
            intro K hK
            rw [if_pos (by rfl)]
            refine ⟨.int .i64 y.2.1.1, fun X hX => ?_, hK _ ?_⟩
            · clear hK; obtain ⟨s0, s1⟩ := HX.out X hX; go_simp
            clear hK K
            simp only [Act.put, List.setIfInBounds_toArray, List.set_cons_zero, List.set_cons_succ]
            with_reducible refine wpQuiet_step ?_
            intro K hK
            rw [if_pos (by rfl)]
            refine ⟨.bool true, fun X hX => ?_, hK _ ?_⟩
            · clear hK; go_simp
            clear hK K
            simp only [Act.put, List.setIfInBounds_toArray, List.set_cons_zero, List.set_cons_succ]
            refine wpQuiet_nil (HQQ.out _ ?_)
            clear HQQ
            intro V hV
            have HV := Lib.hid hV
            clear hV
            go_wp2_with fail
            go_ret
            exact ⟨false, rfl, (fun e => by cases e), HBW.out.trans ((hi.out.1.trans (HV.out.mono hi.out.1.size)).mono HBW.out.size)⟩
          · have hb : (x.2.1.1 == y.2.1.1) = false := by simpa using he
            have HE := Lib.hid he
            clear he
            go_wp2_with fail
            refine wp_region_quiet (C := fun X => Below wr.heap.size wr X) (by kernel_rfl) (by kernel_rfl) (below_drewN (Below.refl _ wr) 1) ?_
            refine quiet_open (fun QQ hQQ => ?_)
            have HQQ := Lib.hid hQQ
            clear hQQ
            with_reducible refine wpQuiet_step ?_
            intro K hK
            rw [if_pos (by rfl)]
            refine ⟨.slice (some ⟨g, 0, none⟩) n cap, fun X hX => ?_, hK _ ?_⟩
            · clear hK; go_simp
            clear hK K
            simp only [Act.put, List.setIfInBounds_toArray, List.set_cons_zero, List.set_cons_succ]
            with_reducible refine wpQuiet_step ?_
            intro K hK
            rw [if_pos (by rfl)]
            refine ⟨.int .i64 (k : Int), fun X hX => ?_, hK _ ?_⟩
            · clear hK; go_simp
            clear hK K
            simp only [Act.put, List.setIfInBounds_toArray, List.set_cons_zero, List.set_cons_succ]
            with_reducible refine wpQuiet_step ?_
            intro K hK
            rw [if_pos (by rfl)]
            refine ⟨.pointer (some ⟨g, k * 5, none⟩), fun X hX => ?_, hK _ ?_⟩
            · clear hK; go_simp
            clear hK K
            simp only [Act.put, List.setIfInBounds_toArray, List.set_cons_zero, List.set_cons_succ]
            with_reducible refine wpQuiet_step ?_
            intro K hK
            rw [if_pos (by rfl)]
            refine ⟨.pointer (some ⟨g, k * 5, none⟩), fun X hX => ?_, hK _ ?_⟩
            · clear hK; go_simp
            clear hK K
            simp only [Act.put, List.setIfInBounds_toArray, List.set_cons_zero, List.set_cons_succ]
            with_reducible refine wpQuiet_step ?_
            intro K hK
            rw [if_pos (by rfl)]
            refine ⟨.pointer (some ⟨g, k * 5, none⟩), fun X hX => ?_, hK _ ?_⟩
            · clear hK; go_simp
            clear hK K
            simp only [Act.put, List.setIfInBounds_toArray, List.set_cons_zero, List.set_cons_succ]
            with_reducible refine wpQuiet_step ?_
            intro K hK
            rw [if_pos (by rfl)]
            refine ⟨.int .i64 x.2.1.1, fun X hX => ?_, hK _ ?_⟩
            · clear hK; obtain ⟨s0, s1⟩ := HX.out X hX; go_simp
            clear hK K
            simp only [Act.put, List.setIfInBounds_toArray, List.set_cons_zero, List.set_cons_succ]
            with_reducible refine wpQuiet_step ?_
            intro K hK
            rw [if_pos (by rfl)]
            refine ⟨.slice (some ⟨g, 0, none⟩) n cap, fun X hX => ?_, hK _ ?_⟩
            · clear hK; go_simp
            clear hK K
            simp only [Act.put, List.setIfInBounds_toArray, List.set_cons_zero, List.set_cons_succ]
            with_reducible refine wpQuiet_step ?_
            intro K hK
            rw [if_pos (by rfl)]
            refine ⟨.int .i64 (m : Int), fun X hX => ?_, hK _ ?_⟩
            · clear hK; go_simp
            clear hK K
            simp only [Act.put, List.setIfInBounds_toArray, List.set_cons_zero, List.set_cons_succ]
            with_reducible refine wpQuiet_step ?_
            intro K hK
            rw [if_pos (by rfl)]
            refine ⟨.pointer (some ⟨g, m * 5, none⟩), fun X hX => ?_, hK _ ?_⟩
            · clear hK; go_simp
            clear hK K
            simp only [Act.put, List.setIfInBounds_toArray, List.set_cons_zero, List.set_cons_succ]
            with_reducible refine wpQuiet_step ?_
            intro K hK
            rw [if_pos (by rfl)]
            refine ⟨.pointer (some ⟨g, m * 5, none⟩), fun X hX => ?_, hK _ ?_⟩
            · clear hK; go_simp
            clear hK K
            simp only [Act.put, List.setIfInBounds_toArray, List.set_cons_zero, List.set_cons_succ]
            with_reducible refine wpQuiet_step ?_
            intro K hK
            rw [if_pos (by rfl)]
            refine ⟨.pointer (some ⟨g, m * 5, none⟩), fun X hX => ?_, hK _ ?_⟩
            · clear hK; go_simp
            clear hK K
            simp only [Act.put, List.setIfInBounds_toArray, List.set_cons_zero, List.set_cons_succ]
            with_reducible refine wpQuiet_step ?_
            intro K hK
            rw [if_pos (by rfl)]
            refine ⟨.int .i64 y.2.1.1, fun X hX => ?_, hK _ ?_⟩
            · clear hK; obtain ⟨s0, s1⟩ := HX.out X hX; go_simp
            clear hK K
            simp only [Act.put, List.setIfInBounds_toArray, List.set_cons_zero, List.set_cons_succ]
            with_reducible refine wpQuiet_step ?_
            intro K hK
            rw [if_pos (by rfl)]
            refine ⟨.bool false, fun X hX => ?_, hK _ ?_⟩
            · clear hK; go_simp
            clear hK K
            simp only [Act.put, List.setIfInBounds_toArray, List.set_cons_zero, List.set_cons_succ]
            refine wpQuiet_nil (HQQ.out _ ?_)
            clear HQQ
            intro V hV
            have HV := Lib.hid hV
            clear hV
            go_wp2_with fail
            exact ⟨⟨m + 1, by have := HM.out.2; omega, by go_num, Lib.hid ⟨hi.out.1.trans (HV.out.mono hi.out.1.size), fun c z hc hz => by
              rcases Nat.lt_or_ge c m with h1 | h1
              · exact hi.out.2 c z h1 hz
              · have : c = m := by omega
                subst this
                rw [HM.out.1] at hz; cases hz
                exact fun e => HE.out e.symm⟩⟩, by have := HM.out.2; simp [intOf]; omega⟩
        · have hmk : m = k := by omega
          have hmi : ¬ (m : Int) < (k : Int) := by omega
          have HMK := Lib.hid hmk
          clear hmk hlm hm
          go_wp2_with fail
          exact ⟨⟨k + 1, by have := HXK.out.2; omega, by go_num, Lib.hid ⟨hi.out.1, nodup_moreI HOUT.out.2.1 HXK.out.1 (fun c y hc hy => hi.out.2 c y (by rw [HMK.out]; exact hc) hy), fun z hz => by
            rw [List.take_add_one, HXK.out.1] at hz
            rcases List.mem_append.1 hz with hz | hz
            · exact HOUT.out.2.2 z hz
            · have : z = x := by simpa using hz
              rw [this]; exact HOK.out⟩⟩, by have := HXK.out.2; simp [intOf]; omega⟩
    · have hki : ¬ (k : Int) < (n : Int) := by omega
      have hkn : k = n := by omega
      have HK := Lib.hid hkn
      clear hkn hlt hk
      by_cases h200 : n ≤ 200
      · go_wp2_with fail
        go_ret
        refine ⟨true, by simp; omega, fun _ => ?_, HBW.out.trans (hh.out.1.mono HBW.out.size)⟩
        have h := hh.out.2
        rw [List.take_of_length_le (by rw [HT.out.1, HK.out]; exact Nat.le_refl _)] at h
        exact apart_t HT0.out.1 (by rw [← HT0.out.2]; exact h200) h.1 h.2
      · go_wp2_with fail
        go_ret
        exact ⟨false, by simp; omega, (fun e => by cases e), HBW.out.trans (hh.out.1.mono HBW.out.size)⟩
end Go.Proofs.Ythjniclhnfipdaa
