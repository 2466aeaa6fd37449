/-
  What SumsPieces answers: true. No condition but that its argument lies in memory as it came in.
-/
import Derived.Test.YtpceledeeplhlaaSTell
import Derived.Test.YtpceledeeplhlaaSOpenD
namespace Go.Proofs.Ytpceledeeplhlaa
open Go.RowKit
open Extern.Stop (cell)

theorem add_block (a : Addr) (j : Nat) : (a.add j).block = a.block := by unfold Addr.add; split <;> rfl
theorem more_nil : moreN 0 [] = 0 := rfl
theorem piece_more {w w2 : World} {v' : Value} {all bs : List UInt8} (h : OwnS w.heap.size v' (all.length + bs.length) (all.map cell ++ bs.map cell) w w2) : OwnB w.heap.size v' (all ++ bs) w w2 ∧ True := by
  refine ⟨?_, trivial⟩
  show OwnS _ _ (all ++ bs).length ((all ++ bs).map cell) _ _
  rw [List.length_append, List.map_append]
  exact h
def PieceInv (w : World) (l : List (List UInt8)) (v m i : Value) (wr : World) : Prop := ∃ (k : Nat) (all : List UInt8), k ≤ l.length ∧ all = (l.take k).flatten ∧ all.length ≤ 20000 ∧ i = .int .i64 (k : Int) ∧ m = .int .u32 (moreN 0 all : Int) ∧ OwnB w.heap.size v all w wr
set_option maxRecDepth 100000 in
set_option maxHeartbeats 1000000 in
theorem sumsPieces_any (w : World) (a : Option Addr) (cap : Nat) (l : List (List UInt8)) (h : RowsAt w a l) (hm : (l.length : Int) ≤ 9223372036854775807) (hmx : ∀ bs ∈ l, (bs.length : Int) ≤ 9223372036854775807) :
    Calls Try.prog 5 #[.slice a l.length cap] w (YesB w) := by
  have HW := Lib.hid wakes_any
  have HB := Lib.hid h
  have HX := Lib.hid hmx
  clear h hmx
  by_cases h1 : 2000 < l.length
  · have h1' : (2000 : Int) < (l.length : Int) := by omega
    go_enter Try.func5, Try.ntmps5
    go_wp2_with (go_at_call 7; refine (HW.out _).mono ?_; clear HW; rintro e w2 ⟨rfl, h2⟩; have H2 := Lib.hid h2; clear h2)
    go_ret
    exact ⟨rfl, H2.out⟩
  · have h1' : ¬ (2000 : Int) < (l.length : Int) := by omega
    obtain ⟨i0, hi, hz, hs, hby⟩ := info_u Try.infoU
    have HI := Lib.hid (And.intro hi (And.intro hz (And.intro hs hby)))
    clear hi hz hs hby
    go_enter Try.func5, Try.ntmps5
    go_wp2_with fail
    go_loopw [3, 4, 5] (fun v m i wr => PieceInv w l v m i wr) (fun _ _ i _ => (l.length - intOf i).toNat)
    case atStart => exact ⟨0, [], Nat.zero_le _, rfl, by simp, rfl, by rw [more_nil]; rfl, OwnB.none w⟩
    case round =>
      obtain ⟨k, all, hk, hall, hal, rfl, rfl, hv⟩ := hrel
      obtain ⟨va, vc, rfl, hva, _, _⟩ := hv.byAt
      have HV := Lib.hid hv
      have HA := Lib.hid (And.intro hall hva)
      clear hv hall hva
      by_cases hlt : k < l.length
      · obtain ⟨bs, hx⟩ : ∃ bs, l[k]? = some bs := ⟨l[k], List.getElem?_eq_getElem hlt⟩
        have hbm := HX.out bs (List.mem_of_getElem? hx)
        cases a with
        | none => have := HB.out.1 rfl; subst this; simp at hlt
        | some ad =>
          obtain ⟨b, c, hc0, hbb⟩ := HB.out.2 ad rfl k bs hx
          have hadl := World.block_lt_of_cell? w _ hc0
          have hcell : ∀ X, Below w.heap.size w X → X.cell? (ad.add k) = some (.slice b bs.length c) := fun X hX => (World.cell?_of_block (hX.block _ hadl)).trans hc0
          have hc := hcell wr HV.out.2.1
          have hbw : ∀ X, Below w.heap.size w X → ByAt X b bs := fun X hX => hbb.below hX
          have HBB2 := Lib.hid hbw
          have HBB := Lib.hid (hbw wr HV.out.2.1)
          have HC := Lib.hid (And.intro hc hcell)
          have HP := Lib.hid (And.intro hx HA.out.1.symm)
          clear hc0 hbb hadl hcell hbw hx
          by_cases hb1 : 20000 < bs.length
          · have hb1' : (20000 : Int) < (bs.length : Int) := by omega
            go_wp2_with (go_at_call 7; refine (HW.out _).mono ?_; clear HW; rintro e w2 ⟨rfl, h2⟩; have H2 := Lib.hid (HV.out.2.1.trans (h2.mono HV.out.2.2)); clear h2)
            go_ret
            exact ⟨rfl, H2.out⟩
          · have hb1' : ¬ (20000 : Int) < (bs.length : Int) := by omega
            by_cases hb2 : 20000 - (bs.length : Int) < (all.length : Int)
            · go_wp2_with (go_at_call 7; refine (HW.out _).mono ?_; clear HW; rintro e w2 ⟨rfl, h2⟩; have H2 := Lib.hid (HV.out.2.1.trans (h2.mono HV.out.2.2)); clear h2)
              go_ret
              exact ⟨rfl, H2.out⟩
            · cases b with
              | none =>
                have HE := Lib.hid (HBB.out.1 rfl)
                go_wp2_with (first
                  | (at_builtin; (with_reducible refine wpList_none rfl (.tmp 34) (.tmp 38) 22 rfl w.heap.size i0 Try.underlying22 HI.out.1 (.slice va all.length vc) all.length (all.map cell) rfl w HV.out c bs HE.out rfl ?_); intro v' w2 ho; have HO := Lib.hid (piece_more ho); have hc2 := HC.out.2 w2 (HO.out.1.2.1); have HM := Lib.hid (more_any w2 (moreN 0 all) (moreN_lt _ _) _ c bs (HBB2.out w2 HO.out.1.2.1) (by omega)); clear ho)
                  | (go_at_call 10; refine HM.out.mono ?_; clear HM; rintro e w3 ⟨rfl, h1⟩; have H3 := Lib.hid (OwnS.more HO.out.1 h1); clear h1))
                refine ⟨⟨k + 1, all ++ bs, by omega, by rw [List.take_add_one, HP.out.1]; simp [HP.out.2], by rw [List.length_append]; omega, by congr 1, by rw [moreN_append _ _ _ (by decide)], ?_⟩, by simp [intOf]; omega⟩
                exact H3.out
              | some bd =>
                go_wp2_with (first
                  | (at_builtin; (with_reducible refine wpList_bytes rfl (.tmp 34) (.tmp 38) 22 rfl w.heap.size i0 Try.underlying22 HI.out.1 HI.out.2.1 HI.out.2.2.1 HI.out.2.2.2 (.slice va all.length vc) all.length (all.map cell) rfl w HV.out bd c bs rfl HBB.out.cells (by omega) ?_); intro v' w2 ho; have HO := Lib.hid (piece_more ho); have hc2 := HC.out.2 w2 (HO.out.1.2.1); have HM := Lib.hid (more_any w2 (moreN 0 all) (moreN_lt _ _) _ c bs (HBB2.out w2 HO.out.1.2.1) (by omega)); clear ho)
                  | (go_at_call 10; refine HM.out.mono ?_; clear HM; rintro e w3 ⟨rfl, h1⟩; have H3 := Lib.hid (OwnS.more HO.out.1 h1); clear h1))
                refine ⟨⟨k + 1, all ++ bs, by omega, by rw [List.take_add_one, HP.out.1]; simp [HP.out.2], by rw [List.length_append]; omega, by congr 1, by rw [moreN_append _ _ _ (by decide)], ?_⟩, by simp [intOf]; omega⟩
                exact H3.out
      · have hke : k = l.length := by omega
        subst hke
        have HS := Lib.hid (sum_any wr va vc all HA.out.2 (by omega))
        have heq : (moreN 0 all : Int) = (moreN 0 all : Int) := rfl
        clear hlt
        go_wp2_with (first
          | (go_at_call 8; refine HS.out.mono ?_; clear HS; rintro e w1 ⟨rfl, h1⟩; have K1 := Lib.hid (HV.out.2.1.trans (h1.mono HV.out.2.2)); clear h1)
          | (go_at_call 7; refine (HW.out _).mono ?_; clear HW; rintro e w5 ⟨rfl, h2⟩; have H2 := Lib.hid (K1.out.trans (h2.mono K1.out.size)); clear h2))
        go_ret
        exact ⟨rfl, H2.out⟩
end Go.Proofs.Ytpceledeeplhlaa
